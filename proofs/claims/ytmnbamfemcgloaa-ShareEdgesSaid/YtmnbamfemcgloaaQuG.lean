/- Contracts of package queue: a queue is a sorted list. -/
import Derived.Test.YtmnbamfemcgloaaQuF
namespace Go.Proofs.Ytmnbamfemcgloaa.Qu
open Go.ChangeShapes Go.WideShapes Go.ChangeAt Go.RowKit
set_option linter.unusedVariables false
set_option maxRecDepth 100000

/-- A queue at block q, its row at r, in which l waits, who is ahead first. -/
structure IsQ (w : World) (B q : Nat) (r : Option Nat) (l : List Pt) : Prop where
  sorted : Sorted l
  ex : ∃ v a, QAt w B q v a ∧ v.ownBlock = r ∧ Heap a a.size ∧ a.toList.Perm l

theorem IsQ.below {w w' : World} {B q : Nat} {r : Option Nat} {l : List Pt} (h : IsQ w B q r l) (hb : Below w.heap.size w w') : IsQ w' B q r l := by
  obtain ⟨hs, v, a, hQ, hr, hh, hp⟩ := h
  exact ⟨hs, v, a, ⟨hQ.blk.below hb, row_below hQ.own hb, hQ.base⟩, hr, hh, hp⟩

theorem IsQ.base {w : World} {B q : Nat} {r : Option Nat} {l : List Pt} (h : IsQ w B q r l) : B ≤ q ∧ q < w.heap.size ∧ (∀ k, r = some k → B ≤ k ∧ k < w.heap.size) := by
  obtain ⟨hs, v, a, hQ, hr, hh, hp⟩ := h
  refine ⟨hQ.base, hQ.blk.lt, fun k hk => hQ.own.lt k (hr.trans hk)⟩

/-- What is done with another queue. -/
theorem IsQ.far {w w' : World} {B q q2 : Nat} {r r2 : Option Nat} {l l2 : List Pt} (h : IsQ w B q r l) (k : IsQ w B q2 r2 l2) (hm : Moved w w' q2 r2) (hq : q ≠ q2) (hr : r = none ∨ r ≠ r2) : IsQ w' B q r l := by
  obtain ⟨hs, v, a, hQ, rfl, hh, hp⟩ := h
  obtain ⟨_, v2, a2, hQ2, rfl, _, _⟩ := k
  have h1 := own_blk_ne hQ2.own hQ.blk (by omega)
  have h2 := own_blk_ne hQ.own hQ2.blk (by omega)
  refine ⟨hs, v, a, ⟨hQ.blk.as (hm.block q hQ.blk.lt hq h1), ?_, hQ.base⟩, rfl, hh, hp⟩
  refine ⟨hQ.own.1, ?_⟩
  rcases hQ.own.2 with hn | ⟨g, cap, cur, rfl, hb, hg, rest⟩
  · exact .inl hn
  · rw [ownBlock_some] at hr h2
    refine .inr ⟨g, cap, cur, rfl, hb, ?_, rest⟩
    rw [hm.block g (Array.getElem?_eq_some_iff.1 hg).1 (by intro e; subst e; exact h2 rfl) (by rcases hr with hr | hr; exact absurd hr (by simp); exact hr)]
    exact hg

/-- A block of another kind stays. -/
theorem IsQ.blk {w w' : World} {B q g t : Nat} {r : Option Nat} {l : List Pt} {cs : Array Value} (h : IsQ w B q r l) (hm : Moved w w' q r) (hg : Blk w g t cs) (h1 : 81 ≠ t) (h2 : t ≠ 74) : Blk w' g t cs := by
  obtain ⟨hs, v, a, hQ, rfl, hh, hp⟩ := h
  have h3 := own_blk_ne hQ.own hg h1
  refine hg.as (hm.block g hg.lt ?_ h3)
  rintro rfl
  have h4 := hQ.blk.here
  rw [hg.here] at h4
  injection h4 with h4
  injection h4 with _ h4
  exact h2 h4

theorem queue_new (B : Nat) (w : World) (hB : B ≤ w.heap.size) : Calls Try.prog 37 #[] w fun e w' => e = .returned (.pointer (some ⟨w.heap.size, 0, none⟩)) ∧ IsQ w' B w.heap.size none [] ∧ Below w.heap.size w w' ∧ w'.heap.size = w.heap.size + 1 := by
  have HF : Hid (IsQ (w.alloc (.cells #[.slice none 0 0] 74)) B w.heap.size none [] ∧ Below w.heap.size w (w.alloc (.cells #[.slice none 0 0] 74)) ∧ (w.alloc (.cells #[.slice none 0 0] 74)).heap.size = w.heap.size + 1) := Lib.hid
    ⟨⟨List.Pairwise.nil, .slice none 0 0, #[], ⟨Blk.new _ _ _, World.ownsRow_nil _ _ _ _, hB⟩, rfl, (fun i h0 hi => by simp at hi), List.Perm.refl _⟩, (Below.refl _ _).alloc (Nat.le_refl _) _, by simp⟩
  clear hB
  go_enter Try.func37, Try.ntmps37
  go_wp2
  go_ret
  exact ⟨rfl, HF.out⟩

theorem push_nil (x y : Int) (w : World) : Calls Try.prog 39 #[.pointer none, .int .i64 x, .int .i64 y] w fun e w' => e = .returned (.tuple #[]) ∧ w = w' := by
  go_enter Try.func39, Try.ntmps39
  go_wp2
  refine bodyPost_ret (results_none rfl _ _ _) rfl ?_
  exact ⟨rfl, rfl⟩

def QPushed (w w' : World) (B q : Nat) (r : Option Nat) (x : Pt) (l : List Pt) : Prop := ∃ r', IsQ w' B q r' (ins x l) ∧ Moved w w' q r ∧ Fresh w r r'

theorem push_any (x : Pt) (B q : Nat) (r : Option Nat) (l : List Pt) (w : World) (h : IsQ w B q r l) (hn : l.length ≤ 999999999) :
    Calls Try.prog 39 #[.pointer (some ⟨q, 0, none⟩), .int .i64 x.1, .int .i64 x.2] w fun e w' => e = .returned (.tuple #[]) ∧ QPushed w w' B q r x l := by
  obtain ⟨hs, v, a, hQ, rfl, hh, hp⟩ := h
  have hl : a.size = l.length := by simpa using hp.length_eq
  have HP := Lib.hid (heappush_any v q a x B w hQ hh (by omega))
  have HS := Lib.hid (And.intro hs hp)
  clear hs hQ hh hp hl hn
  go_enter Try.func39, Try.ntmps39
  go_wp2_with fail
  refine HP.out.mono ?_
  rintro e w1 ⟨rfl, v', b, hQ, hM, hF, hH, hb⟩
  have HF : Hid (QPushed w w1 B q v.ownBlock x l) := Lib.hid ⟨_, ⟨ins_sorted x l HS.out.1, v', b, hQ, rfl, hH, hb.trans ((HS.out.2.cons x).trans (ins_perm x l).symm)⟩, hM, hF⟩
  clear hQ hM hF hH hb
  go_wp2
  go_end0
  exact ⟨rfl, HF.out⟩

theorem len_nil (w : World) : Calls Try.prog 49 #[.pointer none] w fun e w' => e = .returned (.int .i64 0) ∧ w = w' := by
  go_enter Try.func49, Try.ntmps49
  go_wp2
  go_ret
  exact ⟨rfl, rfl⟩

theorem own_value {w : World} {B E size n : Nat} {v : Value} {xs : List Value} (h : w.ownsRow B E size v n xs) : ∃ A cap, v = .slice A n cap := by
  rcases h.2 with ⟨rfl, rfl⟩ | ⟨g, cap, cur, rfl, _⟩
  · exact ⟨_, _, rfl⟩
  · exact ⟨_, _, rfl⟩

theorem qlen_any (B q : Nat) (r : Option Nat) (l : List Pt) (w : World) (h : IsQ w B q r l) :
    Calls Try.prog 49 #[.pointer (some ⟨q, 0, none⟩)] w fun e w' => e = .returned (.int .i64 l.length) ∧ w = w' := by
  obtain ⟨hs, v, a, hQ, rfl, hh, hp⟩ := h
  have hl : a.size = l.length := by simpa using hp.length_eq
  have hc := hQ.cell
  obtain ⟨A, cap, hv⟩ := own_value hQ.own
  rw [hv] at hc
  rw [hl] at hc
  clear hs hQ hh hp hl hv
  go_enter Try.func49, Try.ntmps49
  go_wp2
  go_ret
  exact ⟨rfl, rfl⟩

theorem pop_nil (w : World) : Calls Try.prog 40 #[.pointer none] w fun e w' => e = .returned (.tuple #[.int .i64 0, .int .i64 0, .bool false]) ∧ w = w' := by
  go_enter Try.func40, Try.ntmps40
  go_wp2_with (go_at_call 49; refine (len_nil _).mono ?_; rintro e w' ⟨rfl, rfl⟩)
  go_ret3
  exact ⟨rfl, rfl⟩

theorem pop_empty (B q : Nat) (r : Option Nat) (w : World) (h : IsQ w B q r []) : Calls Try.prog 40 #[.pointer (some ⟨q, 0, none⟩)] w fun e w' => e = .returned (.tuple #[.int .i64 0, .int .i64 0, .bool false]) ∧ w = w' := by
  have HL := Lib.hid (qlen_any B q r [] w h)
  clear h
  go_enter Try.func40, Try.ntmps40
  go_wp2_with fail
  refine HL.out.mono ?_
  rintro e w' ⟨rfl, rfl⟩
  go_wp2
  go_ret3
  exact ⟨rfl, rfl⟩

def QPopped (w w' : World) (B q : Nat) (r : Option Nat) (l : List Pt) : Prop := IsQ w' B q r l ∧ Moved w w' q r

theorem pop_some (B q : Nat) (r : Option Nat) (x : Pt) (l : List Pt) (w : World) (h : IsQ w B q r (x :: l)) (hn : l.length ≤ 999999999) :
    Calls Try.prog 40 #[.pointer (some ⟨q, 0, none⟩)] w fun e w' => e = .returned (.tuple #[.int .i64 x.1, .int .i64 x.2, .bool true]) ∧ QPopped w w' B q r l := by
  have HL := Lib.hid (qlen_any B q r (x :: l) w h)
  obtain ⟨hs, v, a, hQ, rfl, hh, hp⟩ := h
  have hl : a.size = l.length + 1 := by simpa using hp.length_eq
  have h0 := head_of_top hs hh hp
  have HP := Lib.hid (heappop_any v q l.length a B w hQ hh hl hn)
  rw [h0] at HP
  have l0 : ((((l.length : Int) + 1) == 0)) = false := beq_eq_false_iff_ne.2 (by omega)
  have has := fun W => assert_one x.1 x.2 W
  have HS := Lib.hid (And.intro hs (And.intro hh (And.intro hp hl)))
  clear hs hQ hh hp hl hn h0
  go_enter Try.func40, Try.ntmps40
  go_wp2_with fail
  refine HL.out.mono ?_
  rintro e w' ⟨rfl, rfl⟩
  go_wp2_with fail
  refine HP.out.mono ?_
  rintro e w1 ⟨rfl, v', b, hQ, hM, hv, hH, hb, hbs, hE⟩
  have HF : Hid (QPopped w w1 B q v.ownBlock l) := Lib.hid (by
    obtain ⟨hs, hh, hp, hl⟩ := HS.out
    exact ⟨⟨(List.pairwise_cons.1 hs).2, v', b.pop, hQ, hv, hH, left_perm hs hh hp hb l.length (by omega) (by rw [← hE, hl]; rfl)⟩, hM⟩)
  clear hQ hM hv hH hb hbs hE
  go_wp2_with fail
  go_quiet (fail)
  go_wp2
  go_ret3
  refine ⟨rfl, ?_, ?_⟩
  · exact HF.out.1.below (below_draws ((Below.refl _ _).alloc (Nat.le_refl _) _) _)
  · exact HF.out.2.below (below_draws ((Below.refl _ _).alloc (Nat.le_refl _) _) _)

end Go.Proofs.Ytmnbamfemcgloaa.Qu
