/- Contract of Order. -/
import Derived.Test.YtmggfeacjndflaaQuG
import Derived.Test.YtmggfeacjndflaaHlA
import Derived.OwnWalk
import Derived.Laws.MakeOwn
namespace Go.Proofs.Ytmggfeacjndflaa.Qu
open Go.ChangeShapes Go.WideShapes Go.ChangeAt Go.RowKit
set_option linter.unusedVariables false

theorem IsQ.grown {w w' : World} {B q : Nat} {r row : Option Nat} {l : List Pt} (h : IsQ w B q r l) (hg : w.grownBy w' row) (h1 : some q ≠ row) (h2 : r = none ∨ r ≠ row) : IsQ w' B q r l := by
  obtain ⟨hs, v, a, hQ, rfl, hh, hp⟩ := h
  exact ⟨hs, v, a, ⟨hQ.blk.grown hg h1, hQ.own.kept hg h2, hQ.base⟩, rfl, hh, hp⟩

theorem own_own_ne {w : World} {B B' e e' size size' n n' : Nat} {v v' : Value} {xs xs' : List Value} (h : w.ownsRow B e size v n xs) (h' : w.ownsRow B' e' size' v' n' xs') (hne : e ≠ e') : v.ownBlock = none ∨ v.ownBlock ≠ v'.ownBlock := by
  rcases h.2 with ⟨rfl, _⟩ | ⟨g, cap, cur, rfl, _, hh, _⟩
  · exact .inl rfl
  · right
    rcases h'.2 with ⟨rfl, _⟩ | ⟨g', cap', cur', rfl, _, hh', _⟩
    · simp [Value.ownBlock]
    · rw [ownBlock_some, ownBlock_some]
      intro e
      injection e with e
      subst e
      rw [hh] at hh'
      injection hh' with hh'
      injection hh' with _ ht
      exact hne ht

/-- A row of numbers stays, whatever is done with a queue. -/
theorem IsQ.row {w w' : World} {B q e size n : Nat} {r : Option Nat} {l : List Pt} {v : Value} {xs : List Value} (h : IsQ w B q r l) (hm : Moved w w' q r) (hv : w.ownsRow B e size v n xs) (h1 : 52 ≠ e) (h2 : e ≠ 48) : w'.ownsRow B e size v n xs := by
  obtain ⟨hs, v2, a, hQ, rfl, hh, hp⟩ := h
  refine ⟨hv.1, ?_⟩
  have h3 := own_own_ne hv hQ.own (Ne.symm h1)
  have h4 := own_blk_ne hv hQ.blk h2
  rcases hv.2 with hn | ⟨g, cap, cur, rfl, hb, hg, rest⟩
  · exact .inl hn
  · rw [ownBlock_some] at h3 h4
    refine .inr ⟨g, cap, cur, rfl, hb, ?_, rest⟩
    rw [hm.block g (Array.getElem?_eq_some_iff.1 hg).1 (by intro e; subst e; exact h4 rfl) (by rcases h3 with h3 | h3; exact absurd h3 (by simp); exact h3)]
    exact hg

/-- And a queue stays, where a row of numbers has grown. -/
theorem IsQ.apart {w : World} {B B' q e size n : Nat} {r : Option Nat} {l : List Pt} {v : Value} {xs : List Value} (h : IsQ w B q r l) (hv : w.ownsRow B' e size v n xs) (h1 : 52 ≠ e) (h2 : e ≠ 48) : some q ≠ v.ownBlock ∧ (r = none ∨ r ≠ v.ownBlock) := by
  obtain ⟨hs, v2, a, hQ, rfl, hh, hp⟩ := h
  exact ⟨own_blk_ne hv hQ.blk h2, own_own_ne hQ.own hv h1⟩

theorem IsQ.toBelow {w w' : World} {B q : Nat} {r : Option Nat} {l : List Pt} (h : IsQ w B q r l) (hm : Moved w w' q r) : Below B w w' := by
  obtain ⟨hb, hq, hr⟩ := h.base
  exact hm.toBelow (by omega) hb (fun k hk => (hr k hk).1)

theorem info_int : (Try.prog.info? 3).map (fun i => (i.zero, i.size, i.bytes)) = some (some (.int .i64 0), 1, 8) := by kernel_rfl

def nums (l : List Pt) : List Value := l.map fun p => .int .i64 p.2

def Ordered (e : Ending) (w w' : World) (n : Nat) (f : Nat → Int) : Prop := ∃ A c, e = .returned (.slice A n c) ∧ w'.ownsRow w.heap.size 3 1 (.slice A n c) n (nums (ord f n)) ∧ Below w.heap.size w w'

/-- Where the second loop stands: done is told, l is left. -/
structure Telling (w wr : World) (B q n : Nat) (f : Nat → Int) (v : Value) (done l : List Pt) (r : Option Nat) : Prop where
  all : ord f n = done ++ l
  que : IsQ wr B q r l
  own : wr.ownsRow B 3 1 v done.length (nums done)
  below : Below B w wr

theorem Telling.step {w wr w1 w2 : World} {B q n g cap : Nat} {f : Nat → Int} {v : Value} {done l : List Pt} {x : Pt} {r : Option Nat} {o : Obj} (h : Telling w wr B q n f v done (x :: l) r) (hq : IsQ w1 B q r l) (hm : Moved wr w1 q r)
    (hown : w2.ownsRow B 3 1 (.slice (some ⟨g, 0, none⟩) (done.length + 1) cap) (done.length + 1) (nums done ++ [.int .i64 x.2])) (hgrow : (w1.alloc o).grownBy w2 v.ownBlock) : Telling w w2 B q n f (.slice (some ⟨g, 0, none⟩) (done.length + 1) cap) (done ++ [x]) l r := by
  have hv1 := h.que.row hm h.own (by omega) (by omega)
  obtain ⟨a1, a2⟩ := hq.apart hv1 (by omega) (by omega)
  have hB := h.que.base
  have hq1 : IsQ (w1.alloc o) B q r l := hq.below ((Below.refl _ _).alloc (Nat.le_refl _) _)
  refine ⟨by rw [h.all]; simp, hq1.grown hgrow a1 a2, ?_, ?_⟩
  · have e : nums (done ++ [x]) = nums done ++ [.int .i64 x.2] := by simp [nums]
    have e2 : (done ++ [x]).length = done.length + 1 := by simp
    rw [e, e2]; exact hown
  · refine ((h.below.trans (h.que.toBelow hm)).alloc ?_ o).grown hgrow ?_ ?_
    · have := hm.size; omega
    · have := hm.size; simp; omega
    · intro k hk; exact (hv1.lt k hk).1

set_option maxHeartbeats 1000000 in
theorem order_any (A : Option Addr) (n cap : Nat) (f : Nat → Int) (w : World) (ha : Hl.Ints w w.heap.size A n f) (hn : n ≤ 900000000) :
    Calls Try.prog 18 #[.slice A n cap] w fun e w' => Ordered e w w' n f := by
  obtain ⟨i0, hi0, hz0, hz1, hz2⟩ := info_parts info_int
  have n1 : (n : Int) ≤ 900000000 := by omega
  go_enter Try.func18, Try.ntmps18
  go_wp2_with fail
  refine (queue_new w.heap.size w (Nat.le_refl _)).mono ?_
  rintro e w1 ⟨rfl, hQ, hB, hS⟩
  have HS := Lib.hid hS
  clear hS
  go_wp2
  go_loopw [13] (fun s wr => ∃ (k : Nat) (r : Option Nat), s = .int .i64 k ∧ k ≤ n ∧ IsQ wr w.heap.size w.heap.size r (ord f k) ∧ Below w.heap.size w wr) (fun s _ => n - (intOf s).toNat)
  case atStart => exact ⟨0, none, rfl, by omega, hQ, hB⟩
  case round =>
    clear hQ hB
    obtain ⟨k, r, rfl, hk, hQ, hB⟩ := hrel
    by_cases hlt : k < n
    · obtain ⟨b, o, rfl, hbm, h1⟩ := ha k hlt
      have c1 : wr.cell? ⟨b, o + k, none⟩ = some (.int .i64 (f k)) := (hB.cell (p := ⟨b, o + k, none⟩) hbm).trans h1
      have k0 : (0 : Int) ≤ (k : Int) := by omega
      have k1 : (k : Int) < (n : Int) := by omega
      have HP := Lib.hid (push_any (f k, (k : Int)) w.heap.size w.heap.size r (ord f k) wr hQ (by rw [ord_length]; omega))
      have HQ := Lib.hid (And.intro hQ hB)
      have HA := Lib.hid ha
      clear ha h1 hQ hB
      go_wp2_with fail
      refine HP.out.mono ?_
      rintro e w2 ⟨rfl, r', hQ', hM, hF⟩
      have HQ2 := Lib.hid (And.intro hQ' hM)
      clear hQ' hM hF
      go_wp2
      go_roundw
      case rel => exact ⟨k + 1, r', by go_num, by omega, HQ2.out.1, HQ.out.2.trans (HQ.out.1.toBelow HQ2.out.2)⟩
      case measure => simp [intOf]; omega
    · obtain rfl : k = n := by omega
      have k1 : ¬ (k : Int) < (k : Int) := by omega
      have hmk : ∀ W : World, (Instr.makeSlice 37 (.int .i64 0) (.int .i64 (k : Int))).run Try.prog W = .ok (.slice (some ⟨W.heap.size, 0, none⟩) 0 k) (W.alloc (.cells (madeCells #[.int .i64 0] k) 3)) := fun W => by
        have hr := run_make (P := Try.prog) W 37 3 i0 _ Try.underlying37 hi0 hz0 .i64 .i64 0 k (by omega) (by omega) (by rw [hz2]; omega) (by omega)
        rw [hz1, Nat.mul_one] at hr
        simp only [Int.toNat_natCast] at hr
        exact hr
      have hT : ∀ v, (wr.alloc (.cells (madeCells #[.int .i64 0] k) 3)).ownsRow w.heap.size 3 1 v 0 [] → Telling w (wr.alloc (.cells (madeCells #[.int .i64 0] k) 3)) w.heap.size w.heap.size k f v [] (ord f k) r := fun v hv => ⟨rfl, hQ.below ((Below.refl _ _).alloc (Nat.le_refl _) _), hv, hB.alloc hB.size _⟩
      have hT0 := hT (.slice (some ⟨wr.heap.size, 0, none⟩) 0 k) (World.ownsRow_made wr _ k hB.size (by unfold maxLen; omega) (by simp [size_madeCells]))
      have HT := Lib.hid hT0
      have HA := Lib.hid ha
      clear hT hT0 hQ hB ha
      go_wp2_with fail
      go_loopg [6] k (fun kx s6 wx => ∃ v done l, s6 = v ∧ l.length ≤ kx ∧ Telling w wx w.heap.size w.heap.size k f v done l r)
      case atStart => exact ⟨_, [], ord f k, rfl, by rw [ord_length]; omega, HT.out⟩
      case round =>
        obtain ⟨v, done, l, hv6, hl, hT⟩ := hrel
        subst hv6
        clear HT
        have hall := congrArg List.length hT.all
        rw [ord_length, List.length_append] at hall
        cases l with
        | nil =>
          have hnd : done.length = k := by simpa using hall.symm
          have HL := Lib.hid (qlen_any w.heap.size w.heap.size r [] wr hT.que)
          have hF : ∃ A c, u6 = .slice A k c ∧ wr.ownsRow w.heap.size 3 1 (.slice A k c) k (nums (ord f k)) := by
            obtain ⟨A, c, hv⟩ := own_value hT.own
            have hd : ord f k = done := by rw [hT.all]; simp
            refine ⟨A, c, by rw [hv, hnd], ?_⟩
            rw [hd]
            have := hT.own
            rw [hv, hnd] at this
            exact this
          obtain ⟨A', c', rfl, hown⟩ := hF
          have HF : Hid (Ordered (.returned (.slice A' k c')) w wr k f) := Lib.hid ⟨A', c', rfl, hown, hT.below⟩
          clear hT hall hnd hown hl
          go_wp2_with fail
          refine HL.out.mono ?_
          rintro e w2 ⟨rfl, rfl⟩
          go_wp2
          go_ret
          exact HF.out
        | cons x l =>
          have HL := Lib.hid (qlen_any w.heap.size w.heap.size r (x :: l) wr hT.que)
          have HP := Lib.hid (pop_some w.heap.size w.heap.size r x l wr hT.que (by simp at hall; omega))
          have l1 : (0 : Int) < (l.length : Int) + 1 := by omega
          have hdl : done.length ≤ 900000000 := by omega
          have HT := Lib.hid hT
          have HL2 := Lib.hid (show l.length < gk by simp at hl; omega)
          clear hT hall hl
          go_wp2_with fail
          refine HL.out.mono ?_
          rintro e w2 ⟨rfl, rfl⟩
          go_wp2_with fail
          refine HP.out.mono ?_
          rintro e w3 ⟨rfl, hq, hm⟩
          have hv1 := HT.out.que.row hm HT.out.own (by omega) (by omega)
          have hbz : w.heap.size ≤ w3.heap.size := by have := HT.out.below.size; have := hm.size; omega
          have HQ := Lib.hid (And.intro hq hm)
          clear hq hm
          go_wp2_with ((at_builtin; refine wpList_append_lies _ rfl _ _ 37 rfl w.heap.size 3 i0 _ 1 8 Try.underlying37 hi0 hz0 hz1 hz2 rfl (by omega) u6 done.length (nums done) rfl (hv1.alloc _) ⟨w3.heap.size, 0, none⟩ 1 1 [.int .i64 x.2] rfl rfl (World.news_of_block (cs := #[.int .i64 x.2]) (t := 3) (fr := (0, 0)) (heap_alloc_new w3 _)) (by simp [Value.oneCell']) (by omega) (by unfold maxLen; omega) (by omega) (by simp; omega) (w3.heap.size + 1) (by simp) ?_; intro g cp w4 hown hgrow hat hlt))
          have HT4 := Lib.hid (HT.out.step HQ.out.1 HQ.out.2 hown hgrow)
          clear hown hgrow hat hlt
          go_roundg l.length
          case measure => exact HL2.out
          case rel => exact ⟨_, done ++ [x], l, rfl, Nat.le_refl _, HT4.out⟩

end Go.Proofs.Ytmggfeacjndflaa.Qu
