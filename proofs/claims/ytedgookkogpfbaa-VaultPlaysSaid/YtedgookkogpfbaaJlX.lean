/- The landed journal in memory; its Need. · The landed journal: New; what it tells: Records, First, Used, the next number; a nil one. · The landed journal: the closure that takes leaf behind leaf. · A record that is read whole, and then held against the epoch ahead of it, is the record that is read leaf by leaf against it. -/
import Derived.Test.YtedgookkogpfbaaJrD
import Derived.Test.YtedgookkogpfbaaDd
import Derived.Laws.MakeOwn
import Derived.Laws.OwnMore
import Derived.Test.YtedgookkogpfbaaLfY
import Derived.Test.YtedgookkogpfbaaJrX
set_option maxRecDepth 100000

section
namespace Go.Proofs.Ytedgookkogpfbaa.Jl
open Go.ChangeShapes Go.WideShapes Go.ChangeAt Go.RowKit
open Qu (Blk)
open Mv (Only)
open By (Own8 Bys cellsB cellsB_length)
open Dk (DS)
open Dd (Lay At Tidy)
open Jr (JS Recd JHas needN need_le own_own_ne ownBlock_any blk_blk_ne newE blankJ openJ stopE addE addDS addJ)
set_option linter.unusedVariables false

theorem need_any (k : Int) (w : World) (hk : k ≤ 9223372036854775807) :
    Calls Try.prog 69 #[.int .i64 k] w fun e w' => e = .returned (.int .i64 ((needN k.toNat : Nat) : Int)) ∧ w' = w := by
  by_cases h : k < 1
  · have HE : Hid (((needN k.toNat : Nat) : Int) = 0) := Lib.hid (by rw [show k.toNat = 0 by omega]; rfl)
    go_enter Try.func69, Try.ntmps69
    go_wp2
    go_ret
    exact ⟨by rw [HE.out]; rfl, rfl⟩
  · obtain ⟨q, hq⟩ : ∃ q, (k - 1).tdiv 46 = q := ⟨_, rfl⟩
    have hq2 : q = (k - 1) / 46 := by rw [← hq]; exact Int.tdiv_eq_ediv_of_nonneg (by omega)
    have HE : Hid (((needN k.toNat : Nat) : Int) = q + 1) := Lib.hid (by
      unfold needN
      rw [if_neg (by omega)]
      omega)
    have q0 : 0 ≤ q := by omega
    have q1 : q ≤ 9223372036854775806 := by omega
    clear hq2
    go_enter Try.func69, Try.ntmps69
    go_wp2
    go_ret
    exact ⟨by rw [HE.out]; rfl, rfl⟩

/-- The landed journal j, its box at x, its disk's box at y. -/
structure JAt (w : World) (B x y : Nat) (A : Option Addr) (c : Nat) (vs : List Value) (j : JS) : Prop where
  base : B ≤ x
  box : Blk w x 99 #[.pointer (some ⟨y, 0, none⟩), .int .i64 (j.o : Int), .int .i64 (j.n : Int), .int .u32 (j.epoch : Int), .slice A j.l.length c, .int .u32 (j.begun : Int), .int .i64 (j.used : Int), .bool j.dead]
  rows : Recd w B A j.l.length c vs j.l

section
variable {w w' : World} {B x y c : Nat} {A : Option Addr} {vs : List Value} {j : JS} {S : Nat → Prop}
theorem JAt.only (h : JAt w B x y A c vs j) (k : Only w w' S) (hs : ∀ i, B ≤ i → ¬ S i) : JAt w' B x y A c vs j :=
  ⟨h.base, Mv.blk_only h.box k (hs x h.base), h.rows.only k hs⟩

theorem JAt.below (h : JAt w B x y A c vs j) (hb : Below w.heap.size w w') : JAt w' B x y A c vs j :=
  h.only (Mv.Only.ofBelow hb fun _ => False) fun _ _ h => h
end

/-- A record more: what the append, and the two stores behind it, make of a journal. -/
theorem JAt.push {w2 w3 : World} {B x y o n epoch begun used used' c c3 : Nat} {dead : Bool} {l : List (List UInt8)} {b : List UInt8} {A A3 : Option Addr} {vs : List Value} {v : Value} {ob : Obj} (hbase : B ≤ x)
    (hb : Blk w2 x 99 #[.pointer (some ⟨y, 0, none⟩), .int .i64 (o : Int), .int .i64 (n : Int), .int .u32 (epoch : Int), .slice A l.length c, .int .u32 (begun : Int), .int .i64 (used : Int), .bool dead])
    (hr : Recd w2 B A l.length c vs l) (hv : Own8 w2 B v b)
    (own3 : w3.ownsRow B 37 1 (.slice A3 (l.length + 1) c3) (l.length + 1) (vs ++ [v])) (grow : (w2.alloc ob).grownBy w3 (Value.slice A l.length c).ownBlock) :
    JAt ((w3.setCell ⟨x, 4, none⟩ (.slice A3 (l.length + 1) c3)).setCell ⟨x, 6, none⟩ (.int .i64 (used' : Int))) B x y A3 c3 (vs ++ [v]) ⟨o, n, epoch, l ++ [b], begun, used', dead⟩ ∧
    Only w2 ((w3.setCell ⟨x, 4, none⟩ (.slice A3 (l.length + 1) c3)).setCell ⟨x, 6, none⟩ (.int .i64 (used' : Int))) (JHas x A) := by
  have hl : vs.length = l.length := by have := hr.own.1; omega
  have hx := hb.lt
  have ho1 : Only w2 (w2.alloc ob) (fun _ => False) := (Mv.Only.refl w2 _).alloc ob
  have hb1 : Blk (w2.alloc ob) x 99 _ := hb.alloc ob
  have hA1 := Qu.row_below hr.own ((Below.refl w2.heap.size w2).alloc (Nat.le_refl _) ob)
  have hne := Mv.own_blk_ne hA1 hb1 (by decide)
  have hb3 := hb1.grown grow (fun e => hne x e.symm rfl)
  have ho3 : Only w2 w3 (JHas x A) := (ho1.mono (fun _ _ h => h.elim)).trans (Mv.Only.ofGrown (S := JHas x A) grow (fun k hk => .inr (by rw [← hk]; exact ownBlock_any _ _ _ _ _))) (fun _ _ h => h)
  have hx3 := hb3.lt
  have ho4 : Only w2 ((w3.setCell ⟨x, 4, none⟩ (.slice A3 (l.length + 1) c3)).setCell ⟨x, 6, none⟩ (.int .i64 (used' : Int))) (JHas x A) := (ho3.put _ (fun _ => .inl rfl)).put _ (fun _ => .inl rfl)
  have hb5 := (hb3.put 4 (.slice A3 (l.length + 1) c3)).put 6 (.int .i64 (used' : Int))
  have hp : Only w3 ((w3.setCell ⟨x, 4, none⟩ (.slice A3 (l.length + 1) c3)).setCell ⟨x, 6, none⟩ (.int .i64 (used' : Int))) (Mv.one x) := ((Mv.Only.refl w3 (Mv.one x)).put _ (fun _ => rfl)).put _ (fun _ => rfl)
  have keep8 : ∀ (u : Value) (z : List UInt8), Own8 w2 B u z → Own8 ((w3.setCell ⟨x, 4, none⟩ (.slice A3 (l.length + 1) c3)).setCell ⟨x, 6, none⟩ (.int .i64 (used' : Int))) B u z := fun u z hu => by
    refine Mv.own_only hu ho4 fun g hg hs => ?_
    rcases hs with rfl | hs
    · exact Mv.own_blk_ne hu hb (by decide) g hg rfl
    · exact own_own_ne hu hr.own (by decide) g hg (by rw [← hs]; exact ownBlock_any _ _ _ _ _)
  refine ⟨⟨hbase, ?_, ?_, ?_, ?_⟩, ho4⟩
  · show Blk _ x _ #[.pointer (some ⟨y, 0, none⟩), .int .i64 (o : Int), .int .i64 (n : Int), .int .u32 (epoch : Int), .slice A3 (l ++ [b]).length c3, .int .u32 (begun : Int), .int .i64 (used' : Int), .bool dead]
    rw [show (l ++ [b]).length = l.length + 1 by simp]
    exact hb5
  · show World.ownsRow _ B _ 1 (.slice A3 (l ++ [b]).length c3) (l ++ [b]).length (vs ++ [v])
    rw [show (l ++ [b]).length = l.length + 1 by simp]
    exact Mv.own_only own3 hp fun g hg hs => Mv.own_blk_ne own3 hb3 (by decide) g hg hs
  · show (l ++ [b]).length = (l ++ [b]).length
    rfl
  · intro i u hu
    rcases Nat.lt_or_ge i l.length with hi | hi
    · rw [List.getElem?_append_left (by omega)] at hu
      obtain ⟨z, z1, z2⟩ := hr.each i u hu
      exact ⟨z, by show (l ++ [b])[i]? = _; rw [List.getElem?_append_left hi]; exact z1, keep8 u z z2⟩
    · rw [List.getElem?_append_right (by omega), hl] at hu
      rcases Nat.eq_zero_or_pos (i - l.length) with h0 | h0
      · rw [h0] at hu
        injection hu with hu
        subst hu
        refine ⟨b, ?_, keep8 v b hv⟩
        show (l ++ [b])[i]? = _
        rw [List.getElem?_append_right hi, h0]
        rfl
      · rw [List.getElem?_eq_none (by simp; omega)] at hu
        cases hu

/-- A journal's blocks are none of a disk's. -/
theorem JAt.apart {w : World} {B B' x y c : Nat} {A : Option Addr} {vs : List Value} {j : JS} {p : Dd.Pl} {d : DS} (hJ : JAt w B x y A c vs j) (hD : Lay w B' p d) : ∀ i, p.has i → ¬ JHas x A i := fun i hi hj => by
  have hb := hJ.box
  have hr := hJ.rows.own
  rcases hj with rfl | hj
  · rcases hi with hi | hi | hi | hi
    · exact blk_blk_ne hb hD.box (by decide) hi
    · exact Mv.own_blk_ne hD.now.2 hb (by decide) p.a rfl hi.symm
    · exact Mv.own_blk_ne hD.sure.2 hb (by decide) p.b rfl hi.symm
    · exact Mv.own_blk_ne hD.loose hb (by decide) p.c rfl hi.symm
  · have hj2 : (Value.slice A j.l.length c).ownBlock = some i := by rw [← hj]; exact ownBlock_any _ _ _ _ _
    rcases hi with hi | hi | hi | hi
    · exact Mv.own_blk_ne hr hD.box (by decide) i hj2 hi
    · exact own_own_ne hr hD.now.2 (by decide) i hj2 (by rw [hi]; rfl)
    · exact own_own_ne hr hD.sure.2 (by decide) i hj2 (by rw [hi]; rfl)
    · exact own_own_ne hr hD.loose (by decide) i hj2 (by rw [hi]; rfl)

/-- An Add told that power is off. -/
theorem JAt.die {w : World} {B x y c : Nat} {A : Option Addr} {vs : List Value} {j : JS} (hJ : JAt w B x y A c vs j) : JAt (w.setCell ⟨x, 7, none⟩ (.bool true)) B x y A c vs { j with dead := true } ∧ Only w (w.setCell ⟨x, 7, none⟩ (.bool true)) (JHas x A) :=
  ⟨⟨hJ.base, hJ.box.put 7 (.bool true), hJ.rows.put hJ.box (by decide) (by decide)⟩, (Mv.Only.refl w _).put _ (fun _ => .inl rfl)⟩

/-- What a disk turns is none of it: a disk's blocks are of other types. -/
theorem JAt.disk {w w' : World} {B B' x y c : Nat} {A : Option Addr} {vs : List Value} {j : JS} {p : Dd.Pl} {d : DS} (hJ : JAt w B x y A c vs j) (hD : Lay w B' p d) (ho : Only w w' p.has) : JAt w' B x y A c vs j := by
  have hap : ∀ i, p.has i → i ≠ x ∧ (Value.slice A j.l.length c).ownBlock ≠ some i := fun i hi => by
    have hb := hJ.box
    have hr := hJ.rows.own
    rcases hi with hi | hi | hi | hi <;> subst hi
    · exact ⟨fun e => blk_blk_ne hb hD.box (by decide) e.symm, fun e => Mv.own_blk_ne hr hD.box (by decide) _ e rfl⟩
    · exact ⟨fun e => Mv.own_blk_ne hD.now.2 hb (by decide) p.a rfl e, fun e => own_own_ne hr hD.now.2 (by decide) _ e rfl⟩
    · exact ⟨fun e => Mv.own_blk_ne hD.sure.2 hb (by decide) p.b rfl e, fun e => own_own_ne hr hD.sure.2 (by decide) _ e rfl⟩
    · exact ⟨fun e => Mv.own_blk_ne hD.loose hb (by decide) p.c rfl e, fun e => own_own_ne hr hD.loose (by decide) _ e rfl⟩
  refine ⟨hJ.base, Mv.blk_only hJ.box ho fun h => (hap x h).1 rfl, Mv.own_only hJ.rows.own ho fun g hg hs => (hap g hs).2 hg, hJ.rows.len, fun i v hv => ?_⟩
  obtain ⟨z, z1, z2⟩ := hJ.rows.each i v hv
  refine ⟨z, z1, Mv.own_only z2 ho fun g hg hs => ?_⟩
  rcases hs with hs | hs | hs | hs <;> subst hs
  · exact Mv.own_blk_ne z2 hD.box (by decide) _ hg rfl
  · exact own_own_ne z2 hD.now.2 (by decide) _ hg rfl
  · exact own_own_ne z2 hD.sure.2 (by decide) _ hg rfl
  · exact own_own_ne z2 hD.loose (by decide) _ hg rfl

end Go.Proofs.Ytedgookkogpfbaa.Jl
end

section
namespace Go.Proofs.Ytedgookkogpfbaa.Jl
open Go.ChangeShapes Go.WideShapes Go.ChangeAt Go.RowKit
open Qu (Blk)
open Mv (Only)
open By (Own8 Bys cellsB cellsB_length)
open Dk (DS)
open Dd (Lay At Tidy)
open Jr (JS Recd JHas needN need_le own_own_ne ownBlock_any blk_blk_ne newE blankJ openJ stopE addE addDS addJ)
set_option linter.unusedVariables false

/-! ### New -/
theorem new_nil (o n : Int) (e : Nat) (w : World) :
    Calls Try.prog 61 #[.pointer none, .int .i64 o, .int .i64 n, .int .u32 (e : Int)] w fun r w' => r = .returned (.tuple #[.pointer none, .int .i64 1]) ∧ w' = w := by
  go_enter Try.func61, Try.ntmps61
  go_wp2
  go_ret2
  exact ⟨rfl, rfl⟩

theorem new_bad (w : World) (B : Nat) (q : Dd.Pl) (d : DS) (o n : Int) (e : Nat) (h : Lay w B q d) (hn : d.n ≤ 1000000) (ho1 : -9223372036854775808 ≤ o) (ho : o ≤ 9223372036854775807) (hn1 : -9223372036854775808 ≤ n) (hn2 : n ≤ 9223372036854775807) (he : e < 2 ^ 32) (hE : newE d o n e ≠ 0) :
    Calls Try.prog 61 #[.pointer (some ⟨q.x, 0, none⟩), .int .i64 o, .int .i64 n, .int .u32 (e : Int)] w fun r w' => r = .returned (.tuple #[.pointer none, .int .i64 (newE d o n e)]) ∧ w' = w := by
  have c1 := h.box.cell 1
  have c3 := h.box.cell 3
  simp at c1 c3
  have HL := Lib.hid (Dd.len_eq w q.x _ d.n _ c1 hn)
  have n1 : (d.n : Int) ≤ 1000000 := by omega
  have n2 : (0 : Int) ≤ (d.n : Int) := by omega
  have e0 : (0 : Int) ≤ (e : Int) := by omega
  by_cases k1 : o < 0
  · have HE : Hid (newE d o n e = 2) := Lib.hid (by unfold newE; rw [if_pos (.inl k1)])
    clear h
    go_enter Try.func61, Try.ntmps61
    go_wp2_with fail
    go_ret2
    exact ⟨by rw [HE.out]; rfl, rfl⟩
  by_cases k2 : n < 1
  · have HE : Hid (newE d o n e = 2) := Lib.hid (by unfold newE; rw [if_pos (.inr (.inl k2))])
    clear h
    go_enter Try.func61, Try.ntmps61
    go_wp2_with fail
    go_ret2
    exact ⟨by rw [HE.out]; rfl, rfl⟩
  have w1 : IntKind.i64.wrap ((d.n : Int) - n) = (d.n : Int) - n := IntWalk.i64_in _ (by omega)
  by_cases k3 : (d.n : Int) - n < o
  · have HE : Hid (newE d o n e = 2) := Lib.hid (by unfold newE; rw [if_pos (.inr (.inr (.inr (.inl (by omega)))))])
    clear h hE
    go_enter Try.func61, Try.ntmps61
    go_wp2_with (first | (refine HL.out.mono ?_; rintro e w2 ⟨rfl, rfl⟩))
    go_ret2
    exact ⟨by rw [HE.out]; rfl, rfl⟩
  by_cases k5 : e = 0
  · have HE : Hid (newE d o n e = 2) := Lib.hid (by unfold newE; rw [if_pos (.inr (.inr (.inr (.inr k5))))])
    clear h hE
    subst k5
    go_enter Try.func61, Try.ntmps61
    go_wp2_with (first | (refine HL.out.mono ?_; rintro e w2 ⟨rfl, rfl⟩))
    go_ret2
    exact ⟨by rw [HE.out]; rfl, rfl⟩
  have hoff : d.off = true := by
    unfold newE at hE
    rw [if_neg (by omega)] at hE
    cases hd : d.off with
    | true => rfl
    | false => rw [hd] at hE; exact absurd rfl hE
  have HE : Hid (newE d o n e = 9) := Lib.hid (by unfold newE; rw [if_neg (by omega), hoff]; rfl)
  rw [hoff] at c3
  have HDn := Lib.hid (Dd.down_eq w q.x true c3)
  have k6 : ((e : Int) == 0) = false := beq_eq_false_iff_ne.2 (by omega)
  clear hE h hoff
  go_enter Try.func61, Try.ntmps61
  go_wp2_with (first | (refine HL.out.mono ?_; rintro e w2 ⟨rfl, rfl⟩) | (refine HDn.out.mono ?_; rintro e w2 ⟨rfl, rfl⟩))
  go_ret2
  exact ⟨by rw [HE.out]; rfl, rfl⟩

theorem new_ok (w : World) (B : Nat) (q : Dd.Pl) (d : DS) (o n e : Nat) (h : Lay w B q d) (hn : d.n ≤ 1000000) (he : e < 2 ^ 32) (hE : newE d o n e = 0) :
    Calls Try.prog 61 #[.pointer (some ⟨q.x, 0, none⟩), .int .i64 (o : Int), .int .i64 (n : Int), .int .u32 (e : Int)] w fun r w' => ∃ x, r = .returned (.tuple #[.pointer (some ⟨x, 0, none⟩), .int .i64 0]) ∧ w.heap.size ≤ x ∧ JAt w' w.heap.size x q.x none 0 [] (blankJ o n e) ∧ Below w.heap.size w w' := by
  have c1 := h.box.cell 1
  have c3 := h.box.cell 3
  simp at c1 c3
  have HL := Lib.hid (Dd.len_eq w q.x _ d.n _ c1 hn)
  have hf : ¬ ((o : Int) < 0 ∨ (n : Int) < 1 ∨ (d.n : Int) < (o : Int) ∨ (d.n : Int) - (o : Int) < (n : Int) ∨ e = 0) := fun hf => by
    unfold newE at hE
    rw [if_pos hf] at hE
    cases hE
  have hoff : d.off = false := by
    unfold newE at hE
    rw [if_neg hf] at hE
    cases hd : d.off with
    | false => rfl
    | true => rw [hd] at hE; cases hE
  have n1 : (d.n : Int) ≤ 1000000 := by omega
  have k1 : ¬ (o : Int) < 0 := by omega
  have k2 : ¬ (n : Int) < 1 := by omega
  have w1 : IntKind.i64.wrap ((d.n : Int) - (n : Int)) = (d.n : Int) - (n : Int) := IntWalk.i64_in _ (by omega)
  have k4 : ¬ (d.n : Int) - (n : Int) < (o : Int) := by omega
  have k6 : ((e : Int) == 0) = false := beq_eq_false_iff_ne.2 (by omega)
  have k8 : decide (n < 1) = false := by simp; omega
  rw [hoff] at c3
  have HDn := Lib.hid (Dd.down_eq w q.x false c3)
  clear h hf hE hoff
  go_enter Try.func61, Try.ntmps61
  go_wp2_with (first | (refine HL.out.mono ?_; rintro e w2 ⟨rfl, rfl⟩) | (refine HDn.out.mono ?_; rintro e w2 ⟨rfl, rfl⟩))
  go_ret2
  refine ⟨_, rfl, Nat.le_refl _, ⟨Nat.le_refl _, ?_, ⟨World.ownsRow_nil _ _ _ _, rfl, fun i v hv => by simp at hv⟩⟩, (Below.refl _ _).alloc (Nat.le_refl _) _⟩
  exact Qu.Blk.new _ _ _

/-! ### What a nil journal answers -/
theorem add_nil (w : World) (v : Value) : Calls Try.prog 53 #[.pointer none, v] w fun e w' => e = .returned (.int .i64 1) ∧ w' = w := by
  go_enter Try.func53, Try.ntmps53
  go_wp2
  go_ret
  exact ⟨rfl, rfl⟩

theorem records_nil (w : World) : Calls Try.prog 73 #[.pointer none] w fun e w' => e = .returned (.slice none 0 0) ∧ w' = w := by
  go_enter Try.func73, Try.ntmps73
  go_wp2
  go_ret
  exact ⟨rfl, rfl⟩

theorem first_nil (w : World) : Calls Try.prog 40 #[.pointer none] w fun e w' => e = .returned (.int .u32 0) ∧ w' = w := by
  go_enter Try.func40, Try.ntmps40
  go_wp2
  go_ret
  exact ⟨rfl, rfl⟩

theorem used_nil (w : World) : Calls Try.prog 58 #[.pointer none] w fun e w' => e = .returned (.int .i64 0) ∧ w' = w := by
  go_enter Try.func58, Try.ntmps58
  go_wp2
  go_ret
  exact ⟨rfl, rfl⟩

/-! ### First, Used, the next number -/
theorem first_any (w : World) (x : Nat) (v : Value) (c5 : w.cell? ⟨x, 5, none⟩ = some v) : Calls Try.prog 40 #[.pointer (some ⟨x, 0, none⟩)] w fun e w' => e = .returned v ∧ w' = w := by
  go_enter Try.func40, Try.ntmps40
  go_wp2
  go_ret
  exact ⟨rfl, rfl⟩

theorem used_any (w : World) (x : Nat) (v : Value) (c6 : w.cell? ⟨x, 6, none⟩ = some v) : Calls Try.prog 58 #[.pointer (some ⟨x, 0, none⟩)] w fun e w' => e = .returned v ∧ w' = w := by
  go_enter Try.func58, Try.ntmps58
  go_wp2
  go_ret
  exact ⟨rfl, rfl⟩

theorem next_any (w : World) (x n c : Nat) (A : Option Addr) (c4 : w.cell? ⟨x, 4, none⟩ = some (.slice A n c)) (hn : n ≤ 1000000) : Calls Try.prog 77 #[.pointer (some ⟨x, 0, none⟩)] w fun e w' => e = .returned (.int .u32 (n : Int)) ∧ w' = w := by
  have w1 : IntKind.u32.wrap (n : Int) = (n : Int) := IntWalk.u32_in _ (by omega)
  have n1 : (n : Int) ≤ 1000000 := by omega
  go_enter Try.func77, Try.ntmps77
  go_wp2
  go_ret
  exact ⟨rfl, rfl⟩

/-! ### Records -/
/-- What Records told: new rows, each of its own. -/
structure Told (w : World) (B : Nat) (A : Option Addr) (n c : Nat) (vs : List Value) (l : List (List UInt8)) : Prop where
  rows : Recd w B A n c vs l
  dist : ∀ (i k : Nat) (u v : Value), i < k → vs[i]? = some u → vs[k]? = some v → ∀ g, u.ownBlock = some g → v.ownBlock ≠ some g

/-- The first k of them. -/
structure Part (w : World) (B g n k : Nat) (us : List Value) (l : List (List UInt8)) : Prop where
  own : w.ownsRow B 37 1 (.slice (some ⟨g, 0, none⟩) n n) n (us ++ List.replicate (n - k) (.slice none 0 0))
  len : us.length = k
  each : ∀ (i : Nat) (v : Value), us[i]? = some v → ∃ x : List UInt8, l[i]? = some x ∧ Own8 w B v x
  dist : ∀ (i k : Nat) (u v : Value), i < k → us[i]? = some u → us[k]? = some v → ∀ g, u.ownBlock = some g → v.ownBlock ≠ some g

theorem set_front (us : List Value) (v z : Value) (m : Nat) : (us ++ List.replicate (m + 1) z).set us.length v = (us ++ [v]) ++ List.replicate m z := by
  rw [List.set_append_right _ _ (Nat.le_refl _), Nat.sub_self, List.replicate_succ, List.set_cons_zero, List.append_assoc]
  rfl

theorem Part.step {wr w1 : World} {B g n k : Nat} {us : List Value} {l : List (List UInt8)} {v : Value} {b : List UInt8} (h : Part wr B g n k us l) (hk : k < n) (hB : B ≤ wr.heap.size) (hb : Below wr.heap.size wr w1) (hv : Own8 w1 wr.heap.size v b) (hl : l[k]? = some b) :
    Part (w1.setCell ⟨g, k, none⟩ v) B g n (k + 1) (us ++ [v]) l ∧ Only w1 (w1.setCell ⟨g, k, none⟩ v) (Mv.one g) := by
  have ho : Only w1 (w1.setCell ⟨g, k, none⟩ v) (Mv.one g) := (Mv.Only.refl w1 (Mv.one g)).put v (fun _ => rfl)
  have h1 := Qu.row_below h.own hb
  have h2 := (World.ownsRow.stored h1 k v).1
  have keep : ∀ (B' : Nat) (u : Value) (z : List UInt8), Own8 w1 B' u z → Own8 (w1.setCell ⟨g, k, none⟩ v) B' u z := fun B' u z hu =>
    Mv.own_only hu ho fun i hi hs => own_own_ne hu h1 (by decide) i hi (by rw [Mv.ownBlock_some]; exact congrArg some (show g = i from hs.symm))
  have hlen := h.len
  refine ⟨⟨?_, by simp [hlen], fun i u hu => ?_, fun i j u u' hij hu hu' => ?_⟩, ho⟩
  · rw [show n - k = n - (k + 1) + 1 by omega] at h2
    have e := set_front us v (.slice none 0 0) (n - (k + 1))
    rw [hlen] at e
    rw [e] at h2
    exact h2
  · rcases Nat.lt_or_ge i k with hi | hi
    · rw [List.getElem?_append_left (by omega)] at hu
      obtain ⟨z, z1, z2⟩ := h.each i u hu
      exact ⟨z, z1, keep B u z (By.Own8.below z2 hb)⟩
    · rw [List.getElem?_append_right (by omega), hlen] at hu
      rcases Nat.eq_zero_or_pos (i - k) with h0 | h0
      · rw [h0] at hu
        injection hu with hu
        subst hu
        exact ⟨b, by rw [show i = k by omega]; exact hl, Lf.own_lower (keep _ _ _ hv) hB⟩
      · rw [List.getElem?_eq_none (by simp; omega)] at hu
        cases hu
  · have hik : i < k := by
      have := (List.getElem?_eq_some_iff.1 hu').1
      simp at this
      omega
    rw [List.getElem?_append_left (by omega)] at hu
    rcases Nat.lt_or_ge j k with hj | hj
    · rw [List.getElem?_append_left (by omega)] at hu'
      exact h.dist i j u u' hij hu hu'
    · rw [List.getElem?_append_right (by omega), hlen] at hu'
      rcases Nat.eq_zero_or_pos (j - k) with h0 | h0
      · rw [h0] at hu'
        injection hu' with hu'
        subst hu'
        intro x hx hx2
        obtain ⟨z, _, z2⟩ := h.each i u hu
        have := (World.ownsRow.lt z2 x hx).2
        have := (World.ownsRow.lt hv x hx2).1
        omega
      · rw [List.getElem?_eq_none (by simp; omega)] at hu'
        cases hu'

theorem Part.below {w w' : World} {B g n k : Nat} {us : List Value} {l : List (List UInt8)} (h : Part w B g n k us l) (hb : Below w.heap.size w w') : Part w' B g n k us l :=
  ⟨Qu.row_below h.own hb, h.len, fun i v hv => by obtain ⟨z, z1, z2⟩ := h.each i v hv; exact ⟨z, z1, By.Own8.below z2 hb⟩, h.dist⟩

theorem make_rows (n : Nat) (hn : n ≤ 1000000) (W : World) : (Instr.makeSlice 49 (.int .i64 (n : Int)) (.int .i64 (n : Int))).run Try.prog W = .ok (.slice (some ⟨W.heap.size, 0, none⟩) n n) (W.alloc (.cells (Array.replicate n (.slice none 0 0)) 37)) := by
  obtain ⟨i0, hi0, hz0, hz1, hz2⟩ := info_parts Jr.info_bytes
  have hr := run_make (P := Try.prog) W 49 37 i0 _ Try.underlying49 hi0 hz0 .i64 .i64 (n : Int) (n : Int) (by omega) (by omega) (by rw [hz2]; omega) (by omega)
  rw [hz1, Nat.mul_one] at hr
  simp only [Int.toNat_natCast] at hr
  have e : madeCells #[Value.slice none 0 0] n = Array.replicate n (.slice none 0 0) := by
    apply Array.toList_inj.1
    rw [toList_madeCells_one]
    simp
  rw [hr]
  exact congrArg (fun c => Result.ok _ (W.alloc (.cells c 37))) e

theorem Part.start (w : World) (n : Nat) (l : List (List UInt8)) (hn : n ≤ 1000000) : Part (w.alloc (.cells (Array.replicate n (.slice none 0 0)) 37)) w.heap.size w.heap.size n 0 [] l := by
  refine ⟨⟨by simp, .inr ⟨w.heap.size, n, _, rfl, Nat.le_refl _, heap_alloc_new w _, Nat.le_refl _, by unfold maxLen; omega, by simp, by simp⟩⟩, rfl, fun i v hv => by simp at hv, fun i k u v _ hu => by simp at hu⟩

/-- What Records answers. -/
def RecE (w : World) (l : List (List UInt8)) (e : Ending) (w' : World) : Prop := ∃ A' c' us, e = .returned (.slice A' l.length c') ∧ Told w' w.heap.size A' l.length c' us l ∧ Below w.heap.size w w'

theorem recE_of {w w' : World} {l : List (List UInt8)} {n c : Nat} {A : Option Addr} {us : List Value} (hn : l.length = n) (h : Told w' w.heap.size A n c us l) (hb : Below w.heap.size w w') : RecE w l (.returned (.slice A n c)) w' := by
  subst hn
  exact ⟨A, c, us, rfl, h, hb⟩

set_option maxHeartbeats 1000000 in
theorem records_any (w : World) (B x y c : Nat) (A : Option Addr) (vs : List Value) (j : JS) (hJ : JAt w B x y A c vs j) (hl : j.l.length ≤ 1000000) (hs : ∀ b ∈ j.l, b.length ≤ 1000000000000) :
    Calls Try.prog 73 #[.pointer (some ⟨x, 0, none⟩)] w (RecE w j.l) := by
  have e4 := hJ.box.cell 4
  simp at e4
  have HJ := Lib.hid hJ
  have HS := Lib.hid hs
  have hx := hJ.box.lt
  have mk := make_rows j.l.length hl
  have HP := Lib.hid (Part.start w j.l.length j.l hl)
  have hlen : j.l.length = j.l.length := rfl
  generalize hN : j.l.length = n at mk e4 hl HP
  have HN := Lib.hid hN
  have n1 : (n : Int) ≤ 1000000 := by omega
  clear hJ hs hlen hN
  go_enter Try.func73, Try.ntmps73
  have e4' : (w.alloc (.cells (Array.replicate n (.slice none 0 0)) 37)).cell? ⟨x, 4, none⟩ = some (.slice A n c) := (((Below.refl w.heap.size w).alloc (Nat.le_refl _) _).cell (p := ⟨x, 4, none⟩) hx).trans e4
  go_wp2
  go_loopw [19] (fun s wr => ∃ (k : Nat) (us : List Value), s = .int .i64 (k : Int) ∧ k ≤ n ∧ Part wr w.heap.size w.heap.size n k us j.l ∧ Below w.heap.size w wr) (fun s _ => n - (intOf s).toNat)
  case atStart => exact ⟨0, [], rfl, Nat.zero_le _, HP.out, (Below.refl _ _).alloc (Nat.le_refl _) _⟩
  case round =>
    clear e4 e4' mk
    obtain ⟨k, us, rfl, hk, hP, hB⟩ := hrel
    by_cases hlt : k < n
    · have k0 : (0 : Int) ≤ (k : Int) := by omega
      have k1 : (k : Int) < (n : Int) := by omega
      have hJr := HJ.out.below hB
      have hrow := hJr.rows.own
      rw [HN.out] at hrow
      obtain ⟨g, cap, hv, hg, hgl⟩ := hrow.form (by omega)
      injection hv with hA _ hc
      subst hA hc
      obtain ⟨v, hvk⟩ : ∃ v, vs[k]? = some v := ⟨_, List.getElem?_eq_getElem (by have := hrow.1; omega)⟩
      obtain ⟨b, hb1, hb2⟩ := hJr.rows.each k v hvk
      obtain ⟨A1, c1, rfl⟩ := Mv.own_value hb2
      have q1 := hrow.cellAt k (by omega)
      rw [hvk] at q1
      have hbl := HS.out b (List.mem_of_getElem? hb1)
      have HC := Lib.hid (By.clone_any A1 b.length c1 wr.heap.size b wr (By.Own8.bys hb2) (Mv.own_none hb2) hbl)
      have HX := Lib.hid (And.intro hP (And.intro hB hb1))
      clear hP hB hb1 hb2 hJr hrow hvk hbl
      go_wp2_with fail
      refine HC.out.mono ?_
      rintro e w1 ⟨A2, c2, rfl, hown, hk1⟩
      have hst := HX.out.1.step hlt HX.out.2.1.size hk1 hown HX.out.2.2
      have f1 := (Qu.row_below HX.out.1.own hk1).frozenAt k
      have q2 := (Qu.row_below HX.out.1.own hk1).cellAt k (by omega)
      rw [List.getElem?_append_right (by rw [HX.out.1.len]; exact Nat.le_refl _), HX.out.1.len, Nat.sub_self, List.getElem?_replicate, if_pos (by omega)] at q2
      have HT := Lib.hid (And.intro hst hk1)
      clear hst hown hk1
      go_wp2_with fail
      go_roundw
      case rel => exact ⟨k + 1, _, by go_num, by omega, HT.out.1.1, (HX.out.2.1.trans (HT.out.2.mono HX.out.2.1.size)).trans (Mv.Only.toBelow HT.out.1.2 (by have := HX.out.2.1.size; have := HT.out.2.size; omega) (fun i hi hs => by have e : i = w.heap.size := hs; omega))⟩
      case measure => simp [intOf]; omega
    · have hkn : k = n := by omega
      have k1 : ¬ (k : Int) < (n : Int) := by omega
      have HX := Lib.hid (And.intro hP hB)
      subst hkn
      clear hP hB hlt hk
      go_wp2
      go_ret
      have ho := HX.out.1.own
      rw [Nat.sub_self, List.replicate_zero, List.append_nil] at ho
      exact recE_of HN.out ⟨⟨ho, HN.out, HX.out.1.each⟩, HX.out.1.dist⟩ HX.out.2

end Go.Proofs.Ytedgookkogpfbaa.Jl
end

section
namespace Go.Proofs.Ytedgookkogpfbaa.Jl
open Go.ChangeShapes Go.WideShapes Go.ChangeAt Go.RowKit
open Qu (Blk)
open Mv (Only)
open By (Own8 Bys cellsB cellsB_length)
open Dk (DS Sec secCells readE readV readE_ok)
open Dd (Lay At Tidy)
open Lf (Took LeafC LeafC_one Leaf5 own_lower own_far takesB readB new_leaf store_leaf load_leaf zero_leaf two_leaf ZeroC ZeroC_one)
open Jr (JS Recd took took_cells blk_blk_ne)
set_option linter.unusedVariables false

/-- What the closure captured: the place that comes next, the end, the disk. -/
structure Cap (w : World) (ga ge gd a e x : Nat) : Prop where
  at_ : Blk w ga 3 #[.int .i64 (a : Int)]
  end_ : Blk w ge 3 #[.int .i64 (e : Int)]
  disk : Blk w gd 24 #[.pointer (some ⟨x, 0, none⟩)]
  ne : ga ≠ ge

theorem Cap.below {w w' : World} {ga ge gd a e x : Nat} (h : Cap w ga ge gd a e x) (hb : Below w.heap.size w w') : Cap w' ga ge gd a e x := ⟨h.at_.below hb, h.end_.below hb, h.disk.below hb, h.ne⟩

theorem Cap.next {w : World} {ga ge gd a e x : Nat} (h : Cap w ga ge gd a e x) : Cap (w.setCell ⟨ga, 0, none⟩ (.int .i64 ((a : Int) + 1))) ga ge gd (a + 1) e x ∧ Only w (w.setCell ⟨ga, 0, none⟩ (.int .i64 ((a : Int) + 1))) (Mv.one ga) := by
  have ho : Only w (w.setCell ⟨ga, 0, none⟩ (.int .i64 ((a : Int) + 1))) (Mv.one ga) := (Mv.Only.refl w _).put _ (fun _ => rfl)
  refine ⟨⟨?_, Mv.blk_only h.end_ ho (fun hs => h.ne (show ge = ga from hs).symm), Mv.blk_only h.disk ho (fun hs => blk_blk_ne h.disk h.at_ (by decide) hs), h.ne⟩, ho⟩
  exact h.at_.put 0 _

/-- What the closure turns is none of a disk's. -/
theorem Cap.apart {w : World} {B ga ge gd a e x : Nat} {q : Dd.Pl} {d : DS} (h : Cap w ga ge gd a e x) (hD : Lay w B q d) : ¬ q.has ga := fun hi => by
  rcases hi with hi | hi | hi | hi
  · exact blk_blk_ne h.at_ hD.box (by decide) hi
  · exact Mv.own_blk_ne hD.now.2 h.at_ (by decide) q.a rfl hi.symm
  · exact Mv.own_blk_ne hD.sure.2 h.at_ (by decide) q.b rfl hi.symm
  · exact Mv.own_blk_ne hD.loose h.at_ (by decide) q.c rfl hi.symm

/-- There is none behind the end. -/
theorem clo_end (w : World) (ga ge gd a x : Nat) (hc : Cap w ga ge gd a a x) :
    Calls Try.prog 84 #[.pointer (some ⟨ga, 0, none⟩), .pointer (some ⟨ge, 0, none⟩), .pointer (some ⟨gd, 0, none⟩)] w fun r w' => r = .returned (.tuple #[.agg ZeroC, .bool false]) ∧ Below w.heap.size w w' := by
  have HC := Lib.hid hc
  have b0 : ((a : Int) == (a : Int)) = true := beq_self_eq_true _
  clear hc
  go_enter Try.func84, Try.ntmps84
  go_upto_region 1 with (first
    | (refine new_leaf (w := w) rfl rfl ?_; intro w1 hS1 hB1 hZ1))
  have hc1 := HC.out.below hB1
  have c0 := hc1.at_.cell 0
  have c1 := hc1.end_.cell 0
  simp at c0 c1
  go_wp2_with (first
    | (with_reducible refine zero_leaf (op := ⟨some 10, _, _, _, _, _⟩) rfl rfl ?_)
    | ((with_reducible refine store_leaf (w := w1) (op := ⟨none, _, _, _, _, _⟩) ?_ (.tmp 3) (.tmp 10) ?_ w.heap.size ?_ ZeroC ?_ hS1 ?_ ZeroC_one ?_); (next => rfl); (next => rfl); (next => rfl); (next => rfl); (next => rfl); intro w8 hK8 hG8))
  refine bodyPost_ret (two_leaf rfl _ w8 w.heap.size _ (.bool false) rfl hK8 rfl rfl rfl) rfl ?_
  exact ⟨rfl, hB1.grown hG8 hB1.size (fun k hk => by injection hk with hk; omega)⟩

/-- What the closure answers where there is a sector. -/
def CloE (w : World) (ga ge gd a e x : Nat) (s : List UInt8) (r : Ending) (w' : World) : Prop :=
  ∃ A c, r = .returned (.tuple #[.agg (LeafC (took s).epoch (took s).number (took s).first (took s).last A (took s).data.length c), .bool (takesB s)]) ∧ w'.ownsRow w.heap.size 5 1 (.slice A (took s).data.length c) (took s).data.length (cellsB (took s).data) ∧ Cap w' ga ge gd (a + 1) e x ∧ Only w w' (Mv.one ga)

set_option maxHeartbeats 1000000 in
theorem clo_take (w : World) (B : Nat) (q : Dd.Pl) (d : DS) (ga ge gd a e : Nat) (hc : Cap w ga ge gd a e q.x) (hD : Lay w B q d) (hoff : d.off = false) (hn : d.n ≤ 1000000) (hlt : a < e) (he : e ≤ d.n) (s : List UInt8) (hs : d.now[a]? = some s) :
    Calls Try.prog 84 #[.pointer (some ⟨ga, 0, none⟩), .pointer (some ⟨ge, 0, none⟩), .pointer (some ⟨gd, 0, none⟩)] w (CloE w ga ge gd a e q.x s) := by
  have hs64 : s.length = 64 := hD.now.1.at hs
  have hre : readE d (a : Int) = 0 := readE_ok hoff (by omega) (by omega)
  have hrv : readV d (a : Int) = s := by
    unfold readV
    rw [hre, if_pos rfl, Int.toNat_natCast, List.getD, hs]
    rfl
  have HC := Lib.hid hc
  have HD := Lib.hid hD
  have hax : ga < w.heap.size := hc.at_.lt
  have b0 : ((a : Int) == (e : Int)) = false := beq_eq_false_iff_ne.2 (by omega)
  have wa : IntKind.i64.wrap ((a : Int) + 1) = (a : Int) + 1 := IntWalk.i64_in _ (by omega)
  have HT := Lib.hid fun W => (Lf.take_any W s hs64).mono fun e w' h => took_cells h
  have HAX := Lib.hid (And.intro hax (hc.apart hD))
  have HR := Lib.hid (And.intro hre hrv)
  clear hc hD hs hre hrv hax
  go_enter Try.func84, Try.ntmps84
  go_upto_region 1 with (first
    | (refine new_leaf (w := w) rfl rfl ?_; intro w1 hS1 hB1 hZ1))
  have hc1 := HC.out.below hB1
  have c0 := hc1.at_.cell 0
  have c1 := hc1.end_.cell 0
  have c2 := hc1.disk.cell 0
  simp at c0 c1 c2
  have HK := Lib.hid (Dd.read_lay w1 B q d (a : Int) (HD.out.below hB1) hn)
  rw [HR.out.1, HR.out.2] at HK
  have H1 := Lib.hid (And.intro hS1 (And.intro hB1 hZ1))
  clear hS1 hB1 hc1
  go_wp2_with fail
  refine HK.out.mono ?_
  rintro r w2 ⟨rfl, k2⟩
  have H2 := Lib.hid (show Leaf5 w2 w.heap.size ∧ Below w.heap.size w w2 ∧ w.heap.size < w2.heap.size from ⟨H1.out.1.below k2, H1.out.2.1.trans (k2.mono H1.out.2.1.size), by have := k2.size; have := H1.out.2.2; omega⟩)
  clear k2 c0 c1 c2
  go_upto_region 4 with (first
    | (with_reducible refine Dk.new_sec (w := w2) (op := ⟨some 5, _, _, _, _, _⟩) rfl rfl ?_; intro w3 hS3 hB3 hZ3)
    | ((with_reducible refine Dk.store_sec (w := w3) (op := ⟨none, _, _, _, _, _⟩) ?_ (.tmp 5) (.tmp 15) ?_ _ ?_ s ?_ _ hS3 hs64 ?_); (next => rfl); (next => rfl); (next => rfl); (next => rfl); intro w4 hS4 hG4))
  obtain ⟨g5, hg5⟩ : ∃ g5, w2.heap.size = g5 := ⟨_, rfl⟩
  rw [hg5] at hS4 hG4 hZ3
  have H4 := Lib.hid (show Leaf5 w4 w.heap.size ∧ Sec w4 g5 s ∧ Below w.heap.size w w4 ∧ w.heap.size < g5 from by
    have hl := H2.out.2.2
    have hb3 := H2.out.2.1.trans (hB3.mono H2.out.2.1.size)
    exact ⟨(H2.out.1.below hB3).far hG4 (by omega), hS4, hb3.grown hG4 hb3.size (fun k hk => by injection hk with hk; omega), by omega⟩)
  rw [hg5]
  have hc4 := HC.out.below H4.out.2.2.1
  have c0 := hc4.at_.cell 0
  have f0 := hc4.at_.frozen 0
  simp at c0
  obtain ⟨w5, hw5⟩ : ∃ w5, w4.setCell ⟨ga, 0, none⟩ (.int .i64 ((a : Int) + 1)) = w5 := ⟨_, rfl⟩
  have H5 := Lib.hid (show Leaf5 w5 w.heap.size ∧ Sec w5 g5 s ∧ Cap w5 ga ge gd (a + 1) e q.x ∧ Only w w5 (Mv.one ga) ∧ w.heap.size < g5 ∧ g5 < w5.heap.size from by
    have hx := HAX.out.1
    obtain ⟨h1, h2⟩ := hc4.next
    rw [hw5] at h1 h2
    have hl := H4.out.2.2.2
    have hne : g5 ≠ ga := by omega
    have hsec : Sec w5 g5 s := ⟨H4.out.2.1.1, Mv.blk_only H4.out.2.1.2 h2 (fun h => hne h)⟩
    refine ⟨?_, hsec, h1, (Mv.Only.ofBelow H4.out.2.2.1 _).trans h2 (fun _ _ h => h), hl, hsec.2.lt⟩
    obtain ⟨cs, q1, q2⟩ := H4.out.1
    exact ⟨cs, Mv.blk_only q1 h2 (fun h => by have e : w.heap.size = ga := h; omega), q2⟩)
  clear hS3 hB3 hZ3 hS4 hG4 hg5 hc4 H4 H2
  have HW5 := Lib.hid hw5
  clear hw5
  go_upto_region 5 with (fail)
  rw [HW5.out]
  clear c0 f0 HW5
  go_wp2_with (first
    | ((with_reducible refine Dk.load_sec (w := w5) (op := ⟨some 22, _, _, _, _, _⟩) ?_ (.tmp 5) ?_ _ ?_ _ H5.out.2.1 ?_); (next => rfl); (next => rfl); (next => rfl)))
  refine (HT.out w5).mono ?_
  rintro r w6 ⟨A, c, rfl, ho, k6⟩
  have H6 := Lib.hid (show Leaf5 w6 w.heap.size ∧ Cap w6 ga ge gd (a + 1) e q.x ∧ Only w w6 (Mv.one ga) ∧ w.heap.size < w5.heap.size ∧ w6.ownsRow w5.heap.size 5 1 (.slice A (took s).data.length c) (took s).data.length (cellsB (took s).data) from
    ⟨H5.out.1.below k6, H5.out.2.2.1.below k6, H5.out.2.2.2.1.below k6, by have := H5.out.2.2.2.2.1; have := H5.out.2.2.2.2.2; omega, ho⟩)
  clear k6 ho H5
  generalize hL : took s = L at *
  generalize hT : takesB s = T at *
  have HL := Lib.hid (And.intro hL hT)
  clear hL hT
  go_wp2_with (first
    | ((with_reducible refine store_leaf (w := w6) (op := ⟨none, _, _, _, _, _⟩) ?_ (.tmp 3) (.tmp 24) ?_ w.heap.size ?_ (LeafC L.epoch L.number L.first L.last A L.data.length c) ?_ H6.out.1 ?_ (LeafC_one _ _ _ _ _ _ _) ?_); (next => rfl); (next => rfl); (next => rfl); (next => rfl); (next => rfl); intro w8 hK8 hG8))
  refine bodyPost_ret (two_leaf rfl _ w8 w.heap.size _ (.bool T) rfl hK8 rfl rfl rfl) rfl ?_
  obtain ⟨h1, h2, h3, h4, h5⟩ := H6.out
  obtain ⟨rfl, rfl⟩ := HL.out
  have hx := HAX.out.1
  have ho8 : Only w6 w8 (Mv.one w.heap.size) := Mv.Only.ofGrown hG8 fun i hi => by injection hi with hi; exact hi.symm
  refine ⟨A, c, rfl, own_lower (own_far (own_lower h5 (show w.heap.size + 1 ≤ w5.heap.size by omega)) hG8 (Nat.lt_succ_self _)) (Nat.le_succ _), ?_, h3.trans ho8 fun i hi hs => by have e : i = w.heap.size := hs; omega⟩
  exact ⟨Mv.blk_only h2.at_ ho8 (fun h => by have e : ga = w.heap.size := h; omega), Mv.blk_only h2.end_ ho8 (fun h => by have e : ge = w.heap.size := h; have := HC.out.end_.lt; omega), Mv.blk_only h2.disk ho8 (fun h => by have e : gd = w.heap.size := h; have := HC.out.disk.lt; omega), h2.ne⟩

end Go.Proofs.Ytedgookkogpfbaa.Jl
end

section
set_option linter.unusedVariables false
namespace Go.Proofs.Ytedgookkogpfbaa.Jr
open Lf (Leaf layB readB takesB rightB right_iff)
open Dk (DS)

section
variable {S : Nat → List UInt8} {number : Nat}

theorem rec_zero (least : Nat) : ∀ f i b e, (recGo S number least f i b e).2.1 = 0 → recGo S number least f i b e = ([], 0, 0)
  | 0, i, b, e, _ => rfl
  | f + 1, i, b, e, h => by
    unfold recGo at h ⊢
    by_cases hg : goodL S number least e i = true
    · rw [if_pos hg] at h ⊢
      by_cases hl : (readB (S i)).last = true
      · rw [if_pos hl] at h
        exact absurd h (Nat.succ_ne_zero i)
      · rw [if_neg hl] at h ⊢
        exact rec_zero least f (i + 1) _ _ h
    · rw [if_neg hg]

theorem good_least {e i : Nat} (least : Nat) (h : i ≠ 0) (hl : least ≤ e) : goodL S number least e i = goodL S number 0 e i := by
  apply Bool.eq_iff_iff.2
  rw [good_iff, good_iff]
  constructor
  · rintro ⟨h1, h2, h3, h4, _⟩
    exact ⟨h1, h2, h3, h4, Nat.zero_le _⟩
  · rintro ⟨h1, h2, h3, h4, _⟩
    exact ⟨h1, h2, h3, h4, by rw [h4.resolve_left h]; exact hl⟩

theorem rec_more (least : Nat) : ∀ f i b e, i ≠ 0 → least ≤ e → recGo S number least f i b e = recGo S number 0 f i b e
  | 0, i, b, e, _, _ => rfl
  | f + 1, i, b, e, hi, he => by
    unfold recGo
    rw [good_least least hi he]
    by_cases hg : goodL S number 0 e i = true
    · rw [if_pos hg, if_pos hg]
      have h4 := ((good_iff e i).1 hg).2.2.2.1.resolve_left hi
      rw [h4]
      split
      · rfl
      · exact rec_more least f (i + 1) _ e (by omega) he
    · rw [if_neg hg, if_neg hg]

theorem rec_told (least : Nat) {f i : Nat} {b : List UInt8} {e : Nat} (h : (recGo S number least f i b e).2.1 ≠ 0) : ∃ k, i ≤ k ∧ takesB (S i) = true ∧ (recGo S number least f i b e).2.2 = (readB (S i)).epoch := by
  obtain ⟨k, E, hk, hr, hE⟩ := rec_run f i b e h
  have h2 := (run_rec f i b e k E hk hr hE).2
  have h3 := hr.each i (Nat.le_refl _) hr.le
  exact ⟨k, hr.le, h3.1, by rw [h2]; exact h3.2.2.2.symm⟩

theorem taken_epoch {s : List UInt8} (h : takesB s = true) : 1 ≤ (readB s).epoch := by
  unfold takesB at h
  rw [Bool.and_eq_true] at h
  have := ((right_iff (l := readB s)).1 h.1).1
  omega

theorem rec_least (least cap : Nat) (hl : 1 ≤ least) : recN S number least cap = if (recN S number 0 cap).2.2 < least then ([], 0, 0) else recN S number 0 cap := by
  unfold recN
  cases cap with
  | zero =>
    show ([], 0, 0) = if 0 < least then ([], 0, 0) else ([], 0, 0)
    split <;> rfl
  | succ f =>
    by_cases h0 : (recGo S number 0 (f + 1) 0 [] 0).2.1 = 0
    · rw [rec_zero 0 _ _ _ _ h0]
      show _ = if 0 < least then ([], 0, 0) else ([], 0, 0)
      have hr : (recGo S number least (f + 1) 0 [] 0).2.1 = 0 := by
        rcases Nat.eq_zero_or_pos (recGo S number least (f + 1) 0 [] 0).2.1 with h | h
        · exact h
        · obtain ⟨k, E, hk, hr, hE⟩ := rec_run (f + 1) 0 [] 0 (show (recGo S number least (f + 1) 0 [] 0).2.1 ≠ 0 by omega)
          have h2 := (run_rec (least := 0) (f + 1) 0 [] 0 k E hk ⟨hr.le, hr.each, Nat.zero_le _, hr.on, hr.last⟩ (.inl rfl)).1
          omega
      rw [rec_zero least _ _ _ _ hr]
      split <;> rfl
    · obtain ⟨k, _, ht, he⟩ := rec_told 0 h0
      rw [he]
      by_cases hle : (readB (S 0)).epoch < least
      · rw [if_pos hle]
        unfold recGo
        rw [if_neg]
        rw [good_iff]
        rintro ⟨_, _, _, _, h5⟩
        omega
      · rw [if_neg hle]
        have hg0 : goodL S number 0 0 0 = true := by
          unfold recGo at h0
          by_cases hg : goodL S number 0 0 0 = true
          · exact hg
          · rw [if_neg hg] at h0
            exact absurd rfl h0
        obtain ⟨h1, h2, h3, h4, _⟩ := (good_iff 0 0).1 hg0
        have hg : goodL S number least 0 0 = true := (good_iff 0 0).2 ⟨h1, h2, h3, h4, by omega⟩
        unfold recGo
        rw [if_pos hg, if_pos hg0]
        split
        · rfl
        · exact rec_more least f (0 + 1) _ _ (by omega) (by omega)

/-- The next record, read whole. -/
theorem next_is (n : Nat) (r : Rd) (ls : Nat) (h1 : 1 ≤ r.least) (h : ls = r.least ∨ (ls = 0 ∧ r.least = 1)) (R : List UInt8 × Nat × Nat) (hR : recN (fun i => S (r.used + i)) (r.l.length % 4294967296) 0 (n - r.used) = R) :
    nextR S n r = if R.2.1 = 0 ∨ R.2.2 < ls then ([], 0, 0) else R := by
  unfold nextR
  rw [rec_least _ _ h1, hR]
  by_cases h0 : R.2.1 = 0
  · have hz : R = ([], 0, 0) := by
      rw [← hR] at h0 ⊢
      exact rec_zero 0 _ _ _ _ h0
    rw [hz]
    split <;> rfl
  · have he : 1 ≤ R.2.2 := by
      rw [← hR] at h0 ⊢
      obtain ⟨k, _, ht, he⟩ := rec_told 0 h0
      unfold recN
      rw [he]
      exact taken_epoch ht
    rcases h with rfl | ⟨rfl, h2⟩
    · by_cases hl : R.2.2 < r.least
      · rw [if_pos hl, if_pos (.inr hl)]
      · rw [if_neg hl, if_neg (fun h => h.elim h0 hl)]
    · rw [if_neg (by omega), if_neg (by omega)]
end

end Go.Proofs.Ytedgookkogpfbaa.Jr
end
