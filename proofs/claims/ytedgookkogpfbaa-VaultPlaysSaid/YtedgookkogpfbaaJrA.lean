/- The document's journal in memory; its Need, Blank. -/
import Derived.Test.YtedgookkogpfbaaJrX
import Derived.Test.YtedgookkogpfbaaDkX
import Derived.Test.YtedgookkogpfbaaBa
import Derived.Deep.RegionHeld3
set_option maxRecDepth 100000
namespace Go.Proofs.Ytedgookkogpfbaa.Jr
open Go.ChangeShapes Go.WideShapes Go.ChangeAt Go.RowKit
open Qu (Blk)
open Mv (Only)
open By (Own8 Bys cellsB cellsB_length)
open Dk (DS RefAt)
set_option linter.unusedVariables false

theorem rneed_any (k : Int) (w : World) (hk : k ≤ 9223372036854775807) :
    Calls Try.prog 48 #[.int .i64 k] w fun e w' => e = .returned (.int .i64 ((needN k.toNat : Nat) : Int)) ∧ w' = w := by
  by_cases h : k < 1
  · have HE : Hid (((needN k.toNat : Nat) : Int) = 0) := Lib.hid (by rw [show k.toNat = 0 by omega]; rfl)
    go_enter Try.func48, Try.ntmps48
    go_wp2
    go_ret
    exact ⟨by rw [HE.out]; rfl, rfl⟩
  · obtain ⟨q, hq⟩ : ∃ q, (k - 1).tdiv 46 = q := ⟨_, rfl⟩
    have hq2 : q = (k - 1) / 46 := by rw [← hq]; exact Int.tdiv_eq_ediv_of_nonneg (by omega)
    have HE : Hid (((needN k.toNat : Nat) : Int) = q + 1) := Lib.hid (by
      unfold needN
      rw [if_neg (by omega)]
      omega)
    have q0 : 0 ≤ q := by omega
    have q1 : q ≤ 9223372036854775806 := by omega
    clear hq2
    go_enter Try.func48, Try.ntmps48
    go_wp2
    go_ret
    exact ⟨by rw [HE.out]; rfl, rfl⟩

/-- Rows of bytes, each of the call's own. -/
structure Recd (w : World) (B : Nat) (A : Option Addr) (n c : Nat) (vs : List Value) (l : List (List UInt8)) : Prop where
  own : w.ownsRow B 37 1 (.slice A n c) n vs
  len : l.length = n
  each : ∀ (i : Nat) (v : Value), vs[i]? = some v → ∃ x : List UInt8, l[i]? = some x ∧ Own8 w B v x

/-- The document's journal j, its box at x, its disk's box at y. -/
structure JAt (w : World) (B x y : Nat) (A : Option Addr) (c : Nat) (vs : List Value) (j : JS) : Prop where
  base : B ≤ x
  box : Blk w x 88 #[.pointer (some ⟨y, 0, none⟩), .int .i64 (j.o : Int), .int .i64 (j.n : Int), .int .u32 (j.epoch : Int), .slice A j.l.length c, .int .u32 (j.begun : Int), .int .i64 (j.used : Int), .bool j.dead]
  rows : Recd w B A j.l.length c vs j.l

section
variable {w w' : World} {B x y c : Nat} {A : Option Addr} {vs : List Value} {j : JS} {S : Nat → Prop}
theorem Recd.only {n : Nat} {l : List (List UInt8)} (h : Recd w B A n c vs l) (k : Only w w' S) (hs : ∀ i, B ≤ i → ¬ S i) : Recd w' B A n c vs l :=
  ⟨Mv.own_only h.own k fun g hg => hs g (h.own.lt g hg).1, h.len, fun i v hv => by
    obtain ⟨z, h1, h2⟩ := h.each i v hv
    exact ⟨z, h1, Mv.own_only h2 k fun g hg => hs g (h2.lt g hg).1⟩⟩

theorem JAt.only (h : JAt w B x y A c vs j) (k : Only w w' S) (hs : ∀ i, B ≤ i → ¬ S i) : JAt w' B x y A c vs j :=
  ⟨h.base, Mv.blk_only h.box k (hs x h.base), h.rows.only k hs⟩

theorem JAt.below (h : JAt w B x y A c vs j) (hb : Below w.heap.size w w') : JAt w' B x y A c vs j :=
  h.only (Mv.Only.ofBelow hb fun _ => False) fun _ _ h => h
end

/-- What Blank tells. -/
theorem rblank_nil (o n : Int) (e : Nat) (w : World) :
    Calls Try.prog 44 #[.pointer none, .int .i64 o, .int .i64 n, .int .u32 (e : Int)] w fun r w' => r = .returned (.tuple #[.pointer none, .int .i64 1]) ∧ w' = w := by
  go_enter Try.func44, Try.ntmps44
  go_wp2
  go_ret2
  exact ⟨rfl, rfl⟩

theorem rblank_bad (w : World) (B : Nat) (p : Dk.Place) (d : DS) (o n : Int) (e : Nat) (h : RefAt w B p d) (hn : d.n ≤ 1000000) (ho : o ≤ 9223372036854775807) (hn2 : n ≤ 9223372036854775807) (he : e < 2 ^ 32) (hE : newE d o n e ≠ 0) :
    Calls Try.prog 44 #[.pointer (some ⟨p.x, 0, none⟩), .int .i64 o, .int .i64 n, .int .u32 (e : Int)] w fun r w' => r = .returned (.tuple #[.pointer none, .int .i64 (newE d o n e)]) ∧ w' = w := by
  have c0 := h.box.cell 0
  have c3 := h.box.cell 3
  simp at c0 c3
  have hx := h.box.lt
  have n1 : (d.n : Int) ≤ 1000000 := by omega
  have n2 : (0 : Int) ≤ (d.n : Int) := by omega
  have e0 : (0 : Int) ≤ (e : Int) := by omega
  clear h
  by_cases k1 : o < 0
  · have HE : Hid (newE d o n e = 2) := Lib.hid (by unfold newE; rw [if_pos (.inl k1)])
    go_enter Try.func44, Try.ntmps44
    go_wp2
    go_ret2
    exact ⟨by rw [HE.out]; rfl, rfl⟩
  by_cases k2 : n < 1
  · have HE : Hid (newE d o n e = 2) := Lib.hid (by unfold newE; rw [if_pos (.inr (.inl k2))])
    go_enter Try.func44, Try.ntmps44
    go_wp2
    go_ret2
    exact ⟨by rw [HE.out]; rfl, rfl⟩
  by_cases k3 : (d.n : Int) < o
  · have HE : Hid (newE d o n e = 2) := Lib.hid (by unfold newE; rw [if_pos (.inr (.inr (.inl k3)))])
    go_enter Try.func44, Try.ntmps44
    go_wp2
    go_ret2
    exact ⟨by rw [HE.out]; rfl, rfl⟩
  by_cases k4 : (d.n : Int) - o < n
  · have HE : Hid (newE d o n e = 2) := Lib.hid (by unfold newE; rw [if_pos (.inr (.inr (.inr (.inl k4))))])
    go_enter Try.func44, Try.ntmps44
    go_wp2
    go_ret2
    exact ⟨by rw [HE.out]; rfl, rfl⟩
  by_cases k5 : e = 0
  · have HE : Hid (newE d o n e = 2) := Lib.hid (by unfold newE; rw [if_pos (.inr (.inr (.inr (.inr k5))))])
    subst k5
    go_enter Try.func44, Try.ntmps44
    go_wp2
    go_ret2
    exact ⟨by rw [HE.out]; rfl, rfl⟩
  have hoff : d.off = true := by
    unfold newE at hE
    rw [if_neg (by omega)] at hE
    cases hd : d.off with
    | true => rfl
    | false => rw [hd] at hE; exact absurd rfl hE
  have HE : Hid (newE d o n e = 9) := Lib.hid (by unfold newE; rw [if_neg (by omega), hoff]; rfl)
  rw [hoff] at c3
  have k6 : ((e : Int) == 0) = false := beq_eq_false_iff_ne.2 (by omega)
  clear hE
  go_enter Try.func44, Try.ntmps44
  go_wp2
  go_ret2
  exact ⟨by rw [HE.out]; rfl, rfl⟩

theorem rblank_ok (w : World) (B : Nat) (p : Dk.Place) (d : DS) (o n e : Nat) (h : RefAt w B p d) (hn : d.n ≤ 1000000) (he : e < 2 ^ 32) (hE : newE d o n e = 0) :
    Calls Try.prog 44 #[.pointer (some ⟨p.x, 0, none⟩), .int .i64 (o : Int), .int .i64 (n : Int), .int .u32 (e : Int)] w fun r w' => ∃ x, r = .returned (.tuple #[.pointer (some ⟨x, 0, none⟩), .int .i64 0]) ∧ w.heap.size ≤ x ∧ JAt w' w.heap.size x p.x none 0 [] (blankJ o n e) ∧ Below w.heap.size w w' := by
  have c0 := h.box.cell 0
  have c3 := h.box.cell 3
  simp at c0 c3
  have hx := h.box.lt
  have hf : ¬ ((o : Int) < 0 ∨ (n : Int) < 1 ∨ (d.n : Int) < (o : Int) ∨ (d.n : Int) - (o : Int) < (n : Int) ∨ e = 0) := fun hf => by
    unfold newE at hE
    rw [if_pos hf] at hE
    cases hE
  have hoff : d.off = false := by
    unfold newE at hE
    rw [if_neg hf] at hE
    cases hd : d.off with
    | false => rfl
    | true => rw [hd] at hE; cases hE
  have n1 : (d.n : Int) ≤ 1000000 := by omega
  have k1 : ¬ (o : Int) < 0 := by omega
  have k2 : ¬ (n : Int) < 1 := by omega
  have k3 : ¬ (d.n : Int) < (o : Int) := by omega
  have k4 : ¬ (d.n : Int) - (o : Int) < (n : Int) := by omega
  have k6 : ((e : Int) == 0) = false := beq_eq_false_iff_ne.2 (by omega)
  have k7 : decide (d.n < o) = false := by simp; omega
  have k8 : decide (n < 1) = false := by simp; omega
  rw [hoff] at c3
  clear h hf hE hoff
  go_enter Try.func44, Try.ntmps44
  go_wp2
  go_ret2
  refine ⟨_, rfl, Nat.le_refl _, ⟨Nat.le_refl _, ?_, ⟨World.ownsRow_nil _ _ _ _, rfl, fun i v hv => by simp at hv⟩⟩, (Below.refl _ _).alloc (Nat.le_refl _) _⟩
  exact Qu.Blk.new _ _ _

end Go.Proofs.Ytedgookkogpfbaa.Jr
