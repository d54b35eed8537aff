/- The statements' Rules as a function of the numbers that they draw: they may be. Nothing of the program. · The statements' Rules: what stands in memory: five lists, each in blocks of its own. -/
import Derived.Test.YtfcmhgneijipgaaGreatPk14
import Derived.Test.YtfcmhgneijipgaaGreatPk23
import Derived.Test.YtfcmhgneijipgaaGreatPk29
import Derived.Test.YtfcmhgneijipgaaGreatPk31
import Derived.Test.YtfcmhgneijipgaaGreatPk34
import Derived.Test.YtfcmhgneijipgaaGreatPk35
import Derived.Test.YtfcmhgneijipgaaGreatPk36

section
set_option maxRecDepth 100000
set_option linter.unusedVariables false
namespace Go.Proofs.YtfcmhgneijipgaaGreat.Py
open Go.ChangeShapes Go.WideShapes Go.ChangeAt Go.RowKit
open Ap (CtR Zon Txs Shp Pol Rls)
open Ru (rulesB taxB kindsB)
def rulesOf (r : Rls) : Rls :=
  ⟨itemsOf r.items, nearsOf r.promos, taxOf r.tax, ⟨modN r.ship.fee 900, modN r.ship.free 3 * 4000⟩,
   ⟨20 + modN r.policy.window 60, modN r.policy.grace 40, 1 + modN r.policy.mode 3, modN r.policy.restock 3 * modN r.policy.restock 2500, kindsOf r.policy.order, kindsOf r.policy.credit⟩⟩
theorem rulesOf_may (r : Rls) (hp : Pm.promosB (nearsOf r.promos) = true) : rulesB (rulesOf r) = true := by
  have h1 : Gd.goodB (itemsOf r.items) = true := Gd.goodB_yes (items_good _)
  have h2 := taxOf_may r.tax
  have h3 := kindsOf_may r.policy.order
  have h4 := kindsOf_may r.policy.credit
  have a1 := modN_lt r.ship.fee 900 (by omega)
  have a2 := modN_lt r.ship.free 3 (by omega)
  have a3 := modN_lt r.policy.window 60 (by omega)
  have a4 := modN_lt r.policy.grace 40 (by omega)
  have a5 := modN_lt r.policy.mode 3 (by omega)
  have a6 := modN_lt r.policy.restock 3 (by omega)
  have a7 := modN_lt r.policy.restock 2500 (by omega)
  have a8 : modN r.policy.restock 3 * modN r.policy.restock 2500 ≤ 2 * 2499 := Nat.mul_le_mul (by omega) (by omega)
  have a9 : ((modN r.policy.restock 3 : Nat) : Int) * (modN r.policy.restock 2500 : Nat) = ((modN r.policy.restock 3 * modN r.policy.restock 2500 : Nat) : Int) := by push_cast; rfl
  unfold rulesB rulesOf
  dsimp only
  rw [h1, h2, h3, h4, hp, a9]
  generalize modN r.policy.restock 3 * modN r.policy.restock 2500 = z at *
  simp only [Bool.true_and, Bool.and_true, Bool.and_eq_true, decide_eq_true_iff]
  omega
end Go.Proofs.YtfcmhgneijipgaaGreat.Py

end

section
set_option maxRecDepth 100000
set_option linter.unusedVariables false
namespace Go.Proofs.YtfcmhgneijipgaaGreat.Kd
open Go.ChangeShapes Go.WideShapes Go.ChangeAt Go.RowKit Go.Deep
section
variable {α : Type} {K : Kind α} {w w' : World} {lo hi E n c : Nat} {v : Value} {A : Option Addr} {xs : List α}
structure Band (K : Kind α) (w : World) (lo hi E : Nat) (v : Value) (n : Nat) (xs : List α) : Prop where
  own : Own K w lo E (fun b => lo ≤ b ∧ b < hi ∧ v.ownBlock ≠ some b) v n xs
  top : ∀ g, v.ownBlock = some g → g < hi
  le : hi ≤ w.heap.size
theorem Band.of_high (h : High K w lo E v n xs) : Band K w lo w.heap.size E v n xs := ⟨h.more fun b k => ⟨k.2, k.1.1, k.1.2⟩, fun g hg => (h.low g hg).2, Nat.le_refl _⟩
theorem Band.of_own (h : Own K w lo E (fun _ => False) v n xs) : Band K w lo w.heap.size E v n xs := ⟨h.more fun b k => k.elim, fun g hg => (h.low g hg).2, Nat.le_refl _⟩
theorem Band.stay (h : Band K w lo hi E v n xs) (hs : w.heap.size ≤ w'.heap.size) (ho : ∀ b, lo ≤ b → b < hi → w'.heap[b]? = w.heap[b]?) : Band K w' lo hi E v n xs :=
  ⟨h.own.stay (fun b hb => ho b hb.1 hb.2.1) fun g hg => ho g (h.own.low g hg).1 (h.top g hg), h.top, Nat.le_trans h.le hs⟩
theorem Band.later (h : Band K w lo hi E v n xs) (hb : Below w.heap.size w w') : Band K w' lo hi E v n xs := h.stay hb.size fun b _ hb2 => hb.block b (Nat.lt_of_lt_of_le hb2 h.le)
theorem Band.lst (h : Band K w lo hi E (.slice A n c) n xs) : Lst K w (· < w.heap.size) ⟨A, n, c⟩ xs :=
  ⟨(h.own.more (G := (· < w.heap.size)) fun b k => Nat.lt_of_lt_of_le k.2.1 h.le).row fun g hg => Nat.lt_of_lt_of_le (h.top g hg) h.le, h.own.fit⟩
end
end Go.Proofs.YtfcmhgneijipgaaGreat.Kd
namespace Go.Proofs.YtfcmhgneijipgaaGreat.Py
open Go.ChangeShapes Go.WideShapes Go.ChangeAt Go.RowKit Go.Deep
open Kd (Kind Row Own Cells Fit Agree High Band Lst kStr kInt)
open Ap (CtR Zon Txs Shp Pol Rls Prm kCtR kZon kPrm)
open It (Itm kItem)
structure Ruled (w w' : World) (r : Rls) (m : Rls.Lay) : Prop where
  bands : ∃ s0 s1 s2 s3 s4 s5, w.heap.size + 3 ≤ s0 ∧ s0 ≤ s1 ∧ s1 ≤ s2 ∧ s2 ≤ s3 ∧ s3 ≤ s4 ∧ s4 ≤ s5 ∧ Band kItem w' s0 s1 44 (.slice m.items.A m.items.n m.items.c) m.items.n r.items ∧ Band kPrm w' s1 s2 51 (.slice m.promos.A m.promos.n m.promos.c) m.promos.n r.promos ∧ Band kZon w' s2 s3 41 (.slice m.tax.zones.A m.tax.zones.n m.tax.zones.c) m.tax.zones.n r.tax.zones ∧ Band kInt w' s3 s4 3 (.slice m.policy.order.A m.policy.order.n m.policy.order.c) m.policy.order.n r.policy.order ∧ Band kInt w' s4 s5 3 (.slice m.policy.credit.A m.policy.credit.n m.policy.credit.c) m.policy.credit.n r.policy.credit
  below : Below w.heap.size w w'
  round : -9223372036854775808 ≤ r.tax.round ∧ r.tax.round ≤ 9223372036854775807
  ship : Shp.ok r.ship
  nums : (-9223372036854775808 ≤ r.policy.window ∧ r.policy.window ≤ 9223372036854775807) ∧ (-9223372036854775808 ≤ r.policy.grace ∧ r.policy.grace ≤ 9223372036854775807) ∧ (-9223372036854775808 ≤ r.policy.mode ∧ r.policy.mode ≤ 9223372036854775807) ∧ -9223372036854775808 ≤ r.policy.restock ∧ r.policy.restock ≤ 9223372036854775807
theorem Ruled.holds {w w' : World} {r : Rls} {m : Rls.Lay} (h : Ruled w w' r m) : Rls.Holds w' (· < w'.heap.size) r m := by
  obtain ⟨s0, s1, s2, s3, s4, s5, _, _, _, _, _, _, h1, h2, h3, h4, h5⟩ := h.bands
  exact ⟨h1.lst, h2.lst, ⟨h.round, h3.lst⟩, h.ship, ⟨h.nums.1, h.nums.2.1, h.nums.2.2.1, h.nums.2.2.2, h4.lst, h5.lst⟩⟩
theorem Ruled.later {w w' W : World} {r : Rls} {m : Rls.Lay} (h : Ruled w w' r m) (hb : Below w'.heap.size w' W) : Ruled w W r m := by
  obtain ⟨s0, s1, s2, s3, s4, s5, a0, a1, a2, a3, a4, a5, h1, h2, h3, h4, h5⟩ := h.bands
  exact ⟨⟨s0, s1, s2, s3, s4, s5, a0, a1, a2, a3, a4, a5, h1.later hb, h2.later hb, h3.later hb, h4.later hb, h5.later hb⟩, h.below.trans (hb.mono h.below.size), h.round, h.ship, h.nums⟩
structure Sure (r : Rls) : Prop where
  may : Ru.rulesB r = true
  small : Ru.RulesSmall r
  small2 : Ru.SmallR r
  items : r.items.length = 8
  zones : r.tax.zones.length = 3
  rates : ∀ (k : Nat) (z : Zon), r.tax.zones[k]? = some z → z.rates.length ≤ 3
  few : r.promos.length ≤ 6 ∧ r.policy.order.length ≤ 6 ∧ r.policy.credit.length ≤ 6
theorem sure_of (r : Rls) (hs : Pm.Slights (nearsOf r.promos)) (hm : Pm.promosB (nearsOf r.promos) = true) (hl : (nearsOf r.promos).length ≤ 6) (hf : ∀ (i : Nat) (q : Prm), (nearsOf r.promos)[i]? = some q → Near q i) : Sure (rulesOf r) := by
  have hi := itemsOf_length r.items
  have hz : ∀ (k : Nat) (z : Zon), (taxOf r.tax).zones[k]? = some z → z.rates.length ≤ 3 := taxOf_few r.tax
  have hz3 : (taxOf r.tax).zones.length = 3 := zonesTo_length _ _
  have ho : (kindsOf r.policy.order).length ≤ 6 := kindsTo_len _ 6
  have hc : (kindsOf r.policy.credit).length ≤ 6 := kindsTo_len _ 6
  refine ⟨rulesOf_may r hm, ⟨by show (itemsOf r.items).length ≤ _; omega, ⟨hs, by show (nearsOf r.promos).length ≤ _; omega⟩, ⟨fun k z h => by have := hz k z h; omega, by show (taxOf r.tax).zones.length ≤ _; omega⟩, by show (kindsOf r.policy.order).length ≤ _; omega, by show (kindsOf r.policy.credit).length ≤ _; omega⟩, ⟨by show (itemsOf r.items).length ≤ _; omega, by show (nearsOf r.promos).length ≤ _; omega, fun p hp => ?_, by show (taxOf r.tax).zones.length ≤ _; omega, fun z h => ?_, by show (kindsOf r.policy.order).length ≤ _; omega, by show (kindsOf r.policy.credit).length ≤ _; omega⟩, hi, hz3, hz, hl, ho, hc⟩
  · obtain ⟨i, hi⟩ := List.mem_iff_getElem?.1 hp
    have hn := hf i p hi
    have hq := hn.few
    refine ⟨⟨by omega, by omega⟩, by omega, fun z hz => ?_, by omega⟩
    obtain ⟨j, hj⟩ := List.mem_iff_getElem?.1 hz
    have := hq.2.2.2.2 j z hj
    exact ⟨by omega, by omega⟩
  · obtain ⟨k, hk⟩ := List.mem_iff_getElem?.1 h
    have := hz k z hk
    omega
theorem results_rules {f : Func} {p : Tmp} {T : TypeId} (hf : f.results = #[.cell p T]) (tmps : Array Value) (w : World) (g : Nat) (vs : Array Value) (hT : T = 33) (h : Qu.Blk w g 33 vs) (hv : vs.size = 14) (hp : tmps.getD p undef = .pointer (some ⟨g, 0, none⟩)) : (results f tmps).run Tryz.prog w = .ok (.agg vs) w := by
  subst hT
  exact results_cell_row hf tmps w g 33 vs (0, 0) _ hp h.here Tryz.underlying33 rfl (by rw [hv]; kernel_rfl)
def RuledAs (w : World) (r : Rls) (e : Ending) (w' : World) : Prop := ∃ m : Rls.Lay, e = .returned (.agg ((rulesOf r).enc m).toArray) ∧ Ruled w w' (rulesOf r) m ∧ Sure (rulesOf r)
theorem rules_end {w W3 wa wb wc wd we : World} {r : Rls} {A1 A2 A3 A4 A5 : Option Addr} {c1 c2 c3 c4 c5 k : Nat} (h3 : Below w.heap.size w W3) (hz : W3.heap.size = w.heap.size + 3) {u : World} (hu : Below W3.heap.size W3 u)
    (h1 : Made u wa (.slice A1 8 c1) 8 r.items) (h2 : Highed wa wb (.slice A2 k c2) (nearsOf r.promos) k) (h4 : High kZon wc wb.heap.size 41 (.slice A3 3 c3) 3 (zonesTo r.tax.zones 3)) (hb4 : Below wb.heap.size wb wc)
    (h5 : Own kInt wd wc.heap.size 3 (fun _ => False) (.slice A4 (kindsOf r.policy.order).length c4) (kindsOf r.policy.order).length (kindsOf r.policy.order)) (hb5 : Below wc.heap.size wc wd)
    (h6 : Own kInt we wd.heap.size 3 (fun _ => False) (.slice A5 (kindsOf r.policy.credit).length c5) (kindsOf r.policy.credit).length (kindsOf r.policy.credit)) (hb6 : Below wd.heap.size wd we) {W9 : World} (hs : we.heap.size ≤ W9.heap.size) (hW : ∀ b, b ≠ w.heap.size + 1 → W9.heap[b]? = we.heap[b]?) (h9 : Below w.heap.size w W9) :
    Ruled w W9 (rulesOf r) ⟨⟨A1, 8, c1⟩, ⟨A2, k, c2⟩, ⟨⟨A3, 3, c3⟩⟩, ⟨⟨A4, (kindsOf r.policy.order).length, c4⟩, ⟨A5, (kindsOf r.policy.credit).length, c5⟩⟩⟩ ∧ Sure (rulesOf r) := by
  have t1 := h1.below.size
  have t2 := h2.below.size
  have t4 := hb4.size
  have t5 := hb5.size
  have t6 := hb6.size
  have tu := hu.size
  have hi := itemsOf_length r.items
  have q1 : Band kItem wa u.heap.size wa.heap.size 44 (.slice A1 8 c1) 8 (itemsOf r.items) := by
    have := h1.own
    rw [List.take_of_length_le (by omega)] at this
    exact Band.of_own this
  have q2 := Band.of_high h2.own
  have q4 := Band.of_high h4
  have q5 := Band.of_own h5
  have q6 := Band.of_own h6
  have b1 := (((q1.later h2.below).later hb4).later hb5).later hb6
  have b2 := ((q2.later hb4).later hb5).later hb6
  have b4 := (q4.later hb5).later hb6
  have b5 := q5.later hb6
  have far : ∀ lo b : Nat, W3.heap.size ≤ lo → lo ≤ b → W9.heap[b]? = we.heap[b]? := fun lo b h k => hW b (by omega)
  have m1 := modN_lt r.tax.round 3 (by omega)
  have m2 := modN_lt r.ship.fee 900 (by omega)
  have m3 := modN_lt r.ship.free 3 (by omega)
  have m4 := modN_lt r.policy.window 60 (by omega)
  have m5 := modN_lt r.policy.grace 40 (by omega)
  have m6 := modN_lt r.policy.mode 3 (by omega)
  have m7 := modN_lt r.policy.restock 3 (by omega)
  have m8 := modN_lt r.policy.restock 2500 (by omega)
  have m9 : (modN r.policy.restock 3 : Int) * (modN r.policy.restock 2500 : Int) ≤ 2 * 2500 := Int.mul_le_mul (by omega) (by omega) (by omega) (by omega)
  have m10 : 0 ≤ (modN r.policy.restock 3 : Int) * (modN r.policy.restock 2500 : Int) := Int.mul_nonneg (by omega) (by omega)
  refine ⟨⟨⟨u.heap.size, wa.heap.size, wb.heap.size, wc.heap.size, wd.heap.size, we.heap.size, by omega, t1, t2, t4, t5, t6, b1.stay hs fun b k _ => far _ b (by omega) k, b2.stay hs fun b k _ => far _ b (by omega) k, b4.stay hs fun b k _ => far _ b (by omega) k, b5.stay hs fun b k _ => far _ b (by omega) k, q6.stay hs fun b k _ => far _ b (by omega) k⟩, h9, ⟨by show -9223372036854775808 ≤ (modN r.tax.round 3 : Int); omega, by show (modN r.tax.round 3 : Int) ≤ 9223372036854775807; omega⟩, ⟨⟨by show -9223372036854775808 ≤ (modN r.ship.fee 900 : Int); omega, by show (modN r.ship.fee 900 : Int) ≤ 9223372036854775807; omega⟩, by show -9223372036854775808 ≤ (modN r.ship.free 3 : Int) * 4000; omega, by show (modN r.ship.free 3 : Int) * 4000 ≤ 9223372036854775807; omega⟩, ⟨by show -9223372036854775808 ≤ 20 + (modN r.policy.window 60 : Int); omega, by show 20 + (modN r.policy.window 60 : Int) ≤ 9223372036854775807; omega⟩, ⟨by show -9223372036854775808 ≤ (modN r.policy.grace 40 : Int); omega, by show (modN r.policy.grace 40 : Int) ≤ 9223372036854775807; omega⟩, ⟨by show -9223372036854775808 ≤ 1 + (modN r.policy.mode 3 : Int); omega, by show 1 + (modN r.policy.mode 3 : Int) ≤ 9223372036854775807; omega⟩, by show -9223372036854775808 ≤ (modN r.policy.restock 3 : Int) * (modN r.policy.restock 2500 : Int); omega, by show (modN r.policy.restock 3 : Int) * (modN r.policy.restock 2500 : Int) ≤ 9223372036854775807; omega⟩, ?_⟩
  exact sure_of r h2.old.slights h2.old.yes (by rw [h2.own.len]; exact h2.few) h2.each
end Go.Proofs.YtfcmhgneijipgaaGreat.Py

end
