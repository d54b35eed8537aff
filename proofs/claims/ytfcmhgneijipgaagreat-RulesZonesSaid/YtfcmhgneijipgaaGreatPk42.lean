/- Law 13: a tax in a box of the call's own; what the landed Zone and the document's tell, said alike. -/
import Derived.Test.YtfcmhgneijipgaaGreatPk28
import Derived.Test.YtfcmhgneijipgaaGreatPk31

set_option maxRecDepth 100000
set_option linter.unusedVariables false
namespace Go.Proofs.YtfcmhgneijipgaaGreat.Ru
open Go.ChangeShapes Go.WideShapes Go.ChangeAt Go.RowKit
open Ap (CtR Zon Txs kCtR kZon row_CtR row_Zon)
open Kd (Row Lst Sl Fit Agree eqL High)
open Py (zonS zonAt zonesTo modN catS two cat_two zon_lt)
structure BoxT (w W : World) (b : Nat) (t : Txs) (l : Txs.Lay) : Prop where
  blk : Qu.Blk W b 26 #[.bool t.incl, .bool t.byOrder, .int .i64 t.round, .slice l.zones.A l.zones.n l.zones.c]
  holds : Txs.Holds W (· < W.heap.size) t l
  below : Below w.heap.size w W
theorem lst_on {α : Type} {K : Kd.Kind α} {w w1 : World} {s : Sl} {xs : List α} (h : Lst K w (· < w.heap.size) s xs) (hb : Below w.heap.size w w1) : Lst K w1 (· < w1.heap.size) s xs :=
  ⟨(h.row.below hb (Nat.le_refl _)).more fun b k => Nat.lt_of_lt_of_le k hb.size, h.fit⟩
theorem BoxT.later {w W W' : World} {b : Nat} {t : Txs} {l : Txs.Lay} (h : BoxT w W b t l) (hb : Below W.heap.size W W') : BoxT w W' b t l := ⟨h.blk.below hb, ⟨h.holds.round, lst_on h.holds.zones hb⟩, h.below.trans (hb.mono h.below.size)⟩
theorem BoxT.store {w W wa W9 : World} {b n c : Nat} {A : Option Addr} {t0 t : Txs} {l0 : Txs.Lay} (h : BoxT w W b t0 l0) (hw : w.heap.size ≤ b) (hb : Below W.heap.size W wa) (hr : -9223372036854775808 ≤ t.round ∧ t.round ≤ 9223372036854775807) (hz : High kZon wa W.heap.size 41 (.slice A n c) n t.zones)
    (hW : ((((wa.setCell ⟨b, 0, none⟩ (.bool t.incl)).setCell ⟨b, 1, none⟩ (.bool t.byOrder)).setCell ⟨b, 2, none⟩ (.int .i64 t.round)).setCell ⟨b, 3, none⟩ (.slice A n c)) = W9) : BoxT w W9 b t ⟨⟨A, n, c⟩⟩ := by
  have hbl := h.blk.lt
  have hs : wa.heap.size ≤ W9.heap.size := by rw [← hW]; simp
  have hfar : ∀ g, g ≠ b → W9.heap[g]? = wa.heap[g]? := fun g hne => by rw [← hW, Below.heap_setCell _ _ _ _ hne, Below.heap_setCell _ _ _ _ hne, Below.heap_setCell _ _ _ _ hne, Below.heap_setCell _ _ _ _ hne]
  refine ⟨?_, ⟨hr, (hz.only hs fun g _ k => hfar g (by omega)).lst⟩, ?_⟩
  · rw [← hW]
    exact ((((h.blk.below hb).put 0 (.bool t.incl)).put 1 (.bool t.byOrder)).put 2 (.int .i64 t.round)).put 3 (.slice A n c)
  · rw [← hW]
    exact ((((h.below.trans (hb.mono h.below.size)).setCell hw _).setCell hw _).setCell hw _).setCell hw _
def zoneD (l : List Zon) (s : ByteArray) : Zon := (zoneOf l s).getD ⟨⟨#[]⟩, [], 0, 0⟩
theorem ToldY.both {w w' : World} {e : Ending} {l : List Zon} {s : ByteArray} (h : ToldY w w' e (zoneOf l s)) : Below w.heap.size w w' ∧ ∃ m : Zon.Lay, Zon.Holds w' (· < w'.heap.size) (zoneD l s) m ∧ e = .returned (.tuple #[.agg #[.string (zoneD l s).name, .slice m.rates.A m.rates.n m.rates.c, .int .i64 (zoneD l s).rest, .int .i64 (zoneD l s).ship], .bool (zoneOf l s).isSome]) := by
  unfold ToldY at h
  unfold zoneD
  cases ho : zoneOf l s with
  | none =>
    rw [ho] at h
    exact ⟨h.1, ⟨⟨none, 0, 0⟩⟩, ⟨by show (0 : Nat) ≤ maxLen; unfold maxLen; omega, nil_lst _ _ _, ⟨by show (-9223372036854775808 : Int) ≤ 0; omega, by show (0 : Int) ≤ 9223372036854775807; omega⟩, by show (-9223372036854775808 : Int) ≤ 0; omega, by show (0 : Int) ≤ 9223372036854775807; omega⟩, h.2⟩
  | some z =>
    rw [ho] at h
    obtain ⟨hb, m, hm, he⟩ := h
    exact ⟨hb, m, hm, he⟩
theorem ToldZ.both {w w' : World} {e : Ending} {l : List Zon} {s : ByteArray} (h : ToldZ w w' e (zoneOf l s)) : Below w.heap.size w w' ∧ ∃ m : Zon.Lay, Zon.Holds w' (· < w'.heap.size) (zoneD l s) m ∧ e = .returned (.tuple #[.agg #[.string (zoneD l s).name, .slice m.rates.A m.rates.n m.rates.c, .int .i64 (zoneD l s).rest, .int .i64 (zoneD l s).ship], .bool (zoneOf l s).isSome]) := by
  unfold ToldZ at h
  unfold zoneD
  cases ho : zoneOf l s with
  | none =>
    rw [ho] at h
    exact ⟨h.1, ⟨⟨none, 0, 0⟩⟩, ⟨by show (0 : Nat) ≤ maxLen; unfold maxLen; omega, nil_lst _ _ _, ⟨by show (-9223372036854775808 : Int) ≤ 0; omega, by show (0 : Int) ≤ 9223372036854775807; omega⟩, by show (-9223372036854775808 : Int) ≤ 0; omega, by show (0 : Int) ≤ 9223372036854775807; omega⟩, h.2⟩
  | some z =>
    rw [ho] at h
    obtain ⟨hb, m, hm, he⟩ := h
    exact ⟨hb, m, ⟨hm.name, lst_on hm.rates hb, hm.rest, hm.ship⟩, he⟩
theorem zoneD_small {l : List Zon} {s : ByteArray} (h : ZonesSmall l) : (zoneD l s).rates.length ≤ 1000000000000 := by
  unfold zoneD
  cases ho : zoneOf l s with
  | none => show (0 : Nat) ≤ _; omega
  | some z =>
    unfold zoneOf at ho
    obtain ⟨k, hk⟩ := List.mem_iff_getElem?.1 (List.mem_of_find?_eq_some ho)
    exact h k z hk
theorem eqZ_refl2 (x : Zon) : eqZ x x = true := by unfold eqZ; rw [Kd.eqL_refl Ap.CtR.sameB_refl]; simp [Sr.same_refl]
theorem pzone_any (a : Int) (w : World) : Calls Tryz.prog 19 #[.int .i64 a] w fun e w' => e = .returned (.string (zonS (modN a 3))) ∧ Below w.heap.size w w' := by
  have HM := Lib.hid (Py.mod_any a 3 w (by omega) (by omega))
  have ht := Py.modN_lt a 3 (by omega)
  generalize hk : modN a 3 = t at HM ht ⊢
  have hr := fun W => By.run_text (P := Tryz.prog) (c := 1) 63 9 5 Tryz.underlying63 Tryz.underlying5 Tryz.underlying9 (By.Bys.made W 5 (48 + (t : Int)) (by omega) (by omega))
  have e : (48 + (t : Int)).toNat = 48 + t := by omega
  rw [e] at hr
  have hc : ∀ W, (Op.stringOp .add ⟨#[122]⟩ (By.strOf [UInt8.ofNat (48 + t)])).run Tryz.prog W = .ok (.string (zonS t)) W := fun W => cat_two 122 (48 + t) W
  obtain ⟨x, hx⟩ : ∃ x, By.strOf [UInt8.ofNat (48 + t)] = x := ⟨_, rfl⟩
  simp only [hx] at hr hc
  clear hk hx
  go_enter Tryz.func19, Tryz.ntmps19
  go_wp2_with fail
  refine HM.out.mono ?_
  rintro e w1 ⟨rfl, rfl⟩
  go_wp2
  go_ret
  exact ⟨rfl, (Below.refl _ _).alloc (Nat.le_refl _) _⟩
theorem zone_found (l : List Zon) {j : Nat} (hj : j < 3) : (zoneOf (zonesTo l 3) (zonS j)).isSome = true := by
  have hx : (zonesTo l 3)[j]? = some (zonAt l j) := by unfold Py.zonesTo; rw [List.getElem?_map, List.getElem?_range hj]; rfl
  have := find_at (p := fun z => Sr.same z.name (zonS j)) hx (by show Sr.same (zonAt l j).name (zonS j) = true; rw [Py.zonAt_name]; exact Sr.same_refl _) fun i y hi hy => by
    obtain ⟨_, rfl⟩ := Py.zonesTo_get hy
    show Sr.same (zonAt l i).name (zonS j) = false
    rw [Py.zonAt_name]
    exact Sr.same_ne (Sr.lt_ne (zon_lt hi hj))
  unfold zoneOf
  rw [this]
  rfl
end Go.Proofs.YtfcmhgneijipgaaGreat.Ru
