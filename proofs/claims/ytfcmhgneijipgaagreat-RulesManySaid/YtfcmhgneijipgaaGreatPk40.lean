/- RulesMany: so many zones, rates and kinds: mathematics, and what stands in memory while they are made. -/
import Derived.Deep.CutBlock
import Derived.Deep.DeepCutAuto
import Derived.Deep.LoopGhost
import Derived.Deep.RegionHeld3
import Derived.IntWalk
import Derived.Test.YtfcmhgneijipgaaGreatPk1
import Derived.Test.YtfcmhgneijipgaaGreatPk14
import Derived.Test.YtfcmhgneijipgaaGreatPk2
import Derived.Test.YtfcmhgneijipgaaGreatPk23
import Derived.Test.YtfcmhgneijipgaaGreatPk28
import Derived.Test.YtfcmhgneijipgaaGreatPk29
import Derived.Test.YtfcmhgneijipgaaGreatPk3
import Derived.Test.YtfcmhgneijipgaaGreatPk30
import Derived.Test.YtfcmhgneijipgaaGreatPk9

set_option maxRecDepth 100000
set_option linter.unusedVariables false
namespace Go.Proofs.YtfcmhgneijipgaaGreat.Ru
open Go.ChangeShapes Go.WideShapes Go.ChangeAt Go.RowKit Go.Deep
open Ap (CtR Zon Txs Shp Pol Rls kCtR kZon Zon_rep CtR_rep)
open Kd (Row Own Cells Lst Sl Fit Agree kInt)
open Py (two two_list two_name two_lt two_size)
/-! ### Names that rise -/
theorem two_lt1 {a b c d : Nat} (h : a < c) (hc : c < 256) : Sr.lt (two a b) (two c d) = true := by
  unfold Sr.lt
  rw [two_list, two_list]
  have h1 : UInt8.ofNat a < UInt8.ofNat c := by
    rw [UInt8.lt_iff_toNat_lt, By.toNat_small (by omega), By.toNat_small hc]; exact h
  simp [Op.bytesLess, h1]
def zM (i : Nat) : Zon := ⟨two 97 (97 + i), [], 0, 0⟩
def zL (k : Nat) : List Zon := (List.range k).map zM
theorem zL_succ (k : Nat) : zL (k + 1) = zL k ++ [zM k] := by unfold zL; rw [List.range_succ, List.map_append]; rfl
theorem zL_len (k : Nat) : (zL k).length = k := by unfold zL; simp
theorem zL_get {k i : Nat} {x : Zon} (h : (zL k)[i]? = some x) : i < k ∧ x = zM i := by
  have h1 := (List.getElem?_eq_some_iff.1 h).1
  rw [zL_len] at h1
  unfold zL at h
  rw [List.getElem?_map, List.getElem?_range h1] at h
  injection h with h
  exact ⟨h1, h.symm⟩
def rM (i : Nat) : CtR := ⟨two (97 + i / 10) (48 + i % 10), 0⟩
def rL (k : Nat) : List CtR := (List.range k).map rM
theorem rL_succ (k : Nat) : rL (k + 1) = rL k ++ [rM k] := by unfold rL; rw [List.range_succ, List.map_append]; rfl
theorem rL_len (k : Nat) : (rL k).length = k := by unfold rL; simp
theorem rL_get {k i : Nat} {x : CtR} (h : (rL k)[i]? = some x) : i < k ∧ x = rM i := by
  have h1 := (List.getElem?_eq_some_iff.1 h).1
  rw [rL_len] at h1
  unfold rL at h
  rw [List.getElem?_map, List.getElem?_range h1] at h
  injection h with h
  exact ⟨h1, h.symm⟩
theorem nil_rates : ratesB [] = true := ratesB_yes ⟨fun i x h => by simp at h, fun i x y h => by simp at h, by simp⟩
theorem zL_may {k : Nat} (hk : k ≤ 21) : zonesB (zL k) = decide (k ≤ 20) := by
  by_cases h : k ≤ 20
  · rw [decide_eq_true h]
    refine zonesB_yes ⟨fun i x hx => ?_, fun i x y hx hy => ?_, by rw [zL_len]; exact h⟩
    · obtain ⟨hi, rfl⟩ := zL_get hx
      have hn : Sr.name (two 97 (97 + i)) = true := two_name (by decide) (by unfold Sr.plain; simp; omega) (by omega) (by omega)
      show (Sr.name (two 97 (97 + i)) && (ratesB [] && inB 0 10000 && inB 0 10000)) = true
      rw [hn, nil_rates]
      decide
    · obtain ⟨hi, rfl⟩ := zL_get hx
      obtain ⟨hj, rfl⟩ := zL_get hy
      exact two_lt (by omega) (by omega)
  · rw [decide_eq_false h]
    exact zonesB_no fun hz => h (by have := hz.few; rwa [zL_len] at this)
theorem rL_may {k : Nat} (hk : k ≤ 41) : ratesB (rL k) = decide (k ≤ 40) := by
  by_cases h : k ≤ 40
  · rw [decide_eq_true h]
    refine ratesB_yes ⟨fun i x hx => ?_, fun i x y hx hy => ?_, by rw [rL_len]; exact h⟩
    · obtain ⟨hi, rfl⟩ := rL_get hx
      have hn : Sr.name (two (97 + i / 10) (48 + i % 10)) = true := two_name (by unfold Sr.plain; simp; omega) (by unfold Sr.plain; simp; omega) (by omega) (by omega)
      show (Sr.name (two (97 + i / 10) (48 + i % 10)) && inB 0 10000) = true
      rw [hn]
      decide
    · obtain ⟨hi, rfl⟩ := rL_get hx
      obtain ⟨hj, rfl⟩ := rL_get hy
      show Sr.lt (two (97 + i / 10) (48 + i % 10)) (two (97 + (i + 1) / 10) (48 + (i + 1) % 10)) = true
      by_cases hd : (i + 1) / 10 = i / 10
      · rw [hd]
        exact two_lt (by omega) (by omega)
      · exact two_lt1 (by omega) (by omega)
  · rw [decide_eq_false h]
    exact ratesB_no fun hz => h (by have := hz.few; rwa [rL_len] at this)
def zA (k : Nat) : Zon := ⟨⟨#[97]⟩, rL k, 0, 0⟩
theorem a_name : Sr.name ⟨#[97]⟩ = true := by decide
theorem uT_may {k : Nat} (hk : k ≤ 41) : taxB ⟨false, false, 0, [zA k]⟩ = decide (k ≤ 40) := by
  have hz : zonesB [zA k] = ratesB (rL k) := by
    cases hr : ratesB (rL k) with
    | true =>
      refine zonesB_yes ⟨fun i x hx => ?_, fun i x y hx hy => ?_, by simp⟩
      · have : x = zA k := List.mem_singleton.1 (List.mem_of_getElem? hx)
        subst this
        show (Sr.name ⟨#[97]⟩ && (ratesB (rL k) && inB 0 10000 && inB 0 10000)) = true
        rw [a_name, hr]
        decide
      · rw [show i + 1 = i + 1 from rfl] at hy
        simp at hy
    | false =>
      refine zonesB_no fun hz => ?_
      have := hz.each 0 (zA k) rfl
      have h2 : (Sr.name ⟨#[97]⟩ && (ratesB (rL k) && inB 0 10000 && inB 0 10000)) = true := this
      rw [hr, a_name] at h2
      cases h2
  unfold taxB
  dsimp only
  rw [hz, rL_may hk]
  simp
theorem tT_may {k : Nat} (hk : k ≤ 21) : taxB ⟨false, false, 0, zL k⟩ = decide (k ≤ 20) := by
  unfold taxB
  dsimp only
  rw [zL_may hk]
  simp
/-! ### Kinds -/
def nine : List Int := [1, 2, 3, 4, 5, 6, 7, 8, 9]
theorem nine_get {i : Nat} {x : Int} (h : nine[i]? = some x) : i < 9 ∧ x = (i : Int) + 1 := by
  have h1 := (List.getElem?_eq_some_iff.1 h).1
  have h2 : i < 9 := h1
  refine ⟨h2, ?_⟩
  match i, h2, h with
  | 0, _, h => injection h with h; exact h.symm
  | 1, _, h => injection h with h; exact h.symm
  | 2, _, h => injection h with h; exact h.symm
  | 3, _, h => injection h with h; exact h.symm
  | 4, _, h => injection h with h; exact h.symm
  | 5, _, h => injection h with h; exact h.symm
  | 6, _, h => injection h with h; exact h.symm
  | 7, _, h => injection h with h; exact h.symm
  | 8, _, h => injection h with h; exact h.symm
theorem nine_may : kindsB nine = true := kindsB_yes ⟨fun i x h => by
  obtain ⟨h1, rfl⟩ := nine_get h
  omega, fun i j x y hij hx hy => by
  obtain ⟨h1, rfl⟩ := nine_get hx
  obtain ⟨h2, rfl⟩ := nine_get hy
  omega⟩
def rR (x : Int) : Rls := ⟨[], [], ⟨false, false, 0, []⟩, ⟨0, 0⟩, ⟨0, 0, 3, 0, nine, [x]⟩⟩
theorem rR_may (x : Nat) (hx : x < 2) : rulesB (rR (9 + (x : Int))) = decide (x = 0) := by
  have hk : kindsB [9 + (x : Int)] = decide (x = 0) := by
    by_cases h : x = 0
    · rw [decide_eq_true h]
      exact kindsB_yes ⟨fun i y hy => by
        have : y = 9 + (x : Int) := List.mem_singleton.1 (List.mem_of_getElem? hy)
        omega, fun i j y z hij hy hz => by
        have h1 := (List.getElem?_eq_some_iff.1 hy).1
        have h2 := (List.getElem?_eq_some_iff.1 hz).1
        simp at h1 h2
        omega⟩
    · rw [decide_eq_false h]
      exact kindsB_no fun hz => by
        have := hz.each 0 _ rfl
        omega
  unfold rulesB rR taxB
  dsimp only
  rw [nil_goods, nil_promos, nil_zones, nine_may, hk]
  simp
theorem cells_ints {w : World} {F : Nat → Prop} : ∀ {xs : List Int}, (∀ x ∈ xs, -9223372036854775808 ≤ x ∧ x ≤ 9223372036854775807) → Cells kInt w F xs (xs.map (Value.int .i64))
  | [], _ => rfl
  | x :: xs, h => ⟨[.int .i64 x], _, rfl, ⟨rfl, h x List.mem_cons_self⟩, cells_ints fun y hy => h y (List.mem_cons_of_mem _ hy)⟩
theorem rR_holds {w : World} {g1 g2 : Nat} {x : Nat} (hx : x < 2) (h1 : Qu.Blk w g1 3 #[.int .i64 1, .int .i64 2, .int .i64 3, .int .i64 4, .int .i64 5, .int .i64 6, .int .i64 7, .int .i64 8, .int .i64 9]) (h2 : Qu.Blk w g2 3 #[.int .i64 (9 + (x : Int))]) :
    Rls.Holds w (· < w.heap.size) (rR (9 + (x : Int))) ⟨⟨none, 0, 0⟩, ⟨none, 0, 0⟩, ⟨⟨none, 0, 0⟩⟩, ⟨⟨some ⟨g1, 0, none⟩, 9, 9⟩, ⟨some ⟨g2, 0, none⟩, 1, 1⟩⟩⟩ :=
  ⟨nil_lst _ _ _, nil_lst _ _ _, ⟨⟨by show (-9223372036854775808 : Int) ≤ 0; omega, by show (0 : Int) ≤ 9223372036854775807; omega⟩, nil_lst _ _ _⟩, ⟨⟨by show (-9223372036854775808 : Int) ≤ 0; omega, by show (0 : Int) ≤ 9223372036854775807; omega⟩, by show (-9223372036854775808 : Int) ≤ 0; omega, by show (0 : Int) ≤ 9223372036854775807; omega⟩,
    ⟨⟨by show (-9223372036854775808 : Int) ≤ 0; omega, by show (0 : Int) ≤ 9223372036854775807; omega⟩, ⟨by show (-9223372036854775808 : Int) ≤ 0; omega, by show (0 : Int) ≤ 9223372036854775807; omega⟩, ⟨by show (-9223372036854775808 : Int) ≤ 3; omega, by show (3 : Int) ≤ 9223372036854775807; omega⟩, ⟨by show (-9223372036854775808 : Int) ≤ 0; omega, by show (0 : Int) ≤ 9223372036854775807; omega⟩,
      ⟨Kd.row_blk (cs := nine.map (Value.int .i64)) h1 (cells_ints fun y hy => by
        obtain ⟨i, hi⟩ := List.mem_iff_getElem?.1 hy
        obtain ⟨h, rfl⟩ := nine_get hi
        omega) rfl h1.lt, (fun h => nomatch h), Nat.le_refl _, by show (9 : Nat) ≤ _; omega⟩,
      ⟨Kd.row_blk (cs := [9 + (x : Int)].map (Value.int .i64)) h2 (cells_ints fun y hy => by
        have : y = 9 + (x : Int) := List.mem_singleton.1 hy
        omega) rfl h2.lt, (fun h => nomatch h), Nat.le_refl _, by show (1 : Nat) ≤ _; omega⟩⟩⟩
theorem rR_small (x : Int) : RulesSmall (rR x) :=
  ⟨by show (0 : Nat) ≤ _; omega, ⟨fun k p h => by simp [rR] at h, by show (0 : Nat) ≤ _; omega⟩, ⟨fun k z h => by simp [rR] at h, by show (0 : Nat) ≤ _; omega⟩, by show (9 : Nat) ≤ _; omega, by show (1 : Nat) ≤ _; omega⟩
/-! ### In memory -/
theorem text_two (W : World) (a b : Nat) (ha : a < 256) (hb : b < 256) : (convert 63 9 (.slice (some ⟨W.heap.size, 0, none⟩) 2 2)).run Tryz.prog (W.alloc (.cells #[.int .u8 (a : Int), .int .u8 (b : Int)] 5)) = .ok (.string (By.strOf [UInt8.ofNat a, UInt8.ofNat b])) (W.alloc (.cells #[.int .u8 (a : Int), .int .u8 (b : Int)] 5)) := by
  have h : By.Bys (W.alloc (.cells #[.int .u8 (a : Int), .int .u8 (b : Int)] 5)) (W.heap.size + 1) (some ⟨W.heap.size, 0, none⟩) 2 [UInt8.ofNat a, UInt8.ofNat b] := ⟨rfl, fun k c hk => by
    refine ⟨W.heap.size, 0, rfl, by omega, ?_⟩
    have hl := (List.getElem?_eq_some_iff.1 hk).1
    rw [Nat.zero_add, Qu.Blk.cell (Qu.Blk.new W 5 _) k]
    obtain e | e : k = 0 ∨ k = 1 := by simp at hl; omega
    · subst e
      obtain rfl : UInt8.ofNat a = c := by simpa using hk
      rw [By.toNat_small ha]; rfl
    · subst e
      obtain rfl : UInt8.ofNat b = c := by simpa using hk
      rw [By.toNat_small hb]; rfl⟩
  exact By.run_text (P := Tryz.prog) (c := 2) 63 9 5 Tryz.underlying63 Tryz.underlying5 Tryz.underlying9 h
theorem zM_rep (w : World) (F : Nat → Prop) (k : Nat) : kZon.rep w F (zM k) [.string (two 97 (97 + k)), .slice none 0 0, .int .i64 0, .int .i64 0] :=
  Zon_rep.2 ⟨⟨⟨none, 0, 0⟩⟩, rfl, by show (two 97 (97 + k)).size ≤ maxLen; rw [two_size]; unfold maxLen; omega, nil_lst _ _ _, ⟨by show (-9223372036854775808 : Int) ≤ 0; omega, by show (0 : Int) ≤ 9223372036854775807; omega⟩, by show (-9223372036854775808 : Int) ≤ 0; omega, by show (0 : Int) ≤ 9223372036854775807; omega⟩
theorem rM_rep (w : World) (F : Nat → Prop) (k : Nat) : kCtR.rep w F (rM k) [.string (two (97 + k / 10) (48 + k % 10)), .int .i64 0] :=
  CtR_rep.2 ⟨rfl, by show (two _ _).size ≤ maxLen; rw [two_size]; unfold maxLen; omega, by show (-9223372036854775808 : Int) ≤ 0; omega, by show (0 : Int) ≤ 9223372036854775807; omega⟩
structure MZ (w wr : World) (v : Value) (k : Nat) : Prop where
  below : Below w.heap.size w wr
  tb : Qu.Blk wr w.heap.size 26 #[.bool false, .bool false, .int .i64 0, v]
  ub : Qu.Blk wr (w.heap.size + 1) 26 #[.bool false, .bool false, .int .i64 0, .slice none 0 0]
  own : Own kZon wr (w.heap.size + 2) 41 (fun _ => False) v k (zL k)
theorem MZ.later {w wr w' : World} {v : Value} {k : Nat} (h : MZ w wr v k) (hb : Below wr.heap.size wr w') : MZ w w' v k := ⟨h.below.trans (hb.mono h.below.size), h.tb.below hb, h.ub.below hb, h.own.later hb⟩
theorem MZ.push {w W w9 : World} {v : Value} {k g cap : Nat} (h : MZ w W v k) (hown : Own kZon w9 (w.heap.size + 2) 41 (fun _ => False) (.slice (some ⟨g, 0, none⟩) (k + 1) cap) (k + 1) (zL k ++ [zM k])) (hgrow : W.grownBy w9 v.ownBlock) : MZ w (w9.setCell ⟨w.heap.size, 3, none⟩ (.slice (some ⟨g, 0, none⟩) (k + 1) cap)) (.slice (some ⟨g, 0, none⟩) (k + 1) cap) (k + 1) ∧ Qu.Blk w9 w.heap.size 26 #[.bool false, .bool false, .int .i64 0, v] := by
  have hlow : ∀ q, v.ownBlock = some q → w.heap.size + 2 ≤ q := fun q hq => (h.own.low q hq).1
  have ht : Qu.Blk w9 w.heap.size 26 #[.bool false, .bool false, .int .i64 0, v] := h.tb.grown hgrow fun e => by have := hlow _ e.symm; omega
  refine ⟨⟨(h.below.grown hgrow h.below.size fun q hq => by have := hlow q hq; omega).setCell (Nat.le_refl _) _, ht.put 3 (.slice (some ⟨g, 0, none⟩) (k + 1) cap), Py.blk_far2 (h.ub.grown hgrow fun e => by have := hlow _ e.symm; omega) (by omega), ?_⟩, ht⟩
  rw [zL_succ]
  exact hown.stay (fun b hb => hb.elim) fun q hq => Below.heap_setCell w9 _ _ q (by have := (hown.low q hq).1; show q ≠ w.heap.size; omega)
theorem zL_small (k : Nat) : ZonesSmall (zL k) := fun i z h => by
  obtain ⟨_, rfl⟩ := zL_get h
  show (0 : Nat) ≤ _
  omega
structure MR (w wr : World) (A : Option Addr) (z c g1 : Nat) (vr : Value) (k : Nat) : Prop where
  below : Below w.heap.size w wr
  tb : Qu.Blk wr w.heap.size 26 #[.bool false, .bool false, .int .i64 0, .slice A z c]
  trow : Own kZon wr (w.heap.size + 2) 41 (fun _ => False) (.slice A z c) z (zL z)
  ttop : ∀ q, (Value.slice A z c).ownBlock = some q → q < g1
  ub : Qu.Blk wr (w.heap.size + 1) 26 #[.bool false, .bool false, .int .i64 0, .slice (some ⟨g1, 0, none⟩) 1 1]
  zb : Qu.Blk wr g1 41 #[.string ⟨#[97]⟩, vr, .int .i64 0, .int .i64 0]
  own : Own kCtR wr (g1 + 1) 53 (fun _ => False) vr k (rL k)
  low : w.heap.size + 2 ≤ g1
theorem MR.later {w wr w' : World} {A : Option Addr} {z c g1 k : Nat} {vr : Value} (h : MR w wr A z c g1 vr k) (hb : Below wr.heap.size wr w') : MR w w' A z c g1 vr k :=
  ⟨h.below.trans (hb.mono h.below.size), h.tb.below hb, h.trow.later hb, h.ttop, h.ub.below hb, h.zb.below hb, h.own.later hb, h.low⟩
theorem MR.begin {w wr W : World} {A : Option Addr} {z c : Nat} (h : MZ w wr (.slice A z c) z) (hW : wr.alloc (.cells #[.string ⟨#[97]⟩, .slice none 0 0, .int .i64 0, .int .i64 0] 41) = W) : MR w (W.setCell ⟨w.heap.size + 1, 3, none⟩ (.slice (some ⟨wr.heap.size, 0, none⟩) 1 1)) A z c wr.heap.size (.slice none 0 0) 0 ∧ MZ w W (.slice A z c) z := by
  have hb : Below wr.heap.size wr W := by rw [← hW]; exact (Below.refl _ _).alloc (Nat.le_refl _) _
  have hz : Qu.Blk W wr.heap.size 41 #[.string ⟨#[97]⟩, .slice none 0 0, .int .i64 0, .int .i64 0] := by rw [← hW]; exact Qu.Blk.new wr _ _
  have h2 := h.later hb
  have hs : w.heap.size + 2 ≤ wr.heap.size := by have := h.ub.lt; omega
  refine ⟨⟨h2.below.setCell (by show w.heap.size ≤ w.heap.size + 1; omega) _, Py.blk_far2 h2.tb (by omega), h2.own.stay (fun b k => k.elim) fun q hq => Below.heap_setCell W _ _ q (by have := (h2.own.low q hq).1; show q ≠ w.heap.size + 1; omega), fun q hq => (h.own.low q hq).2, h2.ub.put 3 (.slice (some ⟨wr.heap.size, 0, none⟩) 1 1), Py.blk_far2 hz (by omega), Own.nil _ _ _ _ _, hs⟩, h2⟩
theorem MR.push {w W w9 : World} {A : Option Addr} {z c g1 k g cap : Nat} {vr : Value} (h : MR w W A z c g1 vr k) (hown : Own kCtR w9 (g1 + 1) 53 (fun _ => False) (.slice (some ⟨g, 0, none⟩) (k + 1) cap) (k + 1) (rL k ++ [rM k])) (hgrow : W.grownBy w9 vr.ownBlock) : MR w (w9.setCell ⟨g1, 1, none⟩ (.slice (some ⟨g, 0, none⟩) (k + 1) cap)) A z c g1 (.slice (some ⟨g, 0, none⟩) (k + 1) cap) (k + 1) ∧ Qu.Blk w9 (w.heap.size + 1) 26 #[.bool false, .bool false, .int .i64 0, .slice (some ⟨g1, 0, none⟩) 1 1] ∧ Qu.Blk w9 g1 41 #[.string ⟨#[97]⟩, vr, .int .i64 0, .int .i64 0] := by
  have hlow : ∀ q, vr.ownBlock = some q → g1 < q := fun q hq => (h.own.low q hq).1
  have hl := h.low
  have hb9 := h.below.grown hgrow h.below.size fun q hq => by have := hlow q hq; omega
  have hu : Qu.Blk w9 (w.heap.size + 1) 26 #[.bool false, .bool false, .int .i64 0, .slice (some ⟨g1, 0, none⟩) 1 1] := h.ub.grown hgrow fun e => by have := hlow _ e.symm; omega
  have hz : Qu.Blk w9 g1 41 #[.string ⟨#[97]⟩, vr, .int .i64 0, .int .i64 0] := h.zb.grown hgrow fun e => by have := hlow _ e.symm; omega
  have ht9 := h.trow.stay (w' := w9) (fun b k => k.elim) fun q hq => hgrow.block q (h.trow.low q hq).2 fun e => by have h1 := hlow q e.symm; have h2 := h.ttop q hq; omega
  refine ⟨⟨hb9.setCell (by show w.heap.size ≤ g1; omega) _, Py.blk_far2 (h.tb.grown hgrow fun e => by have := hlow _ e.symm; omega) (by omega), ht9.stay (fun b k => k.elim) fun q hq => Below.heap_setCell w9 _ _ q (by have := h.ttop q hq; show q ≠ g1; omega), h.ttop, Py.blk_far2 hu (by omega), hz.put 1 (.slice (some ⟨g, 0, none⟩) (k + 1) cap), ?_, hl⟩, hu, hz⟩
  rw [rL_succ]
  exact hown.stay (fun b hb => hb.elim) fun q hq => Below.heap_setCell w9 _ _ q (by have := (hown.low q hq).1; show q ≠ g1; omega)
theorem MR.tholds {w wr : World} {A : Option Addr} {z c g1 k : Nat} {vr : Value} (h : MR w wr A z c g1 vr k) : Txs.Holds wr (· < wr.heap.size) ⟨false, false, 0, zL z⟩ ⟨⟨A, z, c⟩⟩ :=
  ⟨⟨by show (-9223372036854775808 : Int) ≤ 0; omega, by show (0 : Int) ≤ 9223372036854775807; omega⟩, h.trow.read, h.trow.fit⟩
theorem MR.uholds {w wr : World} {A B : Option Addr} {z c g1 k n d : Nat} (h : MR w wr A z c g1 (.slice B n d) k) : Txs.Holds wr (· < wr.heap.size) ⟨false, false, 0, [zA k]⟩ ⟨⟨some ⟨g1, 0, none⟩, 1, 1⟩⟩ := by
  obtain rfl : n = k := by
    obtain ⟨A', c', e⟩ := h.own.value
    injection e
  exact ⟨⟨by show (-9223372036854775808 : Int) ≤ 0; omega, by show (0 : Int) ≤ 9223372036854775807; omega⟩, Kd.row_blk (cs := [.string ⟨#[97]⟩, .slice B n d, .int .i64 0, .int .i64 0]) h.zb (Cells.one (Zon_rep.2 ⟨⟨⟨B, n, d⟩⟩, rfl, by show (1 : Nat) ≤ maxLen; unfold maxLen; omega, ⟨h.own.read, h.own.fit⟩, ⟨by show (-9223372036854775808 : Int) ≤ 0; omega, by show (0 : Int) ≤ 9223372036854775807; omega⟩, by show (-9223372036854775808 : Int) ≤ 0; omega, by show (0 : Int) ≤ 9223372036854775807; omega⟩)) rfl h.zb.lt, (fun h => nomatch h), Nat.le_refl _, by show (1 : Nat) ≤ _; omega⟩
theorem zA_small {k : Nat} (hk : k ≤ 41) : ZonesSmall [zA k] := fun i z h => by
  have : z = zA k := List.mem_singleton.1 (List.mem_of_getElem? h)
  subst this
  show (rL k).length ≤ _
  rw [rL_len]
  omega
end Go.Proofs.YtfcmhgneijipgaaGreat.Ru
