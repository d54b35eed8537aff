/- The statements' tiers: some that may be. · The statements' names: texts of one byte. · The statements' scopes: some names out of a list, and Scope. · The statements' Scope: one that may be, near to a raw one. -/
import Derived.Deep.CutBlock
import Derived.Deep.DeepCutAuto
import Derived.Deep.LoopGhost
import Derived.Deep.RegionHeld3
import Derived.IntWalk
import Derived.Test.YtacmoanhbkipfaaPq1
import Derived.Test.YtacmoanhbkipfaaPq2
import Derived.Test.YtacmoanhbkipfaaPq6

section
set_option maxRecDepth 100000
set_option linter.unusedVariables false
namespace Go.Proofs.Ytacmoanhbkipfaa.Py
open Go.ChangeShapes Go.WideShapes Go.ChangeAt Go.RowKit
open Kd (Kind Row Own Cells Fit Agree)
open Ap (Tir kTir row_Tir Tir_rep)
open Pr (Tiers tierB inB)
structure Laid (L : List Tir) (k : Nat) (y : Int) : Prop where
  len : L.length = k
  each : ∀ (i : Nat) (t : Tir), L[i]? = some t → tierB t = true ∧ t.least < y
  rise : ∀ (i : Nat) (a b : Tir), L[i]? = some a → L[i + 1]? = some b → a.least < b.least
  low : 0 ≤ y
  high : y ≤ 5000 * k
theorem Laid.begin : Laid [] 0 0 := ⟨rfl, fun i t h => by simp at h, fun i a b h => by simp at h, by omega, by omega⟩
theorem tier_fine {d r a : Int} (h1 : 0 ≤ d) (h2 : d ≤ 10000000000000) (h3 : 0 ≤ r) (h4 : r ≤ 10000) (h5 : 1 ≤ a) (h6 : a ≤ 10000000000000) : tierB ⟨d, r, a⟩ = true := by
  unfold tierB inB
  simp [h1, h2, h3, h4, h6]
  omega
theorem Laid.next {L : List Tir} {k : Nat} {y d r a : Int} (h : Laid L k y) (hk : k ≤ 2) (hd : y ≤ d) (hd2 : d < y + 5000) (h3 : 0 ≤ r) (h4 : r ≤ 10000) (h5 : 1 ≤ a) (h6 : a ≤ 300) : Laid (L ++ [⟨d, r, a⟩]) (k + 1) (d + 1) := by
  have h0 := h.low
  have h9 := h.high
  have hget : ∀ (i : Nat) (t : Tir), (L ++ [(⟨d, r, a⟩ : Tir)])[i]? = some t → (i < k ∧ L[i]? = some t) ∨ (i = k ∧ t = ⟨d, r, a⟩) := fun i t ht => by
    have hl := (List.getElem?_eq_some_iff.1 ht).1
    rw [List.length_append, h.len, List.length_singleton] at hl
    rcases Nat.lt_or_ge i k with h1 | h1
    · rw [List.getElem?_append_left (by rw [h.len]; exact h1)] at ht
      exact .inl ⟨h1, ht⟩
    · obtain rfl : i = k := by omega
      rw [List.getElem?_append_right (by rw [h.len]; exact Nat.le_refl _), h.len, Nat.sub_self] at ht
      exact .inr ⟨rfl, by injection ht with ht; exact ht.symm⟩
  refine ⟨by rw [List.length_append, h.len]; rfl, fun i t ht => ?_, fun i b c hb hc => ?_, by omega, by omega⟩
  · rcases hget i t ht with ⟨_, h1⟩ | ⟨_, rfl⟩
    · have := h.each i t h1
      exact ⟨this.1, by omega⟩
    · exact ⟨tier_fine (by omega) (by omega) h3 h4 h5 (by omega), by show d < d + 1; omega⟩
  · rcases hget (i + 1) c hc with ⟨h1, hc1⟩ | ⟨h1, rfl⟩
    · rcases hget i b hb with ⟨_, hb1⟩ | ⟨h2, _⟩
      · exact h.rise i b c hb1 hc1
      · omega
    · rcases hget i b hb with ⟨_, hb1⟩ | ⟨h2, _⟩
      · have := (h.each i b hb1).2
        show b.least < d
        omega
      · omega
theorem Laid.tiers {L : List Tir} {k : Nat} {y : Int} (h : Laid L k y) (hk : 1 ≤ k) (hk2 : k ≤ 6) : Tiers L := ⟨fun i t ht => (h.each i t ht).1, h.rise, by rw [h.len]; exact hk, by rw [h.len]; exact hk2⟩
theorem one_tiers {s : Int} (h1 : 0 ≤ s) (h2 : s ≤ 5000) : Tiers [⟨s, 1000, 0⟩] := by
  have hget : ∀ (i : Nat) (t : Tir), ([⟨s, 1000, 0⟩] : List Tir)[i]? = some t → i = 0 ∧ t = ⟨s, 1000, 0⟩ := fun i t ht => by
    have hl := (List.getElem?_eq_some_iff.1 ht).1
    obtain rfl : i = 0 := by simpa using hl
    exact ⟨rfl, by injection ht with ht; exact ht.symm⟩
  refine ⟨fun i t ht => ?_, fun i a b ha hb => ?_, by simp, by simp⟩
  · obtain ⟨_, rfl⟩ := hget i t ht
    unfold tierB inB
    simp [h1]
    omega
  · have := (hget _ _ hb).1
    omega
def tirTo (l : List Tir) (step : Int) : Nat → List Tir × Int
  | 0 => ([], 0)
  | k + 1 => match l[k]? with
    | none => tirTo l step k
    | some t => ((tirTo l step k).1 ++ [⟨(tirTo l step k).2 + (modN t.least step : Int), (modN t.rate 4000 : Int), 1 + (modN t.amount 300 : Int)⟩], (tirTo l step k).2 + (modN t.least step : Int) + 1)
def tirOf (l : List Tir) (step : Int) : List Tir := if (tirTo l step 3).1.length = 0 then [⟨step / 2, 1000, 0⟩] else (tirTo l step 3).1
theorem tirTo_next {l : List Tir} {step y : Int} {k : Nat} {L : List Tir} {t : Tir} (h : (L, y) = tirTo l step k) (ht : l[k]? = some t) : (L ++ [(⟨y + (modN t.least step : Int), (modN t.rate 4000 : Int), 1 + (modN t.amount 300 : Int)⟩ : Tir)], y + (modN t.least step : Int) + 1) = tirTo l step (k + 1) := by
  show _ = (match l[k]? with | none => tirTo l step k | some t => ((tirTo l step k).1 ++ [(⟨(tirTo l step k).2 + (modN t.least step : Int), (modN t.rate 4000 : Int), 1 + (modN t.amount 300 : Int)⟩ : Tir)], (tirTo l step k).2 + (modN t.least step : Int) + 1))
  rw [ht, ← h]
theorem tirTo_stop (l : List Tir) (step : Int) (i : Nat) (h : l.length ≤ i) : ∀ j, tirTo l step (i + j) = tirTo l step i
  | 0 => rfl
  | j + 1 => by
    have h2 : l[i + j]? = none := List.getElem?_eq_none (by omega)
    show (match l[i + j]? with | none => tirTo l step (i + j) | some t => _) = _
    rw [h2]
    exact tirTo_stop l step i h j
theorem tirOf_is {l : List Tir} {step y : Int} {k : Nat} {L : List Tir} (h : (L, y) = tirTo l step k) (hk : k = 3 ∨ (k ≤ 3 ∧ l.length ≤ k)) (hL : 0 < L.length) : L = tirOf l step := by
  have e : tirTo l step 3 = tirTo l step k := by
    rcases hk with rfl | ⟨h1, h2⟩
    · rfl
    · have := tirTo_stop l step k h2 (3 - k)
      rw [show k + (3 - k) = 3 by omega] at this
      exact this
  unfold tirOf
  rw [e, ← h, if_neg (by show ¬ L.length = 0; omega)]
theorem tirOf_none {l : List Tir} {step : Int} (h : l.length = 0) : [(⟨step / 2, 1000, 0⟩ : Tir)] = tirOf l step := by
  have e : tirTo l step 3 = tirTo l step 0 := tirTo_stop l step 0 (by omega) 3
  unfold tirOf
  rw [e, if_pos (show (tirTo l step 0).1.length = 0 from rfl)]
def Tiered (w : World) (l : List Tir) (step : Int) (e : Ending) (w' : World) : Prop := ∃ v L, e = .returned v ∧ Tiers L ∧ L = tirOf l step ∧ Kd.Own kTir w' w.heap.size 48 (fun _ => False) v L.length L ∧ L.length ≤ 3 ∧ Below w.heap.size w w'
theorem tier_ok {d r a : Int} (h1 : 0 ≤ d) (h2 : d ≤ 10000000000000) (h3 : 0 ≤ r) (h4 : r ≤ 10000) (h5 : 0 ≤ a) (h6 : a ≤ 10000000000000) : (⟨d, r, a⟩ : Tir).ok := ⟨⟨by show _ ≤ d; omega, by show d ≤ _; omega⟩, ⟨by show _ ≤ r; omega, by show r ≤ _; omega⟩, ⟨by show _ ≤ a; omega, by show a ≤ _; omega⟩⟩
set_option maxHeartbeats 4000000 in
theorem tiers_any (A : Option Addr) (n c : Nat) (l : List Tir) (step : Int) (w : World) (h : Row kTir w (· < w.heap.size) A n l) (hn : n ≤ 1000000000000) (hs1 : 2 ≤ step) (hs2 : step ≤ 5000) :
    Calls Try.prog 30 #[.slice A n c, .int .i64 step] w (Tiered w l step) := by
  have HR := Lib.hid h
  have HLn := Lib.hid h.len
  obtain ⟨w1, hw1⟩ : ∃ w1, w.alloc (.cells #[] 48) = w1 := ⟨_, rfl⟩
  have HL0 : Hid (∃ L, Laid L 0 0 ∧ (L, (0 : Int)) = tirTo l step 0 ∧ Kd.Own kTir w1 w.heap.size 48 (fun _ => False) (.slice (some ⟨w.heap.size, 0, none⟩) 0 0) 0 L ∧ Below w.heap.size w w1) := Lib.hid ⟨[], Laid.begin, rfl, by
    rw [← hw1]
    exact Kd.own_blk (cs := []) (Qu.Blk.new w _ _) (Nat.le_refl _) rfl rfl (Nat.le_refl _) (by unfold maxLen; omega) rfl rfl, by rw [← hw1]; exact (Below.refl _ _).alloc (Nat.le_refl _) _⟩
  clear h
  go_enter Try.func30, Try.ntmps30
  go_wp2
  go_loopw [5, 6, 7] (fun s5 s6 s7 wr => ∃ (k : Nat) (y : Int), s7 = .int .i64 k ∧ s6 = .int .i64 y ∧ k ≤ n ∧ k ≤ 3 ∧ Hid (∃ L, Laid L k y ∧ (L, y) = tirTo l step k ∧ Kd.Own kTir wr w.heap.size 48 (fun _ => False) s5 k L ∧ Below w.heap.size w wr)) (fun _ _ s7 _ => 3 - (intOf s7).toNat)
  case atStart => exact ⟨0, 0, rfl, rfl, Nat.zero_le _, by omega, HL0⟩
  case round =>
    clear HL0
    obtain ⟨k, y, rfl, rfl, hkn, hk3, HL⟩ := hrel
    have k0 : (0 : Int) ≤ (k : Int) := by omega
    by_cases hlt : k < n
    · have k1 : (k : Int) < (n : Int) := by omega
      by_cases hl3 : k < 3
      · have k3 : (k : Int) < 3 := by omega
        obtain ⟨L, hL, hE, hO, hB⟩ := HL.out
        obtain ⟨t, ht⟩ := HR.out.get hlt
        obtain ⟨g, o, rfl, hgw, hg, hok, a0, a1, a2⟩ := row_Tir (HR.out.below hB (Nat.le_refl _)) ht
        have a1 := ((hB.cell (p := ⟨g, o + k * 3 + 1, none⟩) hgw).symm.trans a1)
        have a2 := ((hB.cell (p := ⟨g, o + k * 3 + 2, none⟩) hgw).symm.trans a2)
        obtain ⟨d, hd⟩ : ∃ d, modN t.least step = d := ⟨_, rfl⟩
        obtain ⟨r, hr⟩ : ∃ r, modN t.rate 4000 = r := ⟨_, rfl⟩
        obtain ⟨m, hm⟩ : ∃ m, modN t.amount 300 = m := ⟨_, rfl⟩
        have hT := tirTo_next hE ht
        rw [hd, hr, hm] at hT
        have HT := Lib.hid hT
        clear hT hE
        have hd1 := modN_lt t.least step (by omega)
        have hr1 := modN_lt t.rate 4000 (by omega)
        have hm1 := modN_lt t.amount 300 (by omega)
        have H1 := Lib.hid (fun W => mod64_any t.least step W (by omega) (by omega))
        have H2 := Lib.hid (fun W => mod64_any t.rate 4000 W (by omega) (by omega))
        have H3 := Lib.hid (fun W => mod64_any t.amount 300 W (by omega) (by omega))
        rw [hd] at hd1
        rw [hr] at hr1
        rw [hm] at hm1
        simp only [hd] at H1
        simp only [hr] at H2
        simp only [hm] at H3
        have hy0 := hL.low
        have hy1 := hL.high
        have HN : Hid (Laid (L ++ [⟨y + (d : Int), (r : Int), 1 + (m : Int)⟩]) (k + 1) (y + (d : Int) + 1)) := Lib.hid (hL.next (by omega) (by omega) (by omega) (by omega) (by omega) (by omega) (by omega))
        have HOK : Hid ((⟨y + (d : Int), (r : Int), 1 + (m : Int)⟩ : Tir).ok) := Lib.hid (tier_ok (by omega) (by omega) (by omega) (by omega) (by omega) (by omega))
        have b1 : ∀ u, Below w.heap.size w u → u.cell? ⟨g, o + k * 3 + 1, none⟩ = some (.int .i64 t.rate) := fun u hu => (hu.cell (p := ⟨g, _, none⟩) hgw).trans a1
        have b2 : ∀ u, Below w.heap.size w u → u.cell? ⟨g, o + k * 3 + 2, none⟩ = some (.int .i64 t.amount) := fun u hu => (hu.cell (p := ⟨g, _, none⟩) hgw).trans a2
        have HOB := Lib.hid (And.intro hO hB)
        have hka : k ≤ 2 := by omega
        have hwm : IntKind.i64.wrap (1 + (m : Int)) = 1 + (m : Int) := IntWalk.i64_in _ (by omega)
        clear hL hO hB ht hok hd hr hm HL a1 a2
        go_wp2_with fail
        refine (H1.out _).mono ?_
        rintro e w2 ⟨rfl, rfl⟩
        go_upto_region 7 with (fail)
        go_cut [5] (fun s5 wx => ∃ g1 cap, s5 = .slice (some ⟨g1, 0, none⟩) (k + 1) cap ∧ Hid (∃ L, Laid L (k + 1) (y + (d : Int) + 1) ∧ (L, y + (d : Int) + 1) = tirTo l step (k + 1) ∧ Kd.Own kTir wx w.heap.size 48 (fun _ => False) (.slice (some ⟨g1, 0, none⟩) (k + 1) cap) (k + 1) L ∧ Below w.heap.size w wx))
        case first =>
          go_region_held3 (fun u => Below w.heap.size w u)
            (first
              | assumption
              | (repeat (first | assumption | exact HOB.out.2 | refine Below.drew ?_ | refine Kd.below_alloc ?_ _)))
            (first
              | (go_at_call 15; with_reducible refine (H2.out _).mono ?_; rintro e wb ⟨rfl, rfl⟩)
              | (go_at_call 15; with_reducible refine (H3.out _).mono ?_; rintro e wb ⟨rfl, rfl⟩)
              | (refine Kd.step_push (o := ⟨some 45, _, _, _, _, _⟩) (W := w2.drew) (F := fun _ => False) (B := w.heap.size) (n := k) (v := u5) (xs := L) (y := ⟨y + (d : Int), (r : Int), 1 + (m : Int)⟩) (cs := [.int .i64 (y + (d : Int)), .int .i64 (r : Int), .int .i64 (1 + (m : Int))]) Ap.tir_t rfl (.tmp 28) (.tmp 44) rfl rfl rfl rfl ?_ (Tir_rep.2 ⟨rfl, HOK.out⟩) (by omega) (by omega) ?_ (fun _ h => h.elim) ?_; (next => exact HOB.out.1.later (by (repeat (first | exact Below.refl _ _ | refine Below.drew ?_)))); (next => exact Below.size (B := w.heap.size) (w := w) (by (repeat (first | exact HOB.out.2 | refine Below.drew ?_)))); (intro g1 cap w9 hown hgrow hfr; have hS9 : Below w.heap.size w w9 := Below.grown (by (repeat (first | exact HOB.out.2 | refine Below.drew ?_))) hgrow (Below.size (B := w.heap.size) (w := w) (by (repeat (first | exact HOB.out.2 | refine Below.drew ?_)))) (fun q hq => (HOB.out.1.low q hq).1))))
          all_goals
            have HO9 := Lib.hid (And.intro hown hS9)
            clear hown hgrow hfr
            go_wp2_with fail
            go_meet
            exact ⟨g1, cap, rfl, Lib.hid ⟨_, HN.out, HT.out, HO9.out.1, HO9.out.2⟩⟩
        case rest =>
          obtain ⟨g1, cap, rfl, HN5⟩ := hcut
          clear HOB HN HOK H1 H2 H3 b1 b2
          go_wp2
          go_roundw
          case rel => exact ⟨k + 1, y + (d : Int) + 1, by go_num, rfl, by omega, by omega, HN5⟩
          case measure => simp [intOf]; omega
      · have k3 : ¬ (k : Int) < 3 := by omega
        obtain ⟨L, hL, hE, hO, hB⟩ := HL.out
        have c0 : ((k : Int) == 0) = false := beq_eq_false_iff_ne.2 (by omega)
        obtain ⟨A5, c5, rfl⟩ := hO.value
        have HF : Hid (Tiered w l step (.returned (.slice A5 k c5)) wr) := Lib.hid ⟨_, L, rfl, hL.tiers (by omega) (by omega), tirOf_is hE (.inl (by omega)) (by rw [hL.len]; omega), by rw [hL.len]; exact hO, by rw [hL.len]; omega, hB⟩
        clear hL hE hO hB HL
        go_wp2
        go_ret
        exact HF.out
    · have k1 : ¬ (k : Int) < (n : Int) := by omega
      obtain ⟨L, hL, hE, hO, hB⟩ := HL.out
      obtain ⟨A5, c5, rfl⟩ := hO.value
      by_cases hk0 : k = 0
      · subst hk0
        have hL0 : L = [] := List.eq_nil_of_length_eq_zero hL.len
        subst hL0
        have hsd : 0 ≤ step / 2 ∧ step / 2 ≤ 5000 := by omega
        obtain ⟨s2, hs2'⟩ : ∃ s2, step / 2 = s2 := ⟨_, rfl⟩
        rw [hs2'] at hsd
        have HS2 := Lib.hid hs2'
        have HOK : Hid ((⟨s2, 1000, 0⟩ : Tir).ok ∧ Tiers [⟨s2, 1000, 0⟩]) := Lib.hid ⟨tier_ok (by omega) (by omega) (by omega) (by omega) (by omega) (by omega), one_tiers (by omega) (by omega)⟩
        have HOB := Lib.hid (And.intro hO hB)
        clear hL hE hO hB HL hsd
        go_wp2_with ((at_builtin; refine Kd.wpList_push (W := wr) (F := fun _ => False) (B := w.heap.size) (n := 0) (v := .slice A5 0 c5) (xs := []) (y := ⟨s2, 1000, 0⟩) (cs := [.int .i64 s2, .int .i64 1000, .int .i64 0]) Ap.tir_t rfl _ _ rfl rfl rfl rfl HOB.out.1 (Tir_rep.2 ⟨rfl, HOK.out.1⟩) (by omega) (by omega) HOB.out.2.size (fun _ h => h.elim) ?_; intro g1 cap w' hown hgrow hfr))
        have HF : Hid (Tiered w l step (.returned (.slice (some ⟨g1, 0, none⟩) 1 cap)) w') := Lib.hid ⟨_, _, rfl, HOK.out.2, by rw [← HS2.out]; exact tirOf_none (by have := HLn.out; omega), hown, by show 1 ≤ 3; omega, HOB.out.2.grown hgrow HOB.out.2.size fun q hq => (HOB.out.1.low q hq).1⟩
        clear hown hgrow hfr
        go_wp2
        go_ret
        exact HF.out
      · have c0 : ((k : Int) == 0) = false := beq_eq_false_iff_ne.2 (by omega)
        have HF : Hid (Tiered w l step (.returned (.slice A5 k c5)) wr) := Lib.hid ⟨_, L, rfl, hL.tiers (by omega) (by omega), tirOf_is hE (.inr ⟨by omega, by have := HLn.out; omega⟩) (by rw [hL.len]; omega), by rw [hL.len]; exact hO, by rw [hL.len]; omega, hB⟩
        clear hL hE hO hB HL
        go_wp2
        go_ret
        exact HF.out
end Go.Proofs.Ytacmoanhbkipfaa.Py

end

section
set_option maxRecDepth 100000
set_option linter.unusedVariables false
namespace Go.Proofs.Ytacmoanhbkipfaa.Py
open Go.ChangeShapes Go.WideShapes Go.ChangeAt Go.RowKit
theorem chr_list (c : Nat) : (chr c).toList = [UInt8.ofNat c] := by unfold chr; exact By.strOf_list _
theorem chr_data (c : Nat) : (chr c).data.toList = [UInt8.ofNat c] := by rw [← ByteArray.toList_eq]; exact chr_list c
theorem chr_size (c : Nat) : (chr c).size = 1 := by unfold chr; rw [By.strOf_size]; rfl
theorem chr_lt {a b : Nat} (h : a < b) (hb : b < 256) : Sr.lt (chr a) (chr b) = true := by
  unfold Sr.lt
  rw [chr_list, chr_list]
  have h1 : UInt8.ofNat a < UInt8.ofNat b := by
    rw [UInt8.lt_iff_toNat_lt, By.toNat_small (by omega), By.toNat_small hb]; exact h
  simp [Op.bytesLess, h1]
theorem chr_name {a : Nat} (h : Sr.plain (a : Int) = true) (ha : a < 256) : Sr.name (chr a) = true := by
  unfold Sr.name Sr.nameL
  rw [chr_data]
  simp [By.toNat_small ha, h]
theorem sku_name {k : Nat} (h : k < 26) : Sr.name (skuS k) = true := chr_name (by unfold Sr.plain; simp; omega) (by omega)
theorem cat_name {k : Nat} (h : k < 3) : Sr.name (catS k) = true := chr_name (by unfold Sr.plain; simp; omega) (by omega)
end Go.Proofs.Ytacmoanhbkipfaa.Py

end

section
set_option maxRecDepth 100000
set_option linter.unusedVariables false
namespace Go.Proofs.Ytacmoanhbkipfaa.Py
open Go.ChangeShapes Go.WideShapes Go.ChangeAt Go.RowKit
open Kd (Kind Row Own Cells Fit Agree kStr row_str)
def hitB (l : List ByteArray) (N k : Nat) : Bool := (l.take 4).any fun s => modN (pickS s) N == k
def someTo (l : List ByteArray) (M N : Nat) : Nat → List Nat
  | 0 => []
  | k + 1 => if decide ((someTo l M N k).length < M) && hitB l N k then someTo l M N k ++ [k] else someTo l M N k
theorem someTo_len (l : List ByteArray) (M N : Nat) : ∀ k, (someTo l M N k).length ≤ k ∧ (someTo l M N k).length ≤ M
  | 0 => ⟨Nat.le_refl _, Nat.zero_le _⟩
  | k + 1 => by
    obtain ⟨h1, h2⟩ := someTo_len l M N k
    unfold someTo
    split
    · rename_i h
      simp only [Bool.and_eq_true, decide_eq_true_eq] at h
      simp only [List.length_append, List.length_singleton]
      omega
    · omega
theorem someTo_low (l : List ByteArray) (M N : Nat) : ∀ k, ∀ j ∈ someTo l M N k, j < k
  | 0, j, h => by cases h
  | k + 1, j, h => by
    unfold someTo at h
    split at h
    · rcases List.mem_append.1 h with h | h
      · have := someTo_low l M N k j h; omega
      · simp only [List.mem_singleton] at h; omega
    · have := someTo_low l M N k j h; omega
theorem someTo_rise (l : List ByteArray) (M N : Nat) : ∀ k, ∀ (i a b : Nat), (someTo l M N k)[i]? = some a → (someTo l M N k)[i + 1]? = some b → a < b
  | 0, i, a, b, h, _ => by simp [someTo] at h
  | k + 1, i, a, b, h, h2 => by
    unfold someTo at h h2
    split at h
    · rename_i hc
      rw [if_pos hc] at h2
      have hl := (List.getElem?_eq_some_iff.1 h2).1
      simp only [List.length_append, List.length_singleton] at hl
      rcases Nat.lt_or_ge (i + 1) (someTo l M N k).length with hi | hi
      · rw [List.getElem?_append_left (by omega)] at h h2
        exact someTo_rise l M N k i a b h h2
      · rw [List.getElem?_append_left (by omega)] at h
        rw [List.getElem?_append_right (by omega), show i + 1 - (someTo l M N k).length = 0 by omega] at h2
        simp only [List.getElem?_cons_zero, Option.some.injEq] at h2
        subst h2
        exact someTo_low l M N k a (List.mem_of_getElem? h)
    · rename_i hc
      rw [if_neg hc] at h2
      exact someTo_rise l M N k i a b h h2
theorem hitB_yes {l : List ByteArray} {N k i : Nat} {s : ByteArray} (hi : i < 4) (hs : l[i]? = some s) (h : modN (pickS s) N = k) : hitB l N k = true := by
  unfold hitB
  refine List.any_eq_true.2 ⟨s, List.mem_of_getElem? (i := i) ?_, by simp [h]⟩
  rw [List.getElem?_take_of_lt hi]; exact hs
theorem hitB_no {l : List ByteArray} {N k : Nat} (h : ∀ (i : Nat) (s : ByteArray), i < 4 → l[i]? = some s → modN (pickS s) N ≠ k) : hitB l N k = false := by
  unfold hitB
  refine List.any_eq_false.2 fun s hs => ?_
  obtain ⟨i, hi, e⟩ := List.mem_iff_getElem.1 hs
  simp only [List.length_take] at hi
  have h2 : l[i]? = some s := by
    rw [← e, List.getElem_take]
    exact List.getElem?_eq_getElem _
  have := h i s (by omega) h2
  simpa using this
theorem someTo_hit {l : List ByteArray} {M N k : Nat} (h : (someTo l M N k).length < M) (hb : hitB l N k = true) : someTo l M N (k + 1) = someTo l M N k ++ [k] := by
  show (if _ then _ else _) = _
  rw [if_pos (by simp [h, hb])]
theorem someTo_full {l : List ByteArray} {M N k : Nat} (h : ¬ (someTo l M N k).length < M) : someTo l M N (k + 1) = someTo l M N k := by
  show (if _ then _ else _) = _
  rw [if_neg (by simp [h])]
theorem someTo_miss {l : List ByteArray} {M N k : Nat} (hb : hitB l N k = false) : someTo l M N (k + 1) = someTo l M N k := by
  show (if _ then _ else _) = _
  rw [if_neg (by simp [hb])]
def namesOf (nm : Nat → ByteArray) (l : List ByteArray) (M N k : Nat) : List ByteArray := (someTo l M N k).map nm
theorem namesOf_len (nm : Nat → ByteArray) (l : List ByteArray) (M N k : Nat) : (namesOf nm l M N k).length = (someTo l M N k).length := List.length_map _
theorem sku_size (k : Nat) : (skuS k).size = 1 := chr_size _
theorem cat_size (k : Nat) : (catS k).size = 1 := chr_size _
structure Gath (w wr : World) (v : Value) (nm : Nat → ByteArray) (l : List ByteArray) (M N k : Nat) : Prop where
  own : Kd.Own kStr wr w.heap.size 9 (fun _ => False) v (someTo l M N k).length (namesOf nm l M N k)
  below : Below w.heap.size w wr
theorem Gath.keep {w wr : World} {v : Value} {nm : Nat → ByteArray} {l : List ByteArray} {M N k : Nat} (h : Gath w wr v nm l M N k) (e : someTo l M N (k + 1) = someTo l M N k) : Gath w wr v nm l M N (k + 1) :=
  ⟨by unfold namesOf; rw [e]; exact h.own, h.below⟩
set_option maxHeartbeats 2000000 in
theorem some_sku (A : Option Addr) (n c : Nat) (l : List ByteArray) (w : World) (h : Row kStr w (· < w.heap.size) A n l) (hn : n ≤ 9223372036854775807) :
    Calls Try.prog 48 #[.slice A n c, .int .i64 3, .int .i64 8, .func (.func 49) #[] #[]] w fun e w' => ∃ v, e = .returned v ∧ Gath w w' v skuS l 3 8 8 := by
  have hln : l.length = n := h.len
  have HR := Lib.hid (And.intro h hln)
  have HM0 : Hid (Gath w w (.slice none 0 0) skuS l 3 8 0) := Lib.hid ⟨Kd.Own.nil _ _ _ _ _, Below.refl _ _⟩
  have HPK := Lib.hid (fun s W h => pick_any s W h)
  have HMD := Lib.hid (fun a W => mod_any a 8 W (by omega) (by omega))
  have HNM := Lib.hid (fun a W => sku_any a W)
  clear h hln
  go_enter Try.func48, Try.ntmps48
  go_wp2
  go_loopw [9, 10] (fun s9 s10 wr => ∃ k : Nat, s10 = .int .i64 k ∧ k ≤ 8 ∧ Hid (Gath w wr s9 skuS l 3 8 k)) (fun _ s10 _ => 8 - (intOf s10).toNat)
  case atStart => exact ⟨0, rfl, by omega, HM0⟩
  case round =>
    clear HM0
    obtain ⟨k, rfl, hk, hM⟩ := hrel
    have k0 : (0 : Int) ≤ (k : Int) := by omega
    by_cases hlt : k < 8
    · have k1 : (k : Int) < 8 := by omega
      obtain ⟨wo, hwo⟩ : ∃ wo : World, wo = wr := ⟨_, rfl⟩
      subst hwo
      have hval := hM.out.own.value
      obtain ⟨q, hq⟩ : ∃ q, (someTo l 3 8 k).length = q := ⟨_, rfl⟩
      have hq2 := (someTo_len l 3 8 k).1
      have hown := hM.out.own
      rw [hq] at hq2 hown hval
      obtain ⟨A9, c9, hv9⟩ := hval
      subst hv9
      have HO := Lib.hid (And.intro hown hq)
      have HE0 : Hid (∀ (j : Nat) (s : ByteArray), j < 0 → l[j]? = some s → modN (pickS s) 8 ≠ k) := Lib.hid fun j s hj => by omega
      clear hown hq
      go_wp2
      go_loopw [9, 11] (fun s9 s11 wi => s9 = .slice A9 q c9 ∧ ∃ i : Nat, s11 = .int .i64 i ∧ i ≤ n ∧ i ≤ 4 ∧ wi = wo ∧ Hid (∀ (j : Nat) (s : ByteArray), j < i → l[j]? = some s → modN (pickS s) 8 ≠ k)) (fun _ s11 _ => 4 - (intOf s11).toNat)
      case atStart => exact ⟨rfl, 0, rfl, by omega, by omega, by trivial, HE0⟩
      case round =>
        clear HE0
        obtain ⟨rfl, i, rfl, hi, hi4, rfl, hE⟩ := hrel
        have i0 : (0 : Int) ≤ (i : Int) := by omega
        by_cases hin : i < n
        · have i1 : (i : Int) < (n : Int) := by omega
          by_cases hi4' : i < 4
          · have i2 : (i : Int) < 4 := by omega
            by_cases hqm : q < 3
            · have q1 : (q : Int) < 3 := by omega
              obtain ⟨s, hs⟩ := HR.out.1.get hin
              obtain ⟨g, o, rfl, hg1, hg2, hsz, a0⟩ := row_str (HR.out.1.below hM.out.below (Nat.le_refl _)) hs
              have HPx := Lib.hid (fun W => HPK.out s W hsz)
              have HMx := Lib.hid (fun W => HMD.out (pickS s) W)
              obtain ⟨t, ht⟩ : ∃ t, modN (pickS s) 8 = t := ⟨_, rfl⟩
              simp only [ht] at HMx
              have HT := Lib.hid (And.intro hs ht)
              clear hsz hs ht
              by_cases htk : t = k
              · have b1 : ((t : Int) == (k : Int)) = true := by rw [beq_iff_eq]; omega
                have HS : Hid (someTo l 3 8 (k + 1) = someTo l 3 8 k ++ [k]) := Lib.hid (someTo_hit (by rw [HO.out.2]; exact hqm) (hitB_yes hi4' HT.out.1 (HT.out.2.trans htk)))
                have hnm := fun W => HNM.out (k : Int) W
                have e1 : modN (k : Int) 8 = k := modN_num k 8 hlt (by omega)
                simp only [e1] at hnm
                have HNx := Lib.hid hnm
                clear htk hnm e1
                go_wp2_with fail
                refine (HPx.out _).mono ?_
                rintro e w1 ⟨rfl, rfl⟩
                go_wp2_with fail
                refine (HMx.out _).mono ?_
                rintro e w1 ⟨rfl, rfl⟩
                go_wp2_with fail
                refine (HNx.out _).mono ?_
                rintro e w1 ⟨rfl, hb1⟩
                have HOW : Hid (Kd.Own kStr w1 w.heap.size 9 (fun _ => False) (.slice A9 q c9) q (namesOf skuS l 3 8 k) ∧ Below w.heap.size w w1 ∧ w.heap.size ≤ w1.heap.size ∧ kStr.rep w1 (fun _ => False) (skuS k) [.string (skuS k)]) := Lib.hid (by
                  have hb := hM.out.below.trans (hb1.mono hM.out.below.size)
                  exact ⟨HO.out.1.later hb1, hb, hb.size, rfl, by rw [sku_size]; decide⟩)
                clear hb1
                go_wp2_with ((at_builtin; refine Kd.wpList_push (W := w1) (F := fun _ => False) (B := w.heap.size) (n := q) (v := .slice A9 q c9) (xs := namesOf skuS l 3 8 k) (y := skuS k) (cs := [.string (skuS k)]) Ap.str_t rfl _ _ rfl rfl rfl rfl HOW.out.1 HOW.out.2.2.2 (by omega) (by omega) HOW.out.2.2.1 (fun _ h => h.elim) ?_; intro g1 cap w' hown hgrow hfr))
                have HM2 : Hid (Gath w w' (.slice (some ⟨g1, 0, none⟩) (q + 1) cap) skuS l 3 8 (k + 1)) := Lib.hid ⟨by
                  unfold namesOf
                  have e : (someTo l 3 8 (k + 1)).length = q + 1 := by rw [HS.out, List.length_append, HO.out.2]; rfl
                  rw [e, HS.out, List.map_append]; exact hown, HOW.out.2.1.grown hgrow HOW.out.2.2.1 (fun i hi => (HOW.out.1.low i hi).1)⟩
                clear hown hgrow hfr
                go_wp2
                go_roundw
                case rel => exact ⟨k + 1, by go_num, by omega, HM2⟩
                case measure => simp [intOf]; omega
              · have b1 : ((t : Int) == (k : Int)) = false := by rw [beq_eq_false_iff_ne]; omega
                have HE2 : Hid (∀ (j : Nat) (s : ByteArray), j < i + 1 → l[j]? = some s → modN (pickS s) 8 ≠ k) := Lib.hid fun j s' hj hs' => by
                  rcases Nat.lt_or_ge j i with hji | hji
                  · exact hE.out j s' hji hs'
                  · obtain rfl : j = i := by omega
                    rw [HT.out.1] at hs'
                    injection hs' with hs'
                    subst hs'
                    rw [HT.out.2]; exact htk
                clear htk
                go_wp2_with fail
                refine (HPx.out _).mono ?_
                rintro e w1 ⟨rfl, rfl⟩
                go_wp2_with fail
                refine (HMx.out _).mono ?_
                rintro e w1 ⟨rfl, rfl⟩
                go_wp2
                go_roundw
                case rel => exact ⟨rfl, i + 1, by go_num, by omega, by omega, by trivial, HE2⟩
                case measure => simp [intOf]; omega
            · have q1 : ¬ (q : Int) < 3 := by omega
              have HM2 : Hid (Gath w _ (.slice A9 q c9) skuS l 3 8 (k + 1)) := Lib.hid (hM.out.keep (someTo_full (by rw [HO.out.2]; exact hqm)))
              clear hM
              go_wp2
              go_roundw
              case rel => exact ⟨k + 1, by go_num, by omega, HM2⟩
              case measure => simp [intOf]; omega
          · have i2 : ¬ (i : Int) < 4 := by omega
            have HM2 : Hid (Gath w _ (.slice A9 q c9) skuS l 3 8 (k + 1)) := Lib.hid (hM.out.keep (someTo_miss (hitB_no fun j s hj hs => hE.out j s (by omega) hs)))
            clear hM
            go_wp2
            go_roundw
            case rel => exact ⟨k + 1, by go_num, by omega, HM2⟩
            case measure => simp [intOf]; omega
        · have i1 : ¬ (i : Int) < (n : Int) := by omega
          have HM2 : Hid (Gath w _ (.slice A9 q c9) skuS l 3 8 (k + 1)) := Lib.hid (hM.out.keep (someTo_miss (hitB_no fun j s hj hs => hE.out j s (by
            have := (List.getElem?_eq_some_iff.1 hs).1
            have := HR.out.2
            omega) hs)))
          clear hM
          go_wp2
          go_roundw
          case rel => exact ⟨k + 1, by go_num, by omega, HM2⟩
          case measure => simp [intOf]; omega
    · obtain rfl : k = 8 := by omega
      go_wp2
      go_ret
      exact ⟨_, rfl, hM.out⟩
set_option maxHeartbeats 2000000 in
theorem some_cat (A : Option Addr) (n c : Nat) (l : List ByteArray) (w : World) (h : Row kStr w (· < w.heap.size) A n l) (hn : n ≤ 9223372036854775807) :
    Calls Try.prog 48 #[.slice A n c, .int .i64 2, .int .i64 3, .func (.func 50) #[] #[]] w fun e w' => ∃ v, e = .returned v ∧ Gath w w' v catS l 2 3 3 := by
  have hln : l.length = n := h.len
  have HR := Lib.hid (And.intro h hln)
  have HM0 : Hid (Gath w w (.slice none 0 0) catS l 2 3 0) := Lib.hid ⟨Kd.Own.nil _ _ _ _ _, Below.refl _ _⟩
  have HPK := Lib.hid (fun s W h => pick_any s W h)
  have HMD := Lib.hid (fun a W => mod_any a 3 W (by omega) (by omega))
  have HNM := Lib.hid (fun a W => category_any a W)
  clear h hln
  go_enter Try.func48, Try.ntmps48
  go_wp2
  go_loopw [9, 10] (fun s9 s10 wr => ∃ k : Nat, s10 = .int .i64 k ∧ k ≤ 3 ∧ Hid (Gath w wr s9 catS l 2 3 k)) (fun _ s10 _ => 3 - (intOf s10).toNat)
  case atStart => exact ⟨0, rfl, by omega, HM0⟩
  case round =>
    clear HM0
    obtain ⟨k, rfl, hk, hM⟩ := hrel
    have k0 : (0 : Int) ≤ (k : Int) := by omega
    by_cases hlt : k < 3
    · have k1 : (k : Int) < 3 := by omega
      obtain ⟨wo, hwo⟩ : ∃ wo : World, wo = wr := ⟨_, rfl⟩
      subst hwo
      have hval := hM.out.own.value
      obtain ⟨q, hq⟩ : ∃ q, (someTo l 2 3 k).length = q := ⟨_, rfl⟩
      have hq2 := (someTo_len l 2 3 k).1
      have hown := hM.out.own
      rw [hq] at hq2 hown hval
      obtain ⟨A9, c9, hv9⟩ := hval
      subst hv9
      have HO := Lib.hid (And.intro hown hq)
      have HE0 : Hid (∀ (j : Nat) (s : ByteArray), j < 0 → l[j]? = some s → modN (pickS s) 3 ≠ k) := Lib.hid fun j s hj => by omega
      clear hown hq
      go_wp2
      go_loopw [9, 11] (fun s9 s11 wi => s9 = .slice A9 q c9 ∧ ∃ i : Nat, s11 = .int .i64 i ∧ i ≤ n ∧ i ≤ 4 ∧ wi = wo ∧ Hid (∀ (j : Nat) (s : ByteArray), j < i → l[j]? = some s → modN (pickS s) 3 ≠ k)) (fun _ s11 _ => 4 - (intOf s11).toNat)
      case atStart => exact ⟨rfl, 0, rfl, by omega, by omega, by trivial, HE0⟩
      case round =>
        clear HE0
        obtain ⟨rfl, i, rfl, hi, hi4, rfl, hE⟩ := hrel
        have i0 : (0 : Int) ≤ (i : Int) := by omega
        by_cases hin : i < n
        · have i1 : (i : Int) < (n : Int) := by omega
          by_cases hi4' : i < 4
          · have i2 : (i : Int) < 4 := by omega
            by_cases hqm : q < 2
            · have q1 : (q : Int) < 2 := by omega
              obtain ⟨s, hs⟩ := HR.out.1.get hin
              obtain ⟨g, o, rfl, hg1, hg2, hsz, a0⟩ := row_str (HR.out.1.below hM.out.below (Nat.le_refl _)) hs
              have HPx := Lib.hid (fun W => HPK.out s W hsz)
              have HMx := Lib.hid (fun W => HMD.out (pickS s) W)
              obtain ⟨t, ht⟩ : ∃ t, modN (pickS s) 3 = t := ⟨_, rfl⟩
              simp only [ht] at HMx
              have HT := Lib.hid (And.intro hs ht)
              clear hsz hs ht
              by_cases htk : t = k
              · have b1 : ((t : Int) == (k : Int)) = true := by rw [beq_iff_eq]; omega
                have HS : Hid (someTo l 2 3 (k + 1) = someTo l 2 3 k ++ [k]) := Lib.hid (someTo_hit (by rw [HO.out.2]; exact hqm) (hitB_yes hi4' HT.out.1 (HT.out.2.trans htk)))
                have hnm := fun W => HNM.out (k : Int) W
                have e1 : modN (k : Int) 3 = k := modN_num k 3 hlt (by omega)
                simp only [e1] at hnm
                have HNx := Lib.hid hnm
                clear htk hnm e1
                go_wp2_with fail
                refine (HPx.out _).mono ?_
                rintro e w1 ⟨rfl, rfl⟩
                go_wp2_with fail
                refine (HMx.out _).mono ?_
                rintro e w1 ⟨rfl, rfl⟩
                go_wp2_with fail
                refine (HNx.out _).mono ?_
                rintro e w1 ⟨rfl, hb1⟩
                have HOW : Hid (Kd.Own kStr w1 w.heap.size 9 (fun _ => False) (.slice A9 q c9) q (namesOf catS l 2 3 k) ∧ Below w.heap.size w w1 ∧ w.heap.size ≤ w1.heap.size ∧ kStr.rep w1 (fun _ => False) (catS k) [.string (catS k)]) := Lib.hid (by
                  have hb := hM.out.below.trans (hb1.mono hM.out.below.size)
                  exact ⟨HO.out.1.later hb1, hb, hb.size, rfl, by rw [cat_size]; decide⟩)
                clear hb1
                go_wp2_with ((at_builtin; refine Kd.wpList_push (W := w1) (F := fun _ => False) (B := w.heap.size) (n := q) (v := .slice A9 q c9) (xs := namesOf catS l 2 3 k) (y := catS k) (cs := [.string (catS k)]) Ap.str_t rfl _ _ rfl rfl rfl rfl HOW.out.1 HOW.out.2.2.2 (by omega) (by omega) HOW.out.2.2.1 (fun _ h => h.elim) ?_; intro g1 cap w' hown hgrow hfr))
                have HM2 : Hid (Gath w w' (.slice (some ⟨g1, 0, none⟩) (q + 1) cap) catS l 2 3 (k + 1)) := Lib.hid ⟨by
                  unfold namesOf
                  have e : (someTo l 2 3 (k + 1)).length = q + 1 := by rw [HS.out, List.length_append, HO.out.2]; rfl
                  rw [e, HS.out, List.map_append]; exact hown, HOW.out.2.1.grown hgrow HOW.out.2.2.1 (fun i hi => (HOW.out.1.low i hi).1)⟩
                clear hown hgrow hfr
                go_wp2
                go_roundw
                case rel => exact ⟨k + 1, by go_num, by omega, HM2⟩
                case measure => simp [intOf]; omega
              · have b1 : ((t : Int) == (k : Int)) = false := by rw [beq_eq_false_iff_ne]; omega
                have HE2 : Hid (∀ (j : Nat) (s : ByteArray), j < i + 1 → l[j]? = some s → modN (pickS s) 3 ≠ k) := Lib.hid fun j s' hj hs' => by
                  rcases Nat.lt_or_ge j i with hji | hji
                  · exact hE.out j s' hji hs'
                  · obtain rfl : j = i := by omega
                    rw [HT.out.1] at hs'
                    injection hs' with hs'
                    subst hs'
                    rw [HT.out.2]; exact htk
                clear htk
                go_wp2_with fail
                refine (HPx.out _).mono ?_
                rintro e w1 ⟨rfl, rfl⟩
                go_wp2_with fail
                refine (HMx.out _).mono ?_
                rintro e w1 ⟨rfl, rfl⟩
                go_wp2
                go_roundw
                case rel => exact ⟨rfl, i + 1, by go_num, by omega, by omega, by trivial, HE2⟩
                case measure => simp [intOf]; omega
            · have q1 : ¬ (q : Int) < 2 := by omega
              have HM2 : Hid (Gath w _ (.slice A9 q c9) catS l 2 3 (k + 1)) := Lib.hid (hM.out.keep (someTo_full (by rw [HO.out.2]; exact hqm)))
              clear hM
              go_wp2
              go_roundw
              case rel => exact ⟨k + 1, by go_num, by omega, HM2⟩
              case measure => simp [intOf]; omega
          · have i2 : ¬ (i : Int) < 4 := by omega
            have HM2 : Hid (Gath w _ (.slice A9 q c9) catS l 2 3 (k + 1)) := Lib.hid (hM.out.keep (someTo_miss (hitB_no fun j s hj hs => hE.out j s (by omega) hs)))
            clear hM
            go_wp2
            go_roundw
            case rel => exact ⟨k + 1, by go_num, by omega, HM2⟩
            case measure => simp [intOf]; omega
        · have i1 : ¬ (i : Int) < (n : Int) := by omega
          have HM2 : Hid (Gath w _ (.slice A9 q c9) catS l 2 3 (k + 1)) := Lib.hid (hM.out.keep (someTo_miss (hitB_no fun j s hj hs => hE.out j s (by
            have := (List.getElem?_eq_some_iff.1 hs).1
            have := HR.out.2
            omega) hs)))
          clear hM
          go_wp2
          go_roundw
          case rel => exact ⟨k + 1, by go_num, by omega, HM2⟩
          case measure => simp [intOf]; omega
    · obtain rfl : k = 3 := by omega
      go_wp2
      go_ret
      exact ⟨_, rfl, hM.out⟩
end Go.Proofs.Ytacmoanhbkipfaa.Py

end

section
set_option maxRecDepth 100000
set_option linter.unusedVariables false
namespace Go.Proofs.Ytacmoanhbkipfaa.Py
open Go.ChangeShapes Go.WideShapes Go.ChangeAt Go.RowKit
open Kd (Kind Row Own Cells Fit Agree kStr row_str Lst Sl)
open Ap (Scp kScp Scp_rep)
def scopeOf (s : Scp) : Scp := ⟨namesOf skuS s.skus 3 8 8, namesOf catS s.cats 2 3 3⟩
theorem results_scope {f : Func} {p : Tmp} {T : TypeId} (hf : f.results = #[.cell p T]) (tmps : Array Value) (w : World) (g : Nat) (vs : Array Value) (hT : T = 24) (h : Qu.Blk w g 24 vs) (hv : vs.size = 2) (hp : tmps.getD p undef = .pointer (some ⟨g, 0, none⟩)) : (results f tmps).run Try.prog w = .ok (.agg vs) w := by
  subst hT
  exact results_cell_row hf tmps w g 24 vs (0, 0) _ hp h.here Try.underlying24 rfl (by rw [hv]; kernel_rfl)
end Go.Proofs.Ytacmoanhbkipfaa.Py

end
