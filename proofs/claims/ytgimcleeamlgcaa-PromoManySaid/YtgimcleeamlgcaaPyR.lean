/- The statements' tiers: some that may be. -/
import Derived.Test.YtgimcleeamlgcaaKa
import Derived.Test.YtgimcleeamlgcaaPrM
import Derived.Test.YtgimcleeamlgcaaPyA
import Derived.Deep.RegionHeld3
import Derived.Deep.CutBlock
import Derived.Deep.DeepCutAuto
import Derived.Deep.LoopGhost
import Derived.IntWalk
set_option maxRecDepth 100000

set_option linter.unusedVariables false
namespace Go.Proofs.Ytgimcleeamlgcaa.Py
open Go.ChangeShapes Go.WideShapes Go.ChangeAt Go.RowKit
open Kd (Kind Row Own Cells Fit Agree)
open Ap (Tir kTir row_Tir Tir_rep)
open Pr (Tiers tierB inB)

/-- Where the loop stands: k tiers, the next one from y on. -/
structure Laid (L : List Tir) (k : Nat) (y : Int) : Prop where
  len : L.length = k
  each : ∀ (i : Nat) (t : Tir), L[i]? = some t → tierB t = true ∧ t.least < y
  rise : ∀ (i : Nat) (a b : Tir), L[i]? = some a → L[i + 1]? = some b → a.least < b.least
  low : 0 ≤ y
  high : y ≤ 5000 * k

theorem Laid.begin : Laid [] 0 0 := ⟨rfl, fun i t h => by simp at h, fun i a b h => by simp at h, by omega, by omega⟩

theorem tier_fine {d r a : Int} (h1 : 0 ≤ d) (h2 : d ≤ 10000000000000) (h3 : 0 ≤ r) (h4 : r ≤ 10000) (h5 : 1 ≤ a) (h6 : a ≤ 10000000000000) : tierB ⟨d, r, a⟩ = true := by
  unfold tierB inB
  simp [h1, h2, h3, h4, h6]
  omega

theorem Laid.next {L : List Tir} {k : Nat} {y d r a : Int} (h : Laid L k y) (hk : k ≤ 2) (hd : y ≤ d) (hd2 : d < y + 5000) (h3 : 0 ≤ r) (h4 : r ≤ 10000) (h5 : 1 ≤ a) (h6 : a ≤ 300) : Laid (L ++ [⟨d, r, a⟩]) (k + 1) (d + 1) := by
  have h0 := h.low
  have h9 := h.high
  have hget : ∀ (i : Nat) (t : Tir), (L ++ [(⟨d, r, a⟩ : Tir)])[i]? = some t → (i < k ∧ L[i]? = some t) ∨ (i = k ∧ t = ⟨d, r, a⟩) := fun i t ht => by
    have hl := (List.getElem?_eq_some_iff.1 ht).1
    rw [List.length_append, h.len, List.length_singleton] at hl
    rcases Nat.lt_or_ge i k with h1 | h1
    · rw [List.getElem?_append_left (by rw [h.len]; exact h1)] at ht
      exact .inl ⟨h1, ht⟩
    · obtain rfl : i = k := by omega
      rw [List.getElem?_append_right (by rw [h.len]; exact Nat.le_refl _), h.len, Nat.sub_self] at ht
      exact .inr ⟨rfl, by injection ht with ht; exact ht.symm⟩
  refine ⟨by rw [List.length_append, h.len]; rfl, fun i t ht => ?_, fun i b c hb hc => ?_, by omega, by omega⟩
  · rcases hget i t ht with ⟨_, h1⟩ | ⟨_, rfl⟩
    · have := h.each i t h1
      exact ⟨this.1, by omega⟩
    · exact ⟨tier_fine (by omega) (by omega) h3 h4 h5 (by omega), by show d < d + 1; omega⟩
  · rcases hget (i + 1) c hc with ⟨h1, hc1⟩ | ⟨h1, rfl⟩
    · rcases hget i b hb with ⟨_, hb1⟩ | ⟨h2, _⟩
      · exact h.rise i b c hb1 hc1
      · omega
    · rcases hget i b hb with ⟨_, hb1⟩ | ⟨h2, _⟩
      · have := (h.each i b hb1).2
        show b.least < d
        omega
      · omega

theorem Laid.tiers {L : List Tir} {k : Nat} {y : Int} (h : Laid L k y) (hk : 1 ≤ k) (hk2 : k ≤ 6) : Tiers L := ⟨fun i t ht => (h.each i t ht).1, h.rise, by rw [h.len]; exact hk, by rw [h.len]; exact hk2⟩

theorem one_tiers {s : Int} (h1 : 0 ≤ s) (h2 : s ≤ 5000) : Tiers [⟨s, 1000, 0⟩] := by
  have hget : ∀ (i : Nat) (t : Tir), ([⟨s, 1000, 0⟩] : List Tir)[i]? = some t → i = 0 ∧ t = ⟨s, 1000, 0⟩ := fun i t ht => by
    have hl := (List.getElem?_eq_some_iff.1 ht).1
    obtain rfl : i = 0 := by simpa using hl
    exact ⟨rfl, by injection ht with ht; exact ht.symm⟩
  refine ⟨fun i t ht => ?_, fun i a b ha hb => ?_, by simp, by simp⟩
  · obtain ⟨_, rfl⟩ := hget i t ht
    unfold tierB inB
    simp [h1]
    omega
  · have := (hget _ _ hb).1
    omega

/-- What tiers tells. -/
def Tiered (w : World) (e : Ending) (w' : World) : Prop := ∃ v L, e = .returned v ∧ Tiers L ∧ Own kTir w' w.heap.size 37 (fun _ => False) v L.length L ∧ L.length ≤ 3 ∧ Below w.heap.size w w'

theorem tier_ok {d r a : Int} (h1 : 0 ≤ d) (h2 : d ≤ 10000000000000) (h3 : 0 ≤ r) (h4 : r ≤ 10000) (h5 : 0 ≤ a) (h6 : a ≤ 10000000000000) : (⟨d, r, a⟩ : Tir).ok := ⟨⟨by show _ ≤ d; omega, by show d ≤ _; omega⟩, ⟨by show _ ≤ r; omega, by show r ≤ _; omega⟩, ⟨by show _ ≤ a; omega, by show a ≤ _; omega⟩⟩

set_option maxHeartbeats 4000000 in
theorem tiers_any (A : Option Addr) (n c : Nat) (l : List Tir) (step : Int) (w : World) (h : Row kTir w (· < w.heap.size) A n l) (hn : n ≤ 1000000000000) (hs1 : 2 ≤ step) (hs2 : step ≤ 5000) :
    Calls Try.prog 30 #[.slice A n c, .int .i64 step] w (Tiered w) := by
  have HR := Lib.hid h
  obtain ⟨w1, hw1⟩ : ∃ w1, w.alloc (.cells #[] 37) = w1 := ⟨_, rfl⟩
  have HL0 : Hid (∃ L, Laid L 0 0 ∧ Own kTir w1 w.heap.size 37 (fun _ => False) (.slice (some ⟨w.heap.size, 0, none⟩) 0 0) 0 L ∧ Below w.heap.size w w1) := Lib.hid ⟨[], Laid.begin, by
    rw [← hw1]
    exact Kd.own_blk (cs := []) (Qu.Blk.new w _ _) (Nat.le_refl _) rfl rfl (Nat.le_refl _) (by unfold maxLen; omega) rfl rfl, by rw [← hw1]; exact (Below.refl _ _).alloc (Nat.le_refl _) _⟩
  clear h
  go_enter Try.func30, Try.ntmps30
  go_wp2
  go_loopw [5, 6, 7] (fun s5 s6 s7 wr => ∃ (k : Nat) (y : Int), s7 = .int .i64 k ∧ s6 = .int .i64 y ∧ k ≤ n ∧ k ≤ 3 ∧ Hid (∃ L, Laid L k y ∧ Own kTir wr w.heap.size 37 (fun _ => False) s5 k L ∧ Below w.heap.size w wr)) (fun _ _ s7 _ => 3 - (intOf s7).toNat)
  case atStart => exact ⟨0, 0, rfl, rfl, Nat.zero_le _, by omega, HL0⟩
  case round =>
    clear HL0
    obtain ⟨k, y, rfl, rfl, hkn, hk3, HL⟩ := hrel
    have k0 : (0 : Int) ≤ (k : Int) := by omega
    by_cases hlt : k < n
    · have k1 : (k : Int) < (n : Int) := by omega
      by_cases hl3 : k < 3
      · have k3 : (k : Int) < 3 := by omega
        obtain ⟨L, hL, hO, hB⟩ := HL.out
        obtain ⟨t, ht⟩ := HR.out.get hlt
        obtain ⟨g, o, rfl, hgw, hg, hok, a0, a1, a2⟩ := row_Tir (HR.out.below hB (Nat.le_refl _)) ht
        have a1 := ((hB.cell (p := ⟨g, o + k * 3 + 1, none⟩) hgw).symm.trans a1)
        have a2 := ((hB.cell (p := ⟨g, o + k * 3 + 2, none⟩) hgw).symm.trans a2)
        obtain ⟨d, hd⟩ : ∃ d, modN t.least step = d := ⟨_, rfl⟩
        obtain ⟨r, hr⟩ : ∃ r, modN t.rate 4000 = r := ⟨_, rfl⟩
        obtain ⟨m, hm⟩ : ∃ m, modN t.amount 300 = m := ⟨_, rfl⟩
        have hd1 := modN_lt t.least step (by omega)
        have hr1 := modN_lt t.rate 4000 (by omega)
        have hm1 := modN_lt t.amount 300 (by omega)
        have H1 := Lib.hid (fun W => mod64_any t.least step W (by omega) (by omega))
        have H2 := Lib.hid (fun W => mod64_any t.rate 4000 W (by omega) (by omega))
        have H3 := Lib.hid (fun W => mod64_any t.amount 300 W (by omega) (by omega))
        rw [hd] at hd1
        rw [hr] at hr1
        rw [hm] at hm1
        simp only [hd] at H1
        simp only [hr] at H2
        simp only [hm] at H3
        have hy0 := hL.low
        have hy1 := hL.high
        have HN : Hid (Laid (L ++ [⟨y + (d : Int), (r : Int), 1 + (m : Int)⟩]) (k + 1) (y + (d : Int) + 1)) := Lib.hid (hL.next (by omega) (by omega) (by omega) (by omega) (by omega) (by omega) (by omega))
        have HOK : Hid ((⟨y + (d : Int), (r : Int), 1 + (m : Int)⟩ : Tir).ok) := Lib.hid (tier_ok (by omega) (by omega) (by omega) (by omega) (by omega) (by omega))
        have b1 : ∀ u, Below w.heap.size w u → u.cell? ⟨g, o + k * 3 + 1, none⟩ = some (.int .i64 t.rate) := fun u hu => (hu.cell (p := ⟨g, _, none⟩) hgw).trans a1
        have b2 : ∀ u, Below w.heap.size w u → u.cell? ⟨g, o + k * 3 + 2, none⟩ = some (.int .i64 t.amount) := fun u hu => (hu.cell (p := ⟨g, _, none⟩) hgw).trans a2
        have HOB := Lib.hid (And.intro hO hB)
        have hka : k ≤ 2 := by omega
        have hwm : IntKind.i64.wrap (1 + (m : Int)) = 1 + (m : Int) := IntWalk.i64_in _ (by omega)
        clear hL hO hB ht hok hd hr hm HL a1 a2
        go_wp2_with fail
        refine (H1.out _).mono ?_
        rintro e w2 ⟨rfl, rfl⟩
        go_upto_region 7 with (fail)
        go_cut [5] (fun s5 wx => ∃ g1 cap, s5 = .slice (some ⟨g1, 0, none⟩) (k + 1) cap ∧ Hid (∃ L, Laid L (k + 1) (y + (d : Int) + 1) ∧ Own kTir wx w.heap.size 37 (fun _ => False) (.slice (some ⟨g1, 0, none⟩) (k + 1) cap) (k + 1) L ∧ Below w.heap.size w wx))
        case first =>
          go_region_held3 (fun u => Below w.heap.size w u)
            (first
              | assumption
              | (repeat (first | assumption | exact HOB.out.2 | refine Below.drew ?_ | refine Kd.below_alloc ?_ _)))
            (first
              | (go_at_call 29; with_reducible refine (H2.out _).mono ?_; rintro e wb ⟨rfl, rfl⟩)
              | (go_at_call 29; with_reducible refine (H3.out _).mono ?_; rintro e wb ⟨rfl, rfl⟩)
              | (refine Kd.step_push (o := ⟨some 45, _, _, _, _, _⟩) (W := w2.drew) (F := fun _ => False) (B := w.heap.size) (n := k) (v := u5) (xs := L) (y := ⟨y + (d : Int), (r : Int), 1 + (m : Int)⟩) (cs := [.int .i64 (y + (d : Int)), .int .i64 (r : Int), .int .i64 (1 + (m : Int))]) Ap.tir_t rfl (.tmp 28) (.tmp 44) rfl rfl rfl rfl ?_ (Tir_rep.2 ⟨rfl, HOK.out⟩) (by omega) (by omega) ?_ (fun _ h => h.elim) ?_; (next => exact HOB.out.1.later (by (repeat (first | exact Below.refl _ _ | refine Below.drew ?_)))); (next => exact Below.size (B := w.heap.size) (w := w) (by (repeat (first | exact HOB.out.2 | refine Below.drew ?_)))); (intro g1 cap w9 hown hgrow hfr; have hS9 : Below w.heap.size w w9 := Below.grown (by (repeat (first | exact HOB.out.2 | refine Below.drew ?_))) hgrow (Below.size (B := w.heap.size) (w := w) (by (repeat (first | exact HOB.out.2 | refine Below.drew ?_)))) (fun q hq => (HOB.out.1.low q hq).1))))
          all_goals
            have HO9 := Lib.hid (And.intro hown hS9)
            clear hown hgrow hfr
            go_wp2_with fail
            go_meet
            exact ⟨g1, cap, rfl, Lib.hid ⟨_, HN.out, HO9.out.1, HO9.out.2⟩⟩
        case rest =>
          obtain ⟨g1, cap, rfl, HN5⟩ := hcut
          clear HOB HN HOK H1 H2 H3 b1 b2
          go_wp2
          go_roundw
          case rel => exact ⟨k + 1, y + (d : Int) + 1, by go_num, rfl, by omega, by omega, HN5⟩
          case measure => simp [intOf]; omega
      · have k3 : ¬ (k : Int) < 3 := by omega
        obtain ⟨L, hL, hO, hB⟩ := HL.out
        have c0 : ((k : Int) == 0) = false := beq_eq_false_iff_ne.2 (by omega)
        obtain ⟨A5, c5, rfl⟩ := hO.value
        have HF : Hid (Tiered w (.returned (.slice A5 k c5)) wr) := Lib.hid ⟨_, L, rfl, hL.tiers (by omega) (by omega), by rw [hL.len]; exact hO, by rw [hL.len]; omega, hB⟩
        clear hL hO hB HL
        go_wp2
        go_ret
        exact HF.out
    · have k1 : ¬ (k : Int) < (n : Int) := by omega
      obtain ⟨L, hL, hO, hB⟩ := HL.out
      obtain ⟨A5, c5, rfl⟩ := hO.value
      by_cases hk0 : k = 0
      · subst hk0
        have hL0 : L = [] := List.eq_nil_of_length_eq_zero hL.len
        subst hL0
        have hsd : 0 ≤ step / 2 ∧ step / 2 ≤ 5000 := by omega
        obtain ⟨s2, hs2'⟩ : ∃ s2, step / 2 = s2 := ⟨_, rfl⟩
        rw [hs2'] at hsd
        have HOK : Hid ((⟨s2, 1000, 0⟩ : Tir).ok ∧ Tiers [⟨s2, 1000, 0⟩]) := Lib.hid ⟨tier_ok (by omega) (by omega) (by omega) (by omega) (by omega) (by omega), one_tiers (by omega) (by omega)⟩
        have HOB := Lib.hid (And.intro hO hB)
        clear hL hO hB HL hsd
        go_wp2_with ((at_builtin; refine Kd.wpList_push (W := wr) (F := fun _ => False) (B := w.heap.size) (n := 0) (v := .slice A5 0 c5) (xs := []) (y := ⟨s2, 1000, 0⟩) (cs := [.int .i64 s2, .int .i64 1000, .int .i64 0]) Ap.tir_t rfl _ _ rfl rfl rfl rfl HOB.out.1 (Tir_rep.2 ⟨rfl, HOK.out.1⟩) (by omega) (by omega) HOB.out.2.size (fun _ h => h.elim) ?_; intro g1 cap w' hown hgrow hfr))
        have HF : Hid (Tiered w (.returned (.slice (some ⟨g1, 0, none⟩) 1 cap)) w') := Lib.hid ⟨_, _, rfl, HOK.out.2, hown, by show 1 ≤ 3; omega, HOB.out.2.grown hgrow HOB.out.2.size fun q hq => (HOB.out.1.low q hq).1⟩
        clear hown hgrow hfr
        go_wp2
        go_ret
        exact HF.out
      · have c0 : ((k : Int) == 0) = false := beq_eq_false_iff_ne.2 (by omega)
        have HF : Hid (Tiered w (.returned (.slice A5 k c5)) wr) := Lib.hid ⟨_, L, rfl, hL.tiers (by omega) (by omega), by rw [hL.len]; exact hO, by rw [hL.len]; omega, hB⟩
        clear hL hO hB HL
        go_wp2
        go_ret
        exact HF.out

end Go.Proofs.Ytgimcleeamlgcaa.Py
