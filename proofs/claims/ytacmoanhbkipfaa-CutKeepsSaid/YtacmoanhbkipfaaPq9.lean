/- Cuts: what is taken off is fine: mathematics. · Contracts of package share's small functions, and of the document's Upto and Piece. -/
import Derived.Test.YtacmoanhbkipfaaPq0
import Derived.Test.YtacmoanhbkipfaaPq3
import Derived.Test.YtacmoanhbkipfaaPq4
import Derived.Test.YtacmoanhbkipfaaPq8

section
set_option maxRecDepth 100000
set_option linter.unusedVariables false
namespace Go.Proofs.Ytacmoanhbkipfaa.Ct
open Ap (Unt Tir Prm)
/-! ### Parts of a sum -/
theorem parts_fine {t S : Int} {f : Nat → Int} {n : Nat} (hS : 1 ≤ S) (hs : S = Sh.sumF f n) (h0 : 0 ≤ t) (h1 : t ≤ S) (hf : ∀ k, k < n → 0 ≤ f k) {i : Nat} (hi : i < n) : 0 ≤ Sh.nth (Sh.parts t S f n) i ∧ Sh.nth (Sh.parts t S f n) i ≤ f i := by
  have hfi := hf i hi
  have hm : t * f i ≤ S * f i := Int.mul_le_mul_of_nonneg_right h1 hfi
  have hb0 : 0 ≤ Sh.base t S f i := Int.ediv_nonneg (Int.mul_nonneg h0 hfi) (by omega)
  have hdm : S * Sh.base t S f i + Sh.rest t S f i = t * f i := Int.mul_ediv_add_emod _ _
  have hr0 : 0 ≤ Sh.rest t S f i := Int.emod_nonneg _ (by omega)
  rcases Sh.each (t := t) hS hs hi with e | ⟨e, hr⟩
  · rw [e]
    exact ⟨hb0, Int.le_of_mul_le_mul_left (a := S) (by omega) (by omega)⟩
  · rw [e]
    have h2 : Sh.base t S f i < f i := Int.lt_of_mul_lt_mul_left (a := S) (by omega) (by omega)
    omega
theorem sumF_nth (l : List Int) : ∀ k, k ≤ l.length → Sh.sumF (nth l) k = sumL (l.take k)
  | 0, _ => by rw [List.take_zero]; rfl
  | k + 1, h => by
    have e : l[k]? = some (l[k]'(by omega)) := List.getElem?_eq_getElem (by omega)
    rw [Sh.sumF, sumF_nth l k (by omega), sumL_next e, nth_some e]
theorem sumL_same : ∀ l : List Int, Sh.sumL l = sumL l
  | [] => rfl
  | x :: l => by show x + Sh.sumL l = x + sumL l; rw [sumL_same l]
theorem sumL_zero (n : Nat) : sumL (List.replicate n 0) = 0 := by
  induction n with
  | zero => rfl
  | succ n ih => rw [List.replicate_succ, sumL, ih]; rfl
structure NetsOk (l : List Int) : Prop where
  few : l.length ≤ 100000
  each : ∀ (k : Nat) (x : Int), l[k]? = some x → 0 ≤ x ∧ x ≤ 10000000000000
  total : sumL l ≤ 10000000000000
def OffsFine (l os : List Int) : Prop := os.length = l.length ∧ ∀ (k : Nat) (o x : Int), os[k]? = some o → l[k]? = some x → 0 ≤ o ∧ o ≤ x
theorem spend_fine {l : List Int} (h : NetsOk l) {t : Int} (h0 : 0 ≤ t) (h1 : t ≤ sumL l) : OffsFine l (Sh.largR t (nth l) l.length).1 ∧ sumL (Sh.largR t (nth l) l.length).1 = t := by
  have hs := sumF_nth l l.length (Nat.le_refl _)
  rw [List.take_length] at hs
  have hT := h.total
  have hfe : ∀ k, k < l.length → 0 ≤ nth l k ∧ nth l k ≤ 10000000000000 := fun k hk => by
    have e := List.getElem?_eq_getElem hk
    rw [nth_some e]; exact h.each k _ e
  by_cases hz : sumL l = 0
  · have t0 : t = 0 := by omega
    rw [Sh.larg_zero ⟨h0, by omega⟩ h.few (fun k hk => ⟨(hfe k hk).1, by have := (hfe k hk).2; omega⟩) (by rw [hs]; exact hz) (by omega)]
    refine ⟨⟨List.length_replicate, fun k o x ho hx => ?_⟩, by rw [t0]; exact sumL_zero _⟩
    have e : o = 0 := by
      rw [List.getElem?_replicate] at ho
      split at ho
      · injection ho with ho; exact ho.symm
      · cases ho
    have := h.each k x hx
    omega
  · have hp : 1 ≤ sumL l := by omega
    rw [Sh.larg_parts ⟨h0, by omega⟩ h.few (fun k hk => ⟨(hfe k hk).1, by have := (hfe k hk).2; omega⟩) (by rw [hs]; exact hz) (by rw [hs]; omega), hs]
    refine ⟨⟨Sh.parts_length, fun k o x ho hx => ?_⟩, ?_⟩
    · have hk : k < l.length := (List.getElem?_eq_some_iff.1 hx).1
      have := parts_fine hp hs.symm h0 h1 (fun k hk => (hfe k hk).1) hk
      rw [nth_some hx] at this
      have e : Sh.nth (Sh.parts t (sumL l) (nth l) l.length) k = o := by
        unfold Sh.nth
        have ho' : (Sh.parts t (sumL l) (nth l) l.length)[k]? = some o := ho
        rw [List.getD_eq_getElem?_getD, ho']; rfl
      rw [e] at this
      exact this
    · show sumL (Sh.parts t (sumL l) (nth l) l.length) = t
      rw [← sumL_same]
      exact Sh.parts_sum hp hs.symm
/-! ### Half up -/
theorem half_le {x rate : Int} (h0 : 0 ≤ x) (hr : rate ≤ 10000) : halfN x rate ≤ x := by
  unfold halfN Rf.rateR
  split
  · rename_i hr0
    unfold Rf.timesR
    split
    · show Mn.timesV 1 x rate 10000 ≤ x
      have hd : 10000 * (x * rate / 10000) + x * rate % 10000 = x * rate := Int.mul_ediv_add_emod _ _
      have hm : x * rate ≤ x * 10000 := Int.mul_le_mul_of_nonneg_left hr h0
      have hm0 : 0 ≤ x * rate := Int.mul_nonneg h0 hr0.1
      obtain ⟨q, hq⟩ : ∃ q, x * rate / 10000 = q := ⟨_, rfl⟩
      obtain ⟨r, hrr⟩ : ∃ r, x * rate % 10000 = r := ⟨_, rfl⟩
      have r0 : 0 ≤ r := by rw [← hrr]; exact Int.emod_nonneg _ (by omega)
      rw [hq, hrr] at hd
      have key : Mn.rnd 1 q r 10000 ≤ x := by
        unfold Mn.rnd
        rw [if_neg (by omega), if_neg (by omega)]
        split <;> omega
      unfold Mn.timesV
      rw [hq, hrr]
      split
      · exact key
      · exact h0
    · exact h0
  · exact h0
/-! ### Tiers -/
theorem reached_mem {x : Int} : ∀ {ts : List Tir} {t : Tir}, reached x ts = some t → t ∈ ts
  | [], t, h => by cases h
  | u :: ts, t, h => by
    rw [reached] at h
    cases e : reached x ts with
    | some v =>
      rw [e] at h
      injection h with h
      subst h
      exact List.mem_cons_of_mem _ (reached_mem e)
    | none =>
      rw [e] at h
      dsimp only at h
      split at h
      · injection h with h; subst h; exact List.mem_cons_self
      · cases h
/-! ### Sums of nets -/
theorem nsum_mono {us : List Unt} (h : Nets us) {a b : Nat} (hab : a ≤ b) : nsum (us.take a) ≤ nsum (us.take b) := by
  have h1 : Nets (us.take b) := fun k u hu => by
    rw [List.getElem?_take] at hu
    split at hu
    · exact h k u hu
    · cases hu
  have := (h1.part a).2
  rw [List.take_take, Nat.min_eq_left hab] at this
  exact this
theorem nets_sum {us : List Unt} {ms : List Int} (h : Nets us) (hp : PlacesMay us ms) : ∀ k, k ≤ ms.length → sumL (netsL us (ms.take k)) ≤ nsum us ∧ ∀ z m, k = z + 1 → ms[z]? = some m → sumL (netsL us (ms.take k)) ≤ nsum (us.take (m.toNat + 1))
  | 0, _ => ⟨by rw [List.take_zero]; exact h.sum, fun z m e => by omega⟩
  | k + 1, hk => by
    have ih := nets_sum h hp k (by omega)
    have e : ms[k]? = some (ms[k]'(by omega)) := List.getElem?_eq_getElem (by omega)
    obtain ⟨m, hm⟩ : ∃ m, ms[k]'(by omega) = m := ⟨_, rfl⟩
    rw [hm] at e
    obtain ⟨m0, u, hu, _⟩ := hp.at_ k m e
    have hs : sumL (netsL us (ms.take (k + 1))) = sumL (netsL us (ms.take k)) + u.net := by
      rw [take_next e]
      unfold netsL
      rw [List.map_append, sumL_append]
      show _ + sumL [netAt us m] = _
      have : netAt us m = u.net := by unfold netAt; rw [hu]
      rw [this]; simp [sumL]
    have hn := nsum_next hu
    have hlow : sumL (netsL us (ms.take k)) ≤ nsum (us.take m.toNat) := by
      cases k with
      | zero => rw [List.take_zero]; exact (h.part _).1
      | succ z =>
        have e2 : ms[z]? = some (ms[z]'(by omega)) := List.getElem?_eq_getElem (by omega)
        have h1 := ih.2 z _ rfl e2
        have h2 := hp.rise z _ m e2 e
        have h3 := (hp.at_ z _ e2).1
        exact Int.le_trans h1 (nsum_mono h (by omega))
    have key : sumL (netsL us (ms.take (k + 1))) ≤ nsum (us.take (m.toNat + 1)) := by omega
    refine ⟨Int.le_trans key (h.part _).2, fun z m' ez hz => ?_⟩
    obtain rfl : z = k := by omega
    rw [e] at hz; injection hz with hz; subst hz
    exact key
theorem nets_ok {us : List Unt} {ms : List Int} (h : May us ms) : NetsOk (netsL us ms) := by
  have hf := h.places.few
  have hu := h.units.few
  refine ⟨by unfold netsL; rw [List.length_map]; omega, fun k x hx => ?_, ?_⟩
  · unfold netsL at hx
    rw [List.getElem?_map] at hx
    cases e : ms[k]? with
    | none => rw [e] at hx; cases hx
    | some m =>
      rw [e] at hx
      obtain ⟨_, u, hu, _⟩ := h.places.at_ k m e
      have e2 : netAt us m = u.net := by unfold netAt; rw [hu]
      injection hx with hx
      rw [← hx, e2]
      have h1 := h.units.nets _ u hu
      have h2 := h.units.nets.one hu
      have h3 := h.units.total
      omega
  · have := (nets_sum h.units.nets h.places ms.length (Nat.le_refl _)).1
    rw [List.take_length] at this
    have h3 := h.units.total
    omega
end Go.Proofs.Ytacmoanhbkipfaa.Ct

end

section
set_option maxRecDepth 100000
namespace Go.Proofs.Ytacmoanhbkipfaa.Sh
open Go.ChangeShapes Go.WideShapes Go.ChangeAt Go.RowKit
open Rf (pairOf)
set_option linter.unusedVariables false
theorem upto_in (t n k : Int) (t0 : 0 ≤ t) (n0 : 1 ≤ n) (k0 : 0 ≤ k) (k1 : k ≤ n) : 0 ≤ t * k / n ∧ t * k / n ≤ t := by
  refine ⟨Int.ediv_nonneg (Int.mul_nonneg t0 k0) (by omega), ?_⟩
  have h : t * k ≤ t * n := Int.mul_le_mul_of_nonneg_left k1 t0
  have h2 := Int.ediv_le_ediv (c := n) (by omega) h
  rwa [Int.mul_ediv_cancel _ (by omega)] at h2
end Go.Proofs.Ytacmoanhbkipfaa.Sh

end
