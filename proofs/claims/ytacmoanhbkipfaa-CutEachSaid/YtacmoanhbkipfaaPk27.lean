/- Cuts: what is off one unit, alone or among others (kinds 1 and 2). -/
import Derived.Test.YtacmoanhbkipfaaPk22
import Derived.Test.YtacmoanhbkipfaaPk26

set_option maxRecDepth 100000
set_option linter.unusedVariables false
namespace Go.Proofs.Ytacmoanhbkipfaa.Ct
open Go.ChangeShapes Go.WideShapes Go.ChangeAt Go.RowKit
open Ap (Unt Tir Prm kUnt kTir row_Unt row_Tir)
open Kd (Kind Row kInt row_int)
open Ko (Out Told Told2 At row_on)
def offOne (p : Prm) (x : Int) : Int := if p.kind = 1 then halfN x p.rate else min x p.amount
theorem offs_one {p : Prm} (h : p.kind = 1 ∨ p.kind = 2) (xs : List Int) : offsL p xs = xs.map (offOne p) := by
  unfold offsL
  rcases h with h | h
  · rw [if_pos h]
    apply List.map_congr_left
    intro x _
    unfold offOne
    rw [if_pos h]
  · rw [if_neg (by omega), if_pos h]
    apply List.map_congr_left
    intro x _
    unfold offOne
    rw [if_neg (by omega)]
theorem sum_zero {l : List Int} (h : ∀ (k : Nat) (x : Int), l[k]? = some x → 0 ≤ x) (hs : sumL l = 0) {j : Nat} {x : Int} (hx : l[j]? = some x) : x = 0 := by
  have h1 := (sum_part h j).1
  have h2 := (sum_part h (j + 1)).2
  rw [sumL_next hx] at h2
  have h3 := h j x hx
  omega
theorem apply_one {p : Prm} {us : List Unt} {ms : List Int} (hp : Pr.promoB p = true) (hk : p.kind = 1 ∨ p.kind = 2) (hc : p.closes = false) (hm : May us ms) {j : Nat} {m : Int} {u : Unt} (hj : ms[j]? = some m) (hu : us[m.toNat]? = some u) : (applyU p us ms).1[m.toNat]? = some ⟨u.line, u.net - offOne p u.net, u.opn⟩ := by
  have hn := nets_ok hm
  have e := offs_one hk (netsL us ms)
  have hlen : (offsL p (netsL us ms)).length = ms.length := by rw [e, List.length_map]; unfold netsL; rw [List.length_map]
  have hx : (netsL us ms)[j]? = some u.net := by
    unfold netsL
    rw [List.getElem?_map, hj]
    show some (netAt us m) = _
    unfold netAt
    rw [hu]
  have ho : (offsL p (netsL us ms))[j]? = some (offOne p u.net) := by rw [e, List.getElem?_map, hx]; rfl
  have hfine : ∀ (k : Nat) (x : Int), (offsL p (netsL us ms))[k]? = some x → 0 ≤ x := fun k x hk2 => by
    rcases offs_fine hp hn with h1 | h1
    · have hl : k < (netsL us ms).length := by rw [← h1.1]; exact (List.getElem?_eq_some_iff.1 hk2).1
      exact (h1.2 k x _ hk2 (List.getElem?_eq_getElem hl)).1
    · rw [h1] at hk2; simp at hk2
  unfold applyU
  rw [hp, mayB_yes hm, if_pos (show (true && true) = true from rfl)]
  by_cases hs : sumL (offsL p (netsL us ms)) = 0
  · have h0 := sum_zero hfine hs ho
    unfold lessU
    rw [if_pos hs, h0, Int.sub_zero]
    exact hu
  · rw [less_mine hm.places.far hlen p.closes hj hu hs, hc, nth_some ho]
    simp
theorem one_may {us : List Unt} (h : UnitsMay us) {t : Nat} {u : Unt} (hu : us[t]? = some u) (ho : u.opn = true) : May us [(t : Int)] :=
  ⟨h, ⟨fun i m hm => by
    match i, hm with
    | 0, hm => injection hm with hm; subst hm; exact ⟨by omega, u, by rw [Int.toNat_natCast]; exact hu, ho⟩
    | i + 1, hm => simp at hm, fun i a b ha hb => by simp at hb⟩⟩
theorem near_kind {p : Prm} {z : Int} (hz : z = 1 ∨ z = 2) : (Py.nearP (withKind p z) 1).kind = z := by
  have e : Py.modN (IntKind.i64.wrap (z - 1)) 7 = (z - 1).toNat := by
    rcases hz with rfl | rfl
    · rfl
    · rfl
  unfold Py.nearP Py.swP
  show (if _ then _ else _ : Prm).kind = z
  have e2 : (withKind p z).kind = z := rfl
  rw [e2, e]
  rcases hz with rfl | rfl
  · rfl
  · rfl
theorem closes_may {q : Prm} (h : Pr.promoB q = true) (hk : q.kind = 1 ∨ q.kind = 2) (b : Bool) : Pr.promoB (withCloses q b) = true := by
  unfold Pr.promoB at h ⊢
  rw [Bool.and_eq_true] at h ⊢
  refine ⟨h.1, ?_⟩
  have h2 := h.2
  unfold Pr.kindB at h2 ⊢
  rcases hk with hk | hk
  · rw [if_pos hk] at h2
    rw [if_pos (show (withCloses q b).kind = 1 from hk)]
    exact h2
  · rw [if_neg (by omega), if_pos hk] at h2
    rw [if_neg (show ¬ (withCloses q b).kind = 1 by show ¬ q.kind = 1; omega), if_pos (show (withCloses q b).kind = 2 from hk)]
    exact h2
theorem rate_in {q : Prm} (h : Pr.promoB q = true) (hk : q.kind = 1) : 1 ≤ q.rate ∧ q.rate ≤ 10000 := by
  unfold Pr.promoB at h
  rw [Bool.and_eq_true] at h
  have h := h.2
  unfold Pr.kindB Pr.someB at h
  rw [if_pos hk] at h
  simp only [Bool.and_eq_true, decide_eq_true_eq, beq_iff_eq] at h
  omega
structure ENum (X r N Q M M2 : Int) : Prop where
  a1 : IntKind.i64.wrap (X * r) = N
  a2 : wrap64 (X * r) = N
  b1 : N.tdiv 10000 = Q
  b2 : N.tmod 10000 = M
  b3 : IntKind.i64.wrap Q = Q
  b4 : wrap64 Q = Q
  b5 : IntKind.i64.wrap M = M
  b6 : wrap64 M = M
  c1 : IntKind.i64.wrap (2 * M) = M2
  c2 : wrap64 (2 * M) = M2
  d1 : IntKind.i64.wrap (Q + 1) = Q + 1
  d2 : wrap64 (Q + 1) = Q + 1
  e1 : 10000 ≤ M2 → halfN X r = Q + 1
  e2 : ¬ 10000 ≤ M2 → halfN X r = Q
  f : 0 ≤ Q ∧ Q ≤ 3000
theorem enum_ {X r : Int} (hX : 0 ≤ X ∧ X ≤ 3000) (hr : 1 ≤ r ∧ r ≤ 10000) : ∃ N Q M M2, ENum X r N Q M M2 := by
  have h0 : 0 ≤ X * r := Int.mul_nonneg hX.1 (by omega)
  have h1 : X * r ≤ 30000000 := by
    have := Int.mul_le_mul hX.2 hr.2 (by omega) (by omega : (0 : Int) ≤ 3000)
    omega
  have hv := half_val (x := X) (r := r) ⟨hX.1, by omega⟩ ⟨by omega, hr.2⟩
  obtain ⟨N, hN⟩ : ∃ N, X * r = N := ⟨_, rfl⟩
  rw [hN] at h0 h1 hv
  have e1 : N.tdiv 10000 = N / 10000 := Int.tdiv_eq_ediv_of_nonneg h0
  have e2 : N.tmod 10000 = N % 10000 := Int.tmod_eq_emod_of_nonneg h0
  exact ⟨N, N / 10000, N % 10000, 2 * (N % 10000), ⟨by rw [hN]; exact IntWalk.i64_in _ (by omega), by rw [hN]; exact IntWalk.wrap64_in _ (by omega), e1, e2, IntWalk.i64_in _ (by omega), IntWalk.wrap64_in _ (by omega), IntWalk.i64_in _ (by omega), IntWalk.wrap64_in _ (by omega), IntWalk.i64_in _ (by omega), IntWalk.wrap64_in _ (by omega), IntWalk.i64_in _ (by omega), IntWalk.wrap64_in _ (by omega), fun h => by rw [hv]; omega, fun h => by rw [hv]; omega, by omega⟩⟩
end Go.Proofs.Ytacmoanhbkipfaa.Ct
