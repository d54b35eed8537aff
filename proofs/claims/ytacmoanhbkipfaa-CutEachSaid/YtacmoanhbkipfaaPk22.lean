/- Cuts: how much a half up is; what two tiers take off; what is taken off one unit alone. · The statements' tiers: some that may be. · The statements' names: texts of one byte. -/
import Derived.Deep.CutBlock
import Derived.Deep.DeepCutAuto
import Derived.Deep.LoopGhost
import Derived.Deep.RegionHeld3
import Derived.IntWalk
import Derived.Test.YtacmoanhbkipfaaPk1
import Derived.Test.YtacmoanhbkipfaaPk13
import Derived.Test.YtacmoanhbkipfaaPk2
import Derived.Test.YtacmoanhbkipfaaPk21
import Derived.Test.YtacmoanhbkipfaaPk6

section
set_option maxRecDepth 100000
set_option linter.unusedVariables false
namespace Go.Proofs.Ytacmoanhbkipfaa.Ct
open Go.ChangeShapes Go.WideShapes Go.ChangeAt Go.RowKit
open Ap (Unt Tir Prm kUnt kTir row_Unt row_Tir)
open Kd (Kind Row kInt row_int)
open Ko (Out Told Told2 At row_on)
theorem half_val {x r : Int} (hx : 0 ≤ x ∧ x ≤ 10000000000000) (hr : 0 ≤ r ∧ r ≤ 10000) : halfN x r = (2 * (x * r) + 10000) / 20000 := by
  have h0 : 0 ≤ x * r := Int.mul_nonneg hx.1 hr.1
  have h1 : x * r ≤ 100000000000000000 := by
    have := Int.mul_le_mul hx.2 hr.2 hr.1 (by omega : (0 : Int) ≤ 10000000000000)
    omega
  obtain ⟨N, hN⟩ : ∃ N, x * r = N := ⟨_, rfl⟩
  rw [hN] at h0 h1
  have hv : Mn.rnd 1 (x * r / 10000) (x * r % 10000) 10000 = (2 * N + 10000) / 20000 := by
    rw [hN]
    unfold Mn.rnd
    rw [if_neg (by omega), if_neg (by omega)]
    split <;> omega
  unfold halfN Rf.rateR
  rw [if_pos hr, hN, Rf.timesR_yes 1 x r 10000 ((2 * N + 10000) / 20000) ⟨⟨hx.1, by omega⟩, ⟨hr.1, by omega⟩, by omega, by omega, by omega, by omega⟩ hv (by omega)]
theorem half_none {x : Int} (hx : 0 ≤ x ∧ x ≤ 10000000000000) : halfN x 0 = 0 := by
  rw [half_val hx ⟨by omega, by omega⟩, Int.mul_zero]
  decide
/-! ### Two tiers -/
def tieP (a b : Tir) : Prm := ⟨⟨#[97]⟩, 5, 0, ⟨#[]⟩, ⟨#[]⟩, false, ⟨[], []⟩, 0, 0, 0, 0, 0, [], [a, b]⟩
theorem tie_promo {a b : Tir} (ha : Pr.tierB a = true) (hb : Pr.tierB b = true) (h : a.least < b.least) : Pr.promoB (tieP a b) = true := by
  have ht : Pr.tiersB [a, b] = true := Pr.tiersB_iff.2 ⟨fun i t hi => (by
    match i, hi with
    | 0, hi => injection hi with hi; subst hi; exact ha
    | 1, hi => injection hi with hi; subst hi; exact hb
    | i + 2, hi => simp at hi), fun i x y hx hy => (by
    match i, hx, hy with
    | 0, hx, hy => injection hx with hx; injection hy with hy; subst hx; subst hy; exact h
    | i + 1, hx, hy => simp at hy), (show 1 ≤ 2 by decide), (show 2 ≤ 6 by decide)⟩
  have hh : Pr.headB (tieP a b) = true := by
    have := aw_head
    rw [Pr.headB_def] at this ⊢
    exact this
  unfold Pr.promoB
  rw [hh]
  unfold Pr.kindB
  rw [if_neg (show ¬ (tieP a b).kind = 1 from (by decide : ¬ (5 : Int) = 1)), if_neg (show ¬ (tieP a b).kind = 2 from (by decide : ¬ (5 : Int) = 2)), if_neg (show ¬ (tieP a b).kind = 3 from (by decide : ¬ (5 : Int) = 3)), if_neg (show ¬ (tieP a b).kind = 4 from (by decide : ¬ (5 : Int) = 4)), if_neg (show ¬ (tieP a b).kind = 7 from (by decide : ¬ (5 : Int) = 7))]
  show (true && ((0 : Int) == 0 && (0 : Int) == 0 && Pr.noBuy (tieP a b) && Pr.noParts (tieP a b) && Pr.tiersB [a, b])) = true
  rw [ht]; rfl
theorem spend_all {p : Prm} {us : List Unt} {ms : List Int} (hp : Pr.promoB p = true) (hk : p.kind = 5) (hm : May us ms) :
    (applyU p us ms).2 = min (sumL (netsL us ms)) (halfN (sumL (netsL us ms)) (tierOf (sumL (netsL us ms)) p.tiers).rate + (tierOf (sumL (netsL us ms)) p.tiers).amount) := by
  have hn := nets_ok hm
  have ht := (kind_tiers hp (.inl hk) (sumL (netsL us ms))).2.2
  have hh := halfN_ok (sumL (netsL us ms)) (tierOf (sumL (netsL us ms)) p.tiers).rate
  have hs := hn.sums.2
  have hf := (spend_fine hn (t := min (sumL (netsL us ms)) (halfN (sumL (netsL us ms)) (tierOf (sumL (netsL us ms)) p.tiers).rate + (tierOf (sumL (netsL us ms)) p.tiers).amount)) (by omega) (by omega)).2
  have e : offsL p (netsL us ms) = (Sh.largR (min (sumL (netsL us ms)) (halfN (sumL (netsL us ms)) (tierOf (sumL (netsL us ms)) p.tiers).rate + (tierOf (sumL (netsL us ms)) p.tiers).amount)) (nth (netsL us ms)) (netsL us ms).length).1 := by unfold offsL; rw [if_neg (by omega), if_neg (by omega), if_neg (by omega), if_pos hk]
  unfold applyU
  rw [hp, mayB_yes hm, if_pos (show (true && true) = true from rfl), e]
  unfold lessU
  rw [hf]
  split
  · rename_i h0; exact h0.symm
  · rfl
theorem two_tiers {s : Int} {a b : Tir} (h : a.least < b.least) : tierOf s [a, b] = if b.least ≤ s then b else if a.least ≤ s then a else noTier := by
  unfold tierOf
  rw [reached, reached, reached]
  by_cases h1 : b.least ≤ s
  · simp [h1]
  · by_cases h2 : a.least ≤ s
    · simp [h1, h2]
    · simp [h1, h2]
theorem tie_off {us : List Unt} {ms : List Int} {le ra st : Int} (hm : May us ms) (hl : 1 ≤ le ∧ le ≤ 200000) (hr : 1 ≤ ra ∧ ra ≤ 5000) (hs : 1 ≤ st ∧ st ≤ 50) :
    (applyU (tieP ⟨le, ra, 0⟩ ⟨le + st, 0, 7⟩) us ms).2 = if le + st ≤ sumL (netsL us ms) then min 7 (sumL (netsL us ms)) else if le ≤ sumL (netsL us ms) then (2 * (sumL (netsL us ms) * ra) + 10000) / 20000 else 0 := by
  have hlt : (⟨le, ra, 0⟩ : Tir).least < (⟨le + st, 0, 7⟩ : Tir).least := by show le < le + st; omega
  have hp : Pr.promoB (tieP ⟨le, ra, 0⟩ ⟨le + st, 0, 7⟩) = true := tie_promo (by unfold Pr.tierB Pr.inB; simp; omega) (by unfold Pr.tierB Pr.inB; simp; omega) hlt
  rw [spend_all hp rfl hm]
  have hn := nets_ok hm
  have h0 := hn.sums.2
  have h1 := hn.total
  obtain ⟨s, hs2⟩ : ∃ s, sumL (netsL us ms) = s := ⟨_, rfl⟩
  rw [hs2] at h0 h1 ⊢
  have ht : tierOf s (tieP ⟨le, ra, 0⟩ ⟨le + st, 0, 7⟩).tiers = _ := two_tiers hlt
  rw [ht]
  have hz := half_none (x := s) ⟨h0, h1⟩
  have hv := half_val (x := s) (r := ra) ⟨h0, h1⟩ ⟨by omega, by omega⟩
  have hle := half_le (x := s) (rate := ra) h0 (by omega)
  by_cases c1 : le + st ≤ s
  · rw [if_pos c1, if_pos c1]
    show min s (halfN s 0 + 7) = min 7 s
    rw [hz]; omega
  · by_cases c2 : le ≤ s
    · rw [if_neg c1, if_pos c2, if_neg c1, if_pos c2]
      show min s (halfN s ra + 0) = _
      rw [← hv]; omega
    · rw [if_neg c1, if_neg c2, if_neg c1, if_neg c2]
      show min s (halfN s 0 + 0) = 0
      rw [hz]; omega
theorem sumL_most {M : Int} : ∀ {l : List Int}, (∀ x ∈ l, x ≤ M) → sumL l ≤ M * (l.length : Int)
  | [], _ => by simp [sumL]
  | x :: l, h => by
    have h1 := h x List.mem_cons_self
    have h2 := sumL_most (l := l) fun y hy => h y (List.mem_cons_of_mem _ hy)
    simp only [sumL, List.length_cons]
    rw [show ((l.length + 1 : Nat) : Int) = (l.length : Int) + 1 by omega, Int.mul_add]
    omega
theorem nets_most (us : List Unt) (bits : Int) : sumL (netsL (unitsOf us) (mineL bits (unitsOf us))) ≤ 180000 := by
  have h1 : ∀ x ∈ netsL (unitsOf us) (mineL bits (unitsOf us)), x ≤ 3000 := fun x hx => by
    unfold netsL at hx
    obtain ⟨m, hm, rfl⟩ := List.mem_map.1 hx
    obtain ⟨i, hi, e⟩ := List.mem_iff_getElem.1 hm
    obtain ⟨_, u, hu, _⟩ := (mine_may bits (unitsOf us)).at_ i m (by rw [List.getElem?_eq_getElem hi, e])
    unfold netAt
    rw [hu]
    obtain ⟨v, _, rfl⟩ := unitsFrom_at (i := 0) hu
    have := (unitAt_fine (0 + m.toNat) v).2.2
    show (unitAt (0 + m.toNat) v).net ≤ 3000
    omega
  have h2 := sumL_most h1
  have h3 : (netsL (unitsOf us) (mineL bits (unitsOf us))).length ≤ 60 := by
    unfold netsL
    rw [List.length_map]
    have := mineFrom_length bits 0 (unitsOf us)
    have := unitsOf_length us
    unfold mineL
    omega
  omega
theorem units_may (us : List Unt) (bits : Int) : May (unitsOf us) (mineL bits (unitsOf us)) := ⟨unitsOf_may us, mine_may bits (unitsOf us)⟩
structure TNum (S R S2 P Q V : Int) : Prop where
  a1 : IntKind.i64.wrap (2 * S) = S2
  a2 : wrap64 (2 * S) = S2
  b1 : IntKind.i64.wrap (S2 * R) = P
  b2 : wrap64 (S2 * R) = P
  c1 : IntKind.i64.wrap (P + 10000) = Q
  c2 : wrap64 (P + 10000) = Q
  d1 : Q.tdiv 20000 = V
  d2 : IntKind.i64.wrap V = V
  d3 : wrap64 V = V
  e : V = (2 * (S * R) + 10000) / 20000
theorem tnum {S R : Int} (hS : 0 ≤ S ∧ S ≤ 180000) (hR : 1 ≤ R ∧ R ≤ 5000) : ∃ S2 P Q V, TNum S R S2 P Q V := by
  have h0 : 0 ≤ S * R := Int.mul_nonneg hS.1 (by omega)
  have h1 : S * R ≤ 900000000 := by
    have := Int.mul_le_mul hS.2 hR.2 (by omega) (by omega : (0 : Int) ≤ 180000)
    omega
  have h2 : 2 * S * R = 2 * (S * R) := Int.mul_assoc 2 S R
  obtain ⟨N, hN⟩ : ∃ N, S * R = N := ⟨_, rfl⟩
  rw [hN] at h0 h1 h2
  have h3 : (2 * N + 10000).tdiv 20000 = (2 * N + 10000) / 20000 := Int.tdiv_eq_ediv_of_nonneg (by omega)
  exact ⟨2 * S, 2 * N, 2 * N + 10000, (2 * N + 10000) / 20000, ⟨IntWalk.i64_in _ (by omega), IntWalk.wrap64_in _ (by omega), by rw [h2]; exact IntWalk.i64_in _ (by omega), by rw [h2]; exact IntWalk.wrap64_in _ (by omega), IntWalk.i64_in _ (by omega), IntWalk.wrap64_in _ (by omega), h3, IntWalk.i64_in _ (by omega), IntWalk.wrap64_in _ (by omega), by rw [hN]⟩⟩
theorem two_tier_row {W : World} {b : Nat} {s t : Tir} (hs : s.ok) (ht : t.ok) (h : Qu.Blk W b 48 #[.int .i64 s.least, .int .i64 s.rate, .int .i64 s.amount, .int .i64 t.least, .int .i64 t.rate, .int .i64 t.amount]) : Row kTir W (· < W.heap.size) (some ⟨b, 0, none⟩) 2 [s, t] :=
  Kd.Own.read (B := b) (E := 48) (c := 2) (Kd.own_blk (cs := [.int .i64 s.least, .int .i64 s.rate, .int .i64 s.amount, .int .i64 t.least, .int .i64 t.rate, .int .i64 t.amount]) h (Nat.le_refl _) rfl ⟨[.int .i64 s.least, .int .i64 s.rate, .int .i64 s.amount], _, rfl, Ap.Tir_rep.2 ⟨rfl, hs⟩, [.int .i64 t.least, .int .i64 t.rate, .int .i64 t.amount], _, rfl, Ap.Tir_rep.2 ⟨rfl, ht⟩, rfl⟩ (Nat.le_refl _) (by decide) rfl rfl)
def tieLay (b : Nat) : Prm.Lay := ⟨⟨⟨none, 0, 0⟩, ⟨none, 0, 0⟩⟩, ⟨none, 0, 0⟩, ⟨some ⟨b, 0, none⟩, 2, 2⟩⟩
theorem tie_holds {W : World} {b : Nat} {s t : Tir} (hs : s.ok) (ht : t.ok) (h : Qu.Blk W b 48 #[.int .i64 s.least, .int .i64 s.rate, .int .i64 s.amount, .int .i64 t.least, .int .i64 t.rate, .int .i64 t.amount]) : Ap.Prm.Holds W (· < W.heap.size) (tieP s t) (tieLay b) :=
  ⟨(by decide : (1 : Nat) ≤ maxLen), (by decide : (-9223372036854775808 : Int) ≤ 5 ∧ (5 : Int) ≤ 9223372036854775807), (by decide : (-9223372036854775808 : Int) ≤ 0 ∧ (0 : Int) ≤ 9223372036854775807), (by decide : (0 : Nat) ≤ maxLen), (by decide : (0 : Nat) ≤ maxLen), ⟨nil_lst, nil_lst⟩, (by decide : (-9223372036854775808 : Int) ≤ 0 ∧ (0 : Int) ≤ 9223372036854775807), (by decide : (-9223372036854775808 : Int) ≤ 0 ∧ (0 : Int) ≤ 9223372036854775807), (by decide : (-9223372036854775808 : Int) ≤ 0 ∧ (0 : Int) ≤ 9223372036854775807), (by decide : (-9223372036854775808 : Int) ≤ 0 ∧ (0 : Int) ≤ 9223372036854775807), (by decide : (-9223372036854775808 : Int) ≤ 0 ∧ (0 : Int) ≤ 9223372036854775807), nil_lst, ⟨two_tier_row hs ht h, ⟨fun h => (by cases h), Nat.le_refl _, (show (2 : Nat) ≤ 9223372036854775807 by decide)⟩⟩⟩
end Go.Proofs.Ytacmoanhbkipfaa.Ct

end

section
set_option maxRecDepth 100000
set_option linter.unusedVariables false
namespace Go.Proofs.Ytacmoanhbkipfaa.Py
open Go.ChangeShapes Go.WideShapes Go.ChangeAt Go.RowKit
open Kd (Kind Row Own Cells Fit Agree)
open Ap (Tir kTir row_Tir Tir_rep)
open Pr (Tiers tierB inB)
structure Laid (L : List Tir) (k : Nat) (y : Int) : Prop where
  len : L.length = k
  each : ∀ (i : Nat) (t : Tir), L[i]? = some t → tierB t = true ∧ t.least < y
  rise : ∀ (i : Nat) (a b : Tir), L[i]? = some a → L[i + 1]? = some b → a.least < b.least
  low : 0 ≤ y
  high : y ≤ 5000 * k
theorem Laid.begin : Laid [] 0 0 := ⟨rfl, fun i t h => by simp at h, fun i a b h => by simp at h, by omega, by omega⟩
theorem tier_fine {d r a : Int} (h1 : 0 ≤ d) (h2 : d ≤ 10000000000000) (h3 : 0 ≤ r) (h4 : r ≤ 10000) (h5 : 1 ≤ a) (h6 : a ≤ 10000000000000) : tierB ⟨d, r, a⟩ = true := by
  unfold tierB inB
  simp [h1, h2, h3, h4, h6]
  omega
theorem Laid.next {L : List Tir} {k : Nat} {y d r a : Int} (h : Laid L k y) (hk : k ≤ 2) (hd : y ≤ d) (hd2 : d < y + 5000) (h3 : 0 ≤ r) (h4 : r ≤ 10000) (h5 : 1 ≤ a) (h6 : a ≤ 300) : Laid (L ++ [⟨d, r, a⟩]) (k + 1) (d + 1) := by
  have h0 := h.low
  have h9 := h.high
  have hget : ∀ (i : Nat) (t : Tir), (L ++ [(⟨d, r, a⟩ : Tir)])[i]? = some t → (i < k ∧ L[i]? = some t) ∨ (i = k ∧ t = ⟨d, r, a⟩) := fun i t ht => by
    have hl := (List.getElem?_eq_some_iff.1 ht).1
    rw [List.length_append, h.len, List.length_singleton] at hl
    rcases Nat.lt_or_ge i k with h1 | h1
    · rw [List.getElem?_append_left (by rw [h.len]; exact h1)] at ht
      exact .inl ⟨h1, ht⟩
    · obtain rfl : i = k := by omega
      rw [List.getElem?_append_right (by rw [h.len]; exact Nat.le_refl _), h.len, Nat.sub_self] at ht
      exact .inr ⟨rfl, by injection ht with ht; exact ht.symm⟩
  refine ⟨by rw [List.length_append, h.len]; rfl, fun i t ht => ?_, fun i b c hb hc => ?_, by omega, by omega⟩
  · rcases hget i t ht with ⟨_, h1⟩ | ⟨_, rfl⟩
    · have := h.each i t h1
      exact ⟨this.1, by omega⟩
    · exact ⟨tier_fine (by omega) (by omega) h3 h4 h5 (by omega), by show d < d + 1; omega⟩
  · rcases hget (i + 1) c hc with ⟨h1, hc1⟩ | ⟨h1, rfl⟩
    · rcases hget i b hb with ⟨_, hb1⟩ | ⟨h2, _⟩
      · exact h.rise i b c hb1 hc1
      · omega
    · rcases hget i b hb with ⟨_, hb1⟩ | ⟨h2, _⟩
      · have := (h.each i b hb1).2
        show b.least < d
        omega
      · omega
theorem Laid.tiers {L : List Tir} {k : Nat} {y : Int} (h : Laid L k y) (hk : 1 ≤ k) (hk2 : k ≤ 6) : Tiers L := ⟨fun i t ht => (h.each i t ht).1, h.rise, by rw [h.len]; exact hk, by rw [h.len]; exact hk2⟩
theorem one_tiers {s : Int} (h1 : 0 ≤ s) (h2 : s ≤ 5000) : Tiers [⟨s, 1000, 0⟩] := by
  have hget : ∀ (i : Nat) (t : Tir), ([⟨s, 1000, 0⟩] : List Tir)[i]? = some t → i = 0 ∧ t = ⟨s, 1000, 0⟩ := fun i t ht => by
    have hl := (List.getElem?_eq_some_iff.1 ht).1
    obtain rfl : i = 0 := by simpa using hl
    exact ⟨rfl, by injection ht with ht; exact ht.symm⟩
  refine ⟨fun i t ht => ?_, fun i a b ha hb => ?_, by simp, by simp⟩
  · obtain ⟨_, rfl⟩ := hget i t ht
    unfold tierB inB
    simp [h1]
    omega
  · have := (hget _ _ hb).1
    omega
def tirTo (l : List Tir) (step : Int) : Nat → List Tir × Int
  | 0 => ([], 0)
  | k + 1 => match l[k]? with
    | none => tirTo l step k
    | some t => ((tirTo l step k).1 ++ [⟨(tirTo l step k).2 + (modN t.least step : Int), (modN t.rate 4000 : Int), 1 + (modN t.amount 300 : Int)⟩], (tirTo l step k).2 + (modN t.least step : Int) + 1)
def tirOf (l : List Tir) (step : Int) : List Tir := if (tirTo l step 3).1.length = 0 then [⟨step / 2, 1000, 0⟩] else (tirTo l step 3).1
theorem tirTo_next {l : List Tir} {step y : Int} {k : Nat} {L : List Tir} {t : Tir} (h : (L, y) = tirTo l step k) (ht : l[k]? = some t) : (L ++ [(⟨y + (modN t.least step : Int), (modN t.rate 4000 : Int), 1 + (modN t.amount 300 : Int)⟩ : Tir)], y + (modN t.least step : Int) + 1) = tirTo l step (k + 1) := by
  show _ = (match l[k]? with | none => tirTo l step k | some t => ((tirTo l step k).1 ++ [(⟨(tirTo l step k).2 + (modN t.least step : Int), (modN t.rate 4000 : Int), 1 + (modN t.amount 300 : Int)⟩ : Tir)], (tirTo l step k).2 + (modN t.least step : Int) + 1))
  rw [ht, ← h]
theorem tirTo_stop (l : List Tir) (step : Int) (i : Nat) (h : l.length ≤ i) : ∀ j, tirTo l step (i + j) = tirTo l step i
  | 0 => rfl
  | j + 1 => by
    have h2 : l[i + j]? = none := List.getElem?_eq_none (by omega)
    show (match l[i + j]? with | none => tirTo l step (i + j) | some t => _) = _
    rw [h2]
    exact tirTo_stop l step i h j
theorem tirOf_is {l : List Tir} {step y : Int} {k : Nat} {L : List Tir} (h : (L, y) = tirTo l step k) (hk : k = 3 ∨ (k ≤ 3 ∧ l.length ≤ k)) (hL : 0 < L.length) : L = tirOf l step := by
  have e : tirTo l step 3 = tirTo l step k := by
    rcases hk with rfl | ⟨h1, h2⟩
    · rfl
    · have := tirTo_stop l step k h2 (3 - k)
      rw [show k + (3 - k) = 3 by omega] at this
      exact this
  unfold tirOf
  rw [e, ← h, if_neg (by show ¬ L.length = 0; omega)]
theorem tirOf_none {l : List Tir} {step : Int} (h : l.length = 0) : [(⟨step / 2, 1000, 0⟩ : Tir)] = tirOf l step := by
  have e : tirTo l step 3 = tirTo l step 0 := tirTo_stop l step 0 (by omega) 3
  unfold tirOf
  rw [e, if_pos (show (tirTo l step 0).1.length = 0 from rfl)]
def Tiered (w : World) (l : List Tir) (step : Int) (e : Ending) (w' : World) : Prop := ∃ v L, e = .returned v ∧ Tiers L ∧ L = tirOf l step ∧ Kd.Own kTir w' w.heap.size 48 (fun _ => False) v L.length L ∧ L.length ≤ 3 ∧ Below w.heap.size w w'
theorem tier_ok {d r a : Int} (h1 : 0 ≤ d) (h2 : d ≤ 10000000000000) (h3 : 0 ≤ r) (h4 : r ≤ 10000) (h5 : 0 ≤ a) (h6 : a ≤ 10000000000000) : (⟨d, r, a⟩ : Tir).ok := ⟨⟨by show _ ≤ d; omega, by show d ≤ _; omega⟩, ⟨by show _ ≤ r; omega, by show r ≤ _; omega⟩, ⟨by show _ ≤ a; omega, by show a ≤ _; omega⟩⟩
set_option maxHeartbeats 4000000 in
theorem tiers_any (A : Option Addr) (n c : Nat) (l : List Tir) (step : Int) (w : World) (h : Row kTir w (· < w.heap.size) A n l) (hn : n ≤ 1000000000000) (hs1 : 2 ≤ step) (hs2 : step ≤ 5000) :
    Calls Try.prog 30 #[.slice A n c, .int .i64 step] w (Tiered w l step) := by
  have HR := Lib.hid h
  have HLn := Lib.hid h.len
  obtain ⟨w1, hw1⟩ : ∃ w1, w.alloc (.cells #[] 48) = w1 := ⟨_, rfl⟩
  have HL0 : Hid (∃ L, Laid L 0 0 ∧ (L, (0 : Int)) = tirTo l step 0 ∧ Kd.Own kTir w1 w.heap.size 48 (fun _ => False) (.slice (some ⟨w.heap.size, 0, none⟩) 0 0) 0 L ∧ Below w.heap.size w w1) := Lib.hid ⟨[], Laid.begin, rfl, by
    rw [← hw1]
    exact Kd.own_blk (cs := []) (Qu.Blk.new w _ _) (Nat.le_refl _) rfl rfl (Nat.le_refl _) (by unfold maxLen; omega) rfl rfl, by rw [← hw1]; exact (Below.refl _ _).alloc (Nat.le_refl _) _⟩
  clear h
  go_enter Try.func30, Try.ntmps30
  go_wp2
  go_loopw [5, 6, 7] (fun s5 s6 s7 wr => ∃ (k : Nat) (y : Int), s7 = .int .i64 k ∧ s6 = .int .i64 y ∧ k ≤ n ∧ k ≤ 3 ∧ Hid (∃ L, Laid L k y ∧ (L, y) = tirTo l step k ∧ Kd.Own kTir wr w.heap.size 48 (fun _ => False) s5 k L ∧ Below w.heap.size w wr)) (fun _ _ s7 _ => 3 - (intOf s7).toNat)
  case atStart => exact ⟨0, 0, rfl, rfl, Nat.zero_le _, by omega, HL0⟩
  case round =>
    clear HL0
    obtain ⟨k, y, rfl, rfl, hkn, hk3, HL⟩ := hrel
    have k0 : (0 : Int) ≤ (k : Int) := by omega
    by_cases hlt : k < n
    · have k1 : (k : Int) < (n : Int) := by omega
      by_cases hl3 : k < 3
      · have k3 : (k : Int) < 3 := by omega
        obtain ⟨L, hL, hE, hO, hB⟩ := HL.out
        obtain ⟨t, ht⟩ := HR.out.get hlt
        obtain ⟨g, o, rfl, hgw, hg, hok, a0, a1, a2⟩ := row_Tir (HR.out.below hB (Nat.le_refl _)) ht
        have a1 := ((hB.cell (p := ⟨g, o + k * 3 + 1, none⟩) hgw).symm.trans a1)
        have a2 := ((hB.cell (p := ⟨g, o + k * 3 + 2, none⟩) hgw).symm.trans a2)
        obtain ⟨d, hd⟩ : ∃ d, modN t.least step = d := ⟨_, rfl⟩
        obtain ⟨r, hr⟩ : ∃ r, modN t.rate 4000 = r := ⟨_, rfl⟩
        obtain ⟨m, hm⟩ : ∃ m, modN t.amount 300 = m := ⟨_, rfl⟩
        have hT := tirTo_next hE ht
        rw [hd, hr, hm] at hT
        have HT := Lib.hid hT
        clear hT hE
        have hd1 := modN_lt t.least step (by omega)
        have hr1 := modN_lt t.rate 4000 (by omega)
        have hm1 := modN_lt t.amount 300 (by omega)
        have H1 := Lib.hid (fun W => mod64_any t.least step W (by omega) (by omega))
        have H2 := Lib.hid (fun W => mod64_any t.rate 4000 W (by omega) (by omega))
        have H3 := Lib.hid (fun W => mod64_any t.amount 300 W (by omega) (by omega))
        rw [hd] at hd1
        rw [hr] at hr1
        rw [hm] at hm1
        simp only [hd] at H1
        simp only [hr] at H2
        simp only [hm] at H3
        have hy0 := hL.low
        have hy1 := hL.high
        have HN : Hid (Laid (L ++ [⟨y + (d : Int), (r : Int), 1 + (m : Int)⟩]) (k + 1) (y + (d : Int) + 1)) := Lib.hid (hL.next (by omega) (by omega) (by omega) (by omega) (by omega) (by omega) (by omega))
        have HOK : Hid ((⟨y + (d : Int), (r : Int), 1 + (m : Int)⟩ : Tir).ok) := Lib.hid (tier_ok (by omega) (by omega) (by omega) (by omega) (by omega) (by omega))
        have b1 : ∀ u, Below w.heap.size w u → u.cell? ⟨g, o + k * 3 + 1, none⟩ = some (.int .i64 t.rate) := fun u hu => (hu.cell (p := ⟨g, _, none⟩) hgw).trans a1
        have b2 : ∀ u, Below w.heap.size w u → u.cell? ⟨g, o + k * 3 + 2, none⟩ = some (.int .i64 t.amount) := fun u hu => (hu.cell (p := ⟨g, _, none⟩) hgw).trans a2
        have HOB := Lib.hid (And.intro hO hB)
        have hka : k ≤ 2 := by omega
        have hwm : IntKind.i64.wrap (1 + (m : Int)) = 1 + (m : Int) := IntWalk.i64_in _ (by omega)
        clear hL hO hB ht hok hd hr hm HL a1 a2
        go_wp2_with fail
        refine (H1.out _).mono ?_
        rintro e w2 ⟨rfl, rfl⟩
        go_upto_region 7 with (fail)
        go_cut [5] (fun s5 wx => ∃ g1 cap, s5 = .slice (some ⟨g1, 0, none⟩) (k + 1) cap ∧ Hid (∃ L, Laid L (k + 1) (y + (d : Int) + 1) ∧ (L, y + (d : Int) + 1) = tirTo l step (k + 1) ∧ Kd.Own kTir wx w.heap.size 48 (fun _ => False) (.slice (some ⟨g1, 0, none⟩) (k + 1) cap) (k + 1) L ∧ Below w.heap.size w wx))
        case first =>
          go_region_held3 (fun u => Below w.heap.size w u)
            (first
              | assumption
              | (repeat (first | assumption | exact HOB.out.2 | refine Below.drew ?_ | refine Kd.below_alloc ?_ _)))
            (first
              | (go_at_call 15; with_reducible refine (H2.out _).mono ?_; rintro e wb ⟨rfl, rfl⟩)
              | (go_at_call 15; with_reducible refine (H3.out _).mono ?_; rintro e wb ⟨rfl, rfl⟩)
              | (refine Kd.step_push (o := ⟨some 45, _, _, _, _, _⟩) (W := w2.drew) (F := fun _ => False) (B := w.heap.size) (n := k) (v := u5) (xs := L) (y := ⟨y + (d : Int), (r : Int), 1 + (m : Int)⟩) (cs := [.int .i64 (y + (d : Int)), .int .i64 (r : Int), .int .i64 (1 + (m : Int))]) Ap.tir_t rfl (.tmp 28) (.tmp 44) rfl rfl rfl rfl ?_ (Tir_rep.2 ⟨rfl, HOK.out⟩) (by omega) (by omega) ?_ (fun _ h => h.elim) ?_; (next => exact HOB.out.1.later (by (repeat (first | exact Below.refl _ _ | refine Below.drew ?_)))); (next => exact Below.size (B := w.heap.size) (w := w) (by (repeat (first | exact HOB.out.2 | refine Below.drew ?_)))); (intro g1 cap w9 hown hgrow hfr; have hS9 : Below w.heap.size w w9 := Below.grown (by (repeat (first | exact HOB.out.2 | refine Below.drew ?_))) hgrow (Below.size (B := w.heap.size) (w := w) (by (repeat (first | exact HOB.out.2 | refine Below.drew ?_)))) (fun q hq => (HOB.out.1.low q hq).1))))
          all_goals
            have HO9 := Lib.hid (And.intro hown hS9)
            clear hown hgrow hfr
            go_wp2_with fail
            go_meet
            exact ⟨g1, cap, rfl, Lib.hid ⟨_, HN.out, HT.out, HO9.out.1, HO9.out.2⟩⟩
        case rest =>
          obtain ⟨g1, cap, rfl, HN5⟩ := hcut
          clear HOB HN HOK H1 H2 H3 b1 b2
          go_wp2
          go_roundw
          case rel => exact ⟨k + 1, y + (d : Int) + 1, by go_num, rfl, by omega, by omega, HN5⟩
          case measure => simp [intOf]; omega
      · have k3 : ¬ (k : Int) < 3 := by omega
        obtain ⟨L, hL, hE, hO, hB⟩ := HL.out
        have c0 : ((k : Int) == 0) = false := beq_eq_false_iff_ne.2 (by omega)
        obtain ⟨A5, c5, rfl⟩ := hO.value
        have HF : Hid (Tiered w l step (.returned (.slice A5 k c5)) wr) := Lib.hid ⟨_, L, rfl, hL.tiers (by omega) (by omega), tirOf_is hE (.inl (by omega)) (by rw [hL.len]; omega), by rw [hL.len]; exact hO, by rw [hL.len]; omega, hB⟩
        clear hL hE hO hB HL
        go_wp2
        go_ret
        exact HF.out
    · have k1 : ¬ (k : Int) < (n : Int) := by omega
      obtain ⟨L, hL, hE, hO, hB⟩ := HL.out
      obtain ⟨A5, c5, rfl⟩ := hO.value
      by_cases hk0 : k = 0
      · subst hk0
        have hL0 : L = [] := List.eq_nil_of_length_eq_zero hL.len
        subst hL0
        have hsd : 0 ≤ step / 2 ∧ step / 2 ≤ 5000 := by omega
        obtain ⟨s2, hs2'⟩ : ∃ s2, step / 2 = s2 := ⟨_, rfl⟩
        rw [hs2'] at hsd
        have HS2 := Lib.hid hs2'
        have HOK : Hid ((⟨s2, 1000, 0⟩ : Tir).ok ∧ Tiers [⟨s2, 1000, 0⟩]) := Lib.hid ⟨tier_ok (by omega) (by omega) (by omega) (by omega) (by omega) (by omega), one_tiers (by omega) (by omega)⟩
        have HOB := Lib.hid (And.intro hO hB)
        clear hL hE hO hB HL hsd
        go_wp2_with ((at_builtin; refine Kd.wpList_push (W := wr) (F := fun _ => False) (B := w.heap.size) (n := 0) (v := .slice A5 0 c5) (xs := []) (y := ⟨s2, 1000, 0⟩) (cs := [.int .i64 s2, .int .i64 1000, .int .i64 0]) Ap.tir_t rfl _ _ rfl rfl rfl rfl HOB.out.1 (Tir_rep.2 ⟨rfl, HOK.out.1⟩) (by omega) (by omega) HOB.out.2.size (fun _ h => h.elim) ?_; intro g1 cap w' hown hgrow hfr))
        have HF : Hid (Tiered w l step (.returned (.slice (some ⟨g1, 0, none⟩) 1 cap)) w') := Lib.hid ⟨_, _, rfl, HOK.out.2, by rw [← HS2.out]; exact tirOf_none (by have := HLn.out; omega), hown, by show 1 ≤ 3; omega, HOB.out.2.grown hgrow HOB.out.2.size fun q hq => (HOB.out.1.low q hq).1⟩
        clear hown hgrow hfr
        go_wp2
        go_ret
        exact HF.out
      · have c0 : ((k : Int) == 0) = false := beq_eq_false_iff_ne.2 (by omega)
        have HF : Hid (Tiered w l step (.returned (.slice A5 k c5)) wr) := Lib.hid ⟨_, L, rfl, hL.tiers (by omega) (by omega), tirOf_is hE (.inr ⟨by omega, by have := HLn.out; omega⟩) (by rw [hL.len]; omega), by rw [hL.len]; exact hO, by rw [hL.len]; omega, hB⟩
        clear hL hE hO hB HL
        go_wp2
        go_ret
        exact HF.out
end Go.Proofs.Ytacmoanhbkipfaa.Py

end

section
set_option maxRecDepth 100000
set_option linter.unusedVariables false
namespace Go.Proofs.Ytacmoanhbkipfaa.Py
open Go.ChangeShapes Go.WideShapes Go.ChangeAt Go.RowKit
theorem chr_list (c : Nat) : (chr c).toList = [UInt8.ofNat c] := by unfold chr; exact By.strOf_list _
theorem chr_data (c : Nat) : (chr c).data.toList = [UInt8.ofNat c] := by rw [← ByteArray.toList_eq]; exact chr_list c
theorem chr_size (c : Nat) : (chr c).size = 1 := by unfold chr; rw [By.strOf_size]; rfl
theorem chr_lt {a b : Nat} (h : a < b) (hb : b < 256) : Sr.lt (chr a) (chr b) = true := by
  unfold Sr.lt
  rw [chr_list, chr_list]
  have h1 : UInt8.ofNat a < UInt8.ofNat b := by
    rw [UInt8.lt_iff_toNat_lt, By.toNat_small (by omega), By.toNat_small hb]; exact h
  simp [Op.bytesLess, h1]
theorem chr_name {a : Nat} (h : Sr.plain (a : Int) = true) (ha : a < 256) : Sr.name (chr a) = true := by
  unfold Sr.name Sr.nameL
  rw [chr_data]
  simp [By.toNat_small ha, h]
theorem sku_name {k : Nat} (h : k < 26) : Sr.name (skuS k) = true := chr_name (by unfold Sr.plain; simp; omega) (by omega)
theorem cat_name {k : Nat} (h : k < 3) : Sr.name (catS k) = true := chr_name (by unfold Sr.plain; simp; omega) (by omega)
end Go.Proofs.Ytacmoanhbkipfaa.Py

end
