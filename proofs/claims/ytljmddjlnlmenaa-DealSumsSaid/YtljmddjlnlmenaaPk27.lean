/- Deals: bundles of two parts of one each (the maths of DealSums). · Deals: what DealSums asks of two rows of places (the end of its maths). -/
import Derived.Test.YtljmddjlnlmenaaPk26

section
set_option maxRecDepth 100000
set_option linter.unusedVariables false
namespace Go.Proofs.Ytljmddjlnlmenaa.Dl
open Go.ChangeShapes Go.WideShapes Go.ChangeAt Go.RowKit
open Ap (Unt Tir Prm Prt kUnt kTir kPrt row_Unt row_Tir row_Prt)
open Ct (nth nth_some netAt netsL sumL sumL_append UnitsMay PlacesMay May mayB mayB_iff mayB_yes halfN lessU take_next)
theorem pick_one {x : Int} {l : List Int} {h : List Bool} (e : hadAt h x = false) : pick 1 (x :: l) h = some ([x], l, take1 h x) := by
  show (if hadAt h x = true then pick 1 l h else _) = _
  rw [e, if_neg (by decide), show pick 0 l (take1 h x) = some ([], l, take1 h x) by simp [pick]]
theorem srt_two (x y : Int) : srt [x, y] = [x, y] ∨ srt [x, y] = [y, x] := by
  by_cases h : x ≤ y
  · exact .inl (srt_unique (by simp [h]) (List.Perm.refl _)).symm
  · exact .inr (srt_unique (by simp; omega) (List.Perm.swap x y [])).symm
theorem pair_next {cl : Bool} {amount a b x y : Int} {us : List Unt} {xs ys : List Int} {h : List Bool} (hx : hadAt h x = false) (hy : hadAt (take1 h x) y = false) (ha : netAt us x = a) (hb : netAt us y = b) (hab : amount < a + b) :
    nextB (bwP cl amount) us [x :: xs, y :: ys] h = some (srt [x, y], [xs, ys], take1 (take1 h x) y) ∧ sumL (netsL us (srt [x, y])) = a + b := by
  have hs : sumL (netsL us (srt [x, y])) = a + b := by
    rcases srt_two x y with e | e
    · rw [e]
      show netAt us x + (netAt us y + 0) = _
      omega
    · rw [e]
      show netAt us y + (netAt us x + 0) = _
      omega
  have hp : pickAll (counts (bwP cl amount)) [x :: xs, y :: ys] h = some ([x, y], [xs, ys], take1 (take1 h x) y) := by
    show pickAll [1, 1] [x :: xs, y :: ys] h = _
    unfold pickAll
    rw [pick_one hx]
    dsimp only
    unfold pickAll
    rw [pick_one hy]
    rfl
  refine ⟨?_, hs⟩
  unfold nextB
  rw [hp]
  dsimp only
  rw [hs, if_neg (by show ¬ a + b ≤ amount; omega)]
theorem pair_none {cl : Bool} {amount : Int} {us : List Unt} {xs ys : List Int} {h : List Bool} (e : xs = [] ∨ ys = []) : nextB (bwP cl amount) us [xs, ys] h = none := by
  have hp : pickAll (counts (bwP cl amount)) [xs, ys] h = none := by
    show pickAll [1, 1] [xs, ys] h = none
    unfold pickAll
    rcases e with rfl | rfl
    · rfl
    · cases pick 1 xs h with
      | none => rfl
      | some r => rfl
  unfold nextB
  rw [hp]
theorem pairs_made {cl : Bool} {amount a b : Int} {us : List Unt} (hu : UnitsMay us) (ha0 : 0 ≤ amount) (hab : amount < a + b) : ∀ (f : Nat) {xs ys : List Int} {h : List Bool} {all os : List Int}, Making us [xs, ys] h all os → (∀ x ∈ xs, netAt us x = a) → (∀ y ∈ ys, netAt us y = b) → (∀ x ∈ xs ++ ys, hadAt h x = false) → (xs ++ ys).Pairwise (fun x y => x.toNat ≠ y.toNat) → min xs.length ys.length < f →
    (makeB (bwP cl amount) us f [xs, ys] h all os).1.length = all.length + 2 * min xs.length ys.length ∧ sumL (makeB (bwP cl amount) us f [xs, ys] h all os).2 = sumL os + ((min xs.length ys.length : Nat) : Int) * (a + b - amount)
  | 0, _, _, _, _, _, _, _, _, _, _, hf => by omega
  | f + 1, [], ys, h, all, os, hm, _, _, _, _, _ => by
    rw [make_stop (pair_none (.inl rfl))]
    simp
  | f + 1, x :: xs, [], h, all, os, hm, _, _, _, _, _ => by
    rw [make_stop (pair_none (.inr rfl))]
    simp
  | f + 1, x :: xs, y :: ys, h, all, os, hm, hx, hy, hh, hp, hf => by
    rw [List.cons_append, List.pairwise_cons] at hp
    obtain ⟨hp1, hp2⟩ := hp
    have hxy : x.toNat ≠ y.toNat := hp1 y (List.mem_append_right _ List.mem_cons_self)
    have no : ∀ z : Int, hadAt h z = false → x.toNat ≠ z.toNat → hadAt (take1 h x) z = false := fun z h1 h2 => by
      rw [Bool.eq_false_iff]
      intro h3
      rcases (take1_iff h x z).1 h3 with h4 | h4
      · rw [h1] at h4; cases h4
      · exact h2 h4
    have e1 := hh x List.mem_cons_self
    have e2 := no y (hh y (List.mem_append_right _ List.mem_cons_self)) hxy
    obtain ⟨hn, hs⟩ := pair_next (cl := cl) (amount := amount) (xs := xs) (ys := ys) e1 e2 (hx x List.mem_cons_self) (hy y List.mem_cons_self) hab
    obtain ⟨hm1, _, _, hsum, _⟩ := hm.next hu ha0 hn
    rw [hs] at hsum
    have hpp : (xs ++ ys).Pairwise fun x y => x.toNat ≠ y.toNat := hp2.sublist (List.Sublist.append (List.Sublist.refl xs) (List.sublist_cons_self y ys))
    have hny : ∀ z ∈ xs ++ ys, y.toNat ≠ z.toNat := fun z hz => by
      rcases List.mem_append.1 hz with h1 | h1
      · exact fun e => (List.pairwise_append.1 hp2).2.2 z h1 y List.mem_cons_self e.symm
      · exact (List.pairwise_cons.1 (List.pairwise_append.1 hp2).2.1).1 z h1
    have hin : ∀ z ∈ xs ++ ys, z ∈ xs ++ y :: ys := fun z hz => by
      rcases List.mem_append.1 hz with h1 | h1
      · exact List.mem_append_left _ h1
      · exact List.mem_append_right _ (List.mem_cons_of_mem _ h1)
    have hhh : ∀ z ∈ xs ++ ys, hadAt (take1 (take1 h x) y) z = false := fun z hz => by
      have h1 := no z (hh z (List.mem_cons_of_mem _ (hin z hz))) (hp1 z (hin z hz))
      rw [Bool.eq_false_iff]
      intro h3
      rcases (take1_iff (take1 h x) y z).1 h3 with h4 | h4
      · rw [h1] at h4; cases h4
      · exact hny z hz h4
    simp only [List.length_cons] at hf ⊢
    obtain ⟨r1, r2⟩ := pairs_made hu ha0 hab f hm1 (fun z hz => hx z (List.mem_cons_of_mem _ hz)) (fun z hz => hy z (List.mem_cons_of_mem _ hz)) hhh hpp (by omega)
    rw [make_on hn]
    refine ⟨?_, ?_⟩
    · rw [r1, List.length_append, srt_length]
      show all.length + 2 + _ = _
      omega
    · rw [r2, sumL_append, hsum, show min (xs.length + 1) (ys.length + 1) = min xs.length ys.length + 1 by omega, Int.natCast_succ, Int.add_mul]
      show sumL os + (a + b - (bwP cl amount).amount) + _ = _
      show sumL os + (a + b - amount) + _ = _
      omega
theorem same_net_dear {us : List Unt} {ms : List Int} {c : Int} (hp : PlacesMay us ms) (hc : ∀ m ∈ ms, netAt us m = c) : dearL us ms = ms := by
  have key : ∀ k, k ≤ ms.length → dearK us ms k = (ms.take k).map fun m => (c, m) := fun k => by
    induction k with
    | zero => intro _; rfl
    | succ k ih =>
      intro h
      have e := List.getElem?_eq_getElem (show k < ms.length by omega)
      rw [dearK, ih (by omega), nth_some e, take_next e, List.map_append]
      have hpt : pt us ms[k] = (c, ms[k]) := by unfold pt; rw [hc _ (List.getElem_mem _)]
      rw [hpt]
      refine ins_last fun y hy => ?_
      obtain ⟨m, hm, rfl⟩ := List.mem_map.1 hy
      obtain ⟨i, hi, ei⟩ := List.getElem_of_mem hm
      rw [List.length_take] at hi
      have ei2 : ms[i]? = some m := by
        rw [← ei, List.getElem_take]
        exact List.getElem?_eq_getElem (by omega)
      have hlt := hp.lt (k - i - 1) i _ _ ei2 (by rw [show i + (k - i - 1) + 1 = k by omega]; exact e)
      refine (Qu.not_ahead _ _).2 ?_
      show ¬ (c < c ∨ c = c ∧ ms[k] < m)
      omega
  unfold dearL dearP places
  rw [key _ (Nat.le_refl _), List.take_length, List.map_map]
  have : ((fun x : Qu.Pt => x.2) ∘ fun m : Int => (c, m)) = id := rfl
  rw [this, List.map_id]
theorem sums_made {cl : Bool} {amount a b : Int} {us : List Unt} {xs ys : List Int} (hu : UnitsMay us) (ha0 : 0 ≤ amount) (hab : amount < a + b) (hpx : PlacesMay us xs) (hpy : PlacesMay us ys) (hx : ∀ x ∈ xs, netAt us x = a) (hy : ∀ y ∈ ys, netAt us y = b) (hfar : (xs ++ ys).Pairwise fun x y => x.toNat ≠ y.toNat) :
    (madeB (bwP cl amount) us [xs, ys]).1.length = 2 * min xs.length ys.length ∧ sumL (madeB (bwP cl amount) us [xs, ys]).2 = ((min xs.length ys.length : Nat) : Int) * (a + b - amount) := by
  have hst : starts us [xs, ys] = [xs, ys] := by
    unfold starts
    rw [List.map_cons, List.map_cons, same_net_dear hpx hx, same_net_dear hpy hy]; rfl
  have hm := starts_making (us := us) (parts := [xs, ys]) fun ms h => by
    rcases List.mem_cons.1 h with rfl | h
    · exact hpx
    · rw [List.mem_singleton.1 h]; exact hpy
  have hfree : ∀ x ∈ xs ++ ys, hadAt (List.replicate us.length false) x = false := fun x h => by
    have h1 : ∃ u, us[x.toNat]? = some u := by
      rcases List.mem_append.1 h with h | h
      · exact ⟨_, ((apart_of hpx).at_ x h).2.choose_spec.1⟩
      · exact ⟨_, ((apart_of hpy).at_ x h).2.choose_spec.1⟩
    obtain ⟨u, h1⟩ := h1
    have h2 := (List.getElem?_eq_some_iff.1 h1).1
    unfold hadAt
    rw [List.getElem?_replicate, if_pos h2]; rfl
  rw [hst] at hm
  have hl := (apart_of hpx).few
  unfold madeB
  rw [hst]
  have h := pairs_made (cl := cl) hu ha0 hab (us.length + 1) hm hx hy hfree hfar (by omega)
  refine ⟨by rw [h.1]; simp, by rw [h.2]; simp [sumL]⟩
end Go.Proofs.Ytljmddjlnlmenaa.Dl

end

section
set_option maxRecDepth 100000
set_option linter.unusedVariables false
namespace Go.Proofs.Ytljmddjlnlmenaa.Dl
open Go.ChangeShapes Go.WideShapes Go.ChangeAt Go.RowKit
open Ap (Unt Tir Prm Prt kUnt kTir kPrt row_Unt row_Tir row_Prt)
open Ct (nth nth_some netAt netsL sumL sumL_append UnitsMay PlacesMay May mayB mayB_iff mayB_yes halfN lessU take_next nsum Nets)
theorem pair_dear {cl : Bool} {amount a b : Int} {us : List Unt} {xs ys : List Int} {h : List Bool} (hx : ∀ x ∈ xs, netAt us x = a) (hy : ∀ y ∈ ys, netAt us y = b) (hf : ∀ x ∈ xs ++ ys, hadAt h x = false) (hd : (xs ++ ys).Pairwise fun x y => x.toNat ≠ y.toNat) (hab : a + b ≤ amount) : nextB (bwP cl amount) us [xs, ys] h = none := by
  match xs, ys, hx, hy, hf, hd with
  | [], _, _, _, _, _ => exact pair_none (.inl rfl)
  | x :: xs, [], _, _, _, _ => exact pair_none (.inr rfl)
  | x :: xs, y :: ys, hx, hy, hf, hd =>
    have h1 : hadAt h x = false := hf x (by simp)
    have h2 : hadAt (take1 h x) y = false := by
      cases e : hadAt (take1 h x) y with
      | false => rfl
      | true =>
        rcases (take1_iff h x y).1 e with e | e
        · rw [hf y (by simp)] at e; cases e
        · rw [List.cons_append, List.pairwise_cons] at hd
          exact absurd e (hd.1 y (by simp))
    have hs : sumL (netsL us (srt [x, y])) = a + b := by
      have ha := hx x (by simp)
      have hb := hy y (by simp)
      rcases srt_two x y with e | e
      · rw [e]
        show netAt us x + (netAt us y + 0) = _
        omega
      · rw [e]
        show netAt us y + (netAt us x + 0) = _
        omega
    have hp : pickAll (counts (bwP cl amount)) [x :: xs, y :: ys] h = some ([x, y], [xs, ys], take1 (take1 h x) y) := by
      show pickAll [1, 1] [x :: xs, y :: ys] h = _
      unfold pickAll
      rw [pick_one h1]
      dsimp only
      unfold pickAll
      rw [pick_one h2]
      rfl
    unfold nextB
    rw [hp]
    dsimp only
    rw [hs, if_pos (by show a + b ≤ amount; omega)]
def shutN (ys : List Unt) : Nat := ys.countP fun v => !v.opn
theorem shutN_next {ys : List Unt} {k : Nat} {v : Unt} (h : ys[k]? = some v) : shutN (ys.take (k + 1)) = shutN (ys.take k) + if v.opn = true then 0 else 1 := by
  unfold shutN
  rw [take_next h, List.countP_append, List.countP_cons, List.countP_nil]
  cases v.opn <;> simp
theorem count_range (D : List Nat) (hd : D.Pairwise (· ≠ ·)) : ∀ n, (List.range n).countP (fun i => decide (i ∈ D)) = D.countP fun x => decide (x < n)
  | 0 => by simp
  | n + 1 => by
    rw [List.range_succ, List.countP_append, count_range D hd n, List.countP_cons, List.countP_nil]
    clear count_range
    induction D with
    | nil => simp
    | cons x D ih =>
      rw [List.pairwise_cons] at hd
      have h1 := ih hd.2
      rw [List.countP_cons, List.countP_cons]
      by_cases e : x = n
      · subst e
        have h2 : decide (x ∈ D) = false := decide_eq_false fun h => hd.1 x h rfl
        rw [h2] at h1
        simp at h1 ⊢
        omega
      · have h2 : decide (n ∈ x :: D) = decide (n ∈ D) := by
          refine decide_eq_decide.2 ?_
          rw [List.mem_cons]
          exact ⟨fun h => h.elim (fun h => absurd h.symm e) id, .inr⟩
        have h3 : decide (x < n + 1) = decide (x < n) := decide_eq_decide.2 (by omega)
        rw [h2, h3]
        omega
theorem shut_all {ys : List Unt} {D : List Nat} (hd : D.Pairwise (· ≠ ·)) (hl : ∀ x ∈ D, x < ys.length) (h : ∀ (i : Nat) (v : Unt), ys[i]? = some v → (v.opn = false ↔ i ∈ D)) : shutN ys = D.length := by
  have e : ys = (List.range ys.length).map fun i => (ys[i]?).getD ⟨0, 0, true⟩ := by
    apply List.ext_getElem?
    intro i
    rw [List.getElem?_map]
    by_cases hi : i < ys.length
    · rw [List.getElem?_range hi, List.getElem?_eq_getElem hi]
      show _ = some ((ys[i]?).getD _)
      rw [List.getElem?_eq_getElem hi]; rfl
    · rw [List.getElem?_eq_none (by omega), List.getElem?_eq_none (by rw [List.length_range]; omega)]; rfl
  have e2 : shutN ys = (List.range ys.length).countP fun i => decide (i ∈ D) := by
    unfold shutN
    rw [e, List.countP_map, List.length_map, List.length_range]
    refine List.countP_congr fun i hi => ?_
    have hi2 : i < ys.length := List.mem_range.1 hi
    have hv := List.getElem?_eq_getElem hi2
    have h1 := h i ys[i] hv
    show (!((ys[i]?).getD _).opn) = true ↔ decide (i ∈ D) = true
    rw [hv]
    show (!(ys[i]).opn) = true ↔ _
    rw [decide_eq_true_iff, ← h1]
    cases (ys[i]).opn <;> simp
  rw [e2, count_range D hd]
  refine (List.countP_eq_length).2 fun x hx => ?_
  exact decide_eq_true (hl x hx)
/-! ### The units and the places that the law makes -/
def unitAt (a b : Int) (i : Nat) : Unt := if i % 3 = 0 then ⟨0, a, true⟩ else ⟨1, b, true⟩
def sumsU (a b : Int) (n : Nat) : List Unt := (List.range n).map (unitAt a b)
def xsL (n : Nat) : List Int := ((List.range n).filter fun i => decide (i % 3 = 0)).map Int.ofNat
def ysL (n : Nat) : List Int := ((List.range n).filter fun i => !decide (i % 3 = 0)).map Int.ofNat
theorem sumsU_length (a b : Int) (n : Nat) : (sumsU a b n).length = n := by unfold sumsU; rw [List.length_map, List.length_range]
theorem sumsU_get {a b : Int} {n i : Nat} (h : i < n) : (sumsU a b n)[i]? = some (unitAt a b i) := by
  unfold sumsU
  rw [List.getElem?_map, List.getElem?_range h]; rfl
theorem sumsU_next (a b : Int) (n : Nat) : sumsU a b (n + 1) = sumsU a b n ++ [unitAt a b n] := by
  unfold sumsU
  rw [List.range_succ, List.map_append]; rfl
theorem xsL_yes {n : Nat} (h : n % 3 = 0) : xsL (n + 1) = xsL n ++ [(n : Int)] := by
  unfold xsL
  rw [List.range_succ, List.filter_append, List.map_append, List.filter_cons_of_pos (by simp [h])]; rfl
theorem xsL_no {n : Nat} (h : ¬ n % 3 = 0) : xsL (n + 1) = xsL n := by
  unfold xsL
  rw [List.range_succ, List.filter_append, List.map_append, List.filter_cons_of_neg (by simp [h])]; simp
theorem ysL_yes {n : Nat} (h : ¬ n % 3 = 0) : ysL (n + 1) = ysL n ++ [(n : Int)] := by
  unfold ysL
  rw [List.range_succ, List.filter_append, List.map_append, List.filter_cons_of_pos (by simp [h])]; rfl
theorem ysL_no {n : Nat} (h : n % 3 = 0) : ysL (n + 1) = ysL n := by
  unfold ysL
  rw [List.range_succ, List.filter_append, List.map_append, List.filter_cons_of_neg (by simp [h])]; simp
theorem xsL_few (n : Nat) : (xsL n).length ≤ n := by
  unfold xsL
  rw [List.length_map]
  have := List.length_filter_le (fun i => decide (i % 3 = 0)) (List.range n)
  rw [List.length_range] at this
  exact this
theorem ysL_few (n : Nat) : (ysL n).length ≤ n := by
  unfold ysL
  rw [List.length_map]
  have := List.length_filter_le (fun i => !decide (i % 3 = 0)) (List.range n)
  rw [List.length_range] at this
  exact this
theorem rise_range (n : Nat) : (List.range n).Pairwise (· < ·) := List.pairwise_lt_range
theorem sums_units {a b : Int} {n : Nat} (ha : 1 ≤ a ∧ a ≤ 3000) (hb : 1 ≤ b ∧ b ≤ 3000) (hn : n < 20) : UnitsMay (sumsU a b n) := by
  have hu : ∀ i, 1 ≤ (unitAt a b i).net ∧ (unitAt a b i).net ≤ 3000 := fun i => by
    unfold unitAt
    split
    · exact ha
    · exact hb
  have hsum : ∀ n, nsum (sumsU a b n) ≤ 3000 * (n : Int) := fun n => by
    induction n with
    | zero => exact Int.le_refl 0
    | succ n ih =>
      rw [sumsU_next, Ct.nsum_append]
      have h1 := hu n
      have h2 : nsum [unitAt a b n] = (unitAt a b n).net := by simp [nsum]
      omega
  refine ⟨by rw [sumsU_length]; omega, fun k u hk => ?_, by have := hsum n; omega⟩
  have hk2 : k < n := by have := (List.getElem?_eq_some_iff.1 hk).1; rw [sumsU_length] at this; exact this
  rw [sumsU_get hk2] at hk
  injection hk with hk
  rw [← hk]
  have := hu k
  omega
theorem filt_may {a b : Int} {n : Nat} (f : Nat → Bool) : PlacesMay (sumsU a b n) (((List.range n).filter f).map Int.ofNat) := by
  have hp : (((List.range n).filter f).map Int.ofNat).Pairwise (· < ·) := by
    rw [List.pairwise_map]
    exact ((rise_range n).filter f).imp fun h => by
      show (Int.ofNat _ : Int) < Int.ofNat _
      exact Int.ofNat_lt.2 h
  refine ⟨fun i m hm => ?_, fun i x y hx hy => ?_⟩
  · have h1 := List.mem_of_getElem? hm
    obtain ⟨k, hk, rfl⟩ := List.mem_map.1 h1
    have hk2 : k < n := List.mem_range.1 (List.mem_filter.1 hk).1
    refine ⟨Int.natCast_nonneg k, unitAt a b k, ?_, ?_⟩
    · show (sumsU a b n)[((k : Int)).toNat]? = _
      rw [Int.toNat_natCast]
      exact sumsU_get hk2
    · unfold unitAt
      split <;> rfl
  · have h1 := List.getElem?_eq_some_iff.1 hx
    have h2 := List.getElem?_eq_some_iff.1 hy
    obtain ⟨h1, rfl⟩ := h1
    obtain ⟨h2, rfl⟩ := h2
    exact List.pairwise_iff_getElem.1 hp i (i + 1) h1 h2 (by omega)
theorem xs_may (a b : Int) (n : Nat) : PlacesMay (sumsU a b n) (xsL n) := filt_may _
theorem ys_may (a b : Int) (n : Nat) : PlacesMay (sumsU a b n) (ysL n) := filt_may _
theorem xs_net {a b : Int} {n : Nat} : ∀ x ∈ xsL n, netAt (sumsU a b n) x = a := fun x hx => by
  obtain ⟨k, hk, rfl⟩ := List.mem_map.1 hx
  have hk := List.mem_filter.1 hk
  have hk2 : k < n := List.mem_range.1 hk.1
  have h3 := of_decide_eq_true hk.2
  unfold netAt
  show (match (sumsU a b n)[((k : Int)).toNat]? with | some u => u.net | none => 0) = a
  rw [Int.toNat_natCast, sumsU_get hk2]
  unfold unitAt
  rw [if_pos h3]
theorem ys_net {a b : Int} {n : Nat} : ∀ x ∈ ysL n, netAt (sumsU a b n) x = b := fun x hx => by
  obtain ⟨k, hk, rfl⟩ := List.mem_map.1 hx
  have hk := List.mem_filter.1 hk
  have hk2 : k < n := List.mem_range.1 hk.1
  have h3 : ¬ k % 3 = 0 := by simpa using hk.2
  unfold netAt
  show (match (sumsU a b n)[((k : Int)).toNat]? with | some u => u.net | none => 0) = b
  rw [Int.toNat_natCast, sumsU_get hk2]
  unfold unitAt
  rw [if_neg h3]
theorem xy_far (n : Nat) : (xsL n ++ ysL n).Pairwise fun x y => x.toNat ≠ y.toNat := by
  have hp : ∀ f : Nat → Bool, (((List.range n).filter f).map Int.ofNat).Pairwise fun x y => x.toNat ≠ y.toNat := fun f => by
    rw [List.pairwise_map]
    exact ((rise_range n).filter f).imp fun h => by
      show (Int.ofNat _).toNat ≠ (Int.ofNat _).toNat
      simp only [Int.ofNat_eq_natCast, Int.toNat_natCast]
      omega
  refine List.pairwise_append.2 ⟨hp _, hp _, fun x hx y hy => ?_⟩
  obtain ⟨k, hk, rfl⟩ := List.mem_map.1 hx
  obtain ⟨j, hj, rfl⟩ := List.mem_map.1 hy
  have h1 := of_decide_eq_true (List.mem_filter.1 hk).2
  have h2 : ¬ j % 3 = 0 := by simpa using (List.mem_filter.1 hj).2
  show (Int.ofNat _).toNat ≠ (Int.ofNat _).toNat
  simp only [Int.ofNat_eq_natCast, Int.toNat_natCast]
  intro e
  subst e
  exact h2 h1
structure Summed (r : List Unt × Int) (a b amount : Int) (n made : Nat) : Prop where
  len : r.1.length = n
  off : r.2 = (made : Int) * (a + b - amount)
  at_ : ∀ i, i < n → ∃ v, r.1[i]? = some v ∧ v.ok ∧ (v.opn = true → v = unitAt a b i)
  shut : shutN r.1 = 2 * made
def madeN (a b amount : Int) (n : Nat) : Nat := if amount < a + b then min (xsL n).length (ysL n).length else 0
theorem sums_is {a b amount : Int} {n : Nat} (ha : 1 ≤ a ∧ a ≤ 3000) (hb : 1 ≤ b ∧ b ≤ 3000) (hn : n < 20) (hm : 0 ≤ amount ∧ amount < a + b + 10) : Summed (bundleU (bwP true amount) (sumsU a b n) [xsL n, ysL n]) a b amount n (madeN a b amount n) := by
  have hu := sums_units (n := n) ha hb hn
  have hbb : bundleB (bwP true amount) (sumsU a b n) [xsL n, ysL n] = true := by
    unfold bundleB
    rw [bw_promo (by omega), List.all_cons, List.all_cons, mayB_yes ⟨hu, xs_may a b n⟩, mayB_yes ⟨hu, ys_may a b n⟩]; rfl
  have hst := starts_making (us := sumsU a b n) (parts := [xsL n, ysL n]) fun ms h => by
    rcases List.mem_cons.1 h with rfl | h
    · exact xs_may a b n
    · rw [List.mem_singleton.1 h]; exact ys_may a b n
  have hf := make_fine (p := bwP true amount) hu hm.1 ((sumsU a b n).length + 1) hst
  have hok : ∀ i, (unitAt a b i).ok := fun i => by
    unfold unitAt
    split
    · exact ⟨by dsimp only; omega, by dsimp only; omega⟩
    · exact ⟨by dsimp only; omega, by dsimp only; omega⟩
  have hop : ∀ i, (unitAt a b i).opn = true := fun i => by unfold unitAt; split <;> rfl
  have hnone : (madeB (bwP true amount) (sumsU a b n) [xsL n, ysL n]).1.length = 2 * madeN a b amount n ∧ sumL (madeB (bwP true amount) (sumsU a b n) [xsL n, ysL n]).2 = (madeN a b amount n : Int) * (a + b - amount) := by
    unfold madeN
    by_cases hab : amount < a + b
    · rw [if_pos hab]
      exact sums_made hu hm.1 hab (xs_may a b n) (ys_may a b n) xs_net ys_net (xy_far n)
    · rw [if_neg hab]
      have hst2 : starts (sumsU a b n) [xsL n, ysL n] = [xsL n, ysL n] := by
        unfold starts
        rw [List.map_cons, List.map_cons, same_net_dear (xs_may a b n) xs_net, same_net_dear (ys_may a b n) ys_net]; rfl
      have hfree : ∀ x ∈ xsL n ++ ysL n, hadAt (List.replicate (sumsU a b n).length false) x = false := fun x h => by
        have h1 : ∃ u, (sumsU a b n)[x.toNat]? = some u := by
          rcases List.mem_append.1 h with h | h
          · exact ⟨_, ((apart_of (xs_may a b n)).at_ x h).2.choose_spec.1⟩
          · exact ⟨_, ((apart_of (ys_may a b n)).at_ x h).2.choose_spec.1⟩
        obtain ⟨u, h1⟩ := h1
        have h2 := (List.getElem?_eq_some_iff.1 h1).1
        unfold hadAt
        rw [List.getElem?_replicate, if_pos h2]; rfl
      unfold madeB
      rw [hst2, make_stop (pair_dear xs_net ys_net hfree (xy_far n) (by omega))]
      simp [sumL]
  have hfine : Fine (sumsU a b n) (madeB (bwP true amount) (sumsU a b n) [xsL n, ysL n]).1 (madeB (bwP true amount) (sumsU a b n) [xsL n, ysL n]).2 := hf
  unfold bundleU
  rw [hbb, if_pos rfl]
  generalize madeB (bwP true amount) (sumsU a b n) [xsL n, ysL n] = F at hnone hfine
  obtain ⟨all, os⟩ := F
  obtain ⟨hl, hs⟩ := hnone
  dsimp only at hl hs hfine ⊢
  show Summed (lessU (sumsU a b n) all os true) a b amount n _
  by_cases h0 : sumL os = 0
  · have hz : madeN a b amount n = 0 := by
      rw [hs] at h0
      rcases Int.mul_eq_zero.1 h0 with h | h
      · omega
      · unfold madeN
        rw [if_neg (by omega)]
    rw [hz]
    unfold lessU
    rw [if_pos h0]
    refine ⟨sumsU_length a b n, by simp, fun i hi => ⟨_, sumsU_get hi, hok i, fun _ => rfl⟩, ?_⟩
    refine (shut_all (D := []) List.Pairwise.nil (fun x h => by cases h) fun i v hv => ?_)
    have hi : i < n := by have := (List.getElem?_eq_some_iff.1 hv).1; rw [sumsU_length] at this; exact this
    rw [sumsU_get hi] at hv
    injection hv with hv
    subst hv
    rw [hop i]
    simp
  · have hlen := Ct.less_length (sumsU a b n) all os true
    have hmine : ∀ i, i < n → i ∈ all.map Int.toNat → ∃ o, 0 ≤ o ∧ o ≤ (unitAt a b i).net ∧ (lessU (sumsU a b n) all os true).1[i]? = some ⟨(unitAt a b i).line, (unitAt a b i).net - o, false⟩ := fun i hi hmem => by
      obtain ⟨m, hm, rfl⟩ := List.mem_map.1 hmem
      obtain ⟨j, hj, ej⟩ := List.mem_iff_getElem.1 hm
      have hj2 : all[j]? = some m := by rw [List.getElem?_eq_getElem hj, ej]
      have hjo : j < os.length := by rw [hfine.len]; exact hj
      have ho : os[j]? = some os[j] := List.getElem?_eq_getElem hjo
      have h1 := Ct.less_mine (us := sumsU a b n) (u := unitAt a b m.toNat) hfine.apart.toFar hfine.len true hj2 (sumsU_get hi) h0
      have h2 := hfine.each j m _ hj2 ho
      have h3 : netAt (sumsU a b n) m = (unitAt a b m.toNat).net := by unfold netAt; rw [sumsU_get hi]
      rw [nth_some ho] at h1
      refine ⟨os[j], h2.1, by rw [← h3]; exact h2.2, ?_⟩
      rw [h1, Bool.not_true, Bool.and_false]
    have hother : ∀ i, i < n → i ∉ all.map Int.toNat → (lessU (sumsU a b n) all os true).1[i]? = some (unitAt a b i) := fun i hi hmem => by
      rw [Ct.less_other (by rw [hfine.len]; exact Nat.le_refl _) true fun j m hj e => hmem (List.mem_map.2 ⟨m, List.mem_of_getElem? hj, e⟩)]
      exact sumsU_get hi
    rw [sumsU_length] at hlen
    refine ⟨hlen, by unfold lessU; rw [if_neg h0]; exact hs, fun i hi => ?_, ?_⟩
    · by_cases hm2 : i ∈ all.map Int.toNat
      · obtain ⟨o, o1, o2, e⟩ := hmine i hi hm2
        have hk := hok i
        exact ⟨_, e, ⟨hk.1, by have := hk.2; show _ ≤ (unitAt a b i).net - o ∧ (unitAt a b i).net - o ≤ _; omega⟩, fun h => by cases h⟩
      · exact ⟨_, hother i hi hm2, hok i, fun _ => rfl⟩
    · rw [shut_all (D := all.map Int.toNat), List.length_map, hl]
      · rw [List.pairwise_map]
        exact hfine.apart.far
      · intro x hx
        obtain ⟨m, hm, rfl⟩ := List.mem_map.1 hx
        obtain ⟨_, u, hu2, _⟩ := hfine.apart.at_ m hm
        have := (List.getElem?_eq_some_iff.1 hu2).1
        rw [sumsU_length] at this
        rw [hlen]; exact this
      · intro i v hv
        have hi : i < n := by have := (List.getElem?_eq_some_iff.1 hv).1; rw [hlen] at this; exact this
        by_cases hm2 : i ∈ all.map Int.toNat
        · obtain ⟨o, _, _, e⟩ := hmine i hi hm2
          rw [e] at hv
          injection hv with hv
          subst hv
          exact ⟨fun _ => hm2, fun _ => rfl⟩
        · rw [hother i hi hm2] at hv
          injection hv with hv
          subst hv
          rw [hop i]
          exact ⟨fun h => (by cases h), fun h => absurd h hm2⟩
end Go.Proofs.Ytljmddjlnlmenaa.Dl

end
