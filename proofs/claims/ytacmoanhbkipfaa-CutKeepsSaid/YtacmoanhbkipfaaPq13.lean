/- Cuts: what follows (the mathematics of CutKeeps, CutEach). · Cuts: the landed Apply (made by gen-cut15.py). · Cuts: the landed Apply (made by gen-cut15.py). -/
import Derived.Laws.EntriesVeiled
import Derived.Lib.SliceRun
import Derived.Test.YtacmoanhbkipfaaPq11
import Derived.Test.YtacmoanhbkipfaaPq12

section
set_option maxRecDepth 100000
set_option linter.unusedVariables false
namespace Go.Proofs.Ytacmoanhbkipfaa.Ct
open Ap (Unt Tir Prm)
theorem subK_other {us : List Unt} {ms os : List Int} {i : Nat} : ∀ k, (∀ j, j < k → (nth ms j).toNat ≠ i) → (subK us ms os k)[i]? = us[i]?
  | 0, _ => rfl
  | k + 1, h => by
    rw [subK, List.getElem?_modify, subK_other k fun j hj => h j (by omega)]
    have := h k (by omega)
    simp [this]
theorem subK_mine {us : List Unt} {ms os : List Int} (hf : Far ms) {j : Nat} {m : Int} (hm : ms[j]? = some m) {u : Unt} (hu : us[m.toNat]? = some u) : ∀ k, j < k → k ≤ ms.length → (subK us ms os k)[m.toNat]? = some (lessNet (nth os j) u)
  | 0, h, _ => by omega
  | k + 1, h, hk => by
    rw [subK, List.getElem?_modify]
    rcases Nat.lt_or_ge j k with h1 | h1
    · have e := List.getElem?_eq_getElem (show k < ms.length by omega)
      have hne := hf j k m _ h1 hm e
      rw [nth_some e, subK_mine hf hm hu k h1 (by omega)]
      simp
      exact fun x => absurd x.symm hne
    · obtain rfl : j = k := by omega
      rw [nth_some hm, subK_at hf hm j (Nat.le_refl _), hu]
      simp
theorem shutK_other {us : List Unt} {ms : List Int} {i : Nat} : ∀ k, (∀ j, j < k → (nth ms j).toNat ≠ i) → (shutK us ms k)[i]? = us[i]?
  | 0, _ => rfl
  | k + 1, h => by
    rw [shutK, List.getElem?_modify, shutK_other k fun j hj => h j (by omega)]
    have := h k (by omega)
    simp [this]
theorem shutK_mine {us : List Unt} {ms : List Int} (hf : Far ms) {j : Nat} {m : Int} (hm : ms[j]? = some m) {u : Unt} (hu : us[m.toNat]? = some u) : ∀ k, j < k → k ≤ ms.length → (shutK us ms k)[m.toNat]? = some (shut u)
  | 0, h, _ => by omega
  | k + 1, h, hk => by
    rw [shutK, List.getElem?_modify]
    rcases Nat.lt_or_ge j k with h1 | h1
    · have e := List.getElem?_eq_getElem (show k < ms.length by omega)
      have hne := hf j k m _ h1 hm e
      rw [nth_some e, shutK_mine hf hm hu k h1 (by omega)]
      simp
      exact fun x => absurd x.symm hne
    · obtain rfl : j = k := by omega
      rw [nth_some hm, shutK_other j fun t ht => by
        have e := List.getElem?_eq_getElem (show t < ms.length by omega)
        rw [nth_some e]
        exact hf t j _ m ht e hm, hu]
      simp
theorem nsum_modify {f : Unt → Unt} : ∀ {us : List Unt} {i : Nat} {u : Unt}, us[i]? = some u → nsum (us.modify i f) = nsum us - u.net + (f u).net
  | [], i, u, h => by simp at h
  | v :: us, 0, u, h => by
    simp only [List.getElem?_cons_zero, Option.some.injEq] at h
    subst h
    rw [List.modify_zero_cons]
    simp only [nsum]; omega
  | v :: us, i + 1, u, h => by
    simp only [List.getElem?_cons_succ] at h
    rw [List.modify_succ_cons]
    simp only [nsum]
    rw [nsum_modify h]; omega
theorem subK_sum {us : List Unt} {ms os : List Int} (hf : Far ms) (hp : PlacesIn us.length ms) : ∀ k, k ≤ os.length → k ≤ ms.length → nsum (subK us ms os k) = nsum us - sumL (os.take k)
  | 0, _, _ => by rw [List.take_zero]; simp [subK, sumL]
  | k + 1, h1, h2 => by
    have e := List.getElem?_eq_getElem (show k < ms.length by omega)
    have e2 := List.getElem?_eq_getElem (show k < os.length by omega)
    have hin := hp k _ e
    have hlt : (ms[k]'(by omega)).toNat < us.length := by omega
    obtain ⟨u, hu⟩ : ∃ u, us[(ms[k]'(by omega)).toNat]? = some u := ⟨_, List.getElem?_eq_getElem hlt⟩
    have hs : (subK us ms os k)[(ms[k]'(by omega)).toNat]? = some u := by rw [subK_at hf e k (Nat.le_refl _), hu]
    rw [subK, nth_some e, nsum_modify hs, subK_sum hf hp k (by omega) (by omega), nth_some e2, sumL_next e2]
    show _ - u.net + (u.net - _) = _
    omega
theorem shutK_sum {us : List Unt} {ms : List Int} (hp : PlacesIn us.length ms) : ∀ k, k ≤ ms.length → nsum (shutK us ms k) = nsum us
  | 0, _ => rfl
  | k + 1, h => by
    have e := List.getElem?_eq_getElem (show k < ms.length by omega)
    have hin := hp k _ e
    have hlt : (ms[k]'(by omega)).toNat < (shutK us ms k).length := by rw [shutK_length]; omega
    obtain ⟨u, hu⟩ : ∃ u, (shutK us ms k)[(ms[k]'(by omega)).toNat]? = some u := ⟨_, List.getElem?_eq_getElem hlt⟩
    rw [shutK, nth_some e, nsum_modify hu, shutK_sum hp k (by omega)]
    show nsum us - u.net + u.net = nsum us
    omega
theorem less_sum {us : List Unt} {ms os : List Int} (hf : Far ms) (hp : PlacesIn us.length ms) (hl : os.length ≤ ms.length) (cl : Bool) : nsum (lessU us ms os cl).1 = nsum us - (lessU us ms os cl).2 := by
  unfold lessU
  split
  · show nsum us = nsum us - 0; omega
  · have hp2 : PlacesIn (subK us ms os os.length).length ms := by rw [subK_length]; exact hp
    have h1 := subK_sum (us := us) (os := os) hf hp os.length (Nat.le_refl _) hl
    rw [List.take_length] at h1
    have h2 := shutK_sum hp2 (if cl then ms.length else 0) (by split <;> omega)
    show nsum (shutK (subK us ms os os.length) ms (if cl then ms.length else 0)) = nsum us - sumL os
    rw [h2, h1]
theorem less_length (us : List Unt) (ms os : List Int) (cl : Bool) : (lessU us ms os cl).1.length = us.length := by
  unfold lessU
  split
  · rfl
  · show (shutK _ _ _).length = _; rw [shutK_length, subK_length]
theorem less_other {us : List Unt} {ms os : List Int} (hl : os.length ≤ ms.length) (cl : Bool) {i : Nat} (h : ∀ (j : Nat) (m : Int), ms[j]? = some m → m.toNat ≠ i) : (lessU us ms os cl).1[i]? = us[i]? := by
  have hj : ∀ k, k ≤ ms.length → ∀ j, j < k → (nth ms j).toNat ≠ i := fun k hk j hj => by
    have e := List.getElem?_eq_getElem (show j < ms.length by omega)
    rw [nth_some e]; exact h j _ e
  unfold lessU
  split
  · rfl
  · show (shutK _ _ _)[i]? = _
    rw [shutK_other _ (hj _ (by split <;> omega)), subK_other _ (hj _ hl)]
theorem less_mine {us : List Unt} {ms os : List Int} (hf : Far ms) (hl : os.length = ms.length) (cl : Bool) {j : Nat} {m : Int} (hm : ms[j]? = some m) {u : Unt} (hu : us[m.toNat]? = some u) (hs : sumL os ≠ 0) : (lessU us ms os cl).1[m.toNat]? = some ⟨u.line, u.net - nth os j, u.opn && !cl⟩ := by
  have hjl : j < ms.length := (List.getElem?_eq_some_iff.1 hm).1
  have h1 := subK_mine (os := os) hf hm hu os.length (by omega) (by omega)
  unfold lessU
  rw [if_neg hs]
  show (shutK _ _ _)[m.toNat]? = _
  cases cl with
  | true =>
    rw [if_pos rfl, shutK_mine hf hm h1 ms.length hjl (Nat.le_refl _)]
    show some (shut (lessNet (nth os j) u)) = _
    rw [Bool.not_true, Bool.and_false]; rfl
  | false =>
    rw [if_neg (by decide)]
    show (subK us ms os os.length)[m.toNat]? = _
    rw [h1, Bool.not_false, Bool.and_true]; rfl
end Go.Proofs.Ytacmoanhbkipfaa.Ct

end

section
set_option maxRecDepth 100000
set_option linter.unusedVariables false
namespace Go.Proofs.Ytacmoanhbkipfaa.Ct
open Go.ChangeShapes Go.WideShapes Go.ChangeAt Go.RowKit
open Ap (Unt Tir Prm kUnt kTir row_Unt row_Tir)
open Kd (Kind Row kInt row_int)
open Ko (Out Told Told2 At row_on)
set_option maxHeartbeats 1000000 in
theorem cloneU_any (A : Option Addr) (n c : Nat) (xs : List Unt) (w : World) (h : Row kUnt w (· < w.heap.size) A n xs) (hf : Kd.Fit A n c) (hn : n ≤ 1000000000000) :
    Calls Try.prog 22 #[.slice A n c] w fun e w' => ∃ A' c', e = .returned (.slice A' n c') ∧ Kd.Own kUnt w' w.heap.size 41 (fun _ => False) (.slice A' n c') n xs ∧ Below w.heap.size w w' := by
  cases A with
  | none =>
    obtain ⟨rfl, rfl⟩ := hf.1 rfl
    have hl : xs = [] := List.eq_nil_of_length_eq_zero h.len
    subst hl
    have hnil := fun W => Lib.run_eql_slice_nil (P := Try.prog) W 29 41 none 0 0 0 0 Try.underlying29
    clear h hf
    go_enter Try.func22, Try.ntmps22
    go_wp2
    go_ret
    exact ⟨none, 0, rfl, Kd.Own.nil _ _ _ _ _, Below.refl _ _⟩
  | some a =>
    have hl := h.len
    subst hl
    have hnil := fun W => Lib.run_eql_slice_nil (P := Try.prog) W 29 41 (some a) xs.length c 0 0 Try.underlying29
    have HOW : Hid (Kd.Own kUnt (w.alloc (.cells #[] 41)) w.heap.size 41 (fun _ => False) (.slice (some ⟨w.heap.size, 0, none⟩) 0 0) 0 []) := Lib.hid ⟨rfl, [], World.ownsRow_made (base := w.heap.size) (e := 41) (size := 3) w #[] 0 (Nat.le_refl _) (by unfold maxLen; omega) rfl, rfl⟩
    have HR := Lib.hid (h.below (w' := w.alloc (.cells #[] 41)) (B := w.heap.size) ((Below.refl _ _).alloc (Nat.le_refl _) _) (Nat.le_refl _))
    have hlen : xs.length ≤ 1000000000000 := hn
    have HLn := Lib.hid hlen
    clear h hf
    go_enter Try.func22, Try.ntmps22
    go_wp2_with ((at_builtin; refine Kd.wpList_join (F := fun _ => False) (G := (· < w.heap.size)) (B := w.heap.size) (n := 0) (m := xs.length) (c := c) (v := .slice (some ⟨w.heap.size, 0, none⟩) 0 0) (xs := []) (ys := xs) (A := some a) Ap.Unt.row_t rfl _ _ rfl rfl rfl HOW.out HR.out (fun h => by cases h) (fun h => Ap.Unt_rep.2 (Ap.Unt_rep.1 h)) (by have := HLn.out; omega) (by have := HLn.out; omega) (by simp) (fun _ h => h.elim) ?_; intro v' w' hown hgrow hfr))
    rw [Nat.zero_add, List.nil_append] at hown
    obtain ⟨A', c', rfl⟩ := hown.value
    have HF : Hid (Kd.Own kUnt w' w.heap.size 41 (fun _ => False) (.slice A' xs.length c') xs.length xs ∧ Below w.heap.size w w') := Lib.hid
      ⟨hown, ((Below.refl _ _).alloc (Nat.le_refl _) _).grown hgrow (by simp) (fun k hk => by rw [Mv.ownBlock_some] at hk; injection hk with hk; omega)⟩
    clear hown hgrow hfr
    go_wp2
    go_ret
    exact ⟨A', c', rfl, HF.out.1, HF.out.2⟩
/-! ### What the landed loop makes -/
def cutOne (o : Int) (cl : Bool) (u : Unt) : Unt := ⟨u.line, u.net - o, !cl⟩
def cutK (us : List Unt) (ms os : List Int) (cl : Bool) : Nat → List Unt
  | 0 => us
  | k + 1 => (cutK us ms os cl k).modify (nth ms k).toNat (cutOne (nth os k) cl)
theorem cutK_at {us : List Unt} {ms os : List Int} {cl : Bool} (hf : Far ms) {k : Nat} {m : Int} (hm : ms[k]? = some m) : ∀ j, j ≤ k → (cutK us ms os cl j)[m.toNat]? = us[m.toNat]?
  | 0, _ => rfl
  | j + 1, hj => by
    have hl : j < ms.length := by have := (List.getElem?_eq_some_iff.1 hm).1; omega
    have e := List.getElem?_eq_getElem hl
    have hne := hf j k _ m (by omega) e hm
    rw [cutK, List.getElem?_modify, nth_some e, cutK_at hf hm j (by omega)]
    simp [hne]
theorem cutK_other {us : List Unt} {ms os : List Int} {cl : Bool} {i : Nat} : ∀ k, (∀ j, j < k → (nth ms j).toNat ≠ i) → (cutK us ms os cl k)[i]? = us[i]?
  | 0, _ => rfl
  | k + 1, h => by
    rw [cutK, List.getElem?_modify, cutK_other k fun j hj => h j (by omega)]
    have := h k (by omega)
    simp [this]
theorem cutK_mine {us : List Unt} {ms os : List Int} {cl : Bool} (hf : Far ms) {j : Nat} {m : Int} (hm : ms[j]? = some m) {u : Unt} (hu : us[m.toNat]? = some u) : ∀ k, j < k → k ≤ ms.length → (cutK us ms os cl k)[m.toNat]? = some (cutOne (nth os j) cl u)
  | 0, h, _ => by omega
  | k + 1, h, hk => by
    rw [cutK, List.getElem?_modify]
    rcases Nat.lt_or_ge j k with h1 | h1
    · have e := List.getElem?_eq_getElem (show k < ms.length by omega)
      have hne := hf j k m _ h1 hm e
      rw [cutK_mine hf hm hu k h1 (by omega), nth_some e]
      have : ¬ (ms[k].toNat = m.toNat) := fun e => hne e.symm
      simp [this]
    · obtain rfl : j = k := by omega
      rw [cutK_at hf hm j (Nat.le_refl j), nth_some hm, hu]
      simp
theorem cutK_less {us : List Unt} {ms os : List Int} {cl : Bool} (hp : PlacesMay us ms) (hl : os.length = ms.length) (hs : sumL os ≠ 0) : cutK us ms os cl ms.length = (lessU us ms os cl).1 := by
  apply List.ext_getElem?
  intro i
  by_cases h : ∃ (j : Nat) (m : Int), ms[j]? = some m ∧ m.toNat = i
  · obtain ⟨j, m, hm, rfl⟩ := h
    obtain ⟨_, u, hu, ho⟩ := hp.at_ j m hm
    have hj := (List.getElem?_eq_some_iff.1 hm).1
    rw [cutK_mine hp.far hm hu ms.length hj (Nat.le_refl _), less_mine hp.far hl cl hm hu hs]
    unfold cutOne
    rw [ho, Bool.true_and]
  · have h2 : ∀ (j : Nat) (m : Int), ms[j]? = some m → m.toNat ≠ i := fun j m hm e => h ⟨j, m, hm, e⟩
    rw [less_other (by omega) cl h2, cutK_other ms.length fun j hj => by
      have e := List.getElem?_eq_getElem hj
      rw [nth_some e]; exact h2 j _ e]
theorem way_1 (p : Prm) (l : Prm.Lay) (A : Option Addr) (n c : Nat) (xs : List Int) (w : World) (hk : p.kind = 1) (hp : Pr.promoB p = true) (hT : Row kTir w (· < w.heap.size) l.tiers.A l.tiers.n p.tiers) (hTn : l.tiers.n ≤ 1000000000000) (h : Row kInt w (· < w.heap.size) A n xs) (hn : NetsOk xs) :
    Calls Try.prog 18 #[.agg #[.string p.id, .int .i64 p.kind, .int .i64 p.priority, .string p.group, .string p.code, .bool p.closes, .slice l.scope.skus.A l.scope.skus.n l.scope.skus.c, .slice l.scope.cats.A l.scope.cats.n l.scope.cats.c, .int .i64 p.least, .int .i64 p.rate, .int .i64 p.amount, .int .i64 p.buy, .int .i64 p.get, .slice l.parts.A l.parts.n l.parts.c, .slice l.tiers.A l.tiers.n l.tiers.c, .slice A n c]] w fun e w' => ReadT w e w' (offsL p xs) := by
  have hn5 : n ≤ 100000 := by rw [← h.len]; exact hn.few
  have e : offsL p xs = xs.map fun x => halfN x p.rate := by unfold offsL; rw [if_pos hk]
  rw [e]
  exact (percent_any p l A n c xs w h hn5 (by have := kind_one hp hk; omega)).mono fun _ _ => readT_told
theorem way_2 (p : Prm) (l : Prm.Lay) (A : Option Addr) (n c : Nat) (xs : List Int) (w : World) (hk : p.kind = 2) (hp : Pr.promoB p = true) (hT : Row kTir w (· < w.heap.size) l.tiers.A l.tiers.n p.tiers) (hTn : l.tiers.n ≤ 1000000000000) (h : Row kInt w (· < w.heap.size) A n xs) (hn : NetsOk xs) :
    Calls Try.prog 19 #[.agg #[.string p.id, .int .i64 p.kind, .int .i64 p.priority, .string p.group, .string p.code, .bool p.closes, .slice l.scope.skus.A l.scope.skus.n l.scope.skus.c, .slice l.scope.cats.A l.scope.cats.n l.scope.cats.c, .int .i64 p.least, .int .i64 p.rate, .int .i64 p.amount, .int .i64 p.buy, .int .i64 p.get, .slice l.parts.A l.parts.n l.parts.c, .slice l.tiers.A l.tiers.n l.tiers.c, .slice A n c]] w fun e w' => ReadT w e w' (offsL p xs) := by
  have hn5 : n ≤ 100000 := by rw [← h.len]; exact hn.few
  have e : offsL p xs = xs.map fun x => min x p.amount := by unfold offsL; rw [if_neg (by omega), if_pos hk]
  rw [e]
  exact (amount_any p l A n c xs w h hn5 (by have := kind_two hp hk; omega)).mono fun _ _ => readT_told
theorem way_5 (p : Prm) (l : Prm.Lay) (A : Option Addr) (n c : Nat) (xs : List Int) (w : World) (hk : p.kind = 5) (hp : Pr.promoB p = true) (hT : Row kTir w (· < w.heap.size) l.tiers.A l.tiers.n p.tiers) (hTn : l.tiers.n ≤ 1000000000000) (h : Row kInt w (· < w.heap.size) A n xs) (hn : NetsOk xs) :
    Calls Try.prog 20 #[.agg #[.string p.id, .int .i64 p.kind, .int .i64 p.priority, .string p.group, .string p.code, .bool p.closes, .slice l.scope.skus.A l.scope.skus.n l.scope.skus.c, .slice l.scope.cats.A l.scope.cats.n l.scope.cats.c, .int .i64 p.least, .int .i64 p.rate, .int .i64 p.amount, .int .i64 p.buy, .int .i64 p.get, .slice l.parts.A l.parts.n l.parts.c, .slice l.tiers.A l.tiers.n l.tiers.c, .slice A n c]] w fun e w' => ReadT w e w' (offsL p xs) := by
  have hn5 : n ≤ 100000 := by rw [← h.len]; exact hn.few
  have e : offsL p xs = (Sh.largR (min (sumL xs) (halfN (sumL xs) (tierOf (sumL xs) p.tiers).rate + (tierOf (sumL xs) p.tiers).amount)) (nth xs) xs.length).1 := by unfold offsL; rw [if_neg (by omega), if_neg (by omega), if_neg (by omega), if_pos hk]
  rw [e]
  exact spend_any p l A n c xs w (kind_tiers hp (.inl hk) _).2.2 hT hTn h hn
theorem way_6 (p : Prm) (l : Prm.Lay) (A : Option Addr) (n c : Nat) (xs : List Int) (w : World) (hk : p.kind = 6) (hp : Pr.promoB p = true) (hT : Row kTir w (· < w.heap.size) l.tiers.A l.tiers.n p.tiers) (hTn : l.tiers.n ≤ 1000000000000) (h : Row kInt w (· < w.heap.size) A n xs) (hn : NetsOk xs) :
    Calls Try.prog 21 #[.agg #[.string p.id, .int .i64 p.kind, .int .i64 p.priority, .string p.group, .string p.code, .bool p.closes, .slice l.scope.skus.A l.scope.skus.n l.scope.skus.c, .slice l.scope.cats.A l.scope.cats.n l.scope.cats.c, .int .i64 p.least, .int .i64 p.rate, .int .i64 p.amount, .int .i64 p.buy, .int .i64 p.get, .slice l.parts.A l.parts.n l.parts.c, .slice l.tiers.A l.tiers.n l.tiers.c, .slice A n c]] w fun e w' => ReadT w e w' (offsL p xs) := by
  have hn5 : n ≤ 100000 := by rw [← h.len]; exact hn.few
  have e : offsL p xs = xs.map fun x => min x (halfN x (tierOf (n : Int) p.tiers).rate + (tierOf (n : Int) p.tiers).amount) := by unfold offsL; rw [if_neg (by omega), if_neg (by omega), if_pos hk, h.len]
  rw [e]
  exact (count_any p l A n c xs w (kind_tiers hp (.inr hk) _).2.2 hT hTn h hn5).mono fun _ _ => readT_told
end Go.Proofs.Ytacmoanhbkipfaa.Ct

end

section
set_option maxRecDepth 100000
set_option linter.unusedVariables false
namespace Go.Proofs.Ytacmoanhbkipfaa.Ct
open Go.ChangeShapes Go.WideShapes Go.ChangeAt Go.RowKit
open Ap (Unt Tir Prm kUnt kTir row_Unt row_Tir)
open Kd (Kind Row kInt row_int)
open Ko (Out Told Told2 At row_on)
theorem no_way (W : World) : (binOp .eql 54 .nilFunc .nilFunc).run Try.prog W = .ok (.bool true) W := by kernel_rfl
theorem a_way (f : Nat) (W : World) : (binOp .eql 54 (.func (.func f) #[] #[]) .nilFunc).run Try.prog W = .ok (.bool false) W := by kernel_rfl
set_option maxHeartbeats 1000000 in
theorem lapply_bad (p : Prm) (l : Prm.Lay) (A : Option Addr) (n c : Nat) (us : List Unt) (B : Option Addr) (m d : Nat) (ms : List Int) (w : World) (hPr : ∀ W, Below w.heap.size w W → Calls Try.prog 23 #[.agg #[.string p.id, .int .i64 p.kind, .int .i64 p.priority, .string p.group, .string p.code, .bool p.closes, .slice l.scope.skus.A l.scope.skus.n l.scope.skus.c, .slice l.scope.cats.A l.scope.cats.n l.scope.cats.c, .int .i64 p.least, .int .i64 p.rate, .int .i64 p.amount, .int .i64 p.buy, .int .i64 p.get, .slice l.parts.A l.parts.n l.parts.c, .slice l.tiers.A l.tiers.n l.tiers.c]] W fun e w' => e = .returned (.bool (Pr.promoB p)) ∧ Below W.heap.size W w') (h : Row kUnt w (· < w.heap.size) A n us) (hf : Kd.Fit A n c) (hg : Row kInt w (· < w.heap.size) B m ms) (hn : n ≤ 1000000000000) (hm : m ≤ 1000000000000) (hb : Pr.promoB p = false) :
    Calls Try.prog 11 #[.agg #[.string p.id, .int .i64 p.kind, .int .i64 p.priority, .string p.group, .string p.code, .bool p.closes, .slice l.scope.skus.A l.scope.skus.n l.scope.skus.c, .slice l.scope.cats.A l.scope.cats.n l.scope.cats.c, .int .i64 p.least, .int .i64 p.rate, .int .i64 p.amount, .int .i64 p.buy, .int .i64 p.get, .slice l.parts.A l.parts.n l.parts.c, .slice l.tiers.A l.tiers.n l.tiers.c], .slice A n c, .slice B m d] w fun e w' => Ko.Told2 kUnt 41 w e w' (applyU p us ms).1 (applyU p us ms).2 := by
  have HAp : Hid (applyU p us ms = (us, 0)) := Lib.hid (by unfold applyU; rw [hb]; rfl)
  rw [hb] at hPr
  obtain ⟨w1, hw1⟩ : ∃ w1, w.alloc (.cells #[.string p.id, .int .i64 p.kind, .int .i64 p.priority, .string p.group, .string p.code, .bool p.closes, .slice l.scope.skus.A l.scope.skus.n l.scope.skus.c, .slice l.scope.cats.A l.scope.cats.n l.scope.cats.c, .int .i64 p.least, .int .i64 p.rate, .int .i64 p.amount, .int .i64 p.buy, .int .i64 p.get, .slice l.parts.A l.parts.n l.parts.c, .slice l.tiers.A l.tiers.n l.tiers.c] 28) = w1 := ⟨_, rfl⟩
  have hb1 : Below w.heap.size w w1 := by rw [← hw1]; exact (Below.refl _ _).alloc (Nat.le_refl _) _
  have hx : Qu.Blk w1 w.heap.size 28 #[.string p.id, .int .i64 p.kind, .int .i64 p.priority, .string p.group, .string p.code, .bool p.closes, .slice l.scope.skus.A l.scope.skus.n l.scope.skus.c, .slice l.scope.cats.A l.scope.cats.n l.scope.cats.c, .int .i64 p.least, .int .i64 p.rate, .int .i64 p.amount, .int .i64 p.buy, .int .i64 p.get, .slice l.parts.A l.parts.n l.parts.c, .slice l.tiers.A l.tiers.n l.tiers.c] := by rw [← hw1]; exact Qu.Blk.new w _ _
  obtain ⟨w2, hw2⟩ : ∃ w2, w1.alloc (.cells #[.nilFunc, .func (.func 18) #[] #[], .func (.func 19) #[] #[], .nilFunc, .nilFunc, .func (.func 20) #[] #[], .func (.func 21) #[] #[]] 59) = w2 := ⟨_, rfl⟩
  have hb2 : Below w.heap.size w w2 := by rw [← hw2]; exact hb1.alloc hb1.size _
  have hx2 : Qu.Blk w2 w.heap.size 28 #[.string p.id, .int .i64 p.kind, .int .i64 p.priority, .string p.group, .string p.code, .bool p.closes, .slice l.scope.skus.A l.scope.skus.n l.scope.skus.c, .slice l.scope.cats.A l.scope.cats.n l.scope.cats.c, .int .i64 p.least, .int .i64 p.rate, .int .i64 p.amount, .int .i64 p.buy, .int .i64 p.get, .slice l.parts.A l.parts.n l.parts.c, .slice l.tiers.A l.tiers.n l.tiers.c] := by rw [← hw2]; exact hx.alloc _
  have ht2 : Qu.Blk w2 w1.heap.size 59 #[.nilFunc, .func (.func 18) #[] #[], .func (.func 19) #[] #[], .nilFunc, .nilFunc, .func (.func 20) #[] #[], .func (.func 21) #[] #[]] := by rw [← hw2]; exact Qu.Blk.new w1 _ _
  have HK := Lib.hid (And.intro hb2 (fun u (hu : Below w2.heap.size w2 u) => And.intro (hx2.below hu) (ht2.below hu)))
  have HC := Lib.hid (cloneU_any A n c us w2 (row_on h hb2) hf hn)
  have HR := Lib.hid (fun W (hb : Below w2.heap.size w2 W) => hPr W (hb2.trans (hb.mono hb2.size)))
  have HM := Lib.hid (fun W (hb : Below w2.heap.size w2 W) => lmay_any A n c us B m d ms W (row_on (row_on h hb2) hb) hn (row_on (row_on hg hb2) hb) hm)
  clear hPr h hf hg hb hb1 hx hx2 ht2 hb2
  go_enter Try.func11, Try.ntmps11
  go_wp2_with (first
    | (go_at_call 22; with_reducible refine HC.out.mono ?_; rintro e w3 ⟨A3, cq, rfl, ho3, hb3⟩; have HO3 := Lib.hid (And.intro ho3 hb3); have hk3 := (HK.out.2 w3 hb3).1; have x0 := hk3.cell 0; have x1 := hk3.cell 1; have x2 := hk3.cell 2; have x3 := hk3.cell 3; have x4 := hk3.cell 4; have x5 := hk3.cell 5; have x6 := hk3.cell 6; have x7 := hk3.cell 7; have x8 := hk3.cell 8; have x9 := hk3.cell 9; have x10 := hk3.cell 10; have x11 := hk3.cell 11; have x12 := hk3.cell 12; have x13 := hk3.cell 13; have x14 := hk3.cell 14; clear hk3 ho3 hb3)
    | (go_at_call 23; with_reducible refine (HR.out w3 HO3.out.2).mono ?_; rintro e w4 ⟨rfl, hb4⟩; have HO4 := Lib.hid (And.intro (HO3.out.1.later hb4) (HO3.out.2.trans (hb4.mono HO3.out.2.size))); have hk4 := HK.out.2 w4 HO4.out.2; have y1 := hk4.1.cell 1;  clear hk4 hb4))
  refine bodyPost_ret (results_tmp2 rfl _ _ _) rfl ?_
  rw [HAp.out]
  exact told2_of (own_down HO4.out.1 HK.out.1.size) (HK.out.1.trans (HO4.out.2.mono HK.out.1.size)) 0
set_option maxHeartbeats 1000000 in
theorem lapply_ship (p : Prm) (l : Prm.Lay) (A : Option Addr) (n c : Nat) (us : List Unt) (B : Option Addr) (m d : Nat) (ms : List Int) (w : World) (hPr : ∀ W, Below w.heap.size w W → Calls Try.prog 23 #[.agg #[.string p.id, .int .i64 p.kind, .int .i64 p.priority, .string p.group, .string p.code, .bool p.closes, .slice l.scope.skus.A l.scope.skus.n l.scope.skus.c, .slice l.scope.cats.A l.scope.cats.n l.scope.cats.c, .int .i64 p.least, .int .i64 p.rate, .int .i64 p.amount, .int .i64 p.buy, .int .i64 p.get, .slice l.parts.A l.parts.n l.parts.c, .slice l.tiers.A l.tiers.n l.tiers.c]] W fun e w' => e = .returned (.bool (Pr.promoB p)) ∧ Below W.heap.size W w') (h : Row kUnt w (· < w.heap.size) A n us) (hf : Kd.Fit A n c) (hg : Row kInt w (· < w.heap.size) B m ms) (hn : n ≤ 1000000000000) (hm : m ≤ 1000000000000) (hb : Pr.promoB p = true) (hk : p.kind = 7) :
    Calls Try.prog 11 #[.agg #[.string p.id, .int .i64 p.kind, .int .i64 p.priority, .string p.group, .string p.code, .bool p.closes, .slice l.scope.skus.A l.scope.skus.n l.scope.skus.c, .slice l.scope.cats.A l.scope.cats.n l.scope.cats.c, .int .i64 p.least, .int .i64 p.rate, .int .i64 p.amount, .int .i64 p.buy, .int .i64 p.get, .slice l.parts.A l.parts.n l.parts.c, .slice l.tiers.A l.tiers.n l.tiers.c], .slice A n c, .slice B m d] w fun e w' => Ko.Told2 kUnt 41 w e w' (applyU p us ms).1 (applyU p us ms).2 := by
  have HAp : Hid (applyU p us ms = (us, 0)) := Lib.hid (by
    have e : offsL p (netsL us ms) = [] := by unfold offsL; rw [if_neg (by omega), if_neg (by omega), if_neg (by omega), if_neg (by omega)]
    unfold applyU
    rw [e]
    split
    · unfold lessU; rw [if_pos (show sumL [] = 0 from rfl)]
    · rfl)
  rw [hb] at hPr
  obtain ⟨w1, hw1⟩ : ∃ w1, w.alloc (.cells #[.string p.id, .int .i64 p.kind, .int .i64 p.priority, .string p.group, .string p.code, .bool p.closes, .slice l.scope.skus.A l.scope.skus.n l.scope.skus.c, .slice l.scope.cats.A l.scope.cats.n l.scope.cats.c, .int .i64 p.least, .int .i64 p.rate, .int .i64 p.amount, .int .i64 p.buy, .int .i64 p.get, .slice l.parts.A l.parts.n l.parts.c, .slice l.tiers.A l.tiers.n l.tiers.c] 28) = w1 := ⟨_, rfl⟩
  have hb1 : Below w.heap.size w w1 := by rw [← hw1]; exact (Below.refl _ _).alloc (Nat.le_refl _) _
  have hx : Qu.Blk w1 w.heap.size 28 #[.string p.id, .int .i64 p.kind, .int .i64 p.priority, .string p.group, .string p.code, .bool p.closes, .slice l.scope.skus.A l.scope.skus.n l.scope.skus.c, .slice l.scope.cats.A l.scope.cats.n l.scope.cats.c, .int .i64 p.least, .int .i64 p.rate, .int .i64 p.amount, .int .i64 p.buy, .int .i64 p.get, .slice l.parts.A l.parts.n l.parts.c, .slice l.tiers.A l.tiers.n l.tiers.c] := by rw [← hw1]; exact Qu.Blk.new w _ _
  obtain ⟨w2, hw2⟩ : ∃ w2, w1.alloc (.cells #[.nilFunc, .func (.func 18) #[] #[], .func (.func 19) #[] #[], .nilFunc, .nilFunc, .func (.func 20) #[] #[], .func (.func 21) #[] #[]] 59) = w2 := ⟨_, rfl⟩
  have hb2 : Below w.heap.size w w2 := by rw [← hw2]; exact hb1.alloc hb1.size _
  have hx2 : Qu.Blk w2 w.heap.size 28 #[.string p.id, .int .i64 p.kind, .int .i64 p.priority, .string p.group, .string p.code, .bool p.closes, .slice l.scope.skus.A l.scope.skus.n l.scope.skus.c, .slice l.scope.cats.A l.scope.cats.n l.scope.cats.c, .int .i64 p.least, .int .i64 p.rate, .int .i64 p.amount, .int .i64 p.buy, .int .i64 p.get, .slice l.parts.A l.parts.n l.parts.c, .slice l.tiers.A l.tiers.n l.tiers.c] := by rw [← hw2]; exact hx.alloc _
  have ht2 : Qu.Blk w2 w1.heap.size 59 #[.nilFunc, .func (.func 18) #[] #[], .func (.func 19) #[] #[], .nilFunc, .nilFunc, .func (.func 20) #[] #[], .func (.func 21) #[] #[]] := by rw [← hw2]; exact Qu.Blk.new w1 _ _
  have HK := Lib.hid (And.intro hb2 (fun u (hu : Below w2.heap.size w2 u) => And.intro (hx2.below hu) (ht2.below hu)))
  have HC := Lib.hid (cloneU_any A n c us w2 (row_on h hb2) hf hn)
  have HR := Lib.hid (fun W (hb : Below w2.heap.size w2 W) => hPr W (hb2.trans (hb.mono hb2.size)))
  have HM := Lib.hid (fun W (hb : Below w2.heap.size w2 W) => lmay_any A n c us B m d ms W (row_on (row_on h hb2) hb) hn (row_on (row_on hg hb2) hb) hm)
  have HKd := Lib.hid hk
  have hnw := no_way
  clear hPr h hf hg hb hb1 hx hx2 ht2 hb2 hk
  go_enter Try.func11, Try.ntmps11
  go_wp2_with (first
    | (go_at_call 22; with_reducible refine HC.out.mono ?_; rintro e w3 ⟨A3, cq, rfl, ho3, hb3⟩; have HO3 := Lib.hid (And.intro ho3 hb3); have hk3 := (HK.out.2 w3 hb3).1; have x0 := hk3.cell 0; have x1 := hk3.cell 1; have x2 := hk3.cell 2; have x3 := hk3.cell 3; have x4 := hk3.cell 4; have x5 := hk3.cell 5; have x6 := hk3.cell 6; have x7 := hk3.cell 7; have x8 := hk3.cell 8; have x9 := hk3.cell 9; have x10 := hk3.cell 10; have x11 := hk3.cell 11; have x12 := hk3.cell 12; have x13 := hk3.cell 13; have x14 := hk3.cell 14; clear hk3 ho3 hb3)
    | (go_at_call 23; with_reducible refine (HR.out w3 HO3.out.2).mono ?_; rintro e w4 ⟨rfl, hb4⟩; have HO4 := Lib.hid (And.intro (HO3.out.1.later hb4) (HO3.out.2.trans (hb4.mono HO3.out.2.size))); have hk4 := HK.out.2 w4 HO4.out.2; have y1 := hk4.1.cell 1; rw [HKd.out] at y1;  clear hk4 hb4))
  refine bodyPost_ret (results_tmp2 rfl _ _ _) rfl ?_
  rw [HAp.out]
  exact told2_of (own_down HO4.out.1 HK.out.1.size) (HK.out.1.trans (HO4.out.2.mono HK.out.1.size)) 0
set_option maxHeartbeats 1000000 in
theorem lapply_rows (p : Prm) (l : Prm.Lay) (A : Option Addr) (n c : Nat) (us : List Unt) (B : Option Addr) (m d : Nat) (ms : List Int) (w : World) (hPr : ∀ W, Below w.heap.size w W → Calls Try.prog 23 #[.agg #[.string p.id, .int .i64 p.kind, .int .i64 p.priority, .string p.group, .string p.code, .bool p.closes, .slice l.scope.skus.A l.scope.skus.n l.scope.skus.c, .slice l.scope.cats.A l.scope.cats.n l.scope.cats.c, .int .i64 p.least, .int .i64 p.rate, .int .i64 p.amount, .int .i64 p.buy, .int .i64 p.get, .slice l.parts.A l.parts.n l.parts.c, .slice l.tiers.A l.tiers.n l.tiers.c]] W fun e w' => e = .returned (.bool (Pr.promoB p)) ∧ Below W.heap.size W w') (h : Row kUnt w (· < w.heap.size) A n us) (hf : Kd.Fit A n c) (hg : Row kInt w (· < w.heap.size) B m ms) (hn : n ≤ 1000000000000) (hm : m ≤ 1000000000000) (hb : Pr.promoB p = true) (hk : p.kind = 3) :
    Calls Try.prog 11 #[.agg #[.string p.id, .int .i64 p.kind, .int .i64 p.priority, .string p.group, .string p.code, .bool p.closes, .slice l.scope.skus.A l.scope.skus.n l.scope.skus.c, .slice l.scope.cats.A l.scope.cats.n l.scope.cats.c, .int .i64 p.least, .int .i64 p.rate, .int .i64 p.amount, .int .i64 p.buy, .int .i64 p.get, .slice l.parts.A l.parts.n l.parts.c, .slice l.tiers.A l.tiers.n l.tiers.c], .slice A n c, .slice B m d] w fun e w' => Ko.Told2 kUnt 41 w e w' (applyU p us ms).1 (applyU p us ms).2 := by
  have HAp : Hid (applyU p us ms = (us, 0)) := Lib.hid (by
    have e : offsL p (netsL us ms) = [] := by unfold offsL; rw [if_neg (by omega), if_neg (by omega), if_neg (by omega), if_neg (by omega)]
    unfold applyU
    rw [e]
    split
    · unfold lessU; rw [if_pos (show sumL [] = 0 from rfl)]
    · rfl)
  rw [hb] at hPr
  obtain ⟨w1, hw1⟩ : ∃ w1, w.alloc (.cells #[.string p.id, .int .i64 p.kind, .int .i64 p.priority, .string p.group, .string p.code, .bool p.closes, .slice l.scope.skus.A l.scope.skus.n l.scope.skus.c, .slice l.scope.cats.A l.scope.cats.n l.scope.cats.c, .int .i64 p.least, .int .i64 p.rate, .int .i64 p.amount, .int .i64 p.buy, .int .i64 p.get, .slice l.parts.A l.parts.n l.parts.c, .slice l.tiers.A l.tiers.n l.tiers.c] 28) = w1 := ⟨_, rfl⟩
  have hb1 : Below w.heap.size w w1 := by rw [← hw1]; exact (Below.refl _ _).alloc (Nat.le_refl _) _
  have hx : Qu.Blk w1 w.heap.size 28 #[.string p.id, .int .i64 p.kind, .int .i64 p.priority, .string p.group, .string p.code, .bool p.closes, .slice l.scope.skus.A l.scope.skus.n l.scope.skus.c, .slice l.scope.cats.A l.scope.cats.n l.scope.cats.c, .int .i64 p.least, .int .i64 p.rate, .int .i64 p.amount, .int .i64 p.buy, .int .i64 p.get, .slice l.parts.A l.parts.n l.parts.c, .slice l.tiers.A l.tiers.n l.tiers.c] := by rw [← hw1]; exact Qu.Blk.new w _ _
  obtain ⟨w2, hw2⟩ : ∃ w2, w1.alloc (.cells #[.nilFunc, .func (.func 18) #[] #[], .func (.func 19) #[] #[], .nilFunc, .nilFunc, .func (.func 20) #[] #[], .func (.func 21) #[] #[]] 59) = w2 := ⟨_, rfl⟩
  have hb2 : Below w.heap.size w w2 := by rw [← hw2]; exact hb1.alloc hb1.size _
  have hx2 : Qu.Blk w2 w.heap.size 28 #[.string p.id, .int .i64 p.kind, .int .i64 p.priority, .string p.group, .string p.code, .bool p.closes, .slice l.scope.skus.A l.scope.skus.n l.scope.skus.c, .slice l.scope.cats.A l.scope.cats.n l.scope.cats.c, .int .i64 p.least, .int .i64 p.rate, .int .i64 p.amount, .int .i64 p.buy, .int .i64 p.get, .slice l.parts.A l.parts.n l.parts.c, .slice l.tiers.A l.tiers.n l.tiers.c] := by rw [← hw2]; exact hx.alloc _
  have ht2 : Qu.Blk w2 w1.heap.size 59 #[.nilFunc, .func (.func 18) #[] #[], .func (.func 19) #[] #[], .nilFunc, .nilFunc, .func (.func 20) #[] #[], .func (.func 21) #[] #[]] := by rw [← hw2]; exact Qu.Blk.new w1 _ _
  have HK := Lib.hid (And.intro hb2 (fun u (hu : Below w2.heap.size w2 u) => And.intro (hx2.below hu) (ht2.below hu)))
  have HC := Lib.hid (cloneU_any A n c us w2 (row_on h hb2) hf hn)
  have HR := Lib.hid (fun W (hb : Below w2.heap.size w2 W) => hPr W (hb2.trans (hb.mono hb2.size)))
  have HM := Lib.hid (fun W (hb : Below w2.heap.size w2 W) => lmay_any A n c us B m d ms W (row_on (row_on h hb2) hb) hn (row_on (row_on hg hb2) hb) hm)
  have HKd := Lib.hid hk
  have hnw := no_way
  clear hPr h hf hg hb hb1 hx hx2 ht2 hb2 hk
  go_enter Try.func11, Try.ntmps11
  go_wp2_with (first
    | (go_at_call 22; with_reducible refine HC.out.mono ?_; rintro e w3 ⟨A3, cq, rfl, ho3, hb3⟩; have HO3 := Lib.hid (And.intro ho3 hb3); have hk3 := (HK.out.2 w3 hb3).1; have x0 := hk3.cell 0; have x1 := hk3.cell 1; have x2 := hk3.cell 2; have x3 := hk3.cell 3; have x4 := hk3.cell 4; have x5 := hk3.cell 5; have x6 := hk3.cell 6; have x7 := hk3.cell 7; have x8 := hk3.cell 8; have x9 := hk3.cell 9; have x10 := hk3.cell 10; have x11 := hk3.cell 11; have x12 := hk3.cell 12; have x13 := hk3.cell 13; have x14 := hk3.cell 14; clear hk3 ho3 hb3)
    | (go_at_call 23; with_reducible refine (HR.out w3 HO3.out.2).mono ?_; rintro e w4 ⟨rfl, hb4⟩; have HO4 := Lib.hid (And.intro (HO3.out.1.later hb4) (HO3.out.2.trans (hb4.mono HO3.out.2.size))); have hk4 := HK.out.2 w4 HO4.out.2; have y1 := hk4.1.cell 1; rw [HKd.out] at y1; have yt := hk4.2.cell 3; clear hk4 hb4))
  refine bodyPost_ret (results_tmp2 rfl _ _ _) rfl ?_
  rw [HAp.out]
  exact told2_of (own_down HO4.out.1 HK.out.1.size) (HK.out.1.trans (HO4.out.2.mono HK.out.1.size)) 0
set_option maxHeartbeats 1000000 in
theorem lapply_sets (p : Prm) (l : Prm.Lay) (A : Option Addr) (n c : Nat) (us : List Unt) (B : Option Addr) (m d : Nat) (ms : List Int) (w : World) (hPr : ∀ W, Below w.heap.size w W → Calls Try.prog 23 #[.agg #[.string p.id, .int .i64 p.kind, .int .i64 p.priority, .string p.group, .string p.code, .bool p.closes, .slice l.scope.skus.A l.scope.skus.n l.scope.skus.c, .slice l.scope.cats.A l.scope.cats.n l.scope.cats.c, .int .i64 p.least, .int .i64 p.rate, .int .i64 p.amount, .int .i64 p.buy, .int .i64 p.get, .slice l.parts.A l.parts.n l.parts.c, .slice l.tiers.A l.tiers.n l.tiers.c]] W fun e w' => e = .returned (.bool (Pr.promoB p)) ∧ Below W.heap.size W w') (h : Row kUnt w (· < w.heap.size) A n us) (hf : Kd.Fit A n c) (hg : Row kInt w (· < w.heap.size) B m ms) (hn : n ≤ 1000000000000) (hm : m ≤ 1000000000000) (hb : Pr.promoB p = true) (hk : p.kind = 4) :
    Calls Try.prog 11 #[.agg #[.string p.id, .int .i64 p.kind, .int .i64 p.priority, .string p.group, .string p.code, .bool p.closes, .slice l.scope.skus.A l.scope.skus.n l.scope.skus.c, .slice l.scope.cats.A l.scope.cats.n l.scope.cats.c, .int .i64 p.least, .int .i64 p.rate, .int .i64 p.amount, .int .i64 p.buy, .int .i64 p.get, .slice l.parts.A l.parts.n l.parts.c, .slice l.tiers.A l.tiers.n l.tiers.c], .slice A n c, .slice B m d] w fun e w' => Ko.Told2 kUnt 41 w e w' (applyU p us ms).1 (applyU p us ms).2 := by
  have HAp : Hid (applyU p us ms = (us, 0)) := Lib.hid (by
    have e : offsL p (netsL us ms) = [] := by unfold offsL; rw [if_neg (by omega), if_neg (by omega), if_neg (by omega), if_neg (by omega)]
    unfold applyU
    rw [e]
    split
    · unfold lessU; rw [if_pos (show sumL [] = 0 from rfl)]
    · rfl)
  rw [hb] at hPr
  obtain ⟨w1, hw1⟩ : ∃ w1, w.alloc (.cells #[.string p.id, .int .i64 p.kind, .int .i64 p.priority, .string p.group, .string p.code, .bool p.closes, .slice l.scope.skus.A l.scope.skus.n l.scope.skus.c, .slice l.scope.cats.A l.scope.cats.n l.scope.cats.c, .int .i64 p.least, .int .i64 p.rate, .int .i64 p.amount, .int .i64 p.buy, .int .i64 p.get, .slice l.parts.A l.parts.n l.parts.c, .slice l.tiers.A l.tiers.n l.tiers.c] 28) = w1 := ⟨_, rfl⟩
  have hb1 : Below w.heap.size w w1 := by rw [← hw1]; exact (Below.refl _ _).alloc (Nat.le_refl _) _
  have hx : Qu.Blk w1 w.heap.size 28 #[.string p.id, .int .i64 p.kind, .int .i64 p.priority, .string p.group, .string p.code, .bool p.closes, .slice l.scope.skus.A l.scope.skus.n l.scope.skus.c, .slice l.scope.cats.A l.scope.cats.n l.scope.cats.c, .int .i64 p.least, .int .i64 p.rate, .int .i64 p.amount, .int .i64 p.buy, .int .i64 p.get, .slice l.parts.A l.parts.n l.parts.c, .slice l.tiers.A l.tiers.n l.tiers.c] := by rw [← hw1]; exact Qu.Blk.new w _ _
  obtain ⟨w2, hw2⟩ : ∃ w2, w1.alloc (.cells #[.nilFunc, .func (.func 18) #[] #[], .func (.func 19) #[] #[], .nilFunc, .nilFunc, .func (.func 20) #[] #[], .func (.func 21) #[] #[]] 59) = w2 := ⟨_, rfl⟩
  have hb2 : Below w.heap.size w w2 := by rw [← hw2]; exact hb1.alloc hb1.size _
  have hx2 : Qu.Blk w2 w.heap.size 28 #[.string p.id, .int .i64 p.kind, .int .i64 p.priority, .string p.group, .string p.code, .bool p.closes, .slice l.scope.skus.A l.scope.skus.n l.scope.skus.c, .slice l.scope.cats.A l.scope.cats.n l.scope.cats.c, .int .i64 p.least, .int .i64 p.rate, .int .i64 p.amount, .int .i64 p.buy, .int .i64 p.get, .slice l.parts.A l.parts.n l.parts.c, .slice l.tiers.A l.tiers.n l.tiers.c] := by rw [← hw2]; exact hx.alloc _
  have ht2 : Qu.Blk w2 w1.heap.size 59 #[.nilFunc, .func (.func 18) #[] #[], .func (.func 19) #[] #[], .nilFunc, .nilFunc, .func (.func 20) #[] #[], .func (.func 21) #[] #[]] := by rw [← hw2]; exact Qu.Blk.new w1 _ _
  have HK := Lib.hid (And.intro hb2 (fun u (hu : Below w2.heap.size w2 u) => And.intro (hx2.below hu) (ht2.below hu)))
  have HC := Lib.hid (cloneU_any A n c us w2 (row_on h hb2) hf hn)
  have HR := Lib.hid (fun W (hb : Below w2.heap.size w2 W) => hPr W (hb2.trans (hb.mono hb2.size)))
  have HM := Lib.hid (fun W (hb : Below w2.heap.size w2 W) => lmay_any A n c us B m d ms W (row_on (row_on h hb2) hb) hn (row_on (row_on hg hb2) hb) hm)
  have HKd := Lib.hid hk
  have hnw := no_way
  clear hPr h hf hg hb hb1 hx hx2 ht2 hb2 hk
  go_enter Try.func11, Try.ntmps11
  go_wp2_with (first
    | (go_at_call 22; with_reducible refine HC.out.mono ?_; rintro e w3 ⟨A3, cq, rfl, ho3, hb3⟩; have HO3 := Lib.hid (And.intro ho3 hb3); have hk3 := (HK.out.2 w3 hb3).1; have x0 := hk3.cell 0; have x1 := hk3.cell 1; have x2 := hk3.cell 2; have x3 := hk3.cell 3; have x4 := hk3.cell 4; have x5 := hk3.cell 5; have x6 := hk3.cell 6; have x7 := hk3.cell 7; have x8 := hk3.cell 8; have x9 := hk3.cell 9; have x10 := hk3.cell 10; have x11 := hk3.cell 11; have x12 := hk3.cell 12; have x13 := hk3.cell 13; have x14 := hk3.cell 14; clear hk3 ho3 hb3)
    | (go_at_call 23; with_reducible refine (HR.out w3 HO3.out.2).mono ?_; rintro e w4 ⟨rfl, hb4⟩; have HO4 := Lib.hid (And.intro (HO3.out.1.later hb4) (HO3.out.2.trans (hb4.mono HO3.out.2.size))); have hk4 := HK.out.2 w4 HO4.out.2; have y1 := hk4.1.cell 1; rw [HKd.out] at y1; have yt := hk4.2.cell 4; clear hk4 hb4))
  refine bodyPost_ret (results_tmp2 rfl _ _ _) rfl ?_
  rw [HAp.out]
  exact told2_of (own_down HO4.out.1 HK.out.1.size) (HK.out.1.trans (HO4.out.2.mono HK.out.1.size)) 0
end Go.Proofs.Ytacmoanhbkipfaa.Ct

end
