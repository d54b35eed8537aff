/- Cuts: the document's offs whole, and Apply (made by gen-apply15.py). -/
import Derived.Test.YtacmoanhbkipfaaGreatPk15
import Derived.Test.YtacmoanhbkipfaaGreatPk16

set_option maxRecDepth 100000
set_option linter.unusedVariables false
namespace Go.Proofs.YtacmoanhbkipfaaGreat.Ct
open Go.ChangeShapes Go.WideShapes Go.ChangeAt Go.RowKit
open Ap (Unt Tir Prm kUnt kTir row_Unt row_Tir)
open Kd (Kind Row kInt row_int)
open Ko (Out Told Told2 At row_on)
set_option maxHeartbeats 8000000 in
theorem offs_none (p : Prm) (l : Prm.Lay) (A : Option Addr) (n c : Nat) (xs : List Int) (w : World) (h1 : p.kind ≠ 1) (h2 : p.kind ≠ 2) (h5 : p.kind ≠ 5) (h6 : p.kind ≠ 6) :
    Calls Tryz.prog 32 #[.agg #[.string p.id, .int .i64 p.kind, .int .i64 p.priority, .string p.group, .string p.code, .bool p.closes, .slice l.scope.skus.A l.scope.skus.n l.scope.skus.c, .slice l.scope.cats.A l.scope.cats.n l.scope.cats.c, .int .i64 p.least, .int .i64 p.rate, .int .i64 p.amount, .int .i64 p.buy, .int .i64 p.get, .slice l.parts.A l.parts.n l.parts.c, .slice l.tiers.A l.tiers.n l.tiers.c], .slice A n c] w fun e w' => ReadL w e w' (offsL p xs) := by
  obtain ⟨w1, hw1⟩ : ∃ w1, w.alloc (.cells #[.string p.id, .int .i64 p.kind, .int .i64 p.priority, .string p.group, .string p.code, .bool p.closes, .slice l.scope.skus.A l.scope.skus.n l.scope.skus.c, .slice l.scope.cats.A l.scope.cats.n l.scope.cats.c, .int .i64 p.least, .int .i64 p.rate, .int .i64 p.amount, .int .i64 p.buy, .int .i64 p.get, .slice l.parts.A l.parts.n l.parts.c, .slice l.tiers.A l.tiers.n l.tiers.c] 28) = w1 := ⟨_, rfl⟩
  have hb1 : Below w.heap.size w w1 := by rw [← hw1]; exact (Below.refl _ _).alloc (Nat.le_refl _) _
  have hx : Qu.Blk w1 w.heap.size 28 #[.string p.id, .int .i64 p.kind, .int .i64 p.priority, .string p.group, .string p.code, .bool p.closes, .slice l.scope.skus.A l.scope.skus.n l.scope.skus.c, .slice l.scope.cats.A l.scope.cats.n l.scope.cats.c, .int .i64 p.least, .int .i64 p.rate, .int .i64 p.amount, .int .i64 p.buy, .int .i64 p.get, .slice l.parts.A l.parts.n l.parts.c, .slice l.tiers.A l.tiers.n l.tiers.c] := by rw [← hw1]; exact Qu.Blk.new w _ _
  have x1 := hx.cell 1
  have HB := Lib.hid hb1
  have b1 : (p.kind == 1) = false := by rw [beq_eq_false_iff_ne]; exact h1
  have b2 : (p.kind == 2) = false := by rw [beq_eq_false_iff_ne]; exact h2
  have b5 : (p.kind == 5) = false := by rw [beq_eq_false_iff_ne]; exact h5
  have b6 : (p.kind == 6) = false := by rw [beq_eq_false_iff_ne]; exact h6
  have HE : Hid (offsL p xs = []) := Lib.hid (by unfold offsL; rw [if_neg h1, if_neg h2, if_neg h6, if_neg h5])
  clear hx hb1
  go_enter Tryz.func32, Tryz.ntmps32
  go_wp2_with fail
  go_ret
  rw [HE.out]
  exact ⟨none, 0, rfl, Row.nil _ _ _ _, HB.out⟩
theorem kind_one {p : Prm} (h : Pr.promoB p = true) (hk : p.kind = 1) : p.rate ≤ 10000 ∧ p.amount = 0 := by
  unfold Pr.promoB at h
  rw [Bool.and_eq_true] at h
  have h := h.2
  unfold Pr.kindB Pr.someB at h
  rw [if_pos hk] at h
  simp only [Bool.and_eq_true, decide_eq_true_eq, beq_iff_eq] at h
  omega
theorem kind_two {p : Prm} (h : Pr.promoB p = true) (hk : p.kind = 2) : 1 ≤ p.amount ∧ p.amount ≤ 1000000000 := by
  unfold Pr.promoB at h
  rw [Bool.and_eq_true] at h
  have h := h.2
  unfold Pr.kindB at h
  rw [if_neg (by omega), if_pos hk] at h
  simp only [Bool.and_eq_true, decide_eq_true_eq, beq_iff_eq] at h
  omega
theorem kind_tiers {p : Prm} (h : Pr.promoB p = true) (hk : p.kind = 5 ∨ p.kind = 6) (x : Int) : 0 ≤ (tierOf x p.tiers).rate ∧ (tierOf x p.tiers).rate ≤ 10000 ∧ 0 ≤ (tierOf x p.tiers).amount ∧ (tierOf x p.tiers).amount ≤ 10000000000000 := by
  unfold Pr.promoB at h
  rw [Bool.and_eq_true] at h
  have h := h.2
  unfold Pr.kindB at h
  rw [if_neg (by omega), if_neg (by omega), if_neg (by omega), if_neg (by omega), if_neg (by omega)] at h
  simp only [Bool.and_eq_true] at h
  have ht := Pr.tiersB_iff.1 h.2
  unfold tierOf
  cases e : reached x p.tiers with
  | none => exact ⟨Int.le_refl 0, by decide, Int.le_refl 0, by decide⟩
  | some t =>
    obtain ⟨i, hi, ei⟩ := List.mem_iff_getElem.1 (reached_mem e)
    have hb := ht.each i t (by rw [List.getElem?_eq_getElem hi, ei])
    unfold Pr.tierB Pr.inB at hb
    simp only [Bool.and_eq_true, decide_eq_true_eq] at hb
    show 0 ≤ t.rate ∧ t.rate ≤ 10000 ∧ 0 ≤ t.amount ∧ t.amount ≤ 10000000000000
    omega
theorem offs_any (p : Prm) (l : Prm.Lay) (A : Option Addr) (n c : Nat) (xs : List Int) (w : World) (hp : Pr.promoB p = true) (hT : Row kTir w (· < w.heap.size) l.tiers.A l.tiers.n p.tiers) (hTn : l.tiers.n ≤ 1000000000000) (h : Row kInt w (· < w.heap.size) A n xs) (hn : NetsOk xs) :
    Calls Tryz.prog 32 #[.agg #[.string p.id, .int .i64 p.kind, .int .i64 p.priority, .string p.group, .string p.code, .bool p.closes, .slice l.scope.skus.A l.scope.skus.n l.scope.skus.c, .slice l.scope.cats.A l.scope.cats.n l.scope.cats.c, .int .i64 p.least, .int .i64 p.rate, .int .i64 p.amount, .int .i64 p.buy, .int .i64 p.get, .slice l.parts.A l.parts.n l.parts.c, .slice l.tiers.A l.tiers.n l.tiers.c], .slice A n c] w fun e w' => ReadL w e w' (offsL p xs) := by
  have hn5 : n ≤ 100000 := by rw [← h.len]; exact hn.few
  by_cases h1 : p.kind = 1
  · exact (offs_percent p l A n c xs w h1 (by have := (kind_one hp h1).2; omega) h hn5).mono fun _ _ => read_told
  by_cases h2 : p.kind = 2
  · exact (offs_amount p l A n c xs w h2 (by have := kind_two hp h2; omega) h hn5).mono fun _ _ => read_told
  by_cases h5 : p.kind = 5
  · exact offs_spend p l A n c xs w h5 (kind_tiers hp (.inl h5) _).2.2 hT hTn h hn
  by_cases h6 : p.kind = 6
  · exact (offs_count p l A n c xs w h6 (kind_tiers hp (.inr h6) _).2.2 hT hTn h hn5).mono fun _ _ => read_told
  exact offs_none p l A n c xs w h1 h2 h5 h6
theorem offs_fine {p : Prm} (hp : Pr.promoB p = true) {xs : List Int} (hn : NetsOk xs) : OffsFine xs (offsL p xs) ∨ offsL p xs = [] := by
  have at_map : ∀ (f : Int → Int) (k : Nat) (o x : Int), (xs.map f)[k]? = some o → xs[k]? = some x → o = f x := fun f k o x ho hx => by
    rw [List.getElem?_map, hx] at ho
    injection ho with ho
    exact ho.symm
  unfold offsL
  by_cases h1 : p.kind = 1
  · rw [if_pos h1]
    exact .inl ⟨List.length_map _, fun k o x ho hx => by
      rw [at_map _ k o x ho hx]
      exact ⟨(halfN_ok _ _).1, half_le (hn.each k x hx).1 (kind_one hp h1).1⟩⟩
  rw [if_neg h1]
  by_cases h2 : p.kind = 2
  · rw [if_pos h2]
    exact .inl ⟨List.length_map _, fun k o x ho hx => by
      rw [at_map _ k o x ho hx]
      have := kind_two hp h2
      have := hn.each k x hx
      omega⟩
  rw [if_neg h2]
  by_cases h6 : p.kind = 6
  · rw [if_pos h6]
    exact .inl ⟨List.length_map _, fun k o x ho hx => by
      rw [at_map _ k o x ho hx]
      have h3 := (kind_tiers hp (.inr h6) (xs.length : Int)).2.2
      have h4 := hn.each k x hx
      have h5 := halfN_ok x (tierOf (xs.length : Int) p.tiers).rate
      omega⟩
  rw [if_neg h6]
  by_cases h5 : p.kind = 5
  · rw [if_pos h5]
    have h3 := (kind_tiers hp (.inl h5) (sumL xs)).2.2
    have h4 := halfN_ok (sumL xs) (tierOf (sumL xs) p.tiers).rate
    have h6 := hn.sums.2
    exact .inl (spend_fine hn (by omega) (by omega)).1
  · rw [if_neg h5]; exact .inr rfl
theorem fine_sums {l os : List Int} (hn : NetsOk l) (h : OffsFine l os ∨ os = []) : SumOk os ∧ os.length ≤ l.length := by
  rcases h with h | rfl
  · refine ⟨?_, by rw [h.1]; exact Nat.le_refl _⟩
    have hle : ∀ k, k ≤ l.length → 0 ≤ sumL (os.take k) ∧ sumL (os.take k) ≤ sumL (l.take k) := fun k => by
      induction k with
      | zero => intro _; rw [List.take_zero, List.take_zero]; exact ⟨Int.le_refl _, Int.le_refl _⟩
      | succ k ih =>
        intro hk
        have h0 := ih (by omega)
        have e1 : l[k]? = some (l[k]'(by omega)) := List.getElem?_eq_getElem (by omega)
        have e2 : os[k]? = some (os[k]'(by rw [h.1]; omega)) := List.getElem?_eq_getElem (by rw [h.1]; omega)
        have h3 := h.2 k _ _ e2 e1
        rw [sumL_next e1, sumL_next e2]
        omega
    intro k
    have hs := hn.sums.1
    have hp := sum_part (l := l) fun k x hx => (hn.each k x hx).1
    have ht := hn.total
    rcases Nat.le_total k l.length with hk | hk
    · have h1 := hle k hk
      have h2 := hp k
      omega
    · rw [List.take_of_length_le (by rw [h.1]; exact hk)]
      have h1 := hle l.length (Nat.le_refl _)
      rw [List.take_length, List.take_of_length_le (by rw [h.1]; exact Nat.le_refl _)] at h1
      omega
  · exact ⟨fun k => by rw [List.take_nil]; exact ⟨by decide, by decide⟩, Nat.zero_le _⟩
theorem fine_less {us : List Unt} {ms : List Int} (hm : May us ms) {os : List Int} (h : OffsFine (netsL us ms) os ∨ os = []) : LessOk us ms os := by
  intro k m o u hmk hok hu
  rcases h with h | rfl
  · have e : (netsL us ms)[k]? = some u.net := by
      unfold netsL
      rw [List.getElem?_map, hmk]
      show some (netAt us m) = _
      unfold netAt
      rw [hu]
    have h1 := h.2 k o _ hok e
    have h2 := (nets_ok hm).each k _ e
    omega
  · simp at hok
set_option maxHeartbeats 16000000 in
theorem apply_of (p : Prm) (l : Prm.Lay) (A : Option Addr) (n c : Nat) (us : List Unt) (B : Option Addr) (m d : Nat) (ms : List Int) (w : World) (hPr : ∀ W, Below w.heap.size w W → Calls Tryz.prog 30 #[.agg #[.string p.id, .int .i64 p.kind, .int .i64 p.priority, .string p.group, .string p.code, .bool p.closes, .slice l.scope.skus.A l.scope.skus.n l.scope.skus.c, .slice l.scope.cats.A l.scope.cats.n l.scope.cats.c, .int .i64 p.least, .int .i64 p.rate, .int .i64 p.amount, .int .i64 p.buy, .int .i64 p.get, .slice l.parts.A l.parts.n l.parts.c, .slice l.tiers.A l.tiers.n l.tiers.c]] W fun e w' => e = .returned (.bool (Pr.promoB p)) ∧ Below W.heap.size W w') (hT : Row kTir w (· < w.heap.size) l.tiers.A l.tiers.n p.tiers) (hTn : l.tiers.n ≤ 1000000000000) (h : Row kUnt w (· < w.heap.size) A n us) (hf : Kd.Fit A n c) (hg : Row kInt w (· < w.heap.size) B m ms) (hn : n ≤ 1000000000000) (hm : m ≤ 1000000000000) :
    Calls Tryz.prog 10 #[.agg #[.string p.id, .int .i64 p.kind, .int .i64 p.priority, .string p.group, .string p.code, .bool p.closes, .slice l.scope.skus.A l.scope.skus.n l.scope.skus.c, .slice l.scope.cats.A l.scope.cats.n l.scope.cats.c, .int .i64 p.least, .int .i64 p.rate, .int .i64 p.amount, .int .i64 p.buy, .int .i64 p.get, .slice l.parts.A l.parts.n l.parts.c, .slice l.tiers.A l.tiers.n l.tiers.c], .slice A n c, .slice B m d] w fun e w' => Ko.Told2 kUnt 35 w e w' (applyU p us ms).1 (applyU p us ms).2 := by
  obtain ⟨w1, hw1⟩ : ∃ w1, w.alloc (.cells #[.string p.id, .int .i64 p.kind, .int .i64 p.priority, .string p.group, .string p.code, .bool p.closes, .slice l.scope.skus.A l.scope.skus.n l.scope.skus.c, .slice l.scope.cats.A l.scope.cats.n l.scope.cats.c, .int .i64 p.least, .int .i64 p.rate, .int .i64 p.amount, .int .i64 p.buy, .int .i64 p.get, .slice l.parts.A l.parts.n l.parts.c, .slice l.tiers.A l.tiers.n l.tiers.c] 28) = w1 := ⟨_, rfl⟩
  have hb1 : Below w.heap.size w w1 := by rw [← hw1]; exact (Below.refl _ _).alloc (Nat.le_refl _) _
  have hx : Qu.Blk w1 w.heap.size 28 #[.string p.id, .int .i64 p.kind, .int .i64 p.priority, .string p.group, .string p.code, .bool p.closes, .slice l.scope.skus.A l.scope.skus.n l.scope.skus.c, .slice l.scope.cats.A l.scope.cats.n l.scope.cats.c, .int .i64 p.least, .int .i64 p.rate, .int .i64 p.amount, .int .i64 p.buy, .int .i64 p.get, .slice l.parts.A l.parts.n l.parts.c, .slice l.tiers.A l.tiers.n l.tiers.c] := by rw [← hw1]; exact Qu.Blk.new w _ _
  have HPr := Lib.hid (hPr w1 hb1)
  have HX := Lib.hid (And.intro hx hb1)
  have HU := Lib.hid (row_on h hb1)
  have HM := Lib.hid (row_on hg hb1)
  have HTr := Lib.hid (row_on hT hb1)
  have HFi := Lib.hid hf
  have HLu := Lib.hid h.len
  have HLm := Lib.hid hg.len
  have x0 := hx.cell 0
  have x1 := hx.cell 1
  have x2 := hx.cell 2
  have x3 := hx.cell 3
  have x4 := hx.cell 4
  have x5 := hx.cell 5
  have x6 := hx.cell 6
  have x7 := hx.cell 7
  have x8 := hx.cell 8
  have x9 := hx.cell 9
  have x10 := hx.cell 10
  have x11 := hx.cell 11
  have x12 := hx.cell 12
  have x13 := hx.cell 13
  have x14 := hx.cell 14
  clear hx hb1 hPr hT h hf hg
  obtain ⟨bp, hbp⟩ : ∃ b, Pr.promoB p = b := ⟨_, rfl⟩
  have HBp := Lib.hid hbp
  rw [hbp] at HPr
  cases bp with
  | false =>
    have HAp : Hid (applyU p us ms = (us, 0)) := Lib.hid (by unfold applyU; rw [HBp.out]; rfl)
    clear hbp
    go_enter Tryz.func10, Tryz.ntmps10
    go_wp2_with (first
      | (go_at_call 30; with_reducible refine HPr.out.mono ?_; rintro e w2 ⟨rfl, hb2⟩; have HB2 := Lib.hid hb2)
      | (at_builtin; refine Kd.wpList_join (F := fun _ => False) (G := (· < w2.heap.size)) (B := w2.heap.size) (n := 0) (m := n) (c := c) (v := .slice none 0 0) (xs := []) (ys := us) (A := A) Ap.Unt.row_t rfl _ _ rfl rfl rfl (Kd.Own.nil _ _ _ _ _) (row_on HU.out HB2.out) HFi.out.1 (fun h => Ap.Unt_rep.2 (Ap.Unt_rep.1 h)) (by omega) (by omega) (Nat.le_refl _) (fun _ h => h.elim) ?_; intro v3 w3 hown hgrow hfr; rw [Nat.zero_add, List.nil_append] at hown; have hb3 : Below w2.heap.size w2 w3 := (Below.refl _ _).grown hgrow (Nat.le_refl _) (fun q hq => by cases hq); have HO3 := Lib.hid (And.intro hown hb3); obtain ⟨A3, c3, rfl⟩ := hown.value; clear hown hgrow hfr))
    refine bodyPost_ret (results_tmp2 rfl _ _ _) rfl ?_
    rw [HAp.out]
    exact told2_of (own_down HO3.out.1 (Nat.le_trans HX.out.2.size HB2.out.size)) ((HX.out.2.trans (HB2.out.mono HX.out.2.size)).trans (HO3.out.2.mono (Nat.le_trans HX.out.2.size HB2.out.size))) 0
  | true =>
    obtain ⟨bm, hbm⟩ : ∃ b, mayB us ms = b := ⟨_, rfl⟩
    have HBm := Lib.hid hbm
    have HMa := Lib.hid (fun W (hb : Below w1.heap.size w1 W) => may_any A n c us B m d ms _ _ W (row_on HU.out hb) hn (row_on HM.out hb) hm)
    simp only [hbm] at HMa
    cases bm with
    | false =>
      have HAp : Hid (applyU p us ms = (us, 0)) := Lib.hid (by unfold applyU; rw [HBp.out, HBm.out]; rfl)
      clear hbp hbm
      go_enter Tryz.func10, Tryz.ntmps10
      go_wp2_with (first
        | (go_at_call 30; with_reducible refine HPr.out.mono ?_; rintro e w2 ⟨rfl, hb2⟩; have HB2 := Lib.hid hb2)
        | (go_at_call 15; with_reducible refine (HMa.out _ HB2.out).mono ?_; rintro e w4 ⟨rfl, hd4⟩; have HB4 := Lib.hid (HB2.out.trans (hd4.below w1.heap.size)))
        | (at_builtin; refine Kd.wpList_join (F := fun _ => False) (G := (· < w4.heap.size)) (B := w4.heap.size) (n := 0) (m := n) (c := c) (v := .slice none 0 0) (xs := []) (ys := us) (A := A) Ap.Unt.row_t rfl _ _ rfl rfl rfl (Kd.Own.nil _ _ _ _ _) (row_on HU.out HB4.out) HFi.out.1 (fun h => Ap.Unt_rep.2 (Ap.Unt_rep.1 h)) (by omega) (by omega) (Nat.le_refl _) (fun _ h => h.elim) ?_; intro v3 w3 hown hgrow hfr; rw [Nat.zero_add, List.nil_append] at hown; have hb3 : Below w4.heap.size w4 w3 := (Below.refl _ _).grown hgrow (Nat.le_refl _) (fun q hq => by cases hq); have HO3 := Lib.hid (And.intro hown hb3); obtain ⟨A3, c3, rfl⟩ := hown.value; clear hown hgrow hfr))
      refine bodyPost_ret (results_tmp2 rfl _ _ _) rfl ?_
      rw [HAp.out]
      exact told2_of (own_down HO3.out.1 (Nat.le_trans HX.out.2.size HB4.out.size)) ((HX.out.2.trans (HB4.out.mono HX.out.2.size)).trans (HO3.out.2.mono (Nat.le_trans HX.out.2.size HB4.out.size))) 0
    | true =>
      have HMy := mayB_iff.1 HBm.out
      have HAp : Hid (applyU p us ms = lessU us ms (offsL p (netsL us ms)) p.closes) := Lib.hid (by unfold applyU; rw [HBp.out, HBm.out]; rfl)
      have hno := nets_ok HMy
      have hof := offs_fine HBp.out hno
      have hfs := fine_sums hno hof
      have hfl := fine_less HMy hof
      have hn5 : n ≤ 100000 := by rw [← HLu.out]; exact HMy.units.few
      have hm5 : m ≤ 100000 := by rw [← HLm.out]; exact Nat.le_trans HMy.places.few HMy.units.few
      have hin : PlacesIn n ms := by rw [← HLu.out]; exact HMy.places.in_
      have hlen : (netsL us ms).length = m := by unfold netsL; rw [List.length_map, HLm.out]
      have hq : (offsL p (netsL us ms)).length ≤ m := by rw [← hlen]; exact hfs.2
      have HNt := Lib.hid (fun W (hb : Below w1.heap.size w1 W) => nets_any A n c us B m d ms W (row_on HU.out hb) (row_on HM.out hb) hm5 hin)
      have HOf := Lib.hid (fun W A5 c5 (hb : Below w1.heap.size w1 W) (hr : Row kInt W (· < W.heap.size) A5 (netsL us ms).length (netsL us ms)) => offs_any p l A5 (netsL us ms).length c5 (netsL us ms) W HBp.out (row_on HTr.out hb) hTn hr hno)
      have HLe := Lib.hid (fun W A6 c6 (hb : Below w1.heap.size w1 W) (hr : Row kInt W (· < W.heap.size) A6 (offsL p (netsL us ms)).length (offsL p (netsL us ms))) => less_any A n c us B m d ms A6 (offsL p (netsL us ms)).length c6 (offsL p (netsL us ms)) p.closes W (row_on HU.out hb) HFi.out (row_on HM.out hb) hr hn5 hm5 hq hin HMy.places.far hfs.1 hfl)
      unfold Ko.Told at HNt
      unfold ReadL at HOf
      unfold Ko.Told2 at HLe
      obtain ⟨NL, hNL⟩ : ∃ z, netsL us ms = z := ⟨_, rfl⟩
      simp only [hNL] at HNt HOf HLe HAp
      obtain ⟨os, hos⟩ : ∃ z, offsL p NL = z := ⟨_, rfl⟩
      simp only [hos] at HOf HLe HAp
      obtain ⟨q1, hq1⟩ : ∃ z, NL.length = z := ⟨_, rfl⟩
      simp only [hq1] at HNt HOf
      obtain ⟨q2, hq2⟩ : ∃ z, os.length = z := ⟨_, rfl⟩
      simp only [hq2] at HOf HLe
      clear HMy hno hof hfs hfl hin hlen hq hNL hos hq1 hq2 hbp hbm
      go_enter Tryz.func10, Tryz.ntmps10
      go_wp2_with (first
        | (go_at_call 30; with_reducible refine HPr.out.mono ?_; rintro e w2 ⟨rfl, hb2⟩; have HB2 := Lib.hid hb2)
        | (go_at_call 15; with_reducible refine (HMa.out _ HB2.out).mono ?_; rintro e w4 ⟨rfl, hd4⟩; have HB3 := Lib.hid (HB2.out.trans (hd4.below w1.heap.size)); clear hd4))
      clear x0 x1 x2 x3 x4 x5 x6 x7 x8 x9 x10 x11 x12 x13 x14
      have c0 : ∀ u, Below w1.heap.size w1 u → u.cell? ⟨w.heap.size, 0, none⟩ = some (.string p.id) := fun u hu => (hu.cell (p := ⟨w.heap.size, _, none⟩) HX.out.1.lt).trans (HX.out.1.cell 0)
      have c1 : ∀ u, Below w1.heap.size w1 u → u.cell? ⟨w.heap.size, 1, none⟩ = some (.int .i64 p.kind) := fun u hu => (hu.cell (p := ⟨w.heap.size, _, none⟩) HX.out.1.lt).trans (HX.out.1.cell 1)
      have c2 : ∀ u, Below w1.heap.size w1 u → u.cell? ⟨w.heap.size, 2, none⟩ = some (.int .i64 p.priority) := fun u hu => (hu.cell (p := ⟨w.heap.size, _, none⟩) HX.out.1.lt).trans (HX.out.1.cell 2)
      have c3 : ∀ u, Below w1.heap.size w1 u → u.cell? ⟨w.heap.size, 3, none⟩ = some (.string p.group) := fun u hu => (hu.cell (p := ⟨w.heap.size, _, none⟩) HX.out.1.lt).trans (HX.out.1.cell 3)
      have c4 : ∀ u, Below w1.heap.size w1 u → u.cell? ⟨w.heap.size, 4, none⟩ = some (.string p.code) := fun u hu => (hu.cell (p := ⟨w.heap.size, _, none⟩) HX.out.1.lt).trans (HX.out.1.cell 4)
      have c5 : ∀ u, Below w1.heap.size w1 u → u.cell? ⟨w.heap.size, 5, none⟩ = some (.bool p.closes) := fun u hu => (hu.cell (p := ⟨w.heap.size, _, none⟩) HX.out.1.lt).trans (HX.out.1.cell 5)
      have c6 : ∀ u, Below w1.heap.size w1 u → u.cell? ⟨w.heap.size, 6, none⟩ = some (.slice l.scope.skus.A l.scope.skus.n l.scope.skus.c) := fun u hu => (hu.cell (p := ⟨w.heap.size, _, none⟩) HX.out.1.lt).trans (HX.out.1.cell 6)
      have c7 : ∀ u, Below w1.heap.size w1 u → u.cell? ⟨w.heap.size, 7, none⟩ = some (.slice l.scope.cats.A l.scope.cats.n l.scope.cats.c) := fun u hu => (hu.cell (p := ⟨w.heap.size, _, none⟩) HX.out.1.lt).trans (HX.out.1.cell 7)
      have c8 : ∀ u, Below w1.heap.size w1 u → u.cell? ⟨w.heap.size, 8, none⟩ = some (.int .i64 p.least) := fun u hu => (hu.cell (p := ⟨w.heap.size, _, none⟩) HX.out.1.lt).trans (HX.out.1.cell 8)
      have c9 : ∀ u, Below w1.heap.size w1 u → u.cell? ⟨w.heap.size, 9, none⟩ = some (.int .i64 p.rate) := fun u hu => (hu.cell (p := ⟨w.heap.size, _, none⟩) HX.out.1.lt).trans (HX.out.1.cell 9)
      have c10 : ∀ u, Below w1.heap.size w1 u → u.cell? ⟨w.heap.size, 10, none⟩ = some (.int .i64 p.amount) := fun u hu => (hu.cell (p := ⟨w.heap.size, _, none⟩) HX.out.1.lt).trans (HX.out.1.cell 10)
      have c11 : ∀ u, Below w1.heap.size w1 u → u.cell? ⟨w.heap.size, 11, none⟩ = some (.int .i64 p.buy) := fun u hu => (hu.cell (p := ⟨w.heap.size, _, none⟩) HX.out.1.lt).trans (HX.out.1.cell 11)
      have c12 : ∀ u, Below w1.heap.size w1 u → u.cell? ⟨w.heap.size, 12, none⟩ = some (.int .i64 p.get) := fun u hu => (hu.cell (p := ⟨w.heap.size, _, none⟩) HX.out.1.lt).trans (HX.out.1.cell 12)
      have c13 : ∀ u, Below w1.heap.size w1 u → u.cell? ⟨w.heap.size, 13, none⟩ = some (.slice l.parts.A l.parts.n l.parts.c) := fun u hu => (hu.cell (p := ⟨w.heap.size, _, none⟩) HX.out.1.lt).trans (HX.out.1.cell 13)
      have c14 : ∀ u, Below w1.heap.size w1 u → u.cell? ⟨w.heap.size, 14, none⟩ = some (.slice l.tiers.A l.tiers.n l.tiers.c) := fun u hu => (hu.cell (p := ⟨w.heap.size, _, none⟩) HX.out.1.lt).trans (HX.out.1.cell 14)
      refine wp_region_held_drew (S := fun u => Below w1.heap.size w1 u) (by kernel_rfl) (HB3.out.drew) (fun hS0 => ?_)
      refine pkT 0 19 hS0 ?_
      try simp only [Act.put, pkA, pkB, pkC]
      refine pkT 1 20 hS0 ?_
      try simp only [Act.put, pkA, pkB, pkC]
      refine pkT 2 21 hS0 ?_
      try simp only [Act.put, pkA, pkB, pkC]
      refine pkT 3 22 hS0 ?_
      try simp only [Act.put, pkA, pkB, pkC]
      refine pkT 4 23 hS0 ?_
      try simp only [Act.put, pkA, pkB, pkC]
      refine pkT 7 26 hS0 ?_
      try simp only [Act.put, pkA, pkB, pkC]
      refine pkT 8 27 hS0 ?_
      try simp only [Act.put, pkA, pkB, pkC]
      refine wpAnyH_ready (rs := [5]) (by kernel_rfl) (by simp) ?_
      refine AllReadyH.cons (o := ⟨some 24, _, _, _, _, _⟩) rfl (fun K hK => ?_) AllReadyH.nil
      go_simp
      refine (HNt.out _ hS0).mono ?_
      rintro e wa ⟨A5, c5, rfl, ho5, hb5⟩
      have hya : Below w1.heap.size w1 wa := (Below.trans hS0 (hb5.mono (Below.size hS0)))
      go_wp2_with fail
      refine hK.out _ _ (hya) (fun hS1 => ?_)
      clear hK K
      try simp only [Act.put, pkA, pkB, pkC]
      refine wpAnyH_ready (rs := [6]) (by kernel_rfl) (by simp) ?_
      refine AllReadyH.cons (o := ⟨some 25, _, _, _, _, _⟩) rfl (fun K hK => ?_) AllReadyH.nil
      go_simp
      refine (HOf.out _ A5 c5 hya ho5.read).mono ?_
      rintro e wb ⟨A6, c6, rfl, hr6, hb6⟩
      have hyb : Below w1.heap.size w1 wb := hya.trans (hb6.mono hya.size)
      go_wp2_with fail
      refine hK.out _ _ (hyb) (fun hS2 => ?_)
      clear hK K
      try simp only [Act.put, pkA, pkB, pkC]
      refine wpAnyH_ready (rs := [9]) (by kernel_rfl) (by simp) ?_
      refine AllReadyH.cons (o := ⟨some 28, _, _, _, _, _⟩) rfl (fun K hK => ?_) AllReadyH.nil
      go_simp
      refine (HLe.out _ A6 c6 hyb hr6).mono ?_
      rintro e wc ⟨A7, c7, rfl, ho7, hb7⟩
      have hyc : Below w1.heap.size w1 wc := hyb.trans (hb7.mono hyb.size)
      go_wp2_with fail
      refine hK.out _ _ (hyc) (fun hS3 => ?_)
      clear hK K
      try simp only [Act.put, pkA, pkB, pkC]
      refine pkT 10 29 hS3 ?_
      try simp only [Act.put, pkA, pkB, pkC]
      refine pkT 11 30 hS3 ?_
      try simp only [Act.put, pkA, pkB, pkC]
      refine pkT 12 6 hS3 ?_
      try simp only [Act.put, pkA, pkB, pkC]
      refine pkT 13 7 hS3 ?_
      try simp only [Act.put, pkA, pkB, pkC]
      refine wpAnyH_done (by kernel_rfl) ?_ _
      have HZ := Lib.hid (And.intro (own_down ho7 (Nat.le_trans HX.out.2.size hyb.size)) (HX.out.2.trans (hyc.mono HX.out.2.size)))
      clear ho5 hb5 hya hr6 hb6 hyb ho7 hb7 hyc
      go_wp2_with fail
      refine bodyPost_ret (results_tmp2 rfl _ _ _) rfl ?_
      rw [HAp.out]
      exact ⟨A7, c7, rfl, HZ.out.1, HZ.out.2⟩
end Go.Proofs.YtacmoanhbkipfaaGreat.Ct
