/- Deals: the document's BuyGet (made by gen-rbuyget16.py). -/
import Derived.Deep.CutBlock
import Derived.Deep.DeepCutAuto
import Derived.Test.YtljmddjlnlmenaaGreatPq10
import Derived.Test.YtljmddjlnlmenaaGreatPq14
import Derived.Test.YtljmddjlnlmenaaGreatPq24
import Derived.Test.YtljmddjlnlmenaaGreatPq31
import Derived.Test.YtljmddjlnlmenaaGreatPq34
set_option maxRecDepth 100000
set_option linter.unusedVariables false

namespace Go.Proofs.YtljmddjlnlmenaaGreat.Dl
open Go.ChangeShapes Go.WideShapes Go.ChangeAt Go.RowKit
open Ap (Unt Tir Prm kUnt kTir row_Unt row_Tir)
open Kd (Kind Row RowT kInt kFlag row_int)
open Ko (Out Told Told2 At row_on)
open Ct (nth nth_some netAt netsL sumL sumL_append sumL_next halfN UnitsMay PlacesMay May mayB mayB_iff Far take_next lessU SumOk PlacesIn i64_t own_down told2_of)
theorem rem_is (k R r : Nat) (h : k % R = r) : (k : Int).tmod (R : Int) = (r : Int) := by
  rw [Int.tmod_eq_emod_of_nonneg (Int.natCast_nonneg k), <- h]; rfl
theorem whole_len (p : Prm) (us : List Unt) (ms : List Int) : (wholeL p us ms).length = ms.length - ms.length % rowN p := by unfold wholeL; rw [List.length_take, dearL_length]; omega
set_option maxHeartbeats 1000000 in
theorem rbuyget_bad (p : Prm) (l : Prm.Lay) (A : Option Addr) (n c : Nat) (us : List Unt) (B : Option Addr) (m d : Nat) (ms : List Int) (w : World) (hPr : ∀ W, Below w.heap.size w W -> Calls Tryz.prog 31 #[.agg #[.string p.id, .int .i64 p.kind, .int .i64 p.priority, .string p.group, .string p.code, .bool p.closes, .slice l.scope.skus.A l.scope.skus.n l.scope.skus.c, .slice l.scope.cats.A l.scope.cats.n l.scope.cats.c, .int .i64 p.least, .int .i64 p.rate, .int .i64 p.amount, .int .i64 p.buy, .int .i64 p.get, .slice l.parts.A l.parts.n l.parts.c, .slice l.tiers.A l.tiers.n l.tiers.c]] W fun e w' => e = .returned (.bool (Pr.promoB p)) /\ Below W.heap.size W w') (h : Row kUnt w (· < w.heap.size) A n us) (hf : Kd.Fit A n c) (hg : Row kInt w (· < w.heap.size) B m ms) (hn : n <= 1000000000000) (hm : m <= 1000000000000) (hb : Pr.promoB p = false) :
    Calls Tryz.prog 12 #[.agg #[.string p.id, .int .i64 p.kind, .int .i64 p.priority, .string p.group, .string p.code, .bool p.closes, .slice l.scope.skus.A l.scope.skus.n l.scope.skus.c, .slice l.scope.cats.A l.scope.cats.n l.scope.cats.c, .int .i64 p.least, .int .i64 p.rate, .int .i64 p.amount, .int .i64 p.buy, .int .i64 p.get, .slice l.parts.A l.parts.n l.parts.c, .slice l.tiers.A l.tiers.n l.tiers.c], .slice A n c, .slice B m d] w fun e w' => Ko.Told2 kUnt 35 w e w' (buygetU p us ms).1 (buygetU p us ms).2 := by
  have HAp : Hid (buygetU p us ms = (us, 0)) := Lib.hid (by unfold buygetU; rw [hb]; rfl)
  rw [hb] at hPr
  obtain ⟨w1, hw1⟩ : ∃ w1, w.alloc (.cells #[.string p.id, .int .i64 p.kind, .int .i64 p.priority, .string p.group, .string p.code, .bool p.closes, .slice l.scope.skus.A l.scope.skus.n l.scope.skus.c, .slice l.scope.cats.A l.scope.cats.n l.scope.cats.c, .int .i64 p.least, .int .i64 p.rate, .int .i64 p.amount, .int .i64 p.buy, .int .i64 p.get, .slice l.parts.A l.parts.n l.parts.c, .slice l.tiers.A l.tiers.n l.tiers.c] 28) = w1 := ⟨_, rfl⟩
  have hb1 : Below w.heap.size w w1 := by rw [<- hw1]; exact (Below.refl _ _).alloc (Nat.le_refl _) _
  have hx : Qu.Blk w1 w.heap.size 28 #[.string p.id, .int .i64 p.kind, .int .i64 p.priority, .string p.group, .string p.code, .bool p.closes, .slice l.scope.skus.A l.scope.skus.n l.scope.skus.c, .slice l.scope.cats.A l.scope.cats.n l.scope.cats.c, .int .i64 p.least, .int .i64 p.rate, .int .i64 p.amount, .int .i64 p.buy, .int .i64 p.get, .slice l.parts.A l.parts.n l.parts.c, .slice l.tiers.A l.tiers.n l.tiers.c] := by rw [<- hw1]; exact Qu.Blk.new w _ _
  have HK := Lib.hid (And.intro hb1 (fun u (hu : Below w1.heap.size w1 u) => hx.below hu))
  have HR := Lib.hid (fun W (hb : Below w1.heap.size w1 W) => hPr W (hb1.trans (hb.mono hb1.size)))
  have HM := Lib.hid (fun W (hb : Below w1.heap.size w1 W) => Ct.may_any A n c us B m d ms _ _ W (row_on (row_on h hb1) hb) hn (row_on (row_on hg hb1) hb) hm)
  have HU := Lib.hid (row_on h hb1)
  have HFi := Lib.hid hf
  have x0 := hx.cell 0; have x1 := hx.cell 1; have x2 := hx.cell 2; have x3 := hx.cell 3; have x4 := hx.cell 4; have x5 := hx.cell 5; have x6 := hx.cell 6; have x7 := hx.cell 7; have x8 := hx.cell 8; have x9 := hx.cell 9; have x10 := hx.cell 10; have x11 := hx.cell 11; have x12 := hx.cell 12; have x13 := hx.cell 13; have x14 := hx.cell 14
  clear hPr h hf hg hm hb hb1 hx
  go_enter Tryz.func12, Tryz.ntmps12
  go_wp2_with (first
    | (go_at_call 31; with_reducible refine (HR.out _ (Below.refl _ _)).mono ?_; rintro e w3 ⟨rfl, hb3⟩; have HO3 := Lib.hid hb3; clear hb3)
    | (at_builtin; refine Kd.wpList_join (F := fun _ => False) (G := (· < w3.heap.size)) (B := w3.heap.size) (n := 0) (m := n) (c := c) (v := .slice none 0 0) (xs := []) (ys := us) (A := A) Ap.Unt.row_t rfl _ _ rfl rfl rfl (Kd.Own.nil _ _ _ _ _) (row_on HU.out HO3.out) HFi.out.1 (fun h => Ap.Unt_rep.2 (Ap.Unt_rep.1 h)) (by omega) (by omega) (Nat.le_refl _) (fun _ h => h.elim) ?_; intro v5 w5 hown hgrow hfr; rw [Nat.zero_add, List.nil_append] at hown; have hb5 : Below w3.heap.size w3 w5 := (Below.refl _ _).grown hgrow (Nat.le_refl _) (fun q hq => by cases hq); obtain ⟨A5, c5, rfl⟩ := hown.value; have HO5 := Lib.hid (And.intro hown hb5); clear hown hgrow hfr hb5))
  refine bodyPost_ret (results_tmp2 rfl _ _ _) rfl ?_
  rw [HAp.out]
  have hs := Nat.le_trans HK.out.1.size HO3.out.size
  exact told2_of (own_down HO5.out.1 hs) (HK.out.1.trans ((HO3.out.trans (HO5.out.2.mono HO3.out.size)).mono HK.out.1.size)) 0
set_option maxHeartbeats 1000000 in
theorem rbuyget_kind (p : Prm) (l : Prm.Lay) (A : Option Addr) (n c : Nat) (us : List Unt) (B : Option Addr) (m d : Nat) (ms : List Int) (w : World) (hPr : ∀ W, Below w.heap.size w W -> Calls Tryz.prog 31 #[.agg #[.string p.id, .int .i64 p.kind, .int .i64 p.priority, .string p.group, .string p.code, .bool p.closes, .slice l.scope.skus.A l.scope.skus.n l.scope.skus.c, .slice l.scope.cats.A l.scope.cats.n l.scope.cats.c, .int .i64 p.least, .int .i64 p.rate, .int .i64 p.amount, .int .i64 p.buy, .int .i64 p.get, .slice l.parts.A l.parts.n l.parts.c, .slice l.tiers.A l.tiers.n l.tiers.c]] W fun e w' => e = .returned (.bool (Pr.promoB p)) /\ Below W.heap.size W w') (h : Row kUnt w (· < w.heap.size) A n us) (hf : Kd.Fit A n c) (hg : Row kInt w (· < w.heap.size) B m ms) (hn : n <= 1000000000000) (hm : m <= 1000000000000) (hb : Pr.promoB p = true) (hk : p.kind ≠ 3) :
    Calls Tryz.prog 12 #[.agg #[.string p.id, .int .i64 p.kind, .int .i64 p.priority, .string p.group, .string p.code, .bool p.closes, .slice l.scope.skus.A l.scope.skus.n l.scope.skus.c, .slice l.scope.cats.A l.scope.cats.n l.scope.cats.c, .int .i64 p.least, .int .i64 p.rate, .int .i64 p.amount, .int .i64 p.buy, .int .i64 p.get, .slice l.parts.A l.parts.n l.parts.c, .slice l.tiers.A l.tiers.n l.tiers.c], .slice A n c, .slice B m d] w fun e w' => Ko.Told2 kUnt 35 w e w' (buygetU p us ms).1 (buygetU p us ms).2 := by
  have HAp : Hid (buygetU p us ms = (us, 0)) := Lib.hid (by
    have e : (p.kind == 3) = false := by rw [beq_eq_false_iff_ne]; exact hk
    unfold buygetU; rw [hb, e]; rfl)
  rw [hb] at hPr
  have HKd := Lib.hid hk
  obtain ⟨w1, hw1⟩ : ∃ w1, w.alloc (.cells #[.string p.id, .int .i64 p.kind, .int .i64 p.priority, .string p.group, .string p.code, .bool p.closes, .slice l.scope.skus.A l.scope.skus.n l.scope.skus.c, .slice l.scope.cats.A l.scope.cats.n l.scope.cats.c, .int .i64 p.least, .int .i64 p.rate, .int .i64 p.amount, .int .i64 p.buy, .int .i64 p.get, .slice l.parts.A l.parts.n l.parts.c, .slice l.tiers.A l.tiers.n l.tiers.c] 28) = w1 := ⟨_, rfl⟩
  have hb1 : Below w.heap.size w w1 := by rw [<- hw1]; exact (Below.refl _ _).alloc (Nat.le_refl _) _
  have hx : Qu.Blk w1 w.heap.size 28 #[.string p.id, .int .i64 p.kind, .int .i64 p.priority, .string p.group, .string p.code, .bool p.closes, .slice l.scope.skus.A l.scope.skus.n l.scope.skus.c, .slice l.scope.cats.A l.scope.cats.n l.scope.cats.c, .int .i64 p.least, .int .i64 p.rate, .int .i64 p.amount, .int .i64 p.buy, .int .i64 p.get, .slice l.parts.A l.parts.n l.parts.c, .slice l.tiers.A l.tiers.n l.tiers.c] := by rw [<- hw1]; exact Qu.Blk.new w _ _
  have HK := Lib.hid (And.intro hb1 (fun u (hu : Below w1.heap.size w1 u) => hx.below hu))
  have HR := Lib.hid (fun W (hb : Below w1.heap.size w1 W) => hPr W (hb1.trans (hb.mono hb1.size)))
  have HM := Lib.hid (fun W (hb : Below w1.heap.size w1 W) => Ct.may_any A n c us B m d ms _ _ W (row_on (row_on h hb1) hb) hn (row_on (row_on hg hb1) hb) hm)
  have HU := Lib.hid (row_on h hb1)
  have HFi := Lib.hid hf
  have hkb : (p.kind == 3) = false := by rw [beq_eq_false_iff_ne]; exact hk
  have x0 := hx.cell 0; have x1 := hx.cell 1; have x2 := hx.cell 2; have x3 := hx.cell 3; have x4 := hx.cell 4; have x5 := hx.cell 5; have x6 := hx.cell 6; have x7 := hx.cell 7; have x8 := hx.cell 8; have x9 := hx.cell 9; have x10 := hx.cell 10; have x11 := hx.cell 11; have x12 := hx.cell 12; have x13 := hx.cell 13; have x14 := hx.cell 14
  clear hPr h hf hg hm hb hb1 hx hk
  go_enter Tryz.func12, Tryz.ntmps12
  go_wp2_with (first
    | (go_at_call 31; with_reducible refine (HR.out _ (Below.refl _ _)).mono ?_; rintro e w3 ⟨rfl, hb3⟩; have y1 := (HK.out.2 w3 hb3).cell 1; have HO3 := Lib.hid hb3; clear hb3)
    | (at_builtin; refine Kd.wpList_join (F := fun _ => False) (G := (· < w3.heap.size)) (B := w3.heap.size) (n := 0) (m := n) (c := c) (v := .slice none 0 0) (xs := []) (ys := us) (A := A) Ap.Unt.row_t rfl _ _ rfl rfl rfl (Kd.Own.nil _ _ _ _ _) (row_on HU.out HO3.out) HFi.out.1 (fun h => Ap.Unt_rep.2 (Ap.Unt_rep.1 h)) (by omega) (by omega) (Nat.le_refl _) (fun _ h => h.elim) ?_; intro v5 w5 hown hgrow hfr; rw [Nat.zero_add, List.nil_append] at hown; have hb5 : Below w3.heap.size w3 w5 := (Below.refl _ _).grown hgrow (Nat.le_refl _) (fun q hq => by cases hq); obtain ⟨A5, c5, rfl⟩ := hown.value; have HO5 := Lib.hid (And.intro hown hb5); clear hown hgrow hfr hb5))
  refine bodyPost_ret (results_tmp2 rfl _ _ _) rfl ?_
  rw [HAp.out]
  have hs := Nat.le_trans HK.out.1.size HO3.out.size
  exact told2_of (own_down HO5.out.1 hs) (HK.out.1.trans ((HO3.out.trans (HO5.out.2.mono HO3.out.size)).mono HK.out.1.size)) 0
set_option maxHeartbeats 1000000 in
theorem rbuyget_not (p : Prm) (l : Prm.Lay) (A : Option Addr) (n c : Nat) (us : List Unt) (B : Option Addr) (m d : Nat) (ms : List Int) (w : World) (hPr : ∀ W, Below w.heap.size w W -> Calls Tryz.prog 31 #[.agg #[.string p.id, .int .i64 p.kind, .int .i64 p.priority, .string p.group, .string p.code, .bool p.closes, .slice l.scope.skus.A l.scope.skus.n l.scope.skus.c, .slice l.scope.cats.A l.scope.cats.n l.scope.cats.c, .int .i64 p.least, .int .i64 p.rate, .int .i64 p.amount, .int .i64 p.buy, .int .i64 p.get, .slice l.parts.A l.parts.n l.parts.c, .slice l.tiers.A l.tiers.n l.tiers.c]] W fun e w' => e = .returned (.bool (Pr.promoB p)) /\ Below W.heap.size W w') (h : Row kUnt w (· < w.heap.size) A n us) (hf : Kd.Fit A n c) (hg : Row kInt w (· < w.heap.size) B m ms) (hn : n <= 1000000000000) (hm : m <= 1000000000000) (hb : Pr.promoB p = true) (hk : p.kind = 3) (hmb : mayB us ms = false) :
    Calls Tryz.prog 12 #[.agg #[.string p.id, .int .i64 p.kind, .int .i64 p.priority, .string p.group, .string p.code, .bool p.closes, .slice l.scope.skus.A l.scope.skus.n l.scope.skus.c, .slice l.scope.cats.A l.scope.cats.n l.scope.cats.c, .int .i64 p.least, .int .i64 p.rate, .int .i64 p.amount, .int .i64 p.buy, .int .i64 p.get, .slice l.parts.A l.parts.n l.parts.c, .slice l.tiers.A l.tiers.n l.tiers.c], .slice A n c, .slice B m d] w fun e w' => Ko.Told2 kUnt 35 w e w' (buygetU p us ms).1 (buygetU p us ms).2 := by
  have HAp : Hid (buygetU p us ms = (us, 0)) := Lib.hid (by unfold buygetU; rw [hb, hmb, Bool.and_false]; rfl)
  rw [hb] at hPr
  have HKd := Lib.hid hk
  obtain ⟨w1, hw1⟩ : ∃ w1, w.alloc (.cells #[.string p.id, .int .i64 p.kind, .int .i64 p.priority, .string p.group, .string p.code, .bool p.closes, .slice l.scope.skus.A l.scope.skus.n l.scope.skus.c, .slice l.scope.cats.A l.scope.cats.n l.scope.cats.c, .int .i64 p.least, .int .i64 p.rate, .int .i64 p.amount, .int .i64 p.buy, .int .i64 p.get, .slice l.parts.A l.parts.n l.parts.c, .slice l.tiers.A l.tiers.n l.tiers.c] 28) = w1 := ⟨_, rfl⟩
  have hb1 : Below w.heap.size w w1 := by rw [<- hw1]; exact (Below.refl _ _).alloc (Nat.le_refl _) _
  have hx : Qu.Blk w1 w.heap.size 28 #[.string p.id, .int .i64 p.kind, .int .i64 p.priority, .string p.group, .string p.code, .bool p.closes, .slice l.scope.skus.A l.scope.skus.n l.scope.skus.c, .slice l.scope.cats.A l.scope.cats.n l.scope.cats.c, .int .i64 p.least, .int .i64 p.rate, .int .i64 p.amount, .int .i64 p.buy, .int .i64 p.get, .slice l.parts.A l.parts.n l.parts.c, .slice l.tiers.A l.tiers.n l.tiers.c] := by rw [<- hw1]; exact Qu.Blk.new w _ _
  have HK := Lib.hid (And.intro hb1 (fun u (hu : Below w1.heap.size w1 u) => hx.below hu))
  have HR := Lib.hid (fun W (hb : Below w1.heap.size w1 W) => hPr W (hb1.trans (hb.mono hb1.size)))
  have HM := Lib.hid (fun W (hb : Below w1.heap.size w1 W) => Ct.may_any A n c us B m d ms _ _ W (row_on (row_on h hb1) hb) hn (row_on (row_on hg hb1) hb) hm)
  have HU := Lib.hid (row_on h hb1)
  have HFi := Lib.hid hf
  simp only [hmb] at HM
  have x0 := hx.cell 0; have x1 := hx.cell 1; have x2 := hx.cell 2; have x3 := hx.cell 3; have x4 := hx.cell 4; have x5 := hx.cell 5; have x6 := hx.cell 6; have x7 := hx.cell 7; have x8 := hx.cell 8; have x9 := hx.cell 9; have x10 := hx.cell 10; have x11 := hx.cell 11; have x12 := hx.cell 12; have x13 := hx.cell 13; have x14 := hx.cell 14
  clear hPr h hf hg hm hb hb1 hx hk hmb
  go_enter Tryz.func12, Tryz.ntmps12
  go_wp2_with (first
    | (go_at_call 31; with_reducible refine (HR.out _ (Below.refl _ _)).mono ?_; rintro e w3 ⟨rfl, hb3⟩; have y1 := (HK.out.2 w3 hb3).cell 1; rw [HKd.out] at y1; have HO3 := Lib.hid hb3; clear hb3)
    | (go_at_call 32; with_reducible refine (HM.out w3 HO3.out).mono ?_; rintro e w4 ⟨rfl, hd4⟩; have HO4 := Lib.hid (HO3.out.trans ((hd4.below w3.heap.size).mono HO3.out.size)); clear hd4)
    | (at_builtin; refine Kd.wpList_join (F := fun _ => False) (G := (· < w4.heap.size)) (B := w4.heap.size) (n := 0) (m := n) (c := c) (v := .slice none 0 0) (xs := []) (ys := us) (A := A) Ap.Unt.row_t rfl _ _ rfl rfl rfl (Kd.Own.nil _ _ _ _ _) (row_on HU.out HO4.out) HFi.out.1 (fun h => Ap.Unt_rep.2 (Ap.Unt_rep.1 h)) (by omega) (by omega) (Nat.le_refl _) (fun _ h => h.elim) ?_; intro v5 w5 hown hgrow hfr; rw [Nat.zero_add, List.nil_append] at hown; have hb5 : Below w4.heap.size w4 w5 := (Below.refl _ _).grown hgrow (Nat.le_refl _) (fun q hq => by cases hq); obtain ⟨A5, c5, rfl⟩ := hown.value; have HO5 := Lib.hid (And.intro hown hb5); clear hown hgrow hfr hb5))
  refine bodyPost_ret (results_tmp2 rfl _ _ _) rfl ?_
  rw [HAp.out]
  have hs := Nat.le_trans HK.out.1.size HO4.out.size
  exact told2_of (own_down HO5.out.1 hs) (HK.out.1.trans ((HO4.out.trans (HO5.out.2.mono HO4.out.size)).mono HK.out.1.size)) 0
end Go.Proofs.YtljmddjlnlmenaaGreat.Dl
