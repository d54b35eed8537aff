/- Deals: the landed Bundle, where nothing is done (made by gen-bundle16.py). -/
import Derived.Test.YtljmddjlnlmenaaGreatPq21
import Derived.Test.YtljmddjlnlmenaaGreatPq26
import Derived.Test.YtljmddjlnlmenaaGreatPq28
set_option maxRecDepth 100000
set_option linter.unusedVariables false

namespace Go.Proofs.YtljmddjlnlmenaaGreat.Dl
open Go.ChangeShapes Go.WideShapes Go.ChangeAt Go.RowKit
open Ap (Unt Tir Prm Prt kUnt kTir kPrt row_Unt row_Tir row_Prt)
open Kd (Kind Row RowT kInt kFlag kList Lst row_int row_list)
open Ko (Out Told Told2 At row_on)
open Ct (nth nth_some netAt netsL sumL UnitsMay PlacesMay May mayB mayB_iff Far take_next lessU SumOk PlacesIn i64_t own_down told2_of Typed)
set_option maxHeartbeats 1000000 in
theorem lbundle_bad (p : Prm) (l : Prm.Lay) (A : Option Addr) (n c : Nat) (us : List Unt) (B : Option Addr) (m d : Nat) (parts : List (List Int)) (w : World) (hPr : ∀ W, Below w.heap.size w W -> Calls Tryz.prog 25 #[.agg #[.string p.id, .int .i64 p.kind, .int .i64 p.priority, .string p.group, .string p.code, .bool p.closes, .slice l.scope.skus.A l.scope.skus.n l.scope.skus.c, .slice l.scope.cats.A l.scope.cats.n l.scope.cats.c, .int .i64 p.least, .int .i64 p.rate, .int .i64 p.amount, .int .i64 p.buy, .int .i64 p.get, .slice l.parts.A l.parts.n l.parts.c, .slice l.tiers.A l.tiers.n l.tiers.c]] W fun e w' => e = .returned (.bool (Pr.promoB p)) /\ Below W.heap.size W w') (hpn : l.parts.n = p.parts.length) (h : Row kUnt w (· < w.heap.size) A n us) (hf : Kd.Fit A n c) (hg : Row (kList kInt) w (· < w.heap.size) B m parts) (hn : n <= 1000000000000) (hm : m <= 1000000000000) (hs : ∀ x ∈ parts, x.length <= 1000000000000) (hb : Pr.promoB p = false) :
    Calls Tryz.prog 13 #[.agg #[.string p.id, .int .i64 p.kind, .int .i64 p.priority, .string p.group, .string p.code, .bool p.closes, .slice l.scope.skus.A l.scope.skus.n l.scope.skus.c, .slice l.scope.cats.A l.scope.cats.n l.scope.cats.c, .int .i64 p.least, .int .i64 p.rate, .int .i64 p.amount, .int .i64 p.buy, .int .i64 p.get, .slice l.parts.A l.parts.n l.parts.c, .slice l.tiers.A l.tiers.n l.tiers.c], .slice A n c, .slice B m d] w fun e w' => Ko.Told2 kUnt 35 w e w' (bundleU p us parts).1 (bundleU p us parts).2 := by
  have HAp : Hid (bundleU p us parts = (us, 0)) := Lib.hid (by unfold bundleU bundleB; rw [hb]; rfl)
  rw [hb] at hPr
  obtain ⟨w1, hw1⟩ : ∃ w1, w.alloc (.cells #[.string p.id, .int .i64 p.kind, .int .i64 p.priority, .string p.group, .string p.code, .bool p.closes, .slice l.scope.skus.A l.scope.skus.n l.scope.skus.c, .slice l.scope.cats.A l.scope.cats.n l.scope.cats.c, .int .i64 p.least, .int .i64 p.rate, .int .i64 p.amount, .int .i64 p.buy, .int .i64 p.get, .slice l.parts.A l.parts.n l.parts.c, .slice l.tiers.A l.tiers.n l.tiers.c] 28) = w1 := ⟨_, rfl⟩
  have hb1 : Below w.heap.size w w1 := by rw [<- hw1]; exact (Below.refl _ _).alloc (Nat.le_refl _) _
  have hx : Qu.Blk w1 w.heap.size 28 #[.string p.id, .int .i64 p.kind, .int .i64 p.priority, .string p.group, .string p.code, .bool p.closes, .slice l.scope.skus.A l.scope.skus.n l.scope.skus.c, .slice l.scope.cats.A l.scope.cats.n l.scope.cats.c, .int .i64 p.least, .int .i64 p.rate, .int .i64 p.amount, .int .i64 p.buy, .int .i64 p.get, .slice l.parts.A l.parts.n l.parts.c, .slice l.tiers.A l.tiers.n l.tiers.c] := by rw [<- hw1]; exact Qu.Blk.new w _ _
  have HK := Lib.hid (And.intro hb1 (fun u (hu : Below w1.heap.size w1 u) => hx.below hu))
  have HR := Lib.hid (fun W (hb : Below w1.heap.size w1 W) => hPr W (hb1.trans (hb.mono hb1.size)))
  have HM := Lib.hid (fun W (hb : Below w1.heap.size w1 W) => partsMay_any p l A n c us B m d parts W hpn (row_on (row_on h hb1) hb) hn (row_on (row_on hg hb1) hb) hm hs)
  have HC := Lib.hid (fun W (hb : Below w1.heap.size w1 W) => Ct.cloneU_any A n c us W (row_on (row_on h hb1) hb) hf hn)
  have x0 := hx.cell 0; have x1 := hx.cell 1; have x2 := hx.cell 2; have x3 := hx.cell 3; have x4 := hx.cell 4; have x5 := hx.cell 5; have x6 := hx.cell 6; have x7 := hx.cell 7; have x8 := hx.cell 8; have x9 := hx.cell 9; have x10 := hx.cell 10; have x11 := hx.cell 11; have x12 := hx.cell 12; have x13 := hx.cell 13; have x14 := hx.cell 14
  clear hPr h hf hg hn hm hb hb1 hx hs hpn
  go_enter Tryz.func13, Tryz.ntmps13
  go_wp2_with (first
    | (go_at_call 25; with_reducible refine (HR.out _ (Below.refl _ _)).mono ?_; rintro e w3 ⟨rfl, hb3⟩; have HO3 := Lib.hid hb3; clear hb3)
    | (go_at_call 27; with_reducible refine (HC.out w3 HO3.out).mono ?_; rintro e w5 ⟨A3, cq, rfl, ho5, hb5⟩; have HO5 := Lib.hid (And.intro ho5 hb5); clear ho5 hb5))
  refine bodyPost_ret (results_tmp2 rfl _ _ _) rfl ?_
  rw [HAp.out]
  have hs := Nat.le_trans HK.out.1.size HO3.out.size
  exact told2_of (own_down HO5.out.1 hs) (HK.out.1.trans ((HO3.out.trans (HO5.out.2.mono HO3.out.size)).mono HK.out.1.size)) 0
set_option maxHeartbeats 1000000 in
theorem lbundle_kind (p : Prm) (l : Prm.Lay) (A : Option Addr) (n c : Nat) (us : List Unt) (B : Option Addr) (m d : Nat) (parts : List (List Int)) (w : World) (hPr : ∀ W, Below w.heap.size w W -> Calls Tryz.prog 25 #[.agg #[.string p.id, .int .i64 p.kind, .int .i64 p.priority, .string p.group, .string p.code, .bool p.closes, .slice l.scope.skus.A l.scope.skus.n l.scope.skus.c, .slice l.scope.cats.A l.scope.cats.n l.scope.cats.c, .int .i64 p.least, .int .i64 p.rate, .int .i64 p.amount, .int .i64 p.buy, .int .i64 p.get, .slice l.parts.A l.parts.n l.parts.c, .slice l.tiers.A l.tiers.n l.tiers.c]] W fun e w' => e = .returned (.bool (Pr.promoB p)) /\ Below W.heap.size W w') (hpn : l.parts.n = p.parts.length) (h : Row kUnt w (· < w.heap.size) A n us) (hf : Kd.Fit A n c) (hg : Row (kList kInt) w (· < w.heap.size) B m parts) (hn : n <= 1000000000000) (hm : m <= 1000000000000) (hs : ∀ x ∈ parts, x.length <= 1000000000000) (hb : Pr.promoB p = true) (hk : p.kind ≠ 4) :
    Calls Tryz.prog 13 #[.agg #[.string p.id, .int .i64 p.kind, .int .i64 p.priority, .string p.group, .string p.code, .bool p.closes, .slice l.scope.skus.A l.scope.skus.n l.scope.skus.c, .slice l.scope.cats.A l.scope.cats.n l.scope.cats.c, .int .i64 p.least, .int .i64 p.rate, .int .i64 p.amount, .int .i64 p.buy, .int .i64 p.get, .slice l.parts.A l.parts.n l.parts.c, .slice l.tiers.A l.tiers.n l.tiers.c], .slice A n c, .slice B m d] w fun e w' => Ko.Told2 kUnt 35 w e w' (bundleU p us parts).1 (bundleU p us parts).2 := by
  have HAp : Hid (bundleU p us parts = (us, 0)) := Lib.hid (by
    have e : (p.kind == 4) = false := by rw [beq_eq_false_iff_ne]; exact hk
    unfold bundleU bundleB; rw [hb, e]; rfl)
  rw [hb] at hPr
  have HKd := Lib.hid hk
  obtain ⟨w1, hw1⟩ : ∃ w1, w.alloc (.cells #[.string p.id, .int .i64 p.kind, .int .i64 p.priority, .string p.group, .string p.code, .bool p.closes, .slice l.scope.skus.A l.scope.skus.n l.scope.skus.c, .slice l.scope.cats.A l.scope.cats.n l.scope.cats.c, .int .i64 p.least, .int .i64 p.rate, .int .i64 p.amount, .int .i64 p.buy, .int .i64 p.get, .slice l.parts.A l.parts.n l.parts.c, .slice l.tiers.A l.tiers.n l.tiers.c] 28) = w1 := ⟨_, rfl⟩
  have hb1 : Below w.heap.size w w1 := by rw [<- hw1]; exact (Below.refl _ _).alloc (Nat.le_refl _) _
  have hx : Qu.Blk w1 w.heap.size 28 #[.string p.id, .int .i64 p.kind, .int .i64 p.priority, .string p.group, .string p.code, .bool p.closes, .slice l.scope.skus.A l.scope.skus.n l.scope.skus.c, .slice l.scope.cats.A l.scope.cats.n l.scope.cats.c, .int .i64 p.least, .int .i64 p.rate, .int .i64 p.amount, .int .i64 p.buy, .int .i64 p.get, .slice l.parts.A l.parts.n l.parts.c, .slice l.tiers.A l.tiers.n l.tiers.c] := by rw [<- hw1]; exact Qu.Blk.new w _ _
  have HK := Lib.hid (And.intro hb1 (fun u (hu : Below w1.heap.size w1 u) => hx.below hu))
  have HR := Lib.hid (fun W (hb : Below w1.heap.size w1 W) => hPr W (hb1.trans (hb.mono hb1.size)))
  have HM := Lib.hid (fun W (hb : Below w1.heap.size w1 W) => partsMay_any p l A n c us B m d parts W hpn (row_on (row_on h hb1) hb) hn (row_on (row_on hg hb1) hb) hm hs)
  have HC := Lib.hid (fun W (hb : Below w1.heap.size w1 W) => Ct.cloneU_any A n c us W (row_on (row_on h hb1) hb) hf hn)
  have hkb : (p.kind == 4) = false := by rw [beq_eq_false_iff_ne]; exact hk
  have x0 := hx.cell 0; have x1 := hx.cell 1; have x2 := hx.cell 2; have x3 := hx.cell 3; have x4 := hx.cell 4; have x5 := hx.cell 5; have x6 := hx.cell 6; have x7 := hx.cell 7; have x8 := hx.cell 8; have x9 := hx.cell 9; have x10 := hx.cell 10; have x11 := hx.cell 11; have x12 := hx.cell 12; have x13 := hx.cell 13; have x14 := hx.cell 14
  clear hPr h hf hg hn hm hb hb1 hx hs hpn hk
  go_enter Tryz.func13, Tryz.ntmps13
  go_wp2_with (first
    | (go_at_call 25; with_reducible refine (HR.out _ (Below.refl _ _)).mono ?_; rintro e w3 ⟨rfl, hb3⟩; have y1 := (HK.out.2 w3 hb3).cell 1; have HO3 := Lib.hid hb3; clear hb3)
    | (go_at_call 27; with_reducible refine (HC.out w3 HO3.out).mono ?_; rintro e w5 ⟨A3, cq, rfl, ho5, hb5⟩; have HO5 := Lib.hid (And.intro ho5 hb5); clear ho5 hb5))
  refine bodyPost_ret (results_tmp2 rfl _ _ _) rfl ?_
  rw [HAp.out]
  have hs := Nat.le_trans HK.out.1.size HO3.out.size
  exact told2_of (own_down HO5.out.1 hs) (HK.out.1.trans ((HO3.out.trans (HO5.out.2.mono HO3.out.size)).mono HK.out.1.size)) 0
set_option maxHeartbeats 1000000 in
theorem lbundle_not (p : Prm) (l : Prm.Lay) (A : Option Addr) (n c : Nat) (us : List Unt) (B : Option Addr) (m d : Nat) (parts : List (List Int)) (w : World) (hPr : ∀ W, Below w.heap.size w W -> Calls Tryz.prog 25 #[.agg #[.string p.id, .int .i64 p.kind, .int .i64 p.priority, .string p.group, .string p.code, .bool p.closes, .slice l.scope.skus.A l.scope.skus.n l.scope.skus.c, .slice l.scope.cats.A l.scope.cats.n l.scope.cats.c, .int .i64 p.least, .int .i64 p.rate, .int .i64 p.amount, .int .i64 p.buy, .int .i64 p.get, .slice l.parts.A l.parts.n l.parts.c, .slice l.tiers.A l.tiers.n l.tiers.c]] W fun e w' => e = .returned (.bool (Pr.promoB p)) /\ Below W.heap.size W w') (hpn : l.parts.n = p.parts.length) (h : Row kUnt w (· < w.heap.size) A n us) (hf : Kd.Fit A n c) (hg : Row (kList kInt) w (· < w.heap.size) B m parts) (hn : n <= 1000000000000) (hm : m <= 1000000000000) (hs : ∀ x ∈ parts, x.length <= 1000000000000) (hb : Pr.promoB p = true) (hk : p.kind = 4) (hmb : (parts.length == p.parts.length && parts.all (mayB us)) = false) :
    Calls Tryz.prog 13 #[.agg #[.string p.id, .int .i64 p.kind, .int .i64 p.priority, .string p.group, .string p.code, .bool p.closes, .slice l.scope.skus.A l.scope.skus.n l.scope.skus.c, .slice l.scope.cats.A l.scope.cats.n l.scope.cats.c, .int .i64 p.least, .int .i64 p.rate, .int .i64 p.amount, .int .i64 p.buy, .int .i64 p.get, .slice l.parts.A l.parts.n l.parts.c, .slice l.tiers.A l.tiers.n l.tiers.c], .slice A n c, .slice B m d] w fun e w' => Ko.Told2 kUnt 35 w e w' (bundleU p us parts).1 (bundleU p us parts).2 := by
  have HAp : Hid (bundleU p us parts = (us, 0)) := Lib.hid (by unfold bundleU bundleB; rw [Bool.and_assoc, hmb, Bool.and_false]; rfl)
  rw [hb] at hPr
  have HKd := Lib.hid hk
  obtain ⟨w1, hw1⟩ : ∃ w1, w.alloc (.cells #[.string p.id, .int .i64 p.kind, .int .i64 p.priority, .string p.group, .string p.code, .bool p.closes, .slice l.scope.skus.A l.scope.skus.n l.scope.skus.c, .slice l.scope.cats.A l.scope.cats.n l.scope.cats.c, .int .i64 p.least, .int .i64 p.rate, .int .i64 p.amount, .int .i64 p.buy, .int .i64 p.get, .slice l.parts.A l.parts.n l.parts.c, .slice l.tiers.A l.tiers.n l.tiers.c] 28) = w1 := ⟨_, rfl⟩
  have hb1 : Below w.heap.size w w1 := by rw [<- hw1]; exact (Below.refl _ _).alloc (Nat.le_refl _) _
  have hx : Qu.Blk w1 w.heap.size 28 #[.string p.id, .int .i64 p.kind, .int .i64 p.priority, .string p.group, .string p.code, .bool p.closes, .slice l.scope.skus.A l.scope.skus.n l.scope.skus.c, .slice l.scope.cats.A l.scope.cats.n l.scope.cats.c, .int .i64 p.least, .int .i64 p.rate, .int .i64 p.amount, .int .i64 p.buy, .int .i64 p.get, .slice l.parts.A l.parts.n l.parts.c, .slice l.tiers.A l.tiers.n l.tiers.c] := by rw [<- hw1]; exact Qu.Blk.new w _ _
  have HK := Lib.hid (And.intro hb1 (fun u (hu : Below w1.heap.size w1 u) => hx.below hu))
  have HR := Lib.hid (fun W (hb : Below w1.heap.size w1 W) => hPr W (hb1.trans (hb.mono hb1.size)))
  have HM := Lib.hid (fun W (hb : Below w1.heap.size w1 W) => partsMay_any p l A n c us B m d parts W hpn (row_on (row_on h hb1) hb) hn (row_on (row_on hg hb1) hb) hm hs)
  have HC := Lib.hid (fun W (hb : Below w1.heap.size w1 W) => Ct.cloneU_any A n c us W (row_on (row_on h hb1) hb) hf hn)
  simp only [hmb] at HM
  have x0 := hx.cell 0; have x1 := hx.cell 1; have x2 := hx.cell 2; have x3 := hx.cell 3; have x4 := hx.cell 4; have x5 := hx.cell 5; have x6 := hx.cell 6; have x7 := hx.cell 7; have x8 := hx.cell 8; have x9 := hx.cell 9; have x10 := hx.cell 10; have x11 := hx.cell 11; have x12 := hx.cell 12; have x13 := hx.cell 13; have x14 := hx.cell 14
  clear hPr h hf hg hn hm hb hb1 hx hs hpn hk hmb
  go_enter Tryz.func13, Tryz.ntmps13
  go_wp2_with (first
    | (go_at_call 25; with_reducible refine (HR.out _ (Below.refl _ _)).mono ?_; rintro e w3 ⟨rfl, hb3⟩; have hz := HK.out.2 w3 hb3; have y0 := hz.cell 0; have y1 := hz.cell 1; have y2 := hz.cell 2; have y3 := hz.cell 3; have y4 := hz.cell 4; have y5 := hz.cell 5; have y6 := hz.cell 6; have y7 := hz.cell 7; have y8 := hz.cell 8; have y9 := hz.cell 9; have y10 := hz.cell 10; have y11 := hz.cell 11; have y12 := hz.cell 12; have y13 := hz.cell 13; have y14 := hz.cell 14; rw [HKd.out] at y1; clear hz; have HO3 := Lib.hid hb3; clear hb3)
    | (go_at_call 36; first | (with_reducible refine (HM.out w3 HO3.out).mono ?_) | (rw [<- HKd.out]; with_reducible refine (HM.out w3 HO3.out).mono ?_); rintro e w4 ⟨rfl, hb4⟩; have HO4 := Lib.hid (HO3.out.trans (hb4.mono HO3.out.size)); clear hb4)
    | (go_at_call 27; with_reducible refine (HC.out w4 HO4.out).mono ?_; rintro e w5 ⟨A3, cq, rfl, ho5, hb5⟩; have HO5 := Lib.hid (And.intro ho5 hb5); clear ho5 hb5))
  refine bodyPost_ret (results_tmp2 rfl _ _ _) rfl ?_
  rw [HAp.out]
  have hs := Nat.le_trans HK.out.1.size HO4.out.size
  exact told2_of (own_down HO5.out.1 hs) (HK.out.1.trans ((HO4.out.trans (HO5.out.2.mono HO4.out.size)).mono HK.out.1.size)) 0
end Go.Proofs.YtljmddjlnlmenaaGreat.Dl
