/- Cuts: the landed Apply, where something is done (made by gen-cut15.py). -/
import Derived.Test.YtacmoanhbkipfaaPq13

set_option maxRecDepth 100000
set_option linter.unusedVariables false
namespace Go.Proofs.Ytacmoanhbkipfaa.Ct
open Go.ChangeShapes Go.WideShapes Go.ChangeAt Go.RowKit
open Ap (Unt Tir Prm kUnt kTir row_Unt row_Tir)
open Kd (Kind Row kInt row_int)
open Ko (Out Told Told2 At row_on)
def setOpn (b : Bool) (u : Unt) : Unt := ⟨u.line, u.net, b⟩
theorem Ls.flag {w wr : World} {g n c : Nat} {xs : List Unt} (h : Ls w wr g n c xs) {k : Nat} {u : Unt} (hu : xs[k]? = some u) (b : Bool) :
    Ls w (wr.setCell ⟨g, k * 3 + 2, none⟩ (.bool b)) g n c (xs.modify k (setOpn b)) := by
  have hlt := h.lt
  have hok := (h.get hu).2.2.2.2
  have h1 := Kd.Own.put (k := k) (j := 2) (x := u) (x' := setOpn b u) (a := u.enc) (u := .bool b) h.own hu (fun h => (Ap.Unt_rep.1 h).1) (by decide) (Ap.Unt_rep.2 ⟨rfl, ⟨hok.line, hok.net⟩⟩) (fun _ h => h.elim)
  rw [modify_at hu]
  exact ⟨h1.1, h.below.setCell hlt _⟩
theorem cut_one {xs : List Unt} {k : Nat} {u : Unt} (h : xs[k]? = some u) (o : Int) (cl : Bool) : (xs.modify k (lessNet o)).modify k (setOpn (!cl)) = xs.modify k (cutOne o cl) := by
  have hl := (List.getElem?_eq_some_iff.1 h).1
  have h2 : (xs.modify k (lessNet o))[k]? = some (lessNet o u) := by rw [List.getElem?_modify, h]; simp
  rw [modify_at h2, modify_at h, modify_at h, List.set_set]
  rfl
theorem less_get {xs : List Unt} {k : Nat} {u : Unt} (h : xs[k]? = some u) (o : Int) : (xs.modify k (lessNet o))[k]? = some (lessNet o u) := by rw [List.getElem?_modify, h]; simp
theorem row_self {w : World} {F : Nat → Prop} {A : Option Addr} {n : Nat} {xs : List Int} (h : Row kInt w F A n xs) : Row kInt w (fun b => ∃ o, A = some ⟨b, o, none⟩) A n xs := ⟨h.len, fun k x hk => by
  obtain ⟨g, o, cs, hA, hF, hl, hr, hc⟩ := h.each k x hk
  exact ⟨g, o, cs, hA, ⟨o, hA⟩, hl, hr, hc⟩⟩
theorem row_other {w : World} {A : Option Addr} {n g i : Nat} {v : Value} {xs : List Int} (h : Row kInt w (fun b => ∃ o, A = some ⟨b, o, none⟩) A n xs) (hne : ∀ o, A ≠ some ⟨g, o, none⟩) : Row kInt (w.setCell ⟨g, i, none⟩ v) (fun b => ∃ o, A = some ⟨b, o, none⟩) A n xs :=
  h.stay fun b ⟨o, hb⟩ => Below.heap_setCell w ⟨g, i, none⟩ v b fun e => by subst e; exact hne o hb
set_option maxHeartbeats 1000000 in
theorem lapply_not (p : Prm) (l : Prm.Lay) (A : Option Addr) (n c : Nat) (us : List Unt) (B : Option Addr) (m d : Nat) (ms : List Int) (w : World) (hPr : ∀ W, Below w.heap.size w W → Calls Try.prog 23 #[.agg #[.string p.id, .int .i64 p.kind, .int .i64 p.priority, .string p.group, .string p.code, .bool p.closes, .slice l.scope.skus.A l.scope.skus.n l.scope.skus.c, .slice l.scope.cats.A l.scope.cats.n l.scope.cats.c, .int .i64 p.least, .int .i64 p.rate, .int .i64 p.amount, .int .i64 p.buy, .int .i64 p.get, .slice l.parts.A l.parts.n l.parts.c, .slice l.tiers.A l.tiers.n l.tiers.c]] W fun e w' => e = .returned (.bool (Pr.promoB p)) ∧ Below W.heap.size W w') (h : Row kUnt w (· < w.heap.size) A n us) (hf : Kd.Fit A n c) (hg : Row kInt w (· < w.heap.size) B m ms) (hn : n ≤ 1000000000000) (hm : m ≤ 1000000000000) (KK f : Nat) (hk : p.kind = (KK : Int)) (hKK : KK < 7) (hent : (#[.nilFunc, .func (.func 18) #[] #[], .func (.func 19) #[] #[], .nilFunc, .nilFunc, .func (.func 20) #[] #[], .func (.func 21) #[] #[]] : Array Value)[KK]? = some (.func (.func f) #[] #[])) (hb : Pr.promoB p = true) (hmb : mayB us ms = false) :
    Calls Try.prog 11 #[.agg #[.string p.id, .int .i64 p.kind, .int .i64 p.priority, .string p.group, .string p.code, .bool p.closes, .slice l.scope.skus.A l.scope.skus.n l.scope.skus.c, .slice l.scope.cats.A l.scope.cats.n l.scope.cats.c, .int .i64 p.least, .int .i64 p.rate, .int .i64 p.amount, .int .i64 p.buy, .int .i64 p.get, .slice l.parts.A l.parts.n l.parts.c, .slice l.tiers.A l.tiers.n l.tiers.c], .slice A n c, .slice B m d] w fun e w' => Ko.Told2 kUnt 41 w e w' (applyU p us ms).1 (applyU p us ms).2 := by
  have HAp : Hid (applyU p us ms = (us, 0)) := Lib.hid (by unfold applyU; rw [hb, hmb]; rfl)
  rw [hb] at hPr
  obtain ⟨w1, hw1⟩ : ∃ w1, w.alloc (.cells #[.string p.id, .int .i64 p.kind, .int .i64 p.priority, .string p.group, .string p.code, .bool p.closes, .slice l.scope.skus.A l.scope.skus.n l.scope.skus.c, .slice l.scope.cats.A l.scope.cats.n l.scope.cats.c, .int .i64 p.least, .int .i64 p.rate, .int .i64 p.amount, .int .i64 p.buy, .int .i64 p.get, .slice l.parts.A l.parts.n l.parts.c, .slice l.tiers.A l.tiers.n l.tiers.c] 28) = w1 := ⟨_, rfl⟩
  have hb1 : Below w.heap.size w w1 := by rw [← hw1]; exact (Below.refl _ _).alloc (Nat.le_refl _) _
  have hx : Qu.Blk w1 w.heap.size 28 #[.string p.id, .int .i64 p.kind, .int .i64 p.priority, .string p.group, .string p.code, .bool p.closes, .slice l.scope.skus.A l.scope.skus.n l.scope.skus.c, .slice l.scope.cats.A l.scope.cats.n l.scope.cats.c, .int .i64 p.least, .int .i64 p.rate, .int .i64 p.amount, .int .i64 p.buy, .int .i64 p.get, .slice l.parts.A l.parts.n l.parts.c, .slice l.tiers.A l.tiers.n l.tiers.c] := by rw [← hw1]; exact Qu.Blk.new w _ _
  obtain ⟨w2, hw2⟩ : ∃ w2, w1.alloc (.cells #[.nilFunc, .func (.func 18) #[] #[], .func (.func 19) #[] #[], .nilFunc, .nilFunc, .func (.func 20) #[] #[], .func (.func 21) #[] #[]] 59) = w2 := ⟨_, rfl⟩
  have hb2 : Below w.heap.size w w2 := by rw [← hw2]; exact hb1.alloc hb1.size _
  have hx2 : Qu.Blk w2 w.heap.size 28 #[.string p.id, .int .i64 p.kind, .int .i64 p.priority, .string p.group, .string p.code, .bool p.closes, .slice l.scope.skus.A l.scope.skus.n l.scope.skus.c, .slice l.scope.cats.A l.scope.cats.n l.scope.cats.c, .int .i64 p.least, .int .i64 p.rate, .int .i64 p.amount, .int .i64 p.buy, .int .i64 p.get, .slice l.parts.A l.parts.n l.parts.c, .slice l.tiers.A l.tiers.n l.tiers.c] := by rw [← hw2]; exact hx.alloc _
  have ht2 : Qu.Blk w2 w1.heap.size 59 #[.nilFunc, .func (.func 18) #[] #[], .func (.func 19) #[] #[], .nilFunc, .nilFunc, .func (.func 20) #[] #[], .func (.func 21) #[] #[]] := by rw [← hw2]; exact Qu.Blk.new w1 _ _
  have HK := Lib.hid (And.intro hb2 (fun u (hu : Below w2.heap.size w2 u) => And.intro (hx2.below hu) (ht2.below hu)))
  have HC := Lib.hid (cloneU_any A n c us w2 (row_on h hb2) hf hn)
  have HR := Lib.hid (fun W (hb : Below w2.heap.size w2 W) => hPr W (hb2.trans (hb.mono hb2.size)))
  have HM := Lib.hid (fun W (hb : Below w2.heap.size w2 W) => lmay_any A n c us B m d ms W (row_on (row_on h hb2) hb) hn (row_on (row_on hg hb2) hb) hm)
  simp only [hmb] at HM
  have HKd := Lib.hid hk
  have HEn := Lib.hid hent
  have hnw := a_way f
  have k7 : ¬ (7 : Int) ≤ (KK : Int) := by omega
  have k8 : (KK : Int) < 7 := by omega
  have k9 : (0 : Int) ≤ (KK : Int) := by omega
  clear hPr h hf hg hb hmb hb1 hx hx2 ht2 hb2 hk hent hn hm
  go_enter Try.func11, Try.ntmps11
  go_wp2_with (first
    | (go_at_call 22; with_reducible refine HC.out.mono ?_; rintro e w3 ⟨A3, cq, rfl, ho3, hb3⟩; have HO3 := Lib.hid (And.intro ho3 hb3); have hk3 := (HK.out.2 w3 hb3).1; have x0 := hk3.cell 0; have x1 := hk3.cell 1; have x2 := hk3.cell 2; have x3 := hk3.cell 3; have x4 := hk3.cell 4; have x5 := hk3.cell 5; have x6 := hk3.cell 6; have x7 := hk3.cell 7; have x8 := hk3.cell 8; have x9 := hk3.cell 9; have x10 := hk3.cell 10; have x11 := hk3.cell 11; have x12 := hk3.cell 12; have x13 := hk3.cell 13; have x14 := hk3.cell 14; clear hk3 ho3 hb3)
    | (go_at_call 23; with_reducible refine (HR.out w3 HO3.out.2).mono ?_; rintro e w4 ⟨rfl, hb4⟩; have HO4 := Lib.hid (And.intro (HO3.out.1.later hb4) (HO3.out.2.trans (hb4.mono HO3.out.2.size))); have hk4 := HK.out.2 w4 HO4.out.2; have y1 := hk4.1.cell 1; rw [HKd.out] at y1; have yt := (hk4.2.cell KK).trans HEn.out; clear hk4 hb4)
    | (go_at_call 17; with_reducible refine (HM.out w4 HO4.out.2).mono ?_; rintro e w5 ⟨rfl, hb5⟩; have HO5 := Lib.hid (And.intro (HO4.out.1.later hb5) (HO4.out.2.trans (hb5.mono HO4.out.2.size))); clear hb5))
  refine bodyPost_ret (results_tmp2 rfl _ _ _) rfl ?_
  rw [HAp.out]
  exact told2_of (own_down HO5.out.1 HK.out.1.size) (HK.out.1.trans (HO5.out.2.mono HK.out.1.size)) 0
set_option maxHeartbeats 4000000 in
theorem lapply_yes (p : Prm) (l : Prm.Lay) (A : Option Addr) (n c : Nat) (us : List Unt) (B : Option Addr) (m d : Nat) (ms : List Int) (w : World) (hPr : ∀ W, Below w.heap.size w W → Calls Try.prog 23 #[.agg #[.string p.id, .int .i64 p.kind, .int .i64 p.priority, .string p.group, .string p.code, .bool p.closes, .slice l.scope.skus.A l.scope.skus.n l.scope.skus.c, .slice l.scope.cats.A l.scope.cats.n l.scope.cats.c, .int .i64 p.least, .int .i64 p.rate, .int .i64 p.amount, .int .i64 p.buy, .int .i64 p.get, .slice l.parts.A l.parts.n l.parts.c, .slice l.tiers.A l.tiers.n l.tiers.c]] W fun e w' => e = .returned (.bool (Pr.promoB p)) ∧ Below W.heap.size W w') (h : Row kUnt w (· < w.heap.size) A n us) (hf : Kd.Fit A n c) (hg : Row kInt w (· < w.heap.size) B m ms) (hn : n ≤ 1000000000000) (hm : m ≤ 1000000000000) (KK f : Nat) (hk : p.kind = (KK : Int)) (hKK : KK < 7) (hent : (#[.nilFunc, .func (.func 18) #[] #[], .func (.func 19) #[] #[], .nilFunc, .nilFunc, .func (.func 20) #[] #[], .func (.func 21) #[] #[]] : Array Value)[KK]? = some (.func (.func f) #[] #[])) (hb : Pr.promoB p = true) (hmb : mayB us ms = true) (hcall : ∀ (args : Array Value) (W : World), (callFunc f args).run Try.prog W = .ok (.enter f args) W)
    (hway : ∀ (A5 : Option Addr) (c5 : Nat) (W : World), Below w.heap.size w W → Row kInt W (· < W.heap.size) A5 (netsL us ms).length (netsL us ms) → Calls Try.prog f #[.agg #[.string p.id, .int .i64 p.kind, .int .i64 p.priority, .string p.group, .string p.code, .bool p.closes, .slice l.scope.skus.A l.scope.skus.n l.scope.skus.c, .slice l.scope.cats.A l.scope.cats.n l.scope.cats.c, .int .i64 p.least, .int .i64 p.rate, .int .i64 p.amount, .int .i64 p.buy, .int .i64 p.get, .slice l.parts.A l.parts.n l.parts.c, .slice l.tiers.A l.tiers.n l.tiers.c, .slice A5 (netsL us ms).length c5]] W fun e w' => ReadT W e w' (offsL p (netsL us ms))) :
    Calls Try.prog 11 #[.agg #[.string p.id, .int .i64 p.kind, .int .i64 p.priority, .string p.group, .string p.code, .bool p.closes, .slice l.scope.skus.A l.scope.skus.n l.scope.skus.c, .slice l.scope.cats.A l.scope.cats.n l.scope.cats.c, .int .i64 p.least, .int .i64 p.rate, .int .i64 p.amount, .int .i64 p.buy, .int .i64 p.get, .slice l.parts.A l.parts.n l.parts.c, .slice l.tiers.A l.tiers.n l.tiers.c], .slice A n c, .slice B m d] w fun e w' => Ko.Told2 kUnt 41 w e w' (applyU p us ms).1 (applyU p us ms).2 := by
  have HMy := mayB_iff.1 hmb
  have HAp : Hid (applyU p us ms = lessU us ms (offsL p (netsL us ms)) p.closes) := Lib.hid (by unfold applyU; rw [hb, hmb]; rfl)
  rw [hb] at hPr
  obtain ⟨w1, hw1⟩ : ∃ w1, w.alloc (.cells #[.string p.id, .int .i64 p.kind, .int .i64 p.priority, .string p.group, .string p.code, .bool p.closes, .slice l.scope.skus.A l.scope.skus.n l.scope.skus.c, .slice l.scope.cats.A l.scope.cats.n l.scope.cats.c, .int .i64 p.least, .int .i64 p.rate, .int .i64 p.amount, .int .i64 p.buy, .int .i64 p.get, .slice l.parts.A l.parts.n l.parts.c, .slice l.tiers.A l.tiers.n l.tiers.c] 28) = w1 := ⟨_, rfl⟩
  have hb1 : Below w.heap.size w w1 := by rw [← hw1]; exact (Below.refl _ _).alloc (Nat.le_refl _) _
  have hx : Qu.Blk w1 w.heap.size 28 #[.string p.id, .int .i64 p.kind, .int .i64 p.priority, .string p.group, .string p.code, .bool p.closes, .slice l.scope.skus.A l.scope.skus.n l.scope.skus.c, .slice l.scope.cats.A l.scope.cats.n l.scope.cats.c, .int .i64 p.least, .int .i64 p.rate, .int .i64 p.amount, .int .i64 p.buy, .int .i64 p.get, .slice l.parts.A l.parts.n l.parts.c, .slice l.tiers.A l.tiers.n l.tiers.c] := by rw [← hw1]; exact Qu.Blk.new w _ _
  obtain ⟨w2, hw2⟩ : ∃ w2, w1.alloc (.cells #[.nilFunc, .func (.func 18) #[] #[], .func (.func 19) #[] #[], .nilFunc, .nilFunc, .func (.func 20) #[] #[], .func (.func 21) #[] #[]] 59) = w2 := ⟨_, rfl⟩
  have hb2 : Below w.heap.size w w2 := by rw [← hw2]; exact hb1.alloc hb1.size _
  have hx2 : Qu.Blk w2 w.heap.size 28 #[.string p.id, .int .i64 p.kind, .int .i64 p.priority, .string p.group, .string p.code, .bool p.closes, .slice l.scope.skus.A l.scope.skus.n l.scope.skus.c, .slice l.scope.cats.A l.scope.cats.n l.scope.cats.c, .int .i64 p.least, .int .i64 p.rate, .int .i64 p.amount, .int .i64 p.buy, .int .i64 p.get, .slice l.parts.A l.parts.n l.parts.c, .slice l.tiers.A l.tiers.n l.tiers.c] := by rw [← hw2]; exact hx.alloc _
  have ht2 : Qu.Blk w2 w1.heap.size 59 #[.nilFunc, .func (.func 18) #[] #[], .func (.func 19) #[] #[], .nilFunc, .nilFunc, .func (.func 20) #[] #[], .func (.func 21) #[] #[]] := by rw [← hw2]; exact Qu.Blk.new w1 _ _
  have HK := Lib.hid (And.intro hb2 (fun u (hu : Below w2.heap.size w2 u) => And.intro (hx2.below hu) (ht2.below hu)))
  have HC := Lib.hid (cloneU_any A n c us w2 (row_on h hb2) hf hn)
  have HR := Lib.hid (fun W (hb : Below w2.heap.size w2 W) => hPr W (hb2.trans (hb.mono hb2.size)))
  have HM := Lib.hid (fun W (hb : Below w2.heap.size w2 W) => lmay_any A n c us B m d ms W (row_on (row_on h hb2) hb) hn (row_on (row_on hg hb2) hb) hm)
  simp only [hmb] at HM
  have hn5 : n ≤ 100000 := by rw [← h.len]; exact HMy.units.few
  have hm5 : m ≤ 100000 := by rw [← hg.len]; exact Nat.le_trans HMy.places.few HMy.units.few
  have hin : PlacesIn n ms := by rw [← h.len]; exact HMy.places.in_
  have hno := nets_ok HMy
  have hos := offs_fine hb hno
  have hfs := fine_sums hno hos
  have hfl := fine_less HMy hos
  have hxl : (netsL us ms).length = m := by unfold netsL; rw [List.length_map]; exact hg.len
  have HNt2 := fun (w0 W : World) (h1 : Row kUnt w0 (· < w0.heap.size) A n us) (h2 : Row kInt w0 (· < w0.heap.size) B m ms) (hb : Below w0.heap.size w0 W) => lnets_any A n c us B m d ms W (row_on h1 hb) (row_on h2 hb) hm5 hin
  unfold Ko.Told at HNt2
  have HWy2 := fun (W : World) (A5 : Option Addr) (c5 : Nat) (hW : Below w.heap.size w W) (hr : Row kInt W (· < W.heap.size) A5 (netsL us ms).length (netsL us ms)) => hway A5 c5 W hW hr
  unfold ReadT at HWy2
  simp only [hk] at HWy2
  obtain ⟨xs, hxs⟩ : ∃ z, netsL us ms = z := ⟨_, rfl⟩
  simp only [hxs] at HNt2 HWy2 hno hos hfs hfl hxl HAp
  obtain ⟨os, hos2⟩ : ∃ z, offsL p xs = z := ⟨_, rfl⟩
  simp only [hos2] at HWy2 hos hfs hfl HAp
  obtain ⟨q, hq⟩ : ∃ z, os.length = z := ⟨_, rfl⟩
  simp only [hxl] at HNt2 HWy2
  simp only [hq] at HWy2
  have hqm : q ≤ m := by rw [← hq, ← hxl]; exact hfs.2
  have HLq := Lib.hid hq
  have HLm := Lib.hid hg.len
  have HLu := Lib.hid h.len
  have HFi := Lib.hid (And.intro hos (And.intro hfs (And.intro hfl hxl)))
  have HMa := Lib.hid HMy
  have HU1 := Lib.hid (row_on h hb2)
  have HG1 := Lib.hid (row_on hg hb2)
  have HIn := Lib.hid hin
  have HKd := Lib.hid hk
  have HEn := Lib.hid hent
  have HNt3 := Lib.hid HNt2
  have HWy3 := Lib.hid HWy2
  have hnw := a_way f
  have k7 : ¬ (7 : Int) ≤ (KK : Int) := by omega
  have k8 : (KK : Int) < 7 := by omega
  have k9 : (0 : Int) ≤ (KK : Int) := by omega
  clear hPr h hf hg hb hmb hb1 hx hx2 ht2 hb2 hk hent hn hm hway HNt2 HWy2 hno hos hfs hfl hxl hxs hos2 hq HMy hin
  go_enter Try.func11, Try.ntmps11
  go_wp2_with (first
    | (go_at_call 22; with_reducible refine HC.out.mono ?_; rintro e w3 ⟨A3, cq, rfl, ho3, hb3⟩; have HO3 := Lib.hid (And.intro ho3 hb3); have hk3 := (HK.out.2 w3 hb3).1; have x0 := hk3.cell 0; have x1 := hk3.cell 1; have x2 := hk3.cell 2; have x3 := hk3.cell 3; have x4 := hk3.cell 4; have x5 := hk3.cell 5; have x6 := hk3.cell 6; have x7 := hk3.cell 7; have x8 := hk3.cell 8; have x9 := hk3.cell 9; have x10 := hk3.cell 10; have x11 := hk3.cell 11; have x12 := hk3.cell 12; have x13 := hk3.cell 13; have x14 := hk3.cell 14; clear hk3 ho3 hb3)
    | (go_at_call 23; with_reducible refine (HR.out w3 HO3.out.2).mono ?_; rintro e w4 ⟨rfl, hb4⟩; have HO4 := Lib.hid (And.intro (HO3.out.1.later hb4) (HO3.out.2.trans (hb4.mono HO3.out.2.size))); have hk4 := HK.out.2 w4 HO4.out.2; have y1 := hk4.1.cell 1; rw [HKd.out] at y1; have yt := (hk4.2.cell KK).trans HEn.out; clear hk4 hb4)
    | (go_at_call 17; with_reducible refine (HM.out w4 HO4.out.2).mono ?_; rintro e w5 ⟨rfl, hb5⟩; have HO5 := Lib.hid (And.intro (HO4.out.1.later hb5) (HO4.out.2.trans (hb5.mono HO4.out.2.size))); clear hb5))
  clear x0 x1 x2 x3 x4 x5 x6 x7 x8 x9 x10 x11 x12 x13 x14 y1 yt HO3 HO4 HM HR HC
  have hk5 := HK.out.2 w5 HO5.out.2
  have HNt := Lib.hid (fun W (hW : Below w5.heap.size w5 W) => HNt3.out w5 W (row_on HU1.out HO5.out.2) (row_on HG1.out HO5.out.2) hW)
  have HWy := Lib.hid (fun W A5 c5 (hW : Below w5.heap.size w5 W) hr => HWy3.out W A5 c5 (HK.out.1.trans ((HO5.out.2.trans (hW.mono HO5.out.2.size)).mono HK.out.1.size)) hr)
  have hl5 := hk5.1.lt
  have hl6 := hk5.2.lt
  have e1 := (hk5.1.cell 1)
  have et := (hk5.2.cell KK).trans HEn.out
  rw [show (#[.string p.id, .int .i64 p.kind, .int .i64 p.priority, .string p.group, .string p.code, .bool p.closes, .slice l.scope.skus.A l.scope.skus.n l.scope.skus.c, .slice l.scope.cats.A l.scope.cats.n l.scope.cats.c, .int .i64 p.least, .int .i64 p.rate, .int .i64 p.amount, .int .i64 p.buy, .int .i64 p.get, .slice l.parts.A l.parts.n l.parts.c, .slice l.tiers.A l.tiers.n l.tiers.c] : Array Value)[1]? = some (.int .i64 p.kind) from rfl, HKd.out] at e1
  have cc0 : ∀ u, Below w5.heap.size w5 u → u.cell? ⟨w.heap.size, 0, none⟩ = some (.string p.id) := fun u hu => (hu.cell (p := ⟨w.heap.size, _, none⟩) hl5).trans (hk5.1.cell 0)
  have cc1 : ∀ u, Below w5.heap.size w5 u → u.cell? ⟨w.heap.size, 1, none⟩ = some (Value.int .i64 (KK : Int)) := fun u hu => (hu.cell (p := ⟨w.heap.size, _, none⟩) hl5).trans e1
  have cc2 : ∀ u, Below w5.heap.size w5 u → u.cell? ⟨w.heap.size, 2, none⟩ = some (.int .i64 p.priority) := fun u hu => (hu.cell (p := ⟨w.heap.size, _, none⟩) hl5).trans (hk5.1.cell 2)
  have cc3 : ∀ u, Below w5.heap.size w5 u → u.cell? ⟨w.heap.size, 3, none⟩ = some (.string p.group) := fun u hu => (hu.cell (p := ⟨w.heap.size, _, none⟩) hl5).trans (hk5.1.cell 3)
  have cc4 : ∀ u, Below w5.heap.size w5 u → u.cell? ⟨w.heap.size, 4, none⟩ = some (.string p.code) := fun u hu => (hu.cell (p := ⟨w.heap.size, _, none⟩) hl5).trans (hk5.1.cell 4)
  have cc5 : ∀ u, Below w5.heap.size w5 u → u.cell? ⟨w.heap.size, 5, none⟩ = some (.bool p.closes) := fun u hu => (hu.cell (p := ⟨w.heap.size, _, none⟩) hl5).trans (hk5.1.cell 5)
  have cc6 : ∀ u, Below w5.heap.size w5 u → u.cell? ⟨w.heap.size, 6, none⟩ = some (.slice l.scope.skus.A l.scope.skus.n l.scope.skus.c) := fun u hu => (hu.cell (p := ⟨w.heap.size, _, none⟩) hl5).trans (hk5.1.cell 6)
  have cc7 : ∀ u, Below w5.heap.size w5 u → u.cell? ⟨w.heap.size, 7, none⟩ = some (.slice l.scope.cats.A l.scope.cats.n l.scope.cats.c) := fun u hu => (hu.cell (p := ⟨w.heap.size, _, none⟩) hl5).trans (hk5.1.cell 7)
  have cc8 : ∀ u, Below w5.heap.size w5 u → u.cell? ⟨w.heap.size, 8, none⟩ = some (.int .i64 p.least) := fun u hu => (hu.cell (p := ⟨w.heap.size, _, none⟩) hl5).trans (hk5.1.cell 8)
  have cc9 : ∀ u, Below w5.heap.size w5 u → u.cell? ⟨w.heap.size, 9, none⟩ = some (.int .i64 p.rate) := fun u hu => (hu.cell (p := ⟨w.heap.size, _, none⟩) hl5).trans (hk5.1.cell 9)
  have cc10 : ∀ u, Below w5.heap.size w5 u → u.cell? ⟨w.heap.size, 10, none⟩ = some (.int .i64 p.amount) := fun u hu => (hu.cell (p := ⟨w.heap.size, _, none⟩) hl5).trans (hk5.1.cell 10)
  have cc11 : ∀ u, Below w5.heap.size w5 u → u.cell? ⟨w.heap.size, 11, none⟩ = some (.int .i64 p.buy) := fun u hu => (hu.cell (p := ⟨w.heap.size, _, none⟩) hl5).trans (hk5.1.cell 11)
  have cc12 : ∀ u, Below w5.heap.size w5 u → u.cell? ⟨w.heap.size, 12, none⟩ = some (.int .i64 p.get) := fun u hu => (hu.cell (p := ⟨w.heap.size, _, none⟩) hl5).trans (hk5.1.cell 12)
  have cc13 : ∀ u, Below w5.heap.size w5 u → u.cell? ⟨w.heap.size, 13, none⟩ = some (.slice l.parts.A l.parts.n l.parts.c) := fun u hu => (hu.cell (p := ⟨w.heap.size, _, none⟩) hl5).trans (hk5.1.cell 13)
  have cc14 : ∀ u, Below w5.heap.size w5 u → u.cell? ⟨w.heap.size, 14, none⟩ = some (.slice l.tiers.A l.tiers.n l.tiers.c) := fun u hu => (hu.cell (p := ⟨w.heap.size, _, none⟩) hl5).trans (hk5.1.cell 14)
  have ct : ∀ u, Below w5.heap.size w5 u → u.cell? ⟨w1.heap.size, KK, none⟩ = some (.func (.func f) #[] #[]) := fun u hu => (hu.cell (p := ⟨w1.heap.size, _, none⟩) hl6).trans et
  clear hk5 hl5 hl6 e1 et hnw
  refine wp_region_held_drew (S := fun u => Below w5.heap.size w5 u) (by kernel_rfl) ((Below.refl _ _).drew) (fun hS0 => ?_)
  refine pkT 0 39 hS0 ?_
  try simp only [Act.put, pkA, pkB, pkC]
  refine pkT 1 40 hS0 ?_
  try simp only [Act.put, pkA, pkB, pkC]
  refine pkT 2 41 hS0 ?_
  try simp only [Act.put, pkA, pkB, pkC]
  refine pkT 3 42 hS0 ?_
  try simp only [Act.put, pkA, pkB, pkC]
  refine pkT 4 43 hS0 ?_
  try simp only [Act.put, pkA, pkB, pkC]
  refine pkT 5 44 hS0 ?_
  try simp only [Act.put, pkA, pkB, pkC]
  refine pkT 6 45 hS0 ?_
  try simp only [Act.put, pkA, pkB, pkC]
  refine wpAnyH_ready (rs := [7]) (by kernel_rfl) (by simp) ?_
  refine AllReadyH.cons (o := ⟨some 46, _, _, _, _, _⟩) rfl (fun K hK => ?_) AllReadyH.nil
  go_simp
  refine (HNt.out _ hS0).mono ?_
  rintro e wa ⟨A5, c5, rfl, ho5, hb5⟩
  have hya : Below w5.heap.size w5 wa := Below.trans hS0 (hb5.mono (Below.size hS0))
  go_wp2_with fail
  refine hK.out _ _ (hya) (fun hS1 => ?_)
  clear hK K
  try simp only [Act.put, pkA, pkB, pkC]
  refine pkT 8 47 hS1 ?_
  try simp only [Act.put, pkA, pkB, pkC]
  refine wpAnyH_ready (rs := [9]) (by kernel_rfl) (by simp) ?_
  refine AllReadyH.cons (o := ⟨some 48, _, _, _, _, _⟩) rfl (fun K hK => ?_) AllReadyH.nil
  go_simp
  refine (HWy.out _ A5 c5 hya ho5.read).mono ?_
  rintro e wb ⟨A6, c6, rfl, hr6, hb6, ht6⟩
  have hyb : Below w5.heap.size w5 wb := hya.trans (hb6.mono hya.size)
  go_wp2_with fail
  refine hK.out _ _ (hyb) (fun hS2 => ?_)
  clear hK K
  try simp only [Act.put, pkA, pkB, pkC]
  refine pkT 10 10 hS2 ?_
  try simp only [Act.put, pkA, pkB, pkC]
  refine wpAnyH_done (by kernel_rfl) ?_ _
  have HB6 := Lib.hid (And.intro hyb (And.intro hr6 ht6))
  clear ho5 hb5 hya hr6 hb6 ht6 hyb
  have HS1 := Lib.hid (lsum_any A6 q c6 os _ wb HB6.out.2.1 (by have := HLm.out; have := HLq.out; omega) HFi.out.2.1.1)
  obtain ⟨S, hS⟩ : ∃ z, sumL os = z := ⟨_, rfl⟩
  rw [hS] at HS1
  have HSm := Lib.hid hS
  obtain ⟨z, hz⟩ : ∃ z, (S == 0) = z := ⟨_, rfl⟩
  have HZ := Lib.hid hz
  clear hS cc0 cc1 cc2 cc3 cc4 cc6 cc7 cc8 cc9 cc10 cc11 cc12 cc13 cc14 ct
  cases z with
  | true =>
    have HE : Hid (lessU us ms os p.closes = (us, 0)) := Lib.hid (by unfold lessU; rw [if_pos (by rw [HSm.out]; simpa using HZ.out)])
    go_wp2_with (go_at_call 25; with_reducible refine HS1.out.mono ?_; rintro e wz ⟨rfl, hw⟩; obtain rfl := hw)
    refine bodyPost_ret (results_tmp2 rfl _ _ _) rfl ?_
    rw [HAp.out, HE.out]
    exact told2_of (own_down (HO5.out.1.later HB6.out.1) HK.out.1.size) (HK.out.1.trans ((HO5.out.2.trans (HB6.out.1.mono HO5.out.2.size)).mono HK.out.1.size)) 0
  | false =>
    have hS0 : ¬ S = 0 := by simpa using HZ.out
    have hln : os.length = m := by
      rcases HFi.out.1 with h9 | h9
      · rw [h9.1, HFi.out.2.2.2]
      · exact absurd (by have := HSm.out; rw [h9] at this; exact this.symm) hS0
    obtain rfl : q = m := by rw [← HLq.out, hln]
    have hm0 : 0 < q := by
      rcases Nat.eq_zero_or_pos q with h0 | h0
      · have : os = [] := List.eq_nil_of_length_eq_zero (by rw [hln]; exact h0)
        have h2 := HSm.out
        rw [this] at h2
        exact absurd h2.symm hS0
      · exact h0
    have hn0 : 0 < n := by
      obtain ⟨x, hx⟩ := HG1.out.get hm0
      have := HIn.out 0 x hx
      omega
    have HE : Hid (applyU p us ms = (cutK us ms os p.closes q, S)) := Lib.hid (by
      rw [HAp.out]
      have h8 : sumL os ≠ 0 := by rw [HSm.out]; exact hS0
      refine Prod.ext ?_ ?_
      · rw [← cutK_less HMa.out.places (by rw [hln, HLm.out]) h8, HLm.out]
      · unfold lessU; rw [if_neg h8]; exact HSm.out)
    obtain ⟨g, hg, hgb, _⟩ := HO5.out.1.first hn0
    subst hg
    have HLs : Hid (Ls w2 wb g n cq (cutK us ms os p.closes 0)) := Lib.hid ⟨HO5.out.1.later HB6.out.1, HO5.out.2.trans (HB6.out.1.mono HO5.out.2.size)⟩
    obtain ⟨cu, hcu⟩ := own_typed HLs.out.own rfl
    have HNe : Hid (∀ o, A6 ≠ some ⟨g, o, none⟩) := Lib.hid (fun o h9 => by
      obtain ⟨cs, hcs⟩ := HB6.out.2.2 g o h9
      rw [hcs] at hcu
      injection hcu with hcu
      injection hcu with _ h7 _
      cases h7)
    have HQ0 := Lib.hid (row_self HB6.out.2.1)
    have HgL := Lib.hid (Nat.le_trans HK.out.1.size hgb)
    have c5' : ∀ u, Below w2.heap.size w2 u → u.cell? ⟨w.heap.size, 5, none⟩ = some (.bool p.closes) := fun u hu => (HK.out.2 u hu).1.cell 5
    clear hS0 hgb hcu hln cc5
    go_wp2_with (go_at_call 25; with_reducible refine HS1.out.mono ?_; rintro e wz ⟨rfl, hw⟩; obtain rfl := hw)
    clear HS1
    go_loopw [56] (fun s11 wr => ∃ k : Nat, s11 = .int .i64 k ∧ k ≤ q ∧ Hid (Ls w2 wr g n cq (cutK us ms os p.closes k) ∧ Row kInt wr (fun b => ∃ o, A6 = some ⟨b, o, none⟩) A6 q os)) (fun s11 _ => q - (intOf s11).toNat)
    case atStart => exact ⟨0, rfl, by omega, Lib.hid ⟨HLs.out, HQ0.out⟩⟩
    case round =>
      clear HLs HQ0
      obtain ⟨k, rfl, hk, HO⟩ := hrel
      have kk : (0 : Int) ≤ (k : Int) := by omega
      by_cases hlt : k < q
      · obtain ⟨t0, ht0⟩ := HG1.out.get hlt
        obtain ⟨x0, x1⟩ := HIn.out k t0 ht0
        obtain ⟨t, ht⟩ : ∃ t : Nat, t0 = (t : Int) := ⟨t0.toNat, by omega⟩
        subst ht
        have htn : t < n := by omega
        obtain ⟨o, ho⟩ := HO.out.2.get hlt
        obtain ⟨u, hu⟩ := HU1.out.get htn
        have hus : (cutK us ms os p.closes k)[t]? = some u := by
          have := cutK_at (us := us) (os := os) (cl := p.closes) HMa.out.places.far ht0 k (Nat.le_refl k)
          rw [Int.toNat_natCast] at this
          rw [this, hu]
        obtain ⟨v, hv⟩ : ∃ v, u.net - o = v := ⟨_, rfl⟩
        have hvr : -9223372036854775808 ≤ v ∧ v ≤ 9223372036854775807 := by rw [← hv]; exact HFi.out.2.2.1 k (t : Int) o u ht0 ho (by rw [Int.toNat_natCast]; exact hu)
        have wv : IntKind.i64.wrap (u.net - o) = v := by rw [hv]; exact IntWalk.i64_in _ (by omega)
        have hcut : cutK us ms os p.closes (k + 1) = (cutK us ms os p.closes k).modify t (cutOne o p.closes) := by rw [cutK, nth_some ht0, nth_some ho, Int.toNat_natCast]
        have HXm := Lib.hid (HO.out.1.drew.less hus hv hvr)
        have hM := (HO.out.1.less hus hv hvr).drew
        obtain ⟨Wm, hWm⟩ : ∃ Wm, (wr.setCell ⟨g, t * 3 + 1, none⟩ (.int .i64 v)).drew = Wm := ⟨_, rfl⟩
        have hRm : Row kInt Wm (fun b => ∃ o, A6 = some ⟨b, o, none⟩) A6 q os := by
          rw [← hWm]
          exact (row_other HO.out.2 HNe.out).stay (fun b _ => rfl)
        rw [hWm] at hM
        have hme := less_get hus o
        obtain ⟨_, m2, _, mf2, _⟩ := hM.get hme
        have m2' : Wm.cell? ⟨g, t * 3 + 2, none⟩ = some (.bool u.opn) := m2
        have m5 := c5' Wm hM.below
        have hE := hM.flag hme (!p.closes)
        rw [cut_one hus o p.closes, ← hcut] at hE
        have HXe := Lib.hid (And.intro hE (row_other (i := t * 3 + 2) (v := .bool (!p.closes)) hRm HNe.out))
        have HWm := Lib.hid hWm
        obtain ⟨d2, _, df2, _, _⟩ := HO.out.1.get hus
        obtain ⟨g1, o1, rfl, hg1, _, _, a1⟩ := row_int HG1.out ht0
        obtain ⟨g6, o6, rfl, _, _, _, d3⟩ := row_int HO.out.2 ho
        have d1 : wr.cell? ⟨g1, o1 + k, none⟩ = some (.int .i64 (t : Int)) := (HO.out.1.below.cell (p := ⟨g1, _, none⟩) hg1).trans a1
        have k1 : (k : Int) < (q : Int) := by omega
        have k2 : (k : Int) < (n : Int) ∨ True := .inr trivial
        have t0 : (0 : Int) ≤ (t : Int) := by omega
        have t1 : (t : Int) < (n : Int) := by omega
        clear ht0 ho hu hus hv hvr hcut hM hRm hme m2 hE hWm a1 hg1 x0 x1 k2
        go_wp2_with fail
        refine wp_region_held_drew (S := fun u => Below w2.heap.size w2 u) (by kernel_rfl) (HO.out.1.below.drew) (fun hS0 => ?_)
        refine pkT 0 61 hS0 ?_
        try simp only [Act.put, pkA, pkB, pkC]
        refine pkT 1 62 hS0 ?_
        try simp only [Act.put, pkA, pkB, pkC]
        refine pkT 2 63 hS0 ?_
        try simp only [Act.put, pkA, pkB, pkC]
        refine pkT 3 64 hS0 ?_
        try simp only [Act.put, pkA, pkB, pkC]
        refine pkT 5 66 hS0 ?_
        try simp only [Act.put, pkA, pkB, pkC]
        refine pkT 6 67 hS0 ?_
        try simp only [Act.put, pkA, pkB, pkC]
        refine pkT 7 68 hS0 ?_
        try simp only [Act.put, pkA, pkB, pkC]
        refine wpAnyH_ready (rs := [4, 8]) (by kernel_rfl) (by simp) ?_
        refine AllReadyH.cons (o := ⟨some 65, _, _, _, _, _⟩) rfl (fun K hK => ?_) ?_
        ·
          go_simp
          refine hK.out _ _ (hS0) (fun hS1 => ?_)
          clear hK K
          try simp only [Act.put, pkA, pkB, pkC]
          refine wpAnyH_ready (rs := [8]) (by kernel_rfl) (by simp) ?_
          refine AllReadyH.cons (o := ⟨some 69, _, _, _, _, _⟩) rfl (fun K hK => ?_) AllReadyH.nil
          go_simp
          refine hK.out _ _ (hS1) (fun hS2 => ?_)
          clear hK K
          try simp only [Act.put, pkA, pkB, pkC]
          refine pkT 9 70 hS2 ?_
          try simp only [Act.put, pkA, pkB, pkC]
          refine pkT 10 71 hS2 ?_
          try simp only [Act.put, pkA, pkB, pkC]
          refine pkT 11 72 hS2 ?_
          try simp only [Act.put, pkA, pkB, pkC]
          refine wpAnyH_ready (rs := [12]) (by kernel_rfl) (by simp) ?_
          refine AllReadyH.cons (o := ⟨none, _, _, _, _, _⟩) rfl (fun K hK => ?_) AllReadyH.nil
          go_simp
          refine hK.out _ _ (HXm.out.below) (fun hS3 => ?_)
          clear hK K
          try simp only [Act.put, pkA, pkB, pkC]
          refine wpAnyH_done (by kernel_rfl) ?_ _
          rw [HWm.out]
          clear HWm
          go_wp2_with fail
          go_roundw
          case rel => exact ⟨k + 1, by go_num, by omega, HXe⟩
          case measure => simp [intOf]; omega
        refine AllReadyH.cons (o := ⟨some 69, _, _, _, _, _⟩) rfl (fun K hK => ?_) AllReadyH.nil
        go_simp
        refine hK.out _ _ (hS0) (fun hS1 => ?_)
        clear hK K
        try simp only [Act.put, pkA, pkB, pkC]
        refine wpAnyH_ready (rs := [4]) (by kernel_rfl) (by simp) ?_
        refine AllReadyH.cons (o := ⟨some 65, _, _, _, _, _⟩) rfl (fun K hK => ?_) AllReadyH.nil
        go_simp
        refine hK.out _ _ (hS1) (fun hS2 => ?_)
        clear hK K
        try simp only [Act.put, pkA, pkB, pkC]
        refine pkT 9 70 hS2 ?_
        try simp only [Act.put, pkA, pkB, pkC]
        refine pkT 10 71 hS2 ?_
        try simp only [Act.put, pkA, pkB, pkC]
        refine pkT 11 72 hS2 ?_
        try simp only [Act.put, pkA, pkB, pkC]
        refine wpAnyH_ready (rs := [12]) (by kernel_rfl) (by simp) ?_
        refine AllReadyH.cons (o := ⟨none, _, _, _, _, _⟩) rfl (fun K hK => ?_) AllReadyH.nil
        go_simp
        refine hK.out _ _ (HXm.out.below) (fun hS3 => ?_)
        clear hK K
        try simp only [Act.put, pkA, pkB, pkC]
        refine wpAnyH_done (by kernel_rfl) ?_ _
        rw [HWm.out]
        clear HWm
        go_wp2_with fail
        go_roundw
        case rel => exact ⟨k + 1, by go_num, by omega, HXe⟩
        case measure => simp [intOf]; omega
      · have k1 : ¬ (k : Int) < (q : Int) := by omega
        obtain rfl : k = q := by omega
        go_wp2
        refine bodyPost_ret (results_tmp2 rfl _ _ _) rfl ?_
        rw [HE.out]
        exact told2_of (own_down HO.out.1.own HK.out.1.size) (HK.out.1.trans (HO.out.1.below.mono HK.out.1.size)) S
end Go.Proofs.Ytacmoanhbkipfaa.Ct
