/- Deals: the landed Bundle (made by gen-bundle16.py). · Deals: what law 16's awake asks, and the promos that its laws buil .. -/
import Derived.Deep.CutBlock
import Derived.Deep.DeepCutAuto
import Derived.Deep.MidRow
import Derived.Test.YtljmddjlnlmenaaGreatPq29
set_option maxRecDepth 100000
set_option linter.unusedVariables false

section
namespace Go.Proofs.YtljmddjlnlmenaaGreat.Dl
open Go.ChangeShapes Go.WideShapes Go.ChangeAt Go.RowKit
open Ap (Unt Tir Prm Prt kUnt kTir kPrt row_Unt row_Tir row_Prt)
open Kd (Kind Row RowT kInt kFlag kList Lst row_int row_list)
open Ko (Out Told Told2 At row_on)
open Ct (nth nth_some netAt netsL sumL UnitsMay PlacesMay May mayB mayB_iff Far take_next lessU SumOk PlacesIn i64_t own_down told2_of Typed)
theorem new_making {ops : Array Oper} {rest : List Oper} {op : Oper} {a : Act} {w : World} {Q : Exit -> Act -> World -> Prop} (free : op.guard = none) (is : op.op = .alloc 67)
    (go : ∀ (w' : World) (mb : Nat) (cs : Array Value), mb = w.heap.size -> cs.size = 18 -> Qu.Blk w' mb 67 cs -> Below w.heap.size w w' -> w'.heap.size = w.heap.size + 1 -> wpList Tryz.prog ops Q rest (a.put op.dst (.pointer (some ⟨mb, 0, none⟩))) w') : wpList Tryz.prog ops Q (op :: rest) a w := by
  refine wpList_plain free fun K hK => ?_
  obtain ⟨cs, hs, hr⟩ := alloc_making w
  unfold Oper.wp execOp
  simp only [is, hr, Sem.run_bind, Sem.run_pure, Result.andThen_ok]
  exact hK _ _ (go _ _ cs rfl hs (Qu.Blk.new _ _ _) ((Below.refl _ _).alloc (Nat.le_refl _) _) (by simp))
def NextIs (wx : World) (Bm : Nat) (p : Prm) (us : List Unt) (wv hv : Value) (qs : List (Nat × Option Nat)) (ls : List (List Int)) (h : List Bool) (s11 s12 : Value) : Prop :=
  (nextB p us ls h = none /\ (∃ A m c, s11 = .slice A m c) /\ s12 = .int .i64 0) \/
    ∃ b ls' h' A c B2, nextB p us ls h = some (b, ls', h') /\ s11 = .slice A b.length c /\ s12 = .int .i64 (sumL (netsL us b) - p.amount) /\ Kd.Own kInt wx B2 3 (fun _ => False) (.slice A b.length c) b.length b /\ Mkg wx Bm wv hv qs ls' h'
theorem nexts_is {e : Ending} {w w' : World} {Bm : Nat} {p : Prm} {us : List Unt} {wv hv : Value} {qs : List (Nat × Option Nat)} {ls : List (List Int)} {h : List Bool} (x : Nexts e w w' Bm p us wv hv qs ls h) : ∃ s11 s12, e = .returned (.tuple #[s11, s12]) /\ Stir Bm w w' /\ NextIs w' Bm p us wv hv qs ls h s11 s12 := by
  unfold Nexts at x
  obtain ⟨hs, x⟩ := x
  cases e1 : nextB p us ls h with
  | none =>
    rw [e1] at x
    obtain ⟨A, m, c, rfl⟩ := x
    exact ⟨_, _, rfl, hs, .inl ⟨e1, ⟨A, m, c, rfl⟩, rfl⟩⟩
  | some z =>
    obtain ⟨b, ls', h'⟩ := z
    rw [e1] at x
    obtain ⟨A, c, rfl, ho, hm⟩ := x
    exact ⟨_, _, rfl, hs, .inr ⟨b, ls', h', A, c, _, e1, rfl, rfl, ho, hm⟩⟩
structure Bst (w6 wx : World) (Bm : Nat) (p : Prm) (us : List Unt) (F : List Int × List Int) (wv hv : Value) (qs : List (Nat × Option Nat)) (f : Nat) (ls : List (List Int)) (h : List Bool) (s8 s9 s11 s12 : Value) (all os : List Int) : Prop where
  stir : Stir Bm w6 wx
  places : Kd.Own kInt wx w6.heap.size 3 (fun _ => False) s8 all.length all
  offs : Kd.Own kInt wx w6.heap.size 2 (fun _ => False) s9 os.length os
  mak : Making us ls h all os
  fin : makeB p us f ls h all os = F
  left : leftN h < f
  nxt : NextIs wx Bm p us wv hv qs ls h s11 s12
theorem row_aside {w w' : World} {A : Option Addr} {m : Nat} {xs : List Int} {g : Option Nat} (h : Row kInt w (· < w.heap.size) A m xs) (hT : Typed w A) (hg : w.grownBy w' g) (hgt : ∀ b, g = some b -> ∃ cs, w.heap[b]? = some (.cells cs 3 (0, 0))) : Row kInt w' (· < w'.heap.size) A m xs := by
  refine ⟨h.len, fun k x hk => ?_⟩
  obtain ⟨b, o, cs, hA, hF, hl, hr, hc⟩ := h.each k x hk
  have hne : w'.heap[b]? = w.heap[b]? := hg.block b hl (fun e => by
    obtain ⟨cs1, h1⟩ := hT b o hA
    obtain ⟨cs2, h2⟩ := hgt b e.symm
    rw [h1] at h2
    injection h2 with h2
    injection h2 with _ h2
    cases h2)
  have hl' := Nat.lt_of_lt_of_le hl hg.size
  exact ⟨b, o, cs, hA, hl', hl', hr, fun j v hv => (World.cell?_of_block hne).trans (hc j v hv)⟩
theorem row_ints {w : World} {A : Option Addr} {xs : List Int} (h : Hl.Ints w w.heap.size A xs.length (Sh.nth xs)) (hr : ∀ (k : Nat) (x : Int), xs[k]? = some x -> -9223372036854775808 <= x /\ x <= 9223372036854775807) : Row kInt w (· < w.heap.size) A xs.length xs := by
  refine ⟨rfl, fun k x hk => ?_⟩
  have hl : k < xs.length := (List.getElem?_eq_some_iff.1 hk).1
  obtain ⟨b, off, hA, hlt, hc⟩ := h k hl
  have e2 : Sh.nth xs k = x := by unfold Sh.nth; rw [List.getD_eq_getElem?_getD, hk]; rfl
  rw [e2] at hc
  refine ⟨b, off, [.int .i64 x], hA, hlt, hlt, ⟨rfl, hr k x hk⟩, fun j v hv => ?_⟩
  cases j with
  | zero =>
    simp only [List.getElem?_cons_zero, Option.some.injEq] at hv
    subst hv
    rw [show off + k * kInt.size + 0 = off + k by show off + k * 1 + 0 = off + k; omega]
    exact hc
  | succ j => simp at hv
theorem own_kind {α : Type} {K : Kind α} {w : World} {B E n : Nat} {v : Value} {xs : List α} (h : Kd.Own K w B E (fun _ => False) v n xs) : ∀ b, v.ownBlock = some b -> ∃ cs, w.heap[b]? = some (.cells cs E (0, 0)) := fun b hb => by
  obtain ⟨_, cs, ho, _⟩ := h
  rcases ho.2 with ⟨h1, _⟩ | ⟨g, cap, cur, h1, _, h2, _⟩
  . rw [h1] at hb; cases hb
  . rw [h1, Mv.ownBlock_some] at hb
    injection hb with hb
    subst hb
    exact ⟨cur, h2⟩
theorem own_beside {α β : Type} {K : Kind α} {L : Kind β} {w w' : World} {B B2 E E2 n n2 : Nat} {v v2 : Value} {xs : List α} {ys : List β} (h : Kd.Own K w B E (fun _ => False) v n xs) (ho : Kd.Own L w B2 E2 (fun _ => False) v2 n2 ys) (hne : E ≠ E2) (hg : w.grownBy w' v2.ownBlock) : Kd.Own K w' B E (fun _ => False) v n xs := by
  obtain ⟨hl, cs, hr, hc⟩ := ho
  exact ho_grown h hr hne hg
set_option maxHeartbeats 8000000 in
theorem lbundle_yes (p : Prm) (l : Prm.Lay) (A : Option Addr) (n c : Nat) (us : List Unt) (B : Option Addr) (m d : Nat) (parts : List (List Int)) (w : World) (hPr : ∀ W, Below w.heap.size w W -> Calls Tryz.prog 25 #[.agg #[.string p.id, .int .i64 p.kind, .int .i64 p.priority, .string p.group, .string p.code, .bool p.closes, .slice l.scope.skus.A l.scope.skus.n l.scope.skus.c, .slice l.scope.cats.A l.scope.cats.n l.scope.cats.c, .int .i64 p.least, .int .i64 p.rate, .int .i64 p.amount, .int .i64 p.buy, .int .i64 p.get, .slice l.parts.A l.parts.n l.parts.c, .slice l.tiers.A l.tiers.n l.tiers.c]] W fun e w' => e = .returned (.bool (Pr.promoB p)) /\ Below W.heap.size W w') (hpn : l.parts.n = p.parts.length) (h : Row kUnt w (· < w.heap.size) A n us) (hf : Kd.Fit A n c) (hg : Row (kList kInt) w (· < w.heap.size) B m parts) (hn : n <= 1000000000000) (hm : m <= 1000000000000) (hs : ∀ x ∈ parts, x.length <= 1000000000000) (hb : Pr.promoB p = true) (hk : p.kind = 4) (hmb : (parts.length == p.parts.length && parts.all (mayB us)) = true) (hP : Row kPrt w (· < w.heap.size) l.parts.A l.parts.n p.parts) :
    Calls Tryz.prog 13 #[.agg #[.string p.id, .int .i64 p.kind, .int .i64 p.priority, .string p.group, .string p.code, .bool p.closes, .slice l.scope.skus.A l.scope.skus.n l.scope.skus.c, .slice l.scope.cats.A l.scope.cats.n l.scope.cats.c, .int .i64 p.least, .int .i64 p.rate, .int .i64 p.amount, .int .i64 p.buy, .int .i64 p.get, .slice l.parts.A l.parts.n l.parts.c, .slice l.tiers.A l.tiers.n l.tiers.c], .slice A n c, .slice B m d] w fun e w' => Ko.Told2 kUnt 35 w e w' (bundleU p us parts).1 (bundleU p us parts).2 := by
  obtain ⟨ha0, ha1, hp1, hp3, hct⟩ := bundle_kind hb hk
  have hlen : parts.length = p.parts.length := by
    rw [Bool.and_eq_true, beq_iff_eq] at hmb; exact hmb.1
  have hmay : ∀ x ∈ parts, May us x := fun x hx => by
    rw [Bool.and_eq_true] at hmb
    exact mayB_iff.1 (List.all_eq_true.1 hmb.2 x hx)
  have hum : UnitsMay us := by
    cases parts with
    | nil => simp at hlen; omega
    | cons x r => exact (hmay x List.mem_cons_self).units
  have hpm : ∀ x ∈ parts, PlacesMay us x := fun x hx => (hmay x hx).places
  have HAp : Hid (bundleU p us parts = lessU us (madeB p us parts).1 (madeB p us parts).2 p.closes) := Lib.hid (by
    unfold bundleU bundleB
    rw [hb, hk, Bool.and_assoc, hmb]; rfl)
  rw [hb] at hPr
  obtain ⟨w1, hw1⟩ : ∃ w1, w.alloc (.cells #[.string p.id, .int .i64 p.kind, .int .i64 p.priority, .string p.group, .string p.code, .bool p.closes, .slice l.scope.skus.A l.scope.skus.n l.scope.skus.c, .slice l.scope.cats.A l.scope.cats.n l.scope.cats.c, .int .i64 p.least, .int .i64 p.rate, .int .i64 p.amount, .int .i64 p.buy, .int .i64 p.get, .slice l.parts.A l.parts.n l.parts.c, .slice l.tiers.A l.tiers.n l.tiers.c] 28) = w1 := ⟨_, rfl⟩
  have hb1 : Below w.heap.size w w1 := by rw [<- hw1]; exact (Below.refl _ _).alloc (Nat.le_refl _) _
  have hx : Qu.Blk w1 w.heap.size 28 #[.string p.id, .int .i64 p.kind, .int .i64 p.priority, .string p.group, .string p.code, .bool p.closes, .slice l.scope.skus.A l.scope.skus.n l.scope.skus.c, .slice l.scope.cats.A l.scope.cats.n l.scope.cats.c, .int .i64 p.least, .int .i64 p.rate, .int .i64 p.amount, .int .i64 p.buy, .int .i64 p.get, .slice l.parts.A l.parts.n l.parts.c, .slice l.tiers.A l.tiers.n l.tiers.c] := by rw [<- hw1]; exact Qu.Blk.new w _ _
  have HK := Lib.hid (And.intro hb1 (fun u (hu : Below w1.heap.size w1 u) => hx.below hu))
  have HR := Lib.hid (fun W (hb : Below w1.heap.size w1 W) => hPr W (hb1.trans (hb.mono hb1.size)))
  have HM := Lib.hid (fun W (hb : Below w1.heap.size w1 W) => partsMay_any p l A n c us B m d parts W hpn (row_on (row_on h hb1) hb) hn (row_on (row_on hg hb1) hb) hm hs)
  simp only [hmb] at HM
  have hn5 : n <= 100000 := by rw [<- h.len]; exact hum.few
  have hm3 : m <= 100 := by rw [<- hg.len, hlen]; omega
  have HNm := Lib.hid (fun W (hb : Below w1.heap.size w1 W) => newMaking_any p l A n c us B m d parts W (row_on (row_on h hb1) hb) hum (row_on (row_on hg hb1) hb) hm3 hpm)
  have HU1 := Lib.hid (row_on h hb1)
  have HP1 := Lib.hid (row_on hP hb1)
  have HFi := Lib.hid hf
  have HUM := Lib.hid hum
  have HKd := Lib.hid hk
  have HCt := Lib.hid hct
  have HLn := Lib.hid (And.intro hlen (And.intro hp3 (And.intro hpn h.len)))
  have HMk := Lib.hid (starts_making hpm)
  have ham : 0 <= p.amount /\ p.amount <= 10000000000000 := ⟨ha0, ha1⟩
  have HAm := Lib.hid ham
  have x0 := hx.cell 0; have x1 := hx.cell 1; have x2 := hx.cell 2; have x3 := hx.cell 3; have x4 := hx.cell 4; have x5 := hx.cell 5; have x6 := hx.cell 6; have x7 := hx.cell 7; have x8 := hx.cell 8; have x9 := hx.cell 9; have x10 := hx.cell 10; have x11 := hx.cell 11; have x12 := hx.cell 12; have x13 := hx.cell 13; have x14 := hx.cell 14
  clear hPr h hf hg hn hm hb hb1 hx hk hs hpn hmb hP hlen hmay hum hpm hp1 hp3 hct ha0 ha1 ham
  go_enter Tryz.func13, Tryz.ntmps13
  go_wp2_with (first
    | (go_at_call 25; with_reducible refine (HR.out _ (Below.refl _ _)).mono ?_; rintro e w3 ⟨rfl, hb3⟩; have hz := HK.out.2 w3 hb3; have y0 := hz.cell 0; have y1 := hz.cell 1; have y2 := hz.cell 2; have y3 := hz.cell 3; have y4 := hz.cell 4; have y5 := hz.cell 5; have y6 := hz.cell 6; have y7 := hz.cell 7; have y8 := hz.cell 8; have y9 := hz.cell 9; have y10 := hz.cell 10; have y11 := hz.cell 11; have y12 := hz.cell 12; have y13 := hz.cell 13; have y14 := hz.cell 14; rw [HKd.out] at y1; clear hz; have HO3 := Lib.hid hb3; clear hb3)
    | (go_at_call 36; rw [<- HKd.out]; with_reducible refine (HM.out w3 HO3.out).mono ?_; rintro e w4 ⟨rfl, hb4⟩; have HO4 := Lib.hid (HO3.out.trans (hb4.mono HO3.out.size)); have hz4 := HK.out.2 w4 HO4.out; have t0 := hz4.cell 0; have t1 := hz4.cell 1; have t2 := hz4.cell 2; have t3 := hz4.cell 3; have t4 := hz4.cell 4; have t5 := hz4.cell 5; have t6 := hz4.cell 6; have t7 := hz4.cell 7; have t8 := hz4.cell 8; have t9 := hz4.cell 9; have t10 := hz4.cell 10; have t11 := hz4.cell 11; have t12 := hz4.cell 12; have t13 := hz4.cell 13; have t14 := hz4.cell 14; clear hz4 hb4 y0 y1 y2 y3 y4 y5 y6 y7 y8 y9 y10 y11 y12 y13 y14))
  refine (HNm.out w4 HO4.out).mono ?_
  rintro e w5 ⟨Bm, wv, hv, qs, rfl, hmk5, hBm4, hBm5, hb5⟩
  obtain ⟨CV, hCV⟩ : ∃ CV : Array Value, #[.string p.id, .int .i64 p.kind, .int .i64 p.priority, .string p.group, .string p.code, .bool p.closes, .slice l.scope.skus.A l.scope.skus.n l.scope.skus.c, .slice l.scope.cats.A l.scope.cats.n l.scope.cats.c, .int .i64 p.least, .int .i64 p.rate, .int .i64 p.amount, .int .i64 p.buy, .int .i64 p.get, .slice l.parts.A l.parts.n l.parts.c, .slice l.tiers.A l.tiers.n l.tiers.c, .slice A n c, wv, hv] = CV := ⟨_, rfl⟩
  simp only [hCV]
  have hs1 : CV.size = 18 := by rw [<- hCV]; rfl
  obtain ⟨A8, c8, e8⟩ := hmk5.wait.value
  obtain ⟨A9, c9, e9⟩ := hmk5.had.value
  have hs2 : CV.all (·.oneCell') = true := by rw [<- hCV, e8, e9]; simp [Value.oneCell']
  have HS1 := Lib.hid hs1
  have HS2 := Lib.hid hs2
  have HCV := Lib.hid hCV
  have HB5 := Lib.hid (And.intro hmk5 (And.intro (Nat.le_trans HO4.out.size hBm4) (And.intro hBm5 (HO4.out.trans (hb5.mono HO4.out.size)))))
  clear hmk5 hBm4 hBm5 hb5 e8 e9 hs1 hs2 hCV t0 t1 t2 t3 t4 t5 t6 t7 t8 t9 t10 t11 t12 t13 t14 x0 x1 x2 x3 x4 x5 x6 x7 x8 x9 x10 x11 x12 x13 x14
  go_wp2_with (first
    | ((with_reducible refine new_making (w := w5) (op := ⟨some 10, _, _, _, _, _⟩) ?_ ?_ ?_); (next => rfl); (next => rfl); intro w50 mb cs6 e6 hc6 hB6 hb6 hs6; have HB50 := Lib.hid (And.intro hB6 (And.intro hb6 (And.intro e6 hc6))); clear e6 hc6 hB6 hb6 hs6)
    | ((with_reducible refine store_making (w := w50) (op := ⟨none, _, _, _, _, _⟩) ?_ (.tmp 10) (.tmp 35) ?_ _ ?_ CV ?_ _ HB50.out.1 HB50.out.2.2.2 HS1.out HS2.out ?_); (next => rfl); (next => rfl); (next => rfl); (next => rfl); intro w6 hK6 hg6; have HK6 := Lib.hid (And.intro hK6 hg6); clear hK6 hg6)
    | ((with_reducible refine load_making (w := w6) (op := ⟨some 37, _, _, _, _, _⟩) ?_ (.tmp 10) ?_ _ ?_ _ HK6.out.1 HS1.out ?_); (next => rfl); (next => rfl); (next => rfl)))
  have hb56 : Below w5.heap.size w5 w6 := HB50.out.2.1.grown HK6.out.2 HB50.out.2.1.size (fun i hi => by injection hi with hi; rw [<- hi, HB50.out.2.2.1]; exact Nat.le_refl _)
  have hB16 : Below w1.heap.size w1 w6 := HB5.out.2.2.2.trans (hb56.mono (Nat.le_trans HB5.out.2.1 HB5.out.2.2.1))
  have hmk6 := (HB5.out.1.later HB50.out.2.1).aside HB50.out.1 making_quiet.1 making_quiet.2 HK6.out.2
  have hqs : qs.length = p.parts.length := by
    rw [HB5.out.1.len]; unfold starts; rw [List.length_map]; exact HLn.out.1
  have HNx := Lib.hid (fun (W : World) (ls : List (List Int)) (h : List Bool) (hk : Mkg W Bm wv hv qs ls h) (hs : Stir Bm w6 W) (hl : h.length = us.length) => (show Calls Tryz.prog 38 #[.agg CV] W fun e w' => Nexts e W w' Bm p us wv hv qs ls h by
    have hW : Below w1.heap.size w1 W := hB16.trans (hs.below.mono HB5.out.2.1)
    rw [<- HCV.out]
    exact next_any p l A n c us Bm wv hv qs ls h W (Nat.le_trans HB5.out.2.2.1 (Nat.le_trans hb56.size hs.only.size)) hk ((HP1.out.below hW (Nat.le_refl _)).lift HB5.out.2.1) ((HU1.out.below hW (Nat.le_refl _)).lift HB5.out.2.1) HUM.out hl hqs HLn.out.2.1 HCt.out HAm.out))
  have hl0 : (List.replicate us.length false).length = us.length := List.length_replicate
  have hN1 := HNx.out w6 _ _ hmk6 (Stir.refl _ _) hl0
  have HB6 := Lib.hid (And.intro hB16 (Nat.le_trans HB5.out.2.2.1 hb56.size))
  clear hb56 hB16 hmk6 hqs hl0
  refine hN1.mono ?_
  rintro e w7 hx
  obtain ⟨s11, s12, rfl, hs7, hn7⟩ := nexts_is hx
  have HBs : Hid (Bst w6 w7 Bm p us (madeB p us parts) wv hv qs (us.length + 1) (starts us parts) (List.replicate us.length false) (.slice none 0 0) (.slice none 0 0) s11 s12 [] []) := Lib.hid ⟨hs7, Kd.Own.nil _ _ _ _ _, Kd.Own.nil _ _ _ _ _, HMk.out, rfl, by rw [leftN_new]; omega, hn7⟩
  clear hx hs7 hn7 hN1
  go_wp2_with fail
  go_loopg [8, 9, 11, 12] (us.length + 1) (fun kx s8 s9 s11 s12 wx => ∃ (f : Nat) (all os : List Int) (ls : List (List Int)) (h : List Bool), f <= kx /\ Hid (Bst w6 wx Bm p us (madeB p us parts) wv hv qs f ls h s8 s9 s11 s12 all os))
  case atStart => exact ⟨us.length + 1, [], [], _, _, Nat.le_refl _, HBs⟩
  case round =>
    clear HBs hw1
    obtain ⟨f, all, os, ls, h, hfk, HO⟩ := hrel
    have hbw : Below w1.heap.size w1 wr := HB6.out.1.trans (HO.out.stir.below.mono HB5.out.2.1)
    have HBw := Lib.hid hbw
    obtain ⟨A8, c8, e8⟩ := HO.out.places.value
    obtain ⟨A9, c9, e9⟩ := HO.out.offs.value
    subst e8 e9
    have hosl := HO.out.mak.fine.len
    have hfew := HO.out.mak.fine.apart.few
    have hus := HUM.out.few
    obtain ⟨na, hna⟩ : ∃ na, all.length = na := ⟨_, rfl⟩
    have hno : os.length = na := by rw [hosl, hna]
    have hHO := HO.out
    rw [hna, hno] at hHO
    have HNa := Lib.hid (And.intro hna hno)
    have HO2 := Lib.hid hHO
    have hna5 : na <= 100000 := by omega
    rw [hna, hno]
    have HOf := Lib.hid (And.intro hfk HO.out.left)
    clear HO hHO hbw hosl hfew hus hna hno hfk
    rcases HO2.out.nxt with ⟨hn, ⟨A1, m1, c1, e11⟩, e12⟩ | ⟨b, ls', h', A1, c1, B2, hn, e11, e12, hob, hmb⟩
    . subst e11 e12
      have hz := HK.out.2 wr HBw.out
      have y0 := hz.cell 0; have y1 := hz.cell 1; have y2 := hz.cell 2; have y3 := hz.cell 3; have y4 := hz.cell 4; have y5 := hz.cell 5; have y6 := hz.cell 6; have y7 := hz.cell 7; have y8 := hz.cell 8; have y9 := hz.cell 9; have y10 := hz.cell 10; have y11 := hz.cell 11; have y12 := hz.cell 12; have y13 := hz.cell 13; have y14 := hz.cell 14
      have hfin := HO2.out.fin
      rw [make_stop hn] at hfin
      have hp8 := HO2.out.places
      have hp9 := HO2.out.offs
      rw [HNa.out.1] at hp8
      rw [HNa.out.2] at hp9
      have HBe := Lib.hid (behind_any p l A n c us A8 na c8 all A9 na c9 os wr (row_on HU1.out HBw.out) HFi.out hp8.read hp9.read HUM.out HO2.out.mak.fine)
      have HE : Hid (bundleU p us parts = lessU us all os p.closes) := Lib.hid (by rw [HAp.out, <- hfin])
      clear hz hfin hp8 hp9 hn
      go_wp2_with fail
      refine HBe.out.mono ?_
      rintro e w9 ⟨A10, c10, rfl, ho9, hb9⟩
      have HO9 := Lib.hid (And.intro ho9 hb9)
      clear ho9 hb9
      go_wp2
      refine bodyPost_ret (results_tmp2 rfl _ _ _) rfl ?_
      rw [HE.out]
      have hB := HK.out.1.trans (HBw.out.mono HK.out.1.size)
      exact told2_of (own_down HO9.out.1 hB.size) (hB.trans (HO9.out.2.mono hB.size)) _
    . subst e11 e12
      obtain ⟨hm1, hno, hof, hsum, hlf⟩ := HO2.out.mak.next HUM.out HAm.out.1 hn
      have hbm := next_may HO2.out.mak hn
      have hgt := (next_got hn).2.2.2.2.2
      have hbin : PlacesIn n b := by rw [<- HLn.out.2.2.2]; exact hbm.in_
      have hbf := hm1.fine.apart.few
      have hus := HUM.out.few
      obtain ⟨f1, hf1⟩ : ∃ f1, f = f1 + 1 := ⟨f - 1, by have := HOf.out.2; omega⟩
      subst hf1
      have hfin := HO2.out.fin
      rw [make_on hn] at hfin
      rw [List.length_append, HNa.out.1] at hbf
      obtain ⟨nb, hnb⟩ : ∃ nb, b.length = nb := ⟨_, rfl⟩
      rw [hnb] at hob hbf
      have hnl : (netsL us b).length = nb := by unfold netsL; rw [List.length_map]; exact hnb
      have hnb0 : 0 < nb := by
        rcases Nat.eq_zero_or_pos nb with h0 | h0
        . have e0 : b = [] := List.eq_nil_of_length_eq_zero (by omega)
          subst e0
          have : sumL (netsL us []) = 0 := rfl
          have := HAm.out.1
          omega
        . exact h0
      have hnb5 : nb <= 100000 := by omega
      have HNt1 := dnets_any A n c us A1 nb c1 b wr (row_on HU1.out HBw.out) hob.read hnb5 hbin
      unfold Ko.Told at HNt1
      rw [hnb]
      -- the parts of what is above
      have hofl : (offsB p us b).length = nb := hof.1.trans hnl
      have hsf : Sh.sumF (nth (netsL us b)) nb = sumL (netsL us b) := by rw [Ct.sumF_nth (netsL us b) nb (by omega), List.take_of_length_le (by omega)]
      have hfe : ∀ k, k < nb -> 0 <= nth (netsL us b) k /\ nth (netsL us b) k <= 100000000000000 := fun k hk => by
        have e := List.getElem?_eq_getElem (show k < (netsL us b).length by omega)
        rw [nth_some e]
        have := hno.each k _ e
        omega
      have htot := hno.total
      obtain ⟨S, hS⟩ : ∃ S, sumL (netsL us b) = S := ⟨_, rfl⟩
      rw [hS] at hsf htot hgt hsum
      obtain ⟨z, hz⟩ : ∃ z, S - p.amount = z := ⟨_, rfl⟩
      rw [hS, hz]
      have hz0 : 0 < z := by omega
      have hzS : z <= S := by have := HAm.out.1; omega
      have HG1 := fun (W : World) (A5 : Option Addr) (hq : Row kInt W (· < W.heap.size) A5 nb (netsL us b)) => fun c5 => Ct.largestT_any z A5 nb c5 (nth (netsL us b)) W (Ct.ints_row hq) ⟨by omega, by omega⟩ hnb5 hfe (by rw [hsf]; omega) (by rw [hsf]; exact hzS)
      unfold Ct.GaveT at HG1
      have hLg : (Sh.largR z (nth (netsL us b)) nb).1 = offsB p us b := by unfold offsB; rw [hS, hz, hnl]
      obtain ⟨er, her⟩ : ∃ er, (Sh.largR z (nth (netsL us b)) nb).2 = er := ⟨_, rfl⟩
      simp only [hLg, her, hofl] at HG1
      have hor : ∀ (k : Nat) (x : Int), (offsB p us b)[k]? = some x -> -9223372036854775808 <= x /\ x <= 9223372036854775807 := fun k x hx => by
        have hl := (List.getElem?_eq_some_iff.1 hx).1
        have e := List.getElem?_eq_getElem (show k < (netsL us b).length by omega)
        have h1 := hof.2 k x _ hx e
        have h2 := hno.each k _ e
        omega
      obtain ⟨Lg, hLg2⟩ : ∃ Lg, offsB p us b = Lg := ⟨_, rfl⟩
      rw [hLg2] at hm1 hofl hor hfin
      simp only [hLg2] at HG1
      obtain ⟨xs, hxs⟩ : ∃ xs, netsL us b = xs := ⟨_, rfl⟩
      simp only [hxs] at HG1
      simp only [hxs] at hnl
      simp only [hxs, hnl] at HNt1
      have HNt := Lib.hid HNt1
      have HG := Lib.hid HG1
      have HMk1 := Lib.hid hm1
      have HFin := Lib.hid (And.intro hfin (show leftN h' < f1 by have := HOf.out.2; omega))
      have HOr := Lib.hid hor
      have HLg := Lib.hid hofl
      have HNb := Lib.hid hnb
      have HBn := Lib.hid (And.intro hob hmb)
      have hp8 := HO2.out.places
      have hp9 := HO2.out.offs
      rw [HNa.out.1] at hp8
      rw [HNa.out.2] at hp9
      have HP89 := Lib.hid (And.intro hp8 hp9)
      have hlow6 := HO2.out.stir.only.size
      have HF1 := Lib.hid (show f1 < gk by have := HOf.out.1; omega)
      have HHl : Hid (h'.length = us.length) := Lib.hid hm1.len
      clear hm1 hno hof hsum hlf hbm hgt hbin hus hfin hob hmb HNt1 hofl hsf hfe htot hS hz hzS HG1 hLg her hor hLg2 hxs hnl hnb hp8 hp9 hn
      go_wp2_with fail
      refine HNt.out.mono ?_
      rintro e wa ⟨A5, c5, rfl, ho5, hb5⟩
      have HA := Lib.hid (And.intro ho5.read hb5)
      clear ho5 hb5
      go_wp2_with fail
      refine (HG.out wa A5 HA.out.1 c5).mono ?_
      rintro e wb ⟨A6, c6, rfl, hi6, hb6, hT6⟩
      have hbr : Below wr.heap.size wr wb := HA.out.2.trans (hb6.mono HA.out.2.size)
      have hr6 : Row kInt wb (· < wb.heap.size) A6 nb Lg := by
        have := row_ints (xs := Lg) (by rw [HLg.out]; exact hi6) HOr.out
        rw [HLg.out] at this
        exact this
      have hA6 : A6 = none -> nb = 0 /\ c6 = 0 := fun e0 => by
        obtain ⟨x, hx⟩ := hr6.get hnb0
        obtain ⟨g, o, hA, _⟩ := row_int hr6 hx
        rw [e0] at hA; cases hA
      have hA1 := HBn.out.1.fit.1
      have HW := Lib.hid (And.intro hbr (And.intro hr6 hT6))
      have h8 := HP89.out.1.later hbr
      have h9 := HP89.out.2.later hbr
      have hrb := (HBn.out.1.later hbr).read
      have HW2 := Lib.hid (And.intro h8 (And.intro h9 hrb))
      have hlowb : w6.heap.size <= wb.heap.size := Nat.le_trans hlow6 hbr.size
      clear hi6 hb6 hT6 hbr hr6 h8 h9 hrb
      go_wp2_with (first
        | (at_builtin
           refine Kd.wpList_join (o := ⟨some 58, _, _, _, _, _⟩) (F := fun _ => False) (G := (· < wb.heap.size)) (B := w6.heap.size) (n := na) (m := nb) (c := c1) (v := .slice A8 na c8) (xs := all) (ys := b) (A := A1) Ap.int_t rfl _ _ rfl rfl rfl HW2.out.1 HW2.out.2.2 hA1 (fun h => h) (by omega) (by omega) hlowb (fun _ h => h.elim) ?_
           intro v3 w3 hown hgrow hfr
           have H3 := Lib.hid (And.intro hown hgrow)
           clear hown hgrow hfr
           have hs3 : Stir Bm w6 w3 := (HO2.out.stir.trans (Stir.ofBelow HW.out.1 (Nat.le_trans HB6.out.2 hlow6))).grown H3.out.2 (fun i hi => (HW2.out.1.low i hi).1) HB6.out.2
           have h93 := own_beside HW2.out.2.1 HW2.out.1 (by decide) H3.out.2
           have hr63 := row_aside HW.out.2.1 HW.out.2.2 H3.out.2 (own_kind HW2.out.1)
           have hm3 := (HBn.out.2.later HW.out.1).grown HW2.out.1 int_quiet.1 int_quiet.2 H3.out.2
           have HX3 := Lib.hid (And.intro hs3 (And.intro h93 (And.intro hr63 hm3)))
           have hlow3 := hs3.only.size
           clear hs3 h93 hr63 hm3)
        | (at_builtin
           refine Kd.wpList_join (o := ⟨some 61, _, _, _, _, _⟩) (F := fun _ => False) (G := (· < w3.heap.size)) (B := w6.heap.size) (n := na) (m := nb) (c := c6) (v := .slice A9 na c9) (xs := os) (ys := Lg) (A := A6) i64_t rfl _ _ rfl rfl rfl HX3.out.2.1 HX3.out.2.2.1 hA6 (fun h => h) (by omega) (by omega) hlow3 (fun _ h => h.elim) ?_
           intro v4 w4 hown hgrow hfr
           have H4 := Lib.hid (And.intro hown hgrow)
           clear hown hgrow hfr
           have hs4 : Stir Bm w6 w4 := HX3.out.1.grown H4.out.2 (fun i hi => (HX3.out.2.1.low i hi).1) HB6.out.2
           have h84 := own_beside H3.out.1 HX3.out.2.1 (by decide) H4.out.2
           have hm4 := HX3.out.2.2.2.grown HX3.out.2.1 i64_quiet.1 i64_quiet.2 H4.out.2
           have hx4 := blk_stir HK6.out.1 making_quiet.1 hs4
           have HN4 := Lib.hid (HNx.out w4 _ _ hm4 hs4 HHl.out)
           have HX4 := Lib.hid (And.intro hs4 (And.intro h84 hx4))
           clear hs4 h84 hm4 hx4)
        | ((with_reducible refine load_making (w := w4) (op := ⟨some 44, _, _, _, _, _⟩) ?_ (.tmp 10) ?_ _ ?_ _ HX4.out.2.2 HS1.out ?_); (next => rfl); (next => rfl); (next => rfl)))
      refine HN4.out.mono ?_
      rintro e w7 hx
      obtain ⟨s11, s12, rfl, hs7, hn7⟩ := nexts_is hx
      have HBs : Hid (Bst w6 w7 Bm p us (madeB p us parts) wv hv qs f1 ls' h' v3 v4 s11 s12 (all ++ b) (os ++ Lg)) := Lib.hid ⟨HX4.out.1.trans hs7, by
        rw [List.length_append, HNa.out.1, HNb.out]; exact own_stir HX4.out.2.1 int_quiet.1 hs7, by
        rw [List.length_append, HNa.out.2, HLg.out]; exact own_stir H4.out.1 i64_quiet.1 hs7, HMk1.out, HFin.out.1, HFin.out.2, hn7⟩
      clear hx hs7 hn7
      go_wp2_with fail
      go_roundg f1
      case measure => exact HF1.out
      case rel => exact ⟨f1, _, _, _, _, Nat.le_refl _, HBs⟩
theorem lbundle_any (p : Prm) (l : Prm.Lay) (A : Option Addr) (n c : Nat) (us : List Unt) (B : Option Addr) (m d : Nat) (parts : List (List Int)) (w : World) (hp : Ap.Prm.Holds w (· < w.heap.size) p l) (hS : Pr.PrmSmall p l) (h : Row kUnt w (· < w.heap.size) A n us) (hf : Kd.Fit A n c) (hg : Row (kList kInt) w (· < w.heap.size) B m parts) (hn : n <= 1000000000000) (hm : m <= 1000000000000) (hs : ∀ x ∈ parts, x.length <= 1000000000000) :
    Calls Tryz.prog 13 #[.agg #[.string p.id, .int .i64 p.kind, .int .i64 p.priority, .string p.group, .string p.code, .bool p.closes, .slice l.scope.skus.A l.scope.skus.n l.scope.skus.c, .slice l.scope.cats.A l.scope.cats.n l.scope.cats.c, .int .i64 p.least, .int .i64 p.rate, .int .i64 p.amount, .int .i64 p.buy, .int .i64 p.get, .slice l.parts.A l.parts.n l.parts.c, .slice l.tiers.A l.tiers.n l.tiers.c], .slice A n c, .slice B m d] w fun e w' => Ko.Told2 kUnt 35 w e w' (bundleU p us parts).1 (bundleU p us parts).2 := by
  have hPr := fun W (hb : Below w.heap.size w W) => Pm.promo_any p l W (Pr.holds_later hp hb) hS
  have hpn : l.parts.n = p.parts.length := hp.parts.row.len.symm
  cases hb : Pr.promoB p with
  | false => exact lbundle_bad p l A n c us B m d parts w hPr hpn h hf hg hn hm hs hb
  | true =>
    by_cases hk : p.kind = 4
    . cases hmb : (parts.length == p.parts.length && parts.all (mayB us)) with
      | false => exact lbundle_not p l A n c us B m d parts w hPr hpn h hf hg hn hm hs hb hk hmb
      | true => exact lbundle_yes p l A n c us B m d parts w hPr hpn h hf hg hn hm hs hb hk hmb hp.parts.row
    . exact lbundle_kind p l A n c us B m d parts w hPr hpn h hf hg hn hm hs hb hk
end Go.Proofs.YtljmddjlnlmenaaGreat.Dl

end

section
namespace Go.Proofs.YtljmddjlnlmenaaGreat.Dl
open Go.ChangeShapes Go.WideShapes Go.ChangeAt Go.RowKit
open Ap (Unt Tir Prm Prt kUnt kTir kPrt row_Unt row_Tir row_Prt)
open Kd (Kind Row RowT kInt kFlag kList Lst row_int row_list)
open Ko (Out Told Told2 At row_on)
open Ct (nth nth_some netAt netsL sumL UnitsMay PlacesMay May mayB mayB_iff mayB_yes Far take_next lessU SumOk PlacesIn i64_t own_down told2_of nil_lst small_of)
def gwP (cl : Bool) (rate buy get : Int) : Prm := ⟨⟨#[97]⟩, 3, 0, ⟨#[]⟩, ⟨#[]⟩, cl, ⟨[], []⟩, 0, rate, 0, buy, get, [], []⟩
def bwP (cl : Bool) (amount : Int) : Prm := ⟨⟨#[97]⟩, 4, 0, ⟨#[]⟩, ⟨#[]⟩, cl, ⟨[], []⟩, 0, 0, amount, 0, 0, [⟨⟨[], []⟩, 1⟩, ⟨⟨[], []⟩, 1⟩], []⟩
def noLay (q : Kd.Sl) : Prm.Lay := ⟨⟨⟨none, 0, 0⟩, ⟨none, 0, 0⟩⟩, q, ⟨none, 0, 0⟩⟩
theorem no_scope : Sc.scopeB ⟨[], []⟩ = true := by
  have h : Sc.namesB [] 20 = true := Sc.namesB_yes ⟨by simp, fun i x hx => by simp at hx, fun i x y hx => by simp at hx⟩
  unfold Sc.scopeB
  rw [h]; rfl
theorem no_blank : Pr.blankB ⟨#[]⟩ = true := by unfold Pr.blankB; rw [ByteArray.toList_eq]; rfl
theorem a_name : Sr.name ⟨#[97]⟩ = true := by decide +kernel
theorem gw_promo {cl : Bool} {rate buy get : Int} (hr : 1 <= rate /\ rate <= 10000) (hb : 1 <= buy /\ buy <= 100) (hg : 1 <= get /\ get <= 100) : Pr.promoB (gwP cl rate buy get) = true := by
  have hh : Pr.headB (gwP cl rate buy get) = true := by
    rw [Pr.headB_def]
    show (Sr.name ⟨#[97]⟩ && decide ((1 : Int) <= 3) && decide ((3 : Int) <= 7) && decide ((0 : Int) <= 0) && decide ((0 : Int) <= 1000) && Pr.blankB ⟨#[]⟩ && Pr.blankB ⟨#[]⟩ && Sc.scopeB ⟨[], []⟩ && Pr.inB 0 10000000000000) = true
    rw [a_name, no_blank, no_scope]; rfl
  unfold Pr.promoB
  rw [hh]
  unfold Pr.kindB
  rw [show (gwP cl rate buy get).kind = 3 from rfl, if_neg (by decide), if_neg (by decide), if_pos rfl]
  show (true && ((decide (1 <= rate) && decide (rate <= 10000)) && (0 : Int) == 0 && decide (1 <= buy) && decide (buy <= 100) && decide (1 <= get) && decide (get <= 100) && true && true)) = true
  rw [decide_eq_true hr.1, decide_eq_true hr.2, decide_eq_true hb.1, decide_eq_true hb.2, decide_eq_true hg.1, decide_eq_true hg.2]; rfl
theorem bw_promo {cl : Bool} {amount : Int} (ha : 0 <= amount /\ amount <= 10000000000000) : Pr.promoB (bwP cl amount) = true := by
  have hh : Pr.headB (bwP cl amount) = true := by
    rw [Pr.headB_def]
    show (Sr.name ⟨#[97]⟩ && decide ((1 : Int) <= 4) && decide ((4 : Int) <= 7) && decide ((0 : Int) <= 0) && decide ((0 : Int) <= 1000) && Pr.blankB ⟨#[]⟩ && Pr.blankB ⟨#[]⟩ && Sc.scopeB ⟨[], []⟩ && Pr.inB 0 10000000000000) = true
    rw [a_name, no_blank, no_scope]; rfl
  have hp : Pr.partsB [⟨⟨[], []⟩, 1⟩, ⟨⟨[], []⟩, 1⟩] = true := by
    have h1 : Pr.partB ⟨⟨[], []⟩, 1⟩ = true := by
      unfold Pr.partB
      show (Sc.scopeB ⟨[], []⟩ && _ && _) = true
      rw [no_scope]; rfl
    unfold Pr.partsB
    rw [List.all_cons, List.all_cons, h1]; rfl
  have hi : Pr.inB amount 10000000000000 = true := by unfold Pr.inB; rw [decide_eq_true ha.1, decide_eq_true ha.2]; rfl
  unfold Pr.promoB
  rw [hh]
  unfold Pr.kindB
  rw [show (bwP cl amount).kind = 4 from rfl, if_neg (by decide), if_neg (by decide), if_neg (by decide), if_pos rfl]
  show (true && ((0 : Int) == 0 && Pr.inB amount 10000000000000 && true && Pr.partsB [⟨⟨[], []⟩, 1⟩, ⟨⟨[], []⟩, 1⟩] && true && true)) = true
  rw [hp, hi]; rfl
theorem gw_holds {W : World} {cl : Bool} {rate buy get : Int} (hr : -9223372036854775808 <= rate /\ rate <= 9223372036854775807) (hb : -9223372036854775808 <= buy /\ buy <= 9223372036854775807) (hg : -9223372036854775808 <= get /\ get <= 9223372036854775807) : Ap.Prm.Holds W (· < W.heap.size) (gwP cl rate buy get) (noLay ⟨none, 0, 0⟩) :=
  ⟨(show ByteArray.size ⟨#[97]⟩ <= maxLen by decide), (show (-9223372036854775808 : Int) <= 3 /\ (3 : Int) <= 9223372036854775807 by decide), (show (-9223372036854775808 : Int) <= 0 /\ (0 : Int) <= 9223372036854775807 by decide), (show ByteArray.size ⟨#[]⟩ <= maxLen by decide), (show ByteArray.size ⟨#[]⟩ <= maxLen by decide), ⟨nil_lst, nil_lst⟩, (show (-9223372036854775808 : Int) <= 0 /\ (0 : Int) <= 9223372036854775807 by decide), hr, (show (-9223372036854775808 : Int) <= 0 /\ (0 : Int) <= 9223372036854775807 by decide), hb, hg, nil_lst, nil_lst⟩
theorem two_prt {W : World} {b : Nat} (h : Qu.Blk W b 56 #[.slice none 0 0, .slice none 0 0, .int .i64 1, .slice none 0 0, .slice none 0 0, .int .i64 1]) : Row kPrt W (· < W.heap.size) (some ⟨b, 0, none⟩) 2 [⟨⟨[], []⟩, 1⟩, ⟨⟨[], []⟩, 1⟩] :=
  Kd.Own.read (B := b) (E := 56) (c := 2) (Kd.own_blk (cs := [.slice none 0 0, .slice none 0 0, .int .i64 1, .slice none 0 0, .slice none 0 0, .int .i64 1]) h (Nat.le_refl _) rfl ⟨[.slice none 0 0, .slice none 0 0, .int .i64 1], _, rfl, Ap.Prt_rep.2 ⟨⟨⟨⟨none, 0, 0⟩, ⟨none, 0, 0⟩⟩⟩, rfl, ⟨⟨nil_lst, nil_lst⟩, ⟨by decide, by decide⟩⟩⟩, [.slice none 0 0, .slice none 0 0, .int .i64 1], _, rfl, Ap.Prt_rep.2 ⟨⟨⟨⟨none, 0, 0⟩, ⟨none, 0, 0⟩⟩⟩, rfl, ⟨⟨nil_lst, nil_lst⟩, ⟨by decide, by decide⟩⟩⟩, rfl⟩ (Nat.le_refl _) (by decide) rfl rfl)
theorem bw_holds {W : World} {cl : Bool} {amount : Int} {b : Nat} (ha : -9223372036854775808 <= amount /\ amount <= 9223372036854775807) (h : Qu.Blk W b 56 #[.slice none 0 0, .slice none 0 0, .int .i64 1, .slice none 0 0, .slice none 0 0, .int .i64 1]) : Ap.Prm.Holds W (· < W.heap.size) (bwP cl amount) (noLay ⟨some ⟨b, 0, none⟩, 2, 2⟩) :=
  ⟨(show ByteArray.size ⟨#[97]⟩ <= maxLen by decide), (show (-9223372036854775808 : Int) <= 4 /\ (4 : Int) <= 9223372036854775807 by decide), (show (-9223372036854775808 : Int) <= 0 /\ (0 : Int) <= 9223372036854775807 by decide), (show ByteArray.size ⟨#[]⟩ <= maxLen by decide), (show ByteArray.size ⟨#[]⟩ <= maxLen by decide), ⟨nil_lst, nil_lst⟩, (show (-9223372036854775808 : Int) <= 0 /\ (0 : Int) <= 9223372036854775807 by decide), (show (-9223372036854775808 : Int) <= 0 /\ (0 : Int) <= 9223372036854775807 by decide), ha, (show (-9223372036854775808 : Int) <= 0 /\ (0 : Int) <= 9223372036854775807 by decide), (show (-9223372036854775808 : Int) <= 0 /\ (0 : Int) <= 9223372036854775807 by decide), ⟨two_prt h, ⟨fun h => (by cases h), Nat.le_refl _, (show (2 : Nat) <= 9223372036854775807 by decide)⟩⟩, nil_lst⟩
theorem two_u {W : World} {b : Nat} {u v : Unt} (hu : u.ok) (hv : v.ok) (h : Qu.Blk W b 35 #[.int .i64 u.line, .int .i64 u.net, .bool u.opn, .int .i64 v.line, .int .i64 v.net, .bool v.opn]) : Row kUnt W (· < W.heap.size) (some ⟨b, 0, none⟩) 2 [u, v] :=
  Kd.Own.read (B := b) (E := 35) (c := 2) (Kd.own_blk (cs := [.int .i64 u.line, .int .i64 u.net, .bool u.opn, .int .i64 v.line, .int .i64 v.net, .bool v.opn]) h (Nat.le_refl _) rfl ⟨[.int .i64 u.line, .int .i64 u.net, .bool u.opn], _, rfl, Ap.Unt_rep.2 ⟨rfl, hu⟩, [.int .i64 v.line, .int .i64 v.net, .bool v.opn], _, rfl, Ap.Unt_rep.2 ⟨rfl, hv⟩, rfl⟩ (Nat.le_refl _) (by decide) rfl rfl)
theorem two_ll {W : World} {b : Nat} {A C : Option Addr} {n c m d : Nat} {x y : List Int} (hx : Lst kInt W (· < W.heap.size) ⟨A, n, c⟩ x) (hy : Lst kInt W (· < W.heap.size) ⟨C, m, d⟩ y) (h : Qu.Blk W b 36 #[.slice A n c, .slice C m d]) : Row (kList kInt) W (· < W.heap.size) (some ⟨b, 0, none⟩) 2 [x, y] :=
  ⟨rfl, fun k z hk => by
    have hl := h.lt
    match k, hk with
    | 0, hk =>
      injection hk with hk; subst hk
      exact ⟨b, 0, [.slice A n c], rfl, hl, hl, ⟨A, n, c, rfl, hx.row, hx.fit⟩, fun j v hv => by
        match j, hv with
        | 0, hv => injection hv with hv; subst hv; exact h.cell 0
        | j + 1, hv => simp at hv⟩
    | 1, hk =>
      injection hk with hk; subst hk
      exact ⟨b, 0, [.slice C m d], rfl, hl, hl, ⟨C, m, d, rfl, hy.row, hy.fit⟩, fun j v hv => by
        match j, hv with
        | 0, hv => injection hv with hv; subst hv; exact h.cell 1
        | j + 1, hv => simp at hv⟩
    | k + 2, hk => simp at hk⟩
def bwU : List Unt := [⟨0, 8, true⟩, ⟨1, 6, true⟩]
theorem bw_units : UnitsMay bwU := ⟨by decide, fun k u hu => by
  match k, hu with
  | 0, hu => injection hu with hu; subst hu; decide
  | 1, hu => injection hu with hu; subst hu; decide
  | k + 2, hu => simp [bwU] at hu, by decide⟩
theorem bw_may2 : mayB bwU [0, 1] = true := mayB_yes ⟨bw_units, ⟨fun i m hm => by
  match i, hm with
  | 0, hm => injection hm with hm; subst hm; exact ⟨by decide, _, rfl, rfl⟩
  | 1, hm => injection hm with hm; subst hm; exact ⟨by decide, _, rfl, rfl⟩
  | i + 2, hm => simp at hm, fun i a b ha hb => by
  match i, ha, hb with
  | 0, ha, hb => injection ha with ha; injection hb with hb; subst ha; subst hb; decide
  | i + 1, ha, hb => simp at hb⟩⟩
theorem bw_may0 : mayB bwU [0] = true := mayB_yes ⟨bw_units, ⟨fun i m hm => by
  match i, hm with
  | 0, hm => injection hm with hm; subst hm; exact ⟨by decide, _, rfl, rfl⟩
  | i + 1, hm => simp at hm, fun i a b ha hb => by simp at hb⟩⟩
theorem bw_may1 : mayB bwU [1] = true := mayB_yes ⟨bw_units, ⟨fun i m hm => by
  match i, hm with
  | 0, hm => injection hm with hm; subst hm; exact ⟨by decide, _, rfl, rfl⟩
  | i + 1, hm => simp at hm, fun i a b ha hb => by simp at hb⟩⟩
theorem bw_made : madeB (bwP false 10) bwU [[0], [1]] = ([0, 1], [2, 2]) := by
  have h1 : nextB (bwP false 10) bwU [[0], [1]] [false, false] = some ([0, 1], [[], []], [true, true]) := by
    have hp : pickAll (counts (bwP false 10)) [[0], [1]] [false, false] = some ([0, 1], [[], []], [true, true]) := by decide +kernel
    have hs : srt [0, 1] = [0, 1] := (srt_unique (by decide) (List.Perm.refl _)).symm
    unfold nextB
    rw [hp]
    dsimp only
    rw [hs]
    decide +kernel
  have h2 : nextB (bwP false 10) bwU [[], []] [true, true] = none := by
    have hp : pickAll (counts (bwP false 10)) [[], []] [true, true] = none := by decide +kernel
    unfold nextB
    rw [hp]
  have h3 : offsB (bwP false 10) bwU [0, 1] = [2, 2] := by decide +kernel
  unfold madeB
  rw [show starts bwU [[0], [1]] = [[0], [1]] by decide +kernel]
  show makeB (bwP false 10) bwU (2 + 1) [[0], [1]] [false, false] [] [] = _
  rw [make_on h1, make_stop h2, h3]
  rfl
theorem bw_bundle : bundleU (bwP false 10) bwU [[0], [1]] = ([⟨0, 6, true⟩, ⟨1, 4, true⟩], 4) := by
  unfold bundleU bundleB
  rw [bw_promo (by decide), List.all_cons, List.all_cons, bw_may0, bw_may1, if_pos (by decide), bw_made]
  rfl
theorem gw_buyget : buygetU (gwP false 10000 1 1) bwU [0, 1] = ([⟨0, 8, true⟩, ⟨1, 0, true⟩], 6) := by
  have h1 : wholeL (gwP false 10000 1 1) bwU [0, 1] = [0, 1] := by decide +kernel
  have h2 : rowOffs (gwP false 10000 1 1) bwU [0, 1] = [0, 6] := by unfold rowOffs; rw [h1]; decide +kernel
  unfold buygetU
  rw [gw_promo (by decide) (by decide) (by decide), bw_may2, if_pos (by decide), h1, h2]
  rfl
end Go.Proofs.YtljmddjlnlmenaaGreat.Dl

end
