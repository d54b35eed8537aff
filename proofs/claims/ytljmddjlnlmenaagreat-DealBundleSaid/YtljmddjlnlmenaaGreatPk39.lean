/- Law 16's parts: places for each part, rows of the call's own (made by gen-law16a.py). -/
import Derived.Test.YtljmddjlnlmenaaGreatPk13
import Derived.Test.YtljmddjlnlmenaaGreatPk21
import Derived.Test.YtljmddjlnlmenaaGreatPk25
import Derived.Test.YtljmddjlnlmenaaGreatPk7
set_option maxRecDepth 100000
set_option linter.unusedVariables false

namespace Go.Proofs.YtljmddjlnlmenaaGreat.Dl
open Go.ChangeShapes Go.WideShapes Go.ChangeAt Go.RowKit
open Ap (Unt Tir Prm Prt kUnt kTir kPrt row_Unt row_Tir row_Prt)
open Kd (Kind Row RowT kInt kFlag kList Lst row_int row_list)
open Ko (Out Told Told2 At row_on)
open Ct (nth nth_some netAt netsL sumL UnitsMay PlacesMay May mayB mayB_iff Far take_next lessU i64_t own_down mineL mine_any mine_may)
def Fresh2 (B : Nat) (w : World) (v : Value) : Nat -> Prop := fun b => B <= b /\ Kd.But w v b
def DeepN {α : Type} (K : Kind α) (w : World) (B E : Nat) (v : Value) (n : Nat) (xs : List α) : Prop := Kd.Own K w B E (Fresh2 B w v) v n xs
theorem DeepN.nil {α : Type} (K : Kind α) (w : World) (B E : Nat) : DeepN K w B E (.slice none 0 0) 0 [] := Kd.Own.nil _ _ _ _ _
theorem DeepN.later {α : Type} {K : Kind α} {w w' : World} {B E n : Nat} {v : Value} {xs : List α} (h : DeepN K w B E v n xs) (hb : Below w.heap.size w w') : DeepN K w' B E v n xs :=
  (Kd.Own.stay h (fun b hb2 => hb.block b hb2.2.1) fun g hg => hb.block g (Kd.Own.low h g hg).2).more fun b hb2 => ⟨hb2.1, Kd.but_mono hb.size b hb2.2⟩
theorem DeepN.row {α : Type} {K : Kind α} {w : World} {B E n c : Nat} {A : Option Addr} {xs : List α} (h : DeepN K w B E (.slice A n c) n xs) : Row K w (fun b => B <= b /\ b < w.heap.size) A n xs :=
  (Kd.Own.more h (G := fun b => B <= b /\ b < w.heap.size) fun b hb => ⟨hb.1, hb.2.1⟩).row fun g hg => Kd.Own.low h g hg
theorem wpList_growN {α : Type} {K : Kind α} {P : Program} {B n : Nat} {v : Value} {xs : List α} {x : α} {t e : TypeId} {z : Value} {S b : Nat} (R : RowT P K t e z S b) {W w1 : World} {cs : List Value} {ops : Array Oper} {rest : List Oper} {o : Oper} {a : Act} {Q : Exit -> Act -> World -> Prop} (free : o.guard = none) (s y : Operand)
    (is : o.op = .call { callee := .builtin .append, args := #[s, y], argTypes := #[t, t] }) (hw : w1 = W.alloc (.cells cs.toArray e)) (vs : a.eval s = v) (vx : a.eval y = .slice (some ⟨W.heap.size, 0, none⟩) 1 1) (hO : DeepN K W B e v n xs) (hy : K.rep W (Fresh2 B W v) x cs)
    (hn : (n + 1) * b <= 140737488355328) (hn2 : n + 1 <= 1000000000000) (hB : B <= W.heap.size)
    (go : ∀ g cap w', DeepN K w' B e (.slice (some ⟨g, 0, none⟩) (n + 1) cap) (n + 1) (xs ++ [x]) -> W.grownBy w' v.ownBlock -> (v.ownBlock = some g \/ W.heap.size <= g) -> wpList P ops Q rest (a.put o.dst (.slice (some ⟨g, 0, none⟩) (n + 1) cap)) w') : wpList P ops Q (o :: rest) a w1 := by
  refine Kd.wpList_push R free s y is hw vs vx hO hy hn hn2 hB (fun q hq => hq.2) fun g cap w' hown hg hf => go g cap w' (hown.more fun q hq => ⟨hq.1, ⟨?_, ?_⟩⟩) hg hf
  . exact Nat.lt_of_lt_of_le hq.2.1 hg.size
  . intro e2
    injection e2 with e2
    have e3 : g = q := e2
    subst e3
    rcases hf with h1 | h1
    . exact hq.2.2 h1
    . have := hq.2.1
      omega
theorem DeepN.down {α : Type} {K : Kind α} {w : World} {B B' E n : Nat} {v : Value} {xs : List α} (h : DeepN K w B E v n xs) (hB : B' <= B) : DeepN K w B' E v n xs :=
  own_down (Kd.Own.more h fun b hb => ⟨Nat.le_trans hB hb.1, hb.2⟩) hB
def kW64 : Kind Int where
  size := 1
  rep := fun _ _ z cs => cs = [.int .u64 z] /\ 0 <= z /\ z < 18446744073709551616
  len := by rintro _ _ _ _ ⟨rfl, _⟩; rfl
  stay := fun _ h => h
  more := fun _ h => h
theorem bounds_w64 {a : Int} (h : (Lit.int .u64 a).wf = true) : 0 <= a /\ a < 18446744073709551616 := by
  have h1 := Hk.wf_bounds h
  have h2 : IntKind.u64.min = 0 := rfl
  have h3 : IntKind.u64.max = 18446744073709551615 := rfl
  omega
theorem reads_w64 {P : Program} {t : TypeId} (hu : P.underlying t = some (.int .u64)) (hc : P.cellsOf t = 1) : Kd.Reads P kW64 t := ⟨hc, fun H enc base spare held w cs _ h => by
  obtain ⟨z, rfl, hwf⟩ := h.int hu
  exact ⟨z, rfl, bounds_w64 hwf⟩⟩
theorem row_w64 {w : World} {F : Nat -> Prop} {A : Option Addr} {n k : Nat} {xs : List Int} {x : Int} (h : Row kW64 w F A n xs) (hk : xs[k]? = some x) : ∃ g o, A = some ⟨g, o, none⟩ /\ g < w.heap.size /\ (0 <= x /\ x < 18446744073709551616) /\ w.cell? ⟨g, o + k, none⟩ = some (.int .u64 x) := by
  obtain ⟨g, o, cs, hA, hF, hl, ⟨rfl, hr⟩, hc⟩ := h.each k x hk
  have e : kW64.size = 1 := rfl
  have h0 := hc 0 _ rfl
  rw [e, Nat.mul_one, Nat.add_zero] at h0
  exact ⟨g, o, hA, hl, hr, h0⟩
def bitAt (bits : List Int) (i : Nat) : Int := (bits[i]?).getD 9223372036854775807
def partsL (us : List Unt) (bits : List Int) (n : Nat) : List (List Int) := (List.range n).map fun i => mineL (bitAt bits i) us
theorem partsL_length (us : List Unt) (bits : List Int) (n : Nat) : (partsL us bits n).length = n := by unfold partsL; rw [List.length_map, List.length_range]
theorem partsL_next (us : List Unt) (bits : List Int) (n : Nat) : partsL us bits (n + 1) = partsL us bits n ++ [mineL (bitAt bits n) us] := by
  unfold partsL
  rw [List.range_succ, List.map_append]; rfl
theorem partsL_mem {us : List Unt} {bits : List Int} {n : Nat} {x : List Int} (h : x ∈ partsL us bits n) : ∃ b, x = mineL b us := by
  obtain ⟨i, _, rfl⟩ := List.mem_map.1 h
  exact ⟨_, rfl⟩
def PartsT (w : World) (e : Ending) (w' : World) (ls : List (List Int)) : Prop := ∃ A n c, e = .returned (.slice A n c) /\ n = ls.length /\ Row (kList kInt) w' (fun b => w.heap.size <= b /\ b < w'.heap.size) A n ls /\ Kd.Fit A n c /\ DeepN (kList kInt) w' w.heap.size 36 (.slice A n c) n ls /\ Below w.heap.size w w'
structure Pst (w w1 wr : World) (v : Value) (us : List Unt) (bits : List Int) (k : Nat) : Prop where
  deep : DeepN (kList kInt) wr w1.heap.size 36 v k (partsL us bits k)
  below : Below w1.heap.size w1 wr
set_option maxHeartbeats 4000000 in
theorem parts_any (p : Prm) (l : Prm.Lay) (A : Option Addr) (u cu : Nat) (us : List Unt) (B : Option Addr) (m d : Nat) (bits : List Int) (w : World) (h : Ap.Prm.Holds w (· < w.heap.size) p l) (hU : Row kUnt w (· < w.heap.size) A u us) (hu : u <= 100000) (hg : Row kW64 w (· < w.heap.size) B m bits) (hm : m <= 1000000000000) (hp : p.parts.length <= 1000) :
    Calls Tryz.prog 22 #[.agg #[.string p.id, .int .i64 p.kind, .int .i64 p.priority, .string p.group, .string p.code, .bool p.closes, .slice l.scope.skus.A l.scope.skus.n l.scope.skus.c, .slice l.scope.cats.A l.scope.cats.n l.scope.cats.c, .int .i64 p.least, .int .i64 p.rate, .int .i64 p.amount, .int .i64 p.buy, .int .i64 p.get, .slice l.parts.A l.parts.n l.parts.c, .slice l.tiers.A l.tiers.n l.tiers.c], .slice A u cu, .slice B m d] w fun e w' => PartsT w e w' (partsL us bits p.parts.length) := by
  obtain ⟨w1, hw1⟩ : ∃ w1, w.alloc (.cells #[.string p.id, .int .i64 p.kind, .int .i64 p.priority, .string p.group, .string p.code, .bool p.closes, .slice l.scope.skus.A l.scope.skus.n l.scope.skus.c, .slice l.scope.cats.A l.scope.cats.n l.scope.cats.c, .int .i64 p.least, .int .i64 p.rate, .int .i64 p.amount, .int .i64 p.buy, .int .i64 p.get, .slice l.parts.A l.parts.n l.parts.c, .slice l.tiers.A l.tiers.n l.tiers.c] 28) = w1 := ⟨_, rfl⟩
  have hx : Qu.Blk w1 w.heap.size 28 #[.string p.id, .int .i64 p.kind, .int .i64 p.priority, .string p.group, .string p.code, .bool p.closes, .slice l.scope.skus.A l.scope.skus.n l.scope.skus.c, .slice l.scope.cats.A l.scope.cats.n l.scope.cats.c, .int .i64 p.least, .int .i64 p.rate, .int .i64 p.amount, .int .i64 p.buy, .int .i64 p.get, .slice l.parts.A l.parts.n l.parts.c, .slice l.tiers.A l.tiers.n l.tiers.c] := by rw [<- hw1]; exact Qu.Blk.new w _ _
  have hb1 : Below w.heap.size w w1 := by rw [<- hw1]; exact (Below.refl _ _).alloc (Nat.le_refl _) _
  have x13 := hx.cell 13
  have hLp := h.parts.row.len
  obtain ⟨n, hn⟩ : ∃ n, l.parts.n = n := ⟨_, rfl⟩
  rw [hn] at x13 hLp
  have HX := Lib.hid (show ∀ W, Below w1.heap.size w1 W -> W.cell? ⟨w.heap.size, 13, none⟩ = some (.slice l.parts.A n l.parts.c) from fun W hW => (hW.cell (p := ⟨w.heap.size, _, none⟩) hx.lt).trans x13)
  have HB := Lib.hid hb1
  have HU := Lib.hid (row_on hU hb1)
  have HG := Lib.hid (row_on hg hb1)
  have HLm := Lib.hid hg.len
  have HLp := Lib.hid hLp
  have hn2 : n <= 1000 := by omega
  rw [hLp]
  clear hx hb1 h hn hU hg hLp x13 hp
  go_enter Tryz.func22, Tryz.ntmps22
  go_wp2_with fail
  go_loopw [7, 8] (fun s7 s8 wr => ∃ k : Nat, s8 = .int .i64 k /\ k <= n /\ Hid (Pst w w1 wr s7 us bits k)) (fun _ s8 _ => n - (intOf s8).toNat)
  case atStart => exact ⟨0, rfl, by omega, Lib.hid ⟨DeepN.nil _ _ _ _, Below.refl _ _⟩⟩
  case round =>
    clear hw1
    obtain ⟨k, rfl, hk, HO⟩ := hrel
    have kk : (0 : Int) <= (k : Int) := by omega
    have c13 : wr.cell? ⟨w.heap.size, 13, none⟩ = some (.slice l.parts.A n l.parts.c) := HX.out wr HO.out.below
    by_cases hlt : k < n
    . have k1 : (k : Int) < (n : Int) := by omega
      have hMine := fun b (hb0 : 0 <= b) (hb1 : b < 18446744073709551616) => Ct.mine_any A u cu us b wr (row_on HU.out HO.out.below) hu hb0 hb1
      obtain ⟨A7, c7, e7⟩ := Kd.Own.value HO.out.deep
      have e7' : u7 = .slice A7 k c7 := e7
      subst e7'
      by_cases hkm : k < m
      . obtain ⟨b, hb⟩ := HG.out.get hkm
        obtain ⟨g, o, rfl, hg, hb2, a0⟩ := row_w64 HG.out hb
        have c0 : wr.cell? ⟨g, o + k, none⟩ = some (.int .u64 b) := (HO.out.below.cell (p := ⟨g, _, none⟩) hg).trans a0
        have k2 : (k : Int) < (m : Int) := by omega
        have hM2 := hMine b hb2.1 hb2.2
        have hN : partsL us bits (k + 1) = partsL us bits k ++ [mineL b us] := by rw [partsL_next]; unfold bitAt; rw [hb]; rfl
        have HN := Lib.hid hN
        unfold Ko.Told at hM2
        obtain ⟨D, hD⟩ : ∃ D, mineL b us = D := ⟨_, rfl⟩
        obtain ⟨q7, hq7⟩ : ∃ q7, D.length = q7 := ⟨_, rfl⟩
        simp only [hD, hq7] at hM2
        rw [hD] at HN
        have HM := Lib.hid hM2
        clear hM2 hMine a0 hg hb hD hq7 hN hb2
        go_wp2_with fail
        refine HM.out.mono ?_
        rintro e w7 ⟨Am, cm, rfl, ho7, hb7⟩
        have HW : Hid (DeepN (kList kInt) w7 w1.heap.size 36 (.slice A7 k c7) k (partsL us bits k) /\ (kList kInt).rep w7 (Fresh2 w1.heap.size w7 (.slice A7 k c7)) D [.slice Am q7 cm] /\ Below w1.heap.size w1 w7 /\ w1.heap.size <= w7.heap.size) := Lib.hid (by
          have hb17 := HO.out.below.trans (hb7.mono HO.out.below.size)
          have hs := HB.out.size
          have hs2 := HO.out.below.size
          refine ⟨HO.out.deep.later hb7, ⟨Am, q7, cm, rfl, (ho7.more (G := Fresh2 w1.heap.size w7 (.slice A7 k c7)) fun _ h => h.elim).row fun g hg => ?_, ho7.fit⟩, hb17, by have := hb7.size; omega⟩
          have h1 := ho7.low g hg
          exact ⟨by omega, h1.2, fun e => by have := (Kd.Own.low HO.out.deep g e).2; omega⟩)
        clear ho7 hb7
        go_wp2_with (at_builtin; refine wpList_growN (W := w7) (B := w1.heap.size) (n := k) (v := .slice A7 k c7) (xs := partsL us bits k) (x := D) (cs := [.slice Am q7 cm]) Ap.ints_t rfl _ _ rfl rfl rfl rfl HW.out.1 HW.out.2.1 (by omega) (by omega) HW.out.2.2.2 ?_; intro g1 cap w' hdeep hgrow hfr; have HGn : Hid (Pst w w1 w' (.slice (some ⟨g1, 0, none⟩) (k + 1) cap) us bits (k + 1)) := Lib.hid ⟨by rw [HN.out]; exact hdeep, HW.out.2.2.1.grown hgrow HW.out.2.2.2 (fun i hi => (Kd.Own.low HW.out.1 i hi).1)⟩; clear hdeep hgrow hfr)
        go_roundw
        case rel => exact ⟨k + 1, by go_num, by omega, HGn⟩
        case measure => simp [intOf]; omega
      . have k2 : ¬ (k : Int) < (m : Int) := by omega
        have hM2 := hMine 9223372036854775807 (by decide) (by decide)
        have hN : partsL us bits (k + 1) = partsL us bits k ++ [mineL 9223372036854775807 us] := by rw [partsL_next]; unfold bitAt; rw [List.getElem?_eq_none (by rw [HLm.out]; omega)]; rfl
        have HN := Lib.hid hN
        unfold Ko.Told at hM2
        obtain ⟨D, hD⟩ : ∃ D, mineL 9223372036854775807 us = D := ⟨_, rfl⟩
        obtain ⟨q7, hq7⟩ : ∃ q7, D.length = q7 := ⟨_, rfl⟩
        simp only [hD, hq7] at hM2
        rw [hD] at HN
        have HM := Lib.hid hM2
        clear hM2 hMine hD hq7 hN
        go_wp2_with fail
        refine HM.out.mono ?_
        rintro e w7 ⟨Am, cm, rfl, ho7, hb7⟩
        have HW : Hid (DeepN (kList kInt) w7 w1.heap.size 36 (.slice A7 k c7) k (partsL us bits k) /\ (kList kInt).rep w7 (Fresh2 w1.heap.size w7 (.slice A7 k c7)) D [.slice Am q7 cm] /\ Below w1.heap.size w1 w7 /\ w1.heap.size <= w7.heap.size) := Lib.hid (by
          have hb17 := HO.out.below.trans (hb7.mono HO.out.below.size)
          have hs := HB.out.size
          have hs2 := HO.out.below.size
          refine ⟨HO.out.deep.later hb7, ⟨Am, q7, cm, rfl, (ho7.more (G := Fresh2 w1.heap.size w7 (.slice A7 k c7)) fun _ h => h.elim).row fun g hg => ?_, ho7.fit⟩, hb17, by have := hb7.size; omega⟩
          have h1 := ho7.low g hg
          exact ⟨by omega, h1.2, fun e => by have := (Kd.Own.low HO.out.deep g e).2; omega⟩)
        clear ho7 hb7
        go_wp2_with (at_builtin; refine wpList_growN (W := w7) (B := w1.heap.size) (n := k) (v := .slice A7 k c7) (xs := partsL us bits k) (x := D) (cs := [.slice Am q7 cm]) Ap.ints_t rfl _ _ rfl rfl rfl rfl HW.out.1 HW.out.2.1 (by omega) (by omega) HW.out.2.2.2 ?_; intro g1 cap w' hdeep hgrow hfr; have HGn : Hid (Pst w w1 w' (.slice (some ⟨g1, 0, none⟩) (k + 1) cap) us bits (k + 1)) := Lib.hid ⟨by rw [HN.out]; exact hdeep, HW.out.2.2.1.grown hgrow HW.out.2.2.2 (fun i hi => (Kd.Own.low HW.out.1 i hi).1)⟩; clear hdeep hgrow hfr)
        go_roundw
        case rel => exact ⟨k + 1, by go_num, by omega, HGn⟩
        case measure => simp [intOf]; omega
    . have k1 : ¬ (k : Int) < (n : Int) := by omega
      obtain rfl : k = n := by omega
      obtain ⟨A7, c7, e7⟩ := Kd.Own.value HO.out.deep
      have e7' : u7 = .slice A7 k c7 := e7
      subst e7'
      have HE : Hid (PartsT w (.returned (.slice A7 k c7)) wr (partsL us bits k)) := Lib.hid ⟨A7, k, c7, rfl, (partsL_length us bits k).symm, DeepN.row (HO.out.deep.down HB.out.size), Kd.Own.fit HO.out.deep, HO.out.deep.down HB.out.size, HB.out.trans (HO.out.below.mono HB.out.size)⟩
      go_wp2
      go_ret
      exact HE.out
end Go.Proofs.YtljmddjlnlmenaaGreat.Dl
