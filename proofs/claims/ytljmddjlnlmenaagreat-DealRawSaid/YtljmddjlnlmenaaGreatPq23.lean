/- Deals: rows of noughts; the landed BuyGet (made by gen-buyget16.py). -/
import Derived.Deep.CutBlock
import Derived.Deep.DeepCutAuto
import Derived.Test.YtljmddjlnlmenaaGreatPq21
import Derived.Test.YtljmddjlnlmenaaGreatPq22
set_option maxRecDepth 100000
set_option linter.unusedVariables false

namespace Go.Proofs.YtljmddjlnlmenaaGreat.Dl
open Go.ChangeShapes Go.WideShapes Go.ChangeAt Go.RowKit
open Ap (Unt Tir Prm kUnt kTir row_Unt row_Tir)
open Kd (Kind Row RowT kInt kFlag row_int)
open Ko (Out Told Told2 At row_on)
open Ct (nth nth_some netAt netsL sumL sumL_append sumL_next halfN UnitsMay PlacesMay May mayB mayB_iff Far take_next lessU SumOk PlacesIn i64_t own_down told2_of)
theorem flag_t : RowT Tryz.prog kFlag 65 4 (.bool false) 1 1 :=
  ⟨Tryz.underlying65, by kernel_rfl, rfl, rfl, by omega, fun h => by
    obtain rfl := h
    intro u hu
    simp only [List.mem_cons, List.not_mem_nil, or_false] at hu
    subst hu; rfl⟩
theorem cells_rep {α : Type} {K : Kind α} {w : World} {F : Nat -> Prop} {x : α} {v : Value} (h : K.rep w F x [v]) : ∀ n, Kd.Cells K w F (List.replicate n x) (List.replicate n v)
  | 0 => rfl
  | n + 1 => ⟨[v], List.replicate n v, rfl, h, cells_rep h n⟩
theorem made_full {α : Type} {P : Program} {K : Kind α} {t e b : Nat} {z : Value} (R : RowT P K t e z 1 b) (v : Value) (hv : z.cells = #[v]) (x0 : α) (hx : ∀ w F, K.rep w F x0 [v]) (n : Nat) (hn : b * n <= 281474976710656) (hn2 : n <= 1000000000000) :
    ∃ M : Array Value, (∀ W : World, (Instr.makeSlice t (.int .i64 (n : Int)) (.int .i64 (n : Int))).run P W = .ok (.slice (some ⟨W.heap.size, 0, none⟩) n n) (W.alloc (.cells M e))) /\
      ∀ (W : World) (B : Nat), B <= W.heap.size -> Kd.Own K (W.alloc (.cells M e)) B e (fun _ => False) (.slice (some ⟨W.heap.size, 0, none⟩) n n) n (List.replicate n x0) := by
  obtain ⟨i0, hi0, hz0, hz1, hz2⟩ := info_parts R.info
  refine ⟨madeCells z.cells (n * 1), fun W => ?_, fun W B hB => ?_⟩
  . have h2 : ((b * n : Nat) : Int) <= 281474976710656 := by omega
    have h3 : (i0.bytes : Int) * (n : Int) <= 281474976710656 := by rw [hz2]; rw [Int.natCast_mul] at h2; exact h2
    have hr := run_make (P := P) W t e i0 _ R.ut hi0 hz0 .i64 .i64 (n : Int) (n : Int) (by omega) (by omega) h3 (by omega)
    rw [hz1] at hr
    rw [Int.toNat_natCast] at hr
    exact hr
  . have hc : (madeCells z.cells (n * 1)).toList = List.replicate n v := by
      rw [Nat.mul_one, hv]
      exact toList_madeCells_one _ _
    refine Kd.own_blk (cs := List.replicate n v) (cur := madeCells z.cells (n * 1)) (Qu.Blk.new W _ _) hB List.length_replicate (cells_rep (hx _ _) n) (Nat.le_refl _) (by unfold maxLen; omega) (by rw [size_madeCells, R.size]) ?_
    rw [hc, R.size, Nat.mul_one, List.take_of_length_le (by rw [List.length_replicate]; exact Nat.le_refl _)]
def offsUp (p : Prm) (us : List Unt) (ds : List Int) (k : Nat) : List Int := offsFrom p us 0 (ds.take k) ++ List.replicate (ds.length - k) 0
theorem offsUp_zero (p : Prm) (us : List Unt) (ds : List Int) : offsUp p us ds 0 = List.replicate ds.length 0 := by unfold offsUp; rw [List.take_zero]; rfl
theorem offsUp_full (p : Prm) (us : List Unt) (ds : List Int) : offsUp p us ds ds.length = offsFrom p us 0 ds := by
  unfold offsUp
  rw [List.take_length, Nat.sub_self]
  simp
theorem offsUp_next {p : Prm} {us : List Unt} {ds : List Int} {k : Nat} {m : Int} (h : ds[k]? = some m) : offsUp p us ds (k + 1) = (offsUp p us ds k).set k (offAt p us k m) := by
  have hk := (List.getElem?_eq_some_iff.1 h).1
  have hl : (offsFrom p us 0 (ds.take k)).length = k := by rw [offsFrom_length, List.length_take]; omega
  unfold offsUp
  rw [offsFrom_next h, List.set_append_right _ _ (by omega), hl, Nat.sub_self, show ds.length - k = (ds.length - (k + 1)) + 1 by omega, List.replicate_succ, List.set_cons_zero, List.append_assoc]
  rfl
theorem offsUp_same {p : Prm} {us : List Unt} {ds : List Int} {k : Nat} {m : Int} (h : ds[k]? = some m) (e : offAt p us k m = 0) : offsUp p us ds (k + 1) = offsUp p us ds k := by
  have hk := (List.getElem?_eq_some_iff.1 h).1
  unfold offsUp
  rw [offsFrom_next h, e, List.append_assoc, show ds.length - k = (ds.length - (k + 1)) + 1 by omega, List.replicate_succ]
  rfl
structure Ns (w wr : World) (g n : Nat) (xs : List Int) : Prop where
  own : Kd.Own kInt wr w.heap.size 2 (fun _ => False) (.slice (some ⟨g, 0, none⟩) n n) n xs
  below : Below w.heap.size w wr
theorem Ns.later {w wr w' : World} {g n : Nat} {xs : List Int} (h : Ns w wr g n xs) (hb : Below wr.heap.size wr w') : Ns w w' g n xs := ⟨h.own.later hb, h.below.trans (hb.mono h.below.size)⟩
theorem Ns.drew {w wr : World} {g n : Nat} {xs : List Int} (h : Ns w wr g n xs) : Ns w wr.drew g n xs := h.later (Below.refl _ _).drew
theorem Ns.get {w wr : World} {g n k : Nat} {xs : List Int} (h : Ns w wr g n xs) (hk : k < n) : (∃ u, wr.cell? ⟨g, k, none⟩ = some u) /\ wr.frozen? ⟨g, k, none⟩ = false := by
  have := h.own.cell (K := kInt) hk (j := 0) (by decide)
  rw [show k * kInt.size + 0 = k from Nat.mul_one k] at this
  exact this
theorem Ns.put {w wr : World} {g n k : Nat} {xs : List Int} {x v : Int} (h : Ns w wr g n xs) (hx : xs[k]? = some x) (hv : -9223372036854775808 <= v /\ v <= 9223372036854775807) : Ns w (wr.setCell ⟨g, k, none⟩ (.int .i64 v)) g n (xs.set k v) := by
  have hlt : w.heap.size <= g := (h.own.low g rfl).1
  have h1 := Kd.Own.put (K := kInt) (k := k) (j := 0) (x := x) (x' := v) (a := [.int .i64 x]) (u := .int .i64 v) h.own hx (fun h => h.1) (by decide) ⟨rfl, hv⟩ (fun _ h => h.elim)
  rw [show k * kInt.size + 0 = k from Nat.mul_one k] at h1
  exact ⟨h1.1, h.below.setCell hlt _⟩
theorem rem_any (k R r : Nat) (h : k % R = r) : (k : Int).tmod (R : Int) = (r : Int) := by
  rw [Int.tmod_eq_emod_of_nonneg (Int.natCast_nonneg k), <- h]; rfl
set_option maxHeartbeats 1000000 in
theorem lbuyget_bad (p : Prm) (l : Prm.Lay) (A : Option Addr) (n c : Nat) (us : List Unt) (B : Option Addr) (m d : Nat) (ms : List Int) (w : World) (hPr : ∀ W, Below w.heap.size w W -> Calls Tryz.prog 25 #[.agg #[.string p.id, .int .i64 p.kind, .int .i64 p.priority, .string p.group, .string p.code, .bool p.closes, .slice l.scope.skus.A l.scope.skus.n l.scope.skus.c, .slice l.scope.cats.A l.scope.cats.n l.scope.cats.c, .int .i64 p.least, .int .i64 p.rate, .int .i64 p.amount, .int .i64 p.buy, .int .i64 p.get, .slice l.parts.A l.parts.n l.parts.c, .slice l.tiers.A l.tiers.n l.tiers.c]] W fun e w' => e = .returned (.bool (Pr.promoB p)) /\ Below W.heap.size W w') (h : Row kUnt w (· < w.heap.size) A n us) (hf : Kd.Fit A n c) (hg : Row kInt w (· < w.heap.size) B m ms) (hn : n <= 1000000000000) (hm : m <= 1000000000000) (hb : Pr.promoB p = false) :
    Calls Tryz.prog 11 #[.agg #[.string p.id, .int .i64 p.kind, .int .i64 p.priority, .string p.group, .string p.code, .bool p.closes, .slice l.scope.skus.A l.scope.skus.n l.scope.skus.c, .slice l.scope.cats.A l.scope.cats.n l.scope.cats.c, .int .i64 p.least, .int .i64 p.rate, .int .i64 p.amount, .int .i64 p.buy, .int .i64 p.get, .slice l.parts.A l.parts.n l.parts.c, .slice l.tiers.A l.tiers.n l.tiers.c], .slice A n c, .slice B m d] w fun e w' => Ko.Told2 kUnt 35 w e w' (buygetU p us ms).1 (buygetU p us ms).2 := by
  have HAp : Hid (buygetU p us ms = (us, 0)) := Lib.hid (by unfold buygetU; rw [hb]; rfl)
  rw [hb] at hPr
  obtain ⟨w1, hw1⟩ : ∃ w1, w.alloc (.cells #[.string p.id, .int .i64 p.kind, .int .i64 p.priority, .string p.group, .string p.code, .bool p.closes, .slice l.scope.skus.A l.scope.skus.n l.scope.skus.c, .slice l.scope.cats.A l.scope.cats.n l.scope.cats.c, .int .i64 p.least, .int .i64 p.rate, .int .i64 p.amount, .int .i64 p.buy, .int .i64 p.get, .slice l.parts.A l.parts.n l.parts.c, .slice l.tiers.A l.tiers.n l.tiers.c] 28) = w1 := ⟨_, rfl⟩
  have hb1 : Below w.heap.size w w1 := by rw [<- hw1]; exact (Below.refl _ _).alloc (Nat.le_refl _) _
  have hx : Qu.Blk w1 w.heap.size 28 #[.string p.id, .int .i64 p.kind, .int .i64 p.priority, .string p.group, .string p.code, .bool p.closes, .slice l.scope.skus.A l.scope.skus.n l.scope.skus.c, .slice l.scope.cats.A l.scope.cats.n l.scope.cats.c, .int .i64 p.least, .int .i64 p.rate, .int .i64 p.amount, .int .i64 p.buy, .int .i64 p.get, .slice l.parts.A l.parts.n l.parts.c, .slice l.tiers.A l.tiers.n l.tiers.c] := by rw [<- hw1]; exact Qu.Blk.new w _ _
  have HK := Lib.hid (And.intro hb1 (fun u (hu : Below w1.heap.size w1 u) => hx.below hu))
  have HR := Lib.hid (fun W (hb : Below w1.heap.size w1 W) => hPr W (hb1.trans (hb.mono hb1.size)))
  have HM := Lib.hid (fun W (hb : Below w1.heap.size w1 W) => Ct.lmay_any A n c us B m d ms W (row_on (row_on h hb1) hb) hn (row_on (row_on hg hb1) hb) hm)
  have HC := Lib.hid (fun W (hb : Below w1.heap.size w1 W) => Ct.cloneU_any A n c us W (row_on (row_on h hb1) hb) hf hn)
  have x0 := hx.cell 0; have x1 := hx.cell 1; have x2 := hx.cell 2; have x3 := hx.cell 3; have x4 := hx.cell 4; have x5 := hx.cell 5; have x6 := hx.cell 6; have x7 := hx.cell 7; have x8 := hx.cell 8; have x9 := hx.cell 9; have x10 := hx.cell 10; have x11 := hx.cell 11; have x12 := hx.cell 12; have x13 := hx.cell 13; have x14 := hx.cell 14
  clear hPr h hf hg hn hm hb hb1 hx
  go_enter Tryz.func11, Tryz.ntmps11
  go_wp2_with (first
    | (go_at_call 25; with_reducible refine (HR.out _ (Below.refl _ _)).mono ?_; rintro e w3 ⟨rfl, hb3⟩; have HO3 := Lib.hid hb3; clear hb3)
    | (go_at_call 27; with_reducible refine (HC.out w3 HO3.out).mono ?_; rintro e w5 ⟨A3, cq, rfl, ho5, hb5⟩; have HO5 := Lib.hid (And.intro ho5 hb5); clear ho5 hb5))
  refine bodyPost_ret (results_tmp2 rfl _ _ _) rfl ?_
  rw [HAp.out]
  have hs := Nat.le_trans HK.out.1.size HO3.out.size
  exact told2_of (own_down HO5.out.1 hs) (HK.out.1.trans ((HO3.out.trans (HO5.out.2.mono HO3.out.size)).mono HK.out.1.size)) 0
set_option maxHeartbeats 1000000 in
theorem lbuyget_kind (p : Prm) (l : Prm.Lay) (A : Option Addr) (n c : Nat) (us : List Unt) (B : Option Addr) (m d : Nat) (ms : List Int) (w : World) (hPr : ∀ W, Below w.heap.size w W -> Calls Tryz.prog 25 #[.agg #[.string p.id, .int .i64 p.kind, .int .i64 p.priority, .string p.group, .string p.code, .bool p.closes, .slice l.scope.skus.A l.scope.skus.n l.scope.skus.c, .slice l.scope.cats.A l.scope.cats.n l.scope.cats.c, .int .i64 p.least, .int .i64 p.rate, .int .i64 p.amount, .int .i64 p.buy, .int .i64 p.get, .slice l.parts.A l.parts.n l.parts.c, .slice l.tiers.A l.tiers.n l.tiers.c]] W fun e w' => e = .returned (.bool (Pr.promoB p)) /\ Below W.heap.size W w') (h : Row kUnt w (· < w.heap.size) A n us) (hf : Kd.Fit A n c) (hg : Row kInt w (· < w.heap.size) B m ms) (hn : n <= 1000000000000) (hm : m <= 1000000000000) (hb : Pr.promoB p = true) (hk : p.kind ≠ 3) :
    Calls Tryz.prog 11 #[.agg #[.string p.id, .int .i64 p.kind, .int .i64 p.priority, .string p.group, .string p.code, .bool p.closes, .slice l.scope.skus.A l.scope.skus.n l.scope.skus.c, .slice l.scope.cats.A l.scope.cats.n l.scope.cats.c, .int .i64 p.least, .int .i64 p.rate, .int .i64 p.amount, .int .i64 p.buy, .int .i64 p.get, .slice l.parts.A l.parts.n l.parts.c, .slice l.tiers.A l.tiers.n l.tiers.c], .slice A n c, .slice B m d] w fun e w' => Ko.Told2 kUnt 35 w e w' (buygetU p us ms).1 (buygetU p us ms).2 := by
  have HAp : Hid (buygetU p us ms = (us, 0)) := Lib.hid (by
    have e : (p.kind == 3) = false := by rw [beq_eq_false_iff_ne]; exact hk
    unfold buygetU; rw [hb, e]; rfl)
  rw [hb] at hPr
  have HKd := Lib.hid hk
  obtain ⟨w1, hw1⟩ : ∃ w1, w.alloc (.cells #[.string p.id, .int .i64 p.kind, .int .i64 p.priority, .string p.group, .string p.code, .bool p.closes, .slice l.scope.skus.A l.scope.skus.n l.scope.skus.c, .slice l.scope.cats.A l.scope.cats.n l.scope.cats.c, .int .i64 p.least, .int .i64 p.rate, .int .i64 p.amount, .int .i64 p.buy, .int .i64 p.get, .slice l.parts.A l.parts.n l.parts.c, .slice l.tiers.A l.tiers.n l.tiers.c] 28) = w1 := ⟨_, rfl⟩
  have hb1 : Below w.heap.size w w1 := by rw [<- hw1]; exact (Below.refl _ _).alloc (Nat.le_refl _) _
  have hx : Qu.Blk w1 w.heap.size 28 #[.string p.id, .int .i64 p.kind, .int .i64 p.priority, .string p.group, .string p.code, .bool p.closes, .slice l.scope.skus.A l.scope.skus.n l.scope.skus.c, .slice l.scope.cats.A l.scope.cats.n l.scope.cats.c, .int .i64 p.least, .int .i64 p.rate, .int .i64 p.amount, .int .i64 p.buy, .int .i64 p.get, .slice l.parts.A l.parts.n l.parts.c, .slice l.tiers.A l.tiers.n l.tiers.c] := by rw [<- hw1]; exact Qu.Blk.new w _ _
  have HK := Lib.hid (And.intro hb1 (fun u (hu : Below w1.heap.size w1 u) => hx.below hu))
  have HR := Lib.hid (fun W (hb : Below w1.heap.size w1 W) => hPr W (hb1.trans (hb.mono hb1.size)))
  have HM := Lib.hid (fun W (hb : Below w1.heap.size w1 W) => Ct.lmay_any A n c us B m d ms W (row_on (row_on h hb1) hb) hn (row_on (row_on hg hb1) hb) hm)
  have HC := Lib.hid (fun W (hb : Below w1.heap.size w1 W) => Ct.cloneU_any A n c us W (row_on (row_on h hb1) hb) hf hn)
  have hkb : (p.kind == 3) = false := by rw [beq_eq_false_iff_ne]; exact hk
  have x0 := hx.cell 0; have x1 := hx.cell 1; have x2 := hx.cell 2; have x3 := hx.cell 3; have x4 := hx.cell 4; have x5 := hx.cell 5; have x6 := hx.cell 6; have x7 := hx.cell 7; have x8 := hx.cell 8; have x9 := hx.cell 9; have x10 := hx.cell 10; have x11 := hx.cell 11; have x12 := hx.cell 12; have x13 := hx.cell 13; have x14 := hx.cell 14
  clear hPr h hf hg hn hm hb hb1 hx hk
  go_enter Tryz.func11, Tryz.ntmps11
  go_wp2_with (first
    | (go_at_call 25; with_reducible refine (HR.out _ (Below.refl _ _)).mono ?_; rintro e w3 ⟨rfl, hb3⟩; have y1 := (HK.out.2 w3 hb3).cell 1; have HO3 := Lib.hid hb3; clear hb3)
    | (go_at_call 27; with_reducible refine (HC.out w3 HO3.out).mono ?_; rintro e w5 ⟨A3, cq, rfl, ho5, hb5⟩; have HO5 := Lib.hid (And.intro ho5 hb5); clear ho5 hb5))
  refine bodyPost_ret (results_tmp2 rfl _ _ _) rfl ?_
  rw [HAp.out]
  have hs := Nat.le_trans HK.out.1.size HO3.out.size
  exact told2_of (own_down HO5.out.1 hs) (HK.out.1.trans ((HO3.out.trans (HO5.out.2.mono HO3.out.size)).mono HK.out.1.size)) 0
set_option maxHeartbeats 1000000 in
theorem lbuyget_not (p : Prm) (l : Prm.Lay) (A : Option Addr) (n c : Nat) (us : List Unt) (B : Option Addr) (m d : Nat) (ms : List Int) (w : World) (hPr : ∀ W, Below w.heap.size w W -> Calls Tryz.prog 25 #[.agg #[.string p.id, .int .i64 p.kind, .int .i64 p.priority, .string p.group, .string p.code, .bool p.closes, .slice l.scope.skus.A l.scope.skus.n l.scope.skus.c, .slice l.scope.cats.A l.scope.cats.n l.scope.cats.c, .int .i64 p.least, .int .i64 p.rate, .int .i64 p.amount, .int .i64 p.buy, .int .i64 p.get, .slice l.parts.A l.parts.n l.parts.c, .slice l.tiers.A l.tiers.n l.tiers.c]] W fun e w' => e = .returned (.bool (Pr.promoB p)) /\ Below W.heap.size W w') (h : Row kUnt w (· < w.heap.size) A n us) (hf : Kd.Fit A n c) (hg : Row kInt w (· < w.heap.size) B m ms) (hn : n <= 1000000000000) (hm : m <= 1000000000000) (hb : Pr.promoB p = true) (hk : p.kind = 3) (hmb : mayB us ms = false) :
    Calls Tryz.prog 11 #[.agg #[.string p.id, .int .i64 p.kind, .int .i64 p.priority, .string p.group, .string p.code, .bool p.closes, .slice l.scope.skus.A l.scope.skus.n l.scope.skus.c, .slice l.scope.cats.A l.scope.cats.n l.scope.cats.c, .int .i64 p.least, .int .i64 p.rate, .int .i64 p.amount, .int .i64 p.buy, .int .i64 p.get, .slice l.parts.A l.parts.n l.parts.c, .slice l.tiers.A l.tiers.n l.tiers.c], .slice A n c, .slice B m d] w fun e w' => Ko.Told2 kUnt 35 w e w' (buygetU p us ms).1 (buygetU p us ms).2 := by
  have HAp : Hid (buygetU p us ms = (us, 0)) := Lib.hid (by unfold buygetU; rw [hb, hmb, Bool.and_false]; rfl)
  rw [hb] at hPr
  have HKd := Lib.hid hk
  obtain ⟨w1, hw1⟩ : ∃ w1, w.alloc (.cells #[.string p.id, .int .i64 p.kind, .int .i64 p.priority, .string p.group, .string p.code, .bool p.closes, .slice l.scope.skus.A l.scope.skus.n l.scope.skus.c, .slice l.scope.cats.A l.scope.cats.n l.scope.cats.c, .int .i64 p.least, .int .i64 p.rate, .int .i64 p.amount, .int .i64 p.buy, .int .i64 p.get, .slice l.parts.A l.parts.n l.parts.c, .slice l.tiers.A l.tiers.n l.tiers.c] 28) = w1 := ⟨_, rfl⟩
  have hb1 : Below w.heap.size w w1 := by rw [<- hw1]; exact (Below.refl _ _).alloc (Nat.le_refl _) _
  have hx : Qu.Blk w1 w.heap.size 28 #[.string p.id, .int .i64 p.kind, .int .i64 p.priority, .string p.group, .string p.code, .bool p.closes, .slice l.scope.skus.A l.scope.skus.n l.scope.skus.c, .slice l.scope.cats.A l.scope.cats.n l.scope.cats.c, .int .i64 p.least, .int .i64 p.rate, .int .i64 p.amount, .int .i64 p.buy, .int .i64 p.get, .slice l.parts.A l.parts.n l.parts.c, .slice l.tiers.A l.tiers.n l.tiers.c] := by rw [<- hw1]; exact Qu.Blk.new w _ _
  have HK := Lib.hid (And.intro hb1 (fun u (hu : Below w1.heap.size w1 u) => hx.below hu))
  have HR := Lib.hid (fun W (hb : Below w1.heap.size w1 W) => hPr W (hb1.trans (hb.mono hb1.size)))
  have HM := Lib.hid (fun W (hb : Below w1.heap.size w1 W) => Ct.lmay_any A n c us B m d ms W (row_on (row_on h hb1) hb) hn (row_on (row_on hg hb1) hb) hm)
  have HC := Lib.hid (fun W (hb : Below w1.heap.size w1 W) => Ct.cloneU_any A n c us W (row_on (row_on h hb1) hb) hf hn)
  simp only [hmb] at HM
  have x0 := hx.cell 0; have x1 := hx.cell 1; have x2 := hx.cell 2; have x3 := hx.cell 3; have x4 := hx.cell 4; have x5 := hx.cell 5; have x6 := hx.cell 6; have x7 := hx.cell 7; have x8 := hx.cell 8; have x9 := hx.cell 9; have x10 := hx.cell 10; have x11 := hx.cell 11; have x12 := hx.cell 12; have x13 := hx.cell 13; have x14 := hx.cell 14
  clear hPr h hf hg hn hm hb hb1 hx hk hmb
  go_enter Tryz.func11, Tryz.ntmps11
  go_wp2_with (first
    | (go_at_call 25; with_reducible refine (HR.out _ (Below.refl _ _)).mono ?_; rintro e w3 ⟨rfl, hb3⟩; have y1 := (HK.out.2 w3 hb3).cell 1; rw [HKd.out] at y1; have HO3 := Lib.hid hb3; clear hb3)
    | (go_at_call 26; with_reducible refine (HM.out w3 HO3.out).mono ?_; rintro e w4 ⟨rfl, hb4⟩; have HO4 := Lib.hid (HO3.out.trans (hb4.mono HO3.out.size)); clear hb4)
    | (go_at_call 27; with_reducible refine (HC.out w4 HO4.out).mono ?_; rintro e w5 ⟨A3, cq, rfl, ho5, hb5⟩; have HO5 := Lib.hid (And.intro ho5 hb5); clear ho5 hb5))
  refine bodyPost_ret (results_tmp2 rfl _ _ _) rfl ?_
  rw [HAp.out]
  have hs := Nat.le_trans HK.out.1.size HO4.out.size
  exact told2_of (own_down HO5.out.1 hs) (HK.out.1.trans ((HO4.out.trans (HO5.out.2.mono HO4.out.size)).mono HK.out.1.size)) 0
end Go.Proofs.YtljmddjlnlmenaaGreat.Dl
