/- Deals: units of one price (the maths of DealFree). · Deals: units and places made side by side (for DealFree and DealSums). -/
import Derived.Test.YtljmddjlnlmenaaPk25

section
set_option maxRecDepth 100000
set_option linter.unusedVariables false
namespace Go.Proofs.Ytljmddjlnlmenaa.Dl
open Go.ChangeShapes Go.WideShapes Go.ChangeAt Go.RowKit
open Ap (Unt Tir Prm Prt kUnt kTir kPrt row_Unt row_Tir row_Prt)
open Ct (nth nth_some netAt netsL sumL sumL_append UnitsMay PlacesMay May mayB mayB_iff mayB_yes halfN lessU take_next)
def sameU (n : Nat) (net : Int) : List Unt := List.replicate n ⟨0, net, true⟩
def iotaL (n : Nat) : List Int := (List.range n).map Int.ofNat
theorem iotaL_length (n : Nat) : (iotaL n).length = n := by unfold iotaL; rw [List.length_map, List.length_range]
theorem iotaL_get {n i : Nat} (h : i < n) : (iotaL n)[i]? = some (i : Int) := by
  unfold iotaL
  rw [List.getElem?_map, List.getElem?_range h]; rfl
theorem iotaL_next (n : Nat) : iotaL (n + 1) = iotaL n ++ [(n : Int)] := by
  unfold iotaL
  rw [List.range_succ, List.map_append]; rfl
theorem iotaL_take {n k : Nat} (h : k ≤ n) : (iotaL n).take k = iotaL k := by
  unfold iotaL
  rw [← List.map_take, List.take_range, Nat.min_eq_left h]
theorem sameU_get {n i : Nat} {net : Int} (h : i < n) : (sameU n net)[i]? = some ⟨0, net, true⟩ := by
  unfold sameU
  rw [List.getElem?_replicate, if_pos h]
theorem ins_last {x : Qu.Pt} : ∀ {l : List Qu.Pt}, (∀ y ∈ l, Qu.aheadB x y = false) → Qu.ins x l = l ++ [x]
  | [], _ => rfl
  | y :: l, h => by rw [ins_by (h y List.mem_cons_self), ins_last fun z hz => h z (List.mem_cons_of_mem _ hz)]; rfl
theorem same_net {n i : Nat} {net : Int} (h : i < n) : netAt (sameU n net) (i : Int) = net := by
  unfold netAt
  rw [Int.toNat_natCast, sameU_get h]
theorem same_dearK {n : Nat} {net : Int} : ∀ k, k ≤ n → dearK (sameU n net) (iotaL n) k = (iotaL k).map fun m => (net, m)
  | 0, _ => rfl
  | k + 1, h => by
    rw [dearK, same_dearK k (by omega), nth_some (iotaL_get (show k < n by omega)), iotaL_next, List.map_append]
    have hp : pt (sameU n net) (k : Int) = (net, (k : Int)) := by unfold pt; rw [same_net (by omega)]
    rw [hp]
    refine ins_last fun y hy => ?_
    obtain ⟨m, hm, rfl⟩ := List.mem_map.1 hy
    refine (Qu.not_ahead _ _).2 ?_
    unfold iotaL at hm
    obtain ⟨j, hj, rfl⟩ := List.mem_map.1 hm
    have hj2 := List.mem_range.1 hj
    show ¬ (net < net ∨ net = net ∧ (k : Int) < Int.ofNat j)
    have : Int.ofNat j = (j : Int) := rfl
    omega
theorem same_dear (n : Nat) (net : Int) : dearL (sameU n net) (iotaL n) = iotaL n := by
  unfold dearL dearP places
  rw [iotaL_length, same_dearK n (Nat.le_refl _), List.map_map]
  have : ((fun x : Qu.Pt => x.2) ∘ fun m : Int => (net, m)) = id := rfl
  rw [this, List.map_id]
theorem same_whole (p : Prm) (n : Nat) (net : Int) : wholeL p (sameU n net) (iotaL n) = iotaL (n - n % rowN p) := by
  unfold wholeL
  rw [same_dear, iotaL_length, iotaL_take (by omega)]
theorem same_may {n : Nat} {net : Int} (hn : n ≤ 100000) (h0 : 0 ≤ net) (ht : (n : Int) * net ≤ 10000000000000) : mayB (sameU n net) (iotaL n) = true := by
  have hs : ∀ k : Nat, Ct.nsum (List.replicate k (⟨0, net, true⟩ : Unt)) = (k : Int) * net := fun k => by
    induction k with
    | zero => simp [Ct.nsum]
    | succ k ih =>
      rw [List.replicate_succ]
      show net + Ct.nsum (List.replicate k _) = _
      rw [ih, Int.natCast_succ, Int.add_mul]
      omega
  refine mayB_yes ⟨⟨by unfold sameU; rw [List.length_replicate]; exact hn, fun k u hu => ?_, by unfold sameU; rw [hs]; exact ht⟩, ⟨fun i m hm => ?_, fun i a b ha hb => ?_⟩⟩
  · have hk := (List.getElem?_eq_some_iff.1 hu).1
    unfold sameU at hk
    rw [List.length_replicate] at hk
    rw [sameU_get hk] at hu
    injection hu with hu
    subst hu
    exact h0
  · have hi := (List.getElem?_eq_some_iff.1 hm).1
    rw [iotaL_length] at hi
    rw [iotaL_get hi] at hm
    injection hm with hm
    subst hm
    exact ⟨by omega, _, by rw [Int.toNat_natCast]; exact sameU_get hi, rfl⟩
  · have hi := (List.getElem?_eq_some_iff.1 hb).1
    rw [iotaL_length] at hi
    rw [iotaL_get (by omega)] at ha
    rw [iotaL_get hi] at hb
    injection ha with ha
    injection hb with hb
    omega
def offI (b r : Nat) (each : Int) (i : Nat) : Int := if b ≤ i % r then each else 0
theorem same_offs {p : Prm} {n b g : Nat} {net each : Int} (hb : p.buy = b) (hg : p.get = g) (he : halfN net p.rate = each) : ∀ k, k ≤ n → offsFrom p (sameU n net) 0 (iotaL k) = (List.range k).map (offI b (b + g) each)
  | 0, _ => rfl
  | k + 1, h => by
    have hr : rowN p = b + g := by unfold rowN; rw [hb, hg]; omega
    have h1 := offsFrom_next (p := p) (us := sameU n net) (ds := iotaL (k + 1)) (k := k) (m := (k : Int)) (iotaL_get (by omega))
    rw [iotaL_take (Nat.le_refl _), iotaL_take (by omega), same_offs hb hg he k (by omega)] at h1
    rw [h1, List.range_succ, List.map_append]
    congr 1
    show [offAt p (sameU n net) k (k : Int)] = [offI b (b + g) each k]
    unfold offAt offI
    rw [hr, hb, same_net (by omega), he]
    by_cases hc : b ≤ k % (b + g)
    · rw [if_pos hc, if_pos (by omega)]
    · rw [if_neg hc, if_neg (by omega)]
theorem offs_sum {b g : Nat} (each : Int) (hg : 0 < b + g) : ∀ q r : Nat, r ≤ b + g → sumL ((List.range (q * (b + g) + r)).map (offI b (b + g) each)) = ((q * g + (r - b) : Nat) : Int) * each
  | 0, 0, _ => by simp [sumL]
  | q + 1, 0, _ => by
    have h := offs_sum each hg q (b + g) (Nat.le_refl _)
    rw [show (q + 1) * (b + g) + 0 = q * (b + g) + (b + g) by rw [Nat.add_mul]; omega, h]
    congr 2
    rw [Nat.add_mul]; omega
  | q, r + 1, h => by
    have ih := offs_sum each hg q r (by omega)
    rw [← Nat.add_assoc, List.range_succ, List.map_append, sumL_append, ih]
    show _ + (offI b (b + g) each (q * (b + g) + r) + 0) = _
    have hm : (q * (b + g) + r) % (b + g) = r := by rw [Nat.add_comm, Nat.add_mul_mod_self_right, Nat.mod_eq_of_lt (by omega)]
    unfold offI
    rw [hm]
    by_cases hc : b ≤ r
    · rw [if_pos hc, show (q * g + (r + 1 - b) : Nat) = (q * g + (r - b)) + 1 by omega, Int.natCast_succ, Int.add_mul]
      omega
    · rw [if_neg hc, show (q * g + (r + 1 - b) : Nat) = q * g + (r - b) by omega]
      omega
structure Freed (r : List Unt × Int) (n b g : Nat) (net each : Int) : Prop where
  len : r.1.length = n
  off : r.2 = ((n / (b + g) * g : Nat) : Int) * each
  at_ : ∀ i, i < n → r.1[i]? = some (if i < n / (b + g) * (b + g) ∧ 0 < each then ⟨0, if b ≤ i % (b + g) then net - each else net, false⟩ else ⟨0, net, true⟩)
theorem each_is {net rate : Int} (hn : 1 ≤ net ∧ net ≤ 3000) (hr : 1 ≤ rate ∧ rate ≤ 10000) : halfN net rate = (2 * net * rate + 10000) / 20000 := by
  rw [Ct.half_val (by omega) (by omega), Int.mul_assoc]
theorem free_is {n b g : Nat} {net rate each : Int} (hn : n < 40) (hb : 1 ≤ b ∧ b ≤ 4) (hg : 1 ≤ g ∧ g ≤ 3) (hnet : 1 ≤ net ∧ net ≤ 3000) (hr : 1 ≤ rate ∧ rate ≤ 10000) (he : halfN net rate = each) : Freed (buygetU (gwP true rate b g) (sameU n net) (iotaL n)) n b g net each := by
  have hrow : rowN (gwP true rate b g) = b + g := by
    show ((b : Int) + (g : Int)).toNat = b + g
    omega
  have hmb : mayB (sameU n net) (iotaL n) = true := same_may (by omega) (by omega) (by
    have h1 : (n : Int) * net ≤ 40 * 3000 := Int.mul_le_mul (by omega) hnet.2 (by omega) (by decide)
    omega)
  have hw := same_whole (gwP true rate b g) n net
  rw [hrow] at hw
  obtain ⟨m, hm⟩ : ∃ m, n - n % (b + g) = m := ⟨_, rfl⟩
  have hmq : n / (b + g) * (b + g) = m := by
    have := Nat.div_add_mod n (b + g)
    rw [Nat.mul_comm] at this
    omega
  have hmn : m ≤ n := by omega
  rw [hm] at hw
  have hos : rowOffs (gwP true rate b g) (sameU n net) (iotaL n) = (List.range m).map (offI b (b + g) each) := by
    unfold rowOffs
    rw [hw]
    exact same_offs rfl rfl he m hmn
  have hsum : sumL ((List.range m).map (offI b (b + g) each)) = ((n / (b + g) * g : Nat) : Int) * each := by
    have h1 := offs_sum (b := b) (g := g) each (by omega) (n / (b + g)) 0 (by omega)
    rw [Nat.add_zero, hmq] at h1
    rw [h1]
    congr 2
    omega
  have he0 : 0 ≤ each := by rw [← he]; exact (Ct.halfN_ok net rate).1
  have hfi := rows_fine (p := gwP true rate b g) (mayB_iff.1 hmb) hr.2
  rw [hw, hos] at hfi
  unfold buygetU
  rw [gw_promo hr (by omega) (by omega), hmb, if_pos (show (true && ((gwP true rate b g).kind == 3) && true) = true from rfl), hw, hos]
  show Freed (lessU (sameU n net) (iotaL m) ((List.range m).map (offI b (b + g) each)) true) n b g net each
  have hol : ((List.range m).map (offI b (b + g) each)).length = (iotaL m).length := by rw [List.length_map, List.length_range, iotaL_length]
  refine ⟨by rw [Ct.less_length]; unfold sameU; rw [List.length_replicate], ?_, fun i hi => ?_⟩
  · unfold lessU
    split
    · rename_i h0
      rw [hsum] at h0
      exact h0.symm
    · exact hsum
  · by_cases h0 : sumL ((List.range m).map (offI b (b + g) each)) = 0
    · have hno : ¬ (i < n / (b + g) * (b + g) ∧ 0 < each) := fun ⟨h1, h2⟩ => by
        rw [hsum] at h0
        rcases Int.mul_eq_zero.1 h0 with h3 | h3
        · have h4 : n / (b + g) * g = 0 := by omega
          rcases Nat.mul_eq_zero.1 h4 with h5 | h5
          · rw [h5, Nat.zero_mul] at h1; omega
          · omega
        · omega
      rw [if_neg hno]
      unfold lessU
      rw [if_pos h0]
      exact sameU_get hi
    · have hep : 0 < each := by
        rcases Int.lt_or_le 0 each with h1 | h1
        · exact h1
        · have : each = 0 := by omega
          rw [hsum, this, Int.mul_zero] at h0
          exact absurd rfl h0
      by_cases him : i < m
      · rw [if_pos ⟨by rw [hmq]; exact him, hep⟩]
        have h1 := Ct.less_mine (us := sameU n net) (os := (List.range m).map (offI b (b + g) each)) hfi.apart.toFar hol true (j := i) (m := (i : Int)) (iotaL_get him) (u := ⟨0, net, true⟩) (by rw [Int.toNat_natCast]; exact sameU_get hi) h0
        rw [Int.toNat_natCast] at h1
        have h2 : nth ((List.range m).map (offI b (b + g) each)) i = offI b (b + g) each i := by
          refine nth_some ?_
          rw [List.getElem?_map, List.getElem?_range him]; rfl
        rw [h1, h2]
        unfold offI
        by_cases hc : b ≤ i % (b + g)
        · rw [if_pos hc, if_pos hc]; rfl
        · rw [if_neg hc, if_neg hc]
          show some (⟨0, net - 0, false⟩ : Unt) = _
          rw [show net - 0 = net by omega]
      · rw [if_neg (fun h => him (by rw [← hmq]; exact h.1))]
        rw [Ct.less_other (by omega) true (i := i) fun j x hx => ?_]
        · exact sameU_get hi
        · have hj := (List.getElem?_eq_some_iff.1 hx).1
          rw [iotaL_length] at hj
          rw [iotaL_get hj] at hx
          injection hx with hx
          subst hx
          rw [Int.toNat_natCast]
          omega
end Go.Proofs.Ytljmddjlnlmenaa.Dl

end

section
set_option maxRecDepth 100000
set_option linter.unusedVariables false
namespace Go.Proofs.Ytljmddjlnlmenaa.Dl
open Go.ChangeShapes Go.WideShapes Go.ChangeAt Go.RowKit
open Ap (Unt Tir Prm Prt kUnt kTir kPrt row_Unt row_Tir row_Prt)
open Kd (Kind Row RowT kInt kFlag kList Lst row_int row_list)
structure Side (W wr : World) (v x : Value) (us : List Unt) (is : List Int) : Prop where
  u : Kd.Own kUnt wr W.heap.size 34 (fun _ => False) v us.length us
  i : Kd.Own kInt wr W.heap.size 3 (fun _ => False) x is.length is
  below : Below W.heap.size W wr
theorem Side.nil (W : World) : Side W W (.slice none 0 0) (.slice none 0 0) [] [] := ⟨Kd.Own.nil _ _ _ _ _, Kd.Own.nil _ _ _ _ _, Below.refl _ _⟩
theorem Side.pushU {W wr w' : World} {v v' x : Value} {us : List Unt} {is : List Int} {y : Unt} (h : Side W wr v x us is) (ho : Kd.Own kUnt w' W.heap.size 34 (fun _ => False) v' (us.length + 1) (us ++ [y])) (hg : wr.grownBy w' v.ownBlock) : Side W w' v' x (us ++ [y]) is :=
  ⟨by rw [List.length_append]; exact ho, own_beside h.i h.u (by decide) hg, h.below.grown hg h.below.size fun k hk => (h.u.low k hk).1⟩
theorem Side.pushI {W wr w' : World} {v x x' : Value} {us : List Unt} {is : List Int} {y : Int} (h : Side W wr v x us is) (ho : Kd.Own kInt w' W.heap.size 3 (fun _ => False) x' (is.length + 1) (is ++ [y])) (hg : wr.grownBy w' x.ownBlock) : Side W w' v x' us (is ++ [y]) :=
  ⟨own_beside h.u h.i (by decide) hg, by rw [List.length_append]; exact ho, h.below.grown hg h.below.size fun k hk => (h.i.low k hk).1⟩
structure Side3 (W wr : World) (v x y : Value) (us : List Unt) (is js : List Int) : Prop where
  u : Kd.Own kUnt wr W.heap.size 34 (fun _ => False) v us.length us
  i : Kd.Own kInt wr W.heap.size 3 (fun _ => False) x is.length is
  j : Kd.Own kInt wr W.heap.size 3 (fun _ => False) y js.length js
  apart : ∀ b, x.ownBlock = some b → y.ownBlock ≠ some b
  below : Below W.heap.size W wr
theorem own_apart {α : Type} {K : Kd.Kind α} {w w' : World} {B E n : Nat} {v u : Value} {xs : List α} (h : Kd.Own K w B E (fun _ => False) v n xs) (hg : w.grownBy w' u.ownBlock) (hne : ∀ b, v.ownBlock = some b → u.ownBlock ≠ some b) : Kd.Own K w' B E (fun _ => False) v n xs :=
  Kd.Own.stay h (fun _ h => h.elim) fun g hv => hg.block g (Kd.Own.low h g hv).2 fun e => hne g hv e.symm
theorem Side3.pushU {W wr w' : World} {v v' x y : Value} {us : List Unt} {is js : List Int} {z : Unt} (h : Side3 W wr v x y us is js) (ho : Kd.Own kUnt w' W.heap.size 34 (fun _ => False) v' (us.length + 1) (us ++ [z])) (hg : wr.grownBy w' v.ownBlock) : Side3 W w' v' x y (us ++ [z]) is js :=
  ⟨by rw [List.length_append]; exact ho, own_beside h.i h.u (by decide) hg, own_beside h.j h.u (by decide) hg, h.apart, h.below.grown hg h.below.size fun k hk => (h.u.low k hk).1⟩
theorem Side3.pushI {W wr w' : World} {v x y : Value} {g cap : Nat} {us : List Unt} {is js : List Int} {z : Int} (h : Side3 W wr v x y us is js) (ho : Kd.Own kInt w' W.heap.size 3 (fun _ => False) (.slice (some ⟨g, 0, none⟩) (is.length + 1) cap) (is.length + 1) (is ++ [z])) (hg : wr.grownBy w' x.ownBlock) (hf : x.ownBlock = some g ∨ wr.heap.size ≤ g) : Side3 W w' v (.slice (some ⟨g, 0, none⟩) (is.length + 1) cap) y us (is ++ [z]) js :=
  ⟨own_beside h.u h.i (by decide) hg, by rw [List.length_append]; exact ho, own_apart h.j hg fun b hb e => h.apart b e hb, fun b hb hy => by
    injection hb with hb
    have hb2 : g = b := hb
    subst hb2
    rcases hf with h1 | h1
    · exact h.apart g h1 hy
    · have := (h.j.low g hy).2
      omega, h.below.grown hg h.below.size fun k hk => (h.i.low k hk).1⟩
theorem Side3.pushJ {W wr w' : World} {v x y : Value} {g cap : Nat} {us : List Unt} {is js : List Int} {z : Int} (h : Side3 W wr v x y us is js) (ho : Kd.Own kInt w' W.heap.size 3 (fun _ => False) (.slice (some ⟨g, 0, none⟩) (js.length + 1) cap) (js.length + 1) (js ++ [z])) (hg : wr.grownBy w' y.ownBlock) (hf : y.ownBlock = some g ∨ wr.heap.size ≤ g) : Side3 W w' v x (.slice (some ⟨g, 0, none⟩) (js.length + 1) cap) us is (js ++ [z]) :=
  ⟨own_beside h.u h.j (by decide) hg, own_apart h.i hg h.apart, by rw [List.length_append]; exact ho, fun b hb hy => by
    injection hy with hy
    have hy2 : g = b := hy
    subst hy2
    rcases hf with h1 | h1
    · exact h.apart g hb h1
    · have := (h.i.low g hb).2
      omega, h.below.grown hg h.below.size fun k hk => (h.j.low k hk).1⟩
theorem quo_nat (a b : Nat) : (a : Int).tdiv (b : Int) = ((a / b : Nat) : Int) := rfl
theorem rem_nat (a b : Nat) : (a : Int).tmod (b : Int) = ((a % b : Nat) : Int) := rfl
structure FreeN (k r g : Nat) (each z : Int) (Q G m : Nat) : Prop where
  p1 : (k : Int).tdiv (r : Int) = (Q : Int)
  p2 : IntKind.i64.wrap ((Q : Int) * (g : Int)) = (G : Int)
  p2' : wrap64 ((Q : Int) * (g : Int)) = (G : Int)
  p3 : IntKind.i64.wrap ((G : Int) * each) = z
  p3' : wrap64 ((G : Int) * each) = z
  p4 : IntKind.i64.wrap (Q : Int) = (Q : Int)
  p4' : wrap64 (Q : Int) = (Q : Int)
  p5 : IntKind.i64.wrap ((Q : Int) * (r : Int)) = (m : Int)
  p5' : wrap64 ((Q : Int) * (r : Int)) = (m : Int)
  at_ : k / r * r = m
  le : m ≤ k
theorem free_nums {k r g : Nat} {each z : Int} (hk : k < 40) (hg : g ≤ 3) (hE : 0 ≤ each ∧ each ≤ 3001) (hz : z = ((k / r * g : Nat) : Int) * each) : ∃ Q G m, FreeN k r g each z Q G m := by
  obtain ⟨Q, hQ⟩ : ∃ Q, k / r = Q := ⟨_, rfl⟩
  have hQ40 : Q ≤ 40 := by rw [← hQ]; have := Nat.div_le_self k r; omega
  have hm : k / r * r ≤ k := Nat.div_mul_le_self k r
  have h1 : (k : Int).tdiv (r : Int) = (Q : Int) := by rw [quo_nat, hQ]
  rw [hQ] at hz hm
  obtain ⟨G, hG⟩ : ∃ G, Q * g = G := ⟨_, rfl⟩
  have hG120 : G ≤ 120 := by
    rw [← hG]
    have : Q * g ≤ 40 * 3 := Nat.mul_le_mul hQ40 hg
    omega
  obtain ⟨m, hme⟩ : ∃ m, Q * r = m := ⟨_, rfl⟩
  rw [hme] at hm
  rw [hG] at hz
  have hz0 : 0 ≤ z ∧ z ≤ 1000000 := by
    rw [hz]
    have h1 : (G : Int) * each ≤ 120 * 3001 := Int.mul_le_mul (by omega) hE.2 hE.1 (by decide)
    have h2 : 0 ≤ (G : Int) * each := Int.mul_nonneg (by omega) hE.1
    omega
  have e1 : (Q : Int) * (g : Int) = (G : Int) := by rw [← Int.natCast_mul, hG]
  have e2 : (Q : Int) * (r : Int) = (m : Int) := by rw [← Int.natCast_mul, hme]
  refine ⟨Q, G, m, h1, ?_, ?_, ?_, ?_, ?_, ?_, ?_, ?_, by rw [hQ, hme], hm⟩
  · rw [e1]; exact IntWalk.i64_in _ (by omega)
  · rw [e1]; exact IntWalk.wrap64_in _ (by omega)
  · rw [← hz]; exact IntWalk.i64_in _ (by omega)
  · rw [← hz]; exact IntWalk.wrap64_in _ (by omega)
  · exact IntWalk.i64_in _ (by omega)
  · exact IntWalk.wrap64_in _ (by omega)
  · rw [e2]; exact IntWalk.i64_in _ (by omega)
  · rw [e2]; exact IntWalk.wrap64_in _ (by omega)
theorem rem_free {i r : Nat} (hi : i ≤ 40) : ∃ t, i % r = t ∧ (i : Int).tmod (r : Int) = (t : Int) ∧ IntKind.i64.wrap (t : Int) = (t : Int) ∧ wrap64 (t : Int) = (t : Int) := by
  have h := Nat.mod_le i r
  exact ⟨i % r, rfl, rem_nat i r, IntWalk.i64_in _ (by omega), IntWalk.wrap64_in _ (by omega)⟩
end Go.Proofs.Ytljmddjlnlmenaa.Dl

end
