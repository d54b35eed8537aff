/- Deals: the landed sum, netsOf, rateOf, waiting, dearestFirst (made by gen-deal16.py). · Deals: the landed behind (made b .. -/
import Derived.Test.YtljmddjlnlmenaaGreatPq11
import Derived.Test.YtljmddjlnlmenaaGreatPq21
import Derived.Test.YtljmddjlnlmenaaGreatPq6
set_option maxRecDepth 100000
set_option linter.unusedVariables false

section
namespace Go.Proofs.YtljmddjlnlmenaaGreat.Dl
open Go.ChangeShapes Go.WideShapes Go.ChangeAt Go.RowKit
open Ap (Unt Tir Prm kUnt kTir row_Unt row_Tir)
open Kd (Kind Row kInt row_int)
open Ko (Out Told Told2 At row_on)
open Ct (nth nth_some netAt netsL sumL sumL_append sumL_next halfN UnitsMay PlacesMay May mayB Far take_next lessU SumOk PlacesIn i64_t)
theorem dsum_any (A : Option Addr) (n c : Nat) (l : List Int) (F : Nat -> Prop) (w : World) (h : Row kInt w F A n l) (hn : n <= 1000000000000) (hs : SumOk l) :
    Calls Tryz.prog 63 #[.slice A n c] w fun e w' => e = .returned (.int .i64 (sumL l)) /\ w = w' := by
  have HH := Lib.hid h
  have HS := Lib.hid hs
  have HL := Lib.hid h.len
  clear h hs
  go_enter Tryz.func63, Tryz.ntmps63
  go_wp2
  go_loopw [3, 8] (fun s3 s4 wr => ∃ k : Nat, s4 = .int .i64 k /\ s3 = .int .i64 (sumL (l.take k)) /\ k <= n /\ w = wr) (fun _ s4 _ => n - (intOf s4).toNat)
  case atStart => exact ⟨0, rfl, rfl, by omega, rfl⟩
  case round =>
    obtain ⟨k, rfl, rfl, hk, hw⟩ := hrel
    obtain rfl := hw
    have kk : (0 : Int) <= (k : Int) := by omega
    by_cases hlt : k < n
    . obtain ⟨x, hx⟩ := HH.out.get hlt
      obtain ⟨g, o, rfl, _, _, hok, a0⟩ := row_int HH.out hx
      have e1 := sumL_next hx
      have b1 := HS.out (k + 1)
      rw [e1] at b1
      obtain ⟨S, hS⟩ : ∃ s, sumL (l.take k) = s := ⟨_, rfl⟩
      rw [hS] at e1 b1
      obtain ⟨T, hT⟩ : ∃ t, S + x = t := ⟨_, rfl⟩
      rw [hT] at e1 b1
      have w1 : IntKind.i64.wrap (S + x) = T := by rw [hT]; exact IntWalk.i64_in _ (by omega)
      have HE := Lib.hid e1
      have k1 : (k : Int) < (n : Int) := by omega
      clear hx hok e1 b1 hT
      simp only [hS]
      clear hS
      go_wp2
      go_roundw
      case rel => exact ⟨k + 1, by go_num, by rw [HE.out], by omega, (by first | trivial | rfl)⟩
      case measure => simp [intOf]; omega
    . have k1 : ¬ (k : Int) < (n : Int) := by omega
      obtain rfl : k = n := by omega
      have HE : Hid (sumL (l.take k) = sumL l) := Lib.hid (by rw [List.take_of_length_le (by rw [HL.out]; omega)])
      go_wp2
      go_ret
      exact ⟨by rw [<- HE.out]; rfl, rfl⟩
theorem dnets_any (A : Option Addr) (n c : Nat) (us : List Unt) (B : Option Addr) (m d : Nat) (ms : List Int) (w : World) (h : Row kUnt w (· < w.heap.size) A n us) (g : Row kInt w (· < w.heap.size) B m ms) (hm : m <= 100000) (hp : PlacesIn n ms) :
    Calls Tryz.prog 40 #[.slice A n c, .slice B m d] w fun e w' => Ko.Told kInt 2 w e w' (netsL us ms) := by
  have HU := Lib.hid h
  have HM := Lib.hid g
  have HP := Lib.hid hp
  have HL := Lib.hid g.len
  obtain ⟨M, hM1, hM2⟩ := Ko.made_out i64_t m (by omega) (by omega)
  have HO0 := Lib.hid (hM2 w w (Below.refl _ _))
  have hmk := hM1 w
  clear h g hp hM1 hM2
  go_enter Tryz.func40, Tryz.ntmps40
  go_wp2
  go_loopw [5, 13] (fun s5 s6 wr => ∃ k : Nat, s6 = .int .i64 k /\ k <= m /\ Hid (Out kInt 2 w wr s5 (netsL us (ms.take k)))) (fun _ s6 _ => m - (intOf s6).toNat)
  case atStart => exact ⟨0, rfl, by omega, Lib.hid (by rw [List.take_zero]; exact HO0.out)⟩
  case round =>
    clear HO0 hmk
    obtain ⟨k, rfl, hk, HO⟩ := hrel
    have kk : (0 : Int) <= (k : Int) := by omega
    by_cases hlt : k < m
    . obtain ⟨x, hx⟩ := HM.out.get hlt
      obtain ⟨x0, x1⟩ := HP.out k x hx
      obtain ⟨t, ht⟩ : ∃ t : Nat, x = (t : Int) := ⟨x.toNat, by omega⟩
      subst ht
      have htn : t < n := by omega
      obtain ⟨u, hu⟩ := HU.out.get htn
      obtain ⟨g, o, rfl, hg, _, _, a0⟩ := row_int HM.out hx
      obtain ⟨g2, o2, rfl, hg2, _, hok, _, b1, _⟩ := row_Unt HU.out hu
      have c0 : wr.cell? ⟨g, o + k, none⟩ = some (.int .i64 (t : Int)) := (HO.out.below.cell (p := ⟨g, _, none⟩) hg).trans a0
      have c1 : wr.cell? ⟨g2, o2 + t * 3 + 1, none⟩ = some (.int .i64 u.net) := (HO.out.below.cell (p := ⟨g2, _, none⟩) hg2).trans b1
      have HN : Hid (netsL us (ms.take (k + 1)) = netsL us (ms.take k) ++ [u.net]) := Lib.hid (by
        rw [take_next hx]
        unfold netsL
        rw [List.map_append]
        congr 1
        show [netAt us (t : Int)] = [u.net]
        unfold netAt
        rw [Int.toNat_natCast, hu])
      have HK := Lib.hid hok.net
      have k1 : (k : Int) < (m : Int) := by omega
      have t0 : (0 : Int) <= (t : Int) := by omega
      have t1 : (t : Int) < (n : Int) := by omega
      have hlen : (netsL us (ms.take k)).length = k := by unfold netsL; rw [List.length_map, List.length_take, HL.out]; omega
      obtain ⟨os, hos⟩ : ∃ os, netsL us (ms.take k) = os := ⟨_, rfl⟩
      rw [hos] at HO hlen HN
      obtain ⟨C, e5, hv⟩ := HO.out.own.value
      rw [hlen] at hv
      subst hv
      have hown0 : Hid (Kd.Own kInt wr w.heap.size 2 (fun _ => False) (.slice C k e5) k os) := Lib.hid (by have := HO.out.own; rw [hlen] at this; exact this)
      have HLl := Lib.hid hlen
      have hlow := HO.out.below.size
      clear a0 b1 hx hu hok hg hg2 hos hlen x0 x1
      go_wp2_with ((at_builtin; refine Kd.wpList_push (W := wr) (F := fun _ => False) (B := w.heap.size) (n := k) (v := .slice C k e5) (xs := os) (y := u.net) (cs := [.int .i64 u.net]) i64_t rfl _ _ rfl rfl rfl rfl hown0.out ⟨rfl, HK.out⟩ (by omega) (by omega) hlow (fun _ h => h.elim) ?_; intro g1 cap w' hown hgrow hfr; have HPu := Lib.hid (HO.out.push HLl.out hown hgrow); clear hown hgrow hfr))
      go_roundw
      case rel => exact ⟨k + 1, by go_num, by omega, Lib.hid (by rw [HN.out]; exact HPu.out)⟩
      case measure => simp [intOf]; omega
    . have k1 : ¬ (k : Int) < (m : Int) := by omega
      obtain rfl : k = m := by omega
      have HE : Hid (netsL us (ms.take k) = netsL us ms) := Lib.hid (by rw [List.take_of_length_le (by rw [HL.out]; omega)])
      go_wp2
      go_ret
      exact (by rw [HE.out] at HO; exact HO.out.told)
theorem drate_any (x rate : Int) (w : World) : Calls Tryz.prog 29 #[.int .i64 x, .int .i64 rate] w fun e w' => e = .returned (.int .i64 (halfN x rate)) /\ Below w.heap.size w w' := by
  have HR := Lib.hid (Rf.m_rate 1 x rate w)
  unfold Rf.pairOf at HR
  obtain ⟨a, ha⟩ : ∃ a, (Rf.rateR 1 x rate).1 = a := ⟨_, rfl⟩
  obtain ⟨b, hb⟩ : ∃ b, (Rf.rateR 1 x rate).2 = b := ⟨_, rfl⟩
  have HH : Hid (halfN x rate = a) := Lib.hid ha
  rw [ha, hb] at HR
  clear ha hb
  go_enter Tryz.func29, Tryz.ntmps29
  go_wp2_with fail
  refine HR.out.mono ?_
  rintro e w2 ⟨rfl, hb2⟩
  have HB := Lib.hid hb2
  clear hb2
  go_wp2
  go_ret
  exact ⟨by rw [HH.out]; rfl, HB.out⟩
theorem own_moved {w w' : World} {B B' E q n : Nat} {r : Option Nat} {l : List Qu.Pt} {v : Value} {xs : List Int} (h : Kd.Own kInt w B E (fun _ => False) v n xs) (hq : Qu.IsQ w B' q r l) (hm : Qu.Moved w w' q r) (h1 : 134 ≠ E) (h2 : E ≠ 132) : Kd.Own kInt w' B E (fun _ => False) v n xs := by
  obtain ⟨hl, cs, ho, hc⟩ := h
  obtain ⟨a1, a2⟩ := hq.apart ho h1 h2
  refine Kd.Own.stay ⟨hl, cs, ho, hc⟩ (fun _ h => h.elim) fun g hg => hm.block g (ho.lt g hg).2 ?_ ?_
  . intro e; subst e; exact a1 hg.symm
  . intro e
    rcases a2 with a2 | a2
    . rw [a2] at e; cases e
    . exact a2 (by rw [hg]; exact e.symm)
def Waits (e : Ending) (w w' : World) (l : List Qu.Pt) : Prop := ∃ (q : Nat) (r : Option Nat), e = .returned (.pointer (some ⟨q, 0, none⟩)) /\ Qu.IsQ w' w.heap.size q r l /\ Below w.heap.size w w'
set_option maxHeartbeats 1000000 in
theorem waiting_any (A : Option Addr) (n c : Nat) (us : List Unt) (B : Option Addr) (m d : Nat) (ms : List Int) (w : World) (h : Row kUnt w (· < w.heap.size) A n us) (g : Row kInt w (· < w.heap.size) B m ms) (hm : m <= 100000) (hp : PlacesIn n ms) :
    Calls Tryz.prog 59 #[.slice A n c, .slice B m d] w fun e w' => Waits e w w' (dearP us ms) := by
  have HU := Lib.hid h
  have HM := Lib.hid g
  have HP := Lib.hid hp
  have HL := Lib.hid g.len
  clear h g hp
  go_enter Tryz.func59, Tryz.ntmps59
  go_wp2_with fail
  refine (Qu.queue_new w.heap.size w (Nat.le_refl _)).mono ?_
  rintro e w1 ⟨rfl, hQ, hB, hS⟩
  have HQ0 := Lib.hid (And.intro hQ hB)
  clear hQ hB hS
  go_wp2
  go_loopw [11] (fun s11 wr => ∃ (k : Nat) (r : Option Nat), s11 = .int .i64 k /\ k <= m /\ Hid (Qu.IsQ wr w.heap.size w.heap.size r (dearK us ms k) /\ Below w.heap.size w wr)) (fun s11 _ => m - (intOf s11).toNat)
  case atStart => exact ⟨0, none, rfl, by omega, HQ0⟩
  case round =>
    clear HQ0
    obtain ⟨k, r, rfl, hk, HO⟩ := hrel
    have kk : (0 : Int) <= (k : Int) := by omega
    by_cases hlt : k < m
    . obtain ⟨x, hx⟩ := HM.out.get hlt
      obtain ⟨x0, x1⟩ := HP.out k x hx
      obtain ⟨t, ht⟩ : ∃ t : Nat, x = (t : Int) := ⟨x.toNat, by omega⟩
      subst ht
      have htn : t < n := by omega
      obtain ⟨u, hu⟩ := HU.out.get htn
      obtain ⟨g, o, rfl, hg, _, _, a0⟩ := row_int HM.out hx
      obtain ⟨g2, o2, rfl, hg2, _, hok, _, b1, _⟩ := row_Unt HU.out hu
      have c0 : wr.cell? ⟨g, o + k, none⟩ = some (.int .i64 (t : Int)) := (HO.out.2.cell (p := ⟨g, _, none⟩) hg).trans a0
      have c1 : wr.cell? ⟨g2, o2 + t * 3 + 1, none⟩ = some (.int .i64 u.net) := (HO.out.2.cell (p := ⟨g2, _, none⟩) hg2).trans b1
      have HN : Hid (dearK us ms (k + 1) = Qu.ins (u.net, (t : Int)) (dearK us ms k)) := Lib.hid (by
        rw [dearK, nth_some hx]
        unfold pt netAt
        rw [Int.toNat_natCast, hu])
      have HPu := Lib.hid (Qu.push_any (u.net, (t : Int)) w.heap.size w.heap.size r (dearK us ms k) wr HO.out.1 (by rw [dearK_length]; omega))
      have k1 : (k : Int) < (m : Int) := by omega
      have t0 : (0 : Int) <= (t : Int) := by omega
      have t1 : (t : Int) < (n : Int) := by omega
      clear a0 b1 hx hu hok hg hg2 x0 x1
      go_wp2_with fail
      refine HPu.out.mono ?_
      rintro e w2 ⟨rfl, r', hQ', hM, hF⟩
      have HQ2 := Lib.hid (And.intro hQ' (HO.out.2.trans (HO.out.1.toBelow hM)))
      clear hQ' hM hF
      go_wp2
      go_roundw
      case rel => exact ⟨k + 1, r', by go_num, by omega, Lib.hid (by rw [HN.out]; exact HQ2.out)⟩
      case measure => simp [intOf]; omega
    . have k1 : ¬ (k : Int) < (m : Int) := by omega
      obtain rfl : k = m := by omega
      have HE : Hid (dearK us ms k = dearP us ms) := Lib.hid (by unfold dearP; rw [HL.out])
      go_wp2
      go_ret
      exact ⟨_, r, rfl, by rw [<- HE.out]; exact HO.out.1, HO.out.2⟩
structure Tells (w wr : World) (B q : Nat) (r : Option Nat) (v : Value) (all done l : List Qu.Pt) : Prop where
  all : all = done ++ l
  que : Qu.IsQ wr B q r l
  out : Out kInt 3 w wr v (places done)
  low : w.heap.size <= B
theorem Tells.step {w wr w1 w2 : World} {B q : Nat} {r : Option Nat} {v v' : Value} {all done l : List Qu.Pt} {x : Qu.Pt} {L : Nat} (h : Tells w wr B q r v all done (x :: l)) (hq : Qu.IsQ w1 B q r l) (hm : Qu.Moved wr w1 q r) (e : done.length = L)
    (hown : Kd.Own kInt w2 w.heap.size 3 (fun _ => False) v' (L + 1) (places done ++ [x.2])) (hgrow : w1.grownBy w2 v.ownBlock) : Tells w w2 B q r v' all (done ++ [x]) l := by
  have h1 := own_moved h.out.own h.que hm (by decide) (by decide)
  obtain ⟨_, cs, ho, _⟩ := h1
  obtain ⟨a1, a2⟩ := hq.apart ho (by decide) (by decide)
  have hb := h.out.below.trans ((h.que.toBelow hm).mono h.low)
  refine ⟨by rw [h.all]; simp, hq.grown hgrow a1 a2, ?_, h.low⟩
  have e1 : places (done ++ [x]) = places done ++ [x.2] := by unfold places; rw [List.map_append]; rfl
  have e2 : (places done).length = L := by unfold places; rw [List.length_map]; exact e
  refine ⟨by rw [e1, List.length_append, List.length_singleton, e2]; exact hown, hb.grown hgrow hb.size fun i hi => (ho.lt i hi).1⟩
set_option maxHeartbeats 1000000 in
theorem dearestFirst_any (A : Option Addr) (n c : Nat) (us : List Unt) (B : Option Addr) (m d : Nat) (ms : List Int) (w : World) (h : Row kUnt w (· < w.heap.size) A n us) (g : Row kInt w (· < w.heap.size) B m ms) (hm : m <= 100000) (hp : PlacesIn n ms) :
    Calls Tryz.prog 28 #[.slice A n c, .slice B m d] w fun e w' => Ko.Told kInt 3 w e w' (dearL us ms) := by
  obtain ⟨M, hM1, hM2⟩ := Ko.made_out Ap.int_t m (by omega) (by omega)
  have hmk := hM1 w
  have hO0 := hM2 w w (Below.refl _ _)
  obtain ⟨w1, hw1⟩ : ∃ w1, w.alloc (.cells M 3) = w1 := ⟨_, rfl⟩
  rw [hw1] at hmk hO0
  have HWt := Lib.hid (waiting_any A n c us B m d ms w1 (row_on h hO0.below) (row_on g hO0.below) hm hp)
  have HO0 := Lib.hid hO0
  have HL := Lib.hid g.len
  have HBd : Hid (∀ x ∈ ms, -9223372036854775808 <= x /\ x <= 9223372036854775807) := Lib.hid fun x hx => by
    obtain ⟨i, hi⟩ := List.mem_iff_getElem?.1 hx
    obtain ⟨_, _, _, _, _, hok, _⟩ := row_int g hi
    exact hok
  clear h g hp hM1 hM2 hO0 hw1
  go_enter Tryz.func28, Tryz.ntmps28
  go_wp2_with fail
  refine HWt.out.mono ?_
  rintro e w2 ⟨q, r, rfl, hQ, hB⟩
  have HT0 : Hid (Tells w w2 w1.heap.size q r (.slice (some ⟨w.heap.size, 0, none⟩) 0 m) (dearP us ms) [] (dearP us ms)) := Lib.hid ⟨rfl, hQ, HO0.out.later hB, HO0.out.below.size⟩
  clear hQ hB
  go_wp2_with fail
  go_loopg [5] m (fun kx s5 wx => ∃ v done l, s5 = v /\ l.length <= kx /\ Hid (Tells w wx w1.heap.size q r v (dearP us ms) done l))
  case atStart => exact ⟨_, [], dearP us ms, rfl, by unfold dearP; rw [dearK_length, HL.out]; exact Nat.le_refl _, HT0⟩
  case round =>
    obtain ⟨v, done, l, hv5, hl, HT⟩ := hrel
    subst hv5
    clear HT0
    have hall := congrArg List.length HT.out.all
    unfold dearP at hall
    rw [dearK_length, List.length_append, HL.out] at hall
    cases l with
    | nil =>
      have HLn := Lib.hid (Qu.qlen_any w1.heap.size q r [] wr HT.out.que)
      have hd : dearL us ms = places done := by unfold dearL; rw [HT.out.all, List.append_nil]
      have HF : Hid (Ko.Told kInt 3 w (.returned u5) wr (dearL us ms)) := Lib.hid (by rw [hd]; exact HT.out.out.told)
      clear hall hl hd
      go_wp2_with fail
      refine HLn.out.mono ?_
      rintro e w3 ⟨rfl, rfl⟩
      go_wp2
      go_ret
      exact HF.out
    | cons x l =>
      have HLn := Lib.hid (Qu.qlen_any w1.heap.size q r (x :: l) wr HT.out.que)
      have HP := Lib.hid (Qu.pop_some w1.heap.size q r x l wr HT.out.que (by simp at hall; omega))
      have l1 : (0 : Int) < (l.length : Int) + 1 := by omega
      have hdl : done.length <= 100000 := by omega
      have HL2 := Lib.hid (show l.length < gk by simp at hl; omega)
      have hlen : (places done).length = done.length := by unfold places; rw [List.length_map]
      obtain ⟨L, hLe⟩ : ∃ L, done.length = L := ⟨_, rfl⟩
      rw [hLe] at hdl hlen
      obtain ⟨C, e5, hv⟩ := HT.out.out.own.value
      rw [hlen] at hv
      subst hv
      have HLe := Lib.hid hLe
      have HLen := Lib.hid hlen
      have hx2 : -9223372036854775808 <= x.2 /\ x.2 <= 9223372036854775807 := by
        refine HBd.out _ ((dearL_perm us ms).mem_iff.1 ?_)
        unfold dearL places
        rw [HT.out.all]
        exact List.mem_map_of_mem (List.mem_append_right _ List.mem_cons_self)
      have HX2 := Lib.hid hx2
      clear hall hl hlen hLe hx2
      go_wp2_with fail
      refine HLn.out.mono ?_
      rintro e w3 ⟨rfl, rfl⟩
      go_wp2_with fail
      refine HP.out.mono ?_
      rintro e w4 ⟨rfl, hq, hm⟩
      have hown0 := own_moved HT.out.out.own HT.out.que hm (by decide) (by decide)
      rw [HLen.out] at hown0
      have HQ := Lib.hid (And.intro hq hm)
      have hlow : w.heap.size <= w4.heap.size := by have := HT.out.out.below.size; have := hm.size; omega
      have HOw := Lib.hid hown0
      clear hq hm hown0
      go_wp2_with ((at_builtin; refine Kd.wpList_push (W := w4) (F := fun _ => False) (B := w.heap.size) (n := L) (v := .slice C L e5) (xs := places done) (y := x.2) (cs := [.int .i64 x.2]) Ap.int_t rfl _ _ rfl rfl rfl rfl HOw.out ⟨rfl, HX2.out⟩ (by omega) (by omega) hlow (fun _ h => h.elim) ?_; intro g1 cap w' hown hgrow hfr; have HT4 := Lib.hid (HT.out.step HQ.out.1 HQ.out.2 HLe.out hown hgrow); clear hown hgrow hfr))
      go_roundg l.length
      case measure => exact HL2.out
      case rel => exact ⟨_, done ++ [x], l, rfl, Nat.le_refl _, HT4⟩
end Go.Proofs.YtljmddjlnlmenaaGreat.Dl

end

section
namespace Go.Proofs.YtljmddjlnlmenaaGreat.Dl
open Go.ChangeShapes Go.WideShapes Go.ChangeAt Go.RowKit
open Ap (Unt Tir Prm kUnt kTir row_Unt row_Tir)
open Kd (Kind Row kInt row_int)
open Ko (Out Told Told2 At row_on)
open Ct (nth nth_some netAt netsL sumL sumL_append sumL_next halfN UnitsMay PlacesMay May mayB Far take_next lessU SumOk PlacesIn i64_t cutK cutK_at cutOne cut_one less_get Ls own_down told2_of)
set_option maxHeartbeats 4000000 in
theorem behind_any (p : Prm) (l : Prm.Lay) (A : Option Addr) (n c : Nat) (us : List Unt) (B : Option Addr) (m d : Nat) (ms : List Int) (C : Option Addr) (q e : Nat) (os : List Int) (w : World)
    (h : Row kUnt w (· < w.heap.size) A n us) (hf : Kd.Fit A n c) (hg : Row kInt w (· < w.heap.size) B m ms) (ho : Row kInt w (· < w.heap.size) C q os) (hu : UnitsMay us) (hfi : Fine us ms os) :
    Calls Tryz.prog 30 #[.agg #[.string p.id, .int .i64 p.kind, .int .i64 p.priority, .string p.group, .string p.code, .bool p.closes, .slice l.scope.skus.A l.scope.skus.n l.scope.skus.c, .slice l.scope.cats.A l.scope.cats.n l.scope.cats.c, .int .i64 p.least, .int .i64 p.rate, .int .i64 p.amount, .int .i64 p.buy, .int .i64 p.get, .slice l.parts.A l.parts.n l.parts.c, .slice l.tiers.A l.tiers.n l.tiers.c], .slice A n c, .slice B m d, .slice C q e] w fun x w' => Ko.Told2 kUnt 35 w x w' (lessU us ms os p.closes).1 (lessU us ms os p.closes).2 := by
  obtain ⟨w1, hw1⟩ : ∃ w1, w.alloc (.cells #[.string p.id, .int .i64 p.kind, .int .i64 p.priority, .string p.group, .string p.code, .bool p.closes, .slice l.scope.skus.A l.scope.skus.n l.scope.skus.c, .slice l.scope.cats.A l.scope.cats.n l.scope.cats.c, .int .i64 p.least, .int .i64 p.rate, .int .i64 p.amount, .int .i64 p.buy, .int .i64 p.get, .slice l.parts.A l.parts.n l.parts.c, .slice l.tiers.A l.tiers.n l.tiers.c] 28) = w1 := ⟨_, rfl⟩
  have hb1 : Below w.heap.size w w1 := by rw [<- hw1]; exact (Below.refl _ _).alloc (Nat.le_refl _) _
  have hx : Qu.Blk w1 w.heap.size 28 #[.string p.id, .int .i64 p.kind, .int .i64 p.priority, .string p.group, .string p.code, .bool p.closes, .slice l.scope.skus.A l.scope.skus.n l.scope.skus.c, .slice l.scope.cats.A l.scope.cats.n l.scope.cats.c, .int .i64 p.least, .int .i64 p.rate, .int .i64 p.amount, .int .i64 p.buy, .int .i64 p.get, .slice l.parts.A l.parts.n l.parts.c, .slice l.tiers.A l.tiers.n l.tiers.c] := by rw [<- hw1]; exact Qu.Blk.new w _ _
  have hqm : q = m := by rw [<- ho.len, <- hg.len]; exact hfi.len
  subst hqm
  have hn5 : n <= 100000 := by rw [<- h.len]; exact hu.few
  have hm5 : q <= 100000 := by rw [<- hg.len]; exact Nat.le_trans hfi.apart.few hu.few
  have hin : PlacesIn n ms := by rw [<- h.len]; exact hfi.apart.in_
  have HK := Lib.hid (And.intro hb1 (fun u (hu : Below w1.heap.size w1 u) => hx.below hu))
  have HU1 := Lib.hid (row_on h hb1)
  have HG1 := Lib.hid (row_on hg hb1)
  have HO1 := Lib.hid (row_on ho hb1)
  have HC := Lib.hid (Ct.cloneU_any A n c us w1 (row_on h hb1) hf (by omega))
  have hs := hfi.sums hu
  obtain ⟨S, hS⟩ : ∃ s, sumL os = s := ⟨_, rfl⟩
  have HSu := Lib.hid (fun (W : World) (hb : Below w1.heap.size w1 W) => dsum_any C q e os _ W (row_on (row_on ho hb1) hb) (by omega) hs)
  simp only [hS] at HSu
  have HSm := Lib.hid hS
  have HIn := Lib.hid hin
  have HFi := Lib.hid hfi
  have HUM := Lib.hid hu
  have HLm := Lib.hid hg.len
  have c5' : ∀ u, Below w1.heap.size w1 u -> u.cell? ⟨w.heap.size, 5, none⟩ = some (.bool p.closes) := fun u hu => (HK.out.2 u hu).cell 5
  clear h hf hg ho hu hfi hb1 hx hs hS hin
  obtain ⟨z, hz⟩ : ∃ z, (S == 0) = z := ⟨_, rfl⟩
  have HZ := Lib.hid hz
  have hcls := c5' w1 (Below.refl _ _)
  cases z with
  | true =>
    have HE : Hid (lessU us ms os p.closes = (us, 0)) := Lib.hid (by unfold lessU; rw [if_pos (by rw [HSm.out]; simpa using HZ.out)])
    go_enter Tryz.func30, Tryz.ntmps30
    go_wp2_with (first
      | (go_at_call 27; with_reducible refine HC.out.mono ?_; rintro x w3 ⟨A3, cq, rfl, ho3, hb3⟩; have HO3 := Lib.hid (And.intro ho3 hb3); clear ho3 hb3)
      | (go_at_call 63; with_reducible refine (HSu.out _ HO3.out.2).mono ?_; rintro x wz ⟨rfl, hw⟩; obtain rfl := hw))
    refine bodyPost_ret (results_tmp2 rfl _ _ _) rfl ?_
    rw [HE.out]
    exact told2_of (own_down HO3.out.1 HK.out.1.size) (HK.out.1.trans (HO3.out.2.mono HK.out.1.size)) 0
  | false =>
    have hS0 : ¬ S = 0 := by simpa using HZ.out
    have hm0 : 0 < q := by
      rcases Nat.eq_zero_or_pos q with h0 | h0
      . have : os = [] := List.eq_nil_of_length_eq_zero (by rw [HFi.out.len, HLm.out]; exact h0)
        have h2 := HSm.out
        rw [this] at h2
        exact absurd h2.symm hS0
      . exact h0
    have hn0 : 0 < n := by
      obtain ⟨x, hx⟩ := HG1.out.get hm0
      have := HIn.out 0 x hx
      omega
    have HE : Hid (lessU us ms os p.closes = (cutK us ms os p.closes q, S)) := Lib.hid (by
      have h8 : sumL os ≠ 0 := by rw [HSm.out]; exact hS0
      refine Prod.ext ?_ ?_
      . rw [<- cutK_deal HFi.out.apart HFi.out.len h8, HLm.out]
      . unfold lessU; rw [if_neg h8]; exact HSm.out)
    clear hS0
    go_enter Tryz.func30, Tryz.ntmps30
    go_wp2_with fail
    refine HC.out.mono ?_
    rintro x w3 ⟨A3, cq, rfl, ho3, hb3⟩
    obtain ⟨g, hgA, hgb, _⟩ := ho3.first hn0
    subst hgA
    have HLs : Hid (Ls w1 w3 g n cq (cutK us ms os p.closes 0)) := Lib.hid ⟨ho3, hb3⟩
    have HgL := Lib.hid (Nat.le_trans HK.out.1.size hgb)
    clear ho3 hb3 hgb
    go_wp2_with (go_at_call 63; with_reducible refine (HSu.out _ HLs.out.below).mono ?_; rintro x wz ⟨rfl, hw⟩; obtain rfl := hw)
    clear hcls
    go_loopw [23] (fun s11 wr => ∃ k : Nat, s11 = .int .i64 k /\ k <= q /\ Hid (Ls w1 wr g n cq (cutK us ms os p.closes k))) (fun s11 _ => q - (intOf s11).toNat)
    case atStart => exact ⟨0, rfl, by omega, HLs⟩
    case round =>
      clear HLs
      obtain ⟨k, rfl, hk, HO⟩ := hrel
      have kk : (0 : Int) <= (k : Int) := by omega
      by_cases hlt : k < q
      . obtain ⟨t0, ht0⟩ := HG1.out.get hlt
        obtain ⟨x0, x1⟩ := HIn.out k t0 ht0
        obtain ⟨t, ht⟩ : ∃ t : Nat, t0 = (t : Int) := ⟨t0.toNat, by omega⟩
        subst ht
        have htn : t < n := by omega
        obtain ⟨o, ho⟩ := HO1.out.get hlt
        obtain ⟨u, hu⟩ := HU1.out.get htn
        have hus : (cutK us ms os p.closes k)[t]? = some u := by
          have := cutK_at (us := us) (os := os) (cl := p.closes) HFi.out.apart.toFar ht0 k (Nat.le_refl k)
          rw [Int.toNat_natCast] at this
          rw [this, hu]
        obtain ⟨v, hv⟩ : ∃ v, u.net - o = v := ⟨_, rfl⟩
        have hvr : -9223372036854775808 <= v /\ v <= 9223372036854775807 := by rw [<- hv]; exact HFi.out.less HUM.out k (t : Int) o u ht0 ho (by rw [Int.toNat_natCast]; exact hu)
        have wv : IntKind.i64.wrap (u.net - o) = v := by rw [hv]; exact IntWalk.i64_in _ (by omega)
        have hcut : cutK us ms os p.closes (k + 1) = (cutK us ms os p.closes k).modify t (cutOne o p.closes) := by rw [cutK, nth_some ht0, nth_some ho, Int.toNat_natCast]
        have HXm := Lib.hid (HO.out.drew.less hus hv hvr)
        have hM := (HO.out.less hus hv hvr).drew
        obtain ⟨Wm, hWm⟩ : ∃ Wm, (wr.setCell ⟨g, t * 3 + 1, none⟩ (.int .i64 v)).drew = Wm := ⟨_, rfl⟩
        rw [hWm] at hM
        have hme := less_get hus o
        obtain ⟨_, m2, _, mf2, _⟩ := hM.get hme
        have m2' : Wm.cell? ⟨g, t * 3 + 2, none⟩ = some (.bool u.opn) := m2
        have m5 := c5' Wm hM.below
        have hE := hM.flag hme (!p.closes)
        rw [cut_one hus o p.closes, <- hcut] at hE
        have HXe := Lib.hid hE
        have HWm := Lib.hid hWm
        obtain ⟨d2, _, df2, _, _⟩ := HO.out.get hus
        obtain ⟨g1, o1, rfl, hg1, _, _, a1⟩ := row_int HG1.out ht0
        obtain ⟨g6, o6, rfl, hg6, _, _, a6⟩ := row_int HO1.out ho
        have d1 : ∀ u, Below w1.heap.size w1 u -> u.cell? ⟨g1, o1 + k, none⟩ = some (.int .i64 (t : Int)) := fun u hu => (hu.cell (p := ⟨g1, _, none⟩) hg1).trans a1
        have d3 : ∀ u, Below w1.heap.size w1 u -> u.cell? ⟨g6, o6 + k, none⟩ = some (.int .i64 o) := fun u hu => (hu.cell (p := ⟨g6, _, none⟩) hg6).trans a6
        have d1r := d1 wr HO.out.below
        have k1 : (k : Int) < (q : Int) := by omega
        have t0 : (0 : Int) <= (t : Int) := by omega
        have t1 : (t : Int) < (n : Int) := by omega
        clear ht0 ho hu hus hv hvr hcut hM hme m2 hE hWm a1 hg1 a6 hg6 x0 x1
        go_wp2_with fail
        refine wp_region_held_drew (S := fun u => Below w1.heap.size w1 u) (by kernel_rfl) (HO.out.below.drew) (fun hS0 => ?_)
        refine pkT 0 28 hS0 ?_
        try simp only [Act.put, pkA, pkB, pkC]
        refine pkT 1 29 hS0 ?_
        try simp only [Act.put, pkA, pkB, pkC]
        refine pkT 2 30 hS0 ?_
        try simp only [Act.put, pkA, pkB, pkC]
        refine pkT 3 31 hS0 ?_
        try simp only [Act.put, pkA, pkB, pkC]
        refine pkT 5 33 hS0 ?_
        try simp only [Act.put, pkA, pkB, pkC]
        refine pkT 6 34 hS0 ?_
        try simp only [Act.put, pkA, pkB, pkC]
        refine pkT 7 35 hS0 ?_
        try simp only [Act.put, pkA, pkB, pkC]
        refine pkT 8 36 hS0 ?_
        try simp only [Act.put, pkA, pkB, pkC]
        refine wpAnyH_ready (rs := [4]) (by kernel_rfl) (by simp) ?_
        refine AllReadyH.cons (o := ⟨some 32, _, _, _, _, _⟩) rfl (fun K hK => ?_) AllReadyH.nil
        go_simp
        refine hK.out _ _ (hS0) (fun hS1 => ?_)
        clear hK K
        try simp only [Act.put, pkA, pkB, pkC]
        refine pkT 9 37 hS1 ?_
        try simp only [Act.put, pkA, pkB, pkC]
        refine pkT 10 38 hS1 ?_
        try simp only [Act.put, pkA, pkB, pkC]
        refine pkT 11 39 hS1 ?_
        try simp only [Act.put, pkA, pkB, pkC]
        refine wpAnyH_ready (rs := [12]) (by kernel_rfl) (by simp) ?_
        refine AllReadyH.cons (o := ⟨none, _, _, _, _, _⟩) rfl (fun K hK => ?_) AllReadyH.nil
        go_simp
        refine hK.out _ _ (HXm.out.below) (fun hS2 => ?_)
        clear hK K
        try simp only [Act.put, pkA, pkB, pkC]
        refine wpAnyH_done (by kernel_rfl) ?_ _
        rw [HWm.out]
        clear HWm
        go_wp2_with fail
        go_roundw
        case rel => exact ⟨k + 1, by go_num, by omega, HXe⟩
        case measure => simp [intOf]; omega
      . have k1 : ¬ (k : Int) < (q : Int) := by omega
        obtain rfl : k = q := by omega
        go_wp2
        refine bodyPost_ret (results_tmp2 rfl _ _ _) rfl ?_
        rw [HE.out]
        exact told2_of (own_down HO.out.own HK.out.1.size) (HK.out.1.trans (HO.out.below.mono HK.out.1.size)) S
end Go.Proofs.YtljmddjlnlmenaaGreat.Dl

end
