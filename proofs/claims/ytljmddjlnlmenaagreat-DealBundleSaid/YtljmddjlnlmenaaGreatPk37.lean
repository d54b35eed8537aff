/- Deals: the document's dear (made by gen-rbuyget16.py). -/
import Derived.Test.YtljmddjlnlmenaaGreatPk11
import Derived.Test.YtljmddjlnlmenaaGreatPk18
import Derived.Test.YtljmddjlnlmenaaGreatPk35
set_option maxRecDepth 100000
set_option linter.unusedVariables false

namespace Go.Proofs.YtljmddjlnlmenaaGreat.Dl
open Go.ChangeShapes Go.WideShapes Go.ChangeAt Go.RowKit
open Ap (Unt Tir Prm kUnt kTir row_Unt row_Tir)
open Kd (Kind Row RowT kInt kFlag row_int)
open Ko (Out Told Told2 At row_on)
open Ct (nth nth_some netAt netsL sumL sumL_append sumL_next halfN UnitsMay PlacesMay May mayB mayB_iff Far take_next lessU SumOk PlacesIn i64_t own_down told2_of)
theorem told_down {α : Type} {K : Kind α} {E : Nat} {w w3 w' : World} {e : Ending} {xs : List α} (hb : Below w.heap.size w w3) (h : Ko.Told K E w3 e w' xs) : Ko.Told K E w e w' xs := by
  obtain ⟨A, c, he, ho, hb2⟩ := h
  exact ⟨A, c, he, own_down ho hb.size, hb.trans (hb2.mono hb.size)⟩
set_option maxHeartbeats 2000000 in
theorem rdear_any (A : Option Addr) (n c : Nat) (us : List Unt) (B : Option Addr) (m d : Nat) (ms : List Int) (w : World) (h : Row kUnt w (· < w.heap.size) A n us) (g : Row kInt w (· < w.heap.size) B m ms) (hm : m <= 100000) (hin : PlacesIn n ms) (hp : PlacesMay us ms) :
    Calls Tryz.prog 33 #[.slice A n c, .slice B m d] w fun e w' => Ko.Told kInt 3 w e w' (dearL us ms) := by
  have HN1 := Ct.nets_any A n c us B m d ms w h g hm hin
  unfold Ko.Told at HN1
  have hnl : (netsL us ms).length = m := by unfold netsL; rw [List.length_map]; exact g.len
  have hdl := dearL_length us ms
  rw [g.len] at hdl
  have hdo := dearL_ord hp
  rw [g.len] at hdo
  obtain ⟨xs, hxs⟩ : ∃ xs, netsL us ms = xs := ⟨_, rfl⟩
  rw [hxs] at hnl hdo
  simp only [hxs, hnl] at HN1
  have HN := Lib.hid HN1
  have HM := Lib.hid g
  have HL := Lib.hid g.len
  obtain ⟨os, hos⟩ : ∃ os, (Qu.ord (nth xs) m).map (·.2) = os := ⟨_, rfl⟩
  have hol : os.length = m := by rw [<- hos, List.length_map, Qu.ord_length]
  have hat : ∀ k, k < m -> ∃ j : Nat, j < m /\ Hl.at_ os k = (j : Int) /\ ∀ x, ms[j]? = some x -> (dearL us ms)[k]? = some x := fun k hk => by
    have e1 : (Qu.ord (nth xs) m)[k]? = some ((Qu.ord (nth xs) m)[k]'(by rw [Qu.ord_length]; exact hk)) := List.getElem?_eq_getElem _
    obtain ⟨j, hj, e2⟩ := Qu.ord_mem (nth xs) m _ (List.mem_of_getElem? e1)
    rw [e2] at e1
    refine ⟨j, hj, ?_, fun x hx => ?_⟩
    . unfold Hl.at_
      rw [<- hos, List.getD_eq_getElem?_getD, List.getElem?_map, e1]; rfl
    . rw [hdo, List.getElem?_map, e1]
      show some (nth ms ((j : Int)).toNat) = some x
      rw [Int.toNat_natCast, nth_some hx]
  have HAt := Lib.hid hat
  have HO1 := fun (W : World) (A2 : Option Addr) (c2 : Nat) (hi : Hl.Ints W W.heap.size A2 m (nth xs)) => Qu.ref_told A2 m c2 (nth xs) W hi (by omega)
  unfold Qu.Told at HO1
  simp only [hos] at HO1
  have HO := Lib.hid HO1
  have HDl := Lib.hid hdl
  have HNl := Lib.hid hnl
  clear h g hin hp HN1 HO1 hxs hnl hdl hdo hos hol hat
  go_enter Tryz.func33, Tryz.ntmps33
  go_wp2_with fail
  refine HN.out.mono ?_
  rintro e w2 ⟨A2, c2, rfl, ho2, hb2⟩
  have hi2 := Ct.ints_row ho2.read
  have HB2 := Lib.hid hb2
  clear ho2 hb2
  go_wp2_with fail
  refine (HO.out w2 A2 c2 hi2).mono ?_
  rintro e w3 ⟨A3, c3, rfl, hi3, hb3⟩
  have HB3 := Lib.hid (HB2.out.trans (hb3.mono HB2.out.size))
  have HI3 := Lib.hid hi3
  clear hi2 hi3 hb3
  go_wp2_with fail
  go_loopw [6, 7] (fun s6 s7 wr => ∃ k : Nat, s7 = .int .i64 k /\ k <= m /\ Hid (Out kInt 3 w3 wr s6 ((dearL us ms).take k))) (fun _ s7 _ => m - (intOf s7).toNat)
  case atStart => exact ⟨0, rfl, by omega, Lib.hid (by rw [List.take_zero]; exact Out.nil _ _ (Below.refl _ _))⟩
  case round =>
    obtain ⟨k, rfl, hk, HX⟩ := hrel
    have kk : (0 : Int) <= (k : Int) := by omega
    by_cases hlt : k < m
    . obtain ⟨j, hj, ej, hd⟩ := HAt.out k hlt
      obtain ⟨x, hx⟩ := HM.out.get hj
      have hdx := hd x hx
      obtain ⟨b3, o3, rfl, hb3, a3⟩ := HI3.out k hlt
      rw [ej] at a3
      obtain ⟨g1, o1, rfl, hg1, _, hok, a1⟩ := row_int HM.out hx
      have c3' : wr.cell? ⟨b3, o3 + k, none⟩ = some (.int .i64 (j : Int)) := (HX.out.below.cell (p := ⟨b3, _, none⟩) hb3).trans a3
      have c1 : wr.cell? ⟨g1, o1 + j, none⟩ = some (.int .i64 x) := ((HB3.out.trans (HX.out.below.mono HB3.out.size)).cell (p := ⟨g1, _, none⟩) hg1).trans a1
      have HE : Hid ((dearL us ms).take (k + 1) = (dearL us ms).take k ++ [x]) := Lib.hid (take_next hdx)
      have hlen : ((dearL us ms).take k).length = k := by rw [List.length_take, HDl.out]; omega
      obtain ⟨ys, hys⟩ : ∃ ys, (dearL us ms).take k = ys := ⟨_, rfl⟩
      rw [hys] at HX hlen HE
      obtain ⟨C, e5, hv⟩ := HX.out.own.value
      rw [hlen] at hv
      subst hv
      have hown0 : Hid (Kd.Own kInt wr w3.heap.size 3 (fun _ => False) (.slice C k e5) k ys) := Lib.hid (by have := HX.out.own; rw [hlen] at this; exact this)
      have HLl := Lib.hid hlen
      have HK := Lib.hid hok
      have hlow := HX.out.below.size
      have k1 : (k : Int) < (m : Int) := by omega
      have j0 : (0 : Int) <= (j : Int) := by omega
      have j1 : (j : Int) < (m : Int) := by omega
      clear ej hd hdx a3 a1 hx hb3 hg1 hok hys hlen
      go_wp2_with ((at_builtin; refine Kd.wpList_push (W := wr) (F := fun _ => False) (B := w3.heap.size) (n := k) (v := .slice C k e5) (xs := ys) (y := x) (cs := [.int .i64 x]) Ap.int_t rfl _ _ rfl rfl rfl rfl hown0.out ⟨rfl, HK.out⟩ (by omega) (by omega) hlow (fun _ h => h.elim) ?_; intro g5 cap w' hown hgrow hfr; have HPu := Lib.hid (HX.out.push HLl.out hown hgrow); clear hown hgrow hfr))
      go_roundw
      case rel => exact ⟨k + 1, by go_num, by omega, Lib.hid (by rw [HE.out]; exact HPu.out)⟩
      case measure => simp [intOf]; omega
    . have k1 : ¬ (k : Int) < (m : Int) := by omega
      obtain rfl : k = m := by omega
      have HE : Hid ((dearL us ms).take k = dearL us ms) := Lib.hid (List.take_of_length_le (by rw [HDl.out]; omega))
      go_wp2
      go_ret
      exact told_down HB3.out (by have := HX.out.told; rw [HE.out] at this; exact this)
end Go.Proofs.YtljmddjlnlmenaaGreat.Dl
