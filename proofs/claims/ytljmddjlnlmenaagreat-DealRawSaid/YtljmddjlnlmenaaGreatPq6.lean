/- Cuts: the document's sum, half, nets, Reached, May. · Cuts: the landed sum, netsOf, netsRight, placesRight, May, part, b .. -/
import Derived.Laws.ResultCell
import Derived.LoopIn
import Derived.LoopNIn
import Derived.OwnWalkIn
import Derived.RangeFuncBound
import Derived.RangeFuncBox
import Derived.RangeFuncCalls
import Derived.RangeFuncLeaves
import Derived.RangeFuncNested
import Derived.Shelf.Abstract
import Derived.Shelf.RegionOpen
import Derived.TacticsInMore
import Derived.WalkKit
import Derived.Test.YtljmddjlnlmenaaGreatPq5
set_option maxRecDepth 100000
set_option linter.unusedVariables false

section
namespace Go.Proofs.YtljmddjlnlmenaaGreat.Ct
open Go.ChangeShapes Go.WideShapes Go.ChangeAt Go.RowKit
open Ap (Unt Tir Prm kUnt kTir row_Unt row_Tir)
open Kd (Kind Row kInt row_int)
open Ko (Out Told At)
theorem i64_t : Kd.RowT Tryz.prog kInt 60 2 (.int .i64 0) 1 8 :=
  ⟨Tryz.underlying60, by kernel_rfl, rfl, rfl, by omega, fun h => by
    obtain ⟨rfl, _⟩ := h
    intro u hu
    simp only [List.mem_cons, List.not_mem_nil, or_false] at hu
    subst hu; rfl⟩
theorem half_any (x rate : Int) (w : World) : Calls Tryz.prog 34 #[.int .i64 x, .int .i64 rate] w fun e w' => e = .returned (.int .i64 (halfN x rate)) /\ Below w.heap.size w w' := by
  have HR := Lib.hid (Rf.r_rate 1 x rate w)
  unfold Rf.pairOf at HR
  obtain ⟨a, ha⟩ : ∃ a, (Rf.rateR 1 x rate).1 = a := ⟨_, rfl⟩
  obtain ⟨b, hb⟩ : ∃ b, (Rf.rateR 1 x rate).2 = b := ⟨_, rfl⟩
  have HH : Hid (halfN x rate = a) := Lib.hid ha
  rw [ha, hb] at HR
  clear ha hb
  go_enter Tryz.func34, Tryz.ntmps34
  go_wp2_with fail
  refine HR.out.mono ?_
  rintro e w2 ⟨rfl, hb2⟩
  have HB := Lib.hid hb2
  clear hb2
  go_wp2
  go_ret
  exact ⟨by rw [HH.out]; rfl, HB.out⟩
def SumOk (l : List Int) : Prop := ∀ k : Nat, -9223372036854775808 <= sumL (l.take k) /\ sumL (l.take k) <= 9223372036854775807
theorem sum_any (A : Option Addr) (n c : Nat) (l : List Int) (F : Nat -> Prop) (w : World) (h : Row kInt w F A n l) (hn : n <= 1000000000000) (hs : SumOk l) :
    Calls Tryz.prog 42 #[.slice A n c] w fun e w' => e = .returned (.int .i64 (sumL l)) /\ w = w' := by
  have HH := Lib.hid h
  have HS := Lib.hid hs
  have HL := Lib.hid h.len
  clear h hs
  go_enter Tryz.func42, Tryz.ntmps42
  go_wp2
  go_loopw [3, 4] (fun s3 s4 wr => ∃ k : Nat, s4 = .int .i64 k /\ s3 = .int .i64 (sumL (l.take k)) /\ k <= n /\ w = wr) (fun _ s4 _ => n - (intOf s4).toNat)
  case atStart => exact ⟨0, rfl, rfl, by omega, rfl⟩
  case round =>
    obtain ⟨k, rfl, rfl, hk, hw⟩ := hrel
    obtain rfl := hw
    have kk : (0 : Int) <= (k : Int) := by omega
    by_cases hlt : k < n
    . obtain ⟨x, hx⟩ := HH.out.get hlt
      obtain ⟨g, o, rfl, _, _, hok, a0⟩ := row_int HH.out hx
      have e1 := sumL_next hx
      have b1 := HS.out (k + 1)
      rw [e1] at b1
      obtain ⟨S, hS⟩ : ∃ s, sumL (l.take k) = s := ⟨_, rfl⟩
      rw [hS] at e1 b1
      obtain ⟨T, hT⟩ : ∃ t, S + x = t := ⟨_, rfl⟩
      rw [hT] at e1 b1
      have w1 : IntKind.i64.wrap (S + x) = T := by rw [hT]; exact IntWalk.i64_in _ (by omega)
      have HE := Lib.hid e1
      have k1 : (k : Int) < (n : Int) := by omega
      clear hx hok e1 b1 hT
      simp only [hS]
      clear hS
      go_wp2
      go_roundw
      case rel => exact ⟨k + 1, by go_num, by rw [HE.out], by omega, (by first | trivial | rfl)⟩
      case measure => simp [intOf]; omega
    . have k1 : ¬ (k : Int) < (n : Int) := by omega
      obtain rfl : k = n := by omega
      have HE : Hid (sumL (l.take k) = sumL l) := Lib.hid (by rw [List.take_of_length_le (by rw [HL.out]; omega)])
      go_wp2
      go_ret
      exact ⟨by rw [<- HE.out]; rfl, rfl⟩
def PlacesIn (n : Nat) (ms : List Int) : Prop := ∀ (i : Nat) (m : Int), ms[i]? = some m -> 0 <= m /\ m < (n : Int)
theorem nets_any (A : Option Addr) (n c : Nat) (us : List Unt) (B : Option Addr) (m d : Nat) (ms : List Int) (w : World) (h : Row kUnt w (· < w.heap.size) A n us) (g : Row kInt w (· < w.heap.size) B m ms) (hm : m <= 100000) (hp : PlacesIn n ms) :
    Calls Tryz.prog 43 #[.slice A n c, .slice B m d] w fun e w' => Ko.Told kInt 2 w e w' (netsL us ms) := by
  have HU := Lib.hid h
  have HM := Lib.hid g
  have HP := Lib.hid hp
  have HL := Lib.hid g.len
  have HO0 := Lib.hid (Out.nil kInt 2 (Below.refl w.heap.size w))
  clear h g hp
  go_enter Tryz.func43, Tryz.ntmps43
  go_wp2
  go_loopw [5, 6] (fun s5 s6 wr => ∃ k : Nat, s6 = .int .i64 k /\ k <= m /\ Hid (Out kInt 2 w wr s5 (netsL us (ms.take k)))) (fun _ s6 _ => m - (intOf s6).toNat)
  case atStart => exact ⟨0, rfl, by omega, Lib.hid (by rw [List.take_zero]; exact HO0.out)⟩
  case round =>
    clear HO0
    obtain ⟨k, rfl, hk, HO⟩ := hrel
    have kk : (0 : Int) <= (k : Int) := by omega
    by_cases hlt : k < m
    . obtain ⟨x, hx⟩ := HM.out.get hlt
      obtain ⟨x0, x1⟩ := HP.out k x hx
      obtain ⟨t, ht⟩ : ∃ t : Nat, x = (t : Int) := ⟨x.toNat, by omega⟩
      subst ht
      have htn : t < n := by omega
      obtain ⟨u, hu⟩ := HU.out.get htn
      obtain ⟨g, o, rfl, hg, _, _, a0⟩ := row_int HM.out hx
      obtain ⟨g2, o2, rfl, hg2, _, hok, _, b1, _⟩ := row_Unt HU.out hu
      have c0 : wr.cell? ⟨g, o + k, none⟩ = some (.int .i64 (t : Int)) := (HO.out.below.cell (p := ⟨g, _, none⟩) hg).trans a0
      have c1 : wr.cell? ⟨g2, o2 + t * 3 + 1, none⟩ = some (.int .i64 u.net) := (HO.out.below.cell (p := ⟨g2, _, none⟩) hg2).trans b1
      have HN : Hid (netsL us (ms.take (k + 1)) = netsL us (ms.take k) ++ [u.net]) := Lib.hid (by
        rw [take_next hx]
        unfold netsL
        rw [List.map_append]
        congr 1
        show [netAt us (t : Int)] = [u.net]
        unfold netAt
        rw [Int.toNat_natCast, hu])
      have HK := Lib.hid hok.net
      have k1 : (k : Int) < (m : Int) := by omega
      have t0 : (0 : Int) <= (t : Int) := by omega
      have t1 : (t : Int) < (n : Int) := by omega
      have hlen : (netsL us (ms.take k)).length = k := by unfold netsL; rw [List.length_map, List.length_take, HL.out]; omega
      obtain ⟨os, hos⟩ : ∃ os, netsL us (ms.take k) = os := ⟨_, rfl⟩
      rw [hos] at HO hlen HN
      obtain ⟨C, e5, hv⟩ := HO.out.own.value
      rw [hlen] at hv
      subst hv
      have hown0 : Hid (Kd.Own kInt wr w.heap.size 2 (fun _ => False) (.slice C k e5) k os) := Lib.hid (by have := HO.out.own; rw [hlen] at this; exact this)
      have HLl := Lib.hid hlen
      have hlow := HO.out.below.size
      clear a0 b1 hx hu hok hg hg2 hos hlen x0 x1
      go_wp2_with ((at_builtin; refine Kd.wpList_push (W := wr) (F := fun _ => False) (B := w.heap.size) (n := k) (v := .slice C k e5) (xs := os) (y := u.net) (cs := [.int .i64 u.net]) i64_t rfl _ _ rfl rfl rfl rfl hown0.out ⟨rfl, HK.out⟩ (by omega) (by omega) hlow (fun _ h => h.elim) ?_; intro g1 cap w' hown hgrow hfr; have HPu := Lib.hid (HO.out.push HLl.out hown hgrow); clear hown hgrow hfr))
      go_roundw
      case rel => exact ⟨k + 1, by go_num, by omega, Lib.hid (by rw [HN.out]; exact HPu.out)⟩
      case measure => simp [intOf]; omega
    . have k1 : ¬ (k : Int) < (m : Int) := by omega
      obtain rfl : k = m := by omega
      have HE : Hid (netsL us (ms.take k) = netsL us ms) := Lib.hid (by rw [List.take_of_length_le (by rw [HL.out]; omega)])
      go_wp2
      go_ret
      rw [<- HE.out]
      exact HO.out.told
end Go.Proofs.YtljmddjlnlmenaaGreat.Ct

end

section
namespace Go.Proofs.YtljmddjlnlmenaaGreat.Ct
open Go.ChangeShapes Go.WideShapes Go.ChangeAt Go.RowKit
open Ap (Unt Tir Prm kUnt kTir row_Unt row_Tir)
open Kd (Kind Row kInt row_int)
open Ko (Out Told Told2 At row_on)
noncomputable def unitsB (us : List Unt) : Bool := @decide (UnitsMay us) (Classical.propDecidable _)
noncomputable def placesB (us : List Unt) (ms : List Int) : Bool := @decide (PlacesMay us ms) (Classical.propDecidable _)
theorem unitsB_yes {us : List Unt} (h : UnitsMay us) : unitsB us = true := by unfold unitsB; exact @decide_eq_true _ (Classical.propDecidable _) h
theorem unitsB_no {us : List Unt} (h : ¬ UnitsMay us) : unitsB us = false := by unfold unitsB; exact @decide_eq_false _ (Classical.propDecidable _) h
theorem placesB_yes {us : List Unt} {ms : List Int} (h : PlacesMay us ms) : placesB us ms = true := by unfold placesB; exact @decide_eq_true _ (Classical.propDecidable _) h
theorem placesB_no {us : List Unt} {ms : List Int} (h : ¬ PlacesMay us ms) : placesB us ms = false := by unfold placesB; exact @decide_eq_false _ (Classical.propDecidable _) h
theorem may_both (us : List Unt) (ms : List Int) : (unitsB us = true -> placesB us ms = mayB us ms) /\ (unitsB us = false -> mayB us ms = false) := by
  rcases Classical.em (UnitsMay us) with h1 | h1
  . refine ⟨fun _ => ?_, fun h => by rw [unitsB_yes h1] at h; cases h⟩
    rcases Classical.em (PlacesMay us ms) with h2 | h2
    . rw [placesB_yes h2, mayB_yes ⟨h1, h2⟩]
    . rw [placesB_no h2, mayB_no fun h => h2 h.places]
  . exact ⟨fun h => (by rw [unitsB_no h1] at h; cases h), fun _ => mayB_no fun h => h1 h.units⟩
structure Seen (us : List Unt) (k : Nat) : Prop where
  nets : Nets (us.take k)
  sum : 0 <= nsum (us.take k) /\ nsum (us.take k) <= (k : Int) * 10000000000000
theorem Seen.next {us : List Unt} {k : Nat} {u : Unt} (h : Seen us k) (hu : us[k]? = some u) (h0 : 0 <= u.net /\ u.net <= 10000000000000) : Seen us (k + 1) :=
  ⟨fun j v hv => by
    rw [take_next hu] at hv
    have hl : (us.take k).length = k := by rw [List.length_take]; have := (List.getElem?_eq_some_iff.1 hu).1; omega
    rcases Nat.lt_or_ge j (us.take k).length with hj | hj
    . rw [List.getElem?_append_left hj] at hv; exact h.nets j v hv
    . rw [List.getElem?_append_right hj] at hv
      have : j - (us.take k).length = 0 := by
        have := (List.getElem?_eq_some_iff.1 hv).1
        simp at this; omega
      rw [this] at hv
      injection hv with hv
      subst hv; exact h0.1,
   by rw [nsum_next hu]; have := h.sum; omega⟩
set_option maxHeartbeats 1000000 in
theorem netsRight_any (A : Option Addr) (n c : Nat) (us : List Unt) (F : Nat -> Prop) (w : World) (h : Row kUnt w F A n us) (hF : ∀ g, F g -> g < w.heap.size) (hn : n <= 1000000000000) :
    Calls Tryz.prog 57 #[.slice A n c] w fun e w' => e = .returned (.bool (unitsB us)) /\ Below w.heap.size w w' := by
  have hlen := h.len
  by_cases hq : 100000 < n
  . have k1 : (100000 : Int) < (n : Int) := by omega
    have HE : Hid (unitsB us = false) := Lib.hid (unitsB_no fun hh => by have := hh.few; omega)
    clear h hlen hq hF
    go_enter Tryz.func57, Tryz.ntmps57
    go_wp2
    go_ret
    exact ⟨by rw [HE.out]; rfl, Below.refl _ _⟩
  . have k0 : ¬ (100000 : Int) < (n : Int) := by omega
    have HH := Lib.hid h
    have HL := Lib.hid hlen
    have HFf := Lib.hid hF
    clear h hlen hF
    go_enter Tryz.func57, Tryz.ntmps57
    go_wp2
    go_loopw [3, 11] (fun s3 s11 wr => ∃ k : Nat, s11 = .int .i64 k /\ s3 = .int .i64 (nsum (us.take k)) /\ k <= n /\ Hid (Seen us k /\ Below w.heap.size w wr)) (fun _ s11 _ => n - (intOf s11).toNat)
    case atStart => exact ⟨0, rfl, rfl, by omega, Lib.hid ⟨⟨fun j u hu => by simp at hu, by rw [List.take_zero]; simp [nsum]⟩, Below.refl _ _⟩⟩
    case round =>
      obtain ⟨k, rfl, rfl, hk, HO⟩ := hrel
      have kk : (0 : Int) <= (k : Int) := by omega
      by_cases hlt : k < n
      . obtain ⟨u, hu⟩ := HH.out.get hlt
        obtain ⟨g, o, rfl, hg, _, hok, a0, a1, a2⟩ := row_Unt HH.out hu
        have c0 : wr.cell? ⟨g, o + k * 3, none⟩ = some (.int .i64 u.line) := (HO.out.2.cell (p := ⟨g, _, none⟩) (HFf.out g hg)).trans a0
        have c1 : wr.cell? ⟨g, o + k * 3 + 1, none⟩ = some (.int .i64 u.net) := (HO.out.2.cell (p := ⟨g, _, none⟩) (HFf.out g hg)).trans a1
        have c2 : wr.cell? ⟨g, o + k * 3 + 2, none⟩ = some (.bool u.opn) := (HO.out.2.cell (p := ⟨g, _, none⟩) (HFf.out g hg)).trans a2
        have k1 : (k : Int) < (n : Int) := by omega
        obtain ⟨W2, hW2⟩ : ∃ W2, wr.alloc (.cells #[.int .i64 u.line, .int .i64 u.net, .bool u.opn] 35) = W2 := ⟨_, rfl⟩
        have hb2 : Below w.heap.size w W2 := by rw [<- hW2]; exact HO.out.2.alloc HO.out.2.size _
        have hbx : Qu.Blk W2 wr.heap.size 35 #[.int .i64 u.line, .int .i64 u.net, .bool u.opn] := by rw [<- hW2]; exact Qu.Blk.new wr _ _
        have x1 := hbx.cell 1
        have HB2 := Lib.hid hb2
        have HW2 := Lib.hid hW2
        have hs := HO.out.1.sum
        obtain ⟨S, hS⟩ : ∃ s, nsum (us.take k) = s := ⟨_, rfl⟩
        rw [hS] at hs
        by_cases h0 : u.net < 0
        . have HE : Hid (unitsB us = false) := Lib.hid (unitsB_no fun hh => by have := hh.nets k u hu; omega)
          clear a0 a1 a2 hu hok hg hbx hb2 hW2 hs
          go_wp2_with fail
          rw [HW2.out]
          go_wp2
          go_ret
          exact ⟨by rw [HE.out]; rfl, HB2.out⟩
        . by_cases h1 : 10000000000000 < u.net
          . have HE : Hid (unitsB us = false) := Lib.hid (unitsB_no fun hh => by have := hh.nets.one hu; have := hh.total; omega)
            clear a0 a1 a2 hu hok hg hbx hb2 hW2 hs
            go_wp2_with fail
            rw [HW2.out]
            go_wp2
            go_ret
            exact ⟨by rw [HE.out]; rfl, HB2.out⟩
          . obtain ⟨T, hT⟩ : ∃ t, S + u.net = t := ⟨_, rfl⟩
            have hk5 : (k : Int) * 10000000000000 <= 100000 * 10000000000000 := by omega
            have w1 : IntKind.i64.wrap (S + u.net) = T := by rw [hT]; exact IntWalk.i64_in _ (by omega)
            have HN := Lib.hid (HO.out.1.next hu ⟨by omega, by omega⟩)
            have HE : Hid (nsum (us.take (k + 1)) = T) := Lib.hid (by rw [nsum_next hu, hS, hT])
            clear a0 a1 a2 hu hok hg hbx hb2 hW2 hs hT hk5
            simp only [hS]
            clear hS
            go_wp2_with fail
            rw [HW2.out]
            go_wp2
            go_roundw
            case rel => exact ⟨k + 1, by go_num, by rw [HE.out], by omega, Lib.hid ⟨HN.out, HB2.out⟩⟩
            case measure => simp [intOf]; omega
      . have k1 : ¬ (k : Int) < (n : Int) := by omega
        obtain rfl : k = n := by omega
        have hT : us.take k = us := List.take_of_length_le (by rw [HL.out]; omega)
        have hs := HO.out.1
        have hs2 := hs.nets
        rw [hT] at hs2
        rw [hT]
        have hB : unitsB us = decide (nsum us <= 10000000000000) := by
          by_cases h9 : nsum us <= 10000000000000
          . rw [unitsB_yes ⟨by rw [HL.out]; omega, hs2, h9⟩]; simp [h9]
          . rw [unitsB_no fun hh => h9 hh.total]; simp [h9]
        have HB := Lib.hid hB
        clear hs hs2 hT hB
        go_wp2
        go_ret
        exact ⟨by rw [HB.out]; rfl, HO.out.2⟩
def leastK (ms : List Int) : Nat -> Int
  | 0 => 0
  | k + 1 => nth ms k + 1
theorem leastK_zero (ms : List Int) : leastK ms 0 = 0 := rfl
theorem leastK_next {ms : List Int} {k : Nat} {x : Int} (h : ms[k]? = some x) : leastK ms (k + 1) = x + 1 := by show nth ms k + 1 = x + 1; unfold nth; rw [h]; rfl
theorem PlacesMay.next {us : List Unt} {ms : List Int} {k : Nat} {t : Nat} {u : Unt} (h : PlacesMay us (ms.take k)) (hm : ms[k]? = some (t : Int)) (hl : leastK ms k <= (t : Int)) (hu : us[t]? = some u) (ho : u.opn = true) : PlacesMay us (ms.take (k + 1)) := by
  have hlen : (ms.take k).length = k := by rw [List.length_take]; have := (List.getElem?_eq_some_iff.1 hm).1; omega
  have hat : ∀ (i : Nat) (m : Int), (ms.take (k + 1))[i]? = some m -> (i < k /\ (ms.take k)[i]? = some m) \/ (i = k /\ m = (t : Int)) := fun i m hi => by
    rw [take_next hm] at hi
    rcases Nat.lt_or_ge i k with hj | hj
    . rw [List.getElem?_append_left (by omega)] at hi; exact .inl ⟨hj, hi⟩
    . rw [List.getElem?_append_right (by omega), hlen] at hi
      have : i - k = 0 := by
        have := (List.getElem?_eq_some_iff.1 hi).1
        simp at this; omega
      rw [this] at hi
      injection hi with hi
      exact .inr ⟨by omega, hi.symm⟩
  refine ⟨fun i m hi => ?_, fun i a b ha hb => ?_⟩
  . rcases hat i m hi with ⟨_, h1⟩ | ⟨_, rfl⟩
    . exact h.at_ i m h1
    . exact ⟨by omega, u, by rw [Int.toNat_natCast]; exact hu, ho⟩
  . rcases hat (i + 1) b hb with ⟨h1, h2⟩ | ⟨h1, rfl⟩
    . rcases hat i a ha with ⟨_, h4⟩ | ⟨h3, _⟩
      . exact h.rise i a b h4 h2
      . omega
    . rcases hat i a ha with ⟨h3, h4⟩ | ⟨h3, _⟩
      . have e : ms[i]? = some a := by rw [List.getElem?_take, if_pos h3] at h4; exact h4
        subst h1
        rw [leastK_next e] at hl
        omega
      . omega
theorem places_below {us : List Unt} {ms : List Int} {k : Nat} {x : Int} (hm : ms[k]? = some x) (hl : x < leastK ms k) : ¬ PlacesMay us ms := fun h => by
  cases k with
  | zero => have := (h.at_ 0 x hm).1; rw [leastK_zero] at hl; omega
  | succ k =>
    have hk : k < ms.length := by have := (List.getElem?_eq_some_iff.1 hm).1; omega
    have e := List.getElem?_eq_getElem hk
    have h1 := h.rise k _ x e hm
    rw [leastK_next e] at hl
    omega
set_option maxHeartbeats 1000000 in
theorem placesRight_any (A : Option Addr) (n c : Nat) (us : List Unt) (B : Option Addr) (m d : Nat) (ms : List Int) (F G : Nat -> Prop) (w : World) (h : Row kUnt w F A n us) (hn : n <= 1000000000000) (g : Row kInt w G B m ms) (hm : m <= 1000000000000) :
    Calls Tryz.prog 58 #[.slice B m d, .slice A n c] w fun e w' => e = .returned (.bool (placesB us ms)) /\ w = w' := by
  have HU := Lib.hid h
  have HM := Lib.hid g
  have HLu := Lib.hid h.len
  have HL := Lib.hid g.len
  clear h g
  go_enter Tryz.func58, Tryz.ntmps58
  go_wp2
  go_loopw [5, 10] (fun s5 s10 wr => ∃ k : Nat, s10 = .int .i64 k /\ s5 = .int .i64 (leastK ms k) /\ k <= m /\ w = wr /\ Hid (PlacesMay us (ms.take k) /\ 0 <= leastK ms k /\ leastK ms k <= (n : Int))) (fun _ s10 _ => m - (intOf s10).toNat)
  case atStart => exact ⟨0, rfl, rfl, by omega, rfl, Lib.hid ⟨⟨fun i x hx => by simp at hx, fun i a b ha => by simp at ha⟩, by rw [leastK_zero]; omega, by rw [leastK_zero]; omega⟩⟩
  case round =>
    obtain ⟨k, rfl, rfl, hk, hw, HO⟩ := hrel
    obtain rfl := hw
    have kk : (0 : Int) <= (k : Int) := by omega
    by_cases hlt : k < m
    . obtain ⟨x, hx⟩ := HM.out.get hlt
      obtain ⟨g, o, rfl, _, _, hok, a0⟩ := row_int HM.out hx
      have k1 : (k : Int) < (m : Int) := by omega
      have hlo := HO.out.2
      obtain ⟨L, hL⟩ : ∃ z, leastK ms k = z := ⟨_, rfl⟩
      rw [hL] at hlo
      by_cases h0 : x < L
      . have HE : Hid (placesB us ms = false) := Lib.hid (placesB_no (places_below hx (by rw [hL]; exact h0)))
        clear hx hok hlo
        simp only [hL]
        clear hL
        go_wp2
        go_ret
        exact ⟨by rw [HE.out]; rfl, rfl⟩
      . by_cases h1 : (n : Int) <= x
        . have HE : Hid (placesB us ms = false) := Lib.hid (placesB_no fun hh => by
            obtain ⟨_, u, hu, _⟩ := hh.at_ k x hx
            have := (List.getElem?_eq_some_iff.1 hu).1
            have := HLu.out
            omega)
          clear hx hok hlo
          simp only [hL]
          clear hL
          go_wp2
          go_ret
          exact ⟨by rw [HE.out]; rfl, rfl⟩
        . obtain ⟨t, ht⟩ : ∃ t : Nat, x = (t : Int) := ⟨x.toNat, by omega⟩
          subst ht
          have htn : t < n := by omega
          obtain ⟨u, hu⟩ := HU.out.get htn
          obtain ⟨g2, o2, rfl, hg2, _, _, _, _, b2⟩ := row_Unt HU.out hu
          have t0 : (0 : Int) <= (t : Int) := by omega
          have t1 : (t : Int) < (n : Int) := by omega
          obtain ⟨bo, hbo⟩ : ∃ b, u.opn = b := ⟨_, rfl⟩
          rw [hbo] at b2
          cases bo with
          | false =>
            have HE : Hid (placesB us ms = false) := Lib.hid (placesB_no fun hh => by
              obtain ⟨_, v, hv, ho⟩ := hh.at_ k (t : Int) hx
              rw [Int.toNat_natCast, hu] at hv
              injection hv with hv
              subst hv
              rw [hbo] at ho; cases ho)
            clear hx hok hlo hu hg2 hbo
            simp only [hL]
            clear hL
            go_wp2
            go_ret
            exact ⟨by rw [HE.out]; rfl, rfl⟩
          | true =>
            have HN := Lib.hid (HO.out.1.next hx (by rw [hL]; omega) hu hbo)
            have HE : Hid (leastK ms (k + 1) = (t : Int) + 1) := Lib.hid (leastK_next hx)
            have w1 : IntKind.i64.wrap ((t : Int) + 1) = (t : Int) + 1 := IntWalk.i64_in _ (by omega)
            clear hx hok hlo hu hg2 hbo
            simp only [hL]
            clear hL
            go_wp2
            go_roundw
            case rel => exact ⟨k + 1, by go_num, by rw [HE.out], by omega, (by first | trivial | rfl), Lib.hid ⟨HN.out, by rw [HE.out]; omega, by rw [HE.out]; omega⟩⟩
            case measure => simp [intOf]; omega
    . have k1 : ¬ (k : Int) < (m : Int) := by omega
      obtain rfl : k = m := by omega
      have HE : Hid (placesB us ms = true) := Lib.hid (placesB_yes (by have := HO.out.1; rw [List.take_of_length_le (by rw [HL.out]; omega)] at this; exact this))
      go_wp2
      go_ret
      exact ⟨by rw [HE.out]; rfl, rfl⟩
theorem lmay_any (A : Option Addr) (n c : Nat) (us : List Unt) (B : Option Addr) (m d : Nat) (ms : List Int) (w : World) (h : Row kUnt w (· < w.heap.size) A n us) (hn : n <= 1000000000000) (g : Row kInt w (· < w.heap.size) B m ms) (hm : m <= 1000000000000) :
    Calls Tryz.prog 26 #[.slice A n c, .slice B m d] w fun e w' => e = .returned (.bool (mayB us ms)) /\ Below w.heap.size w w' := by
  have HNr := Lib.hid (netsRight_any A n c us (· < w.heap.size) w h (fun _ h => h) hn)
  have HPl := Lib.hid (fun W (hb : Below w.heap.size w W) => placesRight_any A n c us B m d ms _ _ W (row_on h hb) hn (row_on g hb) hm)
  have hboth := may_both us ms
  clear h g
  obtain ⟨b1, hb1⟩ : ∃ b, unitsB us = b := ⟨_, rfl⟩
  rw [hb1] at HNr hboth
  cases b1 with
  | false =>
    have HE := Lib.hid (hboth.2 rfl)
    clear hboth hb1
    go_enter Tryz.func26, Tryz.ntmps26
    go_wp2_with fail
    refine HNr.out.mono ?_
    rintro e w2 ⟨rfl, hb2⟩
    have HB := Lib.hid hb2
    clear hb2
    go_wp2
    go_ret
    exact ⟨by rw [HE.out]; rfl, HB.out⟩
  | true =>
    have HE := Lib.hid (hboth.1 rfl)
    clear hboth hb1
    obtain ⟨b3, hb3⟩ : ∃ b, placesB us ms = b := ⟨_, rfl⟩
    simp only [hb3] at HPl
    rw [hb3] at HE
    clear hb3
    go_enter Tryz.func26, Tryz.ntmps26
    go_wp2_with fail
    refine HNr.out.mono ?_
    rintro e w2 ⟨rfl, hb2⟩
    have HB := Lib.hid hb2
    have HP2 := Lib.hid (HPl.out w2 hb2)
    clear hb2
    go_wp2_with fail
    refine HP2.out.mono ?_
    rintro e w3 ⟨rfl, hw⟩
    obtain rfl := hw
    go_wp2
    go_ret
    exact ⟨by rw [<- HE.out]; rfl, HB.out⟩
end Go.Proofs.YtljmddjlnlmenaaGreat.Ct

end

section
namespace Go.Proofs.YtljmddjlnlmenaaGreat.Ct
open Go.ChangeShapes Go.WideShapes Go.ChangeAt Go.RowKit Go.Shelf
open Ap (Unt Tir Prm kUnt kTir row_Unt row_Tir)
open Kd (Kind Row kInt row_int)
attribute [local go_sem] Oper.semAt_some
abbrev TO := { t : Tir // t.ok }
end Go.Proofs.YtljmddjlnlmenaaGreat.Ct

end
