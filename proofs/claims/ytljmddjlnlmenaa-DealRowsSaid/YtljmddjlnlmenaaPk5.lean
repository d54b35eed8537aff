/- Cuts: the landed sum, netsOf, netsRight, placesRight, May, part, byTier (made by gen-cut15.py). · Cuts: the library's Backward over tiers, and the landed Reached, which ranges over it. · The statements' helpers on api.Unit: Same, Plain, Own, Kept. · Contracts of the statements' plain things: Mod, Mod64, Sku, Category, pick; the document's Name and in. · Cuts: the statements' Units and Mine, as functions of what is drawn. · Cuts: the document's less, and In[int] (made by gen-less15.py). · Cuts: the document's offs, kind by kind (made by gen-offs15.py). · Cuts: what is taken off is fine: mathema .. -/
import Derived.Deep.RegionHeld3
import Derived.Laws.Concat
import Derived.Laws.ResultCell
import Derived.Laws.StructEq
import Derived.LoopIn
import Derived.LoopNIn
import Derived.OwnWalkIn
import Derived.RangeFuncBound
import Derived.RangeFuncBox
import Derived.RangeFuncCalls
import Derived.RangeFuncLeaves
import Derived.RangeFuncNested
import Derived.Shelf.Abstract
import Derived.Shelf.RegionOpen
import Derived.TacticsInMore
import Derived.WalkKit
import Derived.Test.YtljmddjlnlmenaaPk1
import Derived.Test.YtljmddjlnlmenaaPk2
import Derived.Test.YtljmddjlnlmenaaPk4

section
set_option maxRecDepth 100000
set_option linter.unusedVariables false
namespace Go.Proofs.Ytljmddjlnlmenaa.Ct
open Go.ChangeShapes Go.WideShapes Go.ChangeAt Go.RowKit
open Ap (Unt Tir Prm kUnt kTir row_Unt row_Tir)
open Kd (Kind Row kInt row_int)
open Ko (Out Told Told2 At row_on)
/-! ### May -/
noncomputable def unitsB (us : List Unt) : Bool := @decide (UnitsMay us) (Classical.propDecidable _)
noncomputable def placesB (us : List Unt) (ms : List Int) : Bool := @decide (PlacesMay us ms) (Classical.propDecidable _)
theorem unitsB_yes {us : List Unt} (h : UnitsMay us) : unitsB us = true := by unfold unitsB; exact @decide_eq_true _ (Classical.propDecidable _) h
theorem unitsB_no {us : List Unt} (h : ¬ UnitsMay us) : unitsB us = false := by unfold unitsB; exact @decide_eq_false _ (Classical.propDecidable _) h
theorem placesB_yes {us : List Unt} {ms : List Int} (h : PlacesMay us ms) : placesB us ms = true := by unfold placesB; exact @decide_eq_true _ (Classical.propDecidable _) h
theorem placesB_no {us : List Unt} {ms : List Int} (h : ¬ PlacesMay us ms) : placesB us ms = false := by unfold placesB; exact @decide_eq_false _ (Classical.propDecidable _) h
theorem may_both (us : List Unt) (ms : List Int) : (unitsB us = true → placesB us ms = mayB us ms) ∧ (unitsB us = false → mayB us ms = false) := by
  rcases Classical.em (UnitsMay us) with h1 | h1
  · refine ⟨fun _ => ?_, fun h => by rw [unitsB_yes h1] at h; cases h⟩
    rcases Classical.em (PlacesMay us ms) with h2 | h2
    · rw [placesB_yes h2, mayB_yes ⟨h1, h2⟩]
    · rw [placesB_no h2, mayB_no fun h => h2 h.places]
  · exact ⟨fun h => (by rw [unitsB_no h1] at h; cases h), fun _ => mayB_no fun h => h1 h.units⟩
structure Seen (us : List Unt) (k : Nat) : Prop where
  nets : Nets (us.take k)
  sum : 0 ≤ nsum (us.take k) ∧ nsum (us.take k) ≤ (k : Int) * 10000000000000
theorem Seen.next {us : List Unt} {k : Nat} {u : Unt} (h : Seen us k) (hu : us[k]? = some u) (h0 : 0 ≤ u.net ∧ u.net ≤ 10000000000000) : Seen us (k + 1) :=
  ⟨fun j v hv => by
    rw [take_next hu] at hv
    have hl : (us.take k).length = k := by rw [List.length_take]; have := (List.getElem?_eq_some_iff.1 hu).1; omega
    rcases Nat.lt_or_ge j (us.take k).length with hj | hj
    · rw [List.getElem?_append_left hj] at hv; exact h.nets j v hv
    · rw [List.getElem?_append_right hj] at hv
      have : j - (us.take k).length = 0 := by
        have := (List.getElem?_eq_some_iff.1 hv).1
        simp at this; omega
      rw [this] at hv
      injection hv with hv
      subst hv; exact h0.1,
   by rw [nsum_next hu]; have := h.sum; omega⟩
set_option maxHeartbeats 1000000 in
theorem netsRight_any (A : Option Addr) (n c : Nat) (us : List Unt) (F : Nat → Prop) (w : World) (h : Row kUnt w F A n us) (hF : ∀ g, F g → g < w.heap.size) (hn : n ≤ 1000000000000) :
    Calls Try.prog 29 #[.slice A n c] w fun e w' => e = .returned (.bool (unitsB us)) ∧ Below w.heap.size w w' := by
  have hlen := h.len
  by_cases hq : 100000 < n
  · have k1 : (100000 : Int) < (n : Int) := by omega
    have HE : Hid (unitsB us = false) := Lib.hid (unitsB_no fun hh => by have := hh.few; omega)
    clear h hlen hq hF
    go_enter Try.func29, Try.ntmps29
    go_wp2
    go_ret
    exact ⟨by rw [HE.out]; rfl, Below.refl _ _⟩
  · have k0 : ¬ (100000 : Int) < (n : Int) := by omega
    have HH := Lib.hid h
    have HL := Lib.hid hlen
    have HFf := Lib.hid hF
    clear h hlen hF
    go_enter Try.func29, Try.ntmps29
    go_wp2
    go_loopw [3, 11] (fun s3 s11 wr => ∃ k : Nat, s11 = .int .i64 k ∧ s3 = .int .i64 (nsum (us.take k)) ∧ k ≤ n ∧ Hid (Seen us k ∧ Below w.heap.size w wr)) (fun _ s11 _ => n - (intOf s11).toNat)
    case atStart => exact ⟨0, rfl, rfl, by omega, Lib.hid ⟨⟨fun j u hu => by simp at hu, by rw [List.take_zero]; simp [nsum]⟩, Below.refl _ _⟩⟩
    case round =>
      obtain ⟨k, rfl, rfl, hk, HO⟩ := hrel
      have kk : (0 : Int) ≤ (k : Int) := by omega
      by_cases hlt : k < n
      · obtain ⟨u, hu⟩ := HH.out.get hlt
        obtain ⟨g, o, rfl, hg, _, hok, a0, a1, a2⟩ := row_Unt HH.out hu
        have c0 : wr.cell? ⟨g, o + k * 3, none⟩ = some (.int .i64 u.line) := (HO.out.2.cell (p := ⟨g, _, none⟩) (HFf.out g hg)).trans a0
        have c1 : wr.cell? ⟨g, o + k * 3 + 1, none⟩ = some (.int .i64 u.net) := (HO.out.2.cell (p := ⟨g, _, none⟩) (HFf.out g hg)).trans a1
        have c2 : wr.cell? ⟨g, o + k * 3 + 2, none⟩ = some (.bool u.opn) := (HO.out.2.cell (p := ⟨g, _, none⟩) (HFf.out g hg)).trans a2
        have k1 : (k : Int) < (n : Int) := by omega
        obtain ⟨W2, hW2⟩ : ∃ W2, wr.alloc (.cells #[.int .i64 u.line, .int .i64 u.net, .bool u.opn] 34) = W2 := ⟨_, rfl⟩
        have hb2 : Below w.heap.size w W2 := by rw [← hW2]; exact HO.out.2.alloc HO.out.2.size _
        have hbx : Qu.Blk W2 wr.heap.size 34 #[.int .i64 u.line, .int .i64 u.net, .bool u.opn] := by rw [← hW2]; exact Qu.Blk.new wr _ _
        have x1 := hbx.cell 1
        have HB2 := Lib.hid hb2
        have HW2 := Lib.hid hW2
        have hs := HO.out.1.sum
        obtain ⟨S, hS⟩ : ∃ s, nsum (us.take k) = s := ⟨_, rfl⟩
        rw [hS] at hs
        by_cases h0 : u.net < 0
        · have HE : Hid (unitsB us = false) := Lib.hid (unitsB_no fun hh => by have := hh.nets k u hu; omega)
          clear a0 a1 a2 hu hok hg hbx hb2 hW2 hs
          go_wp2_with fail
          rw [HW2.out]
          go_wp2
          go_ret
          exact ⟨by rw [HE.out]; rfl, HB2.out⟩
        · by_cases h1 : 10000000000000 < u.net
          · have HE : Hid (unitsB us = false) := Lib.hid (unitsB_no fun hh => by have := hh.nets.one hu; have := hh.total; omega)
            clear a0 a1 a2 hu hok hg hbx hb2 hW2 hs
            go_wp2_with fail
            rw [HW2.out]
            go_wp2
            go_ret
            exact ⟨by rw [HE.out]; rfl, HB2.out⟩
          · obtain ⟨T, hT⟩ : ∃ t, S + u.net = t := ⟨_, rfl⟩
            have hk5 : (k : Int) * 10000000000000 ≤ 100000 * 10000000000000 := by omega
            have w1 : IntKind.i64.wrap (S + u.net) = T := by rw [hT]; exact IntWalk.i64_in _ (by omega)
            have HN := Lib.hid (HO.out.1.next hu ⟨by omega, by omega⟩)
            have HE : Hid (nsum (us.take (k + 1)) = T) := Lib.hid (by rw [nsum_next hu, hS, hT])
            clear a0 a1 a2 hu hok hg hbx hb2 hW2 hs hT hk5
            simp only [hS]
            clear hS
            go_wp2_with fail
            rw [HW2.out]
            go_wp2
            go_roundw
            case rel => exact ⟨k + 1, by go_num, by rw [HE.out], by omega, Lib.hid ⟨HN.out, HB2.out⟩⟩
            case measure => simp [intOf]; omega
      · have k1 : ¬ (k : Int) < (n : Int) := by omega
        obtain rfl : k = n := by omega
        have hT : us.take k = us := List.take_of_length_le (by rw [HL.out]; omega)
        have hs := HO.out.1
        have hs2 := hs.nets
        rw [hT] at hs2
        rw [hT]
        have hB : unitsB us = decide (nsum us ≤ 10000000000000) := by
          by_cases h9 : nsum us ≤ 10000000000000
          · rw [unitsB_yes ⟨by rw [HL.out]; omega, hs2, h9⟩]; simp [h9]
          · rw [unitsB_no fun hh => h9 hh.total]; simp [h9]
        have HB := Lib.hid hB
        clear hs hs2 hT hB
        go_wp2
        go_ret
        exact ⟨by rw [HB.out]; rfl, HO.out.2⟩
def leastK (ms : List Int) : Nat → Int
  | 0 => 0
  | k + 1 => nth ms k + 1
theorem leastK_zero (ms : List Int) : leastK ms 0 = 0 := rfl
theorem leastK_next {ms : List Int} {k : Nat} {x : Int} (h : ms[k]? = some x) : leastK ms (k + 1) = x + 1 := by show nth ms k + 1 = x + 1; unfold nth; rw [h]; rfl
theorem PlacesMay.next {us : List Unt} {ms : List Int} {k : Nat} {t : Nat} {u : Unt} (h : PlacesMay us (ms.take k)) (hm : ms[k]? = some (t : Int)) (hl : leastK ms k ≤ (t : Int)) (hu : us[t]? = some u) (ho : u.opn = true) : PlacesMay us (ms.take (k + 1)) := by
  have hlen : (ms.take k).length = k := by rw [List.length_take]; have := (List.getElem?_eq_some_iff.1 hm).1; omega
  have hat : ∀ (i : Nat) (m : Int), (ms.take (k + 1))[i]? = some m → (i < k ∧ (ms.take k)[i]? = some m) ∨ (i = k ∧ m = (t : Int)) := fun i m hi => by
    rw [take_next hm] at hi
    rcases Nat.lt_or_ge i k with hj | hj
    · rw [List.getElem?_append_left (by omega)] at hi; exact .inl ⟨hj, hi⟩
    · rw [List.getElem?_append_right (by omega), hlen] at hi
      have : i - k = 0 := by
        have := (List.getElem?_eq_some_iff.1 hi).1
        simp at this; omega
      rw [this] at hi
      injection hi with hi
      exact .inr ⟨by omega, hi.symm⟩
  refine ⟨fun i m hi => ?_, fun i a b ha hb => ?_⟩
  · rcases hat i m hi with ⟨_, h1⟩ | ⟨_, rfl⟩
    · exact h.at_ i m h1
    · exact ⟨by omega, u, by rw [Int.toNat_natCast]; exact hu, ho⟩
  · rcases hat (i + 1) b hb with ⟨h1, h2⟩ | ⟨h1, rfl⟩
    · rcases hat i a ha with ⟨_, h4⟩ | ⟨h3, _⟩
      · exact h.rise i a b h4 h2
      · omega
    · rcases hat i a ha with ⟨h3, h4⟩ | ⟨h3, _⟩
      · have e : ms[i]? = some a := by rw [List.getElem?_take, if_pos h3] at h4; exact h4
        subst h1
        rw [leastK_next e] at hl
        omega
      · omega
theorem places_below {us : List Unt} {ms : List Int} {k : Nat} {x : Int} (hm : ms[k]? = some x) (hl : x < leastK ms k) : ¬ PlacesMay us ms := fun h => by
  cases k with
  | zero => have := (h.at_ 0 x hm).1; rw [leastK_zero] at hl; omega
  | succ k =>
    have hk : k < ms.length := by have := (List.getElem?_eq_some_iff.1 hm).1; omega
    have e := List.getElem?_eq_getElem hk
    have h1 := h.rise k _ x e hm
    rw [leastK_next e] at hl
    omega
set_option maxHeartbeats 1000000 in
theorem placesRight_any (A : Option Addr) (n c : Nat) (us : List Unt) (B : Option Addr) (m d : Nat) (ms : List Int) (F G : Nat → Prop) (w : World) (h : Row kUnt w F A n us) (hn : n ≤ 1000000000000) (g : Row kInt w G B m ms) (hm : m ≤ 1000000000000) :
    Calls Try.prog 30 #[.slice B m d, .slice A n c] w fun e w' => e = .returned (.bool (placesB us ms)) ∧ w = w' := by
  have HU := Lib.hid h
  have HM := Lib.hid g
  have HLu := Lib.hid h.len
  have HL := Lib.hid g.len
  clear h g
  go_enter Try.func30, Try.ntmps30
  go_wp2
  go_loopw [5, 10] (fun s5 s10 wr => ∃ k : Nat, s10 = .int .i64 k ∧ s5 = .int .i64 (leastK ms k) ∧ k ≤ m ∧ w = wr ∧ Hid (PlacesMay us (ms.take k) ∧ 0 ≤ leastK ms k ∧ leastK ms k ≤ (n : Int))) (fun _ s10 _ => m - (intOf s10).toNat)
  case atStart => exact ⟨0, rfl, rfl, by omega, rfl, Lib.hid ⟨⟨fun i x hx => by simp at hx, fun i a b ha => by simp at ha⟩, by rw [leastK_zero]; omega, by rw [leastK_zero]; omega⟩⟩
  case round =>
    obtain ⟨k, rfl, rfl, hk, hw, HO⟩ := hrel
    obtain rfl := hw
    have kk : (0 : Int) ≤ (k : Int) := by omega
    by_cases hlt : k < m
    · obtain ⟨x, hx⟩ := HM.out.get hlt
      obtain ⟨g, o, rfl, _, _, hok, a0⟩ := row_int HM.out hx
      have k1 : (k : Int) < (m : Int) := by omega
      have hlo := HO.out.2
      obtain ⟨L, hL⟩ : ∃ z, leastK ms k = z := ⟨_, rfl⟩
      rw [hL] at hlo
      by_cases h0 : x < L
      · have HE : Hid (placesB us ms = false) := Lib.hid (placesB_no (places_below hx (by rw [hL]; exact h0)))
        clear hx hok hlo
        simp only [hL]
        clear hL
        go_wp2
        go_ret
        exact ⟨by rw [HE.out]; rfl, rfl⟩
      · by_cases h1 : (n : Int) ≤ x
        · have HE : Hid (placesB us ms = false) := Lib.hid (placesB_no fun hh => by
            obtain ⟨_, u, hu, _⟩ := hh.at_ k x hx
            have := (List.getElem?_eq_some_iff.1 hu).1
            have := HLu.out
            omega)
          clear hx hok hlo
          simp only [hL]
          clear hL
          go_wp2
          go_ret
          exact ⟨by rw [HE.out]; rfl, rfl⟩
        · obtain ⟨t, ht⟩ : ∃ t : Nat, x = (t : Int) := ⟨x.toNat, by omega⟩
          subst ht
          have htn : t < n := by omega
          obtain ⟨u, hu⟩ := HU.out.get htn
          obtain ⟨g2, o2, rfl, hg2, _, _, _, _, b2⟩ := row_Unt HU.out hu
          have t0 : (0 : Int) ≤ (t : Int) := by omega
          have t1 : (t : Int) < (n : Int) := by omega
          obtain ⟨bo, hbo⟩ : ∃ b, u.opn = b := ⟨_, rfl⟩
          rw [hbo] at b2
          cases bo with
          | false =>
            have HE : Hid (placesB us ms = false) := Lib.hid (placesB_no fun hh => by
              obtain ⟨_, v, hv, ho⟩ := hh.at_ k (t : Int) hx
              rw [Int.toNat_natCast, hu] at hv
              injection hv with hv
              subst hv
              rw [hbo] at ho; cases ho)
            clear hx hok hlo hu hg2 hbo
            simp only [hL]
            clear hL
            go_wp2
            go_ret
            exact ⟨by rw [HE.out]; rfl, rfl⟩
          | true =>
            have HN := Lib.hid (HO.out.1.next hx (by rw [hL]; omega) hu hbo)
            have HE : Hid (leastK ms (k + 1) = (t : Int) + 1) := Lib.hid (leastK_next hx)
            have w1 : IntKind.i64.wrap ((t : Int) + 1) = (t : Int) + 1 := IntWalk.i64_in _ (by omega)
            clear hx hok hlo hu hg2 hbo
            simp only [hL]
            clear hL
            go_wp2
            go_roundw
            case rel => exact ⟨k + 1, by go_num, by rw [HE.out], by omega, (by first | trivial | rfl), Lib.hid ⟨HN.out, by rw [HE.out]; omega, by rw [HE.out]; omega⟩⟩
            case measure => simp [intOf]; omega
    · have k1 : ¬ (k : Int) < (m : Int) := by omega
      obtain rfl : k = m := by omega
      have HE : Hid (placesB us ms = true) := Lib.hid (placesB_yes (by have := HO.out.1; rw [List.take_of_length_le (by rw [HL.out]; omega)] at this; exact this))
      go_wp2
      go_ret
      exact ⟨by rw [HE.out]; rfl, rfl⟩
theorem lmay_any (A : Option Addr) (n c : Nat) (us : List Unt) (B : Option Addr) (m d : Nat) (ms : List Int) (w : World) (h : Row kUnt w (· < w.heap.size) A n us) (hn : n ≤ 1000000000000) (g : Row kInt w (· < w.heap.size) B m ms) (hm : m ≤ 1000000000000) :
    Calls Try.prog 12 #[.slice A n c, .slice B m d] w fun e w' => e = .returned (.bool (mayB us ms)) ∧ Below w.heap.size w w' := by
  have HNr := Lib.hid (netsRight_any A n c us (· < w.heap.size) w h (fun _ h => h) hn)
  have HPl := Lib.hid (fun W (hb : Below w.heap.size w W) => placesRight_any A n c us B m d ms _ _ W (row_on h hb) hn (row_on g hb) hm)
  have hboth := may_both us ms
  clear h g
  obtain ⟨b1, hb1⟩ : ∃ b, unitsB us = b := ⟨_, rfl⟩
  rw [hb1] at HNr hboth
  cases b1 with
  | false =>
    have HE := Lib.hid (hboth.2 rfl)
    clear hboth hb1
    go_enter Try.func12, Try.ntmps12
    go_wp2_with fail
    refine HNr.out.mono ?_
    rintro e w2 ⟨rfl, hb2⟩
    have HB := Lib.hid hb2
    clear hb2
    go_wp2
    go_ret
    exact ⟨by rw [HE.out]; rfl, HB.out⟩
  | true =>
    have HE := Lib.hid (hboth.1 rfl)
    clear hboth hb1
    obtain ⟨b3, hb3⟩ : ∃ b, placesB us ms = b := ⟨_, rfl⟩
    simp only [hb3] at HPl
    rw [hb3] at HE
    clear hb3
    go_enter Try.func12, Try.ntmps12
    go_wp2_with fail
    refine HNr.out.mono ?_
    rintro e w2 ⟨rfl, hb2⟩
    have HB := Lib.hid hb2
    have HP2 := Lib.hid (HPl.out w2 hb2)
    clear hb2
    go_wp2_with fail
    refine HP2.out.mono ?_
    rintro e w3 ⟨rfl, hw⟩
    obtain rfl := hw
    go_wp2
    go_ret
    exact ⟨by rw [← HE.out]; rfl, HB.out⟩
end Go.Proofs.Ytljmddjlnlmenaa.Ct

end

section
set_option maxRecDepth 100000
set_option linter.unusedVariables false
namespace Go.Proofs.Ytljmddjlnlmenaa.Ct
open Go.ChangeShapes Go.WideShapes Go.ChangeAt Go.RowKit Go.Shelf
open Ap (Unt Tir Prm kUnt kTir row_Unt row_Tir)
open Kd (Kind Row kInt row_int)
attribute [local go_sem] Oper.semAt_some
abbrev TO := { t : Tir // t.ok }
end Go.Proofs.Ytljmddjlnlmenaa.Ct

end

section
set_option maxRecDepth 100000
set_option linter.unusedVariables false
namespace Go.Proofs.Ytljmddjlnlmenaa.Ap.Unt
open Go.ChangeShapes Go.WideShapes Go.ChangeAt Go.RowKit
open Kd (Kind Row Own Cells Reads Fields Fit Agree kInt kStr kFlag kPair kVia Filling Owned eqL eqL_len eqL_no eqL_yes eqL_refl Two rows_get)
theorem info_it : (Try.prog.info? 34).map (fun i => (i.zero, i.size, i.bytes)) = some (some (.agg #[.int .i64 0, .int .i64 0, .bool false]), 3, 24) := by kernel_rfl
theorem enc_one (x : Unt) : ∀ u ∈ x.enc, u.oneCell' = true := by
  intro u hu
  simp only [Unt.enc, List.mem_cons, List.not_mem_nil, or_false] at hu
  rcases hu with rfl | rfl | rfl <;> rfl
theorem row_t : Kd.RowT Try.prog kUnt 31 34 (.agg #[.int .i64 0, .int .i64 0, .bool false]) 3 24 :=
  ⟨Try.underlying31, info_it, rfl, rfl, by omega, fun h => by
    obtain ⟨rfl, _⟩ := Unt_rep.1 h
    exact enc_one _⟩
end Go.Proofs.Ytljmddjlnlmenaa.Ap.Unt

end

section
set_option maxRecDepth 100000
set_option linter.unusedVariables false
namespace Go.Proofs.Ytljmddjlnlmenaa.Py
open Go.ChangeShapes Go.WideShapes Go.ChangeAt Go.RowKit
def modN (a n : Int) : Nat := ((IntKind.u64.wrap a) % n).toNat
theorem modN_lt (a n : Int) (h : 1 ≤ n) : (modN a n : Int) < n := by
  unfold modN
  have h2 := Int.emod_nonneg (IntKind.u64.wrap a) (show n ≠ 0 by omega)
  have h3 := Int.emod_lt_of_pos (IntKind.u64.wrap a) (show 0 < n by omega)
  omega
theorem mod_any (a n : Int) (w : World) (hn : 1 ≤ n) (hn1 : n ≤ 9223372036854775807) :
    Calls Try.prog 6 #[.int .i64 a, .int .i64 n] w fun e w' => e = .returned (.int .i64 (modN a n : Int)) ∧ w' = w := by
  obtain ⟨t, t1, t2, t3, t4⟩ := By.umod_in a n hn hn1
  have hw : IntKind.u64.wrap n = n := by rw [IntKind.wrap_u64]; omega
  have hm : modN a n = t := by unfold modN; omega
  have n0 : n ≠ 0 := by omega
  rw [hm]
  clear hm
  go_enter Try.func6, Try.ntmps6
  go_wp2
  go_ret
  exact ⟨congrArg (fun z => Ending.returned (.int .i64 z)) t1, rfl⟩
theorem mod64_any (a n : Int) (w : World) (hn : 1 ≤ n) (hn1 : n ≤ 9223372036854775807) :
    Calls Try.prog 7 #[.int .i64 a, .int .i64 n] w fun e w' => e = .returned (.int .i64 (modN a n : Int)) ∧ w' = w := by
  obtain ⟨t, t1, t2, t3, t4⟩ := By.umod_in a n hn hn1
  have hw : IntKind.u64.wrap n = n := by rw [IntKind.wrap_u64]; omega
  have hm : modN a n = t := by unfold modN; omega
  have n0 : n ≠ 0 := by omega
  rw [hm]
  clear hm
  go_enter Try.func7, Try.ntmps7
  go_wp2
  go_ret
  exact ⟨congrArg (fun z => Ending.returned (.int .i64 z)) t1, rfl⟩
/-! ### The number that a text stands for -/
theorem index_in {s : ByteArray} {k : Nat} (hk : k < s.size) : s[k]? = some (s.data.toList.getD k 0) := by
  rw [ByteArray.getElem?_lt' s k hk]
  congr 1
  have : k < s.data.toList.length := by rw [By.size_list]; exact hk
  rw [List.getD, List.getElem?_eq_getElem this]
  rfl
theorem run_at (t : TypeId) (ht : Try.prog.underlying t = some .string) (s : ByteArray) (k : Nat) (hk : k < s.size) (W : World) : (Instr.index t (.string s) (.int .i64 (k : Int))).run Try.prog W = .ok (.int .u8 (By.at_ s.data.toList k)) W := by
  have h := index_in hk
  have hk0 : (0 : Int) ≤ (k : Int) := by omega
  rw [run_index_string W t s .i64 (k : Int) ht]
  have e : (s.data.toList.getD k 0) = s[k] := by
    have := ByteArray.getElem?_lt' s k hk
    rw [h] at this
    exact Option.some.inj this
  unfold By.at_
  rw [e]
  simp [hk]
theorem plain_cases (z : Int) : (Sr.plain z = true ∧ 97 ≤ z ∧ z ≤ 122) ∨ (Sr.plain z = true ∧ z < 97 ∧ 48 ≤ z ∧ z ≤ 57) ∨ (Sr.plain z = true ∧ z < 48 ∧ z = 45) ∨ (Sr.plain z = false ∧ 122 < z ∧ z ≠ 45) ∨ (Sr.plain z = false ∧ 57 < z ∧ z < 97 ∧ z ≠ 45) ∨ (Sr.plain z = false ∧ z < 48 ∧ z ≠ 45) := by
  unfold Sr.plain
  simp only [Bool.or_eq_true, Bool.and_eq_true, decide_eq_true_eq, beq_iff_eq, Bool.or_eq_false_iff, Bool.and_eq_false_iff, decide_eq_false_iff_not, beq_eq_false_iff_ne]
  omega
theorem byte_at {s : ByteArray} {k : Nat} (hk : k < s.size) : ∃ b : UInt8, s.data.toList[k]? = some b ∧ By.at_ s.data.toList k = (b.toNat : Int) := by
  have hl : k < s.data.toList.length := by rw [By.size_list]; exact hk
  exact ⟨_, List.getElem?_eq_getElem hl, By.at_some (List.getElem?_eq_getElem hl)⟩
end Go.Proofs.Ytljmddjlnlmenaa.Py

end

section
set_option maxRecDepth 100000
set_option linter.unusedVariables false
namespace Go.Proofs.Ytljmddjlnlmenaa.Ct
open Go.ChangeShapes Go.WideShapes Go.ChangeAt Go.RowKit
open Ap (Unt Tir Prm kUnt kTir row_Unt row_Tir)
open Kd (Kind Row kInt row_int)
open Ko (Out Told At)
open Py (modN modN_lt mod_any mod64_any)
/-! ### Units -/
def unitAt (i : Nat) (u : Unt) : Unt := ⟨(modN u.line 9 : Int), (modN u.net 3000 : Int), u.opn || (i % 3 == 0)⟩
def unitsFrom : Nat → List Unt → List Unt
  | _, [] => []
  | i, u :: us => unitAt i u :: unitsFrom (i + 1) us
def unitsOf (us : List Unt) : List Unt := unitsFrom 0 (us.take 60)
theorem unitsFrom_length : ∀ (i : Nat) (us : List Unt), (unitsFrom i us).length = us.length
  | _, [] => rfl
  | i, u :: us => by rw [unitsFrom, List.length_cons, List.length_cons, unitsFrom_length]
theorem unitsOf_length (us : List Unt) : (unitsOf us).length ≤ 60 := by unfold unitsOf; rw [unitsFrom_length, List.length_take]; omega
theorem unitsFrom_at : ∀ {i k : Nat} {us : List Unt} {v : Unt}, (unitsFrom i us)[k]? = some v → ∃ u, us[k]? = some u ∧ v = unitAt (i + k) u
  | i, k, [], v, h => by simp [unitsFrom] at h
  | i, 0, u :: us, v, h => by
    simp only [unitsFrom, List.getElem?_cons_zero, Option.some.injEq] at h
    exact ⟨u, rfl, h.symm⟩
  | i, k + 1, u :: us, v, h => by
    simp only [unitsFrom, List.getElem?_cons_succ] at h
    obtain ⟨x, hx, rfl⟩ := unitsFrom_at h
    exact ⟨x, hx, by rw [show i + 1 + k = i + (k + 1) by omega]⟩
theorem unitAt_fine (i : Nat) (u : Unt) : (0 ≤ (unitAt i u).line ∧ (unitAt i u).line < 9) ∧ 0 ≤ (unitAt i u).net ∧ (unitAt i u).net < 3000 := by
  have h1 := modN_lt u.line 9 (by omega)
  have h2 := modN_lt u.net 3000 (by omega)
  unfold unitAt
  dsimp only
  omega
/-! ### Mine -/
def mineB (bits : Int) (i : Nat) : Bool := bits / 2 ^ (i % 64) % 2 == 1
def mineFrom (bits : Int) : Nat → List Unt → List Int
  | _, [] => []
  | i, u :: us => if u.opn && mineB bits i then (i : Int) :: mineFrom bits (i + 1) us else mineFrom bits (i + 1) us
def mineL (bits : Int) (us : List Unt) : List Int := mineFrom bits 0 us
theorem mineFrom_length (bits : Int) : ∀ (i : Nat) (us : List Unt), (mineFrom bits i us).length ≤ us.length
  | _, [] => Nat.le_refl _
  | i, u :: us => by
    have := mineFrom_length bits (i + 1) us
    simp only [mineFrom]
    split
    · simp only [List.length_cons]; omega
    · simp only [List.length_cons]; omega
theorem mineFrom_at (bits : Int) : ∀ {i k : Nat} {us : List Unt} {m : Int}, (mineFrom bits i us)[k]? = some m → ∃ t u, m = ((i + t : Nat) : Int) ∧ us[t]? = some u ∧ u.opn = true
  | i, k, [], m, h => by simp [mineFrom] at h
  | i, k, u :: us, m, h => by
    simp only [mineFrom] at h
    split at h
    · rename_i ho
      cases k with
      | zero =>
        simp only [List.getElem?_cons_zero, Option.some.injEq] at h
        exact ⟨0, u, h.symm, rfl, (Bool.and_eq_true _ _ ▸ ho).1⟩
      | succ k =>
        simp only [List.getElem?_cons_succ] at h
        obtain ⟨t, v, rfl, hv, hvo⟩ := mineFrom_at bits h
        exact ⟨t + 1, v, by congr 1; omega, hv, hvo⟩
    · obtain ⟨t, v, rfl, hv, hvo⟩ := mineFrom_at bits h
      exact ⟨t + 1, v, by congr 1; omega, hv, hvo⟩
theorem mineFrom_rise (bits : Int) : ∀ {i k : Nat} {us : List Unt} {a b : Int}, (mineFrom bits i us)[k]? = some a → (mineFrom bits i us)[k + 1]? = some b → a < b
  | i, k, [], a, b, h, _ => by simp [mineFrom] at h
  | i, k, u :: us, a, b, h, g => by
    simp only [mineFrom] at h g
    split at h
    · rename_i ho
      rw [if_pos ho] at g
      cases k with
      | zero =>
        simp only [List.getElem?_cons_zero, Option.some.injEq] at h
        simp only [Nat.zero_add, List.getElem?_cons_succ] at g
        obtain ⟨t, v, rfl, _, _⟩ := mineFrom_at bits g
        subst h
        omega
      | succ k =>
        simp only [List.getElem?_cons_succ] at h g
        exact mineFrom_rise bits h g
    · rename_i ho
      rw [if_neg ho] at g
      exact mineFrom_rise bits h g
theorem mine_may (bits : Int) (us : List Unt) : PlacesMay us (mineL bits us) :=
  ⟨fun i m hm => by
    obtain ⟨t, u, rfl, hu, ho⟩ := mineFrom_at bits hm
    rw [Nat.zero_add]
    exact ⟨by omega, u, by rw [Int.toNat_natCast]; exact hu, ho⟩, fun i a b ha hb => mineFrom_rise bits ha hb⟩
end Go.Proofs.Ytljmddjlnlmenaa.Ct

end

section
set_option maxRecDepth 100000
set_option linter.unusedVariables false
namespace Go.Proofs.Ytljmddjlnlmenaa.Ct
open Go.ChangeShapes Go.WideShapes Go.ChangeAt Go.RowKit
open Ap (Unt Tir Prm kUnt kTir row_Unt row_Tir)
open Kd (Kind Row kInt row_int)
open Ko (Out Told Told2 At row_on)
/-! ### In -/
/-! ### Places apart -/
def Far (ms : List Int) : Prop := ∀ (i j : Nat) (a b : Int), i < j → ms[i]? = some a → ms[j]? = some b → a.toNat ≠ b.toNat
theorem PlacesMay.far {us : List Unt} {ms : List Int} (h : PlacesMay us ms) : Far ms := fun i j a b hij ha hb => h.ne hij ha hb
theorem PlacesMay.in_ {us : List Unt} {ms : List Int} (h : PlacesMay us ms) : PlacesIn us.length ms := fun i m hm => by
  obtain ⟨h1, u, hu, _⟩ := h.at_ i m hm
  have := (List.getElem?_eq_some_iff.1 hu).1
  omega
theorem modify_at {xs : List Unt} {k : Nat} {x : Unt} (h : xs[k]? = some x) (f : Unt → Unt) : xs.modify k f = xs.set k (f x) := by
  apply List.ext_getElem?
  intro j
  have hl := (List.getElem?_eq_some_iff.1 h).1
  rw [List.getElem?_modify, List.getElem?_set]
  by_cases hj : k = j
  · subst hj
    rw [h, if_pos rfl, if_pos hl]
    simp
  · simp [hj]
theorem nth_some {l : List Int} {k : Nat} {m : Int} (h : l[k]? = some m) : nth l k = m := by unfold nth; rw [h]; rfl
theorem subK_at {us : List Unt} {ms os : List Int} (hf : Far ms) {k : Nat} {m : Int} (hm : ms[k]? = some m) : ∀ j, j ≤ k → (subK us ms os j)[m.toNat]? = us[m.toNat]?
  | 0, _ => rfl
  | j + 1, hj => by
    have hl : j < ms.length := by have := (List.getElem?_eq_some_iff.1 hm).1; omega
    have e := List.getElem?_eq_getElem hl
    have hne := hf j k _ m (by omega) e hm
    rw [subK, List.getElem?_modify, nth_some e, subK_at hf hm j (by omega)]
    simp [hne]
def LessOk (us : List Unt) (ms os : List Int) : Prop := ∀ (k : Nat) (m o : Int) (u : Unt), ms[k]? = some m → os[k]? = some o → us[m.toNat]? = some u → -9223372036854775808 ≤ u.net - o ∧ u.net - o ≤ 9223372036854775807
/-! ### Units of the call's own -/
structure Ls (w wr : World) (g n c : Nat) (xs : List Unt) : Prop where
  own : Kd.Own kUnt wr w.heap.size 34 (fun _ => False) (.slice (some ⟨g, 0, none⟩) n c) n xs
  below : Below w.heap.size w wr
theorem Ls.lt {w wr : World} {g n c : Nat} {xs : List Unt} (h : Ls w wr g n c xs) : w.heap.size ≤ g := (h.own.low g rfl).1
theorem Ls.get {w wr : World} {g n c : Nat} {xs : List Unt} (h : Ls w wr g n c xs) {k : Nat} {u : Unt} (hu : xs[k]? = some u) :
    wr.cell? ⟨g, k * 3 + 1, none⟩ = some (.int .i64 u.net) ∧ wr.cell? ⟨g, k * 3 + 2, none⟩ = some (.bool u.opn) ∧ wr.frozen? ⟨g, k * 3 + 1, none⟩ = false ∧ wr.frozen? ⟨g, k * 3 + 2, none⟩ = false ∧ u.ok := by
  obtain ⟨g2, o, e, _, _, hok, _, a1, a2⟩ := row_Unt h.own.read hu
  injection e with e
  injection e with e1 e2
  subst e1
  subst e2
  rw [Nat.zero_add] at a1 a2
  have hk : k < n := by rw [← h.own.1]; exact (List.getElem?_eq_some_iff.1 hu).1
  exact ⟨a1, a2, (h.own.cell (K := kUnt) hk (j := 1) (by decide)).2, (h.own.cell (K := kUnt) hk (j := 2) (by decide)).2, hok⟩
theorem Ls.drew {w wr : World} {g n c : Nat} {xs : List Unt} (h : Ls w wr g n c xs) : Ls w wr.drew g n c xs := ⟨h.own.later (Below.refl _ _).drew, h.below.drew⟩
theorem Ls.less {w wr : World} {g n c : Nat} {xs : List Unt} (h : Ls w wr g n c xs) {k : Nat} {u : Unt} (hu : xs[k]? = some u) {v o : Int} (hv : u.net - o = v) (h0 : -9223372036854775808 ≤ v ∧ v ≤ 9223372036854775807) :
    Ls w (wr.setCell ⟨g, k * 3 + 1, none⟩ (.int .i64 v)) g n c (xs.modify k (lessNet o)) := by
  have hlt := h.lt
  have hok := (h.get hu).2.2.2.2
  have h1 := Kd.Own.put (k := k) (j := 1) (x := u) (x' := lessNet o u) (a := u.enc) (u := .int .i64 v) h.own hu (fun h => (Ap.Unt_rep.1 h).1) (by decide) (Ap.Unt_rep.2 ⟨by subst hv; rfl, ⟨hok.line, by show -9223372036854775808 ≤ u.net - o ∧ u.net - o ≤ 9223372036854775807; rw [hv]; exact h0⟩⟩) (fun _ h => h.elim)
  rw [modify_at hu]
  exact ⟨h1.1, h.below.setCell hlt _⟩
theorem told2_of {w w3 : World} {A : Option Addr} {n c : Nat} {xs : List Unt} (h : Kd.Own kUnt w3 w.heap.size 34 (fun _ => False) (.slice A n c) n xs) (hb : Below w.heap.size w w3) (z : Int) : Ko.Told2 kUnt 34 w (.returned (.tuple #[.slice A n c, .int .i64 z])) w3 xs z := by
  obtain rfl : xs.length = n := h.1
  exact ⟨A, c, rfl, h, hb⟩
end Go.Proofs.Ytljmddjlnlmenaa.Ct

end

section
set_option maxRecDepth 100000
set_option linter.unusedVariables false
namespace Go.Proofs.Ytljmddjlnlmenaa.Ct
open Go.ChangeShapes Go.WideShapes Go.ChangeAt Go.RowKit
open Ap (Unt Tir Prm kUnt kTir row_Unt row_Tir)
open Kd (Kind Row kInt row_int)
open Ko (Out Told Told2 At row_on)
theorem rnd_low {way q r d : Int} (hq : 0 ≤ q) : 0 ≤ Mn.rnd way q r d := by
  unfold Mn.rnd
  split
  · exact hq
  · split
    · omega
    · split <;> omega
theorem halfN_ok (x rate : Int) : 0 ≤ halfN x rate ∧ halfN x rate ≤ 100000000000000 := by
  unfold halfN Rf.rateR
  split
  · rename_i hr
    unfold Rf.timesR
    split
    · rename_i h
      have hq : 0 ≤ x * rate / 10000 := Int.ediv_nonneg (Int.mul_nonneg h.1.1 hr.1) (by omega)
      have h0 := rnd_low (way := 1) (r := x * rate % 10000) (d := 10000) hq
      show 0 ≤ Mn.timesV 1 x rate 10000 ∧ Mn.timesV 1 x rate 10000 ≤ 100000000000000
      unfold Mn.timesV
      split
      · rename_i hm; exact ⟨h0, hm⟩
      · omega
    · exact ⟨Int.le_refl 0, by decide⟩
  · exact ⟨Int.le_refl 0, by decide⟩
theorem own_down {α : Type} {K : Kind α} {w : World} {B B' E n : Nat} {F : Nat → Prop} {v : Value} {xs : List α} (h : Kd.Own K w B E F v n xs) (hB : B' ≤ B) : Kd.Own K w B' E F v n xs := by
  obtain ⟨h1, cs, ho, hc⟩ := h
  refine ⟨h1, cs, ⟨ho.1, ?_⟩, hc⟩
  rcases ho.2 with h2 | ⟨g, cap, cur, hv, hb, rest⟩
  · exact .inl h2
  · exact .inr ⟨g, cap, cur, hv, Nat.le_trans hB hb, rest⟩
end Go.Proofs.Ytljmddjlnlmenaa.Ct

end

section
set_option maxRecDepth 100000
set_option linter.unusedVariables false
namespace Go.Proofs.Ytljmddjlnlmenaa.Ct
open Ap (Unt Tir Prm)
/-! ### Parts of a sum -/
theorem parts_fine {t S : Int} {f : Nat → Int} {n : Nat} (hS : 1 ≤ S) (hs : S = Sh.sumF f n) (h0 : 0 ≤ t) (h1 : t ≤ S) (hf : ∀ k, k < n → 0 ≤ f k) {i : Nat} (hi : i < n) : 0 ≤ Sh.nth (Sh.parts t S f n) i ∧ Sh.nth (Sh.parts t S f n) i ≤ f i := by
  have hfi := hf i hi
  have hm : t * f i ≤ S * f i := Int.mul_le_mul_of_nonneg_right h1 hfi
  have hb0 : 0 ≤ Sh.base t S f i := Int.ediv_nonneg (Int.mul_nonneg h0 hfi) (by omega)
  have hdm : S * Sh.base t S f i + Sh.rest t S f i = t * f i := Int.mul_ediv_add_emod _ _
  have hr0 : 0 ≤ Sh.rest t S f i := Int.emod_nonneg _ (by omega)
  rcases Sh.each (t := t) hS hs hi with e | ⟨e, hr⟩
  · rw [e]
    exact ⟨hb0, Int.le_of_mul_le_mul_left (a := S) (by omega) (by omega)⟩
  · rw [e]
    have h2 : Sh.base t S f i < f i := Int.lt_of_mul_lt_mul_left (a := S) (by omega) (by omega)
    omega
theorem sumF_nth (l : List Int) : ∀ k, k ≤ l.length → Sh.sumF (nth l) k = sumL (l.take k)
  | 0, _ => by rw [List.take_zero]; rfl
  | k + 1, h => by
    have e : l[k]? = some (l[k]'(by omega)) := List.getElem?_eq_getElem (by omega)
    rw [Sh.sumF, sumF_nth l k (by omega), sumL_next e, nth_some e]
theorem sumL_same : ∀ l : List Int, Sh.sumL l = sumL l
  | [] => rfl
  | x :: l => by show x + Sh.sumL l = x + sumL l; rw [sumL_same l]
theorem sumL_zero (n : Nat) : sumL (List.replicate n 0) = 0 := by
  induction n with
  | zero => rfl
  | succ n ih => rw [List.replicate_succ, sumL, ih]; rfl
structure NetsOk (l : List Int) : Prop where
  few : l.length ≤ 100000
  each : ∀ (k : Nat) (x : Int), l[k]? = some x → 0 ≤ x ∧ x ≤ 10000000000000
  total : sumL l ≤ 10000000000000
def OffsFine (l os : List Int) : Prop := os.length = l.length ∧ ∀ (k : Nat) (o x : Int), os[k]? = some o → l[k]? = some x → 0 ≤ o ∧ o ≤ x
theorem spend_fine {l : List Int} (h : NetsOk l) {t : Int} (h0 : 0 ≤ t) (h1 : t ≤ sumL l) : OffsFine l (Sh.largR t (nth l) l.length).1 ∧ sumL (Sh.largR t (nth l) l.length).1 = t := by
  have hs := sumF_nth l l.length (Nat.le_refl _)
  rw [List.take_length] at hs
  have hT := h.total
  have hfe : ∀ k, k < l.length → 0 ≤ nth l k ∧ nth l k ≤ 10000000000000 := fun k hk => by
    have e := List.getElem?_eq_getElem hk
    rw [nth_some e]; exact h.each k _ e
  by_cases hz : sumL l = 0
  · have t0 : t = 0 := by omega
    rw [Sh.larg_zero ⟨h0, by omega⟩ h.few (fun k hk => ⟨(hfe k hk).1, by have := (hfe k hk).2; omega⟩) (by rw [hs]; exact hz) (by omega)]
    refine ⟨⟨List.length_replicate, fun k o x ho hx => ?_⟩, by rw [t0]; exact sumL_zero _⟩
    have e : o = 0 := by
      rw [List.getElem?_replicate] at ho
      split at ho
      · injection ho with ho; exact ho.symm
      · cases ho
    have := h.each k x hx
    omega
  · have hp : 1 ≤ sumL l := by omega
    rw [Sh.larg_parts ⟨h0, by omega⟩ h.few (fun k hk => ⟨(hfe k hk).1, by have := (hfe k hk).2; omega⟩) (by rw [hs]; exact hz) (by rw [hs]; omega), hs]
    refine ⟨⟨Sh.parts_length, fun k o x ho hx => ?_⟩, ?_⟩
    · have hk : k < l.length := (List.getElem?_eq_some_iff.1 hx).1
      have := parts_fine hp hs.symm h0 h1 (fun k hk => (hfe k hk).1) hk
      rw [nth_some hx] at this
      have e : Sh.nth (Sh.parts t (sumL l) (nth l) l.length) k = o := by
        unfold Sh.nth
        have ho' : (Sh.parts t (sumL l) (nth l) l.length)[k]? = some o := ho
        rw [List.getD_eq_getElem?_getD, ho']; rfl
      rw [e] at this
      exact this
    · show sumL (Sh.parts t (sumL l) (nth l) l.length) = t
      rw [← sumL_same]
      exact Sh.parts_sum hp hs.symm
/-! ### Half up -/
theorem half_le {x rate : Int} (h0 : 0 ≤ x) (hr : rate ≤ 10000) : halfN x rate ≤ x := by
  unfold halfN Rf.rateR
  split
  · rename_i hr0
    unfold Rf.timesR
    split
    · show Mn.timesV 1 x rate 10000 ≤ x
      have hd : 10000 * (x * rate / 10000) + x * rate % 10000 = x * rate := Int.mul_ediv_add_emod _ _
      have hm : x * rate ≤ x * 10000 := Int.mul_le_mul_of_nonneg_left hr h0
      have hm0 : 0 ≤ x * rate := Int.mul_nonneg h0 hr0.1
      obtain ⟨q, hq⟩ : ∃ q, x * rate / 10000 = q := ⟨_, rfl⟩
      obtain ⟨r, hrr⟩ : ∃ r, x * rate % 10000 = r := ⟨_, rfl⟩
      have r0 : 0 ≤ r := by rw [← hrr]; exact Int.emod_nonneg _ (by omega)
      rw [hq, hrr] at hd
      have key : Mn.rnd 1 q r 10000 ≤ x := by
        unfold Mn.rnd
        rw [if_neg (by omega), if_neg (by omega)]
        split <;> omega
      unfold Mn.timesV
      rw [hq, hrr]
      split
      · exact key
      · exact h0
    · exact h0
  · exact h0
/-! ### Tiers -/
/-! ### Sums of nets -/
theorem nsum_mono {us : List Unt} (h : Nets us) {a b : Nat} (hab : a ≤ b) : nsum (us.take a) ≤ nsum (us.take b) := by
  have h1 : Nets (us.take b) := fun k u hu => by
    rw [List.getElem?_take] at hu
    split at hu
    · exact h k u hu
    · cases hu
  have := (h1.part a).2
  rw [List.take_take, Nat.min_eq_left hab] at this
  exact this
theorem nets_sum {us : List Unt} {ms : List Int} (h : Nets us) (hp : PlacesMay us ms) : ∀ k, k ≤ ms.length → sumL (netsL us (ms.take k)) ≤ nsum us ∧ ∀ z m, k = z + 1 → ms[z]? = some m → sumL (netsL us (ms.take k)) ≤ nsum (us.take (m.toNat + 1))
  | 0, _ => ⟨by rw [List.take_zero]; exact h.sum, fun z m e => by omega⟩
  | k + 1, hk => by
    have ih := nets_sum h hp k (by omega)
    have e : ms[k]? = some (ms[k]'(by omega)) := List.getElem?_eq_getElem (by omega)
    obtain ⟨m, hm⟩ : ∃ m, ms[k]'(by omega) = m := ⟨_, rfl⟩
    rw [hm] at e
    obtain ⟨m0, u, hu, _⟩ := hp.at_ k m e
    have hs : sumL (netsL us (ms.take (k + 1))) = sumL (netsL us (ms.take k)) + u.net := by
      rw [take_next e]
      unfold netsL
      rw [List.map_append, sumL_append]
      show _ + sumL [netAt us m] = _
      have : netAt us m = u.net := by unfold netAt; rw [hu]
      rw [this]; simp [sumL]
    have hn := nsum_next hu
    have hlow : sumL (netsL us (ms.take k)) ≤ nsum (us.take m.toNat) := by
      cases k with
      | zero => rw [List.take_zero]; exact (h.part _).1
      | succ z =>
        have e2 : ms[z]? = some (ms[z]'(by omega)) := List.getElem?_eq_getElem (by omega)
        have h1 := ih.2 z _ rfl e2
        have h2 := hp.rise z _ m e2 e
        have h3 := (hp.at_ z _ e2).1
        exact Int.le_trans h1 (nsum_mono h (by omega))
    have key : sumL (netsL us (ms.take (k + 1))) ≤ nsum (us.take (m.toNat + 1)) := by omega
    refine ⟨Int.le_trans key (h.part _).2, fun z m' ez hz => ?_⟩
    obtain rfl : z = k := by omega
    rw [e] at hz; injection hz with hz; subst hz
    exact key
theorem nets_ok {us : List Unt} {ms : List Int} (h : May us ms) : NetsOk (netsL us ms) := by
  have hf := h.places.few
  have hu := h.units.few
  refine ⟨by unfold netsL; rw [List.length_map]; omega, fun k x hx => ?_, ?_⟩
  · unfold netsL at hx
    rw [List.getElem?_map] at hx
    cases e : ms[k]? with
    | none => rw [e] at hx; cases hx
    | some m =>
      rw [e] at hx
      obtain ⟨_, u, hu, _⟩ := h.places.at_ k m e
      have e2 : netAt us m = u.net := by unfold netAt; rw [hu]
      injection hx with hx
      rw [← hx, e2]
      have h1 := h.units.nets _ u hu
      have h2 := h.units.nets.one hu
      have h3 := h.units.total
      omega
  · have := (nets_sum h.units.nets h.places ms.length (Nat.le_refl _)).1
    rw [List.take_length] at this
    have h3 := h.units.total
    omega
end Go.Proofs.Ytljmddjlnlmenaa.Ct

end
