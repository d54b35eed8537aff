/- Deals: the document's rising (made by gen-rising16.py). -/
import Derived.Test.YtljmddjlnlmenaaGreatPq24
set_option maxRecDepth 100000
set_option linter.unusedVariables false

namespace Go.Proofs.YtljmddjlnlmenaaGreat.Dl
open Go.ChangeShapes Go.WideShapes Go.ChangeAt Go.RowKit
open Kd (Kind Row RowT kInt row_int)
open Ko (Out Told row_on)
open Ct (nth nth_some take_next)
def gapI (L : List Int) (k : Nat) (z : Int) : List Int := L.take k ++ z :: L.drop k
theorem gapI_length {L : List Int} {k : Nat} (h : k <= L.length) (z : Int) : (gapI L k z).length = L.length + 1 := by
  unfold gapI
  rw [List.length_append, List.length_cons, List.length_take, List.length_drop]
  omega
theorem gapI_end (L : List Int) (z : Int) : gapI L L.length z = L ++ [z] := by unfold gapI; rw [List.take_length, List.drop_length]
theorem gapI_set {L : List Int} {k : Nat} (h : k <= L.length) (z y : Int) : (gapI L k z).set k y = gapI L k y := by
  unfold gapI
  rw [List.set_append_right _ _ (by rw [List.length_take]; omega), List.length_take, Nat.min_eq_left h, Nat.sub_self, List.set_cons_zero]
theorem gapI_back {L : List Int} {k : Nat} {x : Int} (h : L[k]? = some x) (z : Int) : (gapI L (k + 1) z)[k]? = some x /\ (gapI L (k + 1) z).set (k + 1) x = gapI L k x := by
  have hl := (List.getElem?_eq_some_iff.1 h).1
  have e1 : L.drop k = x :: L.drop (k + 1) := by
    rw [List.drop_eq_getElem_cons hl]
    congr 1
    exact (List.getElem?_eq_some_iff.1 h).2
  constructor
  . unfold gapI
    rw [List.getElem?_append_left (by rw [List.length_take]; omega), List.getElem?_take, if_pos (by omega), h]
  . rw [gapI_set (by omega)]
    unfold gapI
    rw [take_next h, e1, List.append_assoc]
    rfl
theorem gapI_sorted {L : List Int} {k : Nat} {x : Int} (hs : L.Pairwise (· <= ·)) (h1 : ∀ y ∈ L.take k, y <= x) (h2 : ∀ y ∈ L.drop k, x <= y) : (gapI L k x).Pairwise (· <= ·) := by
  unfold gapI
  have hs2 : (L.take k ++ L.drop k).Pairwise (· <= ·) := by rw [List.take_append_drop]; exact hs
  obtain ⟨a, b, c⟩ := List.pairwise_append.1 hs2
  refine List.pairwise_append.2 ⟨a, List.pairwise_cons.2 ⟨h2, b⟩, fun y hy z hz => ?_⟩
  rcases List.mem_cons.1 hz with rfl | hz
  . exact h1 y hy
  . exact c y hy z hz
theorem gapI_perm (L : List Int) (k : Nat) (x : Int) : (gapI L k x).Perm (x :: L) := by
  unfold gapI
  refine List.perm_middle.trans (List.Perm.cons x ?_)
  rw [List.take_append_drop]
def Greater (L : List Int) (k : Nat) (x : Int) : Prop := ∀ y ∈ L.drop k, x <= y
theorem greater_end (L : List Int) (x : Int) : Greater L L.length x := fun y hy => by rw [List.drop_length] at hy; cases hy
theorem greater_back {L : List Int} {k : Nat} {x y : Int} (h : Greater L (k + 1) x) (hy : L[k]? = some y) (hlt : x < y) : Greater L k x := fun z hz => by
  have hl := (List.getElem?_eq_some_iff.1 hy).1
  rw [List.drop_eq_getElem_cons hl] at hz
  rcases List.mem_cons.1 hz with rfl | hz
  . have e := (List.getElem?_eq_some_iff.1 hy).2
    omega
  . exact h z hz
theorem lesser {L : List Int} {k : Nat} {x y : Int} (hs : L.Pairwise (· <= ·)) (hy : L[k]? = some y) (hle : y <= x) : ∀ z ∈ L.take (k + 1), z <= x := fun z hz => by
  obtain ⟨j, hj⟩ := List.mem_iff_getElem?.1 hz
  rw [List.getElem?_take] at hj
  split at hj
  . rename_i hjk
    obtain ⟨j1, e1⟩ := List.getElem?_eq_some_iff.1 hj
    obtain ⟨k1, e2⟩ := List.getElem?_eq_some_iff.1 hy
    rcases Nat.lt_or_ge j k with h | h
    . have := List.pairwise_iff_getElem.1 hs j k j1 k1 h
      rw [e1, e2] at this
      omega
    . have : j = k := by omega
      subst this
      rw [hy] at hj
      injection hj with hj
      omega
  . cases hj
theorem out_put {E : Nat} {w wr : World} {g n c k : Nat} {L : List Int} {x v : Int} (h : Out kInt E w wr (.slice (some ⟨g, 0, none⟩) n c) L) (hn : L.length = n) (hx : L[k]? = some x) (hv : -9223372036854775808 <= v /\ v <= 9223372036854775807) : Out kInt E w (wr.setCell ⟨g, k, none⟩ (.int .i64 v)) (.slice (some ⟨g, 0, none⟩) n c) (L.set k v) := by
  have ho := h.own
  rw [hn] at ho
  have hlt : w.heap.size <= g := (ho.low g rfl).1
  have h1 := Kd.Own.put (K := kInt) (k := k) (j := 0) (x := x) (x' := v) (a := [.int .i64 x]) (u := .int .i64 v) ho hx (fun h => h.1) (by decide) ⟨rfl, hv⟩ (fun _ h => h.elim)
  rw [show k * kInt.size + 0 = k from Nat.mul_one k] at h1
  exact ⟨by rw [List.length_set, hn]; exact h1.1, h.below.setCell hlt _⟩
theorem out_get {E : Nat} {w wr : World} {g n c k : Nat} {L : List Int} {x : Int} (h : Out kInt E w wr (.slice (some ⟨g, 0, none⟩) n c) L) (hn : L.length = n) (hx : L[k]? = some x) : wr.cell? ⟨g, k, none⟩ = some (.int .i64 x) /\ wr.frozen? ⟨g, k, none⟩ = false /\ -9223372036854775808 <= x /\ x <= 9223372036854775807 := by
  have ho := h.own
  rw [hn] at ho
  have hk : k < n := by rw [<- hn]; exact (List.getElem?_eq_some_iff.1 hx).1
  obtain ⟨g', o, hA, _, _, hok, hc⟩ := row_int ho.read hx
  injection hA with hA
  injection hA with h1 h2
  subst h1 h2
  have := (ho.cell (K := kInt) hk (j := 0) (by decide)).2
  rw [show k * kInt.size + 0 = k from Nat.mul_one k] at this
  rw [Nat.zero_add] at hc
  exact ⟨hc, this, hok⟩
structure Ris (w wr : World) (v : Value) (l : List Int) (i : Nat) (L : List Int) : Prop where
  out : Out kInt 3 w wr v L
  sorted : L.Pairwise (· <= ·)
  perm : L.Perm (l.take i)
set_option maxHeartbeats 4000000 in
theorem rising_any (A : Option Addr) (n c : Nat) (l : List Int) (w : World) (h : Row kInt w (· < w.heap.size) A n l) (hn : n <= 100000) :
    Calls Tryz.prog 77 #[.slice A n c] w fun e w' => Ko.Told kInt 3 w e w' (srt l) := by
  have HH := Lib.hid h
  have HL := Lib.hid h.len
  clear h
  go_enter Tryz.func77, Tryz.ntmps77
  go_wp2
  go_loopw [3, 4] (fun s3 s4 wr => ∃ (i : Nat) (L : List Int), s4 = .int .i64 i /\ i <= n /\ Hid (Ris w wr s3 l i L)) (fun _ s4 _ => n - (intOf s4).toNat)
  case atStart => exact ⟨0, [], rfl, by omega, Lib.hid ⟨Out.nil _ _ (Below.refl _ _), List.Pairwise.nil, by rw [List.take_zero]⟩⟩
  case round =>
    obtain ⟨i, L, rfl, hi, HO⟩ := hrel
    have ii : (0 : Int) <= (i : Int) := by omega
    have hll : L.length = i := by rw [HO.out.perm.length_eq, List.length_take, HL.out]; omega
    have HLl := Lib.hid hll
    obtain ⟨C, e5, hv5⟩ := HO.out.out.own.value
    rw [hll] at hv5
    subst hv5
    by_cases hlt : i < n
    . obtain ⟨x, hx⟩ := HH.out.get hlt
      obtain ⟨g1, o1, rfl, hg1, _, hok, a1⟩ := row_int HH.out hx
      have c1 : ∀ u, Below wr.heap.size wr u -> u.cell? ⟨g1, o1 + i, none⟩ = some (.int .i64 x) := fun u hu => ((HO.out.out.below.trans (hu.mono HO.out.out.below.size)).cell (p := ⟨g1, _, none⟩) hg1).trans a1
      have hc1w : ∀ u, Below w.heap.size w u -> u.cell? ⟨g1, o1 + i, none⟩ = some (.int .i64 x) := fun u hu => (hu.cell (p := ⟨g1, _, none⟩) hg1).trans a1
      have HC1 := Lib.hid hc1w
      have HX := Lib.hid hx
      have HK := Lib.hid hok
      have k1 : (i : Int) < (n : Int) := by omega
      clear hx hok a1 hg1 hll hc1w
      obtain ⟨wo, hwo⟩ : ∃ wo : World, wo = wr := ⟨_, rfl⟩
      subst hwo
      go_wp2_with fail
      go_loopw [5] (fun s5 wx => ∃ t : Nat, s5 = .int .i64 t /\ Hid (t <= i /\ Greater L t x /\ Hl.Drawn wo wx)) (fun s5 _ => (intOf s5).toNat)
      case atStart => exact ⟨i, rfl, Lib.hid ⟨Nat.le_refl _, by rw [<- HLl.out]; exact greater_end L x, ⟨0, rfl⟩⟩⟩
      case round =>
        obtain ⟨t, rfl, HG⟩ := hrel
        have hdr := HG.out.2.2.below w.heap.size
        have hbo : Below w.heap.size w wr := HO.out.out.below.trans hdr
        have hoo := HO.out.out.later (HG.out.2.2.below wo.heap.size)
        have HOo := Lib.hid hoo
        have c2 : ∀ u, Below wr.heap.size wr u -> u.cell? ⟨g1, o1 + i, none⟩ = some (.int .i64 x) := fun u hu => HC1.out u (hbo.trans (hu.mono hbo.size))
        have HBo := Lib.hid hbo
        clear c1 hdr hbo hoo
        have tt : (0 : Int) <= (t : Int) := by omega
        by_cases hgo : ∃ t1 y, t = t1 + 1 /\ L[t1]? = some y /\ x < y
        . obtain ⟨t1, y, rfl, hy, hxy⟩ := hgo
          have hi9 : 0 < i := by have := HG.out.1; omega
          obtain ⟨g9, hg9, _, _⟩ := (by have := HOo.out.own; rw [HLl.out] at this; exact this : Kd.Own kInt wr w.heap.size 3 (fun _ => False) (.slice C i e5) i L).first hi9
          subst hg9
          have e9 := out_get HOo.out HLl.out hy
          have f9 : ∀ u, Below wr.heap.size wr u -> u.cell? ⟨g9, t1, none⟩ = some (.int .i64 y) := fun u hu => (hu.cell (p := ⟨g9, _, none⟩) (HOo.out.own.low g9 rfl).2).trans e9.1
          have hti : t1 < i := by have := HG.out.1; omega
          have HN : Hid (t1 <= i /\ Greater L t1 x /\ Hl.Drawn wo wr.drew) := Lib.hid ⟨by omega, greater_back HG.out.2.1 hy hxy, by obtain ⟨d, e⟩ := HG.out.2.2; exact ⟨d + 1, by rw [e]; rfl⟩⟩
          have k3 : (0 : Int) < ((t1 + 1 : Nat) : Int) := by omega
          have k3' : (0 : Int) < (t1 : Int) + 1 := by omega
          have w3 : IntKind.i64.wrap (t1 : Int) = (t1 : Int) := IntWalk.i64_in _ (by omega)
          have k4 : (0 : Int) <= (t1 : Int) := by omega
          have k5 : (t1 : Int) < (i : Int) := by omega
          clear hy e9 HG
          go_wp2_with fail
          refine wp_region_held_drew (S := fun u => Below wr.heap.size wr u) (by kernel_rfl) ((Below.refl _ _).drew) (fun hS0 => ?_)
          refine pkT 0 15 hS0 ?_
          try simp only [Act.put, pkA, pkB, pkC]
          refine pkT 1 16 hS0 ?_
          try simp only [Act.put, pkA, pkB, pkC]
          refine pkT 2 17 hS0 ?_
          try simp only [Act.put, pkA, pkB, pkC]
          refine pkT 3 18 hS0 ?_
          try simp only [Act.put, pkA, pkB, pkC]
          refine pkT 4 19 hS0 ?_
          try simp only [Act.put, pkA, pkB, pkC]
          refine pkT 5 20 hS0 ?_
          try simp only [Act.put, pkA, pkB, pkC]
          refine pkT 6 21 hS0 ?_
          try simp only [Act.put, pkA, pkB, pkC]
          refine pkT 7 22 hS0 ?_
          try simp only [Act.put, pkA, pkB, pkC]
          refine pkT 8 23 hS0 ?_
          try simp only [Act.put, pkA, pkB, pkC]
          refine pkT 9 24 hS0 ?_
          try simp only [Act.put, pkA, pkB, pkC]
          refine pkT 10 25 hS0 ?_
          try simp only [Act.put, pkA, pkB, pkC]
          refine pkT 11 26 hS0 ?_
          try simp only [Act.put, pkA, pkB, pkC]
          refine pkT 12 27 hS0 ?_
          try simp only [Act.put, pkA, pkB, pkC]
          refine pkT 13 28 hS0 ?_
          try simp only [Act.put, pkA, pkB, pkC]
          refine wpAnyH_done (by kernel_rfl) ?_ _
          go_wp2_with fail
          go_roundw
          case rel => exact ⟨t1, (by first | rfl | go_num), HN⟩
          case measure => (simp [intOf] <;> omega)
        . have HStop : Hid (∀ z ∈ L.take t, z <= x) := Lib.hid fun z hz => by
            cases t with
            | zero => rw [List.take_zero] at hz; cases hz
            | succ t1 =>
              have hl : t1 < L.length := by rw [HLl.out]; have := HG.out.1; omega
              have e := List.getElem?_eq_getElem hl
              refine lesser HO.out.sorted e ?_ z hz
              rcases Int.lt_or_le x L[t1] with h9 | h9
              . exact absurd ⟨t1, _, rfl, e, h9⟩ hgo
              . exact h9
          go_upto_region 6 with (fail)
          go_cut [28] from 15 to 28 (fun s28 wx => s28 = .bool false /\ Hid (Hl.Drawn wr wx))
          case first =>
            rcases Nat.eq_zero_or_pos t with h0 | h0
            . subst h0
              refine wp_region_held_drew (S := fun u => Below wr.heap.size wr u) (by kernel_rfl) ((Below.refl _ _).drew) (fun hS0 => ?_)
              refine pkT 0 15 hS0 ?_
              try simp only [Act.put, pkA, pkB, pkC]
              refine pkT 1 16 hS0 ?_
              try simp only [Act.put, pkA, pkB, pkC]
              refine pkT 2 17 hS0 ?_
              try simp only [Act.put, pkA, pkB, pkC]
              refine pkU 3 18 hS0 ?_
              try simp only [Act.put, pkA, pkB, pkC]
              refine pkU 4 19 hS0 ?_
              try simp only [Act.put, pkA, pkB, pkC]
              refine pkU 5 20 hS0 ?_
              try simp only [Act.put, pkA, pkB, pkC]
              refine pkU 6 21 hS0 ?_
              try simp only [Act.put, pkA, pkB, pkC]
              refine pkU 7 22 hS0 ?_
              try simp only [Act.put, pkA, pkB, pkC]
              refine pkU 8 23 hS0 ?_
              try simp only [Act.put, pkA, pkB, pkC]
              refine pkU 9 24 hS0 ?_
              try simp only [Act.put, pkA, pkB, pkC]
              refine pkU 10 25 hS0 ?_
              try simp only [Act.put, pkA, pkB, pkC]
              refine pkU 11 26 hS0 ?_
              try simp only [Act.put, pkA, pkB, pkC]
              refine pkU 12 27 hS0 ?_
              try simp only [Act.put, pkA, pkB, pkC]
              refine pkT 13 28 hS0 ?_
              try simp only [Act.put, pkA, pkB, pkC]
              refine wpAnyH_done (by kernel_rfl) ?_ _
              go_wp2_with fail
              go_meet
              exact ⟨rfl, Lib.hid ⟨1, rfl⟩⟩
            . obtain ⟨t1, rfl⟩ : ∃ t1, t = t1 + 1 := ⟨t - 1, by omega⟩
              have hti : t1 < i := by have := HG.out.1; omega
              obtain ⟨y, hy⟩ : ∃ y, L[t1]? = some y := ⟨_, List.getElem?_eq_getElem (by rw [HLl.out]; exact hti)⟩
              have hxy : ¬ x < y := fun h9 => hgo ⟨t1, y, rfl, hy, h9⟩
              obtain ⟨g9, hg9, _, _⟩ := (by have := HOo.out.own; rw [HLl.out] at this; exact this : Kd.Own kInt wr w.heap.size 3 (fun _ => False) (.slice C i e5) i L).first (by omega)
              subst hg9
              have e9 := out_get HOo.out HLl.out hy
              have f9 : ∀ u, Below wr.heap.size wr u -> u.cell? ⟨g9, t1, none⟩ = some (.int .i64 y) := fun u hu => (hu.cell (p := ⟨g9, _, none⟩) (HOo.out.own.low g9 rfl).2).trans e9.1
              have k3 : (0 : Int) < ((t1 + 1 : Nat) : Int) := by omega
              have k3' : (0 : Int) < (t1 : Int) + 1 := by omega
              have w3 : IntKind.i64.wrap (t1 : Int) = (t1 : Int) := IntWalk.i64_in _ (by omega)
              have k4 : (0 : Int) <= (t1 : Int) := by omega
              have k5 : (t1 : Int) < (i : Int) := by omega
              clear hy e9 HG hgo
              refine wp_region_held_drew (S := fun u => Below wr.heap.size wr u) (by kernel_rfl) ((Below.refl _ _).drew) (fun hS0 => ?_)
              refine pkT 0 15 hS0 ?_
              try simp only [Act.put, pkA, pkB, pkC]
              refine pkT 1 16 hS0 ?_
              try simp only [Act.put, pkA, pkB, pkC]
              refine pkT 2 17 hS0 ?_
              try simp only [Act.put, pkA, pkB, pkC]
              refine pkT 3 18 hS0 ?_
              try simp only [Act.put, pkA, pkB, pkC]
              refine pkT 4 19 hS0 ?_
              try simp only [Act.put, pkA, pkB, pkC]
              refine pkT 5 20 hS0 ?_
              try simp only [Act.put, pkA, pkB, pkC]
              refine pkT 6 21 hS0 ?_
              try simp only [Act.put, pkA, pkB, pkC]
              refine pkT 7 22 hS0 ?_
              try simp only [Act.put, pkA, pkB, pkC]
              refine pkT 8 23 hS0 ?_
              try simp only [Act.put, pkA, pkB, pkC]
              refine pkT 9 24 hS0 ?_
              try simp only [Act.put, pkA, pkB, pkC]
              refine pkT 10 25 hS0 ?_
              try simp only [Act.put, pkA, pkB, pkC]
              refine pkT 11 26 hS0 ?_
              try simp only [Act.put, pkA, pkB, pkC]
              refine pkT 12 27 hS0 ?_
              try simp only [Act.put, pkA, pkB, pkC]
              refine pkT 13 28 hS0 ?_
              try simp only [Act.put, pkA, pkB, pkC]
              refine wpAnyH_done (by kernel_rfl) ?_ _
              go_wp2_with fail
              go_meet
              exact ⟨rfl, Lib.hid ⟨1, rfl⟩⟩
          case rest =>
            obtain ⟨rfl, HD⟩ := hcut
            have hOc := HOo.out.later (HD.out.below wr.heap.size)
            have HOc := Lib.hid hOc
            have hownc := hOc.own
            rw [HLl.out] at hownc
            have HOw := Lib.hid hownc
            have HT := Lib.hid (And.intro HG.out.1 HG.out.2.1)
            have hlow := hOc.below.size
            have hi5 : i < n := hlt
            clear hgo c2 hOc hownc HG
            go_wp2_with (at_builtin; refine Kd.wpList_push (W := wc) (F := fun _ => False) (B := w.heap.size) (n := i) (v := .slice C i e5) (xs := L) (y := 0) (cs := [.int .i64 0]) Ap.int_t rfl _ _ rfl rfl rfl rfl HOw.out ⟨rfl, by omega⟩ (by omega) (by omega) hlow (fun _ h => h.elim) ?_; intro g5 cap w5 hown hgrow hfr; have HP := Lib.hid (HOc.out.push HLl.out hown hgrow); clear hown hgrow hfr)
            have HQ0 : Hid (Out kInt 3 w w5 (.slice (some ⟨g5, 0, none⟩) (i + 1) cap) (gapI L i 0)) := Lib.hid (by
              have h9 := HP.out
              rw [<- gapI_end, HLl.out] at h9
              exact h9)
            clear HP
            go_loopw [6] (fun s6 wx => ∃ (k : Nat) (z : Int), s6 = .int .i64 k /\ t <= k /\ k <= i /\ Hid (Out kInt 3 w wx (.slice (some ⟨g5, 0, none⟩) (i + 1) cap) (gapI L k z))) (fun s6 _ => (intOf s6).toNat)
            case atStart => exact ⟨i, 0, by go_num, HT.out.1, Nat.le_refl _, HQ0⟩
            case round =>
              clear HQ0
              obtain ⟨k, z, rfl, htk, hki, HQ⟩ := hrel
              have kk : (0 : Int) <= (k : Int) := by omega
              have hgl : (gapI L k z).length = i + 1 := by rw [gapI_length (by rw [HLl.out]; exact hki), HLl.out]
              by_cases hkt : t < k
              . obtain ⟨k1, rfl⟩ : ∃ k1, k = k1 + 1 := ⟨k - 1, by omega⟩
                obtain ⟨y, hy⟩ : ∃ y, L[k1]? = some y := ⟨_, List.getElem?_eq_getElem (by rw [HLl.out]; omega)⟩
                obtain ⟨b1, b2⟩ := gapI_back hy z
                obtain ⟨e1, e2, e3⟩ := out_get HQ.out hgl b1
                obtain ⟨z2, hz2⟩ : ∃ z2, (gapI L (k1 + 1) z)[k1 + 1]? = some z2 := ⟨_, List.getElem?_eq_getElem (by rw [hgl]; omega)⟩
                obtain ⟨f1, f2, _⟩ := out_get HQ.out hgl hz2
                have hnx := out_put HQ.out hgl hz2 e3
                rw [b2] at hnx
                have HNx := Lib.hid hnx
                have q1 : (t : Int) < ((k1 + 1 : Nat) : Int) := by omega
                have q1' : (t : Int) < (k1 : Int) + 1 := by omega
                have w3 : IntKind.i64.wrap (k1 : Int) = (k1 : Int) := IntWalk.i64_in _ (by omega)
                have q2 : (0 : Int) <= (k1 : Int) := by omega
                have q3 : (k1 : Int) < (i : Int) + 1 := by omega
                have q4 : (0 : Int) <= (k1 : Int) + 1 := by omega
                have q5 : (k1 : Int) + 1 < (i : Int) + 1 := by omega
                have q6 : ((k1 : Int) + 1).toNat = k1 + 1 := by omega
                clear hy b1 b2 hz2 hnx e3 hgl
                go_wp2
                go_roundw
                case rel => exact ⟨k1, y, (by first | rfl | go_num), by omega, by omega, HNx⟩
                case measure => (simp [intOf] <;> omega)
              . obtain rfl : k = t := by omega
                have q1 : ¬ (k : Int) < (k : Int) := by omega
                obtain ⟨z2, hz2⟩ : ∃ z2, (gapI L k z)[k]? = some z2 := ⟨_, List.getElem?_eq_getElem (by rw [hgl]; omega)⟩
                obtain ⟨f1, f2, _⟩ := out_get HQ.out hgl hz2
                have hnx := out_put HQ.out hgl hz2 HK.out
                rw [gapI_set (by rw [HLl.out]; exact hki)] at hnx
                have d1 := HC1.out wr HQ.out.below
                have HRn : Hid (Ris w (wr.setCell ⟨g5, k, none⟩ (.int .i64 x)) (.slice (some ⟨g5, 0, none⟩) (i + 1) cap) l (i + 1) (gapI L k x)) := Lib.hid ⟨hnx, gapI_sorted HO.out.sorted HStop.out HT.out.2, by
                  rw [take_next HX.out]
                  exact (gapI_perm L k x).trans ((HO.out.perm.cons x).trans (List.perm_append_singleton x _).symm)⟩
                have q2 : (k : Int) < (i : Int) + 1 := by omega
                clear hz2 hnx hgl
                go_wp2
                go_roundw
                case rel => exact ⟨i + 1, _, by go_num, by omega, HRn⟩
                case measure => simp [intOf]; omega
    . have k1 : ¬ (i : Int) < (n : Int) := by omega
      obtain rfl : i = n := by omega
      have HE : Hid (Ko.Told kInt 3 w (.returned (.slice C i e5)) wr (srt l)) := Lib.hid (by
        have hp := HO.out.perm
        rw [List.take_of_length_le (by rw [HL.out]; exact Nat.le_refl _)] at hp
        have := HO.out.out.told
        rw [srt_unique HO.out.sorted hp] at this
        exact this)
      go_wp2
      go_ret
      exact HE.out
end Go.Proofs.YtljmddjlnlmenaaGreat.Dl
