/- The statements' scopes: some names out of a list, and Scope. · The statements' Scope: one that may be, near to a raw one .. -/
import Derived.Deep.RegionHeld3
import Derived.Test.YtljmddjlnlmenaaGreatPk1
import Derived.Test.YtljmddjlnlmenaaGreatPk12
import Derived.Test.YtljmddjlnlmenaaGreatPk2
import Derived.Test.YtljmddjlnlmenaaGreatPk24
set_option maxRecDepth 100000
set_option linter.unusedVariables false

section
namespace Go.Proofs.YtljmddjlnlmenaaGreat.Py
open Go.ChangeShapes Go.WideShapes Go.ChangeAt Go.RowKit
open Kd (Kind Row Own Cells Fit Agree kStr row_str)
def hitB (l : List ByteArray) (N k : Nat) : Bool := (l.take 4).any fun s => modN (pickS s) N == k
def someTo (l : List ByteArray) (M N : Nat) : Nat -> List Nat
  | 0 => []
  | k + 1 => if decide ((someTo l M N k).length < M) && hitB l N k then someTo l M N k ++ [k] else someTo l M N k
theorem someTo_len (l : List ByteArray) (M N : Nat) : ∀ k, (someTo l M N k).length <= k /\ (someTo l M N k).length <= M
  | 0 => ⟨Nat.le_refl _, Nat.zero_le _⟩
  | k + 1 => by
    obtain ⟨h1, h2⟩ := someTo_len l M N k
    unfold someTo
    split
    . rename_i h
      simp only [Bool.and_eq_true, decide_eq_true_eq] at h
      simp only [List.length_append, List.length_singleton]
      omega
    . omega
theorem someTo_low (l : List ByteArray) (M N : Nat) : ∀ k, ∀ j ∈ someTo l M N k, j < k
  | 0, j, h => by cases h
  | k + 1, j, h => by
    unfold someTo at h
    split at h
    . rcases List.mem_append.1 h with h | h
      . have := someTo_low l M N k j h; omega
      . simp only [List.mem_singleton] at h; omega
    . have := someTo_low l M N k j h; omega
theorem someTo_rise (l : List ByteArray) (M N : Nat) : ∀ k, ∀ (i a b : Nat), (someTo l M N k)[i]? = some a -> (someTo l M N k)[i + 1]? = some b -> a < b
  | 0, i, a, b, h, _ => by simp [someTo] at h
  | k + 1, i, a, b, h, h2 => by
    unfold someTo at h h2
    split at h
    . rename_i hc
      rw [if_pos hc] at h2
      have hl := (List.getElem?_eq_some_iff.1 h2).1
      simp only [List.length_append, List.length_singleton] at hl
      rcases Nat.lt_or_ge (i + 1) (someTo l M N k).length with hi | hi
      . rw [List.getElem?_append_left (by omega)] at h h2
        exact someTo_rise l M N k i a b h h2
      . rw [List.getElem?_append_left (by omega)] at h
        rw [List.getElem?_append_right (by omega), show i + 1 - (someTo l M N k).length = 0 by omega] at h2
        simp only [List.getElem?_cons_zero, Option.some.injEq] at h2
        subst h2
        exact someTo_low l M N k a (List.mem_of_getElem? h)
    . rename_i hc
      rw [if_neg hc] at h2
      exact someTo_rise l M N k i a b h h2
theorem hitB_yes {l : List ByteArray} {N k i : Nat} {s : ByteArray} (hi : i < 4) (hs : l[i]? = some s) (h : modN (pickS s) N = k) : hitB l N k = true := by
  unfold hitB
  refine List.any_eq_true.2 ⟨s, List.mem_of_getElem? (i := i) ?_, by simp [h]⟩
  rw [List.getElem?_take_of_lt hi]; exact hs
theorem hitB_no {l : List ByteArray} {N k : Nat} (h : ∀ (i : Nat) (s : ByteArray), i < 4 -> l[i]? = some s -> modN (pickS s) N ≠ k) : hitB l N k = false := by
  unfold hitB
  refine List.any_eq_false.2 fun s hs => ?_
  obtain ⟨i, hi, e⟩ := List.mem_iff_getElem.1 hs
  simp only [List.length_take] at hi
  have h2 : l[i]? = some s := by
    rw [<- e, List.getElem_take]
    exact List.getElem?_eq_getElem _
  have := h i s (by omega) h2
  simpa using this
theorem someTo_hit {l : List ByteArray} {M N k : Nat} (h : (someTo l M N k).length < M) (hb : hitB l N k = true) : someTo l M N (k + 1) = someTo l M N k ++ [k] := by
  show (if _ then _ else _) = _
  rw [if_pos (by simp [h, hb])]
theorem someTo_full {l : List ByteArray} {M N k : Nat} (h : ¬ (someTo l M N k).length < M) : someTo l M N (k + 1) = someTo l M N k := by
  show (if _ then _ else _) = _
  rw [if_neg (by simp [h])]
theorem someTo_miss {l : List ByteArray} {M N k : Nat} (hb : hitB l N k = false) : someTo l M N (k + 1) = someTo l M N k := by
  show (if _ then _ else _) = _
  rw [if_neg (by simp [hb])]
def namesOf (nm : Nat -> ByteArray) (l : List ByteArray) (M N k : Nat) : List ByteArray := (someTo l M N k).map nm
theorem namesOf_len (nm : Nat -> ByteArray) (l : List ByteArray) (M N k : Nat) : (namesOf nm l M N k).length = (someTo l M N k).length := List.length_map _
theorem sku_size (k : Nat) : (skuS k).size = 1 := chr_size _
theorem cat_size (k : Nat) : (catS k).size = 1 := chr_size _
structure Gath (w wr : World) (v : Value) (nm : Nat -> ByteArray) (l : List ByteArray) (M N k : Nat) : Prop where
  own : Kd.Own kStr wr w.heap.size 9 (fun _ => False) v (someTo l M N k).length (namesOf nm l M N k)
  below : Below w.heap.size w wr
theorem Gath.keep {w wr : World} {v : Value} {nm : Nat -> ByteArray} {l : List ByteArray} {M N k : Nat} (h : Gath w wr v nm l M N k) (e : someTo l M N (k + 1) = someTo l M N k) : Gath w wr v nm l M N (k + 1) :=
  ⟨by unfold namesOf; rw [e]; exact h.own, h.below⟩
set_option maxHeartbeats 2000000 in
theorem some_sku (A : Option Addr) (n c : Nat) (l : List ByteArray) (w : World) (h : Row kStr w (· < w.heap.size) A n l) (hn : n <= 9223372036854775807) :
    Calls Tryz.prog 104 #[.slice A n c, .int .i64 3, .int .i64 8, .func (.func 105) #[] #[]] w fun e w' => ∃ v, e = .returned v /\ Gath w w' v skuS l 3 8 8 := by
  have hln : l.length = n := h.len
  have HR := Lib.hid (And.intro h hln)
  have HM0 : Hid (Gath w w (.slice none 0 0) skuS l 3 8 0) := Lib.hid ⟨Kd.Own.nil _ _ _ _ _, Below.refl _ _⟩
  have HPK := Lib.hid (fun s W h => pick_any s W h)
  have HMD := Lib.hid (fun a W => mod_any a 8 W (by omega) (by omega))
  have HNM := Lib.hid (fun a W => sku_any a W)
  clear h hln
  go_enter Tryz.func104, Tryz.ntmps104
  go_wp2
  go_loopw [9, 10] (fun s9 s10 wr => ∃ k : Nat, s10 = .int .i64 k /\ k <= 8 /\ Hid (Gath w wr s9 skuS l 3 8 k)) (fun _ s10 _ => 8 - (intOf s10).toNat)
  case atStart => exact ⟨0, rfl, by omega, HM0⟩
  case round =>
    clear HM0
    obtain ⟨k, rfl, hk, hM⟩ := hrel
    have k0 : (0 : Int) <= (k : Int) := by omega
    by_cases hlt : k < 8
    . have k1 : (k : Int) < 8 := by omega
      obtain ⟨wo, hwo⟩ : ∃ wo : World, wo = wr := ⟨_, rfl⟩
      subst hwo
      have hval := hM.out.own.value
      obtain ⟨q, hq⟩ : ∃ q, (someTo l 3 8 k).length = q := ⟨_, rfl⟩
      have hq2 := (someTo_len l 3 8 k).1
      have hown := hM.out.own
      rw [hq] at hq2 hown hval
      obtain ⟨A9, c9, hv9⟩ := hval
      subst hv9
      have HO := Lib.hid (And.intro hown hq)
      have HE0 : Hid (∀ (j : Nat) (s : ByteArray), j < 0 -> l[j]? = some s -> modN (pickS s) 8 ≠ k) := Lib.hid fun j s hj => by omega
      clear hown hq
      go_wp2
      go_loopw [9, 11] (fun s9 s11 wi => s9 = .slice A9 q c9 /\ ∃ i : Nat, s11 = .int .i64 i /\ i <= n /\ i <= 4 /\ wi = wo /\ Hid (∀ (j : Nat) (s : ByteArray), j < i -> l[j]? = some s -> modN (pickS s) 8 ≠ k)) (fun _ s11 _ => 4 - (intOf s11).toNat)
      case atStart => exact ⟨rfl, 0, rfl, by omega, by omega, by trivial, HE0⟩
      case round =>
        clear HE0
        obtain ⟨rfl, i, rfl, hi, hi4, rfl, hE⟩ := hrel
        have i0 : (0 : Int) <= (i : Int) := by omega
        by_cases hin : i < n
        . have i1 : (i : Int) < (n : Int) := by omega
          by_cases hi4' : i < 4
          . have i2 : (i : Int) < 4 := by omega
            by_cases hqm : q < 3
            . have q1 : (q : Int) < 3 := by omega
              obtain ⟨s, hs⟩ := HR.out.1.get hin
              obtain ⟨g, o, rfl, hg1, hg2, hsz, a0⟩ := row_str (HR.out.1.below hM.out.below (Nat.le_refl _)) hs
              have HPx := Lib.hid (fun W => HPK.out s W hsz)
              have HMx := Lib.hid (fun W => HMD.out (pickS s) W)
              obtain ⟨t, ht⟩ : ∃ t, modN (pickS s) 8 = t := ⟨_, rfl⟩
              simp only [ht] at HMx
              have HT := Lib.hid (And.intro hs ht)
              clear hsz hs ht
              by_cases htk : t = k
              . have b1 : ((t : Int) == (k : Int)) = true := by rw [beq_iff_eq]; omega
                have HS : Hid (someTo l 3 8 (k + 1) = someTo l 3 8 k ++ [k]) := Lib.hid (someTo_hit (by rw [HO.out.2]; exact hqm) (hitB_yes hi4' HT.out.1 (HT.out.2.trans htk)))
                have hnm := fun W => HNM.out (k : Int) W
                have e1 : modN (k : Int) 8 = k := modN_num k 8 hlt (by omega)
                simp only [e1] at hnm
                have HNx := Lib.hid hnm
                clear htk hnm e1
                go_wp2_with fail
                refine (HPx.out _).mono ?_
                rintro e w1 ⟨rfl, rfl⟩
                go_wp2_with fail
                refine (HMx.out _).mono ?_
                rintro e w1 ⟨rfl, rfl⟩
                go_wp2_with fail
                refine (HNx.out _).mono ?_
                rintro e w1 ⟨rfl, hb1⟩
                have HOW : Hid (Kd.Own kStr w1 w.heap.size 9 (fun _ => False) (.slice A9 q c9) q (namesOf skuS l 3 8 k) /\ Below w.heap.size w w1 /\ w.heap.size <= w1.heap.size /\ kStr.rep w1 (fun _ => False) (skuS k) [.string (skuS k)]) := Lib.hid (by
                  have hb := hM.out.below.trans (hb1.mono hM.out.below.size)
                  exact ⟨HO.out.1.later hb1, hb, hb.size, rfl, by rw [sku_size]; decide⟩)
                clear hb1
                go_wp2_with ((at_builtin; refine Kd.wpList_push (W := w1) (F := fun _ => False) (B := w.heap.size) (n := q) (v := .slice A9 q c9) (xs := namesOf skuS l 3 8 k) (y := skuS k) (cs := [.string (skuS k)]) Ap.str_t rfl _ _ rfl rfl rfl rfl HOW.out.1 HOW.out.2.2.2 (by omega) (by omega) HOW.out.2.2.1 (fun _ h => h.elim) ?_; intro g1 cap w' hown hgrow hfr))
                have HM2 : Hid (Gath w w' (.slice (some ⟨g1, 0, none⟩) (q + 1) cap) skuS l 3 8 (k + 1)) := Lib.hid ⟨by
                  unfold namesOf
                  have e : (someTo l 3 8 (k + 1)).length = q + 1 := by rw [HS.out, List.length_append, HO.out.2]; rfl
                  rw [e, HS.out, List.map_append]; exact hown, HOW.out.2.1.grown hgrow HOW.out.2.2.1 (fun i hi => (HOW.out.1.low i hi).1)⟩
                clear hown hgrow hfr
                go_wp2
                go_roundw
                case rel => exact ⟨k + 1, by go_num, by omega, HM2⟩
                case measure => simp [intOf]; omega
              . have b1 : ((t : Int) == (k : Int)) = false := by rw [beq_eq_false_iff_ne]; omega
                have HE2 : Hid (∀ (j : Nat) (s : ByteArray), j < i + 1 -> l[j]? = some s -> modN (pickS s) 8 ≠ k) := Lib.hid fun j s' hj hs' => by
                  rcases Nat.lt_or_ge j i with hji | hji
                  . exact hE.out j s' hji hs'
                  . obtain rfl : j = i := by omega
                    rw [HT.out.1] at hs'
                    injection hs' with hs'
                    subst hs'
                    rw [HT.out.2]; exact htk
                clear htk
                go_wp2_with fail
                refine (HPx.out _).mono ?_
                rintro e w1 ⟨rfl, rfl⟩
                go_wp2_with fail
                refine (HMx.out _).mono ?_
                rintro e w1 ⟨rfl, rfl⟩
                go_wp2
                go_roundw
                case rel => exact ⟨rfl, i + 1, by go_num, by omega, by omega, by trivial, HE2⟩
                case measure => simp [intOf]; omega
            . have q1 : ¬ (q : Int) < 3 := by omega
              have HM2 : Hid (Gath w _ (.slice A9 q c9) skuS l 3 8 (k + 1)) := Lib.hid (hM.out.keep (someTo_full (by rw [HO.out.2]; exact hqm)))
              clear hM
              go_wp2
              go_roundw
              case rel => exact ⟨k + 1, by go_num, by omega, HM2⟩
              case measure => simp [intOf]; omega
          . have i2 : ¬ (i : Int) < 4 := by omega
            have HM2 : Hid (Gath w _ (.slice A9 q c9) skuS l 3 8 (k + 1)) := Lib.hid (hM.out.keep (someTo_miss (hitB_no fun j s hj hs => hE.out j s (by omega) hs)))
            clear hM
            go_wp2
            go_roundw
            case rel => exact ⟨k + 1, by go_num, by omega, HM2⟩
            case measure => simp [intOf]; omega
        . have i1 : ¬ (i : Int) < (n : Int) := by omega
          have HM2 : Hid (Gath w _ (.slice A9 q c9) skuS l 3 8 (k + 1)) := Lib.hid (hM.out.keep (someTo_miss (hitB_no fun j s hj hs => hE.out j s (by
            have := (List.getElem?_eq_some_iff.1 hs).1
            have := HR.out.2
            omega) hs)))
          clear hM
          go_wp2
          go_roundw
          case rel => exact ⟨k + 1, by go_num, by omega, HM2⟩
          case measure => simp [intOf]; omega
    . obtain rfl : k = 8 := by omega
      go_wp2
      go_ret
      exact ⟨_, rfl, hM.out⟩
set_option maxHeartbeats 2000000 in
theorem some_cat (A : Option Addr) (n c : Nat) (l : List ByteArray) (w : World) (h : Row kStr w (· < w.heap.size) A n l) (hn : n <= 9223372036854775807) :
    Calls Tryz.prog 104 #[.slice A n c, .int .i64 2, .int .i64 3, .func (.func 106) #[] #[]] w fun e w' => ∃ v, e = .returned v /\ Gath w w' v catS l 2 3 3 := by
  have hln : l.length = n := h.len
  have HR := Lib.hid (And.intro h hln)
  have HM0 : Hid (Gath w w (.slice none 0 0) catS l 2 3 0) := Lib.hid ⟨Kd.Own.nil _ _ _ _ _, Below.refl _ _⟩
  have HPK := Lib.hid (fun s W h => pick_any s W h)
  have HMD := Lib.hid (fun a W => mod_any a 3 W (by omega) (by omega))
  have HNM := Lib.hid (fun a W => category_any a W)
  clear h hln
  go_enter Tryz.func104, Tryz.ntmps104
  go_wp2
  go_loopw [9, 10] (fun s9 s10 wr => ∃ k : Nat, s10 = .int .i64 k /\ k <= 3 /\ Hid (Gath w wr s9 catS l 2 3 k)) (fun _ s10 _ => 3 - (intOf s10).toNat)
  case atStart => exact ⟨0, rfl, by omega, HM0⟩
  case round =>
    clear HM0
    obtain ⟨k, rfl, hk, hM⟩ := hrel
    have k0 : (0 : Int) <= (k : Int) := by omega
    by_cases hlt : k < 3
    . have k1 : (k : Int) < 3 := by omega
      obtain ⟨wo, hwo⟩ : ∃ wo : World, wo = wr := ⟨_, rfl⟩
      subst hwo
      have hval := hM.out.own.value
      obtain ⟨q, hq⟩ : ∃ q, (someTo l 2 3 k).length = q := ⟨_, rfl⟩
      have hq2 := (someTo_len l 2 3 k).1
      have hown := hM.out.own
      rw [hq] at hq2 hown hval
      obtain ⟨A9, c9, hv9⟩ := hval
      subst hv9
      have HO := Lib.hid (And.intro hown hq)
      have HE0 : Hid (∀ (j : Nat) (s : ByteArray), j < 0 -> l[j]? = some s -> modN (pickS s) 3 ≠ k) := Lib.hid fun j s hj => by omega
      clear hown hq
      go_wp2
      go_loopw [9, 11] (fun s9 s11 wi => s9 = .slice A9 q c9 /\ ∃ i : Nat, s11 = .int .i64 i /\ i <= n /\ i <= 4 /\ wi = wo /\ Hid (∀ (j : Nat) (s : ByteArray), j < i -> l[j]? = some s -> modN (pickS s) 3 ≠ k)) (fun _ s11 _ => 4 - (intOf s11).toNat)
      case atStart => exact ⟨rfl, 0, rfl, by omega, by omega, by trivial, HE0⟩
      case round =>
        clear HE0
        obtain ⟨rfl, i, rfl, hi, hi4, rfl, hE⟩ := hrel
        have i0 : (0 : Int) <= (i : Int) := by omega
        by_cases hin : i < n
        . have i1 : (i : Int) < (n : Int) := by omega
          by_cases hi4' : i < 4
          . have i2 : (i : Int) < 4 := by omega
            by_cases hqm : q < 2
            . have q1 : (q : Int) < 2 := by omega
              obtain ⟨s, hs⟩ := HR.out.1.get hin
              obtain ⟨g, o, rfl, hg1, hg2, hsz, a0⟩ := row_str (HR.out.1.below hM.out.below (Nat.le_refl _)) hs
              have HPx := Lib.hid (fun W => HPK.out s W hsz)
              have HMx := Lib.hid (fun W => HMD.out (pickS s) W)
              obtain ⟨t, ht⟩ : ∃ t, modN (pickS s) 3 = t := ⟨_, rfl⟩
              simp only [ht] at HMx
              have HT := Lib.hid (And.intro hs ht)
              clear hsz hs ht
              by_cases htk : t = k
              . have b1 : ((t : Int) == (k : Int)) = true := by rw [beq_iff_eq]; omega
                have HS : Hid (someTo l 2 3 (k + 1) = someTo l 2 3 k ++ [k]) := Lib.hid (someTo_hit (by rw [HO.out.2]; exact hqm) (hitB_yes hi4' HT.out.1 (HT.out.2.trans htk)))
                have hnm := fun W => HNM.out (k : Int) W
                have e1 : modN (k : Int) 3 = k := modN_num k 3 hlt (by omega)
                simp only [e1] at hnm
                have HNx := Lib.hid hnm
                clear htk hnm e1
                go_wp2_with fail
                refine (HPx.out _).mono ?_
                rintro e w1 ⟨rfl, rfl⟩
                go_wp2_with fail
                refine (HMx.out _).mono ?_
                rintro e w1 ⟨rfl, rfl⟩
                go_wp2_with fail
                refine (HNx.out _).mono ?_
                rintro e w1 ⟨rfl, hb1⟩
                have HOW : Hid (Kd.Own kStr w1 w.heap.size 9 (fun _ => False) (.slice A9 q c9) q (namesOf catS l 2 3 k) /\ Below w.heap.size w w1 /\ w.heap.size <= w1.heap.size /\ kStr.rep w1 (fun _ => False) (catS k) [.string (catS k)]) := Lib.hid (by
                  have hb := hM.out.below.trans (hb1.mono hM.out.below.size)
                  exact ⟨HO.out.1.later hb1, hb, hb.size, rfl, by rw [cat_size]; decide⟩)
                clear hb1
                go_wp2_with ((at_builtin; refine Kd.wpList_push (W := w1) (F := fun _ => False) (B := w.heap.size) (n := q) (v := .slice A9 q c9) (xs := namesOf catS l 2 3 k) (y := catS k) (cs := [.string (catS k)]) Ap.str_t rfl _ _ rfl rfl rfl rfl HOW.out.1 HOW.out.2.2.2 (by omega) (by omega) HOW.out.2.2.1 (fun _ h => h.elim) ?_; intro g1 cap w' hown hgrow hfr))
                have HM2 : Hid (Gath w w' (.slice (some ⟨g1, 0, none⟩) (q + 1) cap) catS l 2 3 (k + 1)) := Lib.hid ⟨by
                  unfold namesOf
                  have e : (someTo l 2 3 (k + 1)).length = q + 1 := by rw [HS.out, List.length_append, HO.out.2]; rfl
                  rw [e, HS.out, List.map_append]; exact hown, HOW.out.2.1.grown hgrow HOW.out.2.2.1 (fun i hi => (HOW.out.1.low i hi).1)⟩
                clear hown hgrow hfr
                go_wp2
                go_roundw
                case rel => exact ⟨k + 1, by go_num, by omega, HM2⟩
                case measure => simp [intOf]; omega
              . have b1 : ((t : Int) == (k : Int)) = false := by rw [beq_eq_false_iff_ne]; omega
                have HE2 : Hid (∀ (j : Nat) (s : ByteArray), j < i + 1 -> l[j]? = some s -> modN (pickS s) 3 ≠ k) := Lib.hid fun j s' hj hs' => by
                  rcases Nat.lt_or_ge j i with hji | hji
                  . exact hE.out j s' hji hs'
                  . obtain rfl : j = i := by omega
                    rw [HT.out.1] at hs'
                    injection hs' with hs'
                    subst hs'
                    rw [HT.out.2]; exact htk
                clear htk
                go_wp2_with fail
                refine (HPx.out _).mono ?_
                rintro e w1 ⟨rfl, rfl⟩
                go_wp2_with fail
                refine (HMx.out _).mono ?_
                rintro e w1 ⟨rfl, rfl⟩
                go_wp2
                go_roundw
                case rel => exact ⟨rfl, i + 1, by go_num, by omega, by omega, by trivial, HE2⟩
                case measure => simp [intOf]; omega
            . have q1 : ¬ (q : Int) < 2 := by omega
              have HM2 : Hid (Gath w _ (.slice A9 q c9) catS l 2 3 (k + 1)) := Lib.hid (hM.out.keep (someTo_full (by rw [HO.out.2]; exact hqm)))
              clear hM
              go_wp2
              go_roundw
              case rel => exact ⟨k + 1, by go_num, by omega, HM2⟩
              case measure => simp [intOf]; omega
          . have i2 : ¬ (i : Int) < 4 := by omega
            have HM2 : Hid (Gath w _ (.slice A9 q c9) catS l 2 3 (k + 1)) := Lib.hid (hM.out.keep (someTo_miss (hitB_no fun j s hj hs => hE.out j s (by omega) hs)))
            clear hM
            go_wp2
            go_roundw
            case rel => exact ⟨k + 1, by go_num, by omega, HM2⟩
            case measure => simp [intOf]; omega
        . have i1 : ¬ (i : Int) < (n : Int) := by omega
          have HM2 : Hid (Gath w _ (.slice A9 q c9) catS l 2 3 (k + 1)) := Lib.hid (hM.out.keep (someTo_miss (hitB_no fun j s hj hs => hE.out j s (by
            have := (List.getElem?_eq_some_iff.1 hs).1
            have := HR.out.2
            omega) hs)))
          clear hM
          go_wp2
          go_roundw
          case rel => exact ⟨k + 1, by go_num, by omega, HM2⟩
          case measure => simp [intOf]; omega
    . obtain rfl : k = 3 := by omega
      go_wp2
      go_ret
      exact ⟨_, rfl, hM.out⟩
end Go.Proofs.YtljmddjlnlmenaaGreat.Py

end

section
namespace Go.Proofs.YtljmddjlnlmenaaGreat.Py
open Go.ChangeShapes Go.WideShapes Go.ChangeAt Go.RowKit
open Kd (Kind Row Own Cells Fit Agree kStr row_str Lst Sl)
open Ap (Scp kScp Scp_rep)
def scopeOf (s : Scp) : Scp := ⟨namesOf skuS s.skus 3 8 8, namesOf catS s.cats 2 3 3⟩
theorem results_scope {f : Func} {p : Tmp} {T : TypeId} (hf : f.results = #[.cell p T]) (tmps : Array Value) (w : World) (g : Nat) (vs : Array Value) (hT : T = 24) (h : Qu.Blk w g 24 vs) (hv : vs.size = 2) (hp : tmps.getD p undef = .pointer (some ⟨g, 0, none⟩)) : (results f tmps).run Tryz.prog w = .ok (.agg vs) w := by
  subst hT
  exact results_cell_row hf tmps w g 24 vs (0, 0) _ hp h.here Tryz.underlying24 rfl (by rw [hv]; kernel_rfl)
end Go.Proofs.YtljmddjlnlmenaaGreat.Py

end

section
namespace Go.Proofs.YtljmddjlnlmenaaGreat.Py
open Go.ChangeShapes Go.WideShapes Go.ChangeAt Go.RowKit
open Kd (Kind Row Own Cells Fit Agree kStr row_str Lst Sl)
def two (a c : Nat) : ByteArray := By.strOf [UInt8.ofNat a, UInt8.ofNat c]
def idS (k : Nat) : ByteArray := two 112 (48 + k)
def codeS (k : Nat) : ByteArray := two 99 (48 + k)
theorem two_list (a c : Nat) : (two a c).toList = [UInt8.ofNat a, UInt8.ofNat c] := by unfold two; exact By.strOf_list _
theorem two_data (a c : Nat) : (two a c).data.toList = [UInt8.ofNat a, UInt8.ofNat c] := by rw [<- ByteArray.toList_eq]; exact two_list a c
theorem two_size (a c : Nat) : (two a c).size = 2 := by unfold two; rw [By.strOf_size]; rfl
theorem id_size (k : Nat) : (idS k).size = 2 := two_size _ _
theorem code_size (k : Nat) : (codeS k).size = 2 := two_size _ _
theorem two_name {a c : Nat} (h : Sr.plain (a : Int) = true) (h2 : Sr.plain (c : Int) = true) (ha : a < 256) (hc : c < 256) : Sr.name (two a c) = true := by
  unfold Sr.name Sr.nameL
  rw [two_data]
  simp [By.toNat_small ha, By.toNat_small hc, h, h2]
theorem id_name {k : Nat} (h : k < 10) : Sr.name (idS k) = true := two_name (by decide) (by unfold Sr.plain; simp; omega) (by omega) (by omega)
theorem code_name {k : Nat} (h : k < 10) : Sr.name (codeS k) = true := two_name (by decide) (by unfold Sr.plain; simp; omega) (by omega) (by omega)
theorem cat_two (a c : Nat) (W : World) : (Op.stringOp .add (By.strOf [UInt8.ofNat a]) (By.strOf [UInt8.ofNat c])).run Tryz.prog W = .ok (.string (two a c)) W := by
  have h := run_string_add_sum (P := Tryz.prog) (w := W) (By.strOf [UInt8.ofNat a]) (By.strOf [UInt8.ofNat c]) (by rw [By.strOf_size, By.strOf_size]; show 1 + 1 <= 9223372036854775807; decide)
  exact h
theorem id_any (a : Int) (w : World) : Calls Tryz.prog 82 #[.int .i64 a] w fun e w' => e = .returned (.string (idS (modN a 10))) /\ Below w.heap.size w w' := by
  have HM := Lib.hid (mod_any a 10 w (by omega) (by omega))
  have ht := modN_lt a 10 (by omega)
  generalize hk : modN a 10 = t at HM ht ⊢
  have hr := fun W => By.run_text (P := Tryz.prog) (c := 1) 119 9 5 Tryz.underlying119 Tryz.underlying5 Tryz.underlying9 (By.Bys.made W 5 (48 + (t : Int)) (by omega) (by omega))
  have e : (48 + (t : Int)).toNat = 48 + t := by omega
  rw [e] at hr
  have hc : ∀ W, (Op.stringOp .add ⟨#[112]⟩ (By.strOf [UInt8.ofNat (48 + t)])).run Tryz.prog W = .ok (.string (idS t)) W := fun W => cat_two 112 (48 + t) W
  obtain ⟨x, hx⟩ : ∃ x, By.strOf [UInt8.ofNat (48 + t)] = x := ⟨_, rfl⟩
  simp only [hx] at hr hc
  clear hk hx
  go_enter Tryz.func82, Tryz.ntmps82
  go_wp2_with fail
  refine HM.out.mono ?_
  rintro e w1 ⟨rfl, rfl⟩
  go_wp2
  go_ret
  exact ⟨rfl, (Below.refl _ _).alloc (Nat.le_refl _) _⟩
theorem code_any (a : Int) (w : World) : Calls Tryz.prog 85 #[.int .i64 a] w fun e w' => e = .returned (.string (codeS (modN a 3))) /\ Below w.heap.size w w' := by
  have HM := Lib.hid (mod_any a 3 w (by omega) (by omega))
  have ht := modN_lt a 3 (by omega)
  generalize hk : modN a 3 = t at HM ht ⊢
  have hr := fun W => By.run_text (P := Tryz.prog) (c := 1) 119 9 5 Tryz.underlying119 Tryz.underlying5 Tryz.underlying9 (By.Bys.made W 5 (48 + (t : Int)) (by omega) (by omega))
  have e : (48 + (t : Int)).toNat = 48 + t := by omega
  rw [e] at hr
  have hc : ∀ W, (Op.stringOp .add ⟨#[99]⟩ (By.strOf [UInt8.ofNat (48 + t)])).run Tryz.prog W = .ok (.string (codeS t)) W := fun W => cat_two 99 (48 + t) W
  obtain ⟨x, hx⟩ : ∃ x, By.strOf [UInt8.ofNat (48 + t)] = x := ⟨_, rfl⟩
  simp only [hx] at hr hc
  clear hk hx
  go_enter Tryz.func85, Tryz.ntmps85
  go_wp2_with fail
  refine HM.out.mono ?_
  rintro e w1 ⟨rfl, rfl⟩
  go_wp2
  go_ret
  exact ⟨rfl, (Below.refl _ _).alloc (Nat.le_refl _) _⟩
end Go.Proofs.YtljmddjlnlmenaaGreat.Py

end

section
namespace Go.Proofs.YtljmddjlnlmenaaGreat.Sc
open Go.ChangeShapes Go.WideShapes Go.ChangeAt Go.RowKit
open It (Itm kItem row_item)
open Ap (Scp kScp row_Scp)
open Kd (Row Fit Lst Sl kStr kInt kList row_str Deep But Own)
theorem holds_below {w w' : World} {B M : Nat} {s : Scp} {l : Scp.Lay} (h : Scp.Holds w (· < M) s l) (hb : Below B w w') (hM : M <= B) : Scp.Holds w' (· < M) s l := ⟨h.skus.below hb hM, h.cats.below hb hM⟩
theorem holds_more {w : World} {F G : Nat -> Prop} {s : Scp} {l : Scp.Lay} (h : Scp.Holds w F s l) (f : ∀ b, F b -> G b) : Scp.Holds w G s l := ⟨h.skus.more f, h.cats.more f⟩
theorem ints_rep {W : World} {v : Value} {B n c : Nat} {A : Option Addr} {l : List Int} (h : Kd.Own kInt W B 3 (fun _ => False) (.slice A n c) n l) (hv : ∀ g, v.ownBlock = some g -> g < B) : (kList kInt).rep W (But W v) l [.slice A n c] :=
  ⟨A, n, c, rfl, (h.more (G := But W v) fun _ h => h.elim).row fun g hg => ⟨(h.low g hg).2, fun e => by
    have h1 := hv g e
    have h2 := (h.low g hg).1
    omega⟩, h.fit⟩
end Go.Proofs.YtljmddjlnlmenaaGreat.Sc

end

section
namespace Go.Proofs.YtljmddjlnlmenaaGreat.Py
open Go.ChangeShapes Go.WideShapes Go.ChangeAt Go.RowKit
open Ap (Scp)
open Sc (Names namesB namesB_yes scopeB)
theorem namesOf_at {nm : Nat -> ByteArray} {l : List ByteArray} {M N k i : Nat} {x : ByteArray} (h : (namesOf nm l M N k)[i]? = some x) : ∃ a, (someTo l M N k)[i]? = some a /\ a < k /\ x = nm a := by
  unfold namesOf at h
  rw [List.getElem?_map] at h
  cases ha : (someTo l M N k)[i]? with
  | none => rw [ha] at h; cases h
  | some a =>
    rw [ha] at h
    exact ⟨a, rfl, someTo_low l M N k a (List.mem_of_getElem? ha), by simpa using h.symm⟩
theorem namesOf_may {nm : Nat -> ByteArray} {l : List ByteArray} {M N : Nat} {m : Int} (hM : (M : Int) <= m) (hn : ∀ a, a < N -> Sr.name (nm a) = true) (hl : ∀ a b, a < b -> b < N -> Sr.lt (nm a) (nm b) = true) : namesB (namesOf nm l M N N) m = true := by
  refine namesB_yes ⟨?_, ?_, ?_⟩
  . have := (someTo_len l M N N).2
    rw [namesOf_len]
    omega
  . intro i x hx
    obtain ⟨a, _, ha, rfl⟩ := namesOf_at hx
    exact hn a ha
  . intro i x y hx hy
    obtain ⟨a, h1, ha, rfl⟩ := namesOf_at hx
    obtain ⟨b, h2, hb, rfl⟩ := namesOf_at hy
    exact hl a b (someTo_rise l M N N i a b h1 h2) hb
theorem scopeOf_may (s : Scp) : scopeB (scopeOf s) = true := by
  unfold scopeB scopeOf
  rw [namesOf_may (by omega) (fun a ha => sku_name (by omega)) (fun a b hab hb => chr_lt (by omega) (by omega)), namesOf_may (by omega) (fun a ha => cat_name ha) (fun a b hab hb => chr_lt (by omega) (by omega))]
  rfl
theorem skusOf (s : Scp) : (scopeOf s).skus = namesOf skuS s.skus 3 8 8 := by simp only [scopeOf]
theorem catsOf (s : Scp) : (scopeOf s).cats = namesOf catS s.cats 2 3 3 := by simp only [scopeOf]
theorem namesOf_few (nm : Nat -> ByteArray) (l : List ByteArray) (M N : Nat) : (namesOf nm l M N N).length <= M := by
  rw [namesOf_len]; exact (someTo_len l M N N).2
theorem scopeOf_len (s : Scp) : (scopeOf s).skus.length <= 3 /\ (scopeOf s).cats.length <= 2 := by
  rw [skusOf, catsOf]
  exact ⟨namesOf_few _ _ _ _, namesOf_few _ _ _ _⟩
end Go.Proofs.YtljmddjlnlmenaaGreat.Py

end

section
namespace Go.Proofs.YtljmddjlnlmenaaGreat.Py
open Go.ChangeShapes Go.WideShapes Go.ChangeAt Go.RowKit
open Kd (Kind Row Own Cells Fit Agree kStr row_str Lst Sl)
open Ap (Scp kScp Scp_rep)
theorem own_down {α : Type} {K : Kind α} {w : World} {B B' E n : Nat} {F : Nat -> Prop} {v : Value} {xs : List α} (h : Kd.Own K w B E F v n xs) (hb : B' <= B) : Kd.Own K w B' E F v n xs := by
  obtain ⟨a1, cs, ho, hc⟩ := h
  refine ⟨a1, cs, ⟨ho.1, ?_⟩, hc⟩
  rcases ho.2 with h2 | ⟨g, cap, cur, hv, hb2, rest⟩
  . exact .inl h2
  . exact .inr ⟨g, cap, cur, hv, Nat.le_trans hb hb2, rest⟩
def ScopedOwn (w w' : World) (e : Ending) (s : Scp) : Prop :=
  ∃ l : Scp.Lay, e = .returned (.agg #[.slice l.skus.A l.skus.n l.skus.c, .slice l.cats.A l.cats.n l.cats.c]) /\ Kd.Own kStr w' w.heap.size 9 (fun _ => False) (.slice l.skus.A l.skus.n l.skus.c) l.skus.n s.skus /\ Kd.Own kStr w' w.heap.size 9 (fun _ => False) (.slice l.cats.A l.cats.n l.cats.c) l.cats.n s.cats /\ (∀ g, (Value.slice l.skus.A l.skus.n l.skus.c).ownBlock = some g -> (Value.slice l.cats.A l.cats.n l.cats.c).ownBlock ≠ some g) /\ Below w.heap.size w w'
theorem scope_end2 {w W0 wz wy : World} {A5 A8 : Option Addr} {c5 c8 q1 q2 : Nat} {x1 x2 : List ByteArray} (z1 : W0.heap.size = w.heap.size + 2) (hb : Below w.heap.size w W0) (hG5 : Kd.Own kStr wz W0.drew.heap.size 9 (fun _ => False) (.slice A5 q1 c5) q1 x1) (hb5 : Below W0.drew.heap.size W0.drew wz) (hG8 : Kd.Own kStr wy wz.heap.size 9 (fun _ => False) (.slice A8 q2 c8) q2 x2) (hb8 : Below wz.heap.size wz wy) (hy : Kd.Held W0 wy (w.heap.size + 1) 24 2) :
    ∃ w9, (wy.setCell ⟨w.heap.size + 1, 0, none⟩ (.slice A5 q1 c5)).setCell ⟨w.heap.size + 1, 1, none⟩ (.slice A8 q2 c8) = w9 /\ Qu.Blk w9 (w.heap.size + 1) 24 #[.slice A5 q1 c5, .slice A8 q2 c8] /\ ScopedOwn w w9 (.returned (.agg #[.slice A5 q1 c5, .slice A8 q2 c8])) ⟨x1, x2⟩ := by
  obtain ⟨w9, hw9⟩ : ∃ w9, (wy.setCell ⟨w.heap.size + 1, 0, none⟩ (.slice A5 q1 c5)).setCell ⟨w.heap.size + 1, 1, none⟩ (.slice A8 q2 c8) = w9 := ⟨_, rfl⟩
  have hd : W0.drew.heap.size = W0.heap.size := rfl
  have z2 := hb5.size
  have z3 := hb8.size
  have far : ∀ b, w.heap.size + 2 <= b -> w9.heap[b]? = wy.heap[b]? := fun b hb => by
    rw [<- hw9]
    exact (Below.heap_setCell _ ⟨w.heap.size + 1, _, none⟩ _ b (show b ≠ w.heap.size + 1 by omega)).trans (Below.heap_setCell _ ⟨w.heap.size + 1, _, none⟩ _ b (show b ≠ w.heap.size + 1 by omega))
  have z4 : w9.heap.size = wy.heap.size := by rw [<- hw9]; simp
  have hK : Qu.Blk w9 (w.heap.size + 1) 24 #[.slice A5 q1 c5, .slice A8 q2 c8] := by
    obtain ⟨cur, hbk, hsz⟩ := hy.box
    have h1 := (hbk.put 0 (.slice A5 q1 c5)).put 1 (.slice A8 q2 c8)
    rw [hw9] at h1
    have e : ((cur.setIfInBounds 0 (.slice A5 q1 c5)).setIfInBounds 1 (.slice A8 q2 c8)) = #[.slice A5 q1 c5, .slice A8 q2 c8] := by
      obtain ⟨l0⟩ := cur
      match l0, hsz with
      | [_, _], _ => rfl
    rw [e] at h1
    exact h1
  have hB : Below w.heap.size w w9 := by
    rw [<- hw9]
    exact ((hb.trans (hy.below.mono (by omega))).setCell (Nat.le_succ _) _).setCell (Nat.le_succ _) _
  refine ⟨w9, hw9, hK, ⟨⟨A5, q1, c5⟩, ⟨A8, q2, c8⟩⟩, rfl, ?_, ?_, fun g h1 h2 => by have := (hG5.low g h1).2; have := (hG8.low g h2).1; omega, hB⟩
  . exact own_down ((hG5.later hb8).stay (fun _ h => h.elim) fun g hg => far g (by have := hG5.low g hg; omega)) (by omega)
  . exact own_down (hG8.stay (fun _ h => h.elim) fun g hg => far g (by have := hG8.low g hg; omega)) (by omega)
set_option maxHeartbeats 2000000 in
theorem scope_own (s : Scp) (l : Scp.Lay) (w : World) (h : Scp.Holds w (· < w.heap.size) s l) (hn : l.skus.n <= 9223372036854775807) (hm : l.cats.n <= 9223372036854775807) :
    Calls Tryz.prog 83 #[.agg #[.slice l.skus.A l.skus.n l.skus.c, .slice l.cats.A l.cats.n l.cats.c]] w fun e w' => ScopedOwn w w' e (scopeOf s) := by
  obtain ⟨W1, hW1⟩ : ∃ W1, w.alloc (.cells #[.slice l.skus.A l.skus.n l.skus.c, .slice l.cats.A l.cats.n l.cats.c] 24) = W1 := ⟨_, rfl⟩
  obtain ⟨W0, hW0⟩ : ∃ W0, W1.alloc (.cells #[.slice none 0 0, .slice none 0 0] 24) = W0 := ⟨_, rfl⟩
  have s1 : W1.heap.size = w.heap.size + 1 := by rw [<- hW1]; simp
  have s0 : W0.heap.size = w.heap.size + 2 := by rw [<- hW0]; simp [s1]
  have hB1 : Qu.Blk W0 w.heap.size 24 #[.slice l.skus.A l.skus.n l.skus.c, .slice l.cats.A l.cats.n l.cats.c] := by rw [<- hW0, <- hW1]; exact (Qu.Blk.new w _ _).alloc _
  have hB2 : Qu.Blk W0 (w.heap.size + 1) 24 #[.slice none 0 0, .slice none 0 0] := by rw [<- hW0, <- s1]; exact Qu.Blk.new W1 _ _
  have hb0 : Below w.heap.size w W0 := by rw [<- hW0, <- hW1]; exact ((Below.refl _ _).alloc (Nat.le_refl _) _).alloc (by simp) _
  have hWH : Kd.Held W0 W0 (w.heap.size + 1) 24 2 := ⟨Below.refl _ _, _, hB2, rfl⟩
  have c0 : ∀ u, Kd.Held W0 u (w.heap.size + 1) 24 2 -> u.cell? ⟨w.heap.size, 0, none⟩ = some (.slice l.skus.A l.skus.n l.skus.c) := fun u hu => (hu.below.cell (p := ⟨w.heap.size, 0, none⟩) (show w.heap.size < w.heap.size + 1 by omega)).trans (hB1.cell 0)
  have c1 : ∀ u, Kd.Held W0 u (w.heap.size + 1) 24 2 -> u.cell? ⟨w.heap.size, 1, none⟩ = some (.slice l.cats.A l.cats.n l.cats.c) := fun u hu => (hu.below.cell (p := ⟨w.heap.size, 1, none⟩) (show w.heap.size < w.heap.size + 1 by omega)).trans (hB1.cell 1)
  have b0 : ∀ u, Kd.Held W0 u (w.heap.size + 1) 24 2 -> u.cell? ⟨w.heap.size + 1, 0, none⟩ = some (Kd.lies u ⟨w.heap.size + 1, 0, none⟩) := fun u hu => hu.lies (by omega)
  have b1 : ∀ u, Kd.Held W0 u (w.heap.size + 1) 24 2 -> u.cell? ⟨w.heap.size + 1, 1, none⟩ = some (Kd.lies u ⟨w.heap.size + 1, 1, none⟩) := fun u hu => hu.lies (by omega)
  have bz : ∀ u i, Kd.Held W0 u (w.heap.size + 1) 24 2 -> u.frozen? ⟨w.heap.size + 1, i, none⟩ = false := fun u i hu => hu.frozen i
  have hin : ∀ u, Kd.Held W0 u (w.heap.size + 1) 24 2 -> Below w.heap.size w u := fun u hu => hb0.trans (hu.below.mono (by omega))
  obtain ⟨q1, hq1⟩ : ∃ q1, (namesOf skuS s.skus 3 8 8).length = q1 := ⟨_, rfl⟩
  obtain ⟨q2, hq2⟩ : ∃ q2, (namesOf catS s.cats 2 3 3).length = q2 := ⟨_, rfl⟩
  have HA : Hid (∀ u, Kd.Held W0 u (w.heap.size + 1) 24 2 -> Calls Tryz.prog 104 #[.slice l.skus.A l.skus.n l.skus.c, .int .i64 3, .int .i64 8, .func (.func 105) #[] #[]] u fun e w' => ∃ A c, e = .returned (.slice A q1 c) /\ Kd.Own kStr w' u.heap.size 9 (fun _ => False) (.slice A q1 c) q1 (namesOf skuS s.skus 3 8 8) /\ Below u.heap.size u w' /\ Kd.Held W0 w' (w.heap.size + 1) 24 2) := Lib.hid fun u hu => by
    have hb := hin u hu
    have := hb.size
    exact (some_sku l.skus.A l.skus.n l.skus.c s.skus u ((h.skus.row.below hb (Nat.le_refl _)).more fun b hb2 => Nat.lt_of_lt_of_le hb2 hb.size) hn).mono fun e w' ⟨v, e1, hG⟩ => by
      obtain ⟨A, c, rfl⟩ := hG.own.value
      have hl := hG.own
      rw [<- namesOf_len skuS s.skus 3 8 8, hq1] at hl e1
      exact ⟨A, c, e1, hl, hG.below, hu.on hG.below⟩
  have HC : Hid (∀ u, Kd.Held W0 u (w.heap.size + 1) 24 2 -> Calls Tryz.prog 104 #[.slice l.cats.A l.cats.n l.cats.c, .int .i64 2, .int .i64 3, .func (.func 106) #[] #[]] u fun e w' => ∃ A c, e = .returned (.slice A q2 c) /\ Kd.Own kStr w' u.heap.size 9 (fun _ => False) (.slice A q2 c) q2 (namesOf catS s.cats 2 3 3) /\ Below u.heap.size u w' /\ Kd.Held W0 w' (w.heap.size + 1) 24 2) := Lib.hid fun u hu => by
    have hb := hin u hu
    have := hb.size
    exact (some_cat l.cats.A l.cats.n l.cats.c s.cats u ((h.cats.row.below hb (Nat.le_refl _)).more fun b hb2 => Nat.lt_of_lt_of_le hb2 hb.size) hm).mono fun e w' ⟨v, e1, hG⟩ => by
      obtain ⟨A, c, rfl⟩ := hG.own.value
      have hl := hG.own
      rw [<- namesOf_len catS s.cats 2 3 3, hq2] at hl e1
      exact ⟨A, c, e1, hl, hG.below, hu.on hG.below⟩
  have HS := Lib.hid (And.intro s1 (And.intro s0 hb0))
  clear hB1 hB2 hin h hn hm hb0 s0 hq1 hq2
  go_enter Tryz.func83, Tryz.ntmps83
  go_wp2_with fail
  clear hW1 hW0 s1
  go_region_held3 (fun u => Kd.Held W0 u (w.heap.size + 1) 24 2)
    (first
      | assumption
      | exact hWH.drew
      | exact hWH
      | exact (Kd.Held.put (by assumption) _ _).put _ _)
    (first
      | (go_at_call 104; with_reducible refine (HA.out _ ?_).mono ?_; (first | assumption | exact hWH.drew); rintro e wz ⟨A5, c5, rfl, hG5, hb5, hz⟩)
      | (go_at_call 104; with_reducible refine (HC.out _ ?_).mono ?_; (first | assumption | exact hWH.drew); rintro e wy ⟨A8, c8, rfl, hG8, hb8, hy⟩))
  obtain ⟨w9, hw9, hK, hE⟩ := scope_end2 HS.out.2.1 HS.out.2.2 hG5 hb5 hG8 hb8 hy
  have HK := Lib.hid (And.intro hK hE)
  rename_i hHeld
  rw [hw9]
  clear hK hE hy hz hb5 hb8 hG5 hG8 hHeld c0 c1 b0 b1 bz hWH HA HC HS
  clear hw9
  go_wp2_with fail
  refine bodyPost_ret (results_scope rfl _ w9 (w.heap.size + 1) _ rfl HK.out.1 rfl rfl) rfl ?_
  exact HK.out.2
end Go.Proofs.YtljmddjlnlmenaaGreat.Py

end
