/- The statements' scopes: some names out of a list, and Scope. · The statements' Scope: one that may be, near to a raw one. · The statements' names of promotions and codes: Id, Code, Codes; the document's Codes. · The statements' Tax as a function of the numbers that it draws: it may be. Nothing of the program. -/
import Derived.Deep.RegionHeld3
import Derived.Test.YtfcmhgneijipgaaGreatPk1
import Derived.Test.YtfcmhgneijipgaaGreatPk2
import Derived.Test.YtfcmhgneijipgaaGreatPk28
import Derived.Test.YtfcmhgneijipgaaGreatPk9

section
set_option maxRecDepth 100000
set_option linter.unusedVariables false
namespace Go.Proofs.YtfcmhgneijipgaaGreat.Py
open Go.ChangeShapes Go.WideShapes Go.ChangeAt Go.RowKit
open Kd (Kind Row Own Cells Fit Agree kStr row_str)
def hitB (l : List ByteArray) (N k : Nat) : Bool := (l.take 4).any fun s => modN (pickS s) N == k
def someTo (l : List ByteArray) (M N : Nat) : Nat → List Nat
  | 0 => []
  | k + 1 => if decide ((someTo l M N k).length < M) && hitB l N k then someTo l M N k ++ [k] else someTo l M N k
theorem someTo_len (l : List ByteArray) (M N : Nat) : ∀ k, (someTo l M N k).length ≤ k ∧ (someTo l M N k).length ≤ M
  | 0 => ⟨Nat.le_refl _, Nat.zero_le _⟩
  | k + 1 => by
    obtain ⟨h1, h2⟩ := someTo_len l M N k
    unfold someTo
    split
    · rename_i h
      simp only [Bool.and_eq_true, decide_eq_true_eq] at h
      simp only [List.length_append, List.length_singleton]
      omega
    · omega
theorem someTo_low (l : List ByteArray) (M N : Nat) : ∀ k, ∀ j ∈ someTo l M N k, j < k
  | 0, j, h => by cases h
  | k + 1, j, h => by
    unfold someTo at h
    split at h
    · rcases List.mem_append.1 h with h | h
      · have := someTo_low l M N k j h; omega
      · simp only [List.mem_singleton] at h; omega
    · have := someTo_low l M N k j h; omega
theorem someTo_rise (l : List ByteArray) (M N : Nat) : ∀ k, ∀ (i a b : Nat), (someTo l M N k)[i]? = some a → (someTo l M N k)[i + 1]? = some b → a < b
  | 0, i, a, b, h, _ => by simp [someTo] at h
  | k + 1, i, a, b, h, h2 => by
    unfold someTo at h h2
    split at h
    · rename_i hc
      rw [if_pos hc] at h2
      have hl := (List.getElem?_eq_some_iff.1 h2).1
      simp only [List.length_append, List.length_singleton] at hl
      rcases Nat.lt_or_ge (i + 1) (someTo l M N k).length with hi | hi
      · rw [List.getElem?_append_left (by omega)] at h h2
        exact someTo_rise l M N k i a b h h2
      · rw [List.getElem?_append_left (by omega)] at h
        rw [List.getElem?_append_right (by omega), show i + 1 - (someTo l M N k).length = 0 by omega] at h2
        simp only [List.getElem?_cons_zero, Option.some.injEq] at h2
        subst h2
        exact someTo_low l M N k a (List.mem_of_getElem? h)
    · rename_i hc
      rw [if_neg hc] at h2
      exact someTo_rise l M N k i a b h h2
theorem hitB_yes {l : List ByteArray} {N k i : Nat} {s : ByteArray} (hi : i < 4) (hs : l[i]? = some s) (h : modN (pickS s) N = k) : hitB l N k = true := by
  unfold hitB
  refine List.any_eq_true.2 ⟨s, List.mem_of_getElem? (i := i) ?_, by simp [h]⟩
  rw [List.getElem?_take_of_lt hi]; exact hs
theorem hitB_no {l : List ByteArray} {N k : Nat} (h : ∀ (i : Nat) (s : ByteArray), i < 4 → l[i]? = some s → modN (pickS s) N ≠ k) : hitB l N k = false := by
  unfold hitB
  refine List.any_eq_false.2 fun s hs => ?_
  obtain ⟨i, hi, e⟩ := List.mem_iff_getElem.1 hs
  simp only [List.length_take] at hi
  have h2 : l[i]? = some s := by
    rw [← e, List.getElem_take]
    exact List.getElem?_eq_getElem _
  have := h i s (by omega) h2
  simpa using this
theorem someTo_hit {l : List ByteArray} {M N k : Nat} (h : (someTo l M N k).length < M) (hb : hitB l N k = true) : someTo l M N (k + 1) = someTo l M N k ++ [k] := by
  show (if _ then _ else _) = _
  rw [if_pos (by simp [h, hb])]
theorem someTo_full {l : List ByteArray} {M N k : Nat} (h : ¬ (someTo l M N k).length < M) : someTo l M N (k + 1) = someTo l M N k := by
  show (if _ then _ else _) = _
  rw [if_neg (by simp [h])]
theorem someTo_miss {l : List ByteArray} {M N k : Nat} (hb : hitB l N k = false) : someTo l M N (k + 1) = someTo l M N k := by
  show (if _ then _ else _) = _
  rw [if_neg (by simp [hb])]
def namesOf (nm : Nat → ByteArray) (l : List ByteArray) (M N k : Nat) : List ByteArray := (someTo l M N k).map nm
theorem namesOf_len (nm : Nat → ByteArray) (l : List ByteArray) (M N k : Nat) : (namesOf nm l M N k).length = (someTo l M N k).length := List.length_map _
theorem sku_size (k : Nat) : (skuS k).size = 1 := chr_size _
theorem cat_size (k : Nat) : (catS k).size = 1 := chr_size _
structure Gath (w wr : World) (v : Value) (nm : Nat → ByteArray) (l : List ByteArray) (M N k : Nat) : Prop where
  own : Own kStr wr w.heap.size 9 (fun _ => False) v (someTo l M N k).length (namesOf nm l M N k)
  below : Below w.heap.size w wr
theorem Gath.keep {w wr : World} {v : Value} {nm : Nat → ByteArray} {l : List ByteArray} {M N k : Nat} (h : Gath w wr v nm l M N k) (e : someTo l M N (k + 1) = someTo l M N k) : Gath w wr v nm l M N (k + 1) :=
  ⟨by unfold namesOf; rw [e]; exact h.own, h.below⟩
set_option maxHeartbeats 2000000 in
theorem some_sku (A : Option Addr) (n c : Nat) (l : List ByteArray) (w : World) (h : Row kStr w (· < w.heap.size) A n l) (hn : n ≤ 9223372036854775807) :
    Calls Tryz.prog 150 #[.slice A n c, .int .i64 3, .int .i64 8, .func (.func 64) #[] #[]] w fun e w' => ∃ v, e = .returned v ∧ Gath w w' v skuS l 3 8 8 := by
  have hln : l.length = n := h.len
  have HR := Lib.hid (And.intro h hln)
  have HM0 : Hid (Gath w w (.slice none 0 0) skuS l 3 8 0) := Lib.hid ⟨Own.nil _ _ _ _ _, Below.refl _ _⟩
  have HPK := Lib.hid (fun s W h => pick_any s W h)
  have HMD := Lib.hid (fun a W => mod_any a 8 W (by omega) (by omega))
  have HNM := Lib.hid (fun a W => sku_any a W)
  clear h hln
  go_enter Tryz.func150, Tryz.ntmps150
  go_wp2
  go_loopw [9, 10] (fun s9 s10 wr => ∃ k : Nat, s10 = .int .i64 k ∧ k ≤ 8 ∧ Hid (Gath w wr s9 skuS l 3 8 k)) (fun _ s10 _ => 8 - (intOf s10).toNat)
  case atStart => exact ⟨0, rfl, by omega, HM0⟩
  case round =>
    clear HM0
    obtain ⟨k, rfl, hk, hM⟩ := hrel
    have k0 : (0 : Int) ≤ (k : Int) := by omega
    by_cases hlt : k < 8
    · have k1 : (k : Int) < 8 := by omega
      obtain ⟨wo, hwo⟩ : ∃ wo : World, wo = wr := ⟨_, rfl⟩
      subst hwo
      have hval := hM.out.own.value
      obtain ⟨q, hq⟩ : ∃ q, (someTo l 3 8 k).length = q := ⟨_, rfl⟩
      have hq2 := (someTo_len l 3 8 k).1
      have hown := hM.out.own
      rw [hq] at hq2 hown hval
      obtain ⟨A9, c9, hv9⟩ := hval
      subst hv9
      have HO := Lib.hid (And.intro hown hq)
      have HE0 : Hid (∀ (j : Nat) (s : ByteArray), j < 0 → l[j]? = some s → modN (pickS s) 8 ≠ k) := Lib.hid fun j s hj => by omega
      clear hown hq
      go_wp2
      go_loopw [9, 11] (fun s9 s11 wi => s9 = .slice A9 q c9 ∧ ∃ i : Nat, s11 = .int .i64 i ∧ i ≤ n ∧ i ≤ 4 ∧ wi = wo ∧ Hid (∀ (j : Nat) (s : ByteArray), j < i → l[j]? = some s → modN (pickS s) 8 ≠ k)) (fun _ s11 _ => 4 - (intOf s11).toNat)
      case atStart => exact ⟨rfl, 0, rfl, by omega, by omega, by trivial, HE0⟩
      case round =>
        clear HE0
        obtain ⟨rfl, i, rfl, hi, hi4, rfl, hE⟩ := hrel
        have i0 : (0 : Int) ≤ (i : Int) := by omega
        by_cases hin : i < n
        · have i1 : (i : Int) < (n : Int) := by omega
          by_cases hi4' : i < 4
          · have i2 : (i : Int) < 4 := by omega
            by_cases hqm : q < 3
            · have q1 : (q : Int) < 3 := by omega
              obtain ⟨s, hs⟩ := HR.out.1.get hin
              obtain ⟨g, o, rfl, hg1, hg2, hsz, a0⟩ := row_str (HR.out.1.below hM.out.below (Nat.le_refl _)) hs
              have HPx := Lib.hid (fun W => HPK.out s W hsz)
              have HMx := Lib.hid (fun W => HMD.out (pickS s) W)
              obtain ⟨t, ht⟩ : ∃ t, modN (pickS s) 8 = t := ⟨_, rfl⟩
              simp only [ht] at HMx
              have HT := Lib.hid (And.intro hs ht)
              clear hsz hs ht
              by_cases htk : t = k
              · have b1 : ((t : Int) == (k : Int)) = true := by rw [beq_iff_eq]; omega
                have HS : Hid (someTo l 3 8 (k + 1) = someTo l 3 8 k ++ [k]) := Lib.hid (someTo_hit (by rw [HO.out.2]; exact hqm) (hitB_yes hi4' HT.out.1 (HT.out.2.trans htk)))
                have hnm := fun W => HNM.out (k : Int) W
                have e1 : modN (k : Int) 8 = k := modN_num k 8 hlt (by omega)
                simp only [e1] at hnm
                have HNx := Lib.hid hnm
                clear htk hnm e1
                go_wp2_with fail
                refine (HPx.out _).mono ?_
                rintro e w1 ⟨rfl, rfl⟩
                go_wp2_with fail
                refine (HMx.out _).mono ?_
                rintro e w1 ⟨rfl, rfl⟩
                go_wp2_with fail
                refine (HNx.out _).mono ?_
                rintro e w1 ⟨rfl, hb1⟩
                have HOW : Hid (Own kStr w1 w.heap.size 9 (fun _ => False) (.slice A9 q c9) q (namesOf skuS l 3 8 k) ∧ Below w.heap.size w w1 ∧ w.heap.size ≤ w1.heap.size ∧ kStr.rep w1 (fun _ => False) (skuS k) [.string (skuS k)]) := Lib.hid (by
                  have hb := hM.out.below.trans (hb1.mono hM.out.below.size)
                  exact ⟨HO.out.1.later hb1, hb, hb.size, rfl, by rw [sku_size]; decide⟩)
                clear hb1
                go_wp2_with ((at_builtin; refine Kd.wpList_push (W := w1) (F := fun _ => False) (B := w.heap.size) (n := q) (v := .slice A9 q c9) (xs := namesOf skuS l 3 8 k) (y := skuS k) (cs := [.string (skuS k)]) Ap.str_t rfl _ _ rfl rfl rfl rfl HOW.out.1 HOW.out.2.2.2 (by omega) (by omega) HOW.out.2.2.1 (fun _ h => h.elim) ?_; intro g1 cap w' hown hgrow hfr))
                have HM2 : Hid (Gath w w' (.slice (some ⟨g1, 0, none⟩) (q + 1) cap) skuS l 3 8 (k + 1)) := Lib.hid ⟨by
                  unfold namesOf
                  have e : (someTo l 3 8 (k + 1)).length = q + 1 := by rw [HS.out, List.length_append, HO.out.2]; rfl
                  rw [e, HS.out, List.map_append]; exact hown, HOW.out.2.1.grown hgrow HOW.out.2.2.1 (fun i hi => (HOW.out.1.low i hi).1)⟩
                clear hown hgrow hfr
                go_wp2
                go_roundw
                case rel => exact ⟨k + 1, by go_num, by omega, HM2⟩
                case measure => simp [intOf]; omega
              · have b1 : ((t : Int) == (k : Int)) = false := by rw [beq_eq_false_iff_ne]; omega
                have HE2 : Hid (∀ (j : Nat) (s : ByteArray), j < i + 1 → l[j]? = some s → modN (pickS s) 8 ≠ k) := Lib.hid fun j s' hj hs' => by
                  rcases Nat.lt_or_ge j i with hji | hji
                  · exact hE.out j s' hji hs'
                  · obtain rfl : j = i := by omega
                    rw [HT.out.1] at hs'
                    injection hs' with hs'
                    subst hs'
                    rw [HT.out.2]; exact htk
                clear htk
                go_wp2_with fail
                refine (HPx.out _).mono ?_
                rintro e w1 ⟨rfl, rfl⟩
                go_wp2_with fail
                refine (HMx.out _).mono ?_
                rintro e w1 ⟨rfl, rfl⟩
                go_wp2
                go_roundw
                case rel => exact ⟨rfl, i + 1, by go_num, by omega, by omega, by trivial, HE2⟩
                case measure => simp [intOf]; omega
            · have q1 : ¬ (q : Int) < 3 := by omega
              have HM2 : Hid (Gath w _ (.slice A9 q c9) skuS l 3 8 (k + 1)) := Lib.hid (hM.out.keep (someTo_full (by rw [HO.out.2]; exact hqm)))
              clear hM
              go_wp2
              go_roundw
              case rel => exact ⟨k + 1, by go_num, by omega, HM2⟩
              case measure => simp [intOf]; omega
          · have i2 : ¬ (i : Int) < 4 := by omega
            have HM2 : Hid (Gath w _ (.slice A9 q c9) skuS l 3 8 (k + 1)) := Lib.hid (hM.out.keep (someTo_miss (hitB_no fun j s hj hs => hE.out j s (by omega) hs)))
            clear hM
            go_wp2
            go_roundw
            case rel => exact ⟨k + 1, by go_num, by omega, HM2⟩
            case measure => simp [intOf]; omega
        · have i1 : ¬ (i : Int) < (n : Int) := by omega
          have HM2 : Hid (Gath w _ (.slice A9 q c9) skuS l 3 8 (k + 1)) := Lib.hid (hM.out.keep (someTo_miss (hitB_no fun j s hj hs => hE.out j s (by
            have := (List.getElem?_eq_some_iff.1 hs).1
            have := HR.out.2
            omega) hs)))
          clear hM
          go_wp2
          go_roundw
          case rel => exact ⟨k + 1, by go_num, by omega, HM2⟩
          case measure => simp [intOf]; omega
    · obtain rfl : k = 8 := by omega
      go_wp2
      go_ret
      exact ⟨_, rfl, hM.out⟩
set_option maxHeartbeats 2000000 in
theorem some_cat (A : Option Addr) (n c : Nat) (l : List ByteArray) (w : World) (h : Row kStr w (· < w.heap.size) A n l) (hn : n ≤ 9223372036854775807) :
    Calls Tryz.prog 150 #[.slice A n c, .int .i64 2, .int .i64 3, .func (.func 20) #[] #[]] w fun e w' => ∃ v, e = .returned v ∧ Gath w w' v catS l 2 3 3 := by
  have hln : l.length = n := h.len
  have HR := Lib.hid (And.intro h hln)
  have HM0 : Hid (Gath w w (.slice none 0 0) catS l 2 3 0) := Lib.hid ⟨Own.nil _ _ _ _ _, Below.refl _ _⟩
  have HPK := Lib.hid (fun s W h => pick_any s W h)
  have HMD := Lib.hid (fun a W => mod_any a 3 W (by omega) (by omega))
  have HNM := Lib.hid (fun a W => category_any a W)
  clear h hln
  go_enter Tryz.func150, Tryz.ntmps150
  go_wp2
  go_loopw [9, 10] (fun s9 s10 wr => ∃ k : Nat, s10 = .int .i64 k ∧ k ≤ 3 ∧ Hid (Gath w wr s9 catS l 2 3 k)) (fun _ s10 _ => 3 - (intOf s10).toNat)
  case atStart => exact ⟨0, rfl, by omega, HM0⟩
  case round =>
    clear HM0
    obtain ⟨k, rfl, hk, hM⟩ := hrel
    have k0 : (0 : Int) ≤ (k : Int) := by omega
    by_cases hlt : k < 3
    · have k1 : (k : Int) < 3 := by omega
      obtain ⟨wo, hwo⟩ : ∃ wo : World, wo = wr := ⟨_, rfl⟩
      subst hwo
      have hval := hM.out.own.value
      obtain ⟨q, hq⟩ : ∃ q, (someTo l 2 3 k).length = q := ⟨_, rfl⟩
      have hq2 := (someTo_len l 2 3 k).1
      have hown := hM.out.own
      rw [hq] at hq2 hown hval
      obtain ⟨A9, c9, hv9⟩ := hval
      subst hv9
      have HO := Lib.hid (And.intro hown hq)
      have HE0 : Hid (∀ (j : Nat) (s : ByteArray), j < 0 → l[j]? = some s → modN (pickS s) 3 ≠ k) := Lib.hid fun j s hj => by omega
      clear hown hq
      go_wp2
      go_loopw [9, 11] (fun s9 s11 wi => s9 = .slice A9 q c9 ∧ ∃ i : Nat, s11 = .int .i64 i ∧ i ≤ n ∧ i ≤ 4 ∧ wi = wo ∧ Hid (∀ (j : Nat) (s : ByteArray), j < i → l[j]? = some s → modN (pickS s) 3 ≠ k)) (fun _ s11 _ => 4 - (intOf s11).toNat)
      case atStart => exact ⟨rfl, 0, rfl, by omega, by omega, by trivial, HE0⟩
      case round =>
        clear HE0
        obtain ⟨rfl, i, rfl, hi, hi4, rfl, hE⟩ := hrel
        have i0 : (0 : Int) ≤ (i : Int) := by omega
        by_cases hin : i < n
        · have i1 : (i : Int) < (n : Int) := by omega
          by_cases hi4' : i < 4
          · have i2 : (i : Int) < 4 := by omega
            by_cases hqm : q < 2
            · have q1 : (q : Int) < 2 := by omega
              obtain ⟨s, hs⟩ := HR.out.1.get hin
              obtain ⟨g, o, rfl, hg1, hg2, hsz, a0⟩ := row_str (HR.out.1.below hM.out.below (Nat.le_refl _)) hs
              have HPx := Lib.hid (fun W => HPK.out s W hsz)
              have HMx := Lib.hid (fun W => HMD.out (pickS s) W)
              obtain ⟨t, ht⟩ : ∃ t, modN (pickS s) 3 = t := ⟨_, rfl⟩
              simp only [ht] at HMx
              have HT := Lib.hid (And.intro hs ht)
              clear hsz hs ht
              by_cases htk : t = k
              · have b1 : ((t : Int) == (k : Int)) = true := by rw [beq_iff_eq]; omega
                have HS : Hid (someTo l 2 3 (k + 1) = someTo l 2 3 k ++ [k]) := Lib.hid (someTo_hit (by rw [HO.out.2]; exact hqm) (hitB_yes hi4' HT.out.1 (HT.out.2.trans htk)))
                have hnm := fun W => HNM.out (k : Int) W
                have e1 : modN (k : Int) 3 = k := modN_num k 3 hlt (by omega)
                simp only [e1] at hnm
                have HNx := Lib.hid hnm
                clear htk hnm e1
                go_wp2_with fail
                refine (HPx.out _).mono ?_
                rintro e w1 ⟨rfl, rfl⟩
                go_wp2_with fail
                refine (HMx.out _).mono ?_
                rintro e w1 ⟨rfl, rfl⟩
                go_wp2_with fail
                refine (HNx.out _).mono ?_
                rintro e w1 ⟨rfl, hb1⟩
                have HOW : Hid (Own kStr w1 w.heap.size 9 (fun _ => False) (.slice A9 q c9) q (namesOf catS l 2 3 k) ∧ Below w.heap.size w w1 ∧ w.heap.size ≤ w1.heap.size ∧ kStr.rep w1 (fun _ => False) (catS k) [.string (catS k)]) := Lib.hid (by
                  have hb := hM.out.below.trans (hb1.mono hM.out.below.size)
                  exact ⟨HO.out.1.later hb1, hb, hb.size, rfl, by rw [cat_size]; decide⟩)
                clear hb1
                go_wp2_with ((at_builtin; refine Kd.wpList_push (W := w1) (F := fun _ => False) (B := w.heap.size) (n := q) (v := .slice A9 q c9) (xs := namesOf catS l 2 3 k) (y := catS k) (cs := [.string (catS k)]) Ap.str_t rfl _ _ rfl rfl rfl rfl HOW.out.1 HOW.out.2.2.2 (by omega) (by omega) HOW.out.2.2.1 (fun _ h => h.elim) ?_; intro g1 cap w' hown hgrow hfr))
                have HM2 : Hid (Gath w w' (.slice (some ⟨g1, 0, none⟩) (q + 1) cap) catS l 2 3 (k + 1)) := Lib.hid ⟨by
                  unfold namesOf
                  have e : (someTo l 2 3 (k + 1)).length = q + 1 := by rw [HS.out, List.length_append, HO.out.2]; rfl
                  rw [e, HS.out, List.map_append]; exact hown, HOW.out.2.1.grown hgrow HOW.out.2.2.1 (fun i hi => (HOW.out.1.low i hi).1)⟩
                clear hown hgrow hfr
                go_wp2
                go_roundw
                case rel => exact ⟨k + 1, by go_num, by omega, HM2⟩
                case measure => simp [intOf]; omega
              · have b1 : ((t : Int) == (k : Int)) = false := by rw [beq_eq_false_iff_ne]; omega
                have HE2 : Hid (∀ (j : Nat) (s : ByteArray), j < i + 1 → l[j]? = some s → modN (pickS s) 3 ≠ k) := Lib.hid fun j s' hj hs' => by
                  rcases Nat.lt_or_ge j i with hji | hji
                  · exact hE.out j s' hji hs'
                  · obtain rfl : j = i := by omega
                    rw [HT.out.1] at hs'
                    injection hs' with hs'
                    subst hs'
                    rw [HT.out.2]; exact htk
                clear htk
                go_wp2_with fail
                refine (HPx.out _).mono ?_
                rintro e w1 ⟨rfl, rfl⟩
                go_wp2_with fail
                refine (HMx.out _).mono ?_
                rintro e w1 ⟨rfl, rfl⟩
                go_wp2
                go_roundw
                case rel => exact ⟨rfl, i + 1, by go_num, by omega, by omega, by trivial, HE2⟩
                case measure => simp [intOf]; omega
            · have q1 : ¬ (q : Int) < 2 := by omega
              have HM2 : Hid (Gath w _ (.slice A9 q c9) catS l 2 3 (k + 1)) := Lib.hid (hM.out.keep (someTo_full (by rw [HO.out.2]; exact hqm)))
              clear hM
              go_wp2
              go_roundw
              case rel => exact ⟨k + 1, by go_num, by omega, HM2⟩
              case measure => simp [intOf]; omega
          · have i2 : ¬ (i : Int) < 4 := by omega
            have HM2 : Hid (Gath w _ (.slice A9 q c9) catS l 2 3 (k + 1)) := Lib.hid (hM.out.keep (someTo_miss (hitB_no fun j s hj hs => hE.out j s (by omega) hs)))
            clear hM
            go_wp2
            go_roundw
            case rel => exact ⟨k + 1, by go_num, by omega, HM2⟩
            case measure => simp [intOf]; omega
        · have i1 : ¬ (i : Int) < (n : Int) := by omega
          have HM2 : Hid (Gath w _ (.slice A9 q c9) catS l 2 3 (k + 1)) := Lib.hid (hM.out.keep (someTo_miss (hitB_no fun j s hj hs => hE.out j s (by
            have := (List.getElem?_eq_some_iff.1 hs).1
            have := HR.out.2
            omega) hs)))
          clear hM
          go_wp2
          go_roundw
          case rel => exact ⟨k + 1, by go_num, by omega, HM2⟩
          case measure => simp [intOf]; omega
    · obtain rfl : k = 3 := by omega
      go_wp2
      go_ret
      exact ⟨_, rfl, hM.out⟩
end Go.Proofs.YtfcmhgneijipgaaGreat.Py

end

section
set_option maxRecDepth 100000
set_option linter.unusedVariables false
namespace Go.Proofs.YtfcmhgneijipgaaGreat.Py
open Go.ChangeShapes Go.WideShapes Go.ChangeAt Go.RowKit
open Kd (Kind Row Own Cells Fit Agree kStr row_str Lst Sl)
open Ap (Scp kScp Scp_rep)
def scopeOf (s : Scp) : Scp := ⟨namesOf skuS s.skus 3 8 8, namesOf catS s.cats 2 3 3⟩
theorem results_scope {f : Func} {p : Tmp} {T : TypeId} (hf : f.results = #[.cell p T]) (tmps : Array Value) (w : World) (g : Nat) (vs : Array Value) (hT : T = 47) (h : Qu.Blk w g 47 vs) (hv : vs.size = 2) (hp : tmps.getD p undef = .pointer (some ⟨g, 0, none⟩)) : (results f tmps).run Tryz.prog w = .ok (.agg vs) w := by
  subst hT
  exact results_cell_row hf tmps w g 47 vs (0, 0) _ hp h.here Tryz.underlying47 rfl (by rw [hv]; kernel_rfl)
end Go.Proofs.YtfcmhgneijipgaaGreat.Py

end

section
set_option maxRecDepth 100000
set_option linter.unusedVariables false
namespace Go.Proofs.YtfcmhgneijipgaaGreat.Py
open Go.ChangeShapes Go.WideShapes Go.ChangeAt Go.RowKit
open Kd (Kind Row Own Cells Fit Agree kStr row_str Lst Sl)
def two (a c : Nat) : ByteArray := By.strOf [UInt8.ofNat a, UInt8.ofNat c]
def idS (k : Nat) : ByteArray := two 112 (48 + k)
def codeS (k : Nat) : ByteArray := two 99 (48 + k)
theorem two_list (a c : Nat) : (two a c).toList = [UInt8.ofNat a, UInt8.ofNat c] := by unfold two; exact By.strOf_list _
theorem two_data (a c : Nat) : (two a c).data.toList = [UInt8.ofNat a, UInt8.ofNat c] := by rw [← ByteArray.toList_eq]; exact two_list a c
theorem two_size (a c : Nat) : (two a c).size = 2 := by unfold two; rw [By.strOf_size]; rfl
theorem id_size (k : Nat) : (idS k).size = 2 := two_size _ _
theorem code_size (k : Nat) : (codeS k).size = 2 := two_size _ _
theorem two_lt {a c d : Nat} (h : c < d) (hd : d < 256) : Sr.lt (two a c) (two a d) = true := by
  unfold Sr.lt
  rw [two_list, two_list]
  have h1 : UInt8.ofNat c < UInt8.ofNat d := by
    rw [UInt8.lt_iff_toNat_lt, By.toNat_small (by omega), By.toNat_small hd]; exact h
  simp [Op.bytesLess, h1]
theorem two_name {a c : Nat} (h : Sr.plain (a : Int) = true) (h2 : Sr.plain (c : Int) = true) (ha : a < 256) (hc : c < 256) : Sr.name (two a c) = true := by
  unfold Sr.name Sr.nameL
  rw [two_data]
  simp [By.toNat_small ha, By.toNat_small hc, h, h2]
theorem id_name {k : Nat} (h : k < 10) : Sr.name (idS k) = true := two_name (by decide) (by unfold Sr.plain; simp; omega) (by omega) (by omega)
theorem code_name {k : Nat} (h : k < 10) : Sr.name (codeS k) = true := two_name (by decide) (by unfold Sr.plain; simp; omega) (by omega) (by omega)
theorem cat_two (a c : Nat) (W : World) : (Op.stringOp .add (By.strOf [UInt8.ofNat a]) (By.strOf [UInt8.ofNat c])).run Tryz.prog W = .ok (.string (two a c)) W := by
  have h := run_string_add_sum (P := Tryz.prog) (w := W) (By.strOf [UInt8.ofNat a]) (By.strOf [UInt8.ofNat c]) (by rw [By.strOf_size, By.strOf_size]; show 1 + 1 ≤ 9223372036854775807; decide)
  exact h
theorem id_any (a : Int) (w : World) : Calls Tryz.prog 123 #[.int .i64 a] w fun e w' => e = .returned (.string (idS (modN a 10))) ∧ Below w.heap.size w w' := by
  have HM := Lib.hid (mod_any a 10 w (by omega) (by omega))
  have ht := modN_lt a 10 (by omega)
  generalize hk : modN a 10 = t at HM ht ⊢
  have hr := fun W => By.run_text (P := Tryz.prog) (c := 1) 63 9 5 Tryz.underlying63 Tryz.underlying5 Tryz.underlying9 (By.Bys.made W 5 (48 + (t : Int)) (by omega) (by omega))
  have e : (48 + (t : Int)).toNat = 48 + t := by omega
  rw [e] at hr
  have hc : ∀ W, (Op.stringOp .add ⟨#[112]⟩ (By.strOf [UInt8.ofNat (48 + t)])).run Tryz.prog W = .ok (.string (idS t)) W := fun W => cat_two 112 (48 + t) W
  obtain ⟨x, hx⟩ : ∃ x, By.strOf [UInt8.ofNat (48 + t)] = x := ⟨_, rfl⟩
  simp only [hx] at hr hc
  clear hk hx
  go_enter Tryz.func123, Tryz.ntmps123
  go_wp2_with fail
  refine HM.out.mono ?_
  rintro e w1 ⟨rfl, rfl⟩
  go_wp2
  go_ret
  exact ⟨rfl, (Below.refl _ _).alloc (Nat.le_refl _) _⟩
theorem code_any (a : Int) (w : World) : Calls Tryz.prog 125 #[.int .i64 a] w fun e w' => e = .returned (.string (codeS (modN a 3))) ∧ Below w.heap.size w w' := by
  have HM := Lib.hid (mod_any a 3 w (by omega) (by omega))
  have ht := modN_lt a 3 (by omega)
  generalize hk : modN a 3 = t at HM ht ⊢
  have hr := fun W => By.run_text (P := Tryz.prog) (c := 1) 63 9 5 Tryz.underlying63 Tryz.underlying5 Tryz.underlying9 (By.Bys.made W 5 (48 + (t : Int)) (by omega) (by omega))
  have e : (48 + (t : Int)).toNat = 48 + t := by omega
  rw [e] at hr
  have hc : ∀ W, (Op.stringOp .add ⟨#[99]⟩ (By.strOf [UInt8.ofNat (48 + t)])).run Tryz.prog W = .ok (.string (codeS t)) W := fun W => cat_two 99 (48 + t) W
  obtain ⟨x, hx⟩ : ∃ x, By.strOf [UInt8.ofNat (48 + t)] = x := ⟨_, rfl⟩
  simp only [hx] at hr hc
  clear hk hx
  go_enter Tryz.func125, Tryz.ntmps125
  go_wp2_with fail
  refine HM.out.mono ?_
  rintro e w1 ⟨rfl, rfl⟩
  go_wp2
  go_ret
  exact ⟨rfl, (Below.refl _ _).alloc (Nat.le_refl _) _⟩
end Go.Proofs.YtfcmhgneijipgaaGreat.Py

end

section
set_option maxRecDepth 100000
set_option linter.unusedVariables false
namespace Go.Proofs.YtfcmhgneijipgaaGreat.Py
open Go.ChangeShapes Go.WideShapes Go.ChangeAt Go.RowKit
open Ap (CtR Zon Txs)
open Ru (inB inB_iff rateB ratesB ratesB_yes zoneB zonB zonesB zonesB_yes taxB)
def zonS (k : Nat) : ByteArray := two 122 (48 + k)
theorem zon_name {k : Nat} (h : k < 3) : Sr.name (zonS k) = true := two_name (by decide) (by unfold Sr.plain; simp; omega) (by omega) (by omega)
theorem zon_lt {a b : Nat} (h : a < b) (hb : b < 3) : Sr.lt (zonS a) (zonS b) = true := two_lt (by omega) (by omega)
def ratesTo (l : List CtR) (n : Nat) : List CtR := (List.range n).map fun c => ⟨catS c, modN (((l[c]?).map CtR.rate).getD 0) 3000⟩
theorem ratesTo_zero (l : List CtR) : ratesTo l 0 = [] := rfl
theorem ratesTo_length (l : List CtR) (n : Nat) : (ratesTo l n).length = n := by unfold ratesTo; simp
theorem ratesTo_next {l : List CtR} {n : Nat} {x : CtR} (h : l[n]? = some x) : ratesTo l (n + 1) = ratesTo l n ++ [⟨catS n, modN x.rate 3000⟩] := by
  unfold ratesTo; rw [List.range_succ, List.map_append]; simp [h]
theorem ratesTo_get {l : List CtR} {n i : Nat} {x : CtR} (h : (ratesTo l n)[i]? = some x) : i < n ∧ x = ⟨catS i, modN (((l[i]?).map CtR.rate).getD 0) 3000⟩ := by
  unfold ratesTo at h
  rw [List.getElem?_map] at h
  cases hr : (List.range n)[i]? with
  | none => rw [hr] at h; cases h
  | some j =>
    rw [hr] at h
    obtain ⟨hi, hj⟩ := List.getElem?_eq_some_iff.1 hr
    rw [List.getElem_range] at hj
    subst hj
    injection h with h
    exact ⟨by simpa using hi, h.symm⟩
theorem mod_in (a n m : Int) (hn : 1 ≤ n) (h : n ≤ m + 1) : inB (modN a n : Int) m = true := inB_iff.2 ⟨by omega, by have := modN_lt a n hn; omega⟩
theorem ratesTo_may (l : List CtR) {n : Nat} (hn : n ≤ 3) : ratesB (ratesTo l n) = true :=
  ratesB_yes ⟨fun i x hx => by
      obtain ⟨hi, rfl⟩ := ratesTo_get hx
      unfold rateB
      rw [cat_name (by omega), mod_in _ _ _ (by omega) (by omega)]; rfl,
    fun i x y hx hy => by
      obtain ⟨hi, rfl⟩ := ratesTo_get hx
      obtain ⟨hj, rfl⟩ := ratesTo_get hy
      exact chr_lt (by omega) (by omega),
    by rw [ratesTo_length]; omega⟩
def zonAt (l : List Zon) (k : Nat) : Zon :=
  match l[k]? with
  | some z => ⟨zonS k, ratesTo z.rates (min 3 z.rates.length), modN z.rest 3000, modN z.ship 3000⟩
  | none => ⟨zonS k, [], 1000 * k, 500 * k⟩
theorem zonAt_yes {l : List Zon} {k : Nat} {z : Zon} (h : l[k]? = some z) : zonAt l k = ⟨zonS k, ratesTo z.rates (min 3 z.rates.length), modN z.rest 3000, modN z.ship 3000⟩ := by unfold zonAt; rw [h]
theorem zonAt_no {l : List Zon} {k : Nat} (h : l[k]? = none) : zonAt l k = ⟨zonS k, [], 1000 * k, 500 * k⟩ := by unfold zonAt; rw [h]
theorem zonAt_name (l : List Zon) (k : Nat) : (zonAt l k).name = zonS k := by
  cases h : l[k]? with
  | none => rw [zonAt_no h]
  | some z => rw [zonAt_yes h]
theorem zonAt_few (l : List Zon) (k : Nat) : (zonAt l k).rates.length ≤ 3 := by
  cases h : l[k]? with
  | none => rw [zonAt_no h]; simp
  | some z => rw [zonAt_yes h, ratesTo_length]; omega
theorem zonAt_may (l : List Zon) {k : Nat} (hk : k < 3) : zonB (zonAt l k) = true := by
  unfold zonB
  rw [zonAt_name, zon_name hk]
  unfold zoneB
  cases h : l[k]? with
  | none =>
    rw [zonAt_no h]
    have h1 : ratesB ([] : List CtR) = true := ratesB_yes ⟨fun i x hx => by simp at hx, fun i x y hx => by simp at hx, by simp⟩
    have h2 : inB (1000 * (k : Int)) 10000 = true := inB_iff.2 ⟨by omega, by omega⟩
    have h3 : inB (500 * (k : Int)) 10000 = true := inB_iff.2 ⟨by omega, by omega⟩
    show (true && (ratesB [] && inB (1000 * (k : Int)) 10000 && inB (500 * (k : Int)) 10000)) = true
    rw [h1, h2, h3]; rfl
  | some z =>
    rw [zonAt_yes h]
    show (true && (ratesB (ratesTo z.rates (min 3 z.rates.length)) && inB (modN z.rest 3000 : Int) 10000 && inB (modN z.ship 3000 : Int) 10000)) = true
    rw [ratesTo_may _ (by omega), mod_in _ _ _ (by omega) (by omega), mod_in _ _ _ (by omega) (by omega)]; rfl
def zonesTo (l : List Zon) (k : Nat) : List Zon := (List.range k).map (zonAt l)
theorem zonesTo_zero (l : List Zon) : zonesTo l 0 = [] := rfl
theorem zonesTo_length (l : List Zon) (k : Nat) : (zonesTo l k).length = k := by unfold zonesTo; simp
theorem zonesTo_next (l : List Zon) (k : Nat) : zonesTo l (k + 1) = zonesTo l k ++ [zonAt l k] := by unfold zonesTo; rw [List.range_succ, List.map_append]; rfl
theorem zonesTo_get {l : List Zon} {n i : Nat} {x : Zon} (h : (zonesTo l n)[i]? = some x) : i < n ∧ x = zonAt l i := by
  unfold zonesTo at h
  rw [List.getElem?_map] at h
  cases hr : (List.range n)[i]? with
  | none => rw [hr] at h; cases h
  | some j =>
    rw [hr] at h
    obtain ⟨hi, hj⟩ := List.getElem?_eq_some_iff.1 hr
    rw [List.getElem_range] at hj
    subst hj
    injection h with h
    exact ⟨by simpa using hi, h.symm⟩
def taxOf (t : Txs) : Txs := ⟨t.incl, t.byOrder, modN t.round 3, zonesTo t.zones 3⟩
theorem taxOf_may (t : Txs) : taxB (taxOf t) = true := by
  have h1 : zonesB (zonesTo t.zones 3) = true := zonesB_yes ⟨fun i x hx => by
      obtain ⟨hi, rfl⟩ := zonesTo_get hx
      exact zonAt_may _ hi,
    fun i x y hx hy => by
      obtain ⟨hi, rfl⟩ := zonesTo_get hx
      obtain ⟨hj, rfl⟩ := zonesTo_get hy
      rw [zonAt_name, zonAt_name]
      exact zon_lt (by omega) hj,
    by rw [zonesTo_length]; omega⟩
  have h2 := modN_lt t.round 3 (by omega)
  show (zonesB (zonesTo t.zones 3) && (decide (0 ≤ (modN t.round 3 : Int)) && decide ((modN t.round 3 : Int) ≤ 2))) = true
  rw [h1, decide_eq_true (by omega), decide_eq_true (by omega)]; rfl
theorem taxOf_few (t : Txs) (k : Nat) (z : Zon) (h : (taxOf t).zones[k]? = some z) : z.rates.length ≤ 3 := by
  obtain ⟨_, rfl⟩ := zonesTo_get (l := t.zones) (n := 3) h
  exact zonAt_few _ _
end Go.Proofs.YtfcmhgneijipgaaGreat.Py

end
