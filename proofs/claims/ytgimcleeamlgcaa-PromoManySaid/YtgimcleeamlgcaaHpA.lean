/- The statements' helpers on lists of texts, of numbers, of lists of numbers: Same, Plain, Lists. -/
import Derived.Test.YtgimcleeamlgcaaKa
import Derived.Deep.RegionHeld3
import Derived.Laws.StructEq
set_option maxRecDepth 100000

set_option linter.unusedVariables false
namespace Go.Proofs.Ytgimcleeamlgcaa.Hp
open Go.ChangeShapes Go.WideShapes Go.ChangeAt Go.RowKit
open Kd (Kind Row Own Cells Fit Agree Lst Sl kInt kStr kFlag kList Filling Owned eqL eqL_len eqL_no eqL_yes eqL_refl eqL_iff Two rows_get row_str row_int row_list)

/-- What lies in F stays, where nothing that there was has turned. -/
theorem ag_of {F : Nat → Prop} {w wr W : World} (hF : ∀ b, F b → b < w.heap.size) (h : Below w.heap.size w wr) (hW : Below wr.heap.size wr W) : Agree F wr W := fun b hb => hW.block b (Nat.lt_of_lt_of_le (hF b hb) h.size)

theorem one_str (x y : ByteArray) (w : World) : Calls Try.prog 75 #[.string x, .string y] w fun e w' => e = .returned (.bool (Sr.same x y)) ∧ w' = w := by
  go_enter Try.func75, Try.ntmps75
  go_wp2
  go_ret
  exact ⟨rfl, rfl⟩

set_option maxHeartbeats 1000000 in
theorem same_str (A C : Option Addr) (n m ca cc : Nat) (xs ys : List ByteArray) (F : Nat → Prop) (w : World) (ha : Row kStr w F A n xs) (hc : Row kStr w F C m ys) (hF : ∀ b, F b → b < w.heap.size) (hn : n ≤ 1000000000000) :
    Calls Try.prog 74 #[.slice A n ca, .slice C m cc, .func (.func 75) #[] #[]] w fun e w' => e = .returned (.bool (eqL Sr.same xs ys)) ∧ Below w.heap.size w w' := by
  have hl := ha.len
  have hl2 := hc.len
  have HL := Lib.hid (And.intro hl hl2)
  have HF := Lib.hid hF
  by_cases hnm : n = m
  · subst hnm
    have b0 : ((n : Int) != (n : Int)) = false := by simp
    have HT0 := Lib.hid (Two.mk ha hc (Below.refl w.heap.size w))
    clear ha hc hl hl2 hF
    go_enter Try.func74, Try.ntmps74
    go_wp2
    go_loopw [7] (fun s wr => ∃ k : Nat, s = .int .i64 k ∧ k ≤ n ∧ Hid (Two kStr w wr F A C n n xs ys) ∧ Hid (∀ (j : Nat) (x y : ByteArray), j < k → xs[j]? = some x → ys[j]? = some y → Sr.same x y = true)) (fun s _ => n - (intOf s).toNat)
    case atStart => exact ⟨0, rfl, by omega, HT0, Lib.hid fun j x y hj => by omega⟩
    case round =>
      clear HT0
      obtain ⟨k, rfl, hk, HT, HE⟩ := hrel
      by_cases hlt : k < n
      · obtain ⟨x, y, hx, hy⟩ := rows_get HT.out.a HT.out.c hlt
        obtain ⟨g, o, rfl, hg1, hg2, _, a0⟩ := row_str HT.out.a hx
        obtain ⟨g', o', rfl, hg3, hg4, _, d0⟩ := row_str HT.out.c hy
        have k0 : (0 : Int) ≤ (k : Int) := by omega
        have k1 : (k : Int) < (n : Int) := by omega
        have HXY := Lib.hid (And.intro hx hy)
        have HO : Hid (∀ W, Below wr.heap.size wr W → Calls Try.prog 75 #[.string x, .string y] W fun e w' => e = .returned (.bool (Sr.same x y)) ∧ Below wr.heap.size wr w') := Lib.hid fun W hW => (one_str x y W).mono fun e w' h => ⟨h.1, h.2 ▸ hW⟩
        have c0 : ∀ u, Below wr.heap.size wr u → u.cell? ⟨g, o + k, none⟩ = some (.string x) := fun u hu => (hu.cell (p := ⟨g, _, none⟩) hg2).trans a0
        have e0 : ∀ u, Below wr.heap.size wr u → u.cell? ⟨g', o' + k, none⟩ = some (.string y) := fun u hu => (hu.cell (p := ⟨g', _, none⟩) hg4).trans d0
        clear a0 d0 hx hy hg1 hg2 hg3 hg4 
        cases hB : Sr.same x y with
        | true =>
          rw [hB] at HO
          have HB := Lib.hid hB
          clear hB
          go_wp2_with fail
          go_region_held3 (fun u => Below wr.heap.size wr u)
            (first
              | assumption
              | exact (Below.refl _ _).drew
              | exact Below.refl _ _)
            (first
              | (go_at_call 75; refine (HO.out _ (by first | assumption | exact (Below.refl _ _).drew)).mono ?_; rintro e wz ⟨rfl, hz⟩))
          have HT2 := Lib.hid (HT.out.on HF.out hz)
          clear hz
          go_wp2
          go_roundw
          case rel => exact ⟨k + 1, by go_num, by omega, HT2, Lib.hid fun j x' y' hj hx' hy' => by
            rcases Nat.lt_or_ge j k with h | h
            · exact HE.out j x' y' h hx' hy'
            · obtain rfl : j = k := by omega
              rw [HXY.out.1] at hx'
              rw [HXY.out.2] at hy'
              injection hx' with hx'
              injection hy' with hy'
              subst hx' hy'
              exact HB.out⟩
          case measure => simp [intOf]; omega
        | false =>
          rw [hB] at HO
          have HG := Lib.hid (eqL_no HXY.out.1 HXY.out.2 hB)
          clear hB
          go_wp2_with fail
          go_region_held3 (fun u => Below wr.heap.size wr u)
            (first
              | assumption
              | exact (Below.refl _ _).drew
              | exact Below.refl _ _)
            (first
              | (go_at_call 75; refine (HO.out _ (by first | assumption | exact (Below.refl _ _).drew)).mono ?_; rintro e wz ⟨rfl, hz⟩))
          have HT2 := Lib.hid (HT.out.on HF.out hz)
          clear hz
          go_wp2
          go_ret
          exact ⟨by rw [HG.out]; rfl, HT2.out.below⟩
      · have k1 : ¬ (k : Int) < (n : Int) := by omega
        have HG := Lib.hid (eqL_yes (eq := Sr.same) (HL.out.1.trans HL.out.2.symm) fun j x y hx hy => HE.out j x y (by
          have := (List.getElem?_eq_some_iff.1 hx).1
          rw [HL.out.1] at this
          omega) hx hy)
        go_wp2
        go_ret
        exact ⟨by rw [HG.out]; rfl, HT.out.below⟩
  · have b0 : ((n : Int) != (m : Int)) = true := by rw [bne_iff_ne]; omega
    have HG := Lib.hid (eqL_len (eq := Sr.same) (xs := xs) (ys := ys) (by omega))
    clear ha hc hl hl2 hnm hF
    go_enter Try.func74, Try.ntmps74
    go_wp2
    go_ret
    exact ⟨by rw [HG.out]; rfl, Below.refl _ _⟩

theorem plain_str (A C : Option Addr) (n m ca cc : Nat) (xs ys : List ByteArray) (F : Nat → Prop) (w : World) (ha : Row kStr w F A n xs) (hc : Row kStr w F C m ys) (hF : ∀ b, F b → b < w.heap.size) (hn : n ≤ 1000000000000) :
    Calls Try.prog 57 #[.slice A n ca, .slice C m cc] w fun e w' => e = .returned (.bool (eqL Sr.same xs ys)) ∧ Below w.heap.size w w' := by
  have HS := Lib.hid (same_str A C n m ca cc xs ys F w ha hc hF hn)
  clear ha hc hF
  go_enter Try.func57, Try.ntmps57
  go_wp2_with fail
  refine HS.out.mono ?_
  rintro e w1 ⟨rfl, hb⟩
  have HB := Lib.hid hb
  clear hb
  go_wp2
  go_ret
  exact ⟨rfl, HB.out⟩

def eqI (x y : Int) : Bool := x == y

theorem eqI_iff {x y : Int} : eqI x y = true ↔ x = y := by unfold eqI; exact beq_iff_eq

theorem one_int (x y : Int) (w : World) : Calls Try.prog 56 #[.int .i64 x, .int .i64 y] w fun e w' => e = .returned (.bool (eqI x y)) ∧ w' = w := by
  go_enter Try.func56, Try.ntmps56
  go_wp2
  go_ret
  exact ⟨rfl, rfl⟩

set_option maxHeartbeats 1000000 in
theorem same_int (A C : Option Addr) (n m ca cc : Nat) (xs ys : List Int) (F : Nat → Prop) (w : World) (ha : Row kInt w F A n xs) (hc : Row kInt w F C m ys) (hF : ∀ b, F b → b < w.heap.size) (hn : n ≤ 1000000000000) :
    Calls Try.prog 55 #[.slice A n ca, .slice C m cc, .func (.func 56) #[] #[]] w fun e w' => e = .returned (.bool (eqL eqI xs ys)) ∧ Below w.heap.size w w' := by
  have hl := ha.len
  have hl2 := hc.len
  have HL := Lib.hid (And.intro hl hl2)
  have HF := Lib.hid hF
  by_cases hnm : n = m
  · subst hnm
    have b0 : ((n : Int) != (n : Int)) = false := by simp
    have HT0 := Lib.hid (Two.mk ha hc (Below.refl w.heap.size w))
    clear ha hc hl hl2 hF
    go_enter Try.func55, Try.ntmps55
    go_wp2
    go_loopw [7] (fun s wr => ∃ k : Nat, s = .int .i64 k ∧ k ≤ n ∧ Hid (Two kInt w wr F A C n n xs ys) ∧ Hid (∀ (j : Nat) (x y : Int), j < k → xs[j]? = some x → ys[j]? = some y → eqI x y = true)) (fun s _ => n - (intOf s).toNat)
    case atStart => exact ⟨0, rfl, by omega, HT0, Lib.hid fun j x y hj => by omega⟩
    case round =>
      clear HT0
      obtain ⟨k, rfl, hk, HT, HE⟩ := hrel
      by_cases hlt : k < n
      · obtain ⟨x, y, hx, hy⟩ := rows_get HT.out.a HT.out.c hlt
        obtain ⟨g, o, rfl, hg1, hg2, _, a0⟩ := row_int HT.out.a hx
        obtain ⟨g', o', rfl, hg3, hg4, _, d0⟩ := row_int HT.out.c hy
        have k0 : (0 : Int) ≤ (k : Int) := by omega
        have k1 : (k : Int) < (n : Int) := by omega
        have HXY := Lib.hid (And.intro hx hy)
        have HO : Hid (∀ W, Below wr.heap.size wr W → Calls Try.prog 56 #[.int .i64 x, .int .i64 y] W fun e w' => e = .returned (.bool (eqI x y)) ∧ Below wr.heap.size wr w') := Lib.hid fun W hW => (one_int x y W).mono fun e w' h => ⟨h.1, h.2 ▸ hW⟩
        have c0 : ∀ u, Below wr.heap.size wr u → u.cell? ⟨g, o + k, none⟩ = some (.int .i64 x) := fun u hu => (hu.cell (p := ⟨g, _, none⟩) hg2).trans a0
        have e0 : ∀ u, Below wr.heap.size wr u → u.cell? ⟨g', o' + k, none⟩ = some (.int .i64 y) := fun u hu => (hu.cell (p := ⟨g', _, none⟩) hg4).trans d0
        clear a0 d0 hx hy hg1 hg2 hg3 hg4 
        cases hB : eqI x y with
        | true =>
          rw [hB] at HO
          have HB := Lib.hid hB
          clear hB
          go_wp2_with fail
          go_region_held3 (fun u => Below wr.heap.size wr u)
            (first
              | assumption
              | exact (Below.refl _ _).drew
              | exact Below.refl _ _)
            (first
              | (go_at_call 56; refine (HO.out _ (by first | assumption | exact (Below.refl _ _).drew)).mono ?_; rintro e wz ⟨rfl, hz⟩))
          have HT2 := Lib.hid (HT.out.on HF.out hz)
          clear hz
          go_wp2
          go_roundw
          case rel => exact ⟨k + 1, by go_num, by omega, HT2, Lib.hid fun j x' y' hj hx' hy' => by
            rcases Nat.lt_or_ge j k with h | h
            · exact HE.out j x' y' h hx' hy'
            · obtain rfl : j = k := by omega
              rw [HXY.out.1] at hx'
              rw [HXY.out.2] at hy'
              injection hx' with hx'
              injection hy' with hy'
              subst hx' hy'
              exact HB.out⟩
          case measure => simp [intOf]; omega
        | false =>
          rw [hB] at HO
          have HG := Lib.hid (eqL_no HXY.out.1 HXY.out.2 hB)
          clear hB
          go_wp2_with fail
          go_region_held3 (fun u => Below wr.heap.size wr u)
            (first
              | assumption
              | exact (Below.refl _ _).drew
              | exact Below.refl _ _)
            (first
              | (go_at_call 56; refine (HO.out _ (by first | assumption | exact (Below.refl _ _).drew)).mono ?_; rintro e wz ⟨rfl, hz⟩))
          have HT2 := Lib.hid (HT.out.on HF.out hz)
          clear hz
          go_wp2
          go_ret
          exact ⟨by rw [HG.out]; rfl, HT2.out.below⟩
      · have k1 : ¬ (k : Int) < (n : Int) := by omega
        have HG := Lib.hid (eqL_yes (eq := eqI) (HL.out.1.trans HL.out.2.symm) fun j x y hx hy => HE.out j x y (by
          have := (List.getElem?_eq_some_iff.1 hx).1
          rw [HL.out.1] at this
          omega) hx hy)
        go_wp2
        go_ret
        exact ⟨by rw [HG.out]; rfl, HT.out.below⟩
  · have b0 : ((n : Int) != (m : Int)) = true := by rw [bne_iff_ne]; omega
    have HG := Lib.hid (eqL_len (eq := eqI) (xs := xs) (ys := ys) (by omega))
    clear ha hc hl hl2 hnm hF
    go_enter Try.func55, Try.ntmps55
    go_wp2
    go_ret
    exact ⟨by rw [HG.out]; rfl, Below.refl _ _⟩

theorem plain_int (A C : Option Addr) (n m ca cc : Nat) (xs ys : List Int) (F : Nat → Prop) (w : World) (ha : Row kInt w F A n xs) (hc : Row kInt w F C m ys) (hF : ∀ b, F b → b < w.heap.size) (hn : n ≤ 1000000000000) :
    Calls Try.prog 23 #[.slice A n ca, .slice C m cc] w fun e w' => e = .returned (.bool (eqL eqI xs ys)) ∧ Below w.heap.size w w' := by
  have HS := Lib.hid (same_int A C n m ca cc xs ys F w ha hc hF hn)
  clear ha hc hF
  go_enter Try.func23, Try.ntmps23
  go_wp2_with fail
  refine HS.out.mono ?_
  rintro e w1 ⟨rfl, hb⟩
  have HB := Lib.hid hb
  clear hb
  go_wp2
  go_ret
  exact ⟨rfl, HB.out⟩

end Go.Proofs.Ytgimcleeamlgcaa.Hp
