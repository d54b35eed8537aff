/- Contracts of package money's divide, Times, Rate, Mul, Add, Sub. -/
import Derived.Test.YtmnbamfemcgloaaMnA
import Derived.Laws.EntriesVeiled
import Derived.StillTactics
import Derived.Deep.RegionHeld3
namespace Go.Proofs.Ytmnbamfemcgloaa.Mn
set_option linter.unusedVariables false
open Go.ChangeShapes Go.WideShapes Go.ChangeAt Go.RowKit

def MulGives (x y hi lo : Int) : Prop := ∀ w : World, Calls Try.prog 46 #[.int .u64 x, .int .u64 y] w fun e w' => e = .returned (.tuple #[.int .u64 hi, .int .u64 lo]) ∧ w = w'
def DivGives (hi lo d q r : Int) : Prop := ∀ w : World, Calls Try.prog 47 #[.int .u64 hi, .int .u64 lo, .int .u64 d] w fun e w' => e = .returned (.tuple #[.int .u64 q, .int .u64 r]) ∧ Below w.heap.size w w'

theorem divide_ok (x y d hi lo q r : Int) (w : World) (h0 : 0 ≤ x) (h1 : x ≤ 100000000000000) (g0 : 0 ≤ y) (g1 : y ≤ 100000000000000) (d0 : 1 ≤ d) (d1 : d ≤ 100000000000000)
    (hM : MulGives x y hi lo) (hD : DivGives hi lo d q r) (k1 : hi < d) (q0 : 0 ≤ q) (q1 : q ≤ 100000000000000) (r0 : 0 ≤ r) (r1 : r < d) :
    Calls Try.prog 44 #[.int .i64 x, .int .i64 y, .int .i64 d] w fun e w' => e = .returned (.tuple #[.agg #[.int .i64 q, .int .i64 r, .int .i64 d], .bool true]) ∧ Below w.heap.size w w' := by
  go_enter Try.func44, Try.ntmps44
  go_wp2_with fail
  refine (hM _).mono ?_
  rintro e w' ⟨rfl, rfl⟩
  go_wp2_with fail
  refine (hD _).mono ?_
  rintro e w' ⟨rfl, hb⟩
  have hz := hb.size
  have hc : ∀ o, w'.cell? ⟨w.heap.size, o, none⟩ = (w.alloc (.cells #[.int .i64 0, .int .i64 0, .int .i64 0] 66)).cell? ⟨w.heap.size, o, none⟩ := fun o => hb.cell (p := ⟨w.heap.size, o, none⟩) (by simp)
  have hf : ∀ o, w'.frozen? ⟨w.heap.size, o, none⟩ = (w.alloc (.cells #[.int .i64 0, .int .i64 0, .int .i64 0] 66)).frozen? ⟨w.heap.size, o, none⟩ := fun o => hb.frozen (p := ⟨w.heap.size, o, none⟩) (by simp)
  go_wp2
  exact bodyPost_ret (v := .tuple #[.agg #[.int .i64 q, .int .i64 r, .int .i64 d], .bool true]) (by simp [results, Try.results44, go_sem, hc]) rfl
    ⟨rfl, ((((((Below.refl _ _).alloc (Nat.le_refl _) _).trans (hb.mono (by simp))).setCell (Nat.le_refl _) _).setCell (Nat.le_refl _) _).setCell (Nat.le_refl _) _)⟩

/-- What is too great for 64 bits, or by Div64 above the greatest amount: false. -/
theorem divide_high (x y d hi lo : Int) (w : World) (h0 : 0 ≤ x) (h1 : x ≤ 100000000000000) (g0 : 0 ≤ y) (g1 : y ≤ 100000000000000) (d0 : 1 ≤ d) (d1 : d ≤ 100000000000000)
    (hM : MulGives x y hi lo) (k1 : d ≤ hi) :
    Calls Try.prog 44 #[.int .i64 x, .int .i64 y, .int .i64 d] w fun e w' => e = .returned (.tuple #[.agg #[.int .i64 0, .int .i64 0, .int .i64 0], .bool false]) ∧ Below w.heap.size w w' := by
  go_enter Try.func44, Try.ntmps44
  go_wp2_with fail
  refine (hM _).mono ?_
  rintro e w' ⟨rfl, rfl⟩
  go_wp2
  exact bodyPost_ret (v := .tuple #[.agg #[.int .i64 0, .int .i64 0, .int .i64 0], .bool false]) (by simp [results, Try.results44, go_sem]) rfl
    ⟨rfl, (Below.refl _ _).alloc (Nat.le_refl _) _⟩

theorem divide_over (x y d hi lo q r : Int) (w : World) (h0 : 0 ≤ x) (h1 : x ≤ 100000000000000) (g0 : 0 ≤ y) (g1 : y ≤ 100000000000000) (d0 : 1 ≤ d) (d1 : d ≤ 100000000000000)
    (hM : MulGives x y hi lo) (hD : DivGives hi lo d q r) (k1 : hi < d) (q1 : 100000000000000 < q) :
    Calls Try.prog 44 #[.int .i64 x, .int .i64 y, .int .i64 d] w fun e w' => e = .returned (.tuple #[.agg #[.int .i64 0, .int .i64 0, .int .i64 0], .bool false]) ∧ Below w.heap.size w w' := by
  go_enter Try.func44, Try.ntmps44
  go_wp2_with fail
  refine (hM _).mono ?_
  rintro e w' ⟨rfl, rfl⟩
  go_wp2_with fail
  refine (hD _).mono ?_
  rintro e w' ⟨rfl, hb⟩
  have hz := hb.size
  have hc : ∀ o, w'.cell? ⟨w.heap.size, o, none⟩ = (w.alloc (.cells #[.int .i64 0, .int .i64 0, .int .i64 0] 66)).cell? ⟨w.heap.size, o, none⟩ := fun o => hb.cell (p := ⟨w.heap.size, o, none⟩) (by simp)
  have hf : ∀ o, w'.frozen? ⟨w.heap.size, o, none⟩ = (w.alloc (.cells #[.int .i64 0, .int .i64 0, .int .i64 0] 66)).frozen? ⟨w.heap.size, o, none⟩ := fun o => hb.frozen (p := ⟨w.heap.size, o, none⟩) (by simp)
  go_wp2
  exact bodyPost_ret (v := .tuple #[.agg #[.int .i64 0, .int .i64 0, .int .i64 0], .bool false]) (by simp [results, Try.results44, go_sem, hc]) rfl
    ⟨rfl, ((((((Below.refl _ _).alloc (Nat.le_refl _) _).trans (hb.mono (by simp))).setCell (Nat.le_refl _) _).setCell (Nat.le_refl _) _).setCell (Nat.le_refl _) _)⟩

/-! Of what may not be asked. -/
theorem times_x (x y d way : Int) (w : World) (h : x < 0 ∨ 100000000000000 < x) :
    Calls Try.prog 31 #[.int .i64 x, .int .i64 y, .int .i64 d, .int .i64 way] w fun e w' => e = .returned (.tuple #[.int .i64 0, .int .i64 2]) ∧ Below w.heap.size w w' := by
  go_enter Try.func31, Try.ntmps31
  go_wp2_with fail
  refine (right_no _ _ h).mono ?_
  rintro e w' ⟨rfl, rfl⟩
  go_wp2_with fail
  go_ret2
  exact ⟨rfl, ((Below.refl _ _).alloc (Nat.le_refl _) _)⟩

theorem times_way0 (q r d : Int) (e5 v : Int) (x y : Int) (w : World) (h0 : 0 ≤ x) (h1 : x ≤ 100000000000000) (g0 : 0 ≤ y) (g1 : y ≤ 100000000000000) (d0 : 1 ≤ d) (d1 : d ≤ 100000000000000)
    (HV : Hid (∀ w, Calls Try.prog 44 #[.int .i64 x, .int .i64 y, .int .i64 d] w fun e w' => e = .returned (.tuple #[.agg #[.int .i64 q, .int .i64 r, .int .i64 d], .bool true]) ∧ Below w.heap.size w w'))
    (HW : Hid (∀ w, Calls Try.prog 41 #[.agg #[.int .i64 q, .int .i64 r, .int .i64 d]] w fun e w' => e = .returned (.int .i64 (rnd 0 q r d)) ∧ Below w.heap.size w w'))
    (HR : Hid (∀ w, Calls Try.prog 45 #[.int .i64 (rnd 0 q r d)] w fun e w' => e = .returned (.tuple #[.int .i64 v, .int .i64 e5]) ∧ w = w')) :
    Calls Try.prog 31 #[.int .i64 x, .int .i64 y, .int .i64 d, .int .i64 0] w fun e w' => e = .returned (.tuple #[.int .i64 v, .int .i64 e5]) ∧ Below w.heap.size w w' := by
  go_enter Try.func31, Try.ntmps31
  go_wp2_with fail
  refine (right_yes _ _ h0 h1).mono ?_
  rintro e w' ⟨rfl, rfl⟩
  go_wp2_with fail
  refine (right_yes _ _ g0 g1).mono ?_
  rintro e w' ⟨rfl, rfl⟩
  go_wp2_with fail
  refine (HV.out _).mono ?_
  rintro e w' ⟨rfl, hb⟩
  have hz := hb.size
  have hz0 : w.heap.size + 1 ≤ w'.heap.size := by simpa using hz
  have hc : ∀ o, w'.cell? ⟨w.heap.size, o, none⟩ = (w.alloc (.cells #[.func (.func 41) #[] #[], .func (.func 42) #[] #[], .func (.func 43) #[] #[]] 67)).cell? ⟨w.heap.size, o, none⟩ := fun o => hb.cell (p := ⟨w.heap.size, o, none⟩) (by simp)
  have hA : (w'.alloc (.cells #[.int .i64 q, .int .i64 r, .int .i64 d] 66)).cell? ⟨w.heap.size, 0, none⟩ = some (.func (.func 41) #[] #[]) := by
    rw [World.cell?_alloc_old _ _ _ (by simp; omega), hc]
    simp [go_sem]
  have hB : ∀ o, (w'.alloc (.cells #[.int .i64 q, .int .i64 r, .int .i64 d] 66)).cell? ⟨w'.heap.size, o, none⟩ = #[Value.int .i64 q, .int .i64 r, .int .i64 d][o]? := fun o => by simp [go_sem]
  have hb1 : Below w.heap.size w (w'.alloc (.cells #[.int .i64 q, .int .i64 r, .int .i64 d] 66)) := (((Below.refl _ _).alloc (Nat.le_refl _) _).trans (hb.mono (by simp))).alloc (by omega) _
  have hB0 := hB 0
  have hB1 := hB 1
  have hB2 := hB 2
  clear hB hc
  go_wp2_with fail
  have hW : w'.heap.size + 1 = (w'.alloc (.cells #[.int .i64 q, .int .i64 r, .int .i64 d] 66)).heap.size := by simp
  generalize (w'.alloc (.cells #[.int .i64 q, .int .i64 r, .int .i64 d] 66)) = W at *
  have hW1 : w'.heap.size < W.heap.size := by omega
  have hW0 : w.heap.size < W.heap.size := by omega
  generalize w'.heap.size = B at *
  clear hW hz hz0 hb
  go_region_held3 (fun u => u.cell? ⟨w.heap.size, 0, none⟩ = some (.func (.func 41) #[] #[]) ∧ u.cell? ⟨B, 0, none⟩ = some (.int .i64 q) ∧ u.cell? ⟨B, 1, none⟩ = some (.int .i64 r) ∧ u.cell? ⟨B, 2, none⟩ = some (.int .i64 d))
    (first
      | go_keep
      | (go_split_ands
         refine ⟨?_, ?_, ?_, ?_⟩ <;> (rw [hb3.cell (by simp; omega)]; assumption)))
    (first
      | (go_at_call 41; refine (HW.out _).mono ?_; rintro e w3 ⟨rfl, hb3⟩)
      | (go_at_call 45; refine (HR.out _).mono ?_; rintro e w4 ⟨rfl, rfl⟩))
  go_wp2
  go_ret2
  exact ⟨rfl, hb1.drew.trans (hb3.mono hb1.size)⟩

theorem times_way1 (q r d : Int) (e5 v : Int) (x y : Int) (w : World) (h0 : 0 ≤ x) (h1 : x ≤ 100000000000000) (g0 : 0 ≤ y) (g1 : y ≤ 100000000000000) (d0 : 1 ≤ d) (d1 : d ≤ 100000000000000)
    (HV : Hid (∀ w, Calls Try.prog 44 #[.int .i64 x, .int .i64 y, .int .i64 d] w fun e w' => e = .returned (.tuple #[.agg #[.int .i64 q, .int .i64 r, .int .i64 d], .bool true]) ∧ Below w.heap.size w w'))
    (HW : Hid (∀ w, Calls Try.prog 42 #[.agg #[.int .i64 q, .int .i64 r, .int .i64 d]] w fun e w' => e = .returned (.int .i64 (rnd 1 q r d)) ∧ Below w.heap.size w w'))
    (HR : Hid (∀ w, Calls Try.prog 45 #[.int .i64 (rnd 1 q r d)] w fun e w' => e = .returned (.tuple #[.int .i64 v, .int .i64 e5]) ∧ w = w')) :
    Calls Try.prog 31 #[.int .i64 x, .int .i64 y, .int .i64 d, .int .i64 1] w fun e w' => e = .returned (.tuple #[.int .i64 v, .int .i64 e5]) ∧ Below w.heap.size w w' := by
  go_enter Try.func31, Try.ntmps31
  go_wp2_with fail
  refine (right_yes _ _ h0 h1).mono ?_
  rintro e w' ⟨rfl, rfl⟩
  go_wp2_with fail
  refine (right_yes _ _ g0 g1).mono ?_
  rintro e w' ⟨rfl, rfl⟩
  go_wp2_with fail
  refine (HV.out _).mono ?_
  rintro e w' ⟨rfl, hb⟩
  have hz := hb.size
  have hz0 : w.heap.size + 1 ≤ w'.heap.size := by simpa using hz
  have hc : ∀ o, w'.cell? ⟨w.heap.size, o, none⟩ = (w.alloc (.cells #[.func (.func 41) #[] #[], .func (.func 42) #[] #[], .func (.func 43) #[] #[]] 67)).cell? ⟨w.heap.size, o, none⟩ := fun o => hb.cell (p := ⟨w.heap.size, o, none⟩) (by simp)
  have hA : (w'.alloc (.cells #[.int .i64 q, .int .i64 r, .int .i64 d] 66)).cell? ⟨w.heap.size, 1, none⟩ = some (.func (.func 42) #[] #[]) := by
    rw [World.cell?_alloc_old _ _ _ (by simp; omega), hc]
    simp [go_sem]
  have hB : ∀ o, (w'.alloc (.cells #[.int .i64 q, .int .i64 r, .int .i64 d] 66)).cell? ⟨w'.heap.size, o, none⟩ = #[Value.int .i64 q, .int .i64 r, .int .i64 d][o]? := fun o => by simp [go_sem]
  have hb1 : Below w.heap.size w (w'.alloc (.cells #[.int .i64 q, .int .i64 r, .int .i64 d] 66)) := (((Below.refl _ _).alloc (Nat.le_refl _) _).trans (hb.mono (by simp))).alloc (by omega) _
  have hB0 := hB 0
  have hB1 := hB 1
  have hB2 := hB 2
  clear hB hc
  go_wp2_with fail
  have hW : w'.heap.size + 1 = (w'.alloc (.cells #[.int .i64 q, .int .i64 r, .int .i64 d] 66)).heap.size := by simp
  generalize (w'.alloc (.cells #[.int .i64 q, .int .i64 r, .int .i64 d] 66)) = W at *
  have hW1 : w'.heap.size < W.heap.size := by omega
  have hW0 : w.heap.size < W.heap.size := by omega
  generalize w'.heap.size = B at *
  clear hW hz hz0 hb
  go_region_held3 (fun u => u.cell? ⟨w.heap.size, 1, none⟩ = some (.func (.func 42) #[] #[]) ∧ u.cell? ⟨B, 0, none⟩ = some (.int .i64 q) ∧ u.cell? ⟨B, 1, none⟩ = some (.int .i64 r) ∧ u.cell? ⟨B, 2, none⟩ = some (.int .i64 d))
    (first
      | go_keep
      | (go_split_ands
         refine ⟨?_, ?_, ?_, ?_⟩ <;> (rw [hb3.cell (by simp; omega)]; assumption)))
    (first
      | (go_at_call 42; refine (HW.out _).mono ?_; rintro e w3 ⟨rfl, hb3⟩)
      | (go_at_call 45; refine (HR.out _).mono ?_; rintro e w4 ⟨rfl, rfl⟩))
  go_wp2
  go_ret2
  exact ⟨rfl, hb1.drew.trans (hb3.mono hb1.size)⟩

theorem times_way2 (q r d : Int) (e5 v : Int) (x y : Int) (w : World) (h0 : 0 ≤ x) (h1 : x ≤ 100000000000000) (g0 : 0 ≤ y) (g1 : y ≤ 100000000000000) (d0 : 1 ≤ d) (d1 : d ≤ 100000000000000)
    (HV : Hid (∀ w, Calls Try.prog 44 #[.int .i64 x, .int .i64 y, .int .i64 d] w fun e w' => e = .returned (.tuple #[.agg #[.int .i64 q, .int .i64 r, .int .i64 d], .bool true]) ∧ Below w.heap.size w w'))
    (HW : Hid (∀ w, Calls Try.prog 43 #[.agg #[.int .i64 q, .int .i64 r, .int .i64 d]] w fun e w' => e = .returned (.int .i64 (rnd 2 q r d)) ∧ Below w.heap.size w w'))
    (HR : Hid (∀ w, Calls Try.prog 45 #[.int .i64 (rnd 2 q r d)] w fun e w' => e = .returned (.tuple #[.int .i64 v, .int .i64 e5]) ∧ w = w')) :
    Calls Try.prog 31 #[.int .i64 x, .int .i64 y, .int .i64 d, .int .i64 2] w fun e w' => e = .returned (.tuple #[.int .i64 v, .int .i64 e5]) ∧ Below w.heap.size w w' := by
  go_enter Try.func31, Try.ntmps31
  go_wp2_with fail
  refine (right_yes _ _ h0 h1).mono ?_
  rintro e w' ⟨rfl, rfl⟩
  go_wp2_with fail
  refine (right_yes _ _ g0 g1).mono ?_
  rintro e w' ⟨rfl, rfl⟩
  go_wp2_with fail
  refine (HV.out _).mono ?_
  rintro e w' ⟨rfl, hb⟩
  have hz := hb.size
  have hz0 : w.heap.size + 1 ≤ w'.heap.size := by simpa using hz
  have hc : ∀ o, w'.cell? ⟨w.heap.size, o, none⟩ = (w.alloc (.cells #[.func (.func 41) #[] #[], .func (.func 42) #[] #[], .func (.func 43) #[] #[]] 67)).cell? ⟨w.heap.size, o, none⟩ := fun o => hb.cell (p := ⟨w.heap.size, o, none⟩) (by simp)
  have hA : (w'.alloc (.cells #[.int .i64 q, .int .i64 r, .int .i64 d] 66)).cell? ⟨w.heap.size, 2, none⟩ = some (.func (.func 43) #[] #[]) := by
    rw [World.cell?_alloc_old _ _ _ (by simp; omega), hc]
    simp [go_sem]
  have hB : ∀ o, (w'.alloc (.cells #[.int .i64 q, .int .i64 r, .int .i64 d] 66)).cell? ⟨w'.heap.size, o, none⟩ = #[Value.int .i64 q, .int .i64 r, .int .i64 d][o]? := fun o => by simp [go_sem]
  have hb1 : Below w.heap.size w (w'.alloc (.cells #[.int .i64 q, .int .i64 r, .int .i64 d] 66)) := (((Below.refl _ _).alloc (Nat.le_refl _) _).trans (hb.mono (by simp))).alloc (by omega) _
  have hB0 := hB 0
  have hB1 := hB 1
  have hB2 := hB 2
  clear hB hc
  go_wp2_with fail
  have hW : w'.heap.size + 1 = (w'.alloc (.cells #[.int .i64 q, .int .i64 r, .int .i64 d] 66)).heap.size := by simp
  generalize (w'.alloc (.cells #[.int .i64 q, .int .i64 r, .int .i64 d] 66)) = W at *
  have hW1 : w'.heap.size < W.heap.size := by omega
  have hW0 : w.heap.size < W.heap.size := by omega
  generalize w'.heap.size = B at *
  clear hW hz hz0 hb
  go_region_held3 (fun u => u.cell? ⟨w.heap.size, 2, none⟩ = some (.func (.func 43) #[] #[]) ∧ u.cell? ⟨B, 0, none⟩ = some (.int .i64 q) ∧ u.cell? ⟨B, 1, none⟩ = some (.int .i64 r) ∧ u.cell? ⟨B, 2, none⟩ = some (.int .i64 d))
    (first
      | go_keep
      | (go_split_ands
         refine ⟨?_, ?_, ?_, ?_⟩ <;> (rw [hb3.cell (by simp; omega)]; assumption)))
    (first
      | (go_at_call 43; refine (HW.out _).mono ?_; rintro e w3 ⟨rfl, hb3⟩)
      | (go_at_call 45; refine (HR.out _).mono ?_; rintro e w4 ⟨rfl, rfl⟩))
  go_wp2
  go_ret2
  exact ⟨rfl, hb1.drew.trans (hb3.mono hb1.size)⟩

end Go.Proofs.Ytmnbamfemcgloaa.Mn
