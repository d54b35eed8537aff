/- A leaf's numbers in a sector: put, number; the document's lay, four. -/
import Derived.Test.YtbicdmhmpmdoeaaLfM
import Derived.Test.YtbicdmhmpmdoeaaDkE
import Derived.Test.YtbicdmhmpmdoeaaByS
import Derived.Test.YtbicdmhmpmdoeaaByB
import Derived.Test.YtbicdmhmpmdoeaaCrC
import Derived.Laws.ResultCell
import Derived.RegionTactic
import Derived.BigRegion
import Derived.Deep.RegionHeld3
namespace Go.Proofs.Ytbicdmhmpmdoeaa.Lf
open Go.ChangeShapes Go.WideShapes Go.ChangeAt Go.RowKit
open Qu (Blk)
open Mv (Only)
open By (Bys cellsB cellsB_length cellsB_at)
open Se (over over_length over_at noughts noughts_len)
open Dk (Sec secCells secCells_size secCells_at)
set_option linter.unusedVariables false

theorem over_take {s vs : List UInt8} {o i : Nat} {b : UInt8} (h : vs[i]? = some b) : (over s o (vs.take i)).set (o + i) b = over s o (vs.take (i + 1)) := by
  induction vs generalizing s o i with
  | nil => simp at h
  | cons v r ih =>
    cases i with
    | zero =>
      obtain rfl : v = b := by simpa using h
      rfl
    | succ i =>
      have h2 : r[i]? = some b := by simpa using h
      have e := ih (s := s.set o v) (o := o + 1) h2
      show (over (s.set o v) (o + 1) (r.take i)).set (o + (i + 1)) b = over (s.set o v) (o + 1) (r.take (i + 1))
      rw [← e, show o + 1 + i = o + (i + 1) by omega]

/-- The bytes of a number, one by one. -/
theorem be4_at (v i : Nat) (hi : i < 4) : (be4 v)[i]? = some (UInt8.ofNat (v / 2 ^ (8 * (3 - i)) % 256)) := by
  match i, hi with
  | 0, _ => rfl
  | 1, _ => rfl
  | 2, _ => rfl
  | 3, _ => simp [be4]


theorem Sec_drew {w : World} {g : Nat} {s : List UInt8} (h : Sec w g s) : Sec w.drew g s := ⟨h.1, h.2.drew⟩

/-- A byte of a number is written. -/
theorem put_step {w wr : World} {g at_ v i : Nat} {s : List UInt8} (hS : Sec wr g (over s at_ ((be4 v).take i))) (hG : w.grownBy wr (some g)) (hi : i < 4) :
    Sec (wr.setCell ⟨g, at_ + i, none⟩ (.int .u8 ((v : Int) / 2 ^ (8 * (3 - i)) % 256))) g (over s at_ ((be4 v).take (i + 1))) ∧ w.grownBy (wr.setCell ⟨g, at_ + i, none⟩ (.int .u8 ((v : Int) / 2 ^ (8 * (3 - i)) % 256))) (some g) := by
  have e : (v : Int) / 2 ^ (8 * (3 - i)) % 256 = ((v / 2 ^ (8 * (3 - i)) % 256 : Nat) : Int) := by simp
  rw [e]
  refine ⟨?_, hG.trans (Qu.turned_at _ _ _ _)⟩
  have h := hS.byte (k := at_ + i) ((v / 2 ^ (8 * (3 - i)) % 256 : Nat) : Int) (by omega)
  rw [Int.toNat_natCast, over_take (be4_at v i hi)] at h
  exact h

theorem be4_all (v : Nat) : (be4 v).take 4 = be4 v := rfl

set_option maxHeartbeats 1000000 in
theorem put_any (w : World) (g at_ v : Nat) (s : List UInt8) (h : Sec w g s) (ha : at_ + 4 ≤ 64) (hv : v < 2 ^ 32) :
    Calls Try.prog 23 #[.pointer (some ⟨g, 0, none⟩), .int .i64 (at_ : Int), .int .u32 (v : Int)] w fun e w' => e = .returned (.tuple #[]) ∧ Sec w' g (over s at_ (be4 v)) ∧ w.grownBy w' (some g) := by
  have a0 : (0 : Int) ≤ (at_ : Int) := by omega
  have a1 : (at_ : Int) ≤ 60 := by omega
  have v0 : (0 : Int) ≤ (v : Int) := by omega
  have v1 : (v : Int) ≤ 4294967295 := by omega
  have H0 := Lib.hid h
  clear h ha hv
  go_enter Try.func23, Try.ntmps23
  go_wp2_with fail
  go_loopw [7] (fun s7 wr => ∃ i : Nat, s7 = .int .i64 (i : Int) ∧ i ≤ 4 ∧ Sec wr g (over s at_ ((be4 v).take i)) ∧ w.grownBy wr (some g)) (fun s7 _ => 4 - (intOf s7).toNat)
  case atStart => exact ⟨0, rfl, by omega, H0.out, World.grownBy.refl w _⟩
  case round =>
    obtain ⟨i, rfl, hi, hS, hG⟩ := hrel
    have i0 : (0 : Int) ≤ (i : Int) := by omega
    by_cases hlt : i < 4
    · have i1 : (i : Int) < 4 := by omega
      have c1 := hS.2.cell (at_ + i)
      have f1 := hS.2.frozen (at_ + i)
      obtain ⟨u, hu⟩ : ∃ u, (secCells (over s at_ ((be4 v).take i)))[at_ + i]? = some u := ⟨_, Array.getElem?_eq_getElem (by rw [secCells_size, hS.1]; omega)⟩
      rw [hu] at c1
      have HS := Lib.hid (put_step hS hG hlt)
      clear hS hG hu
      go_wp2
      go_region
      go_wp2
      go_roundw
      case rel => exact ⟨i + 1, by go_num, by omega, Sec_drew HS.out.1, Qu.turned_drew HS.out.2⟩
      case measure => simp [intOf]; omega
    · obtain rfl : i = 4 := by omega
      have i1 : ¬ (4 : Int) < 4 := by omega
      have HS := Lib.hid (And.intro hS hG)
      clear hS hG
      go_wp2
      go_end0
      exact ⟨rfl, HS.out.1, HS.out.2⟩

set_option maxHeartbeats 1000000 in
theorem rlay_any (w : World) (g at_ v : Nat) (s : List UInt8) (h : Sec w g s) (ha : at_ + 4 ≤ 64) (hv : v < 2 ^ 32) :
    Calls Try.prog 27 #[.slice (some ⟨g, 0, none⟩) 64 64, .int .i64 (at_ : Int), .int .u32 (v : Int)] w fun e w' => e = .returned (.tuple #[]) ∧ Sec w' g (over s at_ (be4 v)) ∧ w.grownBy w' (some g) := by
  have a0 : (0 : Int) ≤ (at_ : Int) := by omega
  have a1 : (at_ : Int) ≤ 60 := by omega
  have v0 : (0 : Int) ≤ (v : Int) := by omega
  have v1 : (v : Int) ≤ 4294967295 := by omega
  have H0 := Lib.hid h
  clear h ha hv
  go_enter Try.func27, Try.ntmps27
  go_wp2_with fail
  go_loopw [6] (fun s7 wr => ∃ i : Nat, s7 = .int .i64 (i : Int) ∧ i ≤ 4 ∧ Sec wr g (over s at_ ((be4 v).take i)) ∧ w.grownBy wr (some g)) (fun s7 _ => 4 - (intOf s7).toNat)
  case atStart => exact ⟨0, rfl, by omega, H0.out, World.grownBy.refl w _⟩
  case round =>
    obtain ⟨i, rfl, hi, hS, hG⟩ := hrel
    have i0 : (0 : Int) ≤ (i : Int) := by omega
    by_cases hlt : i < 4
    · have i1 : (i : Int) < 4 := by omega
      have i2 : (24 - 8 * (i : Int)) = 8 * (3 - (i : Int)) := by omega
      have c1 := hS.2.cell (at_ + i)
      have f1 := hS.2.frozen (at_ + i)
      obtain ⟨u, hu⟩ : ∃ u, (secCells (over s at_ ((be4 v).take i)))[at_ + i]? = some u := ⟨_, Array.getElem?_eq_getElem (by rw [secCells_size, hS.1]; omega)⟩
      rw [hu] at c1
      have HS := Lib.hid (put_step hS hG hlt)
      clear hS hG hu
      go_wp2
      go_roundw
      case rel => exact ⟨i + 1, by go_num, by omega, HS.out.1, HS.out.2⟩
      case measure => simp [intOf]; omega
    · obtain rfl : i = 4 := by omega
      have i1 : ¬ (4 : Int) < 4 := by omega
      have HS := Lib.hid (And.intro hS hG)
      clear hS hG
      go_wp2
      go_end0
      exact ⟨rfl, HS.out.1, HS.out.2⟩


/-- A byte behind a number. -/
theorem or_byte (x b : Nat) (hx : x < 16777216) (hb : b < 256) : bits .or .u32 ((x : Int) * 256 % 4294967296) (b : Int) = ((x * 256 + b : Nat) : Int) := by
  have e : (x : Int) * 256 % 4294967296 = ((x * 256 : Nat) : Int) := by omega
  rw [e, u32_or_nat (x * 256) b (by omega) (by omega)]
  congr 1
  have h := Nat.two_pow_add_eq_or_of_lt (i := 8) (b := b) (by omega) x
  rw [Nat.mul_comm x 256]
  exact h.symm

theorem val4_small : ∀ (l : List UInt8) (i : Nat), l.length ≤ i → val4 l < 256 ^ i := by
  intro l
  have key : ∀ (l : List UInt8) (v i k : Nat), v < 256 ^ k → l.length ≤ i → l.foldl (fun v b => v * 256 + b.toNat) v < 256 ^ (k + i) := by
    intro l
    induction l with
    | nil =>
      intro v i k hv _
      exact Nat.lt_of_lt_of_le hv (Nat.pow_le_pow_right (by omega) (by omega))
    | cons b r ih =>
      intro v i k hv hi
      rw [List.length_cons] at hi
      have hb := b.toNat_lt
      have h := ih (v * 256 + b.toNat) (i - 1) (k + 1) (by rw [Nat.pow_succ]; omega) (by omega)
      rw [show k + 1 + (i - 1) = k + i by omega] at h
      exact h
  intro i hi
  have := key l 0 i 0 (by simp) hi
  rw [Nat.zero_add] at this
  exact this

theorem cut_short (s : List UInt8) (at_ n : Nat) (i : Nat) : ((cut s at_ n).take i).length ≤ i := List.length_take_le _ _

theorem pow_three {x i : Nat} (h : x < 256 ^ i) (hi : i < 4) : x < 16777216 :=
  Nat.lt_of_lt_of_le h (Nat.le_trans (Nat.pow_le_pow_right (by omega) (show i ≤ 3 by omega)) (by decide))

theorem cut_all {s : List UInt8} {at_ n : Nat} (h : at_ + n ≤ s.length) : (cut s at_ n).take n = cut s at_ n := List.take_of_length_le (by rw [cut_len h]; omega)

set_option maxHeartbeats 1000000 in
theorem rfour_any (w : World) (g at_ : Nat) (s : List UInt8) (h : Sec w g s) (ha : at_ + 4 ≤ 64) :
    Calls Try.prog 31 #[.slice (some ⟨g, 0, none⟩) 64 64, .int .i64 (at_ : Int)] w fun e w' => e = .returned (.int .u32 (val4 (cut s at_ 4) : Int)) ∧ w = w' := by
  have a0 : (0 : Int) ≤ (at_ : Int) := by omega
  have a1 : (at_ : Int) ≤ 60 := by omega
  have hl := h.1
  have H0 := Lib.hid h
  have HC := Lib.hid (cut_all (s := s) (at_ := at_) (n := 4) (by omega))
  clear h ha
  go_enter Try.func31, Try.ntmps31
  go_wp2_with fail
  go_loop [5, 6] (fun s5 s6 => ∃ i : Nat, s6 = .int .i64 (i : Int) ∧ i ≤ 4 ∧ s5 = .int .u32 (val4 ((cut s at_ 4).take i) : Int)) (fun _ s6 => 4 - (intOf s6).toNat)
  case atStart => exact ⟨0, rfl, by omega, rfl⟩
  case round =>
    obtain ⟨i, rfl, hi, rfl⟩ := hrel
    have i0 : (0 : Int) ≤ (i : Int) := by omega
    by_cases hlt : i < 4
    · have i1 : (i : Int) < 4 := by omega
      have hb : ∃ b, s[at_ + i]? = some b := ⟨_, List.getElem?_eq_getElem (by omega)⟩
      obtain ⟨b, hb⟩ := hb
      have c1 : w.cell? ⟨g, at_ + i, none⟩ = some (.int .u8 (b.toNat : Int)) := by
        rw [H0.out.2.cell, secCells_at, hb]; rfl
      have HV := Lib.hid (val4_take (l := cut s at_ 4) (i := i) (b := b) (by rw [cut_at hlt]; exact hb))
      have hx := pow_three (val4_small _ i (cut_short s at_ 4 i)) hlt
      obtain ⟨x, hx0⟩ : ∃ x, val4 ((cut s at_ 4).take i) = x := ⟨_, rfl⟩
      have HX := Lib.hid hx0
      rw [hx0] at hx ⊢
      have hbl := b.toNat_lt
      generalize b.toNat = y at *
      have ho := or_byte x y hx hbl
      rw [Int.emod_eq_of_lt (by omega) (by omega)] at ho
      have x0 : (0 : Int) ≤ (x : Int) := by omega
      have x1 : (x : Int) < 16777216 := by omega
      have y0 : (0 : Int) ≤ (y : Int) := by omega
      have y1 : (y : Int) < 256 := by omega
      clear hb hx0
      go_wp2
      go_round
      case rel => exact ⟨i + 1, by go_num, by omega, by rw [HV.out, HX.out]; simp⟩
      case measure => simp [intOf]; omega
    · obtain rfl : i = 4 := by omega
      have i1 : ¬ (4 : Int) < 4 := by omega
      rw [HC.out]
      go_wp2
      go_ret
      exact ⟨rfl, rfl⟩


/-! ### A sector's parts as slices -/
theorem arr64 : Try.prog.underlying 29 = some (.array (Try.prog.arrayLen 29) (Try.prog.elem 29)) := by kernel_rfl

theorem len64 : Try.prog.arrayLen 29 = 64 := by kernel_rfl

theorem one64 (W : World) : (sizeOf (Try.prog.elem 29)).run Try.prog W = .ok 1 W := by kernel_rfl

theorem part_lh (g lo hi : Nat) (a b : Int) (ha : a = (lo : Int)) (hb : b = (hi : Int)) (h0 : lo < 64) (h1 : lo ≤ hi) (h2 : hi ≤ 64) (W : World) :
    (Instr.sliceAt 29 (.pointer (some ⟨g, 0, none⟩)) (some (.int .i64 a)) (some (.int .i64 b)) none).run Try.prog W = .ok (.slice (some ⟨g, lo, none⟩) (hi - lo) (64 - lo)) W := by
  subst ha hb
  rw [run_sliceAt_array_lh (P := Try.prog) W 29 ⟨g, 0, none⟩ arr64 .i64 .i64 (lo : Int) (hi : Int) (by omega) (by omega) (by rw [len64]; omega), one64]
  simp only [Result.andThen, slicedAt, len64, Int.toNat_natCast, Nat.mul_one]
  rw [if_neg (by omega), Go.WideShapes.add_plain, Nat.zero_add]

theorem part_h (g hi : Nat) (b : Int) (hb : b = (hi : Int)) (h2 : hi ≤ 64) (W : World) :
    (Instr.sliceAt 29 (.pointer (some ⟨g, 0, none⟩)) none (some (.int .i64 b)) none).run Try.prog W = .ok (.slice (some ⟨g, 0, none⟩) hi 64) W := by
  subst hb
  rw [run_sliceAt_array_h (P := Try.prog) W 29 ⟨g, 0, none⟩ arr64 .i64 (hi : Int) (by omega) (by rw [len64]; omega), one64]
  simp only [Result.andThen, slicedAt, len64, Int.toNat_natCast, Nat.mul_one]
  rw [if_neg (by omega), Go.WideShapes.add_plain]
  simp

theorem part_l (g lo : Nat) (a : Int) (ha : a = (lo : Int)) (h0 : lo < 64) (W : World) :
    (Instr.sliceAt 29 (.pointer (some ⟨g, 0, none⟩)) (some (.int .i64 a)) none none).run Try.prog W = .ok (.slice (some ⟨g, lo, none⟩) (64 - lo) (64 - lo)) W := by
  subst ha
  rw [run_sliceAt_array_l (P := Try.prog) W 29 ⟨g, 0, none⟩ arr64 .i64 (lo : Int) (by omega) (by rw [len64]; omega), one64]
  simp only [Result.andThen, slicedAt, len64, Int.toNat_natCast, Nat.mul_one]
  rw [if_neg (by omega), Go.WideShapes.add_plain, Nat.zero_add]

theorem part_all (g : Nat) (W : World) :
    (Instr.sliceAt 29 (.pointer (some ⟨g, 0, none⟩)) none none none).run Try.prog W = .ok (.slice (some ⟨g, 0, none⟩) 64 64) W := by
  rw [run_sliceAt_array_all (P := Try.prog) W 29 ⟨g, 0, none⟩ arr64, one64]
  simp only [Result.andThen, slicedAt, len64, Nat.mul_one]
  rw [if_neg (by omega), Go.WideShapes.add_plain]

/-- The bytes of a part. -/
theorem part_bys {w : World} {g lo n : Nat} {s : List UInt8} (h : Sec w g s) (hn : lo + n ≤ 64) : Bys w w.heap.size (some ⟨g, lo, none⟩) n (cut s lo n) := ⟨cut_len (by rw [h.1]; exact hn), fun k b hb => by
  have hk : k < n := by
    have := (List.getElem?_eq_some_iff.1 hb).1
    rw [cut_len (by rw [h.1]; exact hn)] at this
    exact this
  rw [cut_at hk] at hb
  exact ⟨g, lo, rfl, h.2.lt, by rw [h.2.cell, secCells_at, hb]; rfl⟩⟩

set_option maxHeartbeats 1000000 in
theorem number_any (w : World) (at_ : Nat) (s : List UInt8) (hs : s.length = 64) (ha : at_ + 4 ≤ 64) :
    Calls Try.prog 32 #[.agg (secCells s), .int .i64 (at_ : Int)] w fun e w' => e = .returned (.int .u32 (val4 (cut s at_ 4) : Int)) ∧ Below w.heap.size w w' := by
  have a0 : (0 : Int) ≤ (at_ : Int) := by omega
  have a1 : (at_ : Int) ≤ 60 := by omega
  have HC := Lib.hid (cut_all (s := s) (at_ := at_) (n := 4) (by omega))
  have hsl := fun W => part_lh w.heap.size at_ (at_ + 4) (at_ : Int) ((at_ : Int) + 4) rfl (by omega) (by omega) (by omega) (by omega) W
  rw [Nat.add_sub_cancel_left] at hsl
  go_enter Try.func32, Try.ntmps32
  go_wp2_with (first
    | (refine Dk.box_sec rfl _ rfl _ rfl hs ?_; intro w1 hS1 hB1 hZ1; have H0 := Lib.hid (And.intro hS1 hB1); clear hS1 hB1 hZ1))
  go_loop [5, 7, 13] (fun s5 _ s6 => ∃ i : Nat, s6 = .int .i64 (i : Int) ∧ i ≤ 4 ∧ s5 = .int .u32 (val4 ((cut s at_ 4).take i) : Int)) (fun _ _ s6 => 4 - (intOf s6).toNat)
  case atStart => exact ⟨0, rfl, by omega, rfl⟩
  case round =>
    obtain ⟨i, rfl, hi, rfl⟩ := hrel
    have i0 : (0 : Int) ≤ (i : Int) := by omega
    by_cases hlt : i < 4
    · have i1 : (i : Int) < 4 := by omega
      have hb : ∃ b, s[at_ + i]? = some b := ⟨_, List.getElem?_eq_getElem (by omega)⟩
      obtain ⟨b, hb⟩ := hb
      have c1 : w1.cell? ⟨w.heap.size, at_ + i, none⟩ = some (.int .u8 (b.toNat : Int)) := by
        rw [H0.out.1.2.cell, secCells_at, hb]; rfl
      have HV := Lib.hid (val4_take (l := cut s at_ 4) (i := i) (b := b) (by rw [cut_at hlt]; exact hb))
      have hx := pow_three (val4_small _ i (cut_short s at_ 4 i)) hlt
      obtain ⟨x, hx0⟩ : ∃ x, val4 ((cut s at_ 4).take i) = x := ⟨_, rfl⟩
      have HX := Lib.hid hx0
      rw [hx0] at hx ⊢
      have hbl := b.toNat_lt
      generalize b.toNat = y at *
      have ho := or_byte x y hx hbl
      rw [Int.emod_eq_of_lt (by omega) (by omega)] at ho
      have x0 : (0 : Int) ≤ (x : Int) := by omega
      have x1 : (x : Int) < 16777216 := by omega
      have y0 : (0 : Int) ≤ (y : Int) := by omega
      have y1 : (y : Int) < 256 := by omega
      clear hb hx0
      go_wp2
      go_round
      case rel => exact ⟨i + 1, by go_num, by omega, by rw [HV.out, HX.out]; simp⟩
      case measure => simp [intOf]; omega
    · obtain rfl : i = 4 := by omega
      have i1 : ¬ (4 : Int) < 4 := by omega
      rw [HC.out]
      go_wp2
      go_ret
      exact ⟨rfl, H0.out.2⟩

end Go.Proofs.Ytbicdmhmpmdoeaa.Lf
