/- What every statement of layer 6 asks first: awake. -/
import Derived.Test.YteakoniapgkicaaDkT
namespace Go.Proofs.Yteakoniapgkicaa.Dk
open Go.ChangeShapes Go.WideShapes Go.ChangeAt Go.RowKit
open Qu (Blk)
open Mv (Only)
open Se (All64 blanks Rows64 noughts noughts_len)
open By (cellsB cellsB_length cellsB_at)
open Dd (Pl At Went NewE)
set_option linter.unusedVariables false

/-- The disk that awake makes. -/
def wakeD : DS := startD (crashD (writeD (dsNew 2) 0 (allOf 1)) 1 (fun _ => 3))

theorem wake_told : writeE (dsNew 2) 0 = 0 ∧ readE wakeD 0 = 0 ∧ (readV wakeD 0)[2]? = some 1 ∧ (readV wakeD 0)[3]? = some 0 ∧ wakeD.n = 2 ∧ (crashD (writeD (dsNew 2) 0 (allOf 1)) 1 (fun _ => 3)).n = 2 ∧ (writeD (dsNew 2) 0 (allOf 1)).n = 2 := by decide +kernel

theorem went_on {w w1 w2 : World} {B : Nat} {q : Pl} {d d' : DS} (h : Went w1 B q d w2) {b : Nat} (hb : b < w1.heap.size) (hq : ¬ q.has b) : w2.heap[b]? = w1.heap[b]? := by
  obtain ⟨q', hx, ha, ho, hq'⟩ := h
  exact ho.block b hb hq

theorem three_ints (w : World) : Hl.Ints (w.alloc (.cells #[.int .i64 3] 3)) (w.alloc (.cells #[.int .i64 3] 3)).heap.size (some ⟨w.heap.size, 0, none⟩) 1 (fun _ => 3) := fun k hk => by
  obtain rfl : k = 0 := by omega
  refine ⟨w.heap.size, 0, rfl, by simp, ?_⟩
  rw [Nat.zero_add, World.cell?_alloc_mark]
  rfl

set_option maxHeartbeats 1000000 in
theorem awake_any (w : World) : Calls Try.prog 9 #[] w fun e w' => e = .returned (.bool true) ∧ Below w.heap.size w w' := by
  have HT := Lib.hid wake_told
  go_enter Try.func9, Try.ntmps9
  go_wp2_with fail
  refine (Dd.new_ok w 2 (by omega) (by omega)).mono ?_
  rintro e w1 ⟨q, rfl, ha, hq, hb⟩
  have HA1 := Lib.hid ha
  have HQ := Lib.hid hq
  have HB1 := Lib.hid hb
  clear ha hq hb
  go_wp2_with fail
  refine (full_any 1 w1).mono ?_
  rintro e w2 ⟨rfl, k2⟩
  have HK2 := Lib.hid k2
  clear k2
  go_wp2_with fail
  refine (Dd.write_any w2 w.heap.size q (dsNew 2) 0 (allOf 1) (at_below HA1.out HK2.out) (by decide) (by decide) (allOf_len 1) (by decide)).mono ?_
  rintro e w3 ⟨rfl, q3, hx3, ha3, ho3, hn3⟩
  rw [← hx3]
  have HB3 := Lib.hid ((below_then HB1.out HK2.out).trans (ho3.toBelow (by have := HB1.out.size; have := HK2.out.size; omega) (fun k hk hh => by have := HQ.out k hh; omega)))
  have HA3 := Lib.hid ha3
  have HI3 := Lib.hid (show w.heap.size ≤ w3.heap.size from HB3.out.size)
  clear ha3 ho3 hn3 hx3
  rw [HT.out.1]
  go_wp2_with fail
  refine (Dd.crash_any _ w.heap.size q3 (writeD (dsNew 2) 0 (allOf 1)) _ 1 _ (fun _ => 3) (at_below HA3.out ((Below.refl _ _).alloc (Nat.le_refl _) _)) (three_ints w3) (fun a ha _ hh => by injection ha with ha; subst ha; have := HA3.out.there _ hh; exact absurd this (Nat.lt_irrefl _)) (by omega) (fun k hk => by omega) (by rw [HT.out.2.2.2.2.2.2]; omega) (by rw [HT.out.2.2.2.2.2.2]; omega)).mono ?_
  rintro e w4 ⟨rfl, q4, hx4, ha4, ho4, hn4⟩
  rw [← hx4]
  have HB4 := Lib.hid ((HB3.out.alloc HI3.out _).trans (ho4.toBelow (by simp; have := HI3.out; omega) (fun k hk hh => by have := HA3.out.from k hh; omega)))
  have HA4 := Lib.hid ha4
  clear ha4 ho4 hn4 hx4
  go_wp2_with fail
  refine (Dd.start_any w4 w.heap.size q4 (crashD (writeD (dsNew 2) 0 (allOf 1)) 1 (fun _ => 3)) HA4.out (by rw [HT.out.2.2.2.2.2.1]; omega) (by rw [HT.out.2.2.2.2.2.1]; omega)).mono ?_
  rintro e w5 ⟨rfl, q5, hx5, ha5, ho5, hn5⟩
  rw [← hx5]
  have HB5 := Lib.hid (HB4.out.trans (ho5.toBelow HB4.out.size (fun k hk hh => by have := HA4.out.from k hh; omega)))
  have HA5 := Lib.hid (show At w5 w.heap.size q5 wakeD from ha5)
  have HL := Lib.hid (readV_len (show wakeD.Ok from HA5.out.ok) 0)
  clear ha5 ho5 hn5 hx5
  go_wp2_with fail
  refine (Dd.read_any w5 w.heap.size q5 wakeD 0 HA5.out (by rw [HT.out.2.2.2.2.1]; omega) (by rw [HT.out.2.2.2.2.1]; omega)).mono ?_
  rintro e w6 ⟨rfl, k6⟩
  have HB6 := Lib.hid (HB5.out.trans (k6.mono HB5.out.size))
  have HZ6 := Lib.hid (show w.heap.size ≤ w6.heap.size from HB6.out.size)
  clear k6
  rw [HT.out.2.1]
  go_upto_region 6 with (first
    | (refine new_sec (op := ⟨some 4, _, _, _, _, _⟩) rfl rfl ?_; intro w7 hS7 hB7 hZ7)
    | (refine store_sec (w := w7) rfl _ _ rfl _ rfl _ rfl _ hS7 HL.out ?_; intro w8 hS8 hG8))
  have HB8 := Lib.hid (show Below w.heap.size w w8 from ((HB6.out.trans (hB7.mono HZ6.out)).grown hG8 (by have := hB7.size; have := HZ6.out; omega) (fun k hk => by injection hk with hk; have := HZ6.out; omega)))
  have t2 := sec_byte hS8 HT.out.2.2.1
  have t3 := sec_byte hS8 HT.out.2.2.2.1
  have e1 : ((1 : UInt8).toNat : Int) = 1 := rfl
  have e0 : ((0 : UInt8).toNat : Int) = 0 := rfl
  rw [e1] at t2
  rw [e0] at t3
  clear hS7 hB7 hZ7 hS8 hG8 e1 e0
  go_wp2_with fail
  go_ret
  exact ⟨rfl, HB8.out⟩

end Go.Proofs.Yteakoniapgkicaa.Dk
