/- Opening a law's arguments that are leaves, or 64 bytes. -/
import Derived.Test.YtbicdmhmpmdoeaaLfL
import Derived.Test.YtbicdmhmpmdoeaaKitG
import Derived.Test.YtbicdmhmpmdoeaaKitC
namespace Go.Proofs.Ytbicdmhmpmdoeaa.Lf
open Go.ChangeShapes Go.WideShapes Go.ChangeAt Go.RowKit
open Qu (Blk)
open By (Bys cellsB cellsB_length cellsB_at)
open Dk (Sec secCells secCells_size secCells_at size_sector)
set_option linter.unusedVariables false

theorem five {cs : List Value} (h : cs.length = 5) : ∃ a b c d e, cs = [a, b, c, d, e] := by
  match cs, h with
  | [a, b, c, d, e], _ => exact ⟨a, b, c, d, e, rfl⟩

/-- A leaf that came in. -/
theorem open_leaf {H : Type} {enc : TypeId × Value → H} {base b0 : Nat} {w : World} {spare : Nat → Bool} {held : Bool} {v : Value} {d : DataW H} {ps : List MemPlace} {r : Reach}
    (hval : Value.okWide Try.prog w r b0 25 v) (hd : DataW.Trod enc Try.prog w base spare held 25 v d ps) :
    ∃ (e n : Nat) (f l : Bool) (A : Option Addr) (m c : Nat) (L : List UInt8), v = .agg #[.int .u32 (e : Int), .int .u32 (n : Int), .bool f, .bool l, .slice A m c] ∧ e < 2 ^ 32 ∧ n < 2 ^ 32 ∧ Bys w w.heap.size A m L ∧ (A = none → m = 0 ∧ c = 0) ∧ m ≤ c ∧ m ≤ 9223372036854775807 := by
  have hu := Try.underlying25
  obtain ⟨cs, rfl, hsz⟩ := okWide_struct hu hval
  have h5 : cs.toList.length = 5 := by
    have hc : Try.prog.cellsOf 25 = 5 := by kernel_rfl
    rw [hc] at hsz
    simpa using hsz
  have hv := Hk.Val.of hd rfl
  obtain ⟨a0, a1, a2, a3, a4, hcs⟩ := five h5
  have hca : cs = #[a0, a1, a2, a3, a4] := by
    apply Array.ext'
    exact hcs
  rw [hcs] at hv
  have q0 := hv.at hu 0 0 22 rfl (by kernel_rfl) a0 rfl
  have q1 := hv.at hu 1 1 22 rfl (by kernel_rfl) a1 rfl
  have q2 := hv.at hu 2 2 4 rfl (by kernel_rfl) a2 rfl
  have q3 := hv.at hu 3 3 4 rfl (by kernel_rfl) a3 rfl
  have q4 := hv.at hu 4 4 23 rfl (by kernel_rfl) a4 rfl
  obtain ⟨z0, e0, w0⟩ := q0.int Try.underlying22
  obtain ⟨z1, e1, w1⟩ := q1.int Try.underlying22
  obtain ⟨x2, e2⟩ := q2.flag Try.underlying4
  obtain ⟨x3, e3⟩ := q3.flag Try.underlying4
  obtain ⟨A, m, c, L, e4, y1, y2, y3, y4⟩ := q4.bytes Try.underlying23 Try.underlying5 (by kernel_rfl)
  have b0 := bounds_u32 w0
  have b1 := bounds_u32 w1
  obtain rfl : a0 = .int .u32 z0 := by simpa using e0
  obtain rfl : a1 = .int .u32 z1 := by simpa using e1
  obtain rfl : a2 = .bool x2 := by simpa using e2
  obtain rfl : a3 = .bool x3 := by simpa using e3
  obtain rfl : a4 = .slice A m c := by simpa using e4
  refine ⟨z0.toNat, z1.toNat, x2, x3, A, m, c, L, ?_, by omega, by omega, y1, y3, y4, y2⟩
  rw [hca, show ((z0.toNat : Nat) : Int) = z0 by omega, show ((z1.toNat : Nat) : Int) = z1 by omega]

/-- Sixty-four bytes that came in. -/
theorem open_sec {H : Type} {enc : TypeId × Value → H} {base b0 : Nat} {w : World} {spare : Nat → Bool} {held : Bool} {v : Value} {d : DataW H} {ps : List MemPlace} {r : Reach}
    (hval : Value.okWide Try.prog w r b0 29 v) (hd : DataW.Trod enc Try.prog w base spare held 29 v d ps) : ∃ s : List UInt8, s.length = 64 ∧ v = .agg (secCells s) :=
  Hk.open_array8 Try.underlying29 Try.underlying5 (by kernel_rfl) (by kernel_rfl) hval hd

end Go.Proofs.Ytbicdmhmpmdoeaa.Lf
