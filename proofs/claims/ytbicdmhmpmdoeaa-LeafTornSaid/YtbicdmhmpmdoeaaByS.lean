/- Slices of slices of bytes; a literal text as bytes. -/
import Derived.Test.YtbicdmhmpmdoeaaByC
import Derived.Lib.SlBytesConst
import Derived.Laws.MakeOwn
namespace Go.Proofs.Ytbicdmhmpmdoeaa.By
open Go.ChangeShapes Go.WideShapes Go.ChangeAt Go.RowKit
open Qu (Blk)
set_option linter.unusedVariables false

theorem slice_to (A : Option Addr) (n c k : Nat) (hk : k ≤ c) (W : World) : (Instr.slice 23 (.slice A n c) none (some (.int .i64 (k : Int))) none).run Try.prog W = .ok (.slice A k c) W := by
  have hsz : (sizeOf (Try.prog.elem 23)).run Try.prog W = .ok 1 W := by kernel_rfl
  rw [run_slice_h (P := Try.prog) (w := W) 23 A n c Try.underlying23 .i64 (k : Int) (by omega) (by omega), hsz]
  have e : (if c = 0 then A else A.map (·.add (0 * 1))) = A := by
    split
    · rfl
    · cases A with
      | none => rfl
      | some a => simp [Addr.add]
  simp only [Result.andThen, sliced, Nat.sub_zero, Int.toNat_natCast]
  rw [e]

theorem slice_from (A : Option Addr) (n c k : Nat) (hk : k ≤ n) (W : World) : (Instr.slice 23 (.slice A n c) (some (.int .i64 (k : Int))) none none).run Try.prog W = .ok (.slice (if c = k then A else A.map (·.add k)) (n - k) (c - k)) W := by
  have hsz : (sizeOf (Try.prog.elem 23)).run Try.prog W = .ok 1 W := by kernel_rfl
  rw [run_slice_l (P := Try.prog) (w := W) 23 A n c Try.underlying23 .i64 (k : Int) (by omega) (by omega), hsz]
  simp only [Result.andThen, sliced, Nat.mul_one, Int.toNat_natCast]

theorem slice_mid (A : Option Addr) (n c j k : Nat) (hj : j ≤ k) (hk : k ≤ c) (W : World) : (Instr.slice 23 (.slice A n c) (some (.int .i64 (j : Int))) (some (.int .i64 (k : Int))) none).run Try.prog W = .ok (.slice (if c = j then A else A.map (·.add j)) (k - j) (c - j)) W := by
  have hsz : (sizeOf (Try.prog.elem 23)).run Try.prog W = .ok 1 W := by kernel_rfl
  rw [run_slice_lh (P := Try.prog) (w := W) 23 A n c Try.underlying23 .i64 .i64 (j : Int) (k : Int) (by omega) (by omega) (by omega), hsz]
  simp only [Result.andThen, sliced, Nat.mul_one, Int.toNat_natCast]

/-- The middle of a slice of bytes. -/
theorem Bys.mid {w : World} {M n c j k : Nat} {A : Option Addr} {l : List UInt8} (h : Bys w M A n l) (hj : j ≤ k) (hk : k ≤ n) (hc : n ≤ c) : Bys w M (if c = j then A else A.map (·.add j)) (k - j) ((l.take k).drop j) :=
  (h.take hk).drop hj (by omega)

/-- A literal text's bytes, in a block of its own. -/
theorem Bys.text (W : World) (l : List UInt8) (n : Nat) (hn : l.length = n) (fr : Nat × Nat) : Bys (W.alloc (.cells (cellsB l).toArray 5 fr)) (W.heap.size + 1) (some ⟨W.heap.size, 0, none⟩) n l := ⟨hn, fun k b hk => by
  refine ⟨W.heap.size, 0, rfl, by omega, ?_⟩
  rw [Nat.zero_add, World.cell?_alloc_mark]
  simp [cellsB_at, hk]⟩

/-- A row of noughts. -/
theorem make_bytes (n : Nat) (hn : n ≤ 1000000000) (W : World) : (Instr.makeSlice 23 (.int .i64 (n : Int)) (.int .i64 (n : Int))).run Try.prog W = .ok (.slice (some ⟨W.heap.size, 0, none⟩) n n) (W.alloc (.cells (madeCells #[.int .u8 0] n) 5)) := by
  obtain ⟨i0, hi0, hz0, hz1, hz2⟩ := info_parts info_u8
  have hr := run_make (P := Try.prog) W 23 5 i0 _ Try.underlying23 hi0 hz0 .i64 .i64 (n : Int) (n : Int) (by omega) (by omega) (by rw [hz2]; omega) (by omega)
  rw [hz1, Nat.mul_one] at hr
  simp only [Int.toNat_natCast] at hr
  exact hr

theorem made_own (W : World) (n : Nat) (hn : n ≤ 1000000000) : (W.alloc (.cells (madeCells #[.int .u8 0] n) 5)).ownsRow W.heap.size 5 1 (.slice (some ⟨W.heap.size, 0, none⟩) n n) n (cellsB (List.replicate n 0)) := by
  have e : madeCells #[.int .u8 0] n = (cellsB (List.replicate n 0)).toArray := by
    apply Array.toList_inj.1
    rw [toList_madeCells_one]
    simp [cellsB]
  have h := World.ownsRow_lit (base := W.heap.size) (e := 5) (size := 1) W (madeCells #[.int .u8 0] n) n (Nat.le_refl _) (by unfold maxLen; omega) (by rw [size_madeCells]; simp)
  rw [e] at h ⊢
  exact h

end Go.Proofs.Ytbicdmhmpmdoeaa.By
