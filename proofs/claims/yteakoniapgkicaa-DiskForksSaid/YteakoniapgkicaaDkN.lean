/- The document's disk: New. -/
import Derived.Test.YteakoniapgkicaaDkW
import Derived.Laws.MakeOwn
import Derived.Laws.OwnMore
namespace Go.Proofs.Yteakoniapgkicaa.Dk
open Go.ChangeShapes Go.WideShapes Go.ChangeAt Go.RowKit
open Qu (Blk)
open Mv (Only)
open Se (All64 blanks Rows64 noughts noughts_len)
open By (cellsB cellsB_length cellsB_at)
set_option linter.unusedVariables false

theorem info_sector : (Try.prog.info? 42).map (fun i => (i.zero, i.size, i.bytes)) = some (some (.agg (secCells noughts)), 64, 64) := by kernel_rfl

theorem info_bool : (Try.prog.info? 4).map (fun i => (i.zero, i.size, i.bytes)) = some (some (.bool false), 1, 1) := by kernel_rfl

theorem secCells_noughts (k : Nat) (hk : k < 64) : (secCells noughts)[k]? = some (.int .u8 0) := by
  rw [secCells_at]
  unfold noughts
  rw [List.getElem?_replicate, if_pos hk]
  rfl

theorem made_sec (n : Nat) : madeCells (secCells noughts) (n * 64) = (cellsB (blanks n).flatten).toArray := by
  apply Array.ext_getElem?
  intro k
  have e : (cellsB (blanks n).flatten).toArray[k]? = if k < n * 64 then some (.int .u8 0) else none := by
    rw [List.getElem?_toArray, cellsB_at, Se.blanks_flat, List.getElem?_replicate]
    split <;> rfl
  rw [e]
  have hs : (secCells noughts).size = 64 := by rw [secCells_size, noughts_len]
  unfold madeCells
  rw [Array.getElem?_map, Array.getElem?_range, hs]
  split
  · have h1 := secCells_noughts (k % 64) (Nat.mod_lt _ (by omega))
    simp only [Option.map_some]
    rw [getElem!_def, h1]
  · rfl

/-- So many sectors of noughts are made. -/
theorem make_secs (n : Nat) (hn : n ≤ 1000000) (W : World) : (Instr.makeSlice 54 (.int .i64 (n : Int)) (.int .i64 (n : Int))).run Try.prog W = .ok (.slice (some ⟨W.heap.size, 0, none⟩) n n) (W.alloc (.cells (cellsB (blanks n).flatten).toArray 42)) := by
  obtain ⟨i0, hi0, hz0, hz1, hz2⟩ := info_parts info_sector
  have hr := run_make (P := Try.prog) W 54 42 i0 _ Try.underlying54 hi0 hz0 .i64 .i64 (n : Int) (n : Int) (by omega) (by omega) (by rw [hz2]; omega) (by omega)
  rw [hz1] at hr
  simp only [Int.toNat_natCast] at hr
  rw [hr]
  exact congrArg (fun c => Result.ok _ (W.alloc (.cells c 42))) (made_sec n)

theorem make_flags (n : Nat) (hn : n ≤ 1000000) (W : World) : (Instr.makeSlice 49 (.int .i64 (n : Int)) (.int .i64 (n : Int))).run Try.prog W = .ok (.slice (some ⟨W.heap.size, 0, none⟩) n n) (W.alloc (.cells (Array.replicate n (.bool false)) 4)) := by
  obtain ⟨i0, hi0, hz0, hz1, hz2⟩ := info_parts info_bool
  have hr := run_make (P := Try.prog) W 49 4 i0 _ Try.underlying49 hi0 hz0 .i64 .i64 (n : Int) (n : Int) (by omega) (by omega) (by rw [hz2]; omega) (by omega)
  rw [hz1, Nat.mul_one] at hr
  simp only [Int.toNat_natCast] at hr
  have e : madeCells #[Value.bool false] n = Array.replicate n (.bool false) := by
    apply Array.toList_inj.1
    rw [toList_madeCells_one]
    simp
  rw [hr]
  exact congrArg (fun c => Result.ok _ (W.alloc (.cells c 4))) e

/-- Such a disk, where its four blocks are just there. -/
theorem RefAt.fresh {w : World} {B : Nat} (n : Nat) (x a b c : Nat) (hn : n ≤ 1000000) (hB : B ≤ x ∧ B ≤ a ∧ B ≤ b ∧ B ≤ c) (hne : a ≠ b)
    (hx : w.heap[x]? = some (.cells #[.slice (some ⟨a, 0, none⟩) n n, .slice (some ⟨b, 0, none⟩) n n, .slice (some ⟨c, 0, none⟩) n n, .bool false, .int .i64 0] 58))
    (ha : w.heap[a]? = some (.cells (cellsB (blanks n).flatten).toArray 42)) (hb : w.heap[b]? = some (.cells (cellsB (blanks n).flatten).toArray 42))
    (hc : w.heap[c]? = some (.cells (Array.replicate n (.bool false)) 4)) : RefAt w B ⟨x, a, b, c, n, n, n⟩ (dsNew n) := by
  have e0 : (dsNew n).n = n := by show (blanks n).length = n; simp [blanks]
  have el : (cellsB (blanks n).flatten).length = n * 64 := by rw [cellsB_length, Se.flat_length (Se.blanks_all n)]; simp [blanks]
  have hm : n ≤ maxLen := by unfold maxLen; omega
  have row : ∀ g, B ≤ g → w.heap[g]? = some (.cells (cellsB (blanks n).flatten).toArray 42) → Rows64 w B 42 g n n (blanks n) := fun g hBg hg =>
    ⟨Se.blanks_all n, el, .inr ⟨g, n, _, rfl, hBg, hg, Nat.le_refl _, hm, by simpa using el, by simp [← el]⟩⟩
  refine ⟨⟨Se.blanks_all n, Se.blanks_all n, rfl, by simp [dsNew, blanks]⟩, hB.1, ?_, ?_, ?_, ?_, hne⟩
  · rw [e0]; exact ⟨hx⟩
  · rw [e0]; exact row a hB.2.1 ha
  · rw [e0]; exact row b hB.2.2.1 hb
  · rw [e0]
    exact ⟨by simp [dsNew], .inr ⟨c, n, _, rfl, hB.2.2.2, hc, Nat.le_refl _, hm, by simp, by simp [dsNew]⟩⟩

/-- Four new blocks. -/
theorem four (w : World) (o0 o1 o2 o3 : Obj) : ((((w.alloc o0).alloc o1).alloc o2).alloc o3).heap[w.heap.size]? = some o0 ∧ ((((w.alloc o0).alloc o1).alloc o2).alloc o3).heap[w.heap.size + 1]? = some o1 ∧ ((((w.alloc o0).alloc o1).alloc o2).alloc o3).heap[w.heap.size + 1 + 1]? = some o2 ∧ ((((w.alloc o0).alloc o1).alloc o2).alloc o3).heap[w.heap.size + 1 + 1 + 1]? = some o3 ∧ Below w.heap.size w ((((w.alloc o0).alloc o1).alloc o2).alloc o3) := by
  refine ⟨?_, ?_, ?_, ?_, ((((Below.refl _ _).alloc (Nat.le_refl _) _).alloc (by simp) _).alloc (by simp; omega) _).alloc (by simp; omega) _⟩ <;> (have e : ∀ (w : World) o, (w.alloc o).heap = w.heap.push o := fun _ _ => rfl) <;> simp only [e, Array.getElem?_push, Array.size_push] <;> repeat (first | rw [if_neg (by omega)] | rw [if_pos trivial])

/-- What New answers. -/
def NewD (w : World) (n : Nat) (e : Ending) (w' : World) : Prop := ∃ p : Place, e = .returned (.pointer (some ⟨p.x, 0, none⟩)) ∧ RefAt w' w.heap.size p (dsNew n) ∧ (∀ k, p.has k → w.heap.size ≤ k) ∧ Below w.heap.size w w'

theorem new_end {w W : World} {n : Nat} (p : Place) (hn : n ≤ 1000000) (h : RefAt W w.heap.size p (dsNew n)) (hp : ∀ k, p.has k → w.heap.size ≤ k) (hb : Below w.heap.size w W) : NewD w n (.returned (.pointer (some ⟨p.x, 0, none⟩))) W.drew :=
  ⟨p, rfl, h.only (S := fun _ => False) (Mv.Only.refl W _).drew (fun _ _ h => h), hp, ⟨hb.os, hb.tape, hb.output, hb.size, hb.block⟩⟩

theorem rnew_any (w : World) (n : Nat) (hn : n ≤ 1000000) : Calls Try.prog 10 #[.int .i64 (n : Int)] w (NewD w n) := by
  have m1 := make_secs n hn
  have m2 := make_flags n hn
  go_enter Try.func10, Try.ntmps10
  go_wp2_with fail
  go_region
  all_goals
    unfold Exit.then
    dsimp only
    go_wp2_with fail
    go_ret
    obtain ⟨h0, h1, h2, h3, hb⟩ := four w _ _ _ _
    first
      | exact new_end ⟨w.heap.size + 1 + 1 + 1, w.heap.size, w.heap.size + 1, w.heap.size + 1 + 1, n, n, n⟩ hn (RefAt.fresh n _ _ _ _ hn ⟨by omega, by omega, by omega, by omega⟩ (by omega) h3 h0 h1 h2) (fun k hk => by rcases hk with hk | hk | hk | hk <;> rw [hk] <;> dsimp only <;> omega) hb
      | exact new_end ⟨w.heap.size + 1 + 1 + 1, w.heap.size, w.heap.size + 1 + 1, w.heap.size + 1, n, n, n⟩ hn (RefAt.fresh n _ _ _ _ hn ⟨by omega, by omega, by omega, by omega⟩ (by omega) h3 h0 h2 h1) (fun k hk => by rcases hk with hk | hk | hk | hk <;> rw [hk] <;> dsimp only <;> omega) hb
      | exact new_end ⟨w.heap.size + 1 + 1 + 1, w.heap.size + 1, w.heap.size, w.heap.size + 1 + 1, n, n, n⟩ hn (RefAt.fresh n _ _ _ _ hn ⟨by omega, by omega, by omega, by omega⟩ (by omega) h3 h1 h0 h2) (fun k hk => by rcases hk with hk | hk | hk | hk <;> rw [hk] <;> dsimp only <;> omega) hb
      | exact new_end ⟨w.heap.size + 1 + 1 + 1, w.heap.size + 1, w.heap.size + 1 + 1, w.heap.size, n, n, n⟩ hn (RefAt.fresh n _ _ _ _ hn ⟨by omega, by omega, by omega, by omega⟩ (by omega) h3 h1 h2 h0) (fun k hk => by rcases hk with hk | hk | hk | hk <;> rw [hk] <;> dsimp only <;> omega) hb
      | exact new_end ⟨w.heap.size + 1 + 1 + 1, w.heap.size + 1 + 1, w.heap.size, w.heap.size + 1, n, n, n⟩ hn (RefAt.fresh n _ _ _ _ hn ⟨by omega, by omega, by omega, by omega⟩ (by omega) h3 h2 h0 h1) (fun k hk => by rcases hk with hk | hk | hk | hk <;> rw [hk] <;> dsimp only <;> omega) hb
      | exact new_end ⟨w.heap.size + 1 + 1 + 1, w.heap.size + 1 + 1, w.heap.size + 1, w.heap.size, n, n, n⟩ hn (RefAt.fresh n _ _ _ _ hn ⟨by omega, by omega, by omega, by omega⟩ (by omega) h3 h2 h1 h0) (fun k hk => by rcases hk with hk | hk | hk | hk <;> rw [hk] <;> dsimp only <;> omega) hb

end Go.Proofs.Yteakoniapgkicaa.Dk
