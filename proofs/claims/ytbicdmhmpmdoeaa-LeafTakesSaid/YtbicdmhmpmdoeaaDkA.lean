/- Sectors as values: the statements' full. -/
import Derived.Test.YtbicdmhmpmdoeaaRows
import Derived.Test.YtbicdmhmpmdoeaaKit
import Derived.Test.YtbicdmhmpmdoeaaSeW
import Derived.WalkKit
import Derived.ProofKit
import Derived.OpenShut
import Derived.Lib.Hide
import Derived.BigQuiet
import Derived.Deep.QuietTactic
import Derived.LoopTactic
import Derived.Outline
import Derived.Laws.ResultCell
import Derived.RegionTactic
import Derived.BigRegion
namespace Go.Proofs.Ytbicdmhmpmdoeaa.Dk
open Go.ChangeShapes Go.WideShapes Go.ChangeAt Go.RowKit
open Qu (Blk)
open Mv (Only)
open By (cellsB cellsB_length cellsB_at)
open Se (noughts noughts_len)
set_option linter.unusedVariables false

theorem size_sector : (Try.prog.info? 29).map (·.size) = some 64 := by kernel_rfl

/-- A sector's cells. -/
def secCells (s : List UInt8) : Array Value := (cellsB s).toArray

theorem secCells_size (s : List UInt8) : (secCells s).size = s.length := by unfold secCells; rw [List.size_toArray, cellsB_length]

theorem secCells_at (s : List UInt8) (k : Nat) : (secCells s)[k]? = s[k]?.map fun b => Value.int .u8 (b.toNat : Int) := by unfold secCells; rw [List.getElem?_toArray, cellsB_at]

theorem alloc_sec (W : World) : (Instr.alloc 29 true (.tuple #[])).run Try.prog W = .ok (.pointer (some ⟨W.heap.size, 0, none⟩)) (W.alloc (.cells (secCells (List.replicate 64 0)) 29)) := by kernel_rfl

/-- A sector of its own, at block g. -/
def Sec (w : World) (g : Nat) (s : List UInt8) : Prop := s.length = 64 ∧ Blk w g 29 (secCells s)

theorem Sec.range {w : World} {g : Nat} {s : List UInt8} (h : Sec w g s) : w.rangeAt g 0 (cellsB s) := fun j v hj => by
  rw [Nat.zero_add, h.2.cell j, secCells_at]
  rw [cellsB_at] at hj
  exact hj

theorem Sec.load {w : World} {g : Nat} {s : List UInt8} (h : Sec w g s) : (Instr.loadAt 29 (.pointer (some ⟨g, 0, none⟩))).run Try.prog w = .ok (.agg (secCells s)) w := by
  have hr : w.rangeAt g 0 (cellsB s) := fun j v hj => by
    rw [Nat.zero_add, h.2.cell j, secCells_at]
    rw [cellsB_at] at hj
    exact hj
  exact run_loadAt_mid w g 0 29 (cellsB s) _ hr Try.underlying29 rfl (by rw [size_sector, cellsB_length, h.1])

theorem Sec.store {w : World} {g : Nat} {s t : List UInt8} (h : Sec w g s) (ht : t.length = 64) : (Instr.storeAt 29 (.pointer (some ⟨g, 0, none⟩)) (.agg (secCells t))).run Try.prog w = .ok () (w.setCells g 0 (cellsB t)) := by
  have hth : w.there g 0 (secCells t).size := fun j hj => by
    rw [secCells_size, ht] at hj
    refine ⟨?_, h.2.frozen _⟩
    rw [Nat.zero_add, h.2.cell j, secCells_at, List.getElem?_eq_getElem (by rw [h.1]; exact hj)]
    rfl
  have := run_storeAt_mid (P := Try.prog) w g 0 29 (secCells t) hth (by rw [size_sector, secCells_size, ht]) (all_oneCell_toArray (By.cellsB_one t))
  exact this

theorem Sec.new (w : World) (s : List UInt8) (hs : s.length = 64) : Sec (w.alloc (.cells (secCells s) 29)) w.heap.size s := ⟨hs, Blk.new _ _ _⟩

theorem setCells_blk : ∀ (vs : List Value) (o : Nat) (w : World) (g : Nat) (t : TypeId) (cs : Array Value), Blk w g t cs → Blk (w.setCells g o vs) g t (Se.over cs.toList o vs).toArray ∧ w.grownBy (w.setCells g o vs) (some g)
  | [], o, w, g, t, cs, h => ⟨by simpa [World.setCells, Se.over] using h, World.grownBy.refl w _⟩
  | v :: r, o, w, g, t, cs, h => by
    have h1 := Blk.put h o v
    obtain ⟨h2, h3⟩ := setCells_blk r (o + 1) _ g t _ h1
    refine ⟨?_, (Qu.turned_at w g o v).trans h3⟩
    rw [Array.toList_setIfInBounds] at h2
    exact h2

/-- Another sector is written over all of it. -/
theorem Sec.put {w : World} {g : Nat} {s t : List UInt8} (h : Sec w g s) (ht : t.length = 64) : Sec (w.setCells g 0 (cellsB t)) g t ∧ w.grownBy (w.setCells g 0 (cellsB t)) (some g) := by
  obtain ⟨h1, h2⟩ := setCells_blk (cellsB t) 0 w g _ _ h.2
  refine ⟨⟨ht, ?_⟩, h2⟩
  have e : (Se.over (secCells s).toList 0 (cellsB t)).toArray = secCells t := by
    unfold secCells
    congr 1
    apply List.ext_getElem?
    intro k
    show (Se.over (cellsB s) 0 (cellsB t))[k]? = _
    rw [Se.over_at _ _ _ _ (by rw [cellsB_length, cellsB_length, h.1, ht]; omega), cellsB_length, ht]
    by_cases hk : k < 64
    · rw [if_pos (by omega), Nat.sub_zero]
    · rw [if_neg (by omega), List.getElem?_eq_none (by rw [cellsB_length, h.1]; omega), List.getElem?_eq_none (by rw [cellsB_length, ht]; omega)]
  rw [e] at h1
  exact h1

/-- A byte of it is written. -/
theorem Sec.byte {w : World} {g k : Nat} {s : List UInt8} (h : Sec w g s) (z : Int) (hz : 0 ≤ z ∧ z ≤ 255) : Sec (w.setCell ⟨g, k, none⟩ (.int .u8 z)) g (s.set k (UInt8.ofNat z.toNat)) := by
  refine ⟨by rw [List.length_set, h.1], ?_⟩
  have h1 := Blk.put h.2 k (.int .u8 z)
  have e : (secCells s).setIfInBounds k (.int .u8 z) = secCells (s.set k (UInt8.ofNat z.toNat)) := by
    unfold secCells
    rw [By.cellsB_set, By.toNat_small (by omega), List.setIfInBounds_toArray, show ((z.toNat : Nat) : Int) = z by omega]
  rw [e] at h1
  exact h1

/-- As the walk meets them: a sector of its own is read, is written over. -/
theorem load_sec {ops : Array Oper} {rest : List Oper} {op : Oper} {a : Act} {w : World} {Q : Exit → Act → World → Prop} (free : op.guard = none) (x : Operand) (is : op.op = .load 29 x) (g : Nat) (vx : a.eval x = .pointer (some ⟨g, 0, none⟩)) (s : List UInt8) (h : Sec w g s)
    (go : wpList Try.prog ops Q rest (a.put op.dst (.agg (secCells s))) w) : wpList Try.prog ops Q (op :: rest) a w := by
  refine wpList_plain free fun K hK => ?_
  unfold Oper.wp execOp
  simp only [is, vx, h.load, Sem.run_bind, Sem.run_pure, Result.andThen_ok]
  exact hK _ _ go

theorem store_sec {ops : Array Oper} {rest : List Oper} {op : Oper} {a : Act} {w : World} {Q : Exit → Act → World → Prop} (free : op.guard = none) (x y : Operand) (is : op.op = .store 29 x y) (g : Nat) (vx : a.eval x = .pointer (some ⟨g, 0, none⟩)) (t : List UInt8) (vy : a.eval y = .agg (secCells t)) (s : List UInt8) (h : Sec w g s) (ht : t.length = 64)
    (go : ∀ w', Sec w' g t → w.grownBy w' (some g) → wpList Try.prog ops Q rest (a.put op.dst undef) w') : wpList Try.prog ops Q (op :: rest) a w := by
  refine wpList_plain free fun K hK => ?_
  obtain ⟨h1, h2⟩ := h.put ht
  unfold Oper.wp execOp
  simp only [is, vx, vy, h.store ht, Sem.run_bind, Sem.run_pure, Result.andThen_ok]
  exact hK _ _ (go _ h1 h2)

/-- As the walk meets it: a new sector. -/
theorem new_sec {ops : Array Oper} {rest : List Oper} {op : Oper} {a : Act} {w : World} {Q : Exit → Act → World → Prop} (free : op.guard = none) (is : op.op = .alloc 29)
    (go : ∀ w', Sec w' w.heap.size noughts → Below w.heap.size w w' → w'.heap.size = w.heap.size + 1 → wpList Try.prog ops Q rest (a.put op.dst (.pointer (some ⟨w.heap.size, 0, none⟩))) w') : wpList Try.prog ops Q (op :: rest) a w := by
  refine wpList_plain free fun K hK => ?_
  unfold Oper.wp execOp
  simp only [is, alloc_sec, Sem.run_bind, Sem.run_pure, Result.andThen_ok]
  exact hK _ _ (go _ (Sec.new w noughts noughts_len) ((Below.refl _ _).alloc (Nat.le_refl _) _) (by simp))

theorem build_sec (W : World) : (Instr.build 29 #[]).run Try.prog W = .ok (.agg (secCells noughts)) W := by kernel_rfl

/-- As the walk meets it: a sector of noughts, as a value. -/
theorem zero_sec {ops : Array Oper} {rest : List Oper} {op : Oper} {a : Act} {w : World} {Q : Exit → Act → World → Prop} (free : op.guard = none) (is : op.op = .build 29 #[])
    (go : wpList Try.prog ops Q rest (a.put op.dst (.agg (secCells noughts))) w) : wpList Try.prog ops Q (op :: rest) a w := by
  refine wpList_plain free fun K hK => ?_
  unfold Oper.wp execOp
  simp only [is, build_sec, Sem.run_bind, Sem.run_pure, Result.andThen_ok, Array.map_empty]
  exact hK _ _ go

/-- As the walk meets it: a sector that came in gets a box. -/
theorem box_sec {ops : Array Oper} {rest : List Oper} {op : Oper} {a : Act} {w : World} {Q : Exit → Act → World → Prop} (free : op.guard = none) (x : Operand) (is : op.op = .box 29 x) (s : List UInt8) (vx : a.eval x = .agg (secCells s)) (hs : s.length = 64)
    (go : ∀ w', Sec w' w.heap.size s → Below w.heap.size w w' → w'.heap.size = w.heap.size + 1 → wpList Try.prog ops Q rest (a.put op.dst (.pointer (some ⟨w.heap.size, 0, none⟩))) w') : wpList Try.prog ops Q (op :: rest) a w := by
  refine wpList_plain free fun K hK => ?_
  have hb : (Instr.box 29 (.agg (secCells s))).run Try.prog w = .ok (.pointer (some ⟨w.heap.size, 0, none⟩)) (w.alloc (.cells (secCells s) 29)) := rfl
  unfold Oper.wp execOp
  simp only [is, vx, hb, Sem.run_bind, Sem.run_pure, Result.andThen_ok]
  exact hK _ _ (go _ (Sec.new w s hs) ((Below.refl _ _).alloc (Nat.le_refl _) _) (by simp))

/-- Sixty-four bytes lie there. -/
def SecIn (w : World) (b o : Nat) : Prop := ∃ s : List UInt8, s.length = 64 ∧ w.rangeAt b o (cellsB s)

open Classical in
/-- Which ones. -/
noncomputable def secAt (w : World) (b o : Nat) : List UInt8 := if h : SecIn w b o then Classical.choose h else []

theorem secAt_eq {w : World} {b o : Nat} {s : List UInt8} (hs : s.length = 64) (h : w.rangeAt b o (cellsB s)) : secAt w b o = s := by
  have hin : SecIn w b o := ⟨s, hs, h⟩
  unfold secAt
  rw [dif_pos hin]
  obtain ⟨h1, h2⟩ := Classical.choose_spec hin
  generalize Classical.choose hin = t at h1 h2
  apply List.ext_getElem?
  intro k
  rcases Nat.lt_or_ge k 64 with hk | hk
  · have e1 := h k (.int .u8 (s[k].toNat : Int)) (by rw [cellsB_at, List.getElem?_eq_getElem (by omega)]; rfl)
    have e2 := h2 k (.int .u8 (t[k].toNat : Int)) (by rw [cellsB_at, List.getElem?_eq_getElem (by omega)]; rfl)
    rw [e1] at e2
    injection e2 with e2
    injection e2 with _ e2
    rw [List.getElem?_eq_getElem (by omega), List.getElem?_eq_getElem (by omega)]
    congr 1
    apply UInt8.toNat_inj.1
    omega
  · rw [List.getElem?_eq_none (by omega), List.getElem?_eq_none (by omega)]

theorem SecIn_drew (w : World) (b o : Nat) : SecIn w.drew b o = SecIn w b o := rfl

theorem secAt_drew (w : World) (b o : Nat) : secAt w.drew b o = secAt w b o := rfl

/-- The rules for the walk ('local go_sem ↓'): a sector is read, is written, wherever it lies. -/
theorem ld_sec (w : World) (b o : Nat) (h : SecIn w b o) : (Instr.loadAt 29 (.pointer (some ⟨b, o, none⟩))).run Try.prog w = .ok (.agg (secCells (secAt w b o))) w := by
  obtain ⟨s, hs, hr⟩ := h
  rw [secAt_eq hs hr]
  exact run_loadAt_mid w b o 29 (cellsB s) _ hr Try.underlying29 rfl (by rw [size_sector, cellsB_length, hs])

theorem st_sec (w : World) (b o : Nat) (s : List UInt8) (hs : s.length = 64) (h : w.there b o 64) : (Instr.storeAt 29 (.pointer (some ⟨b, o, none⟩)) (.agg (secCells s))).run Try.prog w = .ok () (w.setCells b o (cellsB s)) :=
  run_storeAt_mid (P := Try.prog) w b o 29 (secCells s) (by rw [secCells_size, hs]; exact h) (by rw [size_sector, secCells_size, hs]) (all_oneCell_toArray (By.cellsB_one s))

theorem fill_step (i : Nat) (c : UInt8) (hi : i < 64) : (List.replicate i c ++ List.replicate (64 - i) (0 : UInt8)).set i c = List.replicate (i + 1) c ++ List.replicate (64 - (i + 1)) 0 := by
  apply List.ext_getElem?
  intro k
  rcases Nat.lt_trichotomy k i with h | h | h
  · rw [List.getElem?_set_ne (by omega), List.getElem?_append_left (by rw [List.length_replicate]; exact h), List.getElem?_append_left (by rw [List.length_replicate]; omega), List.getElem?_replicate, List.getElem?_replicate, if_pos h, if_pos (by omega)]
  · subst h
    rw [List.getElem?_set_self (by rw [List.length_append, List.length_replicate, List.length_replicate]; omega), List.getElem?_append_left (by rw [List.length_replicate]; omega), List.getElem?_replicate, if_pos (by omega)]
  · rw [List.getElem?_set_ne (by omega), List.getElem?_append_right (by rw [List.length_replicate]; omega), List.getElem?_append_right (by rw [List.length_replicate]; omega), List.length_replicate, List.length_replicate, List.getElem?_replicate, List.getElem?_replicate]
    by_cases h3 : k < 64
    · rw [if_pos (by omega), if_pos (by omega)]
    · rw [if_neg (by omega), if_neg (by omega)]

/-- A sector of one byte. -/
def allOf (c : UInt8) : List UInt8 := List.replicate 64 c

theorem allOf_len (c : UInt8) : (allOf c).length = 64 := by simp [allOf]

end Go.Proofs.Ytbicdmhmpmdoeaa.Dk
