/- Sectors as values: the statements' full. · Disks of sectors, power that goes: plain mathematics, nothing of the program. · The document's disk in memory; contracts of its Arm, hit, Read. · The document's disk: Write. · The document's disk: New. · The document's disk: Copy. · The document's disk: Sync. -/
import Derived.Test.YtedgookkogpfbaaRows
import Derived.Test.YtedgookkogpfbaaBa
import Derived.WalkKit
import Derived.ProofKit
import Derived.OpenShut
import Derived.Lib.Hide
import Derived.BigQuiet
import Derived.Deep.QuietTactic
import Derived.LoopTactic
import Derived.Outline
import Derived.Laws.ResultCell
import Derived.RegionTactic
import Derived.BigRegion
import Derived.Deep.RegionHeld3
import Derived.Deep.RegionLaw
import Derived.Laws.MakeOwn
import Derived.Laws.OwnMore
import Derived.Deep.AppendLies
set_option maxRecDepth 100000

section
namespace Go.Proofs.Ytedgookkogpfbaa.Dk
open Go.ChangeShapes Go.WideShapes Go.ChangeAt Go.RowKit
open Qu (Blk)
open Mv (Only)
open By (cellsB cellsB_length cellsB_at)
open Se (noughts noughts_len)
set_option linter.unusedVariables false

theorem size_sector : (Try.prog.info? 43).map (·.size) = some 64 := by kernel_rfl

/-- A sector's cells. -/
def secCells (s : List UInt8) : Array Value := (cellsB s).toArray

theorem secCells_size (s : List UInt8) : (secCells s).size = s.length := by unfold secCells; rw [List.size_toArray, cellsB_length]

theorem secCells_at (s : List UInt8) (k : Nat) : (secCells s)[k]? = s[k]?.map fun b => Value.int .u8 (b.toNat : Int) := by unfold secCells; rw [List.getElem?_toArray, cellsB_at]

theorem alloc_sec (W : World) : (Instr.alloc 43 true (.tuple #[])).run Try.prog W = .ok (.pointer (some ⟨W.heap.size, 0, none⟩)) (W.alloc (.cells (secCells (List.replicate 64 0)) 43)) := by kernel_rfl

/-- A sector of its own, at block g. -/
def Sec (w : World) (g : Nat) (s : List UInt8) : Prop := s.length = 64 ∧ Blk w g 43 (secCells s)

theorem Sec.range {w : World} {g : Nat} {s : List UInt8} (h : Sec w g s) : w.rangeAt g 0 (cellsB s) := fun j v hj => by
  rw [Nat.zero_add, h.2.cell j, secCells_at]
  rw [cellsB_at] at hj
  exact hj

theorem Sec.load {w : World} {g : Nat} {s : List UInt8} (h : Sec w g s) : (Instr.loadAt 43 (.pointer (some ⟨g, 0, none⟩))).run Try.prog w = .ok (.agg (secCells s)) w := by
  have hr : w.rangeAt g 0 (cellsB s) := fun j v hj => by
    rw [Nat.zero_add, h.2.cell j, secCells_at]
    rw [cellsB_at] at hj
    exact hj
  exact run_loadAt_mid w g 0 43 (cellsB s) _ hr Try.underlying43 rfl (by rw [size_sector, cellsB_length, h.1])

theorem Sec.store {w : World} {g : Nat} {s t : List UInt8} (h : Sec w g s) (ht : t.length = 64) : (Instr.storeAt 43 (.pointer (some ⟨g, 0, none⟩)) (.agg (secCells t))).run Try.prog w = .ok () (w.setCells g 0 (cellsB t)) := by
  have hth : w.there g 0 (secCells t).size := fun j hj => by
    rw [secCells_size, ht] at hj
    refine ⟨?_, h.2.frozen _⟩
    rw [Nat.zero_add, h.2.cell j, secCells_at, List.getElem?_eq_getElem (by rw [h.1]; exact hj)]
    rfl
  have := run_storeAt_mid (P := Try.prog) w g 0 43 (secCells t) hth (by rw [size_sector, secCells_size, ht]) (all_oneCell_toArray (By.cellsB_one t))
  exact this

theorem Sec.new (w : World) (s : List UInt8) (hs : s.length = 64) : Sec (w.alloc (.cells (secCells s) 43)) w.heap.size s := ⟨hs, Blk.new _ _ _⟩

theorem setCells_blk : ∀ (vs : List Value) (o : Nat) (w : World) (g : Nat) (t : TypeId) (cs : Array Value), Blk w g t cs → Blk (w.setCells g o vs) g t (Se.over cs.toList o vs).toArray ∧ w.grownBy (w.setCells g o vs) (some g)
  | [], o, w, g, t, cs, h => ⟨by simpa [World.setCells, Se.over] using h, World.grownBy.refl w _⟩
  | v :: r, o, w, g, t, cs, h => by
    have h1 := Blk.put h o v
    obtain ⟨h2, h3⟩ := setCells_blk r (o + 1) _ g t _ h1
    refine ⟨?_, (Qu.turned_at w g o v).trans h3⟩
    rw [Array.toList_setIfInBounds] at h2
    exact h2

/-- Another sector is written over all of it. -/
theorem Sec.put {w : World} {g : Nat} {s t : List UInt8} (h : Sec w g s) (ht : t.length = 64) : Sec (w.setCells g 0 (cellsB t)) g t ∧ w.grownBy (w.setCells g 0 (cellsB t)) (some g) := by
  obtain ⟨h1, h2⟩ := setCells_blk (cellsB t) 0 w g _ _ h.2
  refine ⟨⟨ht, ?_⟩, h2⟩
  have e : (Se.over (secCells s).toList 0 (cellsB t)).toArray = secCells t := by
    unfold secCells
    congr 1
    apply List.ext_getElem?
    intro k
    show (Se.over (cellsB s) 0 (cellsB t))[k]? = _
    rw [Se.over_at _ _ _ _ (by rw [cellsB_length, cellsB_length, h.1, ht]; omega), cellsB_length, ht]
    by_cases hk : k < 64
    · rw [if_pos (by omega), Nat.sub_zero]
    · rw [if_neg (by omega), List.getElem?_eq_none (by rw [cellsB_length, h.1]; omega), List.getElem?_eq_none (by rw [cellsB_length, ht]; omega)]
  rw [e] at h1
  exact h1

/-- A byte of it is written. -/
theorem Sec.byte {w : World} {g k : Nat} {s : List UInt8} (h : Sec w g s) (z : Int) (hz : 0 ≤ z ∧ z ≤ 255) : Sec (w.setCell ⟨g, k, none⟩ (.int .u8 z)) g (s.set k (UInt8.ofNat z.toNat)) := by
  refine ⟨by rw [List.length_set, h.1], ?_⟩
  have h1 := Blk.put h.2 k (.int .u8 z)
  have e : (secCells s).setIfInBounds k (.int .u8 z) = secCells (s.set k (UInt8.ofNat z.toNat)) := by
    unfold secCells
    rw [By.cellsB_set, By.toNat_small (by omega), List.setIfInBounds_toArray, show ((z.toNat : Nat) : Int) = z by omega]
  rw [e] at h1
  exact h1

/-- As the walk meets them: a sector of its own is read, is written over. -/
theorem load_sec {ops : Array Oper} {rest : List Oper} {op : Oper} {a : Act} {w : World} {Q : Exit → Act → World → Prop} (free : op.guard = none) (x : Operand) (is : op.op = .load 43 x) (g : Nat) (vx : a.eval x = .pointer (some ⟨g, 0, none⟩)) (s : List UInt8) (h : Sec w g s)
    (go : wpList Try.prog ops Q rest (a.put op.dst (.agg (secCells s))) w) : wpList Try.prog ops Q (op :: rest) a w := by
  refine wpList_plain free fun K hK => ?_
  unfold Oper.wp execOp
  simp only [is, vx, h.load, Sem.run_bind, Sem.run_pure, Result.andThen_ok]
  exact hK _ _ go

theorem store_sec {ops : Array Oper} {rest : List Oper} {op : Oper} {a : Act} {w : World} {Q : Exit → Act → World → Prop} (free : op.guard = none) (x y : Operand) (is : op.op = .store 43 x y) (g : Nat) (vx : a.eval x = .pointer (some ⟨g, 0, none⟩)) (t : List UInt8) (vy : a.eval y = .agg (secCells t)) (s : List UInt8) (h : Sec w g s) (ht : t.length = 64)
    (go : ∀ w', Sec w' g t → w.grownBy w' (some g) → wpList Try.prog ops Q rest (a.put op.dst undef) w') : wpList Try.prog ops Q (op :: rest) a w := by
  refine wpList_plain free fun K hK => ?_
  obtain ⟨h1, h2⟩ := h.put ht
  unfold Oper.wp execOp
  simp only [is, vx, vy, h.store ht, Sem.run_bind, Sem.run_pure, Result.andThen_ok]
  exact hK _ _ (go _ h1 h2)

/-- As the walk meets it: a new sector. -/
theorem new_sec {ops : Array Oper} {rest : List Oper} {op : Oper} {a : Act} {w : World} {Q : Exit → Act → World → Prop} (free : op.guard = none) (is : op.op = .alloc 43)
    (go : ∀ w', Sec w' w.heap.size noughts → Below w.heap.size w w' → w'.heap.size = w.heap.size + 1 → wpList Try.prog ops Q rest (a.put op.dst (.pointer (some ⟨w.heap.size, 0, none⟩))) w') : wpList Try.prog ops Q (op :: rest) a w := by
  refine wpList_plain free fun K hK => ?_
  unfold Oper.wp execOp
  simp only [is, alloc_sec, Sem.run_bind, Sem.run_pure, Result.andThen_ok]
  exact hK _ _ (go _ (Sec.new w noughts noughts_len) ((Below.refl _ _).alloc (Nat.le_refl _) _) (by simp))

theorem build_sec (W : World) : (Instr.build 43 #[]).run Try.prog W = .ok (.agg (secCells noughts)) W := by kernel_rfl

/-- As the walk meets it: a sector of noughts, as a value. -/
theorem zero_sec {ops : Array Oper} {rest : List Oper} {op : Oper} {a : Act} {w : World} {Q : Exit → Act → World → Prop} (free : op.guard = none) (is : op.op = .build 43 #[])
    (go : wpList Try.prog ops Q rest (a.put op.dst (.agg (secCells noughts))) w) : wpList Try.prog ops Q (op :: rest) a w := by
  refine wpList_plain free fun K hK => ?_
  unfold Oper.wp execOp
  simp only [is, build_sec, Sem.run_bind, Sem.run_pure, Result.andThen_ok, Array.map_empty]
  exact hK _ _ go

/-- As the walk meets it: a sector that came in gets a box. -/
theorem box_sec {ops : Array Oper} {rest : List Oper} {op : Oper} {a : Act} {w : World} {Q : Exit → Act → World → Prop} (free : op.guard = none) (x : Operand) (is : op.op = .box 43 x) (s : List UInt8) (vx : a.eval x = .agg (secCells s)) (hs : s.length = 64)
    (go : ∀ w', Sec w' w.heap.size s → Below w.heap.size w w' → w'.heap.size = w.heap.size + 1 → wpList Try.prog ops Q rest (a.put op.dst (.pointer (some ⟨w.heap.size, 0, none⟩))) w') : wpList Try.prog ops Q (op :: rest) a w := by
  refine wpList_plain free fun K hK => ?_
  have hb : (Instr.box 43 (.agg (secCells s))).run Try.prog w = .ok (.pointer (some ⟨w.heap.size, 0, none⟩)) (w.alloc (.cells (secCells s) 43)) := rfl
  unfold Oper.wp execOp
  simp only [is, vx, hb, Sem.run_bind, Sem.run_pure, Result.andThen_ok]
  exact hK _ _ (go _ (Sec.new w s hs) ((Below.refl _ _).alloc (Nat.le_refl _) _) (by simp))

/-- Sixty-four bytes lie there. -/
def SecIn (w : World) (b o : Nat) : Prop := ∃ s : List UInt8, s.length = 64 ∧ w.rangeAt b o (cellsB s)

open Classical in
/-- Which ones. -/
noncomputable def secAt (w : World) (b o : Nat) : List UInt8 := if h : SecIn w b o then Classical.choose h else []

theorem secAt_eq {w : World} {b o : Nat} {s : List UInt8} (hs : s.length = 64) (h : w.rangeAt b o (cellsB s)) : secAt w b o = s := by
  have hin : SecIn w b o := ⟨s, hs, h⟩
  unfold secAt
  rw [dif_pos hin]
  obtain ⟨h1, h2⟩ := Classical.choose_spec hin
  generalize Classical.choose hin = t at h1 h2
  apply List.ext_getElem?
  intro k
  rcases Nat.lt_or_ge k 64 with hk | hk
  · have e1 := h k (.int .u8 (s[k].toNat : Int)) (by rw [cellsB_at, List.getElem?_eq_getElem (by omega)]; rfl)
    have e2 := h2 k (.int .u8 (t[k].toNat : Int)) (by rw [cellsB_at, List.getElem?_eq_getElem (by omega)]; rfl)
    rw [e1] at e2
    injection e2 with e2
    injection e2 with _ e2
    rw [List.getElem?_eq_getElem (by omega), List.getElem?_eq_getElem (by omega)]
    congr 1
    apply UInt8.toNat_inj.1
    omega
  · rw [List.getElem?_eq_none (by omega), List.getElem?_eq_none (by omega)]

theorem SecIn_drew (w : World) (b o : Nat) : SecIn w.drew b o = SecIn w b o := rfl

theorem secAt_drew (w : World) (b o : Nat) : secAt w.drew b o = secAt w b o := rfl

/-- The rules for the walk ('local go_sem ↓'): a sector is read, is written, wherever it lies. -/
theorem ld_sec (w : World) (b o : Nat) (h : SecIn w b o) : (Instr.loadAt 43 (.pointer (some ⟨b, o, none⟩))).run Try.prog w = .ok (.agg (secCells (secAt w b o))) w := by
  obtain ⟨s, hs, hr⟩ := h
  rw [secAt_eq hs hr]
  exact run_loadAt_mid w b o 43 (cellsB s) _ hr Try.underlying43 rfl (by rw [size_sector, cellsB_length, hs])

theorem st_sec (w : World) (b o : Nat) (s : List UInt8) (hs : s.length = 64) (h : w.there b o 64) : (Instr.storeAt 43 (.pointer (some ⟨b, o, none⟩)) (.agg (secCells s))).run Try.prog w = .ok () (w.setCells b o (cellsB s)) :=
  run_storeAt_mid (P := Try.prog) w b o 43 (secCells s) (by rw [secCells_size, hs]; exact h) (by rw [size_sector, secCells_size, hs]) (all_oneCell_toArray (By.cellsB_one s))

theorem fill_step (i : Nat) (c : UInt8) (hi : i < 64) : (List.replicate i c ++ List.replicate (64 - i) (0 : UInt8)).set i c = List.replicate (i + 1) c ++ List.replicate (64 - (i + 1)) 0 := by
  apply List.ext_getElem?
  intro k
  rcases Nat.lt_trichotomy k i with h | h | h
  · rw [List.getElem?_set_ne (by omega), List.getElem?_append_left (by rw [List.length_replicate]; exact h), List.getElem?_append_left (by rw [List.length_replicate]; omega), List.getElem?_replicate, List.getElem?_replicate, if_pos h, if_pos (by omega)]
  · subst h
    rw [List.getElem?_set_self (by rw [List.length_append, List.length_replicate, List.length_replicate]; omega), List.getElem?_append_left (by rw [List.length_replicate]; omega), List.getElem?_replicate, if_pos (by omega)]
  · rw [List.getElem?_set_ne (by omega), List.getElem?_append_right (by rw [List.length_replicate]; omega), List.getElem?_append_right (by rw [List.length_replicate]; omega), List.length_replicate, List.length_replicate, List.getElem?_replicate, List.getElem?_replicate]
    by_cases h3 : k < 64
    · rw [if_pos (by omega), if_pos (by omega)]
    · rw [if_neg (by omega), if_neg (by omega)]

/-- A sector of one byte. -/
def allOf (c : UInt8) : List UInt8 := List.replicate 64 c

theorem allOf_len (c : UInt8) : (allOf c).length = 64 := by simp [allOf]

end Go.Proofs.Ytedgookkogpfbaa.Dk
end

section
set_option linter.unusedVariables false
namespace Go.Proofs.Ytedgookkogpfbaa.Dk
open Se (All64 blanks noughts)

/-- A disk: what was written, what is sure, which sectors are loose, whether power is off, how many calls till one is hit. -/
structure DS where
  now : List (List UInt8)
  sure : List (List UInt8)
  loose : List Bool
  off : Bool
  armed : Nat

def DS.n (d : DS) : Nat := d.now.length

structure DS.Ok (d : DS) : Prop where
  now : All64 d.now
  sure : All64 d.sure
  len : d.sure.length = d.now.length
  lens : d.loose.length = d.now.length

def dsNew (n : Nat) : DS := ⟨blanks n, blanks n, List.replicate n false, false, 0⟩

def inR (d : DS) (at_ : Int) : Bool := decide (0 ≤ at_) && decide (at_ < (d.n : Int))

def readE (d : DS) (at_ : Int) : Int := if d.off then 9 else if inR d at_ then 0 else 2

def readV (d : DS) (at_ : Int) : List UInt8 := if readE d at_ = 0 then d.now.getD at_.toNat [] else noughts

/-- A call that would be done is counted. -/
def tick (d : DS) : DS := { d with armed := d.armed - 1, off := d.off || d.armed == 1 }

def hitB (d : DS) : Bool := d.armed == 1

def writeE (d : DS) (at_ : Int) : Int := if readE d at_ ≠ 0 then readE d at_ else if hitB d then 9 else 0

def writeD (d : DS) (at_ : Int) (b : List UInt8) : DS := if readE d at_ ≠ 0 then d else tick { d with now := d.now.set at_.toNat b, loose := d.loose.set at_.toNat true }

def syncE (d : DS) : Int := if d.off || hitB d then 9 else 0

def syncD (d : DS) : DS := if d.off then d else if hitB d then tick d else { tick d with sure := d.now, loose := List.replicate d.n false }

def armD (d : DS) (n : Int) : DS := { d with armed := n.toNat }

/-- How many bytes of the r-th loose sector stay; the keeps by their number and their index. -/
def keeps (kn : Nat) (kf : Nat → Int) (r : Nat) : Nat := if kn = 0 then 0 else min (kf (r % kn)).toNat 64

/-- How many are loose ahead of a place. -/
def rank (l : List Bool) : Nat → Nat
  | 0 => 0
  | i + 1 => if l.getD i false then rank l i + 1 else rank l i

def mix (a b : List UInt8) (k : Nat) : List UInt8 := a.take k ++ b.drop k

/-- What is there of a loose sector, behind a crash. -/
def mixS (d : DS) (kn : Nat) (kf : Nat → Int) (i : Nat) : List UInt8 := mix (d.now.getD i []) (d.sure.getD i []) (keeps kn kf (rank d.loose i))

/-- The first k sectors are brought down. -/
def crashN (d : DS) (kn : Nat) (kf : Nat → Int) : Nat → DS
  | 0 => d
  | i + 1 => if d.loose.getD i false then { crashN d kn kf i with now := (crashN d kn kf i).now.set i (mixS d kn kf i), sure := (crashN d kn kf i).sure.set i (mixS d kn kf i), loose := (crashN d kn kf i).loose.set i false } else crashN d kn kf i

def crashD (d : DS) (kn : Nat) (kf : Nat → Int) : DS := { crashN d kn kf d.n with off := true, armed := 0 }

def startD (d : DS) : DS := if d.off then { crashD d 0 (fun _ => 0) with off := false } else d

theorem keeps_le (kn : Nat) (kf : Nat → Int) (r : Nat) : keeps kn kf r ≤ 64 := by
  unfold keeps
  split
  · omega
  · exact Nat.min_le_right _ _

theorem mix_len {a b : List UInt8} {k : Nat} (ha : a.length = 64) (hb : b.length = 64) (hk : k ≤ 64) : (mix a b k).length = 64 := by
  unfold mix
  rw [List.length_append, List.length_take, List.length_drop]
  omega

theorem mix_zero (a b : List UInt8) : mix a b 0 = b := by unfold mix; simp

theorem mix_step {a b : List UInt8} {k : Nat} {x : UInt8} (ha : a.length = 64) (hb : b.length = 64) (hk : k < 64) (hx : a[k]? = some x) : (mix a b k).set k x = mix a b (k + 1) := by
  unfold mix
  apply List.ext_getElem?
  intro j
  rcases Nat.lt_trichotomy j k with hj | hj | hj
  · rw [List.getElem?_set_ne (by omega), List.getElem?_append_left (by rw [List.length_take]; omega), List.getElem?_append_left (by rw [List.length_take]; omega), List.getElem?_take, List.getElem?_take, if_pos hj, if_pos (by omega)]
  · subst hj
    rw [List.getElem?_set_self (by rw [List.length_append, List.length_take, List.length_drop]; omega), List.getElem?_append_left (by rw [List.length_take]; omega), List.getElem?_take, if_pos (by omega), hx]
  · rw [List.getElem?_set_ne (by omega), List.getElem?_append_right (by rw [List.length_take]; omega), List.getElem?_append_right (by rw [List.length_take]; omega), List.length_take, List.length_take, List.getElem?_drop, List.getElem?_drop]
    congr 1
    omega

section
variable {d : DS} (kn : Nat) (kf : Nat → Int)
theorem crashN_off : ∀ i, (crashN d kn kf i).off = d.off ∧ (crashN d kn kf i).armed = d.armed
  | 0 => ⟨rfl, rfl⟩
  | i + 1 => by
    unfold crashN
    split
    · exact crashN_off i
    · exact crashN_off i

theorem crashN_len : ∀ i, (crashN d kn kf i).now.length = d.now.length ∧ (crashN d kn kf i).sure.length = d.sure.length ∧ (crashN d kn kf i).loose.length = d.loose.length
  | 0 => ⟨rfl, rfl, rfl⟩
  | i + 1 => by
    obtain ⟨h1, h2, h3⟩ := crashN_len i
    unfold crashN
    split
    · simp only [List.length_set]
      exact ⟨h1, h2, h3⟩
    · exact ⟨h1, h2, h3⟩

theorem crashN_n (i : Nat) : (crashN d kn kf i).n = d.n := (crashN_len kn kf i).1

/-- What lies behind the ones that were brought down is as it was. -/
theorem crashN_at : ∀ i j, i ≤ j → (crashN d kn kf i).now[j]? = d.now[j]? ∧ (crashN d kn kf i).sure[j]? = d.sure[j]? ∧ (crashN d kn kf i).loose[j]? = d.loose[j]?
  | 0, j, _ => ⟨rfl, rfl, rfl⟩
  | i + 1, j, hj => by
    obtain ⟨h1, h2, h3⟩ := crashN_at i j (by omega)
    unfold crashN
    split
    · simp only
      rw [List.getElem?_set_ne (by omega), List.getElem?_set_ne (by omega), List.getElem?_set_ne (by omega)]
      exact ⟨h1, h2, h3⟩
    · exact ⟨h1, h2, h3⟩

theorem mixS_len (h : d.Ok) {i : Nat} (hi : i < d.n) : (mixS d kn kf i).length = 64 := by
  have l1 : d.now.length = d.n := rfl
  have l2 := h.len
  refine mix_len ?_ ?_ (keeps_le _ _ _)
  · rw [List.getD, List.getElem?_eq_getElem (by omega)]
    exact h.now _ (List.getElem_mem _)
  · rw [List.getD, List.getElem?_eq_getElem (by omega)]
    exact h.sure _ (List.getElem_mem _)

theorem crashN_ok (h : d.Ok) : ∀ i, i ≤ d.n → (crashN d kn kf i).Ok
  | 0, _ => h
  | i + 1, hi => by
    have ih := crashN_ok h i (by omega)
    unfold crashN
    split
    · have hl := mixS_len kn kf h (i := i) (by omega)
      exact ⟨ih.now.set hl i, ih.sure.set hl i, by simp only [List.length_set]; exact ih.len, by simp only [List.length_set]; exact ih.lens⟩
    · exact ih

theorem crashD_ok (h : d.Ok) : (crashD d kn kf).Ok := by
  have h1 := crashN_ok kn kf h d.n (Nat.le_refl _)
  exact ⟨h1.now, h1.sure, h1.len, h1.lens⟩

/-- What a crash leaves of a sector. -/
theorem crashN_told : ∀ i j, j < i → i ≤ d.n → d.loose.length = d.n → d.sure.length = d.n → (crashN d kn kf i).now[j]? = (if d.loose.getD j false then some (mixS d kn kf j) else d.now[j]?) ∧ (crashN d kn kf i).sure[j]? = (if d.loose.getD j false then some (mixS d kn kf j) else d.sure[j]?) ∧ (crashN d kn kf i).loose[j]? = some false
  | 0, j, hj, _, _, _ => by omega
  | i + 1, j, hj, hi, h1, h2 => by
    obtain ⟨l1, l2, l3⟩ := crashN_len (d := d) kn kf i
    have l0 : d.now.length = d.n := rfl
    by_cases hji : j = i
    · subst hji
      obtain ⟨e1, e2, e3⟩ := crashN_at (d := d) kn kf j j (Nat.le_refl _)
      unfold crashN
      cases hl : d.loose.getD j false with
      | true =>
        rw [if_pos rfl]
        simp only
        rw [List.getElem?_set_self (by omega), List.getElem?_set_self (by omega), List.getElem?_set_self (by omega)]
        exact ⟨by simp, by simp, rfl⟩
      | false =>
        rw [if_neg (by simp), e1, e2, e3]
        refine ⟨by rw [if_neg (by simp)], by rw [if_neg (by simp)], ?_⟩
        rw [List.getD, List.getElem?_eq_getElem (by omega)] at hl
        rw [List.getElem?_eq_getElem (by omega)]
        exact congrArg some hl
    · obtain ⟨e1, e2, e3⟩ := crashN_told i j (by omega) (by omega) h1 h2
      unfold crashN
      split
      · simp only
        rw [List.getElem?_set_ne (by omega), List.getElem?_set_ne (by omega), List.getElem?_set_ne (by omega)]
        exact ⟨e1, e2, e3⟩
      · exact ⟨e1, e2, e3⟩
end

theorem tick_ok {d : DS} (h : d.Ok) : (tick d).Ok := ⟨h.now, h.sure, h.len, h.lens⟩

theorem inR_yes {d : DS} {i : Int} (h : readE d i = 0) : 0 ≤ i ∧ i < (d.n : Int) ∧ d.off = false := by
  unfold readE at h
  cases ho : d.off with
  | true => rw [ho] at h; simp at h
  | false =>
    rw [ho] at h
    by_cases hi : inR d i = true
    · unfold inR at hi
      simp at hi
      exact ⟨hi.1, hi.2, rfl⟩
    · rw [if_neg (by simp), if_neg hi] at h
      omega

theorem readE_ok {d : DS} {i : Int} (ho : d.off = false) (h0 : 0 ≤ i) (h1 : i < (d.n : Int)) : readE d i = 0 := by
  unfold readE inR
  rw [ho, if_neg (by simp), if_pos (by simp [h0, h1])]

theorem readE_down {d : DS} {i : Int} (ho : d.off = true) : readE d i = 9 := by
  unfold readE
  rw [ho, if_pos rfl]

theorem readE_out {d : DS} {i : Int} (ho : d.off = false) (h : i < 0 ∨ (d.n : Int) ≤ i) : readE d i = 2 := by
  unfold readE inR
  rw [ho, if_neg (by simp), if_neg (by simp; omega)]

end Go.Proofs.Ytedgookkogpfbaa.Dk
end

section
namespace Go.Proofs.Ytedgookkogpfbaa.Dk
open Go.ChangeShapes Go.WideShapes Go.ChangeAt Go.RowKit
open Qu (Blk)
open Mv (Only)
open Se (All64 blanks Rows64 noughts noughts_len)
open By (cellsB cellsB_length cellsB_at)
set_option linter.unusedVariables false

/-- A row of flags of the call's own. -/
def Bools (w : World) (B g n cap : Nat) (l : List Bool) : Prop := w.ownsRow B 4 1 (.slice (some ⟨g, 0, none⟩) n cap) n (l.map Value.bool)

/-- Where the parts of the document's disk lie. -/
structure Place where
  x : Nat
  a : Nat
  b : Nat
  c : Nat
  ca : Nat
  cb : Nat
  cc : Nat

/-- The document's disk d, at these places. -/
structure RefAt (w : World) (B : Nat) (p : Place) (d : DS) : Prop where
  ok : d.Ok
  base : B ≤ p.x
  box : Blk w p.x 65 #[.slice (some ⟨p.a, 0, none⟩) d.n p.ca, .slice (some ⟨p.b, 0, none⟩) d.n p.cb, .slice (some ⟨p.c, 0, none⟩) d.n p.cc, .bool d.off, .int .i64 (d.armed : Int)]
  now : Rows64 w B 43 p.a d.n p.ca d.now
  sure : Rows64 w B 43 p.b d.n p.cb d.sure
  loose : Bools w B p.c d.n p.cc d.loose
  ne : p.a ≠ p.b

/-- The blocks of it. -/
def Place.has (p : Place) : Nat → Prop := fun k => k = p.x ∨ k = p.a ∨ k = p.b ∨ k = p.c

section
variable {w w' : World} {B : Nat} {p : Place} {d : DS} {S : Nat → Prop}
theorem RefAt.only (h : RefAt w B p d) (k : Only w w' S) (hs : ∀ i, p.has i → ¬ S i) : RefAt w' B p d :=
  ⟨h.ok, h.base, Mv.blk_only h.box k (hs _ (.inl rfl)), h.now.only k (hs _ (.inr (.inl rfl))), h.sure.only k (hs _ (.inr (.inr (.inl rfl)))),
   Mv.own_only h.loose k fun g hg => by rw [Mv.ownBlock_some] at hg; injection hg with hg; subst hg; exact hs _ (.inr (.inr (.inr rfl))), h.ne⟩

theorem RefAt.below (h : RefAt w B p d) (hb : Below w.heap.size w w') : RefAt w' B p d :=
  h.only (Mv.Only.ofBelow hb fun _ => False) (fun _ _ h => h)

theorem RefAt.apart (h : RefAt w B p d) (n0 : 0 < d.n) : p.x ≠ p.a ∧ p.x ≠ p.b ∧ p.x ≠ p.c ∧ p.c ≠ p.a ∧ p.c ≠ p.b := by
  have h1 := Mv.own_blk_ne h.now.2 h.box (by omega)
  have h2 := Mv.own_blk_ne h.sure.2 h.box (by omega)
  have h3 := Mv.own_blk_ne h.loose h.box (by omega)
  have e1 : ∀ g, p.c = g → ∀ {E size n cap : Nat} {xs : List Value}, w.ownsRow B E size (.slice (some ⟨g, 0, none⟩) n cap) n xs → E = 4 := fun g hg E size n cap xs ho => by
    rcases ho.2 with ⟨h0, _⟩ | ⟨g1, cap1, cur1, hv1, _, hh1, _⟩
    · cases h0
    · rcases h.loose.2 with ⟨h0, _⟩ | ⟨g2, cap2, cur2, hv2, _, hh2, _⟩
      · cases h0
      · cases hv1
        cases hv2
        rw [hg] at hh2
        rw [hh1] at hh2
        injection hh2 with hh2
        injection hh2 with _ ht
  refine ⟨fun e => h1 p.a rfl e.symm, fun e => h2 p.b rfl e.symm, fun e => h3 p.c rfl e.symm, fun e => ?_, fun e => ?_⟩
  · have := e1 p.a e h.now.2
    omega
  · have := e1 p.b e h.sure.2
    omega
end

/-- What a store into the box turns. -/
theorem RefAt.setBox {w : World} {B : Nat} {p : Place} {d d' : DS} {w' : World} (h : RefAt w B p d) (n0 : 0 < d.n) (hb : Blk w' p.x 65 #[.slice (some ⟨p.a, 0, none⟩) d.n p.ca, .slice (some ⟨p.b, 0, none⟩) d.n p.cb, .slice (some ⟨p.c, 0, none⟩) d.n p.cc, .bool d'.off, .int .i64 (d'.armed : Int)])
    (ho : Only w w' (Mv.one p.x)) (e1 : d'.now = d.now) (e2 : d'.sure = d.sure) (e3 : d'.loose = d.loose) : RefAt w' B p d' ∧ Only w w' p.has := by
  obtain ⟨h1, h2, h3, _, _⟩ := h.apart n0
  have en : d'.n = d.n := by unfold DS.n; rw [e1]
  refine ⟨⟨⟨by rw [e1]; exact h.ok.now, by rw [e2]; exact h.ok.sure, by rw [e1, e2]; exact h.ok.len, by rw [e1, e3]; exact h.ok.lens⟩, h.base, by rw [en]; exact hb, ?_, ?_, ?_, h.ne⟩, ho.mono fun i _ e => .inl e⟩
  · rw [en, e1]; exact h.now.only ho fun e => h1 (show p.a = p.x from e).symm
  · rw [en, e2]; exact h.sure.only ho fun e => h2 (show p.b = p.x from e).symm
  · rw [en, e3]
    exact Mv.own_only h.loose ho fun g hg e => by
      rw [Mv.ownBlock_some] at hg
      injection hg with hg
      have e' : g = p.x := e
      omega

theorem rhit_any (w : World) (B : Nat) (p : Place) (d : DS) (h : RefAt w B p d) (n0 : 0 < d.n) (ha : d.armed ≤ 9223372036854775807) :
    Calls Try.prog 51 #[.pointer (some ⟨p.x, 0, none⟩)] w fun e w' => e = .returned (.bool (hitB d)) ∧ RefAt w' B p (tick d) ∧ Only w w' p.has := by
  have c4 := h.box.cell 4
  have f4 := h.box.frozen 4
  have c3 := h.box.cell 3
  have f3 := h.box.frozen 3
  simp at c4 c3
  have a0 : (0 : Int) ≤ (d.armed : Int) := by omega
  have a1 : (d.armed : Int) ≤ 9223372036854775807 := by omega
  by_cases h0 : d.armed = 0
  · have HR : Hid (hitB d = false ∧ RefAt w B p (tick d)) := Lib.hid (by
      refine ⟨by unfold hitB; rw [h0]; rfl, ?_⟩
      have e : tick d = d := by
        cases d
        simp only at h0
        subst h0
        simp [tick]
      rw [e]; exact h)
    have k0 : ¬ (0 : Int) < (d.armed : Int) := by omega
    have k1 : decide (0 < d.armed) = false := by simp; omega
    clear h h0
    go_enter Try.func51, Try.ntmps51
    go_wp2
    go_ret
    exact ⟨by rw [HR.out.1]; rfl, HR.out.2, Mv.Only.refl _ _⟩
  · have k0 : (0 : Int) < (d.armed : Int) := by omega
    have k1 : decide (0 < d.armed) = true := by simp; omega
    by_cases h1 : d.armed = 1
    · have HR : Hid (hitB d = true) := Lib.hid (by unfold hitB; rw [h1]; rfl)
      have HF : Hid (RefAt ((w.setCell ⟨p.x, 4, none⟩ (.int .i64 0)).setCell ⟨p.x, 3, none⟩ (.bool true)) B p (tick d) ∧ Only w ((w.setCell ⟨p.x, 4, none⟩ (.int .i64 0)).setCell ⟨p.x, 3, none⟩ (.bool true)) p.has) := Lib.hid (by
        refine h.setBox n0 ?_ (((Mv.Only.refl w (Mv.one p.x)).put _ fun _ => rfl).put _ fun _ => rfl) rfl rfl rfl
        have hb := (h.box.put 4 (.int .i64 0)).put 3 (.bool true)
        have e1 : (tick d).off = true := by unfold tick; simp [h1]
        have e2 : (tick d).armed = 0 := by unfold tick; simp [h1]
        rw [e1, e2]
        exact hb)
      have ka : (d.armed : Int) - 1 = 0 := by omega
      rw [h1] at c4
      clear h h0 h1
      go_enter Try.func51, Try.ntmps51
      go_wp2
      go_ret
      exact ⟨by rw [HR.out]; rfl, HF.out.1, HF.out.2⟩
    · have HR : Hid (hitB d = false) := Lib.hid (by unfold hitB; simpa using h1)
      have HF : Hid (RefAt (w.setCell ⟨p.x, 4, none⟩ (.int .i64 ((d.armed : Int) - 1))) B p (tick d) ∧ Only w (w.setCell ⟨p.x, 4, none⟩ (.int .i64 ((d.armed : Int) - 1))) p.has) := Lib.hid (by
        refine h.setBox n0 ?_ ((Mv.Only.refl w (Mv.one p.x)).put _ fun _ => rfl) rfl rfl rfl
        have hb := h.box.put 4 (.int .i64 ((d.armed : Int) - 1))
        have e1 : (tick d).off = d.off := by unfold tick; simp [h1]
        have e2 : (((tick d).armed : Nat) : Int) = (d.armed : Int) - 1 := by
          show ((d.armed - 1 : Nat) : Int) = _
          omega
        rw [e1, e2]
        exact hb)
      have ka : ((d.armed : Int) - 1 == 0) = false := beq_eq_false_iff_ne.2 (by omega)
      clear h h0 h1
      go_enter Try.func51, Try.ntmps51
      go_wp2
      go_ret
      exact ⟨by rw [HR.out]; rfl, HF.out.1, HF.out.2⟩

theorem rarm_any (w : World) (B : Nat) (p : Place) (d : DS) (m : Int) (h : RefAt w B p d) (n0 : 0 < d.n) (hm : m ≤ 9223372036854775807) :
    Calls Try.prog 17 #[.pointer (some ⟨p.x, 0, none⟩), .int .i64 m] w fun e w' => e = .returned (.tuple #[]) ∧ RefAt w' B p (armD d m) ∧ Only w w' p.has := by
  obtain ⟨x, hx⟩ : ∃ x : Nat, m.toNat = x := ⟨_, rfl⟩
  have hm1 : (if m < 0 then 0 else m) = (x : Int) := by split <;> omega
  have hm2 : (if 0 < m then m else 0) = (x : Int) := by split <;> omega
  have c4 := h.box.cell 4
  have f4 := h.box.frozen 4
  simp at c4
  have HF : Hid (RefAt (w.setCell ⟨p.x, 4, none⟩ (.int .i64 (x : Int))) B p (armD d m) ∧ Only w (w.setCell ⟨p.x, 4, none⟩ (.int .i64 (x : Int))) p.has) := Lib.hid (by
    refine h.setBox n0 ?_ ((Mv.Only.refl w (Mv.one p.x)).put _ fun _ => rfl) rfl rfl rfl
    have hb := h.box.put 4 (.int .i64 (x : Int))
    have e2 : (armD d m).armed = x := hx
    rw [e2]
    exact hb)
  clear h hx hm
  go_enter Try.func17, Try.ntmps17
  go_wp2
  go_end0
  exact ⟨rfl, HF.out.1, HF.out.2⟩

/-- As the walk meets it: a sector out of a row of them. -/
theorem load_row {ops : Array Oper} {rest : List Oper} {op : Oper} {a : Act} {w : World} {Q : Exit → Act → World → Prop} (free : op.guard = none) (x : Operand) (is : op.op = .load 43 x) {B E g n cap i : Nat} {l : List (List UInt8)} (vx : a.eval x = .pointer (some ⟨g, i * 64, none⟩)) (s : List UInt8) (h : Rows64 w B E g n cap l) (hi : l[i]? = some s)
    (go : wpList Try.prog ops Q rest (a.put op.dst (.agg (secCells s))) w) : wpList Try.prog ops Q (op :: rest) a w := by
  refine wpList_plain free fun K hK => ?_
  have hl := run_loadAt_mid (P := Try.prog) w g (i * 64) 43 (cellsB s) _ (h.range hi) Try.underlying43 rfl (by rw [size_sector, cellsB_length, h.1.at hi])
  unfold Oper.wp execOp
  simp only [is, vx, hl, Sem.run_bind, Sem.run_pure, Result.andThen_ok]
  exact hK _ _ go

theorem two_results {f : Func} {p u : Tmp} {T : TypeId} (hf : f.results = #[.cell p T, .tmp u]) (tmps : Array Value) (w : World) (g : Nat) (s : List UInt8) (v : Value) (hT : T = 43) (h : Sec w g s) (hp : tmps.getD p undef = .pointer (some ⟨g, 0, none⟩)) (hv : tmps.getD u undef = v) : (results f tmps).run Try.prog w = .ok (.tuple #[.agg (secCells s), v]) w := by
  subst hT
  have hl := run_loadVar_row (P := Try.prog) w g 43 43 (secCells s) (0, 0) _ h.2.here Try.underlying43 rfl (by rw [size_sector, secCells_size, h.1])
  rw [results_cell_tmp hf, hp, hv]
  simp only [asAddr, Sem.run_pure, Result.andThen_ok, hl]

/-- A sector is written over, and is loose. -/
theorem RefAt.write {w : World} {B : Nat} {p : Place} {d : DS} {k : Nat} {b : List UInt8} (h : RefAt w B p d) (n0 : 0 < d.n) (hk : k < d.n) (hb : b.length = 64) :
    RefAt ((w.setCells p.a (k * 64) (cellsB b)).setCell ⟨p.c, k, none⟩ (.bool true)) B p { d with now := d.now.set k b, loose := d.loose.set k true } ∧ Only w ((w.setCells p.a (k * 64) (cellsB b)).setCell ⟨p.c, k, none⟩ (.bool true)) p.has := by
  obtain ⟨h1, h2, h3, h4, h5⟩ := h.apart n0
  obtain ⟨hr, hg⟩ := h.now.put (s := b) hk hb
  have ho1 : Only w (w.setCells p.a (k * 64) (cellsB b)) (Mv.one p.a) := Mv.Only.ofGrown hg fun i hi => by injection hi with hi; exact hi.symm
  have hl1 : Bools (w.setCells p.a (k * 64) (cellsB b)) B p.c d.n p.cc d.loose := Mv.own_only h.loose ho1 fun g hg' e => by
    rw [Mv.ownBlock_some] at hg'
    injection hg' with hg'
    have e' : g = p.a := e
    omega
  obtain ⟨hl2, hg2⟩ := World.ownsRow.stored hl1 k (.bool true)
  have ho2 : Only (w.setCells p.a (k * 64) (cellsB b)) ((w.setCells p.a (k * 64) (cellsB b)).setCell ⟨p.c, k, none⟩ (.bool true)) (Mv.one p.c) := Mv.Only.ofGrown hg2 fun i hi => by injection hi with hi; exact hi.symm
  have en : ({ d with now := d.now.set k b, loose := d.loose.set k true } : DS).n = d.n := by unfold DS.n; simp
  have q1 : ∀ i j : Nat, i ≠ j → ¬ Mv.one j i := fun i j hij e => hij e
  refine ⟨⟨⟨h.ok.now.set hb k, h.ok.sure, by simp [h.ok.len], by simp [h.ok.lens]⟩, h.base, ?_, ?_, ?_, ?_, h.ne⟩, ?_⟩
  · rw [en]
    exact Mv.blk_only (Mv.blk_only h.box ho1 (q1 _ _ h1)) ho2 (q1 _ _ h3)
  · rw [en]
    exact hr.only ho2 (q1 _ _ (fun e => h4 e.symm))
  · rw [en]
    exact (h.sure.only ho1 (q1 _ _ (fun e => h.ne e.symm))).only ho2 (q1 _ _ (fun e => h5 e.symm))
  · rw [en]
    unfold Bools
    rw [List.map_set]
    exact hl2
  · exact (ho1.mono fun i _ e => .inr (.inl e)).trans ho2 fun i _ e => .inr (.inr (.inr e))

/-- The rules by which a drawn region reads and writes sectors. -/
theorem RefAt.rules {w : World} {B : Nat} {p : Place} {d : DS} {k : Nat} (h : RefAt w B p d) (n0 : 0 < d.n) (hk : k < d.n) (b : List UInt8) (hb : b.length = 64) :
    (Instr.storeAt 43 (.pointer (some ⟨p.a, k * 64, none⟩)) (.agg (secCells b))).run Try.prog w = .ok () (w.setCells p.a (k * 64) (cellsB b)) ∧ (∃ v, (w.setCells p.a (k * 64) (cellsB b)).cell? ⟨p.c, k, none⟩ = some (.bool v)) ∧ (w.setCells p.a (k * 64) (cellsB b)).frozen? ⟨p.c, k, none⟩ = false := by
  obtain ⟨h1, h2, h3, h4, h5⟩ := h.apart n0
  have hth := h.now.there hk
  refine ⟨run_storeAt_mid (P := Try.prog) w p.a (k * 64) 43 (secCells b) (by rw [secCells_size, hb]; exact hth) (by rw [size_sector, secCells_size, hb]) (all_oneCell_toArray (By.cellsB_one b)), ?_, ?_⟩
  · rw [World.cell?_setCells_out p.a (cellsB b) (k * 64) w ⟨p.c, k, none⟩ (fun e => absurd e h4)]
    have hl := h.loose.1
    rw [h.loose.cellAt k (by omega), List.getElem?_map, List.getElem?_eq_getElem (by rw [List.length_map] at hl; omega)]
    exact ⟨_, rfl⟩
  · rw [World.frozen?_setCells]
    exact h.loose.frozenAt k

end Go.Proofs.Ytedgookkogpfbaa.Dk
end

section
namespace Go.Proofs.Ytedgookkogpfbaa.Dk
open Go.ChangeShapes Go.WideShapes Go.ChangeAt Go.RowKit
open Qu (Blk)
open Mv (Only)
open Se (All64 blanks Rows64 noughts noughts_len)
open By (cellsB cellsB_length cellsB_at)
set_option linter.unusedVariables false

/-- What lies in a cell. -/
def lies (w : World) (a : Addr) : Value := (w.cell? a).getD undef

theorem lies_of {w : World} {a : Addr} {v : Value} (h : w.cell? a = some v) : w.cell? a = some (lies w a) := by unfold lies; rw [h]; rfl

/-- What Write's two stores find: the box's two rows, the bytes that came in, the sector's place, the flag's. -/
theorem keep_drew {w : World} {x a c g k : Nat} {A C : Value} {b : List UInt8}
    (h : w.cell? ⟨x, 0, none⟩ = some A ∧ w.cell? ⟨x, 2, none⟩ = some C ∧ w.rangeAt g 0 (cellsB b) ∧ w.there a (k * 64) 64 ∧ w.cell? ⟨c, k, none⟩ = some (lies w ⟨c, k, none⟩) ∧ w.frozen? ⟨c, k, none⟩ = false) :
    w.drew.cell? ⟨x, 0, none⟩ = some A ∧ w.drew.cell? ⟨x, 2, none⟩ = some C ∧ w.drew.rangeAt g 0 (cellsB b) ∧ w.drew.there a (k * 64) 64 ∧ w.drew.cell? ⟨c, k, none⟩ = some (lies w.drew ⟨c, k, none⟩) ∧ w.drew.frozen? ⟨c, k, none⟩ = false := h

theorem keep_sec {w : World} {x a c g k : Nat} {A C : Value} {b : List UInt8} (vs : List Value) (h1 : x ≠ a) (h2 : c ≠ a) (h3 : g ≠ a)
    (h : w.cell? ⟨x, 0, none⟩ = some A ∧ w.cell? ⟨x, 2, none⟩ = some C ∧ w.rangeAt g 0 (cellsB b) ∧ w.there a (k * 64) 64 ∧ w.cell? ⟨c, k, none⟩ = some (lies w ⟨c, k, none⟩) ∧ w.frozen? ⟨c, k, none⟩ = false) :
    (w.setCells a (k * 64) vs).cell? ⟨x, 0, none⟩ = some A ∧ (w.setCells a (k * 64) vs).cell? ⟨x, 2, none⟩ = some C ∧ (w.setCells a (k * 64) vs).rangeAt g 0 (cellsB b) ∧ (w.setCells a (k * 64) vs).there a (k * 64) 64 ∧ (w.setCells a (k * 64) vs).cell? ⟨c, k, none⟩ = some (lies (w.setCells a (k * 64) vs) ⟨c, k, none⟩) ∧ (w.setCells a (k * 64) vs).frozen? ⟨c, k, none⟩ = false := by
  obtain ⟨q1, q2, q3, q4, q5, q6⟩ := h
  have e : ∀ y : Addr, y.block ≠ a → (w.setCells a (k * 64) vs).cell? y = w.cell? y := fun y hy => World.cell?_setCells_out a vs (k * 64) w y (fun e => absurd e hy)
  exact ⟨(e _ h1).trans q1, (e _ h1).trans q2, World.rangeAt_setCells_apart q3 _ _ _ (.inl h3), World.there_setCells q4 _ _ _, lies_of ((e _ h2).trans q5), by rw [World.frozen?_setCells]; exact q6⟩

theorem keep_flag {w : World} {x a c g k : Nat} {A C : Value} {b : List UInt8} (v : Value) (h1 : x ≠ c) (h2 : a ≠ c) (h3 : g ≠ c)
    (h : w.cell? ⟨x, 0, none⟩ = some A ∧ w.cell? ⟨x, 2, none⟩ = some C ∧ w.rangeAt g 0 (cellsB b) ∧ w.there a (k * 64) 64 ∧ w.cell? ⟨c, k, none⟩ = some (lies w ⟨c, k, none⟩) ∧ w.frozen? ⟨c, k, none⟩ = false) :
    (w.setCell ⟨c, k, none⟩ v).cell? ⟨x, 0, none⟩ = some A ∧ (w.setCell ⟨c, k, none⟩ v).cell? ⟨x, 2, none⟩ = some C ∧ (w.setCell ⟨c, k, none⟩ v).rangeAt g 0 (cellsB b) ∧ (w.setCell ⟨c, k, none⟩ v).there a (k * 64) 64 ∧ (w.setCell ⟨c, k, none⟩ v).cell? ⟨c, k, none⟩ = some (lies (w.setCell ⟨c, k, none⟩ v) ⟨c, k, none⟩) ∧ (w.setCell ⟨c, k, none⟩ v).frozen? ⟨c, k, none⟩ = false := by
  have e1 : w.setCell ⟨c, k, none⟩ v = w.setCells c k [v] := rfl
  rw [e1]
  obtain ⟨q1, q2, q3, q4, q5, q6⟩ := h
  have e : ∀ y : Addr, y.block ≠ c → (w.setCells c k [v]).cell? y = w.cell? y := fun y hy => World.cell?_setCells_out c [v] k w y (fun e => absurd e hy)
  have hs := World.isSome_setCells c [v] k w ⟨c, k, none⟩ (by rw [q5]; rfl)
  obtain ⟨u, hu⟩ := Option.isSome_iff_exists.1 hs
  exact ⟨(e _ h1).trans q1, (e _ h1).trans q2, World.rangeAt_setCells_apart q3 _ _ _ (.inl h3), World.there_setCells q4 _ _ _, lies_of hu, by rw [World.frozen?_setCells]; exact q6⟩

set_option maxRecDepth 100000 in
set_option maxHeartbeats 2000000 in
theorem rwrite_any (w : World) (B : Nat) (p : Place) (d : DS) (i : Int) (b : List UInt8) (h : RefAt w B p d) (n0 : 0 < d.n) (hn : d.n ≤ 1000000) (hb : b.length = 64) (ha : d.armed ≤ 9223372036854775807) :
    Calls Try.prog 19 #[.pointer (some ⟨p.x, 0, none⟩), .int .i64 i, .agg (secCells b)] w fun e w' => e = .returned (.int .i64 (writeE d i)) ∧ RefAt w' B p (writeD d i b) ∧ Only w w' p.has := by
  have c0 := h.box.cell 0
  have c2 := h.box.cell 2
  have c3 := h.box.cell 3
  simp at c0 c2 c3
  have hx := h.box.lt
  have n1 : (d.n : Int) ≤ 1000000 := by omega
  cases ho : d.off with
  | true =>
    rw [ho] at c3
    have HE := Lib.hid (readE_down (i := i) ho)
    have HV : Hid (writeE d i = 9 ∧ writeD d i b = d) := Lib.hid ⟨by unfold writeE; rw [HE.out, if_pos (by decide)], by unfold writeD; rw [HE.out, if_pos (by decide)]⟩
    have HR := Lib.hid h
    clear h ho
    go_enter Try.func19, Try.ntmps19
    go_wp2_with (first
      | (refine box_sec rfl _ rfl _ rfl hb ?_; intro w1 hS1 hB1 hZ1; have d0 := (hB1.cell (p := ⟨p.x, 0, none⟩) hx).trans c0; have d3 := (hB1.cell (p := ⟨p.x, 3, none⟩) hx).trans c3; have HB := Lib.hid (And.intro (HR.out.below hB1) hB1); clear hB1 hZ1 hS1 c0 c2 c3))
    go_ret
    exact ⟨by rw [HV.out.1]; rfl, by rw [HV.out.2]; exact HB.out.1, Mv.Only.ofBelow HB.out.2 _⟩
  | false =>
    rw [ho] at c3
    by_cases hr : 0 ≤ i ∧ i < (d.n : Int)
    · have HE := Lib.hid (readE_ok ho hr.1 hr.2)
      obtain ⟨k, hk⟩ : ∃ k : Nat, i = (k : Int) := ⟨i.toNat, by omega⟩
      subst hk
      have hkn : k < d.n := by omega
      have HR := Lib.hid h
      have k0 : (0 : Int) ≤ (k : Int) := by omega
      have k1 : (k : Int) < (d.n : Int) := by omega
      have k2 : decide (d.n ≤ k) = false := by simp; omega
      have k3 : ¬ (k : Int) < 0 := by omega
      have HA := Lib.hid (h.apart n0)
      have la := (World.ownsRow.lt h.now.2 p.a rfl).2
      have lc := (World.ownsRow.lt h.loose p.c rfl).2
      have HL := Lib.hid (And.intro la lc)
      clear h ho hr la lc
      go_enter Try.func19, Try.ntmps19
      go_wp2_with (first
        | (refine box_sec rfl _ rfl _ rfl hb ?_; intro w1 hS1 hB1 hZ1; have d0 := (hB1.cell (p := ⟨p.x, 0, none⟩) hx).trans c0; have d2 := (hB1.cell (p := ⟨p.x, 2, none⟩) hx).trans c2; have d3 := (hB1.cell (p := ⟨p.x, 3, none⟩) hx).trans c3; have HR1 := Lib.hid (HR.out.below hB1); have HB := Lib.hid (And.intro hB1 hZ1); have HS1 := Lib.hid hS1; clear hB1 hZ1 hS1 c0 c2 c3))
      obtain ⟨g, hg⟩ : ∃ g, w.heap.size = g := ⟨_, rfl⟩
      rw [hg] at HL HB HS1 ⊢
      clear hx
      have q3 := HS1.out.range
      have q4 : w1.there p.a (k * 64) 64 := HR1.out.now.there hkn
      have q5 : w1.cell? ⟨p.c, k, none⟩ = some (lies w1 ⟨p.c, k, none⟩) := by
        have hl := HR1.out.loose.1
        refine lies_of (v := .bool (d.loose.getD k false)) ?_
        rw [HR1.out.loose.cellAt k (by omega), List.getElem?_map, List.getD]
        rw [List.getElem?_eq_getElem (by rw [List.length_map] at hl; omega)]
        rfl
      have q6 := HR1.out.loose.frozenAt k
      have hu : Try.prog.underlying 43 = some (.array 64 5) := Try.underlying43
      have hcl : (cellsB b).length = 64 := by rw [cellsB_length, hb]
      have hi : (Try.prog.info? 43).map (·.size) = some (cellsB b).length := by rw [size_sector, hcl]
      have hone : ∀ v ∈ cellsB b, v.oneCell' = true := By.cellsB_one b
      have HW : Hid (RefAt ((w1.drew.setCells p.a (k * 64) (cellsB b)).setCell ⟨p.c, k, none⟩ (.bool true)) B p { d with now := d.now.set k b, loose := d.loose.set k true } ∧ Only w ((w1.drew.setCells p.a (k * 64) (cellsB b)).setCell ⟨p.c, k, none⟩ (.bool true)) p.has) := Lib.hid (by
        have hd1 : RefAt w1.drew B p d := HR1.out.only (S := fun _ => False) (Mv.Only.refl w1 _).drew (fun _ _ h => h)
        obtain ⟨o1, o2⟩ := hd1.write n0 hkn hb
        exact ⟨o1, (((Mv.Only.ofBelow (by rw [hg]; exact HB.out.1) p.has)).drew).trans o2 fun i _ h => h⟩)
      have HV : Hid (writeE d (k : Int) = (if hitB d then 9 else 0) ∧ writeD d (k : Int) b = tick { d with now := d.now.set k b, loose := d.loose.set k true }) := Lib.hid (by
        refine ⟨?_, ?_⟩
        · unfold writeE
          rw [HE.out, if_neg (fun h => h rfl)]
        · unfold writeD
          rw [HE.out, if_neg (fun h => h rfl), Int.toNat_natCast])
      obtain ⟨hh, hhe⟩ : ∃ hh : Bool, hitB d = hh := ⟨_, rfl⟩
      have HH := Lib.hid hhe
      clear hhe HR HR1 hg
      go_region_held3 (fun w' => w'.cell? ⟨p.x, 0, none⟩ = some (.slice (some ⟨p.a, 0, none⟩) d.n p.ca) ∧ w'.cell? ⟨p.x, 2, none⟩ = some (.slice (some ⟨p.c, 0, none⟩) d.n p.cc) ∧ w'.rangeAt g 0 (cellsB b) ∧ w'.there p.a (k * 64) 64 ∧ w'.cell? ⟨p.c, k, none⟩ = some (lies w' ⟨p.c, k, none⟩) ∧ w'.frozen? ⟨p.c, k, none⟩ = false)
        (first
          | assumption
          | (go_split_ands; exact keep_drew ⟨by assumption, by assumption, by assumption, by assumption, by assumption, by assumption⟩)
          | (go_split_ands; exact keep_sec _ HA.out.1 HA.out.2.2.2.1 (by have := HL.out; omega) ⟨by assumption, by assumption, by assumption, by assumption, by assumption, by assumption⟩)
          | (go_split_ands; exact keep_flag _ HA.out.2.2.1 (Ne.symm HA.out.2.2.2.1) (by have := HL.out; omega) ⟨by assumption, by assumption, by assumption, by assumption, by assumption, by assumption⟩))
        (fail)
      unfold Exit.then
      dsimp only
      cases hh <;>
        go_wp2_with (first
          | (refine (rhit_any _ B p { d with now := d.now.set k b, loose := d.loose.set k true } HW.out.1 (by unfold DS.n; rw [List.length_set]; exact n0) ha).mono ?_; rintro e w3 ⟨rfl, hr3, ho3⟩; have HR3 := Lib.hid (And.intro hr3 ho3); clear hr3 ho3; have hh3 : hitB { d with now := d.now.set k b, loose := d.loose.set k true } = hitB d := rfl; rw [hh3, HH.out]; clear hh3))
      all_goals
        go_ret
        refine ⟨by rw [HV.out.1, HH.out]; rfl, by rw [HV.out.2]; exact HR3.out.1, HW.out.2.trans HR3.out.2 fun i _ h => h⟩
    · have HE := Lib.hid (readE_out (i := i) ho (by omega))
      by_cases hneg : i < 0
      · have i0 : decide (i < 0) = true := by simpa using hneg
        have HV : Hid (writeE d i = 2 ∧ writeD d i b = d) := Lib.hid ⟨by unfold writeE; rw [HE.out, if_pos (by decide)], by unfold writeD; rw [HE.out, if_pos (by decide)]⟩
        have HR := Lib.hid h
        clear h ho hr
        go_enter Try.func19, Try.ntmps19
        go_wp2_with (first
          | (refine box_sec rfl _ rfl _ rfl hb ?_; intro w1 hS1 hB1 hZ1; have d0 := (hB1.cell (p := ⟨p.x, 0, none⟩) hx).trans c0; have d3 := (hB1.cell (p := ⟨p.x, 3, none⟩) hx).trans c3; have HB := Lib.hid (And.intro (HR.out.below hB1) hB1); clear hB1 hZ1 hS1 c0 c2 c3))
        go_ret
        exact ⟨by rw [HV.out.1]; rfl, by rw [HV.out.2]; exact HB.out.1, Mv.Only.ofBelow HB.out.2 _⟩
      · have i0 : decide (i < 0) = false := by simpa using hneg
        have i1 : (d.n : Int) ≤ i := by omega
        have i2 : decide ((d.n : Int) ≤ i) = true := by simpa using i1
        have HV : Hid (writeE d i = 2 ∧ writeD d i b = d) := Lib.hid ⟨by unfold writeE; rw [HE.out, if_pos (by decide)], by unfold writeD; rw [HE.out, if_pos (by decide)]⟩
        have HR := Lib.hid h
        clear h ho hr hneg
        go_enter Try.func19, Try.ntmps19
        go_wp2_with (first
          | (refine box_sec rfl _ rfl _ rfl hb ?_; intro w1 hS1 hB1 hZ1; have d0 := (hB1.cell (p := ⟨p.x, 0, none⟩) hx).trans c0; have d3 := (hB1.cell (p := ⟨p.x, 3, none⟩) hx).trans c3; have HB := Lib.hid (And.intro (HR.out.below hB1) hB1); clear hB1 hZ1 hS1 c0 c2 c3))
        go_ret
        exact ⟨by rw [HV.out.1]; rfl, by rw [HV.out.2]; exact HB.out.1, Mv.Only.ofBelow HB.out.2 _⟩

end Go.Proofs.Ytedgookkogpfbaa.Dk
end

section
namespace Go.Proofs.Ytedgookkogpfbaa.Dk
open Go.ChangeShapes Go.WideShapes Go.ChangeAt Go.RowKit
open Qu (Blk)
open Mv (Only)
open Se (All64 blanks Rows64 noughts noughts_len)
open By (cellsB cellsB_length cellsB_at)
set_option linter.unusedVariables false

theorem info_sector : (Try.prog.info? 43).map (fun i => (i.zero, i.size, i.bytes)) = some (some (.agg (secCells noughts)), 64, 64) := by kernel_rfl

theorem info_bool : (Try.prog.info? 4).map (fun i => (i.zero, i.size, i.bytes)) = some (some (.bool false), 1, 1) := by kernel_rfl

theorem secCells_noughts (k : Nat) (hk : k < 64) : (secCells noughts)[k]? = some (.int .u8 0) := by
  rw [secCells_at]
  unfold noughts
  rw [List.getElem?_replicate, if_pos hk]
  rfl

theorem made_sec (n : Nat) : madeCells (secCells noughts) (n * 64) = (cellsB (blanks n).flatten).toArray := by
  apply Array.ext_getElem?
  intro k
  have e : (cellsB (blanks n).flatten).toArray[k]? = if k < n * 64 then some (.int .u8 0) else none := by
    rw [List.getElem?_toArray, cellsB_at, Se.blanks_flat, List.getElem?_replicate]
    split <;> rfl
  rw [e]
  have hs : (secCells noughts).size = 64 := by rw [secCells_size, noughts_len]
  unfold madeCells
  rw [Array.getElem?_map, Array.getElem?_range, hs]
  split
  · have h1 := secCells_noughts (k % 64) (Nat.mod_lt _ (by omega))
    simp only [Option.map_some]
    rw [getElem!_def, h1]
  · rfl

/-- So many sectors of noughts are made. -/
theorem make_secs (n : Nat) (hn : n ≤ 1000000) (W : World) : (Instr.makeSlice 60 (.int .i64 (n : Int)) (.int .i64 (n : Int))).run Try.prog W = .ok (.slice (some ⟨W.heap.size, 0, none⟩) n n) (W.alloc (.cells (cellsB (blanks n).flatten).toArray 43)) := by
  obtain ⟨i0, hi0, hz0, hz1, hz2⟩ := info_parts info_sector
  have hr := run_make (P := Try.prog) W 60 43 i0 _ Try.underlying60 hi0 hz0 .i64 .i64 (n : Int) (n : Int) (by omega) (by omega) (by rw [hz2]; omega) (by omega)
  rw [hz1] at hr
  simp only [Int.toNat_natCast] at hr
  rw [hr]
  exact congrArg (fun c => Result.ok _ (W.alloc (.cells c 43))) (made_sec n)

theorem make_flags (n : Nat) (hn : n ≤ 1000000) (W : World) : (Instr.makeSlice 61 (.int .i64 (n : Int)) (.int .i64 (n : Int))).run Try.prog W = .ok (.slice (some ⟨W.heap.size, 0, none⟩) n n) (W.alloc (.cells (Array.replicate n (.bool false)) 4)) := by
  obtain ⟨i0, hi0, hz0, hz1, hz2⟩ := info_parts info_bool
  have hr := run_make (P := Try.prog) W 61 4 i0 _ Try.underlying61 hi0 hz0 .i64 .i64 (n : Int) (n : Int) (by omega) (by omega) (by rw [hz2]; omega) (by omega)
  rw [hz1, Nat.mul_one] at hr
  simp only [Int.toNat_natCast] at hr
  have e : madeCells #[Value.bool false] n = Array.replicate n (.bool false) := by
    apply Array.toList_inj.1
    rw [toList_madeCells_one]
    simp
  rw [hr]
  exact congrArg (fun c => Result.ok _ (W.alloc (.cells c 4))) e

/-- Such a disk, where its four blocks are just there. -/
theorem RefAt.fresh {w : World} {B : Nat} (n : Nat) (x a b c : Nat) (hn : n ≤ 1000000) (hB : B ≤ x ∧ B ≤ a ∧ B ≤ b ∧ B ≤ c) (hne : a ≠ b)
    (hx : w.heap[x]? = some (.cells #[.slice (some ⟨a, 0, none⟩) n n, .slice (some ⟨b, 0, none⟩) n n, .slice (some ⟨c, 0, none⟩) n n, .bool false, .int .i64 0] 65))
    (ha : w.heap[a]? = some (.cells (cellsB (blanks n).flatten).toArray 43)) (hb : w.heap[b]? = some (.cells (cellsB (blanks n).flatten).toArray 43))
    (hc : w.heap[c]? = some (.cells (Array.replicate n (.bool false)) 4)) : RefAt w B ⟨x, a, b, c, n, n, n⟩ (dsNew n) := by
  have e0 : (dsNew n).n = n := by show (blanks n).length = n; simp [blanks]
  have el : (cellsB (blanks n).flatten).length = n * 64 := by rw [cellsB_length, Se.flat_length (Se.blanks_all n)]; simp [blanks]
  have hm : n ≤ maxLen := by unfold maxLen; omega
  have row : ∀ g, B ≤ g → w.heap[g]? = some (.cells (cellsB (blanks n).flatten).toArray 43) → Rows64 w B 43 g n n (blanks n) := fun g hBg hg =>
    ⟨Se.blanks_all n, el, .inr ⟨g, n, _, rfl, hBg, hg, Nat.le_refl _, hm, by simpa using el, by simp [← el]⟩⟩
  refine ⟨⟨Se.blanks_all n, Se.blanks_all n, rfl, by simp [dsNew, blanks]⟩, hB.1, ?_, ?_, ?_, ?_, hne⟩
  · rw [e0]; exact ⟨hx⟩
  · rw [e0]; exact row a hB.2.1 ha
  · rw [e0]; exact row b hB.2.2.1 hb
  · rw [e0]
    exact ⟨by simp [dsNew], .inr ⟨c, n, _, rfl, hB.2.2.2, hc, Nat.le_refl _, hm, by simp, by simp [dsNew]⟩⟩

/-- Four new blocks. -/
theorem four (w : World) (o0 o1 o2 o3 : Obj) : ((((w.alloc o0).alloc o1).alloc o2).alloc o3).heap[w.heap.size]? = some o0 ∧ ((((w.alloc o0).alloc o1).alloc o2).alloc o3).heap[w.heap.size + 1]? = some o1 ∧ ((((w.alloc o0).alloc o1).alloc o2).alloc o3).heap[w.heap.size + 1 + 1]? = some o2 ∧ ((((w.alloc o0).alloc o1).alloc o2).alloc o3).heap[w.heap.size + 1 + 1 + 1]? = some o3 ∧ Below w.heap.size w ((((w.alloc o0).alloc o1).alloc o2).alloc o3) := by
  refine ⟨?_, ?_, ?_, ?_, ((((Below.refl _ _).alloc (Nat.le_refl _) _).alloc (by simp) _).alloc (by simp; omega) _).alloc (by simp; omega) _⟩ <;> (have e : ∀ (w : World) o, (w.alloc o).heap = w.heap.push o := fun _ _ => rfl) <;> simp only [e, Array.getElem?_push, Array.size_push] <;> repeat (first | rw [if_neg (by omega)] | rw [if_pos trivial])

/-- What New answers. -/
def NewD (w : World) (n : Nat) (e : Ending) (w' : World) : Prop := ∃ p : Place, e = .returned (.pointer (some ⟨p.x, 0, none⟩)) ∧ RefAt w' w.heap.size p (dsNew n) ∧ (∀ k, p.has k → w.heap.size ≤ k) ∧ Below w.heap.size w w'

theorem new_end {w W : World} {n : Nat} (p : Place) (hn : n ≤ 1000000) (h : RefAt W w.heap.size p (dsNew n)) (hp : ∀ k, p.has k → w.heap.size ≤ k) (hb : Below w.heap.size w W) : NewD w n (.returned (.pointer (some ⟨p.x, 0, none⟩))) W.drew :=
  ⟨p, rfl, h.only (S := fun _ => False) (Mv.Only.refl W _).drew (fun _ _ h => h), hp, ⟨hb.os, hb.tape, hb.output, hb.size, hb.block⟩⟩

theorem rnew_any (w : World) (n : Nat) (hn : n ≤ 1000000) : Calls Try.prog 10 #[.int .i64 (n : Int)] w (NewD w n) := by
  have m1 := make_secs n hn
  have m2 := make_flags n hn
  go_enter Try.func10, Try.ntmps10
  go_wp2_with fail
  go_region
  all_goals
    unfold Exit.then
    dsimp only
    go_wp2_with fail
    go_ret
    obtain ⟨h0, h1, h2, h3, hb⟩ := four w _ _ _ _
    first
      | exact new_end ⟨w.heap.size + 1 + 1 + 1, w.heap.size, w.heap.size + 1, w.heap.size + 1 + 1, n, n, n⟩ hn (RefAt.fresh n _ _ _ _ hn ⟨by omega, by omega, by omega, by omega⟩ (by omega) h3 h0 h1 h2) (fun k hk => by rcases hk with hk | hk | hk | hk <;> rw [hk] <;> dsimp only <;> omega) hb
      | exact new_end ⟨w.heap.size + 1 + 1 + 1, w.heap.size, w.heap.size + 1 + 1, w.heap.size + 1, n, n, n⟩ hn (RefAt.fresh n _ _ _ _ hn ⟨by omega, by omega, by omega, by omega⟩ (by omega) h3 h0 h2 h1) (fun k hk => by rcases hk with hk | hk | hk | hk <;> rw [hk] <;> dsimp only <;> omega) hb
      | exact new_end ⟨w.heap.size + 1 + 1 + 1, w.heap.size + 1, w.heap.size, w.heap.size + 1 + 1, n, n, n⟩ hn (RefAt.fresh n _ _ _ _ hn ⟨by omega, by omega, by omega, by omega⟩ (by omega) h3 h1 h0 h2) (fun k hk => by rcases hk with hk | hk | hk | hk <;> rw [hk] <;> dsimp only <;> omega) hb
      | exact new_end ⟨w.heap.size + 1 + 1 + 1, w.heap.size + 1, w.heap.size + 1 + 1, w.heap.size, n, n, n⟩ hn (RefAt.fresh n _ _ _ _ hn ⟨by omega, by omega, by omega, by omega⟩ (by omega) h3 h1 h2 h0) (fun k hk => by rcases hk with hk | hk | hk | hk <;> rw [hk] <;> dsimp only <;> omega) hb
      | exact new_end ⟨w.heap.size + 1 + 1 + 1, w.heap.size + 1 + 1, w.heap.size, w.heap.size + 1, n, n, n⟩ hn (RefAt.fresh n _ _ _ _ hn ⟨by omega, by omega, by omega, by omega⟩ (by omega) h3 h2 h0 h1) (fun k hk => by rcases hk with hk | hk | hk | hk <;> rw [hk] <;> dsimp only <;> omega) hb
      | exact new_end ⟨w.heap.size + 1 + 1 + 1, w.heap.size + 1 + 1, w.heap.size + 1, w.heap.size, n, n, n⟩ hn (RefAt.fresh n _ _ _ _ hn ⟨by omega, by omega, by omega, by omega⟩ (by omega) h3 h2 h1 h0) (fun k hk => by rcases hk with hk | hk | hk | hk <;> rw [hk] <;> dsimp only <;> omega) hb

end Go.Proofs.Ytedgookkogpfbaa.Dk
end

section
namespace Go.Proofs.Ytedgookkogpfbaa.Dk
open Go.ChangeShapes Go.WideShapes Go.ChangeAt Go.RowKit
open Qu (Blk)
open Mv (Only)
open Se (All64 blanks Rows64 noughts noughts_len)
open By (cellsB cellsB_length cellsB_at)
set_option linter.unusedVariables false

theorem below_then {a b c : World} (h : Below a.heap.size a b) (k : Below b.heap.size b c) : Below a.heap.size a c := h.trans (k.mono h.size)

/-- A copy of a row of sectors, at a step of a region that draws. -/
theorem step_secs {w : World} {ops : Array Oper} {o : Oper} {a : Act} {K : Act → World → Prop} {Q : Exit → Act → World → Prop} {E : Prop} (free : o.guard = none) (s x : Operand)
    (is : o.op = .call { callee := .builtin .append, args := #[s, x], argTypes := #[60, 60] })
    (B BASE g n cap : Nat) (l : List (List UInt8)) (vs : a.eval s = .slice none 0 0) (vx : a.eval x = .slice (some ⟨g, 0, none⟩) n cap) (h : Rows64 w B 43 g n cap l) (n0 : 0 < n) (hn : n ≤ 1000000) (low : BASE ≤ w.heap.size)
    (go : ∀ g' cap' w', Rows64 w' BASE 43 g' n cap' l → Below w.heap.size w w' → g' = w.heap.size → g' < w'.heap.size → K (a.put o.dst (.slice (some ⟨g', 0, none⟩) n cap')) w') :
    if Region.wanted o (yielded ops a.tmps) = true then Oper.wp Try.prog o a w K Q else E := by
  obtain ⟨i0, hi0, hz0, hz1, hz2⟩ := info_parts info_sector
  refine step_append_lies w free s x _ is BASE 43 i0 _ 64 64 Try.underlying60 hi0 hz0 hz1 hz2 (by show (secCells noughts).size = 64; rw [secCells_size, noughts_len]) (by omega) (.slice none 0 0) 0 [] vs (World.ownsRow_nil _ _ _ _)
    ⟨g, 0, none⟩ n cap (cellsB l.flatten) vx h.2.1 (h.2.cells rfl) (By.cellsB_one _) n0 (by unfold maxLen; omega) (by omega) low w.heap.size rfl ?_
  intro g' cap' w' h1 h2 h3 h4
  simp only [Nat.zero_add, List.nil_append] at h1 ⊢
  refine go g' cap' w' ⟨h.1, h1⟩ ((Mv.Only.ofGrown h2 fun k hk => by cases hk).toBelow (S := fun _ => False) (Nat.le_refl _) (fun _ _ h => h)) ?_ h4
  rcases h3 with h3 | h3
  · cases h3
  · exact h3

/-- A copy of a row of flags. -/
theorem step_flags {w : World} {ops : Array Oper} {o : Oper} {a : Act} {K : Act → World → Prop} {Q : Exit → Act → World → Prop} {E : Prop} (free : o.guard = none) (s x : Operand)
    (is : o.op = .call { callee := .builtin .append, args := #[s, x], argTypes := #[61, 61] })
    (B BASE g n cap : Nat) (l : List Bool) (vs : a.eval s = .slice none 0 0) (vx : a.eval x = .slice (some ⟨g, 0, none⟩) n cap) (h : Bools w B g n cap l) (n0 : 0 < n) (hn : n ≤ 1000000) (low : BASE ≤ w.heap.size)
    (go : ∀ g' cap' w', Bools w' BASE g' n cap' l → Below w.heap.size w w' → g' = w.heap.size → g' < w'.heap.size → K (a.put o.dst (.slice (some ⟨g', 0, none⟩) n cap')) w') :
    if Region.wanted o (yielded ops a.tmps) = true then Oper.wp Try.prog o a w K Q else E := by
  obtain ⟨i0, hi0, hz0, hz1, hz2⟩ := info_parts info_bool
  refine step_append_lies w free s x _ is BASE 4 i0 _ 1 1 Try.underlying61 hi0 hz0 hz1 hz2 rfl (by omega) (.slice none 0 0) 0 [] vs (World.ownsRow_nil _ _ _ _)
    ⟨g, 0, none⟩ n cap (l.map Value.bool) vx h.1 (World.ownsRow.cells h rfl) (by intro u hu; obtain ⟨b, _, rfl⟩ := List.mem_map.1 hu; rfl) n0 (by unfold maxLen; omega) (by omega) low w.heap.size rfl ?_
  intro g' cap' w' h1 h2 h3 h4
  simp only [Nat.zero_add, List.nil_append] at h1 ⊢
  refine go g' cap' w' h1 ((Mv.Only.ofGrown h2 fun k hk => by cases hk).toBelow (S := fun _ => False) (Nat.le_refl _) (fun _ _ h => h)) ?_ h4
  rcases h3 with h3 | h3
  · cases h3
  · exact h3

/-- What Copy answers. -/
def CopyD (w : World) (d : DS) (e : Ending) (w' : World) : Prop := ∃ p : Place, e = .returned (.pointer (some ⟨p.x, 0, none⟩)) ∧ RefAt w' w.heap.size p d ∧ (∀ k, p.has k → w.heap.size ≤ k) ∧ Below w.heap.size w w'

/-- Three rows that were laid one behind the other, in whatever order, and a box: such a disk. -/
theorem copy_end {w W : World} {d : DS} (hd : d.Ok) {ga gb gc ca cb cc : Nat} (ha : Rows64 W w.heap.size 43 ga d.n ca d.now) (hb : Rows64 W w.heap.size 43 gb d.n cb d.sure) (hc : Bools W w.heap.size gc d.n cc d.loose)
    (hw : Below w.heap.size w W) (hne : ga ≠ gb) (g1 : w.heap.size ≤ ga) (g2 : w.heap.size ≤ gb) (g3 : w.heap.size ≤ gc) {off : Bool} (ho : d.off = off) {armed : Int} (hm : (d.armed : Int) = armed) :
    CopyD w d (.returned (.pointer (some ⟨W.heap.size, 0, none⟩))) (W.alloc (.cells #[.slice (some ⟨ga, 0, none⟩) d.n ca, .slice (some ⟨gb, 0, none⟩) d.n cb, .slice (some ⟨gc, 0, none⟩) d.n cc, .bool off, .int .i64 armed] 65)) := by
  subst ho hm
  have hal : Below W.heap.size W (W.alloc (.cells #[.slice (some ⟨ga, 0, none⟩) d.n ca, .slice (some ⟨gb, 0, none⟩) d.n cb, .slice (some ⟨gc, 0, none⟩) d.n cc, .bool d.off, .int .i64 (d.armed : Int)] 65)) := (Below.refl _ _).alloc (Nat.le_refl _) _
  have ho := Mv.Only.ofBelow hal fun _ => False
  refine ⟨⟨W.heap.size, ga, gb, gc, ca, cb, cc⟩, rfl, ⟨hd, hw.size, ⟨heap_alloc_new _ _⟩, ha.only ho fun h => h, hb.only ho fun h => h, Mv.own_only hc ho fun _ _ h => h, hne⟩, fun k hk => ?_, below_then hw hal⟩
  rcases hk with hk | hk | hk | hk <;> rw [hk] <;> dsimp only
  · exact hw.size
  · exact g1
  · exact g2
  · exact g3

/-- A fact of a row holds on, where new memory alone is made. -/
theorem rows_on {w w' : World} {B E g n cap : Nat} {l : List (List UInt8)} (h : Rows64 w B E g n cap l) (k : Below w.heap.size w w') : Rows64 w' B E g n cap l := h.only (Mv.Only.ofBelow k fun _ => False) fun h => h

theorem bools_on {w w' : World} {B g n cap : Nat} {l : List Bool} (h : Bools w B g n cap l) (k : Below w.heap.size w w') : Bools w' B g n cap l := Mv.own_only h (Mv.Only.ofBelow k fun _ => False) fun _ _ h => h

theorem keep_copy {w W : World} {p : Place} {d : DS} {off : Bool} {ar : Int} (hx : p.x < w.heap.size)
    (h : w.cell? ⟨p.x, 0, none⟩ = some (.slice (some ⟨p.a, 0, none⟩) d.n p.ca) ∧ w.cell? ⟨p.x, 1, none⟩ = some (.slice (some ⟨p.b, 0, none⟩) d.n p.cb) ∧ w.cell? ⟨p.x, 2, none⟩ = some (.slice (some ⟨p.c, 0, none⟩) d.n p.cc) ∧ w.cell? ⟨p.x, 3, none⟩ = some (.bool off) ∧ w.cell? ⟨p.x, 4, none⟩ = some (.int .i64 ar))
    (hb : Below w.heap.size w W) : W.cell? ⟨p.x, 0, none⟩ = some (.slice (some ⟨p.a, 0, none⟩) d.n p.ca) ∧ W.cell? ⟨p.x, 1, none⟩ = some (.slice (some ⟨p.b, 0, none⟩) d.n p.cb) ∧ W.cell? ⟨p.x, 2, none⟩ = some (.slice (some ⟨p.c, 0, none⟩) d.n p.cc) ∧ W.cell? ⟨p.x, 3, none⟩ = some (.bool off) ∧ W.cell? ⟨p.x, 4, none⟩ = some (.int .i64 ar) ∧ Below w.heap.size w W := by
  have e : ∀ k, W.cell? ⟨p.x, k, none⟩ = w.cell? ⟨p.x, k, none⟩ := fun k => hb.cell (p := ⟨p.x, k, none⟩) hx
  obtain ⟨h0, h1, h2, h3, h4⟩ := h
  exact ⟨(e 0).trans h0, (e 1).trans h1, (e 2).trans h2, (e 3).trans h3, (e 4).trans h4, hb⟩

end Go.Proofs.Ytedgookkogpfbaa.Dk
end

section
namespace Go.Proofs.Ytedgookkogpfbaa.Dk
open Go.ChangeShapes Go.WideShapes Go.ChangeAt Go.RowKit
open Qu (Blk)
open Mv (Only)
open Se (All64 blanks Rows64 noughts noughts_len)
open By (cellsB cellsB_length cellsB_at)
set_option linter.unusedVariables false

/-- A sector of what was written is written over. -/
theorem RefAt.setNow {w : World} {B : Nat} {p : Place} {d : DS} {k : Nat} {b : List UInt8} (h : RefAt w B p d) (n0 : 0 < d.n) (hk : k < d.n) (hb : b.length = 64) :
    RefAt (w.setCells p.a (k * 64) (cellsB b)) B p { d with now := d.now.set k b } ∧ Only w (w.setCells p.a (k * 64) (cellsB b)) p.has := by
  obtain ⟨h1, h2, h3, h4, h5⟩ := h.apart n0
  obtain ⟨hr, hg⟩ := h.now.put (s := b) hk hb
  have ho : Only w (w.setCells p.a (k * 64) (cellsB b)) (Mv.one p.a) := Mv.Only.ofGrown hg fun i hi => by injection hi with hi; exact hi.symm
  have en : ({ d with now := d.now.set k b } : DS).n = d.n := by unfold DS.n; simp
  have q1 : ∀ i j : Nat, i ≠ j → ¬ Mv.one j i := fun i j hij e => hij e
  refine ⟨⟨⟨h.ok.now.set hb k, h.ok.sure, by simp [h.ok.len], by simp [h.ok.lens]⟩, h.base, ?_, ?_, ?_, ?_, h.ne⟩, ho.mono fun i _ e => .inr (.inl e)⟩
  · rw [en]; exact Mv.blk_only h.box ho (q1 _ _ h1)
  · rw [en]; exact hr
  · rw [en]; exact h.sure.only ho (q1 _ _ (fun e => h.ne e.symm))
  · rw [en]
    exact Mv.own_only h.loose ho fun g hg' e => by
      rw [Mv.ownBlock_some] at hg'
      injection hg' with hg'
      have e' : g = p.a := e
      omega

/-- A sector of what is sure is written over. -/
theorem RefAt.setSure {w : World} {B : Nat} {p : Place} {d : DS} {k : Nat} {b : List UInt8} (h : RefAt w B p d) (n0 : 0 < d.n) (hk : k < d.n) (hb : b.length = 64) :
    RefAt (w.setCells p.b (k * 64) (cellsB b)) B p { d with sure := d.sure.set k b } ∧ Only w (w.setCells p.b (k * 64) (cellsB b)) p.has := by
  obtain ⟨h1, h2, h3, h4, h5⟩ := h.apart n0
  obtain ⟨hr, hg⟩ := h.sure.put (s := b) hk hb
  have ho : Only w (w.setCells p.b (k * 64) (cellsB b)) (Mv.one p.b) := Mv.Only.ofGrown hg fun i hi => by injection hi with hi; exact hi.symm
  have q1 : ∀ i j : Nat, i ≠ j → ¬ Mv.one j i := fun i j hij e => hij e
  refine ⟨⟨⟨h.ok.now, h.ok.sure.set hb k, by simp [h.ok.len], h.ok.lens⟩, h.base, ?_, ?_, ?_, ?_, h.ne⟩, ho.mono fun i _ e => .inr (.inr (.inl e))⟩
  · exact Mv.blk_only h.box ho (q1 _ _ h2)
  · exact h.now.only ho (q1 _ _ h.ne)
  · exact hr
  · exact Mv.own_only h.loose ho fun g hg' e => by
      rw [Mv.ownBlock_some] at hg'
      injection hg' with hg'
      have e' : g = p.b := e
      omega

/-- A flag is set. -/
theorem RefAt.setLoose {w : World} {B : Nat} {p : Place} {d : DS} {k : Nat} (h : RefAt w B p d) (n0 : 0 < d.n) (hk : k < d.n) (v : Bool) :
    RefAt (w.setCell ⟨p.c, k, none⟩ (.bool v)) B p { d with loose := d.loose.set k v } ∧ Only w (w.setCell ⟨p.c, k, none⟩ (.bool v)) p.has := by
  obtain ⟨h1, h2, h3, h4, h5⟩ := h.apart n0
  obtain ⟨hl, hg⟩ := World.ownsRow.stored h.loose k (.bool v)
  have ho : Only w (w.setCell ⟨p.c, k, none⟩ (.bool v)) (Mv.one p.c) := Mv.Only.ofGrown hg fun i hi => by injection hi with hi; exact hi.symm
  have q1 : ∀ i j : Nat, i ≠ j → ¬ Mv.one j i := fun i j hij e => hij e
  refine ⟨⟨⟨h.ok.now, h.ok.sure, h.ok.len, by simp [h.ok.lens]⟩, h.base, ?_, ?_, ?_, ?_, h.ne⟩, ho.mono fun i _ e => .inr (.inr (.inr e))⟩
  · exact Mv.blk_only h.box ho (q1 _ _ h3)
  · exact h.now.only ho (q1 _ _ (fun e => h4 e.symm))
  · exact h.sure.only ho (q1 _ _ (fun e => h5 e.symm))
  · unfold Bools
    rw [List.map_set]
    exact hl

theorem RefAt.drew {w : World} {B : Nat} {p : Place} {d : DS} (h : RefAt w B p d) : RefAt w.drew B p d := h.only (S := fun _ => False) (Mv.Only.refl w _).drew (fun _ _ h => h)

/-- What a region that moves a sector from one row to another finds, in whatever order. -/
theorem keep3_drew {w : World} {x s t c k : Nat} {A0 A1 A2 : Value} {b : List UInt8}
    (h : w.cell? ⟨x, 0, none⟩ = some A0 ∧ w.cell? ⟨x, 1, none⟩ = some A1 ∧ w.cell? ⟨x, 2, none⟩ = some A2 ∧ w.rangeAt s (k * 64) (cellsB b) ∧ w.there t (k * 64) 64 ∧ w.cell? ⟨c, k, none⟩ = some (lies w ⟨c, k, none⟩) ∧ w.frozen? ⟨c, k, none⟩ = false) :
    w.drew.cell? ⟨x, 0, none⟩ = some A0 ∧ w.drew.cell? ⟨x, 1, none⟩ = some A1 ∧ w.drew.cell? ⟨x, 2, none⟩ = some A2 ∧ w.drew.rangeAt s (k * 64) (cellsB b) ∧ w.drew.there t (k * 64) 64 ∧ w.drew.cell? ⟨c, k, none⟩ = some (lies w.drew ⟨c, k, none⟩) ∧ w.drew.frozen? ⟨c, k, none⟩ = false := h

theorem keep3_sec {w : World} {x s t c k : Nat} {A0 A1 A2 : Value} {b : List UInt8} (vs : List Value) (h1 : x ≠ t) (h2 : c ≠ t) (h3 : s ≠ t)
    (h : w.cell? ⟨x, 0, none⟩ = some A0 ∧ w.cell? ⟨x, 1, none⟩ = some A1 ∧ w.cell? ⟨x, 2, none⟩ = some A2 ∧ w.rangeAt s (k * 64) (cellsB b) ∧ w.there t (k * 64) 64 ∧ w.cell? ⟨c, k, none⟩ = some (lies w ⟨c, k, none⟩) ∧ w.frozen? ⟨c, k, none⟩ = false) :
    (w.setCells t (k * 64) vs).cell? ⟨x, 0, none⟩ = some A0 ∧ (w.setCells t (k * 64) vs).cell? ⟨x, 1, none⟩ = some A1 ∧ (w.setCells t (k * 64) vs).cell? ⟨x, 2, none⟩ = some A2 ∧ (w.setCells t (k * 64) vs).rangeAt s (k * 64) (cellsB b) ∧ (w.setCells t (k * 64) vs).there t (k * 64) 64 ∧ (w.setCells t (k * 64) vs).cell? ⟨c, k, none⟩ = some (lies (w.setCells t (k * 64) vs) ⟨c, k, none⟩) ∧ (w.setCells t (k * 64) vs).frozen? ⟨c, k, none⟩ = false := by
  obtain ⟨q0, q1, q2, q3, q4, q5, q6⟩ := h
  have e : ∀ y : Addr, y.block ≠ t → (w.setCells t (k * 64) vs).cell? y = w.cell? y := fun y hy => World.cell?_setCells_out t vs (k * 64) w y (fun e => absurd e hy)
  exact ⟨(e _ h1).trans q0, (e _ h1).trans q1, (e _ h1).trans q2, World.rangeAt_setCells_apart q3 _ _ _ (.inl h3), World.there_setCells q4 _ _ _, lies_of ((e _ h2).trans q5), by rw [World.frozen?_setCells]; exact q6⟩

theorem keep3_flag {w : World} {x s t c k : Nat} {A0 A1 A2 : Value} {b : List UInt8} (v : Value) (h1 : x ≠ c) (h2 : t ≠ c) (h3 : s ≠ c)
    (h : w.cell? ⟨x, 0, none⟩ = some A0 ∧ w.cell? ⟨x, 1, none⟩ = some A1 ∧ w.cell? ⟨x, 2, none⟩ = some A2 ∧ w.rangeAt s (k * 64) (cellsB b) ∧ w.there t (k * 64) 64 ∧ w.cell? ⟨c, k, none⟩ = some (lies w ⟨c, k, none⟩) ∧ w.frozen? ⟨c, k, none⟩ = false) :
    (w.setCell ⟨c, k, none⟩ v).cell? ⟨x, 0, none⟩ = some A0 ∧ (w.setCell ⟨c, k, none⟩ v).cell? ⟨x, 1, none⟩ = some A1 ∧ (w.setCell ⟨c, k, none⟩ v).cell? ⟨x, 2, none⟩ = some A2 ∧ (w.setCell ⟨c, k, none⟩ v).rangeAt s (k * 64) (cellsB b) ∧ (w.setCell ⟨c, k, none⟩ v).there t (k * 64) 64 ∧ (w.setCell ⟨c, k, none⟩ v).cell? ⟨c, k, none⟩ = some (lies (w.setCell ⟨c, k, none⟩ v) ⟨c, k, none⟩) ∧ (w.setCell ⟨c, k, none⟩ v).frozen? ⟨c, k, none⟩ = false := by
  have e1 : w.setCell ⟨c, k, none⟩ v = w.setCells c k [v] := rfl
  rw [e1]
  obtain ⟨q0, q1, q2, q3, q4, q5, q6⟩ := h
  have e : ∀ y : Addr, y.block ≠ c → (w.setCells c k [v]).cell? y = w.cell? y := fun y hy => World.cell?_setCells_out c [v] k w y (fun e => absurd e hy)
  have hs := World.isSome_setCells c [v] k w ⟨c, k, none⟩ (by rw [q5]; rfl)
  obtain ⟨u, hu⟩ := Option.isSome_iff_exists.1 hs
  exact ⟨(e _ h1).trans q0, (e _ h1).trans q1, (e _ h1).trans q2, World.rangeAt_setCells_apart q3 _ _ _ (.inl h3), World.there_setCells q4 _ _ _, lies_of hu, by rw [World.frozen?_setCells]; exact q6⟩

/-- The flag of a place. -/
theorem RefAt.flag {w : World} {B : Nat} {p : Place} {d : DS} {k : Nat} (h : RefAt w B p d) (hk : k < d.n) : w.cell? ⟨p.c, k, none⟩ = some (.bool (d.loose.getD k false)) := by
  have hl := h.loose.1
  rw [h.loose.cellAt k (by omega), List.getElem?_map, List.getD]
  rw [List.getElem?_eq_getElem (by rw [List.length_map] at hl; omega)]
  rfl

/-! ### Sync -/
/-- The first k sectors are made sure. -/
def syncN (d : DS) : Nat → DS
  | 0 => d
  | k + 1 => { syncN d k with sure := (syncN d k).sure.set k (d.now.getD k []), loose := (syncN d k).loose.set k false }

theorem syncN_now (d : DS) : ∀ k, (syncN d k).now = d.now ∧ (syncN d k).off = d.off ∧ (syncN d k).armed = d.armed
  | 0 => ⟨rfl, rfl, rfl⟩
  | k + 1 => syncN_now d k

theorem syncN_sure {d : DS} (h : d.Ok) : ∀ k, k ≤ d.n → (syncN d k).sure = d.now.take k ++ d.sure.drop k ∧ (syncN d k).loose = List.replicate k false ++ d.loose.drop k
  | 0, _ => ⟨rfl, rfl⟩
  | k + 1, hk => by
    obtain ⟨h1, h2⟩ := syncN_sure h k (by omega)
    have l1 : d.now.length = d.n := rfl
    have l2 := h.len
    have l3 := h.lens
    obtain ⟨s, hs⟩ : ∃ s, d.now[k]? = some s := ⟨_, List.getElem?_eq_getElem (by omega)⟩
    have hg : d.now.getD k [] = s := by rw [List.getD, hs]; rfl
    refine ⟨?_, ?_⟩
    · show (syncN d k).sure.set k (d.now.getD k []) = _
      rw [h1, hg]
      apply List.ext_getElem?
      intro j
      rcases Nat.lt_trichotomy j k with hj | hj | hj
      · rw [List.getElem?_set_ne (by omega), List.getElem?_append_left (by rw [List.length_take]; omega), List.getElem?_append_left (by rw [List.length_take]; omega), List.getElem?_take, List.getElem?_take, if_pos hj, if_pos (by omega)]
      · subst hj
        rw [List.getElem?_set_self (by rw [List.length_append, List.length_take, List.length_drop]; omega), List.getElem?_append_left (by rw [List.length_take]; omega), List.getElem?_take, if_pos (by omega), hs]
      · rw [List.getElem?_set_ne (by omega), List.getElem?_append_right (by rw [List.length_take]; omega), List.getElem?_append_right (by rw [List.length_take]; omega), List.length_take, List.length_take, List.getElem?_drop, List.getElem?_drop]
        congr 1
        omega
    · show (syncN d k).loose.set k false = _
      rw [h2]
      apply List.ext_getElem?
      intro j
      rcases Nat.lt_trichotomy j k with hj | hj | hj
      · rw [List.getElem?_set_ne (by omega), List.getElem?_append_left (by rw [List.length_replicate]; omega), List.getElem?_append_left (by rw [List.length_replicate]; omega), List.getElem?_replicate, List.getElem?_replicate, if_pos hj, if_pos (by omega)]
      · subst hj
        rw [List.getElem?_set_self (by rw [List.length_append, List.length_replicate, List.length_drop]; omega), List.getElem?_append_left (by rw [List.length_replicate]; omega), List.getElem?_replicate, if_pos (by omega)]
      · rw [List.getElem?_set_ne (by omega), List.getElem?_append_right (by rw [List.length_replicate]; omega), List.getElem?_append_right (by rw [List.length_replicate]; omega), List.length_replicate, List.length_replicate, List.getElem?_drop, List.getElem?_drop]
        congr 1
        omega

theorem syncN_end {d : DS} (h : d.Ok) (ho : d.off = false) (hh : hitB d = false) : syncN (tick d) d.n = syncD d := by
  obtain ⟨h1, h2⟩ := syncN_sure (d := tick d) (tick_ok h) d.n (Nat.le_refl _)
  obtain ⟨h3, h4, h5⟩ := syncN_now (tick d) d.n
  unfold syncD
  rw [ho, if_neg (by simp), hh, if_neg (by simp)]
  have l1 : (tick d).now.take d.n = d.now := List.take_of_length_le (Nat.le_refl _)
  have l2 : (tick d).sure.drop d.n = [] := List.drop_eq_nil_of_le (by show d.sure.length ≤ _; rw [h.len]; exact Nat.le_refl _)
  have l3 : (tick d).loose.drop d.n = [] := List.drop_eq_nil_of_le (by show d.loose.length ≤ _; rw [h.lens]; exact Nat.le_refl _)
  rw [l1, l2, List.append_nil] at h1
  rw [l3, List.append_nil] at h2
  generalize syncN (tick d) d.n = e at *
  cases e
  simp only at h1 h2 h3 h4 h5
  subst h1 h2 h3 h4 h5
  rfl

theorem syncN_step {w : World} {B : Nat} {p : Place} {d : DS} {k : Nat} {s : List UInt8} (h : RefAt w B p (syncN d k)) (n0 : 0 < d.n) (hk : k < d.n) (hs : d.now[k]? = some s) :
    RefAt ((w.setCells p.b (k * 64) (cellsB s)).setCell ⟨p.c, k, none⟩ (.bool false)) B p (syncN d (k + 1)) ∧ Only w ((w.setCells p.b (k * 64) (cellsB s)).setCell ⟨p.c, k, none⟩ (.bool false)) p.has := by
  have hn : (syncN d k).n = d.n := by unfold DS.n; rw [(syncN_now d k).1]
  have hs2 : (syncN d k).now[k]? = some s := by rw [(syncN_now d k).1]; exact hs
  have hg : d.now.getD k [] = s := by rw [List.getD, hs]; rfl
  obtain ⟨h1, o1⟩ := h.setSure (by rw [hn]; exact n0) (by rw [hn]; exact hk) (h.now.1.at hs2)
  obtain ⟨h2, o2⟩ := h1.setLoose (k := k) (by show 0 < (syncN d k).n; rw [hn]; exact n0) (by show k < (syncN d k).n; rw [hn]; exact hk) false
  refine ⟨?_, o1.trans o2 fun i _ h => h⟩
  have e : syncN d (k + 1) = { { syncN d k with sure := (syncN d k).sure.set k s } with loose := (syncN d k).loose.set k false } := by
    show ({ syncN d k with sure := (syncN d k).sure.set k (d.now.getD k []), loose := (syncN d k).loose.set k false } : DS) = _
    rw [hg]
  rw [e]
  exact h2

set_option maxHeartbeats 2000000 in
theorem rsync_any (w : World) (B : Nat) (p : Place) (d : DS) (h : RefAt w B p d) (n0 : 0 < d.n) (hn : d.n ≤ 1000000) (ha : d.armed ≤ 9223372036854775807) :
    Calls Try.prog 66 #[.pointer (some ⟨p.x, 0, none⟩)] w fun e w' => e = .returned (.int .i64 (syncE d)) ∧ RefAt w' B p (syncD d) ∧ Only w w' p.has := by
  have c3 := h.box.cell 3
  simp at c3
  cases ho : d.off with
  | true =>
    rw [ho] at c3
    have HV : Hid (syncE d = 9 ∧ syncD d = d) := Lib.hid ⟨by unfold syncE; rw [ho]; rfl, by unfold syncD; rw [ho]; rfl⟩
    have HR := Lib.hid h
    clear h ho
    go_enter Try.func66, Try.ntmps66
    go_wp2_with fail
    go_ret
    exact ⟨by rw [HV.out.1]; rfl, by rw [HV.out.2]; exact HR.out, Mv.Only.refl _ _⟩
  | false =>
    rw [ho] at c3
    have HR := Lib.hid h
    have HO := Lib.hid ho
    have HK := Lib.hid h.ok
    clear h ho
    cases hh : hitB d with
    | true =>
      have HV : Hid (syncE d = 9 ∧ syncD d = tick d) := Lib.hid ⟨by unfold syncE; rw [HO.out, hh]; rfl, by unfold syncD; rw [HO.out, hh]; rfl⟩
      have HH := Lib.hid hh
      clear hh
      go_enter Try.func66, Try.ntmps66
      go_wp2_with (first
        | (refine (rhit_any w B p d HR.out n0 ha).mono ?_; rintro e w1 ⟨rfl, hr1, ho1⟩; have HR1 := Lib.hid (And.intro hr1 ho1); clear hr1 ho1; rw [HH.out]))
      go_ret
      exact ⟨by rw [HV.out.1]; rfl, by rw [HV.out.2]; exact HR1.out.1, HR1.out.2⟩
    | false =>
      have HV : Hid (syncE d = 0 ∧ syncN (tick d) d.n = syncD d) := Lib.hid ⟨by unfold syncE; rw [HO.out, hh]; rfl, syncN_end HK.out HO.out hh⟩
      have HH := Lib.hid hh
      clear hh
      go_enter Try.func66, Try.ntmps66
      go_wp2_with (first
        | (refine (rhit_any w B p d HR.out n0 ha).mono ?_; rintro e w1 ⟨rfl, hr1, ho1⟩; have HR1 := Lib.hid (And.intro hr1 ho1); clear hr1 ho1; rw [HH.out]))
      have en : (tick d).n = d.n := rfl
      go_loopw [3] (fun s3 wr => ∃ i : Nat, s3 = .int .i64 (i : Int) ∧ i ≤ d.n ∧ RefAt wr B p (syncN (tick d) i) ∧ Only w wr p.has) (fun s3 _ => d.n - (intOf s3).toNat)
      case atStart => exact ⟨0, rfl, by omega, HR1.out.1, HR1.out.2⟩
      case round =>
        clear HR HR1
        obtain ⟨i, rfl, hi, hR, hO⟩ := hrel
        have en2 : (syncN (tick d) i).n = d.n := by unfold DS.n; rw [(syncN_now (tick d) i).1]; rfl
        have c0 := hR.box.cell 0
        have c1 := hR.box.cell 1
        have c2 := hR.box.cell 2
        simp at c0 c1 c2
        rw [en2] at c0 c1 c2
        have i0 : (0 : Int) ≤ (i : Int) := by omega
        have n1 : (d.n : Int) ≤ 1000000 := by omega
        have HR := Lib.hid hR
        have HO2 := Lib.hid hO
        by_cases hlt : i < d.n
        · have i1 : (i : Int) < (d.n : Int) := by omega
          have i2 : decide (i < d.n) = true := by simp; omega
          obtain ⟨s, hs⟩ : ∃ s, d.now[i]? = some s := ⟨_, List.getElem?_eq_getElem hlt⟩
          have hs64 : s.length = 64 := HK.out.now.at hs
          have hs2 : (syncN (tick d) i).now[i]? = some s := by rw [(syncN_now (tick d) i).1]; exact hs
          have HA := Lib.hid (hR.apart (by rw [en2]; exact n0))
          have HNE := Lib.hid hR.ne
          have q3 : wr.rangeAt p.a (i * 64) (cellsB s) := hR.now.range hs2
          have q4 : wr.there p.b (i * 64) 64 := hR.sure.there (by rw [en2]; exact hlt)
          have q5 : wr.cell? ⟨p.c, i, none⟩ = some (lies wr ⟨p.c, i, none⟩) := lies_of (hR.flag (by rw [en2]; exact hlt))
          have q6 := hR.loose.frozenAt i
          have hu : Try.prog.underlying 43 = some (.array 64 5) := Try.underlying43
          have hcl : (cellsB s).length = 64 := by rw [cellsB_length, hs64]
          have hii : (Try.prog.info? 43).map (·.size) = some (cellsB s).length := by rw [size_sector, hcl]
          have hone : ∀ v ∈ cellsB s, v.oneCell' = true := By.cellsB_one s
          have HW : Hid (RefAt ((wr.drew.setCells p.b (i * 64) (cellsB s)).setCell ⟨p.c, i, none⟩ (.bool false)) B p (syncN (tick d) (i + 1)) ∧ Only w ((wr.drew.setCells p.b (i * 64) (cellsB s)).setCell ⟨p.c, i, none⟩ (.bool false)) p.has) := Lib.hid (by
            obtain ⟨o1, o2⟩ := syncN_step hR.drew n0 hlt hs
            exact ⟨o1, hO.drew.trans o2 fun i _ h => h⟩)
          clear hR hO hs hs2 en2 en hs64
          go_wp2_with fail
          go_region_held3 (fun w' => w'.cell? ⟨p.x, 0, none⟩ = some (.slice (some ⟨p.a, 0, none⟩) d.n p.ca) ∧ w'.cell? ⟨p.x, 1, none⟩ = some (.slice (some ⟨p.b, 0, none⟩) d.n p.cb) ∧ w'.cell? ⟨p.x, 2, none⟩ = some (.slice (some ⟨p.c, 0, none⟩) d.n p.cc) ∧ w'.rangeAt p.a (i * 64) (cellsB s) ∧ w'.there p.b (i * 64) 64 ∧ w'.cell? ⟨p.c, i, none⟩ = some (lies w' ⟨p.c, i, none⟩) ∧ w'.frozen? ⟨p.c, i, none⟩ = false)
            (first
              | assumption
              | (go_split_ands; exact keep3_drew ⟨by assumption, by assumption, by assumption, by assumption, by assumption, by assumption, by assumption⟩)
              | (go_split_ands; exact keep3_sec _ HA.out.2.1 HA.out.2.2.2.2 HNE.out ⟨by assumption, by assumption, by assumption, by assumption, by assumption, by assumption, by assumption⟩)
              | (go_split_ands; exact keep3_flag _ HA.out.2.2.1 (Ne.symm HA.out.2.2.2.2) (Ne.symm HA.out.2.2.2.1) ⟨by assumption, by assumption, by assumption, by assumption, by assumption, by assumption, by assumption⟩))
            (fail)
          go_wp2
          go_roundw
          case rel => exact ⟨i + 1, by go_num, by omega, HW.out.1, HW.out.2⟩
          case measure => simp [intOf]; omega
        · have hi64 : i = d.n := by omega
          have i1 : ¬ (i : Int) < (d.n : Int) := by omega
          have i2 : decide (i < d.n) = false := by simp; omega
          have HE : Hid (RefAt wr B p (syncD d)) := Lib.hid (by rw [← HV.out.2, ← hi64]; exact hR)
          clear hi64 hR en2 en
          go_wp2_with fail
          go_ret
          exact ⟨by rw [HV.out.1]; rfl, HE.out, HO2.out⟩

end Go.Proofs.Ytedgookkogpfbaa.Dk
end
