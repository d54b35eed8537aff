/- Rows of ranks and numbers in memory: nothing of the program. -/
import Derived.Test.YtbicdmhmpmdoeaaQuM
import Derived.Deep.AppendLies
import Derived.Deep.Draws
import Derived.Maps.AppendAt
set_option linter.unusedVariables false
namespace Go.Proofs.Ytbicdmhmpmdoeaa.Qu
open Go.RowKit

def cells2 (l : List Pt) : List Value := l.flatMap fun p => [.int .i64 p.1, .int .i64 p.2]

theorem cells2_nil : cells2 [] = [] := rfl

theorem cells2_cons (p : Pt) (l : List Pt) : cells2 (p :: l) = .int .i64 p.1 :: .int .i64 p.2 :: cells2 l := rfl

theorem cells2_append (l m : List Pt) : cells2 (l ++ m) = cells2 l ++ cells2 m := List.flatMap_append

theorem cells2_length : ∀ l, (cells2 l).length = l.length * 2
  | [] => rfl
  | p :: l => by rw [cells2_cons, List.length_cons, List.length_cons, cells2_length l, List.length_cons]; omega

theorem cells2_at0 : ∀ (l : List Pt) (i : Nat), (cells2 l)[i * 2]? = l[i]?.map fun p => Value.int .i64 p.1
  | [], i => by simp [cells2_nil]
  | p :: l, 0 => by simp [cells2_cons]
  | p :: l, i + 1 => by
    rw [cells2_cons, show (i + 1) * 2 = i * 2 + 1 + 1 by omega, List.getElem?_cons_succ, List.getElem?_cons_succ, cells2_at0 l i, List.getElem?_cons_succ]

theorem cells2_at1 : ∀ (l : List Pt) (i : Nat), (cells2 l)[i * 2 + 1]? = l[i]?.map fun p => Value.int .i64 p.2
  | [], i => by simp [cells2_nil]
  | p :: l, 0 => by simp [cells2_cons]
  | p :: l, i + 1 => by
    rw [cells2_cons, show (i + 1) * 2 + 1 = i * 2 + 1 + 1 + 1 by omega, List.getElem?_cons_succ, List.getElem?_cons_succ, cells2_at1 l i, List.getElem?_cons_succ]

theorem cells2_one (l : List Pt) : ∀ u ∈ cells2 l, u.oneCell' = true := by
  intro u hu
  obtain ⟨p, _, hp⟩ := List.mem_flatMap.1 hu
  simp at hp
  rcases hp with rfl | rfl <;> rfl

theorem toList_gt (a : Array Pt) (i : Nat) (hi : i < a.size) : a.toList[i]? = some (gt a i) := by
  unfold gt
  simp [Array.getD, hi]

theorem cells2_set (l : List Pt) (i : Nat) (x : Pt) (hi : i < l.length) : cells2 (l.set i x) = ((cells2 l).set (i * 2) (.int .i64 x.1)).set (i * 2 + 1) (.int .i64 x.2) := by
  induction l generalizing i with
  | nil => simp at hi
  | cons p l ih =>
    cases i with
    | zero => simp [cells2_cons]
    | succ i =>
      rw [List.set_cons_succ, cells2_cons, cells2_cons, show (i + 1) * 2 + 1 = i * 2 + 1 + 1 + 1 by omega, show (i + 1) * 2 = i * 2 + 1 + 1 by omega, List.set_cons_succ, List.set_cons_succ, List.set_cons_succ, List.set_cons_succ, ih i (by simpa using hi)]

theorem cells2_swp (a : Array Pt) (i j : Nat) (hi : i < a.size) (hj : j < a.size) :
    cells2 (swp a i j).toList = ((((cells2 a.toList).set (i * 2) (.int .i64 (gt a j).1)).set (i * 2 + 1) (.int .i64 (gt a j).2)).set (j * 2) (.int .i64 (gt a i).1)).set (j * 2 + 1) (.int .i64 (gt a i).2) := by
  have e : (swp a i j).toList = (a.toList.set i (gt a j)).set j (gt a i) := by
    unfold swp gt
    rw [Array.swapIfInBounds_def, dif_pos hi, dif_pos hj, Array.toList_swap]
    simp only [Array.getD, hi, hj, dif_pos]
    rfl
  rw [e, cells2_set _ _ _ (by simpa using hj), cells2_set _ _ _ (by simpa using hi)]

section
variable {w : World} {B E g n cap : Nat} {a : Array Pt}

/-- The cells of a's elements. -/
theorem row_cell0 (h : w.ownsRow B E 2 (.slice (some ⟨g, 0, none⟩) n cap) n (cells2 a.toList)) (hs : a.size = n) (i : Nat) (hi : i < n) : w.cell? ⟨g, i * 2, none⟩ = some (.int .i64 (gt a i).1) := by
  rw [h.cellAt _ (by omega), cells2_at0, toList_gt a i (by omega)]
  rfl

theorem row_cell1 (h : w.ownsRow B E 2 (.slice (some ⟨g, 0, none⟩) n cap) n (cells2 a.toList)) (hs : a.size = n) (i : Nat) (hi : i < n) : w.cell? ⟨g, i * 2 + 1, none⟩ = some (.int .i64 (gt a i).2) := by
  rw [h.cellAt _ (by omega), cells2_at1, toList_gt a i (by omega)]
  rfl

theorem row_len (h : w.ownsRow B E 2 (.slice (some ⟨g, 0, none⟩) n cap) n (cells2 a.toList)) : a.size = n := by
  have := h.1
  rw [cells2_length] at this
  simp at this
  omega

theorem row_drewN {v : Value} {xs : List Value} {size : Nat} (h : w.ownsRow B E size v n xs) (k : Nat) : (w.drewN k).ownsRow B E size v n xs := h

theorem row_drew {v : Value} {xs : List Value} {size : Nat} (h : w.ownsRow B E size v n xs) : w.drew.ownsRow B E size v n xs := h

theorem row_cap {xs : List Value} {size : Nat} (h : w.ownsRow B E size (.slice (some ⟨g, 0, none⟩) n cap) n xs) : n ≤ cap ∧ (cap : Int) ≤ 9223372036854775807 := by
  rcases h.2 with ⟨h0, _⟩ | ⟨g', cap', cur, hv, hg, hh, hn, hcap, _⟩
  · cases h0
  · cases hv
    unfold maxLen at hcap
    exact ⟨hn, by omega⟩

/-- One fewer. -/
theorem row_pop (h : w.ownsRow B E 2 (.slice (some ⟨g, 0, none⟩) (n + 1) cap) (n + 1) (cells2 a.toList)) (hs : a.size = n + 1) : w.ownsRow B E 2 (.slice (some ⟨g, 0, none⟩) n cap) n (cells2 a.pop.toList) := by
  obtain ⟨h1, h2⟩ := h
  rcases h2 with ⟨h0, _⟩ | ⟨g', cap', cur, hv, hg, hh, hn, hcap, hsz, htake⟩
  · cases h0
  · cases hv
    refine ⟨by rw [cells2_length]; simp [hs], .inr ⟨g, cap, cur, rfl, hg, hh, by omega, hcap, hsz, ?_⟩⟩
    have hne : a.toList ≠ [] := by intro h; have : a.toList.length = n + 1 := by simpa using hs
                                   rw [h] at this; simp at this
    have e : cells2 a.toList = cells2 a.pop.toList ++ cells2 [a.toList.getLast hne] := by
      rw [← cells2_append, Array.toList_pop, List.dropLast_concat_getLast]
    have h3 : (cur.toList.take ((n + 1) * 2)).take (n * 2) = (cells2 a.toList).take (n * 2) := by rw [htake]
    rw [List.take_take, Nat.min_eq_left (by omega)] at h3
    rw [h3, e]
    exact List.take_left' (by rw [cells2_length]; simp [hs])
end

/-- Draws turn nothing. -/
theorem below_draws {B : Nat} {a w : World} (h : Below B a w) (n : Nat) : Below B a (w.drewN n) := ⟨h.os, h.tape, h.output, h.size, h.block⟩

theorem below_undrew {w w' : World} (h : Below w.drew.heap.size w.drew w') : Below w.heap.size w w' := ⟨h.os, h.tape, h.output, h.size, h.block⟩

/-! ### Of the old blocks one alone has turned -/
theorem turned_drew {a w : World} {row : Option Nat} (h : a.grownBy w row) : a.grownBy w.drew row := ⟨h.os, h.tape, h.output, h.size, h.block⟩

theorem turned_at (w : World) (g i : Nat) (u : Value) : w.grownBy (w.setCell ⟨g, i, none⟩ u) (some g) :=
  ⟨rfl, rfl, rfl, by simp [World.setCell], fun k _ hk => Below.heap_setCell w ⟨g, i, none⟩ u k fun e => hk (congrArg some e)⟩

theorem turned_none {a w : World} (h : Below a.heap.size a w) (row : Option Nat) : a.grownBy w row := ⟨h.os, h.tape, h.output, h.size, fun i hi _ => h.block i hi⟩

/-- A row of one's own, where nothing old has turned. -/
theorem row_below {w w' : World} {B E size n : Nat} {v : Value} {xs : List Value} (h : w.ownsRow B E size v n xs) (hb : Below w.heap.size w w') : w'.ownsRow B E size v n xs := by
  refine h.kept (row := none) ⟨hb.os, hb.tape, hb.output, hb.size, fun i hi _ => hb.block i hi⟩ ?_
  cases hv : v.ownBlock <;> simp

/-! ### Boxes -/
/-- Block g is a box of these cells; all of them may be written. -/
structure Blk (w : World) (g : Nat) (t : TypeId) (cs : Array Value) : Prop where
  here : w.heap[g]? = some (.cells cs t (0, 0))

section
variable {w w' : World} {g : Nat} {t : TypeId} {cs : Array Value}
/-- Where the block is what it was, so is the box. -/
theorem Blk.as (h : Blk w g t cs) (e : w'.heap[g]? = w.heap[g]?) : Blk w' g t cs := ⟨e.trans h.here⟩

theorem Blk.lt (h : Blk w g t cs) : g < w.heap.size := (Array.getElem?_eq_some_iff.1 h.here).1

theorem Blk.cell (h : Blk w g t cs) (i : Nat) : w.cell? ⟨g, i, none⟩ = cs[i]? := cell_of_row w g i cs t (0, 0) h.here

theorem Blk.frozen (h : Blk w g t cs) (i : Nat) : w.frozen? ⟨g, i, none⟩ = false := frozen_of_row w g i cs t h.here

theorem Blk.new (w : World) (t : TypeId) (cs : Array Value) : Blk (w.alloc (.cells cs t)) w.heap.size t cs := ⟨heap_alloc_new w _⟩

theorem Blk.put (h : Blk w g t cs) (i : Nat) (u : Value) : Blk (w.setCell ⟨g, i, none⟩ u) g t (cs.setIfInBounds i u) := ⟨heap_setCell_same w g i cs t u h.here⟩

theorem Blk.below (h : Blk w g t cs) (hb : Below w.heap.size w w') : Blk w' g t cs := h.as (hb.block g h.lt)

theorem Blk.grown {row : Option Nat} (h : Blk w g t cs) (hb : w.grownBy w' row) (hg : some g ≠ row) : Blk w' g t cs := h.as (hb.block g h.lt hg)

theorem Blk.alloc (h : Blk w g t cs) (o : Obj) : Blk (w.alloc o) g t cs := h.as (Below.heap_alloc w o g h.lt)

theorem Blk.drew (h : Blk w g t cs) : Blk w.drew g t cs := h.as rfl
end

/-- Blocks of two types are two blocks. -/
theorem own_ne_blk {w : World} {B E size n g cap q t : Nat} {xs : List Value} {cs : Array Value} (h : w.ownsRow B E size (.slice (some ⟨g, 0, none⟩) n cap) n xs) (hq : Blk w q t cs) (hne : E ≠ t) : g ≠ q := by
  rintro rfl
  rcases h.2 with ⟨h0, _⟩ | ⟨g', cap', cur, hv, _, hh, _⟩
  · cases h0
  · cases hv
    rw [hq.here] at hh
    injection hh with hh
    injection hh with _ ht
    exact hne ht.symm

end Go.Proofs.Ytbicdmhmpmdoeaa.Qu
