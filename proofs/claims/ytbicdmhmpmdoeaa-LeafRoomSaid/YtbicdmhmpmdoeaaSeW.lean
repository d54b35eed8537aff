/- Sectors of 64 bytes in memory, and rows of them. Nothing of the program. -/
import Derived.Test.YtbicdmhmpmdoeaaByW
import Derived.Deep.MidRow
set_option linter.unusedVariables false
namespace Go.Proofs.Ytbicdmhmpmdoeaa.Se
open Go.RowKit
open Qu (Blk)
open Mv (Only)
open By (cellsB cellsB_length cellsB_at)

/-- A row of sectors, each of 64 bytes. -/
def All64 (l : List (List UInt8)) : Prop := ∀ s ∈ l, s.length = 64

theorem All64.at {l : List (List UInt8)} {i : Nat} {s : List UInt8} (h : All64 l) (hi : l[i]? = some s) : s.length = 64 := h s (List.mem_of_getElem? hi)

theorem All64.set {l : List (List UInt8)} {s : List UInt8} (h : All64 l) (hs : s.length = 64) (i : Nat) : All64 (l.set i s) := fun t ht => by
  rcases List.mem_or_eq_of_mem_set ht with h1 | h1
  · exact h t h1
  · rw [h1]; exact hs

theorem flat_length : ∀ {l : List (List UInt8)}, All64 l → l.flatten.length = l.length * 64
  | [], _ => rfl
  | s :: l, h => by
    have h1 := flat_length (l := l) fun t ht => h t (List.mem_cons_of_mem _ ht)
    have h2 := h s List.mem_cons_self
    rw [List.flatten_cons, List.length_append, h1, h2, List.length_cons]
    omega

/-- The byte of a row of sectors. -/
theorem flat_at : ∀ {l : List (List UInt8)}, All64 l → ∀ (i j : Nat), j < 64 → l.flatten[i * 64 + j]? = (l[i]?.getD [])[j]?
  | [], _, i, j, _ => by simp
  | s :: l, h, 0, j, hj => by
    have h2 := h s List.mem_cons_self
    rw [List.flatten_cons, List.getElem?_append_left (by omega)]
    simp
  | s :: l, h, i + 1, j, hj => by
    have h1 := flat_at (l := l) (fun t ht => h t (List.mem_cons_of_mem _ ht)) i j hj
    have h2 := h s List.mem_cons_self
    rw [List.flatten_cons, List.getElem?_append_right (by omega), List.getElem?_cons_succ, ← h1]
    congr 1
    omega

/-- A list with others written over it from a place on. -/
def over {α : Type} (xs : List α) (o : Nat) : List α → List α
  | [] => xs
  | v :: r => over (xs.set o v) (o + 1) r

theorem over_length {α : Type} : ∀ (vs xs : List α) (o : Nat), (over xs o vs).length = xs.length
  | [], xs, o => rfl
  | v :: r, xs, o => by rw [over, over_length r, List.length_set]

theorem over_at {α : Type} : ∀ (vs xs : List α) (o k : Nat), o + vs.length ≤ xs.length → (over xs o vs)[k]? = if o ≤ k ∧ k < o + vs.length then vs[k - o]? else xs[k]?
  | [], xs, o, k, _ => by
    rw [over, if_neg]
    simp
  | v :: r, xs, o, k, h => by
    rw [List.length_cons] at h
    rw [over, over_at r (xs.set o v) (o + 1) k (by rw [List.length_set]; omega)]
    by_cases h1 : o + 1 ≤ k ∧ k < o + 1 + r.length
    · rw [if_pos h1, if_pos (by rw [List.length_cons]; omega)]
      have e : k - o = (k - (o + 1)) + 1 := by omega
      rw [e, List.getElem?_cons_succ]
    · rw [if_neg h1]
      by_cases h2 : k = o
      · subst h2
        rw [if_pos (by rw [List.length_cons]; omega), List.getElem?_set_self (by omega)]
        simp
      · rw [if_neg (by rw [List.length_cons]; omega), List.getElem?_set_ne (by omega)]

/-- A sector written over. -/
theorem over_flat {l : List (List UInt8)} {s : List UInt8} {i : Nat} (h : All64 l) (hs : s.length = 64) (hi : i < l.length) : over (cellsB l.flatten) (i * 64) (cellsB s) = cellsB (l.set i s).flatten := by
  have hl := flat_length h
  have hl2 := flat_length (h.set hs i)
  apply List.ext_getElem?
  intro k
  rw [over_at _ _ _ _ (by rw [cellsB_length, cellsB_length, hl, hs]; omega), cellsB_length, hs, cellsB_at, cellsB_at, cellsB_at]
  have e := flat_at (h.set hs i) (k / 64) (k % 64) (by omega)
  have e0 := flat_at h (k / 64) (k % 64) (by omega)
  have ek : k / 64 * 64 + k % 64 = k := by omega
  rw [ek] at e e0
  rw [e, e0]
  by_cases hk : i * 64 ≤ k ∧ k < i * 64 + 64
  · rw [if_pos hk]
    have h1 : k / 64 = i := by omega
    rw [h1, List.getElem?_set_self hi, show k - i * 64 = k % 64 by omega]
    rfl
  · rw [if_neg hk, List.getElem?_set_ne (by omega)]

section
variable {w : World} {B E size g n cap : Nat} {xs : List Value}
/-- Many cells of a row of the call's own are written over. -/
theorem own_over (vs : List Value) : ∀ (xs : List Value) (w : World) (o : Nat), w.ownsRow B E size (.slice (some ⟨g, 0, none⟩) n cap) n xs →
    (w.setCells g o vs).ownsRow B E size (.slice (some ⟨g, 0, none⟩) n cap) n (over xs o vs) ∧ w.grownBy (w.setCells g o vs) (some g) := by
  induction vs with
  | nil => exact fun xs w o h => ⟨h, World.grownBy.refl w _⟩
  | cons v r ih =>
    intro xs w o h
    obtain ⟨h1, h2⟩ := h.stored o v
    obtain ⟨h3, h4⟩ := ih _ _ (o + 1) h1
    exact ⟨h3, h2.trans h4⟩

/-- A part of a row lies there. -/
theorem own_range (h : w.ownsRow B E size (.slice (some ⟨g, 0, none⟩) n cap) n xs) (o : Nat) (vs : List Value) (hv : ∀ j v, vs[j]? = some v → xs[o + j]? = some v) : w.rangeAt g o vs := fun j v hj => by
  have h1 := hv j v hj
  have h2 := (List.getElem?_eq_some_iff.1 h1).1
  have h3 := h.1
  rw [h.cellAt _ (by omega)]
  exact h1

theorem own_there (h : w.ownsRow B E size (.slice (some ⟨g, 0, none⟩) n cap) n xs) (o k : Nat) (hk : o + k ≤ n * size) : w.there g o k := fun j hj => by
  have h3 := h.1
  refine ⟨?_, h.frozenAt _⟩
  rw [h.cellAt _ (by omega), List.getElem?_eq_getElem (by omega)]
  rfl
end

/-- The sectors of a row. -/
def Rows64 (w : World) (B E g n cap : Nat) (l : List (List UInt8)) : Prop := All64 l ∧ w.ownsRow B E 64 (.slice (some ⟨g, 0, none⟩) n cap) n (cellsB l.flatten)

section
variable {w w' : World} {B E g n cap i : Nat} {l : List (List UInt8)} {s : List UInt8}
theorem Rows64.len (h : Rows64 w B E g n cap l) : l.length = n := by
  have := h.2.1
  rw [cellsB_length, flat_length h.1] at this
  omega

theorem Rows64.range (h : Rows64 w B E g n cap l) (hi : l[i]? = some s) : w.rangeAt g (i * 64) (cellsB s) :=
  own_range h.2 _ _ fun j v hj => by
    have hs := h.1.at hi
    have hj2 := (List.getElem?_eq_some_iff.1 hj).1
    rw [cellsB_length, hs] at hj2
    rw [cellsB_at, flat_at h.1 i j hj2, hi]
    rw [cellsB_at] at hj
    exact hj

theorem Rows64.there (h : Rows64 w B E g n cap l) (hi : i < n) : w.there g (i * 64) 64 := own_there h.2 _ _ (by omega)

theorem Rows64.put (h : Rows64 w B E g n cap l) (hi : i < n) (hs : s.length = 64) : Rows64 (w.setCells g (i * 64) (cellsB s)) B E g n cap (l.set i s) ∧ w.grownBy (w.setCells g (i * 64) (cellsB s)) (some g) := by
  obtain ⟨h1, h2⟩ := own_over (cellsB s) _ w (i * 64) h.2
  rw [over_flat h.1 hs (by rw [h.len]; exact hi)] at h1
  exact ⟨⟨h.1.set hs i, h1⟩, h2⟩

theorem Rows64.only {S : Nat → Prop} (h : Rows64 w B E g n cap l) (k : Only w w' S) (hs : ¬ S g) : Rows64 w' B E g n cap l :=
  ⟨h.1, Mv.own_only h.2 k fun g' hg' => by rw [Mv.ownBlock_some] at hg'; injection hg' with hg'; subst hg'; exact hs⟩
end

def noughts : List UInt8 := List.replicate 64 0

theorem noughts_len : noughts.length = 64 := by simp [noughts]

/-- Sectors of noughts. -/
def blanks (n : Nat) : List (List UInt8) := List.replicate n (List.replicate 64 0)

theorem blanks_all (n : Nat) : All64 (blanks n) := fun s hs => by
  rw [(List.mem_replicate.1 hs).2]; simp

theorem blanks_flat : ∀ n, (blanks n).flatten = List.replicate (n * 64) 0
  | 0 => rfl
  | n + 1 => by
    show (List.replicate 64 (0 : UInt8) :: blanks n).flatten = _
    rw [List.flatten_cons, blanks_flat n, List.replicate_append_replicate]
    congr 1
    omega

end Go.Proofs.Ytbicdmhmpmdoeaa.Se
