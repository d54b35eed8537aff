/- A sort that keeps equal ones in their order, as mathematics: rows of places as functions; exchanged, rotated, merged. Nothing here speaks of the program. · The library's stable sort over a row of places: what is asked of the test, what the row holds; two stretches exchanged, turned about. · The library's insertion sort over a row of places. · The library's merge in place: where one stretch is of one place alone. · The library's merge in place, whole. (made by wip/gen-merge.py) · The library's stable sort, whole. -/
import Derived.Test.YtgimcleeamlgcaaKa
import Derived.Test.YtgimcleeamlgcaaRows
import Derived.Test.YtgimcleeamlgcaaBa
import Derived.WalkKit
import Derived.ProofKit
import Derived.Lib.Hide
import Derived.BigQuiet
import Derived.Deep.QuietTactic
import Derived.RegionTactic
import Derived.BigRegion
import Derived.LoopTactic
import Derived.IntWalk
import Derived.Outline
set_option maxRecDepth 100000

section
set_option linter.unusedVariables false
namespace Go.Proofs.Ytgimcleeamlgcaa.St

/-- What a row holds from a to b. -/
def seg (f : Nat → Nat) (a b : Nat) : List Nat := (List.range' a (b - a)).map f

theorem seg_len (f : Nat → Nat) (a b : Nat) : (seg f a b).length = b - a := by unfold seg; simp

theorem seg_get (f : Nat → Nat) {a b k : Nat} (h : k < b - a) : (seg f a b)[k]? = some (f (a + k)) := by
  unfold seg
  rw [List.getElem?_map, List.getElem?_range' h]
  simp

theorem seg_mem {f : Nat → Nat} {a b x : Nat} : x ∈ seg f a b ↔ ∃ i, a ≤ i ∧ i < b ∧ f i = x := by
  unfold seg
  rw [List.mem_map]
  constructor
  · rintro ⟨i, hi, e⟩
    rw [List.mem_range'_1] at hi
    exact ⟨i, hi.1, by omega, e⟩
  · rintro ⟨i, h1, h2, e⟩
    exact ⟨i, List.mem_range'_1.2 ⟨h1, by omega⟩, e⟩

theorem seg_cut (f : Nat → Nat) {a m b : Nat} (h1 : a ≤ m) (h2 : m ≤ b) : seg f a b = seg f a m ++ seg f m b := by
  unfold seg
  rw [← List.map_append]
  congr 1
  have := List.range'_append_1 (s := a) (m := m - a) (n := b - m)
  rw [show a + (m - a) = m by omega, show m - a + (b - m) = b - a by omega] at this
  exact this.symm

theorem seg_congr {f g : Nat → Nat} {a b : Nat} (h : ∀ k, a ≤ k → k < b → f k = g k) : seg f a b = seg g a b := by
  unfold seg
  refine List.map_congr_left fun k hk => ?_
  rw [List.mem_range'_1] at hk
  exact h k hk.1 (by omega)

theorem seg_shift {f g : Nat → Nat} {a b c d : Nat} (hl : b - a = d - c) (h : ∀ k, k < b - a → f (a + k) = g (c + k)) : seg f a b = seg g c d := by
  apply List.ext_getElem?
  intro k
  by_cases hk : k < b - a
  · rw [seg_get f hk, seg_get g (by omega), h k hk]
  · rw [List.getElem?_eq_none (by rw [seg_len]; omega), List.getElem?_eq_none (by rw [seg_len]; omega)]

/-- Two places exchanged; two stretches of n exchanged; two neighbouring stretches exchanged. -/
def swp (f : Nat → Nat) (i j : Nat) : Nat → Nat := fun k => if k = i then f j else if k = j then f i else f k

def swr (f : Nat → Nat) (a b n : Nat) : Nat → Nat := fun k => if a ≤ k ∧ k < a + n then f (k - a + b) else if b ≤ k ∧ k < b + n then f (k - b + a) else f k

def rot (f : Nat → Nat) (a m b : Nat) : Nat → Nat := fun k => if a ≤ k ∧ k < a + (b - m) then f (k - a + m) else if a + (b - m) ≤ k ∧ k < b then f (k - (b - m)) else f k

theorem swr_none (f : Nat → Nat) (a b : Nat) : swr f a b 0 = f := by
  funext k
  unfold swr
  rw [if_neg (by omega), if_neg (by omega)]

theorem swr_more (f : Nat → Nat) {a b n i : Nat} (h : a + n ≤ b) (hi : i < n) : swp (swr f a b i) (a + i) (b + i) = swr f a b (i + 1) := by
  funext k
  simp only [swp, swr]
  by_cases h1 : k = a + i
  · subst h1
    rw [if_pos rfl, if_neg (by omega), if_neg (by omega), if_pos (by omega)]
    congr 1; omega
  · by_cases h2 : k = b + i
    · subst h2
      rw [if_neg (by omega), if_pos rfl, if_neg (by omega), if_neg (by omega), if_neg (by omega), if_pos (by omega)]
      congr 1; omega
    · rw [if_neg h1, if_neg h2]
      by_cases h3 : a ≤ k ∧ k < a + i
      · rw [if_pos h3, if_pos (by omega)]
      · rw [if_neg h3]
        by_cases h4 : b ≤ k ∧ k < b + i
        · rw [if_pos h4, if_neg (by omega), if_pos (by omega)]
        · rw [if_neg h4, if_neg (by omega), if_neg (by omega)]

theorem rot_left (f : Nat → Nat) {m i j : Nat} (hi : i ≤ m) (h : j < i) : rot (swr f (m - i) m j) (m - i + j) m (m + j) = rot f (m - i) m (m + j) := by
  funext k
  simp only [rot, swr]
  by_cases h1 : m - i ≤ k ∧ k < m - i + j
  · rw [if_neg (by omega), if_neg (by omega), if_pos h1, if_pos (by omega)]
  · by_cases h2 : m - i + j ≤ k ∧ k < m + j
    · rw [if_neg (by omega : ¬ (m - i ≤ k ∧ k < m - i + (m + j - m))), if_pos (by omega : m - i + (m + j - m) ≤ k ∧ k < m + j)]
      by_cases h3 : k < m - i + j + j
      · rw [if_pos (by omega), if_neg (by omega), if_pos (by omega)]
        congr 1; omega
      · rw [if_neg (by omega), if_pos (by omega), if_neg (by omega), if_neg (by omega)]
    · rw [if_neg (by omega), if_neg (by omega), if_neg h1, if_neg (by omega), if_neg (by omega), if_neg (by omega)]

theorem rot_right (f : Nat → Nat) {m i j : Nat} (hi : i ≤ m) (h : i < j) : rot (swr f (m - i) (m + j - i) i) (m - i) m (m + (j - i)) = rot f (m - i) m (m + j) := by
  funext k
  simp only [rot, swr]
  by_cases h0 : m - i ≤ k ∧ k < m + j
  · by_cases h1 : k < m - i + (j - i)
    · rw [if_pos (by omega : m - i ≤ k ∧ k < m - i + (m + (j - i) - m)), if_pos (by omega : m - i ≤ k ∧ k < m - i + (m + j - m)), if_neg (by omega), if_neg (by omega)]
    · by_cases h2 : k < m - i + j
      · rw [if_neg (by omega : ¬ (m - i ≤ k ∧ k < m - i + (m + (j - i) - m))), if_pos (by omega : m - i + (m + (j - i) - m) ≤ k ∧ k < m + (j - i)), if_pos (by omega), if_pos (by omega)]
        congr 1; omega
      · rw [if_neg (by omega), if_neg (by omega), if_neg (by omega), if_pos (by omega), if_neg (by omega), if_pos (by omega)]
        congr 1; omega
  · rw [if_neg (by omega), if_neg (by omega), if_neg (by omega), if_neg (by omega), if_neg (by omega), if_neg (by omega)]

theorem rot_last (f : Nat → Nat) {m i : Nat} (hi : i ≤ m) : swr f (m - i) m i = rot f (m - i) m (m + i) := by
  funext k
  simp only [rot, swr]
  by_cases h1 : m - i ≤ k ∧ k < m - i + i
  · rw [if_pos h1, if_pos (by omega)]
  · rw [if_neg h1]
    by_cases h2 : m ≤ k ∧ k < m + i
    · rw [if_pos h2, if_neg (by omega), if_pos (by omega)]
      congr 1; omega
    · rw [if_neg h2, if_neg (by omega), if_neg (by omega)]

theorem rot_none (f : Nat → Nat) (m b : Nat) : rot f m m b = f := by
  funext k
  unfold rot
  by_cases h1 : m ≤ k ∧ k < m + (b - m)
  · rw [if_pos h1]; congr 1; omega
  · rw [if_neg h1, if_neg (by omega)]

theorem rot_end (f : Nat → Nat) (a m : Nat) : rot f a m m = f := by
  funext k
  unfold rot
  rw [if_neg (by omega)]
  by_cases h1 : a + (m - m) ≤ k ∧ k < m
  · rw [if_pos h1]; congr 1; omega
  · rw [if_neg h1]

/-- One more step to the right; to the left. -/
theorem rot_up (f : Nat → Nat) {a k : Nat} (h : a ≤ k) : swp (rot f a (a + 1) (k + 1)) k (k + 1) = rot f a (a + 1) (k + 2) := by
  funext x
  simp only [swp, rot]
  by_cases h1 : x = k
  · subst h1
    rw [if_pos rfl, if_neg (by omega), if_neg (by omega), if_pos (by omega)]
    congr 1; omega
  · by_cases h2 : x = k + 1
    · subst h2
      rw [if_neg (by omega), if_pos rfl, if_neg (by omega), if_pos (by omega), if_neg (by omega), if_pos (by omega)]
      congr 1; omega
    · rw [if_neg h1, if_neg h2]
      by_cases h3 : a ≤ x ∧ x < k
      · rw [if_pos (by omega), if_pos (by omega)]
      · rw [if_neg (by omega), if_neg (by omega), if_neg (by omega), if_neg (by omega)]

theorem rot_down (f : Nat → Nat) {k m : Nat} (h : k + 1 ≤ m) : swp (rot f (k + 1) m (m + 1)) (k + 1) k = rot f k m (m + 1) := by
  funext x
  simp only [swp, rot]
  by_cases h1 : x = k + 1
  · subst h1
    rw [if_pos rfl, if_neg (by omega), if_neg (by omega), if_neg (by omega), if_pos (by omega)]
    congr 1; omega
  · by_cases h2 : x = k
    · subst h2
      rw [if_neg (by omega), if_pos rfl, if_pos (by omega), if_pos (by omega)]
      congr 1; omega
    · rw [if_neg h1, if_neg h2]
      by_cases h3 : k + 1 < x ∧ x < m + 1
      · rw [if_neg (by omega), if_pos (by omega), if_neg (by omega), if_pos (by omega)]

      · rw [if_neg (by omega), if_neg (by omega), if_neg (by omega), if_neg (by omega)]

theorem rot_out (f : Nat → Nat) {a m b k : Nat} (h1 : a ≤ m) (h2 : m ≤ b) (h : ¬ (a ≤ k ∧ k < b)) : rot f a m b k = f k := by
  unfold rot
  rw [if_neg (by omega), if_neg (by omega)]

theorem rot_perm (f : Nat → Nat) {a m b : Nat} (h1 : a ≤ m) (h2 : m ≤ b) : (seg f a b).Perm (seg (rot f a m b) a b) := by
  have e : seg (rot f a m b) a b = seg f m b ++ seg f a m := by
    rw [seg_cut (rot f a m b) (m := a + (b - m)) (by omega) (by omega)]
    congr 1
    · refine seg_shift (by omega) fun k hk => ?_
      unfold rot
      rw [if_pos (by omega)]; congr 1; omega
    · refine seg_shift (by omega) fun k hk => ?_
      unfold rot
      rw [if_neg (by omega), if_pos (by omega)]; congr 1; omega
  rw [e, seg_cut f h1 h2]
  exact List.perm_append_comm

/-- What is turned within, is turned within more. -/
theorem perm_wide {f g : Nat → Nat} {a b c d : Nat} (h : (seg f a b).Perm (seg g a b)) (ho : ∀ k, ¬ (a ≤ k ∧ k < b) → g k = f k) (h1 : c ≤ a) (h2 : a ≤ b) (h3 : b ≤ d) : (seg f c d).Perm (seg g c d) := by
  rw [seg_cut f h1 (by omega : a ≤ d), seg_cut g h1 (by omega : a ≤ d), seg_cut f h2 h3, seg_cut g h2 h3]
  rw [seg_congr (f := f) (g := g) (a := c) (b := a) fun k _ hk => (ho k (by omega)).symm, seg_congr (f := f) (g := g) (a := b) (b := d) fun k hk _ => (ho k (by omega)).symm]
  exact List.Perm.append (List.Perm.refl _) (List.Perm.append h (List.Perm.refl _))

/-- What is asked of an order, and of a test: of a lesser place and a greater one, is the greater one ahead? -/
structure Ord (R : Nat → Nat → Prop) (c : Nat → Nat → Bool) : Prop where
  trans : ∀ {x y z}, R x y → R y z → R x z
  no : ∀ {x y}, x < y → c y x = false → R x y
  yes : ∀ {x y}, x < y → c y x = true → R y x

def Srt (R : Nat → Nat → Prop) (f : Nat → Nat) (a b : Nat) : Prop := ∀ i j, a ≤ i → i < j → j < b → R (f i) (f j)

/-- Each of the first is less, as a number, than each of the second. -/
def Apart (f : Nat → Nat) (a m b : Nat) : Prop := ∀ i j, a ≤ i → i < m → m ≤ j → j < b → f i < f j

/-- Sorted, and the same ones. -/
structure Mrg (R : Nat → Nat → Prop) (f g : Nat → Nat) (a b : Nat) : Prop where
  out : ∀ k, ¬ (a ≤ k ∧ k < b) → g k = f k
  perm : (seg f a b).Perm (seg g a b)
  sorted : Srt R g a b

section
variable {R : Nat → Nat → Prop} {c : Nat → Nat → Bool} {f g : Nat → Nat} {a m b s : Nat}
theorem Mrg.mem (h : Mrg R f g a b) {i : Nat} (h1 : a ≤ i) (h2 : i < b) : ∃ k, a ≤ k ∧ k < b ∧ f k = g i :=
  seg_mem.1 (h.perm.mem_iff.2 (seg_mem.2 ⟨i, h1, h2, rfl⟩))

theorem Srt.same (h : Srt R f a b) (e : ∀ k, a ≤ k → k < b → g k = f k) : Srt R g a b := fun i j h1 h2 h3 => by
  rw [e i h1 (by omega), e j (by omega) h3]
  exact h i j h1 h2 h3

theorem Srt.part (h : Srt R f a b) {c d : Nat} (h1 : a ≤ c) (h2 : d ≤ b) : Srt R f c d := fun i j g1 g2 g3 => h i j (by omega) g2 (by omega)

/-- Two sorted stretches, each of the first ahead of each of the second. -/
theorem Srt.join (h1 : Srt R f a m) (h2 : Srt R f m b) (h : ∀ i j, a ≤ i → i < m → m ≤ j → j < b → R (f i) (f j)) : Srt R f a b := fun i j g1 g2 g3 => by
  by_cases e1 : j < m
  · exact h1 i j g1 g2 e1
  · by_cases e2 : i < m
    · exact h i j g1 e2 (by omega) g3
    · exact h2 i j (by omega) g2 g3

/-- One is laid into those behind it. -/
theorem first_in (O : Ord R c) (hs : Srt R f m b) (ha : Apart f a m b) (hm : m = a + 1) (h1 : m ≤ s) (h2 : s ≤ b) (hl : m < s → c (f (s - 1)) (f a) = true) (hr : s < b → c (f s) (f a) = false) : Mrg R f (rot f a m s) a b := by
  have hmb : a < b := by omega
  refine ⟨fun k hk => rot_out f (by omega) h1 (by omega), perm_wide (rot_perm f (by omega) h1) (fun k hk => rot_out f (by omega) h1 hk) (Nat.le_refl _) (by omega) h2, ?_⟩
  have e1 : ∀ k, a ≤ k → k < s - 1 → rot f a m s k = f (k + 1) := fun k g1 g2 => by
    unfold rot; rw [if_pos (by omega)]; congr 1; omega
  have e2 : rot f a m s (s - 1) = f a := by
    unfold rot; rw [if_neg (by omega), if_pos (by omega)]; congr 1; omega
  have e3 : ∀ k, s ≤ k → rot f a m s k = f k := fun k g1 => rot_out f (by omega) h1 (by omega)
  have r1 : ∀ k, m ≤ k → k < s → R (f k) (f a) := fun k g1 g2 => by
    have h3 := O.yes (ha a (s - 1) (Nat.le_refl _) (by omega) (by omega) (by omega)) (hl (by omega))
    by_cases e : k = s - 1
    · subst e; exact h3
    · exact O.trans (hs k (s - 1) g1 (by omega) (by omega)) h3
  have r2 : ∀ k, s ≤ k → k < b → R (f a) (f k) := fun k g1 g2 => by
    have h3 := O.no (ha a s (Nat.le_refl _) (by omega) (by omega) (by omega)) (hr (by omega))
    by_cases e : k = s
    · subst e; exact h3
    · exact O.trans h3 (hs s k (by omega) (by omega) g2)
  intro i j g1 g2 g3
  by_cases c1 : i < s - 1
  · rw [e1 i g1 c1]
    by_cases c2 : j < s - 1
    · rw [e1 j (by omega) c2]; exact hs _ _ (by omega) (by omega) (by omega)
    · by_cases c3 : j = s - 1
      · subst c3; rw [e2]; exact r1 _ (by omega) (by omega)
      · rw [e3 j (by omega)]; exact hs _ _ (by omega) (by omega) g3
  · by_cases c2 : i = s - 1
    · subst c2
      rw [e2, e3 j (by omega)]; exact r2 j (by omega) g3
    · rw [e3 i (by omega), e3 j (by omega)]; exact hs _ _ (by omega) g2 g3

/-- One is laid into those ahead of it. -/
theorem last_in (O : Ord R c) (hs : Srt R f a m) (ha : Apart f a m b) (hm : b = m + 1) (h1 : a ≤ s) (h2 : s ≤ m) (hl : a < s → c (f m) (f (s - 1)) = false) (hr : s < m → c (f m) (f s) = true) : Mrg R f (rot f s m b) a b := by
  refine ⟨fun k hk => rot_out f h2 (by omega) (by omega), perm_wide (rot_perm f h2 (by omega)) (fun k hk => rot_out f h2 (by omega) hk) h1 (by omega) (Nat.le_refl _), ?_⟩
  have e1 : ∀ k, s < k → k < b → rot f s m b k = f (k - 1) := fun k g1 g2 => by
    unfold rot; rw [if_neg (by omega), if_pos (by omega)]; congr 1; omega
  have e2 : rot f s m b s = f m := by
    unfold rot; rw [if_pos (by omega)]; congr 1; omega
  have e3 : ∀ k, k < s → rot f s m b k = f k := fun k g1 => rot_out f h2 (by omega) (by omega)
  have r1 : ∀ k, a ≤ k → k < s → R (f k) (f m) := fun k g1 g2 => by
    have h3 := O.no (ha (s - 1) m (by omega) (by omega) (by omega) (by omega)) (hl (by omega))
    by_cases e : k = s - 1
    · subst e; exact h3
    · exact O.trans (hs k (s - 1) g1 (by omega) (by omega)) h3
  have r2 : ∀ k, s ≤ k → k < m → R (f m) (f k) := fun k g1 g2 => by
    have h3 := O.yes (ha s m (by omega) (by omega) (by omega) (by omega)) (hr (by omega))
    by_cases e : k = s
    · subst e; exact h3
    · exact O.trans h3 (hs s k (by omega) (by omega) g2)
  intro i j g1 g2 g3
  by_cases c1 : i < s
  · rw [e3 i c1]
    by_cases c2 : j < s
    · rw [e3 j c2]; exact hs _ _ (by omega) (by omega) (by omega)
    · by_cases c3 : j = s
      · subst c3; rw [e2]; exact r1 _ (by omega) (by omega)
      · rw [e1 j (by omega) g3]; exact hs _ _ (by omega) (by omega) (by omega)
  · by_cases c2 : i = s
    · subst c2
      rw [e2, e1 j (by omega) g3]; exact r2 _ (by omega) (by omega)
    · rw [e1 i (by omega) (by omega), e1 j (by omega) g3]; exact hs _ _ (by omega) (by omega) (by omega)

/-- The cut of a merge: what is ahead of the middle then is ahead of what is behind it. -/
structure Cutting (R : Nat → Nat → Prop) (f : Nat → Nat) (a m b mid s e : Nat) : Prop where
  sa : a ≤ s
  sm : s ≤ m
  smid : s ≤ mid
  me : m ≤ e
  mide : mid ≤ e
  eb : e ≤ b
  sum : s + e = mid + m
  left : Srt R f a m
  right : Srt R f m b
  low : a < s → e < b → R (f (s - 1)) (f e)
  high : m < e → s < m → R (f (e - 1)) (f s)

variable {mid e : Nat}
theorem Cutting.front (h : Cutting R f a m b mid s e) {i : Nat} (h1 : i < s) : rot f s m e i = f i := rot_out f h.sm h.me (by omega)
theorem Cutting.back (h : Cutting R f a m b mid s e) {i : Nat} (h1 : e ≤ i) : rot f s m e i = f i := rot_out f h.sm h.me (by omega)
theorem Cutting.turned (h : Cutting R f a m b mid s e) {i : Nat} (h1 : s ≤ i) (h2 : i < mid) : rot f s m e i = f (i - s + m) := by
  have := h.sum; have := h.me
  unfold rot; rw [if_pos (by omega)]
theorem Cutting.turned2 (h : Cutting R f a m b mid s e) {i : Nat} (h1 : mid ≤ i) (h2 : i < e) : rot f s m e i = f (i - (mid - s)) := by
  have := h.sum; have := h.me; have := h.smid; have := h.sm
  unfold rot; rw [if_neg (by omega), if_pos (by omega)]; congr 1; omega

theorem Cutting.across (h : Cutting R f a m b mid s e) (O : Ord R c) {i j : Nat} (h1 : a ≤ i) (h2 : i < mid) (h3 : mid ≤ j) (h4 : j < b) : R (rot f s m e i) (rot f s m e j) := by
  obtain ⟨g1, g2, g3, g4, g5, g6, g7, hl, hr, hlow, hhigh⟩ := id h
  by_cases c1 : i < s
  · rw [h.front c1]
    by_cases c2 : j < e
    · rw [h.turned2 h3 c2]; exact hl _ _ h1 (by omega) (by omega)
    · rw [h.back (by omega)]
      have h5 := hlow (by omega) (by omega)
      have h6 : R (f i) (f e) := by
        by_cases c3 : i = s - 1
        · subst c3; exact h5
        · exact O.trans (hl i (s - 1) h1 (by omega) (by omega)) h5
      by_cases c3 : j = e
      · subst c3; exact h6
      · exact O.trans h6 (hr e j g4 (by omega) h4)
  · rw [h.turned (by omega) h2]
    by_cases c2 : j < e
    · rw [h.turned2 h3 c2]
      have h5 := hhigh (by omega) (by omega)
      have h6 : R (f (i - s + m)) (f s) := by
        by_cases c3 : i - s + m = e - 1
        · rw [c3]; exact h5
        · exact O.trans (hr _ (e - 1) (by omega) (by omega) (by omega)) h5
      by_cases c3 : j - (mid - s) = s
      · rw [c3]; exact h6
      · exact O.trans h6 (hl s _ g1 (by omega) (by omega))
    · rw [h.back (by omega)]; exact hr _ _ (by omega) (by omega) h4

/-- Both halves merged: all of it is. -/
theorem Cutting.done (h : Cutting R f a m b mid s e) (O : Ord R c) (h1 : a ≤ mid) (h2 : mid ≤ b) {g k : Nat → Nat} (hg : Mrg R (rot f s m e) g a mid) (hk : Mrg R g k mid b) : Mrg R f k a b := by
  obtain ⟨g1, g2, g3, g4, g5, g6, g7, hl, hr, hlow, hhigh⟩ := id h
  refine ⟨fun i hi => ?_, ?_, ?_⟩
  · rw [hk.out i (by omega), hg.out i (by omega)]
    exact rot_out f g2 g4 (by omega)
  · have p1 := perm_wide (rot_perm f g2 g4) (fun k hk => rot_out f g2 g4 hk) g1 (by omega) g6
    have p2 := perm_wide hg.perm hg.out (Nat.le_refl a) h1 h2
    have p3 := perm_wide hk.perm hk.out h1 h2 (Nat.le_refl b)
    exact (p1.trans p2).trans p3
  · refine Srt.join (hg.sorted.same fun i _ hi => hk.out i (by omega)) hk.sorted fun i j q1 q2 q3 q4 => ?_
    rw [hk.out i (by omega)]
    obtain ⟨i', i1, i2, ei⟩ := hg.mem q1 q2
    obtain ⟨j', j1, j2, ej⟩ := hk.mem q3 q4
    rw [← ei, ← ej, hg.out j' (by omega)]
    exact h.across O i1 i2 j1 j2

/-- What the halves are, ahead of their merge. -/
theorem Cutting.lower (h : Cutting R f a m b mid s e) (ha : Apart f a m b) : Srt R (rot f s m e) a s ∧ Srt R (rot f s m e) s mid ∧ Apart (rot f s m e) a s mid := by
  obtain ⟨g1, g2, g3, g4, g5, g6, g7, hl, hr, hlow, hhigh⟩ := id h
  refine ⟨(hl.part (Nat.le_refl _) g2).same fun k _ hk => h.front hk, fun i j h1 h2 h3 => ?_, fun i j h1 h2 h3 h4 => ?_⟩
  · rw [h.turned h1 (by omega), h.turned (by omega) h3]; exact hr _ _ (by omega) (by omega) (by omega)
  · rw [h.front h2, h.turned h3 h4]; exact ha _ _ h1 (by omega) (by omega) (by omega)

theorem Cutting.upper (h : Cutting R f a m b mid s e) (ha : Apart f a m b) : Srt R (rot f s m e) mid e ∧ Srt R (rot f s m e) e b ∧ Apart (rot f s m e) mid e b := by
  obtain ⟨g1, g2, g3, g4, g5, g6, g7, hl, hr, hlow, hhigh⟩ := id h
  refine ⟨fun i j h1 h2 h3 => ?_, (hr.part g4 (Nat.le_refl _)).same fun k hk _ => h.back hk, fun i j h1 h2 h3 h4 => ?_⟩
  · rw [h.turned2 h1 (by omega), h.turned2 (by omega) h3]; exact hl _ _ (by omega) (by omega) (by omega)
  · rw [h.turned2 h1 h2, h.back h3]; exact ha _ _ (by omega) (by omega) (by omega) h4

theorem Mrg.none (h : Srt R f a b) : Mrg R f f a b := ⟨fun _ _ => rfl, List.Perm.refl _, h⟩

theorem Mrg.trans {k : Nat → Nat} (h : Mrg R f g a b) (p : (seg g a b).Perm (seg k a b)) (ho : ∀ i, ¬ (a ≤ i ∧ i < b) → k i = g i) (hs : Srt R k a b) : Mrg R f k a b :=
  ⟨fun i hi => (ho i hi).trans (h.out i hi), h.perm.trans p, hs⟩

/-- One more is laid in: the stretch grows by one. -/
theorem Mrg.grow (h : Mrg R f g a m) {k : Nat → Nat} (hm : a ≤ m) (hk : Mrg R g k a (m + 1)) : Mrg R f k a (m + 1) :=
  ⟨fun i hi => (hk.out i hi).trans (h.out i (by omega)), (perm_wide h.perm h.out (Nat.le_refl _) hm (by omega)).trans hk.perm, hk.sorted⟩

/-- Of rising places what is sorted of the first ones is apart from the next one. -/
theorem Mrg.apart (h : Mrg R f g a m) (hf : ∀ i j, a ≤ i → i < j → j < b → f i < f j) (hm : m < b) : Apart g a m (m + 1) := fun i j h1 h2 h3 h4 => by
  obtain rfl : j = m := by omega
  obtain ⟨k, k1, k2, e⟩ := h.mem h1 h2
  rw [← e, h.out j (by omega)]
  exact hf k j k1 k2 hm
end

/-- Each stretch of s, from 0 on, is sorted, to the stretch of the number q. -/
def Done (R : Nat → Nat → Prop) (f g : Nat → Nat) (s n q : Nat) : Prop := q * s < n → (seg f (q * s) (min (q * s + s) n)).Perm (seg g (q * s) (min (q * s + s) n)) ∧ Srt R g (q * s) (min (q * s + s) n)

end Go.Proofs.Ytgimcleeamlgcaa.St
end

section
set_option linter.unusedVariables false
namespace Go.Proofs.Ytgimcleeamlgcaa.St
open Go.ChangeShapes Go.WideShapes Go.ChangeAt Go.RowKit
open Mv (Only)

/-- So many places, as values. -/
def vals (f : Nat → Nat) (n : Nat) : List Value := (List.range n).map fun i => .int .i64 (f i : Int)

theorem vals_len (f : Nat → Nat) (n : Nat) : (vals f n).length = n := by unfold vals; simp

theorem vals_get (f : Nat → Nat) {n i : Nat} (h : i < n) : (vals f n)[i]? = some (.int .i64 (f i : Int)) := by
  unfold vals
  rw [List.getElem?_map, List.getElem?_range h]
  rfl

theorem vals_set (f : Nat → Nat) (n i y : Nat) : (vals f n).set i (.int .i64 (y : Int)) = vals (fun k => if k = i then y else f k) n := by
  apply List.ext_getElem?
  intro k
  by_cases hk : k < n
  · rw [vals_get _ hk, List.getElem?_set]
    by_cases e : i = k
    · subst e
      rw [if_pos rfl, vals_len, if_pos hk, if_pos rfl]
    · rw [if_neg e, vals_get _ hk, if_neg (fun h => e h.symm)]
  · rw [List.getElem?_eq_none (by rw [List.length_set, vals_len]; omega), List.getElem?_eq_none (by rw [vals_len]; omega)]

/-- From W on the row at g alone has turned: it holds f. -/
structure Dat (W w : World) (B g n cap : Nat) (f : Nat → Nat) : Prop where
  own : w.ownsRow B 3 1 (.slice (some ⟨g, 0, none⟩) n cap) n (vals f n)
  only : Only W w (Mv.one g)

section
variable {W w w' : World} {B g n cap : Nat} {f : Nat → Nat}
theorem Dat.cell (h : Dat W w B g n cap f) {i : Nat} (hi : i < n) : w.cell? ⟨g, i, none⟩ = some (.int .i64 (f i : Int)) := by
  rw [h.own.cellAt i (by omega), vals_get f hi]

theorem Dat.frozen (h : Dat W w B g n cap f) (i : Nat) : w.frozen? ⟨g, i, none⟩ = false := h.own.frozenAt i

theorem Dat.drewN (h : Dat W w B g n cap f) (d : Nat) : Dat W (w.drewN d) B g n cap f := ⟨Mv.own_only h.own ((Only.refl w (fun _ => False)).drewN d) (fun _ _ h => h), h.only.drewN d⟩

theorem Dat.drew (h : Dat W w B g n cap f) : Dat W w.drew B g n cap f := ⟨Mv.own_only h.own ((Only.refl w (fun _ => False)).drew) (fun _ _ h => h), h.only.drew⟩

theorem Dat.put (h : Dat W w B g n cap f) (i y : Nat) : Dat W (w.setCell ⟨g, i, none⟩ (.int .i64 (y : Int))) B g n cap (fun k => if k = i then y else f k) := by
  obtain ⟨h1, h2⟩ := h.own.stored i (.int .i64 (y : Int))
  rw [vals_set] at h1
  exact ⟨h1, h.only.put _ fun _ => rfl⟩

theorem Dat.swap (h : Dat W w B g n cap f) {i j : Nat} (hne : i ≠ j) : Dat W ((w.setCell ⟨g, i, none⟩ (.int .i64 (f j : Int))).setCell ⟨g, j, none⟩ (.int .i64 (f i : Int))).drew B g n cap (swp f i j) := by
  have h1 := ((h.put i (f j)).put j (f i)).drew
  have e : (fun k => if k = j then f i else if k = i then f j else f k) = swp f i j := by
    funext k
    unfold swp
    by_cases e1 : k = i
    · subst e1; rw [if_neg hne, if_pos rfl, if_pos rfl]
    · by_cases e2 : k = j
      · subst e2; rw [if_pos rfl, if_neg e1, if_pos rfl]
      · rw [if_neg e2, if_neg e1, if_neg e1, if_neg e2]
  rw [e] at h1
  exact h1

theorem Dat.lt (h : Dat W w B g n cap f) (hn : 0 < n) : g < w.heap.size := World.block_lt_of_cell? w _ (h.cell hn)
end

set_option maxHeartbeats 1000000 in
theorem swapRange_any (W w : World) (B g n cap : Nat) (f : Nat → Nat) (a b m : Nat) (v : Value) (h : Dat W w B g n cap f) (h1 : a + m ≤ b) (h2 : b + m ≤ n) (hn : n ≤ 1000000000000) :
    Calls Try.prog 89 #[.slice (some ⟨g, 0, none⟩) n cap, .int .i64 a, .int .i64 b, .int .i64 m, v] w fun e w' => e = .returned (.tuple #[]) ∧ Dat W w' B g n cap (swr f a b m) := by
  go_enter Try.func89, Try.ntmps89
  go_wp2
  go_loopw [10] (fun s wr => ∃ i : Nat, s = .int .i64 i ∧ i ≤ m ∧ Dat W wr B g n cap (swr f a b i)) (fun s _ => m - (intOf s).toNat)
  case atStart => exact ⟨0, rfl, by omega, by rw [swr_none]; exact h⟩
  case round =>
    obtain ⟨i, rfl, hi, hD⟩ := hrel
    by_cases hlt : i < m
    · obtain ⟨F, hF⟩ : ∃ F, swr f a b i = F := ⟨_, rfl⟩
      rw [hF] at hD
      have HN : Hid (swr f a b (i + 1) = swp F (a + i) (b + i)) := Lib.hid (by rw [← hF]; exact (swr_more f h1 hlt).symm)
      have c1 := hD.cell (i := a + i) (by omega)
      have c2 := hD.cell (i := b + i) (by omega)
      have z1 := hD.frozen (a + i)
      have z2 := hD.frozen (b + i)
      have HS := Lib.hid (hD.swap (i := a + i) (j := b + i) (by omega))
      have n1 : a + i ≠ b + i := by omega
      have n2 : b + i ≠ a + i := by omega
      have k1 : (i : Int) < (m : Int) := by omega
      have x1 : IntKind.i64.wrap ((a : Int) + (i : Int)) = (a : Int) + (i : Int) := IntWalk.i64_in _ (by omega)
      have x2 : IntKind.i64.wrap ((b : Int) + (i : Int)) = (b : Int) + (i : Int) := IntWalk.i64_in _ (by omega)
      have x3 : (0 : Int) ≤ (a : Int) + (i : Int) := by omega
      have x4 : (0 : Int) ≤ (b : Int) + (i : Int) := by omega
      have x5 : ((a : Int) + (i : Int)).toNat = a + i := by omega
      have x6 : ((b : Int) + (i : Int)).toNat = b + i := by omega
      have x7 : (a : Int) + (i : Int) < (n : Int) := by omega
      have x8 : (b : Int) + (i : Int) < (n : Int) := by omega
      clear hD hF h
      go_wp2
      go_region
      all_goals
        go_wp2
        go_roundw
        case rel => exact ⟨i + 1, by go_num, by omega, by rw [HN.out]; exact HS.out⟩
        case measure => simp [intOf]; omega
    · obtain rfl : i = m := by omega
      have HD := Lib.hid hD
      have k1 : ¬ (i : Int) < (i : Int) := by omega
      clear hD h
      go_wp2
      go_end0
      exact ⟨rfl, HD.out⟩

theorem num_eq {a b : Int} (h : a = b) : Value.int .i64 a = Value.int .i64 b := by rw [h]

set_option maxHeartbeats 1000000 in
theorem rotate_any (W w : World) (B g n cap : Nat) (f : Nat → Nat) (a m b : Nat) (v : Value) (h : Dat W w B g n cap f) (h1 : a < m) (h2 : m < b) (h3 : b ≤ n) (hn : n ≤ 1000000000000) :
    Calls Try.prog 85 #[.slice (some ⟨g, 0, none⟩) n cap, .int .i64 a, .int .i64 m, .int .i64 b, v] w fun e w' => e = .returned (.tuple #[]) ∧ Dat W w' B g n cap (rot f a m b) := by
  have HD0 := Lib.hid h
  clear h
  go_enter Try.func85, Try.ntmps85
  go_wp2
  go_loopw [10, 11] (fun s10 s11 wr => ∃ (i j : Nat) (F : Nat → Nat), s10 = .int .i64 i ∧ s11 = .int .i64 j ∧ 1 ≤ i ∧ 1 ≤ j ∧ i ≤ m - a ∧ j ≤ b - m ∧ Dat W wr B g n cap F ∧ Hid (rot F (m - i) m (m + j) = rot f a m b)) (fun s10 s11 _ => (intOf s10).toNat + (intOf s11).toNat)
  case atStart => exact ⟨m - a, b - m, f, num_eq (by omega), num_eq (by omega), by omega, by omega, by omega, by omega, HD0.out, Lib.hid (by rw [show m - (m - a) = a by omega, show m + (b - m) = b by omega])⟩
  case round =>
    obtain ⟨i, j, F, rfl, rfl, hi, hj, hi2, hj2, hD, HR⟩ := hrel
    have e1 : ((m - i : Nat) : Int) = (m : Int) - (i : Int) := by omega
    have e2 : ((m + j - i : Nat) : Int) = (m : Int) + (j : Int) - (i : Int) := by omega
    clear HD0
    rcases Nat.lt_trichotomy i j with hlt | heq | hgt
    · have HC := Lib.hid (swapRange_any W wr B g n cap F (m - i) (m + j - i) i v hD (by omega) (by omega) hn)
      rw [e1, e2] at HC
      have HR2 : Hid (rot (swr F (m - i) (m + j - i) i) (m - i) m (m + (j - i)) = rot f a m b) := Lib.hid (by rw [rot_right F (by omega) hlt]; exact HR.out)
      have t1 : ((i : Int) != (j : Int)) = true := bne_iff_ne.2 (by omega)
      have t2 : ¬ (j : Int) < (i : Int) := by omega
      have t3 : ¬ j < i := by omega
      clear hD e1 e2 HR
      go_wp2_with fail
      refine HC.out.mono ?_
      rintro e w1 ⟨rfl, hD1⟩
      have HD1 := Lib.hid hD1
      clear hD1 t1 t2 t3
      go_wp2
      go_roundw
      case rel => exact ⟨i, j - i, _, rfl, num_eq (by omega), by omega, by omega, by omega, by omega, HD1.out, HR2⟩
      case measure => simp [intOf]; omega
    · subst heq
      have HC := Lib.hid (swapRange_any W wr B g n cap F (m - i) m i v hD (by omega) (by omega) hn)
      rw [e1] at HC
      have HR2 : Hid (swr F (m - i) m i = rot f a m b) := Lib.hid (by rw [rot_last F (by omega)]; exact HR.out)
      have t1 : ((i : Int) != (i : Int)) = false := bne_self_eq_false _
      clear hD e1 e2 HR
      go_wp2_with fail
      refine HC.out.mono ?_
      rintro e w1 ⟨rfl, hD1⟩
      have HD1 := Lib.hid hD1
      clear hD1 t1
      go_wp2
      go_end0
      exact ⟨rfl, by rw [← HR2.out]; exact HD1.out⟩
    · have HC := Lib.hid (swapRange_any W wr B g n cap F (m - i) m j v hD (by omega) (by omega) hn)
      rw [e1] at HC
      have HR2 : Hid (rot (swr F (m - i) m j) (m - (i - j)) m (m + j) = rot f a m b) := Lib.hid (by rw [show m - (i - j) = m - i + j by omega, rot_left F (by omega) hgt]; exact HR.out)
      have t1 : ((i : Int) != (j : Int)) = true := bne_iff_ne.2 (by omega)
      have t2 : (j : Int) < (i : Int) := by omega
      have t3 : j < i := by omega
      clear hD e1 e2 HR
      go_wp2_with fail
      refine HC.out.mono ?_
      rintro e w1 ⟨rfl, hD1⟩
      have HD1 := Lib.hid hD1
      clear hD1 t1 t2 t3
      go_wp2
      go_roundw
      case rel => exact ⟨i - j, j, _, num_eq (by omega), rfl, by omega, by omega, by omega, by omega, HD1.out, HR2⟩
      case measure => simp [intOf]; omega

/-- What the test is asked, in any world that the row at g alone has turned; how one place stands to another. -/
def Asks (W : World) (g bx m : Nat) (cz : Nat → Nat → Int) : Prop := ∀ (w : World) (i k : Nat), Only W w (Mv.one g) → i < m → k < m →
  Calls Try.prog 46 #[.int .i64 i, .int .i64 k, .pointer (some ⟨bx, 0, none⟩)] w fun e w' => e = .returned (.int .i64 (cz i k)) ∧ ∃ d, w' = w.drewN d

/-- The test, as a value. -/
def test (bx : Nat) : Value := .func (.func 46) #[] #[.pointer (some ⟨bx, 0, none⟩)]

end Go.Proofs.Ytgimcleeamlgcaa.St
end

section
set_option linter.unusedVariables false
namespace Go.Proofs.Ytgimcleeamlgcaa.St
open Go.ChangeShapes Go.WideShapes Go.ChangeAt Go.RowKit
open Mv (Only)

/-- Is the one ahead of the other, by the number that the test tells? -/
def less (cz : Nat → Nat → Int) (x y : Nat) : Bool := decide (cz x y < 0)

theorem Asks.at_ {W : World} {g bx m : Nat} {cz : Nat → Nat → Int} (h : Asks W g bx m cz) {w : World} (hw : Only W w (Mv.one g)) {i k : Nat} (hi : i < m) (hk : k < m) (d : Nat) :
    Calls Try.prog 46 #[.int .i64 i, .int .i64 k, .pointer (some ⟨bx, 0, none⟩)] (w.drewN d) fun e w' => e = .returned (.int .i64 (cz i k)) ∧ ∃ q, w' = (w.drewN d).drewN q :=
  h _ i k (hw.drewN d) hi hk

/-- All that a row holds is below m. -/
def All (f : Nat → Nat) (n m : Nat) : Prop := ∀ k, k < n → f k < m

theorem All.rot {f : Nat → Nat} {n m a c b : Nat} (h : All f n m) (h1 : a ≤ c) (h2 : c ≤ b) (h3 : b ≤ n) : All (St.rot f a c b) n m := fun k hk => by
  unfold St.rot
  split
  · exact h _ (by omega)
  · split
    · exact h _ (by omega)
    · exact h _ hk

theorem Mrg.all {R : Nat → Nat → Prop} {f g : Nat → Nat} {n m a b : Nat} (hm : Mrg R f g a b) (h : All f n m) (hb : b ≤ n) : All g n m := fun k hk => by
  by_cases h1 : a ≤ k ∧ k < b
  · obtain ⟨i, h2, h3, e⟩ := hm.mem h1.1 h1.2
    rw [← e]; exact h i (by omega)
  · rw [hm.out k h1]; exact h k hk

/-- Sorted, in memory. -/
def Sorted (R : Nat → Nat → Prop) (W w' : World) (B g n cap : Nat) (f : Nat → Nat) (a b : Nat) : Prop := ∃ F, Dat W w' B g n cap F ∧ Mrg R f F a b

set_option maxHeartbeats 2000000 in
theorem insertion_any (R : Nat → Nat → Prop) (cz : Nat → Nat → Int) (O : Ord R (less cz)) (bx m : Nat) (W w : World) (B g n cap : Nat) (f : Nat → Nat) (a b : Nat) (hA : Asks W g bx m cz) (h : Dat W w B g n cap f) (hf : All f n m) (h1 : a ≤ b) (h2 : b ≤ n) (hn : n ≤ 1000000000000) (hr : ∀ i j, a ≤ i → i < j → j < b → f i < f j) :
    Calls Try.prog 77 #[.slice (some ⟨g, 0, none⟩) n cap, .int .i64 a, .int .i64 b, test bx] w fun e w' => e = .returned (.tuple #[]) ∧ Sorted R W w' B g n cap f a b := by
  have HD0 := Lib.hid h
  have HA := Lib.hid hA
  have HF := Lib.hid hf
  clear h hA hf
  unfold test
  go_enter Try.func77, Try.ntmps77
  go_wp2
  go_loopw [8] (fun s8 wr => ∃ (i : Nat) (G : Nat → Nat), s8 = .int .i64 i ∧ a + 1 ≤ i ∧ (i ≤ b ∨ i = a + 1) ∧ Dat W wr B g n cap G ∧ Hid (Mrg R f G a i)) (fun s8 _ => b - (intOf s8).toNat)
  case atStart => exact ⟨a + 1, f, num_eq (by omega), by omega, .inr rfl, HD0.out, Lib.hid (Mrg.none fun i j q1 q2 q3 => by omega)⟩
  case round =>
    obtain ⟨i, G, rfl, hi, hi2, hD, HM⟩ := hrel
    clear HD0
    by_cases hlt : i < b
    · have k1 : (i : Int) < (b : Int) := by omega
      have HG : Hid (All G n m) := Lib.hid (HM.out.all HF.out (by omega))
      have HP : Hid (Apart G a i (i + 1)) := Lib.hid (HM.out.apart hr hlt)
      go_wp2
      go_loopw [9] (fun s9 wx => ∃ j : Nat, s9 = .int .i64 j ∧ a ≤ j ∧ j ≤ i ∧ Dat W wx B g n cap (rot G j i (i + 1)) ∧ Hid (j < i → less cz (G i) (G j) = true)) (fun s9 _ => (intOf s9).toNat)
      case atStart => exact ⟨i, rfl, by omega, Nat.le_refl _, by rw [rot_none]; exact hD, Lib.hid fun h => by omega⟩
      case round =>
        obtain ⟨j, rfl, hj, hj2, hE, HC⟩ := hrel
        clear hD
        by_cases hja : j = a
        · have HN : Hid (Mrg R f (rot G j i (i + 1)) a (i + 1)) := Lib.hid (HM.out.grow (by omega) (last_in O HM.out.sorted HP.out rfl hj hj2 (fun h => by omega) HC.out))
          have HE := Lib.hid hE
          have t1 : ¬ (a : Int) < (j : Int) := by omega
          have t2 : ¬ a < j := by omega
          clear hE HC hja
          go_wp2_with fail
          go_quiet (fail)
          go_wp2
          go_roundw
          case rel => exact ⟨i + 1, _, by go_num, by omega, .inl (by omega), HE.out.drewN _, HN⟩
          case measure => simp [intOf]; omega
        · obtain ⟨F, hF⟩ : ∃ F, rot G j i (i + 1) = F := ⟨_, rfl⟩
          rw [hF] at hE
          have e1 : F j = G i := by
            rw [← hF]; unfold rot; rw [if_pos (by omega)]; congr 1; omega
          have e2 : F (j - 1) = G (j - 1) := by
            rw [← hF]; exact rot_out G hj2 (by omega) (by omega)
          have l1 : F j < m := by rw [e1]; exact HG.out i (by omega)
          have l2 : F (j - 1) < m := by rw [e2]; exact HG.out _ (by omega)
          have HX : Hid (∀ d, Calls Try.prog 46 #[.int .i64 (F j : Int), .int .i64 (F (j - 1) : Int), .pointer (some ⟨bx, 0, none⟩)] (wr.drewN d) fun e w' => e = .returned (.int .i64 (cz (F j) (F (j - 1)))) ∧ ∃ q, w' = (wr.drewN d).drewN q) := Lib.hid fun d => HA.out.at_ hE.only l1 l2 d
          have c1 := hE.cell (i := j) (by omega)
          have c2 := hE.cell (i := j - 1) (by omega)
          have z1 := hE.frozen j
          have z2 := hE.frozen (j - 1)
          have t1 : (a : Int) < (j : Int) := by omega
          have t2 : a < j := by omega
          have i0 : (0 : Int) ≤ (j : Int) := by omega
          have i1 : (j : Int) < (n : Int) := by omega
          have x1 : IntKind.i64.wrap ((j : Int) - 1) = (j : Int) - 1 := IntWalk.i64_in _ (by omega)
          have x2 : (0 : Int) ≤ (j : Int) - 1 := by omega
          have x3 : (j : Int) - 1 < (n : Int) := by omega
          have x4 : ((j : Int) - 1).toNat = j - 1 := by omega
          have HZ : Hid (less cz (F j) (F (j - 1)) = less cz (G i) (G (j - 1))) := Lib.hid (by rw [e1, e2])
          have HE := Lib.hid hE
          have HF2 := Lib.hid hF
          obtain ⟨z, hz⟩ : ∃ z, cz (F j) (F (j - 1)) = z := ⟨_, rfl⟩
          have HL : Hid (less cz (F j) (F (j - 1)) = decide (z < 0)) := Lib.hid (by unfold less; rw [hz])
          rw [hz] at HX
          clear hE hF hz e1 e2 l1 l2
          by_cases hz0 : z < 0
          · have HN : Hid (swp F j (j - 1) = rot G (j - 1) i (i + 1)) := Lib.hid (by
              rw [← HF2.out]
              have := rot_down G (k := j - 1) (m := i) (by omega)
              rw [show j - 1 + 1 = j by omega] at this
              exact this)
            have HC2 : Hid (j - 1 < i → less cz (G i) (G (j - 1)) = true) := Lib.hid fun _ => by rw [← HZ.out, HL.out]; exact decide_eq_true hz0
            have n1 : j ≠ j - 1 := by omega
            have n2 : j - 1 ≠ j := by omega
            clear HC
            go_wp2_with fail
            go_quiet (exact Calls.quiet_of (HX.out _))
            have HE2 := Lib.hid (HE.out.drewN nq)
            generalize World.drewN wr nq = wx at *
            have c3 := HE2.out.cell (i := j) (by omega)
            have c4 := HE2.out.cell (i := j - 1) (by omega)
            have z3 := HE2.out.frozen j
            have z4 := HE2.out.frozen (j - 1)
            have HS := Lib.hid (HE2.out.swap (i := j) (j := j - 1) n1)
            clear HX
            go_wp2
            go_region
            all_goals
              go_wp2
              go_roundw
              case rel => exact ⟨j - 1, num_eq (by omega), by omega, by omega, by rw [← HN.out]; exact HS.out, HC2⟩
              case measure => simp [intOf]; omega
          · have HN : Hid (Mrg R f (rot G j i (i + 1)) a (i + 1)) := Lib.hid (HM.out.grow (by omega) (last_in O HM.out.sorted HP.out rfl hj hj2 (fun _ => by rw [← HZ.out, HL.out]; exact decide_eq_false hz0) HC.out))
            clear HC
            go_wp2_with fail
            go_quiet (exact Calls.quiet_of (HX.out _))
            have HE2 := Lib.hid (HE.out.drewN nq)
            generalize World.drewN wr nq = wx at *
            clear HX
            go_wp2
            go_roundw
            case rel => exact ⟨i + 1, _, by go_num, by omega, .inl (by omega), by rw [HF2.out]; exact HE2.out, HN⟩
            case measure => simp [intOf]; omega
    · have hN : Sorted R W wr B g n cap f a b := ⟨G, hD, by
        have hM := HM.out
        by_cases e : i = b
        · rw [← e]; exact hM
        · obtain rfl : i = a + 1 := by omega
          obtain rfl : b = a := by omega
          have e0 : G b = f b := by
            obtain ⟨k, g1, g2, e⟩ := hM.mem (i := b) (Nat.le_refl _) (by omega)
            obtain rfl : k = b := by omega
            exact e.symm
          refine ⟨fun k hk => ?_, ?_, fun p q g1 g2 g3 => by omega⟩
          · by_cases hkb : k = b
            · rw [hkb, e0]
            · exact hM.out k (by omega)
          · rw [seg_congr (g := G) fun k g1 g2 => by omega]⟩
      have HN := Lib.hid hN
      clear hN hD
      have k1 : ¬ (i : Int) < (b : Int) := by omega
      go_wp2
      go_end0
      exact ⟨rfl, HN.out⟩

end Go.Proofs.Ytgimcleeamlgcaa.St
end

section
set_option linter.unusedVariables false
set_option maxRecDepth 100000
namespace Go.Proofs.Ytgimcleeamlgcaa.St
open Go.ChangeShapes Go.WideShapes Go.ChangeAt Go.RowKit
open Mv (Only)

set_option maxHeartbeats 4000000 in
theorem first_any (R : Nat → Nat → Prop) (cz : Nat → Nat → Int) (O : Ord R (less cz)) (bx M : Nat) (W w : World) (B g n cap : Nat) (f : Nat → Nat) (a m b : Nat) (hA : Asks W g bx M cz) (h : Dat W w B g n cap f) (hf : All f n M) (h1 : m = a + 1) (h2 : m < b) (h3 : b ≤ n) (hn : n ≤ 1000000000000) (hs : Srt R f m b) (hp : Apart f a m b) :
    Calls Try.prog 78 #[.slice (some ⟨g, 0, none⟩) n cap, .int .i64 a, .int .i64 m, .int .i64 b, test bx] w fun e w' => e = .returned (.tuple #[]) ∧ Sorted R W w' B g n cap f a b := by
  have HD0 := Lib.hid h
  have HA := Lib.hid hA
  have HF := Lib.hid hf
  have HS := Lib.hid hs
  have HP := Lib.hid hp
  have H1 := Lib.hid h1
  have hm1 : a < m := by omega
  have t0 : (((m : Int) - (a : Int)) == 1) = true := beq_iff_eq.2 (by omega)
  clear h hA hf hs hp h1
  unfold test
  go_enter Try.func78, Try.ntmps78
  go_wp2
  go_loopw [10, 11] (fun s10 s11 wr => ∃ i j : Nat, s10 = .int .i64 i ∧ s11 = .int .i64 j ∧ m ≤ i ∧ i ≤ j ∧ j ≤ b ∧ Dat W wr B g n cap f ∧ Hid ((m < i → less cz (f (i - 1)) (f a) = true) ∧ (j < b → less cz (f j) (f a) = false))) (fun s10 s11 _ => (intOf s11).toNat - (intOf s10).toNat)
  case atStart => exact ⟨m, b, rfl, rfl, Nat.le_refl _, by omega, Nat.le_refl _, HD0.out, Lib.hid ⟨fun h => by omega, fun h => by omega⟩⟩
  case round =>
    obtain ⟨i, j, rfl, rfl, hi, hij, hj, hD, HB⟩ := hrel
    clear HD0 t0
    by_cases hlt : i < j
    · obtain ⟨q, hq⟩ : ∃ q, (i + j) / 2 = q := ⟨_, rfl⟩
      have hq1 : i ≤ q := by omega
      have hq2 : q < j := by omega
      have k1 : (i : Int) < (j : Int) := by omega
      have e1 : ((i : Int) + (j : Int)) / 2 = (q : Int) := by omega
      have l1 : f q < M := HF.out q (by omega)
      have l2 : f a < M := HF.out a (by omega)
      have HX : Hid (∀ d, Calls Try.prog 46 #[.int .i64 (f q : Int), .int .i64 (f a : Int), .pointer (some ⟨bx, 0, none⟩)] (wr.drewN d) fun e w' => e = .returned (.int .i64 (cz (f q) (f a))) ∧ ∃ q, w' = (wr.drewN d).drewN q) := Lib.hid fun d => HA.out.at_ hD.only l1 l2 d
      have c1 := hD.cell (i := q) (by omega)
      have c2 := hD.cell (i := a) (by omega)
      have i1 : (q : Int) < (n : Int) := by omega
      have i2 : (a : Int) < (n : Int) := by omega
      have HE := Lib.hid hD
      obtain ⟨z, hz⟩ : ∃ z, cz (f q) (f a) = z := ⟨_, rfl⟩
      have HL : Hid (less cz (f q) (f a) = decide (z < 0)) := Lib.hid (by unfold less; rw [hz])
      rw [hz] at HX
      clear hD hz hq l1 l2
      by_cases hz0 : z < 0
      · have hzb : decide (z < 0) = true := decide_eq_true hz0
        go_wp2_with fail
        go_quiet (exact Calls.quiet_of (HX.out _))
        go_wp2
        go_roundw
        case rel => exact ⟨q + 1, j, by go_num, rfl, by omega, by omega, hj, HE.out.drewN _, Lib.hid ⟨fun _ => by rw [show q + 1 - 1 = q by omega, HL.out]; exact decide_eq_true hz0, HB.out.2⟩⟩
        case measure => simp [intOf]; omega
      · have hzb : decide (z < 0) = false := decide_eq_false hz0
        go_wp2_with fail
        go_quiet (exact Calls.quiet_of (HX.out _))
        go_wp2
        go_roundw
        case rel => exact ⟨i, q, rfl, rfl, hi, by omega, by omega, HE.out.drewN _, Lib.hid ⟨HB.out.1, fun _ => by rw [HL.out]; exact decide_eq_false (by omega)⟩⟩
        case measure => simp [intOf]; omega
    · obtain rfl : i = j := by omega
      have k1 : ¬ (i : Int) < (i : Int) := by omega
      have HM : Hid (Mrg R f (rot f a m i) a b) := Lib.hid (first_in O HS.out HP.out H1.out hi hj HB.out.1 HB.out.2)
      have HE := Lib.hid hD
      clear hD
      go_wp2
      go_loopw [13] (fun s13 wx => ∃ k : Nat, s13 = .int .i64 k ∧ a ≤ k ∧ k + 1 ≤ i ∧ Dat W wx B g n cap (rot f a (a + 1) (k + 1))) (fun s13 _ => i - (intOf s13).toNat)
      case atStart => exact ⟨a, rfl, Nat.le_refl _, by omega, by rw [rot_end]; exact HE.out⟩
      case round =>
        obtain ⟨k, rfl, hk1, hk2, hG⟩ := hrel
        clear HE k1 hlt
        by_cases hki : k + 1 < i
        · obtain ⟨F, hF⟩ : ∃ F, rot f a (a + 1) (k + 1) = F := ⟨_, rfl⟩
          rw [hF] at hG
          have HN : Hid (swp F k (k + 1) = rot f a (a + 1) (k + 1 + 1)) := Lib.hid (by rw [← hF]; exact rot_up f hk1)
          have c1 := hG.cell (i := k) (by omega)
          have c2 := hG.cell (i := k + 1) (by omega)
          have z1 := hG.frozen k
          have z2 := hG.frozen (k + 1)
          have HW := Lib.hid (hG.swap (i := k) (j := k + 1) (by omega))
          have n1 : k ≠ k + 1 := by omega
          have n2 : k + 1 ≠ k := by omega
          have k1 : (k : Int) < (i : Int) - 1 := by omega
          have x1 : IntKind.i64.wrap ((k : Int) + 1) = (k : Int) + 1 := IntWalk.i64_in _ (by omega)
          have x2 : (0 : Int) ≤ (k : Int) + 1 := by omega
          have x3 : (k : Int) + 1 < (n : Int) := by omega
          have x4 : ((k : Int) + 1).toNat = k + 1 := by omega
          have x5 : (k : Int) < (n : Int) := by omega
          have x6 : (0 : Int) ≤ (k : Int) := by omega
          clear hG hF
          go_wp2
          go_region
          all_goals
            go_wp2
            go_roundw
            case rel => exact ⟨k + 1, by go_num, by omega, by omega, by rw [← HN.out]; exact HW.out⟩
            case measure => simp [intOf]; omega
        · have k1 : ¬ (k : Int) < (i : Int) - 1 := by omega
          have HN : Hid (Sorted R W wr B g n cap f a b) := Lib.hid ⟨_, hG, by
            have := HM.out
            rw [H1.out, show i = k + 1 by omega] at this
            exact this⟩
          clear hG
          go_wp2
          refine bodyPost_ret (results_none rfl _ _ _) rfl ?_
          exact ⟨rfl, HN.out⟩

set_option maxHeartbeats 4000000 in
theorem last_any (R : Nat → Nat → Prop) (cz : Nat → Nat → Int) (O : Ord R (less cz)) (bx M : Nat) (W w : World) (B g n cap : Nat) (f : Nat → Nat) (a m b : Nat) (hA : Asks W g bx M cz) (h : Dat W w B g n cap f) (hf : All f n M) (h0 : m ≠ a + 1) (h1 : a < m) (h2 : b = m + 1) (h3 : b ≤ n) (hn : n ≤ 1000000000000) (hs : Srt R f a m) (hp : Apart f a m b) :
    Calls Try.prog 78 #[.slice (some ⟨g, 0, none⟩) n cap, .int .i64 a, .int .i64 m, .int .i64 b, test bx] w fun e w' => e = .returned (.tuple #[]) ∧ Sorted R W w' B g n cap f a b := by
  have HD0 := Lib.hid h
  have HA := Lib.hid hA
  have HF := Lib.hid hf
  have HS := Lib.hid hs
  have HP := Lib.hid hp
  have H2 := Lib.hid h2
  have hmb : m < b := by omega
  have t0 : (((m : Int) - (a : Int)) == 1) = false := beq_eq_false_iff_ne.2 (by omega)
  have t1 : (((b : Int) - (m : Int)) == 1) = true := beq_iff_eq.2 (by omega)
  clear h hA hf hs hp h2 h0
  unfold test
  go_enter Try.func78, Try.ntmps78
  go_wp2
  go_loopw [14, 15] (fun s14 s15 wr => ∃ i j : Nat, s14 = .int .i64 i ∧ s15 = .int .i64 j ∧ a ≤ i ∧ i ≤ j ∧ j ≤ m ∧ Dat W wr B g n cap f ∧ Hid ((a < i → less cz (f m) (f (i - 1)) = false) ∧ (j < m → less cz (f m) (f j) = true))) (fun s14 s15 _ => (intOf s15).toNat - (intOf s14).toNat)
  case atStart => exact ⟨a, m, rfl, rfl, Nat.le_refl _, by omega, Nat.le_refl _, HD0.out, Lib.hid ⟨fun h => by omega, fun h => by omega⟩⟩
  case round =>
    obtain ⟨i, j, rfl, rfl, hi, hij, hj, hD, HB⟩ := hrel
    clear HD0 t0 t1
    by_cases hlt : i < j
    · obtain ⟨q, hq⟩ : ∃ q, (i + j) / 2 = q := ⟨_, rfl⟩
      have hq1 : i ≤ q := by omega
      have hq2 : q < j := by omega
      have k1 : (i : Int) < (j : Int) := by omega
      have e1 : ((i : Int) + (j : Int)) / 2 = (q : Int) := by omega
      have l1 : f q < M := HF.out q (by omega)
      have l2 : f m < M := HF.out m (by omega)
      have HX : Hid (∀ d, Calls Try.prog 46 #[.int .i64 (f m : Int), .int .i64 (f q : Int), .pointer (some ⟨bx, 0, none⟩)] (wr.drewN d) fun e w' => e = .returned (.int .i64 (cz (f m) (f q))) ∧ ∃ q, w' = (wr.drewN d).drewN q) := Lib.hid fun d => HA.out.at_ hD.only l2 l1 d
      have c1 := hD.cell (i := q) (by omega)
      have c2 := hD.cell (i := m) (by omega)
      have i1 : (q : Int) < (n : Int) := by omega
      have i2 : (m : Int) < (n : Int) := by omega
      have HE := Lib.hid hD
      obtain ⟨z, hz⟩ : ∃ z, cz (f m) (f q) = z := ⟨_, rfl⟩
      have HL : Hid (less cz (f m) (f q) = decide (z < 0)) := Lib.hid (by unfold less; rw [hz])
      rw [hz] at HX
      clear hD hz hq l1 l2
      by_cases hz0 : z < 0
      · have hzb : decide (z < 0) = true := decide_eq_true hz0
        go_wp2_with fail
        go_quiet (exact Calls.quiet_of (HX.out _))
        go_wp2
        go_roundw
        case rel => exact ⟨i, q, rfl, rfl, hi, by omega, by omega, HE.out.drewN _, Lib.hid ⟨HB.out.1, fun _ => by rw [HL.out]; exact decide_eq_true hz0⟩⟩
        case measure => simp [intOf]; omega
      · have hzb : decide (z < 0) = false := decide_eq_false hz0
        go_wp2_with fail
        go_quiet (exact Calls.quiet_of (HX.out _))
        go_wp2
        go_roundw
        case rel => exact ⟨q + 1, j, by go_num, rfl, by omega, by omega, hj, HE.out.drewN _, Lib.hid ⟨fun _ => by rw [show q + 1 - 1 = q by omega, HL.out]; exact decide_eq_false (by omega), HB.out.2⟩⟩
        case measure => simp [intOf]; omega
    · obtain rfl : i = j := by omega
      have k1 : ¬ (i : Int) < (i : Int) := by omega
      have HM : Hid (Mrg R f (rot f i m b) a b) := Lib.hid (last_in O HS.out HP.out H2.out hi hj HB.out.1 HB.out.2)
      have HE := Lib.hid hD
      clear hD
      go_wp2
      go_loopw [17] (fun s17 wx => ∃ k : Nat, s17 = .int .i64 k ∧ i ≤ k ∧ k ≤ m ∧ Dat W wx B g n cap (rot f k m (m + 1))) (fun s17 _ => (intOf s17).toNat)
      case atStart => exact ⟨m, rfl, by omega, Nat.le_refl _, by rw [rot_none]; exact HE.out⟩
      case round =>
        obtain ⟨k, rfl, hk1, hk2, hG⟩ := hrel
        clear HE k1 hlt
        by_cases hki : i < k
        · obtain ⟨F, hF⟩ : ∃ F, rot f k m (m + 1) = F := ⟨_, rfl⟩
          rw [hF] at hG
          have HN : Hid (swp F k (k - 1) = rot f (k - 1) m (m + 1)) := Lib.hid (by
            rw [← hF]
            have := rot_down f (k := k - 1) (m := m) (by omega)
            rw [show k - 1 + 1 = k by omega] at this
            exact this)
          have c1 := hG.cell (i := k) (by omega)
          have c2 := hG.cell (i := k - 1) (by omega)
          have z1 := hG.frozen k
          have z2 := hG.frozen (k - 1)
          have HW := Lib.hid (hG.swap (i := k) (j := k - 1) (by omega))
          have n1 : k ≠ k - 1 := by omega
          have n2 : k - 1 ≠ k := by omega
          have k1 : (i : Int) < (k : Int) := by omega
          have x1 : IntKind.i64.wrap ((k : Int) - 1) = (k : Int) - 1 := IntWalk.i64_in _ (by omega)
          have x2 : (0 : Int) ≤ (k : Int) - 1 := by omega
          have x3 : (k : Int) - 1 < (n : Int) := by omega
          have x4 : ((k : Int) - 1).toNat = k - 1 := by omega
          have x5 : (k : Int) < (n : Int) := by omega
          have x6 : (0 : Int) ≤ (k : Int) := by omega
          clear hG hF
          go_wp2
          go_region
          all_goals
            go_wp2
            go_roundw
            case rel => exact ⟨k - 1, num_eq (by omega), by omega, by omega, by rw [← HN.out]; exact HW.out⟩
            case measure => simp [intOf]; omega
        · have k1 : ¬ (i : Int) < (k : Int) := by omega
          have HN : Hid (Sorted R W wr B g n cap f a b) := Lib.hid ⟨_, hG, by
            have := HM.out
            rw [H2.out, show i = k by omega] at this
            rw [H2.out]
            exact this⟩
          clear hG
          go_wp2
          refine bodyPost_ret (results_none rfl _ _ _) rfl ?_
          exact ⟨rfl, HN.out⟩

end Go.Proofs.Ytgimcleeamlgcaa.St
end

section
set_option linter.unusedVariables false
set_option maxRecDepth 100000
namespace Go.Proofs.Ytgimcleeamlgcaa.St
open Go.ChangeShapes Go.WideShapes Go.ChangeAt Go.RowKit
open Mv (Only)

/-- Two sorted stretches of at most k places are merged. -/
def Merges (R : Nat → Nat → Prop) (bx M : Nat) (W : World) (B g n cap k : Nat) : Prop := ∀ (a m b : Nat) (f : Nat → Nat) (w : World), b - a ≤ k → Dat W w B g n cap f → All f n M → a < m → m < b → b ≤ n → Srt R f a m → Srt R f m b → Apart f a m b →
  Calls Try.prog 78 #[.slice (some ⟨g, 0, none⟩) n cap, .int .i64 a, .int .i64 m, .int .i64 b, test bx] w fun e w' => e = .returned (.tuple #[]) ∧ Sorted R W w' B g n cap f a b

/-- Where the search stands. -/
structure Seek (cz : Nat → Nat → Int) (f : Nat → Nat) (mid m s0 r0 i j : Nat) : Prop where
  si : s0 ≤ i
  ij : i ≤ j
  jr : j ≤ r0
  lo : s0 < i → less cz (f (mid + m - i)) (f (i - 1)) = false
  hi : j < r0 → less cz (f (mid + m - 1 - j)) (f j) = true

/-- Its bounds. -/
structure Range (a m b mid s0 r0 : Nat) : Prop where
  as0 : a ≤ s0
  sr : s0 ≤ r0
  rmid : r0 ≤ mid
  rm : r0 ≤ m
  sb : mid + m ≤ s0 + b
  from_ : s0 = a ∨ mid + m = s0 + b
  to_ : r0 = mid ∨ r0 = m

theorem Seek.cutting {R : Nat → Nat → Prop} {cz : Nat → Nat → Int} (O : Ord R (less cz)) {f : Nat → Nat} {a m b mid s0 r0 s e : Nat} (h : Seek cz f mid m s0 r0 s s) (hr : Range a m b mid s0 r0) (he : s + e = mid + m) (h1 : a < mid) (h2 : mid < b) (h3 : a < m) (h4 : m < b) (hl : Srt R f a m) (hk : Srt R f m b) (hp : Apart f a m b) : Cutting R f a m b mid s e := by
  obtain ⟨q1, q2, q3, q4, q5⟩ := h
  obtain ⟨g1, g2, g3, g4, g5, g6, g7⟩ := hr
  refine ⟨by omega, by omega, by omega, by omega, by omega, by omega, he, hl, hk, fun c1 c2 => ?_, fun c1 c2 => ?_⟩
  · refine O.no (hp _ _ (by omega) (by omega) (by omega) (by omega)) ?_
    have := q4 (by omega)
    rw [show mid + m - s = e by omega] at this
    exact this
  · refine O.yes (hp _ _ (by omega) (by omega) (by omega) (by omega)) ?_
    have := q5 (by omega)
    rw [show mid + m - 1 - s = e - 1 by omega] at this
    exact this

set_option maxHeartbeats 8000000 in
theorem merge_step (R : Nat → Nat → Prop) (cz : Nat → Nat → Int) (O : Ord R (less cz)) (bx M : Nat) (W w : World) (B g n cap k : Nat) (f : Nat → Nat) (a m b : Nat) (hA : Asks W g bx M cz) (ih : Merges R bx M W B g n cap k) (hk : b - a ≤ k + 1) (h : Dat W w B g n cap f) (hf : All f n M) (g1 : m ≠ a + 1) (g2 : b ≠ m + 1) (h1 : a < m) (h2 : m < b) (h3 : b ≤ n) (hn : n ≤ 1000000000000) (hs : Srt R f a m) (hr : Srt R f m b) (hp : Apart f a m b) :
    Calls Try.prog 78 #[.slice (some ⟨g, 0, none⟩) n cap, .int .i64 a, .int .i64 m, .int .i64 b, test bx] w fun e w' => e = .returned (.tuple #[]) ∧ Sorted R W w' B g n cap f a b := by
  have HD0 := Lib.hid h
  have HA := Lib.hid hA
  have HF := Lib.hid hf
  have HS := Lib.hid (And.intro hs (And.intro hr hp))
  have HI := Lib.hid ih
  obtain ⟨mid, hmid⟩ : ∃ mid, (a + b) / 2 = mid := ⟨_, rfl⟩
  have m1 : a < mid := by omega
  have m2 : mid < b := by omega
  have m3 : 2 * mid ≤ a + b := by omega
  have m4 : a + b ≤ 2 * mid + 1 := by omega
  have e0 : ((a : Int) + (b : Int)) / 2 = (mid : Int) := by omega
  have t0 : (((m : Int) - (a : Int)) == 1) = false := beq_eq_false_iff_ne.2 (by omega)
  have t1 : (((b : Int) - (m : Int)) == 1) = false := beq_eq_false_iff_ne.2 (by omega)
  clear h hA hf hs hr hp ih hmid g1 g2
  unfold test
  by_cases hgt : mid < m
  case' pos =>
    obtain ⟨s0, hs0⟩ : ∃ s0, mid + m - b = s0 := ⟨_, rfl⟩
    obtain ⟨r0, hr0⟩ : ∃ r0, mid = r0 := ⟨_, rfl⟩
    have HR : Hid (Range a m b mid s0 r0) := Lib.hid ⟨by omega, by omega, by omega, by omega, by omega, .inr (by omega), .inl hr0.symm⟩
    have HE1 : Hid (Value.int .i64 ((mid : Int) + (m : Int) - (b : Int)) = .int .i64 (s0 : Int)) := Lib.hid (num_eq (by omega))
    have HE2 : Hid (Value.int .i64 (mid : Int) = .int .i64 (r0 : Int)) := Lib.hid (num_eq (by omega))
    have k1 : (mid : Int) < (m : Int) := by omega
    have k2 : mid < m := hgt
    clear hs0 hr0 hgt
  case' neg =>
    obtain ⟨s0, hs0⟩ : ∃ s0, a = s0 := ⟨_, rfl⟩
    obtain ⟨r0, hr0⟩ : ∃ r0, m = r0 := ⟨_, rfl⟩
    have HR : Hid (Range a m b mid s0 r0) := Lib.hid ⟨by omega, by omega, by omega, by omega, by omega, .inl hs0.symm, .inr hr0.symm⟩
    have HE1 : Hid (Value.int .i64 (a : Int) = .int .i64 (s0 : Int)) := Lib.hid (num_eq (by omega))
    have HE2 : Hid (Value.int .i64 (m : Int) = .int .i64 (r0 : Int)) := Lib.hid (num_eq (by omega))
    have k1 : ¬ (mid : Int) < (m : Int) := by omega
    have k2 : ¬ mid < m := hgt
    clear hs0 hr0 hgt
  all_goals
    go_enter Try.func78, Try.ntmps78
    go_wp2
    go_loopw [20, 21] (fun s20 s21 wr => ∃ i j : Nat, s20 = .int .i64 i ∧ s21 = .int .i64 j ∧ Hid (Seek cz f mid m s0 r0 i j) ∧ Dat W wr B g n cap f) (fun s20 s21 _ => (intOf s21).toNat - (intOf s20).toNat)
    case atStart => exact ⟨s0, r0, HE1.out, HE2.out, Lib.hid ⟨Nat.le_refl _, HR.out.sr, Nat.le_refl _, fun h => by omega, fun h => by omega⟩, HD0.out⟩
    case round =>
      obtain ⟨i, j, rfl, rfl, HK, hD⟩ := hrel
      clear HD0 HE1 HE2 t0 t1 k1 k2 e0
      by_cases hlt : i < j
      · obtain ⟨q, hq⟩ : ∃ q, (i + j) / 2 = q := ⟨_, rfl⟩
        obtain ⟨p, hp⟩ : ∃ p, mid + m - 1 - q = p := ⟨_, rfl⟩
        have j1 := HK.out.si
        have j2 := HK.out.jr
        have j3 := HR.out.rmid
        have j4 := HR.out.rm
        have j5 := HR.out.sb
        have hq1 : i ≤ q := by omega
        have hq2 : q < j := by omega
        have hpn : p < n := by omega
        have k1 : (i : Int) < (j : Int) := by omega
        have e1 : ((i : Int) + (j : Int)) / 2 = (q : Int) := by omega
        have l1 : f q < M := HF.out q (by omega)
        have l2 : f p < M := HF.out p (by omega)
        have HX : Hid (∀ d, Calls Try.prog 46 #[.int .i64 (f p : Int), .int .i64 (f q : Int), .pointer (some ⟨bx, 0, none⟩)] (wr.drewN d) fun e w' => e = .returned (.int .i64 (cz (f p) (f q))) ∧ ∃ q, w' = (wr.drewN d).drewN q) := Lib.hid fun d => HA.out.at_ hD.only l2 l1 d
        have c1 := hD.cell (i := q) (by omega)
        have c2 := hD.cell (i := p) hpn
        have i1 : (q : Int) < (n : Int) := by omega
        have i2 : (p : Int) < (n : Int) := by omega
        have x1 : IntKind.i64.wrap ((mid : Int) + (m : Int) - 1 - (q : Int)) = (p : Int) := by
          rw [IntWalk.i64_in _ (by omega)]; omega
        have HE := Lib.hid hD
        have HPQ := Lib.hid hp
        obtain ⟨z, hz⟩ : ∃ z, cz (f p) (f q) = z := ⟨_, rfl⟩
        have HL : Hid (less cz (f p) (f q) = decide (z < 0)) := Lib.hid (by unfold less; rw [hz])
        rw [hz] at HX
        clear hD hz hq hp l1 l2 j1 j2 j3 j4 j5 hpn
        by_cases hz0 : z < 0
        · have hzb : decide (z < 0) = true := decide_eq_true hz0
          have HN : Hid (Seek cz f mid m s0 r0 i q) := Lib.hid ⟨HK.out.si, hq1, by have := HK.out.jr; omega, HK.out.lo, fun _ => by rw [HPQ.out, HL.out]; exact hzb⟩
          go_wp2_with fail
          go_quiet (exact Calls.quiet_of (HX.out _))
          go_wp2
          go_roundw
          case rel => exact ⟨i, q, rfl, rfl, HN, HE.out.drewN _⟩
          case measure => simp [intOf]; omega
        · have hzb : decide (z < 0) = false := decide_eq_false hz0
          have HN : Hid (Seek cz f mid m s0 r0 (q + 1) j) := Lib.hid ⟨by have := HK.out.si; omega, by omega, HK.out.jr, fun _ => by rw [show mid + m - (q + 1) = p by have := HPQ.out; omega, show q + 1 - 1 = q by omega, HL.out]; exact hzb, HK.out.hi⟩
          go_wp2_with fail
          go_quiet (exact Calls.quiet_of (HX.out _))
          go_wp2
          go_roundw
          case rel => exact ⟨q + 1, j, by go_num, rfl, HN, HE.out.drewN _⟩
          case measure => simp [intOf]; omega
      · obtain rfl : i = j := by have := HK.out.ij; omega
        have kk : ¬ (i : Int) < (i : Int) := by omega
        obtain ⟨e, he⟩ : ∃ e, mid + m - i = e := ⟨_, rfl⟩
        have he2 : i + e = mid + m := by have := HK.out.jr; have := HR.out.rm; omega
        have hC := HK.out.cutting O HR.out he2 m1 m2 h1 h2 HS.out.1 HS.out.2.1 HS.out.2.2
        have v1 := hC.sa
        have v2 := hC.sm
        have v3 := hC.smid
        have v4 := hC.me
        have v5 := hC.mide
        have v6 := hC.eb
        have ee : (mid : Int) + (m : Int) - (i : Int) = (e : Int) := by omega
        have HC := Lib.hid hC
        have HD := Lib.hid hD
        have hlow := hC.lower HS.out.2.2
        have hup := hC.upper HS.out.2.2
        have HLow := Lib.hid hlow
        have HUp := Lib.hid hup
        have HAll : Hid (All (rot f i m e) n M) := Lib.hid (HF.out.rot v2 v4 (by omega))
        clear hC hD hlow hup he hlt
        by_cases p1 : i < m
        · by_cases p2 : m < e
          · by_cases p3 : a < i
            · by_cases p4 : e < b
              · have d_im : (i : Int) < (m : Int) := by omega
                have b_im : i < m := by omega
                have d_me : (m : Int) < (e : Int) := by omega
                have b_me : m < e := by omega
                have d_ai : (a : Int) < (i : Int) := by omega
                have b_ai : a < i := by omega
                have d_imid : (i : Int) < (mid : Int) := by omega
                have b_imid : i < mid := by omega
                have d_mide : (mid : Int) < (e : Int) := by omega
                have b_mide : mid < e := by omega
                have d_eb : (e : Int) < (b : Int) := by omega
                have b_eb : e < b := by omega
                have HT := Lib.hid (rotate_any W wr B g n cap f i m e (.func (.func 46) #[] #[.pointer (some ⟨bx, 0, none⟩)]) HD.out (by omega) (by omega) (by omega) hn)
                go_wp2_with fail
                refine HT.out.mono ?_
                rintro _ w1 ⟨rfl, hd1⟩
                have HX1 := Lib.hid hd1
                clear hd1 HT
                have HT2 := Lib.hid (HI.out a i mid _ w1 (by omega) HX1.out HAll.out (by omega) (by omega) (by omega) HLow.out.1 HLow.out.2.1 HLow.out.2.2)
                unfold test at HT2
                go_wp2_with fail
                refine HT2.out.mono ?_
                rintro _ w2 ⟨rfl, G, hd2, hg2⟩
                have HX2 := Lib.hid hd2
                have HG2 := Lib.hid hg2
                clear hd2 hg2 HT2
                have HT3 := Lib.hid (HI.out mid e b G w2 (by omega) HX2.out (HG2.out.all HAll.out (by omega)) (by omega) (by omega) (by omega) (HUp.out.1.same fun x _ _ => HG2.out.out x (by omega)) (HUp.out.2.1.same fun x _ _ => HG2.out.out x (by omega)) (fun x y q1 q2 q3 q4 => by rw [HG2.out.out x (by omega), HG2.out.out y (by omega)]; exact HUp.out.2.2 x y q1 q2 q3 q4))
                unfold test at HT3
                go_wp2_with fail
                refine HT3.out.mono ?_
                rintro _ w3 ⟨rfl, K, hd3, hg3⟩
                have HO : Hid (Sorted R W w3 B g n cap f a b) := Lib.hid ⟨K, hd3, HC.out.done O (by omega) (by omega) HG2.out hg3⟩
                clear hd3 hg3 HT3
                go_wp2
                go_end0
                exact ⟨rfl, HO.out⟩
              · have d_im : (i : Int) < (m : Int) := by omega
                have b_im : i < m := by omega
                have d_me : (m : Int) < (e : Int) := by omega
                have b_me : m < e := by omega
                have d_ai : (a : Int) < (i : Int) := by omega
                have b_ai : a < i := by omega
                have d_imid : (i : Int) < (mid : Int) := by omega
                have b_imid : i < mid := by omega
                have d_mide : (mid : Int) < (e : Int) := by omega
                have b_mide : mid < e := by omega
                have d_eb : ¬ (e : Int) < (b : Int) := by omega
                have b_eb : ¬ e < b := by omega
                have HT := Lib.hid (rotate_any W wr B g n cap f i m e (.func (.func 46) #[] #[.pointer (some ⟨bx, 0, none⟩)]) HD.out (by omega) (by omega) (by omega) hn)
                go_wp2_with fail
                refine HT.out.mono ?_
                rintro _ w1 ⟨rfl, hd1⟩
                have HX1 := Lib.hid hd1
                clear hd1 HT
                have HT2 := Lib.hid (HI.out a i mid _ w1 (by omega) HX1.out HAll.out (by omega) (by omega) (by omega) HLow.out.1 HLow.out.2.1 HLow.out.2.2)
                unfold test at HT2
                go_wp2_with fail
                refine HT2.out.mono ?_
                rintro _ w2 ⟨rfl, G, hd2, hg2⟩
                have HX2 := Lib.hid hd2
                have HG2 := Lib.hid hg2
                clear hd2 hg2 HT2
                have HO : Hid (Sorted R W w2 B g n cap f a b) := Lib.hid ⟨G, HX2.out, HC.out.done O (by omega) (by omega) HG2.out (Mrg.none (by first | (rw [show mid = e by omega]; exact HUp.out.2.1.same fun x _ _ => HG2.out.out x (by omega)) | (rw [show b = e by omega]; exact HUp.out.1.same fun x _ _ => HG2.out.out x (by omega))))⟩
                go_wp2
                go_end0
                exact ⟨rfl, HO.out⟩
            · by_cases p4 : e < b
              · have d_im : (i : Int) < (m : Int) := by omega
                have b_im : i < m := by omega
                have d_me : (m : Int) < (e : Int) := by omega
                have b_me : m < e := by omega
                have d_ai : ¬ (a : Int) < (i : Int) := by omega
                have b_ai : ¬ a < i := by omega
                have d_mide : (mid : Int) < (e : Int) := by omega
                have b_mide : mid < e := by omega
                have d_eb : (e : Int) < (b : Int) := by omega
                have b_eb : e < b := by omega
                have HT := Lib.hid (rotate_any W wr B g n cap f i m e (.func (.func 46) #[] #[.pointer (some ⟨bx, 0, none⟩)]) HD.out (by omega) (by omega) (by omega) hn)
                go_wp2_with fail
                refine HT.out.mono ?_
                rintro _ w1 ⟨rfl, hd1⟩
                have HX1 := Lib.hid hd1
                clear hd1 HT
                obtain ⟨G, HX2, HG2⟩ : ∃ G, Hid (Dat W w1 B g n cap G) ∧ Hid (Mrg R (rot f i m e) G a mid) := ⟨_, HX1, Lib.hid (Mrg.none (by first | (rw [show a = i by omega]; exact HLow.out.2.1) | (rw [show mid = i by omega]; exact HLow.out.1)))⟩
                have HT3 := Lib.hid (HI.out mid e b G w1 (by omega) HX2.out (HG2.out.all HAll.out (by omega)) (by omega) (by omega) (by omega) (HUp.out.1.same fun x _ _ => HG2.out.out x (by omega)) (HUp.out.2.1.same fun x _ _ => HG2.out.out x (by omega)) (fun x y q1 q2 q3 q4 => by rw [HG2.out.out x (by omega), HG2.out.out y (by omega)]; exact HUp.out.2.2 x y q1 q2 q3 q4))
                unfold test at HT3
                go_wp2_with fail
                refine HT3.out.mono ?_
                rintro _ w3 ⟨rfl, K, hd3, hg3⟩
                have HO : Hid (Sorted R W w3 B g n cap f a b) := Lib.hid ⟨K, hd3, HC.out.done O (by omega) (by omega) HG2.out hg3⟩
                clear hd3 hg3 HT3
                go_wp2
                go_end0
                exact ⟨rfl, HO.out⟩
              · have d_im : (i : Int) < (m : Int) := by omega
                have b_im : i < m := by omega
                have d_me : (m : Int) < (e : Int) := by omega
                have b_me : m < e := by omega
                have d_ai : ¬ (a : Int) < (i : Int) := by omega
                have b_ai : ¬ a < i := by omega
                have d_mide : (mid : Int) < (e : Int) := by omega
                have b_mide : mid < e := by omega
                have d_eb : ¬ (e : Int) < (b : Int) := by omega
                have b_eb : ¬ e < b := by omega
                have HT := Lib.hid (rotate_any W wr B g n cap f i m e (.func (.func 46) #[] #[.pointer (some ⟨bx, 0, none⟩)]) HD.out (by omega) (by omega) (by omega) hn)
                go_wp2_with fail
                refine HT.out.mono ?_
                rintro _ w1 ⟨rfl, hd1⟩
                have HX1 := Lib.hid hd1
                clear hd1 HT
                obtain ⟨G, HX2, HG2⟩ : ∃ G, Hid (Dat W w1 B g n cap G) ∧ Hid (Mrg R (rot f i m e) G a mid) := ⟨_, HX1, Lib.hid (Mrg.none (by first | (rw [show a = i by omega]; exact HLow.out.2.1) | (rw [show mid = i by omega]; exact HLow.out.1)))⟩
                have HO : Hid (Sorted R W w1 B g n cap f a b) := Lib.hid ⟨G, HX2.out, HC.out.done O (by omega) (by omega) HG2.out (Mrg.none (by first | (rw [show mid = e by omega]; exact HUp.out.2.1.same fun x _ _ => HG2.out.out x (by omega)) | (rw [show b = e by omega]; exact HUp.out.1.same fun x _ _ => HG2.out.out x (by omega))))⟩
                go_wp2
                go_end0
                exact ⟨rfl, HO.out⟩
          · by_cases p3 : a < i
            · have d_im : (i : Int) < (m : Int) := by omega
              have b_im : i < m := by omega
              have d_me : ¬ (m : Int) < (e : Int) := by omega
              have b_me : ¬ m < e := by omega
              have d_ai : (a : Int) < (i : Int) := by omega
              have b_ai : a < i := by omega
              have d_imid : ¬ (i : Int) < (mid : Int) := by omega
              have b_imid : ¬ i < mid := by omega
              have d_mide : (mid : Int) < (e : Int) := by omega
              have b_mide : mid < e := by omega
              have d_eb : (e : Int) < (b : Int) := by omega
              have b_eb : e < b := by omega
              have HX1 : Hid (Dat W wr B g n cap (rot f i m e)) := Lib.hid (by (first | (rw [show m = i by omega, rot_none]) | (rw [show e = m by omega, rot_end])); exact HD.out)
              go_wp2_with fail
              obtain ⟨G, HX2, HG2⟩ : ∃ G, Hid (Dat W wr B g n cap G) ∧ Hid (Mrg R (rot f i m e) G a mid) := ⟨_, HX1, Lib.hid (Mrg.none (by first | (rw [show a = i by omega]; exact HLow.out.2.1) | (rw [show mid = i by omega]; exact HLow.out.1)))⟩
              have HT3 := Lib.hid (HI.out mid e b G wr (by omega) HX2.out (HG2.out.all HAll.out (by omega)) (by omega) (by omega) (by omega) (HUp.out.1.same fun x _ _ => HG2.out.out x (by omega)) (HUp.out.2.1.same fun x _ _ => HG2.out.out x (by omega)) (fun x y q1 q2 q3 q4 => by rw [HG2.out.out x (by omega), HG2.out.out y (by omega)]; exact HUp.out.2.2 x y q1 q2 q3 q4))
              unfold test at HT3
              refine HT3.out.mono ?_
              rintro _ w3 ⟨rfl, K, hd3, hg3⟩
              have HO : Hid (Sorted R W w3 B g n cap f a b) := Lib.hid ⟨K, hd3, HC.out.done O (by omega) (by omega) HG2.out hg3⟩
              clear hd3 hg3 HT3
              go_wp2
              go_end0
              exact ⟨rfl, HO.out⟩
            · have d_im : (i : Int) < (m : Int) := by omega
              have b_im : i < m := by omega
              have d_me : ¬ (m : Int) < (e : Int) := by omega
              have b_me : ¬ m < e := by omega
              have d_ai : ¬ (a : Int) < (i : Int) := by omega
              have b_ai : ¬ a < i := by omega
              have d_mide : (mid : Int) < (e : Int) := by omega
              have b_mide : mid < e := by omega
              have d_eb : (e : Int) < (b : Int) := by omega
              have b_eb : e < b := by omega
              have HX1 : Hid (Dat W wr B g n cap (rot f i m e)) := Lib.hid (by (first | (rw [show m = i by omega, rot_none]) | (rw [show e = m by omega, rot_end])); exact HD.out)
              go_wp2_with fail
              obtain ⟨G, HX2, HG2⟩ : ∃ G, Hid (Dat W wr B g n cap G) ∧ Hid (Mrg R (rot f i m e) G a mid) := ⟨_, HX1, Lib.hid (Mrg.none (by first | (rw [show a = i by omega]; exact HLow.out.2.1) | (rw [show mid = i by omega]; exact HLow.out.1)))⟩
              have HT3 := Lib.hid (HI.out mid e b G wr (by omega) HX2.out (HG2.out.all HAll.out (by omega)) (by omega) (by omega) (by omega) (HUp.out.1.same fun x _ _ => HG2.out.out x (by omega)) (HUp.out.2.1.same fun x _ _ => HG2.out.out x (by omega)) (fun x y q1 q2 q3 q4 => by rw [HG2.out.out x (by omega), HG2.out.out y (by omega)]; exact HUp.out.2.2 x y q1 q2 q3 q4))
              unfold test at HT3
              refine HT3.out.mono ?_
              rintro _ w3 ⟨rfl, K, hd3, hg3⟩
              have HO : Hid (Sorted R W w3 B g n cap f a b) := Lib.hid ⟨K, hd3, HC.out.done O (by omega) (by omega) HG2.out hg3⟩
              clear hd3 hg3 HT3
              go_wp2
              go_end0
              exact ⟨rfl, HO.out⟩
        · by_cases p3 : i < mid
          · have d_im : ¬ (i : Int) < (m : Int) := by omega
            have b_im : ¬ i < m := by omega
            have d_ai : (a : Int) < (i : Int) := by omega
            have b_ai : a < i := by omega
            have d_imid : (i : Int) < (mid : Int) := by omega
            have b_imid : i < mid := by omega
            have d_mide : ¬ (mid : Int) < (e : Int) := by omega
            have b_mide : ¬ mid < e := by omega
            have HX1 : Hid (Dat W wr B g n cap (rot f i m e)) := Lib.hid (by (first | (rw [show m = i by omega, rot_none]) | (rw [show e = m by omega, rot_end])); exact HD.out)
            go_wp2_with fail
            have HT2 := Lib.hid (HI.out a i mid _ wr (by omega) HX1.out HAll.out (by omega) (by omega) (by omega) HLow.out.1 HLow.out.2.1 HLow.out.2.2)
            unfold test at HT2
            refine HT2.out.mono ?_
            rintro _ w2 ⟨rfl, G, hd2, hg2⟩
            have HX2 := Lib.hid hd2
            have HG2 := Lib.hid hg2
            clear hd2 hg2 HT2
            have HO : Hid (Sorted R W w2 B g n cap f a b) := Lib.hid ⟨G, HX2.out, HC.out.done O (by omega) (by omega) HG2.out (Mrg.none (by first | (rw [show mid = e by omega]; exact HUp.out.2.1.same fun x _ _ => HG2.out.out x (by omega)) | (rw [show b = e by omega]; exact HUp.out.1.same fun x _ _ => HG2.out.out x (by omega))))⟩
            go_wp2
            go_end0
            exact ⟨rfl, HO.out⟩
          · have d_im : ¬ (i : Int) < (m : Int) := by omega
            have b_im : ¬ i < m := by omega
            have d_ai : (a : Int) < (i : Int) := by omega
            have b_ai : a < i := by omega
            have d_imid : ¬ (i : Int) < (mid : Int) := by omega
            have b_imid : ¬ i < mid := by omega
            have d_mide : ¬ (mid : Int) < (e : Int) := by omega
            have b_mide : ¬ mid < e := by omega
            have HX1 : Hid (Dat W wr B g n cap (rot f i m e)) := Lib.hid (by (first | (rw [show m = i by omega, rot_none]) | (rw [show e = m by omega, rot_end])); exact HD.out)
            go_wp2_with fail
            obtain ⟨G, HX2, HG2⟩ : ∃ G, Hid (Dat W wr B g n cap G) ∧ Hid (Mrg R (rot f i m e) G a mid) := ⟨_, HX1, Lib.hid (Mrg.none (by first | (rw [show a = i by omega]; exact HLow.out.2.1) | (rw [show mid = i by omega]; exact HLow.out.1)))⟩
            have HO : Hid (Sorted R W wr B g n cap f a b) := Lib.hid ⟨G, HX2.out, HC.out.done O (by omega) (by omega) HG2.out (Mrg.none (by first | (rw [show mid = e by omega]; exact HUp.out.2.1.same fun x _ _ => HG2.out.out x (by omega)) | (rw [show b = e by omega]; exact HUp.out.1.same fun x _ _ => HG2.out.out x (by omega))))⟩
            go_end0
            exact ⟨rfl, HO.out⟩

/-- Two sorted stretches, merged. -/
theorem merge_any (R : Nat → Nat → Prop) (cz : Nat → Nat → Int) (O : Ord R (less cz)) (bx M : Nat) (W : World) (B g n cap : Nat) (hA : Asks W g bx M cz) (hn : n ≤ 1000000000000) : ∀ k, Merges R bx M W B g n cap k
  | 0 => fun a m b f w hk _ _ h1 h2 _ _ _ _ => absurd hk (by omega)
  | k + 1 => fun a m b f w hk h hf h1 h2 h3 hs hr hp => by
    by_cases e1 : m = a + 1
    · exact first_any R cz O bx M W w B g n cap f a m b hA h hf e1 h2 h3 hn hr hp
    · by_cases e2 : b = m + 1
      · exact last_any R cz O bx M W w B g n cap f a m b hA h hf e1 h1 e2 h3 hn hs hp
      · exact merge_step R cz O bx M W w B g n cap k f a m b hA (merge_any R cz O bx M W B g n cap hA hn k) hk h hf e1 e2 h1 h2 h3 hn hs hr hp

end Go.Proofs.Ytgimcleeamlgcaa.St
end

section
set_option linter.unusedVariables false
set_option maxRecDepth 100000
namespace Go.Proofs.Ytgimcleeamlgcaa.St
open Go.ChangeShapes Go.WideShapes Go.ChangeAt Go.RowKit
open Mv (Only)

theorem gap {s c a : Nat} (h1 : s ∣ c) (h2 : s ∣ a) (h : c < a) : c + s ≤ a := by
  have h3 : s ∣ a - c := Nat.dvd_sub h2 h1
  have h4 := Nat.le_of_dvd (by omega) h3
  omega

/-- A stretch is sorted, and holds what it held. -/
def DoneAt (R : Nat → Nat → Prop) (f G : Nat → Nat) (c d : Nat) : Prop := (seg f c d).Perm (seg G c d) ∧ Srt R G c d

theorem DoneAt.same {R : Nat → Nat → Prop} {f G K : Nat → Nat} {c d : Nat} (h : DoneAt R f G c d) (e : ∀ k, c ≤ k → k < d → K k = G k) : DoneAt R f K c d :=
  ⟨by rw [seg_congr e]; exact h.1, h.2.same e⟩

theorem DoneAt.mem {R : Nat → Nat → Prop} {f G : Nat → Nat} {c d i : Nat} (h : DoneAt R f G c d) (h1 : c ≤ i) (h2 : i < d) : ∃ k, c ≤ k ∧ k < d ∧ f k = G i :=
  seg_mem.1 (h.1.mem_iff.2 (seg_mem.2 ⟨i, h1, h2, rfl⟩))

/-- All stretches of s are done. -/
def Stage (R : Nat → Nat → Prop) (f G : Nat → Nat) (s n : Nat) : Prop := ∀ c, s ∣ c → c < n → DoneAt R f G c (min (c + s) n)

/-- Those of the first a are done, and what is behind them is as it was. -/
structure Begun (R : Nat → Nat → Prop) (f G : Nat → Nat) (s n a : Nat) : Prop where
  div : s ∣ a
  done : ∀ c, s ∣ c → c < a → DoneAt R f G c (min (c + s) n)
  rest : ∀ k, a ≤ k → G k = f k

/-- Those of twice s are done of the first a, those of s behind them. -/
structure Paired (R : Nat → Nat → Prop) (f G : Nat → Nat) (s n a : Nat) : Prop where
  div : 2 * s ∣ a
  done : ∀ c, 2 * s ∣ c → c < a → DoneAt R f G c (min (c + 2 * s) n)
  rest : ∀ c, s ∣ c → a ≤ c → c < n → DoneAt R f G c (min (c + s) n)

def Rises (f : Nat → Nat) (n : Nat) : Prop := ∀ i j, i < j → j < n → f i < f j

section
variable {R : Nat → Nat → Prop} {f G K : Nat → Nat} {s n a b m : Nat}
theorem Begun.begin (R : Nat → Nat → Prop) (f : Nat → Nat) (s n : Nat) : Begun R f f s n 0 := ⟨⟨0, rfl⟩, fun c _ h => by omega, fun _ _ => rfl⟩

theorem Begun.next (h : Begun R f G s n a) (hb : b = a + s) (hbn : b ≤ n) (hm : Mrg R G K a b) : Begun R f K s n b := by
  subst hb
  have hdiv : s ∣ a + s := Nat.dvd_add h.div ⟨1, by simp⟩
  refine ⟨hdiv, fun c h1 h2 => ?_, fun k hk => (hm.out k (by omega)).trans (h.rest k (by omega))⟩
  rcases Nat.lt_trichotomy c a with h3 | h3 | h3
  · have hg := gap h1 h.div h3
    exact (h.done c h1 h3).same fun k q1 q2 => hm.out k (by omega)
  · subst h3
    rw [Nat.min_eq_left hbn]
    refine ⟨?_, hm.sorted⟩
    rw [seg_congr (f := f) (g := G) fun k q1 _ => (h.rest k q1).symm]
    exact hm.perm
  · have := gap h.div h1 h3
    omega

theorem Begun.last (h : Begun R f G s n a) (h1 : a ≤ n) (h2 : n < a + s) (hm : Mrg R G K a n) : Stage R f K s n := fun c q1 q2 => by
  rcases Nat.lt_trichotomy c a with h3 | h3 | h3
  · have hg := gap q1 h.div h3
    exact (h.done c q1 h3).same fun k q1 q2 => hm.out k (by omega)
  · subst h3
    rw [Nat.min_eq_right (by omega)]
    refine ⟨?_, hm.sorted⟩
    rw [seg_congr (f := f) (g := G) fun k q1 _ => (h.rest k q1).symm]
    exact hm.perm
  · have := gap h.div q1 h3
    omega

theorem Begun.rises (h : Begun R f G s n a) (hf : Rises f n) (hb : b ≤ n) : ∀ i j, a ≤ i → i < j → j < b → G i < G j := fun i j q1 q2 q3 => by
  rw [h.rest i q1, h.rest j (by omega)]
  exact hf i j q2 (by omega)

theorem Paired.begin (h : Stage R f G s n) : Paired R f G s n 0 := ⟨⟨0, rfl⟩, fun c _ h => by omega, fun c h1 _ h2 => h c h1 h2⟩

/-- What a merge wants. -/
theorem Paired.halves (h : Paired R f G s n a) (hf : Rises f n) (hs : 0 < s) (hm : m = a + s) (hmn : m < n) (hb : b = min (a + 2 * s) n) : Srt R G a m ∧ Srt R G m b ∧ Apart G a m b := by
  subst hm
  have d1 : s ∣ a := Nat.dvd_trans ⟨2, by omega⟩ h.div
  have d2 : s ∣ a + s := Nat.dvd_add d1 ⟨1, by simp⟩
  have g1 := h.rest a d1 (Nat.le_refl _) (by omega)
  have g2 := h.rest (a + s) d2 (by omega) hmn
  rw [Nat.min_eq_left (by omega)] at g1
  rw [show a + s + s = a + 2 * s by omega, ← hb] at g2
  refine ⟨g1.2, g2.2, fun i j q1 q2 q3 q4 => ?_⟩
  obtain ⟨i', i1, i2, ei⟩ := g1.mem q1 q2
  obtain ⟨j', j1, j2, ej⟩ := g2.mem q3 q4
  rw [← ei, ← ej]
  exact hf i' j' (by omega) (by omega)

theorem Paired.merged (h : Paired R f G s n a) (hm : m = a + s) (hmn : m < n) (hb : b = min (a + 2 * s) n) (hK : Mrg R G K a b) (hs : 0 < s) : DoneAt R f K a b ∧ (∀ c, 2 * s ∣ c → c < a → DoneAt R f K c (min (c + 2 * s) n)) ∧ ∀ c, s ∣ c → b ≤ c → c < n → DoneAt R f K c (min (c + s) n) := by
  subst hm
  have d1 : s ∣ a := Nat.dvd_trans ⟨2, by omega⟩ h.div
  have d2 : s ∣ a + s := Nat.dvd_add d1 ⟨1, by simp⟩
  have g1 := h.rest a d1 (Nat.le_refl _) (by omega)
  have g2 := h.rest (a + s) d2 (by omega) hmn
  rw [Nat.min_eq_left (by omega)] at g1
  rw [show a + s + s = a + 2 * s by omega, ← hb] at g2
  refine ⟨⟨List.Perm.trans ?_ hK.perm, hK.sorted⟩, fun c q1 q2 => ?_, fun c q1 q2 q3 => ?_⟩
  · rw [seg_cut f (m := a + s) (by omega) (by omega), seg_cut G (m := a + s) (by omega) (by omega)]
    exact g1.1.append g2.1
  · have := gap q1 h.div q2
    exact (h.done c q1 q2).same fun k r1 r2 => hK.out k (by omega)
  · exact (h.rest c q1 (by omega) q3).same fun k r1 r2 => hK.out k (by omega)

theorem Paired.next (h : Paired R f G s n a) (hs : 0 < s) (hm : m = a + s) (hb : b = a + 2 * s) (hbn : b ≤ n) (hK : Mrg R G K a b) : Paired R f K s n b := by
  have hb2 : b = min (a + 2 * s) n := by omega
  obtain ⟨g1, g2, g3⟩ := h.merged hm (by omega) hb2 hK hs
  refine ⟨by rw [hb]; exact Nat.dvd_add h.div ⟨1, by omega⟩, fun c q1 q2 => ?_, g3⟩
  rcases Nat.lt_trichotomy c a with h3 | h3 | h3
  · exact g2 c q1 h3
  · subst h3; rw [← hb2]; exact g1
  · have := gap h.div q1 h3
    omega

theorem Paired.last (h : Paired R f G s n a) (hs : 0 < s) (hm : m = a + s) (hmn : m < n) (hn : n < a + 2 * s) (hK : Mrg R G K a n) : Stage R f K (2 * s) n := fun c q1 q2 => by
  have hb2 : n = min (a + 2 * s) n := by omega
  obtain ⟨g1, g2, g3⟩ := h.merged hm hmn hb2 hK hs
  rcases Nat.lt_trichotomy c a with h3 | h3 | h3
  · exact g2 c q1 h3
  · subst h3; rw [← hb2]; exact g1
  · have := gap h.div q1 h3
    omega

theorem Paired.none (h : Paired R f G s n a) (hs : 0 < s) (hmn : n ≤ a + s) : Stage R f G (2 * s) n := fun c q1 q2 => by
  rcases Nat.lt_trichotomy c a with h3 | h3 | h3
  · exact h.done c q1 h3
  · subst h3
    have d1 : s ∣ c := Nat.dvd_trans ⟨2, by omega⟩ h.div
    have g1 := h.rest c d1 (Nat.le_refl _) q2
    rw [Nat.min_eq_right (by omega)] at g1 ⊢
    exact g1
  · have := gap h.div q1 h3
    omega

theorem Stage.whole (h : Stage R f G s n) (hs : n ≤ s) (ho : ∀ k, n ≤ k → G k = f k) : Mrg R f G 0 n := by
  rcases Nat.eq_zero_or_pos n with h0 | h0
  · subst h0
    exact ⟨fun k _ => ho k (Nat.zero_le _), List.Perm.refl _, fun i j q1 q2 q3 => by omega⟩
  · have g := h 0 ⟨0, rfl⟩ h0
    rw [Nat.zero_add, Nat.min_eq_right hs] at g
    exact ⟨fun k hk => ho k (by omega), g.1, g.2⟩
end

set_option maxHeartbeats 4000000 in
theorem stable_any (R : Nat → Nat → Prop) (cz : Nat → Nat → Int) (O : Ord R (less cz)) (bx M : Nat) (W w : World) (B g n cap : Nat) (f : Nat → Nat) (hA : Asks W g bx M cz) (h : Dat W w B g n cap f) (hf : All f n M) (hr : Rises f n) (hn : n ≤ 1000000000) :
    Calls Try.prog 66 #[.slice (some ⟨g, 0, none⟩) n cap, .int .i64 n, test bx] w fun e w' => e = .returned (.tuple #[]) ∧ Sorted R W w' B g n cap f 0 n := by
  have HD0 := Lib.hid h
  have HA := Lib.hid hA
  have HF := Lib.hid hf
  have HR := Lib.hid hr
  have HMg := Lib.hid (merge_any R cz O bx M W B g n cap hA (by omega))
  clear h hA hf hr
  unfold test
  go_enter Try.func66, Try.ntmps66
  go_wp2
  go_loopw [7, 8] (fun s7 s8 wr => ∃ (a b : Nat) (G : Nat → Nat), s7 = .int .i64 a ∧ s8 = .int .i64 b ∧ a ≤ n ∧ Hid (b = a + 20) ∧ Dat W wr B g n cap G ∧ Hid (Begun R f G 20 n a ∧ All G n M ∧ ∀ k, n ≤ k → G k = f k)) (fun s7 s8 _ => n + 20 - (intOf s8).toNat)
  case atStart => exact ⟨0, 20, f, rfl, rfl, Nat.zero_le _, Lib.hid rfl, HD0.out, Lib.hid ⟨Begun.begin R f 20 n, HF.out, fun _ _ => rfl⟩⟩
  case round =>
    obtain ⟨a, b, G, rfl, rfl, han, HB, hD, HG⟩ := hrel
    clear HD0
    have hb1 : a ≤ b := by have := HB.out; omega
    by_cases hlt : b ≤ n
    · have k1 : (b : Int) ≤ (n : Int) := by omega
      have HI := Lib.hid (insertion_any R cz O bx M W wr B g n cap G a b HA.out hD HG.out.2.1 hb1 hlt (by omega) (HG.out.1.rises HR.out hlt))
      unfold test at HI
      clear hD
      go_wp2_with fail
      refine HI.out.mono ?_
      rintro e w1 ⟨rfl, K, hd, hm⟩
      have HK : Hid (Begun R f K 20 n b ∧ All K n M ∧ ∀ k, n ≤ k → K k = f k) := Lib.hid ⟨HG.out.1.next HB.out hlt hm, hm.all HG.out.2.1 hlt, fun k hk => (hm.out k (by omega)).trans (HG.out.2.2 k hk)⟩
      have HD := Lib.hid hd
      clear hd hm HI
      go_wp2
      go_roundw
      case rel => exact ⟨b, b + 20, K, rfl, num_eq (by omega), hlt, Lib.hid rfl, HD.out, HK⟩
      case measure => simp [intOf]; omega
    · have k1 : ¬ (b : Int) ≤ (n : Int) := by omega
      have HI := Lib.hid (insertion_any R cz O bx M W wr B g n cap G a n HA.out hD HG.out.2.1 han (Nat.le_refl _) (by omega) (HG.out.1.rises HR.out (Nat.le_refl _)))
      unfold test at HI
      clear hD
      go_wp2_with fail
      refine HI.out.mono ?_
      rintro e w1 ⟨rfl, K, hd, hm⟩
      have HK : Hid (Stage R f K 20 n ∧ All K n M ∧ ∀ k, n ≤ k → K k = f k) := Lib.hid ⟨HG.out.1.last han (by have := HB.out; omega) hm, hm.all HG.out.2.1 (Nat.le_refl _), fun k hk => (hm.out k (by omega)).trans (HG.out.2.2 k hk)⟩
      have HD := Lib.hid hd
      clear hd hm HI HB HG k1 hlt hb1 han
      go_wp2
      go_loopw [6] (fun s6 wx => ∃ (s : Nat) (L : Nat → Nat), s6 = .int .i64 s ∧ 20 ≤ s ∧ Dat W wx B g n cap L ∧ Hid (Stage R f L s n ∧ All L n M ∧ ∀ k, n ≤ k → L k = f k)) (fun s6 _ => n - (intOf s6).toNat)
      case atStart => exact ⟨20, K, rfl, Nat.le_refl _, HD.out, HK⟩
      case round =>
        clear HD HK
        obtain ⟨s, L, rfl, hs, hD, HL⟩ := hrel
        by_cases hlt : s < n
        · have k1 : (s : Int) < (n : Int) := by omega
          have HD := Lib.hid hD
          clear hD
          go_wp2
          go_loopw [7, 8] (fun s7 s8 wy => ∃ (a b : Nat) (G : Nat → Nat), s7 = .int .i64 a ∧ s8 = .int .i64 b ∧ a ≤ n ∧ Hid (b = a + 2 * s) ∧ Dat W wy B g n cap G ∧ Hid (Paired R f G s n a ∧ All G n M ∧ ∀ k, n ≤ k → G k = f k)) (fun s7 s8 _ => n + 2 * s - (intOf s8).toNat)
          case atStart => exact ⟨0, 2 * s, L, rfl, num_eq (by omega), Nat.zero_le _, Lib.hid (by omega), HD.out, Lib.hid ⟨Paired.begin HL.out.1, HL.out.2⟩⟩
          case round =>
            obtain ⟨a, b, G, rfl, rfl, han, HB, hD, HG⟩ := hrel
            clear HD
            obtain ⟨m, hm⟩ : ∃ m, a + s = m := ⟨_, rfl⟩
            have e1 : (a : Int) + (s : Int) = (m : Int) := by omega
            by_cases hbn : b ≤ n
            · have k2 : (b : Int) ≤ (n : Int) := by omega
              have hb0 := HB.out
              have hh := HG.out.1.halves HR.out (by omega) hm.symm (by omega) (b := b) (by omega)
              have HI := Lib.hid (HMg.out n a m b G wr (by omega) hD HG.out.2.1 (by omega) (by omega) hbn hh.1 hh.2.1 hh.2.2)
              unfold test at HI
              have HM2 := Lib.hid hm
              clear hD hh hm hb0
              go_wp2_with fail
              refine HI.out.mono ?_
              rintro e w1 ⟨rfl, K, hd, hmg⟩
              have HK : Hid (Paired R f K s n b ∧ All K n M ∧ ∀ k, n ≤ k → K k = f k) := Lib.hid ⟨HG.out.1.next (by omega) HM2.out.symm HB.out hbn hmg, hmg.all HG.out.2.1 hbn, fun k hk => (hmg.out k (by omega)).trans (HG.out.2.2 k hk)⟩
              have HD := Lib.hid hd
              clear hd hmg HI
              go_wp2
              go_roundw
              case rel => exact ⟨b, b + 2 * s, K, rfl, num_eq (by omega), hbn, Lib.hid rfl, HD.out, HK⟩
              case measure => have := HB.out; simp [intOf]; omega
            · have k2 : ¬ (b : Int) ≤ (n : Int) := by omega
              by_cases hmn : m < n
              · have k3 : (m : Int) < (n : Int) := by omega
                have hb0 := HB.out
                have hh := HG.out.1.halves HR.out (by omega) hm.symm hmn (b := n) (by omega)
                have HI := Lib.hid (HMg.out n a m n G wr (by omega) hD HG.out.2.1 (by omega) (by omega) (Nat.le_refl _) hh.1 hh.2.1 hh.2.2)
                unfold test at HI
                have HM2 := Lib.hid hm
                clear hD hh hm hb0
                go_wp2_with fail
                refine HI.out.mono ?_
                rintro e w1 ⟨rfl, K, hd, hmg⟩
                have HK : Hid (Stage R f K (2 * s) n ∧ All K n M ∧ ∀ k, n ≤ k → K k = f k) := Lib.hid ⟨HG.out.1.last (by omega) HM2.out.symm hmn (by have := HB.out; omega) hmg, hmg.all HG.out.2.1 (Nat.le_refl _), fun k hk => (hmg.out k (by omega)).trans (HG.out.2.2 k hk)⟩
                have HD := Lib.hid hd
                clear hd hmg HI
                go_wp2
                go_roundw
                case rel => exact ⟨2 * s, K, num_eq (by omega), by omega, HD.out, HK⟩
                case measure => simp [intOf]; omega
              · have k3 : ¬ (m : Int) < (n : Int) := by omega
                have HK : Hid (Stage R f G (2 * s) n ∧ All G n M ∧ ∀ k, n ≤ k → G k = f k) := Lib.hid ⟨HG.out.1.none (by omega) (by omega), HG.out.2⟩
                have HD := Lib.hid hD
                clear hD hm
                go_wp2
                go_roundw
                case rel => exact ⟨2 * s, G, num_eq (by omega), by omega, HD.out, HK⟩
                case measure => simp [intOf]; omega
        · have k1 : ¬ (s : Int) < (n : Int) := by omega
          have HN : Hid (Sorted R W wr B g n cap f 0 n) := Lib.hid ⟨L, hD, HL.out.1.whole (by omega) HL.out.2.2⟩
          clear hD
          go_wp2
          go_end0
          exact ⟨rfl, HN.out⟩

theorem sortStable_any (R : Nat → Nat → Prop) (cz : Nat → Nat → Int) (O : Ord R (less cz)) (bx M : Nat) (W w : World) (B g n cap : Nat) (f : Nat → Nat) (hA : Asks W g bx M cz) (h : Dat W w B g n cap f) (hf : All f n M) (hr : Rises f n) (hn : n ≤ 1000000000) :
    Calls Try.prog 45 #[.slice (some ⟨g, 0, none⟩) n cap, test bx] w fun e w' => e = .returned (.tuple #[]) ∧ Sorted R W w' B g n cap f 0 n := by
  have HS := Lib.hid (stable_any R cz O bx M W w B g n cap f hA h hf hr hn)
  clear h hA hf hr
  unfold test at *
  go_enter Try.func45, Try.ntmps45
  go_wp2_with fail
  refine HS.out.mono ?_
  rintro e w1 ⟨rfl, hd⟩
  have HD := Lib.hid hd
  clear hd HS
  go_wp2
  go_end0
  exact ⟨rfl, HD.out⟩

end Go.Proofs.Ytgimcleeamlgcaa.St
end
