/- Heaps and sorted lists of ranks and numbers: plain mathematics, nothing of the program. -/
import Derived.Below
set_option linter.unusedVariables false
namespace Go.Proofs.Ytbicdmhmpmdoeaa.Qu

abbrev Pt := Int × Int

/-- Who is ahead: the greater rank, of equal ones the lesser number. -/
def aheadB (x y : Pt) : Bool := decide (y.1 < x.1 ∨ (y.1 = x.1 ∧ x.2 < y.2))

theorem ahead_iff (x y : Pt) : aheadB x y = true ↔ (y.1 < x.1 ∨ (y.1 = x.1 ∧ x.2 < y.2)) := by simp [aheadB]

theorem not_ahead (x y : Pt) : aheadB x y = false ↔ ¬ (y.1 < x.1 ∨ (y.1 = x.1 ∧ x.2 < y.2)) := by simp only [aheadB, decide_eq_false_iff_not]

/-- y is not ahead of x. -/
def le (x y : Pt) : Prop := aheadB y x = false

theorem le_refl (x : Pt) : le x x := by unfold le; rw [not_ahead]; omega

theorem le_trans {x y z : Pt} (h : le x y) (k : le y z) : le x z := by
  unfold le at *; rw [not_ahead] at *; omega

theorem le_antisymm {x y : Pt} (h : le x y) (k : le y x) : x = y := by
  unfold le at *; rw [not_ahead] at *
  obtain ⟨a, b⟩ := x; obtain ⟨c, d⟩ := y
  simp only [Prod.mk.injEq] at *
  omega

theorem le_of_ahead {x y : Pt} (h : aheadB x y = true) : le x y := by
  unfold le; rw [not_ahead]; rw [ahead_iff] at h; omega

theorem ahead_trans {x y z : Pt} (h : aheadB x y = true) (k : le y z) : aheadB x z = true := by
  unfold le at k; rw [not_ahead] at k; rw [ahead_iff] at *; omega

/-! ### Heaps -/
def gt (a : Array Pt) (i : Nat) : Pt := a.getD i (0, 0)

def swp (a : Array Pt) (i j : Nat) : Array Pt := a.swapIfInBounds i j

theorem size_swp (a : Array Pt) (i j : Nat) : (swp a i j).size = a.size := by simp [swp]

theorem gt_swp (a : Array Pt) (i j k : Nat) (hi : i < a.size) (hj : j < a.size) : gt (swp a i j) k = if k = i then gt a j else if k = j then gt a i else gt a k := by
  unfold gt swp
  rw [Array.swapIfInBounds_def, dif_pos hi, dif_pos hj]
  by_cases hk : k < a.size
  · simp only [Array.getD, Array.size_swap, hk, hi, hj, dif_pos]
    show (a.swap i j hi hj)[k]'_ = _
    rw [Array.getElem_swap]
    rfl
  · simp only [Array.getD, Array.size_swap, hk, dif_neg, not_false_eq_true]
    rw [if_neg (by omega), if_neg (by omega)]

theorem perm_swp (a : Array Pt) (i j : Nat) (hi : i < a.size) (hj : j < a.size) : (swp a i j).toList.Perm a.toList := by
  unfold swp
  rw [Array.swapIfInBounds_def, dif_pos hi, dif_pos hj]
  exact Array.perm_iff_toList_perm.1 (Array.swap_perm hi hj)

/-- The first n are a heap. -/
def Heap (a : Array Pt) (n : Nat) : Prop := ∀ i, 0 < i → i < n → le (gt a ((i - 1) / 2)) (gt a i)

theorem Heap.top {a : Array Pt} {n : Nat} (h : Heap a n) : ∀ i, i < n → le (gt a 0) (gt a i) := by
  intro i
  induction i using Nat.strongRecOn with
  | _ i ih =>
    intro hi
    rcases Nat.eq_zero_or_pos i with rfl | h0
    · exact le_refl _
    · exact le_trans (ih ((i - 1) / 2) (by omega) (by omega)) (h i h0 hi)

/-- A heap but for the one at j, that may have to go up. -/
def HeapUp (a : Array Pt) (n j : Nat) : Prop :=
  (∀ i, 0 < i → i < n → i ≠ j → le (gt a ((i - 1) / 2)) (gt a i)) ∧ (0 < j → ∀ i, 0 < i → i < n → (i - 1) / 2 = j → le (gt a ((j - 1) / 2)) (gt a i))

theorem HeapUp.done {a : Array Pt} {n j : Nat} (h : HeapUp a n j) (hj : 0 < j → le (gt a ((j - 1) / 2)) (gt a j)) : Heap a n := by
  intro i h0 hi
  by_cases e : i = j
  · subst e; exact hj h0
  · exact h.1 i h0 hi e

theorem HeapUp.step {a : Array Pt} {n j : Nat} (h : HeapUp a n j) (h0 : 0 < j) (hj : j < n) (hn : n ≤ a.size) (hl : aheadB (gt a j) (gt a ((j - 1) / 2)) = true) : HeapUp (swp a ((j - 1) / 2) j) n ((j - 1) / 2) := by
  have hp : (j - 1) / 2 < j := by omega
  generalize hpp : (j - 1) / 2 = p at *
  have hl' := le_of_ahead hl
  refine ⟨fun i i0 hi hne => ?_, fun p0 i i0 hi hip => ?_⟩
  · rw [gt_swp _ _ _ _ (by omega) (by omega), gt_swp _ _ _ _ (by omega) (by omega)]
    by_cases e : i = j
    · subst e
      rw [hpp, if_pos rfl, if_neg (by omega), if_pos rfl]
      exact hl'
    · rw [if_neg hne, if_neg e]
      by_cases e2 : (i - 1) / 2 = p
      · rw [if_pos e2]
        have := h.1 i i0 hi e
        rw [e2] at this
        exact le_trans hl' this
      · rw [if_neg e2]
        by_cases e3 : (i - 1) / 2 = j
        · rw [if_pos e3]
          have := h.2 h0 i i0 hi e3
          rw [hpp] at this
          exact this
        · rw [if_neg e3]
          exact h.1 i i0 hi e
  · rw [gt_swp _ _ _ _ (by omega) (by omega), gt_swp _ _ _ _ (by omega) (by omega)]
    rw [if_neg (show ¬ (p - 1) / 2 = p by omega), if_neg (show ¬ (p - 1) / 2 = j by omega)]
    have hpp1 := h.1 p p0 (by omega) (by omega)
    by_cases e : i = j
    · subst e
      rw [if_neg (by omega), if_pos rfl]
      exact hpp1
    · rw [if_neg (by omega), if_neg e]
      have := h.1 i i0 hi e
      rw [hip] at this
      exact le_trans hpp1 this

/-- A heap but for the one at i, that may have to go down. -/
def HeapDown (a : Array Pt) (n i : Nat) : Prop :=
  (∀ k, 0 < k → k < n → (k - 1) / 2 ≠ i → le (gt a ((k - 1) / 2)) (gt a k)) ∧ (0 < i → ∀ k, 0 < k → k < n → (k - 1) / 2 = i → le (gt a ((i - 1) / 2)) (gt a k))

theorem HeapDown.done {a : Array Pt} {n i : Nat} (h : HeapDown a n i) (hc : ∀ k, 0 < k → k < n → (k - 1) / 2 = i → le (gt a i) (gt a k)) : Heap a n := by
  intro k h0 hk
  by_cases e : (k - 1) / 2 = i
  · rw [e]; exact hc k h0 hk e
  · exact h.1 k h0 hk e

theorem HeapDown.step {a : Array Pt} {n i j : Nat} (h : HeapDown a n i) (h0 : 0 < j) (hj : j < n) (hn : n ≤ a.size) (hp : (j - 1) / 2 = i) (hl : aheadB (gt a j) (gt a i) = true)
    (hb : ∀ k, 0 < k → k < n → (k - 1) / 2 = i → le (gt a j) (gt a k)) : HeapDown (swp a i j) n j := by
  have hij : i < j := by omega
  refine ⟨fun k k0 hk hne => ?_, fun j0 k k0 hk hkj => ?_⟩
  · rw [gt_swp _ _ _ _ (by omega) (by omega), gt_swp _ _ _ _ (by omega) (by omega)]
    rw [if_neg (show ¬ (k - 1) / 2 = j from hne)]
    by_cases e : (k - 1) / 2 = i
    · rw [if_pos e, if_neg (by omega)]
      by_cases e2 : k = j
      · rw [if_pos e2]
        exact le_of_ahead hl
      · rw [if_neg e2]
        exact hb k k0 hk e
    · rw [if_neg e]
      have h1 := h.1 k k0 hk e
      by_cases e2 : k = i
      · subst e2
        rw [if_pos rfl]
        exact h.2 k0 j h0 hj hp
      · rw [if_neg e2, if_neg (by omega)]
        exact h1
  · rw [gt_swp _ _ _ _ (by omega) (by omega), gt_swp _ _ _ _ (by omega) (by omega)]
    rw [hp, if_pos rfl, if_neg (by omega), if_neg (by omega)]
    have := h.1 k k0 hk (by omega)
    rw [hkj] at this
    exact this

/-- A new one at the end: it may have to go up. -/
theorem Heap.push {a : Array Pt} {x : Pt} (h : Heap a a.size) : HeapUp (a.push x) (a.size + 1) a.size := by
  have e : ∀ i, i < a.size → gt (a.push x) i = gt a i := by
    intro i hi
    unfold gt
    simp only [Array.getD, Array.size_push, hi, show i < a.size + 1 by omega, dif_pos]
    show (a.push x)[i]'_ = a[i]
    rw [Array.getElem_push, dif_pos hi]
  refine ⟨fun i i0 hi hne => ?_, fun h0 i i0 hi hp => by omega⟩
  rw [e i (by omega), e _ (by omega)]
  exact h i i0 (by omega)

/-- The top has gone to the end: who came to the top may have to go down. -/
theorem Heap.pop {a : Array Pt} {n : Nat} (h : Heap a (n + 1)) (hs : a.size = n + 1) : HeapDown (swp a 0 n) n 0 := by
  refine ⟨fun k k0 hk hne => ?_, fun h0 => by omega⟩
  rw [gt_swp _ _ _ _ (by omega) (by omega), gt_swp _ _ _ _ (by omega) (by omega)]
  rw [if_neg hne, if_neg (by omega), if_neg (by omega), if_neg (by omega)]
  exact h k k0 (by omega)

/-! ### Sorted lists -/
def Sorted (l : List Pt) : Prop := l.Pairwise le

def ins (x : Pt) : List Pt → List Pt
  | [] => [x]
  | y :: l => if aheadB x y then x :: y :: l else y :: ins x l

theorem ins_perm (x : Pt) : ∀ l, (ins x l).Perm (x :: l)
  | [] => List.Perm.refl _
  | y :: l => by
    unfold ins
    by_cases h : aheadB x y = true
    · rw [if_pos h]
    · rw [if_neg h]
      exact ((ins_perm x l).cons y).trans (List.Perm.swap x y l)

theorem length_ins (x : Pt) (l : List Pt) : (ins x l).length = l.length + 1 := by simpa using (ins_perm x l).length_eq

theorem ins_sorted (x : Pt) : ∀ l, Sorted l → Sorted (ins x l)
  | [], _ => List.pairwise_singleton _ _
  | y :: l, h => by
    unfold Sorted at h
    rw [List.pairwise_cons] at h
    unfold ins
    by_cases hx : aheadB x y = true
    · rw [if_pos hx]
      refine List.pairwise_cons.2 ⟨fun z hz => ?_, List.pairwise_cons.2 h⟩
      rcases List.mem_cons.1 hz with rfl | hz
      · exact le_of_ahead hx
      · exact le_trans (le_of_ahead hx) (h.1 z hz)
    · rw [if_neg hx]
      refine List.pairwise_cons.2 ⟨fun z hz => ?_, ins_sorted x l h.2⟩
      rcases List.mem_cons.1 ((ins_perm x l).mem_iff.1 hz) with rfl | hz
      · exact (Bool.not_eq_true _).mp hx
      · exact h.1 z hz

theorem sorted_unique {l m : List Pt} (hl : Sorted l) (hm : Sorted m) (h : l.Perm m) : l = m :=
  h.eq_of_pairwise (fun a b _ _ h1 h2 => le_antisymm h1 h2) hl hm

/-- The top of a heap of a sorted list is its head. -/
theorem head_of_top {a : Array Pt} {x : Pt} {l : List Pt} (hs : Sorted (x :: l)) (hh : Heap a a.size) (hp : a.toList.Perm (x :: l)) : gt a 0 = x := by
  have hn : a.size = l.length + 1 := by simpa using hp.length_eq
  have hmem : ∀ i, i < a.size → gt a i ∈ a.toList := by
    intro i hi
    unfold gt
    simp [Array.getD, hi]
  obtain ⟨i, hi, he⟩ := Array.mem_iff_getElem.1 (Array.mem_toList_iff.1 (hp.symm.mem_iff.1 (List.mem_cons_self (a := x) (l := l))))
  have e : gt a i = x := by unfold gt; simp [Array.getD, hi, he]
  have h1 := hh.top i hi
  rw [e] at h1
  have h2 : le x (gt a 0) := by
    have h0 := hp.mem_iff.1 (hmem 0 (by omega))
    rcases List.mem_cons.1 h0 with h0 | h0
    · rw [h0]; exact le_refl _
    · exact (List.pairwise_cons.1 hs).1 _ h0
  exact le_antisymm h1 h2

/-- Who is left, behind a pop. -/
theorem left_perm {a b : Array Pt} {x : Pt} {l : List Pt} (hs : Sorted (x :: l)) (hh : Heap a a.size) (hp : a.toList.Perm (x :: l)) (hb : b.toList.Perm a.toList) (n : Nat) (hn : b.size = n + 1) (hlast : gt b n = gt a 0) : b.pop.toList.Perm l := by
  have h0 := head_of_top hs hh hp
  have hne : b.toList ≠ [] := by intro h; have : b.toList.length = n + 1 := by simpa using hn
                                 rw [h] at this; simp at this
  have h1 : b.toList = b.pop.toList ++ [x] := by
    rw [Array.toList_pop]
    have h2 : b.toList.getLast hne = x := by
      rw [← h0, ← hlast]
      unfold gt
      have hl : b.toList.length = n + 1 := by simpa using hn
      rw [List.getLast_eq_getElem]
      simp [Array.getD, hn]
    rw [← h2]
    exact (List.dropLast_concat_getLast hne).symm
  have h3 : (b.pop.toList ++ [x]).Perm (x :: l) := by rw [← h1]; exact hb.trans hp
  exact (List.perm_append_singleton x _ |>.symm.trans h3).cons_inv

/-! ### The order of ranks -/
def ord (f : Nat → Int) : Nat → List Pt
  | 0 => []
  | k + 1 => ins (f k, (k : Int)) (ord f k)

theorem ord_sorted (f : Nat → Int) : ∀ k, Sorted (ord f k)
  | 0 => List.Pairwise.nil
  | k + 1 => ins_sorted _ _ (ord_sorted f k)

theorem ord_length (f : Nat → Int) : ∀ k, (ord f k).length = k
  | 0 => rfl
  | k + 1 => by rw [ord, length_ins, ord_length f k]

theorem ord_perm (f : Nat → Int) : ∀ k, (ord f k).Perm ((List.range k).map fun i => (f i, (i : Int)))
  | 0 => List.Perm.refl _
  | k + 1 => by
    rw [List.range_succ, List.map_append]
    exact (ins_perm _ _).trans (((ord_perm f k).cons _).trans (List.perm_append_singleton _ _).symm)

theorem ord_mem (f : Nat → Int) (k : Nat) : ∀ x ∈ ord f k, ∃ i : Nat, i < k ∧ x = (f i, (i : Int)) := by
  intro x hx
  have := (ord_perm f k).mem_iff.1 hx
  obtain ⟨i, hi, rfl⟩ := List.mem_map.1 this
  exact ⟨i, List.mem_range.1 hi, rfl⟩

theorem ord_congr {f g : Nat → Int} : ∀ k, (∀ i, i < k → f i = g i) → ord f k = ord g k
  | 0, _ => rfl
  | k + 1, h => by rw [ord, ord, ord_congr k (fun i hi => h i (by omega)), h k (by omega)]

/-- In the order of ranks each is strictly ahead of all behind it. -/
theorem ord_strict (f : Nat → Int) (k : Nat) : (ord f k).Pairwise fun x y => aheadB x y = true := by
  have h1 := ord_sorted f k
  have h2 : (ord f k).Pairwise fun x y => x ≠ y := by
    have : ((List.range k).map fun i => (f i, (i : Int))).Nodup := by
      apply List.Pairwise.map _ _ (List.nodup_range (n := k))
      intro a b hab h
      injection h with _ h
      exact hab (by omega)
    exact ((ord_perm f k).nodup_iff).2 this
  refine (h1.and h2).imp ?_
  rintro x y ⟨h, hne⟩
  by_cases ha : aheadB x y = true
  · exact ha
  · exact absurd (le_antisymm h ((Bool.not_eq_true _).mp ha)) hne

end Go.Proofs.Ytbicdmhmpmdoeaa.Qu
