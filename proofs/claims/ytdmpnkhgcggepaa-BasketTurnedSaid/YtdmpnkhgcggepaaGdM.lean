/- P10.1 as mathematics: which lists of items may be, where a text stands in one: nothing of the program. -/
import Derived.Test.YtdmpnkhgcggepaaKa
set_option maxRecDepth 100000

set_option linter.unusedVariables false
namespace Go.Proofs.Ytdmpnkhgcggepaa.Gd
open It (Itm)

/-- May an item be, wherever it stands? -/
def itemB (x : Itm) : Bool := Sr.name x.sku && Sr.name x.cat && (decide (0 ≤ x.price) && decide (x.price ≤ 1000000000))

/-- The Skus rise. -/
def Rise (xs : List Itm) : Prop := ∀ (i : Nat) (x y : Itm), xs[i]? = some x → xs[i + 1]? = some y → Sr.lt x.sku y.sku = true

structure Good (xs : List Itm) : Prop where
  few : xs.length ≤ 500
  rise : Rise xs
  each : ∀ (i : Nat) (x : Itm), xs[i]? = some x → itemB x = true

/-- P10.1: may a list be? -/
noncomputable def goodB (xs : List Itm) : Bool := @decide (Good xs) (Classical.propDecidable _)

theorem goodB_yes {xs : List Itm} (h : Good xs) : goodB xs = true := by unfold goodB; exact @decide_eq_true _ (Classical.propDecidable _) h

theorem goodB_no {xs : List Itm} (h : ¬ Good xs) : goodB xs = false := by unfold goodB; exact @decide_eq_false _ (Classical.propDecidable _) h

theorem goodB_iff {xs : List Itm} : goodB xs = true ↔ Good xs := by
  constructor
  · intro h
    by_cases k : Good xs
    · exact k
    · rw [goodB_no k] at h; cases h
  · exact goodB_yes

theorem Rise.lt {xs : List Itm} (h : Rise xs) : ∀ (d i : Nat) (x y : Itm), xs[i]? = some x → xs[i + d + 1]? = some y → Sr.lt x.sku y.sku = true
  | 0, i, x, y, hx, hy => h i x y hx hy
  | d + 1, i, x, y, hx, hy => by
    have hl := (List.getElem?_eq_some_iff.1 hy).1
    obtain ⟨z, hz⟩ : ∃ z, xs[i + d + 1]? = some z := ⟨_, List.getElem?_eq_getElem (by omega)⟩
    exact Sr.lt_trans (Rise.lt h d i x z hx hz) (h (i + d + 1) z y hz (by rw [show i + d + 1 + 1 = i + (d + 1) + 1 by omega]; exact hy))

theorem Rise.below {xs : List Itm} (h : Rise xs) {i j : Nat} {x y : Itm} (hij : i < j) (hx : xs[i]? = some x) (hy : xs[j]? = some y) : Sr.lt x.sku y.sku = true :=
  h.lt (j - i - 1) i x y hx (by rw [show i + (j - i - 1) + 1 = j by omega]; exact hy)

theorem Rise.take {xs : List Itm} (h : Rise xs) (k : Nat) : Rise (xs.take k) := fun i x y hx hy => by
  rw [List.getElem?_take] at hx hy
  split at hx
  · split at hy
    · exact h i x y hx hy
    · cases hy
  · cases hx

theorem Rise.drop {xs : List Itm} (h : Rise xs) (k : Nat) : Rise (xs.drop k) := fun i x y hx hy => by
  rw [List.getElem?_drop] at hx hy
  exact h (k + i) x y hx (by rw [show k + i + 1 = k + (i + 1) by omega]; exact hy)

theorem Good.take {xs : List Itm} (h : Good xs) (k : Nat) : Good (xs.take k) := ⟨by rw [List.length_take]; have := h.few; omega, h.rise.take k, fun i x hx => by
  rw [List.getElem?_take] at hx
  split at hx
  · exact h.each i x hx
  · cases hx⟩

/-- P10.1: the place of the first item of that name. -/
def find (s : ByteArray) : List Itm → Int
  | [] => -1
  | x :: l => if Sr.same x.sku s then 0 else if find s l = -1 then -1 else find s l + 1

theorem find_none {s : ByteArray} : ∀ {xs : List Itm}, (∀ (i : Nat) (x : Itm), xs[i]? = some x → x.sku ≠ s) → find s xs = -1
  | [], _ => rfl
  | x :: l, h => by
    unfold find
    rw [Sr.same_ne (h 0 x rfl), find_none fun i y hy => h (i + 1) y (by simpa using hy)]
    rfl

theorem find_at {s : ByteArray} : ∀ {xs : List Itm} {k : Nat} {x : Itm}, xs[k]? = some x → x.sku = s → (∀ (j : Nat) (y : Itm), j < k → xs[j]? = some y → y.sku ≠ s) → find s xs = (k : Int)
  | [], k, x, h, _, _ => by simp at h
  | y :: l, 0, x, h, hs, _ => by
    obtain rfl : y = x := by simpa using h
    unfold find
    rw [hs, Sr.same_refl]; rfl
  | y :: l, k + 1, x, h, hs, hn => by
    have ih := find_at (xs := l) (k := k) (x := x) (by simpa using h) hs fun j z hj hz => hn (j + 1) z (by omega) (by simpa using hz)
    unfold find
    rw [Sr.same_ne (hn 0 y (by omega) rfl), ih]
    simp only [Bool.false_eq_true, if_false]
    rw [if_neg (by omega)]
    omega

/-- Who stands in a rising list stands there alone. -/
theorem find_rise {s : ByteArray} {xs : List Itm} {k : Nat} {x : Itm} (h : Rise xs) (hk : xs[k]? = some x) (hs : x.sku = s) : find s xs = (k : Int) :=
  find_at hk hs fun j y hj hy => by rw [← hs]; exact Sr.lt_ne (h.below hj hy hk)

theorem find_in (s : ByteArray) : ∀ xs : List Itm, -1 ≤ find s xs ∧ find s xs < xs.length
  | [] => by simp [find]
  | x :: l => by
    have := find_in s l
    unfold find
    rw [List.length_cons]
    split
    · omega
    · split <;> omega

/-- What a search by halves finds. -/
structure Halves (s : ByteArray) (xs : List Itm) (i j : Nat) : Prop where
  le : i ≤ j
  top : j ≤ xs.length
  low : ∀ (k : Nat) (x : Itm), k < i → xs[k]? = some x → Sr.lt x.sku s = true
  high : ∀ (k : Nat) (x : Itm), j ≤ k → xs[k]? = some x → Sr.lt x.sku s = false

theorem Halves.begin (s : ByteArray) (xs : List Itm) : Halves s xs 0 xs.length := ⟨Nat.zero_le _, Nat.le_refl _, fun k x h => by omega, fun k x h hx => by
  have := (List.getElem?_eq_some_iff.1 hx).1
  omega⟩

theorem Halves.up {s : ByteArray} {xs : List Itm} {i j h : Nat} {x : Itm} (H : Halves s xs i j) (R : Rise xs) (h1 : i ≤ h) (h2 : h < j) (hx : xs[h]? = some x) (hl : Sr.lt x.sku s = true) : Halves s xs (h + 1) j :=
  ⟨by omega, H.top, fun k y hk hy => by
    rcases Nat.lt_or_ge k h with hkh | hkh
    · exact Sr.lt_trans (R.below hkh hy hx) hl
    · obtain rfl : k = h := by omega
      rw [hx] at hy
      injection hy with hy
      subst hy
      exact hl, H.high⟩

theorem Halves.down {s : ByteArray} {xs : List Itm} {i j h : Nat} {x : Itm} (H : Halves s xs i j) (R : Rise xs) (h1 : i ≤ h) (h2 : h < j) (hx : xs[h]? = some x) (hl : Sr.lt x.sku s = false) : Halves s xs i h :=
  ⟨h1, by have := H.top; omega, H.low, fun k y hk hy => by
    rcases Nat.lt_or_ge h k with hkh | hkh
    · cases hc : Sr.lt y.sku s with
      | false => rfl
      | true => rw [Sr.lt_trans (R.below hkh hx hy) hc] at hl; cases hl
    · obtain rfl : k = h := by omega
      rw [hx] at hy
      injection hy with hy
      subst hy
      exact hl⟩

theorem Halves.none {s : ByteArray} {xs : List Itm} {i : Nat} (H : Halves s xs i i) (R : Rise xs) (hi : ∀ x, xs[i]? = some x → x.sku ≠ s) : ∀ (k : Nat) (x : Itm), xs[k]? = some x → x.sku ≠ s := fun k y hy => by
  rcases Nat.lt_trichotomy k i with h | h | h
  · exact Sr.lt_ne (H.low k y h hy)
  · subst h; exact hi y hy
  · have hl := (List.getElem?_eq_some_iff.1 hy).1
    obtain ⟨x, hx⟩ : ∃ x, xs[i]? = some x := ⟨_, List.getElem?_eq_getElem (by omega)⟩
    have h1 := R.below h hx hy
    have h2 := H.high i x (Nat.le_refl _) hx
    intro e
    rw [e, h2] at h1
    cases h1

end Go.Proofs.Ytdmpnkhgcggepaa.Gd
