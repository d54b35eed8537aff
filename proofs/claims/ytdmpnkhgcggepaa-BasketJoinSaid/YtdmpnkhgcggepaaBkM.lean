/- Baskets: what the document says of lines, in numbers and lists. -/
import Derived.Test.YtdmpnkhgcggepaaApB
import Derived.Test.YtdmpnkhgcggepaaGdM
set_option maxRecDepth 100000

set_option linter.unusedVariables false
namespace Go.Proofs.Ytdmpnkhgcggepaa.Bk
open Ap (Lin Unt)
open It (Itm)

/-- A line's numbers may not be. -/
def wrongB (x : Lin) : Bool := (decide (x.qty < 0) || decide (100000 < x.qty)) || (decide (x.price < 0) || decide (1000000000 < x.price))

def qsum : List Lin → Int
  | [] => 0
  | x :: xs => x.qty + qsum xs

def gsum : List Lin → Int
  | [] => 0
  | x :: xs => x.qty * x.price + gsum xs

theorem qsum_append (a b : List Lin) : qsum (a ++ b) = qsum a + qsum b := by
  induction a with
  | nil => simp [qsum]
  | cons x a ih => simp only [List.cons_append, qsum, ih]; omega

theorem gsum_append (a b : List Lin) : gsum (a ++ b) = gsum a + gsum b := by
  induction a with
  | nil => simp [gsum]
  | cons x a ih => simp only [List.cons_append, gsum, ih]; omega

theorem take_next {α : Type} {xs : List α} {k : Nat} {x : α} (h : xs[k]? = some x) : xs.take (k + 1) = xs.take k ++ [x] := by
  rw [List.take_add_one, h]; rfl

theorem qsum_next {xs : List Lin} {k : Nat} {x : Lin} (h : xs[k]? = some x) : qsum (xs.take (k + 1)) = qsum (xs.take k) + x.qty := by
  rw [take_next h, qsum_append]; simp [qsum]

theorem gsum_next {xs : List Lin} {k : Nat} {x : Lin} (h : xs[k]? = some x) : gsum (xs.take (k + 1)) = gsum (xs.take k) + x.qty * x.price := by
  rw [take_next h, gsum_append]; simp [gsum]

/-- All its numbers may be. -/
def Fine (xs : List Lin) : Prop := ∀ (i : Nat) (x : Lin), xs[i]? = some x → wrongB x = false

theorem fine_iff {x : Lin} : wrongB x = false ↔ 0 ≤ x.qty ∧ x.qty ≤ 100000 ∧ 0 ≤ x.price ∧ x.price ≤ 1000000000 := by
  unfold wrongB
  simp only [Bool.or_eq_false_iff, decide_eq_false_iff_not]
  omega

theorem line_most {q p : Int} (h0 : 0 ≤ q) (h1 : q ≤ 100000) (h2 : 0 ≤ p) (h3 : p ≤ 1000000000) : 0 ≤ q * p ∧ q * p ≤ 100000000000000 := by
  refine ⟨Int.mul_nonneg h0 h2, ?_⟩
  have := Int.mul_le_mul h1 h3 h2 (by omega : (0 : Int) ≤ 100000)
  omega

theorem Fine.cons {x : Lin} {xs : List Lin} (h : Fine (x :: xs)) : wrongB x = false ∧ Fine xs := ⟨h 0 x rfl, fun i y hy => h (i + 1) y hy⟩

theorem Fine.sums : ∀ {xs : List Lin}, Fine xs → 0 ≤ qsum xs ∧ qsum xs ≤ 100000 * (xs.length : Int) ∧ 0 ≤ gsum xs ∧ gsum xs ≤ 100000000000000 * (xs.length : Int)
  | [], _ => by simp [qsum, gsum]
  | x :: xs, h => by
    obtain ⟨h1, h2⟩ := h.cons
    obtain ⟨a, b, c, d⟩ := h2.sums
    obtain ⟨q0, q1, p0, p1⟩ := fine_iff.1 h1
    obtain ⟨m0, m1⟩ := line_most q0 q1 p0 p1
    simp only [qsum, gsum, List.length_cons]
    omega

theorem Fine.take {xs : List Lin} (h : Fine xs) (k : Nat) : Fine (xs.take k) := fun i x hx => by
  rw [List.getElem?_take] at hx
  split at hx
  · exact h i x hx
  · cases hx

theorem Fine.drop {xs : List Lin} (h : Fine xs) (k : Nat) : Fine (xs.drop k) := fun i x hx => by
  rw [List.getElem?_drop] at hx
  exact h _ x hx

/-- The sums of a beginning. -/
theorem Fine.part {xs : List Lin} (h : Fine xs) (k : Nat) : 0 ≤ qsum (xs.take k) ∧ qsum (xs.take k) ≤ qsum xs ∧ 0 ≤ gsum (xs.take k) ∧ gsum (xs.take k) ≤ gsum xs := by
  have h1 := (h.take k).sums
  have h2 := (h.drop k).sums
  have e1 := qsum_append (xs.take k) (xs.drop k)
  have e2 := gsum_append (xs.take k) (xs.drop k)
  rw [List.take_append_drop] at e1 e2
  omega

/-- What is too much. -/
def rangeE (xs : List Lin) : Int := if 100000 < qsum xs ∨ 10000000000000 < gsum xs then 5 else 0

/-- Which line is wrong first, and why. -/
def firstE (sold : ByteArray → Bool) : List Lin → Int
  | [] => 0
  | x :: xs => if sold x.sku = false then 7 else if wrongB x = true then 2 else firstE sold xs

/-- Check, by what is sold. -/
def addE (sold : ByteArray → Bool) (xs : List Lin) : Int := if 1000 < xs.length then 6 else if firstE sold xs = 0 then rangeE xs else firstE sold xs

/-- No line is wrong up to there. -/
def UpTo (sold : ByteArray → Bool) (xs : List Lin) (k : Nat) : Prop := ∀ (i : Nat) (x : Lin), i < k → xs[i]? = some x → sold x.sku = true ∧ wrongB x = false

theorem UpTo.zero (sold : ByteArray → Bool) (xs : List Lin) : UpTo sold xs 0 := fun i x h => by omega

theorem UpTo.next {sold : ByteArray → Bool} {xs : List Lin} {k : Nat} {x : Lin} (h : UpTo sold xs k) (hx : xs[k]? = some x) (h1 : sold x.sku = true) (h2 : wrongB x = false) : UpTo sold xs (k + 1) := fun i y hi hy => by
  rcases Nat.lt_or_ge i k with h3 | h3
  · exact h i y h3 hy
  · obtain rfl : i = k := by omega
    rw [hx] at hy; injection hy with hy; subst hy; exact ⟨h1, h2⟩

theorem firstE_at {sold : ByteArray → Bool} : ∀ {xs : List Lin} {k : Nat} {x : Lin}, UpTo sold xs k → xs[k]? = some x → sold x.sku = false ∨ wrongB x = true → firstE sold xs = if sold x.sku = false then 7 else 2
  | [], k, x, _, hx, _ => by simp at hx
  | y :: xs, 0, x, _, hx, hb => by
    simp only [List.getElem?_cons_zero, Option.some.injEq] at hx
    subst hx
    unfold firstE
    split
    · rfl
    · rcases hb with h1 | h1
      · contradiction
      · rw [if_pos h1]
  | y :: xs, k + 1, x, h, hx, hb => by
    obtain ⟨h1, h2⟩ := h 0 y (by omega) rfl
    unfold firstE
    rw [if_neg (by rw [h1]; simp), if_neg (by rw [h2]; simp)]
    exact firstE_at (xs := xs) (k := k) (fun i z hi hz => h (i + 1) z (by omega) hz) hx hb

theorem firstE_none {sold : ByteArray → Bool} : ∀ {xs : List Lin}, UpTo sold xs xs.length → firstE sold xs = 0
  | [], _ => rfl
  | y :: xs, h => by
    obtain ⟨h1, h2⟩ := h 0 y (by simp) rfl
    unfold firstE
    rw [if_neg (by rw [h1]; simp), if_neg (by rw [h2]; simp)]
    exact firstE_none (xs := xs) fun i z hi hz => h (i + 1) z (by simp; omega) hz

theorem UpTo.fine {sold : ByteArray → Bool} {xs : List Lin} (h : UpTo sold xs xs.length) : Fine xs := fun i x hx => (h i x (List.getElem?_eq_some_iff.1 hx).1 hx).2

theorem UpTo.all {sold : ByteArray → Bool} {xs : List Lin} (h : firstE sold xs = 0) : UpTo sold xs xs.length := by
  induction xs with
  | nil => exact fun i x hi => by simp at hi
  | cons y xs ih =>
    unfold firstE at h
    split at h
    · cases h
    · split at h
      · cases h
      · rename_i h1 h2
        intro i x hi hx
        cases i with
        | zero =>
          simp only [List.getElem?_cons_zero, Option.some.injEq] at hx
          subst hx
          exact ⟨by simpa using h1, by simpa using h2⟩
        | succ i => exact ih h i x (by simp at hi; omega) hx

theorem addE_wrong {sold : ByteArray → Bool} {xs : List Lin} {k : Nat} {x : Lin} (hl : xs.length ≤ 1000) (h : UpTo sold xs k) (hx : xs[k]? = some x) (hb : sold x.sku = false ∨ wrongB x = true) : addE sold xs = if sold x.sku = false then 7 else 2 := by
  have h1 := firstE_at h hx hb
  unfold addE
  rw [if_neg (by omega), h1, if_neg (by split <;> omega)]

theorem addE_most {sold : ByteArray → Bool} {xs : List Lin} (h : 1000 < xs.length) : addE sold xs = 6 := by unfold addE; rw [if_pos h]

theorem addE_range {sold : ByteArray → Bool} {xs : List Lin} (hl : xs.length ≤ 1000) (h : UpTo sold xs xs.length) : addE sold xs = rangeE xs := by
  unfold addE; rw [if_neg (by omega), if_pos (firstE_none h)]

/-- Each Sku is sold. -/
def every : ByteArray → Bool := fun _ => true

/-- What the lines come to, whatever the items: 0, if they may be. -/
def mayE (xs : List Lin) : Int := addE every xs

/-- Check: an item's Sku is sold. -/
def soldB (its : List Itm) (s : ByteArray) : Bool := decide (0 ≤ Gd.find s its)

def checkE (its : List Itm) (xs : List Lin) : Int := addE (soldB its) xs

def grossN (xs : List Lin) : Int := if mayE xs = 0 then gsum xs else 0

/-- A line's units. -/
def lineU (i : Nat) (x : Lin) : List Unt := List.replicate x.qty.toNat ⟨(i : Int), x.price, true⟩

def flatU : Nat → List Lin → List Unt
  | _, [] => []
  | i, x :: xs => lineU i x ++ flatU (i + 1) xs

def unitsL (xs : List Lin) : List Unt := if mayE xs = 0 then flatU 0 xs else []

/-- The item of each line, up to the first that has none. -/
def itemsL (its : List Itm) : List Lin → Option (List Itm)
  | [] => some []
  | x :: xs => match its[(Gd.find x.sku its).toNat]?, soldB its x.sku, itemsL its xs with
    | some i, true, some l => some (i :: l)
    | _, _, _ => none

def gotL (its : List Itm) (xs : List Lin) : List Itm := (itemsL its xs).getD []

/-- What may be. -/
structure May (xs : List Lin) : Prop where
  few : xs.length ≤ 1000
  fine : Fine xs
  units : qsum xs ≤ 100000
  gross : gsum xs ≤ 10000000000000

theorem may_iff {xs : List Lin} : mayE xs = 0 ↔ May xs := by
  constructor
  · intro h
    unfold mayE addE at h
    split at h
    · cases h
    · split at h
      · rename_i h1 h2
        unfold rangeE at h
        split at h
        · cases h
        · rename_i h3
          exact ⟨by omega, (UpTo.all h2).fine, by omega, by omega⟩
      · rename_i h1 h2
        exact absurd h h2
  · intro h
    have hu : UpTo every xs xs.length := fun i x _ hx => ⟨rfl, h.fine i x hx⟩
    show addE every xs = 0
    rw [addE_range h.few hu]
    unfold rangeE
    have := h.units
    have := h.gross
    rw [if_neg (by omega)]

theorem addE_codes (sold : ByteArray → Bool) (xs : List Lin) : addE sold xs = 0 ∨ addE sold xs = 2 ∨ addE sold xs = 5 ∨ addE sold xs = 6 ∨ addE sold xs = 7 := by
  unfold addE
  split
  · simp
  · split
    · unfold rangeE; split <;> simp
    · rename_i h
      clear h
      induction xs with
      | nil => simp [firstE]
      | cons x xs ih =>
        unfold firstE
        split
        · simp
        · split
          · simp
          · exact ih (by simp at *; omega)

theorem flatU_append (i : Nat) (a b : List Lin) : flatU i (a ++ b) = flatU i a ++ flatU (i + a.length) b := by
  induction a generalizing i with
  | nil => rfl
  | cons x a ih => simp only [List.cons_append, flatU, ih, List.append_assoc, List.length_cons]; congr 3; omega

theorem flatU_next {xs : List Lin} {k : Nat} {x : Lin} (h : xs[k]? = some x) : flatU 0 (xs.take (k + 1)) = flatU 0 (xs.take k) ++ lineU k x := by
  rw [take_next h, flatU_append]
  have hl : (xs.take k).length = k := by rw [List.length_take]; have := (List.getElem?_eq_some_iff.1 h).1; omega
  rw [hl]; simp [flatU]

theorem lineU_length (i : Nat) (x : Lin) : (lineU i x).length = x.qty.toNat := by simp [lineU]

theorem flatU_length : ∀ (i : Nat) {xs : List Lin}, Fine xs → ((flatU i xs).length : Int) = qsum xs
  | _, [], _ => rfl
  | i, x :: xs, h => by
    obtain ⟨h1, h2⟩ := h.cons
    have := fine_iff.1 h1
    simp only [flatU, List.length_append, lineU_length, qsum]
    have := flatU_length (i + 1) h2
    omega

theorem unitsL_length (xs : List Lin) : (unitsL xs).length ≤ 100000 := by
  unfold unitsL
  split
  · rename_i h
    have h1 := may_iff.1 h
    have := flatU_length 0 h1.fine
    have := h1.units
    omega
  · simp

end Go.Proofs.Ytdmpnkhgcggepaa.Bk
