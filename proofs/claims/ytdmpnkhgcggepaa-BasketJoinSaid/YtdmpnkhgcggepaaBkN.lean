/- Law 14: what is known of the units of lines, in numbers and lists. -/
import Derived.Test.YtdmpnkhgcggepaaBkL
set_option maxRecDepth 100000

set_option linter.unusedVariables false
namespace Go.Proofs.Ytdmpnkhgcggepaa.Bk
open Ap (Lin Unt)
open It (Itm)

def nsum : List Unt → Int
  | [] => 0
  | u :: l => u.net + nsum l

theorem nsum_append (a b : List Unt) : nsum (a ++ b) = nsum a + nsum b := by
  induction a with
  | nil => simp [nsum]
  | cons x a ih => simp only [List.cons_append, nsum, ih]; omega

theorem nsum_next {us : List Unt} {k : Nat} {u : Unt} (h : us[k]? = some u) : nsum (us.take (k + 1)) = nsum (us.take k) + u.net := by
  rw [take_next h, nsum_append]; simp [nsum]

theorem nsum_replicate (q : Nat) (u : Unt) : nsum (List.replicate q u) = (q : Int) * u.net := by
  induction q with
  | zero => simp [nsum]
  | succ q ih => rw [List.replicate_succ, nsum, ih]; rw [Int.natCast_add, Int.add_mul]; omega

theorem flat_nsum : ∀ (i : Nat) {xs : List Lin}, Fine xs → nsum (flatU i xs) = gsum xs
  | _, [], _ => rfl
  | i, x :: xs, h => by
    obtain ⟨h1, h2⟩ := h.cons
    have := fine_iff.1 h1
    have hq : ((x.qty.toNat : Nat) : Int) = x.qty := by omega
    simp only [flatU, nsum_append, gsum, flat_nsum (i + 1) h2, lineU, nsum_replicate, hq]

/-- No net is below 0. -/
def Nets (us : List Unt) : Prop := ∀ (k : Nat) (u : Unt), us[k]? = some u → 0 ≤ u.net

theorem Nets.sum : ∀ {us : List Unt}, Nets us → 0 ≤ nsum us
  | [], _ => by simp [nsum]
  | u :: us, h => by
    have h1 := h 0 u rfl
    have h2 : 0 ≤ nsum us := Nets.sum fun k v hv => h (k + 1) v hv
    simp only [nsum]; omega

theorem Nets.part {us : List Unt} (h : Nets us) (k : Nat) : 0 ≤ nsum (us.take k) ∧ nsum (us.take k) ≤ nsum us := by
  have h1 : 0 ≤ nsum (us.take k) := Nets.sum fun i u hu => by
    rw [List.getElem?_take] at hu
    split at hu
    · exact h i u hu
    · cases hu
  have h2 : 0 ≤ nsum (us.drop k) := Nets.sum fun i u hu => by
    rw [List.getElem?_drop] at hu
    exact h _ u hu
  have e := nsum_append (us.take k) (us.drop k)
  rw [List.take_append_drop] at e
  omega

theorem flat_at : ∀ {xs : List Lin} {j i : Nat} {u : Unt}, (flatU j xs)[i]? = some u → ∃ (k : Nat) (x : Lin), xs[k]? = some x ∧ u = ⟨((j + k : Nat) : Int), x.price, true⟩
  | [], j, i, u, h => by simp [flatU] at h
  | x :: xs, j, i, u, h => by
    unfold flatU at h
    rcases Nat.lt_or_ge i (lineU j x).length with h1 | h1
    · rw [List.getElem?_append_left h1] at h
      unfold lineU at h
      have := List.mem_of_getElem? h
      obtain rfl := (List.mem_replicate.1 this).2
      exact ⟨0, x, rfl, rfl⟩
    · rw [List.getElem?_append_right h1] at h
      obtain ⟨k, y, hy, rfl⟩ := flat_at h
      exact ⟨k + 1, y, hy, by congr 1; omega⟩

theorem flat_mono : ∀ {xs : List Lin} {j i : Nat} {u v : Unt}, (flatU j xs)[i]? = some u → (flatU j xs)[i + 1]? = some v → u.line ≤ v.line
  | [], j, i, u, v, h, _ => by simp [flatU] at h
  | x :: xs, j, i, u, v, h, g => by
    obtain ⟨k2, y2, _, rfl⟩ := flat_at g
    unfold flatU at h g
    rcases Nat.lt_or_ge i (lineU j x).length with h1 | h1
    · rw [List.getElem?_append_left h1] at h
      unfold lineU at h
      obtain rfl := (List.mem_replicate.1 (List.mem_of_getElem? h)).2
      show (j : Int) ≤ ((j + k2 : Nat) : Int)
      omega
    · rw [List.getElem?_append_right h1] at h
      rw [List.getElem?_append_right (by omega), show i + 1 - (lineU j x).length = i - (lineU j x).length + 1 by omega] at g
      exact flat_mono h g

/-- The statements' lines may be, by the statements' items. -/
theorem near_sold (its : List Itm) (xs : List Lin) : UpTo (soldB (Py.itemsOf its)) (linesOf xs) (linesOf xs).length := fun i x _ hx => by
  obtain ⟨y, rfl⟩ := linesOf_at hx
  have hk := Py.modN_lt (Py.pickS y.sku) 8 (by omega)
  refine ⟨?_, (lines_may xs).fine i _ hx⟩
  unfold soldB
  have hf : Gd.find (lineAt y).sku (Py.itemsOf its) = ((Py.modN (Py.pickS y.sku) 8 : Nat) : Int) := Gd.find_rise (Py.items_good its).rise (Py.itemsOf_get its (by omega)) (by rw [Py.itemAt_sku]; rfl)
  rw [hf]
  exact decide_eq_true (by omega)

theorem near_check (its : List Itm) (xs : List Lin) : checkE (Py.itemsOf its) (linesOf xs) = 0 := by
  have hm := lines_may xs
  show addE _ _ = 0
  rw [addE_range hm.few (near_sold its xs)]
  unfold rangeE
  have := hm.units
  have := hm.gross
  rw [if_neg (by omega)]

theorem near_gross (xs : List Lin) : grossN (linesOf xs) = gsum (linesOf xs) := by unfold grossN; rw [if_pos (may_iff.2 (lines_may xs))]

theorem near_units (xs : List Lin) : unitsL (linesOf xs) = flatU 0 (linesOf xs) := by unfold unitsL; rw [if_pos (may_iff.2 (lines_may xs))]

theorem flat_nets {xs : List Lin} (h : Fine xs) (j : Nat) : Nets (flatU j xs) := fun k u hu => by
  obtain ⟨i, x, hx, rfl⟩ := flat_at hu
  exact (fine_iff.1 (h i x hx)).2.2.1

theorem lines_most (xs : List Lin) : qsum (linesOf xs) ≤ 80 ∧ gsum (linesOf xs) ≤ 320000 := by
  have hl := linesOf_length xs
  have hb : ∀ (l : List Lin), (∀ y ∈ l, ∃ x, y = lineAt x) → qsum l ≤ 10 * (l.length : Int) ∧ gsum l ≤ 40000 * (l.length : Int) := by
    intro l
    induction l with
    | nil => intro _; simp [qsum, gsum]
    | cons y l ih =>
      intro h
      obtain ⟨x, rfl⟩ := h y List.mem_cons_self
      obtain ⟨h1, h2⟩ := ih fun z hz => h z (List.mem_cons_of_mem _ hz)
      obtain ⟨a, b, c, d⟩ := line_fine x
      have hp : (lineAt x).qty * (lineAt x).price ≤ 10 * 4000 := Int.mul_le_mul (by omega) (by omega) c (by omega)
      simp only [qsum, gsum, List.length_cons]
      omega
  have h := hb (linesOf xs) fun y hy => by
    obtain ⟨k, hk⟩ := List.mem_iff_getElem?.1 hy
    exact linesOf_at hk
  omega

theorem join_may (xs ys : List Lin) : May (linesOf xs ++ linesOf ys) := by
  have h1 := lines_may xs
  have h2 := lines_may ys
  have l1 := linesOf_length xs
  have l2 := linesOf_length ys
  have hb : ∀ (zs : List Lin), qsum (linesOf zs) ≤ 80 ∧ gsum (linesOf zs) ≤ 320000 := fun zs => lines_most zs
  have b1 := hb xs
  have b2 := hb ys
  refine ⟨by rw [List.length_append]; omega, fun i x hx => ?_, by rw [qsum_append]; omega, by rw [gsum_append]; omega⟩
  rcases Nat.lt_or_ge i (linesOf xs).length with h | h
  · rw [List.getElem?_append_left h] at hx; exact h1.fine i x hx
  · rw [List.getElem?_append_right h] at hx; exact h2.fine _ x hx

theorem may_gross {xs : List Lin} (h : May xs) : grossN xs = gsum xs := by unfold grossN; rw [if_pos (may_iff.2 h)]

theorem may_units {xs : List Lin} (h : May xs) : unitsL xs = flatU 0 xs := by unfold unitsL; rw [if_pos (may_iff.2 h)]

/-- A unit, so many lines further on. -/
def shiftU (d : Nat) (u : Unt) : Unt := ⟨u.line + (d : Int), u.net, u.opn⟩

theorem flat_shift (d : Nat) : ∀ (i : Nat) (xs : List Lin), flatU (i + d) xs = (flatU i xs).map (shiftU d)
  | _, [] => rfl
  | i, x :: xs => by
    have h := flat_shift d (i + 1) xs
    rw [show i + 1 + d = i + d + 1 by omega] at h
    simp only [flatU, List.map_append, h, lineU, List.map_replicate]
    rfl

theorem join_units (aa bs : List Lin) : flatU 0 (aa ++ bs) = flatU 0 aa ++ (flatU 0 bs).map (shiftU aa.length) := by
  rw [flatU_append, Nat.zero_add]
  have := flat_shift aa.length 0 bs
  rw [Nat.zero_add] at this
  rw [this]

end Go.Proofs.Ytdmpnkhgcggepaa.Bk
