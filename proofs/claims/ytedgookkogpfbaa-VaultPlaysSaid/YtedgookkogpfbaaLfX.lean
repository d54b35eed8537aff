/- Leaves as bytes: plain mathematics, nothing of the program. · A leaf's numbers in a sector: put, number; the document's lay, four. · May a leaf be laid, and which flags it has: the landed calls, and the document's. · The landed Lay. · The document's Lay. · Mark, of the landed code and of the document. -/
import Derived.Test.YtedgookkogpfbaaCr
import Derived.Test.YtedgookkogpfbaaBa
import Derived.Test.YtedgookkogpfbaaDkY
import Derived.Laws.ResultCell
import Derived.RegionTactic
import Derived.BigRegion
import Derived.Deep.RegionHeld3
import Derived.Deep.RegionLaw
import Derived.Deep.AppendLies
import Derived.Deep.CutBlock
import Derived.Deep.DeepCutAuto
import Derived.Laws.IdiomCopy
import Derived.StillTailTactics
import Derived.BigQuiet
import Derived.Deep.QuietTactic
set_option maxRecDepth 100000

section
set_option linter.unusedVariables false
namespace Go.Proofs.Ytedgookkogpfbaa.Lf
open Se (over over_length over_at noughts noughts_len)

/-- A leaf. -/
structure Leaf where
  epoch : Nat
  number : Nat
  first : Bool
  last : Bool
  data : List UInt8

/-- A number's four bytes, the highest first. -/
def be4 (v : Nat) : List UInt8 := [UInt8.ofNat (v / 16777216 % 256), UInt8.ofNat (v / 65536 % 256), UInt8.ofNat (v / 256 % 256), UInt8.ofNat (v % 256)]

theorem be4_len (v : Nat) : (be4 v).length = 4 := rfl

/-- What four bytes say. -/
def val4 (l : List UInt8) : Nat := l.foldl (fun v b => v * 256 + b.toNat) 0

theorem val4_be4 {v : Nat} (h : v < 2 ^ 32) : val4 (be4 v) = v := by
  unfold val4 be4
  simp only [List.foldl_cons, List.foldl_nil]
  rw [By.toNat_small (by omega), By.toNat_small (by omega), By.toNat_small (by omega), By.toNat_small (by omega)]
  omega

theorem be4_inj {v u : Nat} (h : v < 2 ^ 32) (h2 : u < 2 ^ 32) (e : be4 v = be4 u) : v = u := by
  have := congrArg val4 e
  rwa [val4_be4 h, val4_be4 h2] at this

theorem four {l : List UInt8} (h : l.length = 4) : ∃ a b c d, l = [a, b, c, d] := by
  match l, h with
  | [a, b, c, d], _ => exact ⟨a, b, c, d, rfl⟩

theorem val4_lt {l : List UInt8} (h : l.length = 4) : val4 l < 2 ^ 32 := by
  obtain ⟨a, b, c, d, rfl⟩ := four h
  have := a.toNat_lt; have := b.toNat_lt; have := c.toNat_lt; have := d.toNat_lt
  unfold val4
  simp only [List.foldl_cons, List.foldl_nil]
  omega

theorem be4_val4 {l : List UInt8} (h : l.length = 4) : be4 (val4 l) = l := by
  obtain ⟨a, b, c, d, rfl⟩ := four h
  have h1 := a.toNat_lt; have h2 := b.toNat_lt; have h3 := c.toNat_lt; have h4 := d.toNat_lt
  unfold val4 be4
  simp only [List.foldl_cons, List.foldl_nil]
  have e : ∀ (x : UInt8) (n : Nat), n = x.toNat → UInt8.ofNat n = x := fun x n hn => by rw [hn, UInt8.ofNat_toNat]
  rw [e a _ (by omega), e b _ (by omega), e c _ (by omega), e d _ (by omega)]

theorem val4_take {l : List UInt8} {i : Nat} {b : UInt8} (h : l[i]? = some b) : val4 (l.take (i + 1)) = val4 (l.take i) * 256 + b.toNat := by
  rw [List.take_add_one, h]
  unfold val4
  simp

/-- What lies from a place on, so many of it. -/
def cut (s : List UInt8) (at_ n : Nat) : List UInt8 := (s.take (at_ + n)).drop at_

theorem cut_len {s : List UInt8} {at_ n : Nat} (h : at_ + n ≤ s.length) : (cut s at_ n).length = n := by
  unfold cut
  rw [List.length_drop, List.length_take]
  omega

theorem cut_at {s : List UInt8} {at_ n k : Nat} (hk : k < n) : (cut s at_ n)[k]? = s[at_ + k]? := by
  unfold cut
  rw [List.getElem?_drop, List.getElem?_take, if_pos (by omega)]

theorem cut_ext {s t : List UInt8} {at_ n : Nat} (h : ∀ k, k < n → s[at_ + k]? = t[at_ + k]?) : cut s at_ n = cut t at_ n := by
  apply List.ext_getElem?
  intro k
  rcases Nat.lt_or_ge k n with hk | hk
  · rw [cut_at hk, cut_at hk, h k hk]
  · have e : ∀ s : List UInt8, (cut s at_ n)[k]? = none := fun s => by
      unfold cut
      rw [List.getElem?_eq_none (by rw [List.length_drop, List.length_take]; omega)]
    rw [e, e]

theorem cut_of_eq {s : List UInt8} {t : List UInt8} {at_ n : Nat} (hs : at_ + n ≤ s.length) (ht : t.length = n) (h : ∀ k, k < n → s[at_ + k]? = t[k]?) : cut s at_ n = t := by
  apply List.ext_getElem?
  intro k
  rcases Nat.lt_or_ge k n with hk | hk
  · rw [cut_at hk, h k hk]
  · rw [List.getElem?_eq_none (by rw [cut_len hs]; omega), List.getElem?_eq_none (by omega)]

/-- Which ends of a record. -/
def flagsN (f l : Bool) : Nat := (if f then 1 else 0) + (if l then 2 else 0)

theorem flagsN_lt (f l : Bool) : flagsN f l < 4 := by cases f <;> cases l <;> decide

/-- May it be laid? -/
def rightB (l : Leaf) : Bool := decide (l.epoch ≠ 0) && decide (1 ≤ l.data.length) && decide (l.data.length ≤ 46) && (l.last || decide (l.data.length = 46))

theorem right_iff (l : Leaf) : rightB l = true ↔ l.epoch ≠ 0 ∧ 1 ≤ l.data.length ∧ l.data.length ≤ 46 ∧ (l.last = true ∨ l.data.length = 46) := by
  unfold rightB
  simp only [Bool.and_eq_true, decide_eq_true_eq, Bool.or_eq_true, and_assoc]

/-! ### Its bytes, one thing laid behind the other -/
def lay1 (l : Leaf) : List UInt8 := over noughts 0 (be4 l.epoch)

def lay2 (l : Leaf) : List UInt8 := over (lay1 l) 4 (be4 l.number)

def lay3 (l : Leaf) : List UInt8 := (lay2 l).set 8 (UInt8.ofNat (flagsN l.first l.last))

def lay4 (l : Leaf) : List UInt8 := (lay3 l).set 9 (UInt8.ofNat l.data.length)

def lay5 (l : Leaf) : List UInt8 := over (lay4 l) 10 l.data

def lay6 (l : Leaf) : List UInt8 := over (lay5 l) 56 (be4 (Cr.sum ((lay5 l).take 56)))

def layB (l : Leaf) : List UInt8 := over (lay6 l) 60 (be4 l.epoch)

theorem lay1_len (l : Leaf) : (lay1 l).length = 64 := by unfold lay1; rw [over_length, noughts_len]
theorem lay2_len (l : Leaf) : (lay2 l).length = 64 := by unfold lay2; rw [over_length, lay1_len]
theorem lay3_len (l : Leaf) : (lay3 l).length = 64 := by unfold lay3; rw [List.length_set, lay2_len]
theorem lay4_len (l : Leaf) : (lay4 l).length = 64 := by unfold lay4; rw [List.length_set, lay3_len]
theorem lay5_len (l : Leaf) : (lay5 l).length = 64 := by unfold lay5; rw [over_length, lay4_len]
theorem lay6_len (l : Leaf) : (lay6 l).length = 64 := by unfold lay6; rw [over_length, lay5_len]
theorem layB_len (l : Leaf) : (layB l).length = 64 := by unfold layB; rw [over_length, lay6_len]

theorem over_out {xs vs : List UInt8} {o k : Nat} (h : o + vs.length ≤ xs.length) (hk : k < o ∨ o + vs.length ≤ k) : (over xs o vs)[k]? = xs[k]? := by
  rw [over_at _ _ _ _ h, if_neg (by omega)]

theorem over_in {xs vs : List UInt8} {o k : Nat} (h : o + vs.length ≤ xs.length) (hk : k < vs.length) : (over xs o vs)[o + k]? = vs[k]? := by
  rw [over_at _ _ _ _ h, if_pos (by omega), Nat.add_sub_cancel_left]

theorem set_out {xs : List UInt8} {o k : Nat} {b : UInt8} (hk : k ≠ o) : (xs.set o b)[k]? = xs[k]? := List.getElem?_set_ne (Ne.symm hk)

/-- Of what is summed nothing is turned behind. -/
theorem lay_front (l : Leaf) (k : Nat) (hk : k < 56) : (layB l)[k]? = (lay5 l)[k]? := by
  unfold layB
  rw [over_out (by rw [be4_len, lay6_len]; omega) (.inl (by omega))]
  unfold lay6
  rw [over_out (by rw [be4_len, lay5_len]; omega) (.inl (by omega))]

theorem lay_sum (l : Leaf) : cut (layB l) 56 4 = be4 (Cr.sum ((layB l).take 56)) := by
  have e : (layB l).take 56 = (lay5 l).take 56 := by
    apply List.ext_getElem?
    intro k
    rw [List.getElem?_take, List.getElem?_take]
    split
    · exact lay_front l k (by omega)
    · rfl
  rw [e]
  refine cut_of_eq (by rw [layB_len]; omega) (be4_len _) fun k hk => ?_
  unfold layB
  rw [over_out (by rw [be4_len, lay6_len]; omega) (.inl (by omega))]
  unfold lay6
  exact over_in (by rw [be4_len, lay5_len]; omega) (by rw [be4_len]; exact hk)

theorem lay_again (l : Leaf) : cut (layB l) 60 4 = be4 l.epoch := cut_of_eq (by rw [layB_len]; omega) (be4_len _) fun k hk => by
  unfold layB
  exact over_in (by rw [be4_len, lay6_len]; omega) (by rw [be4_len]; exact hk)

section
variable (l : Leaf) (hl : l.data.length ≤ 46)
include hl

theorem lay5_out (k : Nat) (hk : k < 10 ∨ 10 + l.data.length ≤ k) : (lay5 l)[k]? = (lay4 l)[k]? := by
  unfold lay5
  exact over_out (by rw [lay4_len]; omega) hk

theorem lay_epoch : cut (layB l) 0 4 = be4 l.epoch := cut_of_eq (by rw [layB_len]; omega) (be4_len _) fun k hk => by
  rw [lay_front l _ (by omega), lay5_out l hl _ (.inl (by omega))]
  unfold lay4 lay3
  rw [set_out (by omega), set_out (by omega)]
  unfold lay2
  rw [over_out (by rw [be4_len, lay1_len]; omega) (.inl (by omega))]
  unfold lay1
  exact over_in (by rw [be4_len, noughts_len]; omega) (by rw [be4_len]; exact hk)

theorem lay_number : cut (layB l) 4 4 = be4 l.number := cut_of_eq (by rw [layB_len]; omega) (be4_len _) fun k hk => by
  rw [lay_front l _ (by omega), lay5_out l hl _ (.inl (by omega))]
  unfold lay4 lay3
  rw [set_out (by omega), set_out (by omega)]
  unfold lay2
  exact over_in (by rw [be4_len, lay1_len]; omega) (by rw [be4_len]; exact hk)

theorem lay_flags : (layB l)[8]? = some (UInt8.ofNat (flagsN l.first l.last)) := by
  rw [lay_front l _ (by omega), lay5_out l hl _ (.inl (by omega))]
  unfold lay4 lay3
  rw [set_out (by omega), List.getElem?_set_self (by rw [lay2_len]; omega)]

theorem lay_count : (layB l)[9]? = some (UInt8.ofNat l.data.length) := by
  rw [lay_front l _ (by omega), lay5_out l hl _ (.inl (by omega))]
  unfold lay4
  rw [List.getElem?_set_self (by rw [lay3_len]; omega)]

theorem lay_data : cut (layB l) 10 l.data.length = l.data := cut_of_eq (by rw [layB_len]; omega) rfl fun k hk => by
  rw [lay_front l _ (by omega)]
  unfold lay5
  exact over_in (by rw [lay4_len]; omega) hk
end

/-! ### What 64 bytes are as a leaf -/
/-- The leaf that is read. -/
def readB (s : List UInt8) : Leaf :=
  { epoch := val4 (cut s 0 4), number := val4 (cut s 4 4), first := (s.getD 8 0).toNat % 2 == 1, last := (s.getD 8 0).toNat / 2 % 2 == 1, data := cut s 10 (min (s.getD 9 0).toNat 46) }

def takesB (s : List UInt8) : Bool := rightB (readB s) && (layB (readB s) == s)

theorem flags_back (f l : Bool) : ((UInt8.ofNat (flagsN f l)).toNat % 2 == 1) = f ∧ ((UInt8.ofNat (flagsN f l)).toNat / 2 % 2 == 1) = l := by
  cases f <;> cases l <;> decide

/-- What is laid is read as it was. -/
theorem read_lay (l : Leaf) (hl : l.data.length ≤ 46) (he : l.epoch < 2 ^ 32) (hn : l.number < 2 ^ 32) : readB (layB l) = l := by
  obtain ⟨f1, f2⟩ := flags_back l.first l.last
  have h8 : (layB l).getD 8 0 = UInt8.ofNat (flagsN l.first l.last) := by rw [List.getD, lay_flags l hl]; rfl
  have h9 : ((layB l).getD 9 0).toNat = l.data.length := by rw [List.getD, lay_count l hl]; exact By.toNat_small (by omega)
  unfold readB
  rw [lay_epoch l hl, lay_number l hl, val4_be4 he, val4_be4 hn, h8, f1, f2, h9, Nat.min_eq_left hl, lay_data l hl]

theorem takes_lay (l : Leaf) (h : rightB l = true) (he : l.epoch < 2 ^ 32) (hn : l.number < 2 ^ 32) : takesB (layB l) = true := by
  unfold takesB
  rw [read_lay l ((right_iff l).1 h).2.2.1 he hn, h]
  simp

theorem read_len (s : List UInt8) (hs : s.length = 64) : (readB s).data.length = min (s.getD 9 0).toNat 46 := by
  unfold readB
  exact cut_len (by omega)

theorem read_le (s : List UInt8) (hs : s.length = 64) : (readB s).data.length ≤ 46 := by
  rw [read_len s hs]; omega

theorem read_epoch (s : List UInt8) (hs : s.length = 64) : (readB s).epoch < 2 ^ 32 := val4_lt (cut_len (by omega))

theorem read_number (s : List UInt8) (hs : s.length = 64) : (readB s).number < 2 ^ 32 := val4_lt (cut_len (by omega))

/-- A leaf's epoch stands at its end once more, and its sum is right. -/
theorem takes_told {s : List UInt8} (hs : s.length = 64) (h : takesB s = true) : cut s 60 4 = cut s 0 4 ∧ cut s 56 4 = be4 (Cr.sum (s.take 56)) ∧ cut s 0 4 ≠ be4 0 ∧ (s.getD 9 0).toNat ≤ 46 := by
  unfold takesB at h
  simp only [Bool.and_eq_true, beq_iff_eq] at h
  obtain ⟨h1, h2⟩ := h
  have hr := (right_iff _).1 h1
  have e0 := lay_epoch (readB s) (read_le s hs)
  have e1 := lay_again (readB s)
  have e2 := lay_sum (readB s)
  have e3 := lay_count (readB s) (read_le s hs)
  rw [h2] at e0 e1 e2 e3
  refine ⟨e1.trans e0.symm, e2, fun hz => ?_, ?_⟩
  · rw [e0] at hz
    exact hr.1 (be4_inj (read_epoch s hs) (by omega) hz)
  · rw [List.getD, e3]
    have := read_le s hs
    show (UInt8.ofNat _).toNat ≤ 46
    rw [By.toNat_small (by omega)]
    exact this

/-- A count that is too great is none. -/
theorem takes_count {s : List UInt8} (hs : s.length = 64) (h : 46 < (s.getD 9 0).toNat) : takesB s = false := by
  cases ht : takesB s with
  | false => rfl
  | true => have := (takes_told hs ht).2.2.2; omega

def markN (s : List UInt8) : Nat := max (val4 (cut s 0 4)) (val4 (cut s 60 4))

theorem mark_lay (l : Leaf) (hl : l.data.length ≤ 46) (he : l.epoch < 2 ^ 32) : markN (layB l) = l.epoch := by
  unfold markN
  rw [lay_epoch l hl, lay_again l, val4_be4 he]
  omega

/-! ### Turned, torn -/
/-- With another sum than its own it is none. -/
theorem turned_none {s z : List UInt8} (hz : z.length = 64) (hs : cut s 56 4 = be4 (Cr.sum (s.take 56))) (hb : ∀ k, 56 ≤ k → z[k]? = s[k]?) (hne : Cr.sum (z.take 56) ≠ Cr.sum (s.take 56)) : takesB z = false := by
  cases ht : takesB z with
  | false => rfl
  | true =>
    have h2 := (takes_told hz ht).2.1
    have e : cut z 56 4 = cut s 56 4 := cut_ext fun k _ => hb _ (by omega)
    rw [e, hs] at h2
    exact absurd (be4_inj (Cr.more_lt _ _) (Cr.more_lt _ _) h2).symm hne

/-- A beginning of one over the end of another. -/
def torn (x y : List UInt8) (n : Nat) : List UInt8 := x.take n ++ y.drop n

theorem torn_at {x y : List UInt8} (hx : x.length = 64) (n k : Nat) (hn : n ≤ 64) : (torn x y n)[k]? = if k < n then x[k]? else y[k]? := by
  unfold torn
  by_cases h : k < n
  · rw [if_pos h, List.getElem?_append_left (by rw [List.length_take]; omega), List.getElem?_take, if_pos h]
  · rw [if_neg h, List.getElem?_append_right (by rw [List.length_take]; omega), List.length_take, List.getElem?_drop]
    congr 1
    omega

theorem torn_len {x y : List UInt8} (hx : x.length = 64) (hy : y.length = 64) (n : Nat) (hn : n ≤ 64) : (torn x y n).length = 64 := by
  unfold torn
  rw [List.length_append, List.length_take, List.length_drop]
  omega

theorem torn_over {x y : List UInt8} (hx : x.length = 64) (hy : y.length = 64) (n : Nat) (hn : n ≤ 64) : over y 0 (cut x 0 n) = torn x y n := by
  have hl : (cut x 0 n).length = n := cut_len (by omega)
  apply List.ext_getElem?
  intro k
  rw [over_at _ _ _ _ (by omega), torn_at hx n k hn, hl, Nat.zero_add]
  by_cases h : k < n
  · rw [if_pos ⟨by omega, h⟩, if_pos h, Nat.sub_zero, cut_at h, Nat.zero_add]
  · rw [if_neg (fun q => h q.2), if_neg h]

theorem at_of_cut {s t : List UInt8} {a b n k : Nat} (h : cut s a n = cut t b n) (hk : k < n) : s[a + k]? = t[b + k]? := by
  have e : (cut s a n)[k]? = (cut t b n)[k]? := by rw [h]
  rwa [cut_at hk, cut_at hk] at e

theorem torn_none {x y : List UInt8} (hx : x.length = 64) (hy : y.length = 64) (n : Nat) (hn : n ≤ 64) (ex : cut x 60 4 = cut x 0 4) (ey : cut y 60 4 = cut y 0 4) (hne : cut x 0 4 ≠ cut y 0 4)
    (h1 : torn x y n ≠ x) (h2 : torn x y n ≠ y) : takesB (torn x y n) = false := by
  cases ht : takesB (torn x y n) with
  | false => rfl
  | true =>
    exfalso
    have hz := torn_len hx hy n hn
    have e := (takes_told hz ht).1
    have T := torn_at (y := y) hx n
    rcases Nat.lt_or_ge 60 n with h60 | h60
    · apply h1
      apply List.ext_getElem?
      intro k
      rw [T k hn]
      split
      · rfl
      · rcases Nat.lt_or_ge k 64 with hk | hk
        · have a1 := at_of_cut e (k := k - 60) (by omega)
          have a2 := at_of_cut ex (k := k - 60) (by omega)
          rw [show 60 + (k - 60) = k by omega] at a1 a2
          rw [T k hn, if_neg (by omega), T _ hn, if_pos (by omega)] at a1
          rw [a1, a2]
        · rw [List.getElem?_eq_none (by omega), List.getElem?_eq_none (by omega)]
    · rcases Nat.lt_or_ge n 4 with h4 | h4
      · apply h2
        apply List.ext_getElem?
        intro k
        rw [T k hn]
        split
        · have a1 := at_of_cut e (k := k) (by omega)
          have a2 := at_of_cut ey (k := k) (by omega)
          rw [Nat.zero_add] at a1 a2
          rw [T _ hn, if_neg (by omega), T k hn, if_pos (by omega)] at a1
          rw [← a1, a2]
        · rfl
      · apply hne
        refine cut_ext fun k hk => ?_
        have a1 := at_of_cut e hk
        have a2 := at_of_cut ey hk
        rw [Nat.zero_add] at a1 a2 ⊢
        rw [T _ hn, if_neg (by omega), T k hn, if_pos (by omega)] at a1
        rw [← a1, a2]

theorem takes_noughts : takesB noughts = false := by decide +kernel

theorem noughts_cut (a : Nat) (h : a + 4 ≤ 64) : cut noughts a 4 = be4 0 := by
  refine cut_of_eq (by rw [noughts_len]; omega) (be4_len _) fun k hk => ?_
  unfold noughts
  rw [List.getElem?_replicate, if_pos (by omega)]
  match k, hk with
  | 0, _ => rfl
  | 1, _ => rfl
  | 2, _ => rfl
  | 3, _ => rfl

end Go.Proofs.Ytedgookkogpfbaa.Lf
end

section
namespace Go.Proofs.Ytedgookkogpfbaa.Lf
open Go.ChangeShapes Go.WideShapes Go.ChangeAt Go.RowKit
open Qu (Blk)
open Mv (Only)
open By (Bys cellsB cellsB_length cellsB_at)
open Se (over over_length over_at noughts noughts_len)
open Dk (Sec secCells secCells_size secCells_at)
set_option linter.unusedVariables false

theorem over_take {s vs : List UInt8} {o i : Nat} {b : UInt8} (h : vs[i]? = some b) : (over s o (vs.take i)).set (o + i) b = over s o (vs.take (i + 1)) := by
  induction vs generalizing s o i with
  | nil => simp at h
  | cons v r ih =>
    cases i with
    | zero =>
      obtain rfl : v = b := by simpa using h
      rfl
    | succ i =>
      have h2 : r[i]? = some b := by simpa using h
      have e := ih (s := s.set o v) (o := o + 1) h2
      show (over (s.set o v) (o + 1) (r.take i)).set (o + (i + 1)) b = over (s.set o v) (o + 1) (r.take (i + 1))
      rw [← e, show o + 1 + i = o + (i + 1) by omega]

/-- The bytes of a number, one by one. -/
theorem be4_at (v i : Nat) (hi : i < 4) : (be4 v)[i]? = some (UInt8.ofNat (v / 2 ^ (8 * (3 - i)) % 256)) := by
  match i, hi with
  | 0, _ => rfl
  | 1, _ => rfl
  | 2, _ => rfl
  | 3, _ => simp [be4]


theorem Sec_drew {w : World} {g : Nat} {s : List UInt8} (h : Sec w g s) : Sec w.drew g s := ⟨h.1, h.2.drew⟩

/-- A byte of a number is written. -/
theorem put_step {w wr : World} {g at_ v i : Nat} {s : List UInt8} (hS : Sec wr g (over s at_ ((be4 v).take i))) (hG : w.grownBy wr (some g)) (hi : i < 4) :
    Sec (wr.setCell ⟨g, at_ + i, none⟩ (.int .u8 ((v : Int) / 2 ^ (8 * (3 - i)) % 256))) g (over s at_ ((be4 v).take (i + 1))) ∧ w.grownBy (wr.setCell ⟨g, at_ + i, none⟩ (.int .u8 ((v : Int) / 2 ^ (8 * (3 - i)) % 256))) (some g) := by
  have e : (v : Int) / 2 ^ (8 * (3 - i)) % 256 = ((v / 2 ^ (8 * (3 - i)) % 256 : Nat) : Int) := by simp
  rw [e]
  refine ⟨?_, hG.trans (Qu.turned_at _ _ _ _)⟩
  have h := hS.byte (k := at_ + i) ((v / 2 ^ (8 * (3 - i)) % 256 : Nat) : Int) (by omega)
  rw [Int.toNat_natCast, over_take (be4_at v i hi)] at h
  exact h

theorem be4_all (v : Nat) : (be4 v).take 4 = be4 v := rfl

set_option maxHeartbeats 1000000 in
theorem put_any (w : World) (g at_ v : Nat) (s : List UInt8) (h : Sec w g s) (ha : at_ + 4 ≤ 64) (hv : v < 2 ^ 32) :
    Calls Try.prog 88 #[.pointer (some ⟨g, 0, none⟩), .int .i64 (at_ : Int), .int .u32 (v : Int)] w fun e w' => e = .returned (.tuple #[]) ∧ Sec w' g (over s at_ (be4 v)) ∧ w.grownBy w' (some g) := by
  have a0 : (0 : Int) ≤ (at_ : Int) := by omega
  have a1 : (at_ : Int) ≤ 60 := by omega
  have v0 : (0 : Int) ≤ (v : Int) := by omega
  have v1 : (v : Int) ≤ 4294967295 := by omega
  have H0 := Lib.hid h
  clear h ha hv
  go_enter Try.func88, Try.ntmps88
  go_wp2_with fail
  go_loopw [7] (fun s7 wr => ∃ i : Nat, s7 = .int .i64 (i : Int) ∧ i ≤ 4 ∧ Sec wr g (over s at_ ((be4 v).take i)) ∧ w.grownBy wr (some g)) (fun s7 _ => 4 - (intOf s7).toNat)
  case atStart => exact ⟨0, rfl, by omega, H0.out, World.grownBy.refl w _⟩
  case round =>
    obtain ⟨i, rfl, hi, hS, hG⟩ := hrel
    have i0 : (0 : Int) ≤ (i : Int) := by omega
    by_cases hlt : i < 4
    · have i1 : (i : Int) < 4 := by omega
      have c1 := hS.2.cell (at_ + i)
      have f1 := hS.2.frozen (at_ + i)
      obtain ⟨u, hu⟩ : ∃ u, (secCells (over s at_ ((be4 v).take i)))[at_ + i]? = some u := ⟨_, Array.getElem?_eq_getElem (by rw [secCells_size, hS.1]; omega)⟩
      rw [hu] at c1
      have HS := Lib.hid (put_step hS hG hlt)
      clear hS hG hu
      go_wp2
      go_region
      go_wp2
      go_roundw
      case rel => exact ⟨i + 1, by go_num, by omega, Sec_drew HS.out.1, Qu.turned_drew HS.out.2⟩
      case measure => simp [intOf]; omega
    · obtain rfl : i = 4 := by omega
      have i1 : ¬ (4 : Int) < 4 := by omega
      have HS := Lib.hid (And.intro hS hG)
      clear hS hG
      go_wp2
      go_end0
      exact ⟨rfl, HS.out.1, HS.out.2⟩

set_option maxHeartbeats 1000000 in
theorem rlay_any (w : World) (g at_ v : Nat) (s : List UInt8) (h : Sec w g s) (ha : at_ + 4 ≤ 64) (hv : v < 2 ^ 32) :
    Calls Try.prog 80 #[.slice (some ⟨g, 0, none⟩) 64 64, .int .i64 (at_ : Int), .int .u32 (v : Int)] w fun e w' => e = .returned (.tuple #[]) ∧ Sec w' g (over s at_ (be4 v)) ∧ w.grownBy w' (some g) := by
  have a0 : (0 : Int) ≤ (at_ : Int) := by omega
  have a1 : (at_ : Int) ≤ 60 := by omega
  have v0 : (0 : Int) ≤ (v : Int) := by omega
  have v1 : (v : Int) ≤ 4294967295 := by omega
  have H0 := Lib.hid h
  clear h ha hv
  go_enter Try.func80, Try.ntmps80
  go_wp2_with fail
  go_loopw [6] (fun s7 wr => ∃ i : Nat, s7 = .int .i64 (i : Int) ∧ i ≤ 4 ∧ Sec wr g (over s at_ ((be4 v).take i)) ∧ w.grownBy wr (some g)) (fun s7 _ => 4 - (intOf s7).toNat)
  case atStart => exact ⟨0, rfl, by omega, H0.out, World.grownBy.refl w _⟩
  case round =>
    obtain ⟨i, rfl, hi, hS, hG⟩ := hrel
    have i0 : (0 : Int) ≤ (i : Int) := by omega
    by_cases hlt : i < 4
    · have i1 : (i : Int) < 4 := by omega
      have i2 : (24 - 8 * (i : Int)) = 8 * (3 - (i : Int)) := by omega
      have c1 := hS.2.cell (at_ + i)
      have f1 := hS.2.frozen (at_ + i)
      obtain ⟨u, hu⟩ : ∃ u, (secCells (over s at_ ((be4 v).take i)))[at_ + i]? = some u := ⟨_, Array.getElem?_eq_getElem (by rw [secCells_size, hS.1]; omega)⟩
      rw [hu] at c1
      have HS := Lib.hid (put_step hS hG hlt)
      clear hS hG hu
      go_wp2
      go_roundw
      case rel => exact ⟨i + 1, by go_num, by omega, HS.out.1, HS.out.2⟩
      case measure => simp [intOf]; omega
    · obtain rfl : i = 4 := by omega
      have i1 : ¬ (4 : Int) < 4 := by omega
      have HS := Lib.hid (And.intro hS hG)
      clear hS hG
      go_wp2
      go_end0
      exact ⟨rfl, HS.out.1, HS.out.2⟩


/-- A byte behind a number. -/
theorem or_byte (x b : Nat) (hx : x < 16777216) (hb : b < 256) : bits .or .u32 ((x : Int) * 256 % 4294967296) (b : Int) = ((x * 256 + b : Nat) : Int) := by
  have e : (x : Int) * 256 % 4294967296 = ((x * 256 : Nat) : Int) := by omega
  rw [e, u32_or_nat (x * 256) b (by omega) (by omega)]
  congr 1
  have h := Nat.two_pow_add_eq_or_of_lt (i := 8) (b := b) (by omega) x
  rw [Nat.mul_comm x 256]
  exact h.symm

theorem val4_small : ∀ (l : List UInt8) (i : Nat), l.length ≤ i → val4 l < 256 ^ i := by
  intro l
  have key : ∀ (l : List UInt8) (v i k : Nat), v < 256 ^ k → l.length ≤ i → l.foldl (fun v b => v * 256 + b.toNat) v < 256 ^ (k + i) := by
    intro l
    induction l with
    | nil =>
      intro v i k hv _
      exact Nat.lt_of_lt_of_le hv (Nat.pow_le_pow_right (by omega) (by omega))
    | cons b r ih =>
      intro v i k hv hi
      rw [List.length_cons] at hi
      have hb := b.toNat_lt
      have h := ih (v * 256 + b.toNat) (i - 1) (k + 1) (by rw [Nat.pow_succ]; omega) (by omega)
      rw [show k + 1 + (i - 1) = k + i by omega] at h
      exact h
  intro i hi
  have := key l 0 i 0 (by simp) hi
  rw [Nat.zero_add] at this
  exact this

theorem cut_short (s : List UInt8) (at_ n : Nat) (i : Nat) : ((cut s at_ n).take i).length ≤ i := List.length_take_le _ _

theorem pow_three {x i : Nat} (h : x < 256 ^ i) (hi : i < 4) : x < 16777216 :=
  Nat.lt_of_lt_of_le h (Nat.le_trans (Nat.pow_le_pow_right (by omega) (show i ≤ 3 by omega)) (by decide))

theorem cut_all {s : List UInt8} {at_ n : Nat} (h : at_ + n ≤ s.length) : (cut s at_ n).take n = cut s at_ n := List.take_of_length_le (by rw [cut_len h]; omega)

set_option maxHeartbeats 1000000 in
theorem rfour_any (w : World) (g at_ : Nat) (s : List UInt8) (h : Sec w g s) (ha : at_ + 4 ≤ 64) :
    Calls Try.prog 63 #[.slice (some ⟨g, 0, none⟩) 64 64, .int .i64 (at_ : Int)] w fun e w' => e = .returned (.int .u32 (val4 (cut s at_ 4) : Int)) ∧ w = w' := by
  have a0 : (0 : Int) ≤ (at_ : Int) := by omega
  have a1 : (at_ : Int) ≤ 60 := by omega
  have hl := h.1
  have H0 := Lib.hid h
  have HC := Lib.hid (cut_all (s := s) (at_ := at_) (n := 4) (by omega))
  clear h ha
  go_enter Try.func63, Try.ntmps63
  go_wp2_with fail
  go_loop [5, 6] (fun s5 s6 => ∃ i : Nat, s6 = .int .i64 (i : Int) ∧ i ≤ 4 ∧ s5 = .int .u32 (val4 ((cut s at_ 4).take i) : Int)) (fun _ s6 => 4 - (intOf s6).toNat)
  case atStart => exact ⟨0, rfl, by omega, rfl⟩
  case round =>
    obtain ⟨i, rfl, hi, rfl⟩ := hrel
    have i0 : (0 : Int) ≤ (i : Int) := by omega
    by_cases hlt : i < 4
    · have i1 : (i : Int) < 4 := by omega
      have hb : ∃ b, s[at_ + i]? = some b := ⟨_, List.getElem?_eq_getElem (by omega)⟩
      obtain ⟨b, hb⟩ := hb
      have c1 : w.cell? ⟨g, at_ + i, none⟩ = some (.int .u8 (b.toNat : Int)) := by
        rw [H0.out.2.cell, secCells_at, hb]; rfl
      have HV := Lib.hid (val4_take (l := cut s at_ 4) (i := i) (b := b) (by rw [cut_at hlt]; exact hb))
      have hx := pow_three (val4_small _ i (cut_short s at_ 4 i)) hlt
      obtain ⟨x, hx0⟩ : ∃ x, val4 ((cut s at_ 4).take i) = x := ⟨_, rfl⟩
      have HX := Lib.hid hx0
      rw [hx0] at hx ⊢
      have hbl := b.toNat_lt
      generalize b.toNat = y at *
      have ho := or_byte x y hx hbl
      rw [Int.emod_eq_of_lt (by omega) (by omega)] at ho
      have x0 : (0 : Int) ≤ (x : Int) := by omega
      have x1 : (x : Int) < 16777216 := by omega
      have y0 : (0 : Int) ≤ (y : Int) := by omega
      have y1 : (y : Int) < 256 := by omega
      clear hb hx0
      go_wp2
      go_round
      case rel => exact ⟨i + 1, by go_num, by omega, by rw [HV.out, HX.out]; simp⟩
      case measure => simp [intOf]; omega
    · obtain rfl : i = 4 := by omega
      have i1 : ¬ (4 : Int) < 4 := by omega
      rw [HC.out]
      go_wp2
      go_ret
      exact ⟨rfl, rfl⟩


/-! ### A sector's parts as slices -/
theorem arr64 : Try.prog.underlying 43 = some (.array (Try.prog.arrayLen 43) (Try.prog.elem 43)) := by kernel_rfl

theorem len64 : Try.prog.arrayLen 43 = 64 := by kernel_rfl

theorem one64 (W : World) : (sizeOf (Try.prog.elem 43)).run Try.prog W = .ok 1 W := by kernel_rfl

theorem part_lh (g lo hi : Nat) (a b : Int) (ha : a = (lo : Int)) (hb : b = (hi : Int)) (h0 : lo < 64) (h1 : lo ≤ hi) (h2 : hi ≤ 64) (W : World) :
    (Instr.sliceAt 43 (.pointer (some ⟨g, 0, none⟩)) (some (.int .i64 a)) (some (.int .i64 b)) none).run Try.prog W = .ok (.slice (some ⟨g, lo, none⟩) (hi - lo) (64 - lo)) W := by
  subst ha hb
  rw [run_sliceAt_array_lh (P := Try.prog) W 43 ⟨g, 0, none⟩ arr64 .i64 .i64 (lo : Int) (hi : Int) (by omega) (by omega) (by rw [len64]; omega), one64]
  simp only [Result.andThen, slicedAt, len64, Int.toNat_natCast, Nat.mul_one]
  rw [if_neg (by omega), Go.WideShapes.add_plain, Nat.zero_add]

theorem part_h (g hi : Nat) (b : Int) (hb : b = (hi : Int)) (h2 : hi ≤ 64) (W : World) :
    (Instr.sliceAt 43 (.pointer (some ⟨g, 0, none⟩)) none (some (.int .i64 b)) none).run Try.prog W = .ok (.slice (some ⟨g, 0, none⟩) hi 64) W := by
  subst hb
  rw [run_sliceAt_array_h (P := Try.prog) W 43 ⟨g, 0, none⟩ arr64 .i64 (hi : Int) (by omega) (by rw [len64]; omega), one64]
  simp only [Result.andThen, slicedAt, len64, Int.toNat_natCast, Nat.mul_one]
  rw [if_neg (by omega), Go.WideShapes.add_plain]
  simp

theorem part_l (g lo : Nat) (a : Int) (ha : a = (lo : Int)) (h0 : lo < 64) (W : World) :
    (Instr.sliceAt 43 (.pointer (some ⟨g, 0, none⟩)) (some (.int .i64 a)) none none).run Try.prog W = .ok (.slice (some ⟨g, lo, none⟩) (64 - lo) (64 - lo)) W := by
  subst ha
  rw [run_sliceAt_array_l (P := Try.prog) W 43 ⟨g, 0, none⟩ arr64 .i64 (lo : Int) (by omega) (by rw [len64]; omega), one64]
  simp only [Result.andThen, slicedAt, len64, Int.toNat_natCast, Nat.mul_one]
  rw [if_neg (by omega), Go.WideShapes.add_plain, Nat.zero_add]

theorem part_all (g : Nat) (W : World) :
    (Instr.sliceAt 43 (.pointer (some ⟨g, 0, none⟩)) none none none).run Try.prog W = .ok (.slice (some ⟨g, 0, none⟩) 64 64) W := by
  rw [run_sliceAt_array_all (P := Try.prog) W 43 ⟨g, 0, none⟩ arr64, one64]
  simp only [Result.andThen, slicedAt, len64, Nat.mul_one]
  rw [if_neg (by omega), Go.WideShapes.add_plain]

/-- The bytes of a part. -/
theorem part_bys {w : World} {g lo n : Nat} {s : List UInt8} (h : Sec w g s) (hn : lo + n ≤ 64) : Bys w w.heap.size (some ⟨g, lo, none⟩) n (cut s lo n) := ⟨cut_len (by rw [h.1]; exact hn), fun k b hb => by
  have hk : k < n := by
    have := (List.getElem?_eq_some_iff.1 hb).1
    rw [cut_len (by rw [h.1]; exact hn)] at this
    exact this
  rw [cut_at hk] at hb
  exact ⟨g, lo, rfl, h.2.lt, by rw [h.2.cell, secCells_at, hb]; rfl⟩⟩

set_option maxHeartbeats 1000000 in
theorem number_any (w : World) (at_ : Nat) (s : List UInt8) (hs : s.length = 64) (ha : at_ + 4 ≤ 64) :
    Calls Try.prog 74 #[.agg (secCells s), .int .i64 (at_ : Int)] w fun e w' => e = .returned (.int .u32 (val4 (cut s at_ 4) : Int)) ∧ Below w.heap.size w w' := by
  have a0 : (0 : Int) ≤ (at_ : Int) := by omega
  have a1 : (at_ : Int) ≤ 60 := by omega
  have HC := Lib.hid (cut_all (s := s) (at_ := at_) (n := 4) (by omega))
  have hsl := fun W => part_lh w.heap.size at_ (at_ + 4) (at_ : Int) ((at_ : Int) + 4) rfl (by omega) (by omega) (by omega) (by omega) W
  rw [Nat.add_sub_cancel_left] at hsl
  go_enter Try.func74, Try.ntmps74
  go_wp2_with (first
    | (refine Dk.box_sec rfl _ rfl _ rfl hs ?_; intro w1 hS1 hB1 hZ1; have H0 := Lib.hid (And.intro hS1 hB1); clear hS1 hB1 hZ1))
  go_loop [5, 7, 13] (fun s5 _ s6 => ∃ i : Nat, s6 = .int .i64 (i : Int) ∧ i ≤ 4 ∧ s5 = .int .u32 (val4 ((cut s at_ 4).take i) : Int)) (fun _ _ s6 => 4 - (intOf s6).toNat)
  case atStart => exact ⟨0, rfl, by omega, rfl⟩
  case round =>
    obtain ⟨i, rfl, hi, rfl⟩ := hrel
    have i0 : (0 : Int) ≤ (i : Int) := by omega
    by_cases hlt : i < 4
    · have i1 : (i : Int) < 4 := by omega
      have hb : ∃ b, s[at_ + i]? = some b := ⟨_, List.getElem?_eq_getElem (by omega)⟩
      obtain ⟨b, hb⟩ := hb
      have c1 : w1.cell? ⟨w.heap.size, at_ + i, none⟩ = some (.int .u8 (b.toNat : Int)) := by
        rw [H0.out.1.2.cell, secCells_at, hb]; rfl
      have HV := Lib.hid (val4_take (l := cut s at_ 4) (i := i) (b := b) (by rw [cut_at hlt]; exact hb))
      have hx := pow_three (val4_small _ i (cut_short s at_ 4 i)) hlt
      obtain ⟨x, hx0⟩ : ∃ x, val4 ((cut s at_ 4).take i) = x := ⟨_, rfl⟩
      have HX := Lib.hid hx0
      rw [hx0] at hx ⊢
      have hbl := b.toNat_lt
      generalize b.toNat = y at *
      have ho := or_byte x y hx hbl
      rw [Int.emod_eq_of_lt (by omega) (by omega)] at ho
      have x0 : (0 : Int) ≤ (x : Int) := by omega
      have x1 : (x : Int) < 16777216 := by omega
      have y0 : (0 : Int) ≤ (y : Int) := by omega
      have y1 : (y : Int) < 256 := by omega
      clear hb hx0
      go_wp2
      go_round
      case rel => exact ⟨i + 1, by go_num, by omega, by rw [HV.out, HX.out]; simp⟩
      case measure => simp [intOf]; omega
    · obtain rfl : i = 4 := by omega
      have i1 : ¬ (4 : Int) < 4 := by omega
      rw [HC.out]
      go_wp2
      go_ret
      exact ⟨rfl, H0.out.2⟩

end Go.Proofs.Ytedgookkogpfbaa.Lf
end

section
namespace Go.Proofs.Ytedgookkogpfbaa.Lf
open Go.ChangeShapes Go.WideShapes Go.ChangeAt Go.RowKit
open Qu (Blk)
open By (Bys cellsB cellsB_length cellsB_at)
open Dk (Sec secCells secCells_size secCells_at)
set_option linter.unusedVariables false

/-- What is asked of a leaf, in the walk's forms. -/
theorem right_cases (e n m : Nat) (f l : Bool) (d : List UInt8) (hd : d.length = m) :
    (rightB ⟨e, n, f, l, d⟩ = true ∧ e ≠ 0 ∧ 1 ≤ m ∧ m ≤ 46 ∧ (l = true ∨ m = 46)) ∨ (rightB ⟨e, n, f, l, d⟩ = false ∧ (e = 0 ∨ (e ≠ 0 ∧ m = 0) ∨ (e ≠ 0 ∧ 1 ≤ m ∧ 46 < m) ∨ (e ≠ 0 ∧ 1 ≤ m ∧ m < 46 ∧ l = false))) := by
  subst hd
  have h := right_iff ⟨e, n, f, l, d⟩
  cases hr : rightB ⟨e, n, f, l, d⟩ with
  | true => exact .inl ⟨rfl, h.1 hr⟩
  | false =>
    refine .inr ⟨rfl, ?_⟩
    rw [hr] at h
    have h2 : ¬ (e ≠ 0 ∧ 1 ≤ d.length ∧ d.length ≤ 46 ∧ (l = true ∨ d.length = 46)) := fun x => by simpa using h.2 x
    by_cases h0 : e = 0
    · exact .inl h0
    · by_cases h1 : d.length = 0
      · exact .inr (.inl ⟨h0, h1⟩)
      · by_cases h3 : 46 < d.length
        · exact .inr (.inr (.inl ⟨h0, by omega, h3⟩))
        · refine .inr (.inr (.inr ⟨h0, by omega, ?_, ?_⟩))
          · rcases Nat.lt_or_ge d.length 46 with h4 | h4
            · exact h4
            · exact absurd ⟨h0, by omega, by omega, .inr (by omega)⟩ h2
          · cases l with
            | false => rfl
            | true => exact absurd ⟨h0, by omega, by omega, .inl rfl⟩ h2

set_option maxHeartbeats 1000000 in
theorem right_any (w : World) (e n m c : Nat) (f l : Bool) (A : Option Addr) (d : List UInt8) (hd : d.length = m) :
    Calls Try.prog 87 #[.agg #[.int .u32 (e : Int), .int .u32 (n : Int), .bool f, .bool l, .slice A m c]] w fun en w' => en = .returned (.bool (rightB ⟨e, n, f, l, d⟩)) ∧ Below w.heap.size w w' := by
  rcases right_cases e n m f l d hd with ⟨hr, h0, h1, h2, h3⟩ | ⟨hr, h⟩
  · rw [hr]
    have q0 : ((e : Int) != 0) = true := bne_iff_ne.2 (by omega)
    have q1 : (1 : Int) ≤ (m : Int) := by omega
    have q2 : (m : Int) ≤ 46 := by omega
    clear hr hd d
    cases l with
    | true =>
      clear h3 h0 h1 h2
      go_enter Try.func87, Try.ntmps87
      go_wp2
      all_goals (go_ret; exact ⟨rfl, (Below.refl _ _).alloc (Nat.le_refl _) _⟩)
    | false =>
      obtain rfl : m = 46 := by simpa using h3
      clear h3 h0 h1 h2
      go_enter Try.func87, Try.ntmps87
      go_wp2
      all_goals (go_ret; exact ⟨rfl, (Below.refl _ _).alloc (Nat.le_refl _) _⟩)
  · rw [hr]
    clear hr hd d
    rcases h with rfl | ⟨h0, rfl⟩ | ⟨h0, h1, h2⟩ | ⟨h0, h1, h2, rfl⟩
    · go_enter Try.func87, Try.ntmps87
      go_wp2
      all_goals (go_ret; exact ⟨rfl, (Below.refl _ _).alloc (Nat.le_refl _) _⟩)
    · have q0 : ((e : Int) != 0) = true := bne_iff_ne.2 (by omega)
      clear h0
      go_enter Try.func87, Try.ntmps87
      go_wp2
      all_goals (go_ret; exact ⟨rfl, (Below.refl _ _).alloc (Nat.le_refl _) _⟩)
    · have q0 : ((e : Int) != 0) = true := bne_iff_ne.2 (by omega)
      have q1 : (1 : Int) ≤ (m : Int) := by omega
      have q2 : ¬ (m : Int) ≤ 46 := by omega
      clear h0 h1 h2
      go_enter Try.func87, Try.ntmps87
      go_wp2
      all_goals (go_ret; exact ⟨rfl, (Below.refl _ _).alloc (Nat.le_refl _) _⟩)
    · have q0 : ((e : Int) != 0) = true := bne_iff_ne.2 (by omega)
      have q1 : (1 : Int) ≤ (m : Int) := by omega
      have q2 : (m : Int) ≤ 46 := by omega
      have q3 : ((m : Int) == 46) = false := beq_eq_false_iff_ne.2 (by omega)
      clear h0 h1 h2
      go_enter Try.func87, Try.ntmps87
      go_wp2
      all_goals (go_ret; exact ⟨rfl, (Below.refl _ _).alloc (Nat.le_refl _) _⟩)

set_option maxHeartbeats 1000000 in
theorem rright_any (w : World) (e n m c : Nat) (f l : Bool) (A : Option Addr) (d : List UInt8) (hd : d.length = m) :
    Calls Try.prog 79 #[.agg #[.int .u32 (e : Int), .int .u32 (n : Int), .bool f, .bool l, .slice A m c]] w fun en w' => en = .returned (.bool (rightB ⟨e, n, f, l, d⟩)) ∧ Below w.heap.size w w' := by
  rcases right_cases e n m f l d hd with ⟨hr, h0, h1, h2, h3⟩ | ⟨hr, h⟩
  · rw [hr]
    have q0 : ((e : Int) != 0) = true := bne_iff_ne.2 (by omega)
    have q1 : (1 : Int) ≤ (m : Int) := by omega
    have q2 : (m : Int) ≤ 46 := by omega
    clear hr hd d
    cases l with
    | true =>
      clear h3 h0 h1 h2
      go_enter Try.func79, Try.ntmps79
      go_wp2
      all_goals (go_ret; exact ⟨rfl, (Below.refl _ _).alloc (Nat.le_refl _) _⟩)
    | false =>
      obtain rfl : m = 46 := by simpa using h3
      clear h3 h0 h1 h2
      go_enter Try.func79, Try.ntmps79
      go_wp2
      all_goals (go_ret; exact ⟨rfl, (Below.refl _ _).alloc (Nat.le_refl _) _⟩)
  · rw [hr]
    clear hr hd d
    rcases h with rfl | ⟨h0, rfl⟩ | ⟨h0, h1, h2⟩ | ⟨h0, h1, h2, rfl⟩
    · go_enter Try.func79, Try.ntmps79
      go_wp2
      all_goals (go_ret; exact ⟨rfl, (Below.refl _ _).alloc (Nat.le_refl _) _⟩)
    · have q0 : ((e : Int) != 0) = true := bne_iff_ne.2 (by omega)
      clear h0
      go_enter Try.func79, Try.ntmps79
      go_wp2
      all_goals (go_ret; exact ⟨rfl, (Below.refl _ _).alloc (Nat.le_refl _) _⟩)
    · have q0 : ((e : Int) != 0) = true := bne_iff_ne.2 (by omega)
      have q1 : (1 : Int) ≤ (m : Int) := by omega
      have q2 : ¬ (m : Int) ≤ 46 := by omega
      clear h0 h1 h2
      go_enter Try.func79, Try.ntmps79
      go_wp2
      all_goals (go_ret; exact ⟨rfl, (Below.refl _ _).alloc (Nat.le_refl _) _⟩)
    · have q0 : ((e : Int) != 0) = true := bne_iff_ne.2 (by omega)
      have q1 : (1 : Int) ≤ (m : Int) := by omega
      have q2 : (m : Int) ≤ 46 := by omega
      have q3 : ((m : Int) == 46) = false := beq_eq_false_iff_ne.2 (by omega)
      clear h0 h1 h2
      go_enter Try.func79, Try.ntmps79
      go_wp2
      all_goals (go_ret; exact ⟨rfl, (Below.refl _ _).alloc (Nat.le_refl _) _⟩)

theorem flags_any (w : World) (e n m c : Nat) (f l : Bool) (A : Option Addr) :
    Calls Try.prog 89 #[.agg #[.int .u32 (e : Int), .int .u32 (n : Int), .bool f, .bool l, .slice A m c]] w fun en w' => en = .returned (.int .u8 (flagsN f l : Int)) ∧ Below w.heap.size w w' := by
  have b1 : bits .or .u8 0 1 = 1 := by decide
  have b2 : bits .or .u8 1 2 = 3 := by decide
  have b3 : bits .or .u8 0 2 = 2 := by decide
  cases f <;> cases l <;>
    go_enter Try.func89, Try.ntmps89 <;>
    go_wp2 <;>
    go_ret <;>
    exact ⟨rfl, (Below.refl _ _).alloc (Nat.le_refl _) _⟩

end Go.Proofs.Ytedgookkogpfbaa.Lf
end

section
namespace Go.Proofs.Ytedgookkogpfbaa.Lf
open Go.ChangeShapes Go.WideShapes Go.ChangeAt Go.RowKit
open Qu (Blk)
open By (Bys cellsB cellsB_length cellsB_at)
open Se (over over_length over_at noughts noughts_len)
open Dk (Sec secCells secCells_size secCells_at size_sector)
set_option linter.unusedVariables false

/-- A value and a sector are told. -/
theorem two_results {f : Func} {p u : Tmp} {T : TypeId} (hf : f.results = #[.cell p T, .tmp u]) (tmps : Array Value) (w : World) (g : Nat) (s : List UInt8) (v : Value) (hT : T = 43) (h : Sec w g s) (hp : tmps.getD p undef = .pointer (some ⟨g, 0, none⟩)) (hv : tmps.getD u undef = v) : (results f tmps).run Try.prog w = .ok (.tuple #[.agg (secCells s), v]) w := by
  subst hT
  have hl := run_loadVar_row (P := Try.prog) w g 43 43 (secCells s) (0, 0) _ h.2.here Try.underlying43 rfl (by rw [size_sector, secCells_size, h.1])
  rw [results_cell_tmp hf, hp, hv]
  simp only [asAddr, Sem.run_pure, Result.andThen_ok, hl]

theorem over_cells : ∀ (vs s : List UInt8) (o : Nat), over (cellsB s) o (cellsB vs) = cellsB (over s o vs)
  | [], s, o => rfl
  | v :: r, s, o => by
    show over ((cellsB s).set o (.int .u8 (v.toNat : Int))) (o + 1) (cellsB r) = cellsB (over (s.set o v) (o + 1) r)
    rw [← By.cellsB_set, over_cells r]

/-- Bytes are written over a sector's, from a place on. -/
theorem sec_over {w : World} {g o : Nat} {s vs : List UInt8} (h : Sec w g s) : Sec (w.setCells g o (cellsB vs)) g (over s o vs) ∧ w.grownBy (w.setCells g o (cellsB vs)) (some g) := by
  obtain ⟨h1, h2⟩ := Dk.setCells_blk (cellsB vs) o w g _ _ h.2
  refine ⟨⟨by rw [over_length, h.1], ?_⟩, h2⟩
  have e : (Se.over (secCells s).toList o (cellsB vs)).toArray = secCells (over s o vs) := by
    unfold secCells
    rw [← over_cells]
  rw [e] at h1
  exact h1

/-- Bytes are copied into a sector, at a step of a region that draws; none, perhaps. -/
theorem step_copy_in {w : World} {ops : Array Oper} {o : Oper} {a : Act} {K : Act → World → Prop} {Q : Exit → Act → World → Prop} {E : Prop} (free : o.guard = none) (x y : Operand)
    (is : o.op = .call { callee := .builtin .copy, args := #[x, y], argTypes := #[37, 37] }) (g o1 n1 c1 m c M : Nat) (A : Option Addr) (s d : List UInt8) (vx : a.eval x = .slice (some ⟨g, o1, none⟩) n1 c1) (vy : a.eval y = .slice A m c)
    (hS : Sec w g s) (hb : Bys w M A m d) (h1 : m ≤ n1) (h2 : o1 + m ≤ 64) (go : ∀ w', Sec w' g (over s o1 d) → w.grownBy w' (some g) → K (a.put o.dst (goInt m)) w') :
    if Region.wanted o (yielded ops a.tmps) = true then Oper.wp Try.prog o a w K Q else E := by
  have hw : Region.wanted o (yielded ops a.tmps) = true := by simp [Region.wanted, free]
  rw [if_pos hw]
  by_cases h0 : m = 0
  · subst h0
    obtain rfl : d = [] := List.eq_nil_of_length_eq_zero hb.len
    have hrun := run_copy_none (P := Try.prog) w 37 37 o.type 5 (some ⟨g, o1, none⟩) A n1 c1 0 c Try.underlying37 (by kernel_rfl) (Nat.zero_min _)
    unfold Oper.wp
    simp [execOp, is, resolve, invoke, builtin, vx, vy, hrun, Result.andThen]
    exact go _ hS (World.grownBy.refl w _)
  obtain ⟨g2, o2, rfl, _, _⟩ := hb.at (k := 0) (by omega)
  have hl : (cellsB d).length = m := by rw [cellsB_length, hb.len]
  have hrun := run_copy_cells (P := Try.prog) w 37 37 o.type 5 g o1 n1 c1 ⟨g2, o2, none⟩ m c (cellsB d) Try.underlying37 (by kernel_rfl) (by rw [hl]; exact (Nat.min_eq_left h1).symm)
    hb.there
    (fun j hj => by
      rw [hl] at hj
      rw [hS.2.cell, secCells_at, List.getElem?_eq_getElem (by rw [hS.1]; omega)]
      rfl)
    (fun j hj => hS.2.frozen _) (By.cellsB_one _)
  rw [hl] at hrun
  obtain ⟨q1, q2⟩ := sec_over (o := o1) (vs := d) hS
  unfold Oper.wp
  simp [execOp, is, resolve, invoke, builtin, vx, vy, hrun, Result.andThen]
  exact go _ q1 q2

/-- A leaf in a box of its own: its five cells. -/
def LeafC (e n : Nat) (f l : Bool) (A : Option Addr) (m c : Nat) : Array Value := #[.int .u32 (e : Int), .int .u32 (n : Int), .bool f, .bool l, .slice A m c]

theorem box_cells {w : World} {g e n m c : Nat} {f l : Bool} {A : Option Addr} (h : Blk w g 104 (LeafC e n f l A m c)) :
    w.cell? ⟨g, 0, none⟩ = some (.int .u32 (e : Int)) ∧ w.cell? ⟨g, 1, none⟩ = some (.int .u32 (n : Int)) ∧ w.cell? ⟨g, 2, none⟩ = some (.bool f) ∧ w.cell? ⟨g, 3, none⟩ = some (.bool l) ∧ w.cell? ⟨g, 4, none⟩ = some (.slice A m c) :=
  ⟨h.cell 0, h.cell 1, h.cell 2, h.cell 3, h.cell 4⟩

/-- What stands while a leaf is laid: the leaf's box, the named result, the sector that is filled. -/
structure LayAt (w wk : World) (g : Nat) (cs : Array Value) (t : List UInt8) : Prop where
  box : Blk wk w.heap.size 104 cs
  res : Sec wk (w.heap.size + 1) noughts
  out : Sec wk g t
  below : Below w.heap.size w wk
  low : w.heap.size + 1 < g

section
variable {w wk wk' : World} {g : Nat} {cs : Array Value} {t t' : List UInt8}
theorem Sec.far {w w' : World} {g k : Nat} {s : List UInt8} (h : Sec w g s) (hg : w.grownBy w' (some k)) (hne : g ≠ k) : Sec w' g s := ⟨h.1, h.2.grown hg (fun e => hne (by injection e))⟩

theorem Sec.below {w w' : World} {g : Nat} {s : List UInt8} (h : Sec w g s) (hb : Below w.heap.size w w') : Sec w' g s := ⟨h.1, h.2.below hb⟩

theorem LayAt.turned (h : LayAt w wk g cs t) (hS : Sec wk' g t') (hg : wk.grownBy wk' (some g)) : LayAt w wk' g cs t' :=
  ⟨h.box.grown hg (fun e => by have := h.low; injection e with e; omega), Sec.far h.res hg (by have := h.low; omega), hS, h.below.grown hg h.below.size (fun k hk => by have := h.low; injection hk with hk; omega), h.low⟩

theorem LayAt.later (h : LayAt w wk g cs t) (hb : Below wk.heap.size wk wk') : LayAt w wk' g cs t :=
  ⟨h.box.below hb, Sec.below h.res hb, Sec.below h.out hb, h.below.trans (hb.mono h.below.size), h.low⟩

theorem LayAt.byte (h : LayAt w wk g cs t) (k : Nat) (z : Int) (hz : 0 ≤ z ∧ z ≤ 255) : LayAt w (wk.setCell ⟨g, k, none⟩ (.int .u8 z)) g cs (t.set k (UInt8.ofNat z.toNat)) :=
  h.turned (h.out.byte z hz) (Qu.turned_at _ _ _ _)

theorem LayAt.drew (h : LayAt w wk g cs t) : LayAt w wk.drew g cs t := ⟨h.box.drew, Sec_drew h.res, Sec_drew h.out, h.below.drew, h.low⟩
end

set_option maxHeartbeats 2000000 in
theorem lay_right (w : World) (e n m c : Nat) (f l : Bool) (A : Option Addr) (d : List UInt8) (hb : Bys w w.heap.size A m d) (he : e < 2 ^ 32) (hn : n < 2 ^ 32) (hr : rightB ⟨e, n, f, l, d⟩ = true) :
    Calls Try.prog 82 #[.agg #[.int .u32 (e : Int), .int .u32 (n : Int), .bool f, .bool l, .slice A m c]] w fun en w' => en = .returned (.tuple #[.agg (secCells (layB ⟨e, n, f, l, d⟩)), .int .i64 0]) ∧ Below w.heap.size w w' := by
  have hm := hb.len
  have hr2 : e ≠ 0 ∧ 1 ≤ d.length ∧ d.length ≤ 46 ∧ (l = true ∨ d.length = 46) := (right_iff _).1 hr
  have m1 : (m : Int) ≤ 46 := by have := hr2.2.2.1; omega
  have m0 : (1 : Int) ≤ (m : Int) := by have := hr2.2.1; omega
  have HD := Lib.hid hb
  have HM := Lib.hid (show d.length = m ∧ 0 < m ∧ m ≤ 46 from ⟨hm, by omega, by omega⟩)
  have HR := Lib.hid hr
  have HE := Lib.hid (And.intro he hn)
  clear hb hr2 hr hm he hn
  go_enter Try.func82, Try.ntmps82
  go_wp2_with (first
    | (refine Dk.new_sec (op := ⟨some 2, _, _, _, _, _⟩) rfl rfl ?_; intro w1 hS1 hB1 hZ1; obtain ⟨c0, c1, c2, c3, c4⟩ := box_cells ((Blk.new w 104 (LeafC e n f l A m c)).below hB1)))
  have H1 := Lib.hid (show Blk w1 w.heap.size 104 (LeafC e n f l A m c) ∧ Sec w1 (w.heap.size + 1) noughts ∧ Below w.heap.size w w1 ∧ w1.heap.size = w.heap.size + 2 from
    ⟨(Blk.new w 104 (LeafC e n f l A m c)).below hB1, by have h := hS1; rw [World.size_alloc] at h; exact h, ((Below.refl w.heap.size w).alloc (Nat.le_refl _) _).trans (hB1.mono (by simp)), by have h := hZ1; rw [World.size_alloc] at h; exact h⟩)
  clear hS1 hB1 hZ1 c0 c1 c2 c3 c4
  refine (right_any w1 e n m c f l A d HM.out.1).mono ?_
  rintro en w2 ⟨rfl, k2⟩
  rw [HR.out]
  have H2 := Lib.hid (show Blk w2 w.heap.size 104 (LeafC e n f l A m c) ∧ Sec w2 (w.heap.size + 1) noughts ∧ Below w.heap.size w w2 ∧ w.heap.size + 1 < w2.heap.size from
    ⟨H1.out.1.below k2, Sec.below H1.out.2.1 k2, H1.out.2.2.1.trans (k2.mono H1.out.2.2.1.size), by have := k2.size; have := H1.out.2.2.2; omega⟩)
  clear k2 H1
  go_wp2_with (first
    | (refine Dk.new_sec (op := ⟨some 4, _, _, _, _, _⟩) rfl rfl ?_; intro w3 hS3 hB3 hZ3; obtain ⟨c0, c1, c2, c3, c4⟩ := box_cells (H2.out.1.below hB3)))
  obtain ⟨g, hg⟩ : ∃ g, w2.heap.size = g := ⟨_, rfl⟩
  have H3 := Lib.hid (show LayAt w w3 g (LeafC e n f l A m c) noughts from ⟨H2.out.1.below hB3, Sec.below H2.out.2.1 hB3, by rw [← hg]; exact hS3, H2.out.2.2.1.trans (hB3.mono H2.out.2.2.1.size), by have := H2.out.2.2.2; omega⟩)
  rw [hg]
  clear hS3 hB3 hZ3 c0 c1 c2 c3 c4 hg H2
  refine (put_any w3 g 0 e _ H3.out.out (by omega) HE.out.1).mono ?_
  rintro en w4 ⟨rfl, s4, g4⟩
  have H4 := Lib.hid (show LayAt w w4 g (LeafC e n f l A m c) (lay1 ⟨e, n, f, l, d⟩) from H3.out.turned s4 g4)
  clear s4 g4 H3
  obtain ⟨c0, c1, c2, c3, c4⟩ := box_cells H4.out.box
  go_wp2_with fail
  refine (put_any w4 g 4 n _ H4.out.out (by omega) HE.out.2).mono ?_
  rintro en w5 ⟨rfl, s5, g5⟩
  have H5 := Lib.hid (show LayAt w w5 g (LeafC e n f l A m c) (lay2 ⟨e, n, f, l, d⟩) from H4.out.turned s5 g5)
  clear s5 g5 H4 c0 c1 c2 c3 c4
  obtain ⟨c0, c1, c2, c3, c4⟩ := box_cells H5.out.box
  go_wp2_with fail
  refine (flags_any w5 e n m c f l A).mono ?_
  rintro en w6 ⟨rfl, k6⟩
  have H6 := Lib.hid (H5.out.later k6)
  clear k6 H5 c0 c1 c2 c3 c4
  obtain ⟨c0, c1, c2, c3, c4⟩ := box_cells H6.out.box
  have fl := flagsN_lt f l
  have z0 : (0 : Int) ≤ (flagsN f l : Int) := by omega
  have z1 : (flagsN f l : Int) ≤ 255 := by omega
  have b8 := H6.out.out.2.cell 8
  have f8 := H6.out.out.2.frozen 8
  have b9 := H6.out.out.2.cell 9
  have f9 := H6.out.out.2.frozen 9
  obtain ⟨u8, hu8⟩ : ∃ u, (secCells (lay2 ⟨e, n, f, l, d⟩))[8]? = some u := ⟨_, Array.getElem?_eq_getElem (by rw [secCells_size, lay2_len]; omega)⟩
  obtain ⟨u9, hu9⟩ : ∃ u, (secCells (lay2 ⟨e, n, f, l, d⟩))[9]? = some u := ⟨_, Array.getElem?_eq_getElem (by rw [secCells_size, lay2_len]; omega)⟩
  rw [hu8] at b8
  rw [hu9] at b9
  clear hu8 hu9
  have gw : w.heap.size ≠ g := by have := H6.out.low; omega
  go_upto_region 8 with (fail)
  obtain ⟨w7, hw7⟩ : ∃ w7, w7 = (w6.setCell ⟨g, 8, none⟩ (.int .u8 (flagsN f l : Int))).setCell ⟨g, 9, none⟩ (.int .u8 (m : Int)) := ⟨_, rfl⟩
  have H7 := Lib.hid (show LayAt w w7 g (LeafC e n f l A m c) (lay4 ⟨e, n, f, l, d⟩) by
    have h := (H6.out.byte 8 (flagsN f l : Int) (by omega)).byte 9 (m : Int) (by omega)
    rw [← hw7, Int.toNat_natCast, Int.toNat_natCast] at h
    show LayAt w w7 g (LeafC e n f l A m c) (((lay2 ⟨e, n, f, l, d⟩).set 8 (UInt8.ofNat (flagsN f l))).set 9 (UInt8.ofNat d.length))
    rw [HM.out.1]
    exact h)
  rw [← hw7]
  clear c0 c1 c2 c3 c4 b8 b9 f8 f9 gw fl z0 z1 H6 hw7
  obtain ⟨c0, c1, c2, c3, c4⟩ := box_cells H7.out.box
  have HB7 := Lib.hid (HD.out.below H7.out.below.drew (Nat.le_refl _))
  go_region_law (first | (refine step_copy_in (by rfl) (.tmp 23) (.tmp 25) (by rfl) g 10 46 54 m c w.heap.size A (lay4 ⟨e, n, f, l, d⟩) d (by rfl) (by rfl) (Sec_drew H7.out.out) HB7.out HM.out.2.2 (by have := HM.out.2.2; omega) ?_; intro w8 s8 g8))
  have H8 := Lib.hid (show LayAt w w8 g (LeafC e n f l A m c) (lay5 ⟨e, n, f, l, d⟩) from H7.out.drew.turned s8 g8)
  unfold Exit.then
  dsimp only
  clear s8 g8 c0 c1 c2 c3 c4 HB7 H7
  have hsl := fun W => part_h g 56 56 rfl (by omega) W
  go_wp2_with fail
  refine (Cr.sum_any 56 64 w8.heap.size (some ⟨g, 0, none⟩) ((lay5 ⟨e, n, f, l, d⟩).take 56) w8 (by have h := part_bys (lo := 0) (n := 56) H8.out.out (by omega); rw [cut, Nat.zero_add, List.drop_zero] at h; exact h) (by omega)).mono ?_
  rintro en w9 ⟨rfl, k9⟩
  have H9 := Lib.hid (H8.out.later k9)
  clear k9 H8 hsl
  go_wp2_with fail
  refine (put_any w9 g 56 (Cr.sum ((lay5 ⟨e, n, f, l, d⟩).take 56)) _ H9.out.out (by omega) (Cr.more_lt _ _)).mono ?_
  rintro en w10 ⟨rfl, s10, g10⟩
  have H10 := Lib.hid (show LayAt w w10 g (LeafC e n f l A m c) (lay6 ⟨e, n, f, l, d⟩) from H9.out.turned s10 g10)
  clear s10 g10 H9
  obtain ⟨c0, c1, c2, c3, c4⟩ := box_cells H10.out.box
  go_wp2_with fail
  refine (put_any w10 g 60 e _ H10.out.out (by omega) HE.out.1).mono ?_
  rintro en w11 ⟨rfl, s11, g11⟩
  have H11 := Lib.hid (show LayAt w w11 g (LeafC e n f l A m c) (layB ⟨e, n, f, l, d⟩) from H10.out.turned s11 g11)
  clear s11 g11 H10 c0 c1 c2 c3 c4
  have hR := H11.out.res
  have hO := H11.out.out
  obtain ⟨S, hSe⟩ : ∃ S, layB ⟨e, n, f, l, d⟩ = S := ⟨_, rfl⟩
  have hSl : S.length = 64 := by rw [← hSe]; exact layB_len _
  rw [hSe] at hO
  go_wp2_with (first
    | ((with_reducible refine Dk.load_sec (op := ⟨some 33, _, _, _, _, _⟩) ?_ (.tmp 4) ?_ _ ?_ _ hO ?_); (next => rfl); (next => rfl); (next => rfl))
    | (refine Dk.store_sec (w := w11) rfl _ _ rfl _ rfl _ rfl _ hR hSl ?_; intro w12 hS12 hG12))
  refine bodyPost_ret (two_results rfl _ w12 (w.heap.size + 1) S (.int .i64 0) rfl hS12 rfl rfl) rfl ⟨by rw [hSe], H11.out.below.grown hG12 H11.out.below.size (fun k hk => by injection hk with hk; omega)⟩

set_option maxHeartbeats 2000000 in
theorem lay_wrong (w : World) (e n m c : Nat) (f l : Bool) (A : Option Addr) (d : List UInt8) (hm : d.length = m) (hr : rightB ⟨e, n, f, l, d⟩ = false) :
    Calls Try.prog 82 #[.agg #[.int .u32 (e : Int), .int .u32 (n : Int), .bool f, .bool l, .slice A m c]] w fun en w' => en = .returned (.tuple #[.agg (secCells noughts), .int .i64 2]) ∧ Below w.heap.size w w' := by
  have HR := Lib.hid hr
  clear hr
  go_enter Try.func82, Try.ntmps82
  go_wp2_with (first
    | (refine Dk.new_sec (op := ⟨some 2, _, _, _, _, _⟩) rfl rfl ?_; intro w1 hS1 hB1 hZ1; obtain ⟨c0, c1, c2, c3, c4⟩ := box_cells ((Blk.new w 104 (LeafC e n f l A m c)).below hB1)))
  have H1 := Lib.hid (show Sec w1 (w.heap.size + 1) noughts ∧ Below w.heap.size w w1 from
    ⟨by have h := hS1; rw [World.size_alloc] at h; exact h, ((Below.refl w.heap.size w).alloc (Nat.le_refl _) _).trans (hB1.mono (by simp))⟩)
  clear hS1 hB1 hZ1 c0 c1 c2 c3 c4
  refine (right_any w1 e n m c f l A d hm).mono ?_
  rintro en w2 ⟨rfl, k2⟩
  rw [HR.out]
  have hR := Sec.below H1.out.1 k2
  have HB := Lib.hid (H1.out.2.trans (k2.mono H1.out.2.size))
  clear k2 H1
  go_wp2_with (first
    | (refine Dk.zero_sec rfl rfl ?_)
    | (refine Dk.store_sec (w := w2) rfl _ _ rfl _ rfl _ rfl _ hR noughts_len ?_; intro w3 hS3 hG3))
  refine bodyPost_ret (two_results rfl _ w3 (w.heap.size + 1) noughts (.int .i64 2) rfl hS3 rfl rfl) rfl ⟨rfl, HB.out.grown hG3 HB.out.size (fun k hk => by injection hk with hk; omega)⟩

/-- What Lay tells. -/
def layV (l : Leaf) : List UInt8 := if rightB l then layB l else noughts

def layE (l : Leaf) : Int := if rightB l then 0 else 2

theorem layV_len (l : Leaf) : (layV l).length = 64 := by
  unfold layV
  split
  · exact layB_len _
  · exact noughts_len

theorem lay_any (w : World) (e n m c : Nat) (f l : Bool) (A : Option Addr) (d : List UInt8) (hb : Bys w w.heap.size A m d) (he : e < 2 ^ 32) (hn : n < 2 ^ 32) :
    Calls Try.prog 82 #[.agg #[.int .u32 (e : Int), .int .u32 (n : Int), .bool f, .bool l, .slice A m c]] w fun en w' => en = .returned (.tuple #[.agg (secCells (layV ⟨e, n, f, l, d⟩)), .int .i64 (layE ⟨e, n, f, l, d⟩)]) ∧ Below w.heap.size w w' := by
  unfold layV layE
  cases hr : rightB ⟨e, n, f, l, d⟩ with
  | true => exact lay_right w e n m c f l A d hb he hn hr
  | false => exact lay_wrong w e n m c f l A d hb.len hr

end Go.Proofs.Ytedgookkogpfbaa.Lf
end

section
namespace Go.Proofs.Ytedgookkogpfbaa.Lf
open Go.ChangeShapes Go.WideShapes Go.ChangeAt Go.RowKit
open Qu (Blk)
open By (Bys cellsB cellsB_length cellsB_at)
open Se (over over_length over_at noughts noughts_len)
open Dk (Sec secCells secCells_size secCells_at size_sector)
set_option linter.unusedVariables false

theorem lay2_eight (l : Leaf) : (lay2 l)[8]? = some 0 := by
  unfold lay2
  rw [over_out (by rw [be4_len, lay1_len]; omega) (.inr (by rw [be4_len]; omega))]
  unfold lay1
  rw [over_out (by rw [be4_len, noughts_len]; omega) (.inr (by rw [be4_len]; omega))]
  rfl

theorem lay3_none (e n : Nat) (d : List UInt8) : lay3 ⟨e, n, false, false, d⟩ = lay2 ⟨e, n, false, false, d⟩ := by
  show (lay2 _).set 8 0 = _
  apply List.ext_getElem?
  intro k
  by_cases h : k = 8
  · subst h
    rw [List.getElem?_set_self (by rw [lay2_len]; omega), lay2_eight]
  · rw [set_out h]

/-- A byte of the leaf's data is laid. -/
theorem LayAt.data {w wk : World} {g i : Nat} {cs : Array Value} {t d : List UInt8} {b : UInt8} (h : LayAt w wk g cs (over t 10 (d.take i))) (hb : d[i]? = some b) : LayAt w (wk.setCell ⟨g, 10 + i, none⟩ (.int .u8 (b.toNat : Int))) g cs (over t 10 (d.take (i + 1))) := by
  have h1 := h.byte (10 + i) (b.toNat : Int) (by have := b.toNat_lt; omega)
  rw [Int.toNat_natCast, UInt8.ofNat_toNat, over_take hb] at h1
  exact h1

set_option maxHeartbeats 4000000 in
theorem rlay_right (w : World) (e n m c : Nat) (f l : Bool) (A : Option Addr) (d : List UInt8) (hb : Bys w w.heap.size A m d) (he : e < 2 ^ 32) (hn : n < 2 ^ 32) (hr : rightB ⟨e, n, f, l, d⟩ = true) :
    Calls Try.prog 65 #[.agg #[.int .u32 (e : Int), .int .u32 (n : Int), .bool f, .bool l, .slice A m c]] w fun en w' => en = .returned (.tuple #[.agg (secCells (layB ⟨e, n, f, l, d⟩)), .int .i64 0]) ∧ Below w.heap.size w w' := by
  have hm := hb.len
  have hr2 : e ≠ 0 ∧ 1 ≤ d.length ∧ d.length ≤ 46 ∧ (l = true ∨ d.length = 46) := (right_iff _).1 hr
  have m1 : (m : Int) ≤ 46 := by have := hr2.2.2.1; omega
  have m0 : (1 : Int) ≤ (m : Int) := by have := hr2.2.1; omega
  have HD := Lib.hid hb
  have HM := Lib.hid (show d.length = m ∧ 0 < m ∧ m ≤ 46 from ⟨hm, by omega, by omega⟩)
  have HR := Lib.hid hr
  have HE := Lib.hid (And.intro he hn)
  have hsa := fun g W => part_all g W
  clear hb hr2 hr hm he hn
  go_enter Try.func65, Try.ntmps65
  go_wp2_with (first
    | (refine Dk.new_sec (op := ⟨some 2, _, _, _, _, _⟩) rfl rfl ?_; intro w0 hS0 hB0 hZ0; have X0 := (Blk.new w 104 (LeafC e n f l A m c)).below hB0)
    | (refine Dk.new_sec (w := w0) (op := ⟨some 4, _, _, _, _, _⟩) rfl rfl ?_; intro w1 hS1 hB1 hZ1; obtain ⟨c0, c1, c2, c3, c4⟩ := box_cells (X0.below hB1)))
  rw [World.size_alloc] at hS0 hZ0
  obtain ⟨g, hg⟩ : ∃ g, w.heap.size + 1 + 1 = g := ⟨_, rfl⟩
  have H1 := Lib.hid (show LayAt w w1 g (LeafC e n f l A m c) noughts from
    ⟨X0.below hB1, Sec.below hS0 hB1, by rw [← hg, ← hZ0]; exact hS1, (((Below.refl w.heap.size w).alloc (Nat.le_refl _) (.cells (LeafC e n f l A m c) 104)).trans (hB0.mono (by simp))).trans (hB1.mono (by omega)), by omega⟩)
  rw [hg]
  clear hS0 hB0 hZ0 hS1 hB1 hZ1 X0 hg c0 c1 c2 c3 c4
  refine (rright_any w1 e n m c f l A d HM.out.1).mono ?_
  rintro en w3 ⟨rfl, k3⟩
  rw [HR.out]
  have H3 := Lib.hid (H1.out.later k3)
  clear k3 H1
  obtain ⟨c0, c1, c2, c3, c4⟩ := box_cells H3.out.box
  go_wp2_with fail
  go_still_tail 3, (by kernel_rfl)
  change wpList _ _ _ _ _ w3.drew
  have HD3 := Lib.hid H3.out.drew
  generalize w3.drew = w3d at *
  clear c0 c1 c2 c3 c4 H3
  go_wp2_with fail
  refine (rlay_any w3d g 0 e _ HD3.out.out (by omega) HE.out.1).mono ?_
  rintro en w4 ⟨rfl, s4, g4⟩
  have H4 := Lib.hid (show LayAt w w4 g (LeafC e n f l A m c) (lay1 ⟨e, n, f, l, d⟩) from HD3.out.turned s4 g4)
  clear s4 g4 HD3
  obtain ⟨c0, c1, c2, c3, c4⟩ := box_cells H4.out.box
  go_wp2_with fail
  go_still_tail 3, (by kernel_rfl)
  change wpList _ _ _ _ _ w4.drew
  have HD4 := Lib.hid H4.out.drew
  generalize w4.drew = w4d at *
  clear c0 c1 c2 c3 c4 H4
  go_wp2_with fail
  refine (rlay_any w4d g 4 n _ HD4.out.out (by omega) HE.out.2).mono ?_
  rintro en w5 ⟨rfl, s5, g5⟩
  have H5 := Lib.hid (show LayAt w w5 g (LeafC e n f l A m c) (lay2 ⟨e, n, f, l, d⟩) from HD4.out.turned s5 g5)
  clear s5 g5 HD4
  obtain ⟨c0, c1, c2, c3, c4⟩ := box_cells H5.out.box
  have b8 := H5.out.out.2.cell 8
  have f8 := H5.out.out.2.frozen 8
  rw [secCells_at, lay2_eight] at b8
  have b8 : w5.cell? ⟨g, 8, none⟩ = some (.int .u8 0) := b8
  have gw : w.heap.size ≠ g := by have := H5.out.low; omega
  cases f <;> cases l
  case' false.false =>
    go_upto_region 10 with (fail)
    have H7 := Lib.hid (show LayAt w w5 g (LeafC e n false false A m c) (lay3 ⟨e, n, false, false, d⟩) by rw [lay3_none]; exact H5.out)
    clear c0 c1 c2 c3 c4 b8 f8 gw H5
    generalize w5 = w7 at *
    obtain ⟨L, hL⟩ : ∃ L : Leaf, (⟨e, n, false, false, d⟩ : Leaf) = L := ⟨_, rfl⟩
    obtain ⟨C, hC⟩ : ∃ C, LeafC e n false false A m c = C := ⟨_, rfl⟩
    have HLL := Lib.hid (show L.data = d ∧ L.epoch = e from ⟨by rw [← hL], by rw [← hL]⟩)
    have HC := Lib.hid (show ∀ wk : World, Blk wk w.heap.size 104 C → wk.cell? ⟨w.heap.size, 0, none⟩ = some (.int .u32 (e : Int)) ∧ wk.cell? ⟨w.heap.size, 4, none⟩ = some (.slice A m c) from fun wk h => by
      rw [← hC] at h
      have h2 := box_cells h
      exact ⟨h2.1, h2.2.2.2.2⟩)
    rw [hL, hC] at H7
    have HL := Lib.hid hL
    clear hL hC
  case' false.true =>
    go_upto_region 10 with (fail)
    have h := H5.out.byte 8 2 (by omega)
    obtain ⟨w7, hw7⟩ : ∃ w7, w7 = w5.setCell ⟨g, 8, none⟩ (.int .u8 2) := ⟨_, rfl⟩
    rw [← hw7] at h ⊢
    have H7 := Lib.hid (show LayAt w w7 g (LeafC e n false true A m c) (lay3 ⟨e, n, false, true, d⟩) from h)
    clear c0 c1 c2 c3 c4 b8 f8 gw H5 hw7 h
    obtain ⟨L, hL⟩ : ∃ L : Leaf, (⟨e, n, false, true, d⟩ : Leaf) = L := ⟨_, rfl⟩
    obtain ⟨C, hC⟩ : ∃ C, LeafC e n false true A m c = C := ⟨_, rfl⟩
    have HLL := Lib.hid (show L.data = d ∧ L.epoch = e from ⟨by rw [← hL], by rw [← hL]⟩)
    have HC := Lib.hid (show ∀ wk : World, Blk wk w.heap.size 104 C → wk.cell? ⟨w.heap.size, 0, none⟩ = some (.int .u32 (e : Int)) ∧ wk.cell? ⟨w.heap.size, 4, none⟩ = some (.slice A m c) from fun wk h => by
      rw [← hC] at h
      have h2 := box_cells h
      exact ⟨h2.1, h2.2.2.2.2⟩)
    rw [hL, hC] at H7
    have HL := Lib.hid hL
    clear hL hC
  case' true.false =>
    go_upto_region 10 with (fail)
    have h := H5.out.byte 8 1 (by omega)
    obtain ⟨w7, hw7⟩ : ∃ w7, w7 = w5.setCell ⟨g, 8, none⟩ (.int .u8 1) := ⟨_, rfl⟩
    rw [← hw7] at h ⊢
    have H7 := Lib.hid (show LayAt w w7 g (LeafC e n true false A m c) (lay3 ⟨e, n, true, false, d⟩) from h)
    clear c0 c1 c2 c3 c4 b8 f8 gw H5 hw7 h
    obtain ⟨L, hL⟩ : ∃ L : Leaf, (⟨e, n, true, false, d⟩ : Leaf) = L := ⟨_, rfl⟩
    obtain ⟨C, hC⟩ : ∃ C, LeafC e n true false A m c = C := ⟨_, rfl⟩
    have HLL := Lib.hid (show L.data = d ∧ L.epoch = e from ⟨by rw [← hL], by rw [← hL]⟩)
    have HC := Lib.hid (show ∀ wk : World, Blk wk w.heap.size 104 C → wk.cell? ⟨w.heap.size, 0, none⟩ = some (.int .u32 (e : Int)) ∧ wk.cell? ⟨w.heap.size, 4, none⟩ = some (.slice A m c) from fun wk h => by
      rw [← hC] at h
      have h2 := box_cells h
      exact ⟨h2.1, h2.2.2.2.2⟩)
    rw [hL, hC] at H7
    have HL := Lib.hid hL
    clear hL hC
  case' true.true =>
    go_upto_region 10 with (fail)
    have h := (H5.out.byte 8 1 (by omega)).byte 8 3 (by omega)
    obtain ⟨w7, hw7⟩ : ∃ w7, w7 = (w5.setCell ⟨g, 8, none⟩ (.int .u8 1)).setCell ⟨g, 8, none⟩ (.int .u8 3) := ⟨_, rfl⟩
    rw [← hw7] at h ⊢
    have H7 := Lib.hid (show LayAt w w7 g (LeafC e n true true A m c) (lay3 ⟨e, n, true, true, d⟩) by
      have e3 : (((lay2 ⟨e, n, true, true, d⟩).set 8 (UInt8.ofNat (1 : Int).toNat)).set 8 (UInt8.ofNat (3 : Int).toNat)) = lay3 ⟨e, n, true, true, d⟩ := by
        rw [List.set_set]; rfl
      rw [← e3]
      exact h)
    clear c0 c1 c2 c3 c4 b8 f8 gw H5 hw7 h
    obtain ⟨L, hL⟩ : ∃ L : Leaf, (⟨e, n, true, true, d⟩ : Leaf) = L := ⟨_, rfl⟩
    obtain ⟨C, hC⟩ : ∃ C, LeafC e n true true A m c = C := ⟨_, rfl⟩
    have HLL := Lib.hid (show L.data = d ∧ L.epoch = e from ⟨by rw [← hL], by rw [← hL]⟩)
    have HC := Lib.hid (show ∀ wk : World, Blk wk w.heap.size 104 C → wk.cell? ⟨w.heap.size, 0, none⟩ = some (.int .u32 (e : Int)) ∧ wk.cell? ⟨w.heap.size, 4, none⟩ = some (.slice A m c) from fun wk h => by
      rw [← hC] at h
      have h2 := box_cells h
      exact ⟨h2.1, h2.2.2.2.2⟩)
    rw [hL, hC] at H7
    have HL := Lib.hid hL
    clear hL hC
  all_goals
    have x4 := HC.out _ H7.out.box
    obtain ⟨x0, x4⟩ := x4
    have b9 := H7.out.out.2.cell 9
    have f9 := H7.out.out.2.frozen 9
    obtain ⟨u9, hu9⟩ : ∃ u, (secCells (lay3 L))[9]? = some u := ⟨_, Array.getElem?_eq_getElem (by rw [secCells_size, lay3_len]; omega)⟩
    rw [hu9] at b9
    have HS : Hid (LayAt w (w7.setCell ⟨g, 9, none⟩ (.int .u8 (m : Int))) g C (lay4 L)) := Lib.hid (by
      have h := H7.out.byte 9 (m : Int) (by omega)
      rw [Int.toNat_natCast, ← HM.out.1, ← HLL.out.1] at h
      rw [← HM.out.1, ← HLL.out.1]
      exact h)
    clear hu9 H7 HR
    go_wp2_with fail
    go_loopw [5] (fun s5 wr => ∃ i : Nat, s5 = .int .i64 (i : Int) ∧ i ≤ m ∧ LayAt w wr g C (over (lay4 L) 10 (d.take i))) (fun s5 _ => m - (intOf s5).toNat)
    case atStart => exact ⟨0, rfl, by omega, HS.out⟩
    case round =>
      clear HS x0 x4 b9 f9
      obtain ⟨i, rfl, hi, hA⟩ := hrel
      have i0 : (0 : Int) ≤ (i : Int) := by omega
      have HA := Lib.hid hA
      clear hA
      obtain ⟨x0, x4⟩ := HC.out _ HA.out.box
      by_cases hlt : i < m
      · have i1 : (i : Int) < (m : Int) := by omega
        have i2 : decide (i < m) = true := by simp; omega
        obtain ⟨g', o', rfl, hg', hcell⟩ := (HD.out.below HA.out.below (Nat.le_refl _)).at (k := i) hlt
        obtain ⟨b, hb⟩ : ∃ b, d[i]? = some b := ⟨_, List.getElem?_eq_getElem (by have := HM.out.1; omega)⟩
        rw [By.at_some hb] at hcell
        have b1 := HA.out.out.2.cell (10 + i)
        have f1 := HA.out.out.2.frozen (10 + i)
        obtain ⟨u1, hu1⟩ : ∃ u, (secCells (over (lay4 L) 10 (d.take i)))[10 + i]? = some u := ⟨_, Array.getElem?_eq_getElem (by rw [secCells_size, over_length, lay4_len]; omega)⟩
        rw [hu1] at b1
        have HN := Lib.hid (HA.out.data hb)
        have hbl := b.toNat_lt
        generalize b.toNat = y at *
        have y0 : (0 : Int) ≤ (y : Int) := by omega
        have y1 : (y : Int) ≤ 255 := by omega
        clear hb hu1 HA
        go_wp2_with fail
        go_roundw
        case rel => exact ⟨i + 1, by go_num, by omega, HN.out⟩
        case measure => simp [intOf]; omega
      · obtain rfl : i = m := by omega
        have i1 : ¬ (i : Int) < (i : Int) := by omega
        have i2 : decide (i < i) = false := by simp
        have HF := Lib.hid (show LayAt w wr g C (lay5 L) by
          have h := HA.out
          rw [List.take_of_length_le (by rw [HM.out.1]; exact Nat.le_refl _)] at h
          unfold lay5
          rw [HLL.out.1]
          exact h)
        clear HA
        have hs6 := fun W => part_h g 56 56 rfl (by omega) W
        go_wp2_with fail
        have HG := Lib.hid HF.out.drew
        have HSUM := Lib.hid (Cr.rsum_any 56 64 wr.drew.heap.size (some ⟨g, 0, none⟩) ((lay5 L).take 56) wr.drew (by have h := part_bys (lo := 0) (n := 56) HG.out.out (by omega); rw [cut, Nat.zero_add, List.drop_zero] at h; exact h) (by omega))
        have HLAY := Lib.hid (rlay_any wr.drew g 56 (Cr.sum ((lay5 L).take 56)) _ HG.out.out (by omega) (Cr.more_lt _ _))
        clear x0 x4 HF
        go_region_law (first
          | (go_simp; go_at_call 81; refine HSUM.out.mono ?_; rintro en w9' ⟨rfl, rfl⟩)
          | (go_simp; go_at_call 80; refine HLAY.out.mono ?_; rintro en w10 ⟨rfl, s10, g10⟩))
        unfold Exit.then
        dsimp only
        have H10 := Lib.hid (show LayAt w w10 g C (lay6 L) from HG.out.turned s10 g10)
        clear s10 g10 HG hs6
        obtain ⟨x0, x4⟩ := HC.out _ H10.out.box
        go_wp2_with fail
        go_still_tail 3, (by kernel_rfl)
        change wpList _ _ _ _ _ w10.drew
        have H10d := Lib.hid H10.out.drew
        generalize w10.drew = w10d at *
        clear x0 x4 H10
        go_wp2_with fail
        refine (rlay_any w10d g 60 e _ H10d.out.out (by omega) HE.out.1).mono ?_
        rintro en w11 ⟨rfl, s11, g11⟩
        have H11 := Lib.hid (show LayAt w w11 g C (layB L) by
          have h := H10d.out.turned s11 g11
          rw [← HLL.out.2] at h
          exact h)
        clear s11 g11 H10d
        have hR := H11.out.res
        have hO := H11.out.out
        obtain ⟨S, hSe⟩ : ∃ S, layB L = S := ⟨_, rfl⟩
        have hSl : S.length = 64 := by rw [← hSe]; exact layB_len _
        rw [hSe] at hO
        go_wp2_with (first
          | ((with_reducible refine Dk.load_sec (op := ⟨some 58, _, _, _, _, _⟩) ?_ (.tmp 4) ?_ _ ?_ _ hO ?_); (next => rfl); (next => rfl); (next => rfl))
          | (refine Dk.store_sec (w := w11) rfl _ _ rfl _ rfl _ rfl _ hR hSl ?_; intro w12 hS12 hG12))
        refine bodyPost_ret (two_results rfl _ w12 (w.heap.size + 1) S (.int .i64 0) rfl hS12 rfl rfl) rfl ⟨by rw [HL.out, hSe], H11.out.below.grown hG12 H11.out.below.size (fun k hk => by injection hk with hk; omega)⟩

set_option maxHeartbeats 2000000 in
theorem rlay_wrong (w : World) (e n m c : Nat) (f l : Bool) (A : Option Addr) (d : List UInt8) (hm : d.length = m) (hr : rightB ⟨e, n, f, l, d⟩ = false) :
    Calls Try.prog 65 #[.agg #[.int .u32 (e : Int), .int .u32 (n : Int), .bool f, .bool l, .slice A m c]] w fun en w' => en = .returned (.tuple #[.agg (secCells noughts), .int .i64 2]) ∧ Below w.heap.size w w' := by
  have HR := Lib.hid hr
  clear hr
  go_enter Try.func65, Try.ntmps65
  go_wp2_with (first
    | (refine Dk.new_sec (op := ⟨some 2, _, _, _, _, _⟩) rfl rfl ?_; intro w0 hS0 hB0 hZ0; have X0 := (Blk.new w 104 (LeafC e n f l A m c)).below hB0)
    | (refine Dk.new_sec (w := w0) (op := ⟨some 4, _, _, _, _, _⟩) rfl rfl ?_; intro w1 hS1 hB1 hZ1; obtain ⟨c0, c1, c2, c3, c4⟩ := box_cells (X0.below hB1)))
  rw [World.size_alloc] at hS0 hZ0
  have H1 := Lib.hid (show Sec w1 (w.heap.size + 1) noughts ∧ Sec w1 (w.heap.size + 1 + 1) noughts ∧ Below w.heap.size w w1 from
    ⟨Sec.below hS0 hB1, by rw [← hZ0]; exact hS1, (((Below.refl w.heap.size w).alloc (Nat.le_refl _) (.cells (LeafC e n f l A m c) 104)).trans (hB0.mono (by simp))).trans (hB1.mono (by omega))⟩)
  clear hS0 hB0 hZ0 hS1 hB1 hZ1 X0 c0 c1 c2 c3 c4
  refine (rright_any w1 e n m c f l A d hm).mono ?_
  rintro en w2 ⟨rfl, k2⟩
  rw [HR.out]
  have hR := Sec.below H1.out.1 k2
  have hO := Sec.below H1.out.2.1 k2
  have HB := Lib.hid (H1.out.2.2.trans (k2.mono H1.out.2.2.size))
  clear k2 H1
  go_wp2_with (first
    | ((with_reducible refine Dk.load_sec (op := ⟨some 9, _, _, _, _, _⟩) ?_ (.tmp 4) ?_ _ ?_ _ hO ?_); (next => rfl); (next => rfl); (next => rfl))
    | (refine Dk.store_sec (w := w2) rfl _ _ rfl _ rfl _ rfl _ hR noughts_len ?_; intro w3 hS3 hG3))
  refine bodyPost_ret (two_results rfl _ w3 (w.heap.size + 1) noughts (.int .i64 2) rfl hS3 rfl rfl) rfl ⟨rfl, HB.out.grown hG3 HB.out.size (fun k hk => by injection hk with hk; omega)⟩

theorem rlayleaf_any (w : World) (e n m c : Nat) (f l : Bool) (A : Option Addr) (d : List UInt8) (hb : Bys w w.heap.size A m d) (he : e < 2 ^ 32) (hn : n < 2 ^ 32) :
    Calls Try.prog 65 #[.agg #[.int .u32 (e : Int), .int .u32 (n : Int), .bool f, .bool l, .slice A m c]] w fun en w' => en = .returned (.tuple #[.agg (secCells (layV ⟨e, n, f, l, d⟩)), .int .i64 (layE ⟨e, n, f, l, d⟩)]) ∧ Below w.heap.size w w' := by
  unfold layV layE
  cases hr : rightB ⟨e, n, f, l, d⟩ with
  | true => exact rlay_right w e n m c f l A d hb he hn hr
  | false => exact rlay_wrong w e n m c f l A d hb.len hr

end Go.Proofs.Ytedgookkogpfbaa.Lf
end

section
namespace Go.Proofs.Ytedgookkogpfbaa.Lf
open Go.ChangeShapes Go.WideShapes Go.ChangeAt Go.RowKit
open Qu (Blk)
open By (Bys cellsB cellsB_length cellsB_at)
open Se (over over_length over_at noughts noughts_len)
open Dk (Sec secCells secCells_size secCells_at size_sector)
set_option linter.unusedVariables false

/-! ### Operations that are guarded -/
theorem wpList_want {P : Program} {ops : Array Oper} {Q : Exit → Act → World → Prop} {a : Act} {w : World} {rest : List Oper} {o : Oper} (hw : Region.wanted o (yielded ops a.tmps) = true)
    (h : ∀ K : Act → World → Prop, (∀ a w, wpList P ops Q rest a w → K a w) → o.wp P a w K Q) : wpList P ops Q (o :: rest) a w :=
  wpList_step fun K hK => by rw [if_pos hw]; exact h K hK

theorem load_sec_w {ops : Array Oper} {rest : List Oper} {op : Oper} {a : Act} {w : World} {Q : Exit → Act → World → Prop} (hw : Region.wanted op (yielded ops a.tmps) = true) (x : Operand) (is : op.op = .load 43 x) (g : Nat) (vx : a.eval x = .pointer (some ⟨g, 0, none⟩)) (s : List UInt8) (h : Sec w g s)
    (go : wpList Try.prog ops Q rest (a.put op.dst (.agg (secCells s))) w) : wpList Try.prog ops Q (op :: rest) a w := by
  refine wpList_want hw fun K hK => ?_
  unfold Oper.wp execOp
  simp only [is, vx, h.load, Sem.run_bind, Sem.run_pure, Result.andThen_ok]
  exact hK _ _ go

theorem neq_sec_w {ops : Array Oper} {rest : List Oper} {op : Oper} {a : Act} {w : World} {Q : Exit → Act → World → Prop} (hw : Region.wanted op (yielded ops a.tmps) = true) (x y : Operand) (is : op.op = .binOp .neq 43 x y 43) (s t : List UInt8) (vx : a.eval x = .agg (secCells s)) (vy : a.eval y = .agg (secCells t)) (hs : s.length = 64) (ht : t.length = 64) (b : Bool) (hb : (!(s == t)) = b)
    (go : wpList Try.prog ops Q rest (a.put op.dst (.bool b)) w) : wpList Try.prog ops Q (op :: rest) a w := by
  refine wpList_want hw fun K hK => ?_
  have hg : Try.prog.eqGuardType Try.prog.depth 43 = false := by kernel_rfl
  subst hb
  unfold Oper.wp execOp
  simp only [is, vx, vy, Sem.run_bind, run_eqGuard_agg w .neq 43 x y _ _ hg, Dk.neq_sector s t hs ht w, Sem.run_pure, Result.andThen_ok]
  exact hK _ _ go

theorem eql_sec_w {ops : Array Oper} {rest : List Oper} {op : Oper} {a : Act} {w : World} {Q : Exit → Act → World → Prop} (hw : Region.wanted op (yielded ops a.tmps) = true) (x y : Operand) (is : op.op = .binOp .eql 43 x y 43) (s t : List UInt8) (vx : a.eval x = .agg (secCells s)) (vy : a.eval y = .agg (secCells t)) (hs : s.length = 64) (ht : t.length = 64) (b : Bool) (hb : (s == t) = b)
    (go : wpList Try.prog ops Q rest (a.put op.dst (.bool b)) w) : wpList Try.prog ops Q (op :: rest) a w := by
  refine wpList_want hw fun K hK => ?_
  have hg : Try.prog.eqGuardType Try.prog.depth 43 = false := by kernel_rfl
  subst hb
  unfold Oper.wp execOp
  simp only [is, vx, vy, Sem.run_bind, run_eqGuard_agg w .eql 43 x y _ _ hg, Dk.eql_sector s t hs ht w, Sem.run_pure, Result.andThen_ok]
  exact hK _ _ go

/-- A sector is read whole, at a step of a region that draws. -/
theorem yields_sec {ops : Array Oper} {S : World → Prop} {op : Oper} {a : Act} (hw : Region.wanted op (yielded ops a.tmps) = true) (x : Operand) (ho : op.op = .load 43 x)
    (g : Nat) (hx : a.eval x = .pointer (some ⟨g, 0, none⟩)) (s : List UInt8) (hS : ∀ w, S w → Sec w g s) : YieldsIf Try.prog ops S op (.agg (secCells s)) a :=
  .inl ⟨hw, fun w hw' => by
    unfold execOp
    simp only [ho, hx, (hS w hw').load, Sem.run_bind, Sem.run_pure, Result.andThen_ok]⟩

theorem max_nat (x y : Nat) : (if x < y then (y : Int) else (x : Int)) = ((max x y : Nat) : Int) := by split <;> omega

set_option maxHeartbeats 1000000 in
theorem rmark_any (w : World) (s : List UInt8) (hs : s.length = 64) :
    Calls Try.prog 42 #[.agg (secCells s)] w fun e w' => e = .returned (.int .u32 (markN s : Int)) ∧ Below w.heap.size w w' := by
  have hsa := fun g W => part_all g W
  have HM : Hid (max (val4 (cut s 0 4)) (val4 (cut s 60 4)) = markN s) := Lib.hid rfl
  go_enter Try.func42, Try.ntmps42
  go_wp2_with (first
    | (refine Dk.box_sec rfl _ rfl _ rfl hs ?_; intro w1 hS1 hB1 hZ1; have H0 := Lib.hid (And.intro hS1 hB1); clear hS1 hB1 hZ1))
  have K0 : Hid (∀ W, Sec W w.heap.size s ∧ Below w.heap.size w W → Calls Try.prog 63 #[.slice (some ⟨w.heap.size, 0, none⟩) 64 64, .int .i64 0] W fun e w' => e = .returned (.int .u32 (val4 (cut s 0 4) : Int)) ∧ W = w') :=
    Lib.hid (fun W h => rfour_any W w.heap.size 0 s h.1 (by omega))
  have K1 : Hid (∀ W, Sec W w.heap.size s ∧ Below w.heap.size w W → Calls Try.prog 63 #[.slice (some ⟨w.heap.size, 0, none⟩) 64 64, .int .i64 60] W fun e w' => e = .returned (.int .u32 (val4 (cut s 60 4) : Int)) ∧ W = w') :=
    Lib.hid (fun W h => rfour_any W w.heap.size 60 s h.1 (by omega))
  have h0 := H0.out
  have hd0 : Sec w1.drew w.heap.size s ∧ Below w.heap.size w w1.drew := ⟨Sec_drew h0.1, h0.2.drew⟩
  generalize val4 (cut s 0 4) = x0 at *
  generalize val4 (cut s 60 4) = x1 at *
  go_region_held3 (fun u => Sec u w.heap.size s ∧ Below w.heap.size w u)
    (first
      | exact hd0
      | assumption)
    (first
      | (go_at_call 63; ((with_reducible refine (K0.out _ (by assumption)).mono ?_); rintro e wz ⟨rfl, rfl⟩))
      | (go_at_call 63; ((with_reducible refine (K1.out _ (by assumption)).mono ?_); rintro e wz ⟨rfl, rfl⟩)))
  rw [max_nat]
  unfold Exit.then
  dsimp only
  go_wp2
  go_ret
  exact ⟨by rw [← HM.out]; rfl, hd0.2⟩

set_option maxHeartbeats 1000000 in
theorem mark_any (w : World) (s : List UInt8) (hs : s.length = 64) :
    Calls Try.prog 60 #[.agg (secCells s)] w fun e w' => e = .returned (.int .u32 (markN s : Int)) ∧ Below w.heap.size w w' := by
  have HM : Hid (max (val4 (cut s 0 4)) (val4 (cut s 60 4)) = markN s) := Lib.hid rfl
  go_enter Try.func60, Try.ntmps60
  go_wp2_with (first
    | (refine Dk.box_sec rfl _ rfl _ rfl hs ?_; intro w1 hS1 hB1 hZ1; have H0 := Lib.hid (And.intro hS1 hB1); clear hS1 hB1 hZ1))
  have K0 : Hid (∀ W, Sec W w.heap.size s ∧ Below w.heap.size w W → Calls Try.prog 74 #[.agg (secCells s), .int .i64 0] W fun e w' => e = .returned (.int .u32 (val4 (cut s 0 4) : Int)) ∧ Sec w' w.heap.size s ∧ Below w.heap.size w w') :=
    Lib.hid (fun W h => (number_any W 0 s hs (by omega)).mono fun e w' q => ⟨q.1, Sec.below h.1 q.2, h.2.trans (q.2.mono h.2.size)⟩)
  have K1 : Hid (∀ W, Sec W w.heap.size s ∧ Below w.heap.size w W → Calls Try.prog 74 #[.agg (secCells s), .int .i64 60] W fun e w' => e = .returned (.int .u32 (val4 (cut s 60 4) : Int)) ∧ Sec w' w.heap.size s ∧ Below w.heap.size w w') :=
    Lib.hid (fun W h => (number_any W 60 s hs (by omega)).mono fun e w' q => ⟨q.1, Sec.below h.1 q.2, h.2.trans (q.2.mono h.2.size)⟩)
  have h0 := H0.out
  have hd0 : Sec w1.drew w.heap.size s ∧ Below w.heap.size w w1.drew := ⟨Sec_drew h0.1, h0.2.drew⟩
  generalize val4 (cut s 0 4) = x0 at *
  generalize val4 (cut s 60 4) = x1 at *
  refine wp_region_held_drew (S := fun u => Sec u w.heap.size s ∧ Below w.heap.size w u) (by kernel_rfl) hd0 (fun hHeld => ?_)
  refine wpAnyH_take (i := 0) (oi := ⟨some 3, _, _, _, _, _⟩) (v := .agg (secCells s)) rfl (by kernel_rfl) (by kernel_rfl) (by kernel_rfl) (fun _ _ _ h => h) (yields_sec (by rfl) _ rfl w.heap.size rfl s (fun _ h => h.1)) (by assumption) ?_
  simp only [Act.put, List.setIfInBounds_toArray, List.set_cons_zero, List.set_cons_succ]
  refine wpAnyH_take (i := 2) (oi := ⟨some 5, _, _, _, _, _⟩) (v := .agg (secCells s)) rfl (by kernel_rfl) (by kernel_rfl) (by kernel_rfl) (fun _ _ _ h => h) (yields_sec (by rfl) _ rfl w.heap.size rfl s (fun _ h => h.1)) (by assumption) ?_
  simp only [Act.put, List.setIfInBounds_toArray, List.set_cons_zero, List.set_cons_succ]
  refine wpAnyH_ready (rs := [1]) (by kernel_rfl) (by simp) ?_
  refine AllReadyH.cons (o := ⟨some 4, _, _, _, _, _⟩) rfl (fun K hK => ?_) AllReadyH.nil
  go_simp
  refine (K0.out _ hHeld).mono ?_
  rintro e w2 ⟨rfl, h2⟩
  go_wp2_with fail
  refine hK.out _ _ h2 (fun hHeld2 => ?_)
  clear hK K hHeld
  try simp only [Act.put, List.setIfInBounds_toArray, List.set_cons_zero, List.set_cons_succ]
  refine wpAnyH_ready (rs := [3]) (by kernel_rfl) (by simp) ?_
  refine AllReadyH.cons (o := ⟨some 6, _, _, _, _, _⟩) rfl (fun K hK => ?_) AllReadyH.nil
  go_simp
  refine (K1.out _ hHeld2).mono ?_
  rintro e w3 ⟨rfl, h3⟩
  go_wp2_with fail
  refine hK.out _ _ h3 (fun hHeld3 => ?_)
  clear hK K hHeld2
  try simp only [Act.put, List.setIfInBounds_toArray, List.set_cons_zero, List.set_cons_succ]
  refine wpAnyH_take (i := 4) (oi := ⟨some 7, _, _, _, _, _⟩) (v := .int .u32 ((max x0 x1 : Nat) : Int)) rfl (by kernel_rfl) (by kernel_rfl) (by kernel_rfl) (fun _ _ _ h => h) (Or.inl ⟨by rfl, fun wq hSw => ?_⟩) (by assumption) ?_
  · go_simp
    simp only [max_nat]
  simp only [Act.put, List.setIfInBounds_toArray, List.set_cons_zero, List.set_cons_succ]
  refine wpAnyH_take (i := 5) (oi := ⟨some 2, _, _, _, _, _⟩) (v := .int .u32 ((max x0 x1 : Nat) : Int)) rfl (by kernel_rfl) (by kernel_rfl) (by kernel_rfl) (fun _ _ _ h => h) (Or.inl ⟨by rfl, fun wq hSw => ?_⟩) (by assumption) ?_
  · go_simp
  simp only [Act.put, List.setIfInBounds_toArray, List.set_cons_zero, List.set_cons_succ]
  refine wpAnyH_done (by kernel_rfl) ?_ _
  unfold Exit.then
  dsimp only
  go_wp2
  go_ret
  exact ⟨by rw [← HM.out]; rfl, h3.2⟩

end Go.Proofs.Ytedgookkogpfbaa.Lf
end
