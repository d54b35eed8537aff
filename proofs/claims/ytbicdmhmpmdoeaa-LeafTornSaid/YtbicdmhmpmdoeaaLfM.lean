/- Leaves as bytes: plain mathematics, nothing of the program. -/
import Derived.Test.YtbicdmhmpmdoeaaCrM
import Derived.Test.YtbicdmhmpmdoeaaSeW
set_option linter.unusedVariables false
namespace Go.Proofs.Ytbicdmhmpmdoeaa.Lf
open Se (over over_length over_at noughts noughts_len)

/-- A leaf. -/
structure Leaf where
  epoch : Nat
  number : Nat
  first : Bool
  last : Bool
  data : List UInt8

/-- A number's four bytes, the highest first. -/
def be4 (v : Nat) : List UInt8 := [UInt8.ofNat (v / 16777216 % 256), UInt8.ofNat (v / 65536 % 256), UInt8.ofNat (v / 256 % 256), UInt8.ofNat (v % 256)]

theorem be4_len (v : Nat) : (be4 v).length = 4 := rfl

/-- What four bytes say. -/
def val4 (l : List UInt8) : Nat := l.foldl (fun v b => v * 256 + b.toNat) 0

theorem val4_be4 {v : Nat} (h : v < 2 ^ 32) : val4 (be4 v) = v := by
  unfold val4 be4
  simp only [List.foldl_cons, List.foldl_nil]
  rw [By.toNat_small (by omega), By.toNat_small (by omega), By.toNat_small (by omega), By.toNat_small (by omega)]
  omega

theorem be4_inj {v u : Nat} (h : v < 2 ^ 32) (h2 : u < 2 ^ 32) (e : be4 v = be4 u) : v = u := by
  have := congrArg val4 e
  rwa [val4_be4 h, val4_be4 h2] at this

theorem four {l : List UInt8} (h : l.length = 4) : ∃ a b c d, l = [a, b, c, d] := by
  match l, h with
  | [a, b, c, d], _ => exact ⟨a, b, c, d, rfl⟩

theorem val4_lt {l : List UInt8} (h : l.length = 4) : val4 l < 2 ^ 32 := by
  obtain ⟨a, b, c, d, rfl⟩ := four h
  have := a.toNat_lt; have := b.toNat_lt; have := c.toNat_lt; have := d.toNat_lt
  unfold val4
  simp only [List.foldl_cons, List.foldl_nil]
  omega

theorem be4_val4 {l : List UInt8} (h : l.length = 4) : be4 (val4 l) = l := by
  obtain ⟨a, b, c, d, rfl⟩ := four h
  have h1 := a.toNat_lt; have h2 := b.toNat_lt; have h3 := c.toNat_lt; have h4 := d.toNat_lt
  unfold val4 be4
  simp only [List.foldl_cons, List.foldl_nil]
  have e : ∀ (x : UInt8) (n : Nat), n = x.toNat → UInt8.ofNat n = x := fun x n hn => by rw [hn, UInt8.ofNat_toNat]
  rw [e a _ (by omega), e b _ (by omega), e c _ (by omega), e d _ (by omega)]

theorem val4_take {l : List UInt8} {i : Nat} {b : UInt8} (h : l[i]? = some b) : val4 (l.take (i + 1)) = val4 (l.take i) * 256 + b.toNat := by
  rw [List.take_add_one, h]
  unfold val4
  simp

/-- What lies from a place on, so many of it. -/
def cut (s : List UInt8) (at_ n : Nat) : List UInt8 := (s.take (at_ + n)).drop at_

theorem cut_len {s : List UInt8} {at_ n : Nat} (h : at_ + n ≤ s.length) : (cut s at_ n).length = n := by
  unfold cut
  rw [List.length_drop, List.length_take]
  omega

theorem cut_at {s : List UInt8} {at_ n k : Nat} (hk : k < n) : (cut s at_ n)[k]? = s[at_ + k]? := by
  unfold cut
  rw [List.getElem?_drop, List.getElem?_take, if_pos (by omega)]

theorem cut_ext {s t : List UInt8} {at_ n : Nat} (h : ∀ k, k < n → s[at_ + k]? = t[at_ + k]?) : cut s at_ n = cut t at_ n := by
  apply List.ext_getElem?
  intro k
  rcases Nat.lt_or_ge k n with hk | hk
  · rw [cut_at hk, cut_at hk, h k hk]
  · have e : ∀ s : List UInt8, (cut s at_ n)[k]? = none := fun s => by
      unfold cut
      rw [List.getElem?_eq_none (by rw [List.length_drop, List.length_take]; omega)]
    rw [e, e]

theorem cut_of_eq {s : List UInt8} {t : List UInt8} {at_ n : Nat} (hs : at_ + n ≤ s.length) (ht : t.length = n) (h : ∀ k, k < n → s[at_ + k]? = t[k]?) : cut s at_ n = t := by
  apply List.ext_getElem?
  intro k
  rcases Nat.lt_or_ge k n with hk | hk
  · rw [cut_at hk, h k hk]
  · rw [List.getElem?_eq_none (by rw [cut_len hs]; omega), List.getElem?_eq_none (by omega)]

/-- Which ends of a record. -/
def flagsN (f l : Bool) : Nat := (if f then 1 else 0) + (if l then 2 else 0)

theorem flagsN_lt (f l : Bool) : flagsN f l < 4 := by cases f <;> cases l <;> decide

/-- May it be laid? -/
def rightB (l : Leaf) : Bool := decide (l.epoch ≠ 0) && decide (1 ≤ l.data.length) && decide (l.data.length ≤ 46) && (l.last || decide (l.data.length = 46))

theorem right_iff (l : Leaf) : rightB l = true ↔ l.epoch ≠ 0 ∧ 1 ≤ l.data.length ∧ l.data.length ≤ 46 ∧ (l.last = true ∨ l.data.length = 46) := by
  unfold rightB
  simp only [Bool.and_eq_true, decide_eq_true_eq, Bool.or_eq_true, and_assoc]

/-! ### Its bytes, one thing laid behind the other -/
def lay1 (l : Leaf) : List UInt8 := over noughts 0 (be4 l.epoch)

def lay2 (l : Leaf) : List UInt8 := over (lay1 l) 4 (be4 l.number)

def lay3 (l : Leaf) : List UInt8 := (lay2 l).set 8 (UInt8.ofNat (flagsN l.first l.last))

def lay4 (l : Leaf) : List UInt8 := (lay3 l).set 9 (UInt8.ofNat l.data.length)

def lay5 (l : Leaf) : List UInt8 := over (lay4 l) 10 l.data

def lay6 (l : Leaf) : List UInt8 := over (lay5 l) 56 (be4 (Cr.sum ((lay5 l).take 56)))

def layB (l : Leaf) : List UInt8 := over (lay6 l) 60 (be4 l.epoch)

theorem lay1_len (l : Leaf) : (lay1 l).length = 64 := by unfold lay1; rw [over_length, noughts_len]
theorem lay2_len (l : Leaf) : (lay2 l).length = 64 := by unfold lay2; rw [over_length, lay1_len]
theorem lay3_len (l : Leaf) : (lay3 l).length = 64 := by unfold lay3; rw [List.length_set, lay2_len]
theorem lay4_len (l : Leaf) : (lay4 l).length = 64 := by unfold lay4; rw [List.length_set, lay3_len]
theorem lay5_len (l : Leaf) : (lay5 l).length = 64 := by unfold lay5; rw [over_length, lay4_len]
theorem lay6_len (l : Leaf) : (lay6 l).length = 64 := by unfold lay6; rw [over_length, lay5_len]
theorem layB_len (l : Leaf) : (layB l).length = 64 := by unfold layB; rw [over_length, lay6_len]

theorem over_out {xs vs : List UInt8} {o k : Nat} (h : o + vs.length ≤ xs.length) (hk : k < o ∨ o + vs.length ≤ k) : (over xs o vs)[k]? = xs[k]? := by
  rw [over_at _ _ _ _ h, if_neg (by omega)]

theorem over_in {xs vs : List UInt8} {o k : Nat} (h : o + vs.length ≤ xs.length) (hk : k < vs.length) : (over xs o vs)[o + k]? = vs[k]? := by
  rw [over_at _ _ _ _ h, if_pos (by omega), Nat.add_sub_cancel_left]

theorem set_out {xs : List UInt8} {o k : Nat} {b : UInt8} (hk : k ≠ o) : (xs.set o b)[k]? = xs[k]? := List.getElem?_set_ne (Ne.symm hk)

/-- Of what is summed nothing is turned behind. -/
theorem lay_front (l : Leaf) (k : Nat) (hk : k < 56) : (layB l)[k]? = (lay5 l)[k]? := by
  unfold layB
  rw [over_out (by rw [be4_len, lay6_len]; omega) (.inl (by omega))]
  unfold lay6
  rw [over_out (by rw [be4_len, lay5_len]; omega) (.inl (by omega))]

theorem lay_sum (l : Leaf) : cut (layB l) 56 4 = be4 (Cr.sum ((layB l).take 56)) := by
  have e : (layB l).take 56 = (lay5 l).take 56 := by
    apply List.ext_getElem?
    intro k
    rw [List.getElem?_take, List.getElem?_take]
    split
    · exact lay_front l k (by omega)
    · rfl
  rw [e]
  refine cut_of_eq (by rw [layB_len]; omega) (be4_len _) fun k hk => ?_
  unfold layB
  rw [over_out (by rw [be4_len, lay6_len]; omega) (.inl (by omega))]
  unfold lay6
  exact over_in (by rw [be4_len, lay5_len]; omega) (by rw [be4_len]; exact hk)

theorem lay_again (l : Leaf) : cut (layB l) 60 4 = be4 l.epoch := cut_of_eq (by rw [layB_len]; omega) (be4_len _) fun k hk => by
  unfold layB
  exact over_in (by rw [be4_len, lay6_len]; omega) (by rw [be4_len]; exact hk)

section
variable (l : Leaf) (hl : l.data.length ≤ 46)
include hl

theorem lay5_out (k : Nat) (hk : k < 10 ∨ 10 + l.data.length ≤ k) : (lay5 l)[k]? = (lay4 l)[k]? := by
  unfold lay5
  exact over_out (by rw [lay4_len]; omega) hk

theorem lay_epoch : cut (layB l) 0 4 = be4 l.epoch := cut_of_eq (by rw [layB_len]; omega) (be4_len _) fun k hk => by
  rw [lay_front l _ (by omega), lay5_out l hl _ (.inl (by omega))]
  unfold lay4 lay3
  rw [set_out (by omega), set_out (by omega)]
  unfold lay2
  rw [over_out (by rw [be4_len, lay1_len]; omega) (.inl (by omega))]
  unfold lay1
  exact over_in (by rw [be4_len, noughts_len]; omega) (by rw [be4_len]; exact hk)

theorem lay_number : cut (layB l) 4 4 = be4 l.number := cut_of_eq (by rw [layB_len]; omega) (be4_len _) fun k hk => by
  rw [lay_front l _ (by omega), lay5_out l hl _ (.inl (by omega))]
  unfold lay4 lay3
  rw [set_out (by omega), set_out (by omega)]
  unfold lay2
  exact over_in (by rw [be4_len, lay1_len]; omega) (by rw [be4_len]; exact hk)

theorem lay_flags : (layB l)[8]? = some (UInt8.ofNat (flagsN l.first l.last)) := by
  rw [lay_front l _ (by omega), lay5_out l hl _ (.inl (by omega))]
  unfold lay4 lay3
  rw [set_out (by omega), List.getElem?_set_self (by rw [lay2_len]; omega)]

theorem lay_count : (layB l)[9]? = some (UInt8.ofNat l.data.length) := by
  rw [lay_front l _ (by omega), lay5_out l hl _ (.inl (by omega))]
  unfold lay4
  rw [List.getElem?_set_self (by rw [lay3_len]; omega)]

theorem lay_data : cut (layB l) 10 l.data.length = l.data := cut_of_eq (by rw [layB_len]; omega) rfl fun k hk => by
  rw [lay_front l _ (by omega)]
  unfold lay5
  exact over_in (by rw [lay4_len]; omega) hk
end

/-! ### What 64 bytes are as a leaf -/
/-- The leaf that is read. -/
def readB (s : List UInt8) : Leaf :=
  { epoch := val4 (cut s 0 4), number := val4 (cut s 4 4), first := (s.getD 8 0).toNat % 2 == 1, last := (s.getD 8 0).toNat / 2 % 2 == 1, data := cut s 10 (min (s.getD 9 0).toNat 46) }

def takesB (s : List UInt8) : Bool := rightB (readB s) && (layB (readB s) == s)

theorem flags_back (f l : Bool) : ((UInt8.ofNat (flagsN f l)).toNat % 2 == 1) = f ∧ ((UInt8.ofNat (flagsN f l)).toNat / 2 % 2 == 1) = l := by
  cases f <;> cases l <;> decide

/-- What is laid is read as it was. -/
theorem read_lay (l : Leaf) (hl : l.data.length ≤ 46) (he : l.epoch < 2 ^ 32) (hn : l.number < 2 ^ 32) : readB (layB l) = l := by
  obtain ⟨f1, f2⟩ := flags_back l.first l.last
  have h8 : (layB l).getD 8 0 = UInt8.ofNat (flagsN l.first l.last) := by rw [List.getD, lay_flags l hl]; rfl
  have h9 : ((layB l).getD 9 0).toNat = l.data.length := by rw [List.getD, lay_count l hl]; exact By.toNat_small (by omega)
  unfold readB
  rw [lay_epoch l hl, lay_number l hl, val4_be4 he, val4_be4 hn, h8, f1, f2, h9, Nat.min_eq_left hl, lay_data l hl]

theorem takes_lay (l : Leaf) (h : rightB l = true) (he : l.epoch < 2 ^ 32) (hn : l.number < 2 ^ 32) : takesB (layB l) = true := by
  unfold takesB
  rw [read_lay l ((right_iff l).1 h).2.2.1 he hn, h]
  simp

theorem read_len (s : List UInt8) (hs : s.length = 64) : (readB s).data.length = min (s.getD 9 0).toNat 46 := by
  unfold readB
  exact cut_len (by omega)

theorem read_le (s : List UInt8) (hs : s.length = 64) : (readB s).data.length ≤ 46 := by
  rw [read_len s hs]; omega

theorem read_epoch (s : List UInt8) (hs : s.length = 64) : (readB s).epoch < 2 ^ 32 := val4_lt (cut_len (by omega))

theorem read_number (s : List UInt8) (hs : s.length = 64) : (readB s).number < 2 ^ 32 := val4_lt (cut_len (by omega))

/-- A leaf's epoch stands at its end once more, and its sum is right. -/
theorem takes_told {s : List UInt8} (hs : s.length = 64) (h : takesB s = true) : cut s 60 4 = cut s 0 4 ∧ cut s 56 4 = be4 (Cr.sum (s.take 56)) ∧ cut s 0 4 ≠ be4 0 ∧ (s.getD 9 0).toNat ≤ 46 := by
  unfold takesB at h
  simp only [Bool.and_eq_true, beq_iff_eq] at h
  obtain ⟨h1, h2⟩ := h
  have hr := (right_iff _).1 h1
  have e0 := lay_epoch (readB s) (read_le s hs)
  have e1 := lay_again (readB s)
  have e2 := lay_sum (readB s)
  have e3 := lay_count (readB s) (read_le s hs)
  rw [h2] at e0 e1 e2 e3
  refine ⟨e1.trans e0.symm, e2, fun hz => ?_, ?_⟩
  · rw [e0] at hz
    exact hr.1 (be4_inj (read_epoch s hs) (by omega) hz)
  · rw [List.getD, e3]
    have := read_le s hs
    show (UInt8.ofNat _).toNat ≤ 46
    rw [By.toNat_small (by omega)]
    exact this

/-- A count that is too great is none. -/
theorem takes_count {s : List UInt8} (hs : s.length = 64) (h : 46 < (s.getD 9 0).toNat) : takesB s = false := by
  cases ht : takesB s with
  | false => rfl
  | true => have := (takes_told hs ht).2.2.2; omega

def markN (s : List UInt8) : Nat := max (val4 (cut s 0 4)) (val4 (cut s 60 4))

theorem mark_lay (l : Leaf) (hl : l.data.length ≤ 46) (he : l.epoch < 2 ^ 32) : markN (layB l) = l.epoch := by
  unfold markN
  rw [lay_epoch l hl, lay_again l, val4_be4 he]
  omega

/-! ### Turned, torn -/
/-- With another sum than its own it is none. -/
theorem turned_none {s z : List UInt8} (hz : z.length = 64) (hs : cut s 56 4 = be4 (Cr.sum (s.take 56))) (hb : ∀ k, 56 ≤ k → z[k]? = s[k]?) (hne : Cr.sum (z.take 56) ≠ Cr.sum (s.take 56)) : takesB z = false := by
  cases ht : takesB z with
  | false => rfl
  | true =>
    have h2 := (takes_told hz ht).2.1
    have e : cut z 56 4 = cut s 56 4 := cut_ext fun k _ => hb _ (by omega)
    rw [e, hs] at h2
    exact absurd (be4_inj (Cr.more_lt _ _) (Cr.more_lt _ _) h2).symm hne

/-- A beginning of one over the end of another. -/
def torn (x y : List UInt8) (n : Nat) : List UInt8 := x.take n ++ y.drop n

theorem torn_at {x y : List UInt8} (hx : x.length = 64) (n k : Nat) (hn : n ≤ 64) : (torn x y n)[k]? = if k < n then x[k]? else y[k]? := by
  unfold torn
  by_cases h : k < n
  · rw [if_pos h, List.getElem?_append_left (by rw [List.length_take]; omega), List.getElem?_take, if_pos h]
  · rw [if_neg h, List.getElem?_append_right (by rw [List.length_take]; omega), List.length_take, List.getElem?_drop]
    congr 1
    omega

theorem torn_len {x y : List UInt8} (hx : x.length = 64) (hy : y.length = 64) (n : Nat) (hn : n ≤ 64) : (torn x y n).length = 64 := by
  unfold torn
  rw [List.length_append, List.length_take, List.length_drop]
  omega

theorem torn_over {x y : List UInt8} (hx : x.length = 64) (hy : y.length = 64) (n : Nat) (hn : n ≤ 64) : over y 0 (cut x 0 n) = torn x y n := by
  have hl : (cut x 0 n).length = n := cut_len (by omega)
  apply List.ext_getElem?
  intro k
  rw [over_at _ _ _ _ (by omega), torn_at hx n k hn, hl, Nat.zero_add]
  by_cases h : k < n
  · rw [if_pos ⟨by omega, h⟩, if_pos h, Nat.sub_zero, cut_at h, Nat.zero_add]
  · rw [if_neg (fun q => h q.2), if_neg h]

theorem at_of_cut {s t : List UInt8} {a b n k : Nat} (h : cut s a n = cut t b n) (hk : k < n) : s[a + k]? = t[b + k]? := by
  have e : (cut s a n)[k]? = (cut t b n)[k]? := by rw [h]
  rwa [cut_at hk, cut_at hk] at e

theorem torn_none {x y : List UInt8} (hx : x.length = 64) (hy : y.length = 64) (n : Nat) (hn : n ≤ 64) (ex : cut x 60 4 = cut x 0 4) (ey : cut y 60 4 = cut y 0 4) (hne : cut x 0 4 ≠ cut y 0 4)
    (h1 : torn x y n ≠ x) (h2 : torn x y n ≠ y) : takesB (torn x y n) = false := by
  cases ht : takesB (torn x y n) with
  | false => rfl
  | true =>
    exfalso
    have hz := torn_len hx hy n hn
    have e := (takes_told hz ht).1
    have T := torn_at (y := y) hx n
    rcases Nat.lt_or_ge 60 n with h60 | h60
    · apply h1
      apply List.ext_getElem?
      intro k
      rw [T k hn]
      split
      · rfl
      · rcases Nat.lt_or_ge k 64 with hk | hk
        · have a1 := at_of_cut e (k := k - 60) (by omega)
          have a2 := at_of_cut ex (k := k - 60) (by omega)
          rw [show 60 + (k - 60) = k by omega] at a1 a2
          rw [T k hn, if_neg (by omega), T _ hn, if_pos (by omega)] at a1
          rw [a1, a2]
        · rw [List.getElem?_eq_none (by omega), List.getElem?_eq_none (by omega)]
    · rcases Nat.lt_or_ge n 4 with h4 | h4
      · apply h2
        apply List.ext_getElem?
        intro k
        rw [T k hn]
        split
        · have a1 := at_of_cut e (k := k) (by omega)
          have a2 := at_of_cut ey (k := k) (by omega)
          rw [Nat.zero_add] at a1 a2
          rw [T _ hn, if_neg (by omega), T k hn, if_pos (by omega)] at a1
          rw [← a1, a2]
        · rfl
      · apply hne
        refine cut_ext fun k hk => ?_
        have a1 := at_of_cut e hk
        have a2 := at_of_cut ey hk
        rw [Nat.zero_add] at a1 a2 ⊢
        rw [T _ hn, if_neg (by omega), T k hn, if_pos (by omega)] at a1
        rw [← a1, a2]

theorem takes_noughts : takesB noughts = false := by decide +kernel

theorem noughts_cut (a : Nat) (h : a + 4 ≤ 64) : cut noughts a 4 = be4 0 := by
  refine cut_of_eq (by rw [noughts_len]; omega) (be4_len _) fun k hk => ?_
  unfold noughts
  rw [List.getElem?_replicate, if_pos (by omega)]
  match k, hk with
  | 0, _ => rfl
  | 1, _ => rfl
  | 2, _ => rfl
  | 3, _ => rfl

end Go.Proofs.Ytbicdmhmpmdoeaa.Lf
