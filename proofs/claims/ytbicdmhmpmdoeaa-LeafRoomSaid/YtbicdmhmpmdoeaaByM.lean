/- Numbers and texts as bytes: plain mathematics, nothing of the program. -/
import Derived.Below
set_option linter.unusedVariables false
namespace Go.Proofs.Ytbicdmhmpmdoeaa.By

/-- A number in groups of seven bits, the lowest first. -/
def num (v : Nat) : List UInt8 := if v < 128 then [UInt8.ofNat v] else UInt8.ofNat (v % 128 + 128) :: num (v / 128)
termination_by v

theorem num_lt {v : Nat} (h : v < 128) : num v = [UInt8.ofNat v] := by rw [num, if_pos h]

theorem num_ge {v : Nat} (h : 128 ≤ v) : num v = UInt8.ofNat (v % 128 + 128) :: num (v / 128) := by rw [num, if_neg (by omega)]

theorem toNat_small {v : Nat} (h : v < 256) : (UInt8.ofNat v).toNat = v := by rw [UInt8.toNat_ofNat']; omega

theorem num_ne (v : Nat) : num v ≠ [] := by
  rcases Nat.lt_or_ge v 128 with h | h
  · rw [num_lt h]; simp
  · rw [num_ge h]; simp

theorem num_pos (v : Nat) : 0 < (num v).length := List.length_pos_iff.2 (num_ne v)

theorem num_length : ∀ (k v : Nat), v < 128 ^ (k + 1) → (num v).length ≤ k + 1
  | 0, v, h => by rw [num_lt (by omega)]; simp
  | k + 1, v, h => by
    rcases Nat.lt_or_ge v 128 with h1 | h1
    · rw [num_lt h1]; simp
    · rw [num_ge h1, List.length_cons]
      have := num_length k (v / 128) (by rw [Nat.div_lt_iff_lt_mul (by omega)]; rw [Nat.pow_succ] at h; exact h)
      omega

theorem num_nine {v : Nat} (h : v ≤ 9223372036854775807) : (num v).length ≤ 9 := num_length 8 v (by omega)

/-- How many bytes ahead go on. -/
def lead : List UInt8 → Nat
  | [] => 0
  | b :: l => if 128 ≤ b.toNat then lead l + 1 else 0

/-- What the bytes say, seven bits each. -/
def valU : List UInt8 → Nat
  | [] => 0
  | b :: l => b.toNat % 128 + 128 * valU l

theorem lead_le : ∀ l, lead l ≤ l.length
  | [] => Nat.le_refl _
  | b :: l => by
    unfold lead
    have := lead_le l
    split <;> simp <;> omega

theorem lead_on : ∀ (l : List UInt8) (j : Nat), j < lead l → ∃ b, l[j]? = some b ∧ 128 ≤ b.toNat
  | [], j, h => by simp [lead] at h
  | b :: l, j, h => by
    unfold lead at h
    by_cases hb : 128 ≤ b.toNat
    · rw [if_pos hb] at h
      cases j with
      | zero => exact ⟨b, rfl, hb⟩
      | succ j => simpa using lead_on l j (by omega)
    · rw [if_neg hb] at h; omega

theorem lead_off : ∀ (l : List UInt8), lead l < l.length → ∃ b, l[lead l]? = some b ∧ b.toNat < 128
  | [], h => by simp at h
  | b :: l, h => by
    unfold lead at h ⊢
    by_cases hb : 128 ≤ b.toNat
    · rw [if_pos hb] at h ⊢
      simpa using lead_off l (by simpa using h)
    · rw [if_neg hb]
      exact ⟨b, rfl, by omega⟩

/-- Where the first that does not go on stands. -/
theorem lead_eq : ∀ (l : List UInt8) (k : Nat) (b : UInt8), (∀ j, j < k → ∃ c, l[j]? = some c ∧ 128 ≤ c.toNat) → l[k]? = some b → b.toNat < 128 → lead l = k
  | [], k, b, _, h, _ => by simp at h
  | a :: l, 0, b, _, h, hb => by
    obtain rfl : a = b := by simpa using h
    unfold lead; rw [if_neg (by omega)]
  | a :: l, k + 1, b, ha, h, hb => by
    obtain ⟨c, hc, hc2⟩ := ha 0 (by omega)
    obtain rfl : a = c := by simpa using hc
    unfold lead
    rw [if_pos hc2, lead_eq l k b (fun j hj => by simpa using ha (j + 1) (by omega)) (by simpa using h) hb]

theorem lead_ge : ∀ (l : List UInt8) (k : Nat), (∀ j, j < k → ∃ c, l[j]? = some c ∧ 128 ≤ c.toNat) → k ≤ lead l
  | l, 0, _ => Nat.zero_le _
  | [], k + 1, ha => by obtain ⟨c, hc, _⟩ := ha 0 (by omega); simp at hc
  | a :: l, k + 1, ha => by
    obtain ⟨c, hc, hc2⟩ := ha 0 (by omega)
    obtain rfl : a = c := by simpa using hc
    unfold lead
    rw [if_pos hc2]
    have := lead_ge l k (fun j hj => by simpa using ha (j + 1) (by omega))
    omega

theorem valU_take : ∀ (l : List UInt8) (i : Nat) (b : UInt8), l[i]? = some b → valU (l.take (i + 1)) = valU (l.take i) + 128 ^ i * (b.toNat % 128)
  | [], i, b, h => by simp at h
  | a :: l, 0, b, h => by
    obtain rfl : a = b := by simpa using h
    simp [valU]
  | a :: l, i + 1, b, h => by
    have := valU_take l i b (by simpa using h)
    rw [List.take_succ_cons, List.take_succ_cons, valU, valU, this, Nat.mul_add, Nat.pow_succ, ← Nat.mul_assoc, Nat.mul_comm 128 (128 ^ i)]
    omega

theorem valU_lt : ∀ (l : List UInt8) (i : Nat), l.length ≤ i → valU l < 128 ^ i
  | [], i, _ => by simpa [valU] using Nat.pow_pos (by omega)
  | a :: l, 0, h => by simp at h
  | a :: l, i + 1, h => by
    have := valU_lt l i (by simpa using h)
    rw [valU, Nat.pow_succ]
    omega

theorem valU_take_lt (l : List UInt8) (i : Nat) : valU (l.take i) < 128 ^ i := valU_lt _ _ (List.length_take_le _ _)

/-! ### What is written is read -/
theorem lead_num : ∀ (f v : Nat) (m : List UInt8), v ≤ f → lead (num v ++ m) = (num v).length - 1
  | 0, v, m, h => by
    rw [num_lt (by omega)]
    simp only [List.cons_append, List.nil_append, lead]
    rw [toNat_small (by omega), if_neg (by omega)]; rfl
  | f + 1, v, m, h => by
    rcases Nat.lt_or_ge v 128 with h1 | h1
    · rw [num_lt h1]
      simp only [List.cons_append, List.nil_append, lead]
      rw [toNat_small (by omega), if_neg (by omega)]; rfl
    · rw [num_ge h1, List.cons_append, lead, toNat_small (by omega), if_pos (by omega), lead_num f (v / 128) m (by omega), List.length_cons]
      have := num_pos (v / 128)
      omega

theorem num_val : ∀ (f v : Nat), v ≤ f → valU (num v) = v
  | 0, v, h => by rw [num_lt (by omega)]; simp only [valU]; rw [toNat_small (by omega)]; omega
  | f + 1, v, h => by
    rcases Nat.lt_or_ge v 128 with h1 | h1
    · rw [num_lt h1]; simp only [valU]; rw [toNat_small (by omega)]; omega
    · rw [num_ge h1, valU, toNat_small (by omega), num_val f (v / 128) (by omega)]; omega

/-- Its last byte: less than 128, and 0 where it is its only one alone. -/
theorem num_last : ∀ (f v : Nat), v ≤ f → ∃ b, (num v)[(num v).length - 1]? = some b ∧ b.toNat < 128 ∧ (1 < (num v).length → 0 < b.toNat)
  | 0, v, h => by rw [num_lt (by omega)]; exact ⟨_, rfl, by rw [toNat_small (by omega)]; omega, by simp⟩
  | f + 1, v, h => by
    rcases Nat.lt_or_ge v 128 with h1 | h1
    · rw [num_lt h1]; exact ⟨_, rfl, by rw [toNat_small (by omega)]; omega, by simp⟩
    · obtain ⟨b, hb, hb1, hb2⟩ := num_last f (v / 128) (by omega)
      have hp := num_pos (v / 128)
      refine ⟨b, ?_, hb1, fun _ => ?_⟩
      · rw [num_ge h1, List.length_cons]
        have e : (num (v / 128)).length + 1 - 1 = ((num (v / 128)).length - 1) + 1 := by omega
        rw [e, List.getElem?_cons_succ]
        exact hb
      · rcases Nat.lt_or_ge (v / 128) 128 with h2 | h2
        · rw [num_lt h2] at hb
          obtain rfl : UInt8.ofNat (v / 128) = b := by simpa using hb
          rw [toNat_small (by omega)]
          omega
        · refine hb2 ?_
          rw [num_ge h2, List.length_cons]
          have := num_pos (v / 128 / 128)
          omega

/-- All but its last byte go on. -/
theorem num_on (v j : Nat) (h : j + 1 < (num v).length) : ∃ c, (num v)[j]? = some c ∧ 128 ≤ c.toNat := by
  have := lead_num v v [] (Nat.le_refl _)
  rw [List.append_nil] at this
  exact lead_on _ _ (by omega)

/-! ### Reading: which fault, what is read, what is left -/
/-- The byte at a place. -/
def at_ (l : List UInt8) (k : Nat) : Int := ((l.getD k 0).toNat : Int)

theorem at_in (l : List UInt8) (k : Nat) : 0 ≤ at_ l k ∧ at_ l k ≤ 255 := by
  unfold at_
  have := (l.getD k 0).toNat_lt
  omega

theorem at_some {l : List UInt8} {k : Nat} {b : UInt8} (h : l[k]? = some b) : at_ l k = b.toNat := by unfold at_; rw [List.getD, h]; rfl

/-- Where the number ends, or why not. -/
def measE (l : List UInt8) : Int := if 9 ≤ lead l then 4 else if l.length ≤ lead l then 3 else 0

def sayB (l : List UInt8) (least most : Int) : Bool := decide (least ≤ (valU (l.take (lead l + 1)) : Int)) && decide ((valU (l.take (lead l + 1)) : Int) ≤ most)

def longB (l : List UInt8) : Bool := decide (0 < lead l) && (at_ l (lead l) == 0)

/-- The fault of a number. -/
def numE (l : List UInt8) (least most : Int) : Int := if measE l ≠ 0 then measE l else if longB l then 4 else if sayB l least most then 0 else 4

def numV (l : List UInt8) (least most : Int) : Int := if numE l least most = 0 then (valU (l.take (lead l + 1)) : Int) else 0

def numL (l : List UInt8) (least most : Int) : List UInt8 := if numE l least most = 0 then l.drop (lead l + 1) else l

theorem measE_in (l : List UInt8) : measE l = 0 ∨ measE l = 3 ∨ measE l = 4 := by
  unfold measE
  by_cases h : 9 ≤ lead l
  · rw [if_pos h]; simp
  · rw [if_neg h]
    by_cases h2 : l.length ≤ lead l
    · rw [if_pos h2]; simp
    · rw [if_neg h2]; simp

theorem numE_in (l : List UInt8) (least most : Int) : numE l least most = 0 ∨ numE l least most = 3 ∨ numE l least most = 4 := by
  unfold numE
  have := measE_in l
  split
  · exact this
  · split
    · simp
    · split <;> simp

theorem measE_ok {l : List UInt8} (h : measE l = 0) : lead l < 9 ∧ lead l < l.length := by
  unfold measE at h
  split at h
  · omega
  · split at h
    · omega
    · omega

theorem numE_ok {l : List UInt8} {least most : Int} (h : numE l least most = 0) : measE l = 0 ∧ longB l = false ∧ sayB l least most = true := by
  unfold numE at h
  split at h
  · exact absurd h ‹_›
  · split at h
    · omega
    · split at h
      · exact ⟨by omega, by simpa using ‹¬ longB l = true›, ‹_›⟩
      · omega

/-- A number that was written. -/
theorem read_num (v : Nat) (m : List UInt8) (least most : Int) (hv : v ≤ 9223372036854775807) : measE (num v ++ m) = 0 ∧ longB (num v ++ m) = false ∧ valU ((num v ++ m).take (lead (num v ++ m) + 1)) = v ∧ (num v ++ m).drop (lead (num v ++ m) + 1) = m ∧ lead (num v ++ m) = (num v).length - 1 := by
  have hl := lead_num v v m (Nat.le_refl _)
  have hp := num_pos v
  have h9 := num_nine hv
  have e : lead (num v ++ m) + 1 = (num v).length := by omega
  obtain ⟨b, hb, _, hb2⟩ := num_last v v (Nat.le_refl _)
  refine ⟨?_, ?_, ?_, ?_, hl⟩
  · unfold measE
    rw [if_neg (by omega), if_neg (by rw [List.length_append]; omega)]
  · unfold longB
    rcases Nat.eq_zero_or_pos (lead (num v ++ m)) with h0 | h0
    · rw [h0]; rfl
    · rw [hl, at_some (by rw [List.getElem?_append_left (by omega)]; exact hb), Bool.and_eq_false_iff]
      right
      have := hb2 (by omega)
      exact beq_eq_false_iff_ne.2 (by omega)
  · rw [e, List.take_left, num_val v v (Nat.le_refl _)]
  · rw [e, List.drop_left]

theorem numE_num (v : Nat) (m : List UInt8) (least most : Int) (hv : v ≤ 9223372036854775807) (h1 : least ≤ v) (h2 : (v : Int) ≤ most) : numE (num v ++ m) least most = 0 ∧ numV (num v ++ m) least most = v ∧ numL (num v ++ m) least most = m := by
  obtain ⟨a, b, c, d, e⟩ := read_num v m least most hv
  have h : numE (num v ++ m) least most = 0 := by
    unfold numE
    rw [if_neg (by rw [a]; simp), b, if_neg (by simp), if_pos]
    unfold sayB
    rw [c]
    simp [h1, h2]
  refine ⟨h, ?_, ?_⟩
  · unfold numV; rw [if_pos h, c]
  · unfold numL; rw [if_pos h, d]

theorem numE_out (v : Nat) (m : List UInt8) (least most : Int) (hv : v ≤ 9223372036854775807) (h1 : ¬ (least ≤ v ∧ (v : Int) ≤ most)) : numE (num v ++ m) least most = 4 := by
  obtain ⟨a, b, c, d, e⟩ := read_num v m least most hv
  unfold numE
  rw [if_neg (by rw [a]; simp), b, if_neg (by simp), if_neg]
  unfold sayB
  rw [c]
  simp
  omega

/-- A beginning of a number alone ends too early. -/
theorem numE_cut (v k : Nat) (m : List UInt8) (least most : Int) (hv : v ≤ 9223372036854775807) (hk : k < (num v).length) : numE ((num v ++ m).take k) least most = 3 := by
  have h9 := num_nine hv
  have hlen : ((num v ++ m).take k).length = k := by rw [List.length_take, List.length_append]; omega
  have hl : k ≤ lead ((num v ++ m).take k) := lead_ge _ _ fun j hj => by
    obtain ⟨c, hc, hc2⟩ := num_on v j (by omega)
    exact ⟨c, by rw [List.getElem?_take, if_pos hj, List.getElem?_append_left (by omega)]; exact hc, hc2⟩
  have hle := lead_le ((num v ++ m).take k)
  have e : measE ((num v ++ m).take k) = 3 := by
    unfold measE
    rw [if_neg (by omega), if_pos (by omega)]
  unfold numE
  rw [e, if_pos (by omega)]

/-- More bytes than it needs, or more than nine. -/
theorem numE_long (b : List UInt8) (least most : Int) (h : ∀ (j : Nat) (c : UInt8), b[j]? = some c → 128 ≤ c.toNat) (h0 : 0 < b.length) : numE (b ++ [0]) least most = 4 ∧ numV (b ++ [0]) least most = 0 := by
  have hl : lead (b ++ [0]) = b.length := lead_eq _ _ 0 (fun j hj => by
    obtain ⟨c, hc⟩ : ∃ c, b[j]? = some c := ⟨_, List.getElem?_eq_getElem hj⟩
    exact ⟨c, by rw [List.getElem?_append_left hj]; exact hc, h j c hc⟩) (by simp) (by decide)
  have e : numE (b ++ [0]) least most = 4 := by
    unfold numE
    by_cases h9 : 9 ≤ b.length
    · have : measE (b ++ [0]) = 4 := by unfold measE; rw [hl, if_pos h9]
      rw [this, if_pos (by omega)]
    · have : measE (b ++ [0]) = 0 := by unfold measE; rw [hl, if_neg h9, if_neg (by simp)]
      have h2 : longB (b ++ [0]) = true := by
        unfold longB
        rw [hl, at_some (b := 0) (by simp)]
        simpa using h0
      rw [this, if_neg (by simp), h2, if_pos rfl]
  refine ⟨e, ?_⟩
  unfold numV
  rw [if_neg (by omega)]

/-! ### Texts -/
def text (s : List UInt8) : List UInt8 := num s.length ++ s

def flag (b : Bool) : List UInt8 := if b then [1] else [0]

theorem flag_num (b : Bool) : flag b = num (if b then 1 else 0) := by cases b <;> (rw [num_lt (by decide)]; rfl)

/-- What Text reads, its fault, and what it leaves. -/
def textE (l : List UInt8) (most : Int) : Int := if numE l 0 most ≠ 0 then numE l 0 most else if ((numL l 0 most).length : Int) < numV l 0 most then 3 else 0

def textV (l : List UInt8) (most : Int) : List UInt8 := if textE l most = 0 then (numL l 0 most).take (numV l 0 most).toNat else []

def textL (l : List UInt8) (most : Int) : List UInt8 := if textE l most = 0 then (numL l 0 most).drop (numV l 0 most).toNat else numL l 0 most

theorem textE_text (s m : List UInt8) (most : Int) (hs : s.length ≤ 9223372036854775807) (hm : (s.length : Int) ≤ most) : textE (text s ++ m) most = 0 ∧ textV (text s ++ m) most = s ∧ textL (text s ++ m) most = m := by
  unfold text
  rw [List.append_assoc]
  obtain ⟨a, b, c⟩ := numE_num s.length (s ++ m) 0 most hs (by omega) hm
  have h : textE (num s.length ++ (s ++ m)) most = 0 := by
    unfold textE
    rw [a, b, c, if_neg (by simp), if_neg]
    rw [List.length_append]; omega
  refine ⟨h, ?_, ?_⟩
  · unfold textV
    rw [if_pos h, b, c]
    simp
  · unfold textL
    rw [if_pos h, b, c]
    simp

/-- A beginning of a text alone ends too early. -/
theorem textE_cut (s : List UInt8) (k : Nat) (most : Int) (hs : s.length ≤ 9223372036854775807) (hm : (s.length : Int) ≤ most) (hk : k < (text s).length) : textE ((text s).take k) most = 3 ∧ textV ((text s).take k) most = [] := by
  have h : textE ((text s).take k) most = 3 := by
    unfold text at hk ⊢
    rcases Nat.lt_or_ge k (num s.length).length with h | h
    · unfold textE
      rw [numE_cut _ _ _ _ _ hs h, if_pos (by omega)]
    · have e : (num s.length ++ s).take k = num s.length ++ s.take (k - (num s.length).length) := by rw [List.take_append, List.take_of_length_le h]
      rw [e]
      obtain ⟨a, b, c⟩ := numE_num s.length (s.take (k - (num s.length).length)) 0 most hs (by omega) hm
      unfold textE
      rw [a, b, c, if_neg (by simp), if_pos]
      rw [List.length_append] at hk
      rw [List.length_take]
      omega
  refine ⟨h, ?_⟩
  unfold textV
  rw [if_neg (by omega)]

end Go.Proofs.Ytbicdmhmpmdoeaa.By
