/- Disks of sectors, power that goes: plain mathematics, nothing of the program. -/
import Derived.Test.YteakoniapgkicaaSeW
set_option linter.unusedVariables false
namespace Go.Proofs.Yteakoniapgkicaa.Dk
open Se (All64 blanks noughts)

/-- A disk: what was written, what is sure, which sectors are loose, whether power is off, how many calls till one is hit. -/
structure DS where
  now : List (List UInt8)
  sure : List (List UInt8)
  loose : List Bool
  off : Bool
  armed : Nat

def DS.n (d : DS) : Nat := d.now.length

structure DS.Ok (d : DS) : Prop where
  now : All64 d.now
  sure : All64 d.sure
  len : d.sure.length = d.now.length
  lens : d.loose.length = d.now.length

def dsNew (n : Nat) : DS := ⟨blanks n, blanks n, List.replicate n false, false, 0⟩

def inR (d : DS) (at_ : Int) : Bool := decide (0 ≤ at_) && decide (at_ < (d.n : Int))

def readE (d : DS) (at_ : Int) : Int := if d.off then 9 else if inR d at_ then 0 else 2

def readV (d : DS) (at_ : Int) : List UInt8 := if readE d at_ = 0 then d.now.getD at_.toNat [] else noughts

/-- A call that would be done is counted. -/
def tick (d : DS) : DS := { d with armed := d.armed - 1, off := d.off || d.armed == 1 }

def hitB (d : DS) : Bool := d.armed == 1

def writeE (d : DS) (at_ : Int) : Int := if readE d at_ ≠ 0 then readE d at_ else if hitB d then 9 else 0

def writeD (d : DS) (at_ : Int) (b : List UInt8) : DS := if readE d at_ ≠ 0 then d else tick { d with now := d.now.set at_.toNat b, loose := d.loose.set at_.toNat true }

def syncE (d : DS) : Int := if d.off || hitB d then 9 else 0

def syncD (d : DS) : DS := if d.off then d else if hitB d then tick d else { tick d with sure := d.now, loose := List.replicate d.n false }

def armD (d : DS) (n : Int) : DS := { d with armed := n.toNat }

/-- How many bytes of the r-th loose sector stay; the keeps by their number and their index. -/
def keeps (kn : Nat) (kf : Nat → Int) (r : Nat) : Nat := if kn = 0 then 0 else min (kf (r % kn)).toNat 64

/-- How many are loose ahead of a place. -/
def rank (l : List Bool) : Nat → Nat
  | 0 => 0
  | i + 1 => if l.getD i false then rank l i + 1 else rank l i

def mix (a b : List UInt8) (k : Nat) : List UInt8 := a.take k ++ b.drop k

/-- What is there of a loose sector, behind a crash. -/
def mixS (d : DS) (kn : Nat) (kf : Nat → Int) (i : Nat) : List UInt8 := mix (d.now.getD i []) (d.sure.getD i []) (keeps kn kf (rank d.loose i))

/-- The first k sectors are brought down. -/
def crashN (d : DS) (kn : Nat) (kf : Nat → Int) : Nat → DS
  | 0 => d
  | i + 1 => if d.loose.getD i false then { crashN d kn kf i with now := (crashN d kn kf i).now.set i (mixS d kn kf i), sure := (crashN d kn kf i).sure.set i (mixS d kn kf i), loose := (crashN d kn kf i).loose.set i false } else crashN d kn kf i

def crashD (d : DS) (kn : Nat) (kf : Nat → Int) : DS := { crashN d kn kf d.n with off := true, armed := 0 }

def startD (d : DS) : DS := if d.off then { crashD d 0 (fun _ => 0) with off := false } else d

theorem keeps_le (kn : Nat) (kf : Nat → Int) (r : Nat) : keeps kn kf r ≤ 64 := by
  unfold keeps
  split
  · omega
  · exact Nat.min_le_right _ _

theorem mix_len {a b : List UInt8} {k : Nat} (ha : a.length = 64) (hb : b.length = 64) (hk : k ≤ 64) : (mix a b k).length = 64 := by
  unfold mix
  rw [List.length_append, List.length_take, List.length_drop]
  omega

theorem mix_zero (a b : List UInt8) : mix a b 0 = b := by unfold mix; simp

theorem mix_step {a b : List UInt8} {k : Nat} {x : UInt8} (ha : a.length = 64) (hb : b.length = 64) (hk : k < 64) (hx : a[k]? = some x) : (mix a b k).set k x = mix a b (k + 1) := by
  unfold mix
  apply List.ext_getElem?
  intro j
  rcases Nat.lt_trichotomy j k with hj | hj | hj
  · rw [List.getElem?_set_ne (by omega), List.getElem?_append_left (by rw [List.length_take]; omega), List.getElem?_append_left (by rw [List.length_take]; omega), List.getElem?_take, List.getElem?_take, if_pos hj, if_pos (by omega)]
  · subst hj
    rw [List.getElem?_set_self (by rw [List.length_append, List.length_take, List.length_drop]; omega), List.getElem?_append_left (by rw [List.length_take]; omega), List.getElem?_take, if_pos (by omega), hx]
  · rw [List.getElem?_set_ne (by omega), List.getElem?_append_right (by rw [List.length_take]; omega), List.getElem?_append_right (by rw [List.length_take]; omega), List.length_take, List.length_take, List.getElem?_drop, List.getElem?_drop]
    congr 1
    omega

section
variable {d : DS} (kn : Nat) (kf : Nat → Int)
theorem crashN_off : ∀ i, (crashN d kn kf i).off = d.off ∧ (crashN d kn kf i).armed = d.armed
  | 0 => ⟨rfl, rfl⟩
  | i + 1 => by
    unfold crashN
    split
    · exact crashN_off i
    · exact crashN_off i

theorem crashN_len : ∀ i, (crashN d kn kf i).now.length = d.now.length ∧ (crashN d kn kf i).sure.length = d.sure.length ∧ (crashN d kn kf i).loose.length = d.loose.length
  | 0 => ⟨rfl, rfl, rfl⟩
  | i + 1 => by
    obtain ⟨h1, h2, h3⟩ := crashN_len i
    unfold crashN
    split
    · simp only [List.length_set]
      exact ⟨h1, h2, h3⟩
    · exact ⟨h1, h2, h3⟩

theorem crashN_n (i : Nat) : (crashN d kn kf i).n = d.n := (crashN_len kn kf i).1

/-- What lies behind the ones that were brought down is as it was. -/
theorem crashN_at : ∀ i j, i ≤ j → (crashN d kn kf i).now[j]? = d.now[j]? ∧ (crashN d kn kf i).sure[j]? = d.sure[j]? ∧ (crashN d kn kf i).loose[j]? = d.loose[j]?
  | 0, j, _ => ⟨rfl, rfl, rfl⟩
  | i + 1, j, hj => by
    obtain ⟨h1, h2, h3⟩ := crashN_at i j (by omega)
    unfold crashN
    split
    · simp only
      rw [List.getElem?_set_ne (by omega), List.getElem?_set_ne (by omega), List.getElem?_set_ne (by omega)]
      exact ⟨h1, h2, h3⟩
    · exact ⟨h1, h2, h3⟩

theorem mixS_len (h : d.Ok) {i : Nat} (hi : i < d.n) : (mixS d kn kf i).length = 64 := by
  have l1 : d.now.length = d.n := rfl
  have l2 := h.len
  refine mix_len ?_ ?_ (keeps_le _ _ _)
  · rw [List.getD, List.getElem?_eq_getElem (by omega)]
    exact h.now _ (List.getElem_mem _)
  · rw [List.getD, List.getElem?_eq_getElem (by omega)]
    exact h.sure _ (List.getElem_mem _)

theorem crashN_ok (h : d.Ok) : ∀ i, i ≤ d.n → (crashN d kn kf i).Ok
  | 0, _ => h
  | i + 1, hi => by
    have ih := crashN_ok h i (by omega)
    unfold crashN
    split
    · have hl := mixS_len kn kf h (i := i) (by omega)
      exact ⟨ih.now.set hl i, ih.sure.set hl i, by simp only [List.length_set]; exact ih.len, by simp only [List.length_set]; exact ih.lens⟩
    · exact ih

theorem crashD_ok (h : d.Ok) : (crashD d kn kf).Ok := by
  have h1 := crashN_ok kn kf h d.n (Nat.le_refl _)
  exact ⟨h1.now, h1.sure, h1.len, h1.lens⟩

/-- What a crash leaves of a sector. -/
theorem crashN_told : ∀ i j, j < i → i ≤ d.n → d.loose.length = d.n → d.sure.length = d.n → (crashN d kn kf i).now[j]? = (if d.loose.getD j false then some (mixS d kn kf j) else d.now[j]?) ∧ (crashN d kn kf i).sure[j]? = (if d.loose.getD j false then some (mixS d kn kf j) else d.sure[j]?) ∧ (crashN d kn kf i).loose[j]? = some false
  | 0, j, hj, _, _, _ => by omega
  | i + 1, j, hj, hi, h1, h2 => by
    obtain ⟨l1, l2, l3⟩ := crashN_len (d := d) kn kf i
    have l0 : d.now.length = d.n := rfl
    by_cases hji : j = i
    · subst hji
      obtain ⟨e1, e2, e3⟩ := crashN_at (d := d) kn kf j j (Nat.le_refl _)
      unfold crashN
      cases hl : d.loose.getD j false with
      | true =>
        rw [if_pos rfl]
        simp only
        rw [List.getElem?_set_self (by omega), List.getElem?_set_self (by omega), List.getElem?_set_self (by omega)]
        exact ⟨by simp, by simp, rfl⟩
      | false =>
        rw [if_neg (by simp), e1, e2, e3]
        refine ⟨by rw [if_neg (by simp)], by rw [if_neg (by simp)], ?_⟩
        rw [List.getD, List.getElem?_eq_getElem (by omega)] at hl
        rw [List.getElem?_eq_getElem (by omega)]
        exact congrArg some hl
    · obtain ⟨e1, e2, e3⟩ := crashN_told i j (by omega) (by omega) h1 h2
      unfold crashN
      split
      · simp only
        rw [List.getElem?_set_ne (by omega), List.getElem?_set_ne (by omega), List.getElem?_set_ne (by omega)]
        exact ⟨e1, e2, e3⟩
      · exact ⟨e1, e2, e3⟩
end

theorem tick_ok {d : DS} (h : d.Ok) : (tick d).Ok := ⟨h.now, h.sure, h.len, h.lens⟩

theorem inR_yes {d : DS} {i : Int} (h : readE d i = 0) : 0 ≤ i ∧ i < (d.n : Int) ∧ d.off = false := by
  unfold readE at h
  cases ho : d.off with
  | true => rw [ho] at h; simp at h
  | false =>
    rw [ho] at h
    by_cases hi : inR d i = true
    · unfold inR at hi
      simp at hi
      exact ⟨hi.1, hi.2, rfl⟩
    · rw [if_neg (by simp), if_neg hi] at h
      omega

theorem readE_ok {d : DS} {i : Int} (ho : d.off = false) (h0 : 0 ≤ i) (h1 : i < (d.n : Int)) : readE d i = 0 := by
  unfold readE inR
  rw [ho, if_neg (by simp), if_pos (by simp [h0, h1])]

theorem readE_down {d : DS} {i : Int} (ho : d.off = true) : readE d i = 9 := by
  unfold readE
  rw [ho, if_pos rfl]

theorem readE_out {d : DS} {i : Int} (ho : d.off = false) (h : i < 0 ∨ (d.n : Int) ≤ i) : readE d i = 2 := by
  unfold readE inR
  rw [ho, if_neg (by simp), if_neg (by simp; omega)]

end Go.Proofs.Yteakoniapgkicaa.Dk
