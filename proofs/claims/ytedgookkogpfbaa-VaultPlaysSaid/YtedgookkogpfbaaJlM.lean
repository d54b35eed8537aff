/- What a journal's numbers keep to; a disk that is not armed: every Add that has room is OK. Nothing of the program. -/
import Derived.Test.YtedgookkogpfbaaJlE
set_option maxRecDepth 100000
set_option linter.unusedVariables false
namespace Go.Proofs.Ytedgookkogpfbaa.Jr
open Lf (Leaf layB readB takesB rightB right_iff)
open Dk (DS writeE writeD readE syncE syncD hitB tick armD crashD startD crashN crashN_n)
open Jl (writeD_n' writeD_armed write_nine sync_nine doneE)

/-! ### The disk's size, and how it is armed -/
theorem writesD_n {at_ : Nat} {f : Nat → List UInt8} : ∀ (k i : Nat) (d : DS), (writesD d at_ f k i).1.n = d.n ∧ (writesD d at_ f k i).1.armed ≤ d.armed
  | 0, i, d => ⟨rfl, Nat.le_refl _⟩
  | k + 1, i, d => by
    unfold writesD
    split
    · obtain ⟨h1, h2⟩ := writesD_n k (i + 1) (writeD d ((at_ + i : Nat) : Int) (f i))
      exact ⟨h1.trans (writeD_n' _ _ _), Nat.le_trans h2 (writeD_armed _ _ _)⟩
    · exact ⟨writeD_n' _ _ _, writeD_armed _ _ _⟩

theorem syncD_n (d : DS) : (syncD d).n = d.n ∧ (syncD d).armed ≤ d.armed := by
  unfold syncD
  split
  · exact ⟨rfl, Nat.le_refl _⟩
  · split
    · exact ⟨rfl, Nat.sub_le _ _⟩
    · exact ⟨rfl, Nat.sub_le _ _⟩

theorem addD_n (d : DS) (at_ : Nat) (f : Nat → List UInt8) (k : Nat) : (addD d at_ f k).1.n = d.n ∧ (addD d at_ f k).1.armed ≤ d.armed := by
  obtain ⟨h1, h2⟩ := writesD_n (at_ := at_) (f := f) k 0 d
  unfold addD
  split
  · obtain ⟨h3, h4⟩ := syncD_n (writesD d at_ f k 0).1
    exact ⟨h3.trans h1, Nat.le_trans h4 h2⟩
  · exact ⟨h1, h2⟩

theorem addDS_n (d : DS) (j : JS) (b : List UInt8) : (addDS d j b).n = d.n ∧ (addDS d j b).armed ≤ d.armed := by
  unfold addDS
  split
  · exact ⟨rfl, Nat.le_refl _⟩
  · exact addD_n _ _ _ _

theorem crashD_n (d : DS) (kn : Nat) (kf : Nat → Int) : (crashD d kn kf).n = d.n ∧ (crashD d kn kf).armed = 0 ∧ (crashD d kn kf).off = true := ⟨crashN_n kn kf d.n, rfl, rfl⟩

theorem startD_n (d : DS) : (startD d).n = d.n ∧ (startD d).armed ≤ d.armed ∧ (startD d).off = false := by
  unfold startD
  split
  · exact ⟨crashN_n _ _ _, by show 0 ≤ _; omega, rfl⟩
  · rename_i h
    exact ⟨rfl, Nat.le_refl _, by simpa using h⟩

theorem writeD_off {d : DS} {i : Int} {b : List UInt8} (ho : d.off = false) (ha : d.armed = 0) : (writeD d i b).off = false ∧ (writeD d i b).armed = 0 := by
  unfold writeD
  split
  · exact ⟨ho, ha⟩
  · unfold tick
    exact ⟨by show (d.off || d.armed == 1) = false; rw [ho, ha]; rfl, by show d.armed - 1 = 0; omega⟩

/-! ### The numbers of a journal -/
structure Fit (d : DS) (j : JS) : Prop where
  room : j.o + j.n ≤ d.n
  dn : d.n ≤ 20000
  used : j.used ≤ j.n
  len : j.l.length ≤ j.used
  each : ∀ b ∈ j.l, b.length ≤ 46 * j.n
  e1 : 1 ≤ j.epoch
  e2 : j.epoch < 2 ^ 32
  armed : d.armed ≤ 9223372036854775807

theorem Fit.disk {d d' : DS} {j : JS} (h : Fit d j) (hn : d'.n = d.n) (ha : d'.armed ≤ 9223372036854775807) : Fit d' j :=
  ⟨by rw [hn]; exact h.room, by rw [hn]; exact h.dn, h.used, h.len, h.each, h.e1, h.e2, ha⟩

theorem stop_zero {d : DS} {j : JS} {b : List UInt8} (h : stopE d j b = 0) : j.dead = false ∧ d.off = false ∧ 1 ≤ b.length ∧ b.length ≤ 400000 ∧ needN b.length ≤ j.n - j.used := by
  unfold stopE at h
  by_cases h1 : (j.dead || d.off) = true
  · rw [if_pos h1] at h; cases h
  · rw [if_neg h1] at h
    have h1' : j.dead = false ∧ d.off = false := by
      cases hd : j.dead with
      | true => rw [hd] at h1; exact absurd rfl h1
      | false =>
        cases ho : d.off with
        | true => rw [hd, ho] at h1; exact absurd rfl h1
        | false => exact ⟨rfl, rfl⟩
    by_cases h2 : b.length < 1 ∨ 400000 < b.length
    · rw [if_pos h2] at h; cases h
    · rw [if_neg h2] at h
      by_cases h3 : j.n - j.used < needN b.length
      · rw [if_pos h3] at h; cases h
      · exact ⟨h1'.1, h1'.2, by omega, by omega, by omega⟩

theorem add_zero {d : DS} {j : JS} {b : List UInt8} (h : addE d j b = 0) : stopE d j b = 0 ∧ (doneJ d j b).2 = true := by
  unfold addE at h
  by_cases hs : stopE d j b ≠ 0
  · rw [if_pos hs] at h; exact absurd h hs
  · rw [if_neg hs] at h
    refine ⟨Decidable.byContradiction hs, ?_⟩
    cases hd : (doneJ d j b).2 with
    | true => rfl
    | false => rw [hd] at h; exact absurd h (by decide)

theorem addJ_zero {d : DS} {j : JS} {b : List UInt8} (h : addE d j b = 0) : addJ d j b = { j with l := j.l ++ [b], begun := if j.l.length = 0 then j.epoch else j.begun, used := j.used + needN b.length } := by
  unfold addJ
  rw [h, if_neg (by decide), if_neg (by decide)]

theorem addJ_full {d : DS} {j : JS} {b : List UInt8} (h : addE d j b ≠ 0) (h9 : addE d j b ≠ 9) : addJ d j b = j := by
  unfold addJ
  rw [if_neg h9, if_pos h]

theorem Fit.add {d : DS} {j : JS} {b : List UInt8} (h : Fit d j) : Fit (addDS d j b) (addJ d j b) := by
  obtain ⟨hn, ha⟩ := addDS_n d j b
  have h' := h.disk (d' := addDS d j b) hn (by have := h.armed; omega)
  by_cases h0 : addE d j b = 0
  · obtain ⟨_, _, h1, h2, h3⟩ := stop_zero (add_zero h0).1
    rw [addJ_zero h0]
    have hu := h.used
    have hl := h.len
    have hp := need_pos h1
    have hc := need_cover b.length
    refine ⟨h'.room, h'.dn, by show j.used + needN b.length ≤ j.n; omega, by show (j.l ++ [b]).length ≤ j.used + needN b.length; simp; omega, fun x hx => ?_, h'.e1, h'.e2, h'.armed⟩
    rcases List.mem_append.1 hx with hx | hx
    · exact h.each x hx
    · have e : x = b := by simpa using hx
      rw [e]
      show b.length ≤ 46 * j.n
      have : 46 * needN b.length ≤ 46 * j.n := Nat.mul_le_mul_left _ (by omega)
      omega
  · by_cases h9 : addE d j b = 9
    · have e : addJ d j b = { j with dead := true } := by unfold addJ; rw [if_pos h9]
      rw [e]
      exact ⟨h'.room, h'.dn, h'.used, h'.len, h'.each, h'.e1, h'.e2, h'.armed⟩
    · rw [addJ_full h0 h9]
      exact h'

theorem new_zero {d : DS} {o n e : Nat} (h : newE d o n e = 0) : o + n ≤ d.n ∧ 1 ≤ n ∧ 1 ≤ e ∧ d.off = false := by
  unfold newE at h
  by_cases hc : (o : Int) < 0 ∨ (n : Int) < 1 ∨ (d.n : Int) < (o : Int) ∨ (d.n : Int) - (o : Int) < (n : Int) ∨ e = 0
  · rw [if_pos hc] at h; cases h
  · rw [if_neg hc] at h
    refine ⟨by omega, by omega, by omega, ?_⟩
    cases ho : d.off with
    | false => rfl
    | true => rw [ho] at h; cases h

theorem new_is {d : DS} {o n e : Nat} (h1 : o + n ≤ d.n) (h2 : 1 ≤ n) (h3 : 1 ≤ e) (h4 : d.off = false) : newE d o n e = 0 := by
  unfold newE
  rw [if_neg (by omega), h4]
  rfl

theorem Fit.blank {d : DS} {o n e : Nat} (h : newE d o n e = 0) (hd : d.n ≤ 20000) (he : e < 2 ^ 32) (ha : d.armed ≤ 9223372036854775807) : Fit d (blankJ o n e) := by
  obtain ⟨h1, h2, h3, h4⟩ := new_zero h
  exact ⟨h1, hd, Nat.zero_le _, Nat.le_refl _, (fun b hb => by cases hb), h3, he, ha⟩

theorem taken_right' {s : List UInt8} (h : takesB s = true) : rightB (readB s) = true := taken_right h

theorem next_fits (S : Nat → List UInt8) (n : Nat) (r : Rd) (h : (nextR S n r).2.1 ≠ 0) : (nextR S n r).1.length ≤ 46 * n ∧ (nextR S n r).2.1 ≤ n - r.used := by
  have h1 := (rec_need _ _ _ _ rfl h).2
  refine ⟨?_, next_le S n r⟩
  have e : (nextR S n r).1.length ≤ 46 * (0 + (n - r.used)) := h1
  have : 46 * (0 + (n - r.used)) ≤ 46 * n := Nat.mul_le_mul_left _ (by omega)
  omega

theorem open_fits (S : Nat → List UInt8) (n : Nat) : ∀ (f : Nat) (r : Rd), r.used ≤ n → r.l.length ≤ r.used → (∀ b ∈ r.l, b.length ≤ 46 * n) → (openGo S n f r).used ≤ n ∧ (openGo S n f r).l.length ≤ (openGo S n f r).used ∧ ∀ b ∈ (openGo S n f r).l, b.length ≤ 46 * n
  | 0, r, h1, h2, h3 => ⟨h1, h2, h3⟩
  | f + 1, r, h1, h2, h3 => by
    unfold openGo
    split
    · exact ⟨h1, h2, h3⟩
    · rename_i h0
      obtain ⟨h4, h5⟩ := next_fits S n r h0
      refine open_fits S n f (moreR S n r) (by show r.used + (nextR S n r).2.1 ≤ n; omega) (by show (r.l ++ [(nextR S n r).1]).length ≤ r.used + (nextR S n r).2.1; simp; omega) (fun b hb => ?_)
      rcases List.mem_append.1 (show b ∈ r.l ++ [(nextR S n r).1] from hb) with hb | hb
      · exact h3 b hb
      · have e : b = (nextR S n r).1 := by simpa using hb
        rw [e]
        exact h4

theorem Fit.open_ {d : DS} {o n e : Nat} (h : newE d o n e = 0) (hd : d.n ≤ 20000) (he : e < 2 ^ 32) (ha : d.armed ≤ 9223372036854775807) : Fit d (openJ d o n e) := by
  obtain ⟨h1, h2, h3, h4⟩ := new_zero h
  obtain ⟨q1, q2, q3⟩ := open_fits (secs d o) n n Rd.none (Nat.zero_le _) (Nat.le_refl _) (fun b hb => by cases hb)
  exact ⟨h1, hd, q1, q2, q3, h3, he, ha⟩

/-! ### A disk that is not armed -/
theorem writes_calm {at_ : Nat} {f : Nat → List UInt8} : ∀ (k i : Nat) (d : DS), d.off = false → d.armed = 0 → at_ + i + k ≤ d.n → (writesD d at_ f k i).2 = true ∧ (writesD d at_ f k i).1.off = false ∧ (writesD d at_ f k i).1.armed = 0
  | 0, i, d, ho, ha, _ => ⟨rfl, ho, ha⟩
  | k + 1, i, d, ho, ha, hr => by
    have hE : writeE d ((at_ + i : Nat) : Int) = 0 := by
      unfold writeE
      rw [Dk.readE_ok ho (by omega) (by omega), if_neg (fun h => h rfl)]
      unfold hitB
      rw [ha]
      rfl
    obtain ⟨h1, h2⟩ := writeD_off (i := ((at_ + i : Nat) : Int)) (b := f i) ho ha
    unfold writesD
    rw [if_pos hE]
    exact writes_calm k (i + 1) _ h1 h2 (by rw [writeD_n']; omega)

theorem add_calm {d : DS} {at_ : Nat} {f : Nat → List UInt8} {k : Nat} (ho : d.off = false) (ha : d.armed = 0) (hr : at_ + k ≤ d.n) : (addD d at_ f k).2 = true ∧ (addD d at_ f k).1.off = false ∧ (addD d at_ f k).1.armed = 0 := by
  obtain ⟨h1, h2, h3⟩ := writes_calm (f := f) k 0 d ho ha (by omega)
  unfold addD
  rw [if_pos h1]
  have hE : syncE (writesD d at_ f k 0).1 = 0 := by unfold syncE hitB; rw [h2, h3]; rfl
  refine ⟨decide_eq_true hE, ?_⟩
  unfold syncD hitB
  rw [if_neg (by rw [h2]; simp), if_neg (by rw [h3]; simp)]
  unfold tick
  exact ⟨by show ((writesD d at_ f k 0).1.off || (writesD d at_ f k 0).1.armed == 1) = false; rw [h2, h3]; rfl, by show (writesD d at_ f k 0).1.armed - 1 = 0; omega⟩

/-- An Add on it that has room. -/
theorem calm_ok {d : DS} {j : JS} {b : List UInt8} (hf : Fit d j) (ho : d.off = false) (ha : d.armed = 0) (hd : j.dead = false) (h1 : 1 ≤ b.length) (h2 : b.length ≤ 400000) (h3 : needN b.length ≤ j.n - j.used) : addE d j b = 0 ∧ (addDS d j b).off = false ∧ (addDS d j b).armed = 0 := by
  have hs : stopE d j b = 0 := by
    unfold stopE
    rw [hd, ho, if_neg (by simp), if_neg (by omega), if_neg (by omega)]
  have hr := hf.room
  have hu := hf.used
  obtain ⟨q1, q2, q3⟩ := add_calm (f := sectJ j b) (k := needN b.length) (at_ := j.o + j.used) ho ha (by omega)
  have e1 : addE d j b = 0 := by unfold addE; rw [if_neg (by omega)]; unfold doneJ; rw [q1]; rfl
  have e2 : addDS d j b = (doneJ d j b).1 := by unfold addDS; rw [if_neg (by omega)]
  exact ⟨e1, by rw [e2]; exact q2, by rw [e2]; exact q3⟩

/-- An Add on it that has none. -/
theorem calm_full {d : DS} {j : JS} {b : List UInt8} (ho : d.off = false) (hd : j.dead = false) (h1 : 1 ≤ b.length) (h2 : b.length ≤ 400000) (h3 : j.n - j.used < needN b.length) : addE d j b = 6 ∧ addDS d j b = d ∧ addJ d j b = j := by
  have hs : stopE d j b = 6 := by
    unfold stopE
    rw [hd, ho, if_neg (by simp), if_neg (by omega), if_pos h3]
  have e1 : addE d j b = 6 := by unfold addE; rw [hs, if_pos (by decide)]
  exact ⟨e1, by unfold addDS; rw [hs, if_pos (by decide)], addJ_full (by rw [e1]; decide) (by rw [e1]; decide)⟩

end Go.Proofs.Ytedgookkogpfbaa.Jr
