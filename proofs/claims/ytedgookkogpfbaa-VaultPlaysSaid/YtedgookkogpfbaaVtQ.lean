/- The numbers of a vault. -/
import Derived.Test.YtedgookkogpfbaaVtP
set_option maxRecDepth 100000
set_option linter.unusedVariables false
namespace Go.Proofs.Ytedgookkogpfbaa.Vt
open Lf (Leaf layB readB takesB markN cut cut_at val4 be4 rightB right_iff)
open Dk (DS mix mixS crashD startD armD dsNew keeps)
open Jr

/-! ### Records that are read have bytes -/
theorem rec_full {S : Nat → List UInt8} {number least : Nat} : ∀ f i b e, (recGo S number least f i b e).2.1 ≠ 0 → b.length + 1 ≤ (recGo S number least f i b e).1.length ∧ least ≤ (recGo S number least f i b e).2.2
  | 0, _, _, _, h => absurd rfl h
  | f + 1, i, b, e, h => by
    unfold recGo at h ⊢
    by_cases hg : goodL S number least e i = true
    · obtain ⟨g1, g2, g3, g4, g5⟩ := (good_iff e i).1 hg
      have hd := ((right_iff _).1 (taken_right' g1)).2.1
      rw [if_pos hg] at h ⊢
      by_cases hl : (readB (S i)).last = true
      · rw [if_pos hl]
        exact ⟨by show b.length + 1 ≤ (b ++ (readB (S i)).data).length; rw [List.length_append]; omega, g5⟩
      · rw [if_neg hl] at h ⊢
        obtain ⟨h1, h2⟩ := rec_full f (i + 1) _ _ h
        rw [List.length_append] at h1
        exact ⟨by omega, h2⟩
    · rw [if_neg hg] at h
      exact absurd rfl h

theorem open_full (S : Nat → List UInt8) (n : Nat) : ∀ (f : Nat) (r : Rd), 1 ≤ r.least → (∀ b ∈ r.l, 1 ≤ b.length) → (r.l.length = 0 ↔ r.begun = 0) → (∀ b ∈ (openGo S n f r).l, 1 ≤ b.length) ∧ ((openGo S n f r).l.length = 0 ↔ (openGo S n f r).begun = 0)
  | 0, r, _, h, h2 => ⟨h, h2⟩
  | f + 1, r, hl, h, h2 => by
    unfold openGo
    split
    · exact ⟨h, h2⟩
    · rename_i h0
      have hr := rec_full (S := fun i => S (r.used + i)) (number := r.l.length % 4294967296) (least := r.least) (n - r.used) 0 [] 0 h0
      have hr1 : ([] : List UInt8).length + 1 ≤ (nextR S n r).1.length := hr.1
      have hr2 : r.least ≤ (nextR S n r).2.2 := hr.2
      refine open_full S n f (moreR S n r) (by show 1 ≤ (nextR S n r).2.2; omega) (fun b hb => ?_) ?_
      · rcases List.mem_append.1 (show b ∈ r.l ++ [(nextR S n r).1] from hb) with hb | hb
        · exact h b hb
        · have e : b = (nextR S n r).1 := by simpa using hb
          rw [e]
          have : ([] : List UInt8).length = 0 := rfl
          omega
      · show (r.l ++ [(nextR S n r).1]).length = 0 ↔ (if r.l.length = 0 then (nextR S n r).2.2 else r.begun) = 0
        constructor
        · intro e; simp at e
        · intro e
          by_cases hc : r.l.length = 0
          · rw [if_pos hc] at e; omega
          · rw [if_neg hc] at e; exact absurd (h2.2 e) hc

/-- What is opened: each record has bytes; there is one, where its epoch is told. -/
theorem openJ_full (d : DS) (o n e : Nat) : (∀ b ∈ (openJ d o n e).l, 1 ≤ b.length) ∧ ((openJ d o n e).l.length = 0 ↔ (openJ d o n e).begun = 0) :=
  open_full (secs d o) n n Rd.none (Nat.le_refl _) (fun b hb => by cases hb) ⟨fun _ => rfl, fun _ => rfl⟩

/-! ### The numbers of a vault -/
structure VFit (d : DS) (v : VS) : Prop where
  fit : Fit d v.j
  size : d.n / 2 = v.n
  n2 : 2 ≤ v.n
  h1 : v.half ≤ 1
  jn : v.j.n = v.n
  e1 : 1 ≤ v.epoch
  e2 : v.epoch < 2 ^ 32
  one : v.j.l.length ≠ 0
  each : ∀ b ∈ v.j.l, 1 ≤ b.length

theorem VFit.disk {d d' : DS} {v : VS} (h : VFit d v) (hn : d'.n = d.n) (ha : d'.armed ≤ 9223372036854775807) : VFit d' v :=
  ⟨h.fit.disk hn ha, by rw [hn]; exact h.size, h.n2, h.h1, h.jn, h.e1, h.e2, h.one, h.each⟩

theorem addJ_kept {d : DS} {j : JS} {b : List UInt8} : (addJ d j b).n = j.n ∧ (j.l.length ≠ 0 → (addJ d j b).l.length ≠ 0) ∧ ((∀ x ∈ j.l, 1 ≤ x.length) → ∀ x ∈ (addJ d j b).l, 1 ≤ x.length) := by
  by_cases h0 : addE d j b = 0
  · obtain ⟨_, _, h1, _, _⟩ := stop_zero (add_zero h0).1
    rw [addJ_zero h0]
    refine ⟨rfl, fun _ => by show (j.l ++ [b]).length ≠ 0; simp, fun h x hx => ?_⟩
    rcases List.mem_append.1 hx with hx | hx
    · exact h x hx
    · have : x = b := by simpa using hx
      rw [this]; exact h1
  · by_cases h9 : addE d j b = 9
    · have e : addJ d j b = { j with dead := true } := by unfold addJ; rw [if_pos h9]
      rw [e]
      exact ⟨rfl, id, id⟩
    · rw [addJ_full h0 h9]
      exact ⟨rfl, id, id⟩

theorem VFit.add {d : DS} {v : VS} {b : List UInt8} (h : VFit d v) : VFit (vaddDS d v b) (vaddV d v b) := by
  unfold vaddDS vaddV
  split
  · exact ⟨h.fit, h.size, h.n2, h.h1, h.jn, h.e1, h.e2, h.one, h.each⟩
  · obtain ⟨k1, k2, k3⟩ := addJ_kept (d := d) (j := v.j) (b := b)
    exact ⟨h.fit.add, by rw [(addDS_n _ _ _).1]; exact h.size, h.n2, h.h1, k1.trans h.jn, h.e1, h.e2, k2 h.one, k3 h.each⟩

theorem new_half {d : DS} {v : VS} (h : VFit d v) (hd : d.off = false) (he : v.epoch ≠ 4294967295) : newE d ((v.n - v.n * v.half : Nat) : Int) (v.n : Int) (v.epoch + 1) = 0 ∧ Fit d (newHalf v) := by
  have h1 := h.size
  have h2 := h.n2
  have hm : v.n - v.n * v.half + v.n ≤ d.n := by
    rcases Nat.le_one_iff_eq_zero_or_eq_one.1 h.h1 with e | e
    · rw [e]; simp; omega
    · rw [e]; simp; omega
  have hE : newE d ((v.n - v.n * v.half : Nat) : Int) (v.n : Int) (v.epoch + 1) = 0 := new_is hm (by omega) (by omega) hd
  exact ⟨hE, Fit.blank hE h.fit.dn (by have := h.e2; omega) h.fit.armed⟩

theorem VFit.comp {d : DS} {v : VS} {base : List UInt8} (h : VFit d v) : VFit (vcompDS d v base) (vcompV d v base) := by
  unfold vcompDS vcompV
  by_cases hs : cstopE d v base ≠ 0
  · rw [if_pos hs]
    split
    · exact ⟨h.fit, h.size, h.n2, h.h1, h.jn, h.e1, h.e2, h.one, h.each⟩
    · exact h
  · rw [if_neg hs, if_neg (by omega), if_neg hs]
    have hc : (v.dead || d.off) = false ∧ v.epoch ≠ 4294967295 := by
      unfold cstopE at hs
      by_cases q1 : (v.dead || d.off) = true
      · rw [if_pos q1] at hs; exact absurd (by decide) hs
      · rw [if_neg q1] at hs
        refine ⟨by simpa using q1, fun q2 => ?_⟩
        by_cases q3 : 400000 ≤ base.length
        · rw [if_pos q3] at hs; exact absurd (by decide) hs
        · rw [if_neg q3, if_pos (.inl q2)] at hs; exact absurd (by decide) hs
    have hoff : d.off = false := by
      cases ho : d.off with
      | false => rfl
      | true => have := hc.1; rw [ho, Bool.or_true] at this; cases this
    obtain ⟨_, hf⟩ := new_half h hoff hc.2
    have hn := addDS_n d (newHalf v) (1 :: base)
    have he2 := h.e2
    split
    · rename_i h0
      have hj := addJ_zero h0
      refine ⟨hf.add, by rw [hn.1]; exact h.size, h.n2, by show 1 - v.half ≤ 1; omega, by show (addJ d (newHalf v) (1 :: base)).n = v.n; rw [hj]; rfl, by show 1 ≤ v.epoch + 1; omega, by show v.epoch + 1 < 2 ^ 32; omega, by show (addJ d (newHalf v) (1 :: base)).l.length ≠ 0; rw [hj]; show ([] ++ [1 :: base]).length ≠ 0; simp, fun b hb => ?_⟩
      have hb' : b ∈ (addJ d (newHalf v) (1 :: base)).l := hb
      rw [hj] at hb'
      have hb2 : b ∈ ([] : List (List UInt8)) ++ [1 :: base] := hb'
      have : b = 1 :: base := by simpa using hb2
      rw [this]; simp
    · exact (VFit.disk ⟨h.fit, h.size, h.n2, h.h1, h.jn, by show 1 ≤ v.epoch + 1; omega, by show v.epoch + 1 < 2 ^ 32; omega, h.one, h.each⟩ (d' := addDS d (newHalf v) (1 :: base)) hn.1 (by have := h.fit.armed; omega) : VFit _ { v with epoch := v.epoch + 1, dead := true })

theorem VFit.open_ {d : DS} (hs : vstopE d = 0) (hE : vopenE d = 0) (hd : d.n ≤ 20000) (ha : d.armed ≤ 9223372036854775807) (ht : topN d.now < 2 ^ 32) : VFit (vopenDS d) (vopenV d) := by
  have hst : 2 ≤ d.n / 2 ∧ d.off = false ∧ topN d.now ≠ 4294967295 := by
    unfold vstopE at hs
    by_cases q1 : d.n / 2 < 2
    · rw [if_pos q1] at hs; cases hs
    · rw [if_neg q1] at hs
      cases ho : d.off with
      | true => rw [ho] at hs; cases hs
      | false =>
        rw [ho, if_neg (by simp)] at hs
        refine ⟨by omega, rfl, fun q3 => ?_⟩
        rw [if_pos q3] at hs
        cases hs
  obtain ⟨q1, q2, q3⟩ := hst
  have E1 : newE d ((0 : Nat) : Int) ((d.n / 2 : Nat) : Int) (topN d.now + 1) = 0 := new_is (by omega) (by omega) (by omega) q2
  have E2 : newE d ((d.n / 2 : Nat) : Int) ((d.n / 2 : Nat) : Int) (topN d.now + 1) = 0 := new_is (by omega) (by omega) (by omega) q2
  have F1 := Fit.open_ E1 hd (by omega) ha
  have F2 := Fit.open_ E2 hd (by omega) ha
  have G1 := openJ_full d 0 (d.n / 2) (topN d.now + 1)
  have G2 := openJ_full d (d.n / 2) (d.n / 2) (topN d.now + 1)
  unfold vopenDS vopenV
  rw [if_neg (by omega)]
  cases hf : vfound d with
  | true =>
    have hb : (pickV d (d.n / 2) (topN d.now + 1)).2.begun ≠ 0 := of_decide_eq_true hf
    rw [if_pos rfl, if_pos rfl]
    unfold pickV at hb ⊢
    split at hb
    · rename_i hc
      rw [if_pos hc]
      exact ⟨F2, rfl, q1, Nat.le_refl 1, rfl, Nat.le_add_left _ _, by show topN d.now + 1 < 2 ^ 32; omega, fun e => hb (G2.2.1 e), G2.1⟩
    · rename_i hc
      rw [if_neg hc]
      exact ⟨F1, rfl, q1, Nat.zero_le 1, rfl, Nat.le_add_left _ _, by show topN d.now + 1 < 2 ^ 32; omega, fun e => hb (G1.2.1 e), G1.1⟩
  | false =>
    rw [if_neg (by simp), if_neg (by simp)]
    have hE' : addE d (blankJ 0 (d.n / 2) (topN d.now + 1)) [1] = 0 := by
      unfold vopenE at hE
      rw [if_neg (by omega), hf, if_neg (by simp)] at hE
      exact hE
    have hj := addJ_zero hE'
    have FB := (Fit.blank E1 hd (by omega) ha).add (b := [1])
    have hn := addDS_n d (blankJ 0 (d.n / 2) (topN d.now + 1)) [1]
    refine ⟨FB, by rw [hn.1], q1, Nat.zero_le 1, by show (addJ d _ [1]).n = _; rw [hj]; rfl, Nat.le_add_left _ _, by show topN d.now + 1 < 2 ^ 32; omega, by show (addJ d _ [1]).l.length ≠ 0; rw [hj]; show ([] ++ [[1]]).length ≠ 0; simp, fun b hb => ?_⟩
    have hb' : b ∈ (addJ d (blankJ 0 (d.n / 2) (topN d.now + 1)) [1]).l := hb
    rw [hj] at hb'
    have hb2 : b ∈ ([] : List (List UInt8)) ++ [[1]] := hb'
    have : b = [1] := by simpa using hb2
    rw [this]; simp

end Go.Proofs.Ytedgookkogpfbaa.Vt
