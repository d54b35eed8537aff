/- Vaults as mathematics: what a sound one is; an Add, a Compact, a crash in the midst of either. -/
import Derived.Test.YtedgookkogpfbaaVtM
set_option maxRecDepth 100000
set_option linter.unusedVariables false
namespace Go.Proofs.Ytedgookkogpfbaa.Vt
open Lf (Leaf layB readB takesB markN cut cut_at val4 be4)
open Dk (DS mix mixS crashD startD armD dsNew keeps)
open Jr

/-- The half that counts, h, of n sectors; the records there, the first of which has epoch eb. -/
structure VInv (d : DS) (h n e : Nat) (recs : Recs) (eb : Nat) (b0 : List UInt8) : Prop where
  ok : d.Ok
  dry : ∀ i, d.loose.getD i false = false
  eq : d.sure = d.now
  on : d.off = false
  size : d.n / 2 = n
  n2 : 2 ≤ n
  h1 : h ≤ 1
  head : ∃ rest, recs = (b0, eb) :: rest
  rise : Rise e 1 recs
  stand : Stand (secs d (h * n)) 0 0 recs
  fits : total recs ≤ n
  beyond : ∀ i, total recs ≤ i → i < n → takesB (secs d (h * n) i) = true → (readB (secs d (h * n) i)).number ≤ recs.length ∨ (readB (secs d (h * n) i)).epoch < eb
  low : ∀ i, total recs ≤ i → i < n → Low e (secs d (h * n) i)
  stop : ∀ k E, k < n - total recs → ¬ Run (fun i => secs d (h * n) (total recs + i)) recs.length (lastE 1 recs) 0 k E
  other : (openN (secs d ((1 - h) * n)) n).begun < eb
  marks : ∀ i, i < d.n → Mk e (secs d 0 i)
  e1 : 1 ≤ e
  e2 : e ≤ 250
  small : n ≤ 20000

theorem secs_zero (d : DS) (o i : Nat) : secs d o i = secs d 0 (o + i) := by unfold secs; rw [Nat.zero_add]

theorem rise_head {e b eb : Nat} {l : List UInt8} {t : Recs} (h : Rise e b ((l, eb) :: t)) : 1 ≤ eb ∧ eb ≤ e ∧ eb ≤ lastE 1 ((l, eb) :: t) := by
  obtain ⟨h1, h2, h3, h4, h5⟩ := h
  exact ⟨h2, h4, (lastE_le t eb h5).1⟩

section
variable {d d' : DS} {h n e eb : Nat} {recs : Recs} {b0 : List UInt8}

theorem VInv.epochs (v : VInv d h n e recs eb b0) : 1 ≤ eb ∧ eb ≤ e ∧ eb ≤ lastE 1 recs ∧ lastE 1 recs ≤ e := by
  obtain ⟨t, ht⟩ := v.head
  have h1 := v.rise
  have h2 := (lastE_le recs 1 v.rise).2 v.e1
  rw [ht] at h1
  obtain ⟨q1, q2, q3⟩ := rise_head h1
  rw [ht] at h2 ⊢
  exact ⟨q1, q2, q3, h2⟩

theorem VInv.room (v : VInv d h n e recs eb b0) : h * n + n ≤ d.n ∧ (1 - h) * n + n ≤ d.n ∧ 2 * n ≤ d.n := by
  have := v.size
  have h1 := v.h1
  have h2 : 2 * n ≤ d.n := by omega
  rcases Nat.le_one_iff_eq_zero_or_eq_one.1 h1 with rfl | rfl
  · refine ⟨by omega, ?_, h2⟩; simp; omega
  · refine ⟨by omega, ?_, h2⟩; simp; omega

theorem VInv.len (v : VInv d h n e recs eb b0) : recs.length ≤ total recs ∧ recs.length < 2 ^ 32 := by
  have h1 := rise_len recs 1 v.rise
  have := v.fits
  have := v.small
  exact ⟨h1, by omega⟩

/-- What the half that counts tells, opened. -/
theorem VInv.open_ (v : VInv d h n e recs eb b0) : openN (secs d (h * n)) n = ⟨recs.map (·.1), eb, total recs, lastE 1 recs⟩ := by
  have hl := v.len
  have hf := v.fits
  have := open_stand (S := secs d (h * n)) (n := n) (top := e) (by have := v.e2; omega) recs Rd.none n (by show n - 0 ≤ n; omega) v.stand v.rise (by show 0 + total recs ≤ n; omega) (by show 0 + recs.length < 2 ^ 32; omega)
    (by
      show ∀ k E, k < n - (0 + total recs) → ¬ Run (fun i => secs d (h * n) (0 + total recs + i)) (0 + recs.length) (lastE 1 recs) 0 k E
      rw [Nat.zero_add, Nat.zero_add]
      exact v.stop)
  unfold openN
  rw [this]
  show Rd.mk ([] ++ recs.map (·.1)) (begunOf [] 0 recs) (0 + total recs) (lastE 1 recs) = _
  rw [List.nil_append, Nat.zero_add]
  obtain ⟨t, ht⟩ := v.head
  rw [ht]
  rfl

/-- Epochs that stand in records are marks. -/
theorem stand_rise {S : Nat → List UInt8} {e t : Nat} (he : e < 2 ^ 32) : ∀ (recs : Recs) (at_ m least : Nat), Stand S at_ m recs → Rise e least recs → (∀ i, at_ ≤ i → i < at_ + total recs → markN (S i) ≤ t) → Rise t least recs
  | [], _, _, _, _, _, _ => trivial
  | (b, x) :: r, at_, m, least, hs, hr, hm => by
    obtain ⟨h1, h2, h3, h4, h5⟩ := hr
    have h1' : 1 ≤ b.length := h1
    have h4' : x ≤ e := h4
    have hp := need_pos h1'
    have ht : total ((b, x) :: r) = needN b.length + total r := rfl
    have q := hs.1 0 hp
    have q' : S (at_ + 0) = layB (leafN x m b 0) := q
    have hmk := hm (at_ + 0) (by omega) (by rw [ht]; omega)
    rw [q', Lf.mark_lay _ (by rw [leaf_len hp]; omega) (by show x < 2 ^ 32; omega)] at hmk
    exact ⟨h1, h2, h3, hmk, stand_rise he r (at_ + needN b.length) (m + 1) x hs.2 h5 fun i g1 g2 => hm i (by omega) (by rw [ht]; omega)⟩

/-- The same vault, with the epoch that Open finds. -/
theorem VInv.at_top (v : VInv d h n e recs eb b0) (ht : topN d.now ≤ 249) : VInv d h n (topN d.now + 1) recs eb b0 := by
  have hr := v.room
  have hin : ∀ i, i < d.n → secs d 0 i ∈ d.now := fun i hi => by
    unfold secs
    have hi' : i < d.now.length := hi
    rw [Nat.zero_add, List.getD, List.getElem?_eq_getElem hi']
    exact List.getElem_mem hi'
  have hmk : ∀ i, i < d.n → Mk (topN d.now) (secs d 0 i) := fun i hi => mk_of (v.marks i hi).len (le_top (hin i hi)) (by omega)
  refine ⟨v.ok, v.dry, v.eq, v.on, v.size, v.n2, v.h1, v.head, ?_, v.stand, v.fits, v.beyond, fun i h1 h2 => ?_, v.stop, v.other, fun i hi => (hmk i hi).mono (by omega), by omega, by omega, v.small⟩
  · refine rise_top (show topN d.now ≤ topN d.now + 1 by omega) recs 1 (stand_rise (by have := v.e2; omega) recs 0 0 1 v.stand v.rise fun i h1 h2 => ?_)
    rw [secs_zero]
    exact (hmk _ (by have := v.fits; omega)).mark
  · rw [secs_zero]
    exact (hmk _ (by omega)).low

theorem VInv.topLe (v : VInv d h n e recs eb b0) : topN d.now ≤ e := top_le fun s hs => by
  obtain ⟨i, hi, rfl⟩ := List.getElem_of_mem hs
  have := (v.marks i hi).mark
  unfold secs at this
  rw [Nat.zero_add, List.getD, List.getElem?_eq_getElem hi] at this
  exact this

/-- Sectors as they were, all sure: the same vault. -/
theorem VInv.same (v : VInv d h n e recs eb b0) (ok : d'.Ok) (dry : ∀ i, d'.loose.getD i false = false) (eq : d'.sure = d'.now) (on : d'.off = false) (hn : d'.n = d.n) (hs : ∀ i, i < d.n → secs d' 0 i = secs d 0 i) : VInv d' h n e recs eb b0 := by
  have hr := v.room
  have T : ∀ i, i < n → secs d' (h * n) i = secs d (h * n) i := fun i hi => by rw [secs_zero d', secs_zero d]; exact hs _ (by omega)
  have U : ∀ i, i < n → secs d' ((1 - h) * n) i = secs d ((1 - h) * n) i := fun i hi => by rw [secs_zero d', secs_zero d]; exact hs _ (by omega)
  have hf := v.fits
  refine ⟨ok, dry, eq, on, by rw [hn]; exact v.size, v.n2, v.h1, v.head, v.rise, stand_same recs 0 0 v.stand fun i h1 h2 => T i (by omega), v.fits, fun i h1 h2 => by rw [T i h2]; exact v.beyond i h1 h2, fun i h1 h2 => by rw [T i h2]; exact v.low i h1 h2, fun k E hk hR => v.stop k E hk ?_, by rw [openN_congr U]; exact v.other, fun i hi => by rw [hs i (by omega)]; exact v.marks i (by omega), v.e1, v.e2, v.small⟩
  refine ⟨hR.le, fun j q1 q2 => ?_, hR.least, fun j q1 q2 => ?_, ?_⟩
  · have := hR.each j q1 q2
    rwa [T (total recs + j) (by omega)] at this
  · have := hR.on j q1 q2
    rwa [T (total recs + j) (by omega)] at this
  · have := hR.last
    rwa [T (total recs + k) (by omega)] at this
end

/-! ### A crash -/
/-- What a crash leaves of a disk of which all was sure, and then so many sectors were written. -/
theorem crash_under {d d1 : DS} {at_ w : Nat} {f : Nat → List UInt8} (heq : d.sure = d.now) (hu : Under d d1 at_ f w) (kn : Nat) (kf : Nat → Int) :
    (startD (crashD d1 kn kf)).Ok ∧ (∀ i, (startD (crashD d1 kn kf)).loose.getD i false = false) ∧ (startD (crashD d1 kn kf)).sure = (startD (crashD d1 kn kf)).now ∧ (startD (crashD d1 kn kf)).off = false ∧ (startD (crashD d1 kn kf)).n = d.n ∧
    ∃ kk : Nat → Nat, (∀ i, kk i ≤ 64) ∧ ∀ j, secs (startD (crashD d1 kn kf)) 0 j = if at_ ≤ j ∧ j < at_ + w then mix (f (j - at_)) (secs d 0 j) (kk j) else secs d 0 j := by
  obtain ⟨a1, a2, a3, a4, a5, a6⟩ := again_told hu.ok kn kf
  have T := crash_told hu.ok kn kf
  refine ⟨a1, a4, ?_, a5, a6.trans hu.n, fun j => keeps kn kf (Dk.rank d1.loose j), fun i => Dk.keeps_le _ _ _, fun j => ?_⟩
  · rw [a2, a3]
    refine List.ext_getElem? fun j => ?_
    rw [(T j).1, (T j).2.1, hu.loose j, hu.now j, hu.sure, heq]
    by_cases hc : at_ ≤ j ∧ j < at_ + w
    · rw [decide_eq_true hc]; rfl
    · rw [decide_eq_false hc, if_neg hc]
  · show (startD (crashD d1 kn kf)).now.getD (0 + j) [] = _
    rw [a2, Nat.zero_add, List.getD, (T _).1, hu.loose, hu.now]
    by_cases hc : at_ ≤ j ∧ j < at_ + w
    · rw [decide_eq_true hc, if_pos rfl, if_pos hc]
      show mix (d1.now.getD j []) (d1.sure.getD j []) _ = mix _ (d.now.getD (0 + j) []) _
      rw [List.getD, hu.now, if_pos hc, hu.sure, heq, Nat.zero_add]
      rfl
    · rw [decide_eq_false hc, if_neg (by simp), if_neg hc, if_neg hc]
      show _ = d.now.getD (0 + j) []
      rw [Nat.zero_add]
      rfl

theorem crash_still' {d : DS} {h n e eb : Nat} {recs : Recs} {b0 : List UInt8} (v : VInv d h n e recs eb b0) (kn : Nat) (kf : Nat → Int) : VInv (startD (crashD d kn kf)) h n e recs eb b0 := by
  obtain ⟨q1, q2, q3, q4, q5, kk, _, q6⟩ := crash_under (d := d) (d1 := d) (at_ := 0) (w := 0) (f := fun _ => []) v.eq (under_zero v.ok v.dry) kn kf
  exact v.same q1 q2 q3 q4 q5 fun i hi => by rw [q6 i, if_neg (by omega)]

end Go.Proofs.Ytedgookkogpfbaa.Vt
