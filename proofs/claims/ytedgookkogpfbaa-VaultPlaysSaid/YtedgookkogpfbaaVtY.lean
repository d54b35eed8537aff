/- What stays of a vault, said by its base and its records: the mathematics of law 09's VaultKeeps. -/
import Derived.Test.YtedgookkogpfbaaVtX
set_option maxRecDepth 100000
set_option linter.unusedVariables false
namespace Go.Proofs.Ytedgookkogpfbaa.Vt
open Lf (Leaf layB readB takesB markN)
open Dk (DS dsNew crashD startD armD)
open Jr

/-- A vault that lives, with this base and these records. -/
structure VK (d : DS) (v : VS) (base : List UInt8) (all : List (List UInt8)) (m : Nat) : Prop where
  fit : VFit d v
  live : ∃ recs eb, VLive d v recs eb (1 :: base) ∧ recs.map (·.1) = (1 :: base) :: all
  epoch : v.epoch ≤ m

/-- What stands on a disk: this base and these records, or those. -/
def VB (d : DS) (base : List UInt8) (all : List (List UInt8)) (nb : List UInt8) (nx : List (List UInt8)) : Prop :=
  ∃ h n e recs eb b0, VInv d h n e recs eb b0 ∧ e ≤ 249 ∧ (recs.map (·.1) = (1 :: base) :: all ∨ recs.map (·.1) = (1 :: nb) :: nx)

section
variable {d : DS} {v : VS} {base b nb : List UInt8} {all nx : List (List UInt8)} {m : Nat}

theorem vadd_epoch (d : DS) (v : VS) (b : List UInt8) : (vaddV d v b).epoch = v.epoch := by
  unfold vaddV
  split <;> rfl

theorem VK.l (h : VK d v base all m) : v.j.l = (1 :: base) :: all := by
  obtain ⟨recs, eb, h1, h2⟩ := h.live
  rw [h1.j]
  exact h2

theorem VK.add (h : VK d v base all m) (h1 : 1 ≤ b.length) (h2 : b.length ≤ 400000) (hm : m ≤ 248) :
    (vaddE d v b = 0 ∧ VK (vaddDS d v b) (vaddV d v b) base (all ++ [b]) m) ∨ (vaddE d v b = 6 ∧ vaddDS d v b = d ∧ vaddV d v b = v) ∨
    (vaddE d v b = 9 ∧ ∀ kn kf, VB (startD (crashD (vaddDS d v b) kn kf)) base all base (all ++ [b])) := by
  obtain ⟨recs, eb, hl, hr⟩ := h.live
  have he := h.epoch
  rcases hl.add h1 h2 with ⟨g0, g1⟩ | ⟨g0, g1, g2, _⟩ | ⟨g0, g1⟩
  · exact .inl ⟨g0, h.fit.add, ⟨_, _, g1, by rw [List.map_append, hr]; rfl⟩, by rw [vadd_epoch]; exact he⟩
  · exact .inr (.inl ⟨g0, g1, g2⟩)
  · refine .inr (.inr ⟨g0, fun kn kf => ?_⟩)
    obtain ⟨recs', q1, q2⟩ := g1 (by omega) kn kf
    refine ⟨_, _, _, _, _, _, q2, by omega, ?_⟩
    rcases q1 with rfl | rfl
    · exact .inl hr
    · exact .inr (by rw [List.map_append, hr]; rfl)

theorem VK.comp (h : VK d v base all m) (h2 : b.length < 400000) (hm : m ≤ 247) :
    (vcompE d v b = 0 ∧ VK (vcompDS d v b) (vcompV d v b) b [] (m + 1)) ∨ (vcompE d v b = 6 ∧ vcompDS d v b = d ∧ vcompV d v b = v) ∨
    (vcompE d v b = 9 ∧ ∀ kn kf, VB (startD (crashD (vcompDS d v b) kn kf)) base all b []) := by
  obtain ⟨recs, eb, hl, hr⟩ := h.live
  have he := h.epoch
  rcases hl.comp h2 (by omega) with ⟨g0, _, g1, _, _, g2⟩ | ⟨g0, g1, g2, _⟩ | ⟨g0, g1⟩
  · exact .inl ⟨g0, h.fit.comp, ⟨_, _, g1, rfl⟩, by rw [g2]; omega⟩
  · exact .inr (.inl ⟨g0, g1, g2⟩)
  · refine .inr (.inr ⟨g0, fun kn kf => ?_⟩)
    rcases g1 kn kf with q | q
    · exact ⟨_, _, _, _, _, _, q, by omega, .inl hr⟩
    · exact ⟨_, _, _, _, _, _, q, by omega, .inr rfl⟩

theorem VK.still (h : VK d v base all m) (hm : m ≤ 249) (kn : Nat) (kf : Nat → Int) : VB (startD (crashD d kn kf)) base all nb nx := by
  obtain ⟨recs, eb, hl, hr⟩ := h.live
  have he := h.epoch
  exact ⟨_, _, _, _, _, _, crash_still' hl.inv kn kf, by omega, .inl hr⟩

theorem VK.arm (h : VK d v base all m) (k : Int) (hk : k ≤ 9223372036854775807) : VK (armD d k) v base all m := by
  obtain ⟨recs, eb, hl, hr⟩ := h.live
  have hv := hl.inv
  exact ⟨h.fit.disk rfl (by show k.toNat ≤ _; omega), ⟨recs, eb, ⟨hv.same ⟨hv.ok.now, hv.ok.sure, hv.ok.len, hv.ok.lens⟩ hv.dry hv.eq hv.on rfl (fun _ _ => rfl), hl.j, hl.alive⟩, hr⟩, h.epoch⟩

theorem VB.arm (h : VB d base all nb nx) (k : Int) : VB (armD d k) base all nb nx := by
  obtain ⟨hh, n, e, recs, eb, b0, hv, he, hr⟩ := h
  exact ⟨hh, n, e, recs, eb, b0, hv.same ⟨hv.ok.now, hv.ok.sure, hv.ok.len, hv.ok.lens⟩ hv.dry hv.eq hv.on rfl (fun _ _ => rfl), he, hr⟩

/-- What is opened, and once more. -/
theorem VB.open_ (h : VB d base all nb nx) : vopenE d = 0 ∧ vopenDS d = d ∧ d.off = false ∧ ((vopenV d).j.l = (1 :: base) :: all ∨ (vopenV d).j.l = (1 :: nb) :: nx) := by
  obtain ⟨hh, n, e, recs, eb, b0, hv, he, hr⟩ := h
  obtain ⟨g0, g1, g2, _⟩ := hv.reopen he
  refine ⟨g0, g1, hv.on, ?_⟩
  rw [g2.j]
  exact hr

theorem vk_new {n : Nat} (h4 : 4 ≤ n) (hs : n ≤ 20000) : vopenE (dsNew n) = 0 ∧ VK (vopenDS (dsNew n)) (vopenV (dsNew n)) [] [] 1 := by
  obtain ⟨q1, q2, q3, q4, q5, q6, q7⟩ := vlive_new (m := n) h4 rfl hs
  have hvs : vstopE (dsNew n) = 0 := by
    unfold vstopE
    rw [new_n, new_top, if_neg (by omega), show (dsNew n).off = false from rfl, if_neg (by simp), if_neg (by decide)]
  exact ⟨q1, VFit.open_ hvs q1 (by rw [new_n]; exact hs) (Nat.zero_le _) (by rw [new_top]; omega), ⟨_, _, q2, rfl⟩, by omega⟩
end

end Go.Proofs.Ytedgookkogpfbaa.Vt
