/- The mathematics of law 09's VaultTurns and VaultFull. -/
import Derived.Test.YtedgookkogpfbaaVtY
set_option maxRecDepth 100000
set_option linter.unusedVariables false
namespace Go.Proofs.Ytedgookkogpfbaa.Vt
open Lf (Leaf layB readB takesB markN)
open Dk (DS dsNew crashD startD armD)
open Jr

theorem comp_n {d : DS} {v : VS} {b : List UInt8} : (vcompDS d v b).n = d.n ∧ (vaddDS d v b).n = d.n := by
  constructor
  · unfold vcompDS
    split
    · rfl
    · exact (addDS_n ..).1
  · unfold vaddDS
    split
    · rfl
    · exact (addDS_n ..).1

/-! ### Turns -/
structure VT (d : DS) (v : VS) (base : List UInt8) (i : Nat) : Prop where
  fit : VFit d v
  armed : d.armed = 0
  live : VLive d v [(1 :: base, v.epoch)] v.epoch (1 :: base)
  half : v.half = i % 2
  n : v.n = 20
  epoch : v.epoch = 1 + i
  small : base.length ≤ 200

theorem VT.used {d : DS} {v : VS} {base : List UInt8} {i : Nat} (h : VT d v base i) : v.j.used = base.length / 46 + 1 ∧ v.j.l = [1 :: base] := by
  rw [h.live.j]
  refine ⟨?_, rfl⟩
  show needN (base.length + 1) + 0 = _
  unfold needN
  split <;> omega

theorem VT.new : vopenE (dsNew 40) = 0 ∧ VT (vopenDS (dsNew 40)) (vopenV (dsNew 40)) [] 0 := by
  obtain ⟨q1, q2, q3, q4, q5, q6, q7⟩ := vlive_new (m := 40) (n := 20) (by omega) rfl (by omega)
  obtain ⟨p1, p2⟩ := vk_new (n := 40) (by omega) (by omega)
  refine ⟨q1, p2.fit, q6, ?_, q3, q4, q5, Nat.zero_le _⟩
  rw [q5]
  exact q2

theorem VT.round {d : DS} {v : VS} {base b : List UInt8} {i : Nat} (h : VT d v base i) (hi : i < 20) (hb : b.length ≤ 200) (x : UInt8) :
    vaddE d v [x] = 0 ∧ vcompE (vaddDS d v [x]) (vaddV d v [x]) b = 0 ∧ VT (vcompDS (vaddDS d v [x]) (vaddV d v [x]) b) (vcompV (vaddDS d v [x]) (vaddV d v [x]) b) b (i + 1) := by
  have hn := h.n
  have he := h.epoch
  have hs := h.small
  have hh := h.half
  obtain ⟨a1, a2, a3, a4, a5, a6⟩ := h.live.add_calm h.fit h.armed (b := [x]) (by simp) (by simp) (by
    show needN 1 ≤ v.n - (needN (base.length + 1) + 0)
    have : needN (base.length + 1) ≤ 5 := by unfold needN; split <;> omega
    have : needN 1 = 1 := rfl
    omega)
  obtain ⟨c1, c2, c3, c4, c5, c6⟩ := a2.comp_calm h.fit.add a3 (base := b) (by omega) (by rw [a6]; omega) (by
    rw [a5, hn]
    have : needN (b.length + 1) ≤ 5 := by unfold needN; split <;> omega
    omega)
  refine ⟨a1, c1, h.fit.add.comp, c6, ?_, by rw [c3, a4, hh]; omega, by rw [c4, a5, hn], by rw [c5, a6, he]; omega, hb⟩
  rw [c5]
  exact c2

theorem VT.again {d : DS} {v : VS} {base : List UInt8} {i : Nat} (h : VT d v base i) (hi : i ≤ 20) : vopenE d = 0 ∧ vopenDS d = d ∧ (vopenV d).half = v.half ∧ (vopenV d).j.used = v.j.used ∧ (vopenV d).j.l = v.j.l := by
  have he := h.epoch
  obtain ⟨g0, g1, g2, g3, _⟩ := h.live.inv.reopen (by omega)
  exact ⟨g0, g1, g3, by rw [g2.j, h.live.j], by rw [g2.j, h.live.j]⟩

/-! ### Full -/
structure VF (d : DS) (v : VS) (n used count : Nat) : Prop where
  fit : VFit d v
  armed : d.armed = 0
  live : ∃ recs eb b0, VLive d v recs eb b0 ∧ total recs = used ∧ recs.length = count + 1
  n : v.n = n
  epoch : v.epoch = 1

theorem VF.told {d : DS} {v : VS} {n used count : Nat} (h : VF d v n used count) : v.j.used = used ∧ v.j.l.length = count + 1 := by
  obtain ⟨recs, eb, b0, h1, h2, h3⟩ := h.live
  rw [h1.j]
  exact ⟨h2, by show (recs.map (·.1)).length = _; rw [List.length_map]; exact h3⟩

theorem VF.new {m : Nat} (h4 : 4 ≤ m) (hm : m ≤ 20000) : vopenE (dsNew m) = 0 ∧ VF (vopenDS (dsNew m)) (vopenV (dsNew m)) (m / 2) 1 0 := by
  obtain ⟨q1, q2, q3, q4, q5, q6, q7⟩ := vlive_new (m := m) h4 rfl hm
  obtain ⟨p1, p2⟩ := vk_new h4 hm
  exact ⟨q1, p2.fit, q6, ⟨_, _, _, q2, rfl, rfl⟩, q4, q5⟩

theorem VF.add {d : DS} {v : VS} {n used count k : Nat} {b : List UInt8} (h : VF d v n used count) (hk : b.length = k) (h1 : 1 ≤ k) (h2 : k ≤ 400000) :
    (used + (k + 45) / 46 ≤ n → vaddE d v b = 0 ∧ VF (vaddDS d v b) (vaddV d v b) n (used + (k + 45) / 46) (count + 1)) ∧
    (¬ used + (k + 45) / 46 ≤ n → vaddE d v b = 6 ∧ vaddDS d v b = d ∧ vaddV d v b = v) := by
  obtain ⟨recs, eb, b0, hl, ht, hc⟩ := h.live
  have hn := h.n
  have hf := hl.inv.fits
  have hq : needN b.length = (k + 45) / 46 := by rw [hk]; unfold needN; split <;> omega
  refine ⟨fun hr => ?_, fun hr => ?_⟩
  · obtain ⟨a1, a2, a3, a4, a5, a6⟩ := hl.add_calm h.fit h.armed (b := b) (by omega) (by omega) (by omega)
    exact ⟨a1, h.fit.add, a3, ⟨_, _, _, a2, by rw [total_more, ht, hq], by rw [List.length_append, hc]; rfl⟩, by rw [a5, hn], by rw [a6]; exact h.epoch⟩
  · exact hl.add_full (by omega) (by omega) (by omega)

theorem VF.comp {d : DS} {v : VS} {n used count : Nat} {b : List UInt8} (h : VF d v n used count) (h2 : b.length < 400000) :
    (b.length / 46 + 1 ≤ n → vcompE d v b = 0 ∧ (vcompV d v b).j.used = b.length / 46 + 1 ∧ (vcompV d v b).j.l = [1 :: b]) ∧
    (¬ b.length / 46 + 1 ≤ n → vcompE d v b = 6 ∧ vcompDS d v b = d ∧ vcompV d v b = v) := by
  obtain ⟨recs, eb, b0, hl, ht, hc⟩ := h.live
  have hn := h.n
  have he := h.epoch
  have hq : needN (b.length + 1) = b.length / 46 + 1 := by unfold needN; split <;> omega
  refine ⟨fun hr => ?_, fun hr => ?_⟩
  · obtain ⟨c1, c2, c3, c4, c5, c6⟩ := hl.comp_calm h.fit h.armed (base := b) h2 (by omega) (by omega)
    refine ⟨c1, ?_, by rw [c2.j]; rfl⟩
    rw [c2.j]
    show needN (b.length + 1) + 0 = _
    omega
  · exact hl.comp_full h2 (by omega) (by omega)

end Go.Proofs.Ytedgookkogpfbaa.Vt
