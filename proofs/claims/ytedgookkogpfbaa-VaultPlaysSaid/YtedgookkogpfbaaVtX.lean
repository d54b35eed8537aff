/- A vault on a new disk; a vault on a disk that is not armed. -/
import Derived.Test.YtedgookkogpfbaaVtQ
set_option maxRecDepth 100000
set_option linter.unusedVariables false
namespace Go.Proofs.Ytedgookkogpfbaa.Vt
open Lf (Leaf layB readB takesB markN)
open Dk (DS dsNew)
open Jr

theorem new_secs {m : Nat} (o i : Nat) (h : o + i < m) : secs (dsNew m) o i = Se.noughts := by
  show (Se.blanks m).getD (o + i) [] = _
  rw [List.getD, Se.blanks, List.getElem?_replicate, if_pos h]
  rfl

theorem new_n (m : Nat) : (dsNew m).n = m := by show (Se.blanks m).length = m; simp [Se.blanks]

theorem new_top (m : Nat) : topN (dsNew m).now = 0 := Nat.le_zero.1 (top_le fun s hs => by
  have hs' : s ∈ Se.blanks m := hs
  rw [Se.blanks] at hs'
  rw [List.eq_of_mem_replicate hs']
  exact (mk_noughts 0).mark)

theorem new_begun {m o n : Nat} (h : o + n ≤ m) (hn : n < 2 ^ 32) : (openN (secs (dsNew m) o) n).begun = 0 := by
  rw [(sound_new (e := 1) h (Nat.le_refl _)).open_ (by decide) hn]
  rfl

theorem vlive_new {m n : Nat} (h4 : 4 ≤ m) (hn : m / 2 = n) (hs : m ≤ 20000) :
    vopenE (dsNew m) = 0 ∧ VLive (vopenDS (dsNew m)) (vopenV (dsNew m)) [([1], 1)] 1 [1] ∧ (vopenV (dsNew m)).half = 0 ∧ (vopenV (dsNew m)).n = n ∧ (vopenV (dsNew m)).epoch = 1 ∧ (vopenDS (dsNew m)).armed = 0 ∧ (vopenDS (dsNew m)).n = m := by
  have hN := new_n m
  have hT := new_top m
  have h2n : 2 * n ≤ m := by omega
  have hvs : vstopE (dsNew m) = 0 := by
    unfold vstopE
    rw [hN, hT, if_neg (by omega), show (dsNew m).off = false from rfl, if_neg (by simp), if_neg (by decide)]
  have hpk : pickV (dsNew m) n 1 = (0, openJ (dsNew m) 0 n 1) := by
    unfold pickV
    rw [if_neg ?_]
    show ¬ (openN (secs (dsNew m) 0) n).begun < (openN (secs (dsNew m) n) n).begun
    rw [new_begun (by omega) (by omega), new_begun (by omega) (by omega)]
    omega
  have hvf : vfound (dsNew m) = false := by
    unfold vfound
    rw [hN, hT, hn, hpk]
    show decide ((openN (secs (dsNew m) 0) n).begun ≠ 0) = false
    rw [new_begun (by omega) (by omega)]
    rfl
  have e1 : vopenE (dsNew m) = addE (dsNew m) (blankJ 0 n 1) [1] := by unfold vopenE; rw [if_neg (by omega), hvf, hN, hT, hn]; rfl
  have e2 : vopenDS (dsNew m) = addDS (dsNew m) (blankJ 0 n 1) [1] := by unfold vopenDS; rw [if_neg (by omega), hvf, hN, hT, hn]; rfl
  have e3 : vopenV (dsNew m) = ⟨0, n, 1, addJ (dsNew m) (blankJ 0 n 1) [1], false⟩ := by unfold vopenV; rw [hvf, hN, hT, hn]; rfl
  have h1 : needN [(1 : UInt8)].length = 1 := by decide
  have hfit : Fit (dsNew m) (blankJ 0 n 1) := ⟨by rw [hN]; show 0 + n ≤ m; omega, by rw [hN]; exact hs, Nat.zero_le _, Nat.le_refl _, fun b hb => (by cases hb), Nat.le_refl _, by show 1 < 2 ^ 32; omega, Nat.zero_le _⟩
  obtain ⟨q1, q2, q3⟩ := calm_ok (b := [1]) hfit rfl rfl rfl (by decide) (by decide) (by rw [h1]; show 1 ≤ n - 0; omega)
  have hok : (dsNew m).Ok := (sound_new (m := m) (o := 0) (n := 0) (e := 1) (by omega) (Nat.le_refl _)).ok
  have hdry := (sound_new (m := m) (o := 0) (n := 0) (e := 1) (by omega) (Nat.le_refl _)).dry
  rcases add_three (d := dsNew m) (j := blankJ 0 n 1) (b := [1]) hok hdry rfl rfl (by rw [hN]; show 0 + n ≤ m; omega) (Nat.zero_le _) (by decide) (by decide) with ⟨g0, g1, g2, g3, g4, g5, g6, g7⟩ | ⟨g0, _⟩ | ⟨g0, _⟩
  · rw [e1, e2, e3]
    rw [hN] at g6
    refine ⟨g0, ⟨?_, ?_, rfl⟩, rfl, rfl, rfl, q3, g6⟩
    · generalize addDS (dsNew m) (blankJ 0 n 1) [1] = d' at g2 g3 g4 g5 g6 g7
      have hsec : sectJ (blankJ 0 n 1) [1] = fun i => layB (leafN 1 0 [1] i) := by funext i; unfold sectJ blankJ; rfl
      have ht : total [([(1 : UInt8)], 1)] = 1 := rfl
      have T : ∀ i, secs d' 0 i = if i < 1 then layB (leafN 1 0 [1] i) else secs (dsNew m) 0 i := fun i => by
        rw [g7 i, hsec, h1]
        show (if 0 + 0 ≤ i ∧ i < 0 + 0 + 1 then _ else _) = _
        by_cases hc : i < 1
        · rw [if_pos (by omega), if_pos hc]
          rfl
        · rw [if_neg (by omega), if_neg hc]
      have T0 : ∀ i, secs d' (0 * n) i = if i < 1 then layB (leafN 1 0 [1] i) else secs (dsNew m) 0 i := fun i => by rw [Nat.zero_mul]; exact T i
      have Z : ∀ i, 1 ≤ i → i < n → secs d' (0 * n) i = Se.noughts := fun i k1 k2 => by rw [T0, if_neg (by omega), new_secs 0 i (by omega)]
      refine ⟨g2, g3, g4, g5, by rw [g6]; exact hn, by show 2 ≤ n; omega, Nat.zero_le _, ⟨[], rfl⟩, ⟨by decide, Nat.le_refl _, Nat.le_refl _, Nat.le_refl _, trivial⟩, ⟨fun i hi => ?_, trivial⟩, by rw [ht]; show 1 ≤ n; omega, fun i k1 k2 k3 => ?_, fun i k1 k2 => ?_, fun k E hk hR => ?_, ?_, fun i hi => ?_, Nat.le_refl _, by show 1 ≤ 250; omega, by show n ≤ 20000; omega⟩
      · have hi' : i < 1 := hi
        rw [Nat.zero_add]
        show secs d' (0 * n) i = _
        rw [T0, if_pos hi']
      · rw [ht] at k1
        have k3' : takesB (secs d' (0 * n) i) = true := k3
        rw [Z i k1 k2, Lf.takes_noughts] at k3'
        cases k3'
      · rw [ht] at k1
        show Low 1 (secs d' (0 * n) i)
        rw [Z i k1 k2]
        exact low_noughts (Nat.le_refl _)
      · have t := (hR.each 0 (Nat.le_refl _) hR.le).1
        have hk' : k < n - 1 := hk
        have t' : takesB (secs d' (0 * n) (1 + 0)) = true := t
        rw [Z (1 + 0) (by omega) (by omega), Lf.takes_noughts] at t'
        cases t'
      · show (openN (secs d' ((1 - 0) * n)) n).begun < 1
        have hc : openN (secs d' ((1 - 0) * n)) n = openN (secs (dsNew m) n) n := openN_congr fun i hi => by
          rw [show (1 - 0) * n = n by omega, secs_zero d', T, if_neg (by omega), secs_zero (dsNew m)  n]
        rw [hc, new_begun (by omega) (by omega)]
        exact Nat.zero_lt_one
      · rw [T]
        split
        · rename_i hc
          have : i = 0 := by omega
          subst this
          exact mk_lay (leafN 1 0 [1] 0) (by decide) (by decide)
        · rw [new_secs 0 i (by omega)]
          exact mk_noughts 1
    · show addJ (dsNew m) (blankJ 0 n 1) [1] = _
      rw [addJ_zero g0]
      show (⟨0, n, 1, [] ++ [[1]], if ([] : List (List UInt8)).length = 0 then 1 else 0, 0 + needN [(1 : UInt8)].length, false⟩ : JS) = ⟨0 * n, n, 1, [[1]], 1, 1, false⟩
      rw [h1, Nat.zero_mul]
      rfl
  · omega
  · omega

section
variable {d : DS} {v : VS} {recs : Recs} {eb : Nat} {b0 b base : List UInt8}

/-- An Add on a disk that is not armed: there is room, or not. -/
theorem VLive.add_calm (h : VLive d v recs eb b0) (hf : VFit d v) (ha : d.armed = 0) (h1 : 1 ≤ b.length) (h2 : b.length ≤ 400000) (hr : needN b.length ≤ v.n - total recs) :
    vaddE d v b = 0 ∧ VLive (vaddDS d v b) (vaddV d v b) (recs ++ [(b, v.epoch)]) eb b0 ∧ (vaddDS d v b).armed = 0 ∧ (vaddV d v b).half = v.half ∧ (vaddV d v b).n = v.n ∧ (vaddV d v b).epoch = v.epoch := by
  have hcond : (v.dead || d.off) = false := by rw [h.alive, h.inv.on]; rfl
  have hjd : v.j.dead = false := by rw [h.j]
  have hjr : needN b.length ≤ v.j.n - v.j.used := by rw [h.j]; exact hr
  obtain ⟨q1, q2, q3⟩ := calm_ok hf.fit h.inv.on ha hjd h1 h2 hjr
  have e1 : vaddE d v b = addE d v.j b := by unfold vaddE; rw [hcond]; rfl
  have e2 : vaddDS d v b = addDS d v.j b := by unfold vaddDS; rw [hcond]; rfl
  have e3 : vaddV d v b = { v with j := addJ d v.j b, dead := decide (addE d v.j b = 9) } := by unfold vaddV; rw [hcond]; rfl
  rcases h.add h1 h2 with ⟨k1, k2⟩ | ⟨k1, _⟩ | ⟨k1, _⟩
  · exact ⟨k1, k2, by rw [e2]; exact q3, by rw [e3], by rw [e3], by rw [e3]⟩
  · omega
  · omega

theorem VLive.add_full (h : VLive d v recs eb b0) (h1 : 1 ≤ b.length) (h2 : b.length ≤ 400000) (hr : v.n - total recs < needN b.length) : vaddE d v b = 6 ∧ vaddDS d v b = d ∧ vaddV d v b = v := by
  have hcond : (v.dead || d.off) = false := by rw [h.alive, h.inv.on]; rfl
  have hjd : v.j.dead = false := by rw [h.j]
  have hjr : v.j.n - v.j.used < needN b.length := by rw [h.j]; exact hr
  obtain ⟨q1, q2, q3⟩ := calm_full (d := d) h.inv.on hjd h1 h2 hjr
  have e1 : vaddE d v b = addE d v.j b := by unfold vaddE; rw [hcond]; rfl
  have e2 : vaddDS d v b = addDS d v.j b := by unfold vaddDS; rw [hcond]; rfl
  have e3 : vaddV d v b = { v with j := addJ d v.j b, dead := decide (addE d v.j b = 9) } := by unfold vaddV; rw [hcond]; rfl
  refine ⟨by rw [e1]; exact q1, by rw [e2]; exact q2, ?_⟩
  rw [e3, q1, q3]
  have := h.alive
  cases v
  simp at this
  subst this
  rfl

/-- A Compact on a disk that is not armed. -/
theorem VLive.comp_calm (h : VLive d v recs eb b0) (hf : VFit d v) (ha : d.armed = 0) (h2 : base.length < 400000) (he : v.epoch ≤ 248) (hr : needN (base.length + 1) ≤ v.n) :
    vcompE d v base = 0 ∧ VLive (vcompDS d v base) (vcompV d v base) [(1 :: base, v.epoch + 1)] (v.epoch + 1) (1 :: base) ∧ (vcompV d v base).half = 1 - v.half ∧ (vcompV d v base).n = v.n ∧ (vcompV d v base).epoch = v.epoch + 1 ∧ (vcompDS d v base).armed = 0 := by
  have hcond : (v.dead || d.off) = false := by rw [h.alive, h.inv.on]; rfl
  have hs : cstopE d v base = 0 := by
    unfold cstopE
    rw [hcond, if_neg (by simp), if_neg (by omega), if_neg (by omega)]
  have e2 : vcompDS d v base = addDS d (newHalf v) (1 :: base) := by unfold vcompDS; rw [if_neg (by omega)]
  have e1 : vcompE d v base = if addE d (newHalf v) (1 :: base) = 0 then 0 else 9 := by unfold vcompE; rw [if_neg (by omega)]
  obtain ⟨hNE, hNF⟩ := new_half hf h.inv.on (by omega)
  obtain ⟨q1, q2, q3⟩ := calm_ok (b := 1 :: base) hNF h.inv.on ha rfl (by simp) (by simp; omega) (by show needN (base.length + 1) ≤ v.n - 0; omega)
  rw [q1, if_pos rfl] at e1
  rcases h.comp (base := base) h2 he with ⟨k1, k2, k3, k4, k5, k6⟩ | ⟨k1, _⟩ | ⟨k1, _⟩
  · exact ⟨k1, k3, k4, k5, k6, by rw [e2]; exact q3⟩
  · omega
  · omega

theorem VLive.comp_full (h : VLive d v recs eb b0) (h2 : base.length < 400000) (he : v.epoch ≤ 248) (hr : v.n < needN (base.length + 1)) : vcompE d v base = 6 ∧ vcompDS d v base = d ∧ vcompV d v base = v := by
  have hcond : (v.dead || d.off) = false := by rw [h.alive, h.inv.on]; rfl
  have hs : cstopE d v base = 6 := by
    unfold cstopE
    rw [hcond, if_neg (by simp), if_neg (by omega), if_pos (by omega)]
  exact ⟨by unfold vcompE; rw [hs, if_pos (by decide)], by unfold vcompDS; rw [hs, if_pos (by decide)], by unfold vcompV; rw [hs, if_neg (by decide), if_pos (by decide)]⟩
end

end Go.Proofs.Ytedgookkogpfbaa.Vt
