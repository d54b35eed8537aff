/- Vaults as mathematics: what an Add and a Compact leave, whole or torn. -/
import Derived.Test.YtedgookkogpfbaaVtN
set_option maxRecDepth 100000
set_option linter.unusedVariables false
namespace Go.Proofs.Ytedgookkogpfbaa.Vt
open Lf (Leaf layB readB takesB markN cut cut_at val4 be4)
open Dk (DS mix mixS crashD startD armD dsNew keeps)
open Jr

section
variable {d d' : DS} {h n e eb : Nat} {recs : Recs} {b0 b : List UInt8}

/-- The sectors that an Add writes lie in the half that counts. -/
theorem half_apart {h n i j : Nat} (h1 : h ≤ 1) (hi : i < n) (hj : j < n) : (1 - h) * n + i ≠ h * n + j := by
  rcases Nat.le_one_iff_eq_zero_or_eq_one.1 h1 with rfl | rfl
  · simp; omega
  · simp; omega

/-- An Add that is OK. -/
theorem VInv.add (v : VInv d h n e recs eb b0) (hb : 1 ≤ b.length) (hroom : needN b.length ≤ n - total recs) (ok : d'.Ok) (dry : ∀ i, d'.loose.getD i false = false) (eq : d'.sure = d'.now) (on : d'.off = false) (hn : d'.n = d.n)
    (T0 : ∀ j, secs d' 0 j = if h * n + total recs ≤ j ∧ j < h * n + total recs + needN b.length then layB (leafN e recs.length b (j - (h * n + total recs))) else secs d 0 j) : VInv d' h n e (recs ++ [(b, e)]) eb b0 := by
  have hfit := v.fits
  have hr := v.room
  have hep := v.epochs
  have hl := v.len
  have T : ∀ i, secs d' (h * n) i = if total recs ≤ i ∧ i < total recs + needN b.length then layB (leafN e recs.length b (i - total recs)) else secs d (h * n) i := fun i => by
    rw [secs_zero d', secs_zero d, T0]
    by_cases hc : total recs ≤ i ∧ i < total recs + needN b.length
    · rw [if_pos (by omega), if_pos hc, show h * n + i - (h * n + total recs) = i - total recs by omega]
    · rw [if_neg (by omega), if_neg hc]
  have U : ∀ i, i < n → secs d' ((1 - h) * n) i = secs d ((1 - h) * n) i := fun i hi => by
    rw [secs_zero d', secs_zero d, T0, if_neg fun hc => ?_]
    have := half_apart (i := i) (j := (1 - h) * n + i - h * n) v.h1 hi (by omega)
    omega
  have ht : total (recs ++ [(b, e)]) = total recs + needN b.length := total_more b e recs
  have hlen : (recs ++ [(b, e)]).length = recs.length + 1 := by simp
  obtain ⟨r, hd⟩ := v.head
  refine ⟨ok, dry, eq, on, by rw [hn]; exact v.size, v.n2, v.h1, ⟨r ++ [(b, e)], by rw [hd]; rfl⟩, rise_more hb v.e1 (Nat.le_refl _) recs 1 v.rise hep.2.2.2, ?_, by rw [ht]; omega, fun i h1 h2 h3 => ?_, fun i h1 h2 => ?_, ?_, by rw [openN_congr U]; exact v.other, fun i hi => ?_, v.e1, v.e2, v.small⟩
  · exact stand_more recs 0 0 (stand_same recs 0 0 v.stand fun i h1 h2 => by rw [T i, if_neg (by omega)]) fun i hi => by rw [Nat.zero_add, Nat.zero_add, T, if_pos (by omega), Nat.add_sub_cancel_left]
  · rw [ht] at h1
    rw [T i, if_neg (by omega)] at h3 ⊢
    rw [hlen]
    rcases v.beyond i (by omega) h2 h3 with g | g
    · exact .inl (by omega)
    · exact .inr g
  · rw [ht] at h1
    rw [T i, if_neg (by omega)]
    exact v.low i (by omega) h2
  · rw [ht, hlen, lastE_more]
    intro k E hk hR
    have t := hR.each 0 (Nat.le_refl _) hR.le
    have t1 : takesB (secs d' (h * n) (total recs + needN b.length + 0)) = true := t.1
    have t2 : (readB (secs d' (h * n) (total recs + needN b.length + 0))).number = recs.length + 1 := t.2.1
    have t3 : (readB (secs d' (h * n) (total recs + needN b.length + 0))).epoch = E := t.2.2.2
    have hle := hR.least
    rw [T, if_neg (by omega)] at t1 t2 t3
    rcases v.beyond _ (by omega) (by omega) t1 with g | g
    · omega
    · omega
  · rw [T0]
    split
    · rename_i hc
      exact mk_lay (leafN e recs.length b _) (by rw [leaf_len (by omega)]; omega) (by show e ≤ 255; have := v.e2; omega)
    · exact v.marks i (by omega)

/-- An Add that power tore. -/
theorem VInv.torn (v : VInv d h n e recs eb b0) {w : Nat} (kk : Nat → Nat) (hk : ∀ i, kk i ≤ 64) (hb : 1 ≤ b.length) (hroom : needN b.length ≤ n - total recs) (hw : w ≤ needN b.length) (he : e ≤ 249) (ok : d'.Ok) (dry : ∀ i, d'.loose.getD i false = false) (eq : d'.sure = d'.now) (on : d'.off = false) (hn : d'.n = d.n)
    (T0 : ∀ j, secs d' 0 j = if h * n + total recs ≤ j ∧ j < h * n + total recs + w then mix (layB (leafN e recs.length b (j - (h * n + total recs)))) (secs d 0 j) (kk j) else secs d 0 j) : ∃ recs', (recs' = recs ∨ recs' = recs ++ [(b, e)]) ∧ VInv d' h n (e + 1) recs' eb b0 := by
  have hfit := v.fits
  have hr := v.room
  have hep := v.epochs
  have hl := v.len
  have hL := fun i (hi : i < needN b.length) => leaf_len (e := e) (m := recs.length) hi
  have T : ∀ i, secs d' (h * n) i = if total recs ≤ i ∧ i < total recs + w then mix (layB (leafN e recs.length b (i - total recs))) (secs d (h * n) i) (kk (h * n + i)) else secs d (h * n) i := fun i => by
    rw [secs_zero d', secs_zero d, T0]
    by_cases hc : total recs ≤ i ∧ i < total recs + w
    · rw [if_pos (by omega), if_pos hc, show h * n + i - (h * n + total recs) = i - total recs by omega]
    · rw [if_neg (by omega), if_neg hc]
  have U : ∀ i, i < n → secs d' ((1 - h) * n) i = secs d ((1 - h) * n) i := fun i hi => by
    rw [secs_zero d', secs_zero d, T0, if_neg fun hc => ?_]
    have := half_apart (i := i) (j := (1 - h) * n + i - h * n) v.h1 hi (by omega)
    omega
  have hmarks : ∀ i, i < d'.n → Mk (e + 1) (secs d' 0 i) := fun i hi => by
    have hm := v.marks i (by omega)
    rw [T0]
    split
    · rename_i hc
      exact (mk_mix (mk_lay (leafN e recs.length b _) (by rw [hL _ (by omega)]; omega) (by show e ≤ 255; omega)) hm (hk i)).mono (show e ≤ e + 1 by omega)
    · exact hm.mono (by omega)
  have hlow : ∀ i, i < n → Low (e + 1 + 1) (secs d' (h * n) i) := fun i hi => by
    rw [secs_zero]
    exact (hmarks _ (by omega)).low
  have hlow1 : ∀ i, total recs ≤ i → i < n → Low (e + 1) (secs d' (h * n) i) := fun i h1 h2 => by
    rw [T i]
    split
    · rename_i hc
      exact mix_low (l := leafN e recs.length b (i - total recs)) (by rw [hL _ (by omega)]; omega) (by show e ≤ 255; omega) (v.low i h1 h2) (hk _)
    · exact (v.low i h1 h2).mono (by omega)
  have hcase : ∀ i, total recs ≤ i → i < n → takesB (secs d' (h * n) i) = true → (i - total recs < needN b.length ∧ secs d' (h * n) i = layB (leafN e recs.length b (i - total recs))) ∨ secs d' (h * n) i = secs d (h * n) i := fun i h1 h2 ht => by
    rw [T i] at ht ⊢
    split at ht
    · rename_i hc
      rw [if_pos hc]
      rcases mix_takes (l := leafN e recs.length b (i - total recs)) (by rw [hL _ (by omega)]; omega) (by show e ≤ 255; omega) (v.low i h1 h2) (hk _) ht with h3 | h3
      · exact .inl ⟨by omega, h3⟩
      · exact .inr h3
    · rename_i hc
      rw [if_neg hc]
      exact .inr rfl
  have hnum : ∀ i, total recs ≤ i → i < n → takesB (secs d' (h * n) i) = true → (readB (secs d' (h * n) i)).number ≤ recs.length ∨ (readB (secs d' (h * n) i)).epoch < eb := fun i h1 h2 ht => by
    rcases hcase i h1 h2 ht with ⟨h3, h4⟩ | h3
    · rw [h4, leaf_read h3 (by omega) hl.2]
      exact .inl (Nat.le_refl _)
    · rw [h3]
      exact v.beyond i h1 h2 (by rw [← h3]; exact ht)
  have hst : Stand (secs d' (h * n)) 0 0 recs := stand_same recs 0 0 v.stand fun i h1 h2 => by rw [T i, if_neg (by omega)]
  rcases rec_cases (S := fun i => secs d (h * n) (total recs + i)) (S' := fun i => secs d' (h * n) (total recs + i)) (m := recs.length) (least := lastE 1 recs) (e := e) (cap := n - total recs) (b := b) hb v.e1 (by omega) hl.2
    (fun i hi ht => by
      have := hcase (total recs + i) (by omega) (by omega) ht
      rwa [Nat.add_sub_cancel_left] at this)
    (fun i hi ht => low_epoch (v.low _ (by omega) (by omega)) ht) v.stop with hs | hs
  · exact ⟨recs, .inl rfl, ok, dry, eq, on, by rw [hn]; exact v.size, v.n2, v.h1, v.head, rise_top (by omega) recs 1 v.rise, hst, hfit, hnum, hlow1, hs, by rw [openN_congr U]; exact v.other, hmarks, by omega, by omega, v.small⟩
  · have ht : total (recs ++ [(b, e)]) = total recs + needN b.length := total_more b e recs
    have hlen : (recs ++ [(b, e)]).length = recs.length + 1 := by simp
    obtain ⟨r, hd⟩ := v.head
    refine ⟨recs ++ [(b, e)], .inr rfl, ok, dry, eq, on, by rw [hn]; exact v.size, v.n2, v.h1, ⟨r ++ [(b, e)], by rw [hd]; rfl⟩, rise_more hb v.e1 (by omega) recs 1 (rise_top (by omega) recs 1 v.rise) hep.2.2.2, stand_more recs 0 0 hst fun i hi => ?_, by rw [ht]; omega, fun i h1 h2 h3 => ?_, fun i h1 h2 => hlow1 i (by omega) h2, ?_, by rw [openN_congr U]; exact v.other, hmarks, by omega, by omega, v.small⟩
    · rw [Nat.zero_add, Nat.zero_add]
      exact hs i hi
    · rw [hlen]
      rcases hnum i (by omega) h2 h3 with g | g
      · exact .inl (by omega)
      · exact .inr g
    · rw [ht, hlen, lastE_more]
      intro k E hk hr
      have t := hr.each 0 (Nat.le_refl _) hr.le
      have t1 : takesB (secs d' (h * n) (total recs + needN b.length + 0)) = true := t.1
      have t2 : (readB (secs d' (h * n) (total recs + needN b.length + 0))).number = recs.length + 1 := t.2.1
      have t3 : (readB (secs d' (h * n) (total recs + needN b.length + 0))).epoch = E := t.2.2.2
      have hle := hr.least
      rcases hnum _ (by omega) (by omega) t1 with g | g
      · omega
      · omega

/-- The new base, as far as it was written, over what stood in the other half: it is there whole, and counts; or all is as it was. -/
theorem VInv.comp (v : VInv d h n e recs eb b0) {w : Nat} (kk : Nat → Nat) (hk : ∀ i, kk i ≤ 64) (hb : 1 ≤ b.length) (hroom : needN b.length ≤ n) (hw : w ≤ needN b.length) (he : e ≤ 248) (ok : d'.Ok) (dry : ∀ i, d'.loose.getD i false = false) (eq : d'.sure = d'.now) (on : d'.off = false) (hn : d'.n = d.n)
    (T0 : ∀ j, secs d' 0 j = if (1 - h) * n ≤ j ∧ j < (1 - h) * n + w then mix (layB (leafN (e + 1) 0 b (j - (1 - h) * n))) (secs d 0 j) (kk j) else secs d 0 j) :
    ((¬ ∀ i, i < needN b.length → secs d' ((1 - h) * n) i = layB (leafN (e + 1) 0 b i)) ∧ VInv d' h n (e + 2) recs eb b0) ∨ VInv d' (1 - h) n (e + 1) [(b, e + 1)] (e + 1) b := by
  have hfit := v.fits
  have hr := v.room
  have hep := v.epochs
  have hl := v.len
  have hp := need_pos hb
  have hL := fun i (hi : i < needN b.length) => leaf_len (e := e + 1) (m := 0) hi
  have h11 : 1 - (1 - h) = h := by have := v.h1; omega
  have S : ∀ i, i < n → Low (e + 1) (secs d ((1 - h) * n) i) := fun i hi => by
    rw [secs_zero]
    exact (v.marks _ (by omega)).low
  have T : ∀ i, secs d' ((1 - h) * n) i = if i < w then mix (layB (leafN (e + 1) 0 b i)) (secs d ((1 - h) * n) i) (kk ((1 - h) * n + i)) else secs d ((1 - h) * n) i := fun i => by
    rw [secs_zero d', secs_zero d, T0]
    by_cases hc : i < w
    · rw [if_pos (by omega), if_pos hc, show (1 - h) * n + i - (1 - h) * n = i by omega]
    · rw [if_neg (by omega), if_neg hc]
  have U : ∀ i, i < n → secs d' (h * n) i = secs d (h * n) i := fun i hi => by
    rw [secs_zero d', secs_zero d, T0, if_neg fun hc => ?_]
    have := half_apart (i := h * n + i - (1 - h) * n) (j := i) v.h1 (by omega) hi
    omega
  have hmarks : ∀ i, i < d'.n → Mk (e + 1) (secs d' 0 i) := fun i hi => by
    have hm := v.marks i (by omega)
    rw [T0]
    split
    · rename_i hc
      exact mk_mix (mk_lay (leafN (e + 1) 0 b _) (by rw [hL _ (by omega)]; omega) (by show e + 1 ≤ 255; omega)) (hm.mono (by omega)) (hk i)
    · exact hm.mono (by omega)
  have hcase : ∀ i, i < n → takesB (secs d' ((1 - h) * n) i) = true → (i < needN b.length ∧ secs d' ((1 - h) * n) i = layB (leafN (e + 1) 0 b i)) ∨ secs d' ((1 - h) * n) i = secs d ((1 - h) * n) i := fun i h2 ht => by
    rw [T i] at ht ⊢
    split at ht
    · rename_i hc
      rw [if_pos hc]
      rcases mix_takes (l := leafN (e + 1) 0 b i) (by rw [hL _ (by omega)]; omega) (by show e + 1 ≤ 255; omega) (S i h2) (hk _) ht with h3 | h3
      · exact .inl ⟨by omega, h3⟩
      · exact .inr h3
    · rename_i hc
      rw [if_neg hc]
      exact .inr rfl
  by_cases hall : ∀ i, i < needN b.length → secs d' ((1 - h) * n) i = layB (leafN (e + 1) 0 b i)
  · right
    have ht : total [(b, e + 1)] = needN b.length := Nat.add_zero _
    have hold : ∀ i, needN b.length ≤ i → i < n → secs d' ((1 - h) * n) i = secs d ((1 - h) * n) i := fun i h1 h2 => by rw [T i, if_neg (by omega)]
    refine ⟨ok, dry, eq, on, by rw [hn]; exact v.size, v.n2, by omega, ⟨[], rfl⟩, ⟨hb, by show 1 ≤ e + 1; omega, by show 1 ≤ e + 1; omega, Nat.le_refl _, trivial⟩, ⟨fun i hi => by rw [Nat.zero_add]; exact hall i hi, trivial⟩, by rw [ht]; exact hroom, fun i h1 h2 h3 => ?_, fun i h1 h2 => ?_, ?_, ?_, hmarks, by omega, by omega, v.small⟩
    · rw [ht] at h1
      rw [hold i h1 h2] at h3 ⊢
      exact .inr (low_epoch (S i h2) h3)
    · rw [ht] at h1
      rw [hold i h1 h2]
      exact S i h2
    · rw [ht]
      intro k E hk hR
      have t := hR.each 0 (Nat.le_refl _) hR.le
      have t1 : takesB (secs d' ((1 - h) * n) (needN b.length + 0)) = true := t.1
      have t3 : (readB (secs d' ((1 - h) * n) (needN b.length + 0))).epoch = E := t.2.2.2
      have hle : e + 1 ≤ E := hR.least
      rw [hold _ (by omega) (by omega)] at t1 t3
      have := low_epoch (S _ (by omega)) t1
      omega
    · rw [h11, openN_congr U, v.open_]
      show eb < e + 1
      omega
  · left
    refine ⟨hall, ok, dry, eq, on, by rw [hn]; exact v.size, v.n2, v.h1, v.head, rise_top (by omega) recs 1 v.rise, stand_same recs 0 0 v.stand fun i h1 h2 => U i (by omega), hfit, fun i h1 h2 => by rw [U i h2]; exact v.beyond i h1 h2, fun i h1 h2 => by rw [U i h2]; exact (v.low i h1 h2).mono (by omega), fun k E hk hR => v.stop k E hk ?_, ?_, fun i hi => (hmarks i hi).mono (by omega), by omega, by omega, v.small⟩
    · refine ⟨hR.le, fun j q1 q2 => ?_, hR.least, fun j q1 q2 => ?_, ?_⟩
      · have := hR.each j q1 q2
        rwa [U (total recs + j) (by omega)] at this
      · have := hR.on j q1 q2
        rwa [U (total recs + j) (by omega)] at this
      · have := hR.last
        rwa [U (total recs + k) (by omega)] at this
    · by_cases hz : (openN (secs d' ((1 - h) * n)) n).begun = 0
      · rw [hz]; omega
      · obtain ⟨k, E, hkn, hR, hE⟩ := begun_run hz
        rw [hE]
        have hEn : E ≠ e + 1 := fun hEe => by
          have new : ∀ j, j ≤ k → j < needN b.length ∧ secs d' ((1 - h) * n) j = layB (leafN (e + 1) 0 b j) := fun j hj => by
            obtain ⟨q1, q2, q3, q4⟩ := hR.each j (Nat.zero_le _) hj
            rcases hcase j (by omega) q1 with h3 | h3
            · exact h3
            · rw [h3] at q1 q4
              have := low_epoch (S j (by omega)) q1
              omega
          have hkl := hR.last
          rw [(new k (Nat.le_refl _)).2, leaf_read (new k (Nat.le_refl _)).1 (by omega) (by omega)] at hkl
          have hkl' : k + 1 = needN b.length := of_decide_eq_true hkl
          exact hall fun i hi => (new i (by omega)).2
        have old : ∀ j, j ≤ k → secs d' ((1 - h) * n) j = secs d ((1 - h) * n) j := fun j hj => by
          obtain ⟨q1, q2, q3, q4⟩ := hR.each j (Nat.zero_le _) hj
          rcases hcase j (by omega) q1 with ⟨h3, h4⟩ | h3
          · rw [h4, leaf_read h3 (by omega) (by omega)] at q4
            exact absurd (show E = e + 1 from q4.symm) hEn
          · exact h3
        have hR2 : Run (secs d ((1 - h) * n)) 0 1 0 k E := ⟨hR.le, fun j q1 q2 => by rw [← old j q2]; exact hR.each j q1 q2, hR.least, fun j q1 q2 => by rw [← old j (by omega)]; exact hR.on j q1 q2, by rw [← old k (Nat.le_refl _)]; exact hR.last⟩
        rw [← run_begun hkn hR2]
        exact v.other
end

end Go.Proofs.Ytedgookkogpfbaa.Vt
