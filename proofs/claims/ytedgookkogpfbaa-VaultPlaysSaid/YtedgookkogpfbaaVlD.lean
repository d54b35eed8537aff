/- The landed vault in memory: Open. -/
import Derived.Test.YtedgookkogpfbaaVlB
set_option maxRecDepth 100000
namespace Go.Proofs.Ytedgookkogpfbaa.Vl
open Go.ChangeShapes Go.WideShapes Go.ChangeAt Go.RowKit
open Qu (Blk)
open Mv (Only Fresh)
open By (Own8 Bys cellsB cellsB_length)
open Dk (DS Sec secCells readE readV readE_ok)
open Dd (Lay At Tidy Pl)
open Jr (JS Recd JHas Fit newE blankJ openJ addE addDS addJ stopE needN blk_blk_ne own_own_ne ownBlock_any)
open Jl (RecE Told AddE own_far_disk)
open Vt
set_option linter.unusedVariables false

section
variable {w w' : World} {B Bd x y c : Nat} {q : Pl} {A : Option Addr} {vs : List Value} {v : VS} {d : DS}

/-- What above answers. -/
def aboveE (d : DS) : Int := if topN d.now = 4294967295 then 6 else 0
def aboveV (d : DS) : Nat := if topN d.now = 4294967295 then 0 else topN d.now + 1

set_option maxHeartbeats 4000000 in
theorem above_any (hD : At w Bd q d) (hn : d.n ≤ 20000) (hoff : d.off = false) (hT : topN d.now < 2 ^ 32) :
    Calls Try.prog 36 #[.pointer (some ⟨q.x, 0, none⟩)] w fun e w' => e = .returned (.tuple #[.int .u32 (aboveV d : Int), .int .i64 (aboveE d)]) ∧ Below w.heap.size w w' := by
  have d1 := hD.lay.box.cell 1
  simp at d1
  have HL := Lib.hid (Dd.len_eq w q.x _ d.n _ d1 (by omega))
  have HD := Lib.hid hD
  have HN := Lib.hid (And.intro hn (And.intro hoff hT))
  have hq2 : (d.n : Int) ≤ 20000 := by omega
  clear hD hn hoff hT d1
  go_enter Try.func36, Try.ntmps36
  go_wp2_with (first | (refine HL.out.mono ?_; rintro r w2 ⟨rfl, rfl⟩))
  go_loopw [4, 10] (fun s4 s10 wr => ∃ i : Nat, s10 = .int .i64 (i : Int) ∧ s4 = .int .u32 ((topN (d.now.take i) : Nat) : Int) ∧ i ≤ d.n ∧ Below w.heap.size w wr) (fun _ s _ => d.n - (intOf s).toNat)
  case atStart => exact ⟨0, rfl, rfl, Nat.zero_le _, Below.refl _ _⟩
  case round =>
    obtain ⟨i, rfl, rfl, hi, hB⟩ := hrel
    have i0 : (0 : Int) ≤ (i : Int) := by omega
    by_cases hlt : i < d.n
    · have i1 : (i : Int) < (d.n : Int) := by omega
      obtain ⟨s, hs⟩ : ∃ s, d.now[i]? = some s := ⟨_, List.getElem?_eq_getElem hlt⟩
      have hs64 := HD.out.lay.now.1.at hs
      have hre : readE d (i : Int) = 0 := readE_ok HN.out.2.1 (by omega) (by omega)
      have hrv : readV d (i : Int) = s := by
        unfold readV
        rw [hre, if_pos rfl, Int.toNat_natCast, List.getD, hs]
        rfl
      have HR := Lib.hid (Dd.read_lay wr Bd q d (i : Int) (HD.out.lay.below hB) (by have := HN.out.1; omega))
      rw [hre, hrv] at HR
      have HMK := Lib.hid (fun u => Lf.mark_any u s hs64)
      have htk : d.now.take (i + 1) = d.now.take i ++ [s] := by
        rw [List.take_add_one, hs]
        rfl
      obtain ⟨t, ht⟩ : ∃ t, topN (d.now.take i) = t := ⟨_, rfl⟩
      obtain ⟨m, hm⟩ : ∃ m, Lf.markN s = m := ⟨_, rfl⟩
      obtain ⟨M, hM⟩ : ∃ M, topN (d.now.take (i + 1)) = M := ⟨_, rfl⟩
      have hMx : M = max t m := by rw [← hM, htk, top_more, ht, hm]
      have e1 : (if (t : Int) < (m : Int) then (m : Int) else (t : Int)) = (M : Int) := by split <;> omega
      have e2 : (if (m : Int) < (t : Int) then (t : Int) else (m : Int)) = (M : Int) := by split <;> omega
      have e3 : (if t < m then (m : Int) else (t : Int)) = (M : Int) := by split <;> omega
      have e4 : (if m < t then (t : Int) else (m : Int)) = (M : Int) := by split <;> omega
      have HM := Lib.hid hM
      rw [hm] at HMK
      rw [ht]
      have HB := Lib.hid hB
      have HS := Lib.hid hs64
      clear hs htk ht hm hM hMx hB hlt hre hrv hs64
      generalize d.n = dn at *
      go_wp2_with fail
      refine HR.out.mono ?_
      rintro r w2 ⟨rfl, k2⟩
      have HB2 := Lib.hid (HB.out.trans (k2.mono HB.out.size))
      clear k2
      go_upto_region 6 with (first
        | (with_reducible refine Dk.new_sec (w := w2) (op := ⟨some 6, _, _, _, _, _⟩) rfl rfl ?_; intro w3 hS3 hB3 hZ3)
        | ((with_reducible refine Dk.store_sec (w := w3) (op := ⟨none, _, _, _, _, _⟩) ?_ (.tmp 6) (.tmp 17) ?_ _ ?_ s ?_ _ hS3 HS.out ?_); (next => rfl); (next => rfl); (next => rfl); (next => rfl); intro w4 hS4 hG4))
      have H4 := Lib.hid (And.intro hS4 (show Below w.heap.size w w4 from by
        have k3 := HB2.out.trans (hB3.mono HB2.out.size)
        exact k3.grown hG4 k3.size (fun k hk => by injection hk with hk; have := HB2.out.size; omega)))
      clear hS3 hB3 hZ3 hS4 hG4
      go_wp2_with (first
        | ((with_reducible refine Dk.load_sec (w := w4) (op := ⟨some 23, _, _, _, _, _⟩) ?_ (.tmp 6) ?_ _ ?_ _ H4.out.1 ?_); (next => rfl); (next => rfl); (next => rfl)))
      refine (HMK.out w4).mono ?_
      rintro r w5 ⟨rfl, k5⟩
      have HB5 := Lib.hid (H4.out.2.trans (k5.mono H4.out.2.size))
      clear k5
      go_wp2_with fail
      go_roundw
      case rel => exact ⟨i + 1, by go_num, by rw [HM.out], by omega, HB5.out⟩
      case measure => simp [intOf]; omega
    · have hin : i = d.n := by omega
      subst hin
      have i1 : ¬ (d.n : Int) < (d.n : Int) := by omega
      have htt : d.now.take d.n = d.now := List.take_of_length_le (Nat.le_refl _)
      rw [htt]
      have HAE : Hid (aboveE d = if topN d.now = 4294967295 then 6 else 0) := Lib.hid rfl
      have HAV : Hid (aboveV d = if topN d.now = 4294967295 then 0 else topN d.now + 1) := Lib.hid rfl
      have hT := HN.out.2.2
      generalize topN d.now = T at *
      have t1 : (T : Int) ≤ 4294967295 := by omega
      by_cases hmx : T = 4294967295
      · have HF : Hid (aboveE d = 6 ∧ aboveV d = 0) := Lib.hid ⟨by rw [HAE.out, if_pos hmx], by rw [HAV.out, if_pos hmx]⟩
        have m1 : ((T : Int) == 4294967295) = true := by rw [hmx]; rfl
        have HB := Lib.hid hB
        clear hmx hlt hB htt
        go_wp2_with fail
        go_ret2
        rw [HF.out.1, HF.out.2]
        exact ⟨rfl, HB.out⟩
      · have HF : Hid (aboveE d = 0 ∧ aboveV d = T + 1) := Lib.hid ⟨by rw [HAE.out, if_neg hmx], by rw [HAV.out, if_neg hmx]⟩
        have m1 : ((T : Int) == 4294967295) = false := beq_eq_false_iff_ne.2 (by omega)
        have u1 : IntKind.u32.wrap ((T : Int) + 1) = (T : Int) + 1 := by rw [IntWalk.u32_in _ (by omega)]
        have HB := Lib.hid hB
        clear hmx hlt hB htt
        go_wp2_with fail
        go_ret2
        rw [HF.out.1, HF.out.2]
        exact ⟨rfl, HB.out⟩

set_option maxHeartbeats 4000000 in
/-- Of two that answer these, the place of the greater, the first of equal ones; whether either is above nought. -/
theorem counts_any (g y1 y2 b1 b2 : Nat) (q0 : w.cell? ⟨g, 0, none⟩ = some (.func (.func 40) #[.pointer (some ⟨y1, 0, none⟩)] #[])) (q1 : w.cell? ⟨g, 1, none⟩ = some (.func (.func 40) #[.pointer (some ⟨y2, 0, none⟩)] #[]))
    (f1 : w.cell? ⟨y1, 5, none⟩ = some (.int .u32 (b1 : Int))) (f2 : w.cell? ⟨y2, 5, none⟩ = some (.int .u32 (b2 : Int))) :
    Calls Try.prog 39 #[.slice (some ⟨g, 0, none⟩) 2 2] w fun e w' => e = .returned (.tuple #[.int .i64 (if b1 < b2 then 1 else 0), .bool (decide (b1 ≠ 0 ∨ b2 ≠ 0))]) ∧ w' = w := by
  have H1 := Lib.hid (Jl.first_any w y1 _ f1)
  have H2 := Lib.hid (Jl.first_any w y2 _ f2)
  have n1 : (0 : Int) ≤ (b1 : Int) := by omega
  have n2 : (0 : Int) ≤ (b2 : Int) := by omega
  have HP : Hid ((if b1 < b2 then (1 : Int) else 0) = (if b1 < b2 then (1 : Int) else 0) ∧ decide (b1 ≠ 0 ∨ b2 ≠ 0) = decide (b1 ≠ 0 ∨ b2 ≠ 0)) := Lib.hid ⟨rfl, rfl⟩
  generalize hR1 : (if b1 < b2 then (1 : Int) else 0) = R1 at *
  generalize hR2 : decide (b1 ≠ 0 ∨ b2 ≠ 0) = R2 at *
  have HR := Lib.hid (And.intro hR1 hR2)
  clear f1 f2 hR1 hR2 HP
  rcases (show (0 < b1 ∧ b1 < b2) ∨ (0 < b1 ∧ ¬ b1 < b2) ∨ (¬ 0 < b1 ∧ 0 < b2) ∨ (¬ 0 < b1 ∧ ¬ 0 < b2) by omega) with hz | hz | hz | hz
  case' inl =>
    have i1 : (0 : Int) < (b1 : Int) := by omega
    have i2 : decide (0 < b1) = true := decide_eq_true hz.1
    have i3 : (b1 : Int) < (b2 : Int) := by omega
    have i4 : decide (b1 < b2) = true := decide_eq_true hz.2
    have i5 : (0 : Int) < (b2 : Int) := by omega
    have i6 : decide (0 < b2) = true := decide_eq_true (by omega)
    have HF : Hid (R1 = 1 ∧ R2 = true) := Lib.hid ⟨by rw [← HR.out.1, if_pos hz.2], by rw [← HR.out.2]; exact decide_eq_true (by omega)⟩
  case' inr.inl =>
    have i1 : (0 : Int) < (b1 : Int) := by omega
    have i2 : decide (0 < b1) = true := decide_eq_true hz.1
    have i3 : ¬ (b1 : Int) < (b2 : Int) := by omega
    have i4 : decide (b1 < b2) = false := decide_eq_false hz.2
    have HF : Hid (R1 = 0 ∧ R2 = true) := Lib.hid ⟨by rw [← HR.out.1, if_neg hz.2], by rw [← HR.out.2]; exact decide_eq_true (by omega)⟩
  case' inr.inr.inl =>
    have i1 : ¬ (0 : Int) < (b1 : Int) := by omega
    have i2 : decide (0 < b1) = false := decide_eq_false hz.1
    have i3 : (0 : Int) < (b2 : Int) := by omega
    have i4 : decide (0 < b2) = true := decide_eq_true hz.2
    have HF : Hid (R1 = 1 ∧ R2 = true) := Lib.hid ⟨by rw [← HR.out.1, if_pos (by omega)], by rw [← HR.out.2]; exact decide_eq_true (by omega)⟩
  case' inr.inr.inr =>
    have i1 : ¬ (0 : Int) < (b1 : Int) := by omega
    have i2 : decide (0 < b1) = false := decide_eq_false hz.1
    have i3 : ¬ (0 : Int) < (b2 : Int) := by omega
    have i4 : decide (0 < b2) = false := decide_eq_false hz.2
    have HF : Hid (R1 = 0 ∧ R2 = false) := Lib.hid ⟨by rw [← HR.out.1, if_neg (by omega)], by rw [← HR.out.2]; exact decide_eq_false (by omega)⟩
  all_goals
    clear hz HR
    go_enter Try.func39, Try.ntmps39
    go_wp2_with fail
    refine wp_loop_rounds 4 ?_
    rw [rounds_succ]
    go_wp2_with fail
    refine H1.out.mono ?_
    rintro r w2 ⟨rfl, hw⟩
    rw [hw]
    clear hw w2
    go_wp2_with fail
    rw [rounds_succ]
    go_wp2_with fail
    refine H2.out.mono ?_
    rintro r w2 ⟨rfl, hw⟩
    rw [hw]
    clear hw w2
    go_wp2_with fail
    rw [rounds_succ]
    go_wp2_with fail
    go_ret2
    rw [HF.out.1, HF.out.2]
    exact ⟨rfl, rfl⟩
end

end Go.Proofs.Ytedgookkogpfbaa.Vl
