/- Contracts of package pack's inner functions: where a number ends, that it is the shortest, what it says. -/
import Derived.Test.YtkpdcgikmjhhfaaByC
import Derived.Test.YtkpdcgikmjhhfaaByB
import Derived.RegionTactic
import Derived.StillTactics
import Derived.StillTailTactics
import Derived.Deep.RegionHeld3
namespace Go.Proofs.Ytkpdcgikmjhhfaa.Pk
open Go.ChangeShapes Go.WideShapes Go.ChangeAt Go.RowKit
open Qu (Blk)
open Mv (Only one)
open By
set_option linter.unusedVariables false

theorem slice_to (A : Option Addr) (n c k : Nat) (hk : k ≤ c) (W : World) : (Instr.slice 26 (.slice A n c) none (some (.int .i64 (k : Int))) none).run Try.prog W = .ok (.slice A k c) W := by
  have hsz : (sizeOf (Try.prog.elem 26)).run Try.prog W = .ok 1 W := by kernel_rfl
  rw [run_slice_h (P := Try.prog) (w := W) 26 A n c Try.underlying26 .i64 (k : Int) (by omega) (by omega), hsz]
  have e : (if c = 0 then A else A.map (·.add (0 * 1))) = A := by
    split
    · rfl
    · cases A with
      | none => rfl
      | some a => simp [Addr.add]
  simp only [Result.andThen, sliced, Nat.sub_zero, Int.toNat_natCast]
  rw [e]

theorem slice_from (A : Option Addr) (n c k : Nat) (hk : k ≤ n) (W : World) : (Instr.slice 26 (.slice A n c) (some (.int .i64 (k : Int))) none none).run Try.prog W = .ok (.slice (if c = k then A else A.map (·.add k)) (n - k) (c - k)) W := by
  have hsz : (sizeOf (Try.prog.elem 26)).run Try.prog W = .ok 1 W := by kernel_rfl
  rw [run_slice_l (P := Try.prog) (w := W) 26 A n c Try.underlying26 .i64 (k : Int) (by omega) (by omega), hsz]
  simp only [Result.andThen, sliced, Nat.mul_one, Int.toNat_natCast]

/-- A number while it is read, at block p: its bytes, its ends, its size, its value. -/
def Nm (w : World) (p : Nat) (A : Option Addr) (n c : Nat) (a b s v : Int) : Prop := Blk w p 57 #[.slice A n c, .int .i64 a, .int .i64 b, .int .i64 s, .int .i64 v]

/-- It is that now; nothing else has turned. -/
def Nmd (w w' : World) (p : Nat) (A : Option Addr) (n c : Nat) (a b s v : Int) : Prop := Nm w' p A n c a b s v ∧ Only w w' (one p)

def szOf (l : List UInt8) (s : Int) : Int := if measE l = 0 then (lead l : Int) + 1 else s

theorem meas_at {l : List UInt8} {k : Nat} (hk : k < l.length) (hk9 : k < 9) (ha : ∀ j, j < k → 128 ≤ at_ l j) (hb : at_ l k < 128) : measE l = 0 ∧ lead l = k := by
  have he : lead l = k := lead_eq l k l[k] (fun j hj => ⟨l[j], List.getElem?_eq_getElem (by omega), by
    have := ha j hj
    rw [at_some (List.getElem?_eq_getElem (show j < l.length by omega))] at this
    omega⟩) (List.getElem?_eq_getElem hk) (by
    rw [at_some (List.getElem?_eq_getElem hk)] at hb
    omega)
  refine ⟨?_, he⟩
  unfold measE
  rw [if_neg (by omega), if_neg (by omega)]

theorem meas_end {l : List UInt8} {k : Nat} (hk : k = min 9 l.length) (ha : ∀ j, j < k → 128 ≤ at_ l j) : measE l = if l.length < 9 then 3 else 4 := by
  have hge : k ≤ lead l := lead_ge l k fun j hj => ⟨l[j], List.getElem?_eq_getElem (by omega), by
    have := ha j hj
    rw [at_some (List.getElem?_eq_getElem (show j < l.length by omega))] at this
    omega⟩
  have hle := lead_le l
  unfold measE
  by_cases h : l.length < 9
  · rw [if_neg (by omega), if_pos (by omega), if_pos h]
  · rw [if_pos (by omega), if_neg h]

set_option maxHeartbeats 1000000 in
theorem measure_any (p n c : Nat) (A : Option Addr) (l : List UInt8) (a b s v : Int) (w : World) (h : Nm w p A n c a b s v) (hb : Bys w p A n l) (hc : n ≤ c) (hn : n ≤ 1000000000000) :
    Calls Try.prog 28 #[.pointer (some ⟨p, 0, none⟩)] w fun e w' => e = .returned (.int .i64 (measE l)) ∧ Nmd w w' p A n c a b (szOf l s) v := by
  have c0 := h.cell 0
  have c3 := h.cell 3
  have f3 := h.frozen 3
  simp at c0 c3
  have hpn := h.lt
  obtain ⟨m, hm⟩ : ∃ m : Nat, m = min 9 n := ⟨_, rfl⟩
  have hmn : m ≤ n := by omega
  have hm9 : m ≤ 9 := by omega
  have m1 : (if (n : Int) < 9 then (n : Int) else 9) = (m : Int) := by split <;> omega
  have m2 : (if (9 : Int) < (n : Int) then (9 : Int) else (n : Int)) = (m : Int) := by split <;> omega
  have hsl := fun W => slice_to A n c m (by omega) W
  have HM := Lib.hid hm
  have HB := Lib.hid (And.intro h hb)
  have HL := Lib.hid hb.len
  clear hm h hb
  go_enter Try.func28, Try.ntmps28
  go_wp2_with fail
  go_quiet (fail)
  go_wp2_with fail
  go_loopw [17] (fun s17 wr => ∃ k : Nat, s17 = .int .i64 (k : Int) ∧ k ≤ m ∧ (∀ j, j < k → 128 ≤ at_ l j) ∧ Nmd w wr p A n c a b s v) (fun s17 _ => m - (intOf s17).toNat)
  case atStart => exact ⟨0, rfl, by omega, fun j hj => by omega, ⟨HB.out.1.as rfl, (Only.refl _ _).drewN _⟩⟩
  case round =>
    obtain ⟨k, rfl, hk, hE, hN, hO⟩ := hrel
    have hby := HB.out.2.only hO (fun a' _ hlt e => by
      have e2 : a'.block = p := e
      omega)
    have HE := Lib.hid hE
    have HO := Lib.hid hO
    have HN := Lib.hid hN
    have q0 := hN.cell 0
    have q3 := hN.cell 3
    have qf := hN.frozen 3
    simp at q0 q3
    clear c0 c3 f3 hE hO hN
    by_cases hlt : k < m
    · obtain ⟨g, o, rfl, hg, hcell⟩ := hby.at (k := k) (by omega)
      have k0 : (0 : Int) ≤ (k : Int) := by omega
      have k1 : (k : Int) < (m : Int) := by omega
      have kn : k < l.length := by have := HL.out; omega
      have hr := at_in l k
      clear hby
      by_cases hx : at_ l k < 128
      · have HX := Lib.hid (meas_at kn (by omega) HE.out hx)
        have HS : Hid (szOf l s = (k : Int) + 1 ∧ measE l = 0) := Lib.hid (by
          unfold szOf
          rw [if_pos HX.out.1, HX.out.2]
          exact ⟨rfl, HX.out.1⟩)
        have HF : Hid (Nmd w (wr.setCell ⟨p, 3, none⟩ (.int .i64 ((k : Int) + 1))) p (some ⟨g, o, none⟩) n c a b (szOf l s) v) := Lib.hid (by
          rw [HS.out.1]
          refine ⟨?_, HO.out.put _ fun _ => rfl⟩
          exact Blk.put HN.out 3 _)
        clear kn hr
        go_wp2
        go_ret
        exact ⟨by rw [HS.out.2]; rfl, HF.out⟩
      · have hx2 : 128 ≤ at_ l k := by omega
        have HX := Lib.hid hx2
        clear kn
        go_wp2
        go_roundw
        case rel => exact ⟨k + 1, by go_num, by omega, fun j hj => by
          rcases Nat.lt_or_ge j k with h | h
          · exact HE.out j h
          · have : j = k := by omega
            subst this; exact HX.out, HN.out, HO.out⟩
        case measure => simp [intOf]; omega
    · have hkm : k = m := by omega
      have k1 : ¬ (k : Int) < (m : Int) := by omega
      have HX := Lib.hid (meas_end (l := l) (k := k) (by have := HL.out; have := HM.out; omega) HE.out)
      have HS : Hid (szOf l s = s) := Lib.hid (by
        unfold szOf
        rw [if_neg]
        rw [HX.out]
        split <;> omega)
      have HF : Hid (Nmd w wr p A n c a b (szOf l s) v) := Lib.hid (by
        rw [HS.out]
        exact ⟨HN.out, HO.out⟩)
      have HLn := Lib.hid HL.out
      clear hby hkm
      by_cases h9 : n < 9
      · have n9 : (n : Int) < 9 := by omega
        have HR : Hid (measE l = 3) := Lib.hid (by rw [HX.out, if_pos (by have := HL.out; omega)])
        clear h9
        go_wp2
        go_ret
        exact ⟨by rw [HR.out]; rfl, HF.out⟩
      · have n9 : ¬ (n : Int) < 9 := by omega
        have HR : Hid (measE l = 4) := Lib.hid (by rw [HX.out, if_neg (by have := HL.out; omega)])
        clear h9
        go_wp2
        go_ret
        exact ⟨by rw [HR.out]; rfl, HF.out⟩

/-- The fault of a number whose last byte, at k, is 0 and not its only one. -/
def longE (l : List UInt8) (k : Nat) : Int := if decide (0 < k) && (at_ l k == 0) then 4 else 0

/-- The last byte. -/
theorem shortest_any (p n c k : Nat) (A : Option Addr) (l : List UInt8) (a b v : Int) (w : World) (h : Nm w p A n c a b ((k : Int) + 1) v) (hb : Bys w p A n l) (hc : n ≤ c) (hk : k < n) (hn : n ≤ 1000000000000) :
    Calls Try.prog 29 #[.pointer (some ⟨p, 0, none⟩)] w fun e w' => e = .returned (.int .i64 (longE l k)) ∧ Nmd w w' p A n c a b ((k : Int) + 1) v := by
  have c0 := h.cell 0
  have c3 := h.cell 3
  simp at c0 c3
  have HB := Lib.hid h
  have k0 : (0 : Int) ≤ (k : Int) := by omega
  have k1 : (k : Int) < (n : Int) := by omega
  have e1 : (k : Int) + 1 - 1 = (k : Int) := by omega
  have hr := at_in l k
  obtain ⟨g, o, rfl, hg, hcell⟩ := hb.at (k := k) hk
  clear h hb
  by_cases h0 : 0 < k
  · have d1 : (1 : Int) < (k : Int) + 1 := by omega
    have d2 : decide ((1 : Int) < (k : Int) + 1) = true := by simpa using d1
    rcases Bool.eq_false_or_eq_true (at_ l k == 0) with hx | hx
    · have HR : Hid (longE l k = 4) := Lib.hid (by unfold longE; rw [hx]; simp [h0])
      rw [HR.out]
      clear h0
      go_enter Try.func29, Try.ntmps29
      go_wp2_with fail
      go_quiet (fail)
      go_wp2
      go_ret
      exact ⟨rfl, HB.out.as rfl, (Only.refl _ _).drewN _⟩
    · have HR : Hid (longE l k = 0) := Lib.hid (by unfold longE; rw [hx]; simp)
      rw [HR.out]
      clear h0
      go_enter Try.func29, Try.ntmps29
      go_wp2_with fail
      go_quiet (fail)
      go_wp2
      go_ret
      exact ⟨rfl, HB.out.as rfl, (Only.refl _ _).drewN _⟩
  · have hk0 : k = 0 := by omega
    subst hk0
    have HR : Hid (longE l 0 = 0) := Lib.hid (by unfold longE; simp)
    rw [HR.out]
    clear h0
    have d1 : decide ((1 : Int) < ((0 : Nat) : Int) + 1) = false := by decide
    have d2 : ((0 : Nat) : Int) + 1 = 1 := by omega
    rw [d2] at c3
    go_enter Try.func29, Try.ntmps29
    go_wp2_with fail
    go_quiet (fail)
    go_wp2
    go_ret
    exact ⟨rfl, HB.out.as rfl, (Only.refl _ _).drewN _⟩

/-- Whether a value is from a to b. -/
def outE (V a b : Int) : Int := if decide (a ≤ V) && decide (V ≤ b) then 0 else 4

theorem step7 {l : List UInt8} {i : Nat} (hi : i ≤ 8) (hl : i < l.length) : bits .or .i64 (valU (l.take i) : Int) (wrap64 (at_ l i % 128 * 2 ^ (7 * i))) = (valU (l.take (i + 1)) : Int) := by
  have h1 := valU_take_lt l i
  have e1 : at_ l i = (l[i].toNat : Int) := at_some (List.getElem?_eq_getElem hl)
  have e2 : at_ l i % 128 = ((l[i].toNat % 128 : Nat) : Int) := by rw [e1]; omega
  obtain ⟨j1, j2, _⟩ := join7 (valU (l.take i)) (l[i].toNat % 128) i hi h1 (by omega)
  have j3 : 0 ≤ ((l[i].toNat % 128 : Nat) : Int) * 2 ^ (7 * i) := Int.mul_nonneg (by omega) (Int.le_of_lt (Int.pow_pos (by omega)))
  rw [e2, IntWalk.wrap64_in _ ⟨by omega, by omega⟩, j1, valU_take l i l[i] (List.getElem?_eq_getElem hl)]

set_option maxHeartbeats 1000000 in
theorem within_any (p n c z : Nat) (A : Option Addr) (l : List UInt8) (a b : Int) (w : World) (h : Nm w p A n c a b (z : Int) 0) (hb : Bys w p A n l) (hc : n ≤ c) (hz1 : 1 ≤ z) (hz9 : z ≤ 9) (hz : z ≤ n) (hn : n ≤ 1000000000000) :
    Calls Try.prog 30 #[.pointer (some ⟨p, 0, none⟩)] w fun e w' => e = .returned (.int .i64 (outE (valU (l.take z) : Int) a b)) ∧ Nmd w w' p A n c a b (z : Int) (valU (l.take z) : Int) := by
  have c0 := h.cell 0
  have c3 := h.cell 3
  simp at c0 c3
  have hpn := h.lt
  have hsl := fun W => slice_to A n c z (by omega) W
  have z0 : (0 : Int) ≤ (z : Int) := by omega
  have HB := Lib.hid (And.intro h hb)
  have HL := Lib.hid hb.len
  clear h hb
  go_enter Try.func30, Try.ntmps30
  go_wp2_with fail
  go_quiet (fail)
  go_wp2_with fail
  go_loopw [15] (fun s15 wr => ∃ i : Nat, s15 = .int .i64 (i : Int) ∧ i ≤ z ∧ Nmd w wr p A n c a b (z : Int) (valU (l.take i) : Int)) (fun s15 _ => z - (intOf s15).toNat)
  case atStart => exact ⟨0, rfl, by omega, ⟨HB.out.1.as rfl, (Only.refl _ _).drewN _⟩⟩
  case round =>
    obtain ⟨i, rfl, hi, hN, hO⟩ := hrel
    have hby := HB.out.2.only hO (fun a' _ hlt e => by
      have e2 : a'.block = p := e
      omega)
    have HO := Lib.hid hO
    have HN := Lib.hid hN
    have q1 := hN.cell 1
    have q2 := hN.cell 2
    have q4 := hN.cell 4
    have qf := hN.frozen 4
    simp at q1 q2 q4
    clear c0 c3 hO hN
    by_cases hlt : i < z
    · obtain ⟨g, o, rfl, hg, hcell⟩ := hby.at (k := i) (by omega)
      have i0 : (0 : Int) ≤ (i : Int) := by omega
      have i1 : (i : Int) < (z : Int) := by omega
      have i8 : (i : Int) ≤ 8 := by omega
      have kn : i < l.length := by have := HL.out; omega
      have hr := at_in l i
      have b1 := andNot128 (at_ l i) hr.1 hr.2
      clear hby
      go_wp2_with fail
      go_region
      all_goals
        go_wp2
        have HF : Hid (Nmd w (wr.setCell ⟨p, 4, none⟩ (.int .i64 (bits .or .i64 (valU (l.take i) : Int) (wrap64 (at_ l i % 128 * 2 ^ (7 * i)))))).drew p (some ⟨g, o, none⟩) n c a b (z : Int) (valU (l.take (i + 1)) : Int)) := Lib.hid (by
          rw [step7 (by omega) kn]
          refine ⟨?_, (HO.out.put _ fun _ => rfl).drew⟩
          exact (Blk.put HN.out 4 _).drew)
        refine ⟨⟨i + 1, by go_num, by omega, HF.out⟩, ?_⟩
        simp [intOf]
        omega
    · have hiz : i = z := by omega
      subst hiz
      have i1 : ¬ (i : Int) < (i : Int) := by omega
      have HF : Hid (Nmd w wr p A n c a b (i : Int) (valU (l.take i) : Int)) := Lib.hid ⟨HN.out, HO.out⟩
      clear hby
      by_cases ha : (valU (l.take i) : Int) < a
      · have d1 : decide ((valU (l.take i) : Int) < a) = true := by simpa using ha
        have HR : Hid (outE (valU (l.take i) : Int) a b = 4) := Lib.hid (by unfold outE; rw [if_neg]; simp; omega)
        clear ha
        go_wp2_with fail
        go_quiet (fail)
        go_wp2
        go_ret
        exact ⟨by rw [HR.out]; rfl, HF.out.1.as rfl, HF.out.2.drewN _⟩
      · have d1 : decide ((valU (l.take i) : Int) < a) = false := by simpa using ha
        by_cases hb2 : b < (valU (l.take i) : Int)
        · have d2 : decide (b < (valU (l.take i) : Int)) = true := by simpa using hb2
          have HR : Hid (outE (valU (l.take i) : Int) a b = 4) := Lib.hid (by unfold outE; rw [if_neg]; simp; omega)
          clear ha hb2
          go_wp2_with fail
          go_quiet (fail)
          go_wp2
          go_ret
          exact ⟨by rw [HR.out]; rfl, HF.out.1.as rfl, HF.out.2.drewN _⟩
        · have d2 : decide (b < (valU (l.take i) : Int)) = false := by simpa using hb2
          have HR : Hid (outE (valU (l.take i) : Int) a b = 0) := Lib.hid (by unfold outE; rw [if_pos]; simp; omega)
          clear ha hb2
          go_wp2_with fail
          go_quiet (fail)
          go_wp2
          go_ret
          exact ⟨by rw [HR.out]; rfl, HF.out.1.as rfl, HF.out.2.drewN _⟩

end Go.Proofs.Ytkpdcgikmjhhfaa.Pk
