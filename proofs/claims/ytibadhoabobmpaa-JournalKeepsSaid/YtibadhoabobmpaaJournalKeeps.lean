/- P8.3: of records of which the last ones were under way when power went, at whichever call, and whatever stays of what was not sure, twice over: those that were OK are there, and perhaps one more, whole; no others; for every list of records and every slice of keeps. No conditions. -/
import Derived.Test.YtibadhoabobmpaaJlV
import Derived.Test.YtibadhoabobmpaaBa
set_option maxRecDepth 100000
namespace Go.Proofs.Ytibadhoabobmpaa.journalKeeps
open Go.ChangeShapes Go.WideShapes Go.ChangeAt Go.RowKit
set_option linter.unusedVariables false

theorem own : ownKnob Try.prog.godebug = none := by kernel_rfl

open Qu (Blk)
open Mv (Only Fresh)
open By (Own8 Bys cellsB cellsB_length)
open Dk (DS dsNew crashD startD armD)
open Dd (Lay At Tidy Pl)
open Jr (JS newE blankJ openJ Fit Live Puts Recs Sound new_is Recd ownBlock_any)
open Hk (Rin)
open Jl

/-- A keep that came in. -/
structure Keep (w : World) (A : Option Addr) (n : Nat) (f : Nat → Int) : Prop where
  ints : Hl.Ints w w.heap.size A n f
  fs : ∀ k, k < n → -9223372036854775808 ≤ f k ∧ f k ≤ 9223372036854775807

theorem Keep.there {w : World} {A : Option Addr} {n : Nat} {f : Nat → Int} (h : Keep w A n f) : ∀ a, A = some a → n ≠ 0 → a.block < w.heap.size := fun a ha hn => by
  obtain ⟨b, o, h1, h2, _⟩ := h.ints 0 (by omega)
  rw [ha] at h1
  injection h1 with h1
  rw [h1]
  exact h2

theorem own_lower' {w : World} {B B' n c : Nat} {A : Option Addr} {vs : List Value} {l : List (List UInt8)} (h : Recd w B A n c vs l) (hB : B' ≤ B) : Recd w B' A n c vs l :=
  ⟨Lf.own_lower h.own hB, h.len, fun i v hv => by
    obtain ⟨z, z1, z2⟩ := h.each i v hv
    exact ⟨z, z1, Lf.own_lower z2 hB⟩⟩

theorem rws_take {w : World} {M n k : Nat} {A : Option Addr} {ls : List (List UInt8)} (h : Hr.Rws w M A n ls) (hk : k ≤ n) : Hr.Rws w M A k (ls.take k) := ⟨by rw [List.length_take, h.len]; omega, fun j l hj => by
  have hjk : j < k := by
    have := (List.getElem?_eq_some_iff.1 hj).1
    rw [List.length_take] at this
    omega
  rw [List.getElem?_take, if_pos hjk] at hj
  exact h.each j l hj⟩

theorem outside (w : World) (A0 A2 A3 A5 : Option Addr) (n0 c0 n2 c2 n3 c3 n5 c5 : Nat) (a1 a4 : Int) (h0 : n0 ≤ 9223372036854775807) (h2 : n2 ≤ 9223372036854775807) (h3 : n3 ≤ 9223372036854775807) (h5 : n5 ≤ 9223372036854775807) (h : ¬ (n0 ≤ 12 ∧ n3 ≤ 12 ∧ n2 ≤ 40 ∧ n5 ≤ 40)) :
    Calls Try.prog 4 #[.slice A0 n0 c0, .int .i64 a1, .slice A2 n2 c2, .slice A3 n3 c3, .int .i64 a4, .slice A5 n5 c5] w fun e w' => e = .returned (.bool true) ∧ Below w.heap.size w w' := by
  have HA := Lib.hid (awake_any w)
  by_cases g0 : n0 ≤ 12
  case' neg =>
    have b0 : (12 : Int) < (n0 : Int) := by omega
    have c0' : decide (12 < n0) = true := by simp; omega
  case' pos =>
    have b0 : ¬ (12 : Int) < (n0 : Int) := by omega
    have c0' : decide (12 < n0) = false := by simp; omega
    by_cases g3 : n3 ≤ 12
    case' neg =>
      have b3 : (12 : Int) < (n3 : Int) := by omega
      have c3' : decide (12 < n3) = true := by simp; omega
    case' pos =>
      have b3 : ¬ (12 : Int) < (n3 : Int) := by omega
      have c3' : decide (12 < n3) = false := by simp; omega
      by_cases g2 : n2 ≤ 40
      case' neg =>
        have b2 : (40 : Int) < (n2 : Int) := by omega
        have c2' : decide (40 < n2) = true := by simp; omega
      case' pos =>
        have b2 : ¬ (40 : Int) < (n2 : Int) := by omega
        have c2' : decide (40 < n2) = false := by simp; omega
        have b5 : (40 : Int) < (n5 : Int) := by omega
        have c5' : decide (40 < n5) = true := by simp; omega
  all_goals
    clear h
    go_enter Try.func4, Try.ntmps4
    go_wp2_with (first | (refine HA.out.mono ?_; rintro r w1 ⟨rfl, hb⟩))
    go_ret
    exact ⟨rfl, hb⟩

set_option maxRecDepth 100000 in
set_option maxHeartbeats 4000000 in
theorem walk (w : World) (A0 : Option Addr) (n0 c0 : Nat) (f0 : Nat → List UInt8) (hI0 : Rin w A0 n0 f0) (hn0 : n0 ≤ 9223372036854775807) (a1 : Int) (wf1 : (Lit.int .i64 a1).wf = true)
    (A2 : Option Addr) (n2 c2 : Nat) (f2 : Nat → Int) (hA2 : Hl.Ints w w.heap.size A2 n2 f2) (hn2 : n2 ≤ 9223372036854775807) (hf2 : ∀ k, k < n2 → -9223372036854775808 ≤ f2 k ∧ f2 k ≤ 9223372036854775807)
    (A3 : Option Addr) (n3 c3 : Nat) (f3 : Nat → List UInt8) (hI3 : Rin w A3 n3 f3) (hn3 : n3 ≤ 9223372036854775807) (a4 : Int) (wf4 : (Lit.int .i64 a4).wf = true)
    (A5 : Option Addr) (n5 c5 : Nat) (f5 : Nat → Int) (hA5 : Hl.Ints w w.heap.size A5 n5 f5) (hn5 : n5 ≤ 9223372036854775807) (hf5 : ∀ k, k < n5 → -9223372036854775808 ≤ f5 k ∧ f5 k ≤ 9223372036854775807) :
    Calls Try.prog 4 #[.slice A0 n0 c0, .int .i64 a1, .slice A2 n2 c2, .slice A3 n3 c3, .int .i64 a4, .slice A5 n5 c5] w fun e w' => e = .returned (.bool true) ∧ Below w.heap.size w w' := by
  by_cases hin : n0 ≤ 12 ∧ n3 ≤ 12 ∧ n2 ≤ 40 ∧ n5 ≤ 40
  case neg => exact outside w A0 A2 A3 A5 n0 c0 n2 c2 n3 c3 n5 c5 a1 a4 hn0 hn2 hn3 hn5 hin
  case pos =>
  obtain ⟨g0, g3, g2, g5⟩ := hin
  have b0 : ¬ (12 : Int) < (n0 : Int) := by omega
  have c0' : decide (12 < n0) = false := by simp; omega
  have b3 : ¬ (12 : Int) < (n3 : Int) := by omega
  have c3' : decide (12 < n3) = false := by simp; omega
  have b2 : ¬ (40 : Int) < (n2 : Int) := by omega
  have c2' : decide (40 < n2) = false := by simp; omega
  have b5 : ¬ (40 : Int) < (n5 : Int) := by omega
  have c5' : decide (40 < n5) = false := by simp; omega
  have HI := Lib.hid (And.intro hI0 hI3)
  have HK2 : Hid (Keep w A2 n2 f2) := Lib.hid ⟨hA2, hf2⟩
  have HK5 : Hid (Keep w A5 n5 f5) := Lib.hid ⟨hA5, hf5⟩
  have HM := Lib.hid (fun a u => mod_any a 60 (by omega) (by omega) u)
  have HML := Lib.hid (fun a => modN_lt a (show 1 ≤ 60 by omega))
  clear hI0 hI3 hA2 hf2 hA5 hf5 wf1 wf4
  go_enter Try.func4, Try.ntmps4
  go_wp2_with fail
  refine (Dd.new_ok w 90 (by omega) (by omega)).mono ?_
  rintro r w1 ⟨q, rfl, hq, hlo, hb⟩
  have HN := Lib.hid (pair_new hq hlo hb (by rw [dsNew_n]; omega) (by show 0 ≤ _; omega) 0 90 1 (by omega) (new_is (by rw [dsNew_n]; omega) (by omega) (by omega) rfl))
  clear hq hlo hb
  go_wp2_with fail
  refine HN.out.mono ?_
  rintro r w2 ⟨x, rfl, hP, k2⟩
  have HP := Lib.hid hP
  clear hP k2 HN
  go_wp2_with fail
  refine (awake_any w2).mono ?_
  rintro r w3 ⟨rfl, k3⟩
  have HP3 := Lib.hid (HP.out.later k3)
  clear k3 HP b0 c0' b3 c3' b2 c2' b5 c5'
  obtain ⟨t, ht⟩ : ∃ t, modN a1 60 = t := ⟨_, rfl⟩
  have HT : Hid (t < 60) := Lib.hid (by rw [← ht]; exact HML.out a1)
  have HM1 := Lib.hid (HM.out a1 w3)
  rw [ht] at HM1
  have HAR := Lib.hid (arm_at w3 w.heap.size q (dsNew 90) (t : Int) HP3.out.disk (by rw [dsNew_n]; omega) (by have := HT.out; omega))
  clear ht
  go_wp2_with (first | (refine HM1.out.mono ?_; rintro r w4 ⟨rfl, hw⟩; rw [hw]; clear hw w4))
  refine HAR.out.mono ?_
  rintro r w4 ⟨rfl, hD, hO⟩
  have HTR : Hid (Trio w w4 x w.heap.size w1.heap.size q ⟨armD (dsNew 90) (t : Int), blankJ 0 90 1, [], 0⟩ none 0) := Lib.hid ⟨none, 0, [], [], HP3.out.turned hD hO rfl (by show ((t : Int)).toNat ≤ _; have := HT.out; omega), ⟨World.ownsRow_nil _ _ _ _, rfl, fun i v hv => by simp at hv⟩, fun g hg => by cases hg⟩
  have HLV : Hid (Live (armD (dsNew 90) (t : Int)) (blankJ 0 90 1) []) := Lib.hid ⟨(Jr.sound_new (m := 90) (o := 0) (n := 90) (e := 1) (by omega) (by omega)).armed _, rfl, rfl, rfl, rfl, by show 1 ≤ 1; omega, by show 1 ≤ 254; omega, by show 90 < 4294967296; omega⟩
  clear hD hO HAR HM1
  have HPU : Hid (Calls Try.prog 30 #[.pointer (some ⟨x, 0, none⟩), .slice none 0 0, .slice A0 n0 c0] w4 (PutsE w x w.heap.size w1.heap.size q (putN f0 n0 0 ⟨armD (dsNew 90) (t : Int), blankJ 0 90 1, [], 0⟩))) := Lib.hid (puts_any w w4 x w.heap.size w1.heap.size 0 n0 c0 q (armD (dsNew 90) (t : Int)) (blankJ 0 90 1) [] none A0 f0 HTR.out HI.out.1 (by omega) (by show 0 ≤ 1000; omega))
  go_wp2_with fail
  refine HPU.out.mono ?_
  rintro r w5 ⟨A6, c6, rfl, hT5⟩
  have HS5 : Hid (Turn w w5 w.heap.size q (putN f0 n0 0 ⟨armD (dsNew 90) (t : Int), blankJ 0 90 1, [], 0⟩).d A6 c6 (putN f0 n0 0 ⟨armD (dsNew 90) (t : Int), blankJ 0 90 1, [], 0⟩).all ∧ Puts (putN f0 n0 0 ⟨armD (dsNew 90) (t : Int), blankJ 0 90 1, [], 0⟩).d 0 90 (0 + 1) (putN f0 n0 0 ⟨armD (dsNew 90) (t : Int), blankJ 0 90 1, [], 0⟩).all (putN f0 n0 0 ⟨armD (dsNew 90) (t : Int), blankJ 0 90 1, [], 0⟩).ok ∧ (putN f0 n0 0 ⟨armD (dsNew 90) (t : Int), blankJ 0 90 1, [], 0⟩).all.length ≤ 12) :=
    Lib.hid ⟨hT5.turn ((putN_n f0 n0 0 _).trans (dsNew_n 90)), putN_puts f0 n0 0 ⟨armD (dsNew 90) (t : Int), blankJ 0 90 1, [], 0⟩ [] HLV.out rfl rfl, by have := putN_len f0 n0 0 ⟨armD (dsNew 90) (t : Int), blankJ 0 90 1, [], 0⟩; have e : ([] : List (List UInt8)).length = 0 := rfl; have this' : _ ≤ ([] : List (List UInt8)).length + n0 := this; omega⟩
  clear hT5 HPU HTR HLV HP3
  generalize putN f0 n0 0 ⟨armD (dsNew 90) (t : Int), blankJ 0 90 1, [], 0⟩ = S at *
  go_wp2_with fail
  go_loopw [2, 17, 18, 19] (fun s2 s17 s18 s19 wr => ∃ (i : Nat) (s : PS) (Aa : Option Addr) (ca : Nat) (Ak : Option Addr) (nk ck : Nat) (fk : Nat → Int), s19 = .int .i64 (i : Int) ∧ s17 = .slice Aa s.all.length ca ∧ s18 = .int .i64 (s.ok : Int) ∧ s2 = .slice Ak nk ck ∧ i ≤ 2 ∧ Keep w Ak nk fk ∧ nk ≤ 40 ∧ Turn w wr w.heap.size q s.d Aa ca s.all ∧ Puts s.d 0 90 (i + 1) s.all s.ok ∧ s.all.length ≤ 12 + 12 * i) (fun _ _ _ s _ => 2 - (intOf s).toNat)
  case atStart => exact ⟨0, S, A6, c6, A2, n2, c2, f2, rfl, rfl, rfl, rfl, by omega, HK2.out, g2, HS5.out.1, HS5.out.2.1, by have := HS5.out.2.2; omega⟩
  case round =>
    clear HS5 HK2
    obtain ⟨i, s, Aa, ca, Ak, nk, ck, fk, rfl, rfl, rfl, rfl, hi, hK, hnk, hT, hPu, hal⟩ := hrel
    have HT := Lib.hid hT
    have HK := Lib.hid hK
    have i0 : (0 : Int) ≤ (i : Int) := by omega
    by_cases hlt : i < 2
    · have i1 : (i : Int) < 2 := by omega
      have HC := Lib.hid (crash_at wr w.heap.size q s.d Ak nk ck fk hT.disk (fun k hk => by
          obtain ⟨b, o, e1, e2, e3⟩ := hK.ints k hk
          exact ⟨b, o, e1, Nat.lt_of_lt_of_le e2 hT.below.size, (hT.below.cell (p := ⟨b, o + k, none⟩) e2).trans e3⟩) (fun a ha hn hh => by have := hK.there a ha hn; have := hT.lo _ hh; omega) (by omega) hK.fs (by rw [hT.n]; omega) (by rw [hT.n]; omega))
      obtain ⟨recs, hS, r1, r2, r3, r4⟩ := hPu.back nk fk
      have HSo := Lib.hid (And.intro hS r4)
      have HR := Lib.hid (And.intro r1 (And.intro r2 (And.intro r3 hal)))
      clear hT hK hPu hS r1 r2 r3 r4 hal
      go_wp2_with fail
      refine HC.out.mono ?_
      rintro r u1 ⟨rfl, hD1, hO1⟩
      have HT1 := Lib.hid (HT.out.turned hD1 hO1 (Jr.crashD_n _ _ _).1 (by rw [(Jr.crashD_n _ _ _).2.1]; omega))
      have HST := Lib.hid (start_at u1 w.heap.size q (crashD s.d nk fk) hD1 (by rw [HT1.out.n]; omega) (by rw [HT1.out.n]; omega))
      clear hD1 hO1 HC HT
      go_wp2_with fail
      refine HST.out.mono ?_
      rintro r u2 ⟨rfl, hD2, hO2⟩
      have HT2 := Lib.hid (HT1.out.turned hD2 hO2 (Jr.startD_n _).1 (by have := (Jr.startD_n (crashD s.d nk fk)).2.1; have := HT1.out.armed; omega))
      have HOF : Hid ((startD (crashD s.d nk fk)).off = false) := Lib.hid (Jr.startD_n _).2.2
      clear hD2 hO2 HST HT1
      generalize startD (crashD s.d nk fk) = d2 at *
      obtain ⟨E, hE⟩ : ∃ E : Nat, i + 2 = E := ⟨_, rfl⟩
      have hu : IntKind.u32.wrap (2 + (i : Int)) = (E : Int) := by rw [IntWalk.u32_in _ (by omega)]; omega
      have HE : Hid (i + 2 = E ∧ E ≤ 254) := Lib.hid ⟨hE, by omega⟩
      have HOP := Lib.hid (pair_open HT2.out.disk HT2.out.lo HT2.out.below (by rw [HT2.out.n]; omega) HT2.out.armed 0 90 E (by have := HE.out.2; omega) (new_is (by rw [HT2.out.n]; omega) (by omega) (by omega) HOF.out))
      have HL : Hid (Live d2 (openJ d2 0 90 E) recs) := Lib.hid (by
        have h := HSo.out.1
        rw [show i + 1 + 1 = E by omega] at h
        exact h.live HOF.out (by omega) (by omega) (by omega))
      clear hE
      go_wp2_with fail
      refine HOP.out.mono ?_
      rintro r u3 ⟨x3, A3', c3', vs3, rfl, hP, k3⟩
      have HP := Lib.hid (And.intro hP k3)
      have hRE := pair_records hP
      rw [show (openJ d2 0 90 E).l = recs.map (·.1) from HL.out.l] at hRE
      have HRE := Lib.hid hRE
      clear hP k3 hRE HOP hu
      go_wp2_with fail
      refine HRE.out.mono ?_
      rintro r u4 ⟨A4, c4, us4, rfl, hTo, k4⟩
      obtain ⟨R, hR⟩ : ∃ R, recs.map (·.1) = R := ⟨_, rfl⟩
      have hRl : R.length = recs.length := by rw [← hR, List.length_map]
      rw [hR] at hTo
      have HRR : Hid (R = s.all.take R.length ∧ recs.map (·.1) = R ∧ R.length = recs.length) := Lib.hid ⟨by rw [hRl, ← HSo.out.2, hR], hR, hRl⟩
      rw [hR]
      have HT4 := Lib.hid ((HT2.out.later HP.out.2).later k4)
      have HP4 := Lib.hid (HP.out.1.later k4)
      obtain ⟨us, hrows⟩ := HT4.out.rows
      have hcap := (Mv.own_cap hrows.own).1
      have HRW : Hid (Calls Try.prog 32 #[.slice A4 R.length c4, .slice Aa R.length ca] u4 fun e w' => e = .returned (.bool true) ∧ Hl.Drawn u4 w') := Lib.hid (by
        have h := Hr.rows_any A4 Aa R.length R.length c4 ca R (s.all.take R.length) u4.heap.size u4 (Recd.rws hTo.rows) (rws_take (Recd.rws hrows) (by have := HR.out; omega)) (by unfold maxLen; have := HR.out; omega) (by unfold maxLen; have := HR.out; omega)
        rw [← HRR.out.1, beq_self_eq_true] at h
        exact h)
      have HTo := Lib.hid hTo
      have n1 : ¬ (R.length : Int) < (s.ok : Int) := by have := HR.out; omega
      have n2 : ¬ (s.ok : Int) + 1 < (R.length : Int) := by have := HR.out; omega
      have n3 : ¬ (s.all.length : Int) < (R.length : Int) := by have := HR.out; omega
      have n4 : (R.length : Int) ≤ 1000 := by have := HR.out; omega
      have n5 : (s.ok : Int) ≤ 1000 := by have := HR.out; omega
      have n6 : R.length ≤ ca := by have := HR.out; omega
      have n7 : decide (R.length < s.ok) = false := by simp; omega
      have n8 : decide (s.ok + 1 < R.length) = false := by simp; omega
      have n9 : decide (s.all.length < R.length) = false := by simp; omega
      clear hrows hcap hTo hR hRl HRE
      go_wp2_with (first | (go_at_call 32; (with_reducible refine HRW.out.mono ?_); rintro r u5 ⟨rfl, hDr⟩))
      have k5 : Below u4.heap.size u4 u5 := hDr.below _
      have HT5 := Lib.hid (HT4.out.later k5)
      have HP5 := Lib.hid (HP4.out.later k5)
      have HRc : Hid (Recd u5 w.heap.size A4 R.length c4 us4 R ∧ ∀ g, (Value.slice A4 0 0).ownBlock = some g → (Value.slice A3' 0 0).ownBlock ≠ some g) := Lib.hid ⟨Recd.only (own_lower' HTo.out.rows (by have := HP.out.1.below.size; omega)) (Mv.Only.ofBelow k5 fun _ => False) (fun _ _ h => h), fun g hg hg' => by
        have q1 := (HTo.out.rows.own.lt g (by rw [← hg]; exact ownBlock_any _ _ _ _ _)).1
        have q2 := (HP.out.1.jat.rows.own.lt g (by rw [← hg']; exact ownBlock_any _ _ _ _ _)).2
        omega⟩
      clear k5 hDr n1 n2 n3 n5 n6 n7 n8 n9 HRW HT4 HP4 HTo HT2
      obtain ⟨t, ht⟩ : ∃ t, modN a4 60 = t := ⟨_, rfl⟩
      have HTt : Hid (t < 60) := Lib.hid (by rw [← ht]; exact HML.out a4)
      have HM1 := Lib.hid (HM.out a4 u5)
      rw [ht] at HM1
      have HAR := Lib.hid (arm_at u5 w.heap.size q d2 (t : Int) HT5.out.disk (by rw [HT5.out.n]; omega) (by have := HTt.out; omega))
      clear ht
      refine HM1.out.mono ?_
      rintro r u6 ⟨rfl, hw⟩
      rw [hw]
      clear hw u6
      go_wp2_with fail
      refine HAR.out.mono ?_
      rintro r u6 ⟨rfl, hD6, hO6⟩
      have HTR : Hid (Trio w u6 x3 w.heap.size u2.heap.size q ⟨armD d2 (t : Int), openJ d2 0 90 E, R, R.length⟩ A4 c4) := Lib.hid ⟨A3', c3', vs3, us4, HP5.out.turned hD6 hO6 rfl (by show ((t : Int)).toNat ≤ _; have := HTt.out; omega), Recd.disk HRc.out.1 HP5.out.disk.lay hO6, HRc.out.2⟩
      have HPU := Lib.hid (puts_any w u6 x3 w.heap.size u2.heap.size c4 n3 c3 q (armD d2 (t : Int)) (openJ d2 0 90 E) R A4 A3 f3 HTR.out HI.out.2 (by omega) (by have := HRR.out.2.2; have := HR.out; omega))
      have HLV := Lib.hid (Live.armed HL.out (t : Int))
      clear hD6 hO6 HAR HM1 HTR
      go_wp2_with fail
      refine HPU.out.mono ?_
      rintro r u7 ⟨A7, c7, rfl, hT7⟩
      have HS7 : Hid (Turn w u7 w.heap.size q (putN f3 n3 0 ⟨armD d2 (t : Int), openJ d2 0 90 E, R, R.length⟩).d A7 c7 (putN f3 n3 0 ⟨armD d2 (t : Int), openJ d2 0 90 E, R, R.length⟩).all ∧ Puts (putN f3 n3 0 ⟨armD d2 (t : Int), openJ d2 0 90 E, R, R.length⟩).d 0 90 (i + 1 + 1) (putN f3 n3 0 ⟨armD d2 (t : Int), openJ d2 0 90 E, R, R.length⟩).all (putN f3 n3 0 ⟨armD d2 (t : Int), openJ d2 0 90 E, R, R.length⟩).ok ∧ (putN f3 n3 0 ⟨armD d2 (t : Int), openJ d2 0 90 E, R, R.length⟩).all.length ≤ 12 + 12 * (i + 1)) :=
        Lib.hid ⟨hT7.turn ((putN_n f3 n3 0 _).trans HT5.out.n), by
            have h := putN_puts f3 n3 0 ⟨armD d2 (t : Int), openJ d2 0 90 E, R, R.length⟩ recs HLV.out (by show R = (openJ d2 0 90 E).l; rw [HL.out.l, HRR.out.2.1]) rfl
            rw [show i + 1 + 1 = E by have := HE.out.1; omega]
            exact h, by
            have h1 := putN_len f3 n3 0 ⟨armD d2 (t : Int), openJ d2 0 90 E, R, R.length⟩
            have h2 : _ ≤ R.length + n3 := h1
            have := HRR.out.2.2
            have := HR.out
            omega⟩
      clear hT7 HPU HLV
      generalize putN f3 n3 0 ⟨armD d2 (t : Int), openJ d2 0 90 E, R, R.length⟩ = S7 at *
      go_wp2_with fail
      exact ⟨⟨i + 1, S7, A7, c7, A5, n5, c5, f5, by go_num, rfl, rfl, rfl, by omega, HK5.out, g5, HS7.out.1, HS7.out.2.1, HS7.out.2.2⟩, by simp [intOf]; omega⟩
    · have i1 : ¬ (i : Int) < 2 := by omega
      clear hT hPu
      go_wp2_with fail
      go_ret
      exact ⟨rfl, HT.out.below⟩

set_option maxRecDepth 100000 in
theorem lifted (os : Os) (started : os.Started) (H : Type) (enc : TypeId × Value → H) :
    ReturnsInHanded {} Try.checked os 4 .any (Rows.journalKeepsSpec.pre6 enc Try.prog Try.f4 Rows.journalKeepsRow.domain false) (Rows.journalKeepsSpec.post enc Try.prog Try.f4 false true false false) := by
  refine returnsInHanded_of_change (C := Try.checked) own started (by kernel_rfl) Try.func4
    (ChangeSpec.witness6 (enc := enc) (C := Try.checked) false ⟨#[], #[.slice none 0 0, .int .i64 0, .slice none 0 0, .slice none 0 0, .int .i64 0, .slice none 0 0], []⟩ 8 (by kernel_rfl) (by kernel_rfl) (by kernel_rfl) (by kernel_rfl)) ?_
  intro W base args ds gs before hval0 hW hcnd _
  have hval : ∀ (j : Nat) t v, Try.f4.params[j]? = some t → args[j]? = some v → Value.okWide Try.prog W .any base t v := hval0
  have hW' := hW
  obtain ⟨p, q, hA0, hV, rfl, hfz, hnd⟩ := hW
  have hA : DataW.TrodAll enc Try.prog W 0 (fun _ => true) true Try.f4.params.toList args.toList ds p := hA0
  rw [Try.params4] at hA hval
  obtain ⟨v0, vs0, d0, ds0, p0, q0, hargs, rfl, rfl, h0, r0⟩ := trodAll_cons hA
  obtain ⟨v1, vs1, d1, ds1, p1, q1, rfl, rfl, rfl, h1, r1⟩ := trodAll_cons r0
  obtain ⟨v2, vs2, d2, ds2, p2, q2, rfl, rfl, rfl, h2, r2⟩ := trodAll_cons r1
  obtain ⟨v3, vs3, d3, ds3, p3, q3, rfl, rfl, rfl, h3, r3⟩ := trodAll_cons r2
  obtain ⟨v4, vs4, d4, ds4, p4, q4, rfl, rfl, rfl, h4, r4⟩ := trodAll_cons r3
  obtain ⟨v5, vs5, d5, ds5, p5, q5, rfl, rfl, rfl, h5, r5⟩ := trodAll_cons r4
  obtain ⟨rfl, rfl, rfl⟩ := trodAll_nil r5
  obtain rfl : args = #[v0, v1, v2, v3, v4, v5] := by cases args; simp_all
  obtain ⟨A0, n0, c0, f0, rfl, x0, y0⟩ := Hk.open_rows_bytes (hval 0 51 v0 rfl rfl) h0
  obtain ⟨a1, rfl, _, _, w1⟩ := open_int Try.underlying3 (hval 1 3 v1 rfl rfl) h1
  obtain ⟨A2, n2, c2, f2, rfl, x2, y2, z2, u2⟩ := Hk.open_ints_at Try.underlying39 Try.underlying3 (by kernel_rfl) (hval 2 39 v2 rfl rfl) h2
  obtain ⟨A3, n3, c3, f3, rfl, x3, y3⟩ := Hk.open_rows_bytes (hval 3 51 v3 rfl rfl) h3
  obtain ⟨a4, rfl, _, _, w4⟩ := open_int Try.underlying3 (hval 4 3 v4 rfl rfl) h4
  obtain ⟨A5, n5, c5, f5, rfl, x5, y5, z5, u5⟩ := Hk.open_ints_at Try.underlying39 Try.underlying3 (by kernel_rfl) (hval 5 39 v5 rfl rfl) h5
  refine (walk W A0 n0 c0 f0 x0 y0 a1 w1 A2 n2 c2 f2 x2 y2 z2 A3 n3 c3 f3 x3 y3 a4 w4 A5 n5 c5 f5 x5 y5 z5).mono fun e W' ⟨he, hb⟩ => ?_
  subst he
  exact ⟨_, rfl, Hk.closeLaw (tb := 4) (by kernel_rfl) (by kernel_rfl) rfl rfl rfl Try.underlying4 hW' hb⟩

theorem over : Rows.journalKeepsRow.holds Try.pinned (OpenSpec.ofChange Rows.journalKeepsSpec) :=
  OpenClaim.holds_of_wide 4 Try.f4 rfl rfl rfl rfl rfl rfl rfl ⟨rfl, rfl, rfl, rfl, rfl⟩ rfl rfl rfl rfl rfl (by kernel_rfl) Try.func4 (by kernel_rfl)
    (of_decide_eq_true (by kernel_rfl)) (by unfold Func.isWrapper; first | (rw [if_pos (by decide +kernel)]; kernel_rfl) | (rw [if_neg (by decide +kernel)]; exact ⟨rfl, rfl⟩))
    (fun os started H enc _ => lifted os started H enc)

/-- The statement. -/
theorem proved : Rows.JournalKeepsSaid :=
  over
end Go.Proofs.Ytibadhoabobmpaa.journalKeeps
