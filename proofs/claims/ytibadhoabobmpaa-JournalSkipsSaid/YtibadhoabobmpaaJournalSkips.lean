/- What follows of P8.1: what stands behind the records, of elder epochs, plays no part: a journal begun anew over an elder one tells its own alone; for any two lists of records. No conditions. -/
import Derived.Test.YtibadhoabobmpaaJlS
import Derived.Test.YtibadhoabobmpaaBa
set_option maxRecDepth 100000
namespace Go.Proofs.Ytibadhoabobmpaa.journalSkips
open Go.ChangeShapes Go.WideShapes Go.ChangeAt Go.RowKit
set_option linter.unusedVariables false

theorem own : ownKnob Try.prog.godebug = none := by kernel_rfl

open Qu (Blk)
open Mv (Only Fresh)
open By (Own8 Bys)
open Dk (DS dsNew)
open Dd (Lay At Tidy Pl)
open Jr (JS newE blankJ openJ Fit Recs new_is Recd ownBlock_any begunOf total lastE)
open Hk (Rin)
open Jl

theorem outside (w : World) (A0 A1 : Option Addr) (n0 c0 n1 c1 : Nat) (h0 : n0 ≤ 9223372036854775807) (h1 : n1 ≤ 9223372036854775807) (h : ¬ (n0 ≤ 10 ∧ n1 ≤ 10)) :
    Calls Try.prog 5 #[.slice A0 n0 c0, .slice A1 n1 c1] w fun e w' => e = .returned (.bool true) ∧ Below w.heap.size w w' := by
  have HA := Lib.hid (awake_any w)
  by_cases g0 : n0 ≤ 10
  case' neg =>
    have b0 : (10 : Int) < (n0 : Int) := by omega
    have c0' : decide (10 < n0) = true := by simp; omega
  case' pos =>
    have b0 : ¬ (10 : Int) < (n0 : Int) := by omega
    have c0' : decide (10 < n0) = false := by simp; omega
    have b3 : (10 : Int) < (n1 : Int) := by omega
    have c3' : decide (10 < n1) = true := by simp; omega
  all_goals
    clear h
    go_enter Try.func5, Try.ntmps5
    go_wp2_with (first | (refine HA.out.mono ?_; rintro r w1 ⟨rfl, hb⟩))
    go_ret
    exact ⟨rfl, hb⟩

/-- What is known behind both puts. -/
structure Both2 (a b : Recs) (L : List (List UInt8)) (d : DS) (na nb : Nat) : Prop where
  la : a.length = na
  lb : b.length = nb
  none : nb = 0 → (openJ d 0 90 5).l.length = na
  some : nb ≠ 0 → (openJ d 0 90 5).l = L ∧ (openJ d 0 90 5).begun = 4

set_option maxRecDepth 100000 in
set_option maxHeartbeats 4000000 in
theorem walk (w : World) (A0 : Option Addr) (n0 c0 : Nat) (f0 : Nat → List UInt8) (hI0 : Rin w A0 n0 f0) (hn0 : n0 ≤ 9223372036854775807) (A1 : Option Addr) (n1 c1 : Nat) (f1 : Nat → List UInt8) (hI1 : Rin w A1 n1 f1) (hn1 : n1 ≤ 9223372036854775807) :
    Calls Try.prog 5 #[.slice A0 n0 c0, .slice A1 n1 c1] w fun e w' => e = .returned (.bool true) ∧ Below w.heap.size w w' := by
  by_cases hin : n0 ≤ 10 ∧ n1 ≤ 10
  case neg => exact outside w A0 A1 n0 c0 n1 c1 hn0 hn1 hin
  case pos =>
  obtain ⟨g0, g1⟩ := hin
  have b0 : ¬ (10 : Int) < (n0 : Int) := by omega
  have c0' : decide (10 < n0) = false := by simp; omega
  have b3 : ¬ (10 : Int) < (n1 : Int) := by omega
  have c3' : decide (10 < n1) = false := by simp; omega
  have HI := Lib.hid (And.intro hI0 hI1)
  clear hI0 hI1
  go_enter Try.func5, Try.ntmps5
  go_wp2_with fail
  refine (Dd.new_ok w 90 (by omega) (by omega)).mono ?_
  rintro r w1 ⟨q, rfl, hq, hlo, hb⟩
  have HN := Lib.hid (pair_new hq hlo hb (by rw [dsNew_n]; omega) (by show 0 ≤ _; omega) 0 90 3 (by omega) (new_is (by rw [dsNew_n]; omega) (by omega) (by omega) rfl))
  clear hq hlo hb
  go_wp2_with fail
  refine HN.out.mono ?_
  rintro r w2 ⟨x, rfl, hP, k2⟩
  have HP := Lib.hid hP
  clear hP k2 HN
  go_wp2_with fail
  refine (awake_any w2).mono ?_
  rintro r w3 ⟨rfl, k3⟩
  have HP3 := Lib.hid (HP.out.later k3)
  clear k3 HP b0 c0' b3 c3'
  have HTR : Hid (Trio w w3 x w.heap.size w1.heap.size q ⟨dsNew 90, blankJ 0 90 3, [], 0⟩ none 0) := Lib.hid ⟨none, 0, [], [], HP3.out, ⟨World.ownsRow_nil _ _ _ _, rfl, fun i v hv => by simp at hv⟩, fun g hg => by cases hg⟩
  have HPU : Hid (Calls Try.prog 30 #[.pointer (some ⟨x, 0, none⟩), .slice none 0 0, .slice A0 n0 c0] w3 (PutsE w x w.heap.size w1.heap.size q (putN f0 n0 0 ⟨dsNew 90, blankJ 0 90 3, [], 0⟩))) := Lib.hid (puts_any w w3 x w.heap.size w1.heap.size 0 n0 c0 q (dsNew 90) (blankJ 0 90 3) [] none A0 f0 HTR.out HI.out.1 (by omega) (by show 0 ≤ 1000; omega))
  go_wp2_with fail
  refine HPU.out.mono ?_
  rintro r w5 ⟨A6, c6, rfl, hT5⟩
  obtain ⟨ra, ca, la, alla, oka⟩ := calm_put f0 (e := 3) (m := 1) (by omega) (by omega) n0 0 ⟨dsNew 90, blankJ 0 90 3, [], 0⟩ [] (calm_new 3 1 (by omega)) rfl rfl (by show 0 + n0 ≤ 10; omega)
  obtain ⟨S, hS⟩ : ∃ S, putN f0 n0 0 ⟨dsNew 90, blankJ 0 90 3, [], 0⟩ = S := ⟨_, rfl⟩
  rw [hS] at hT5 ca alla oka
  rw [hS]
  obtain ⟨A7, c7, vs7, us7, hP7, _, _⟩ := hT5.some
  have hN7 := pair_new hP7.disk hP7.lo hP7.below (by rw [ca.n]; omega) hP7.fit.armed 0 90 4 (by omega) (new_is (by rw [ca.n]; omega) (by omega) (by omega) ca.on)
  have HN7 := Lib.hid hN7
  have HCA : Hid (Jl.Calm S.d S.j ra 3 1 ∧ ra.length = n0) := Lib.hid ⟨ca, la.trans (Nat.zero_add _)⟩
  clear hN7 hP7 ca la alla oka hT5 hS HPU HTR HP3
  go_wp2_with fail
  refine HN7.out.mono ?_
  rintro r w6 ⟨x6, rfl, hP6, k6⟩
  have HP6 := Lib.hid hP6
  clear hP6 k6 HN7
  have HTR : Hid (Trio w w6 x6 w.heap.size w5.heap.size q ⟨S.d, blankJ 0 90 4, [], 0⟩ none 0) := Lib.hid ⟨none, 0, [], [], HP6.out, ⟨World.ownsRow_nil _ _ _ _, rfl, fun i v hv => by simp at hv⟩, fun g hg => by cases hg⟩
  have HPU : Hid (Calls Try.prog 30 #[.pointer (some ⟨x6, 0, none⟩), .slice none 0 0, .slice A1 n1 c1] w6 (PutsE w x6 w.heap.size w5.heap.size q (putN f1 n1 0 ⟨S.d, blankJ 0 90 4, [], 0⟩))) := Lib.hid (puts_any w w6 x6 w.heap.size w5.heap.size 0 n1 c1 q S.d (blankJ 0 90 4) [] none A1 f1 HTR.out HI.out.2 (by omega) (by show 0 ≤ 1000; omega))
  go_wp2_with fail
  refine HPU.out.mono ?_
  rintro r w7 ⟨A8, c8, rfl, hT8⟩
  obtain ⟨rb, cb, lb, allb, okb⟩ := calm_put f1 (e := 4) (m := 4) (by omega) (by omega) n1 0 ⟨S.d, blankJ 0 90 4, [], 0⟩ [] (HCA.out.1.anew (by omega) (by omega)) rfl rfl (by show 0 + n1 ≤ 10; omega)
  have hlb : rb.length = n1 := lb.trans (Nat.zero_add _)
  have hd0 : n1 = 0 → (putN f1 n1 0 ⟨S.d, blankJ 0 90 4, [], 0⟩).d = S.d := fun h => by rw [h]; rfl
  obtain ⟨T, hT⟩ : ∃ T, putN f1 n1 0 ⟨S.d, blankJ 0 90 4, [], 0⟩ = T := ⟨_, rfl⟩
  rw [hT] at hT8 cb allb okb hd0
  rw [hT]
  obtain ⟨L, hL⟩ : ∃ L, rb.map (·.1) = L := ⟨_, rfl⟩
  have HB2 : Hid (Both2 ra rb L T.d n0 n1) := Lib.hid ⟨HCA.out.2, hlb, fun h => by
      rw [hd0 h, HCA.out.1.open_ (by omega) (by rw [HCA.out.2]; omega) (Jr.lastE_le ra 1 HCA.out.1.rise).1 5]
      show (ra.map (·.1)).length = n0
      rw [List.length_map, HCA.out.2], fun h => by
      have hne : rb ≠ [] := fun e => by rw [e] at hlb; exact h hlb.symm
      have h4 := (lastE_all rb 1 cb.all (by omega)).2 hne
      rw [cb.open_ (by omega) (by rw [hlb]; omega) (by omega) 5]
      refine ⟨hL, ?_⟩
      show begunOf [] 0 rb = 4
      cases rb with
      | nil => exact absurd rfl hne
      | cons r t => exact cb.all r (List.mem_cons_self ..)⟩
  obtain ⟨A9, c9, vs9, us9, hP9, hR9, _⟩ := hT8.some
  have hN9 := pair_open hP9.disk hP9.lo hP9.below (by rw [cb.n]; omega) hP9.fit.armed 0 90 5 (by omega) (new_is (by rw [cb.n]; omega) (by omega) (by omega) cb.on)
  have HN9 := Lib.hid hN9
  have HR9 := Lib.hid hR9
  have hal : T.all.length = n1 := by rw [allb, List.length_map, hlb]
  have hok : T.ok = n1 := by rw [okb, hlb]
  have HAB : Hid (T.all = L ∧ T.all.length = n1) := Lib.hid ⟨by rw [allb, hL], hal⟩
  rw [hal, hok]
  clear hN9 hP9 hR9 cb lb allb okb hT8 hT HPU HTR HP6 hlb hd0 hal hok HCA hL
  go_wp2_with fail
  refine HN9.out.mono ?_
  rintro r w8 ⟨x8, A10, c10, vs10, rfl, hP10, k10⟩
  have HP10 := Lib.hid (And.intro hP10 k10)
  have HRE := Lib.hid (pair_records hP10)
  have HFI : Hid (∀ u, Below w8.heap.size w8 u → Calls Try.prog 33 #[.pointer (some ⟨x8, 0, none⟩)] u fun e w' => e = .returned (.int .u32 ((openJ T.d 0 90 5).begun : Int)) ∧ w' = u) := Lib.hid (fun u hu => first_any u x8 _ (HP10.out.1.later hu).cells.1)
  clear hP10 k10 HN9
  have e1 : ((n1 : Int) != (n1 : Int)) = false := by simp
  by_cases hz : n1 = 0
  · have e2 : ((n1 : Int) == 0) = true := by rw [hz]; rfl
    have hl := HB2.out.none hz
    have HRE2 : Hid (Calls Try.prog 31 #[.pointer (some ⟨x8, 0, none⟩)] w8 fun e w' => ∃ A' c', e = .returned (.slice A' n0 c') ∧ Below w8.heap.size w8 w') := Lib.hid (HRE.out.mono fun e w' ⟨A', c', us, he, _, hb⟩ => ⟨A', c', by rw [he, hl], hb⟩)
    have HZ := Lib.hid hz
    clear hz hl HRE
    go_wp2_with (first | (go_at_call 31; (with_reducible refine HRE2.out.mono ?_); rintro r w9 ⟨A11, c11, rfl, k11⟩))
    go_ret
    exact ⟨by simp, HP10.out.1.below.trans (k11.mono HP10.out.1.below.size)⟩
  · have e2 : ((n1 : Int) == 0) = false := beq_eq_false_iff_ne.2 (by omega)
    obtain ⟨h1, h2⟩ := HB2.out.some hz
    rw [h1] at HRE
    rw [h2] at HFI
    have HZ := Lib.hid hz
    clear hz h1 h2
    go_wp2_with fail
    refine HRE.out.mono ?_
    rintro r w9 ⟨A11, c11, us11, rfl, hTo, k11⟩
    have HRW : Hid (Calls Try.prog 32 #[.slice A11 L.length c11, .slice A8 n1 c8] w9 fun e w' => e = .returned (.bool true) ∧ Hl.Drawn w9 w') := Lib.hid (by
      have hr : Recd w9 w.heap.size A8 T.all.length c8 us9 T.all := HR9.out.only (Mv.Only.ofBelow (HP10.out.2.trans (k11.mono HP10.out.2.size)) fun _ => False) (fun _ _ h => h)
      have h := Hr.rows_any A11 A8 L.length T.all.length c11 c8 L T.all w9.heap.size w9 (Recd.rws hTo.rows) (Recd.rws hr) (by unfold maxLen; rw [← HAB.out.1, HAB.out.2]; omega) (by unfold maxLen; rw [HAB.out.2]; omega)
      rw [HAB.out.2, HAB.out.1, beq_self_eq_true] at h
      exact h)
    have K11 := Lib.hid k11
    clear hTo k11 HRE
    go_wp2_with (first
      | (go_at_call 32; (with_reducible refine HRW.out.mono ?_); rintro r w10 ⟨rfl, hDr⟩; have HK12 := Lib.hid (K11.out.trans (Below.mono (hDr.below w9.heap.size) K11.out.size)))
      | (go_at_call 33; (with_reducible refine (HFI.out w10 HK12.out).mono ?_); rintro r w11 ⟨rfl, hw⟩; rw [hw]; clear hw w11))
    go_ret
    exact ⟨rfl, (HP10.out.1.below.trans (K11.out.mono HP10.out.1.below.size)).trans (hDr.below _)⟩

set_option maxRecDepth 100000 in
theorem lifted (os : Os) (started : os.Started) (H : Type) (enc : TypeId × Value → H) :
    ReturnsInHanded {} Try.checked os 5 .any (Rows.journalSkipsSpec.pre6 enc Try.prog Try.f5 Rows.journalSkipsRow.domain false) (Rows.journalSkipsSpec.post enc Try.prog Try.f5 false true false false) := by
  refine returnsInHanded_of_change (C := Try.checked) own started (by kernel_rfl) Try.func5
    (ChangeSpec.witness6 (enc := enc) (C := Try.checked) false ⟨#[], #[.slice none 0 0, .slice none 0 0], []⟩ 8 (by kernel_rfl) (by kernel_rfl) (by kernel_rfl) (by kernel_rfl)) ?_
  intro W base args ds gs before hval0 hW hcnd _
  have hval : ∀ (j : Nat) t v, Try.f5.params[j]? = some t → args[j]? = some v → Value.okWide Try.prog W .any base t v := hval0
  have hW' := hW
  obtain ⟨p, q, hA0, hV, rfl, hfz, hnd⟩ := hW
  have hA : DataW.TrodAll enc Try.prog W 0 (fun _ => true) true Try.f5.params.toList args.toList ds p := hA0
  rw [Try.params5] at hA hval
  obtain ⟨v0, vs0, d0, ds0, p0, q0, hargs, rfl, rfl, h0, r0⟩ := trodAll_cons hA
  obtain ⟨v1, vs1, d1, ds1, p1, q1, rfl, rfl, rfl, h1, r1⟩ := trodAll_cons r0
  obtain ⟨rfl, rfl, rfl⟩ := trodAll_nil r1
  obtain rfl : args = #[v0, v1] := by cases args; simp_all
  obtain ⟨A0, n0, c0, f0, rfl, x0, y0⟩ := Hk.open_rows_bytes (hval 0 51 v0 rfl rfl) h0
  obtain ⟨A1, n1, c1, f1, rfl, x1, y1⟩ := Hk.open_rows_bytes (hval 1 51 v1 rfl rfl) h1
  refine (walk W A0 n0 c0 f0 x0 y0 A1 n1 c1 f1 x1 y1).mono fun e W' ⟨he, hb⟩ => ?_
  subst he
  exact ⟨_, rfl, Hk.closeLaw (tb := 4) (by kernel_rfl) (by kernel_rfl) rfl rfl rfl Try.underlying4 hW' hb⟩

theorem over : Rows.journalSkipsRow.holds Try.pinned (OpenSpec.ofChange Rows.journalSkipsSpec) :=
  OpenClaim.holds_of_wide 5 Try.f5 rfl rfl rfl rfl rfl rfl rfl ⟨rfl, rfl, rfl, rfl, rfl⟩ rfl rfl rfl rfl rfl (by kernel_rfl) Try.func5 (by kernel_rfl)
    (of_decide_eq_true (by kernel_rfl)) (by unfold Func.isWrapper; first | (rw [if_pos (by decide +kernel)]; kernel_rfl) | (rw [if_neg (by decide +kernel)]; exact ⟨rfl, rfl⟩))
    (fun os started H enc _ => lifted os started H enc)

/-- The statement. -/
theorem proved : Rows.JournalSkipsSaid :=
  over
end Go.Proofs.Ytibadhoabobmpaa.journalSkips
