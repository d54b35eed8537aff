/- P8.1, P8.2: what may not be opened, and why, whatever place, number of sectors and epoch are asked for, power on or off; what a nil journal answers. No conditions. -/
import Derived.Test.YtibadhoabobmpaaJlT
import Derived.Test.YtibadhoabobmpaaJrE
import Derived.Test.YtibadhoabobmpaaBa
set_option maxRecDepth 100000
namespace Go.Proofs.Ytibadhoabobmpaa.journalErrors
open Go.ChangeShapes Go.WideShapes Go.ChangeAt Go.RowKit
set_option linter.unusedVariables false

theorem own : ownKnob Try.prog.godebug = none := by kernel_rfl

open Qu (Blk)
open Mv (Only)
open Dk (DS dsNew crashD RefAt)
open Dd (Lay At)
open Jr (newE blankJ openJ rblank_ok rblank_bad)
open Jl

/-- The landed disk and the document's, alike. -/
structure Beg (w wr : World) (Bq Bp : Nat) (q : Dd.Pl) (p : Dk.Place) (d : DS) : Prop where
  disk : Lay wr Bq q d
  ref : RefAt wr Bp p d
  below : Below w.heap.size w wr
  n : d.n = 10

theorem Beg.later {w wr w1 : World} {Bq Bp : Nat} {q : Dd.Pl} {p : Dk.Place} {d : DS} (h : Beg w wr Bq Bp q p d) (k : Below wr.heap.size wr w1) : Beg w w1 Bq Bp q p d :=
  ⟨h.disk.below k, h.ref.below k, h.below.trans (k.mono h.below.size), h.n⟩

theorem new_nat {d : DS} {o n : Int} {e : Nat} (h : newE d o n e = 0) : 0 ≤ o ∧ 1 ≤ n := by
  unfold newE at h
  split at h
  · cases h
  · constructor <;> omega

set_option maxRecDepth 100000 in
set_option maxHeartbeats 4000000 in
theorem walk (w : World) (a0 : Int) (wf0 : (Lit.int .i64 a0).wf = true) (a1 : Int) (wf1 : (Lit.int .i64 a1).wf = true) (a2 : Int) (wf2 : (Lit.int .u32 a2).wf = true) (a3 : Bool) :
    Calls Try.prog 7 #[.int .i64 a0, .int .i64 a1, .int .u32 a2, .bool a3] w fun e w' => e = .returned (.bool true) ∧ Below w.heap.size w w' := by
  obtain ⟨p1, p2⟩ := bounds_i64 wf0
  obtain ⟨q1, q2⟩ := bounds_i64 wf1
  have hb2 := bounds_u32 wf2
  obtain ⟨e, rfl⟩ : ∃ e : Nat, a2 = (e : Int) := ⟨a2.toNat, by omega⟩
  have he : e < 2 ^ 32 := by omega
  have HB := Lib.hid (And.intro (And.intro p1 p2) (And.intro (And.intro q1 q2) he))
  clear p1 p2 q1 q2 hb2 he wf0 wf1 wf2
  go_enter Try.func7, Try.ntmps7
  go_wp2_with fail
  refine (Dd.new_ok w 10 (by omega) (by omega)).mono ?_
  rintro r w1 ⟨q, rfl, hq, hlo, hb⟩
  have HQ := Lib.hid (And.intro hq hb)
  clear hq hlo hb
  go_wp2_with fail
  refine (Dk.rnew_any w1 10 (by omega)).mono ?_
  rintro r w2 ⟨p, rfl, hp, hlp, hb⟩
  have HP := Lib.hid (And.intro hp (And.intro hlp hb))
  clear hp hlp hb
  go_wp2_with fail
  refine (awake_any w2).mono ?_
  rintro r w3 ⟨rfl, k3⟩
  have HH : Hid (Beg w w3 w.heap.size w1.heap.size q p (dsNew 10) ∧ (∀ k, q.has k → ¬ p.has k) ∧ w.heap.size ≤ w1.heap.size) := Lib.hid ⟨⟨(HQ.out.1.lay.below HP.out.2.2).below k3, HP.out.1.below k3, (HQ.out.2.trans (HP.out.2.2.mono HQ.out.2.size)).trans (k3.mono (by have := HQ.out.2.size; have := HP.out.2.2.size; omega)), dsNew_n 10⟩, (fun k hk hk2 => by
    have := HQ.out.1.there k hk
    have := HP.out.2.1 k hk2
    omega), HQ.out.2.size⟩
  clear k3 HQ HP
  cases a3
  case' true =>
    have HC := Lib.hid (Dd.crash_lay w3 w.heap.size q (dsNew 10) none 0 0 (fun _ => 0) HH.out.1.disk (fun k hk => by omega) (fun a ha => by cases ha) (by omega) (fun k hk => by omega) (by rw [dsNew_n]; omega) (by rw [dsNew_n]; omega))
    go_wp2_with fail
    refine HC.out.mono ?_
    rintro r w4 ⟨rfl, hL, hO⟩
    have HC2 := Lib.hid (Dk.rcrash_any w4 w1.heap.size p (dsNew 10) none 0 0 (fun _ => 0) (HH.out.1.ref.only hO (fun i hi hs => HH.out.2.1 i hs hi)) (fun k hk => by omega) (fun a ha => by cases ha) (by omega) (fun k hk => by omega) (by rw [dsNew_n]; omega) (by rw [dsNew_n]; omega))
    have HO := Lib.hid (And.intro hL hO)
    clear hL hO HC
    go_wp2_with fail
    refine HC2.out.mono ?_
    rintro r w5 ⟨rfl, hR, hO2⟩
    have HX : Hid (Beg w w5 w.heap.size w1.heap.size q p (crashD (dsNew 10) 0 fun _ => 0)) := Lib.hid ⟨HO.out.1.only hO2 (fun i hi hs => HH.out.2.1 i hi hs), hR, (HH.out.1.below.trans (HO.out.2.toBelow HH.out.1.below.size (fun k hk hs => by have := HH.out.1.disk.from k hs; omega))).trans (hO2.toBelow (by have := HH.out.1.below.size; have := HO.out.2.size; omega) (fun k hk hs => by have := HH.out.1.ref.from k hs; have := HH.out.2.2; omega)), (Jr.crashD_n _ _ _).1.trans (dsNew_n 10)⟩
    clear hR hO2 HO HC2 HH
    generalize crashD (dsNew 10) 0 (fun _ => 0) = d at *
    generalize w5 = wx at *
  case' false =>
    go_wp2_with fail
    have HX : Hid (Beg w w3 w.heap.size w1.heap.size q p (dsNew 10)) := Lib.hid HH.out.1
    clear HH
    generalize dsNew 10 = d at *
    generalize w3 = wx at *
  all_goals
    have HNN := Lib.hid (fun u => new_nil a0 a1 e u)
    have HON := Lib.hid (fun u => open_nil a0 a1 e u)
    have HAN := Lib.hid (fun u v => add_nil u v)
    have HRN := Lib.hid (fun u => records_nil u)
    have HFN := Lib.hid (fun u => first_nil u)
    have HUN := Lib.hid (fun u => used_nil u)
    by_cases hE : newE d a0 a1 e = 0
    · obtain ⟨z0, z1⟩ := new_nat hE
      obtain ⟨o, rfl⟩ : ∃ o : Nat, a0 = (o : Int) := ⟨a0.toNat, by omega⟩
      obtain ⟨n, rfl⟩ : ∃ n : Nat, a1 = (n : Int) := ⟨a1.toNat, by omega⟩
      have HN := Lib.hid (new_ok wx w.heap.size q d o n e HX.out.disk (by rw [HX.out.n]; omega) HB.out.2.2 hE)
      have HO := Lib.hid (fun u (hu : Below wx.heap.size wx u) => open_ok u w.heap.size q d o n e (HX.out.later hu).disk (by rw [HX.out.n]; omega) HB.out.2.2 hE)
      have HR := Lib.hid (fun u (hu : Below wx.heap.size wx u) => rblank_ok u w1.heap.size p d o n e (HX.out.later hu).ref (by rw [HX.out.n]; omega) HB.out.2.2 hE)
      clear hE z0 z1
      go_wp2_with fail
      refine HN.out.mono ?_
      rintro r u1 ⟨x1, rfl, _, _, k1⟩
      have K1 := Lib.hid k1
      clear k1 HN
      go_wp2_with fail
      refine (HO.out u1 K1.out).mono ?_
      rintro r u2 ⟨x2, A2, c2, vs2, rfl, _, _, k2⟩
      have K2 := Lib.hid (K1.out.trans (k2.mono K1.out.size))
      clear k2 HO
      go_wp2_with fail
      refine (HR.out u2 K2.out).mono ?_
      rintro r u3 ⟨x3, rfl, _, _, k3⟩
      have K3 := Lib.hid (K2.out.trans (k3.mono K2.out.size))
      clear k3 HR
      go_wp2_with (first
        | (go_at_call 12; (with_reducible refine (HNN.out _).mono ?_); rintro r u4 ⟨rfl, rfl⟩)
        | (go_at_call 23; (with_reducible refine (HON.out _).mono ?_); rintro r u4 ⟨rfl, rfl⟩)
        | (go_at_call 26; (with_reducible refine (HAN.out _ _).mono ?_); rintro r u4 ⟨rfl, rfl⟩)
        | (go_at_call 31; (with_reducible refine (HRN.out _).mono ?_); rintro r u4 ⟨rfl, rfl⟩)
        | (go_at_call 33; (with_reducible refine (HFN.out _).mono ?_); rintro r u4 ⟨rfl, rfl⟩)
        | (go_at_call 35; (with_reducible refine (HUN.out _).mono ?_); rintro r u4 ⟨rfl, rfl⟩))
      all_goals (go_ret; exact ⟨rfl, (HX.out.below.trans (K3.out.mono HX.out.below.size)).trans ((Below.refl _ _).alloc (by have := HX.out.below.size; have := K3.out.size; omega) _)⟩)
    · have HN := Lib.hid (new_bad wx w.heap.size q d a0 a1 e HX.out.disk (by rw [HX.out.n]; omega) HB.out.1.1 HB.out.1.2 HB.out.2.1.1 HB.out.2.1.2 HB.out.2.2 hE)
      have HO := Lib.hid (open_bad wx w.heap.size q d a0 a1 e HX.out.disk (by rw [HX.out.n]; omega) HB.out.1.1 HB.out.1.2 HB.out.2.1.1 HB.out.2.1.2 HB.out.2.2 hE)
      have HR := Lib.hid (rblank_bad wx w1.heap.size p d a0 a1 e HX.out.ref (by rw [HX.out.n]; omega) HB.out.1.2 HB.out.2.1.2 HB.out.2.2 hE)
      generalize newE d a0 a1 e = E at *
      have b1 : (E == 0) = false := beq_eq_false_iff_ne.2 hE
      have b2 : (E != 0) = true := by rw [bne, b1]; rfl
      clear hE
      go_wp2_with (first
        | (go_at_call 12; (with_reducible refine HN.out.mono ?_); rintro r u4 ⟨rfl, rfl⟩)
        | (go_at_call 23; (with_reducible refine HO.out.mono ?_); rintro r u4 ⟨rfl, rfl⟩)
        | (go_at_call 13; (with_reducible refine HR.out.mono ?_); rintro r u4 ⟨rfl, rfl⟩)
        | (go_at_call 12; (with_reducible refine (HNN.out _).mono ?_); rintro r u4 ⟨rfl, rfl⟩)
        | (go_at_call 23; (with_reducible refine (HON.out _).mono ?_); rintro r u4 ⟨rfl, rfl⟩)
        | (go_at_call 26; (with_reducible refine (HAN.out _ _).mono ?_); rintro r u4 ⟨rfl, rfl⟩)
        | (go_at_call 31; (with_reducible refine (HRN.out _).mono ?_); rintro r u4 ⟨rfl, rfl⟩)
        | (go_at_call 33; (with_reducible refine (HFN.out _).mono ?_); rintro r u4 ⟨rfl, rfl⟩)
        | (go_at_call 35; (with_reducible refine (HUN.out _).mono ?_); rintro r u4 ⟨rfl, rfl⟩))
      all_goals (go_ret; exact ⟨rfl, HX.out.below.alloc HX.out.below.size _⟩)

set_option maxRecDepth 100000 in
theorem lifted (os : Os) (started : os.Started) (H : Type) (enc : TypeId × Value → H) :
    ReturnsInHanded {} Try.checked os 7 .any (Rows.journalErrorsSpec.pre6 enc Try.prog Try.f7 Rows.journalErrorsRow.domain false) (Rows.journalErrorsSpec.post enc Try.prog Try.f7 false true false false) := by
  refine returnsInHanded_of_change (C := Try.checked) own started (by kernel_rfl) Try.func7
    (ChangeSpec.witness6 (enc := enc) (C := Try.checked) false ⟨#[], #[.int .i64 0, .int .i64 0, .int .u32 0, .bool false], []⟩ 8 (by kernel_rfl) (by kernel_rfl) (by kernel_rfl) (by kernel_rfl)) ?_
  intro W base args ds gs before hval0 hW hcnd _
  have hval : ∀ (j : Nat) t v, Try.f7.params[j]? = some t → args[j]? = some v → Value.okWide Try.prog W .any base t v := hval0
  have hW' := hW
  obtain ⟨p, q, hA0, hV, rfl, hfz, hnd⟩ := hW
  have hA : DataW.TrodAll enc Try.prog W 0 (fun _ => true) true Try.f7.params.toList args.toList ds p := hA0
  rw [Try.params7] at hA hval
  obtain ⟨v0, vs0, d0, ds0, p0, q0, hargs, rfl, rfl, h0, r0⟩ := trodAll_cons hA
  obtain ⟨v1, vs1, d1, ds1, p1, q1, rfl, rfl, rfl, h1, r1⟩ := trodAll_cons r0
  obtain ⟨v2, vs2, d2, ds2, p2, q2, rfl, rfl, rfl, h2, r2⟩ := trodAll_cons r1
  obtain ⟨v3, vs3, d3, ds3, p3, q3, rfl, rfl, rfl, h3, r3⟩ := trodAll_cons r2
  obtain ⟨rfl, rfl, rfl⟩ := trodAll_nil r3
  obtain rfl : args = #[v0, v1, v2, v3] := by cases args; simp_all
  obtain ⟨a0, rfl, _, _, w0⟩ := open_int Try.underlying3 (hval 0 3 v0 rfl rfl) h0
  obtain ⟨a1, rfl, _, _, w1⟩ := open_int Try.underlying3 (hval 1 3 v1 rfl rfl) h1
  obtain ⟨a2, rfl, _, _, w2⟩ := open_int Try.underlying30 (hval 2 30 v2 rfl rfl) h2
  obtain ⟨a3, rfl, _, _⟩ := open_bool Try.underlying4 (hval 3 4 v3 rfl rfl) h3
  refine (walk W a0 w0 a1 w1 a2 w2 a3).mono fun e W' ⟨he, hb⟩ => ?_
  subst he
  exact ⟨_, rfl, Hk.closeLaw (tb := 4) (by kernel_rfl) (by kernel_rfl) rfl rfl rfl Try.underlying4 hW' hb⟩

theorem over : Rows.journalErrorsRow.holds Try.pinned (OpenSpec.ofChange Rows.journalErrorsSpec) :=
  OpenClaim.holds_of_wide 7 Try.f7 rfl rfl rfl rfl rfl rfl rfl ⟨rfl, rfl, rfl, rfl, rfl⟩ rfl rfl rfl rfl rfl (by kernel_rfl) Try.func7 (by kernel_rfl)
    (of_decide_eq_true (by kernel_rfl)) (by unfold Func.isWrapper; first | (rw [if_pos (by decide +kernel)]; kernel_rfl) | (rw [if_neg (by decide +kernel)]; exact ⟨rfl, rfl⟩))
    (fun os started H enc _ => lifted os started H enc)

/-- The statement. -/
theorem proved : Rows.JournalErrorsSaid :=
  over
end Go.Proofs.Ytibadhoabobmpaa.journalErrors
