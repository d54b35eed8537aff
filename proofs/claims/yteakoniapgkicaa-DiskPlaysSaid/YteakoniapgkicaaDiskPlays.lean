/- P6.1, P6.2: whatever is written, made sure, armed, lost and started again, up to eighty steps on up to nine sectors, the disk is told, and tells, what the document's disk is told, and tells; a fork stays as it was; for every slice of steps. No conditions. -/
import Derived.Test.YteakoniapgkicaaDkP
import Derived.Test.YteakoniapgkicaaKitC
namespace Go.Proofs.Yteakoniapgkicaa.diskPlays
open Go.ChangeShapes Go.WideShapes Go.ChangeAt Go.RowKit
set_option linter.unusedVariables false

theorem own : ownKnob Try.prog.godebug = none := by kernel_rfl

open By (Bys)
open Dd (Pl At Went NewE ForkE)
open Dk

set_option maxRecDepth 100000 in
set_option maxHeartbeats 4000000 in
theorem walk (w : World) (a0 : Int) (wf0 : (Lit.int .i64 a0).wf = true) (A : Option Addr) (n c : Nat) (o : Nat → Opr) (ha : Oprs w A n o) (hn : n ≤ 9223372036854775807) :
    Calls Try.prog 3 #[.int .i64 a0, .slice A n c] w fun e w' => e = .returned (.bool true) ∧ Below w.heap.size w w' := by
  obtain ⟨t, ht, ht3, htm, htu⟩ := By.umod_in a0 9 (by omega) (by omega)
  have htt := u64_tmod htm
  obtain ⟨m, hm⟩ : ∃ m : Nat, t + 1 = m := ⟨_, rfl⟩
  have hm1 : (1 : Int) + (t : Int) = (m : Int) := by omega
  have hm2 : 1 ≤ m := by omega
  have hm3 : m ≤ 9 := by omega
  have HA := Lib.hid ha
  clear ha hm htm
  go_enter Try.func3, Try.ntmps3
  go_wp2_with fail
  clear ht htt htu hm1 ht3
  refine (Dd.new_ok w m hm2 (by omega)).mono ?_
  rintro e w1 ⟨q, rfl, hq, hlo, hb⟩
  have HQ1 := Lib.hid (And.intro hq (And.intro hlo hb))
  clear hq hlo hb
  go_wp2_with fail
  refine (awake_any w1).mono ?_
  rintro e w2 ⟨rfl, k2⟩
  have HK2 := Lib.hid k2
  clear k2
  go_wp2_with fail
  refine (rnew_any w2 m (by omega)).mono ?_
  rintro e w3 ⟨p, rfl, hp, hlp, hb3⟩
  have HP3 := Lib.hid (And.intro hp (And.intro hlp hb3))
  have HQ3 := Lib.hid (at_below (at_below HQ1.out.1 HK2.out) hb3)
  clear hp hlp hb3
  have HM := Lib.hid (dsNew_n m)
  go_wp2_with fail
  refine (Dd.fork_any w3 w.heap.size q (dsNew m) HQ3.out (by rw [HM.out]; omega) (by rw [HM.out]; omega)).mono ?_
  rintro e w4 ⟨q2, rfl, hq2, hlq2, hb4⟩
  have HQ4 := Lib.hid (And.intro hq2 (And.intro hlq2 hb4))
  clear hq2 hlq2 hb4
  go_wp2_with fail
  refine (rcopy_any w4 w2.heap.size p (dsNew m) (HP3.out.1.below HQ4.out.2.2) (by rw [HM.out]; omega) (by rw [HM.out]; omega)).mono ?_
  rintro e w5 ⟨p2, rfl, hp2, hlp2, hb5⟩
  have HY := Lib.hid ((start_lone HQ1.out.1 HQ1.out.2.1 HQ1.out.2.2 HK2.out HP3.out.1 HP3.out.2.1 HP3.out.2.2 HM.out).forked HQ4.out.1 HQ4.out.2.1 HQ4.out.2.2 hp2 hlp2 hb5)
  clear hp2 hlp2 hb5 HQ1 HK2 HP3 HQ3 HQ4
  go_wp2_with fail
  go_loopw [8, 9, 10] (fun s8 s9 s10 wr => ∃ i : Nat, s10 = .int .i64 (i : Int) ∧ i ≤ n ∧ i ≤ 80 ∧ At3 w wr m q.x i s8 s9 p.x) (fun _ _ s _ => 80 - (intOf s).toNat)
  case atStart => exact ⟨0, rfl, by omega, by omega, ⟨_, _, _, _, _, _, _, _, _, _, HY.out, rfl, rfl, rfl⟩⟩
  case round =>
    clear HY
    obtain ⟨i, rfl, hi, hi80, ⟨qa, pa, q2a, p2a, B, C, B2, C2, d, e, hP, hpx, rfl, rfl⟩⟩ := hrel
    have i0 : (0 : Int) ≤ (i : Int) := by omega
    have n1 : (n : Int) ≤ 9223372036854775807 := by omega
    have HP := Lib.hid hP
    have HPX := Lib.hid hpx
    clear hP hpx
    by_cases hlt : i < n ∧ i < 80
    · have i1 : (i : Int) < (n : Int) := by omega
      have i2 : (i : Int) < 80 := by omega
      have i3 : decide (i < n) = true := by simp; omega
      obtain ⟨b, off, rfl, hb, hcs, hok⟩ := HA.out i hlt.1
      have e0 := (HP.out.below.cell (p := ⟨b, off + i * 4, none⟩) hb).trans (hcs 0 (by omega))
      have e1 := (HP.out.below.cell (p := ⟨b, off + i * 4 + 1, none⟩) hb).trans (hcs 1 (by omega))
      have e2 := (HP.out.below.cell (p := ⟨b, off + i * 4 + 2, none⟩) hb).trans (hcs 2 (by omega))
      have e3 := (HP.out.below.cell (p := ⟨b, off + i * 4 + 3, none⟩) hb).trans (hcs 3 (by omega))
      simp [Opr.cells] at e0 e1 e2 e3
      have HOK := Lib.hid hok
      generalize o i = s at *
      clear hcs hb hok
      obtain ⟨t2, u1, u2, u3, u4⟩ := By.umod_in s.at_ (m : Int) (by omega) (by omega)
      have hat := And.intro HOK.out.at1 HOK.out.at2
      have HAT := Lib.hid hat
      clear hat u3 u4
      go_wp2_with fail
      case roundEnd =>
        refine ⟨⟨i + 1, by go_num, by omega, by omega, ⟨qa, pa, q2a, p2a, B, C, B2, C2, d, e, HP.out.later ((Below.refl _ _).alloc (Nat.le_refl _) _), HPX.out, rfl, rfl⟩⟩, ?_⟩
        simp [intOf]; omega
      all_goals
        have h40 : s.kn ≤ 40 := by omega
        refine (step_in HP.out.lone (by omega) (by omega) HOK.out h40 ((Below.refl _ _).alloc (Nat.le_refl _) _) _ (by first | exact HAT.out | omega) HPX.out).mono ?_
        rintro e w6 ⟨rfl, hb6⟩
        have c2 : w6.cell? ⟨wr.heap.size, 2, none⟩ = some (.int .u8 (s.c.toNat : Int)) := by
          rw [both_cell hb6 (by simp) (fun hh => Nat.lt_irrefl _ (HP.out.one.there _ hh)) (fun hh => Nat.lt_irrefl _ (HP.out.two.there _ hh)), World.cell?_alloc_mark]
          rfl
        obtain ⟨q', hP6⟩ := (HP.out.later ((Below.refl _ _).alloc (Nat.le_refl _) _)).stepped hb6 (step_n _ _ _ _ _ _) (step_armed HP.out.armed (by first | exact HAT.out.2 | omega))
        have hg6 : wr.heap.size < w6.heap.size := World.block_lt_of_cell? w6 _ c2
        have HP6 := Lib.hid hP6
        clear hb6 hP6
        go_wp2_with fail
        refine (same_in HP6.out.lone (by omega) (by omega) HPX.out).mono ?_
        rintro e w7 ⟨rfl, k7⟩
        have c2' := (k7.cell (p := ⟨wr.heap.size, 2, none⟩) hg6).trans c2
        have HP7 := Lib.hid (HP6.out.later k7)
        clear c2 k7 hg6
        by_cases h9 : s.c.toNat = 9
        · have f9 : ((s.c.toNat : Int) == 9) = true := beq_iff_eq.2 (by omega)
          clear h9
          go_wp2_with fail
          refine (fork_in HP7.out.lone (by omega) (by omega)).mono ?_
          rintro e w8 ⟨q8, rfl, h8, hl8, k8⟩
          have HQ8 := Lib.hid (And.intro h8 (And.intro hl8 k8))
          clear h8 hl8 k8
          go_wp2_with fail
          refine (copy_in (HP7.out.lone.later HQ8.out.2.2) (by omega) (by omega) HPX.out).mono ?_
          rintro e w9 ⟨p9, rfl, h9, hl9, k9⟩
          have HP9 := Lib.hid (HP7.out.lone.forked HQ8.out.1 HQ8.out.2.1 HQ8.out.2.2 h9 hl9 k9)
          clear h9 hl9 k9
          go_wp2_with fail
          go_roundw
          case rel => exact ⟨i + 1, by go_num, by omega, by omega, ⟨_, _, _, _, _, _, _, _, _, _, HP9.out, HPX.out, rfl, rfl⟩⟩
          case measure => simp [intOf]; omega
        · have f9 : ((s.c.toNat : Int) == 9) = false := beq_eq_false_iff_ne.2 (by omega)
          clear h9
          go_wp2_with fail
          go_roundw
          case rel => exact ⟨i + 1, by go_num, by omega, by omega, ⟨_, _, _, _, _, _, _, _, _, _, HP7.out, HPX.out, rfl, rfl⟩⟩
          case measure => simp [intOf]; omega
    · have HS := Lib.hid (same_any wr B2 C2 q2a p2a e HP.out.one2 HP.out.two2 (by rw [HP.out.en]; omega) (by rw [HP.out.en]; omega))
      by_cases hin : i < n
      · have i1 : (i : Int) < (n : Int) := by omega
        have i2 : ¬ (i : Int) < 80 := by omega
        have i3 : decide (i < n) = true := by simp; omega
        go_wp2_with fail
        refine HS.out.mono ?_
        rintro e w6 ⟨rfl, k6⟩
        have HB := Lib.hid (HP.out.below.trans (k6.mono HP.out.below.size))
        clear k6
        go_wp2_with fail
        go_ret
        exact ⟨rfl, HB.out⟩
      · have i1 : ¬ (i : Int) < (n : Int) := by omega
        have i3 : decide (i < n) = false := by simp; omega
        go_wp2_with fail
        refine HS.out.mono ?_
        rintro e w6 ⟨rfl, k6⟩
        have HB := Lib.hid (HP.out.below.trans (k6.mono HP.out.below.size))
        clear k6
        go_wp2_with fail
        go_ret
        exact ⟨rfl, HB.out⟩

set_option maxRecDepth 100000 in
theorem lifted (os : Os) (started : os.Started) (H : Type) (enc : TypeId × Value → H) :
    ReturnsInHanded {} Try.checked os 3 .any (Rows.diskPlaysSpec.pre6 enc Try.prog Try.f3 Rows.diskPlaysRow.domain false) (Rows.diskPlaysSpec.post enc Try.prog Try.f3 false true false false) := by
  refine returnsInHanded_of_change (C := Try.checked) own started (by kernel_rfl) Try.func3
    (ChangeSpec.witness6 (enc := enc) (C := Try.checked) false ⟨#[], #[.int .i64 0, .slice none 0 0], []⟩ 8 (by kernel_rfl) (by kernel_rfl) (by kernel_rfl) (by kernel_rfl)) ?_
  intro W base args ds gs before hval0 hW hcnd _
  have hval : ∀ (j : Nat) t v, Try.f3.params[j]? = some t → args[j]? = some v → Value.okWide Try.prog W .any base t v := hval0
  have hW' := hW
  obtain ⟨p, q, hA0, hV, rfl, hfz, hnd⟩ := hW
  have hA : DataW.TrodAll enc Try.prog W 0 (fun _ => true) true Try.f3.params.toList args.toList ds p := hA0
  rw [Try.params3] at hA hval
  obtain ⟨v0, vs0, d0, ds0, p0, q0, hargs, rfl, rfl, h0, r0⟩ := trodAll_cons hA
  obtain ⟨v1, vs1, d1, ds1, p1, q1, rfl, rfl, rfl, h1, r1⟩ := trodAll_cons r0
  obtain ⟨rfl, rfl, rfl⟩ := trodAll_nil r1
  obtain rfl : args = #[v0, v1] := by cases args; simp_all
  obtain ⟨a0, rfl, _, _, w0⟩ := open_int Try.underlying3 (hval 0 3 v0 rfl rfl) h0
  obtain ⟨A1, n1, c1, o1, rfl, x1, y1⟩ := Dk.open_oprs (hval 1 22 v1 rfl rfl) h1
  refine (walk W a0 w0 A1 n1 c1 o1 x1 y1).mono fun e W' ⟨he, hb⟩ => ?_
  subst he
  exact ⟨_, rfl, Hk.closeLaw (tb := 4) (by kernel_rfl) (by kernel_rfl) rfl rfl rfl Try.underlying4 hW' hb⟩

theorem over : Rows.diskPlaysRow.holds Try.pinned (OpenSpec.ofChange Rows.diskPlaysSpec) :=
  OpenClaim.holds_of_wide 3 Try.f3 rfl rfl rfl rfl rfl rfl rfl ⟨rfl, rfl, rfl, rfl, rfl⟩ rfl rfl rfl rfl rfl (by kernel_rfl) Try.func3 (by kernel_rfl)
    (of_decide_eq_true (by kernel_rfl)) (by unfold Func.isWrapper; first | (rw [if_pos (by decide +kernel)]; kernel_rfl) | (rw [if_neg (by decide +kernel)]; exact ⟨rfl, rfl⟩))
    (fun os started H enc _ => lifted os started H enc)

/-- The statement. -/
theorem proved : Rows.DiskPlaysSaid :=
  over
end Go.Proofs.Yteakoniapgkicaa.diskPlays
