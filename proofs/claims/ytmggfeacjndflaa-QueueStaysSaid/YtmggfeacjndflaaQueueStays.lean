/- P2.1: a queue that any ranks, up to a hundred, were pushed into, looked at any number of times, tells the same, and nothing is turned; for every slice of int64 and every int. No conditions. -/
import Derived.Test.YtmggfeacjndflaaQuK
import Derived.Test.YtmggfeacjndflaaKitC
namespace Go.Proofs.Ytmggfeacjndflaa.queueStays
open Go.ChangeShapes Go.WideShapes Go.ChangeAt Go.RowKit
set_option linter.unusedVariables false

theorem own : ownKnob Try.prog.godebug = none := by kernel_rfl

theorem long (A : Option Addr) (n c : Nat) (a1 : Int) (hn : n ≤ 9223372036854775807) (hl : 100 < n) (w : World) :
    Calls Try.prog 8 #[.slice A n c, .int .i64 a1] w fun e w' => e = .returned (.bool true) ∧ Below w.heap.size w w' := by
  have h1 : (100 : Int) < (n : Int) := by omega
  go_enter Try.func8, Try.ntmps8
  go_wp2_with fail
  refine (Qu.awake_any _).mono ?_
  rintro e w1 ⟨rfl, hb⟩
  go_wp2
  go_ret
  exact ⟨rfl, hb⟩

set_option maxRecDepth 100000 in
set_option maxHeartbeats 2000000 in
theorem short (w : World) (A : Option Addr) (n c : Nat) (f : Nat → Int) (ha : Hl.Ints w w.heap.size A n f) (a1 : Int) (hl : n ≤ 100) :
    Calls Try.prog 8 #[.slice A n c, .int .i64 a1] w fun e w' => e = .returned (.bool true) ∧ Below w.heap.size w w' := by
  have h1 : (n : Int) ≤ 100 := by omega
  obtain ⟨t, t1, t2, t3, t4⟩ := Qu.umod_in a1 5 (by omega) (by omega)
  go_enter Try.func8, Try.ntmps8
  go_wp2_with fail
  refine (Qu.queue_new w.heap.size w (Nat.le_refl _)).mono ?_
  rintro e w1 ⟨rfl, hQ, hB, hS⟩
  have HQ := Lib.hid (And.intro hQ hB)
  clear hQ hB hS
  go_wp2_with fail
  refine (Qu.awake_any _).mono ?_
  rintro e w2 ⟨rfl, hb⟩
  have HQ2 := Lib.hid (And.intro (HQ.out.1.below hb) (HQ.out.2.trans (hb.mono HQ.out.2.size)))
  clear hb HQ
  go_wp2
  go_loopw [6] (fun s wr => ∃ (k : Nat) (r : Option Nat), s = .int .i64 k ∧ k ≤ n ∧ Qu.IsQ wr w.heap.size w.heap.size r (Qu.ord f k) ∧ Below w.heap.size w wr) (fun s _ => n - (intOf s).toNat)
  case atStart => exact ⟨0, none, rfl, by omega, HQ2.out.1, HQ2.out.2⟩
  case round =>
    clear HQ2
    obtain ⟨k, r, rfl, hk, hQ, hB⟩ := hrel
    by_cases hlt : k < n
    · obtain ⟨b, o, rfl, hbm, hc1⟩ := ha k hlt
      have c1 : wr.cell? ⟨b, o + k, none⟩ = some (.int .i64 (f k)) := (hB.cell (p := ⟨b, o + k, none⟩) hbm).trans hc1
      have k0 : (0 : Int) ≤ (k : Int) := by omega
      have k1 : (k : Int) < (n : Int) := by omega
      have HP := Lib.hid (Qu.push_any (f k, (k : Int)) w.heap.size w.heap.size r (Qu.ord f k) wr hQ (by rw [Qu.ord_length]; omega))
      have HQ := Lib.hid (And.intro hQ hB)
      clear ha hc1 hQ hB
      go_wp2_with fail
      refine HP.out.mono ?_
      rintro e w2 ⟨rfl, r', hQ', hM, hF⟩
      have HQ2 := Lib.hid (And.intro hQ' hM)
      clear hQ' hM hF
      go_wp2
      go_roundw
      case rel => exact ⟨k + 1, r', by go_num, by omega, HQ2.out.1, HQ.out.2.trans (HQ.out.1.toBelow HQ2.out.2)⟩
      case measure => simp [intOf]; omega
    · obtain rfl : k = n := by omega
      have k1 : ¬ (k : Int) < (k : Int) := by omega
      have hb := Qu.pkb_len (Qu.ord f k)
      rw [Qu.ord_length] at hb
      have hln := Qu.ord_length f k
      generalize Qu.ord f k = l at *
      have e1 : decide ((0 : Int) < (k : Int)) = Qu.pkb l := by rw [hb]; exact decide_eq_decide.2 (by omega)
      have e0 : decide (0 < k) = Qu.pkb l := hb.symm
      have HN := Lib.hid hln
      obtain ⟨m, hm⟩ : ∃ m, m = k - 1 := ⟨_, rfl⟩
      have e2 : (if (k : Int) - 1 < 0 then (0 : Int) else (k : Int) - 1) = (m : Int) := by split <;> omega
      have e3 : (if (0 : Int) < (k : Int) - 1 then (k : Int) - 1 else 0) = (m : Int) := by split <;> omega
      have HM := Lib.hid (show l.tail.length = m by rw [List.length_tail, hln, hm])
      have HK := Lib.hid (fun W (h : Qu.IsQ W w.heap.size w.heap.size r l) => Qu.peek_any w.heap.size w.heap.size r l W h (by omega))
      have HO := Lib.hid (fun W (h : Qu.IsQ W w.heap.size w.heap.size r l) => Qu.pop_any w.heap.size w.heap.size r l W h (by omega))
      have HL := Lib.hid (fun W (h : Qu.IsQ W w.heap.size w.heap.size r l) => Qu.qlen_any w.heap.size w.heap.size r l W h)
      rw [hln] at HL
      have HL2 := Lib.hid (fun W (h : Qu.IsQ W w.heap.size w.heap.size r l.tail) => Qu.qlen_any w.heap.size w.heap.size r l.tail W h)
      rw [HM.out] at HL2
      have HB := Lib.hid (And.intro hQ hB)
      clear hb hln hm ha hk hl hQ hB
      generalize Qu.pk1 l = x1 at *
      generalize Qu.pk2 l = x2 at *
      generalize Qu.pkb l = x3 at *
      go_wp2_with fail
      refine (HK.out _ HB.out.1).mono ?_
      rintro e w3 ⟨rfl, hQ3, hb3⟩
      have HB3 := Lib.hid (And.intro hQ3 (HB.out.2.trans (hb3.mono HB.out.2.size)))
      clear hQ3 hb3 HB
      go_wp2
      go_loopw [10] (fun s wr => ∃ (j : Nat), s = .int .i64 j ∧ j ≤ 5 ∧ Qu.IsQ wr w.heap.size w.heap.size r l ∧ Below w.heap.size w wr) (fun s _ => 5 - (intOf s).toNat)
      case atStart => exact ⟨0, rfl, by omega, HB3.out.1, HB3.out.2⟩
      case round =>
        clear HB3
        obtain ⟨j, rfl, hj, hQ, hB⟩ := hrel
        have HQ := Lib.hid (And.intro hQ hB)
        clear hQ hB
        by_cases hjt : j < t
        · have j1 : (j : Int) < (t : Int) := by omega
          have j2 : (j : Int) ≤ 5 := by omega
          go_wp2_with fail
          refine (HK.out _ HQ.out.1).mono ?_
          rintro e w4 ⟨rfl, hQ4, hb4⟩
          have HQ4 := Lib.hid (And.intro hQ4 (HQ.out.2.trans (hb4.mono HQ.out.2.size)))
          clear hQ4 hb4
          go_wp2_with fail
          refine (HL.out _ HQ4.out.1).mono ?_
          rintro e w5 ⟨rfl, rfl⟩
          go_wp2
          go_roundw
          case rel => exact ⟨j + 1, by go_num, by omega, HQ4.out.1, HQ4.out.2⟩
          case measure => simp [intOf]; omega
        · have j1 : ¬ (j : Int) < (t : Int) := by omega
          go_wp2_with fail
          refine (HO.out _ HQ.out.1).mono ?_
          rintro e w4 ⟨rfl, hQ4, hM4⟩
          have HQ4 := Lib.hid (And.intro hQ4 (HQ.out.2.trans (HQ.out.1.toBelow hM4)))
          clear hQ4 hM4
          go_wp2_with fail
          refine (HL2.out _ HQ4.out.1).mono ?_
          rintro e w5 ⟨rfl, rfl⟩
          go_wp2
          go_ret
          exact ⟨rfl, HQ4.out.2⟩

theorem walk (w : World) (A : Option Addr) (n c : Nat) (f : Nat → Int) (ha : Hl.Ints w w.heap.size A n f) (hn : n ≤ 9223372036854775807) (hf : ∀ k, k < n → -9223372036854775808 ≤ f k ∧ f k ≤ 9223372036854775807) (a1 : Int) (w1 : (Lit.int .i64 a1).wf = true) :
    Calls Try.prog 8 #[.slice A n c, .int .i64 a1] w fun e w' => e = .returned (.bool true) ∧ Below w.heap.size w w' := by
  by_cases hl : 100 < n
  · exact long A n c a1 hn hl w
  · exact short w A n c f ha a1 (by omega)


set_option maxRecDepth 100000 in
theorem lifted (os : Os) (started : os.Started) (H : Type) (enc : TypeId × Value → H) :
    ReturnsInHanded {} Try.checked os 8 .any (Rows.queueStaysSpec.pre6 enc Try.prog Try.f8 Rows.queueStaysRow.domain false) (Rows.queueStaysSpec.post enc Try.prog Try.f8 false true false false) := by
  refine returnsInHanded_of_change (C := Try.checked) own started (by kernel_rfl) Try.func8
    (ChangeSpec.witness6 (enc := enc) (C := Try.checked) false ⟨#[], #[.slice none 0 0, .int .i64 0], []⟩ 8 (by kernel_rfl) (by kernel_rfl) (by kernel_rfl) (by kernel_rfl)) ?_
  intro W base args ds gs before hval0 hW hcnd _
  have hval : ∀ (j : Nat) t v, Try.f8.params[j]? = some t → args[j]? = some v → Value.okWide Try.prog W .any base t v := hval0
  have hW' := hW
  obtain ⟨p, q, hA0, hV, rfl, hfz, hnd⟩ := hW
  have hA : DataW.TrodAll enc Try.prog W 0 (fun _ => true) true Try.f8.params.toList args.toList ds p := hA0
  rw [Try.params8] at hA hval
  obtain ⟨v0, vs0, d0, ds0, p0, q0, hargs, rfl, rfl, h0, r0⟩ := trodAll_cons hA
  obtain ⟨v1, vs1, d1, ds1, p1, q1, rfl, rfl, rfl, h1, r1⟩ := trodAll_cons r0
  obtain ⟨rfl, rfl, rfl⟩ := trodAll_nil r1
  obtain rfl : args = #[v0, v1] := by cases args; simp_all
  obtain ⟨A0, n0, c0, f0, rfl, x0, y0, z0, u0⟩ := Hk.open_ints_at Try.underlying34 Try.underlying2 (by kernel_rfl) (hval 0 34 v0 rfl rfl) h0
  obtain ⟨a1, rfl, _, _, w1⟩ := open_int Try.underlying3 (hval 1 3 v1 rfl rfl) h1
  refine (walk W A0 n0 c0 f0 x0 y0 z0 a1 w1).mono fun e W' ⟨he, hb⟩ => ?_
  subst he
  exact ⟨_, rfl, Hk.closeLaw (tb := 4) (by kernel_rfl) (by kernel_rfl) rfl rfl rfl Try.underlying4 hW' hb⟩

theorem over : Rows.queueStaysRow.holds Try.pinned (OpenSpec.ofChange Rows.queueStaysSpec) :=
  OpenClaim.holds_of_wide 8 Try.f8 rfl rfl rfl rfl rfl rfl rfl ⟨rfl, rfl, rfl, rfl, rfl⟩ rfl rfl rfl rfl rfl (by kernel_rfl) Try.func8 (by kernel_rfl)
    (of_decide_eq_true (by kernel_rfl)) (by unfold Func.isWrapper; first | (rw [if_pos (by decide +kernel)]; kernel_rfl) | (rw [if_neg (by decide +kernel)]; exact ⟨rfl, rfl⟩))
    (fun os started H enc _ => lifted os started H enc)

/-- The statement. -/
theorem proved : Rows.QueueStaysSaid :=
  over
end Go.Proofs.Ytmggfeacjndflaa.queueStays
