/- P3.2: pieces, one behind the other, come to the total, each is off by less than one, and Upto is what they come to; for every int64, int, and slice of int. No conditions. -/
import Derived.Test.YtmnbamfemcgloaaShF
import Derived.Test.YtmnbamfemcgloaaKitC
namespace Go.Proofs.Ytmnbamfemcgloaa.sharePieces
open Go.ChangeShapes Go.WideShapes Go.ChangeAt Go.RowKit
set_option linter.unusedVariables false

theorem own : ownKnob Try.prog.godebug = none := by kernel_rfl

theorem floors (x y N : Int) (hN : 1 ≤ N) : x / N + y / N ≤ (x + y) / N ∧ (x + y) / N ≤ x / N + y / N + 1 := by
  have hx := Int.mul_ediv_add_emod x N
  have hy := Int.mul_ediv_add_emod y N
  have rx0 := Int.emod_nonneg x (show N ≠ 0 by omega)
  have ry0 := Int.emod_nonneg y (show N ≠ 0 by omega)
  have rx1 := Int.emod_lt_of_pos x (show 0 < N by omega)
  have ry1 := Int.emod_lt_of_pos y (show 0 < N by omega)
  have e : x + y = (x % N + y % N) + N * (x / N + y / N) := by rw [Int.mul_add]; omega
  rw [e, Int.add_mul_ediv_left _ _ (by omega)]
  have h0 : 0 ≤ (x % N + y % N) / N := Int.ediv_nonneg (by omega) (by omega)
  have h1 : (x % N + y % N) / N < 2 := Int.ediv_lt_of_lt_mul (by omega) (by omega)
  have e2 : ((x % N + y % N) + N * (x / N + y / N)) / N = (x % N + y % N) / N + (x / N + y / N) := Int.add_mul_ediv_left _ _ (by omega)
  omega

structure At (w wr : World) (T N a G : Int) (i n : Nat) : Prop where
  lo : 0 ≤ a
  hi : a ≤ N
  got : G = T * a / N
  below : Below w.heap.size w wr

theorem At.piece {w wr : World} {T N a G : Int} {i n : Nat} (h : At w wr T N a G i n) (t0 : 0 ≤ T) (t1 : T < 1099511627776) (n0 : 1 ≤ N) (n1 : N ≤ 1000) (b : Int) (ab : a ≤ b) (bN : b ≤ N) :
    ∃ P : Int, P = T * b / N - T * a / N ∧ G + P = T * b / N ∧ 0 ≤ T * (b - a) ∧ T * (b - a) ≤ 1099511627776000 ∧ T * (b - a) / N ≤ P ∧ P ≤ T * (b - a) / N + 1 ∧ 0 ≤ G ∧ G ≤ T ∧ 0 ≤ P ∧ G + P ≤ T ∧ 0 ≤ T * (b - a) / N ∧ T * (b - a) / N ≤ T := by
  have hlo := h.lo
  have hhi := h.hi
  have hg := h.got
  have e : T * b = T * a + T * (b - a) := by rw [← Int.mul_add]; congr 1; omega
  have hf := floors (T * a) (T * (b - a)) N n0
  rw [← e] at hf
  have i1 := Sh.upto_in T N b t0 n0 (by omega) bN
  have i2 := Sh.upto_in T N a t0 n0 hlo hhi
  have i3 := Sh.upto_in T N (b - a) t0 n0 (by omega) (by omega)
  have k0 : 0 ≤ T * (b - a) := Int.mul_nonneg t0 (by omega)
  have k1 : T * (b - a) ≤ 1099511627776 * 1000 := Int.mul_le_mul (by omega) (by omega) (by omega) (by omega)
  exact ⟨_, rfl, by omega, k0, by omega, by omega, by omega, by omega, by omega, by omega, by omega, i3.1, i3.2⟩

set_option maxHeartbeats 4000000 in
set_option maxRecDepth 100000 in
theorem rounds (w : World) (a0 : Int) (a1 : Int) (A : Option Addr) (n c : Nat) (f : Nat → Int) (ha : Hl.Ints w w.heap.size A n f) (hn : n ≤ 9223372036854775807) :
    Calls Try.prog 7 #[.int .i64 a0, .int .i64 a1, .slice A n c] w fun e w' => e = .returned (.bool true) ∧ Below w.heap.size w w' := by
  have HA := Lib.hid ha
  clear ha
  go_enter Try.func7, Try.ntmps7
  go_wp2_with fail
  refine (Mn.mod64_any _ _ _ (by omega) (by omega)).mono ?_
  rintro e w1 ⟨⟨T, t0, t1, rfl⟩, rfl⟩
  go_wp2_with fail
  refine (Mn.mod_any _ _ _ (by omega) (by omega)).mono ?_
  rintro e w1 ⟨⟨m, m0, m1, rfl⟩, rfl⟩
  go_wp2_with fail
  obtain ⟨N, hN⟩ : ∃ N, N = 1 + m := ⟨_, rfl⟩
  rw [← hN]
  have n0 : 1 ≤ N := by omega
  have n1 : N ≤ 1000 := by omega
  clear hN m0 m1
  go_loopw [7, 8, 9] (fun u v s wr => ∃ (i : Nat) (a G : Int), u = .int .i64 a ∧ v = .int .i64 G ∧ s = .int .i64 i ∧ i ≤ n ∧ i ≤ 40 ∧ At w wr T N a G i n) (fun _ _ s _ => 40 - (intOf s).toNat)
  case atStart => exact ⟨0, 0, 0, rfl, rfl, rfl, by omega, by omega, ⟨by omega, by omega, by simp, Below.refl _ _⟩⟩
  case round =>
    obtain ⟨i, a, G, rfl, rfl, rfl, hi, hi4, hAt⟩ := hrel
    have i0 : (0 : Int) ≤ (i : Int) := by omega
    have i4 : (i : Int) ≤ 40 := by omega
    have a0 := hAt.lo
    have a1 := hAt.hi
    by_cases hgo : i < n ∧ i < 40
    · obtain ⟨hlt, h40⟩ := hgo
      have k1 : (i : Int) < (n : Int) := by omega
      have k2 : (i : Int) < 40 := by omega
      obtain ⟨b, o, rfl, hbm, h1⟩ := HA.out i hlt
      have c1 : wr.cell? ⟨b, o + i, none⟩ = some (.int .i64 (f i)) := (hAt.below.cell (p := ⟨b, o + i, none⟩) hbm).trans h1
      have HAt := Lib.hid hAt
      clear h1 hAt
      go_wp2_with fail
      refine (Mn.mod_any _ _ _ (by omega) (by omega)).mono ?_
      rintro e w1 ⟨⟨r, r0, r1, rfl⟩, rfl⟩
      obtain ⟨b, hb⟩ : ∃ b, b = a + r := ⟨_, rfl⟩
      have hab : a ≤ b := by omega
      have hbN : b ≤ N := by omega
      obtain ⟨P, hP, hGP, q0, q1, f1, f2, g0, g1, p0, p1, d0, d1⟩ := HAt.out.piece t0 t1 n0 n1 b hab hbN
      have HPc := Lib.hid (fun w => Sh.piece_is T N a b w t0 (by omega) n0 (by omega) a0 hab hbN)
      have HU := Lib.hid (fun w => Sh.upto_is T N b w t0 (by omega) n0 (by omega) (by omega) hbN)
      rw [← hP] at HPc
      rw [← hGP] at HU
      have HGP := Lib.hid hGP
      have ebr : a + r = b := hb.symm
      clear hP hGP hb
      go_wp2_with fail
      refine (HPc.out _).mono ?_
      rintro e w2 ⟨rfl, hb2⟩
      have HB2 := Lib.hid (HAt.out.below.trans (hb2.mono HAt.out.below.size))
      have t1' : decide (P < T * (b - a) / N) = false := by simp; omega
      have t2' : decide (T * (b - a) / N + 1 < P) = false := by simp; omega
      clear hb2 HPc
      go_wp2_with fail
      refine (HU.out _).mono ?_
      rintro e w3 ⟨rfl, hb3⟩
      have HN : Hid (At w w3 T N b (G + P) (i + 1) n) := Lib.hid ⟨by omega, hbN, HGP.out, HB2.out.trans (hb3.mono HB2.out.size)⟩
      clear hb3 HU HB2 HGP
      go_wp2
      go_roundw
      case rel => exact ⟨i + 1, b, G + P, by trivial, by trivial, by go_num, by omega, by omega, HN.out⟩
      case measure => simp [intOf]; omega
    · obtain ⟨P, hP, hGP, q0, q1, f1, f2, g0, g1, p0, p1, d0, d1⟩ := hAt.piece t0 t1 n0 n1 N a1 (Int.le_refl _)
      have HPc := Lib.hid (fun w => Sh.piece_is T N a N w t0 (by omega) n0 (by omega) a0 a1 (Int.le_refl _))
      rw [← hP] at HPc
      rw [Int.mul_ediv_cancel _ (show N ≠ 0 by omega)] at hGP
      have hq : (G + P == T) = true := by rw [beq_iff_eq]; exact hGP
      have HB := Lib.hid hAt.below
      clear hP hGP q0 q1 f1 f2 hAt d0 d1
      by_cases hlt : i < n
      · have k1 : (i : Int) < (n : Int) := by omega
        have k2 : ¬ (i : Int) < 40 := by omega
        clear hgo
        go_wp2_with fail
        refine (HPc.out _).mono ?_
        rintro e w2 ⟨rfl, hb2⟩
        have HB2 := Lib.hid (HB.out.trans (hb2.mono HB.out.size))
        clear hb2
        go_wp2_with fail
        refine (Sh.awake3 _).mono ?_
        rintro e w3 ⟨rfl, hb3⟩
        have HB3 := Lib.hid (HB2.out.trans (hb3.mono HB2.out.size))
        clear hb3
        go_wp2
        all_goals
          go_ret
          exact ⟨rfl, HB3.out⟩
      · have k1 : ¬ (i : Int) < (n : Int) := by omega
        clear hgo
        go_wp2_with fail
        refine (HPc.out _).mono ?_
        rintro e w2 ⟨rfl, hb2⟩
        have HB2 := Lib.hid (HB.out.trans (hb2.mono HB.out.size))
        clear hb2
        go_wp2_with fail
        refine (Sh.awake3 _).mono ?_
        rintro e w3 ⟨rfl, hb3⟩
        have HB3 := Lib.hid (HB2.out.trans (hb3.mono HB2.out.size))
        clear hb3
        go_wp2
        all_goals
          go_ret
          exact ⟨rfl, HB3.out⟩

theorem walk (w : World) (a0 : Int) (w0 : (Lit.int .i64 a0).wf = true) (a1 : Int) (w1 : (Lit.int .i64 a1).wf = true) (A : Option Addr) (n c : Nat) (f : Nat → Int) (ha : Hl.Ints w w.heap.size A n f) (hn : n ≤ 9223372036854775807) (hf : ∀ k, k < n → -9223372036854775808 ≤ f k ∧ f k ≤ 9223372036854775807) :
    Calls Try.prog 7 #[.int .i64 a0, .int .i64 a1, .slice A n c] w fun e w' => e = .returned (.bool true) ∧ Below w.heap.size w w' := rounds w a0 a1 A n c f ha hn


set_option maxRecDepth 100000 in
theorem lifted (os : Os) (started : os.Started) (H : Type) (enc : TypeId × Value → H) :
    ReturnsInHanded {} Try.checked os 7 .any (Rows.sharePiecesSpec.pre6 enc Try.prog Try.f7 Rows.sharePiecesRow.domain false) (Rows.sharePiecesSpec.post enc Try.prog Try.f7 false true false false) := by
  refine returnsInHanded_of_change (C := Try.checked) own started (by kernel_rfl) Try.func7
    (ChangeSpec.witness6 (enc := enc) (C := Try.checked) false ⟨#[], #[.int .i64 0, .int .i64 0, .slice none 0 0], []⟩ 8 (by kernel_rfl) (by kernel_rfl) (by kernel_rfl) (by kernel_rfl)) ?_
  intro W base args ds gs before hval0 hW hcnd _
  have hval : ∀ (j : Nat) t v, Try.f7.params[j]? = some t → args[j]? = some v → Value.okWide Try.prog W .any base t v := hval0
  have hW' := hW
  obtain ⟨p, q, hA0, hV, rfl, hfz, hnd⟩ := hW
  have hA : DataW.TrodAll enc Try.prog W 0 (fun _ => true) true Try.f7.params.toList args.toList ds p := hA0
  rw [Try.params7] at hA hval
  obtain ⟨v0, vs0, d0, ds0, p0, q0, hargs, rfl, rfl, h0, r0⟩ := trodAll_cons hA
  obtain ⟨v1, vs1, d1, ds1, p1, q1, rfl, rfl, rfl, h1, r1⟩ := trodAll_cons r0
  obtain ⟨v2, vs2, d2, ds2, p2, q2, rfl, rfl, rfl, h2, r2⟩ := trodAll_cons r1
  obtain ⟨rfl, rfl, rfl⟩ := trodAll_nil r2
  obtain rfl : args = #[v0, v1, v2] := by cases args; simp_all
  obtain ⟨a0, rfl, _, _, w0⟩ := open_int Try.underlying2 (hval 0 2 v0 rfl rfl) h0
  obtain ⟨a1, rfl, _, _, w1⟩ := open_int Try.underlying3 (hval 1 3 v1 rfl rfl) h1
  obtain ⟨A2, n2, c2, f2, rfl, x2, y2, z2, u2⟩ := Hk.open_ints_at Try.underlying38 Try.underlying3 (by kernel_rfl) (hval 2 38 v2 rfl rfl) h2
  refine (walk W a0 w0 a1 w1 A2 n2 c2 f2 x2 y2 z2).mono fun e W' ⟨he, hb⟩ => ?_
  subst he
  exact ⟨_, rfl, Hk.closeLaw (tb := 4) (by kernel_rfl) (by kernel_rfl) rfl rfl rfl Try.underlying4 hW' hb⟩

theorem over : Rows.sharePiecesRow.holds Try.pinned (OpenSpec.ofChange Rows.sharePiecesSpec) :=
  OpenClaim.holds_of_wide 7 Try.f7 rfl rfl rfl rfl rfl rfl rfl ⟨rfl, rfl, rfl, rfl, rfl⟩ rfl rfl rfl rfl rfl (by kernel_rfl) Try.func7 (by kernel_rfl)
    (of_decide_eq_true (by kernel_rfl)) (by unfold Func.isWrapper; first | (rw [if_pos (by decide +kernel)]; kernel_rfl) | (rw [if_neg (by decide +kernel)]; exact ⟨rfl, rfl⟩))
    (fun os started H enc _ => lifted os started H enc)

/-- The statement. -/
theorem proved : Rows.SharePiecesSaid :=
  over
end Go.Proofs.Ytmnbamfemcgloaa.sharePieces
