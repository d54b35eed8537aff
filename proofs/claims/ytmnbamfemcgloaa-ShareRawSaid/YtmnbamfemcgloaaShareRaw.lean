/- P3.1, P3.2: Largest, Upto and Piece of any numbers answer what the document says, or why not, and what is handed in stays, with the room behind it; for every int64, int, and slice of int64. No conditions. -/
import Derived.Test.YtmnbamfemcgloaaShF
import Derived.Test.YtmnbamfemcgloaaShU
import Derived.Test.YtmnbamfemcgloaaHlB
import Derived.Test.YtmnbamfemcgloaaKitC
namespace Go.Proofs.Ytmnbamfemcgloaa.shareRaw
open Go.ChangeShapes Go.WideShapes Go.ChangeAt Go.RowKit
set_option linter.unusedVariables false

theorem own : ownKnob Try.prog.godebug = none := by kernel_rfl

theorem long (w : World) (a0 a2 a3 a4 : Int) (A : Option Addr) (n c : Nat) (hn : n ≤ 9223372036854775807) (hl : 100 < n) :
    Calls Try.prog 3 #[.int .i64 a0, .slice A n c, .int .i64 a2, .int .i64 a3, .int .i64 a4] w fun e w' => e = .returned (.bool true) ∧ Below w.heap.size w w' := by
  have h1 : (100 : Int) < (n : Int) := by omega
  go_enter Try.func3, Try.ntmps3
  go_wp2_with fail
  refine (Sh.awake3 _).mono ?_
  rintro e w1 ⟨rfl, hb⟩
  go_wp2
  go_ret
  exact ⟨rfl, hb⟩

structure Raw1 (w wi : World) (g n : Nat) (f : Nat → Int) : Prop where
  fill : Hl.Filled wi g n f 71
  lt : g < wi.heap.size
  below : Below w.heap.size w wi

theorem Raw1.next {w wi wj : World} {g n : Nat} {f : Nat → Int} (h : Raw1 w wi g n f) (hb : Below wi.heap.size wi wj) : Raw1 w wj g n f := ⟨h.fill.below hb h.lt, Nat.lt_of_lt_of_le h.lt hb.size, h.below.trans (hb.mono h.below.size)⟩

set_option maxHeartbeats 4000000 in
set_option maxRecDepth 100000 in
theorem short (w : World) (a0 a2 a3 a4 : Int) (A : Option Addr) (n c : Nat) (f : Nat → Int) (ha : Hl.Ints w w.heap.size A n f) (hA : A = none → n = 0 ∧ c = 0) (hl : n ≤ 100) :
    Calls Try.prog 3 #[.int .i64 a0, .slice A n c, .int .i64 a2, .int .i64 a3, .int .i64 a4] w fun e w' => e = .returned (.bool true) ∧ Below w.heap.size w w' := by
  have h1 : (n : Int) ≤ 100 := by omega
  have HO := Lib.hid (Hl.own_int64 A n c f 71 w ha hA (by omega))
  have HN := Lib.hid hl
  have HA := Lib.hid ha
  have HL := Lib.hid (fun w g (hi : Hl.Ints w w.heap.size (some ⟨g, 0, none⟩) n f) => Sh.largest_any a0 (some ⟨g, 0, none⟩) n (n + 3) f w hi)
  have HR := Lib.hid (fun w hi => Sh.rlargest_any a0 A n c f w hi)
  have HE := Lib.hid (Sh.larg_length a0 f n)
  have HU := Lib.hid (fun w => Sh.upto_any a0 a2 a3 w)
  have HV := Lib.hid (fun w => Sh.rupto_any a0 a2 a3 w)
  have HP := Lib.hid (fun w => Sh.piece_any a0 a2 a3 a4 w)
  have HQ := Lib.hid (fun w => Sh.rpiece_any a0 a2 a3 a4 w)
  unfold Rf.pairOf at HU HV HP HQ
  clear ha hA hl
  generalize Sh.largR a0 f n = p at *
  generalize Sh.uptoR a0 a2 a3 = q at *
  generalize Sh.pieceR a0 a2 a3 a4 = r at *
  obtain ⟨l, x⟩ := p
  obtain ⟨y, z⟩ := q
  obtain ⟨u, v⟩ := r
  go_enter Try.func3, Try.ntmps3
  go_wp2_with fail
  refine HO.out.mono ?_
  rintro e w1 ⟨g, rfl, hg, hF, hB⟩
  have H1 : Hid (Raw1 w w1 g n f) := Lib.hid ⟨hF, World.block_lt_of_cell? w1 _ (hF 0 (by omega)), hB⟩
  clear hF hB hg HO
  go_wp2_with fail
  refine (HL.out _ _ H1.out.fill.ints).mono ?_
  rintro e w2 ⟨A2, c2, rfl, hi2, hb2⟩
  have H2 := Lib.hid (H1.out.next hb2)
  have HI2 := Lib.hid hi2
  clear hi2 hb2 H1
  go_wp2_with fail
  refine (HR.out _ (HA.out.below H2.out.below (Nat.le_refl _)).size).mono ?_
  rintro e w3 ⟨A3, c3, rfl, hi3, hb3⟩
  have H3 := Lib.hid (H2.out.next hb3)
  have HI3 := Lib.hid (And.intro (HI2.out.below hb3 (Nat.le_refl _)).size hi3)
  clear hi3 hb3 H2 HI2
  go_wp2_with fail
  refine (HU.out _).mono ?_
  rintro e w4 ⟨rfl, hb⟩
  have H4 := Lib.hid (H3.out.next hb)
  have HI4 := Lib.hid (And.intro (HI3.out.1.below hb (Nat.le_refl _)).size (HI3.out.2.below hb (Nat.le_refl _)).size)
  clear hb H3 HI3
  go_wp2_with fail
  refine (HV.out _).mono ?_
  rintro e w5 ⟨rfl, hb⟩
  have H5 := Lib.hid (H4.out.next hb)
  have HI5 := Lib.hid (And.intro (HI4.out.1.below hb (Nat.le_refl _)).size (HI4.out.2.below hb (Nat.le_refl _)).size)
  clear hb H4 HI4
  go_wp2_with fail
  refine (HP.out _).mono ?_
  rintro e w6 ⟨rfl, hb⟩
  have H6 := Lib.hid (H5.out.next hb)
  have HI6 := Lib.hid (And.intro (HI5.out.1.below hb (Nat.le_refl _)).size (HI5.out.2.below hb (Nat.le_refl _)).size)
  clear hb H5 HI5
  go_wp2_with fail
  refine (HQ.out _).mono ?_
  rintro e w7 ⟨rfl, hb⟩
  have H7 := Lib.hid (H6.out.next hb)
  have HI7 := Lib.hid (And.intro (HI6.out.1.below hb (Nat.le_refl _)).size (HI6.out.2.below hb (Nat.le_refl _)).size)
  clear hb H6 HI6
  go_wp2_with fail
  refine (Sh.awake3 _).mono ?_
  rintro e w8 ⟨rfl, hb⟩
  have H8 := Lib.hid (H7.out.next hb)
  have HPL := Lib.hid (Hl.plain_int64 A2 A3 l.length l.length c2 c3 _ _ w8.heap.size w8 (HI7.out.1.below hb (Nat.le_refl _)).size (HI7.out.2.below hb (Nat.le_refl _)).size (by have : l.length ≤ n := HE.out; have := HN.out; unfold maxLen; omega) (by have : l.length ≤ n := HE.out; have := HN.out; unfold maxLen; omega))
  rw [Hl.eqB_yes (fun k hk => rfl)] at HPL
  clear hb H7 HI7
  go_wp2_with fail
  refine HPL.out.mono ?_
  rintro e w9 ⟨rfl, hD⟩
  have H9 := Lib.hid (H8.out.next (hD.below _))
  have HK := Lib.hid (Hl.kept_int64 A g n c f 71 w9 H9.out.fill (HA.out.below H9.out.below (Nat.le_refl _)).size (by have := HN.out; omega))
  clear hD H8 HPL
  go_wp2_with fail
  refine HK.out.mono ?_
  rintro e w10 ⟨rfl, hD⟩
  have HB := Lib.hid (H9.out.below.trans ((hD.below w9.heap.size).mono H9.out.below.size))
  clear hD H9 HK
  go_wp2
  all_goals
    go_ret
    exact ⟨rfl, HB.out⟩

theorem walk (w : World) (a0 : Int) (w0 : (Lit.int .i64 a0).wf = true) (A : Option Addr) (n c : Nat) (f : Nat → Int) (ha : Hl.Ints w w.heap.size A n f) (hn : n ≤ 9223372036854775807) (hf : ∀ k, k < n → -9223372036854775808 ≤ f k ∧ f k ≤ 9223372036854775807) (hA : A = none → n = 0 ∧ c = 0)
    (a2 : Int) (w2 : (Lit.int .i64 a2).wf = true) (a3 : Int) (w3 : (Lit.int .i64 a3).wf = true) (a4 : Int) (w4 : (Lit.int .i64 a4).wf = true) :
    Calls Try.prog 3 #[.int .i64 a0, .slice A n c, .int .i64 a2, .int .i64 a3, .int .i64 a4] w fun e w' => e = .returned (.bool true) ∧ Below w.heap.size w w' := by
  by_cases hl : 100 < n
  · exact long w a0 a2 a3 a4 A n c hn hl
  · exact short w a0 a2 a3 a4 A n c f ha hA (by omega)


set_option maxRecDepth 100000 in
theorem lifted (os : Os) (started : os.Started) (H : Type) (enc : TypeId × Value → H) :
    ReturnsInHanded {} Try.checked os 3 .any (Rows.shareRawSpec.pre6 enc Try.prog Try.f3 Rows.shareRawRow.domain false) (Rows.shareRawSpec.post enc Try.prog Try.f3 false true false false) := by
  refine returnsInHanded_of_change (C := Try.checked) own started (by kernel_rfl) Try.func3
    (ChangeSpec.witness6 (enc := enc) (C := Try.checked) false ⟨#[], #[.int .i64 0, .slice none 0 0, .int .i64 0, .int .i64 0, .int .i64 0], []⟩ 8 (by kernel_rfl) (by kernel_rfl) (by kernel_rfl) (by kernel_rfl)) ?_
  intro W base args ds gs before hval0 hW hcnd _
  have hval : ∀ (j : Nat) t v, Try.f3.params[j]? = some t → args[j]? = some v → Value.okWide Try.prog W .any base t v := hval0
  have hW' := hW
  obtain ⟨p, q, hA0, hV, rfl, hfz, hnd⟩ := hW
  have hA : DataW.TrodAll enc Try.prog W 0 (fun _ => true) true Try.f3.params.toList args.toList ds p := hA0
  rw [Try.params3] at hA hval
  obtain ⟨v0, vs0, d0, ds0, p0, q0, hargs, rfl, rfl, h0, r0⟩ := trodAll_cons hA
  obtain ⟨v1, vs1, d1, ds1, p1, q1, rfl, rfl, rfl, h1, r1⟩ := trodAll_cons r0
  obtain ⟨v2, vs2, d2, ds2, p2, q2, rfl, rfl, rfl, h2, r2⟩ := trodAll_cons r1
  obtain ⟨v3, vs3, d3, ds3, p3, q3, rfl, rfl, rfl, h3, r3⟩ := trodAll_cons r2
  obtain ⟨v4, vs4, d4, ds4, p4, q4, rfl, rfl, rfl, h4, r4⟩ := trodAll_cons r3
  obtain ⟨rfl, rfl, rfl⟩ := trodAll_nil r4
  obtain rfl : args = #[v0, v1, v2, v3, v4] := by cases args; simp_all
  obtain ⟨a0, rfl, _, _, w0⟩ := open_int Try.underlying2 (hval 0 2 v0 rfl rfl) h0
  obtain ⟨A1, n1, c1, f1, rfl, x1, y1, z1, u1⟩ := Hk.open_ints_at Try.underlying22 Try.underlying2 (by kernel_rfl) (hval 1 22 v1 rfl rfl) h1
  obtain ⟨a2, rfl, _, _, w2⟩ := open_int Try.underlying3 (hval 2 3 v2 rfl rfl) h2
  obtain ⟨a3, rfl, _, _, w3⟩ := open_int Try.underlying3 (hval 3 3 v3 rfl rfl) h3
  obtain ⟨a4, rfl, _, _, w4⟩ := open_int Try.underlying3 (hval 4 3 v4 rfl rfl) h4
  refine (walk W a0 w0 A1 n1 c1 f1 x1 y1 z1 u1 a2 w2 a3 w3 a4 w4).mono fun e W' ⟨he, hb⟩ => ?_
  subst he
  exact ⟨_, rfl, Hk.closeLaw (tb := 4) (by kernel_rfl) (by kernel_rfl) rfl rfl rfl Try.underlying4 hW' hb⟩

theorem over : Rows.shareRawRow.holds Try.pinned (OpenSpec.ofChange Rows.shareRawSpec) :=
  OpenClaim.holds_of_wide 3 Try.f3 rfl rfl rfl rfl rfl rfl rfl ⟨rfl, rfl, rfl, rfl, rfl⟩ rfl rfl rfl rfl rfl (by kernel_rfl) Try.func3 (by kernel_rfl)
    (of_decide_eq_true (by kernel_rfl)) (by unfold Func.isWrapper; first | (rw [if_pos (by decide +kernel)]; kernel_rfl) | (rw [if_neg (by decide +kernel)]; exact ⟨rfl, rfl⟩))
    (fun os started H enc _ => lifted os started H enc)

/-- The statement. -/
theorem proved : Rows.ShareRawSaid :=
  over
end Go.Proofs.Ytmnbamfemcgloaa.shareRaw
