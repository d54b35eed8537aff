/- P7.1: so many bytes, and no more; fewer than all in the last one alone; no epoch is 0; for every int, bool, uint32. No conditions. -/
import Derived.Test.YtbicdmhmpmdoeaaLfO
import Derived.Test.YtbicdmhmpmdoeaaKitC
namespace Go.Proofs.Ytbicdmhmpmdoeaa.leafRoom
open Go.ChangeShapes Go.WideShapes Go.ChangeAt Go.RowKit
set_option linter.unusedVariables false

theorem own : ownKnob Try.prog.godebug = none := by kernel_rfl

set_option maxHeartbeats 2000000 in
theorem walk (w : World) (a0 : Int) (w0 : (Lit.int .i64 a0).wf = true) (last : Bool) (a2 : Int) (w2 : (Lit.int .u32 a2).wf = true) (a3 : Int) (w3 : (Lit.int .u32 a3).wf = true) :
    Calls Try.prog 8 #[.int .i64 a0, .bool last, .int .u32 a2, .int .u32 a3] w fun e w' => e = .returned (.bool true) ∧ Below w.heap.size w w' := by
  have hb2 := bounds_u32 w2
  have hb3 := bounds_u32 w3
  obtain ⟨e, rfl⟩ : ∃ e : Nat, a2 = (e : Int) := ⟨a2.toNat, by omega⟩
  obtain ⟨n, rfl⟩ : ∃ n : Nat, a3 = (n : Int) := ⟨a3.toNat, by omega⟩
  have he : e < 2 ^ 32 := by omega
  have hn : n < 2 ^ 32 := by omega
  obtain ⟨t, t1, t2, t3, t4⟩ := By.umod_in a0 50 (by omega) (by omega)
  have t0 : (0 : Int) ≤ (t : Int) := by omega
  have t50 : t < 50 := by omega
  have hmk := fun W => By.make_bytes t (by omega) W
  have HE := Lib.hid (And.intro he hn)
  clear w0 w2 w3 hb2 hb3 he hn
  go_enter Try.func8, Try.ntmps8
  go_wp2_with fail
  refine (Lf.lay_any _ e n t t false last (some ⟨w.heap.size, 0, none⟩) (List.replicate t 0) (By.Bys.own ((By.made_own w t (by omega)).alloc _)) HE.out.1 HE.out.2).mono ?_
  rintro en w1 ⟨rfl, k1⟩
  have HB1 := Lib.hid ((((Below.refl w.heap.size w).alloc (Nat.le_refl _) (.cells (madeCells #[.int .u8 0] t) 5)).alloc (by simp) (.cells #[.int .u32 (e : Int), .int .u32 (n : Int), .bool false, .bool last, .slice (some ⟨w.heap.size, 0, none⟩) t t] 25)).trans (k1.mono (by simp; omega)))
  have hV := Lf.layV_len ⟨e, n, false, last, List.replicate t 0⟩
  have hc := Lf.right_cases e n t false last (List.replicate t 0) (by simp)
  obtain ⟨E, hE⟩ : ∃ E, Lf.layE ⟨e, n, false, last, List.replicate t 0⟩ = E := ⟨_, rfl⟩
  have hE2 : E = if Lf.rightB ⟨e, n, false, last, List.replicate t 0⟩ then 0 else 2 := by rw [← hE]; rfl
  rw [hE]
  generalize Lf.layV ⟨e, n, false, last, List.replicate t 0⟩ = V at *
  have HC := Lib.hid (And.intro hc hE2)
  clear hE k1 hmk hc hE2
  go_upto_region 4 with (first
    | (with_reducible refine Dk.new_sec (w := w1) (op := ⟨some 10, _, _, _, _, _⟩) rfl rfl ?_; intro w2 hS2 hB2 hZ2)
    | ((with_reducible refine Dk.store_sec (w := w2) (op := ⟨none, _, _, _, _, _⟩) ?_ (.tmp 10) (.tmp 26) ?_ _ ?_ V ?_ _ hS2 hV ?_); (next => rfl); (next => rfl); (next => rfl); (next => rfl); intro w3 hS3 hG3))
  have HB3 := Lib.hid ((HB1.out.trans (hB2.mono HB1.out.size)).grown hG3 (HB1.out.trans (hB2.mono HB1.out.size)).size (fun k hk => by injection hk with hk; have := HB1.out.size; omega))
  clear hS2 hB2 hZ2 hS3 hG3 hV HB1
  obtain ⟨hc, hE2⟩ := HC.out
  clear HC
  rcases hc with ⟨hr, h0, h1, h2, h3⟩ | ⟨hr, h⟩
  · rw [hr, if_pos rfl] at hE2
    subst hE2
    have q0 : ((e : Int) != 0) = true := bne_iff_ne.2 (by omega)
    clear hr
    by_cases h46 : t = 46
    · subst h46
      clear h0 h1 h2 h3
      go_wp2_with fail
      refine (Lf.awake_any _).mono ?_
      rintro en w4 ⟨rfl, k4⟩
      have HB4 := Lib.hid (HB3.out.trans (k4.mono HB3.out.size))
      clear k4
      go_wp2
      go_ret
      exact ⟨rfl, HB4.out⟩
    · obtain rfl : last = true := by rcases h3 with h3 | h3; exact h3; exact absurd h3 h46
      have q1 : ((t : Int) == 46) = false := beq_eq_false_iff_ne.2 (by omega)
      have q2 : (1 : Int) ≤ (t : Int) := by omega
      have q3 : (t : Int) < 46 := by omega
      clear h0 h1 h2 h3 h46
      go_wp2_with fail
      refine (Lf.awake_any _).mono ?_
      rintro en w4 ⟨rfl, k4⟩
      have HB4 := Lib.hid (HB3.out.trans (k4.mono HB3.out.size))
      clear k4
      go_wp2
      go_ret
      exact ⟨rfl, HB4.out⟩
  · rw [hr, if_neg (by simp)] at hE2
    subst hE2
    clear hr
    rcases h with rfl | ⟨h0, rfl⟩ | ⟨h0, h1, h2⟩ | ⟨h0, h1, h2, rfl⟩
    · go_wp2_with fail
      refine (Lf.awake_any _).mono ?_
      rintro en w4 ⟨rfl, k4⟩
      have HB4 := Lib.hid (HB3.out.trans (k4.mono HB3.out.size))
      clear k4
      go_wp2
      go_ret
      exact ⟨rfl, HB4.out⟩
    · have q0 : ((e : Int) != 0) = true := bne_iff_ne.2 (by omega)
      clear h0
      cases last
      all_goals
        go_wp2_with fail
        refine (Lf.awake_any _).mono ?_
        rintro en w4 ⟨rfl, k4⟩
        have HB4 := Lib.hid (HB3.out.trans (k4.mono HB3.out.size))
        clear k4
        go_wp2
        go_ret
        exact ⟨rfl, HB4.out⟩
    · have q0 : ((e : Int) != 0) = true := bne_iff_ne.2 (by omega)
      have q1 : ((t : Int) == 46) = false := beq_eq_false_iff_ne.2 (by omega)
      have q2 : (1 : Int) ≤ (t : Int) := by omega
      have q3 : ¬ (t : Int) < 46 := by omega
      clear h0 h1 h2
      cases last
      all_goals
        go_wp2_with fail
        refine (Lf.awake_any _).mono ?_
        rintro en w4 ⟨rfl, k4⟩
        have HB4 := Lib.hid (HB3.out.trans (k4.mono HB3.out.size))
        clear k4
        go_wp2
        go_ret
        exact ⟨rfl, HB4.out⟩
    · have q0 : ((e : Int) != 0) = true := bne_iff_ne.2 (by omega)
      have q1 : ((t : Int) == 46) = false := beq_eq_false_iff_ne.2 (by omega)
      clear h0 h1 h2
      go_wp2_with fail
      refine (Lf.awake_any _).mono ?_
      rintro en w4 ⟨rfl, k4⟩
      have HB4 := Lib.hid (HB3.out.trans (k4.mono HB3.out.size))
      clear k4
      go_wp2
      go_ret
      exact ⟨rfl, HB4.out⟩

set_option maxRecDepth 100000 in
theorem lifted (os : Os) (started : os.Started) (H : Type) (enc : TypeId × Value → H) :
    ReturnsInHanded {} Try.checked os 8 .any (Rows.leafRoomSpec.pre6 enc Try.prog Try.f8 Rows.leafRoomRow.domain false) (Rows.leafRoomSpec.post enc Try.prog Try.f8 false true false false) := by
  refine returnsInHanded_of_change (C := Try.checked) own started (by kernel_rfl) Try.func8
    (ChangeSpec.witness6 (enc := enc) (C := Try.checked) false ⟨#[], #[.int .i64 0, .bool false, .int .u32 0, .int .u32 0], []⟩ 8 (by kernel_rfl) (by kernel_rfl) (by kernel_rfl) (by kernel_rfl)) ?_
  intro W base args ds gs before hval0 hW hcnd _
  have hval : ∀ (j : Nat) t v, Try.f8.params[j]? = some t → args[j]? = some v → Value.okWide Try.prog W .any base t v := hval0
  have hW' := hW
  obtain ⟨p, q, hA0, hV, rfl, hfz, hnd⟩ := hW
  have hA : DataW.TrodAll enc Try.prog W 0 (fun _ => true) true Try.f8.params.toList args.toList ds p := hA0
  rw [Try.params8] at hA hval
  obtain ⟨v0, vs0, d0, ds0, p0, q0, hargs, rfl, rfl, h0, r0⟩ := trodAll_cons hA
  obtain ⟨v1, vs1, d1, ds1, p1, q1, rfl, rfl, rfl, h1, r1⟩ := trodAll_cons r0
  obtain ⟨v2, vs2, d2, ds2, p2, q2, rfl, rfl, rfl, h2, r2⟩ := trodAll_cons r1
  obtain ⟨v3, vs3, d3, ds3, p3, q3, rfl, rfl, rfl, h3, r3⟩ := trodAll_cons r2
  obtain ⟨rfl, rfl, rfl⟩ := trodAll_nil r3
  obtain rfl : args = #[v0, v1, v2, v3] := by cases args; simp_all
  obtain ⟨a0, rfl, _, _, w0⟩ := open_int Try.underlying3 (hval 0 3 v0 rfl rfl) h0
  obtain ⟨a1, rfl, _, _⟩ := open_bool Try.underlying4 (hval 1 4 v1 rfl rfl) h1
  obtain ⟨a2, rfl, _, _, w2⟩ := open_int Try.underlying22 (hval 2 22 v2 rfl rfl) h2
  obtain ⟨a3, rfl, _, _, w3⟩ := open_int Try.underlying22 (hval 3 22 v3 rfl rfl) h3
  refine (walk W a0 w0 a1 a2 w2 a3 w3).mono fun e W' ⟨he, hb⟩ => ?_
  subst he
  exact ⟨_, rfl, Hk.closeLaw (tb := 4) (by kernel_rfl) (by kernel_rfl) rfl rfl rfl Try.underlying4 hW' hb⟩

theorem over : Rows.leafRoomRow.holds Try.pinned (OpenSpec.ofChange Rows.leafRoomSpec) :=
  OpenClaim.holds_of_wide 8 Try.f8 rfl rfl rfl rfl rfl rfl rfl ⟨rfl, rfl, rfl, rfl, rfl⟩ rfl rfl rfl rfl rfl (by kernel_rfl) Try.func8 (by kernel_rfl)
    (of_decide_eq_true (by kernel_rfl)) (by unfold Func.isWrapper; first | (rw [if_pos (by decide +kernel)]; kernel_rfl) | (rw [if_neg (by decide +kernel)]; exact ⟨rfl, rfl⟩))
    (fun os started H enc _ => lifted os started H enc)

/-- The statement. -/
theorem proved : Rows.LeafRoomSaid :=
  over
end Go.Proofs.Ytbicdmhmpmdoeaa.leafRoom
