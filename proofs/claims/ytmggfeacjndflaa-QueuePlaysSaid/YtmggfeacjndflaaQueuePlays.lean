/- P2.1: whatever is pushed, looked at and taken out, in any order, up to two hundred steps, the queue tells who is ahead of all that wait, and how many wait; for every slice of steps. No conditions. -/
import Derived.Test.YtmggfeacjndflaaPlB
import Derived.Test.YtmggfeacjndflaaKitC
namespace Go.Proofs.Ytmggfeacjndflaa.queuePlays
open Go.ChangeShapes Go.WideShapes Go.ChangeAt Go.RowKit
set_option linter.unusedVariables false

theorem own : ownKnob Try.prog.godebug = none := by kernel_rfl

attribute [local go_sem ↓] Go.wp_at_zero Go.wp_at_succ

set_option maxRecDepth 100000 in
set_option maxHeartbeats 4000000 in
theorem walk (w : World) (A : Option Addr) (n c : Nat) (o : Nat → Pl.Stp) (ha : Pl.Stps w w.heap.size A n o) (hn : n ≤ 9223372036854775807) :
    Calls Try.prog 3 #[.slice A n c] w fun e w' => e = .returned (.bool true) ∧ Below w.heap.size w w' := by
  obtain ⟨i0, hi0, hz0, hz1, hz2⟩ := info_parts Pl.info_step
  go_enter Try.func3, Try.ntmps3
  go_wp2_with fail
  refine (Qu.queue_new w.heap.size w (Nat.le_refl _)).mono ?_
  rintro e w1 ⟨rfl, hQ, hB, hS⟩
  have HQ := Lib.hid (And.intro hQ hB)
  clear hQ hB hS
  go_wp2_with fail
  refine (Qu.awake_any _).mono ?_
  rintro e w2 ⟨rfl, hb⟩
  have HP0 : Hid (Pl.Play w w2 w.heap.size none [] (.slice none 0 0) []) := Lib.hid ⟨HQ.out.1.below hb, World.ownsRow_nil _ _ _ _, List.Perm.refl _, HQ.out.2.trans (hb.mono HQ.out.2.size)⟩
  clear hb HQ
  go_wp2
  go_loopw [4, 5] (fun s4 s5 wr => ∃ (i : Nat) (v : Value) (r : Option Nat) (l : List Qu.Pt) (all : List Pl.Stp), s5 = .int .i64 i ∧ s4 = v ∧ i ≤ n ∧ i ≤ 200 ∧ all.length ≤ i ∧ Pl.Play w wr w.heap.size r l v all) (fun _ s _ => 200 - (intOf s).toNat)
  case atStart => exact ⟨0, _, none, [], [], rfl, rfl, by omega, by omega, Nat.le_refl _, HP0.out⟩
  case round =>
    clear HP0
    obtain ⟨i, v, r, l, all, rfl, hv4, hi, hi2, hall, hP⟩ := hrel
    subst hv4
    have q0 : (0 : Int) ≤ (i : Int) := by omega
    have q2 : (i : Int) ≤ 200 := by omega
    by_cases hlt : i < n
    · have q1 : (i : Int) < (n : Int) := by omega
      by_cases h200 : i < 200
      · have q3 : (i : Int) < 200 := by omega
        obtain ⟨b, off, rfl, hbm, a1, a2, a3⟩ := ha i hlt
        have c1 : wr.cell? ⟨b, off + i * 3, none⟩ = some (.int .i64 (o i).1) := (hP.below.cell (p := ⟨b, _, none⟩) hbm).trans a1
        have c2 : wr.cell? ⟨b, off + i * 3 + 1, none⟩ = some (.int .i64 (o i).2.1) := (hP.below.cell (p := ⟨b, _, none⟩) hbm).trans a2
        have c3 : wr.cell? ⟨b, off + i * 3 + 2, none⟩ = some (.int .i64 (o i).2.2) := (hP.below.cell (p := ⟨b, _, none⟩) hbm).trans a3
        have HA := Lib.hid ha
        have hP1 := hP.old ((Below.refl wr.heap.size wr).alloc (Nat.le_refl _) (.cells #[.int .i64 (o i).1, .int .i64 (o i).2.1, .int .i64 (o i).2.2] 27))
        have hbx : Qu.Blk (wr.alloc (.cells #[.int .i64 (o i).1, .int .i64 (o i).2.1, .int .i64 (o i).2.2] 27)) wr.heap.size 27 #[.int .i64 (o i).1, .int .i64 (o i).2.1, .int .i64 (o i).2.2] := Qu.Blk.new _ _ _
        generalize hS : o i = s at *
        have hal : all.length ≤ 200 := by omega
        clear hS ha a1 a2 a3 hbm
        obtain ⟨A', c', hv⟩ := Qu.own_value hP.own
        by_cases m0 : s.1.tmod 3 = 0
        · have f0 : (s.1.tmod 3 == 0) = true := beq_iff_eq.2 m0
          have HU := Lib.hid (Qu.push_any (s.2.2, s.2.1) w.heap.size w.heap.size r l _ hP1.que (by have := hP1.len; omega))
          have HP := Lib.hid (And.intro hP1 hbx)
          clear hP hP1 hbx m0 hv
          go_wp2_with fail
          refine HU.out.mono ?_
          rintro e w3 ⟨rfl, hq⟩
          have hq' := hq
          obtain ⟨r', hQ', hM', hF'⟩ := hq'
          have hv3 := HP.out.1.que.row hM' HP.out.1.own (by omega) (by omega)
          have hb3 := HP.out.1.que.blk hM' HP.out.2 (by omega) (by omega)
          have d1 := hb3.cell 0
          have d2 := hb3.cell 1
          have d3 := hb3.cell 2
          simp at d1 d2 d3
          have hz3 : w.heap.size ≤ w3.heap.size := by have := HP.out.1.below.size; have := hM'.size; omega
          have hx3 : wr.heap.size < w3.heap.size := hb3.lt
          have HQ := Lib.hid hq
          clear hq hQ' hM' hF' hb3
          go_wp2_with ((at_builtin; refine wpList_append_lies _ rfl _ _ 22 rfl w.heap.size 27 i0 _ 3 24 Try.underlying22 hi0 hz0 hz1 hz2 rfl (by omega) u4 all.length (Pl.cells3 all) rfl (hv3.alloc _) ⟨w3.heap.size, 0, none⟩ 1 1 [.int .i64 s.1, .int .i64 s.2.1, .int .i64 s.2.2] rfl rfl (World.news_of_block (cs := #[.int .i64 s.1, .int .i64 s.2.1, .int .i64 s.2.2]) (t := 27) (fr := (0, 0)) (heap_alloc_new w3 _)) (by simp [Value.oneCell']) (by omega) (by unfold maxLen; omega) (by omega) (by simp; omega) (w3.heap.size + 1) (by simp) ?_; intro g cp w4 hown hgrow hat hlt4))
          have hP4 := HP.out.1.pushed HQ.out hown hgrow
          have HP4 : Hid (∃ r', Pl.Play w w4 w.heap.size r' (Qu.ins (Pl.pt s) l) (.slice (some ⟨g, 0, none⟩) (all.length + 1) cp) (all ++ [s])) := Lib.hid hP4
          have hle : (Qu.ins (Pl.pt s) l).length = all.length + 1 := by obtain ⟨r', h⟩ := hP4; have := h.len; simpa using this
          have HL : Hid (Calls Try.prog 15 #[.pointer (some ⟨w.heap.size, 0, none⟩)] w4 fun e w' => e = .returned (.int .i64 ((all.length : Int) + 1)) ∧ w4 = w') := Lib.hid (by
            obtain ⟨r', h⟩ := hP4
            have := Qu.qlen_any w.heap.size w.heap.size r' _ w4 h.que
            rw [hle] at this
            exact this)
          clear hown hgrow hat hlt4 hP4 hle hv3 d1 d2 d3
          go_wp2_with fail
          refine HL.out.mono ?_
          rintro e w5 ⟨rfl, rfl⟩
          go_wp2
          go_roundw
          case rel =>
            obtain ⟨r', h⟩ := HP4.out
            exact ⟨i + 1, _, r', _, all ++ [s], by go_num, rfl, by omega, by omega, by simp; omega, h⟩
          case measure => simp [intOf]; omega
        · have f0 : (s.1.tmod 3 == 0) = false := beq_eq_false_iff_ne.2 m0
          subst hv
          have HF := Lib.hid (Pl.first_any A' all.length c' (Pl.nth all) _ _ (Pl.Stps.own hP1.own) (by omega))
          have HP := Lib.hid (And.intro hP1 hbx)
          have hx0 : wr.heap.size < (wr.alloc (.cells #[.int .i64 s.1, .int .i64 s.2.1, .int .i64 s.2.2] 27)).heap.size := hbx.lt
          have HX := Lib.hid hx0
          clear hP hP1 hbx m0 hx0
          go_wp2_with fail
          refine HF.out.mono ?_
          rintro e w3 ⟨hfi, hD⟩
          have HP3 := Lib.hid (And.intro (HP.out.1.old (hD.below _)) (HP.out.2.below (hD.below _)))
          clear hD HF
          rcases hfi with ⟨hn0, rfl⟩ | ⟨k, hk, rfl, hm⟩
          · -- nobody waits
            have hall0 : all = [] := List.eq_nil_of_length_eq_zero hn0
            subst hall0
            have hl0 : l = [] := List.eq_nil_of_length_eq_zero (by have := HP3.out.1.len; simpa using this)
            subst hl0
            have HK := Lib.hid (Qu.peek_empty w.heap.size w.heap.size r w3 HP3.out.1.que)
            have HO := Lib.hid (Qu.pop_empty w.heap.size w.heap.size r w3 HP3.out.1.que)
            have HL := Lib.hid (Qu.qlen_any w.heap.size w.heap.size r [] w3 HP3.out.1.que)
            have d1 := HP3.out.2.cell 0
            simp at d1
            go_wp2_with fail
            refine HK.out.mono ?_
            rintro e w4 ⟨rfl, rfl⟩
            by_cases m1 : s.1.tmod 3 = 1
            · have f1 : (s.1.tmod 3 == 1) = true := beq_iff_eq.2 m1
              clear m1
              go_wp2_with fail
              refine HO.out.mono ?_
              rintro e w4 ⟨rfl, rfl⟩
              go_wp2_with fail
              refine HL.out.mono ?_
              rintro e w4 ⟨rfl, rfl⟩
              go_wp2
              go_roundw
              case rel => exact ⟨i + 1, _, r, [], [], by go_num, rfl, by omega, by omega, by simp, HP3.out.1⟩
              case measure => simp [intOf]; omega
            · have f1 : (s.1.tmod 3 == 1) = false := beq_eq_false_iff_ne.2 m1
              clear m1
              go_wp2_with fail
              refine HL.out.mono ?_
              rintro e w4 ⟨rfl, rfl⟩
              go_wp2
              go_roundw
              case rel => exact ⟨i + 1, _, r, [], [], by go_num, rfl, by omega, by omega, by simp, HP3.out.1⟩
              case measure => simp [intOf]; omega
          · -- the k-th is ahead
            obtain ⟨x, l, rfl⟩ : ∃ x l', l = x :: l' := by
              cases l with
              | nil => have := HP3.out.1.len; simp at this; omega
              | cons x l => exact ⟨x, l, rfl⟩
            have hx := HP3.out.1.head hk hm
            have hln := HP3.out.1.len
            have hkn : (k : Int) < (all.length : Int) := by omega
            have hk0 : (0 : Int) ≤ (k : Int) := by omega
            have hk9 : (k : Int) ≤ 200 := by omega
            have hN9 : (all.length : Int) ≤ 200 := by omega
            have hk00 : decide ((0 : Int) ≤ (k : Int)) = true := by simp
            have hxe : x = ((Pl.nth all k).2.2, (Pl.nth all k).2.1) := hx
            have HK : Hid (Calls Try.prog 13 #[.pointer (some ⟨w.heap.size, 0, none⟩)] w3 fun e w' => e = .returned (.tuple #[.int .i64 (Pl.nth all k).2.2, .int .i64 (Pl.nth all k).2.1, .bool true]) ∧ Below w3.heap.size w3 w') := Lib.hid (by
              have := Qu.peek_some w.heap.size w.heap.size r x l w3 HP3.out.1.que (by simp at hln; omega)
              rw [hxe] at this
              exact this)
            have HX2 := Lib.hid (And.intro hx (And.intro hln hk))
            clear hx hln hxe hm
            go_wp2_with fail
            refine HK.out.mono ?_
            rintro e w4 ⟨rfl, hb4⟩
            have hP4 := HP3.out.1.old hb4
            have hb5 := HP3.out.2.below hb4
            obtain ⟨b4, o4, hA4, _, e1, e2, e3⟩ := Pl.Stps.own hP4.own k hk
            obtain ⟨g4, cq4, hv4, _, _⟩ := hP4.own.form (by omega)
            cases hv4
            cases hA4
            rw [Nat.zero_add] at e1 e2 e3
            have d1 := hb5.cell 0
            simp at d1
            have HP4 := Lib.hid (And.intro hP4 hb5)
            clear hP4 hb5 hb4 e1
            by_cases m1 : s.1.tmod 3 = 1
            · have f1 : (s.1.tmod 3 == 1) = true := beq_iff_eq.2 m1
              have HO : Hid (Calls Try.prog 14 #[.pointer (some ⟨w.heap.size, 0, none⟩)] w4 fun e w' => e = .returned (.tuple #[.int .i64 (Pl.nth all k).2.2, .int .i64 (Pl.nth all k).2.1, .bool true]) ∧ Qu.QPopped w4 w' w.heap.size w.heap.size r l) := Lib.hid (by
                have := Qu.pop_some w.heap.size w.heap.size r x l w4 HP4.out.1.que (by have := HX2.out.2.1; simp at this; omega)
                have hxe : x = ((Pl.nth all k).2.2, (Pl.nth all k).2.1) := HX2.out.1
                rw [hxe] at this
                exact this)
              clear m1 e2 e3
              go_wp2_with fail
              refine HO.out.mono ?_
              rintro e w5 ⟨rfl, hq⟩
              obtain ⟨hQ5, hO5, hB5⟩ := HP4.out.1.popped hq
              have hb6 := HP4.out.1.que.blk hq.2 HP4.out.2 (by omega) (by omega)
              obtain ⟨b5, o5, hA5, _, e1, e2, e3⟩ := Pl.Stps.own hO5 k hk
              cases hA5
              rw [Nat.zero_add] at e1 e2 e3
              have d1 := hb6.cell 0
              simp at d1
              obtain ⟨hcap, hcap2⟩ := Qu.row_cap hO5
              have hkc : (k : Int) ≤ (c' : Int) := by omega
              have hkn1 : (k : Int) + 1 ≤ (all.length : Int) := by omega
              obtain ⟨ad, hsl, had, hif⟩ := Pl.slice_from b4 all.length c' k hk (by omega)
              have HH := Lib.hid (And.intro hQ5 (And.intro hO5 (And.intro hB5 had)))
              have hz5 := hB5.size
              have HH := Lib.hid (And.intro hQ5 (And.intro hO5 (And.intro hB5 had)))
              have hz5 := hB5.size
              have e7 : IntKind.i64.wrap ((k : Int) + 1) = (k : Int) + 1 := IntWalk.i64_in _ (by omega)
              have e8 : (0 : Int) ≤ (k : Int) + 1 := by omega
              have e9 : ((k : Int) + 1).toNat = k + 1 := by omega
              clear hq hQ5 hO5 hB5 hb6 e1 had
              go_wp2_with fail
              have HA1 := Lib.hid (show (Pl.cells3 (all.take k)).length = k * 3 by rw [Pl.cells3_length, List.length_take]; omega)
              have HA2 := Lib.hid (show 0 + k ≤ maxLen by unfold maxLen; omega)
              have HA3 := Lib.hid (show (0 + k) * 24 ≤ 140737488355328 by omega)
              have HB1 := Lib.hid (show (Pl.cells3 (all.drop (k + 1))).length = (all.length - (k + 1)) * 3 by rw [Pl.cells3_length, List.length_drop])
              have HB2 := Lib.hid (show 0 + k + (all.length - (k + 1)) ≤ maxLen by unfold maxLen; omega)
              have HB3 := Lib.hid (show (0 + k + (all.length - (k + 1))) * 24 ≤ 140737488355328 by omega)
              have HZ5 := Lib.hid hz5
              have e8 : (0 : Int) ≤ (k : Int) + 1 := by omega
              have e9 : ((k : Int) + 1).toNat = k + 1 := by omega
              have e7 : IntKind.i64.wrap ((k : Int) + 1) = (k : Int) + 1 := IntWalk.i64_in _ (by omega)
              clear hz5
              go_region_law (first | (refine Pl.step_append_src _ (by rfl) (.const (.slice none 0 0)) (.tmp 110) 22 (by rfl) w.heap.size 27 i0 _ 3 24 Try.underlying22 hi0 hz0 hz1 hz2 rfl (Nat.succ_pos 2) (.slice none 0 0) 0 [] (by rfl) (World.ownsRow_nil _ _ _ _) ⟨b4, 0, none⟩ k c' (Pl.cells3 (all.take k)) (by rfl) HA1.out (Pl.there_take (Qu.row_drew HH.out.2.1) k) (Pl.cells3_one _) HA2.out HA3.out HZ5.out ?_; intro v1 w6 own1 g1; have OG1 := Lib.hid (And.intro own1 g1); clear own1 g1) | (refine Pl.step_append_src _ (by rfl) (.tmp 111) (.tmp 115) 22 (by rfl) w.heap.size 27 i0 _ 3 24 Try.underlying22 hi0 hz0 hz1 hz2 rfl (Nat.succ_pos 2) v1 (0 + k) ([] ++ Pl.cells3 (all.take k)) (by rfl) OG1.out.1 ad (all.length - (k + 1)) (c' - (k + 1)) (Pl.cells3 (all.drop (k + 1))) (by rfl) HB1.out (Pl.there_drop ((Qu.row_drew HH.out.2.1).kept OG1.out.2 (Or.inr (by simp [Value.ownBlock]))) HH.out.2.2.2) (Pl.cells3_one _) HB2.out HB3.out (Nat.le_trans HZ5.out OG1.out.2.size) ?_; intro v2 w7 own2 g2; have OG2 := Lib.hid (And.intro own2 g2); clear own2 g2))
              clear e7 e8 e9 hif hsl
              have hP7 := Pl.struck HX2.out.2.2 HX2.out.1 HP4.out.1.perm HH.out.1 HH.out.2.2.1 (by have := OG1.out.1; simpa using this) (Pl.undrew OG1.out.2) (by have := OG2.out.1; simpa using this) OG2.out.2
              have hlen : l.length = all.length - 1 := by have := HX2.out.2.1; simp at this; omega
              obtain ⟨A7, c7, hv7⟩ := Qu.own_value OG2.out.1
              have hM : 0 + k + (all.length - (k + 1)) = all.length - 1 := by omega
              rw [hM] at hv7
              have HL := Lib.hid (Qu.qlen_any w.heap.size w.heap.size r l w7 hP7.que)
              rw [hlen] at HL
              have hlm : (all.take k ++ all.drop (k + 1)).length ≤ i + 1 := by simp; omega
              have HP7 := Lib.hid (And.intro hP7 hlm)
              clear OG1 OG2 HH HX2 HP4 hP7 hlen hM hlm HA1 HA2 HA3 HB1 HB2 HB3 HZ5
              generalize all.length - 1 = M at *
              generalize all.take k ++ all.drop (k + 1) = rest at *
              subst hv7
              go_wp2_with fail
              refine HL.out.mono ?_
              rintro e w8 ⟨rfl, rfl⟩
              go_wp2
              go_roundw
              case rel => exact ⟨i + 1, _, r, l, rest, by go_num, rfl, by omega, by omega, HP7.out.2, HP7.out.1⟩
              case measure => simp [intOf]; omega
            · have f1 : (s.1.tmod 3 == 1) = false := beq_eq_false_iff_ne.2 m1
              have HL : Hid (Calls Try.prog 15 #[.pointer (some ⟨w.heap.size, 0, none⟩)] w4 fun e w' => e = .returned (.int .i64 all.length) ∧ w4 = w') := Lib.hid (by
                have := Qu.qlen_any w.heap.size w.heap.size r _ w4 HP4.out.1.que
                rw [HX2.out.2.1] at this
                exact this)
              clear m1
              go_wp2_with fail
              refine HL.out.mono ?_
              rintro e w5 ⟨rfl, rfl⟩
              go_wp2
              go_roundw
              case rel => exact ⟨i + 1, _, r, _, all, by go_num, rfl, by omega, by omega, by omega, HP4.out.1⟩
              case measure => simp [intOf]; omega
      · have q3 : ¬ (i : Int) < 200 := by omega
        have HB := Lib.hid hP.below
        clear hP ha
        go_wp2
        go_ret
        exact ⟨rfl, HB.out⟩
    · have q1 : ¬ (i : Int) < (n : Int) := by omega
      have HB := Lib.hid hP.below
      clear hP ha
      go_wp2
      go_ret
      exact ⟨rfl, HB.out⟩


set_option maxRecDepth 100000 in
theorem lifted (os : Os) (started : os.Started) (H : Type) (enc : TypeId × Value → H) :
    ReturnsInHanded {} Try.checked os 3 .any (Rows.queuePlaysSpec.pre6 enc Try.prog Try.f3 Rows.queuePlaysRow.domain false) (Rows.queuePlaysSpec.post enc Try.prog Try.f3 false true false false) := by
  refine returnsInHanded_of_change (C := Try.checked) own started (by kernel_rfl) Try.func3
    (ChangeSpec.witness6 (enc := enc) (C := Try.checked) false ⟨#[], #[.slice none 0 0], []⟩ 8 (by kernel_rfl) (by kernel_rfl) (by kernel_rfl) (by kernel_rfl)) ?_
  intro W base args ds gs before hval0 hW hcnd _
  have hval : ∀ (j : Nat) t v, Try.f3.params[j]? = some t → args[j]? = some v → Value.okWide Try.prog W .any base t v := hval0
  have hW' := hW
  obtain ⟨p, q, hA0, hV, rfl, hfz, hnd⟩ := hW
  have hA : DataW.TrodAll enc Try.prog W 0 (fun _ => true) true Try.f3.params.toList args.toList ds p := hA0
  rw [Try.params3] at hA hval
  obtain ⟨v0, vs0, d0, ds0, p0, q0, hargs, rfl, rfl, h0, r0⟩ := trodAll_cons hA
  obtain ⟨rfl, rfl, rfl⟩ := trodAll_nil r0
  obtain rfl : args = #[v0] := by cases args; simp_all
  obtain ⟨A0, n0, c0, o0, rfl, x0, y0⟩ := Pl.open_steps (hval 0 22 v0 rfl rfl) h0
  refine (walk W A0 n0 c0 o0 x0 y0).mono fun e W' ⟨he, hb⟩ => ?_
  subst he
  exact ⟨_, rfl, Hk.closeLaw (tb := 4) (by kernel_rfl) (by kernel_rfl) rfl rfl rfl Try.underlying4 hW' hb⟩

theorem over : Rows.queuePlaysRow.holds Try.pinned (OpenSpec.ofChange Rows.queuePlaysSpec) :=
  OpenClaim.holds_of_wide 3 Try.f3 rfl rfl rfl rfl rfl rfl rfl ⟨rfl, rfl, rfl, rfl, rfl⟩ rfl rfl rfl rfl rfl (by kernel_rfl) Try.func3 (by kernel_rfl)
    (of_decide_eq_true (by kernel_rfl)) (by unfold Func.isWrapper; first | (rw [if_pos (by decide +kernel)]; kernel_rfl) | (rw [if_neg (by decide +kernel)]; exact ⟨rfl, rfl⟩))
    (fun os started H enc _ => lifted os started H enc)

/-- The statement. -/
theorem proved : Rows.QueuePlaysSaid :=
  over
end Go.Proofs.Ytmggfeacjndflaa.queuePlays
