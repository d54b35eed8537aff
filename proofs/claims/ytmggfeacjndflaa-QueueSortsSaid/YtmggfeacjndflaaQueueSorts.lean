/- What follows of layer 2: what is pushed in any order, by turns, is popped in one: ranks fall, of equal ones numbers rise; for every slice of int64, and every int as the turn. No conditions. -/
import Derived.Test.YtmggfeacjndflaaQuR
import Derived.Test.YtmggfeacjndflaaKitC
namespace Go.Proofs.Ytmggfeacjndflaa.queueSorts
open Go.ChangeShapes Go.WideShapes Go.ChangeAt Go.RowKit
set_option linter.unusedVariables false

theorem own : ownKnob Try.prog.godebug = none := by kernel_rfl

theorem long (w : World) (A : Option Addr) (n c : Nat) (a1 : Int) (hn : n ≤ 9223372036854775807) (hl : 200 < n) :
    Calls Try.prog 5 #[.slice A n c, .int .i64 a1] w fun e w' => e = .returned (.bool true) ∧ Below w.heap.size w w' := by
  have h1 : (200 : Int) < (n : Int) := by omega
  go_enter Try.func5, Try.ntmps5
  go_wp2_with fail
  refine (Qu.awake_any _).mono ?_
  rintro e w1 ⟨rfl, hb⟩
  go_wp2
  go_ret
  exact ⟨rfl, hb⟩

set_option maxRecDepth 100000 in
set_option maxHeartbeats 4000000 in
theorem short (w : World) (A : Option Addr) (n c : Nat) (f : Nat → Int) (ha : Hl.Ints w w.heap.size A n f) (a1 : Int) (hl : n ≤ 200) :
    Calls Try.prog 5 #[.slice A n c, .int .i64 a1] w fun e w' => e = .returned (.bool true) ∧ Below w.heap.size w w' := by
  have h1 : (n : Int) ≤ 200 := by omega
  go_enter Try.func5, Try.ntmps5
  go_wp2_with fail
  refine (Qu.queue_new w.heap.size w (Nat.le_refl _)).mono ?_
  rintro e w1 ⟨rfl, hQ, hB, hS⟩
  have HQ := Lib.hid (And.intro hQ (And.intro hB hS))
  clear hQ hB hS
  go_wp2_with fail
  refine (Qu.queue_new w.heap.size w1 HQ.out.2.1.size).mono ?_
  rintro e w2 ⟨rfl, hQ2, hB2, hS2⟩
  have HT := Lib.hid (Qu.two_start HQ.out.1 HQ.out.2.1 hB2 hQ2 (by have := HQ.out.2.2; omega))
  clear hQ2 hB2 hS2 HQ
  go_wp2_with fail
  refine (Qu.awake_any _).mono ?_
  rintro e w3 ⟨rfl, hb⟩
  have HT3 := Lib.hid (HT.out.old hb HT.out.size)
  clear hb HT
  obtain ⟨t, ht⟩ : ∃ t : Nat, 0 < n → wrap64 ((IntKind.u64.wrap a1).tmod n) = (t : Int) ∧ (t : Int) < n ∧ (IntKind.u64.wrap a1) % n = (t : Int) ∧ IntKind.u64.wrap ((IntKind.u64.wrap a1).tmod n) = (t : Int) := by
    by_cases h0 : 0 < n
    · obtain ⟨t, ht⟩ := Qu.umod_in a1 n (by omega) (by omega)
      exact ⟨t, fun _ => ht⟩
    · exact ⟨0, fun h => absurd h h0⟩
  have HTT := Lib.hid ht
  clear ht
  go_wp2
  go_loopw [8] (fun s wr => ∃ (k : Nat) (ra rb : Option Nat), s = .int .i64 k ∧ k ≤ n ∧ Qu.Two w wr w.heap.size w.heap.size w1.heap.size ra rb (Qu.ord f k) (Qu.ords (fun i => (f ((i + t) % n), (((i + t) % n : Nat) : Int))) k)) (fun s _ => n - (intOf s).toNat)
  case atStart => exact ⟨0, none, none, rfl, by omega, HT3.out⟩
  case round =>
    clear HT3
    obtain ⟨k, ra, rb, rfl, hk, hT⟩ := hrel
    by_cases hlt : k < n
    · obtain ⟨p, hp⟩ : ∃ p, p = (k + t) % n := ⟨_, rfl⟩
      have hpn : p < n := by rw [hp]; exact Nat.mod_lt _ (by omega)
      obtain ⟨b, o, rfl, hbm, hc1⟩ := ha k hlt
      obtain ⟨b', o', hA', hbm', hc2⟩ := ha p hpn
      cases hA'
      obtain ⟨t1, t2, t3, t4⟩ := HTT.out (by omega)
      have c1 : wr.cell? ⟨b, o + k, none⟩ = some (.int .i64 (f k)) := (hT.below.cell (p := ⟨b, o + k, none⟩) hbm).trans hc1
      have k0 : (0 : Int) ≤ (k : Int) := by omega
      have k1 : (k : Int) < (n : Int) := by omega
      have p0 : (0 : Int) ≤ (p : Int) := by omega
      have p1 : (p : Int) < (n : Int) := by omega
      have e1 : ((k : Int) + (t : Int)) % (n : Int) = (p : Int) := by rw [hp, Int.natCast_emod, Int.natCast_add]
      have HP := Lib.hid (Qu.push_any (f k, (k : Int)) w.heap.size w.heap.size ra (Qu.ord f k) wr hT.a (by rw [Qu.ord_length]; omega))
      have HT4 := Lib.hid hT
      have HPE := Lib.hid hp
      have HC := Lib.hid (And.intro hbm hc2)
      clear ha hc1 hc2 hT hp hbm hbm'
      go_wp2_with fail
      refine HP.out.mono ?_
      rintro e w4 ⟨rfl, hq⟩
      obtain ⟨ra', hT5⟩ := HT4.out.pushA hq
      have c2 : w4.cell? ⟨b, o + p, none⟩ = some (.int .i64 (f p)) := (hT5.below.cell (p := ⟨b, o + p, none⟩) HC.out.1).trans HC.out.2
      have HP2 := Lib.hid (Qu.push_any (f p, (p : Int)) w.heap.size w1.heap.size rb (Qu.ords (fun i => (f ((i + t) % n), (((i + t) % n : Nat) : Int))) k) w4 hT5.b (by rw [Qu.ords_length]; omega))
      have HT5 := Lib.hid hT5
      clear hT5 hq c1
      go_wp2_with fail
      refine HP2.out.mono ?_
      rintro e w5 ⟨rfl, hq⟩
      have hT6 := HT5.out.symm.pushA hq
      have HT6 : Hid (∃ ra rb, Qu.Two w w5 w.heap.size w.heap.size w1.heap.size ra rb (Qu.ord f (k + 1)) (Qu.ords (fun i => (f ((i + t) % n), (((i + t) % n : Nat) : Int))) (k + 1))) := Lib.hid (by
        obtain ⟨rb', hT6⟩ := hT6
        refine ⟨ra', rb', ?_⟩
        have := hT6.symm
        rw [HPE.out] at this
        exact this)
      clear hT6 hq
      go_wp2
      go_roundw
      case rel =>
        obtain ⟨ra2, rb2, h⟩ := HT6.out
        exact ⟨k + 1, ra2, rb2, by go_num, by omega, h⟩
      case measure => simp [intOf]; omega
    · obtain rfl : k = n := by omega
      have k1 : ¬ (k : Int) < (k : Int) := by omega
      rw [Qu.turned_eq] at hT
      have HT7 := Lib.hid hT
      have HL := Lib.hid (Qu.ord_length f k)
      have HST := Lib.hid (Qu.ord_strict f k)
      clear ha hT HTT hl
      go_wp2_with fail
      go_loopw [10, 11, 12] (fun s10 s11 s12 wr => ∃ (i : Nat) (last at_ : Int) (done l : List Qu.Pt), s10 = .int .i64 last ∧ s11 = .int .i64 at_ ∧ s12 = .int .i64 i ∧ i = done.length ∧ Qu.ord f k = done ++ l ∧ Qu.Two w wr w.heap.size w.heap.size w1.heap.size ra rb l l ∧ (0 < i → ∃ d, done = d ++ [(last, at_)])) (fun _ _ s _ => k - (intOf s).toNat)
      case atStart => exact ⟨0, 0, 0, [], Qu.ord f k, rfl, rfl, rfl, rfl, rfl, HT7.out, fun h => absurd h (by omega)⟩
      case round =>
        clear HT7
        obtain ⟨i, last, at_, done, l, rfl, rfl, rfl, hi, hall, hT, hd⟩ := hrel
        have hlen : k = i + l.length := by rw [← HL.out, hall, List.length_append, hi]
        have hik : i ≤ 200 := by omega
        cases l with
        | nil =>
          have i1 : ¬ (i : Int) < (k : Int) := by simp at hlen; omega
          have HP := Lib.hid (Qu.pop_empty w.heap.size w.heap.size ra wr hT.a)
          have HN := Lib.hid (Qu.qlen_any w.heap.size w.heap.size ra [] wr hT.a)
          have HB := Lib.hid hT.below
          clear hi hall hT hd hlen
          go_wp2_with fail
          refine HP.out.mono ?_
          rintro e w4 ⟨rfl, rfl⟩
          go_wp2_with fail
          refine HN.out.mono ?_
          rintro e w4 ⟨rfl, rfl⟩
          go_wp2
          go_ret
          exact ⟨rfl, HB.out⟩
        | cons x l =>
          have i1 : (i : Int) < (k : Int) := by simp at hlen; omega
          have hnx : l.length ≤ 1000 := by simp at hlen; omega
          have HP := Lib.hid (Qu.pop_some w.heap.size w.heap.size ra x l wr hT.a (by omega))
          have HT8 := Lib.hid hT
          have HALL := Lib.hid hall
          have HI := Lib.hid hi
          have hst : 0 < i → Qu.aheadB (last, at_) x = true := fun h => by
            obtain ⟨d, hd⟩ := hd h
            have := HST.out
            rw [hall, hd, List.append_assoc] at this
            have h2 := (List.pairwise_append.1 this).2.1
            exact (List.pairwise_cons.1 h2).1 x (by simp)
          have hst2 : 0 < i → x.1 < last ∨ (x.1 = last ∧ at_ < x.2) := fun h => (Qu.ahead_iff _ _).1 (hst h)
          clear hi hall hT hd hlen hst
          have hgo : Hid ((i = 0) ∨ (0 < i ∧ x.1 < last) ∨ (0 < i ∧ x.1 = last ∧ at_ < x.2)) := Lib.hid (by
            rcases Nat.eq_zero_or_pos i with h | h
            · exact .inl h
            · rcases hst2 h with h2 | h2
              · exact .inr (.inl ⟨h, h2⟩)
              · exact .inr (.inr ⟨h, h2⟩))
          clear hst2
          go_wp2_with fail
          refine HP.out.mono ?_
          rintro e w4 ⟨rfl, hq⟩
          have hT9 := HT8.out.popA hq
          have HP2 := Lib.hid (Qu.pop_some w.heap.size w1.heap.size rb x l w4 hT9.b (by omega))
          have HT9 := Lib.hid hT9
          clear hT9 hq
          go_wp2_with fail
          refine HP2.out.mono ?_
          rintro e w5 ⟨rfl, hq⟩
          have HT10 := Lib.hid (HT9.out.symm.popA hq).symm
          clear hq
          rcases hgo.out with h | ⟨h, h2⟩ | ⟨h, h2, h3⟩
          · subst h
            go_wp2
            go_roundw
            case rel => exact ⟨1, x.1, x.2, done ++ [x], l, rfl, rfl, rfl, by rw [List.length_append, ← HI.out]; rfl, by rw [HALL.out]; simp, HT10.out, fun _ => ⟨done, rfl⟩⟩
            case measure => simp [intOf]; omega
          · have b0 : (0 : Int) < (i : Int) := by omega
            have b1 : decide (last < x.1) = false := by simp; omega
            have b2 : (x.1 == last) = false := beq_eq_false_iff_ne.2 (by omega)
            clear h h2
            go_wp2
            go_roundw
            case rel => exact ⟨i + 1, x.1, x.2, done ++ [x], l, rfl, rfl, by go_num, by rw [List.length_append, ← HI.out]; rfl, by rw [HALL.out]; simp, HT10.out, fun _ => ⟨done, rfl⟩⟩
            case measure => simp [intOf]; omega
          · have b0 : (0 : Int) < (i : Int) := by omega
            have b1 : decide (last < x.1) = false := by simp; omega
            have b2 : (x.1 == last) = true := beq_iff_eq.2 h2
            have b3 : decide (x.2 ≤ at_) = false := by simp; omega
            clear h h2 h3
            go_wp2
            go_roundw
            case rel => exact ⟨i + 1, x.1, x.2, done ++ [x], l, rfl, rfl, by go_num, by rw [List.length_append, ← HI.out]; rfl, by rw [HALL.out]; simp, HT10.out, fun _ => ⟨done, rfl⟩⟩
            case measure => simp [intOf]; omega

theorem walk (w : World) (A : Option Addr) (n c : Nat) (f : Nat → Int) (ha : Hl.Ints w w.heap.size A n f) (hn : n ≤ 9223372036854775807) (hf : ∀ k, k < n → -9223372036854775808 ≤ f k ∧ f k ≤ 9223372036854775807) (a1 : Int) (w1 : (Lit.int .i64 a1).wf = true) :
    Calls Try.prog 5 #[.slice A n c, .int .i64 a1] w fun e w' => e = .returned (.bool true) ∧ Below w.heap.size w w' := by
  by_cases hl : 200 < n
  · exact long w A n c a1 hn hl
  · exact short w A n c f ha a1 (by omega)


set_option maxRecDepth 100000 in
theorem lifted (os : Os) (started : os.Started) (H : Type) (enc : TypeId × Value → H) :
    ReturnsInHanded {} Try.checked os 5 .any (Rows.queueSortsSpec.pre6 enc Try.prog Try.f5 Rows.queueSortsRow.domain false) (Rows.queueSortsSpec.post enc Try.prog Try.f5 false true false false) := by
  refine returnsInHanded_of_change (C := Try.checked) own started (by kernel_rfl) Try.func5
    (ChangeSpec.witness6 (enc := enc) (C := Try.checked) false ⟨#[], #[.slice none 0 0, .int .i64 0], []⟩ 8 (by kernel_rfl) (by kernel_rfl) (by kernel_rfl) (by kernel_rfl)) ?_
  intro W base args ds gs before hval0 hW hcnd _
  have hval : ∀ (j : Nat) t v, Try.f5.params[j]? = some t → args[j]? = some v → Value.okWide Try.prog W .any base t v := hval0
  have hW' := hW
  obtain ⟨p, q, hA0, hV, rfl, hfz, hnd⟩ := hW
  have hA : DataW.TrodAll enc Try.prog W 0 (fun _ => true) true Try.f5.params.toList args.toList ds p := hA0
  rw [Try.params5] at hA hval
  obtain ⟨v0, vs0, d0, ds0, p0, q0, hargs, rfl, rfl, h0, r0⟩ := trodAll_cons hA
  obtain ⟨v1, vs1, d1, ds1, p1, q1, rfl, rfl, rfl, h1, r1⟩ := trodAll_cons r0
  obtain ⟨rfl, rfl, rfl⟩ := trodAll_nil r1
  obtain rfl : args = #[v0, v1] := by cases args; simp_all
  obtain ⟨A0, n0, c0, f0, rfl, x0, y0, z0, u0⟩ := Hk.open_ints_at Try.underlying34 Try.underlying2 (by kernel_rfl) (hval 0 34 v0 rfl rfl) h0
  obtain ⟨a1, rfl, _, _, w1⟩ := open_int Try.underlying3 (hval 1 3 v1 rfl rfl) h1
  refine (walk W A0 n0 c0 f0 x0 y0 z0 a1 w1).mono fun e W' ⟨he, hb⟩ => ?_
  subst he
  exact ⟨_, rfl, Hk.closeLaw (tb := 4) (by kernel_rfl) (by kernel_rfl) rfl rfl rfl Try.underlying4 hW' hb⟩

theorem over : Rows.queueSortsRow.holds Try.pinned (OpenSpec.ofChange Rows.queueSortsSpec) :=
  OpenClaim.holds_of_wide 5 Try.f5 rfl rfl rfl rfl rfl rfl rfl ⟨rfl, rfl, rfl, rfl, rfl⟩ rfl rfl rfl rfl rfl (by kernel_rfl) Try.func5 (by kernel_rfl)
    (of_decide_eq_true (by kernel_rfl)) (by unfold Func.isWrapper; first | (rw [if_pos (by decide +kernel)]; kernel_rfl) | (rw [if_neg (by decide +kernel)]; exact ⟨rfl, rfl⟩))
    (fun os started H enc _ => lifted os started H enc)

/-- The statement. -/
theorem proved : Rows.QueueSortsSaid :=
  over
end Go.Proofs.Ytmggfeacjndflaa.queueSorts
