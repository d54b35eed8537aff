/- P2.1, R2: two queues do not hang together: ranks that are pushed into two of them by turns are popped of each as if there were no other; for every two slices of int64. No conditions. -/
import Derived.Test.YtmggfeacjndflaaQuR
import Derived.Test.YtmggfeacjndflaaQuI
import Derived.Test.YtmggfeacjndflaaKitC
namespace Go.Proofs.Ytmggfeacjndflaa.queueApart
open Go.ChangeShapes Go.WideShapes Go.ChangeAt Go.RowKit
set_option linter.unusedVariables false

theorem own : ownKnob Try.prog.godebug = none := by kernel_rfl

theorem Two_grown {w wr w' : World} {B qa qb : Nat} {ra rb row : Option Nat} {la lb : List Qu.Pt} (h : Qu.Two w wr B qa qb ra rb la lb) (hg : wr.grownBy w' row) (h1 : some qa ≠ row ∧ (ra = none ∨ ra ≠ row)) (h2 : some qb ≠ row ∧ (rb = none ∨ rb ≠ row)) (h3 : ∀ k, row = some k → B ≤ k) : Qu.Two w w' B qa qb ra rb la lb :=
  ⟨h.a.grown hg h1.1 h1.2, h.b.grown hg h2.1 h2.2, h.ne, h.apart, h.below.grown hg h.size h3⟩

theorem long (w : World) (A C : Option Addr) (n m c d : Nat) (hn : n ≤ 9223372036854775807) (hm : m ≤ 9223372036854775807) (hl : 100 < n ∨ (n ≤ 100 ∧ 100 < m)) :
    Calls Try.prog 7 #[.slice A n c, .slice C m d] w fun e w' => e = .returned (.bool true) ∧ Below w.heap.size w w' := by
  rcases hl with hl | ⟨hl, hl2⟩
  · have h1 : (100 : Int) < (n : Int) := by omega
    go_enter Try.func7, Try.ntmps7
    go_wp2_with fail
    refine (Qu.awake_any _).mono ?_
    rintro e w1 ⟨rfl, hb⟩
    go_wp2
    go_ret
    exact ⟨rfl, hb⟩
  · have h1 : (n : Int) ≤ 100 := by omega
    have h2 : (100 : Int) < (m : Int) := by omega
    go_enter Try.func7, Try.ntmps7
    go_wp2_with fail
    refine (Qu.awake_any _).mono ?_
    rintro e w1 ⟨rfl, hb⟩
    go_wp2
    go_ret
    exact ⟨rfl, hb⟩

/-- Where the second loop stands: of the first queue done is told. -/
structure Stands (w wr : World) (qb : Nat) (v : Value) (ra rb : Option Nat) (all done l lb : List Qu.Pt) : Prop where
  all : all = done ++ l
  two : Qu.Two w wr w.heap.size w.heap.size qb ra rb l lb
  own : wr.ownsRow w.heap.size 3 1 v done.length (Qu.nums done)

theorem Stands.step {w wr w1 w2 : World} {qb g cap : Nat} {v : Value} {ra rb : Option Nat} {all done l lb : List Qu.Pt} {x : Qu.Pt} {o : Obj} (h : Stands w wr qb v ra rb all done (x :: l) lb) (hq : Qu.QPopped wr w1 w.heap.size w.heap.size ra l)
    (hown : w2.ownsRow w.heap.size 3 1 (.slice (some ⟨g, 0, none⟩) (done.length + 1) cap) (done.length + 1) (Qu.nums done ++ [.int .i64 x.2])) (hgrow : (w1.alloc o).grownBy w2 v.ownBlock) : Stands w w2 qb (.slice (some ⟨g, 0, none⟩) (done.length + 1) cap) ra rb all (done ++ [x]) l lb := by
  have hv1 := h.two.a.row hq.2 h.own (by omega) (by omega)
  have hT1 := h.two.popA hq
  have hT2 := hT1.old ((Below.refl _ _).alloc (Nat.le_refl _) o) hT1.size
  refine ⟨by rw [h.all]; simp, Two_grown hT2 hgrow (hT1.a.apart hv1 (by omega) (by omega)) (hT1.b.apart hv1 (by omega) (by omega)) (fun k hk => (hv1.lt k hk).1), ?_⟩
  have e : Qu.nums (done ++ [x]) = Qu.nums done ++ [.int .i64 x.2] := by simp [Qu.nums]
  have e2 : (done ++ [x]).length = done.length + 1 := by simp
  rw [e, e2]; exact hown

set_option maxRecDepth 100000 in
set_option maxHeartbeats 4000000 in
theorem short (w : World) (A C : Option Addr) (n m c d : Nat) (f h : Nat → Int) (ha : Hl.Ints w w.heap.size A n f) (hc : Hl.Ints w w.heap.size C m h) (hl : n ≤ 100) (hl2 : m ≤ 100) :
    Calls Try.prog 7 #[.slice A n c, .slice C m d] w fun e w' => e = .returned (.bool true) ∧ Below w.heap.size w w' := by
  obtain ⟨i0, hi0, hz0, hz1, hz2⟩ := info_parts Qu.info_int
  have h1 : (n : Int) ≤ 100 := by omega
  have h2 : (m : Int) ≤ 100 := by omega
  obtain ⟨M, hM⟩ : ∃ M, M = max n m := ⟨_, rfl⟩
  have M1 : (if (n : Int) < (m : Int) then (m : Int) else (n : Int)) = (M : Int) := by split <;> omega
  have M2 : (if (m : Int) < (n : Int) then (n : Int) else (m : Int)) = (M : Int) := by split <;> omega
  have M3 : (if n < m then (m : Int) else (n : Int)) = (M : Int) := by split <;> omega
  have M4 : (if m < n then (n : Int) else (m : Int)) = (M : Int) := by split <;> omega
  have hMl : M ≤ 100 := by omega
  have HMX := Lib.hid hM
  clear hM
  go_enter Try.func7, Try.ntmps7
  go_wp2_with fail
  refine (Qu.queue_new w.heap.size w (Nat.le_refl _)).mono ?_
  rintro e w1 ⟨rfl, hQ, hB, hS⟩
  have HQ := Lib.hid (And.intro hQ (And.intro hB hS))
  clear hQ hB hS
  go_wp2_with fail
  refine (Qu.queue_new w.heap.size w1 HQ.out.2.1.size).mono ?_
  rintro e w2 ⟨rfl, hQ2, hB2, hS2⟩
  have HT := Lib.hid (Qu.two_start HQ.out.1 HQ.out.2.1 hB2 hQ2 (by have := HQ.out.2.2; omega))
  clear hQ2 hB2 hS2 HQ
  go_wp2_with fail
  refine (Qu.awake_any _).mono ?_
  rintro e w3 ⟨rfl, hb⟩
  have HT3 := Lib.hid (HT.out.old hb HT.out.size)
  clear hb HT
  go_wp2
  go_loopw [7] (fun s wr => ∃ (k : Nat) (ra rb : Option Nat), s = .int .i64 k ∧ k ≤ M ∧ Qu.Two w wr w.heap.size w.heap.size w1.heap.size ra rb (Qu.ord f (min k n)) (Qu.ord h (min k m))) (fun s _ => M - (intOf s).toNat)
  case atStart => exact ⟨0, none, none, rfl, by omega, by rw [Nat.zero_min, Nat.zero_min]; exact HT3.out⟩
  case round =>
    clear HT3
    obtain ⟨k, ra, rb, rfl, hk, hT⟩ := hrel
    have k0 : (0 : Int) ≤ (k : Int) := by omega
    have k9 : (k : Int) ≤ 100 := by omega
    by_cases hlt : k < M
    · have kM : (k : Int) < (M : Int) := by omega
      by_cases ka : k < n
      · have ka1 : (k : Int) < (n : Int) := by omega
        have e1 : min k n = k := by omega
        have e2 : min (k + 1) n = k + 1 := by omega
        rw [e1] at hT
        obtain ⟨b, o, rfl, hbm, hc1⟩ := ha k ka
        have c1 : wr.cell? ⟨b, o + k, none⟩ = some (.int .i64 (f k)) := (hT.below.cell (p := ⟨b, o + k, none⟩) hbm).trans hc1
        have HP := Lib.hid (Qu.push_any (f k, (k : Int)) w.heap.size w.heap.size ra (Qu.ord f k) wr hT.a (by rw [Qu.ord_length]; omega))
        have HT4 := Lib.hid hT
        have HE2 := Lib.hid e2
        have HC := Lib.hid hc
        clear hc1 hT e1 e2 hbm ha hc
        by_cases kb : k < m
        · have kb1 : (k : Int) < (m : Int) := by omega
          obtain ⟨b', o', rfl, hbm', hc2⟩ := HC.out k kb
          have HC2 := Lib.hid (And.intro hbm' hc2)
          clear hbm' hc2
          go_wp2_with fail
          refine HP.out.mono ?_
          rintro e w4 ⟨rfl, hq⟩
          obtain ⟨ra', hT5⟩ := HT4.out.pushA hq
          have c2 : w4.cell? ⟨b', o' + k, none⟩ = some (.int .i64 (h k)) := (hT5.below.cell (p := ⟨b', o' + k, none⟩) HC2.out.1).trans HC2.out.2
          have hTb := hT5.b
          rw [show min k m = k from by omega] at hTb
          have HP2 := Lib.hid (Qu.push_any (h k, (k : Int)) w.heap.size w1.heap.size rb (Qu.ord h k) w4 hTb (by rw [Qu.ord_length]; omega))
          have HT5 := Lib.hid hT5
          clear hT5 hq c1 hTb
          go_wp2_with fail
          refine HP2.out.mono ?_
          rintro e w5 ⟨rfl, hq⟩
          have HT6 : Hid (∃ ra rb, Qu.Two w w5 w.heap.size w.heap.size w1.heap.size ra rb (Qu.ord f (min (k + 1) n)) (Qu.ord h (min (k + 1) m))) := Lib.hid (by
            have h5 := HT5.out.symm
            rw [show min k m = k from by omega] at h5
            obtain ⟨rb', hT6⟩ := h5.pushA hq
            refine ⟨ra', rb', ?_⟩
            rw [HE2.out, show min (k + 1) m = k + 1 from by omega]
            exact hT6.symm)
          clear hq
          go_wp2
          go_roundw
          case rel =>
            obtain ⟨ra2, rb2, h6⟩ := HT6.out
            exact ⟨k + 1, ra2, rb2, by go_num, by omega, h6⟩
          case measure => simp [intOf]; omega
        · have kb1 : ¬ (k : Int) < (m : Int) := by omega
          go_wp2_with fail
          refine HP.out.mono ?_
          rintro e w4 ⟨rfl, hq⟩
          obtain ⟨ra', hT5⟩ := HT4.out.pushA hq
          have HT5 := Lib.hid hT5
          clear hT5 hq c1
          go_wp2
          go_roundw
          case rel => exact ⟨k + 1, ra', rb, by go_num, by omega, by rw [HE2.out, show min (k + 1) m = min k m from by omega]; exact HT5.out⟩
          case measure => simp [intOf]; omega
      · have ka1 : ¬ (k : Int) < (n : Int) := by omega
        have kb : k < m := by have := HMX.out; omega
        have kb1 : (k : Int) < (m : Int) := by omega
        have e1 : min k m = k := by omega
        rw [e1] at hT
        obtain ⟨b, o, rfl, hbm, hc1⟩ := hc k kb
        have c1 : wr.cell? ⟨b, o + k, none⟩ = some (.int .i64 (h k)) := (hT.below.cell (p := ⟨b, o + k, none⟩) hbm).trans hc1
        have HP := Lib.hid (Qu.push_any (h k, (k : Int)) w.heap.size w1.heap.size rb (Qu.ord h k) wr hT.b (by rw [Qu.ord_length]; omega))
        have HT4 := Lib.hid hT
        clear hc1 hT e1 hbm ha hc
        go_wp2_with fail
        refine HP.out.mono ?_
        rintro e w4 ⟨rfl, hq⟩
        obtain ⟨rb', hT5⟩ := HT4.out.symm.pushA hq
        have HT5 := Lib.hid hT5
        clear hT5 hq c1
        go_wp2
        go_roundw
        case rel => exact ⟨k + 1, ra, rb', by go_num, by omega, by rw [show min (k + 1) m = k + 1 from by omega, show min (k + 1) n = min k n from by omega]; exact HT5.out.symm⟩
        case measure => simp [intOf]; omega
    · obtain rfl : k = M := by omega
      have k1 : ¬ (k : Int) < (k : Int) := by omega
      rw [show min k n = n from by have := HMX.out; omega, show min k m = m from by have := HMX.out; omega] at hT
      have HT7 := Lib.hid hT
      have HL := Lib.hid (Qu.ord_length f n)
      have HL2 := Lib.hid (Qu.ord_length h m)
      have HA := Lib.hid ha
      clear ha hc hT
      go_wp2_with fail
      go_loopw [8, 9] (fun s8 s9 wr => ∃ (i : Nat) (v : Value) (done l : List Qu.Pt), s8 = v ∧ s9 = .int .i64 i ∧ i = done.length ∧ Stands w wr w1.heap.size v ra rb (Qu.ord f n) done l (Qu.ord h m)) (fun _ s _ => n - (intOf s).toNat)
      case atStart => exact ⟨0, _, [], Qu.ord f n, rfl, rfl, rfl, ⟨rfl, HT7.out, World.ownsRow_nil _ _ _ _⟩⟩
      case round =>
        clear HT7
        obtain ⟨i, v, done, l, hv8, rfl, hi, hS⟩ := hrel
        subst hv8
        have hlen : n = i + l.length := by rw [← HL.out, hS.all, List.length_append, hi]
        have hin : i ≤ 100 := by omega
        cases l with
        | nil =>
          have i1 : ¬ (i : Int) < (n : Int) := by simp at hlen; omega
          obtain ⟨A', c', hv⟩ := Qu.own_value hS.own
          have hd : done = Qu.ord f n := by rw [hS.all]; simp
          have hdn : done.length = n := by rw [hd, HL.out]
          rw [hdn] at hv
          subst hv
          have hI : Hl.Ints wr wr.heap.size A' n (Hl.at_ ((Qu.ord f n).map (·.2))) := by
            have := hS.own
            rw [hdn, hd, Qu.nums_eq] at this
            exact Hl.Ints.own this
          have HS := Lib.hid hS
          have HI := Lib.hid hI
          have HR := Lib.hid (Qu.ref_told A n c f wr ((HA.out.below hS.two.below (Nat.le_refl _)).size) (by omega))
          clear hS hI hlen hi hd hdn
          go_wp2_with fail
          refine HR.out.mono ?_
          rintro e w4 ⟨A2, c2, rfl, hi2, hb⟩
          have HP := Lib.hid (Hl.plain_int A' A2 n n c' c2 _ _ w4.heap.size w4 ((HI.out.below hb (Nat.le_refl _)).size) hi2 (by unfold maxLen; omega) (by unfold maxLen; omega))
          rw [Hl.eqB_yes (fun k hk => rfl)] at HP
          have HT8 := Lib.hid (HS.out.two.old hb HS.out.two.size)
          clear hi2 hb
          go_wp2_with fail
          refine HP.out.mono ?_
          rintro e w5 ⟨rfl, hD⟩
          have hT9 := HT8.out.old (hD.below _) HT8.out.size
          have HN := Lib.hid (Qu.qlen_any w.heap.size w.heap.size ra [] w5 hT9.a)
          have HN2 := Lib.hid (Qu.qlen_any w.heap.size w1.heap.size rb (Qu.ord h m) w5 hT9.b)
          rw [HL2.out] at HN2
          have HB := Lib.hid hT9.below
          clear hT9 hD
          go_wp2_with fail
          refine HN.out.mono ?_
          rintro e w6 ⟨rfl, rfl⟩
          go_wp2_with fail
          refine HN2.out.mono ?_
          rintro e w6 ⟨rfl, rfl⟩
          go_wp2
          go_ret
          exact ⟨rfl, HB.out⟩
        | cons x l =>
          have i1 : (i : Int) < (n : Int) := by simp at hlen; omega
          have hnx : l.length ≤ 1000 := by simp at hlen; omega
          have HP := Lib.hid (Qu.pop_some w.heap.size w.heap.size ra x l wr hS.two.a (by omega))
          have HS := Lib.hid hS
          have HIN := Lib.hid hi
          have hdl : done.length ≤ 100 := by omega
          clear hS hlen hi
          go_wp2_with fail
          refine HP.out.mono ?_
          rintro e w3 ⟨rfl, hq⟩
          have hv1 := HS.out.two.a.row hq.2 HS.out.own (by omega) (by omega)
          have hbz : w.heap.size ≤ w3.heap.size := by have := HS.out.two.size; have := hq.2.size; omega
          have HQ := Lib.hid hq
          clear hq
          go_wp2_with ((at_builtin; refine wpList_append_lies _ rfl _ _ 37 rfl w.heap.size 3 i0 _ 1 8 Try.underlying37 hi0 hz0 hz1 hz2 rfl (by omega) u8 done.length (Qu.nums done) rfl (hv1.alloc _) ⟨w3.heap.size, 0, none⟩ 1 1 [.int .i64 x.2] rfl rfl (World.news_of_block (cs := #[.int .i64 x.2]) (t := 3) (fr := (0, 0)) (heap_alloc_new w3 _)) (by simp [Value.oneCell']) (by omega) (by unfold maxLen; omega) (by omega) (by simp; omega) (w3.heap.size + 1) (by simp) ?_; intro g cp w4 hown hgrow hat hlt))
          have HS4 := Lib.hid (HS.out.step HQ.out hown hgrow)
          clear hown hgrow hat hlt hv1
          go_roundw
          case rel => exact ⟨i + 1, _, done ++ [x], l, rfl, by go_num, by rw [List.length_append, ← HIN.out]; rfl, HS4.out⟩
          case measure => simp [intOf]; omega

theorem walk (w : World) (A : Option Addr) (n c : Nat) (f : Nat → Int) (ha : Hl.Ints w w.heap.size A n f) (hn : n ≤ 9223372036854775807) (hf : ∀ k, k < n → -9223372036854775808 ≤ f k ∧ f k ≤ 9223372036854775807)
    (C : Option Addr) (m d : Nat) (h : Nat → Int) (hc : Hl.Ints w w.heap.size C m h) (hm : m ≤ 9223372036854775807) (hh : ∀ k, k < m → -9223372036854775808 ≤ h k ∧ h k ≤ 9223372036854775807) :
    Calls Try.prog 7 #[.slice A n c, .slice C m d] w fun e w' => e = .returned (.bool true) ∧ Below w.heap.size w w' := by
  by_cases hl : 100 < n ∨ (n ≤ 100 ∧ 100 < m)
  · exact long w A C n m c d hn hm hl
  · exact short w A C n m c d f h ha hc (by omega) (by omega)


set_option maxRecDepth 100000 in
theorem lifted (os : Os) (started : os.Started) (H : Type) (enc : TypeId × Value → H) :
    ReturnsInHanded {} Try.checked os 7 .any (Rows.queueApartSpec.pre6 enc Try.prog Try.f7 Rows.queueApartRow.domain false) (Rows.queueApartSpec.post enc Try.prog Try.f7 false true false false) := by
  refine returnsInHanded_of_change (C := Try.checked) own started (by kernel_rfl) Try.func7
    (ChangeSpec.witness6 (enc := enc) (C := Try.checked) false ⟨#[], #[.slice none 0 0, .slice none 0 0], []⟩ 8 (by kernel_rfl) (by kernel_rfl) (by kernel_rfl) (by kernel_rfl)) ?_
  intro W base args ds gs before hval0 hW hcnd _
  have hval : ∀ (j : Nat) t v, Try.f7.params[j]? = some t → args[j]? = some v → Value.okWide Try.prog W .any base t v := hval0
  have hW' := hW
  obtain ⟨p, q, hA0, hV, rfl, hfz, hnd⟩ := hW
  have hA : DataW.TrodAll enc Try.prog W 0 (fun _ => true) true Try.f7.params.toList args.toList ds p := hA0
  rw [Try.params7] at hA hval
  obtain ⟨v0, vs0, d0, ds0, p0, q0, hargs, rfl, rfl, h0, r0⟩ := trodAll_cons hA
  obtain ⟨v1, vs1, d1, ds1, p1, q1, rfl, rfl, rfl, h1, r1⟩ := trodAll_cons r0
  obtain ⟨rfl, rfl, rfl⟩ := trodAll_nil r1
  obtain rfl : args = #[v0, v1] := by cases args; simp_all
  obtain ⟨A0, n0, c0, f0, rfl, x0, y0, z0, u0⟩ := Hk.open_ints_at Try.underlying34 Try.underlying2 (by kernel_rfl) (hval 0 34 v0 rfl rfl) h0
  obtain ⟨A1, n1, c1, f1, rfl, x1, y1, z1, u1⟩ := Hk.open_ints_at Try.underlying34 Try.underlying2 (by kernel_rfl) (hval 1 34 v1 rfl rfl) h1
  refine (walk W A0 n0 c0 f0 x0 y0 z0 A1 n1 c1 f1 x1 y1 z1).mono fun e W' ⟨he, hb⟩ => ?_
  subst he
  exact ⟨_, rfl, Hk.closeLaw (tb := 4) (by kernel_rfl) (by kernel_rfl) rfl rfl rfl Try.underlying4 hW' hb⟩

theorem over : Rows.queueApartRow.holds Try.pinned (OpenSpec.ofChange Rows.queueApartSpec) :=
  OpenClaim.holds_of_wide 7 Try.f7 rfl rfl rfl rfl rfl rfl rfl ⟨rfl, rfl, rfl, rfl, rfl⟩ rfl rfl rfl rfl rfl (by kernel_rfl) Try.func7 (by kernel_rfl)
    (of_decide_eq_true (by kernel_rfl)) (by unfold Func.isWrapper; first | (rw [if_pos (by decide +kernel)]; kernel_rfl) | (rw [if_neg (by decide +kernel)]; exact ⟨rfl, rfl⟩))
    (fun os started H enc _ => lifted os started H enc)

/-- The statement. -/
theorem proved : Rows.QueueApartSaid :=
  over
end Go.Proofs.Ytmggfeacjndflaa.queueApart
