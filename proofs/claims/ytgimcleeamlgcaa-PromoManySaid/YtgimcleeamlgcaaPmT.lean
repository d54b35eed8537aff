/- The landed partsRight and tiersRight. -/
import Derived.Test.YtgimcleeamlgcaaPmA
import Derived.Test.YtgimcleeamlgcaaPrT
import Derived.Test.YtgimcleeamlgcaaScN
set_option maxRecDepth 100000

set_option linter.unusedVariables false
namespace Go.Proofs.Ytgimcleeamlgcaa.Pm
open Go.ChangeShapes Go.WideShapes Go.ChangeAt Go.RowKit
open Ap (Scp Prt Tir Prm kPrt kTir row_Prt row_Tir)
open Kd (Row Lst)
open Pr (partB partsB partsB_no partsB_end PartsSmall tierB tiersB TUp tier_bad tier_step tiersB_no inB)

/-! ### Tiers -/
/-- The least that the next Least may be. -/
def Lead (l : List Tir) (k : Nat) (y : Int) : Prop := (k = 0 ∧ y = 0) ∨ ∃ t, 0 < k ∧ l[k - 1]? = some t ∧ y = t.least + 1 ∧ 0 ≤ t.least ∧ t.least ≤ 10000000000000

theorem lead_bounds {l : List Tir} {k : Nat} {y : Int} (h : Lead l k y) : 0 ≤ y ∧ y ≤ 10000000000001 := by
  rcases h with ⟨_, rfl⟩ | ⟨t, _, _, rfl, h1, h2⟩ <;> omega

theorem inB_eq (x m : Int) : inB x m = inR x 0 m := rfl

theorem tier_eq (t : Tir) : tierB t = (inB t.least 10000000000000 && takesB t) := by
  unfold tierB takesB
  rw [inB_eq t.rate, inB_eq t.amount]
  cases h1 : inR t.rate 0 10000 with
  | false => cases inB t.least 10000000000000 <;> rfl
  | true =>
    cases h2 : inR t.amount 0 10000000000000 with
    | false => cases inB t.least 10000000000000 <;> rfl
    | true =>
      have g1 : 0 ≤ t.rate := by unfold inR at h1; simp at h1; exact h1.1
      have g2 : 0 ≤ t.amount := by unfold inR at h2; simp at h2; exact h2.1
      have e : (!(t.rate == 0 && t.amount == 0)) = (decide (0 < t.rate) || decide (0 < t.amount)) := by
        by_cases e1 : t.rate = 0
        · by_cases e2 : t.amount = 0
          · rw [e1, e2]; rfl
          · rw [beq_eq_false_iff_ne.2 e2, decide_eq_true (p := 0 < t.amount) (by omega)]; simp
        · rw [beq_eq_false_iff_ne.2 e1, decide_eq_true (p := 0 < t.rate) (by omega)]; simp
      rw [e]
      simp

/-- Where the loop stands. -/
structure Steps (w wr : World) (l : List Tir) (k : Nat) (y : Int) : Prop where
  up : TUp l k
  lead : Lead l k y
  below : Below w.heap.size w wr

theorem Steps.bad {w wr : World} {l : List Tir} {k : Nat} {y : Int} {t : Tir} (h : Steps w wr l k y) (ht : l[k]? = some t) (hb : inR t.least y 10000000000000 = false) : tiersB l = false := by
  by_cases h1 : inB t.least 10000000000000 = true
  · have g := h1
    unfold inB at g
    simp only [Bool.and_eq_true, decide_eq_true_eq] at g
    rcases h.lead with ⟨_, rfl⟩ | ⟨u, hk, hu, rfl, _, _⟩
    · rw [inB_eq] at h1
      rw [h1] at hb; cases hb
    · refine tier_step ht hu hk ?_
      by_cases h2 : u.least + 1 ≤ t.least
      · rw [inR_yes h2 g.2] at hb; cases hb
      · omega
  · refine tier_bad ht ?_
    rw [tier_eq]
    simp [h1]

theorem Steps.next {w wr w' : World} {l : List Tir} {k : Nat} {y : Int} {t : Tir} (h : Steps w wr l k y) (ht : l[k]? = some t) (hb : inR t.least y 10000000000000 = true) (hk : takesB t = true) (hw : Below w.heap.size w w') : Steps w w' l (k + 1) (t.least + 1) := by
  have g := hb
  unfold inR at g
  simp only [Bool.and_eq_true, decide_eq_true_eq] at g
  have hy := lead_bounds h.lead
  refine ⟨h.up.next ht ?_ fun b hk0 hb2 => ?_, .inr ⟨t, by omega, by rw [show k + 1 - 1 = k by omega]; exact ht, rfl, by omega, g.2⟩, hw⟩
  · rw [tier_eq, hk, inB_eq, inR_yes (by omega) g.2]; rfl
  · rcases h.lead with ⟨h0, _⟩ | ⟨u, _, hu, he, _, _⟩
    · omega
    · rw [hu] at hb2; injection hb2 with hb2; subst hb2
      omega

set_option maxHeartbeats 4000000 in
theorem tiers_any (p : Prm) (l : Prm.Lay) (w : World) (h : Row kTir w (· < w.heap.size) l.tiers.A l.tiers.n p.tiers) :
    Calls Try.prog 35 #[.agg #[.string p.id, .int .i64 p.kind, .int .i64 p.priority, .string p.group, .string p.code, .bool p.closes, .slice l.scope.skus.A l.scope.skus.n l.scope.skus.c, .slice l.scope.cats.A l.scope.cats.n l.scope.cats.c, .int .i64 p.least, .int .i64 p.rate, .int .i64 p.amount, .int .i64 p.buy, .int .i64 p.get, .slice l.parts.A l.parts.n l.parts.c, .slice l.tiers.A l.tiers.n l.tiers.c]] w fun e w' => e = .returned (.bool (tiersB p.tiers)) ∧ Below w.heap.size w w' := by
  obtain ⟨w1, hw1⟩ : ∃ w1, w.alloc (.cells #[.string p.id, .int .i64 p.kind, .int .i64 p.priority, .string p.group, .string p.code, .bool p.closes, .slice l.scope.skus.A l.scope.skus.n l.scope.skus.c, .slice l.scope.cats.A l.scope.cats.n l.scope.cats.c, .int .i64 p.least, .int .i64 p.rate, .int .i64 p.amount, .int .i64 p.buy, .int .i64 p.get, .slice l.parts.A l.parts.n l.parts.c, .slice l.tiers.A l.tiers.n l.tiers.c] 59) = w1 := ⟨_, rfl⟩
  have hx : Qu.Blk w1 w.heap.size 59 #[.string p.id, .int .i64 p.kind, .int .i64 p.priority, .string p.group, .string p.code, .bool p.closes, .slice l.scope.skus.A l.scope.skus.n l.scope.skus.c, .slice l.scope.cats.A l.scope.cats.n l.scope.cats.c, .int .i64 p.least, .int .i64 p.rate, .int .i64 p.amount, .int .i64 p.buy, .int .i64 p.get, .slice l.parts.A l.parts.n l.parts.c, .slice l.tiers.A l.tiers.n l.tiers.c] := by rw [← hw1]; exact Qu.Blk.new w _ _
  have hb1 : Below w.heap.size w w1 := by rw [← hw1]; exact (Below.refl _ _).alloc (Nat.le_refl _) _
  have x13 := hx.cell 14
  have HB := Lib.hid hb1
  have hlen := h.len
  have HR := Lib.hid h
  obtain ⟨n, hn⟩ : ∃ n, l.tiers.n = n := ⟨_, rfl⟩
  rw [hn] at HR hlen
  have HL := Lib.hid hlen
  simp only [hn] at hw1 x13 ⊢
  clear hx hb1 h hlen hn
  by_cases c1 : n < 1
  · have d1 : (n : Int) < 1 := by omega
    have HG : Hid (tiersB p.tiers = false) := Lib.hid (tiersB_no fun g => by have := g.some_; have := HL.out; omega)
    go_enter Try.func35, Try.ntmps35
    go_wp2
    go_ret
    exact ⟨by rw [HG.out]; rfl, HB.out⟩
  · have d1 : ¬ (n : Int) < 1 := by omega
    by_cases c2 : 6 < n
    · have d2 : (6 : Int) < (n : Int) := by omega
      have HG : Hid (tiersB p.tiers = false) := Lib.hid (tiersB_no fun g => by have := g.few; have := HL.out; omega)
      go_enter Try.func35, Try.ntmps35
      go_wp2
      go_ret
      exact ⟨by rw [HG.out]; rfl, HB.out⟩
    · have d2 : ¬ (6 : Int) < (n : Int) := by omega
      have HS0 : Hid (Steps w w1 p.tiers 0 0) := Lib.hid ⟨⟨fun i t hi => by omega, fun i a b hi => by omega⟩, .inl ⟨rfl, rfl⟩, HB.out⟩
      go_enter Try.func35, Try.ntmps35
      go_wp2
      go_loopw [3, 19] (fun s3 s19 wr => ∃ (k : Nat) (y : Int), s19 = .int .i64 k ∧ s3 = .int .i64 y ∧ k ≤ n ∧ Hid (Steps w wr p.tiers k y)) (fun _ s19 _ => n - (intOf s19).toNat)
      case atStart => exact ⟨0, 0, rfl, rfl, by omega, HS0⟩
      case round =>
        clear HS0 x13 hw1
        obtain ⟨k, y, rfl, rfl, hk, hS⟩ := hrel
        have k0 : (0 : Int) ≤ (k : Int) := by omega
        by_cases hlt : k < n
        · have k1 : (k : Int) < (n : Int) := by omega
          obtain ⟨t, ht⟩ := HR.out.get hlt
          obtain ⟨g, o, he, _, hg, hok, a0, a1, a2⟩ := row_Tir (HR.out.below hS.out.below (Nat.le_refl _)) ht
          simp only [he]
          obtain ⟨W1, hW1⟩ : ∃ W1, wr.alloc (.cells #[.int .i64 t.least, .int .i64 t.rate, .int .i64 t.amount] 37) = W1 := ⟨_, rfl⟩
          have hbb : Below wr.heap.size wr W1 := by rw [← hW1]; exact (Below.refl _ _).alloc (Nat.le_refl _) _
          have hx : Qu.Blk W1 wr.heap.size 37 #[.int .i64 t.least, .int .i64 t.rate, .int .i64 t.amount] := by rw [← hW1]; exact Qu.Blk.new wr _ _
          have x0 := hx.cell 0
          have x1 := hx.cell 1
          have x2 := hx.cell 2
          have HX := Lib.hid (And.intro hx (hS.out.below.trans (hbb.mono hS.out.below.size)))
          have HW := Lib.hid (fun W => within64_any t.least y 10000000000000 W)
          have HT := Lib.hid (takes_any t W1)
          have HP := Lib.hid ht
          clear hx hbb ht hok he
          cases b1 : inR t.least y 10000000000000 with
          | false =>
            simp only [b1] at HW
            have HG : Hid (tiersB p.tiers = false) := Lib.hid (hS.out.bad HP.out b1)
            clear b1 hS
            go_wp2_with fail
            refine (HW.out _).mono ?_
            rintro e w2 ⟨rfl, rfl⟩
            go_wp2
            go_ret
            exact ⟨by rw [HG.out]; rfl, HX.out.2⟩
          | true =>
            simp only [b1] at HW
            cases b2 : takesB t with
            | false =>
              simp only [b2] at HT
              have HG : Hid (tiersB p.tiers = false) := Lib.hid (tier_bad HP.out (by rw [tier_eq, b2, Bool.and_false]))
              clear b1 b2 hS
              go_wp2_with fail
              refine (HW.out _).mono ?_
              rintro e w2 ⟨rfl, rfl⟩
              go_wp2_with fail
              refine HT.out.mono ?_
              rintro e w3 ⟨rfl, hb3⟩
              have HB3 := Lib.hid (HX.out.2.trans (hb3.mono HX.out.2.size))
              clear hb3
              go_wp2
              go_ret
              exact ⟨by rw [HG.out]; rfl, HB3.out⟩
            | true =>
              simp only [b2] at HT
              have HN : Hid (∀ w', Below w.heap.size w w' → Steps w w' p.tiers (k + 1) (t.least + 1)) := Lib.hid fun w' hw' => hS.out.next HP.out b1 b2 hw'
              have q1 : 0 ≤ t.least ∧ t.least ≤ 10000000000000 := by
                have g := b1
                unfold inR at g
                simp only [Bool.and_eq_true, decide_eq_true_eq] at g
                have := lead_bounds hS.out.lead
                omega
              obtain ⟨q1, q2⟩ := q1
              clear b1 b2 hS
              go_wp2_with fail
              refine (HW.out _).mono ?_
              rintro e w2 ⟨rfl, rfl⟩
              go_wp2_with fail
              refine HT.out.mono ?_
              rintro e w3 ⟨rfl, hb3⟩
              have HB3 := Lib.hid (HX.out.2.trans (hb3.mono HX.out.2.size))
              have hx3 := HX.out.1.below hb3
              have y0 := hx3.cell 0
              clear hb3 hx3 x0 x1 x2
              go_wp2
              go_roundw
              case rel => exact ⟨k + 1, t.least + 1, by go_num, rfl, by omega, Lib.hid (HN.out _ HB3.out)⟩
              case measure => simp [intOf]; omega
        · obtain rfl : k = n := by omega
          have k1 : ¬ (k : Int) < (k : Int) := by omega
          have HG : Hid (tiersB p.tiers = true) := Lib.hid (by
            have h1 := hS.out.up
            have h2 := HL.out
            rw [← h2] at h1
            rw [h1.all, decide_eq_true (by omega), decide_eq_true (by omega)]; rfl)
          go_wp2
          go_ret
          exact ⟨by rw [HG.out]; rfl, hS.out.below⟩

/-! ### Parts -/
theorem part_eq (p : Prt) : partB p = (Sc.scopeB p.scope && inR p.count 1 100) := by
  unfold partB inR
  rw [Bool.and_assoc]

set_option maxHeartbeats 4000000 in
theorem parts_any (p : Prm) (l : Prm.Lay) (w : World) (h : Row kPrt w (· < w.heap.size) l.parts.A l.parts.n p.parts) (hS : PartsSmall p.parts) :
    Calls Try.prog 34 #[.agg #[.string p.id, .int .i64 p.kind, .int .i64 p.priority, .string p.group, .string p.code, .bool p.closes, .slice l.scope.skus.A l.scope.skus.n l.scope.skus.c, .slice l.scope.cats.A l.scope.cats.n l.scope.cats.c, .int .i64 p.least, .int .i64 p.rate, .int .i64 p.amount, .int .i64 p.buy, .int .i64 p.get, .slice l.parts.A l.parts.n l.parts.c, .slice l.tiers.A l.tiers.n l.tiers.c]] w fun e w' => e = .returned (.bool (partsB p.parts && inR p.amount 0 10000000000000)) ∧ Below w.heap.size w w' := by
  obtain ⟨w1, hw1⟩ : ∃ w1, w.alloc (.cells #[.string p.id, .int .i64 p.kind, .int .i64 p.priority, .string p.group, .string p.code, .bool p.closes, .slice l.scope.skus.A l.scope.skus.n l.scope.skus.c, .slice l.scope.cats.A l.scope.cats.n l.scope.cats.c, .int .i64 p.least, .int .i64 p.rate, .int .i64 p.amount, .int .i64 p.buy, .int .i64 p.get, .slice l.parts.A l.parts.n l.parts.c, .slice l.tiers.A l.tiers.n l.tiers.c] 59) = w1 := ⟨_, rfl⟩
  have hx : Qu.Blk w1 w.heap.size 59 #[.string p.id, .int .i64 p.kind, .int .i64 p.priority, .string p.group, .string p.code, .bool p.closes, .slice l.scope.skus.A l.scope.skus.n l.scope.skus.c, .slice l.scope.cats.A l.scope.cats.n l.scope.cats.c, .int .i64 p.least, .int .i64 p.rate, .int .i64 p.amount, .int .i64 p.buy, .int .i64 p.get, .slice l.parts.A l.parts.n l.parts.c, .slice l.tiers.A l.tiers.n l.tiers.c] := by rw [← hw1]; exact Qu.Blk.new w _ _
  have hb1 : Below w.heap.size w w1 := by rw [← hw1]; exact (Below.refl _ _).alloc (Nat.le_refl _) _
  have x9 := hx.cell 10
  have x12 := hx.cell 13
  have HB := Lib.hid hb1
  have hlen := h.len
  have HR := Lib.hid (And.intro h hS)
  have HA := Lib.hid (fun W => within64_any p.amount 0 10000000000000 W)
  obtain ⟨n, hn⟩ : ∃ n, l.parts.n = n := ⟨_, rfl⟩
  rw [hn] at HR hlen
  have HL := Lib.hid hlen
  simp only [hn] at hw1 x12 ⊢
  clear hx hb1 h hS hlen hn
  obtain ⟨R, hR⟩ : ∃ R, (partsB p.parts && inR p.amount 0 10000000000000) = R := ⟨_, rfl⟩
  have HRR := Lib.hid hR
  rw [hR]
  clear hR
  by_cases c1 : n < 1
  · have d1 : (n : Int) < 1 := by omega
    have HG : Hid (R = false) := Lib.hid (by
      rw [← HRR.out]
      unfold partsB
      rw [HL.out, decide_eq_false (p := 1 ≤ n) (by omega)]
      simp)
    go_enter Try.func34, Try.ntmps34
    go_wp2
    go_ret
    exact ⟨by rw [HG.out]; rfl, HB.out⟩
  · have d1 : ¬ (n : Int) < 1 := by omega
    by_cases c2 : 3 < n
    · have d2 : (3 : Int) < (n : Int) := by omega
      have HG : Hid (R = false) := Lib.hid (by
        rw [← HRR.out]
        unfold partsB
        rw [HL.out, decide_eq_false (p := n ≤ 3) (by omega)]
        simp)
      go_enter Try.func34, Try.ntmps34
      go_wp2
      go_ret
      exact ⟨by rw [HG.out]; rfl, HB.out⟩
    · have d2 : ¬ (3 : Int) < (n : Int) := by omega
      cases b0 : inR p.amount 0 10000000000000 with
      | false =>
        simp only [b0] at HA
        have HG : Hid (R = false) := Lib.hid (by rw [← HRR.out, b0, Bool.and_false])
        clear b0
        go_enter Try.func34, Try.ntmps34
        go_wp2_with fail
        refine (HA.out _).mono ?_
        rintro e w2 ⟨rfl, rfl⟩
        go_wp2
        go_ret
        exact ⟨by rw [HG.out]; rfl, HB.out⟩
      | true =>
        simp only [b0] at HA
        have HRP : Hid (R = partsB p.parts) := Lib.hid (by rw [← HRR.out, b0, Bool.and_true])
        clear b0
        have HM0 : Hid ((∀ (j : Nat) (q : Prt), j < 0 → p.parts[j]? = some q → partB q = true) ∧ Below w.heap.size w w1) := Lib.hid ⟨fun j q hj => by omega, HB.out⟩
        go_enter Try.func34, Try.ntmps34
        go_wp2_with fail
        refine (HA.out _).mono ?_
        rintro e w2 ⟨rfl, rfl⟩
        go_wp2
        go_loopw [24] (fun s24 wr => ∃ k : Nat, s24 = .int .i64 k ∧ k ≤ n ∧ Hid ((∀ (j : Nat) (q : Prt), j < k → p.parts[j]? = some q → partB q = true) ∧ Below w.heap.size w wr)) (fun s24 _ => n - (intOf s24).toNat)
        case atStart => exact ⟨0, rfl, by omega, HM0⟩
        case round =>
          clear HM0 x9 x12 hw1 HB
          obtain ⟨k, rfl, hk, hM⟩ := hrel
          have k0 : (0 : Int) ≤ (k : Int) := by omega
          by_cases hlt : k < n
          · have k1 : (k : Int) < (n : Int) := by omega
            obtain ⟨q, hp⟩ := HR.out.1.get hlt
            have hb := hM.out.2
            obtain ⟨g, o, y, he, _, hg, hh, a0, a1, a2⟩ := row_Prt (HR.out.1.below hb (Nat.le_refl _)) hp
            simp only [he]
            have hsm := HR.out.2 k q hp
            obtain ⟨W1, hW1⟩ : ∃ W1, wr.alloc (.cells #[.slice y.scope.skus.A y.scope.skus.n y.scope.skus.c, .slice y.scope.cats.A y.scope.cats.n y.scope.cats.c, .int .i64 q.count] 35) = W1 := ⟨_, rfl⟩
            have hbb : Below wr.heap.size wr W1 := by rw [← hW1]; exact (Below.refl _ _).alloc (Nat.le_refl _) _
            have hx : Qu.Blk W1 wr.heap.size 35 #[.slice y.scope.skus.A y.scope.skus.n y.scope.skus.c, .slice y.scope.cats.A y.scope.cats.n y.scope.cats.c, .int .i64 q.count] := by rw [← hW1]; exact Qu.Blk.new wr _ _
            have hbw := hb.trans (hbb.mono hb.size)
            have l1 := hh.scope.skus.row.len
            have l2 := hh.scope.cats.row.len
            have HSc := Lib.hid (Sc.Right_any q.scope y.scope W1 ⟨(hh.scope.skus.below (w' := W1) (B := w.heap.size) (hbb.mono hb.size) (Nat.le_refl _)).more fun b hb2 => Nat.lt_of_lt_of_le hb2 hbw.size, (hh.scope.cats.below (w' := W1) (B := w.heap.size) (hbb.mono hb.size) (Nat.le_refl _)).more fun b hb2 => Nat.lt_of_lt_of_le hb2 hbw.size⟩ ⟨by omega, by omega⟩)
            have HC := Lib.hid (fun W => within_any q.count 1 100 W)
            have HP := Lib.hid hp
            have HX := Lib.hid (And.intro hx hbw)
            have x0 := hx.cell 0
            have x1 := hx.cell 1
            clear hp hh hsm l1 l2 hb hbb hx hbw he
            cases h1 : Sc.scopeB q.scope with
            | false =>
              rw [h1] at HSc
              have HG : Hid (R = false) := Lib.hid (by rw [HRP.out]; exact partsB_no HP.out (by rw [part_eq, h1]; rfl))
              clear h1
              go_wp2_with fail
              refine HSc.out.mono ?_
              rintro e w2 ⟨rfl, hb2⟩
              have HB2 := Lib.hid (HX.out.2.trans (hb2.mono HX.out.2.size))
              clear hb2
              go_wp2
              go_ret
              exact ⟨by rw [HG.out]; rfl, HB2.out⟩
            | true =>
              rw [h1] at HSc
              cases h2 : inR q.count 1 100 with
              | false =>
                simp only [h2] at HC
                have HG : Hid (R = false) := Lib.hid (by rw [HRP.out]; exact partsB_no HP.out (by rw [part_eq, h2, Bool.and_false]))
                clear h1 h2
                go_wp2_with fail
                refine HSc.out.mono ?_
                rintro e w2 ⟨rfl, hb2⟩
                have HB2 := Lib.hid (HX.out.2.trans (hb2.mono HX.out.2.size))
                have y2 := (HX.out.1.below hb2).cell 2
                clear hb2
                go_wp2_with fail
                refine (HC.out _).mono ?_
                rintro e w3 ⟨rfl, rfl⟩
                go_wp2
                go_ret
                exact ⟨by rw [HG.out]; rfl, HB2.out⟩
              | true =>
                simp only [h2] at HC
                have HN : Hid (∀ (j : Nat) (u : Prt), j < k + 1 → p.parts[j]? = some u → partB u = true) := Lib.hid fun j u hj hu => by
                  rcases Nat.lt_or_ge j k with h3 | h3
                  · exact hM.out.1 j u h3 hu
                  · obtain rfl : j = k := by omega
                    rw [HP.out] at hu
                    injection hu with hu
                    subst hu
                    rw [part_eq, h1, h2]; rfl
                clear h1 h2 hM
                go_wp2_with fail
                refine HSc.out.mono ?_
                rintro e w2 ⟨rfl, hb2⟩
                have HB2 := Lib.hid (HX.out.2.trans (hb2.mono HX.out.2.size))
                have y2 := (HX.out.1.below hb2).cell 2
                clear hb2
                go_wp2_with fail
                refine (HC.out _).mono ?_
                rintro e w3 ⟨rfl, rfl⟩
                go_wp2
                go_roundw
                case rel => exact ⟨k + 1, by go_num, by omega, Lib.hid ⟨HN.out, HB2.out⟩⟩
                case measure => simp [intOf]; omega
          · obtain rfl : k = n := by omega
            have k1 : ¬ (k : Int) < (k : Int) := by omega
            have HG : Hid (R = true) := Lib.hid (by
              rw [HRP.out, partsB_end fun j u hu => hM.out.1 j u (by
                have := (List.getElem?_eq_some_iff.1 hu).1
                have := HL.out
                omega) hu, HL.out, decide_eq_true (by omega), decide_eq_true (by omega)]; rfl)
            go_wp2
            go_ret
            exact ⟨by rw [HG.out]; rfl, hM.out.2⟩

end Go.Proofs.Ytgimcleeamlgcaa.Pm
