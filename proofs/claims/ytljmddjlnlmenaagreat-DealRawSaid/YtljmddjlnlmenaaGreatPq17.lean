/- The landed partsRight and tiersRight. · The landed headRight, and what a promotion has. -/
import Derived.Test.YtljmddjlnlmenaaGreatPq15
import Derived.Test.YtljmddjlnlmenaaGreatPq16
set_option maxRecDepth 100000
set_option linter.unusedVariables false

section
namespace Go.Proofs.YtljmddjlnlmenaaGreat.Pm
open Go.ChangeShapes Go.WideShapes Go.ChangeAt Go.RowKit
open Ap (Scp Prt Tir Prm kPrt kTir row_Prt row_Tir)
open Kd (Row Lst)
open Pr (partB partsB partsB_no partsB_end PartsSmall tierB tiersB TUp tier_bad tier_step tiersB_no inB)
def Lead (l : List Tir) (k : Nat) (y : Int) : Prop := (k = 0 /\ y = 0) \/ ∃ t, 0 < k /\ l[k - 1]? = some t /\ y = t.least + 1 /\ 0 <= t.least /\ t.least <= 10000000000000
theorem lead_bounds {l : List Tir} {k : Nat} {y : Int} (h : Lead l k y) : 0 <= y /\ y <= 10000000000001 := by
  rcases h with ⟨_, rfl⟩ | ⟨t, _, _, rfl, h1, h2⟩ <;> omega
theorem inB_eq (x m : Int) : inB x m = inR x 0 m := rfl
theorem tier_eq (t : Tir) : tierB t = (inB t.least 10000000000000 && takesB t) := by
  unfold tierB takesB
  rw [inB_eq t.rate, inB_eq t.amount]
  cases h1 : inR t.rate 0 10000 with
  | false => cases inB t.least 10000000000000 <;> rfl
  | true =>
    cases h2 : inR t.amount 0 10000000000000 with
    | false => cases inB t.least 10000000000000 <;> rfl
    | true =>
      have g1 : 0 <= t.rate := by unfold inR at h1; simp at h1; exact h1.1
      have g2 : 0 <= t.amount := by unfold inR at h2; simp at h2; exact h2.1
      have e : (!(t.rate == 0 && t.amount == 0)) = (decide (0 < t.rate) || decide (0 < t.amount)) := by
        by_cases e1 : t.rate = 0
        . by_cases e2 : t.amount = 0
          . rw [e1, e2]; rfl
          . rw [beq_eq_false_iff_ne.2 e2, decide_eq_true (p := 0 < t.amount) (by omega)]; simp
        . rw [beq_eq_false_iff_ne.2 e1, decide_eq_true (p := 0 < t.rate) (by omega)]; simp
      rw [e]
      simp
structure Steps (w wr : World) (l : List Tir) (k : Nat) (y : Int) : Prop where
  up : TUp l k
  lead : Lead l k y
  below : Below w.heap.size w wr
theorem Steps.bad {w wr : World} {l : List Tir} {k : Nat} {y : Int} {t : Tir} (h : Steps w wr l k y) (ht : l[k]? = some t) (hb : inR t.least y 10000000000000 = false) : tiersB l = false := by
  by_cases h1 : inB t.least 10000000000000 = true
  . have g := h1
    unfold inB at g
    simp only [Bool.and_eq_true, decide_eq_true_eq] at g
    rcases h.lead with ⟨_, rfl⟩ | ⟨u, hk, hu, rfl, _, _⟩
    . rw [inB_eq] at h1
      rw [h1] at hb; cases hb
    . refine tier_step ht hu hk ?_
      by_cases h2 : u.least + 1 <= t.least
      . rw [inR_yes h2 g.2] at hb; cases hb
      . omega
  . refine tier_bad ht ?_
    rw [tier_eq]
    simp [h1]
theorem Steps.next {w wr w' : World} {l : List Tir} {k : Nat} {y : Int} {t : Tir} (h : Steps w wr l k y) (ht : l[k]? = some t) (hb : inR t.least y 10000000000000 = true) (hk : takesB t = true) (hw : Below w.heap.size w w') : Steps w w' l (k + 1) (t.least + 1) := by
  have g := hb
  unfold inR at g
  simp only [Bool.and_eq_true, decide_eq_true_eq] at g
  have hy := lead_bounds h.lead
  refine ⟨h.up.next ht ?_ fun b hk0 hb2 => ?_, .inr ⟨t, by omega, by rw [show k + 1 - 1 = k by omega]; exact ht, rfl, by omega, g.2⟩, hw⟩
  . rw [tier_eq, hk, inB_eq, inR_yes (by omega) g.2]; rfl
  . rcases h.lead with ⟨h0, _⟩ | ⟨u, _, hu, he, _, _⟩
    . omega
    . rw [hu] at hb2; injection hb2 with hb2; subst hb2
      omega
set_option maxHeartbeats 4000000 in
theorem tiers_any (p : Prm) (l : Prm.Lay) (w : World) (h : Row kTir w (· < w.heap.size) l.tiers.A l.tiers.n p.tiers) :
    Calls Tryz.prog 54 #[.agg #[.string p.id, .int .i64 p.kind, .int .i64 p.priority, .string p.group, .string p.code, .bool p.closes, .slice l.scope.skus.A l.scope.skus.n l.scope.skus.c, .slice l.scope.cats.A l.scope.cats.n l.scope.cats.c, .int .i64 p.least, .int .i64 p.rate, .int .i64 p.amount, .int .i64 p.buy, .int .i64 p.get, .slice l.parts.A l.parts.n l.parts.c, .slice l.tiers.A l.tiers.n l.tiers.c]] w fun e w' => e = .returned (.bool (tiersB p.tiers)) /\ Below w.heap.size w w' := by
  obtain ⟨w1, hw1⟩ : ∃ w1, w.alloc (.cells #[.string p.id, .int .i64 p.kind, .int .i64 p.priority, .string p.group, .string p.code, .bool p.closes, .slice l.scope.skus.A l.scope.skus.n l.scope.skus.c, .slice l.scope.cats.A l.scope.cats.n l.scope.cats.c, .int .i64 p.least, .int .i64 p.rate, .int .i64 p.amount, .int .i64 p.buy, .int .i64 p.get, .slice l.parts.A l.parts.n l.parts.c, .slice l.tiers.A l.tiers.n l.tiers.c] 83) = w1 := ⟨_, rfl⟩
  have hx : Qu.Blk w1 w.heap.size 83 #[.string p.id, .int .i64 p.kind, .int .i64 p.priority, .string p.group, .string p.code, .bool p.closes, .slice l.scope.skus.A l.scope.skus.n l.scope.skus.c, .slice l.scope.cats.A l.scope.cats.n l.scope.cats.c, .int .i64 p.least, .int .i64 p.rate, .int .i64 p.amount, .int .i64 p.buy, .int .i64 p.get, .slice l.parts.A l.parts.n l.parts.c, .slice l.tiers.A l.tiers.n l.tiers.c] := by rw [<- hw1]; exact Qu.Blk.new w _ _
  have hb1 : Below w.heap.size w w1 := by rw [<- hw1]; exact (Below.refl _ _).alloc (Nat.le_refl _) _
  have x13 := hx.cell 14
  have HB := Lib.hid hb1
  have hlen := h.len
  have HR := Lib.hid h
  obtain ⟨n, hn⟩ : ∃ n, l.tiers.n = n := ⟨_, rfl⟩
  rw [hn] at HR hlen
  have HL := Lib.hid hlen
  simp only [hn] at hw1 x13 ⊢
  clear hx hb1 h hlen hn
  by_cases c1 : n < 1
  . have d1 : (n : Int) < 1 := by omega
    have HG : Hid (tiersB p.tiers = false) := Lib.hid (tiersB_no fun g => by have := g.some_; have := HL.out; omega)
    go_enter Tryz.func54, Tryz.ntmps54
    go_wp2
    go_ret
    exact ⟨by rw [HG.out]; rfl, HB.out⟩
  . have d1 : ¬ (n : Int) < 1 := by omega
    by_cases c2 : 6 < n
    . have d2 : (6 : Int) < (n : Int) := by omega
      have HG : Hid (tiersB p.tiers = false) := Lib.hid (tiersB_no fun g => by have := g.few; have := HL.out; omega)
      go_enter Tryz.func54, Tryz.ntmps54
      go_wp2
      go_ret
      exact ⟨by rw [HG.out]; rfl, HB.out⟩
    . have d2 : ¬ (6 : Int) < (n : Int) := by omega
      have HS0 : Hid (Steps w w1 p.tiers 0 0) := Lib.hid ⟨⟨fun i t hi => by omega, fun i a b hi => by omega⟩, .inl ⟨rfl, rfl⟩, HB.out⟩
      go_enter Tryz.func54, Tryz.ntmps54
      go_wp2
      go_loopw [3, 19] (fun s3 s19 wr => ∃ (k : Nat) (y : Int), s19 = .int .i64 k /\ s3 = .int .i64 y /\ k <= n /\ Hid (Steps w wr p.tiers k y)) (fun _ s19 _ => n - (intOf s19).toNat)
      case atStart => exact ⟨0, 0, rfl, rfl, by omega, HS0⟩
      case round =>
        clear HS0 x13 hw1
        obtain ⟨k, y, rfl, rfl, hk, hS⟩ := hrel
        have k0 : (0 : Int) <= (k : Int) := by omega
        by_cases hlt : k < n
        . have k1 : (k : Int) < (n : Int) := by omega
          obtain ⟨t, ht⟩ := HR.out.get hlt
          obtain ⟨g, o, he, _, hg, hok, a0, a1, a2⟩ := row_Tir (HR.out.below hS.out.below (Nat.le_refl _)) ht
          simp only [he]
          obtain ⟨W1, hW1⟩ : ∃ W1, wr.alloc (.cells #[.int .i64 t.least, .int .i64 t.rate, .int .i64 t.amount] 124) = W1 := ⟨_, rfl⟩
          have hbb : Below wr.heap.size wr W1 := by rw [<- hW1]; exact (Below.refl _ _).alloc (Nat.le_refl _) _
          have hx : Qu.Blk W1 wr.heap.size 124 #[.int .i64 t.least, .int .i64 t.rate, .int .i64 t.amount] := by rw [<- hW1]; exact Qu.Blk.new wr _ _
          have x0 := hx.cell 0
          have x1 := hx.cell 1
          have x2 := hx.cell 2
          have HX := Lib.hid (And.intro hx (hS.out.below.trans (hbb.mono hS.out.below.size)))
          have HW := Lib.hid (fun W => within64_any t.least y 10000000000000 W)
          have HT := Lib.hid (takes_any t W1)
          have HP := Lib.hid ht
          clear hx hbb ht hok he
          cases b1 : inR t.least y 10000000000000 with
          | false =>
            simp only [b1] at HW
            have HG : Hid (tiersB p.tiers = false) := Lib.hid (hS.out.bad HP.out b1)
            clear b1 hS
            go_wp2_with fail
            refine (HW.out _).mono ?_
            rintro e w2 ⟨rfl, rfl⟩
            go_wp2
            go_ret
            exact ⟨by rw [HG.out]; rfl, HX.out.2⟩
          | true =>
            simp only [b1] at HW
            cases b2 : takesB t with
            | false =>
              simp only [b2] at HT
              have HG : Hid (tiersB p.tiers = false) := Lib.hid (tier_bad HP.out (by rw [tier_eq, b2, Bool.and_false]))
              clear b1 b2 hS
              go_wp2_with fail
              refine (HW.out _).mono ?_
              rintro e w2 ⟨rfl, rfl⟩
              go_wp2_with fail
              refine HT.out.mono ?_
              rintro e w3 ⟨rfl, hb3⟩
              have HB3 := Lib.hid (HX.out.2.trans (hb3.mono HX.out.2.size))
              clear hb3
              go_wp2
              go_ret
              exact ⟨by rw [HG.out]; rfl, HB3.out⟩
            | true =>
              simp only [b2] at HT
              have HN : Hid (∀ w', Below w.heap.size w w' -> Steps w w' p.tiers (k + 1) (t.least + 1)) := Lib.hid fun w' hw' => hS.out.next HP.out b1 b2 hw'
              have q1 : 0 <= t.least /\ t.least <= 10000000000000 := by
                have g := b1
                unfold inR at g
                simp only [Bool.and_eq_true, decide_eq_true_eq] at g
                have := lead_bounds hS.out.lead
                omega
              obtain ⟨q1, q2⟩ := q1
              clear b1 b2 hS
              go_wp2_with fail
              refine (HW.out _).mono ?_
              rintro e w2 ⟨rfl, rfl⟩
              go_wp2_with fail
              refine HT.out.mono ?_
              rintro e w3 ⟨rfl, hb3⟩
              have HB3 := Lib.hid (HX.out.2.trans (hb3.mono HX.out.2.size))
              have hx3 := HX.out.1.below hb3
              have y0 := hx3.cell 0
              clear hb3 hx3 x0 x1 x2
              go_wp2
              go_roundw
              case rel => exact ⟨k + 1, t.least + 1, by go_num, rfl, by omega, Lib.hid (HN.out _ HB3.out)⟩
              case measure => simp [intOf]; omega
        . obtain rfl : k = n := by omega
          have k1 : ¬ (k : Int) < (k : Int) := by omega
          have HG : Hid (tiersB p.tiers = true) := Lib.hid (by
            have h1 := hS.out.up
            have h2 := HL.out
            rw [<- h2] at h1
            rw [h1.all, decide_eq_true (by omega), decide_eq_true (by omega)]; rfl)
          go_wp2
          go_ret
          exact ⟨by rw [HG.out]; rfl, hS.out.below⟩
theorem part_eq (p : Prt) : partB p = (Sc.scopeB p.scope && inR p.count 1 100) := by
  unfold partB inR
  rw [Bool.and_assoc]
set_option maxHeartbeats 4000000 in
theorem parts_any (p : Prm) (l : Prm.Lay) (w : World) (h : Row kPrt w (· < w.heap.size) l.parts.A l.parts.n p.parts) (hS : PartsSmall p.parts) :
    Calls Tryz.prog 53 #[.agg #[.string p.id, .int .i64 p.kind, .int .i64 p.priority, .string p.group, .string p.code, .bool p.closes, .slice l.scope.skus.A l.scope.skus.n l.scope.skus.c, .slice l.scope.cats.A l.scope.cats.n l.scope.cats.c, .int .i64 p.least, .int .i64 p.rate, .int .i64 p.amount, .int .i64 p.buy, .int .i64 p.get, .slice l.parts.A l.parts.n l.parts.c, .slice l.tiers.A l.tiers.n l.tiers.c]] w fun e w' => e = .returned (.bool (partsB p.parts && inR p.amount 0 10000000000000)) /\ Below w.heap.size w w' := by
  obtain ⟨w1, hw1⟩ : ∃ w1, w.alloc (.cells #[.string p.id, .int .i64 p.kind, .int .i64 p.priority, .string p.group, .string p.code, .bool p.closes, .slice l.scope.skus.A l.scope.skus.n l.scope.skus.c, .slice l.scope.cats.A l.scope.cats.n l.scope.cats.c, .int .i64 p.least, .int .i64 p.rate, .int .i64 p.amount, .int .i64 p.buy, .int .i64 p.get, .slice l.parts.A l.parts.n l.parts.c, .slice l.tiers.A l.tiers.n l.tiers.c] 83) = w1 := ⟨_, rfl⟩
  have hx : Qu.Blk w1 w.heap.size 83 #[.string p.id, .int .i64 p.kind, .int .i64 p.priority, .string p.group, .string p.code, .bool p.closes, .slice l.scope.skus.A l.scope.skus.n l.scope.skus.c, .slice l.scope.cats.A l.scope.cats.n l.scope.cats.c, .int .i64 p.least, .int .i64 p.rate, .int .i64 p.amount, .int .i64 p.buy, .int .i64 p.get, .slice l.parts.A l.parts.n l.parts.c, .slice l.tiers.A l.tiers.n l.tiers.c] := by rw [<- hw1]; exact Qu.Blk.new w _ _
  have hb1 : Below w.heap.size w w1 := by rw [<- hw1]; exact (Below.refl _ _).alloc (Nat.le_refl _) _
  have x9 := hx.cell 10
  have x12 := hx.cell 13
  have HB := Lib.hid hb1
  have hlen := h.len
  have HR := Lib.hid (And.intro h hS)
  have HA := Lib.hid (fun W => within64_any p.amount 0 10000000000000 W)
  obtain ⟨n, hn⟩ : ∃ n, l.parts.n = n := ⟨_, rfl⟩
  rw [hn] at HR hlen
  have HL := Lib.hid hlen
  simp only [hn] at hw1 x12 ⊢
  clear hx hb1 h hS hlen hn
  obtain ⟨R, hR⟩ : ∃ R, (partsB p.parts && inR p.amount 0 10000000000000) = R := ⟨_, rfl⟩
  have HRR := Lib.hid hR
  rw [hR]
  clear hR
  by_cases c1 : n < 1
  . have d1 : (n : Int) < 1 := by omega
    have HG : Hid (R = false) := Lib.hid (by
      rw [<- HRR.out]
      unfold partsB
      rw [HL.out, decide_eq_false (p := 1 <= n) (by omega)]
      simp)
    go_enter Tryz.func53, Tryz.ntmps53
    go_wp2
    go_ret
    exact ⟨by rw [HG.out]; rfl, HB.out⟩
  . have d1 : ¬ (n : Int) < 1 := by omega
    by_cases c2 : 3 < n
    . have d2 : (3 : Int) < (n : Int) := by omega
      have HG : Hid (R = false) := Lib.hid (by
        rw [<- HRR.out]
        unfold partsB
        rw [HL.out, decide_eq_false (p := n <= 3) (by omega)]
        simp)
      go_enter Tryz.func53, Tryz.ntmps53
      go_wp2
      go_ret
      exact ⟨by rw [HG.out]; rfl, HB.out⟩
    . have d2 : ¬ (3 : Int) < (n : Int) := by omega
      cases b0 : inR p.amount 0 10000000000000 with
      | false =>
        simp only [b0] at HA
        have HG : Hid (R = false) := Lib.hid (by rw [<- HRR.out, b0, Bool.and_false])
        clear b0
        go_enter Tryz.func53, Tryz.ntmps53
        go_wp2_with fail
        refine (HA.out _).mono ?_
        rintro e w2 ⟨rfl, rfl⟩
        go_wp2
        go_ret
        exact ⟨by rw [HG.out]; rfl, HB.out⟩
      | true =>
        simp only [b0] at HA
        have HRP : Hid (R = partsB p.parts) := Lib.hid (by rw [<- HRR.out, b0, Bool.and_true])
        clear b0
        have HM0 : Hid ((∀ (j : Nat) (q : Prt), j < 0 -> p.parts[j]? = some q -> partB q = true) /\ Below w.heap.size w w1) := Lib.hid ⟨fun j q hj => by omega, HB.out⟩
        go_enter Tryz.func53, Tryz.ntmps53
        go_wp2_with fail
        refine (HA.out _).mono ?_
        rintro e w2 ⟨rfl, rfl⟩
        go_wp2
        go_loopw [24] (fun s24 wr => ∃ k : Nat, s24 = .int .i64 k /\ k <= n /\ Hid ((∀ (j : Nat) (q : Prt), j < k -> p.parts[j]? = some q -> partB q = true) /\ Below w.heap.size w wr)) (fun s24 _ => n - (intOf s24).toNat)
        case atStart => exact ⟨0, rfl, by omega, HM0⟩
        case round =>
          clear HM0 x9 x12 hw1 HB
          obtain ⟨k, rfl, hk, hM⟩ := hrel
          have k0 : (0 : Int) <= (k : Int) := by omega
          by_cases hlt : k < n
          . have k1 : (k : Int) < (n : Int) := by omega
            obtain ⟨q, hp⟩ := HR.out.1.get hlt
            have hb := hM.out.2
            obtain ⟨g, o, y, he, _, hg, hh, a0, a1, a2⟩ := row_Prt (HR.out.1.below hb (Nat.le_refl _)) hp
            simp only [he]
            have hsm := HR.out.2 k q hp
            obtain ⟨W1, hW1⟩ : ∃ W1, wr.alloc (.cells #[.slice y.scope.skus.A y.scope.skus.n y.scope.skus.c, .slice y.scope.cats.A y.scope.cats.n y.scope.cats.c, .int .i64 q.count] 56) = W1 := ⟨_, rfl⟩
            have hbb : Below wr.heap.size wr W1 := by rw [<- hW1]; exact (Below.refl _ _).alloc (Nat.le_refl _) _
            have hx : Qu.Blk W1 wr.heap.size 56 #[.slice y.scope.skus.A y.scope.skus.n y.scope.skus.c, .slice y.scope.cats.A y.scope.cats.n y.scope.cats.c, .int .i64 q.count] := by rw [<- hW1]; exact Qu.Blk.new wr _ _
            have hbw := hb.trans (hbb.mono hb.size)
            have l1 := hh.scope.skus.row.len
            have l2 := hh.scope.cats.row.len
            have HSc := Lib.hid (Sc.Right_any q.scope y.scope W1 ⟨(hh.scope.skus.below (w' := W1) (B := w.heap.size) (hbb.mono hb.size) (Nat.le_refl _)).more fun b hb2 => Nat.lt_of_lt_of_le hb2 hbw.size, (hh.scope.cats.below (w' := W1) (B := w.heap.size) (hbb.mono hb.size) (Nat.le_refl _)).more fun b hb2 => Nat.lt_of_lt_of_le hb2 hbw.size⟩ ⟨by omega, by omega⟩)
            have HC := Lib.hid (fun W => within_any q.count 1 100 W)
            have HP := Lib.hid hp
            have HX := Lib.hid (And.intro hx hbw)
            have x0 := hx.cell 0
            have x1 := hx.cell 1
            clear hp hh hsm l1 l2 hb hbb hx hbw he
            cases h1 : Sc.scopeB q.scope with
            | false =>
              rw [h1] at HSc
              have HG : Hid (R = false) := Lib.hid (by rw [HRP.out]; exact partsB_no HP.out (by rw [part_eq, h1]; rfl))
              clear h1
              go_wp2_with fail
              refine HSc.out.mono ?_
              rintro e w2 ⟨rfl, hb2⟩
              have HB2 := Lib.hid (HX.out.2.trans (hb2.mono HX.out.2.size))
              clear hb2
              go_wp2
              go_ret
              exact ⟨by rw [HG.out]; rfl, HB2.out⟩
            | true =>
              rw [h1] at HSc
              cases h2 : inR q.count 1 100 with
              | false =>
                simp only [h2] at HC
                have HG : Hid (R = false) := Lib.hid (by rw [HRP.out]; exact partsB_no HP.out (by rw [part_eq, h2, Bool.and_false]))
                clear h1 h2
                go_wp2_with fail
                refine HSc.out.mono ?_
                rintro e w2 ⟨rfl, hb2⟩
                have HB2 := Lib.hid (HX.out.2.trans (hb2.mono HX.out.2.size))
                have y2 := (HX.out.1.below hb2).cell 2
                clear hb2
                go_wp2_with fail
                refine (HC.out _).mono ?_
                rintro e w3 ⟨rfl, rfl⟩
                go_wp2
                go_ret
                exact ⟨by rw [HG.out]; rfl, HB2.out⟩
              | true =>
                simp only [h2] at HC
                have HN : Hid (∀ (j : Nat) (u : Prt), j < k + 1 -> p.parts[j]? = some u -> partB u = true) := Lib.hid fun j u hj hu => by
                  rcases Nat.lt_or_ge j k with h3 | h3
                  . exact hM.out.1 j u h3 hu
                  . obtain rfl : j = k := by omega
                    rw [HP.out] at hu
                    injection hu with hu
                    subst hu
                    rw [part_eq, h1, h2]; rfl
                clear h1 h2 hM
                go_wp2_with fail
                refine HSc.out.mono ?_
                rintro e w2 ⟨rfl, hb2⟩
                have HB2 := Lib.hid (HX.out.2.trans (hb2.mono HX.out.2.size))
                have y2 := (HX.out.1.below hb2).cell 2
                clear hb2
                go_wp2_with fail
                refine (HC.out _).mono ?_
                rintro e w3 ⟨rfl, rfl⟩
                go_wp2
                go_roundw
                case rel => exact ⟨k + 1, by go_num, by omega, Lib.hid ⟨HN.out, HB2.out⟩⟩
                case measure => simp [intOf]; omega
          . obtain rfl : k = n := by omega
            have k1 : ¬ (k : Int) < (k : Int) := by omega
            have HG : Hid (R = true) := Lib.hid (by
              rw [HRP.out, partsB_end fun j u hu => hM.out.1 j u (by
                have := (List.getElem?_eq_some_iff.1 hu).1
                have := HL.out
                omega) hu, HL.out, decide_eq_true (by omega), decide_eq_true (by omega)]; rfl)
            go_wp2
            go_ret
            exact ⟨by rw [HG.out]; rfl, hM.out.2⟩
end Go.Proofs.YtljmddjlnlmenaaGreat.Pm

end

section
namespace Go.Proofs.YtljmddjlnlmenaaGreat.Pm
open Go.ChangeShapes Go.WideShapes Go.ChangeAt Go.RowKit
open Ap (Scp Prt Tir Prm kPrt kTir row_Prt row_Tir)
open Kd (Row Lst)
noncomputable def headL (p : Prm) : Bool := Sr.name p.id && Pr.blankB p.group && Pr.blankB p.code && inR p.priority 0 1000 && inR p.least 0 10000000000000 && Sc.scopeB p.scope
theorem headL_def (p : Prm) : headL p = (Sr.name p.id && Pr.blankB p.group && Pr.blankB p.code && inR p.priority 0 1000 && inR p.least 0 10000000000000 && Sc.scopeB p.scope) := rfl
theorem head_eq (p : Prm) : Pr.headB p = (headL p && (decide (1 <= p.kind) && decide (p.kind <= 7))) := by
  unfold Pr.headB headL
  rw [show Pr.inB p.least 10000000000000 = inR p.least 0 10000000000000 from rfl, show inR p.priority 0 1000 = (decide (0 <= p.priority) && decide (p.priority <= 1000)) from rfl]
  cases Sr.name p.id <;> cases decide (1 <= p.kind) <;> cases decide (p.kind <= 7) <;> cases decide (0 <= p.priority) <;> cases decide (p.priority <= 1000) <;> cases Pr.blankB p.group <;> cases Pr.blankB p.code <;> cases Sc.scopeB p.scope <;> cases inR p.least 0 10000000000000 <;> rfl
set_option maxHeartbeats 4000000 in
theorem head_any (p : Prm) (l : Prm.Lay) (w : World) (h : Ap.Prm.Holds w (· < w.heap.size) p l) (hS : Sc.Small l.scope) :
    Calls Tryz.prog 55 #[.agg #[.string p.id, .int .i64 p.kind, .int .i64 p.priority, .string p.group, .string p.code, .bool p.closes, .slice l.scope.skus.A l.scope.skus.n l.scope.skus.c, .slice l.scope.cats.A l.scope.cats.n l.scope.cats.c, .int .i64 p.least, .int .i64 p.rate, .int .i64 p.amount, .int .i64 p.buy, .int .i64 p.get, .slice l.parts.A l.parts.n l.parts.c, .slice l.tiers.A l.tiers.n l.tiers.c]] w fun e w' => e = .returned (.bool (headL p)) /\ Below w.heap.size w w' := by
  obtain ⟨w1, hw1⟩ : ∃ w1, w.alloc (.cells #[.string p.id, .int .i64 p.kind, .int .i64 p.priority, .string p.group, .string p.code, .bool p.closes, .slice l.scope.skus.A l.scope.skus.n l.scope.skus.c, .slice l.scope.cats.A l.scope.cats.n l.scope.cats.c, .int .i64 p.least, .int .i64 p.rate, .int .i64 p.amount, .int .i64 p.buy, .int .i64 p.get, .slice l.parts.A l.parts.n l.parts.c, .slice l.tiers.A l.tiers.n l.tiers.c] 83) = w1 := ⟨_, rfl⟩
  have hx : Qu.Blk w1 w.heap.size 83 #[.string p.id, .int .i64 p.kind, .int .i64 p.priority, .string p.group, .string p.code, .bool p.closes, .slice l.scope.skus.A l.scope.skus.n l.scope.skus.c, .slice l.scope.cats.A l.scope.cats.n l.scope.cats.c, .int .i64 p.least, .int .i64 p.rate, .int .i64 p.amount, .int .i64 p.buy, .int .i64 p.get, .slice l.parts.A l.parts.n l.parts.c, .slice l.tiers.A l.tiers.n l.tiers.c] := by rw [<- hw1]; exact Qu.Blk.new w _ _
  have hb1 : Below w.heap.size w w1 := by rw [<- hw1]; exact (Below.refl _ _).alloc (Nat.le_refl _) _
  have x0 := hx.cell 0
  have x2 := hx.cell 2
  have x3 := hx.cell 3
  have x4 := hx.cell 4
  have x6 := hx.cell 6
  have x7 := hx.cell 7
  have x8 := hx.cell 8
  have HB := Lib.hid hb1
  have H1 := Lib.hid (fun W => Gd.name_any p.id W h.id)
  have H2 := Lib.hid (fun W => blank_any p.group W h.group)
  have H3 := Lib.hid (fun W => blank_any p.code W h.code)
  have H4 := Lib.hid (fun W => within_any p.priority 0 1000 W)
  have H5 := Lib.hid (fun W => within64_any p.least 0 10000000000000 W)
  have H6 := Lib.hid (Sc.Right_any p.scope l.scope w1 ⟨(h.scope.skus.below hb1 (Nat.le_refl _)).more fun b hb => Nat.lt_of_lt_of_le hb hb1.size, (h.scope.cats.below hb1 (Nat.le_refl _)).more fun b hb => Nat.lt_of_lt_of_le hb hb1.size⟩ hS)
  have HD := Lib.hid (headL_def p)
  clear hx hb1 h hS
  cases b1 : Sr.name p.id with
  | false =>
    simp only [b1] at H1
    have HG : Hid (headL p = false) := Lib.hid (by rw [HD.out, b1]; rfl)
    clear b1
    go_enter Tryz.func55, Tryz.ntmps55
    go_wp2_with fail
    refine (H1.out _).mono ?_
    rintro e w2 ⟨rfl, rfl⟩
    go_wp2
    go_ret
    exact ⟨by rw [HG.out]; rfl, HB.out⟩
  | true =>
    simp only [b1] at H1
    cases b2 : Pr.blankB p.group with
    | false =>
      simp only [b2] at H2
      have HG : Hid (headL p = false) := Lib.hid (by rw [HD.out, b1, b2]; rfl)
      clear b1 b2
      go_enter Tryz.func55, Tryz.ntmps55
      go_wp2_with fail
      refine (H1.out _).mono ?_
      rintro e w2 ⟨rfl, rfl⟩
      go_wp2_with fail
      refine (H2.out _).mono ?_
      rintro e w2 ⟨rfl, rfl⟩
      go_wp2
      go_ret
      exact ⟨by rw [HG.out]; rfl, HB.out⟩
    | true =>
      simp only [b2] at H2
      cases b3 : Pr.blankB p.code with
      | false =>
        simp only [b3] at H3
        have HG : Hid (headL p = false) := Lib.hid (by rw [HD.out, b1, b2, b3]; rfl)
        clear b1 b2 b3
        go_enter Tryz.func55, Tryz.ntmps55
        go_wp2_with fail
        refine (H1.out _).mono ?_
        rintro e w2 ⟨rfl, rfl⟩
        go_wp2_with fail
        refine (H2.out _).mono ?_
        rintro e w2 ⟨rfl, rfl⟩
        go_wp2_with fail
        refine (H3.out _).mono ?_
        rintro e w2 ⟨rfl, rfl⟩
        go_wp2
        go_ret
        exact ⟨by rw [HG.out]; rfl, HB.out⟩
      | true =>
        simp only [b3] at H3
        cases b4 : inR p.priority 0 1000 with
        | false =>
          simp only [b4] at H4
          have HG : Hid (headL p = false) := Lib.hid (by rw [HD.out, b1, b2, b3, b4]; rfl)
          clear b1 b2 b3 b4
          go_enter Tryz.func55, Tryz.ntmps55
          go_wp2_with fail
          refine (H1.out _).mono ?_
          rintro e w2 ⟨rfl, rfl⟩
          go_wp2_with fail
          refine (H2.out _).mono ?_
          rintro e w2 ⟨rfl, rfl⟩
          go_wp2_with fail
          refine (H3.out _).mono ?_
          rintro e w2 ⟨rfl, rfl⟩
          go_wp2_with fail
          refine (H4.out _).mono ?_
          rintro e w2 ⟨rfl, rfl⟩
          go_wp2
          go_ret
          exact ⟨by rw [HG.out]; rfl, HB.out⟩
        | true =>
          simp only [b4] at H4
          cases b5 : inR p.least 0 10000000000000 with
          | false =>
            simp only [b5] at H5
            have HG : Hid (headL p = false) := Lib.hid (by rw [HD.out, b1, b2, b3, b4, b5]; rfl)
            clear b1 b2 b3 b4 b5
            go_enter Tryz.func55, Tryz.ntmps55
            go_wp2_with fail
            refine (H1.out _).mono ?_
            rintro e w2 ⟨rfl, rfl⟩
            go_wp2_with fail
            refine (H2.out _).mono ?_
            rintro e w2 ⟨rfl, rfl⟩
            go_wp2_with fail
            refine (H3.out _).mono ?_
            rintro e w2 ⟨rfl, rfl⟩
            go_wp2_with fail
            refine (H4.out _).mono ?_
            rintro e w2 ⟨rfl, rfl⟩
            go_wp2_with fail
            refine (H5.out _).mono ?_
            rintro e w2 ⟨rfl, rfl⟩
            go_wp2
            go_ret
            exact ⟨by rw [HG.out]; rfl, HB.out⟩
          | true =>
            simp only [b5] at H5
            cases b6 : Sc.scopeB p.scope with
            | false =>
              simp only [b6] at H6
              have HG : Hid (headL p = false) := Lib.hid (by rw [HD.out, b1, b2, b3, b4, b5, b6]; rfl)
              clear b1 b2 b3 b4 b5 b6
              go_enter Tryz.func55, Tryz.ntmps55
              go_wp2_with fail
              refine (H1.out _).mono ?_
              rintro e w2 ⟨rfl, rfl⟩
              go_wp2_with fail
              refine (H2.out _).mono ?_
              rintro e w2 ⟨rfl, rfl⟩
              go_wp2_with fail
              refine (H3.out _).mono ?_
              rintro e w2 ⟨rfl, rfl⟩
              go_wp2_with fail
              refine (H4.out _).mono ?_
              rintro e w2 ⟨rfl, rfl⟩
              go_wp2_with fail
              refine (H5.out _).mono ?_
              rintro e w2 ⟨rfl, rfl⟩
              go_wp2_with fail
              refine H6.out.mono ?_
              rintro e w3 ⟨rfl, hb3⟩
              have HB3 := Lib.hid (HB.out.trans (hb3.mono HB.out.size))
              clear hb3
              go_wp2
              go_ret
              exact ⟨by rw [HG.out]; rfl, HB3.out⟩
            | true =>
              simp only [b6] at H6
              have HG : Hid (headL p = true) := Lib.hid (by rw [HD.out, b1, b2, b3, b4, b5, b6]; rfl)
              clear b1 b2 b3 b4 b5 b6
              go_enter Tryz.func55, Tryz.ntmps55
              go_wp2_with fail
              refine (H1.out _).mono ?_
              rintro e w2 ⟨rfl, rfl⟩
              go_wp2_with fail
              refine (H2.out _).mono ?_
              rintro e w2 ⟨rfl, rfl⟩
              go_wp2_with fail
              refine (H3.out _).mono ?_
              rintro e w2 ⟨rfl, rfl⟩
              go_wp2_with fail
              refine (H4.out _).mono ?_
              rintro e w2 ⟨rfl, rfl⟩
              go_wp2_with fail
              refine (H5.out _).mono ?_
              rintro e w2 ⟨rfl, rfl⟩
              go_wp2_with fail
              refine H6.out.mono ?_
              rintro e w3 ⟨rfl, hb3⟩
              have HB3 := Lib.hid (HB.out.trans (hb3.mono HB.out.size))
              clear hb3
              go_wp2
              go_ret
              exact ⟨by rw [HG.out]; rfl, HB3.out⟩
def hasV (b0 b1 b2 b3 b4 b5 b6 b7 : Bool) : Int := bits .or .i64 (bits .or .i64 (bits .or .i64 (bits .or .i64 (bits .or .i64 (bits .or .i64 (bits .or .i64 (wh 1 b0) (wh 2 b1)) (wh 4 b2)) (wh 8 b3)) (wh 16 b4)) (wh 32 b5)) (wh 64 b6)) (wh 128 b7)
theorem may_percent : ∀ b0 b1 b2 b3 b4 b5 b6 b7 : Bool, (bits .andNot .i64 (hasV b0 b1 b2 b3 b4 b5 b6 b7) 193 == 0) = (!b1 && !b2 && !b3 && !b4 && !b5) := by decide +kernel
theorem may_amount : ∀ b0 b1 b2 b3 b4 b5 b6 b7 : Bool, (bits .andNot .i64 (hasV b0 b1 b2 b3 b4 b5 b6 b7) 194 == 0) = (!b0 && !b2 && !b3 && !b4 && !b5) := by decide +kernel
theorem may_rows : ∀ b0 b1 b2 b3 b4 b5 b6 b7 : Bool, (bits .andNot .i64 (hasV b0 b1 b2 b3 b4 b5 b6 b7) 205 == 0) = (!b1 && !b4 && !b5) := by decide +kernel
theorem may_bundle : ∀ b0 b1 b2 b3 b4 b5 b6 b7 : Bool, (bits .andNot .i64 (hasV b0 b1 b2 b3 b4 b5 b6 b7) 146 == 0) = (!b0 && !b2 && !b3 && !b5 && !b6) := by decide +kernel
theorem may_tiers : ∀ b0 b1 b2 b3 b4 b5 b6 b7 : Bool, (bits .andNot .i64 (hasV b0 b1 b2 b3 b4 b5 b6 b7) 224 == 0) = (!b0 && !b1 && !b2 && !b3 && !b4) := by decide +kernel
theorem may_ship : ∀ b0 b1 b2 b3 b4 b5 b6 b7 : Bool, (bits .andNot .i64 (hasV b0 b1 b2 b3 b4 b5 b6 b7) 1 == 0) = (!b1 && !b2 && !b3 && !b4 && !b5 && !b6 && !b7) := by decide +kernel
def hasP (p : Prm) : Int := hasV (p.rate != 0) (p.amount != 0) (p.buy != 0) (p.get != 0) (decide (0 < p.parts.length)) (decide (0 < p.tiers.length)) (decide (0 < p.scope.skus.length + p.scope.cats.length)) p.closes
set_option maxHeartbeats 4000000 in
theorem has_any (p : Prm) (l : Prm.Lay) (w : World) (hp : p.parts.length = l.parts.n) (ht : p.tiers.length = l.tiers.n) (h1 : p.scope.skus.length = l.scope.skus.n) (h2 : p.scope.cats.length = l.scope.cats.n) (hS : l.scope.skus.n <= 1000000000000 /\ l.scope.cats.n <= 1000000000000) : Calls Tryz.prog 56 #[.agg #[.string p.id, .int .i64 p.kind, .int .i64 p.priority, .string p.group, .string p.code, .bool p.closes, .slice l.scope.skus.A l.scope.skus.n l.scope.skus.c, .slice l.scope.cats.A l.scope.cats.n l.scope.cats.c, .int .i64 p.least, .int .i64 p.rate, .int .i64 p.amount, .int .i64 p.buy, .int .i64 p.get, .slice l.parts.A l.parts.n l.parts.c, .slice l.tiers.A l.tiers.n l.tiers.c]] w fun e w' => e = .returned (.int .i64 (hasP p)) /\ Below w.heap.size w w' := by
  have HP : Hid (hasP p = hasV (p.rate != 0) (p.amount != 0) (p.buy != 0) (p.get != 0) (decide (0 < l.parts.n)) (decide (0 < l.tiers.n)) (decide (0 < wrap64 ((l.scope.skus.n : Int) + (l.scope.cats.n : Int)))) p.closes) := Lib.hid (by
    unfold hasP
    rw [hp, ht, h1, h2, IntWalk.wrap64_in _ (by have := hS.1; have := hS.2; omega)]
    congr 1
    by_cases e : 0 < l.scope.skus.n + l.scope.cats.n
    . rw [decide_eq_true e, decide_eq_true (by omega)]
    . rw [decide_eq_false e, decide_eq_false (by omega)])
  clear hp ht h1 h2 hS
  obtain ⟨w1, hw1⟩ : ∃ w1, w.alloc (.cells #[.string p.id, .int .i64 p.kind, .int .i64 p.priority, .string p.group, .string p.code, .bool p.closes, .slice l.scope.skus.A l.scope.skus.n l.scope.skus.c, .slice l.scope.cats.A l.scope.cats.n l.scope.cats.c, .int .i64 p.least, .int .i64 p.rate, .int .i64 p.amount, .int .i64 p.buy, .int .i64 p.get, .slice l.parts.A l.parts.n l.parts.c, .slice l.tiers.A l.tiers.n l.tiers.c] 83) = w1 := ⟨_, rfl⟩
  have hx : Qu.Blk w1 w.heap.size 83 #[.string p.id, .int .i64 p.kind, .int .i64 p.priority, .string p.group, .string p.code, .bool p.closes, .slice l.scope.skus.A l.scope.skus.n l.scope.skus.c, .slice l.scope.cats.A l.scope.cats.n l.scope.cats.c, .int .i64 p.least, .int .i64 p.rate, .int .i64 p.amount, .int .i64 p.buy, .int .i64 p.get, .slice l.parts.A l.parts.n l.parts.c, .slice l.tiers.A l.tiers.n l.tiers.c] := by rw [<- hw1]; exact Qu.Blk.new w _ _
  have hb1 : Below w.heap.size w w1 := by rw [<- hw1]; exact (Below.refl _ _).alloc (Nat.le_refl _) _
  have x5 := hx.cell 5
  have x6 := hx.cell 6
  have x7 := hx.cell 7
  have x9 := hx.cell 9
  have x10 := hx.cell 10
  have x11 := hx.cell 11
  have x12 := hx.cell 12
  have x13 := hx.cell 13
  have x14 := hx.cell 14
  have HB := Lib.hid hb1
  obtain ⟨b0, t0⟩ : ∃ b, (p.rate != 0) = b := ⟨_, rfl⟩
  obtain ⟨b1, t1⟩ : ∃ b, (p.amount != 0) = b := ⟨_, rfl⟩
  obtain ⟨b2, t2⟩ : ∃ b, (p.buy != 0) = b := ⟨_, rfl⟩
  obtain ⟨b3, t3⟩ : ∃ b, (p.get != 0) = b := ⟨_, rfl⟩
  rw [t0, t1, t2, t3] at HP
  clear hx hb1
  go_enter Tryz.func56, Tryz.ntmps56
  go_wp2_with fail
  go_quiet ((go_at_call 93; exact Calls.quiet_of_same (where_any _ _ _)))
  go_wp2
  go_ret
  exact ⟨by rw [HP.out]; rfl, HB.out.trans ((Hl.Drawn.below ⟨_, rfl⟩ _).mono HB.out.size)⟩
end Go.Proofs.YtljmddjlnlmenaaGreat.Pm

end
