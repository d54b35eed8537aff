/- The document's rates, kinds, Zone and Rate. (made by wip/gen-rules.py) -/
import Derived.BigQuiet
import Derived.Test.YtfcmhgneijipgaaGreatPk2
import Derived.Test.YtfcmhgneijipgaaGreatPk3

set_option maxRecDepth 100000
set_option linter.unusedVariables false
namespace Go.Proofs.YtfcmhgneijipgaaGreat.Ru
open Go.ChangeShapes Go.WideShapes Go.ChangeAt Go.RowKit
open Ap (CtR Zon Txs kCtR kZon row_CtR row_Zon)
open Kd (Row Fit Lst Sl kStr kInt row_int)
theorem leq_any (a b : ByteArray) (W : World) : (binOp .leq 9 (.string a) (.string b)).run Tryz.prog W = .ok (.bool (!Sr.lt b a)) W := by
  have e : binOp .leq 9 (.string a) (.string b) = pure (.bool (Op.bytesLess a.toList b.toList || a.toList == b.toList)) := by simp [binOp, Op.stringOp]
  rw [e, Sr.le_iff]
  rfl
theorem boxed_below {w : World} {cs : Array Value} {t : TypeId} {w' : World} (h : Hl.Drawn (w.alloc (.cells cs t)) w') : Below w.heap.size w w' := by
  obtain ⟨d, rfl⟩ := h
  exact Qu.below_draws ((Below.refl _ _).alloc (Nat.le_refl _) _) d
set_option maxHeartbeats 2000000 in
theorem rrates_any (z : Zon) (l : Zon.Lay) (w : World) (h : Zon.Holds w (· < w.heap.size) z l) (hn : l.rates.n ≤ 1000000000000) :
    Calls Tryz.prog 45 #[.agg #[.string z.name, .slice l.rates.A l.rates.n l.rates.c, .int .i64 z.rest, .int .i64 z.ship]] w fun e w' => e = .returned (.bool (zoneB z)) ∧ Below w.heap.size w w' := by
  obtain ⟨W1, hW1⟩ : ∃ W1, w.alloc (.cells #[.string z.name, .slice l.rates.A l.rates.n l.rates.c, .int .i64 z.rest, .int .i64 z.ship] 41) = W1 := ⟨_, rfl⟩
  have hb1 : Below w.heap.size w W1 := by rw [← hW1]; exact (Below.refl _ _).alloc (Nat.le_refl _) _
  have hbox : Qu.Blk W1 w.heap.size 41 #[.string z.name, .slice l.rates.A l.rates.n l.rates.c, .int .i64 z.rest, .int .i64 z.ship] := by rw [← hW1]; exact Qu.Blk.new w _ _
  have HH := Lib.hid (h.rates.row.below hb1 (Nat.le_refl _))
  have HL := Lib.hid h.rates.row.len
  have HE : Hid (∀ w', Hl.Drawn W1 w' → Below w.heap.size w w') := Lib.hid fun w' hd => boxed_below (by rw [hW1]; exact hd)
  have y1 := fun d => (show (W1.drewN d).cell? ⟨w.heap.size, 1, none⟩ = some (.slice l.rates.A l.rates.n l.rates.c) from hbox.cell 1)
  have HX := Lib.hid (And.intro (hbox.cell 1) (And.intro (hbox.cell 2) (hbox.cell 3)))
  have HNm := Lib.hid h.name
  obtain ⟨A, n, c, hl⟩ : ∃ A n c, l.rates = ⟨A, n, c⟩ := ⟨_, _, _, rfl⟩
  rw [hl] at HH HX hn y1
  have N4 := Lib.hid (fun W => Py.rin_any z.rest 10000 W)
  have N5 := Lib.hid (fun W => Py.rin_any z.ship 10000 W)
  have HZ : Hid (zoneB z = (ratesB z.rates && (decide (0 ≤ z.rest) && decide (z.rest ≤ 10000)) && (decide (0 ≤ z.ship) && decide (z.ship ≤ 10000)))) := Lib.hid rfl
  have HLn := Lib.hid (show z.rates.length = n by have := HL.out; rw [hl] at this; exact this)
  rw [hl] at hW1 ⊢
  have hx1 := hbox.cell 1
  rw [hl] at hx1
  clear h hb1 hbox HL hl
  go_enter Tryz.func45, Tryz.ntmps45
  go_wp2
  clear hW1 hx1
  go_loopw [3] (fun s3 wr => ∃ k : Nat, s3 = .int .i64 k ∧ k ≤ n ∧ Hl.Drawn W1 wr ∧ RUp z.rates k) (fun s3 _ => n - (intOf s3).toNat)
  case atStart => exact ⟨0, rfl, by omega, ⟨0, rfl⟩, RUp.begin _⟩
  case round =>
    obtain ⟨k, rfl, hk, hD, hU⟩ := hrel
    have HU := Lib.hid hU
    have x1 : wr.cell? ⟨w.heap.size, 1, none⟩ = some (.slice A n c) := by obtain ⟨d, rfl⟩ := hD; exact y1 d
    clear hU
    by_cases hlt : k < n
    · obtain ⟨x, hx⟩ := HH.out.get hlt
      obtain ⟨g, o, rfl, _, _, hok, a0, a1⟩ := row_CtR HH.out hx
      have c0 : wr.cell? ⟨g, o + k * 2, none⟩ = some (.string x.cat) := by obtain ⟨d, rfl⟩ := hD; exact a0
      have c1 : wr.cell? ⟨g, o + k * 2 + 1, none⟩ = some (.int .i64 x.rate) := by obtain ⟨d, rfl⟩ := hD; exact a1
      have HX1 := Lib.hid hx
      have HI : Hid (rateB x = (Sr.name x.cat && (decide (0 ≤ x.rate) && decide (x.rate ≤ 10000)))) := Lib.hid rfl
      have N1 := Lib.hid (fun W => Py.rname_any x.cat W hok.cat)
      have N3 := Lib.hid (fun W => Py.rin_any x.rate 10000 W)
      have k1 : (k : Int) < (n : Int) := by omega
      have kk : (0 : Int) ≤ (k : Int) := by omega
      have HD := Lib.hid hD
      clear a0 a1 hx hok
      cases n1 : Sr.name x.cat with
      | false =>
        rw [n1] at N1
        have HB := Lib.hid (rate_bad HX1.out (by rw [HI.out, n1]; rfl))
        have HZ0 : Hid (zoneB z = false) := Lib.hid (by rw [HZ.out, HB.out]; rfl)
        clear n1 hD
        go_wp2_with fail
        go_quiet (first | (go_at_call 44; with_reducible exact Calls.quiet_of_same (N1.out _)) | (go_at_call 37; with_reducible exact Calls.quiet_of_same (N3.out _)))
        go_wp2
        go_ret
        exact ⟨by rw [HZ0.out]; rfl, HE.out _ (HD.out.more _)⟩
      | true =>
        rw [n1] at N1
        cases n3 : (decide (0 ≤ x.rate) && decide (x.rate ≤ 10000)) with
        | false =>
          rw [n3] at N3
          have HB := Lib.hid (rate_bad HX1.out (by rw [HI.out, n1, n3]; rfl))
          have HZ0 : Hid (zoneB z = false) := Lib.hid (by rw [HZ.out, HB.out]; rfl)
          clear n1 n3 hD
          go_wp2_with fail
          go_quiet (first | (go_at_call 44; with_reducible exact Calls.quiet_of_same (N1.out _)) | (go_at_call 37; with_reducible exact Calls.quiet_of_same (N3.out _)))
          go_wp2
          go_ret
          exact ⟨by rw [HZ0.out]; rfl, HE.out _ (HD.out.more _)⟩
        | true =>
          rw [n3] at N3
          have HG : Hid (rateB x = true) := Lib.hid (by rw [HI.out, n1, n3]; rfl)
          clear n1 n3
          by_cases k0 : 0 < k
          · obtain ⟨y, hy⟩ := HH.out.get (k := k - 1) (by omega)
            obtain ⟨g', o', hA, _, _, _, b1, _⟩ := row_CtR HH.out hy
            injection hA with hA
            injection hA with hA1 hA2
            subst hA1 hA2
            have d0 : wr.cell? ⟨g, o + (k - 1) * 2, none⟩ = some (.string y.cat) := by obtain ⟨d, rfl⟩ := hD; exact b1
            have HY := Lib.hid hy
            have j0 : (0 : Int) < (k : Int) := by omega
            have j1 : (0 : Int) ≤ (k : Int) - 1 := by omega
            have j2 : (k : Int) - 1 < (n : Int) := by omega
            have j3 : ((k : Int) - 1).toNat = k - 1 := by omega
            have hle := fun W => leq_any x.cat y.cat W
            clear hD b1 hy
            cases hB : Sr.lt y.cat x.cat with
            | true =>
              rw [hB] at hle
              have HU2 := Lib.hid (HU.out.next HX1.out HG.out fun z _ hz => by
                rw [HY.out] at hz; injection hz with hz; subst hz; exact hB)
              clear hB
              go_wp2_with fail
              go_quiet (first | (go_at_call 44; with_reducible exact Calls.quiet_of_same (N1.out _)) | (go_at_call 37; with_reducible exact Calls.quiet_of_same (N3.out _)))
              go_wp2
              go_roundw
              case rel => exact ⟨k + 1, by go_num, by omega, HD.out.more _, HU2.out⟩
              case measure => simp [intOf]; omega
            | false =>
              rw [hB] at hle
              have HB := Lib.hid (rate_step HX1.out HY.out k0 hB)
              have HZ0 : Hid (zoneB z = false) := Lib.hid (by rw [HZ.out, HB.out]; rfl)
              clear hB
              go_wp2_with fail
              go_quiet (first | (go_at_call 44; with_reducible exact Calls.quiet_of_same (N1.out _)) | (go_at_call 37; with_reducible exact Calls.quiet_of_same (N3.out _)))
              go_wp2
              go_ret
              exact ⟨by rw [HZ0.out]; rfl, HE.out _ (HD.out.more _)⟩
          · have j0 : ¬ (0 : Int) < (k : Int) := by omega
            have HU2 := Lib.hid (HU.out.next HX1.out HG.out fun z h => by omega)
            clear hD
            go_wp2_with fail
            go_quiet (first | (go_at_call 44; with_reducible exact Calls.quiet_of_same (N1.out _)) | (go_at_call 37; with_reducible exact Calls.quiet_of_same (N3.out _)))
            go_wp2
            go_roundw
            case rel => exact ⟨k + 1, by go_num, by omega, HD.out.more _, HU2.out⟩
            case measure => simp [intOf]; omega
    · obtain rfl : k = n := by omega
      have k1 : ¬ (k : Int) < (k : Int) := by omega
      have HG : Hid (ratesB z.rates = decide (k ≤ 40)) := Lib.hid (by
        have h1 := HU.out
        have h2 := HLn.out
        rw [← h2] at h1
        rw [h1.all, h2])
      have x2 : wr.cell? ⟨w.heap.size, 2, none⟩ = some (.int .i64 z.rest) := by obtain ⟨d, rfl⟩ := hD; exact HX.out.2.1
      have x3 : wr.cell? ⟨w.heap.size, 3, none⟩ = some (.int .i64 z.ship) := by obtain ⟨d, rfl⟩ := hD; exact HX.out.2.2
      have HD := Lib.hid hD
      clear hD
      by_cases h5 : k ≤ 40
      · have d5 : (k : Int) ≤ 40 := by omega
        rw [decide_eq_true h5] at HG
        cases n4 : (decide (0 ≤ z.rest) && decide (z.rest ≤ 10000)) with
        | false =>
          rw [n4] at N4
          have HZ0 : Hid (zoneB z = false) := Lib.hid (by rw [HZ.out, HG.out, n4]; rfl)
          clear n4
          go_wp2_with fail
          refine (N4.out _).mono ?_
          rintro e w2 ⟨rfl, rfl⟩
          go_wp2
          go_ret
          exact ⟨by rw [HZ0.out]; rfl, HE.out _ HD.out⟩
        | true =>
          rw [n4] at N4
          obtain ⟨b, hb⟩ : ∃ b, (decide (0 ≤ z.ship) && decide (z.ship ≤ 10000)) = b := ⟨_, rfl⟩
          rw [hb] at N5
          have HZ0 : Hid (zoneB z = b) := Lib.hid (by rw [HZ.out, HG.out, n4, hb]; rfl)
          clear n4 hb
          go_wp2_with fail
          refine (N4.out _).mono ?_
          rintro e w2 ⟨rfl, rfl⟩
          go_wp2_with fail
          refine (N5.out _).mono ?_
          rintro e w3 ⟨rfl, rfl⟩
          go_wp2
          go_ret
          exact ⟨by rw [HZ0.out]; rfl, HE.out _ HD.out⟩
      · have d5 : ¬ (k : Int) ≤ 40 := by omega
        rw [decide_eq_false h5] at HG
        have HZ0 : Hid (zoneB z = false) := Lib.hid (by rw [HZ.out, HG.out]; rfl)
        go_wp2
        go_ret
        exact ⟨by rw [HZ0.out]; rfl, HE.out _ HD.out⟩
theorem rkinds_any (A : Option Addr) (n c : Nat) (xs : List Int) (F : Nat → Prop) (w : World) (h : Row kInt w F A n xs) (hn : n ≤ 1000000000000) :
    Calls Tryz.prog 38 #[.slice A n c] w fun e w' => e = .returned (.bool (kindsB xs)) ∧ Hl.Drawn w w' := by
  have HH := Lib.hid h
  have HL := Lib.hid h.len
  clear h
  go_enter Tryz.func38, Tryz.ntmps38
  go_wp2
  go_loopw [3] (fun s3 wr => ∃ k : Nat, s3 = .int .i64 k ∧ k ≤ n ∧ Hl.Drawn w wr ∧ Hid (KUp xs k)) (fun s3 _ => n - (intOf s3).toNat)
  case atStart => exact ⟨0, rfl, by omega, ⟨0, rfl⟩, Lib.hid (KUp.begin _)⟩
  case round =>
    obtain ⟨k, rfl, hk, hD, HU⟩ := hrel
    have k0 : (0 : Int) ≤ (k : Int) := by omega
    by_cases hlt : k < n
    · have k1 : (k : Int) < (n : Int) := by omega
      obtain ⟨x, hx⟩ := HH.out.get hlt
      obtain ⟨g, o, rfl, _, _, hb, a0⟩ := row_int HH.out hx
      have c0 : wr.cell? ⟨g, o + k, none⟩ = some (.int .i64 x) := by obtain ⟨d, rfl⟩ := hD; exact a0
      have HX := Lib.hid hx
      have HD := Lib.hid hD
      clear hx a0 hb
      by_cases h1 : x < 1
      · have HB : Hid (kindsB xs = false) := Lib.hid (kindsB_no fun g => by have := g.each k x HX.out; omega)
        clear hD
        go_wp2
        go_ret
        exact ⟨by rw [HB.out]; rfl, HD.out⟩
      · by_cases h9 : 9 < x
        · have HB : Hid (kindsB xs = false) := Lib.hid (kindsB_no fun g => by have := g.each k x HX.out; omega)
          clear hD
          go_wp2
          go_ret
          exact ⟨by rw [HB.out]; rfl, HD.out⟩
        · have HA0 : Hid (∀ (i : Nat) (y : Int), i < 0 → xs[i]? = some y → y ≠ x) := Lib.hid fun i y hi => by omega
          obtain ⟨wo, hwo⟩ : ∃ wo : World, wo = wr := ⟨_, rfl⟩
          subst hwo
          clear hD
          go_wp2
          go_loopw [4] (fun s4 wi => ∃ j : Nat, s4 = .int .i64 j ∧ j ≤ k ∧ Hl.Drawn w wi ∧ Hid (∀ (i : Nat) (y : Int), i < j → xs[i]? = some y → y ≠ x)) (fun s4 _ => k - (intOf s4).toNat)
          case atStart => exact ⟨0, rfl, by omega, HD.out, HA0⟩
          case round =>
            clear HA0 c0
            obtain ⟨j, rfl, hj, hDi, hA⟩ := hrel
            have j0 : (0 : Int) ≤ (j : Int) := by omega
            by_cases hjk : j < k
            · have j1 : (j : Int) < (k : Int) := by omega
              have j2 : (j : Int) < (n : Int) := by omega
              obtain ⟨y, hy⟩ := HH.out.get (k := j) (by omega)
              obtain ⟨g2, o2, e2, _, _, _, b0⟩ := row_int HH.out hy
              injection e2 with e2
              injection e2 with e3 e4
              subst e3 e4
              obtain ⟨g3, o3, e5, _, _, _, b1⟩ := row_int HH.out HX.out
              injection e5 with e5
              injection e5 with e6 e7
              subst e6 e7
              have d0 : wr.cell? ⟨g, o + j, none⟩ = some (.int .i64 y) := by obtain ⟨d, rfl⟩ := hDi; exact b0
              have d1 : wr.cell? ⟨g, o + k, none⟩ = some (.int .i64 x) := by obtain ⟨d, rfl⟩ := hDi; exact b1
              have HY := Lib.hid hy
              have HDi := Lib.hid hDi
              clear hy b0 b1 hDi
              by_cases hxy : y = x
              · have e1 : (y == x) = true := beq_iff_eq.2 hxy
                have HB : Hid (kindsB xs = false) := Lib.hid (kindsB_no fun g => g.apart j k y x hjk HY.out HX.out hxy)
                have HXY := Lib.hid hxy
                clear hxy
                go_wp2_with fail
                go_quiet (fail)
                go_wp2
                go_ret
                exact ⟨by rw [HB.out]; rfl, HDi.out.more _⟩
              · have e1 : (y == x) = false := beq_eq_false_iff_ne.2 hxy
                have hA2 : Hid (∀ (i : Nat) (z : Int), i < j + 1 → xs[i]? = some z → z ≠ x) := Lib.hid fun i z hi hz => by
                  rcases Nat.lt_or_ge i j with h1 | h1
                  · exact hA.out i z h1 hz
                  · obtain rfl : i = j := by omega
                    rw [HY.out] at hz; injection hz with hz; subst hz; exact hxy
                go_wp2_with fail
                go_quiet (fail)
                go_wp2
                go_roundw
                case rel => exact ⟨j + 1, by go_num, by omega, HDi.out.more _, hA2⟩
                case measure => simp [intOf]; omega
            · obtain rfl : j = k := by omega
              have j1 : ¬ (j : Int) < (j : Int) := by omega
              have HU2 := Lib.hid (HU.out.next HX.out (by omega) hA.out)
              go_wp2
              go_roundw
              case rel => exact ⟨j + 1, by go_num, by omega, hDi, HU2⟩
              case measure => simp [intOf]; omega
    · obtain rfl : k = n := by omega
      have k1 : ¬ (k : Int) < (k : Int) := by omega
      have HB : Hid (kindsB xs = true) := Lib.hid (by
        have h1 := HU.out
        rw [← HL.out] at h1
        exact h1.all)
      go_wp2
      go_ret
      exact ⟨by rw [HB.out]; rfl, hD⟩
theorem rrate_any (z : Zon) (l : Zon.Lay) (s : ByteArray) (w : World) (h : Zon.Holds w (· < w.heap.size) z l) (hn : l.rates.n ≤ 1000000000000) :
    Calls Tryz.prog 25 #[.agg #[.string z.name, .slice l.rates.A l.rates.n l.rates.c, .int .i64 z.rest, .int .i64 z.ship], .string s] w fun e w' => e = .returned (.int .i64 (rateOf z.rates s z.rest)) ∧ Below w.heap.size w w' := by
  obtain ⟨W1, hW1⟩ : ∃ W1, w.alloc (.cells #[.string z.name, .slice l.rates.A l.rates.n l.rates.c, .int .i64 z.rest, .int .i64 z.ship] 41) = W1 := ⟨_, rfl⟩
  have hb1 : Below w.heap.size w W1 := by rw [← hW1]; exact (Below.refl _ _).alloc (Nat.le_refl _) _
  have hbox : Qu.Blk W1 w.heap.size 41 #[.string z.name, .slice l.rates.A l.rates.n l.rates.c, .int .i64 z.rest, .int .i64 z.ship] := by rw [← hW1]; exact Qu.Blk.new w _ _
  have HH := Lib.hid (h.rates.row.below hb1 (Nat.le_refl _))
  have HB1 := Lib.hid hb1
  have x1 := hbox.cell 1
  have x2 := hbox.cell 2
  have HLn := Lib.hid h.rates.row.len
  clear h hb1 hbox
  generalize hl : l.rates = sl at *
  obtain ⟨A, n, c⟩ := sl
  go_enter Tryz.func25, Tryz.ntmps25
  go_wp2
  clear hW1
  go_loopw [5] (fun s5 wr => ∃ k : Nat, s5 = .int .i64 k ∧ k ≤ n ∧ wr = W1 ∧ Hid (∀ (i : Nat) (x : CtR), i < k → z.rates[i]? = some x → Sr.same x.cat s = false)) (fun s5 _ => n - (intOf s5).toNat)
  case atStart => exact ⟨0, rfl, by omega, by trivial, Lib.hid fun i x hi => by omega⟩
  case round =>
    obtain ⟨k, rfl, hk, rfl, hE⟩ := hrel
    have k0 : (0 : Int) ≤ (k : Int) := by omega
    by_cases hlt : k < n
    · have k1 : (k : Int) < (n : Int) := by omega
      obtain ⟨x, hx⟩ := HH.out.get hlt
      obtain ⟨g, o, hA, _, _, hok, a0, a1⟩ := row_CtR HH.out hx
      subst hA
      have HX := Lib.hid hx
      have hs : (x.cat.toList == s.toList) = Sr.same x.cat s := rfl
      clear hx hok
      cases hB : Sr.same x.cat s with
      | true =>
        have HF : Hid (rateOf z.rates s z.rest = x.rate) := Lib.hid (by unfold rateOf; rw [find_at HX.out hB hE.out]; rfl)
        rw [hB] at hs
        clear hB
        go_wp2
        go_ret
        exact ⟨by rw [HF.out]; rfl, HB1.out⟩
      | false =>
        have HE2 : Hid (∀ (i : Nat) (y : CtR), i < k + 1 → z.rates[i]? = some y → Sr.same y.cat s = false) := Lib.hid fun i y hi hy => by
          rcases Nat.lt_or_ge i k with h1 | h1
          · exact hE.out i y h1 hy
          · obtain rfl : i = k := by omega
            rw [HX.out] at hy; injection hy with hy; subst hy; exact hB
        rw [hB] at hs
        clear hB
        go_wp2
        go_roundw
        case rel => exact ⟨k + 1, by go_num, by omega, by trivial, HE2⟩
        case measure => simp [intOf]; omega
    · obtain rfl : k = n := by omega
      have k1 : ¬ (k : Int) < (k : Int) := by omega
      have HF : Hid (rateOf z.rates s z.rest = z.rest) := Lib.hid (by
        unfold rateOf
        rw [find_none fun i y hy => hE.out i y (by have := (List.getElem?_eq_some_iff.1 hy).1; have h2 := HLn.out; omega) hy]; rfl)
      go_wp2
      go_ret
      exact ⟨by rw [HF.out]; rfl, HB1.out⟩
end Go.Proofs.YtfcmhgneijipgaaGreat.Ru
