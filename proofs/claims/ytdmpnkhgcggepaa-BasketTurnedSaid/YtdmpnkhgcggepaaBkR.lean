/- Baskets: the document's own answers: whether lines may be, and what they cost. -/
import Derived.Test.YtdmpnkhgcggepaaBkM
import Derived.Test.YtdmpnkhgcggepaaGdR
import Derived.Test.YtdmpnkhgcggepaaPyA
set_option maxRecDepth 100000

set_option linter.unusedVariables false
namespace Go.Proofs.Ytdmpnkhgcggepaa.Bk
open Go.ChangeShapes Go.WideShapes Go.ChangeAt Go.RowKit
open Ap (Lin Unt kLin kUnt row_Lin row_Unt)
open It (Itm kItem row_item)
open Kd (Row Own)

/-- A line's numbers, as the test asks them. -/
theorem price_in (p : Int) : (decide (0 ≤ p) && decide (p ≤ 1000000000)) = !(decide (p < 0) || decide (1000000000 < p)) := by
  by_cases h1 : 0 ≤ p <;> by_cases h2 : p ≤ 1000000000 <;> simp [h1, h2] <;> omega

/-- What one more line comes to. -/
structure More (xs : List Lin) (k : Nat) (x : Lin) (q g p : Int) : Prop where
  q0 : 0 ≤ q ∧ q ≤ 100000
  g0 : 0 ≤ g ∧ g ≤ 10000000000000
  x0 : 0 ≤ x.qty ∧ x.qty ≤ 100000
  p0 : 0 ≤ p ∧ p ≤ 100000000000000

theorem over_range {xs : List Lin} (hf : Fine xs) (k : Nat) (h : 100000 < qsum (xs.take k) ∨ 10000000000000 < gsum (xs.take k)) : rangeE xs = 5 := by
  have := hf.part k
  unfold rangeE
  rw [if_pos (by omega)]

theorem may_any (A : Option Addr) (n c : Nat) (xs : List Lin) (F : Nat → Prop) (w : World) (h : Row kLin w F A n xs) (hn : n ≤ 1000000000000) :
    Calls Try.prog 33 #[.slice A n c] w fun e w' => e = .returned (.int .i64 (mayE xs)) ∧ Hl.Drawn w w' := by
  have hlen := h.len
  by_cases hm : 1000 < n
  · have k1 : (1000 : Int) < (n : Int) := by omega
    have HE : Hid (mayE xs = 6) := Lib.hid (addE_most (by omega))
    clear h hlen
    go_enter Try.func33, Try.ntmps33
    go_wp2
    go_ret
    exact ⟨by rw [HE.out]; rfl, ⟨0, rfl⟩⟩
  · have k1 : ¬ (1000 : Int) < (n : Int) := by omega
    have hm2 : n ≤ 1000 := by omega
    have HH := Lib.hid h
    have HL := Lib.hid hlen
    clear h hlen hm
    go_enter Try.func33, Try.ntmps33
    go_wp2
    clear k1
    go_loopw [3] (fun s3 wr => ∃ k : Nat, s3 = .int .i64 k ∧ k ≤ n ∧ Hl.Drawn w wr ∧ Hid (UpTo every xs k)) (fun s3 _ => n - (intOf s3).toNat)
    case atStart => exact ⟨0, rfl, by omega, ⟨0, rfl⟩, Lib.hid (UpTo.zero _ _)⟩
    case round =>
      obtain ⟨k, rfl, hk, hD, HU⟩ := hrel
      have kk : (0 : Int) ≤ (k : Int) := by omega
      by_cases hlt : k < n
      · obtain ⟨x, hx⟩ := HH.out.get hlt
        obtain ⟨g, o, rfl, _, _, hok, _, a1, a2⟩ := row_Lin HH.out hx
        have c1 : wr.cell? ⟨g, o + k * 3 + 1, none⟩ = some (.int .i64 x.qty) := by obtain ⟨d, rfl⟩ := hD; exact a1
        have c2 : wr.cell? ⟨g, o + k * 3 + 2, none⟩ = some (.int .i64 x.price) := by obtain ⟨d, rfl⟩ := hD; exact a2
        have HX := Lib.hid hx
        have k1 : (k : Int) < (n : Int) := by omega
        have N3 := Lib.hid (fun W => Py.rin_any x.price 1000000000 W)
        have HW : Hid (wrongB x = ((decide (x.qty < 0) || decide (100000 < x.qty)) || !(decide (0 ≤ x.price) && decide (x.price ≤ 1000000000)))) := Lib.hid (by rw [price_in, Bool.not_not]; rfl)
        have HD := Lib.hid hD
        clear a1 a2 hx hok hD
        by_cases b1 : x.qty < 0
        · have HB : Hid (mayE xs = 2) := Lib.hid (by
            rw [show mayE xs = addE every xs from rfl, addE_wrong (by rw [HL.out]; omega) HU.out HX.out (.inr (by rw [HW.out, decide_eq_true b1]; rfl))]; rfl)
          go_wp2_with fail
          go_ret
          exact ⟨by rw [HB.out]; rfl, HD.out⟩
        · by_cases b2 : 100000 < x.qty
          · have HB : Hid (mayE xs = 2) := Lib.hid (by
              rw [show mayE xs = addE every xs from rfl, addE_wrong (by rw [HL.out]; omega) HU.out HX.out (.inr (by rw [HW.out, decide_eq_true b2, Bool.or_true]; rfl))]; rfl)
            go_wp2_with fail
            go_ret
            exact ⟨by rw [HB.out]; rfl, HD.out⟩
          · cases n3 : (decide (0 ≤ x.price) && decide (x.price ≤ 1000000000)) with
            | false =>
              rw [n3] at N3
              have HB : Hid (mayE xs = 2) := Lib.hid (by
                rw [show mayE xs = addE every xs from rfl, addE_wrong (by rw [HL.out]; omega) HU.out HX.out (.inr (by rw [HW.out, n3]; simp))]; rfl)
              clear n3
              go_wp2_with fail
              refine (N3.out _).mono ?_
              rintro e w9 ⟨rfl, rfl⟩
              go_wp2_with fail
              go_ret
              exact ⟨by rw [HB.out]; rfl, HD.out⟩
            | true =>
              rw [n3] at N3
              have HN : Hid (UpTo every xs (k + 1)) := Lib.hid (HU.out.next HX.out rfl (by rw [HW.out, n3, decide_eq_false b1, decide_eq_false b2]; rfl))
              clear n3
              go_wp2_with fail
              refine (N3.out _).mono ?_
              rintro e w9 ⟨rfl, rfl⟩
              go_wp2_with fail
              go_roundw
              case rel => exact ⟨k + 1, by go_num, by omega, HD.out, HN⟩
              case measure => simp [intOf]; omega
      · have k1 : ¬ (k : Int) < (n : Int) := by omega
        obtain rfl : k = n := by omega
        have HT : Hid (mayE xs = rangeE xs) := Lib.hid (addE_range (by rw [HL.out]; omega) (by rw [HL.out]; exact HU.out))
        have HFi : Hid (Fine xs) := Lib.hid (UpTo.fine (sold := every) (by rw [HL.out]; exact HU.out))
        have HD := Lib.hid hD
        clear HU
        go_wp2
        clear k1 hD
        go_loopw [4, 5, 6] (fun s4 s5 s6 wr => ∃ j : Nat, s6 = .int .i64 j ∧ s4 = .int .i64 (qsum (xs.take j)) ∧ s5 = .int .i64 (gsum (xs.take j)) ∧ j ≤ k ∧ Hl.Drawn w wr ∧ qsum (xs.take j) ≤ 100000 ∧ gsum (xs.take j) ≤ 10000000000000) (fun _ _ s6 _ => k - (intOf s6).toNat)
        case atStart => exact ⟨0, rfl, rfl, rfl, by omega, HD.out, by simp [qsum], by simp [gsum]⟩
        case round =>
          clear HD
          obtain ⟨j, rfl, rfl, rfl, hj, hD, hq, hg⟩ := hrel
          have jj : (0 : Int) ≤ (j : Int) := by omega
          have hp := HFi.out.part j
          by_cases hlt : j < k
          · obtain ⟨x, hx⟩ := HH.out.get hlt
            obtain ⟨g, o, rfl, _, _, hok, _, a1, a2⟩ := row_Lin HH.out hx
            have c1 : wr.cell? ⟨g, o + j * 3 + 1, none⟩ = some (.int .i64 x.qty) := by obtain ⟨d, rfl⟩ := hD; exact a1
            have c2 : wr.cell? ⟨g, o + j * 3 + 2, none⟩ = some (.int .i64 x.price) := by obtain ⟨d, rfl⟩ := hD; exact a2
            have c1d : ∀ d, (wr.drewN d).cell? ⟨g, o + j * 3 + 1, none⟩ = some (.int .i64 x.qty) := fun d => c1
            have c2d : ∀ d, (wr.drewN d).cell? ⟨g, o + j * 3 + 2, none⟩ = some (.int .i64 x.price) := fun d => c2
            have hfx := fine_iff.1 (HFi.out j x hx)
            have hpr := line_most hfx.1 hfx.2.1 hfx.2.2.1 hfx.2.2.2
            have eq1 := qsum_next hx
            have eg1 := gsum_next hx
            have HO := Lib.hid (fun hh => over_range HFi.out (j + 1) hh)
            obtain ⟨Q, hQ⟩ : ∃ q, qsum (xs.take j) = q := ⟨_, rfl⟩
            obtain ⟨G, hG⟩ : ∃ q, gsum (xs.take j) = q := ⟨_, rfl⟩
            obtain ⟨p, hP⟩ : ∃ p, x.qty * x.price = p := ⟨_, rfl⟩
            obtain ⟨Q2, hQ2⟩ : ∃ q, Q + x.qty = q := ⟨_, rfl⟩
            obtain ⟨G2, hG2⟩ : ∃ q, G + p = q := ⟨_, rfl⟩
            rw [hQ, hQ2] at eq1
            rw [hG, hP, hG2] at eg1
            rw [hP] at hpr
            rw [hQ, hG] at hp
            have w1 : IntKind.i64.wrap (Q + x.qty) = Q2 := by rw [hQ2]; exact IntWalk.i64_in _ (by omega)
            have w2 : IntKind.i64.wrap (x.qty * x.price) = p := by rw [hP]; exact IntWalk.i64_in _ (by omega)
            have w3 : IntKind.i64.wrap (G + p) = G2 := by rw [hG2]; exact IntWalk.i64_in _ (by omega)
            have HS := Lib.hid (And.intro eq1 eg1)
            rw [eq1, eg1] at HO
            simp only [hQ, hG]
            have k1 : (j : Int) < (k : Int) := by omega
            have HD := Lib.hid hD
            clear a1 a2 hx hok hfx hpr eq1 eg1 hQ hG hP hQ2 hG2 hD hq hg hp
            by_cases b1 : 100000 < Q2
            · have HB := Lib.hid (HO.out (.inl b1))
              go_wp2_with fail
              go_quiet (fail)
              go_wp2_with fail
              go_ret
              exact ⟨by rw [HT.out, HB.out]; rfl, HD.out.more _⟩
            · by_cases b2 : 10000000000000 < G2
              · have HB := Lib.hid (HO.out (.inr b2))
                go_wp2_with fail
                go_quiet (fail)
                go_wp2_with fail
                go_ret
                exact ⟨by rw [HT.out, HB.out]; rfl, HD.out.more _⟩
              · go_wp2_with fail
                go_quiet (fail)
                go_wp2_with fail
                go_roundw
                case rel => exact ⟨j + 1, by go_num, by rw [HS.out.1], by rw [HS.out.2], by omega, HD.out.more _, by rw [HS.out.1]; omega, by rw [HS.out.2]; omega⟩
                case measure => simp [intOf]; omega
          · have k1 : ¬ (j : Int) < (k : Int) := by omega
            obtain rfl : j = k := by omega
            have HB : Hid (rangeE xs = 0) := Lib.hid (by
              have e : xs.take j = xs := List.take_of_length_le (by rw [HL.out]; omega)
              rw [e] at hq hg
              unfold rangeE
              rw [if_neg (by omega)])
            clear hp hq hg
            go_wp2
            go_ret
            exact ⟨by rw [HT.out, HB.out]; rfl, hD⟩

end Go.Proofs.Ytdmpnkhgcggepaa.Bk
