/- Baskets: the document's Check, Gross, Units, Items. -/
import Derived.Test.YtdmpnkhgcggepaaBkR
import Derived.Test.YtdmpnkhgcggepaaApHU
import Derived.Test.YtdmpnkhgcggepaaPyI
set_option maxRecDepth 100000

set_option linter.unusedVariables false
namespace Go.Proofs.Ytdmpnkhgcggepaa.Bk
open Go.ChangeShapes Go.WideShapes Go.ChangeAt Go.RowKit
open Ap (Lin Unt kLin kUnt row_Lin row_Unt)
open It (Itm kItem row_item)
open Kd (Kind Row Own)

/-- A list while it is made: a row of the call's own. -/
structure Out {α : Type} (K : Kind α) (E : Nat) (w wr : World) (v : Value) (xs : List α) : Prop where
  own : Own K wr w.heap.size E (fun _ => False) v xs.length xs
  below : Below w.heap.size w wr

theorem Out.nil {α : Type} (K : Kind α) (E : Nat) {w wr : World} (h : Below w.heap.size w wr) : Out K E w wr (.slice none 0 0) [] := ⟨Own.nil _ _ _ _ _, h⟩

theorem Out.later {α : Type} {K : Kind α} {E : Nat} {w wr w' : World} {v : Value} {xs : List α} (h : Out K E w wr v xs) (hb : Below wr.heap.size wr w') : Out K E w w' v xs := ⟨h.own.later hb, h.below.trans (hb.mono h.below.size)⟩

theorem Out.push {α : Type} {K : Kind α} {E : Nat} {w wr w' : World} {v v' : Value} {xs : List α} {y : α} {L : Nat} (h : Out K E w wr v xs) (e : xs.length = L) (hown : Own K w' w.heap.size E (fun _ => False) v' (L + 1) (xs ++ [y])) (hgrow : wr.grownBy w' v.ownBlock) : Out K E w w' v' (xs ++ [y]) :=
  ⟨by rw [List.length_append, List.length_singleton, e]; exact hown, h.below.grown hgrow h.below.size fun i hi => (h.own.low i hi).1⟩

/-- What a call that makes a list tells. -/
def Told {α : Type} (K : Kind α) (E : Nat) (w : World) (e : Ending) (w' : World) (xs : List α) : Prop :=
  ∃ (A : Option Addr) (c : Nat), e = .returned (.slice A xs.length c) ∧ Own K w' w.heap.size E (fun _ => False) (.slice A xs.length c) xs.length xs ∧ Below w.heap.size w w'

theorem Out.told {α : Type} {K : Kind α} {E : Nat} {w wr : World} {v : Value} {xs : List α} (h : Out K E w wr v xs) : Told K E w (.returned v) wr xs := by
  obtain ⟨A, c, rfl⟩ := h.own.value
  exact ⟨A, c, rfl, h.own, h.below⟩

theorem rgross_any (A : Option Addr) (n c : Nat) (xs : List Lin) (F : Nat → Prop) (w : World) (h : Row kLin w F A n xs) (hn : n ≤ 1000000000000) :
    Calls Try.prog 15 #[.slice A n c] w fun e w' => e = .returned (.int .i64 (grossN xs)) ∧ Hl.Drawn w w' := by
  have HM := Lib.hid (may_any A n c xs F w h hn)
  have HH := Lib.hid h
  have HL := Lib.hid h.len
  clear h
  by_cases hm : mayE xs = 0
  · rw [hm] at HM
    have hM := may_iff.1 hm
    have HG : Hid (grossN xs = gsum xs) := Lib.hid (by unfold grossN; rw [if_pos hm])
    have hn2 := hM.few
    rw [HL.out] at hn2
    have HMy := Lib.hid hM
    clear hm hM
    go_enter Try.func15, Try.ntmps15
    go_wp2_with fail
    refine HM.out.mono ?_
    rintro e w2 ⟨rfl, hD0⟩
    have HD0 := Lib.hid hD0
    clear hD0
    go_wp2
    go_loopw [3, 4] (fun s3 s4 wr => ∃ j : Nat, s4 = .int .i64 j ∧ s3 = .int .i64 (gsum (xs.take j)) ∧ j ≤ n ∧ Hl.Drawn w wr) (fun _ s4 _ => n - (intOf s4).toNat)
    case atStart => exact ⟨0, rfl, rfl, by omega, HD0.out⟩
    case round =>
      clear HD0
      obtain ⟨j, rfl, rfl, hj, hD⟩ := hrel
      have jj : (0 : Int) ≤ (j : Int) := by omega
      have hp := HMy.out.fine.part j
      have hgr := HMy.out.gross
      by_cases hlt : j < n
      · obtain ⟨x, hx⟩ := HH.out.get hlt
        obtain ⟨g, o, rfl, _, _, hok, _, a1, a2⟩ := row_Lin HH.out hx
        have c1 : wr.cell? ⟨g, o + j * 3 + 1, none⟩ = some (.int .i64 x.qty) := by obtain ⟨d, rfl⟩ := hD; exact a1
        have c2 : wr.cell? ⟨g, o + j * 3 + 2, none⟩ = some (.int .i64 x.price) := by obtain ⟨d, rfl⟩ := hD; exact a2
        have c1d : ∀ d, (wr.drewN d).cell? ⟨g, o + j * 3 + 1, none⟩ = some (.int .i64 x.qty) := fun d => c1
        have c2d : ∀ d, (wr.drewN d).cell? ⟨g, o + j * 3 + 2, none⟩ = some (.int .i64 x.price) := fun d => c2
        have hfx := fine_iff.1 (HMy.out.fine j x hx)
        have hpr := line_most hfx.1 hfx.2.1 hfx.2.2.1 hfx.2.2.2
        have eg1 := gsum_next hx
        obtain ⟨G, hG⟩ : ∃ q, gsum (xs.take j) = q := ⟨_, rfl⟩
        obtain ⟨p, hP⟩ : ∃ p, x.qty * x.price = p := ⟨_, rfl⟩
        obtain ⟨G2, hG2⟩ : ∃ q, G + p = q := ⟨_, rfl⟩
        rw [hG, hP, hG2] at eg1
        rw [hP] at hpr
        rw [hG] at hp
        have w2 : IntKind.i64.wrap (x.qty * x.price) = p := by rw [hP]; exact IntWalk.i64_in _ (by omega)
        have w3 : IntKind.i64.wrap (G + p) = G2 := by rw [hG2]; exact IntWalk.i64_in _ (by omega)
        have HS := Lib.hid eg1
        simp only [hG]
        have k1 : (j : Int) < (n : Int) := by omega
        have HD := Lib.hid hD
        clear a1 a2 hx hok hfx hpr eg1 hG hP hG2 hD hp hgr
        go_wp2_with fail
        go_quiet (fail)
        go_wp2_with fail
        go_roundw
        case rel => exact ⟨j + 1, by go_num, by rw [HS.out], by omega, HD.out.more _⟩
        case measure => simp [intOf]; omega
      · have k1 : ¬ (j : Int) < (n : Int) := by omega
        obtain rfl : j = n := by omega
        have HB : Hid (grossN xs = gsum (xs.take j)) := Lib.hid (by
          have e : xs.take j = xs := List.take_of_length_le (by rw [HL.out]; omega)
          rw [e]; exact HG.out)
        clear hp hgr
        go_wp2
        go_ret
        exact ⟨by rw [HB.out]; rfl, hD⟩
  · have HG : Hid (grossN xs = 0) := Lib.hid (by unfold grossN; rw [if_neg hm])
    obtain ⟨m, hq⟩ : ∃ m, mayE xs = m := ⟨_, rfl⟩
    rw [hq] at HM hm
    have b1 : (m == 0) = false := by rw [beq_eq_false_iff_ne]; exact hm
    have b2 : (m != 0) = true := by rw [bne, b1]; rfl
    clear hq hm
    go_enter Try.func15, Try.ntmps15
    go_wp2_with fail
    refine HM.out.mono ?_
    rintro e w2 ⟨rfl, hD0⟩
    have HD0 := Lib.hid hD0
    clear hD0
    go_wp2
    go_ret
    exact ⟨by rw [HG.out]; rfl, HD0.out⟩

/-- How many there are while they are made. -/
theorem units_few {xs : List Lin} (h : May xs) {i : Nat} {x : Lin} (hx : xs[i]? = some x) {j : Nat} (hj : j ≤ x.qty.toNat) (u : Unt) : (flatU 0 (xs.take i) ++ List.replicate j u).length ≤ 100000 := by
  have h1 := flatU_length 0 (h.fine.take (i + 1))
  rw [flatU_next hx, List.length_append, lineU_length] at h1
  have h2 := (h.fine.part (i + 1)).2.1
  have h3 := h.units
  rw [List.length_append, List.length_replicate]
  omega

theorem flat_few {xs : List Lin} (h : May xs) (i : Nat) : (flatU 0 (xs.take i)).length ≤ 100000 := by
  have h1 := flatU_length 0 (h.fine.take i)
  have h2 := (h.fine.part i).2.1
  have h3 := h.units
  omega

theorem replicate_next {α : Type} (j : Nat) (u : α) : List.replicate (j + 1) u = List.replicate j u ++ [u] := List.replicate_succ' ..

set_option maxHeartbeats 1000000 in
theorem runits_any (A : Option Addr) (n c : Nat) (xs : List Lin) (w : World) (h : Row kLin w (· < w.heap.size) A n xs) (hn : n ≤ 1000000000000) :
    Calls Try.prog 18 #[.slice A n c] w fun e w' => Told kUnt 37 w e w' (unitsL xs) := by
  have HM := Lib.hid (may_any A n c xs _ w h hn)
  have HH := Lib.hid h
  have HL := Lib.hid h.len
  clear h
  by_cases hm : mayE xs = 0
  · rw [hm] at HM
    have hM := may_iff.1 hm
    have HG : Hid (unitsL xs = flatU 0 xs) := Lib.hid (by unfold unitsL; rw [if_pos hm])
    have hn2 := hM.few
    rw [HL.out] at hn2
    have HMy := Lib.hid hM
    clear hm hM
    go_enter Try.func18, Try.ntmps18
    go_wp2_with fail
    refine HM.out.mono ?_
    rintro e w2 ⟨rfl, hD0⟩
    have HO0 := Lib.hid (Out.nil kUnt 37 (hD0.below w.heap.size))
    clear hD0
    go_wp2
    go_loopw [3, 4] (fun s3 s4 wr => ∃ i : Nat, s4 = .int .i64 i ∧ i ≤ n ∧ Hid (Out kUnt 37 w wr s3 (flatU 0 (xs.take i)))) (fun _ s4 _ => n - (intOf s4).toNat)
    case atStart => exact ⟨0, rfl, by omega, Lib.hid (by rw [List.take_zero]; exact HO0.out)⟩
    case round =>
      clear HO0
      obtain ⟨i, rfl, hi, HO⟩ := hrel
      have ii : (0 : Int) ≤ (i : Int) := by omega
      by_cases hlt : i < n
      · obtain ⟨x, hx⟩ := HH.out.get hlt
        have hfx := fine_iff.1 (HMy.out.fine i x hx)
        obtain ⟨g, o, rfl, hg, _, hok, _, a1, a2⟩ := row_Lin HH.out hx
        obtain ⟨N, hN⟩ : ∃ N : Nat, x.qty = (N : Int) := ⟨x.qty.toNat, by omega⟩
        rw [hN] at a1
        have HA := Lib.hid (And.intro a1 (And.intro a2 hg))
        have HX := Lib.hid (And.intro hx (And.intro (show x.qty.toNat = N by omega) hok))
        have k1 : (i : Int) < (n : Int) := by omega
        have N1 : N ≤ 100000 := by omega
        clear a1 a2 hx hok hfx hg hN
        go_wp2
        go_loopw [3, 5] (fun s3 s5 wr => ∃ j : Nat, s5 = .int .i64 j ∧ j ≤ N ∧ Hid (Out kUnt 37 w wr s3 (flatU 0 (xs.take i) ++ List.replicate j ⟨(i : Int), x.price, true⟩))) (fun _ s5 _ => N - (intOf s5).toNat)
        case atStart => exact ⟨0, rfl, by omega, Lib.hid (by rw [List.replicate_zero, List.append_nil]; exact HO.out)⟩
        case round =>
          clear HO
          obtain ⟨j, rfl, hj, HO⟩ := hrel
          have jj : (0 : Int) ≤ (j : Int) := by omega
          obtain ⟨B, d, hv⟩ := HO.out.own.value
          have c1 : wr.cell? ⟨g, o + i * 3 + 1, none⟩ = some (.int .i64 (N : Int)) := (HO.out.below.cell (p := ⟨g, _, none⟩) HA.out.2.2).trans HA.out.1
          have c2 : wr.cell? ⟨g, o + i * 3 + 2, none⟩ = some (.int .i64 x.price) := (HO.out.below.cell (p := ⟨g, _, none⟩) HA.out.2.2).trans HA.out.2.1
          by_cases hjn : j < N
          · have k2 : (j : Int) < (N : Int) := by omega
            have hfew := units_few HMy.out HX.out.1 (j := j) (by rw [HX.out.2.1]; omega) (⟨(i : Int), x.price, true⟩ : Unt)
            have HR := Lib.hid (replicate_next j (⟨(i : Int), x.price, true⟩ : Unt))
            obtain ⟨us, hus⟩ : ∃ us, flatU 0 (xs.take i) ++ List.replicate j ⟨(i : Int), x.price, true⟩ = us := ⟨_, rfl⟩
            obtain ⟨L, hL⟩ : ∃ L, us.length = L := ⟨_, rfl⟩
            rw [hus] at HO hfew hv
            rw [hL] at hfew hv
            have HO2 := Lib.hid (show Out kUnt 37 w wr (.slice B L d) us by rw [← hv]; exact HO.out)
            have hlow := HO.out.below.size
            have HUs := Lib.hid (And.intro hus hL)
            subst hv
            clear HO hus hL
            have hown0 : Hid (Own kUnt wr w.heap.size 37 (fun _ => False) (.slice B L d) L us) := Lib.hid (by rw [← HUs.out.2]; exact (by rw [HUs.out.2]; exact (by have := HO2.out.own; rw [HUs.out.2] at this; exact this)))
            have hrep : Hid (kUnt.rep wr (fun _ => False) ⟨(i : Int), x.price, true⟩ [.int .i64 i, .int .i64 x.price, .bool true]) := Lib.hid (Ap.Unt_rep.2 ⟨rfl, ⟨by show -9223372036854775808 ≤ (i : Int) ∧ (i : Int) ≤ 9223372036854775807; omega, HX.out.2.2.price⟩⟩)
            go_wp2_with ((at_builtin; refine Kd.wpList_push (W := wr) (F := fun _ => False) (B := w.heap.size) (n := L) (v := .slice B L d) (xs := us) (y := ⟨(i : Int), x.price, true⟩) (cs := [.int .i64 i, .int .i64 x.price, .bool true]) Ap.Unt.row_t rfl _ _ rfl rfl rfl rfl hown0.out hrep.out (by omega) (by omega) hlow (fun _ h => h.elim) ?_; intro g1 cap w9 hown hgrow hfr; have HP := Lib.hid (HO2.out.push HUs.out.2 hown hgrow); clear hown hgrow hfr))
            go_roundw
            case rel => exact ⟨j + 1, by go_num, by omega, Lib.hid (by rw [HR.out, ← List.append_assoc, HUs.out.1]; exact HP.out)⟩
            case measure => simp [intOf]; omega
          · have k2 : ¬ (j : Int) < (N : Int) := by omega
            obtain rfl : j = N := by omega
            have HN : Hid (flatU 0 (xs.take (i + 1)) = flatU 0 (xs.take i) ++ List.replicate j ⟨(i : Int), x.price, true⟩) := Lib.hid (by rw [flatU_next HX.out.1]; unfold lineU; rw [HX.out.2.1])
            clear hv
            go_wp2
            go_roundw
            case rel => exact ⟨i + 1, by go_num, by omega, Lib.hid (by rw [HN.out]; exact HO.out)⟩
            case measure => simp [intOf]; omega
      · have k1 : ¬ (i : Int) < (n : Int) := by omega
        obtain rfl : i = n := by omega
        have HB : Hid (unitsL xs = flatU 0 (xs.take i)) := Lib.hid (by
          have e : xs.take i = xs := List.take_of_length_le (by rw [HL.out]; omega)
          rw [e]; exact HG.out)
        go_wp2
        go_ret
        rw [HB.out]
        exact HO.out.told
  · have HG : Hid (unitsL xs = []) := Lib.hid (by unfold unitsL; rw [if_neg hm])
    obtain ⟨m, hq⟩ : ∃ m, mayE xs = m := ⟨_, rfl⟩
    rw [hq] at HM hm
    have b1 : (m == 0) = false := by rw [beq_eq_false_iff_ne]; exact hm
    have b2 : (m != 0) = true := by rw [bne, b1]; rfl
    clear hq hm
    go_enter Try.func18, Try.ntmps18
    go_wp2_with fail
    refine HM.out.mono ?_
    rintro e w2 ⟨rfl, hD0⟩
    have HD0 := Lib.hid hD0
    clear hD0
    go_wp2
    go_ret
    rw [HG.out]
    exact (Out.nil kUnt 37 (HD0.out.below w.heap.size)).told

end Go.Proofs.Ytdmpnkhgcggepaa.Bk
