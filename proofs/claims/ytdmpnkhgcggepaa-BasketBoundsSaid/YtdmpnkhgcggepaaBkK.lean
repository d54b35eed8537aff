/- Law 14: awake, units; what is asked of lists. -/
import Derived.Test.YtdmpnkhgcggepaaBkB
import Derived.Test.YtdmpnkhgcggepaaBkV
import Derived.Test.YtdmpnkhgcggepaaBkP
set_option maxRecDepth 100000

set_option linter.unusedVariables false
namespace Go.Proofs.Ytdmpnkhgcggepaa.Bk
open Go.ChangeShapes Go.WideShapes Go.ChangeAt Go.RowKit
open Ap (Lin Unt kLin kUnt row_Lin row_Unt)
open It (Itm kItem row_item)
open Kd (Kind Row Own)

def aB : ByteArray := ⟨#[97]⟩
def bB : ByteArray := ⟨#[98]⟩
def awL : List Lin := [⟨aB, 2, 5⟩, ⟨bB, 1, 7⟩]
def awI : List Itm := [⟨aB, ⟨#[]⟩, 0, false⟩, ⟨bB, ⟨#[]⟩, 0, false⟩]

theorem aw1 : grossN awL = 17 := by decide +kernel
theorem aw2 : (unitsL awL).length = 3 := by decide +kernel
theorem aw3 : checkE awI awL = 0 := by decide +kernel
theorem aw4 : checkE [] awL = 7 := by decide +kernel
theorem aw5 : (gotL awI awL).length = 2 := by decide +kernel

/-- A block of lines, of the call's own. -/
theorem two_lines {W : World} {b : Nat} (h : Qu.Blk W b 28 #[.string aB, .int .i64 2, .int .i64 5, .string bB, .int .i64 1, .int .i64 7]) : Row kLin W (· < W.heap.size) (some ⟨b, 0, none⟩) 2 awL :=
  Own.read (B := b) (E := 28) (c := 2) (Kd.own_blk (cs := [.string aB, .int .i64 2, .int .i64 5, .string bB, .int .i64 1, .int .i64 7]) h (Nat.le_refl _) rfl ⟨[.string aB, .int .i64 2, .int .i64 5], _, rfl, Ap.Lin_rep.2 ⟨rfl, ⟨by decide, by decide, by decide⟩⟩, [.string bB, .int .i64 1, .int .i64 7], _, rfl, Ap.Lin_rep.2 ⟨rfl, ⟨by decide, by decide, by decide⟩⟩, rfl⟩ (Nat.le_refl _) (by decide) rfl rfl)

theorem two_items {W : World} {b : Nat} (h : Qu.Blk W b 31 #[.string aB, .string ⟨#[]⟩, .int .i64 0, .bool false, .string bB, .string ⟨#[]⟩, .int .i64 0, .bool false]) : Row kItem W (· < W.heap.size) (some ⟨b, 0, none⟩) 2 awI :=
  Own.read (B := b) (E := 31) (c := 2) (Kd.own_blk (cs := [.string aB, .string ⟨#[]⟩, .int .i64 0, .bool false, .string bB, .string ⟨#[]⟩, .int .i64 0, .bool false]) h (Nat.le_refl _) rfl ⟨[.string aB, .string ⟨#[]⟩, .int .i64 0, .bool false], _, rfl, It.item_rep.2 ⟨rfl, ⟨by decide, by decide, by decide, by decide⟩⟩, [.string bB, .string ⟨#[]⟩, .int .i64 0, .bool false], _, rfl, It.item_rep.2 ⟨rfl, ⟨by decide, by decide, by decide, by decide⟩⟩, rfl⟩ (Nat.le_refl _) (by decide) rfl rfl)

theorem no_items (W : World) : Row kItem W (· < W.heap.size) none 0 [] := Own.read (B := 0) (E := 31) (c := 0) (Own.nil _ _ _ _ _)

theorem row_on {α : Type} {K : Kind α} {w w' : World} {A : Option Addr} {n : Nat} {xs : List α} (h : Row K w (· < w.heap.size) A n xs) (hb : Below w.heap.size w w') : Row K w' (· < w'.heap.size) A n xs := (h.below hb (Nat.le_refl _)).lift hb.size

set_option maxHeartbeats 2000000 in
theorem awake_any (w : World) : Calls Try.prog 9 #[] w fun e w' => e = .returned (.bool true) ∧ Below w.heap.size w w' := by
  obtain ⟨W1, hW1⟩ : ∃ W1, w.alloc (.cells #[.string ⟨#[97]⟩, .int .i64 2, .int .i64 5, .string ⟨#[98]⟩, .int .i64 1, .int .i64 7] 28) = W1 := ⟨_, rfl⟩
  have hb1 : Below w.heap.size w W1 := by rw [← hW1]; exact (Below.refl _ _).alloc (Nat.le_refl _) _
  have hs1 : W1.heap.size = w.heap.size + 1 := by rw [← hW1]; simp
  have hl1 : Qu.Blk W1 w.heap.size 28 #[.string ⟨#[97]⟩, .int .i64 2, .int .i64 5, .string ⟨#[98]⟩, .int .i64 1, .int .i64 7] := by rw [← hW1]; exact Qu.Blk.new w _ _
  obtain ⟨W2, hW2⟩ : ∃ W2, W1.alloc (.cells #[.string ⟨#[97]⟩, .string ⟨#[]⟩, .int .i64 0, .bool false, .string ⟨#[98]⟩, .string ⟨#[]⟩, .int .i64 0, .bool false] 31) = W2 := ⟨_, rfl⟩
  have hb2 : Below W1.heap.size W1 W2 := by rw [← hW2]; exact (Below.refl _ _).alloc (Nat.le_refl _) _
  have hi2 : Qu.Blk W2 W1.heap.size 31 #[.string ⟨#[97]⟩, .string ⟨#[]⟩, .int .i64 0, .bool false, .string ⟨#[98]⟩, .string ⟨#[]⟩, .int .i64 0, .bool false] := by rw [← hW2]; exact Qu.Blk.new W1 _ _
  have HL := Lib.hid (two_lines (hl1.below hb2))
  rw [hs1] at hi2
  have HI := Lib.hid (two_items hi2)
  have HB := Lib.hid (hb1.trans (hb2.mono hb1.size))
  have H1 := Lib.hid (gross_any _ 2 2 _ W2 HL.out (by omega))
  rw [aw1] at H1
  have hw1 := Lib.hid hW1
  have hw2 := Lib.hid hW2
  clear hb1 hl1 hb2 hi2 hW1 hW2 hs1
  go_enter Try.func9, Try.ntmps9
  go_upto_region 3 with (fail)
  rw [hw1.out, hw2.out]
  clear hw1 hw2
  go_wp2_with fail
  refine H1.out.mono ?_
  rintro e w3 ⟨rfl, hb3⟩
  have HL3 := Lib.hid (row_on HL.out hb3)
  have HI3 := Lib.hid (row_on HI.out hb3)
  have HB3 := Lib.hid (HB.out.trans (hb3.mono HB.out.size))
  have H2 := Lib.hid (units_any _ 2 2 _ w3 HL3.out (by omega))
  clear hb3 H1
  go_wp2_with fail
  refine H2.out.mono ?_
  rintro e w4 ⟨A4, c4, rfl, _, hb4⟩
  simp only [aw2]
  have HL4 := Lib.hid (row_on HL3.out hb4)
  have HI4 := Lib.hid (row_on HI3.out hb4)
  have HB4 := Lib.hid (HB3.out.trans (hb4.mono HB3.out.size))
  have H3 := Lib.hid (check_any _ 2 2 _ _ 2 2 _ w4 HI4.out (by omega) (by omega) HL4.out (by omega))
  rw [aw3] at H3
  clear hb4 H2
  go_wp2_with fail
  refine H3.out.mono ?_
  rintro e w5 ⟨rfl, hb5⟩
  have HL5 := Lib.hid (row_on HL4.out hb5)
  have HI5 := Lib.hid (row_on HI4.out hb5)
  have HB5 := Lib.hid (HB4.out.trans (hb5.mono HB4.out.size))
  have H4 := Lib.hid (check_any none 0 0 [] _ 2 2 _ w5 (no_items w5) (by omega) (by omega) HL5.out (by omega))
  rw [aw4] at H4
  clear hb5 H3
  go_wp2_with fail
  refine H4.out.mono ?_
  rintro e w6 ⟨rfl, hb6⟩
  have HL6 := Lib.hid (row_on HL5.out hb6)
  have HI6 := Lib.hid (row_on HI5.out hb6)
  have HB6 := Lib.hid (HB5.out.trans (hb6.mono HB5.out.size))
  have H5 := Lib.hid (items_any _ 2 2 _ _ 2 2 _ w6 HI6.out (by omega) (by omega) HL6.out (by omega))
  clear hb6 H4
  go_wp2_with fail
  refine H5.out.mono ?_
  rintro e w7 ⟨A7, c7, rfl, _, hb7⟩
  simp only [aw5]
  have HB7 := Lib.hid (HB6.out.trans (hb7.mono HB6.out.size))
  clear hb7 H5
  go_wp2
  go_ret
  exact ⟨rfl, HB7.out⟩

/-- What units tells: some number. -/
def UnitsTold (w : World) (e : Ending) (w' : World) : Prop := ∃ v : Int, e = .returned (.int .i64 v) ∧ 0 ≤ v ∧ v ≤ 3000 ∧ Below w.heap.size w w'

theorem units_told (A : Option Addr) (n c : Nat) (xs : List Lin) (F : Nat → Prop) (w : World) (h : Row kLin w F A n xs) (hn : n ≤ 1000000000000) :
    Calls Try.prog 8 #[.slice A n c] w fun e w' => UnitsTold w e w' := by
  have HH := Lib.hid h
  clear h
  go_enter Try.func8, Try.ntmps8
  go_wp2
  go_loopw [3, 4] (fun s3 s4 wr => ∃ (k : Nat) (v : Int), s4 = .int .i64 k ∧ s3 = .int .i64 v ∧ k ≤ n ∧ 0 ≤ v ∧ v ≤ 3000 ∧ Hl.Drawn w wr) (fun _ s4 _ => n - (intOf s4).toNat)
  case atStart => exact ⟨0, 0, rfl, rfl, by omega, by omega, by omega, ⟨0, rfl⟩⟩
  case round =>
    obtain ⟨k, v, rfl, rfl, hk, v0, v1, hD⟩ := hrel
    have kk : (0 : Int) ≤ (k : Int) := by omega
    by_cases hlt : k < n
    · obtain ⟨x, hx⟩ := HH.out.get hlt
      obtain ⟨g, o, rfl, _, _, hok, _, a1, _⟩ := row_Lin HH.out hx
      have c1 : wr.cell? ⟨g, o + k * 3 + 1, none⟩ = some (.int .i64 x.qty) := by obtain ⟨d, rfl⟩ := hD; exact a1
      obtain ⟨q, hq⟩ : ∃ q, x.qty = q := ⟨_, rfl⟩
      rw [hq] at c1
      have k1 : (k : Int) < (n : Int) := by omega
      have HD := Lib.hid hD
      clear hD a1 hx hok hq
      by_cases h0 : 0 < q
      · obtain ⟨r, hr⟩ : ∃ r : Int, min q 3000 = r := ⟨_, rfl⟩
        obtain ⟨s, hs⟩ : ∃ s : Int, v + r = s := ⟨_, rfl⟩
        obtain ⟨t, ht⟩ : ∃ t : Int, min s 3000 = t := ⟨_, rfl⟩
        have e1 : (if q < 3000 then q else 3000) = r := by omega
        have e2 : (if 3000 < q then 3000 else q) = r := by omega
        have e3 : IntKind.i64.wrap (v + r) = s := by rw [hs]; exact IntWalk.i64_in _ (by omega)
        have e4 : (if s < 3000 then s else 3000) = t := by omega
        have e5 : (if 3000 < s then 3000 else s) = t := by omega
        have t0 : 0 ≤ t ∧ t ≤ 3000 := by omega
        clear hr hs ht
        go_wp2
        go_roundw
        case rel => exact ⟨k + 1, t, by go_num, rfl, by omega, t0.1, t0.2, HD.out⟩
        case measure => simp [intOf]; omega
      · go_wp2
        go_roundw
        case rel => exact ⟨k + 1, v, by go_num, rfl, by omega, v0, v1, HD.out⟩
        case measure => simp [intOf]; omega
    · have k1 : ¬ (k : Int) < (n : Int) := by omega
      go_wp2
      go_ret
      exact ⟨v, rfl, v0, v1, hD.below _⟩

end Go.Proofs.Ytdmpnkhgcggepaa.Bk
