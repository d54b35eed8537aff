/- Baskets: the landed Check, Gross, Items. -/
import Derived.Test.YtdmpnkhgcggepaaBkA
import Derived.Test.YtdmpnkhgcggepaaBkT
set_option maxRecDepth 100000

set_option linter.unusedVariables false
namespace Go.Proofs.Ytdmpnkhgcggepaa.Bk
open Go.ChangeShapes Go.WideShapes Go.ChangeAt Go.RowKit
open Ap (Lin Unt kLin kUnt row_Lin row_Unt)
open It (Itm kItem row_item)
open Kd (Kind Row Own)

theorem check_any (A : Option Addr) (n c : Nat) (its : List Itm) (B : Option Addr) (m d : Nat) (xs : List Lin) (w : World) (hA : Row kItem w (· < w.heap.size) A n its) (hc : n ≤ c) (hn : n ≤ 1000000000000) (h : Row kLin w (· < w.heap.size) B m xs) (hm : m ≤ 1000000000000) :
    Calls Try.prog 12 #[.slice A n c, .slice B m d] w fun e w' => e = .returned (.int .i64 (checkE its xs)) ∧ Below w.heap.size w w' := by
  obtain ⟨W1, hW1⟩ : ∃ W1, w.alloc (.cells #[.slice A n c] 22) = W1 := ⟨_, rfl⟩
  have hb1 : Below w.heap.size w W1 := by rw [← hW1]; exact (Below.refl _ _).alloc (Nat.le_refl _) _
  have hbx : Qu.Blk W1 w.heap.size 22 #[.slice A n c] := by rw [← hW1]; exact Qu.Blk.new w _ _
  have HQ := Lib.hid (add_items B m d xs W1 ((h.below hb1 (Nat.le_refl _)).lift hb1.size) hm A n c its w.heap.size ((hA.below hb1 (Nat.le_refl _)).lift hb1.size) hc hn (hbx.cell 0) hbx.lt)
  obtain ⟨e9, he9⟩ : ∃ e9, addE (soldB its) xs = e9 := ⟨_, rfl⟩
  obtain ⟨u9, hu9⟩ : ∃ u9, sumU (soldB its) xs = u9 := ⟨_, rfl⟩
  obtain ⟨v9, hv9⟩ : ∃ v9, sumG (soldB its) xs = v9 := ⟨_, rfl⟩
  rw [he9, hu9, hv9] at HQ
  have HE : Hid (checkE its xs = e9) := Lib.hid he9
  have HB1 := Lib.hid hb1
  clear h hA hb1 hbx he9 hu9 hv9
  go_enter Try.func12, Try.ntmps12
  go_wp2_with fail
  clear hW1
  refine HQ.out.mono ?_
  rintro e w2 ⟨rfl, hb2⟩
  have HB2 := Lib.hid ((HB1.out.trans (hb2.mono HB1.out.size)).trans ((Below.refl _ _).alloc (Nat.le_refl _) (.cells #[.int .i64 u9, .int .i64 v9] 53) |>.mono (HB1.out.trans (hb2.mono HB1.out.size)).size))
  clear hb2
  go_wp2
  go_ret
  exact ⟨by rw [HE.out]; rfl, HB2.out⟩

theorem gross_any (A : Option Addr) (n c : Nat) (xs : List Lin) (w : World) (h : Row kLin w (· < w.heap.size) A n xs) (hn : n ≤ 1000000000000) :
    Calls Try.prog 14 #[.slice A n c] w fun e w' => e = .returned (.int .i64 (grossN xs)) ∧ Below w.heap.size w w' := by
  have HQ := Lib.hid (add_every A n c xs w h hn)
  have HG : Hid (grossN xs = sumG every xs) := Lib.hid rfl
  obtain ⟨u9, hu9⟩ : ∃ u9, sumU every xs = u9 := ⟨_, rfl⟩
  obtain ⟨v9, hv9⟩ : ∃ v9, sumG every xs = v9 := ⟨_, rfl⟩
  have HZ : Hid (addE every xs ≠ 0 → v9 = 0) := Lib.hid fun h1 => by rw [← hv9]; unfold sumG; rw [if_neg h1]
  rw [hu9, hv9] at HQ
  rw [hv9] at HG
  clear hu9 hv9 h
  by_cases hz : addE every xs = 0
  · rw [hz] at HQ
    clear hz
    go_enter Try.func14, Try.ntmps14
    go_wp2_with fail
    refine HQ.out.mono ?_
    rintro e w2 ⟨rfl, hb2⟩
    have HB2 := Lib.hid (hb2.trans ((Below.refl _ _).alloc (Nat.le_refl _) (.cells #[.int .i64 u9, .int .i64 v9] 53) |>.mono hb2.size))
    clear hb2
    go_wp2
    go_ret
    exact ⟨by rw [HG.out]; rfl, HB2.out⟩
  · have HZ0 := Lib.hid (HZ.out hz)
    obtain ⟨e9, he9⟩ : ∃ e9, addE every xs = e9 := ⟨_, rfl⟩
    rw [he9] at HQ hz
    have b1 : (e9 == 0) = false := by rw [beq_eq_false_iff_ne]; exact hz
    have b2 : (e9 != 0) = true := by rw [bne, b1]; rfl
    clear he9 hz
    go_enter Try.func14, Try.ntmps14
    go_wp2_with fail
    refine HQ.out.mono ?_
    rintro e w2 ⟨rfl, hb2⟩
    have HB2 := Lib.hid (hb2.trans ((Below.refl _ _).alloc (Nat.le_refl _) (.cells #[.int .i64 u9, .int .i64 v9] 53) |>.mono hb2.size))
    clear hb2
    go_wp2
    go_ret
    exact ⟨by rw [HG.out, HZ0.out]; rfl, HB2.out⟩

/-- A list made with room. -/
theorem made_out {α : Type} {K : Kind α} {P : Program} {t e : TypeId} {z : Value} {S b : Nat} (R : Kd.RowT P K t e z S b) (n : Nat) (hn : b * n ≤ 281474976710656) (hn2 : n ≤ 1000000000000) :
    ∃ M : Array Value, (∀ W : World, (Instr.makeSlice t (.int .i64 0) (.int .i64 (n : Int))).run P W = .ok (.slice (some ⟨W.heap.size, 0, none⟩) 0 n) (W.alloc (.cells M e))) ∧
      ∀ (w W : World), Below w.heap.size w W → Out K e w (W.alloc (.cells M e)) (.slice (some ⟨W.heap.size, 0, none⟩) 0 n) [] := by
  obtain ⟨i0, hi0, hz0, hz1, hz2⟩ := info_parts R.info
  refine ⟨madeCells z.cells (n * S), fun W => ?_, fun w W hb => ⟨⟨rfl, [], ?_, rfl⟩, hb.alloc hb.size _⟩⟩
  · have h2 : ((b * n : Nat) : Int) ≤ 281474976710656 := by omega
    have h3 : (i0.bytes : Int) * (n : Int) ≤ 281474976710656 := by rw [hz2]; rw [Int.natCast_mul] at h2; exact h2
    have hr := run_make (P := P) W t e i0 _ R.ut hi0 hz0 .i64 .i64 0 (n : Int) (by omega) (by omega) h3 (by omega)
    rw [hz1] at hr
    rw [Int.toNat_natCast] at hr
    exact hr
  · rw [R.size]
    exact World.ownsRow_made W _ n hb.size (by unfold maxLen; omega) (by rw [size_madeCells])

set_option maxHeartbeats 1000000 in
theorem items_any (A : Option Addr) (n c : Nat) (its : List Itm) (B : Option Addr) (m d : Nat) (xs : List Lin) (w : World) (hA : Row kItem w (· < w.heap.size) A n its) (hc : n ≤ c) (hn : n ≤ 1000000000000) (h : Row kLin w (· < w.heap.size) B m xs) (hm : m ≤ 1000000) :
    Calls Try.prog 20 #[.slice A n c, .slice B m d] w fun e w' => Told kItem 31 w e w' (gotL its xs) := by
  have HH := Lib.hid h
  have HI := Lib.hid hA
  have HL := Lib.hid h.len
  have HLi := Lib.hid hA.len
  obtain ⟨M, hM1, hM2⟩ := made_out Py.row_item_t m (by omega) (by omega)
  have HO0 := Lib.hid (hM2 w w (Below.refl _ _))
  have hmk := hM1 w
  clear h hA hM1 hM2
  go_enter Try.func20, Try.ntmps20
  go_wp2
  go_loopw [5, 14] (fun s5 s14 wr => ∃ (k : Nat) (l : List Itm), s14 = .int .i64 k ∧ k ≤ m ∧ Hid (itemsL its (xs.take k) = some l) ∧ Hid (Out kItem 31 w wr s5 l)) (fun _ s14 _ => m - (intOf s14).toNat)
  case atStart => exact ⟨0, [], rfl, by omega, Lib.hid (by rw [List.take_zero]; rfl), HO0⟩
  case round =>
    clear HO0 hmk
    obtain ⟨k, l, rfl, hk, HG, HO⟩ := hrel
    have kk : (0 : Int) ≤ (k : Int) := by omega
    by_cases hlt : k < m
    · obtain ⟨x, hx⟩ := HH.out.get hlt
      obtain ⟨g, o, rfl, hg, _, hok, a0, a1, a2⟩ := row_Lin HH.out hx
      have c0 : wr.cell? ⟨g, o + k * 3, none⟩ = some (.string x.sku) := (HO.out.below.cell (p := ⟨g, _, none⟩) hg).trans a0
      have c1 : wr.cell? ⟨g, o + k * 3 + 1, none⟩ = some (.int .i64 x.qty) := (HO.out.below.cell (p := ⟨g, _, none⟩) hg).trans a1
      have c2 : wr.cell? ⟨g, o + k * 3 + 2, none⟩ = some (.int .i64 x.price) := (HO.out.below.cell (p := ⟨g, _, none⟩) hg).trans a2
      have HX := Lib.hid hx
      have k1 : (k : Int) < (m : Int) := by omega
      obtain ⟨W2, hW2⟩ : ∃ W2, wr.alloc (.cells #[.string x.sku, .int .i64 x.qty, .int .i64 x.price] 28) = W2 := ⟨_, rfl⟩
      obtain ⟨hb2, hbx⟩ := box_new x hW2
      have HO2 := Lib.hid (HO.out.later hb2)
      have HBx := Lib.hid hbx
      have hw2 := Lib.hid hW2
      have hIw := (HI.out.below HO2.out.below (Nat.le_refl _)).lift HO2.out.below.size
      have HFi := Lib.hid (Gd.find_any A n c its x.sku _ W2 hIw (fun _ h => h) hc hn)
      obtain ⟨z, hz⟩ : ∃ z, Gd.find x.sku its = z := ⟨_, rfl⟩
      have hzi := Gd.find_in x.sku its
      have hS : soldB its x.sku = decide (0 ≤ z) := by rw [← hz]; rfl
      rw [hz] at HFi hzi
      have HS := Lib.hid (And.intro hS hz)
      rw [HLi.out] at hzi
      have hL : l.length = k := by rw [itemsL_length HG.out, List.length_take, HL.out]; omega
      have HLl := Lib.hid hL
      obtain ⟨C, e5, hv⟩ := HO.out.own.value
      rw [hL] at hv
      subst hv
      clear a0 a1 a2 hx hok hg hb2 hbx hW2 hIw hz hS hL
      go_upto_region 5 with (fail)
      try rw [hw2.out]
      have e0 := HBx.out.cell 0
      clear hw2 c0 c1 c2
      by_cases z0 : z < 0
      · have HB : Hid (gotL its xs = []) := Lib.hid (by
          unfold gotL
          rw [itemsL_bad HX.out (by rw [HS.out.1, decide_eq_false (by omega)])]
          rfl)
        clear hzi
        go_wp2_with fail
        refine HFi.out.mono ?_
        rintro e w9 ⟨rfl, hD2⟩
        have HW := Lib.hid (HO2.out.below.trans (hD2.mono HO2.out.below.size))
        clear hD2 e0
        go_wp2_with fail
        go_ret
        rw [HB.out]
        exact (Out.nil kItem 31 HW.out).told
      · obtain ⟨t, ht⟩ : ∃ t : Nat, z = (t : Int) := ⟨z.toNat, by omega⟩
        subst ht
        have htn : t < n := by omega
        obtain ⟨y, hy⟩ := HI.out.get htn
        obtain ⟨g2, o2, rfl, hg2, _, hoy, b0, b1, b2, b3⟩ := row_item HI.out hy
        have HN : Hid (itemsL its (xs.take (k + 1)) = some (l ++ [y])) := Lib.hid (itemsL_next HX.out HG.out (by rw [HS.out.1, decide_eq_true (by omega)]) (by rw [HS.out.2]; exact hy))
        have HY := Lib.hid (And.intro b0 (And.intro b1 (And.intro b2 (And.intro b3 (And.intro hg2 hoy)))))
        have t0 : (0 : Int) ≤ (t : Int) := by omega
        have t1 : (t : Int) < (n : Int) := by omega
        clear hzi hy b0 b1 b2 b3 hg2 hoy
        go_wp2_with fail
        refine HFi.out.mono ?_
        rintro e w9 ⟨rfl, hD2⟩
        have HO3 := Lib.hid (HO2.out.later hD2)
        have hlow := HO3.out.below.size
        have d0 : w9.cell? ⟨g2, o2 + t * 4, none⟩ = some (.string y.sku) := (HO3.out.below.cell (p := ⟨g2, _, none⟩) HY.out.2.2.2.2.1).trans HY.out.1
        have d1 : w9.cell? ⟨g2, o2 + t * 4 + 1, none⟩ = some (.string y.cat) := (HO3.out.below.cell (p := ⟨g2, _, none⟩) HY.out.2.2.2.2.1).trans HY.out.2.1
        have d2 : w9.cell? ⟨g2, o2 + t * 4 + 2, none⟩ = some (.int .i64 y.price) := (HO3.out.below.cell (p := ⟨g2, _, none⟩) HY.out.2.2.2.2.1).trans HY.out.2.2.1
        have d3 : w9.cell? ⟨g2, o2 + t * 4 + 3, none⟩ = some (.bool y.fin) := (HO3.out.below.cell (p := ⟨g2, _, none⟩) HY.out.2.2.2.2.1).trans HY.out.2.2.2.1
        have hown0 : Hid (Own kItem w9 w.heap.size 31 (fun _ => False) (.slice C k e5) k l) := Lib.hid (by have := HO3.out.own; rw [HLl.out] at this; exact this)
        have hrep : Hid (kItem.rep w9 (fun _ => False) y [.string y.sku, .string y.cat, .int .i64 y.price, .bool y.fin]) := Lib.hid (It.item_rep.2 ⟨rfl, HY.out.2.2.2.2.2⟩)
        clear hD2 e0
        go_wp2_with ((at_builtin; refine Kd.wpList_push (W := w9) (F := fun _ => False) (B := w.heap.size) (n := k) (v := .slice C k e5) (xs := l) (y := y) (cs := [.string y.sku, .string y.cat, .int .i64 y.price, .bool y.fin]) Py.row_item_t rfl _ _ rfl rfl rfl rfl hown0.out hrep.out (by omega) (by omega) hlow (fun _ h => h.elim) ?_; intro g1 cap w' hown hgrow hfr; have HP := Lib.hid (HO3.out.push HLl.out hown hgrow); clear hown hgrow hfr))
        go_roundw
        case rel => exact ⟨k + 1, l ++ [y], by go_num, by omega, HN, HP⟩
        case measure => simp [intOf]; omega
    · have k1 : ¬ (k : Int) < (m : Int) := by omega
      obtain rfl : k = m := by omega
      have HB : Hid (gotL its xs = l) := Lib.hid (by
        have e : xs.take k = xs := List.take_of_length_le (by rw [HL.out]; omega)
        have h1 := HG.out
        rw [e] at h1
        unfold gotL
        rw [h1]; rfl)
      go_wp2
      go_ret
      rw [HB.out]
      exact HO.out.told

end Go.Proofs.Ytdmpnkhgcggepaa.Bk
