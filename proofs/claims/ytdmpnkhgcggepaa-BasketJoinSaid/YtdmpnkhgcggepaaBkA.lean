/- Baskets: the landed wrong, whatever, Check's closure, add. (made by wip/gen-add.py) -/
import Derived.Test.YtdmpnkhgcggepaaBkS
import Derived.Test.YtdmpnkhgcggepaaGdS
import Derived.Laws.EntriesVeiled
set_option maxRecDepth 100000

set_option linter.unusedVariables false
namespace Go.Proofs.Ytdmpnkhgcggepaa.Bk
open Go.ChangeShapes Go.WideShapes Go.ChangeAt Go.RowKit
open Ap (Lin Unt kLin kUnt row_Lin row_Unt)
open It (Itm kItem row_item)
open Kd (Kind Row Own)

theorem wrong_any (x : Lin) (w : World) : Calls Try.prog 44 #[.agg #[.string x.sku, .int .i64 x.qty, .int .i64 x.price]] w fun e w' => e = .returned (.bool (wrongB x)) ∧ Below w.heap.size w w' := by
  obtain ⟨W1, hW1⟩ : ∃ W1, w.alloc (.cells #[.string x.sku, .int .i64 x.qty, .int .i64 x.price] 28) = W1 := ⟨_, rfl⟩
  have hb1 : Below w.heap.size w W1 := by rw [← hW1]; exact (Below.refl _ _).alloc (Nat.le_refl _) _
  have hbox : Qu.Blk W1 w.heap.size 28 #[.string x.sku, .int .i64 x.qty, .int .i64 x.price] := by rw [← hW1]; exact Qu.Blk.new w _ _
  have c1 := hbox.cell 1
  have c2 := hbox.cell 2
  have HB := Lib.hid hb1
  have HW : Hid (wrongB x = ((decide (x.qty < 0) || decide (100000 < x.qty)) || (decide (x.price < 0) || decide (1000000000 < x.price)))) := Lib.hid rfl
  clear hb1 hbox
  by_cases b1 : x.qty < 0
  · rw [decide_eq_true b1] at HW
    go_enter Try.func44, Try.ntmps44
    go_wp2
    go_ret
    exact ⟨by rw [HW.out]; rfl, HB.out⟩
  · rw [decide_eq_false b1] at HW
    by_cases b2 : 100000 < x.qty
    · rw [decide_eq_true b2] at HW
      go_enter Try.func44, Try.ntmps44
      go_wp2
      go_ret
      exact ⟨by rw [HW.out]; rfl, HB.out⟩
    · rw [decide_eq_false b2] at HW
      by_cases b3 : x.price < 0
      · rw [decide_eq_true b3] at HW
        go_enter Try.func44, Try.ntmps44
        go_wp2
        go_ret
        exact ⟨by rw [HW.out]; rfl, HB.out⟩
      · rw [decide_eq_false b3] at HW
        by_cases b4 : 1000000000 < x.price
        · rw [decide_eq_true b4] at HW
          go_enter Try.func44, Try.ntmps44
          go_wp2
          go_ret
          exact ⟨by rw [HW.out]; rfl, HB.out⟩
        · rw [decide_eq_false b4] at HW
          go_enter Try.func44, Try.ntmps44
          go_wp2
          go_ret
          exact ⟨by rw [HW.out]; rfl, HB.out⟩

theorem whatever_any (s : ByteArray) (w : World) : Calls Try.prog 34 #[.string s] w fun e w' => e = .returned (.bool (every s)) ∧ Below w.heap.size w w' := by
  go_enter Try.func34, Try.ntmps34
  go_wp2
  go_ret
  exact ⟨rfl, Below.refl _ _⟩

theorem sold_any (A : Option Addr) (n c : Nat) (its : List Itm) (bx : Nat) (s : ByteArray) (w : World) (h : Row kItem w (· < w.heap.size) A n its) (hc : n ≤ c) (hn : n ≤ 1000000000000) (hb : w.cell? ⟨bx, 0, none⟩ = some (.slice A n c)) :
    Calls Try.prog 29 #[.string s, .pointer (some ⟨bx, 0, none⟩)] w fun e w' => e = .returned (.bool (soldB its s)) ∧ Below w.heap.size w w' := by
  have HFi := Lib.hid (Gd.find_any A n c its s _ w h (fun _ h => h) hc hn)
  obtain ⟨z, hz⟩ : ∃ z, Gd.find s its = z := ⟨_, rfl⟩
  have HS : Hid (soldB its s = decide (0 ≤ z)) := Lib.hid (by rw [← hz]; rfl)
  rw [hz] at HFi
  clear h hz
  go_enter Try.func29, Try.ntmps29
  go_wp2_with fail
  refine HFi.out.mono ?_
  rintro e w2 ⟨rfl, hb2⟩
  have HB := Lib.hid hb2
  clear hb2
  go_wp2
  go_ret
  exact ⟨by rw [HS.out]; rfl, HB.out⟩

/-- What add tells besides. -/
def sumU (sold : ByteArray → Bool) (xs : List Lin) : Int := if addE sold xs = 0 then qsum xs else 0
def sumG (sold : ByteArray → Bool) (xs : List Lin) : Int := if addE sold xs = 0 then gsum xs else 0

theorem size_sums : (Try.prog.info? 53).map (fun x => x.size) = some 2 := by kernel_rfl

theorem two_sums {f : Func} {p u : Tmp} {T : TypeId} (hf : f.results = #[.cell p T, .tmp u]) (tmps : Array Value) (w : World) (g : Nat) (vs : Array Value) (v : Value) (hT : T = 53) (h : Qu.Blk w g 53 vs) (hz : vs.size = 2) (hp : tmps.getD p undef = .pointer (some ⟨g, 0, none⟩)) (hv : tmps.getD u undef = v) : (results f tmps).run Try.prog w = .ok (.tuple #[.agg vs, v]) w := by
  subst hT
  have hl := run_loadVar_row (P := Try.prog) w g 53 53 vs (0, 0) _ h.here Try.underlying53 rfl (by rw [size_sums, hz])
  rw [results_cell_tmp hf, hp, hv]
  simp only [asAddr, Sem.run_pure, Result.andThen_ok, hl]

/-- While the lines are asked: the result's box. -/
structure S1 (w wr : World) : Prop where
  res : Qu.Blk wr w.heap.size 53 #[.int .i64 0, .int .i64 0]
  below : Below w.heap.size w wr

theorem S1.later {w wr w' : World} (h : S1 w wr) (hb : Below wr.heap.size wr w') : S1 w w' := ⟨h.res.below hb, h.below.trans (hb.mono h.below.size)⟩

/-- While they are added. -/
structure S2 (w wr : World) (b8 : Nat) (q g : Int) : Prop where
  res : Qu.Blk wr w.heap.size 53 #[.int .i64 0, .int .i64 0]
  all : Qu.Blk wr b8 53 #[.int .i64 q, .int .i64 g]
  lt : w.heap.size < b8
  below : Below w.heap.size w wr

theorem S2.later {w wr w' : World} {b8 : Nat} {q g : Int} (h : S2 w wr b8 q g) (hb : Below wr.heap.size wr w') : S2 w w' b8 q g := ⟨h.res.below hb, h.all.below hb, h.lt, h.below.trans (hb.mono h.below.size)⟩

/-- A line in a box of its own. -/
theorem box_new {wr W2 : World} (x : Lin) (hW : wr.alloc (.cells #[.string x.sku, .int .i64 x.qty, .int .i64 x.price] 28) = W2) :
    Below wr.heap.size wr W2 ∧ Qu.Blk W2 wr.heap.size 28 #[.string x.sku, .int .i64 x.qty, .int .i64 x.price] := by
  rw [← hW]
  exact ⟨(Below.refl _ _).alloc (Nat.le_refl _) _, Qu.Blk.new wr _ _⟩

theorem S1.stored {w wr : World} (h : S1 w wr) (a b : Int) : Qu.Blk ((wr.setCell ⟨w.heap.size, 0, none⟩ (.int .i64 a)).setCell ⟨w.heap.size, 1, none⟩ (.int .i64 b)) w.heap.size 53 #[.int .i64 a, .int .i64 b] ∧ Below w.heap.size w ((wr.setCell ⟨w.heap.size, 0, none⟩ (.int .i64 a)).setCell ⟨w.heap.size, 1, none⟩ (.int .i64 b)) :=
  ⟨(h.res.put 0 _).put 1 _, (h.below.setCell (Nat.le_refl _) _).setCell (Nat.le_refl _) _⟩

theorem S2.one {w wr : World} {b8 : Nat} {q g : Int} (h : S2 w wr b8 q g) : S1 w wr := ⟨h.res, h.below⟩

theorem S2.putQ {w wr : World} {b8 : Nat} {q g : Int} (h : S2 w wr b8 q g) (q2 : Int) : S2 w (wr.setCell ⟨b8, 0, none⟩ (.int .i64 q2)) b8 q2 g :=
  ⟨h.res.as (Below.heap_setCell wr _ _ _ (by have := h.lt; show w.heap.size ≠ b8; omega)), h.all.put 0 _, h.lt, h.below.setCell (Nat.le_of_lt h.lt) _⟩

theorem S2.putG {w wr : World} {b8 : Nat} {q g : Int} (h : S2 w wr b8 q g) (g2 : Int) : S2 w (wr.setCell ⟨b8, 1, none⟩ (.int .i64 g2)) b8 q g2 :=
  ⟨h.res.as (Below.heap_setCell wr _ _ _ (by have := h.lt; show w.heap.size ≠ b8; omega)), h.all.put 1 _, h.lt, h.below.setCell (Nat.le_of_lt h.lt) _⟩

set_option maxHeartbeats 2000000 in
theorem add_every (A : Option Addr) (n c : Nat) (xs : List Lin) (w : World) (h : Row kLin w (· < w.heap.size) A n xs) (hn : n ≤ 1000000000000) :
    Calls Try.prog 28 #[.slice A n c, .func (.func 34) #[] #[]] w fun e w' => e = .returned (.tuple #[.agg #[.int .i64 (sumU every xs), .int .i64 (sumG every xs)], .int .i64 (addE every xs)]) ∧ Below w.heap.size w w' := by
  have HSo : Hid (∀ (s : ByteArray) (W : World), Below w.heap.size w W → Calls Try.prog 34 #[.string s] W fun e w' => e = .returned (.bool (every s)) ∧ Below W.heap.size W w') := Lib.hid (fun s W _ => whatever_any s W)
  have HH := Lib.hid h
  have HL := Lib.hid h.len
  obtain ⟨W1, hW1⟩ : ∃ W1, w.alloc (.cells #[.int .i64 0, .int .i64 0] 53) = W1 := ⟨_, rfl⟩
  have hb1 : Below w.heap.size w W1 := by rw [← hW1]; exact (Below.refl _ _).alloc (Nat.le_refl _) _
  have hS1 : S1 w W1 := ⟨by rw [← hW1]; exact Qu.Blk.new w _ _, hb1⟩
  have HS1 := Lib.hid hS1
  have z0 := hS1.res.cell 0
  have z1 := hS1.res.cell 1
  have zf := hS1.res.frozen
  have HE : Hid (addE every xs ≠ 0 → sumU every xs = 0 ∧ sumG every xs = 0) := Lib.hid fun h1 => ⟨by unfold sumU; rw [if_neg h1], by unfold sumG; rw [if_neg h1]⟩
  clear h hb1 hS1
  by_cases hq : 1000 < n
  · have k1 : (1000 : Int) < (n : Int) := by omega
    have HX : Hid (addE every xs = 6) := Lib.hid (addE_most (by rw [HL.out]; omega))
    go_enter Try.func28, Try.ntmps28
    go_wp2
    refine bodyPost_ret (two_sums rfl _ _ w.heap.size #[.int .i64 0, .int .i64 0] (.int .i64 6) rfl (HS1.out.stored 0 0).1 rfl rfl rfl) rfl ?_
    exact ⟨by rw [HX.out, (HE.out (by rw [HX.out]; decide)).1, (HE.out (by rw [HX.out]; decide)).2], (HS1.out.stored 0 0).2⟩
  · have k1 : ¬ (1000 : Int) < (n : Int) := by omega
    have hm2 : n ≤ 1000 := by omega
    clear hq
    go_enter Try.func28, Try.ntmps28
    go_wp2
    clear k1 hW1 z0 z1 zf
    go_loopw [17] (fun s17 wr => ∃ k : Nat, s17 = .int .i64 k ∧ k ≤ n ∧ Hid (S1 w wr) ∧ Hid (UpTo every xs k)) (fun s17 _ => n - (intOf s17).toNat)
    case atStart => exact ⟨0, rfl, by omega, HS1, Lib.hid (UpTo.zero _ _)⟩
    case round =>
      clear HS1
      obtain ⟨k, rfl, hk, HS, HU⟩ := hrel
      have kk : (0 : Int) ≤ (k : Int) := by omega
      by_cases hlt : k < n
      · obtain ⟨x, hx⟩ := HH.out.get hlt
        obtain ⟨g, o, rfl, hg, _, hok, a0, a1, a2⟩ := row_Lin HH.out hx
        have c0 : wr.cell? ⟨g, o + k * 3, none⟩ = some (.string x.sku) := (HS.out.below.cell (p := ⟨g, _, none⟩) hg).trans a0
        have c1 : wr.cell? ⟨g, o + k * 3 + 1, none⟩ = some (.int .i64 x.qty) := (HS.out.below.cell (p := ⟨g, _, none⟩) hg).trans a1
        have c2 : wr.cell? ⟨g, o + k * 3 + 2, none⟩ = some (.int .i64 x.price) := (HS.out.below.cell (p := ⟨g, _, none⟩) hg).trans a2
        have HX := Lib.hid hx
        have k1 : (k : Int) < (n : Int) := by omega
        obtain ⟨W2, hW2⟩ : ∃ W2, wr.alloc (.cells #[.string x.sku, .int .i64 x.qty, .int .i64 x.price] 28) = W2 := ⟨_, rfl⟩
        obtain ⟨hb2, hbx⟩ := box_new x hW2
        have HS2 := Lib.hid (HS.out.later hb2)
        have HBx := Lib.hid hbx
        have HQ := Lib.hid (HSo.out x.sku W2 HS2.out.below)
        have HWr := Lib.hid (fun W => wrong_any x W)
        have hw2 := Lib.hid hW2
        have hs := HS.out.below.size
        clear a0 a1 a2 hx hok hg hb2 hbx hW2
        go_upto_region 6 with (fail)
        try rw [hw2.out]
        have e0 := HBx.out.cell 0
        clear c0 c1 c2
        cases hso : every x.sku with
        | false =>
          rw [hso] at HQ
          have HE7 : Hid (addE every xs = 7) := Lib.hid (by rw [addE_wrong (by rw [HL.out]; omega) HU.out HX.out (.inl hso), if_pos hso])
          clear hso
          go_wp2_with fail
          refine HQ.out.mono ?_
          rintro e w3 ⟨rfl, hb3⟩
          have HS3 := Lib.hid (HS2.out.later hb3)
          have z0 := HS3.out.res.cell 0
          have z1 := HS3.out.res.cell 1
          have zf := HS3.out.res.frozen
          clear hb3 e0
          go_wp2_with fail
          refine bodyPost_ret (two_sums rfl _ _ w.heap.size #[.int .i64 0, .int .i64 0] (.int .i64 7) rfl (HS3.out.stored 0 0).1 rfl rfl rfl) rfl ?_
          exact ⟨by rw [HE7.out, (HE.out (by rw [HE7.out]; decide)).1, (HE.out (by rw [HE7.out]; decide)).2], (HS3.out.stored 0 0).2⟩
        | true =>
          rw [hso] at HQ
          have Hso := Lib.hid hso
          clear hso
          go_wp2_with fail
          refine HQ.out.mono ?_
          rintro e w3 ⟨rfl, hb3⟩
          have HS3 := Lib.hid (HS2.out.later hb3)
          have hbx3 := HBx.out.below hb3
          have f0 := hbx3.cell 0
          have f1 := hbx3.cell 1
          have f2 := hbx3.cell 2
          clear hb3 e0 hbx3
          cases hw : wrongB x with
          | true =>
            rw [hw] at HWr
            have HE2 : Hid (addE every xs = 2) := Lib.hid (by rw [addE_wrong (by rw [HL.out]; omega) HU.out HX.out (.inr hw), if_neg (by rw [Hso.out]; simp)])
            clear hw
            go_wp2_with fail
            refine (HWr.out _).mono ?_
            rintro e w4 ⟨rfl, hb4⟩
            have HS4 := Lib.hid (HS3.out.later hb4)
            have z0 := HS4.out.res.cell 0
            have z1 := HS4.out.res.cell 1
            have zf := HS4.out.res.frozen
            clear hb4 f0 f1 f2
            go_wp2_with fail
            refine bodyPost_ret (two_sums rfl _ _ w.heap.size #[.int .i64 0, .int .i64 0] (.int .i64 2) rfl (HS4.out.stored 0 0).1 rfl rfl rfl) rfl ?_
            exact ⟨by rw [HE2.out, (HE.out (by rw [HE2.out]; decide)).1, (HE.out (by rw [HE2.out]; decide)).2], (HS4.out.stored 0 0).2⟩
          | false =>
            rw [hw] at HWr
            have HN := Lib.hid (HU.out.next HX.out Hso.out hw)
            clear hw
            go_wp2_with fail
            refine (HWr.out _).mono ?_
            rintro e w4 ⟨rfl, hb4⟩
            have HS4 := Lib.hid (HS3.out.later hb4)
            clear hb4 f0 f1 f2
            go_wp2_with fail
            go_roundw
            case rel => exact ⟨k + 1, by go_num, by omega, HS4, HN⟩
            case measure => simp [intOf]; omega
      · have k1 : ¬ (k : Int) < (n : Int) := by omega
        obtain rfl : k = n := by omega
        have HT : Hid (addE every xs = rangeE xs) := Lib.hid (addE_range (by rw [HL.out]; omega) (by rw [HL.out]; exact HU.out))
        have HFi : Hid (Fine xs) := Lib.hid (UpTo.fine (sold := every) (by rw [HL.out]; exact HU.out))
        obtain ⟨W5, hW5⟩ : ∃ W5, wr.alloc (.cells #[.int .i64 0, .int .i64 0] 53) = W5 := ⟨_, rfl⟩
        obtain ⟨b8, hb8⟩ : ∃ b8, wr.heap.size = b8 := ⟨_, rfl⟩
        have HS5 : Hid (S2 w W5 b8 0 0) := Lib.hid ⟨by rw [← hW5]; exact HS.out.res.alloc _, by rw [← hW5, ← hb8]; exact Qu.Blk.new wr _ _, by rw [← hb8]; exact HS.out.res.lt, HS.out.below.trans (by rw [← hW5]; exact ((Below.refl _ _).alloc (Nat.le_refl _) _ : Below wr.heap.size wr _).mono HS.out.below.size)⟩
        have hw5 := Lib.hid hW5
        have hwb := Lib.hid hb8
        clear HU HSo hW5 hb8
        go_upto_region 12 with (fail)
        try rw [hw5.out]
        try simp only [hwb.out]
        clear hw5 hwb HS
        go_wp2
        clear k1
        go_loopw [33] (fun s33 wr => ∃ j : Nat, s33 = .int .i64 j ∧ j ≤ k ∧ Hid (S2 w wr b8 (qsum (xs.take j)) (gsum (xs.take j)))) (fun s33 _ => k - (intOf s33).toNat)
        case atStart => exact ⟨0, rfl, by omega, Lib.hid (by rw [List.take_zero]; exact HS5.out)⟩
        case round =>
          clear HS5
          obtain ⟨j, rfl, hj, HS⟩ := hrel
          have jj : (0 : Int) ≤ (j : Int) := by omega
          by_cases hlt : j < k
          · obtain ⟨x, hx⟩ := HH.out.get hlt
            obtain ⟨g, o, rfl, hg, _, hok, a0, a1, a2⟩ := row_Lin HH.out hx
            have c0 : wr.cell? ⟨g, o + j * 3, none⟩ = some (.string x.sku) := (HS.out.below.cell (p := ⟨g, _, none⟩) hg).trans a0
            have c1 : wr.cell? ⟨g, o + j * 3 + 1, none⟩ = some (.int .i64 x.qty) := (HS.out.below.cell (p := ⟨g, _, none⟩) hg).trans a1
            have c2 : wr.cell? ⟨g, o + j * 3 + 2, none⟩ = some (.int .i64 x.price) := (HS.out.below.cell (p := ⟨g, _, none⟩) hg).trans a2
            have hfx := fine_iff.1 (HFi.out j x hx)
            have hpr := line_most hfx.1 hfx.2.1 hfx.2.2.1 hfx.2.2.2
            have hp := HFi.out.part j
            have hsm := (HFi.out.sums)
            rw [HL.out] at hsm
            have eq1 := qsum_next hx
            have eg1 := gsum_next hx
            obtain ⟨Q, hQ⟩ : ∃ q, qsum (xs.take j) = q := ⟨_, rfl⟩
            obtain ⟨G, hG⟩ : ∃ q, gsum (xs.take j) = q := ⟨_, rfl⟩
            obtain ⟨p, hP⟩ : ∃ p, x.qty * x.price = p := ⟨_, rfl⟩
            obtain ⟨Q2, hQ2⟩ : ∃ q, Q + x.qty = q := ⟨_, rfl⟩
            obtain ⟨G2, hG2⟩ : ∃ q, G + p = q := ⟨_, rfl⟩
            rw [hQ, hQ2] at eq1
            rw [hG, hP, hG2] at eg1
            rw [hP] at hpr
            rw [hQ, hG] at hp HS
            have w1 : IntKind.i64.wrap (Q + x.qty) = Q2 := by rw [hQ2]; exact IntWalk.i64_in _ (by omega)
            have w2 : IntKind.i64.wrap (x.qty * x.price) = p := by rw [hP]; exact IntWalk.i64_in _ (by omega)
            have w3 : IntKind.i64.wrap (G + p) = G2 := by rw [hG2]; exact IntWalk.i64_in _ (by omega)
            have HSm := Lib.hid (And.intro eq1 eg1)
            have k1 : (j : Int) < (k : Int) := by omega
            obtain ⟨W2, hW2⟩ : ∃ W2, wr.alloc (.cells #[.string x.sku, .int .i64 x.qty, .int .i64 x.price] 28) = W2 := ⟨_, rfl⟩
            obtain ⟨hb2, hbx⟩ := box_new x hW2
            have HS2 := Lib.hid (HS.out.later hb2)
            obtain ⟨bx, hbx1⟩ : ∃ bx, wr.heap.size = bx := ⟨_, rfl⟩
            have hne : bx ≠ b8 := by have := HS.out.all.lt; omega
            rw [hbx1] at hbx
            have HBx := Lib.hid hbx
            have hw2 := Lib.hid hW2
            have hwb := Lib.hid hbx1
            clear a0 a1 a2 hx hok hg hb2 hbx hW2 hfx hpr hp hsm eq1 eg1 hQ hG hP hQ2 hG2 hbx1
            go_upto_region 15 with (fail)
            try rw [hw2.out]
            try simp only [hwb.out]
            clear hw2 hwb c0 c1 c2
            have e1 := HBx.out.cell 1
            have e2 := HBx.out.cell 2
            have y0 := HS2.out.all.cell 0
            have yf := HS2.out.all.frozen
            obtain ⟨W3, hW3⟩ : ∃ W3, W2.setCell ⟨b8, 0, none⟩ (.int .i64 Q2) = W3 := ⟨_, rfl⟩
            have HS3 : Hid (S2 w W3 b8 Q2 G) := Lib.hid (by rw [← hW3]; exact HS2.out.putQ Q2)
            have hbx3 : Qu.Blk W3 bx 28 #[.string x.sku, .int .i64 x.qty, .int .i64 x.price] := by rw [← hW3]; exact HBx.out.as (Below.heap_setCell W2 _ _ _ hne)
            have HBx3 := Lib.hid hbx3
            have hw3 := Lib.hid hW3
            clear hbx3 hW3
            go_upto_region 16 with (fail)
            try rw [hw3.out]
            clear hw3 e1 e2 y0 yf
            have e1 := HBx3.out.cell 1
            have e2 := HBx3.out.cell 2
            have y1 := HS3.out.all.cell 1
            have yf := HS3.out.all.frozen
            have HS4 := Lib.hid (HS3.out.putG G2)
            go_wp2
            go_roundw
            case rel => exact ⟨j + 1, by go_num, by omega, Lib.hid (by rw [HSm.out.1, HSm.out.2]; exact HS4.out)⟩
            case measure => simp [intOf]; omega
          · have k1 : ¬ (j : Int) < (k : Int) := by omega
            obtain rfl : j = k := by omega
            have e : xs.take j = xs := List.take_of_length_le (by rw [HL.out]; omega)
            rw [e] at HS
            have y0 := HS.out.all.cell 0
            have y1 := HS.out.all.cell 1
            have z0 := HS.out.res.cell 0
            have z1 := HS.out.res.cell 1
            have zf := HS.out.res.frozen
            obtain ⟨Q, hQ⟩ : ∃ q, qsum xs = q := ⟨_, rfl⟩
            obtain ⟨G, hG⟩ : ∃ q, gsum xs = q := ⟨_, rfl⟩
            have hR : rangeE xs = if 100000 < Q ∨ 10000000000000 < G then 5 else 0 := by rw [← hQ, ← hG]; rfl
            have HR := Lib.hid hR
            have HO : Hid (addE every xs = 0 → sumU every xs = Q ∧ sumG every xs = G) := Lib.hid fun h1 => ⟨by unfold sumU; rw [if_pos h1, hQ], by unfold sumG; rw [if_pos h1, hG]⟩
            rw [hQ] at y0 HS
            rw [hG] at y1 HS
            clear e hQ hG hR
            by_cases b1 : 100000 < Q
            · have HE5 : Hid (addE every xs = 5) := Lib.hid (by rw [HT.out, HR.out, if_pos (.inl b1)])
              go_wp2
              refine bodyPost_ret (two_sums rfl _ _ w.heap.size #[.int .i64 0, .int .i64 0] (.int .i64 5) rfl (HS.out.one.stored 0 0).1 rfl rfl rfl) rfl ?_
              exact ⟨by rw [HE5.out, (HE.out (by rw [HE5.out]; decide)).1, (HE.out (by rw [HE5.out]; decide)).2], (HS.out.one.stored 0 0).2⟩
            · by_cases b2 : 10000000000000 < G
              · have HE5 : Hid (addE every xs = 5) := Lib.hid (by rw [HT.out, HR.out, if_pos (.inr b2)])
                go_wp2
                refine bodyPost_ret (two_sums rfl _ _ w.heap.size #[.int .i64 0, .int .i64 0] (.int .i64 5) rfl (HS.out.one.stored 0 0).1 rfl rfl rfl) rfl ?_
                exact ⟨by rw [HE5.out, (HE.out (by rw [HE5.out]; decide)).1, (HE.out (by rw [HE5.out]; decide)).2], (HS.out.one.stored 0 0).2⟩
              · have HE0 : Hid (addE every xs = 0) := Lib.hid (by rw [HT.out, HR.out, if_neg (by omega)])
                go_wp2
                refine bodyPost_ret (two_sums rfl _ _ w.heap.size #[.int .i64 Q, .int .i64 G] (.int .i64 0) rfl (HS.out.one.stored Q G).1 rfl rfl rfl) rfl ?_
                exact ⟨by rw [HE0.out, (HO.out HE0.out).1, (HO.out HE0.out).2], (HS.out.one.stored Q G).2⟩

set_option maxHeartbeats 2000000 in
theorem add_items (A : Option Addr) (n c : Nat) (xs : List Lin) (w : World) (h : Row kLin w (· < w.heap.size) A n xs) (hn : n ≤ 1000000000000) (Ai : Option Addr) (ni ci : Nat) (its : List Itm) (bq : Nat) (hI : Row kItem w (· < w.heap.size) Ai ni its) (hc : ni ≤ ci) (hni : ni ≤ 1000000000000) (hbq : w.cell? ⟨bq, 0, none⟩ = some (.slice Ai ni ci)) (hlq : bq < w.heap.size) :
    Calls Try.prog 28 #[.slice A n c, .func (.func 29) #[] #[.pointer (some ⟨bq, 0, none⟩)]] w fun e w' => e = .returned (.tuple #[.agg #[.int .i64 (sumU (soldB its) xs), .int .i64 (sumG (soldB its) xs)], .int .i64 (addE (soldB its) xs)]) ∧ Below w.heap.size w w' := by
  have HSo : Hid (∀ (s : ByteArray) (W : World), Below w.heap.size w W → Calls Try.prog 29 #[.string s, .pointer (some ⟨bq, 0, none⟩)] W fun e w' => e = .returned (.bool ((soldB its) s)) ∧ Below W.heap.size W w') := Lib.hid (fun s W hb => sold_any Ai ni ci its bq s W ((hI.below hb (Nat.le_refl _)).lift hb.size) hc hni ((hb.cell (p := ⟨bq, _, none⟩) hlq).trans hbq))
  have HH := Lib.hid h
  have HL := Lib.hid h.len
  obtain ⟨W1, hW1⟩ : ∃ W1, w.alloc (.cells #[.int .i64 0, .int .i64 0] 53) = W1 := ⟨_, rfl⟩
  have hb1 : Below w.heap.size w W1 := by rw [← hW1]; exact (Below.refl _ _).alloc (Nat.le_refl _) _
  have hS1 : S1 w W1 := ⟨by rw [← hW1]; exact Qu.Blk.new w _ _, hb1⟩
  have HS1 := Lib.hid hS1
  have z0 := hS1.res.cell 0
  have z1 := hS1.res.cell 1
  have zf := hS1.res.frozen
  have HE : Hid (addE (soldB its) xs ≠ 0 → sumU (soldB its) xs = 0 ∧ sumG (soldB its) xs = 0) := Lib.hid fun h1 => ⟨by unfold sumU; rw [if_neg h1], by unfold sumG; rw [if_neg h1]⟩
  clear h hb1 hS1 hI hbq
  by_cases hq : 1000 < n
  · have k1 : (1000 : Int) < (n : Int) := by omega
    have HX : Hid (addE (soldB its) xs = 6) := Lib.hid (addE_most (by rw [HL.out]; omega))
    go_enter Try.func28, Try.ntmps28
    go_wp2
    refine bodyPost_ret (two_sums rfl _ _ w.heap.size #[.int .i64 0, .int .i64 0] (.int .i64 6) rfl (HS1.out.stored 0 0).1 rfl rfl rfl) rfl ?_
    exact ⟨by rw [HX.out, (HE.out (by rw [HX.out]; decide)).1, (HE.out (by rw [HX.out]; decide)).2], (HS1.out.stored 0 0).2⟩
  · have k1 : ¬ (1000 : Int) < (n : Int) := by omega
    have hm2 : n ≤ 1000 := by omega
    clear hq
    go_enter Try.func28, Try.ntmps28
    go_wp2
    clear k1 hW1 z0 z1 zf
    go_loopw [17] (fun s17 wr => ∃ k : Nat, s17 = .int .i64 k ∧ k ≤ n ∧ Hid (S1 w wr) ∧ Hid (UpTo (soldB its) xs k)) (fun s17 _ => n - (intOf s17).toNat)
    case atStart => exact ⟨0, rfl, by omega, HS1, Lib.hid (UpTo.zero _ _)⟩
    case round =>
      clear HS1
      obtain ⟨k, rfl, hk, HS, HU⟩ := hrel
      have kk : (0 : Int) ≤ (k : Int) := by omega
      by_cases hlt : k < n
      · obtain ⟨x, hx⟩ := HH.out.get hlt
        obtain ⟨g, o, rfl, hg, _, hok, a0, a1, a2⟩ := row_Lin HH.out hx
        have c0 : wr.cell? ⟨g, o + k * 3, none⟩ = some (.string x.sku) := (HS.out.below.cell (p := ⟨g, _, none⟩) hg).trans a0
        have c1 : wr.cell? ⟨g, o + k * 3 + 1, none⟩ = some (.int .i64 x.qty) := (HS.out.below.cell (p := ⟨g, _, none⟩) hg).trans a1
        have c2 : wr.cell? ⟨g, o + k * 3 + 2, none⟩ = some (.int .i64 x.price) := (HS.out.below.cell (p := ⟨g, _, none⟩) hg).trans a2
        have HX := Lib.hid hx
        have k1 : (k : Int) < (n : Int) := by omega
        obtain ⟨W2, hW2⟩ : ∃ W2, wr.alloc (.cells #[.string x.sku, .int .i64 x.qty, .int .i64 x.price] 28) = W2 := ⟨_, rfl⟩
        obtain ⟨hb2, hbx⟩ := box_new x hW2
        have HS2 := Lib.hid (HS.out.later hb2)
        have HBx := Lib.hid hbx
        have HQ := Lib.hid (HSo.out x.sku W2 HS2.out.below)
        have HWr := Lib.hid (fun W => wrong_any x W)
        have hw2 := Lib.hid hW2
        have hs := HS.out.below.size
        clear a0 a1 a2 hx hok hg hb2 hbx hW2
        go_upto_region 6 with (fail)
        try rw [hw2.out]
        have e0 := HBx.out.cell 0
        clear c0 c1 c2
        cases hso : (soldB its) x.sku with
        | false =>
          rw [hso] at HQ
          have HE7 : Hid (addE (soldB its) xs = 7) := Lib.hid (by rw [addE_wrong (by rw [HL.out]; omega) HU.out HX.out (.inl hso), if_pos hso])
          clear hso
          go_wp2_with fail
          refine HQ.out.mono ?_
          rintro e w3 ⟨rfl, hb3⟩
          have HS3 := Lib.hid (HS2.out.later hb3)
          have z0 := HS3.out.res.cell 0
          have z1 := HS3.out.res.cell 1
          have zf := HS3.out.res.frozen
          clear hb3 e0
          go_wp2_with fail
          refine bodyPost_ret (two_sums rfl _ _ w.heap.size #[.int .i64 0, .int .i64 0] (.int .i64 7) rfl (HS3.out.stored 0 0).1 rfl rfl rfl) rfl ?_
          exact ⟨by rw [HE7.out, (HE.out (by rw [HE7.out]; decide)).1, (HE.out (by rw [HE7.out]; decide)).2], (HS3.out.stored 0 0).2⟩
        | true =>
          rw [hso] at HQ
          have Hso := Lib.hid hso
          clear hso
          go_wp2_with fail
          refine HQ.out.mono ?_
          rintro e w3 ⟨rfl, hb3⟩
          have HS3 := Lib.hid (HS2.out.later hb3)
          have hbx3 := HBx.out.below hb3
          have f0 := hbx3.cell 0
          have f1 := hbx3.cell 1
          have f2 := hbx3.cell 2
          clear hb3 e0 hbx3
          cases hw : wrongB x with
          | true =>
            rw [hw] at HWr
            have HE2 : Hid (addE (soldB its) xs = 2) := Lib.hid (by rw [addE_wrong (by rw [HL.out]; omega) HU.out HX.out (.inr hw), if_neg (by rw [Hso.out]; simp)])
            clear hw
            go_wp2_with fail
            refine (HWr.out _).mono ?_
            rintro e w4 ⟨rfl, hb4⟩
            have HS4 := Lib.hid (HS3.out.later hb4)
            have z0 := HS4.out.res.cell 0
            have z1 := HS4.out.res.cell 1
            have zf := HS4.out.res.frozen
            clear hb4 f0 f1 f2
            go_wp2_with fail
            refine bodyPost_ret (two_sums rfl _ _ w.heap.size #[.int .i64 0, .int .i64 0] (.int .i64 2) rfl (HS4.out.stored 0 0).1 rfl rfl rfl) rfl ?_
            exact ⟨by rw [HE2.out, (HE.out (by rw [HE2.out]; decide)).1, (HE.out (by rw [HE2.out]; decide)).2], (HS4.out.stored 0 0).2⟩
          | false =>
            rw [hw] at HWr
            have HN := Lib.hid (HU.out.next HX.out Hso.out hw)
            clear hw
            go_wp2_with fail
            refine (HWr.out _).mono ?_
            rintro e w4 ⟨rfl, hb4⟩
            have HS4 := Lib.hid (HS3.out.later hb4)
            clear hb4 f0 f1 f2
            go_wp2_with fail
            go_roundw
            case rel => exact ⟨k + 1, by go_num, by omega, HS4, HN⟩
            case measure => simp [intOf]; omega
      · have k1 : ¬ (k : Int) < (n : Int) := by omega
        obtain rfl : k = n := by omega
        have HT : Hid (addE (soldB its) xs = rangeE xs) := Lib.hid (addE_range (by rw [HL.out]; omega) (by rw [HL.out]; exact HU.out))
        have HFi : Hid (Fine xs) := Lib.hid (UpTo.fine (sold := (soldB its)) (by rw [HL.out]; exact HU.out))
        obtain ⟨W5, hW5⟩ : ∃ W5, wr.alloc (.cells #[.int .i64 0, .int .i64 0] 53) = W5 := ⟨_, rfl⟩
        obtain ⟨b8, hb8⟩ : ∃ b8, wr.heap.size = b8 := ⟨_, rfl⟩
        have HS5 : Hid (S2 w W5 b8 0 0) := Lib.hid ⟨by rw [← hW5]; exact HS.out.res.alloc _, by rw [← hW5, ← hb8]; exact Qu.Blk.new wr _ _, by rw [← hb8]; exact HS.out.res.lt, HS.out.below.trans (by rw [← hW5]; exact ((Below.refl _ _).alloc (Nat.le_refl _) _ : Below wr.heap.size wr _).mono HS.out.below.size)⟩
        have hw5 := Lib.hid hW5
        have hwb := Lib.hid hb8
        clear HU HSo hW5 hb8
        go_upto_region 12 with (fail)
        try rw [hw5.out]
        try simp only [hwb.out]
        clear hw5 hwb HS
        go_wp2
        clear k1
        go_loopw [33] (fun s33 wr => ∃ j : Nat, s33 = .int .i64 j ∧ j ≤ k ∧ Hid (S2 w wr b8 (qsum (xs.take j)) (gsum (xs.take j)))) (fun s33 _ => k - (intOf s33).toNat)
        case atStart => exact ⟨0, rfl, by omega, Lib.hid (by rw [List.take_zero]; exact HS5.out)⟩
        case round =>
          clear HS5
          obtain ⟨j, rfl, hj, HS⟩ := hrel
          have jj : (0 : Int) ≤ (j : Int) := by omega
          by_cases hlt : j < k
          · obtain ⟨x, hx⟩ := HH.out.get hlt
            obtain ⟨g, o, rfl, hg, _, hok, a0, a1, a2⟩ := row_Lin HH.out hx
            have c0 : wr.cell? ⟨g, o + j * 3, none⟩ = some (.string x.sku) := (HS.out.below.cell (p := ⟨g, _, none⟩) hg).trans a0
            have c1 : wr.cell? ⟨g, o + j * 3 + 1, none⟩ = some (.int .i64 x.qty) := (HS.out.below.cell (p := ⟨g, _, none⟩) hg).trans a1
            have c2 : wr.cell? ⟨g, o + j * 3 + 2, none⟩ = some (.int .i64 x.price) := (HS.out.below.cell (p := ⟨g, _, none⟩) hg).trans a2
            have hfx := fine_iff.1 (HFi.out j x hx)
            have hpr := line_most hfx.1 hfx.2.1 hfx.2.2.1 hfx.2.2.2
            have hp := HFi.out.part j
            have hsm := (HFi.out.sums)
            rw [HL.out] at hsm
            have eq1 := qsum_next hx
            have eg1 := gsum_next hx
            obtain ⟨Q, hQ⟩ : ∃ q, qsum (xs.take j) = q := ⟨_, rfl⟩
            obtain ⟨G, hG⟩ : ∃ q, gsum (xs.take j) = q := ⟨_, rfl⟩
            obtain ⟨p, hP⟩ : ∃ p, x.qty * x.price = p := ⟨_, rfl⟩
            obtain ⟨Q2, hQ2⟩ : ∃ q, Q + x.qty = q := ⟨_, rfl⟩
            obtain ⟨G2, hG2⟩ : ∃ q, G + p = q := ⟨_, rfl⟩
            rw [hQ, hQ2] at eq1
            rw [hG, hP, hG2] at eg1
            rw [hP] at hpr
            rw [hQ, hG] at hp HS
            have w1 : IntKind.i64.wrap (Q + x.qty) = Q2 := by rw [hQ2]; exact IntWalk.i64_in _ (by omega)
            have w2 : IntKind.i64.wrap (x.qty * x.price) = p := by rw [hP]; exact IntWalk.i64_in _ (by omega)
            have w3 : IntKind.i64.wrap (G + p) = G2 := by rw [hG2]; exact IntWalk.i64_in _ (by omega)
            have HSm := Lib.hid (And.intro eq1 eg1)
            have k1 : (j : Int) < (k : Int) := by omega
            obtain ⟨W2, hW2⟩ : ∃ W2, wr.alloc (.cells #[.string x.sku, .int .i64 x.qty, .int .i64 x.price] 28) = W2 := ⟨_, rfl⟩
            obtain ⟨hb2, hbx⟩ := box_new x hW2
            have HS2 := Lib.hid (HS.out.later hb2)
            obtain ⟨bx, hbx1⟩ : ∃ bx, wr.heap.size = bx := ⟨_, rfl⟩
            have hne : bx ≠ b8 := by have := HS.out.all.lt; omega
            rw [hbx1] at hbx
            have HBx := Lib.hid hbx
            have hw2 := Lib.hid hW2
            have hwb := Lib.hid hbx1
            clear a0 a1 a2 hx hok hg hb2 hbx hW2 hfx hpr hp hsm eq1 eg1 hQ hG hP hQ2 hG2 hbx1
            go_upto_region 15 with (fail)
            try rw [hw2.out]
            try simp only [hwb.out]
            clear hw2 hwb c0 c1 c2
            have e1 := HBx.out.cell 1
            have e2 := HBx.out.cell 2
            have y0 := HS2.out.all.cell 0
            have yf := HS2.out.all.frozen
            obtain ⟨W3, hW3⟩ : ∃ W3, W2.setCell ⟨b8, 0, none⟩ (.int .i64 Q2) = W3 := ⟨_, rfl⟩
            have HS3 : Hid (S2 w W3 b8 Q2 G) := Lib.hid (by rw [← hW3]; exact HS2.out.putQ Q2)
            have hbx3 : Qu.Blk W3 bx 28 #[.string x.sku, .int .i64 x.qty, .int .i64 x.price] := by rw [← hW3]; exact HBx.out.as (Below.heap_setCell W2 _ _ _ hne)
            have HBx3 := Lib.hid hbx3
            have hw3 := Lib.hid hW3
            clear hbx3 hW3
            go_upto_region 16 with (fail)
            try rw [hw3.out]
            clear hw3 e1 e2 y0 yf
            have e1 := HBx3.out.cell 1
            have e2 := HBx3.out.cell 2
            have y1 := HS3.out.all.cell 1
            have yf := HS3.out.all.frozen
            have HS4 := Lib.hid (HS3.out.putG G2)
            go_wp2
            go_roundw
            case rel => exact ⟨j + 1, by go_num, by omega, Lib.hid (by rw [HSm.out.1, HSm.out.2]; exact HS4.out)⟩
            case measure => simp [intOf]; omega
          · have k1 : ¬ (j : Int) < (k : Int) := by omega
            obtain rfl : j = k := by omega
            have e : xs.take j = xs := List.take_of_length_le (by rw [HL.out]; omega)
            rw [e] at HS
            have y0 := HS.out.all.cell 0
            have y1 := HS.out.all.cell 1
            have z0 := HS.out.res.cell 0
            have z1 := HS.out.res.cell 1
            have zf := HS.out.res.frozen
            obtain ⟨Q, hQ⟩ : ∃ q, qsum xs = q := ⟨_, rfl⟩
            obtain ⟨G, hG⟩ : ∃ q, gsum xs = q := ⟨_, rfl⟩
            have hR : rangeE xs = if 100000 < Q ∨ 10000000000000 < G then 5 else 0 := by rw [← hQ, ← hG]; rfl
            have HR := Lib.hid hR
            have HO : Hid (addE (soldB its) xs = 0 → sumU (soldB its) xs = Q ∧ sumG (soldB its) xs = G) := Lib.hid fun h1 => ⟨by unfold sumU; rw [if_pos h1, hQ], by unfold sumG; rw [if_pos h1, hG]⟩
            rw [hQ] at y0 HS
            rw [hG] at y1 HS
            clear e hQ hG hR
            by_cases b1 : 100000 < Q
            · have HE5 : Hid (addE (soldB its) xs = 5) := Lib.hid (by rw [HT.out, HR.out, if_pos (.inl b1)])
              go_wp2
              refine bodyPost_ret (two_sums rfl _ _ w.heap.size #[.int .i64 0, .int .i64 0] (.int .i64 5) rfl (HS.out.one.stored 0 0).1 rfl rfl rfl) rfl ?_
              exact ⟨by rw [HE5.out, (HE.out (by rw [HE5.out]; decide)).1, (HE.out (by rw [HE5.out]; decide)).2], (HS.out.one.stored 0 0).2⟩
            · by_cases b2 : 10000000000000 < G
              · have HE5 : Hid (addE (soldB its) xs = 5) := Lib.hid (by rw [HT.out, HR.out, if_pos (.inr b2)])
                go_wp2
                refine bodyPost_ret (two_sums rfl _ _ w.heap.size #[.int .i64 0, .int .i64 0] (.int .i64 5) rfl (HS.out.one.stored 0 0).1 rfl rfl rfl) rfl ?_
                exact ⟨by rw [HE5.out, (HE.out (by rw [HE5.out]; decide)).1, (HE.out (by rw [HE5.out]; decide)).2], (HS.out.one.stored 0 0).2⟩
              · have HE0 : Hid (addE (soldB its) xs = 0) := Lib.hid (by rw [HT.out, HR.out, if_neg (by omega)])
                go_wp2
                refine bodyPost_ret (two_sums rfl _ _ w.heap.size #[.int .i64 Q, .int .i64 G] (.int .i64 0) rfl (HS.out.one.stored Q G).1 rfl rfl rfl) rfl ?_
                exact ⟨by rw [HE0.out, (HO.out HE0.out).1, (HO.out HE0.out).2], (HS.out.one.stored Q G).2⟩

end Go.Proofs.Ytdmpnkhgcggepaa.Bk
