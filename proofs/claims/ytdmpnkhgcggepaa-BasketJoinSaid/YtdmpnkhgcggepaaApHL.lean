/- The statements' helpers on api.Line: Same, Plain, Own, Kept. -/
import Derived.Test.YtdmpnkhgcggepaaApB
import Derived.Test.YtdmpnkhgcggepaaKa
import Derived.Deep.RegionHeld3
import Derived.Laws.StructEq
set_option maxRecDepth 100000

set_option linter.unusedVariables false
namespace Go.Proofs.Ytdmpnkhgcggepaa.Ap.Lin
open Go.ChangeShapes Go.WideShapes Go.ChangeAt Go.RowKit
open Kd (Kind Row Own Cells Reads Fields Fit Agree kInt kStr kFlag kPair kVia Filling Owned eqL eqL_len eqL_no eqL_yes eqL_refl Two rows_get)

def sameB (x y : Lin) : Bool := Sr.same x.sku y.sku && (x.qty == y.qty) && (x.price == y.price)

theorem sameB_refl (x : Lin) : sameB x x = true := by
  unfold sameB
  simp [Sr.same_refl]

theorem sameB_iff {x y : Lin} : sameB x y = true ↔ x = y := by
  constructor
  · intro h
    unfold sameB at h
    simp only [Bool.and_eq_true, Sr.same_iff, beq_iff_eq] at h
    obtain ⟨a0, a1, a2⟩ := x
    obtain ⟨b0, b1, b2⟩ := y
    simp only at h
    simp [h]
  · rintro rfl
    exact sameB_refl x

set_option maxHeartbeats 1000000 in
theorem eq_any (x y : Lin) (w : World) : Calls Try.prog 50 #[.agg #[.string x.sku, .int .i64 x.qty, .int .i64 x.price], .agg #[.string y.sku, .int .i64 y.qty, .int .i64 y.price]] w fun e w' => e = .returned (.bool (sameB x y)) ∧ Below w.heap.size w w' := by
  have hd : sameB x y = ((x.sku.toList == y.sku.toList) && (x.qty == y.qty) && (x.price == y.price)) := rfl
  have HD := Lib.hid hd
  have HB : Hid (∀ o p, Below w.heap.size w ((w.alloc o).alloc p)) := Lib.hid fun o p => ((Below.refl _ _).alloc (Nat.le_refl _) _).alloc (by simp) _
  clear hd
  go_enter Try.func50, Try.ntmps50
  go_wp2
  all_goals (go_ret; refine ⟨?_, HB.out _ _⟩; rw [HD.out]; simp [*])

set_option maxHeartbeats 1000000 in
theorem same_any (A C : Option Addr) (n m ca cc : Nat) (xs ys : List Lin) (F : Nat → Prop) (w : World) (ha : Row kLin w F A n xs) (hc : Row kLin w F C m ys) (hF : ∀ b, F b → b < w.heap.size) (hn : n ≤ 1000000000000) :
    Calls Try.prog 49 #[.slice A n ca, .slice C m cc, .func (.func 50) #[] #[]] w fun e w' => e = .returned (.bool (eqL sameB xs ys)) ∧ Below w.heap.size w w' := by
  have hl := ha.len
  have hl2 := hc.len
  have HL := Lib.hid (And.intro hl hl2)
  have HF := Lib.hid hF
  by_cases hnm : n = m
  · subst hnm
    have b0 : ((n : Int) != (n : Int)) = false := by simp
    have HT0 := Lib.hid (Two.mk ha hc (Below.refl w.heap.size w))
    clear ha hc hl hl2 hF
    go_enter Try.func49, Try.ntmps49
    go_wp2
    go_loopw [7] (fun s wr => ∃ k : Nat, s = .int .i64 k ∧ k ≤ n ∧ Hid (Two kLin w wr F A C n n xs ys) ∧ Hid (∀ (j : Nat) (x y : Lin), j < k → xs[j]? = some x → ys[j]? = some y → sameB x y = true)) (fun s _ => n - (intOf s).toNat)
    case atStart => exact ⟨0, rfl, by omega, HT0, Lib.hid fun j x y hj => by omega⟩
    case round =>
      clear HT0
      obtain ⟨k, rfl, hk, HT, HE⟩ := hrel
      by_cases hlt : k < n
      · obtain ⟨x, y, hx, hy⟩ := rows_get HT.out.a HT.out.c hlt
        obtain ⟨g, o, rfl, hg1, hg2, _, a0, a1, a2⟩ := row_Lin HT.out.a hx
        obtain ⟨g', o', rfl, hg3, hg4, _, d0, d1, d2⟩ := row_Lin HT.out.c hy
        have k0 : (0 : Int) ≤ (k : Int) := by omega
        have k1 : (k : Int) < (n : Int) := by omega
        have HXY := Lib.hid (And.intro hx hy)
        have HO : Hid (∀ W, Below wr.heap.size wr W → Calls Try.prog 50 #[.agg #[.string x.sku, .int .i64 x.qty, .int .i64 x.price], .agg #[.string y.sku, .int .i64 y.qty, .int .i64 y.price]] W fun e w' => e = .returned (.bool (sameB x y)) ∧ Below wr.heap.size wr w') := Lib.hid fun W hW => (eq_any x y W).mono fun e w' h => ⟨h.1, Hk.andThen hW h.2⟩
        have c0 : ∀ u, Below wr.heap.size wr u → u.cell? ⟨g, o + k * 3, none⟩ = some (.string x.sku) := fun u hu => (hu.cell (p := ⟨g, _, none⟩) hg2).trans a0
        have c1 : ∀ u, Below wr.heap.size wr u → u.cell? ⟨g, o + k * 3 + 1, none⟩ = some (.int .i64 x.qty) := fun u hu => (hu.cell (p := ⟨g, _, none⟩) hg2).trans a1
        have c2 : ∀ u, Below wr.heap.size wr u → u.cell? ⟨g, o + k * 3 + 2, none⟩ = some (.int .i64 x.price) := fun u hu => (hu.cell (p := ⟨g, _, none⟩) hg2).trans a2
        have e0 : ∀ u, Below wr.heap.size wr u → u.cell? ⟨g', o' + k * 3, none⟩ = some (.string y.sku) := fun u hu => (hu.cell (p := ⟨g', _, none⟩) hg4).trans d0
        have e1 : ∀ u, Below wr.heap.size wr u → u.cell? ⟨g', o' + k * 3 + 1, none⟩ = some (.int .i64 y.qty) := fun u hu => (hu.cell (p := ⟨g', _, none⟩) hg4).trans d1
        have e2 : ∀ u, Below wr.heap.size wr u → u.cell? ⟨g', o' + k * 3 + 2, none⟩ = some (.int .i64 y.price) := fun u hu => (hu.cell (p := ⟨g', _, none⟩) hg4).trans d2
        clear a0 a1 a2 d0 d1 d2 hx hy hg1 hg2 hg3 hg4
        cases hB : sameB x y with
        | true =>
          rw [hB] at HO
          have HB := Lib.hid hB
          clear hB
          go_wp2_with fail
          go_region_held3 (fun u => Below wr.heap.size wr u)
            (first
              | assumption
              | exact (Below.refl _ _).drew
              | exact Below.refl _ _)
            (first
              | (go_at_call 50; refine (HO.out _ (by first | assumption | exact (Below.refl _ _).drew)).mono ?_; rintro e wz ⟨rfl, hz⟩))
          have HT2 := Lib.hid (HT.out.on HF.out hz)
          clear hz
          go_wp2
          go_roundw
          case rel => exact ⟨k + 1, by go_num, by omega, HT2, Lib.hid fun j x' y' hj hx' hy' => by
            rcases Nat.lt_or_ge j k with h | h
            · exact HE.out j x' y' h hx' hy'
            · obtain rfl : j = k := by omega
              rw [HXY.out.1] at hx'
              rw [HXY.out.2] at hy'
              injection hx' with hx'
              injection hy' with hy'
              subst hx' hy'
              exact HB.out⟩
          case measure => simp [intOf]; omega
        | false =>
          rw [hB] at HO
          have HG := Lib.hid (eqL_no HXY.out.1 HXY.out.2 hB)
          clear hB
          go_wp2_with fail
          go_region_held3 (fun u => Below wr.heap.size wr u)
            (first
              | assumption
              | exact (Below.refl _ _).drew
              | exact Below.refl _ _)
            (first
              | (go_at_call 50; refine (HO.out _ (by first | assumption | exact (Below.refl _ _).drew)).mono ?_; rintro e wz ⟨rfl, hz⟩))
          have HT2 := Lib.hid (HT.out.on HF.out hz)
          clear hz
          go_wp2
          go_ret
          exact ⟨by rw [HG.out]; rfl, HT2.out.below⟩
      · have k1 : ¬ (k : Int) < (n : Int) := by omega
        have HG := Lib.hid (eqL_yes (eq := sameB) (HL.out.1.trans HL.out.2.symm) fun j x y hx hy => HE.out j x y (by
          have := (List.getElem?_eq_some_iff.1 hx).1
          rw [HL.out.1] at this
          omega) hx hy)
        go_wp2
        go_ret
        exact ⟨by rw [HG.out]; rfl, HT.out.below⟩
  · have b0 : ((n : Int) != (m : Int)) = true := by rw [bne_iff_ne]; omega
    have HG := Lib.hid (eqL_len (eq := sameB) (xs := xs) (ys := ys) (by omega))
    clear ha hc hl hl2 hnm hF
    go_enter Try.func49, Try.ntmps49
    go_wp2
    go_ret
    exact ⟨by rw [HG.out]; rfl, Below.refl _ _⟩

theorem plain_any (A C : Option Addr) (n m ca cc : Nat) (xs ys : List Lin) (F : Nat → Prop) (w : World) (ha : Row kLin w F A n xs) (hc : Row kLin w F C m ys) (hF : ∀ b, F b → b < w.heap.size) (hn : n ≤ 1000000000000) :
    Calls Try.prog 40 #[.slice A n ca, .slice C m cc] w fun e w' => e = .returned (.bool (eqL sameB xs ys)) ∧ Below w.heap.size w w' := by
  have HS := Lib.hid (same_any A C n m ca cc xs ys F w ha hc hF hn)
  clear ha hc hF
  go_enter Try.func40, Try.ntmps40
  go_wp2_with fail
  refine HS.out.mono ?_
  rintro e w1 ⟨rfl, hb⟩
  have HB := Lib.hid hb
  clear hb
  go_wp2
  go_ret
  exact ⟨rfl, HB.out⟩

theorem info_it : (Try.prog.info? 28).map (fun i => (i.zero, i.size, i.bytes)) = some (some (.agg #[.string ⟨#[]⟩, .int .i64 0, .int .i64 0]), 3, 32) := by kernel_rfl

theorem enc_one (x : Lin) : ∀ u ∈ x.enc, u.oneCell' = true := by
  intro u hu
  simp only [Lin.enc, List.mem_cons, List.not_mem_nil, or_false] at hu
  rcases hu with rfl | rfl | rfl <;> rfl

theorem cells_one {w : World} {F : Nat → Prop} : ∀ {xs : List Lin} {cs : List Value}, Cells kLin w F xs cs → ∀ u ∈ cs, u.oneCell' = true
  | [], _, h, u, hu => by cases h; cases hu
  | x :: xs, _, ⟨a, b, rfl, ha, hb⟩, u, hu => by
    rcases List.mem_append.1 hu with h1 | h1
    · obtain ⟨rfl, _⟩ := Lin_rep.1 ha
      exact enc_one x u h1
    · exact cells_one hb u h1

theorem row_t : Kd.RowT Try.prog kLin 23 28 (.agg #[.string ⟨#[]⟩, .int .i64 0, .int .i64 0]) 3 32 :=
  ⟨Try.underlying23, info_it, rfl, rfl, by omega, fun h => by
    obtain ⟨rfl, _⟩ := Lin_rep.1 h
    exact enc_one _⟩

theorem fill_cells {w : World} {F : Nat → Prop} {x : Lin} (hx : x.ok) : Cells kLin w F [x, x, x] (x.enc ++ (x.enc ++ (x.enc ++ []))) :=
  ⟨x.enc, _, rfl, Lin_rep.2 ⟨rfl, hx⟩, x.enc, _, rfl, Lin_rep.2 ⟨rfl, hx⟩, x.enc, _, rfl, Lin_rep.2 ⟨rfl, hx⟩, rfl⟩

set_option maxHeartbeats 1000000 in
theorem own_any (A : Option Addr) (n c : Nat) (xs : List Lin) (f : Lin) (w : World) (h : Row kLin w (· < w.heap.size) A n xs) (hfit : Fit A n c) (hf : f.ok) (hn : n ≤ 1000000000) :
    Calls Try.prog 10 #[.slice A n c, .agg #[.string f.sku, .int .i64 f.qty, .int .i64 f.price]] w fun e w' => Owned kLin e w w' n xs f := by
  obtain ⟨i0, hi0, hz0, hz1, hz2⟩ := info_parts info_it
  obtain ⟨M, hM1, hM2, hM3⟩ := Kd.made_row (P := Try.prog) Try.underlying23 info_it n (by omega) (by omega)
  obtain ⟨w1, hw1⟩ : ∃ w1, w.alloc (.cells #[.string f.sku, .int .i64 f.qty, .int .i64 f.price] 28) = w1 := ⟨_, rfl⟩
  have hb1 : Below w.heap.size w w1 := by rw [← hw1]; exact (Below.refl _ _).alloc (Nat.le_refl _) _
  have hs1 : w1.heap.size = w.heap.size + 1 := by rw [← hw1]; simp
  have hbx : Qu.Blk w1 w.heap.size 28 #[.string f.sku, .int .i64 f.qty, .int .i64 f.price] := by rw [← hw1]; exact Qu.Blk.new w _ _
  have HOW := Lib.hid (hM3 w1 w.heap.size (by omega))
  have hb2 : Below w.heap.size w (w1.alloc (.cells M 28)) := hb1.alloc (by omega) _
  obtain ⟨news, hnl, hnc, hna⟩ := Kd.news_of h hb2
  have HN := Lib.hid (And.intro hnl (And.intro hnc (And.intro hna (And.intro hfit.1 (cells_one hnc)))))
  obtain ⟨L, hL⟩ : ∃ L, news ++ (f.enc ++ (f.enc ++ (f.enc ++ []))) = L := ⟨_, rfl⟩
  have HL := Lib.hid hL
  have HW : Hid (∀ w4, (w4.ownsRow w.heap.size 28 3 (.slice (some ⟨w1.heap.size, 0, none⟩) n (n + 3)) n news) → (w1.alloc (.cells M 28)).grownBy w4 (some w1.heap.size) → Filling w w4 w1.heap.size 28 ((n + 3) * 3) (n * 3) L ∧ Qu.Blk w4 w.heap.size 28 #[.string f.sku, .int .i64 f.qty, .int .i64 f.price]) := Lib.hid (fun w4 ho hg => ⟨Filling.begin ho rfl (fun j v hj => by rw [← HL.out, List.getElem?_append_left (List.getElem?_eq_some_iff.1 hj).1]; exact hj) (hb2.grown hg (by simp; omega) (fun k hk => by injection hk with hk; omega)), (hbx.alloc _).grown hg (by intro e; injection e with e; omega)⟩)
  have HLs : Hid (∀ k, n ≤ k → k < n + 3 → ∀ (j : Nat) (v : Value), f.enc[j]? = some v → L[k * 3 + j]? = some v) := Lib.hid (fun k hk hk3 j v hj => by
    have hj4 := (List.getElem?_eq_some_iff.1 hj).1
    have he4 : f.enc.length = 3 := rfl
    have hnl4 : news.length = n * 3 := hnl
    rw [← HL.out, List.getElem?_append_right (by omega)]
    obtain h | h | h : k = n ∨ k = n + 1 ∨ k = n + 2 := by omega
    · rw [List.getElem?_append_left (by omega), show k * 3 + j - news.length = j by omega]; exact hj
    · rw [List.getElem?_append_right (by omega), List.getElem?_append_left (by omega), show k * 3 + j - news.length - f.enc.length = j by omega]; exact hj
    · rw [List.getElem?_append_right (by omega), List.getElem?_append_right (by omega), List.getElem?_append_left (by omega), show k * 3 + j - news.length - f.enc.length - f.enc.length = j by omega]; exact hj)
  have HE : Hid (∀ wr, Filling w wr w1.heap.size 28 ((n + 3) * 3) ((n + 3) * 3) L → Owned kLin (.returned (.slice (some ⟨w1.heap.size, 0, none⟩) n (n + 3))) w wr n xs f) := Lib.hid (fun wr hfl => by
    obtain ⟨cur, hbk, _, _⟩ := hfl.blk
    refine ⟨w1.heap.size, rfl, by omega, hbk.lt, ?_, hfl.below⟩
    refine Filling.row (K := kLin) (n := n + 3) hfl (by rw [List.length_append, h.len]; rfl) ?_ hbk.lt
    rw [← HL.out]
    have h1 : Cells kLin wr (· < w.heap.size) xs news := hnc.stay (Agree.below hfl.below (Nat.le_refl _))
    exact (h1.more fun b hb => Nat.lt_of_lt_of_le hb hfl.below.size).append (fill_cells hf))
  have n1 : (n : Int) ≤ 1000000000 := by omega
  have g0 : w.heap.size < w1.heap.size := by omega
  clear h hfit hf hnl hnc hna hL hb1 hs1 hbx hb2 hM3 hM1
  go_enter Try.func10, Try.ntmps10
  go_wp2_with ((at_builtin; refine wpList_append_fits_any _ rfl _ _ 23 rfl w.heap.size 28 i0 3 Try.underlying23 hi0 hz1 w1.heap.size 0 (n + 3) [] rfl HOW.out A n c news rfl HN.out.1 HN.out.2.2.2.1 HN.out.2.2.1 HN.out.2.2.2.2 (by omega) ?_; intro w4 hown hgrow))
  simp only [Nat.zero_add, List.nil_append] at hown
  have HF0 := Lib.hid (HW.out w4 hown hgrow)
  clear hown hgrow
  go_loopw [7] (fun s wr => ∃ k : Nat, s = .int .i64 k ∧ n ≤ k ∧ k ≤ n + 3 ∧ Hid (Filling w wr w1.heap.size 28 ((n + 3) * 3) (k * 3) L ∧ Qu.Blk wr w.heap.size 28 #[.string f.sku, .int .i64 f.qty, .int .i64 f.price])) (fun s _ => n + 3 - (intOf s).toNat)
  case atStart => exact ⟨n, rfl, Nat.le_refl _, by omega, HF0⟩
  case round =>
    clear HF0
    obtain ⟨k, rfl, hk, hk3, hF⟩ := hrel
    have k0 : (0 : Int) ≤ (k : Int) := by omega
    have kk : (k : Int) ≤ 1000000003 := by omega
    by_cases hlt : k < n + 3
    · have k1 : (k : Int) < (n : Int) + 3 := by omega
      have HS : Hid (Filling w (wr.setCells w1.heap.size (k * 3) f.enc) w1.heap.size 28 ((n + 3) * 3) ((k + 1) * 3) L ∧ Qu.Blk (wr.setCells w1.heap.size (k * 3) f.enc) w.heap.size 28 #[.string f.sku, .int .i64 f.qty, .int .i64 f.price]) := Lib.hid (by
        have h1 := hF.out.1.step (vs := f.enc) (HLs.out k hk hlt) (by show k * 3 + 3 ≤ _; omega)
        have e : k * 3 + f.enc.length = (k + 1) * 3 := by show k * 3 + 3 = _; omega
        rw [e] at h1
        refine ⟨h1, hF.out.2.as (Below.block (Kd.below_puts (B := w.heap.size + 1) (by omega) f.enc wr (k * 3) (Below.refl _ _)) _ (by omega))⟩)
      have b0 := hF.out.2.cell 0
      have b1 := hF.out.2.cell 1
      have b2 := hF.out.2.cell 2
      obtain ⟨⟨v0, t0⟩, f0⟩ := hF.out.1.there (j := k * 3) (by omega)
      obtain ⟨⟨v1, t1⟩, f1⟩ := hF.out.1.there (j := k * 3 + 1) (by omega)
      obtain ⟨⟨v2, t2⟩, f2⟩ := hF.out.1.there (j := k * 3 + 2) (by omega)
      change Hid (Filling w (((wr.setCell ⟨w1.heap.size, k * 3, none⟩ (.string f.sku)).setCell ⟨w1.heap.size, k * 3 + 1, none⟩ (.int .i64 f.qty)).setCell ⟨w1.heap.size, k * 3 + 2, none⟩ (.int .i64 f.price)) w1.heap.size 28 ((n + 3) * 3) ((k + 1) * 3) L ∧ Qu.Blk (((wr.setCell ⟨w1.heap.size, k * 3, none⟩ (.string f.sku)).setCell ⟨w1.heap.size, k * 3 + 1, none⟩ (.int .i64 f.qty)).setCell ⟨w1.heap.size, k * 3 + 2, none⟩ (.int .i64 f.price)) w.heap.size 28 #[.string f.sku, .int .i64 f.qty, .int .i64 f.price]) at HS
      clear hF
      go_wp2
      go_roundw
      case rel => exact ⟨k + 1, by go_num, by omega, by omega, HS⟩
      case measure => simp [intOf]; omega
    · have k1 : ¬ (k : Int) < (n : Int) + 3 := by omega
      obtain rfl : k = n + 3 := by omega
      have HO := Lib.hid (HE.out _ hF.out.1)
      clear hF
      go_wp2
      go_ret
      exact HO.out

/-- The copy, the box of what fills it, and what there was. -/
structure Keep (w wr : World) (F : Nat → Prop) (A : Option Addr) (n b : Nat) (xs : List Lin) (f : Lin) : Prop where
  row : Row kLin wr F A (n + 3) (xs ++ [f, f, f])
  box : Qu.Blk wr b 28 #[.string f.sku, .int .i64 f.qty, .int .i64 f.price]
  below : Below w.heap.size w wr

theorem Keep.on {w wr w' : World} {F : Nat → Prop} {A : Option Addr} {n b : Nat} {xs : List Lin} {f : Lin} (h : Keep w wr F A n b xs f) (hF : ∀ b, F b → b < w.heap.size) (hb : Below wr.heap.size wr w') : Keep w w' F A n b xs f :=
  ⟨h.row.stay fun b hb2 => hb.block b (Nat.lt_of_lt_of_le (hF b hb2) h.below.size), h.box.below hb, Hk.andThen h.below hb⟩

theorem behind {xs : List Lin} {f : Lin} {n k : Nat} (hx : xs.length = n) (hk : n ≤ k) (hk3 : k < n + 3) : (xs ++ [f, f, f])[k]? = some f := by
  rw [List.getElem?_append_right (by omega), hx]
  obtain h | h | h : k = n ∨ k = n + 1 ∨ k = n + 2 := by omega
  · rw [show k - n = 0 by omega]; rfl
  · rw [show k - n = 1 by omega]; rfl
  · rw [show k - n = 2 by omega]; rfl

set_option maxHeartbeats 1000000 in
/-- A copy, with three more behind it, and what it was made of, are as they were. -/
theorem kept_any (A C : Option Addr) (n c : Nat) (xs : List Lin) (f : Lin) (F : Nat → Prop) (w : World) (ha : Row kLin w F A (n + 3) (xs ++ [f, f, f])) (hc : Row kLin w F C n xs) (hF : ∀ b, F b → b < w.heap.size) (hn : n ≤ 1000000000) :
    Calls Try.prog 22 #[.slice A n (n + 3), .slice C n c, .agg #[.string f.sku, .int .i64 f.qty, .int .i64 f.price]] w fun e w' => e = .returned (.bool true) ∧ Below w.heap.size w w' := by
  have hl := hc.len
  have HL := Lib.hid hl
  have n1 : (n : Int) ≤ 1000000000 := by omega
  have HF := Lib.hid hF
  have hS : ∀ W, (Instr.slice 23 (.slice A n (n + 3)) none (some (.int .i64 ((n : Int) + 3))) none).run Try.prog W = .ok (.slice A (n + 3) (n + 3)) W := fun W => by
    have := Kd.slice_to (P := Try.prog) (sz := 3) Try.underlying23 (fun W => by kernel_rfl) A n (n + 3) (n + 3) (Nat.le_refl _) W
    rw [show (((n + 3 : Nat)) : Int) = (n : Int) + 3 by omega] at this
    exact this
  have HS := Lib.hid hS
  have HK0 : Hid (∀ o, o = Obj.cells #[.string f.sku, .int .i64 f.qty, .int .i64 f.price] 28 → Keep w (w.alloc o) F A n w.heap.size xs f) := Lib.hid (fun o ho => by
    subst ho
    exact ⟨ha.stay (Agree.alloc _ hF), Qu.Blk.new w _ _, (Below.refl _ _).alloc (Nat.le_refl _) _⟩)
  have HP : Hid (∀ o, o = Obj.cells #[.string f.sku, .int .i64 f.qty, .int .i64 f.price] 28 → Calls Try.prog 40 #[.slice A n (n + 3), .slice C n c] (w.alloc o) fun e w' => e = .returned (.bool true) ∧ Below (w.alloc o).heap.size (w.alloc o) w') := Lib.hid (fun o ho => by
    have h1 := plain_any A C n n (n + 3) c xs xs F (w.alloc o) (Kd.row_front (ha.stay (Agree.alloc _ hF)) hl) (hc.stay (Agree.alloc _ hF)) (fun b hb => by have := hF b hb; simp; omega) (by omega)
    rw [eqL_refl sameB_refl] at h1
    exact h1)
  clear ha hc hl hF hS
  go_enter Try.func22, Try.ntmps22
  go_wp2_with fail
  refine (HP.out _ rfl).mono ?_
  rintro e w1 ⟨rfl, hb⟩
  have HK := Lib.hid ((HK0.out _ rfl).on HF.out hb)
  have hS := HS.out w1
  clear hb HP HK0
  go_wp2
  go_loopw [8] (fun s wr => ∃ k : Nat, s = .int .i64 k ∧ n ≤ k ∧ k ≤ n + 3 ∧ Hid (Keep w wr F A n w.heap.size xs f)) (fun s _ => n + 3 - (intOf s).toNat)
  case atStart => exact ⟨n, rfl, Nat.le_refl _, by omega, HK⟩
  case round =>
    clear HK
    obtain ⟨k, rfl, hk, hk3, hK⟩ := hrel
    have k0 : (0 : Int) ≤ (k : Int) := by omega
    have kk : (k : Int) ≤ 1000000003 := by omega
    by_cases hlt : k < n + 3
    · have k1 : (k : Int) < (n : Int) + 3 := by omega
      obtain ⟨g, o, rfl, _, _, hok, c0, c1, c2⟩ := row_Lin hK.out.row (behind HL.out hk hlt)
      have b0 := hK.out.box.cell 0
      have b1 := hK.out.box.cell 1
      have b2 := hK.out.box.cell 2
      clear hok
      go_wp2_with fail
      go_quiet (fail)
      have HK2 := Lib.hid (hK.out.on HF.out (Qu.below_draws (Below.refl _ _) nq))
      go_wp2
      go_roundw
      case rel => exact ⟨k + 1, by go_num, by omega, by omega, HK2⟩
      case measure => simp [intOf]; omega
    · have k1 : ¬ (k : Int) < (n : Int) + 3 := by omega
      go_wp2
      go_ret
      exact ⟨rfl, hK.out.below⟩

end Go.Proofs.Ytdmpnkhgcggepaa.Ap.Lin
