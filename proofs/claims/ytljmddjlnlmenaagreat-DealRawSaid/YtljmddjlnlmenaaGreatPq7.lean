/- The statements' helpers on api.Unit: Same, Plain, Own, Kept. · Contracts of the statements' plain things: Mod, Mod64, Sk .. -/
import Derived.Deep.RegionHeld3
import Derived.Laws.Concat
import Derived.Laws.StructEq
import Derived.Test.YtljmddjlnlmenaaGreatPq1
import Derived.Test.YtljmddjlnlmenaaGreatPq2
set_option maxRecDepth 100000
set_option linter.unusedVariables false

section
namespace Go.Proofs.YtljmddjlnlmenaaGreat.Ap.Unt
open Go.ChangeShapes Go.WideShapes Go.ChangeAt Go.RowKit
open Kd (Kind Row Own Cells Reads Fields Fit Agree kInt kStr kFlag kPair kVia Filling Owned eqL eqL_len eqL_no eqL_yes eqL_refl Two rows_get)
def sameB (x y : Unt) : Bool := (x.line == y.line) && (x.net == y.net) && (x.opn == y.opn)
theorem sameB_refl (x : Unt) : sameB x x = true := by
  unfold sameB
  simp
set_option maxHeartbeats 1000000 in
theorem eq_any (x y : Unt) (w : World) : Calls Tryz.prog 46 #[.agg #[.int .i64 x.line, .int .i64 x.net, .bool x.opn], .agg #[.int .i64 y.line, .int .i64 y.net, .bool y.opn]] w fun e w' => e = .returned (.bool (sameB x y)) /\ Below w.heap.size w w' := by
  have hd : sameB x y = ((x.line == y.line) && (x.net == y.net) && (x.opn == y.opn)) := rfl
  have HD := Lib.hid hd
  have HB : Hid (∀ o p, Below w.heap.size w ((w.alloc o).alloc p)) := Lib.hid fun o p => ((Below.refl _ _).alloc (Nat.le_refl _) _).alloc (by simp) _
  clear hd
  go_enter Tryz.func46, Tryz.ntmps46
  go_wp2
  all_goals (go_ret; refine ⟨?_, HB.out _ _⟩; rw [HD.out]; simp [*])
set_option maxHeartbeats 1000000 in
theorem same_any (A C : Option Addr) (n m ca cc : Nat) (xs ys : List Unt) (F : Nat -> Prop) (w : World) (ha : Row kUnt w F A n xs) (hc : Row kUnt w F C m ys) (hF : ∀ b, F b -> b < w.heap.size) (hn : n <= 1000000000000) :
    Calls Tryz.prog 45 #[.slice A n ca, .slice C m cc, .func (.func 46) #[] #[]] w fun e w' => e = .returned (.bool (eqL sameB xs ys)) /\ Below w.heap.size w w' := by
  have hl := ha.len
  have hl2 := hc.len
  have HL := Lib.hid (And.intro hl hl2)
  have HF := Lib.hid hF
  by_cases hnm : n = m
  . subst hnm
    have b0 : ((n : Int) != (n : Int)) = false := by simp
    have HT0 := Lib.hid (Two.mk ha hc (Below.refl w.heap.size w))
    clear ha hc hl hl2 hF
    go_enter Tryz.func45, Tryz.ntmps45
    go_wp2
    go_loopw [7] (fun s wr => ∃ k : Nat, s = .int .i64 k /\ k <= n /\ Hid (Two kUnt w wr F A C n n xs ys) /\ Hid (∀ (j : Nat) (x y : Unt), j < k -> xs[j]? = some x -> ys[j]? = some y -> sameB x y = true)) (fun s _ => n - (intOf s).toNat)
    case atStart => exact ⟨0, rfl, by omega, HT0, Lib.hid fun j x y hj => by omega⟩
    case round =>
      clear HT0
      obtain ⟨k, rfl, hk, HT, HE⟩ := hrel
      by_cases hlt : k < n
      . obtain ⟨x, y, hx, hy⟩ := rows_get HT.out.a HT.out.c hlt
        obtain ⟨g, o, rfl, hg1, hg2, _, a0, a1, a2⟩ := row_Unt HT.out.a hx
        obtain ⟨g', o', rfl, hg3, hg4, _, d0, d1, d2⟩ := row_Unt HT.out.c hy
        have k0 : (0 : Int) <= (k : Int) := by omega
        have k1 : (k : Int) < (n : Int) := by omega
        have HXY := Lib.hid (And.intro hx hy)
        have HO : Hid (∀ W, Below wr.heap.size wr W -> Calls Tryz.prog 46 #[.agg #[.int .i64 x.line, .int .i64 x.net, .bool x.opn], .agg #[.int .i64 y.line, .int .i64 y.net, .bool y.opn]] W fun e w' => e = .returned (.bool (sameB x y)) /\ Below wr.heap.size wr w') := Lib.hid fun W hW => (eq_any x y W).mono fun e w' h => ⟨h.1, Hk.andThen hW h.2⟩
        have c0 : ∀ u, Below wr.heap.size wr u -> u.cell? ⟨g, o + k * 3, none⟩ = some (.int .i64 x.line) := fun u hu => (hu.cell (p := ⟨g, _, none⟩) hg2).trans a0
        have c1 : ∀ u, Below wr.heap.size wr u -> u.cell? ⟨g, o + k * 3 + 1, none⟩ = some (.int .i64 x.net) := fun u hu => (hu.cell (p := ⟨g, _, none⟩) hg2).trans a1
        have c2 : ∀ u, Below wr.heap.size wr u -> u.cell? ⟨g, o + k * 3 + 2, none⟩ = some (.bool x.opn) := fun u hu => (hu.cell (p := ⟨g, _, none⟩) hg2).trans a2
        have e0 : ∀ u, Below wr.heap.size wr u -> u.cell? ⟨g', o' + k * 3, none⟩ = some (.int .i64 y.line) := fun u hu => (hu.cell (p := ⟨g', _, none⟩) hg4).trans d0
        have e1 : ∀ u, Below wr.heap.size wr u -> u.cell? ⟨g', o' + k * 3 + 1, none⟩ = some (.int .i64 y.net) := fun u hu => (hu.cell (p := ⟨g', _, none⟩) hg4).trans d1
        have e2 : ∀ u, Below wr.heap.size wr u -> u.cell? ⟨g', o' + k * 3 + 2, none⟩ = some (.bool y.opn) := fun u hu => (hu.cell (p := ⟨g', _, none⟩) hg4).trans d2
        clear a0 a1 a2 d0 d1 d2 hx hy hg1 hg2 hg3 hg4
        cases hB : sameB x y with
        | true =>
          rw [hB] at HO
          have HB := Lib.hid hB
          clear hB
          go_wp2_with fail
          go_region_held3 (fun u => Below wr.heap.size wr u)
            (first
              | assumption
              | exact (Below.refl _ _).drew
              | exact Below.refl _ _)
            (first
              | (go_at_call 46; refine (HO.out _ (by first | assumption | exact (Below.refl _ _).drew)).mono ?_; rintro e wz ⟨rfl, hz⟩))
          have HT2 := Lib.hid (HT.out.on HF.out hz)
          clear hz
          go_wp2
          go_roundw
          case rel => exact ⟨k + 1, by go_num, by omega, HT2, Lib.hid fun j x' y' hj hx' hy' => by
            rcases Nat.lt_or_ge j k with h | h
            . exact HE.out j x' y' h hx' hy'
            . obtain rfl : j = k := by omega
              rw [HXY.out.1] at hx'
              rw [HXY.out.2] at hy'
              injection hx' with hx'
              injection hy' with hy'
              subst hx' hy'
              exact HB.out⟩
          case measure => simp [intOf]; omega
        | false =>
          rw [hB] at HO
          have HG := Lib.hid (eqL_no HXY.out.1 HXY.out.2 hB)
          clear hB
          go_wp2_with fail
          go_region_held3 (fun u => Below wr.heap.size wr u)
            (first
              | assumption
              | exact (Below.refl _ _).drew
              | exact Below.refl _ _)
            (first
              | (go_at_call 46; refine (HO.out _ (by first | assumption | exact (Below.refl _ _).drew)).mono ?_; rintro e wz ⟨rfl, hz⟩))
          have HT2 := Lib.hid (HT.out.on HF.out hz)
          clear hz
          go_wp2
          go_ret
          exact ⟨by rw [HG.out]; rfl, HT2.out.below⟩
      . have k1 : ¬ (k : Int) < (n : Int) := by omega
        have HG := Lib.hid (eqL_yes (eq := sameB) (HL.out.1.trans HL.out.2.symm) fun j x y hx hy => HE.out j x y (by
          have := (List.getElem?_eq_some_iff.1 hx).1
          rw [HL.out.1] at this
          omega) hx hy)
        go_wp2
        go_ret
        exact ⟨by rw [HG.out]; rfl, HT.out.below⟩
  . have b0 : ((n : Int) != (m : Int)) = true := by rw [bne_iff_ne]; omega
    have HG := Lib.hid (eqL_len (eq := sameB) (xs := xs) (ys := ys) (by omega))
    clear ha hc hl hl2 hnm hF
    go_enter Tryz.func45, Tryz.ntmps45
    go_wp2
    go_ret
    exact ⟨by rw [HG.out]; rfl, Below.refl _ _⟩
theorem plain_any (A C : Option Addr) (n m ca cc : Nat) (xs ys : List Unt) (F : Nat -> Prop) (w : World) (ha : Row kUnt w F A n xs) (hc : Row kUnt w F C m ys) (hF : ∀ b, F b -> b < w.heap.size) (hn : n <= 1000000000000) :
    Calls Tryz.prog 15 #[.slice A n ca, .slice C m cc] w fun e w' => e = .returned (.bool (eqL sameB xs ys)) /\ Below w.heap.size w w' := by
  have HS := Lib.hid (same_any A C n m ca cc xs ys F w ha hc hF hn)
  clear ha hc hF
  go_enter Tryz.func15, Tryz.ntmps15
  go_wp2_with fail
  refine HS.out.mono ?_
  rintro e w1 ⟨rfl, hb⟩
  have HB := Lib.hid hb
  clear hb
  go_wp2
  go_ret
  exact ⟨rfl, HB.out⟩
theorem info_it : (Tryz.prog.info? 35).map (fun i => (i.zero, i.size, i.bytes)) = some (some (.agg #[.int .i64 0, .int .i64 0, .bool false]), 3, 24) := by kernel_rfl
theorem enc_one (x : Unt) : ∀ u ∈ x.enc, u.oneCell' = true := by
  intro u hu
  simp only [Unt.enc, List.mem_cons, List.not_mem_nil, or_false] at hu
  rcases hu with rfl | rfl | rfl <;> rfl
theorem cells_one {w : World} {F : Nat -> Prop} : ∀ {xs : List Unt} {cs : List Value}, Cells kUnt w F xs cs -> ∀ u ∈ cs, u.oneCell' = true
  | [], _, h, u, hu => by cases h; cases hu
  | x :: xs, _, ⟨a, b, rfl, ha, hb⟩, u, hu => by
    rcases List.mem_append.1 hu with h1 | h1
    . obtain ⟨rfl, _⟩ := Unt_rep.1 ha
      exact enc_one x u h1
    . exact cells_one hb u h1
theorem row_t : Kd.RowT Tryz.prog kUnt 29 35 (.agg #[.int .i64 0, .int .i64 0, .bool false]) 3 24 :=
  ⟨Tryz.underlying29, info_it, rfl, rfl, by omega, fun h => by
    obtain ⟨rfl, _⟩ := Unt_rep.1 h
    exact enc_one _⟩
theorem fill_cells {w : World} {F : Nat -> Prop} {x : Unt} (hx : x.ok) : Cells kUnt w F [x, x, x] (x.enc ++ (x.enc ++ (x.enc ++ []))) :=
  ⟨x.enc, _, rfl, Unt_rep.2 ⟨rfl, hx⟩, x.enc, _, rfl, Unt_rep.2 ⟨rfl, hx⟩, x.enc, _, rfl, Unt_rep.2 ⟨rfl, hx⟩, rfl⟩
set_option maxHeartbeats 1000000 in
theorem own_any (A : Option Addr) (n c : Nat) (xs : List Unt) (f : Unt) (w : World) (h : Row kUnt w (· < w.heap.size) A n xs) (hfit : Fit A n c) (hf : f.ok) (hn : n <= 1000000000) :
    Calls Tryz.prog 9 #[.slice A n c, .agg #[.int .i64 f.line, .int .i64 f.net, .bool f.opn]] w fun e w' => Owned kUnt e w w' n xs f := by
  obtain ⟨i0, hi0, hz0, hz1, hz2⟩ := info_parts info_it
  obtain ⟨M, hM1, hM2, hM3⟩ := Kd.made_row (P := Tryz.prog) Tryz.underlying29 info_it n (by omega) (by omega)
  obtain ⟨w1, hw1⟩ : ∃ w1, w.alloc (.cells #[.int .i64 f.line, .int .i64 f.net, .bool f.opn] 35) = w1 := ⟨_, rfl⟩
  have hb1 : Below w.heap.size w w1 := by rw [<- hw1]; exact (Below.refl _ _).alloc (Nat.le_refl _) _
  have hs1 : w1.heap.size = w.heap.size + 1 := by rw [<- hw1]; simp
  have hbx : Qu.Blk w1 w.heap.size 35 #[.int .i64 f.line, .int .i64 f.net, .bool f.opn] := by rw [<- hw1]; exact Qu.Blk.new w _ _
  have HOW := Lib.hid (hM3 w1 w.heap.size (by omega))
  have hb2 : Below w.heap.size w (w1.alloc (.cells M 35)) := hb1.alloc (by omega) _
  obtain ⟨news, hnl, hnc, hna⟩ := Kd.news_of h hb2
  have HN := Lib.hid (And.intro hnl (And.intro hnc (And.intro hna (And.intro hfit.1 (cells_one hnc)))))
  obtain ⟨L, hL⟩ : ∃ L, news ++ (f.enc ++ (f.enc ++ (f.enc ++ []))) = L := ⟨_, rfl⟩
  have HL := Lib.hid hL
  have HW : Hid (∀ w4, (w4.ownsRow w.heap.size 35 3 (.slice (some ⟨w1.heap.size, 0, none⟩) n (n + 3)) n news) -> (w1.alloc (.cells M 35)).grownBy w4 (some w1.heap.size) -> Filling w w4 w1.heap.size 35 ((n + 3) * 3) (n * 3) L /\ Qu.Blk w4 w.heap.size 35 #[.int .i64 f.line, .int .i64 f.net, .bool f.opn]) := Lib.hid (fun w4 ho hg => ⟨Filling.begin ho rfl (fun j v hj => by rw [<- HL.out, List.getElem?_append_left (List.getElem?_eq_some_iff.1 hj).1]; exact hj) (hb2.grown hg (by simp; omega) (fun k hk => by injection hk with hk; omega)), (hbx.alloc _).grown hg (by intro e; injection e with e; omega)⟩)
  have HLs : Hid (∀ k, n <= k -> k < n + 3 -> ∀ (j : Nat) (v : Value), f.enc[j]? = some v -> L[k * 3 + j]? = some v) := Lib.hid (fun k hk hk3 j v hj => by
    have hj4 := (List.getElem?_eq_some_iff.1 hj).1
    have he4 : f.enc.length = 3 := rfl
    have hnl4 : news.length = n * 3 := hnl
    rw [<- HL.out, List.getElem?_append_right (by omega)]
    obtain h | h | h : k = n \/ k = n + 1 \/ k = n + 2 := by omega
    . rw [List.getElem?_append_left (by omega), show k * 3 + j - news.length = j by omega]; exact hj
    . rw [List.getElem?_append_right (by omega), List.getElem?_append_left (by omega), show k * 3 + j - news.length - f.enc.length = j by omega]; exact hj
    . rw [List.getElem?_append_right (by omega), List.getElem?_append_right (by omega), List.getElem?_append_left (by omega), show k * 3 + j - news.length - f.enc.length - f.enc.length = j by omega]; exact hj)
  have HE : Hid (∀ wr, Filling w wr w1.heap.size 35 ((n + 3) * 3) ((n + 3) * 3) L -> Owned kUnt (.returned (.slice (some ⟨w1.heap.size, 0, none⟩) n (n + 3))) w wr n xs f) := Lib.hid (fun wr hfl => by
    obtain ⟨cur, hbk, _, _⟩ := hfl.blk
    refine ⟨w1.heap.size, rfl, by omega, hbk.lt, ?_, hfl.below⟩
    refine Filling.row (K := kUnt) (n := n + 3) hfl (by rw [List.length_append, h.len]; rfl) ?_ hbk.lt
    rw [<- HL.out]
    have h1 : Cells kUnt wr (· < w.heap.size) xs news := hnc.stay (Agree.below hfl.below (Nat.le_refl _))
    exact (h1.more fun b hb => Nat.lt_of_lt_of_le hb hfl.below.size).append (fill_cells hf))
  have n1 : (n : Int) <= 1000000000 := by omega
  have g0 : w.heap.size < w1.heap.size := by omega
  clear h hfit hf hnl hnc hna hL hb1 hs1 hbx hb2 hM3 hM1
  go_enter Tryz.func9, Tryz.ntmps9
  go_wp2_with ((at_builtin; refine wpList_append_fits_any _ rfl _ _ 29 rfl w.heap.size 35 i0 3 Tryz.underlying29 hi0 hz1 w1.heap.size 0 (n + 3) [] rfl HOW.out A n c news rfl HN.out.1 HN.out.2.2.2.1 HN.out.2.2.1 HN.out.2.2.2.2 (by omega) ?_; intro w4 hown hgrow))
  simp only [Nat.zero_add, List.nil_append] at hown
  have HF0 := Lib.hid (HW.out w4 hown hgrow)
  clear hown hgrow
  go_loopw [7] (fun s wr => ∃ k : Nat, s = .int .i64 k /\ n <= k /\ k <= n + 3 /\ Hid (Filling w wr w1.heap.size 35 ((n + 3) * 3) (k * 3) L /\ Qu.Blk wr w.heap.size 35 #[.int .i64 f.line, .int .i64 f.net, .bool f.opn])) (fun s _ => n + 3 - (intOf s).toNat)
  case atStart => exact ⟨n, rfl, Nat.le_refl _, by omega, HF0⟩
  case round =>
    clear HF0
    obtain ⟨k, rfl, hk, hk3, hF⟩ := hrel
    have k0 : (0 : Int) <= (k : Int) := by omega
    have kk : (k : Int) <= 1000000003 := by omega
    by_cases hlt : k < n + 3
    . have k1 : (k : Int) < (n : Int) + 3 := by omega
      have HS : Hid (Filling w (wr.setCells w1.heap.size (k * 3) f.enc) w1.heap.size 35 ((n + 3) * 3) ((k + 1) * 3) L /\ Qu.Blk (wr.setCells w1.heap.size (k * 3) f.enc) w.heap.size 35 #[.int .i64 f.line, .int .i64 f.net, .bool f.opn]) := Lib.hid (by
        have h1 := hF.out.1.step (vs := f.enc) (HLs.out k hk hlt) (by show k * 3 + 3 <= _; omega)
        have e : k * 3 + f.enc.length = (k + 1) * 3 := by show k * 3 + 3 = _; omega
        rw [e] at h1
        refine ⟨h1, hF.out.2.as (Below.block (Kd.below_puts (B := w.heap.size + 1) (by omega) f.enc wr (k * 3) (Below.refl _ _)) _ (by omega))⟩)
      have b0 := hF.out.2.cell 0
      have b1 := hF.out.2.cell 1
      have b2 := hF.out.2.cell 2
      obtain ⟨⟨v0, t0⟩, f0⟩ := hF.out.1.there (j := k * 3) (by omega)
      obtain ⟨⟨v1, t1⟩, f1⟩ := hF.out.1.there (j := k * 3 + 1) (by omega)
      obtain ⟨⟨v2, t2⟩, f2⟩ := hF.out.1.there (j := k * 3 + 2) (by omega)
      change Hid (Filling w (((wr.setCell ⟨w1.heap.size, k * 3, none⟩ (.int .i64 f.line)).setCell ⟨w1.heap.size, k * 3 + 1, none⟩ (.int .i64 f.net)).setCell ⟨w1.heap.size, k * 3 + 2, none⟩ (.bool f.opn)) w1.heap.size 35 ((n + 3) * 3) ((k + 1) * 3) L /\ Qu.Blk (((wr.setCell ⟨w1.heap.size, k * 3, none⟩ (.int .i64 f.line)).setCell ⟨w1.heap.size, k * 3 + 1, none⟩ (.int .i64 f.net)).setCell ⟨w1.heap.size, k * 3 + 2, none⟩ (.bool f.opn)) w.heap.size 35 #[.int .i64 f.line, .int .i64 f.net, .bool f.opn]) at HS
      clear hF
      go_wp2
      go_roundw
      case rel => exact ⟨k + 1, by go_num, by omega, by omega, HS⟩
      case measure => simp [intOf]; omega
    . have k1 : ¬ (k : Int) < (n : Int) + 3 := by omega
      obtain rfl : k = n + 3 := by omega
      have HO := Lib.hid (HE.out _ hF.out.1)
      clear hF
      go_wp2
      go_ret
      exact HO.out
structure Keep (w wr : World) (F : Nat -> Prop) (A : Option Addr) (n b : Nat) (xs : List Unt) (f : Unt) : Prop where
  row : Row kUnt wr F A (n + 3) (xs ++ [f, f, f])
  box : Qu.Blk wr b 35 #[.int .i64 f.line, .int .i64 f.net, .bool f.opn]
  below : Below w.heap.size w wr
theorem Keep.on {w wr w' : World} {F : Nat -> Prop} {A : Option Addr} {n b : Nat} {xs : List Unt} {f : Unt} (h : Keep w wr F A n b xs f) (hF : ∀ b, F b -> b < w.heap.size) (hb : Below wr.heap.size wr w') : Keep w w' F A n b xs f :=
  ⟨h.row.stay fun b hb2 => hb.block b (Nat.lt_of_lt_of_le (hF b hb2) h.below.size), h.box.below hb, Hk.andThen h.below hb⟩
theorem behind {xs : List Unt} {f : Unt} {n k : Nat} (hx : xs.length = n) (hk : n <= k) (hk3 : k < n + 3) : (xs ++ [f, f, f])[k]? = some f := by
  rw [List.getElem?_append_right (by omega), hx]
  obtain h | h | h : k = n \/ k = n + 1 \/ k = n + 2 := by omega
  . rw [show k - n = 0 by omega]; rfl
  . rw [show k - n = 1 by omega]; rfl
  . rw [show k - n = 2 by omega]; rfl
set_option maxHeartbeats 1000000 in
theorem kept_any (A C : Option Addr) (n c : Nat) (xs : List Unt) (f : Unt) (F : Nat -> Prop) (w : World) (ha : Row kUnt w F A (n + 3) (xs ++ [f, f, f])) (hc : Row kUnt w F C n xs) (hF : ∀ b, F b -> b < w.heap.size) (hn : n <= 1000000000) :
    Calls Tryz.prog 16 #[.slice A n (n + 3), .slice C n c, .agg #[.int .i64 f.line, .int .i64 f.net, .bool f.opn]] w fun e w' => e = .returned (.bool true) /\ Below w.heap.size w w' := by
  have hl := hc.len
  have HL := Lib.hid hl
  have n1 : (n : Int) <= 1000000000 := by omega
  have HF := Lib.hid hF
  have hS : ∀ W, (Instr.slice 29 (.slice A n (n + 3)) none (some (.int .i64 ((n : Int) + 3))) none).run Tryz.prog W = .ok (.slice A (n + 3) (n + 3)) W := fun W => by
    have := Kd.slice_to (P := Tryz.prog) (sz := 3) Tryz.underlying29 (fun W => by kernel_rfl) A n (n + 3) (n + 3) (Nat.le_refl _) W
    rw [show (((n + 3 : Nat)) : Int) = (n : Int) + 3 by omega] at this
    exact this
  have HS := Lib.hid hS
  have HK0 : Hid (∀ o, o = Obj.cells #[.int .i64 f.line, .int .i64 f.net, .bool f.opn] 35 -> Keep w (w.alloc o) F A n w.heap.size xs f) := Lib.hid (fun o ho => by
    subst ho
    exact ⟨ha.stay (Agree.alloc _ hF), Qu.Blk.new w _ _, (Below.refl _ _).alloc (Nat.le_refl _) _⟩)
  have HP : Hid (∀ o, o = Obj.cells #[.int .i64 f.line, .int .i64 f.net, .bool f.opn] 35 -> Calls Tryz.prog 15 #[.slice A n (n + 3), .slice C n c] (w.alloc o) fun e w' => e = .returned (.bool true) /\ Below (w.alloc o).heap.size (w.alloc o) w') := Lib.hid (fun o ho => by
    have h1 := plain_any A C n n (n + 3) c xs xs F (w.alloc o) (Kd.row_front (ha.stay (Agree.alloc _ hF)) hl) (hc.stay (Agree.alloc _ hF)) (fun b hb => by have := hF b hb; simp; omega) (by omega)
    rw [eqL_refl sameB_refl] at h1
    exact h1)
  clear ha hc hl hF hS
  go_enter Tryz.func16, Tryz.ntmps16
  go_wp2_with fail
  refine (HP.out _ rfl).mono ?_
  rintro e w1 ⟨rfl, hb⟩
  have HK := Lib.hid ((HK0.out _ rfl).on HF.out hb)
  have hS := HS.out w1
  clear hb HP HK0
  go_wp2
  go_loopw [8] (fun s wr => ∃ k : Nat, s = .int .i64 k /\ n <= k /\ k <= n + 3 /\ Hid (Keep w wr F A n w.heap.size xs f)) (fun s _ => n + 3 - (intOf s).toNat)
  case atStart => exact ⟨n, rfl, Nat.le_refl _, by omega, HK⟩
  case round =>
    clear HK
    obtain ⟨k, rfl, hk, hk3, hK⟩ := hrel
    have k0 : (0 : Int) <= (k : Int) := by omega
    have kk : (k : Int) <= 1000000003 := by omega
    by_cases hlt : k < n + 3
    . have k1 : (k : Int) < (n : Int) + 3 := by omega
      obtain ⟨g, o, rfl, _, _, hok, c0, c1, c2⟩ := row_Unt hK.out.row (behind HL.out hk hlt)
      have b0 := hK.out.box.cell 0
      have b1 := hK.out.box.cell 1
      have b2 := hK.out.box.cell 2
      clear hok
      go_wp2_with fail
      go_quiet (fail)
      have HK2 := Lib.hid (hK.out.on HF.out (Qu.below_draws (Below.refl _ _) nq))
      go_wp2
      go_roundw
      case rel => exact ⟨k + 1, by go_num, by omega, by omega, HK2⟩
      case measure => simp [intOf]; omega
    . have k1 : ¬ (k : Int) < (n : Int) + 3 := by omega
      go_wp2
      go_ret
      exact ⟨rfl, hK.out.below⟩
end Go.Proofs.YtljmddjlnlmenaaGreat.Ap.Unt

end

section
namespace Go.Proofs.YtljmddjlnlmenaaGreat.Py
open Go.ChangeShapes Go.WideShapes Go.ChangeAt Go.RowKit
def modN (a n : Int) : Nat := ((IntKind.u64.wrap a) % n).toNat
theorem modN_lt (a n : Int) (h : 1 <= n) : (modN a n : Int) < n := by
  unfold modN
  have h2 := Int.emod_nonneg (IntKind.u64.wrap a) (show n ≠ 0 by omega)
  have h3 := Int.emod_lt_of_pos (IntKind.u64.wrap a) (show 0 < n by omega)
  omega
theorem mod_any (a n : Int) (w : World) (hn : 1 <= n) (hn1 : n <= 9223372036854775807) :
    Calls Tryz.prog 23 #[.int .i64 a, .int .i64 n] w fun e w' => e = .returned (.int .i64 (modN a n : Int)) /\ w' = w := by
  obtain ⟨t, t1, t2, t3, t4⟩ := By.umod_in a n hn hn1
  have hw : IntKind.u64.wrap n = n := by rw [IntKind.wrap_u64]; omega
  have hm : modN a n = t := by unfold modN; omega
  have n0 : n ≠ 0 := by omega
  rw [hm]
  clear hm
  go_enter Tryz.func23, Tryz.ntmps23
  go_wp2
  go_ret
  exact ⟨congrArg (fun z => Ending.returned (.int .i64 z)) t1, rfl⟩
theorem mod64_any (a n : Int) (w : World) (hn : 1 <= n) (hn1 : n <= 9223372036854775807) :
    Calls Tryz.prog 48 #[.int .i64 a, .int .i64 n] w fun e w' => e = .returned (.int .i64 (modN a n : Int)) /\ w' = w := by
  obtain ⟨t, t1, t2, t3, t4⟩ := By.umod_in a n hn hn1
  have hw : IntKind.u64.wrap n = n := by rw [IntKind.wrap_u64]; omega
  have hm : modN a n = t := by unfold modN; omega
  have n0 : n ≠ 0 := by omega
  rw [hm]
  clear hm
  go_enter Tryz.func48, Tryz.ntmps48
  go_wp2
  go_ret
  exact ⟨congrArg (fun z => Ending.returned (.int .i64 z)) t1, rfl⟩
def pickTo (s : ByteArray) : Nat -> Int
  | 0 => (s.size : Int)
  | k + 1 => wrap64 (wrap64 (7 * pickTo s k) + By.at_ s.data.toList k)
def pickS (s : ByteArray) : Int := pickTo s (min s.size 8)
theorem index_in {s : ByteArray} {k : Nat} (hk : k < s.size) : s[k]? = some (s.data.toList.getD k 0) := by
  rw [ByteArray.getElem?_lt' s k hk]
  congr 1
  have : k < s.data.toList.length := by rw [By.size_list]; exact hk
  rw [List.getD, List.getElem?_eq_getElem this]
  rfl
theorem run_at (t : TypeId) (ht : Tryz.prog.underlying t = some .string) (s : ByteArray) (k : Nat) (hk : k < s.size) (W : World) : (Instr.index t (.string s) (.int .i64 (k : Int))).run Tryz.prog W = .ok (.int .u8 (By.at_ s.data.toList k)) W := by
  have h := index_in hk
  have hk0 : (0 : Int) <= (k : Int) := by omega
  rw [run_index_string W t s .i64 (k : Int) ht]
  have e : (s.data.toList.getD k 0) = s[k] := by
    have := ByteArray.getElem?_lt' s k hk
    rw [h] at this
    exact Option.some.inj this
  unfold By.at_
  rw [e]
  simp [hk]
theorem pick_any (s : ByteArray) (w : World) (hs : s.size <= maxLen) : Calls Tryz.prog 84 #[.string s] w fun e w' => e = .returned (.int .i64 (pickS s)) /\ w = w' := by
  unfold maxLen at hs
  have hA := fun k (hk : k < s.size) W => run_at 9 Tryz.underlying9 s k hk W
  have h0 : (s.size : Int) = pickTo s 0 := rfl
  have hp : ∀ k, pickTo s (k + 1) = wrap64 (wrap64 (7 * pickTo s k) + By.at_ s.data.toList k) := fun k => rfl
  have HP := Lib.hid hp
  have HA := Lib.hid hA
  have H0 := Lib.hid h0
  clear hA h0 hp
  go_enter Tryz.func84, Tryz.ntmps84
  go_wp2
  go_loopw [3, 4] (fun s3 s4 wr => ∃ k : Nat, s3 = .int .i64 (pickTo s k) /\ s4 = .int .i64 k /\ k <= s.size /\ k <= 8 /\ wr = w) (fun _ s4 _ => 8 - (intOf s4).toNat)
  case atStart => exact ⟨0, by rw [<- H0.out], rfl, by omega, by omega, by trivial⟩
  case round =>
    obtain ⟨k, rfl, rfl, hk, hk8, rfl⟩ := hrel
    by_cases h1 : k < s.size
    . have k1 : (k : Int) < (s.size : Int) := by omega
      by_cases h2 : k < 8
      . have k2 : (k : Int) < 8 := by omega
        have hi := HA.out k h1 wr
        have e := HP.out k
        have hb := By.at_in s.data.toList k
        generalize By.at_ s.data.toList k = b at hi e hb
        generalize hq : pickTo s k = q at e ⊢
        clear hq
        go_wp2
        go_roundw
        case rel => exact ⟨k + 1, by rw [e], by go_num, by omega, by omega, by trivial⟩
        case measure => simp [intOf]; omega
      . have k2 : ¬ (k : Int) < 8 := by omega
        have e : pickS s = pickTo s k := by unfold pickS; congr 1; omega
        have HE := Lib.hid e
        clear e
        go_wp2
        go_ret
        exact ⟨by rw [HE.out]; rfl, rfl⟩
    . have k1 : ¬ (k : Int) < (s.size : Int) := by omega
      have e : pickS s = pickTo s k := by unfold pickS; congr 1; omega
      have HE := Lib.hid e
      clear e
      go_wp2
      go_ret
      exact ⟨by rw [HE.out]; rfl, rfl⟩
theorem rin_any (x m : Int) (w : World) : Calls Tryz.prog 66 #[.int .i64 x, .int .i64 m] w fun e w' => e = .returned (.bool (decide (0 <= x) && decide (x <= m))) /\ w' = w := by
  cases h1 : decide (0 <= x) with
  | false =>
    go_enter Tryz.func66, Tryz.ntmps66
    go_wp2
    go_ret
    exact ⟨rfl, rfl⟩
  | true =>
    go_enter Tryz.func66, Tryz.ntmps66
    go_wp2
    go_ret
    exact ⟨rfl, rfl⟩
theorem plain_cases (z : Int) : (Sr.plain z = true /\ 97 <= z /\ z <= 122) \/ (Sr.plain z = true /\ z < 97 /\ 48 <= z /\ z <= 57) \/ (Sr.plain z = true /\ z < 48 /\ z = 45) \/ (Sr.plain z = false /\ 122 < z /\ z ≠ 45) \/ (Sr.plain z = false /\ 57 < z /\ z < 97 /\ z ≠ 45) \/ (Sr.plain z = false /\ z < 48 /\ z ≠ 45) := by
  unfold Sr.plain
  simp only [Bool.or_eq_true, Bool.and_eq_true, decide_eq_true_eq, beq_iff_eq, Bool.or_eq_false_iff, Bool.and_eq_false_iff, decide_eq_false_iff_not, beq_eq_false_iff_ne]
  omega
theorem byte_at {s : ByteArray} {k : Nat} (hk : k < s.size) : ∃ b : UInt8, s.data.toList[k]? = some b /\ By.at_ s.data.toList k = (b.toNat : Int) := by
  have hl : k < s.data.toList.length := by rw [By.size_list]; exact hk
  exact ⟨_, List.getElem?_eq_getElem hl, By.at_some (List.getElem?_eq_getElem hl)⟩
set_option maxHeartbeats 1000000 in
theorem rname_any (s : ByteArray) (w : World) (hs : s.size <= maxLen) : Calls Tryz.prog 64 #[.string s] w fun e w' => e = .returned (.bool (Sr.name s)) /\ w' = w := by
  unfold maxLen at hs
  have hA := fun k (hk : k < s.size) W => run_at 9 Tryz.underlying9 s k hk W
  have HA := Lib.hid hA
  clear hA
  go_enter Tryz.func64, Tryz.ntmps64
  go_wp2
  go_loopw [3] (fun s3 wr => ∃ k : Nat, s3 = .int .i64 k /\ k <= s.size /\ wr = w /\ ∀ (j : Nat) (b : UInt8), j < k -> s.data.toList[j]? = some b -> Sr.plain (b.toNat : Int) = true) (fun s3 _ => s.size - (intOf s3).toNat)
  case atStart => exact ⟨0, rfl, by omega, rfl, fun j b hj => by omega⟩
  case round =>
    obtain ⟨k, rfl, hk, rfl, hE⟩ := hrel
    have HE := Lib.hid hE
    clear hE
    by_cases h1 : k < s.size
    . have k1 : (k : Int) < (s.size : Int) := by omega
      have hi := HA.out k h1 wr
      obtain ⟨b, hb1, hb2⟩ := byte_at h1
      rw [hb2] at hi
      have HB := Lib.hid hb1
      have hbn := By.at_in s.data.toList k
      rw [hb2] at hbn
      clear hb1 hb2
      obtain ⟨z, hz⟩ : ∃ z : Int, (b.toNat : Int) = z := ⟨_, rfl⟩
      have HZ := Lib.hid hz
      rw [hz] at hi hbn
      clear hz
      obtain ⟨hp, c1, c2⟩ | ⟨hp, c1, c2, c3⟩ | ⟨hp, c1, c2⟩ | ⟨hp, c1, c2⟩ | ⟨hp, c1, c2, c3⟩ | ⟨hp, c1, c2⟩ := plain_cases z
      . have HP := Lib.hid hp
        clear hp
        go_wp2
        go_roundw
        case rel => exact ⟨k + 1, by go_num, by omega, by trivial, fun j b' hj hb' => by
          rcases Nat.lt_or_ge j k with h | h
          . exact HE.out j b' h hb'
          . obtain rfl : j = k := by omega
            rw [HB.out] at hb'
            injection hb' with hb'
            subst hb'
            rw [HZ.out]; exact HP.out⟩
        case measure => simp [intOf]; omega
      . have HP := Lib.hid hp
        have d1 : ¬ (97 : Int) <= z := by omega
        clear hp
        go_wp2
        go_roundw
        case rel => exact ⟨k + 1, by go_num, by omega, by trivial, fun j b' hj hb' => by
          rcases Nat.lt_or_ge j k with h | h
          . exact HE.out j b' h hb'
          . obtain rfl : j = k := by omega
            rw [HB.out] at hb'
            injection hb' with hb'
            subst hb'
            rw [HZ.out]; exact HP.out⟩
        case measure => simp [intOf]; omega
      . have HP := Lib.hid hp
        have d1 : ¬ (97 : Int) <= z := by omega
        have d2 : ¬ (48 : Int) <= z := by omega
        clear hp
        go_wp2
        go_roundw
        case rel => exact ⟨k + 1, by go_num, by omega, by trivial, fun j b' hj hb' => by
          rcases Nat.lt_or_ge j k with h | h
          . exact HE.out j b' h hb'
          . obtain rfl : j = k := by omega
            rw [HB.out] at hb'
            injection hb' with hb'
            subst hb'
            rw [HZ.out]; exact HP.out⟩
        case measure => simp [intOf]; omega
      . have HF := Lib.hid (Sr.name_bad HB.out (by rw [HZ.out]; exact hp))
        have d0 : (z == 45) = false := beq_eq_false_iff_ne.2 (by omega)
        have d1 : (97 : Int) <= z := by omega
        have d2 : ¬ z <= (122 : Int) := by omega
        have d3 : (48 : Int) <= z := by omega
        have d4 : ¬ z <= (57 : Int) := by omega
        clear hp
        go_wp2
        go_ret
        exact ⟨by rw [HF.out]; rfl, rfl⟩
      . have HF := Lib.hid (Sr.name_bad HB.out (by rw [HZ.out]; exact hp))
        have d0 : (z == 45) = false := beq_eq_false_iff_ne.2 (by omega)
        have d1 : ¬ (97 : Int) <= z := by omega
        have d3 : (48 : Int) <= z := by omega
        have d4 : ¬ z <= (57 : Int) := by omega
        clear hp
        go_wp2
        go_ret
        exact ⟨by rw [HF.out]; rfl, rfl⟩
      . have HF := Lib.hid (Sr.name_bad HB.out (by rw [HZ.out]; exact hp))
        have d0 : (z == 45) = false := beq_eq_false_iff_ne.2 (by omega)
        have d1 : ¬ (97 : Int) <= z := by omega
        have d3 : ¬ (48 : Int) <= z := by omega
        clear hp
        go_wp2
        go_ret
        exact ⟨by rw [HF.out]; rfl, rfl⟩
    . have k1 : ¬ (k : Int) < (s.size : Int) := by omega
      have HF : Hid (Sr.name s = (decide (1 <= s.size) && decide (s.size <= 12))) := Lib.hid (Sr.name_size fun j b hj => HE.out j b (by
        have := (List.getElem?_eq_some_iff.1 hj).1
        rw [By.size_list] at this
        omega) hj)
      by_cases c1 : 1 <= s.size
      . have c2 : (1 : Int) <= (s.size : Int) := by omega
        have c3 : decide ((s.size : Int) <= 12) = decide (s.size <= 12) := by congr 1; simp; omega
        have HG : Hid (Sr.name s = decide (s.size <= 12)) := Lib.hid (by rw [HF.out]; simp [c1])
        obtain ⟨b, hb⟩ : ∃ b, decide (s.size <= 12) = b := ⟨_, rfl⟩
        rw [hb] at c3
        have HB := Lib.hid hb
        clear hb
        go_wp2
        go_ret
        exact ⟨by rw [HG.out, HB.out]; first | rfl | (simp [c3]), rfl⟩
      . have c2 : ¬ (1 : Int) <= (s.size : Int) := by omega
        have HG : Hid (Sr.name s = false) := Lib.hid (by rw [HF.out]; simp [c1])
        go_wp2
        go_ret
        exact ⟨by rw [HG.out]; rfl, rfl⟩
end Go.Proofs.YtljmddjlnlmenaaGreat.Py

end
