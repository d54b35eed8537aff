/- The statements' helpers on lists of texts, of numbers, of lists of numbers: Same, Plain, Lists. · The statements' helps  .. -/
import Derived.Deep.RegionHeld3
import Derived.Laws.StructEq
import Derived.Test.YtljmddjlnlmenaaGreatPq1
set_option maxRecDepth 100000
set_option linter.unusedVariables false

section
namespace Go.Proofs.YtljmddjlnlmenaaGreat.Hp
open Go.ChangeShapes Go.WideShapes Go.ChangeAt Go.RowKit
open Kd (Kind Row Own Cells Fit Agree Lst Sl kInt kStr kFlag kList Filling Owned eqL eqL_len eqL_no eqL_yes eqL_refl eqL_iff Two rows_get row_str row_int row_list)
def eqI (x y : Int) : Bool := x == y
theorem one_int (x y : Int) (w : World) : Calls Tryz.prog 81 #[.int .i64 x, .int .i64 y] w fun e w' => e = .returned (.bool (eqI x y)) /\ w' = w := by
  go_enter Tryz.func81, Tryz.ntmps81
  go_wp2
  go_ret
  exact ⟨rfl, rfl⟩
set_option maxHeartbeats 1000000 in
theorem same_int (A C : Option Addr) (n m ca cc : Nat) (xs ys : List Int) (F : Nat -> Prop) (w : World) (ha : Row kInt w F A n xs) (hc : Row kInt w F C m ys) (hF : ∀ b, F b -> b < w.heap.size) (hn : n <= 9223372036854775807) :
    Calls Tryz.prog 80 #[.slice A n ca, .slice C m cc, .func (.func 81) #[] #[]] w fun e w' => e = .returned (.bool (eqL eqI xs ys)) /\ Below w.heap.size w w' := by
  have hl := ha.len
  have hl2 := hc.len
  have HL := Lib.hid (And.intro hl hl2)
  have HF := Lib.hid hF
  by_cases hnm : n = m
  . subst hnm
    have b0 : ((n : Int) != (n : Int)) = false := by simp
    have HT0 := Lib.hid (Two.mk ha hc (Below.refl w.heap.size w))
    clear ha hc hl hl2 hF
    go_enter Tryz.func80, Tryz.ntmps80
    go_wp2
    go_loopw [7] (fun s wr => ∃ k : Nat, s = .int .i64 k /\ k <= n /\ Hid (Two kInt w wr F A C n n xs ys) /\ Hid (∀ (j : Nat) (x y : Int), j < k -> xs[j]? = some x -> ys[j]? = some y -> eqI x y = true)) (fun s _ => n - (intOf s).toNat)
    case atStart => exact ⟨0, rfl, by omega, HT0, Lib.hid fun j x y hj => by omega⟩
    case round =>
      clear HT0
      obtain ⟨k, rfl, hk, HT, HE⟩ := hrel
      by_cases hlt : k < n
      . obtain ⟨x, y, hx, hy⟩ := rows_get HT.out.a HT.out.c hlt
        obtain ⟨g, o, rfl, hg1, hg2, _, a0⟩ := row_int HT.out.a hx
        obtain ⟨g', o', rfl, hg3, hg4, _, d0⟩ := row_int HT.out.c hy
        have k0 : (0 : Int) <= (k : Int) := by omega
        have k1 : (k : Int) < (n : Int) := by omega
        have HXY := Lib.hid (And.intro hx hy)
        have HO : Hid (∀ W, Below wr.heap.size wr W -> Calls Tryz.prog 81 #[.int .i64 x, .int .i64 y] W fun e w' => e = .returned (.bool (eqI x y)) /\ Below wr.heap.size wr w') := Lib.hid fun W hW => (one_int x y W).mono fun e w' h => ⟨h.1, h.2 ▸ hW⟩
        have c0 : ∀ u, Below wr.heap.size wr u -> u.cell? ⟨g, o + k, none⟩ = some (.int .i64 x) := fun u hu => (hu.cell (p := ⟨g, _, none⟩) hg2).trans a0
        have e0 : ∀ u, Below wr.heap.size wr u -> u.cell? ⟨g', o' + k, none⟩ = some (.int .i64 y) := fun u hu => (hu.cell (p := ⟨g', _, none⟩) hg4).trans d0
        clear a0 d0 hx hy hg1 hg2 hg3 hg4 
        cases hB : eqI x y with
        | true =>
          rw [hB] at HO
          have HB := Lib.hid hB
          clear hB
          go_wp2_with fail
          go_region_held3 (fun u => Below wr.heap.size wr u)
            (first
              | assumption
              | exact (Below.refl _ _).drew
              | exact Below.refl _ _)
            (first
              | (go_at_call 81; refine (HO.out _ (by first | assumption | exact (Below.refl _ _).drew)).mono ?_; rintro e wz ⟨rfl, hz⟩))
          have HT2 := Lib.hid (HT.out.on HF.out hz)
          clear hz
          go_wp2
          go_roundw
          case rel => exact ⟨k + 1, by go_num, by omega, HT2, Lib.hid fun j x' y' hj hx' hy' => by
            rcases Nat.lt_or_ge j k with h | h
            . exact HE.out j x' y' h hx' hy'
            . obtain rfl : j = k := by omega
              rw [HXY.out.1] at hx'
              rw [HXY.out.2] at hy'
              injection hx' with hx'
              injection hy' with hy'
              subst hx' hy'
              exact HB.out⟩
          case measure => simp [intOf]; omega
        | false =>
          rw [hB] at HO
          have HG := Lib.hid (eqL_no HXY.out.1 HXY.out.2 hB)
          clear hB
          go_wp2_with fail
          go_region_held3 (fun u => Below wr.heap.size wr u)
            (first
              | assumption
              | exact (Below.refl _ _).drew
              | exact Below.refl _ _)
            (first
              | (go_at_call 81; refine (HO.out _ (by first | assumption | exact (Below.refl _ _).drew)).mono ?_; rintro e wz ⟨rfl, hz⟩))
          have HT2 := Lib.hid (HT.out.on HF.out hz)
          clear hz
          go_wp2
          go_ret
          exact ⟨by rw [HG.out]; rfl, HT2.out.below⟩
      . have k1 : ¬ (k : Int) < (n : Int) := by omega
        have HG := Lib.hid (eqL_yes (eq := eqI) (HL.out.1.trans HL.out.2.symm) fun j x y hx hy => HE.out j x y (by
          have := (List.getElem?_eq_some_iff.1 hx).1
          rw [HL.out.1] at this
          omega) hx hy)
        go_wp2
        go_ret
        exact ⟨by rw [HG.out]; rfl, HT.out.below⟩
  . have b0 : ((n : Int) != (m : Int)) = true := by rw [bne_iff_ne]; omega
    have HG := Lib.hid (eqL_len (eq := eqI) (xs := xs) (ys := ys) (by omega))
    clear ha hc hl hl2 hnm hF
    go_enter Tryz.func80, Tryz.ntmps80
    go_wp2
    go_ret
    exact ⟨by rw [HG.out]; rfl, Below.refl _ _⟩
theorem plain_int (A C : Option Addr) (n m ca cc : Nat) (xs ys : List Int) (F : Nat -> Prop) (w : World) (ha : Row kInt w F A n xs) (hc : Row kInt w F C m ys) (hF : ∀ b, F b -> b < w.heap.size) (hn : n <= 9223372036854775807) :
    Calls Tryz.prog 47 #[.slice A n ca, .slice C m cc] w fun e w' => e = .returned (.bool (eqL eqI xs ys)) /\ Below w.heap.size w w' := by
  have HS := Lib.hid (same_int A C n m ca cc xs ys F w ha hc hF hn)
  clear ha hc hF
  go_enter Tryz.func47, Tryz.ntmps47
  go_wp2_with fail
  refine HS.out.mono ?_
  rintro e w1 ⟨rfl, hb⟩
  have HB := Lib.hid hb
  clear hb
  go_wp2
  go_ret
  exact ⟨rfl, HB.out⟩
end Go.Proofs.YtljmddjlnlmenaaGreat.Hp

end

section
namespace Go.Proofs.YtljmddjlnlmenaaGreat.Hp
open Go.ChangeShapes Go.WideShapes Go.ChangeAt Go.RowKit
open Kd (Kind Row Own Cells Fit Agree Lst Sl kInt kStr kFlag kList Filling Owned eqL eqL_len eqL_no eqL_yes eqL_refl eqL_iff Two rows_get row_str row_int row_list)
theorem ints_info : (Tryz.prog.info? 3).map (fun i => (i.zero, i.size, i.bytes)) = some (some (.int .i64 0), 1, 8) := by kernel_rfl
theorem int_cells_one {w : World} {F : Nat -> Prop} : ∀ {xs : List Int} {cs : List Value}, Cells kInt w F xs cs -> ∀ u ∈ cs, u.oneCell' = true
  | [], _, h, u, hu => by cases h; cases hu
  | x :: xs, _, ⟨a, b, rfl, ha, hb⟩, u, hu => by
    rcases List.mem_append.1 hu with h1 | h1
    . obtain ⟨rfl, _⟩ := ha
      simp only [List.mem_cons, List.not_mem_nil, or_false] at h1
      subst h1; rfl
    . exact int_cells_one hb u h1
theorem int_fill_cells {w : World} {F : Nat -> Prop} {x : Int} (hx : -9223372036854775808 <= x /\ x <= 9223372036854775807) : Cells kInt w F [x, x, x] [.int .i64 x, .int .i64 x, .int .i64 x] :=
  ⟨[.int .i64 x], _, rfl, ⟨rfl, hx⟩, [.int .i64 x], _, rfl, ⟨rfl, hx⟩, [.int .i64 x], _, rfl, ⟨rfl, hx⟩, rfl⟩
set_option maxHeartbeats 1000000 in
theorem own_int (A : Option Addr) (n c : Nat) (xs : List Int) (f : Int) (w : World) (h : Row kInt w (· < w.heap.size) A n xs) (hfit : Fit A n c) (hf : -9223372036854775808 <= f /\ f <= 9223372036854775807) (hn : n <= 1000000000) :
    Calls Tryz.prog 10 #[.slice A n c, .int .i64 f] w fun e w' => Owned kInt e w w' n xs f := by
  obtain ⟨i0, hi0, hz0, hz1, hz2⟩ := info_parts ints_info
  obtain ⟨M, hM1, hM2, hM3⟩ := Kd.made_row (P := Tryz.prog) Tryz.underlying36 ints_info n (by omega) (by omega)
  have HOW := Lib.hid (hM3 w w.heap.size (by omega))
  have hb2 : Below w.heap.size w (w.alloc (.cells M 3)) := (Below.refl _ _).alloc (by omega) _
  obtain ⟨news, hnl, hnc, hna⟩ := Kd.news_of h hb2
  have HN := Lib.hid (And.intro hnl (And.intro hnc (And.intro hna (And.intro hfit.1 (int_cells_one hnc)))))
  obtain ⟨L, hL⟩ : ∃ L, news ++ [Value.int .i64 f, .int .i64 f, .int .i64 f] = L := ⟨_, rfl⟩
  have HL := Lib.hid hL
  have HW : Hid (∀ w4, (w4.ownsRow w.heap.size 3 1 (.slice (some ⟨w.heap.size, 0, none⟩) n (n + 3)) n news) -> (w.alloc (.cells M 3)).grownBy w4 (some w.heap.size) -> Filling w w4 w.heap.size 3 ((n + 3) * 1) (n * 1) L) := Lib.hid (fun w4 ho hg => Filling.begin ho rfl (fun j v hj => by rw [<- HL.out, List.getElem?_append_left (List.getElem?_eq_some_iff.1 hj).1]; exact hj) (hb2.grown hg (by simp) (fun k hk => by injection hk with hk; omega)))
  have HLs : Hid (∀ k, n <= k -> k < n + 3 -> ∀ (j : Nat) (v : Value), [Value.int .i64 f][j]? = some v -> L[k * 1 + j]? = some v) := Lib.hid (fun k hk hk3 j v hj => by
    have hj4 := (List.getElem?_eq_some_iff.1 hj).1
    obtain rfl : j = 0 := by simpa using hj4
    have hnl4 : news.length = n * 1 := hnl
    rw [<- HL.out, List.getElem?_append_right (by omega)]
    obtain h | h | h : k = n \/ k = n + 1 \/ k = n + 2 := by omega
    . rw [show k * 1 + 0 - news.length = 0 by omega]; exact hj
    . rw [show k * 1 + 0 - news.length = 1 by omega]; exact hj
    . rw [show k * 1 + 0 - news.length = 2 by omega]; exact hj)
  have HE : Hid (∀ wr, Filling w wr w.heap.size 3 ((n + 3) * 1) ((n + 3) * 1) L -> Owned kInt (.returned (.slice (some ⟨w.heap.size, 0, none⟩) n (n + 3))) w wr n xs f) := Lib.hid (fun wr hfl => by
    obtain ⟨cur, hbk, _, _⟩ := hfl.blk
    refine ⟨w.heap.size, rfl, by omega, hbk.lt, ?_, hfl.below⟩
    refine Filling.row (K := kInt) (n := n + 3) hfl (by rw [List.length_append, h.len]; rfl) ?_ hbk.lt
    rw [<- HL.out]
    have h1 : Cells kInt wr (· < w.heap.size) xs news := hnc.stay (Agree.below hfl.below (Nat.le_refl _))
    exact (h1.more fun b hb => Nat.lt_of_lt_of_le hb hfl.below.size).append (int_fill_cells hf))
  have n1 : (n : Int) <= 1000000000 := by omega
  clear h hfit hf hnl hnc hna hL hb2 hM3 hM1
  go_enter Tryz.func10, Tryz.ntmps10
  go_wp2_with ((at_builtin; refine wpList_append_fits_any _ rfl _ _ 36 rfl w.heap.size 3 i0 1 Tryz.underlying36 hi0 hz1 w.heap.size 0 (n + 3) [] rfl HOW.out A n c news rfl HN.out.1 HN.out.2.2.2.1 HN.out.2.2.1 HN.out.2.2.2.2 (by omega) ?_; intro w4 hown hgrow))
  simp only [Nat.zero_add, List.nil_append] at hown
  have HF0 := Lib.hid (HW.out w4 hown hgrow)
  clear hown hgrow
  go_loopw [7] (fun s wr => ∃ k : Nat, s = .int .i64 k /\ n <= k /\ k <= n + 3 /\ Hid (Filling w wr w.heap.size 3 ((n + 3) * 1) (k * 1) L)) (fun s _ => n + 3 - (intOf s).toNat)
  case atStart => exact ⟨n, rfl, Nat.le_refl _, by omega, HF0⟩
  case round =>
    clear HF0
    obtain ⟨k, rfl, hk, hk3, hF⟩ := hrel
    have k0 : (0 : Int) <= (k : Int) := by omega
    have kk : (k : Int) <= 1000000003 := by omega
    by_cases hlt : k < n + 3
    . have k1 : (k : Int) < (n : Int) + 3 := by omega
      have HS : Hid (Filling w (wr.setCells w.heap.size (k * 1) [Value.int .i64 f]) w.heap.size 3 ((n + 3) * 1) ((k + 1) * 1) L) := Lib.hid (by
        have h1 := hF.out.step (vs := [Value.int .i64 f]) (HLs.out k hk hlt) (by show k * 1 + 1 <= _; omega)
        have e : k * 1 + [Value.int .i64 f].length = (k + 1) * 1 := by show k * 1 + 1 = _; omega
        rw [e] at h1
        exact h1)
      obtain ⟨⟨v0, t0⟩, f0⟩ := hF.out.there (j := k) (by omega)
      rw [show k * 1 = k by omega] at HS
      change Hid (Filling w (wr.setCell ⟨w.heap.size, k, none⟩ (.int .i64 f)) w.heap.size 3 ((n + 3) * 1) ((k + 1) * 1) L) at HS
      clear hF
      go_wp2
      go_roundw
      case rel => exact ⟨k + 1, by go_num, by omega, by omega, HS⟩
      case measure => simp [intOf]; omega
    . have k1 : ¬ (k : Int) < (n : Int) + 3 := by omega
      obtain rfl : k = n + 3 := by omega
      have HO := Lib.hid (HE.out _ hF.out)
      clear hF
      go_wp2
      go_ret
      exact HO.out
theorem int_behind {xs : List Int} {f : Int} {n k : Nat} (hx : xs.length = n) (hk : n <= k) (hk3 : k < n + 3) : (xs ++ [f, f, f])[k]? = some f := by
  rw [List.getElem?_append_right (by omega), hx]
  obtain h | h | h : k = n \/ k = n + 1 \/ k = n + 2 := by omega
  . rw [show k - n = 0 by omega]; rfl
  . rw [show k - n = 1 by omega]; rfl
  . rw [show k - n = 2 by omega]; rfl
set_option maxHeartbeats 1000000 in
theorem kept_int (A C : Option Addr) (n c : Nat) (xs : List Int) (f : Int) (F : Nat -> Prop) (w : World) (ha : Row kInt w F A (n + 3) (xs ++ [f, f, f])) (hc : Row kInt w F C n xs) (hF : ∀ b, F b -> b < w.heap.size) (hn : n <= 1000000000) :
    Calls Tryz.prog 17 #[.slice A n (n + 3), .slice C n c, .int .i64 f] w fun e w' => e = .returned (.bool true) /\ Below w.heap.size w w' := by
  have hl := hc.len
  have HL := Lib.hid hl
  have n1 : (n : Int) <= 1000000000 := by omega
  have HF := Lib.hid hF
  have hS : ∀ W, (Instr.slice 36 (.slice A n (n + 3)) none (some (.int .i64 ((n : Int) + 3))) none).run Tryz.prog W = .ok (.slice A (n + 3) (n + 3)) W := fun W => by
    have := Kd.slice_to (P := Tryz.prog) (sz := 1) Tryz.underlying36 (fun W => by kernel_rfl) A n (n + 3) (n + 3) (Nat.le_refl _) W
    rw [show (((n + 3 : Nat)) : Int) = (n : Int) + 3 by omega] at this
    exact this
  have HS := Lib.hid hS
  have HK0 : Hid (Row kInt w F A (n + 3) (xs ++ [f, f, f])) := Lib.hid ha
  have HP : Hid (Calls Tryz.prog 47 #[.slice A n (n + 3), .slice C n c] w fun e w' => e = .returned (.bool true) /\ Below w.heap.size w w') := Lib.hid (by
    have h1 := plain_int A C n n (n + 3) c xs xs F w (Kd.row_front ha hl) hc hF (by omega)
    rw [eqL_refl (show ∀ x, eqI x x = true from fun x => beq_self_eq_true x)] at h1
    exact h1)
  clear ha hc hl hF hS
  go_enter Tryz.func17, Tryz.ntmps17
  go_wp2_with fail
  refine HP.out.mono ?_
  rintro e w1 ⟨rfl, hb⟩
  have HK := Lib.hid (And.intro (HK0.out.stay fun b hb2 => hb.block b (HF.out b hb2)) hb)
  have hS := HS.out w1
  clear hb HP HK0
  go_wp2
  go_loopw [8] (fun s wr => ∃ k : Nat, s = .int .i64 k /\ n <= k /\ k <= n + 3 /\ Hid (Row kInt wr F A (n + 3) (xs ++ [f, f, f]) /\ Below w.heap.size w wr)) (fun s _ => n + 3 - (intOf s).toNat)
  case atStart => exact ⟨n, rfl, Nat.le_refl _, by omega, HK⟩
  case round =>
    clear HK
    obtain ⟨k, rfl, hk, hk3, hK⟩ := hrel
    have k0 : (0 : Int) <= (k : Int) := by omega
    have kk : (k : Int) <= 1000000003 := by omega
    by_cases hlt : k < n + 3
    . have k1 : (k : Int) < (n : Int) + 3 := by omega
      obtain ⟨g, o, rfl, _, _, hok, c0⟩ := row_int hK.out.1 (int_behind HL.out hk hlt)
      clear hok
      go_wp2
      go_roundw
      case rel => exact ⟨k + 1, by go_num, by omega, by omega, hK⟩
      case measure => simp [intOf]; omega
    . have k1 : ¬ (k : Int) < (n : Int) + 3 := by omega
      go_wp2
      go_ret
      exact ⟨rfl, hK.out.2⟩
end Go.Proofs.YtljmddjlnlmenaaGreat.Hp

end
