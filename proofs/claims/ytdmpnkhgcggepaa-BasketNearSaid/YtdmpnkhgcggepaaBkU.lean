/- Baskets: the landed Units: an iterator over the units, and the loop that ranges over it. -/
import Derived.RangeFuncNested
import Derived.RangeFuncBound
import Derived.RangeFuncCalls
import Derived.RangeFuncLeaves
import Derived.RangeFuncBox
import Derived.Shelf.Abstract
import Derived.Shelf.RegionOpen
import Derived.WalkKit
import Derived.OwnWalkIn
import Derived.TacticsInMore
import Derived.LoopNIn
import Derived.LoopIn
import Derived.Maps.AppendAt
import Derived.Test.YtdmpnkhgcggepaaBkB
set_option maxRecDepth 100000

set_option linter.unusedVariables false
namespace Go.Proofs.Ytdmpnkhgcggepaa.Bk
open Go.ChangeShapes Go.WideShapes Go.ChangeAt Go.RowKit Go.Shelf
open Ap (Lin Unt kLin kUnt row_Lin row_Unt)
open It (Itm kItem row_item)
open Kd (Kind Row Own)

attribute [local go_sem] Oper.semAt_some

/-- A unit whose numbers are Go's. -/
abbrev UO := { u : Unt // u.ok }

def encU (x : UO) : Array Value := #[.agg #[.int .i64 x.1.line, .int .i64 x.1.net, .bool x.1.opn]]

/-- What a round of the loop leaves as it is: whatever lay below n₀, and each line's box. -/
structure Stays (n₀ : Nat) (W W' : World) : Prop where
  below : Below n₀ W W'
  lines : ∀ (b : Nat) (cs : Array Value), W.heap[b]? = some (.cells cs 28 (0, 0)) → W'.heap[b]? = some (.cells cs 28 (0, 0))

theorem Stays.refl (n₀ : Nat) (W : World) : Stays n₀ W W := ⟨Below.refl _ _, fun _ _ h => h⟩

theorem Stays.trans {n₀ : Nat} {A B C : World} (h : Stays n₀ A B) (k : Stays n₀ B C) : Stays n₀ A C := ⟨h.below.trans k.below, fun b cs e => k.lines b cs (h.lines b cs e)⟩

theorem stays_put {n₀ : Nat} {w : World} (hn : n₀ ≤ w.heap.size) (W : World) (l : Nat) (o o' : Obj) (hl : w.heap.size ≤ l) (h : W.heap[l]? = some o) (h1 : o.isCells = false) (h2 : o.isWalk = false) : Stays n₀ W (W.putObj l o') :=
  ⟨belowK_b hn W l o o' hl h h1 h2, fun b cs e => by
    by_cases hb : b = l
    · subst hb; rw [h] at e; injection e with e; subst e; cases h1
    · exact (World.putObj_heap_other hb).trans e⟩

theorem upto_len {zs pre : List UO} {xs : List Lin} (hf : Fine xs) {i j N : Nat} {x : Lin} (hx : xs[i]? = some x) (hN : x.qty.toNat = N) (hj : j < N) (hz : zs.map Subtype.val = flatU 0 xs) (hp : pre.map Subtype.val = flatU 0 (xs.take i) ++ List.replicate j ⟨(i : Int), x.price, true⟩) : pre.length < zs.length := by
  have h1 : pre.length = (flatU 0 (xs.take i)).length + j := by rw [← List.length_map (f := Subtype.val), hp, List.length_append, List.length_replicate]
  have h2 : zs.length = (flatU 0 xs).length := by rw [← hz, List.length_map]
  have e := flatU_append 0 (xs.take (i + 1)) (xs.drop (i + 1))
  rw [List.take_append_drop, flatU_next hx] at e
  have h3 := congrArg List.length e
  simp only [List.length_append, lineU_length] at h3
  omega

set_option maxRecDepth 100000 in
set_option maxHeartbeats 2000000 in
theorem each1_in (F : Fence) (n : Nat) (h48 : F.fn 48) (hro : F.round = none) (hn : 1 ≤ n) (l Bn n₀ : Nat) (A : Option Addr) (m c : Nat) (xs : List Lin) (hf : Fine xs) (hm : m ≤ 1000) (zs : List UO) (hz : zs.map Subtype.val = flatU 0 xs) (J Jx : List UO → World → Prop) (W : World) (hJ : AbidesFrom W.heap.size J)
    (hY : ∀ pre x W1, J pre W1 → pre.length < zs.length → YieldAt F (n - 1) Try.prog l (encU x) W1 fun e W' =>
      (e = .returned (.bool true) ∧ J (pre ++ [x]) W' ∧ Stays n₀ W1 W') ∨ (e = .returned (.bool false) ∧ Jx (pre ++ [x]) W'))
    (hBn : W.cell? ⟨Bn, 0, none⟩ = some (.slice A m c)) (hL : Row kLin W (· < n₀) A m xs) (hn₀ : n₀ ≤ W.heap.size) (h0 : J [] W) :
    CallsIn F n Try.prog 48 #[.func (.yield l) #[] #[], .pointer (some ⟨Bn, 0, none⟩)] W fun e W' => (∃ v, e = .returned v) ∧
      ((∃ ys, ys.map Subtype.val = flatU 0 xs ∧ J ys W') ∨ (∃ pre : List UO, True ∧ Jx pre W')) := by
  have hLen := hL.len
  have HL := Lib.hid hL
  have HLn := Lib.hid hLen
  have HJ := Lib.hid hJ
  have HY := Lib.hid hY
  have HF := Lib.hid hf
  have HZ := Lib.hid hz
  have HN0 := Lib.hid hn₀
  have H0 := Lib.hid h0
  obtain ⟨S0, hS0⟩ : ∃ s, W.heap.size = s := ⟨_, rfl⟩
  clear hL hLen hJ hY hf hz h0 hn₀
  refine callsIn_of_wp Try.func48 rfl h48 ?_ hro
  simp only [Try.ntmps48, List.size_toArray, List.length_cons, List.length_nil, Nat.reduceAdd, Nat.reduceSub, Array.replicate_succ, Array.replicate_zero, List.push_toArray, List.append_toArray, List.nil_append, List.cons_append]
  gi_wp2
  gi_loopw [7] (fun s7 wr => ∃ (i : Nat) (pre : List UO), s7 = .int .i64 i ∧ i ≤ m ∧ Hid (pre.map Subtype.val = flatU 0 (xs.take i)) ∧ Hid (J pre wr) ∧ Hid (Stays n₀ W wr ∧ W.heap.size ≤ wr.heap.size)) (fun s7 _ => m - (intOf s7).toNat)
  case atStart => exact ⟨0, [], rfl, by omega, Lib.hid rfl, H0, Lib.hid ⟨Stays.refl _ _, Nat.le_refl _⟩⟩
  case round =>
    clear H0
    obtain ⟨i, pre, rfl, hi, HP, HJs, HSt⟩ := hrel
    have ii : (0 : Int) ≤ (i : Int) := by omega
    by_cases hlt : i < m
    · obtain ⟨x, hx⟩ := HL.out.get hlt
      have hfx := fine_iff.1 (HF.out i x hx)
      obtain ⟨g, o, rfl, hg, _, hok, a0, a1, a2⟩ := row_Lin HL.out hx
      obtain ⟨N, hN⟩ : ∃ N : Nat, x.qty = (N : Int) := ⟨x.qty.toNat, by omega⟩
      have c0 : wr.cell? ⟨g, o + i * 3, none⟩ = some (.string x.sku) := (HSt.out.1.below.cell (p := ⟨g, _, none⟩) hg).trans a0
      have c1 : wr.cell? ⟨g, o + i * 3 + 1, none⟩ = some (.int .i64 x.qty) := (HSt.out.1.below.cell (p := ⟨g, _, none⟩) hg).trans a1
      have c2 : wr.cell? ⟨g, o + i * 3 + 2, none⟩ = some (.int .i64 x.price) := (HSt.out.1.below.cell (p := ⟨g, _, none⟩) hg).trans a2
      rw [hN] at c1
      have k1 : (i : Int) < (m : Int) := by omega
      obtain ⟨W2, hW2⟩ : ∃ W2, wr.alloc (.cells #[.string x.sku, .int .i64 (N : Int), .int .i64 x.price] 28) = W2 := ⟨_, rfl⟩
      obtain ⟨bx, hbx⟩ : ∃ bx, wr.heap.size = bx := ⟨_, rfl⟩
      have hbl : W2.heap[bx]? = some (.cells #[.string x.sku, .int .i64 (N : Int), .int .i64 x.price] 28 (0, 0)) := by rw [← hW2, ← hbx]; exact heap_alloc_new wr _
      have HBl := Lib.hid hbl
      have HJ2 : Hid (J pre W2) := Lib.hid (by rw [← hW2]; exact HJ.out _ _ _ none HJs.out (World.grownBy_alloc wr _ none) (fun r e => by cases e))
      have HS2 : Hid (Stays n₀ W W2 ∧ W.heap.size ≤ W2.heap.size) := Lib.hid ⟨HSt.out.1.trans ⟨by rw [← hW2]; exact (Below.refl _ _).alloc (Nat.le_trans HN0.out HSt.out.2) _, fun b cs e => by rw [← hW2]; exact (Below.heap_alloc wr _ b (Array.getElem?_eq_some_iff.1 e).1).trans e⟩, by rw [← hW2]; simp; have := HSt.out.2; omega⟩
      have HX := Lib.hid (And.intro hx (And.intro (show x.qty.toNat = N by omega) hok))
      have hw2 := Lib.hid hW2
      have hwb := Lib.hid hbx
      have N1 : N ≤ 100000 := by omega
      have hu : (⟨(i : Int), x.price, true⟩ : Unt).ok := ⟨by show -9223372036854775808 ≤ (i : Int) ∧ (i : Int) ≤ 9223372036854775807; omega, hok.price⟩
      have HU := Lib.hid hu
      have d1 := cell_of_row W2 bx 1 #[.string x.sku, .int .i64 (N : Int), .int .i64 x.price] 28 (0, 0) hbl
      clear hW2 hbx hbl a0 a1 a2 hx hok hg hfx hN HJs HSt
      gi_wp2
      rw [hw2.out]
      simp only [hwb.out]
      clear hw2 hwb d1 c0 c1 c2
      gi_loopw [14] (fun s14 wr => ∃ (j : Nat) (pre : List UO), s14 = .int .i64 j ∧ j ≤ N ∧ Hid (pre.map Subtype.val = flatU 0 (xs.take i) ++ List.replicate j ⟨(i : Int), x.price, true⟩) ∧ Hid (J pre wr) ∧ Hid (Stays n₀ W wr ∧ W.heap.size ≤ wr.heap.size ∧ wr.heap[bx]? = some (.cells #[.string x.sku, .int .i64 (N : Int), .int .i64 x.price] 28 (0, 0)))) (fun s14 _ => N - (intOf s14).toNat)
      case atStart => exact ⟨0, pre, rfl, by omega, Lib.hid (by rw [List.replicate_zero, List.append_nil]; exact HP.out), HJ2, Lib.hid ⟨HS2.out.1, HS2.out.2, HBl.out⟩⟩
      case round =>
        clear HJ2 HS2 HBl HP pre
        obtain ⟨j, pre, rfl, hj, HP, HJs, HSt⟩ := hrel
        have jj : (0 : Int) ≤ (j : Int) := by omega
        by_cases hjn : j < N
        · have k2 : (j : Int) < (N : Int) := by omega
          have d2 := cell_of_row wr bx 2 #[.string x.sku, .int .i64 (N : Int), .int .i64 x.price] 28 (0, 0) HSt.out.2.2
          have hlen := upto_len HF.out HX.out.1 HX.out.2.1 hjn HZ.out HP.out
          obtain ⟨fn, tmps, assign, body, hy, hR⟩ := HY.out pre ⟨⟨(i : Int), x.price, true⟩, HU.out⟩ wr HJs.out hlen
          have HRd := Lib.hid hR
          unfold encU at hy
          dsimp only at hy
          clear hR hlen
          gi_wp2
          refine HRd.out.mono ?_
          rintro e W3 (⟨rfl, hJ3, hk3⟩ | ⟨rfl, hJx3⟩)
          · have HN1 : Hid ((pre ++ [(⟨⟨(i : Int), x.price, true⟩, HU.out⟩ : UO)]).map Subtype.val = flatU 0 (xs.take i) ++ List.replicate (j + 1) ⟨(i : Int), x.price, true⟩) := Lib.hid (by rw [List.map_append, HP.out, replicate_next, List.append_assoc]; rfl)
            have HJ3 := Lib.hid hJ3
            have HS3 : Hid (Stays n₀ W W3 ∧ W.heap.size ≤ W3.heap.size ∧ W3.heap[bx]? = some (.cells #[.string x.sku, .int .i64 (N : Int), .int .i64 x.price] 28 (0, 0))) := Lib.hid ⟨HSt.out.1.trans hk3, Nat.le_trans HSt.out.2.1 hk3.below.size, hk3.lines _ _ HSt.out.2.2⟩
            clear hJ3 hk3 hy d2
            gi_wp2
            go_roundw
            case rel => exact ⟨j + 1, _, by go_num, by omega, HN1, HJ3, HS3⟩
            case measure => simp [intOf]; omega
          · have HJx := Lib.hid hJx3
            clear hJx3 hy d2
            gi_wp2
            refine bodyPost_ret (results_none rfl _ _ _) rfl ?_
            exact ⟨⟨_, rfl⟩, .inr ⟨_, trivial, HJx.out⟩⟩
        · have k2 : ¬ (j : Int) < (N : Int) := by omega
          obtain rfl : j = N := by omega
          have HN1 : Hid (pre.map Subtype.val = flatU 0 (xs.take (i + 1))) := Lib.hid (by rw [HP.out, flatU_next HX.out.1]; unfold lineU; rw [HX.out.2.1])
          gi_wp2
          go_roundw
          case rel => exact ⟨i + 1, pre, by go_num, by omega, HN1, HJs, Lib.hid ⟨HSt.out.1, HSt.out.2.1⟩⟩
          case measure => simp [intOf]; omega
    · have k1 : ¬ (i : Int) < (m : Int) := by omega
      obtain rfl : i = m := by omega
      have HE : Hid (pre.map Subtype.val = flatU 0 xs) := Lib.hid (by rw [HP.out, List.take_of_length_le (by rw [HLn.out]; omega)])
      gi_wp2
      go_end0
      exact ⟨⟨_, rfl⟩, .inl ⟨pre, HE.out, HJs.out⟩⟩

/-- What each hands back stops, whatever the loop's body does that leaves the lines. -/
theorem each_stops (F : Fence) (n : Nat) (h48 : F.fn 48) (hro : F.round = none) (hn : 1 ≤ n) (Bn n₀ : Nat) (A : Option Addr) (m c : Nat) (xs : List Lin) (hf : Fine xs) (hm : m ≤ 1000) (zs : List UO) (hz : zs.map Subtype.val = flatU 0 xs) (w : World) (hBn : Bn < w.heap.size) (hn₀ : n₀ ≤ w.heap.size)
    (hc : w.cell? ⟨Bn, 0, none⟩ = some (.slice A m c)) (hL : Row kLin w (· < n₀) A m xs) :
    SeqStopsK F n Try.prog 48 #[.pointer (some ⟨Bn, 0, none⟩)] encU (Stays n₀) (fun ys => ys.map Subtype.val = flatU 0 xs) (fun _ => True) zs.length w := fun l J Jx W hW hJ _ hY h0 =>
  each1_in F n h48 hro hn l Bn n₀ A m c xs hf hm zs hz J Jx W hJ hY ((hW.cell (p := ⟨Bn, 0, none⟩) hBn).trans hc) (hL.below (hW.mono hn₀) (Nat.le_refl _)) (Nat.le_trans hn₀ hW.size) h0

theorem each_any (A : Option Addr) (m c : Nat) (w : World) :
    Calls Try.prog 37 #[.slice A m c] w fun e w' => e = .returned (.func (.func 48) #[] #[.pointer (some ⟨w.heap.size, 0, none⟩)]) ∧ w' = w.alloc (.cells #[.slice A m c] 23) := by
  go_enter Try.func37, Try.ntmps37
  go_wp2
  go_ret
  exact ⟨rfl, rfl⟩

end Go.Proofs.Ytdmpnkhgcggepaa.Bk
