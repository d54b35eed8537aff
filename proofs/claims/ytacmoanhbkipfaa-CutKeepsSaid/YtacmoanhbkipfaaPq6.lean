/- Cuts: the library's Backward over tiers, and the landed Reached, which ranges over it. · The statements' helpers on api.Unit: Same, Plain, Own, Kept. · Contracts of the statements' plain things: Mod, Mod64, Sku, Category, pick; the document's Name and in. -/
import Derived.Deep.RegionHeld3
import Derived.Laws.Concat
import Derived.Laws.ResultCell
import Derived.Laws.StructEq
import Derived.LoopIn
import Derived.LoopNIn
import Derived.OwnWalkIn
import Derived.RangeFuncBound
import Derived.RangeFuncBox
import Derived.RangeFuncCalls
import Derived.RangeFuncLeaves
import Derived.RangeFuncNested
import Derived.Shelf.Abstract
import Derived.Shelf.RegionOpen
import Derived.TacticsInMore
import Derived.WalkKit
import Derived.Test.YtacmoanhbkipfaaPq1
import Derived.Test.YtacmoanhbkipfaaPq2
import Derived.Test.YtacmoanhbkipfaaPq5

section
set_option maxRecDepth 100000
set_option linter.unusedVariables false
namespace Go.Proofs.Ytacmoanhbkipfaa.Ct
open Go.ChangeShapes Go.WideShapes Go.ChangeAt Go.RowKit Go.Shelf
open Ap (Unt Tir Prm kUnt kTir row_Unt row_Tir)
open Kd (Kind Row kInt row_int)
attribute [local go_sem] Oper.semAt_some
abbrev TO := { t : Tir // t.ok }
def encT (x : Int × TO) : Array Value := #[.int .i64 x.1, .agg #[.int .i64 x.2.1.least, .int .i64 x.2.1.rate, .int .i64 x.2.1.amount]]
def tirs (l : List (Int × TO)) : List Tir := l.map fun x => x.2.1
theorem tirs_snoc (l : List (Int × TO)) (x : Int × TO) : tirs (l ++ [x]) = tirs l ++ [x.2.1] := by unfold tirs; rw [List.map_append]; rfl
theorem drop_prev {α : Type} {xs : List α} {k : Nat} {t : α} (h : xs[k]? = some t) : (xs.drop k).reverse = (xs.drop (k + 1)).reverse ++ [t] := by
  have hl := (List.getElem?_eq_some_iff.1 h).1
  rw [List.drop_eq_getElem_cons hl, List.reverse_cons]
  rw [(List.getElem?_eq_some_iff.1 h).2]
theorem back_find (x : Int) : ∀ ts : List Tir, reached x ts = ts.reverse.find? fun t => decide (t.least ≤ x)
  | [] => rfl
  | t :: ts => by
    rw [reached, back_find x ts, List.reverse_cons, List.find?_append]
    cases ts.reverse.find? fun t => decide (t.least ≤ x) with
    | some u => rfl
    | none =>
      by_cases h : t.least ≤ x
      · simp [h]
      · simp [h]
theorem back_none {x : Int} {ts : List Tir} (h : ∀ t ∈ ts.reverse, x < t.least) : reached x ts = none := by
  rw [back_find, List.find?_eq_none]
  intro t ht
  have := h t ht
  simp only [decide_eq_true_eq]
  omega
theorem back_some {x : Int} {ts ini rest : List Tir} {t : Tir} (e : ts.reverse = ini ++ t :: rest) (h : ∀ u ∈ ini, x < u.least) (ht : t.least ≤ x) : reached x ts = some t := by
  rw [back_find, e, List.find?_append]
  have h1 : ini.find? (fun u => decide (u.least ≤ x)) = none := by
    rw [List.find?_eq_none]
    intro u hu
    have := h u hu
    simp only [decide_eq_true_eq]
    omega
  rw [h1]
  simp [ht]
set_option maxRecDepth 100000 in
set_option maxHeartbeats 2000000 in
theorem back1_in (F : Fence) (n : Nat) (h48 : F.fn 51) (hro : F.round = none) (hn : 1 ≤ n) (l Bn n₀ : Nat) (A : Option Addr) (m c : Nat) (xs : List Tir) (hm : m ≤ 1000000000000) (J Jx : List (Int × TO) → World → Prop) (W : World) (hJ : AbidesFrom W.heap.size J)
    (hY : ∀ pre x W1, J pre W1 → pre.length < m → YieldAt F (n - 1) Try.prog l (encT x) W1 fun e W' =>
      (e = .returned (.bool true) ∧ J (pre ++ [x]) W' ∧ Below n₀ W1 W') ∨ (e = .returned (.bool false) ∧ Jx (pre ++ [x]) W'))
    (hBn : W.cell? ⟨Bn, 0, none⟩ = some (.slice A m c)) (hBn0 : Bn < n₀) (hL : Row kTir W (· < n₀) A m xs) (hn₀ : n₀ ≤ W.heap.size) (h0 : J [] W) :
    CallsIn F n Try.prog 51 #[.func (.yield l) #[] #[], .pointer (some ⟨Bn, 0, none⟩)] W fun e W' => (∃ v, e = .returned v) ∧
      ((∃ ys, tirs ys = xs.reverse ∧ J ys W') ∨ (∃ pre : List (Int × TO), (∃ k, k ≤ m ∧ tirs pre = (xs.drop k).reverse) ∧ Jx pre W')) := by
  have hLen := hL.len
  have HL := Lib.hid hL
  have HLn := Lib.hid hLen
  have HY := Lib.hid hY
  have H0 := Lib.hid h0
  obtain ⟨z0, hz0⟩ : ∃ z : Int, (m : Int) - 1 = z := ⟨_, rfl⟩
  have w0 : IntKind.i64.wrap ((m : Int) - 1) = z0 := by rw [hz0]; exact IntWalk.i64_in _ (by omega)
  have HZ0 := Lib.hid hz0
  clear hL hLen hY h0 hz0 hJ
  refine callsIn_of_wp Try.func51 rfl h48 ?_ hro
  simp only [Try.ntmps51, List.size_toArray, List.length_cons, List.length_nil, Nat.reduceAdd, Nat.reduceSub, Array.replicate_succ, Array.replicate_zero, List.push_toArray, List.append_toArray, List.nil_append, List.cons_append]
  gi_wp2
  gi_loopw [3] (fun s3 wr => ∃ (k : Nat) (z : Int) (pre : List (Int × TO)), s3 = .int .i64 z ∧ Hid (z = (k : Int) - 1) ∧ k ≤ m ∧ Hid (tirs pre = (xs.drop k).reverse) ∧ Hid (J pre wr) ∧ Hid (Below n₀ W wr)) (fun s3 _ => (intOf s3 + 1).toNat)
  case atStart => exact ⟨m, z0, [], rfl, Lib.hid (by have := HZ0.out; omega), by omega, Lib.hid (by rw [List.drop_of_length_le (by rw [HLn.out]; omega)]; rfl), H0, Lib.hid (Below.refl _ _)⟩
  case round =>
    clear H0 w0
    obtain ⟨k, z, pre, rfl, HZ, hk, HP, HJs, HSt⟩ := hrel
    cases k with
    | succ k =>
      obtain rfl : z = (k : Int) := by have := HZ.out; omega
      have ii : (0 : Int) ≤ (k : Int) := by omega
      have hlt : k < m := by omega
      have k1 : (k : Int) < (m : Int) := by omega
      obtain ⟨x, hx⟩ := HL.out.get hlt
      obtain ⟨g, o, rfl, hg, _, hok, a0, a1, a2⟩ := row_Tir HL.out hx
      have c0 : wr.cell? ⟨g, o + k * 3, none⟩ = some (.int .i64 x.least) := (HSt.out.cell (p := ⟨g, _, none⟩) hg).trans a0
      have c1 : wr.cell? ⟨g, o + k * 3 + 1, none⟩ = some (.int .i64 x.rate) := (HSt.out.cell (p := ⟨g, _, none⟩) hg).trans a1
      have c2 : wr.cell? ⟨g, o + k * 3 + 2, none⟩ = some (.int .i64 x.amount) := (HSt.out.cell (p := ⟨g, _, none⟩) hg).trans a2
      have cb : wr.cell? ⟨Bn, 0, none⟩ = some (.slice (some ⟨g, o, none⟩) m c) := (HSt.out.cell (p := ⟨Bn, 0, none⟩) hBn0).trans hBn
      have hplen : pre.length < m := by
        have e := congrArg List.length HP.out
        unfold tirs at e
        rw [List.length_map, List.length_reverse, List.length_drop, HLn.out] at e
        omega
      obtain ⟨fn, tmps, assign, body, hy, hR⟩ := HY.out pre ((k : Int), ⟨x, hok⟩) wr HJs.out hplen
      have HRd := Lib.hid hR
      have HX := Lib.hid hx
      unfold encT at hy
      dsimp only at hy
      obtain ⟨z', hz'⟩ : ∃ z : Int, (k : Int) - 1 = z := ⟨_, rfl⟩
      have wz : IntKind.i64.wrap ((k : Int) - 1) = z' := by rw [hz']; exact IntWalk.i64_in _ (by omega)
      have HZ' := Lib.hid hz'
      clear hR hx a0 a1 a2 hg hz' hplen
      gi_wp2
      refine HRd.out.mono ?_
      rintro e W3 (⟨rfl, hJ3, hk3⟩ | ⟨rfl, hJx3⟩)
      · have HN1 : Hid (tirs (pre ++ [((k : Int), (⟨x, hok⟩ : TO))]) = (xs.drop k).reverse) := Lib.hid (by rw [tirs_snoc, HP.out, drop_prev HX.out])
        have HJ3 := Lib.hid hJ3
        have HS3 : Hid (Below n₀ W W3) := Lib.hid (HSt.out.trans hk3)
        clear hJ3 hk3 hy
        gi_wp2
        go_roundw
        case rel => exact ⟨k, z', _, by first | rfl | go_num, Lib.hid HZ'.out.symm, by omega, HN1, HJ3, HS3⟩
        case measure => have := HZ'.out; simp [intOf]; omega
      · have HJx := Lib.hid hJx3
        have HN1 : Hid (tirs (pre ++ [((k : Int), (⟨x, hok⟩ : TO))]) = (xs.drop k).reverse) := Lib.hid (by rw [tirs_snoc, HP.out, drop_prev HX.out])
        clear hJx3 hy
        gi_wp2
        refine bodyPost_ret (results_none rfl _ _ _) rfl ?_
        exact ⟨⟨_, rfl⟩, .inr ⟨_, ⟨k, by omega, HN1.out⟩, HJx.out⟩⟩
    | zero =>
      obtain rfl : z = -1 := by have := HZ.out; omega
      gi_wp2
      go_end0
      exact ⟨⟨_, rfl⟩, .inl ⟨pre, by rw [HP.out]; rfl, HJs.out⟩⟩
theorem back_stops (F : Fence) (n : Nat) (h48 : F.fn 51) (hro : F.round = none) (hn : 1 ≤ n) (Bn n₀ : Nat) (A : Option Addr) (m c : Nat) (xs : List Tir) (hm : m ≤ 1000000000000) (w : World) (hBn : Bn < n₀) (hn₀ : n₀ ≤ w.heap.size)
    (hc : w.cell? ⟨Bn, 0, none⟩ = some (.slice A m c)) (hL : Row kTir w (· < n₀) A m xs) :
    SeqStopsK F n Try.prog 51 #[.pointer (some ⟨Bn, 0, none⟩)] encT (Below n₀) (fun ys => tirs ys = xs.reverse) (fun pre => ∃ k, k ≤ m ∧ tirs pre = (xs.drop k).reverse) m w := fun l J Jx W hW hJ _ hY h0 =>
  back1_in F n h48 hro hn l Bn n₀ A m c xs hm J Jx W hJ hY ((hW.cell (p := ⟨Bn, 0, none⟩) (by show Bn < _; omega)).trans hc) hBn (hL.below (hW.mono hn₀) (Nat.le_refl _)) (Nat.le_trans hn₀ hW.size) h0
theorem back_any (A : Option Addr) (m c : Nat) (w : World) :
    Calls Try.prog 31 #[.slice A m c] w fun e w' => e = .returned (.func (.func 51) #[] #[.pointer (some ⟨w.heap.size, 0, none⟩)]) ∧ w' = w.alloc (.cells #[.slice A m c] 26) := by
  go_enter Try.func31, Try.ntmps31
  go_wp2
  go_ret
  exact ⟨rfl, rfl⟩
theorem tier_put {W : World} {g : Nat} {u : Array Value} (h : Qu.Blk W g 48 u) (hu : u.size = 3) (a b c : Value) : Qu.Blk (((W.setCell ⟨g, 0, none⟩ a).setCell ⟨g, 1, none⟩ b).setCell ⟨g, 2, none⟩ c) g 48 #[a, b, c] := by
  have h3 := ((h.put 0 a).put 1 b).put 2 c
  obtain ⟨l⟩ := u
  match l, hu with
  | [x, y, z], _ => exact h3
theorem blk_other {W : World} {g g2 t : Nat} {u : Array Value} (h : Qu.Blk W g t u) (hne : g ≠ g2) (i : Nat) (v : Value) : Qu.Blk (W.setCell ⟨g2, i, none⟩ v) g t u := h.as (Below.heap_setCell W _ _ g hne)
theorem put_four {w W : World} {q k : Nat} (hy : Qu.Blk W (q + 1) 48 #[.int .i64 0, .int .i64 0, .int .i64 0]) (hz : Qu.Blk W (q + 2) 4 #[.bool false]) (hk : k ≤ q) (hb : Below k w W) (a b c v : Value) {W' : World} (e : (((W.setCell ⟨q + 1, 0, none⟩ a).setCell ⟨q + 1, 1, none⟩ b).setCell ⟨q + 1, 2, none⟩ c).setCell ⟨q + 2, 0, none⟩ v = W') :
    W'.heap[q + 1]? = some (.cells #[a, b, c] 48 (0, 0)) ∧ W'.heap[q + 2]? = some (.cells #[v] 4 (0, 0)) ∧ Below k w W' ∧ KeepsOthers W W' := by
  subst e
  have h1 := blk_other (tier_put hy rfl a b c) (g2 := q + 2) (by omega) 0 v
  have h2 := (blk_other (blk_other (blk_other hz (g2 := q + 1) (by omega) 0 a) (g2 := q + 1) (by omega) 1 b) (g2 := q + 1) (by omega) 2 c).put 0 v
  exact ⟨h1.here, h2.here, (((hb.setCell (p := ⟨q + 1, 0, none⟩) (by show k ≤ q + 1; omega) a).setCell (p := ⟨q + 1, 1, none⟩) (by show k ≤ q + 1; omega) b).setCell (p := ⟨q + 1, 2, none⟩) (by show k ≤ q + 1; omega) c).setCell (p := ⟨q + 2, 0, none⟩) (by show k ≤ q + 2; omega) v, (((KeepsOthers.setCell _ _ _).trans (KeepsOthers.setCell _ _ _)).trans (KeepsOthers.setCell _ _ _)).trans (KeepsOthers.setCell _ _ _)⟩
theorem box_lies (B : Nat) (t : TypeId) (cs : Array Value) : Own (fun (_ : Unit) W => W.heap[B]? = some (.cells cs t (0, 0))) := fun s X Y row hs hg hrow =>
  (hg.block B (Array.getElem?_eq_some_iff.1 hs).1 (fun e => by
    obtain ⟨o, ho, hc⟩ := hrow B e.symm
    rw [hs] at ho; cases ho; cases hc)).trans hs
theorem results_tier {f : Func} {p q : Tmp} {T U : TypeId} (hf : f.results = #[.cell p T, .cell q U]) (tmps : Array Value) (w : World) (g g2 : Nat) (a b c v : Value) (hT : T = 48) (hU : U = 4) (h0 : w.cell? ⟨g, 0, none⟩ = some a) (h1 : w.cell? ⟨g, 1, none⟩ = some b) (h2 : w.cell? ⟨g, 2, none⟩ = some c) (h3 : w.cell? ⟨g2, 0, none⟩ = some v) (hp : tmps.getD p undef = .pointer (some ⟨g, 0, none⟩)) (hq : tmps.getD q undef = .pointer (some ⟨g2, 0, none⟩)) : (results f tmps).run Try.prog w = .ok (.tuple #[.agg #[a, b, c], v]) w := by
  subst hT
  subst hU
  have hp' : tmps[p]?.getD undef = .pointer (some ⟨g, 0, none⟩) := by simpa using hp
  have hq' : tmps[q]?.getD undef = .pointer (some ⟨g2, 0, none⟩) := by simpa using hq
  simp [results, hf, hp', hq', asAddr, go_sem, h0, h1, h2, h3]
set_option maxRecDepth 100000 in
set_option maxHeartbeats 4000000 in
theorem lreached_any (A : Option Addr) (n c : Nat) (ts : List Tir) (x : Int) (w : World) (h : Row kTir w (· < w.heap.size) A n ts) (hn : n ≤ 1000000000000) :
    Calls Try.prog 16 #[.slice A n c, .int .i64 x] w fun e w' => e = tierPair x ts ∧ Below w.heap.size w w' := by
  have HH := Lib.hid h
  have HL := Lib.hid h.len
  clear h
  refine (callsIn_wide (n := 8)).1 ?_
  refine callsIn_of_wp_marks Try.func16 rfl trivial ?_
  simp only [Try.ntmps16, List.size_toArray, List.length_cons, List.length_nil, Nat.reduceAdd, Nat.reduceSub, Array.replicate_succ, Array.replicate_zero, List.push_toArray, List.append_toArray, List.nil_append, List.cons_append]
  gi_wp2_with fail
  obtain ⟨W1, hW1⟩ : ∃ W1, w.alloc (.cells #[.int .i64 x] 2) = W1 := ⟨_, rfl⟩
  have hs1 : W1.heap.size = w.heap.size + 1 := by rw [← hW1]; simp
  have hb1 : Below w.heap.size w W1 := by rw [← hW1]; exact (Below.refl _ _).alloc (Nat.le_refl _) _
  have x1 : W1.heap[w.heap.size]? = some (.cells #[.int .i64 x] 2 (0, 0)) := by rw [← hW1]; exact heap_alloc_new w _
  obtain ⟨W2, hW2⟩ : ∃ W2, W1.alloc (.cells #[.int .i64 0, .int .i64 0, .int .i64 0] 48) = W2 := ⟨_, rfl⟩
  have hs2 : W2.heap.size = w.heap.size + 2 := by rw [← hW2]; simp [hs1]
  have hb2 : Below w.heap.size w W2 := by rw [← hW2]; exact hb1.alloc hb1.size _
  have x2 : W2.heap[w.heap.size]? = some (.cells #[.int .i64 x] 2 (0, 0)) := by rw [← hW2]; exact (Below.heap_alloc W1 _ _ (by omega)).trans x1
  have y2 : W2.heap[w.heap.size + 1]? = some (.cells #[.int .i64 0, .int .i64 0, .int .i64 0] 48 (0, 0)) := by rw [← hW2, ← hs1]; exact heap_alloc_new W1 _
  obtain ⟨W3, hW3⟩ : ∃ W3, W2.alloc (.cells #[.bool false] 4) = W3 := ⟨_, rfl⟩
  have hs3 : W3.heap.size = w.heap.size + 3 := by rw [← hW3]; simp [hs2]
  have hb3 : Below w.heap.size w W3 := by rw [← hW3]; exact hb2.alloc hb2.size _
  have x3 : W3.heap[w.heap.size]? = some (.cells #[.int .i64 x] 2 (0, 0)) := by rw [← hW3]; exact (Below.heap_alloc W2 _ _ (by omega)).trans x2
  have y3 : W3.heap[w.heap.size + 1]? = some (.cells #[.int .i64 0, .int .i64 0, .int .i64 0] 48 (0, 0)) := by rw [← hW3]; exact (Below.heap_alloc W2 _ _ (by omega)).trans y2
  have z3 : W3.heap[w.heap.size + 2]? = some (.cells #[.bool false] 4 (0, 0)) := by rw [← hW3, ← hs2]; exact heap_alloc_new W2 _
  rw [hW1, hW2, hW3]
  refine ⟨trivial, (callsIn_wide.2 (back_any A n c W3)).mono ?_⟩
  rintro e w9 ⟨rfl, rfl⟩
  obtain ⟨W4, hW4⟩ : ∃ W4, W3.alloc (.cells #[.slice A n c] 26) = W4 := ⟨_, rfl⟩
  have hs4 : W4.heap.size = w.heap.size + 4 := by rw [← hW4]; simp [hs3]
  have hb4 : Below w.heap.size w W4 := by rw [← hW4]; exact hb3.alloc hb3.size _
  have x4 : W4.heap[w.heap.size]? = some (.cells #[.int .i64 x] 2 (0, 0)) := by rw [← hW4]; exact (Below.heap_alloc W3 _ _ (by omega)).trans x3
  have y4 : W4.heap[w.heap.size + 1]? = some (.cells #[.int .i64 0, .int .i64 0, .int .i64 0] 48 (0, 0)) := by rw [← hW4]; exact (Below.heap_alloc W3 _ _ (by omega)).trans y3
  have z4 : W4.heap[w.heap.size + 2]? = some (.cells #[.bool false] 4 (0, 0)) := by rw [← hW4]; exact (Below.heap_alloc W3 _ _ (by omega)).trans z3
  have v4 : W4.cell? ⟨w.heap.size + 3, 0, none⟩ = some (.slice A n c) := cell_of_row W4 _ 0 #[.slice A n c] 26 (0, 0) (by rw [← hW4, ← hs3]; exact heap_alloc_new W3 _)
  rw [hW4]
  obtain ⟨q0, hq0⟩ : ∃ q0, w.heap.size = q0 := ⟨_, rfl⟩
  have eW1 := hs1
  have eW2 := hs2
  have eW3 := hs3
  rw [hq0] at eW1 eW2 eW3
  simp only [hq0, eW3]
  simp only [show q0 + 1 + 1 = q0 + 2 from rfl]
  rw [hq0] at hs4 x4 y4 z4 v4 hb4
  have HRow := Lib.hid (HH.out.below (by rw [hq0]; exact hb4) (Nat.le_refl _))
  have HFin : Hid (∀ (D : Nat) (W W' : World) (a b d : Int) (v : Bool), W4.heap.size ≤ D → Below q0 w W → W.heap[D]? = some (.deferred (some [])) → W' = W.putObj D (.deferred none) → W.heap[q0 + 1]? = some (.cells #[.int .i64 a, .int .i64 b, .int .i64 d] 48 (0, 0)) → W.heap[q0 + 2]? = some (.cells #[.bool v] 4 (0, 0)) → (W'.cell? ⟨q0 + 1, 0, none⟩ = some (.int .i64 a) ∧ W'.cell? ⟨q0 + 1, 1, none⟩ = some (.int .i64 b) ∧ W'.cell? ⟨q0 + 1, 2, none⟩ = some (.int .i64 d) ∧ W'.cell? ⟨q0 + 2, 0, none⟩ = some (.bool v) ∧ Below q0 w W')) := Lib.hid (by
    rintro D W W' a b d v hD hB hK rfl hy hz
    have hy2 := (World.putObj_heap_other (o := .deferred none) (w := W) (by omega : q0 + 1 ≠ D)).trans hy
    have hz2 := (World.putObj_heap_other (o := .deferred none) (w := W) (by omega : q0 + 2 ≠ D)).trans hz
    exact ⟨cell_of_row _ _ 0 _ _ _ hy2, cell_of_row _ _ 1 _ _ _ hy2, cell_of_row _ _ 2 _ _ _ hy2, cell_of_row _ _ 0 _ _ _ hz2, hB.trans (belowK_b (w := w) (by omega) W D _ _ (by omega) hK rfl rfl)⟩)
  clear hW1 hs1 hb1 x1 hW2 hs2 hb2 x2 y2 hW3 hs3 hb3 x3 y3 z3 hW4 eW1 eW2 eW3
  gi_wp2
  refine wpIn_rangeFunc_ownH (α := Int × TO) rfl (by decide) (gf := 51) (lb := #[.pointer (some ⟨q0 + 3, 0, none⟩)]) rfl trivial (enters_of Try.func51 (by kernel_rfl) rfl)
    (back_stops Fence.wide (8 - 1) trivial rfl (by decide) (q0 + 3) W4.heap.size A n c ts hn W4 (by omega) (Nat.le_refl _) v4 (HRow.out.lift (by omega))) belowK_t (belowK_b (Nat.le_refl _)) (Below.refl _ _) (fun _ => rfl)
    (fun pre W => (∀ t ∈ tirs pre, x < t.least) ∧ Below W4.heap.size W4 W)
    (fun cc pre W => (cc = .ret ∧ ∃ ini last, tirs pre = ini ++ [last] ∧ (∀ t ∈ ini, x < t.least) ∧ last.least ≤ x ∧ W.heap[q0 + 1]? = some (.cells #[.int .i64 last.least, .int .i64 last.rate, .int .i64 last.amount] 48 (0, 0)) ∧ W.heap[q0 + 2]? = some (.cells #[.bool true] 4 (0, 0))) ∧ Below q0 w W)
    (OwnFrom.and (fun _ _ _ _ hs _ _ => hs) (ownFrom_below (Nat.le_refl _) (Nat.le_refl _)))
    (fun cc => OwnFrom.and (Own.from (fun s X Y row hs hg hr => by
      obtain ⟨hc, ini, last, e1, e2, e3, e4, e5⟩ := hs
      exact ⟨hc, ini, last, e1, e2, e3, box_lies _ _ _ () X Y row e4 hg hr, box_lies _ _ _ () X Y row e5 hg hr⟩) _) (ownFrom_below (by omega) (by omega)))
    ⟨fun t ht => (by cases ht), Below.refl _ _⟩
    (fun y a' W => ∃ Bx, W4.heap.size ≤ Bx ∧ W.heap[Bx]? = some (.cells #[.int .i64 y.2.1.least, .int .i64 y.2.1.rate, .int .i64 y.2.1.amount] 48 (0, 0)) ∧ a' = { tmps := #[.slice A n c, .int .i64 x, undef, .pointer (some ⟨q0, 0, none⟩), .pointer (some ⟨q0 + 1, 0, none⟩), .pointer (some ⟨q0 + 2, 0, none⟩), undef, .pointer (some ⟨Bx, 0, none⟩), .slice A n c, .func (.func 51) #[] #[.pointer (some ⟨q0 + 3, 0, none⟩)], .int .i64 y.1, .agg #[.int .i64 y.2.1.least, .int .i64 y.2.1.rate, .int .i64 y.2.1.amount], undef, undef, undef, undef, undef, undef], defers := [] })
    (fun y a' _ X Y row hs hg hr => by obtain ⟨Bx, h1, h2, h3⟩ := hs; exact ⟨Bx, h1, box_lies Bx 48 _ () X Y row h2 hg (fun r e => (hr r e).2), h3⟩)
    ?assign ?body ?done ?stop
  case assign =>
    rintro l pre y W Kq ⟨hP, hB⟩ hKq
    simp only [encT]
    gi_wp2
    refine hKq _ _ ((KeepsOthers.alloc _ _).from _) ((Below.refl _ W).alloc hB.size _) ⟨hP, hB.alloc hB.size _⟩ ⟨W.heap.size, hB.size, heap_alloc_new W _, rfl⟩
  case body =>
    rintro l pre y a' W hl ⟨r, hr⟩ ⟨hP, hB⟩ ⟨Bx, hBx, bX, rfl⟩ hlt
    have x0 := cell_of_row W Bx 0 _ _ _ bX
    have x1 := cell_of_row W Bx 1 _ _ _ bX
    have x2 := cell_of_row W Bx 2 _ _ _ bX
    have hx0 : W.heap[q0]? = some (.cells #[.int .i64 x] 2 (0, 0)) := (hB.block q0 (by omega)).trans x4
    have cx := cell_of_row W q0 0 _ _ _ hx0
    have hy0 : Qu.Blk W (q0 + 1) 48 #[.int .i64 0, .int .i64 0, .int .i64 0] := ⟨(hB.block (q0 + 1) (by omega)).trans y4⟩
    have hz0 : Qu.Blk W (q0 + 2) 4 #[.bool false] := ⟨(hB.block (q0 + 2) (by omega)).trans z4⟩
    have y0 := hy0.cell 0
    have y1 := hy0.cell 1
    have y2 := hy0.cell 2
    have z0 := hz0.cell 0
    have f1 := hy0.frozen
    have f2 := hz0.frozen
    have HYZ := Lib.hid (And.intro hy0 hz0)
    have hPl := Lib.hid hP
    clear hr hP hy0 hz0
    by_cases hle : y.2.1.least ≤ x
    · gi_wp2
      obtain ⟨W', hW'⟩ : ∃ W', (((W.setCell ⟨q0 + 1, 0, none⟩ (.int .i64 y.2.1.least)).setCell ⟨q0 + 1, 1, none⟩ (.int .i64 y.2.1.rate)).setCell ⟨q0 + 1, 2, none⟩ (.int .i64 y.2.1.amount)).setCell ⟨q0 + 2, 0, none⟩ (.bool true) = W' := ⟨_, rfl⟩
      obtain ⟨k1, k2, k3, k4⟩ := put_four HYZ.out.1 HYZ.out.2 (Nat.le_refl q0) (hb4.trans (hB.mono (by omega))) _ _ _ _ hW'
      rw [hW']
      exact ⟨k4.from _, ⟨rfl, tirs pre, y.2.1, tirs_snoc _ _, hPl.out, hle, k1, k2⟩, k3⟩
    · gi_wp2
      exact ⟨KeepsFrom.refl _ _, Below.refl _ _, ⟨fun t ht => (by
        rw [tirs_snoc] at ht
        rcases List.mem_append.1 ht with h9 | h9
        · exact hPl.out t h9
        · rw [List.mem_singleton] at h9; subst h9; omega), (by have h8 := hB; rw [hs4] at h8; exact h8)⟩⟩
  case done =>
    rintro D ys W hD hys ⟨hP, hB⟩ hK
    rw [hys] at hP
    have HE := Lib.hid (back_none hP)
    have hy0 : Qu.Blk W (q0 + 1) 48 #[.int .i64 0, .int .i64 0, .int .i64 0] := ⟨(hB.block (q0 + 1) (by omega)).trans y4⟩
    have hz0 : Qu.Blk W (q0 + 2) 4 #[.bool false] := ⟨(hB.block (q0 + 2) (by omega)).trans z4⟩
    have y0 := hy0.cell 0
    have y1 := hy0.cell 1
    have y2 := hy0.cell 2
    have z0 := hz0.cell 0
    have f1 := hy0.frozen
    have f2 := hz0.frozen
    have HYZ := Lib.hid (And.intro hy0 hz0)
    clear hy0 hz0
    gi_wp2
    obtain ⟨W', hW'⟩ : ∃ W', (((W.setCell ⟨q0 + 1, 0, none⟩ (.int .i64 0)).setCell ⟨q0 + 1, 1, none⟩ (.int .i64 0)).setCell ⟨q0 + 1, 2, none⟩ (.int .i64 0)).setCell ⟨q0 + 2, 0, none⟩ (.bool false) = W' := ⟨_, rfl⟩
    obtain ⟨k1, k2, k3, k4⟩ := put_four HYZ.out.1 HYZ.out.2 (Nat.le_refl q0) (hb4.trans (hB.mono (by omega))) _ _ _ _ hW'
    rw [hW']
    have hK' := k4.same D _ hK rfl
    refine ⟨by simp, .inl ⟨_, _, rfl, run_takeDeferred hK', ?_⟩⟩
    obtain ⟨j0, j1, j2, j3, hbe⟩ := HFin.out D W' _ _ _ _ _ hD k3 hK' rfl k1 k2
    refine ⟨_, results_tier rfl _ _ (q0 + 1) (q0 + 2) _ _ _ _ rfl rfl j0 j1 j2 j3 rfl rfl, ?_, ?_⟩
    · unfold tierPair tierOf
      rw [HE.out]
      rfl
    · rw [hq0]; exact hbe
  case stop =>
    rintro D cc pre W hD ⟨k, hk, hpre⟩ ⟨⟨rfl, ini, last, e1, e2, e3, e4, e5⟩, hB⟩ hK
    gi_wp2
    refine ⟨by simp, .inl ⟨_, _, rfl, run_takeDeferred hK, ?_⟩⟩
    obtain ⟨k0, k1, k2, k3, hbe⟩ := HFin.out D W _ _ _ _ _ hD hB hK rfl e4 e5
    have HE : reached x ts = some last := by
      have e9 : ts.reverse = (ts.drop k).reverse ++ (ts.take k).reverse := by rw [← List.reverse_append, List.take_append_drop]
      rw [← hpre, e1, List.append_assoc] at e9
      exact back_some e9 e2 e3
    refine ⟨_, results_tier rfl _ _ (q0 + 1) (q0 + 2) _ _ _ _ rfl rfl k0 k1 k2 k3 rfl rfl, ?_, ?_⟩
    · unfold tierPair tierOf
      rw [HE]
      rfl
    · rw [hq0]; exact hbe
end Go.Proofs.Ytacmoanhbkipfaa.Ct

end

section
set_option maxRecDepth 100000
set_option linter.unusedVariables false
namespace Go.Proofs.Ytacmoanhbkipfaa.Ap.Unt
open Go.ChangeShapes Go.WideShapes Go.ChangeAt Go.RowKit
open Kd (Kind Row Own Cells Reads Fields Fit Agree kInt kStr kFlag kPair kVia Filling Owned eqL eqL_len eqL_no eqL_yes eqL_refl Two rows_get)
theorem info_it : (Try.prog.info? 41).map (fun i => (i.zero, i.size, i.bytes)) = some (some (.agg #[.int .i64 0, .int .i64 0, .bool false]), 3, 24) := by kernel_rfl
theorem enc_one (x : Unt) : ∀ u ∈ x.enc, u.oneCell' = true := by
  intro u hu
  simp only [Unt.enc, List.mem_cons, List.not_mem_nil, or_false] at hu
  rcases hu with rfl | rfl | rfl <;> rfl
theorem row_t : Kd.RowT Try.prog kUnt 29 41 (.agg #[.int .i64 0, .int .i64 0, .bool false]) 3 24 :=
  ⟨Try.underlying29, info_it, rfl, rfl, by omega, fun h => by
    obtain ⟨rfl, _⟩ := Unt_rep.1 h
    exact enc_one _⟩
end Go.Proofs.Ytacmoanhbkipfaa.Ap.Unt

end

section
set_option maxRecDepth 100000
set_option linter.unusedVariables false
namespace Go.Proofs.Ytacmoanhbkipfaa.Py
open Go.ChangeShapes Go.WideShapes Go.ChangeAt Go.RowKit
def modN (a n : Int) : Nat := ((IntKind.u64.wrap a) % n).toNat
theorem modN_lt (a n : Int) (h : 1 ≤ n) : (modN a n : Int) < n := by
  unfold modN
  have h2 := Int.emod_nonneg (IntKind.u64.wrap a) (show n ≠ 0 by omega)
  have h3 := Int.emod_lt_of_pos (IntKind.u64.wrap a) (show 0 < n by omega)
  omega
theorem modN_of {a n : Int} (h0 : 0 ≤ a) (h1 : a < n) (h2 : n ≤ 9223372036854775807) : (modN a n : Int) = a := by
  unfold modN
  rw [IntKind.wrap_u64]
  have : a % 18446744073709551616 = a := Int.emod_eq_of_lt h0 (by omega)
  rw [this, Int.emod_eq_of_lt h0 h1]
  omega
theorem modN_num (k n : Nat) (h : k < n) (hn : n ≤ 9223372036854775807) : modN (k : Int) (n : Int) = k := by
  have := modN_of (a := (k : Int)) (n := (n : Int)) (by omega) (by omega) (by omega)
  omega
theorem mod_any (a n : Int) (w : World) (hn : 1 ≤ n) (hn1 : n ≤ 9223372036854775807) :
    Calls Try.prog 14 #[.int .i64 a, .int .i64 n] w fun e w' => e = .returned (.int .i64 (modN a n : Int)) ∧ w' = w := by
  obtain ⟨t, t1, t2, t3, t4⟩ := By.umod_in a n hn hn1
  have hw : IntKind.u64.wrap n = n := by rw [IntKind.wrap_u64]; omega
  have hm : modN a n = t := by unfold modN; omega
  have n0 : n ≠ 0 := by omega
  rw [hm]
  clear hm
  go_enter Try.func14, Try.ntmps14
  go_wp2
  go_ret
  exact ⟨congrArg (fun z => Ending.returned (.int .i64 z)) t1, rfl⟩
theorem mod64_any (a n : Int) (w : World) (hn : 1 ≤ n) (hn1 : n ≤ 9223372036854775807) :
    Calls Try.prog 15 #[.int .i64 a, .int .i64 n] w fun e w' => e = .returned (.int .i64 (modN a n : Int)) ∧ w' = w := by
  obtain ⟨t, t1, t2, t3, t4⟩ := By.umod_in a n hn hn1
  have hw : IntKind.u64.wrap n = n := by rw [IntKind.wrap_u64]; omega
  have hm : modN a n = t := by unfold modN; omega
  have n0 : n ≠ 0 := by omega
  rw [hm]
  clear hm
  go_enter Try.func15, Try.ntmps15
  go_wp2
  go_ret
  exact ⟨congrArg (fun z => Ending.returned (.int .i64 z)) t1, rfl⟩
def chr (c : Nat) : ByteArray := By.strOf [UInt8.ofNat c]
def skuS (k : Nat) : ByteArray := chr (97 + k)
def catS (k : Nat) : ByteArray := chr (120 + k)
theorem sku_any (a : Int) (w : World) : Calls Try.prog 49 #[.int .i64 a] w fun e w' => e = .returned (.string (skuS (modN a 8))) ∧ Below w.heap.size w w' := by
  have HM := Lib.hid (mod_any a 8 w (by omega) (by omega))
  have ht := modN_lt a 8 (by omega)
  generalize hk : modN a 8 = t at HM ht ⊢
  have hr := fun W => By.run_text (P := Try.prog) (c := 1) 66 9 5 Try.underlying66 Try.underlying5 Try.underlying9 (By.Bys.made W 5 (97 + (t : Int)) (by omega) (by omega))
  have e : (97 + (t : Int)).toNat = 97 + t := by omega
  rw [e] at hr
  have es : By.strOf [UInt8.ofNat (97 + t)] = skuS t := rfl
  simp only [es] at hr
  clear es
  clear hk
  go_enter Try.func49, Try.ntmps49
  go_wp2_with fail
  refine HM.out.mono ?_
  rintro e w1 ⟨rfl, rfl⟩
  go_wp2
  go_ret
  exact ⟨rfl, (Below.refl _ _).alloc (Nat.le_refl _) _⟩
theorem category_any (a : Int) (w : World) : Calls Try.prog 50 #[.int .i64 a] w fun e w' => e = .returned (.string (catS (modN a 3))) ∧ Below w.heap.size w w' := by
  have HM := Lib.hid (mod_any a 3 w (by omega) (by omega))
  have ht := modN_lt a 3 (by omega)
  generalize hk : modN a 3 = t at HM ht ⊢
  have hr := fun W => By.run_text (P := Try.prog) (c := 1) 66 9 5 Try.underlying66 Try.underlying5 Try.underlying9 (By.Bys.made W 5 (120 + (t : Int)) (by omega) (by omega))
  have e : (120 + (t : Int)).toNat = 120 + t := by omega
  rw [e] at hr
  have es : By.strOf [UInt8.ofNat (120 + t)] = catS t := rfl
  simp only [es] at hr
  clear es
  clear hk
  go_enter Try.func50, Try.ntmps50
  go_wp2_with fail
  refine HM.out.mono ?_
  rintro e w1 ⟨rfl, rfl⟩
  go_wp2
  go_ret
  exact ⟨rfl, (Below.refl _ _).alloc (Nat.le_refl _) _⟩
/-! ### The number that a text stands for -/
def pickTo (s : ByteArray) : Nat → Int
  | 0 => (s.size : Int)
  | k + 1 => wrap64 (wrap64 (7 * pickTo s k) + By.at_ s.data.toList k)
def pickS (s : ByteArray) : Int := pickTo s (min s.size 8)
theorem index_in {s : ByteArray} {k : Nat} (hk : k < s.size) : s[k]? = some (s.data.toList.getD k 0) := by
  rw [ByteArray.getElem?_lt' s k hk]
  congr 1
  have : k < s.data.toList.length := by rw [By.size_list]; exact hk
  rw [List.getD, List.getElem?_eq_getElem this]
  rfl
theorem run_at (t : TypeId) (ht : Try.prog.underlying t = some .string) (s : ByteArray) (k : Nat) (hk : k < s.size) (W : World) : (Instr.index t (.string s) (.int .i64 (k : Int))).run Try.prog W = .ok (.int .u8 (By.at_ s.data.toList k)) W := by
  have h := index_in hk
  have hk0 : (0 : Int) ≤ (k : Int) := by omega
  rw [run_index_string W t s .i64 (k : Int) ht]
  have e : (s.data.toList.getD k 0) = s[k] := by
    have := ByteArray.getElem?_lt' s k hk
    rw [h] at this
    exact Option.some.inj this
  unfold By.at_
  rw [e]
  simp [hk]
theorem pick_any (s : ByteArray) (w : World) (hs : s.size ≤ maxLen) : Calls Try.prog 28 #[.string s] w fun e w' => e = .returned (.int .i64 (pickS s)) ∧ w = w' := by
  unfold maxLen at hs
  have hA := fun k (hk : k < s.size) W => run_at 9 Try.underlying9 s k hk W
  have h0 : (s.size : Int) = pickTo s 0 := rfl
  have hp : ∀ k, pickTo s (k + 1) = wrap64 (wrap64 (7 * pickTo s k) + By.at_ s.data.toList k) := fun k => rfl
  have HP := Lib.hid hp
  have HA := Lib.hid hA
  have H0 := Lib.hid h0
  clear hA h0 hp
  go_enter Try.func28, Try.ntmps28
  go_wp2
  go_loopw [3, 4] (fun s3 s4 wr => ∃ k : Nat, s3 = .int .i64 (pickTo s k) ∧ s4 = .int .i64 k ∧ k ≤ s.size ∧ k ≤ 8 ∧ wr = w) (fun _ s4 _ => 8 - (intOf s4).toNat)
  case atStart => exact ⟨0, by rw [← H0.out], rfl, by omega, by omega, by trivial⟩
  case round =>
    obtain ⟨k, rfl, rfl, hk, hk8, rfl⟩ := hrel
    by_cases h1 : k < s.size
    · have k1 : (k : Int) < (s.size : Int) := by omega
      by_cases h2 : k < 8
      · have k2 : (k : Int) < 8 := by omega
        have hi := HA.out k h1 wr
        have e := HP.out k
        have hb := By.at_in s.data.toList k
        generalize By.at_ s.data.toList k = b at hi e hb
        generalize hq : pickTo s k = q at e ⊢
        clear hq
        go_wp2
        go_roundw
        case rel => exact ⟨k + 1, by rw [e], by go_num, by omega, by omega, by trivial⟩
        case measure => simp [intOf]; omega
      · have k2 : ¬ (k : Int) < 8 := by omega
        have e : pickS s = pickTo s k := by unfold pickS; congr 1; omega
        have HE := Lib.hid e
        clear e
        go_wp2
        go_ret
        exact ⟨by rw [HE.out]; rfl, rfl⟩
    · have k1 : ¬ (k : Int) < (s.size : Int) := by omega
      have e : pickS s = pickTo s k := by unfold pickS; congr 1; omega
      have HE := Lib.hid e
      clear e
      go_wp2
      go_ret
      exact ⟨by rw [HE.out]; rfl, rfl⟩
theorem plain_cases (z : Int) : (Sr.plain z = true ∧ 97 ≤ z ∧ z ≤ 122) ∨ (Sr.plain z = true ∧ z < 97 ∧ 48 ≤ z ∧ z ≤ 57) ∨ (Sr.plain z = true ∧ z < 48 ∧ z = 45) ∨ (Sr.plain z = false ∧ 122 < z ∧ z ≠ 45) ∨ (Sr.plain z = false ∧ 57 < z ∧ z < 97 ∧ z ≠ 45) ∨ (Sr.plain z = false ∧ z < 48 ∧ z ≠ 45) := by
  unfold Sr.plain
  simp only [Bool.or_eq_true, Bool.and_eq_true, decide_eq_true_eq, beq_iff_eq, Bool.or_eq_false_iff, Bool.and_eq_false_iff, decide_eq_false_iff_not, beq_eq_false_iff_ne]
  omega
theorem byte_at {s : ByteArray} {k : Nat} (hk : k < s.size) : ∃ b : UInt8, s.data.toList[k]? = some b ∧ By.at_ s.data.toList k = (b.toNat : Int) := by
  have hl : k < s.data.toList.length := by rw [By.size_list]; exact hk
  exact ⟨_, List.getElem?_eq_getElem hl, By.at_some (List.getElem?_eq_getElem hl)⟩
end Go.Proofs.Ytacmoanhbkipfaa.Py

end
