/- Contract of Swap. -/
import Derived.Test.YtmnbamfemcgloaaQuA
import Derived.RegionTactic
import Derived.Deep.RegionLaw
import Derived.BigRegion
import Derived.ChangeAlike
import Derived.Outline
namespace Go.Proofs.Ytmnbamfemcgloaa.Qu
open Go.ChangeShapes Go.WideShapes Go.ChangeAt Go.RowKit
set_option linter.unusedVariables false

/-- From W to w the row at g alone has turned: it holds a. -/
structure Row (W w : World) (B g n cap : Nat) (a : Array Pt) : Prop where
  own : w.ownsRow B 81 2 (.slice (some ⟨g, 0, none⟩) n cap) n (cells2 a.toList)
  only : W.grownBy w (some g)

theorem swap_row (W w : World) (B g n cap : Nat) (a : Array Pt) (i j : Nat) (h : Row W w B g n cap a) (hi : i < a.size) (hj : j < a.size) :
    Row W ((((w.setCell ⟨g, i * 2, none⟩ (.int .i64 (gt a j).1)).setCell ⟨g, i * 2 + 1, none⟩ (.int .i64 (gt a j).2)).setCell ⟨g, j * 2, none⟩ (.int .i64 (gt a i).1)).setCell ⟨g, j * 2 + 1, none⟩ (.int .i64 (gt a i).2)).drew B g n cap (swp a i j) := by
  obtain ⟨o, hg⟩ := h
  obtain ⟨o1, h1⟩ := o.stored (i * 2) (.int .i64 (gt a j).1)
  obtain ⟨o2, h2⟩ := o1.stored (i * 2 + 1) (.int .i64 (gt a j).2)
  obtain ⟨o3, h3⟩ := o2.stored (j * 2) (.int .i64 (gt a i).1)
  obtain ⟨o4, h4⟩ := o3.stored (j * 2 + 1) (.int .i64 (gt a i).2)
  exact ⟨by rw [cells2_swp a i j hi hj]; exact o4, turned_drew ((((hg.trans h1).trans h2).trans h3).trans h4)⟩

theorem swap_any (W : World) (g n cap : Nat) (a : Array Pt) (i j : Nat) (B : Nat) (w : World) (h : Row W w B g n cap a) (hi : i < n) (hj : j < n) (hn : n ≤ 1000000000) :
    Calls Try.prog 73 #[.slice (some ⟨g, 0, none⟩) n cap, .int .i64 i, .int .i64 j] w fun e w' => e = .returned (.tuple #[]) ∧ Row W w' B g n cap (swp a i j) := by
  have hs := row_len h.own
  have c0 := row_cell0 h.own hs i hi
  have c1 := row_cell1 h.own hs i hi
  have d0 := row_cell0 h.own hs j hj
  have d1 := row_cell1 h.own hs j hj
  have f0 := h.own.frozenAt (i * 2)
  have f1 := h.own.frozenAt (i * 2 + 1)
  have k0 := h.own.frozenAt (j * 2)
  have k1 := h.own.frozenAt (j * 2 + 1)
  have HR := Lib.hid (swap_row W w B g n cap a i j h (by omega) (by omega))
  have i0 : (0 : Int) ≤ (i : Int) := by omega
  have i1 : (i : Int) < (n : Int) := by omega
  have j0 : (0 : Int) ≤ (j : Int) := by omega
  have j1 : (j : Int) < (n : Int) := by omega
  clear hs h
  by_cases hne : i = j
  · subst hne
    clear hi hj
    go_enter Try.func73, Try.ntmps73
    go_wp2
    go_region
    all_goals
      go_end0
      exact ⟨rfl, HR.out⟩
  · have n0 : i * 2 ≠ j * 2 := by omega
    have n1 : i * 2 + 1 ≠ j * 2 := by omega
    have n2 : i * 2 ≠ j * 2 + 1 := by omega
    have m0 : j * 2 ≠ i * 2 := by omega
    have m1 : j * 2 + 1 ≠ i * 2 := by omega
    have m2 : j * 2 ≠ i * 2 + 1 := by omega
    clear hi hj hne
    go_enter Try.func73, Try.ntmps73
    go_wp2
    go_region
    all_goals
      go_end0
      exact ⟨rfl, HR.out⟩

/-- A queue: its block q, whose one cell holds v; v is a row of its own, that holds a. -/
structure QAt (w : World) (B q : Nat) (v : Value) (a : Array Pt) : Prop where
  blk : Blk w q 74 #[v]
  own : w.ownsRow B 81 2 v a.size (cells2 a.toList)
  base : B ≤ q

/-- Of what there was, block q and block r alone have turned. -/
structure Moved (w w' : World) (q : Nat) (r : Option Nat) : Prop where
  os : w'.os = w.os
  tape : w'.tape = w.tape
  output : w'.output = w.output
  size : w.heap.size ≤ w'.heap.size
  block : ∀ k, k < w.heap.size → k ≠ q → some k ≠ r → w'.heap[k]? = w.heap[k]?

/-- A row is the elder one, or new. -/
def Fresh (w : World) (r r' : Option Nat) : Prop := r' = r ∨ ∃ k, r' = some k ∧ w.heap.size ≤ k

theorem Moved.refl (w : World) (q : Nat) (r : Option Nat) : Moved w w q r := ⟨rfl, rfl, rfl, Nat.le_refl _, fun _ _ _ _ => rfl⟩
theorem Moved.trans {a b c : World} {q : Nat} {r r' : Option Nat} (h : Moved a b q r) (k : Moved b c q r') (f : Fresh a r r') : Moved a c q r :=
  ⟨k.os.trans h.os, k.tape.trans h.tape, k.output.trans h.output, Nat.le_trans h.size k.size, fun i hi hq hr => (k.block i (Nat.lt_of_lt_of_le hi h.size) hq (by
    rcases f with rfl | ⟨j, rfl, hj⟩
    · exact hr
    · intro e; injection e with e; omega)).trans (h.block i hi hq hr)⟩
theorem Moved.grown {a b c : World} {q : Nat} {r : Option Nat} (h : Moved a b q r) (k : b.grownBy c r) : Moved a c q r :=
  ⟨k.os.trans h.os, k.tape.trans h.tape, k.output.trans h.output, Nat.le_trans h.size k.size, fun i hi hq hr => (k.block i (Nat.lt_of_lt_of_le hi h.size) hr).trans (h.block i hi hq hr)⟩
theorem Moved.below {a b c : World} {q : Nat} {r : Option Nat} (h : Moved a b q r) (k : Below b.heap.size b c) : Moved a c q r := h.grown (turned_none k r)
theorem Moved.setq {a b : World} {q : Nat} {r : Option Nat} (h : Moved a b q r) (i : Nat) (u : Value) : Moved a (b.setCell ⟨q, i, none⟩ u) q r :=
  ⟨h.os, h.tape, h.output, by simpa [World.setCell] using h.size, fun k hk hq hr => (Below.heap_setCell b ⟨q, i, none⟩ u k hq).trans (h.block k hk hq hr)⟩
theorem Moved.alloc {a b : World} {q : Nat} {r : Option Nat} (h : Moved a b q r) (o : Obj) : Moved a (b.alloc o) q r := h.grown (World.grownBy_alloc b o r)
theorem Moved.drew {a b : World} {q : Nat} {r : Option Nat} (h : Moved a b q r) : Moved a b.drew q r := ⟨h.os, h.tape, h.output, h.size, h.block⟩
theorem Moved.toBelow {a b : World} {q : Nat} {r : Option Nat} {B : Nat} (h : Moved a b q r) (hB : B ≤ a.heap.size) (hq : B ≤ q) (hr : ∀ k, r = some k → B ≤ k) : Below B a b :=
  ⟨h.os, h.tape, h.output, h.size, fun k hk => h.block k (by omega) (by omega) (fun e => by have := hr k e.symm; omega)⟩
theorem Fresh.refl (w : World) (r : Option Nat) : Fresh w r r := .inl rfl
theorem Fresh.trans {a b : World} {r s t : Option Nat} (h : Fresh a r s) (k : Fresh b s t) (hs : a.heap.size ≤ b.heap.size) : Fresh a r t := by
  rcases k with rfl | ⟨j, rfl, hj⟩
  · exact h
  · exact .inr ⟨j, rfl, by omega⟩

theorem ownBlock_some (g o n cap : Nat) (c : Option Nat) : (Value.slice (some ⟨g, o, c⟩) n cap).ownBlock = some g := rfl

theorem own_blk_ne {w : World} {B E size n q t : Nat} {v : Value} {xs : List Value} {cs : Array Value} (h : w.ownsRow B E size v n xs) (hq : Blk w q t cs) (hne : E ≠ t) : some q ≠ v.ownBlock := by
  rcases h.2 with ⟨rfl, _⟩ | ⟨g, cap, cur, rfl, _⟩
  · simp [Value.ownBlock]
  · have := own_ne_blk h hq hne
    rw [ownBlock_some]
    simp
    omega

def Popped (w w' : World) (B q g n cap : Nat) (a : Array Pt) : Prop := QAt w' B q (.slice (some ⟨g, 0, none⟩) n cap) a.pop ∧ Moved w w' q (some g)

theorem linepop_any (g n cap q : Nat) (a : Array Pt) (B : Nat) (w : World) (h : QAt w B q (.slice (some ⟨g, 0, none⟩) (n + 1) cap) a) (hs : a.size = n + 1) (hn : n + 1 ≤ 1000000000) :
    Calls Try.prog 75 #[.pointer (some ⟨q, 0, none⟩)] w fun e w' => e = .returned (.iface 81 (.agg #[.int .i64 (gt a n).1, .int .i64 (gt a n).2])) ∧ Popped w w' B q g n cap a := by
  have ho := h.own
  rw [hs] at ho
  have c0 := row_cell0 ho hs n (by omega)
  have c1 := row_cell1 ho hs n (by omega)
  have q0 := h.blk.cell 0
  have qf := h.blk.frozen 0
  simp at q0
  have i0 : (0 : Int) ≤ (n : Int) := by omega
  have i1 : (n : Int) < ((n : Int) + 1) := by omega
  obtain ⟨hc1, hc2⟩ := row_cap ho
  have hqn : q < w.heap.size := World.block_lt_of_cell? w _ q0
  have hgn : g < w.heap.size := World.block_lt_of_cell? w _ c0
  have hqg := own_ne_blk ho h.blk (by omega)
  have HR : Hid (Popped w ((w.setCell ⟨q, 0, none⟩ (.slice (some ⟨g, 0, none⟩) n cap)).alloc (.cells #[.int .i64 (gt a n).1, .int .i64 (gt a n).2] 81)) B q g n cap a) := Lib.hid (by
    refine ⟨⟨(h.blk.put 0 _).alloc _, ?_, h.base⟩, ((Moved.refl w q (some g)).setq 0 _).alloc _⟩
    have e : a.pop.size = n := by simp [hs]
    rw [e]
    exact ((row_pop ho hs).kept (row := some q) (turned_at w _ _ _) (.inr (by rw [ownBlock_some]; simp; exact hqg))).alloc _)
  clear ho h
  go_enter Try.func75, Try.ntmps75
  go_wp2
  go_ret
  exact ⟨rfl, HR.out⟩

theorem info_one : (Try.prog.info? 81).map (fun i => (i.zero, i.size, i.bytes)) = some (some (.agg #[.int .i64 0, .int .i64 0]), 2, 16) := by kernel_rfl

theorem assert_one (x y : Int) (w : World) : (Instr.typeAssert (.iface 81 (.agg #[.int .i64 x, .int .i64 y])) 20 81 false).run Try.prog w = .ok (.agg #[.int .i64 x, .int .i64 y]) w := by kernel_rfl

def Pushed (w w' : World) (B q : Nat) (v : Value) (a : Array Pt) : Prop := ∃ v', QAt w' B q v' a ∧ Moved w w' q v.ownBlock ∧ Fresh w v.ownBlock v'.ownBlock

theorem pushed_of {w w1 : World} {B q gg cap : Nat} {v : Value} {a : Array Pt} {x : Pt} {o : Obj} (h : QAt w B q v a)
    (hown : w1.ownsRow B 81 2 (.slice (some ⟨gg, 0, none⟩) (a.size + 1) cap) (a.size + 1) (cells2 a.toList ++ [.int .i64 x.1, .int .i64 x.2]))
    (hgrow : (w.alloc o).drew.grownBy w1 v.ownBlock) (hat : v.ownBlock = some gg ∨ gg = w.heap.size + 1) : Pushed w (w1.setCell ⟨q, 0, none⟩ (.slice (some ⟨gg, 0, none⟩) (a.size + 1) cap)) B q v (a.push x) := by
  have hvq := own_blk_ne h.own h.blk (by omega)
  have hb : Blk w1 q 74 #[v] := ((h.blk.alloc o).drew).grown hgrow hvq
  have hgq := own_ne_blk hown hb (by omega)
  refine ⟨_, ⟨hb.put 0 _, ?_, h.base⟩, (((Moved.refl w q v.ownBlock).alloc o).drew.grown hgrow).setq 0 _, ?_⟩
  · have e : (a.push x).size = a.size + 1 := by simp
    have e2 : cells2 (a.push x).toList = cells2 a.toList ++ [.int .i64 x.1, .int .i64 x.2] := by rw [Array.toList_push, cells2_append]; rfl
    rw [e, e2]
    exact hown.kept (row := some q) (turned_at w1 _ _ _) (.inr (by rw [ownBlock_some]; simp; exact hgq))
  · rw [ownBlock_some]
    rcases hat with hat | hat
    · exact .inl hat.symm
    · exact .inr ⟨gg, rfl, by omega⟩

set_option maxRecDepth 100000 in
theorem linepush_any (v : Value) (q : Nat) (a : Array Pt) (x : Pt) (B : Nat) (w : World) (h : QAt w B q v a) (hn : a.size ≤ 1000000000) :
    Calls Try.prog 76 #[.pointer (some ⟨q, 0, none⟩), .iface 81 (.agg #[.int .i64 x.1, .int .i64 x.2])] w fun e w' => e = .returned (.tuple #[]) ∧ Pushed w w' B q v (a.push x) := by
  obtain ⟨i0, hi0, hz0, hz1, hz2⟩ := info_parts info_one
  have ho := h.own
  have q0 := h.blk.cell 0
  have qf := h.blk.frozen 0
  simp at q0
  have hqn : q < w.heap.size := World.block_lt_of_cell? w _ q0
  have hvq := own_blk_ne ho h.blk (by omega)
  have hB := h.base
  have has := fun W => assert_one x.1 x.2 W
  go_enter Try.func76, Try.ntmps76
  go_wp2_with fail
  go_region_law
    ((refine step_append_lies _ (by rfl) _ _ _ (by rfl) B 81 i0 _ 2 16 Try.underlying72 hi0 hz0 hz1 hz2 rfl (by omega) v a.size (cells2 a.toList) (by rfl) ((ho.alloc _).drew)
        ⟨w.heap.size, 0, none⟩ 1 1 [.int .i64 x.1, .int .i64 x.2] (by rfl) (by rfl) (World.news_of_block (cs := #[.int .i64 x.1, .int .i64 x.2]) (t := 81) (fr := (0, 0)) (heap_alloc_new w _)) (by simp [Value.oneCell'])
        (by omega) (by unfold maxLen; omega) (by omega) (by simp; omega) (w.heap.size + 1) (by simp) ?_; intro gg cap w1 hown1 hgrow hat hlt; have hcz := (hgrow.cell_far ⟨q, 0, none⟩ (by simp; omega) hvq).trans (World.cell?_alloc_past _ _ _ hqn |>.trans q0); have hfz := (hgrow.frozen_far ⟨q, 0, none⟩ (by simp; omega) hvq).trans (World.frozen?_alloc_past _ _ _ hqn |>.trans qf)))
  all_goals
    go_end0
    exact ⟨rfl, pushed_of h hown1 hgrow hat⟩

end Go.Proofs.Ytmnbamfemcgloaa.Qu
