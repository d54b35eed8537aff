/- Contracts of package queue's inner functions. · Contract of Swap. · Contracts of container/heap over a queue's line. · Contracts of container/heap's up over a queue's line. · Contract of container/heap's down over a queue's line. · Contracts of container/heap's Push and Pop over a queue's line, and of package queue. · Contracts of package queue: a queue is a sorted list. · Contract of Order. · What Order tells, as a list of numbers. -/
import Derived.BigQuiet
import Derived.BigRegion
import Derived.ChangeAlike
import Derived.Deep.DeepCutAuto
import Derived.Deep.LoopGhost
import Derived.Deep.QuietTactic
import Derived.Deep.RegionHeld3
import Derived.Deep.RegionLaw
import Derived.Deep.RegionWith
import Derived.Laws.MakeOwn
import Derived.Lib.Hide
import Derived.LoopTactic
import Derived.OpenShut
import Derived.Outline
import Derived.OwnWalk
import Derived.ProofKit
import Derived.RegionTactic
import Derived.WalkKit
import Derived.Test.YtljmddjlnlmenaaGreatPq0
import Derived.Test.YtljmddjlnlmenaaGreatRows
set_option maxRecDepth 100000
set_option linter.unusedVariables false

section
namespace Go.Proofs.YtljmddjlnlmenaaGreat.Qu
open Go.ChangeShapes Go.WideShapes Go.ChangeAt Go.RowKit
theorem ahead_any (x y : Pt) (w : World) :
    Calls Tryz.prog 161 #[.agg #[.int .i64 x.1, .int .i64 x.2], .agg #[.int .i64 y.1, .int .i64 y.2]] w fun e w' => e = .returned (.bool (aheadB x y)) /\ Below w.heap.size w w' := by
  obtain ⟨a, b⟩ := x
  obtain ⟨c, d⟩ := y
  by_cases h : a = c
  . subst h
    have e : aheadB (a, b) (a, d) = decide (b < d) := by simp [aheadB]
    rw [e]
    generalize he : decide (b < d) = t
    have HE := Lib.hid he
    clear he
    go_enter Tryz.func161, Tryz.ntmps161
    go_wp2
    all_goals
      go_ret
      exact ⟨by rw [HE.out]; rfl, (((Below.refl _ _).alloc (Nat.le_refl _) _)).alloc (by simp) _⟩
  . have e : aheadB (a, b) (c, d) = decide (c < a) := by simp only [aheadB, decide_eq_decide]; omega
    rw [e]
    have h' : (a != c) = true := by rw [bne_iff_ne]; exact h
    generalize he : decide (c < a) = t
    have HE := Lib.hid he
    clear he
    go_enter Tryz.func161, Tryz.ntmps161
    go_wp2
    all_goals
      go_ret
      exact ⟨by rw [HE.out]; rfl, (((Below.refl _ _).alloc (Nat.le_refl _) _)).alloc (by simp) _⟩
theorem less_any (g n cap : Nat) (a : Array Pt) (i j : Nat) (B : Nat) (w : World) (h : w.ownsRow B 134 2 (.slice (some ⟨g, 0, none⟩) n cap) n (cells2 a.toList)) (hi : i < n) (hj : j < n) (hn : n <= 1000000000) :
    Calls Tryz.prog 159 #[.slice (some ⟨g, 0, none⟩) n cap, .int .i64 i, .int .i64 j] w fun e w' => e = .returned (.bool (aheadB (gt a i) (gt a j))) /\ Below w.heap.size w w' := by
  have hs := row_len h
  have c0 := row_cell0 h hs i hi
  have c1 := row_cell1 h hs i hi
  have d0 := row_cell0 h hs j hj
  have d1 := row_cell1 h hs j hj
  have hg : g < w.heap.size := World.block_lt_of_cell? w _ c0
  clear hs h
  have i0 : (0 : Int) <= (i : Int) := by omega
  have i1 : (i : Int) < (n : Int) := by omega
  have j0 : (0 : Int) <= (j : Int) := by omega
  have j1 : (j : Int) < (n : Int) := by omega
  go_enter Tryz.func159, Tryz.ntmps159
  go_wp2
  go_region_held3 (fun w' => w'.cell? ⟨g, i * 2, none⟩ = some (.int .i64 (gt a i).1) /\ w'.cell? ⟨g, i * 2 + 1, none⟩ = some (.int .i64 (gt a i).2) /\ w'.cell? ⟨g, j * 2, none⟩ = some (.int .i64 (gt a j).1) /\ w'.cell? ⟨g, j * 2 + 1, none⟩ = some (.int .i64 (gt a j).2)) (first | go_keep | (refine ⟨?_, ?_, ?_, ?_⟩ <;> rw [hc]; exact c0; exact c1; exact d0; exact d1)) ((go_at_call 161; refine (ahead_any (gt a i) (gt a j) _).mono ?_; rintro e w' ⟨rfl, hb⟩; have hc := fun o : Nat => hb.cell (p := ⟨g, o, none⟩) hg))
  all_goals
    go_wp2
    go_ret
    exact ⟨rfl, below_undrew hb⟩
theorem len_any (v : Option Addr) (n cap : Nat) (w : World) : Calls Tryz.prog 158 #[.slice v n cap] w fun e w' => e = .returned (.int .i64 n) /\ w = w' := by
  go_enter Tryz.func158, Tryz.ntmps158
  go_wp2
  go_ret
  exact ⟨rfl, rfl⟩
end Go.Proofs.YtljmddjlnlmenaaGreat.Qu
end
section
namespace Go.Proofs.YtljmddjlnlmenaaGreat.Qu
open Go.ChangeShapes Go.WideShapes Go.ChangeAt Go.RowKit
structure Row (W w : World) (B g n cap : Nat) (a : Array Pt) : Prop where
  own : w.ownsRow B 134 2 (.slice (some ⟨g, 0, none⟩) n cap) n (cells2 a.toList)
  only : W.grownBy w (some g)
theorem swap_row (W w : World) (B g n cap : Nat) (a : Array Pt) (i j : Nat) (h : Row W w B g n cap a) (hi : i < a.size) (hj : j < a.size) :
    Row W ((((w.setCell ⟨g, i * 2, none⟩ (.int .i64 (gt a j).1)).setCell ⟨g, i * 2 + 1, none⟩ (.int .i64 (gt a j).2)).setCell ⟨g, j * 2, none⟩ (.int .i64 (gt a i).1)).setCell ⟨g, j * 2 + 1, none⟩ (.int .i64 (gt a i).2)).drew B g n cap (swp a i j) := by
  obtain ⟨o, hg⟩ := h
  obtain ⟨o1, h1⟩ := o.stored (i * 2) (.int .i64 (gt a j).1)
  obtain ⟨o2, h2⟩ := o1.stored (i * 2 + 1) (.int .i64 (gt a j).2)
  obtain ⟨o3, h3⟩ := o2.stored (j * 2) (.int .i64 (gt a i).1)
  obtain ⟨o4, h4⟩ := o3.stored (j * 2 + 1) (.int .i64 (gt a i).2)
  exact ⟨by rw [cells2_swp a i j hi hj]; exact o4, turned_drew ((((hg.trans h1).trans h2).trans h3).trans h4)⟩
theorem swap_any (W : World) (g n cap : Nat) (a : Array Pt) (i j : Nat) (B : Nat) (w : World) (h : Row W w B g n cap a) (hi : i < n) (hj : j < n) (hn : n <= 1000000000) :
    Calls Tryz.prog 160 #[.slice (some ⟨g, 0, none⟩) n cap, .int .i64 i, .int .i64 j] w fun e w' => e = .returned (.tuple #[]) /\ Row W w' B g n cap (swp a i j) := by
  have hs := row_len h.own
  have c0 := row_cell0 h.own hs i hi
  have c1 := row_cell1 h.own hs i hi
  have d0 := row_cell0 h.own hs j hj
  have d1 := row_cell1 h.own hs j hj
  have f0 := h.own.frozenAt (i * 2)
  have f1 := h.own.frozenAt (i * 2 + 1)
  have k0 := h.own.frozenAt (j * 2)
  have k1 := h.own.frozenAt (j * 2 + 1)
  have HR := Lib.hid (swap_row W w B g n cap a i j h (by omega) (by omega))
  have i0 : (0 : Int) <= (i : Int) := by omega
  have i1 : (i : Int) < (n : Int) := by omega
  have j0 : (0 : Int) <= (j : Int) := by omega
  have j1 : (j : Int) < (n : Int) := by omega
  clear hs h
  by_cases hne : i = j
  . subst hne
    clear hi hj
    go_enter Tryz.func160, Tryz.ntmps160
    go_wp2
    go_region
    all_goals
      go_end0
      exact ⟨rfl, HR.out⟩
  . have n0 : i * 2 ≠ j * 2 := by omega
    have n1 : i * 2 + 1 ≠ j * 2 := by omega
    have n2 : i * 2 ≠ j * 2 + 1 := by omega
    have m0 : j * 2 ≠ i * 2 := by omega
    have m1 : j * 2 + 1 ≠ i * 2 := by omega
    have m2 : j * 2 ≠ i * 2 + 1 := by omega
    clear hi hj hne
    go_enter Tryz.func160, Tryz.ntmps160
    go_wp2
    go_region
    all_goals
      go_end0
      exact ⟨rfl, HR.out⟩
structure QAt (w : World) (B q : Nat) (v : Value) (a : Array Pt) : Prop where
  blk : Blk w q 132 #[v]
  own : w.ownsRow B 134 2 v a.size (cells2 a.toList)
  base : B <= q
structure Moved (w w' : World) (q : Nat) (r : Option Nat) : Prop where
  os : w'.os = w.os
  tape : w'.tape = w.tape
  output : w'.output = w.output
  size : w.heap.size <= w'.heap.size
  block : ∀ k, k < w.heap.size -> k ≠ q -> some k ≠ r -> w'.heap[k]? = w.heap[k]?
def Fresh (w : World) (r r' : Option Nat) : Prop := r' = r \/ ∃ k, r' = some k /\ w.heap.size <= k
theorem Moved.refl (w : World) (q : Nat) (r : Option Nat) : Moved w w q r := ⟨rfl, rfl, rfl, Nat.le_refl _, fun _ _ _ _ => rfl⟩
theorem Moved.trans {a b c : World} {q : Nat} {r r' : Option Nat} (h : Moved a b q r) (k : Moved b c q r') (f : Fresh a r r') : Moved a c q r :=
  ⟨k.os.trans h.os, k.tape.trans h.tape, k.output.trans h.output, Nat.le_trans h.size k.size, fun i hi hq hr => (k.block i (Nat.lt_of_lt_of_le hi h.size) hq (by
    rcases f with rfl | ⟨j, rfl, hj⟩
    . exact hr
    . intro e; injection e with e; omega)).trans (h.block i hi hq hr)⟩
theorem Moved.grown {a b c : World} {q : Nat} {r : Option Nat} (h : Moved a b q r) (k : b.grownBy c r) : Moved a c q r :=
  ⟨k.os.trans h.os, k.tape.trans h.tape, k.output.trans h.output, Nat.le_trans h.size k.size, fun i hi hq hr => (k.block i (Nat.lt_of_lt_of_le hi h.size) hr).trans (h.block i hi hq hr)⟩
theorem Moved.below {a b c : World} {q : Nat} {r : Option Nat} (h : Moved a b q r) (k : Below b.heap.size b c) : Moved a c q r := h.grown (turned_none k r)
theorem Moved.setq {a b : World} {q : Nat} {r : Option Nat} (h : Moved a b q r) (i : Nat) (u : Value) : Moved a (b.setCell ⟨q, i, none⟩ u) q r :=
  ⟨h.os, h.tape, h.output, by simpa [World.setCell] using h.size, fun k hk hq hr => (Below.heap_setCell b ⟨q, i, none⟩ u k hq).trans (h.block k hk hq hr)⟩
theorem Moved.alloc {a b : World} {q : Nat} {r : Option Nat} (h : Moved a b q r) (o : Obj) : Moved a (b.alloc o) q r := h.grown (World.grownBy_alloc b o r)
theorem Moved.drew {a b : World} {q : Nat} {r : Option Nat} (h : Moved a b q r) : Moved a b.drew q r := ⟨h.os, h.tape, h.output, h.size, h.block⟩
theorem Moved.toBelow {a b : World} {q : Nat} {r : Option Nat} {B : Nat} (h : Moved a b q r) (hB : B <= a.heap.size) (hq : B <= q) (hr : ∀ k, r = some k -> B <= k) : Below B a b :=
  ⟨h.os, h.tape, h.output, h.size, fun k hk => h.block k (by omega) (by omega) (fun e => by have := hr k e.symm; omega)⟩
theorem Fresh.refl (w : World) (r : Option Nat) : Fresh w r r := .inl rfl
theorem ownBlock_some (g o n cap : Nat) (c : Option Nat) : (Value.slice (some ⟨g, o, c⟩) n cap).ownBlock = some g := rfl
theorem own_blk_ne {w : World} {B E size n q t : Nat} {v : Value} {xs : List Value} {cs : Array Value} (h : w.ownsRow B E size v n xs) (hq : Blk w q t cs) (hne : E ≠ t) : some q ≠ v.ownBlock := by
  rcases h.2 with ⟨rfl, _⟩ | ⟨g, cap, cur, rfl, _⟩
  . simp [Value.ownBlock]
  . have := own_ne_blk h hq hne
    rw [ownBlock_some]
    simp
    omega
def Popped (w w' : World) (B q g n cap : Nat) (a : Array Pt) : Prop := QAt w' B q (.slice (some ⟨g, 0, none⟩) n cap) a.pop /\ Moved w w' q (some g)
theorem linepop_any (g n cap q : Nat) (a : Array Pt) (B : Nat) (w : World) (h : QAt w B q (.slice (some ⟨g, 0, none⟩) (n + 1) cap) a) (hs : a.size = n + 1) (hn : n + 1 <= 1000000000) :
    Calls Tryz.prog 162 #[.pointer (some ⟨q, 0, none⟩)] w fun e w' => e = .returned (.iface 134 (.agg #[.int .i64 (gt a n).1, .int .i64 (gt a n).2])) /\ Popped w w' B q g n cap a := by
  have ho := h.own
  rw [hs] at ho
  have c0 := row_cell0 ho hs n (by omega)
  have c1 := row_cell1 ho hs n (by omega)
  have q0 := h.blk.cell 0
  have qf := h.blk.frozen 0
  simp at q0
  have i0 : (0 : Int) <= (n : Int) := by omega
  have i1 : (n : Int) < ((n : Int) + 1) := by omega
  obtain ⟨hc1, hc2⟩ := row_cap ho
  have hqn : q < w.heap.size := World.block_lt_of_cell? w _ q0
  have hgn : g < w.heap.size := World.block_lt_of_cell? w _ c0
  have hqg := own_ne_blk ho h.blk (by omega)
  have HR : Hid (Popped w ((w.setCell ⟨q, 0, none⟩ (.slice (some ⟨g, 0, none⟩) n cap)).alloc (.cells #[.int .i64 (gt a n).1, .int .i64 (gt a n).2] 134)) B q g n cap a) := Lib.hid (by
    refine ⟨⟨(h.blk.put 0 _).alloc _, ?_, h.base⟩, ((Moved.refl w q (some g)).setq 0 _).alloc _⟩
    have e : a.pop.size = n := by simp [hs]
    rw [e]
    exact ((row_pop ho hs).kept (row := some q) (turned_at w _ _ _) (.inr (by rw [ownBlock_some]; simp; exact hqg))).alloc _)
  clear ho h
  go_enter Tryz.func162, Tryz.ntmps162
  go_wp2
  go_ret
  exact ⟨rfl, HR.out⟩
theorem info_one : (Tryz.prog.info? 134).map (fun i => (i.zero, i.size, i.bytes)) = some (some (.agg #[.int .i64 0, .int .i64 0]), 2, 16) := by kernel_rfl
theorem assert_one (x y : Int) (w : World) : (Instr.typeAssert (.iface 134 (.agg #[.int .i64 x, .int .i64 y])) 20 134 false).run Tryz.prog w = .ok (.agg #[.int .i64 x, .int .i64 y]) w := by kernel_rfl
def Pushed (w w' : World) (B q : Nat) (v : Value) (a : Array Pt) : Prop := ∃ v', QAt w' B q v' a /\ Moved w w' q v.ownBlock /\ Fresh w v.ownBlock v'.ownBlock
theorem pushed_of {w w1 : World} {B q gg cap : Nat} {v : Value} {a : Array Pt} {x : Pt} {o : Obj} (h : QAt w B q v a)
    (hown : w1.ownsRow B 134 2 (.slice (some ⟨gg, 0, none⟩) (a.size + 1) cap) (a.size + 1) (cells2 a.toList ++ [.int .i64 x.1, .int .i64 x.2]))
    (hgrow : (w.alloc o).drew.grownBy w1 v.ownBlock) (hat : v.ownBlock = some gg \/ gg = w.heap.size + 1) : Pushed w (w1.setCell ⟨q, 0, none⟩ (.slice (some ⟨gg, 0, none⟩) (a.size + 1) cap)) B q v (a.push x) := by
  have hvq := own_blk_ne h.own h.blk (by omega)
  have hb : Blk w1 q 132 #[v] := ((h.blk.alloc o).drew).grown hgrow hvq
  have hgq := own_ne_blk hown hb (by omega)
  refine ⟨_, ⟨hb.put 0 _, ?_, h.base⟩, (((Moved.refl w q v.ownBlock).alloc o).drew.grown hgrow).setq 0 _, ?_⟩
  . have e : (a.push x).size = a.size + 1 := by simp
    have e2 : cells2 (a.push x).toList = cells2 a.toList ++ [.int .i64 x.1, .int .i64 x.2] := by rw [Array.toList_push, cells2_append]; rfl
    rw [e, e2]
    exact hown.kept (row := some q) (turned_at w1 _ _ _) (.inr (by rw [ownBlock_some]; simp; exact hgq))
  . rw [ownBlock_some]
    rcases hat with hat | hat
    . exact .inl hat.symm
    . exact .inr ⟨gg, rfl, by omega⟩
set_option maxRecDepth 100000 in
theorem linepush_any (v : Value) (q : Nat) (a : Array Pt) (x : Pt) (B : Nat) (w : World) (h : QAt w B q v a) (hn : a.size <= 1000000000) :
    Calls Tryz.prog 163 #[.pointer (some ⟨q, 0, none⟩), .iface 134 (.agg #[.int .i64 x.1, .int .i64 x.2])] w fun e w' => e = .returned (.tuple #[]) /\ Pushed w w' B q v (a.push x) := by
  obtain ⟨i0, hi0, hz0, hz1, hz2⟩ := info_parts info_one
  have ho := h.own
  have q0 := h.blk.cell 0
  have qf := h.blk.frozen 0
  simp at q0
  have hqn : q < w.heap.size := World.block_lt_of_cell? w _ q0
  have hvq := own_blk_ne ho h.blk (by omega)
  have hB := h.base
  have has := fun W => assert_one x.1 x.2 W
  go_enter Tryz.func163, Tryz.ntmps163
  go_wp2_with fail
  go_region_law
    ((refine step_append_lies _ (by rfl) _ _ _ (by rfl) B 134 i0 _ 2 16 Tryz.underlying130 hi0 hz0 hz1 hz2 rfl (by omega) v a.size (cells2 a.toList) (by rfl) ((ho.alloc _).drew)
        ⟨w.heap.size, 0, none⟩ 1 1 [.int .i64 x.1, .int .i64 x.2] (by rfl) (by rfl) (World.news_of_block (cs := #[.int .i64 x.1, .int .i64 x.2]) (t := 134) (fr := (0, 0)) (heap_alloc_new w _)) (by simp [Value.oneCell'])
        (by omega) (by unfold maxLen; omega) (by omega) (by simp; omega) (w.heap.size + 1) (by simp) ?_; intro gg cap w1 hown1 hgrow hat hlt; have hcz := (hgrow.cell_far ⟨q, 0, none⟩ (by simp; omega) hvq).trans (World.cell?_alloc_past _ _ _ hqn |>.trans q0); have hfz := (hgrow.frozen_far ⟨q, 0, none⟩ (by simp; omega) hvq).trans (World.frozen?_alloc_past _ _ _ hqn |>.trans qf)))
  all_goals
    go_end0
    exact ⟨rfl, pushed_of h hown1 hgrow hat⟩
end Go.Proofs.YtljmddjlnlmenaaGreat.Qu
end
section
namespace Go.Proofs.YtljmddjlnlmenaaGreat.Qu
open Go.ChangeShapes Go.WideShapes Go.ChangeAt Go.RowKit
theorem method_parts {P : Program} {t : TypeId} {name : String} {f : FuncId} {ptr : Bool}
    (h : ((P.info? t).map fun i => (i.methods.find? (·.name == name)).map fun m => (m.path.toList, m.func)) = some (some ([], some (f, ptr)))) :
    ∃ i m, P.info? t = some i /\ i.methods.find? (·.name == name) = some m /\ m.path = #[] /\ m.func = some (f, ptr) := by
  cases hi : P.info? t with
  | none => rw [hi] at h; cases h
  | some i =>
    rw [hi] at h
    cases hm : i.methods.find? (·.name == name) with
    | none => simp [hm] at h
    | some m =>
      simp [hm] at h
      exact ⟨i, m, rfl, hm, h.1, h.2⟩
theorem run_wrapNil {P : Program} {t : TypeId} {a : Addr} (x y : ByteArray) (w : World) : (Builtin.ssaWrapNilChk_ #[t] t #[.pointer (some a), .string x, .string y]).run P w = .ok (.pointer (some a)) w := rfl
theorem method_val {P : Program} {t e : TypeId} {name : String} {f : FuncId} (fuel q : Nat) (A : Option Addr) (n cap : Nat) (w : World) (ht : P.underlying t = some (.pointer e))
    (h : ((P.info? t).map fun i => (i.methods.find? (·.name == name)).map fun m => (m.path.toList, m.func)) = some (some ([], some (f, false))))
    (hl : (loadVar e ⟨q, 0, none⟩).run P w = .ok (.slice A n cap) w) :
    (method (fuel + 1) t (.pointer (some ⟨q, 0, none⟩)) name).run P w = .ok (f, .slice A n cap) w := by
  obtain ⟨i, m, hi, hm, hp, hf⟩ := method_parts h
  simp [method, typeInfo, hi, hm, hp, hf, follow, receiverAt, run_underlying ht, Place.get, strVal, run_wrapNil, asAddr, hl]
theorem method_ptr {P : Program} {t e : TypeId} {name : String} {f : FuncId} (fuel q : Nat) (w : World) (ht : P.underlying t = some (.pointer e))
    (h : ((P.info? t).map fun i => (i.methods.find? (·.name == name)).map fun m => (m.path.toList, m.func)) = some (some ([], some (f, true)))) :
    (method (fuel + 1) t (.pointer (some ⟨q, 0, none⟩)) name).run P w = .ok (f, .pointer (some ⟨q, 0, none⟩)) w := by
  obtain ⟨i, m, hi, hm, hp, hf⟩ := method_parts h
  simp [method, typeInfo, hi, hm, hp, hf, follow, receiverAt, run_underlying ht, Place.get]
theorem load_line (q : Nat) (A : Option Addr) (n cap : Nat) (w : World) (h : w.cell? ⟨q, 0, none⟩ = some (.slice A n cap)) : (loadVar 130 ⟨q, 0, none⟩).run Tryz.prog w = .ok (.slice A n cap) w := by
  have hu := Tryz.underlying130
  go_simp
theorem method_less (q : Nat) (A : Option Addr) (n cap : Nat) (w : World) (h : w.cell? ⟨q, 0, none⟩ = some (.slice A n cap)) :
    (method 309 136 (.pointer (some ⟨q, 0, none⟩)) "Less").run Tryz.prog w = .ok (159, .slice A n cap) w :=
  method_val _ q A n cap w Tryz.underlying136 (by kernel_rfl) (load_line q A n cap w h)
theorem method_swap (q : Nat) (A : Option Addr) (n cap : Nat) (w : World) (h : w.cell? ⟨q, 0, none⟩ = some (.slice A n cap)) :
    (method 309 136 (.pointer (some ⟨q, 0, none⟩)) "Swap").run Tryz.prog w = .ok (160, .slice A n cap) w :=
  method_val _ q A n cap w Tryz.underlying136 (by kernel_rfl) (load_line q A n cap w h)
theorem method_len (q : Nat) (A : Option Addr) (n cap : Nat) (w : World) (h : w.cell? ⟨q, 0, none⟩ = some (.slice A n cap)) :
    (method 309 136 (.pointer (some ⟨q, 0, none⟩)) "Len").run Tryz.prog w = .ok (158, .slice A n cap) w :=
  method_val _ q A n cap w Tryz.underlying136 (by kernel_rfl) (load_line q A n cap w h)
theorem method_push (q : Nat) (w : World) :
    (method 309 136 (.pointer (some ⟨q, 0, none⟩)) "Push").run Tryz.prog w = .ok (163, .pointer (some ⟨q, 0, none⟩)) w :=
  method_ptr _ q w Tryz.underlying136 (by kernel_rfl)
theorem method_pop (q : Nat) (w : World) :
    (method 309 136 (.pointer (some ⟨q, 0, none⟩)) "Pop").run Tryz.prog w = .ok (162, .pointer (some ⟨q, 0, none⟩)) w :=
  method_ptr _ q w Tryz.underlying136 (by kernel_rfl)
end Go.Proofs.YtljmddjlnlmenaaGreat.Qu
end
section
namespace Go.Proofs.YtljmddjlnlmenaaGreat.Qu
open Go.ChangeShapes Go.WideShapes Go.ChangeAt Go.RowKit
structure Turned (w w' : World) (B q g n cap : Nat) (a b : Array Pt) : Prop where
  at_ : QAt w' B q (.slice (some ⟨g, 0, none⟩) n cap) b
  size : b.size = n
  perm : b.toList.Perm a.toList
  only : w.grownBy w' (some g)
theorem Turned.cellq {w w' : World} {B q g n cap : Nat} {a b : Array Pt} (h : Turned w w' B q g n cap a b) : w'.cell? ⟨q, 0, none⟩ = some (.slice (some ⟨g, 0, none⟩) n cap) := by
  have := h.at_.blk.cell 0
  simpa using this
theorem Turned.own {w w' : World} {B q g n cap : Nat} {a b : Array Pt} (h : Turned w w' B q g n cap a b) : w'.ownsRow B 134 2 (.slice (some ⟨g, 0, none⟩) n cap) n (cells2 b.toList) := by
  have := h.at_.own
  rw [h.size] at this
  exact this
theorem Turned.below {w w' w'' : World} {B q g n cap : Nat} {a b : Array Pt} (h : Turned w w' B q g n cap a b) (hb : Below w'.heap.size w' w'') : Turned w w'' B q g n cap a b :=
  ⟨⟨h.at_.blk.below hb, row_below h.at_.own hb, h.at_.base⟩, h.size, h.perm, h.only.trans (turned_none hb _)⟩
theorem Turned.row {w w' w'' : World} {B q g n cap : Nat} {a b : Array Pt} {i j : Nat} (h : Turned w w' B q g n cap a b) (hi : i < n) (hj : j < n) (hr : Row w' w'' B g n cap (swp b i j)) : Turned w w'' B q g n cap a (swp b i j) := by
  have hs : (swp b i j).size = n := by rw [size_swp]; exact h.size
  refine ⟨⟨h.at_.blk.grown hr.only ?_, by rw [hs]; exact hr.own, h.at_.base⟩, hs, (perm_swp b i j (by rw [h.size]; exact hi) (by rw [h.size]; exact hj)).trans h.perm, h.only.trans hr.only⟩
  have := own_ne_blk h.own h.at_.blk (by omega)
  simp
  omega
theorem Turned.start {w : World} {B q g n cap : Nat} {a : Array Pt} (h : QAt w B q (.slice (some ⟨g, 0, none⟩) n cap) a) (hs : a.size = n) : Turned w w B q g n cap a a :=
  ⟨h, hs, List.Perm.refl _, World.grownBy.refl _ _⟩
theorem Turned.toRow {w w' : World} {B q g n cap : Nat} {a b : Array Pt} (h : Turned w w' B q g n cap a b) : Row w' w' B g n cap b := ⟨h.own, World.grownBy.refl _ _⟩
def Upped (w w' : World) (B q g n cap : Nat) (a : Array Pt) : Prop := ∃ b, Turned w w' B q g n cap a b /\ Heap b n
theorem up_any (q g n cap : Nat) (a : Array Pt) (j : Nat) (B : Nat) (w : World) (h : QAt w B q (.slice (some ⟨g, 0, none⟩) n cap) a) (hs : a.size = n) (hj : j < n) (hu : HeapUp a n j) (hn : n <= 1000000000) :
    Calls Tryz.prog 132 #[.iface 136 (.pointer (some ⟨q, 0, none⟩)), .int .i64 j] w fun e w' => e = .returned (.tuple #[]) /\ Upped w w' B q g n cap a := by
  go_enter Tryz.func132, Tryz.ntmps132
  go_wp2
  go_loopw [1] (fun s wr => ∃ (k : Nat) (b : Array Pt), s = .int .i64 k /\ k < n /\ Turned w wr B q g n cap a b /\ HeapUp b n k) (fun s _ => (intOf s).toNat)
  case atStart => exact ⟨j, a, rfl, hj, Turned.start h hs, hu⟩
  case round =>
    obtain ⟨k, b, rfl, hk, hT, hU⟩ := hrel
    have k1 : (k : Int) <= 1000000000 := by omega
    by_cases k0 : k = 0
    . subst k0
      have HF := Lib.hid (show Upped w wr B q g n cap a from ⟨b, hT, hU.done (by omega)⟩)
      clear hT hU hu h hs hj hk
      go_wp2
      go_end0
      exact ⟨rfl, HF.out⟩
    . obtain ⟨p, hp⟩ : ∃ p, p = (k - 1) / 2 := ⟨_, rfl⟩
      have hpk : p < k := by omega
      have e1 : wrap64 (((k : Int) - 1).tdiv 2) = (p : Int) := by
        rw [Int.tdiv_eq_ediv_of_nonneg (by omega), IntWalk.wrap64_in _ ⟨by omega, by omega⟩]
        omega
      have e2 : ((k : Int) - 1) / 2 = (p : Int) := by omega
      have HP := Lib.hid hp
      clear hp
      have b1 : ((p : Int) == (k : Int)) = false := beq_eq_false_iff_ne.2 (by omega)
      have HT := Lib.hid hT
      have HU := Lib.hid hU
      have mL := method_less q _ n cap wr hT.cellq
      have HL := Lib.hid (less_any g n cap b k p B wr hT.own hk (by omega) hn)
      clear hT hU hu h hs hj
      cases hA : aheadB (gt b k) (gt b p) with
      | false =>
        rw [hA] at HL
        have HA := Lib.hid hA
        clear hA
        go_wp2_with fail
        refine HL.out.mono ?_
        rintro e w1 ⟨rfl, hb⟩
        have HB := Lib.hid hb
        clear hb
        go_wp2
        go_end0
        exact ⟨rfl, b, HT.out.below HB.out, HU.out.done fun _ => by rw [<- HP.out]; exact HA.out⟩
      | true =>
        rw [hA] at HL
        have HA := Lib.hid hA
        clear hA
        go_wp2_with fail
        refine HL.out.mono ?_
        rintro e w1 ⟨rfl, hb⟩
        have hT1 := HT.out.below hb
        have mS := method_swap q _ n cap w1 hT1.cellq
        have HS := Lib.hid (swap_any w1 g n cap b p k B w1 hT1.toRow (by omega) hk hn)
        have HT1 := Lib.hid hT1
        clear hT1 hb
        go_wp2_with fail
        refine HS.out.mono ?_
        rintro e w2 ⟨rfl, hr⟩
        have HR := Lib.hid hr
        clear hr
        go_wp2
        go_roundw
        case rel => exact ⟨p, swp b p k, rfl, by omega, HT1.out.row (by omega) hk HR.out, by rw [HP.out]; exact HU.out.step (by omega) hk (by rw [HT.out.size]; omega) (by rw [<- HP.out]; exact HA.out)⟩
        case measure => simp [intOf]; omega
end Go.Proofs.YtljmddjlnlmenaaGreat.Qu
end
section
namespace Go.Proofs.YtljmddjlnlmenaaGreat.Qu
open Go.ChangeShapes Go.WideShapes Go.ChangeAt Go.RowKit
def Downed (e : Ending) (w w' : World) (B q g n cap : Nat) (a : Array Pt) : Prop := (∃ r : Bool, e = .returned (.bool r)) /\ ∃ b, Turned w w' B q g (n + 1) cap a b /\ Heap b n /\ gt b n = gt a n
set_option maxHeartbeats 1000000 in
theorem down_any (q g n cap : Nat) (a : Array Pt) (B : Nat) (w : World) (h : QAt w B q (.slice (some ⟨g, 0, none⟩) ((n + 1 : Nat)) cap) a) (hs : a.size = n + 1) (hu : HeapDown a n 0) (hn : n <= 999999999) :
    Calls Tryz.prog 110 #[.iface 136 (.pointer (some ⟨q, 0, none⟩)), .int .i64 0, .int .i64 n] w fun e w' => Downed e w w' B q g n cap a := by
  go_enter Tryz.func110, Tryz.ntmps110
  go_wp2
  go_loopw [7] (fun s wr => ∃ (k : Nat) (b : Array Pt), s = .int .i64 k /\ k <= n /\ Turned w wr B q g (n + 1) cap a b /\ HeapDown b n k /\ gt b n = gt a n) (fun s _ => (n - intOf s).toNat)
  case atStart => exact ⟨0, a, rfl, by omega, Turned.start h hs, hu, rfl⟩
  case round =>
    obtain ⟨k, b, rfl, hk, hT, hU, hE⟩ := hrel
    have HT := Lib.hid hT
    have HU := Lib.hid hU
    have HE := Lib.hid hE
    have nn : (n : Int) <= 999999999 := by omega
    have k1 : (k : Int) <= 999999999 := by omega
    have hsz := hT.size
    have hown := hT.own
    have hq0 := hT.cellq
    have HS := Lib.hid hsz
    clear hT hU hE hu h hs hsz
    obtain ⟨c, hc⟩ : ∃ c, c = 2 * k + 1 := ⟨_, rfl⟩
    have e1 : 2 * (k : Int) + 1 = (c : Int) := by omega
    have c0 : (0 : Int) <= (c : Int) := by omega
    have c1 : (c : Int) <= 2000000000 := by omega
    by_cases hcn : n <= c
    . have hcn' : (n : Int) <= (c : Int) := by omega
      have HC := Lib.hid hc
      have HF : Hid (Heap b n) := Lib.hid (HU.out.done fun i i0 hi hp => by omega)
      clear hc hown hq0
      go_wp2
      all_goals
        go_ret
        exact ⟨⟨_, rfl⟩, b, HT.out, HF.out, HE.out⟩
    . have hcn1 : c < n := by omega
      have hcn' : (c : Int) < (n : Int) := by omega
      have mL := method_less q _ (n + 1) cap wr hq0
      obtain ⟨d, hd⟩ : ∃ d, d = c + 1 := ⟨_, rfl⟩
      have e2 : (c : Int) + 1 = (d : Int) := by omega
      have d0 : (0 : Int) <= (d : Int) := by omega
      have d1 : (d : Int) <= 2000000000 := by omega
      have HL1 := Lib.hid (fun h : d < n => less_any g (n + 1) cap b d c B wr hown (by omega) (by omega) (by omega))
      have HC := Lib.hid hc
      have HD := Lib.hid hd
      clear hc hd hown hq0
      have HN := Lib.hid hcn1
      clear hcn hcn1
      by_cases hdn : d < n
      . have hdn' : (d : Int) < (n : Int) := by omega
        have HL2 := Lib.hid (HL1.out hdn)
        clear HL1
        have HDN := Lib.hid hdn
        cases hA : aheadB (gt b d) (gt b c) with
        | false =>
          rw [hA] at HL2
          have HA := Lib.hid hA
          clear hA
          go_wp2_with fail
          refine HL2.out.mono ?_
          rintro e w1 ⟨rfl, hb⟩
          have hT1 := HT.out.below hb
          have mL1 := method_less q _ (n + 1) cap w1 hT1.cellq
          have hj : c < n := by first | exact HN.out | exact HDN.out
          have hk1 : k < n := by have := HC.out; have := HN.out; omega
          have HL3 := Lib.hid (less_any g (n + 1) cap b c k B w1 hT1.own (by omega) (by omega) (by omega))
          have HT1 := Lib.hid hT1
          have HB : Hid (∀ i, 0 < i -> i < n -> (i - 1) / 2 = k -> le (gt b c) (gt b i)) := Lib.hid (fun i i0 hi hp => by
            have hcd : i = c \/ i = d := by have := HC.out; have := HD.out; omega
            rcases hcd with rfl | rfl
            . exact le_refl _
            . exact HA.out)
          have HJ : Hid (c < n /\ k < n /\ (c - 1) / 2 = k /\ 0 < c /\ k < c) := Lib.hid (by have := HC.out; have := HD.out; exact ⟨hj, hk1, by omega, by omega, by omega⟩)
          clear hT1 hb hj hk1
          cases hG : aheadB (gt b c) (gt b k) with
          | false =>
            rw [hG] at HL3
            have HG := Lib.hid hG
            clear hG
            go_wp2_with fail
            refine HL3.out.mono ?_
            rintro e w2 ⟨rfl, hb⟩
            have HB2 := Lib.hid hb
            clear hb
            go_wp2
            all_goals
              go_ret
              exact ⟨⟨_, rfl⟩, b, HT1.out.below HB2.out, HU.out.done fun i i0 hi hp => le_trans HG.out (HB.out i i0 hi hp), HE.out⟩
          | true =>
            rw [hG] at HL3
            have HG := Lib.hid hG
            clear hG
            go_wp2_with fail
            refine HL3.out.mono ?_
            rintro e w2 ⟨rfl, hb⟩
            have hT2 := HT1.out.below hb
            have mS := method_swap q _ (n + 1) cap w2 hT2.cellq
            have HS2 := Lib.hid (swap_any w2 g (n + 1) cap b k c B w2 hT2.toRow (by have := HJ.out; omega) (by have := HJ.out; omega) (by omega))
            have HT2 := Lib.hid hT2
            clear hT2 hb
            go_wp2_with fail
            refine HS2.out.mono ?_
            rintro e w3 ⟨rfl, hr⟩
            have HR := Lib.hid hr
            clear hr
            go_wp2
            go_roundw
            case rel =>
              have hs := HT.out.size
              obtain ⟨j1, j2, j3, j4, j5⟩ := HJ.out
              exact ⟨c, swp b k c, rfl, by omega, HT2.out.row (by omega) (by omega) HR.out, HU.out.step j4 j1 (by omega) j3 HG.out HB.out, by rw [gt_swp _ _ _ _ (by omega) (by omega), if_neg (by omega), if_neg (by omega)]; exact HE.out⟩
            case measure => obtain ⟨j1, j2, j3, j4, j5⟩ := HJ.out; simp [intOf]; omega
        | true =>
          rw [hA] at HL2
          have HA := Lib.hid hA
          clear hA
          go_wp2_with fail
          refine HL2.out.mono ?_
          rintro e w1 ⟨rfl, hb⟩
          have hT1 := HT.out.below hb
          have mL1 := method_less q _ (n + 1) cap w1 hT1.cellq
          have hj : d < n := by first | exact HN.out | exact HDN.out
          have hk1 : k < n := by have := HC.out; have := HN.out; omega
          have HL3 := Lib.hid (less_any g (n + 1) cap b d k B w1 hT1.own (by omega) (by omega) (by omega))
          have HT1 := Lib.hid hT1
          have HB : Hid (∀ i, 0 < i -> i < n -> (i - 1) / 2 = k -> le (gt b d) (gt b i)) := Lib.hid (fun i i0 hi hp => by
            have hcd : i = c \/ i = d := by have := HC.out; have := HD.out; omega
            rcases hcd with rfl | rfl
            . exact le_of_ahead HA.out
            . exact le_refl _)
          have HJ : Hid (d < n /\ k < n /\ (d - 1) / 2 = k /\ 0 < d /\ k < d) := Lib.hid (by have := HC.out; have := HD.out; exact ⟨hj, hk1, by omega, by omega, by omega⟩)
          clear hT1 hb hj hk1
          cases hG : aheadB (gt b d) (gt b k) with
          | false =>
            rw [hG] at HL3
            have HG := Lib.hid hG
            clear hG
            go_wp2_with fail
            refine HL3.out.mono ?_
            rintro e w2 ⟨rfl, hb⟩
            have HB2 := Lib.hid hb
            clear hb
            go_wp2
            all_goals
              go_ret
              exact ⟨⟨_, rfl⟩, b, HT1.out.below HB2.out, HU.out.done fun i i0 hi hp => le_trans HG.out (HB.out i i0 hi hp), HE.out⟩
          | true =>
            rw [hG] at HL3
            have HG := Lib.hid hG
            clear hG
            go_wp2_with fail
            refine HL3.out.mono ?_
            rintro e w2 ⟨rfl, hb⟩
            have hT2 := HT1.out.below hb
            have mS := method_swap q _ (n + 1) cap w2 hT2.cellq
            have HS2 := Lib.hid (swap_any w2 g (n + 1) cap b k d B w2 hT2.toRow (by have := HJ.out; omega) (by have := HJ.out; omega) (by omega))
            have HT2 := Lib.hid hT2
            clear hT2 hb
            go_wp2_with fail
            refine HS2.out.mono ?_
            rintro e w3 ⟨rfl, hr⟩
            have HR := Lib.hid hr
            clear hr
            go_wp2
            go_roundw
            case rel =>
              have hs := HT.out.size
              obtain ⟨j1, j2, j3, j4, j5⟩ := HJ.out
              exact ⟨d, swp b k d, rfl, by omega, HT2.out.row (by omega) (by omega) HR.out, HU.out.step j4 j1 (by omega) j3 HG.out HB.out, by rw [gt_swp _ _ _ _ (by omega) (by omega), if_neg (by omega), if_neg (by omega)]; exact HE.out⟩
            case measure => obtain ⟨j1, j2, j3, j4, j5⟩ := HJ.out; simp [intOf]; omega
      . have hdn' : (n : Int) <= (d : Int) := by omega
        have HDN := Lib.hid hdn
        clear HL1
        clear mL
        obtain ⟨w1, hb, hw1⟩ : ∃ w1, Below wr.heap.size wr w1 /\ w1 = wr := ⟨wr, Below.refl _ _, rfl⟩
        subst hw1
        have hT1 := HT.out.below hb
        have mL1 := method_less q _ (n + 1) cap w1 hT1.cellq
        have hj : c < n := by first | exact HN.out | exact HDN.out
        have hk1 : k < n := by have := HC.out; have := HN.out; omega
        have HL3 := Lib.hid (less_any g (n + 1) cap b c k B w1 hT1.own (by omega) (by omega) (by omega))
        have HT1 := Lib.hid hT1
        have HB : Hid (∀ i, 0 < i -> i < n -> (i - 1) / 2 = k -> le (gt b c) (gt b i)) := Lib.hid (fun i i0 hi hp => by
          have hcd : i = c := by have := HC.out; have := HD.out; have := HDN.out; omega
          rw [hcd]; exact le_refl _)
        have HJ : Hid (c < n /\ k < n /\ (c - 1) / 2 = k /\ 0 < c /\ k < c) := Lib.hid (by have := HC.out; have := HD.out; exact ⟨hj, hk1, by omega, by omega, by omega⟩)
        clear hT1 hb hj hk1
        cases hG : aheadB (gt b c) (gt b k) with
        | false =>
          rw [hG] at HL3
          have HG := Lib.hid hG
          clear hG
          go_wp2_with fail
          refine HL3.out.mono ?_
          rintro e w2 ⟨rfl, hb⟩
          have HB2 := Lib.hid hb
          clear hb
          go_wp2
          all_goals
            go_ret
            exact ⟨⟨_, rfl⟩, b, HT1.out.below HB2.out, HU.out.done fun i i0 hi hp => le_trans HG.out (HB.out i i0 hi hp), HE.out⟩
        | true =>
          rw [hG] at HL3
          have HG := Lib.hid hG
          clear hG
          go_wp2_with fail
          refine HL3.out.mono ?_
          rintro e w2 ⟨rfl, hb⟩
          have hT2 := HT1.out.below hb
          have mS := method_swap q _ (n + 1) cap w2 hT2.cellq
          have HS2 := Lib.hid (swap_any w2 g (n + 1) cap b k c B w2 hT2.toRow (by have := HJ.out; omega) (by have := HJ.out; omega) (by omega))
          have HT2 := Lib.hid hT2
          clear hT2 hb
          go_wp2_with fail
          refine HS2.out.mono ?_
          rintro e w3 ⟨rfl, hr⟩
          have HR := Lib.hid hr
          clear hr
          go_wp2
          go_roundw
          case rel =>
            have hs := HT.out.size
            obtain ⟨j1, j2, j3, j4, j5⟩ := HJ.out
            exact ⟨c, swp b k c, rfl, by omega, HT2.out.row (by omega) (by omega) HR.out, HU.out.step j4 j1 (by omega) j3 HG.out HB.out, by rw [gt_swp _ _ _ _ (by omega) (by omega), if_neg (by omega), if_neg (by omega)]; exact HE.out⟩
          case measure => obtain ⟨j1, j2, j3, j4, j5⟩ := HJ.out; simp [intOf]; omega
end Go.Proofs.YtljmddjlnlmenaaGreat.Qu
end
section
namespace Go.Proofs.YtljmddjlnlmenaaGreat.Qu
open Go.ChangeShapes Go.WideShapes Go.ChangeAt Go.RowKit
theorem QAt.form {w : World} {B q : Nat} {v : Value} {a : Array Pt} (h : QAt w B q v a) (h0 : 0 < a.size) : ∃ g cap, v = .slice (some ⟨g, 0, none⟩) a.size cap := by
  obtain ⟨g, cap, hv, _, _⟩ := h.own.form h0
  exact ⟨g, cap, hv⟩
theorem QAt.cell {w : World} {B q : Nat} {v : Value} {a : Array Pt} (h : QAt w B q v a) : w.cell? ⟨q, 0, none⟩ = some v := by
  have := h.blk.cell 0
  simpa using this
def HPushed (w w' : World) (B q : Nat) (v : Value) (a : Array Pt) (x : Pt) : Prop := ∃ v' b, QAt w' B q v' b /\ Moved w w' q v.ownBlock /\ Fresh w v.ownBlock v'.ownBlock /\ Heap b b.size /\ b.toList.Perm (x :: a.toList)
theorem heappush_any (v : Value) (q : Nat) (a : Array Pt) (x : Pt) (B : Nat) (w : World) (h : QAt w B q v a) (hh : Heap a a.size) (hn : a.size <= 999999999) :
    Calls Tryz.prog 109 #[.iface 136 (.pointer (some ⟨q, 0, none⟩)), .iface 134 (.agg #[.int .i64 x.1, .int .i64 x.2])] w fun e w' => e = .returned (.tuple #[]) /\ HPushed w w' B q v a x := by
  have mP := fun W => method_push q W
  have HL := Lib.hid (linepush_any v q a x B w h (by omega))
  have HH := Lib.hid hh
  have n1 : (a.size : Int) <= 999999999 := by omega
  have HN := Lib.hid hn
  clear h hh hn
  go_enter Tryz.func109, Tryz.ntmps109
  go_wp2_with fail
  refine HL.out.mono ?_
  rintro e w1 ⟨rfl, v', hQ, hM, hF⟩
  have e1 : (a.push x).size = a.size + 1 := by simp
  obtain ⟨g, cap, rfl⟩ := hQ.form (by omega)
  rw [e1] at hQ hF
  have mL := method_len q _ (a.size + 1) cap w1 hQ.cell
  have HU := Lib.hid (up_any q g (a.size + 1) cap (a.push x) a.size B w1 hQ e1 (by omega) HH.out.push (by have := HN.out; omega))
  have HQ := Lib.hid (And.intro hQ (And.intro hM hF))
  clear hQ hM hF e1
  go_wp2_with fail
  refine (len_any _ _ _ _).mono ?_
  rintro e w2 ⟨rfl, rfl⟩
  go_wp2_with fail
  refine HU.out.mono ?_
  rintro e w3 ⟨rfl, b, hT, hB⟩
  obtain ⟨hQ, hM, hF⟩ := HQ.out
  have HF : Hid (HPushed w w3 B q v a x) := Lib.hid ⟨_, b, hT.at_, hM.trans (Moved.grown (Moved.refl w1 q (some g)) hT.only) hF, hF, by rw [hT.size]; exact hB, hT.perm.trans (by rw [Array.toList_push]; exact List.perm_append_singleton _ _)⟩
  clear hQ hM hF hT hB
  go_wp2
  go_end0
  exact ⟨rfl, HF.out⟩
def HPopped (w w' : World) (B q : Nat) (v : Value) (a : Array Pt) : Prop := ∃ v' b, QAt w' B q v' b.pop /\ Moved w w' q v.ownBlock /\ v'.ownBlock = v.ownBlock /\ Heap b.pop b.pop.size /\ b.toList.Perm a.toList /\ b.size = a.size /\ gt b (a.size - 1) = gt a 0
theorem heappop_any (v : Value) (q n : Nat) (a : Array Pt) (B : Nat) (w : World) (h : QAt w B q v a) (hh : Heap a a.size) (hs : a.size = n + 1) (hn : n <= 999999999) :
    Calls Tryz.prog 96 #[.iface 136 (.pointer (some ⟨q, 0, none⟩))] w fun e w' => e = .returned (.iface 134 (.agg #[.int .i64 (gt a 0).1, .int .i64 (gt a 0).2])) /\ HPopped w w' B q v a := by
  have mP := fun W => method_pop q W
  obtain ⟨g, cap, hv⟩ := h.form (by omega)
  rw [hs] at hv
  subst hv
  have hT := Turned.start h hs
  have hT0 := hT
  have mL := method_len q _ (n + 1) cap w hT.cellq
  have mS := method_swap q _ (n + 1) cap w hT.cellq
  have HS := Lib.hid (swap_any w g (n + 1) cap a 0 n B w hT.toRow (by omega) (by omega) (by omega))
  have n1 : (n : Int) <= 999999999 := by omega
  have HH := Lib.hid (And.intro hh (And.intro hs hn))
  have HT := Lib.hid hT
  clear hT hT0 h hh hs hn
  go_enter Tryz.func96, Tryz.ntmps96
  go_wp2_with fail
  refine (len_any _ _ _ _).mono ?_
  rintro e w0 ⟨rfl, rfl⟩
  go_wp2_with fail
  refine HS.out.mono ?_
  rintro e w1 ⟨rfl, hr⟩
  have hT1 := HT.out.row (by omega) (by omega) hr
  clear hr mL mS
  have hHD := (show Heap a (n + 1) from by have := HH.out.1; rw [HH.out.2.1] at this; exact this).pop HH.out.2.1
  have HD := Lib.hid (down_any q g n cap (swp a 0 n) B w1 hT1.at_ hT1.size hHD HH.out.2.2)
  have HT1 := Lib.hid hT1
  clear hT1 hHD
  go_wp2_with fail
  refine HD.out.mono ?_
  rintro e w2 ⟨⟨r, rfl⟩, b, hT2, hHb, hE⟩
  have hbn : gt b n = gt a 0 := by
    rw [hE, gt_swp _ _ _ _ (by rw [HH.out.2.1]; omega) (by rw [HH.out.2.1]; omega)]
    by_cases h0 : n = 0
    . rw [if_pos h0, h0]
    . rw [if_neg h0, if_pos rfl]
  have HP := Lib.hid (linepop_any g n cap q b B w2 hT2.at_ hT2.size (by have := HH.out.2.2; omega))
  rw [hbn] at HP
  have HT2 := Lib.hid (And.intro hT2 (And.intro hHb hbn))
  clear hT2 hHb hE hbn
  go_wp2_with fail
  refine HP.out.mono ?_
  rintro e w3 ⟨rfl, hQ, hM⟩
  have HF : Hid (HPopped w w3 B q (.slice (some ⟨g, 0, none⟩) (n + 1) cap) a) := Lib.hid (by
    obtain ⟨hT2, hHb, hbn⟩ := HT2.out
    have hs := HH.out.2.1
    refine ⟨_, b, hQ, ((Moved.grown (Moved.refl w q (some g)) HT1.out.only).grown hT2.only).trans hM (Fresh.refl _ _), rfl, ?_, hT2.perm.trans (perm_swp a 0 n (by omega) (by omega)), by rw [hT2.size, hs], by rw [hs]; exact hbn⟩
    have e : b.pop.size = n := by simp [hT2.size]
    rw [e]
    intro i i0 hi
    have := hHb i i0 hi
    have e2 : ∀ k, k < n -> gt b.pop k = gt b k := by
      intro k hk
      unfold gt
      have h1 : k < b.pop.size := by omega
      have h2 : k < b.size := by rw [hT2.size]; omega
      simp only [Array.getD, h1, h2, dif_pos]
      show b.pop[k] = b[k]
      rw [Array.getElem_pop]
    rw [e2 _ (by omega), e2 _ hi]
    exact this)
  clear hQ hM
  go_wp2
  go_ret
  exact ⟨rfl, HF.out⟩
end Go.Proofs.YtljmddjlnlmenaaGreat.Qu
end
section
namespace Go.Proofs.YtljmddjlnlmenaaGreat.Qu
open Go.ChangeShapes Go.WideShapes Go.ChangeAt Go.RowKit
structure IsQ (w : World) (B q : Nat) (r : Option Nat) (l : List Pt) : Prop where
  sorted : Sorted l
  ex : ∃ v a, QAt w B q v a /\ v.ownBlock = r /\ Heap a a.size /\ a.toList.Perm l
theorem IsQ.below {w w' : World} {B q : Nat} {r : Option Nat} {l : List Pt} (h : IsQ w B q r l) (hb : Below w.heap.size w w') : IsQ w' B q r l := by
  obtain ⟨hs, v, a, hQ, hr, hh, hp⟩ := h
  exact ⟨hs, v, a, ⟨hQ.blk.below hb, row_below hQ.own hb, hQ.base⟩, hr, hh, hp⟩
theorem IsQ.base {w : World} {B q : Nat} {r : Option Nat} {l : List Pt} (h : IsQ w B q r l) : B <= q /\ q < w.heap.size /\ (∀ k, r = some k -> B <= k /\ k < w.heap.size) := by
  obtain ⟨hs, v, a, hQ, hr, hh, hp⟩ := h
  refine ⟨hQ.base, hQ.blk.lt, fun k hk => hQ.own.lt k (hr.trans hk)⟩
theorem IsQ.far {w w' : World} {B q q2 : Nat} {r r2 : Option Nat} {l l2 : List Pt} (h : IsQ w B q r l) (k : IsQ w B q2 r2 l2) (hm : Moved w w' q2 r2) (hq : q ≠ q2) (hr : r = none \/ r ≠ r2) : IsQ w' B q r l := by
  obtain ⟨hs, v, a, hQ, rfl, hh, hp⟩ := h
  obtain ⟨_, v2, a2, hQ2, rfl, _, _⟩ := k
  have h1 := own_blk_ne hQ2.own hQ.blk (by omega)
  have h2 := own_blk_ne hQ.own hQ2.blk (by omega)
  refine ⟨hs, v, a, ⟨hQ.blk.as (hm.block q hQ.blk.lt hq h1), ?_, hQ.base⟩, rfl, hh, hp⟩
  refine ⟨hQ.own.1, ?_⟩
  rcases hQ.own.2 with hn | ⟨g, cap, cur, rfl, hb, hg, rest⟩
  . exact .inl hn
  . rw [ownBlock_some] at hr h2
    refine .inr ⟨g, cap, cur, rfl, hb, ?_, rest⟩
    rw [hm.block g (Array.getElem?_eq_some_iff.1 hg).1 (by intro e; subst e; exact h2 rfl) (by rcases hr with hr | hr; exact absurd hr (by simp); exact hr)]
    exact hg
theorem IsQ.blk {w w' : World} {B q g t : Nat} {r : Option Nat} {l : List Pt} {cs : Array Value} (h : IsQ w B q r l) (hm : Moved w w' q r) (hg : Blk w g t cs) (h1 : 134 ≠ t) (h2 : t ≠ 132) : Blk w' g t cs := by
  obtain ⟨hs, v, a, hQ, rfl, hh, hp⟩ := h
  have h3 := own_blk_ne hQ.own hg h1
  refine hg.as (hm.block g hg.lt ?_ h3)
  rintro rfl
  have h4 := hQ.blk.here
  rw [hg.here] at h4
  injection h4 with h4
  injection h4 with _ h4
  exact h2 h4
theorem queue_new (B : Nat) (w : World) (hB : B <= w.heap.size) : Calls Tryz.prog 94 #[] w fun e w' => e = .returned (.pointer (some ⟨w.heap.size, 0, none⟩)) /\ IsQ w' B w.heap.size none [] /\ Below w.heap.size w w' /\ w'.heap.size = w.heap.size + 1 := by
  have HF : Hid (IsQ (w.alloc (.cells #[.slice none 0 0] 132)) B w.heap.size none [] /\ Below w.heap.size w (w.alloc (.cells #[.slice none 0 0] 132)) /\ (w.alloc (.cells #[.slice none 0 0] 132)).heap.size = w.heap.size + 1) := Lib.hid
    ⟨⟨List.Pairwise.nil, .slice none 0 0, #[], ⟨Blk.new _ _ _, World.ownsRow_nil _ _ _ _, hB⟩, rfl, (fun i h0 hi => by simp at hi), List.Perm.refl _⟩, (Below.refl _ _).alloc (Nat.le_refl _) _, by simp⟩
  clear hB
  go_enter Tryz.func94, Tryz.ntmps94
  go_wp2
  go_ret
  exact ⟨rfl, HF.out⟩
def QPushed (w w' : World) (B q : Nat) (r : Option Nat) (x : Pt) (l : List Pt) : Prop := ∃ r', IsQ w' B q r' (ins x l) /\ Moved w w' q r /\ Fresh w r r'
theorem push_any (x : Pt) (B q : Nat) (r : Option Nat) (l : List Pt) (w : World) (h : IsQ w B q r l) (hn : l.length <= 999999999) :
    Calls Tryz.prog 95 #[.pointer (some ⟨q, 0, none⟩), .int .i64 x.1, .int .i64 x.2] w fun e w' => e = .returned (.tuple #[]) /\ QPushed w w' B q r x l := by
  obtain ⟨hs, v, a, hQ, rfl, hh, hp⟩ := h
  have hl : a.size = l.length := by simpa using hp.length_eq
  have HP := Lib.hid (heappush_any v q a x B w hQ hh (by omega))
  have HS := Lib.hid (And.intro hs hp)
  clear hs hQ hh hp hl hn
  go_enter Tryz.func95, Tryz.ntmps95
  go_wp2_with fail
  refine HP.out.mono ?_
  rintro e w1 ⟨rfl, v', b, hQ, hM, hF, hH, hb⟩
  have HF : Hid (QPushed w w1 B q v.ownBlock x l) := Lib.hid ⟨_, ⟨ins_sorted x l HS.out.1, v', b, hQ, rfl, hH, hb.trans ((HS.out.2.cons x).trans (ins_perm x l).symm)⟩, hM, hF⟩
  clear hQ hM hF hH hb
  go_wp2
  go_end0
  exact ⟨rfl, HF.out⟩
theorem own_value {w : World} {B E size n : Nat} {v : Value} {xs : List Value} (h : w.ownsRow B E size v n xs) : ∃ A cap, v = .slice A n cap := by
  rcases h.2 with ⟨rfl, rfl⟩ | ⟨g, cap, cur, rfl, _⟩
  . exact ⟨_, _, rfl⟩
  . exact ⟨_, _, rfl⟩
theorem qlen_any (B q : Nat) (r : Option Nat) (l : List Pt) (w : World) (h : IsQ w B q r l) :
    Calls Tryz.prog 60 #[.pointer (some ⟨q, 0, none⟩)] w fun e w' => e = .returned (.int .i64 l.length) /\ w = w' := by
  obtain ⟨hs, v, a, hQ, rfl, hh, hp⟩ := h
  have hl : a.size = l.length := by simpa using hp.length_eq
  have hc := hQ.cell
  obtain ⟨A, cap, hv⟩ := own_value hQ.own
  rw [hv] at hc
  rw [hl] at hc
  clear hs hQ hh hp hl hv
  go_enter Tryz.func60, Tryz.ntmps60
  go_wp2
  go_ret
  exact ⟨rfl, rfl⟩
def QPopped (w w' : World) (B q : Nat) (r : Option Nat) (l : List Pt) : Prop := IsQ w' B q r l /\ Moved w w' q r
theorem pop_some (B q : Nat) (r : Option Nat) (x : Pt) (l : List Pt) (w : World) (h : IsQ w B q r (x :: l)) (hn : l.length <= 999999999) :
    Calls Tryz.prog 61 #[.pointer (some ⟨q, 0, none⟩)] w fun e w' => e = .returned (.tuple #[.int .i64 x.1, .int .i64 x.2, .bool true]) /\ QPopped w w' B q r l := by
  have HL := Lib.hid (qlen_any B q r (x :: l) w h)
  obtain ⟨hs, v, a, hQ, rfl, hh, hp⟩ := h
  have hl : a.size = l.length + 1 := by simpa using hp.length_eq
  have h0 := head_of_top hs hh hp
  have HP := Lib.hid (heappop_any v q l.length a B w hQ hh hl hn)
  rw [h0] at HP
  have l0 : ((((l.length : Int) + 1) == 0)) = false := beq_eq_false_iff_ne.2 (by omega)
  have has := fun W => assert_one x.1 x.2 W
  have HS := Lib.hid (And.intro hs (And.intro hh (And.intro hp hl)))
  clear hs hQ hh hp hl hn h0
  go_enter Tryz.func61, Tryz.ntmps61
  go_wp2_with fail
  refine HL.out.mono ?_
  rintro e w' ⟨rfl, rfl⟩
  go_wp2_with fail
  refine HP.out.mono ?_
  rintro e w1 ⟨rfl, v', b, hQ, hM, hv, hH, hb, hbs, hE⟩
  have HF : Hid (QPopped w w1 B q v.ownBlock l) := Lib.hid (by
    obtain ⟨hs, hh, hp, hl⟩ := HS.out
    exact ⟨⟨(List.pairwise_cons.1 hs).2, v', b.pop, hQ, hv, hH, left_perm hs hh hp hb l.length (by omega) (by rw [<- hE, hl]; rfl)⟩, hM⟩)
  clear hQ hM hv hH hb hbs hE
  go_wp2_with fail
  go_quiet (fail)
  go_wp2
  go_ret3
  refine ⟨rfl, ?_, ?_⟩
  . exact HF.out.1.below (below_draws ((Below.refl _ _).alloc (Nat.le_refl _) _) _)
  . exact HF.out.2.below (below_draws ((Below.refl _ _).alloc (Nat.le_refl _) _) _)
end Go.Proofs.YtljmddjlnlmenaaGreat.Qu
end
section
namespace Go.Proofs.YtljmddjlnlmenaaGreat.Qu
open Go.ChangeShapes Go.WideShapes Go.ChangeAt Go.RowKit
theorem IsQ.grown {w w' : World} {B q : Nat} {r row : Option Nat} {l : List Pt} (h : IsQ w B q r l) (hg : w.grownBy w' row) (h1 : some q ≠ row) (h2 : r = none \/ r ≠ row) : IsQ w' B q r l := by
  obtain ⟨hs, v, a, hQ, rfl, hh, hp⟩ := h
  exact ⟨hs, v, a, ⟨hQ.blk.grown hg h1, hQ.own.kept hg h2, hQ.base⟩, rfl, hh, hp⟩
theorem own_own_ne {w : World} {B B' e e' size size' n n' : Nat} {v v' : Value} {xs xs' : List Value} (h : w.ownsRow B e size v n xs) (h' : w.ownsRow B' e' size' v' n' xs') (hne : e ≠ e') : v.ownBlock = none \/ v.ownBlock ≠ v'.ownBlock := by
  rcases h.2 with ⟨rfl, _⟩ | ⟨g, cap, cur, rfl, _, hh, _⟩
  . exact .inl rfl
  . right
    rcases h'.2 with ⟨rfl, _⟩ | ⟨g', cap', cur', rfl, _, hh', _⟩
    . simp [Value.ownBlock]
    . rw [ownBlock_some, ownBlock_some]
      intro e
      injection e with e
      subst e
      rw [hh] at hh'
      injection hh' with hh'
      injection hh' with _ ht
      exact hne ht
theorem IsQ.apart {w : World} {B B' q e size n : Nat} {r : Option Nat} {l : List Pt} {v : Value} {xs : List Value} (h : IsQ w B q r l) (hv : w.ownsRow B' e size v n xs) (h1 : 134 ≠ e) (h2 : e ≠ 132) : some q ≠ v.ownBlock /\ (r = none \/ r ≠ v.ownBlock) := by
  obtain ⟨hs, v2, a, hQ, rfl, hh, hp⟩ := h
  exact ⟨own_blk_ne hv hQ.blk h2, own_own_ne hQ.own hv h1⟩
theorem IsQ.toBelow {w w' : World} {B q : Nat} {r : Option Nat} {l : List Pt} (h : IsQ w B q r l) (hm : Moved w w' q r) : Below B w w' := by
  obtain ⟨hb, hq, hr⟩ := h.base
  exact hm.toBelow (by omega) hb (fun k hk => (hr k hk).1)
theorem info_int : (Tryz.prog.info? 3).map (fun i => (i.zero, i.size, i.bytes)) = some (some (.int .i64 0), 1, 8) := by kernel_rfl
def nums (l : List Pt) : List Value := l.map fun p => .int .i64 p.2
def Ordered (e : Ending) (w w' : World) (n : Nat) (f : Nat -> Int) : Prop := ∃ A c, e = .returned (.slice A n c) /\ w'.ownsRow w.heap.size 3 1 (.slice A n c) n (nums (ord f n)) /\ Below w.heap.size w w'
end Go.Proofs.YtljmddjlnlmenaaGreat.Qu
end
section
namespace Go.Proofs.YtljmddjlnlmenaaGreat.Qu
open Go.ChangeShapes Go.WideShapes Go.ChangeAt Go.RowKit
theorem nums_eq (l : List Pt) : nums l = (l.map (·.2)).map (Value.int .i64) := by simp [nums]
def Told (e : Ending) (w w' : World) (n : Nat) (l : List Int) : Prop := ∃ A c, e = .returned (.slice A n c) /\ Hl.Ints w' w'.heap.size A n (Hl.at_ l) /\ Below w.heap.size w w'
end Go.Proofs.YtljmddjlnlmenaaGreat.Qu
end
