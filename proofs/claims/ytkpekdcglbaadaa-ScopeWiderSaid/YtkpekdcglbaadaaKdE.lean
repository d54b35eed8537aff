/- append(out, src...) at a step of a region that draws its order; texts that are appended so. -/
import Derived.Test.YtkpekdcglbaadaaKdC
import Derived.Test.YtkpekdcglbaadaaApT
import Derived.Deep.AppendLies
set_option maxRecDepth 100000

set_option linter.unusedVariables false
namespace Go.Proofs.Ytkpekdcglbaadaa.Kd
open Go.ChangeShapes Go.WideShapes Go.ChangeAt Go.RowKit Go.Deep
open Mv (Only)
open Qu (Blk)

section
variable {α : Type} {P : Program} {K : Kind α} {t e : TypeId} {z : Value} {S b : Nat}
theorem step_join (R : RowT P K t e z S b) {w1 : World} {F G : Nat → Prop} {B n m c : Nat} {v : Value} {xs ys : List α} {A : Option Addr} {ops : Array Oper} {o : Oper} {a : Act} {KK : Act → World → Prop} {Q : Exit → Act → World → Prop} {E : Prop} (free : o.guard = none) (s x : Operand)
    (is : o.op = .call { callee := .builtin .append, args := #[s, x], argTypes := #[t, t] }) (vs : a.eval s = v) (vx : a.eval x = .slice A m c) (hO : Own K w1 B e F v n xs) (hy : Row K w1 G A m ys) (hA : A = none → m = 0 ∧ c = 0) (hrep : ∀ {x a}, K.rep w1 G x a → K.rep w1 F x a)
    (hn : (n + m) * b ≤ 140737488355328) (hn2 : n + m ≤ 1000000000000) (hB : B ≤ w1.heap.size) (hF : ∀ q, F q → q < w1.heap.size ∧ v.ownBlock ≠ some q)
    (go : ∀ v' w', Own K w' B e F v' (n + m) (xs ++ ys) → w1.grownBy w' v.ownBlock → Mv.Fresh w1 v.ownBlock v'.ownBlock → KK (a.put o.dst v') w') : if Region.wanted o (yielded ops a.tmps) = true then Oper.wp P o a w1 KK Q else E := by
  have hw : Region.wanted o (yielded ops a.tmps) = true := by simp [Region.wanted, free]
  rw [if_pos hw]
  obtain ⟨v', w', hr, h2, h3, h4⟩ := run_join (P := P) R o.type w1 hO hy hA hrep hn hn2 hB hF
  unfold Oper.wp execOp
  simp only [is, resolve, invoke, builtin, Sem.run_bind, Sem.run_pure, Result.andThen_ok, List.map_toArray, List.map_cons, List.map_nil, vs, vx, hr]
  exact go v' w' h2 h3 h4
end

/-- Texts of the call's own that grew out of a row of its own, or of none. -/
structure Grew (u w' : World) (B : Nat) (v : Value) (A : Option Addr) (n c : Nat) (l : List ByteArray) : Prop where
  own : Own kStr w' B 9 (fun _ => False) (.slice A n c) n l
  grown : u.grownBy w' v.ownBlock
  fresh : ∀ q, (Value.slice A n c).ownBlock = some q → v.ownBlock = some q ∨ u.heap.size ≤ q
  top : ∀ q, (Value.slice A n c).ownBlock = some q → q < w'.heap.size
  size : u.heap.size ≤ w'.heap.size

section
variable {u w' : World} {B n c m : Nat} {A : Option Addr} {l : List ByteArray} {v : Value}
theorem Grew.of {v' : Value} (h1 : Own kStr w' B 9 (fun _ => False) v' n l) (h2 : u.grownBy w' v.ownBlock) (h3 : Mv.Fresh u v.ownBlock v'.ownBlock) : ∃ A c, v' = .slice A n c ∧ Grew u w' B v A n c l := by
  obtain ⟨A, c, rfl⟩ := h1.value
  refine ⟨A, c, rfl, h1, h2, fun q hq => ?_, fun q hq => (h1.low q hq).2, h2.size⟩
  rcases h3 with h3 | ⟨g, h3, h4⟩
  · exact .inl (h3.symm.trans hq)
  · rw [h3] at hq
    injection hq with hq
    exact .inr (hq ▸ h4)

/-- append(nil, src...) of texts. -/
theorem step_copy {ops : Array Oper} {o : Oper} {a : Act} {KK : Act → World → Prop} {Q : Exit → Act → World → Prop} {E : Prop} (free : o.guard = none) (s x : Operand)
    (is : o.op = .call { callee := .builtin .append, args := #[s, x], argTypes := #[22, 22] }) (vs : a.eval s = .slice none 0 0) (B : Nat) (A : Option Addr) (n c : Nat) (l : List ByteArray) (vx : a.eval x = .slice A n c) (hy : Row kStr u (· < u.heap.size) A n l) (hf : Fit A n c) (hn : n ≤ 1000000) (hB : B ≤ u.heap.size)
    (go : ∀ A' c' w', Hid (Grew u w' B (.slice none 0 0) A' n c' l) → KK (a.put o.dst (.slice A' n c')) w') : if Region.wanted o (yielded ops a.tmps) = true then Oper.wp Try.prog o a u KK Q else E := by
  refine step_join (G := (· < u.heap.size)) Ap.str_t free s x is vs vx (Own.nil kStr u B 9 (fun _ => False)) hy hf.1 (fun h => h) (by omega) (by omega) hB (fun _ h => h.elim) fun v' w' h1 h2 h3 => ?_
  rw [Nat.zero_add, List.nil_append] at h1
  obtain ⟨A', c', rfl, h⟩ := Grew.of h1 h2 h3
  exact go A' c' w' (Lib.hid h)

/-- append(out, text): the text lies in a box of its own. -/
theorem step_text {ops : Array Oper} {o : Oper} {a : Act} {KK : Act → World → Prop} {Q : Exit → Act → World → Prop} {E : Prop} (free : o.guard = none) (s x : Operand)
    (is : o.op = .call { callee := .builtin .append, args := #[s, x], argTypes := #[22, 22] }) (B : Nat) (A : Option Addr) (n c : Nat) (l : List ByteArray) (vs : a.eval s = .slice A n c) (g : Nat) (y : ByteArray) (vx : a.eval x = .slice (some ⟨g, 0, none⟩) 1 1) (hO : Own kStr u B 9 (fun _ => False) (.slice A n c) n l) (hy : Blk u g 9 #[.string y]) (hs : y.size ≤ maxLen) (hn : n ≤ 1000000) (hB : B ≤ u.heap.size)
    (go : ∀ A' c' w', Hid (Grew u w' B (.slice A n c) A' (n + 1) c' (l ++ [y])) → KK (a.put o.dst (.slice A' (n + 1) c')) w') : if Region.wanted o (yielded ops a.tmps) = true then Oper.wp Try.prog o a u KK Q else E := by
  refine step_join (G := (· < u.heap.size)) (ys := [y]) Ap.str_t free s x is vs vx hO (row_blk (cs := [.string y]) hy (Cells.one ⟨rfl, hs⟩) rfl hy.lt) (fun h => by cases h) (fun h => h) (by omega) (by omega) hB (fun _ h => h.elim) fun v' w' h1 h2 h3 => ?_
  obtain ⟨A', c', rfl, h⟩ := Grew.of h1 h2 h3
  exact go A' c' w' (Lib.hid h)

theorem Grew.blk {g t : Nat} {cs : Array Value} (h : Grew u w' B v A n c l) (hb : Blk u g t cs) (hne : v.ownBlock ≠ some g) : Blk w' g t cs := hb.as (h.grown.block g hb.lt fun e => hne e.symm)

theorem Grew.blk' {g t : Nat} {cs : Array Value} (h : Grew u w' B v A n c l) (hne : v.ownBlock ≠ some g) (hb : Blk u g t cs) : Blk w' g t cs := h.blk hb hne

theorem blk_drew {w : World} {g t : Nat} {cs : Array Value} (h : Blk w g t cs) : Blk w.drew g t cs := h.as rfl

theorem below_set {w u : World} {B b o : Nat} {v : Value} (hB : B ≤ b) (h : Below B w u) : Below B w (u.setCell ⟨b, o, none⟩ v) := h.setCell hB v

theorem cut_then {P Q : Prop} (h : P) (f : P → Q) : Q := f h

theorem Grew.on {w0 : World} (h : Grew u w' B v A n c l) (hu : Below B w0 u) (hs : B ≤ u.heap.size) (hv : ∀ q, v.ownBlock = some q → B ≤ q) : Below B w0 w' := hu.grown h.grown hs hv

theorem Grew.low_nil (h : Grew u w' B (.slice none 0 0) A n c l) : ∀ q, (Value.slice A n c).ownBlock = some q → u.heap.size ≤ q := fun q hq => by
  rcases h.fresh q hq with h1 | h1
  · cases h1
  · exact h1

theorem Grew.below_nil (h : Grew u w' B (.slice none 0 0) A n c l) : Below u.heap.size u w' := (Below.refl _ _).grown h.grown (Nat.le_refl _) fun q hq => by cases hq

theorem below_alloc {w u : World} (h : Below w.heap.size w u) (o : Obj) : Below w.heap.size w (u.alloc o) := h.alloc h.size o

/-- Two copies of texts, each with one more, made one behind the other: how they stand at the end. -/
theorem grew_two {u2 wa u6 wd u9 we u13 wg W : World} {E n1 n2 c3 c5 c7 c8 : Nat} {A3 A5 A7 A8 : Option Addr} {l1 l2 : List ByteArray} {x y : ByteArray}
    (h2 : Grew u2 wa B (.slice none 0 0) A3 n1 c3 l1) (k26 : Below wa.heap.size wa u6) (h6 : Grew u6 wd B (.slice A3 n1 c3) A5 (n1 + 1) c5 (l1 ++ [x])) (k69 : Below wd.heap.size wd u9) (h9 : Grew u9 we B (.slice none 0 0) A7 n2 c7 l2) (k913 : Below we.heap.size we u13) (h13 : Grew u13 wg B (.slice A7 n2 c7) A8 (n2 + 1) c8 (l2 ++ [y]))
    (hW : ∀ q, q ≠ E → q < wg.heap.size → W.heap[q]? = wg.heap[q]?) (hs : wg.heap.size ≤ W.heap.size) (e1 : (Value.slice A5 (n1 + 1) c5).ownBlock ≠ some E) (e2 : (Value.slice A8 (n2 + 1) c8).ownBlock ≠ some E) :
    Lst kStr W (· < W.heap.size) ⟨A5, n1 + 1, c5⟩ (l1 ++ [x]) ∧ Lst kStr W (· < W.heap.size) ⟨A8, n2 + 1, c8⟩ (l2 ++ [y]) := by
  have hb9 := h9.below_nil
  have o1 := ((h6.own.later k69).later hb9).later k913
  have q1 := k69.size
  have q2 := hb9.size
  have q3 := k913.size
  have q4 := h13.size
  have o2 : Own kStr wg B 9 (fun _ => False) (.slice A5 (n1 + 1) c5) (n1 + 1) (l1 ++ [x]) := o1.stay (fun _ h => h.elim) fun g hg => by
    have t1 := h6.top g hg
    refine h13.grown.block g (by omega) fun e => ?_
    have t2 := h9.low_nil g e.symm
    omega
  have o3 : Own kStr W B 9 (fun _ => False) (.slice A5 (n1 + 1) c5) (n1 + 1) (l1 ++ [x]) := o2.stay (fun _ h => h.elim) fun g hg => hW g (fun e => e1 (e ▸ hg)) (by have t1 := h6.top g hg; omega)
  have o4 : Own kStr W B 9 (fun _ => False) (.slice A8 (n2 + 1) c8) (n2 + 1) (l2 ++ [y]) := h13.own.stay (fun _ h => h.elim) fun g hg => hW g (fun e => e2 (e ▸ hg)) (h13.top g hg)
  exact ⟨⟨o3.read, o3.fit⟩, ⟨o4.read, o4.fit⟩⟩
end

end Go.Proofs.Ytkpekdcglbaadaa.Kd
