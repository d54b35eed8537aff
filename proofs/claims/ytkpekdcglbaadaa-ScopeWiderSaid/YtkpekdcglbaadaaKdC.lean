/- Rows of the call's own, of things of any depth. Nothing here speaks of the program. -/
import Derived.Test.YtkpekdcglbaadaaKdB
set_option maxRecDepth 100000

set_option linter.unusedVariables false
namespace Go.Proofs.Ytkpekdcglbaadaa.Kd
open Go.ChangeShapes Go.WideShapes Go.ChangeAt Go.RowKit Go.Deep
open Mv (Only)
open Qu (Blk)

variable {α β : Type}

/-- All blocks that there are, but a row's own. -/
def But (w : World) (v : Value) : Nat → Prop := fun b => b < w.heap.size ∧ v.ownBlock ≠ some b

/-- A row of the call's own, of things that lead anywhere but into that row. -/
def Deep (K : Kind α) (w : World) (B E : Nat) (v : Value) (n : Nat) (xs : List α) : Prop := Own K w B E (But w v) v n xs

section
variable {P : Program} {K : Kind α} {w w' : World} {B E n c : Nat} {v : Value} {A : Option Addr} {xs ys : List α} {x : α}
theorem Deep.nil (K : Kind α) (w : World) (B E : Nat) : Deep K w B E (.slice none 0 0) 0 [] := Own.nil _ _ _ _ _

theorem Deep.low (h : Deep K w B E v n xs) : ∀ g, v.ownBlock = some g → B ≤ g ∧ g < w.heap.size := Own.low h

theorem Deep.value (h : Deep K w B E v n xs) : ∃ A c, v = .slice A n c := Own.value h

theorem Deep.fit (h : Deep K w B E (.slice A n c) n xs) : Fit A n c := Own.fit h

theorem Deep.len (h : Deep K w B E v n xs) : xs.length = n := h.1

theorem but_mono (hs : w.heap.size ≤ w'.heap.size) : ∀ b, But w v b → But w' v b := fun b hb => ⟨Nat.lt_of_lt_of_le hb.1 hs, hb.2⟩

theorem Deep.later (h : Deep K w B E v n xs) (hb : Below w.heap.size w w') : Deep K w' B E v n xs :=
  (h.stay (fun b hb2 => hb.block b hb2.1) fun g hg => hb.block g (h.low g hg).2).more (but_mono hb.size)

/-- Some blocks turn that it does not lead into. -/
theorem Deep.read (h : Deep K w B E (.slice A n c) n xs) : Row K w (· < w.heap.size) A n xs :=
  (h.more (G := (· < w.heap.size)) fun b hb => hb.1).row fun g hg => (h.low g hg).2

theorem Deep.lst (h : Deep K w B E (.slice A n c) n xs) : Lst K w (· < w.heap.size) ⟨A, n, c⟩ xs := ⟨h.read, h.fit⟩

/-- What is new is no part of an elder row. -/
theorem Deep.but {W : World} (h : Deep K w B E v n xs) {F : Nat → Prop} (hs : ∀ b, F b → b < W.heap.size ∧ (w.heap.size ≤ b ∨ But w v b)) : ∀ b, F b → But W v b := fun b hb => ⟨(hs b hb).1, fun e => by
  rcases (hs b hb).2 with h1 | h1
  · have := (h.low b e).2
    omega
  · exact h1.2 e⟩

theorem wpList_grow {t e : TypeId} {z : Value} {S b : Nat} (R : RowT P K t e z S b) {W w1 : World} {cs : List Value} {ops : Array Oper} {rest : List Oper} {o : Oper} {a : Act} {Q : Exit → Act → World → Prop} (free : o.guard = none) (s y : Operand)
    (is : o.op = .call { callee := .builtin .append, args := #[s, y], argTypes := #[t, t] }) (hw : w1 = W.alloc (.cells cs.toArray e)) (vs : a.eval s = v) (vx : a.eval y = .slice (some ⟨W.heap.size, 0, none⟩) 1 1) (hO : Deep K W B e v n xs) (hy : K.rep W (But W v) x cs)
    (hn : (n + 1) * b ≤ 140737488355328) (hn2 : n + 1 ≤ 1000000000000) (hB : B ≤ W.heap.size)
    (go : ∀ g cap w', Deep K w' B e (.slice (some ⟨g, 0, none⟩) (n + 1) cap) (n + 1) (xs ++ [x]) → W.grownBy w' v.ownBlock → (v.ownBlock = some g ∨ W.heap.size ≤ g) → wpList P ops Q rest (a.put o.dst (.slice (some ⟨g, 0, none⟩) (n + 1) cap)) w') : wpList P ops Q (o :: rest) a w1 := by
  refine wpList_push R free s y is hw vs vx hO hy hn hn2 hB (fun q hq => hq) fun g cap w' hown hg hf => go g cap w' (hown.more fun q hq => ⟨?_, ?_⟩) hg hf
  · exact Nat.lt_of_lt_of_le hq.1 hg.size
  · intro e2
    injection e2 with e2
    have e3 : g = q := e2
    subst e3
    rcases hf with h1 | h1
    · exact hq.2 h1
    · have := hq.1
      omega
end

/-! ### Rows of texts, of numbers, of lists -/
section
variable {w : World} {F : Nat → Prop} {A : Option Addr} {n k : Nat}
theorem row_str {xs : List ByteArray} {x : ByteArray} (h : Row kStr w F A n xs) (hk : xs[k]? = some x) : ∃ g o, A = some ⟨g, o, none⟩ ∧ F g ∧ g < w.heap.size ∧ x.size ≤ maxLen ∧ w.cell? ⟨g, o + k, none⟩ = some (.string x) := by
  obtain ⟨g, o, cs, hA, hF, hl, ⟨rfl, hr⟩, hc⟩ := h.each k x hk
  have e : kStr.size = 1 := rfl
  have h0 := hc 0 _ rfl
  rw [e, Nat.mul_one, Nat.add_zero] at h0
  exact ⟨g, o, hA, hF, hl, hr, h0⟩

theorem row_int {xs : List Int} {x : Int} (h : Row kInt w F A n xs) (hk : xs[k]? = some x) : ∃ g o, A = some ⟨g, o, none⟩ ∧ F g ∧ g < w.heap.size ∧ (-9223372036854775808 ≤ x ∧ x ≤ 9223372036854775807) ∧ w.cell? ⟨g, o + k, none⟩ = some (.int .i64 x) := by
  obtain ⟨g, o, cs, hA, hF, hl, ⟨rfl, hr⟩, hc⟩ := h.each k x hk
  have e : kInt.size = 1 := rfl
  have h0 := hc 0 _ rfl
  rw [e, Nat.mul_one, Nat.add_zero] at h0
  exact ⟨g, o, hA, hF, hl, hr, h0⟩

theorem row_list {α : Type} {K : Kind α} {xs : List (List α)} {x : List α} (h : Row (kList K) w F A n xs) (hk : xs[k]? = some x) : ∃ g o, ∃ l : Sl, A = some ⟨g, o, none⟩ ∧ F g ∧ g < w.heap.size ∧ Lst K w F l x ∧ w.cell? ⟨g, o + k, none⟩ = some (.slice l.A l.n l.c) := by
  obtain ⟨g, o, cs, hA, hF, hl, ⟨A', n', c', rfl, hr, hf⟩, hc⟩ := h.each k x hk
  have e : (kList K).size = 1 := rfl
  have h0 := hc 0 _ rfl
  rw [e, Nat.mul_one, Nat.add_zero] at h0
  exact ⟨g, o, ⟨A', n', c'⟩, hA, hF, hl, ⟨hr, hf⟩, h0⟩

theorem Lst.stay {α : Type} {K : Kind α} {w' : World} {s : Sl} {xs : List α} (h : Lst K w F s xs) (a : Agree F w w') : Lst K w' F s xs := ⟨h.row.stay a, h.fit⟩

theorem Lst.more {α : Type} {K : Kind α} {G : Nat → Prop} {s : Sl} {xs : List α} (h : Lst K w F s xs) (f : ∀ b, F b → G b) : Lst K w G s xs := ⟨h.row.more f, h.fit⟩

theorem Lst.below {α : Type} {K : Kind α} {w' : World} {B M : Nat} {s : Sl} {xs : List α} (h : Lst K w (· < M) s xs) (hb : Below B w w') (hM : M ≤ B) : Lst K w' (· < M) s xs := h.stay (Agree.below hb hM)
end

/-- Lists of lists, held against each other. -/
theorem eqL_iff {eq : α → α → Bool} (h : ∀ {x y}, eq x y = true ↔ x = y) : ∀ {xs ys : List α}, eqL eq xs ys = true ↔ xs = ys
  | [], [] => by simp [eqL]
  | [], _ :: _ => by simp [eqL]
  | _ :: _, [] => by simp [eqL]
  | x :: xs, y :: ys => by
    unfold eqL
    rw [Bool.and_eq_true, h, eqL_iff h, List.cons.injEq]

end Go.Proofs.Ytkpekdcglbaadaa.Kd
