/- Of what there was, some blocks alone have turned; rows, boxes stay. Nothing of the program. -/
import Derived.Test.YtbicdmhmpmdoeaaQuW
set_option linter.unusedVariables false
namespace Go.Proofs.Ytbicdmhmpmdoeaa.Mv
open Go.RowKit
open Qu (Blk)

/-- Of the blocks that there were, those in S alone may have turned. -/
structure Only (w w' : World) (S : Nat → Prop) : Prop where
  os : w'.os = w.os
  tape : w'.tape = w.tape
  output : w'.output = w.output
  size : w.heap.size ≤ w'.heap.size
  block : ∀ k, k < w.heap.size → ¬ S k → w'.heap[k]? = w.heap[k]?

section
variable {a b c w w' : World} {S T : Nat → Prop} {B : Nat}
theorem Only.refl (w : World) (S : Nat → Prop) : Only w w S := ⟨rfl, rfl, rfl, Nat.le_refl _, fun _ _ _ => rfl⟩

theorem Only.trans (h : Only a b S) (k : Only b c T) (f : ∀ i, i < a.heap.size → T i → S i) : Only a c S :=
  ⟨k.os.trans h.os, k.tape.trans h.tape, k.output.trans h.output, Nat.le_trans h.size k.size, fun i hi hs => (k.block i (Nat.lt_of_lt_of_le hi h.size) (fun ht => hs (f i hi ht))).trans (h.block i hi hs)⟩

theorem Only.mono (h : Only w w' S) (f : ∀ i, i < w.heap.size → S i → T i) : Only w w' T := ⟨h.os, h.tape, h.output, h.size, fun k hk ht => h.block k hk fun hs => ht (f k hk hs)⟩

theorem Only.ofBelow (h : Below w.heap.size w w') (S : Nat → Prop) : Only w w' S := ⟨h.os, h.tape, h.output, h.size, fun k hk _ => h.block k hk⟩

theorem Only.ofGrown {row : Option Nat} (h : w.grownBy w' row) (f : ∀ k, row = some k → S k) : Only w w' S :=
  ⟨h.os, h.tape, h.output, h.size, fun k hk hs => h.block k hk fun e => hs (f k e.symm)⟩

theorem Only.toBelow (h : Only w w' S) (hB : B ≤ w.heap.size) (f : ∀ k, k < B → ¬ S k) : Below B w w' := ⟨h.os, h.tape, h.output, h.size, fun k hk => h.block k (by omega) (f k hk)⟩

theorem Only.below (h : Only a b S) (k : Below b.heap.size b c) : Only a c S := h.trans (Only.ofBelow k S) fun _ _ hs => hs

theorem Only.grown {row : Option Nat} (h : Only a b S) (k : b.grownBy c row) (f : ∀ i, row = some i → i < a.heap.size → S i) : Only a c S :=
  ⟨k.os.trans h.os, k.tape.trans h.tape, k.output.trans h.output, Nat.le_trans h.size k.size, fun i hi hs => (k.block i (Nat.lt_of_lt_of_le hi h.size) (fun e => hs (f i e.symm hi))).trans (h.block i hi hs)⟩

theorem Only.put (h : Only a b S) {g i : Nat} (u : Value) (f : g < a.heap.size → S g) : Only a (b.setCell ⟨g, i, none⟩ u) S :=
  h.grown (Qu.turned_at b g i u) fun k hk hl => by injection hk with hk; subst hk; exact f hl

theorem Only.alloc (h : Only a b S) (o : Obj) : Only a (b.alloc o) S := h.below ((Below.refl _ _).alloc (Nat.le_refl _) _)

theorem Only.drew (h : Only a b S) : Only a b.drew S := ⟨h.os, h.tape, h.output, h.size, h.block⟩

theorem Only.drewN (h : Only a b S) (n : Nat) : Only a (b.drewN n) S := ⟨h.os, h.tape, h.output, h.size, h.block⟩

theorem Only.cell (h : Only w w' S) {g o : Nat} (hg : g < w.heap.size) (hs : ¬ S g) : w'.cell? ⟨g, o, none⟩ = w.cell? ⟨g, o, none⟩ := World.cell?_of_block (h.block g hg hs)

theorem blk_only {g : Nat} {t : TypeId} {cs : Array Value} (h : Blk w g t cs) (k : Only w w' S) (hs : ¬ S g) : Blk w' g t cs := h.as (k.block g h.lt hs)

theorem own_only {B e size n : Nat} {v : Value} {xs : List Value} (h : w.ownsRow B e size v n xs) (k : Only w w' S) (hs : ∀ g, v.ownBlock = some g → ¬ S g) : w'.ownsRow B e size v n xs := by
  refine ⟨h.1, ?_⟩
  rcases h.2 with hn | ⟨g, cap, cur, rfl, hb, hg, rest⟩
  · exact .inl hn
  · exact .inr ⟨g, cap, cur, rfl, hb, (k.block g (Array.getElem?_eq_some_iff.1 hg).1 (hs g rfl)).trans hg, rest⟩
end

/-- One block; two of them. -/
def one (q : Nat) : Nat → Prop := fun k => k = q

def two (q : Nat) (r : Option Nat) : Nat → Prop := fun k => k = q ∨ some k = r

/-- A row is the elder one, or new. -/
def Fresh (w : World) (r r' : Option Nat) : Prop := r' = r ∨ ∃ k, r' = some k ∧ w.heap.size ≤ k

theorem Fresh.refl (w : World) (r : Option Nat) : Fresh w r r := .inl rfl

theorem Fresh.trans {a b : World} {r s t : Option Nat} (h : Fresh a r s) (k : Fresh b s t) (hs : a.heap.size ≤ b.heap.size) : Fresh a r t := by
  rcases k with rfl | ⟨j, rfl, hj⟩
  · exact h
  · exact .inr ⟨j, rfl, by omega⟩

theorem Only.more {a b c : World} {q : Nat} {r s : Option Nat} (h : Only a b (two q r)) (k : Only b c (two q s)) (f : Fresh a r s) : Only a c (two q r) :=
  h.trans k fun i hi hs => by
    rcases hs with hs | hs
    · exact .inl hs
    · rcases f with rfl | ⟨j, rfl, hj⟩
      · exact .inr hs
      · injection hs with hs; omega

theorem ownBlock_some (g o n cap : Nat) (c : Option Nat) : (Value.slice (some ⟨g, o, c⟩) n cap).ownBlock = some g := rfl

/-- A row and a box of another type are two blocks. -/
theorem own_blk_ne {w : World} {B E size n q t : Nat} {v : Value} {xs : List Value} {cs : Array Value} (h : w.ownsRow B E size v n xs) (hq : Blk w q t cs) (hne : E ≠ t) : ∀ g, v.ownBlock = some g → g ≠ q := by
  intro g hg
  rcases h.2 with ⟨rfl, _⟩ | ⟨g', cap, cur, rfl, _⟩
  · simp [Value.ownBlock] at hg
  · have := Qu.own_ne_blk h hq hne
    rw [ownBlock_some] at hg
    injection hg with hg
    omega

theorem own_value {w : World} {B E size n : Nat} {v : Value} {xs : List Value} (h : w.ownsRow B E size v n xs) : ∃ A c, v = .slice A n c := by
  rcases h.2 with ⟨rfl, rfl⟩ | ⟨g, cap, cur, rfl, _⟩
  · exact ⟨none, 0, rfl⟩
  · exact ⟨_, _, rfl⟩

theorem own_cap {w : World} {B E size n c : Nat} {A : Option Addr} {xs : List Value} (h : w.ownsRow B E size (.slice A n c) n xs) : n ≤ c ∧ c ≤ 9223372036854775807 := by
  rcases h.2 with ⟨h0, rfl⟩ | ⟨g', cap', cur, hv, hg, hh, hn, hcap, _⟩
  · injection h0 with _ _ h0; omega
  · injection hv with _ _ hc
    subst hc
    unfold maxLen at hcap
    exact ⟨hn, by omega⟩

theorem own_none {w : World} {B E size n c : Nat} {A : Option Addr} {xs : List Value} (h : w.ownsRow B E size (.slice A n c) n xs) : A = none → n = 0 ∧ c = 0 := by
  intro e
  subst e
  rcases h.2 with ⟨h0, h1⟩ | ⟨g, cap, cur, hv, _⟩
  · injection h0 with _ _ h0
    exact ⟨h1, h0⟩
  · cases hv

end Go.Proofs.Ytbicdmhmpmdoeaa.Mv
