/- Contract of Order. -/
import Derived.Test.YtmnbamfemcgloaaQuG
import Derived.Test.YtmnbamfemcgloaaHlA
import Derived.OwnWalk
import Derived.Laws.MakeOwn
namespace Go.Proofs.Ytmnbamfemcgloaa.Qu
open Go.ChangeShapes Go.WideShapes Go.ChangeAt Go.RowKit
set_option linter.unusedVariables false
set_option maxRecDepth 100000

theorem IsQ.grown {w w' : World} {B q : Nat} {r row : Option Nat} {l : List Pt} (h : IsQ w B q r l) (hg : w.grownBy w' row) (h1 : some q ≠ row) (h2 : r = none ∨ r ≠ row) : IsQ w' B q r l := by
  obtain ⟨hs, v, a, hQ, rfl, hh, hp⟩ := h
  exact ⟨hs, v, a, ⟨hQ.blk.grown hg h1, hQ.own.kept hg h2, hQ.base⟩, rfl, hh, hp⟩

theorem own_own_ne {w : World} {B B' e e' size size' n n' : Nat} {v v' : Value} {xs xs' : List Value} (h : w.ownsRow B e size v n xs) (h' : w.ownsRow B' e' size' v' n' xs') (hne : e ≠ e') : v.ownBlock = none ∨ v.ownBlock ≠ v'.ownBlock := by
  rcases h.2 with ⟨rfl, _⟩ | ⟨g, cap, cur, rfl, _, hh, _⟩
  · exact .inl rfl
  · right
    rcases h'.2 with ⟨rfl, _⟩ | ⟨g', cap', cur', rfl, _, hh', _⟩
    · simp [Value.ownBlock]
    · rw [ownBlock_some, ownBlock_some]
      intro e
      injection e with e
      subst e
      rw [hh] at hh'
      injection hh' with hh'
      injection hh' with _ ht
      exact hne ht

/-- A row of numbers stays, whatever is done with a queue. -/
theorem IsQ.row {w w' : World} {B q e size n : Nat} {r : Option Nat} {l : List Pt} {v : Value} {xs : List Value} (h : IsQ w B q r l) (hm : Moved w w' q r) (hv : w.ownsRow B e size v n xs) (h1 : 81 ≠ e) (h2 : e ≠ 74) : w'.ownsRow B e size v n xs := by
  obtain ⟨hs, v2, a, hQ, rfl, hh, hp⟩ := h
  refine ⟨hv.1, ?_⟩
  have h3 := own_own_ne hv hQ.own (Ne.symm h1)
  have h4 := own_blk_ne hv hQ.blk h2
  rcases hv.2 with hn | ⟨g, cap, cur, rfl, hb, hg, rest⟩
  · exact .inl hn
  · rw [ownBlock_some] at h3 h4
    refine .inr ⟨g, cap, cur, rfl, hb, ?_, rest⟩
    rw [hm.block g (Array.getElem?_eq_some_iff.1 hg).1 (by intro e; subst e; exact h4 rfl) (by rcases h3 with h3 | h3; exact absurd h3 (by simp); exact h3)]
    exact hg

/-- And a queue stays, where a row of numbers has grown. -/
theorem IsQ.apart {w : World} {B B' q e size n : Nat} {r : Option Nat} {l : List Pt} {v : Value} {xs : List Value} (h : IsQ w B q r l) (hv : w.ownsRow B' e size v n xs) (h1 : 81 ≠ e) (h2 : e ≠ 74) : some q ≠ v.ownBlock ∧ (r = none ∨ r ≠ v.ownBlock) := by
  obtain ⟨hs, v2, a, hQ, rfl, hh, hp⟩ := h
  exact ⟨own_blk_ne hv hQ.blk h2, own_own_ne hQ.own hv h1⟩

theorem IsQ.toBelow {w w' : World} {B q : Nat} {r : Option Nat} {l : List Pt} (h : IsQ w B q r l) (hm : Moved w w' q r) : Below B w w' := by
  obtain ⟨hb, hq, hr⟩ := h.base
  exact hm.toBelow (by omega) hb (fun k hk => (hr k hk).1)

theorem info_int : (Try.prog.info? 3).map (fun i => (i.zero, i.size, i.bytes)) = some (some (.int .i64 0), 1, 8) := by kernel_rfl

def nums (l : List Pt) : List Value := l.map fun p => .int .i64 p.2

def Ordered (e : Ending) (w w' : World) (n : Nat) (f : Nat → Int) : Prop := ∃ A c, e = .returned (.slice A n c) ∧ w'.ownsRow w.heap.size 3 1 (.slice A n c) n (nums (ord f n)) ∧ Below w.heap.size w w'

/-- Where the second loop stands: done is told, l is left. -/
structure Telling (w wr : World) (B q n : Nat) (f : Nat → Int) (v : Value) (done l : List Pt) (r : Option Nat) : Prop where
  all : ord f n = done ++ l
  que : IsQ wr B q r l
  own : wr.ownsRow B 3 1 v done.length (nums done)
  below : Below B w wr

theorem Telling.step {w wr w1 w2 : World} {B q n g cap : Nat} {f : Nat → Int} {v : Value} {done l : List Pt} {x : Pt} {r : Option Nat} {o : Obj} (h : Telling w wr B q n f v done (x :: l) r) (hq : IsQ w1 B q r l) (hm : Moved wr w1 q r)
    (hown : w2.ownsRow B 3 1 (.slice (some ⟨g, 0, none⟩) (done.length + 1) cap) (done.length + 1) (nums done ++ [.int .i64 x.2])) (hgrow : (w1.alloc o).grownBy w2 v.ownBlock) : Telling w w2 B q n f (.slice (some ⟨g, 0, none⟩) (done.length + 1) cap) (done ++ [x]) l r := by
  have hv1 := h.que.row hm h.own (by omega) (by omega)
  obtain ⟨a1, a2⟩ := hq.apart hv1 (by omega) (by omega)
  have hB := h.que.base
  have hq1 : IsQ (w1.alloc o) B q r l := hq.below ((Below.refl _ _).alloc (Nat.le_refl _) _)
  refine ⟨by rw [h.all]; simp, hq1.grown hgrow a1 a2, ?_, ?_⟩
  · have e : nums (done ++ [x]) = nums done ++ [.int .i64 x.2] := by simp [nums]
    have e2 : (done ++ [x]).length = done.length + 1 := by simp
    rw [e, e2]; exact hown
  · refine ((h.below.trans (h.que.toBelow hm)).alloc ?_ o).grown hgrow ?_ ?_
    · have := hm.size; omega
    · have := hm.size; simp; omega
    · intro k hk; exact (hv1.lt k hk).1

end Go.Proofs.Ytmnbamfemcgloaa.Qu
