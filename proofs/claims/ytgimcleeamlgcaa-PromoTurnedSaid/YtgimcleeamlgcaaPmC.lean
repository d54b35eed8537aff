/- The landed test by which promotions are sorted; the order that it makes. -/
import Derived.Test.YtgimcleeamlgcaaSb
import Derived.Test.YtgimcleeamlgcaaPrO
import Derived.Test.YtgimcleeamlgcaaGdC
set_option maxRecDepth 100000

set_option linter.unusedVariables false
namespace Go.Proofs.Ytgimcleeamlgcaa.Pm
open Go.ChangeShapes Go.WideShapes Go.ChangeAt Go.RowKit
open Ap (Scp Prt Tir Prm kPrm row_Prm)
open Kd (Row)
open Mv (Only)
open Pr (nth bef)

/-- How one promotion's Id stands to another one's, by their places. -/
def cz (l : List Prm) (i k : Nat) : Int := Gd.cmp (nth l i).id (nth l k).id

theorem less_cz (l : List Prm) (i k : Nat) : St.less (cz l) i k = Sr.lt (nth l i).id (nth l k).id := by
  unfold St.less cz Gd.cmp
  cases h : Sr.lt (nth l i).id (nth l k).id with
  | true => rfl
  | false => cases h2 : Sr.same (nth l i).id (nth l k).id <;> rfl

/-- The lesser Id first, of one Id the lesser place. -/
def R (l : List Prm) (i k : Nat) : Prop := Sr.lt (nth l i).id (nth l k).id = true ∨ ((nth l i).id = (nth l k).id ∧ i < k)

theorem ord (l : List Prm) : St.Ord (R l) (St.less (cz l)) where
  trans := fun {x y z} h1 h2 => by
    rcases h1 with h1 | ⟨h1, h3⟩
    · rcases h2 with h2 | ⟨h2, h4⟩
      · exact .inl (Sr.lt_trans h1 h2)
      · exact .inl (by rw [← h2]; exact h1)
    · rcases h2 with h2 | ⟨h2, h4⟩
      · exact .inl (by rw [h1]; exact h2)
      · exact .inr ⟨h1.trans h2, by omega⟩
  no := fun {x y} h1 h2 => by
    rw [less_cz] at h2
    rcases Sr.lt_total (nth l x).id (nth l y).id with h | h | h
    · exact .inl h
    · exact .inr ⟨h, h1⟩
    · rw [h] at h2; cases h2
  yes := fun {x y} h1 h2 => by
    rw [less_cz] at h2
    exact .inl h2

set_option maxHeartbeats 1000000 in
theorem test_any (xs : List Prm) (A : Option Addr) (n c bx i k : Nat) (F : Nat → Prop) (w : World) (h : Row kPrm w F A n xs) (hb : w.cell? ⟨bx, 0, none⟩ = some (.slice A n c)) (hi : i < n) (hk : k < n) :
    Calls Try.prog 46 #[.int .i64 i, .int .i64 k, .pointer (some ⟨bx, 0, none⟩)] w fun e w' => e = .returned (.int .i64 (cz xs i k)) ∧ ∃ d, w' = w.drewN d := by
  obtain ⟨p, hp⟩ := h.get hi
  obtain ⟨q, hq⟩ := h.get hk
  obtain ⟨g, o, l, rfl, _, _, _, c0, _⟩ := row_Prm h hp
  obtain ⟨g', o', l', he, _, _, _, d0, _⟩ := row_Prm h hq
  injection he with he
  injection he with he1 he2 _
  subst he1 he2
  have HZ : Hid (cz xs i k = Gd.cmp p.id q.id) := Lib.hid (by unfold cz; rw [Pr.nth_at hp, Pr.nth_at hq])
  have HC := Lib.hid (fun W => Gd.compare_any p.id q.id W)
  have i0 : (0 : Int) ≤ (i : Int) := by omega
  have i1 : (i : Int) < (n : Int) := by omega
  have k0 : (0 : Int) ≤ (k : Int) := by omega
  have k1 : (k : Int) < (n : Int) := by omega
  clear h hp hq
  go_enter Try.func46, Try.ntmps46
  go_wp2_with fail
  go_quiet ((go_at_call 47; exact Calls.quiet_of_same (HC.out _)))
  go_wp2
  go_ret
  exact ⟨by rw [HZ.out]; rfl, _, rfl⟩

/-- In every world in which the row that is sorted alone has turned. -/
theorem asks (xs : List Prm) (A : Option Addr) (n c bx g : Nat) (F : Nat → Prop) (w : World) (h : Row kPrm w F A n xs) (hF : ∀ b, F b → b < w.heap.size ∧ b ≠ g) (hb : w.cell? ⟨bx, 0, none⟩ = some (.slice A n c)) (hbg : bx ≠ g) (hbl : bx < w.heap.size) : St.Asks w g bx n (cz xs) := fun W i k hW hi hk => by
  have h2 : Row kPrm W F A n xs := h.stay fun b hb2 => hW.block b (hF b hb2).1 (hF b hb2).2
  exact test_any xs A n c bx i k F W h2 ((hW.cell hbl (fun e => hbg e)).trans hb) hi hk

end Go.Proofs.Ytgimcleeamlgcaa.Pm
