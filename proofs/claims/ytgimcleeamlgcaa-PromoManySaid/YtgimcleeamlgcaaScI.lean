/- The document's Index. -/
import Derived.Test.YtgimcleeamlgcaaScR
set_option maxRecDepth 100000

set_option linter.unusedVariables false
namespace Go.Proofs.Ytgimcleeamlgcaa.Sc
open Go.ChangeShapes Go.WideShapes Go.ChangeAt Go.RowKit
open It (Itm kItem row_item)
open Ap (Scp kScp row_Scp)
open Kd (Row Fit Lst Sl kStr kInt kList row_str Deep But Own)

/-- Scopes whose lists are small enough to be walked. -/
def Smalls (ss : List Scp) : Prop := ∀ (k : Nat) (s : Scp), ss[k]? = some s → s.skus.length ≤ 1000000000000 ∧ s.cats.length ≤ 1000000000000

theorem holds_small {w : World} {F : Nat → Prop} {s : Scp} {l : Scp.Lay} (h : Scp.Holds w F s l) (hs : s.skus.length ≤ 1000000000000 ∧ s.cats.length ≤ 1000000000000) : Small l := by
  have h1 := h.skus.row.len
  have h2 := h.cats.row.len
  exact ⟨by omega, by omega⟩

theorem holds_below {w w' : World} {B M : Nat} {s : Scp} {l : Scp.Lay} (h : Scp.Holds w (· < M) s l) (hb : Below B w w') (hM : M ≤ B) : Scp.Holds w' (· < M) s l := ⟨h.skus.below hb hM, h.cats.below hb hM⟩

theorem holds_more {w : World} {F G : Nat → Prop} {s : Scp} {l : Scp.Lay} (h : Scp.Holds w F s l) (f : ∀ b, F b → G b) : Scp.Holds w G s l := ⟨h.skus.more f, h.cats.more f⟩

/-- A row of numbers of the call's own, as a thing within another row. -/
theorem ints_rep {W : World} {v : Value} {B n c : Nat} {A : Option Addr} {l : List Int} (h : Own kInt W B 3 (fun _ => False) (.slice A n c) n l) (hv : ∀ g, v.ownBlock = some g → g < B) : (kList kInt).rep W (But W v) l [.slice A n c] :=
  ⟨A, n, c, rfl, (h.more (G := But W v) fun _ h => h.elim).row fun g hg => ⟨(h.low g hg).2, fun e => by
    have h1 := hv g e
    have h2 := (h.low g hg).1
    omega⟩, h.fit⟩

theorem indexL_get {xs : List Itm} {ss : List Scp} {k : Nat} {x : Itm} (h : xs[k]? = some x) : (indexL xs ss)[k]? = some (idxTo ss x.sku x.cat ss.length) := by
  unfold indexL
  rw [List.getElem?_map, h]
  rfl

theorem take_more {α : Type} {l : List α} {k : Nat} {x : α} (h : l[k]? = some x) : l.take (k + 1) = l.take k ++ [x] := by
  rw [List.take_add_one, h]; rfl

end Go.Proofs.Ytgimcleeamlgcaa.Sc
