/- Cuts: the landed Apply of any promotion; law 15's few and awake (made by gen-cut15.py). -/
import Derived.Deep.CutBlock
import Derived.Deep.DeepCutAuto
import Derived.Test.YtljmddjlnlmenaaPk15
import Derived.Test.YtljmddjlnlmenaaPk5
import Derived.Test.YtljmddjlnlmenaaPk8

set_option maxRecDepth 100000
set_option linter.unusedVariables false
namespace Go.Proofs.Ytljmddjlnlmenaa.Ct
open Go.ChangeShapes Go.WideShapes Go.ChangeAt Go.RowKit
open Ap (Unt Tir Prm Prt kUnt kTir kPrt row_Unt row_Tir row_Prt)
open Kd (Kind Row kInt row_int)
open Ko (Out Told Told2 At row_on)
theorem parts_small {w : World} {F : Nat → Prop} {p : Prm} {l : Prm.Lay} (h : Ap.Prm.Holds w F p l) : Pr.PartsSmall p.parts := fun k q hq => by
  obtain ⟨g, o, y, _, _, _, hh, _⟩ := row_Prt h.parts.row hq
  have h1 := hh.scope.skus.row.len
  have h2 := hh.scope.cats.row.len
  have h3 := hh.scope.skus.fit.2
  have h4 := hh.scope.cats.fit.2
  omega
theorem small_of {w : World} {F : Nat → Prop} {p : Prm} {l : Prm.Lay} (h : Ap.Prm.Holds w F p l) (h1 : p.scope.skus.length ≤ 40) (h2 : p.scope.cats.length ≤ 40) (h3 : p.parts.length ≤ 20) (h4 : p.tiers.length ≤ 20) : Pr.PrmSmall p l :=
  Pm.Slight.small (w := w) (F := F) ⟨by omega, by omega, parts_small h, by omega, by omega⟩ h
/-! ### few -/
/-! ### awake -/
theorem two_ints {W : World} {b : Nat} (h : Qu.Blk W b 3 #[.int .i64 0, .int .i64 1]) : Row kInt W (· < W.heap.size) (some ⟨b, 0, none⟩) 2 [0, 1] :=
  Kd.Own.read (B := b) (E := 3) (c := 2) (Kd.own_blk (cs := [.int .i64 0, .int .i64 1]) h (Nat.le_refl _) rfl ⟨[.int .i64 0], _, rfl, ⟨rfl, by decide⟩, [.int .i64 1], _, rfl, ⟨rfl, by decide⟩, rfl⟩ (Nat.le_refl _) (by decide) rfl rfl)
theorem one_int {W : World} {b : Nat} {x : Int} (hx : -9223372036854775808 ≤ x ∧ x ≤ 9223372036854775807) (h : Qu.Blk W b 3 #[.int .i64 x]) : Row kInt W (· < W.heap.size) (some ⟨b, 0, none⟩) 1 [x] :=
  Kd.Own.read (B := b) (E := 3) (c := 1) (Kd.own_blk (cs := [.int .i64 x]) h (Nat.le_refl _) rfl ⟨[.int .i64 x], _, rfl, ⟨rfl, hx⟩, rfl⟩ (Nat.le_refl _) (by decide) rfl rfl)
theorem nil_lst {α : Type} {K : Kd.Kind α} {W : World} {F : Nat → Prop} : Kd.Lst K W F ⟨none, 0, 0⟩ [] := ⟨Row.nil _ _ _ _, ⟨fun _ => ⟨rfl, rfl⟩, Nat.le_refl _, (by decide)⟩⟩
end Go.Proofs.Ytljmddjlnlmenaa.Ct
