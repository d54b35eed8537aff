/- Structs of package api as kinds of things: api.Scope. -/
import Derived.Test.YtkpekdcglbaadaaKdA
import Derived.Test.YtkpekdcglbaadaaSrA
set_option maxRecDepth 100000

set_option linter.unusedVariables false
namespace Go.Proofs.Ytkpekdcglbaadaa.Ap
open Go.ChangeShapes Go.WideShapes Go.ChangeAt Go.RowKit
open Kd (Kind Row Own Cells Reads Fields Fit Agree kInt kStr kFlag kPair kVia kList Sl Lst)

structure Scp where
  skus : List ByteArray
  cats : List ByteArray

instance : Inhabited Scp := ⟨⟨[], []⟩⟩

/-- Where its lists lie. -/
structure Scp.Lay where
  skus : Sl
  cats : Sl

/-- Its cells. -/
def Scp.enc (x : Scp) (l : Scp.Lay) : List Value := [.slice l.skus.A l.skus.n l.skus.c, .slice l.cats.A l.cats.n l.cats.c]

/-- What holds of it. -/
structure Scp.Holds (w : World) (F : Nat → Prop) (x : Scp) (l : Scp.Lay) : Prop where
  skus : Lst kStr w F l.skus x.skus
  cats : Lst kStr w F l.cats x.cats

def kScp : Kind Scp := kVia (kPair (kList kStr) (kList kStr)) fun x => (x.skus, x.cats)

theorem size_Scp : kScp.size = 2 := rfl

theorem Scp_rep {w : World} {F : Nat → Prop} {x : Scp} {cs : List Value} : kScp.rep w F x cs ↔ ∃ l : Scp.Lay, cs = x.enc l ∧ Scp.Holds w F x l := by
  constructor
  · rintro ⟨_, _, rfl, ⟨Askus, nskus, cskus, rfl, rskus, tskus⟩, ⟨Acats, ncats, ccats, rfl, rcats, tcats⟩⟩
    exact ⟨⟨⟨Askus, nskus, cskus⟩, ⟨Acats, ncats, ccats⟩⟩, rfl, ⟨⟨rskus, tskus⟩, ⟨rcats, tcats⟩⟩⟩
  · rintro ⟨l, rfl, h⟩
    exact ⟨_, _, rfl, ⟨_, _, _, rfl, h.skus.row, h.skus.fit⟩, ⟨_, _, _, rfl, h.cats.row, h.cats.fit⟩⟩

theorem reads_Scp : Reads Try.prog kScp 24 :=
  Reads.via (fun y => ⟨y.1, y.2⟩) (fun _ => rfl) (Reads.struct Try.underlying24 (by kernel_rfl) (Fields.cons (by kernel_rfl) (Reads.list Try.underlying22 (by kernel_rfl) (Reads.str Try.underlying9 (by kernel_rfl)) (by decide)) (Fields.last (by kernel_rfl) (Reads.list Try.underlying22 (by kernel_rfl) (Reads.str Try.underlying9 (by kernel_rfl)) (by decide)))))

theorem row_Scp {w : World} {F : Nat → Prop} {A : Option Addr} {n k : Nat} {xs : List Scp} {x : Scp} (h : Row kScp w F A n xs) (hk : xs[k]? = some x) : ∃ g o, ∃ l : Scp.Lay, A = some ⟨g, o, none⟩ ∧ F g ∧ g < w.heap.size ∧ Scp.Holds w F x l ∧ w.cell? ⟨g, o + k * 2, none⟩ = some (.slice l.skus.A l.skus.n l.skus.c) ∧ w.cell? ⟨g, o + k * 2 + 1, none⟩ = some (.slice l.cats.A l.cats.n l.cats.c) := by
  obtain ⟨g, o, cs, hA, hF, hl, hr, hc⟩ := h.each k x hk
  obtain ⟨l, rfl, hok⟩ := Scp_rep.1 hr
  exact ⟨g, o, l, hA, hF, hl, hok, hc 0 _ rfl, hc 1 _ rfl⟩

end Go.Proofs.Ytkpekdcglbaadaa.Ap
