/- Items: how one lies in memory; rows of them. -/
import Derived.Test.YtkpekdcglbaadaaSrA
set_option maxRecDepth 100000

set_option linter.unusedVariables false
namespace Go.Proofs.Ytkpekdcglbaadaa.It
open Go.ChangeShapes Go.WideShapes Go.ChangeAt Go.RowKit
open Kd (Kind Row Own Cells Reads Fields Fit Agree kInt kStr kFlag kPair kVia)

structure Itm where
  sku : ByteArray
  cat : ByteArray
  price : Int
  fin : Bool

instance : Inhabited Itm := ⟨⟨⟨#[]⟩, ⟨#[]⟩, 0, false⟩⟩

def Itm.enc (x : Itm) : List Value := [.string x.sku, .string x.cat, .int .i64 x.price, .bool x.fin]

/-- Its numbers and texts are no greater than Go's. -/
structure Itm.ok (x : Itm) : Prop where
  sku : x.sku.size ≤ maxLen
  cat : x.cat.size ≤ maxLen
  low : -9223372036854775808 ≤ x.price
  top : x.price ≤ 9223372036854775807

def kItem : Kind Itm := kVia (kPair kStr (kPair kStr (kPair kInt kFlag))) fun x => (x.sku, x.cat, x.price, x.fin)

theorem size_item : kItem.size = 4 := rfl

theorem item_rep {w : World} {F : Nat → Prop} {x : Itm} {cs : List Value} : kItem.rep w F x cs ↔ cs = x.enc ∧ x.ok := by
  constructor
  · rintro ⟨_, _, rfl, ⟨rfl, h1⟩, _, _, rfl, ⟨rfl, h2⟩, _, _, rfl, ⟨rfl, h3, h4⟩, rfl⟩
    exact ⟨rfl, h1, h2, h3, h4⟩
  · rintro ⟨rfl, h1, h2, h3, h4⟩
    exact ⟨_, _, rfl, ⟨rfl, h1⟩, _, _, rfl, ⟨rfl, h2⟩, _, _, rfl, ⟨rfl, h3, h4⟩, rfl⟩

theorem reads_item : Reads Try.prog kItem 33 :=
  Reads.via (fun y => ⟨y.1, y.2.1, y.2.2.1, y.2.2.2⟩) (fun _ => rfl)
    (Reads.struct Try.underlying33 (by kernel_rfl)
      (Fields.cons (by kernel_rfl) (Reads.str Try.underlying9 (by kernel_rfl))
        (Fields.cons (by kernel_rfl) (Reads.str Try.underlying9 (by kernel_rfl))
          (Fields.cons (by kernel_rfl) (Reads.int Try.underlying2 (by kernel_rfl))
            (Fields.last (by kernel_rfl) (Reads.flag Try.underlying4 (by kernel_rfl)))))))

section
variable {w w' : World} {F : Nat → Prop} {A : Option Addr} {n c k : Nat} {xs : List Itm} {x : Itm}
/-- The four cells of the k-th. -/
theorem row_item (h : Row kItem w F A n xs) (hk : xs[k]? = some x) : ∃ g o, A = some ⟨g, o, none⟩ ∧ F g ∧ g < w.heap.size ∧ x.ok ∧ w.cell? ⟨g, o + k * 4, none⟩ = some (.string x.sku) ∧ w.cell? ⟨g, o + k * 4 + 1, none⟩ = some (.string x.cat) ∧ w.cell? ⟨g, o + k * 4 + 2, none⟩ = some (.int .i64 x.price) ∧ w.cell? ⟨g, o + k * 4 + 3, none⟩ = some (.bool x.fin) := by
  obtain ⟨g, o, cs, hA, hF, hl, hr, hc⟩ := h.each k x hk
  obtain ⟨rfl, hok⟩ := item_rep.1 hr
  exact ⟨g, o, hA, hF, hl, hok, hc 0 _ rfl, hc 1 _ rfl, hc 2 _ rfl, hc 3 _ rfl⟩

theorem row_ok (h : Row kItem w F A n xs) (hk : xs[k]? = some x) : x.ok := by
  obtain ⟨_, _, _, _, _, hok, _⟩ := row_item h hk
  exact hok
end

end Go.Proofs.Ytkpekdcglbaadaa.It
