/- Structs of package api as kinds of things: api.Line, api.Unit. -/
import Derived.Test.YtdmpnkhgcggepaaKa
set_option maxRecDepth 100000

set_option linter.unusedVariables false
namespace Go.Proofs.Ytdmpnkhgcggepaa.Ap
open Go.ChangeShapes Go.WideShapes Go.ChangeAt Go.RowKit
open Kd (Kind Row Own Cells Reads Fields Fit Agree kInt kStr kFlag kPair kVia kList Sl Lst)

structure Lin where
  sku : ByteArray
  qty : Int
  price : Int

instance : Inhabited Lin := ⟨⟨⟨#[]⟩, 0, 0⟩⟩

/-- Its cells. -/
def Lin.enc (x : Lin) : List Value := [.string x.sku, .int .i64 x.qty, .int .i64 x.price]

/-- Its numbers and texts are no greater than Go's. -/
structure Lin.ok (x : Lin) : Prop where
  sku : x.sku.size ≤ maxLen
  qty : -9223372036854775808 ≤ x.qty ∧ x.qty ≤ 9223372036854775807
  price : -9223372036854775808 ≤ x.price ∧ x.price ≤ 9223372036854775807

def kLin : Kind Lin := kVia (kPair kStr (kPair kInt kInt)) fun x => (x.sku, x.qty, x.price)

theorem size_Lin : kLin.size = 3 := rfl

theorem Lin_rep {w : World} {F : Nat → Prop} {x : Lin} {cs : List Value} : kLin.rep w F x cs ↔ cs = x.enc ∧ x.ok := by
  constructor
  · rintro ⟨_, _, rfl, ⟨rfl, hsku⟩, ⟨_, _, rfl, ⟨rfl, hqty⟩, ⟨rfl, hprice⟩⟩⟩
    exact ⟨rfl, ⟨hsku, hqty, hprice⟩⟩
  · rintro ⟨rfl, h⟩
    exact ⟨_, _, rfl, ⟨rfl, h.sku⟩, ⟨_, _, rfl, ⟨rfl, h.qty⟩, ⟨rfl, h.price⟩⟩⟩

theorem reads_Lin : Reads Try.prog kLin 28 :=
  Reads.via (fun y => ⟨y.1, y.2.1, y.2.2⟩) (fun _ => rfl) (Reads.struct Try.underlying28 (by kernel_rfl) (Fields.cons (by kernel_rfl) (Reads.str Try.underlying9 (by kernel_rfl)) (Fields.cons (by kernel_rfl) (Reads.int Try.underlying3 (by kernel_rfl)) (Fields.last (by kernel_rfl) (Reads.int Try.underlying2 (by kernel_rfl))))))

theorem row_Lin {w : World} {F : Nat → Prop} {A : Option Addr} {n k : Nat} {xs : List Lin} {x : Lin} (h : Row kLin w F A n xs) (hk : xs[k]? = some x) : ∃ g o, A = some ⟨g, o, none⟩ ∧ F g ∧ g < w.heap.size ∧ x.ok ∧ w.cell? ⟨g, o + k * 3, none⟩ = some (.string x.sku) ∧ w.cell? ⟨g, o + k * 3 + 1, none⟩ = some (.int .i64 x.qty) ∧ w.cell? ⟨g, o + k * 3 + 2, none⟩ = some (.int .i64 x.price) := by
  obtain ⟨g, o, cs, hA, hF, hl, hr, hc⟩ := h.each k x hk
  obtain ⟨rfl, hok⟩ := Lin_rep.1 hr
  exact ⟨g, o, hA, hF, hl, hok, hc 0 _ rfl, hc 1 _ rfl, hc 2 _ rfl⟩

structure Unt where
  line : Int
  net : Int
  opn : Bool

instance : Inhabited Unt := ⟨⟨0, 0, false⟩⟩

/-- Its cells. -/
def Unt.enc (x : Unt) : List Value := [.int .i64 x.line, .int .i64 x.net, .bool x.opn]

/-- Its numbers and texts are no greater than Go's. -/
structure Unt.ok (x : Unt) : Prop where
  line : -9223372036854775808 ≤ x.line ∧ x.line ≤ 9223372036854775807
  net : -9223372036854775808 ≤ x.net ∧ x.net ≤ 9223372036854775807

def kUnt : Kind Unt := kVia (kPair kInt (kPair kInt kFlag)) fun x => (x.line, x.net, x.opn)

theorem size_Unt : kUnt.size = 3 := rfl

theorem Unt_rep {w : World} {F : Nat → Prop} {x : Unt} {cs : List Value} : kUnt.rep w F x cs ↔ cs = x.enc ∧ x.ok := by
  constructor
  · rintro ⟨_, _, rfl, ⟨rfl, hline⟩, ⟨_, _, rfl, ⟨rfl, hnet⟩, rfl⟩⟩
    exact ⟨rfl, ⟨hline, hnet⟩⟩
  · rintro ⟨rfl, h⟩
    exact ⟨_, _, rfl, ⟨rfl, h.line⟩, ⟨_, _, rfl, ⟨rfl, h.net⟩, rfl⟩⟩

theorem reads_Unt : Reads Try.prog kUnt 37 :=
  Reads.via (fun y => ⟨y.1, y.2.1, y.2.2⟩) (fun _ => rfl) (Reads.struct Try.underlying37 (by kernel_rfl) (Fields.cons (by kernel_rfl) (Reads.int Try.underlying3 (by kernel_rfl)) (Fields.cons (by kernel_rfl) (Reads.int Try.underlying2 (by kernel_rfl)) (Fields.last (by kernel_rfl) (Reads.flag Try.underlying4 (by kernel_rfl))))))

theorem row_Unt {w : World} {F : Nat → Prop} {A : Option Addr} {n k : Nat} {xs : List Unt} {x : Unt} (h : Row kUnt w F A n xs) (hk : xs[k]? = some x) : ∃ g o, A = some ⟨g, o, none⟩ ∧ F g ∧ g < w.heap.size ∧ x.ok ∧ w.cell? ⟨g, o + k * 3, none⟩ = some (.int .i64 x.line) ∧ w.cell? ⟨g, o + k * 3 + 1, none⟩ = some (.int .i64 x.net) ∧ w.cell? ⟨g, o + k * 3 + 2, none⟩ = some (.bool x.opn) := by
  obtain ⟨g, o, cs, hA, hF, hl, hr, hc⟩ := h.each k x hk
  obtain ⟨rfl, hok⟩ := Unt_rep.1 hr
  exact ⟨g, o, hA, hF, hl, hok, hc 0 _ rfl, hc 1 _ rfl, hc 2 _ rfl⟩

end Go.Proofs.Ytdmpnkhgcggepaa.Ap
