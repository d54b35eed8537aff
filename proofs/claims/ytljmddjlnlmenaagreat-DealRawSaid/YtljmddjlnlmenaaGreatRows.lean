/-
  No cell of these rows narrows 'for every input' (looked for: loops, veiled, ifaces, maps, wideKeys, modest, calm, conditions, laid).
  DERIVED. THE GIVEN ROWS OF THIS SEAT. 4 by the template 'for every input the law returns true; each argument reads behind the call as it read before'; 0 by the template 'total and deterministic' (their statements: YtljmddjlnlmenaaGreatTotals.lean).
  GIVEN WITH THE SEED: the statements are not yours to turn. If you find one false, say at which input.
  Laid BY PROGRAM, IN A SANDBOX (cutbox-rows.mjs): the forced cells as the released guide's own fill.sh prints them over the translation 8dd7965330eaa854… (all of the seat's roots in one cut). By AI agents, Wed Nov 11 2026. No macro, syntax, notation, axiom, sorry.
-/
import Derived.Test.YtljmddjlnlmenaaGreatChecked
import GoSem.Claim
import GoSem.ClaimJoined
import GoSem.ClaimMapViews
import Derived.JoinedTies
import Derived.KernelRfl
namespace Go.Proofs.YtljmddjlnlmenaaGreat
/- THE CELL 'sum', in the pinned program and in every row, IS THE sha256 OF THE DUMP (.gsa) THAT YtljmddjlnlmenaaGreatProg.lean LOADS. Nothing in Lean hashes anything: it is a label: what it is worth is what the hold of that sum in a sandbox is worth. -/
noncomputable def Tryz.pinned : Pinned := { name := "ytljmddjlnlmenaagreat", sum := "8dd7965330eaa854aa03a47be0c11f1598df4025d740d0649853c68c5df74c43", checked := Tryz.checked }
namespace Rows
def none {H : Type} : Left H := { results := [], args := [] }

/-- 'haberdashlaw16.DealRaw': WHATEVER THE INPUT: true; the input reads as it did. -/
def dealRawSpec : ChangeSpec := { name := "dealRaw", fn := fun _ => fun
  | [d1, d2, d3] => { results := [.lit (.bool true)], args := [d1, d2, d3] }
  | _ => none }
def dealRawRow : OpenClaim := { program := "ytljmddjlnlmenaagreat", sum := "8dd7965330eaa854aa03a47be0c11f1598df4025d740d0649853c68c5df74c43", func := "haberdash/haberdashlaw16.DealRaw", spec := "dealRaw", unfollowed := true, recurses := true, named := ["math/bits.divideError", "math/bits.overflowError"], apart := false }
def DealRawSaid : Prop := dealRawRow.holds Tryz.pinned (OpenSpec.ofChange dealRawSpec)

/-- ITS FALSE NEIGHBOUR: 'it returns false'. Refute it at one input. -/
def dealRawWrong : ChangeSpec := { name := "dealRaw", fn := fun _ => fun
  | [d1, d2, d3] => { results := [.lit (.bool false)], args := [d1, d2, d3] }
  | _ => none }
def DealRawWrongFalsely : Prop := dealRawRow.holds Tryz.pinned (OpenSpec.ofChange dealRawWrong)

/-- 'haberdashlaw16.DealBuyGet': WHATEVER THE INPUT: true; the input reads as it did. -/
def dealBuyGetSpec : ChangeSpec := { name := "dealBuyGet", fn := fun _ => fun
  | [d1, d2, d3] => { results := [.lit (.bool true)], args := [d1, d2, d3] }
  | _ => none }
def dealBuyGetRow : OpenClaim := { program := "ytljmddjlnlmenaagreat", sum := "8dd7965330eaa854aa03a47be0c11f1598df4025d740d0649853c68c5df74c43", func := "haberdash/haberdashlaw16.DealBuyGet", spec := "dealBuyGet", unfollowed := true, recurses := true, named := ["math/bits.divideError", "math/bits.overflowError"], apart := false }
def DealBuyGetSaid : Prop := dealBuyGetRow.holds Tryz.pinned (OpenSpec.ofChange dealBuyGetSpec)

/-- ITS FALSE NEIGHBOUR: 'it returns false'. Refute it at one input. -/
def dealBuyGetWrong : ChangeSpec := { name := "dealBuyGet", fn := fun _ => fun
  | [d1, d2, d3] => { results := [.lit (.bool false)], args := [d1, d2, d3] }
  | _ => none }
def DealBuyGetWrongFalsely : Prop := dealBuyGetRow.holds Tryz.pinned (OpenSpec.ofChange dealBuyGetWrong)

/-- 'haberdashlaw16.DealBundle': WHATEVER THE INPUT: true; the input reads as it did. -/
def dealBundleSpec : ChangeSpec := { name := "dealBundle", fn := fun _ => fun
  | [d1, d2, d3, d4] => { results := [.lit (.bool true)], args := [d1, d2, d3, d4] }
  | _ => none }
def dealBundleRow : OpenClaim := { program := "ytljmddjlnlmenaagreat", sum := "8dd7965330eaa854aa03a47be0c11f1598df4025d740d0649853c68c5df74c43", func := "haberdash/haberdashlaw16.DealBundle", spec := "dealBundle", unfollowed := true, recurses := true, named := ["math/bits.divideError", "math/bits.overflowError"], apart := false }
def DealBundleSaid : Prop := dealBundleRow.holds Tryz.pinned (OpenSpec.ofChange dealBundleSpec)

/-- ITS FALSE NEIGHBOUR: 'it returns false'. Refute it at one input. -/
def dealBundleWrong : ChangeSpec := { name := "dealBundle", fn := fun _ => fun
  | [d1, d2, d3, d4] => { results := [.lit (.bool false)], args := [d1, d2, d3, d4] }
  | _ => none }
def DealBundleWrongFalsely : Prop := dealBundleRow.holds Tryz.pinned (OpenSpec.ofChange dealBundleWrong)

/-- 'haberdashlaw16.DealKeeps': WHATEVER THE INPUT: true; the input reads as it did. -/
def dealKeepsSpec : ChangeSpec := { name := "dealKeeps", fn := fun _ => fun
  | [d1, d2, d3, d4] => { results := [.lit (.bool true)], args := [d1, d2, d3, d4] }
  | _ => none }
def dealKeepsRow : OpenClaim := { program := "ytljmddjlnlmenaagreat", sum := "8dd7965330eaa854aa03a47be0c11f1598df4025d740d0649853c68c5df74c43", func := "haberdash/haberdashlaw16.DealKeeps", spec := "dealKeeps", unfollowed := true, recurses := true, named := ["math/bits.divideError", "math/bits.overflowError"], apart := false }
def DealKeepsSaid : Prop := dealKeepsRow.holds Tryz.pinned (OpenSpec.ofChange dealKeepsSpec)

/-- ITS FALSE NEIGHBOUR: 'it returns false'. Refute it at one input. -/
def dealKeepsWrong : ChangeSpec := { name := "dealKeeps", fn := fun _ => fun
  | [d1, d2, d3, d4] => { results := [.lit (.bool false)], args := [d1, d2, d3, d4] }
  | _ => none }
def DealKeepsWrongFalsely : Prop := dealKeepsRow.holds Tryz.pinned (OpenSpec.ofChange dealKeepsWrong)

/- THE SECOND FORM. 'bulk': how many values and letters a reading holds, each counted each time it is reached (what is shared counts as often as it is met; a slice's spare places count too). A statement '..UptoSaid' is the law's where the arguments, and the package variables that the reading takes, are together of bulk at most 1048576: NARROWER than '..Said'. Prove '..Said' where nothing that the law and all that it calls make is longer than what came in: it says more and counts as full. Else prove '..UptoSaid'. A law counts once. -/
mutual
def uptoBulk {H : Type} : DataW H → Nat
  | .lit (.string bytes) => bytes.length + 1
  | .lit _ => 1
  | .nil => 1
  | .ptr d => uptoBulk d + 1
  | .slice elems spare => uptoBulkAll elems + uptoBulkAll spare + 1
  | .agg parts => uptoBulkAll parts + 1
  | .iface _ d => uptoBulk d + 1
  | .map entries => uptoBulkEntries entries + 1
  | .held _ => 1
def uptoBulkAll {H : Type} : List (DataW H) → Nat
  | [] => 0
  | d :: r => uptoBulk d + uptoBulkAll r
def uptoBulkEntries {H : Type} : List (Lit × DataW H) → Nat
  | [] => 0
  | x :: r => uptoBulkEntry x + uptoBulkEntries r
def uptoBulkEntry {H : Type} : Lit × DataW H → Nat
  | (.string bytes, d) => bytes.length + uptoBulk d + 1
  | (_, d) => uptoBulk d + 1
 end
def uptoSmall : (H : Type) → List (DataW H) → Bool := fun _ ds => decide (uptoBulkAll ds ≤ 1048576)
def OpenSpec.upto (s : _root_.Go.ChangeSpec) : _root_.Go.OpenSpec := { _root_.Go.OpenSpec.ofChange s with cond := some uptoSmall }

/-- 'haberdashlaw16.DealRaw', WHERE WHAT IT READS IS OF BULK AT MOST 1048576: true; the input reads as it did. -/
def dealRawUptoRow : OpenClaim := { program := "ytljmddjlnlmenaagreat", sum := "8dd7965330eaa854aa03a47be0c11f1598df4025d740d0649853c68c5df74c43", func := "haberdash/haberdashlaw16.DealRaw", spec := "dealRaw", unfollowed := true, recurses := true, named := ["math/bits.divideError", "math/bits.overflowError"], apart := false, narrowed := true }
def DealRawUptoSaid : Prop := dealRawUptoRow.holds Tryz.pinned (OpenSpec.upto dealRawSpec)

/-- 'haberdashlaw16.DealBuyGet', WHERE WHAT IT READS IS OF BULK AT MOST 1048576: true; the input reads as it did. -/
def dealBuyGetUptoRow : OpenClaim := { program := "ytljmddjlnlmenaagreat", sum := "8dd7965330eaa854aa03a47be0c11f1598df4025d740d0649853c68c5df74c43", func := "haberdash/haberdashlaw16.DealBuyGet", spec := "dealBuyGet", unfollowed := true, recurses := true, named := ["math/bits.divideError", "math/bits.overflowError"], apart := false, narrowed := true }
def DealBuyGetUptoSaid : Prop := dealBuyGetUptoRow.holds Tryz.pinned (OpenSpec.upto dealBuyGetSpec)

/-- 'haberdashlaw16.DealBundle', WHERE WHAT IT READS IS OF BULK AT MOST 1048576: true; the input reads as it did. -/
def dealBundleUptoRow : OpenClaim := { program := "ytljmddjlnlmenaagreat", sum := "8dd7965330eaa854aa03a47be0c11f1598df4025d740d0649853c68c5df74c43", func := "haberdash/haberdashlaw16.DealBundle", spec := "dealBundle", unfollowed := true, recurses := true, named := ["math/bits.divideError", "math/bits.overflowError"], apart := false, narrowed := true }
def DealBundleUptoSaid : Prop := dealBundleUptoRow.holds Tryz.pinned (OpenSpec.upto dealBundleSpec)

/-- 'haberdashlaw16.DealKeeps', WHERE WHAT IT READS IS OF BULK AT MOST 1048576: true; the input reads as it did. -/
def dealKeepsUptoRow : OpenClaim := { program := "ytljmddjlnlmenaagreat", sum := "8dd7965330eaa854aa03a47be0c11f1598df4025d740d0649853c68c5df74c43", func := "haberdash/haberdashlaw16.DealKeeps", spec := "dealKeeps", unfollowed := true, recurses := true, named := ["math/bits.divideError", "math/bits.overflowError"], apart := false, narrowed := true }
def DealKeepsUptoSaid : Prop := dealKeepsUptoRow.holds Tryz.pinned (OpenSpec.upto dealKeepsSpec)

end Rows
end Go.Proofs.YtljmddjlnlmenaaGreat
