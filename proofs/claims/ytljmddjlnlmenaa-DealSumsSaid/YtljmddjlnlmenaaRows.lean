/-
  No cell of these rows narrows 'for every input' (looked for: loops, veiled, ifaces, maps, wideKeys, modest, calm, conditions, laid).
  DERIVED. THE GIVEN ROWS OF THIS SEAT. 3 by the template 'for every input the law returns true; each argument reads behind the call as it read before'; 0 by the template 'total and deterministic' (their statements: YtljmddjlnlmenaaTotals.lean).
  GIVEN WITH THE SEED: the statements are not yours to turn. If you find one false, say at which input.
  Laid BY PROGRAM, IN A SANDBOX (cutbox-rows.mjs): the forced cells as the released guide's own fill.sh prints them over the translation c3310fcf6be31105… (all of the seat's roots in one cut). By AI agents, Wed Nov 11 2026. No macro, syntax, notation, axiom, sorry.
-/
import Derived.Test.YtljmddjlnlmenaaChecked
import GoSem.Claim
import GoSem.ClaimJoined
import GoSem.ClaimMapViews
import Derived.JoinedTies
import Derived.KernelRfl
namespace Go.Proofs.Ytljmddjlnlmenaa
/- THE CELL 'sum', in the pinned program and in every row, IS THE sha256 OF THE DUMP (.gsa) THAT YtljmddjlnlmenaaProg.lean LOADS. Nothing in Lean hashes anything: it is a label: what it is worth is what the hold of that sum in a sandbox is worth. -/
noncomputable def Try.pinned : Pinned := { name := "ytljmddjlnlmenaa", sum := "c3310fcf6be311054ae0de6d0c39e07fb44a3f2a632328b3d7c02d4d8da54835", checked := Try.checked }
namespace Rows
def none {H : Type} : Left H := { results := [], args := [] }

/-- 'haberdashlaw16.DealFree': WHATEVER THE INPUT: true; the input reads as it did. -/
def dealFreeSpec : ChangeSpec := { name := "dealFree", fn := fun _ => fun
  | [d1, d2, d3, d4, d5] => { results := [.lit (.bool true)], args := [d1, d2, d3, d4, d5] }
  | _ => none }
def dealFreeRow : OpenClaim := { program := "ytljmddjlnlmenaa", sum := "c3310fcf6be311054ae0de6d0c39e07fb44a3f2a632328b3d7c02d4d8da54835", func := "haberdash/haberdashlaw16.DealFree", spec := "dealFree", unfollowed := true, recurses := true, named := ["math/bits.divideError", "math/bits.overflowError"], apart := false }
def DealFreeSaid : Prop := dealFreeRow.holds Try.pinned (OpenSpec.ofChange dealFreeSpec)

/-- ITS FALSE NEIGHBOUR: 'it returns false'. Refute it at one input. -/
def dealFreeWrong : ChangeSpec := { name := "dealFree", fn := fun _ => fun
  | [d1, d2, d3, d4, d5] => { results := [.lit (.bool false)], args := [d1, d2, d3, d4, d5] }
  | _ => none }
def DealFreeWrongFalsely : Prop := dealFreeRow.holds Try.pinned (OpenSpec.ofChange dealFreeWrong)

/-- 'haberdashlaw16.DealRows': WHATEVER THE INPUT: true; the input reads as it did. -/
def dealRowsSpec : ChangeSpec := { name := "dealRows", fn := fun _ => fun
  | [d1, d2, d3] => { results := [.lit (.bool true)], args := [d1, d2, d3] }
  | _ => none }
def dealRowsRow : OpenClaim := { program := "ytljmddjlnlmenaa", sum := "c3310fcf6be311054ae0de6d0c39e07fb44a3f2a632328b3d7c02d4d8da54835", func := "haberdash/haberdashlaw16.DealRows", spec := "dealRows", unfollowed := true, recurses := true, named := ["math/bits.divideError", "math/bits.overflowError"], apart := false }
def DealRowsSaid : Prop := dealRowsRow.holds Try.pinned (OpenSpec.ofChange dealRowsSpec)

/-- ITS FALSE NEIGHBOUR: 'it returns false'. Refute it at one input. -/
def dealRowsWrong : ChangeSpec := { name := "dealRows", fn := fun _ => fun
  | [d1, d2, d3] => { results := [.lit (.bool false)], args := [d1, d2, d3] }
  | _ => none }
def DealRowsWrongFalsely : Prop := dealRowsRow.holds Try.pinned (OpenSpec.ofChange dealRowsWrong)

/-- 'haberdashlaw16.DealSums': WHATEVER THE INPUT: true; the input reads as it did. -/
def dealSumsSpec : ChangeSpec := { name := "dealSums", fn := fun _ => fun
  | [d1, d2, d3, d4] => { results := [.lit (.bool true)], args := [d1, d2, d3, d4] }
  | _ => none }
def dealSumsRow : OpenClaim := { program := "ytljmddjlnlmenaa", sum := "c3310fcf6be311054ae0de6d0c39e07fb44a3f2a632328b3d7c02d4d8da54835", func := "haberdash/haberdashlaw16.DealSums", spec := "dealSums", unfollowed := true, recurses := true, named := ["math/bits.divideError", "math/bits.overflowError"], apart := false }
def DealSumsSaid : Prop := dealSumsRow.holds Try.pinned (OpenSpec.ofChange dealSumsSpec)

/-- ITS FALSE NEIGHBOUR: 'it returns false'. Refute it at one input. -/
def dealSumsWrong : ChangeSpec := { name := "dealSums", fn := fun _ => fun
  | [d1, d2, d3, d4] => { results := [.lit (.bool false)], args := [d1, d2, d3, d4] }
  | _ => none }
def DealSumsWrongFalsely : Prop := dealSumsRow.holds Try.pinned (OpenSpec.ofChange dealSumsWrong)

/- THE SECOND FORM. 'bulk': how many values and letters a reading holds, each counted each time it is reached (what is shared counts as often as it is met; a slice's spare places count too). A statement '..UptoSaid' is the law's where the arguments, and the package variables that the reading takes, are together of bulk at most 1048576: NARROWER than '..Said'. Prove '..Said' where nothing that the law and all that it calls make is longer than what came in: it says more and counts as full. Else prove '..UptoSaid'. A law counts once. -/
mutual
def uptoBulk {H : Type} : DataW H → Nat
  | .lit (.string bytes) => bytes.length + 1
  | .lit _ => 1
  | .nil => 1
  | .ptr d => uptoBulk d + 1
  | .slice elems spare => uptoBulkAll elems + uptoBulkAll spare + 1
  | .agg parts => uptoBulkAll parts + 1
  | .iface _ d => uptoBulk d + 1
  | .map entries => uptoBulkEntries entries + 1
  | .held _ => 1
def uptoBulkAll {H : Type} : List (DataW H) → Nat
  | [] => 0
  | d :: r => uptoBulk d + uptoBulkAll r
def uptoBulkEntries {H : Type} : List (Lit × DataW H) → Nat
  | [] => 0
  | x :: r => uptoBulkEntry x + uptoBulkEntries r
def uptoBulkEntry {H : Type} : Lit × DataW H → Nat
  | (.string bytes, d) => bytes.length + uptoBulk d + 1
  | (_, d) => uptoBulk d + 1
 end
def uptoSmall : (H : Type) → List (DataW H) → Bool := fun _ ds => decide (uptoBulkAll ds ≤ 1048576)
def OpenSpec.upto (s : _root_.Go.ChangeSpec) : _root_.Go.OpenSpec := { _root_.Go.OpenSpec.ofChange s with cond := some uptoSmall }

/-- 'haberdashlaw16.DealFree', WHERE WHAT IT READS IS OF BULK AT MOST 1048576: true; the input reads as it did. -/
def dealFreeUptoRow : OpenClaim := { program := "ytljmddjlnlmenaa", sum := "c3310fcf6be311054ae0de6d0c39e07fb44a3f2a632328b3d7c02d4d8da54835", func := "haberdash/haberdashlaw16.DealFree", spec := "dealFree", unfollowed := true, recurses := true, named := ["math/bits.divideError", "math/bits.overflowError"], apart := false, narrowed := true }
def DealFreeUptoSaid : Prop := dealFreeUptoRow.holds Try.pinned (OpenSpec.upto dealFreeSpec)

/-- 'haberdashlaw16.DealRows', WHERE WHAT IT READS IS OF BULK AT MOST 1048576: true; the input reads as it did. -/
def dealRowsUptoRow : OpenClaim := { program := "ytljmddjlnlmenaa", sum := "c3310fcf6be311054ae0de6d0c39e07fb44a3f2a632328b3d7c02d4d8da54835", func := "haberdash/haberdashlaw16.DealRows", spec := "dealRows", unfollowed := true, recurses := true, named := ["math/bits.divideError", "math/bits.overflowError"], apart := false, narrowed := true }
def DealRowsUptoSaid : Prop := dealRowsUptoRow.holds Try.pinned (OpenSpec.upto dealRowsSpec)

/-- 'haberdashlaw16.DealSums', WHERE WHAT IT READS IS OF BULK AT MOST 1048576: true; the input reads as it did. -/
def dealSumsUptoRow : OpenClaim := { program := "ytljmddjlnlmenaa", sum := "c3310fcf6be311054ae0de6d0c39e07fb44a3f2a632328b3d7c02d4d8da54835", func := "haberdash/haberdashlaw16.DealSums", spec := "dealSums", unfollowed := true, recurses := true, named := ["math/bits.divideError", "math/bits.overflowError"], apart := false, narrowed := true }
def DealSumsUptoSaid : Prop := dealSumsUptoRow.holds Try.pinned (OpenSpec.upto dealSumsSpec)

end Rows
end Go.Proofs.Ytljmddjlnlmenaa
