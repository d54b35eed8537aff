/-
  No cell of these rows narrows 'for every input' (looked for: loops, veiled, ifaces, maps, wideKeys, modest, calm, conditions, laid).
  DERIVED. THE GIVEN ROWS OF THIS SEAT. 7 by the template 'for every input the law returns true; each argument reads behind the call as it read before'; 0 by the template 'total and deterministic' (their statements: YtmnbamfemcgloaaTotals.lean).
  GIVEN WITH THE SEED: the statements are not yours to turn. If you find one false, say at which input.
  Laid BY PROGRAM, IN A SANDBOX (cutbox-rows.mjs): the forced cells as the released guide's own fill.sh prints them over the translation 3e90ae6407f59f17… (all of the seat's roots in one cut). By AI agents, Wed Nov 11 2026. No macro, syntax, notation, axiom, sorry.
-/
import Derived.Test.YtmnbamfemcgloaaChecked
import GoSem.Claim
import GoSem.ClaimJoined
import GoSem.ClaimMapViews
import Derived.JoinedTies
import Derived.KernelRfl
namespace Go.Proofs.Ytmnbamfemcgloaa
/- THE CELL 'sum', in the pinned program and in every row, IS THE sha256 OF THE DUMP (.gsa) THAT YtmnbamfemcgloaaProg.lean LOADS. Nothing in Lean hashes anything: it is a label: what it is worth is what the hold of that sum in a sandbox is worth. -/
noncomputable def Try.pinned : Pinned := { name := "ytmnbamfemcgloaa", sum := "3e90ae6407f59f176ff28345b530a1c58656e98defd84150072eedd55e4c9b69", checked := Try.checked }
namespace Rows
def none {H : Type} : Left H := { results := [], args := [] }

/-- 'haberdashlaw03.ShareRaw': WHATEVER THE INPUT: true; the input reads as it did. -/
def shareRawSpec : ChangeSpec := { name := "shareRaw", fn := fun _ => fun
  | [d1, d2, d3, d4, d5] => { results := [.lit (.bool true)], args := [d1, d2, d3, d4, d5] }
  | _ => none }
def shareRawRow : OpenClaim := { program := "ytmnbamfemcgloaa", sum := "3e90ae6407f59f176ff28345b530a1c58656e98defd84150072eedd55e4c9b69", func := "haberdash/haberdashlaw03.ShareRaw", spec := "shareRaw", unfollowed := true, recurses := true, named := ["math/bits.divideError", "math/bits.overflowError"], apart := false }
def ShareRawSaid : Prop := shareRawRow.holds Try.pinned (OpenSpec.ofChange shareRawSpec)

/-- ITS FALSE NEIGHBOUR: 'it returns false'. Refute it at one input. -/
def shareRawWrong : ChangeSpec := { name := "shareRaw", fn := fun _ => fun
  | [d1, d2, d3, d4, d5] => { results := [.lit (.bool false)], args := [d1, d2, d3, d4, d5] }
  | _ => none }
def ShareRawWrongFalsely : Prop := shareRawRow.holds Try.pinned (OpenSpec.ofChange shareRawWrong)

/-- 'haberdashlaw03.ShareAll': WHATEVER THE INPUT: true; the input reads as it did. -/
def shareAllSpec : ChangeSpec := { name := "shareAll", fn := fun _ => fun
  | [d1, d2, d3] => { results := [.lit (.bool true)], args := [d1, d2, d3] }
  | _ => none }
def shareAllRow : OpenClaim := { program := "ytmnbamfemcgloaa", sum := "3e90ae6407f59f176ff28345b530a1c58656e98defd84150072eedd55e4c9b69", func := "haberdash/haberdashlaw03.ShareAll", spec := "shareAll", unfollowed := true, recurses := true, named := ["math/bits.divideError", "math/bits.overflowError"], apart := false }
def ShareAllSaid : Prop := shareAllRow.holds Try.pinned (OpenSpec.ofChange shareAllSpec)

/-- ITS FALSE NEIGHBOUR: 'it returns false'. Refute it at one input. -/
def shareAllWrong : ChangeSpec := { name := "shareAll", fn := fun _ => fun
  | [d1, d2, d3] => { results := [.lit (.bool false)], args := [d1, d2, d3] }
  | _ => none }
def ShareAllWrongFalsely : Prop := shareAllRow.holds Try.pinned (OpenSpec.ofChange shareAllWrong)

/-- 'haberdashlaw03.ShareSums': WHATEVER THE INPUT: true; the input reads as it did. -/
def shareSumsSpec : ChangeSpec := { name := "shareSums", fn := fun _ => fun
  | [d1, d2] => { results := [.lit (.bool true)], args := [d1, d2] }
  | _ => none }
def shareSumsRow : OpenClaim := { program := "ytmnbamfemcgloaa", sum := "3e90ae6407f59f176ff28345b530a1c58656e98defd84150072eedd55e4c9b69", func := "haberdash/haberdashlaw03.ShareSums", spec := "shareSums", unfollowed := true, recurses := true, named := ["math/bits.divideError", "math/bits.overflowError"], apart := false }
def ShareSumsSaid : Prop := shareSumsRow.holds Try.pinned (OpenSpec.ofChange shareSumsSpec)

/-- ITS FALSE NEIGHBOUR: 'it returns false'. Refute it at one input. -/
def shareSumsWrong : ChangeSpec := { name := "shareSums", fn := fun _ => fun
  | [d1, d2] => { results := [.lit (.bool false)], args := [d1, d2] }
  | _ => none }
def ShareSumsWrongFalsely : Prop := shareSumsRow.holds Try.pinned (OpenSpec.ofChange shareSumsWrong)

/-- 'haberdashlaw03.ShareFair': WHATEVER THE INPUT: true; the input reads as it did. -/
def shareFairSpec : ChangeSpec := { name := "shareFair", fn := fun _ => fun
  | [d1, d2] => { results := [.lit (.bool true)], args := [d1, d2] }
  | _ => none }
def shareFairRow : OpenClaim := { program := "ytmnbamfemcgloaa", sum := "3e90ae6407f59f176ff28345b530a1c58656e98defd84150072eedd55e4c9b69", func := "haberdash/haberdashlaw03.ShareFair", spec := "shareFair", unfollowed := true, recurses := true, named := ["math/bits.divideError", "math/bits.overflowError"], apart := false }
def ShareFairSaid : Prop := shareFairRow.holds Try.pinned (OpenSpec.ofChange shareFairSpec)

/-- ITS FALSE NEIGHBOUR: 'it returns false'. Refute it at one input. -/
def shareFairWrong : ChangeSpec := { name := "shareFair", fn := fun _ => fun
  | [d1, d2] => { results := [.lit (.bool false)], args := [d1, d2] }
  | _ => none }
def ShareFairWrongFalsely : Prop := shareFairRow.holds Try.pinned (OpenSpec.ofChange shareFairWrong)

/-- 'haberdashlaw03.SharePieces': WHATEVER THE INPUT: true; the input reads as it did. -/
def sharePiecesSpec : ChangeSpec := { name := "sharePieces", fn := fun _ => fun
  | [d1, d2, d3] => { results := [.lit (.bool true)], args := [d1, d2, d3] }
  | _ => none }
def sharePiecesRow : OpenClaim := { program := "ytmnbamfemcgloaa", sum := "3e90ae6407f59f176ff28345b530a1c58656e98defd84150072eedd55e4c9b69", func := "haberdash/haberdashlaw03.SharePieces", spec := "sharePieces", unfollowed := true, recurses := true, named := ["math/bits.divideError", "math/bits.overflowError"], apart := false }
def SharePiecesSaid : Prop := sharePiecesRow.holds Try.pinned (OpenSpec.ofChange sharePiecesSpec)

/-- ITS FALSE NEIGHBOUR: 'it returns false'. Refute it at one input. -/
def sharePiecesWrong : ChangeSpec := { name := "sharePieces", fn := fun _ => fun
  | [d1, d2, d3] => { results := [.lit (.bool false)], args := [d1, d2, d3] }
  | _ => none }
def SharePiecesWrongFalsely : Prop := sharePiecesRow.holds Try.pinned (OpenSpec.ofChange sharePiecesWrong)

/-- 'haberdashlaw03.ShareScale': WHATEVER THE INPUT: true; the input reads as it did. -/
def shareScaleSpec : ChangeSpec := { name := "shareScale", fn := fun _ => fun
  | [d1, d2, d3] => { results := [.lit (.bool true)], args := [d1, d2, d3] }
  | _ => none }
def shareScaleRow : OpenClaim := { program := "ytmnbamfemcgloaa", sum := "3e90ae6407f59f176ff28345b530a1c58656e98defd84150072eedd55e4c9b69", func := "haberdash/haberdashlaw03.ShareScale", spec := "shareScale", unfollowed := true, recurses := true, named := ["math/bits.divideError", "math/bits.overflowError"], apart := false }
def ShareScaleSaid : Prop := shareScaleRow.holds Try.pinned (OpenSpec.ofChange shareScaleSpec)

/-- ITS FALSE NEIGHBOUR: 'it returns false'. Refute it at one input. -/
def shareScaleWrong : ChangeSpec := { name := "shareScale", fn := fun _ => fun
  | [d1, d2, d3] => { results := [.lit (.bool false)], args := [d1, d2, d3] }
  | _ => none }
def ShareScaleWrongFalsely : Prop := shareScaleRow.holds Try.pinned (OpenSpec.ofChange shareScaleWrong)

/-- 'haberdashlaw03.ShareEdges': WHATEVER THE INPUT: true; the input reads as it did. -/
def shareEdgesSpec : ChangeSpec := { name := "shareEdges", fn := fun _ => fun
  | [d1, d2, d3] => { results := [.lit (.bool true)], args := [d1, d2, d3] }
  | _ => none }
def shareEdgesRow : OpenClaim := { program := "ytmnbamfemcgloaa", sum := "3e90ae6407f59f176ff28345b530a1c58656e98defd84150072eedd55e4c9b69", func := "haberdash/haberdashlaw03.ShareEdges", spec := "shareEdges", unfollowed := true, recurses := true, named := ["math/bits.divideError", "math/bits.overflowError"], apart := false }
def ShareEdgesSaid : Prop := shareEdgesRow.holds Try.pinned (OpenSpec.ofChange shareEdgesSpec)

/-- ITS FALSE NEIGHBOUR: 'it returns false'. Refute it at one input. -/
def shareEdgesWrong : ChangeSpec := { name := "shareEdges", fn := fun _ => fun
  | [d1, d2, d3] => { results := [.lit (.bool false)], args := [d1, d2, d3] }
  | _ => none }
def ShareEdgesWrongFalsely : Prop := shareEdgesRow.holds Try.pinned (OpenSpec.ofChange shareEdgesWrong)

/- THE SECOND FORM. 'bulk': how many values and letters a reading holds, each counted each time it is reached (what is shared counts as often as it is met; a slice's spare places count too). A statement '..UptoSaid' is the law's where the arguments, and the package variables that the reading takes, are together of bulk at most 1048576: NARROWER than '..Said'. Prove '..Said' where nothing that the law and all that it calls make is longer than what came in: it says more and counts as full. Else prove '..UptoSaid'. A law counts once. -/
mutual
def uptoBulk {H : Type} : DataW H → Nat
  | .lit (.string bytes) => bytes.length + 1
  | .lit _ => 1
  | .nil => 1
  | .ptr d => uptoBulk d + 1
  | .slice elems spare => uptoBulkAll elems + uptoBulkAll spare + 1
  | .agg parts => uptoBulkAll parts + 1
  | .iface _ d => uptoBulk d + 1
  | .map entries => uptoBulkEntries entries + 1
  | .held _ => 1
def uptoBulkAll {H : Type} : List (DataW H) → Nat
  | [] => 0
  | d :: r => uptoBulk d + uptoBulkAll r
def uptoBulkEntries {H : Type} : List (Lit × DataW H) → Nat
  | [] => 0
  | x :: r => uptoBulkEntry x + uptoBulkEntries r
def uptoBulkEntry {H : Type} : Lit × DataW H → Nat
  | (.string bytes, d) => bytes.length + uptoBulk d + 1
  | (_, d) => uptoBulk d + 1
 end
def uptoSmall : (H : Type) → List (DataW H) → Bool := fun _ ds => decide (uptoBulkAll ds ≤ 1048576)
def OpenSpec.upto (s : _root_.Go.ChangeSpec) : _root_.Go.OpenSpec := { _root_.Go.OpenSpec.ofChange s with cond := some uptoSmall }

/-- 'haberdashlaw03.ShareRaw', WHERE WHAT IT READS IS OF BULK AT MOST 1048576: true; the input reads as it did. -/
def shareRawUptoRow : OpenClaim := { program := "ytmnbamfemcgloaa", sum := "3e90ae6407f59f176ff28345b530a1c58656e98defd84150072eedd55e4c9b69", func := "haberdash/haberdashlaw03.ShareRaw", spec := "shareRaw", unfollowed := true, recurses := true, named := ["math/bits.divideError", "math/bits.overflowError"], apart := false, narrowed := true }
def ShareRawUptoSaid : Prop := shareRawUptoRow.holds Try.pinned (OpenSpec.upto shareRawSpec)

/-- 'haberdashlaw03.ShareAll', WHERE WHAT IT READS IS OF BULK AT MOST 1048576: true; the input reads as it did. -/
def shareAllUptoRow : OpenClaim := { program := "ytmnbamfemcgloaa", sum := "3e90ae6407f59f176ff28345b530a1c58656e98defd84150072eedd55e4c9b69", func := "haberdash/haberdashlaw03.ShareAll", spec := "shareAll", unfollowed := true, recurses := true, named := ["math/bits.divideError", "math/bits.overflowError"], apart := false, narrowed := true }
def ShareAllUptoSaid : Prop := shareAllUptoRow.holds Try.pinned (OpenSpec.upto shareAllSpec)

/-- 'haberdashlaw03.ShareSums', WHERE WHAT IT READS IS OF BULK AT MOST 1048576: true; the input reads as it did. -/
def shareSumsUptoRow : OpenClaim := { program := "ytmnbamfemcgloaa", sum := "3e90ae6407f59f176ff28345b530a1c58656e98defd84150072eedd55e4c9b69", func := "haberdash/haberdashlaw03.ShareSums", spec := "shareSums", unfollowed := true, recurses := true, named := ["math/bits.divideError", "math/bits.overflowError"], apart := false, narrowed := true }
def ShareSumsUptoSaid : Prop := shareSumsUptoRow.holds Try.pinned (OpenSpec.upto shareSumsSpec)

/-- 'haberdashlaw03.ShareFair', WHERE WHAT IT READS IS OF BULK AT MOST 1048576: true; the input reads as it did. -/
def shareFairUptoRow : OpenClaim := { program := "ytmnbamfemcgloaa", sum := "3e90ae6407f59f176ff28345b530a1c58656e98defd84150072eedd55e4c9b69", func := "haberdash/haberdashlaw03.ShareFair", spec := "shareFair", unfollowed := true, recurses := true, named := ["math/bits.divideError", "math/bits.overflowError"], apart := false, narrowed := true }
def ShareFairUptoSaid : Prop := shareFairUptoRow.holds Try.pinned (OpenSpec.upto shareFairSpec)

/-- 'haberdashlaw03.SharePieces', WHERE WHAT IT READS IS OF BULK AT MOST 1048576: true; the input reads as it did. -/
def sharePiecesUptoRow : OpenClaim := { program := "ytmnbamfemcgloaa", sum := "3e90ae6407f59f176ff28345b530a1c58656e98defd84150072eedd55e4c9b69", func := "haberdash/haberdashlaw03.SharePieces", spec := "sharePieces", unfollowed := true, recurses := true, named := ["math/bits.divideError", "math/bits.overflowError"], apart := false, narrowed := true }
def SharePiecesUptoSaid : Prop := sharePiecesUptoRow.holds Try.pinned (OpenSpec.upto sharePiecesSpec)

/-- 'haberdashlaw03.ShareScale', WHERE WHAT IT READS IS OF BULK AT MOST 1048576: true; the input reads as it did. -/
def shareScaleUptoRow : OpenClaim := { program := "ytmnbamfemcgloaa", sum := "3e90ae6407f59f176ff28345b530a1c58656e98defd84150072eedd55e4c9b69", func := "haberdash/haberdashlaw03.ShareScale", spec := "shareScale", unfollowed := true, recurses := true, named := ["math/bits.divideError", "math/bits.overflowError"], apart := false, narrowed := true }
def ShareScaleUptoSaid : Prop := shareScaleUptoRow.holds Try.pinned (OpenSpec.upto shareScaleSpec)

/-- 'haberdashlaw03.ShareEdges', WHERE WHAT IT READS IS OF BULK AT MOST 1048576: true; the input reads as it did. -/
def shareEdgesUptoRow : OpenClaim := { program := "ytmnbamfemcgloaa", sum := "3e90ae6407f59f176ff28345b530a1c58656e98defd84150072eedd55e4c9b69", func := "haberdash/haberdashlaw03.ShareEdges", spec := "shareEdges", unfollowed := true, recurses := true, named := ["math/bits.divideError", "math/bits.overflowError"], apart := false, narrowed := true }
def ShareEdgesUptoSaid : Prop := shareEdgesUptoRow.holds Try.pinned (OpenSpec.upto shareEdgesSpec)

end Rows
end Go.Proofs.Ytmnbamfemcgloaa
