/-
  No cell of these rows narrows 'for every input' (looked for: loops, veiled, ifaces, maps, wideKeys, modest, calm, conditions, laid).
  DERIVED. THE GIVEN ROWS OF THIS SEAT. 5 by the template 'for every input the law returns true; each argument reads behind the call as it read before'; 0 by the template 'total and deterministic' (their statements: YtabfnkjdfninhaaTotals.lean).
  GIVEN WITH THE SEED: the statements are not yours to turn. If you find one false, say at which input.
  Laid BY PROGRAM, IN A SANDBOX (cutbox-rows.mjs): the forced cells as the released guide's own fill.sh prints them over the translation f68c39a991789577… (all of the seat's roots in one cut). By AI agents, Wed Nov 11 2026. No macro, syntax, notation, axiom, sorry.
-/
import Derived.Test.YtabfnkjdfninhaaChecked
import GoSem.Claim
import GoSem.ClaimJoined
import GoSem.ClaimMapViews
import Derived.JoinedTies
import Derived.KernelRfl
namespace Go.Proofs.Ytabfnkjdfninhaa
/- THE CELL 'sum', in the pinned program and in every row, IS THE sha256 OF THE DUMP (.gsa) THAT YtabfnkjdfninhaaProg.lean LOADS. Nothing in Lean hashes anything: it is a label: what it is worth is what the hold of that sum in a sandbox is worth. -/
noncomputable def Try.pinned : Pinned := { name := "ytabfnkjdfninhaa", sum := "f68c39a991789577da4d61f306dc8439197571176e542a7452cf75ca602a254c", checked := Try.checked }
namespace Rows
def none {H : Type} : Left H := { results := [], args := [] }

/-- 'haberdashlaw10.GoodsNames': WHATEVER THE INPUT: true; the input reads as it did. -/
def goodsNamesSpec : ChangeSpec := { name := "goodsNames", fn := fun _ => fun
  | [d1, d2, d3, d4] => { results := [.lit (.bool true)], args := [d1, d2, d3, d4] }
  | _ => none }
def goodsNamesRow : OpenClaim := { program := "ytabfnkjdfninhaa", sum := "f68c39a991789577da4d61f306dc8439197571176e542a7452cf75ca602a254c", func := "haberdash/haberdashlaw10.GoodsNames", spec := "goodsNames", inPlace := ["internal/bytealg.abigen_runtime_cmpstring"], unfollowed := true, recurses := true, apart := false }
def GoodsNamesSaid : Prop := goodsNamesRow.holds Try.pinned (OpenSpec.ofChange goodsNamesSpec)

/-- ITS FALSE NEIGHBOUR: 'it returns false'. Refute it at one input. -/
def goodsNamesWrong : ChangeSpec := { name := "goodsNames", fn := fun _ => fun
  | [d1, d2, d3, d4] => { results := [.lit (.bool false)], args := [d1, d2, d3, d4] }
  | _ => none }
def GoodsNamesWrongFalsely : Prop := goodsNamesRow.holds Try.pinned (OpenSpec.ofChange goodsNamesWrong)

/-- 'haberdashlaw10.GoodsRight': WHATEVER THE INPUT: true; the input reads as it did. -/
def goodsRightSpec : ChangeSpec := { name := "goodsRight", fn := fun _ => fun
  | [d1, d2, d3] => { results := [.lit (.bool true)], args := [d1, d2, d3] }
  | _ => none }
def goodsRightRow : OpenClaim := { program := "ytabfnkjdfninhaa", sum := "f68c39a991789577da4d61f306dc8439197571176e542a7452cf75ca602a254c", func := "haberdash/haberdashlaw10.GoodsRight", spec := "goodsRight", inPlace := ["internal/bytealg.abigen_runtime_cmpstring"], unfollowed := true, recurses := true, apart := false }
def GoodsRightSaid : Prop := goodsRightRow.holds Try.pinned (OpenSpec.ofChange goodsRightSpec)

/-- ITS FALSE NEIGHBOUR: 'it returns false'. Refute it at one input. -/
def goodsRightWrong : ChangeSpec := { name := "goodsRight", fn := fun _ => fun
  | [d1, d2, d3] => { results := [.lit (.bool false)], args := [d1, d2, d3] }
  | _ => none }
def GoodsRightWrongFalsely : Prop := goodsRightRow.holds Try.pinned (OpenSpec.ofChange goodsRightWrong)

/-- 'haberdashlaw10.GoodsTurned': WHATEVER THE INPUT: true; the input reads as it did. -/
def goodsTurnedSpec : ChangeSpec := { name := "goodsTurned", fn := fun _ => fun
  | [d1, d2, d3, d4, d5] => { results := [.lit (.bool true)], args := [d1, d2, d3, d4, d5] }
  | _ => none }
def goodsTurnedRow : OpenClaim := { program := "ytabfnkjdfninhaa", sum := "f68c39a991789577da4d61f306dc8439197571176e542a7452cf75ca602a254c", func := "haberdash/haberdashlaw10.GoodsTurned", spec := "goodsTurned", inPlace := ["internal/bytealg.abigen_runtime_cmpstring"], unfollowed := true, recurses := true, apart := false }
def GoodsTurnedSaid : Prop := goodsTurnedRow.holds Try.pinned (OpenSpec.ofChange goodsTurnedSpec)

/-- ITS FALSE NEIGHBOUR: 'it returns false'. Refute it at one input. -/
def goodsTurnedWrong : ChangeSpec := { name := "goodsTurned", fn := fun _ => fun
  | [d1, d2, d3, d4, d5] => { results := [.lit (.bool false)], args := [d1, d2, d3, d4, d5] }
  | _ => none }
def GoodsTurnedWrongFalsely : Prop := goodsTurnedRow.holds Try.pinned (OpenSpec.ofChange goodsTurnedWrong)

/-- 'haberdashlaw10.GoodsFinds': WHATEVER THE INPUT: true; the input reads as it did. -/
def goodsFindsSpec : ChangeSpec := { name := "goodsFinds", fn := fun _ => fun
  | [d1, d2] => { results := [.lit (.bool true)], args := [d1, d2] }
  | _ => none }
def goodsFindsRow : OpenClaim := { program := "ytabfnkjdfninhaa", sum := "f68c39a991789577da4d61f306dc8439197571176e542a7452cf75ca602a254c", func := "haberdash/haberdashlaw10.GoodsFinds", spec := "goodsFinds", inPlace := ["internal/bytealg.abigen_runtime_cmpstring"], unfollowed := true, recurses := true, apart := false }
def GoodsFindsSaid : Prop := goodsFindsRow.holds Try.pinned (OpenSpec.ofChange goodsFindsSpec)

/-- ITS FALSE NEIGHBOUR: 'it returns false'. Refute it at one input. -/
def goodsFindsWrong : ChangeSpec := { name := "goodsFinds", fn := fun _ => fun
  | [d1, d2] => { results := [.lit (.bool false)], args := [d1, d2] }
  | _ => none }
def GoodsFindsWrongFalsely : Prop := goodsFindsRow.holds Try.pinned (OpenSpec.ofChange goodsFindsWrong)

/-- 'haberdashlaw10.GoodsMany': WHATEVER THE INPUT: true; the input reads as it did. -/
def goodsManySpec : ChangeSpec := { name := "goodsMany", fn := fun _ => fun
  | [d1, d2] => { results := [.lit (.bool true)], args := [d1, d2] }
  | _ => none }
def goodsManyRow : OpenClaim := { program := "ytabfnkjdfninhaa", sum := "f68c39a991789577da4d61f306dc8439197571176e542a7452cf75ca602a254c", func := "haberdash/haberdashlaw10.GoodsMany", spec := "goodsMany", inPlace := ["internal/bytealg.abigen_runtime_cmpstring"], unfollowed := true, recurses := true, apart := false }
def GoodsManySaid : Prop := goodsManyRow.holds Try.pinned (OpenSpec.ofChange goodsManySpec)

/-- ITS FALSE NEIGHBOUR: 'it returns false'. Refute it at one input. -/
def goodsManyWrong : ChangeSpec := { name := "goodsMany", fn := fun _ => fun
  | [d1, d2] => { results := [.lit (.bool false)], args := [d1, d2] }
  | _ => none }
def GoodsManyWrongFalsely : Prop := goodsManyRow.holds Try.pinned (OpenSpec.ofChange goodsManyWrong)

/- THE SECOND FORM. 'bulk': how many values and letters a reading holds, each counted each time it is reached (what is shared counts as often as it is met; a slice's spare places count too). A statement '..UptoSaid' is the law's where the arguments, and the package variables that the reading takes, are together of bulk at most 1048576: NARROWER than '..Said'. Prove '..Said' where nothing that the law and all that it calls make is longer than what came in: it says more and counts as full. Else prove '..UptoSaid'. A law counts once. -/
mutual
def uptoBulk {H : Type} : DataW H → Nat
  | .lit (.string bytes) => bytes.length + 1
  | .lit _ => 1
  | .nil => 1
  | .ptr d => uptoBulk d + 1
  | .slice elems spare => uptoBulkAll elems + uptoBulkAll spare + 1
  | .agg parts => uptoBulkAll parts + 1
  | .iface _ d => uptoBulk d + 1
  | .map entries => uptoBulkEntries entries + 1
  | .held _ => 1
def uptoBulkAll {H : Type} : List (DataW H) → Nat
  | [] => 0
  | d :: r => uptoBulk d + uptoBulkAll r
def uptoBulkEntries {H : Type} : List (Lit × DataW H) → Nat
  | [] => 0
  | x :: r => uptoBulkEntry x + uptoBulkEntries r
def uptoBulkEntry {H : Type} : Lit × DataW H → Nat
  | (.string bytes, d) => bytes.length + uptoBulk d + 1
  | (_, d) => uptoBulk d + 1
 end
def uptoSmall : (H : Type) → List (DataW H) → Bool := fun _ ds => decide (uptoBulkAll ds ≤ 1048576)
def OpenSpec.upto (s : _root_.Go.ChangeSpec) : _root_.Go.OpenSpec := { _root_.Go.OpenSpec.ofChange s with cond := some uptoSmall }

/-- 'haberdashlaw10.GoodsNames', WHERE WHAT IT READS IS OF BULK AT MOST 1048576: true; the input reads as it did. -/
def goodsNamesUptoRow : OpenClaim := { program := "ytabfnkjdfninhaa", sum := "f68c39a991789577da4d61f306dc8439197571176e542a7452cf75ca602a254c", func := "haberdash/haberdashlaw10.GoodsNames", spec := "goodsNames", inPlace := ["internal/bytealg.abigen_runtime_cmpstring"], unfollowed := true, recurses := true, apart := false, narrowed := true }
def GoodsNamesUptoSaid : Prop := goodsNamesUptoRow.holds Try.pinned (OpenSpec.upto goodsNamesSpec)

/-- 'haberdashlaw10.GoodsRight', WHERE WHAT IT READS IS OF BULK AT MOST 1048576: true; the input reads as it did. -/
def goodsRightUptoRow : OpenClaim := { program := "ytabfnkjdfninhaa", sum := "f68c39a991789577da4d61f306dc8439197571176e542a7452cf75ca602a254c", func := "haberdash/haberdashlaw10.GoodsRight", spec := "goodsRight", inPlace := ["internal/bytealg.abigen_runtime_cmpstring"], unfollowed := true, recurses := true, apart := false, narrowed := true }
def GoodsRightUptoSaid : Prop := goodsRightUptoRow.holds Try.pinned (OpenSpec.upto goodsRightSpec)

/-- 'haberdashlaw10.GoodsTurned', WHERE WHAT IT READS IS OF BULK AT MOST 1048576: true; the input reads as it did. -/
def goodsTurnedUptoRow : OpenClaim := { program := "ytabfnkjdfninhaa", sum := "f68c39a991789577da4d61f306dc8439197571176e542a7452cf75ca602a254c", func := "haberdash/haberdashlaw10.GoodsTurned", spec := "goodsTurned", inPlace := ["internal/bytealg.abigen_runtime_cmpstring"], unfollowed := true, recurses := true, apart := false, narrowed := true }
def GoodsTurnedUptoSaid : Prop := goodsTurnedUptoRow.holds Try.pinned (OpenSpec.upto goodsTurnedSpec)

/-- 'haberdashlaw10.GoodsFinds', WHERE WHAT IT READS IS OF BULK AT MOST 1048576: true; the input reads as it did. -/
def goodsFindsUptoRow : OpenClaim := { program := "ytabfnkjdfninhaa", sum := "f68c39a991789577da4d61f306dc8439197571176e542a7452cf75ca602a254c", func := "haberdash/haberdashlaw10.GoodsFinds", spec := "goodsFinds", inPlace := ["internal/bytealg.abigen_runtime_cmpstring"], unfollowed := true, recurses := true, apart := false, narrowed := true }
def GoodsFindsUptoSaid : Prop := goodsFindsUptoRow.holds Try.pinned (OpenSpec.upto goodsFindsSpec)

/-- 'haberdashlaw10.GoodsMany', WHERE WHAT IT READS IS OF BULK AT MOST 1048576: true; the input reads as it did. -/
def goodsManyUptoRow : OpenClaim := { program := "ytabfnkjdfninhaa", sum := "f68c39a991789577da4d61f306dc8439197571176e542a7452cf75ca602a254c", func := "haberdash/haberdashlaw10.GoodsMany", spec := "goodsMany", inPlace := ["internal/bytealg.abigen_runtime_cmpstring"], unfollowed := true, recurses := true, apart := false, narrowed := true }
def GoodsManyUptoSaid : Prop := goodsManyUptoRow.holds Try.pinned (OpenSpec.upto goodsManySpec)

end Rows
end Go.Proofs.Ytabfnkjdfninhaa
