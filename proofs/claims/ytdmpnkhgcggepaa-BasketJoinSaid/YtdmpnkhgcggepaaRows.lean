/-
  No cell of these rows narrows 'for every input' (looked for: loops, veiled, ifaces, maps, wideKeys, modest, calm, conditions, laid).
  DERIVED. THE GIVEN ROWS OF THIS SEAT. 5 by the template 'for every input the law returns true; each argument reads behind the call as it read before'; 0 by the template 'total and deterministic' (their statements: YtdmpnkhgcggepaaTotals.lean).
  GIVEN WITH THE SEED: the statements are not yours to turn. If you find one false, say at which input.
  Laid BY PROGRAM, IN A SANDBOX (cutbox-rows.mjs): the forced cells as the released guide's own fill.sh prints them over the translation f34ca742f63c80ff… (all of the seat's roots in one cut). By AI agents, Wed Nov 11 2026. No macro, syntax, notation, axiom, sorry.
-/
import Derived.Test.YtdmpnkhgcggepaaChecked
import GoSem.Claim
import GoSem.ClaimJoined
import GoSem.ClaimMapViews
import Derived.JoinedTies
import Derived.KernelRfl
namespace Go.Proofs.Ytdmpnkhgcggepaa
/- THE CELL 'sum', in the pinned program and in every row, IS THE sha256 OF THE DUMP (.gsa) THAT YtdmpnkhgcggepaaProg.lean LOADS. Nothing in Lean hashes anything: it is a label: what it is worth is what the hold of that sum in a sandbox is worth. -/
noncomputable def Try.pinned : Pinned := { name := "ytdmpnkhgcggepaa", sum := "f34ca742f63c80ff624eff0c2eb83b7f5d322deb9ea2987ff60348eee61c4123", checked := Try.checked }
namespace Rows
def none {H : Type} : Left H := { results := [], args := [] }

/-- 'haberdashlaw14.BasketRaw': WHATEVER THE INPUT: true; the input reads as it did. -/
def basketRawSpec : ChangeSpec := { name := "basketRaw", fn := fun _ => fun
  | [d1, d2] => { results := [.lit (.bool true)], args := [d1, d2] }
  | _ => none }
def basketRawRow : OpenClaim := { program := "ytdmpnkhgcggepaa", sum := "f34ca742f63c80ff624eff0c2eb83b7f5d322deb9ea2987ff60348eee61c4123", func := "haberdash/haberdashlaw14.BasketRaw", spec := "basketRaw", inPlace := ["internal/bytealg.abigen_runtime_cmpstring"], unfollowed := true, recurses := true, apart := false }
def BasketRawSaid : Prop := basketRawRow.holds Try.pinned (OpenSpec.ofChange basketRawSpec)

/-- ITS FALSE NEIGHBOUR: 'it returns false'. Refute it at one input. -/
def basketRawWrong : ChangeSpec := { name := "basketRaw", fn := fun _ => fun
  | [d1, d2] => { results := [.lit (.bool false)], args := [d1, d2] }
  | _ => none }
def BasketRawWrongFalsely : Prop := basketRawRow.holds Try.pinned (OpenSpec.ofChange basketRawWrong)

/-- 'haberdashlaw14.BasketNear': WHATEVER THE INPUT: true; the input reads as it did. -/
def basketNearSpec : ChangeSpec := { name := "basketNear", fn := fun _ => fun
  | [d1, d2] => { results := [.lit (.bool true)], args := [d1, d2] }
  | _ => none }
def basketNearRow : OpenClaim := { program := "ytdmpnkhgcggepaa", sum := "f34ca742f63c80ff624eff0c2eb83b7f5d322deb9ea2987ff60348eee61c4123", func := "haberdash/haberdashlaw14.BasketNear", spec := "basketNear", inPlace := ["internal/bytealg.abigen_runtime_cmpstring"], unfollowed := true, recurses := true, apart := false }
def BasketNearSaid : Prop := basketNearRow.holds Try.pinned (OpenSpec.ofChange basketNearSpec)

/-- ITS FALSE NEIGHBOUR: 'it returns false'. Refute it at one input. -/
def basketNearWrong : ChangeSpec := { name := "basketNear", fn := fun _ => fun
  | [d1, d2] => { results := [.lit (.bool false)], args := [d1, d2] }
  | _ => none }
def BasketNearWrongFalsely : Prop := basketNearRow.holds Try.pinned (OpenSpec.ofChange basketNearWrong)

/-- 'haberdashlaw14.BasketTurned': WHATEVER THE INPUT: true; the input reads as it did. -/
def basketTurnedSpec : ChangeSpec := { name := "basketTurned", fn := fun _ => fun
  | [d1, d2, d3, d4, d5, d6, d7] => { results := [.lit (.bool true)], args := [d1, d2, d3, d4, d5, d6, d7] }
  | _ => none }
def basketTurnedRow : OpenClaim := { program := "ytdmpnkhgcggepaa", sum := "f34ca742f63c80ff624eff0c2eb83b7f5d322deb9ea2987ff60348eee61c4123", func := "haberdash/haberdashlaw14.BasketTurned", spec := "basketTurned", inPlace := ["internal/bytealg.abigen_runtime_cmpstring"], unfollowed := true, recurses := true, apart := false }
def BasketTurnedSaid : Prop := basketTurnedRow.holds Try.pinned (OpenSpec.ofChange basketTurnedSpec)

/-- ITS FALSE NEIGHBOUR: 'it returns false'. Refute it at one input. -/
def basketTurnedWrong : ChangeSpec := { name := "basketTurned", fn := fun _ => fun
  | [d1, d2, d3, d4, d5, d6, d7] => { results := [.lit (.bool false)], args := [d1, d2, d3, d4, d5, d6, d7] }
  | _ => none }
def BasketTurnedWrongFalsely : Prop := basketTurnedRow.holds Try.pinned (OpenSpec.ofChange basketTurnedWrong)

/-- 'haberdashlaw14.BasketBounds': WHATEVER THE INPUT: true; the input reads as it did. -/
def basketBoundsSpec : ChangeSpec := { name := "basketBounds", fn := fun _ => fun
  | [d1, d2] => { results := [.lit (.bool true)], args := [d1, d2] }
  | _ => none }
def basketBoundsRow : OpenClaim := { program := "ytdmpnkhgcggepaa", sum := "f34ca742f63c80ff624eff0c2eb83b7f5d322deb9ea2987ff60348eee61c4123", func := "haberdash/haberdashlaw14.BasketBounds", spec := "basketBounds", inPlace := ["internal/bytealg.abigen_runtime_cmpstring"], unfollowed := true, recurses := true, apart := false }
def BasketBoundsSaid : Prop := basketBoundsRow.holds Try.pinned (OpenSpec.ofChange basketBoundsSpec)

/-- ITS FALSE NEIGHBOUR: 'it returns false'. Refute it at one input. -/
def basketBoundsWrong : ChangeSpec := { name := "basketBounds", fn := fun _ => fun
  | [d1, d2] => { results := [.lit (.bool false)], args := [d1, d2] }
  | _ => none }
def BasketBoundsWrongFalsely : Prop := basketBoundsRow.holds Try.pinned (OpenSpec.ofChange basketBoundsWrong)

/-- 'haberdashlaw14.BasketJoin': WHATEVER THE INPUT: true; the input reads as it did. -/
def basketJoinSpec : ChangeSpec := { name := "basketJoin", fn := fun _ => fun
  | [d1, d2] => { results := [.lit (.bool true)], args := [d1, d2] }
  | _ => none }
def basketJoinRow : OpenClaim := { program := "ytdmpnkhgcggepaa", sum := "f34ca742f63c80ff624eff0c2eb83b7f5d322deb9ea2987ff60348eee61c4123", func := "haberdash/haberdashlaw14.BasketJoin", spec := "basketJoin", inPlace := ["internal/bytealg.abigen_runtime_cmpstring"], unfollowed := true, recurses := true, apart := false }
def BasketJoinSaid : Prop := basketJoinRow.holds Try.pinned (OpenSpec.ofChange basketJoinSpec)

/-- ITS FALSE NEIGHBOUR: 'it returns false'. Refute it at one input. -/
def basketJoinWrong : ChangeSpec := { name := "basketJoin", fn := fun _ => fun
  | [d1, d2] => { results := [.lit (.bool false)], args := [d1, d2] }
  | _ => none }
def BasketJoinWrongFalsely : Prop := basketJoinRow.holds Try.pinned (OpenSpec.ofChange basketJoinWrong)

/- THE SECOND FORM. 'bulk': how many values and letters a reading holds, each counted each time it is reached (what is shared counts as often as it is met; a slice's spare places count too). A statement '..UptoSaid' is the law's where the arguments, and the package variables that the reading takes, are together of bulk at most 1048576: NARROWER than '..Said'. Prove '..Said' where nothing that the law and all that it calls make is longer than what came in: it says more and counts as full. Else prove '..UptoSaid'. A law counts once. -/
mutual
def uptoBulk {H : Type} : DataW H → Nat
  | .lit (.string bytes) => bytes.length + 1
  | .lit _ => 1
  | .nil => 1
  | .ptr d => uptoBulk d + 1
  | .slice elems spare => uptoBulkAll elems + uptoBulkAll spare + 1
  | .agg parts => uptoBulkAll parts + 1
  | .iface _ d => uptoBulk d + 1
  | .map entries => uptoBulkEntries entries + 1
  | .held _ => 1
def uptoBulkAll {H : Type} : List (DataW H) → Nat
  | [] => 0
  | d :: r => uptoBulk d + uptoBulkAll r
def uptoBulkEntries {H : Type} : List (Lit × DataW H) → Nat
  | [] => 0
  | x :: r => uptoBulkEntry x + uptoBulkEntries r
def uptoBulkEntry {H : Type} : Lit × DataW H → Nat
  | (.string bytes, d) => bytes.length + uptoBulk d + 1
  | (_, d) => uptoBulk d + 1
 end
def uptoSmall : (H : Type) → List (DataW H) → Bool := fun _ ds => decide (uptoBulkAll ds ≤ 1048576)
def OpenSpec.upto (s : _root_.Go.ChangeSpec) : _root_.Go.OpenSpec := { _root_.Go.OpenSpec.ofChange s with cond := some uptoSmall }

/-- 'haberdashlaw14.BasketRaw', WHERE WHAT IT READS IS OF BULK AT MOST 1048576: true; the input reads as it did. -/
def basketRawUptoRow : OpenClaim := { program := "ytdmpnkhgcggepaa", sum := "f34ca742f63c80ff624eff0c2eb83b7f5d322deb9ea2987ff60348eee61c4123", func := "haberdash/haberdashlaw14.BasketRaw", spec := "basketRaw", inPlace := ["internal/bytealg.abigen_runtime_cmpstring"], unfollowed := true, recurses := true, apart := false, narrowed := true }
def BasketRawUptoSaid : Prop := basketRawUptoRow.holds Try.pinned (OpenSpec.upto basketRawSpec)

/-- 'haberdashlaw14.BasketNear', WHERE WHAT IT READS IS OF BULK AT MOST 1048576: true; the input reads as it did. -/
def basketNearUptoRow : OpenClaim := { program := "ytdmpnkhgcggepaa", sum := "f34ca742f63c80ff624eff0c2eb83b7f5d322deb9ea2987ff60348eee61c4123", func := "haberdash/haberdashlaw14.BasketNear", spec := "basketNear", inPlace := ["internal/bytealg.abigen_runtime_cmpstring"], unfollowed := true, recurses := true, apart := false, narrowed := true }
def BasketNearUptoSaid : Prop := basketNearUptoRow.holds Try.pinned (OpenSpec.upto basketNearSpec)

/-- 'haberdashlaw14.BasketTurned', WHERE WHAT IT READS IS OF BULK AT MOST 1048576: true; the input reads as it did. -/
def basketTurnedUptoRow : OpenClaim := { program := "ytdmpnkhgcggepaa", sum := "f34ca742f63c80ff624eff0c2eb83b7f5d322deb9ea2987ff60348eee61c4123", func := "haberdash/haberdashlaw14.BasketTurned", spec := "basketTurned", inPlace := ["internal/bytealg.abigen_runtime_cmpstring"], unfollowed := true, recurses := true, apart := false, narrowed := true }
def BasketTurnedUptoSaid : Prop := basketTurnedUptoRow.holds Try.pinned (OpenSpec.upto basketTurnedSpec)

/-- 'haberdashlaw14.BasketBounds', WHERE WHAT IT READS IS OF BULK AT MOST 1048576: true; the input reads as it did. -/
def basketBoundsUptoRow : OpenClaim := { program := "ytdmpnkhgcggepaa", sum := "f34ca742f63c80ff624eff0c2eb83b7f5d322deb9ea2987ff60348eee61c4123", func := "haberdash/haberdashlaw14.BasketBounds", spec := "basketBounds", inPlace := ["internal/bytealg.abigen_runtime_cmpstring"], unfollowed := true, recurses := true, apart := false, narrowed := true }
def BasketBoundsUptoSaid : Prop := basketBoundsUptoRow.holds Try.pinned (OpenSpec.upto basketBoundsSpec)

/-- 'haberdashlaw14.BasketJoin', WHERE WHAT IT READS IS OF BULK AT MOST 1048576: true; the input reads as it did. -/
def basketJoinUptoRow : OpenClaim := { program := "ytdmpnkhgcggepaa", sum := "f34ca742f63c80ff624eff0c2eb83b7f5d322deb9ea2987ff60348eee61c4123", func := "haberdash/haberdashlaw14.BasketJoin", spec := "basketJoin", inPlace := ["internal/bytealg.abigen_runtime_cmpstring"], unfollowed := true, recurses := true, apart := false, narrowed := true }
def BasketJoinUptoSaid : Prop := basketJoinUptoRow.holds Try.pinned (OpenSpec.upto basketJoinSpec)

end Rows
end Go.Proofs.Ytdmpnkhgcggepaa
