/-
  No cell of these rows narrows 'for every input' (looked for: loops, veiled, ifaces, maps, wideKeys, modest, calm, conditions, laid).
  DERIVED. THE GIVEN ROWS OF THIS SEAT. 5 by the template 'for every input the law returns true; each argument reads behind the call as it read before'; 0 by the template 'total and deterministic' (their statements: YtfcmhgneijipgaaGreatTotals.lean).
  GIVEN WITH THE SEED: the statements are not yours to turn. If you find one false, say at which input.
  Laid BY PROGRAM, IN A SANDBOX (cutbox-rows.mjs): the forced cells as the released guide's own fill.sh prints them over the translation 1672b50e3d0a8ca4… (all of the seat's roots in one cut). By AI agents, Wed Nov 11 2026. No macro, syntax, notation, axiom, sorry.
-/
import Derived.Test.YtfcmhgneijipgaaGreatChecked
import GoSem.Claim
import GoSem.ClaimJoined
import GoSem.ClaimMapViews
import Derived.JoinedTies
import Derived.KernelRfl
namespace Go.Proofs.YtfcmhgneijipgaaGreat
/- THE CELL 'sum', in the pinned program and in every row, IS THE sha256 OF THE DUMP (.gsa) THAT YtfcmhgneijipgaaGreatProg.lean LOADS. Nothing in Lean hashes anything: it is a label: what it is worth is what the hold of that sum in a sandbox is worth. -/
noncomputable def Tryz.pinned : Pinned := { name := "ytfcmhgneijipgaagreat", sum := "1672b50e3d0a8ca44ab84a3cad6eee596e4c1941ef4f4e9488244cb98ba0da7c", checked := Tryz.checked }
namespace Rows
def none {H : Type} : Left H := { results := [], args := [] }

/-- 'haberdashlaw13.RulesRight': WHATEVER THE INPUT: true; the input reads as it did. -/
def rulesRightSpec : ChangeSpec := { name := "rulesRight", fn := fun _ => fun
  | [d1, d2] => { results := [.lit (.bool true)], args := [d1, d2] }
  | _ => none }
def rulesRightRow : OpenClaim := { program := "ytfcmhgneijipgaagreat", sum := "1672b50e3d0a8ca44ab84a3cad6eee596e4c1941ef4f4e9488244cb98ba0da7c", func := "haberdash/haberdashlaw13.RulesRight", spec := "rulesRight", unfollowed := true, recurses := true, apart := false }
def RulesRightSaid : Prop := rulesRightRow.holds Tryz.pinned (OpenSpec.ofChange rulesRightSpec)

/-- ITS FALSE NEIGHBOUR: 'it returns false'. Refute it at one input. -/
def rulesRightWrong : ChangeSpec := { name := "rulesRight", fn := fun _ => fun
  | [d1, d2] => { results := [.lit (.bool false)], args := [d1, d2] }
  | _ => none }
def RulesRightWrongFalsely : Prop := rulesRightRow.holds Tryz.pinned (OpenSpec.ofChange rulesRightWrong)

/-- 'haberdashlaw13.RulesTurned': WHATEVER THE INPUT: true; the input reads as it did. -/
def rulesTurnedSpec : ChangeSpec := { name := "rulesTurned", fn := fun _ => fun
  | [d1, d2, d3, d4] => { results := [.lit (.bool true)], args := [d1, d2, d3, d4] }
  | _ => none }
def rulesTurnedRow : OpenClaim := { program := "ytfcmhgneijipgaagreat", sum := "1672b50e3d0a8ca44ab84a3cad6eee596e4c1941ef4f4e9488244cb98ba0da7c", func := "haberdash/haberdashlaw13.RulesTurned", spec := "rulesTurned", unfollowed := true, recurses := true, apart := false }
def RulesTurnedSaid : Prop := rulesTurnedRow.holds Tryz.pinned (OpenSpec.ofChange rulesTurnedSpec)

/-- ITS FALSE NEIGHBOUR: 'it returns false'. Refute it at one input. -/
def rulesTurnedWrong : ChangeSpec := { name := "rulesTurned", fn := fun _ => fun
  | [d1, d2, d3, d4] => { results := [.lit (.bool false)], args := [d1, d2, d3, d4] }
  | _ => none }
def RulesTurnedWrongFalsely : Prop := rulesTurnedRow.holds Tryz.pinned (OpenSpec.ofChange rulesTurnedWrong)

/-- 'haberdashlaw13.RulesSame': WHATEVER THE INPUT: true; the input reads as it did. -/
def rulesSameSpec : ChangeSpec := { name := "rulesSame", fn := fun _ => fun
  | [d1, d2] => { results := [.lit (.bool true)], args := [d1, d2] }
  | _ => none }
def rulesSameRow : OpenClaim := { program := "ytfcmhgneijipgaagreat", sum := "1672b50e3d0a8ca44ab84a3cad6eee596e4c1941ef4f4e9488244cb98ba0da7c", func := "haberdash/haberdashlaw13.RulesSame", spec := "rulesSame", unfollowed := true, recurses := true, apart := false }
def RulesSameSaid : Prop := rulesSameRow.holds Tryz.pinned (OpenSpec.ofChange rulesSameSpec)

/-- ITS FALSE NEIGHBOUR: 'it returns false'. Refute it at one input. -/
def rulesSameWrong : ChangeSpec := { name := "rulesSame", fn := fun _ => fun
  | [d1, d2] => { results := [.lit (.bool false)], args := [d1, d2] }
  | _ => none }
def RulesSameWrongFalsely : Prop := rulesSameRow.holds Tryz.pinned (OpenSpec.ofChange rulesSameWrong)

/-- 'haberdashlaw13.RulesZones': WHATEVER THE INPUT: true; the input reads as it did. -/
def rulesZonesSpec : ChangeSpec := { name := "rulesZones", fn := fun _ => fun
  | [d1, d2, d3, d4] => { results := [.lit (.bool true)], args := [d1, d2, d3, d4] }
  | _ => none }
def rulesZonesRow : OpenClaim := { program := "ytfcmhgneijipgaagreat", sum := "1672b50e3d0a8ca44ab84a3cad6eee596e4c1941ef4f4e9488244cb98ba0da7c", func := "haberdash/haberdashlaw13.RulesZones", spec := "rulesZones", unfollowed := true, recurses := true, apart := false }
def RulesZonesSaid : Prop := rulesZonesRow.holds Tryz.pinned (OpenSpec.ofChange rulesZonesSpec)

/-- ITS FALSE NEIGHBOUR: 'it returns false'. Refute it at one input. -/
def rulesZonesWrong : ChangeSpec := { name := "rulesZones", fn := fun _ => fun
  | [d1, d2, d3, d4] => { results := [.lit (.bool false)], args := [d1, d2, d3, d4] }
  | _ => none }
def RulesZonesWrongFalsely : Prop := rulesZonesRow.holds Tryz.pinned (OpenSpec.ofChange rulesZonesWrong)

/-- 'haberdashlaw13.RulesMany': WHATEVER THE INPUT: true; the input reads as it did. -/
def rulesManySpec : ChangeSpec := { name := "rulesMany", fn := fun _ => fun
  | [d] => { results := [.lit (.bool true)], args := [d] }
  | _ => none }
def rulesManyRow : OpenClaim := { program := "ytfcmhgneijipgaagreat", sum := "1672b50e3d0a8ca44ab84a3cad6eee596e4c1941ef4f4e9488244cb98ba0da7c", func := "haberdash/haberdashlaw13.RulesMany", spec := "rulesMany", unfollowed := true, recurses := true, apart := false }
def RulesManySaid : Prop := rulesManyRow.holds Tryz.pinned (OpenSpec.ofChange rulesManySpec)

/-- ITS FALSE NEIGHBOUR: 'it returns false'. Refute it at one input. -/
def rulesManyWrong : ChangeSpec := { name := "rulesMany", fn := fun _ => fun
  | [d] => { results := [.lit (.bool false)], args := [d] }
  | _ => none }
def RulesManyWrongFalsely : Prop := rulesManyRow.holds Tryz.pinned (OpenSpec.ofChange rulesManyWrong)

/- THE SECOND FORM. 'bulk': how many values and letters a reading holds, each counted each time it is reached (what is shared counts as often as it is met; a slice's spare places count too). A statement '..UptoSaid' is the law's where the arguments, and the package variables that the reading takes, are together of bulk at most 1048576: NARROWER than '..Said'. Prove '..Said' where nothing that the law and all that it calls make is longer than what came in: it says more and counts as full. Else prove '..UptoSaid'. A law counts once. -/
mutual
def uptoBulk {H : Type} : DataW H → Nat
  | .lit (.string bytes) => bytes.length + 1
  | .lit _ => 1
  | .nil => 1
  | .ptr d => uptoBulk d + 1
  | .slice elems spare => uptoBulkAll elems + uptoBulkAll spare + 1
  | .agg parts => uptoBulkAll parts + 1
  | .iface _ d => uptoBulk d + 1
  | .map entries => uptoBulkEntries entries + 1
  | .held _ => 1
def uptoBulkAll {H : Type} : List (DataW H) → Nat
  | [] => 0
  | d :: r => uptoBulk d + uptoBulkAll r
def uptoBulkEntries {H : Type} : List (Lit × DataW H) → Nat
  | [] => 0
  | x :: r => uptoBulkEntry x + uptoBulkEntries r
def uptoBulkEntry {H : Type} : Lit × DataW H → Nat
  | (.string bytes, d) => bytes.length + uptoBulk d + 1
  | (_, d) => uptoBulk d + 1
 end
def uptoSmall : (H : Type) → List (DataW H) → Bool := fun _ ds => decide (uptoBulkAll ds ≤ 1048576)
def OpenSpec.upto (s : _root_.Go.ChangeSpec) : _root_.Go.OpenSpec := { _root_.Go.OpenSpec.ofChange s with cond := some uptoSmall }

/-- 'haberdashlaw13.RulesRight', WHERE WHAT IT READS IS OF BULK AT MOST 1048576: true; the input reads as it did. -/
def rulesRightUptoRow : OpenClaim := { program := "ytfcmhgneijipgaagreat", sum := "1672b50e3d0a8ca44ab84a3cad6eee596e4c1941ef4f4e9488244cb98ba0da7c", func := "haberdash/haberdashlaw13.RulesRight", spec := "rulesRight", unfollowed := true, recurses := true, apart := false, narrowed := true }
def RulesRightUptoSaid : Prop := rulesRightUptoRow.holds Tryz.pinned (OpenSpec.upto rulesRightSpec)

/-- 'haberdashlaw13.RulesTurned', WHERE WHAT IT READS IS OF BULK AT MOST 1048576: true; the input reads as it did. -/
def rulesTurnedUptoRow : OpenClaim := { program := "ytfcmhgneijipgaagreat", sum := "1672b50e3d0a8ca44ab84a3cad6eee596e4c1941ef4f4e9488244cb98ba0da7c", func := "haberdash/haberdashlaw13.RulesTurned", spec := "rulesTurned", unfollowed := true, recurses := true, apart := false, narrowed := true }
def RulesTurnedUptoSaid : Prop := rulesTurnedUptoRow.holds Tryz.pinned (OpenSpec.upto rulesTurnedSpec)

/-- 'haberdashlaw13.RulesSame', WHERE WHAT IT READS IS OF BULK AT MOST 1048576: true; the input reads as it did. -/
def rulesSameUptoRow : OpenClaim := { program := "ytfcmhgneijipgaagreat", sum := "1672b50e3d0a8ca44ab84a3cad6eee596e4c1941ef4f4e9488244cb98ba0da7c", func := "haberdash/haberdashlaw13.RulesSame", spec := "rulesSame", unfollowed := true, recurses := true, apart := false, narrowed := true }
def RulesSameUptoSaid : Prop := rulesSameUptoRow.holds Tryz.pinned (OpenSpec.upto rulesSameSpec)

/-- 'haberdashlaw13.RulesZones', WHERE WHAT IT READS IS OF BULK AT MOST 1048576: true; the input reads as it did. -/
def rulesZonesUptoRow : OpenClaim := { program := "ytfcmhgneijipgaagreat", sum := "1672b50e3d0a8ca44ab84a3cad6eee596e4c1941ef4f4e9488244cb98ba0da7c", func := "haberdash/haberdashlaw13.RulesZones", spec := "rulesZones", unfollowed := true, recurses := true, apart := false, narrowed := true }
def RulesZonesUptoSaid : Prop := rulesZonesUptoRow.holds Tryz.pinned (OpenSpec.upto rulesZonesSpec)

/-- 'haberdashlaw13.RulesMany', WHERE WHAT IT READS IS OF BULK AT MOST 1048576: true; the input reads as it did. -/
def rulesManyUptoRow : OpenClaim := { program := "ytfcmhgneijipgaagreat", sum := "1672b50e3d0a8ca44ab84a3cad6eee596e4c1941ef4f4e9488244cb98ba0da7c", func := "haberdash/haberdashlaw13.RulesMany", spec := "rulesMany", unfollowed := true, recurses := true, apart := false, narrowed := true }
def RulesManyUptoSaid : Prop := rulesManyUptoRow.holds Tryz.pinned (OpenSpec.upto rulesManySpec)

end Rows
end Go.Proofs.YtfcmhgneijipgaaGreat
