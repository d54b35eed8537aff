/- Sets of texts: a map of the call's own, of texts to nothing. -/
import Derived.Test.YtgimcleeamlgcaaPmC
import Derived.Test.YtgimcleeamlgcaaHpB
import Derived.Maps.OwnSet
import Derived.StringKeys
set_option maxRecDepth 100000

set_option linter.unusedVariables false
namespace Go.Proofs.Ytgimcleeamlgcaa.Pm
open Go.ChangeShapes Go.WideShapes Go.ChangeAt Go.RowKit
open Sc (hasB)

/-- A text, as a key. -/
def lit (s : ByteArray) : Lit := .string s.data.toList

theorem lit_key (s : ByteArray) : WideAt.IsKeyLit (lit s) := by unfold WideAt.IsKeyLit lit; trivial

theorem lit_same (a s : ByteArray) : (lit a).sameKey (lit s) = Sr.same a s := by
  unfold lit Lit.sameKey Sr.same
  rw [ByteArray.toList_eq, ByteArray.toList_eq]

abbrev unit : DataW Unit := .agg []

abbrev setD (l : List ByteArray) : DataW Unit := Maps.setOf unit (l.map lit)

theorem set_keys (l : List ByteArray) : ∀ x ∈ l.map lit, WideAt.IsKeyLit x := fun x hx => by
  obtain ⟨s, _, rfl⟩ := List.mem_map.1 hx
  exact lit_key s

theorem set_has (l : List ByteArray) (s : ByteArray) : Maps.has (setD l) (lit s) = hasB l s := by
  unfold setD
  rw [Maps.has_setOf unit (lit s) (l.map lit) (set_keys l), List.any_map]
  unfold hasB
  congr 1
  funext a
  exact lit_same a s

theorem set_snoc (l : List ByteArray) (s : ByteArray) : setD (l ++ [s]) = (setD l).put (lit s) unit := by
  unfold setD
  rw [List.map_append]
  exact Maps.setOf_snoc unit (l.map lit) (lit s)

theorem set_more (l : List ByteArray) (s : ByteArray) : Maps.size (setD (l ++ [s])) = if hasB l s then Maps.size (setD l) else Maps.size (setD l) + 1 := by
  rw [set_snoc, Maps.size_put (Maps.tidy_setOf unit (l.map lit) (set_keys l)), set_has]

theorem string_keys : Maps.Keyed Try.prog 9 := Maps.string_keyed Try.underlying9

/-- Block b is the set of such texts. -/
def SetAt (w : World) (b : Nat) (l : List ByteArray) : Prop := w.ownsMap Try.prog 9 unitElem b l.length (setD l)

section
variable {w w' : World} {b : Nat} {l : List ByteArray}
theorem SetAt.made (w : World) : SetAt (w.alloc (.map #[] 0)) w.heap.size [] := World.ownsMap_made w Try.prog 9 unitElem

theorem SetAt.lt (h : SetAt w b l) : b < w.heap.size := World.ownsMap.lt h

theorem SetAt.kept {row : Option Nat} (h : SetAt w b l) (hg : w.grownBy w' row) (hne : some b ≠ row) : SetAt w' b l := World.ownsMap.kept h hg hne

theorem SetAt.below (h : SetAt w b l) (hb : Below w.heap.size w w') : SetAt w' b l := World.ownsMap.kept (row := none) h (Qu.turned_none hb _) (by simp)

theorem SetAt.put (h : SetAt w b l) (hl : l.length < 1000000000000) {s : ByteArray} (hs : s.size ≤ maxLen) : ∃ w', (Instr.mapUpdate 78 (.map (some b)) (.string s) (.agg #[])).run Try.prog w = .ok () w' ∧ SetAt w' b (l ++ [s]) ∧ w.grownBy w' (some b) := by
  obtain ⟨w', h1, h2, h3⟩ := World.ownsMap.store h string_keys Try.underlying78 (by unfold maxLen; omega) (Go.WideMaps.keyOf_string_mk Try.underlying9 hs) unitElem_mk
  refine ⟨w', h1, ?_, h3.grown⟩
  unfold SetAt
  rw [set_snoc, List.length_append]
  exact h2
end

theorem make_set (W : World) (k : Int) : (Instr.makeMap 78 (some (.int .i64 k))).run Try.prog W = .ok (.map (some W.heap.size)) (W.alloc (.map #[] 0)) := by
  have hu := Try.underlying78
  unfold Instr.makeMap
  simp only [Sem.run_bind, run_underlying hu, Result.andThen_ok]
  rfl

section
variable {w : World} {ops : Array Oper} {rest : List Oper} {o : Oper} {a : Act} {Q : Exit → Act → World → Prop} {b : Nat} {l : List ByteArray}
/-- One more. -/
theorem wpList_set_put (hg : o.guard = none) (m x v : Operand) (hop : o.op = Op.mapUpdate 78 m x v) (s : ByteArray) (hm : a.eval m = .map (some b)) (hx : a.eval x = .string s) (hv : a.eval v = .agg #[]) (h : SetAt w b l) (hl : l.length < 1000000000000) (hs : s.size ≤ maxLen)
    (hK : ∀ w', SetAt w' b (l ++ [s]) → w.grownBy w' (some b) → wpList Try.prog ops Q rest (a.put o.dst undef) w') : wpList Try.prog ops Q (o :: rest) a w := by
  refine wpList_plain hg fun K' hK' => ?_
  obtain ⟨w', hrun, r1, r2⟩ := h.put hl hs
  unfold Oper.wp
  simp [execOp, hop, hm, hx, hv, hrun, Result.andThen]
  exact hK' _ _ (hK w' r1 r2)

theorem unit_zero (W : World) : (zeroValue 79).run Try.prog W = .ok (.agg #[]) W := by rfl

/-- Is it there? -/
theorem wpList_set_has (hg : o.guard = none) (m x : Operand) (hop : o.op = Op.lookup 78 m x true) (s : ByteArray) (hm : a.eval m = .map (some b)) (hx : a.eval x = .string s) (h : SetAt w b l) (hs : s.size ≤ maxLen)
    (hK : wpList Try.prog ops Q rest (a.put o.dst (.tuple #[.agg #[], .bool (hasB l s)])) w) : wpList Try.prog ops Q (o :: rest) a w := by
  refine wpList_lookup_own_unit w hg m x _ hop 9 79 string_keys Try.underlying78 (unit_zero w) b l.length (setD l) hm h (.string s) (lit s) hx (Go.WideMaps.keyOf_string_mk Try.underlying9 hs) ?_
  rw [set_has]
  exact hK
end

end Go.Proofs.Ytgimcleeamlgcaa.Pm
