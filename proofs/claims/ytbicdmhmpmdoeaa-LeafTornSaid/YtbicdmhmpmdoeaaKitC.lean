/- Opening a law's arguments that are slices: nothing here speaks of the program. -/
import Derived.Test.YtbicdmhmpmdoeaaKitB
import Derived.Test.YtbicdmhmpmdoeaaHlA
import Derived.ChangeSlices
set_option linter.unusedVariables false
namespace Go.Proofs.Ytbicdmhmpmdoeaa.Hk
open Go.ChangeShapes Go.WideShapes Go.ChangeAt Go.RowKit

section
variable {H : Type} {enc : TypeId × Value → H} {P : Program}

/-- A slice of int64 or int. -/
theorem open_ints_at {t e : TypeId} {base : Nat} {w : World} {spare : Nat → Bool} {held : Bool} {v : Value} {d : DataW H} {ps : List MemPlace} (ht : P.underlying t = some (.slice e)) (he : P.underlying e = some (.int .i64)) (hc : P.cellsOf e = 1)
    {r : Reach} {b0 : Nat} (hval : Value.okWide P w r b0 t v) (hd : DataW.Trod enc P w base spare held t v d ps) : ∃ A n c f, v = .slice A n c ∧ Hl.Ints w w.heap.size A n f ∧ n ≤ 9223372036854775807 ∧ (∀ k, k < n → -9223372036854775808 ≤ f k ∧ f k ≤ 9223372036854775807) ∧ (A = none → n = 0 ∧ c = 0) := by
  obtain ⟨a0, len0, cap0, rfl⟩ := okWide_slice ht hval
  obtain ⟨fuel, hf⟩ := hd
  rcases open_ints ht he hc hf with ⟨hv, _⟩ | ⟨a, len, cap, zs, hv, _, hl, hm, hz, _, hcell, hwf⟩
  · have hv' : Value.slice a0 len0 cap0 = .slice none 0 0 := by simpa [Value.cells] using hv
    exact ⟨none, 0, 0, fun _ => 0, hv', fun k hk => by omega, by omega, fun k hk => by omega, fun _ => ⟨rfl, rfl⟩⟩
  · have hv' : Value.slice a0 len0 cap0 = .slice (some a) len cap := by simpa [Value.cells] using hv
    have hzl : len ≤ zs.length := by rw [hz]; split <;> omega
    unfold maxLen at hm
    refine ⟨some a, len, cap, fun k => zs.getD k 0, hv', fun k hk => ?_, by omega, fun k hk => ?_, fun h => by cases h⟩
    · obtain ⟨b, off, rfl, hcs⟩ := ints_at hcell (by omega)
      exact ⟨b, off, rfl, World.block_lt_of_cell? w _ (hcs k (by omega)), hcs k (by omega)⟩
    · have hk2 : k < zs.length := by omega
      have := bounds_i64 (hwf (zs[k]) (List.getElem_mem hk2))
      simpa [List.getD, hk2] using this
end

end Go.Proofs.Ytbicdmhmpmdoeaa.Hk
