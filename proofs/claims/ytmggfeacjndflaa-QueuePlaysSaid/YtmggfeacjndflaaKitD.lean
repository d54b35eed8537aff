/- Opening a law's argument that is a slice of structs, field by field: nothing here speaks of the program. -/
import Derived.Test.YtmggfeacjndflaaKitB
import Derived.Deep.Slices
import Derived.ChangeSlices
set_option linter.unusedVariables false
namespace Go.Proofs.Ytmggfeacjndflaa.Hk
open Go.ChangeShapes Go.WideShapes Go.ChangeAt Go.RowKit Go.Deep

section
variable {H : Type} {enc : TypeId × Value → H} {P : Program}

/-- What every element has at the place of a field that is an int. -/
def IntField (P : Program) (w : World) (b at_ : Nat) (f : Field) : Prop := P.underlying f.type = some (.int .i64) → P.cellsOf f.type = 1 → ∃ z : Int, w.cell? ⟨b, at_ + f.offset, none⟩ = some (.int .i64 z) ∧ -9223372036854775808 ≤ z ∧ z ≤ 9223372036854775807

theorem open_structs {t e : TypeId} {C base : Nat} {fs : Array Field} {w : World} {spare : Nat → Bool} {held : Bool} {v : Value} {d : DataW H} {ps : List MemPlace} {r : Reach} {b0 : Nat}
    (ht : P.underlying t = some (.slice e)) (he : P.underlying e = some (.struct fs)) (hc : P.cellsOf e = C) (hC : 0 < C) (hfs : ∀ f ∈ fs, f.offset < C) (hval : Value.okWide P w r b0 t v) (hd : DataW.Trod enc P w base spare held t v d ps) :
    ∃ A n c, v = .slice A n c ∧ n ≤ 9223372036854775807 ∧ (A = none → n = 0 ∧ c = 0) ∧ ∀ i, i < n → ∃ b off, A = some ⟨b, off, none⟩ ∧ b < w.heap.size ∧ ∀ (j : Nat) (f : Field), fs[j]? = some f → IntField P w b (off + i * C) f := by
  obtain ⟨a0, len0, cap0, rfl⟩ := okWide_slice ht hval
  obtain ⟨fuel, hf⟩ := hd
  rcases open_slice ht hf with ⟨hv, _⟩ | ⟨a, len, cap, m, k, D, Pl, hv, _, hl, hm, hmm, _, hel⟩
  · have hv' : Value.slice a0 len0 cap0 = .slice none 0 0 := by simpa [Value.cells] using hv
    exact ⟨none, 0, 0, hv', by omega, fun _ => ⟨rfl, rfl⟩, fun i hi => by omega⟩
  · have hv' : Value.slice a0 len0 cap0 = .slice (some a) len cap := by simpa [Value.cells] using hv
    have hle : len ≤ m := by rw [hmm]; split <;> omega
    unfold maxLen at hm
    refine ⟨some a, len, cap, hv', by omega, (fun h => by cases h), fun i hi => ?_⟩
    -- the address has no spot: the first element has a cell
    have hspot : ∃ b off, a = ⟨b, off, none⟩ := by
      obtain ⟨cs, hcs, _⟩ := hel 0 (by omega)
      rw [hc] at hcs
      obtain ⟨_, hn, hat⟩ := World.cells?_some hcs
      have h0 := hat 0 hC
      rw [Nat.zero_mul] at h0
      have e0 : (a.add 0).add 0 = a := by simp [Addr.add]
      rw [e0, List.getElem?_eq_getElem (by omega)] at h0
      obtain ⟨b, off, spot⟩ := a
      have hs : spot = none := by simpa using World.cell?_spot h0
      subst hs
      exact ⟨b, off, rfl⟩
    obtain ⟨b, off, rfl⟩ := hspot
    obtain ⟨cs, hcs, htr⟩ := hel i (by omega)
    rw [hc] at hcs
    obtain ⟨_, hn, hat⟩ := World.cells?_some hcs
    obtain ⟨xs, n', _, _, _, hxs, hfld⟩ := DataW.trod_struct he htr
    have hat2 : ∀ q, q < C → w.cell? ⟨b, off + i * C + q, none⟩ = cs[q]? := fun q hq => by
      have := hat q hq
      rw [Go.WideShapes.add_plain, Go.WideShapes.add_plain] at this
      exact this
    refine ⟨b, off, rfl, ?_, fun j f hj hu hone => ?_⟩
    · have h0 := hat2 0 hC
      rw [List.getElem?_eq_getElem (by omega)] at h0
      exact World.block_lt_of_cell? w _ h0
    · have hoff := hfs f (Array.mem_of_getElem? hj)
      have h1 := hfld j f hj
      rw [hone] at h1
      cases hx : xs[j]? with
      | none =>
        exfalso
        have hjl : j < fs.size := (Array.getElem?_eq_some_iff.1 hj).1
        have hxl : xs.length ≤ j := List.getElem?_eq_none_iff.1 hx
        omega
      | some x =>
        rw [hx] at h1
        obtain ⟨z, hz, _, hwf⟩ := DataW.trod_int hu h1
        have hz0 := congrArg (fun l : List Value => l[0]?) hz
        simp only [List.getElem?_take, List.getElem?_drop] at hz0
        refine ⟨z, ?_, bounds_i64 hwf⟩
        rw [hat2 _ hoff]
        simpa using hz0
end

end Go.Proofs.Ytmggfeacjndflaa.Hk
