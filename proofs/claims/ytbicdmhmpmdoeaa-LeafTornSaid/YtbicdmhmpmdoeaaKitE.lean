/- Opening a law's arguments: a slice of structs, field by field (numbers, texts, flags); a slice of bytes. Nothing here speaks of the program. -/
import Derived.Test.YtbicdmhmpmdoeaaKitB
import Derived.Test.YtbicdmhmpmdoeaaByW
import Derived.Deep.Slices
import Derived.ChangeSlices
import Derived.ChangeMaps5
set_option linter.unusedVariables false
namespace Go.Proofs.Ytbicdmhmpmdoeaa.Hk
open Go.ChangeShapes Go.WideShapes Go.ChangeAt Go.RowKit Go.Deep

section
variable {H : Type} {enc : TypeId × Value → H} {P : Program}

/-- What every element has at the place of a field of one cell. -/
structure CellField (P : Program) (w : World) (b at_ : Nat) (f : Field) : Prop where
  int : P.underlying f.type = some (.int .i64) → ∃ z : Int, w.cell? ⟨b, at_ + f.offset, none⟩ = some (.int .i64 z) ∧ -9223372036854775808 ≤ z ∧ z ≤ 9223372036854775807
  str : P.underlying f.type = some .string → ∃ s : ByteArray, w.cell? ⟨b, at_ + f.offset, none⟩ = some (.string s) ∧ s.size ≤ maxLen
  bool : P.underlying f.type = some .bool → ∃ x : Bool, w.cell? ⟨b, at_ + f.offset, none⟩ = some (.bool x)

theorem open_rows {t e : TypeId} {C base : Nat} {fs : Array Field} {w : World} {spare : Nat → Bool} {held : Bool} {v : Value} {d : DataW H} {ps : List MemPlace} {r : Reach} {b0 : Nat}
    (ht : P.underlying t = some (.slice e)) (he : P.underlying e = some (.struct fs)) (hc : P.cellsOf e = C) (hC : 0 < C) (hfs : ∀ f ∈ fs, f.offset < C) (hval : Value.okWide P w r b0 t v) (hd : DataW.Trod enc P w base spare held t v d ps) :
    ∃ A n c, v = .slice A n c ∧ n ≤ 9223372036854775807 ∧ (A = none → n = 0 ∧ c = 0) ∧ ∀ i, i < n → ∃ b off, A = some ⟨b, off, none⟩ ∧ b < w.heap.size ∧ ∀ (j : Nat) (f : Field), fs[j]? = some f → P.cellsOf f.type = 1 → CellField P w b (off + i * C) f := by
  obtain ⟨a0, len0, cap0, rfl⟩ := okWide_slice ht hval
  obtain ⟨fuel, hf⟩ := hd
  rcases open_slice ht hf with ⟨hv, _⟩ | ⟨a, len, cap, m, k, D, Pl, hv, _, hl, hm, hmm, _, hel⟩
  · have hv' : Value.slice a0 len0 cap0 = .slice none 0 0 := by simpa [Value.cells] using hv
    exact ⟨none, 0, 0, hv', by omega, fun _ => ⟨rfl, rfl⟩, fun i hi => by omega⟩
  · have hv' : Value.slice a0 len0 cap0 = .slice (some a) len cap := by simpa [Value.cells] using hv
    have hle : len ≤ m := by rw [hmm]; split <;> omega
    unfold maxLen at hm
    refine ⟨some a, len, cap, hv', by omega, (fun h => by cases h), fun i hi => ?_⟩
    have hspot : ∃ b off, a = ⟨b, off, none⟩ := by
      obtain ⟨cs, hcs, _⟩ := hel 0 (by omega)
      rw [hc] at hcs
      obtain ⟨_, hn, hat⟩ := World.cells?_some hcs
      have h0 := hat 0 hC
      rw [Nat.zero_mul] at h0
      have e0 : (a.add 0).add 0 = a := by simp [Addr.add]
      rw [e0, List.getElem?_eq_getElem (by omega)] at h0
      obtain ⟨b, off, spot⟩ := a
      have hs : spot = none := by simpa using World.cell?_spot h0
      subst hs
      exact ⟨b, off, rfl⟩
    obtain ⟨b, off, rfl⟩ := hspot
    obtain ⟨cs, hcs, htr⟩ := hel i (by omega)
    rw [hc] at hcs
    obtain ⟨_, hn, hat⟩ := World.cells?_some hcs
    obtain ⟨xs, n', _, _, _, hxs, hfld⟩ := DataW.trod_struct he htr
    have hat2 : ∀ q, q < C → w.cell? ⟨b, off + i * C + q, none⟩ = cs[q]? := fun q hq => by
      have := hat q hq
      rw [Go.WideShapes.add_plain, Go.WideShapes.add_plain] at this
      exact this
    refine ⟨b, off, rfl, ?_, fun j f hj hone => ?_⟩
    · have h0 := hat2 0 hC
      rw [List.getElem?_eq_getElem (by omega)] at h0
      exact World.block_lt_of_cell? w _ h0
    · have hoff := hfs f (Array.mem_of_getElem? hj)
      have h1 := hfld j f hj
      rw [hone] at h1
      cases hx : xs[j]? with
      | none =>
        exfalso
        have hjl : j < fs.size := (Array.getElem?_eq_some_iff.1 hj).1
        have hxl : xs.length ≤ j := List.getElem?_eq_none_iff.1 hx
        omega
      | some x =>
        rw [hx] at h1
        have fetch : ∀ u : Value, (cs.drop f.offset).take 1 = [u] → w.cell? ⟨b, off + i * C + f.offset, none⟩ = some u := fun u hu => by
          have hz0 := congrArg (fun l : List Value => l[0]?) hu
          simp only [List.getElem?_take, List.getElem?_drop] at hz0
          rw [hat2 _ hoff]
          simpa using hz0
        refine ⟨fun hu => ?_, fun hu => ?_, fun hu => ?_⟩
        · obtain ⟨z, hz, _, hwf⟩ := DataW.trod_int hu h1
          exact ⟨z, fetch _ hz, bounds_i64 hwf⟩
        · obtain ⟨s, hz, _, hs⟩ := DataW.trod_string hu h1
          exact ⟨s, fetch _ hz, hs⟩
        · obtain ⟨x, hz, _⟩ := DataW.trod_bool hu h1
          exact ⟨x, fetch _ hz⟩

/-- A slice of bytes. -/
theorem open_bytes {t e : TypeId} {base : Nat} {w : World} {spare : Nat → Bool} {held : Bool} {v : Value} {d : DataW H} {ps : List MemPlace} (ht : P.underlying t = some (.slice e)) (he : P.underlying e = some (.int .u8)) (hc : P.cellsOf e = 1)
    {r : Reach} {b0 : Nat} (hval : Value.okWide P w r b0 t v) (hd : DataW.Trod enc P w base spare held t v d ps) : ∃ A n c l, v = .slice A n c ∧ By.Bys w w.heap.size A n l ∧ n ≤ 9223372036854775807 ∧ (A = none → n = 0 ∧ c = 0) ∧ n ≤ c := by
  obtain ⟨a0, len0, cap0, rfl⟩ := okWide_slice ht hval
  obtain ⟨fuel, hf⟩ := hd
  rcases open_ints ht he hc hf with ⟨hv, _⟩ | ⟨a, len, cap, zs, hv, _, hl, hm, hz, _, hcell, hwf⟩
  · have hv' : Value.slice a0 len0 cap0 = .slice none 0 0 := by simpa [Value.cells] using hv
    exact ⟨none, 0, 0, [], hv', By.Bys.nil _ _ _, by omega, fun _ => ⟨rfl, rfl⟩, by omega⟩
  · have hv' : Value.slice a0 len0 cap0 = .slice (some a) len cap := by simpa [Value.cells] using hv
    have hzl : len ≤ zs.length := by rw [hz]; split <;> omega
    unfold maxLen at hm
    refine ⟨some a, len, cap, (zs.take len).map fun z => UInt8.ofNat z.toNat, hv', ⟨by rw [List.length_map, List.length_take]; omega, fun k b hb => ?_⟩, by omega, (fun h => by cases h), hl⟩
    have hk : k < len := by
      have := (List.getElem?_eq_some_iff.1 hb).1
      rw [List.length_map, List.length_take] at this
      omega
    obtain ⟨g, off, rfl, hcs⟩ := ints_at hcell (by omega)
    have hk2 : k < zs.length := by omega
    refine ⟨g, off, rfl, World.block_lt_of_cell? w _ (hcs k hk2), ?_⟩
    rw [hcs k hk2]
    have hb2 := bounds_u8 (hwf (zs[k]) (List.getElem_mem hk2))
    rw [List.getElem?_map, List.getElem?_take, if_pos hk, List.getElem?_eq_getElem hk2] at hb
    have hb3 : UInt8.ofNat zs[k].toNat = b := by simpa using hb
    rw [← hb3, By.toNat_small (by omega)]
    have : zs.getD k 0 = zs[k] := by simp [List.getD, hk2]
    rw [this]
    congr 2
    omega
end

end Go.Proofs.Ytbicdmhmpmdoeaa.Hk
