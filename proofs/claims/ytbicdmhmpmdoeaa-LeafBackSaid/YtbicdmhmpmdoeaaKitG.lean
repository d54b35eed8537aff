/- Opening a law's arguments that are structs or arrays by value: cell by cell. Nothing here speaks of the program. -/
import Derived.Test.YtbicdmhmpmdoeaaKitF
set_option linter.unusedVariables false
namespace Go.Proofs.Ytbicdmhmpmdoeaa.Hk
open Go.ChangeShapes Go.WideShapes Go.ChangeAt Go.RowKit Go.Deep

section
variable {H : Type} {enc : TypeId × Value → H} {P : Program} {base : Nat} {spare : Nat → Bool} {held : Bool} {w : World} {t e : TypeId}

/-- Cells that read as a value of the type. -/
def Val (enc : TypeId × Value → H) (P : Program) (base : Nat) (spare : Nat → Bool) (held : Bool) (w : World) (t : TypeId) (cs : List Value) : Prop :=
  ∃ (fuel : Nat) (x : DataW H × List MemPlace), DataW.trod enc P w base spare held fuel t cs = some x

theorem Val.of {v : Value} {d : DataW H} {ps : List MemPlace} (hd : DataW.Trod enc P w base spare held t v d ps) {cs : Array Value} (hv : v = .agg cs) : Val enc P base spare held w t cs.toList := by
  subst hv
  obtain ⟨fuel, hf⟩ := hd
  exact ⟨fuel, _, hf⟩

theorem Val.int {cs : List Value} (h : Val enc P base spare held w t cs) {k : IntKind} (hu : P.underlying t = some (.int k)) : ∃ z : Int, cs = [.int k z] ∧ (Lit.int k z).wf = true := by
  obtain ⟨fuel, x, htr⟩ := h
  obtain ⟨z, hz, _, hwf⟩ := DataW.trod_int hu htr
  exact ⟨z, hz, hwf⟩

theorem Val.flag {cs : List Value} (h : Val enc P base spare held w t cs) (hu : P.underlying t = some .bool) : ∃ x : Bool, cs = [.bool x] := by
  obtain ⟨fuel, x, htr⟩ := h
  obtain ⟨z, hz, _⟩ := DataW.trod_bool hu htr
  exact ⟨z, hz⟩

theorem Val.str {cs : List Value} (h : Val enc P base spare held w t cs) (hu : P.underlying t = some .string) : ∃ s : ByteArray, cs = [.string s] ∧ s.size ≤ maxLen := by
  obtain ⟨fuel, x, htr⟩ := h
  obtain ⟨s, hs, _, hl⟩ := DataW.trod_string hu htr
  exact ⟨s, hs, hl⟩

theorem Val.field {cs : List Value} (h : Val enc P base spare held w t cs) {fs : Array Field} (hu : P.underlying t = some (.struct fs)) (j : Nat) (f : Field) (hj : fs[j]? = some f) : Val enc P base spare held w f.type ((cs.drop f.offset).take (P.cellsOf f.type)) := by
  obtain ⟨fuel, x, htr⟩ := h
  obtain ⟨xs, n', _, _, _, hxs, hfld⟩ := DataW.trod_struct hu htr
  have h1 := hfld j f hj
  have hjl : j < xs.length := by have := (Array.getElem?_eq_some_iff.1 hj).1; omega
  rw [List.getElem?_eq_getElem hjl] at h1
  exact ⟨n', _, h1⟩

theorem Val.item {cs : List Value} (h : Val enc P base spare held w t cs) {n : Nat} (hu : P.underlying t = some (.array n e)) (i : Nat) (hi : i < n) : Val enc P base spare held w e ((cs.drop (i * P.cellsOf e)).take (P.cellsOf e)) := by
  obtain ⟨fuel, x, htr⟩ := h
  obtain ⟨xs, m, _, _, _, hxs, hel⟩ := DataW.trod_array hu htr
  have h1 := hel i hi
  rw [List.getElem?_eq_getElem (by omega)] at h1
  exact ⟨m, _, h1⟩

/-- A field of one cell. -/
theorem cell_of {cs : List Value} {o : Nat} {v : Value} (h : (cs.drop o).take 1 = [v]) : cs[o]? = some v := by
  have h0 := congrArg (fun l : List Value => l[0]?) h
  simp only [List.getElem?_take, List.getElem?_drop] at h0
  simpa using h0

/-- A field of one cell, whose value stands there. -/
theorem Val.at {cs : List Value} (h : Val enc P base spare held w t cs) {fs : Array Field} (hu : P.underlying t = some (.struct fs)) (j o : Nat) (T : TypeId) (hj : (fs[j]?).map (fun f => (f.offset, f.type)) = some (o, T)) (hc : P.cellsOf T = 1) (v : Value) (hv : cs[o]? = some v) : Val enc P base spare held w T [v] := by
  cases hf : fs[j]? with
  | none => rw [hf] at hj; cases hj
  | some f =>
    rw [hf] at hj
    have h0 : (f.offset, f.type) = (o, T) := Option.some.inj hj
    injection h0 with h1 h2
    have h3 := h.field hu j f hf
    rw [h1, h2, hc] at h3
    have h4 : (cs.drop o).take 1 = [v] := by
      apply List.ext_getElem?
      intro k
      rw [List.getElem?_take, List.getElem?_drop]
      cases k with
      | zero => simpa using hv
      | succ k => simp
    rw [h4] at h3
    exact h3

/-- A slice of bytes within. -/
theorem Val.bytes {cs : List Value} (h : Val enc P base spare held w t cs) (ht : P.underlying t = some (.slice e)) (he : P.underlying e = some (.int .u8)) (hc : P.cellsOf e = 1) :
    ∃ A n c l, cs = [.slice A n c] ∧ By.Bys w w.heap.size A n l ∧ n ≤ 9223372036854775807 ∧ (A = none → n = 0 ∧ c = 0) ∧ n ≤ c := by
  obtain ⟨fuel, x, htr⟩ := h
  have hcs : ∃ a n c, cs = [.slice a n c] := by
    rcases DataW.trod_slice ht htr with ⟨hv, _⟩ | ⟨a, len, cap, elems, rest, n, _, hv, _⟩
    · exact ⟨_, _, _, hv⟩
    · exact ⟨_, _, _, hv⟩
  obtain ⟨a0, n0, c0, rfl⟩ := hcs
  rcases open_ints ht he hc htr with ⟨hv, _⟩ | ⟨a, len, cap, zs, hv, _, hl, hm, hz, _, hcell, hwf⟩
  · have hv' : Value.slice a0 n0 c0 = .slice none 0 0 := by simpa using hv
    exact ⟨none, 0, 0, [], by rw [hv'], By.Bys.nil _ _ _, by omega, fun _ => ⟨rfl, rfl⟩, by omega⟩
  · have hv' : Value.slice a0 n0 c0 = .slice (some a) len cap := by simpa using hv
    have hzl : len ≤ zs.length := by rw [hz]; split <;> omega
    unfold maxLen at hm
    refine ⟨some a, len, cap, (zs.take len).map fun z => UInt8.ofNat z.toNat, by rw [hv'], ⟨by rw [List.length_map, List.length_take]; omega, fun k b hb => ?_⟩, by omega, (fun h => by cases h), hl⟩
    have hk : k < len := by
      have := (List.getElem?_eq_some_iff.1 hb).1
      rw [List.length_map, List.length_take] at this
      omega
    obtain ⟨g, off, rfl, hcs⟩ := ints_at hcell (by omega)
    have hk2 : k < zs.length := by omega
    refine ⟨g, off, rfl, World.block_lt_of_cell? w _ (hcs k hk2), ?_⟩
    rw [hcs k hk2]
    have hb2 := bounds_u8 (hwf (zs[k]) (List.getElem_mem hk2))
    rw [List.getElem?_map, List.getElem?_take, if_pos hk, List.getElem?_eq_getElem hk2] at hb
    have hb3 : UInt8.ofNat zs[k].toNat = b := by simpa using hb
    rw [← hb3, By.toNat_small (by omega)]
    have : zs.getD k 0 = zs[k] := by simp [List.getD, hk2]
    rw [this]
    congr 2
    omega

/-- An array of bytes. -/
theorem open_array8 {v : Value} {d : DataW H} {ps : List MemPlace} {r : Reach} {b0 n : Nat} (ht : P.underlying t = some (.array n e)) (he : P.underlying e = some (.int .u8)) (hc : P.cellsOf e = 1) (hct : P.cellsOf t = n)
    (hval : Value.okWide P w r b0 t v) (hd : DataW.Trod enc P w base spare held t v d ps) : ∃ s : List UInt8, s.length = n ∧ v = .agg (By.cellsB s).toArray := by
  simp only [Value.okWide, ht] at hval
  obtain ⟨cs, rfl, hsz, _⟩ := hval
  rw [hct] at hsz
  have hv := Val.of hd rfl
  have hz : ∀ i, i < n → ∃ b : UInt8, cs.toList[i]? = some (.int .u8 (b.toNat : Int)) := fun i hi => by
    have h1 := hv.item ht i hi
    rw [hc, Nat.mul_one] at h1
    obtain ⟨z, hz, hwf⟩ := h1.int he
    have hb : 0 ≤ z ∧ z ≤ 255 := bounds_u8 hwf
    refine ⟨UInt8.ofNat z.toNat, ?_⟩
    rw [By.toNat_small (by omega), cell_of hz]
    congr 2
    omega
  obtain ⟨f, hf⟩ := Go.Deep.choose_lt (α := UInt8) (n := n) (p := fun i b => cs.toList[i]? = some (.int .u8 (b.toNat : Int))) hz
  refine ⟨(List.range n).map f, by simp, ?_⟩
  congr 1
  apply Array.ext'
  apply List.ext_getElem?
  intro i
  have hcl : cs.toList.length = n := by simpa using hsz
  rcases Nat.lt_or_ge i n with hi | hi
  · rw [hf i hi, show (By.cellsB ((List.range n).map f)).toArray.toList = By.cellsB ((List.range n).map f) from rfl, By.cellsB_at, List.getElem?_map, List.getElem?_range hi]
    rfl
  · rw [List.getElem?_eq_none (by omega), List.getElem?_eq_none (by rw [show (By.cellsB ((List.range n).map f)).toArray.toList = By.cellsB ((List.range n).map f) from rfl, By.cellsB_length, List.length_map, List.length_range]; omega)]
end

end Go.Proofs.Ytbicdmhmpmdoeaa.Hk
