/- Opening a law's arguments, whatever their depth: what lies at a place, read as a type has it: numbers, texts, flags, structs, slices of any of these. Nothing here speaks of the program. -/
import Derived.Test.YtbicdmhmpmdoeaaKitE
import Derived.Test.YtbicdmhmpmdoeaaHlA
import Derived.ChangeArms
set_option linter.unusedVariables false
namespace Go.Proofs.Ytbicdmhmpmdoeaa.Hk
open Go.ChangeShapes Go.WideShapes Go.ChangeAt Go.RowKit Go.Deep

section
variable {H : Type} {enc : TypeId × Value → H} {P : Program} {base : Nat} {spare : Nat → Bool} {held : Bool} {w : World} {b o : Nat} {t e : TypeId}

/-- What lies at a place can be read as a value of the type. -/
def Lies (enc : TypeId × Value → H) (P : Program) (base : Nat) (spare : Nat → Bool) (held : Bool) (w : World) (b o : Nat) (t : TypeId) : Prop :=
  ∃ (cs : List Value) (fuel : Nat) (x : DataW H × List MemPlace), cs.length = P.cellsOf t ∧ (∀ q, q < P.cellsOf t → w.cell? ⟨b, o + q, none⟩ = cs[q]?) ∧ DataW.trod enc P w base spare held fuel t cs = some x

theorem Lies.one {v : Value} {cs : List Value} (hc : P.cellsOf t = 1) (hat : ∀ q, q < P.cellsOf t → w.cell? ⟨b, o + q, none⟩ = cs[q]?) (h : cs = [v]) : w.cell? ⟨b, o, none⟩ = some v := by
  have h0 := hat 0 (by omega)
  rw [h, Nat.add_zero] at h0
  exact h0

theorem wf_bounds {k : IntKind} {n : Int} (h : (Lit.int k n).wf = true) : k.min ≤ n ∧ n ≤ k.max := by
  unfold Lit.wf at h
  simpa using h

theorem Lies.int (h : Lies enc P base spare held w b o t) {k : IntKind} (hu : P.underlying t = some (.int k)) (hc : P.cellsOf t = 1) : ∃ z : Int, w.cell? ⟨b, o, none⟩ = some (.int k z) ∧ (Lit.int k z).wf = true := by
  obtain ⟨cs, fuel, x, _, hat, htr⟩ := h
  obtain ⟨z, hz, _, hwf⟩ := DataW.trod_int hu htr
  exact ⟨z, Lies.one hc hat hz, hwf⟩

theorem Lies.int64 (h : Lies enc P base spare held w b o t) (hu : P.underlying t = some (.int .i64)) (hc : P.cellsOf t = 1) : ∃ z : Int, w.cell? ⟨b, o, none⟩ = some (.int .i64 z) ∧ -9223372036854775808 ≤ z ∧ z ≤ 9223372036854775807 := by
  obtain ⟨z, hz, hwf⟩ := h.int hu hc
  exact ⟨z, hz, bounds_i64 hwf⟩

theorem Lies.byte (h : Lies enc P base spare held w b o t) (hu : P.underlying t = some (.int .u8)) (hc : P.cellsOf t = 1) : ∃ z : UInt8, w.cell? ⟨b, o, none⟩ = some (.int .u8 (z.toNat : Int)) := by
  obtain ⟨z, hz, hwf⟩ := h.int hu hc
  have hb : 0 ≤ z ∧ z ≤ 255 := bounds_u8 hwf
  refine ⟨UInt8.ofNat z.toNat, ?_⟩
  rw [By.toNat_small (by omega), hz]
  congr 2
  omega

theorem Lies.str (h : Lies enc P base spare held w b o t) (hu : P.underlying t = some .string) (hc : P.cellsOf t = 1) : ∃ s : ByteArray, w.cell? ⟨b, o, none⟩ = some (.string s) ∧ s.size ≤ maxLen := by
  obtain ⟨cs, fuel, x, _, hat, htr⟩ := h
  obtain ⟨s, hs, _, hl⟩ := DataW.trod_string hu htr
  exact ⟨s, Lies.one hc hat hs, hl⟩

theorem Lies.flag (h : Lies enc P base spare held w b o t) (hu : P.underlying t = some .bool) (hc : P.cellsOf t = 1) : ∃ x : Bool, w.cell? ⟨b, o, none⟩ = some (.bool x) := by
  obtain ⟨cs, fuel, x, _, hat, htr⟩ := h
  obtain ⟨s, hs, _⟩ := DataW.trod_bool hu htr
  exact ⟨s, Lies.one hc hat hs⟩

/-- A field of a struct. -/
theorem Lies.field (h : Lies enc P base spare held w b o t) {fs : Array Field} (hu : P.underlying t = some (.struct fs)) (j : Nat) (f : Field) (hj : fs[j]? = some f) (hf : f.offset + P.cellsOf f.type ≤ P.cellsOf t) : Lies enc P base spare held w b (o + f.offset) f.type := by
  obtain ⟨cs, fuel, x, hl, hat, htr⟩ := h
  obtain ⟨xs, n', _, _, _, hxs, hfld⟩ := DataW.trod_struct hu htr
  have h1 := hfld j f hj
  have hjl : j < xs.length := by have := (Array.getElem?_eq_some_iff.1 hj).1; omega
  rw [List.getElem?_eq_getElem hjl] at h1
  refine ⟨_, n', _, ?_, fun q hq => ?_, h1⟩
  · rw [List.length_take, List.length_drop]; omega
  · rw [List.getElem?_take, if_pos hq, List.getElem?_drop, Nat.add_assoc]
    exact hat _ (by omega)

/-- A slice: its elements, each at its place. -/
theorem Lies.elems {fuel len0 cap0 : Nat} {a0 : Option Addr} {x : DataW H × List MemPlace} (hu : P.underlying t = some (.slice e)) (hpos : 0 < P.cellsOf e) (htr : DataW.trod enc P w base spare held fuel t [.slice a0 len0 cap0] = some x) :
    len0 ≤ 9223372036854775807 ∧ len0 ≤ cap0 ∧ cap0 ≤ 9223372036854775807 ∧ (a0 = none → len0 = 0 ∧ cap0 = 0) ∧ ∀ i, i < len0 → ∃ b off, a0 = some ⟨b, off, none⟩ ∧ b < w.heap.size ∧ Lies enc P base spare held w b (off + i * P.cellsOf e) e := by
  rcases DataW.trod_slice hu htr with ⟨hv, _⟩ | ⟨a, len, cap, elems, rest, n, _, hv, _, _, hl, hm, hel, hat, _, _⟩
  · injection hv with hv
    injection hv with h1 h2 h3
    subst h1 h2 h3
    exact ⟨by omega, by omega, by omega, fun _ => ⟨rfl, rfl⟩, fun i hi => by omega⟩
  · injection hv with hv
    injection hv with h1 h2 h3
    subst h1 h2 h3
    unfold maxLen at hm
    refine ⟨by omega, hl, by omega, (fun h => by cases h), fun i hi => ?_⟩
    have get : ∀ i, i < len0 → ∃ cs x, w.cells? base (a.add (i * P.cellsOf e)) (P.cellsOf e) = some cs ∧ DataW.trod enc P w base spare held n e cs = some x := fun i hi => by
      have h1 := hat i hi
      rw [List.getElem?_eq_getElem (by omega)] at h1
      obtain ⟨cs, hcs, h2⟩ := Option.bind_eq_some_iff.1 h1
      exact ⟨cs, _, hcs, h2⟩
    have hspot : ∃ b off, a = ⟨b, off, none⟩ := by
      obtain ⟨cs, _, hcs, _⟩ := get 0 (by omega)
      obtain ⟨_, hn, hat⟩ := World.cells?_some hcs
      have h0 := hat 0 hpos
      rw [Nat.zero_mul] at h0
      have e0 : (a.add 0).add 0 = a := by simp [Addr.add]
      rw [e0, List.getElem?_eq_getElem (by omega)] at h0
      obtain ⟨b, off, spot⟩ := a
      have hs : spot = none := by simpa using World.cell?_spot h0
      subst hs
      exact ⟨b, off, rfl⟩
    obtain ⟨b, off, rfl⟩ := hspot
    obtain ⟨cs, y, hcs, h2⟩ := get i hi
    obtain ⟨_, hn, hat⟩ := World.cells?_some hcs
    have hat2 : ∀ q, q < P.cellsOf e → w.cell? ⟨b, off + i * P.cellsOf e + q, none⟩ = cs[q]? := fun q hq => by
      have := hat q hq
      rw [Go.WideShapes.add_plain, Go.WideShapes.add_plain] at this
      exact this
    refine ⟨b, off, rfl, ?_, cs, n, y, hn, hat2, h2⟩
    have h0 := hat2 0 hpos
    rw [List.getElem?_eq_getElem (by omega)] at h0
    exact World.block_lt_of_cell? w _ h0

theorem Lies.slice (h : Lies enc P base spare held w b o t) (hu : P.underlying t = some (.slice e)) (hc : P.cellsOf t = 1) (hpos : 0 < P.cellsOf e) :
    ∃ A n c, w.cell? ⟨b, o, none⟩ = some (.slice A n c) ∧ n ≤ 9223372036854775807 ∧ n ≤ c ∧ c ≤ 9223372036854775807 ∧ (A = none → n = 0 ∧ c = 0) ∧ ∀ i, i < n → ∃ b off, A = some ⟨b, off, none⟩ ∧ b < w.heap.size ∧ Lies enc P base spare held w b (off + i * P.cellsOf e) e := by
  obtain ⟨cs, fuel, x, hl, hat, htr⟩ := h
  have hcs : ∃ a n c, cs = [.slice a n c] := by
    rcases DataW.trod_slice hu htr with ⟨hv, _⟩ | ⟨a, len, cap, elems, rest, n, _, hv, _⟩
    · exact ⟨_, _, _, hv⟩
    · exact ⟨_, _, _, hv⟩
  obtain ⟨a, n, c, rfl⟩ := hcs
  obtain ⟨h1, h2, h3, h4, h5⟩ := Lies.elems hu hpos htr
  exact ⟨a, n, c, Lies.one hc hat rfl, h1, h2, h3, h4, h5⟩

/-- An argument that is a slice. -/
theorem open_any_slice {v : Value} {d : DataW H} {ps : List MemPlace} {r : Reach} {b0 : Nat} (hu : P.underlying t = some (.slice e)) (hpos : 0 < P.cellsOf e) (hval : Value.okWide P w r b0 t v) (hd : DataW.Trod enc P w base spare held t v d ps) :
    ∃ A n c, v = .slice A n c ∧ n ≤ 9223372036854775807 ∧ n ≤ c ∧ c ≤ 9223372036854775807 ∧ (A = none → n = 0 ∧ c = 0) ∧ ∀ i, i < n → ∃ b off, A = some ⟨b, off, none⟩ ∧ b < w.heap.size ∧ Lies enc P base spare held w b (off + i * P.cellsOf e) e := by
  obtain ⟨a0, len0, cap0, rfl⟩ := okWide_slice hu hval
  obtain ⟨fuel, hf⟩ := hd
  have hf' : DataW.trod enc P w base spare held fuel t [.slice a0 len0 cap0] = some (d, ps) := hf
  obtain ⟨h1, h2, h3, h4, h5⟩ := Lies.elems hu hpos hf'
  exact ⟨a0, len0, cap0, rfl, h1, h2, h3, h4, h5⟩

/-- A slice of numbers within. -/
theorem Lies.ints (h : Lies enc P base spare held w b o t) (hu : P.underlying t = some (.slice e)) (he : P.underlying e = some (.int .i64)) (hc : P.cellsOf t = 1) (hce : P.cellsOf e = 1) :
    ∃ A n c f, w.cell? ⟨b, o, none⟩ = some (.slice A n c) ∧ Hl.Ints w w.heap.size A n f ∧ n ≤ 9223372036854775807 ∧ (∀ k, k < n → -9223372036854775808 ≤ f k ∧ f k ≤ 9223372036854775807) ∧ (A = none → n = 0 ∧ c = 0) := by
  obtain ⟨A, n, c, hcell, hn, _, _, hz, hel⟩ := h.slice hu hc (by omega)
  obtain ⟨f, hf⟩ := Go.Deep.choose_lt (α := Int) (n := n) (p := fun k z => (∃ b off, A = some ⟨b, off, none⟩ ∧ b < w.heap.size ∧ w.cell? ⟨b, off + k, none⟩ = some (.int .i64 z)) ∧ -9223372036854775808 ≤ z ∧ z ≤ 9223372036854775807) (fun k hk => by
    obtain ⟨b, off, hA, hb, hl⟩ := hel k hk
    obtain ⟨z, hz, hb1⟩ := hl.int64 he hce
    rw [hce, Nat.mul_one] at hz
    exact ⟨z, ⟨b, off, hA, hb, hz⟩, hb1⟩)
  exact ⟨A, n, c, f, hcell, fun k hk => (hf k hk).1, hn, fun k hk => (hf k hk).2, hz⟩
end

end Go.Proofs.Ytbicdmhmpmdoeaa.Hk
