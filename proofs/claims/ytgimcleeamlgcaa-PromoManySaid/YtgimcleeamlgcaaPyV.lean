/- The statements' Scope may be. -/
import Derived.Test.YtgimcleeamlgcaaPyT
import Derived.Test.YtgimcleeamlgcaaScI
set_option maxRecDepth 100000

set_option linter.unusedVariables false
namespace Go.Proofs.Ytgimcleeamlgcaa.Py
open Go.ChangeShapes Go.WideShapes Go.ChangeAt Go.RowKit
open Ap (Scp)
open Sc (Names namesB namesB_yes scopeB)

theorem namesOf_at {nm : Nat → ByteArray} {l : List ByteArray} {M N k i : Nat} {x : ByteArray} (h : (namesOf nm l M N k)[i]? = some x) : ∃ a, (someTo l M N k)[i]? = some a ∧ a < k ∧ x = nm a := by
  unfold namesOf at h
  rw [List.getElem?_map] at h
  cases ha : (someTo l M N k)[i]? with
  | none => rw [ha] at h; cases h
  | some a =>
    rw [ha] at h
    exact ⟨a, rfl, someTo_low l M N k a (List.mem_of_getElem? ha), by simpa using h.symm⟩

theorem namesOf_may {nm : Nat → ByteArray} {l : List ByteArray} {M N : Nat} {m : Int} (hM : (M : Int) ≤ m) (hn : ∀ a, a < N → Sr.name (nm a) = true) (hl : ∀ a b, a < b → b < N → Sr.lt (nm a) (nm b) = true) : namesB (namesOf nm l M N N) m = true := by
  refine namesB_yes ⟨?_, ?_, ?_⟩
  · have := (someTo_len l M N N).2
    rw [namesOf_len]
    omega
  · intro i x hx
    obtain ⟨a, _, ha, rfl⟩ := namesOf_at hx
    exact hn a ha
  · intro i x y hx hy
    obtain ⟨a, h1, ha, rfl⟩ := namesOf_at hx
    obtain ⟨b, h2, hb, rfl⟩ := namesOf_at hy
    exact hl a b (someTo_rise l M N N i a b h1 h2) hb

/-- A scope near to a raw one may be. -/
theorem scopeOf_may (s : Scp) : scopeB (scopeOf s) = true := by
  unfold scopeB scopeOf
  rw [namesOf_may (by omega) (fun a ha => sku_name (by omega)) (fun a b hab hb => chr_lt (by omega) (by omega)), namesOf_may (by omega) (fun a ha => cat_name ha) (fun a b hab hb => chr_lt (by omega) (by omega))]
  rfl

theorem skusOf (s : Scp) : (scopeOf s).skus = namesOf skuS s.skus 3 8 8 := by simp only [scopeOf]

theorem catsOf (s : Scp) : (scopeOf s).cats = namesOf catS s.cats 2 3 3 := by simp only [scopeOf]

theorem namesOf_few (nm : Nat → ByteArray) (l : List ByteArray) (M N : Nat) : (namesOf nm l M N N).length ≤ M := by
  rw [namesOf_len]; exact (someTo_len l M N N).2

theorem namesOf_in {nm : Nat → ByteArray} {l : List ByteArray} {M N : Nat} {x : ByteArray} (h : x ∈ namesOf nm l M N N) : ∃ a, a < N ∧ x = nm a := by
  obtain ⟨i, hi, e⟩ := List.mem_iff_getElem.1 h
  obtain ⟨a, _, ha, e2⟩ := namesOf_at ((List.getElem?_eq_getElem hi).trans (congrArg some e))
  exact ⟨a, ha, e2⟩

theorem scopeOf_len (s : Scp) : (scopeOf s).skus.length ≤ 3 ∧ (scopeOf s).cats.length ≤ 2 := by
  rw [skusOf, catsOf]
  exact ⟨namesOf_few _ _ _ _, namesOf_few _ _ _ _⟩

/-- What it names are names of the play's. -/
theorem scopeOf_sku {s : Scp} {x : ByteArray} (h : x ∈ (scopeOf s).skus) : ∃ a, a < 8 ∧ x = skuS a := by
  rw [skusOf] at h
  exact namesOf_in h

theorem scopeOf_cat {s : Scp} {x : ByteArray} (h : x ∈ (scopeOf s).cats) : ∃ a, a < 3 ∧ x = catS a := by
  rw [catsOf] at h
  exact namesOf_in h

end Go.Proofs.Ytgimcleeamlgcaa.Py
