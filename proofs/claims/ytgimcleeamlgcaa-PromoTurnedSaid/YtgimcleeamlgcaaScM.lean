/- P11.1 as mathematics: names that rise, scopes, who has what: nothing of the program. -/
import Derived.Test.YtgimcleeamlgcaaKa
set_option maxRecDepth 100000

set_option linter.unusedVariables false
namespace Go.Proofs.Ytgimcleeamlgcaa.Sc
open Ap (Scp)
open It (Itm)

/-- Texts that rise. -/
def Rise (l : List ByteArray) : Prop := ∀ (i : Nat) (a b : ByteArray), l[i]? = some a → l[i + 1]? = some b → Sr.lt a b = true

structure Names (l : List ByteArray) (m : Int) : Prop where
  few : (l.length : Int) ≤ m
  each : ∀ (i : Nat) (a : ByteArray), l[i]? = some a → Sr.name a = true
  rise : Rise l

/-- Names that rise, at most so many. -/
noncomputable def namesB (l : List ByteArray) (m : Int) : Bool := @decide (Names l m) (Classical.propDecidable _)

theorem namesB_yes {l : List ByteArray} {m : Int} (h : Names l m) : namesB l m = true := by unfold namesB; exact @decide_eq_true _ (Classical.propDecidable _) h

theorem namesB_no {l : List ByteArray} {m : Int} (h : ¬ Names l m) : namesB l m = false := by unfold namesB; exact @decide_eq_false _ (Classical.propDecidable _) h

theorem namesB_iff {l : List ByteArray} {m : Int} : namesB l m = true ↔ Names l m := by
  constructor
  · intro h
    by_cases k : Names l m
    · exact k
    · rw [namesB_no k] at h; cases h
  · exact namesB_yes

theorem Rise.below {l : List ByteArray} (h : Rise l) : ∀ (d i : Nat) (a b : ByteArray), l[i]? = some a → l[i + d + 1]? = some b → Sr.lt a b = true
  | 0, i, a, b, ha, hb => h i a b ha hb
  | d + 1, i, a, b, ha, hb => by
    have hl := (List.getElem?_eq_some_iff.1 hb).1
    obtain ⟨c, hc⟩ : ∃ c, l[i + d + 1]? = some c := ⟨_, List.getElem?_eq_getElem (by omega)⟩
    exact Sr.lt_trans (Rise.below h d i a c ha hc) (h (i + d + 1) c b hc (by rw [show i + d + 1 + 1 = i + (d + 1) + 1 by omega]; exact hb))

theorem Rise.lt {l : List ByteArray} (h : Rise l) {i j : Nat} {a b : ByteArray} (hij : i < j) (ha : l[i]? = some a) (hb : l[j]? = some b) : Sr.lt a b = true :=
  h.below (j - i - 1) i a b ha (by rw [show i + (j - i - 1) + 1 = j by omega]; exact hb)

/-- The first k are right. -/
structure UpTo (l : List ByteArray) (k : Nat) : Prop where
  each : ∀ (i : Nat) (a : ByteArray), i < k → l[i]? = some a → Sr.name a = true
  rise : ∀ (i : Nat) (a b : ByteArray), i + 1 < k → l[i]? = some a → l[i + 1]? = some b → Sr.lt a b = true

theorem UpTo.next {l : List ByteArray} {k : Nat} {a : ByteArray} (h : UpTo l k) (ha : l[k]? = some a) (hn : Sr.name a = true) (hr : ∀ b, 0 < k → l[k - 1]? = some b → Sr.lt b a = true) : UpTo l (k + 1) :=
  ⟨fun i b hlt hb => by
    rcases Nat.lt_or_ge i k with h1 | h1
    · exact h.each i b h1 hb
    · obtain rfl : i = k := by omega
      rw [ha] at hb; injection hb with hb; subst hb; exact hn,
   fun i b c hlt hb hc => by
    rcases Nat.lt_or_ge (i + 1) k with h1 | h1
    · exact h.rise i b c h1 hb hc
    · obtain rfl : k = i + 1 := by omega
      rw [ha] at hc; injection hc with hc; subst hc
      exact hr b (by omega) hb⟩

theorem UpTo.names {l : List ByteArray} {m : Int} (h : UpTo l l.length) : namesB l m = decide ((l.length : Int) ≤ m) := by
  by_cases h5 : (l.length : Int) ≤ m
  · rw [decide_eq_true h5]
    exact namesB_yes ⟨h5, fun i a ha => h.each i a (List.getElem?_eq_some_iff.1 ha).1 ha, fun i a b ha hb => h.rise i a b (List.getElem?_eq_some_iff.1 hb).1 ha hb⟩
  · rw [decide_eq_false h5]
    exact namesB_no fun g => h5 g.few

theorem bad_name {l : List ByteArray} {m : Int} {k : Nat} {a : ByteArray} (ha : l[k]? = some a) (h : Sr.name a = false) : namesB l m = false := namesB_no fun g => by
  rw [g.each k a ha] at h; cases h

theorem bad_step {l : List ByteArray} {m : Int} {k : Nat} {a b : ByteArray} (ha : l[k]? = some a) (hb : l[k - 1]? = some b) (hk : 0 < k) (h : Sr.lt b a = false) : namesB l m = false := namesB_no fun g => by
  rw [g.rise (k - 1) b a hb (by rw [show k - 1 + 1 = k by omega]; exact ha)] at h; cases h

/-- Is a text among some? -/
def hasB (l : List ByteArray) (s : ByteArray) : Bool := l.any fun a => Sr.same a s

theorem hasB_yes {l : List ByteArray} {s : ByteArray} {k : Nat} (h : l[k]? = some s) : hasB l s = true := List.any_eq_true.2 ⟨s, List.mem_of_getElem? h, Sr.same_refl s⟩

theorem hasB_no {l : List ByteArray} {s : ByteArray} (h : ∀ (k : Nat) (a : ByteArray), l[k]? = some a → a ≠ s) : hasB l s = false := List.any_eq_false.2 fun a ha => by
  obtain ⟨k, hk⟩ := List.mem_iff_getElem?.1 ha
  rw [Sr.same_ne (h k a hk)]; simp

theorem hasB_iff {l : List ByteArray} {s : ByteArray} : hasB l s = true ↔ s ∈ l := by
  unfold hasB
  rw [List.any_eq_true]
  constructor
  · rintro ⟨a, ha, hs⟩
    rw [← Sr.same_iff.1 hs]; exact ha
  · intro h
    exact ⟨s, h, Sr.same_refl s⟩

/-- P11.1: Right. -/
noncomputable def scopeB (s : Scp) : Bool := namesB s.skus 20 && namesB s.cats 20

/-- P11.1: Has, of a Sku and a Category. -/
def hasX (s : Scp) (sku cat : ByteArray) : Bool := ((s.skus.length == 0) && (s.cats.length == 0)) || hasB s.skus sku || hasB s.cats cat

/-- The first k scopes that have it, by their places. -/
def idxTo (ss : List Scp) (sku cat : ByteArray) (k : Nat) : List Int := ((List.range k).filter fun i => hasX (ss.getD i default) sku cat).map fun (i : Nat) => (i : Int)

theorem idxTo_succ (ss : List Scp) (sku cat : ByteArray) (k : Nat) {s : Scp} (h : ss[k]? = some s) : idxTo ss sku cat (k + 1) = idxTo ss sku cat k ++ (if hasX s sku cat then [(k : Int)] else []) := by
  unfold idxTo
  have e : ss.getD k default = s := by rw [List.getD, h]; rfl
  rw [List.range_succ, List.filter_append, List.map_append]
  congr 1
  rw [List.filter_cons, e]
  split <;> rfl

theorem idxTo_in {ss : List Scp} {sku cat : ByteArray} {k : Nat} {z : Int} (h : z ∈ idxTo ss sku cat k) : 0 ≤ z ∧ z < k := by
  unfold idxTo at h
  obtain ⟨i, hi, rfl⟩ := List.mem_map.1 h
  have := List.mem_range.1 (List.mem_filter.1 hi).1
  omega

theorem idxTo_len (ss : List Scp) (sku cat : ByteArray) (k : Nat) : (idxTo ss sku cat k).length ≤ k := by
  unfold idxTo
  rw [List.length_map]
  exact Nat.le_trans (List.length_filter_le _ _) (by simp)

/-- P11.1: Index. -/
def indexL (xs : List Itm) (ss : List Scp) : List (List Int) := xs.map fun x => idxTo ss x.sku x.cat ss.length

end Go.Proofs.Ytgimcleeamlgcaa.Sc
