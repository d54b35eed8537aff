/- P12.1 as mathematics: parts, tiers, a promotion that may be: nothing of the program. -/
import Derived.Test.YtgimcleeamlgcaaKa
import Derived.Test.YtgimcleeamlgcaaScM
set_option maxRecDepth 100000

set_option linter.unusedVariables false
namespace Go.Proofs.Ytgimcleeamlgcaa.Pr
open Ap (Scp Prt Tir Prm)
open Sc (namesB scopeB)

/-- Is a number from 0 to most? -/
def inB (x m : Int) : Bool := decide (0 ≤ x) && decide (x ≤ m)

/-! ### Parts -/
noncomputable def partB (p : Prt) : Bool := scopeB p.scope && decide (1 ≤ p.count) && decide (p.count ≤ 100)

noncomputable def partsB (l : List Prt) : Bool := l.all partB && decide (1 ≤ l.length) && decide (l.length ≤ 3)

theorem partsB_no {l : List Prt} {k : Nat} {p : Prt} (hk : l[k]? = some p) (h : partB p = false) : partsB l = false := by
  unfold partsB
  rw [List.all_eq_false.2 ⟨p, List.mem_of_getElem? hk, by simp [h]⟩]
  rfl

theorem partsB_end {l : List Prt} (h : ∀ (k : Nat) (p : Prt), l[k]? = some p → partB p = true) : partsB l = (decide (1 ≤ l.length) && decide (l.length ≤ 3)) := by
  unfold partsB
  rw [List.all_eq_true.2 fun p hp => by
    obtain ⟨k, hk, e⟩ := List.mem_iff_getElem.1 hp
    exact h k p (by rw [← e]; exact List.getElem?_eq_getElem _)]
  rfl

/-! ### Tiers -/
def tierB (t : Tir) : Bool := inB t.least 10000000000000 && inB t.rate 10000 && inB t.amount 10000000000000 && !(t.rate == 0 && t.amount == 0)

structure Tiers (l : List Tir) : Prop where
  each : ∀ (i : Nat) (t : Tir), l[i]? = some t → tierB t = true
  rise : ∀ (i : Nat) (a b : Tir), l[i]? = some a → l[i + 1]? = some b → a.least < b.least
  some_ : 1 ≤ l.length
  few : l.length ≤ 6

noncomputable def tiersB (l : List Tir) : Bool := @decide (Tiers l) (Classical.propDecidable _)

theorem tiersB_yes {l : List Tir} (h : Tiers l) : tiersB l = true := by unfold tiersB; exact @decide_eq_true _ (Classical.propDecidable _) h

theorem tiersB_no {l : List Tir} (h : ¬ Tiers l) : tiersB l = false := by unfold tiersB; exact @decide_eq_false _ (Classical.propDecidable _) h

theorem tiersB_iff {l : List Tir} : tiersB l = true ↔ Tiers l := by
  constructor
  · intro h
    by_cases k : Tiers l
    · exact k
    · rw [tiersB_no k] at h; cases h
  · exact tiersB_yes

/-- The first k are right. -/
structure TUp (l : List Tir) (k : Nat) : Prop where
  each : ∀ (i : Nat) (t : Tir), i < k → l[i]? = some t → tierB t = true
  rise : ∀ (i : Nat) (a b : Tir), i + 1 < k → l[i]? = some a → l[i + 1]? = some b → a.least < b.least

theorem TUp.next {l : List Tir} {k : Nat} {t : Tir} (h : TUp l k) (ht : l[k]? = some t) (hb : tierB t = true) (hr : ∀ b, 0 < k → l[k - 1]? = some b → b.least < t.least) : TUp l (k + 1) :=
  ⟨fun i b hlt hb2 => by
    rcases Nat.lt_or_ge i k with h1 | h1
    · exact h.each i b h1 hb2
    · obtain rfl : i = k := by omega
      rw [ht] at hb2; injection hb2 with hb2; subst hb2; exact hb,
   fun i b c hlt hb2 hc => by
    rcases Nat.lt_or_ge (i + 1) k with h1 | h1
    · exact h.rise i b c h1 hb2 hc
    · obtain rfl : k = i + 1 := by omega
      rw [ht] at hc; injection hc with hc; subst hc
      exact hr b (by omega) hb2⟩

theorem TUp.all {l : List Tir} (h : TUp l l.length) : tiersB l = (decide (1 ≤ l.length) && decide (l.length ≤ 6)) := by
  by_cases h1 : 1 ≤ l.length
  · by_cases h2 : l.length ≤ 6
    · rw [decide_eq_true h1, decide_eq_true h2]
      exact tiersB_yes ⟨fun i t ht => h.each i t (List.getElem?_eq_some_iff.1 ht).1 ht, fun i a b ha hb => h.rise i a b (List.getElem?_eq_some_iff.1 hb).1 ha hb, h1, h2⟩
    · rw [decide_eq_false h2, Bool.and_false]
      exact tiersB_no fun g => h2 g.few
  · rw [decide_eq_false h1]
    exact tiersB_no fun g => h1 g.some_

theorem tier_bad {l : List Tir} {k : Nat} {t : Tir} (ht : l[k]? = some t) (h : tierB t = false) : tiersB l = false := tiersB_no fun g => by
  rw [g.each k t ht] at h; cases h

theorem tier_step {l : List Tir} {k : Nat} {t b : Tir} (ht : l[k]? = some t) (hb : l[k - 1]? = some b) (hk : 0 < k) (h : t.least ≤ b.least) : tiersB l = false := tiersB_no fun g => by
  have := g.rise (k - 1) b t hb (by rw [show k - 1 + 1 = k by omega]; exact ht)
  omega

/-! ### A promotion -/
/-- Empty, or a name. -/
def blankB (s : ByteArray) : Bool := s.toList.isEmpty || Sr.name s

/-- What all kinds ask. -/
noncomputable def headB (p : Prm) : Bool := Sr.name p.id && decide (1 ≤ p.kind) && decide (p.kind ≤ 7) && decide (0 ≤ p.priority) && decide (p.priority ≤ 1000) && blankB p.group && blankB p.code && scopeB p.scope && inB p.least 10000000000000

def noParts (p : Prm) : Bool := p.parts.length == 0
def noTiers (p : Prm) : Bool := p.tiers.length == 0
def noBuy (p : Prm) : Bool := p.buy == 0 && p.get == 0
def allB (p : Prm) : Bool := (p.scope.skus.length == 0) && (p.scope.cats.length == 0)
def someB (p : Prm) : Bool := decide (1 ≤ p.rate) && decide (p.rate ≤ 10000)

/-- What its kind asks. -/
noncomputable def kindB (p : Prm) : Bool :=
  if p.kind = 1 then someB p && p.amount == 0 && noBuy p && noParts p && noTiers p
  else if p.kind = 2 then p.rate == 0 && decide (1 ≤ p.amount) && decide (p.amount ≤ 1000000000) && noBuy p && noParts p && noTiers p
  else if p.kind = 3 then someB p && p.amount == 0 && decide (1 ≤ p.buy) && decide (p.buy ≤ 100) && decide (1 ≤ p.get) && decide (p.get ≤ 100) && noParts p && noTiers p
  else if p.kind = 4 then p.rate == 0 && inB p.amount 10000000000000 && noBuy p && partsB p.parts && noTiers p && allB p
  else if p.kind = 7 then someB p && p.amount == 0 && noBuy p && noParts p && noTiers p && allB p && !p.closes
  else p.rate == 0 && p.amount == 0 && noBuy p && noParts p && tiersB p.tiers

/-- P12.1: Right. -/
noncomputable def promoB (p : Prm) : Bool := headB p && kindB p

end Go.Proofs.Ytgimcleeamlgcaa.Pr
