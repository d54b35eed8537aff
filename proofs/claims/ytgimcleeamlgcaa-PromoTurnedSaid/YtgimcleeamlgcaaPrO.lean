/- P12.1, Order, as mathematics: places in the order in which they are tried: nothing of the program. -/
import Derived.Test.YtgimcleeamlgcaaPrA
set_option maxRecDepth 100000

set_option linter.unusedVariables false
namespace Go.Proofs.Ytgimcleeamlgcaa.Pr
open Ap (Scp Prt Tir Prm)
open Sc (hasB)

/-- The i-th promotion. -/
def nth (l : List Prm) (i : Nat) : Prm := l.getD i default

theorem nth_at {l : List Prm} {i : Nat} {p : Prm} (h : l[i]? = some p) : nth l i = p := by unfold nth; rw [List.getD, h]; rfl

/-- Is one place tried ahead of another one: by what lies there; else the lesser place. -/
def bef (l : List Prm) (i j : Nat) : Bool := aheadB (nth l i) (nth l j) || (!aheadB (nth l j) (nth l i) && decide (i < j))

theorem ahead_asymm {a b : Prm} (h : aheadB a b = true) : aheadB b a = false := by
  cases e : aheadB b a with
  | false => rfl
  | true =>
    have := ahead_trans h e
    rw [ahead_irrefl] at this
    cases this

/-- Neither is ahead of the other: of one Priority, of one Id. -/
theorem ahead_level {a b : Prm} (h1 : aheadB a b = false) (h2 : aheadB b a = false) : a.priority = b.priority ∧ a.id = b.id := by
  unfold aheadB at h1 h2
  by_cases e : a.priority = b.priority
  · rw [if_pos e] at h1
    rw [if_pos e.symm] at h2
    refine ⟨e, ?_⟩
    rcases Sr.lt_total a.id b.id with h | h | h
    · rw [h] at h1; cases h1
    · exact h
    · rw [h] at h2; cases h2
  · rw [if_neg e] at h1
    rw [if_neg (fun e2 => e e2.symm)] at h2
    have g1 := of_decide_eq_false h1
    have g2 := of_decide_eq_false h2
    omega

theorem ahead_like {a b c : Prm} (h : a.priority = b.priority ∧ a.id = b.id) : aheadB a c = aheadB b c ∧ aheadB c a = aheadB c b := by
  unfold aheadB
  rw [h.1, h.2]
  exact ⟨rfl, rfl⟩

theorem bef_irrefl (l : List Prm) (i : Nat) : bef l i i = false := by unfold bef; rw [ahead_irrefl]; simp

theorem bef_total (l : List Prm) {i j : Nat} (h : i ≠ j) : bef l i j = true ∨ bef l j i = true := by
  unfold bef
  cases e1 : aheadB (nth l i) (nth l j) with
  | true => exact .inl rfl
  | false =>
    cases e2 : aheadB (nth l j) (nth l i) with
    | true => exact .inr (by simp)
    | false =>
      rcases Nat.lt_or_gt_of_ne h with h1 | h1
      · exact .inl (by simp [h1])
      · exact .inr (by simp [h1])

theorem bef_trans {l : List Prm} {i j k : Nat} (h1 : bef l i j = true) (h2 : bef l j k = true) : bef l i k = true := by
  unfold bef at *
  simp only [Bool.or_eq_true, Bool.and_eq_true, Bool.not_eq_true', decide_eq_true_eq] at *
  rcases h1 with h1 | ⟨n1, l1⟩
  · rcases h2 with h2 | ⟨n2, l2⟩
    · exact .inl (ahead_trans h1 h2)
    · cases e : aheadB (nth l j) (nth l k) with
      | true => exact .inl (ahead_trans h1 e)
      | false =>
        have hl := ahead_level e n2
        rw [← (ahead_like (c := nth l i) hl).2]
        exact .inl h1
  · cases e1 : aheadB (nth l i) (nth l j) with
    | true =>
      rcases h2 with h2 | ⟨n2, l2⟩
      · exact .inl (ahead_trans e1 h2)
      · cases e : aheadB (nth l j) (nth l k) with
        | true => exact .inl (ahead_trans e1 e)
        | false =>
          have hl := ahead_level e n2
          rw [← (ahead_like (c := nth l i) hl).2]
          exact .inl e1
    | false =>
      have hl := ahead_level e1 n1
      rw [(ahead_like (c := nth l k) hl).1, (ahead_like (c := nth l k) hl).2]
      rcases h2 with h2 | ⟨n2, l2⟩
      · exact .inl h2
      · exact .inr ⟨n2, by omega⟩

theorem bef_asymm {l : List Prm} {i j : Nat} (h : bef l i j = true) : bef l j i = false := by
  cases e : bef l j i with
  | false => rfl
  | true =>
    have := bef_trans h e
    rw [bef_irrefl] at this
    cases this

/-- Is a place's promotion tried with such codes? -/
def takenB (l : List Prm) (codes : List ByteArray) (i : Nat) : Bool := (nth l i).code.toList.isEmpty || hasB codes (nth l i).code

/-- How many of a list stay ahead of what is laid in from behind, past all that p says of. -/
def cutN (p : Nat → Bool) (out : List Nat) : Nat := out.length - (out.reverse.takeWhile p).length

theorem cut_at {p : Nat → Bool} {out : List Nat} {k : Nat} (hk : k ≤ out.length) (h1 : ∀ x ∈ out.drop k, p x = true) (h2 : ∀ x, 0 < k → out[k - 1]? = some x → p x = false) : cutN p out = k := by
  unfold cutN
  have e : out.reverse = (out.drop k).reverse ++ (out.take k).reverse := by rw [← List.reverse_append, List.take_append_drop]
  have e2 : ((out.take k).reverse).takeWhile p = [] := by
    rcases Nat.eq_zero_or_pos k with h0 | h0
    · subst h0; rfl
    · obtain ⟨x, hx⟩ : ∃ x, out[k - 1]? = some x := ⟨_, List.getElem?_eq_getElem (by omega)⟩
      have e3 : out.take k = out.take (k - 1) ++ [x] := by
        have := List.take_add_one (l := out) (i := k - 1)
        rw [hx, show k - 1 + 1 = k by omega] at this
        exact this
      rw [e3, List.reverse_append]
      simp [h2 x h0 hx]
  rw [e, List.takeWhile_append_of_pos (by intro x hx; exact h1 x (List.mem_reverse.1 hx)), e2, List.append_nil, List.length_reverse, List.length_drop]
  omega

theorem cut_le (p : Nat → Bool) (out : List Nat) : cutN p out ≤ out.length := by unfold cutN; omega

/-- Laid in. -/
def layIn (p : Nat → Bool) (out : List Nat) (i : Nat) : List Nat := out.take (cutN p out) ++ i :: out.drop (cutN p out)

/-- The document's order of the first k. -/
def orderTo (l : List Prm) (codes : List ByteArray) : Nat → List Nat
  | 0 => []
  | k + 1 => if takenB l codes k then layIn (fun x => aheadB (nth l k) (nth l x)) (orderTo l codes k) k else orderTo l codes k

theorem orderTo_mem (l : List Prm) (codes : List ByteArray) (i : Nat) : ∀ k, i ∈ orderTo l codes k ↔ i < k ∧ takenB l codes i = true
  | 0 => by simp [orderTo]
  | k + 1 => by
    have ih := orderTo_mem l codes i k
    unfold orderTo
    have hm : ∀ p, i ∈ layIn p (orderTo l codes k) k ↔ i = k ∨ i ∈ orderTo l codes k := fun p => by
      unfold layIn
      rw [List.mem_append, List.mem_cons]
      have : i ∈ orderTo l codes k ↔ i ∈ (orderTo l codes k).take (cutN p (orderTo l codes k)) ∨ i ∈ (orderTo l codes k).drop (cutN p (orderTo l codes k)) := by rw [← List.mem_append, List.take_append_drop]
      rw [this]
      constructor
      · rintro (h | h | h)
        · exact .inr (.inl h)
        · exact .inl h
        · exact .inr (.inr h)
      · rintro (h | h | h)
        · exact .inr (.inl h)
        · exact .inl h
        · exact .inr (.inr h)
    cases e : takenB l codes k with
    | true =>
      rw [if_pos rfl, hm, ih]
      constructor
      · rintro (rfl | ⟨h1, h2⟩)
        · exact ⟨by omega, e⟩
        · exact ⟨by omega, h2⟩
      · rintro ⟨h1, h2⟩
        by_cases h : i = k
        · exact .inl h
        · exact .inr ⟨by omega, h2⟩
    | false =>
      rw [if_neg (by simp), ih]
      constructor
      · rintro ⟨h1, h2⟩
        exact ⟨by omega, h2⟩
      · rintro ⟨h1, h2⟩
        refine ⟨?_, h2⟩
        rcases Nat.lt_or_ge i k with h | h
        · exact h
        · obtain rfl : i = k := by omega
          rw [e] at h2; cases h2

theorem take_len {p : Nat → Bool} {out : List Nat} : (out.reverse.takeWhile p).length ≤ out.length := by
  have := (List.takeWhile_prefix p (l := out.reverse)).length_le
  rwa [List.length_reverse] at this

theorem cut_drop {p : Nat → Bool} {out : List Nat} : ∀ x ∈ out.drop (cutN p out), p x = true := fun x hx => by
  have e : (out.drop (cutN p out)).reverse = out.reverse.take (out.reverse.takeWhile p).length := by
    rw [List.reverse_drop]
    congr 1
    have := take_len (p := p) (out := out)
    unfold cutN
    omega
  have h2 : x ∈ out.reverse.take (out.reverse.takeWhile p).length := by rw [← e]; exact List.mem_reverse.2 hx
  have h3 : out.reverse.take (out.reverse.takeWhile p).length = out.reverse.takeWhile p := (List.prefix_iff_eq_take.1 (List.takeWhile_prefix p)).symm
  rw [h3] at h2
  have : ∀ (l : List Nat), x ∈ l.takeWhile p → p x = true := fun l => by
    induction l with
    | nil => intro h; simp at h
    | cons a l ih =>
      intro h
      rw [List.takeWhile_cons] at h
      split at h
      · rename_i ha
        rcases List.mem_cons.1 h with rfl | h
        · exact ha
        · exact ih h
      · simp at h
  exact this _ h2

theorem cut_stop {p : Nat → Bool} {out : List Nat} {x : Nat} (h0 : 0 < cutN p out) (hx : out[cutN p out - 1]? = some x) : p x = false := by
  cases e : p x with
  | false => rfl
  | true =>
    exfalso
    have key : ∀ (l : List Nat) (y : Nat), l[(l.takeWhile p).length]? = some y → p y = false := fun l => by
      induction l with
      | nil => intro y h; simp at h
      | cons a l ih =>
        intro y h
        rw [List.takeWhile_cons] at h
        cases ha : p a with
        | true =>
          rw [if_pos ha] at h
          exact ih y (by simpa using h)
        | false =>
          rw [if_neg (by rw [ha]; simp)] at h
          obtain rfl : a = y := by simpa using h
          exact ha
    have hlen := take_len (p := p) (out := out)
    have hc : cutN p out = out.length - (out.reverse.takeWhile p).length := rfl
    have hr : out.reverse[(out.reverse.takeWhile p).length]? = some x := by
      rw [List.getElem?_reverse (by omega)]
      rw [show out.length - 1 - (out.reverse.takeWhile p).length = cutN p out - 1 by omega]
      exact hx
    rw [key _ _ hr] at e
    cases e

/-- Each is tried ahead of the next ones. -/
def Sorted (l : List Prm) (out : List Nat) : Prop := out.Pairwise fun i j => bef l i j = true

theorem bef_lt {l : List Prm} {k x : Nat} (h : aheadB (nth l k) (nth l x) = false) (hx : x < k) : bef l x k = true := by
  unfold bef
  rw [h]
  simp [hx]

theorem bef_ahead {l : List Prm} {k x : Nat} (h : aheadB (nth l k) (nth l x) = true) : bef l k x = true := by
  unfold bef
  rw [h]; rfl

theorem orderTo_sorted (l : List Prm) (codes : List ByteArray) : ∀ k, Sorted l (orderTo l codes k)
  | 0 => List.Pairwise.nil
  | k + 1 => by
    have ih := orderTo_sorted l codes k
    have hlt : ∀ x ∈ orderTo l codes k, x < k := fun x hx => ((orderTo_mem l codes x k).1 hx).1
    unfold orderTo
    split
    · obtain ⟨out, ho⟩ : ∃ out, orderTo l codes k = out := ⟨_, rfl⟩
      rw [ho] at ih hlt ⊢
      obtain ⟨p, hp⟩ : ∃ p : Nat → Bool, (fun x => aheadB (nth l k) (nth l x)) = p := ⟨_, rfl⟩
      have hpx : ∀ x, p x = aheadB (nth l k) (nth l x) := fun x => by rw [← hp]
      rw [hp]
      unfold layIn Sorted
      have hs : (out.take (cutN p out) ++ out.drop (cutN p out)).Pairwise fun i j => bef l i j = true := by rw [List.take_append_drop]; exact ih
      rw [List.pairwise_append] at hs ⊢
      have hfront : ∀ y ∈ out.take (cutN p out), bef l y k = true := fun y hy => by
        have hin : y ∈ out := List.mem_of_mem_take hy
        rcases Nat.eq_zero_or_pos (cutN p out) with h0 | h0
        · rw [h0] at hy; simp at hy
        · have hcl := cut_le p out
          obtain ⟨x, hx⟩ : ∃ x, out[cutN p out - 1]? = some x := ⟨_, List.getElem?_eq_getElem (by omega)⟩
          have hxp := cut_stop h0 hx
          rw [hpx] at hxp
          have hxk := bef_lt hxp (hlt x (List.mem_of_getElem? hx))
          obtain ⟨j, hj, e⟩ := List.mem_iff_getElem.1 hy
          rw [List.length_take] at hj
          have hy2 : out[j]? = some y := by rw [← e, List.getElem_take]; exact List.getElem?_eq_getElem _
          rcases Nat.lt_or_ge j (cutN p out - 1) with h1 | h1
          · have hpw := List.pairwise_iff_getElem.1 ih j (cutN p out - 1) (by omega) (by omega) h1
            have e1 : out[j]'(by omega) = y := by
              have := List.getElem?_eq_getElem (l := out) (i := j) (by omega)
              rw [hy2] at this; injection this with this; exact this.symm
            have e2 : out[cutN p out - 1]'(by omega) = x := by
              have := List.getElem?_eq_getElem (l := out) (i := cutN p out - 1) (by omega)
              rw [hx] at this; injection this with this; exact this.symm
            rw [e1, e2] at hpw
            exact bef_trans hpw hxk
          · obtain rfl : j = cutN p out - 1 := by omega
            rw [hx] at hy2
            injection hy2 with hy2
            subst hy2
            exact hxk
      have hback : ∀ z ∈ out.drop (cutN p out), bef l k z = true := fun z hz => by
        have := cut_drop z hz
        rw [hpx] at this
        exact bef_ahead this
      refine ⟨hs.1, List.pairwise_cons.2 ⟨hback, hs.2.1⟩, fun a ha b hb => ?_⟩
      rcases List.mem_cons.1 hb with rfl | hb
      · exact hfront a ha
      · exact hs.2.2 a ha b hb
    · exact ih

/-- There is but one such list of the same places. -/
theorem sorted_one {l : List Prm} : ∀ {a b : List Nat}, Sorted l a → Sorted l b → (∀ i, i ∈ a ↔ i ∈ b) → a = b
  | [], [], _, _, _ => rfl
  | [], y :: b, _, _, h => by have := (h y).2 (List.mem_cons_self ..); simp at this
  | x :: a, [], _, _, h => by have := (h x).1 (List.mem_cons_self ..); simp at this
  | x :: a, y :: b, ha, hb, h => by
    obtain ⟨ha1, ha2⟩ := List.pairwise_cons.1 ha
    obtain ⟨hb1, hb2⟩ := List.pairwise_cons.1 hb
    have hxy : x = y := by
      rcases List.mem_cons.1 ((h x).1 (List.mem_cons_self ..)) with e | hx
      · exact e
      · rcases List.mem_cons.1 ((h y).2 (List.mem_cons_self ..)) with e | hy
        · exact e.symm
        · have h1 := bef_asymm (hb1 x hx)
          rw [ha1 y hy] at h1
          cases h1
    subst hxy
    congr 1
    refine sorted_one ha2 hb2 fun i => ?_
    have hi := h i
    rw [List.mem_cons, List.mem_cons] at hi
    constructor
    · intro hia
      rcases hi.1 (.inr hia) with rfl | hib
      · have := ha1 i hia
        rw [bef_irrefl] at this
        cases this
      · exact hib
    · intro hib
      rcases hi.2 (.inr hib) with rfl | hia
      · have := hb1 i hib
        rw [bef_irrefl] at this
        cases this
      · exact hia

end Go.Proofs.Ytgimcleeamlgcaa.Pr
