/- Deals: bundles, in numbers and lists. · The library's slices.Sort over []int, with this seat's numbers (made by lay-sort .. -/
import Derived.Shelf.Slices.In.SortNone
import Derived.Test.YtljmddjlnlmenaaGreatPq21
import Derived.Test.YtljmddjlnlmenaaGreatProg
set_option maxRecDepth 100000
set_option linter.unusedVariables false

section
namespace Go.Proofs.YtljmddjlnlmenaaGreat.Dl
open Ap (Unt Tir Prm Prt)
open Ct (nth nth_some netAt netsL sumL sumL_append sumL_next halfN UnitsMay PlacesMay May mayB Far take_next lessU)
def hadAt (h : List Bool) (m : Int) : Bool := (h[m.toNat]?).getD true
def take1 (h : List Bool) (m : Int) : List Bool := h.set m.toNat true
theorem take1_length (h : List Bool) (m : Int) : (take1 h m).length = h.length := by unfold take1; rw [List.length_set]
theorem take1_iff (h : List Bool) (m x : Int) : hadAt (take1 h m) x = true ↔ hadAt h x = true \/ m.toNat = x.toNat := by
  unfold hadAt take1
  rw [List.getElem?_set]
  by_cases e : m.toNat = x.toNat
  . rw [if_pos e]
    constructor
    . intro _; exact .inr e
    . intro _; split <;> rfl
  . rw [if_neg e]
    constructor
    . exact .inl
    . rintro (h | h)
      . exact h
      . exact absurd h e
theorem had_false {h : List Bool} {m : Int} (e : hadAt h m = false) : h[m.toNat]? = some false := by
  unfold hadAt at e
  cases hh : h[m.toNat]? with
  | none => rw [hh] at e; cases e
  | some b => rw [hh] at e; rw [show b = false from e]
theorem same_had {h k : List Bool} (hl : h.length = k.length) (e : ∀ x, hadAt h x = true ↔ hadAt k x = true) : h = k := by
  apply List.ext_getElem hl
  intro i h1 h2
  have := e (i : Int)
  unfold hadAt at this
  rw [Int.toNat_natCast, List.getElem?_eq_getElem h1, List.getElem?_eq_getElem h2] at this
  exact Bool.eq_iff_iff.2 this
def leftN : List Bool -> Nat
  | [] => 0
  | b :: l => (if b then 0 else 1) + leftN l
theorem leftN_set : ∀ {h : List Bool} {i : Nat}, h[i]? = some false -> leftN (h.set i true) + 1 = leftN h
  | [], i, e => by simp at e
  | b :: l, 0, e => by
    simp only [List.getElem?_cons_zero, Option.some.injEq] at e
    subst e
    rw [List.set_cons_zero]
    simp only [leftN]
    simp
    omega
  | b :: l, i + 1, e => by
    simp only [List.getElem?_cons_succ] at e
    rw [List.set_cons_succ]
    have := leftN_set e
    simp only [leftN]
    omega
theorem leftN_new : ∀ n, leftN (List.replicate n false) = n
  | 0 => rfl
  | n + 1 => by rw [List.replicate_succ, leftN, leftN_new n]; simp; omega
def first (h : List Bool) : List Int -> Option (Int × List Int)
  | [] => none
  | m :: l => if hadAt h m then first h l else some (m, l)
def pick : Nat -> List Int -> List Bool -> Option (List Int × List Int × List Bool)
  | 0, l, h => some ([], l, h)
  | _ + 1, [], _ => none
  | n + 1, m :: l, h => if hadAt h m then pick (n + 1) l h else match pick n l (take1 h m) with
    | none => none
    | some (a, l', h') => some (m :: a, l', h')
def pickAll : List Nat -> List (List Int) -> List Bool -> Option (List Int × List (List Int) × List Bool)
  | [], ls, h => some ([], ls, h)
  | _ :: _, [], _ => none
  | c :: cs, l :: ls, h => match pick c l h with
    | none => none
    | some (a, l', h') => match pickAll cs ls h' with
      | none => none
      | some (b, ls', h'') => some (a ++ b, l' :: ls', h'')
def rest (acc : List Int) (done : List (List Int)) (cs : List Nat) (ls : List (List Int)) (h : List Bool) : Option (List Int × List (List Int) × List Bool) :=
  match pickAll cs ls h with
  | none => none
  | some (b, ls', h') => some (acc ++ b, done ++ ls', h')
def restIn (acc : List Int) (done : List (List Int)) (c : Nat) (l : List Int) (cs : List Nat) (ls : List (List Int)) (h : List Bool) : Option (List Int × List (List Int) × List Bool) :=
  match pick c l h with
  | none => none
  | some (a, l', h') => rest (acc ++ a) (done ++ [l']) cs ls h'
theorem rest_start (cs : List Nat) (ls : List (List Int)) (h : List Bool) : rest [] [] cs ls h = pickAll cs ls h := by
  unfold rest
  cases pickAll cs ls h with
  | none => rfl
  | some r => rfl
theorem rest_nil (acc : List Int) (done : List (List Int)) (h : List Bool) : rest acc done [] [] h = some (acc, done, h) := by simp [rest, pickAll]
theorem rest_cons (acc : List Int) (done : List (List Int)) (c : Nat) (cs : List Nat) (l : List Int) (ls : List (List Int)) (h : List Bool) : rest acc done (c :: cs) (l :: ls) h = restIn acc done c l cs ls h := by
  unfold restIn rest
  rw [pickAll]
  cases pick c l h with
  | none => rfl
  | some r =>
    obtain ⟨a, l', h'⟩ := r
    show _ = match pickAll cs ls h' with | none => none | some (b, ls', h'') => some (acc ++ a ++ b, done ++ [l'] ++ ls', h'')
    dsimp only
    cases pickAll cs ls h' with
    | none => rfl
    | some r => simp
theorem restIn_zero (acc : List Int) (done : List (List Int)) (l : List Int) (cs : List Nat) (ls : List (List Int)) (h : List Bool) : restIn acc done 0 l cs ls h = rest acc (done ++ [l]) cs ls h := by
  unfold restIn
  rw [show pick 0 l h = some ([], l, h) by cases l <;> rfl]
  simp
theorem restIn_out (acc : List Int) (done : List (List Int)) (c : Nat) (cs : List Nat) (ls : List (List Int)) (h : List Bool) : restIn acc done (c + 1) [] cs ls h = none := rfl
theorem restIn_had {h : List Bool} {m : Int} (e : hadAt h m = true) (acc : List Int) (done : List (List Int)) (c : Nat) (l : List Int) (cs : List Nat) (ls : List (List Int)) : restIn acc done (c + 1) (m :: l) cs ls h = restIn acc done (c + 1) l cs ls h := by
  unfold restIn
  rw [show pick (c + 1) (m :: l) h = pick (c + 1) l h by rw [pick, if_pos e]]
theorem restIn_take {h : List Bool} {m : Int} (e : hadAt h m = false) (acc : List Int) (done : List (List Int)) (c : Nat) (l : List Int) (cs : List Nat) (ls : List (List Int)) : restIn acc done (c + 1) (m :: l) cs ls h = restIn (acc ++ [m]) done c l cs ls (take1 h m) := by
  unfold restIn
  rw [pick, if_neg (by rw [e]; decide)]
  cases pick c l (take1 h m) with
  | none => rfl
  | some r =>
    obtain ⟨a, l', h'⟩ := r
    show rest (acc ++ (m :: a)) (done ++ [l']) cs ls h' = rest (acc ++ [m] ++ a) (done ++ [l']) cs ls h'
    rw [List.append_assoc]
    rfl
theorem restIn_none {h : List Bool} (acc : List Int) (done : List (List Int)) (c : Nat) (cs : List Nat) (ls : List (List Int)) : ∀ {l : List Int}, first h l = none -> restIn acc done (c + 1) l cs ls h = none
  | [], _ => rfl
  | m :: l, e => by
    unfold first at e
    by_cases hm : hadAt h m = true
    . rw [if_pos hm] at e
      rw [restIn_had hm]
      exact restIn_none acc done c cs ls e
    . rw [if_neg hm] at e; cases e
theorem restIn_some {h : List Bool} {x : Int} {k : List Int} (acc : List Int) (done : List (List Int)) (c : Nat) (cs : List Nat) (ls : List (List Int)) : ∀ {l : List Int}, first h l = some (x, k) -> restIn acc done (c + 1) l cs ls h = restIn (acc ++ [x]) done c k cs ls (take1 h x)
  | [], e => by cases e
  | m :: l, e => by
    unfold first at e
    by_cases hm : hadAt h m = true
    . rw [if_pos hm] at e
      rw [restIn_had hm]
      exact restIn_some acc done c cs ls e
    . rw [if_neg hm] at e
      injection e with e
      injection e with e1 e2
      subst e1 e2
      rw [restIn_take ((Bool.not_eq_true _).mp hm)]
theorem first_some {h : List Bool} {x : Int} {k : List Int} : ∀ {l : List Int}, first h l = some (x, k) -> hadAt h x = false /\ x ∈ l /\ (∀ y ∈ k, y ∈ l) /\ k.length < l.length
  | [], e => by cases e
  | m :: l, e => by
    unfold first at e
    by_cases hm : hadAt h m = true
    . rw [if_pos hm] at e
      obtain ⟨h1, h2, h3, h4⟩ := first_some e
      exact ⟨h1, List.mem_cons_of_mem _ h2, fun y hy => List.mem_cons_of_mem _ (h3 y hy), by rw [List.length_cons]; omega⟩
    . rw [if_neg hm] at e
      injection e with e
      injection e with e1 e2
      subst e1 e2
      exact ⟨(Bool.not_eq_true _).mp hm, List.mem_cons_self, fun y hy => List.mem_cons_of_mem _ hy, by rw [List.length_cons]; omega⟩
structure Got (h h' : List Bool) (a : List Int) : Prop where
  fresh : ∀ m ∈ a, hadAt h m = false
  apart : a.Pairwise fun x y => x.toNat ≠ y.toNat
  now : ∀ x, hadAt h' x = true ↔ hadAt h x = true \/ ∃ m ∈ a, m.toNat = x.toNat
  len : h'.length = h.length
  left : leftN h' + a.length = leftN h
theorem Got.nil (h : List Bool) : Got h h [] := ⟨fun _ h => (by cases h), List.Pairwise.nil, fun x => ⟨.inl, fun h => h.elim id fun ⟨_, h, _⟩ => by cases h⟩, rfl, rfl⟩
theorem Got.cons {h h' : List Bool} {m : Int} {a : List Int} (e : hadAt h m = false) (g : Got (take1 h m) h' a) : Got h h' (m :: a) := by
  have hne : ∀ x ∈ a, m.toNat ≠ x.toNat := fun x hx e2 => by
    have h1 := g.fresh x hx
    rw [(take1_iff h m x).2 (.inr e2)] at h1
    cases h1
  refine ⟨fun x hx => ?_, List.pairwise_cons.2 ⟨hne, g.apart⟩, fun x => ?_, by rw [g.len, take1_length], ?_⟩
  . rcases List.mem_cons.1 hx with rfl | hx
    . exact e
    . have h1 := g.fresh x hx
      rw [Bool.eq_false_iff] at h1 ⊢
      exact fun h2 => h1 ((take1_iff h m x).2 (.inl h2))
  . rw [g.now, take1_iff]
    constructor
    . rintro ((h1 | h1) | ⟨y, hy, h1⟩)
      . exact .inl h1
      . exact .inr ⟨m, List.mem_cons_self, h1⟩
      . exact .inr ⟨y, List.mem_cons_of_mem _ hy, h1⟩
    . rintro (h1 | ⟨y, hy, h1⟩)
      . exact .inl (.inl h1)
      . rcases List.mem_cons.1 hy with rfl | hy
        . exact .inl (.inr h1)
        . exact .inr ⟨y, hy, h1⟩
  . have h1 := leftN_set (had_false e)
    have h2 := g.left
    unfold take1 at h2
    rw [List.length_cons]
    omega
theorem Got.append {h h1 h2 : List Bool} {a b : List Int} (g : Got h h1 a) (k : Got h1 h2 b) : Got h h2 (a ++ b) := by
  refine ⟨fun x hx => ?_, List.pairwise_append.2 ⟨g.apart, k.apart, fun x hx y hy e => ?_⟩, fun x => ?_, by rw [k.len, g.len], ?_⟩
  . rcases List.mem_append.1 hx with hx | hx
    . exact g.fresh x hx
    . have h3 := k.fresh x hx
      rw [Bool.eq_false_iff] at h3 ⊢
      exact fun h4 => h3 ((g.now x).2 (.inl h4))
  . have h3 := k.fresh y hy
    rw [(g.now y).2 (.inr ⟨x, hx, e⟩)] at h3
    cases h3
  . rw [k.now, g.now]
    constructor
    . rintro ((h3 | ⟨m, hm, h3⟩) | ⟨m, hm, h3⟩)
      . exact .inl h3
      . exact .inr ⟨m, List.mem_append_left _ hm, h3⟩
      . exact .inr ⟨m, List.mem_append_right _ hm, h3⟩
    . rintro (h3 | ⟨m, hm, h3⟩)
      . exact .inl (.inl h3)
      . rcases List.mem_append.1 hm with hm | hm
        . exact .inl (.inr ⟨m, hm, h3⟩)
        . exact .inr ⟨m, hm, h3⟩
  . have h3 := g.left
    have h4 := k.left
    rw [List.length_append]
    omega
theorem Got.perm {h h' : List Bool} {a b : List Int} (g : Got h h' a) (p : a.Perm b) : Got h h' b :=
  ⟨fun m hm => g.fresh m (p.mem_iff.2 hm), (p.pairwise_iff (fun h => h.symm)).1 g.apart, fun x => by
    rw [g.now]
    constructor
    . rintro (h1 | ⟨m, hm, h1⟩)
      . exact .inl h1
      . exact .inr ⟨m, p.mem_iff.1 hm, h1⟩
    . rintro (h1 | ⟨m, hm, h1⟩)
      . exact .inl h1
      . exact .inr ⟨m, p.mem_iff.2 hm, h1⟩, g.len, by rw [<- p.length_eq]; exact g.left⟩
theorem Got.mono {h h' : List Bool} {a : List Int} (g : Got h h' a) {x : Int} (e : hadAt h x = true) : hadAt h' x = true := (g.now x).2 (.inl e)
def Skip (h : List Bool) (S L : List Int) : Prop := ∃ pre, S = pre ++ L /\ ∀ m ∈ pre, hadAt h m = true
theorem Skip.refl (h : List Bool) (S : List Int) : Skip h S S := ⟨[], rfl, fun _ h => by cases h⟩
theorem Skip.mono {h h' : List Bool} {S L : List Int} (k : Skip h S L) (f : ∀ x, hadAt h x = true -> hadAt h' x = true) : Skip h' S L := by
  obtain ⟨pre, e, hp⟩ := k
  exact ⟨pre, e, fun m hm => f m (hp m hm)⟩
theorem Skip.trans {h : List Bool} {S L M : List Int} (k : Skip h S L) (g : Skip h L M) : Skip h S M := by
  obtain ⟨p1, rfl, h1⟩ := k
  obtain ⟨p2, rfl, h2⟩ := g
  exact ⟨p1 ++ p2, by rw [List.append_assoc], fun m hm => by
    rcases List.mem_append.1 hm with hm | hm
    . exact h1 m hm
    . exact h2 m hm⟩
theorem pick_got : ∀ {n : Nat} {l : List Int} {h : List Bool} {a l' : List Int} {h' : List Bool}, pick n l h = some (a, l', h') -> Got h h' a /\ a.length = n /\ (∀ x ∈ a, x ∈ l) /\ (∀ x ∈ l', x ∈ l) /\ Skip h' l l' /\ l'.length <= l.length
  | 0, l, h, a, l', h', e => by
    rw [show pick 0 l h = some ([], l, h) by cases l <;> rfl] at e
    injection e with e
    injection e with e1 e
    injection e with e2 e3
    subst e1 e2 e3
    exact ⟨Got.nil h, rfl, fun _ h => (by cases h), fun _ h => h, Skip.refl _ _, Nat.le_refl _⟩
  | n + 1, [], h, a, l', h', e => by cases e
  | n + 1, m :: l, h, a, l', h', e => by
    rw [pick] at e
    by_cases hm : hadAt h m = true
    . rw [if_pos hm] at e
      obtain ⟨h1, h2, h3, h4, h5, h6⟩ := pick_got e
      refine ⟨h1, h2, fun x hx => List.mem_cons_of_mem _ (h3 x hx), fun x hx => List.mem_cons_of_mem _ (h4 x hx), ?_, by rw [List.length_cons]; omega⟩
      exact Skip.trans ⟨[m], rfl, fun x hx => by rw [List.mem_singleton.1 hx]; exact h1.mono hm⟩ h5
    . rw [if_neg hm] at e
      cases ep : pick n l (take1 h m) with
      | none => rw [ep] at e; cases e
      | some r =>
        obtain ⟨a2, l2, h2⟩ := r
        rw [ep] at e
        injection e with e
        injection e with e1 e
        injection e with e2 e3
        subst e1 e2 e3
        obtain ⟨g1, g2, g3, g4, g5, g6⟩ := pick_got ep
        refine ⟨Got.cons ((Bool.not_eq_true _).mp hm) g1, by rw [List.length_cons, g2], fun x hx => ?_, fun x hx => List.mem_cons_of_mem _ (g4 x hx), ?_, by rw [List.length_cons]; omega⟩
        . rcases List.mem_cons.1 hx with rfl | hx
          . exact List.mem_cons_self
          . exact List.mem_cons_of_mem _ (g3 x hx)
        . exact Skip.trans ⟨[m], rfl, fun x hx => by rw [List.mem_singleton.1 hx]; exact g1.mono ((take1_iff h m m).2 (.inr rfl))⟩ g5
theorem pick_pre {n : Nat} {h : List Bool} {L : List Int} : ∀ {pre : List Int}, (∀ m ∈ pre, hadAt h m = true) -> pick (n + 1) (pre ++ L) h = pick (n + 1) L h
  | [], _ => rfl
  | m :: pre, hp => by
    rw [List.cons_append, pick, if_pos (hp m List.mem_cons_self)]
    exact pick_pre fun x hx => hp x (List.mem_cons_of_mem _ hx)
theorem pick_skip {n : Nat} {h : List Bool} {S L : List Int} (k : Skip h S L) : (pick n L h = none -> pick n S h = none) /\ ∀ a L' h', pick n L h = some (a, L', h') -> ∃ S', pick n S h = some (a, S', h') /\ Skip h' S L' := by
  cases n with
  | zero =>
    have e1 : pick 0 L h = some ([], L, h) := by cases L <;> rfl
    have e2 : pick 0 S h = some ([], S, h) := by cases S <;> rfl
    rw [e1, e2]
    refine ⟨fun e => (by cases e), fun a L' h' e => ?_⟩
    injection e with e
    injection e with e1 e
    injection e with e2 e3
    subst e1 e2 e3
    exact ⟨S, rfl, k⟩
  | succ n =>
    obtain ⟨pre, rfl, hp⟩ := k
    rw [pick_pre hp]
    refine ⟨id, fun a L' h' e => ⟨L', e, ?_⟩⟩
    obtain ⟨g, _, _, _, g5, _⟩ := pick_got e
    exact Skip.trans (Skip.mono ⟨pre, rfl, hp⟩ fun x hx => g.mono hx) g5
def Skips (h : List Bool) : List (List Int) -> List (List Int) -> Prop
  | [], [] => True
  | S :: Ss, L :: Ls => Skip h S L /\ Skips h Ss Ls
  | [], _ :: _ => False
  | _ :: _, [] => False
theorem Skips.refl (h : List Bool) : ∀ Ss, Skips h Ss Ss
  | [] => trivial
  | S :: Ss => ⟨Skip.refl h S, Skips.refl h Ss⟩
theorem Skips.mono {h h' : List Bool} (f : ∀ x, hadAt h x = true -> hadAt h' x = true) : ∀ {Ss Ls : List (List Int)}, Skips h Ss Ls -> Skips h' Ss Ls
  | [], [], _ => trivial
  | S :: Ss, L :: Ls, k => ⟨k.1.mono f, Skips.mono f k.2⟩
  | [], _ :: _, k => k.elim
  | _ :: _, [], k => k.elim
theorem pickAll_got : ∀ {cs : List Nat} {ls : List (List Int)} {h : List Bool} {b : List Int} {ls' : List (List Int)} {h' : List Bool}, pickAll cs ls h = some (b, ls', h') -> Got h h' b /\ (∀ x ∈ b, ∃ l ∈ ls, x ∈ l) /\ (∀ l' ∈ ls', ∀ x ∈ l', ∃ l ∈ ls, x ∈ l) /\ ls'.length = ls.length
  | [], ls, h, b, ls', h', e => by
    rw [pickAll] at e
    injection e with e
    injection e with e1 e
    injection e with e2 e3
    subst e1 e2 e3
    exact ⟨Got.nil h, fun _ h => (by cases h), fun l hl x hx => ⟨l, hl, hx⟩, rfl⟩
  | c :: cs, [], h, b, ls', h', e => by cases e
  | c :: cs, l :: ls, h, b, ls', h', e => by
    rw [pickAll] at e
    cases ep : pick c l h with
    | none => rw [ep] at e; cases e
    | some r =>
      obtain ⟨a1, l1, h1⟩ := r
      rw [ep] at e
      dsimp only at e
      cases eq : pickAll cs ls h1 with
      | none => rw [eq] at e; cases e
      | some r =>
        obtain ⟨b2, ls2, h2⟩ := r
        rw [eq] at e
        dsimp only at e
        injection e with e
        injection e with e1 e
        injection e with e2 e3
        subst e1 e2 e3
        obtain ⟨g1, _, g3, g4, _, _⟩ := pick_got ep
        obtain ⟨k1, k2, k3, k4⟩ := pickAll_got eq
        refine ⟨g1.append k1, fun x hx => ?_, fun l' hl x hx => ?_, by rw [List.length_cons, List.length_cons, k4]⟩
        . rcases List.mem_append.1 hx with hx | hx
          . exact ⟨l, List.mem_cons_self, g3 x hx⟩
          . obtain ⟨y, hy, hxy⟩ := k2 x hx
            exact ⟨y, List.mem_cons_of_mem _ hy, hxy⟩
        . rcases List.mem_cons.1 hl with rfl | hl
          . exact ⟨l, List.mem_cons_self, g4 x hx⟩
          . obtain ⟨y, hy, hxy⟩ := k3 l' hl x hx
            exact ⟨y, List.mem_cons_of_mem _ hy, hxy⟩
theorem pickAll_skip : ∀ {cs : List Nat} {Ss Ls : List (List Int)} {h : List Bool}, Skips h Ss Ls -> (pickAll cs Ls h = none -> pickAll cs Ss h = none) /\ ∀ b Ls' h', pickAll cs Ls h = some (b, Ls', h') -> ∃ Ss', pickAll cs Ss h = some (b, Ss', h') /\ Skips h' Ss Ls'
  | [], Ss, Ls, h, k => by
    rw [pickAll, pickAll]
    refine ⟨fun e => (by cases e), fun b Ls' h' e => ?_⟩
    injection e with e
    injection e with e1 e
    injection e with e2 e3
    subst e1 e2 e3
    exact ⟨Ss, rfl, k⟩
  | c :: cs, [], [], h, k => ⟨fun e => rfl, fun b Ls' h' e => by cases e⟩
  | c :: cs, [], _ :: _, h, k => k.elim
  | c :: cs, _ :: _, [], h, k => k.elim
  | c :: cs, S :: Ss, L :: Ls, h, k => by
    obtain ⟨p1, p2⟩ := pick_skip (n := c) k.1
    rw [pickAll, pickAll]
    cases ep : pick c L h with
    | none =>
      rw [p1 ep]
      exact ⟨fun _ => rfl, fun b Ls' h' e => by cases e⟩
    | some r =>
      obtain ⟨a1, l1, h1⟩ := r
      obtain ⟨S', e2, hS⟩ := p2 _ _ _ ep
      rw [e2]
      dsimp only
      obtain ⟨g1, _⟩ := pick_got ep
      obtain ⟨q1, q2⟩ := pickAll_skip (cs := cs) (Skips.mono (fun x hx => g1.mono hx) k.2)
      cases eq : pickAll cs Ls h1 with
      | none =>
        rw [q1 eq]
        exact ⟨fun _ => rfl, fun b Ls' h' e => by cases e⟩
      | some r =>
        obtain ⟨b2, ls2, h2⟩ := r
        obtain ⟨Ss', e3, hSs⟩ := q2 _ _ _ eq
        rw [e3]
        dsimp only
        refine ⟨fun e => (by cases e), fun b Ls' h' e => ?_⟩
        injection e with e
        injection e with e1 e
        injection e with e4 e5
        subst e1 e4 e5
        obtain ⟨g2, _⟩ := pickAll_got eq
        exact ⟨_, rfl, hS.mono (fun x hx => g2.mono hx), hSs⟩
def srt (l : List Int) : List Int := l.mergeSort fun x y => decide (x <= y)
theorem srt_perm (l : List Int) : (srt l).Perm l := List.mergeSort_perm _ _
theorem srt_length (l : List Int) : (srt l).length = l.length := (srt_perm l).length_eq
theorem srt_sorted (l : List Int) : (srt l).Pairwise (· <= ·) := by
  have h := List.pairwise_mergeSort (le := fun x y : Int => decide (x <= y)) (by intro a b c; simp; omega) (by intro a b; simp; omega) l
  exact h.imp (by intro a b hab; simpa using hab)
theorem srt_unique {l m : List Int} (hm : m.Pairwise (· <= ·)) (h : m.Perm l) : m = srt l :=
  (h.trans (srt_perm l).symm).eq_of_pairwise (fun a b _ _ h1 h2 => by omega) hm (srt_sorted l)
theorem srt_may {us : List Unt} {b : List Int} (h : Apart us b) : PlacesMay us (srt b) := by
  have h2 := h.perm (srt_perm b).symm
  refine ⟨fun i m hm => h2.get hm, fun i x y hx hy => ?_⟩
  obtain ⟨i1, e1⟩ := List.getElem?_eq_some_iff.1 hx
  obtain ⟨i2, e2⟩ := List.getElem?_eq_some_iff.1 hy
  have h3 := List.pairwise_iff_getElem.1 (srt_sorted b) i (i + 1) i1 i2 (by omega)
  have h4 := h2.toFar i (i + 1) x y (by omega) hx hy
  rw [e1, e2] at h3
  omega
def counts (p : Prm) : List Nat := p.parts.map fun q => q.count.toNat
def nextB (p : Prm) (us : List Unt) (ls : List (List Int)) (h : List Bool) : Option (List Int × List (List Int) × List Bool) :=
  match pickAll (counts p) ls h with
  | none => none
  | some (b, ls', h') => if sumL (netsL us (srt b)) <= p.amount then none else some (srt b, ls', h')
def offsB (p : Prm) (us : List Unt) (b : List Int) : List Int := (Sh.largR (sumL (netsL us b) - p.amount) (nth (netsL us b)) (netsL us b).length).1
def makeB (p : Prm) (us : List Unt) : Nat -> List (List Int) -> List Bool -> List Int -> List Int -> List Int × List Int
  | 0, _, _, all, os => (all, os)
  | f + 1, ls, h, all, os => match nextB p us ls h with
    | none => (all, os)
    | some (b, ls', h') => makeB p us f ls' h' (all ++ b) (os ++ offsB p us b)
theorem next_got {p : Prm} {us : List Unt} {ls : List (List Int)} {h : List Bool} {b : List Int} {ls' : List (List Int)} {h' : List Bool} (e : nextB p us ls h = some (b, ls', h')) : Got h h' b /\ b.Pairwise (· <= ·) /\ (∀ x ∈ b, ∃ l ∈ ls, x ∈ l) /\ (∀ l' ∈ ls', ∀ x ∈ l', ∃ l ∈ ls, x ∈ l) /\ ls'.length = ls.length /\ p.amount < sumL (netsL us b) := by
  unfold nextB at e
  cases ep : pickAll (counts p) ls h with
  | none => rw [ep] at e; cases e
  | some r =>
    obtain ⟨a, l1, h1⟩ := r
    rw [ep] at e
    dsimp only at e
    split at e
    . cases e
    . rename_i hs
      injection e with e
      injection e with e1 e
      injection e with e2 e3
      subst e1 e2 e3
      obtain ⟨g1, g2, g3, g4⟩ := pickAll_got ep
      exact ⟨g1.perm (srt_perm a).symm, srt_sorted a, fun x hx => g2 x ((srt_perm a).mem_iff.1 hx), g3, g4, by omega⟩
theorem next_skip {p : Prm} {us : List Unt} {Ss Ls : List (List Int)} {h : List Bool} (k : Skips h Ss Ls) : (nextB p us Ls h = none -> nextB p us Ss h = none) /\ ∀ b Ls' h', nextB p us Ls h = some (b, Ls', h') -> ∃ Ss', nextB p us Ss h = some (b, Ss', h') /\ Skips h' Ss Ls' := by
  obtain ⟨p1, p2⟩ := pickAll_skip (cs := counts p) k
  unfold nextB
  cases ep : pickAll (counts p) Ls h with
  | none =>
    rw [p1 ep]
    exact ⟨fun _ => rfl, fun b Ls' h' e => by cases e⟩
  | some r =>
    obtain ⟨a, l1, h1⟩ := r
    obtain ⟨Ss', e2, hS⟩ := p2 _ _ _ ep
    rw [e2]
    dsimp only
    split
    . exact ⟨fun _ => rfl, fun b Ls' h' e => by cases e⟩
    . refine ⟨fun e => (by cases e), fun b Ls' h' e => ?_⟩
      injection e with e
      injection e with e1 e
      injection e with e3 e4
      subst e1 e3 e4
      exact ⟨_, rfl, hS⟩
structure Making (us : List Unt) (ls : List (List Int)) (h : List Bool) (all os : List Int) : Prop where
  fine : Fine us all os
  len : h.length = us.length
  had : ∀ m ∈ all, hadAt h m = true
  good : ∀ l ∈ ls, ∀ m ∈ l, 0 <= m /\ ∃ u, us[m.toNat]? = some u /\ u.opn = true
theorem next_may {p : Prm} {us : List Unt} {ls : List (List Int)} {h : List Bool} {b : List Int} {ls' : List (List Int)} {h' : List Bool} {all os : List Int} (k : Making us ls h all os) (e : nextB p us ls h = some (b, ls', h')) : PlacesMay us b := by
  obtain ⟨g1, g2, g3, _⟩ := next_got e
  have ha : Apart us b := ⟨fun m hm => by obtain ⟨l, hl, hm⟩ := g3 m hm; exact k.good l hl m hm, g1.apart⟩
  have := srt_may ha
  rw [<- srt_unique g2 (List.Perm.refl b)] at this
  exact this
theorem Making.next {p : Prm} {us : List Unt} {ls : List (List Int)} {h : List Bool} {b : List Int} {ls' : List (List Int)} {h' : List Bool} {all os : List Int} (k : Making us ls h all os) (hu : UnitsMay us) (hp : 0 <= p.amount) (e : nextB p us ls h = some (b, ls', h')) :
    Making us ls' h' (all ++ b) (os ++ offsB p us b) /\ Ct.NetsOk (netsL us b) /\ Ct.OffsFine (netsL us b) (offsB p us b) /\ sumL (offsB p us b) = sumL (netsL us b) - p.amount /\ leftN h' < leftN h := by
  have hm := next_may k e
  obtain ⟨g1, g2, g3, g4, g5, g6⟩ := next_got e
  have hno := Ct.nets_ok ⟨hu, hm⟩
  obtain ⟨s1, s2⟩ := Ct.spend_fine hno (t := sumL (netsL us b) - p.amount) (by omega) (by omega)
  have hb : 0 < b.length := by
    rcases Nat.eq_zero_or_pos b.length with h0 | h0
    . have e0 : b = [] := List.eq_nil_of_length_eq_zero h0
      subst e0
      have : sumL (netsL us []) = 0 := rfl
      omega
    . exact h0
  have hlen : (offsB p us b).length = b.length := s1.1.trans (by unfold netsL; rw [List.length_map])
  refine ⟨⟨⟨⟨fun m hm2 => ?_, ?_⟩, ?_, fun i m o hi ho => ?_⟩, by rw [g1.len, k.len], fun m hm2 => ?_, fun l hl m hm2 => ?_⟩, hno, s1, s2, ?_⟩
  . rcases List.mem_append.1 hm2 with h1 | h1
    . exact k.fine.apart.at_ m h1
    . exact (apart_of hm).at_ m h1
  . refine List.pairwise_append.2 ⟨k.fine.apart.far, g1.apart, fun x hx y hy exy => ?_⟩
    have h1 := k.had x hx
    have h2 := g1.fresh y hy
    unfold hadAt at h1 h2
    rw [exy] at h1
    rw [h1] at h2
    cases h2
  . rw [List.length_append, List.length_append, k.fine.len, hlen]
  . rcases Nat.lt_or_ge i all.length with h1 | h1
    . rw [List.getElem?_append_left h1] at hi
      rw [List.getElem?_append_left (by rw [k.fine.len]; exact h1)] at ho
      exact k.fine.each i m o hi ho
    . rw [List.getElem?_append_right h1] at hi
      rw [List.getElem?_append_right (by rw [k.fine.len]; exact h1), k.fine.len] at ho
      refine s1.2 (i - all.length) o (netAt us m) ho ?_
      unfold netsL
      rw [List.getElem?_map, hi]; rfl
  . rcases List.mem_append.1 hm2 with h1 | h1
    . exact g1.mono (k.had m h1)
    . exact (g1.now m).2 (.inr ⟨m, h1, rfl⟩)
  . obtain ⟨l0, hl0, hm0⟩ := g4 l hl m hm2
    exact k.good l0 hl0 m hm0
  . have := g1.left
    omega
theorem make_stop {p : Prm} {us : List Unt} {ls : List (List Int)} {h : List Bool} (e : nextB p us ls h = none) (f : Nat) (all os : List Int) : makeB p us f ls h all os = (all, os) := by
  cases f with
  | zero => rfl
  | succ f => rw [makeB, e]
theorem make_on {p : Prm} {us : List Unt} {ls : List (List Int)} {h : List Bool} {b : List Int} {ls' : List (List Int)} {h' : List Bool} (e : nextB p us ls h = some (b, ls', h')) (f : Nat) (all os : List Int) : makeB p us (f + 1) ls h all os = makeB p us f ls' h' (all ++ b) (os ++ offsB p us b) := by
  rw [makeB, e]
noncomputable def bundleB (p : Prm) (us : List Unt) (parts : List (List Int)) : Bool := Pr.promoB p && p.kind == 4 && parts.length == p.parts.length && parts.all (mayB us)
def starts (us : List Unt) (parts : List (List Int)) : List (List Int) := parts.map (dearL us)
def madeB (p : Prm) (us : List Unt) (parts : List (List Int)) : List Int × List Int := makeB p us (us.length + 1) (starts us parts) (List.replicate us.length false) [] []
noncomputable def bundleU (p : Prm) (us : List Unt) (parts : List (List Int)) : List Unt × Int :=
  if bundleB p us parts = true then lessU us (madeB p us parts).1 (madeB p us parts).2 p.closes else (us, 0)
theorem starts_making {us : List Unt} {parts : List (List Int)} (h : ∀ ms ∈ parts, PlacesMay us ms) : Making us (starts us parts) (List.replicate us.length false) [] [] :=
  ⟨⟨Apart.nil us, rfl, fun k m o h => by simp at h⟩, List.length_replicate, fun m h => (by cases h), fun l hl m hm => by
    obtain ⟨ms, hms, rfl⟩ := List.mem_map.1 hl
    exact (apart_of (h ms hms)).at_ m ((dearL_perm us ms).mem_iff.1 hm)⟩
theorem bundle_kind {p : Prm} (h : Pr.promoB p = true) (hk : p.kind = 4) : 0 <= p.amount /\ p.amount <= 10000000000000 /\ 1 <= p.parts.length /\ p.parts.length <= 3 /\ ∀ q ∈ p.parts, 1 <= q.count /\ q.count <= 100 := by
  unfold Pr.promoB at h
  rw [Bool.and_eq_true] at h
  have h := h.2
  unfold Pr.kindB at h
  rw [if_neg (by omega), if_neg (by omega), if_neg (by omega), if_pos hk] at h
  unfold Pr.partsB Pr.inB at h
  simp only [Bool.and_eq_true, decide_eq_true_eq, List.all_eq_true] at h
  obtain ⟨⟨⟨⟨⟨_, ha⟩, _⟩, hp⟩, _⟩, _⟩ := h
  refine ⟨by omega, by omega, by omega, by omega, fun q hq => ?_⟩
  have h1 := hp.1.1 q hq
  unfold Pr.partB at h1
  simp only [Bool.and_eq_true, decide_eq_true_eq] at h1
  omega
theorem buyget_kind {p : Prm} (h : Pr.promoB p = true) (hk : p.kind = 3) : 0 <= p.rate /\ p.rate <= 10000 /\ 1 <= p.buy /\ p.buy <= 100 /\ 1 <= p.get /\ p.get <= 100 := by
  unfold Pr.promoB at h
  rw [Bool.and_eq_true] at h
  have h := h.2
  unfold Pr.kindB at h
  rw [if_neg (by omega), if_neg (by omega), if_pos hk] at h
  unfold Pr.someB at h
  simp only [Bool.and_eq_true, decide_eq_true_eq, beq_iff_eq] at h
  omega
end Go.Proofs.YtljmddjlnlmenaaGreat.Dl

end

section
namespace Go.Proofs.YtljmddjlnlmenaaGreat.Srt
open Go.Shelf
def ren : Go.Shelf.Ren := ⟨fun | 189 => 72 | 125 => 101 | 257 => 100 | 128 => 125 | 129 => 126 | 294 => 116 | 295 => 117 | 296 => 118 | 297 => 119 | 298 => 120 | 299 => 121 | 216 => 122 | 300 => 123 | 301 => 124 | 328 => 133 | 329 => 134 | 330 => 135 | 331 => 136 | 332 => 137 | 215 => 138 | 343 => 141 | n => n, fun | 28 => 36 | 3 => 3 | 46 => 81 | 0 => 0 | 51 => 169 | 53 => 44 | 4 => 4 | 183 => 163 | 182 => 162 | 131 => 104 | 5 => 5 | 9 => 9 | 218 => 177 | 222 => 181 | 228 => 187 | 229 => 188 | n => n, fun | n => n⟩
theorem lays : Go.Proofs.Lays.n189 Tryz.prog ren := {
  mixed := by kernel_rfl
  f125 := Tryz.func101.trans (congrArg some (by kernel_rfl))
  f128 := Tryz.func125.trans (congrArg some (by kernel_rfl))
  f129 := Tryz.func126.trans (congrArg some (by kernel_rfl))
  f189 := Tryz.func72.trans (congrArg some (by kernel_rfl))
  f215 := Tryz.func138.trans (congrArg some (by kernel_rfl))
  f216 := Tryz.func122.trans (congrArg some (by kernel_rfl))
  f257 := Tryz.func100.trans (congrArg some (by kernel_rfl))
  f294 := Tryz.func116.trans (congrArg some (by kernel_rfl))
  f295 := Tryz.func117.trans (congrArg some (by kernel_rfl))
  f296 := Tryz.func118.trans (congrArg some (by kernel_rfl))
  f297 := Tryz.func119.trans (congrArg some (by kernel_rfl))
  f298 := Tryz.func120.trans (congrArg some (by kernel_rfl))
  f299 := Tryz.func121.trans (congrArg some (by kernel_rfl))
  f300 := Tryz.func123.trans (congrArg some (by kernel_rfl))
  f301 := Tryz.func124.trans (congrArg some (by kernel_rfl))
  f328 := Tryz.func133.trans (congrArg some (by kernel_rfl))
  f329 := Tryz.func134.trans (congrArg some (by kernel_rfl))
  f330 := Tryz.func135.trans (congrArg some (by kernel_rfl))
  f331 := Tryz.func136.trans (congrArg some (by kernel_rfl))
  f332 := Tryz.func137.trans (congrArg some (by kernel_rfl))
  f343 := Tryz.func141.trans (congrArg some (by kernel_rfl))
  t0 := Tryz.underlying0
  a0 := Tryz.isAgg0
  z0 := Tryz.sizeOf0
  v0 := Tryz.zeroValue0
  t3 := Tryz.underlying3
  a3 := Tryz.isAgg3
  z3 := Tryz.sizeOf3
  v3 := Tryz.zeroValue3
  t4 := Tryz.underlying4
  a4 := Tryz.isAgg4
  z4 := Tryz.sizeOf4
  v4 := Tryz.zeroValue4
  t5 := Tryz.underlying5
  a5 := Tryz.isAgg5
  z5 := Tryz.sizeOf5
  v5 := Tryz.zeroValue5
  t9 := Tryz.underlying9
  a9 := Tryz.isAgg9
  z9 := Tryz.sizeOf9
  v9 := Tryz.zeroValue9
  t28 := Tryz.underlying36
  a28 := Tryz.isAgg36
  z28 := Tryz.sizeOf36
  v28 := Tryz.zeroValue36
  t46 := Tryz.underlying81
  a46 := Tryz.isAgg81
  z46 := Tryz.sizeOf81
  v46 := Tryz.zeroValue81
  t51 := Tryz.underlying169
  a51 := Tryz.isAgg169
  z51 := Tryz.sizeOf169
  v51 := Tryz.zeroValue169
  t53 := Tryz.underlying44
  a53 := Tryz.isAgg44
  z53 := Tryz.sizeOf44
  v53 := Tryz.zeroValue44
  t131 := Tryz.underlying104
  a131 := Tryz.isAgg104
  z131 := Tryz.sizeOf104
  v131 := Tryz.zeroValue104
  t182 := Tryz.underlying162
  a182 := Tryz.isAgg162
  z182 := Tryz.sizeOf162
  v182 := Tryz.zeroValue162
  t183 := Tryz.underlying163
  a183 := Tryz.isAgg163
  z183 := Tryz.sizeOf163
  v183 := Tryz.zeroValue163
  t218 := Tryz.underlying177
  a218 := Tryz.isAgg177
  z218 := Tryz.sizeOf177
  v218 := Tryz.zeroValue177
  t222 := Tryz.underlying181
  a222 := Tryz.isAgg181
  z222 := Tryz.sizeOf181
  v222 := Tryz.zeroValue181
  t228 := Tryz.underlying187
  a228 := Tryz.isAgg187
  z228 := Tryz.sizeOf187
  v228 := Tryz.zeroValue187
  t229 := Tryz.underlying188
  a229 := Tryz.isAgg188
  z229 := Tryz.sizeOf188
  v229 := Tryz.zeroValue188 }
end Go.Proofs.YtljmddjlnlmenaaGreat.Srt

end
