/- A block of slices, each of them a row of the call's own, apart from all others. Nothing here speaks of the program. -/
import Derived.Test.YtkpekdcglbaadaaKdC
set_option maxRecDepth 100000

set_option linter.unusedVariables false
namespace Go.Proofs.Ytkpekdcglbaadaa.Kd
open Go.ChangeShapes Go.WideShapes Go.ChangeAt Go.RowKit Go.Deep
open Mv (Only)
open Qu (Blk)

variable {α : Type}

/-- The slices vs lie in block g, they read as the lists ls; none grows into another, into g, or into a block of N. -/
structure Fan (K : Kind α) (w : World) (B E T g : Nat) (N : Nat → Prop) (vs : List Value) (ls : List (List α)) : Prop where
  blk : Blk w g T vs.toArray
  len : vs.length = ls.length
  own : ∀ (i : Nat) (v : Value) (l : List α), vs[i]? = some v → ls[i]? = some l → Own K w B E (fun _ => False) v l.length l
  off : ∀ (i : Nat) (v : Value), vs[i]? = some v → v.ownBlock ≠ some g
  far : ∀ (i : Nat) (v : Value) (b : Nat), vs[i]? = some v → v.ownBlock = some b → ¬ N b
  apart : ∀ (i j : Nat) (u v : Value) (b : Nat), vs[i]? = some u → vs[j]? = some v → u.ownBlock = some b → v.ownBlock = some b → i = j
  low : B ≤ g

section
variable {K : Kind α} {w w' : World} {B E T g : Nat} {N N' : Nat → Prop} {vs : List Value} {ls : List (List α)} {i : Nat} {v : Value} {l : List α}
theorem Fan.there (h : Fan K w B E T g N vs ls) (hi : vs[i]? = some v) : ∃ l, ls[i]? = some l ∧ Own K w B E (fun _ => False) v l.length l := by
  have h1 := (List.getElem?_eq_some_iff.1 hi).1
  have h2 := h.len
  obtain ⟨l, hl⟩ : ∃ l, ls[i]? = some l := ⟨_, List.getElem?_eq_getElem (by omega)⟩
  exact ⟨l, hl, h.own i v l hi hl⟩

theorem Fan.get (h : Fan K w B E T g N vs ls) (hl : ls[i]? = some l) : ∃ v, vs[i]? = some v ∧ Own K w B E (fun _ => False) v l.length l ∧ w.cell? ⟨g, i, none⟩ = some v := by
  have h1 := (List.getElem?_eq_some_iff.1 hl).1
  have h2 := h.len
  obtain ⟨v, hv⟩ : ∃ v, vs[i]? = some v := ⟨_, List.getElem?_eq_getElem (by omega)⟩
  refine ⟨v, hv, h.own i v l hv hl, ?_⟩
  rw [h.blk.cell, List.getElem?_toArray]
  exact hv

theorem Fan.away (h : Fan K w B E T g N vs ls) (hb : Below w.heap.size w w') (hN : ∀ b, N' b → w.heap.size ≤ b) : Fan K w' B E T g N' vs ls :=
  ⟨h.blk.below hb, h.len, fun i v l hv hl => (h.own i v l hv hl).later hb, h.off, fun i v b hv he hb2 => by
    obtain ⟨l, _, ho⟩ := h.there hv
    have := (ho.low b he).2
    have := hN b hb2
    omega, h.apart, h.low⟩

theorem Fan.later (h : Fan K w B E T g N vs ls) (hb : Below w.heap.size w w') : Fan K w' B E T g N vs ls :=
  ⟨h.blk.below hb, h.len, fun i v l hv hl => (h.own i v l hv hl).later hb, h.off, h.far, h.apart, h.low⟩

theorem Fan.less (h : Fan K w B E T g N vs ls) (f : ∀ b, N' b → N b) : Fan K w B E T g N' vs ls :=
  ⟨h.blk, h.len, h.own, h.off, fun i v b hv he hb => h.far i v b hv he (f b hb), h.apart, h.low⟩

/-- Empty slices, in a block that is new. -/
theorem Fan.made (K : Kind α) (w : World) (B E T n : Nat) (M : Array Value) (hM : M.toList = List.replicate n (.slice none 0 0)) (hB : B ≤ w.heap.size) : Fan K (w.alloc (.cells M T)) B E T w.heap.size (fun _ => False) (List.replicate n (.slice none 0 0)) (List.replicate n []) := by
  have e : M = (List.replicate n (Value.slice none 0 0)).toArray := by rw [← hM, Array.toArray_toList]
  have hv : ∀ (i : Nat) (v : Value), (List.replicate n (Value.slice none 0 0))[i]? = some v → v = .slice none 0 0 := fun i v h => (List.mem_replicate.1 (List.mem_of_getElem? h)).2
  refine ⟨by rw [e]; exact Blk.new w T _, by simp, fun i v l h1 h2 => ?_, fun i v h1 => ?_, fun i v b h1 h2 => ?_, fun i j u v b h1 h2 h3 h4 => ?_, hB⟩
  · obtain rfl := hv i v h1
    obtain rfl : l = [] := (List.mem_replicate.1 (List.mem_of_getElem? h2)).2
    exact Own.nil _ _ _ _ _
  · obtain rfl := hv i v h1
    intro e2; cases e2
  · exact fun h => h
  · obtain rfl := hv i u h1
    cases h3

/-- What a row's growth leaves of the block of slices. -/
theorem Fan.grown (h : Fan K w B E T g N vs ls) (hi : vs[i]? = some v) (hgrow : w.grownBy w' v.ownBlock) : Blk w' g T vs.toArray ∧ w'.cell? ⟨g, i, none⟩ = some v ∧ w'.frozen? ⟨g, i, none⟩ = false := by
  have hb : Blk w' g T vs.toArray := h.blk.as (hgrow.block g h.blk.lt fun e => h.off i v hi e.symm)
  refine ⟨hb, ?_, hb.frozen i⟩
  rw [hb.cell, List.getElem?_toArray]
  exact hi

theorem agree_grown (hgrow : w.grownBy w' v.ownBlock) (hN : ∀ b, N b → b < w.heap.size) (hf : ∀ b, v.ownBlock = some b → ¬ N b) : Agree N w w' := fun b hb => hgrow.block b (hN b hb) fun e => hf b e.symm hb

/-- One of them has grown, and is put back. -/
theorem Fan.put (h : Fan K w B E T g N vs ls) (hi : vs[i]? = some v) (hl : ls[i]? = some l) {g1 cap m : Nat} {l' : List α} (hown : Own K w' B E (fun _ => False) (.slice (some ⟨g1, 0, none⟩) m cap) m l') (hm : l'.length = m) (hgrow : w.grownBy w' v.ownBlock) (hfr : v.ownBlock = some g1 ∨ w.heap.size ≤ g1) (hN : ∀ b, N b → b < w.heap.size) (hNg : ¬ N g) :
    Fan K (w'.setCell ⟨g, i, none⟩ (.slice (some ⟨g1, 0, none⟩) m cap)) B E T g N (vs.set i (.slice (some ⟨g1, 0, none⟩) m cap)) (ls.set i l') ∧ Agree N w (w'.setCell ⟨g, i, none⟩ (.slice (some ⟨g1, 0, none⟩) m cap)) := by
  obtain ⟨nv, hnv⟩ : ∃ nv, Value.slice (some ⟨g1, 0, none⟩) m cap = nv := ⟨_, rfl⟩
  have hob : nv.ownBlock = some g1 := by rw [← hnv]; rfl
  rw [hnv] at hown ⊢
  have hb := (h.grown hi hgrow).1
  have hg1 : g1 ≠ g := fun e => by
    subst e
    rcases hfr with h1 | h1
    · exact h.off i v hi h1
    · have := h.blk.lt; omega
  have hil := (List.getElem?_eq_some_iff.1 hi).1
  have hill := (List.getElem?_eq_some_iff.1 hl).1
  have hfar : ∀ b, b ≠ g → (w'.setCell ⟨g, i, none⟩ nv).heap[b]? = w'.heap[b]? := fun b hb2 => Below.heap_setCell w' ⟨g, i, none⟩ nv b hb2
  have hothers : ∀ (j : Nat) (u : Value) (b : Nat), j ≠ i → vs[j]? = some u → u.ownBlock = some b → b < w.heap.size ∧ v.ownBlock ≠ some b ∧ b ≠ g1 ∧ b ≠ g := fun j u b hj hu hub => by
    obtain ⟨lu, _, ho⟩ := h.there hu
    have hlt := (ho.low b hub).2
    refine ⟨hlt, fun e => hj (h.apart j i u v b hu hi hub e), fun e => ?_, fun e => h.off j u hu (by rw [hub, e])⟩
    subst e
    rcases hfr with h1 | h1
    · exact hj (h.apart j i u v b hu hi hub h1)
    · omega
  have cell : ∀ (j : Nat) (u : Value), (vs.set i nv)[j]? = some u → (j = i ∧ u = nv) ∨ (j ≠ i ∧ vs[j]? = some u) := fun j u hj => by
    rw [List.getElem?_set] at hj
    split at hj
    · rename_i e
      injection hj with hj
      exact .inl ⟨e.symm, hj.symm⟩
    · rename_i e
      exact .inr ⟨fun e2 => e e2.symm, hj⟩
  refine ⟨⟨?_, by simp [h.len], fun j u lu hu hlu => ?_, fun j u hu => ?_, fun j u b hu hub => ?_, fun j k u x b hu hx hub hxb => ?_, h.low⟩, ?_⟩
  · have := hb.put i nv
    rw [List.setIfInBounds_toArray] at this
    exact this
  · rcases cell j u hu with ⟨rfl, rfl⟩ | ⟨hj, hu2⟩
    · rw [List.getElem?_set_self hill] at hlu
      injection hlu with hlu
      subst hlu
      rw [hm]
      exact hown.stay (fun _ h => h.elim) fun b hb2 => hfar b (fun e => by rw [hob] at hb2; injection hb2 with hb2; exact hg1 (hb2.trans e))
    · rw [List.getElem?_set_ne (fun e => hj e.symm)] at hlu
      refine (h.own j u lu hu2 hlu).stay (fun _ h => h.elim) fun b hb2 => ?_
      obtain ⟨h1, h2, h3, h4⟩ := hothers j u b hj hu2 hb2
      exact (hfar b h4).trans (hgrow.block b h1 fun e => h2 e.symm)
  · rcases cell j u hu with ⟨rfl, rfl⟩ | ⟨hj, hu2⟩
    · rw [hob]; intro e; injection e with e; exact hg1 e
    · exact h.off j u hu2
  · rcases cell j u hu with ⟨rfl, rfl⟩ | ⟨hj, hu2⟩
    · rw [hob] at hub
      injection hub with hub
      subst hub
      intro hn
      rcases hfr with h1 | h1
      · exact h.far j v g1 hi h1 hn
      · have := hN g1 hn
        omega
    · exact h.far j u b hu2 hub
  · rcases cell j u hu with ⟨rfl, rfl⟩ | ⟨hj, hu2⟩
    · rcases cell k x hx with ⟨rfl, rfl⟩ | ⟨hk, hx2⟩
      · rfl
      · rw [hob] at hub
        injection hub with hub
        subst hub
        exact absurd rfl (hothers k x g1 hk hx2 hxb).2.2.1
    · rcases cell k x hx with ⟨rfl, rfl⟩ | ⟨hk, hx2⟩
      · rw [hob] at hxb
        injection hxb with hxb
        subst hxb
        exact absurd rfl (hothers j u g1 hj hu2 hub).2.2.1
      · exact h.apart j k u x b hu2 hx2 hub hxb
  · intro b hb2
    rw [hfar b fun e => hNg (e ▸ hb2)]
    exact agree_grown hgrow hN (fun b2 => h.far i v b2 hi) b hb2

/-- Read as a row of lists. -/
theorem Fan.row (h : Fan K w B E T g N vs ls) {n : Nat} (hn : ls.length = n) : Row (kList K) w (· < w.heap.size) (some ⟨g, 0, none⟩) n ls := ⟨hn, fun k l hl => by
  obtain ⟨v, hv, ho, hc⟩ := h.get hl
  obtain ⟨A, c, rfl⟩ := ho.value
  refine ⟨g, 0, [.slice A l.length c], rfl, h.blk.lt, h.blk.lt, ⟨A, l.length, c, rfl, ho.read, ho.fit⟩, fun j u hj => ?_⟩
  have hj0 := (List.getElem?_eq_some_iff.1 hj).1
  obtain rfl : j = 0 := by simpa using hj0
  have e : (kList K).size = 1 := rfl
  rw [e, Nat.mul_one, Nat.add_zero, Nat.zero_add, hc]
  exact hj⟩
end

end Go.Proofs.Ytkpekdcglbaadaa.Kd
