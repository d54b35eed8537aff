/- Ranks that are pushed in turned order; two queues beside each other. -/
import Derived.Test.YtmggfeacjndflaaQuK
namespace Go.Proofs.Ytmggfeacjndflaa.Qu
open Go.ChangeShapes Go.WideShapes Go.ChangeAt Go.RowKit
set_option linter.unusedVariables false

def ords (g : Nat → Pt) : Nat → List Pt
  | 0 => []
  | k + 1 => ins (g k) (ords g k)

theorem ords_sorted (g : Nat → Pt) : ∀ k, Sorted (ords g k)
  | 0 => List.Pairwise.nil
  | k + 1 => ins_sorted _ _ (ords_sorted g k)
theorem ords_length (g : Nat → Pt) : ∀ k, (ords g k).length = k
  | 0 => rfl
  | k + 1 => by rw [ords, length_ins, ords_length g k]
theorem ords_perm (g : Nat → Pt) : ∀ k, (ords g k).Perm ((List.range k).map g)
  | 0 => List.Perm.refl _
  | k + 1 => by
    rw [List.range_succ, List.map_append]
    exact (ins_perm _ _).trans (((ords_perm g k).cons _).trans (List.perm_append_singleton _ _).symm)

theorem turn_inj (n t a b : Nat) (ha : a < n) (hb : b < n) (h : (a + t) % n = (b + t) % n) : a = b := by
  have h0 : 0 < n := by omega
  rw [← Nat.add_mod_mod a t n, ← Nat.add_mod_mod b t n] at h
  have ht := Nat.mod_lt t h0
  generalize t % n = s at *
  by_cases h1 : a + s < n
  · rw [Nat.mod_eq_of_lt h1] at h
    by_cases h2 : b + s < n
    · rw [Nat.mod_eq_of_lt h2] at h; omega
    · rw [Nat.mod_eq_sub_mod (by omega), Nat.mod_eq_of_lt (by omega)] at h; omega
  · rw [Nat.mod_eq_sub_mod (by omega), Nat.mod_eq_of_lt (a := a + s - n) (by omega)] at h
    by_cases h2 : b + s < n
    · rw [Nat.mod_eq_of_lt h2] at h; omega
    · rw [Nat.mod_eq_sub_mod (a := b + s) (by omega), Nat.mod_eq_of_lt (a := b + s - n) (by omega)] at h; omega

theorem turn_perm (n t : Nat) : ((List.range n).map fun i => (i + t) % n).Perm (List.range n) := by
  have hnd : ((List.range n).map fun i => (i + t) % n).Nodup := by
    refine List.pairwise_map.2 ?_
    refine List.Pairwise.imp_of_mem ?_ (List.nodup_range (n := n))
    intro a b ha hb hab h
    exact hab (turn_inj n t a b (List.mem_range.1 ha) (List.mem_range.1 hb) h)
  refine (List.perm_ext_iff_of_nodup hnd (List.nodup_range (n := n))).2 fun x => ⟨fun hx => ?_, fun hx => ?_⟩
  · obtain ⟨i, hi, rfl⟩ := List.mem_map.1 hx
    exact List.mem_range.2 (Nat.mod_lt _ (by have := List.mem_range.1 hi; omega))
  · have hx' := List.mem_range.1 hx
    refine List.mem_map.2 ⟨(x + (n - t % n)) % n, List.mem_range.2 (Nat.mod_lt _ (by omega)), ?_⟩
    have ht := Nat.mod_lt t (show 0 < n by omega)
    rw [← Nat.add_mod_mod _ t n]
    generalize t % n = s at *
    by_cases h1 : x + (n - s) < n
    · rw [Nat.mod_eq_of_lt h1, Nat.mod_eq_sub_mod (by omega), Nat.mod_eq_of_lt (by omega)]; omega
    · rw [Nat.mod_eq_sub_mod (a := x + (n - s)) (by omega), Nat.mod_eq_of_lt (a := x + (n - s) - n) (by omega), Nat.mod_eq_of_lt (by omega)]; omega

/-- Pushed in turned order they stand in the one order. -/
theorem turned_eq (f : Nat → Int) (n t : Nat) : ords (fun i => (f ((i + t) % n), (((i + t) % n : Nat) : Int))) n = ord f n := by
  refine sorted_unique (ords_sorted _ _) (ord_sorted _ _) ((ords_perm _ _).trans (?_ : List.Perm _ _) |>.trans (ord_perm f n).symm)
  have := (turn_perm n t).map (fun i => ((f i, (i : Int)) : Pt))
  rw [List.map_map] at this
  exact this

/-- Two queues beside each other. -/
structure Two (w wr : World) (B qa qb : Nat) (ra rb : Option Nat) (la lb : List Pt) : Prop where
  a : IsQ wr B qa ra la
  b : IsQ wr B qb rb lb
  ne : qa ≠ qb
  apart : ra = none ∨ ra ≠ rb
  below : Below B w wr

theorem Two.symm {w wr : World} {B qa qb : Nat} {ra rb : Option Nat} {la lb : List Pt} (h : Two w wr B qa qb ra rb la lb) : Two w wr B qb qa rb ra lb la :=
  ⟨h.b, h.a, Ne.symm h.ne, by
    rcases h.apart with h1 | h1
    · subst h1
      cases rb with
      | none => exact .inl rfl
      | some k => exact .inr (by simp)
    · exact .inr (Ne.symm h1), h.below⟩

theorem Two.old {w wr w' : World} {B qa qb : Nat} {ra rb : Option Nat} {la lb : List Pt} (h : Two w wr B qa qb ra rb la lb) (hb : Below wr.heap.size wr w') (hB : B ≤ wr.heap.size) : Two w w' B qa qb ra rb la lb :=
  ⟨h.a.below hb, h.b.below hb, h.ne, h.apart, h.below.trans (hb.mono hB)⟩

theorem Two.size {w wr : World} {B qa qb : Nat} {ra rb : Option Nat} {la lb : List Pt} (h : Two w wr B qa qb ra rb la lb) : B ≤ wr.heap.size := by
  have := h.a.base
  omega

theorem Two.pushA {w wr w' : World} {B qa qb : Nat} {ra rb : Option Nat} {la lb : List Pt} {x : Pt} (h : Two w wr B qa qb ra rb la lb) (hp : QPushed wr w' B qa ra x la) : ∃ ra', Two w w' B qa qb ra' rb (ins x la) lb := by
  obtain ⟨r', hQ, hM, hF⟩ := hp
  refine ⟨r', hQ, h.b.far h.a hM (Ne.symm h.ne) h.symm.apart, h.ne, ?_, h.below.trans (h.a.toBelow hM)⟩
  rcases hF with hF | ⟨k, hk, hlt⟩
  · rw [hF]; exact h.apart
  · right
    intro e
    have := (h.b.base).2.2 k (by rw [← e, hk])
    omega
theorem Two.popA {w wr w' : World} {B qa qb : Nat} {ra rb : Option Nat} {la la' lb : List Pt} (h : Two w wr B qa qb ra rb la lb) (hp : QPopped wr w' B qa ra la') : Two w w' B qa qb ra rb la' lb :=
  ⟨hp.1, h.b.far h.a hp.2 (Ne.symm h.ne) h.symm.apart, h.ne, h.apart, h.below.trans (h.a.toBelow hp.2)⟩

theorem two_start {w w1 w2 : World} {qb : Nat} (h1 : IsQ w1 w.heap.size w.heap.size none []) (hb1 : Below w.heap.size w w1) (hb2 : Below w1.heap.size w1 w2) (h2 : IsQ w2 w.heap.size qb none []) (hq : w.heap.size < qb) : Two w w2 w.heap.size w.heap.size qb none none [] [] :=
  ⟨h1.below hb2, h2, by omega, .inl rfl, hb1.trans (hb2.mono hb1.size)⟩

end Go.Proofs.Ytmggfeacjndflaa.Qu
