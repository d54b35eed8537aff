/- The document's Largest, whole. · Cuts: the document's offs, kind 5, and the kinds that take nothing off (made by gen-spe .. -/
import Derived.Deep.RegionWith
import Derived.Test.YtljmddjlnlmenaaGreatPq10
import Derived.Test.YtljmddjlnlmenaaGreatPq12
set_option maxRecDepth 100000
set_option linter.unusedVariables false

section
namespace Go.Proofs.YtljmddjlnlmenaaGreat.Sh
open Go.ChangeShapes Go.WideShapes Go.ChangeAt Go.RowKit
open Qu (Blk IsQ Moved Pt ord)
def partG (g : Nat -> Int) (n k : Nat) : List Int := (List.range k).map g ++ List.replicate (n - k) 0
theorem partG_length (g : Nat -> Int) (n k : Nat) (hk : k <= n) : (partG g n k).length = n := by simp [partG]; omega
theorem partG_zero (g : Nat -> Int) (n : Nat) : partG g n 0 = List.replicate n 0 := by simp [partG]
theorem partG_set (g : Nat -> Int) (n k : Nat) (hk : k < n) : (partG g n k).set k (g k) = partG g n (k + 1) := by
  unfold partG
  have hl : ((List.range k).map g).length = k := by simp
  rw [List.set_append_right _ _ (by rw [hl]; omega), hl, Nat.sub_self]
  obtain ⟨m, hm⟩ : ∃ m, n - k = m + 1 := ⟨n - k - 1, by omega⟩
  have hm2 : n - (k + 1) = m := by omega
  rw [hm, hm2, List.replicate_succ, List.range_succ, List.map_append]
  simp
theorem partG_nth (g : Nat -> Int) (n k i : Nat) (hi : i < k) (hk : k <= n) : nth (partG g n k) i = g i := by
  unfold nth partG
  simp [List.getD, List.getElem?_append, hi]
theorem RowAt.far {w : World} {g g' k : Nat} {l : List Int} {u : Value} (h : RowAt w g l) (hne : g ≠ g') : RowAt (w.setCell ⟨g', k, none⟩ u) g l := Blk.grown h (Qu.turned_at w g' k u) (by intro e; injection e with e; exact hne e)
structure Rl3 (w wr : World) (t S : Int) (f : Nat -> Int) (n i : Nat) : Prop where
  row : RowAt wr w.heap.size (partG (base t S f) n i)
  res : RowAt wr (w.heap.size + 1) (partG (rest t S f) n i)
  below : Below w.heap.size w wr
theorem Rl3.step {w wr w3 : World} {t S : Int} {f : Nat -> Int} {n i : Nat} (h : Rl3 w wr t S f n i) (hi : i < n) (hb : Below wr.heap.size wr w3) :
    Rl3 w ((w3.setCell ⟨w.heap.size, i, none⟩ (.int .i64 (base t S f i))).setCell ⟨w.heap.size + 1, i, none⟩ (.int .i64 (rest t S f i))) t S f n (i + 1) := by
  have h1 := (h.row.below hb).put i (base t S f i)
  have h2 := ((h.res.below hb).far (g' := w.heap.size) (k := i) (u := .int .i64 (base t S f i)) (by omega)).put i (rest t S f i)
  rw [partG_set _ _ _ hi] at h1 h2
  refine ⟨h1.far (by omega), h2, ((h.below.trans (hb.mono h.below.size)).setCell (Nat.le_refl _) _).setCell (by simp) _⟩
def PlacesAt (w : World) (A : Option Addr) (M : Nat) (l : List Pt) : Prop := ∀ k x, l[k]? = some x -> ∃ g, A = some ⟨g, 0, none⟩ /\ M < g /\ w.cell? ⟨g, k, none⟩ = some (.int .i64 x.2)
theorem PlacesAt.own {w : World} {B E M n c : Nat} {A : Option Addr} {l : List Pt} (h : w.ownsRow B E 1 (.slice A n c) n (Qu.nums l)) (hl : l.length = n) (hM : M < B) : PlacesAt w A M l := fun k x hx => by
  have hk := (List.getElem?_eq_some_iff.1 hx).1
  obtain ⟨g, c', hv, hg, _⟩ := h.form (by omega)
  cases hv
  refine ⟨g, rfl, by omega, ?_⟩
  rw [h.cellAt k (by omega)]
  unfold Qu.nums
  rw [List.getElem?_map, hx]
  rfl
theorem PlacesAt.put {w : World} {M i : Nat} {A : Option Addr} {l : List Pt} {u : Value} (h : PlacesAt w A M l) : PlacesAt (w.setCell ⟨M, i, none⟩ u) A M l := fun k x hx => by
  obtain ⟨g, hA, hg, hc⟩ := h k x hx
  refine ⟨g, hA, hg, ?_⟩
  rw [(Qu.turned_at w M i u).cell_far ⟨g, k, none⟩ (World.block_lt_of_cell? w _ hc) (by intro e; injection e with e; have e2 : g = M := e; omega)]
  exact hc
structure Rl4 (w wr : World) (t S : Int) (f : Nat -> Int) (n j : Nat) (A : Option Addr) : Prop where
  row : RowAt wr w.heap.size (bump (baseL t S f n) ((ord (rest t S f) n).take j))
  pls : PlacesAt wr A w.heap.size (ord (rest t S f) n)
  below : Below w.heap.size w wr
theorem Rl4.step {w wr : World} {t S : Int} {f : Nat -> Int} {n j : Nat} {A : Option Addr} {x : Pt} (h : Rl4 w wr t S f n j A) (hx : (ord (rest t S f) n)[j]? = some x) :
    Rl4 w (wr.setCell ⟨w.heap.size, x.2.toNat, none⟩ (.int .i64 (nth (bump (baseL t S f n) ((ord (rest t S f) n).take j)) x.2.toNat + 1))) t S f n (j + 1) A := by
  refine ⟨?_, h.pls.put, h.below.setCell (Nat.le_refl _) _⟩
  have e : (ord (rest t S f) n).take (j + 1) = (ord (rest t S f) n).take j ++ [x] := by rw [List.take_add_one, hx]; rfl
  rw [e, bump_snoc]
  exact h.row.put _ _
end Go.Proofs.YtljmddjlnlmenaaGreat.Sh

end

section
namespace Go.Proofs.YtljmddjlnlmenaaGreat.Ct
open Go.ChangeShapes Go.WideShapes Go.ChangeAt Go.RowKit
open Ap (Unt Tir Prm kUnt kTir row_Unt row_Tir)
open Kd (Kind Row kInt row_int)
open Ko (Out Told Told2 At row_on)
theorem sum_part : ∀ {l : List Int}, (∀ (k : Nat) (x : Int), l[k]? = some x -> 0 <= x) -> ∀ k, 0 <= sumL (l.take k) /\ sumL (l.take k) <= sumL l
  | [], _, k => by rw [List.take_nil]; exact ⟨Int.le_refl _, Int.le_refl _⟩
  | x :: l, h, k => by
    have h0 := h 0 x rfl
    have ih := fun j => sum_part (l := l) (fun j y hy => h (j + 1) y hy) j
    cases k with
    | zero =>
      have := ih l.length
      rw [List.take_length] at this
      rw [List.take_zero]
      simp only [sumL]
      omega
    | succ k =>
      have := ih k
      rw [List.take_succ_cons]
      simp only [sumL]
      omega
theorem NetsOk.sums {l : List Int} (h : NetsOk l) : SumOk l /\ 0 <= sumL l := by
  have h1 := sum_part (l := l) fun k x hx => (h.each k x hx).1
  have h2 := h.total
  refine ⟨fun k => by have := h1 k; omega, ?_⟩
  have := h1 l.length
  rw [List.take_length] at this
  exact this.1
theorem ints_row {w : World} {A : Option Addr} {n : Nat} {xs : List Int} (h : Row kInt w (· < w.heap.size) A n xs) : Hl.Ints w w.heap.size A n (nth xs) := fun k hk => by
  obtain ⟨x, hx⟩ := h.get hk
  obtain ⟨g, o, hA, hg, _, _, hc⟩ := row_int h hx
  exact ⟨g, o, hA, hg, by rw [hc, nth_some hx]⟩
end Go.Proofs.YtljmddjlnlmenaaGreat.Ct

end
