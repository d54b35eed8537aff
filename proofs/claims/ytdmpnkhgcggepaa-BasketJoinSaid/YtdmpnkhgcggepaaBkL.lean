/- Law 14: what is at hand in its laws. -/
import Derived.Test.YtdmpnkhgcggepaaBkK
set_option maxRecDepth 100000

set_option linter.unusedVariables false
namespace Go.Proofs.Ytdmpnkhgcggepaa.Bk
open Go.ChangeShapes Go.WideShapes Go.ChangeAt Go.RowKit
open Ap (Lin Unt kLin kUnt row_Lin row_Unt)
open It (Itm kItem row_item)
open Kd (Kind Row Own Fit)

def spI : Itm := ⟨⟨#[115, 112, 111, 105, 108, 116]⟩, ⟨#[]⟩, 0, false⟩
def spL : Lin := ⟨⟨#[115, 112, 111, 105, 108, 116]⟩, 0, 0⟩
theorem spI_ok : spI.ok := ⟨by decide, by decide, by decide, by decide⟩
theorem spL_ok : spL.ok := ⟨by decide, by decide, by decide⟩

/-- A list that is at hand, in a later world. -/
structure At {α : Type} (K : Kind α) (w wx : World) (A : Option Addr) (n : Nat) (xs : List α) : Prop where
  row : Row K wx (· < wx.heap.size) A n xs
  below : Below w.heap.size w wx

theorem At.on {α : Type} {K : Kind α} {w wx wy : World} {A : Option Addr} {n : Nat} {xs : List α} (h : At K w wx A n xs) (hb : Below wx.heap.size wx wy) : At K w wy A n xs :=
  ⟨row_on h.row hb, h.below.trans (hb.mono h.below.size)⟩

/-- What was told is at hand. -/
theorem own_at {α : Type} {K : Kind α} {E : Nat} {w w1 wx : World} {A : Option Addr} {n c : Nat} {xs : List α} (h : Kd.Own K w1 wx.heap.size E (fun _ => False) (.slice A n c) n xs) (hb : Below wx.heap.size wx w1) (h0 : Below w.heap.size w wx) : At K w w1 A n xs :=
  ⟨h.read, h0.trans (hb.mono h0.size)⟩

/-- Lines of the call's own, while one is turned. -/
structure Tn (w1 wx : World) (g M c : Nat) : Prop where
  own : ∃ ys, Kd.Own kLin wx w1.heap.size 28 (fun _ => False) (.slice (some ⟨g, 0, none⟩) M c) M ys
  below : Below w1.heap.size w1 wx

theorem Tn.lt {w1 wx : World} {g M c : Nat} (h : Tn w1 wx g M c) : w1.heap.size ≤ g := by
  obtain ⟨ys, ho⟩ := h.own
  exact (ho.low g rfl).1

theorem Tn.cell {w1 wx : World} {g M c : Nat} (h : Tn w1 wx g M c) {k j : Nat} (hk : k < M) (hj : j < 3) : (∃ u, wx.cell? ⟨g, k * 3 + j, none⟩ = some u) ∧ wx.frozen? ⟨g, k * 3 + j, none⟩ = false := by
  obtain ⟨ys, ho⟩ := h.own
  exact ho.cell (K := kLin) hk hj

theorem Tn.sku {w1 wx : World} {g M c : Nat} (h : Tn w1 wx g M c) {k : Nat} (hk : k < M) (s : ByteArray) (hs : s.size ≤ maxLen) : Tn w1 (wx.setCell ⟨g, k * 3, none⟩ (.string s)) g M c := by
  have hlt := h.lt
  obtain ⟨ys, ho⟩ := h.own
  obtain ⟨x, hx⟩ := ho.read.get hk
  obtain ⟨g2, o, cs, hA, hF, hl, hr, hc⟩ := ho.read.each k x hx
  have hok := (Ap.Lin_rep.1 hr).2
  have h1 := Kd.Own.put (k := k) (j := 0) (x := x) (x' := { x with sku := s }) (a := x.enc) (u := .string s) ho hx (fun h => (Ap.Lin_rep.1 h).1) (by decide) (Ap.Lin_rep.2 ⟨rfl, ⟨hs, hok.qty, hok.price⟩⟩) (fun _ h => h.elim)
  exact ⟨⟨_, h1.1⟩, h.below.setCell hlt _⟩

theorem Tn.qty {w1 wx : World} {g M c : Nat} (h : Tn w1 wx g M c) {k : Nat} (hk : k < M) (q : Int) (hq : -9223372036854775808 ≤ q ∧ q ≤ 9223372036854775807) : Tn w1 (wx.setCell ⟨g, k * 3 + 1, none⟩ (.int .i64 q)) g M c := by
  have hlt := h.lt
  obtain ⟨ys, ho⟩ := h.own
  obtain ⟨x, hx⟩ := ho.read.get hk
  obtain ⟨g2, o, cs, hA, hF, hl, hr, hc⟩ := ho.read.each k x hx
  have hok := (Ap.Lin_rep.1 hr).2
  have h1 := Kd.Own.put (k := k) (j := 1) (x := x) (x' := { x with qty := q }) (a := x.enc) (u := .int .i64 q) ho hx (fun h => (Ap.Lin_rep.1 h).1) (by decide) (Ap.Lin_rep.2 ⟨rfl, ⟨hok.sku, hq, hok.price⟩⟩) (fun _ h => h.elim)
  exact ⟨⟨_, h1.1⟩, h.below.setCell hlt _⟩

theorem Tn.price {w1 wx : World} {g M c : Nat} (h : Tn w1 wx g M c) {k : Nat} (hk : k < M) (q : Int) (hq : -9223372036854775808 ≤ q ∧ q ≤ 9223372036854775807) : Tn w1 (wx.setCell ⟨g, k * 3 + 2, none⟩ (.int .i64 q)) g M c := by
  have hlt := h.lt
  obtain ⟨ys, ho⟩ := h.own
  obtain ⟨x, hx⟩ := ho.read.get hk
  obtain ⟨g2, o, cs, hA, hF, hl, hr, hc⟩ := ho.read.each k x hx
  have hok := (Ap.Lin_rep.1 hr).2
  have h1 := Kd.Own.put (k := k) (j := 2) (x := x) (x' := { x with price := q }) (a := x.enc) (u := .int .i64 q) ho hx (fun h => (Ap.Lin_rep.1 h).1) (by decide) (Ap.Lin_rep.2 ⟨rfl, ⟨hok.sku, hok.qty, hq⟩⟩) (fun _ h => h.elim)
  exact ⟨⟨_, h1.1⟩, h.below.setCell hlt _⟩

end Go.Proofs.Ytdmpnkhgcggepaa.Bk
