/- The landed package scope: Has. -/
import Derived.Test.YtkpekdcglbaadaaScO
import Derived.Test.YtkpekdcglbaadaaScI
set_option maxRecDepth 100000

set_option linter.unusedVariables false
namespace Go.Proofs.Ytkpekdcglbaadaa.Sc
open Go.ChangeShapes Go.WideShapes Go.ChangeAt Go.RowKit
open It (Itm kItem row_item)
open Ap (Scp kScp row_Scp)
open Kd (Row Fit Lst Sl kStr kInt kList row_str Deep But Own)

/-- Where the two lists lie that an asker asks. -/
structure Asked (w : World) (l : Scp.Lay) (g1 g2 : Nat) : Prop where
  b1 : g1 < w.heap.size
  b2 : g2 < w.heap.size
  k1 : w.cell? ⟨g1, 0, none⟩ = some (.func (.func 38) #[.slice l.skus.A l.skus.n l.skus.c] #[])
  k2 : w.cell? ⟨g2, 0, none⟩ = some (.func (.func 38) #[.slice l.cats.A l.cats.n l.cats.c] #[])

theorem Asked.on {w w' : World} {l : Scp.Lay} {g1 g2 : Nat} (h : Asked w l g1 g2) (hb : Below w.heap.size w w') : Asked w' l g1 g2 :=
  ⟨Nat.lt_of_lt_of_le h.b1 hb.size, Nat.lt_of_lt_of_le h.b2 hb.size, (hb.cell (p := ⟨g1, 0, none⟩) h.b1).trans h.k1, (hb.cell (p := ⟨g2, 0, none⟩) h.b2).trans h.k2⟩

set_option maxHeartbeats 2000000 in
theorem Has_any (s : Scp) (l : Scp.Lay) (x : Itm) (w : World) (h : Scp.Holds w (· < w.heap.size) s l) (hl : Small l) :
    Calls Try.prog 12 #[.agg #[.slice l.skus.A l.skus.n l.skus.c, .slice l.cats.A l.cats.n l.cats.c], .agg #[.string x.sku, .string x.cat, .int .i64 x.price, .bool x.fin]] w fun e w' => e = .returned (.bool (hasX s x.sku x.cat)) ∧ Below w.heap.size w w' := by
  obtain ⟨b, hb⟩ : ∃ b, hasX s x.sku x.cat = b := ⟨_, rfl⟩
  rw [hb]
  obtain ⟨w1, hw1⟩ : ∃ w1, w.alloc (.cells #[.slice l.skus.A l.skus.n l.skus.c, .slice l.cats.A l.cats.n l.cats.c] 24) = w1 := ⟨_, rfl⟩
  obtain ⟨w0, hw0⟩ : ∃ w0, w1.alloc (.cells #[.string x.sku, .string x.cat, .int .i64 x.price, .bool x.fin] 33) = w0 := ⟨_, rfl⟩
  have s1 : w1.heap.size = w.heap.size + 1 := by rw [← hw1]; simp
  have s0 : w0.heap.size = w.heap.size + 2 := by rw [← hw0]; simp [s1]
  have hb0 : Below w.heap.size w w0 := by rw [← hw0, ← hw1]; exact ((Below.refl _ _).alloc (Nat.le_refl _) _).alloc (by simp) _
  have hx : Qu.Blk w0 w.heap.size 24 #[.slice l.skus.A l.skus.n l.skus.c, .slice l.cats.A l.cats.n l.cats.c] := by rw [← hw0, ← hw1]; exact (Qu.Blk.new w _ _).alloc _
  have hy : Qu.Blk w0 w1.heap.size 33 #[.string x.sku, .string x.cat, .int .i64 x.price, .bool x.fin] := by rw [← hw0]; exact Qu.Blk.new w1 _ _
  have x0 : ∀ u, Below w0.heap.size w0 u → u.cell? ⟨w.heap.size, 0, none⟩ = some (.slice l.skus.A l.skus.n l.skus.c) := fun u hu => (hu.cell (p := ⟨w.heap.size, 0, none⟩) (show w.heap.size < w0.heap.size by omega)).trans (hx.cell 0)
  have x1 : ∀ u, Below w0.heap.size w0 u → u.cell? ⟨w.heap.size, 1, none⟩ = some (.slice l.cats.A l.cats.n l.cats.c) := fun u hu => (hu.cell (p := ⟨w.heap.size, 1, none⟩) (show w.heap.size < w0.heap.size by omega)).trans (hx.cell 1)
  have y0 : ∀ u, Below w0.heap.size w0 u → u.cell? ⟨w1.heap.size, 0, none⟩ = some (.string x.sku) := fun u hu => (hu.cell (p := ⟨w1.heap.size, 0, none⟩) (show w1.heap.size < w0.heap.size by omega)).trans (hy.cell 0)
  have y1 : ∀ u, Below w0.heap.size w0 u → u.cell? ⟨w1.heap.size, 1, none⟩ = some (.string x.cat) := fun u hu => (hu.cell (p := ⟨w1.heap.size, 1, none⟩) (show w1.heap.size < w0.heap.size by omega)).trans (hy.cell 1)
  have y2 : ∀ u, Below w0.heap.size w0 u → u.cell? ⟨w1.heap.size, 2, none⟩ = some (.int .i64 x.price) := fun u hu => (hu.cell (p := ⟨w1.heap.size, 2, none⟩) (show w1.heap.size < w0.heap.size by omega)).trans (hy.cell 2)
  have y3 : ∀ u, Below w0.heap.size w0 u → u.cell? ⟨w1.heap.size, 3, none⟩ = some (.bool x.fin) := fun u hu => (hu.cell (p := ⟨w1.heap.size, 3, none⟩) (show w1.heap.size < w0.heap.size by omega)).trans (hy.cell 3)
  have HB0 := Lib.hid (And.intro hb0 (Nat.le_of_lt (show w.heap.size < w0.heap.size by omega)))
  have hh : ∀ u, Below w0.heap.size w0 u → Scp.Holds u (· < u.heap.size) s l := fun u hu => holds_more (holds_below (holds_below h hb0 (Nat.le_refl _)) hu (by omega)) fun b hb2 => Nat.lt_of_lt_of_le hb2 (by have := hu.size; omega)
  by_cases hn : l.skus.n = 0 ∧ l.cats.n = 0
  · have HA : Hid (∀ u, Below w0.heap.size w0 u → Calls Try.prog 25 #[.agg #[.slice l.skus.A l.skus.n l.skus.c, .slice l.cats.A l.cats.n l.cats.c]] u fun e w' => e = .returned (.func (.func 37) #[] #[]) ∧ Below w0.heap.size w0 w') := Lib.hid fun u hu =>
      (asks_any l u).mono fun e w' ⟨v, e1, ha, hb⟩ => by
        cases ha with
        | all h1 h2 h3 => subst h3; exact ⟨e1, hu.trans (hb.mono hu.size)⟩
        | some_ g1 g2 h0 => exact absurd hn h0
    have HC : Hid (∀ u, Below w0.heap.size w0 u → Calls Try.prog 37 #[.agg #[.string x.sku, .string x.cat, .int .i64 x.price, .bool x.fin]] u fun e w' => e = .returned (.bool b) ∧ Below w0.heap.size w0 w') := Lib.hid fun u hu =>
      (ask_all x u).mono fun e w' he => ⟨by rw [he.1, ← hb, hasX_all h hn.1 hn.2], hu.trans (he.2.mono hu.size)⟩
    clear hb hx hy hh h hl hn hb0 s1 s0
    go_enter Try.func12, Try.ntmps12
    go_wp2
    clear hw0 hw1
    go_region_held3 (fun u => Below w0.heap.size w0 u)
      (first
        | assumption
        | exact (Below.refl _ _).drew
        | exact Below.refl _ _)
      (first
        | (go_at_call 25; with_reducible refine (HA.out _ (by first | assumption | exact (Below.refl _ _).drew)).mono ?_; rintro e wz ⟨rfl, hz⟩)
        | (go_at_call 37; with_reducible refine (HC.out _ (by first | assumption | exact (Below.refl _ _).drew)).mono ?_; rintro e wy ⟨rfl, hy⟩))
    have HE := Lib.hid (HB0.out.1.trans (hy.mono HB0.out.2))
    clear hy hz x0 x1 y0 y1 y2 y3
    go_wp2
    go_ret
    exact ⟨rfl, HE.out⟩
  · have HA : Hid (∀ u, Below w0.heap.size w0 u → Calls Try.prog 25 #[.agg #[.slice l.skus.A l.skus.n l.skus.c, .slice l.cats.A l.cats.n l.cats.c]] u fun e w' => ∃ g1 g2, e = .returned (.func (.func 39) #[] #[.pointer (some ⟨g1, 0, none⟩), .pointer (some ⟨g2, 0, none⟩)]) ∧ Asked w' l g1 g2 ∧ Below w0.heap.size w0 w') := Lib.hid fun u hu =>
      (asks_any l u).mono fun e w' ⟨v, e1, ha, hb⟩ => by
        cases ha with
        | all h1 h2 h3 => exact absurd ⟨h1, h2⟩ hn
        | some_ g1 g2 h0 h1 h2 h3 h4 h5 => subst h1; exact ⟨g1, g2, e1, ⟨h2.2, h3.2, h4, h5⟩, hu.trans (hb.mono hu.size)⟩
    have HC : Hid (∀ g1 g2 u, Asked u l g1 g2 → Below w0.heap.size w0 u → Calls Try.prog 39 #[.agg #[.string x.sku, .string x.cat, .int .i64 x.price, .bool x.fin], .pointer (some ⟨g1, 0, none⟩), .pointer (some ⟨g2, 0, none⟩)] u fun e w' => e = .returned (.bool b) ∧ Below w0.heap.size w0 w') := Lib.hid fun g1 g2 u hk hu =>
      (ask_some s l x u g1 g2 (hh u hu) hl hk.b1 hk.b2 hk.k1 hk.k2).mono fun e w' he => ⟨by rw [he.1, ← hb, hasX_some h hn], hu.trans (he.2.mono hu.size)⟩
    clear hb hx hy hh h hl hn hb0 s1 s0
    go_enter Try.func12, Try.ntmps12
    go_wp2
    clear hw0 hw1
    go_region_held3 (fun u => Below w0.heap.size w0 u)
      (first
        | assumption
        | exact (Below.refl _ _).drew
        | exact Below.refl _ _)
      (first
        | (go_at_call 25; with_reducible refine (HA.out _ (by first | assumption | exact (Below.refl _ _).drew)).mono ?_; rintro e wz ⟨g1, g2, rfl, hk, hz⟩)
        | (go_at_call 39; with_reducible refine (HC.out _ _ _ (by assumption) (by assumption)).mono ?_; rintro e wy ⟨rfl, hy⟩))
    have HE := Lib.hid (HB0.out.1.trans (hy.mono HB0.out.2))
    clear hy hz hk x0 x1 y0 y1 y2 y3
    go_wp2
    go_ret
    exact ⟨rfl, HE.out⟩

end Go.Proofs.Ytkpekdcglbaadaa.Sc
