/- The statements' helpers on items: Same, Plain, Own, Kept. -/
import Derived.Test.YtkpekdcglbaadaaItA
import Derived.Test.YtkpekdcglbaadaaKdB
import Derived.Deep.RegionHeld3
import Derived.Laws.StructEq
set_option maxRecDepth 100000

set_option linter.unusedVariables false
namespace Go.Proofs.Ytkpekdcglbaadaa.It
open Go.ChangeShapes Go.WideShapes Go.ChangeAt Go.RowKit
open Kd (Kind Row Own Cells Reads Fields Fit Agree kInt kStr kFlag kPair kVia Filling Owned eqL eqL_len eqL_no eqL_yes eqL_refl Two rows_get)

def sameB (x y : Itm) : Bool := Sr.same x.sku y.sku && Sr.same x.cat y.cat && (x.price == y.price) && (x.fin == y.fin)

theorem sameB_refl (x : Itm) : sameB x x = true := by
  unfold sameB
  rw [Sr.same_refl, Sr.same_refl]
  simp

theorem sameB_iff {x y : Itm} : sameB x y = true ↔ x = y := by
  constructor
  · intro h
    unfold sameB at h
    simp only [Bool.and_eq_true, Sr.same_iff, beq_iff_eq] at h
    obtain ⟨a, b, c, d⟩ := x
    obtain ⟨a', b', c', d'⟩ := y
    simp only at h
    obtain ⟨⟨⟨rfl, rfl⟩, rfl⟩, rfl⟩ := h
    rfl
  · rintro rfl
    exact sameB_refl x

theorem info_item : (Try.prog.info? 33).map (fun i => (i.zero, i.size, i.bytes)) = some (some (.agg #[.string ⟨#[]⟩, .string ⟨#[]⟩, .int .i64 0, .bool false]), 4, 48) := by kernel_rfl

theorem enc_one (x : Itm) : ∀ u ∈ x.enc, u.oneCell' = true := by
  intro u hu
  simp only [Itm.enc, List.mem_cons, List.not_mem_nil, or_false] at hu
  rcases hu with rfl | rfl | rfl | rfl <;> rfl

theorem cells_one {w : World} {F : Nat → Prop} : ∀ {xs : List Itm} {cs : List Value}, Cells kItem w F xs cs → ∀ u ∈ cs, u.oneCell' = true
  | [], _, h, u, hu => by cases h; cases hu
  | x :: xs, _, ⟨a, b, rfl, ha, hb⟩, u, hu => by
    rcases List.mem_append.1 hu with h1 | h1
    · obtain ⟨rfl, _⟩ := item_rep.1 ha
      exact enc_one x u h1
    · exact cells_one hb u h1

theorem fill_cells {w : World} {F : Nat → Prop} {x : Itm} (hx : x.ok) : Cells kItem w F [x, x, x] (x.enc ++ (x.enc ++ (x.enc ++ []))) :=
  ⟨x.enc, _, rfl, item_rep.2 ⟨rfl, hx⟩, x.enc, _, rfl, item_rep.2 ⟨rfl, hx⟩, x.enc, _, rfl, item_rep.2 ⟨rfl, hx⟩, rfl⟩

/-- The copy, the box of what fills it, and what there was. -/
structure Keep (w wr : World) (F : Nat → Prop) (A : Option Addr) (n b : Nat) (xs : List Itm) (f : Itm) : Prop where
  row : Row kItem wr F A (n + 3) (xs ++ [f, f, f])
  box : Qu.Blk wr b 33 #[.string f.sku, .string f.cat, .int .i64 f.price, .bool f.fin]
  below : Below w.heap.size w wr

theorem Keep.on {w wr w' : World} {F : Nat → Prop} {A : Option Addr} {n b : Nat} {xs : List Itm} {f : Itm} (h : Keep w wr F A n b xs f) (hF : ∀ b, F b → b < w.heap.size) (hb : Below wr.heap.size wr w') : Keep w w' F A n b xs f :=
  ⟨h.row.stay fun b hb2 => hb.block b (Nat.lt_of_lt_of_le (hF b hb2) h.below.size), h.box.below hb, Hk.andThen h.below hb⟩

theorem behind {xs : List Itm} {f : Itm} {n k : Nat} (hx : xs.length = n) (hk : n ≤ k) (hk3 : k < n + 3) : (xs ++ [f, f, f])[k]? = some f := by
  rw [List.getElem?_append_right (by omega), hx]
  obtain h | h | h : k = n ∨ k = n + 1 ∨ k = n + 2 := by omega
  · rw [show k - n = 0 by omega]; rfl
  · rw [show k - n = 1 by omega]; rfl
  · rw [show k - n = 2 by omega]; rfl

end Go.Proofs.Ytkpekdcglbaadaa.It
