/- Law 11's awake. -/
import Derived.Test.YtkpekdcglbaadaaScX
import Derived.Test.YtkpekdcglbaadaaScL
set_option maxRecDepth 100000

set_option linter.unusedVariables false
namespace Go.Proofs.Ytkpekdcglbaadaa.Sc
open Go.ChangeShapes Go.WideShapes Go.ChangeAt Go.RowKit
open It (Itm kItem row_item)
open Ap (Scp kScp row_Scp)
open Kd (Row Fit Lst Sl kStr kInt kList row_str Deep But Own Cells)

def awakeS : Scp := ⟨[⟨#[97]⟩], [⟨#[120]⟩]⟩

theorem name_a : Sr.name ⟨#[97]⟩ = true := by decide +kernel

theorem name_x : Sr.name ⟨#[120]⟩ = true := by decide +kernel

/-- A list of one name. -/
theorem names_one {a : ByteArray} (h : Sr.name a = true) : namesB [a] 20 = true := namesB_yes ⟨by simp, fun i x hx => by
  have hi := (List.getElem?_eq_some_iff.1 hx).1
  obtain rfl : i = 0 := by simpa using hi
  obtain rfl : a = x := by simpa using hx
  exact h, fun i x y hx hy => by
  have hi := (List.getElem?_eq_some_iff.1 hy).1
  simp at hi⟩

theorem names_none (m : Int) (hm : 0 ≤ m) : namesB [] m = true := namesB_yes ⟨by simpa using hm, fun i x hx => by simp at hx, fun i x y hx => by simp at hx⟩

theorem awake_right : scopeB awakeS = true := by
  unfold scopeB awakeS
  rw [names_one name_a, names_one name_x]
  rfl

theorem awake_bx : hasX awakeS ⟨#[98]⟩ ⟨#[120]⟩ = true := by decide +kernel

theorem awake_by : hasX awakeS ⟨#[98]⟩ ⟨#[121]⟩ = false := by decide +kernel

/-- A text in a box of the call's own. -/
theorem one_row {w : World} {g : Nat} {a : ByteArray} {F : Nat → Prop} (h : Qu.Blk w g 9 #[.string a]) (ha : a.size ≤ maxLen) (hF : F g) : Lst kStr w F ⟨some ⟨g, 0, none⟩, 1, 1⟩ [a] :=
  ⟨Kd.row_blk (E := 9) (cs := [.string a]) h (Cells.one ⟨rfl, ha⟩) rfl hF, ⟨(fun h => by cases h), Nat.le_refl _, by show (1 : Nat) ≤ 9223372036854775807; omega⟩⟩

theorem holds_none {w : World} {F : Nat → Prop} : Scp.Holds w F ⟨[], []⟩ ⟨⟨none, 0, 0⟩, ⟨none, 0, 0⟩⟩ :=
  ⟨⟨Row.nil _ _ _ _, ⟨fun _ => ⟨rfl, rfl⟩, Nat.le_refl _, by show (0 : Nat) ≤ 9223372036854775807; omega⟩⟩, ⟨Row.nil _ _ _ _, ⟨fun _ => ⟨rfl, rfl⟩, Nat.le_refl _, by show (0 : Nat) ≤ 9223372036854775807; omega⟩⟩⟩

/-- Has of a scope at hand, in any later world. -/
theorem has_later {w3 : World} {s : Scp} {l : Scp.Lay} (h : Scp.Holds w3 (· < w3.heap.size) s l) (hl : Small l) (x : Itm) {b : Bool} (hb : hasX s x.sku x.cat = b) (W : World) (hW : Below w3.heap.size w3 W) :
    Calls Try.prog 12 #[.agg #[.slice l.skus.A l.skus.n l.skus.c, .slice l.cats.A l.cats.n l.cats.c], .agg #[.string x.sku, .string x.cat, .int .i64 x.price, .bool x.fin]] W fun e w' => e = .returned (.bool b) ∧ Below w3.heap.size w3 w' :=
  (Has_any s l x W (holds_more (holds_below h hW (Nat.le_refl _)) fun b hb => Nat.lt_of_lt_of_le hb hW.size) hl).mono fun e w' he => ⟨by rw [he.1, hb], Hk.andThen hW he.2⟩

set_option maxHeartbeats 1000000 in
theorem awake_any (w : World) : Calls Try.prog 8 #[] w fun e w' => e = .returned (.bool true) ∧ Below w.heap.size w w' := by
  obtain ⟨w3, hw3⟩ : ∃ w3, ((w.alloc (.cells #[.string ⟨#[97]⟩] 9)).alloc (.cells #[.string ⟨#[120]⟩] 9)).alloc (.cells #[.slice (some ⟨w.heap.size, 0, none⟩) 1 1, .slice (some ⟨w.heap.size + 1, 0, none⟩) 1 1] 24) = w3 := ⟨_, rfl⟩
  have s3 : w3.heap.size = w.heap.size + 3 := by rw [← hw3]; simp
  have hb3 : Below w.heap.size w w3 := by rw [← hw3]; exact (((Below.refl _ _).alloc (Nat.le_refl _) _).alloc (by simp) _).alloc (by simp; omega) _
  have h1 : Qu.Blk w3 w.heap.size 9 #[.string ⟨#[97]⟩] := by rw [← hw3]; exact ((Qu.Blk.new w _ _).alloc _).alloc _
  have h2 : Qu.Blk w3 (w.heap.size + 1) 9 #[.string ⟨#[120]⟩] := by
    have h := (Qu.Blk.new (w.alloc (.cells #[.string ⟨#[97]⟩] 9)) 9 #[.string ⟨#[120]⟩]).alloc (.cells #[.slice (some ⟨w.heap.size, 0, none⟩) 1 1, .slice (some ⟨w.heap.size + 1, 0, none⟩) 1 1] 24)
    have e : (w.alloc (.cells #[.string ⟨#[97]⟩] 9)).heap.size = w.heap.size + 1 := by simp
    rw [hw3, e] at h
    exact h
  have h3 : Qu.Blk w3 (w.heap.size + 2) 24 #[.slice (some ⟨w.heap.size, 0, none⟩) 1 1, .slice (some ⟨w.heap.size + 1, 0, none⟩) 1 1] := by
    have h := Qu.Blk.new ((w.alloc (.cells #[.string ⟨#[97]⟩] 9)).alloc (.cells #[.string ⟨#[120]⟩] 9)) 24 #[.slice (some ⟨w.heap.size, 0, none⟩) 1 1, .slice (some ⟨w.heap.size + 1, 0, none⟩) 1 1]
    have e : ((w.alloc (.cells #[.string ⟨#[97]⟩] 9)).alloc (.cells #[.string ⟨#[120]⟩] 9)).heap.size = w.heap.size + 2 := by simp
    rw [hw3, e] at h
    exact h
  have hh : Scp.Holds w3 (· < w3.heap.size) awakeS ⟨⟨some ⟨w.heap.size, 0, none⟩, 1, 1⟩, ⟨some ⟨w.heap.size + 1, 0, none⟩, 1, 1⟩⟩ := ⟨one_row h1 (by decide) h1.lt, one_row h2 (by decide) h2.lt⟩
  have hl : Small ⟨⟨some ⟨w.heap.size, 0, none⟩, 1, 1⟩, ⟨some ⟨w.heap.size + 1, 0, none⟩, 1, 1⟩⟩ := ⟨by show 1 ≤ _; omega, by show 1 ≤ _; omega⟩
  have HR : Hid (Calls Try.prog 10 #[.agg #[.slice (some ⟨w.heap.size, 0, none⟩) 1 1, .slice (some ⟨w.heap.size + 1, 0, none⟩) 1 1]] w3 fun e w' => e = .returned (.bool true) ∧ Below w3.heap.size w3 w') := Lib.hid ((Right_any awakeS _ w3 hh hl).mono fun e w' he => ⟨by rw [he.1, awake_right], he.2⟩)
  have HX := Lib.hid (has_later hh hl ⟨⟨#[98]⟩, ⟨#[120]⟩, 0, false⟩ awake_bx)
  have HY := Lib.hid (has_later hh hl ⟨⟨#[98]⟩, ⟨#[121]⟩, 0, false⟩ awake_by)
  have HZ := Lib.hid (has_later (w3 := w3) (s := ⟨[], []⟩) holds_none ⟨by show 0 ≤ _; omega, by show 0 ≤ _; omega⟩ ⟨⟨#[]⟩, ⟨#[]⟩, 0, false⟩ (b := true) rfl)
  have HC := Lib.hid (fun (W : World) (hW : Below w3.heap.size w3 W) => And.intro ((hW.cell (p := ⟨w.heap.size + 2, 0, none⟩) (show w.heap.size + 2 < w3.heap.size by omega)).trans (h3.cell 0)) ((hW.cell (p := ⟨w.heap.size + 2, 1, none⟩) (show w.heap.size + 2 < w3.heap.size by omega)).trans (h3.cell 1)))
  have HB3 := Lib.hid (And.intro hb3 (Nat.le_of_lt (show w.heap.size < w3.heap.size by omega)))
  obtain ⟨c0, c1⟩ := HC.out w3 (Below.refl _ _)
  clear s3 hb3 h1 h2 h3 hh hl
  go_enter Try.func8, Try.ntmps8
  go_wp2_with fail
  refine HR.out.mono ?_
  rintro e w4 ⟨rfl, hb4⟩
  have HB4 := Lib.hid hb4
  obtain ⟨d0, d1⟩ := HC.out w4 hb4
  clear hb4 hw3 c0 c1
  go_wp2_with fail
  refine (HX.out _ HB4.out).mono ?_
  rintro e w5 ⟨rfl, hb5⟩
  have HB5 := Lib.hid hb5
  obtain ⟨e0, e1⟩ := HC.out w5 hb5
  clear hb5 d0 d1
  go_wp2_with fail
  refine (HY.out _ HB5.out).mono ?_
  rintro e w6 ⟨rfl, hb6⟩
  have HB6 := Lib.hid hb6
  clear hb6 e0 e1
  go_wp2_with fail
  refine (HZ.out _ HB6.out).mono ?_
  rintro e w7 ⟨rfl, hb7⟩
  have HB7 := Lib.hid (HB3.out.1.trans (hb7.mono HB3.out.2))
  clear hb7
  go_wp2
  go_ret
  exact ⟨rfl, HB7.out⟩

end Go.Proofs.Ytkpekdcglbaadaa.Sc
