/- The landed package goods: a contract a call. -/
import Derived.Test.YtdmpnkhgcggepaaGdM
import Derived.Test.YtdmpnkhgcggepaaPyA
import Derived.Deep.Quiet
import Derived.Deep.QuietTactic
set_option maxRecDepth 100000

set_option linter.unusedVariables false
namespace Go.Proofs.Ytdmpnkhgcggepaa.Gd
open Go.ChangeShapes Go.WideShapes Go.ChangeAt Go.RowKit
open It (Itm kItem row_item row_ok)
open Kd (Row Fit)

/-! ### What rises -/
/-- How many at the beginning rise. -/
structure Rose (xs : List Itm) (r : Nat) : Prop where
  le : r ≤ xs.length
  some_ : 0 < xs.length → 0 < r
  rise : Rise (xs.take r)
  stop : ∀ x y, 0 < r → xs[r - 1]? = some x → xs[r]? = some y → Sr.lt x.sku y.sku = false

theorem Rose.all {xs : List Itm} {r : Nat} (h : Rose xs r) : r = xs.length ↔ Rise xs := by
  constructor
  · rintro rfl
    have := h.rise
    rw [List.take_length] at this
    exact this
  · intro hr
    rcases Nat.lt_or_ge r xs.length with h1 | h1
    · have h0 := h.some_ (by omega)
      obtain ⟨x, hx⟩ : ∃ x, xs[r - 1]? = some x := ⟨_, List.getElem?_eq_getElem (by omega)⟩
      obtain ⟨y, hy⟩ : ∃ y, xs[r]? = some y := ⟨_, List.getElem?_eq_getElem h1⟩
      have e := h.stop x y h0 hx hy
      rw [hr (r - 1) x y hx (by rw [show r - 1 + 1 = r by omega]; exact hy)] at e
      cases e
    · have := h.le
      omega

theorem rise_more {xs : List Itm} {k : Nat} (h : Rise (xs.take k)) (hk : ∀ x y, 0 < k → xs[k - 1]? = some x → xs[k]? = some y → Sr.lt x.sku y.sku = true) : Rise (xs.take (k + 1)) := fun i x y hx hy => by
  rw [List.getElem?_take] at hx hy
  split at hx
  · split at hy
    · rcases Nat.lt_or_ge (i + 1) k with h1 | h1
      · exact h i x y (by rw [List.getElem?_take, if_pos (by omega)]; exact hx) (by rw [List.getElem?_take, if_pos h1]; exact hy)
      · obtain rfl : k = i + 1 := by omega
        exact hk x y (by omega) hx hy
    · cases hy
  · cases hx

set_option maxHeartbeats 1000000 in
theorem rising_any (A : Option Addr) (n c : Nat) (xs : List Itm) (F : Nat → Prop) (w : World) (h : Row kItem w F A n xs) (hn : n ≤ 1000000000000) :
    Calls Try.prog 45 #[.slice A n c] w fun e w' => (∃ r : Nat, e = .returned (.int .i64 (r : Int)) ∧ Rose xs r) ∧ Hl.Drawn w w' := by
  have hlen := h.len
  have HH := Lib.hid h
  have HL := Lib.hid hlen
  clear h hlen
  go_enter Try.func45, Try.ntmps45
  go_wp2
  go_loopw [3] (fun s3 wr => ∃ k : Nat, s3 = .int .i64 k ∧ 1 ≤ k ∧ (k ≤ n ∨ (n = 0 ∧ k = 1)) ∧ Hl.Drawn w wr ∧ Rise (xs.take k)) (fun s3 _ => n - (intOf s3).toNat)
  case atStart => exact ⟨1, rfl, by omega, by omega, ⟨0, rfl⟩, fun i x y hx hy => by
    rw [List.getElem?_take] at hy
    split at hy
    · omega
    · cases hy⟩
  case round =>
    obtain ⟨k, rfl, hk1, hk2, hD, hR⟩ := hrel
    have HR := Lib.hid hR
    clear hR
    by_cases hlt : k < n
    · obtain ⟨x, hx⟩ := HH.out.get hlt
      obtain ⟨y, hy⟩ := HH.out.get (k := k - 1) (by omega)
      obtain ⟨g, o, rfl, _, _, _, a1, _⟩ := row_item HH.out hx
      obtain ⟨g', o', hA, _, _, _, b1, _⟩ := row_item HH.out hy
      injection hA with hA
      injection hA with hA1 hA2
      subst hA1 hA2
      have c1 : wr.cell? ⟨g, o + k * 4, none⟩ = some (.string x.sku) := by obtain ⟨d, rfl⟩ := hD; exact a1
      have c2 : wr.cell? ⟨g, o + (k - 1) * 4, none⟩ = some (.string y.sku) := by obtain ⟨d, rfl⟩ := hD; exact b1
      have HD := Lib.hid hD
      have HX := Lib.hid (And.intro hx hy)
      have k0 : (0 : Int) ≤ (k : Int) - 1 := by omega
      have k1 : (k : Int) < (n : Int) := by omega
      have k2 : (k : Int) - 1 < (n : Int) := by omega
      have k3 : ((k : Int) - 1).toNat = k - 1 := by omega
      have hle : ∀ W : World, (binOp .leq 9 (.string x.sku) (.string y.sku)).run Try.prog W = .ok (.bool (!Sr.lt y.sku x.sku)) W := fun W => by
        have e : binOp .leq 9 (.string x.sku) (.string y.sku) = pure (.bool (Op.bytesLess x.sku.toList y.sku.toList || x.sku.toList == y.sku.toList)) := by simp [binOp, Op.stringOp]
        rw [e, Sr.le_iff]
        rfl
      clear a1 b1 hD hx hy hlt
      obtain ⟨sx, hsx⟩ : ∃ s, x.sku = s := ⟨_, rfl⟩
      obtain ⟨sy, hsy⟩ : ∃ s, y.sku = s := ⟨_, rfl⟩
      simp only [hsx, hsy] at c1 c2 hle
      have HS := Lib.hid (And.intro hsx hsy)
      clear hsx hsy
      cases hB : Sr.lt sy sx with
      | true =>
        rw [hB] at hle
        have HB := Lib.hid hB
        clear hB
        go_wp2_with fail
        go_quiet (fail)
        go_wp2
        go_roundw
        case rel => exact ⟨k + 1, by go_num, by omega, by omega, HD.out.more _, rise_more HR.out fun x' y' _ hx' hy' => by
          rw [HX.out.2] at hx'
          rw [HX.out.1] at hy'
          injection hx' with hx'
          injection hy' with hy'
          subst hx' hy'
          rw [HS.out.1, HS.out.2]
          exact HB.out⟩
        case measure => simp [intOf]; omega
      | false =>
        rw [hB] at hle
        have HO : Hid (Rose xs k) := Lib.hid ⟨by rw [HL.out]; omega, fun _ => by omega, HR.out, fun x' y' _ hx' hy' => by
          rw [HX.out.2] at hx'
          rw [HX.out.1] at hy'
          injection hx' with hx'
          injection hy' with hy'
          subst hx' hy'
          rw [HS.out.1, HS.out.2]
          exact hB⟩
        clear hB
        go_wp2_with fail
        go_quiet (fail)
        go_wp2
        go_ret
        exact ⟨⟨k, rfl, HO.out⟩, HD.out.more _⟩
    · have k1 : ¬ (k : Int) < (n : Int) := by omega
      have HO : Hid (Rose xs n) := Lib.hid (by
        have hl := HL.out
        refine ⟨by omega, fun h0 => by omega, ?_, fun x y _ _ hy => ?_⟩
        · rcases hk2 with h2 | ⟨h2, h3⟩
          · obtain rfl : k = n := by omega
            exact HR.out
          · intro i x y hx hy
            rw [List.getElem?_take] at hy
            split at hy
            · omega
            · cases hy
        · have := (List.getElem?_eq_some_iff.1 hy).1
          omega)
      have HD := Lib.hid hD
      clear hD
      go_wp2
      go_ret
      exact ⟨⟨n, rfl, HO.out⟩, HD.out⟩

theorem cmpString_any (a b : ByteArray) (w : World) : Calls Try.prog 52 #[.string a, .string b] w fun e w' => e = .returned (.int .i64 (Lib.compareBytes a.data.toList b.data.toList)) ∧ w' = w := by
  go_enter Try.func52, Try.ntmps52
  go_wp2
  rw [run_callFunc_extern Try.func53 (by kernel_rfl) (by kernel_rfl) (by kernel_rfl) (e := Extern.BytealgCompare.compare) (by kernel_rfl), Lib.run_compareString]
  simp only [Result.andThen]
  rw [Oper.upon_value]
  go_wp2
  go_ret
  exact ⟨rfl, rfl⟩

/-- How one text stands to another. -/
def cmp (a b : ByteArray) : Int := if Sr.lt a b then -1 else if Sr.same a b then 0 else 1

theorem compare_any (a b : ByteArray) (w : World) : Calls Try.prog 51 #[.string a, .string b] w fun e w' => e = .returned (.int .i64 (cmp a b)) ∧ w' = w := by
  have HC := Lib.hid (cmpString_any a b w)
  rw [Sr.compare_eq] at HC
  change Hid (Calls Try.prog 52 #[.string a, .string b] w fun e w' => e = .returned (.int .i64 (cmp a b)) ∧ w' = w) at HC
  go_enter Try.func51, Try.ntmps51
  go_wp2_with fail
  refine HC.out.mono ?_
  rintro e w1 ⟨rfl, rfl⟩
  go_wp2
  go_ret
  exact ⟨rfl, rfl⟩

theorem bySku_any (x : Itm) (s : ByteArray) (w : World) : Calls Try.prog 47 #[.agg #[.string x.sku, .string x.cat, .int .i64 x.price, .bool x.fin], .string s] w fun e w' => e = .returned (.int .i64 (cmp x.sku s)) ∧ Below w.heap.size w w' := by
  have HC := Lib.hid (fun W => compare_any x.sku s W)
  have HB : Hid (∀ o, Below w.heap.size w (w.alloc o)) := Lib.hid fun o => (Below.refl _ _).alloc (Nat.le_refl _) _
  go_enter Try.func47, Try.ntmps47
  go_wp2_with fail
  refine (HC.out _).mono ?_
  rintro e w1 ⟨rfl, rfl⟩
  go_wp2
  go_ret
  exact ⟨rfl, HB.out _⟩

/-- A row, and nothing turned of what there was. -/
structure Kept (w wr : World) (F : Nat → Prop) (A : Option Addr) (n : Nat) (xs : List Itm) : Prop where
  row : Row kItem wr F A n xs
  below : Below w.heap.size w wr

theorem Kept.on {w wr w' : World} {F : Nat → Prop} {A : Option Addr} {n : Nat} {xs : List Itm} (h : Kept w wr F A n xs) (hF : ∀ b, F b → b < w.heap.size) (hb : Below wr.heap.size wr w') : Kept w w' F A n xs :=
  ⟨h.row.stay fun b hb2 => hb.block b (Nat.lt_of_lt_of_le (hF b hb2) h.below.size), Hk.andThen h.below hb⟩

theorem good_iff {xs : List Itm} {r : Nat} (hr : Rose xs r) (h5 : xs.length ≤ 500) {b : Bool} (hb : b = false ↔ ∀ (i : Nat) (x : Itm), xs[i]? = some x → itemB x = true) (e : r = xs.length) : goodB xs = !b := by
  cases b with
  | false => exact goodB_yes ⟨h5, hr.all.1 e, hb.1 rfl⟩
  | true => exact goodB_no fun h => by cases hb.2 h.each

end Go.Proofs.Ytdmpnkhgcggepaa.Gd
