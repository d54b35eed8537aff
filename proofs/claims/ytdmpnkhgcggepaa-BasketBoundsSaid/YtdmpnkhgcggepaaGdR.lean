/- The document's goods: Goods, Find. -/
import Derived.Test.YtdmpnkhgcggepaaGdM
import Derived.Test.YtdmpnkhgcggepaaPyA
set_option maxRecDepth 100000

set_option linter.unusedVariables false
namespace Go.Proofs.Ytdmpnkhgcggepaa.Gd
open Go.ChangeShapes Go.WideShapes Go.ChangeAt Go.RowKit
open It (Itm kItem row_item row_ok)
open Kd (Row Fit)

theorem leq_any (a b : ByteArray) (W : World) : (binOp .leq 9 (.string a) (.string b)).run Try.prog W = .ok (.bool (!Sr.lt b a)) W := by
  have e : binOp .leq 9 (.string a) (.string b) = pure (.bool (Op.bytesLess a.toList b.toList || a.toList == b.toList)) := by simp [binOp, Op.stringOp]
  rw [e, Sr.le_iff]
  rfl

/-- The first k are right. -/
structure UpTo (xs : List Itm) (k : Nat) : Prop where
  each : ∀ (i : Nat) (x : Itm), i < k → xs[i]? = some x → itemB x = true
  rise : ∀ (i : Nat) (x y : Itm), i + 1 < k → xs[i]? = some x → xs[i + 1]? = some y → Sr.lt x.sku y.sku = true

theorem UpTo.next {xs : List Itm} {k : Nat} {x : Itm} (h : UpTo xs k) (hx : xs[k]? = some x) (hi : itemB x = true) (hr : ∀ y, 0 < k → xs[k - 1]? = some y → Sr.lt y.sku x.sku = true) : UpTo xs (k + 1) :=
  ⟨fun i y hlt hy => by
    rcases Nat.lt_or_ge i k with h1 | h1
    · exact h.each i y h1 hy
    · obtain rfl : i = k := by omega
      rw [hx] at hy; injection hy with hy; subst hy; exact hi,
   fun i y z hlt hy hz => by
    rcases Nat.lt_or_ge (i + 1) k with h1 | h1
    · exact h.rise i y z h1 hy hz
    · obtain rfl : k = i + 1 := by omega
      rw [hx] at hz; injection hz with hz; subst hz
      exact hr y (by omega) hy⟩

theorem UpTo.good {xs : List Itm} (h : UpTo xs xs.length) : goodB xs = decide (xs.length ≤ 500) := by
  by_cases h5 : xs.length ≤ 500
  · rw [decide_eq_true h5]
    exact goodB_yes ⟨h5, fun i x y hx hy => h.rise i x y (List.getElem?_eq_some_iff.1 hy).1 hx hy, fun i x hx => h.each i x (List.getElem?_eq_some_iff.1 hx).1 hx⟩
  · rw [decide_eq_false h5]
    exact goodB_no fun g => h5 g.few

theorem bad_item {xs : List Itm} {k : Nat} {x : Itm} (hx : xs[k]? = some x) (h : itemB x = false) : goodB xs = false := goodB_no fun g => by
  rw [g.each k x hx] at h; cases h

theorem bad_step {xs : List Itm} {k : Nat} {x y : Itm} (hx : xs[k]? = some x) (hy : xs[k - 1]? = some y) (hk : 0 < k) (h : Sr.lt y.sku x.sku = false) : goodB xs = false := goodB_no fun g => by
  rw [g.rise (k - 1) y x hy (by rw [show k - 1 + 1 = k by omega]; exact hx)] at h; cases h

theorem rfind_any (A : Option Addr) (n c : Nat) (xs : List Itm) (s : ByteArray) (F : Nat → Prop) (w : World) (h : Row kItem w F A n xs) (hn : n ≤ 1000000000000) :
    Calls Try.prog 31 #[.slice A n c, .string s] w fun e w' => e = .returned (.int .i64 (find s xs)) ∧ Hl.Drawn w w' := by
  have hlen := h.len
  have HH := Lib.hid h
  have HL := Lib.hid hlen
  clear h hlen
  go_enter Try.func31, Try.ntmps31
  go_wp2
  go_loopw [5] (fun s5 wr => ∃ k : Nat, s5 = .int .i64 k ∧ k ≤ n ∧ Hl.Drawn w wr ∧ ∀ (i : Nat) (x : Itm), i < k → xs[i]? = some x → x.sku ≠ s) (fun s5 _ => n - (intOf s5).toNat)
  case atStart => exact ⟨0, rfl, by omega, ⟨0, rfl⟩, fun i x hi => by omega⟩
  case round =>
    obtain ⟨k, rfl, hk, hD, hE⟩ := hrel
    have HE := Lib.hid hE
    clear hE
    by_cases hlt : k < n
    · obtain ⟨x, hx⟩ := HH.out.get hlt
      obtain ⟨g, o, rfl, _, _, hok, a0, _⟩ := row_item HH.out hx
      have c0 : wr.cell? ⟨g, o + k * 4, none⟩ = some (.string x.sku) := by obtain ⟨d, rfl⟩ := hD; exact a0
      have HX := Lib.hid hx
      have k1 : (k : Int) < (n : Int) := by omega
      have kk : (0 : Int) ≤ (k : Int) := by omega
      have hs : (x.sku.toList == s.toList) = Sr.same x.sku s := rfl
      clear a0 hx hok
      cases hB : Sr.same x.sku s with
      | true =>
        have HF := Lib.hid (find_at HX.out (Sr.same_iff.1 hB) fun j y hj hy => HE.out j y hj hy)
        rw [hB] at hs
        have HD := Lib.hid hD
        clear hB hD
        go_wp2
        go_ret
        exact ⟨by rw [HF.out]; rfl, HD.out⟩
      | false =>
        have HN : Hid (x.sku ≠ s) := Lib.hid (fun e => by rw [Sr.same_iff.2 e] at hB; cases hB)
        rw [hB] at hs
        have HD := Lib.hid hD
        clear hB hD
        go_wp2
        go_roundw
        case rel => exact ⟨k + 1, by go_num, by omega, HD.out, fun i y hi hy => by
          rcases Nat.lt_or_ge i k with h1 | h1
          · exact HE.out i y h1 hy
          · obtain rfl : i = k := by omega
            rw [HX.out] at hy; injection hy with hy; subst hy; exact HN.out⟩
        case measure => simp [intOf]; omega
    · have k1 : ¬ (k : Int) < (n : Int) := by omega
      have HF := Lib.hid (find_none (s := s) (xs := xs) fun i x hx => HE.out i x (by
        have := (List.getElem?_eq_some_iff.1 hx).1
        rw [HL.out] at this
        omega) hx)
      go_wp2
      go_ret
      exact ⟨by rw [HF.out]; rfl, hD⟩

end Go.Proofs.Ytdmpnkhgcggepaa.Gd
