/- The document's goods: Goods, Find. -/
import Derived.Test.YtabfnkjdfninhaaGdM
import Derived.Test.YtabfnkjdfninhaaPyA
set_option maxRecDepth 100000

set_option linter.unusedVariables false
namespace Go.Proofs.Ytabfnkjdfninhaa.Gd
open Go.ChangeShapes Go.WideShapes Go.ChangeAt Go.RowKit
open It (Itm kItem row_item row_ok)
open Kd (Row Fit)

theorem leq_any (a b : ByteArray) (W : World) : (binOp .leq 9 (.string a) (.string b)).run Try.prog W = .ok (.bool (!Sr.lt b a)) W := by
  have e : binOp .leq 9 (.string a) (.string b) = pure (.bool (Op.bytesLess a.toList b.toList || a.toList == b.toList)) := by simp [binOp, Op.stringOp]
  rw [e, Sr.le_iff]
  rfl

/-- The first k are right. -/
structure UpTo (xs : List Itm) (k : Nat) : Prop where
  each : ∀ (i : Nat) (x : Itm), i < k → xs[i]? = some x → itemB x = true
  rise : ∀ (i : Nat) (x y : Itm), i + 1 < k → xs[i]? = some x → xs[i + 1]? = some y → Sr.lt x.sku y.sku = true

theorem UpTo.next {xs : List Itm} {k : Nat} {x : Itm} (h : UpTo xs k) (hx : xs[k]? = some x) (hi : itemB x = true) (hr : ∀ y, 0 < k → xs[k - 1]? = some y → Sr.lt y.sku x.sku = true) : UpTo xs (k + 1) :=
  ⟨fun i y hlt hy => by
    rcases Nat.lt_or_ge i k with h1 | h1
    · exact h.each i y h1 hy
    · obtain rfl : i = k := by omega
      rw [hx] at hy; injection hy with hy; subst hy; exact hi,
   fun i y z hlt hy hz => by
    rcases Nat.lt_or_ge (i + 1) k with h1 | h1
    · exact h.rise i y z h1 hy hz
    · obtain rfl : k = i + 1 := by omega
      rw [hx] at hz; injection hz with hz; subst hz
      exact hr y (by omega) hy⟩

theorem UpTo.good {xs : List Itm} (h : UpTo xs xs.length) : goodB xs = decide (xs.length ≤ 500) := by
  by_cases h5 : xs.length ≤ 500
  · rw [decide_eq_true h5]
    exact goodB_yes ⟨h5, fun i x y hx hy => h.rise i x y (List.getElem?_eq_some_iff.1 hy).1 hx hy, fun i x hx => h.each i x (List.getElem?_eq_some_iff.1 hx).1 hx⟩
  · rw [decide_eq_false h5]
    exact goodB_no fun g => h5 g.few

theorem bad_item {xs : List Itm} {k : Nat} {x : Itm} (hx : xs[k]? = some x) (h : itemB x = false) : goodB xs = false := goodB_no fun g => by
  rw [g.each k x hx] at h; cases h

theorem bad_step {xs : List Itm} {k : Nat} {x y : Itm} (hx : xs[k]? = some x) (hy : xs[k - 1]? = some y) (hk : 0 < k) (h : Sr.lt y.sku x.sku = false) : goodB xs = false := goodB_no fun g => by
  rw [g.rise (k - 1) y x hy (by rw [show k - 1 + 1 = k by omega]; exact hx)] at h; cases h

set_option maxHeartbeats 2000000 in
theorem rgoods_any (A : Option Addr) (n c : Nat) (xs : List Itm) (F : Nat → Prop) (w : World) (h : Row kItem w F A n xs) (hn : n ≤ 1000000000000) :
    Calls Try.prog 16 #[.slice A n c] w fun e w' => e = .returned (.bool (goodB xs)) ∧ Hl.Drawn w w' := by
  have hlen := h.len
  have HH := Lib.hid h
  have HL := Lib.hid hlen
  clear h hlen
  go_enter Try.func16, Try.ntmps16
  go_wp2
  go_loopw [3] (fun s3 wr => ∃ k : Nat, s3 = .int .i64 k ∧ k ≤ n ∧ Hl.Drawn w wr ∧ UpTo xs k) (fun s3 _ => n - (intOf s3).toNat)
  case atStart => exact ⟨0, rfl, by omega, ⟨0, rfl⟩, ⟨fun i x hi => by omega, fun i x y hi => by omega⟩⟩
  case round =>
    obtain ⟨k, rfl, hk, hD, hU⟩ := hrel
    have HU := Lib.hid hU
    clear hU
    by_cases hlt : k < n
    · obtain ⟨x, hx⟩ := HH.out.get hlt
      obtain ⟨g, o, rfl, _, _, hok, a0, a1, a2, _⟩ := row_item HH.out hx
      have c0 : wr.cell? ⟨g, o + k * 4, none⟩ = some (.string x.sku) := by obtain ⟨d, rfl⟩ := hD; exact a0
      have c1 : wr.cell? ⟨g, o + k * 4 + 1, none⟩ = some (.string x.cat) := by obtain ⟨d, rfl⟩ := hD; exact a1
      have c2 : wr.cell? ⟨g, o + k * 4 + 2, none⟩ = some (.int .i64 x.price) := by obtain ⟨d, rfl⟩ := hD; exact a2
      have HX := Lib.hid hx
      have hib : itemB x = (Sr.name x.sku && Sr.name x.cat && (decide (0 ≤ x.price) && decide (x.price ≤ 1000000000))) := rfl
      have HI := Lib.hid hib
      have N1 := Lib.hid (fun W => Py.rname_any x.sku W hok.sku)
      have N2 := Lib.hid (fun W => Py.rname_any x.cat W hok.cat)
      have N3 := Lib.hid (fun W => Py.rin_any x.price 1000000000 W)
      have k1 : (k : Int) < (n : Int) := by omega
      have kk : (0 : Int) ≤ (k : Int) := by omega
      clear a0 a1 a2 hx hib hok
      cases n1 : Sr.name x.sku with
      | false =>
        rw [n1] at N1
        have HB := Lib.hid (bad_item HX.out (by rw [HI.out, n1]; rfl))
        have HD := Lib.hid hD
        clear n1 hD
        go_wp2_with fail
        go_quiet ((go_at_call 12; exact Calls.quiet_of_same (N1.out _)))
        go_wp2
        go_ret
        exact ⟨by rw [HB.out]; rfl, HD.out.more _⟩
      | true =>
        rw [n1] at N1
        cases n2 : Sr.name x.cat with
        | false =>
          rw [n2] at N2
          have HB := Lib.hid (bad_item HX.out (by rw [HI.out, n1, n2]; rfl))
          have HD := Lib.hid hD
          clear n1 n2 hD
          go_wp2_with fail
          go_quiet ((go_at_call 12; first | (with_reducible exact Calls.quiet_of_same (N1.out _)) | (with_reducible exact Calls.quiet_of_same (N2.out _))))
          go_wp2
          go_ret
          exact ⟨by rw [HB.out]; rfl, HD.out.more _⟩
        | true =>
          rw [n2] at N2
          cases n3 : (decide (0 ≤ x.price) && decide (x.price ≤ 1000000000)) with
          | false =>
            rw [n3] at N3
            have HB := Lib.hid (bad_item HX.out (by rw [HI.out, n1, n2, n3]; rfl))
            have HD := Lib.hid hD
            clear n1 n2 n3 hD
            go_wp2_with fail
            go_quiet (first | (go_at_call 12; first | (with_reducible exact Calls.quiet_of_same (N1.out _)) | (with_reducible exact Calls.quiet_of_same (N2.out _))) | (go_at_call 27; exact Calls.quiet_of_same (N3.out _)))
            go_wp2
            go_ret
            exact ⟨by rw [HB.out]; rfl, HD.out.more _⟩
          | true =>
            rw [n3] at N3
            have HG : Hid (itemB x = true) := Lib.hid (by rw [HI.out, n1, n2, n3]; rfl)
            clear n1 n2 n3
            by_cases k0 : 0 < k
            · obtain ⟨y, hy⟩ := HH.out.get (k := k - 1) (by omega)
              obtain ⟨g', o', hA, _, _, _, b1, _⟩ := row_item HH.out hy
              injection hA with hA
              injection hA with hA1 hA2
              subst hA1 hA2
              have d0 : wr.cell? ⟨g, o + (k - 1) * 4, none⟩ = some (.string y.sku) := by obtain ⟨d, rfl⟩ := hD; exact b1
              have HD := Lib.hid hD
              have HY := Lib.hid hy
              have j0 : (0 : Int) < (k : Int) := by omega
              have j1 : (0 : Int) ≤ (k : Int) - 1 := by omega
              have j2 : (k : Int) - 1 < (n : Int) := by omega
              have j3 : ((k : Int) - 1).toNat = k - 1 := by omega
              have hle := fun W => leq_any x.sku y.sku W
              clear hD b1 hy
              cases hB : Sr.lt y.sku x.sku with
              | true =>
                rw [hB] at hle
                have HU2 := Lib.hid (HU.out.next HX.out HG.out fun z _ hz => by
                  rw [HY.out] at hz; injection hz with hz; subst hz; exact hB)
                clear hB
                go_wp2_with fail
                go_quiet (first | (go_at_call 12; first | (with_reducible exact Calls.quiet_of_same (N1.out _)) | (with_reducible exact Calls.quiet_of_same (N2.out _))) | (go_at_call 27; exact Calls.quiet_of_same (N3.out _)))
                go_wp2
                go_roundw
                case rel => exact ⟨k + 1, by go_num, by omega, HD.out.more _, HU2.out⟩
                case measure => simp [intOf]; omega
              | false =>
                rw [hB] at hle
                have HB := Lib.hid (bad_step HX.out HY.out k0 hB)
                clear hB
                go_wp2_with fail
                go_quiet (first | (go_at_call 12; first | (with_reducible exact Calls.quiet_of_same (N1.out _)) | (with_reducible exact Calls.quiet_of_same (N2.out _))) | (go_at_call 27; exact Calls.quiet_of_same (N3.out _)))
                go_wp2
                go_ret
                exact ⟨by rw [HB.out]; rfl, HD.out.more _⟩
            · have j0 : ¬ (0 : Int) < (k : Int) := by omega
              have HU2 := Lib.hid (HU.out.next HX.out HG.out fun z h => by omega)
              have HD := Lib.hid hD
              clear hD
              go_wp2_with fail
              go_quiet (first | (go_at_call 12; first | (with_reducible exact Calls.quiet_of_same (N1.out _)) | (with_reducible exact Calls.quiet_of_same (N2.out _))) | (go_at_call 27; exact Calls.quiet_of_same (N3.out _)))
              go_wp2
              go_roundw
              case rel => exact ⟨k + 1, by go_num, by omega, HD.out.more _, HU2.out⟩
              case measure => simp [intOf]; omega
    · obtain rfl : k = n := by omega
      have k1 : ¬ (k : Int) < (k : Int) := by omega
      have HG : Hid (goodB xs = decide (k ≤ 500)) := Lib.hid (by
        have h1 := HU.out
        rw [← HL.out] at h1 ⊢
        exact h1.good)
      by_cases h5 : k ≤ 500
      · have d5 : (k : Int) ≤ 500 := by omega
        rw [decide_eq_true h5] at HG
        go_wp2
        go_ret
        exact ⟨by rw [HG.out]; rfl, hD⟩
      · have d5 : ¬ (k : Int) ≤ 500 := by omega
        rw [decide_eq_false h5] at HG
        go_wp2
        go_ret
        exact ⟨by rw [HG.out]; rfl, hD⟩

theorem rfind_any (A : Option Addr) (n c : Nat) (xs : List Itm) (s : ByteArray) (F : Nat → Prop) (w : World) (h : Row kItem w F A n xs) (hn : n ≤ 1000000000000) :
    Calls Try.prog 18 #[.slice A n c, .string s] w fun e w' => e = .returned (.int .i64 (find s xs)) ∧ Hl.Drawn w w' := by
  have hlen := h.len
  have HH := Lib.hid h
  have HL := Lib.hid hlen
  clear h hlen
  go_enter Try.func18, Try.ntmps18
  go_wp2
  go_loopw [5] (fun s5 wr => ∃ k : Nat, s5 = .int .i64 k ∧ k ≤ n ∧ Hl.Drawn w wr ∧ ∀ (i : Nat) (x : Itm), i < k → xs[i]? = some x → x.sku ≠ s) (fun s5 _ => n - (intOf s5).toNat)
  case atStart => exact ⟨0, rfl, by omega, ⟨0, rfl⟩, fun i x hi => by omega⟩
  case round =>
    obtain ⟨k, rfl, hk, hD, hE⟩ := hrel
    have HE := Lib.hid hE
    clear hE
    by_cases hlt : k < n
    · obtain ⟨x, hx⟩ := HH.out.get hlt
      obtain ⟨g, o, rfl, _, _, hok, a0, _⟩ := row_item HH.out hx
      have c0 : wr.cell? ⟨g, o + k * 4, none⟩ = some (.string x.sku) := by obtain ⟨d, rfl⟩ := hD; exact a0
      have HX := Lib.hid hx
      have k1 : (k : Int) < (n : Int) := by omega
      have kk : (0 : Int) ≤ (k : Int) := by omega
      have hs : (x.sku.toList == s.toList) = Sr.same x.sku s := rfl
      clear a0 hx hok
      cases hB : Sr.same x.sku s with
      | true =>
        have HF := Lib.hid (find_at HX.out (Sr.same_iff.1 hB) fun j y hj hy => HE.out j y hj hy)
        rw [hB] at hs
        have HD := Lib.hid hD
        clear hB hD
        go_wp2
        go_ret
        exact ⟨by rw [HF.out]; rfl, HD.out⟩
      | false =>
        have HN : Hid (x.sku ≠ s) := Lib.hid (fun e => by rw [Sr.same_iff.2 e] at hB; cases hB)
        rw [hB] at hs
        have HD := Lib.hid hD
        clear hB hD
        go_wp2
        go_roundw
        case rel => exact ⟨k + 1, by go_num, by omega, HD.out, fun i y hi hy => by
          rcases Nat.lt_or_ge i k with h1 | h1
          · exact HE.out i y h1 hy
          · obtain rfl : i = k := by omega
            rw [HX.out] at hy; injection hy with hy; subst hy; exact HN.out⟩
        case measure => simp [intOf]; omega
    · have k1 : ¬ (k : Int) < (n : Int) := by omega
      have HF := Lib.hid (find_none (s := s) (xs := xs) fun i x hx => HE.out i x (by
        have := (List.getElem?_eq_some_iff.1 hx).1
        rw [HL.out] at this
        omega) hx)
      go_wp2
      go_ret
      exact ⟨by rw [HF.out]; rfl, hD⟩

end Go.Proofs.Ytabfnkjdfninhaa.Gd
