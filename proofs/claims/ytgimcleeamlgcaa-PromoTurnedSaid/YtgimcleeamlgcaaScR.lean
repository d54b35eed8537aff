/- The document's scopes: names, has, Scope, Has, Index. -/
import Derived.Test.YtgimcleeamlgcaaScM
import Derived.Test.YtgimcleeamlgcaaKa
import Derived.Test.YtgimcleeamlgcaaPyA
import Derived.Deep.RegionHeld3
set_option maxRecDepth 100000

set_option linter.unusedVariables false
namespace Go.Proofs.Ytgimcleeamlgcaa.Sc
open Go.ChangeShapes Go.WideShapes Go.ChangeAt Go.RowKit
open It (Itm kItem row_item)
open Ap (Scp kScp row_Scp)
open Kd (Row Fit Lst Sl kStr kInt kList row_str Deep But Own)

theorem leq_str (a b : ByteArray) (W : World) : (binOp .leq 9 (.string a) (.string b)).run Try.prog W = .ok (.bool (!Sr.lt b a)) W := by
  have e : binOp .leq 9 (.string a) (.string b) = pure (.bool (Op.bytesLess a.toList b.toList || a.toList == b.toList)) := by simp [binOp, Op.stringOp]
  rw [e, Sr.le_iff]
  rfl

set_option maxHeartbeats 2000000 in
theorem rnames_any (A : Option Addr) (n c : Nat) (l : List ByteArray) (m : Int) (F : Nat → Prop) (w : World) (h : Row kStr w F A n l) (hn : n ≤ 1000000000000) :
    Calls Try.prog 54 #[.slice A n c, .int .i64 m] w fun e w' => e = .returned (.bool (namesB l m)) ∧ Hl.Drawn w w' := by
  have hlen := h.len
  have HH := Lib.hid h
  have HL := Lib.hid hlen
  clear h hlen
  go_enter Try.func54, Try.ntmps54
  go_wp2
  go_loopw [5] (fun s5 wr => ∃ k : Nat, s5 = .int .i64 k ∧ k ≤ n ∧ Hl.Drawn w wr ∧ UpTo l k) (fun s5 _ => n - (intOf s5).toNat)
  case atStart => exact ⟨0, rfl, by omega, ⟨0, rfl⟩, ⟨fun i x hi => by omega, fun i x y hi => by omega⟩⟩
  case round =>
    obtain ⟨k, rfl, hk, hD, hU⟩ := hrel
    have HU := Lib.hid hU
    clear hU
    by_cases hlt : k < n
    · obtain ⟨x, hx⟩ := HH.out.get hlt
      obtain ⟨g, o, rfl, _, _, hok, a0⟩ := row_str HH.out hx
      have c0 : wr.cell? ⟨g, o + k, none⟩ = some (.string x) := by obtain ⟨d, rfl⟩ := hD; exact a0
      have HX := Lib.hid hx
      have N1 := Lib.hid (fun W => Py.rname_any x W hok)
      have k1 : (k : Int) < (n : Int) := by omega
      have kk : (0 : Int) ≤ (k : Int) := by omega
      clear a0 hx hok
      cases n1 : Sr.name x with
      | false =>
        simp only [n1] at N1
        have HB := Lib.hid (bad_name (m := m) HX.out n1)
        have HD := Lib.hid hD
        clear n1 hD
        go_wp2_with fail
        go_quiet ((go_at_call 38; exact Calls.quiet_of_same (N1.out _)))
        go_wp2
        go_ret
        exact ⟨by rw [HB.out]; rfl, HD.out.more _⟩
      | true =>
        simp only [n1] at N1
        by_cases k0 : 0 < k
        · obtain ⟨y, hy⟩ := HH.out.get (k := k - 1) (by omega)
          obtain ⟨g', o', hA, _, _, _, b1⟩ := row_str HH.out hy
          injection hA with hA
          injection hA with hA1 hA2
          subst hA1 hA2
          have d0 : wr.cell? ⟨g, o + (k - 1), none⟩ = some (.string y) := by obtain ⟨d, rfl⟩ := hD; exact b1
          have HD := Lib.hid hD
          have HY := Lib.hid hy
          have j0 : (0 : Int) < (k : Int) := by omega
          have j1 : (0 : Int) ≤ (k : Int) - 1 := by omega
          have j2 : (k : Int) - 1 < (n : Int) := by omega
          have j3 : ((k : Int) - 1).toNat = k - 1 := by omega
          have hle := fun W => leq_str x y W
          clear hD b1 hy
          cases hB : Sr.lt y x with
          | true =>
            simp only [hB] at hle
            have HU2 := Lib.hid (HU.out.next HX.out n1 fun z _ hz => by
              rw [HY.out] at hz; injection hz with hz; subst hz; exact hB)
            clear hB n1
            go_wp2_with fail
            go_quiet ((go_at_call 38; exact Calls.quiet_of_same (N1.out _)))
            go_wp2
            go_roundw
            case rel => exact ⟨k + 1, by go_num, by omega, HD.out.more _, HU2.out⟩
            case measure => simp [intOf]; omega
          | false =>
            simp only [hB] at hle
            have HB := Lib.hid (bad_step (m := m) HX.out HY.out k0 hB)
            clear hB n1
            go_wp2_with fail
            go_quiet ((go_at_call 38; exact Calls.quiet_of_same (N1.out _)))
            go_wp2
            go_ret
            exact ⟨by rw [HB.out]; rfl, HD.out.more _⟩
        · have j0 : ¬ (0 : Int) < (k : Int) := by omega
          have HU2 := Lib.hid (HU.out.next HX.out n1 fun z h => by omega)
          have HD := Lib.hid hD
          clear hD n1
          go_wp2_with fail
          go_quiet ((go_at_call 38; exact Calls.quiet_of_same (N1.out _)))
          go_wp2
          go_roundw
          case rel => exact ⟨k + 1, by go_num, by omega, HD.out.more _, HU2.out⟩
          case measure => simp [intOf]; omega
    · obtain rfl : k = n := by omega
      have k1 : ¬ (k : Int) < (k : Int) := by omega
      have HG : Hid (namesB l m = decide ((k : Int) ≤ m)) := Lib.hid (by
        have h1 := HU.out
        have h2 := HL.out
        rw [← h2] at h1 ⊢
        exact h1.names)
      go_wp2
      go_ret
      exact ⟨by rw [HG.out]; rfl, hD⟩

theorem rhas_any (A : Option Addr) (n c : Nat) (l : List ByteArray) (s : ByteArray) (F : Nat → Prop) (w : World) (h : Row kStr w F A n l) (hn : n ≤ 1000000000000) :
    Calls Try.prog 49 #[.slice A n c, .string s] w fun e w' => e = .returned (.bool (hasB l s)) ∧ w' = w := by
  have hlen := h.len
  have HH := Lib.hid h
  have HL := Lib.hid hlen
  clear h hlen
  go_enter Try.func49, Try.ntmps49
  go_wp2
  go_loopw [5] (fun s5 wr => ∃ k : Nat, s5 = .int .i64 k ∧ k ≤ n ∧ wr = w ∧ ∀ (i : Nat) (x : ByteArray), i < k → l[i]? = some x → x ≠ s) (fun s5 _ => n - (intOf s5).toNat)
  case atStart => exact ⟨0, rfl, by omega, rfl, fun i x hi => by omega⟩
  case round =>
    obtain ⟨k, rfl, hk, rfl, hE⟩ := hrel
    have HE := Lib.hid hE
    clear hE
    by_cases hlt : k < n
    · obtain ⟨x, hx⟩ := HH.out.get hlt
      obtain ⟨g, o, rfl, _, _, hok, c0⟩ := row_str HH.out hx
      have HX := Lib.hid hx
      have k1 : (k : Int) < (n : Int) := by omega
      have kk : (0 : Int) ≤ (k : Int) := by omega
      have hs : (x.toList == s.toList) = Sr.same x s := rfl
      clear hx hok
      cases hB : Sr.same x s with
      | true =>
        have HF : Hid (hasB l s = true) := Lib.hid (hasB_yes (k := k) (by rw [HX.out, Sr.same_iff.1 hB]))
        rw [hB] at hs
        clear hB
        go_wp2
        go_ret
        exact ⟨by rw [HF.out]; rfl, rfl⟩
      | false =>
        have HN : Hid (x ≠ s) := Lib.hid (fun e => by rw [Sr.same_iff.2 e] at hB; cases hB)
        rw [hB] at hs
        clear hB
        go_wp2
        go_roundw
        case rel => exact ⟨k + 1, by go_num, by omega, by trivial, fun i y hi hy => by
          rcases Nat.lt_or_ge i k with h1 | h1
          · exact HE.out i y h1 hy
          · obtain rfl : i = k := by omega
            rw [HX.out] at hy; injection hy with hy; subst hy; exact HN.out⟩
        case measure => simp [intOf]; omega
    · have k1 : ¬ (k : Int) < (n : Int) := by omega
      have HF := Lib.hid (hasB_no (s := s) (l := l) fun i x hx => HE.out i x (by
        have := (List.getElem?_eq_some_iff.1 hx).1
        rw [HL.out] at this
        omega) hx)
      go_wp2
      go_ret
      exact ⟨by rw [HF.out]; rfl, rfl⟩

/-- A scope's lists are small enough to be walked. -/
def Small (l : Scp.Lay) : Prop := l.skus.n ≤ 1000000000000 ∧ l.cats.n ≤ 1000000000000

theorem rscope_any (s : Scp) (l : Scp.Lay) (w : World) (h : Scp.Holds w (· < w.heap.size) s l) (hl : Small l) :
    Calls Try.prog 39 #[.agg #[.slice l.skus.A l.skus.n l.skus.c, .slice l.cats.A l.cats.n l.cats.c]] w fun e w' => e = .returned (.bool (scopeB s)) ∧ Below w.heap.size w w' := by
  obtain ⟨⟨A1, n1, c1⟩, ⟨A2, n2, c2⟩⟩ := l
  have hd : scopeB s = (namesB s.skus 20 && namesB s.cats 20) := rfl
  have HA : Hid (∀ W, Below w.heap.size w W → Calls Try.prog 54 #[.slice A1 n1 c1, .int .i64 20] W fun e w' => e = .returned (.bool (namesB s.skus 20)) ∧ Hl.Drawn W w') := Lib.hid fun W hW =>
    rnames_any A1 n1 c1 s.skus 20 _ W (h.skus.row.below hW (Nat.le_refl _)) hl.1
  have HC : Hid (∀ W, Below w.heap.size w W → Calls Try.prog 54 #[.slice A2 n2 c2, .int .i64 20] W fun e w' => e = .returned (.bool (namesB s.cats 20)) ∧ Hl.Drawn W w') := Lib.hid fun W hW =>
    rnames_any A2 n2 c2 s.cats 20 _ W (h.cats.row.below hW (Nat.le_refl _)) hl.2
  obtain ⟨w1, hw1⟩ : ∃ w1, w.alloc (.cells #[.slice A1 n1 c1, .slice A2 n2 c2] 24) = w1 := ⟨_, rfl⟩
  have HB1 : Hid (Below w.heap.size w w1) := Lib.hid (by rw [← hw1]; exact (Below.refl _ _).alloc (Nat.le_refl _) _)
  have hx : Qu.Blk w1 w.heap.size 24 #[.slice A1 n1 c1, .slice A2 n2 c2] := by rw [← hw1]; exact Qu.Blk.new w _ _
  have x0 := hx.cell 0
  have X1 := Lib.hid (hx.cell 1)
  clear h hl hx
  cases b1 : namesB s.skus 20 with
  | false =>
    simp only [b1] at HA
    have HD : Hid (scopeB s = false) := Lib.hid (by rw [hd, b1]; rfl)
    clear hd b1 X1
    go_enter Try.func39, Try.ntmps39
    go_wp2_with fail
    refine (HA.out _ HB1.out).mono ?_
    rintro e w2 ⟨rfl, hD⟩
    have HB := Lib.hid (HB1.out.trans (hD.below _))
    clear hD
    go_wp2
    go_ret
    exact ⟨by rw [HD.out]; rfl, HB.out⟩
  | true =>
    simp only [b1] at HA
    have HD : Hid (scopeB s = namesB s.cats 20) := Lib.hid (by rw [hd, b1]; rfl)
    clear hd b1
    go_enter Try.func39, Try.ntmps39
    go_wp2_with fail
    refine (HA.out _ HB1.out).mono ?_
    rintro e w2 ⟨rfl, hD⟩
    have x1 : w2.cell? ⟨w.heap.size, 1, none⟩ = some (.slice A2 n2 c2) := by obtain ⟨d, rfl⟩ := hD; exact X1.out
    have HB := Lib.hid (HB1.out.trans (hD.below _))
    clear hD
    go_wp2_with fail
    refine (HC.out _ HB.out).mono ?_
    rintro e w3 ⟨rfl, hD⟩
    have HB3 := Lib.hid (HB.out.trans (hD.below _))
    clear hD
    obtain ⟨b, hb⟩ : ∃ b, namesB s.cats 20 = b := ⟨_, rfl⟩
    simp only [hb] at HD ⊢
    clear hb
    go_wp2
    go_ret
    exact ⟨by rw [HD.out]; rfl, HB3.out⟩

end Go.Proofs.Ytgimcleeamlgcaa.Sc
