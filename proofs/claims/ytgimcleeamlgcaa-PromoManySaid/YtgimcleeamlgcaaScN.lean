/- The landed package scope: what its lists of names are asked. -/
import Derived.Test.YtgimcleeamlgcaaScR
import Derived.Test.YtgimcleeamlgcaaGdC
set_option maxRecDepth 100000

set_option linter.unusedVariables false
namespace Go.Proofs.Ytgimcleeamlgcaa.Sc
open Go.ChangeShapes Go.WideShapes Go.ChangeAt Go.RowKit
open It (Itm kItem row_item)
open Ap (Scp kScp row_Scp)
open Kd (Row Fit Lst Sl kStr kInt kList row_str Deep But Own)

theorem wrong_any (s : ByteArray) (w : World) (hs : s.size ≤ maxLen) : Calls Try.prog 84 #[.string s] w fun e w' => e = .returned (.bool (!Sr.name s)) ∧ w' = w := by
  have HN := Lib.hid (Gd.name_any s w hs)
  obtain ⟨b, hb⟩ : ∃ b, Sr.name s = b := ⟨_, rfl⟩
  rw [hb] at HN ⊢
  clear hb hs
  go_enter Try.func84, Try.ntmps84
  go_wp2_with fail
  refine HN.out.mono ?_
  rintro e w1 ⟨rfl, rfl⟩
  go_wp2
  go_ret
  exact ⟨rfl, rfl⟩

theorem badFunc_any (A : Option Addr) (n c : Nat) (l : List ByteArray) (F : Nat → Prop) (w : World) (h : Row kStr w F A n l) (hn : n ≤ 1000000000000) :
    Calls Try.prog 88 #[.slice A n c, .func (.func 84) #[] #[]] w fun e w' => (∃ r : Int, e = .returned (.int .i64 r) ∧ ((0 ≤ r ∧ ∃ (i : Nat) (x : ByteArray), l[i]? = some x ∧ Sr.name x = false) ∨ (r = -1 ∧ ∀ (i : Nat) (x : ByteArray), l[i]? = some x → Sr.name x = true))) ∧ w' = w := by
  have hlen := h.len
  have HH := Lib.hid (And.intro h hlen)
  clear h hlen
  go_enter Try.func88, Try.ntmps88
  go_wp2
  go_loopw [8] (fun s8 wr => ∃ k : Nat, s8 = .int .i64 k ∧ k ≤ n ∧ wr = w ∧ ∀ (i : Nat) (x : ByteArray), i < k → l[i]? = some x → Sr.name x = true) (fun s8 _ => n - (intOf s8).toNat)
  case atStart => exact ⟨0, rfl, by omega, rfl, fun i x hi => by omega⟩
  case round =>
    obtain ⟨k, rfl, hk, rfl, hE⟩ := hrel
    have HE := Lib.hid hE
    clear hE
    by_cases hlt : k < n
    · obtain ⟨x, hx⟩ := HH.out.1.get hlt
      obtain ⟨g, o, rfl, _, _, hok, c0⟩ := row_str HH.out.1 hx
      have k1 : (k : Int) < (n : Int) := by omega
      have k0 : (0 : Int) ≤ (k : Int) := by omega
      have HC := Lib.hid (wrong_any x wr hok)
      have HX := Lib.hid hx
      clear hx hok
      cases hB : Sr.name x with
      | true =>
        rw [hB] at HC
        have HB := Lib.hid hB
        clear hB
        go_wp2_with fail
        refine HC.out.mono ?_
        rintro e w1 ⟨rfl, rfl⟩
        go_wp2
        go_roundw
        case rel => exact ⟨k + 1, by go_num, by omega, by trivial, fun i y hi hy => by
          rcases Nat.lt_or_ge i k with h1 | h1
          · exact HE.out i y h1 hy
          · obtain rfl : i = k := by omega
            rw [HX.out] at hy
            injection hy with hy
            subst hy
            exact HB.out⟩
        case measure => simp [intOf]; omega
      | false =>
        rw [hB] at HC
        have HB := Lib.hid hB
        clear hB
        go_wp2_with fail
        refine HC.out.mono ?_
        rintro e w1 ⟨rfl, rfl⟩
        go_wp2
        go_ret
        exact ⟨⟨k, rfl, .inl ⟨by omega, k, x, HX.out, HB.out⟩⟩, rfl⟩
    · have k1 : ¬ (k : Int) < (n : Int) := by omega
      go_wp2
      go_ret
      exact ⟨⟨-1, rfl, .inr ⟨rfl, fun i x hx => HE.out i x (by
        have := (List.getElem?_eq_some_iff.1 hx).1
        have := HH.out.2
        omega) hx⟩⟩, rfl⟩

/-- Is one of them no name? -/
theorem anyBad_any (A : Option Addr) (n c : Nat) (l : List ByteArray) (F : Nat → Prop) (w : World) (h : Row kStr w F A n l) (hn : n ≤ 1000000000000) :
    Calls Try.prog 83 #[.slice A n c, .func (.func 84) #[] #[]] w fun e w' => (∃ b : Bool, e = .returned (.bool b) ∧ (b = false ↔ ∀ (i : Nat) (x : ByteArray), l[i]? = some x → Sr.name x = true)) ∧ w' = w := by
  have HC := Lib.hid (badFunc_any A n c l F w h hn)
  clear h
  go_enter Try.func83, Try.ntmps83
  go_wp2_with fail
  refine HC.out.mono ?_
  rintro e w1 ⟨⟨r, rfl, hr⟩, rfl⟩
  rcases hr with ⟨h0, i, x, hx, hi⟩ | ⟨rfl, hA⟩
  · have HX := Lib.hid (And.intro hx hi)
    clear hx hi
    go_wp2
    go_ret
    exact ⟨⟨true, rfl, by simp; exact ⟨i, x, HX.out.1, HX.out.2⟩⟩, rfl⟩
  · have HX := Lib.hid hA
    clear hA
    go_wp2
    go_ret
    exact ⟨⟨false, rfl, by simp; exact HX.out⟩, rfl⟩

/-- Do they rise? -/
noncomputable def riseB (l : List ByteArray) : Bool := @decide (Rise l) (Classical.propDecidable _)

theorem riseB_yes {l : List ByteArray} (h : Rise l) : riseB l = true := by unfold riseB; exact @decide_eq_true _ (Classical.propDecidable _) h

theorem riseB_no {l : List ByteArray} (h : ¬ Rise l) : riseB l = false := by unfold riseB; exact @decide_eq_false _ (Classical.propDecidable _) h

theorem riseB_iff {l : List ByteArray} : riseB l = true ↔ Rise l := by
  constructor
  · intro h
    by_cases k : Rise l
    · exact k
    · rw [riseB_no k] at h; cases h
  · exact riseB_yes

set_option maxHeartbeats 1000000 in
theorem rise_any (A : Option Addr) (n c : Nat) (l : List ByteArray) (F : Nat → Prop) (w : World) (h : Row kStr w F A n l) (hn : n ≤ 1000000000000) :
    Calls Try.prog 82 #[.slice A n c] w fun e w' => e = .returned (.bool (riseB l)) ∧ Hl.Drawn w w' := by
  have hlen := h.len
  have HH := Lib.hid h
  have HL := Lib.hid hlen
  clear h hlen
  go_enter Try.func82, Try.ntmps82
  go_wp2
  go_loopw [3] (fun s3 wr => ∃ k : Nat, s3 = .int .i64 k ∧ 1 ≤ k ∧ (k ≤ n ∨ (n = 0 ∧ k = 1)) ∧ Hl.Drawn w wr ∧ ∀ (i : Nat) (a b : ByteArray), i + 1 < k → l[i]? = some a → l[i + 1]? = some b → Sr.lt a b = true) (fun s3 _ => n - (intOf s3).toNat)
  case atStart => exact ⟨1, rfl, by omega, by omega, ⟨0, rfl⟩, fun i a b hi => by omega⟩
  case round =>
    obtain ⟨k, rfl, hk1, hk2, hD, hR⟩ := hrel
    have HR := Lib.hid hR
    clear hR
    by_cases hlt : k < n
    · obtain ⟨x, hx⟩ := HH.out.get hlt
      obtain ⟨y, hy⟩ := HH.out.get (k := k - 1) (by omega)
      obtain ⟨g, o, rfl, _, _, _, a1⟩ := row_str HH.out hx
      obtain ⟨g', o', hA, _, _, _, b1⟩ := row_str HH.out hy
      injection hA with hA
      injection hA with hA1 hA2
      subst hA1 hA2
      have c1 : wr.cell? ⟨g, o + k, none⟩ = some (.string x) := by obtain ⟨d, rfl⟩ := hD; exact a1
      have c2 : wr.cell? ⟨g, o + (k - 1), none⟩ = some (.string y) := by obtain ⟨d, rfl⟩ := hD; exact b1
      have HD := Lib.hid hD
      have HX := Lib.hid (And.intro hx hy)
      have k0 : (0 : Int) ≤ (k : Int) - 1 := by omega
      have k1 : (k : Int) < (n : Int) := by omega
      have k2 : (k : Int) - 1 < (n : Int) := by omega
      have k3 : ((k : Int) - 1).toNat = k - 1 := by omega
      have hle := fun W => leq_str x y W
      clear a1 b1 hD hx hy hlt
      cases hB : Sr.lt y x with
      | true =>
        simp only [hB] at hle
        have HB := Lib.hid hB
        clear hB
        go_wp2_with fail
        go_quiet (fail)
        go_wp2
        go_roundw
        case rel => exact ⟨k + 1, by go_num, by omega, by omega, HD.out.more _, fun i a b hi ha hb => by
          rcases Nat.lt_or_ge (i + 1) k with h1 | h1
          · exact HR.out i a b h1 ha hb
          · obtain rfl : k = i + 1 := by omega
            rw [HX.out.1] at hb
            rw [show i + 1 - 1 = i by omega] at HX
            rw [HX.out.2] at ha
            injection ha with ha
            injection hb with hb
            subst ha hb
            exact HB.out⟩
        case measure => simp [intOf]; omega
      | false =>
        simp only [hB] at hle
        have HO : Hid (riseB l = false) := Lib.hid (riseB_no fun hr => by
          have h1 := hr (k - 1) y x HX.out.2 (by rw [show k - 1 + 1 = k by omega]; exact HX.out.1)
          rw [hB] at h1
          cases h1)
        clear hB
        go_wp2_with fail
        go_quiet (fail)
        go_wp2
        go_ret
        exact ⟨by rw [HO.out]; rfl, HD.out.more _⟩
    · have k1 : ¬ (k : Int) < (n : Int) := by omega
      have HO : Hid (riseB l = true) := Lib.hid (riseB_yes fun i a b ha hb => by
        have h1 := (List.getElem?_eq_some_iff.1 hb).1
        rw [HL.out] at h1
        exact HR.out i a b (by omega) ha hb)
      have HD := Lib.hid hD
      clear hD
      go_wp2
      go_ret
      exact ⟨by rw [HO.out]; rfl, HD.out⟩

theorem names_told {l : List ByteArray} {m : Int} (h5 : (l.length : Int) ≤ m) (hr : riseB l = true) {b : Bool} (hb : b = false ↔ ∀ (i : Nat) (x : ByteArray), l[i]? = some x → Sr.name x = true) : namesB l m = !b := by
  cases b with
  | false => exact namesB_yes ⟨h5, hb.1 rfl, riseB_iff.1 hr⟩
  | true => exact namesB_no fun h => by cases hb.2 h.each

set_option maxHeartbeats 1000000 in
theorem right_any (A : Option Addr) (n c : Nat) (l : List ByteArray) (F : Nat → Prop) (w : World) (h : Row kStr w F A n l) (hn : n ≤ 1000000000000) :
    Calls Try.prog 76 #[.slice A n c] w fun e w' => e = .returned (.bool (namesB l 20)) ∧ Hl.Drawn w w' := by
  have HL := Lib.hid h.len
  by_cases h5 : n ≤ 20
  · have d5 : (n : Int) ≤ 20 := by omega
    have HR := Lib.hid (rise_any A n c l F w h hn)
    have HC := Lib.hid (fun w1 (hD : Hl.Drawn w w1) => anyBad_any A n c l F w1 (by obtain ⟨d, rfl⟩ := hD; exact h.drewN d) hn)
    clear h
    cases hB : riseB l with
    | true =>
      rw [hB] at HR
      have HB := Lib.hid hB
      clear hB
      go_enter Try.func76, Try.ntmps76
      go_wp2_with fail
      refine HR.out.mono ?_
      rintro e w1 ⟨rfl, hD⟩
      have HD := Lib.hid hD
      clear hD
      go_wp2_with fail
      refine (HC.out _ HD.out).mono ?_
      rintro e w2 ⟨⟨b, rfl, hb⟩, rfl⟩
      have HG : Hid (namesB l 20 = !b) := Lib.hid (names_told (by rw [HL.out]; omega) HB.out hb)
      clear hb
      go_wp2
      go_ret
      exact ⟨by rw [HG.out]; rfl, HD.out⟩
    | false =>
      rw [hB] at HR
      have HG : Hid (namesB l 20 = false) := Lib.hid (namesB_no fun hg => by
        rw [riseB_yes hg.rise] at hB
        cases hB)
      clear hB
      go_enter Try.func76, Try.ntmps76
      go_wp2_with fail
      refine HR.out.mono ?_
      rintro e w1 ⟨rfl, hD⟩
      have HD := Lib.hid hD
      clear hD
      go_wp2
      go_ret
      exact ⟨by rw [HG.out]; rfl, HD.out⟩
  · have d5 : ¬ (n : Int) ≤ 20 := by omega
    have HG : Hid (namesB l 20 = false) := Lib.hid (namesB_no fun hg => by have := hg.few; rw [HL.out] at this; omega)
    clear h
    go_enter Try.func76, Try.ntmps76
    go_wp2
    go_ret
    exact ⟨by rw [HG.out]; rfl, ⟨0, rfl⟩⟩

theorem Right_any (s : Scp) (l : Scp.Lay) (w : World) (h : Scp.Holds w (· < w.heap.size) s l) (hl : Small l) :
    Calls Try.prog 62 #[.agg #[.slice l.skus.A l.skus.n l.skus.c, .slice l.cats.A l.cats.n l.cats.c]] w fun e w' => e = .returned (.bool (scopeB s)) ∧ Below w.heap.size w w' := by
  obtain ⟨⟨A1, n1, c1⟩, ⟨A2, n2, c2⟩⟩ := l
  have hd : scopeB s = (namesB s.skus 20 && namesB s.cats 20) := rfl
  have HA : Hid (∀ W, Below w.heap.size w W → Calls Try.prog 76 #[.slice A1 n1 c1] W fun e w' => e = .returned (.bool (namesB s.skus 20)) ∧ Hl.Drawn W w') := Lib.hid fun W hW =>
    right_any A1 n1 c1 s.skus _ W (h.skus.row.below hW (Nat.le_refl _)) hl.1
  have HC : Hid (∀ W, Below w.heap.size w W → Calls Try.prog 76 #[.slice A2 n2 c2] W fun e w' => e = .returned (.bool (namesB s.cats 20)) ∧ Hl.Drawn W w') := Lib.hid fun W hW =>
    right_any A2 n2 c2 s.cats _ W (h.cats.row.below hW (Nat.le_refl _)) hl.2
  obtain ⟨w1, hw1⟩ : ∃ w1, w.alloc (.cells #[.slice A1 n1 c1, .slice A2 n2 c2] 24) = w1 := ⟨_, rfl⟩
  have HB1 : Hid (Below w.heap.size w w1) := Lib.hid (by rw [← hw1]; exact (Below.refl _ _).alloc (Nat.le_refl _) _)
  have hx : Qu.Blk w1 w.heap.size 24 #[.slice A1 n1 c1, .slice A2 n2 c2] := by rw [← hw1]; exact Qu.Blk.new w _ _
  have x0 := hx.cell 0
  have X1 := Lib.hid (hx.cell 1)
  clear h hl hx
  cases b1 : namesB s.skus 20 with
  | false =>
    simp only [b1] at HA
    have HD : Hid (scopeB s = false) := Lib.hid (by rw [hd, b1]; rfl)
    clear hd b1 X1
    go_enter Try.func62, Try.ntmps62
    go_wp2_with fail
    refine (HA.out _ HB1.out).mono ?_
    rintro e w2 ⟨rfl, hD⟩
    have HB := Lib.hid (HB1.out.trans (hD.below _))
    clear hD
    go_wp2
    go_ret
    exact ⟨by rw [HD.out]; rfl, HB.out⟩
  | true =>
    simp only [b1] at HA
    have HD : Hid (scopeB s = namesB s.cats 20) := Lib.hid (by rw [hd, b1]; rfl)
    clear hd b1
    go_enter Try.func62, Try.ntmps62
    go_wp2_with fail
    refine (HA.out _ HB1.out).mono ?_
    rintro e w2 ⟨rfl, hD⟩
    have x1 : w2.cell? ⟨w.heap.size, 1, none⟩ = some (.slice A2 n2 c2) := by obtain ⟨d, rfl⟩ := hD; exact X1.out
    have HB := Lib.hid (HB1.out.trans (hD.below _))
    clear hD
    go_wp2_with fail
    refine (HC.out _ HB.out).mono ?_
    rintro e w3 ⟨rfl, hD⟩
    have HB3 := Lib.hid (HB.out.trans (hD.below _))
    clear hD
    obtain ⟨b, hb⟩ : ∃ b, namesB s.cats 20 = b := ⟨_, rfl⟩
    simp only [hb] at HD ⊢
    clear hb
    go_wp2
    go_ret
    exact ⟨by rw [HD.out]; rfl, HB3.out⟩

end Go.Proofs.Ytgimcleeamlgcaa.Sc
