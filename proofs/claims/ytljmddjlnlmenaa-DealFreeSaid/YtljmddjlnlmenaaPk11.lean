/- The landed package scope: what its lists of names are asked. · The landed partsRight and tiersRight. -/
import Derived.Test.YtljmddjlnlmenaaPk10

section
set_option maxRecDepth 100000
set_option linter.unusedVariables false
namespace Go.Proofs.Ytljmddjlnlmenaa.Sc
open Go.ChangeShapes Go.WideShapes Go.ChangeAt Go.RowKit
open It (Itm kItem row_item)
open Ap (Scp kScp row_Scp)
open Kd (Row Fit Lst Sl kStr kInt kList row_str Deep But Own)
theorem wrong_any (s : ByteArray) (w : World) (hs : s.size ≤ maxLen) : Calls Try.prog 81 #[.string s] w fun e w' => e = .returned (.bool (!Sr.name s)) ∧ w' = w := by
  have HN := Lib.hid (Gd.name_any s w hs)
  obtain ⟨b, hb⟩ : ∃ b, Sr.name s = b := ⟨_, rfl⟩
  rw [hb] at HN ⊢
  clear hb hs
  go_enter Try.func81, Try.ntmps81
  go_wp2_with fail
  refine HN.out.mono ?_
  rintro e w1 ⟨rfl, rfl⟩
  go_wp2
  go_ret
  exact ⟨rfl, rfl⟩
theorem badFunc_any (A : Option Addr) (n c : Nat) (l : List ByteArray) (F : Nat → Prop) (w : World) (h : Row kStr w F A n l) (hn : n ≤ 9223372036854775807) :
    Calls Try.prog 90 #[.slice A n c, .func (.func 81) #[] #[]] w fun e w' => (∃ r : Int, e = .returned (.int .i64 r) ∧ ((0 ≤ r ∧ ∃ (i : Nat) (x : ByteArray), l[i]? = some x ∧ Sr.name x = false) ∨ (r = -1 ∧ ∀ (i : Nat) (x : ByteArray), l[i]? = some x → Sr.name x = true))) ∧ w' = w := by
  have hlen := h.len
  have HH := Lib.hid (And.intro h hlen)
  clear h hlen
  go_enter Try.func90, Try.ntmps90
  go_wp2
  go_loopw [8] (fun s8 wr => ∃ k : Nat, s8 = .int .i64 k ∧ k ≤ n ∧ wr = w ∧ ∀ (i : Nat) (x : ByteArray), i < k → l[i]? = some x → Sr.name x = true) (fun s8 _ => n - (intOf s8).toNat)
  case atStart => exact ⟨0, rfl, by omega, rfl, fun i x hi => by omega⟩
  case round =>
    obtain ⟨k, rfl, hk, rfl, hE⟩ := hrel
    have HE := Lib.hid hE
    clear hE
    by_cases hlt : k < n
    · obtain ⟨x, hx⟩ := HH.out.1.get hlt
      obtain ⟨g, o, rfl, _, _, hok, c0⟩ := row_str HH.out.1 hx
      have k1 : (k : Int) < (n : Int) := by omega
      have k0 : (0 : Int) ≤ (k : Int) := by omega
      have HC := Lib.hid (wrong_any x wr hok)
      have HX := Lib.hid hx
      clear hx hok
      cases hB : Sr.name x with
      | true =>
        rw [hB] at HC
        have HB := Lib.hid hB
        clear hB
        go_wp2_with fail
        refine HC.out.mono ?_
        rintro e w1 ⟨rfl, rfl⟩
        go_wp2
        go_roundw
        case rel => exact ⟨k + 1, by go_num, by omega, by trivial, fun i y hi hy => by
          rcases Nat.lt_or_ge i k with h1 | h1
          · exact HE.out i y h1 hy
          · obtain rfl : i = k := by omega
            rw [HX.out] at hy
            injection hy with hy
            subst hy
            exact HB.out⟩
        case measure => simp [intOf]; omega
      | false =>
        rw [hB] at HC
        have HB := Lib.hid hB
        clear hB
        go_wp2_with fail
        refine HC.out.mono ?_
        rintro e w1 ⟨rfl, rfl⟩
        go_wp2
        go_ret
        exact ⟨⟨k, rfl, .inl ⟨by omega, k, x, HX.out, HB.out⟩⟩, rfl⟩
    · have k1 : ¬ (k : Int) < (n : Int) := by omega
      go_wp2
      go_ret
      exact ⟨⟨-1, rfl, .inr ⟨rfl, fun i x hx => HE.out i x (by
        have := (List.getElem?_eq_some_iff.1 hx).1
        have := HH.out.2
        omega) hx⟩⟩, rfl⟩
theorem anyBad_any (A : Option Addr) (n c : Nat) (l : List ByteArray) (F : Nat → Prop) (w : World) (h : Row kStr w F A n l) (hn : n ≤ 9223372036854775807) :
    Calls Try.prog 80 #[.slice A n c, .func (.func 81) #[] #[]] w fun e w' => (∃ b : Bool, e = .returned (.bool b) ∧ (b = false ↔ ∀ (i : Nat) (x : ByteArray), l[i]? = some x → Sr.name x = true)) ∧ w' = w := by
  have HC := Lib.hid (badFunc_any A n c l F w h hn)
  clear h
  go_enter Try.func80, Try.ntmps80
  go_wp2_with fail
  refine HC.out.mono ?_
  rintro e w1 ⟨⟨r, rfl, hr⟩, rfl⟩
  rcases hr with ⟨h0, i, x, hx, hi⟩ | ⟨rfl, hA⟩
  · have HX := Lib.hid (And.intro hx hi)
    clear hx hi
    go_wp2
    go_ret
    exact ⟨⟨true, rfl, by simp; exact ⟨i, x, HX.out.1, HX.out.2⟩⟩, rfl⟩
  · have HX := Lib.hid hA
    clear hA
    go_wp2
    go_ret
    exact ⟨⟨false, rfl, by simp; exact HX.out⟩, rfl⟩
noncomputable def riseB (l : List ByteArray) : Bool := @decide (Rise l) (Classical.propDecidable _)
theorem riseB_yes {l : List ByteArray} (h : Rise l) : riseB l = true := by unfold riseB; exact @decide_eq_true _ (Classical.propDecidable _) h
theorem riseB_no {l : List ByteArray} (h : ¬ Rise l) : riseB l = false := by unfold riseB; exact @decide_eq_false _ (Classical.propDecidable _) h
theorem riseB_iff {l : List ByteArray} : riseB l = true ↔ Rise l := by
  constructor
  · intro h
    by_cases k : Rise l
    · exact k
    · rw [riseB_no k] at h; cases h
  · exact riseB_yes
set_option maxHeartbeats 1000000 in
theorem rise_any (A : Option Addr) (n c : Nat) (l : List ByteArray) (F : Nat → Prop) (w : World) (h : Row kStr w F A n l) (hn : n ≤ 9223372036854775807) :
    Calls Try.prog 79 #[.slice A n c] w fun e w' => e = .returned (.bool (riseB l)) ∧ Hl.Drawn w w' := by
  have hlen := h.len
  have HH := Lib.hid h
  have HL := Lib.hid hlen
  clear h hlen
  go_enter Try.func79, Try.ntmps79
  go_wp2
  go_loopw [3] (fun s3 wr => ∃ k : Nat, s3 = .int .i64 k ∧ 1 ≤ k ∧ (k ≤ n ∨ (n = 0 ∧ k = 1)) ∧ Hl.Drawn w wr ∧ ∀ (i : Nat) (a b : ByteArray), i + 1 < k → l[i]? = some a → l[i + 1]? = some b → Sr.lt a b = true) (fun s3 _ => n - (intOf s3).toNat)
  case atStart => exact ⟨1, rfl, by omega, by omega, ⟨0, rfl⟩, fun i a b hi => by omega⟩
  case round =>
    obtain ⟨k, rfl, hk1, hk2, hD, hR⟩ := hrel
    have HR := Lib.hid hR
    clear hR
    by_cases hlt : k < n
    · obtain ⟨x, hx⟩ := HH.out.get hlt
      obtain ⟨y, hy⟩ := HH.out.get (k := k - 1) (by omega)
      obtain ⟨g, o, rfl, _, _, _, a1⟩ := row_str HH.out hx
      obtain ⟨g', o', hA, _, _, _, b1⟩ := row_str HH.out hy
      injection hA with hA
      injection hA with hA1 hA2
      subst hA1 hA2
      have c1 : wr.cell? ⟨g, o + k, none⟩ = some (.string x) := by obtain ⟨d, rfl⟩ := hD; exact a1
      have c2 : wr.cell? ⟨g, o + (k - 1), none⟩ = some (.string y) := by obtain ⟨d, rfl⟩ := hD; exact b1
      have HD := Lib.hid hD
      have HX := Lib.hid (And.intro hx hy)
      have k0 : (0 : Int) ≤ (k : Int) - 1 := by omega
      have k1 : (k : Int) < (n : Int) := by omega
      have k2 : (k : Int) - 1 < (n : Int) := by omega
      have k3 : ((k : Int) - 1).toNat = k - 1 := by omega
      have hle := fun W => leq_str x y W
      clear a1 b1 hD hx hy hlt
      cases hB : Sr.lt y x with
      | true =>
        simp only [hB] at hle
        have HB := Lib.hid hB
        clear hB
        go_wp2_with fail
        go_quiet (fail)
        go_wp2
        go_roundw
        case rel => exact ⟨k + 1, by go_num, by omega, by omega, HD.out.more _, fun i a b hi ha hb => by
          rcases Nat.lt_or_ge (i + 1) k with h1 | h1
          · exact HR.out i a b h1 ha hb
          · obtain rfl : k = i + 1 := by omega
            rw [HX.out.1] at hb
            rw [show i + 1 - 1 = i by omega] at HX
            rw [HX.out.2] at ha
            injection ha with ha
            injection hb with hb
            subst ha hb
            exact HB.out⟩
        case measure => simp [intOf]; omega
      | false =>
        simp only [hB] at hle
        have HO : Hid (riseB l = false) := Lib.hid (riseB_no fun hr => by
          have h1 := hr (k - 1) y x HX.out.2 (by rw [show k - 1 + 1 = k by omega]; exact HX.out.1)
          rw [hB] at h1
          cases h1)
        clear hB
        go_wp2_with fail
        go_quiet (fail)
        go_wp2
        go_ret
        exact ⟨by rw [HO.out]; rfl, HD.out.more _⟩
    · have k1 : ¬ (k : Int) < (n : Int) := by omega
      have HO : Hid (riseB l = true) := Lib.hid (riseB_yes fun i a b ha hb => by
        have h1 := (List.getElem?_eq_some_iff.1 hb).1
        rw [HL.out] at h1
        exact HR.out i a b (by omega) ha hb)
      have HD := Lib.hid hD
      clear hD
      go_wp2
      go_ret
      exact ⟨by rw [HO.out]; rfl, HD.out⟩
theorem names_told {l : List ByteArray} {m : Int} (h5 : (l.length : Int) ≤ m) (hr : riseB l = true) {b : Bool} (hb : b = false ↔ ∀ (i : Nat) (x : ByteArray), l[i]? = some x → Sr.name x = true) : namesB l m = !b := by
  cases b with
  | false => exact namesB_yes ⟨h5, hb.1 rfl, riseB_iff.1 hr⟩
  | true => exact namesB_no fun h => by cases hb.2 h.each
set_option maxHeartbeats 1000000 in
theorem right_any (A : Option Addr) (n c : Nat) (l : List ByteArray) (F : Nat → Prop) (w : World) (h : Row kStr w F A n l) (hn : n ≤ 9223372036854775807) :
    Calls Try.prog 57 #[.slice A n c] w fun e w' => e = .returned (.bool (namesB l 20)) ∧ Hl.Drawn w w' := by
  have HL := Lib.hid h.len
  by_cases h5 : n ≤ 20
  · have d5 : (n : Int) ≤ 20 := by omega
    have HR := Lib.hid (rise_any A n c l F w h hn)
    have HC := Lib.hid (fun w1 (hD : Hl.Drawn w w1) => anyBad_any A n c l F w1 (by obtain ⟨d, rfl⟩ := hD; exact h.drewN d) hn)
    clear h
    cases hB : riseB l with
    | true =>
      rw [hB] at HR
      have HB := Lib.hid hB
      clear hB
      go_enter Try.func57, Try.ntmps57
      go_wp2_with fail
      refine HR.out.mono ?_
      rintro e w1 ⟨rfl, hD⟩
      have HD := Lib.hid hD
      clear hD
      go_wp2_with fail
      refine (HC.out _ HD.out).mono ?_
      rintro e w2 ⟨⟨b, rfl, hb⟩, rfl⟩
      have HG : Hid (namesB l 20 = !b) := Lib.hid (names_told (by rw [HL.out]; omega) HB.out hb)
      clear hb
      go_wp2
      go_ret
      exact ⟨by rw [HG.out]; rfl, HD.out⟩
    | false =>
      rw [hB] at HR
      have HG : Hid (namesB l 20 = false) := Lib.hid (namesB_no fun hg => by
        rw [riseB_yes hg.rise] at hB
        cases hB)
      clear hB
      go_enter Try.func57, Try.ntmps57
      go_wp2_with fail
      refine HR.out.mono ?_
      rintro e w1 ⟨rfl, hD⟩
      have HD := Lib.hid hD
      clear hD
      go_wp2
      go_ret
      exact ⟨by rw [HG.out]; rfl, HD.out⟩
  · have d5 : ¬ (n : Int) ≤ 20 := by omega
    have HG : Hid (namesB l 20 = false) := Lib.hid (namesB_no fun hg => by have := hg.few; rw [HL.out] at this; omega)
    clear h
    go_enter Try.func57, Try.ntmps57
    go_wp2
    go_ret
    exact ⟨by rw [HG.out]; rfl, ⟨0, rfl⟩⟩
theorem Right_any (s : Scp) (l : Scp.Lay) (w : World) (h : Scp.Holds w (· < w.heap.size) s l) (hl : Small l) :
    Calls Try.prog 44 #[.agg #[.slice l.skus.A l.skus.n l.skus.c, .slice l.cats.A l.cats.n l.cats.c]] w fun e w' => e = .returned (.bool (scopeB s)) ∧ Below w.heap.size w w' := by
  obtain ⟨⟨A1, n1, c1⟩, ⟨A2, n2, c2⟩⟩ := l
  have hd : scopeB s = (namesB s.skus 20 && namesB s.cats 20) := rfl
  have HA : Hid (∀ W, Below w.heap.size w W → Calls Try.prog 57 #[.slice A1 n1 c1] W fun e w' => e = .returned (.bool (namesB s.skus 20)) ∧ Hl.Drawn W w') := Lib.hid fun W hW =>
    right_any A1 n1 c1 s.skus _ W (h.skus.row.below hW (Nat.le_refl _)) hl.1
  have HC : Hid (∀ W, Below w.heap.size w W → Calls Try.prog 57 #[.slice A2 n2 c2] W fun e w' => e = .returned (.bool (namesB s.cats 20)) ∧ Hl.Drawn W w') := Lib.hid fun W hW =>
    right_any A2 n2 c2 s.cats _ W (h.cats.row.below hW (Nat.le_refl _)) hl.2
  obtain ⟨w1, hw1⟩ : ∃ w1, w.alloc (.cells #[.slice A1 n1 c1, .slice A2 n2 c2] 26) = w1 := ⟨_, rfl⟩
  have HB1 : Hid (Below w.heap.size w w1) := Lib.hid (by rw [← hw1]; exact (Below.refl _ _).alloc (Nat.le_refl _) _)
  have hx : Qu.Blk w1 w.heap.size 26 #[.slice A1 n1 c1, .slice A2 n2 c2] := by rw [← hw1]; exact Qu.Blk.new w _ _
  have x0 := hx.cell 0
  have X1 := Lib.hid (hx.cell 1)
  clear h hl hx
  cases b1 : namesB s.skus 20 with
  | false =>
    simp only [b1] at HA
    have HD : Hid (scopeB s = false) := Lib.hid (by rw [hd, b1]; rfl)
    clear hd b1 X1
    go_enter Try.func44, Try.ntmps44
    go_wp2_with fail
    refine (HA.out _ HB1.out).mono ?_
    rintro e w2 ⟨rfl, hD⟩
    have HB := Lib.hid (HB1.out.trans (hD.below _))
    clear hD
    go_wp2
    go_ret
    exact ⟨by rw [HD.out]; rfl, HB.out⟩
  | true =>
    simp only [b1] at HA
    have HD : Hid (scopeB s = namesB s.cats 20) := Lib.hid (by rw [hd, b1]; rfl)
    clear hd b1
    go_enter Try.func44, Try.ntmps44
    go_wp2_with fail
    refine (HA.out _ HB1.out).mono ?_
    rintro e w2 ⟨rfl, hD⟩
    have x1 : w2.cell? ⟨w.heap.size, 1, none⟩ = some (.slice A2 n2 c2) := by obtain ⟨d, rfl⟩ := hD; exact X1.out
    have HB := Lib.hid (HB1.out.trans (hD.below _))
    clear hD
    go_wp2_with fail
    refine (HC.out _ HB.out).mono ?_
    rintro e w3 ⟨rfl, hD⟩
    have HB3 := Lib.hid (HB.out.trans (hD.below _))
    clear hD
    obtain ⟨b, hb⟩ : ∃ b, namesB s.cats 20 = b := ⟨_, rfl⟩
    simp only [hb] at HD ⊢
    clear hb
    go_wp2
    go_ret
    exact ⟨by rw [HD.out]; rfl, HB3.out⟩
end Go.Proofs.Ytljmddjlnlmenaa.Sc

end

section
set_option maxRecDepth 100000
set_option linter.unusedVariables false
namespace Go.Proofs.Ytljmddjlnlmenaa.Pm
open Go.ChangeShapes Go.WideShapes Go.ChangeAt Go.RowKit
open Ap (Scp Prt Tir Prm kPrt kTir row_Prt row_Tir)
open Kd (Row Lst)
open Pr (partB partsB partsB_no partsB_end PartsSmall tierB tiersB TUp tier_bad tier_step tiersB_no inB)
/-! ### Tiers -/
def Lead (l : List Tir) (k : Nat) (y : Int) : Prop := (k = 0 ∧ y = 0) ∨ ∃ t, 0 < k ∧ l[k - 1]? = some t ∧ y = t.least + 1 ∧ 0 ≤ t.least ∧ t.least ≤ 10000000000000
theorem lead_bounds {l : List Tir} {k : Nat} {y : Int} (h : Lead l k y) : 0 ≤ y ∧ y ≤ 10000000000001 := by
  rcases h with ⟨_, rfl⟩ | ⟨t, _, _, rfl, h1, h2⟩ <;> omega
theorem inB_eq (x m : Int) : inB x m = inR x 0 m := rfl
theorem tier_eq (t : Tir) : tierB t = (inB t.least 10000000000000 && takesB t) := by
  unfold tierB takesB
  rw [inB_eq t.rate, inB_eq t.amount]
  cases h1 : inR t.rate 0 10000 with
  | false => cases inB t.least 10000000000000 <;> rfl
  | true =>
    cases h2 : inR t.amount 0 10000000000000 with
    | false => cases inB t.least 10000000000000 <;> rfl
    | true =>
      have g1 : 0 ≤ t.rate := by unfold inR at h1; simp at h1; exact h1.1
      have g2 : 0 ≤ t.amount := by unfold inR at h2; simp at h2; exact h2.1
      have e : (!(t.rate == 0 && t.amount == 0)) = (decide (0 < t.rate) || decide (0 < t.amount)) := by
        by_cases e1 : t.rate = 0
        · by_cases e2 : t.amount = 0
          · rw [e1, e2]; rfl
          · rw [beq_eq_false_iff_ne.2 e2, decide_eq_true (p := 0 < t.amount) (by omega)]; simp
        · rw [beq_eq_false_iff_ne.2 e1, decide_eq_true (p := 0 < t.rate) (by omega)]; simp
      rw [e]
      simp
structure Steps (w wr : World) (l : List Tir) (k : Nat) (y : Int) : Prop where
  up : TUp l k
  lead : Lead l k y
  below : Below w.heap.size w wr
theorem Steps.bad {w wr : World} {l : List Tir} {k : Nat} {y : Int} {t : Tir} (h : Steps w wr l k y) (ht : l[k]? = some t) (hb : inR t.least y 10000000000000 = false) : tiersB l = false := by
  by_cases h1 : inB t.least 10000000000000 = true
  · have g := h1
    unfold inB at g
    simp only [Bool.and_eq_true, decide_eq_true_eq] at g
    rcases h.lead with ⟨_, rfl⟩ | ⟨u, hk, hu, rfl, _, _⟩
    · rw [inB_eq] at h1
      rw [h1] at hb; cases hb
    · refine tier_step ht hu hk ?_
      by_cases h2 : u.least + 1 ≤ t.least
      · rw [inR_yes h2 g.2] at hb; cases hb
      · omega
  · refine tier_bad ht ?_
    rw [tier_eq]
    simp [h1]
theorem Steps.next {w wr w' : World} {l : List Tir} {k : Nat} {y : Int} {t : Tir} (h : Steps w wr l k y) (ht : l[k]? = some t) (hb : inR t.least y 10000000000000 = true) (hk : takesB t = true) (hw : Below w.heap.size w w') : Steps w w' l (k + 1) (t.least + 1) := by
  have g := hb
  unfold inR at g
  simp only [Bool.and_eq_true, decide_eq_true_eq] at g
  have hy := lead_bounds h.lead
  refine ⟨h.up.next ht ?_ fun b hk0 hb2 => ?_, .inr ⟨t, by omega, by rw [show k + 1 - 1 = k by omega]; exact ht, rfl, by omega, g.2⟩, hw⟩
  · rw [tier_eq, hk, inB_eq, inR_yes (by omega) g.2]; rfl
  · rcases h.lead with ⟨h0, _⟩ | ⟨u, _, hu, he, _, _⟩
    · omega
    · rw [hu] at hb2; injection hb2 with hb2; subst hb2
      omega
set_option maxHeartbeats 4000000 in
theorem tiers_any (p : Prm) (l : Prm.Lay) (w : World) (h : Row kTir w (· < w.heap.size) l.tiers.A l.tiers.n p.tiers) :
    Calls Try.prog 26 #[.agg #[.string p.id, .int .i64 p.kind, .int .i64 p.priority, .string p.group, .string p.code, .bool p.closes, .slice l.scope.skus.A l.scope.skus.n l.scope.skus.c, .slice l.scope.cats.A l.scope.cats.n l.scope.cats.c, .int .i64 p.least, .int .i64 p.rate, .int .i64 p.amount, .int .i64 p.buy, .int .i64 p.get, .slice l.parts.A l.parts.n l.parts.c, .slice l.tiers.A l.tiers.n l.tiers.c]] w fun e w' => e = .returned (.bool (tiersB p.tiers)) ∧ Below w.heap.size w w' := by
  obtain ⟨w1, hw1⟩ : ∃ w1, w.alloc (.cells #[.string p.id, .int .i64 p.kind, .int .i64 p.priority, .string p.group, .string p.code, .bool p.closes, .slice l.scope.skus.A l.scope.skus.n l.scope.skus.c, .slice l.scope.cats.A l.scope.cats.n l.scope.cats.c, .int .i64 p.least, .int .i64 p.rate, .int .i64 p.amount, .int .i64 p.buy, .int .i64 p.get, .slice l.parts.A l.parts.n l.parts.c, .slice l.tiers.A l.tiers.n l.tiers.c] 66) = w1 := ⟨_, rfl⟩
  have hx : Qu.Blk w1 w.heap.size 66 #[.string p.id, .int .i64 p.kind, .int .i64 p.priority, .string p.group, .string p.code, .bool p.closes, .slice l.scope.skus.A l.scope.skus.n l.scope.skus.c, .slice l.scope.cats.A l.scope.cats.n l.scope.cats.c, .int .i64 p.least, .int .i64 p.rate, .int .i64 p.amount, .int .i64 p.buy, .int .i64 p.get, .slice l.parts.A l.parts.n l.parts.c, .slice l.tiers.A l.tiers.n l.tiers.c] := by rw [← hw1]; exact Qu.Blk.new w _ _
  have hb1 : Below w.heap.size w w1 := by rw [← hw1]; exact (Below.refl _ _).alloc (Nat.le_refl _) _
  have x13 := hx.cell 14
  have HB := Lib.hid hb1
  have hlen := h.len
  have HR := Lib.hid h
  obtain ⟨n, hn⟩ : ∃ n, l.tiers.n = n := ⟨_, rfl⟩
  rw [hn] at HR hlen
  have HL := Lib.hid hlen
  simp only [hn] at hw1 x13 ⊢
  clear hx hb1 h hlen hn
  by_cases c1 : n < 1
  · have d1 : (n : Int) < 1 := by omega
    have HG : Hid (tiersB p.tiers = false) := Lib.hid (tiersB_no fun g => by have := g.some_; have := HL.out; omega)
    go_enter Try.func26, Try.ntmps26
    go_wp2
    go_ret
    exact ⟨by rw [HG.out]; rfl, HB.out⟩
  · have d1 : ¬ (n : Int) < 1 := by omega
    by_cases c2 : 6 < n
    · have d2 : (6 : Int) < (n : Int) := by omega
      have HG : Hid (tiersB p.tiers = false) := Lib.hid (tiersB_no fun g => by have := g.few; have := HL.out; omega)
      go_enter Try.func26, Try.ntmps26
      go_wp2
      go_ret
      exact ⟨by rw [HG.out]; rfl, HB.out⟩
    · have d2 : ¬ (6 : Int) < (n : Int) := by omega
      have HS0 : Hid (Steps w w1 p.tiers 0 0) := Lib.hid ⟨⟨fun i t hi => by omega, fun i a b hi => by omega⟩, .inl ⟨rfl, rfl⟩, HB.out⟩
      go_enter Try.func26, Try.ntmps26
      go_wp2
      go_loopw [3, 19] (fun s3 s19 wr => ∃ (k : Nat) (y : Int), s19 = .int .i64 k ∧ s3 = .int .i64 y ∧ k ≤ n ∧ Hid (Steps w wr p.tiers k y)) (fun _ s19 _ => n - (intOf s19).toNat)
      case atStart => exact ⟨0, 0, rfl, rfl, by omega, HS0⟩
      case round =>
        clear HS0 x13 hw1
        obtain ⟨k, y, rfl, rfl, hk, hS⟩ := hrel
        have k0 : (0 : Int) ≤ (k : Int) := by omega
        by_cases hlt : k < n
        · have k1 : (k : Int) < (n : Int) := by omega
          obtain ⟨t, ht⟩ := HR.out.get hlt
          obtain ⟨g, o, he, _, hg, hok, a0, a1, a2⟩ := row_Tir (HR.out.below hS.out.below (Nat.le_refl _)) ht
          simp only [he]
          obtain ⟨W1, hW1⟩ : ∃ W1, wr.alloc (.cells #[.int .i64 t.least, .int .i64 t.rate, .int .i64 t.amount] 92) = W1 := ⟨_, rfl⟩
          have hbb : Below wr.heap.size wr W1 := by rw [← hW1]; exact (Below.refl _ _).alloc (Nat.le_refl _) _
          have hx : Qu.Blk W1 wr.heap.size 92 #[.int .i64 t.least, .int .i64 t.rate, .int .i64 t.amount] := by rw [← hW1]; exact Qu.Blk.new wr _ _
          have x0 := hx.cell 0
          have x1 := hx.cell 1
          have x2 := hx.cell 2
          have HX := Lib.hid (And.intro hx (hS.out.below.trans (hbb.mono hS.out.below.size)))
          have HW := Lib.hid (fun W => within64_any t.least y 10000000000000 W)
          have HT := Lib.hid (takes_any t W1)
          have HP := Lib.hid ht
          clear hx hbb ht hok he
          cases b1 : inR t.least y 10000000000000 with
          | false =>
            simp only [b1] at HW
            have HG : Hid (tiersB p.tiers = false) := Lib.hid (hS.out.bad HP.out b1)
            clear b1 hS
            go_wp2_with fail
            refine (HW.out _).mono ?_
            rintro e w2 ⟨rfl, rfl⟩
            go_wp2
            go_ret
            exact ⟨by rw [HG.out]; rfl, HX.out.2⟩
          | true =>
            simp only [b1] at HW
            cases b2 : takesB t with
            | false =>
              simp only [b2] at HT
              have HG : Hid (tiersB p.tiers = false) := Lib.hid (tier_bad HP.out (by rw [tier_eq, b2, Bool.and_false]))
              clear b1 b2 hS
              go_wp2_with fail
              refine (HW.out _).mono ?_
              rintro e w2 ⟨rfl, rfl⟩
              go_wp2_with fail
              refine HT.out.mono ?_
              rintro e w3 ⟨rfl, hb3⟩
              have HB3 := Lib.hid (HX.out.2.trans (hb3.mono HX.out.2.size))
              clear hb3
              go_wp2
              go_ret
              exact ⟨by rw [HG.out]; rfl, HB3.out⟩
            | true =>
              simp only [b2] at HT
              have HN : Hid (∀ w', Below w.heap.size w w' → Steps w w' p.tiers (k + 1) (t.least + 1)) := Lib.hid fun w' hw' => hS.out.next HP.out b1 b2 hw'
              have q1 : 0 ≤ t.least ∧ t.least ≤ 10000000000000 := by
                have g := b1
                unfold inR at g
                simp only [Bool.and_eq_true, decide_eq_true_eq] at g
                have := lead_bounds hS.out.lead
                omega
              obtain ⟨q1, q2⟩ := q1
              clear b1 b2 hS
              go_wp2_with fail
              refine (HW.out _).mono ?_
              rintro e w2 ⟨rfl, rfl⟩
              go_wp2_with fail
              refine HT.out.mono ?_
              rintro e w3 ⟨rfl, hb3⟩
              have HB3 := Lib.hid (HX.out.2.trans (hb3.mono HX.out.2.size))
              have hx3 := HX.out.1.below hb3
              have y0 := hx3.cell 0
              clear hb3 hx3 x0 x1 x2
              go_wp2
              go_roundw
              case rel => exact ⟨k + 1, t.least + 1, by go_num, rfl, by omega, Lib.hid (HN.out _ HB3.out)⟩
              case measure => simp [intOf]; omega
        · obtain rfl : k = n := by omega
          have k1 : ¬ (k : Int) < (k : Int) := by omega
          have HG : Hid (tiersB p.tiers = true) := Lib.hid (by
            have h1 := hS.out.up
            have h2 := HL.out
            rw [← h2] at h1
            rw [h1.all, decide_eq_true (by omega), decide_eq_true (by omega)]; rfl)
          go_wp2
          go_ret
          exact ⟨by rw [HG.out]; rfl, hS.out.below⟩
/-! ### Parts -/
theorem part_eq (p : Prt) : partB p = (Sc.scopeB p.scope && inR p.count 1 100) := by
  unfold partB inR
  rw [Bool.and_assoc]
set_option maxHeartbeats 4000000 in
theorem parts_any (p : Prm) (l : Prm.Lay) (w : World) (h : Row kPrt w (· < w.heap.size) l.parts.A l.parts.n p.parts) (hS : PartsSmall p.parts) :
    Calls Try.prog 25 #[.agg #[.string p.id, .int .i64 p.kind, .int .i64 p.priority, .string p.group, .string p.code, .bool p.closes, .slice l.scope.skus.A l.scope.skus.n l.scope.skus.c, .slice l.scope.cats.A l.scope.cats.n l.scope.cats.c, .int .i64 p.least, .int .i64 p.rate, .int .i64 p.amount, .int .i64 p.buy, .int .i64 p.get, .slice l.parts.A l.parts.n l.parts.c, .slice l.tiers.A l.tiers.n l.tiers.c]] w fun e w' => e = .returned (.bool (partsB p.parts && inR p.amount 0 10000000000000)) ∧ Below w.heap.size w w' := by
  obtain ⟨w1, hw1⟩ : ∃ w1, w.alloc (.cells #[.string p.id, .int .i64 p.kind, .int .i64 p.priority, .string p.group, .string p.code, .bool p.closes, .slice l.scope.skus.A l.scope.skus.n l.scope.skus.c, .slice l.scope.cats.A l.scope.cats.n l.scope.cats.c, .int .i64 p.least, .int .i64 p.rate, .int .i64 p.amount, .int .i64 p.buy, .int .i64 p.get, .slice l.parts.A l.parts.n l.parts.c, .slice l.tiers.A l.tiers.n l.tiers.c] 66) = w1 := ⟨_, rfl⟩
  have hx : Qu.Blk w1 w.heap.size 66 #[.string p.id, .int .i64 p.kind, .int .i64 p.priority, .string p.group, .string p.code, .bool p.closes, .slice l.scope.skus.A l.scope.skus.n l.scope.skus.c, .slice l.scope.cats.A l.scope.cats.n l.scope.cats.c, .int .i64 p.least, .int .i64 p.rate, .int .i64 p.amount, .int .i64 p.buy, .int .i64 p.get, .slice l.parts.A l.parts.n l.parts.c, .slice l.tiers.A l.tiers.n l.tiers.c] := by rw [← hw1]; exact Qu.Blk.new w _ _
  have hb1 : Below w.heap.size w w1 := by rw [← hw1]; exact (Below.refl _ _).alloc (Nat.le_refl _) _
  have x9 := hx.cell 10
  have x12 := hx.cell 13
  have HB := Lib.hid hb1
  have hlen := h.len
  have HR := Lib.hid (And.intro h hS)
  have HA := Lib.hid (fun W => within64_any p.amount 0 10000000000000 W)
  obtain ⟨n, hn⟩ : ∃ n, l.parts.n = n := ⟨_, rfl⟩
  rw [hn] at HR hlen
  have HL := Lib.hid hlen
  simp only [hn] at hw1 x12 ⊢
  clear hx hb1 h hS hlen hn
  obtain ⟨R, hR⟩ : ∃ R, (partsB p.parts && inR p.amount 0 10000000000000) = R := ⟨_, rfl⟩
  have HRR := Lib.hid hR
  rw [hR]
  clear hR
  by_cases c1 : n < 1
  · have d1 : (n : Int) < 1 := by omega
    have HG : Hid (R = false) := Lib.hid (by
      rw [← HRR.out]
      unfold partsB
      rw [HL.out, decide_eq_false (p := 1 ≤ n) (by omega)]
      simp)
    go_enter Try.func25, Try.ntmps25
    go_wp2
    go_ret
    exact ⟨by rw [HG.out]; rfl, HB.out⟩
  · have d1 : ¬ (n : Int) < 1 := by omega
    by_cases c2 : 3 < n
    · have d2 : (3 : Int) < (n : Int) := by omega
      have HG : Hid (R = false) := Lib.hid (by
        rw [← HRR.out]
        unfold partsB
        rw [HL.out, decide_eq_false (p := n ≤ 3) (by omega)]
        simp)
      go_enter Try.func25, Try.ntmps25
      go_wp2
      go_ret
      exact ⟨by rw [HG.out]; rfl, HB.out⟩
    · have d2 : ¬ (3 : Int) < (n : Int) := by omega
      cases b0 : inR p.amount 0 10000000000000 with
      | false =>
        simp only [b0] at HA
        have HG : Hid (R = false) := Lib.hid (by rw [← HRR.out, b0, Bool.and_false])
        clear b0
        go_enter Try.func25, Try.ntmps25
        go_wp2_with fail
        refine (HA.out _).mono ?_
        rintro e w2 ⟨rfl, rfl⟩
        go_wp2
        go_ret
        exact ⟨by rw [HG.out]; rfl, HB.out⟩
      | true =>
        simp only [b0] at HA
        have HRP : Hid (R = partsB p.parts) := Lib.hid (by rw [← HRR.out, b0, Bool.and_true])
        clear b0
        have HM0 : Hid ((∀ (j : Nat) (q : Prt), j < 0 → p.parts[j]? = some q → partB q = true) ∧ Below w.heap.size w w1) := Lib.hid ⟨fun j q hj => by omega, HB.out⟩
        go_enter Try.func25, Try.ntmps25
        go_wp2_with fail
        refine (HA.out _).mono ?_
        rintro e w2 ⟨rfl, rfl⟩
        go_wp2
        go_loopw [24] (fun s24 wr => ∃ k : Nat, s24 = .int .i64 k ∧ k ≤ n ∧ Hid ((∀ (j : Nat) (q : Prt), j < k → p.parts[j]? = some q → partB q = true) ∧ Below w.heap.size w wr)) (fun s24 _ => n - (intOf s24).toNat)
        case atStart => exact ⟨0, rfl, by omega, HM0⟩
        case round =>
          clear HM0 x9 x12 hw1 HB
          obtain ⟨k, rfl, hk, hM⟩ := hrel
          have k0 : (0 : Int) ≤ (k : Int) := by omega
          by_cases hlt : k < n
          · have k1 : (k : Int) < (n : Int) := by omega
            obtain ⟨q, hp⟩ := HR.out.1.get hlt
            have hb := hM.out.2
            obtain ⟨g, o, y, he, _, hg, hh, a0, a1, a2⟩ := row_Prt (HR.out.1.below hb (Nat.le_refl _)) hp
            simp only [he]
            have hsm := HR.out.2 k q hp
            obtain ⟨W1, hW1⟩ : ∃ W1, wr.alloc (.cells #[.slice y.scope.skus.A y.scope.skus.n y.scope.skus.c, .slice y.scope.cats.A y.scope.cats.n y.scope.cats.c, .int .i64 q.count] 42) = W1 := ⟨_, rfl⟩
            have hbb : Below wr.heap.size wr W1 := by rw [← hW1]; exact (Below.refl _ _).alloc (Nat.le_refl _) _
            have hx : Qu.Blk W1 wr.heap.size 42 #[.slice y.scope.skus.A y.scope.skus.n y.scope.skus.c, .slice y.scope.cats.A y.scope.cats.n y.scope.cats.c, .int .i64 q.count] := by rw [← hW1]; exact Qu.Blk.new wr _ _
            have hbw := hb.trans (hbb.mono hb.size)
            have l1 := hh.scope.skus.row.len
            have l2 := hh.scope.cats.row.len
            have HSc := Lib.hid (Sc.Right_any q.scope y.scope W1 ⟨(hh.scope.skus.below (w' := W1) (B := w.heap.size) (hbb.mono hb.size) (Nat.le_refl _)).more fun b hb2 => Nat.lt_of_lt_of_le hb2 hbw.size, (hh.scope.cats.below (w' := W1) (B := w.heap.size) (hbb.mono hb.size) (Nat.le_refl _)).more fun b hb2 => Nat.lt_of_lt_of_le hb2 hbw.size⟩ ⟨by omega, by omega⟩)
            have HC := Lib.hid (fun W => within_any q.count 1 100 W)
            have HP := Lib.hid hp
            have HX := Lib.hid (And.intro hx hbw)
            have x0 := hx.cell 0
            have x1 := hx.cell 1
            clear hp hh hsm l1 l2 hb hbb hx hbw he
            cases h1 : Sc.scopeB q.scope with
            | false =>
              rw [h1] at HSc
              have HG : Hid (R = false) := Lib.hid (by rw [HRP.out]; exact partsB_no HP.out (by rw [part_eq, h1]; rfl))
              clear h1
              go_wp2_with fail
              refine HSc.out.mono ?_
              rintro e w2 ⟨rfl, hb2⟩
              have HB2 := Lib.hid (HX.out.2.trans (hb2.mono HX.out.2.size))
              clear hb2
              go_wp2
              go_ret
              exact ⟨by rw [HG.out]; rfl, HB2.out⟩
            | true =>
              rw [h1] at HSc
              cases h2 : inR q.count 1 100 with
              | false =>
                simp only [h2] at HC
                have HG : Hid (R = false) := Lib.hid (by rw [HRP.out]; exact partsB_no HP.out (by rw [part_eq, h2, Bool.and_false]))
                clear h1 h2
                go_wp2_with fail
                refine HSc.out.mono ?_
                rintro e w2 ⟨rfl, hb2⟩
                have HB2 := Lib.hid (HX.out.2.trans (hb2.mono HX.out.2.size))
                have y2 := (HX.out.1.below hb2).cell 2
                clear hb2
                go_wp2_with fail
                refine (HC.out _).mono ?_
                rintro e w3 ⟨rfl, rfl⟩
                go_wp2
                go_ret
                exact ⟨by rw [HG.out]; rfl, HB2.out⟩
              | true =>
                simp only [h2] at HC
                have HN : Hid (∀ (j : Nat) (u : Prt), j < k + 1 → p.parts[j]? = some u → partB u = true) := Lib.hid fun j u hj hu => by
                  rcases Nat.lt_or_ge j k with h3 | h3
                  · exact hM.out.1 j u h3 hu
                  · obtain rfl : j = k := by omega
                    rw [HP.out] at hu
                    injection hu with hu
                    subst hu
                    rw [part_eq, h1, h2]; rfl
                clear h1 h2 hM
                go_wp2_with fail
                refine HSc.out.mono ?_
                rintro e w2 ⟨rfl, hb2⟩
                have HB2 := Lib.hid (HX.out.2.trans (hb2.mono HX.out.2.size))
                have y2 := (HX.out.1.below hb2).cell 2
                clear hb2
                go_wp2_with fail
                refine (HC.out _).mono ?_
                rintro e w3 ⟨rfl, rfl⟩
                go_wp2
                go_roundw
                case rel => exact ⟨k + 1, by go_num, by omega, Lib.hid ⟨HN.out, HB2.out⟩⟩
                case measure => simp [intOf]; omega
          · obtain rfl : k = n := by omega
            have k1 : ¬ (k : Int) < (k : Int) := by omega
            have HG : Hid (R = true) := Lib.hid (by
              rw [HRP.out, partsB_end fun j u hu => hM.out.1 j u (by
                have := (List.getElem?_eq_some_iff.1 hu).1
                have := HL.out
                omega) hu, HL.out, decide_eq_true (by omega), decide_eq_true (by omega)]; rfl)
            go_wp2
            go_ret
            exact ⟨by rw [HG.out]; rfl, hM.out.2⟩
end Go.Proofs.Ytljmddjlnlmenaa.Pm

end
