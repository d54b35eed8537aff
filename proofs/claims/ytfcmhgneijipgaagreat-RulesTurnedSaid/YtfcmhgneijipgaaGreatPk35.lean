/- The statements' promotions, all of whose lists are new: they lead nowhere but there. · The statements' kinds of tenders: some, none twice. -/
import Derived.IntWalk
import Derived.Test.YtfcmhgneijipgaaGreatPk2
import Derived.Test.YtfcmhgneijipgaaGreatPk3
import Derived.Test.YtfcmhgneijipgaaGreatPk30
import Derived.Test.YtfcmhgneijipgaaGreatPk34

section
set_option maxRecDepth 100000
set_option linter.unusedVariables false
namespace Go.Proofs.YtfcmhgneijipgaaGreat.Py
open Go.ChangeShapes Go.WideShapes Go.ChangeAt Go.RowKit
open Kd (Kind Row Own Cells Fit Agree Deep High Lst kStr)
open Ap (Scp Prt Tir Prm kPrt kTir kPrm row_Prt row_Tir Prm_rep)
open Pr (promoB headB kindB blankB)
open Mv (Only)
structure Highed (w wr : World) (v : Value) (L : List Prm) (k : Nat) : Prop where
  own : High kPrm wr w.heap.size 51 v k L
  each : ∀ (i : Nat) (q : Prm), L[i]? = some q → Near q i
  below : Below w.heap.size w wr
  few : k ≤ 6
theorem Highed.old {w wr : World} {v : Value} {L : List Prm} {k : Nat} (h : Highed w wr v L k) : Promoed w wr v L k := ⟨h.own.deep, h.each, h.below, h.few⟩
set_option maxHeartbeats 4000000 in
theorem promos_high (A : Option Addr) (n c : Nat) (xs : List Prm) (w : World) (h : Row kPrm w (· < w.heap.size) A n xs) (hS : Pm.Slights xs) (hn : n ≤ 1000000000) :
    Calls Tryz.prog 28 #[.slice A n c] w fun e w' => ∃ v k, e = .returned v ∧ k ≤ 6 ∧ Highed w w' v (nearsOf xs) k := by
  have HR := Lib.hid (And.intro h hS)
  have HP0 : Hid (Highed w w (.slice none 0 0) (nearsTo xs 0) 0) := Lib.hid ⟨Kd.High.nil _ _ _ _, fun i q hq => by unfold nearsTo at hq; simp at hq, Below.refl _ _, by omega⟩
  clear h hS
  go_enter Tryz.func28, Tryz.ntmps28
  go_wp2
  go_loopw [3, 4] (fun s3 s4 wr => ∃ i : Nat, s4 = .int .i64 i ∧ i ≤ n ∧ i ≤ 6 ∧ Hid (Highed w wr s3 (nearsTo xs i) i)) (fun _ s4 _ => 6 - (intOf s4).toNat)
  case atStart => exact ⟨0, rfl, by omega, by omega, HP0⟩
  case round =>
    clear HP0
    obtain ⟨i, rfl, hi, hi6, hP⟩ := hrel
    have hL := hP.out
    have HLn := Lib.hid HR.out.1.len
    have i0 : (0 : Int) ≤ (i : Int) := by omega
    by_cases hlt : i < n
    · have i1 : (i : Int) < (n : Int) := by omega
      by_cases h6 : i < 6
      · have i2 : (i : Int) < 6 := by omega
        obtain ⟨p, hp⟩ := HR.out.1.get hlt
        obtain ⟨A3, c3, rfl⟩ := hL.own.value
        have HL := Lib.hid hL
        have hbel := hL.below
        obtain ⟨g, o, l, rfl, _, hgl, hh, b0, b1, b2, b3, b4, b5, b6, b7, b8, b9, b10, b11, b12, b13, b14⟩ := Ap.row_Prm (HR.out.1.below hbel (Nat.le_refl _)) hp
        have hh2 : Ap.Prm.Holds wr (· < wr.heap.size) p l := by
          obtain ⟨j1, j2, j3, j4, j5, j6, j7, j8, j9, j10, j11, j12, j13⟩ := hh
          have hz := hbel.size
          exact ⟨j1, j2, j3, j4, j5, ⟨j6.skus.more fun b hb => Nat.lt_of_lt_of_le hb hz, j6.cats.more fun b hb => Nat.lt_of_lt_of_le hb hz⟩, j7, j8, j9, j10, j11, j12.more fun b hb => Nat.lt_of_lt_of_le hb hz, j13.more fun b hb => Nat.lt_of_lt_of_le hb hz⟩
        have e1 : IntKind.i64.wrap ((i : Int) * 7) = (i : Int) * 7 := IntWalk.i64_in _ (by omega)
        have e2 : IntKind.i64.wrap ((i : Int) * 7 + 3) = ((i * 7 + 3 : Nat) : Int) := by rw [IntWalk.i64_in _ (by omega)]; omega
        obtain ⟨d, hd⟩ : ∃ d : Nat, i * 7 + 3 = d := ⟨_, rfl⟩
        rw [hd] at e2
        obtain ⟨a, ha⟩ : ∃ a : Nat, d % 10 = a := ⟨_, rfl⟩
        have ha2 : a < 10 := by omega
        have e3 : (d : Int).tmod 10 = (a : Int) := by rw [Int.tmod_eq_emod_of_nonneg (by omega)]; omega
        have e4 : IntKind.i64.wrap (a : Int) = (a : Int) := IntWalk.i64_in _ (by omega)
        have HNx := Lib.hid (nearsTo_next hp)
        have HC := Lib.hid (promo_near p l (a : Int) wr hh2 ((HR.out.2 i p hp).small hh2))
        have e5 : modN (a : Int) 10 = a := modN_num a 10 ha2 (by omega)
        rw [e5] at HC
        have HI := Lib.hid (show (i * 7 + 3) % 10 = a by rw [hd]; exact ha)
        clear hL hP hp hh hh2 hgl hbel ha hd e5
        go_wp2_with fail
        refine HC.out.mono ?_
        rintro e wa ⟨m, rfl, hq1, hq2, hq3, hq4⟩
        rw [HI.out] at HNx
        obtain ⟨q, hq0⟩ : ∃ q, nearP p a = q := ⟨_, rfl⟩
        rw [hq0] at HNx hq1 hq2 hq3 hq4 ⊢
        clear hq0
        have hba := hq4.below
        have HO := Lib.hid (HL.out.own.later hba)
        have HB := Lib.hid (HL.out.below.trans (hba.mono HL.out.below.size))
        have HRp : Hid (kPrm.rep wa (Kd.ButB wa (.slice A3 i c3) w.heap.size) q (q.enc m)) := Lib.hid (Prm_rep.2 ⟨m, rfl, hq4.off fun g hg => ⟨⟨hg.2, fun e => by have := (HL.out.own.low g e).2; omega⟩, Nat.le_trans HL.out.below.size hg.1⟩⟩)
        have HN : Hid (Near q i) := Lib.hid ⟨hq1, by rw [HI.out]; exact hq2, hq3⟩
        have hsz := HB.out.size
        clear hq1 hq2 hq3 hq4 hba HC b0 b1 b2 b3 b4 b5 b6 b7 b8 b9 b10 b11 b12 b13 b14
        unfold Ap.Prm.enc at HRp ⊢
        go_wp2_with ((at_builtin; refine Kd.wpList_high (W := wa) (B := w.heap.size) (n := i) (v := .slice A3 i c3) (xs := nearsTo xs i) (x := q) (cs := [.string q.id, .int .i64 q.kind, .int .i64 q.priority, .string q.group, .string q.code, .bool q.closes, .slice m.scope.skus.A m.scope.skus.n m.scope.skus.c, .slice m.scope.cats.A m.scope.cats.n m.scope.cats.c, .int .i64 q.least, .int .i64 q.rate, .int .i64 q.amount, .int .i64 q.buy, .int .i64 q.get, .slice m.parts.A m.parts.n m.parts.c, .slice m.tiers.A m.tiers.n m.tiers.c]) Ap.prm_t rfl _ _ rfl rfl rfl rfl HO.out HRp.out (by omega) (by omega) hsz ?_; intro g1 cap w' hown hgrow hfr))
        have HP2 : Hid (Highed w w' (.slice (some ⟨g1, 0, none⟩) (i + 1) cap) (nearsTo xs (i + 1)) (i + 1)) := Lib.hid ⟨by rw [HNx.out]; exact hown, fun j y hy => by
          rw [HNx.out] at hy
          rcases Nat.lt_or_ge j i with h1 | h1
          · rw [List.getElem?_append_left (by rw [HL.out.own.len]; exact h1)] at hy
            exact HL.out.each j y hy
          · rw [List.getElem?_append_right (by rw [HL.out.own.len]; exact h1), HL.out.own.len] at hy
            obtain ⟨h2, rfl⟩ : j - i = 0 ∧ q = y := by
              rcases Nat.eq_zero_or_pos (j - i) with h2 | h2
              · rw [h2] at hy; injection hy with hy; exact ⟨h2, hy⟩
              · obtain ⟨z, hz⟩ : ∃ z, j - i = z + 1 := ⟨j - i - 1, by omega⟩
                rw [hz] at hy; simp at hy
            obtain rfl : j = i := by omega
            exact HN.out, HB.out.grown hgrow hsz (fun k hk => (HO.out.low k hk).1), by omega⟩
        clear hown hgrow hfr
        go_wp2
        go_roundw
        case rel => exact ⟨i + 1, by go_num, by omega, by omega, HP2⟩
        case measure => simp [intOf]; omega
      · have i2 : ¬ (i : Int) < 6 := by omega
        have HE : Hid (∃ k, k ≤ 6 ∧ Highed w wr u3 (nearsOf xs) k) := Lib.hid ⟨i, by omega, by
          obtain rfl : i = 6 := by omega
          exact hL⟩
        clear hL hP
        go_wp2
        go_ret
        obtain ⟨k, hk, hE⟩ := HE.out
        exact ⟨_, rfl, k, hk, hE⟩
    · have i1 : ¬ (i : Int) < (n : Int) := by omega
      have HE : Hid (∃ k, k ≤ 6 ∧ Highed w wr u3 (nearsOf xs) k) := Lib.hid ⟨i, by omega, by
        have h2 := nearsTo_stop xs i (by have := HLn.out; omega) (6 - i)
        rw [show i + (6 - i) = 6 by omega] at h2
        show Highed w wr u3 (nearsTo xs 6) i
        rw [h2]; exact hL⟩
      clear hL hP
      go_wp2
      go_ret
      obtain ⟨k, hk, hE⟩ := HE.out
      exact ⟨_, rfl, k, hk, hE⟩
end Go.Proofs.YtfcmhgneijipgaaGreat.Py

end

section
set_option maxRecDepth 100000
set_option linter.unusedVariables false
namespace Go.Proofs.YtfcmhgneijipgaaGreat.Py
open Go.ChangeShapes Go.WideShapes Go.ChangeAt Go.RowKit
open Kd (Row Own kInt row_int)
open Ru (kindsB)
def kindN (x : Int) : Int := 1 + (modN x 5 : Int)
def kindsTo (xs : List Int) : Nat → List Int
  | 0 => []
  | k + 1 => match xs[k]? with
    | none => kindsTo xs k
    | some x => if (kindsTo xs k).any (· == kindN x) then kindsTo xs k else kindsTo xs k ++ [kindN x]
def kindsOf (xs : List Int) : List Int := kindsTo xs 6
theorem kindsTo_len (xs : List Int) : ∀ k, (kindsTo xs k).length ≤ k
  | 0 => Nat.le_refl _
  | k + 1 => by
    have h := kindsTo_len xs k
    unfold kindsTo
    split
    · omega
    · split
      · omega
      · rw [List.length_append, List.length_singleton]; omega
theorem kindsTo_stop (xs : List Int) (i : Nat) (h : xs.length ≤ i) : ∀ j, kindsTo xs (i + j) = kindsTo xs i
  | 0 => rfl
  | j + 1 => by
    have h2 : xs[i + j]? = none := List.getElem?_eq_none (by omega)
    show kindsTo xs ((i + j) + 1) = _
    unfold kindsTo
    rw [h2]
    have := kindsTo_stop xs i h j
    rw [this]
    cases i <;> rfl
theorem kindN_in (x : Int) : 1 ≤ kindN x ∧ kindN x ≤ 5 := by
  unfold kindN
  have := modN_lt x 5 (by omega)
  omega
theorem kindsTo_may (xs : List Int) : ∀ k, Ru.Kinds (kindsTo xs k)
  | 0 => ⟨fun i x hx => by unfold kindsTo at hx; simp at hx, fun i j x y hij hx => by unfold kindsTo at hx; simp at hx⟩
  | k + 1 => by
    have h := kindsTo_may xs k
    unfold kindsTo
    split
    · exact h
    · next x hx =>
      split
      · exact h
      · next hn =>
        have hn2 : ∀ y ∈ kindsTo xs k, y ≠ kindN x := fun y hy e => hn (List.any_eq_true.2 ⟨y, hy, beq_iff_eq.2 e⟩)
        refine ⟨fun i y hy => ?_, fun i j a b hij ha hb => ?_⟩
        · rcases List.mem_append.1 (List.mem_of_getElem? hy) with h1 | h1
          · obtain ⟨q, hq, e⟩ := List.mem_iff_getElem.1 h1
            exact h.each q y (by rw [List.getElem?_eq_getElem hq, e])
          · have : y = kindN x := by simpa using h1
            have := kindN_in x
            omega
        · have hl := (List.getElem?_eq_some_iff.1 hb).1
          rw [List.length_append, List.length_singleton] at hl
          rw [List.getElem?_append_left (by omega)] at ha
          rcases Nat.lt_or_ge j (kindsTo xs k).length with h2 | h2
          · rw [List.getElem?_append_left h2] at hb
            exact h.apart i j a b hij ha hb
          · rw [List.getElem?_append_right h2, show j - (kindsTo xs k).length = 0 by omega] at hb
            injection hb with hb
            subst hb
            exact hn2 a (List.mem_of_getElem? ha)
theorem kindsOf_may (xs : List Int) : kindsB (kindsOf xs) = true := Ru.kindsB_yes (kindsTo_may xs 6)
structure KGath (w wr : World) (v : Value) (xs : List Int) (k : Nat) : Prop where
  own : Own kInt wr w.heap.size 3 (fun _ => False) v (kindsTo xs k).length (kindsTo xs k)
  below : Below w.heap.size w wr
def Kinded (w : World) (xs : List Int) (e : Ending) (w' : World) : Prop := ∃ v, e = .returned v ∧ Own kInt w' w.heap.size 3 (fun _ => False) v (kindsOf xs).length (kindsOf xs) ∧ Below w.heap.size w w'
set_option maxHeartbeats 2000000 in
theorem kinds_any (A : Option Addr) (n c : Nat) (xs : List Int) (w : World) (h : Row kInt w (· < w.heap.size) A n xs) (hn : n ≤ 1000000000000) :
    Calls Tryz.prog 30 #[.slice A n c] w fun e w' => Kinded w xs e w' := by
  have HR := Lib.hid (And.intro h h.len)
  have HM := Lib.hid (fun a W => mod_any a 5 W (by omega) (by omega))
  have HG0 : Hid (KGath w w (.slice none 0 0) xs 0) := Lib.hid ⟨Own.nil _ _ _ _ _, Below.refl _ _⟩
  clear h
  go_enter Tryz.func30, Tryz.ntmps30
  go_wp2
  go_loopw [3, 4] (fun s3 s4 wr => ∃ i : Nat, s4 = .int .i64 i ∧ i ≤ n ∧ i ≤ 6 ∧ Hid (KGath w wr s3 xs i)) (fun _ s4 _ => 6 - (intOf s4).toNat)
  case atStart => exact ⟨0, rfl, by omega, by omega, HG0⟩
  case round =>
    clear HG0
    obtain ⟨i, rfl, hi, hi6, hG⟩ := hrel
    have i0 : (0 : Int) ≤ (i : Int) := by omega
    by_cases hlt : i < n
    · have i1 : (i : Int) < (n : Int) := by omega
      by_cases h6 : i < 6
      · have i2 : (i : Int) < 6 := by omega
        obtain ⟨x, hx⟩ := HR.out.1.get hlt
        obtain ⟨g, o, rfl, hg, hgl, _, a0⟩ := row_int (HR.out.1.below hG.out.below (Nat.le_refl _)) hx
        obtain ⟨t, ht⟩ : ∃ t, modN x 5 = t := ⟨_, rfl⟩
        have ht5 := modN_lt x 5 (by omega)
        have HMx := Lib.hid (fun W => HM.out x W)
        rw [ht] at ht5
        simp only [ht] at HMx
        obtain ⟨d, hd⟩ : ∃ d : Int, 1 + (t : Int) = d := ⟨_, rfl⟩
        have hdk : kindN x = d := by unfold kindN; rw [ht, hd]
        have qd : IntKind.i64.wrap (1 + (t : Int)) = d := by rw [IntWalk.i64_in _ (by omega)]; exact hd
        have hstep : kindsTo xs (i + 1) = if (kindsTo xs i).any (· == d) then kindsTo xs i else kindsTo xs i ++ [d] := by
          rw [← hdk]
          show (match xs[i]? with | none => kindsTo xs i | some x => if (kindsTo xs i).any (· == kindN x) then kindsTo xs i else kindsTo xs i ++ [kindN x]) = _
          rw [hx]
        have HSt := Lib.hid hstep
        have hdr : -9223372036854775808 ≤ d ∧ d ≤ 9223372036854775807 := by omega
        have HDr := Lib.hid hdr
        obtain ⟨q, hq⟩ : ∃ q, (kindsTo xs i).length = q := ⟨_, rfl⟩
        have hq6 := kindsTo_len xs i
        have hown := hG.out.own
        rw [hq] at hown hq6
        obtain ⟨A3, c3, hv3⟩ := hown.value
        subst hv3
        have HO := Lib.hid (And.intro hown hq)
        obtain ⟨wo, hwo⟩ : ∃ wo : World, wo = wr := ⟨_, rfl⟩
        subst hwo
        clear hown hq hx ht hd hdk hstep hdr
        go_wp2_with fail
        refine (HMx.out _).mono ?_
        rintro e w1 ⟨rfl, rfl⟩
        go_wp2
        go_loopw [6, 7] (fun s6 s7 wi => ∃ j : Nat, s7 = .int .i64 j ∧ j ≤ q ∧ wi = w1 ∧ s6 = .bool (((kindsTo xs i).take j).any (· == d))) (fun _ s7 _ => q - (intOf s7).toNat)
        case atStart => exact ⟨0, rfl, by omega, by trivial, by simp⟩
        case round =>
          obtain ⟨j, rfl, hj, rfl, rfl⟩ := hrel
          have j0 : (0 : Int) ≤ (j : Int) := by omega
          obtain ⟨b, hb⟩ : ∃ b, ((kindsTo xs i).take j).any (· == d) = b := ⟨_, rfl⟩
          rw [hb]
          by_cases hjq : j < q
          · have j1 : (j : Int) < (q : Int) := by omega
            obtain ⟨y, hy⟩ : ∃ y, (kindsTo xs i)[j]? = some y := ⟨_, List.getElem?_eq_getElem (by have := HO.out.2; omega)⟩
            obtain ⟨g2, o2, hA2, _, _, _, b0⟩ := row_int HO.out.1.read hy
            subst hA2
            have hN : ((kindsTo xs i).take (j + 1)).any (· == d) = (b || y == d) := by
              rw [List.take_add_one, hy, List.any_append, hb]; simp
            have HN := Lib.hid hN
            clear hy hN hb
            cases b with
            | true =>
              go_wp2
              go_roundw
              case rel => exact ⟨j + 1, by go_num, by omega, by trivial, by rw [HN.out]; rfl⟩
              case measure => simp [intOf]; omega
            | false =>
              obtain ⟨z, hz⟩ : ∃ z, (y == d) = z := ⟨_, rfl⟩
              rw [hz] at HN
              go_wp2
              go_roundw
              case rel => exact ⟨j + 1, by go_num, by omega, by trivial, by rw [HN.out]; rfl⟩
              case measure => simp [intOf]; omega
          · obtain rfl : j = q := by omega
            have j1 : ¬ (j : Int) < (j : Int) := by omega
            have hb2 : (kindsTo xs i).any (· == d) = b := by
              rw [← hb, List.take_of_length_le (by have := HO.out.2; omega)]
            have HB := Lib.hid hb2
            clear hb hb2
            cases b with
            | true =>
              have HG2 : Hid (KGath w _ (.slice A3 j c3) xs (i + 1)) := Lib.hid (by
                have e : kindsTo xs (i + 1) = kindsTo xs i := by rw [HSt.out, HB.out]; rfl
                refine ⟨?_, hG.out.below⟩
                rw [e, HO.out.2]; exact HO.out.1)
              clear hG
              go_wp2
              go_roundw
              case rel => exact ⟨i + 1, by go_num, by omega, by omega, HG2⟩
              case measure => simp [intOf]; omega
            | false =>
              have hsz := hG.out.below.size
              have HBl := Lib.hid hG.out.below
              have hrep : Hid (∀ W, kInt.rep W (fun _ => False) d [.int .i64 d]) := Lib.hid fun W => ⟨rfl, HDr.out⟩
              clear hG
              go_wp2_with ((at_builtin; refine Kd.wpList_push (F := fun _ => False) (B := w.heap.size) (n := j) (v := .slice A3 j c3) (xs := kindsTo xs i) (y := d) (cs := [.int .i64 d]) Ap.int_t rfl _ _ rfl rfl rfl rfl HO.out.1 (hrep.out _) (by omega) (by omega) hsz (fun _ h => h.elim) ?_; intro g1 cap w' hown hgrow hfr))
              have HG2 : Hid (KGath w w' (.slice (some ⟨g1, 0, none⟩) (j + 1) cap) xs (i + 1)) := Lib.hid (by
                have e : kindsTo xs (i + 1) = kindsTo xs i ++ [d] := by rw [HSt.out, HB.out]; rfl
                refine ⟨?_, HBl.out.grown hgrow hsz fun k hk => (HO.out.1.low k hk).1⟩
                rw [e, List.length_append, HO.out.2, List.length_singleton]; exact hown)
              clear hown hgrow hfr
              go_wp2
              go_roundw
              case rel => exact ⟨i + 1, by go_num, by omega, by omega, HG2⟩
              case measure => simp [intOf]; omega
      · have i2 : ¬ (i : Int) < 6 := by omega
        have HE : Hid (Kinded w xs (.returned u3) wr) := Lib.hid (by
          obtain rfl : i = 6 := by omega
          exact ⟨u3, rfl, hG.out.own, hG.out.below⟩)
        clear hG
        go_wp2
        go_ret
        exact HE.out
    · have i1 : ¬ (i : Int) < (n : Int) := by omega
      have HE : Hid (Kinded w xs (.returned u3) wr) := Lib.hid (by
        have h1 := hG.out.own
        have e : kindsTo xs i = kindsOf xs := by
          have h2 := kindsTo_stop xs i (by have := HR.out.2; omega) (6 - i)
          rw [show i + (6 - i) = 6 by omega] at h2
          exact h2.symm
        rw [e] at h1
        exact ⟨u3, rfl, h1, hG.out.below⟩)
      clear hG
      go_wp2
      go_ret
      exact HE.out
end Go.Proofs.YtfcmhgneijipgaaGreat.Py

end
