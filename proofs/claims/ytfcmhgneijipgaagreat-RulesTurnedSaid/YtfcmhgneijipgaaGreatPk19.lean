/- The landed Right, whole. · The statements' helpers on lists of texts, of numbers, of lists of numbers: Same, Plain, Lists. · Sets of texts: a map of the call's own, of texts to nothing. -/
import Derived.Deep.RegionHeld3
import Derived.Laws.StructEq
import Derived.Maps.OwnSet
import Derived.StringKeys
import Derived.Test.YtfcmhgneijipgaaGreatPk1
import Derived.Test.YtfcmhgneijipgaaGreatPk17
import Derived.Test.YtfcmhgneijipgaaGreatPk18
import Derived.Test.YtfcmhgneijipgaaGreatPk2
import Derived.Test.YtfcmhgneijipgaaGreatPk3
import Derived.Test.YtfcmhgneijipgaaGreatPk9

section
set_option maxRecDepth 100000
set_option linter.unusedVariables false
namespace Go.Proofs.YtfcmhgneijipgaaGreat.Pm
open Go.ChangeShapes Go.WideShapes Go.ChangeAt Go.RowKit
open Ap (Scp Prt Tir Prm kPrt kTir row_Prt row_Tir)
open Kd (Row Lst)
open Pr (promoB headB kindB noBuy noParts noTiers allB someB PrmSmall partsB tiersB)
theorem right_no (p : Prm) (l : Prm.Lay) (w : World) (h : p.kind < 1 ∨ 7 < p.kind) : Calls Tryz.prog 129 #[.agg #[.string p.id, .int .i64 p.kind, .int .i64 p.priority, .string p.group, .string p.code, .bool p.closes, .slice l.scope.skus.A l.scope.skus.n l.scope.skus.c, .slice l.scope.cats.A l.scope.cats.n l.scope.cats.c, .int .i64 p.least, .int .i64 p.rate, .int .i64 p.amount, .int .i64 p.buy, .int .i64 p.get, .slice l.parts.A l.parts.n l.parts.c, .slice l.tiers.A l.tiers.n l.tiers.c]] w fun e w' => e = .returned (.bool false) ∧ Below w.heap.size w w' := by
  obtain ⟨w1, hw1⟩ : ∃ w1, w.alloc (.cells #[.string p.id, .int .i64 p.kind, .int .i64 p.priority, .string p.group, .string p.code, .bool p.closes, .slice l.scope.skus.A l.scope.skus.n l.scope.skus.c, .slice l.scope.cats.A l.scope.cats.n l.scope.cats.c, .int .i64 p.least, .int .i64 p.rate, .int .i64 p.amount, .int .i64 p.buy, .int .i64 p.get, .slice l.parts.A l.parts.n l.parts.c, .slice l.tiers.A l.tiers.n l.tiers.c] 51) = w1 := ⟨_, rfl⟩
  have hx : Qu.Blk w1 w.heap.size 51 #[.string p.id, .int .i64 p.kind, .int .i64 p.priority, .string p.group, .string p.code, .bool p.closes, .slice l.scope.skus.A l.scope.skus.n l.scope.skus.c, .slice l.scope.cats.A l.scope.cats.n l.scope.cats.c, .int .i64 p.least, .int .i64 p.rate, .int .i64 p.amount, .int .i64 p.buy, .int .i64 p.get, .slice l.parts.A l.parts.n l.parts.c, .slice l.tiers.A l.tiers.n l.tiers.c] := by rw [← hw1]; exact Qu.Blk.new w _ _
  have hb1 : Below w.heap.size w w1 := by rw [← hw1]; exact (Below.refl _ _).alloc (Nat.le_refl _) _
  obtain ⟨w2, hw2⟩ : ∃ w2, w1.alloc (.cells #[.nilFunc, .int .i64 0, .func (.func 151) #[] #[], .int .i64 193, .func (.func 152) #[] #[], .int .i64 194, .func (.func 153) #[] #[], .int .i64 205, .func (.func 154) #[] #[], .int .i64 146, .func (.func 155) #[] #[], .int .i64 224, .func (.func 155) #[] #[], .int .i64 224, .func (.func 151) #[] #[], .int .i64 1] 143) = w2 := ⟨_, rfl⟩
  have hx2 : Qu.Blk w2 w.heap.size 51 #[.string p.id, .int .i64 p.kind, .int .i64 p.priority, .string p.group, .string p.code, .bool p.closes, .slice l.scope.skus.A l.scope.skus.n l.scope.skus.c, .slice l.scope.cats.A l.scope.cats.n l.scope.cats.c, .int .i64 p.least, .int .i64 p.rate, .int .i64 p.amount, .int .i64 p.buy, .int .i64 p.get, .slice l.parts.A l.parts.n l.parts.c, .slice l.tiers.A l.tiers.n l.tiers.c] := by rw [← hw2]; exact hx.alloc _
  have HB2 : Hid (Below w.heap.size w w2) := Lib.hid (by rw [← hw2]; exact hb1.alloc hb1.size _)
  have x1 := hx2.cell 1
  clear hx hb1 hx2
  rcases h with h | h
  · go_enter Tryz.func129, Tryz.ntmps129
    go_wp2
    go_ret
    exact ⟨rfl, HB2.out⟩
  · have d1 : ¬ p.kind < 1 := by omega
    have d2 : (8 : Int) ≤ p.kind := by omega
    have d3 : decide ((8 : Int) ≤ p.kind) = true := decide_eq_true d2
    have d4 : decide (p.kind < 1) = false := decide_eq_false d1
    clear h
    go_enter Tryz.func129, Tryz.ntmps129
    go_wp2
    go_ret
    exact ⟨rfl, HB2.out⟩
theorem zero_ne (z : Int) : (z == 0) = !(z != 0) := by simp [bne]
theorem none_pos (k : Nat) : (k == 0) = !decide (0 < k) := by
  cases k <;> simp
theorem both_pos (a b : Nat) : ((a == 0) && (b == 0)) = !decide (0 < a + b) := by
  by_cases h : 0 < a + b
  · rw [decide_eq_true h]
    by_cases ha : a = 0
    · have hb : b ≠ 0 := by omega
      simp [ha, hb]
    · simp [ha]
  · rw [decide_eq_false h]
    have ha : a = 0 := by omega
    have hb : b = 0 := by omega
    simp [ha, hb]
theorem amount_in (z b : Int) : inR z 1 b = (decide (1 ≤ z) && decide (z ≤ b)) := rfl
theorem Fits {b1 b2 : Bool} {w : World} {f : Nat} {a : Array Value} (h : Calls Tryz.prog f a w fun e w' => e = .returned (.bool b1) ∧ Below w.heap.size w w') (e : b1 = b2) : Calls Tryz.prog f a w fun e w' => e = .returned (.bool b2) ∧ Below w.heap.size w w' := by rw [← e]; exact h
theorem promo_any (p : Prm) (l : Prm.Lay) (w : World) (h : Ap.Prm.Holds w (· < w.heap.size) p l) (hS : PrmSmall p l) :
    Calls Tryz.prog 129 #[.agg #[.string p.id, .int .i64 p.kind, .int .i64 p.priority, .string p.group, .string p.code, .bool p.closes, .slice l.scope.skus.A l.scope.skus.n l.scope.skus.c, .slice l.scope.cats.A l.scope.cats.n l.scope.cats.c, .int .i64 p.least, .int .i64 p.rate, .int .i64 p.amount, .int .i64 p.buy, .int .i64 p.get, .slice l.parts.A l.parts.n l.parts.c, .slice l.tiers.A l.tiers.n l.tiers.c]] w fun e w' => e = .returned (.bool (promoB p)) ∧ Below w.heap.size w w' := by
  have hH : ∀ W, Below w.heap.size w W → Calls Tryz.prog 156 #[.agg #[.string p.id, .int .i64 p.kind, .int .i64 p.priority, .string p.group, .string p.code, .bool p.closes, .slice l.scope.skus.A l.scope.skus.n l.scope.skus.c, .slice l.scope.cats.A l.scope.cats.n l.scope.cats.c, .int .i64 p.least, .int .i64 p.rate, .int .i64 p.amount, .int .i64 p.buy, .int .i64 p.get, .slice l.parts.A l.parts.n l.parts.c, .slice l.tiers.A l.tiers.n l.tiers.c]] W fun e w' => e = .returned (.bool (headL p)) ∧ Below W.heap.size W w' := fun W hW => head_any p l W (Pr.holds_later h hW) hS.scope
  have hA : ∀ W, Below w.heap.size w W → Calls Tryz.prog 157 #[.agg #[.string p.id, .int .i64 p.kind, .int .i64 p.priority, .string p.group, .string p.code, .bool p.closes, .slice l.scope.skus.A l.scope.skus.n l.scope.skus.c, .slice l.scope.cats.A l.scope.cats.n l.scope.cats.c, .int .i64 p.least, .int .i64 p.rate, .int .i64 p.amount, .int .i64 p.buy, .int .i64 p.get, .slice l.parts.A l.parts.n l.parts.c, .slice l.tiers.A l.tiers.n l.tiers.c]] W fun e w' => e = .returned (.int .i64 (hasP p)) ∧ Below W.heap.size W w' := fun W hW => has_any p l W h.parts.row.len h.tiers.row.len h.scope.skus.row.len h.scope.cats.row.len hS.few
  by_cases h1 : 1 ≤ p.kind
  · by_cases h2 : p.kind ≤ 7
    · have hd : promoB p = (headL p && kindB p) := by
        unfold promoB
        rw [head_eq, decide_eq_true h1, decide_eq_true h2]
        simp
      have hc : p.kind = 1 ∨ p.kind = 2 ∨ p.kind = 3 ∨ p.kind = 4 ∨ p.kind = 5 ∨ p.kind = 6 ∨ p.kind = 7 := by omega
      rcases hc with hk | hk | hk | hk | hk | hk | hk
      · refine Fits (right_pre 1 _ 193 (headL p && inR p.rate 1 10000 && _) p l w h1 h2 (by omega) rfl rfl fun wc g4 g5 u0 u1 u2 u3 u6 u7 u8 u9 u10 u11 u12 u13 u14 u15 u16 u17 u18 u19 u20 u21 u22 u23 u24 u25 u26 u27 u28 u29 u30 u31 u32 u33 u34 u35 u36 u37 u38 u39 u40 u41 u42 hAs => rest_rateRight 193 (hasP p) _ _ _ p l w wc g4 g5 u0 u1 u2 u3 u6 u7 u8 u9 u10 u11 u12 u13 u14 u15 u16 u17 u18 u19 u20 u21 u22 u23 u24 u25 u26 u27 u28 u29 u30 u31 u32 u33 u34 u35 u36 u37 u38 u39 u40 u41 u42 hAs hH (fun W hW => rate_any p l W) hA (may_percent _ _ _ _ _ _ _ _)) ?_
        rw [hd, Bool.and_assoc]
        congr 1
        unfold kindB
        rw [if_pos hk]
        unfold someB noBuy noParts noTiers
        rw [amount_in, zero_ne p.amount, zero_ne p.buy, zero_ne p.get, none_pos, none_pos]
        simp only [Bool.and_assoc]
      · refine Fits (right_pre 2 _ 194 (headL p && inR p.amount 1 1000000000 && _) p l w h1 h2 (by omega) rfl rfl fun wc g4 g5 u0 u1 u2 u3 u6 u7 u8 u9 u10 u11 u12 u13 u14 u15 u16 u17 u18 u19 u20 u21 u22 u23 u24 u25 u26 u27 u28 u29 u30 u31 u32 u33 u34 u35 u36 u37 u38 u39 u40 u41 u42 hAs => rest_amountRight 194 (hasP p) _ _ _ p l w wc g4 g5 u0 u1 u2 u3 u6 u7 u8 u9 u10 u11 u12 u13 u14 u15 u16 u17 u18 u19 u20 u21 u22 u23 u24 u25 u26 u27 u28 u29 u30 u31 u32 u33 u34 u35 u36 u37 u38 u39 u40 u41 u42 hAs hH (fun W hW => amount_any p l W) hA (may_amount _ _ _ _ _ _ _ _)) ?_
        rw [hd, Bool.and_assoc]
        congr 1
        unfold kindB
        rw [if_neg (by omega), if_pos hk]
        unfold noBuy noParts noTiers
        rw [amount_in, zero_ne p.rate, zero_ne p.buy, zero_ne p.get, none_pos, none_pos]
        cases decide (1 ≤ p.amount) <;> cases decide (p.amount ≤ 1000000000) <;> cases (p.rate != 0) <;> simp
      · refine Fits (right_pre 3 _ 205 (headL p && rowsB p && _) p l w h1 h2 (by omega) rfl rfl fun wc g4 g5 u0 u1 u2 u3 u6 u7 u8 u9 u10 u11 u12 u13 u14 u15 u16 u17 u18 u19 u20 u21 u22 u23 u24 u25 u26 u27 u28 u29 u30 u31 u32 u33 u34 u35 u36 u37 u38 u39 u40 u41 u42 hAs => rest_rowsRight 205 (hasP p) _ _ _ p l w wc g4 g5 u0 u1 u2 u3 u6 u7 u8 u9 u10 u11 u12 u13 u14 u15 u16 u17 u18 u19 u20 u21 u22 u23 u24 u25 u26 u27 u28 u29 u30 u31 u32 u33 u34 u35 u36 u37 u38 u39 u40 u41 u42 hAs hH (fun W hW => rows_any p l W) hA (may_rows _ _ _ _ _ _ _ _)) ?_
        rw [hd, Bool.and_assoc]
        congr 1
        unfold kindB
        rw [if_neg (by omega), if_neg (by omega), if_pos hk]
        unfold rowsB someB noParts noTiers
        rw [amount_in, amount_in, amount_in, zero_ne p.amount, none_pos, none_pos]
        cases decide (1 ≤ p.rate) <;> cases decide (p.rate ≤ 10000) <;> cases (p.amount != 0) <;> cases decide (1 ≤ p.buy) <;> cases decide (p.buy ≤ 100) <;> cases decide (1 ≤ p.get) <;> cases decide (p.get ≤ 100) <;> simp
      · refine Fits (right_pre 4 _ 146 (headL p && (partsB p.parts && inR p.amount 0 10000000000000) && _) p l w h1 h2 (by omega) rfl rfl fun wc g4 g5 u0 u1 u2 u3 u6 u7 u8 u9 u10 u11 u12 u13 u14 u15 u16 u17 u18 u19 u20 u21 u22 u23 u24 u25 u26 u27 u28 u29 u30 u31 u32 u33 u34 u35 u36 u37 u38 u39 u40 u41 u42 hAs => rest_partsRight 146 (hasP p) _ _ _ p l w wc g4 g5 u0 u1 u2 u3 u6 u7 u8 u9 u10 u11 u12 u13 u14 u15 u16 u17 u18 u19 u20 u21 u22 u23 u24 u25 u26 u27 u28 u29 u30 u31 u32 u33 u34 u35 u36 u37 u38 u39 u40 u41 u42 hAs hH (fun W hW => parts_any p l W (Pr.holds_later h hW).parts.row hS.parts) hA (may_bundle _ _ _ _ _ _ _ _)) ?_
        rw [hd, Bool.and_assoc]
        congr 1
        unfold kindB
        rw [if_neg (by omega), if_neg (by omega), if_neg (by omega), if_pos hk]
        unfold noBuy noTiers allB
        rw [zero_ne p.rate, zero_ne p.buy, zero_ne p.get, none_pos, both_pos, inB_eq]
        cases (p.rate != 0) <;> cases inR p.amount 0 10000000000000 <;> cases (p.buy != 0) <;> cases (p.get != 0) <;> cases partsB p.parts <;> simp
      · refine Fits (right_pre 5 _ 224 (headL p && tiersB p.tiers && _) p l w h1 h2 (by omega) rfl rfl fun wc g4 g5 u0 u1 u2 u3 u6 u7 u8 u9 u10 u11 u12 u13 u14 u15 u16 u17 u18 u19 u20 u21 u22 u23 u24 u25 u26 u27 u28 u29 u30 u31 u32 u33 u34 u35 u36 u37 u38 u39 u40 u41 u42 hAs => rest_tiersRight 224 (hasP p) _ _ _ p l w wc g4 g5 u0 u1 u2 u3 u6 u7 u8 u9 u10 u11 u12 u13 u14 u15 u16 u17 u18 u19 u20 u21 u22 u23 u24 u25 u26 u27 u28 u29 u30 u31 u32 u33 u34 u35 u36 u37 u38 u39 u40 u41 u42 hAs hH (fun W hW => tiers_any p l W (Pr.holds_later h hW).tiers.row) hA (may_tiers _ _ _ _ _ _ _ _)) ?_
        rw [hd, Bool.and_assoc]
        congr 1
        unfold kindB
        rw [if_neg (by omega), if_neg (by omega), if_neg (by omega), if_neg (by omega), if_neg (by omega)]
        unfold noBuy noParts
        rw [zero_ne p.rate, zero_ne p.amount, zero_ne p.buy, zero_ne p.get, none_pos]
        cases (p.rate != 0) <;> cases (p.amount != 0) <;> cases (p.buy != 0) <;> cases (p.get != 0) <;> cases tiersB p.tiers <;> simp
      · refine Fits (right_pre 6 _ 224 (headL p && tiersB p.tiers && _) p l w h1 h2 (by omega) rfl rfl fun wc g4 g5 u0 u1 u2 u3 u6 u7 u8 u9 u10 u11 u12 u13 u14 u15 u16 u17 u18 u19 u20 u21 u22 u23 u24 u25 u26 u27 u28 u29 u30 u31 u32 u33 u34 u35 u36 u37 u38 u39 u40 u41 u42 hAs => rest_tiersRight 224 (hasP p) _ _ _ p l w wc g4 g5 u0 u1 u2 u3 u6 u7 u8 u9 u10 u11 u12 u13 u14 u15 u16 u17 u18 u19 u20 u21 u22 u23 u24 u25 u26 u27 u28 u29 u30 u31 u32 u33 u34 u35 u36 u37 u38 u39 u40 u41 u42 hAs hH (fun W hW => tiers_any p l W (Pr.holds_later h hW).tiers.row) hA (may_tiers _ _ _ _ _ _ _ _)) ?_
        rw [hd, Bool.and_assoc]
        congr 1
        unfold kindB
        rw [if_neg (by omega), if_neg (by omega), if_neg (by omega), if_neg (by omega), if_neg (by omega)]
        unfold noBuy noParts
        rw [zero_ne p.rate, zero_ne p.amount, zero_ne p.buy, zero_ne p.get, none_pos]
        cases (p.rate != 0) <;> cases (p.amount != 0) <;> cases (p.buy != 0) <;> cases (p.get != 0) <;> cases tiersB p.tiers <;> simp
      · refine Fits (right_pre 7 _ 1 (headL p && inR p.rate 1 10000 && _) p l w h1 h2 (by omega) rfl rfl fun wc g4 g5 u0 u1 u2 u3 u6 u7 u8 u9 u10 u11 u12 u13 u14 u15 u16 u17 u18 u19 u20 u21 u22 u23 u24 u25 u26 u27 u28 u29 u30 u31 u32 u33 u34 u35 u36 u37 u38 u39 u40 u41 u42 hAs => rest_rateRight 1 (hasP p) _ _ _ p l w wc g4 g5 u0 u1 u2 u3 u6 u7 u8 u9 u10 u11 u12 u13 u14 u15 u16 u17 u18 u19 u20 u21 u22 u23 u24 u25 u26 u27 u28 u29 u30 u31 u32 u33 u34 u35 u36 u37 u38 u39 u40 u41 u42 hAs hH (fun W hW => rate_any p l W) hA (may_ship _ _ _ _ _ _ _ _)) ?_
        rw [hd, Bool.and_assoc]
        congr 1
        unfold kindB
        rw [if_neg (by omega), if_neg (by omega), if_neg (by omega), if_neg (by omega), if_pos hk]
        unfold someB noBuy noParts noTiers allB
        rw [amount_in, zero_ne p.amount, zero_ne p.buy, zero_ne p.get, none_pos, none_pos, both_pos]
        cases decide (1 ≤ p.rate) <;> cases decide (p.rate ≤ 10000) <;> simp [Bool.and_assoc]
    · exact Fits (right_no p l w (.inr (by omega))) (by unfold promoB; rw [head_eq, decide_eq_false h2]; simp)
  · exact Fits (right_no p l w (.inl (by omega))) (by unfold promoB; rw [head_eq, decide_eq_false h1]; simp)
end Go.Proofs.YtfcmhgneijipgaaGreat.Pm

end

section
set_option maxRecDepth 100000
set_option linter.unusedVariables false
namespace Go.Proofs.YtfcmhgneijipgaaGreat.Hp
open Go.ChangeShapes Go.WideShapes Go.ChangeAt Go.RowKit
open Kd (Kind Row Own Cells Fit Agree Lst Sl kInt kStr kFlag kList Filling Owned eqL eqL_len eqL_no eqL_yes eqL_refl eqL_iff Two rows_get row_str row_int row_list)
theorem ag_of {F : Nat → Prop} {w wr W : World} (hF : ∀ b, F b → b < w.heap.size) (h : Below w.heap.size w wr) (hW : Below wr.heap.size wr W) : Agree F wr W := fun b hb => hW.block b (Nat.lt_of_lt_of_le (hF b hb) h.size)
theorem one_str (x y : ByteArray) (w : World) : Calls Tryz.prog 160 #[.string x, .string y] w fun e w' => e = .returned (.bool (Sr.same x y)) ∧ w' = w := by
  go_enter Tryz.func160, Tryz.ntmps160
  go_wp2
  go_ret
  exact ⟨rfl, rfl⟩
set_option maxHeartbeats 1000000 in
theorem same_str (A C : Option Addr) (n m ca cc : Nat) (xs ys : List ByteArray) (F : Nat → Prop) (w : World) (ha : Row kStr w F A n xs) (hc : Row kStr w F C m ys) (hF : ∀ b, F b → b < w.heap.size) (hn : n ≤ 9223372036854775807) :
    Calls Tryz.prog 159 #[.slice A n ca, .slice C m cc, .func (.func 160) #[] #[]] w fun e w' => e = .returned (.bool (eqL Sr.same xs ys)) ∧ Below w.heap.size w w' := by
  have hl := ha.len
  have hl2 := hc.len
  have HL := Lib.hid (And.intro hl hl2)
  have HF := Lib.hid hF
  by_cases hnm : n = m
  · subst hnm
    have b0 : ((n : Int) != (n : Int)) = false := by simp
    have HT0 := Lib.hid (Two.mk ha hc (Below.refl w.heap.size w))
    clear ha hc hl hl2 hF
    go_enter Tryz.func159, Tryz.ntmps159
    go_wp2
    go_loopw [7] (fun s wr => ∃ k : Nat, s = .int .i64 k ∧ k ≤ n ∧ Hid (Two kStr w wr F A C n n xs ys) ∧ Hid (∀ (j : Nat) (x y : ByteArray), j < k → xs[j]? = some x → ys[j]? = some y → Sr.same x y = true)) (fun s _ => n - (intOf s).toNat)
    case atStart => exact ⟨0, rfl, by omega, HT0, Lib.hid fun j x y hj => by omega⟩
    case round =>
      clear HT0
      obtain ⟨k, rfl, hk, HT, HE⟩ := hrel
      by_cases hlt : k < n
      · obtain ⟨x, y, hx, hy⟩ := rows_get HT.out.a HT.out.c hlt
        obtain ⟨g, o, rfl, hg1, hg2, _, a0⟩ := row_str HT.out.a hx
        obtain ⟨g', o', rfl, hg3, hg4, _, d0⟩ := row_str HT.out.c hy
        have k0 : (0 : Int) ≤ (k : Int) := by omega
        have k1 : (k : Int) < (n : Int) := by omega
        have HXY := Lib.hid (And.intro hx hy)
        have HO : Hid (∀ W, Below wr.heap.size wr W → Calls Tryz.prog 160 #[.string x, .string y] W fun e w' => e = .returned (.bool (Sr.same x y)) ∧ Below wr.heap.size wr w') := Lib.hid fun W hW => (one_str x y W).mono fun e w' h => ⟨h.1, h.2 ▸ hW⟩
        have c0 : ∀ u, Below wr.heap.size wr u → u.cell? ⟨g, o + k, none⟩ = some (.string x) := fun u hu => (hu.cell (p := ⟨g, _, none⟩) hg2).trans a0
        have e0 : ∀ u, Below wr.heap.size wr u → u.cell? ⟨g', o' + k, none⟩ = some (.string y) := fun u hu => (hu.cell (p := ⟨g', _, none⟩) hg4).trans d0
        clear a0 d0 hx hy hg1 hg2 hg3 hg4 
        cases hB : Sr.same x y with
        | true =>
          rw [hB] at HO
          have HB := Lib.hid hB
          clear hB
          go_wp2_with fail
          go_region_held3 (fun u => Below wr.heap.size wr u)
            (first
              | assumption
              | exact (Below.refl _ _).drew
              | exact Below.refl _ _)
            (first
              | (go_at_call 160; refine (HO.out _ (by first | assumption | exact (Below.refl _ _).drew)).mono ?_; rintro e wz ⟨rfl, hz⟩))
          have HT2 := Lib.hid (HT.out.on HF.out hz)
          clear hz
          go_wp2
          go_roundw
          case rel => exact ⟨k + 1, by go_num, by omega, HT2, Lib.hid fun j x' y' hj hx' hy' => by
            rcases Nat.lt_or_ge j k with h | h
            · exact HE.out j x' y' h hx' hy'
            · obtain rfl : j = k := by omega
              rw [HXY.out.1] at hx'
              rw [HXY.out.2] at hy'
              injection hx' with hx'
              injection hy' with hy'
              subst hx' hy'
              exact HB.out⟩
          case measure => simp [intOf]; omega
        | false =>
          rw [hB] at HO
          have HG := Lib.hid (eqL_no HXY.out.1 HXY.out.2 hB)
          clear hB
          go_wp2_with fail
          go_region_held3 (fun u => Below wr.heap.size wr u)
            (first
              | assumption
              | exact (Below.refl _ _).drew
              | exact Below.refl _ _)
            (first
              | (go_at_call 160; refine (HO.out _ (by first | assumption | exact (Below.refl _ _).drew)).mono ?_; rintro e wz ⟨rfl, hz⟩))
          have HT2 := Lib.hid (HT.out.on HF.out hz)
          clear hz
          go_wp2
          go_ret
          exact ⟨by rw [HG.out]; rfl, HT2.out.below⟩
      · have k1 : ¬ (k : Int) < (n : Int) := by omega
        have HG := Lib.hid (eqL_yes (eq := Sr.same) (HL.out.1.trans HL.out.2.symm) fun j x y hx hy => HE.out j x y (by
          have := (List.getElem?_eq_some_iff.1 hx).1
          rw [HL.out.1] at this
          omega) hx hy)
        go_wp2
        go_ret
        exact ⟨by rw [HG.out]; rfl, HT.out.below⟩
  · have b0 : ((n : Int) != (m : Int)) = true := by rw [bne_iff_ne]; omega
    have HG := Lib.hid (eqL_len (eq := Sr.same) (xs := xs) (ys := ys) (by omega))
    clear ha hc hl hl2 hnm hF
    go_enter Tryz.func159, Tryz.ntmps159
    go_wp2
    go_ret
    exact ⟨by rw [HG.out]; rfl, Below.refl _ _⟩
theorem plain_str (A C : Option Addr) (n m ca cc : Nat) (xs ys : List ByteArray) (F : Nat → Prop) (w : World) (ha : Row kStr w F A n xs) (hc : Row kStr w F C m ys) (hF : ∀ b, F b → b < w.heap.size) (hn : n ≤ 9223372036854775807) :
    Calls Tryz.prog 145 #[.slice A n ca, .slice C m cc] w fun e w' => e = .returned (.bool (eqL Sr.same xs ys)) ∧ Below w.heap.size w w' := by
  have HS := Lib.hid (same_str A C n m ca cc xs ys F w ha hc hF hn)
  clear ha hc hF
  go_enter Tryz.func145, Tryz.ntmps145
  go_wp2_with fail
  refine HS.out.mono ?_
  rintro e w1 ⟨rfl, hb⟩
  have HB := Lib.hid hb
  clear hb
  go_wp2
  go_ret
  exact ⟨rfl, HB.out⟩
def eqI (x y : Int) : Bool := x == y
theorem one_int (x y : Int) (w : World) : Calls Tryz.prog 149 #[.int .i64 x, .int .i64 y] w fun e w' => e = .returned (.bool (eqI x y)) ∧ w' = w := by
  go_enter Tryz.func149, Tryz.ntmps149
  go_wp2
  go_ret
  exact ⟨rfl, rfl⟩
set_option maxHeartbeats 1000000 in
theorem same_int (A C : Option Addr) (n m ca cc : Nat) (xs ys : List Int) (F : Nat → Prop) (w : World) (ha : Row kInt w F A n xs) (hc : Row kInt w F C m ys) (hF : ∀ b, F b → b < w.heap.size) (hn : n ≤ 9223372036854775807) :
    Calls Tryz.prog 148 #[.slice A n ca, .slice C m cc, .func (.func 149) #[] #[]] w fun e w' => e = .returned (.bool (eqL eqI xs ys)) ∧ Below w.heap.size w w' := by
  have hl := ha.len
  have hl2 := hc.len
  have HL := Lib.hid (And.intro hl hl2)
  have HF := Lib.hid hF
  by_cases hnm : n = m
  · subst hnm
    have b0 : ((n : Int) != (n : Int)) = false := by simp
    have HT0 := Lib.hid (Two.mk ha hc (Below.refl w.heap.size w))
    clear ha hc hl hl2 hF
    go_enter Tryz.func148, Tryz.ntmps148
    go_wp2
    go_loopw [7] (fun s wr => ∃ k : Nat, s = .int .i64 k ∧ k ≤ n ∧ Hid (Two kInt w wr F A C n n xs ys) ∧ Hid (∀ (j : Nat) (x y : Int), j < k → xs[j]? = some x → ys[j]? = some y → eqI x y = true)) (fun s _ => n - (intOf s).toNat)
    case atStart => exact ⟨0, rfl, by omega, HT0, Lib.hid fun j x y hj => by omega⟩
    case round =>
      clear HT0
      obtain ⟨k, rfl, hk, HT, HE⟩ := hrel
      by_cases hlt : k < n
      · obtain ⟨x, y, hx, hy⟩ := rows_get HT.out.a HT.out.c hlt
        obtain ⟨g, o, rfl, hg1, hg2, _, a0⟩ := row_int HT.out.a hx
        obtain ⟨g', o', rfl, hg3, hg4, _, d0⟩ := row_int HT.out.c hy
        have k0 : (0 : Int) ≤ (k : Int) := by omega
        have k1 : (k : Int) < (n : Int) := by omega
        have HXY := Lib.hid (And.intro hx hy)
        have HO : Hid (∀ W, Below wr.heap.size wr W → Calls Tryz.prog 149 #[.int .i64 x, .int .i64 y] W fun e w' => e = .returned (.bool (eqI x y)) ∧ Below wr.heap.size wr w') := Lib.hid fun W hW => (one_int x y W).mono fun e w' h => ⟨h.1, h.2 ▸ hW⟩
        have c0 : ∀ u, Below wr.heap.size wr u → u.cell? ⟨g, o + k, none⟩ = some (.int .i64 x) := fun u hu => (hu.cell (p := ⟨g, _, none⟩) hg2).trans a0
        have e0 : ∀ u, Below wr.heap.size wr u → u.cell? ⟨g', o' + k, none⟩ = some (.int .i64 y) := fun u hu => (hu.cell (p := ⟨g', _, none⟩) hg4).trans d0
        clear a0 d0 hx hy hg1 hg2 hg3 hg4 
        cases hB : eqI x y with
        | true =>
          rw [hB] at HO
          have HB := Lib.hid hB
          clear hB
          go_wp2_with fail
          go_region_held3 (fun u => Below wr.heap.size wr u)
            (first
              | assumption
              | exact (Below.refl _ _).drew
              | exact Below.refl _ _)
            (first
              | (go_at_call 149; refine (HO.out _ (by first | assumption | exact (Below.refl _ _).drew)).mono ?_; rintro e wz ⟨rfl, hz⟩))
          have HT2 := Lib.hid (HT.out.on HF.out hz)
          clear hz
          go_wp2
          go_roundw
          case rel => exact ⟨k + 1, by go_num, by omega, HT2, Lib.hid fun j x' y' hj hx' hy' => by
            rcases Nat.lt_or_ge j k with h | h
            · exact HE.out j x' y' h hx' hy'
            · obtain rfl : j = k := by omega
              rw [HXY.out.1] at hx'
              rw [HXY.out.2] at hy'
              injection hx' with hx'
              injection hy' with hy'
              subst hx' hy'
              exact HB.out⟩
          case measure => simp [intOf]; omega
        | false =>
          rw [hB] at HO
          have HG := Lib.hid (eqL_no HXY.out.1 HXY.out.2 hB)
          clear hB
          go_wp2_with fail
          go_region_held3 (fun u => Below wr.heap.size wr u)
            (first
              | assumption
              | exact (Below.refl _ _).drew
              | exact Below.refl _ _)
            (first
              | (go_at_call 149; refine (HO.out _ (by first | assumption | exact (Below.refl _ _).drew)).mono ?_; rintro e wz ⟨rfl, hz⟩))
          have HT2 := Lib.hid (HT.out.on HF.out hz)
          clear hz
          go_wp2
          go_ret
          exact ⟨by rw [HG.out]; rfl, HT2.out.below⟩
      · have k1 : ¬ (k : Int) < (n : Int) := by omega
        have HG := Lib.hid (eqL_yes (eq := eqI) (HL.out.1.trans HL.out.2.symm) fun j x y hx hy => HE.out j x y (by
          have := (List.getElem?_eq_some_iff.1 hx).1
          rw [HL.out.1] at this
          omega) hx hy)
        go_wp2
        go_ret
        exact ⟨by rw [HG.out]; rfl, HT.out.below⟩
  · have b0 : ((n : Int) != (m : Int)) = true := by rw [bne_iff_ne]; omega
    have HG := Lib.hid (eqL_len (eq := eqI) (xs := xs) (ys := ys) (by omega))
    clear ha hc hl hl2 hnm hF
    go_enter Tryz.func148, Tryz.ntmps148
    go_wp2
    go_ret
    exact ⟨by rw [HG.out]; rfl, Below.refl _ _⟩
theorem plain_int (A C : Option Addr) (n m ca cc : Nat) (xs ys : List Int) (F : Nat → Prop) (w : World) (ha : Row kInt w F A n xs) (hc : Row kInt w F C m ys) (hF : ∀ b, F b → b < w.heap.size) (hn : n ≤ 9223372036854775807) :
    Calls Tryz.prog 120 #[.slice A n ca, .slice C m cc] w fun e w' => e = .returned (.bool (eqL eqI xs ys)) ∧ Below w.heap.size w w' := by
  have HS := Lib.hid (same_int A C n m ca cc xs ys F w ha hc hF hn)
  clear ha hc hF
  go_enter Tryz.func120, Tryz.ntmps120
  go_wp2_with fail
  refine HS.out.mono ?_
  rintro e w1 ⟨rfl, hb⟩
  have HB := Lib.hid hb
  clear hb
  go_wp2
  go_ret
  exact ⟨rfl, HB.out⟩
end Go.Proofs.YtfcmhgneijipgaaGreat.Hp

end

section
set_option maxRecDepth 100000
set_option linter.unusedVariables false
namespace Go.Proofs.YtfcmhgneijipgaaGreat.Pm
open Go.ChangeShapes Go.WideShapes Go.ChangeAt Go.RowKit
open Sc (hasB)
def lit (s : ByteArray) : Lit := .string s.data.toList
theorem lit_key (s : ByteArray) : WideAt.IsKeyLit (lit s) := by unfold WideAt.IsKeyLit lit; trivial
theorem lit_same (a s : ByteArray) : (lit a).sameKey (lit s) = Sr.same a s := by
  unfold lit Lit.sameKey Sr.same
  rw [ByteArray.toList_eq, ByteArray.toList_eq]
abbrev unit : DataW Unit := .agg []
abbrev setD (l : List ByteArray) : DataW Unit := Maps.setOf unit (l.map lit)
theorem set_keys (l : List ByteArray) : ∀ x ∈ l.map lit, WideAt.IsKeyLit x := fun x hx => by
  obtain ⟨s, _, rfl⟩ := List.mem_map.1 hx
  exact lit_key s
theorem set_has (l : List ByteArray) (s : ByteArray) : Maps.has (setD l) (lit s) = hasB l s := by
  unfold setD
  rw [Maps.has_setOf unit (lit s) (l.map lit) (set_keys l), List.any_map]
  unfold hasB
  congr 1
  funext a
  exact lit_same a s
theorem set_snoc (l : List ByteArray) (s : ByteArray) : setD (l ++ [s]) = (setD l).put (lit s) unit := by
  unfold setD
  rw [List.map_append]
  exact Maps.setOf_snoc unit (l.map lit) (lit s)
theorem set_more (l : List ByteArray) (s : ByteArray) : Maps.size (setD (l ++ [s])) = if hasB l s then Maps.size (setD l) else Maps.size (setD l) + 1 := by
  rw [set_snoc, Maps.size_put (Maps.tidy_setOf unit (l.map lit) (set_keys l)), set_has]
theorem string_keys : Maps.Keyed Tryz.prog 9 := Maps.string_keyed Tryz.underlying9
def SetAt (w : World) (b : Nat) (l : List ByteArray) : Prop := w.ownsMap Tryz.prog 9 unitElem b l.length (setD l)
section
variable {w w' : World} {b : Nat} {l : List ByteArray}
theorem SetAt.made (w : World) : SetAt (w.alloc (.map #[] 0)) w.heap.size [] := World.ownsMap_made w Tryz.prog 9 unitElem
theorem SetAt.below (h : SetAt w b l) (hb : Below w.heap.size w w') : SetAt w' b l := World.ownsMap.kept (row := none) h (Qu.turned_none hb _) (by simp)
theorem SetAt.put (h : SetAt w b l) (hl : l.length < 1000000000000) {s : ByteArray} (hs : s.size ≤ maxLen) : ∃ w', (Instr.mapUpdate 97 (.map (some b)) (.string s) (.agg #[])).run Tryz.prog w = .ok () w' ∧ SetAt w' b (l ++ [s]) ∧ w.grownBy w' (some b) := by
  obtain ⟨w', h1, h2, h3⟩ := World.ownsMap.store h string_keys Tryz.underlying97 (by unfold maxLen; omega) (Go.WideMaps.keyOf_string_mk Tryz.underlying9 hs) unitElem_mk
  refine ⟨w', h1, ?_, h3.grown⟩
  unfold SetAt
  rw [set_snoc, List.length_append]
  exact h2
end
theorem make_set (W : World) (k : Int) : (Instr.makeMap 97 (some (.int .i64 k))).run Tryz.prog W = .ok (.map (some W.heap.size)) (W.alloc (.map #[] 0)) := by
  have hu := Tryz.underlying97
  unfold Instr.makeMap
  simp only [Sem.run_bind, run_underlying hu, Result.andThen_ok]
  rfl
section
variable {w : World} {ops : Array Oper} {rest : List Oper} {o : Oper} {a : Act} {Q : Exit → Act → World → Prop} {b : Nat} {l : List ByteArray}
end
end Go.Proofs.YtfcmhgneijipgaaGreat.Pm

end
