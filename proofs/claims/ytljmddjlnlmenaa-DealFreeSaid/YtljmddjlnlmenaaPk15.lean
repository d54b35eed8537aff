/- A promotion whose lists are small enough to be walked. · The landed Right, whole. · What it is that promotions may be together; a promotion's lists of a length that can be walked. -/
import Derived.Test.YtljmddjlnlmenaaPk10
import Derived.Test.YtljmddjlnlmenaaPk13
import Derived.Test.YtljmddjlnlmenaaPk14
import Derived.Test.YtljmddjlnlmenaaPk2

section
set_option maxRecDepth 100000
set_option linter.unusedVariables false
namespace Go.Proofs.Ytljmddjlnlmenaa.Pr
open Go.ChangeShapes Go.WideShapes Go.ChangeAt Go.RowKit
open Ap (Scp Prt Tir Prm)
structure PrmSmall (p : Prm) (l : Prm.Lay) : Prop where
  scope : Sc.Small l.scope
  parts : PartsSmall p.parts
  np : l.parts.n ≤ 1000000000000
  nt : l.tiers.n ≤ 1000000000000
  few : l.scope.skus.n ≤ 1000000000000 ∧ l.scope.cats.n ≤ 1000000000000
theorem headB_def (p : Prm) : headB p = (Sr.name p.id && decide (1 ≤ p.kind) && decide (p.kind ≤ 7) && decide (0 ≤ p.priority) && decide (p.priority ≤ 1000) && blankB p.group && blankB p.code && Sc.scopeB p.scope && inB p.least 10000000000000) := rfl
theorem holds_later {w w1 : World} {p : Prm} {l : Prm.Lay} (h : Ap.Prm.Holds w (· < w.heap.size) p l) (hb1 : Below w.heap.size w w1) : Ap.Prm.Holds w1 (· < w1.heap.size) p l :=
  ⟨h.id, h.kind, h.priority, h.group, h.code, ⟨(h.scope.skus.below hb1 (Nat.le_refl _)).more fun b hb => Nat.lt_of_lt_of_le hb hb1.size, (h.scope.cats.below hb1 (Nat.le_refl _)).more fun b hb => Nat.lt_of_lt_of_le hb hb1.size⟩, h.least, h.rate, h.amount, h.buy, h.get, (h.parts.below hb1 (Nat.le_refl _)).more fun b hb => Nat.lt_of_lt_of_le hb hb1.size, (h.tiers.below hb1 (Nat.le_refl _)).more fun b hb => Nat.lt_of_lt_of_le hb hb1.size⟩
end Go.Proofs.Ytljmddjlnlmenaa.Pr

end

section
set_option maxRecDepth 100000
set_option linter.unusedVariables false
namespace Go.Proofs.Ytljmddjlnlmenaa.Pm
open Go.ChangeShapes Go.WideShapes Go.ChangeAt Go.RowKit
open Ap (Scp Prt Tir Prm kPrt kTir row_Prt row_Tir)
open Kd (Row Lst)
open Pr (promoB headB kindB noBuy noParts noTiers allB someB PrmSmall partsB tiersB)
theorem right_no (p : Prm) (l : Prm.Lay) (w : World) (h : p.kind < 1 ∨ 7 < p.kind) : Calls Try.prog 11 #[.agg #[.string p.id, .int .i64 p.kind, .int .i64 p.priority, .string p.group, .string p.code, .bool p.closes, .slice l.scope.skus.A l.scope.skus.n l.scope.skus.c, .slice l.scope.cats.A l.scope.cats.n l.scope.cats.c, .int .i64 p.least, .int .i64 p.rate, .int .i64 p.amount, .int .i64 p.buy, .int .i64 p.get, .slice l.parts.A l.parts.n l.parts.c, .slice l.tiers.A l.tiers.n l.tiers.c]] w fun e w' => e = .returned (.bool false) ∧ Below w.heap.size w w' := by
  obtain ⟨w1, hw1⟩ : ∃ w1, w.alloc (.cells #[.string p.id, .int .i64 p.kind, .int .i64 p.priority, .string p.group, .string p.code, .bool p.closes, .slice l.scope.skus.A l.scope.skus.n l.scope.skus.c, .slice l.scope.cats.A l.scope.cats.n l.scope.cats.c, .int .i64 p.least, .int .i64 p.rate, .int .i64 p.amount, .int .i64 p.buy, .int .i64 p.get, .slice l.parts.A l.parts.n l.parts.c, .slice l.tiers.A l.tiers.n l.tiers.c] 30) = w1 := ⟨_, rfl⟩
  have hx : Qu.Blk w1 w.heap.size 30 #[.string p.id, .int .i64 p.kind, .int .i64 p.priority, .string p.group, .string p.code, .bool p.closes, .slice l.scope.skus.A l.scope.skus.n l.scope.skus.c, .slice l.scope.cats.A l.scope.cats.n l.scope.cats.c, .int .i64 p.least, .int .i64 p.rate, .int .i64 p.amount, .int .i64 p.buy, .int .i64 p.get, .slice l.parts.A l.parts.n l.parts.c, .slice l.tiers.A l.tiers.n l.tiers.c] := by rw [← hw1]; exact Qu.Blk.new w _ _
  have hb1 : Below w.heap.size w w1 := by rw [← hw1]; exact (Below.refl _ _).alloc (Nat.le_refl _) _
  obtain ⟨w2, hw2⟩ : ∃ w2, w1.alloc (.cells #[.nilFunc, .int .i64 0, .func (.func 22) #[] #[], .int .i64 193, .func (.func 23) #[] #[], .int .i64 194, .func (.func 24) #[] #[], .int .i64 205, .func (.func 25) #[] #[], .int .i64 146, .func (.func 26) #[] #[], .int .i64 224, .func (.func 26) #[] #[], .int .i64 224, .func (.func 22) #[] #[], .int .i64 1] 70) = w2 := ⟨_, rfl⟩
  have hx2 : Qu.Blk w2 w.heap.size 30 #[.string p.id, .int .i64 p.kind, .int .i64 p.priority, .string p.group, .string p.code, .bool p.closes, .slice l.scope.skus.A l.scope.skus.n l.scope.skus.c, .slice l.scope.cats.A l.scope.cats.n l.scope.cats.c, .int .i64 p.least, .int .i64 p.rate, .int .i64 p.amount, .int .i64 p.buy, .int .i64 p.get, .slice l.parts.A l.parts.n l.parts.c, .slice l.tiers.A l.tiers.n l.tiers.c] := by rw [← hw2]; exact hx.alloc _
  have HB2 : Hid (Below w.heap.size w w2) := Lib.hid (by rw [← hw2]; exact hb1.alloc hb1.size _)
  have x1 := hx2.cell 1
  clear hx hb1 hx2
  rcases h with h | h
  · go_enter Try.func11, Try.ntmps11
    go_wp2
    go_ret
    exact ⟨rfl, HB2.out⟩
  · have d1 : ¬ p.kind < 1 := by omega
    have d2 : (8 : Int) ≤ p.kind := by omega
    have d3 : decide ((8 : Int) ≤ p.kind) = true := decide_eq_true d2
    have d4 : decide (p.kind < 1) = false := decide_eq_false d1
    clear h
    go_enter Try.func11, Try.ntmps11
    go_wp2
    go_ret
    exact ⟨rfl, HB2.out⟩
theorem zero_ne (z : Int) : (z == 0) = !(z != 0) := by simp [bne]
theorem none_pos (k : Nat) : (k == 0) = !decide (0 < k) := by
  cases k <;> simp
theorem both_pos (a b : Nat) : ((a == 0) && (b == 0)) = !decide (0 < a + b) := by
  by_cases h : 0 < a + b
  · rw [decide_eq_true h]
    by_cases ha : a = 0
    · have hb : b ≠ 0 := by omega
      simp [ha, hb]
    · simp [ha]
  · rw [decide_eq_false h]
    have ha : a = 0 := by omega
    have hb : b = 0 := by omega
    simp [ha, hb]
theorem amount_in (z b : Int) : inR z 1 b = (decide (1 ≤ z) && decide (z ≤ b)) := rfl
theorem Fits {b1 b2 : Bool} {w : World} {f : Nat} {a : Array Value} (h : Calls Try.prog f a w fun e w' => e = .returned (.bool b1) ∧ Below w.heap.size w w') (e : b1 = b2) : Calls Try.prog f a w fun e w' => e = .returned (.bool b2) ∧ Below w.heap.size w w' := by rw [← e]; exact h
theorem promo_any (p : Prm) (l : Prm.Lay) (w : World) (h : Ap.Prm.Holds w (· < w.heap.size) p l) (hS : PrmSmall p l) :
    Calls Try.prog 11 #[.agg #[.string p.id, .int .i64 p.kind, .int .i64 p.priority, .string p.group, .string p.code, .bool p.closes, .slice l.scope.skus.A l.scope.skus.n l.scope.skus.c, .slice l.scope.cats.A l.scope.cats.n l.scope.cats.c, .int .i64 p.least, .int .i64 p.rate, .int .i64 p.amount, .int .i64 p.buy, .int .i64 p.get, .slice l.parts.A l.parts.n l.parts.c, .slice l.tiers.A l.tiers.n l.tiers.c]] w fun e w' => e = .returned (.bool (promoB p)) ∧ Below w.heap.size w w' := by
  have hH : ∀ W, Below w.heap.size w W → Calls Try.prog 27 #[.agg #[.string p.id, .int .i64 p.kind, .int .i64 p.priority, .string p.group, .string p.code, .bool p.closes, .slice l.scope.skus.A l.scope.skus.n l.scope.skus.c, .slice l.scope.cats.A l.scope.cats.n l.scope.cats.c, .int .i64 p.least, .int .i64 p.rate, .int .i64 p.amount, .int .i64 p.buy, .int .i64 p.get, .slice l.parts.A l.parts.n l.parts.c, .slice l.tiers.A l.tiers.n l.tiers.c]] W fun e w' => e = .returned (.bool (headL p)) ∧ Below W.heap.size W w' := fun W hW => head_any p l W (Pr.holds_later h hW) hS.scope
  have hA : ∀ W, Below w.heap.size w W → Calls Try.prog 28 #[.agg #[.string p.id, .int .i64 p.kind, .int .i64 p.priority, .string p.group, .string p.code, .bool p.closes, .slice l.scope.skus.A l.scope.skus.n l.scope.skus.c, .slice l.scope.cats.A l.scope.cats.n l.scope.cats.c, .int .i64 p.least, .int .i64 p.rate, .int .i64 p.amount, .int .i64 p.buy, .int .i64 p.get, .slice l.parts.A l.parts.n l.parts.c, .slice l.tiers.A l.tiers.n l.tiers.c]] W fun e w' => e = .returned (.int .i64 (hasP p)) ∧ Below W.heap.size W w' := fun W hW => has_any p l W h.parts.row.len h.tiers.row.len h.scope.skus.row.len h.scope.cats.row.len hS.few
  by_cases h1 : 1 ≤ p.kind
  · by_cases h2 : p.kind ≤ 7
    · have hd : promoB p = (headL p && kindB p) := by
        unfold promoB
        rw [head_eq, decide_eq_true h1, decide_eq_true h2]
        simp
      have hc : p.kind = 1 ∨ p.kind = 2 ∨ p.kind = 3 ∨ p.kind = 4 ∨ p.kind = 5 ∨ p.kind = 6 ∨ p.kind = 7 := by omega
      rcases hc with hk | hk | hk | hk | hk | hk | hk
      · refine Fits (right_pre 1 _ 193 (headL p && inR p.rate 1 10000 && _) p l w h1 h2 (by omega) rfl rfl fun wc g4 g5 u0 u1 u2 u3 u6 u7 u8 u9 u10 u11 u12 u13 u14 u15 u16 u17 u18 u19 u20 u21 u22 u23 u24 u25 u26 u27 u28 u29 u30 u31 u32 u33 u34 u35 u36 u37 u38 u39 u40 u41 u42 hAs => rest_rateRight 193 (hasP p) _ _ _ p l w wc g4 g5 u0 u1 u2 u3 u6 u7 u8 u9 u10 u11 u12 u13 u14 u15 u16 u17 u18 u19 u20 u21 u22 u23 u24 u25 u26 u27 u28 u29 u30 u31 u32 u33 u34 u35 u36 u37 u38 u39 u40 u41 u42 hAs hH (fun W hW => rate_any p l W) hA (may_percent _ _ _ _ _ _ _ _)) ?_
        rw [hd, Bool.and_assoc]
        congr 1
        unfold kindB
        rw [if_pos hk]
        unfold someB noBuy noParts noTiers
        rw [amount_in, zero_ne p.amount, zero_ne p.buy, zero_ne p.get, none_pos, none_pos]
        simp only [Bool.and_assoc]
      · refine Fits (right_pre 2 _ 194 (headL p && inR p.amount 1 1000000000 && _) p l w h1 h2 (by omega) rfl rfl fun wc g4 g5 u0 u1 u2 u3 u6 u7 u8 u9 u10 u11 u12 u13 u14 u15 u16 u17 u18 u19 u20 u21 u22 u23 u24 u25 u26 u27 u28 u29 u30 u31 u32 u33 u34 u35 u36 u37 u38 u39 u40 u41 u42 hAs => rest_amountRight 194 (hasP p) _ _ _ p l w wc g4 g5 u0 u1 u2 u3 u6 u7 u8 u9 u10 u11 u12 u13 u14 u15 u16 u17 u18 u19 u20 u21 u22 u23 u24 u25 u26 u27 u28 u29 u30 u31 u32 u33 u34 u35 u36 u37 u38 u39 u40 u41 u42 hAs hH (fun W hW => amount_any p l W) hA (may_amount _ _ _ _ _ _ _ _)) ?_
        rw [hd, Bool.and_assoc]
        congr 1
        unfold kindB
        rw [if_neg (by omega), if_pos hk]
        unfold noBuy noParts noTiers
        rw [amount_in, zero_ne p.rate, zero_ne p.buy, zero_ne p.get, none_pos, none_pos]
        cases decide (1 ≤ p.amount) <;> cases decide (p.amount ≤ 1000000000) <;> cases (p.rate != 0) <;> simp
      · refine Fits (right_pre 3 _ 205 (headL p && rowsB p && _) p l w h1 h2 (by omega) rfl rfl fun wc g4 g5 u0 u1 u2 u3 u6 u7 u8 u9 u10 u11 u12 u13 u14 u15 u16 u17 u18 u19 u20 u21 u22 u23 u24 u25 u26 u27 u28 u29 u30 u31 u32 u33 u34 u35 u36 u37 u38 u39 u40 u41 u42 hAs => rest_rowsRight 205 (hasP p) _ _ _ p l w wc g4 g5 u0 u1 u2 u3 u6 u7 u8 u9 u10 u11 u12 u13 u14 u15 u16 u17 u18 u19 u20 u21 u22 u23 u24 u25 u26 u27 u28 u29 u30 u31 u32 u33 u34 u35 u36 u37 u38 u39 u40 u41 u42 hAs hH (fun W hW => rows_any p l W) hA (may_rows _ _ _ _ _ _ _ _)) ?_
        rw [hd, Bool.and_assoc]
        congr 1
        unfold kindB
        rw [if_neg (by omega), if_neg (by omega), if_pos hk]
        unfold rowsB someB noParts noTiers
        rw [amount_in, amount_in, amount_in, zero_ne p.amount, none_pos, none_pos]
        cases decide (1 ≤ p.rate) <;> cases decide (p.rate ≤ 10000) <;> cases (p.amount != 0) <;> cases decide (1 ≤ p.buy) <;> cases decide (p.buy ≤ 100) <;> cases decide (1 ≤ p.get) <;> cases decide (p.get ≤ 100) <;> simp
      · refine Fits (right_pre 4 _ 146 (headL p && (partsB p.parts && inR p.amount 0 10000000000000) && _) p l w h1 h2 (by omega) rfl rfl fun wc g4 g5 u0 u1 u2 u3 u6 u7 u8 u9 u10 u11 u12 u13 u14 u15 u16 u17 u18 u19 u20 u21 u22 u23 u24 u25 u26 u27 u28 u29 u30 u31 u32 u33 u34 u35 u36 u37 u38 u39 u40 u41 u42 hAs => rest_partsRight 146 (hasP p) _ _ _ p l w wc g4 g5 u0 u1 u2 u3 u6 u7 u8 u9 u10 u11 u12 u13 u14 u15 u16 u17 u18 u19 u20 u21 u22 u23 u24 u25 u26 u27 u28 u29 u30 u31 u32 u33 u34 u35 u36 u37 u38 u39 u40 u41 u42 hAs hH (fun W hW => parts_any p l W (Pr.holds_later h hW).parts.row hS.parts) hA (may_bundle _ _ _ _ _ _ _ _)) ?_
        rw [hd, Bool.and_assoc]
        congr 1
        unfold kindB
        rw [if_neg (by omega), if_neg (by omega), if_neg (by omega), if_pos hk]
        unfold noBuy noTiers allB
        rw [zero_ne p.rate, zero_ne p.buy, zero_ne p.get, none_pos, both_pos, inB_eq]
        cases (p.rate != 0) <;> cases inR p.amount 0 10000000000000 <;> cases (p.buy != 0) <;> cases (p.get != 0) <;> cases partsB p.parts <;> simp
      · refine Fits (right_pre 5 _ 224 (headL p && tiersB p.tiers && _) p l w h1 h2 (by omega) rfl rfl fun wc g4 g5 u0 u1 u2 u3 u6 u7 u8 u9 u10 u11 u12 u13 u14 u15 u16 u17 u18 u19 u20 u21 u22 u23 u24 u25 u26 u27 u28 u29 u30 u31 u32 u33 u34 u35 u36 u37 u38 u39 u40 u41 u42 hAs => rest_tiersRight 224 (hasP p) _ _ _ p l w wc g4 g5 u0 u1 u2 u3 u6 u7 u8 u9 u10 u11 u12 u13 u14 u15 u16 u17 u18 u19 u20 u21 u22 u23 u24 u25 u26 u27 u28 u29 u30 u31 u32 u33 u34 u35 u36 u37 u38 u39 u40 u41 u42 hAs hH (fun W hW => tiers_any p l W (Pr.holds_later h hW).tiers.row) hA (may_tiers _ _ _ _ _ _ _ _)) ?_
        rw [hd, Bool.and_assoc]
        congr 1
        unfold kindB
        rw [if_neg (by omega), if_neg (by omega), if_neg (by omega), if_neg (by omega), if_neg (by omega)]
        unfold noBuy noParts
        rw [zero_ne p.rate, zero_ne p.amount, zero_ne p.buy, zero_ne p.get, none_pos]
        cases (p.rate != 0) <;> cases (p.amount != 0) <;> cases (p.buy != 0) <;> cases (p.get != 0) <;> cases tiersB p.tiers <;> simp
      · refine Fits (right_pre 6 _ 224 (headL p && tiersB p.tiers && _) p l w h1 h2 (by omega) rfl rfl fun wc g4 g5 u0 u1 u2 u3 u6 u7 u8 u9 u10 u11 u12 u13 u14 u15 u16 u17 u18 u19 u20 u21 u22 u23 u24 u25 u26 u27 u28 u29 u30 u31 u32 u33 u34 u35 u36 u37 u38 u39 u40 u41 u42 hAs => rest_tiersRight 224 (hasP p) _ _ _ p l w wc g4 g5 u0 u1 u2 u3 u6 u7 u8 u9 u10 u11 u12 u13 u14 u15 u16 u17 u18 u19 u20 u21 u22 u23 u24 u25 u26 u27 u28 u29 u30 u31 u32 u33 u34 u35 u36 u37 u38 u39 u40 u41 u42 hAs hH (fun W hW => tiers_any p l W (Pr.holds_later h hW).tiers.row) hA (may_tiers _ _ _ _ _ _ _ _)) ?_
        rw [hd, Bool.and_assoc]
        congr 1
        unfold kindB
        rw [if_neg (by omega), if_neg (by omega), if_neg (by omega), if_neg (by omega), if_neg (by omega)]
        unfold noBuy noParts
        rw [zero_ne p.rate, zero_ne p.amount, zero_ne p.buy, zero_ne p.get, none_pos]
        cases (p.rate != 0) <;> cases (p.amount != 0) <;> cases (p.buy != 0) <;> cases (p.get != 0) <;> cases tiersB p.tiers <;> simp
      · refine Fits (right_pre 7 _ 1 (headL p && inR p.rate 1 10000 && _) p l w h1 h2 (by omega) rfl rfl fun wc g4 g5 u0 u1 u2 u3 u6 u7 u8 u9 u10 u11 u12 u13 u14 u15 u16 u17 u18 u19 u20 u21 u22 u23 u24 u25 u26 u27 u28 u29 u30 u31 u32 u33 u34 u35 u36 u37 u38 u39 u40 u41 u42 hAs => rest_rateRight 1 (hasP p) _ _ _ p l w wc g4 g5 u0 u1 u2 u3 u6 u7 u8 u9 u10 u11 u12 u13 u14 u15 u16 u17 u18 u19 u20 u21 u22 u23 u24 u25 u26 u27 u28 u29 u30 u31 u32 u33 u34 u35 u36 u37 u38 u39 u40 u41 u42 hAs hH (fun W hW => rate_any p l W) hA (may_ship _ _ _ _ _ _ _ _)) ?_
        rw [hd, Bool.and_assoc]
        congr 1
        unfold kindB
        rw [if_neg (by omega), if_neg (by omega), if_neg (by omega), if_neg (by omega), if_pos hk]
        unfold someB noBuy noParts noTiers allB
        rw [amount_in, zero_ne p.amount, zero_ne p.buy, zero_ne p.get, none_pos, none_pos, both_pos]
        cases decide (1 ≤ p.rate) <;> cases decide (p.rate ≤ 10000) <;> simp [Bool.and_assoc]
    · exact Fits (right_no p l w (.inr (by omega))) (by unfold promoB; rw [head_eq, decide_eq_false h2]; simp)
  · exact Fits (right_no p l w (.inl (by omega))) (by unfold promoB; rw [head_eq, decide_eq_false h1]; simp)
end Go.Proofs.Ytljmddjlnlmenaa.Pm

end

section
set_option maxRecDepth 100000
set_option linter.unusedVariables false
namespace Go.Proofs.Ytljmddjlnlmenaa.Pm
open Go.ChangeShapes Go.WideShapes Go.ChangeAt Go.RowKit
open Ap (Scp Prt Tir Prm kPrm row_Prm)
open Kd (Row Lst kStr)
open Pr (promoB PrmSmall PartsSmall)
structure Slight (p : Prm) : Prop where
  skus : p.scope.skus.length ≤ 1000000000000
  cats : p.scope.cats.length ≤ 1000000000000
  each : PartsSmall p.parts
  parts : p.parts.length ≤ 1000000000000
  tiers : p.tiers.length ≤ 1000000000000
theorem Slight.small {p : Prm} {l : Prm.Lay} {w : World} {F : Nat → Prop} (h : Slight p) (hh : Ap.Prm.Holds w F p l) : PrmSmall p l :=
  ⟨⟨by have := hh.scope.skus.row.len; have := h.skus; omega, by have := hh.scope.cats.row.len; have := h.cats; omega⟩, h.each, by have := hh.parts.row.len; have := h.parts; omega, by have := hh.tiers.row.len; have := h.tiers; omega, by have := hh.scope.skus.row.len; have := h.skus; omega, by have := hh.scope.cats.row.len; have := h.cats; omega⟩
end Go.Proofs.Ytljmddjlnlmenaa.Pm

end
