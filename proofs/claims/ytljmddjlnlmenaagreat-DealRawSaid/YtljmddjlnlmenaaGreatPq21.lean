/- A promotion whose lists are small enough to be walked. · The landed Right, whole. · What it is that promotions may be to .. -/
import Derived.Deep.CutBlock
import Derived.Deep.DeepCutAuto
import Derived.Test.YtljmddjlnlmenaaGreatPq15
import Derived.Test.YtljmddjlnlmenaaGreatPq16
import Derived.Test.YtljmddjlnlmenaaGreatPq19
import Derived.Test.YtljmddjlnlmenaaGreatPq2
import Derived.Test.YtljmddjlnlmenaaGreatPq20
import Derived.Test.YtljmddjlnlmenaaGreatPq8
set_option maxRecDepth 100000
set_option linter.unusedVariables false

section
namespace Go.Proofs.YtljmddjlnlmenaaGreat.Pr
open Go.ChangeShapes Go.WideShapes Go.ChangeAt Go.RowKit
open Ap (Scp Prt Tir Prm)
structure PrmSmall (p : Prm) (l : Prm.Lay) : Prop where
  scope : Sc.Small l.scope
  parts : PartsSmall p.parts
  np : l.parts.n <= 1000000000000
  nt : l.tiers.n <= 1000000000000
  few : l.scope.skus.n <= 1000000000000 /\ l.scope.cats.n <= 1000000000000
theorem nat_zero (k : Nat) : ((k : Int) == 0) = (k == 0) := by
  by_cases h : k = 0
  . subst h; rfl
  . rw [beq_eq_false_iff_ne.2 h]; exact beq_eq_false_iff_ne.2 (by omega)
theorem headB_def (p : Prm) : headB p = (Sr.name p.id && decide (1 <= p.kind) && decide (p.kind <= 7) && decide (0 <= p.priority) && decide (p.priority <= 1000) && blankB p.group && blankB p.code && Sc.scopeB p.scope && inB p.least 10000000000000) := rfl
theorem holds_later {w w1 : World} {p : Prm} {l : Prm.Lay} (h : Ap.Prm.Holds w (· < w.heap.size) p l) (hb1 : Below w.heap.size w w1) : Ap.Prm.Holds w1 (· < w1.heap.size) p l :=
  ⟨h.id, h.kind, h.priority, h.group, h.code, ⟨(h.scope.skus.below hb1 (Nat.le_refl _)).more fun b hb => Nat.lt_of_lt_of_le hb hb1.size, (h.scope.cats.below hb1 (Nat.le_refl _)).more fun b hb => Nat.lt_of_lt_of_le hb hb1.size⟩, h.least, h.rate, h.amount, h.buy, h.get, (h.parts.below hb1 (Nat.le_refl _)).more fun b hb => Nat.lt_of_lt_of_le hb hb1.size, (h.tiers.below hb1 (Nat.le_refl _)).more fun b hb => Nat.lt_of_lt_of_le hb hb1.size⟩
end Go.Proofs.YtljmddjlnlmenaaGreat.Pr

end

section
namespace Go.Proofs.YtljmddjlnlmenaaGreat.Pm
open Go.ChangeShapes Go.WideShapes Go.ChangeAt Go.RowKit
open Ap (Scp Prt Tir Prm kPrt kTir row_Prt row_Tir)
open Kd (Row Lst)
open Pr (promoB headB kindB noBuy noParts noTiers allB someB PrmSmall partsB tiersB)
theorem right_no (p : Prm) (l : Prm.Lay) (w : World) (h : p.kind < 1 \/ 7 < p.kind) : Calls Tryz.prog 25 #[.agg #[.string p.id, .int .i64 p.kind, .int .i64 p.priority, .string p.group, .string p.code, .bool p.closes, .slice l.scope.skus.A l.scope.skus.n l.scope.skus.c, .slice l.scope.cats.A l.scope.cats.n l.scope.cats.c, .int .i64 p.least, .int .i64 p.rate, .int .i64 p.amount, .int .i64 p.buy, .int .i64 p.get, .slice l.parts.A l.parts.n l.parts.c, .slice l.tiers.A l.tiers.n l.tiers.c]] w fun e w' => e = .returned (.bool false) /\ Below w.heap.size w w' := by
  obtain ⟨w1, hw1⟩ : ∃ w1, w.alloc (.cells #[.string p.id, .int .i64 p.kind, .int .i64 p.priority, .string p.group, .string p.code, .bool p.closes, .slice l.scope.skus.A l.scope.skus.n l.scope.skus.c, .slice l.scope.cats.A l.scope.cats.n l.scope.cats.c, .int .i64 p.least, .int .i64 p.rate, .int .i64 p.amount, .int .i64 p.buy, .int .i64 p.get, .slice l.parts.A l.parts.n l.parts.c, .slice l.tiers.A l.tiers.n l.tiers.c] 28) = w1 := ⟨_, rfl⟩
  have hx : Qu.Blk w1 w.heap.size 28 #[.string p.id, .int .i64 p.kind, .int .i64 p.priority, .string p.group, .string p.code, .bool p.closes, .slice l.scope.skus.A l.scope.skus.n l.scope.skus.c, .slice l.scope.cats.A l.scope.cats.n l.scope.cats.c, .int .i64 p.least, .int .i64 p.rate, .int .i64 p.amount, .int .i64 p.buy, .int .i64 p.get, .slice l.parts.A l.parts.n l.parts.c, .slice l.tiers.A l.tiers.n l.tiers.c] := by rw [<- hw1]; exact Qu.Blk.new w _ _
  have hb1 : Below w.heap.size w w1 := by rw [<- hw1]; exact (Below.refl _ _).alloc (Nat.le_refl _) _
  obtain ⟨w2, hw2⟩ : ∃ w2, w1.alloc (.cells #[.nilFunc, .int .i64 0, .func (.func 50) #[] #[], .int .i64 193, .func (.func 51) #[] #[], .int .i64 194, .func (.func 52) #[] #[], .int .i64 205, .func (.func 53) #[] #[], .int .i64 146, .func (.func 54) #[] #[], .int .i64 224, .func (.func 54) #[] #[], .int .i64 224, .func (.func 50) #[] #[], .int .i64 1] 87) = w2 := ⟨_, rfl⟩
  have hx2 : Qu.Blk w2 w.heap.size 28 #[.string p.id, .int .i64 p.kind, .int .i64 p.priority, .string p.group, .string p.code, .bool p.closes, .slice l.scope.skus.A l.scope.skus.n l.scope.skus.c, .slice l.scope.cats.A l.scope.cats.n l.scope.cats.c, .int .i64 p.least, .int .i64 p.rate, .int .i64 p.amount, .int .i64 p.buy, .int .i64 p.get, .slice l.parts.A l.parts.n l.parts.c, .slice l.tiers.A l.tiers.n l.tiers.c] := by rw [<- hw2]; exact hx.alloc _
  have HB2 : Hid (Below w.heap.size w w2) := Lib.hid (by rw [<- hw2]; exact hb1.alloc hb1.size _)
  have x1 := hx2.cell 1
  clear hx hb1 hx2
  rcases h with h | h
  . go_enter Tryz.func25, Tryz.ntmps25
    go_wp2
    go_ret
    exact ⟨rfl, HB2.out⟩
  . have d1 : ¬ p.kind < 1 := by omega
    have d2 : (8 : Int) <= p.kind := by omega
    have d3 : decide ((8 : Int) <= p.kind) = true := decide_eq_true d2
    have d4 : decide (p.kind < 1) = false := decide_eq_false d1
    clear h
    go_enter Tryz.func25, Tryz.ntmps25
    go_wp2
    go_ret
    exact ⟨rfl, HB2.out⟩
theorem zero_ne (z : Int) : (z == 0) = !(z != 0) := by simp [bne]
theorem none_pos (k : Nat) : (k == 0) = !decide (0 < k) := by
  cases k <;> simp
theorem both_pos (a b : Nat) : ((a == 0) && (b == 0)) = !decide (0 < a + b) := by
  by_cases h : 0 < a + b
  . rw [decide_eq_true h]
    by_cases ha : a = 0
    . have hb : b ≠ 0 := by omega
      simp [ha, hb]
    . simp [ha]
  . rw [decide_eq_false h]
    have ha : a = 0 := by omega
    have hb : b = 0 := by omega
    simp [ha, hb]
theorem amount_in (z b : Int) : inR z 1 b = (decide (1 <= z) && decide (z <= b)) := rfl
theorem Fits {b1 b2 : Bool} {w : World} {f : Nat} {a : Array Value} (h : Calls Tryz.prog f a w fun e w' => e = .returned (.bool b1) /\ Below w.heap.size w w') (e : b1 = b2) : Calls Tryz.prog f a w fun e w' => e = .returned (.bool b2) /\ Below w.heap.size w w' := by rw [<- e]; exact h
theorem promo_any (p : Prm) (l : Prm.Lay) (w : World) (h : Ap.Prm.Holds w (· < w.heap.size) p l) (hS : PrmSmall p l) :
    Calls Tryz.prog 25 #[.agg #[.string p.id, .int .i64 p.kind, .int .i64 p.priority, .string p.group, .string p.code, .bool p.closes, .slice l.scope.skus.A l.scope.skus.n l.scope.skus.c, .slice l.scope.cats.A l.scope.cats.n l.scope.cats.c, .int .i64 p.least, .int .i64 p.rate, .int .i64 p.amount, .int .i64 p.buy, .int .i64 p.get, .slice l.parts.A l.parts.n l.parts.c, .slice l.tiers.A l.tiers.n l.tiers.c]] w fun e w' => e = .returned (.bool (promoB p)) /\ Below w.heap.size w w' := by
  have hH : ∀ W, Below w.heap.size w W -> Calls Tryz.prog 55 #[.agg #[.string p.id, .int .i64 p.kind, .int .i64 p.priority, .string p.group, .string p.code, .bool p.closes, .slice l.scope.skus.A l.scope.skus.n l.scope.skus.c, .slice l.scope.cats.A l.scope.cats.n l.scope.cats.c, .int .i64 p.least, .int .i64 p.rate, .int .i64 p.amount, .int .i64 p.buy, .int .i64 p.get, .slice l.parts.A l.parts.n l.parts.c, .slice l.tiers.A l.tiers.n l.tiers.c]] W fun e w' => e = .returned (.bool (headL p)) /\ Below W.heap.size W w' := fun W hW => head_any p l W (Pr.holds_later h hW) hS.scope
  have hA : ∀ W, Below w.heap.size w W -> Calls Tryz.prog 56 #[.agg #[.string p.id, .int .i64 p.kind, .int .i64 p.priority, .string p.group, .string p.code, .bool p.closes, .slice l.scope.skus.A l.scope.skus.n l.scope.skus.c, .slice l.scope.cats.A l.scope.cats.n l.scope.cats.c, .int .i64 p.least, .int .i64 p.rate, .int .i64 p.amount, .int .i64 p.buy, .int .i64 p.get, .slice l.parts.A l.parts.n l.parts.c, .slice l.tiers.A l.tiers.n l.tiers.c]] W fun e w' => e = .returned (.int .i64 (hasP p)) /\ Below W.heap.size W w' := fun W hW => has_any p l W h.parts.row.len h.tiers.row.len h.scope.skus.row.len h.scope.cats.row.len hS.few
  by_cases h1 : 1 <= p.kind
  . by_cases h2 : p.kind <= 7
    . have hd : promoB p = (headL p && kindB p) := by
        unfold promoB
        rw [head_eq, decide_eq_true h1, decide_eq_true h2]
        simp
      have hc : p.kind = 1 \/ p.kind = 2 \/ p.kind = 3 \/ p.kind = 4 \/ p.kind = 5 \/ p.kind = 6 \/ p.kind = 7 := by omega
      rcases hc with hk | hk | hk | hk | hk | hk | hk
      . refine Fits (right_pre 1 _ 193 (headL p && inR p.rate 1 10000 && _) p l w h1 h2 (by omega) rfl rfl fun wc g4 g5 u0 u1 u2 u3 u6 u7 u8 u9 u10 u11 u12 u13 u14 u15 u16 u17 u18 u19 u20 u21 u22 u23 u24 u25 u26 u27 u28 u29 u30 u31 u32 u33 u34 u35 u36 u37 u38 u39 u40 u41 u42 hAs => rest_rateRight 193 (hasP p) _ _ _ p l w wc g4 g5 u0 u1 u2 u3 u6 u7 u8 u9 u10 u11 u12 u13 u14 u15 u16 u17 u18 u19 u20 u21 u22 u23 u24 u25 u26 u27 u28 u29 u30 u31 u32 u33 u34 u35 u36 u37 u38 u39 u40 u41 u42 hAs hH (fun W hW => rate_any p l W) hA (may_percent _ _ _ _ _ _ _ _)) ?_
        rw [hd, Bool.and_assoc]
        congr 1
        unfold kindB
        rw [if_pos hk]
        unfold someB noBuy noParts noTiers
        rw [amount_in, zero_ne p.amount, zero_ne p.buy, zero_ne p.get, none_pos, none_pos]
        simp only [Bool.and_assoc]
      . refine Fits (right_pre 2 _ 194 (headL p && inR p.amount 1 1000000000 && _) p l w h1 h2 (by omega) rfl rfl fun wc g4 g5 u0 u1 u2 u3 u6 u7 u8 u9 u10 u11 u12 u13 u14 u15 u16 u17 u18 u19 u20 u21 u22 u23 u24 u25 u26 u27 u28 u29 u30 u31 u32 u33 u34 u35 u36 u37 u38 u39 u40 u41 u42 hAs => rest_amountRight 194 (hasP p) _ _ _ p l w wc g4 g5 u0 u1 u2 u3 u6 u7 u8 u9 u10 u11 u12 u13 u14 u15 u16 u17 u18 u19 u20 u21 u22 u23 u24 u25 u26 u27 u28 u29 u30 u31 u32 u33 u34 u35 u36 u37 u38 u39 u40 u41 u42 hAs hH (fun W hW => amount_any p l W) hA (may_amount _ _ _ _ _ _ _ _)) ?_
        rw [hd, Bool.and_assoc]
        congr 1
        unfold kindB
        rw [if_neg (by omega), if_pos hk]
        unfold noBuy noParts noTiers
        rw [amount_in, zero_ne p.rate, zero_ne p.buy, zero_ne p.get, none_pos, none_pos]
        cases decide (1 <= p.amount) <;> cases decide (p.amount <= 1000000000) <;> cases (p.rate != 0) <;> simp
      . refine Fits (right_pre 3 _ 205 (headL p && rowsB p && _) p l w h1 h2 (by omega) rfl rfl fun wc g4 g5 u0 u1 u2 u3 u6 u7 u8 u9 u10 u11 u12 u13 u14 u15 u16 u17 u18 u19 u20 u21 u22 u23 u24 u25 u26 u27 u28 u29 u30 u31 u32 u33 u34 u35 u36 u37 u38 u39 u40 u41 u42 hAs => rest_rowsRight 205 (hasP p) _ _ _ p l w wc g4 g5 u0 u1 u2 u3 u6 u7 u8 u9 u10 u11 u12 u13 u14 u15 u16 u17 u18 u19 u20 u21 u22 u23 u24 u25 u26 u27 u28 u29 u30 u31 u32 u33 u34 u35 u36 u37 u38 u39 u40 u41 u42 hAs hH (fun W hW => rows_any p l W) hA (may_rows _ _ _ _ _ _ _ _)) ?_
        rw [hd, Bool.and_assoc]
        congr 1
        unfold kindB
        rw [if_neg (by omega), if_neg (by omega), if_pos hk]
        unfold rowsB someB noParts noTiers
        rw [amount_in, amount_in, amount_in, zero_ne p.amount, none_pos, none_pos]
        cases decide (1 <= p.rate) <;> cases decide (p.rate <= 10000) <;> cases (p.amount != 0) <;> cases decide (1 <= p.buy) <;> cases decide (p.buy <= 100) <;> cases decide (1 <= p.get) <;> cases decide (p.get <= 100) <;> simp
      . refine Fits (right_pre 4 _ 146 (headL p && (partsB p.parts && inR p.amount 0 10000000000000) && _) p l w h1 h2 (by omega) rfl rfl fun wc g4 g5 u0 u1 u2 u3 u6 u7 u8 u9 u10 u11 u12 u13 u14 u15 u16 u17 u18 u19 u20 u21 u22 u23 u24 u25 u26 u27 u28 u29 u30 u31 u32 u33 u34 u35 u36 u37 u38 u39 u40 u41 u42 hAs => rest_partsRight 146 (hasP p) _ _ _ p l w wc g4 g5 u0 u1 u2 u3 u6 u7 u8 u9 u10 u11 u12 u13 u14 u15 u16 u17 u18 u19 u20 u21 u22 u23 u24 u25 u26 u27 u28 u29 u30 u31 u32 u33 u34 u35 u36 u37 u38 u39 u40 u41 u42 hAs hH (fun W hW => parts_any p l W (Pr.holds_later h hW).parts.row hS.parts) hA (may_bundle _ _ _ _ _ _ _ _)) ?_
        rw [hd, Bool.and_assoc]
        congr 1
        unfold kindB
        rw [if_neg (by omega), if_neg (by omega), if_neg (by omega), if_pos hk]
        unfold noBuy noTiers allB
        rw [zero_ne p.rate, zero_ne p.buy, zero_ne p.get, none_pos, both_pos, inB_eq]
        cases (p.rate != 0) <;> cases inR p.amount 0 10000000000000 <;> cases (p.buy != 0) <;> cases (p.get != 0) <;> cases partsB p.parts <;> simp
      . refine Fits (right_pre 5 _ 224 (headL p && tiersB p.tiers && _) p l w h1 h2 (by omega) rfl rfl fun wc g4 g5 u0 u1 u2 u3 u6 u7 u8 u9 u10 u11 u12 u13 u14 u15 u16 u17 u18 u19 u20 u21 u22 u23 u24 u25 u26 u27 u28 u29 u30 u31 u32 u33 u34 u35 u36 u37 u38 u39 u40 u41 u42 hAs => rest_tiersRight 224 (hasP p) _ _ _ p l w wc g4 g5 u0 u1 u2 u3 u6 u7 u8 u9 u10 u11 u12 u13 u14 u15 u16 u17 u18 u19 u20 u21 u22 u23 u24 u25 u26 u27 u28 u29 u30 u31 u32 u33 u34 u35 u36 u37 u38 u39 u40 u41 u42 hAs hH (fun W hW => tiers_any p l W (Pr.holds_later h hW).tiers.row) hA (may_tiers _ _ _ _ _ _ _ _)) ?_
        rw [hd, Bool.and_assoc]
        congr 1
        unfold kindB
        rw [if_neg (by omega), if_neg (by omega), if_neg (by omega), if_neg (by omega), if_neg (by omega)]
        unfold noBuy noParts
        rw [zero_ne p.rate, zero_ne p.amount, zero_ne p.buy, zero_ne p.get, none_pos]
        cases (p.rate != 0) <;> cases (p.amount != 0) <;> cases (p.buy != 0) <;> cases (p.get != 0) <;> cases tiersB p.tiers <;> simp
      . refine Fits (right_pre 6 _ 224 (headL p && tiersB p.tiers && _) p l w h1 h2 (by omega) rfl rfl fun wc g4 g5 u0 u1 u2 u3 u6 u7 u8 u9 u10 u11 u12 u13 u14 u15 u16 u17 u18 u19 u20 u21 u22 u23 u24 u25 u26 u27 u28 u29 u30 u31 u32 u33 u34 u35 u36 u37 u38 u39 u40 u41 u42 hAs => rest_tiersRight 224 (hasP p) _ _ _ p l w wc g4 g5 u0 u1 u2 u3 u6 u7 u8 u9 u10 u11 u12 u13 u14 u15 u16 u17 u18 u19 u20 u21 u22 u23 u24 u25 u26 u27 u28 u29 u30 u31 u32 u33 u34 u35 u36 u37 u38 u39 u40 u41 u42 hAs hH (fun W hW => tiers_any p l W (Pr.holds_later h hW).tiers.row) hA (may_tiers _ _ _ _ _ _ _ _)) ?_
        rw [hd, Bool.and_assoc]
        congr 1
        unfold kindB
        rw [if_neg (by omega), if_neg (by omega), if_neg (by omega), if_neg (by omega), if_neg (by omega)]
        unfold noBuy noParts
        rw [zero_ne p.rate, zero_ne p.amount, zero_ne p.buy, zero_ne p.get, none_pos]
        cases (p.rate != 0) <;> cases (p.amount != 0) <;> cases (p.buy != 0) <;> cases (p.get != 0) <;> cases tiersB p.tiers <;> simp
      . refine Fits (right_pre 7 _ 1 (headL p && inR p.rate 1 10000 && _) p l w h1 h2 (by omega) rfl rfl fun wc g4 g5 u0 u1 u2 u3 u6 u7 u8 u9 u10 u11 u12 u13 u14 u15 u16 u17 u18 u19 u20 u21 u22 u23 u24 u25 u26 u27 u28 u29 u30 u31 u32 u33 u34 u35 u36 u37 u38 u39 u40 u41 u42 hAs => rest_rateRight 1 (hasP p) _ _ _ p l w wc g4 g5 u0 u1 u2 u3 u6 u7 u8 u9 u10 u11 u12 u13 u14 u15 u16 u17 u18 u19 u20 u21 u22 u23 u24 u25 u26 u27 u28 u29 u30 u31 u32 u33 u34 u35 u36 u37 u38 u39 u40 u41 u42 hAs hH (fun W hW => rate_any p l W) hA (may_ship _ _ _ _ _ _ _ _)) ?_
        rw [hd, Bool.and_assoc]
        congr 1
        unfold kindB
        rw [if_neg (by omega), if_neg (by omega), if_neg (by omega), if_neg (by omega), if_pos hk]
        unfold someB noBuy noParts noTiers allB
        rw [amount_in, zero_ne p.amount, zero_ne p.buy, zero_ne p.get, none_pos, none_pos, both_pos]
        cases decide (1 <= p.rate) <;> cases decide (p.rate <= 10000) <;> simp [Bool.and_assoc]
    . exact Fits (right_no p l w (.inr (by omega))) (by unfold promoB; rw [head_eq, decide_eq_false h2]; simp)
  . exact Fits (right_no p l w (.inl (by omega))) (by unfold promoB; rw [head_eq, decide_eq_false h1]; simp)
end Go.Proofs.YtljmddjlnlmenaaGreat.Pm

end

section
namespace Go.Proofs.YtljmddjlnlmenaaGreat.Pm
open Go.ChangeShapes Go.WideShapes Go.ChangeAt Go.RowKit
open Ap (Scp Prt Tir Prm kPrm row_Prm)
open Kd (Row Lst kStr)
open Pr (promoB PrmSmall PartsSmall)
structure Slight (p : Prm) : Prop where
  skus : p.scope.skus.length <= 1000000000000
  cats : p.scope.cats.length <= 1000000000000
  each : PartsSmall p.parts
  parts : p.parts.length <= 1000000000000
  tiers : p.tiers.length <= 1000000000000
theorem Slight.small {p : Prm} {l : Prm.Lay} {w : World} {F : Nat -> Prop} (h : Slight p) (hh : Ap.Prm.Holds w F p l) : PrmSmall p l :=
  ⟨⟨by have := hh.scope.skus.row.len; have := h.skus; omega, by have := hh.scope.cats.row.len; have := h.cats; omega⟩, h.each, by have := hh.parts.row.len; have := h.parts; omega, by have := hh.tiers.row.len; have := h.tiers; omega, by have := hh.scope.skus.row.len; have := h.skus; omega, by have := hh.scope.cats.row.len; have := h.cats; omega⟩
end Go.Proofs.YtljmddjlnlmenaaGreat.Pm

end

section
namespace Go.Proofs.YtljmddjlnlmenaaGreat.Ct
open Go.ChangeShapes Go.WideShapes Go.ChangeAt Go.RowKit
open Ap (Unt Tir Prm Prt kUnt kTir kPrt row_Unt row_Tir row_Prt)
open Kd (Kind Row kInt row_int)
open Ko (Out Told Told2 At row_on)
theorem parts_small {w : World} {F : Nat -> Prop} {p : Prm} {l : Prm.Lay} (h : Ap.Prm.Holds w F p l) : Pr.PartsSmall p.parts := fun k q hq => by
  obtain ⟨g, o, y, _, _, _, hh, _⟩ := row_Prt h.parts.row hq
  have h1 := hh.scope.skus.row.len
  have h2 := hh.scope.cats.row.len
  have h3 := hh.scope.skus.fit.2
  have h4 := hh.scope.cats.fit.2
  omega
theorem small_of {w : World} {F : Nat -> Prop} {p : Prm} {l : Prm.Lay} (h : Ap.Prm.Holds w F p l) (h1 : p.scope.skus.length <= 40) (h2 : p.scope.cats.length <= 40) (h3 : p.parts.length <= 20) (h4 : p.tiers.length <= 20) : Pr.PrmSmall p l :=
  Pm.Slight.small (w := w) (F := F) ⟨by omega, by omega, parts_small h, by omega, by omega⟩ h
structure FewC (p : Prm) (n : Nat) : Prop where
  skus : p.scope.skus.length <= 40
  cats : p.scope.cats.length <= 40
  parts : p.parts.length <= 20
  tiers : p.tiers.length <= 20
  units : n <= 200
theorem nope {P : Prop} (h : false = true) : P := by cases h
theorem two_ints {W : World} {b : Nat} (h : Qu.Blk W b 3 #[.int .i64 0, .int .i64 1]) : Row kInt W (· < W.heap.size) (some ⟨b, 0, none⟩) 2 [0, 1] :=
  Kd.Own.read (B := b) (E := 3) (c := 2) (Kd.own_blk (cs := [.int .i64 0, .int .i64 1]) h (Nat.le_refl _) rfl ⟨[.int .i64 0], _, rfl, ⟨rfl, by decide⟩, [.int .i64 1], _, rfl, ⟨rfl, by decide⟩, rfl⟩ (Nat.le_refl _) (by decide) rfl rfl)
theorem one_int {W : World} {b : Nat} {x : Int} (hx : -9223372036854775808 <= x /\ x <= 9223372036854775807) (h : Qu.Blk W b 3 #[.int .i64 x]) : Row kInt W (· < W.heap.size) (some ⟨b, 0, none⟩) 1 [x] :=
  Kd.Own.read (B := b) (E := 3) (c := 1) (Kd.own_blk (cs := [.int .i64 x]) h (Nat.le_refl _) rfl ⟨[.int .i64 x], _, rfl, ⟨rfl, hx⟩, rfl⟩ (Nat.le_refl _) (by decide) rfl rfl)
theorem nil_lst {α : Type} {K : Kd.Kind α} {W : World} {F : Nat -> Prop} : Kd.Lst K W F ⟨none, 0, 0⟩ [] := ⟨Row.nil _ _ _ _, ⟨fun _ => ⟨rfl, rfl⟩, Nat.le_refl _, (by decide)⟩⟩
end Go.Proofs.YtljmddjlnlmenaaGreat.Ct

end

section
namespace Go.Proofs.YtljmddjlnlmenaaGreat.Dl
open Ap (Unt Tir Prm Prt)
open Ct (nth nth_some netAt netsL sumL sumL_append sumL_next halfN UnitsMay PlacesMay May mayB Far take_next lessU)
def pt (us : List Unt) (m : Int) : Qu.Pt := (netAt us m, m)
def dearK (us : List Unt) (ms : List Int) : Nat -> List Qu.Pt
  | 0 => []
  | k + 1 => Qu.ins (pt us (nth ms k)) (dearK us ms k)
def dearP (us : List Unt) (ms : List Int) : List Qu.Pt := dearK us ms ms.length
def places (l : List Qu.Pt) : List Int := l.map (·.2)
def dearL (us : List Unt) (ms : List Int) : List Int := places (dearP us ms)
theorem dearK_length (us : List Unt) (ms : List Int) : ∀ k, (dearK us ms k).length = k
  | 0 => rfl
  | k + 1 => by rw [dearK, Qu.length_ins, dearK_length us ms k]
theorem dearK_perm (us : List Unt) (ms : List Int) : ∀ k, k <= ms.length -> (dearK us ms k).Perm ((ms.take k).map (pt us))
  | 0, _ => by rw [List.take_zero]; exact List.Perm.refl _
  | k + 1, h => by
    have e := List.getElem?_eq_getElem (show k < ms.length by omega)
    rw [take_next e, List.map_append, dearK, nth_some e]
    exact (Qu.ins_perm _ _).trans (((dearK_perm us ms k (by omega)).cons _).trans (List.perm_append_singleton _ _).symm)
theorem dearL_length (us : List Unt) (ms : List Int) : (dearL us ms).length = ms.length := by unfold dearL places dearP; rw [List.length_map, dearK_length]
theorem dearL_perm (us : List Unt) (ms : List Int) : (dearL us ms).Perm ms := by
  have h := (dearK_perm us ms ms.length (Nat.le_refl _)).map (·.2)
  rw [List.take_length, List.map_map] at h
  have e : ms.map ((fun p : Qu.Pt => p.2) ∘ pt us) = ms := by
    have : ((fun p : Qu.Pt => p.2) ∘ pt us) = id := rfl
    rw [this, List.map_id]
  rw [e] at h
  exact h
theorem ins_map {g : Qu.Pt -> Qu.Pt} {x : Qu.Pt} : ∀ {l : List Qu.Pt}, (∀ y ∈ l, Qu.aheadB (g x) (g y) = Qu.aheadB x y) -> Qu.ins (g x) (l.map g) = (Qu.ins x l).map g
  | [], _ => rfl
  | y :: l, h => by
    have h1 := h y List.mem_cons_self
    have h2 := ins_map (l := l) fun z hz => h z (List.mem_cons_of_mem _ hz)
    rw [List.map_cons]
    unfold Qu.ins
    rw [h1]
    by_cases hx : Qu.aheadB x y = true
    . rw [if_pos hx, if_pos hx]; rfl
    . rw [if_neg hx, if_neg hx, h2]; rfl
def look (ms : List Int) (p : Qu.Pt) : Qu.Pt := (p.1, nth ms p.2.toNat)
theorem dear_ord {us : List Unt} {ms : List Int} (hp : PlacesMay us ms) : ∀ k, k <= ms.length -> dearK us ms k = (Qu.ord (nth (netsL us ms)) k).map (look ms)
  | 0, _ => rfl
  | k + 1, h => by
    have e := List.getElem?_eq_getElem (show k < ms.length by omega)
    have en : nth (netsL us ms) k = netAt us (nth ms k) := by
      unfold netsL
      have e2 : (ms.map (netAt us))[k]? = some (netAt us ms[k]) := by rw [List.getElem?_map, e]; rfl
      rw [nth_some e2, nth_some e]
    rw [dearK, Qu.ord, dear_ord hp k (by omega)]
    have hx : pt us (nth ms k) = look ms (nth (netsL us ms) k, (k : Int)) := by
      show (netAt us (nth ms k), nth ms k) = (nth (netsL us ms) k, nth ms ((k : Int)).toNat)
      rw [en, Int.toNat_natCast]
    rw [hx]
    refine ins_map fun y hy => ?_
    obtain ⟨i, hi, rfl⟩ := Qu.ord_mem _ k y hy
    have ei := List.getElem?_eq_getElem (show i < ms.length by omega)
    have hlt : nth ms i < nth ms k := by
      rw [nth_some e, nth_some ei]
      exact hp.lt (k - i - 1) i _ _ ei (by rw [show i + (k - i - 1) + 1 = k by omega]; exact e)
    unfold Qu.aheadB look
    simp only [Int.toNat_natCast]
    have e1 : ¬ nth ms k < nth ms i := by omega
    have e2 : ¬ ((k : Int) < (i : Int)) := by omega
    simp only [e1, e2]
theorem dearL_ord {us : List Unt} {ms : List Int} (hp : PlacesMay us ms) : dearL us ms = (Qu.ord (nth (netsL us ms)) ms.length).map fun p => nth ms p.2.toNat := by
  unfold dearL places dearP
  rw [dear_ord hp ms.length (Nat.le_refl _), List.map_map]
  rfl
structure Apart (us : List Unt) (ds : List Int) : Prop where
  at_ : ∀ m ∈ ds, 0 <= m /\ ∃ u, us[m.toNat]? = some u /\ u.opn = true
  far : ds.Pairwise fun a b => a.toNat ≠ b.toNat
theorem Apart.nil (us : List Unt) : Apart us [] := ⟨fun _ h => (by cases h), List.Pairwise.nil⟩
theorem Apart.perm {us : List Unt} {a b : List Int} (h : Apart us a) (hp : a.Perm b) : Apart us b :=
  ⟨fun m hm => h.at_ m (hp.mem_iff.2 hm), (hp.pairwise_iff (fun h => h.symm)).1 h.far⟩
theorem Apart.sub {us : List Unt} {a b : List Int} (h : Apart us b) (hs : a.Sublist b) : Apart us a :=
  ⟨fun m hm => h.at_ m (hs.subset hm), h.far.sublist hs⟩
theorem Apart.toFar {us : List Unt} {ds : List Int} (h : Apart us ds) : Far ds := fun i j a b hij ha hb => by
  obtain ⟨h1, rfl⟩ := List.getElem?_eq_some_iff.1 ha
  obtain ⟨h2, rfl⟩ := List.getElem?_eq_some_iff.1 hb
  exact List.pairwise_iff_getElem.1 h.far i j h1 h2 hij
theorem apart_of {us : List Unt} {ms : List Int} (h : PlacesMay us ms) : Apart us ms :=
  ⟨fun m hm => by
    obtain ⟨i, hi⟩ := List.mem_iff_getElem?.1 hm
    exact h.at_ i m hi,
   List.pairwise_iff_getElem.2 fun i j hi hj hij => h.far i j _ _ hij (List.getElem?_eq_getElem hi) (List.getElem?_eq_getElem hj)⟩
theorem Apart.get {us : List Unt} {ds : List Int} (h : Apart us ds) {i : Nat} {m : Int} (hm : ds[i]? = some m) : 0 <= m /\ ∃ u, us[m.toNat]? = some u /\ u.opn = true := h.at_ m (List.mem_of_getElem? hm)
theorem Apart.in_ {us : List Unt} {ds : List Int} (h : Apart us ds) : Ct.PlacesIn us.length ds := fun i m hm => by
  obtain ⟨h1, u, hu, _⟩ := h.get hm
  have := (List.getElem?_eq_some_iff.1 hu).1
  omega
theorem nodup_le : ∀ (n : Nat) (l : List Nat), l.Pairwise (· ≠ ·) -> (∀ x ∈ l, x < n) -> l.length <= n
  | 0, l, _, h => by
    cases l with
    | nil => exact Nat.le_refl _
    | cons x l => have := h x List.mem_cons_self; omega
  | n + 1, l, hd, h => by
    have hd' : l.Nodup := hd
    have h1 := nodup_le n (l.erase n) (hd'.erase n) fun x hx => by
      have h2 := (hd'.mem_erase_iff).1 hx
      have := h x h2.2
      have := h2.1
      omega
    rw [List.length_erase] at h1
    split at h1 <;> omega
theorem Apart.few {us : List Unt} {ds : List Int} (h : Apart us ds) : ds.length <= us.length := by
  have h1 := nodup_le us.length (ds.map Int.toNat) (List.Pairwise.map _ (fun _ _ h => h) h.far) fun x hx => by
    obtain ⟨m, hm, rfl⟩ := List.mem_map.1 hx
    obtain ⟨_, u, hu, _⟩ := h.at_ m hm
    exact (List.getElem?_eq_some_iff.1 hu).1
  rw [List.length_map] at h1
  exact h1
theorem dear_apart {us : List Unt} {ms : List Int} (h : PlacesMay us ms) : Apart us (dearL us ms) := (apart_of h).perm (dearL_perm us ms).symm
structure Fine (us : List Unt) (ds os : List Int) : Prop where
  apart : Apart us ds
  len : os.length = ds.length
  each : ∀ (k : Nat) (m o : Int), ds[k]? = some m -> os[k]? = some o -> 0 <= o /\ o <= netAt us m
theorem net_most {us : List Unt} (h : UnitsMay us) (m : Int) : 0 <= netAt us m /\ netAt us m <= 10000000000000 := by
  unfold netAt
  split
  . rename_i u hu
    have h1 := h.nets _ u hu
    have h2 := h.nets.one hu
    have h3 := h.total
    omega
  . omega
theorem sum_most {l : List Int} {M : Int} (h : ∀ x ∈ l, 0 <= x /\ x <= M) : 0 <= sumL l /\ sumL l <= M * (l.length : Int) := by
  induction l with
  | nil => simp [sumL]
  | cons x l ih =>
    have h1 := h x List.mem_cons_self
    have h2 := ih fun y hy => h y (List.mem_cons_of_mem _ hy)
    have e : M * ((x :: l).length : Int) = M * (l.length : Int) + M := by
      rw [List.length_cons]
      push_cast
      rw [Int.mul_add, Int.mul_one]
    simp only [sumL]
    rw [e]
    omega
theorem nets_most {us : List Unt} (h : UnitsMay us) {ds : List Int} (hl : ds.length <= 100000) : ∀ k, 0 <= sumL ((netsL us ds).take k) /\ sumL ((netsL us ds).take k) <= 1000000000000000000 := fun k => by
  have h1 := sum_most (l := (netsL us ds).take k) (M := 10000000000000) fun x hx => by
    obtain ⟨m, _, rfl⟩ := List.mem_map.1 (List.mem_of_mem_take hx)
    exact net_most h m
  have h2 : ((netsL us ds).take k).length <= 100000 := by rw [List.length_take]; unfold netsL; rw [List.length_map]; omega
  omega
theorem Fine.sums {us : List Unt} {ds os : List Int} (h : Fine us ds os) (hu : UnitsMay us) : Ct.SumOk os := fun k => by
  have hf := h.apart.few
  have hu2 := hu.few
  have h1 := sum_most (l := os.take k) (M := 10000000000000) fun x hx => by
    obtain ⟨i, hi⟩ := List.mem_iff_getElem?.1 (List.mem_of_mem_take hx)
    have hl : i < ds.length := by rw [<- h.len]; exact (List.getElem?_eq_some_iff.1 hi).1
    have e := List.getElem?_eq_getElem hl
    have h1 := h.each i _ x e hi
    have h2 := net_most hu ds[i]
    omega
  have h2 : (os.take k).length <= 100000 := by rw [List.length_take, h.len]; omega
  omega
theorem Fine.less {us : List Unt} {ds os : List Int} (h : Fine us ds os) (hu : UnitsMay us) : Ct.LessOk us ds os := fun k m o u hm ho hun => by
  have h1 := h.each k m o hm ho
  have h2 := net_most hu m
  have e : netAt us m = u.net := by unfold netAt; rw [hun]
  omega
theorem cutK_deal {us : List Unt} {ms os : List Int} {cl : Bool} (hp : Apart us ms) (hl : os.length = ms.length) (hs : sumL os ≠ 0) : Ct.cutK us ms os cl ms.length = (lessU us ms os cl).1 := by
  apply List.ext_getElem?
  intro i
  by_cases h : ∃ (j : Nat) (m : Int), ms[j]? = some m /\ m.toNat = i
  . obtain ⟨j, m, hm, rfl⟩ := h
    obtain ⟨_, u, hu, ho⟩ := hp.get hm
    have hj := (List.getElem?_eq_some_iff.1 hm).1
    rw [Ct.cutK_mine hp.toFar hm hu ms.length hj (Nat.le_refl _), Ct.less_mine hp.toFar hl cl hm hu hs]
    unfold Ct.cutOne
    rw [ho, Bool.true_and]
  . have h2 : ∀ (j : Nat) (m : Int), ms[j]? = some m -> m.toNat ≠ i := fun j m hm e => h ⟨j, m, hm, e⟩
    rw [Ct.less_other (by omega) cl h2, Ct.cutK_other ms.length fun j hj => by
      have e := List.getElem?_eq_getElem hj
      rw [nth_some e]; exact h2 j _ e]
def rowN (p : Prm) : Nat := (p.buy + p.get).toNat
def wholeL (p : Prm) (us : List Unt) (ms : List Int) : List Int := (dearL us ms).take (ms.length - ms.length % rowN p)
def offAt (p : Prm) (us : List Unt) (i : Nat) (m : Int) : Int := if p.buy <= ((i % rowN p : Nat) : Int) then halfN (netAt us m) p.rate else 0
def offsFrom (p : Prm) (us : List Unt) : Nat -> List Int -> List Int
  | _, [] => []
  | i, m :: l => offAt p us i m :: offsFrom p us (i + 1) l
def rowOffs (p : Prm) (us : List Unt) (ms : List Int) : List Int := offsFrom p us 0 (wholeL p us ms)
theorem offsFrom_length (p : Prm) (us : List Unt) : ∀ (i : Nat) (l : List Int), (offsFrom p us i l).length = l.length
  | _, [] => rfl
  | i, m :: l => by rw [offsFrom, List.length_cons, List.length_cons, offsFrom_length]
theorem offsFrom_append (p : Prm) (us : List Unt) : ∀ (i : Nat) (a b : List Int), offsFrom p us i (a ++ b) = offsFrom p us i a ++ offsFrom p us (i + a.length) b
  | i, [], b => rfl
  | i, m :: a, b => by
    show offAt p us i m :: offsFrom p us (i + 1) (a ++ b) = offAt p us i m :: offsFrom p us (i + 1) a ++ offsFrom p us (i + (a.length + 1)) b
    rw [offsFrom_append p us (i + 1) a b, show i + 1 + a.length = i + (a.length + 1) by omega]
    rfl
theorem offsFrom_next {p : Prm} {us : List Unt} {ds : List Int} {k : Nat} {m : Int} (h : ds[k]? = some m) : offsFrom p us 0 (ds.take (k + 1)) = offsFrom p us 0 (ds.take k) ++ [offAt p us k m] := by
  have hl : (ds.take k).length = k := by rw [List.length_take]; have := (List.getElem?_eq_some_iff.1 h).1; omega
  rw [take_next h, offsFrom_append, hl, Nat.zero_add]; rfl
theorem offsFrom_at {p : Prm} {us : List Unt} : ∀ {i k : Nat} {l : List Int} {o : Int}, (offsFrom p us i l)[k]? = some o -> ∃ m, l[k]? = some m /\ o = offAt p us (i + k) m
  | i, k, [], o, h => by simp [offsFrom] at h
  | i, 0, m :: l, o, h => by
    simp only [offsFrom, List.getElem?_cons_zero, Option.some.injEq] at h
    exact ⟨m, rfl, h.symm⟩
  | i, k + 1, m :: l, o, h => by
    simp only [offsFrom, List.getElem?_cons_succ] at h
    obtain ⟨x, hx, rfl⟩ := offsFrom_at h
    exact ⟨x, hx, by rw [show i + 1 + k = i + (k + 1) by omega]⟩
noncomputable def buygetU (p : Prm) (us : List Unt) (ms : List Int) : List Unt × Int :=
  if (Pr.promoB p && p.kind == 3 && mayB us ms) = true then lessU us (wholeL p us ms) (rowOffs p us ms) p.closes else (us, 0)
theorem half_low (x rate : Int) (h : 0 <= x) : 0 <= halfN x rate := (Ct.halfN_ok x rate).1
theorem rows_fine {p : Prm} {us : List Unt} {ms : List Int} (h : May us ms) (hr : p.rate <= 10000) : Fine us (wholeL p us ms) (rowOffs p us ms) :=
  ⟨(dear_apart h.places).sub (List.take_sublist _ _), offsFrom_length _ _ _ _, fun k m o hm ho => by
    obtain ⟨m', hm', rfl⟩ := offsFrom_at ho
    rw [hm] at hm'
    injection hm' with hm'
    subst hm'
    have h1 := net_most h.units m
    unfold offAt
    split
    . exact ⟨half_low _ _ h1.1, Ct.half_le h1.1 hr⟩
    . omega⟩
end Go.Proofs.YtljmddjlnlmenaaGreat.Dl

end
