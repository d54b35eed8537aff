/- The landed rules: two scopes, parts, zones, taxes, policies held against each other. (made by wip/gen-closures.py) -/
import Derived.Test.YtfcmhgneijipgaaGreatPk22
import Derived.Test.YtfcmhgneijipgaaGreatPk25

set_option maxRecDepth 100000
set_option linter.unusedVariables false
namespace Go.Proofs.YtfcmhgneijipgaaGreat.Ru
open Go.ChangeShapes Go.WideShapes Go.ChangeAt Go.RowKit
open Ap (CtR Tir Zon Txs Shp Pol Rls Scp Prt Prm kCtR kZon kPrt kPrm row_CtR row_Zon row_Prt row_Prm)
open Kd (Row Lst Sl eqL Two rows_get eqL_no eqL_yes eqL_len Agree)
open Hp (eqI ag_of)
theorem txs_on {w W : World} {F : Nat → Prop} {x : Txs} {l : Txs.Lay} (h : Txs.Holds w F x l) (ha : Agree F w W) : Txs.Holds W F x l := ⟨h.round, h.zones.row.stay ha, h.zones.fit⟩
theorem pol_on {w W : World} {F : Nat → Prop} {x : Pol} {l : Pol.Lay} (h : Pol.Holds w F x l) (ha : Agree F w W) : Pol.Holds W F x l := ⟨h.window, h.grace, h.mode, h.restock, ⟨h.order.row.stay ha, h.order.fit⟩, ⟨h.credit.row.stay ha, h.credit.fit⟩⟩
set_option maxHeartbeats 2000000 in
theorem sameScope_1 (x y : Scp) (l l' : Scp.Lay) (F : Nat → Prop) (p q : Nat) (w : World) (hbx : Qu.Blk w p 47 #[.slice l.skus.A l.skus.n l.skus.c, .slice l.cats.A l.cats.n l.cats.c]) (hby : Qu.Blk w q 47 #[.slice l'.skus.A l'.skus.n l'.skus.c, .slice l'.cats.A l'.cats.n l'.cats.c]) (hx : Scp.Holds w F x l) (hy : Scp.Holds w F y l') (hF : ∀ b, F b → b < w.heap.size) (hn : x.skus.length ≤ 9223372036854775807) (hn2 : x.cats.length ≤ 9223372036854775807) :
    Calls Tryz.prog 135 #[.pointer (some ⟨p, 0, none⟩), .pointer (some ⟨q, 0, none⟩)] w fun e w' => e = .returned (.bool (eqL Sr.same x.skus y.skus)) ∧ Below w.heap.size w w' := by
  have x0 := hbx.cell 0
  have y0 := hby.cell 0
  have HC := Lib.hid (equalS_any l.skus.A l'.skus.A l.skus.n l'.skus.n l.skus.c l'.skus.c x.skus y.skus F w (hx.skus.row) (hy.skus.row) hF (by have := hx.skus.row.len; have := hn; omega))
  clear hx hy hF hbx hby
  go_enter Tryz.func135, Tryz.ntmps135
  go_wp2_with fail
  refine HC.out.mono ?_
  rintro e w1 ⟨rfl, hb⟩
  have HB := Lib.hid hb
  clear hb
  go_wp2
  go_ret
  exact ⟨rfl, HB.out⟩
set_option maxHeartbeats 2000000 in
theorem sameScope_2 (x y : Scp) (l l' : Scp.Lay) (F : Nat → Prop) (p q : Nat) (w : World) (hbx : Qu.Blk w p 47 #[.slice l.skus.A l.skus.n l.skus.c, .slice l.cats.A l.cats.n l.cats.c]) (hby : Qu.Blk w q 47 #[.slice l'.skus.A l'.skus.n l'.skus.c, .slice l'.cats.A l'.cats.n l'.cats.c]) (hx : Scp.Holds w F x l) (hy : Scp.Holds w F y l') (hF : ∀ b, F b → b < w.heap.size) (hn : x.skus.length ≤ 9223372036854775807) (hn2 : x.cats.length ≤ 9223372036854775807) :
    Calls Tryz.prog 137 #[.pointer (some ⟨p, 0, none⟩), .pointer (some ⟨q, 0, none⟩)] w fun e w' => e = .returned (.bool (eqL Sr.same x.cats y.cats)) ∧ Below w.heap.size w w' := by
  have x1 := hbx.cell 1
  have y1 := hby.cell 1
  have HC := Lib.hid (equalS_any l.cats.A l'.cats.A l.cats.n l'.cats.n l.cats.c l'.cats.c x.cats y.cats F w (hx.cats.row) (hy.cats.row) hF (by have := hx.cats.row.len; have := hn2; omega))
  clear hx hy hF hbx hby
  go_enter Tryz.func137, Tryz.ntmps137
  go_wp2_with fail
  refine HC.out.mono ?_
  rintro e w1 ⟨rfl, hb⟩
  have HB := Lib.hid hb
  clear hb
  go_wp2
  go_ret
  exact ⟨rfl, HB.out⟩
set_option maxHeartbeats 4000000 in
theorem scope_sameL (x y : Scp) (l l' : Scp.Lay) (F : Nat → Prop) (w : World) (hx : Scp.Holds w F x l) (hy : Scp.Holds w F y l') (hF : ∀ b, F b → b < w.heap.size) (hn : x.skus.length ≤ 9223372036854775807) (hn2 : x.cats.length ≤ 9223372036854775807) :
    Calls Tryz.prog 89 #[.agg #[.slice l.skus.A l.skus.n l.skus.c, .slice l.cats.A l.cats.n l.cats.c], .agg #[.slice l'.skus.A l'.skus.n l'.skus.c, .slice l'.cats.A l'.cats.n l'.cats.c]] w fun e w' => e = .returned (.bool (eqS x y)) ∧ Below w.heap.size w w' := by
  obtain ⟨W1, hW1⟩ : ∃ W1, w.alloc (.cells #[.slice l.skus.A l.skus.n l.skus.c, .slice l.cats.A l.cats.n l.cats.c] 47) = W1 := ⟨_, rfl⟩
  obtain ⟨W2, hW2⟩ : ∃ W2, W1.alloc (.cells #[.slice l'.skus.A l'.skus.n l'.skus.c, .slice l'.cats.A l'.cats.n l'.cats.c] 47) = W2 := ⟨_, rfl⟩
  have hB : Below w.heap.size w W2 := by rw [← hW2, ← hW1]; exact ((Below.refl _ _).alloc (Nat.le_refl _) _).alloc (by simp) _
  have hbx : Qu.Blk W2 w.heap.size 47 #[.slice l.skus.A l.skus.n l.skus.c, .slice l.cats.A l.cats.n l.cats.c] := by rw [← hW2, ← hW1]; exact (Qu.Blk.new w _ _).alloc _
  have hby : Qu.Blk W2 W1.heap.size 47 #[.slice l'.skus.A l'.skus.n l'.skus.c, .slice l'.cats.A l'.cats.n l'.cats.c] := by rw [← hW2]; exact Qu.Blk.new W1 _ _
  obtain ⟨W3, hW3⟩ : ∃ W3, W2.alloc (.cells #[.func (.func 135) #[] #[.pointer (some ⟨w.heap.size, 0, none⟩), .pointer (some ⟨W1.heap.size, 0, none⟩)], .func (.func 137) #[] #[.pointer (some ⟨w.heap.size, 0, none⟩), .pointer (some ⟨W1.heap.size, 0, none⟩)]] 35) = W3 := ⟨_, rfl⟩
  have hb3 : Below W2.heap.size W2 W3 := by rw [← hW3]; exact (Below.refl _ _).alloc (Nat.le_refl _) _
  have hbf : Qu.Blk W3 W2.heap.size 35 #[.func (.func 135) #[] #[.pointer (some ⟨w.heap.size, 0, none⟩), .pointer (some ⟨W1.heap.size, 0, none⟩)], .func (.func 137) #[] #[.pointer (some ⟨w.heap.size, 0, none⟩), .pointer (some ⟨W1.heap.size, 0, none⟩)]] := by rw [← hW3]; exact Qu.Blk.new W2 _ _
  have HON : ∀ W, Below W3.heap.size W3 W → Scp.Holds W F x l ∧ Scp.Holds W F y l' ∧ (∀ b, F b → b < W.heap.size) := fun W hW => by
    have hz : Below w.heap.size w W := (hB.trans (hb3.mono hB.size)).trans (hW.mono (hB.trans (hb3.mono hB.size)).size)
    have ag : Agree F w W := ag_of hF (Below.refl _ _) (hz)
    exact ⟨scp_on hx ag, scp_on hy ag, fun b hb => Nat.lt_of_lt_of_le (hF b hb) hz.size⟩
  have HA : Asks W3 [.func (.func 135) #[] #[.pointer (some ⟨w.heap.size, 0, none⟩), .pointer (some ⟨W1.heap.size, 0, none⟩)], .func (.func 137) #[] #[.pointer (some ⟨w.heap.size, 0, none⟩), .pointer (some ⟨W1.heap.size, 0, none⟩)]] [eqL Sr.same x.skus y.skus, eqL Sr.same x.cats y.cats] := by
    refine Asks.cons (run_call Tryz.func135 (by kernel_rfl) (by kernel_rfl) _) (fun W hW => sameScope_1 x y l l' F w.heap.size W1.heap.size W (hbx.below (hb3.trans (hW.mono hb3.size))) (hby.below (hb3.trans (hW.mono hb3.size))) (HON W hW).1 (HON W hW).2.1 (HON W hW).2.2 hn hn2) ?_
    refine Asks.cons (run_call Tryz.func137 (by kernel_rfl) (by kernel_rfl) _) (fun W hW => sameScope_2 x y l l' F w.heap.size W1.heap.size W (hbx.below (hb3.trans (hW.mono hb3.size))) (hby.below (hb3.trans (hW.mono hb3.size))) (HON W hW).1 (HON W hW).2.1 (HON W hW).2.2 hn hn2) ?_
    exact Asks.nil _
  have HC := Lib.hid (fields_any _ _ W2.heap.size 2 W3 hbf rfl rfl (by omega) HA)
  have HE : Hid (([eqL Sr.same x.skus y.skus, eqL Sr.same x.cats y.cats].all id) = eqS x y) := Lib.hid (by simp only [List.all_cons, List.all_nil, id, Bool.and_true]; unfold eqS; rfl)
  have HB := Lib.hid (hB.trans (hb3.mono hB.size))
  clear hx hy hF hB hbx hby hb3 hbf HON HA
  go_enter Tryz.func89, Tryz.ntmps89
  go_wp2_with fail
  refine HC.out.mono ?_
  rintro e w1 ⟨rfl, hb⟩
  have HB2 := Lib.hid (HB.out.trans (hb.mono HB.out.size))
  clear hb
  rw [HE.out]
  go_wp2
  go_ret
  exact ⟨rfl, HB2.out⟩
set_option maxHeartbeats 2000000 in
theorem samePart_1 (x y : Prt) (l l' : Prt.Lay) (F : Nat → Prop) (p q : Nat) (w : World) (hbx : Qu.Blk w p 111 #[.slice l.scope.skus.A l.scope.skus.n l.scope.skus.c, .slice l.scope.cats.A l.scope.cats.n l.scope.cats.c, .int .i64 x.count]) (hby : Qu.Blk w q 111 #[.slice l'.scope.skus.A l'.scope.skus.n l'.scope.skus.c, .slice l'.scope.cats.A l'.scope.cats.n l'.scope.cats.c, .int .i64 y.count]) (hx : Prt.Holds w F x l) (hy : Prt.Holds w F y l') (hF : ∀ b, F b → b < w.heap.size) (hS : SmallS x.scope) :
    Calls Tryz.prog 138 #[.pointer (some ⟨p, 0, none⟩), .pointer (some ⟨q, 0, none⟩)] w fun e w' => e = .returned (.bool (eqS x.scope y.scope)) ∧ Below w.heap.size w w' := by
  have x0 := hbx.cell 0
  have y0 := hby.cell 0
  have x1 := hbx.cell 1
  have y1 := hby.cell 1
  have HC := Lib.hid (scope_sameL x.scope y.scope l.scope l'.scope F w hx.scope hy.scope hF hS.1 hS.2)
  clear hx hy hF hbx hby
  go_enter Tryz.func138, Tryz.ntmps138
  go_wp2_with fail
  refine HC.out.mono ?_
  rintro e w1 ⟨rfl, hb⟩
  have HB := Lib.hid hb
  clear hb
  go_wp2
  go_ret
  exact ⟨rfl, HB.out⟩
set_option maxHeartbeats 2000000 in
theorem samePart_2 (x y : Prt) (l l' : Prt.Lay) (F : Nat → Prop) (p q : Nat) (w : World) (hbx : Qu.Blk w p 111 #[.slice l.scope.skus.A l.scope.skus.n l.scope.skus.c, .slice l.scope.cats.A l.scope.cats.n l.scope.cats.c, .int .i64 x.count]) (hby : Qu.Blk w q 111 #[.slice l'.scope.skus.A l'.scope.skus.n l'.scope.skus.c, .slice l'.scope.cats.A l'.scope.cats.n l'.scope.cats.c, .int .i64 y.count]) :
    Calls Tryz.prog 139 #[.pointer (some ⟨p, 0, none⟩), .pointer (some ⟨q, 0, none⟩)] w fun e w' => e = .returned (.bool (x.count == y.count)) ∧ Below w.heap.size w w' := by
  have x2 := hbx.cell 2
  have y2 := hby.cell 2
  clear hbx hby
  go_enter Tryz.func139, Tryz.ntmps139
  go_wp2
  all_goals (go_ret; exact ⟨by first | rfl | simp [Sr.same, *], Below.refl _ _⟩)
set_option maxHeartbeats 4000000 in
theorem part_sameL (x y : Prt) (l l' : Prt.Lay) (F : Nat → Prop) (w : World) (hx : Prt.Holds w F x l) (hy : Prt.Holds w F y l') (hF : ∀ b, F b → b < w.heap.size) (hS : SmallS x.scope) :
    Calls Tryz.prog 97 #[.agg #[.slice l.scope.skus.A l.scope.skus.n l.scope.skus.c, .slice l.scope.cats.A l.scope.cats.n l.scope.cats.c, .int .i64 x.count], .agg #[.slice l'.scope.skus.A l'.scope.skus.n l'.scope.skus.c, .slice l'.scope.cats.A l'.scope.cats.n l'.scope.cats.c, .int .i64 y.count]] w fun e w' => e = .returned (.bool (eqT x y)) ∧ Below w.heap.size w w' := by
  obtain ⟨W1, hW1⟩ : ∃ W1, w.alloc (.cells #[.slice l.scope.skus.A l.scope.skus.n l.scope.skus.c, .slice l.scope.cats.A l.scope.cats.n l.scope.cats.c, .int .i64 x.count] 111) = W1 := ⟨_, rfl⟩
  obtain ⟨W2, hW2⟩ : ∃ W2, W1.alloc (.cells #[.slice l'.scope.skus.A l'.scope.skus.n l'.scope.skus.c, .slice l'.scope.cats.A l'.scope.cats.n l'.scope.cats.c, .int .i64 y.count] 111) = W2 := ⟨_, rfl⟩
  have hB : Below w.heap.size w W2 := by rw [← hW2, ← hW1]; exact ((Below.refl _ _).alloc (Nat.le_refl _) _).alloc (by simp) _
  have hbx : Qu.Blk W2 w.heap.size 111 #[.slice l.scope.skus.A l.scope.skus.n l.scope.skus.c, .slice l.scope.cats.A l.scope.cats.n l.scope.cats.c, .int .i64 x.count] := by rw [← hW2, ← hW1]; exact (Qu.Blk.new w _ _).alloc _
  have hby : Qu.Blk W2 W1.heap.size 111 #[.slice l'.scope.skus.A l'.scope.skus.n l'.scope.skus.c, .slice l'.scope.cats.A l'.scope.cats.n l'.scope.cats.c, .int .i64 y.count] := by rw [← hW2]; exact Qu.Blk.new W1 _ _
  obtain ⟨W3, hW3⟩ : ∃ W3, W2.alloc (.cells #[.func (.func 138) #[] #[.pointer (some ⟨w.heap.size, 0, none⟩), .pointer (some ⟨W1.heap.size, 0, none⟩)], .func (.func 139) #[] #[.pointer (some ⟨w.heap.size, 0, none⟩), .pointer (some ⟨W1.heap.size, 0, none⟩)]] 35) = W3 := ⟨_, rfl⟩
  have hb3 : Below W2.heap.size W2 W3 := by rw [← hW3]; exact (Below.refl _ _).alloc (Nat.le_refl _) _
  have hbf : Qu.Blk W3 W2.heap.size 35 #[.func (.func 138) #[] #[.pointer (some ⟨w.heap.size, 0, none⟩), .pointer (some ⟨W1.heap.size, 0, none⟩)], .func (.func 139) #[] #[.pointer (some ⟨w.heap.size, 0, none⟩), .pointer (some ⟨W1.heap.size, 0, none⟩)]] := by rw [← hW3]; exact Qu.Blk.new W2 _ _
  have HON : ∀ W, Below W3.heap.size W3 W → Prt.Holds W F x l ∧ Prt.Holds W F y l' ∧ (∀ b, F b → b < W.heap.size) := fun W hW => by
    have hz : Below w.heap.size w W := (hB.trans (hb3.mono hB.size)).trans (hW.mono (hB.trans (hb3.mono hB.size)).size)
    have ag : Agree F w W := ag_of hF (Below.refl _ _) (hz)
    exact ⟨prt_on hx ag, prt_on hy ag, fun b hb => Nat.lt_of_lt_of_le (hF b hb) hz.size⟩
  have HA : Asks W3 [.func (.func 138) #[] #[.pointer (some ⟨w.heap.size, 0, none⟩), .pointer (some ⟨W1.heap.size, 0, none⟩)], .func (.func 139) #[] #[.pointer (some ⟨w.heap.size, 0, none⟩), .pointer (some ⟨W1.heap.size, 0, none⟩)]] [eqS x.scope y.scope, x.count == y.count] := by
    refine Asks.cons (run_call Tryz.func138 (by kernel_rfl) (by kernel_rfl) _) (fun W hW => samePart_1 x y l l' F w.heap.size W1.heap.size W (hbx.below (hb3.trans (hW.mono hb3.size))) (hby.below (hb3.trans (hW.mono hb3.size))) (HON W hW).1 (HON W hW).2.1 (HON W hW).2.2 hS) ?_
    refine Asks.cons (run_call Tryz.func139 (by kernel_rfl) (by kernel_rfl) _) (fun W hW => samePart_2 x y l l' F w.heap.size W1.heap.size W (hbx.below (hb3.trans (hW.mono hb3.size))) (hby.below (hb3.trans (hW.mono hb3.size)))) ?_
    exact Asks.nil _
  have HC := Lib.hid (fields_any _ _ W2.heap.size 2 W3 hbf rfl rfl (by omega) HA)
  have HE : Hid (([eqS x.scope y.scope, x.count == y.count].all id) = eqT x y) := Lib.hid (by simp only [List.all_cons, List.all_nil, id, Bool.and_true]; unfold eqT; ac_rfl)
  have HB := Lib.hid (hB.trans (hb3.mono hB.size))
  clear hx hy hF hB hbx hby hb3 hbf HON HA
  go_enter Tryz.func97, Tryz.ntmps97
  go_wp2_with fail
  refine HC.out.mono ?_
  rintro e w1 ⟨rfl, hb⟩
  have HB2 := Lib.hid (HB.out.trans (hb.mono HB.out.size))
  clear hb
  rw [HE.out]
  go_wp2
  go_ret
  exact ⟨rfl, HB2.out⟩
set_option maxHeartbeats 4000000 in
theorem same_partsL (A C : Option Addr) (n m ca cc : Nat) (xs ys : List Prt) (F : Nat → Prop) (w : World) (ha : Row kPrt w F A n xs) (hc : Row kPrt w F C m ys) (hF : ∀ b, F b → b < w.heap.size) (hn : n ≤ 9223372036854775807) (hsm : ∀ x ∈ xs, SmallS x.scope) :
    Calls Tryz.prog 96 #[.slice A n ca, .slice C m cc, .func (.func 97) #[] #[]] w fun e w' => e = .returned (.bool (eqL eqT xs ys)) ∧ Below w.heap.size w w' := by
  have hl := ha.len
  have hl2 := hc.len
  have HL := Lib.hid (And.intro hl hl2)
  have HF := Lib.hid hF
  have HSM := Lib.hid hsm
  by_cases hnm : n = m
  · subst hnm
    have b0 : ((n : Int) != (n : Int)) = false := by simp
    have HT0 := Lib.hid (Two.mk ha hc (Below.refl w.heap.size w))
    clear ha hc hl hl2 hF
    go_enter Tryz.func96, Tryz.ntmps96
    go_wp2
    go_loopw [17] (fun s wr => ∃ k : Nat, s = .int .i64 k ∧ k ≤ n ∧ Hid (Two kPrt w wr F A C n n xs ys) ∧ Hid (∀ (j : Nat) (x y : Prt), j < k → xs[j]? = some x → ys[j]? = some y → eqT x y = true)) (fun s _ => n - (intOf s).toNat)
    case atStart => exact ⟨0, rfl, by omega, HT0, Lib.hid fun j x y hj => by omega⟩
    case round =>
      clear HT0
      obtain ⟨k, rfl, hk, HT, HE⟩ := hrel
      by_cases hlt : k < n
      · obtain ⟨x, y, hx, hy⟩ := rows_get HT.out.a HT.out.c hlt
        obtain ⟨g, o, l, rfl, hg1, hg2, hx1, a0, a1, a2⟩ := row_Prt HT.out.a hx
        obtain ⟨g', o', l', rfl, hg3, hg4, hy1, d0, d1, d2⟩ := row_Prt HT.out.c hy
        have k0 : (0 : Int) ≤ (k : Int) := by omega
        have k1 : (k : Int) < (n : Int) := by omega
        have HXY := Lib.hid (And.intro hx hy)
        obtain ⟨W3, hW3⟩ : ∃ W3, wr.alloc (.cells #[.slice l.scope.skus.A l.scope.skus.n l.scope.skus.c, .slice l.scope.cats.A l.scope.cats.n l.scope.cats.c, .int .i64 x.count] 111) = W3 := ⟨_, rfl⟩
        have hb3 : Below wr.heap.size wr W3 := by rw [← hW3]; exact (Below.refl _ _).alloc (Nat.le_refl _) _
        have hbx : Qu.Blk W3 wr.heap.size 111 #[.slice l.scope.skus.A l.scope.skus.n l.scope.skus.c, .slice l.scope.cats.A l.scope.cats.n l.scope.cats.c, .int .i64 x.count] := by rw [← hW3]; exact Qu.Blk.new wr _ _
        obtain ⟨W4, hW4⟩ : ∃ W4, W3.alloc (.cells #[.slice l'.scope.skus.A l'.scope.skus.n l'.scope.skus.c, .slice l'.scope.cats.A l'.scope.cats.n l'.scope.cats.c, .int .i64 y.count] 111) = W4 := ⟨_, rfl⟩
        have hb4 : Below W3.heap.size W3 W4 := by rw [← hW4]; exact (Below.refl _ _).alloc (Nat.le_refl _) _
        have hby : Qu.Blk W4 W3.heap.size 111 #[.slice l'.scope.skus.A l'.scope.skus.n l'.scope.skus.c, .slice l'.scope.cats.A l'.scope.cats.n l'.scope.cats.c, .int .i64 y.count] := by rw [← hW4]; exact Qu.Blk.new W3 _ _
        have hb5 : Below wr.heap.size wr W4 := hb3.trans (hb4.mono hb3.size)
        have e0 : W3.cell? ⟨g', o' + k * 3, none⟩ = some (.slice l'.scope.skus.A l'.scope.skus.n l'.scope.skus.c) := (hb3.cell (p := ⟨g', _, none⟩) hg4).trans d0
        have e1 : W3.cell? ⟨g', o' + k * 3 + 1, none⟩ = some (.slice l'.scope.cats.A l'.scope.cats.n l'.scope.cats.c) := (hb3.cell (p := ⟨g', _, none⟩) hg4).trans d1
        have e2 : W3.cell? ⟨g', o' + k * 3 + 2, none⟩ = some (.int .i64 y.count) := (hb3.cell (p := ⟨g', _, none⟩) hg4).trans d2
        have x0 := (hbx.below hb4).cell 0
        have y0 := hby.cell 0
        have x1 := (hbx.below hb4).cell 1
        have y1 := hby.cell 1
        have x2 := (hbx.below hb4).cell 2
        have y2 := hby.cell 2
        have HO := Lib.hid (part_sameL x y l l' F W4 (prt_on hx1 (ag_of HF.out HT.out.below hb5)) (prt_on hy1 (ag_of HF.out HT.out.below hb5)) (fun b hb => Nat.lt_of_lt_of_le (HF.out b hb) (Nat.le_trans HT.out.below.size hb5.size)) (HSM.out x (List.mem_of_getElem? HXY.out.1)))
        have HB5 := Lib.hid hb5
        clear hx hy hg1 hg2 hg3 hg4 hx1 hy1 hb3 hb4 hb5 hbx hby d0 d1 d2
        cases hB : eqT x y with
        | true =>
          rw [hB] at HO
          have HB := Lib.hid hB
          clear hB
          go_wp2_with fail
          refine HO.out.mono ?_
          rintro e wz ⟨rfl, hz⟩
          have HT2 := Lib.hid (HT.out.on HF.out (HB5.out.trans (hz.mono HB5.out.size)))
          clear hz
          go_wp2
          go_roundw
          case rel => exact ⟨k + 1, by go_num, by omega, HT2, Lib.hid fun j x' y' hj hx' hy' => by
            rcases Nat.lt_or_ge j k with h | h
            · exact HE.out j x' y' h hx' hy'
            · obtain rfl : j = k := by omega
              rw [HXY.out.1] at hx'
              rw [HXY.out.2] at hy'
              injection hx' with hx'
              injection hy' with hy'
              subst hx' hy'
              exact HB.out⟩
          case measure => simp [intOf]; omega
        | false =>
          rw [hB] at HO
          have HG := Lib.hid (eqL_no HXY.out.1 HXY.out.2 hB)
          clear hB
          go_wp2_with fail
          refine HO.out.mono ?_
          rintro e wz ⟨rfl, hz⟩
          have HT2 := Lib.hid (HT.out.on HF.out (HB5.out.trans (hz.mono HB5.out.size)))
          clear hz
          go_wp2
          go_ret
          exact ⟨by rw [HG.out]; rfl, HT2.out.below⟩
      · have k1 : ¬ (k : Int) < (n : Int) := by omega
        have HG := Lib.hid (eqL_yes (eq := eqT) (HL.out.1.trans HL.out.2.symm) fun j x y hx hy => HE.out j x y (by
          have := (List.getElem?_eq_some_iff.1 hx).1
          rw [HL.out.1] at this
          omega) hx hy)
        go_wp2
        go_ret
        exact ⟨by rw [HG.out]; rfl, HT.out.below⟩
  · have b0 : ((n : Int) != (m : Int)) = true := by rw [bne_iff_ne]; omega
    have HG := Lib.hid (eqL_len (eq := eqT) (xs := xs) (ys := ys) (by omega))
    clear ha hc hl hl2 hnm hF
    go_enter Tryz.func96, Tryz.ntmps96
    go_wp2
    go_ret
    exact ⟨by rw [HG.out]; rfl, Below.refl _ _⟩
set_option maxHeartbeats 2000000 in
theorem sameZone_1 (x y : Zon) (l l' : Zon.Lay) (F : Nat → Prop) (p q : Nat) (w : World) (hbx : Qu.Blk w p 41 #[.string x.name, .slice l.rates.A l.rates.n l.rates.c, .int .i64 x.rest, .int .i64 x.ship]) (hby : Qu.Blk w q 41 #[.string y.name, .slice l'.rates.A l'.rates.n l'.rates.c, .int .i64 y.rest, .int .i64 y.ship]) :
    Calls Tryz.prog 140 #[.pointer (some ⟨p, 0, none⟩), .pointer (some ⟨q, 0, none⟩)] w fun e w' => e = .returned (.bool (Sr.same x.name y.name)) ∧ Below w.heap.size w w' := by
  have x0 := hbx.cell 0
  have y0 := hby.cell 0
  clear hbx hby
  go_enter Tryz.func140, Tryz.ntmps140
  go_wp2
  all_goals (go_ret; exact ⟨by first | rfl | simp [Sr.same, *], Below.refl _ _⟩)
set_option maxHeartbeats 2000000 in
theorem sameZone_2 (x y : Zon) (l l' : Zon.Lay) (F : Nat → Prop) (p q : Nat) (w : World) (hbx : Qu.Blk w p 41 #[.string x.name, .slice l.rates.A l.rates.n l.rates.c, .int .i64 x.rest, .int .i64 x.ship]) (hby : Qu.Blk w q 41 #[.string y.name, .slice l'.rates.A l'.rates.n l'.rates.c, .int .i64 y.rest, .int .i64 y.ship]) (hx : Zon.Holds w F x l) (hy : Zon.Holds w F y l') (hF : ∀ b, F b → b < w.heap.size) (hn : x.rates.length ≤ 9223372036854775807) :
    Calls Tryz.prog 141 #[.pointer (some ⟨p, 0, none⟩), .pointer (some ⟨q, 0, none⟩)] w fun e w' => e = .returned (.bool (eqL CtR.sameB x.rates y.rates)) ∧ Below w.heap.size w w' := by
  have x1 := hbx.cell 1
  have y1 := hby.cell 1
  have HC := Lib.hid (equalR_any l.rates.A l'.rates.A l.rates.n l'.rates.n l.rates.c l'.rates.c x.rates y.rates F w (hx.rates.row) (hy.rates.row) hF (by have := hx.rates.row.len; have := hn; omega))
  clear hx hy hF hbx hby
  go_enter Tryz.func141, Tryz.ntmps141
  go_wp2_with fail
  refine HC.out.mono ?_
  rintro e w1 ⟨rfl, hb⟩
  have HB := Lib.hid hb
  clear hb
  go_wp2
  go_ret
  exact ⟨rfl, HB.out⟩
set_option maxHeartbeats 2000000 in
theorem sameZone_3 (x y : Zon) (l l' : Zon.Lay) (F : Nat → Prop) (p q : Nat) (w : World) (hbx : Qu.Blk w p 41 #[.string x.name, .slice l.rates.A l.rates.n l.rates.c, .int .i64 x.rest, .int .i64 x.ship]) (hby : Qu.Blk w q 41 #[.string y.name, .slice l'.rates.A l'.rates.n l'.rates.c, .int .i64 y.rest, .int .i64 y.ship]) :
    Calls Tryz.prog 143 #[.pointer (some ⟨p, 0, none⟩), .pointer (some ⟨q, 0, none⟩)] w fun e w' => e = .returned (.bool (x.rest == y.rest)) ∧ Below w.heap.size w w' := by
  have x2 := hbx.cell 2
  have y2 := hby.cell 2
  clear hbx hby
  go_enter Tryz.func143, Tryz.ntmps143
  go_wp2
  all_goals (go_ret; exact ⟨by first | rfl | simp [Sr.same, *], Below.refl _ _⟩)
set_option maxHeartbeats 2000000 in
theorem sameZone_4 (x y : Zon) (l l' : Zon.Lay) (F : Nat → Prop) (p q : Nat) (w : World) (hbx : Qu.Blk w p 41 #[.string x.name, .slice l.rates.A l.rates.n l.rates.c, .int .i64 x.rest, .int .i64 x.ship]) (hby : Qu.Blk w q 41 #[.string y.name, .slice l'.rates.A l'.rates.n l'.rates.c, .int .i64 y.rest, .int .i64 y.ship]) :
    Calls Tryz.prog 144 #[.pointer (some ⟨p, 0, none⟩), .pointer (some ⟨q, 0, none⟩)] w fun e w' => e = .returned (.bool (x.ship == y.ship)) ∧ Below w.heap.size w w' := by
  have x3 := hbx.cell 3
  have y3 := hby.cell 3
  clear hbx hby
  go_enter Tryz.func144, Tryz.ntmps144
  go_wp2
  all_goals (go_ret; exact ⟨by first | rfl | simp [Sr.same, *], Below.refl _ _⟩)
set_option maxHeartbeats 4000000 in
theorem zone_sameL (x y : Zon) (l l' : Zon.Lay) (F : Nat → Prop) (w : World) (hx : Zon.Holds w F x l) (hy : Zon.Holds w F y l') (hF : ∀ b, F b → b < w.heap.size) (hn : x.rates.length ≤ 9223372036854775807) :
    Calls Tryz.prog 105 #[.agg #[.string x.name, .slice l.rates.A l.rates.n l.rates.c, .int .i64 x.rest, .int .i64 x.ship], .agg #[.string y.name, .slice l'.rates.A l'.rates.n l'.rates.c, .int .i64 y.rest, .int .i64 y.ship]] w fun e w' => e = .returned (.bool (eqZ x y)) ∧ Below w.heap.size w w' := by
  obtain ⟨W1, hW1⟩ : ∃ W1, w.alloc (.cells #[.string x.name, .slice l.rates.A l.rates.n l.rates.c, .int .i64 x.rest, .int .i64 x.ship] 41) = W1 := ⟨_, rfl⟩
  obtain ⟨W2, hW2⟩ : ∃ W2, W1.alloc (.cells #[.string y.name, .slice l'.rates.A l'.rates.n l'.rates.c, .int .i64 y.rest, .int .i64 y.ship] 41) = W2 := ⟨_, rfl⟩
  have hB : Below w.heap.size w W2 := by rw [← hW2, ← hW1]; exact ((Below.refl _ _).alloc (Nat.le_refl _) _).alloc (by simp) _
  have hbx : Qu.Blk W2 w.heap.size 41 #[.string x.name, .slice l.rates.A l.rates.n l.rates.c, .int .i64 x.rest, .int .i64 x.ship] := by rw [← hW2, ← hW1]; exact (Qu.Blk.new w _ _).alloc _
  have hby : Qu.Blk W2 W1.heap.size 41 #[.string y.name, .slice l'.rates.A l'.rates.n l'.rates.c, .int .i64 y.rest, .int .i64 y.ship] := by rw [← hW2]; exact Qu.Blk.new W1 _ _
  obtain ⟨W3, hW3⟩ : ∃ W3, W2.alloc (.cells #[.func (.func 140) #[] #[.pointer (some ⟨w.heap.size, 0, none⟩), .pointer (some ⟨W1.heap.size, 0, none⟩)], .func (.func 141) #[] #[.pointer (some ⟨w.heap.size, 0, none⟩), .pointer (some ⟨W1.heap.size, 0, none⟩)], .func (.func 143) #[] #[.pointer (some ⟨w.heap.size, 0, none⟩), .pointer (some ⟨W1.heap.size, 0, none⟩)], .func (.func 144) #[] #[.pointer (some ⟨w.heap.size, 0, none⟩), .pointer (some ⟨W1.heap.size, 0, none⟩)]] 35) = W3 := ⟨_, rfl⟩
  have hb3 : Below W2.heap.size W2 W3 := by rw [← hW3]; exact (Below.refl _ _).alloc (Nat.le_refl _) _
  have hbf : Qu.Blk W3 W2.heap.size 35 #[.func (.func 140) #[] #[.pointer (some ⟨w.heap.size, 0, none⟩), .pointer (some ⟨W1.heap.size, 0, none⟩)], .func (.func 141) #[] #[.pointer (some ⟨w.heap.size, 0, none⟩), .pointer (some ⟨W1.heap.size, 0, none⟩)], .func (.func 143) #[] #[.pointer (some ⟨w.heap.size, 0, none⟩), .pointer (some ⟨W1.heap.size, 0, none⟩)], .func (.func 144) #[] #[.pointer (some ⟨w.heap.size, 0, none⟩), .pointer (some ⟨W1.heap.size, 0, none⟩)]] := by rw [← hW3]; exact Qu.Blk.new W2 _ _
  have HON : ∀ W, Below W3.heap.size W3 W → Zon.Holds W F x l ∧ Zon.Holds W F y l' ∧ (∀ b, F b → b < W.heap.size) := fun W hW => by
    have hz : Below w.heap.size w W := (hB.trans (hb3.mono hB.size)).trans (hW.mono (hB.trans (hb3.mono hB.size)).size)
    have ag : Agree F w W := ag_of hF (Below.refl _ _) (hz)
    exact ⟨zon_on hx ag, zon_on hy ag, fun b hb => Nat.lt_of_lt_of_le (hF b hb) hz.size⟩
  have HA : Asks W3 [.func (.func 140) #[] #[.pointer (some ⟨w.heap.size, 0, none⟩), .pointer (some ⟨W1.heap.size, 0, none⟩)], .func (.func 141) #[] #[.pointer (some ⟨w.heap.size, 0, none⟩), .pointer (some ⟨W1.heap.size, 0, none⟩)], .func (.func 143) #[] #[.pointer (some ⟨w.heap.size, 0, none⟩), .pointer (some ⟨W1.heap.size, 0, none⟩)], .func (.func 144) #[] #[.pointer (some ⟨w.heap.size, 0, none⟩), .pointer (some ⟨W1.heap.size, 0, none⟩)]] [Sr.same x.name y.name, eqL CtR.sameB x.rates y.rates, x.rest == y.rest, x.ship == y.ship] := by
    refine Asks.cons (run_call Tryz.func140 (by kernel_rfl) (by kernel_rfl) _) (fun W hW => sameZone_1 x y l l' F w.heap.size W1.heap.size W (hbx.below (hb3.trans (hW.mono hb3.size))) (hby.below (hb3.trans (hW.mono hb3.size)))) ?_
    refine Asks.cons (run_call Tryz.func141 (by kernel_rfl) (by kernel_rfl) _) (fun W hW => sameZone_2 x y l l' F w.heap.size W1.heap.size W (hbx.below (hb3.trans (hW.mono hb3.size))) (hby.below (hb3.trans (hW.mono hb3.size))) (HON W hW).1 (HON W hW).2.1 (HON W hW).2.2 hn) ?_
    refine Asks.cons (run_call Tryz.func143 (by kernel_rfl) (by kernel_rfl) _) (fun W hW => sameZone_3 x y l l' F w.heap.size W1.heap.size W (hbx.below (hb3.trans (hW.mono hb3.size))) (hby.below (hb3.trans (hW.mono hb3.size)))) ?_
    refine Asks.cons (run_call Tryz.func144 (by kernel_rfl) (by kernel_rfl) _) (fun W hW => sameZone_4 x y l l' F w.heap.size W1.heap.size W (hbx.below (hb3.trans (hW.mono hb3.size))) (hby.below (hb3.trans (hW.mono hb3.size)))) ?_
    exact Asks.nil _
  have HC := Lib.hid (fields_any _ _ W2.heap.size 4 W3 hbf rfl rfl (by omega) HA)
  have HE : Hid (([Sr.same x.name y.name, eqL CtR.sameB x.rates y.rates, x.rest == y.rest, x.ship == y.ship].all id) = eqZ x y) := Lib.hid (by simp only [List.all_cons, List.all_nil, id, Bool.and_true]; unfold eqZ; ac_rfl)
  have HB := Lib.hid (hB.trans (hb3.mono hB.size))
  clear hx hy hF hB hbx hby hb3 hbf HON HA
  go_enter Tryz.func105, Tryz.ntmps105
  go_wp2_with fail
  refine HC.out.mono ?_
  rintro e w1 ⟨rfl, hb⟩
  have HB2 := Lib.hid (HB.out.trans (hb.mono HB.out.size))
  clear hb
  rw [HE.out]
  go_wp2
  go_ret
  exact ⟨rfl, HB2.out⟩
set_option maxHeartbeats 4000000 in
theorem same_zonesL (A C : Option Addr) (n m ca cc : Nat) (xs ys : List Zon) (F : Nat → Prop) (w : World) (ha : Row kZon w F A n xs) (hc : Row kZon w F C m ys) (hF : ∀ b, F b → b < w.heap.size) (hn : n ≤ 9223372036854775807) (hsm : ∀ x ∈ xs, x.rates.length ≤ 9223372036854775807) :
    Calls Tryz.prog 104 #[.slice A n ca, .slice C m cc, .func (.func 105) #[] #[]] w fun e w' => e = .returned (.bool (eqL eqZ xs ys)) ∧ Below w.heap.size w w' := by
  have hl := ha.len
  have hl2 := hc.len
  have HL := Lib.hid (And.intro hl hl2)
  have HF := Lib.hid hF
  have HSM := Lib.hid hsm
  by_cases hnm : n = m
  · subst hnm
    have b0 : ((n : Int) != (n : Int)) = false := by simp
    have HT0 := Lib.hid (Two.mk ha hc (Below.refl w.heap.size w))
    clear ha hc hl hl2 hF
    go_enter Tryz.func104, Tryz.ntmps104
    go_wp2
    go_loopw [17] (fun s wr => ∃ k : Nat, s = .int .i64 k ∧ k ≤ n ∧ Hid (Two kZon w wr F A C n n xs ys) ∧ Hid (∀ (j : Nat) (x y : Zon), j < k → xs[j]? = some x → ys[j]? = some y → eqZ x y = true)) (fun s _ => n - (intOf s).toNat)
    case atStart => exact ⟨0, rfl, by omega, HT0, Lib.hid fun j x y hj => by omega⟩
    case round =>
      clear HT0
      obtain ⟨k, rfl, hk, HT, HE⟩ := hrel
      by_cases hlt : k < n
      · obtain ⟨x, y, hx, hy⟩ := rows_get HT.out.a HT.out.c hlt
        obtain ⟨g, o, l, rfl, hg1, hg2, hx1, a0, a1, a2, a3⟩ := row_Zon HT.out.a hx
        obtain ⟨g', o', l', rfl, hg3, hg4, hy1, d0, d1, d2, d3⟩ := row_Zon HT.out.c hy
        have k0 : (0 : Int) ≤ (k : Int) := by omega
        have k1 : (k : Int) < (n : Int) := by omega
        have HXY := Lib.hid (And.intro hx hy)
        obtain ⟨W3, hW3⟩ : ∃ W3, wr.alloc (.cells #[.string x.name, .slice l.rates.A l.rates.n l.rates.c, .int .i64 x.rest, .int .i64 x.ship] 41) = W3 := ⟨_, rfl⟩
        have hb3 : Below wr.heap.size wr W3 := by rw [← hW3]; exact (Below.refl _ _).alloc (Nat.le_refl _) _
        have hbx : Qu.Blk W3 wr.heap.size 41 #[.string x.name, .slice l.rates.A l.rates.n l.rates.c, .int .i64 x.rest, .int .i64 x.ship] := by rw [← hW3]; exact Qu.Blk.new wr _ _
        obtain ⟨W4, hW4⟩ : ∃ W4, W3.alloc (.cells #[.string y.name, .slice l'.rates.A l'.rates.n l'.rates.c, .int .i64 y.rest, .int .i64 y.ship] 41) = W4 := ⟨_, rfl⟩
        have hb4 : Below W3.heap.size W3 W4 := by rw [← hW4]; exact (Below.refl _ _).alloc (Nat.le_refl _) _
        have hby : Qu.Blk W4 W3.heap.size 41 #[.string y.name, .slice l'.rates.A l'.rates.n l'.rates.c, .int .i64 y.rest, .int .i64 y.ship] := by rw [← hW4]; exact Qu.Blk.new W3 _ _
        have hb5 : Below wr.heap.size wr W4 := hb3.trans (hb4.mono hb3.size)
        have e0 : W3.cell? ⟨g', o' + k * 4, none⟩ = some (.string y.name) := (hb3.cell (p := ⟨g', _, none⟩) hg4).trans d0
        have e1 : W3.cell? ⟨g', o' + k * 4 + 1, none⟩ = some (.slice l'.rates.A l'.rates.n l'.rates.c) := (hb3.cell (p := ⟨g', _, none⟩) hg4).trans d1
        have e2 : W3.cell? ⟨g', o' + k * 4 + 2, none⟩ = some (.int .i64 y.rest) := (hb3.cell (p := ⟨g', _, none⟩) hg4).trans d2
        have e3 : W3.cell? ⟨g', o' + k * 4 + 3, none⟩ = some (.int .i64 y.ship) := (hb3.cell (p := ⟨g', _, none⟩) hg4).trans d3
        have x0 := (hbx.below hb4).cell 0
        have y0 := hby.cell 0
        have x1 := (hbx.below hb4).cell 1
        have y1 := hby.cell 1
        have x2 := (hbx.below hb4).cell 2
        have y2 := hby.cell 2
        have x3 := (hbx.below hb4).cell 3
        have y3 := hby.cell 3
        have HO := Lib.hid (zone_sameL x y l l' F W4 (zon_on hx1 (ag_of HF.out HT.out.below hb5)) (zon_on hy1 (ag_of HF.out HT.out.below hb5)) (fun b hb => Nat.lt_of_lt_of_le (HF.out b hb) (Nat.le_trans HT.out.below.size hb5.size)) (HSM.out x (List.mem_of_getElem? HXY.out.1)))
        have HB5 := Lib.hid hb5
        clear hx hy hg1 hg2 hg3 hg4 hx1 hy1 hb3 hb4 hb5 hbx hby d0 d1 d2 d3
        cases hB : eqZ x y with
        | true =>
          rw [hB] at HO
          have HB := Lib.hid hB
          clear hB
          go_wp2_with fail
          refine HO.out.mono ?_
          rintro e wz ⟨rfl, hz⟩
          have HT2 := Lib.hid (HT.out.on HF.out (HB5.out.trans (hz.mono HB5.out.size)))
          clear hz
          go_wp2
          go_roundw
          case rel => exact ⟨k + 1, by go_num, by omega, HT2, Lib.hid fun j x' y' hj hx' hy' => by
            rcases Nat.lt_or_ge j k with h | h
            · exact HE.out j x' y' h hx' hy'
            · obtain rfl : j = k := by omega
              rw [HXY.out.1] at hx'
              rw [HXY.out.2] at hy'
              injection hx' with hx'
              injection hy' with hy'
              subst hx' hy'
              exact HB.out⟩
          case measure => simp [intOf]; omega
        | false =>
          rw [hB] at HO
          have HG := Lib.hid (eqL_no HXY.out.1 HXY.out.2 hB)
          clear hB
          go_wp2_with fail
          refine HO.out.mono ?_
          rintro e wz ⟨rfl, hz⟩
          have HT2 := Lib.hid (HT.out.on HF.out (HB5.out.trans (hz.mono HB5.out.size)))
          clear hz
          go_wp2
          go_ret
          exact ⟨by rw [HG.out]; rfl, HT2.out.below⟩
      · have k1 : ¬ (k : Int) < (n : Int) := by omega
        have HG := Lib.hid (eqL_yes (eq := eqZ) (HL.out.1.trans HL.out.2.symm) fun j x y hx hy => HE.out j x y (by
          have := (List.getElem?_eq_some_iff.1 hx).1
          rw [HL.out.1] at this
          omega) hx hy)
        go_wp2
        go_ret
        exact ⟨by rw [HG.out]; rfl, HT.out.below⟩
  · have b0 : ((n : Int) != (m : Int)) = true := by rw [bne_iff_ne]; omega
    have HG := Lib.hid (eqL_len (eq := eqZ) (xs := xs) (ys := ys) (by omega))
    clear ha hc hl hl2 hnm hF
    go_enter Tryz.func104, Tryz.ntmps104
    go_wp2
    go_ret
    exact ⟨by rw [HG.out]; rfl, Below.refl _ _⟩
set_option maxHeartbeats 2000000 in
theorem sameTax_1 (x y : Txs) (l l' : Txs.Lay) (F : Nat → Prop) (p q : Nat) (w : World) (hbx : Qu.Blk w p 26 #[.bool x.incl, .bool x.byOrder, .int .i64 x.round, .slice l.zones.A l.zones.n l.zones.c]) (hby : Qu.Blk w q 26 #[.bool y.incl, .bool y.byOrder, .int .i64 y.round, .slice l'.zones.A l'.zones.n l'.zones.c]) :
    Calls Tryz.prog 100 #[.pointer (some ⟨p, 0, none⟩), .pointer (some ⟨q, 0, none⟩)] w fun e w' => e = .returned (.bool (x.incl == y.incl)) ∧ Below w.heap.size w w' := by
  have x0 := hbx.cell 0
  have y0 := hby.cell 0
  clear hbx hby
  go_enter Tryz.func100, Tryz.ntmps100
  go_wp2
  all_goals (go_ret; exact ⟨by first | rfl | simp [Sr.same, *], Below.refl _ _⟩)
set_option maxHeartbeats 2000000 in
theorem sameTax_2 (x y : Txs) (l l' : Txs.Lay) (F : Nat → Prop) (p q : Nat) (w : World) (hbx : Qu.Blk w p 26 #[.bool x.incl, .bool x.byOrder, .int .i64 x.round, .slice l.zones.A l.zones.n l.zones.c]) (hby : Qu.Blk w q 26 #[.bool y.incl, .bool y.byOrder, .int .i64 y.round, .slice l'.zones.A l'.zones.n l'.zones.c]) :
    Calls Tryz.prog 101 #[.pointer (some ⟨p, 0, none⟩), .pointer (some ⟨q, 0, none⟩)] w fun e w' => e = .returned (.bool (x.byOrder == y.byOrder)) ∧ Below w.heap.size w w' := by
  have x1 := hbx.cell 1
  have y1 := hby.cell 1
  clear hbx hby
  go_enter Tryz.func101, Tryz.ntmps101
  go_wp2
  all_goals (go_ret; exact ⟨by first | rfl | simp [Sr.same, *], Below.refl _ _⟩)
set_option maxHeartbeats 2000000 in
theorem sameTax_3 (x y : Txs) (l l' : Txs.Lay) (F : Nat → Prop) (p q : Nat) (w : World) (hbx : Qu.Blk w p 26 #[.bool x.incl, .bool x.byOrder, .int .i64 x.round, .slice l.zones.A l.zones.n l.zones.c]) (hby : Qu.Blk w q 26 #[.bool y.incl, .bool y.byOrder, .int .i64 y.round, .slice l'.zones.A l'.zones.n l'.zones.c]) :
    Calls Tryz.prog 102 #[.pointer (some ⟨p, 0, none⟩), .pointer (some ⟨q, 0, none⟩)] w fun e w' => e = .returned (.bool (x.round == y.round)) ∧ Below w.heap.size w w' := by
  have x2 := hbx.cell 2
  have y2 := hby.cell 2
  clear hbx hby
  go_enter Tryz.func102, Tryz.ntmps102
  go_wp2
  all_goals (go_ret; exact ⟨by first | rfl | simp [Sr.same, *], Below.refl _ _⟩)
set_option maxHeartbeats 2000000 in
theorem sameTax_4 (x y : Txs) (l l' : Txs.Lay) (F : Nat → Prop) (p q : Nat) (w : World) (hbx : Qu.Blk w p 26 #[.bool x.incl, .bool x.byOrder, .int .i64 x.round, .slice l.zones.A l.zones.n l.zones.c]) (hby : Qu.Blk w q 26 #[.bool y.incl, .bool y.byOrder, .int .i64 y.round, .slice l'.zones.A l'.zones.n l'.zones.c]) (hx : Txs.Holds w F x l) (hy : Txs.Holds w F y l') (hF : ∀ b, F b → b < w.heap.size) (hn : x.zones.length ≤ 9223372036854775807) (hS : ∀ z ∈ x.zones, z.rates.length ≤ 9223372036854775807) :
    Calls Tryz.prog 103 #[.pointer (some ⟨p, 0, none⟩), .pointer (some ⟨q, 0, none⟩)] w fun e w' => e = .returned (.bool (eqL eqZ x.zones y.zones)) ∧ Below w.heap.size w w' := by
  have x3 := hbx.cell 3
  have y3 := hby.cell 3
  have HC := Lib.hid (same_zonesL l.zones.A l'.zones.A l.zones.n l'.zones.n l.zones.c l'.zones.c x.zones y.zones F w (hx.zones.row) (hy.zones.row) hF (by have := hx.zones.row.len; omega) hS)
  clear hx hy hF hbx hby
  go_enter Tryz.func103, Tryz.ntmps103
  go_wp2_with fail
  refine HC.out.mono ?_
  rintro e w1 ⟨rfl, hb⟩
  have HB := Lib.hid hb
  clear hb
  go_wp2
  go_ret
  exact ⟨rfl, HB.out⟩
set_option maxHeartbeats 4000000 in
theorem tax_sameL (x y : Txs) (l l' : Txs.Lay) (F : Nat → Prop) (w : World) (hx : Txs.Holds w F x l) (hy : Txs.Holds w F y l') (hF : ∀ b, F b → b < w.heap.size) (hn : x.zones.length ≤ 9223372036854775807) (hS : ∀ z ∈ x.zones, z.rates.length ≤ 9223372036854775807) :
    Calls Tryz.prog 52 #[.agg #[.bool x.incl, .bool x.byOrder, .int .i64 x.round, .slice l.zones.A l.zones.n l.zones.c], .agg #[.bool y.incl, .bool y.byOrder, .int .i64 y.round, .slice l'.zones.A l'.zones.n l'.zones.c]] w fun e w' => e = .returned (.bool (eqX x y)) ∧ Below w.heap.size w w' := by
  obtain ⟨W1, hW1⟩ : ∃ W1, w.alloc (.cells #[.bool x.incl, .bool x.byOrder, .int .i64 x.round, .slice l.zones.A l.zones.n l.zones.c] 26) = W1 := ⟨_, rfl⟩
  obtain ⟨W2, hW2⟩ : ∃ W2, W1.alloc (.cells #[.bool y.incl, .bool y.byOrder, .int .i64 y.round, .slice l'.zones.A l'.zones.n l'.zones.c] 26) = W2 := ⟨_, rfl⟩
  have hB : Below w.heap.size w W2 := by rw [← hW2, ← hW1]; exact ((Below.refl _ _).alloc (Nat.le_refl _) _).alloc (by simp) _
  have hbx : Qu.Blk W2 w.heap.size 26 #[.bool x.incl, .bool x.byOrder, .int .i64 x.round, .slice l.zones.A l.zones.n l.zones.c] := by rw [← hW2, ← hW1]; exact (Qu.Blk.new w _ _).alloc _
  have hby : Qu.Blk W2 W1.heap.size 26 #[.bool y.incl, .bool y.byOrder, .int .i64 y.round, .slice l'.zones.A l'.zones.n l'.zones.c] := by rw [← hW2]; exact Qu.Blk.new W1 _ _
  obtain ⟨W3, hW3⟩ : ∃ W3, W2.alloc (.cells #[.func (.func 100) #[] #[.pointer (some ⟨w.heap.size, 0, none⟩), .pointer (some ⟨W1.heap.size, 0, none⟩)], .func (.func 101) #[] #[.pointer (some ⟨w.heap.size, 0, none⟩), .pointer (some ⟨W1.heap.size, 0, none⟩)], .func (.func 102) #[] #[.pointer (some ⟨w.heap.size, 0, none⟩), .pointer (some ⟨W1.heap.size, 0, none⟩)], .func (.func 103) #[] #[.pointer (some ⟨w.heap.size, 0, none⟩), .pointer (some ⟨W1.heap.size, 0, none⟩)]] 35) = W3 := ⟨_, rfl⟩
  have hb3 : Below W2.heap.size W2 W3 := by rw [← hW3]; exact (Below.refl _ _).alloc (Nat.le_refl _) _
  have hbf : Qu.Blk W3 W2.heap.size 35 #[.func (.func 100) #[] #[.pointer (some ⟨w.heap.size, 0, none⟩), .pointer (some ⟨W1.heap.size, 0, none⟩)], .func (.func 101) #[] #[.pointer (some ⟨w.heap.size, 0, none⟩), .pointer (some ⟨W1.heap.size, 0, none⟩)], .func (.func 102) #[] #[.pointer (some ⟨w.heap.size, 0, none⟩), .pointer (some ⟨W1.heap.size, 0, none⟩)], .func (.func 103) #[] #[.pointer (some ⟨w.heap.size, 0, none⟩), .pointer (some ⟨W1.heap.size, 0, none⟩)]] := by rw [← hW3]; exact Qu.Blk.new W2 _ _
  have HON : ∀ W, Below W3.heap.size W3 W → Txs.Holds W F x l ∧ Txs.Holds W F y l' ∧ (∀ b, F b → b < W.heap.size) := fun W hW => by
    have hz : Below w.heap.size w W := (hB.trans (hb3.mono hB.size)).trans (hW.mono (hB.trans (hb3.mono hB.size)).size)
    have ag : Agree F w W := ag_of hF (Below.refl _ _) (hz)
    exact ⟨txs_on hx ag, txs_on hy ag, fun b hb => Nat.lt_of_lt_of_le (hF b hb) hz.size⟩
  have HA : Asks W3 [.func (.func 100) #[] #[.pointer (some ⟨w.heap.size, 0, none⟩), .pointer (some ⟨W1.heap.size, 0, none⟩)], .func (.func 101) #[] #[.pointer (some ⟨w.heap.size, 0, none⟩), .pointer (some ⟨W1.heap.size, 0, none⟩)], .func (.func 102) #[] #[.pointer (some ⟨w.heap.size, 0, none⟩), .pointer (some ⟨W1.heap.size, 0, none⟩)], .func (.func 103) #[] #[.pointer (some ⟨w.heap.size, 0, none⟩), .pointer (some ⟨W1.heap.size, 0, none⟩)]] [x.incl == y.incl, x.byOrder == y.byOrder, x.round == y.round, eqL eqZ x.zones y.zones] := by
    refine Asks.cons (run_call Tryz.func100 (by kernel_rfl) (by kernel_rfl) _) (fun W hW => sameTax_1 x y l l' F w.heap.size W1.heap.size W (hbx.below (hb3.trans (hW.mono hb3.size))) (hby.below (hb3.trans (hW.mono hb3.size)))) ?_
    refine Asks.cons (run_call Tryz.func101 (by kernel_rfl) (by kernel_rfl) _) (fun W hW => sameTax_2 x y l l' F w.heap.size W1.heap.size W (hbx.below (hb3.trans (hW.mono hb3.size))) (hby.below (hb3.trans (hW.mono hb3.size)))) ?_
    refine Asks.cons (run_call Tryz.func102 (by kernel_rfl) (by kernel_rfl) _) (fun W hW => sameTax_3 x y l l' F w.heap.size W1.heap.size W (hbx.below (hb3.trans (hW.mono hb3.size))) (hby.below (hb3.trans (hW.mono hb3.size)))) ?_
    refine Asks.cons (run_call Tryz.func103 (by kernel_rfl) (by kernel_rfl) _) (fun W hW => sameTax_4 x y l l' F w.heap.size W1.heap.size W (hbx.below (hb3.trans (hW.mono hb3.size))) (hby.below (hb3.trans (hW.mono hb3.size))) (HON W hW).1 (HON W hW).2.1 (HON W hW).2.2 hn hS) ?_
    exact Asks.nil _
  have HC := Lib.hid (fields_any _ _ W2.heap.size 4 W3 hbf rfl rfl (by omega) HA)
  have HE : Hid (([x.incl == y.incl, x.byOrder == y.byOrder, x.round == y.round, eqL eqZ x.zones y.zones].all id) = eqX x y) := Lib.hid (by simp only [List.all_cons, List.all_nil, id, Bool.and_true]; unfold eqX; simp only [Bool.and_assoc])
  have HB := Lib.hid (hB.trans (hb3.mono hB.size))
  clear hx hy hF hB hbx hby hb3 hbf HON HA
  go_enter Tryz.func52, Tryz.ntmps52
  go_wp2_with fail
  refine HC.out.mono ?_
  rintro e w1 ⟨rfl, hb⟩
  have HB2 := Lib.hid (HB.out.trans (hb.mono HB.out.size))
  clear hb
  rw [HE.out]
  go_wp2
  go_ret
  exact ⟨rfl, HB2.out⟩
set_option maxHeartbeats 2000000 in
theorem samePolicy_1 (x y : Pol) (l l' : Pol.Lay) (F : Nat → Prop) (p q : Nat) (w : World) (hbx : Qu.Blk w p 31 #[.int .i64 x.window, .int .i64 x.grace, .int .i64 x.mode, .int .i64 x.restock, .slice l.order.A l.order.n l.order.c, .slice l.credit.A l.credit.n l.credit.c]) (hby : Qu.Blk w q 31 #[.int .i64 y.window, .int .i64 y.grace, .int .i64 y.mode, .int .i64 y.restock, .slice l'.order.A l'.order.n l'.order.c, .slice l'.credit.A l'.credit.n l'.credit.c]) :
    Calls Tryz.prog 106 #[.pointer (some ⟨p, 0, none⟩), .pointer (some ⟨q, 0, none⟩)] w fun e w' => e = .returned (.bool (x.window == y.window)) ∧ Below w.heap.size w w' := by
  have x0 := hbx.cell 0
  have y0 := hby.cell 0
  clear hbx hby
  go_enter Tryz.func106, Tryz.ntmps106
  go_wp2
  all_goals (go_ret; exact ⟨by first | rfl | simp [Sr.same, *], Below.refl _ _⟩)
set_option maxHeartbeats 2000000 in
theorem samePolicy_2 (x y : Pol) (l l' : Pol.Lay) (F : Nat → Prop) (p q : Nat) (w : World) (hbx : Qu.Blk w p 31 #[.int .i64 x.window, .int .i64 x.grace, .int .i64 x.mode, .int .i64 x.restock, .slice l.order.A l.order.n l.order.c, .slice l.credit.A l.credit.n l.credit.c]) (hby : Qu.Blk w q 31 #[.int .i64 y.window, .int .i64 y.grace, .int .i64 y.mode, .int .i64 y.restock, .slice l'.order.A l'.order.n l'.order.c, .slice l'.credit.A l'.credit.n l'.credit.c]) :
    Calls Tryz.prog 107 #[.pointer (some ⟨p, 0, none⟩), .pointer (some ⟨q, 0, none⟩)] w fun e w' => e = .returned (.bool (x.grace == y.grace)) ∧ Below w.heap.size w w' := by
  have x1 := hbx.cell 1
  have y1 := hby.cell 1
  clear hbx hby
  go_enter Tryz.func107, Tryz.ntmps107
  go_wp2
  all_goals (go_ret; exact ⟨by first | rfl | simp [Sr.same, *], Below.refl _ _⟩)
set_option maxHeartbeats 2000000 in
theorem samePolicy_3 (x y : Pol) (l l' : Pol.Lay) (F : Nat → Prop) (p q : Nat) (w : World) (hbx : Qu.Blk w p 31 #[.int .i64 x.window, .int .i64 x.grace, .int .i64 x.mode, .int .i64 x.restock, .slice l.order.A l.order.n l.order.c, .slice l.credit.A l.credit.n l.credit.c]) (hby : Qu.Blk w q 31 #[.int .i64 y.window, .int .i64 y.grace, .int .i64 y.mode, .int .i64 y.restock, .slice l'.order.A l'.order.n l'.order.c, .slice l'.credit.A l'.credit.n l'.credit.c]) :
    Calls Tryz.prog 108 #[.pointer (some ⟨p, 0, none⟩), .pointer (some ⟨q, 0, none⟩)] w fun e w' => e = .returned (.bool (x.mode == y.mode)) ∧ Below w.heap.size w w' := by
  have x2 := hbx.cell 2
  have y2 := hby.cell 2
  clear hbx hby
  go_enter Tryz.func108, Tryz.ntmps108
  go_wp2
  all_goals (go_ret; exact ⟨by first | rfl | simp [Sr.same, *], Below.refl _ _⟩)
set_option maxHeartbeats 2000000 in
theorem samePolicy_4 (x y : Pol) (l l' : Pol.Lay) (F : Nat → Prop) (p q : Nat) (w : World) (hbx : Qu.Blk w p 31 #[.int .i64 x.window, .int .i64 x.grace, .int .i64 x.mode, .int .i64 x.restock, .slice l.order.A l.order.n l.order.c, .slice l.credit.A l.credit.n l.credit.c]) (hby : Qu.Blk w q 31 #[.int .i64 y.window, .int .i64 y.grace, .int .i64 y.mode, .int .i64 y.restock, .slice l'.order.A l'.order.n l'.order.c, .slice l'.credit.A l'.credit.n l'.credit.c]) :
    Calls Tryz.prog 109 #[.pointer (some ⟨p, 0, none⟩), .pointer (some ⟨q, 0, none⟩)] w fun e w' => e = .returned (.bool (x.restock == y.restock)) ∧ Below w.heap.size w w' := by
  have x3 := hbx.cell 3
  have y3 := hby.cell 3
  clear hbx hby
  go_enter Tryz.func109, Tryz.ntmps109
  go_wp2
  all_goals (go_ret; exact ⟨by first | rfl | simp [Sr.same, *], Below.refl _ _⟩)
set_option maxHeartbeats 2000000 in
theorem samePolicy_5 (x y : Pol) (l l' : Pol.Lay) (F : Nat → Prop) (p q : Nat) (w : World) (hbx : Qu.Blk w p 31 #[.int .i64 x.window, .int .i64 x.grace, .int .i64 x.mode, .int .i64 x.restock, .slice l.order.A l.order.n l.order.c, .slice l.credit.A l.credit.n l.credit.c]) (hby : Qu.Blk w q 31 #[.int .i64 y.window, .int .i64 y.grace, .int .i64 y.mode, .int .i64 y.restock, .slice l'.order.A l'.order.n l'.order.c, .slice l'.credit.A l'.credit.n l'.credit.c]) (hx : Pol.Holds w F x l) (hy : Pol.Holds w F y l') (hF : ∀ b, F b → b < w.heap.size) (hn : x.order.length ≤ 9223372036854775807) (hn2 : x.credit.length ≤ 9223372036854775807) :
    Calls Tryz.prog 110 #[.pointer (some ⟨p, 0, none⟩), .pointer (some ⟨q, 0, none⟩)] w fun e w' => e = .returned (.bool (eqL eqI x.order y.order)) ∧ Below w.heap.size w w' := by
  have x4 := hbx.cell 4
  have y4 := hby.cell 4
  have HC := Lib.hid (equalN_any l.order.A l'.order.A l.order.n l'.order.n l.order.c l'.order.c x.order y.order F w (hx.order.row) (hy.order.row) hF (by have := hx.order.row.len; have := hn; omega))
  clear hx hy hF hbx hby
  go_enter Tryz.func110, Tryz.ntmps110
  go_wp2_with fail
  refine HC.out.mono ?_
  rintro e w1 ⟨rfl, hb⟩
  have HB := Lib.hid hb
  clear hb
  go_wp2
  go_ret
  exact ⟨rfl, HB.out⟩
set_option maxHeartbeats 2000000 in
theorem samePolicy_6 (x y : Pol) (l l' : Pol.Lay) (F : Nat → Prop) (p q : Nat) (w : World) (hbx : Qu.Blk w p 31 #[.int .i64 x.window, .int .i64 x.grace, .int .i64 x.mode, .int .i64 x.restock, .slice l.order.A l.order.n l.order.c, .slice l.credit.A l.credit.n l.credit.c]) (hby : Qu.Blk w q 31 #[.int .i64 y.window, .int .i64 y.grace, .int .i64 y.mode, .int .i64 y.restock, .slice l'.order.A l'.order.n l'.order.c, .slice l'.credit.A l'.credit.n l'.credit.c]) (hx : Pol.Holds w F x l) (hy : Pol.Holds w F y l') (hF : ∀ b, F b → b < w.heap.size) (hn : x.order.length ≤ 9223372036854775807) (hn2 : x.credit.length ≤ 9223372036854775807) :
    Calls Tryz.prog 112 #[.pointer (some ⟨p, 0, none⟩), .pointer (some ⟨q, 0, none⟩)] w fun e w' => e = .returned (.bool (eqL eqI x.credit y.credit)) ∧ Below w.heap.size w w' := by
  have x5 := hbx.cell 5
  have y5 := hby.cell 5
  have HC := Lib.hid (equalN_any l.credit.A l'.credit.A l.credit.n l'.credit.n l.credit.c l'.credit.c x.credit y.credit F w (hx.credit.row) (hy.credit.row) hF (by have := hx.credit.row.len; have := hn2; omega))
  clear hx hy hF hbx hby
  go_enter Tryz.func112, Tryz.ntmps112
  go_wp2_with fail
  refine HC.out.mono ?_
  rintro e w1 ⟨rfl, hb⟩
  have HB := Lib.hid hb
  clear hb
  go_wp2
  go_ret
  exact ⟨rfl, HB.out⟩
set_option maxHeartbeats 4000000 in
theorem policy_sameL (x y : Pol) (l l' : Pol.Lay) (F : Nat → Prop) (w : World) (hx : Pol.Holds w F x l) (hy : Pol.Holds w F y l') (hF : ∀ b, F b → b < w.heap.size) (hn : x.order.length ≤ 9223372036854775807) (hn2 : x.credit.length ≤ 9223372036854775807) :
    Calls Tryz.prog 55 #[.agg #[.int .i64 x.window, .int .i64 x.grace, .int .i64 x.mode, .int .i64 x.restock, .slice l.order.A l.order.n l.order.c, .slice l.credit.A l.credit.n l.credit.c], .agg #[.int .i64 y.window, .int .i64 y.grace, .int .i64 y.mode, .int .i64 y.restock, .slice l'.order.A l'.order.n l'.order.c, .slice l'.credit.A l'.credit.n l'.credit.c]] w fun e w' => e = .returned (.bool (eqP x y)) ∧ Below w.heap.size w w' := by
  obtain ⟨W1, hW1⟩ : ∃ W1, w.alloc (.cells #[.int .i64 x.window, .int .i64 x.grace, .int .i64 x.mode, .int .i64 x.restock, .slice l.order.A l.order.n l.order.c, .slice l.credit.A l.credit.n l.credit.c] 31) = W1 := ⟨_, rfl⟩
  obtain ⟨W2, hW2⟩ : ∃ W2, W1.alloc (.cells #[.int .i64 y.window, .int .i64 y.grace, .int .i64 y.mode, .int .i64 y.restock, .slice l'.order.A l'.order.n l'.order.c, .slice l'.credit.A l'.credit.n l'.credit.c] 31) = W2 := ⟨_, rfl⟩
  have hB : Below w.heap.size w W2 := by rw [← hW2, ← hW1]; exact ((Below.refl _ _).alloc (Nat.le_refl _) _).alloc (by simp) _
  have hbx : Qu.Blk W2 w.heap.size 31 #[.int .i64 x.window, .int .i64 x.grace, .int .i64 x.mode, .int .i64 x.restock, .slice l.order.A l.order.n l.order.c, .slice l.credit.A l.credit.n l.credit.c] := by rw [← hW2, ← hW1]; exact (Qu.Blk.new w _ _).alloc _
  have hby : Qu.Blk W2 W1.heap.size 31 #[.int .i64 y.window, .int .i64 y.grace, .int .i64 y.mode, .int .i64 y.restock, .slice l'.order.A l'.order.n l'.order.c, .slice l'.credit.A l'.credit.n l'.credit.c] := by rw [← hW2]; exact Qu.Blk.new W1 _ _
  obtain ⟨W3, hW3⟩ : ∃ W3, W2.alloc (.cells #[.func (.func 106) #[] #[.pointer (some ⟨w.heap.size, 0, none⟩), .pointer (some ⟨W1.heap.size, 0, none⟩)], .func (.func 107) #[] #[.pointer (some ⟨w.heap.size, 0, none⟩), .pointer (some ⟨W1.heap.size, 0, none⟩)], .func (.func 108) #[] #[.pointer (some ⟨w.heap.size, 0, none⟩), .pointer (some ⟨W1.heap.size, 0, none⟩)], .func (.func 109) #[] #[.pointer (some ⟨w.heap.size, 0, none⟩), .pointer (some ⟨W1.heap.size, 0, none⟩)], .func (.func 110) #[] #[.pointer (some ⟨w.heap.size, 0, none⟩), .pointer (some ⟨W1.heap.size, 0, none⟩)], .func (.func 112) #[] #[.pointer (some ⟨w.heap.size, 0, none⟩), .pointer (some ⟨W1.heap.size, 0, none⟩)]] 35) = W3 := ⟨_, rfl⟩
  have hb3 : Below W2.heap.size W2 W3 := by rw [← hW3]; exact (Below.refl _ _).alloc (Nat.le_refl _) _
  have hbf : Qu.Blk W3 W2.heap.size 35 #[.func (.func 106) #[] #[.pointer (some ⟨w.heap.size, 0, none⟩), .pointer (some ⟨W1.heap.size, 0, none⟩)], .func (.func 107) #[] #[.pointer (some ⟨w.heap.size, 0, none⟩), .pointer (some ⟨W1.heap.size, 0, none⟩)], .func (.func 108) #[] #[.pointer (some ⟨w.heap.size, 0, none⟩), .pointer (some ⟨W1.heap.size, 0, none⟩)], .func (.func 109) #[] #[.pointer (some ⟨w.heap.size, 0, none⟩), .pointer (some ⟨W1.heap.size, 0, none⟩)], .func (.func 110) #[] #[.pointer (some ⟨w.heap.size, 0, none⟩), .pointer (some ⟨W1.heap.size, 0, none⟩)], .func (.func 112) #[] #[.pointer (some ⟨w.heap.size, 0, none⟩), .pointer (some ⟨W1.heap.size, 0, none⟩)]] := by rw [← hW3]; exact Qu.Blk.new W2 _ _
  have HON : ∀ W, Below W3.heap.size W3 W → Pol.Holds W F x l ∧ Pol.Holds W F y l' ∧ (∀ b, F b → b < W.heap.size) := fun W hW => by
    have hz : Below w.heap.size w W := (hB.trans (hb3.mono hB.size)).trans (hW.mono (hB.trans (hb3.mono hB.size)).size)
    have ag : Agree F w W := ag_of hF (Below.refl _ _) (hz)
    exact ⟨pol_on hx ag, pol_on hy ag, fun b hb => Nat.lt_of_lt_of_le (hF b hb) hz.size⟩
  have HA : Asks W3 [.func (.func 106) #[] #[.pointer (some ⟨w.heap.size, 0, none⟩), .pointer (some ⟨W1.heap.size, 0, none⟩)], .func (.func 107) #[] #[.pointer (some ⟨w.heap.size, 0, none⟩), .pointer (some ⟨W1.heap.size, 0, none⟩)], .func (.func 108) #[] #[.pointer (some ⟨w.heap.size, 0, none⟩), .pointer (some ⟨W1.heap.size, 0, none⟩)], .func (.func 109) #[] #[.pointer (some ⟨w.heap.size, 0, none⟩), .pointer (some ⟨W1.heap.size, 0, none⟩)], .func (.func 110) #[] #[.pointer (some ⟨w.heap.size, 0, none⟩), .pointer (some ⟨W1.heap.size, 0, none⟩)], .func (.func 112) #[] #[.pointer (some ⟨w.heap.size, 0, none⟩), .pointer (some ⟨W1.heap.size, 0, none⟩)]] [x.window == y.window, x.grace == y.grace, x.mode == y.mode, x.restock == y.restock, eqL eqI x.order y.order, eqL eqI x.credit y.credit] := by
    refine Asks.cons (run_call Tryz.func106 (by kernel_rfl) (by kernel_rfl) _) (fun W hW => samePolicy_1 x y l l' F w.heap.size W1.heap.size W (hbx.below (hb3.trans (hW.mono hb3.size))) (hby.below (hb3.trans (hW.mono hb3.size)))) ?_
    refine Asks.cons (run_call Tryz.func107 (by kernel_rfl) (by kernel_rfl) _) (fun W hW => samePolicy_2 x y l l' F w.heap.size W1.heap.size W (hbx.below (hb3.trans (hW.mono hb3.size))) (hby.below (hb3.trans (hW.mono hb3.size)))) ?_
    refine Asks.cons (run_call Tryz.func108 (by kernel_rfl) (by kernel_rfl) _) (fun W hW => samePolicy_3 x y l l' F w.heap.size W1.heap.size W (hbx.below (hb3.trans (hW.mono hb3.size))) (hby.below (hb3.trans (hW.mono hb3.size)))) ?_
    refine Asks.cons (run_call Tryz.func109 (by kernel_rfl) (by kernel_rfl) _) (fun W hW => samePolicy_4 x y l l' F w.heap.size W1.heap.size W (hbx.below (hb3.trans (hW.mono hb3.size))) (hby.below (hb3.trans (hW.mono hb3.size)))) ?_
    refine Asks.cons (run_call Tryz.func110 (by kernel_rfl) (by kernel_rfl) _) (fun W hW => samePolicy_5 x y l l' F w.heap.size W1.heap.size W (hbx.below (hb3.trans (hW.mono hb3.size))) (hby.below (hb3.trans (hW.mono hb3.size))) (HON W hW).1 (HON W hW).2.1 (HON W hW).2.2 hn hn2) ?_
    refine Asks.cons (run_call Tryz.func112 (by kernel_rfl) (by kernel_rfl) _) (fun W hW => samePolicy_6 x y l l' F w.heap.size W1.heap.size W (hbx.below (hb3.trans (hW.mono hb3.size))) (hby.below (hb3.trans (hW.mono hb3.size))) (HON W hW).1 (HON W hW).2.1 (HON W hW).2.2 hn hn2) ?_
    exact Asks.nil _
  have HC := Lib.hid (fields_any _ _ W2.heap.size 6 W3 hbf rfl rfl (by omega) HA)
  have HE : Hid (([x.window == y.window, x.grace == y.grace, x.mode == y.mode, x.restock == y.restock, eqL eqI x.order y.order, eqL eqI x.credit y.credit].all id) = eqP x y) := Lib.hid (by simp only [List.all_cons, List.all_nil, id, Bool.and_true]; unfold eqP; simp only [Bool.and_assoc])
  have HB := Lib.hid (hB.trans (hb3.mono hB.size))
  clear hx hy hF hB hbx hby hb3 hbf HON HA
  go_enter Tryz.func55, Tryz.ntmps55
  go_wp2_with fail
  refine HC.out.mono ?_
  rintro e w1 ⟨rfl, hb⟩
  have HB2 := Lib.hid (HB.out.trans (hb.mono HB.out.size))
  clear hb
  rw [HE.out]
  go_wp2
  go_ret
  exact ⟨rfl, HB2.out⟩
end Go.Proofs.YtfcmhgneijipgaaGreat.Ru
