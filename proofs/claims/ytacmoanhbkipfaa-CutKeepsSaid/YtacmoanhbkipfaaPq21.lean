/- Cuts: the landed Apply of any promotion; law 15's few and awake (made by gen-cut15.py). -/
import Derived.Deep.CutBlock
import Derived.Deep.DeepCutAuto
import Derived.Test.YtacmoanhbkipfaaPq14
import Derived.Test.YtacmoanhbkipfaaPq20
import Derived.Test.YtacmoanhbkipfaaPq7

set_option maxRecDepth 100000
set_option linter.unusedVariables false
namespace Go.Proofs.Ytacmoanhbkipfaa.Ct
open Go.ChangeShapes Go.WideShapes Go.ChangeAt Go.RowKit
open Ap (Unt Tir Prm Prt kUnt kTir kPrt row_Unt row_Tir row_Prt)
open Kd (Kind Row kInt row_int)
open Ko (Out Told Told2 At row_on)
theorem parts_small {w : World} {F : Nat → Prop} {p : Prm} {l : Prm.Lay} (h : Ap.Prm.Holds w F p l) : Pr.PartsSmall p.parts := fun k q hq => by
  obtain ⟨g, o, y, _, _, _, hh, _⟩ := row_Prt h.parts.row hq
  have h1 := hh.scope.skus.row.len
  have h2 := hh.scope.cats.row.len
  have h3 := hh.scope.skus.fit.2
  have h4 := hh.scope.cats.fit.2
  omega
theorem small_of {w : World} {F : Nat → Prop} {p : Prm} {l : Prm.Lay} (h : Ap.Prm.Holds w F p l) (h1 : p.scope.skus.length ≤ 40) (h2 : p.scope.cats.length ≤ 40) (h3 : p.parts.length ≤ 20) (h4 : p.tiers.length ≤ 20) : Pr.PrmSmall p l :=
  Pm.Slight.small (w := w) (F := F) ⟨by omega, by omega, parts_small h, by omega, by omega⟩ h
theorem kind_in {p : Prm} (h : Pr.promoB p = true) : p.kind = 1 ∨ p.kind = 2 ∨ p.kind = 3 ∨ p.kind = 4 ∨ p.kind = 5 ∨ p.kind = 6 ∨ p.kind = 7 := by
  unfold Pr.promoB at h
  rw [Bool.and_eq_true] at h
  have h1 := h.1
  unfold Pr.headB at h1
  simp only [Bool.and_eq_true, decide_eq_true_eq] at h1
  omega
theorem call_of {f : Nat} {fn : Func} (hf : Try.prog.funcs[f]? = some fn) (hn : (fn.name == "runtime.NumGoroutine") = false) (hb : fn.body.isNone = false) (args : Array Value) (W : World) : (callFunc f args).run Try.prog W = .ok (.enter f args) W := by
  have h1 : ¬ fn.name = "runtime.NumGoroutine" := by simpa using hn
  have h2 : ¬ fn.body = none := by intro e; rw [e] at hb; cases hb
  unfold callFunc
  simp [hf, h1, h2]
theorem lapply_any (p : Prm) (l : Prm.Lay) (A : Option Addr) (n c : Nat) (us : List Unt) (B : Option Addr) (m d : Nat) (ms : List Int) (w : World) (hp : Ap.Prm.Holds w (· < w.heap.size) p l) (hS : Pr.PrmSmall p l) (h : Row kUnt w (· < w.heap.size) A n us) (hf : Kd.Fit A n c) (hg : Row kInt w (· < w.heap.size) B m ms) (hn : n ≤ 1000000000000) (hm : m ≤ 1000000000000) :
    Calls Try.prog 11 #[.agg #[.string p.id, .int .i64 p.kind, .int .i64 p.priority, .string p.group, .string p.code, .bool p.closes, .slice l.scope.skus.A l.scope.skus.n l.scope.skus.c, .slice l.scope.cats.A l.scope.cats.n l.scope.cats.c, .int .i64 p.least, .int .i64 p.rate, .int .i64 p.amount, .int .i64 p.buy, .int .i64 p.get, .slice l.parts.A l.parts.n l.parts.c, .slice l.tiers.A l.tiers.n l.tiers.c], .slice A n c, .slice B m d] w fun e w' => Ko.Told2 kUnt 41 w e w' (applyU p us ms).1 (applyU p us ms).2 := by
  have hPr := fun W (hb : Below w.heap.size w W) => Pm.promo_any p l W (Pr.holds_later hp hb) hS
  cases hb : Pr.promoB p with
  | false => exact lapply_bad p l A n c us B m d ms w hPr h hf hg hn hm hb
  | true =>
    rcases kind_in hb with hk | hk | hk | hk | hk | hk | hk
    all_goals first
      | exact lapply_rows p l A n c us B m d ms w hPr h hf hg hn hm hb hk
      | exact lapply_sets p l A n c us B m d ms w hPr h hf hg hn hm hb hk
      | exact lapply_ship p l A n c us B m d ms w hPr h hf hg hn hm hb hk
      | skip
    · cases hmb : mayB us ms with
      | false => exact lapply_not p l A n c us B m d ms w hPr h hf hg hn hm 1 18 hk (by omega) rfl hb hmb
      | true => exact lapply_yes p l A n c us B m d ms w hPr h hf hg hn hm 1 18 hk (by omega) rfl hb hmb (call_of Try.func18 (by kernel_rfl) (by kernel_rfl)) fun A5 c5 W hW hr => way_1 p l A5 _ c5 _ W hk hb (row_on hp.tiers.row hW) hS.nt hr (nets_ok (mayB_iff.1 hmb))
    · cases hmb : mayB us ms with
      | false => exact lapply_not p l A n c us B m d ms w hPr h hf hg hn hm 2 19 hk (by omega) rfl hb hmb
      | true => exact lapply_yes p l A n c us B m d ms w hPr h hf hg hn hm 2 19 hk (by omega) rfl hb hmb (call_of Try.func19 (by kernel_rfl) (by kernel_rfl)) fun A5 c5 W hW hr => way_2 p l A5 _ c5 _ W hk hb (row_on hp.tiers.row hW) hS.nt hr (nets_ok (mayB_iff.1 hmb))
    · cases hmb : mayB us ms with
      | false => exact lapply_not p l A n c us B m d ms w hPr h hf hg hn hm 5 20 hk (by omega) rfl hb hmb
      | true => exact lapply_yes p l A n c us B m d ms w hPr h hf hg hn hm 5 20 hk (by omega) rfl hb hmb (call_of Try.func20 (by kernel_rfl) (by kernel_rfl)) fun A5 c5 W hW hr => way_5 p l A5 _ c5 _ W hk hb (row_on hp.tiers.row hW) hS.nt hr (nets_ok (mayB_iff.1 hmb))
    · cases hmb : mayB us ms with
      | false => exact lapply_not p l A n c us B m d ms w hPr h hf hg hn hm 6 21 hk (by omega) rfl hb hmb
      | true => exact lapply_yes p l A n c us B m d ms w hPr h hf hg hn hm 6 21 hk (by omega) rfl hb hmb (call_of Try.func21 (by kernel_rfl) (by kernel_rfl)) fun A5 c5 W hW hr => way_6 p l A5 _ c5 _ W hk hb (row_on hp.tiers.row hW) hS.nt hr (nets_ok (mayB_iff.1 hmb))
/-! ### few -/
structure FewC (p : Prm) (n : Nat) : Prop where
  skus : p.scope.skus.length ≤ 40
  cats : p.scope.cats.length ≤ 40
  parts : p.parts.length ≤ 20
  tiers : p.tiers.length ≤ 20
  units : n ≤ 200
def FewD (p : Prm) (n : Nat) (w : World) (e : Ending) (w' : World) : Prop := ∃ b : Bool, e = .returned (.bool b) ∧ (b = true → FewC p n) ∧ Below w.heap.size w w'
theorem nope {P : Prop} (h : false = true) : P := by cases h
set_option maxHeartbeats 4000000 in
theorem few_any (p : Prm) (l : Prm.Lay) (A : Option Addr) (u cu : Nat) (w : World) (h : Ap.Prm.Holds w (· < w.heap.size) p l) :
    Calls Try.prog 6 #[.agg #[.string p.id, .int .i64 p.kind, .int .i64 p.priority, .string p.group, .string p.code, .bool p.closes, .slice l.scope.skus.A l.scope.skus.n l.scope.skus.c, .slice l.scope.cats.A l.scope.cats.n l.scope.cats.c, .int .i64 p.least, .int .i64 p.rate, .int .i64 p.amount, .int .i64 p.buy, .int .i64 p.get, .slice l.parts.A l.parts.n l.parts.c, .slice l.tiers.A l.tiers.n l.tiers.c], .slice A u cu] w fun e w' => FewD p u w e w' := by
  obtain ⟨w1, hw1⟩ : ∃ w1, w.alloc (.cells #[.string p.id, .int .i64 p.kind, .int .i64 p.priority, .string p.group, .string p.code, .bool p.closes, .slice l.scope.skus.A l.scope.skus.n l.scope.skus.c, .slice l.scope.cats.A l.scope.cats.n l.scope.cats.c, .int .i64 p.least, .int .i64 p.rate, .int .i64 p.amount, .int .i64 p.buy, .int .i64 p.get, .slice l.parts.A l.parts.n l.parts.c, .slice l.tiers.A l.tiers.n l.tiers.c] 28) = w1 := ⟨_, rfl⟩
  have hx : Qu.Blk w1 w.heap.size 28 #[.string p.id, .int .i64 p.kind, .int .i64 p.priority, .string p.group, .string p.code, .bool p.closes, .slice l.scope.skus.A l.scope.skus.n l.scope.skus.c, .slice l.scope.cats.A l.scope.cats.n l.scope.cats.c, .int .i64 p.least, .int .i64 p.rate, .int .i64 p.amount, .int .i64 p.buy, .int .i64 p.get, .slice l.parts.A l.parts.n l.parts.c, .slice l.tiers.A l.tiers.n l.tiers.c] := by rw [← hw1]; exact Qu.Blk.new w _ _
  have hb1 : Below w.heap.size w w1 := by rw [← hw1]; exact (Below.refl _ _).alloc (Nat.le_refl _) _
  have x6 := hx.cell 6
  have x7 := hx.cell 7
  have x13 := hx.cell 13
  have x14 := hx.cell 14
  have HB := Lib.hid hb1
  have HL := Lib.hid (And.intro h.scope.skus.row.len (And.intro h.scope.cats.row.len (And.intro h.parts.row.len h.tiers.row.len)))
  obtain ⟨n, hn⟩ : ∃ n, l.parts.n = n := ⟨_, rfl⟩
  obtain ⟨t, ht⟩ : ∃ t, l.tiers.n = t := ⟨_, rfl⟩
  obtain ⟨a, ha⟩ : ∃ a, l.scope.skus.n = a := ⟨_, rfl⟩
  obtain ⟨c, hc⟩ : ∃ c, l.scope.cats.n = c := ⟨_, rfl⟩
  simp only [hn, ht, ha, hc] at hw1 x6 x7 x13 x14 HL ⊢
  clear hx hb1 h hn ht ha hc
  by_cases c1 : 20 < n
  · have d1 : (20 : Int) < (n : Int) := by omega
    go_enter Try.func6, Try.ntmps6
    go_wp2
    go_ret
    exact ⟨false, rfl, nope, HB.out⟩
  have d1 : ¬ (20 : Int) < (n : Int) := by omega
  by_cases c2 : 20 < t
  · have d2 : (20 : Int) < (t : Int) := by omega
    go_enter Try.func6, Try.ntmps6
    go_wp2
    go_ret
    exact ⟨false, rfl, nope, HB.out⟩
  have d2 : ¬ (20 : Int) < (t : Int) := by omega
  by_cases c3 : 40 < a
  · have d3 : (40 : Int) < (a : Int) := by omega
    go_enter Try.func6, Try.ntmps6
    go_wp2
    go_ret
    exact ⟨false, rfl, nope, HB.out⟩
  have d3 : ¬ (40 : Int) < (a : Int) := by omega
  by_cases c4 : 40 < c
  · have d4 : (40 : Int) < (c : Int) := by omega
    go_enter Try.func6, Try.ntmps6
    go_wp2
    go_ret
    exact ⟨false, rfl, nope, HB.out⟩
  have d4 : ¬ (40 : Int) < (c : Int) := by omega
  have HF : Hid (decide ((u : Int) ≤ 200) = true → FewC p u) := Lib.hid fun h5 => ⟨by have := HL.out; omega, by have := HL.out; omega, by have := HL.out; omega, by have := HL.out; omega, by have := of_decide_eq_true h5; omega⟩
  go_enter Try.func6, Try.ntmps6
  go_wp2
  go_ret
  exact ⟨decide ((u : Int) ≤ 200), rfl, HF.out, HB.out⟩
/-! ### awake -/
def awP : Prm := ⟨⟨#[97]⟩, 5, 0, ⟨#[]⟩, ⟨#[]⟩, false, ⟨[], []⟩, 0, 0, 0, 0, 0, [], [⟨100, 0, 10⟩]⟩
def awLay (b : Nat) : Prm.Lay := ⟨⟨⟨none, 0, 0⟩, ⟨none, 0, 0⟩⟩, ⟨none, 0, 0⟩, ⟨some ⟨b, 0, none⟩, 1, 1⟩⟩
def awU : List Unt := [⟨0, 60, true⟩, ⟨1, 50, true⟩]
theorem aw_head : Pr.headB awP = true := by
  have h1 : Pr.blankB ⟨#[]⟩ = true := by unfold Pr.blankB; rw [ByteArray.toList_eq]; rfl
  have h2 : Sc.scopeB ⟨[], []⟩ = true := by
    have h : Sc.namesB [] 20 = true := Sc.namesB_yes ⟨by simp, fun i x hx => by simp at hx, fun i x y hx => by simp at hx⟩
    unfold Sc.scopeB
    rw [h]; rfl
  have h3 : Sr.name ⟨#[97]⟩ = true := by decide +kernel
  rw [Pr.headB_def]
  show (Sr.name ⟨#[97]⟩ && decide ((1 : Int) ≤ 5) && decide ((5 : Int) ≤ 7) && decide ((0 : Int) ≤ 0) && decide ((0 : Int) ≤ 1000) && Pr.blankB ⟨#[]⟩ && Pr.blankB ⟨#[]⟩ && Sc.scopeB ⟨[], []⟩ && Pr.inB 0 10000000000000) = true
  rw [h1, h2, h3]; rfl
theorem aw_promo : Pr.promoB awP = true := by
  have ht : Pr.tiersB [⟨100, 0, 10⟩] = true := Pr.tiersB_iff.2 ⟨fun i t hi => (by
    cases i with
    | zero => injection hi with hi; subst hi; decide
    | succ i => simp at hi), fun i a b ha hb => (by simp at hb), by decide, by decide⟩
  unfold Pr.promoB
  rw [aw_head]
  unfold Pr.kindB
  rw [if_neg (by decide), if_neg (by decide), if_neg (by decide), if_neg (by decide), if_neg (by decide)]
  show (true && ((0 : Int) == 0 && (0 : Int) == 0 && Pr.noBuy awP && Pr.noParts awP && Pr.tiersB [⟨100, 0, 10⟩])) = true
  rw [ht]; rfl
theorem aw_units : UnitsMay awU := ⟨by decide, fun k u hu => by
  match k, hu with
  | 0, hu => injection hu with hu; subst hu; decide
  | 1, hu => injection hu with hu; subst hu; decide
  | k + 2, hu => simp [awU] at hu, by decide⟩
theorem aw_may : mayB awU [0, 1] = true := mayB_yes ⟨aw_units, ⟨fun i m hm => by
  match i, hm with
  | 0, hm => injection hm with hm; subst hm; exact ⟨by decide, _, rfl, rfl⟩
  | 1, hm => injection hm with hm; subst hm; exact ⟨by decide, _, rfl, rfl⟩
  | i + 2, hm => simp at hm, fun i a b ha hb => by
  match i, ha, hb with
  | 0, ha, hb => injection ha with ha; injection hb with hb; subst ha; subst hb; decide
  | i + 1, ha, hb => simp at hb⟩⟩
theorem aw_one : mayB awU [0] = true := mayB_yes ⟨aw_units, ⟨fun i m hm => by
  match i, hm with
  | 0, hm => injection hm with hm; subst hm; exact ⟨by decide, _, rfl, rfl⟩
  | i + 1, hm => simp at hm, fun i a b ha hb => by simp at hb⟩⟩
theorem aw_offs : offsL awP [60, 50] = [5, 5] := by decide +kernel
theorem aw_apply : applyU awP awU [0, 1] = ([⟨0, 55, true⟩, ⟨1, 45, true⟩], 10) := by
  unfold applyU
  rw [aw_promo, aw_may, if_pos (show (true && true) = true from rfl), show netsL awU [0, 1] = [60, 50] from rfl, aw_offs]
  rfl
theorem two_units {W : World} {b : Nat} (h : Qu.Blk W b 41 #[.int .i64 0, .int .i64 60, .bool true, .int .i64 1, .int .i64 50, .bool true]) : Row kUnt W (· < W.heap.size) (some ⟨b, 0, none⟩) 2 awU :=
  Kd.Own.read (B := b) (E := 41) (c := 2) (Kd.own_blk (cs := [.int .i64 0, .int .i64 60, .bool true, .int .i64 1, .int .i64 50, .bool true]) h (Nat.le_refl _) rfl ⟨[.int .i64 0, .int .i64 60, .bool true], _, rfl, Ap.Unt_rep.2 ⟨rfl, ⟨by decide, by decide⟩⟩, [.int .i64 1, .int .i64 50, .bool true], _, rfl, Ap.Unt_rep.2 ⟨rfl, ⟨by decide, by decide⟩⟩, rfl⟩ (Nat.le_refl _) (by decide) rfl rfl)
theorem one_tier {W : World} {b : Nat} {t : Tir} (ht : t.ok) (h : Qu.Blk W b 48 #[.int .i64 t.least, .int .i64 t.rate, .int .i64 t.amount]) : Row kTir W (· < W.heap.size) (some ⟨b, 0, none⟩) 1 [t] :=
  Kd.Own.read (B := b) (E := 48) (c := 1) (Kd.own_blk (cs := [.int .i64 t.least, .int .i64 t.rate, .int .i64 t.amount]) h (Nat.le_refl _) rfl ⟨[.int .i64 t.least, .int .i64 t.rate, .int .i64 t.amount], _, rfl, Ap.Tir_rep.2 ⟨rfl, ht⟩, rfl⟩ (Nat.le_refl _) (by decide) rfl rfl)
theorem two_ints {W : World} {b : Nat} (h : Qu.Blk W b 3 #[.int .i64 0, .int .i64 1]) : Row kInt W (· < W.heap.size) (some ⟨b, 0, none⟩) 2 [0, 1] :=
  Kd.Own.read (B := b) (E := 3) (c := 2) (Kd.own_blk (cs := [.int .i64 0, .int .i64 1]) h (Nat.le_refl _) rfl ⟨[.int .i64 0], _, rfl, ⟨rfl, by decide⟩, [.int .i64 1], _, rfl, ⟨rfl, by decide⟩, rfl⟩ (Nat.le_refl _) (by decide) rfl rfl)
theorem one_int {W : World} {b : Nat} {x : Int} (hx : -9223372036854775808 ≤ x ∧ x ≤ 9223372036854775807) (h : Qu.Blk W b 3 #[.int .i64 x]) : Row kInt W (· < W.heap.size) (some ⟨b, 0, none⟩) 1 [x] :=
  Kd.Own.read (B := b) (E := 3) (c := 1) (Kd.own_blk (cs := [.int .i64 x]) h (Nat.le_refl _) rfl ⟨[.int .i64 x], _, rfl, ⟨rfl, hx⟩, rfl⟩ (Nat.le_refl _) (by decide) rfl rfl)
theorem nil_lst {α : Type} {K : Kd.Kind α} {W : World} {F : Nat → Prop} : Kd.Lst K W F ⟨none, 0, 0⟩ [] := ⟨Row.nil _ _ _ _, ⟨fun _ => ⟨rfl, rfl⟩, Nat.le_refl _, (by decide)⟩⟩
theorem aw_holds {W : World} {b : Nat} (h : Qu.Blk W b 48 #[.int .i64 100, .int .i64 0, .int .i64 10]) : Ap.Prm.Holds W (· < W.heap.size) awP (awLay b) :=
  ⟨by decide, by decide, by decide, by decide, by decide, ⟨nil_lst, nil_lst⟩, by decide, by decide, by decide, by decide, by decide, nil_lst, ⟨one_tier (t := ⟨100, 0, 10⟩) ⟨by decide, by decide, by decide⟩ h, ⟨fun h => (by cases h), Nat.le_refl _, (show (1 : Nat) ≤ 9223372036854775807 by decide)⟩⟩⟩
set_option maxHeartbeats 2000000 in
theorem awake_any (w : World) : Calls Try.prog 7 #[] w fun e w' => e = .returned (.bool true) ∧ Below w.heap.size w w' := by
  obtain ⟨W1, hW1⟩ : ∃ W1, w.alloc (.cells #[.int .i64 0, .int .i64 60, .bool true, .int .i64 1, .int .i64 50, .bool true] 41) = W1 := ⟨_, rfl⟩
  have hb1 : Below w.heap.size w W1 := by rw [← hW1]; exact (Below.refl _ _).alloc (Nat.le_refl _) _
  have hs1 : W1.heap.size = w.heap.size + 1 := by rw [← hW1]; simp
  have hu1 : Qu.Blk W1 w.heap.size 41 #[.int .i64 0, .int .i64 60, .bool true, .int .i64 1, .int .i64 50, .bool true] := by rw [← hW1]; exact Qu.Blk.new w _ _
  obtain ⟨W2, hW2⟩ : ∃ W2, W1.alloc (.cells #[.int .i64 100, .int .i64 0, .int .i64 10] 48) = W2 := ⟨_, rfl⟩
  have hb2 : Below W1.heap.size W1 W2 := by rw [← hW2]; exact (Below.refl _ _).alloc (Nat.le_refl _) _
  have hs2 : W2.heap.size = w.heap.size + 2 := by rw [← hW2]; simp [hs1]
  have ht2 : Qu.Blk W2 W1.heap.size 48 #[.int .i64 100, .int .i64 0, .int .i64 10] := by rw [← hW2]; exact Qu.Blk.new W1 _ _
  obtain ⟨W3, hW3⟩ : ∃ W3, W2.alloc (.cells #[.int .i64 0, .int .i64 1] 3) = W3 := ⟨_, rfl⟩
  have hb3 : Below W2.heap.size W2 W3 := by rw [← hW3]; exact (Below.refl _ _).alloc (Nat.le_refl _) _
  have hm3 : Qu.Blk W3 W2.heap.size 3 #[.int .i64 0, .int .i64 1] := by rw [← hW3]; exact Qu.Blk.new W2 _ _
  have hu3 := (hu1.below hb2).below hb3
  have ht3 := ht2.below hb3
  have hB3 : Below w.heap.size w W3 := (hb1.trans (hb2.mono hb1.size)).trans (hb3.mono (by omega))
  rw [hs1] at ht3
  rw [hs2] at hm3
  have hf2 : Kd.Fit (some ⟨w.heap.size, 0, none⟩) 2 2 := ⟨fun h => (by cases h), by decide, by decide⟩
  have HA := lapply_any awP (awLay (w.heap.size + 1)) (some ⟨w.heap.size, 0, none⟩) 2 2 awU (some ⟨w.heap.size + 2, 0, none⟩) 2 2 [0, 1] W3 (aw_holds ht3) (small_of (aw_holds ht3) (by decide) (by decide) (by decide) (by decide)) (two_units hu3) hf2 (two_ints hm3) (by decide) (by decide)
  rw [aw_apply] at HA
  have HA2 : Calls Try.prog 11 #[.agg #[.string ⟨#[97]⟩, .int .i64 5, .int .i64 0, .string ⟨#[]⟩, .string ⟨#[]⟩, .bool false, .slice none 0 0, .slice none 0 0, .int .i64 0, .int .i64 0, .int .i64 0, .int .i64 0, .int .i64 0, .slice none 0 0, .slice (some ⟨w.heap.size + 1, 0, none⟩) 1 1], .slice (some ⟨w.heap.size, 0, none⟩) 2 2, .slice (some ⟨w.heap.size + 2, 0, none⟩) 2 2] W3 fun e w' => ∃ (A : Option Addr) (c : Nat), e = .returned (.tuple #[.slice A 2 c, .int .i64 10]) ∧ Kd.Own kUnt w' W3.heap.size 41 (fun _ => False) (.slice A 2 c) 2 [⟨0, 55, true⟩, ⟨1, 45, true⟩] ∧ Below W3.heap.size W3 w' := HA
  have HAp := Lib.hid HA2
  have HU := Lib.hid (And.intro (two_units hu3) (And.intro hB3 hu3.lt))
  have hw1 := Lib.hid hW1
  have hw2 := Lib.hid hW2
  have hw3 := Lib.hid hW3
  have e1 := Lib.hid (And.intro hs1 hs2)
  clear hb1 hu1 hb2 ht2 hb3 hm3 hu3 ht3 hB3 hf2 HA HA2 hW1 hW2 hW3 hs1 hs2
  go_enter Try.func7, Try.ntmps7
  go_wp2_with fail
  rw [hw1.out, hw2.out, hw3.out]
  clear hw1 hw2 hw3 e1
  refine HAp.out.mono ?_
  rintro e w4 ⟨A4, c4, rfl, ho4, hb4⟩
  obtain ⟨g4, rfl, _, hg4⟩ := ho4.first (by decide)
  obtain ⟨g, o, e0, _, _, _, _, a1, _⟩ := row_Unt ho4.read (k := 0) (x := ⟨0, 55, true⟩) rfl
  injection e0 with e0
  injection e0 with e5 e6
  subst e5
  subst e6
  obtain ⟨g, o, e0, _, _, _, _, a2, _⟩ := row_Unt ho4.read (k := 1) (x := ⟨1, 45, true⟩) rfl
  injection e0 with e0
  injection e0 with e5 e6
  subst e5
  subst e6
  have v1 : w4.cell? ⟨g4, 1, none⟩ = some (.int .i64 55) := a1
  have v2 : w4.cell? ⟨g4, 4, none⟩ = some (.int .i64 45) := a2
  obtain ⟨W5, hW5⟩ : ∃ W5, w4.alloc (.cells #[.int .i64 3, .int .i64 7, .int .i64 0] 48) = W5 := ⟨_, rfl⟩
  have hb5 : Below w4.heap.size w4 W5 := by rw [← hW5]; exact (Below.refl _ _).alloc (Nat.le_refl _) _
  have ht5 : Qu.Blk W5 w4.heap.size 48 #[.int .i64 3, .int .i64 7, .int .i64 0] := by rw [← hW5]; exact Qu.Blk.new w4 _ _
  have HR : Calls Try.prog 16 #[.slice (some ⟨w4.heap.size, 0, none⟩) 1 1, .int .i64 3] W5 fun e w' => e = .returned (.tuple #[.agg #[.int .i64 3, .int .i64 7, .int .i64 0], .bool true]) ∧ Below W5.heap.size W5 w' := lreached_any (some ⟨w4.heap.size, 0, none⟩) 1 1 [⟨3, 7, 0⟩] 3 W5 (one_tier (t := ⟨3, 7, 0⟩) ⟨by decide, by decide, by decide⟩ ht5) (by decide)
  have HRe := Lib.hid HR
  have HV := Lib.hid (And.intro v1 (And.intro v2 hg4))
  have HB5 := Lib.hid (And.intro hb4 hb5)
  have hw5 := Lib.hid hW5
  clear HR hb5 ht5 hW5 v1 v2 a1 a2 hg4 ho4 hb4 HAp
  go_wp2_with fail
  rw [hw5.out]
  refine HRe.out.mono ?_
  rintro e w6 ⟨rfl, hb6⟩
  obtain ⟨W7, hW7⟩ : ∃ W7, w6.alloc (.cells #[.int .i64 3, .int .i64 7, .int .i64 0] 48) = W7 := ⟨_, rfl⟩
  have hb7 : Below W5.heap.size W5 W7 := by rw [← hW7]; exact hb6.alloc hb6.size _
  have ht7 : Qu.Blk W7 w6.heap.size 48 #[.int .i64 3, .int .i64 7, .int .i64 0] := by rw [← hW7]; exact Qu.Blk.new w6 _ _
  have h47 : Below w4.heap.size w4 W7 := HB5.out.2.trans (hb7.mono HB5.out.2.size)
  have v1 : W7.cell? ⟨g4, 1, none⟩ = some (.int .i64 55) := (h47.cell (p := ⟨g4, _, none⟩) HV.out.2.2).trans HV.out.1
  have v2 : W7.cell? ⟨g4, 4, none⟩ = some (.int .i64 45) := (h47.cell (p := ⟨g4, _, none⟩) HV.out.2.2).trans HV.out.2.1
  have v3 : W7.cell? ⟨w6.heap.size, 1, none⟩ = some (.int .i64 7) := ht7.cell 1
  obtain ⟨W8, hW8⟩ : ∃ W8, W7.alloc (.cells #[.int .i64 0] 3) = W8 := ⟨_, rfl⟩
  have hb8 : Below W7.heap.size W7 W8 := by rw [← hW8]; exact (Below.refl _ _).alloc (Nat.le_refl _) _
  have hm8 : Qu.Blk W8 W7.heap.size 3 #[.int .i64 0] := by rw [← hW8]; exact Qu.Blk.new W7 _ _
  have h38 : Below W3.heap.size W3 W8 := HB5.out.1.trans ((h47.trans (hb8.mono h47.size)).mono HB5.out.1.size)
  have HM := lmay_any (some ⟨w.heap.size, 0, none⟩) 2 2 awU (some ⟨W7.heap.size, 0, none⟩) 1 1 [0] W8 (row_on HU.out.1 h38) (by decide) (one_int (x := 0) (by decide) hm8) (by decide)
  rw [aw_one] at HM
  have HMy := Lib.hid HM
  have HB8 := Lib.hid (HU.out.2.1.trans (h38.mono HU.out.2.1.size))
  have hw7 := Lib.hid hW7
  have hw8 := Lib.hid hW8
  have HV7 := Lib.hid (And.intro v1 (And.intro v2 v3))
  clear HM hb6 hb7 ht7 h47 hb8 hm8 h38 HRe hw5 hW8 hW7 v1 v2 v3
  go_upto_region 4 with (fail)
  rw [hw7.out]
  obtain ⟨v1, v2, v3⟩ := HV7.out
  go_wp2_with fail
  rw [hw8.out]
  refine HMy.out.mono ?_
  rintro e w9 ⟨rfl, hb9⟩
  have HB9 := Lib.hid (HB8.out.trans (hb9.mono HB8.out.size))
  clear hb9 v1 v2 v3
  go_wp2
  go_ret
  exact ⟨rfl, HB9.out⟩
end Go.Proofs.Ytacmoanhbkipfaa.Ct
