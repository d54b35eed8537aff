/- 'What follows' of chapter 12: more codes bring more promos, in the same order; of those that are told each stands ahead of the next one; for every slice of promos and slice of codes. No conditions. -/
import Derived.Test.YtgimcleeamlgcaaPmZ
import Derived.Test.YtgimcleeamlgcaaPrU
import Derived.Test.YtgimcleeamlgcaaBa
set_option maxRecDepth 100000
namespace Go.Proofs.Ytgimcleeamlgcaa.promoMore
open Go.ChangeShapes Go.WideShapes Go.ChangeAt Go.RowKit
open Ap (Scp Prt Tir Prm kPrm row_Prm)
open Kd (Kind Row Own Cells Fit Agree Lst Sl kStr kInt kList row_str Deep)
set_option maxRecDepth 100000
set_option linter.unusedVariables false

theorem own : ownKnob Try.prog.godebug = none := by kernel_rfl

/-- What stands in memory: the promotions, the codes. -/
structure Sit (w W : World) (A : Option Addr) (n : Nat) (xs : List Prm) (C : Option Addr) (m mc : Nat) (cs : List ByteArray) : Prop where
  rows : Row kPrm W (· < W.heap.size) A n xs
  slights : Pm.Slights xs
  names : Row kStr W (· < W.heap.size) C m cs
  fit : Fit C m mc
  below : Below w.heap.size w W

theorem row_on {α : Type} {K : Kind α} {W W' : World} {A : Option Addr} {n : Nat} {xs : List α} (h : Row K W (· < W.heap.size) A n xs) (hb : Below W.heap.size W W') : Row K W' (· < W'.heap.size) A n xs :=
  (h.below hb (Nat.le_refl _)).more fun b hb2 => Nat.lt_of_lt_of_le hb2 hb.size

theorem Sit.later {w W W' : World} {A C : Option Addr} {n m mc : Nat} {xs : List Prm} {cs : List ByteArray} (h : Sit w W A n xs C m mc cs) (hb : Below W.heap.size W W') : Sit w W' A n xs C m mc cs :=
  ⟨row_on h.rows hb, h.slights, row_on h.names hb, h.fit, h.below.trans (hb.mono h.below.size)⟩

theorem geq_str (a b : ByteArray) (W : World) : (binOp .geq 9 (.string a) (.string b)).run Try.prog W = .ok (.bool (!Sr.lt a b)) W := by
  have e : binOp .geq 9 (.string a) (.string b) = pure (.bool (!Op.bytesLess a.toList b.toList)) := by simp [binOp, Op.stringOp]
  rw [e]
  rfl

theorem taken_none {l : List Prm} {cs : List ByteArray} {i : Nat} (h : Pr.takenB l [] i = true) : Pr.takenB l cs i = true := by
  unfold Pr.takenB at *
  have e : Sc.hasB [] (Pr.nth l i).code = false := Sc.hasB_no fun i x hx => by simp at hx
  rw [e, Bool.or_false] at h
  rw [h]; rfl

/-- Without codes fewer are brought, in the same order. -/
theorem order_sub (l : List Prm) (cs : List ByteArray) (k : Nat) : (Pr.orderTo l [] k).Sublist (Pr.orderTo l cs k) := by
  have e : Pr.orderTo l [] k = (Pr.orderTo l cs k).filter (fun i => Pr.takenB l [] i) := by
    refine Pr.sorted_one (Pr.orderTo_sorted l [] k) ((Pr.orderTo_sorted l cs k).sublist List.filter_sublist) fun i => ?_
    rw [List.mem_filter, Pr.orderTo_mem, Pr.orderTo_mem]
    constructor
    · rintro ⟨h1, h2⟩; exact ⟨⟨h1, taken_none h2⟩, h2⟩
    · rintro ⟨⟨h1, _⟩, h2⟩; exact ⟨h1, h2⟩
  rw [e]
  exact List.filter_sublist

theorem sub_hit {ys bs : List Nat} {i j x : Nat} (h : (ys.drop i).Sublist (bs.drop j)) (ha : ys[i]? = some x) (hb : bs[j]? = some x) : (ys.drop (i + 1)).Sublist (bs.drop (j + 1)) := by
  obtain ⟨h1, rfl⟩ := List.getElem?_eq_some_iff.1 ha
  obtain ⟨h2, e⟩ := List.getElem?_eq_some_iff.1 hb
  rw [List.drop_eq_getElem_cons h1, List.drop_eq_getElem_cons h2, e] at h
  exact List.cons_sublist_cons.1 h

theorem sub_miss {ys bs : List Nat} {i j x y : Nat} (h : (ys.drop i).Sublist (bs.drop j)) (ha : ys[i]? = some x) (hb : bs[j]? = some y) (hne : x ≠ y) : (ys.drop i).Sublist (bs.drop (j + 1)) := by
  obtain ⟨h1, rfl⟩ := List.getElem?_eq_some_iff.1 ha
  obtain ⟨h2, rfl⟩ := List.getElem?_eq_some_iff.1 hb
  rw [List.drop_eq_getElem_cons h1, List.drop_eq_getElem_cons h2] at h
  rw [List.drop_eq_getElem_cons h1]
  rcases List.sublist_cons_iff.1 h with h3 | ⟨r, h3, _⟩
  · exact h3
  · injection h3 with h4
    exact absurd h4 hne

theorem sub_none {ys bs : List Nat} {i j : Nat} (hi : ys.length ≤ i) : (ys.drop i).Sublist (bs.drop (j + 1)) := by
  rw [List.drop_of_length_le hi]; exact List.nil_sublist _

theorem sub_end {ys bs : List Nat} {i : Nat} (h : (ys.drop i).Sublist (bs.drop bs.length)) (hi : i ≤ ys.length) : i = ys.length := by
  rw [List.drop_length, List.sublist_nil] at h
  have := congrArg List.length h
  rw [List.length_drop] at this
  simp at this
  omega

/-- Of those that are told each stands ahead of the next one. -/
theorem order_ahead {w W : World} {v : Value} {L : List Prm} {k : Nat} (h : Py.Promoed w W v L k) (cs : List ByteArray) {i x y : Nat} (hx : (Pr.orderTo L cs k)[i]? = some x) (hy : (Pr.orderTo L cs k)[i + 1]? = some y) {p q : Prm} (hp : L[x]? = some p) (hq : L[y]? = some q) : (p.priority = q.priority ∧ Sr.lt p.id q.id = true) ∨ q.priority < p.priority := by
  have hs := Pr.orderTo_sorted L cs k
  unfold Pr.Sorted at hs
  rw [List.pairwise_iff_getElem] at hs
  obtain ⟨h1, e1⟩ := List.getElem?_eq_some_iff.1 hx
  obtain ⟨h2, e2⟩ := List.getElem?_eq_some_iff.1 hy
  have hb := hs i (i + 1) h1 h2 (by omega)
  rw [e1, e2] at hb
  have hne : x ≠ y := fun e => by rw [e, Pr.bef_irrefl] at hb; cases hb
  have ha : Pr.aheadB p q = true := by
    unfold Pr.bef at hb
    rw [Pr.nth_at hp, Pr.nth_at hq] at hb
    cases h5 : Pr.aheadB p q with
    | true => rfl
    | false =>
      rw [h5] at hb
      cases h6 : Pr.aheadB q p with
      | true => rw [h6] at hb; simp at hb
      | false =>
        have hid := (Pr.ahead_level h5 h6).2
        have hA := h.yes
        exfalso
        have hap : ∀ (i j : Nat) (p q : Prm), i < j → L[i]? = some p → L[j]? = some q → p.id ≠ q.id := fun i j p q hij hp hq => by
          rw [(h.each i p hp).id, (h.each j q hq).id]
          have hl := h.own.len
          have hj := (List.getElem?_eq_some_iff.1 hq).1
          exact Py.ids_apart (by have := h.few; omega) (by have := h.few; omega) (by omega)
        rcases Nat.lt_or_ge x y with h7 | h7
        · exact hap x y p q h7 hp hq hid
        · exact hap y x q p (by omega) hq hp hid.symm
  unfold Pr.aheadB at ha
  split at ha
  · next e => exact .inl ⟨e, ha⟩
  · exact .inr (of_decide_eq_true ha)

/-- What stands in memory in the second loop. -/
structure Mo (w W : World) (A5 : Option Addr) (k : Nat) (L : List Prm) (A6 : Option Addr) (M : Nat) (ys : List Nat) (A7 : Option Addr) (N : Nat) (bs : List Nat) : Prop where
  rows : Row kPrm W (· < W.heap.size) A5 k L
  a : Row kInt W (· < W.heap.size) A6 M (Pm.ints ys)
  b : Row kInt W (· < W.heap.size) A7 N (Pm.ints bs)
  below : Below w.heap.size w W

theorem Mo.later {w W W' : World} {A5 A6 A7 : Option Addr} {k M N : Nat} {L : List Prm} {ys bs : List Nat} (h : Mo w W A5 k L A6 M ys A7 N bs) (hb : Below W.heap.size W W') : Mo w W' A5 k L A6 M ys A7 N bs :=
  ⟨row_on h.rows hb, row_on h.a hb, row_on h.b hb, h.below.trans (hb.mono h.below.size)⟩

theorem ints_get {w : World} {F : Nat → Prop} {A : Option Addr} {n k x : Nat} {l : List Nat} (h : Row kInt w F A n (Pm.ints l)) (hk : l[k]? = some x) : ∃ g o, A = some ⟨g, o, none⟩ ∧ g < w.heap.size ∧ w.cell? ⟨g, o + k, none⟩ = some (.int .i64 (x : Int)) := by
  obtain ⟨g, o, e, _, hg, _, hc⟩ := Kd.row_int h (Pm.ints_at hk)
  exact ⟨g, o, e, hg, hc⟩

theorem ints_len {w : World} {F : Nat → Prop} {A : Option Addr} {n : Nat} {l : List Nat} (h : Row kInt w F A n (Pm.ints l)) : l.length = n := by
  have := h.len
  unfold Pm.ints at this
  rw [List.length_map] at this
  exact this

/-- Two promotions in boxes of the call's own. -/
structure Two (wr W : World) (b1 b2 : Nat) (p : Prm) (l : Prm.Lay) (q : Prm) (m : Prm.Lay) : Prop where
  one : Qu.Blk W b1 28 #[.string p.id, .int .i64 p.kind, .int .i64 p.priority, .string p.group, .string p.code, .bool p.closes, .slice l.scope.skus.A l.scope.skus.n l.scope.skus.c, .slice l.scope.cats.A l.scope.cats.n l.scope.cats.c, .int .i64 p.least, .int .i64 p.rate, .int .i64 p.amount, .int .i64 p.buy, .int .i64 p.get, .slice l.parts.A l.parts.n l.parts.c, .slice l.tiers.A l.tiers.n l.tiers.c]
  two : Qu.Blk W b2 28 #[.string q.id, .int .i64 q.kind, .int .i64 q.priority, .string q.group, .string q.code, .bool q.closes, .slice m.scope.skus.A m.scope.skus.n m.scope.skus.c, .slice m.scope.cats.A m.scope.cats.n m.scope.cats.c, .int .i64 q.least, .int .i64 q.rate, .int .i64 q.amount, .int .i64 q.buy, .int .i64 q.get, .slice m.parts.A m.parts.n m.parts.c, .slice m.tiers.A m.tiers.n m.tiers.c]
  below : Below wr.heap.size wr W

theorem two_first {wc u : World} {b1 b2 : Nat} {p : Prm} {l : Prm.Lay} (h : Below wc.heap.size wc u) (h1 : Py.Got wc u b1) (h2 : Py.Got wc u b2) (hne : b1 ≠ b2) : Below wc.heap.size wc (u.setCells b1 0 [.string p.id, .int .i64 p.kind, .int .i64 p.priority, .string p.group, .string p.code, .bool p.closes, .slice l.scope.skus.A l.scope.skus.n l.scope.skus.c, .slice l.scope.cats.A l.scope.cats.n l.scope.cats.c, .int .i64 p.least, .int .i64 p.rate, .int .i64 p.amount, .int .i64 p.buy, .int .i64 p.get, .slice l.parts.A l.parts.n l.parts.c, .slice l.tiers.A l.tiers.n l.tiers.c]) ∧ Py.Got wc (u.setCells b1 0 [.string p.id, .int .i64 p.kind, .int .i64 p.priority, .string p.group, .string p.code, .bool p.closes, .slice l.scope.skus.A l.scope.skus.n l.scope.skus.c, .slice l.scope.cats.A l.scope.cats.n l.scope.cats.c, .int .i64 p.least, .int .i64 p.rate, .int .i64 p.amount, .int .i64 p.buy, .int .i64 p.get, .slice l.parts.A l.parts.n l.parts.c, .slice l.tiers.A l.tiers.n l.tiers.c]) b2 ∧ Qu.Blk (u.setCells b1 0 [.string p.id, .int .i64 p.kind, .int .i64 p.priority, .string p.group, .string p.code, .bool p.closes, .slice l.scope.skus.A l.scope.skus.n l.scope.skus.c, .slice l.scope.cats.A l.scope.cats.n l.scope.cats.c, .int .i64 p.least, .int .i64 p.rate, .int .i64 p.amount, .int .i64 p.buy, .int .i64 p.get, .slice l.parts.A l.parts.n l.parts.c, .slice l.tiers.A l.tiers.n l.tiers.c]) b1 28 #[.string p.id, .int .i64 p.kind, .int .i64 p.priority, .string p.group, .string p.code, .bool p.closes, .slice l.scope.skus.A l.scope.skus.n l.scope.skus.c, .slice l.scope.cats.A l.scope.cats.n l.scope.cats.c, .int .i64 p.least, .int .i64 p.rate, .int .i64 p.amount, .int .i64 p.buy, .int .i64 p.get, .slice l.parts.A l.parts.n l.parts.c, .slice l.tiers.A l.tiers.n l.tiers.c] :=
  ⟨Kd.below_puts h1.high _ u 0 h, ⟨h2.high, Mv.blk_only h2.blk (Py.only_puts _ u 0 (Mv.Only.refl u _)) (fun e => hne (show b2 = b1 from e).symm)⟩, Kd.blk_puts [.string p.id, .int .i64 p.kind, .int .i64 p.priority, .string p.group, .string p.code, .bool p.closes, .slice l.scope.skus.A l.scope.skus.n l.scope.skus.c, .slice l.scope.cats.A l.scope.cats.n l.scope.cats.c, .int .i64 p.least, .int .i64 p.rate, .int .i64 p.amount, .int .i64 p.buy, .int .i64 p.get, .slice l.parts.A l.parts.n l.parts.c, .slice l.tiers.A l.tiers.n l.tiers.c] u 0 _ h1.blk⟩

theorem two_second {wc u : World} {b1 b2 : Nat} {p q : Prm} {l m : Prm.Lay} (h : Below wc.heap.size wc u) (h1 : Qu.Blk u b1 28 #[.string p.id, .int .i64 p.kind, .int .i64 p.priority, .string p.group, .string p.code, .bool p.closes, .slice l.scope.skus.A l.scope.skus.n l.scope.skus.c, .slice l.scope.cats.A l.scope.cats.n l.scope.cats.c, .int .i64 p.least, .int .i64 p.rate, .int .i64 p.amount, .int .i64 p.buy, .int .i64 p.get, .slice l.parts.A l.parts.n l.parts.c, .slice l.tiers.A l.tiers.n l.tiers.c]) (h2 : Py.Got wc u b2) (hne : b1 ≠ b2) : Two wc (u.setCells b2 0 [.string q.id, .int .i64 q.kind, .int .i64 q.priority, .string q.group, .string q.code, .bool q.closes, .slice m.scope.skus.A m.scope.skus.n m.scope.skus.c, .slice m.scope.cats.A m.scope.cats.n m.scope.cats.c, .int .i64 q.least, .int .i64 q.rate, .int .i64 q.amount, .int .i64 q.buy, .int .i64 q.get, .slice m.parts.A m.parts.n m.parts.c, .slice m.tiers.A m.tiers.n m.tiers.c]) b1 b2 p l q m :=
  ⟨Mv.blk_only h1 (Py.only_puts _ u 0 (Mv.Only.refl u _)) (fun e => hne (show b1 = b2 from e)), Kd.blk_puts [.string q.id, .int .i64 q.kind, .int .i64 q.priority, .string q.group, .string q.code, .bool q.closes, .slice m.scope.skus.A m.scope.skus.n m.scope.skus.c, .slice m.scope.cats.A m.scope.cats.n m.scope.cats.c, .int .i64 q.least, .int .i64 q.rate, .int .i64 q.amount, .int .i64 q.buy, .int .i64 q.get, .slice m.parts.A m.parts.n m.parts.c, .slice m.tiers.A m.tiers.n m.tiers.c] u 0 _ h2.blk, Kd.below_puts h2.high _ u 0 h⟩

set_option maxHeartbeats 2000000 in
theorem walk (w : World) (A : Option Addr) (n c : Nat) (xs : List Prm) (h0 : Row kPrm w (· < w.heap.size) A n xs) (f0 : Fit A n c) (C : Option Addr) (m cc : Nat) (cs : List ByteArray) (h1 : Row kStr w (· < w.heap.size) C m cs) (f1 : Fit C m cc) :
    Calls Try.prog 6 #[.slice A n c, .slice C m cc] w fun e w' => e = .returned (.bool true) ∧ Below w.heap.size w w' := by
  have HR := Lib.hid (And.intro h0 (And.intro h1 f1))
  have HA0 := Lib.hid (Pm.awake_any w)
  clear h0 f0 h1 f1
  by_cases hm30 : 30 < n
  · have k1 : (30 : Int) < (n : Int) := by omega
    go_enter Try.func6, Try.ntmps6
    go_wp2_with fail
    refine HA0.out.mono ?_
    rintro e w3 ⟨rfl, hb3⟩
    have HB3 := Lib.hid hb3
    clear hb3
    go_wp2
    go_ret
    exact ⟨rfl, HB3.out⟩
  have n30 : ¬ (30 : Int) < (n : Int) := by omega
  by_cases hc30 : 30 < m
  · have k1 : (30 : Int) < (m : Int) := by omega
    go_enter Try.func6, Try.ntmps6
    go_wp2_with fail
    refine HA0.out.mono ?_
    rintro e w3 ⟨rfl, hb3⟩
    have HB3 := Lib.hid hb3
    clear hb3
    go_wp2
    go_ret
    exact ⟨rfl, HB3.out⟩
  have m30 : ¬ (30 : Int) < (m : Int) := by omega
  have HN30 := Lib.hid (And.intro (show n ≤ 30 by omega) (show m ≤ 30 by omega))
  clear HA0 hm30 hc30
  go_enter Try.func6, Try.ntmps6
  go_wp2
  go_loopw [5] (fun s wr => ∃ i : Nat, s = .int .i64 i ∧ i ≤ n ∧ Hid ((∀ (k : Nat) (p : Prm), k < i → xs[k]? = some p → Pm.Slight p) ∧ Below w.heap.size w wr)) (fun s _ => n - (intOf s).toNat)
  case atStart => exact ⟨0, rfl, by omega, Lib.hid ⟨fun k p hk => by omega, Below.refl _ _⟩⟩
  case round =>
    obtain ⟨i, rfl, hi, hF⟩ := hrel
    have i0 : (0 : Int) ≤ (i : Int) := by omega
    by_cases hlt : i < n
    · have i1 : (i : Int) < (n : Int) := by omega
      obtain ⟨p, hp⟩ := HR.out.1.get hlt
      obtain ⟨g, o, l, rfl, _, _, hh, c0, c1, c2, c3, c4, c5, c6, c7, c8, c9, c10, c11, c12, c13, c14⟩ := row_Prm (row_on HR.out.1 hF.out.2) hp
      have HFW := Lib.hid (Pm.few_any p l wr hh)
      have HP := Lib.hid hp
      clear hh hp
      go_wp2_with fail
      refine HFW.out.mono ?_
      rintro e w2 ⟨b, rfl, hfew, hb2⟩
      have HB2 := Lib.hid (hF.out.2.trans (hb2.mono hF.out.2.size))
      clear hb2 c0 c1 c2 c3 c4 c5 c6 c7 c8 c9 c10 c11 c12 c13 c14 HFW
      cases b with
      | false =>
        have HA := Lib.hid (Pm.awake_any w2)
        clear hfew
        go_wp2_with fail
        refine HA.out.mono ?_
        rintro e w3 ⟨rfl, hb3⟩
        have HB3 := Lib.hid (HB2.out.trans (hb3.mono HB2.out.size))
        clear hb3
        go_wp2
        go_ret
        exact ⟨rfl, HB3.out⟩
      | true =>
        have HF2 : Hid ((∀ (k : Nat) (p : Prm), k < i + 1 → xs[k]? = some p → Pm.Slight p) ∧ Below w.heap.size w w2) := Lib.hid ⟨fun k y hk hy => by
          rcases Nat.lt_or_ge k i with h1 | h1
          · exact hF.out.1 k y h1 hy
          · obtain rfl : k = i := by omega
            rw [HP.out] at hy; injection hy with hy; subst hy; exact (hfew rfl).slight, HB2.out⟩
        clear hfew hF
        go_wp2
        go_roundw
        case rel => exact ⟨i + 1, by go_num, by omega, HF2⟩
        case measure => simp [intOf]; omega
    · obtain rfl : i = n := by omega
      have i1 : ¬ (i : Int) < (i : Int) := by omega
      have HSl := Lib.hid (show Sit w wr A i xs C m cc cs from ⟨row_on HR.out.1 hF.out.2, fun k p hp => hF.out.1 k p (by have := (List.getElem?_eq_some_iff.1 hp).1; have := HR.out.1.len; omega) hp, row_on HR.out.2.1 hF.out.2, HR.out.2.2, hF.out.2⟩)
      clear hF HR
      have HP := Lib.hid (Py.promos_any A i c xs wr HSl.out.rows HSl.out.slights (by have := HN30.out; omega))
      go_wp2_with fail
      refine HP.out.mono ?_
      rintro e w1 ⟨v, L, k, rfl, hk, hL⟩
      obtain ⟨A5, c5, rfl⟩ := hL.own.value
      have HL := Lib.hid hL
      have HK := Lib.hid hk
      have HS1 := Lib.hid (HSl.out.later hL.below)
      clear hL hk HP HSl
      have hnil : Row kStr w1 (· < w1.heap.size) none 0 [] := ⟨rfl, fun k x hx => by simp at hx⟩
      have H2 := Lib.hid (Pm.order_any A5 k c5 L none 0 0 [] w1 HL.out.own.read hnil (by have := HK.out; omega) (by omega))
      clear hnil
      go_wp2_with fail
      refine H2.out.mono ?_
      rintro e w2 ⟨v2, rfl, ho2, hb2⟩
      obtain ⟨A6, c6, hv2⟩ := ho2.value
      subst hv2
      have HS2 := Lib.hid (HS1.out.later hb2)
      have HO2 := Lib.hid ho2.read
      have HL2 := Lib.hid (row_on HL.out.own.read hb2)
      clear ho2 hb2 H2 HS1
      have H3 := Lib.hid (Py.codes_any C m cc cs w2 HS2.out.names (by have := HN30.out; omega))
      go_wp2_with fail
      refine H3.out.mono ?_
      rintro e w3 ⟨v3, rfl, hG⟩
      obtain ⟨A9, c9, hv3⟩ := hG.own.value
      subst hv3
      have HS3 := Lib.hid (HS2.out.later hG.below)
      have HO3 := Lib.hid (row_on HO2.out hG.below)
      have HL3 := Lib.hid (row_on HL2.out hG.below)
      have HG := Lib.hid hG.own.read
      have h33 := (Py.someTo_len cs 3 3 3).2
      obtain ⟨nc, hnc⟩ : ∃ nc, (Py.someTo cs 3 3 3).length = nc := ⟨_, rfl⟩
      rw [hnc] at HG h33
      obtain ⟨cs2, hcs2⟩ : ∃ cs2, Py.namesOf Py.codeS cs 3 3 3 = cs2 := ⟨_, rfl⟩
      rw [hcs2] at HG
      clear hG H3 HS2 HO2 HL2 hcs2
      have H4 := Lib.hid (Pm.order_any A5 k c5 L A9 nc c9 cs2 w3 HL3.out HG.out (by have := HK.out; omega) (by omega))
      subst hnc
      go_wp2_with fail
      refine H4.out.mono ?_
      rintro e w4 ⟨v4, rfl, ho4, hb4⟩
      obtain ⟨A7, c7, hv4⟩ := ho4.value
      subst hv4
      obtain ⟨M, hM⟩ : ∃ M, (Pr.orderTo L [] k).length = M := ⟨_, rfl⟩
      obtain ⟨N, hN⟩ : ∃ N, (Pr.orderTo L cs2 k).length = N := ⟨_, rfl⟩
      have HM := Lib.hid (And.intro hM hN)
      have HMo : Hid (Mo w w4 A5 k L A6 M (Pr.orderTo L [] k) A7 N (Pr.orderTo L cs2 k)) := Lib.hid (by
        have h5 := row_on HO3.out hb4
        have h6 := ho4.read
        rw [hM] at h5
        rw [hN] at h6
        exact ⟨row_on HL3.out hb4, h5, h6, HS3.out.below.trans (hb4.mono HS3.out.below.size)⟩)
      have hM6 : M ≤ 6 := by have := Pm.order_len L [] k; have := HK.out; omega
      have hN6 : N ≤ 6 := by have := Pm.order_len L cs2 k; have := HK.out; omega
      have HS0 : Hid (((Pr.orderTo L [] k).drop 0).Sublist ((Pr.orderTo L cs2 k).drop 0)) := Lib.hid (order_sub L cs2 k)
      clear ho4 hb4 H4 HS3 HO3 HL3 HG
      simp only [hM, hN]
      clear hM hN
      go_wp2
      go_loopw [8, 9] (fun s8 s9 wx => ∃ (i kk : Nat), s8 = .int .i64 kk ∧ s9 = .int .i64 i ∧ i ≤ N ∧ kk ≤ M ∧ Hid (((Pr.orderTo L [] k).drop kk).Sublist ((Pr.orderTo L cs2 k).drop i)) ∧ Hid (Mo w wx A5 k L A6 M (Pr.orderTo L [] k) A7 N (Pr.orderTo L cs2 k))) (fun _ s9 _ => N - (intOf s9).toNat)
      case atStart => exact ⟨0, 0, rfl, rfl, by omega, by omega, HS0, HMo⟩
      case round =>
        clear HMo HS0
        obtain ⟨i, kk, rfl, rfl, hi, hkk, hS, hMo⟩ := hrel
        have i0 : (0 : Int) ≤ (i : Int) := by omega
        have kk0 : (0 : Int) ≤ (kk : Int) := by omega
        by_cases hlt : i < N
        · have i1 : (i : Int) < (N : Int) := by omega
          obtain ⟨x, hx⟩ : ∃ x, (Pr.orderTo L cs2 k)[i]? = some x := ⟨_, List.getElem?_eq_getElem (by have := HM.out.2; omega)⟩
          have hxk : x < k := ((Pr.orderTo_mem L cs2 x k).1 (List.mem_of_getElem? hx)).1
          have x1 : ¬ (x : Int) < 0 := by omega
          have x2 : ¬ (k : Int) ≤ (x : Int) := by omega
          obtain ⟨g7, o7, hA7, hg7, b7⟩ := ints_get hMo.out.b hx
          subst hA7
          have HX := Lib.hid (And.intro hx hxk)
          have b7u : ∀ u, Below _ _ u → u.cell? ⟨g7, o7 + i, none⟩ = some (.int .i64 (x : Int)) := fun u (hu : Below wr.heap.size wr u) => (hu.cell (p := ⟨g7, _, none⟩) hg7).trans b7
          clear hx hxk hg7
          go_upto_region 16 with (fail)
          go_cut [76] (fun s76 wx => ∃ b : Bool, s76 = .bool b ∧ ((b = true ∧ kk + 1 ≤ M ∧ Hid (((Pr.orderTo L [] k).drop (kk + 1)).Sublist ((Pr.orderTo L cs2 k).drop (i + 1)))) ∨ (b = false ∧ Hid (((Pr.orderTo L [] k).drop kk).Sublist ((Pr.orderTo L cs2 k).drop (i + 1))))) ∧ Hid (Below wr.heap.size wr wx))
          case first =>
            by_cases hm : kk < M
            · have m1 : (kk : Int) < (M : Int) := by omega
              obtain ⟨y, hy⟩ : ∃ y, (Pr.orderTo L [] k)[kk]? = some y := ⟨_, List.getElem?_eq_getElem (by have := HM.out.1; omega)⟩
              obtain ⟨g6, o6, hA6, hg6, b6⟩ := ints_get hMo.out.a hy
              subst hA6
              by_cases hxy : y = x
              · have e1 : ((y : Int) == (x : Int)) = true := beq_iff_eq.2 (by omega)
                have HS2 := Lib.hid (sub_hit hS.out (hy.trans (by rw [hxy])) HX.out.1)
                clear hy hxy hg6
                go_wp2_with fail
                go_quiet (fail)
                go_wp2_with fail
                go_meet
                exact ⟨true, rfl, .inl ⟨rfl, by omega, HS2⟩, Lib.hid (Qu.below_draws (Below.refl _ _) _)⟩
              · have e1 : ((y : Int) == (x : Int)) = false := beq_eq_false_iff_ne.2 (by omega)
                have e2 : ¬ (y : Int) = (x : Int) := by omega
                have HS2 := Lib.hid (sub_miss hS.out hy HX.out.1 hxy)
                clear hy hg6
                go_wp2_with fail
                go_quiet (fail)
                go_wp2_with fail
                go_meet
                exact ⟨false, rfl, .inr ⟨rfl, HS2⟩, Lib.hid (Qu.below_draws (Below.refl _ _) _)⟩
            · have m1 : ¬ (kk : Int) < (M : Int) := by omega
              have HS2 := Lib.hid (sub_none (bs := Pr.orderTo L cs2 k) (j := i) (show (Pr.orderTo L [] k).length ≤ kk by have := HM.out.1; omega))
              go_wp2_with fail
              go_quiet (fail)
              go_wp2_with fail
              go_meet
              exact ⟨false, rfl, .inr ⟨rfl, HS2⟩, Lib.hid (Qu.below_draws (Below.refl _ _) _)⟩
          case rest =>
          obtain ⟨b, rfl, hb, hbw⟩ := hcut
          obtain ⟨wd, hwd⟩ : ∃ wd, wd = wc := ⟨_, rfl⟩
          subst hwd
          have HXY := Lib.hid (And.intro hb hkk)
          clear hb hS hkk
          go_upto_if 76 with (fail)
          go_cut [8] (fun s8 wx => ∃ kk' : Nat, s8 = .int .i64 kk' ∧ kk' ≤ M ∧ Hid (((Pr.orderTo L [] k).drop kk').Sublist ((Pr.orderTo L cs2 k).drop (i + 1))) ∧ wx = wd)
          case first =>
            rcases HXY.out.1 with ⟨rfl, h1, h2⟩ | ⟨rfl, h2⟩
            · go_wp2_with fail
              go_meet
              exact ⟨kk + 1, by go_num, h1, h2, by trivial⟩
            · have h1 := HXY.out.2
              go_wp2_with fail
              go_meet
              exact ⟨kk, rfl, h1, h2, by trivial⟩
          case rest =>
            obtain ⟨kk', rfl, hkk', hS2, hwx⟩ := hcut
            subst hwx
            have HMo2 := Lib.hid (hMo.out.later hbw.out)
            clear b7u
            by_cases hi0 : i = 0
            · subst hi0
              have t1 : ¬ (0 : Int) < ((0 : Nat) : Int) := by omega
              go_wp2
              go_roundw
              case rel => exact ⟨1, kk', rfl, rfl, by omega, hkk', hS2, HMo2⟩
              case measure => simp [intOf]; omega
            · have t1 : (0 : Int) < (i : Int) := by omega
              have t2 : 0 < i := by omega
              obtain ⟨j, hj⟩ : ∃ j, i - 1 = j := ⟨_, rfl⟩
              have hji : j + 1 = i := by omega
              obtain ⟨z, hz⟩ : ∃ z, (Pr.orderTo L cs2 k)[j]? = some z := ⟨_, List.getElem?_eq_getElem (by have := HM.out.2; omega)⟩
              have hzk : z < k := ((Pr.orderTo_mem L cs2 z k).1 (List.mem_of_getElem? hz)).1
              obtain ⟨g8, o8, hA8, hg8, b8⟩ := ints_get HMo2.out.b hz
              injection hA8 with hA8
              injection hA8 with hA8 hA9
              subst hA8
              subst hA9
              obtain ⟨p, hp⟩ := HMo2.out.rows.get hzk
              obtain ⟨q, hq⟩ := HMo2.out.rows.get HX.out.2
              obtain ⟨g, o, l, hA5, _, hgl, hhp, c0, c1, c2, c3, c4, c5', c6', c7', c8, c9', c10, c11, c12, c13, c14⟩ := row_Prm HMo2.out.rows hp
              subst hA5
              obtain ⟨g2, o2, m2, hA5, _, hgl2, hhq, d0, d1, d2, d3, d4, d5, d6, d7, d8, d9, d10, d11, d12, d13, d14⟩ := row_Prm HMo2.out.rows hq
              injection hA5 with hA5
              injection hA5 with hA5 hA55
              subst hA5 hA55
              obtain ⟨g9, o9, hB9, hg9, b9⟩ := ints_get HMo2.out.b HX.out.1
              injection hB9 with hB9
              injection hB9 with hB9 hB99
              subst hB9 hB99
              have HAh : Hid ((p.priority = q.priority ∧ Sr.lt p.id q.id = true) ∨ q.priority < p.priority) := Lib.hid (order_ahead HL.out cs2 hz (by rw [hji]; exact HX.out.1) hp hq)
              have f0 : ∀ u, Below wc.heap.size wc u → u.cell? ⟨g, o + z * 15, none⟩ = some (.string p.id) := fun u hu => (hu.cell (p := ⟨g, _, none⟩) hgl).trans c0
              have r0 : ∀ u, Below wc.heap.size wc u → u.cell? ⟨g, o + x * 15, none⟩ = some (.string q.id) := fun u hu => (hu.cell (p := ⟨g, _, none⟩) hgl).trans d0
              have f1 : ∀ u, Below wc.heap.size wc u → u.cell? ⟨g, o + z * 15 + 1, none⟩ = some (.int .i64 p.kind) := fun u hu => (hu.cell (p := ⟨g, _, none⟩) hgl).trans c1
              have r1 : ∀ u, Below wc.heap.size wc u → u.cell? ⟨g, o + x * 15 + 1, none⟩ = some (.int .i64 q.kind) := fun u hu => (hu.cell (p := ⟨g, _, none⟩) hgl).trans d1
              have f2 : ∀ u, Below wc.heap.size wc u → u.cell? ⟨g, o + z * 15 + 2, none⟩ = some (.int .i64 p.priority) := fun u hu => (hu.cell (p := ⟨g, _, none⟩) hgl).trans c2
              have r2 : ∀ u, Below wc.heap.size wc u → u.cell? ⟨g, o + x * 15 + 2, none⟩ = some (.int .i64 q.priority) := fun u hu => (hu.cell (p := ⟨g, _, none⟩) hgl).trans d2
              have f3 : ∀ u, Below wc.heap.size wc u → u.cell? ⟨g, o + z * 15 + 3, none⟩ = some (.string p.group) := fun u hu => (hu.cell (p := ⟨g, _, none⟩) hgl).trans c3
              have r3 : ∀ u, Below wc.heap.size wc u → u.cell? ⟨g, o + x * 15 + 3, none⟩ = some (.string q.group) := fun u hu => (hu.cell (p := ⟨g, _, none⟩) hgl).trans d3
              have f4 : ∀ u, Below wc.heap.size wc u → u.cell? ⟨g, o + z * 15 + 4, none⟩ = some (.string p.code) := fun u hu => (hu.cell (p := ⟨g, _, none⟩) hgl).trans c4
              have r4 : ∀ u, Below wc.heap.size wc u → u.cell? ⟨g, o + x * 15 + 4, none⟩ = some (.string q.code) := fun u hu => (hu.cell (p := ⟨g, _, none⟩) hgl).trans d4
              have f5 : ∀ u, Below wc.heap.size wc u → u.cell? ⟨g, o + z * 15 + 5, none⟩ = some (.bool p.closes) := fun u hu => (hu.cell (p := ⟨g, _, none⟩) hgl).trans c5'
              have r5 : ∀ u, Below wc.heap.size wc u → u.cell? ⟨g, o + x * 15 + 5, none⟩ = some (.bool q.closes) := fun u hu => (hu.cell (p := ⟨g, _, none⟩) hgl).trans d5
              have f6 : ∀ u, Below wc.heap.size wc u → u.cell? ⟨g, o + z * 15 + 6, none⟩ = some (.slice l.scope.skus.A l.scope.skus.n l.scope.skus.c) := fun u hu => (hu.cell (p := ⟨g, _, none⟩) hgl).trans c6'
              have r6 : ∀ u, Below wc.heap.size wc u → u.cell? ⟨g, o + x * 15 + 6, none⟩ = some (.slice m2.scope.skus.A m2.scope.skus.n m2.scope.skus.c) := fun u hu => (hu.cell (p := ⟨g, _, none⟩) hgl).trans d6
              have f7 : ∀ u, Below wc.heap.size wc u → u.cell? ⟨g, o + z * 15 + 7, none⟩ = some (.slice l.scope.cats.A l.scope.cats.n l.scope.cats.c) := fun u hu => (hu.cell (p := ⟨g, _, none⟩) hgl).trans c7'
              have r7 : ∀ u, Below wc.heap.size wc u → u.cell? ⟨g, o + x * 15 + 7, none⟩ = some (.slice m2.scope.cats.A m2.scope.cats.n m2.scope.cats.c) := fun u hu => (hu.cell (p := ⟨g, _, none⟩) hgl).trans d7
              have f8 : ∀ u, Below wc.heap.size wc u → u.cell? ⟨g, o + z * 15 + 8, none⟩ = some (.int .i64 p.least) := fun u hu => (hu.cell (p := ⟨g, _, none⟩) hgl).trans c8
              have r8 : ∀ u, Below wc.heap.size wc u → u.cell? ⟨g, o + x * 15 + 8, none⟩ = some (.int .i64 q.least) := fun u hu => (hu.cell (p := ⟨g, _, none⟩) hgl).trans d8
              have f9 : ∀ u, Below wc.heap.size wc u → u.cell? ⟨g, o + z * 15 + 9, none⟩ = some (.int .i64 p.rate) := fun u hu => (hu.cell (p := ⟨g, _, none⟩) hgl).trans c9'
              have r9 : ∀ u, Below wc.heap.size wc u → u.cell? ⟨g, o + x * 15 + 9, none⟩ = some (.int .i64 q.rate) := fun u hu => (hu.cell (p := ⟨g, _, none⟩) hgl).trans d9
              have f10 : ∀ u, Below wc.heap.size wc u → u.cell? ⟨g, o + z * 15 + 10, none⟩ = some (.int .i64 p.amount) := fun u hu => (hu.cell (p := ⟨g, _, none⟩) hgl).trans c10
              have r10 : ∀ u, Below wc.heap.size wc u → u.cell? ⟨g, o + x * 15 + 10, none⟩ = some (.int .i64 q.amount) := fun u hu => (hu.cell (p := ⟨g, _, none⟩) hgl).trans d10
              have f11 : ∀ u, Below wc.heap.size wc u → u.cell? ⟨g, o + z * 15 + 11, none⟩ = some (.int .i64 p.buy) := fun u hu => (hu.cell (p := ⟨g, _, none⟩) hgl).trans c11
              have r11 : ∀ u, Below wc.heap.size wc u → u.cell? ⟨g, o + x * 15 + 11, none⟩ = some (.int .i64 q.buy) := fun u hu => (hu.cell (p := ⟨g, _, none⟩) hgl).trans d11
              have f12 : ∀ u, Below wc.heap.size wc u → u.cell? ⟨g, o + z * 15 + 12, none⟩ = some (.int .i64 p.get) := fun u hu => (hu.cell (p := ⟨g, _, none⟩) hgl).trans c12
              have r12 : ∀ u, Below wc.heap.size wc u → u.cell? ⟨g, o + x * 15 + 12, none⟩ = some (.int .i64 q.get) := fun u hu => (hu.cell (p := ⟨g, _, none⟩) hgl).trans d12
              have f13 : ∀ u, Below wc.heap.size wc u → u.cell? ⟨g, o + z * 15 + 13, none⟩ = some (.slice l.parts.A l.parts.n l.parts.c) := fun u hu => (hu.cell (p := ⟨g, _, none⟩) hgl).trans c13
              have r13 : ∀ u, Below wc.heap.size wc u → u.cell? ⟨g, o + x * 15 + 13, none⟩ = some (.slice m2.parts.A m2.parts.n m2.parts.c) := fun u hu => (hu.cell (p := ⟨g, _, none⟩) hgl).trans d13
              have f14 : ∀ u, Below wc.heap.size wc u → u.cell? ⟨g, o + z * 15 + 14, none⟩ = some (.slice l.tiers.A l.tiers.n l.tiers.c) := fun u hu => (hu.cell (p := ⟨g, _, none⟩) hgl).trans c14
              have r14 : ∀ u, Below wc.heap.size wc u → u.cell? ⟨g, o + x * 15 + 14, none⟩ = some (.slice m2.tiers.A m2.tiers.n m2.tiers.c) := fun u hu => (hu.cell (p := ⟨g, _, none⟩) hgl).trans d14
              have u8 : ∀ u, Below wc.heap.size wc u → u.cell? ⟨g7, o7 + j, none⟩ = some (.int .i64 (z : Int)) := fun u hu => (hu.cell (p := ⟨g7, _, none⟩) hg8).trans b8
              have u9 : ∀ u, Below wc.heap.size wc u → u.cell? ⟨g7, o7 + i, none⟩ = some (.int .i64 (x : Int)) := fun u hu => (hu.cell (p := ⟨g7, _, none⟩) hg8).trans b9
              have j1 : IntKind.i64.wrap ((i : Int) - 1) = (j : Int) := by rw [IntWalk.i64_in _ (by omega)]; omega
              have j2 : (0 : Int) ≤ (j : Int) := by omega
              have j3 : (j : Int) < (N : Int) := by omega
              have j4 : (0 : Int) ≤ (z : Int) := by omega
              have j5 : (z : Int) < (k : Int) := by omega
              have j6 : (0 : Int) ≤ (x : Int) := by omega
              have j7 : (x : Int) < (k : Int) := by have := HX.out.2; omega
              clear hp hq hz hzk hhp hhq hgl hgl2 hg8 hg9 b8 b9 hj hji c0 c1 c2 c3 c4 c5' c6' c7' c8 c9' c10 c11 c12 c13 c14 d0 d1 d2 d3 d4 d5 d6 d7 d8 d9 d10 d11 d12 d13 d14
              go_upto_region 19 with (fail)
              go_cut [10, 11] (fun s10 s11 wx => ∃ b1 b2, s10 = .pointer (some ⟨b1, 0, none⟩) ∧ s11 = .pointer (some ⟨b2, 0, none⟩) ∧ Hid (Two wc wx b1 b2 p l q m2))
              case first =>
                refine wp_region_held_drew (S := fun u => Below wc.heap.size wc u) (by kernel_rfl) ((Below.refl _ _).drew) (fun hS0 => ?_)
                refine wpAnyH_take (i := 0) (oi := ⟨some 81, _, _, _, _, _⟩) (v := ?_) rfl (by kernel_rfl) (by kernel_rfl) (by kernel_rfl) (fun _ _ _ h => h) (Or.inl ⟨by rfl, ?_⟩) hS0 ?_
                rotate_left
                · (intro wq hSw; (try dsimp only at hSw); go_simp; all_goals (with_reducible rfl))
                try simp only [Act.put, List.setIfInBounds_toArray, List.set_cons_zero, List.set_cons_succ]
                refine wpAnyH_take (i := 1) (oi := ⟨some 82, _, _, _, _, _⟩) (v := ?_) rfl (by kernel_rfl) (by kernel_rfl) (by kernel_rfl) (fun _ _ _ h => h) (Or.inl ⟨by rfl, ?_⟩) hS0 ?_
                rotate_left
                · (intro wq hSw; (try dsimp only at hSw); go_simp; all_goals (with_reducible rfl))
                try simp only [Act.put, List.setIfInBounds_toArray, List.set_cons_zero, List.set_cons_succ]
                refine wpAnyH_take (i := 2) (oi := ⟨some 83, _, _, _, _, _⟩) (v := ?_) rfl (by kernel_rfl) (by kernel_rfl) (by kernel_rfl) (fun _ _ _ h => h) (Or.inl ⟨by rfl, ?_⟩) hS0 ?_
                rotate_left
                · (intro wq hSw; (try dsimp only at hSw); go_simp; all_goals (with_reducible rfl))
                try simp only [Act.put, List.setIfInBounds_toArray, List.set_cons_zero, List.set_cons_succ]
                refine wpAnyH_take (i := 3) (oi := ⟨some 84, _, _, _, _, _⟩) (v := ?_) rfl (by kernel_rfl) (by kernel_rfl) (by kernel_rfl) (fun _ _ _ h => h) (Or.inl ⟨by rfl, ?_⟩) hS0 ?_
                rotate_left
                · (intro wq hSw; (try dsimp only at hSw); go_simp; all_goals (with_reducible rfl))
                try simp only [Act.put, List.setIfInBounds_toArray, List.set_cons_zero, List.set_cons_succ]
                refine wpAnyH_take (i := 4) (oi := ⟨some 85, _, _, _, _, _⟩) (v := ?_) rfl (by kernel_rfl) (by kernel_rfl) (by kernel_rfl) (fun _ _ _ h => h) (Or.inl ⟨by rfl, ?_⟩) hS0 ?_
                rotate_left
                · (intro wq hSw; (try dsimp only at hSw); go_simp; all_goals (with_reducible rfl))
                try simp only [Act.put, List.setIfInBounds_toArray, List.set_cons_zero, List.set_cons_succ]
                refine wpAnyH_take (i := 5) (oi := ⟨some 86, _, _, _, _, _⟩) (v := ?_) rfl (by kernel_rfl) (by kernel_rfl) (by kernel_rfl) (fun _ _ _ h => h) (Or.inl ⟨by rfl, ?_⟩) hS0 ?_
                rotate_left
                · (intro wq hSw; (try dsimp only at hSw); go_simp; all_goals (with_reducible rfl))
                try simp only [Act.put, List.setIfInBounds_toArray, List.set_cons_zero, List.set_cons_succ]
                refine wpAnyH_take (i := 6) (oi := ⟨some 87, _, _, _, _, _⟩) (v := ?_) rfl (by kernel_rfl) (by kernel_rfl) (by kernel_rfl) (fun _ _ _ h => h) (Or.inl ⟨by rfl, ?_⟩) hS0 ?_
                rotate_left
                · (intro wq hSw; (try dsimp only at hSw); go_simp; all_goals (with_reducible rfl))
                try simp only [Act.put, List.setIfInBounds_toArray, List.set_cons_zero, List.set_cons_succ]
                refine wpAnyH_take (i := 7) (oi := ⟨some 88, _, _, _, _, _⟩) (v := ?_) rfl (by kernel_rfl) (by kernel_rfl) (by kernel_rfl) (fun _ _ _ h => h) (Or.inl ⟨by rfl, ?_⟩) hS0 ?_
                rotate_left
                · (intro wq hSw; (try dsimp only at hSw); go_simp; all_goals (with_reducible rfl))
                try simp only [Act.put, List.setIfInBounds_toArray, List.set_cons_zero, List.set_cons_succ]
                refine wpAnyH_take (i := 8) (oi := ⟨some 89, _, _, _, _, _⟩) (v := ?_) rfl (by kernel_rfl) (by kernel_rfl) (by kernel_rfl) (fun _ _ _ h => h) (Or.inl ⟨by rfl, ?_⟩) hS0 ?_
                rotate_left
                · (intro wq hSw; (try dsimp only at hSw); go_simp; all_goals (with_reducible rfl))
                try simp only [Act.put, List.setIfInBounds_toArray, List.set_cons_zero, List.set_cons_succ]
                refine wpAnyH_take (i := 9) (oi := ⟨some 90, _, _, _, _, _⟩) (v := ?_) rfl (by kernel_rfl) (by kernel_rfl) (by kernel_rfl) (fun _ _ _ h => h) (Or.inl ⟨by rfl, ?_⟩) hS0 ?_
                rotate_left
                · (intro wq hSw; (try dsimp only at hSw); go_simp; all_goals (with_reducible rfl))
                try simp only [Act.put, List.setIfInBounds_toArray, List.set_cons_zero, List.set_cons_succ]
                refine wpAnyH_take (i := 10) (oi := ⟨some 91, _, _, _, _, _⟩) (v := ?_) rfl (by kernel_rfl) (by kernel_rfl) (by kernel_rfl) (fun _ _ _ h => h) (Or.inl ⟨by rfl, ?_⟩) hS0 ?_
                rotate_left
                · (intro wq hSw; (try dsimp only at hSw); go_simp; all_goals (with_reducible rfl))
                try simp only [Act.put, List.setIfInBounds_toArray, List.set_cons_zero, List.set_cons_succ]
                refine wpAnyH_take (i := 11) (oi := ⟨some 92, _, _, _, _, _⟩) (v := ?_) rfl (by kernel_rfl) (by kernel_rfl) (by kernel_rfl) (fun _ _ _ h => h) (Or.inl ⟨by rfl, ?_⟩) hS0 ?_
                rotate_left
                · (intro wq hSw; (try dsimp only at hSw); go_simp; all_goals (with_reducible rfl))
                try simp only [Act.put, List.setIfInBounds_toArray, List.set_cons_zero, List.set_cons_succ]
                refine wpAnyH_take (i := 12) (oi := ⟨some 93, _, _, _, _, _⟩) (v := ?_) rfl (by kernel_rfl) (by kernel_rfl) (by kernel_rfl) (fun _ _ _ h => h) (Or.inl ⟨by rfl, ?_⟩) hS0 ?_
                rotate_left
                · (intro wq hSw; (try dsimp only at hSw); go_simp; all_goals (with_reducible rfl))
                try simp only [Act.put, List.setIfInBounds_toArray, List.set_cons_zero, List.set_cons_succ]
                refine wpAnyH_take (i := 13) (oi := ⟨some 94, _, _, _, _, _⟩) (v := ?_) rfl (by kernel_rfl) (by kernel_rfl) (by kernel_rfl) (fun _ _ _ h => h) (Or.inl ⟨by rfl, ?_⟩) hS0 ?_
                rotate_left
                · (intro wq hSw; (try dsimp only at hSw); go_simp; all_goals (with_reducible rfl))
                try simp only [Act.put, List.setIfInBounds_toArray, List.set_cons_zero, List.set_cons_succ]
                refine wpAnyH_take (i := 14) (oi := ⟨some 95, _, _, _, _, _⟩) (v := ?_) rfl (by kernel_rfl) (by kernel_rfl) (by kernel_rfl) (fun _ _ _ h => h) (Or.inl ⟨by rfl, ?_⟩) hS0 ?_
                rotate_left
                · (intro wq hSw; (try dsimp only at hSw); go_simp; all_goals (with_reducible rfl))
                try simp only [Act.put, List.setIfInBounds_toArray, List.set_cons_zero, List.set_cons_succ]
                refine wpAnyH_ready (rs := [15, 16]) (by kernel_rfl) (by simp) ?_
                refine AllReadyH.cons (o := ⟨some 10, _, _, _, _, _⟩) rfl (fun K hK => ?_) ?_
                ·
                  go_simp
                  obtain ⟨W5, b1, e1, e2, hG1, hB5, hb5⟩ := Py.got_new hS0
                  first | rw [e1, e2] | (rw [show (World.alloc wc _).drew = W5 from e1]; rw [show wc.heap.size = b1 from e2])
                  try have hne : b1 ≠ b2 := by have := hG2.blk.lt; omega
                  try have hG2 := hG2.on hb5
                  refine hK.out _ _ (hB5) (fun hS1 => ?_)
                  clear hK K
                  try simp only [Act.put, List.setIfInBounds_toArray, List.set_cons_zero, List.set_cons_succ]
                  refine wpAnyH_ready (rs := [16]) (by kernel_rfl) (by simp) ?_
                  refine AllReadyH.cons (o := ⟨some 11, _, _, _, _, _⟩) rfl (fun K hK => ?_) AllReadyH.nil
                  go_simp
                  obtain ⟨W5, b2, e1, e2, hG2, hB5, hb5⟩ := Py.got_new hS1
                  first | rw [e1, e2] | (rw [show (World.alloc wc _).drew = W5 from e1]; rw [show wc.heap.size = b2 from e2])
                  try have hne : b1 ≠ b2 := by have := hG1.blk.lt; omega
                  try have hG1 := hG1.on hb5
                  refine hK.out _ _ (hB5) (fun hS2 => ?_)
                  clear hK K
                  try simp only [Act.put, List.setIfInBounds_toArray, List.set_cons_zero, List.set_cons_succ]
                  refine wpAnyH_ready (rs := [17]) (by kernel_rfl) (by simp) ?_
                  refine AllReadyH.cons (o := ⟨none, _, _, _, _, _⟩) rfl (fun K hK => ?_) AllReadyH.nil
                  have x0 := hG1.blk.cell 0
                  have x1 := hG1.blk.cell 1
                  have x2 := hG1.blk.cell 2
                  have x3 := hG1.blk.cell 3
                  have x4 := hG1.blk.cell 4
                  have x5 := hG1.blk.cell 5
                  have x6 := hG1.blk.cell 6
                  have x7 := hG1.blk.cell 7
                  have x8 := hG1.blk.cell 8
                  have x9 := hG1.blk.cell 9
                  have x10 := hG1.blk.cell 10
                  have x11 := hG1.blk.cell 11
                  have x12 := hG1.blk.cell 12
                  have x13 := hG1.blk.cell 13
                  have x14 := hG1.blk.cell 14
                  have xf := hG1.blk.frozen
                  obtain ⟨W8, hW8⟩ : ∃ W8, (World.setCell (World.setCell (World.setCell (World.setCell (World.setCell (World.setCell (World.setCell (World.setCell (World.setCell (World.setCell (World.setCell (World.setCell (World.setCell (World.setCell (World.setCell W5 ⟨b1, 0, none⟩ (.string p.id)) ⟨b1, 1, none⟩ (.int .i64 p.kind)) ⟨b1, 2, none⟩ (.int .i64 p.priority)) ⟨b1, 3, none⟩ (.string p.group)) ⟨b1, 4, none⟩ (.string p.code)) ⟨b1, 5, none⟩ (.bool p.closes)) ⟨b1, 6, none⟩ (.slice l.scope.skus.A l.scope.skus.n l.scope.skus.c)) ⟨b1, 7, none⟩ (.slice l.scope.cats.A l.scope.cats.n l.scope.cats.c)) ⟨b1, 8, none⟩ (.int .i64 p.least)) ⟨b1, 9, none⟩ (.int .i64 p.rate)) ⟨b1, 10, none⟩ (.int .i64 p.amount)) ⟨b1, 11, none⟩ (.int .i64 p.buy)) ⟨b1, 12, none⟩ (.int .i64 p.get)) ⟨b1, 13, none⟩ (.slice l.parts.A l.parts.n l.parts.c)) ⟨b1, 14, none⟩ (.slice l.tiers.A l.tiers.n l.tiers.c)) = W8 := ⟨_, rfl⟩
                  have HX : Hid (Below wc.heap.size wc W8 ∧ Py.Got wc W8 b2 ∧ Qu.Blk W8 b1 28 #[.string p.id, .int .i64 p.kind, .int .i64 p.priority, .string p.group, .string p.code, .bool p.closes, .slice l.scope.skus.A l.scope.skus.n l.scope.skus.c, .slice l.scope.cats.A l.scope.cats.n l.scope.cats.c, .int .i64 p.least, .int .i64 p.rate, .int .i64 p.amount, .int .i64 p.buy, .int .i64 p.get, .slice l.parts.A l.parts.n l.parts.c, .slice l.tiers.A l.tiers.n l.tiers.c]) := Lib.hid (by rw [← hW8]; exact two_first (p := p) (l := l) hS2 hG1 hG2 hne)
                  have hw := Lib.hid hW8
                  clear hW8
                  go_simp
                  rw [hw.out]
                  refine hK.out _ _ (HX.out.1) (fun hS3 => ?_)
                  clear hK K
                  try simp only [Act.put, List.setIfInBounds_toArray, List.set_cons_zero, List.set_cons_succ]
                  refine wpAnyH_ready (rs := [18]) (by kernel_rfl) (by simp) ?_
                  refine AllReadyH.cons (o := ⟨none, _, _, _, _, _⟩) rfl (fun K hK => ?_) AllReadyH.nil
                  clear x0 x1 x2 x3 x4 x5 x6 x7 x8 x9 x10 x11 x12 x13 x14 xf
                  have y0 := HX.out.2.1.blk.cell 0
                  have y1 := HX.out.2.1.blk.cell 1
                  have y2 := HX.out.2.1.blk.cell 2
                  have y3 := HX.out.2.1.blk.cell 3
                  have y4 := HX.out.2.1.blk.cell 4
                  have y5 := HX.out.2.1.blk.cell 5
                  have y6 := HX.out.2.1.blk.cell 6
                  have y7 := HX.out.2.1.blk.cell 7
                  have y8 := HX.out.2.1.blk.cell 8
                  have y9 := HX.out.2.1.blk.cell 9
                  have y10 := HX.out.2.1.blk.cell 10
                  have y11 := HX.out.2.1.blk.cell 11
                  have y12 := HX.out.2.1.blk.cell 12
                  have y13 := HX.out.2.1.blk.cell 13
                  have y14 := HX.out.2.1.blk.cell 14
                  have yf := HX.out.2.1.blk.frozen
                  obtain ⟨W9, hW9⟩ : ∃ W9, (World.setCell (World.setCell (World.setCell (World.setCell (World.setCell (World.setCell (World.setCell (World.setCell (World.setCell (World.setCell (World.setCell (World.setCell (World.setCell (World.setCell (World.setCell W8 ⟨b2, 0, none⟩ (.string q.id)) ⟨b2, 1, none⟩ (.int .i64 q.kind)) ⟨b2, 2, none⟩ (.int .i64 q.priority)) ⟨b2, 3, none⟩ (.string q.group)) ⟨b2, 4, none⟩ (.string q.code)) ⟨b2, 5, none⟩ (.bool q.closes)) ⟨b2, 6, none⟩ (.slice m2.scope.skus.A m2.scope.skus.n m2.scope.skus.c)) ⟨b2, 7, none⟩ (.slice m2.scope.cats.A m2.scope.cats.n m2.scope.cats.c)) ⟨b2, 8, none⟩ (.int .i64 q.least)) ⟨b2, 9, none⟩ (.int .i64 q.rate)) ⟨b2, 10, none⟩ (.int .i64 q.amount)) ⟨b2, 11, none⟩ (.int .i64 q.buy)) ⟨b2, 12, none⟩ (.int .i64 q.get)) ⟨b2, 13, none⟩ (.slice m2.parts.A m2.parts.n m2.parts.c)) ⟨b2, 14, none⟩ (.slice m2.tiers.A m2.tiers.n m2.tiers.c)) = W9 := ⟨_, rfl⟩
                  have HZ : Hid (Two wc W9 b1 b2 p l q m2) := Lib.hid (by rw [← hW9]; exact two_second (q := q) (m := m2) HX.out.1 HX.out.2.2 HX.out.2.1 hne)
                  have hw2 := Lib.hid hW9
                  clear hW9
                  go_simp
                  rw [hw2.out]
                  refine hK.out _ _ (HZ.out.below) (fun hS4 => ?_)
                  clear hK K
                  try simp only [Act.put, List.setIfInBounds_toArray, List.set_cons_zero, List.set_cons_succ]
                  refine wpAnyH_done (by kernel_rfl) ?_ _
                  go_wp2_with fail
                  go_meet
                  exact ⟨b1, b2, rfl, rfl, HZ⟩
                refine AllReadyH.cons (o := ⟨some 11, _, _, _, _, _⟩) rfl (fun K hK => ?_) AllReadyH.nil
                go_simp
                obtain ⟨W5, b2, e1, e2, hG2, hB5, hb5⟩ := Py.got_new hS0
                first | rw [e1, e2] | (rw [show (World.alloc wc _).drew = W5 from e1]; rw [show wc.heap.size = b2 from e2])
                try have hne : b1 ≠ b2 := by have := hG1.blk.lt; omega
                try have hG1 := hG1.on hb5
                refine hK.out _ _ (hB5) (fun hS1 => ?_)
                clear hK K
                try simp only [Act.put, List.setIfInBounds_toArray, List.set_cons_zero, List.set_cons_succ]
                refine wpAnyH_ready (rs := [15]) (by kernel_rfl) (by simp) ?_
                refine AllReadyH.cons (o := ⟨some 10, _, _, _, _, _⟩) rfl (fun K hK => ?_) AllReadyH.nil
                go_simp
                obtain ⟨W5, b1, e1, e2, hG1, hB5, hb5⟩ := Py.got_new hS1
                first | rw [e1, e2] | (rw [show (World.alloc wc _).drew = W5 from e1]; rw [show wc.heap.size = b1 from e2])
                try have hne : b1 ≠ b2 := by have := hG2.blk.lt; omega
                try have hG2 := hG2.on hb5
                refine hK.out _ _ (hB5) (fun hS2 => ?_)
                clear hK K
                try simp only [Act.put, List.setIfInBounds_toArray, List.set_cons_zero, List.set_cons_succ]
                refine wpAnyH_ready (rs := [17]) (by kernel_rfl) (by simp) ?_
                refine AllReadyH.cons (o := ⟨none, _, _, _, _, _⟩) rfl (fun K hK => ?_) AllReadyH.nil
                have x0 := hG1.blk.cell 0
                have x1 := hG1.blk.cell 1
                have x2 := hG1.blk.cell 2
                have x3 := hG1.blk.cell 3
                have x4 := hG1.blk.cell 4
                have x5 := hG1.blk.cell 5
                have x6 := hG1.blk.cell 6
                have x7 := hG1.blk.cell 7
                have x8 := hG1.blk.cell 8
                have x9 := hG1.blk.cell 9
                have x10 := hG1.blk.cell 10
                have x11 := hG1.blk.cell 11
                have x12 := hG1.blk.cell 12
                have x13 := hG1.blk.cell 13
                have x14 := hG1.blk.cell 14
                have xf := hG1.blk.frozen
                obtain ⟨W8, hW8⟩ : ∃ W8, (World.setCell (World.setCell (World.setCell (World.setCell (World.setCell (World.setCell (World.setCell (World.setCell (World.setCell (World.setCell (World.setCell (World.setCell (World.setCell (World.setCell (World.setCell W5 ⟨b1, 0, none⟩ (.string p.id)) ⟨b1, 1, none⟩ (.int .i64 p.kind)) ⟨b1, 2, none⟩ (.int .i64 p.priority)) ⟨b1, 3, none⟩ (.string p.group)) ⟨b1, 4, none⟩ (.string p.code)) ⟨b1, 5, none⟩ (.bool p.closes)) ⟨b1, 6, none⟩ (.slice l.scope.skus.A l.scope.skus.n l.scope.skus.c)) ⟨b1, 7, none⟩ (.slice l.scope.cats.A l.scope.cats.n l.scope.cats.c)) ⟨b1, 8, none⟩ (.int .i64 p.least)) ⟨b1, 9, none⟩ (.int .i64 p.rate)) ⟨b1, 10, none⟩ (.int .i64 p.amount)) ⟨b1, 11, none⟩ (.int .i64 p.buy)) ⟨b1, 12, none⟩ (.int .i64 p.get)) ⟨b1, 13, none⟩ (.slice l.parts.A l.parts.n l.parts.c)) ⟨b1, 14, none⟩ (.slice l.tiers.A l.tiers.n l.tiers.c)) = W8 := ⟨_, rfl⟩
                have HX : Hid (Below wc.heap.size wc W8 ∧ Py.Got wc W8 b2 ∧ Qu.Blk W8 b1 28 #[.string p.id, .int .i64 p.kind, .int .i64 p.priority, .string p.group, .string p.code, .bool p.closes, .slice l.scope.skus.A l.scope.skus.n l.scope.skus.c, .slice l.scope.cats.A l.scope.cats.n l.scope.cats.c, .int .i64 p.least, .int .i64 p.rate, .int .i64 p.amount, .int .i64 p.buy, .int .i64 p.get, .slice l.parts.A l.parts.n l.parts.c, .slice l.tiers.A l.tiers.n l.tiers.c]) := Lib.hid (by rw [← hW8]; exact two_first (p := p) (l := l) hS2 hG1 hG2 hne)
                have hw := Lib.hid hW8
                clear hW8
                go_simp
                rw [hw.out]
                refine hK.out _ _ (HX.out.1) (fun hS3 => ?_)
                clear hK K
                try simp only [Act.put, List.setIfInBounds_toArray, List.set_cons_zero, List.set_cons_succ]
                refine wpAnyH_ready (rs := [18]) (by kernel_rfl) (by simp) ?_
                refine AllReadyH.cons (o := ⟨none, _, _, _, _, _⟩) rfl (fun K hK => ?_) AllReadyH.nil
                clear x0 x1 x2 x3 x4 x5 x6 x7 x8 x9 x10 x11 x12 x13 x14 xf
                have y0 := HX.out.2.1.blk.cell 0
                have y1 := HX.out.2.1.blk.cell 1
                have y2 := HX.out.2.1.blk.cell 2
                have y3 := HX.out.2.1.blk.cell 3
                have y4 := HX.out.2.1.blk.cell 4
                have y5 := HX.out.2.1.blk.cell 5
                have y6 := HX.out.2.1.blk.cell 6
                have y7 := HX.out.2.1.blk.cell 7
                have y8 := HX.out.2.1.blk.cell 8
                have y9 := HX.out.2.1.blk.cell 9
                have y10 := HX.out.2.1.blk.cell 10
                have y11 := HX.out.2.1.blk.cell 11
                have y12 := HX.out.2.1.blk.cell 12
                have y13 := HX.out.2.1.blk.cell 13
                have y14 := HX.out.2.1.blk.cell 14
                have yf := HX.out.2.1.blk.frozen
                obtain ⟨W9, hW9⟩ : ∃ W9, (World.setCell (World.setCell (World.setCell (World.setCell (World.setCell (World.setCell (World.setCell (World.setCell (World.setCell (World.setCell (World.setCell (World.setCell (World.setCell (World.setCell (World.setCell W8 ⟨b2, 0, none⟩ (.string q.id)) ⟨b2, 1, none⟩ (.int .i64 q.kind)) ⟨b2, 2, none⟩ (.int .i64 q.priority)) ⟨b2, 3, none⟩ (.string q.group)) ⟨b2, 4, none⟩ (.string q.code)) ⟨b2, 5, none⟩ (.bool q.closes)) ⟨b2, 6, none⟩ (.slice m2.scope.skus.A m2.scope.skus.n m2.scope.skus.c)) ⟨b2, 7, none⟩ (.slice m2.scope.cats.A m2.scope.cats.n m2.scope.cats.c)) ⟨b2, 8, none⟩ (.int .i64 q.least)) ⟨b2, 9, none⟩ (.int .i64 q.rate)) ⟨b2, 10, none⟩ (.int .i64 q.amount)) ⟨b2, 11, none⟩ (.int .i64 q.buy)) ⟨b2, 12, none⟩ (.int .i64 q.get)) ⟨b2, 13, none⟩ (.slice m2.parts.A m2.parts.n m2.parts.c)) ⟨b2, 14, none⟩ (.slice m2.tiers.A m2.tiers.n m2.tiers.c)) = W9 := ⟨_, rfl⟩
                have HZ : Hid (Two wc W9 b1 b2 p l q m2) := Lib.hid (by rw [← hW9]; exact two_second (q := q) (m := m2) HX.out.1 HX.out.2.2 HX.out.2.1 hne)
                have hw2 := Lib.hid hW9
                clear hW9
                go_simp
                rw [hw2.out]
                refine hK.out _ _ (HZ.out.below) (fun hS4 => ?_)
                clear hK K
                try simp only [Act.put, List.setIfInBounds_toArray, List.set_cons_zero, List.set_cons_succ]
                refine wpAnyH_done (by kernel_rfl) ?_ _
                go_wp2_with fail
                go_meet
                exact ⟨b1, b2, rfl, rfl, HZ⟩
              case rest =>
                obtain ⟨b1, b2, rfl, rfl, hT⟩ := hcut
                have y2 := hT.out.one.cell 2
                have z2 := hT.out.two.cell 2
                have y0 := hT.out.one.cell 0
                have z0 := hT.out.two.cell 0
                have HMo3 := Lib.hid (HMo2.out.later hT.out.below)
                have hgq := fun W => geq_str p.id q.id W
                clear hT f0 r0 f1 r1 f2 r2 f3 r3 f4 r4 f5 r5 f6 r6 f7 r7 f8 r8 f9 r9 f10 r10 f11 r11 f12 r12 f13 r13 f14 r14 u8 u9
                rcases HAh.out with ⟨a1, a2⟩ | a1
                · have b3 : ¬ p.priority < q.priority := by omega
                  have b4 : (p.priority == q.priority) = true := beq_iff_eq.2 a1
                  rw [a2] at hgq
                  have e1 : (!true) = false := rfl
                  simp only [e1] at hgq
                  clear a1 a2
                  go_wp2
                  go_roundw
                  case rel => exact ⟨i + 1, kk', rfl, by go_num, by omega, hkk', hS2, HMo3⟩
                  case measure => simp [intOf]; omega
                · have b3 : ¬ p.priority < q.priority := by omega
                  have b4 : (p.priority == q.priority) = false := beq_eq_false_iff_ne.2 (by omega)
                  have b5 : ¬ p.priority = q.priority := by omega
                  clear a1
                  go_wp2
                  go_roundw
                  case rel => exact ⟨i + 1, kk', rfl, by go_num, by omega, hkk', hS2, HMo3⟩
                  case measure => simp [intOf]; omega
        · obtain rfl : i = N := by omega
          have i1 : ¬ (i : Int) < (i : Int) := by omega
          have hE : kk = M := by
            have := HM.out
            have h9 := hS.out
            rw [← this.2] at h9
            have := sub_end h9 (by omega)
            omega
          subst hE
          have HA := Lib.hid (Pm.awake_any wr)
          have HY := Lib.hid (HL.out.yes)
          have e1 : ((kk : Int) == (kk : Int)) = true := beq_self_eq_true _
          clear hS
          go_wp2_with fail
          refine HA.out.mono ?_
          rintro e w5 ⟨rfl, hb5⟩
          have HMo5 := Lib.hid (hMo.out.later hb5)
          have H6 := Lib.hid (Pm.all_any A5 k c5 L w5 HMo5.out.rows HL.out.slights (by have := HK.out; omega))
          rw [HY.out] at H6
          clear hb5 HA hMo
          go_wp2_with fail
          refine H6.out.mono ?_
          rintro e w6 ⟨rfl, hb6⟩
          have HB6 := Lib.hid (HMo5.out.later hb6).below
          clear hb6 H6 HMo5
          go_wp2
          go_ret
          exact ⟨rfl, HB6.out⟩

set_option maxRecDepth 100000 in
theorem lifted (os : Os) (started : os.Started) (H : Type) (enc : TypeId × Value → H) :
    ReturnsInHanded {} Try.checked os 6 .any (Rows.promoMoreSpec.pre6 enc Try.prog Try.f6 Rows.promoMoreRow.domain false) (Rows.promoMoreSpec.post enc Try.prog Try.f6 false true false false) := by
  refine returnsInHanded_of_change (C := Try.checked) own started (by kernel_rfl) Try.func6
    (ChangeSpec.witness6 (enc := enc) (C := Try.checked) false ⟨#[], #[.slice none 0 0, .slice none 0 0], []⟩ 8 (by kernel_rfl) (by kernel_rfl) (by kernel_rfl) (by kernel_rfl)) ?_
  intro W base args ds gs before hval0 hW hcnd _
  have hval : ∀ (j : Nat) t v, Try.f6.params[j]? = some t → args[j]? = some v → Value.okWide Try.prog W .any base t v := hval0
  have hW' := hW
  obtain ⟨p, q, hA0, hV, rfl, hfz, hnd⟩ := hW
  have hA : DataW.TrodAll enc Try.prog W 0 (fun _ => true) true Try.f6.params.toList args.toList ds p := hA0
  rw [Try.params6] at hA hval
  obtain ⟨v0, vs0, d0, ds0, p0, q0, hargs, rfl, rfl, h0, r0⟩ := trodAll_cons hA
  obtain ⟨v1, vs1, d1, ds1, p1, q1, rfl, rfl, rfl, h1, r1⟩ := trodAll_cons r0
  obtain ⟨rfl, rfl, rfl⟩ := trodAll_nil r1
  obtain rfl : args = #[v0, v1] := by cases args; simp_all
  obtain ⟨A0, n0, c0, xs0, rfl, x0, y0⟩ := Kd.open_list Ap.reads_Prm Try.underlying39 (by decide) (hval 0 39 v0 rfl rfl) h0
  obtain ⟨A1, n1, c1, xs1, rfl, x1, y1⟩ := Kd.open_list (Kd.Reads.str Try.underlying9 (by kernel_rfl)) Try.underlying22 (by decide) (hval 1 22 v1 rfl rfl) h1
  refine (walk W A0 n0 c0 xs0 x0 y0 A1 n1 c1 xs1 x1 y1).mono fun e W' ⟨he, hb⟩ => ?_
  subst he
  exact ⟨_, rfl, Hk.closeLaw (tb := 4) (by kernel_rfl) (by kernel_rfl) rfl rfl rfl Try.underlying4 hW' hb⟩

theorem over : Rows.promoMoreRow.holds Try.pinned (OpenSpec.ofChange Rows.promoMoreSpec) :=
  OpenClaim.holds_of_wide 6 Try.f6 rfl rfl rfl rfl rfl rfl rfl ⟨rfl, rfl, rfl, rfl, rfl⟩ rfl rfl rfl rfl rfl (by kernel_rfl) Try.func6 (by kernel_rfl)
    (of_decide_eq_true (by kernel_rfl)) (by unfold Func.isWrapper; first | (rw [if_pos (by decide +kernel)]; kernel_rfl) | (rw [if_neg (by decide +kernel)]; exact ⟨rfl, rfl⟩))
    (fun os started H enc _ => lifted os started H enc)

/-- The statement. -/
theorem proved : Rows.PromoMoreSaid :=
  over
end Go.Proofs.Ytgimcleeamlgcaa.promoMore
