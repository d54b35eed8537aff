/- Cuts: the landed each and the four ways to take something off (made by gen-cut15.py). -/
import Derived.Test.YtacmoanhbkipfaaPq11
import Derived.Test.YtacmoanhbkipfaaPq5
import Derived.Test.YtacmoanhbkipfaaPq6

set_option maxRecDepth 100000
set_option linter.unusedVariables false
namespace Go.Proofs.Ytacmoanhbkipfaa.Ct
open Go.ChangeShapes Go.WideShapes Go.ChangeAt Go.RowKit
open Ap (Unt Tir Prm kUnt kTir row_Unt row_Tir)
open Kd (Kind Row kInt row_int)
open Ko (Out Told Told2 At row_on)
def Typed (w : World) (A : Option Addr) : Prop := ∀ (b o : Nat), A = some ⟨b, o, none⟩ → ∃ cs, w.heap[b]? = some (.cells cs 2 (0, 0))
def ReadT (w : World) (e : Ending) (w' : World) (xs : List Int) : Prop :=
  ∃ (A : Option Addr) (c : Nat), e = .returned (.slice A xs.length c) ∧ Row kInt w' (· < w'.heap.size) A xs.length xs ∧ Below w.heap.size w w' ∧ Typed w' A
theorem own_typed {α : Type} {K : Kind α} {w : World} {B E n c : Nat} {F : Nat → Prop} {A : Option Addr} {xs : List α} (h : Kd.Own K w B E F (.slice A n c) n xs) {b o : Nat} (hA : A = some ⟨b, o, none⟩) : ∃ cs, w.heap[b]? = some (.cells cs E (0, 0)) := by
  obtain ⟨_, cs, ho, _⟩ := h
  rcases ho.2 with ⟨h1, _⟩ | ⟨g, cap, cur, h1, _, h2, _⟩
  · injection h1 with h3; rw [hA] at h3; cases h3
  · injection h1 with h3; rw [hA] at h3; injection h3 with h3; injection h3 with h4; subst h4; exact ⟨_, h2⟩
theorem readT_told {w w' : World} {e : Ending} {xs : List Int} (h : Ko.Told kInt 2 w e w' xs) : ReadT w e w' xs := by
  obtain ⟨A, c, rfl, ho, hb⟩ := h
  exact ⟨A, c, rfl, ho.read, hb, fun b o hA => own_typed ho hA⟩
theorem readT_ints {w w' : World} {A : Option Addr} {c : Nat} {xs ys : List Int} (h : Hl.Ints w' w'.heap.size A xs.length (Sh.nth xs)) (hr : ∀ (k : Nat) (x : Int), xs[k]? = some x → -9223372036854775808 ≤ x ∧ x ≤ 9223372036854775807) (hb : Below w.heap.size w w') (ht : Typed w' A) (e : ys = xs) : ReadT w (.returned (.slice A xs.length c)) w' ys := by
  obtain ⟨A2, c2, h1, h2, h3⟩ := read_ints (c := c) h hr hb e
  injection h1 with h1
  injection h1 with h4 h5 h6
  subst h4
  subst h6
  exact ⟨A, c, by rw [e], h2, h3, ht⟩
def GaveT (e : Ending) (w w' : World) (p : List Int × Int) : Prop := ∃ A c, e = .returned (.tuple #[.slice A p.1.length c, .int .i64 p.2]) ∧ Hl.Ints w' w'.heap.size A p.1.length (Sh.nth p.1) ∧ Below w.heap.size w w' ∧ Typed w' A
theorem GaveT.row {w w' : World} {g n : Nat} {l : List Int} (hl : l.length = n) (h : Sh.RowAt w' g l) (hb : Below w.heap.size w w') : GaveT (.returned (.tuple #[.slice (some ⟨g, 0, none⟩) n n, .int .i64 0])) w w' (l, 0) := by
  subst hl
  exact ⟨_, _, rfl, h.ints, hb, fun b o hA => by injection hA with hA; injection hA with hA; subst hA; exact ⟨_, Qu.Blk.here h⟩⟩
theorem lgT_zero (A : Option Addr) (n c : Nat) (f : Nat → Int) (w : World) (ha : Hl.Ints w w.heap.size A n f) (hn : n ≤ 100000) (hf : ∀ k, k < n → 0 ≤ f k ∧ f k ≤ 100000000000000) (h : Sh.sumF f n = 0) :
    Calls Try.prog 38 #[.int .i64 0, .slice A n c] w fun e w' => GaveT e w w' (List.replicate n 0, 0) := by
  have HR := Lib.hid (Sh.allRight_any A n c f _ w ha)
  have e1 : (decide (n ≤ 100000) && Sh.allOk f n) = true := by rw [Bool.and_eq_true, decide_eq_true_eq, Sh.allOk_iff]; exact ⟨hn, hf⟩
  rw [e1] at HR
  have HA := Lib.hid (Sh.added_any A n c f _ w ha hn hf)
  have e2 : Sh.addedR f n = (0, 0) := by unfold Sh.addedR; rw [h]; rfl
  rw [e2] at HA
  have hmk := Sh.make_row n (by omega)
  have HG := Lib.hid (GaveT.row (w := w) (n := n) (l := List.replicate n 0) (by simp) (Sh.RowAt.made w n) ((Below.refl _ _).alloc (Nat.le_refl _) _))
  clear ha h e1 e2 hf
  unfold Rf.pairOf at HA
  go_enter Try.func38, Try.ntmps38
  go_wp2_with fail
  refine (Mn.right_yes _ _ (by omega) (by omega)).mono ?_
  rintro e w1 ⟨rfl, rfl⟩
  go_wp2_with fail
  refine HR.out.mono ?_
  rintro e w2 ⟨rfl, rfl⟩
  go_wp2_with fail
  refine HA.out.mono ?_
  rintro e w3 ⟨rfl, rfl⟩
  go_wp2
  all_goals
    go_ret2
    exact HG.out
theorem lgT_parts (t : Int) (A : Option Addr) (n c : Nat) (f : Nat → Int) (w : World) (ha : Hl.Ints w w.heap.size A n f) (t0 : 0 ≤ t) (t1 : t ≤ 100000000000000) (hn : n ≤ 100000) (hf : ∀ k, k < n → 0 ≤ f k ∧ f k ≤ 100000000000000) (h : 1 ≤ Sh.sumF f n) (h1 : Sh.sumF f n ≤ 100000000000000) :
    Calls Try.prog 38 #[.int .i64 t, .slice A n c] w fun e w' => GaveT e w w' (Sh.parts t (Sh.sumF f n) f n, 0) := by
  have HR := Lib.hid (Sh.allRight_any A n c f _ w ha)
  have e1 : (decide (n ≤ 100000) && Sh.allOk f n) = true := by rw [Bool.and_eq_true, decide_eq_true_eq, Sh.allOk_iff]; exact ⟨hn, hf⟩
  rw [e1] at HR
  have HA := Lib.hid (Sh.added_any A n c f _ w ha hn hf)
  have e2 : Sh.addedR f n = (Sh.sumF f n, 0) := by unfold Sh.addedR; rw [if_pos h1]
  rw [e2] at HA
  have HD := Lib.hid (Sh.divide_any t (Sh.sumF f n) A n c f w ha hn t0 t1 h h1 rfl (fun k hk => ⟨(hf k hk).1, Sh.sumF_elem n k hk (fun j hj => (hf j hj).1)⟩))
  have HL := Lib.hid (Sh.parts_length (t := t) (S := Sh.sumF f n) (f := f) (n := n))
  clear ha e1 e2 hf
  unfold Rf.pairOf at HA
  generalize Sh.parts t (Sh.sumF f n) f n = l at *
  generalize Sh.sumF f n = S at *
  go_enter Try.func38, Try.ntmps38
  go_wp2_with fail
  refine (Mn.right_yes _ _ t0 t1).mono ?_
  rintro e w1 ⟨rfl, rfl⟩
  go_wp2_with fail
  refine HR.out.mono ?_
  rintro e w2 ⟨rfl, rfl⟩
  go_wp2_with fail
  refine HA.out.mono ?_
  rintro e w3 ⟨rfl, rfl⟩
  go_wp2_with fail
  refine HD.out.mono ?_
  rintro e w4 ⟨g, rfl, hr, hb⟩
  have HG := Lib.hid (GaveT.row HL.out hr hb)
  clear hr hb
  go_wp2
  all_goals
    go_ret2
    exact HG.out
theorem largestT_any (t : Int) (A : Option Addr) (n c : Nat) (f : Nat → Int) (w : World) (ha : Hl.Ints w w.heap.size A n f) (ht : 0 ≤ t ∧ t ≤ 100000000000000) (hn : n ≤ 100000) (hf : ∀ k, k < n → 0 ≤ f k ∧ f k ≤ 100000000000000) (h5 : Sh.sumF f n ≤ 100000000000000) (hts : t ≤ Sh.sumF f n) :
    Calls Try.prog 38 #[.int .i64 t, .slice A n c] w fun e w' => GaveT e w w' (Sh.largR t f n) := by
  by_cases h0 : Sh.sumF f n = 0
  · obtain rfl : t = 0 := by omega
    rw [Sh.larg_zero ht hn hf h0 (by omega)]
    exact lgT_zero A n c f w ha hn hf h0
  · rw [Sh.larg_parts ht hn hf h0 (by omega)]
    have := Sh.sumF_nonneg (f := f) n (fun k hk => (hf k hk).1)
    exact lgT_parts t A n c f w ha ht.1 ht.2 hn hf (by omega) (by omega)
theorem pctF_any (x r : Int) (b : Nat) (W : World) (hb : W.cell? ⟨b, 9, none⟩ = some (.int .i64 r)) :
    Calls Try.prog 35 #[.int .i64 x, .pointer (some ⟨b, 0, none⟩)] W fun e w' => e = .returned (.int .i64 (halfN x r)) ∧ Below W.heap.size W w' := by
  have HH := Lib.hid (part_any x r W)
  obtain ⟨v, hv⟩ : ∃ v, halfN x r = v := ⟨_, rfl⟩
  rw [hv] at HH
  have HV := Lib.hid hv
  clear hv
  go_enter Try.func35, Try.ntmps35
  go_wp2_with fail
  refine HH.out.mono ?_
  rintro e w2 ⟨rfl, hb2⟩
  have HB := Lib.hid hb2
  clear hb2
  go_wp2
  go_ret
  exact ⟨by rw [HV.out]; rfl, HB.out⟩
theorem amtF_any (x a : Int) (b : Nat) (W : World) (hb : W.cell? ⟨b, 10, none⟩ = some (.int .i64 a)) :
    Calls Try.prog 37 #[.int .i64 x, .pointer (some ⟨b, 0, none⟩)] W fun e w' => e = .returned (.int .i64 (min x a)) ∧ Below W.heap.size W w' := by
  obtain ⟨v, hv⟩ : ∃ v, min x a = v := ⟨_, rfl⟩
  have HV := Lib.hid hv
  go_enter Try.func37, Try.ntmps37
  go_wp2
  go_ret
  exact ⟨by rw [HV.out]; rfl, Below.refl _ _⟩
theorem cntF_any (x le ra am : Int) (b : Nat) (W : World) (h0 : W.cell? ⟨b, 0, none⟩ = some (.int .i64 le)) (h1 : W.cell? ⟨b, 1, none⟩ = some (.int .i64 ra)) (h2 : W.cell? ⟨b, 2, none⟩ = some (.int .i64 am)) (ha : -9223372036854775808 ≤ halfN x ra + am ∧ halfN x ra + am ≤ 9223372036854775807) :
    Calls Try.prog 40 #[.int .i64 x, .pointer (some ⟨b, 0, none⟩)] W fun e w' => e = .returned (.int .i64 (min x (halfN x ra + am))) ∧ Below W.heap.size W w' := by
  have HH := Lib.hid (byTier_any x le ra am W ha)
  obtain ⟨v, hv⟩ : ∃ v, min x (halfN x ra + am) = v := ⟨_, rfl⟩
  rw [hv] at HH
  have HV := Lib.hid hv
  clear hv ha
  go_enter Try.func40, Try.ntmps40
  go_wp2_with fail
  refine HH.out.mono ?_
  rintro e w2 ⟨rfl, hb2⟩
  have HB := Lib.hid hb2
  clear hb2
  go_wp2
  go_ret
  exact ⟨by rw [HV.out]; rfl, HB.out⟩
set_option maxHeartbeats 1000000 in
theorem each_pct (G : Int → Int) (p : Prm) (l : Prm.Lay) (b : Nat) (A : Option Addr) (n c : Nat) (xs : List Int) (w : World) (h : Row kInt w (· < w.heap.size) A n xs) (hn : n ≤ 100000)
    (hF : ∀ (W : World) (x : Int), Below w.heap.size w W → x ∈ xs → Calls Try.prog 35 #[.int .i64 x, .pointer (some ⟨b, 0, none⟩)] W fun e w' => e = .returned (.int .i64 (G x)) ∧ Below W.heap.size W w')
    (hG : ∀ x ∈ xs, -9223372036854775808 ≤ G x ∧ G x ≤ 9223372036854775807) :
    Calls Try.prog 34 #[.agg #[.string p.id, .int .i64 p.kind, .int .i64 p.priority, .string p.group, .string p.code, .bool p.closes, .slice l.scope.skus.A l.scope.skus.n l.scope.skus.c, .slice l.scope.cats.A l.scope.cats.n l.scope.cats.c, .int .i64 p.least, .int .i64 p.rate, .int .i64 p.amount, .int .i64 p.buy, .int .i64 p.get, .slice l.parts.A l.parts.n l.parts.c, .slice l.tiers.A l.tiers.n l.tiers.c, .slice A n c], .func (.func 35) #[] #[.pointer (some ⟨b, 0, none⟩)]] w fun e w' => Ko.Told kInt 2 w e w' (xs.map G) := by
  obtain ⟨w1, hw1⟩ : ∃ w1, w.alloc (.cells #[.string p.id, .int .i64 p.kind, .int .i64 p.priority, .string p.group, .string p.code, .bool p.closes, .slice l.scope.skus.A l.scope.skus.n l.scope.skus.c, .slice l.scope.cats.A l.scope.cats.n l.scope.cats.c, .int .i64 p.least, .int .i64 p.rate, .int .i64 p.amount, .int .i64 p.buy, .int .i64 p.get, .slice l.parts.A l.parts.n l.parts.c, .slice l.tiers.A l.tiers.n l.tiers.c, .slice A n c] 58) = w1 := ⟨_, rfl⟩
  have hb1 : Below w.heap.size w w1 := by rw [← hw1]; exact (Below.refl _ _).alloc (Nat.le_refl _) _
  have hx : Qu.Blk w1 w.heap.size 58 #[.string p.id, .int .i64 p.kind, .int .i64 p.priority, .string p.group, .string p.code, .bool p.closes, .slice l.scope.skus.A l.scope.skus.n l.scope.skus.c, .slice l.scope.cats.A l.scope.cats.n l.scope.cats.c, .int .i64 p.least, .int .i64 p.rate, .int .i64 p.amount, .int .i64 p.buy, .int .i64 p.get, .slice l.parts.A l.parts.n l.parts.c, .slice l.tiers.A l.tiers.n l.tiers.c, .slice A n c] := by rw [← hw1]; exact Qu.Blk.new w _ _
  have x15 := hx.cell 15
  obtain ⟨M, hM1, hM2⟩ := Ko.made_out i64_t n (by omega) (by omega)
  have HO0 := Lib.hid (hM2 w w1 hb1)
  have hmk := hM1 w1
  have x15b : (w1.alloc (.cells M 2)).cell? ⟨w.heap.size, 15, none⟩ = some (.slice A n c) := ((Qu.Blk.alloc hx _).cell 15)
  have HH := Lib.hid h
  have HL := Lib.hid h.len
  have HFn := Lib.hid hF
  have HGb := Lib.hid hG
  clear h hF hG hM1 hM2 hb1 hx
  go_enter Try.func34, Try.ntmps34
  go_wp2
  go_loopw [5, 15] (fun s5 s6 wr => ∃ k : Nat, s6 = .int .i64 k ∧ k ≤ n ∧ Hid (Out kInt 2 w wr s5 ((xs.take k).map G))) (fun _ s6 _ => n - (intOf s6).toNat)
  case atStart => exact ⟨0, rfl, by omega, Lib.hid (by rw [List.take_zero]; exact HO0.out)⟩
  case round =>
    clear HO0 hmk x15 x15b
    obtain ⟨k, rfl, hk, HO⟩ := hrel
    have kk : (0 : Int) ≤ (k : Int) := by omega
    by_cases hlt : k < n
    · obtain ⟨x, hx⟩ := HH.out.get hlt
      obtain ⟨g, o, rfl, hg, _, _, a0⟩ := row_int HH.out hx
      have c0 : wr.cell? ⟨g, o + k, none⟩ = some (.int .i64 x) := (HO.out.below.cell (p := ⟨g, _, none⟩) hg).trans a0
      have hmem : x ∈ xs := List.mem_of_getElem? hx
      have k1 : (k : Int) < (n : Int) := by omega
      have hok := HGb.out x hmem
      have HC := Lib.hid (HFn.out wr x HO.out.below hmem)
      obtain ⟨y, hy⟩ : ∃ y, G x = y := ⟨_, rfl⟩
      rw [hy] at hok HC
      have HN : Hid ((xs.take (k + 1)).map G = (xs.take k).map G ++ [y]) := Lib.hid (by rw [take_next hx, List.map_append]; show _ ++ [G x] = _ ++ [y]; rw [hy])
      have HK := Lib.hid hok
      have hlen : ((xs.take k).map G).length = k := by rw [List.length_map, List.length_take, HL.out]; omega
      obtain ⟨os, hos⟩ : ∃ os, (xs.take k).map G = os := ⟨_, rfl⟩
      rw [hos] at HO hlen HN
      obtain ⟨C, e5, hv⟩ := HO.out.own.value
      rw [hlen] at hv
      subst hv
      have HLl := Lib.hid hlen
      clear a0 hx hok hg hos hlen hmem hy
      go_wp2_with (first
        | (go_at_call 35; refine HC.out.mono ?_; rintro e w3 ⟨rfl, hb3⟩; have HO3 := Lib.hid (HO.out.later hb3); have hown0 : Hid (Kd.Own kInt w3 w.heap.size 2 (fun _ => False) (.slice C k e5) k os) := Lib.hid (by have := HO3.out.own; rw [HLl.out] at this; exact this); have hlow := HO3.out.below.size; clear hb3)
        | (at_builtin; refine Kd.wpList_push (W := w3) (F := fun _ => False) (B := w.heap.size) (n := k) (v := .slice C k e5) (xs := os) (y := y) (cs := [.int .i64 y]) i64_t rfl _ _ rfl rfl rfl rfl hown0.out ⟨rfl, HK.out⟩ (by omega) (by omega) hlow (fun _ h => h.elim) ?_; intro g1 cap w' hown hgrow hfr; have HPu := Lib.hid (HO3.out.push HLl.out hown hgrow); clear hown hgrow hfr))
      go_roundw
      case rel => exact ⟨k + 1, by go_num, by omega, Lib.hid (by rw [HN.out]; exact HPu.out)⟩
      case measure => simp [intOf]; omega
    · have k1 : ¬ (k : Int) < (n : Int) := by omega
      obtain rfl : k = n := by omega
      have HE : Hid ((xs.take k).map G = xs.map G) := Lib.hid (by rw [List.take_of_length_le (by rw [HL.out]; omega)])
      go_wp2
      go_ret
      exact (by rw [HE.out] at HO; exact HO.out.told)
set_option maxHeartbeats 1000000 in
theorem each_amt (G : Int → Int) (p : Prm) (l : Prm.Lay) (b : Nat) (A : Option Addr) (n c : Nat) (xs : List Int) (w : World) (h : Row kInt w (· < w.heap.size) A n xs) (hn : n ≤ 100000)
    (hF : ∀ (W : World) (x : Int), Below w.heap.size w W → x ∈ xs → Calls Try.prog 37 #[.int .i64 x, .pointer (some ⟨b, 0, none⟩)] W fun e w' => e = .returned (.int .i64 (G x)) ∧ Below W.heap.size W w')
    (hG : ∀ x ∈ xs, -9223372036854775808 ≤ G x ∧ G x ≤ 9223372036854775807) :
    Calls Try.prog 34 #[.agg #[.string p.id, .int .i64 p.kind, .int .i64 p.priority, .string p.group, .string p.code, .bool p.closes, .slice l.scope.skus.A l.scope.skus.n l.scope.skus.c, .slice l.scope.cats.A l.scope.cats.n l.scope.cats.c, .int .i64 p.least, .int .i64 p.rate, .int .i64 p.amount, .int .i64 p.buy, .int .i64 p.get, .slice l.parts.A l.parts.n l.parts.c, .slice l.tiers.A l.tiers.n l.tiers.c, .slice A n c], .func (.func 37) #[] #[.pointer (some ⟨b, 0, none⟩)]] w fun e w' => Ko.Told kInt 2 w e w' (xs.map G) := by
  obtain ⟨w1, hw1⟩ : ∃ w1, w.alloc (.cells #[.string p.id, .int .i64 p.kind, .int .i64 p.priority, .string p.group, .string p.code, .bool p.closes, .slice l.scope.skus.A l.scope.skus.n l.scope.skus.c, .slice l.scope.cats.A l.scope.cats.n l.scope.cats.c, .int .i64 p.least, .int .i64 p.rate, .int .i64 p.amount, .int .i64 p.buy, .int .i64 p.get, .slice l.parts.A l.parts.n l.parts.c, .slice l.tiers.A l.tiers.n l.tiers.c, .slice A n c] 58) = w1 := ⟨_, rfl⟩
  have hb1 : Below w.heap.size w w1 := by rw [← hw1]; exact (Below.refl _ _).alloc (Nat.le_refl _) _
  have hx : Qu.Blk w1 w.heap.size 58 #[.string p.id, .int .i64 p.kind, .int .i64 p.priority, .string p.group, .string p.code, .bool p.closes, .slice l.scope.skus.A l.scope.skus.n l.scope.skus.c, .slice l.scope.cats.A l.scope.cats.n l.scope.cats.c, .int .i64 p.least, .int .i64 p.rate, .int .i64 p.amount, .int .i64 p.buy, .int .i64 p.get, .slice l.parts.A l.parts.n l.parts.c, .slice l.tiers.A l.tiers.n l.tiers.c, .slice A n c] := by rw [← hw1]; exact Qu.Blk.new w _ _
  have x15 := hx.cell 15
  obtain ⟨M, hM1, hM2⟩ := Ko.made_out i64_t n (by omega) (by omega)
  have HO0 := Lib.hid (hM2 w w1 hb1)
  have hmk := hM1 w1
  have x15b : (w1.alloc (.cells M 2)).cell? ⟨w.heap.size, 15, none⟩ = some (.slice A n c) := ((Qu.Blk.alloc hx _).cell 15)
  have HH := Lib.hid h
  have HL := Lib.hid h.len
  have HFn := Lib.hid hF
  have HGb := Lib.hid hG
  clear h hF hG hM1 hM2 hb1 hx
  go_enter Try.func34, Try.ntmps34
  go_wp2
  go_loopw [5, 15] (fun s5 s6 wr => ∃ k : Nat, s6 = .int .i64 k ∧ k ≤ n ∧ Hid (Out kInt 2 w wr s5 ((xs.take k).map G))) (fun _ s6 _ => n - (intOf s6).toNat)
  case atStart => exact ⟨0, rfl, by omega, Lib.hid (by rw [List.take_zero]; exact HO0.out)⟩
  case round =>
    clear HO0 hmk x15 x15b
    obtain ⟨k, rfl, hk, HO⟩ := hrel
    have kk : (0 : Int) ≤ (k : Int) := by omega
    by_cases hlt : k < n
    · obtain ⟨x, hx⟩ := HH.out.get hlt
      obtain ⟨g, o, rfl, hg, _, _, a0⟩ := row_int HH.out hx
      have c0 : wr.cell? ⟨g, o + k, none⟩ = some (.int .i64 x) := (HO.out.below.cell (p := ⟨g, _, none⟩) hg).trans a0
      have hmem : x ∈ xs := List.mem_of_getElem? hx
      have k1 : (k : Int) < (n : Int) := by omega
      have hok := HGb.out x hmem
      have HC := Lib.hid (HFn.out wr x HO.out.below hmem)
      obtain ⟨y, hy⟩ : ∃ y, G x = y := ⟨_, rfl⟩
      rw [hy] at hok HC
      have HN : Hid ((xs.take (k + 1)).map G = (xs.take k).map G ++ [y]) := Lib.hid (by rw [take_next hx, List.map_append]; show _ ++ [G x] = _ ++ [y]; rw [hy])
      have HK := Lib.hid hok
      have hlen : ((xs.take k).map G).length = k := by rw [List.length_map, List.length_take, HL.out]; omega
      obtain ⟨os, hos⟩ : ∃ os, (xs.take k).map G = os := ⟨_, rfl⟩
      rw [hos] at HO hlen HN
      obtain ⟨C, e5, hv⟩ := HO.out.own.value
      rw [hlen] at hv
      subst hv
      have HLl := Lib.hid hlen
      clear a0 hx hok hg hos hlen hmem hy
      go_wp2_with (first
        | (go_at_call 37; refine HC.out.mono ?_; rintro e w3 ⟨rfl, hb3⟩; have HO3 := Lib.hid (HO.out.later hb3); have hown0 : Hid (Kd.Own kInt w3 w.heap.size 2 (fun _ => False) (.slice C k e5) k os) := Lib.hid (by have := HO3.out.own; rw [HLl.out] at this; exact this); have hlow := HO3.out.below.size; clear hb3)
        | (at_builtin; refine Kd.wpList_push (W := w3) (F := fun _ => False) (B := w.heap.size) (n := k) (v := .slice C k e5) (xs := os) (y := y) (cs := [.int .i64 y]) i64_t rfl _ _ rfl rfl rfl rfl hown0.out ⟨rfl, HK.out⟩ (by omega) (by omega) hlow (fun _ h => h.elim) ?_; intro g1 cap w' hown hgrow hfr; have HPu := Lib.hid (HO3.out.push HLl.out hown hgrow); clear hown hgrow hfr))
      go_roundw
      case rel => exact ⟨k + 1, by go_num, by omega, Lib.hid (by rw [HN.out]; exact HPu.out)⟩
      case measure => simp [intOf]; omega
    · have k1 : ¬ (k : Int) < (n : Int) := by omega
      obtain rfl : k = n := by omega
      have HE : Hid ((xs.take k).map G = xs.map G) := Lib.hid (by rw [List.take_of_length_le (by rw [HL.out]; omega)])
      go_wp2
      go_ret
      exact (by rw [HE.out] at HO; exact HO.out.told)
set_option maxHeartbeats 1000000 in
theorem each_cnt (G : Int → Int) (p : Prm) (l : Prm.Lay) (b : Nat) (A : Option Addr) (n c : Nat) (xs : List Int) (w : World) (h : Row kInt w (· < w.heap.size) A n xs) (hn : n ≤ 100000)
    (hF : ∀ (W : World) (x : Int), Below w.heap.size w W → x ∈ xs → Calls Try.prog 40 #[.int .i64 x, .pointer (some ⟨b, 0, none⟩)] W fun e w' => e = .returned (.int .i64 (G x)) ∧ Below W.heap.size W w')
    (hG : ∀ x ∈ xs, -9223372036854775808 ≤ G x ∧ G x ≤ 9223372036854775807) :
    Calls Try.prog 34 #[.agg #[.string p.id, .int .i64 p.kind, .int .i64 p.priority, .string p.group, .string p.code, .bool p.closes, .slice l.scope.skus.A l.scope.skus.n l.scope.skus.c, .slice l.scope.cats.A l.scope.cats.n l.scope.cats.c, .int .i64 p.least, .int .i64 p.rate, .int .i64 p.amount, .int .i64 p.buy, .int .i64 p.get, .slice l.parts.A l.parts.n l.parts.c, .slice l.tiers.A l.tiers.n l.tiers.c, .slice A n c], .func (.func 40) #[] #[.pointer (some ⟨b, 0, none⟩)]] w fun e w' => Ko.Told kInt 2 w e w' (xs.map G) := by
  obtain ⟨w1, hw1⟩ : ∃ w1, w.alloc (.cells #[.string p.id, .int .i64 p.kind, .int .i64 p.priority, .string p.group, .string p.code, .bool p.closes, .slice l.scope.skus.A l.scope.skus.n l.scope.skus.c, .slice l.scope.cats.A l.scope.cats.n l.scope.cats.c, .int .i64 p.least, .int .i64 p.rate, .int .i64 p.amount, .int .i64 p.buy, .int .i64 p.get, .slice l.parts.A l.parts.n l.parts.c, .slice l.tiers.A l.tiers.n l.tiers.c, .slice A n c] 58) = w1 := ⟨_, rfl⟩
  have hb1 : Below w.heap.size w w1 := by rw [← hw1]; exact (Below.refl _ _).alloc (Nat.le_refl _) _
  have hx : Qu.Blk w1 w.heap.size 58 #[.string p.id, .int .i64 p.kind, .int .i64 p.priority, .string p.group, .string p.code, .bool p.closes, .slice l.scope.skus.A l.scope.skus.n l.scope.skus.c, .slice l.scope.cats.A l.scope.cats.n l.scope.cats.c, .int .i64 p.least, .int .i64 p.rate, .int .i64 p.amount, .int .i64 p.buy, .int .i64 p.get, .slice l.parts.A l.parts.n l.parts.c, .slice l.tiers.A l.tiers.n l.tiers.c, .slice A n c] := by rw [← hw1]; exact Qu.Blk.new w _ _
  have x15 := hx.cell 15
  obtain ⟨M, hM1, hM2⟩ := Ko.made_out i64_t n (by omega) (by omega)
  have HO0 := Lib.hid (hM2 w w1 hb1)
  have hmk := hM1 w1
  have x15b : (w1.alloc (.cells M 2)).cell? ⟨w.heap.size, 15, none⟩ = some (.slice A n c) := ((Qu.Blk.alloc hx _).cell 15)
  have HH := Lib.hid h
  have HL := Lib.hid h.len
  have HFn := Lib.hid hF
  have HGb := Lib.hid hG
  clear h hF hG hM1 hM2 hb1 hx
  go_enter Try.func34, Try.ntmps34
  go_wp2
  go_loopw [5, 15] (fun s5 s6 wr => ∃ k : Nat, s6 = .int .i64 k ∧ k ≤ n ∧ Hid (Out kInt 2 w wr s5 ((xs.take k).map G))) (fun _ s6 _ => n - (intOf s6).toNat)
  case atStart => exact ⟨0, rfl, by omega, Lib.hid (by rw [List.take_zero]; exact HO0.out)⟩
  case round =>
    clear HO0 hmk x15 x15b
    obtain ⟨k, rfl, hk, HO⟩ := hrel
    have kk : (0 : Int) ≤ (k : Int) := by omega
    by_cases hlt : k < n
    · obtain ⟨x, hx⟩ := HH.out.get hlt
      obtain ⟨g, o, rfl, hg, _, _, a0⟩ := row_int HH.out hx
      have c0 : wr.cell? ⟨g, o + k, none⟩ = some (.int .i64 x) := (HO.out.below.cell (p := ⟨g, _, none⟩) hg).trans a0
      have hmem : x ∈ xs := List.mem_of_getElem? hx
      have k1 : (k : Int) < (n : Int) := by omega
      have hok := HGb.out x hmem
      have HC := Lib.hid (HFn.out wr x HO.out.below hmem)
      obtain ⟨y, hy⟩ : ∃ y, G x = y := ⟨_, rfl⟩
      rw [hy] at hok HC
      have HN : Hid ((xs.take (k + 1)).map G = (xs.take k).map G ++ [y]) := Lib.hid (by rw [take_next hx, List.map_append]; show _ ++ [G x] = _ ++ [y]; rw [hy])
      have HK := Lib.hid hok
      have hlen : ((xs.take k).map G).length = k := by rw [List.length_map, List.length_take, HL.out]; omega
      obtain ⟨os, hos⟩ : ∃ os, (xs.take k).map G = os := ⟨_, rfl⟩
      rw [hos] at HO hlen HN
      obtain ⟨C, e5, hv⟩ := HO.out.own.value
      rw [hlen] at hv
      subst hv
      have HLl := Lib.hid hlen
      clear a0 hx hok hg hos hlen hmem hy
      go_wp2_with (first
        | (go_at_call 40; refine HC.out.mono ?_; rintro e w3 ⟨rfl, hb3⟩; have HO3 := Lib.hid (HO.out.later hb3); have hown0 : Hid (Kd.Own kInt w3 w.heap.size 2 (fun _ => False) (.slice C k e5) k os) := Lib.hid (by have := HO3.out.own; rw [HLl.out] at this; exact this); have hlow := HO3.out.below.size; clear hb3)
        | (at_builtin; refine Kd.wpList_push (W := w3) (F := fun _ => False) (B := w.heap.size) (n := k) (v := .slice C k e5) (xs := os) (y := y) (cs := [.int .i64 y]) i64_t rfl _ _ rfl rfl rfl rfl hown0.out ⟨rfl, HK.out⟩ (by omega) (by omega) hlow (fun _ h => h.elim) ?_; intro g1 cap w' hown hgrow hfr; have HPu := Lib.hid (HO3.out.push HLl.out hown hgrow); clear hown hgrow hfr))
      go_roundw
      case rel => exact ⟨k + 1, by go_num, by omega, Lib.hid (by rw [HN.out]; exact HPu.out)⟩
      case measure => simp [intOf]; omega
    · have k1 : ¬ (k : Int) < (n : Int) := by omega
      obtain rfl : k = n := by omega
      have HE : Hid ((xs.take k).map G = xs.map G) := Lib.hid (by rw [List.take_of_length_le (by rw [HL.out]; omega)])
      go_wp2
      go_ret
      exact (by rw [HE.out] at HO; exact HO.out.told)
set_option maxHeartbeats 1000000 in
theorem percent_any (p : Prm) (l : Prm.Lay) (A : Option Addr) (n c : Nat) (xs : List Int) (w : World) (h : Row kInt w (· < w.heap.size) A n xs) (hn : n ≤ 100000) (hp : -9223372036854775808 ≤ p.amount ∧ p.amount ≤ 9223372036854775807) :
    Calls Try.prog 18 #[.agg #[.string p.id, .int .i64 p.kind, .int .i64 p.priority, .string p.group, .string p.code, .bool p.closes, .slice l.scope.skus.A l.scope.skus.n l.scope.skus.c, .slice l.scope.cats.A l.scope.cats.n l.scope.cats.c, .int .i64 p.least, .int .i64 p.rate, .int .i64 p.amount, .int .i64 p.buy, .int .i64 p.get, .slice l.parts.A l.parts.n l.parts.c, .slice l.tiers.A l.tiers.n l.tiers.c, .slice A n c]] w fun e w' => Ko.Told kInt 2 w e w' (xs.map fun x => halfN x p.rate) := by
  obtain ⟨w1, hw1⟩ : ∃ w1, w.alloc (.cells #[.string p.id, .int .i64 p.kind, .int .i64 p.priority, .string p.group, .string p.code, .bool p.closes, .slice l.scope.skus.A l.scope.skus.n l.scope.skus.c, .slice l.scope.cats.A l.scope.cats.n l.scope.cats.c, .int .i64 p.least, .int .i64 p.rate, .int .i64 p.amount, .int .i64 p.buy, .int .i64 p.get, .slice l.parts.A l.parts.n l.parts.c, .slice l.tiers.A l.tiers.n l.tiers.c, .slice A n c] 58) = w1 := ⟨_, rfl⟩
  have hb1 : Below w.heap.size w w1 := by rw [← hw1]; exact (Below.refl _ _).alloc (Nat.le_refl _) _
  have hx : Qu.Blk w1 w.heap.size 58 #[.string p.id, .int .i64 p.kind, .int .i64 p.priority, .string p.group, .string p.code, .bool p.closes, .slice l.scope.skus.A l.scope.skus.n l.scope.skus.c, .slice l.scope.cats.A l.scope.cats.n l.scope.cats.c, .int .i64 p.least, .int .i64 p.rate, .int .i64 p.amount, .int .i64 p.buy, .int .i64 p.get, .slice l.parts.A l.parts.n l.parts.c, .slice l.tiers.A l.tiers.n l.tiers.c, .slice A n c] := by rw [← hw1]; exact Qu.Blk.new w _ _
  have x0 := hx.cell 0
  have x1 := hx.cell 1
  have x2 := hx.cell 2
  have x3 := hx.cell 3
  have x4 := hx.cell 4
  have x5 := hx.cell 5
  have x6 := hx.cell 6
  have x7 := hx.cell 7
  have x8 := hx.cell 8
  have x9 := hx.cell 9
  have x10 := hx.cell 10
  have x11 := hx.cell 11
  have x12 := hx.cell 12
  have x13 := hx.cell 13
  have x14 := hx.cell 14
  have x15 := hx.cell 15
  have HE := Lib.hid (each_pct (fun x => halfN x p.rate) p l w.heap.size A n c xs w1 (row_on h hb1) hn (fun W x hb _ => pctF_any x _ _ W ((hb.cell (p := ⟨w.heap.size, 9, none⟩) hx.lt).trans (hx.cell 9))) (fun x hm => by
    obtain ⟨k, hk, e⟩ := List.mem_iff_getElem.1 hm
    obtain ⟨g, o, _, _, _, hok, _⟩ := row_int h (k := k) (x := x) (by rw [List.getElem?_eq_getElem hk, e])
    have h9 : -9223372036854775808 ≤ x ∧ x ≤ 9223372036854775807 := hok
    have := halfN_ok x p.rate
    show -9223372036854775808 ≤ halfN x p.rate ∧ halfN x p.rate ≤ 9223372036854775807
    omega))
  have HB := Lib.hid hb1
  have HLen : Hid ((xs.map fun x => halfN x p.rate).length = (xs.map fun x => halfN x p.rate).length) := Lib.hid rfl
  obtain ⟨ys, hys⟩ : ∃ ys, (xs.map fun x => halfN x p.rate) = ys := ⟨_, rfl⟩
  rw [hys] at HE
  have HY := Lib.hid hys
  clear h hb1 hx hys HLen
  go_enter Try.func18, Try.ntmps18
  go_wp2_with fail
  refine HE.out.mono ?_
  rintro e w2 ⟨A2, c2, rfl, ho, hb2⟩
  have HO := Lib.hid (And.intro (own_down ho HB.out.size) (HB.out.trans (hb2.mono HB.out.size)))
  clear ho hb2
  go_wp2
  go_ret
  rw [HY.out]
  exact ⟨A2, c2, rfl, HO.out.1, HO.out.2⟩
set_option maxHeartbeats 1000000 in
theorem amount_any (p : Prm) (l : Prm.Lay) (A : Option Addr) (n c : Nat) (xs : List Int) (w : World) (h : Row kInt w (· < w.heap.size) A n xs) (hn : n ≤ 100000) (hp : -9223372036854775808 ≤ p.amount ∧ p.amount ≤ 9223372036854775807) :
    Calls Try.prog 19 #[.agg #[.string p.id, .int .i64 p.kind, .int .i64 p.priority, .string p.group, .string p.code, .bool p.closes, .slice l.scope.skus.A l.scope.skus.n l.scope.skus.c, .slice l.scope.cats.A l.scope.cats.n l.scope.cats.c, .int .i64 p.least, .int .i64 p.rate, .int .i64 p.amount, .int .i64 p.buy, .int .i64 p.get, .slice l.parts.A l.parts.n l.parts.c, .slice l.tiers.A l.tiers.n l.tiers.c, .slice A n c]] w fun e w' => Ko.Told kInt 2 w e w' (xs.map fun x => min x p.amount) := by
  obtain ⟨w1, hw1⟩ : ∃ w1, w.alloc (.cells #[.string p.id, .int .i64 p.kind, .int .i64 p.priority, .string p.group, .string p.code, .bool p.closes, .slice l.scope.skus.A l.scope.skus.n l.scope.skus.c, .slice l.scope.cats.A l.scope.cats.n l.scope.cats.c, .int .i64 p.least, .int .i64 p.rate, .int .i64 p.amount, .int .i64 p.buy, .int .i64 p.get, .slice l.parts.A l.parts.n l.parts.c, .slice l.tiers.A l.tiers.n l.tiers.c, .slice A n c] 58) = w1 := ⟨_, rfl⟩
  have hb1 : Below w.heap.size w w1 := by rw [← hw1]; exact (Below.refl _ _).alloc (Nat.le_refl _) _
  have hx : Qu.Blk w1 w.heap.size 58 #[.string p.id, .int .i64 p.kind, .int .i64 p.priority, .string p.group, .string p.code, .bool p.closes, .slice l.scope.skus.A l.scope.skus.n l.scope.skus.c, .slice l.scope.cats.A l.scope.cats.n l.scope.cats.c, .int .i64 p.least, .int .i64 p.rate, .int .i64 p.amount, .int .i64 p.buy, .int .i64 p.get, .slice l.parts.A l.parts.n l.parts.c, .slice l.tiers.A l.tiers.n l.tiers.c, .slice A n c] := by rw [← hw1]; exact Qu.Blk.new w _ _
  have x0 := hx.cell 0
  have x1 := hx.cell 1
  have x2 := hx.cell 2
  have x3 := hx.cell 3
  have x4 := hx.cell 4
  have x5 := hx.cell 5
  have x6 := hx.cell 6
  have x7 := hx.cell 7
  have x8 := hx.cell 8
  have x9 := hx.cell 9
  have x10 := hx.cell 10
  have x11 := hx.cell 11
  have x12 := hx.cell 12
  have x13 := hx.cell 13
  have x14 := hx.cell 14
  have x15 := hx.cell 15
  have HE := Lib.hid (each_amt (fun x => min x p.amount) p l w.heap.size A n c xs w1 (row_on h hb1) hn (fun W x hb _ => amtF_any x _ _ W ((hb.cell (p := ⟨w.heap.size, 10, none⟩) hx.lt).trans (hx.cell 10))) (fun x hm => by
    obtain ⟨k, hk, e⟩ := List.mem_iff_getElem.1 hm
    obtain ⟨g, o, _, _, _, hok, _⟩ := row_int h (k := k) (x := x) (by rw [List.getElem?_eq_getElem hk, e])
    have h9 : -9223372036854775808 ≤ x ∧ x ≤ 9223372036854775807 := hok
    have := halfN_ok x p.rate
    show -9223372036854775808 ≤ min x p.amount ∧ min x p.amount ≤ 9223372036854775807
    omega))
  have HB := Lib.hid hb1
  have HLen : Hid ((xs.map fun x => min x p.amount).length = (xs.map fun x => min x p.amount).length) := Lib.hid rfl
  obtain ⟨ys, hys⟩ : ∃ ys, (xs.map fun x => min x p.amount) = ys := ⟨_, rfl⟩
  rw [hys] at HE
  have HY := Lib.hid hys
  clear h hb1 hx hys HLen
  go_enter Try.func19, Try.ntmps19
  go_wp2_with fail
  refine HE.out.mono ?_
  rintro e w2 ⟨A2, c2, rfl, ho, hb2⟩
  have HO := Lib.hid (And.intro (own_down ho HB.out.size) (HB.out.trans (hb2.mono HB.out.size)))
  clear ho hb2
  go_wp2
  go_ret
  rw [HY.out]
  exact ⟨A2, c2, rfl, HO.out.1, HO.out.2⟩
set_option maxHeartbeats 1000000 in
theorem count_any (p : Prm) (l : Prm.Lay) (A : Option Addr) (n c : Nat) (xs : List Int) (w : World) (hta : 0 ≤ (tierOf (n : Int) p.tiers).amount ∧ (tierOf (n : Int) p.tiers).amount ≤ 10000000000000) (hT : Row kTir w (· < w.heap.size) l.tiers.A l.tiers.n p.tiers) (hTn : l.tiers.n ≤ 1000000000000) (h : Row kInt w (· < w.heap.size) A n xs) (hn : n ≤ 100000) :
    Calls Try.prog 21 #[.agg #[.string p.id, .int .i64 p.kind, .int .i64 p.priority, .string p.group, .string p.code, .bool p.closes, .slice l.scope.skus.A l.scope.skus.n l.scope.skus.c, .slice l.scope.cats.A l.scope.cats.n l.scope.cats.c, .int .i64 p.least, .int .i64 p.rate, .int .i64 p.amount, .int .i64 p.buy, .int .i64 p.get, .slice l.parts.A l.parts.n l.parts.c, .slice l.tiers.A l.tiers.n l.tiers.c, .slice A n c]] w fun e w' => Ko.Told kInt 2 w e w' (xs.map fun x => min x (halfN x (tierOf (n : Int) p.tiers).rate + (tierOf (n : Int) p.tiers).amount)) := by
  obtain ⟨w1, hw1⟩ : ∃ w1, w.alloc (.cells #[.string p.id, .int .i64 p.kind, .int .i64 p.priority, .string p.group, .string p.code, .bool p.closes, .slice l.scope.skus.A l.scope.skus.n l.scope.skus.c, .slice l.scope.cats.A l.scope.cats.n l.scope.cats.c, .int .i64 p.least, .int .i64 p.rate, .int .i64 p.amount, .int .i64 p.buy, .int .i64 p.get, .slice l.parts.A l.parts.n l.parts.c, .slice l.tiers.A l.tiers.n l.tiers.c, .slice A n c] 58) = w1 := ⟨_, rfl⟩
  have hb1 : Below w.heap.size w w1 := by rw [← hw1]; exact (Below.refl _ _).alloc (Nat.le_refl _) _
  have hx : Qu.Blk w1 w.heap.size 58 #[.string p.id, .int .i64 p.kind, .int .i64 p.priority, .string p.group, .string p.code, .bool p.closes, .slice l.scope.skus.A l.scope.skus.n l.scope.skus.c, .slice l.scope.cats.A l.scope.cats.n l.scope.cats.c, .int .i64 p.least, .int .i64 p.rate, .int .i64 p.amount, .int .i64 p.buy, .int .i64 p.get, .slice l.parts.A l.parts.n l.parts.c, .slice l.tiers.A l.tiers.n l.tiers.c, .slice A n c] := by rw [← hw1]; exact Qu.Blk.new w _ _
  have x0 := hx.cell 0
  have x1 := hx.cell 1
  have x2 := hx.cell 2
  have x3 := hx.cell 3
  have x4 := hx.cell 4
  have x5 := hx.cell 5
  have x6 := hx.cell 6
  have x7 := hx.cell 7
  have x8 := hx.cell 8
  have x9 := hx.cell 9
  have x10 := hx.cell 10
  have x11 := hx.cell 11
  have x12 := hx.cell 12
  have x13 := hx.cell 13
  have x14 := hx.cell 14
  have x15 := hx.cell 15
  have HR := lreached_any l.tiers.A l.tiers.n l.tiers.c p.tiers ((n : Int)) w1 (row_on hT hb1) hTn
  unfold tierPair at HR
  obtain ⟨ls, hls⟩ : ∃ z, (tierOf ((n : Int)) p.tiers).least = z := ⟨_, rfl⟩
  obtain ⟨r, hr⟩ : ∃ z, (tierOf ((n : Int)) p.tiers).rate = z := ⟨_, rfl⟩
  obtain ⟨am, ham⟩ : ∃ z, (tierOf ((n : Int)) p.tiers).amount = z := ⟨_, rfl⟩
  obtain ⟨sm, hsm⟩ : ∃ z, (reached ((n : Int)) p.tiers).isSome = z := ⟨_, rfl⟩
  rw [hls, hr, ham, hsm] at HR
  rw [ham] at hta
  have HRe := Lib.hid HR
  have HX := Lib.hid (And.intro hx hb1)
  have HQ1 := Lib.hid (row_on h hb1)
  have HTa := Lib.hid hta
  have HRo := Lib.hid h
  have HE0 : Hid ((xs.map fun x => min x (halfN x (tierOf (n : Int) p.tiers).rate + (tierOf (n : Int) p.tiers).amount)) = xs.map fun x => min x (halfN x r + am)) := Lib.hid (by rw [hr, ham])
  clear h hb1 hx hT hls hr ham hsm hta HR
  go_enter Try.func21, Try.ntmps21
  go_wp2_with (first
    | (go_at_call 16; with_reducible refine HRe.out.mono ?_; rintro e wz ⟨rfl, hbz⟩; obtain ⟨W2, hW2⟩ : ∃ W2, wz.alloc (.cells #[.int .i64 ls, .int .i64 r, .int .i64 am] 48) = W2 := ⟨_, rfl⟩; have hb2 : Below w1.heap.size w1 W2 := (by rw [← hW2]; exact hbz.alloc hbz.size _); have hx2 : Qu.Blk W2 wz.heap.size 48 #[.int .i64 ls, .int .i64 r, .int .i64 am] := (by rw [← hW2]; exact Qu.Blk.new wz _ _); have HX2 := Lib.hid (And.intro hx2 hb2); clear hbz hx2 hb2; have hk2 : ∀ i, i < 16 → W2.cell? ⟨w.heap.size, i, none⟩ = w1.cell? ⟨w.heap.size, i, none⟩ := (fun i _ => HX2.out.2.cell (p := ⟨w.heap.size, i, none⟩) HX.out.1.lt); have y0 := (hk2 0 (by omega)).trans x0; have y1 := (hk2 1 (by omega)).trans x1; have y2 := (hk2 2 (by omega)).trans x2; have y3 := (hk2 3 (by omega)).trans x3; have y4 := (hk2 4 (by omega)).trans x4; have y5 := (hk2 5 (by omega)).trans x5; have y6 := (hk2 6 (by omega)).trans x6; have y7 := (hk2 7 (by omega)).trans x7; have y8 := (hk2 8 (by omega)).trans x8; have y9 := (hk2 9 (by omega)).trans x9; have y10 := (hk2 10 (by omega)).trans x10; have y11 := (hk2 11 (by omega)).trans x11; have y12 := (hk2 12 (by omega)).trans x12; have y13 := (hk2 13 (by omega)).trans x13; have y14 := (hk2 14 (by omega)).trans x14; have y15 := (hk2 15 (by omega)).trans x15; clear hk2)
    | (go_at_call 34; fail))
  clear hW2
  obtain ⟨bz, hbz⟩ : ∃ b, wz.heap.size = b := ⟨_, rfl⟩
  rw [hbz] at HX2
  simp only [hbz]
  clear hbz
  have HE := Lib.hid (each_cnt (fun x => min x (halfN x r + am)) p l bz A n c xs W2 (row_on HQ1.out HX2.out.2) hn (fun W x hb _ => cntF_any x ls r am bz W ((hb.cell (p := ⟨bz, 0, none⟩) HX2.out.1.lt).trans (HX2.out.1.cell 0)) ((hb.cell (p := ⟨bz, 1, none⟩) HX2.out.1.lt).trans (HX2.out.1.cell 1)) ((hb.cell (p := ⟨bz, 2, none⟩) HX2.out.1.lt).trans (HX2.out.1.cell 2)) (by have := halfN_ok x r; have := HTa.out; omega)) (fun x hm => by
    obtain ⟨k, hk, e⟩ := List.mem_iff_getElem.1 hm
    obtain ⟨g, o, _, _, _, hok, _⟩ := row_int HRo.out (k := k) (x := x) (by rw [List.getElem?_eq_getElem hk, e])
    have h9 : -9223372036854775808 ≤ x ∧ x ≤ 9223372036854775807 := hok
    have := halfN_ok x r
    have := HTa.out
    show -9223372036854775808 ≤ min x (halfN x r + am) ∧ min x (halfN x r + am) ≤ 9223372036854775807
    omega))
  have HB := Lib.hid (HX.out.2.trans (HX2.out.2.mono HX.out.2.size))
  obtain ⟨ys, hys⟩ : ∃ ys, (xs.map fun x => min x (halfN x r + am)) = ys := ⟨_, rfl⟩
  rw [hys] at HE HE0
  clear hys
  go_wp2_with fail
  refine HE.out.mono ?_
  rintro e w2 ⟨A2, c2, rfl, ho, hb2⟩
  have HO := Lib.hid (And.intro (own_down ho HB.out.size) (HB.out.trans (hb2.mono HB.out.size)))
  clear ho hb2
  go_wp2
  go_ret
  rw [HE0.out]
  exact ⟨A2, c2, rfl, HO.out.1, HO.out.2⟩
set_option maxHeartbeats 4000000 in
theorem spend_any (p : Prm) (l : Prm.Lay) (A : Option Addr) (n c : Nat) (xs : List Int) (w : World) (hta : 0 ≤ (tierOf (sumL xs) p.tiers).amount ∧ (tierOf (sumL xs) p.tiers).amount ≤ 10000000000000) (hT : Row kTir w (· < w.heap.size) l.tiers.A l.tiers.n p.tiers) (hTn : l.tiers.n ≤ 1000000000000) (h : Row kInt w (· < w.heap.size) A n xs) (hn : NetsOk xs) :
    Calls Try.prog 20 #[.agg #[.string p.id, .int .i64 p.kind, .int .i64 p.priority, .string p.group, .string p.code, .bool p.closes, .slice l.scope.skus.A l.scope.skus.n l.scope.skus.c, .slice l.scope.cats.A l.scope.cats.n l.scope.cats.c, .int .i64 p.least, .int .i64 p.rate, .int .i64 p.amount, .int .i64 p.buy, .int .i64 p.get, .slice l.parts.A l.parts.n l.parts.c, .slice l.tiers.A l.tiers.n l.tiers.c, .slice A n c]] w fun e w' => ReadT w e w' (Sh.largR (min (sumL xs) (halfN (sumL xs) (tierOf (sumL xs) p.tiers).rate + (tierOf (sumL xs) p.tiers).amount)) (nth xs) xs.length).1 := by
  obtain ⟨w1, hw1⟩ : ∃ w1, w.alloc (.cells #[.string p.id, .int .i64 p.kind, .int .i64 p.priority, .string p.group, .string p.code, .bool p.closes, .slice l.scope.skus.A l.scope.skus.n l.scope.skus.c, .slice l.scope.cats.A l.scope.cats.n l.scope.cats.c, .int .i64 p.least, .int .i64 p.rate, .int .i64 p.amount, .int .i64 p.buy, .int .i64 p.get, .slice l.parts.A l.parts.n l.parts.c, .slice l.tiers.A l.tiers.n l.tiers.c, .slice A n c] 58) = w1 := ⟨_, rfl⟩
  have hb1 : Below w.heap.size w w1 := by rw [← hw1]; exact (Below.refl _ _).alloc (Nat.le_refl _) _
  have hx : Qu.Blk w1 w.heap.size 58 #[.string p.id, .int .i64 p.kind, .int .i64 p.priority, .string p.group, .string p.code, .bool p.closes, .slice l.scope.skus.A l.scope.skus.n l.scope.skus.c, .slice l.scope.cats.A l.scope.cats.n l.scope.cats.c, .int .i64 p.least, .int .i64 p.rate, .int .i64 p.amount, .int .i64 p.buy, .int .i64 p.get, .slice l.parts.A l.parts.n l.parts.c, .slice l.tiers.A l.tiers.n l.tiers.c, .slice A n c] := by rw [← hw1]; exact Qu.Blk.new w _ _
  have hS0 := hn.sums.2
  have hST := hn.total
  have hnl := h.len
  have hn5 : n ≤ 100000 := by rw [← hnl]; exact hn.few
  have HS1 := Lib.hid (fun W (hb : Below w1.heap.size w1 W) => lsum_any A n c xs _ W (row_on (row_on h hb1) hb) (by omega) hn.sums.1)
  have HR := lreached_any l.tiers.A l.tiers.n l.tiers.c p.tiers (sumL xs) w1 (row_on hT hb1) hTn
  unfold tierPair at HR
  obtain ⟨ls, hls⟩ : ∃ z, (tierOf (sumL xs) p.tiers).least = z := ⟨_, rfl⟩
  obtain ⟨r, hr⟩ : ∃ z, (tierOf (sumL xs) p.tiers).rate = z := ⟨_, rfl⟩
  obtain ⟨am, ham⟩ : ∃ z, (tierOf (sumL xs) p.tiers).amount = z := ⟨_, rfl⟩
  obtain ⟨sm, hsm⟩ : ∃ z, (reached (sumL xs) p.tiers).isSome = z := ⟨_, rfl⟩
  obtain ⟨S, hS⟩ : ∃ z, sumL xs = z := ⟨_, rfl⟩
  rw [hls, hr, ham, hsm, hS] at HR
  simp only [hS] at HS1
  rw [ham] at hta
  rw [hS] at hS0 hST
  have hh0 := halfN_ok S r
  have HH := Lib.hid (fun W => byTier_any S ls r am W (by omega))
  obtain ⟨t, ht⟩ : ∃ v, min S (halfN S r + am) = v := ⟨_, rfl⟩
  simp only [ht] at HH
  have ht0 : 0 ≤ t := by omega
  have htS : t ≤ S := by omega
  have hfine := spend_fine hn ht0 (by rw [hS]; exact htS)
  obtain ⟨Lg, hLg⟩ : ∃ z, (Sh.largR t (nth xs) n).1 = z := ⟨_, rfl⟩
  obtain ⟨er, her⟩ : ∃ z, (Sh.largR t (nth xs) n).2 = z := ⟨_, rfl⟩
  have HE : Hid ((Sh.largR (min (sumL xs) (halfN (sumL xs) (tierOf (sumL xs) p.tiers).rate + (tierOf (sumL xs) p.tiers).amount)) (nth xs) xs.length).1 = Lg) := Lib.hid (by rw [hr, ham, hS, ht, hnl]; exact hLg)
  rw [hnl, hLg] at hfine
  have HLr : Hid (∀ (k : Nat) (x : Int), Lg[k]? = some x → -9223372036854775808 ≤ x ∧ x ≤ 9223372036854775807) := Lib.hid fun k o ho => by
    have hl : k < xs.length := by rw [← hfine.1.1]; exact (List.getElem?_eq_some_iff.1 ho).1
    have e := List.getElem?_eq_getElem hl
    have h1 := hfine.1.2 k o _ ho e
    have h2 := hn.each k _ e
    omega
  have hsf : Sh.sumF (nth xs) n = S := by rw [← hS, sumF_nth xs n (by rw [hnl]; exact Nat.le_refl _), List.take_of_length_le (by rw [hnl]; exact Nat.le_refl _)]
  have hfe : ∀ k, k < n → 0 ≤ nth xs k ∧ nth xs k ≤ 100000000000000 := fun k hk => by
    have e := List.getElem?_eq_getElem (show k < xs.length by rw [hnl]; exact hk)
    rw [nth_some e]
    have := hn.each k _ e
    omega
  have HG1 := fun (w0 W : World) (hq : Row kInt w0 (· < w0.heap.size) A n xs) (hb : Below w0.heap.size w0 W) => largestT_any t A n c (nth xs) W (ints_row (row_on hq hb)) ⟨ht0, by omega⟩ hn5 hfe (by rw [hsf]; omega) (by rw [hsf]; exact htS)
  unfold GaveT at HG1
  simp only [hLg, her] at HG1
  have HG2 := Lib.hid HG1
  have HRe := Lib.hid HR
  have HX := Lib.hid (And.intro hx hb1)
  have HQ1 := Lib.hid (row_on h hb1)
  clear hsf hfe
  have x14 := hx.cell 14
  have x15 := hx.cell 15
  clear hb1 hx h hT hls hr ham hsm hta HR hS ht hfine hLg her HG1 hh0 hnl hn hS0 hST ht0 htS
  go_enter Try.func20, Try.ntmps20
  go_wp2_with (first
    | (go_at_call 25; with_reducible refine (HS1.out _ (Below.refl _ _)).mono ?_; rintro e wz ⟨rfl, hw⟩; obtain rfl := hw)
    | (go_at_call 16; with_reducible refine HRe.out.mono ?_; rintro e wz ⟨rfl, hbz⟩; obtain ⟨W2, hW2⟩ : ∃ W2, wz.alloc (.cells #[.int .i64 ls, .int .i64 r, .int .i64 am] 48) = W2 := ⟨_, rfl⟩; have hb2 : Below w1.heap.size w1 W2 := (by rw [← hW2]; exact hbz.alloc hbz.size _); have hx2 : Qu.Blk W2 wz.heap.size 48 #[.int .i64 ls, .int .i64 r, .int .i64 am] := (by rw [← hW2]; exact Qu.Blk.new wz _ _); have HX2 := Lib.hid (And.intro hx2 hb2); clear hbz hx2 hb2))
  clear hW2
  obtain ⟨bz, hbz⟩ : ∃ b, wz.heap.size = b := ⟨_, rfl⟩
  rw [hbz] at HX2
  simp only [hbz]
  clear hbz
  have z0 := HX2.out.1.cell 0
  have z1 := HX2.out.1.cell 1
  have z2 := HX2.out.1.cell 2
  have hlt2 := HX2.out.1.lt
  have hltx := HX.out.1.lt
  have c0 : ∀ u, Below W2.heap.size W2 u → u.cell? ⟨bz, 0, none⟩ = some (.int .i64 ls) := fun u hu => (hu.cell (p := ⟨bz, _, none⟩) hlt2).trans z0
  have c1 : ∀ u, Below W2.heap.size W2 u → u.cell? ⟨bz, 1, none⟩ = some (.int .i64 r) := fun u hu => (hu.cell (p := ⟨bz, _, none⟩) hlt2).trans z1
  have c2 : ∀ u, Below W2.heap.size W2 u → u.cell? ⟨bz, 2, none⟩ = some (.int .i64 am) := fun u hu => (hu.cell (p := ⟨bz, _, none⟩) hlt2).trans z2
  have c15 : ∀ u, Below W2.heap.size W2 u → u.cell? ⟨w.heap.size, 15, none⟩ = some (.slice A n c) := fun u hu => (hu.cell (p := ⟨w.heap.size, _, none⟩) (Nat.lt_of_lt_of_le hltx HX2.out.2.size)).trans ((HX2.out.2.cell (p := ⟨w.heap.size, _, none⟩) hltx).trans x15)
  have HB := Lib.hid (HX.out.2.trans (HX2.out.2.mono HX.out.2.size))
  have HG := Lib.hid (fun W (hb : Below W2.heap.size W2 W) => HG2.out W2 W (row_on HQ1.out HX2.out.2) hb)
  clear z0 z1 z2 hltx x14 x15
  refine wp_region_held_drew (S := fun u => Below W2.heap.size W2 u) (by kernel_rfl) ((Below.refl _ _).drew) (fun hS0 => ?_)
  refine pkT 0 20 hS0 ?_
  try simp only [Act.put, pkA, pkB, pkC]
  refine pkT 1 21 hS0 ?_
  try simp only [Act.put, pkA, pkB, pkC]
  refine pkT 3 23 hS0 ?_
  try simp only [Act.put, pkA, pkB, pkC]
  refine pkT 4 24 hS0 ?_
  try simp only [Act.put, pkA, pkB, pkC]
  refine wpAnyH_ready (rs := [2]) (by kernel_rfl) (by simp) ?_
  refine AllReadyH.cons (o := ⟨some 22, _, _, _, _, _⟩) rfl (fun K hK => ?_) AllReadyH.nil
  go_simp
  refine (HH.out _).mono ?_
  rintro e wa ⟨rfl, hba⟩
  have hya : Below W2.heap.size W2 wa := (Below.trans hS0 (hba.mono (Below.size hS0)))
  go_wp2_with fail
  refine hK.out _ _ (hya) (fun hS1 => ?_)
  clear hK K
  try simp only [Act.put, pkA, pkB, pkC]
  refine wpAnyH_ready (rs := [5]) (by kernel_rfl) (by simp) ?_
  refine AllReadyH.cons (o := ⟨some 25, _, _, _, _, _⟩) rfl (fun K hK => ?_) AllReadyH.nil
  go_simp
  refine (HG.out _ hya).mono ?_
  rintro e wb ⟨A5, c5, rfl, hin, hbb, hty⟩
  have hyb : Below W2.heap.size W2 wb := hya.trans (hbb.mono hya.size)
  go_wp2_with fail
  refine hK.out _ _ (hyb) (fun hS2 => ?_)
  clear hK K
  try simp only [Act.put, pkA, pkB, pkC]
  refine pkT 6 19 hS2 ?_
  try simp only [Act.put, pkA, pkB, pkC]
  refine pkT 7 26 hS2 ?_
  try simp only [Act.put, pkA, pkB, pkC]
  refine pkT 8 27 hS2 ?_
  try simp only [Act.put, pkA, pkB, pkC]
  refine pkT 9 6 hS2 ?_
  try simp only [Act.put, pkA, pkB, pkC]
  refine pkT 10 7 hS2 ?_
  try simp only [Act.put, pkA, pkB, pkC]
  refine wpAnyH_done (by kernel_rfl) ?_ _
  have HI := Lib.hid (And.intro hin (And.intro (HB.out.trans (hyb.mono HB.out.size)) hty))
  clear hin hba hbb hyb hya hty
  go_wp2_with fail
  go_ret
  exact readT_ints HI.out.1 HLr.out HI.out.2.1 HI.out.2.2 HE.out
end Go.Proofs.Ytacmoanhbkipfaa.Ct
