/- The landed All. · The landed rules: the policy, and Right. (made by wip/gen-rules13.py) -/
import Derived.Test.YtfcmhgneijipgaaGreatPk14
import Derived.Test.YtfcmhgneijipgaaGreatPk19
import Derived.Test.YtfcmhgneijipgaaGreatPk8
import Derived.Test.YtfcmhgneijipgaaGreatPk9

section
set_option maxRecDepth 100000
set_option linter.unusedVariables false
namespace Go.Proofs.YtfcmhgneijipgaaGreat.Pm
open Go.ChangeShapes Go.WideShapes Go.ChangeAt Go.RowKit
open Ap (Scp Prt Tir Prm kPrm row_Prm)
open Kd (Row Lst kStr)
open Pr (promoB PrmSmall PartsSmall)
open Sc (hasB)
set_option maxHeartbeats 1000000 in
theorem wrong_any (p : Prm) (l : Prm.Lay) (w : World) (h : Ap.Prm.Holds w (· < w.heap.size) p l) (hS : PrmSmall p l) :
    Calls Tryz.prog 71 #[.agg #[.string p.id, .int .i64 p.kind, .int .i64 p.priority, .string p.group, .string p.code, .bool p.closes, .slice l.scope.skus.A l.scope.skus.n l.scope.skus.c, .slice l.scope.cats.A l.scope.cats.n l.scope.cats.c, .int .i64 p.least, .int .i64 p.rate, .int .i64 p.amount, .int .i64 p.buy, .int .i64 p.get, .slice l.parts.A l.parts.n l.parts.c, .slice l.tiers.A l.tiers.n l.tiers.c]] w fun e w' => e = .returned (.bool (!promoB p)) ∧ Below w.heap.size w w' := by
  obtain ⟨w1, hw1⟩ : ∃ w1, w.alloc (.cells #[.string p.id, .int .i64 p.kind, .int .i64 p.priority, .string p.group, .string p.code, .bool p.closes, .slice l.scope.skus.A l.scope.skus.n l.scope.skus.c, .slice l.scope.cats.A l.scope.cats.n l.scope.cats.c, .int .i64 p.least, .int .i64 p.rate, .int .i64 p.amount, .int .i64 p.buy, .int .i64 p.get, .slice l.parts.A l.parts.n l.parts.c, .slice l.tiers.A l.tiers.n l.tiers.c] 51) = w1 := ⟨_, rfl⟩
  have hx : Qu.Blk w1 w.heap.size 51 #[.string p.id, .int .i64 p.kind, .int .i64 p.priority, .string p.group, .string p.code, .bool p.closes, .slice l.scope.skus.A l.scope.skus.n l.scope.skus.c, .slice l.scope.cats.A l.scope.cats.n l.scope.cats.c, .int .i64 p.least, .int .i64 p.rate, .int .i64 p.amount, .int .i64 p.buy, .int .i64 p.get, .slice l.parts.A l.parts.n l.parts.c, .slice l.tiers.A l.tiers.n l.tiers.c] := by rw [← hw1]; exact Qu.Blk.new w _ _
  have hb1 : Below w.heap.size w w1 := by rw [← hw1]; exact (Below.refl _ _).alloc (Nat.le_refl _) _
  have HP := Lib.hid (promo_any p l w1 (Pr.holds_later h hb1) hS)
  have HB := Lib.hid hb1
  have x0 := hx.cell 0
  have x1 := hx.cell 1
  have x2 := hx.cell 2
  have x3 := hx.cell 3
  have x4 := hx.cell 4
  have x5 := hx.cell 5
  have x6 := hx.cell 6
  have x7 := hx.cell 7
  have x8 := hx.cell 8
  have x9 := hx.cell 9
  have x10 := hx.cell 10
  have x11 := hx.cell 11
  have x12 := hx.cell 12
  have x13 := hx.cell 13
  have x14 := hx.cell 14
  obtain ⟨b, hb⟩ : ∃ b, promoB p = b := ⟨_, rfl⟩
  rw [hb] at HP ⊢
  clear hx hb1 h hS hb
  go_enter Tryz.func71, Tryz.ntmps71
  go_wp2_with fail
  refine HP.out.mono ?_
  rintro e w2 ⟨rfl, hb2⟩
  have HB2 := Lib.hid (HB.out.trans (hb2.mono HB.out.size))
  clear hb2
  go_wp2
  go_ret
  exact ⟨rfl, HB2.out⟩
set_option maxHeartbeats 2000000 in
theorem badIndex_any (A : Option Addr) (n c : Nat) (xs : List Prm) (w : World) (h : Row kPrm w (· < w.heap.size) A n xs) (hS : Slights xs) (hn : n ≤ 1000000000000) :
    Calls Tryz.prog 128 #[.slice A n c, .func (.func 71) #[] #[]] w fun e w' => (∃ r : Int, e = .returned (.int .i64 r) ∧ ((0 ≤ r ∧ ∃ (i : Nat) (x : Prm), xs[i]? = some x ∧ promoB x = false) ∨ (r = -1 ∧ ∀ (i : Nat) (x : Prm), xs[i]? = some x → promoB x = true))) ∧ Below w.heap.size w w' := by
  have HL := Lib.hid h.len
  have HR := Lib.hid (And.intro h hS)
  clear h hS
  go_enter Tryz.func128, Tryz.ntmps128
  go_wp2
  go_loopw [8] (fun s8 wr => ∃ k : Nat, s8 = .int .i64 k ∧ k ≤ n ∧ Hid (Below w.heap.size w wr ∧ ∀ (i : Nat) (x : Prm), i < k → xs[i]? = some x → promoB x = true)) (fun s8 _ => n - (intOf s8).toNat)
  case atStart => exact ⟨0, rfl, by omega, Lib.hid ⟨Below.refl _ _, fun i x hi => by omega⟩⟩
  case round =>
    obtain ⟨k, rfl, hk, HK⟩ := hrel
    by_cases hlt : k < n
    · obtain ⟨p, hx⟩ := HR.out.1.get hlt
      obtain ⟨g, o, l, rfl, _, _, hh, c0, c1, c2, c3, c4, c5, c6, c7, c8, c9, c10, c11, c12, c13, c14⟩ := row_Prm (HR.out.1.below HK.out.1 (Nat.le_refl _)) hx
      have k1 : (k : Int) < (n : Int) := by omega
      have k0 : (0 : Int) ≤ (k : Int) := by omega
      have hh2 : Ap.Prm.Holds wr (· < wr.heap.size) p l := by
        obtain ⟨i1, i2, i3, i4, i5, i6, i7, i8, i9, i10, i11, i12, i13⟩ := hh
        have hz := HK.out.1.size
        exact ⟨i1, i2, i3, i4, i5, ⟨i6.skus.more fun b hb => Nat.lt_of_lt_of_le hb hz, i6.cats.more fun b hb => Nat.lt_of_lt_of_le hb hz⟩, i7, i8, i9, i10, i11, i12.more fun b hb => Nat.lt_of_lt_of_le hb hz, i13.more fun b hb => Nat.lt_of_lt_of_le hb hz⟩
      have HC := Lib.hid (wrong_any p l wr hh2 ((HR.out.2 k p hx).small hh2))
      have HX := Lib.hid hx
      clear hx hh hh2
      cases hB : promoB p with
      | true =>
        rw [hB] at HC
        have HB := Lib.hid hB
        clear hB
        go_wp2_with fail
        refine HC.out.mono ?_
        rintro e w1 ⟨rfl, hb⟩
        have HK2 : Hid (Below w.heap.size w w1 ∧ ∀ (i : Nat) (x : Prm), i < k + 1 → xs[i]? = some x → promoB x = true) := Lib.hid ⟨HK.out.1.trans (hb.mono HK.out.1.size), fun i y hi hy => by
          rcases Nat.lt_or_ge i k with h1 | h1
          · exact HK.out.2 i y h1 hy
          · obtain rfl : i = k := by omega
            rw [HX.out] at hy
            injection hy with hy
            subst hy
            exact HB.out⟩
        clear hb
        go_wp2
        go_roundw
        case rel => exact ⟨k + 1, by go_num, by omega, HK2⟩
        case measure => simp [intOf]; omega
      | false =>
        rw [hB] at HC
        have HB := Lib.hid hB
        clear hB
        go_wp2_with fail
        refine HC.out.mono ?_
        rintro e w1 ⟨rfl, hb⟩
        have HK2 := Lib.hid (HK.out.1.trans (hb.mono HK.out.1.size))
        clear hb
        go_wp2
        go_ret
        exact ⟨⟨k, rfl, .inl ⟨by omega, k, p, HX.out, HB.out⟩⟩, HK2.out⟩
    · have k1 : ¬ (k : Int) < (n : Int) := by omega
      go_wp2
      go_ret
      exact ⟨⟨-1, rfl, .inr ⟨rfl, fun i x hx => HK.out.2 i x (by
        have := (List.getElem?_eq_some_iff.1 hx).1
        have := HL.out
        omega) hx⟩⟩, HK.out.1⟩
theorem anyBad_any (A : Option Addr) (n c : Nat) (xs : List Prm) (w : World) (h : Row kPrm w (· < w.heap.size) A n xs) (hS : Slights xs) (hn : n ≤ 1000000000000) :
    Calls Tryz.prog 70 #[.slice A n c, .func (.func 71) #[] #[]] w fun e w' => (∃ b : Bool, e = .returned (.bool b) ∧ (b = false ↔ ∀ (i : Nat) (x : Prm), xs[i]? = some x → promoB x = true)) ∧ Below w.heap.size w w' := by
  have HC := Lib.hid (badIndex_any A n c xs w h hS hn)
  clear h
  go_enter Tryz.func70, Tryz.ntmps70
  go_wp2_with fail
  refine HC.out.mono ?_
  rintro e w1 ⟨⟨r, rfl, hr⟩, hb⟩
  have HB := Lib.hid hb
  clear hb
  rcases hr with ⟨h0, i, x, hx, hi⟩ | ⟨rfl, hA⟩
  · have HX := Lib.hid (And.intro hx hi)
    clear hx hi
    go_wp2
    go_ret
    exact ⟨⟨true, rfl, by simp; exact ⟨i, x, HX.out.1, HX.out.2⟩⟩, HB.out⟩
  · have HX := Lib.hid hA
    clear hA
    go_wp2
    go_ret
    exact ⟨⟨false, rfl, by simp; exact HX.out⟩, HB.out⟩
/-! ### So many Ids, no two alike -/
theorem set_full (l : List ByteArray) : ∀ k, k ≤ l.length → Maps.size (setD (l.take k)) ≤ k ∧ (Maps.size (setD (l.take k)) = k ↔ ∀ (i j : Nat) (a b : ByteArray), i < j → j < k → l[i]? = some a → l[j]? = some b → a ≠ b)
  | 0, _ => ⟨by rw [List.take_zero]; exact Nat.le_refl _, by rw [List.take_zero]; exact ⟨fun _ i j a b _ h => by omega, fun _ => rfl⟩⟩
  | k + 1, hk => by
    obtain ⟨ih1, ih2⟩ := set_full l k (by omega)
    obtain ⟨s, hs⟩ : ∃ s, l[k]? = some s := ⟨_, List.getElem?_eq_getElem (by omega)⟩
    have e : l.take (k + 1) = l.take k ++ [s] := by rw [List.take_add_one, hs]; rfl
    rw [e, set_more]
    have hin : hasB (l.take k) s = true ↔ ∃ i, i < k ∧ l[i]? = some s := by
      rw [Sc.hasB_iff, List.mem_iff_getElem?]
      constructor
      · rintro ⟨i, hi⟩
        rw [List.getElem?_take] at hi
        split at hi
        · exact ⟨i, by assumption, hi⟩
        · cases hi
      · rintro ⟨i, h1, h2⟩
        exact ⟨i, by rw [List.getElem?_take, if_pos h1]; exact h2⟩
    cases hB : hasB (l.take k) s with
    | true =>
      rw [if_pos rfl]
      refine ⟨by omega, ⟨fun h => by omega, fun h => ?_⟩⟩
      obtain ⟨i, h1, h2⟩ := hin.1 hB
      exact absurd rfl (h i k s s h1 (by omega) h2 hs)
    | false =>
      rw [if_neg (by simp)]
      refine ⟨by omega, ⟨fun h i j a b h1 h2 h3 h4 => ?_, fun h => ?_⟩⟩
      · rcases Nat.lt_or_ge j k with h5 | h5
        · exact ih2.1 (by omega) i j a b h1 h5 h3 h4
        · obtain rfl : j = k := by omega
          rw [hs] at h4; injection h4 with h4; subst h4
          rintro rfl
          have := hin.2 ⟨i, h1, h3⟩
          rw [hB] at this; cases this
      · have := ih2.2 fun i j a b h1 h2 => h i j a b h1 (by omega)
        omega
theorem set_len {w : World} {b : Nat} {l : List ByteArray} (h : SetAt w b l) (ty : TypeId) : (Builtin.len_ #[97] ty #[.map (some b)]).run Tryz.prog w = .ok (.int .i64 (Maps.size (setD l))) w := World.ownsMap.len h Tryz.underlying97 ty
def ids (l : List Prm) : List ByteArray := l.map (·.id)
theorem ids_get {l : List Prm} {k : Nat} {p : Prm} (h : l[k]? = some p) : (ids l)[k]? = some p.id := by unfold ids; rw [List.getElem?_map, h]; rfl
theorem ids_of {l : List Prm} {k : Nat} {s : ByteArray} (h : (ids l)[k]? = some s) : ∃ p, l[k]? = some p ∧ p.id = s := by
  unfold ids at h
  rw [List.getElem?_map] at h
  cases hp : l[k]? with
  | none => rw [hp] at h; cases h
  | some p => rw [hp] at h; injection h with h; exact ⟨p, rfl, h⟩
set_option maxHeartbeats 4000000 in
theorem all_any (A : Option Addr) (n c : Nat) (xs : List Prm) (w : World) (h : Row kPrm w (· < w.heap.size) A n xs) (hS : Slights xs) (hn : n ≤ 1000000000) :
    Calls Tryz.prog 32 #[.slice A n c] w fun e w' => e = .returned (.bool (promosB xs)) ∧ Below w.heap.size w w' := by
  have hlen := h.len
  by_cases hm : 60 < n
  · have HG : Hid (promosB xs = false) := Lib.hid (promosB_no fun g => by have := g.few; omega)
    have k1 : (60 : Int) < (n : Int) := by omega
    clear h hlen hS
    go_enter Tryz.func32, Tryz.ntmps32
    go_wp2
    go_ret
    exact ⟨by rw [HG.out]; rfl, Below.refl _ _⟩
  · have k60 : ¬ (60 : Int) < (n : Int) := by omega
    have HR := Lib.hid (And.intro h hS)
    have HL := Lib.hid hlen
    have hmk := make_set
    have HS0 : Hid (SetAt (w.alloc (.map #[] 0)) w.heap.size ((ids xs).take 0) ∧ Below w.heap.size w (w.alloc (.map #[] 0))) := Lib.hid ⟨by simpa using SetAt.made w, (Below.refl _ _).alloc (Nat.le_refl _) _⟩
    clear h hlen hS
    go_enter Tryz.func32, Tryz.ntmps32
    go_wp2
    clear hmk
    go_loopw [14] (fun s14 wr => ∃ k : Nat, s14 = .int .i64 k ∧ k ≤ n ∧ Hid (SetAt wr w.heap.size ((ids xs).take k) ∧ Below w.heap.size w wr)) (fun s14 _ => n - (intOf s14).toNat)
    case atStart => exact ⟨0, rfl, Nat.zero_le _, HS0⟩
    case round =>
      obtain ⟨k, rfl, hk, HS⟩ := hrel
      clear HS0
      by_cases hlt : k < n
      · obtain ⟨p, hp⟩ := HR.out.1.get hlt
        obtain ⟨g, o, l, rfl, _, _, hh, c0, c1, c2, c3, c4, c5, c6, c7, c8, c9, c10, c11, c12, c13, c14⟩ := row_Prm (HR.out.1.below HS.out.2 (Nat.le_refl _)) hp
        have k1 : (k : Int) < (n : Int) := by omega
        have k0 : (0 : Int) ≤ (k : Int) := by omega
        obtain ⟨W1, hW1⟩ : ∃ W1, wr.alloc (.cells #[.string p.id, .int .i64 p.kind, .int .i64 p.priority, .string p.group, .string p.code, .bool p.closes, .slice l.scope.skus.A l.scope.skus.n l.scope.skus.c, .slice l.scope.cats.A l.scope.cats.n l.scope.cats.c, .int .i64 p.least, .int .i64 p.rate, .int .i64 p.amount, .int .i64 p.buy, .int .i64 p.get, .slice l.parts.A l.parts.n l.parts.c, .slice l.tiers.A l.tiers.n l.tiers.c] 51) = W1 := ⟨_, rfl⟩
        have hb1 : Below wr.heap.size wr W1 := by rw [← hW1]; exact (Below.refl _ _).alloc (Nat.le_refl _) _
        have hx : Qu.Blk W1 wr.heap.size 51 #[.string p.id, .int .i64 p.kind, .int .i64 p.priority, .string p.group, .string p.code, .bool p.closes, .slice l.scope.skus.A l.scope.skus.n l.scope.skus.c, .slice l.scope.cats.A l.scope.cats.n l.scope.cats.c, .int .i64 p.least, .int .i64 p.rate, .int .i64 p.amount, .int .i64 p.buy, .int .i64 p.get, .slice l.parts.A l.parts.n l.parts.c, .slice l.tiers.A l.tiers.n l.tiers.c] := by rw [← hW1]; exact Qu.Blk.new wr _ _
        have x0 := hx.cell 0
        obtain ⟨w3, hrun, hset, hgrow⟩ := (HS.out.1.below hb1).put (by simp; omega) hh.id
        have HN : Hid (SetAt w3 w.heap.size ((ids xs).take (k + 1)) ∧ Below w.heap.size w w3) := Lib.hid ⟨by rw [List.take_add_one, ids_get hp]; exact hset, (HS.out.2.trans (hb1.mono HS.out.2.size)).grown hgrow (by have := HS.out.2.size; have := hb1.size; omega) fun k hk => by injection hk with hk; omega⟩
        clear hp hh hset hgrow hx hb1
        go_wp2
        go_roundw
        case rel => exact ⟨k + 1, by go_num, by omega, HN⟩
        case measure => simp [intOf]; omega
      · obtain rfl : k = n := by omega
        have k1 : ¬ (k : Int) < (k : Int) := by omega
        have hfull := set_full (ids xs) k (by unfold ids; rw [List.length_map, HL.out]; exact Nat.le_refl _)
        have hsl := set_len HS.out.1
        obtain ⟨sz, hsz⟩ : ∃ sz, Maps.size (setD ((ids xs).take k)) = sz := ⟨_, rfl⟩
        rw [hsz] at hsl hfull
        have HC := Lib.hid (anyBad_any A k c xs wr ((HR.out.1.below HS.out.2 (Nat.le_refl _)).more fun b hb => Nat.lt_of_lt_of_le hb HS.out.2.size) HR.out.2 (by omega))
        have HB := Lib.hid HS.out.2
        have HFu := Lib.hid hfull.2
        clear HS hfull hsz
        by_cases he : sz = k
        · have b1 : ((sz : Int) == (k : Int)) = true := beq_iff_eq.2 (by omega)
          have HE := Lib.hid he
          clear he
          go_wp2_with fail
          refine HC.out.mono ?_
          rintro e w1 ⟨⟨b, rfl, hb⟩, hbb⟩
          have HB1 := Lib.hid (HB.out.trans (hbb.mono HB.out.size))
          have HG : Hid (promosB xs = !b) := Lib.hid (by
            have hl60 : xs.length ≤ 60 := by
              have := HL.out
              omega
            cases b with
            | true =>
              refine promosB_no fun g => ?_
              have h9 := hb.2 g.each
              cases h9
            | false =>
              refine promosB_yes ⟨hl60, hb.1 rfl, fun i j p q hij hp hq => ?_⟩
              have hj := (List.getElem?_eq_some_iff.1 hq).1
              have hl9 := HL.out
              exact HFu.out.1 HE.out i j _ _ hij (by omega) (ids_get hp) (ids_get hq))
          clear hb hbb
          go_wp2
          go_ret
          exact ⟨by rw [HG.out]; rfl, HB1.out⟩
        · have b1 : ((sz : Int) == (k : Int)) = false := beq_eq_false_iff_ne.2 (by omega)
          have HG : Hid (promosB xs = false) := Lib.hid (promosB_no fun g => he (HFu.out.2 fun i j a b hij hj ha hb => by
            obtain ⟨p, hp, rfl⟩ := ids_of ha
            obtain ⟨q, hq, rfl⟩ := ids_of hb
            exact g.apart i j p q hij hp hq))
          clear he
          go_wp2
          go_ret
          exact ⟨by rw [HG.out]; rfl, HB.out⟩
end Go.Proofs.YtfcmhgneijipgaaGreat.Pm

end

section
set_option maxRecDepth 100000
set_option linter.unusedVariables false
namespace Go.Proofs.YtfcmhgneijipgaaGreat.Ru
open Go.ChangeShapes Go.WideShapes Go.ChangeAt Go.RowKit
open Ap (CtR Zon Txs Shp Pol Rls kCtR kZon row_CtR row_Zon)
open Kd (Row Lst Sl Fit Agree kInt row_int)
noncomputable def polB (p : Pol) : Bool := (decide (0 ≤ p.window) && decide (p.window ≤ 100000)) && (decide (0 ≤ p.grace) && decide (p.grace ≤ 100000)) && (decide (1 ≤ p.mode) && decide (p.mode ≤ 3)) && (decide (0 ≤ p.restock) && decide (p.restock ≤ 10000)) && kindsB p.order && kindsB p.credit
set_option maxHeartbeats 4000000 in
theorem policyRight_any (x : Pol) (l : Pol.Lay) (w : World) (hh : Pol.Holds w (· < w.heap.size) x l) (hn : l.order.n ≤ 1000000000000) (hn2 : l.credit.n ≤ 1000000000000) :
    Calls Tryz.prog 34 #[.agg #[.int .i64 x.window, .int .i64 x.grace, .int .i64 x.mode, .int .i64 x.restock, .slice l.order.A l.order.n l.order.c, .slice l.credit.A l.credit.n l.credit.c]] w fun e w' => e = .returned (.bool (polB x)) ∧ Below w.heap.size w w' := by
  obtain ⟨W1, hW1⟩ : ∃ W1, w.alloc (.cells #[.int .i64 x.window, .int .i64 x.grace, .int .i64 x.mode, .int .i64 x.restock, .slice l.order.A l.order.n l.order.c, .slice l.credit.A l.credit.n l.credit.c] 31) = W1 := ⟨_, rfl⟩
  have hB : Below w.heap.size w W1 := by rw [← hW1]; exact (Below.refl _ _).alloc (Nat.le_refl _) _
  have hbx : Qu.Blk W1 w.heap.size 31 #[.int .i64 x.window, .int .i64 x.grace, .int .i64 x.mode, .int .i64 x.restock, .slice l.order.A l.order.n l.order.c, .slice l.credit.A l.credit.n l.credit.c] := by rw [← hW1]; exact Qu.Blk.new w _ _
  have HO0 : Hid (∀ W, Below W1.heap.size W1 W → Calls Tryz.prog 39 #[.int .i64 x.window, .int .i64 0, .int .i64 100000] W fun e w' => e = .returned (.bool (Pm.inR x.window 0 100000)) ∧ Below W1.heap.size W1 w') := Lib.hid fun W hW =>
    (within_any x.window 0 100000 W).mono fun e w' he => ⟨he.1, Hk.andThen hW (by first | exact he.2 | (rw [he.2]; exact Below.refl _ _))⟩
  have HO1 : Hid (∀ W, Below W1.heap.size W1 W → Calls Tryz.prog 39 #[.int .i64 x.grace, .int .i64 0, .int .i64 100000] W fun e w' => e = .returned (.bool (Pm.inR x.grace 0 100000)) ∧ Below W1.heap.size W1 w') := Lib.hid fun W hW =>
    (within_any x.grace 0 100000 W).mono fun e w' he => ⟨he.1, Hk.andThen hW (by first | exact he.2 | (rw [he.2]; exact Below.refl _ _))⟩
  have HO2 : Hid (∀ W, Below W1.heap.size W1 W → Calls Tryz.prog 39 #[.int .i64 x.mode, .int .i64 1, .int .i64 3] W fun e w' => e = .returned (.bool (Pm.inR x.mode 1 3)) ∧ Below W1.heap.size W1 w') := Lib.hid fun W hW =>
    (within_any x.mode 1 3 W).mono fun e w' he => ⟨he.1, Hk.andThen hW (by first | exact he.2 | (rw [he.2]; exact Below.refl _ _))⟩
  have HO3 : Hid (∀ W, Below W1.heap.size W1 W → Calls Tryz.prog 73 #[.int .i64 x.restock] W fun e w' => e = .returned (.bool (inB x.restock 10000)) ∧ Below W1.heap.size W1 w') := Lib.hid fun W hW =>
    (rateRight_any x.restock W).mono fun e w' he => ⟨he.1, Hk.andThen hW (by first | exact he.2 | (rw [he.2]; exact Below.refl _ _))⟩
  have HO4 : Hid (∀ W, Below W1.heap.size W1 W → Calls Tryz.prog 74 #[.slice l.order.A l.order.n l.order.c] W fun e w' => e = .returned (.bool (kindsB x.order)) ∧ Below W1.heap.size W1 w') := Lib.hid fun W hW =>
    (kindsRight_any l.order.A l.order.n l.order.c x.order W (hh.order.row.below (Below.trans hB (hW.mono hB.size)) (Nat.le_refl _) |>.more fun b hb => Nat.lt_of_lt_of_le hb (Nat.le_trans hB.size hW.size)) hn).mono fun e w' he => ⟨he.1, Hk.andThen hW (by first | exact he.2 | (rw [he.2]; exact Below.refl _ _))⟩
  have HO5 : Hid (∀ W, Below W1.heap.size W1 W → Calls Tryz.prog 74 #[.slice l.credit.A l.credit.n l.credit.c] W fun e w' => e = .returned (.bool (kindsB x.credit)) ∧ Below W1.heap.size W1 w') := Lib.hid fun W hW =>
    (kindsRight_any l.credit.A l.credit.n l.credit.c x.credit W (hh.credit.row.below (Below.trans hB (hW.mono hB.size)) (Nat.le_refl _) |>.more fun b hb => Nat.lt_of_lt_of_le hb (Nat.le_trans hB.size hW.size)) hn2).mono fun e w' he => ⟨he.1, Hk.andThen hW (by first | exact he.2 | (rw [he.2]; exact Below.refl _ _))⟩
  have x0 := hbx.cell 0
  have x1 := hbx.cell 1
  have x2 := hbx.cell 2
  have x3 := hbx.cell 3
  have x4 := hbx.cell 4
  have x5 := hbx.cell 5
  have HB := Lib.hid (And.intro hB hbx)
  have HZ : Hid ((polB x) = (Pm.inR x.window 0 100000 && Pm.inR x.grace 0 100000 && Pm.inR x.mode 1 3 && inB x.restock 10000 && kindsB x.order && kindsB x.credit)) := Lib.hid (by rfl)
  obtain ⟨v0, hv0⟩ : ∃ b, (Pm.inR x.window 0 100000) = b := ⟨_, rfl⟩
  simp only [hv0] at HO0 HZ
  obtain ⟨v1, hv1⟩ : ∃ b, (Pm.inR x.grace 0 100000) = b := ⟨_, rfl⟩
  simp only [hv1] at HO1 HZ
  obtain ⟨v2, hv2⟩ : ∃ b, (Pm.inR x.mode 1 3) = b := ⟨_, rfl⟩
  simp only [hv2] at HO2 HZ
  obtain ⟨v3, hv3⟩ : ∃ b, (inB x.restock 10000) = b := ⟨_, rfl⟩
  simp only [hv3] at HO3 HZ
  obtain ⟨v4, hv4⟩ : ∃ b, (kindsB x.order) = b := ⟨_, rfl⟩
  simp only [hv4] at HO4 HZ
  obtain ⟨v5, hv5⟩ : ∃ b, (kindsB x.credit) = b := ⟨_, rfl⟩
  simp only [hv5] at HO5 HZ
  clear hv0 hv1 hv2 hv3 hv4 hv5 hbx hB hh
  go_enter Tryz.func34, Tryz.ntmps34
  go_wp2_with fail
  refine (HO0.out _ (Below.refl _ _)).mono ?_
  rintro e wz0 ⟨rfl, hz0⟩
  have x0 := (HB.out.2.below hz0).cell 0
  have x1 := (HB.out.2.below hz0).cell 1
  have x2 := (HB.out.2.below hz0).cell 2
  have x3 := (HB.out.2.below hz0).cell 3
  have x4 := (HB.out.2.below hz0).cell 4
  have x5 := (HB.out.2.below hz0).cell 5
  cases v0 with
  | false =>
    go_wp2
    go_ret
    exact ⟨by rw [HZ.out]; rfl, HB.out.1.trans (hz0.mono HB.out.1.size)⟩
  | true =>
    go_wp2_with fail
    refine (HO1.out _ hz0).mono ?_
    rintro e wz1 ⟨rfl, hz1⟩
    have x0 := (HB.out.2.below hz1).cell 0
    have x1 := (HB.out.2.below hz1).cell 1
    have x2 := (HB.out.2.below hz1).cell 2
    have x3 := (HB.out.2.below hz1).cell 3
    have x4 := (HB.out.2.below hz1).cell 4
    have x5 := (HB.out.2.below hz1).cell 5
    cases v1 with
    | false =>
      go_wp2
      go_ret
      exact ⟨by rw [HZ.out]; rfl, HB.out.1.trans (hz1.mono HB.out.1.size)⟩
    | true =>
      go_wp2_with fail
      refine (HO2.out _ hz1).mono ?_
      rintro e wz2 ⟨rfl, hz2⟩
      have x0 := (HB.out.2.below hz2).cell 0
      have x1 := (HB.out.2.below hz2).cell 1
      have x2 := (HB.out.2.below hz2).cell 2
      have x3 := (HB.out.2.below hz2).cell 3
      have x4 := (HB.out.2.below hz2).cell 4
      have x5 := (HB.out.2.below hz2).cell 5
      cases v2 with
      | false =>
        go_wp2
        go_ret
        exact ⟨by rw [HZ.out]; rfl, HB.out.1.trans (hz2.mono HB.out.1.size)⟩
      | true =>
        go_wp2_with fail
        refine (HO3.out _ hz2).mono ?_
        rintro e wz3 ⟨rfl, hz3⟩
        have x0 := (HB.out.2.below hz3).cell 0
        have x1 := (HB.out.2.below hz3).cell 1
        have x2 := (HB.out.2.below hz3).cell 2
        have x3 := (HB.out.2.below hz3).cell 3
        have x4 := (HB.out.2.below hz3).cell 4
        have x5 := (HB.out.2.below hz3).cell 5
        cases v3 with
        | false =>
          go_wp2
          go_ret
          exact ⟨by rw [HZ.out]; rfl, HB.out.1.trans (hz3.mono HB.out.1.size)⟩
        | true =>
          go_wp2_with fail
          refine (HO4.out _ hz3).mono ?_
          rintro e wz4 ⟨rfl, hz4⟩
          have x0 := (HB.out.2.below hz4).cell 0
          have x1 := (HB.out.2.below hz4).cell 1
          have x2 := (HB.out.2.below hz4).cell 2
          have x3 := (HB.out.2.below hz4).cell 3
          have x4 := (HB.out.2.below hz4).cell 4
          have x5 := (HB.out.2.below hz4).cell 5
          cases v4 with
          | false =>
            go_wp2
            go_ret
            exact ⟨by rw [HZ.out]; rfl, HB.out.1.trans (hz4.mono HB.out.1.size)⟩
          | true =>
            go_wp2_with fail
            refine (HO5.out _ hz4).mono ?_
            rintro e wz5 ⟨rfl, hz5⟩
            have x0 := (HB.out.2.below hz5).cell 0
            have x1 := (HB.out.2.below hz5).cell 1
            have x2 := (HB.out.2.below hz5).cell 2
            have x3 := (HB.out.2.below hz5).cell 3
            have x4 := (HB.out.2.below hz5).cell 4
            have x5 := (HB.out.2.below hz5).cell 5
            cases v5 with
            | false =>
              go_wp2
              go_ret
              exact ⟨by rw [HZ.out]; rfl, HB.out.1.trans (hz5.mono HB.out.1.size)⟩
            | true =>
              go_wp2
              go_ret
              exact ⟨by rw [HZ.out]; rfl, HB.out.1.trans (hz5.mono HB.out.1.size)⟩
set_option maxHeartbeats 4000000 in
theorem right_any (x : Rls) (l : Rls.Lay) (w : World) (hh : Rls.Holds w (· < w.heap.size) x l) (hS : RulesSmall x) :
    Calls Tryz.prog 11 #[.agg #[.slice l.items.A l.items.n l.items.c, .slice l.promos.A l.promos.n l.promos.c, .bool x.tax.incl, .bool x.tax.byOrder, .int .i64 x.tax.round, .slice l.tax.zones.A l.tax.zones.n l.tax.zones.c, .int .i64 x.ship.fee, .int .i64 x.ship.free, .int .i64 x.policy.window, .int .i64 x.policy.grace, .int .i64 x.policy.mode, .int .i64 x.policy.restock, .slice l.policy.order.A l.policy.order.n l.policy.order.c, .slice l.policy.credit.A l.policy.credit.n l.policy.credit.c]] w fun e w' => e = .returned (.bool (rulesB x)) ∧ Below w.heap.size w w' := by
  obtain ⟨W1, hW1⟩ : ∃ W1, w.alloc (.cells #[.slice l.items.A l.items.n l.items.c, .slice l.promos.A l.promos.n l.promos.c, .bool x.tax.incl, .bool x.tax.byOrder, .int .i64 x.tax.round, .slice l.tax.zones.A l.tax.zones.n l.tax.zones.c, .int .i64 x.ship.fee, .int .i64 x.ship.free, .int .i64 x.policy.window, .int .i64 x.policy.grace, .int .i64 x.policy.mode, .int .i64 x.policy.restock, .slice l.policy.order.A l.policy.order.n l.policy.order.c, .slice l.policy.credit.A l.policy.credit.n l.policy.credit.c] 33) = W1 := ⟨_, rfl⟩
  have hB : Below w.heap.size w W1 := by rw [← hW1]; exact (Below.refl _ _).alloc (Nat.le_refl _) _
  have hbx : Qu.Blk W1 w.heap.size 33 #[.slice l.items.A l.items.n l.items.c, .slice l.promos.A l.promos.n l.promos.c, .bool x.tax.incl, .bool x.tax.byOrder, .int .i64 x.tax.round, .slice l.tax.zones.A l.tax.zones.n l.tax.zones.c, .int .i64 x.ship.fee, .int .i64 x.ship.free, .int .i64 x.policy.window, .int .i64 x.policy.grace, .int .i64 x.policy.mode, .int .i64 x.policy.restock, .slice l.policy.order.A l.policy.order.n l.policy.order.c, .slice l.policy.credit.A l.policy.credit.n l.policy.credit.c] := by rw [← hW1]; exact Qu.Blk.new w _ _
  have HO0 : Hid (∀ W, Below W1.heap.size W1 W → Calls Tryz.prog 31 #[.slice l.items.A l.items.n l.items.c] W fun e w' => e = .returned (.bool (Gd.goodB x.items)) ∧ Below W1.heap.size W1 w') := Lib.hid fun W hW =>
    (Gd.right_any l.items.A l.items.n l.items.c x.items _ W (rules_later hh (Below.trans hB (hW.mono hB.size))).items.row (fun b hb => hb) (by have := hh.items.row.len; have := hS.items; omega)).mono fun e w' he => ⟨he.1, Hk.andThen hW (by first | exact he.2 | (rw [he.2]; exact Below.refl _ _))⟩
  have HO1 : Hid (∀ W, Below W1.heap.size W1 W → Calls Tryz.prog 32 #[.slice l.promos.A l.promos.n l.promos.c] W fun e w' => e = .returned (.bool (Pm.promosB x.promos)) ∧ Below W1.heap.size W1 w') := Lib.hid fun W hW =>
    (Pm.all_any l.promos.A l.promos.n l.promos.c x.promos W (rules_later hh (Below.trans hB (hW.mono hB.size))).promos.row hS.promos.1 (by have := hh.promos.row.len; have := hS.promos.2; omega)).mono fun e w' he => ⟨he.1, Hk.andThen hW (by first | exact he.2 | (rw [he.2]; exact Below.refl _ _))⟩
  have HO2 : Hid (∀ W, Below W1.heap.size W1 W → Calls Tryz.prog 13 #[.agg #[.bool x.tax.incl, .bool x.tax.byOrder, .int .i64 x.tax.round, .slice l.tax.zones.A l.tax.zones.n l.tax.zones.c]] W fun e w' => e = .returned (.bool (taxB x.tax)) ∧ Below W1.heap.size W1 w') := Lib.hid fun W hW =>
    (tax_any x.tax l.tax W (rules_later hh (Below.trans hB (hW.mono hB.size))).tax hS.zones.1 (by have := hh.tax.zones.row.len; have := hS.zones.2; omega)).mono fun e w' he => ⟨he.1, Hk.andThen hW (by first | exact he.2 | (rw [he.2]; exact Below.refl _ _))⟩
  have HO3 : Hid (∀ W, Below W1.heap.size W1 W → Calls Tryz.prog 33 #[.agg #[.int .i64 x.ship.fee, .int .i64 x.ship.free]] W fun e w' => e = .returned (.bool ((decide (0 ≤ x.ship.fee) && decide (x.ship.fee ≤ 1000000000)) && (decide (0 ≤ x.ship.free) && decide (x.ship.free ≤ 10000000000000)))) ∧ Below W1.heap.size W1 w') := Lib.hid fun W hW =>
    (shipRight_any x.ship W).mono fun e w' he => ⟨he.1, Hk.andThen hW (by first | exact he.2 | (rw [he.2]; exact Below.refl _ _))⟩
  have HO4 : Hid (∀ W, Below W1.heap.size W1 W → Calls Tryz.prog 34 #[.agg #[.int .i64 x.policy.window, .int .i64 x.policy.grace, .int .i64 x.policy.mode, .int .i64 x.policy.restock, .slice l.policy.order.A l.policy.order.n l.policy.order.c, .slice l.policy.credit.A l.policy.credit.n l.policy.credit.c]] W fun e w' => e = .returned (.bool (polB x.policy)) ∧ Below W1.heap.size W1 w') := Lib.hid fun W hW =>
    (policyRight_any x.policy l.policy W (rules_later hh (Below.trans hB (hW.mono hB.size))).policy (by have := hh.policy.order.row.len; have := hS.order; omega) (by have := hh.policy.credit.row.len; have := hS.credit; omega)).mono fun e w' he => ⟨he.1, Hk.andThen hW (by first | exact he.2 | (rw [he.2]; exact Below.refl _ _))⟩
  have x0 := hbx.cell 0
  have x1 := hbx.cell 1
  have x2 := hbx.cell 2
  have x3 := hbx.cell 3
  have x4 := hbx.cell 4
  have x5 := hbx.cell 5
  have x6 := hbx.cell 6
  have x7 := hbx.cell 7
  have x8 := hbx.cell 8
  have x9 := hbx.cell 9
  have x10 := hbx.cell 10
  have x11 := hbx.cell 11
  have x12 := hbx.cell 12
  have x13 := hbx.cell 13
  have HB := Lib.hid (And.intro hB hbx)
  have HZ : Hid ((rulesB x) = (Gd.goodB x.items && Pm.promosB x.promos && taxB x.tax && ((decide (0 ≤ x.ship.fee) && decide (x.ship.fee ≤ 1000000000)) && (decide (0 ≤ x.ship.free) && decide (x.ship.free ≤ 10000000000000))) && polB x.policy)) := Lib.hid (by unfold rulesB polB; simp only [Bool.and_assoc])
  obtain ⟨v0, hv0⟩ : ∃ b, (Gd.goodB x.items) = b := ⟨_, rfl⟩
  simp only [hv0] at HO0 HZ
  obtain ⟨v1, hv1⟩ : ∃ b, (Pm.promosB x.promos) = b := ⟨_, rfl⟩
  simp only [hv1] at HO1 HZ
  obtain ⟨v2, hv2⟩ : ∃ b, (taxB x.tax) = b := ⟨_, rfl⟩
  simp only [hv2] at HO2 HZ
  obtain ⟨v3, hv3⟩ : ∃ b, ((decide (0 ≤ x.ship.fee) && decide (x.ship.fee ≤ 1000000000)) && (decide (0 ≤ x.ship.free) && decide (x.ship.free ≤ 10000000000000))) = b := ⟨_, rfl⟩
  simp only [hv3] at HO3 HZ
  obtain ⟨v4, hv4⟩ : ∃ b, (polB x.policy) = b := ⟨_, rfl⟩
  simp only [hv4] at HO4 HZ
  clear hv0 hv1 hv2 hv3 hv4 hbx hB hh
  go_enter Tryz.func11, Tryz.ntmps11
  go_wp2_with fail
  refine (HO0.out _ (Below.refl _ _)).mono ?_
  rintro e wz0 ⟨rfl, hz0⟩
  have x0 := (HB.out.2.below hz0).cell 0
  have x1 := (HB.out.2.below hz0).cell 1
  have x2 := (HB.out.2.below hz0).cell 2
  have x3 := (HB.out.2.below hz0).cell 3
  have x4 := (HB.out.2.below hz0).cell 4
  have x5 := (HB.out.2.below hz0).cell 5
  have x6 := (HB.out.2.below hz0).cell 6
  have x7 := (HB.out.2.below hz0).cell 7
  have x8 := (HB.out.2.below hz0).cell 8
  have x9 := (HB.out.2.below hz0).cell 9
  have x10 := (HB.out.2.below hz0).cell 10
  have x11 := (HB.out.2.below hz0).cell 11
  have x12 := (HB.out.2.below hz0).cell 12
  have x13 := (HB.out.2.below hz0).cell 13
  cases v0 with
  | false =>
    go_wp2
    go_ret
    exact ⟨by rw [HZ.out]; rfl, HB.out.1.trans (hz0.mono HB.out.1.size)⟩
  | true =>
    go_wp2_with fail
    refine (HO1.out _ hz0).mono ?_
    rintro e wz1 ⟨rfl, hz1⟩
    have x0 := (HB.out.2.below hz1).cell 0
    have x1 := (HB.out.2.below hz1).cell 1
    have x2 := (HB.out.2.below hz1).cell 2
    have x3 := (HB.out.2.below hz1).cell 3
    have x4 := (HB.out.2.below hz1).cell 4
    have x5 := (HB.out.2.below hz1).cell 5
    have x6 := (HB.out.2.below hz1).cell 6
    have x7 := (HB.out.2.below hz1).cell 7
    have x8 := (HB.out.2.below hz1).cell 8
    have x9 := (HB.out.2.below hz1).cell 9
    have x10 := (HB.out.2.below hz1).cell 10
    have x11 := (HB.out.2.below hz1).cell 11
    have x12 := (HB.out.2.below hz1).cell 12
    have x13 := (HB.out.2.below hz1).cell 13
    cases v1 with
    | false =>
      go_wp2
      go_ret
      exact ⟨by rw [HZ.out]; rfl, HB.out.1.trans (hz1.mono HB.out.1.size)⟩
    | true =>
      go_wp2_with fail
      refine (HO2.out _ hz1).mono ?_
      rintro e wz2 ⟨rfl, hz2⟩
      have x0 := (HB.out.2.below hz2).cell 0
      have x1 := (HB.out.2.below hz2).cell 1
      have x2 := (HB.out.2.below hz2).cell 2
      have x3 := (HB.out.2.below hz2).cell 3
      have x4 := (HB.out.2.below hz2).cell 4
      have x5 := (HB.out.2.below hz2).cell 5
      have x6 := (HB.out.2.below hz2).cell 6
      have x7 := (HB.out.2.below hz2).cell 7
      have x8 := (HB.out.2.below hz2).cell 8
      have x9 := (HB.out.2.below hz2).cell 9
      have x10 := (HB.out.2.below hz2).cell 10
      have x11 := (HB.out.2.below hz2).cell 11
      have x12 := (HB.out.2.below hz2).cell 12
      have x13 := (HB.out.2.below hz2).cell 13
      cases v2 with
      | false =>
        go_wp2
        go_ret
        exact ⟨by rw [HZ.out]; rfl, HB.out.1.trans (hz2.mono HB.out.1.size)⟩
      | true =>
        go_wp2_with fail
        refine (HO3.out _ hz2).mono ?_
        rintro e wz3 ⟨rfl, hz3⟩
        have x0 := (HB.out.2.below hz3).cell 0
        have x1 := (HB.out.2.below hz3).cell 1
        have x2 := (HB.out.2.below hz3).cell 2
        have x3 := (HB.out.2.below hz3).cell 3
        have x4 := (HB.out.2.below hz3).cell 4
        have x5 := (HB.out.2.below hz3).cell 5
        have x6 := (HB.out.2.below hz3).cell 6
        have x7 := (HB.out.2.below hz3).cell 7
        have x8 := (HB.out.2.below hz3).cell 8
        have x9 := (HB.out.2.below hz3).cell 9
        have x10 := (HB.out.2.below hz3).cell 10
        have x11 := (HB.out.2.below hz3).cell 11
        have x12 := (HB.out.2.below hz3).cell 12
        have x13 := (HB.out.2.below hz3).cell 13
        cases v3 with
        | false =>
          go_wp2
          go_ret
          exact ⟨by rw [HZ.out]; rfl, HB.out.1.trans (hz3.mono HB.out.1.size)⟩
        | true =>
          go_wp2_with fail
          refine (HO4.out _ hz3).mono ?_
          rintro e wz4 ⟨rfl, hz4⟩
          have x0 := (HB.out.2.below hz4).cell 0
          have x1 := (HB.out.2.below hz4).cell 1
          have x2 := (HB.out.2.below hz4).cell 2
          have x3 := (HB.out.2.below hz4).cell 3
          have x4 := (HB.out.2.below hz4).cell 4
          have x5 := (HB.out.2.below hz4).cell 5
          have x6 := (HB.out.2.below hz4).cell 6
          have x7 := (HB.out.2.below hz4).cell 7
          have x8 := (HB.out.2.below hz4).cell 8
          have x9 := (HB.out.2.below hz4).cell 9
          have x10 := (HB.out.2.below hz4).cell 10
          have x11 := (HB.out.2.below hz4).cell 11
          have x12 := (HB.out.2.below hz4).cell 12
          have x13 := (HB.out.2.below hz4).cell 13
          cases v4 with
          | false =>
            go_wp2
            go_ret
            exact ⟨by rw [HZ.out]; rfl, HB.out.1.trans (hz4.mono HB.out.1.size)⟩
          | true =>
            go_wp2
            go_ret
            exact ⟨by rw [HZ.out]; rfl, HB.out.1.trans (hz4.mono HB.out.1.size)⟩
end Go.Proofs.YtfcmhgneijipgaaGreat.Ru

end
