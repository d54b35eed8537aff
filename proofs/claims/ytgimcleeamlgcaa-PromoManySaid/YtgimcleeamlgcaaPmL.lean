/- The landed All. -/
import Derived.Test.YtgimcleeamlgcaaPmR
import Derived.Test.YtgimcleeamlgcaaPmB
set_option maxRecDepth 100000

set_option linter.unusedVariables false
namespace Go.Proofs.Ytgimcleeamlgcaa.Pm
open Go.ChangeShapes Go.WideShapes Go.ChangeAt Go.RowKit
open Ap (Scp Prt Tir Prm kPrm row_Prm)
open Kd (Row Lst kStr)
open Pr (promoB PrmSmall PartsSmall)
open Sc (hasB)

/-- Its lists are small enough to be walked. -/
structure Slight (p : Prm) : Prop where
  skus : p.scope.skus.length ≤ 1000000000000
  cats : p.scope.cats.length ≤ 1000000000000
  each : PartsSmall p.parts
  parts : p.parts.length ≤ 1000000000000
  tiers : p.tiers.length ≤ 1000000000000

theorem Slight.small {p : Prm} {l : Prm.Lay} {w : World} {F : Nat → Prop} (h : Slight p) (hh : Ap.Prm.Holds w F p l) : PrmSmall p l :=
  ⟨⟨by have := hh.scope.skus.row.len; have := h.skus; omega, by have := hh.scope.cats.row.len; have := h.cats; omega⟩, h.each, by have := hh.parts.row.len; have := h.parts; omega, by have := hh.tiers.row.len; have := h.tiers; omega⟩

def Slights (l : List Prm) : Prop := ∀ (k : Nat) (p : Prm), l[k]? = some p → Slight p

/-- P12.1: All. -/
structure Promos (l : List Prm) : Prop where
  few : l.length ≤ 60
  each : ∀ (i : Nat) (p : Prm), l[i]? = some p → promoB p = true
  apart : ∀ (i j : Nat) (p q : Prm), i < j → l[i]? = some p → l[j]? = some q → p.id ≠ q.id

noncomputable def promosB (l : List Prm) : Bool := @decide (Promos l) (Classical.propDecidable _)

theorem promosB_yes {l : List Prm} (h : Promos l) : promosB l = true := by unfold promosB; exact @decide_eq_true _ (Classical.propDecidable _) h

theorem promosB_no {l : List Prm} (h : ¬ Promos l) : promosB l = false := by unfold promosB; exact @decide_eq_false _ (Classical.propDecidable _) h

set_option maxHeartbeats 1000000 in
theorem wrong_any (p : Prm) (l : Prm.Lay) (w : World) (h : Ap.Prm.Holds w (· < w.heap.size) p l) (hS : PrmSmall p l) :
    Calls Try.prog 52 #[.agg #[.string p.id, .int .i64 p.kind, .int .i64 p.priority, .string p.group, .string p.code, .bool p.closes, .slice l.scope.skus.A l.scope.skus.n l.scope.skus.c, .slice l.scope.cats.A l.scope.cats.n l.scope.cats.c, .int .i64 p.least, .int .i64 p.rate, .int .i64 p.amount, .int .i64 p.buy, .int .i64 p.get, .slice l.parts.A l.parts.n l.parts.c, .slice l.tiers.A l.tiers.n l.tiers.c]] w fun e w' => e = .returned (.bool (!promoB p)) ∧ Below w.heap.size w w' := by
  obtain ⟨w1, hw1⟩ : ∃ w1, w.alloc (.cells #[.string p.id, .int .i64 p.kind, .int .i64 p.priority, .string p.group, .string p.code, .bool p.closes, .slice l.scope.skus.A l.scope.skus.n l.scope.skus.c, .slice l.scope.cats.A l.scope.cats.n l.scope.cats.c, .int .i64 p.least, .int .i64 p.rate, .int .i64 p.amount, .int .i64 p.buy, .int .i64 p.get, .slice l.parts.A l.parts.n l.parts.c, .slice l.tiers.A l.tiers.n l.tiers.c] 28) = w1 := ⟨_, rfl⟩
  have hx : Qu.Blk w1 w.heap.size 28 #[.string p.id, .int .i64 p.kind, .int .i64 p.priority, .string p.group, .string p.code, .bool p.closes, .slice l.scope.skus.A l.scope.skus.n l.scope.skus.c, .slice l.scope.cats.A l.scope.cats.n l.scope.cats.c, .int .i64 p.least, .int .i64 p.rate, .int .i64 p.amount, .int .i64 p.buy, .int .i64 p.get, .slice l.parts.A l.parts.n l.parts.c, .slice l.tiers.A l.tiers.n l.tiers.c] := by rw [← hw1]; exact Qu.Blk.new w _ _
  have hb1 : Below w.heap.size w w1 := by rw [← hw1]; exact (Below.refl _ _).alloc (Nat.le_refl _) _
  have HP := Lib.hid (promo_any p l w1 (Pr.holds_later h hb1) hS)
  have HB := Lib.hid hb1
  have x0 := hx.cell 0
  have x1 := hx.cell 1
  have x2 := hx.cell 2
  have x3 := hx.cell 3
  have x4 := hx.cell 4
  have x5 := hx.cell 5
  have x6 := hx.cell 6
  have x7 := hx.cell 7
  have x8 := hx.cell 8
  have x9 := hx.cell 9
  have x10 := hx.cell 10
  have x11 := hx.cell 11
  have x12 := hx.cell 12
  have x13 := hx.cell 13
  have x14 := hx.cell 14
  obtain ⟨b, hb⟩ : ∃ b, promoB p = b := ⟨_, rfl⟩
  rw [hb] at HP ⊢
  clear hx hb1 h hS hb
  go_enter Try.func52, Try.ntmps52
  go_wp2_with fail
  refine HP.out.mono ?_
  rintro e w2 ⟨rfl, hb2⟩
  have HB2 := Lib.hid (HB.out.trans (hb2.mono HB.out.size))
  clear hb2
  go_wp2
  go_ret
  exact ⟨rfl, HB2.out⟩

set_option maxHeartbeats 2000000 in
theorem badIndex_any (A : Option Addr) (n c : Nat) (xs : List Prm) (w : World) (h : Row kPrm w (· < w.heap.size) A n xs) (hS : Slights xs) (hn : n ≤ 1000000000000) :
    Calls Try.prog 72 #[.slice A n c, .func (.func 52) #[] #[]] w fun e w' => (∃ r : Int, e = .returned (.int .i64 r) ∧ ((0 ≤ r ∧ ∃ (i : Nat) (x : Prm), xs[i]? = some x ∧ promoB x = false) ∨ (r = -1 ∧ ∀ (i : Nat) (x : Prm), xs[i]? = some x → promoB x = true))) ∧ Below w.heap.size w w' := by
  have HL := Lib.hid h.len
  have HR := Lib.hid (And.intro h hS)
  clear h hS
  go_enter Try.func72, Try.ntmps72
  go_wp2
  go_loopw [8] (fun s8 wr => ∃ k : Nat, s8 = .int .i64 k ∧ k ≤ n ∧ Hid (Below w.heap.size w wr ∧ ∀ (i : Nat) (x : Prm), i < k → xs[i]? = some x → promoB x = true)) (fun s8 _ => n - (intOf s8).toNat)
  case atStart => exact ⟨0, rfl, by omega, Lib.hid ⟨Below.refl _ _, fun i x hi => by omega⟩⟩
  case round =>
    obtain ⟨k, rfl, hk, HK⟩ := hrel
    by_cases hlt : k < n
    · obtain ⟨p, hx⟩ := HR.out.1.get hlt
      obtain ⟨g, o, l, rfl, _, _, hh, c0, c1, c2, c3, c4, c5, c6, c7, c8, c9, c10, c11, c12, c13, c14⟩ := row_Prm (HR.out.1.below HK.out.1 (Nat.le_refl _)) hx
      have k1 : (k : Int) < (n : Int) := by omega
      have k0 : (0 : Int) ≤ (k : Int) := by omega
      have hh2 : Ap.Prm.Holds wr (· < wr.heap.size) p l := by
        obtain ⟨i1, i2, i3, i4, i5, i6, i7, i8, i9, i10, i11, i12, i13⟩ := hh
        have hz := HK.out.1.size
        exact ⟨i1, i2, i3, i4, i5, ⟨i6.skus.more fun b hb => Nat.lt_of_lt_of_le hb hz, i6.cats.more fun b hb => Nat.lt_of_lt_of_le hb hz⟩, i7, i8, i9, i10, i11, i12.more fun b hb => Nat.lt_of_lt_of_le hb hz, i13.more fun b hb => Nat.lt_of_lt_of_le hb hz⟩
      have HC := Lib.hid (wrong_any p l wr hh2 ((HR.out.2 k p hx).small hh2))
      have HX := Lib.hid hx
      clear hx hh hh2
      cases hB : promoB p with
      | true =>
        rw [hB] at HC
        have HB := Lib.hid hB
        clear hB
        go_wp2_with fail
        refine HC.out.mono ?_
        rintro e w1 ⟨rfl, hb⟩
        have HK2 : Hid (Below w.heap.size w w1 ∧ ∀ (i : Nat) (x : Prm), i < k + 1 → xs[i]? = some x → promoB x = true) := Lib.hid ⟨HK.out.1.trans (hb.mono HK.out.1.size), fun i y hi hy => by
          rcases Nat.lt_or_ge i k with h1 | h1
          · exact HK.out.2 i y h1 hy
          · obtain rfl : i = k := by omega
            rw [HX.out] at hy
            injection hy with hy
            subst hy
            exact HB.out⟩
        clear hb
        go_wp2
        go_roundw
        case rel => exact ⟨k + 1, by go_num, by omega, HK2⟩
        case measure => simp [intOf]; omega
      | false =>
        rw [hB] at HC
        have HB := Lib.hid hB
        clear hB
        go_wp2_with fail
        refine HC.out.mono ?_
        rintro e w1 ⟨rfl, hb⟩
        have HK2 := Lib.hid (HK.out.1.trans (hb.mono HK.out.1.size))
        clear hb
        go_wp2
        go_ret
        exact ⟨⟨k, rfl, .inl ⟨by omega, k, p, HX.out, HB.out⟩⟩, HK2.out⟩
    · have k1 : ¬ (k : Int) < (n : Int) := by omega
      go_wp2
      go_ret
      exact ⟨⟨-1, rfl, .inr ⟨rfl, fun i x hx => HK.out.2 i x (by
        have := (List.getElem?_eq_some_iff.1 hx).1
        have := HL.out
        omega) hx⟩⟩, HK.out.1⟩

/-- Is one of them wrong? -/
theorem anyBad_any (A : Option Addr) (n c : Nat) (xs : List Prm) (w : World) (h : Row kPrm w (· < w.heap.size) A n xs) (hS : Slights xs) (hn : n ≤ 1000000000000) :
    Calls Try.prog 51 #[.slice A n c, .func (.func 52) #[] #[]] w fun e w' => (∃ b : Bool, e = .returned (.bool b) ∧ (b = false ↔ ∀ (i : Nat) (x : Prm), xs[i]? = some x → promoB x = true)) ∧ Below w.heap.size w w' := by
  have HC := Lib.hid (badIndex_any A n c xs w h hS hn)
  clear h
  go_enter Try.func51, Try.ntmps51
  go_wp2_with fail
  refine HC.out.mono ?_
  rintro e w1 ⟨⟨r, rfl, hr⟩, hb⟩
  have HB := Lib.hid hb
  clear hb
  rcases hr with ⟨h0, i, x, hx, hi⟩ | ⟨rfl, hA⟩
  · have HX := Lib.hid (And.intro hx hi)
    clear hx hi
    go_wp2
    go_ret
    exact ⟨⟨true, rfl, by simp; exact ⟨i, x, HX.out.1, HX.out.2⟩⟩, HB.out⟩
  · have HX := Lib.hid hA
    clear hA
    go_wp2
    go_ret
    exact ⟨⟨false, rfl, by simp; exact HX.out⟩, HB.out⟩

/-! ### So many Ids, no two alike -/
theorem set_full (l : List ByteArray) : ∀ k, k ≤ l.length → Maps.size (setD (l.take k)) ≤ k ∧ (Maps.size (setD (l.take k)) = k ↔ ∀ (i j : Nat) (a b : ByteArray), i < j → j < k → l[i]? = some a → l[j]? = some b → a ≠ b)
  | 0, _ => ⟨by rw [List.take_zero]; exact Nat.le_refl _, by rw [List.take_zero]; exact ⟨fun _ i j a b _ h => by omega, fun _ => rfl⟩⟩
  | k + 1, hk => by
    obtain ⟨ih1, ih2⟩ := set_full l k (by omega)
    obtain ⟨s, hs⟩ : ∃ s, l[k]? = some s := ⟨_, List.getElem?_eq_getElem (by omega)⟩
    have e : l.take (k + 1) = l.take k ++ [s] := by rw [List.take_add_one, hs]; rfl
    rw [e, set_more]
    have hin : hasB (l.take k) s = true ↔ ∃ i, i < k ∧ l[i]? = some s := by
      rw [Sc.hasB_iff, List.mem_iff_getElem?]
      constructor
      · rintro ⟨i, hi⟩
        rw [List.getElem?_take] at hi
        split at hi
        · exact ⟨i, by assumption, hi⟩
        · cases hi
      · rintro ⟨i, h1, h2⟩
        exact ⟨i, by rw [List.getElem?_take, if_pos h1]; exact h2⟩
    cases hB : hasB (l.take k) s with
    | true =>
      rw [if_pos rfl]
      refine ⟨by omega, ⟨fun h => by omega, fun h => ?_⟩⟩
      obtain ⟨i, h1, h2⟩ := hin.1 hB
      exact absurd rfl (h i k s s h1 (by omega) h2 hs)
    | false =>
      rw [if_neg (by simp)]
      refine ⟨by omega, ⟨fun h i j a b h1 h2 h3 h4 => ?_, fun h => ?_⟩⟩
      · rcases Nat.lt_or_ge j k with h5 | h5
        · exact ih2.1 (by omega) i j a b h1 h5 h3 h4
        · obtain rfl : j = k := by omega
          rw [hs] at h4; injection h4 with h4; subst h4
          rintro rfl
          have := hin.2 ⟨i, h1, h3⟩
          rw [hB] at this; cases this
      · have := ih2.2 fun i j a b h1 h2 => h i j a b h1 (by omega)
        omega

theorem set_len {w : World} {b : Nat} {l : List ByteArray} (h : SetAt w b l) (ty : TypeId) : (Builtin.len_ #[78] ty #[.map (some b)]).run Try.prog w = .ok (.int .i64 (Maps.size (setD l))) w := World.ownsMap.len h Try.underlying78 ty

def ids (l : List Prm) : List ByteArray := l.map (·.id)

theorem ids_get {l : List Prm} {k : Nat} {p : Prm} (h : l[k]? = some p) : (ids l)[k]? = some p.id := by unfold ids; rw [List.getElem?_map, h]; rfl

theorem ids_of {l : List Prm} {k : Nat} {s : ByteArray} (h : (ids l)[k]? = some s) : ∃ p, l[k]? = some p ∧ p.id = s := by
  unfold ids at h
  rw [List.getElem?_map] at h
  cases hp : l[k]? with
  | none => rw [hp] at h; cases h
  | some p => rw [hp] at h; injection h with h; exact ⟨p, rfl, h⟩

set_option maxHeartbeats 4000000 in
theorem all_any (A : Option Addr) (n c : Nat) (xs : List Prm) (w : World) (h : Row kPrm w (· < w.heap.size) A n xs) (hS : Slights xs) (hn : n ≤ 1000000000) :
    Calls Try.prog 19 #[.slice A n c] w fun e w' => e = .returned (.bool (promosB xs)) ∧ Below w.heap.size w w' := by
  have hlen := h.len
  by_cases hm : 60 < n
  · have HG : Hid (promosB xs = false) := Lib.hid (promosB_no fun g => by have := g.few; omega)
    have k1 : (60 : Int) < (n : Int) := by omega
    clear h hlen hS
    go_enter Try.func19, Try.ntmps19
    go_wp2
    go_ret
    exact ⟨by rw [HG.out]; rfl, Below.refl _ _⟩
  · have k60 : ¬ (60 : Int) < (n : Int) := by omega
    have HR := Lib.hid (And.intro h hS)
    have HL := Lib.hid hlen
    have hmk := make_set
    have HS0 : Hid (SetAt (w.alloc (.map #[] 0)) w.heap.size ((ids xs).take 0) ∧ Below w.heap.size w (w.alloc (.map #[] 0))) := Lib.hid ⟨by simpa using SetAt.made w, (Below.refl _ _).alloc (Nat.le_refl _) _⟩
    clear h hlen hS
    go_enter Try.func19, Try.ntmps19
    go_wp2
    clear hmk
    go_loopw [14] (fun s14 wr => ∃ k : Nat, s14 = .int .i64 k ∧ k ≤ n ∧ Hid (SetAt wr w.heap.size ((ids xs).take k) ∧ Below w.heap.size w wr)) (fun s14 _ => n - (intOf s14).toNat)
    case atStart => exact ⟨0, rfl, Nat.zero_le _, HS0⟩
    case round =>
      obtain ⟨k, rfl, hk, HS⟩ := hrel
      clear HS0
      by_cases hlt : k < n
      · obtain ⟨p, hp⟩ := HR.out.1.get hlt
        obtain ⟨g, o, l, rfl, _, _, hh, c0, c1, c2, c3, c4, c5, c6, c7, c8, c9, c10, c11, c12, c13, c14⟩ := row_Prm (HR.out.1.below HS.out.2 (Nat.le_refl _)) hp
        have k1 : (k : Int) < (n : Int) := by omega
        have k0 : (0 : Int) ≤ (k : Int) := by omega
        obtain ⟨W1, hW1⟩ : ∃ W1, wr.alloc (.cells #[.string p.id, .int .i64 p.kind, .int .i64 p.priority, .string p.group, .string p.code, .bool p.closes, .slice l.scope.skus.A l.scope.skus.n l.scope.skus.c, .slice l.scope.cats.A l.scope.cats.n l.scope.cats.c, .int .i64 p.least, .int .i64 p.rate, .int .i64 p.amount, .int .i64 p.buy, .int .i64 p.get, .slice l.parts.A l.parts.n l.parts.c, .slice l.tiers.A l.tiers.n l.tiers.c] 28) = W1 := ⟨_, rfl⟩
        have hb1 : Below wr.heap.size wr W1 := by rw [← hW1]; exact (Below.refl _ _).alloc (Nat.le_refl _) _
        have hx : Qu.Blk W1 wr.heap.size 28 #[.string p.id, .int .i64 p.kind, .int .i64 p.priority, .string p.group, .string p.code, .bool p.closes, .slice l.scope.skus.A l.scope.skus.n l.scope.skus.c, .slice l.scope.cats.A l.scope.cats.n l.scope.cats.c, .int .i64 p.least, .int .i64 p.rate, .int .i64 p.amount, .int .i64 p.buy, .int .i64 p.get, .slice l.parts.A l.parts.n l.parts.c, .slice l.tiers.A l.tiers.n l.tiers.c] := by rw [← hW1]; exact Qu.Blk.new wr _ _
        have x0 := hx.cell 0
        obtain ⟨w3, hrun, hset, hgrow⟩ := (HS.out.1.below hb1).put (by simp; omega) hh.id
        have HN : Hid (SetAt w3 w.heap.size ((ids xs).take (k + 1)) ∧ Below w.heap.size w w3) := Lib.hid ⟨by rw [List.take_add_one, ids_get hp]; exact hset, (HS.out.2.trans (hb1.mono HS.out.2.size)).grown hgrow (by have := HS.out.2.size; have := hb1.size; omega) fun k hk => by injection hk with hk; omega⟩
        clear hp hh hset hgrow hx hb1
        go_wp2
        go_roundw
        case rel => exact ⟨k + 1, by go_num, by omega, HN⟩
        case measure => simp [intOf]; omega
      · obtain rfl : k = n := by omega
        have k1 : ¬ (k : Int) < (k : Int) := by omega
        have hfull := set_full (ids xs) k (by unfold ids; rw [List.length_map, HL.out]; exact Nat.le_refl _)
        have hsl := set_len HS.out.1
        obtain ⟨sz, hsz⟩ : ∃ sz, Maps.size (setD ((ids xs).take k)) = sz := ⟨_, rfl⟩
        rw [hsz] at hsl hfull
        have HC := Lib.hid (anyBad_any A k c xs wr ((HR.out.1.below HS.out.2 (Nat.le_refl _)).more fun b hb => Nat.lt_of_lt_of_le hb HS.out.2.size) HR.out.2 (by omega))
        have HB := Lib.hid HS.out.2
        have HFu := Lib.hid hfull.2
        clear HS hfull hsz
        by_cases he : sz = k
        · have b1 : ((sz : Int) == (k : Int)) = true := beq_iff_eq.2 (by omega)
          have HE := Lib.hid he
          clear he
          go_wp2_with fail
          refine HC.out.mono ?_
          rintro e w1 ⟨⟨b, rfl, hb⟩, hbb⟩
          have HB1 := Lib.hid (HB.out.trans (hbb.mono HB.out.size))
          have HG : Hid (promosB xs = !b) := Lib.hid (by
            have hl60 : xs.length ≤ 60 := by
              have := HL.out
              omega
            cases b with
            | true =>
              refine promosB_no fun g => ?_
              have h9 := hb.2 g.each
              cases h9
            | false =>
              refine promosB_yes ⟨hl60, hb.1 rfl, fun i j p q hij hp hq => ?_⟩
              have hj := (List.getElem?_eq_some_iff.1 hq).1
              have hl9 := HL.out
              exact HFu.out.1 HE.out i j _ _ hij (by omega) (ids_get hp) (ids_get hq))
          clear hb hbb
          go_wp2
          go_ret
          exact ⟨by rw [HG.out]; rfl, HB1.out⟩
        · have b1 : ((sz : Int) == (k : Int)) = false := beq_eq_false_iff_ne.2 (by omega)
          have HG : Hid (promosB xs = false) := Lib.hid (promosB_no fun g => he (HFu.out.2 fun i j a b hij hj ha hb => by
            obtain ⟨p, hp, rfl⟩ := ids_of ha
            obtain ⟨q, hq, rfl⟩ := ids_of hb
            exact g.apart i j p q hij hp hq))
          clear he
          go_wp2
          go_ret
          exact ⟨by rw [HG.out]; rfl, HB.out⟩

end Go.Proofs.Ytgimcleeamlgcaa.Pm
