/- Deals: three units, who is dearer pays (the maths of DealRows). -/
import Derived.Test.YtljmddjlnlmenaaPk24

set_option maxRecDepth 100000
set_option linter.unusedVariables false
namespace Go.Proofs.Ytljmddjlnlmenaa.Dl
open Go.ChangeShapes Go.WideShapes Go.ChangeAt Go.RowKit
open Ap (Unt Tir Prm Prt kUnt kTir kPrt row_Unt row_Tir row_Prt)
open Kd (Kind Row RowT kInt kFlag kList Lst row_int row_list)
open Ko (Out Told Told2 At row_on)
open Ct (nth nth_some netAt netsL sumL UnitsMay PlacesMay May mayB mayB_iff mayB_yes halfN lessU)
def u3 (a b c : Int) : List Unt := [⟨0, a, true⟩, ⟨1, b, true⟩, ⟨2, c, true⟩]
theorem whole_half {x : Int} (h : 0 ≤ x ∧ x ≤ 10000000000000) : halfN x 10000 = x := by
  rw [Ct.half_val h (by decide)]
  omega
section
variable {a b c : Int} (ha : 1 ≤ a ∧ a ≤ 3000) (hb : 1 ≤ b ∧ b ≤ 3000) (hc : 1 ≤ c ∧ c ≤ 3000)
include ha hb hc
theorem u3_units : UnitsMay (u3 a b c) := ⟨show (3 : Nat) ≤ 100000 by decide, fun k u hu => by
  match k, hu with
  | 0, hu => injection hu with hu; subst hu; (dsimp only; omega)
  | 1, hu => injection hu with hu; subst hu; (dsimp only; omega)
  | 2, hu => injection hu with hu; subst hu; (dsimp only; omega)
  | k + 3, hu => simp [u3] at hu, by simp [u3, Ct.nsum]; omega⟩
theorem u3_may2 : mayB (u3 a b c) [0, 1] = true := mayB_yes ⟨u3_units ha hb hc, ⟨fun i m hm => by
  match i, hm with
  | 0, hm => injection hm with hm; subst hm; exact ⟨by decide, _, rfl, rfl⟩
  | 1, hm => injection hm with hm; subst hm; exact ⟨by decide, _, rfl, rfl⟩
  | i + 2, hm => simp at hm, fun i a b ha hb => by
  match i, ha, hb with
  | 0, ha, hb => injection ha with ha; injection hb with hb; subst ha; subst hb; decide
  | i + 1, ha, hb => simp at hb⟩⟩
theorem u3_may3 : mayB (u3 a b c) [0, 1, 2] = true := mayB_yes ⟨u3_units ha hb hc, ⟨fun i m hm => by
  match i, hm with
  | 0, hm => injection hm with hm; subst hm; exact ⟨by decide, _, rfl, rfl⟩
  | 1, hm => injection hm with hm; subst hm; exact ⟨by decide, _, rfl, rfl⟩
  | 2, hm => injection hm with hm; subst hm; exact ⟨by decide, _, rfl, rfl⟩
  | i + 3, hm => simp at hm, fun i a b ha hb => by
  match i, ha, hb with
  | 0, ha, hb => injection ha with ha; injection hb with hb; subst ha; subst hb; decide
  | 1, ha, hb => injection ha with ha; injection hb with hb; subst ha; subst hb; decide
  | i + 2, ha, hb => simp at hb⟩⟩
omit ha hb hc
theorem ins_on {x y : Qu.Pt} {l : List Qu.Pt} (h : Qu.aheadB x y = true) : Qu.ins x (y :: l) = x :: y :: l := by unfold Qu.ins; rw [if_pos h]
theorem ins_by {x y : Qu.Pt} {l : List Qu.Pt} (h : Qu.aheadB x y = false) : Qu.ins x (y :: l) = y :: Qu.ins x l := by rw [Qu.ins, h]; rfl
theorem dear2 : dearL (u3 a b c) [0, 1] = if a < b then [1, 0] else [0, 1] := by
  have e : dearP (u3 a b c) [0, 1] = Qu.ins (b, 1) [(a, 0)] := rfl
  unfold dearL
  rw [e]
  split
  · rw [ins_on ((Qu.ahead_iff _ _).2 (.inl (by assumption)))]; rfl
  · rw [ins_by ((Qu.not_ahead _ _).2 (by simp; omega))]; rfl
theorem dear3 : dearL (u3 a b c) [0, 1, 2] = if a < b then (if b < c then [2, 1, 0] else if a < c then [1, 2, 0] else [1, 0, 2]) else (if a < c then [2, 0, 1] else if b < c then [0, 2, 1] else [0, 1, 2]) := by
  have e : dearP (u3 a b c) [0, 1, 2] = Qu.ins (c, 2) (Qu.ins (b, 1) [(a, 0)]) := rfl
  have s : ∀ x y : Qu.Pt, y.1 < x.1 → Qu.aheadB x y = true := fun x y h => (Qu.ahead_iff _ _).2 (.inl h)
  have t : ∀ x y : Qu.Pt, ¬ y.1 < x.1 → y.2 < x.2 → Qu.aheadB x y = false := fun x y h k => (Qu.not_ahead _ _).2 (by omega)
  unfold dearL
  rw [e]
  by_cases h1 : a < b
  · rw [ins_on (s _ _ h1), if_pos h1]
    by_cases h2 : b < c
    · rw [ins_on (s _ _ h2), if_pos h2]; rfl
    · rw [ins_by (t _ _ h2 (by dsimp only; decide)), if_neg h2]
      by_cases h3 : a < c
      · rw [ins_on (s _ _ h3), if_pos h3]; rfl
      · rw [ins_by (t _ _ h3 (by dsimp only; decide)), if_neg h3]; rfl
  · rw [ins_by (t _ _ h1 (by dsimp only; decide)), if_neg h1]
    show places (Qu.ins (c, 2) [(a, 0), (b, 1)]) = _
    by_cases h2 : a < c
    · rw [ins_on (s _ _ h2), if_pos h2]; rfl
    · rw [ins_by (t _ _ h2 (by dsimp only; decide)), if_neg h2]
      by_cases h3 : b < c
      · rw [ins_on (s _ _ h3), if_pos h3]; rfl
      · rw [ins_by (t _ _ h3 (by dsimp only; decide)), if_neg h3]; rfl
end
structure Rowed3 (r : List Unt × Int) (a b c x y z s : Int) : Prop where
  is : r = ([⟨0, x, true⟩, ⟨1, y, true⟩, ⟨2, z, true⟩], s)
  low : 0 ≤ x ∧ 0 ≤ y ∧ 0 ≤ z
  high : x ≤ a ∧ y ≤ b ∧ z ≤ c
  sum : x + y + z = a + b + c - s
theorem rows2 {a b c : Int} (ha : 1 ≤ a ∧ a ≤ 3000) (hb : 1 ≤ b ∧ b ≤ 3000) (hc : 1 ≤ c ∧ c ≤ 3000) : ∃ x y s, Rowed3 (buygetU (gwP false 10000 1 1) (u3 a b c) [0, 1]) a b c x y c s ∧ (s = a ∧ a ≤ b ∨ s = b ∧ b ≤ a) := by
  have hw : wholeL (gwP false 10000 1 1) (u3 a b c) [0, 1] = if a < b then [1, 0] else [0, 1] := by
    unfold wholeL
    rw [dear2]
    split <;> rfl
  unfold buygetU
  rw [gw_promo (by decide) (by decide) (by decide), u3_may2 ha hb hc, if_pos (by decide)]
  unfold rowOffs
  rw [hw]
  split
  · rename_i h1
    refine ⟨0, b, a, ⟨?_, by omega, by omega, by omega⟩, .inl ⟨rfl, by omega⟩⟩
    have ho : offsFrom (gwP false 10000 1 1) (u3 a b c) 0 [1, 0] = [0, a] := by
      show [0, halfN a 10000] = [0, a]
      rw [whole_half (by omega)]
    rw [ho]
    unfold lessU
    rw [if_neg (by simp [sumL]; omega)]
    show (([⟨0, a - a, true⟩, ⟨1, b - 0, true⟩, ⟨2, c, true⟩] : List Unt), sumL [0, a]) = _
    rw [show a - a = 0 by omega, show b - 0 = b by omega, show sumL [0, a] = a by simp [sumL]]
  · rename_i h1
    refine ⟨a, 0, b, ⟨?_, by omega, by omega, by omega⟩, .inr ⟨rfl, by omega⟩⟩
    have ho : offsFrom (gwP false 10000 1 1) (u3 a b c) 0 [0, 1] = [0, b] := by
      show [0, halfN b 10000] = [0, b]
      rw [whole_half (by omega)]
    rw [ho]
    unfold lessU
    rw [if_neg (by simp [sumL]; omega)]
    show (([⟨0, a - 0, true⟩, ⟨1, b - b, true⟩, ⟨2, c, true⟩] : List Unt), sumL [0, b]) = _
    rw [show b - b = 0 by omega, show a - 0 = a by omega, show sumL [0, b] = b by simp [sumL]]
theorem rows3 {a b c : Int} (ha : 1 ≤ a ∧ a ≤ 3000) (hb : 1 ≤ b ∧ b ≤ 3000) (hc : 1 ≤ c ∧ c ≤ 3000) : ∃ x y z s, Rowed3 (buygetU (gwP false 10000 2 1) (u3 a b c) [0, 1, 2]) a b c x y z s ∧ (s = a ∨ s = b ∨ s = c) ∧ s ≤ a ∧ s ≤ b ∧ s ≤ c := by
  have hl : (dearL (u3 a b c) [0, 1, 2]).length = 3 := dearL_length _ _
  have hw : wholeL (gwP false 10000 2 1) (u3 a b c) [0, 1, 2] = dearL (u3 a b c) [0, 1, 2] := by
    unfold wholeL
    exact List.take_of_length_le (by rw [hl]; decide)
  have h0 : ∀ d : Int, d - 0 = d := fun d => by omega
  have h1 : ∀ d : Int, d - d = 0 := fun d => by omega
  have hn : ∀ d : Int, 1 ≤ d → ¬ sumL [0, 0, d] = 0 := fun d h => by simp [sumL]; omega
  have hs : ∀ d : Int, sumL [0, 0, d] = d := fun d => by simp [sumL]
  have L0 : lessU (u3 a b c) [1, 2, 0] [0, 0, a] false = ([⟨0, 0, true⟩, ⟨1, b, true⟩, ⟨2, c, true⟩], a) ∧ lessU (u3 a b c) [2, 1, 0] [0, 0, a] false = ([⟨0, 0, true⟩, ⟨1, b, true⟩, ⟨2, c, true⟩], a) := by
    constructor <;>
    · unfold lessU
      rw [if_neg (hn a (by omega)), hs]
      show (([⟨0, a - a, true⟩, ⟨1, b - 0, true⟩, ⟨2, c - 0, true⟩] : List Unt), a) = _
      rw [h1, h0, h0]
  have L1 : lessU (u3 a b c) [2, 0, 1] [0, 0, b] false = ([⟨0, a, true⟩, ⟨1, 0, true⟩, ⟨2, c, true⟩], b) ∧ lessU (u3 a b c) [0, 2, 1] [0, 0, b] false = ([⟨0, a, true⟩, ⟨1, 0, true⟩, ⟨2, c, true⟩], b) := by
    constructor <;>
    · unfold lessU
      rw [if_neg (hn b (by omega)), hs]
      show (([⟨0, a - 0, true⟩, ⟨1, b - b, true⟩, ⟨2, c - 0, true⟩] : List Unt), b) = _
      rw [h1, h0, h0]
  have L2 : lessU (u3 a b c) [1, 0, 2] [0, 0, c] false = ([⟨0, a, true⟩, ⟨1, b, true⟩, ⟨2, 0, true⟩], c) ∧ lessU (u3 a b c) [0, 1, 2] [0, 0, c] false = ([⟨0, a, true⟩, ⟨1, b, true⟩, ⟨2, 0, true⟩], c) := by
    constructor <;>
    · unfold lessU
      rw [if_neg (hn c (by omega)), hs]
      show (([⟨0, a - 0, true⟩, ⟨1, b - 0, true⟩, ⟨2, c - c, true⟩] : List Unt), c) = _
      rw [h1, h0, h0]
  have O : ∀ (i j k x : Int), netAt (u3 a b c) k = x → 0 ≤ x ∧ x ≤ 3000 → offsFrom (gwP false 10000 2 1) (u3 a b c) 0 [i, j, k] = [0, 0, x] := fun i j k x h hx => by
    show [0, 0, halfN (netAt (u3 a b c) k) 10000] = _
    rw [h, whole_half (by omega)]
  unfold buygetU
  rw [gw_promo (by decide) (by decide) (by decide), u3_may3 ha hb hc, if_pos (by decide)]
  unfold rowOffs
  rw [hw, dear3]
  by_cases c1 : a < b
  · rw [if_pos c1]
    by_cases c2 : b < c
    · rw [if_pos c2, O 2 1 0 a rfl (by omega)]
      exact ⟨0, b, c, a, ⟨L0.2, by omega, by omega, by omega⟩, .inl rfl, by omega, by omega, by omega⟩
    · rw [if_neg c2]
      by_cases c3 : a < c
      · rw [if_pos c3, O 1 2 0 a rfl (by omega)]
        exact ⟨0, b, c, a, ⟨L0.1, by omega, by omega, by omega⟩, .inl rfl, by omega, by omega, by omega⟩
      · rw [if_neg c3, O 1 0 2 c rfl (by omega)]
        exact ⟨a, b, 0, c, ⟨L2.1, by omega, by omega, by omega⟩, .inr (.inr rfl), by omega, by omega, by omega⟩
  · rw [if_neg c1]
    by_cases c2 : a < c
    · rw [if_pos c2, O 2 0 1 b rfl (by omega)]
      exact ⟨a, 0, c, b, ⟨L1.1, by omega, by omega, by omega⟩, .inr (.inl rfl), by omega, by omega, by omega⟩
    · rw [if_neg c2]
      by_cases c3 : b < c
      · rw [if_pos c3, O 0 2 1 b rfl (by omega)]
        exact ⟨a, 0, c, b, ⟨L1.2, by omega, by omega, by omega⟩, .inr (.inl rfl), by omega, by omega, by omega⟩
      · rw [if_neg c3, O 0 1 2 c rfl (by omega)]
        exact ⟨a, b, 0, c, ⟨L2.2, by omega, by omega, by omega⟩, .inr (.inr rfl), by omega, by omega, by omega⟩
theorem three_ints {W : World} {b : Nat} (h : Qu.Blk W b 3 #[.int .i64 0, .int .i64 1, .int .i64 2]) : Row kInt W (· < W.heap.size) (some ⟨b, 0, none⟩) 3 [0, 1, 2] :=
  Kd.Own.read (B := b) (E := 3) (c := 3) (Kd.own_blk (cs := [.int .i64 0, .int .i64 1, .int .i64 2]) h (Nat.le_refl _) rfl ⟨[.int .i64 0], _, rfl, ⟨rfl, by decide⟩, [.int .i64 1], _, rfl, ⟨rfl, by decide⟩, [.int .i64 2], _, rfl, ⟨rfl, by decide⟩, rfl⟩ (Nat.le_refl _) (by decide) rfl rfl)
theorem unit3 {W : World} {B g c : Nat} {x y z : Unt} (h : Kd.Own kUnt W B 34 (fun _ => False) (.slice (some ⟨g, 0, none⟩) 3 c) 3 [x, y, z]) : W.cell? ⟨g, 0, none⟩ = some (.int .i64 x.line) ∧ W.cell? ⟨g, 1, none⟩ = some (.int .i64 x.net) ∧ W.cell? ⟨g, 2, none⟩ = some (.bool x.opn) ∧ W.cell? ⟨g, 3, none⟩ = some (.int .i64 y.line) ∧ W.cell? ⟨g, 4, none⟩ = some (.int .i64 y.net) ∧ W.cell? ⟨g, 5, none⟩ = some (.bool y.opn) ∧ W.cell? ⟨g, 6, none⟩ = some (.int .i64 z.line) ∧ W.cell? ⟨g, 7, none⟩ = some (.int .i64 z.net) ∧ W.cell? ⟨g, 8, none⟩ = some (.bool z.opn) := by
  have at_ : ∀ (k : Nat) (u : Unt), [x, y, z][k]? = some u → W.cell? ⟨g, 0 + k * 3, none⟩ = some (.int .i64 u.line) ∧ W.cell? ⟨g, 0 + k * 3 + 1, none⟩ = some (.int .i64 u.net) ∧ W.cell? ⟨g, 0 + k * 3 + 2, none⟩ = some (.bool u.opn) := fun k u hu => by
    obtain ⟨g2, o, e0, _, _, _, b0, b1, b2⟩ := row_Unt h.read hu
    injection e0 with e0
    injection e0 with e1 e2
    subst e1 e2
    exact ⟨b0, b1, b2⟩
  obtain ⟨x0, x1, x2⟩ := at_ 0 x rfl
  obtain ⟨y0, y1, y2⟩ := at_ 1 y rfl
  obtain ⟨z0, z1, z2⟩ := at_ 2 z rfl
  exact ⟨x0, x1, x2, y0, y1, y2, z0, z1, z2⟩
theorem min_two (P : Program) (ts : Array TypeId) (t : TypeId) {a b m : Int} (h : m = a ∧ a ≤ b ∨ m = b ∧ b ≤ a) (W : World) : Sem.run P (Builtin.min_ ts t #[.int .i64 a, .int .i64 b]) W = .ok (.int .i64 m) W := by
  have e : Sem.run P (Builtin.min_ ts t #[.int .i64 a, .int .i64 b]) W = .ok (.int .i64 (if b < a then b else a)) W := rfl
  have h2 : (if b < a then b else a) = m := by split <;> omega
  rw [e, h2]
theorem min_three (P : Program) (ts : Array TypeId) (t : TypeId) {a b c m : Int} (h : (m = a ∨ m = b ∨ m = c) ∧ m ≤ a ∧ m ≤ b ∧ m ≤ c) (W : World) : Sem.run P (Builtin.min_ ts t #[.int .i64 a, .int .i64 b, .int .i64 c]) W = .ok (.int .i64 m) W := by
  have e : Sem.run P (Builtin.min_ ts t #[.int .i64 a, .int .i64 b, .int .i64 c]) W = .ok (.int .i64 (if c < (if b < a then b else a) then c else (if b < a then b else a))) W := rfl
  have h2 : (if c < (if b < a then b else a) then c else (if b < a then b else a)) = m := by
    by_cases h3 : b < a
    · simp only [if_pos h3]; split <;> omega
    · simp only [if_neg h3]; split <;> omega
  rw [e, h2]
theorem max_two (P : Program) (ts : Array TypeId) (t : TypeId) {a b m : Int} (h : m = a ∧ b ≤ a ∨ m = b ∧ a ≤ b) (W : World) : Sem.run P (Builtin.max_ ts t #[.int .i64 a, .int .i64 b]) W = .ok (.int .i64 m) W := by
  have e : ∃ z, Sem.run P (Builtin.max_ ts t #[.int .i64 a, .int .i64 b]) W = .ok (.int .i64 z) W ∧ (z = if a < b then b else a) := ⟨_, rfl, rfl⟩
  obtain ⟨z, e, hz⟩ := e
  have h2 : z = m := by rw [hz]; split <;> omega
  rw [e, h2]
end Go.Proofs.Ytljmddjlnlmenaa.Dl
