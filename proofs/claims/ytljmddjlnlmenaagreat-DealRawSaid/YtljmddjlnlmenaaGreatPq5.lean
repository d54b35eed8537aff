/- Cuts: what the document says of units, places and promotions that take something off, in numbers and lists. · A list whi .. -/
import Derived.Laws.MakeOwn
import Derived.Test.YtljmddjlnlmenaaGreatPq1
import Derived.Test.YtljmddjlnlmenaaGreatPq2
import Derived.Test.YtljmddjlnlmenaaGreatPq4
set_option maxRecDepth 100000
set_option linter.unusedVariables false

section
namespace Go.Proofs.YtljmddjlnlmenaaGreat.Ct
open Ap (Unt Tir Prm)
def nsum : List Unt -> Int
  | [] => 0
  | u :: l => u.net + nsum l
theorem nsum_append (a b : List Unt) : nsum (a ++ b) = nsum a + nsum b := by
  induction a with
  | nil => simp [nsum]
  | cons x a ih => simp only [List.cons_append, nsum, ih]; omega
theorem take_next {α : Type} {xs : List α} {k : Nat} {x : α} (h : xs[k]? = some x) : xs.take (k + 1) = xs.take k ++ [x] := by
  rw [List.take_add_one, h]; rfl
theorem nsum_next {us : List Unt} {k : Nat} {u : Unt} (h : us[k]? = some u) : nsum (us.take (k + 1)) = nsum (us.take k) + u.net := by
  rw [take_next h, nsum_append]; simp [nsum]
def Nets (us : List Unt) : Prop := ∀ (k : Nat) (u : Unt), us[k]? = some u -> 0 <= u.net
theorem Nets.sum : ∀ {us : List Unt}, Nets us -> 0 <= nsum us
  | [], _ => by simp [nsum]
  | u :: us, h => by
    have h1 := h 0 u rfl
    have h2 : 0 <= nsum us := Nets.sum fun k v hv => h (k + 1) v hv
    simp only [nsum]; omega
theorem Nets.part {us : List Unt} (h : Nets us) (k : Nat) : 0 <= nsum (us.take k) /\ nsum (us.take k) <= nsum us := by
  have h1 : 0 <= nsum (us.take k) := Nets.sum fun i u hu => by
    rw [List.getElem?_take] at hu
    split at hu
    . exact h i u hu
    . cases hu
  have h2 : 0 <= nsum (us.drop k) := Nets.sum fun i u hu => by
    rw [List.getElem?_drop] at hu
    exact h _ u hu
  have e := nsum_append (us.take k) (us.drop k)
  rw [List.take_append_drop] at e
  omega
theorem Nets.one {us : List Unt} (h : Nets us) {k : Nat} {u : Unt} (hu : us[k]? = some u) : u.net <= nsum us := by
  have h1 := nsum_next hu
  have h2 := h.part k
  have h3 := h.part (k + 1)
  omega
structure UnitsMay (us : List Unt) : Prop where
  few : us.length <= 100000
  nets : Nets us
  total : nsum us <= 10000000000000
structure PlacesMay (us : List Unt) (ms : List Int) : Prop where
  at_ : ∀ (i : Nat) (m : Int), ms[i]? = some m -> 0 <= m /\ ∃ u, us[m.toNat]? = some u /\ u.opn = true
  rise : ∀ (i : Nat) (a b : Int), ms[i]? = some a -> ms[i + 1]? = some b -> a < b
structure May (us : List Unt) (ms : List Int) : Prop where
  units : UnitsMay us
  places : PlacesMay us ms
noncomputable def mayB (us : List Unt) (ms : List Int) : Bool := @decide (May us ms) (Classical.propDecidable _)
theorem mayB_yes {us : List Unt} {ms : List Int} (h : May us ms) : mayB us ms = true := by unfold mayB; exact @decide_eq_true _ (Classical.propDecidable _) h
theorem mayB_no {us : List Unt} {ms : List Int} (h : ¬ May us ms) : mayB us ms = false := by unfold mayB; exact @decide_eq_false _ (Classical.propDecidable _) h
theorem mayB_iff {us : List Unt} {ms : List Int} : mayB us ms = true ↔ May us ms := by
  constructor
  . intro h
    rcases Classical.em (May us ms) with h1 | h1
    . exact h1
    . rw [mayB_no h1] at h; cases h
  . exact mayB_yes
theorem PlacesMay.lt {us : List Unt} {ms : List Int} (h : PlacesMay us ms) : ∀ (d i : Nat) (a b : Int), ms[i]? = some a -> ms[i + d + 1]? = some b -> a < b := by
  intro d
  induction d with
  | zero => intro i a b ha hb; exact h.rise i a b ha hb
  | succ d ih =>
    intro i a b ha hb
    have hl : i + d + 1 < ms.length := by have := (List.getElem?_eq_some_iff.1 hb).1; omega
    have h1 := ih i a ms[i + d + 1] ha (List.getElem?_eq_getElem hl)
    have h2 := h.rise (i + d + 1) _ b (List.getElem?_eq_getElem hl) (by rw [show i + d + 1 + 1 = i + (d + 1) + 1 by omega]; exact hb)
    omega
theorem PlacesMay.ne {us : List Unt} {ms : List Int} (h : PlacesMay us ms) {i j : Nat} {a b : Int} (hij : i < j) (ha : ms[i]? = some a) (hb : ms[j]? = some b) : a.toNat ≠ b.toNat := by
  have h1 := h.lt (j - i - 1) i a b ha (by rw [show i + (j - i - 1) + 1 = j by omega]; exact hb)
  have h2 := (h.at_ i a ha).1
  have h3 := (h.at_ j b hb).1
  omega
theorem PlacesMay.few {us : List Unt} {ms : List Int} (h : PlacesMay us ms) : ms.length <= us.length := by
  -- the k-th place is at least k
  have hk : ∀ (k : Nat) (m : Int), ms[k]? = some m -> (k : Int) <= m := by
    intro k
    induction k with
    | zero => intro m hm; exact (h.at_ 0 m hm).1
    | succ k ih =>
      intro m hm
      have hl : k < ms.length := by have := (List.getElem?_eq_some_iff.1 hm).1; omega
      have h1 := ih _ (List.getElem?_eq_getElem hl)
      have h2 := h.rise k _ m (List.getElem?_eq_getElem hl) hm
      omega
  rcases Nat.eq_zero_or_pos ms.length with h0 | h0
  . omega
  . have hl : ms.length - 1 < ms.length := by omega
    have h1 := hk _ _ (List.getElem?_eq_getElem hl)
    obtain ⟨h2, u, hu, _⟩ := h.at_ _ _ (List.getElem?_eq_getElem hl)
    have := (List.getElem?_eq_some_iff.1 hu).1
    omega
def halfN (x rate : Int) : Int := (Rf.rateR 1 x rate).1
def sumL : List Int -> Int
  | [] => 0
  | x :: l => x + sumL l
theorem sumL_append (a b : List Int) : sumL (a ++ b) = sumL a + sumL b := by
  induction a with
  | nil => simp [sumL]
  | cons x a ih => simp only [List.cons_append, sumL, ih]; omega
theorem sumL_next {l : List Int} {k : Nat} {x : Int} (h : l[k]? = some x) : sumL (l.take (k + 1)) = sumL (l.take k) + x := by
  rw [take_next h, sumL_append]; simp [sumL]
def netAt (us : List Unt) (m : Int) : Int := match us[m.toNat]? with
  | some u => u.net
  | none => 0
def netsL (us : List Unt) (ms : List Int) : List Int := ms.map (netAt us)
def nth (l : List Int) (k : Nat) : Int := (l[k]?).getD 0
def lessNet (o : Int) (u : Unt) : Unt := ⟨u.line, u.net - o, u.opn⟩
def shut (u : Unt) : Unt := ⟨u.line, u.net, false⟩
def subK (us : List Unt) (ms os : List Int) : Nat -> List Unt
  | 0 => us
  | k + 1 => (subK us ms os k).modify (nth ms k).toNat (lessNet (nth os k))
def shutK (us : List Unt) (ms : List Int) : Nat -> List Unt
  | 0 => us
  | k + 1 => (shutK us ms k).modify (nth ms k).toNat shut
theorem subK_length (us : List Unt) (ms os : List Int) : ∀ k, (subK us ms os k).length = us.length
  | 0 => rfl
  | k + 1 => by rw [subK, List.length_modify, subK_length]
theorem shutK_length (us : List Unt) (ms : List Int) : ∀ k, (shutK us ms k).length = us.length
  | 0 => rfl
  | k + 1 => by rw [shutK, List.length_modify, shutK_length]
def lessU (us : List Unt) (ms os : List Int) (closes : Bool) : List Unt × Int :=
  if sumL os = 0 then (us, 0) else (shutK (subK us ms os os.length) ms (if closes then ms.length else 0), sumL os)
end Go.Proofs.YtljmddjlnlmenaaGreat.Ct

end

section
namespace Go.Proofs.YtljmddjlnlmenaaGreat.Ko
open Go.ChangeShapes Go.WideShapes Go.ChangeAt Go.RowKit
open Kd (Kind Row)
section
variable {α : Type} {K : Kind α} {E : Nat}
structure Out (K : Kind α) (E : Nat) (w wr : World) (v : Value) (xs : List α) : Prop where
  own : Kd.Own K wr w.heap.size E (fun _ => False) v xs.length xs
  below : Below w.heap.size w wr
theorem Out.nil (K : Kind α) (E : Nat) {w wr : World} (h : Below w.heap.size w wr) : Out K E w wr (.slice none 0 0) [] := ⟨Kd.Own.nil _ _ _ _ _, h⟩
theorem Out.later {w wr w' : World} {v : Value} {xs : List α} (h : Out K E w wr v xs) (hb : Below wr.heap.size wr w') : Out K E w w' v xs := ⟨h.own.later hb, h.below.trans (hb.mono h.below.size)⟩
theorem Out.push {w wr w' : World} {v v' : Value} {xs : List α} {y : α} {L : Nat} (h : Out K E w wr v xs) (e : xs.length = L) (hown : Kd.Own K w' w.heap.size E (fun _ => False) v' (L + 1) (xs ++ [y])) (hgrow : wr.grownBy w' v.ownBlock) : Out K E w w' v' (xs ++ [y]) :=
  ⟨by rw [List.length_append, List.length_singleton, e]; exact hown, h.below.grown hgrow h.below.size fun i hi => (h.own.low i hi).1⟩
def Told (K : Kind α) (E : Nat) (w : World) (e : Ending) (w' : World) (xs : List α) : Prop :=
  ∃ (A : Option Addr) (c : Nat), e = .returned (.slice A xs.length c) /\ Kd.Own K w' w.heap.size E (fun _ => False) (.slice A xs.length c) xs.length xs /\ Below w.heap.size w w'
theorem Out.told {w wr : World} {v : Value} {xs : List α} (h : Out K E w wr v xs) : Told K E w (.returned v) wr xs := by
  obtain ⟨A, c, rfl⟩ := h.own.value
  exact ⟨A, c, rfl, h.own, h.below⟩
def Told2 (K : Kind α) (E : Nat) (w : World) (e : Ending) (w' : World) (xs : List α) (z : Int) : Prop :=
  ∃ (A : Option Addr) (c : Nat), e = .returned (.tuple #[.slice A xs.length c, .int .i64 z]) /\ Kd.Own K w' w.heap.size E (fun _ => False) (.slice A xs.length c) xs.length xs /\ Below w.heap.size w w'
theorem row_on {w w' : World} {A : Option Addr} {n : Nat} {xs : List α} (h : Row K w (· < w.heap.size) A n xs) (hb : Below w.heap.size w w') : Row K w' (· < w'.heap.size) A n xs := (h.below hb (Nat.le_refl _)).lift hb.size
structure At (K : Kind α) (w wx : World) (A : Option Addr) (n : Nat) (xs : List α) : Prop where
  row : Row K wx (· < wx.heap.size) A n xs
  below : Below w.heap.size w wx
theorem made_out {P : Program} {t e : TypeId} {z : Value} {S b : Nat} (R : Kd.RowT P K t e z S b) (n : Nat) (hn : b * n <= 281474976710656) (hn2 : n <= 1000000000000) :
    ∃ M : Array Value, (∀ W : World, (Instr.makeSlice t (.int .i64 0) (.int .i64 (n : Int))).run P W = .ok (.slice (some ⟨W.heap.size, 0, none⟩) 0 n) (W.alloc (.cells M e))) /\
      ∀ (w W : World), Below w.heap.size w W -> Out K e w (W.alloc (.cells M e)) (.slice (some ⟨W.heap.size, 0, none⟩) 0 n) [] := by
  obtain ⟨i0, hi0, hz0, hz1, hz2⟩ := info_parts R.info
  refine ⟨madeCells z.cells (n * S), fun W => ?_, fun w W hb => ⟨⟨rfl, [], ?_, rfl⟩, hb.alloc hb.size _⟩⟩
  . have h2 : ((b * n : Nat) : Int) <= 281474976710656 := by omega
    have h3 : (i0.bytes : Int) * (n : Int) <= 281474976710656 := by rw [hz2]; rw [Int.natCast_mul] at h2; exact h2
    have hr := run_make (P := P) W t e i0 _ R.ut hi0 hz0 .i64 .i64 0 (n : Int) (by omega) (by omega) h3 (by omega)
    rw [hz1] at hr
    rw [Int.toNat_natCast] at hr
    exact hr
  . rw [R.size]
    exact World.ownsRow_made W _ n hb.size (by unfold maxLen; omega) (by rw [size_madeCells])
end
end Go.Proofs.YtljmddjlnlmenaaGreat.Ko

end

section
namespace Go.Proofs.YtljmddjlnlmenaaGreat.Rf
open Go.ChangeShapes Go.WideShapes Go.ChangeAt Go.RowKit
theorem t_x (x y d way : Int) (w : World) (h : x < 0 \/ 100000000000000 < x) : Calls Tryz.prog 99 #[.int .i64 x, .int .i64 y, .int .i64 d, .int .i64 way] w fun e w' => e = .returned (.tuple #[.int .i64 0, .int .i64 2]) /\ Below w.heap.size w w' := by
  go_enter Tryz.func99, Tryz.ntmps99
  go_wp2_with fail
  refine (right_no _ _ h).mono ?_
  rintro e w' ⟨rfl, rfl⟩
  go_wp2_with fail
  go_ret2
  exact ⟨rfl, Below.refl _ _⟩
theorem t_y (x y d way : Int) (w : World) (h0 : 0 <= x) (h1 : x <= 100000000000000) (h : y < 0 \/ 100000000000000 < y) : Calls Tryz.prog 99 #[.int .i64 x, .int .i64 y, .int .i64 d, .int .i64 way] w fun e w' => e = .returned (.tuple #[.int .i64 0, .int .i64 2]) /\ Below w.heap.size w w' := by
  go_enter Tryz.func99, Tryz.ntmps99
  go_wp2_with fail
  refine (right_yes _ _ h0 h1).mono ?_
  rintro e w' ⟨rfl, rfl⟩
  go_wp2_with fail
  refine (right_no _ _ h).mono ?_
  rintro e w' ⟨rfl, rfl⟩
  go_wp2_with fail
  go_ret2
  exact ⟨rfl, Below.refl _ _⟩
theorem t_d (x y d way : Int) (w : World) (h0 : 0 <= x) (h1 : x <= 100000000000000) (g0 : 0 <= y) (g1 : y <= 100000000000000) (h : d < 1) : Calls Tryz.prog 99 #[.int .i64 x, .int .i64 y, .int .i64 d, .int .i64 way] w fun e w' => e = .returned (.tuple #[.int .i64 0, .int .i64 2]) /\ Below w.heap.size w w' := by
  have k1 : decide (d < 1) = true := by simp; omega
  go_enter Tryz.func99, Tryz.ntmps99
  go_wp2_with fail
  refine (right_yes _ _ h0 h1).mono ?_
  rintro e w' ⟨rfl, rfl⟩
  go_wp2_with fail
  refine (right_yes _ _ g0 g1).mono ?_
  rintro e w' ⟨rfl, rfl⟩
  go_wp2_with fail
  go_ret2
  exact ⟨rfl, Below.refl _ _⟩
theorem t_e (x y d way : Int) (w : World) (h0 : 0 <= x) (h1 : x <= 100000000000000) (g0 : 0 <= y) (g1 : y <= 100000000000000) (d0 : 1 <= d) (h : 100000000000000 < d) : Calls Tryz.prog 99 #[.int .i64 x, .int .i64 y, .int .i64 d, .int .i64 way] w fun e w' => e = .returned (.tuple #[.int .i64 0, .int .i64 2]) /\ Below w.heap.size w w' := by
  have k1 : decide (d < 1) = false := by simp; omega
  have k2 : decide (100000000000000 < d) = true := by simp; omega
  go_enter Tryz.func99, Tryz.ntmps99
  go_wp2_with fail
  refine (right_yes _ _ h0 h1).mono ?_
  rintro e w' ⟨rfl, rfl⟩
  go_wp2_with fail
  refine (right_yes _ _ g0 g1).mono ?_
  rintro e w' ⟨rfl, rfl⟩
  go_wp2_with fail
  go_ret2
  exact ⟨rfl, Below.refl _ _⟩
theorem t_w (x y d way : Int) (w : World) (h0 : 0 <= x) (h1 : x <= 100000000000000) (g0 : 0 <= y) (g1 : y <= 100000000000000) (d0 : 1 <= d) (d1 : d <= 100000000000000) (h : way < 0) : Calls Tryz.prog 99 #[.int .i64 x, .int .i64 y, .int .i64 d, .int .i64 way] w fun e w' => e = .returned (.tuple #[.int .i64 0, .int .i64 2]) /\ Below w.heap.size w w' := by
  have k1 : decide (d < 1) = false := by simp; omega
  have k2 : decide (100000000000000 < d) = false := by simp; omega
  have k3 : decide (way < 0) = true := by simp; omega
  go_enter Tryz.func99, Tryz.ntmps99
  go_wp2_with fail
  refine (right_yes _ _ h0 h1).mono ?_
  rintro e w' ⟨rfl, rfl⟩
  go_wp2_with fail
  refine (right_yes _ _ g0 g1).mono ?_
  rintro e w' ⟨rfl, rfl⟩
  go_wp2_with fail
  go_ret2
  exact ⟨rfl, Below.refl _ _⟩
theorem t_v (x y d way : Int) (w : World) (h0 : 0 <= x) (h1 : x <= 100000000000000) (g0 : 0 <= y) (g1 : y <= 100000000000000) (d0 : 1 <= d) (d1 : d <= 100000000000000) (h : 2 < way) : Calls Tryz.prog 99 #[.int .i64 x, .int .i64 y, .int .i64 d, .int .i64 way] w fun e w' => e = .returned (.tuple #[.int .i64 0, .int .i64 2]) /\ Below w.heap.size w w' := by
  have k1 : decide (d < 1) = false := by simp; omega
  have k2 : decide (100000000000000 < d) = false := by simp; omega
  have k3 : decide (way < 0) = false := by simp; omega
  have k4 : decide (2 < way) = true := by simp; omega
  go_enter Tryz.func99, Tryz.ntmps99
  go_wp2_with fail
  refine (right_yes _ _ h0 h1).mono ?_
  rintro e w' ⟨rfl, rfl⟩
  go_wp2_with fail
  refine (right_yes _ _ g0 g1).mono ?_
  rintro e w' ⟨rfl, rfl⟩
  go_wp2_with fail
  go_ret2
  exact ⟨rfl, Below.refl _ _⟩
theorem t_bad (way x y d : Int) (w : World) (h : ¬ (Ok x /\ Ok y /\ 1 <= d /\ d <= 100000000000000 /\ 0 <= way /\ way <= 2)) : Calls Tryz.prog 99 #[.int .i64 x, .int .i64 y, .int .i64 d, .int .i64 way] w fun e w' => e = .returned (.tuple #[.int .i64 0, .int .i64 2]) /\ Below w.heap.size w w' := by
  by_cases hx : x < 0 \/ 100000000000000 < x
  . exact t_x x y d way w hx
  by_cases hy : y < 0 \/ 100000000000000 < y
  . exact t_y x y d way w (by omega) (by omega) hy
  by_cases hd : d < 1
  . exact t_d x y d way w (by omega) (by omega) (by omega) (by omega) hd
  by_cases he : 100000000000000 < d
  . exact t_e x y d way w (by omega) (by omega) (by omega) (by omega) (by omega) he
  by_cases hw : way < 0
  . exact t_w x y d way w (by omega) (by omega) (by omega) (by omega) (by omega) (by omega) hw
  . exact t_v x y d way w (by omega) (by omega) (by omega) (by omega) (by omega) (by omega) (by omega)
theorem t_no (x y d way : Int) (w : World) (h0 : 0 <= x) (h1 : x <= 100000000000000) (g0 : 0 <= y) (g1 : y <= 100000000000000) (d0 : 1 <= d) (d1 : d <= 100000000000000) (w0 : 0 <= way) (w1 : way <= 2)
    (HP : Hid (∀ w, Calls Tryz.prog 79 #[.int .i64 x, .int .i64 y, .int .i64 d] w fun e w' => e = .returned (.tuple #[.int .i64 0, .int .i64 0, .bool false]) /\ Below w.heap.size w w')) :
    Calls Tryz.prog 99 #[.int .i64 x, .int .i64 y, .int .i64 d, .int .i64 way] w fun e w' => e = .returned (.tuple #[.int .i64 0, .int .i64 5]) /\ Below w.heap.size w w' := by
  have k1 : decide (d < 1) = false := by simp; omega
  have k2 : decide (100000000000000 < d) = false := by simp; omega
  have k3 : decide (way < 0) = false := by simp; omega
  have k4 : decide (2 < way) = false := by simp; omega
  go_enter Tryz.func99, Tryz.ntmps99
  go_wp2_with fail
  refine (right_yes _ _ h0 h1).mono ?_
  rintro e w' ⟨rfl, rfl⟩
  go_wp2_with fail
  refine (right_yes _ _ g0 g1).mono ?_
  rintro e w' ⟨rfl, rfl⟩
  go_wp2_with fail
  refine (HP.out _).mono ?_
  rintro e w' ⟨rfl, hb⟩
  go_wp2_with fail
  go_ret2
  exact ⟨rfl, hb⟩
theorem t_0ay (x y d q r : Int) (w : World) (h0 : 0 <= x) (h1 : x <= 100000000000000) (g0 : 0 <= y) (g1 : y <= 100000000000000) (d0 : 1 <= d) (d1 : d <= 100000000000000) (q0 : 0 <= q) (q1 : q <= 100000000000000) (r0 : 0 <= r) (r1 : r < d) (hv : q <= 100000000000000)
    (HP : Hid (∀ w, Calls Tryz.prog 79 #[.int .i64 x, .int .i64 y, .int .i64 d] w fun e w' => e = .returned (.tuple #[.int .i64 q, .int .i64 r, .bool true]) /\ Below w.heap.size w w')) :
    Calls Tryz.prog 99 #[.int .i64 x, .int .i64 y, .int .i64 d, .int .i64 0] w fun e w' => e = .returned (.tuple #[.int .i64 (q), .int .i64 0]) /\ Below w.heap.size w w' := by
  have k1 : decide (d < 1) = false := by simp; omega
  have k2 : decide (100000000000000 < d) = false := by simp; omega
  go_enter Tryz.func99, Tryz.ntmps99
  go_wp2_with fail
  refine (right_yes _ _ h0 h1).mono ?_
  rintro e w' ⟨rfl, rfl⟩
  go_wp2_with fail
  refine (right_yes _ _ g0 g1).mono ?_
  rintro e w' ⟨rfl, rfl⟩
  go_wp2_with fail
  refine (HP.out _).mono ?_
  rintro e w' ⟨rfl, hb⟩
  go_wp2_with fail
  refine (right_yes _ _ (by omega) hv).mono ?_
  rintro e w' ⟨rfl, rfl⟩
  go_wp2_with fail
  go_ret2
  exact ⟨rfl, hb⟩
theorem t_1ay (x y d q r : Int) (w : World) (h0 : 0 <= x) (h1 : x <= 100000000000000) (g0 : 0 <= y) (g1 : y <= 100000000000000) (d0 : 1 <= d) (d1 : d <= 100000000000000) (q0 : 0 <= q) (q1 : q <= 100000000000000) (r0 : 0 <= r) (r1 : r < d) (c : 2 * r < d) (hv : q <= 100000000000000)
    (HP : Hid (∀ w, Calls Tryz.prog 79 #[.int .i64 x, .int .i64 y, .int .i64 d] w fun e w' => e = .returned (.tuple #[.int .i64 q, .int .i64 r, .bool true]) /\ Below w.heap.size w w')) :
    Calls Tryz.prog 99 #[.int .i64 x, .int .i64 y, .int .i64 d, .int .i64 1] w fun e w' => e = .returned (.tuple #[.int .i64 (q), .int .i64 0]) /\ Below w.heap.size w w' := by
  have k1 : decide (d < 1) = false := by simp; omega
  have k2 : decide (100000000000000 < d) = false := by simp; omega
  go_enter Tryz.func99, Tryz.ntmps99
  go_wp2_with fail
  refine (right_yes _ _ h0 h1).mono ?_
  rintro e w' ⟨rfl, rfl⟩
  go_wp2_with fail
  refine (right_yes _ _ g0 g1).mono ?_
  rintro e w' ⟨rfl, rfl⟩
  go_wp2_with fail
  refine (HP.out _).mono ?_
  rintro e w' ⟨rfl, hb⟩
  go_wp2_with fail
  refine (right_yes _ _ (by omega) hv).mono ?_
  rintro e w' ⟨rfl, rfl⟩
  go_wp2_with fail
  go_ret2
  exact ⟨rfl, hb⟩
theorem t_1by (x y d q r : Int) (w : World) (h0 : 0 <= x) (h1 : x <= 100000000000000) (g0 : 0 <= y) (g1 : y <= 100000000000000) (d0 : 1 <= d) (d1 : d <= 100000000000000) (q0 : 0 <= q) (q1 : q <= 100000000000000) (r0 : 0 <= r) (r1 : r < d) (c : d <= 2 * r) (hv : q + 1 <= 100000000000000)
    (HP : Hid (∀ w, Calls Tryz.prog 79 #[.int .i64 x, .int .i64 y, .int .i64 d] w fun e w' => e = .returned (.tuple #[.int .i64 q, .int .i64 r, .bool true]) /\ Below w.heap.size w w')) :
    Calls Tryz.prog 99 #[.int .i64 x, .int .i64 y, .int .i64 d, .int .i64 1] w fun e w' => e = .returned (.tuple #[.int .i64 (q + 1), .int .i64 0]) /\ Below w.heap.size w w' := by
  have k1 : decide (d < 1) = false := by simp; omega
  have k2 : decide (100000000000000 < d) = false := by simp; omega
  go_enter Tryz.func99, Tryz.ntmps99
  go_wp2_with fail
  refine (right_yes _ _ h0 h1).mono ?_
  rintro e w' ⟨rfl, rfl⟩
  go_wp2_with fail
  refine (right_yes _ _ g0 g1).mono ?_
  rintro e w' ⟨rfl, rfl⟩
  go_wp2_with fail
  refine (HP.out _).mono ?_
  rintro e w' ⟨rfl, hb⟩
  go_wp2_with fail
  refine (right_yes _ _ (by omega) hv).mono ?_
  rintro e w' ⟨rfl, rfl⟩
  go_wp2_with fail
  go_ret2
  exact ⟨rfl, hb⟩
theorem t_1bo (x y d q r : Int) (w : World) (h0 : 0 <= x) (h1 : x <= 100000000000000) (g0 : 0 <= y) (g1 : y <= 100000000000000) (d0 : 1 <= d) (d1 : d <= 100000000000000) (q0 : 0 <= q) (q1 : q <= 100000000000000) (r0 : 0 <= r) (r1 : r < d) (c : d <= 2 * r) (hv : 100000000000000 < q + 1)
    (HP : Hid (∀ w, Calls Tryz.prog 79 #[.int .i64 x, .int .i64 y, .int .i64 d] w fun e w' => e = .returned (.tuple #[.int .i64 q, .int .i64 r, .bool true]) /\ Below w.heap.size w w')) :
    Calls Tryz.prog 99 #[.int .i64 x, .int .i64 y, .int .i64 d, .int .i64 1] w fun e w' => e = .returned (.tuple #[.int .i64 0, .int .i64 5]) /\ Below w.heap.size w w' := by
  have k1 : decide (d < 1) = false := by simp; omega
  have k2 : decide (100000000000000 < d) = false := by simp; omega
  go_enter Tryz.func99, Tryz.ntmps99
  go_wp2_with fail
  refine (right_yes _ _ h0 h1).mono ?_
  rintro e w' ⟨rfl, rfl⟩
  go_wp2_with fail
  refine (right_yes _ _ g0 g1).mono ?_
  rintro e w' ⟨rfl, rfl⟩
  go_wp2_with fail
  refine (HP.out _).mono ?_
  rintro e w' ⟨rfl, hb⟩
  go_wp2_with fail
  refine (right_no _ _ (Or.inr hv)).mono ?_
  rintro e w' ⟨rfl, rfl⟩
  go_wp2_with fail
  go_ret2
  exact ⟨rfl, hb⟩
theorem t_2ay (x y d q r : Int) (w : World) (h0 : 0 <= x) (h1 : x <= 100000000000000) (g0 : 0 <= y) (g1 : y <= 100000000000000) (d0 : 1 <= d) (d1 : d <= 100000000000000) (q0 : 0 <= q) (q1 : q <= 100000000000000) (r0 : 0 <= r) (r1 : r < d) (c : 2 * r < d) (hv : q <= 100000000000000)
    (HP : Hid (∀ w, Calls Tryz.prog 79 #[.int .i64 x, .int .i64 y, .int .i64 d] w fun e w' => e = .returned (.tuple #[.int .i64 q, .int .i64 r, .bool true]) /\ Below w.heap.size w w')) :
    Calls Tryz.prog 99 #[.int .i64 x, .int .i64 y, .int .i64 d, .int .i64 2] w fun e w' => e = .returned (.tuple #[.int .i64 (q), .int .i64 0]) /\ Below w.heap.size w w' := by
  have k1 : decide (d < 1) = false := by simp; omega
  have k2 : decide (100000000000000 < d) = false := by simp; omega
  have e1 : (2 * r == d) = false := by simp; omega
  go_enter Tryz.func99, Tryz.ntmps99
  go_wp2_with fail
  refine (right_yes _ _ h0 h1).mono ?_
  rintro e w' ⟨rfl, rfl⟩
  go_wp2_with fail
  refine (right_yes _ _ g0 g1).mono ?_
  rintro e w' ⟨rfl, rfl⟩
  go_wp2_with fail
  refine (HP.out _).mono ?_
  rintro e w' ⟨rfl, hb⟩
  go_wp2_with fail
  refine (right_yes _ _ (by omega) hv).mono ?_
  rintro e w' ⟨rfl, rfl⟩
  go_wp2_with fail
  go_ret2
  exact ⟨rfl, hb⟩
theorem t_2by (x y d q r : Int) (w : World) (h0 : 0 <= x) (h1 : x <= 100000000000000) (g0 : 0 <= y) (g1 : y <= 100000000000000) (d0 : 1 <= d) (d1 : d <= 100000000000000) (q0 : 0 <= q) (q1 : q <= 100000000000000) (r0 : 0 <= r) (r1 : r < d) (c : d < 2 * r) (hv : q + 1 <= 100000000000000)
    (HP : Hid (∀ w, Calls Tryz.prog 79 #[.int .i64 x, .int .i64 y, .int .i64 d] w fun e w' => e = .returned (.tuple #[.int .i64 q, .int .i64 r, .bool true]) /\ Below w.heap.size w w')) :
    Calls Tryz.prog 99 #[.int .i64 x, .int .i64 y, .int .i64 d, .int .i64 2] w fun e w' => e = .returned (.tuple #[.int .i64 (q + 1), .int .i64 0]) /\ Below w.heap.size w w' := by
  have k1 : decide (d < 1) = false := by simp; omega
  have k2 : decide (100000000000000 < d) = false := by simp; omega
  go_enter Tryz.func99, Tryz.ntmps99
  go_wp2_with fail
  refine (right_yes _ _ h0 h1).mono ?_
  rintro e w' ⟨rfl, rfl⟩
  go_wp2_with fail
  refine (right_yes _ _ g0 g1).mono ?_
  rintro e w' ⟨rfl, rfl⟩
  go_wp2_with fail
  refine (HP.out _).mono ?_
  rintro e w' ⟨rfl, hb⟩
  go_wp2_with fail
  refine (right_yes _ _ (by omega) hv).mono ?_
  rintro e w' ⟨rfl, rfl⟩
  go_wp2_with fail
  go_ret2
  exact ⟨rfl, hb⟩
theorem t_2bo (x y d q r : Int) (w : World) (h0 : 0 <= x) (h1 : x <= 100000000000000) (g0 : 0 <= y) (g1 : y <= 100000000000000) (d0 : 1 <= d) (d1 : d <= 100000000000000) (q0 : 0 <= q) (q1 : q <= 100000000000000) (r0 : 0 <= r) (r1 : r < d) (c : d < 2 * r) (hv : 100000000000000 < q + 1)
    (HP : Hid (∀ w, Calls Tryz.prog 79 #[.int .i64 x, .int .i64 y, .int .i64 d] w fun e w' => e = .returned (.tuple #[.int .i64 q, .int .i64 r, .bool true]) /\ Below w.heap.size w w')) :
    Calls Tryz.prog 99 #[.int .i64 x, .int .i64 y, .int .i64 d, .int .i64 2] w fun e w' => e = .returned (.tuple #[.int .i64 0, .int .i64 5]) /\ Below w.heap.size w w' := by
  have k1 : decide (d < 1) = false := by simp; omega
  have k2 : decide (100000000000000 < d) = false := by simp; omega
  go_enter Tryz.func99, Tryz.ntmps99
  go_wp2_with fail
  refine (right_yes _ _ h0 h1).mono ?_
  rintro e w' ⟨rfl, rfl⟩
  go_wp2_with fail
  refine (right_yes _ _ g0 g1).mono ?_
  rintro e w' ⟨rfl, rfl⟩
  go_wp2_with fail
  refine (HP.out _).mono ?_
  rintro e w' ⟨rfl, hb⟩
  go_wp2_with fail
  refine (right_no _ _ (Or.inr hv)).mono ?_
  rintro e w' ⟨rfl, rfl⟩
  go_wp2_with fail
  go_ret2
  exact ⟨rfl, hb⟩
theorem t_2cy (x y d q r : Int) (w : World) (h0 : 0 <= x) (h1 : x <= 100000000000000) (g0 : 0 <= y) (g1 : y <= 100000000000000) (d0 : 1 <= d) (d1 : d <= 100000000000000) (q0 : 0 <= q) (q1 : q <= 100000000000000) (r0 : 0 <= r) (r1 : r < d) (c : 2 * r <= d) (c2 : d <= 2 * r) (c3 : Hid (q % 2 = 1)) (hv : q + 1 <= 100000000000000)
    (HP : Hid (∀ w, Calls Tryz.prog 79 #[.int .i64 x, .int .i64 y, .int .i64 d] w fun e w' => e = .returned (.tuple #[.int .i64 q, .int .i64 r, .bool true]) /\ Below w.heap.size w w')) :
    Calls Tryz.prog 99 #[.int .i64 x, .int .i64 y, .int .i64 d, .int .i64 2] w fun e w' => e = .returned (.tuple #[.int .i64 (q + 1), .int .i64 0]) /\ Below w.heap.size w w' := by
  have k1 : decide (d < 1) = false := by simp; omega
  have k2 : decide (100000000000000 < d) = false := by simp; omega
  have e1 : (2 * r == d) = true := by simp; omega
  have e2 : (q % 2 == 1) = true := by have := c3.out; simp; omega
  go_enter Tryz.func99, Tryz.ntmps99
  go_wp2_with fail
  refine (right_yes _ _ h0 h1).mono ?_
  rintro e w' ⟨rfl, rfl⟩
  go_wp2_with fail
  refine (right_yes _ _ g0 g1).mono ?_
  rintro e w' ⟨rfl, rfl⟩
  go_wp2_with fail
  refine (HP.out _).mono ?_
  rintro e w' ⟨rfl, hb⟩
  go_wp2_with fail
  refine (right_yes _ _ (by omega) hv).mono ?_
  rintro e w' ⟨rfl, rfl⟩
  go_wp2_with fail
  go_ret2
  exact ⟨rfl, hb⟩
theorem t_2co (x y d q r : Int) (w : World) (h0 : 0 <= x) (h1 : x <= 100000000000000) (g0 : 0 <= y) (g1 : y <= 100000000000000) (d0 : 1 <= d) (d1 : d <= 100000000000000) (q0 : 0 <= q) (q1 : q <= 100000000000000) (r0 : 0 <= r) (r1 : r < d) (c : 2 * r <= d) (c2 : d <= 2 * r) (c3 : Hid (q % 2 = 1)) (hv : 100000000000000 < q + 1)
    (HP : Hid (∀ w, Calls Tryz.prog 79 #[.int .i64 x, .int .i64 y, .int .i64 d] w fun e w' => e = .returned (.tuple #[.int .i64 q, .int .i64 r, .bool true]) /\ Below w.heap.size w w')) :
    Calls Tryz.prog 99 #[.int .i64 x, .int .i64 y, .int .i64 d, .int .i64 2] w fun e w' => e = .returned (.tuple #[.int .i64 0, .int .i64 5]) /\ Below w.heap.size w w' := by
  have k1 : decide (d < 1) = false := by simp; omega
  have k2 : decide (100000000000000 < d) = false := by simp; omega
  have e1 : (2 * r == d) = true := by simp; omega
  have e2 : (q % 2 == 1) = true := by have := c3.out; simp; omega
  go_enter Tryz.func99, Tryz.ntmps99
  go_wp2_with fail
  refine (right_yes _ _ h0 h1).mono ?_
  rintro e w' ⟨rfl, rfl⟩
  go_wp2_with fail
  refine (right_yes _ _ g0 g1).mono ?_
  rintro e w' ⟨rfl, rfl⟩
  go_wp2_with fail
  refine (HP.out _).mono ?_
  rintro e w' ⟨rfl, hb⟩
  go_wp2_with fail
  refine (right_no _ _ (Or.inr hv)).mono ?_
  rintro e w' ⟨rfl, rfl⟩
  go_wp2_with fail
  go_ret2
  exact ⟨rfl, hb⟩
theorem t_2dy (x y d q r : Int) (w : World) (h0 : 0 <= x) (h1 : x <= 100000000000000) (g0 : 0 <= y) (g1 : y <= 100000000000000) (d0 : 1 <= d) (d1 : d <= 100000000000000) (q0 : 0 <= q) (q1 : q <= 100000000000000) (r0 : 0 <= r) (r1 : r < d) (c : 2 * r <= d) (c2 : d <= 2 * r) (c3 : Hid (¬ q % 2 = 1)) (hv : q <= 100000000000000)
    (HP : Hid (∀ w, Calls Tryz.prog 79 #[.int .i64 x, .int .i64 y, .int .i64 d] w fun e w' => e = .returned (.tuple #[.int .i64 q, .int .i64 r, .bool true]) /\ Below w.heap.size w w')) :
    Calls Tryz.prog 99 #[.int .i64 x, .int .i64 y, .int .i64 d, .int .i64 2] w fun e w' => e = .returned (.tuple #[.int .i64 (q), .int .i64 0]) /\ Below w.heap.size w w' := by
  have k1 : decide (d < 1) = false := by simp; omega
  have k2 : decide (100000000000000 < d) = false := by simp; omega
  have e1 : (2 * r == d) = true := by simp; omega
  have e2 : (q % 2 == 1) = false := by have := c3.out; simp; omega
  go_enter Tryz.func99, Tryz.ntmps99
  go_wp2_with fail
  refine (right_yes _ _ h0 h1).mono ?_
  rintro e w' ⟨rfl, rfl⟩
  go_wp2_with fail
  refine (right_yes _ _ g0 g1).mono ?_
  rintro e w' ⟨rfl, rfl⟩
  go_wp2_with fail
  refine (HP.out _).mono ?_
  rintro e w' ⟨rfl, hb⟩
  go_wp2_with fail
  refine (right_yes _ _ (by omega) hv).mono ?_
  rintro e w' ⟨rfl, rfl⟩
  go_wp2_with fail
  go_ret2
  exact ⟨rfl, hb⟩
end Go.Proofs.YtljmddjlnlmenaaGreat.Rf

end

section
namespace Go.Proofs.YtljmddjlnlmenaaGreat.Rf
open Go.ChangeShapes Go.WideShapes Go.ChangeAt Go.RowKit
theorem timesR_yes (way x y d v : Int) (g : Ok x /\ Ok y /\ 1 <= d /\ d <= 100000000000000 /\ 0 <= way /\ way <= 2) (h : Mn.rnd way (x * y / d) (x * y % d) d = v) (hv : v <= 100000000000000) : timesR way x y d = (v, 0) := by
  unfold timesR Mn.timesV Mn.timesE
  rw [if_pos g, h, if_pos hv, if_pos hv]
theorem timesR_no (way x y d v : Int) (g : Ok x /\ Ok y /\ 1 <= d /\ d <= 100000000000000 /\ 0 <= way /\ way <= 2) (h : Mn.rnd way (x * y / d) (x * y % d) d = v) (hv : 100000000000000 < v) : timesR way x y d = (0, 5) := by
  unfold timesR Mn.timesV Mn.timesE
  rw [if_pos g, h, if_neg (by omega), if_neg (by omega)]
theorem r_times (way x y d : Int) (w : World) : Calls Tryz.prog 99 #[.int .i64 x, .int .i64 y, .int .i64 d, .int .i64 way] w fun e w' => e = pairOf (timesR way x y d) /\ Below w.heap.size w w' := by
  by_cases g : Ok x /\ Ok y /\ 1 <= d /\ d <= 100000000000000 /\ 0 <= way /\ way <= 2
  . have g' := g
    obtain ⟨⟨h0, h1⟩, ⟨g0, g1⟩, d0, d1, w0, w1⟩ := g
    have hN : 0 <= x * y := Int.mul_nonneg h0 g0
    have q0 : 0 <= x * y / d := Int.ediv_nonneg hN (by omega)
    have r0 : 0 <= x * y % d := Int.emod_nonneg _ (by omega)
    have r1 : x * y % d < d := Int.emod_lt_of_pos _ (by omega)
    have hge := Mn.rnd_ge way (x * y / d) (x * y % d) d q0
    by_cases hq : x * y / d <= 100000000000000
    . have HP := Lib.hid (fun w => (parts_any x y d w h0 h1 g0 g1 d0 d1).mono (fun e w' (h : PartsSaid x y d w e w') => And.intro (h.2.1 hq) h.1))
      have yes := timesR_yes way x y d
      have no := timesR_no way x y d
      generalize x * y / d = q at *
      generalize x * y % d = r at *
      obtain rfl | rfl | rfl : way = 0 \/ way = 1 \/ way = 2 := by omega
      . rw [yes q g' (by simp [Mn.rnd]) hq]
        exact t_0ay x y d q r w h0 h1 g0 g1 d0 d1 q0 hq r0 r1 hq HP
      . by_cases c : 2 * r < d
        . rw [yes q g' (by simp [Mn.rnd]; omega) hq]
          exact t_1ay x y d q r w h0 h1 g0 g1 d0 d1 q0 hq r0 r1 c hq HP
        . by_cases o : q + 1 <= 100000000000000
          . rw [yes (q + 1) g' (by simp [Mn.rnd]; omega) o]
            exact t_1by x y d q r w h0 h1 g0 g1 d0 d1 q0 hq r0 r1 (by omega) o HP
          . rw [no (q + 1) g' (by simp [Mn.rnd]; omega) (by omega)]
            exact t_1bo x y d q r w h0 h1 g0 g1 d0 d1 q0 hq r0 r1 (by omega) (by omega) HP
      . by_cases c : 2 * r < d
        . rw [yes q g' (by simp [Mn.rnd]; omega) hq]
          exact t_2ay x y d q r w h0 h1 g0 g1 d0 d1 q0 hq r0 r1 c hq HP
        by_cases c2 : d < 2 * r
        . by_cases o : q + 1 <= 100000000000000
          . rw [yes (q + 1) g' (by simp [Mn.rnd]; omega) o]
            exact t_2by x y d q r w h0 h1 g0 g1 d0 d1 q0 hq r0 r1 c2 o HP
          . rw [no (q + 1) g' (by simp [Mn.rnd]; omega) (by omega)]
            exact t_2bo x y d q r w h0 h1 g0 g1 d0 d1 q0 hq r0 r1 c2 (by omega) HP
        by_cases c3 : q % 2 = 1
        . by_cases o : q + 1 <= 100000000000000
          . rw [yes (q + 1) g' (by simp [Mn.rnd]; omega) o]
            exact t_2cy x y d q r w h0 h1 g0 g1 d0 d1 q0 hq r0 r1 (by omega) (by omega) (Lib.hid c3) o HP
          . rw [no (q + 1) g' (by simp [Mn.rnd]; omega) (by omega)]
            exact t_2co x y d q r w h0 h1 g0 g1 d0 d1 q0 hq r0 r1 (by omega) (by omega) (Lib.hid c3) (by omega) HP
        . rw [yes q g' (by simp [Mn.rnd]; omega) hq]
          exact t_2dy x y d q r w h0 h1 g0 g1 d0 d1 q0 hq r0 r1 (by omega) (by omega) (Lib.hid c3) hq HP
    . rw [timesR_no way x y d _ g' rfl (by omega)]
      exact t_no x y d way w h0 h1 g0 g1 d0 d1 w0 w1 (Lib.hid (fun w => (parts_any x y d w h0 h1 g0 g1 d0 d1).mono (fun e w' (h : PartsSaid x y d w e w') => And.intro (h.2.2 (by omega)) h.1)))
  . rw [times_bad way x y d g]
    exact t_bad way x y d w g
theorem r_rate (way x rate : Int) (w : World) : Calls Tryz.prog 70 #[.int .i64 x, .int .i64 rate, .int .i64 way] w fun e w' => e = pairOf (rateR way x rate) /\ Below w.heap.size w w' := by
  unfold rateR
  by_cases h : 0 <= rate /\ rate <= 10000
  . rw [if_pos h]
    obtain ⟨h0, h1⟩ := h
    have hd : decide (rate < 0) = false := by simp; omega
    have hd2 : decide (10000 < rate) = false := by simp; omega
    have HT := Lib.hid (fun w => r_times way x rate 10000 w)
    unfold pairOf at *
    generalize timesR way x rate 10000 = p at *
    obtain ⟨v, e5⟩ := p
    go_enter Tryz.func70, Tryz.ntmps70
    go_wp2_with fail
    refine (HT.out _).mono ?_
    rintro e w' ⟨rfl, hb⟩
    go_wp2
    go_ret2
    exact ⟨rfl, hb⟩
  . rw [if_neg h]
    unfold pairOf
    by_cases h0 : rate < 0
    . have hd : decide (rate < 0) = true := by simp; omega
      clear h
      go_enter Tryz.func70, Tryz.ntmps70
      go_wp2_with fail
      go_ret2
      exact ⟨rfl, Below.refl _ _⟩
    . have hd : decide (rate < 0) = false := by simp; omega
      have hd2 : decide (10000 < rate) = true := by simp; omega
      clear h
      go_enter Tryz.func70, Tryz.ntmps70
      go_wp2_with fail
      go_ret2
      exact ⟨rfl, Below.refl _ _⟩
end Go.Proofs.YtljmddjlnlmenaaGreat.Rf

end
