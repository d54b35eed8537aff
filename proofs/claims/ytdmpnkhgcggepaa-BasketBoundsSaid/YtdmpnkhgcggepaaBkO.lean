/- Law 14, its bounds: what is known of many lines, of one, and of two. -/
import Derived.Test.YtdmpnkhgcggepaaBkL
import Derived.Laws.MakeOwn
set_option maxRecDepth 100000

set_option linter.unusedVariables false
namespace Go.Proofs.Ytdmpnkhgcggepaa.Bk
open Go.ChangeShapes Go.WideShapes Go.ChangeAt Go.RowKit
open Ap (Lin Unt kLin kUnt row_Lin row_Unt)
open It (Itm kItem row_item)
open Kd (Kind Row)

def oneI : List Itm := [⟨⟨#[97]⟩, ⟨#[120]⟩, 0, false⟩]
def aL (q p : Int) : Lin := ⟨⟨#[97]⟩, q, p⟩
def zL0 : Lin := ⟨⟨#[]⟩, 0, 0⟩

theorem sold_a : soldB oneI ⟨#[97]⟩ = true := by decide +kernel

theorem check_fine {xs : List Lin} (hl : xs.length ≤ 1000) (h : ∀ x ∈ xs, x.sku = ⟨#[97]⟩ ∧ wrongB x = false) : checkE oneI xs = rangeE xs :=
  addE_range hl fun i x _ hx => by
    have := h x (List.mem_of_getElem? hx)
    exact ⟨by rw [this.1]; exact sold_a, this.2⟩

theorem one_check {q p : Int} (q0 : 0 ≤ q) (q1 : q ≤ 100000) (p0 : 0 ≤ p) (p1 : p ≤ 1000000000) : checkE oneI [aL q p] = if 10000000000000 < q * p then 5 else 0 := by
  rw [check_fine (by simp) (fun x hx => by
    rw [List.mem_singleton] at hx
    subst hx
    exact ⟨rfl, fine_iff.2 (by unfold aL; dsimp only; omega)⟩)]
  unfold rangeE
  have e1 : qsum [aL q p] = q := by simp [qsum, aL]
  have e2 : gsum [aL q p] = q * p := by simp [gsum, aL]
  rw [e1, e2]
  by_cases h : 10000000000000 < q * p
  · rw [if_pos (.inr h), if_pos h]
  · rw [if_neg (by omega), if_neg h]

theorem two_check {q1 q2 : Int} (a0 : 0 ≤ q1) (a1 : q1 ≤ 100000) (b0 : 0 ≤ q2) (b1 : q2 ≤ 100000) : checkE oneI [aL q1 0, aL q2 0] = if 100000 < q1 + q2 then 5 else 0 := by
  rw [check_fine (by simp) (fun x hx => by
    simp only [List.mem_cons, List.mem_nil_iff, or_false] at hx
    rcases hx with rfl | rfl
    · exact ⟨rfl, fine_iff.2 (by unfold aL; dsimp only; omega)⟩
    · exact ⟨rfl, fine_iff.2 (by unfold aL; dsimp only; omega)⟩)]
  unfold rangeE
  have e1 : qsum [aL q1 0, aL q2 0] = q1 + q2 := by simp [qsum, aL]
  have e2 : gsum [aL q1 0, aL q2 0] = 0 := by simp [gsum, aL]
  rw [e1, e2]
  by_cases h : 100000 < q1 + q2
  · rw [if_pos (.inl h), if_pos h]
  · rw [if_neg (by omega), if_neg h]

theorem many_sums (k : Nat) : qsum (List.replicate k (aL 0 0)) = 0 ∧ gsum (List.replicate k (aL 0 0)) = 0 := by
  induction k with
  | zero => exact ⟨rfl, rfl⟩
  | succ k ih => rw [List.replicate_succ]; simp only [qsum, gsum, ih.1, ih.2]; exact ⟨rfl, rfl⟩

theorem many_check (k : Nat) : checkE oneI (List.replicate k (aL 0 0)) = if 1000 < k then 6 else 0 := by
  by_cases h : 1000 < k
  · rw [if_pos h]; exact addE_most (by rw [List.length_replicate]; exact h)
  · rw [if_neg h, check_fine (by rw [List.length_replicate]; omega) (fun x hx => by
      obtain rfl := (List.mem_replicate.1 hx).2
      exact ⟨rfl, by decide⟩)]
    unfold rangeE
    rw [(many_sums k).1, (many_sums k).2]
    rfl

theorem one_gross {s : ByteArray} {q p : Int} (q0 : 0 ≤ q) (q1 : q ≤ 100000) (p0 : 0 ≤ p) (p1 : p ≤ 1000000000) (h : q * p ≤ 10000000000000) : grossN [⟨s, q, p⟩] = q * p := by
  have hm : May [⟨s, q, p⟩] := ⟨by simp, fun i x hx => by
    cases i with
    | zero => simp only [List.getElem?_cons_zero, Option.some.injEq] at hx; subst hx; exact fine_iff.2 (by dsimp only; omega)
    | succ i => simp at hx, by simp [qsum]; exact q1, by simp [gsum]; exact h⟩
  unfold grossN
  rw [if_pos (may_iff.2 hm)]
  simp [gsum]

/-! ### Lines that are made -/
theorem made_three (a b c : Value) (n : Nat) : (madeCells #[a, b, c] (n * 3)).toList = (List.replicate n [a, b, c]).flatten := by
  have h0 : ∀ m : Nat, (madeCells #[a, b, c] m).toList = (List.range m).map (fun i => (#[a, b, c] : Array Value)[i % 3]!) := fun m => by simp [madeCells]
  rw [h0]
  induction n with
  | zero => rfl
  | succ n ih =>
    rw [show (n + 1) * 3 = n * 3 + 1 + 1 + 1 by omega, List.range_succ, List.range_succ, List.range_succ, List.map_append, List.map_append, List.map_append, ih, List.replicate_succ', List.flatten_append]
    have e0 : n * 3 % 3 = 0 := by omega
    have e1 : (n * 3 + 1) % 3 = 1 := by omega
    have e2 : (n * 3 + 1 + 1) % 3 = 2 := by omega
    simp [e0, e1, e2]

theorem cells_same {w : World} {F : Nat → Prop} {x : Lin} (hx : x.ok) : ∀ n : Nat, Kd.Cells kLin w F (List.replicate n x) (List.replicate n x.enc).flatten
  | 0 => rfl
  | n + 1 => ⟨x.enc, _, by rw [List.replicate_succ]; rfl, Ap.Lin_rep.2 ⟨rfl, hx⟩, cells_same hx n⟩

theorem made_lines (n : Nat) (hn : n ≤ 1000000) (W : World) : ∃ M : Array Value, (Instr.makeSlice 23 (.int .i64 (n : Int)) (.int .i64 (n : Int))).run Try.prog W = .ok (.slice (some ⟨W.heap.size, 0, none⟩) n n) (W.alloc (.cells M 28)) ∧
    Kd.Own kLin (W.alloc (.cells M 28)) W.heap.size 28 (fun _ => False) (.slice (some ⟨W.heap.size, 0, none⟩) n n) n (List.replicate n zL0) := by
  obtain ⟨i0, hi0, hz0, hz1, hz2⟩ := info_parts Ap.Lin.info_it
  have hr := run_make (P := Try.prog) W 23 28 i0 _ Try.underlying23 hi0 hz0 .i64 .i64 (n : Int) (n : Int) (by omega) (by omega) (by rw [hz2]; omega) (by omega)
  rw [hz1] at hr
  simp only [Int.toNat_natCast] at hr
  refine ⟨_, hr, Kd.own_blk (Qu.Blk.new W _ _) (Nat.le_refl _) (List.length_replicate) (cells_same (x := zL0) ⟨by decide, by decide, by decide⟩ n) (Nat.le_refl _) (by unfold maxLen; omega) (by rw [size_madeCells]; rfl) ?_⟩
  have e := made_three (.string ⟨#[]⟩) (.int .i64 0) (.int .i64 0) n
  have hs : (madeCells #[Value.string ⟨#[]⟩, .int .i64 0, .int .i64 0] (n * 3)).toList.length = n * 3 := by rw [Array.length_toList, size_madeCells]
  show ((madeCells #[Value.string ⟨#[]⟩, .int .i64 0, .int .i64 0] (n * 3)).toList).take (n * 3) = _
  rw [List.take_of_length_le (by omega)]
  exact e

/-- While their names are written. -/
structure Wr (w1 wx : World) (g K i : Nat) : Prop where
  own : Kd.Own kLin wx w1.heap.size 28 (fun _ => False) (.slice (some ⟨g, 0, none⟩) K K) K (List.replicate i (aL 0 0) ++ List.replicate (K - i) zL0)
  below : Below w1.heap.size w1 wx

theorem Wr.next {w1 wx : World} {g K i : Nat} (h : Wr w1 wx g K i) (hi : i < K) : Wr w1 (wx.setCell ⟨g, i * 3, none⟩ (.string ⟨#[97]⟩)) g K (i + 1) ∧ (∃ u, wx.cell? ⟨g, i * 3, none⟩ = some u) ∧ wx.frozen? ⟨g, i * 3, none⟩ = false := by
  have hlt := (h.own.low g rfl).1
  obtain ⟨⟨u, hu⟩, hz⟩ := h.own.cell (K := kLin) (k := i) (j := 0) hi (by decide)
  have hx : (List.replicate i (aL 0 0) ++ List.replicate (K - i) zL0)[i]? = some zL0 := by
    rw [List.getElem?_append_right (by rw [List.length_replicate]; omega), List.length_replicate, Nat.sub_self, List.getElem?_replicate, if_pos (by omega)]
  have h1 := Kd.Own.put (k := i) (j := 0) (x := zL0) (x' := aL 0 0) (a := zL0.enc) (u := .string ⟨#[97]⟩) h.own hx (fun h => (Ap.Lin_rep.1 h).1) (by decide) (Ap.Lin_rep.2 ⟨rfl, ⟨by decide, by decide, by decide⟩⟩) (fun _ h => h.elim)
  have e : (List.replicate i (aL 0 0) ++ List.replicate (K - i) zL0).set i (aL 0 0) = List.replicate (i + 1) (aL 0 0) ++ List.replicate (K - (i + 1)) zL0 := by
    rw [List.set_append_right _ _ (by rw [List.length_replicate]; omega), List.length_replicate, Nat.sub_self, show K - i = (K - (i + 1)) + 1 by omega, List.replicate_succ, List.set_cons_zero, replicate_next, List.append_assoc]
    rfl
  have h2 := h1.1
  rw [e] at h2
  exact ⟨⟨h2, h.below.setCell hlt _⟩, ⟨u, hu⟩, hz⟩

/-- One item, in a block of its own. -/
theorem one_item {W : World} {b : Nat} (h : Qu.Blk W b 31 #[.string ⟨#[97]⟩, .string ⟨#[120]⟩, .int .i64 0, .bool false]) : Row kItem W (· < W.heap.size) (some ⟨b, 0, none⟩) 1 oneI :=
  Kd.Own.read (B := b) (E := 31) (c := 1) (Kd.own_blk (cs := [.string ⟨#[97]⟩, .string ⟨#[120]⟩, .int .i64 0, .bool false]) h (Nat.le_refl _) rfl ⟨[.string ⟨#[97]⟩, .string ⟨#[120]⟩, .int .i64 0, .bool false], _, rfl, It.item_rep.2 ⟨rfl, ⟨by decide, by decide, by decide, by decide⟩⟩, rfl⟩ (Nat.le_refl _) (by decide) rfl rfl)

/-- One line, in a new block. -/
theorem new_line {W W2 : World} (s : ByteArray) (q p : Int) (hs : s.size ≤ maxLen) (hq : -9223372036854775808 ≤ q ∧ q ≤ 9223372036854775807) (hp : -9223372036854775808 ≤ p ∧ p ≤ 9223372036854775807) (h : W.alloc (.cells #[.string s, .int .i64 q, .int .i64 p] 28) = W2) :
    Row kLin W2 (· < W2.heap.size) (some ⟨W.heap.size, 0, none⟩) 1 [⟨s, q, p⟩] ∧ Below W.heap.size W W2 := by
  have hb : Qu.Blk W2 W.heap.size 28 #[.string s, .int .i64 q, .int .i64 p] := by rw [← h]; exact Qu.Blk.new W _ _
  exact ⟨Kd.Own.read (B := W.heap.size) (E := 28) (c := 1) (Kd.own_blk (cs := [.string s, .int .i64 q, .int .i64 p]) hb (Nat.le_refl _) rfl ⟨[.string s, .int .i64 q, .int .i64 p], _, rfl, Ap.Lin_rep.2 ⟨rfl, ⟨hs, hq, hp⟩⟩, rfl⟩ (Nat.le_refl _) (by decide) rfl rfl), by rw [← h]; exact (Below.refl _ _).alloc (Nat.le_refl _) _⟩

theorem aL_ok {q : Int} (hq : -9223372036854775808 ≤ q ∧ q ≤ 9223372036854775807) : (aL q 0).ok := ⟨(by decide : (⟨#[97]⟩ : ByteArray).size ≤ maxLen), hq, (by decide : -9223372036854775808 ≤ (0 : Int) ∧ (0 : Int) ≤ 9223372036854775807)⟩

theorem new_two {W W2 : World} (q1 q2 : Int) (hq : -9223372036854775808 ≤ q1 ∧ q1 ≤ 9223372036854775807) (hp : -9223372036854775808 ≤ q2 ∧ q2 ≤ 9223372036854775807) (h : W.alloc (.cells #[.string ⟨#[97]⟩, .int .i64 q1, .int .i64 0, .string ⟨#[97]⟩, .int .i64 q2, .int .i64 0] 28) = W2) :
    Row kLin W2 (· < W2.heap.size) (some ⟨W.heap.size, 0, none⟩) 2 [aL q1 0, aL q2 0] ∧ Below W.heap.size W W2 := by
  have hb : Qu.Blk W2 W.heap.size 28 #[.string ⟨#[97]⟩, .int .i64 q1, .int .i64 0, .string ⟨#[97]⟩, .int .i64 q2, .int .i64 0] := by rw [← h]; exact Qu.Blk.new W _ _
  exact ⟨Kd.Own.read (B := W.heap.size) (E := 28) (c := 2) (Kd.own_blk (cs := [.string ⟨#[97]⟩, .int .i64 q1, .int .i64 0, .string ⟨#[97]⟩, .int .i64 q2, .int .i64 0]) hb (Nat.le_refl _) rfl ⟨[.string ⟨#[97]⟩, .int .i64 q1, .int .i64 0], _, rfl, Ap.Lin_rep.2 ⟨rfl, aL_ok hq⟩, [.string ⟨#[97]⟩, .int .i64 q2, .int .i64 0], _, rfl, Ap.Lin_rep.2 ⟨rfl, aL_ok hp⟩, rfl⟩ (Nat.le_refl _) (by decide) rfl rfl), by rw [← h]; exact (Below.refl _ _).alloc (Nat.le_refl _) _⟩

/-! ### The numbers of the bounds -/
theorem wr_nat (k : Nat) (h : k ≤ 1000000000000000) : IntKind.i64.wrap (k : Int) = (k : Int) := IntWalk.i64_in _ (by omega)
theorem wr_nat' (k : Nat) (h : k ≤ 1000000000000000) : wrap64 (k : Int) = (k : Int) := IntWalk.wrap64_in _ (by omega)
theorem wr_add (a b c : Nat) (e : a + b = c) (h : c ≤ 1000000000000000) : IntKind.i64.wrap ((a : Int) + (b : Int)) = (c : Int) := by rw [← Int.natCast_add, e]; exact wr_nat c h
theorem wr_sub (a b c : Nat) (e : a - b = c) (hb : b ≤ a) (h : a ≤ 1000000000000000) : IntKind.i64.wrap ((a : Int) - (b : Int)) = (c : Int) ∧ wrap64 ((a : Int) - (b : Int)) = (c : Int) := by
  have e1 : (a : Int) - (b : Int) = (c : Int) := by omega
  rw [e1]; exact ⟨wr_nat c (by omega), wr_nat' c (by omega)⟩
theorem td_nat (a b c : Nat) (e : a / b = c) : (a : Int).tdiv (b : Int) = (c : Int) := by
  rw [Int.tdiv_eq_ediv_of_nonneg (by omega), ← Int.natCast_ediv, e]
theorem wr_mul (a b c : Nat) (e : a * b = c) (h : c ≤ 1000000000000000) : IntKind.i64.wrap ((a : Int) * (b : Int)) = (c : Int) := by rw [← Int.natCast_mul, e]; exact wr_nat c h
theorem min_if (D m : Nat) (e : min D 99999 = m) : (if (D : Int) < 99999 then (D : Int) else 99999) = (m : Int) ∧ (if (99999 : Int) < (D : Int) then 99999 else (D : Int)) = (m : Int) := by
  constructor <;> split <;> omega

theorem if_cast (n Q : Nat) (a b : Int) : (if (n : Int) < (Q : Int) then a else b) = if n < Q then a else b := by
  by_cases h : n < Q
  · rw [if_pos (Int.ofNat_lt.2 h), if_pos h]
  · rw [if_neg (fun e => h (Int.ofNat_lt.1 e)), if_neg h]

/-- What stands in the walk's numbers. -/
structure Nums (t r K Q Q1 Q2 p D m m1 P1 P2 : Nat) : Prop where
  wK : IntKind.i64.wrap (999 + (t : Int)) = (K : Int)
  wQ : IntKind.i64.wrap (99999 + (t : Int)) = (Q : Int)
  wQ1 : IntKind.i64.wrap ((Q : Int).tdiv 2) = (Q1 : Int)
  tQ1 : (Q : Int).tdiv 2 = (Q1 : Int)
  rQ1 : wrap64 (Q1 : Int) = (Q1 : Int)
  wQ2 : IntKind.i64.wrap ((Q : Int) - (Q1 : Int)) = (Q2 : Int)
  rQ2 : wrap64 ((Q : Int) - (Q1 : Int)) = (Q2 : Int)
  wp : IntKind.i64.wrap (1 + (r : Int)) = (p : Int)
  wD : IntKind.i64.wrap ((10000000000000 : Int).tdiv (p : Int)) = (D : Int)
  tD : (10000000000000 : Int).tdiv (p : Int) = (D : Int)
  rD : wrap64 (D : Int) = (D : Int)
  e1 : (if (D : Int) < 99999 then (D : Int) else 99999) = (m : Int)
  e2 : (if (99999 : Int) < (D : Int) then 99999 else (D : Int)) = (m : Int)
  p0 : (p : Int) ≠ 0
  wm : IntKind.i64.wrap ((m : Int) + 1) = (m1 : Int)
  wP1 : IntKind.i64.wrap ((m : Int) * (p : Int)) = (P1 : Int)
  wP2 : IntKind.i64.wrap ((m1 : Int) * (p : Int)) = (P2 : Int)
  c1 : checkE oneI (List.replicate K (aL 0 0)) = if 1000 < K then 6 else 0
  c2 : checkE oneI [aL (Q1 : Int) 0, aL (Q2 : Int) 0] = if 100000 < Q then 5 else 0
  c3 : checkE oneI [aL (m : Int) (p : Int)] = 0
  c4 : checkE oneI [aL (m1 : Int) (p : Int)] = if 10000000000000 < P2 then 5 else 0
  c5 : grossN [⟨⟨#[113]⟩, (m : Int), (p : Int)⟩] = (P1 : Int)
  bK : K = 999 + t
  bQ : Q = 99999 + t
  b1 : Q1 ≤ 100000
  b2 : Q2 ≤ 100000
  bm : m ≤ 99999
  bm1 : m1 ≤ 100000
  bp : p ≤ 1000000000

theorem nums_of (t r : Nat) (ht : t < 3) (hr : r < 1000000000) : ∃ K Q Q1 Q2 p D m m1 P1 P2, Nums t r K Q Q1 Q2 p D m m1 P1 P2 := by
  obtain ⟨K, hK⟩ : ∃ K, 999 + t = K := ⟨_, rfl⟩
  obtain ⟨Q, hQ⟩ : ∃ Q, 99999 + t = Q := ⟨_, rfl⟩
  obtain ⟨Q1, hQ1⟩ : ∃ Q1, Q / 2 = Q1 := ⟨_, rfl⟩
  obtain ⟨Q2, hQ2⟩ : ∃ Q2, Q - Q1 = Q2 := ⟨_, rfl⟩
  have f1 : Q1 ≤ 100000 ∧ Q2 ≤ 100000 ∧ Q1 ≤ Q ∧ Q ≤ 1000000 ∧ Q1 + Q2 = Q := by omega
  obtain ⟨p, hp⟩ : ∃ p, 1 + r = p := ⟨_, rfl⟩
  have f2 : 0 < p ∧ p ≤ 1000000000 := by omega
  obtain ⟨D, hD⟩ : ∃ D, 10000000000000 / p = D := ⟨_, rfl⟩
  have f3 : D ≤ 10000000000000 := by rw [← hD]; exact Nat.div_le_self _ _
  have f4 : D * p ≤ 10000000000000 := by rw [← hD]; exact Nat.div_mul_le_self _ _
  obtain ⟨m, hm⟩ : ∃ m, min D 99999 = m := ⟨_, rfl⟩
  have f5 : m ≤ D ∧ m ≤ 99999 := by rw [← hm]; exact ⟨Nat.min_le_left _ _, Nat.min_le_right _ _⟩
  obtain ⟨m1, hm1⟩ : ∃ m1, m + 1 = m1 := ⟨_, rfl⟩
  have f6 : m1 ≤ 100000 := by rw [← hm1]; exact Nat.succ_le_succ f5.2
  obtain ⟨P1, hP1⟩ : ∃ P1, m * p = P1 := ⟨_, rfl⟩
  obtain ⟨P2, hP2⟩ : ∃ P2, m1 * p = P2 := ⟨_, rfl⟩
  have f7 : P1 ≤ 10000000000000 := by rw [← hP1]; exact Nat.le_trans (Nat.mul_le_mul_right p f5.1) f4
  have f8 : P2 ≤ 100000000000000 := by rw [← hP2]; exact Nat.le_trans (Nat.mul_le_mul f6 f2.2) (by decide)
  have g1 : (m : Int) * (p : Int) = (P1 : Int) := by rw [← Int.natCast_mul, hP1]
  have g2 : (m1 : Int) * (p : Int) = (P2 : Int) := by rw [← Int.natCast_mul, hP2]
  have iw := wr_sub Q Q1 Q2 hQ2 f1.2.2.1 (Nat.le_trans f1.2.2.2.1 (by decide))
  have td1 := td_nat Q 2 Q1 hQ1
  have td2 := td_nat 10000000000000 p D hD
  have mi := min_if D m hm
  have b0 : ∀ k : Nat, (0 : Int) ≤ (k : Int) := fun k => Int.natCast_nonneg k
  have le' : ∀ (a b : Nat), a ≤ b → (a : Int) ≤ (b : Int) := fun a b h => Int.ofNat_le.2 h
  refine ⟨K, Q, Q1, Q2, p, D, m, m1, P1, P2, (by rw [show (999 : Int) = ((999 : Nat) : Int) from rfl]; exact wr_add 999 t K hK (by rw [← hK]; exact Nat.le_trans (Nat.add_le_add_left (Nat.le_of_lt ht) 999) (by decide))), (by rw [show (99999 : Int) = ((99999 : Nat) : Int) from rfl]; exact wr_add 99999 t Q hQ (Nat.le_trans f1.2.2.2.1 (by decide))), by rw [show (2 : Int) = ((2 : Nat) : Int) from rfl, td1]; exact wr_nat _ (Nat.le_trans f1.1 (by decide)), td1, wr_nat' _ (Nat.le_trans f1.1 (by decide)), iw.1, iw.2, (by rw [show (1 : Int) = ((1 : Nat) : Int) from rfl]; exact wr_add 1 r p hp (Nat.le_trans f2.2 (by decide))), ?_, td2, wr_nat' _ (Nat.le_trans f3 (by decide)), mi.1, mi.2, ?_, (by rw [show (1 : Int) = ((1 : Nat) : Int) from rfl]; exact wr_add m 1 m1 hm1 (Nat.le_trans f6 (by decide))), wr_mul m p P1 hP1 (Nat.le_trans f7 (by decide)), wr_mul m1 p P2 hP2 (Nat.le_trans f8 (by decide)), many_check K, ?_, ?_, ?_, ?_, hK.symm, hQ.symm, f1.1, f1.2.1, f5.2, f6, f2.2⟩
  · rw [show (10000000000000 : Int) = ((10000000000000 : Nat) : Int) from rfl, td2]; exact wr_nat _ (Nat.le_trans f3 (by decide))
  · exact fun e => absurd (Int.ofNat.inj e) (Nat.ne_of_gt f2.1)
  · rw [two_check (b0 _) (le' _ _ f1.1) (b0 _) (le' _ _ f1.2.1)]
    have e : (Q1 : Int) + (Q2 : Int) = (Q : Int) := by rw [← Int.natCast_add, f1.2.2.2.2]
    rw [e]
    exact if_cast 100000 Q 5 0
  · rw [one_check (b0 _) (le' m 100000 (Nat.le_trans f5.2 (by decide))) (b0 _) (le' _ _ f2.2), g1]
    exact (if_cast 10000000000000 P1 5 0).trans (if_neg (Nat.not_lt.2 f7))
  · rw [one_check (b0 _) (le' _ _ f6) (b0 _) (le' _ _ f2.2), g2]
    exact if_cast 10000000000000 P2 5 0
  · rw [one_gross (b0 _) (le' m 100000 (Nat.le_trans f5.2 (by decide))) (b0 _) (le' _ _ f2.2) (by rw [g1]; exact le' _ _ f7), g1]

end Go.Proofs.Ytdmpnkhgcggepaa.Bk
