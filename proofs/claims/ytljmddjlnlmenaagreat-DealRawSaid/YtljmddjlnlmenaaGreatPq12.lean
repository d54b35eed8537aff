/- Contracts of package share's inner functions but divide: allRight, added, portion; rows of numbers in memory. · Contract .. -/
import Derived.Deep.LoopGhost
import Derived.Laws.OwnMore
import Derived.Test.YtljmddjlnlmenaaGreatPq10
import Derived.Test.YtljmddjlnlmenaaGreatPq11
set_option maxRecDepth 100000
set_option linter.unusedVariables false

section
namespace Go.Proofs.YtljmddjlnlmenaaGreat.Sh
open Go.ChangeShapes Go.WideShapes Go.ChangeAt Go.RowKit
open Qu (Blk IsQ Moved Pt ord)
theorem allOk_no (f : Nat -> Int) (n k : Nat) (hk : k < n) (h : ¬ (0 <= f k /\ f k <= 100000000000000)) : allOk f n = false := by
  cases hb : allOk f n with
  | false => rfl
  | true => exact absurd ((allOk_iff f n).1 hb k hk) h
theorem allRight_any (A : Option Addr) (n c : Nat) (f : Nat -> Int) (M : Nat) (w : World) (ha : Hl.Ints w M A n f) :
    Calls Tryz.prog 74 #[.slice A n c] w fun e w' => e = .returned (.bool (decide (n <= 100000) && allOk f n)) /\ w = w' := by
  by_cases hn : n <= 100000
  . have n1 : (n : Int) <= 100000 := by omega
    have HN := Lib.hid hn
    clear hn
    go_enter Tryz.func74, Tryz.ntmps74
    go_wp2
    go_loopw [10] (fun s wr => ∃ k : Nat, s = .int .i64 k /\ k <= n /\ w = wr /\ ∀ j, j < k -> 0 <= f j /\ f j <= 100000000000000) (fun s _ => n - (intOf s).toNat)
    case atStart => exact ⟨0, rfl, by omega, rfl, fun j hj => by omega⟩
    case round =>
      obtain ⟨k, rfl, hk, rfl, hE⟩ := hrel
      have HE := Lib.hid hE
      clear hE
      by_cases hlt : k < n
      . obtain ⟨b, o, rfl, hbm, c1⟩ := ha k hlt
        have k0 : (0 : Int) <= (k : Int) := by omega
        have k1 : (k : Int) < (n : Int) := by omega
        have HA := Lib.hid ha
        clear ha
        by_cases hx : 0 <= f k /\ f k <= 100000000000000
        . have HX := Lib.hid hx
          clear hx
          go_wp2_with fail
          refine (Mn.right_yes _ _ HX.out.1 HX.out.2).mono ?_
          rintro e w1 ⟨rfl, rfl⟩
          go_wp2
          go_roundw
          case rel => exact ⟨k + 1, by go_num, by omega, by trivial, fun j hj => by
            rcases Nat.lt_or_ge j k with h | h
            . exact HE.out j h
            . have : j = k := by omega
              subst this; exact HX.out⟩
          case measure => simp [intOf]; omega
        . have HX := Lib.hid (show f k < 0 \/ 100000000000000 < f k by omega)
          have HF := Lib.hid (allOk_no f n k hlt hx)
          clear hx
          go_wp2_with fail
          refine (Mn.right_no _ _ HX.out).mono ?_
          rintro e w1 ⟨rfl, rfl⟩
          go_wp2
          go_ret
          exact ⟨by rw [HF.out, Bool.and_false]; rfl, rfl⟩
      . have HF : Hid ((decide (n <= 100000) && allOk f n) = true) := Lib.hid (by
          rw [Bool.and_eq_true, decide_eq_true_eq, allOk_iff]
          exact ⟨HN.out, fun j hj => HE.out j (by omega)⟩)
        have k1 : ¬ (k : Int) < (n : Int) := by omega
        go_wp2
        go_ret
        exact ⟨by rw [HF.out]; rfl, rfl⟩
  . have n1 : ¬ (n : Int) <= 100000 := by omega
    have n2 : (100000 : Int) < (n : Int) := by omega
    have HF : Hid ((decide (n <= 100000) && allOk f n) = false) := Lib.hid (by simp [hn])
    clear hn
    go_enter Tryz.func74, Tryz.ntmps74
    go_wp2
    go_ret
    exact ⟨by rw [HF.out]; rfl, rfl⟩
def addedR (f : Nat -> Int) (n : Nat) : Int × Int := if sumF f n <= 100000000000000 then (sumF f n, 0) else (0, 5)
theorem added_any (A : Option Addr) (n c : Nat) (f : Nat -> Int) (M : Nat) (w : World) (ha : Hl.Ints w M A n f) (hn : n <= 100000) (hf : ∀ k, k < n -> 0 <= f k /\ f k <= 100000000000000) :
    Calls Tryz.prog 75 #[.slice A n c] w fun e w' => e = Rf.pairOf (addedR f n) /\ w = w' := by
  have n1 : (n : Int) <= 100000 := by omega
  have HF := Lib.hid hf
  clear hf
  unfold Rf.pairOf
  go_enter Tryz.func75, Tryz.ntmps75
  go_wp2
  go_loopw [4, 11] (fun v s wr => ∃ (k : Nat) (x : Int), v = .int .i64 x /\ s = .int .i64 k /\ k <= n /\ w = wr /\ x = sumF f k /\ 0 <= x /\ x <= 100000000000000) (fun _ s _ => n - (intOf s).toNat)
  case atStart => exact ⟨0, 0, rfl, rfl, by omega, rfl, rfl, by omega, by omega⟩
  case round =>
    obtain ⟨k, x, rfl, rfl, hk, rfl, hx, x0, x1⟩ := hrel
    have HX := Lib.hid hx
    clear hx
    by_cases hlt : k < n
    . obtain ⟨b, o, rfl, hbm, c1⟩ := ha k hlt
      have k0 : (0 : Int) <= (k : Int) := by omega
      have k1 : (k : Int) < (n : Int) := by omega
      have HA := Lib.hid ha
      have HS : Hid (sumF f (k + 1) = x + f k) := Lib.hid (by rw [HX.out]; rfl)
      clear ha
      by_cases hs : x + f k <= 100000000000000
      . have HY := Lib.hid hs
        clear hs
        go_wp2_with fail
        refine (Mn.add_ok _ _ _ x0 x1 (HF.out k hlt).1 (HF.out k hlt).2 HY.out).mono ?_
        rintro e w1 ⟨rfl, rfl⟩
        go_wp2
        go_roundw
        case rel => exact ⟨k + 1, x + f k, by trivial, by go_num, by omega, by trivial, HS.out.symm, by have := (HF.out k hlt).1; omega, HY.out⟩
        case measure => simp [intOf]; omega
      . have HY := Lib.hid (show 100000000000000 < x + f k by omega)
        have HR : Hid (addedR f n = (0, 5)) := Lib.hid (by
          unfold addedR
          rw [if_neg]
          have := sumF_le (f := f) (k + 1) n (by omega) (fun j hj => (HF.out j hj).1)
          have := HS.out
          omega)
        clear hs
        go_wp2_with fail
        refine (Mn.add_over _ _ _ x0 x1 (HF.out k hlt).1 (HF.out k hlt).2 HY.out).mono ?_
        rintro e w1 ⟨rfl, rfl⟩
        go_wp2
        go_ret2
        exact ⟨by rw [HR.out]; rfl, rfl⟩
    . obtain rfl : k = n := by omega
      have HR : Hid (addedR f k = (x, 0)) := Lib.hid (by unfold addedR; rw [<- HX.out, if_pos x1])
      have k1 : ¬ (k : Int) < (k : Int) := by omega
      go_wp2
      go_ret2
      exact ⟨by rw [HR.out]; rfl, rfl⟩
theorem portion_any (t x S : Int) (w : World) (t0 : 0 <= t) (t1 : t <= 100000000000000) (x0 : 0 <= x) (x1 : x <= S) (S0 : 1 <= S) (S1 : S <= 100000000000000) :
    Calls Tryz.prog 103 #[.int .i64 t, .int .i64 x, .int .i64 S] w fun e w' => e = .returned (.tuple #[.int .i64 (t * x / S), .int .i64 (t * x % S)]) /\ Below w.heap.size w w' := by
  have hq := upto_in t S x t0 S0 x0 x1
  have HM := Lib.hid (Mn.mul_gives t x t0 t1 x0 (by omega))
  have HD := Lib.hid (Dv.need_all t x S t0 t1 x0 (by omega) S0 S1 (Mn.high_small (t * x) S S0 (by omega)))
  have q0 := hq.1
  have q1 : t * x / S <= 100000000000000 := by omega
  have r0 : 0 <= t * x % S := Int.emod_nonneg _ (by omega)
  have r1 : t * x % S < S := Int.emod_lt_of_pos _ (by omega)
  clear hq
  generalize t * x / S = q at *
  generalize t * x % S = r at *
  generalize t * x / 18446744073709551616 = hi at *
  generalize t * x % 18446744073709551616 = lo at *
  go_enter Tryz.func103, Tryz.ntmps103
  go_wp2_with fail
  refine (HM.out _).mono ?_
  rintro e w1 ⟨rfl, rfl⟩
  go_wp2_with fail
  refine (HD.out _).mono ?_
  rintro e w2 ⟨rfl, hb⟩
  go_wp2
  go_ret2
  exact ⟨rfl, hb⟩
def cellsL (l : List Int) : Array Value := (l.map (Value.int .i64)).toArray
def RowAt (w : World) (g : Nat) (l : List Int) : Prop := Blk w g 2 (cellsL l)
theorem RowAt.cell {w : World} {g : Nat} {l : List Int} (h : RowAt w g l) (k : Nat) (hk : k < l.length) : w.cell? ⟨g, k, none⟩ = some (.int .i64 (nth l k)) := by
  rw [Blk.cell h k]
  unfold cellsL nth
  simp [hk]
theorem RowAt.put {w : World} {g : Nat} {l : List Int} (h : RowAt w g l) (k : Nat) (y : Int) : RowAt (w.setCell ⟨g, k, none⟩ (.int .i64 y)) g (l.set k y) := by
  have h1 := Blk.put h k (.int .i64 y)
  have e : (cellsL l).setIfInBounds k (.int .i64 y) = cellsL (l.set k y) := by
    unfold cellsL
    rw [List.setIfInBounds_toArray, List.map_set]
  rw [e] at h1
  exact h1
theorem RowAt.below {w w' : World} {g : Nat} {l : List Int} (h : RowAt w g l) (hb : Below w.heap.size w w') : RowAt w' g l := Blk.below h hb
theorem RowAt.ints {w : World} {g : Nat} {l : List Int} (h : RowAt w g l) : Hl.Ints w w.heap.size (some ⟨g, 0, none⟩) l.length (nth l) := fun k hk => by
  refine ⟨g, 0, rfl, Blk.lt h, ?_⟩
  rw [Nat.zero_add]
  exact h.cell k hk
theorem RowAt.made (w : World) (n : Nat) : RowAt (w.alloc (.cells (madeCells #[.int .i64 0] n) 2)) w.heap.size (List.replicate n 0) := by
  have e : madeCells #[.int .i64 0] n = cellsL (List.replicate n 0) := by
    apply Array.toList_inj.1
    rw [toList_madeCells_one]
    unfold cellsL
    simp
  unfold RowAt
  rw [<- e]
  exact Blk.new _ _ _
theorem RowAt.moved {w w' : World} {B q g : Nat} {r : Option Nat} {l : List Int} {ps : List Pt} (h : RowAt w g l) (hq : IsQ w B q r ps) (hm : Moved w w' q r) : RowAt w' g l := hq.blk hm h (by omega) (by omega)
theorem que_put {w : World} {B q g k : Nat} {r : Option Nat} {l : List Int} {ps : List Pt} {u : Value} (h : IsQ w B q r ps) (hr : RowAt w g l) : IsQ (w.setCell ⟨g, k, none⟩ u) B q r ps := by
  have hne : some q ≠ some g := by
    obtain ⟨hs, v, a, hQ, _⟩ := h
    intro e
    injection e with e
    subst e
    have h2 : 2 ≠ 132 := by omega
    have h4 := hQ.blk.here
    rw [hr.here] at h4
    injection h4 with h4
    injection h4 with _ h4
    exact h2 h4
  have hne2 : r = none \/ r ≠ some g := by
    right
    obtain ⟨hs, v, a, hQ, rfl, _⟩ := h
    exact fun e => Qu.own_blk_ne hQ.own hr (by omega) e.symm
  exact h.grown (Qu.turned_at w g k u) hne hne2
theorem info_row : (Tryz.prog.info? 2).map (fun i => (i.zero, i.size, i.bytes)) = some (some (.int .i64 0), 1, 8) := by kernel_rfl
theorem make_row (n : Nat) (hn : n <= 900000000) (W : World) : (Instr.makeSlice 60 (.int .i64 (n : Int)) (.int .i64 (n : Int))).run Tryz.prog W = .ok (.slice (some ⟨W.heap.size, 0, none⟩) n n) (W.alloc (.cells (madeCells #[.int .i64 0] n) 2)) := by
  obtain ⟨i0, hi0, hz0, hz1, hz2⟩ := info_parts info_row
  have hr := run_make (P := Tryz.prog) W 60 2 i0 _ Tryz.underlying60 hi0 hz0 .i64 .i64 (n : Int) (n : Int) (by omega) (by omega) (by rw [hz2]; omega) (by omega)
  rw [hz1, Nat.mul_one] at hr
  simp only [Int.toNat_natCast] at hr
  exact hr
end Go.Proofs.YtljmddjlnlmenaaGreat.Sh

end

section
namespace Go.Proofs.YtljmddjlnlmenaaGreat.Sh
open Go.ChangeShapes Go.WideShapes Go.ChangeAt Go.RowKit
open Qu (Blk IsQ Moved Pt ord)
def part1 (t S : Int) (f : Nat -> Int) (n k : Nat) : List Int := baseL t S f k ++ List.replicate (n - k) 0
theorem part1_length (t S : Int) (f : Nat -> Int) (n k : Nat) (hk : k <= n) : (part1 t S f n k).length = n := by
  unfold part1
  rw [List.length_append, baseL_length, List.length_replicate]
  omega
theorem part1_zero (t S : Int) (f : Nat -> Int) (n : Nat) : part1 t S f n 0 = List.replicate n 0 := by simp [part1, baseL]
theorem part1_end (t S : Int) (f : Nat -> Int) (n : Nat) : part1 t S f n n = baseL t S f n := by simp [part1]
theorem part1_set (t S : Int) (f : Nat -> Int) (n k : Nat) (hk : k < n) : (part1 t S f n k).set k (base t S f k) = part1 t S f n (k + 1) := by
  unfold part1
  rw [List.set_append_right _ _ (by rw [baseL_length]; omega), baseL_length, Nat.sub_self]
  obtain ⟨m, hm⟩ : ∃ m, n - k = m + 1 := ⟨n - k - 1, by omega⟩
  have hm2 : n - (k + 1) = m := by omega
  rw [hm, hm2, List.replicate_succ]
  unfold baseL
  rw [List.range_succ, List.map_append]
  simp
structure Div1 (w wr : World) (t S : Int) (f : Nat -> Int) (n k : Nat) (r : Option Nat) : Prop where
  que : IsQ wr w.heap.size (w.heap.size + 1) r (ord (rest t S f) k)
  row : RowAt wr w.heap.size (part1 t S f n k)
  below : Below w.heap.size w wr
structure Div2 (w wr : World) (t S : Int) (f : Nat -> Int) (n j : Nat) (r : Option Nat) : Prop where
  que : IsQ wr w.heap.size (w.heap.size + 1) r ((ord (rest t S f) n).drop j)
  row : RowAt wr w.heap.size (bump (baseL t S f n) ((ord (rest t S f) n).take j))
  below : Below w.heap.size w wr
theorem Div1.step {w wr w2 w4 : World} {t S : Int} {f : Nat -> Int} {n k : Nat} {r r' : Option Nat} (h : Div1 w wr t S f n k r) (hk : k < n) (hb : Below wr.heap.size wr w2)
    (hq : IsQ w4 w.heap.size (w.heap.size + 1) r' (Qu.ins (rest t S f k, (k : Int)) (ord (rest t S f) k))) (hm : Moved (w2.setCell ⟨w.heap.size, k, none⟩ (.int .i64 (base t S f k))) w4 (w.heap.size + 1) r)
    (hq0 : IsQ (w2.setCell ⟨w.heap.size, k, none⟩ (.int .i64 (base t S f k))) w.heap.size (w.heap.size + 1) r (ord (rest t S f) k)) : Div1 w w4 t S f n (k + 1) r' := by
  have hr := (h.row.below hb).put k (base t S f k)
  rw [part1_set _ _ _ _ _ hk] at hr
  have hw2 : Below w.heap.size w w2 := h.below.trans (hb.mono h.below.size)
  exact ⟨hq, hr.moved hq0 hm, (hw2.setCell (Nat.le_refl _) _).trans (hq0.toBelow hm)⟩
theorem Div2.step {w wr w1 : World} {t S : Int} {f : Nat -> Int} {n j : Nat} {r : Option Nat} {x : Pt} (h : Div2 w wr t S f n j r) (hx : (ord (rest t S f) n)[j]? = some x)
    (hq : IsQ w1 w.heap.size (w.heap.size + 1) r ((ord (rest t S f) n).drop (j + 1))) (hm : Moved wr w1 (w.heap.size + 1) r) :
    RowAt w1 w.heap.size (bump (baseL t S f n) ((ord (rest t S f) n).take j)) /\ Div2 w (w1.setCell ⟨w.heap.size, x.2.toNat, none⟩ (.int .i64 (nth (bump (baseL t S f n) ((ord (rest t S f) n).take j)) x.2.toNat + 1))) t S f n (j + 1) r := by
  have hr := h.row.moved h.que hm
  refine ⟨hr, que_put hq hr, ?_, (h.below.trans (h.que.toBelow hm)).setCell (Nat.le_refl _) _⟩
  have e : (ord (rest t S f) n).take (j + 1) = (ord (rest t S f) n).take j ++ [x] := by rw [List.take_add_one, hx]; rfl
  rw [e, bump_snoc]
  exact hr.put _ _
def Shared (e : Ending) (w w' : World) (n : Nat) (l : List Int) : Prop := ∃ g, e = .returned (.slice (some ⟨g, 0, none⟩) n n) /\ RowAt w' g l /\ Below w.heap.size w w'
theorem nth_bump_in {t S : Int} {f : Nat -> Int} {n : Nat} (S0 : 1 <= S) (t0 : 0 <= t) (hf : ∀ k, k < n -> 0 <= f k /\ f k <= S) (j i : Nat) (hi : i < n) (hj : j <= n) :
    0 <= nth (bump (baseL t S f n) ((ord (rest t S f) n).take j)) i /\ nth (bump (baseL t S f n) ((ord (rest t S f) n).take j)) i <= t + n := by
  rw [nth_bump i _ _ (by rw [baseL_length]; exact hi), nth_baseL _ _ _ _ _ hi]
  have h1 := base_nonneg S0 t0 i (hf i hi).1
  have h2 := base_le S0 t0 i (hf i hi).2
  have h3 : (places ((ord (rest t S f) n).take j)).count i <= (places ((ord (rest t S f) n).take j)).length := List.count_le_length
  unfold places at h3 ⊢
  rw [List.length_map, List.length_take] at h3
  omega
set_option maxHeartbeats 1000000 in
set_option maxRecDepth 100000 in
theorem divide_any (t S : Int) (A : Option Addr) (n c : Nat) (f : Nat -> Int) (w : World) (ha : Hl.Ints w w.heap.size A n f) (hn : n <= 100000) (t0 : 0 <= t) (t1 : t <= 100000000000000) (S0 : 1 <= S) (S1 : S <= 100000000000000)
    (hS : S = sumF f n) (hf : ∀ k, k < n -> 0 <= f k /\ f k <= S) :
    Calls Tryz.prog 76 #[.int .i64 t, .slice A n c, .int .i64 S] w fun e w' => Shared e w w' n (parts t S f n) := by
  have n1 : (n : Int) <= 100000 := by omega
  have hmk := make_row n (by omega)
  have HF := Lib.hid (And.intro hS hf)
  have HA := Lib.hid ha
  have HR0 := Lib.hid (RowAt.made w n)
  clear hS hf ha
  go_enter Tryz.func76, Tryz.ntmps76
  go_wp2_with fail
  refine (Qu.queue_new w.heap.size _ (by simp)).mono ?_
  rintro e w1 ⟨rfl, hQ, hB, hZ⟩
  have HD0 : Hid (Div1 w w1 t S f n 0 none) := Lib.hid (by
    refine ⟨?_, ?_, ((Below.refl _ _).alloc (Nat.le_refl _) _).trans (hB.mono (by simp))⟩
    . have e : (w.alloc (.cells (madeCells #[.int .i64 0] n) 2)).heap.size = w.heap.size + 1 := by simp
      rw [e] at hQ
      exact hQ
    . rw [part1_zero]
      exact HR0.out.below hB)
  have hz : (w.alloc (.cells (madeCells #[.int .i64 0] n) 2)).heap.size = w.heap.size + 1 := by simp
  rw [hz]
  clear hQ hB hZ hz HR0
  go_wp2
  go_loopw [9, 24] (fun v s wr => ∃ (k : Nat) (r : Option Nat), v = .int .i64 (left t S f k) /\ s = .int .i64 k /\ k <= n /\ Div1 w wr t S f n k r) (fun _ s _ => n - (intOf s).toNat)
  case atStart => exact ⟨0, none, by simp [left, sumF], rfl, by omega, HD0.out⟩
  case round =>
    clear HD0
    obtain ⟨k, r, rfl, rfl, hk, hD⟩ := hrel
    by_cases hlt : k < n
    . obtain ⟨b, o, rfl, hbm, h1⟩ := HA.out k hlt
      have c1 : wr.cell? ⟨b, o + k, none⟩ = some (.int .i64 (f k)) := (hD.below.cell (p := ⟨b, o + k, none⟩) hbm).trans h1
      have k0 : (0 : Int) <= (k : Int) := by omega
      have k1 : (k : Int) < (n : Int) := by omega
      have HP := Lib.hid (portion_any t (f k) S wr t0 t1 (HF.out.2 k hlt).1 (HF.out.2 k hlt).2 S0 S1)
      have hl0 := left_mid n S0 HF.out.1 t0 k hk (fun j hj => (HF.out.2 j hj).1)
      have hl1 := left_le n S0 t0 k hk (fun j hj => (HF.out.2 j hj).1)
      have hl2 := left_mid n S0 HF.out.1 t0 (k + 1) (by omega) (fun j hj => (HF.out.2 j hj).1)
      have hls := left_step (t := t) (S := S) (f := f) k
      have hb0 := base_nonneg (f := f) S0 t0 k (HF.out.2 k hlt).1
      have HLS := Lib.hid hls
      rw [hls] at hl2
      have HD := Lib.hid hD
      clear h1 hD hls
      have eb : t * f k / S = base t S f k := rfl
      have er : t * f k % S = rest t S f k := rfl
      rw [eb, er] at HP
      clear eb er
      obtain ⟨x, hx⟩ : ∃ x, x = base t S f k := ⟨_, rfl⟩
      obtain ⟨y, hy⟩ : ∃ y, y = rest t S f k := ⟨_, rfl⟩
      obtain ⟨L, hL⟩ : ∃ L, L = left t S f k := ⟨_, rfl⟩
      rw [<- hx, <- hy] at HP
      rw [<- hx] at hb0 hl2
      rw [<- hL] at hl0 hl1 hl2
      rw [<- hL]
      have HX := Lib.hid (And.intro hx (And.intro hy hL))
      clear hx hy hL
      go_wp2_with fail
      refine HP.out.mono ?_
      rintro e w2 ⟨rfl, hb⟩
      have hr2 := HD.out.row.below hb
      have c2 := hr2.cell k (by rw [part1_length _ _ _ _ _ hk]; exact hlt)
      have c3 := Blk.frozen hr2 k
      have hq2 : IsQ (w2.setCell ⟨w.heap.size, k, none⟩ (.int .i64 x)) w.heap.size (w.heap.size + 1) r (ord (rest t S f) k) := que_put (HD.out.que.below hb) hr2
      have HP2 := Lib.hid (Qu.push_any (y, (k : Int)) w.heap.size (w.heap.size + 1) r (ord (rest t S f) k) _ hq2 (by rw [Qu.ord_length]; omega))
      have HQ2 := Lib.hid (And.intro hb hq2)
      clear hr2 hq2 hb
      go_wp2_with fail
      refine HP2.out.mono ?_
      rintro e w4 ⟨rfl, r', hQ4, hM4, hF4⟩
      have HN : Hid (Div1 w w4 t S f n (k + 1) r') := Lib.hid (by
        obtain ⟨e1, e2, e3⟩ := HX.out
        subst e1; subst e2; subst e3
        exact HD.out.step hlt HQ2.out.1 hQ4 hM4 HQ2.out.2)
      have HE : Hid (L - x = left t S f (k + 1)) := Lib.hid (by rw [HLS.out, HX.out.1, HX.out.2.2])
      clear hQ4 hM4 hF4
      go_wp2
      go_roundw
      case rel => exact ⟨k + 1, r', by first | (rw [HE.out]) | (rw [<- HE.out]), by go_num, by omega, HN.out⟩
      case measure => simp [intOf]; omega
    . obtain rfl : k = n := by omega
      have k1 : ¬ (k : Int) < (k : Int) := by omega
      have hl0 := left_nonneg (t := t) k S0 HF.out.1
      have hl1 := left_lt (t := t) k S0 HF.out.1
      have HD2 : Hid (Div2 w wr t S f k 0 r) := Lib.hid ⟨by rw [List.drop_zero]; exact hD.que, by rw [List.take_zero, bump_nil, <- part1_end]; exact hD.row, hD.below⟩
      obtain ⟨J, hJ⟩ : ∃ J : Nat, left t S f k = (J : Int) := ⟨(left t S f k).toNat, by omega⟩
      have hJk : J <= k := by omega
      rw [hJ]
      have HJ := Lib.hid hJ
      clear hD hJ hl0 hl1
      go_wp2
      go_loopw [49] (fun s wx => ∃ j : Nat, s = .int .i64 j /\ j <= J /\ Div2 w wx t S f k j r) (fun s _ => J - (intOf s).toNat)
      case atStart => exact ⟨0, rfl, by omega, HD2.out⟩
      case round =>
        clear HD2
        obtain ⟨j, rfl, hj, hD⟩ := hrel
        have j0 : (0 : Int) <= (j : Int) := by omega
        by_cases hlt2 : j < J
        . have j1 : (j : Int) < (J : Int) := by omega
          have j2 : (j : Int) <= 100000 := by omega
          obtain ⟨x, hx⟩ : ∃ x, (ord (rest t S f) k)[j]? = some x := ⟨_, List.getElem?_eq_getElem (by rw [Qu.ord_length]; omega)⟩
          have hxm := ord_place (List.mem_of_getElem? hx)
          have hdr : (ord (rest t S f) k).drop j = x :: (ord (rest t S f) k).drop (j + 1) := by
            rw [List.drop_eq_getElem_cons (by rw [Qu.ord_length]; omega)]
            congr 1
            exact (List.getElem?_eq_some_iff.1 hx).2
          have hq := hD.que
          rw [hdr] at hq
          have HP := Lib.hid (Qu.pop_some w.heap.size (w.heap.size + 1) r x _ _ hq (by rw [List.length_drop, Qu.ord_length]; omega))
          have hin := nth_bump_in S0 t0 HF.out.2 j x.2.toNat hxm.1 (by omega)
          have HX := Lib.hid (And.intro hx hxm)
          have HD := Lib.hid hD
          obtain ⟨i, hi⟩ : ∃ i, i = x.2.toNat := ⟨_, rfl⟩
          have ei : x.2 = (i : Int) := by have := hxm.2; rw [hi]; exact congrArg Prod.snd this
          rw [<- hi] at hin
          rw [ei] at HP
          have hik : (i : Int) < (k : Int) := by have := hxm.1; omega
          have i0 : (0 : Int) <= (i : Int) := by omega
          have HI := Lib.hid hi
          clear hxm hx hq hdr hD hi
          go_wp2_with fail
          refine HP.out.mono ?_
          rintro e w1 ⟨rfl, hq, hm⟩
          have hst := HD.out.step HX.out.1 hq hm
          rw [<- HI.out] at hst
          have c1 := hst.1.cell i (by rw [bump_length, baseL_length]; omega)
          have c2 := Blk.frozen hst.1 i
          have HST := Lib.hid hst.2
          generalize nth (bump (baseL t S f k) ((ord (rest t S f) k).take j)) i = z at *
          clear hq hm hst
          go_wp2
          go_roundw
          case rel => exact ⟨j + 1, by go_num, by omega, HST.out⟩
          case measure => simp [intOf]; omega
        . obtain rfl : j = J := by omega
          have j1 : ¬ (j : Int) < (j : Int) := by omega
          have HFI : Hid (RowAt wr w.heap.size (parts t S f k) /\ Below w.heap.size w wr) := Lib.hid (by
            refine ⟨?_, hD.below⟩
            have := hD.row
            unfold parts chosen
            rw [HJ.out, Int.toNat_natCast]
            exact this)
          clear hD
          go_wp2
          go_ret
          exact ⟨w.heap.size, rfl, HFI.out.1, HFI.out.2⟩
end Go.Proofs.YtljmddjlnlmenaaGreat.Sh

end

section
namespace Go.Proofs.YtljmddjlnlmenaaGreat.Sh
open Go.ChangeShapes Go.WideShapes Go.ChangeAt Go.RowKit
open Qu (Blk IsQ Moved Pt ord)
def Gave (e : Ending) (w w' : World) (p : List Int × Int) : Prop := ∃ A c, e = .returned (.tuple #[.slice A p.1.length c, .int .i64 p.2]) /\ Hl.Ints w' w'.heap.size A p.1.length (nth p.1) /\ Below w.heap.size w w'
theorem Gave.row {w w' : World} {g n : Nat} {l : List Int} (hl : l.length = n) (h : RowAt w' g l) (hb : Below w.heap.size w w') : Gave (.returned (.tuple #[.slice (some ⟨g, 0, none⟩) n n, .int .i64 0])) w w' (l, 0) := by
  subst hl
  exact ⟨_, _, rfl, h.ints, hb⟩
end Go.Proofs.YtljmddjlnlmenaaGreat.Sh

end

section
namespace Go.Proofs.YtljmddjlnlmenaaGreat.Qu
open Go.ChangeShapes Go.WideShapes Go.ChangeAt Go.RowKit
theorem ins_at (x : Pt) : ∀ (l : List Pt) (k : Nat), k <= l.length -> (∀ j y, j < k -> l[j]? = some y -> aheadB x y = false) -> (∀ y, l[k]? = some y -> aheadB x y = true) -> ins x l = l.take k ++ x :: l.drop k
  | [], k, hk, _, _ => by simp at hk; subst hk; rfl
  | y :: l, 0, _, _, h => by
    unfold ins
    rw [if_pos (h y rfl)]
    rfl
  | y :: l, k + 1, hk, h1, h2 => by
    unfold ins
    rw [if_neg (by rw [h1 0 y (by omega) rfl]; simp), ins_at x l k (by simpa using hk) (fun j z hj hz => h1 (j + 1) z (by omega) hz) (fun z hz => h2 z hz)]
    rfl
def plc (l : List Pt) : List Int := l.map (·.2)
def gap (l : List Pt) (k : Nat) (z : Int) : List Int := plc (l.take k) ++ z :: plc (l.drop k)
theorem gap_length (l : List Pt) (k : Nat) (z : Int) (hk : k <= l.length) : (gap l k z).length = l.length + 1 := by
  simp [gap, plc]
  omega
theorem gap_end (l : List Pt) (z : Int) : gap l l.length z = plc l ++ [z] := by simp [gap, plc]
theorem gap_set (l : List Pt) (k : Nat) (z y : Int) (hk : k <= l.length) : (gap l k z).set k y = gap l k y := by
  unfold gap
  have h : (plc (l.take k)).length = k := by simp [plc]; omega
  rw [List.set_append_right _ _ (by omega), h, Nat.sub_self]
  rfl
theorem gap_at (l : List Pt) (k : Nat) (z : Int) (p : Pt) (hp : l[k]? = some p) : (gap l (k + 1) z)[k]? = some p.2 /\ (gap l (k + 1) z).set (k + 1) p.2 = gap l k p.2 := by
  have hk : k < l.length := (List.getElem?_eq_some_iff.1 hp).1
  have h : (plc (l.take (k + 1))).length = k + 1 := by simp [plc]; omega
  refine ⟨?_, ?_⟩
  . unfold gap
    rw [List.getElem?_append_left (by omega)]
    simp [plc, hp]
  . rw [gap_set _ _ _ _ (by omega)]
    unfold gap
    have e1 : l.take (k + 1) = l.take k ++ [p] := by rw [List.take_add_one, hp]; rfl
    have e2 : l.drop k = p :: l.drop (k + 1) := by
      have := List.drop_eq_getElem_cons hk
      rw [this]
      congr 1
      exact (List.getElem?_eq_some_iff.1 hp).2
    rw [e1, e2]
    simp [plc]
theorem gap_ins (x : Pt) (l : List Pt) (k : Nat) (h : ins x l = l.take k ++ x :: l.drop k) : gap l k x.2 = plc (ins x l) := by
  rw [h]; simp [gap, plc]
structure OutAt (w wr : World) (v : Value) (m : Nat) (l : List Int) : Prop where
  own : wr.ownsRow w.heap.size 3 1 v m (l.map (Value.int .i64))
  below : Below w.heap.size w wr
theorem OutAt.drawn {w wr w' : World} {v : Value} {m : Nat} {l : List Int} (h : OutAt w wr v m l) (hd : Hl.Drawn wr w') : OutAt w w' v m l := by
  obtain ⟨d, rfl⟩ := hd
  exact ⟨h.own, below_draws h.below d⟩
theorem OutAt.len {w wr : World} {v : Value} {m : Nat} {l : List Int} (h : OutAt w wr v m l) : l.length = m := by simpa using h.own.1
theorem OutAt.form {w wr : World} {v : Value} {m : Nat} {l : List Int} (h : OutAt w wr v m l) (hm : 0 < m) : ∃ g cap, v = .slice (some ⟨g, 0, none⟩) m cap /\ w.heap.size <= g := by
  obtain ⟨g, cap, hv, hb, _⟩ := h.own.form hm
  exact ⟨g, cap, hv, hb⟩
theorem OutAt.cell {w wr : World} {g cap m : Nat} {l : List Int} (h : OutAt w wr (.slice (some ⟨g, 0, none⟩) m cap) m l) (k : Nat) (y : Int) (hy : l[k]? = some y) : wr.cell? ⟨g, k, none⟩ = some (.int .i64 y) := by
  have hk := (List.getElem?_eq_some_iff.1 hy).1
  rw [h.own.cellAt k (by have := h.len; omega), List.getElem?_map, hy]
  rfl
theorem OutAt.set_ {w wr : World} {g cap m : Nat} {l : List Int} (h : OutAt w wr (.slice (some ⟨g, 0, none⟩) m cap) m l) (hg : w.heap.size <= g) (k : Nat) (y : Int) : OutAt w (wr.setCell ⟨g, k, none⟩ (.int .i64 y)) (.slice (some ⟨g, 0, none⟩) m cap) m (l.set k y) := by
  obtain ⟨h1, h2⟩ := h.own.stored k (.int .i64 y)
  exact ⟨by rw [List.map_set]; exact h1, h.below.setCell hg _⟩
set_option maxHeartbeats 2000000 in
set_option maxRecDepth 100000 in
theorem ref_order (A : Option Addr) (n cap : Nat) (f : Nat -> Int) (w : World) (ha : Hl.Ints w w.heap.size A n f) (hn : n <= 900000000) :
    Calls Tryz.prog 69 #[.slice A n cap] w fun e w' => Ordered e w w' n f := by
  obtain ⟨i0, hi0, hz0, hz1, hz2⟩ := info_parts info_int
  have n1 : (n : Int) <= 900000000 := by omega
  go_enter Tryz.func69, Tryz.ntmps69
  go_wp2
  go_loopw [3, 4] (fun v s wr => ∃ (i : Nat) (A : Option Addr) (c : Nat), s = .int .i64 i /\ v = .slice A i c /\ i <= n /\ OutAt w wr v i (plc (ord f i))) (fun _ s _ => n - (intOf s).toNat)
  case atStart => exact ⟨0, none, 0, rfl, rfl, by omega, World.ownsRow_nil _ _ _ _, Below.refl _ _⟩
  case round =>
    obtain ⟨i, A', c', rfl, rfl, hi, hO⟩ := hrel
    obtain ⟨wo, hwo⟩ : ∃ wo : World, wo = wr := ⟨_, rfl⟩
    subst hwo
    by_cases hlt : i < n
    . have q1 : (i : Int) < (n : Int) := by omega
      have q0 : (0 : Int) <= (i : Int) := by omega
      have HO := Lib.hid hO
      have HA := Lib.hid ha
      have HL := Lib.hid (ord_length f i)
      clear hO ha
      go_wp2
      go_loopw [5] (fun s wr => ∃ k : Nat, s = .int .i64 k /\ k <= i /\ Hl.Drawn wo wr /\ ∀ j y, j < k -> (ord f i)[j]? = some y -> aheadB (f i, (i : Int)) y = false) (fun s _ => i - (intOf s).toNat)
      case atStart => exact ⟨0, rfl, by omega, ⟨0, rfl⟩, fun j y hj => by omega⟩
      case round =>
        obtain ⟨k, rfl, hk, hD, hE⟩ := hrel
        have k0 : (0 : Int) <= (k : Int) := by omega
        have HE := Lib.hid hE
        clear hE
        by_cases hki : k < i
        . have k1 : (k : Int) < (i : Int) := by omega
          obtain ⟨y, hy⟩ : ∃ y, (ord f i)[k]? = some y := ⟨_, List.getElem?_eq_getElem (by rw [HL.out]; exact hki)⟩
          obtain ⟨p, hp, hyp⟩ := ord_mem f i y (List.mem_of_getElem? hy)
          subst hyp
          have hO2 := HO.out.drawn hD
          obtain ⟨g, cg, hv, hg⟩ := hO2.form (by omega)
          cases hv
          have c1 := hO2.cell k (p : Int) (by simp [plc, hy])
          obtain ⟨b, o, rfl, hbm, hc2⟩ := HA.out p (by omega)
          have c2 : wr.cell? ⟨b, o + p, none⟩ = some (.int .i64 (f p)) := (hO2.below.cell (p := ⟨b, o + p, none⟩) hbm).trans hc2
          obtain ⟨b', o', hAA, hbm', hc3⟩ := HA.out i hlt
          cases hAA
          have c3 : wr.cell? ⟨b, o + i, none⟩ = some (.int .i64 (f i)) := (hO2.below.cell (p := ⟨b, o + i, none⟩) hbm').trans hc3
          have p0 : (0 : Int) <= (p : Int) := by omega
          have p1 : (p : Int) < (n : Int) := by omega
          have HD := Lib.hid hD
          have HY := Lib.hid hy
          have HPI := Lib.hid hp
          clear hO2 hc2 hc3 hD hbm hbm' hg hy hp
          by_cases hf : f i <= f p
          . have d1 : decide (f i <= f p) = true := by simpa using hf
            clear hf
            go_wp2_with fail
            go_quiet (fail)
            go_wp2
            go_roundw
            case rel => exact ⟨k + 1, by go_num, by omega, HD.out.more _, fun j z hj hz => by
              rcases Nat.lt_or_ge j k with h | h
              . exact HE.out j z h hz
              . have hjk : j = k := by omega
                subst hjk
                have hz2 := HY.out.symm.trans hz
                injection hz2 with hz2
                subst hz2
                rw [not_ahead]
                have := HPI.out
                simp at d1
                show ¬ (f p < f i \/ (f p = f i /\ (i : Int) < (p : Int)))
                omega⟩
            case measure => (simp [intOf] <;> omega)
          . have d1 : decide (f i <= f p) = false := by simp; omega
            have hins : Hid (ins (f i, (i : Int)) (ord f i) = (ord f i).take k ++ (f i, (i : Int)) :: (ord f i).drop k) := Lib.hid (ins_at _ _ k (by rw [HL.out]; omega) HE.out (fun z hz => by
              have hz2 := HY.out.symm.trans hz
              injection hz2 with hz2
              subst hz2
              rw [ahead_iff]
              left
              show f p < f i
              omega))
            clear hf
            go_wp2_with fail
            go_quiet (fail)
            have HO3 := Lib.hid (HO.out.drawn (HD.out.more nq))
            generalize World.drewN wr nq = wx at *
            go_wp2_with ((at_builtin; refine wpList_append_lies _ rfl _ _ 36 rfl w.heap.size 3 i0 _ 1 8 Tryz.underlying36 hi0 hz0 hz1 hz2 rfl (by omega) _ _ _ rfl (HO3.out.own.alloc _) ⟨wx.heap.size, 0, none⟩ 1 1 [.int .i64 0] rfl rfl (World.news_of_block (cs := #[.int .i64 0]) (t := 3) (fr := (0, 0)) (heap_alloc_new wx _)) (by simp [Value.oneCell']) (by omega) (by unfold maxLen; omega) (by omega) (by have := HO3.out.below.size; simp; omega) (wx.heap.size + 1) (by simp) ?_; intro g2 cp w4 hown hgrow hat hlt2))
            have HO4 : Hid (OutAt w w4 (.slice (some ⟨g2, 0, none⟩) (i + 1) cp) (i + 1) (gap (ord f i) i 0) /\ w.heap.size <= g2) := Lib.hid (by
              have hB := HO3.out.below
              have e := gap_end (ord f i) 0
              rw [HL.out] at e
              refine ⟨⟨?_, (hB.alloc hB.size _).grown hgrow (by have := hB.size; simp; omega) fun j hj => (HO3.out.own.lt j hj).1⟩, ?_⟩
              . rw [e, List.map_append]; exact hown
              . exact (hown.lt g2 rfl).1)
            clear hown hgrow hat hlt2
            go_wp2
            go_loopw [6] (fun s wr => ∃ (m : Nat) (z : Int), s = .int .i64 m /\ k <= m /\ m <= i /\ OutAt w wr (.slice (some ⟨g2, 0, none⟩) (i + 1) cp) (i + 1) (gap (ord f i) m z)) (fun s _ => (intOf s).toNat)
            case atStart => exact ⟨i, 0, rfl, by omega, by omega, HO4.out.1⟩
            case round =>
              obtain ⟨m, z, rfl, hkm, hmi, hO5⟩ := hrel
              have r0 : (0 : Int) <= (m : Int) := by omega
              have r1 : (m : Int) < (i : Int) + 1 := by omega
              by_cases hgo : k < m
              . obtain ⟨m, rfl⟩ : ∃ m', m = m' + 1 := ⟨m - 1, by omega⟩
                have r2 : (k : Int) < (m : Int) + 1 := by omega
                have r3 : (m : Int) < (i : Int) := by omega
                have r4 : (0 : Int) <= (m : Int) := by omega
                obtain ⟨y, hy⟩ : ∃ y, (ord f i)[m]? = some y := ⟨_, List.getElem?_eq_getElem (by rw [HL.out]; omega)⟩
                obtain ⟨ga, gs⟩ := gap_at (ord f i) m z y hy
                have c5 := hO5.cell m y.2 ga
                obtain ⟨z5, hz5⟩ : ∃ z5, (gap (ord f i) (m + 1) z)[m + 1]? = some z5 := ⟨_, List.getElem?_eq_getElem (by rw [gap_length _ _ _ (by rw [HL.out]; omega), HL.out]; omega)⟩
                have c6 := hO5.cell (m + 1) z5 hz5
                have c7 := hO5.own.frozenAt (m + 1)
                have hO6 := hO5.set_ HO4.out.2 (m + 1) y.2
                rw [gs] at hO6
                have HO6 := Lib.hid hO6
                clear hO6 hO5 gs ga hy hz5
                go_wp2
                go_roundw
                case rel => exact ⟨m, y.2, by go_num, by omega, by omega, HO6.out⟩
                case measure => (simp [intOf] <;> omega)
              . have hmk : k = m := by omega
                subst hmk
                have r2 : ¬ (k : Int) < (k : Int) := by omega
                obtain ⟨z5, hz5⟩ : ∃ z5, (gap (ord f i) k z)[k]? = some z5 := ⟨_, List.getElem?_eq_getElem (by rw [gap_length _ _ _ (by rw [HL.out]; omega), HL.out]; omega)⟩
                have c6 := hO5.cell k z5 hz5
                have c7 := hO5.own.frozenAt k
                have hO6 := hO5.set_ HO4.out.2 k (i : Int)
                rw [gap_set _ _ _ _ (by rw [HL.out]; omega), gap_ins (f i, (i : Int)) _ _ hins.out] at hO6
                have HO6 := Lib.hid hO6
                clear hO6 hO5 hz5
                go_wp2
                go_roundw
                case rel => exact ⟨i + 1, some ⟨g2, 0, none⟩, cp, by go_num, rfl, by omega, HO6.out⟩
                case measure => (simp [intOf] <;> omega)
        . obtain rfl : k = i := by omega
          have k1 : decide ((k : Int) < (k : Int)) = false := by simp
          have k2 : decide (k < k) = false := by simp
          have hins : Hid (ins (f k, (k : Int)) (ord f k) = (ord f k).take k ++ (f k, (k : Int)) :: (ord f k).drop k) := Lib.hid (ins_at _ _ k (by rw [HL.out]; omega) HE.out (fun z hz => by
            rw [List.getElem?_eq_none (by rw [HL.out]; omega)] at hz
            cases hz))
          have HD := Lib.hid hD
          clear hki hD
          go_wp2_with fail
          go_quiet (fail)
          have HO3 := Lib.hid (HO.out.drawn (HD.out.more nq))
          generalize World.drewN wr nq = wx at *
          go_wp2_with ((at_builtin; refine wpList_append_lies _ rfl _ _ 36 rfl w.heap.size 3 i0 _ 1 8 Tryz.underlying36 hi0 hz0 hz1 hz2 rfl (by omega) _ _ _ rfl (HO3.out.own.alloc _) ⟨wx.heap.size, 0, none⟩ 1 1 [.int .i64 0] rfl rfl (World.news_of_block (cs := #[.int .i64 0]) (t := 3) (fr := (0, 0)) (heap_alloc_new wx _)) (by simp [Value.oneCell']) (by omega) (by unfold maxLen; omega) (by omega) (by have := HO3.out.below.size; simp; omega) (wx.heap.size + 1) (by simp) ?_; intro g2 cp w4 hown hgrow hat hlt2))
          have HO4 : Hid (OutAt w w4 (.slice (some ⟨g2, 0, none⟩) (k + 1) cp) (k + 1) (gap (ord f k) k 0) /\ w.heap.size <= g2) := Lib.hid (by
            have hB := HO3.out.below
            have e := gap_end (ord f k) 0
            rw [HL.out] at e
            refine ⟨⟨?_, (hB.alloc hB.size _).grown hgrow (by have := hB.size; simp; omega) fun j hj => (HO3.out.own.lt j hj).1⟩, ?_⟩
            . rw [e, List.map_append]; exact hown
            . exact (hown.lt g2 rfl).1)
          clear hown hgrow hat hlt2
          go_wp2
          go_loopw [6] (fun s wr => ∃ (m : Nat) (z : Int), s = .int .i64 m /\ k <= m /\ m <= k /\ OutAt w wr (.slice (some ⟨g2, 0, none⟩) (k + 1) cp) (k + 1) (gap (ord f k) m z)) (fun s _ => (intOf s).toNat)
          case atStart => exact ⟨k, 0, rfl, by omega, by omega, HO4.out.1⟩
          case round =>
            obtain ⟨m, z, rfl, hkm, hmi, hO5⟩ := hrel
            have r0 : (0 : Int) <= (m : Int) := by omega
            have r1 : (m : Int) < (k : Int) + 1 := by omega
            by_cases hgo : k < m
            . exact absurd hgo (by omega)
            . have hmk : k = m := by omega
              subst hmk
              have r2 : ¬ (k : Int) < (k : Int) := by omega
              obtain ⟨z5, hz5⟩ : ∃ z5, (gap (ord f k) k z)[k]? = some z5 := ⟨_, List.getElem?_eq_getElem (by rw [gap_length _ _ _ (by rw [HL.out]; omega), HL.out]; omega)⟩
              have c6 := hO5.cell k z5 hz5
              have c7 := hO5.own.frozenAt k
              have hO6 := hO5.set_ HO4.out.2 k (k : Int)
              rw [gap_set _ _ _ _ (by rw [HL.out]; omega), gap_ins (f k, (k : Int)) _ _ hins.out] at hO6
              have HO6 := Lib.hid hO6
              clear hO6 hO5 hz5
              go_wp2
              go_roundw
              case rel => exact ⟨k + 1, some ⟨g2, 0, none⟩, cp, by go_num, rfl, by omega, HO6.out⟩
              case measure => (simp [intOf] <;> omega)
    . obtain rfl : i = n := by omega
      have q1 : ¬ (i : Int) < (i : Int) := by omega
      have HF : Hid (Ordered (.returned (.slice A' i c')) w wo i f) := Lib.hid ⟨A', c', rfl, by rw [nums_eq]; exact hO.own, hO.below⟩
      clear hO ha
      go_wp2
      go_ret
      exact HF.out
theorem ref_told (A : Option Addr) (n cap : Nat) (f : Nat -> Int) (w : World) (ha : Hl.Ints w w.heap.size A n f) (hn : n <= 900000000) :
    Calls Tryz.prog 69 #[.slice A n cap] w fun e w' => Told e w w' n ((ord f n).map (·.2)) :=
  (ref_order A n cap f w ha hn).mono fun e w' ⟨A', c, he, hown, hb⟩ => ⟨A', c, he, by rw [nums_eq] at hown; exact Hl.Ints.own hown, hb⟩
end Go.Proofs.YtljmddjlnlmenaaGreat.Qu

end
