/- Contracts of package share's inner functions but divide: allRight, added, portion; rows of numbers in memory. · Contract .. -/
import Derived.Deep.LoopGhost
import Derived.Deep.RegionWith
import Derived.Laws.OwnMore
import Derived.Test.YtljmddjlnlmenaaGreatPk10
import Derived.Test.YtljmddjlnlmenaaGreatPk6
import Derived.Test.YtljmddjlnlmenaaGreatPk9
set_option maxRecDepth 100000
set_option linter.unusedVariables false

section
namespace Go.Proofs.YtljmddjlnlmenaaGreat.Sh
open Go.ChangeShapes Go.WideShapes Go.ChangeAt Go.RowKit
open Qu (Blk IsQ Moved Pt ord)
theorem allOk_no (f : Nat -> Int) (n k : Nat) (hk : k < n) (h : ¬ (0 <= f k /\ f k <= 100000000000000)) : allOk f n = false := by
  cases hb : allOk f n with
  | false => rfl
  | true => exact absurd ((allOk_iff f n).1 hb k hk) h
theorem allRight_any (A : Option Addr) (n c : Nat) (f : Nat -> Int) (M : Nat) (w : World) (ha : Hl.Ints w M A n f) :
    Calls Tryz.prog 74 #[.slice A n c] w fun e w' => e = .returned (.bool (decide (n <= 100000) && allOk f n)) /\ w = w' := by
  by_cases hn : n <= 100000
  . have n1 : (n : Int) <= 100000 := by omega
    have HN := Lib.hid hn
    clear hn
    go_enter Tryz.func74, Tryz.ntmps74
    go_wp2
    go_loopw [10] (fun s wr => ∃ k : Nat, s = .int .i64 k /\ k <= n /\ w = wr /\ ∀ j, j < k -> 0 <= f j /\ f j <= 100000000000000) (fun s _ => n - (intOf s).toNat)
    case atStart => exact ⟨0, rfl, by omega, rfl, fun j hj => by omega⟩
    case round =>
      obtain ⟨k, rfl, hk, rfl, hE⟩ := hrel
      have HE := Lib.hid hE
      clear hE
      by_cases hlt : k < n
      . obtain ⟨b, o, rfl, hbm, c1⟩ := ha k hlt
        have k0 : (0 : Int) <= (k : Int) := by omega
        have k1 : (k : Int) < (n : Int) := by omega
        have HA := Lib.hid ha
        clear ha
        by_cases hx : 0 <= f k /\ f k <= 100000000000000
        . have HX := Lib.hid hx
          clear hx
          go_wp2_with fail
          refine (Mn.right_yes _ _ HX.out.1 HX.out.2).mono ?_
          rintro e w1 ⟨rfl, rfl⟩
          go_wp2
          go_roundw
          case rel => exact ⟨k + 1, by go_num, by omega, by trivial, fun j hj => by
            rcases Nat.lt_or_ge j k with h | h
            . exact HE.out j h
            . have : j = k := by omega
              subst this; exact HX.out⟩
          case measure => simp [intOf]; omega
        . have HX := Lib.hid (show f k < 0 \/ 100000000000000 < f k by omega)
          have HF := Lib.hid (allOk_no f n k hlt hx)
          clear hx
          go_wp2_with fail
          refine (Mn.right_no _ _ HX.out).mono ?_
          rintro e w1 ⟨rfl, rfl⟩
          go_wp2
          go_ret
          exact ⟨by rw [HF.out, Bool.and_false]; rfl, rfl⟩
      . have HF : Hid ((decide (n <= 100000) && allOk f n) = true) := Lib.hid (by
          rw [Bool.and_eq_true, decide_eq_true_eq, allOk_iff]
          exact ⟨HN.out, fun j hj => HE.out j (by omega)⟩)
        have k1 : ¬ (k : Int) < (n : Int) := by omega
        go_wp2
        go_ret
        exact ⟨by rw [HF.out]; rfl, rfl⟩
  . have n1 : ¬ (n : Int) <= 100000 := by omega
    have n2 : (100000 : Int) < (n : Int) := by omega
    have HF : Hid ((decide (n <= 100000) && allOk f n) = false) := Lib.hid (by simp [hn])
    clear hn
    go_enter Tryz.func74, Tryz.ntmps74
    go_wp2
    go_ret
    exact ⟨by rw [HF.out]; rfl, rfl⟩
def addedR (f : Nat -> Int) (n : Nat) : Int × Int := if sumF f n <= 100000000000000 then (sumF f n, 0) else (0, 5)
theorem added_any (A : Option Addr) (n c : Nat) (f : Nat -> Int) (M : Nat) (w : World) (ha : Hl.Ints w M A n f) (hn : n <= 100000) (hf : ∀ k, k < n -> 0 <= f k /\ f k <= 100000000000000) :
    Calls Tryz.prog 75 #[.slice A n c] w fun e w' => e = Rf.pairOf (addedR f n) /\ w = w' := by
  have n1 : (n : Int) <= 100000 := by omega
  have HF := Lib.hid hf
  clear hf
  unfold Rf.pairOf
  go_enter Tryz.func75, Tryz.ntmps75
  go_wp2
  go_loopw [4, 11] (fun v s wr => ∃ (k : Nat) (x : Int), v = .int .i64 x /\ s = .int .i64 k /\ k <= n /\ w = wr /\ x = sumF f k /\ 0 <= x /\ x <= 100000000000000) (fun _ s _ => n - (intOf s).toNat)
  case atStart => exact ⟨0, 0, rfl, rfl, by omega, rfl, rfl, by omega, by omega⟩
  case round =>
    obtain ⟨k, x, rfl, rfl, hk, rfl, hx, x0, x1⟩ := hrel
    have HX := Lib.hid hx
    clear hx
    by_cases hlt : k < n
    . obtain ⟨b, o, rfl, hbm, c1⟩ := ha k hlt
      have k0 : (0 : Int) <= (k : Int) := by omega
      have k1 : (k : Int) < (n : Int) := by omega
      have HA := Lib.hid ha
      have HS : Hid (sumF f (k + 1) = x + f k) := Lib.hid (by rw [HX.out]; rfl)
      clear ha
      by_cases hs : x + f k <= 100000000000000
      . have HY := Lib.hid hs
        clear hs
        go_wp2_with fail
        refine (Mn.add_ok _ _ _ x0 x1 (HF.out k hlt).1 (HF.out k hlt).2 HY.out).mono ?_
        rintro e w1 ⟨rfl, rfl⟩
        go_wp2
        go_roundw
        case rel => exact ⟨k + 1, x + f k, by trivial, by go_num, by omega, by trivial, HS.out.symm, by have := (HF.out k hlt).1; omega, HY.out⟩
        case measure => simp [intOf]; omega
      . have HY := Lib.hid (show 100000000000000 < x + f k by omega)
        have HR : Hid (addedR f n = (0, 5)) := Lib.hid (by
          unfold addedR
          rw [if_neg]
          have := sumF_le (f := f) (k + 1) n (by omega) (fun j hj => (HF.out j hj).1)
          have := HS.out
          omega)
        clear hs
        go_wp2_with fail
        refine (Mn.add_over _ _ _ x0 x1 (HF.out k hlt).1 (HF.out k hlt).2 HY.out).mono ?_
        rintro e w1 ⟨rfl, rfl⟩
        go_wp2
        go_ret2
        exact ⟨by rw [HR.out]; rfl, rfl⟩
    . obtain rfl : k = n := by omega
      have HR : Hid (addedR f k = (x, 0)) := Lib.hid (by unfold addedR; rw [<- HX.out, if_pos x1])
      have k1 : ¬ (k : Int) < (k : Int) := by omega
      go_wp2
      go_ret2
      exact ⟨by rw [HR.out]; rfl, rfl⟩
theorem portion_any (t x S : Int) (w : World) (t0 : 0 <= t) (t1 : t <= 100000000000000) (x0 : 0 <= x) (x1 : x <= S) (S0 : 1 <= S) (S1 : S <= 100000000000000) :
    Calls Tryz.prog 103 #[.int .i64 t, .int .i64 x, .int .i64 S] w fun e w' => e = .returned (.tuple #[.int .i64 (t * x / S), .int .i64 (t * x % S)]) /\ Below w.heap.size w w' := by
  have hq := upto_in t S x t0 S0 x0 x1
  have HM := Lib.hid (Mn.mul_gives t x t0 t1 x0 (by omega))
  have HD := Lib.hid (Dv.need_all t x S t0 t1 x0 (by omega) S0 S1 (Mn.high_small (t * x) S S0 (by omega)))
  have q0 := hq.1
  have q1 : t * x / S <= 100000000000000 := by omega
  have r0 : 0 <= t * x % S := Int.emod_nonneg _ (by omega)
  have r1 : t * x % S < S := Int.emod_lt_of_pos _ (by omega)
  clear hq
  generalize t * x / S = q at *
  generalize t * x % S = r at *
  generalize t * x / 18446744073709551616 = hi at *
  generalize t * x % 18446744073709551616 = lo at *
  go_enter Tryz.func103, Tryz.ntmps103
  go_wp2_with fail
  refine (HM.out _).mono ?_
  rintro e w1 ⟨rfl, rfl⟩
  go_wp2_with fail
  refine (HD.out _).mono ?_
  rintro e w2 ⟨rfl, hb⟩
  go_wp2
  go_ret2
  exact ⟨rfl, hb⟩
def cellsL (l : List Int) : Array Value := (l.map (Value.int .i64)).toArray
def RowAt (w : World) (g : Nat) (l : List Int) : Prop := Blk w g 2 (cellsL l)
theorem RowAt.cell {w : World} {g : Nat} {l : List Int} (h : RowAt w g l) (k : Nat) (hk : k < l.length) : w.cell? ⟨g, k, none⟩ = some (.int .i64 (nth l k)) := by
  rw [Blk.cell h k]
  unfold cellsL nth
  simp [hk]
theorem RowAt.put {w : World} {g : Nat} {l : List Int} (h : RowAt w g l) (k : Nat) (y : Int) : RowAt (w.setCell ⟨g, k, none⟩ (.int .i64 y)) g (l.set k y) := by
  have h1 := Blk.put h k (.int .i64 y)
  have e : (cellsL l).setIfInBounds k (.int .i64 y) = cellsL (l.set k y) := by
    unfold cellsL
    rw [List.setIfInBounds_toArray, List.map_set]
  rw [e] at h1
  exact h1
theorem RowAt.below {w w' : World} {g : Nat} {l : List Int} (h : RowAt w g l) (hb : Below w.heap.size w w') : RowAt w' g l := Blk.below h hb
theorem RowAt.ints {w : World} {g : Nat} {l : List Int} (h : RowAt w g l) : Hl.Ints w w.heap.size (some ⟨g, 0, none⟩) l.length (nth l) := fun k hk => by
  refine ⟨g, 0, rfl, Blk.lt h, ?_⟩
  rw [Nat.zero_add]
  exact h.cell k hk
theorem RowAt.made (w : World) (n : Nat) : RowAt (w.alloc (.cells (madeCells #[.int .i64 0] n) 2)) w.heap.size (List.replicate n 0) := by
  have e : madeCells #[.int .i64 0] n = cellsL (List.replicate n 0) := by
    apply Array.toList_inj.1
    rw [toList_madeCells_one]
    unfold cellsL
    simp
  unfold RowAt
  rw [<- e]
  exact Blk.new _ _ _
theorem RowAt.moved {w w' : World} {B q g : Nat} {r : Option Nat} {l : List Int} {ps : List Pt} (h : RowAt w g l) (hq : IsQ w B q r ps) (hm : Moved w w' q r) : RowAt w' g l := hq.blk hm h (by omega) (by omega)
theorem que_put {w : World} {B q g k : Nat} {r : Option Nat} {l : List Int} {ps : List Pt} {u : Value} (h : IsQ w B q r ps) (hr : RowAt w g l) : IsQ (w.setCell ⟨g, k, none⟩ u) B q r ps := by
  have hne : some q ≠ some g := by
    obtain ⟨hs, v, a, hQ, _⟩ := h
    intro e
    injection e with e
    subst e
    have h2 : 2 ≠ 132 := by omega
    have h4 := hQ.blk.here
    rw [hr.here] at h4
    injection h4 with h4
    injection h4 with _ h4
    exact h2 h4
  have hne2 : r = none \/ r ≠ some g := by
    right
    obtain ⟨hs, v, a, hQ, rfl, _⟩ := h
    exact fun e => Qu.own_blk_ne hQ.own hr (by omega) e.symm
  exact h.grown (Qu.turned_at w g k u) hne hne2
theorem info_row : (Tryz.prog.info? 2).map (fun i => (i.zero, i.size, i.bytes)) = some (some (.int .i64 0), 1, 8) := by kernel_rfl
theorem make_row (n : Nat) (hn : n <= 900000000) (W : World) : (Instr.makeSlice 60 (.int .i64 (n : Int)) (.int .i64 (n : Int))).run Tryz.prog W = .ok (.slice (some ⟨W.heap.size, 0, none⟩) n n) (W.alloc (.cells (madeCells #[.int .i64 0] n) 2)) := by
  obtain ⟨i0, hi0, hz0, hz1, hz2⟩ := info_parts info_row
  have hr := run_make (P := Tryz.prog) W 60 2 i0 _ Tryz.underlying60 hi0 hz0 .i64 .i64 (n : Int) (n : Int) (by omega) (by omega) (by rw [hz2]; omega) (by omega)
  rw [hz1, Nat.mul_one] at hr
  simp only [Int.toNat_natCast] at hr
  exact hr
end Go.Proofs.YtljmddjlnlmenaaGreat.Sh

end

section
namespace Go.Proofs.YtljmddjlnlmenaaGreat.Sh
open Go.ChangeShapes Go.WideShapes Go.ChangeAt Go.RowKit
open Qu (Blk IsQ Moved Pt ord)
def part1 (t S : Int) (f : Nat -> Int) (n k : Nat) : List Int := baseL t S f k ++ List.replicate (n - k) 0
theorem part1_length (t S : Int) (f : Nat -> Int) (n k : Nat) (hk : k <= n) : (part1 t S f n k).length = n := by
  unfold part1
  rw [List.length_append, baseL_length, List.length_replicate]
  omega
theorem part1_zero (t S : Int) (f : Nat -> Int) (n : Nat) : part1 t S f n 0 = List.replicate n 0 := by simp [part1, baseL]
theorem part1_end (t S : Int) (f : Nat -> Int) (n : Nat) : part1 t S f n n = baseL t S f n := by simp [part1]
theorem part1_set (t S : Int) (f : Nat -> Int) (n k : Nat) (hk : k < n) : (part1 t S f n k).set k (base t S f k) = part1 t S f n (k + 1) := by
  unfold part1
  rw [List.set_append_right _ _ (by rw [baseL_length]; omega), baseL_length, Nat.sub_self]
  obtain ⟨m, hm⟩ : ∃ m, n - k = m + 1 := ⟨n - k - 1, by omega⟩
  have hm2 : n - (k + 1) = m := by omega
  rw [hm, hm2, List.replicate_succ]
  unfold baseL
  rw [List.range_succ, List.map_append]
  simp
structure Div1 (w wr : World) (t S : Int) (f : Nat -> Int) (n k : Nat) (r : Option Nat) : Prop where
  que : IsQ wr w.heap.size (w.heap.size + 1) r (ord (rest t S f) k)
  row : RowAt wr w.heap.size (part1 t S f n k)
  below : Below w.heap.size w wr
structure Div2 (w wr : World) (t S : Int) (f : Nat -> Int) (n j : Nat) (r : Option Nat) : Prop where
  que : IsQ wr w.heap.size (w.heap.size + 1) r ((ord (rest t S f) n).drop j)
  row : RowAt wr w.heap.size (bump (baseL t S f n) ((ord (rest t S f) n).take j))
  below : Below w.heap.size w wr
theorem Div1.step {w wr w2 w4 : World} {t S : Int} {f : Nat -> Int} {n k : Nat} {r r' : Option Nat} (h : Div1 w wr t S f n k r) (hk : k < n) (hb : Below wr.heap.size wr w2)
    (hq : IsQ w4 w.heap.size (w.heap.size + 1) r' (Qu.ins (rest t S f k, (k : Int)) (ord (rest t S f) k))) (hm : Moved (w2.setCell ⟨w.heap.size, k, none⟩ (.int .i64 (base t S f k))) w4 (w.heap.size + 1) r)
    (hq0 : IsQ (w2.setCell ⟨w.heap.size, k, none⟩ (.int .i64 (base t S f k))) w.heap.size (w.heap.size + 1) r (ord (rest t S f) k)) : Div1 w w4 t S f n (k + 1) r' := by
  have hr := (h.row.below hb).put k (base t S f k)
  rw [part1_set _ _ _ _ _ hk] at hr
  have hw2 : Below w.heap.size w w2 := h.below.trans (hb.mono h.below.size)
  exact ⟨hq, hr.moved hq0 hm, (hw2.setCell (Nat.le_refl _) _).trans (hq0.toBelow hm)⟩
theorem Div2.step {w wr w1 : World} {t S : Int} {f : Nat -> Int} {n j : Nat} {r : Option Nat} {x : Pt} (h : Div2 w wr t S f n j r) (hx : (ord (rest t S f) n)[j]? = some x)
    (hq : IsQ w1 w.heap.size (w.heap.size + 1) r ((ord (rest t S f) n).drop (j + 1))) (hm : Moved wr w1 (w.heap.size + 1) r) :
    RowAt w1 w.heap.size (bump (baseL t S f n) ((ord (rest t S f) n).take j)) /\ Div2 w (w1.setCell ⟨w.heap.size, x.2.toNat, none⟩ (.int .i64 (nth (bump (baseL t S f n) ((ord (rest t S f) n).take j)) x.2.toNat + 1))) t S f n (j + 1) r := by
  have hr := h.row.moved h.que hm
  refine ⟨hr, que_put hq hr, ?_, (h.below.trans (h.que.toBelow hm)).setCell (Nat.le_refl _) _⟩
  have e : (ord (rest t S f) n).take (j + 1) = (ord (rest t S f) n).take j ++ [x] := by rw [List.take_add_one, hx]; rfl
  rw [e, bump_snoc]
  exact hr.put _ _
def Shared (e : Ending) (w w' : World) (n : Nat) (l : List Int) : Prop := ∃ g, e = .returned (.slice (some ⟨g, 0, none⟩) n n) /\ RowAt w' g l /\ Below w.heap.size w w'
theorem nth_bump_in {t S : Int} {f : Nat -> Int} {n : Nat} (S0 : 1 <= S) (t0 : 0 <= t) (hf : ∀ k, k < n -> 0 <= f k /\ f k <= S) (j i : Nat) (hi : i < n) (hj : j <= n) :
    0 <= nth (bump (baseL t S f n) ((ord (rest t S f) n).take j)) i /\ nth (bump (baseL t S f n) ((ord (rest t S f) n).take j)) i <= t + n := by
  rw [nth_bump i _ _ (by rw [baseL_length]; exact hi), nth_baseL _ _ _ _ _ hi]
  have h1 := base_nonneg S0 t0 i (hf i hi).1
  have h2 := base_le S0 t0 i (hf i hi).2
  have h3 : (places ((ord (rest t S f) n).take j)).count i <= (places ((ord (rest t S f) n).take j)).length := List.count_le_length
  unfold places at h3 ⊢
  rw [List.length_map, List.length_take] at h3
  omega
set_option maxHeartbeats 1000000 in
set_option maxRecDepth 100000 in
theorem divide_any (t S : Int) (A : Option Addr) (n c : Nat) (f : Nat -> Int) (w : World) (ha : Hl.Ints w w.heap.size A n f) (hn : n <= 100000) (t0 : 0 <= t) (t1 : t <= 100000000000000) (S0 : 1 <= S) (S1 : S <= 100000000000000)
    (hS : S = sumF f n) (hf : ∀ k, k < n -> 0 <= f k /\ f k <= S) :
    Calls Tryz.prog 76 #[.int .i64 t, .slice A n c, .int .i64 S] w fun e w' => Shared e w w' n (parts t S f n) := by
  have n1 : (n : Int) <= 100000 := by omega
  have hmk := make_row n (by omega)
  have HF := Lib.hid (And.intro hS hf)
  have HA := Lib.hid ha
  have HR0 := Lib.hid (RowAt.made w n)
  clear hS hf ha
  go_enter Tryz.func76, Tryz.ntmps76
  go_wp2_with fail
  refine (Qu.queue_new w.heap.size _ (by simp)).mono ?_
  rintro e w1 ⟨rfl, hQ, hB, hZ⟩
  have HD0 : Hid (Div1 w w1 t S f n 0 none) := Lib.hid (by
    refine ⟨?_, ?_, ((Below.refl _ _).alloc (Nat.le_refl _) _).trans (hB.mono (by simp))⟩
    . have e : (w.alloc (.cells (madeCells #[.int .i64 0] n) 2)).heap.size = w.heap.size + 1 := by simp
      rw [e] at hQ
      exact hQ
    . rw [part1_zero]
      exact HR0.out.below hB)
  have hz : (w.alloc (.cells (madeCells #[.int .i64 0] n) 2)).heap.size = w.heap.size + 1 := by simp
  rw [hz]
  clear hQ hB hZ hz HR0
  go_wp2
  go_loopw [9, 24] (fun v s wr => ∃ (k : Nat) (r : Option Nat), v = .int .i64 (left t S f k) /\ s = .int .i64 k /\ k <= n /\ Div1 w wr t S f n k r) (fun _ s _ => n - (intOf s).toNat)
  case atStart => exact ⟨0, none, by simp [left, sumF], rfl, by omega, HD0.out⟩
  case round =>
    clear HD0
    obtain ⟨k, r, rfl, rfl, hk, hD⟩ := hrel
    by_cases hlt : k < n
    . obtain ⟨b, o, rfl, hbm, h1⟩ := HA.out k hlt
      have c1 : wr.cell? ⟨b, o + k, none⟩ = some (.int .i64 (f k)) := (hD.below.cell (p := ⟨b, o + k, none⟩) hbm).trans h1
      have k0 : (0 : Int) <= (k : Int) := by omega
      have k1 : (k : Int) < (n : Int) := by omega
      have HP := Lib.hid (portion_any t (f k) S wr t0 t1 (HF.out.2 k hlt).1 (HF.out.2 k hlt).2 S0 S1)
      have hl0 := left_mid n S0 HF.out.1 t0 k hk (fun j hj => (HF.out.2 j hj).1)
      have hl1 := left_le n S0 t0 k hk (fun j hj => (HF.out.2 j hj).1)
      have hl2 := left_mid n S0 HF.out.1 t0 (k + 1) (by omega) (fun j hj => (HF.out.2 j hj).1)
      have hls := left_step (t := t) (S := S) (f := f) k
      have hb0 := base_nonneg (f := f) S0 t0 k (HF.out.2 k hlt).1
      have HLS := Lib.hid hls
      rw [hls] at hl2
      have HD := Lib.hid hD
      clear h1 hD hls
      have eb : t * f k / S = base t S f k := rfl
      have er : t * f k % S = rest t S f k := rfl
      rw [eb, er] at HP
      clear eb er
      obtain ⟨x, hx⟩ : ∃ x, x = base t S f k := ⟨_, rfl⟩
      obtain ⟨y, hy⟩ : ∃ y, y = rest t S f k := ⟨_, rfl⟩
      obtain ⟨L, hL⟩ : ∃ L, L = left t S f k := ⟨_, rfl⟩
      rw [<- hx, <- hy] at HP
      rw [<- hx] at hb0 hl2
      rw [<- hL] at hl0 hl1 hl2
      rw [<- hL]
      have HX := Lib.hid (And.intro hx (And.intro hy hL))
      clear hx hy hL
      go_wp2_with fail
      refine HP.out.mono ?_
      rintro e w2 ⟨rfl, hb⟩
      have hr2 := HD.out.row.below hb
      have c2 := hr2.cell k (by rw [part1_length _ _ _ _ _ hk]; exact hlt)
      have c3 := Blk.frozen hr2 k
      have hq2 : IsQ (w2.setCell ⟨w.heap.size, k, none⟩ (.int .i64 x)) w.heap.size (w.heap.size + 1) r (ord (rest t S f) k) := que_put (HD.out.que.below hb) hr2
      have HP2 := Lib.hid (Qu.push_any (y, (k : Int)) w.heap.size (w.heap.size + 1) r (ord (rest t S f) k) _ hq2 (by rw [Qu.ord_length]; omega))
      have HQ2 := Lib.hid (And.intro hb hq2)
      clear hr2 hq2 hb
      go_wp2_with fail
      refine HP2.out.mono ?_
      rintro e w4 ⟨rfl, r', hQ4, hM4, hF4⟩
      have HN : Hid (Div1 w w4 t S f n (k + 1) r') := Lib.hid (by
        obtain ⟨e1, e2, e3⟩ := HX.out
        subst e1; subst e2; subst e3
        exact HD.out.step hlt HQ2.out.1 hQ4 hM4 HQ2.out.2)
      have HE : Hid (L - x = left t S f (k + 1)) := Lib.hid (by rw [HLS.out, HX.out.1, HX.out.2.2])
      clear hQ4 hM4 hF4
      go_wp2
      go_roundw
      case rel => exact ⟨k + 1, r', by first | (rw [HE.out]) | (rw [<- HE.out]), by go_num, by omega, HN.out⟩
      case measure => simp [intOf]; omega
    . obtain rfl : k = n := by omega
      have k1 : ¬ (k : Int) < (k : Int) := by omega
      have hl0 := left_nonneg (t := t) k S0 HF.out.1
      have hl1 := left_lt (t := t) k S0 HF.out.1
      have HD2 : Hid (Div2 w wr t S f k 0 r) := Lib.hid ⟨by rw [List.drop_zero]; exact hD.que, by rw [List.take_zero, bump_nil, <- part1_end]; exact hD.row, hD.below⟩
      obtain ⟨J, hJ⟩ : ∃ J : Nat, left t S f k = (J : Int) := ⟨(left t S f k).toNat, by omega⟩
      have hJk : J <= k := by omega
      rw [hJ]
      have HJ := Lib.hid hJ
      clear hD hJ hl0 hl1
      go_wp2
      go_loopw [49] (fun s wx => ∃ j : Nat, s = .int .i64 j /\ j <= J /\ Div2 w wx t S f k j r) (fun s _ => J - (intOf s).toNat)
      case atStart => exact ⟨0, rfl, by omega, HD2.out⟩
      case round =>
        clear HD2
        obtain ⟨j, rfl, hj, hD⟩ := hrel
        have j0 : (0 : Int) <= (j : Int) := by omega
        by_cases hlt2 : j < J
        . have j1 : (j : Int) < (J : Int) := by omega
          have j2 : (j : Int) <= 100000 := by omega
          obtain ⟨x, hx⟩ : ∃ x, (ord (rest t S f) k)[j]? = some x := ⟨_, List.getElem?_eq_getElem (by rw [Qu.ord_length]; omega)⟩
          have hxm := ord_place (List.mem_of_getElem? hx)
          have hdr : (ord (rest t S f) k).drop j = x :: (ord (rest t S f) k).drop (j + 1) := by
            rw [List.drop_eq_getElem_cons (by rw [Qu.ord_length]; omega)]
            congr 1
            exact (List.getElem?_eq_some_iff.1 hx).2
          have hq := hD.que
          rw [hdr] at hq
          have HP := Lib.hid (Qu.pop_some w.heap.size (w.heap.size + 1) r x _ _ hq (by rw [List.length_drop, Qu.ord_length]; omega))
          have hin := nth_bump_in S0 t0 HF.out.2 j x.2.toNat hxm.1 (by omega)
          have HX := Lib.hid (And.intro hx hxm)
          have HD := Lib.hid hD
          obtain ⟨i, hi⟩ : ∃ i, i = x.2.toNat := ⟨_, rfl⟩
          have ei : x.2 = (i : Int) := by have := hxm.2; rw [hi]; exact congrArg Prod.snd this
          rw [<- hi] at hin
          rw [ei] at HP
          have hik : (i : Int) < (k : Int) := by have := hxm.1; omega
          have i0 : (0 : Int) <= (i : Int) := by omega
          have HI := Lib.hid hi
          clear hxm hx hq hdr hD hi
          go_wp2_with fail
          refine HP.out.mono ?_
          rintro e w1 ⟨rfl, hq, hm⟩
          have hst := HD.out.step HX.out.1 hq hm
          rw [<- HI.out] at hst
          have c1 := hst.1.cell i (by rw [bump_length, baseL_length]; omega)
          have c2 := Blk.frozen hst.1 i
          have HST := Lib.hid hst.2
          generalize nth (bump (baseL t S f k) ((ord (rest t S f) k).take j)) i = z at *
          clear hq hm hst
          go_wp2
          go_roundw
          case rel => exact ⟨j + 1, by go_num, by omega, HST.out⟩
          case measure => simp [intOf]; omega
        . obtain rfl : j = J := by omega
          have j1 : ¬ (j : Int) < (j : Int) := by omega
          have HFI : Hid (RowAt wr w.heap.size (parts t S f k) /\ Below w.heap.size w wr) := Lib.hid (by
            refine ⟨?_, hD.below⟩
            have := hD.row
            unfold parts chosen
            rw [HJ.out, Int.toNat_natCast]
            exact this)
          clear hD
          go_wp2
          go_ret
          exact ⟨w.heap.size, rfl, HFI.out.1, HFI.out.2⟩
end Go.Proofs.YtljmddjlnlmenaaGreat.Sh

end

section
namespace Go.Proofs.YtljmddjlnlmenaaGreat.Ct
open Go.ChangeShapes Go.WideShapes Go.ChangeAt Go.RowKit
open Ap (Unt Tir Prm kUnt kTir row_Unt row_Tir)
open Kd (Kind Row kInt row_int)
open Ko (Out Told Told2 At row_on)
theorem sum_part : ∀ {l : List Int}, (∀ (k : Nat) (x : Int), l[k]? = some x -> 0 <= x) -> ∀ k, 0 <= sumL (l.take k) /\ sumL (l.take k) <= sumL l
  | [], _, k => by rw [List.take_nil]; exact ⟨Int.le_refl _, Int.le_refl _⟩
  | x :: l, h, k => by
    have h0 := h 0 x rfl
    have ih := fun j => sum_part (l := l) (fun j y hy => h (j + 1) y hy) j
    cases k with
    | zero =>
      have := ih l.length
      rw [List.take_length] at this
      rw [List.take_zero]
      simp only [sumL]
      omega
    | succ k =>
      have := ih k
      rw [List.take_succ_cons]
      simp only [sumL]
      omega
theorem NetsOk.sums {l : List Int} (h : NetsOk l) : SumOk l /\ 0 <= sumL l := by
  have h1 := sum_part (l := l) fun k x hx => (h.each k x hx).1
  have h2 := h.total
  refine ⟨fun k => by have := h1 k; omega, ?_⟩
  have := h1 l.length
  rw [List.take_length] at this
  exact this.1
theorem ints_row {w : World} {A : Option Addr} {n : Nat} {xs : List Int} (h : Row kInt w (· < w.heap.size) A n xs) : Hl.Ints w w.heap.size A n (nth xs) := fun k hk => by
  obtain ⟨x, hx⟩ := h.get hk
  obtain ⟨g, o, hA, hg, _, _, hc⟩ := row_int h hx
  exact ⟨g, o, hA, hg, by rw [hc, nth_some hx]⟩
end Go.Proofs.YtljmddjlnlmenaaGreat.Ct

end

section
namespace Go.Proofs.YtljmddjlnlmenaaGreat.Ct
open Go.ChangeShapes Go.WideShapes Go.ChangeAt Go.RowKit
open Ap (Unt Tir Prm kUnt kTir row_Unt row_Tir)
open Kd (Kind Row kInt row_int)
open Ko (Out Told Told2 At row_on)
def Typed (w : World) (A : Option Addr) : Prop := ∀ (b o : Nat), A = some ⟨b, o, none⟩ -> ∃ cs, w.heap[b]? = some (.cells cs 2 (0, 0))
def GaveT (e : Ending) (w w' : World) (p : List Int × Int) : Prop := ∃ A c, e = .returned (.tuple #[.slice A p.1.length c, .int .i64 p.2]) /\ Hl.Ints w' w'.heap.size A p.1.length (Sh.nth p.1) /\ Below w.heap.size w w' /\ Typed w' A
theorem GaveT.row {w w' : World} {g n : Nat} {l : List Int} (hl : l.length = n) (h : Sh.RowAt w' g l) (hb : Below w.heap.size w w') : GaveT (.returned (.tuple #[.slice (some ⟨g, 0, none⟩) n n, .int .i64 0])) w w' (l, 0) := by
  subst hl
  exact ⟨_, _, rfl, h.ints, hb, fun b o hA => by injection hA with hA; injection hA with hA; subst hA; exact ⟨_, Qu.Blk.here h⟩⟩
theorem lgT_zero (A : Option Addr) (n c : Nat) (f : Nat -> Int) (w : World) (ha : Hl.Ints w w.heap.size A n f) (hn : n <= 100000) (hf : ∀ k, k < n -> 0 <= f k /\ f k <= 100000000000000) (h : Sh.sumF f n = 0) :
    Calls Tryz.prog 39 #[.int .i64 0, .slice A n c] w fun e w' => GaveT e w w' (List.replicate n 0, 0) := by
  have HR := Lib.hid (Sh.allRight_any A n c f _ w ha)
  have e1 : (decide (n <= 100000) && Sh.allOk f n) = true := by rw [Bool.and_eq_true, decide_eq_true_eq, Sh.allOk_iff]; exact ⟨hn, hf⟩
  rw [e1] at HR
  have HA := Lib.hid (Sh.added_any A n c f _ w ha hn hf)
  have e2 : Sh.addedR f n = (0, 0) := by unfold Sh.addedR; rw [h]; rfl
  rw [e2] at HA
  have hmk := Sh.make_row n (by omega)
  have HG := Lib.hid (GaveT.row (w := w) (n := n) (l := List.replicate n 0) (by simp) (Sh.RowAt.made w n) ((Below.refl _ _).alloc (Nat.le_refl _) _))
  clear ha h e1 e2 hf
  unfold Rf.pairOf at HA
  go_enter Tryz.func39, Tryz.ntmps39
  go_wp2_with fail
  refine (Mn.right_yes _ _ (by omega) (by omega)).mono ?_
  rintro e w1 ⟨rfl, rfl⟩
  go_wp2_with fail
  refine HR.out.mono ?_
  rintro e w2 ⟨rfl, rfl⟩
  go_wp2_with fail
  refine HA.out.mono ?_
  rintro e w3 ⟨rfl, rfl⟩
  go_wp2
  all_goals
    go_ret2
    exact HG.out
theorem lgT_parts (t : Int) (A : Option Addr) (n c : Nat) (f : Nat -> Int) (w : World) (ha : Hl.Ints w w.heap.size A n f) (t0 : 0 <= t) (t1 : t <= 100000000000000) (hn : n <= 100000) (hf : ∀ k, k < n -> 0 <= f k /\ f k <= 100000000000000) (h : 1 <= Sh.sumF f n) (h1 : Sh.sumF f n <= 100000000000000) :
    Calls Tryz.prog 39 #[.int .i64 t, .slice A n c] w fun e w' => GaveT e w w' (Sh.parts t (Sh.sumF f n) f n, 0) := by
  have HR := Lib.hid (Sh.allRight_any A n c f _ w ha)
  have e1 : (decide (n <= 100000) && Sh.allOk f n) = true := by rw [Bool.and_eq_true, decide_eq_true_eq, Sh.allOk_iff]; exact ⟨hn, hf⟩
  rw [e1] at HR
  have HA := Lib.hid (Sh.added_any A n c f _ w ha hn hf)
  have e2 : Sh.addedR f n = (Sh.sumF f n, 0) := by unfold Sh.addedR; rw [if_pos h1]
  rw [e2] at HA
  have HD := Lib.hid (Sh.divide_any t (Sh.sumF f n) A n c f w ha hn t0 t1 h h1 rfl (fun k hk => ⟨(hf k hk).1, Sh.sumF_elem n k hk (fun j hj => (hf j hj).1)⟩))
  have HL := Lib.hid (Sh.parts_length (t := t) (S := Sh.sumF f n) (f := f) (n := n))
  clear ha e1 e2 hf
  unfold Rf.pairOf at HA
  generalize Sh.parts t (Sh.sumF f n) f n = l at *
  generalize Sh.sumF f n = S at *
  go_enter Tryz.func39, Tryz.ntmps39
  go_wp2_with fail
  refine (Mn.right_yes _ _ t0 t1).mono ?_
  rintro e w1 ⟨rfl, rfl⟩
  go_wp2_with fail
  refine HR.out.mono ?_
  rintro e w2 ⟨rfl, rfl⟩
  go_wp2_with fail
  refine HA.out.mono ?_
  rintro e w3 ⟨rfl, rfl⟩
  go_wp2_with fail
  refine HD.out.mono ?_
  rintro e w4 ⟨g, rfl, hr, hb⟩
  have HG := Lib.hid (GaveT.row HL.out hr hb)
  clear hr hb
  go_wp2
  all_goals
    go_ret2
    exact HG.out
theorem largestT_any (t : Int) (A : Option Addr) (n c : Nat) (f : Nat -> Int) (w : World) (ha : Hl.Ints w w.heap.size A n f) (ht : 0 <= t /\ t <= 100000000000000) (hn : n <= 100000) (hf : ∀ k, k < n -> 0 <= f k /\ f k <= 100000000000000) (h5 : Sh.sumF f n <= 100000000000000) (hts : t <= Sh.sumF f n) :
    Calls Tryz.prog 39 #[.int .i64 t, .slice A n c] w fun e w' => GaveT e w w' (Sh.largR t f n) := by
  by_cases h0 : Sh.sumF f n = 0
  . obtain rfl : t = 0 := by omega
    rw [Sh.larg_zero ht hn hf h0 (by omega)]
    exact lgT_zero A n c f w ha hn hf h0
  . rw [Sh.larg_parts ht hn hf h0 (by omega)]
    have := Sh.sumF_nonneg (f := f) n (fun k hk => (hf k hk).1)
    exact lgT_parts t A n c f w ha ht.1 ht.2 hn hf (by omega) (by omega)
end Go.Proofs.YtljmddjlnlmenaaGreat.Ct

end

section
namespace Go.Proofs.YtljmddjlnlmenaaGreat.Ct
open Ap (Unt Tir Prm)
theorem subK_other {us : List Unt} {ms os : List Int} {i : Nat} : ∀ k, (∀ j, j < k -> (nth ms j).toNat ≠ i) -> (subK us ms os k)[i]? = us[i]?
  | 0, _ => rfl
  | k + 1, h => by
    rw [subK, List.getElem?_modify, subK_other k fun j hj => h j (by omega)]
    have := h k (by omega)
    simp [this]
theorem subK_mine {us : List Unt} {ms os : List Int} (hf : Far ms) {j : Nat} {m : Int} (hm : ms[j]? = some m) {u : Unt} (hu : us[m.toNat]? = some u) : ∀ k, j < k -> k <= ms.length -> (subK us ms os k)[m.toNat]? = some (lessNet (nth os j) u)
  | 0, h, _ => by omega
  | k + 1, h, hk => by
    rw [subK, List.getElem?_modify]
    rcases Nat.lt_or_ge j k with h1 | h1
    . have e := List.getElem?_eq_getElem (show k < ms.length by omega)
      have hne := hf j k m _ h1 hm e
      rw [nth_some e, subK_mine hf hm hu k h1 (by omega)]
      simp
      exact fun x => absurd x.symm hne
    . obtain rfl : j = k := by omega
      rw [nth_some hm, subK_at hf hm j (Nat.le_refl _), hu]
      simp
theorem shutK_other {us : List Unt} {ms : List Int} {i : Nat} : ∀ k, (∀ j, j < k -> (nth ms j).toNat ≠ i) -> (shutK us ms k)[i]? = us[i]?
  | 0, _ => rfl
  | k + 1, h => by
    rw [shutK, List.getElem?_modify, shutK_other k fun j hj => h j (by omega)]
    have := h k (by omega)
    simp [this]
theorem shutK_mine {us : List Unt} {ms : List Int} (hf : Far ms) {j : Nat} {m : Int} (hm : ms[j]? = some m) {u : Unt} (hu : us[m.toNat]? = some u) : ∀ k, j < k -> k <= ms.length -> (shutK us ms k)[m.toNat]? = some (shut u)
  | 0, h, _ => by omega
  | k + 1, h, hk => by
    rw [shutK, List.getElem?_modify]
    rcases Nat.lt_or_ge j k with h1 | h1
    . have e := List.getElem?_eq_getElem (show k < ms.length by omega)
      have hne := hf j k m _ h1 hm e
      rw [nth_some e, shutK_mine hf hm hu k h1 (by omega)]
      simp
      exact fun x => absurd x.symm hne
    . obtain rfl : j = k := by omega
      rw [nth_some hm, shutK_other j fun t ht => by
        have e := List.getElem?_eq_getElem (show t < ms.length by omega)
        rw [nth_some e]
        exact hf t j _ m ht e hm, hu]
      simp
theorem nsum_modify {f : Unt -> Unt} : ∀ {us : List Unt} {i : Nat} {u : Unt}, us[i]? = some u -> nsum (us.modify i f) = nsum us - u.net + (f u).net
  | [], i, u, h => by simp at h
  | v :: us, 0, u, h => by
    simp only [List.getElem?_cons_zero, Option.some.injEq] at h
    subst h
    rw [List.modify_zero_cons]
    simp only [nsum]; omega
  | v :: us, i + 1, u, h => by
    simp only [List.getElem?_cons_succ] at h
    rw [List.modify_succ_cons]
    simp only [nsum]
    rw [nsum_modify h]; omega
theorem subK_sum {us : List Unt} {ms os : List Int} (hf : Far ms) (hp : PlacesIn us.length ms) : ∀ k, k <= os.length -> k <= ms.length -> nsum (subK us ms os k) = nsum us - sumL (os.take k)
  | 0, _, _ => by rw [List.take_zero]; simp [subK, sumL]
  | k + 1, h1, h2 => by
    have e := List.getElem?_eq_getElem (show k < ms.length by omega)
    have e2 := List.getElem?_eq_getElem (show k < os.length by omega)
    have hin := hp k _ e
    have hlt : (ms[k]'(by omega)).toNat < us.length := by omega
    obtain ⟨u, hu⟩ : ∃ u, us[(ms[k]'(by omega)).toNat]? = some u := ⟨_, List.getElem?_eq_getElem hlt⟩
    have hs : (subK us ms os k)[(ms[k]'(by omega)).toNat]? = some u := by rw [subK_at hf e k (Nat.le_refl _), hu]
    rw [subK, nth_some e, nsum_modify hs, subK_sum hf hp k (by omega) (by omega), nth_some e2, sumL_next e2]
    show _ - u.net + (u.net - _) = _
    omega
theorem shutK_sum {us : List Unt} {ms : List Int} (hp : PlacesIn us.length ms) : ∀ k, k <= ms.length -> nsum (shutK us ms k) = nsum us
  | 0, _ => rfl
  | k + 1, h => by
    have e := List.getElem?_eq_getElem (show k < ms.length by omega)
    have hin := hp k _ e
    have hlt : (ms[k]'(by omega)).toNat < (shutK us ms k).length := by rw [shutK_length]; omega
    obtain ⟨u, hu⟩ : ∃ u, (shutK us ms k)[(ms[k]'(by omega)).toNat]? = some u := ⟨_, List.getElem?_eq_getElem hlt⟩
    rw [shutK, nth_some e, nsum_modify hu, shutK_sum hp k (by omega)]
    show nsum us - u.net + u.net = nsum us
    omega
theorem less_sum {us : List Unt} {ms os : List Int} (hf : Far ms) (hp : PlacesIn us.length ms) (hl : os.length <= ms.length) (cl : Bool) : nsum (lessU us ms os cl).1 = nsum us - (lessU us ms os cl).2 := by
  unfold lessU
  split
  . show nsum us = nsum us - 0; omega
  . have hp2 : PlacesIn (subK us ms os os.length).length ms := by rw [subK_length]; exact hp
    have h1 := subK_sum (us := us) (os := os) hf hp os.length (Nat.le_refl _) hl
    rw [List.take_length] at h1
    have h2 := shutK_sum hp2 (if cl then ms.length else 0) (by split <;> omega)
    show nsum (shutK (subK us ms os os.length) ms (if cl then ms.length else 0)) = nsum us - sumL os
    rw [h2, h1]
theorem less_length (us : List Unt) (ms os : List Int) (cl : Bool) : (lessU us ms os cl).1.length = us.length := by
  unfold lessU
  split
  . rfl
  . show (shutK _ _ _).length = _; rw [shutK_length, subK_length]
theorem less_other {us : List Unt} {ms os : List Int} (hl : os.length <= ms.length) (cl : Bool) {i : Nat} (h : ∀ (j : Nat) (m : Int), ms[j]? = some m -> m.toNat ≠ i) : (lessU us ms os cl).1[i]? = us[i]? := by
  have hj : ∀ k, k <= ms.length -> ∀ j, j < k -> (nth ms j).toNat ≠ i := fun k hk j hj => by
    have e := List.getElem?_eq_getElem (show j < ms.length by omega)
    rw [nth_some e]; exact h j _ e
  unfold lessU
  split
  . rfl
  . show (shutK _ _ _)[i]? = _
    rw [shutK_other _ (hj _ (by split <;> omega)), subK_other _ (hj _ hl)]
theorem less_mine {us : List Unt} {ms os : List Int} (hf : Far ms) (hl : os.length = ms.length) (cl : Bool) {j : Nat} {m : Int} (hm : ms[j]? = some m) {u : Unt} (hu : us[m.toNat]? = some u) (hs : sumL os ≠ 0) : (lessU us ms os cl).1[m.toNat]? = some ⟨u.line, u.net - nth os j, u.opn && !cl⟩ := by
  have hjl : j < ms.length := (List.getElem?_eq_some_iff.1 hm).1
  have h1 := subK_mine (os := os) hf hm hu os.length (by omega) (by omega)
  unfold lessU
  rw [if_neg hs]
  show (shutK _ _ _)[m.toNat]? = _
  cases cl with
  | true =>
    rw [if_pos rfl, shutK_mine hf hm h1 ms.length hjl (Nat.le_refl _)]
    show some (shut (lessNet (nth os j) u)) = _
    rw [Bool.not_true, Bool.and_false]; rfl
  | false =>
    rw [if_neg (by decide)]
    show (subK us ms os os.length)[m.toNat]? = _
    rw [h1, Bool.not_false, Bool.and_true]; rfl
end Go.Proofs.YtljmddjlnlmenaaGreat.Ct

end
