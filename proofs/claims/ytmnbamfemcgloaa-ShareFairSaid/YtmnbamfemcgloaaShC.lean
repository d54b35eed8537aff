/- Contract of package share's divide. -/
import Derived.Test.YtmnbamfemcgloaaShB
import Derived.Deep.LoopGhost
namespace Go.Proofs.Ytmnbamfemcgloaa.Sh
open Go.ChangeShapes Go.WideShapes Go.ChangeAt Go.RowKit
open Qu (Blk IsQ Moved Pt ord)
set_option linter.unusedVariables false

/-- The row while the first loop fills it. -/
def part1 (t S : Int) (f : Nat → Int) (n k : Nat) : List Int := baseL t S f k ++ List.replicate (n - k) 0

theorem part1_length (t S : Int) (f : Nat → Int) (n k : Nat) (hk : k ≤ n) : (part1 t S f n k).length = n := by
  unfold part1
  rw [List.length_append, baseL_length, List.length_replicate]
  omega

theorem part1_zero (t S : Int) (f : Nat → Int) (n : Nat) : part1 t S f n 0 = List.replicate n 0 := by simp [part1, baseL]

theorem part1_end (t S : Int) (f : Nat → Int) (n : Nat) : part1 t S f n n = baseL t S f n := by simp [part1]

theorem part1_set (t S : Int) (f : Nat → Int) (n k : Nat) (hk : k < n) : (part1 t S f n k).set k (base t S f k) = part1 t S f n (k + 1) := by
  unfold part1
  rw [List.set_append_right _ _ (by rw [baseL_length]; omega), baseL_length, Nat.sub_self]
  obtain ⟨m, hm⟩ : ∃ m, n - k = m + 1 := ⟨n - k - 1, by omega⟩
  have hm2 : n - (k + 1) = m := by omega
  rw [hm, hm2, List.replicate_succ]
  unfold baseL
  rw [List.range_succ, List.map_append]
  simp

structure Div1 (w wr : World) (t S : Int) (f : Nat → Int) (n k : Nat) (r : Option Nat) : Prop where
  que : IsQ wr w.heap.size (w.heap.size + 1) r (ord (rest t S f) k)
  row : RowAt wr w.heap.size (part1 t S f n k)
  below : Below w.heap.size w wr

structure Div2 (w wr : World) (t S : Int) (f : Nat → Int) (n j : Nat) (r : Option Nat) : Prop where
  que : IsQ wr w.heap.size (w.heap.size + 1) r ((ord (rest t S f) n).drop j)
  row : RowAt wr w.heap.size (bump (baseL t S f n) ((ord (rest t S f) n).take j))
  below : Below w.heap.size w wr

theorem Div1.step {w wr w2 w4 : World} {t S : Int} {f : Nat → Int} {n k : Nat} {r r' : Option Nat} (h : Div1 w wr t S f n k r) (hk : k < n) (hb : Below wr.heap.size wr w2)
    (hq : IsQ w4 w.heap.size (w.heap.size + 1) r' (Qu.ins (rest t S f k, (k : Int)) (ord (rest t S f) k))) (hm : Moved (w2.setCell ⟨w.heap.size, k, none⟩ (.int .i64 (base t S f k))) w4 (w.heap.size + 1) r)
    (hq0 : IsQ (w2.setCell ⟨w.heap.size, k, none⟩ (.int .i64 (base t S f k))) w.heap.size (w.heap.size + 1) r (ord (rest t S f) k)) : Div1 w w4 t S f n (k + 1) r' := by
  have hr := (h.row.below hb).put k (base t S f k)
  rw [part1_set _ _ _ _ _ hk] at hr
  have hw2 : Below w.heap.size w w2 := h.below.trans (hb.mono h.below.size)
  exact ⟨hq, hr.moved hq0 hm, (hw2.setCell (Nat.le_refl _) _).trans (hq0.toBelow hm)⟩

theorem Div2.step {w wr w1 : World} {t S : Int} {f : Nat → Int} {n j : Nat} {r : Option Nat} {x : Pt} (h : Div2 w wr t S f n j r) (hx : (ord (rest t S f) n)[j]? = some x)
    (hq : IsQ w1 w.heap.size (w.heap.size + 1) r ((ord (rest t S f) n).drop (j + 1))) (hm : Moved wr w1 (w.heap.size + 1) r) :
    RowAt w1 w.heap.size (bump (baseL t S f n) ((ord (rest t S f) n).take j)) ∧ Div2 w (w1.setCell ⟨w.heap.size, x.2.toNat, none⟩ (.int .i64 (nth (bump (baseL t S f n) ((ord (rest t S f) n).take j)) x.2.toNat + 1))) t S f n (j + 1) r := by
  have hr := h.row.moved h.que hm
  refine ⟨hr, que_put hq hr, ?_, (h.below.trans (h.que.toBelow hm)).setCell (Nat.le_refl _) _⟩
  have e : (ord (rest t S f) n).take (j + 1) = (ord (rest t S f) n).take j ++ [x] := by rw [List.take_add_one, hx]; rfl
  rw [e, bump_snoc]
  exact hr.put _ _

def Shared (e : Ending) (w w' : World) (n : Nat) (l : List Int) : Prop := ∃ g, e = .returned (.slice (some ⟨g, 0, none⟩) n n) ∧ RowAt w' g l ∧ Below w.heap.size w w'

theorem nth_bump_in {t S : Int} {f : Nat → Int} {n : Nat} (S0 : 1 ≤ S) (t0 : 0 ≤ t) (hf : ∀ k, k < n → 0 ≤ f k ∧ f k ≤ S) (j i : Nat) (hi : i < n) (hj : j ≤ n) :
    0 ≤ nth (bump (baseL t S f n) ((ord (rest t S f) n).take j)) i ∧ nth (bump (baseL t S f n) ((ord (rest t S f) n).take j)) i ≤ t + n := by
  rw [nth_bump i _ _ (by rw [baseL_length]; exact hi), nth_baseL _ _ _ _ _ hi]
  have h1 := base_nonneg S0 t0 i (hf i hi).1
  have h2 := base_le S0 t0 i (hf i hi).2
  have h3 : (places ((ord (rest t S f) n).take j)).count i ≤ (places ((ord (rest t S f) n).take j)).length := List.count_le_length
  unfold places at h3 ⊢
  rw [List.length_map, List.length_take] at h3
  omega

set_option maxHeartbeats 1000000 in
set_option maxRecDepth 100000 in
theorem divide_any (t S : Int) (A : Option Addr) (n c : Nat) (f : Nat → Int) (w : World) (ha : Hl.Ints w w.heap.size A n f) (hn : n ≤ 100000) (t0 : 0 ≤ t) (t1 : t ≤ 100000000000000) (S0 : 1 ≤ S) (S1 : S ≤ 100000000000000)
    (hS : S = sumF f n) (hf : ∀ k, k < n → 0 ≤ f k ∧ f k ≤ S) :
    Calls Try.prog 27 #[.int .i64 t, .slice A n c, .int .i64 S] w fun e w' => Shared e w w' n (parts t S f n) := by
  have n1 : (n : Int) ≤ 100000 := by omega
  have hmk := make_row n (by omega)
  have HF := Lib.hid (And.intro hS hf)
  have HA := Lib.hid ha
  have HR0 := Lib.hid (RowAt.made w n)
  clear hS hf ha
  go_enter Try.func27, Try.ntmps27
  go_wp2_with fail
  refine (Qu.queue_new w.heap.size _ (by simp)).mono ?_
  rintro e w1 ⟨rfl, hQ, hB, hZ⟩
  have HD0 : Hid (Div1 w w1 t S f n 0 none) := Lib.hid (by
    refine ⟨?_, ?_, ((Below.refl _ _).alloc (Nat.le_refl _) _).trans (hB.mono (by simp))⟩
    · have e : (w.alloc (.cells (madeCells #[.int .i64 0] n) 2)).heap.size = w.heap.size + 1 := by simp
      rw [e] at hQ
      exact hQ
    · rw [part1_zero]
      exact HR0.out.below hB)
  have hz : (w.alloc (.cells (madeCells #[.int .i64 0] n) 2)).heap.size = w.heap.size + 1 := by simp
  rw [hz]
  clear hQ hB hZ hz HR0
  go_wp2
  go_loopw [9, 24] (fun v s wr => ∃ (k : Nat) (r : Option Nat), v = .int .i64 (left t S f k) ∧ s = .int .i64 k ∧ k ≤ n ∧ Div1 w wr t S f n k r) (fun _ s _ => n - (intOf s).toNat)
  case atStart => exact ⟨0, none, by simp [left, sumF], rfl, by omega, HD0.out⟩
  case round =>
    clear HD0
    obtain ⟨k, r, rfl, rfl, hk, hD⟩ := hrel
    by_cases hlt : k < n
    · obtain ⟨b, o, rfl, hbm, h1⟩ := HA.out k hlt
      have c1 : wr.cell? ⟨b, o + k, none⟩ = some (.int .i64 (f k)) := (hD.below.cell (p := ⟨b, o + k, none⟩) hbm).trans h1
      have k0 : (0 : Int) ≤ (k : Int) := by omega
      have k1 : (k : Int) < (n : Int) := by omega
      have HP := Lib.hid (portion_any t (f k) S wr t0 t1 (HF.out.2 k hlt).1 (HF.out.2 k hlt).2 S0 S1)
      have hl0 := left_mid n S0 HF.out.1 t0 k hk (fun j hj => (HF.out.2 j hj).1)
      have hl1 := left_le n S0 t0 k hk (fun j hj => (HF.out.2 j hj).1)
      have hl2 := left_mid n S0 HF.out.1 t0 (k + 1) (by omega) (fun j hj => (HF.out.2 j hj).1)
      have hls := left_step (t := t) (S := S) (f := f) k
      have hb0 := base_nonneg (f := f) S0 t0 k (HF.out.2 k hlt).1
      have HLS := Lib.hid hls
      rw [hls] at hl2
      have HD := Lib.hid hD
      clear h1 hD hls
      have eb : t * f k / S = base t S f k := rfl
      have er : t * f k % S = rest t S f k := rfl
      rw [eb, er] at HP
      clear eb er
      obtain ⟨x, hx⟩ : ∃ x, x = base t S f k := ⟨_, rfl⟩
      obtain ⟨y, hy⟩ : ∃ y, y = rest t S f k := ⟨_, rfl⟩
      obtain ⟨L, hL⟩ : ∃ L, L = left t S f k := ⟨_, rfl⟩
      rw [← hx, ← hy] at HP
      rw [← hx] at hb0 hl2
      rw [← hL] at hl0 hl1 hl2
      rw [← hL]
      have HX := Lib.hid (And.intro hx (And.intro hy hL))
      clear hx hy hL
      go_wp2_with fail
      refine HP.out.mono ?_
      rintro e w2 ⟨rfl, hb⟩
      have hr2 := HD.out.row.below hb
      have c2 := hr2.cell k (by rw [part1_length _ _ _ _ _ hk]; exact hlt)
      have c3 := Blk.frozen hr2 k
      have hq2 : IsQ (w2.setCell ⟨w.heap.size, k, none⟩ (.int .i64 x)) w.heap.size (w.heap.size + 1) r (ord (rest t S f) k) := que_put (HD.out.que.below hb) hr2
      have HP2 := Lib.hid (Qu.push_any (y, (k : Int)) w.heap.size (w.heap.size + 1) r (ord (rest t S f) k) _ hq2 (by rw [Qu.ord_length]; omega))
      have HQ2 := Lib.hid (And.intro hb hq2)
      clear hr2 hq2 hb
      go_wp2_with fail
      refine HP2.out.mono ?_
      rintro e w4 ⟨rfl, r', hQ4, hM4, hF4⟩
      have HN : Hid (Div1 w w4 t S f n (k + 1) r') := Lib.hid (by
        obtain ⟨e1, e2, e3⟩ := HX.out
        subst e1; subst e2; subst e3
        exact HD.out.step hlt HQ2.out.1 hQ4 hM4 HQ2.out.2)
      have HE : Hid (L - x = left t S f (k + 1)) := Lib.hid (by rw [HLS.out, HX.out.1, HX.out.2.2])
      clear hQ4 hM4 hF4
      go_wp2
      go_roundw
      case rel => exact ⟨k + 1, r', by first | (rw [HE.out]) | (rw [← HE.out]), by go_num, by omega, HN.out⟩
      case measure => simp [intOf]; omega
    · obtain rfl : k = n := by omega
      have k1 : ¬ (k : Int) < (k : Int) := by omega
      have hl0 := left_nonneg (t := t) k S0 HF.out.1
      have hl1 := left_lt (t := t) k S0 HF.out.1
      have HD2 : Hid (Div2 w wr t S f k 0 r) := Lib.hid ⟨by rw [List.drop_zero]; exact hD.que, by rw [List.take_zero, bump_nil, ← part1_end]; exact hD.row, hD.below⟩
      obtain ⟨J, hJ⟩ : ∃ J : Nat, left t S f k = (J : Int) := ⟨(left t S f k).toNat, by omega⟩
      have hJk : J ≤ k := by omega
      rw [hJ]
      have HJ := Lib.hid hJ
      clear hD hJ hl0 hl1
      go_wp2
      go_loopw [49] (fun s wx => ∃ j : Nat, s = .int .i64 j ∧ j ≤ J ∧ Div2 w wx t S f k j r) (fun s _ => J - (intOf s).toNat)
      case atStart => exact ⟨0, rfl, by omega, HD2.out⟩
      case round =>
        clear HD2
        obtain ⟨j, rfl, hj, hD⟩ := hrel
        have j0 : (0 : Int) ≤ (j : Int) := by omega
        by_cases hlt2 : j < J
        · have j1 : (j : Int) < (J : Int) := by omega
          have j2 : (j : Int) ≤ 100000 := by omega
          obtain ⟨x, hx⟩ : ∃ x, (ord (rest t S f) k)[j]? = some x := ⟨_, List.getElem?_eq_getElem (by rw [Qu.ord_length]; omega)⟩
          have hxm := ord_place (List.mem_of_getElem? hx)
          have hdr : (ord (rest t S f) k).drop j = x :: (ord (rest t S f) k).drop (j + 1) := by
            rw [List.drop_eq_getElem_cons (by rw [Qu.ord_length]; omega)]
            congr 1
            exact (List.getElem?_eq_some_iff.1 hx).2
          have hq := hD.que
          rw [hdr] at hq
          have HP := Lib.hid (Qu.pop_some w.heap.size (w.heap.size + 1) r x _ _ hq (by rw [List.length_drop, Qu.ord_length]; omega))
          have hin := nth_bump_in S0 t0 HF.out.2 j x.2.toNat hxm.1 (by omega)
          have HX := Lib.hid (And.intro hx hxm)
          have HD := Lib.hid hD
          obtain ⟨i, hi⟩ : ∃ i, i = x.2.toNat := ⟨_, rfl⟩
          have ei : x.2 = (i : Int) := by have := hxm.2; rw [hi]; exact congrArg Prod.snd this
          rw [← hi] at hin
          rw [ei] at HP
          have hik : (i : Int) < (k : Int) := by have := hxm.1; omega
          have i0 : (0 : Int) ≤ (i : Int) := by omega
          have HI := Lib.hid hi
          clear hxm hx hq hdr hD hi
          go_wp2_with fail
          refine HP.out.mono ?_
          rintro e w1 ⟨rfl, hq, hm⟩
          have hst := HD.out.step HX.out.1 hq hm
          rw [← HI.out] at hst
          have c1 := hst.1.cell i (by rw [bump_length, baseL_length]; omega)
          have c2 := Blk.frozen hst.1 i
          have HST := Lib.hid hst.2
          generalize nth (bump (baseL t S f k) ((ord (rest t S f) k).take j)) i = z at *
          clear hq hm hst
          go_wp2
          go_roundw
          case rel => exact ⟨j + 1, by go_num, by omega, HST.out⟩
          case measure => simp [intOf]; omega
        · obtain rfl : j = J := by omega
          have j1 : ¬ (j : Int) < (j : Int) := by omega
          have HFI : Hid (RowAt wr w.heap.size (parts t S f k) ∧ Below w.heap.size w wr) := Lib.hid (by
            refine ⟨?_, hD.below⟩
            have := hD.row
            unfold parts chosen
            rw [HJ.out, Int.toNat_natCast]
            exact this)
          clear hD
          go_wp2
          go_ret
          exact ⟨w.heap.size, rfl, HFI.out.1, HFI.out.2⟩

end Go.Proofs.Ytmnbamfemcgloaa.Sh
