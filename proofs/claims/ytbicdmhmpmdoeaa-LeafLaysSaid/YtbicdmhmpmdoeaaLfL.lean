/- What the statements of layer 7 ask with: near, two leaves held against each other, awake. -/
import Derived.Test.YtbicdmhmpmdoeaaLfH
import Derived.Test.YtbicdmhmpmdoeaaHlY
import Derived.Test.YtbicdmhmpmdoeaaByZ
namespace Go.Proofs.Ytbicdmhmpmdoeaa.Lf
open Go.ChangeShapes Go.WideShapes Go.ChangeAt Go.RowKit
open Qu (Blk)
open By (Bys cellsB cellsB_length cellsB_at)
open Se (over over_length over_at noughts noughts_len)
open Dk (Sec secCells secCells_size secCells_at size_sector)
set_option linter.unusedVariables false

/-- So many bytes a leaf near to a raw one has. -/
def nearN (n : Nat) (l : Bool) : Nat := if l then 1 + n % 46 else 46

theorem nearN_in (n : Nat) (l : Bool) : 1 ≤ nearN n l ∧ nearN n l ≤ 46 := by
  unfold nearN
  split <;> omega

/-- The leaf near to a raw one. -/
def nearL (L : Leaf) : Leaf := ⟨max L.epoch 1, L.number, L.first, L.last, (L.data.take 46 ++ List.replicate 46 0).take (nearN L.number L.last)⟩

theorem nearL_len (L : Leaf) : (nearL L).data.length = nearN L.number L.last := by
  have := nearN_in L.number L.last
  show ((L.data.take 46 ++ List.replicate 46 0).take (nearN L.number L.last)).length = _
  rw [List.length_take, List.length_append, List.length_replicate]
  omega

theorem near_right (L : Leaf) : rightB (nearL L) = true := by
  have h := nearN_in L.number L.last
  rw [right_iff, nearL_len]
  refine ⟨?_, h.1, h.2, ?_⟩
  · show max L.epoch 1 ≠ 0
    omega
  · show L.last = true ∨ _
    unfold nearN
    cases L.last
    · exact .inr rfl
    · exact .inl rfl

/-- A leaf near to a raw one is told. -/
def Neared (w w' : World) (en : Ending) (L : Leaf) : Prop :=
  ∃ A c, en = .returned (.agg #[.int .u32 ((nearL L).epoch : Int), .int .u32 ((nearL L).number : Int), .bool (nearL L).first, .bool (nearL L).last, .slice A (nearL L).data.length c]) ∧ Bys w' w'.heap.size A (nearL L).data.length (nearL L).data ∧ (A = none → (nearL L).data.length = 0 ∧ c = 0) ∧ (nearL L).data.length ≤ c ∧ (∀ a, A = some a → w.heap.size ≤ a.block) ∧ Below w.heap.size w w'

theorem near_end {w w5 w6 : World} {e n E K N c2 : Nat} {f l : Bool} {A2 : Option Addr} {d : List UInt8} (hE : max e 1 = E) (hN : nearN n l = N) (hNK : N ≤ K + 46) (hcap : K + 46 ≤ c2) (hb : Below w.heap.size w w5)
    (ho : w5.ownsRow (w.heap.size + 2) 5 1 (.slice A2 (K + 46) c2) (K + 46) (cellsB (d.take 46 ++ List.replicate 46 0))) (hG : w5.grownBy w6 (some (w.heap.size + 1))) :
    Neared w w6 (.returned (.agg (LeafC E n f l A2 N c2))) ⟨e, n, f, l, d⟩ := by
  have hl := nearL_len ⟨e, n, f, l, d⟩
  have hl2 : (nearL ⟨e, n, f, l, d⟩).data.length = N := by rw [hl]; exact hN
  have ho2 := own_far ho hG (by omega)
  have hby : Bys w6 w6.heap.size A2 N (nearL ⟨e, n, f, l, d⟩).data := by
    have h := (Bys.own ho2).take (k := N) hNK
    have e2 : (nearL ⟨e, n, f, l, d⟩).data = (d.take 46 ++ List.replicate 46 0).take N := by
      show (d.take 46 ++ List.replicate 46 0).take (nearN n l) = _
      rw [hN]
    rw [e2]
    exact h
  have hNi := nearN_in n l
  refine ⟨A2, c2, ?_, by rw [hl2]; exact hby, ?_, by rw [hl2]; omega, fun a ha => by have := (ho2.lt a.block (by rw [ha]; rfl)).1; omega, hb.grown hG hb.size (fun k hk => by injection hk with hk; omega)⟩
  · rw [hl2]
    have e3 : ((nearL ⟨e, n, f, l, d⟩).epoch : Int) = (E : Int) := by rw [← hE]; rfl
    rw [e3]
    rfl
  · intro h
    have := Mv.own_none ho2 h
    omega

set_option maxHeartbeats 4000000 in
theorem near_any (w : World) (e n m c : Nat) (f l : Bool) (A : Option Addr) (d : List UInt8) (hb : Bys w w.heap.size A m d) (hA : A = none → m = 0 ∧ c = 0) (hc : m ≤ c) (he : e < 2 ^ 32) (hn : n < 2 ^ 32) (hm : m ≤ 9223372036854775807) :
    Calls Try.prog 10 #[.agg #[.int .u32 (e : Int), .int .u32 (n : Int), .bool f, .bool l, .slice A m c]] w fun en w' => Neared w w' en ⟨e, n, f, l, d⟩ := by
  obtain ⟨i0, hi0, hz0, hz1, hz2⟩ := info_parts By.info_u8
  obtain ⟨E, hE⟩ : ∃ E, max e 1 = E := ⟨_, rfl⟩
  have x1 : (if (e : Int) < 1 then 1 else (e : Int)) = (E : Int) := by split <;> omega
  have x2 : (if e < 1 then 1 else (e : Int)) = (E : Int) := by split <;> omega
  have x3 : (if e = 0 then 1 else (e : Int)) = (E : Int) := by split <;> omega
  obtain ⟨K, hK⟩ : ∃ K, min m 46 = K := ⟨_, rfl⟩
  have y1 : (if (46 : Int) < (m : Int) then 46 else (m : Int)) = (K : Int) := by split <;> omega
  have y2 : (if 46 < m then 46 else (m : Int)) = (K : Int) := by split <;> omega
  have k0 : (0 : Int) ≤ (K : Int) := by omega
  have k1 : (K : Int) ≤ 46 := by omega
  have m1 : (m : Int) ≤ 9223372036854775807 := by omega
  have hsl := fun W => By.slice_to A m c K (by omega) W
  have HD := Lib.hid (show Bys w w.heap.size A K (d.take 46) by
    have h := hb.take (k := K) (by omega)
    have e : d.take K = d.take 46 := by
      have := hb.len
      apply List.ext_getElem?
      intro j
      rw [List.getElem?_take, List.getElem?_take]
      by_cases h1 : j < K
      · rw [if_pos h1, if_pos (by omega)]
      · rw [if_neg h1]
        by_cases h2 : j < 46
        · rw [if_pos h2, List.getElem?_eq_none (by omega)]
        · rw [if_neg h2]
    rw [e] at h
    exact h)
  have HA : Hid (A = none → K = 0 ∧ c = 0) := Lib.hid (fun h => by have := hA h; omega)
  have HE := Lib.hid hE
  have n0 : (0 : Int) ≤ (n : Int) := by omega
  have n1 : (n : Int) ≤ 4294967295 := by omega
  have k46 : K ≤ 46 := by omega
  clear hb hA hE hK he hn hm
  go_enter Try.func10, Try.ntmps10
  go_upto_region 2 with (fail)
  obtain ⟨w1, hw1⟩ : ∃ w1, w1 = (w.alloc (.cells #[.int .u32 (E : Int), .int .u32 (n : Int), .bool f, .bool l, .slice A m c] 25)).alloc (.cells #[.int .u32 0, .int .u32 0, .bool false, .bool false, .slice none 0 0] 25) := ⟨_, rfl⟩
  have hb1 : Below w.heap.size w w1 := by rw [hw1]; exact ((Below.refl _ _).alloc (Nat.le_refl _) _).alloc (by simp) _
  have hz1w : w1.heap.size = w.heap.size + 2 := by rw [hw1]; simp
  have hk1 : Blk w1 w.heap.size 25 (LeafC E n f l A m c) := by rw [hw1]; exact (Blk.new w _ _).alloc _
  have hr1 : Leaf5 w1 (w.heap.size + 1) := by
    rw [hw1]
    refine ⟨ZeroC, ⟨?_⟩, rfl⟩
    have h := heap_alloc_new (w.alloc (.cells #[.int .u32 (E : Int), .int .u32 (n : Int), .bool f, .bool l, .slice A m c] 25)) (.cells #[.int .u32 0, .int .u32 0, .bool false, .bool false, .slice none 0 0] 25)
    rw [World.size_alloc] at h
    exact h
  rw [← hw1]
  have H1 := Lib.hid (And.intro hk1 (And.intro hr1 (And.intro hb1 hz1w)))
  have HD1 := Lib.hid (HD.out.below hb1 (Nat.le_refl _))
  obtain ⟨c0, c1, c2, c3, c4⟩ := box_cells hk1
  clear hw1 hk1 hr1 hb1 hz1w x1 x2 x3
  go_upto_region 4 with (first
    | (at_builtin; refine By.wpList_append_bytes _ rfl _ _ 23 rfl w1.heap.size 5 i0 Try.underlying23 hi0 hz0 hz1 hz2 (.slice none 0 0) 0 [] rfl (World.ownsRow_nil _ _ _ _) w.heap.size A K c (d.take 46) rfl HD1.out HA.out (by omega) (Nat.le_refl _) ?_; intro v' w2 hown hgrow hfr; rw [Nat.zero_add, List.nil_append] at hown)
    | (at_builtin; refine By.wpList_append_zeros w2 rfl _ _ 23 3 rfl w1.heap.size 5 i0 Try.underlying23 Try.underlying3 hi0 hz0 hz1 hz2 _ K (d.take 46) rfl hown 46 rfl (by omega) (by omega) (by have := hgrow.size; exact this) ?_; intro v2 w3 hown2 hgrow2; have hk3 := (H1.out.1.grown hgrow (fun e => by cases e)).grown hgrow2 (fun e => by have := hown.lt _ e.symm; have := H1.out.2.2.2; omega); have c4 : w3.cell? ⟨w.heap.size, 4, none⟩ = some (.slice A m c) := hk3.cell 4; have f4 := hk3.frozen 4; obtain ⟨A2, c2, rfl⟩ := Mv.own_value hown2))
  obtain ⟨w4, hw4⟩ : ∃ w4, w4 = w3.setCell ⟨w.heap.size, 4, none⟩ (.slice A2 (K + 46) c2) := ⟨_, rfl⟩
  have hb2 : Below w.heap.size w w2 := H1.out.2.2.1.grown hgrow H1.out.2.2.1.size (fun g hg => by cases hg)
  have hb3 : Below w.heap.size w w3 := hb2.grown hgrow2 hb2.size (fun g hg => by have := hown.lt g hg; have := H1.out.2.2.2; omega)
  have H4 : Hid (Blk w4 w.heap.size 25 (LeafC E n f l A2 (K + 46) c2) ∧ Leaf5 w4 (w.heap.size + 1) ∧ Below w.heap.size w w4 ∧ w4.ownsRow (w.heap.size + 2) 5 1 (.slice A2 (K + 46) c2) (K + 46) (cellsB (d.take 46 ++ List.replicate 46 0)) ∧ w.heap.size + 2 ≤ w4.heap.size) := Lib.hid (by
    have hk4 := hk3.put 4 (.slice A2 (K + 46) c2)
    rw [hw4]
    obtain ⟨cs, q1, q2⟩ := H1.out.2.1
    refine ⟨hk4, ⟨cs, ((q1.grown hgrow (fun e => by cases e)).grown hgrow2 (fun e => by have := hown.lt _ e.symm; have := H1.out.2.2.2; omega)).grown (Qu.turned_at w3 _ _ _) (fun e => by injection e with e; omega), q2⟩, hb3.setCell (Nat.le_refl _) _, ?_, ?_⟩
    · have h := own_far hown2 (Qu.turned_at w3 w.heap.size 4 (.slice A2 (K + 46) c2)) (by have := H1.out.2.2.2; omega)
      exact own_lower h (by have := H1.out.2.2.2; omega)
    · have h1 := hgrow.size
      have h2 := hgrow2.size
      have h3 := (Qu.turned_at w3 w.heap.size 4 (.slice A2 (K + 46) c2)).size
      have := H1.out.2.2.2
      omega)
  rw [← hw4]
  obtain ⟨c0, c1, c2', c3, c4⟩ := box_cells H4.out.1
  have f4 := H4.out.1.frozen 4
  clear hw4 hb2 hb3 hk3 hown hgrow hfr hown2 hgrow2 HD1 H1 HD HA hsl y1 y2
  obtain ⟨N, hN⟩ : ∃ N, nearN n l = N := ⟨_, rfl⟩
  have hN1 := nearN_in n l
  rw [hN] at hN1
  have N0 : (0 : Int) ≤ (N : Int) := by omega
  have N1 : (N : Int) ≤ 46 := by omega
  have HN := Lib.hid hN
  have hcap : K + 46 ≤ c2 := (Mv.own_cap H4.out.2.2.2.1).1
  have hsl := fun W => By.slice_to A2 (K + 46) c2 N (by omega) W
  cases l with
  | true =>
    have t1 : 1 + (n : Int) % 46 = (N : Int) := by rw [← hN]; unfold nearN; simp
    have t2 : 1 + (n : Int).tmod 46 = (N : Int) := by rw [Int.tmod_eq_emod_of_nonneg (by omega)]; exact t1
    clear hN
    go_upto_region 7 with (fail)
    obtain ⟨w5, hw5⟩ : ∃ w5, w5 = w4.setCell ⟨w.heap.size, 4, none⟩ (.slice A2 N c2) := ⟨_, rfl⟩
    have H5 : Hid (Blk w5 w.heap.size 25 (LeafC E n f true A2 N c2) ∧ Leaf5 w5 (w.heap.size + 1) ∧ Below w.heap.size w w5 ∧ w5.ownsRow (w.heap.size + 2) 5 1 (.slice A2 (K + 46) c2) (K + 46) (cellsB (d.take 46 ++ List.replicate 46 0))) := Lib.hid (by
      rw [hw5]
      exact ⟨H4.out.1.put 4 _, H4.out.2.1.far (Qu.turned_at _ _ _ _) (by omega), H4.out.2.2.1.setCell (Nat.le_refl _) _, own_far H4.out.2.2.2.1 (Qu.turned_at _ _ _ _) (by omega)⟩)
    rw [← hw5]
    clear c0 c1 c2' c3 c4 f4 hw5 H4
    have hk5 := H5.out.1
    have hr5 := H5.out.2.1
    go_wp2_with (first
      | ((with_reducible refine load_leaf (w := w5) (op := ⟨some 30, _, _, _, _, _⟩) ?_ (.tmp 1) ?_ _ ?_ _ hk5 ?_ ?_); (next => rfl); (next => rfl); (next => rfl); (next => rfl))
      | ((with_reducible refine store_leaf (w := w5) (op := ⟨none, _, _, _, _, _⟩) ?_ (.tmp 2) (.tmp 30) ?_ _ ?_ (LeafC E n f true A2 N c2) ?_ hr5 ?_ (LeafC_one _ _ _ _ _ _ _) ?_); (next => rfl); (next => rfl); (next => rfl); (next => rfl); (next => rfl); intro w6 hK6 hG6))
    refine bodyPost_ret (results_leaf rfl _ w6 (w.heap.size + 1) _ rfl hK6 rfl rfl) rfl ?_
    exact near_end HE.out HN.out (by omega) hcap H5.out.2.2.1 H5.out.2.2.2 hG6
  | false =>
    obtain rfl : 46 = N := by rw [← hN]; rfl
    clear hN
    go_upto_region 7 with (fail)
    obtain ⟨w5, hw5⟩ : ∃ w5, w5 = w4.setCell ⟨w.heap.size, 4, none⟩ (.slice A2 46 c2) := ⟨_, rfl⟩
    have H5 : Hid (Blk w5 w.heap.size 25 (LeafC E n f false A2 46 c2) ∧ Leaf5 w5 (w.heap.size + 1) ∧ Below w.heap.size w w5 ∧ w5.ownsRow (w.heap.size + 2) 5 1 (.slice A2 (K + 46) c2) (K + 46) (cellsB (d.take 46 ++ List.replicate 46 0))) := Lib.hid (by
      rw [hw5]
      exact ⟨H4.out.1.put 4 _, H4.out.2.1.far (Qu.turned_at _ _ _ _) (by omega), H4.out.2.2.1.setCell (Nat.le_refl _) _, own_far H4.out.2.2.2.1 (Qu.turned_at _ _ _ _) (by omega)⟩)
    rw [← hw5]
    clear c0 c1 c2' c3 c4 f4 hw5 H4
    have hk5 := H5.out.1
    have hr5 := H5.out.2.1
    go_wp2_with (first
      | ((with_reducible refine load_leaf (w := w5) (op := ⟨some 30, _, _, _, _, _⟩) ?_ (.tmp 1) ?_ _ ?_ _ hk5 ?_ ?_); (next => rfl); (next => rfl); (next => rfl); (next => rfl))
      | ((with_reducible refine store_leaf (w := w5) (op := ⟨none, _, _, _, _, _⟩) ?_ (.tmp 2) (.tmp 30) ?_ _ ?_ (LeafC E n f false A2 46 c2) ?_ hr5 ?_ (LeafC_one _ _ _ _ _ _ _) ?_); (next => rfl); (next => rfl); (next => rfl); (next => rfl); (next => rfl); intro w6 hK6 hG6))
    refine bodyPost_ret (results_leaf rfl _ w6 (w.heap.size + 1) _ rfl hK6 rfl rfl) rfl ?_
    exact near_end HE.out HN.out (by omega) hcap H5.out.2.2.1 H5.out.2.2.2 hG6

/-- Two leaves that are alike. -/
theorem same_leaf (w : World) (e n m c m' c' : Nat) (f l : Bool) (A A' : Option Addr) (d : List UInt8) (hb : Bys w w.heap.size A m d) (hb' : Bys w w.heap.size A' m' d) :
    Calls Try.prog 18 #[.agg #[.int .u32 (e : Int), .int .u32 (n : Int), .bool f, .bool l, .slice A m c], .agg #[.int .u32 (e : Int), .int .u32 (n : Int), .bool f, .bool l, .slice A' m' c']] w fun en w' => en = .returned (.bool true) ∧ Below w.heap.size w w' := by
  have K : Hid (∀ W, Below w.heap.size w W → Calls Try.prog 21 #[.slice A m c, .slice A' m' c'] W fun en w' => en = .returned (.bool true) ∧ W = w') := Lib.hid (fun W hW => (By.bytes_any A A' m m' c c' w.heap.size d d W (hb.below hW (Nat.le_refl _)) (hb'.below hW (Nat.le_refl _))).mono fun en w' h => ⟨by rw [h.1]; simp, h.2⟩)
  have hb0 : Below w.heap.size w ((w.alloc (.cells #[.int .u32 (e : Int), .int .u32 (n : Int), .bool f, .bool l, .slice A m c] 25)).alloc (.cells #[.int .u32 (e : Int), .int .u32 (n : Int), .bool f, .bool l, .slice A' m' c'] 25)) := ((Below.refl _ _).alloc (Nat.le_refl _) _).alloc (by simp) _
  have HB0 := Lib.hid hb0
  clear hb hb' hb0
  go_enter Try.func18, Try.ntmps18
  go_wp2_with fail
  refine (K.out _ HB0.out).mono ?_
  rintro en w' ⟨rfl, rfl⟩
  go_wp2
  go_ret
  exact ⟨rfl, HB0.out⟩

def one : Leaf := ⟨1, 0, true, true, [97]⟩

theorem one_bytes : (layB one)[3]? = some 1 ∧ (layB one)[8]? = some 3 ∧ (layB one)[10]? = some 97 ∧ (layB one)[63]? = some 1 := by decide +kernel

theorem one_right : rightB one = true := by decide

theorem one_takes : takesB (layB one) = true ∧ readB (layB one) = one := ⟨takes_lay one one_right (by decide) (by decide), read_lay one (by decide) (by decide) (by decide)⟩

set_option maxHeartbeats 2000000 in
theorem awake_any (w : World) : Calls Try.prog 9 #[] w fun e w' => e = .returned (.bool true) ∧ Below w.heap.size w w' := by
  have kc := fun (w : World) (C : Array Value) (n c : Nat) => Lib.run_convert_bytes_const (P := Try.prog) w 23 5 C n c Try.underlying23 Try.underlying5
  go_enter Try.func9, Try.ntmps9
  go_wp2_with fail
  have hb0 : Below w.heap.size w (w.alloc (.cells #[.int .u8 97] 5 (1, 2))) := (Below.refl _ _).alloc (Nat.le_refl _) _
  refine (lay_right (w.alloc (.cells #[.int .u8 97] 5 (1, 2))) 1 0 1 1 true true (some ⟨w.heap.size, 0, none⟩) [97] (by rw [World.size_alloc]; exact Bys.text w [97] 1 rfl (1, 2)) (by decide) (by decide) one_right).mono ?_
  rintro e w1 ⟨rfl, k1⟩
  have hb1 : Below w.heap.size w w1 := hb0.trans (k1.mono (by simp))
  have HB1 := Lib.hid hb1
  clear hb0 k1 hb1
  have el : layB ⟨1, 0, true, true, [97]⟩ = layB one := rfl
  rw [el]
  obtain ⟨S, hS⟩ : ∃ S, layB one = S := ⟨_, rfl⟩
  have HS := Lib.hid hS
  have hSl : S.length = 64 := by rw [← hS]; exact layB_len _
  have hSb := one_bytes
  rw [hS] at hSb ⊢
  clear el hS
  go_upto_region 2 with (first
    | (with_reducible refine Dk.new_sec (w := w1) (op := ⟨some 1, _, _, _, _, _⟩) rfl rfl ?_; intro w2 hS2 hB2 hZ2)
    | ((with_reducible refine Dk.store_sec (w := w2) (op := ⟨none, _, _, _, _, _⟩) ?_ (.tmp 1) (.tmp 10) ?_ _ ?_ S ?_ _ hS2 hSl ?_); (next => rfl); (next => rfl); (next => rfl); (next => rfl); intro w3 hS3 hG3))
  have hb3 : Below w.heap.size w w3 := (HB1.out.trans (hB2.mono HB1.out.size)).grown hG3 (HB1.out.trans (hB2.mono HB1.out.size)).size (fun k hk => by injection hk with hk; have := HB1.out.size; omega)
  obtain ⟨g, hg⟩ : ∃ g, w1.heap.size = g := ⟨_, rfl⟩
  rw [hg] at hS3 ⊢
  have H3 := Lib.hid (show Sec w3 g S ∧ Below w.heap.size w w3 from ⟨hS3, hb3⟩)
  clear hS2 hB2 hZ2 hG3 hb3 hg HB1
  go_wp2_with (first
    | ((with_reducible refine Dk.load_sec (w := w3) (op := ⟨some 13, _, _, _, _, _⟩) ?_ (.tmp 1) ?_ _ ?_ _ hS3 ?_); (next => rfl); (next => rfl); (next => rfl)))
  clear hS3
  refine (take_any w3 S hSl).mono ?_
  rintro e w4 ht
  unfold Took at ht
  have hyes := one_takes
  rw [HS.out] at hyes
  rw [hyes.1, hyes.2] at ht
  obtain ⟨A, c, rfl, hO, k4⟩ := ht
  have H4 := Lib.hid (show Sec w4 g S ∧ Below w.heap.size w w4 ∧ w4.ownsRow w3.heap.size 5 1 (.slice A 1 c) 1 (cellsB [97]) from ⟨Sec.below H3.out.1 k4, H3.out.2.trans (k4.mono H3.out.2.size), hO⟩)
  clear hO k4 H3 hyes
  go_upto_region 3 with (first
    | (with_reducible refine new_leaf (w := w4) (op := ⟨some 3, _, _, _, _, _⟩) rfl rfl ?_; intro w5 hL5 hB5 hZ5)
    | ((with_reducible refine store_leaf (w := w5) (op := ⟨none, _, _, _, _, _⟩) ?_ (.tmp 3) (.tmp 15) ?_ _ ?_ (LeafC 1 0 true true A 1 c) ?_ hL5 ?_ (LeafC_one _ _ _ _ _ _ _) ?_); (next => rfl); (next => rfl); (next => rfl); (next => rfl); (next => rfl); intro w6 hK6 hG6))
  obtain ⟨g5, hg5⟩ : ∃ g5, w4.heap.size = g5 := ⟨_, rfl⟩
  have h5b := H4.out.2.1.trans (hB5.mono H4.out.2.1.size)
  have H6 := Lib.hid (show Sec w6 g S ∧ Below w.heap.size w w6 ∧ Bys w6 w6.heap.size A 1 [97] from by
    refine ⟨Sec.far (Sec.below H4.out.1 hB5) hG6 (by have := H4.out.1.2.lt; omega), h5b.grown hG6 h5b.size (fun k hk => by injection hk with hk; have := H4.out.2.1.size; omega), ?_⟩
    have ho := (Qu.row_below H4.out.2.2 hB5).kept hG6 (by
      cases hv : (Value.slice A 1 c).ownBlock with
      | none => exact .inl rfl
      | some q =>
        refine .inr fun e => ?_
        have := (H4.out.2.2.lt q hv).2
        injection e with e
        omega)
    exact Bys.own ho)
  rw [hg5] at hK6 ⊢
  obtain ⟨q0, q1, q2, q3, q4⟩ := box_cells hK6
  clear hL5 hB5 hZ5 hK6 hG6 h5b H4 hg5
  obtain ⟨p3, p8, p10, p63⟩ := hSb
  have r3 : w6.cell? ⟨g, 3, none⟩ = some (.int .u8 1) := by rw [H6.out.1.2.cell, secCells_at, p3]; rfl
  have r8 : w6.cell? ⟨g, 8, none⟩ = some (.int .u8 3) := by rw [H6.out.1.2.cell, secCells_at, p8]; rfl
  have r10 : w6.cell? ⟨g, 10, none⟩ = some (.int .u8 97) := by rw [H6.out.1.2.cell, secCells_at, p10]; rfl
  have r63 : w6.cell? ⟨g, 63, none⟩ = some (.int .u8 1) := by rw [H6.out.1.2.cell, secCells_at, p63]; rfl
  clear p3 p8 p10 p63
  go_wp2_with fail
  refine (By.bytes_any A (some ⟨w6.heap.size, 0, none⟩) 1 1 c 1 (w6.heap.size + 1) [97] [97] _ ((H6.out.2.2.below ((Below.refl _ _).alloc (Nat.le_refl _) _) (Nat.le_refl _)).more (by omega)) (Bys.text w6 [97] 1 rfl (1, 2))).mono ?_
  rintro e w7 ⟨rfl, rfl⟩
  have HB7 := Lib.hid (H6.out.2.1.alloc H6.out.2.1.size (.cells #[.int .u8 97] 5 (1, 2)))
  clear kc
  go_wp2
  go_ret
  exact ⟨rfl, HB7.out⟩

/-- What Take tells, as a leaf. -/
def tookL (s : List UInt8) : Leaf := if takesB s then readB s else ⟨0, 0, false, false, []⟩

theorem took_as {w w' : World} {e : Ending} {s : List UInt8} (h : Took w w' e s) : ∃ A c, e = .returned (.tuple #[.agg #[.int .u32 ((tookL s).epoch : Int), .int .u32 ((tookL s).number : Int), .bool (tookL s).first, .bool (tookL s).last, .slice A (tookL s).data.length c], .bool (takesB s)]) ∧ Bys w' w'.heap.size A (tookL s).data.length (tookL s).data ∧ Below w.heap.size w w' := by
  unfold Took at h
  unfold tookL
  cases ht : takesB s with
  | true =>
    rw [ht, if_pos rfl] at h
    obtain ⟨A, c, h1, h2, h3⟩ := h
    exact ⟨A, c, h1, Bys.own h2, h3⟩
  | false =>
    rw [ht, if_neg (by simp)] at h
    exact ⟨none, 0, h.1, Bys.nil _ _ _, h.2⟩

end Go.Proofs.Ytbicdmhmpmdoeaa.Lf
