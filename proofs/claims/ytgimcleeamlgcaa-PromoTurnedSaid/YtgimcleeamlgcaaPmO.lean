/- The landed Order. -/
import Derived.Test.YtgimcleeamlgcaaPmN
set_option maxRecDepth 100000

set_option linter.unusedVariables false
namespace Go.Proofs.Ytgimcleeamlgcaa.Pm
open Go.ChangeShapes Go.WideShapes Go.ChangeAt Go.RowKit
open Ap (Scp Prt Tir Prm kPrm row_Prm)
open Kd (Row Own kStr kInt Cells row_int RowT)
open Mv (Only)
open Pr (nth bef takenB orderTo)
open St (vals Dat Mrg seg)

theorem int64_t : RowT Try.prog kInt 74 2 (.int .i64 0) 1 8 :=
  ⟨Try.underlying74, by kernel_rfl, rfl, rfl, by omega, fun h => by
    obtain ⟨rfl, _⟩ := h
    intro u hu
    simp only [List.mem_cons, List.not_mem_nil, or_false] at hu
    subst hu; rfl⟩

theorem own_base {α : Type} {K : Kd.Kind α} {w : World} {B B' E n : Nat} {F : Nat → Prop} {v : Value} {xs : List α} (h : Own K w B E F v n xs) (hB : B' ≤ B) : Own K w B' E F v n xs := by
  obtain ⟨h1, cs, ho, hc⟩ := h
  refine ⟨h1, cs, ⟨ho.1, ?_⟩, hc⟩
  rcases ho.2 with h2 | ⟨g, cap, cur, hv, hb, rest⟩
  · exact .inl h2
  · exact .inr ⟨g, cap, cur, hv, Nat.le_trans hB hb, rest⟩

/-- What lies there once the places are sorted. -/
structure Base (w W : World) (A : Option Addr) (n c : Nat) (l : List Prm) (A2 : Option Addr) (N c2 : Nat) (F : Nat → Nat) : Prop where
  box : Qu.Blk W w.heap.size 39 #[.slice A n c]
  row : Row kPrm W (· < W.heap.size) A n l
  own : Own kInt W w.heap.size 3 (fun _ => False) (.slice A2 N c2) N (ints ((List.range N).map F))
  lt : ∀ k, k < N → F k < n
  below : Below w.heap.size w W

theorem Base.later {w W W' : World} {A A2 : Option Addr} {n c N c2 : Nat} {l : List Prm} {F : Nat → Nat} (h : Base w W A n c l A2 N c2 F) (hb : Below W.heap.size W W') : Base w W' A n c l A2 N c2 F :=
  ⟨h.box.below hb, (h.row.below hb (Nat.le_refl _)).more fun b hb2 => Nat.lt_of_lt_of_le hb2 hb.size, h.own.later hb, h.lt, h.below.trans (hb.mono h.below.size)⟩

/-- The Priorities of the first k. -/
def prios (l : List Prm) (F : Nat → Nat) (k : Nat) : List Int := (List.range k).map (prio l F)

theorem prios_more (l : List Prm) (F : Nat → Nat) (k : Nat) : prios l F (k + 1) = prios l F k ++ [prio l F k] := by
  unfold prios
  rw [List.range_succ, List.map_append]; rfl

def Ordered (w : World) (l : List Prm) (codes : List ByteArray) (n : Nat) (e : Ending) (w' : World) : Prop := ∃ v, e = .returned v ∧ Own kInt w' w.heap.size 3 (fun _ => False) v (orderTo l codes n).length (ints (orderTo l codes n)) ∧ Below w.heap.size w w'

/-- Where the last loop stands. -/
structure Tells (w W wr : World) (A3 : Option Addr) (c3 : Nat) (l : List Prm) (F : Nat → Nat) (N : Nat) (v : Value) (k : Nat) : Prop where
  below : Below W.heap.size W wr
  nums : wr.ownsRow W.heap.size 3 1 (.slice A3 N c3) N (Qu.nums (Qu.ord (prio l F) N))
  own : Own kInt wr W.heap.size 3 (fun _ => False) v k (ints ((told l F N).take k))
  apart : ∀ g, v.ownBlock = some g → (Value.slice A3 N c3).ownBlock ≠ some g

theorem made_own {e : TypeId} (W : World) (n B : Nat) (hn : n ≤ 1000000000) (hB : B ≤ W.heap.size) : Own kInt (W.alloc (.cells (madeCells #[.int .i64 0] n) e)) B e (fun _ => False) (.slice (some ⟨W.heap.size, 0, none⟩) 0 n) 0 [] :=
  ⟨rfl, [], World.ownsRow_made W _ n hB (by unfold maxLen; omega) (by rw [size_madeCells]; show n = n * 1; omega), rfl⟩

theorem make_run {t e : TypeId} (ht : Try.prog.underlying t = some (.slice e)) (hi : (Try.prog.info? e).map (fun i => (i.zero, i.size, i.bytes)) = some (some (.int .i64 0), 1, 8)) (n : Nat) (hn : n ≤ 1000000000) (W : World) : (Instr.makeSlice t (.int .i64 0) (.int .i64 (n : Int))).run Try.prog W = .ok (.slice (some ⟨W.heap.size, 0, none⟩) 0 n) (W.alloc (.cells (madeCells #[.int .i64 0] n) e)) := by
  obtain ⟨i0, hi0, hz0, hz1, hz2⟩ := info_parts hi
  have hr := run_make (P := Try.prog) W t e i0 _ ht hi0 hz0 .i64 .i64 0 n (by omega) (by omega) (by rw [hz2]; omega) (by omega)
  rw [hz1, Nat.mul_one] at hr
  simp only [Int.toNat_natCast] at hr
  exact hr

def Brought3 (w : World) (l : List Prm) (codes : List ByteArray) (n N : Nat) (e : Ending) (w' : World) : Prop := ∃ A2 c2, e = .returned (.slice A2 N c2) ∧ Own kInt w' w.heap.size 3 (fun _ => False) (.slice A2 N c2) N (ints (places l codes n)) ∧ Below w.heap.size w w'

set_option maxHeartbeats 4000000 in
theorem order_any (A : Option Addr) (n c : Nat) (l : List Prm) (Ac : Option Addr) (m cc : Nat) (codes : List ByteArray) (w : World) (h : Row kPrm w (· < w.heap.size) A n l) (hc : Row kStr w (· < w.heap.size) Ac m codes) (hn : n ≤ 100000000) (hm : m ≤ 100000000) :
    Calls Try.prog 17 #[.slice A n c, .slice Ac m cc] w fun e w' => Ordered w l codes n e w' := by
  obtain ⟨w1, hw1⟩ : ∃ w1, w.alloc (.cells #[.slice A n c] 39) = w1 := ⟨_, rfl⟩
  have hb1 : Below w.heap.size w w1 := by rw [← hw1]; exact (Below.refl _ _).alloc (Nat.le_refl _) _
  have hx : Qu.Blk w1 w.heap.size 39 #[.slice A n c] := by rw [← hw1]; exact Qu.Blk.new w _ _
  have hs1 : w1.heap.size = w.heap.size + 1 := by rw [← hw1]; simp
  have HL := Lib.hid h.len
  obtain ⟨N, hN⟩ : ∃ N, (places l codes n).length = N := ⟨_, rfl⟩
  have hNn : N ≤ n := by have := places_len l codes n; omega
  have HBr : Hid (Calls Try.prog 44 #[.slice A n c, .slice Ac m cc] w1 (Brought3 w1 l codes n N)) := Lib.hid ((brought_any A n c l Ac m cc codes w1 ((h.below hb1 (Nat.le_refl _)).more fun b hb => Nat.lt_of_lt_of_le hb hb1.size) ((hc.below hb1 (Nat.le_refl _)).more fun b hb => Nat.lt_of_lt_of_le hb hb1.size) (by omega) (by omega)).mono fun e w' ⟨v, he, hO, hb⟩ => by
    obtain ⟨A2, c2, rfl⟩ := hO.value
    rw [hN] at he hO
    exact ⟨A2, c2, he, hO, hb⟩)
  have HN := Lib.hid hN
  clear hN
  have HW1 := Lib.hid (And.intro h (And.intro hb1 (And.intro hx hs1)))
  have x0 := hx.cell 0
  clear h hc hb1 hx hs1
  go_enter Try.func17, Try.ntmps17
  go_wp2_with fail
  refine HBr.out.mono ?_
  rintro e w2 ⟨A2, c2, rfl, hO, hb2⟩
  have HSo : Hid (Calls Try.prog 45 #[.slice A2 N c2, St.test w.heap.size] w2 (SortedOwn l (places l codes n) w1.heap.size (.slice A2 N c2) w2)) := Lib.hid (by
    obtain ⟨g1, g2, g3, g4⟩ := HW1.out
    have hx2 := g3.below hb2
    have hbb := g2.trans (hb2.mono g2.size)
    refine sort_own l n w.heap.size w1.heap.size _ (places l codes n) w2 (by rw [HN.out]; exact hO) (fun g hg => ?_) (places_rise l codes n) (fun x hx => (places_mem.1 hx).1) (by rw [HN.out]; omega) (by omega)
    have hlow := hO.low g hg
    have hsz := hbb.size
    exact asks l A n c w.heap.size g (· < w.heap.size) w2 (g1.below hbb (Nat.le_refl _)) (fun b hb => ⟨Nat.lt_of_lt_of_le hb hsz, fun e => by omega⟩) (by rw [hx2.cell 0]; rfl) (by omega) hx2.lt)
  have HO2 := Lib.hid (And.intro hO hb2)
  unfold St.test at HSo
  clear hO hb2 HBr
  go_wp2_with fail
  refine HSo.out.mono ?_
  rintro e w3 ⟨rfl, F, hM, hS, hOn⟩
  have hBase : Base w w3 A n c l A2 N c2 F := by
    obtain ⟨g1, g2, g3, g4⟩ := HW1.out
    obtain ⟨hO, hb2⟩ := HO2.out
    have hx2 := g3.below hb2
    have hbb := g2.trans (hb2.mono g2.size)
    have far : ∀ b, b < w1.heap.size → ¬ (Value.slice A2 N c2).ownBlock = some b := fun b hb e => by have := (hO.low b e).1; omega
    have hb3 : Below w.heap.size w2 w3 := hOn.toBelow (by have := hbb.size; omega) fun k hk => far k (by omega)
    have hr := g1.below (hbb.trans hb3) (Nat.le_refl _)
    refine ⟨Mv.blk_only hx2 hOn (far _ (by omega)), hr.more fun b hb => Nat.lt_of_lt_of_le hb (by have := hbb.size; have := hOn.size; omega), ?_, fun k hk => ?_, hbb.trans hb3⟩
    · rw [HN.out] at hS; exact own_base (B' := w.heap.size) (B := w1.heap.size) hS (by rw [g4]; exact Nat.le_succ _)
    · obtain ⟨i, _, i2, e⟩ := hM.mem (Nat.zero_le k) (by rw [HN.out]; exact hk)
      rw [← e]
      exact (places_mem.1 (at_mem i2)).1
  have HM := Lib.hid hM
  have HBase := Lib.hid hBase
  have mk1 := make_run (t := 74) (e := 2) Try.underlying74 (by kernel_rfl) N (by omega)
  have mk2 := make_run (t := 43) (e := 3) Try.underlying43 (by kernel_rfl) N (by omega)
  have HP0 : Hid (Own kInt (w3.alloc (.cells (madeCells #[.int .i64 0] N) 2)) w3.heap.size 2 (fun _ => False) (.slice (some ⟨w3.heap.size, 0, none⟩) 0 N) 0 (prios l F 0) ∧ Below w3.heap.size w3 (w3.alloc (.cells (madeCells #[.int .i64 0] N) 2))) := Lib.hid ⟨made_own w3 N w3.heap.size (by omega) (Nat.le_refl _), (Below.refl _ _).alloc (Nat.le_refl _) _⟩
  clear hBase hM hS hOn HSo HO2 HW1 x0
  go_wp2
  go_loopw [6, 23] (fun s6 s23 wr => ∃ k : Nat, s23 = .int .i64 k ∧ k ≤ N ∧ Hid (Own kInt wr w3.heap.size 2 (fun _ => False) s6 k (prios l F k) ∧ Below w3.heap.size w3 wr)) (fun _ s23 _ => N - (intOf s23).toNat)
  case atStart => exact ⟨0, rfl, Nat.zero_le _, HP0⟩
  case round =>
    obtain ⟨k, rfl, hk, HP⟩ := hrel
    clear HP0
    by_cases hlt : k < N
    · have hB := HBase.out.later HP.out.2
      have hx0 := hB.box.cell 0
      have hFk := hB.lt k hlt
      obtain ⟨g, o, rfl, _, _, _, d0⟩ := row_int hB.own.read (k := k) (x := (F k : Int)) (by unfold ints; simp [hlt])
      obtain ⟨p, hp⟩ := hB.row.get hFk
      obtain ⟨g', o', y, rfl, _, _, hh, c0, c1, e2, _⟩ := row_Prm hB.row hp
      have HPr : Hid (prio l F k = p.priority) := Lib.hid (by unfold prio; rw [Pr.nth_at hp])
      have hpr := hh.priority
      have k1 : (k : Int) < (N : Int) := by omega
      have k0 : (0 : Int) ≤ (k : Int) := by omega
      have f1 : (F k : Int) < (n : Int) := by omega
      have f0 : (0 : Int) ≤ (F k : Int) := by omega
      clear hB hp hh c0 c1 mk1 mk2
      go_wp2_with ((at_builtin; refine Kd.wpList_push (W := wr) (F := fun _ => False) (B := w3.heap.size) (n := k) (v := u6) (xs := prios l F k) (y := p.priority) (cs := [.int .i64 p.priority]) int64_t rfl _ _ rfl rfl rfl rfl HP.out.1 ⟨rfl, hpr⟩ (by omega) (by omega) HP.out.2.size (fun _ h => h.elim) ?_; intro g1 cap w' hown hgrow hfr))
      have HP2 : Hid (Own kInt w' w3.heap.size 2 (fun _ => False) (.slice (some ⟨g1, 0, none⟩) (k + 1) cap) (k + 1) (prios l F (k + 1)) ∧ Below w3.heap.size w3 w') := Lib.hid ⟨by rw [prios_more, HPr.out]; exact hown, HP.out.2.grown hgrow HP.out.2.size fun j hj => (HP.out.1.low j hj).1⟩
      clear hown hgrow hfr
      go_wp2
      go_roundw
      case rel => exact ⟨k + 1, by go_num, by omega, HP2⟩
      case measure => simp [intOf]; omega
    · obtain rfl : k = N := by omega
      have k1 : ¬ (k : Int) < (k : Int) := by omega
      obtain ⟨A5, c5, rfl⟩ := HP.out.1.value
      obtain ⟨w4, hw4⟩ : ∃ w4, wr.alloc (.cells (madeCells #[.int .i64 0] k) 3) = w4 := ⟨_, rfl⟩
      have hb4 : Below wr.heap.size wr w4 := by rw [← hw4]; exact (Below.refl _ _).alloc (Nat.le_refl _) _
      have hown4 : Own kInt w4 wr.heap.size 3 (fun _ => False) (.slice (some ⟨wr.heap.size, 0, none⟩) 0 k) 0 [] := by rw [← hw4]; exact made_own wr k wr.heap.size (by omega) (Nat.le_refl _)
      have HQ := Lib.hid (Qu.order_any A5 k c5 (prio l F) w4 (fun j hj => by
        obtain ⟨g, o, hA, hg, _, _, hcell⟩ := row_int (HP.out.1.later hb4).read (k := j) (x := prio l F j) (by unfold prios; simp [hj])
        exact ⟨g, o, hA, hg, hcell⟩) (by omega))
      have HW4 := Lib.hid (And.intro hb4 hown4)
      clear hb4 hown4 mk1
      go_wp2_with fail
      refine HQ.out.mono ?_
      rintro e w5 ⟨A3, c3, rfl, hnums, hb5⟩
      have HT0 : Hid (Tells w w3 w5 A3 c3 l F k (.slice (some ⟨wr.heap.size, 0, none⟩) 0 k) 0) := Lib.hid (by
        obtain ⟨hb4, hown4⟩ := HW4.out
        have hb45 := HP.out.2.trans ((Hk.andThen hb4 hb5).mono HP.out.2.size)
        have hsz := hb4.size
        have hs3 := HP.out.2.size
        refine ⟨hb45, ⟨hnums.1, ?_⟩, own_base (hown4.later hb5) hs3, fun g hg e => ?_⟩
        · rcases hnums.2 with h2 | ⟨g, cap, cur, hv, hb, rest⟩
          · exact .inl h2
          · exact .inr ⟨g, cap, cur, hv, by omega, rest⟩
        · have h1 := (hnums.lt g e).1
          have h2 := (hown4.low g hg).2
          omega)
      clear hnums hb5 HQ HW4 hw4 mk2
      go_wp2
      go_loopw [9, 42] (fun s9 s42 wx => ∃ j : Nat, s42 = .int .i64 j ∧ j ≤ k ∧ Hid (Tells w w3 wx A3 c3 l F k s9 j)) (fun _ s42 _ => k - (intOf s42).toNat)
      case atStart => exact ⟨0, rfl, Nat.zero_le _, HT0⟩
      case round =>
        obtain ⟨j, rfl, hj, HT⟩ := hrel
        clear HT0
        by_cases hjl : j < k
        · have hB := HBase.out.later HT.out.below
          obtain ⟨q, hq⟩ : ∃ q, (Qu.ord (prio l F) k)[j]? = some q := ⟨_, List.getElem?_eq_getElem (by rw [Qu.ord_length]; exact hjl)⟩
          obtain ⟨i, hi, rfl⟩ := Qu.ord_mem _ _ q (List.mem_of_getElem? hq)
          obtain ⟨g, o, rfl, _, _, _, d0⟩ := row_int hB.own.read (k := i) (x := (F i : Int)) (by unfold ints; simp [hi])
          have hnums := HT.out.nums
          have hap := HT.out.apart
          obtain ⟨g3, cap3, hv3, _⟩ := hnums.form (by omega)
          injection hv3 with hv3 _ hcc
          subst hv3 hcc
          have c3' := hnums.cellAt j (by omega)
          have hnj : (Qu.nums (Qu.ord (prio l F) k))[j]? = some (.int .i64 (i : Int)) := by
            unfold Qu.nums
            rw [List.getElem?_map, hq]; rfl
          rw [hnj] at c3'
          have hFk := hB.lt i hi
          have ht : (told l F k)[j]? = some (F i) := by
            unfold told
            rw [List.getElem?_map, hq]
            show some (F ((i : Int)).toNat) = _
            rw [Int.toNat_natCast]
          have HTk : Hid (ints ((told l F k).take (j + 1)) = ints ((told l F k).take j) ++ [(F i : Int)]) := Lib.hid (by rw [List.take_add_one, ht]; unfold ints; simp)
          have j1 : (j : Int) < (k : Int) := by omega
          have j0 : (0 : Int) ≤ (j : Int) := by omega
          have i1 : (i : Int) < (k : Int) := by omega
          have i0 : (0 : Int) ≤ (i : Int) := by omega
          have HTT := Lib.hid (And.intro HT.out.own (And.intro HT.out.below.size (And.intro hnums hap)))
          clear hB hnj hnums hap hq ht
          go_wp2_with ((at_builtin; refine Kd.wpList_push (W := wr) (F := fun _ => False) (B := w3.heap.size) (n := j) (v := u9) (xs := ints ((told l F k).take j)) (y := (F i : Int)) (cs := [.int .i64 (F i : Int)]) Ap.int_t rfl _ _ rfl rfl rfl rfl HTT.out.1 ⟨rfl, by omega, by omega⟩ (by omega) (by omega) HTT.out.2.1 (fun _ h => h.elim) ?_; intro g1 cap w' hown hgrow hfr))
          have HT2 : Hid (Tells w w3 w' (some ⟨g3, 0, none⟩) c3 l F k (.slice (some ⟨g1, 0, none⟩) (j + 1) cap) (j + 1)) := Lib.hid (by
            obtain ⟨hO, hsz, hnums, hap⟩ := HTT.out
            refine ⟨HT.out.below.grown hgrow hsz fun q hq => (hO.low q hq).1, hnums.kept hgrow ?_, by rw [HTk.out]; exact hown, fun q hq e => ?_⟩
            · right
              intro e
              exact hap g3 e.symm rfl
            · have hq2 : g1 = q := by injection hq
              subst hq2
              have e2 : g3 = g1 := by injection e
              subst e2
              rcases hfr with h1 | h1
              · exact hap _ h1 rfl
              · have := (hnums.lt g3 rfl).2
                omega)
          clear hown hgrow hfr
          go_wp2
          go_roundw
          case rel => exact ⟨j + 1, by go_num, by omega, HT2⟩
          case measure => simp [intOf]; omega
        · obtain rfl : j = k := by omega
          have j1 : ¬ (j : Int) < (j : Int) := by omega
          have HO : Hid (Ordered w l codes n (.returned u9) wr) := Lib.hid (by
            have ht := HT.out.own
            rw [List.take_of_length_le (by rw [told_len]; omega)] at ht
            have e := told_is l codes n F HM.out
            rw [HN.out] at e
            have e2 : (orderTo l codes n).length = j := by rw [← e, told_len]
            refine ⟨u9, rfl, ?_, HBase.out.below.trans (HT.out.below.mono HBase.out.below.size)⟩
            rw [e2, ← e]
            exact own_base ht HBase.out.below.size)
          clear HT
          go_wp2
          go_ret
          exact HO.out

end Go.Proofs.Ytgimcleeamlgcaa.Pm
