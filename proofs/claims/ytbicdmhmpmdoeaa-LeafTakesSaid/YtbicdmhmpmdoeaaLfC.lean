/- The landed Lay. -/
import Derived.Test.YtbicdmhmpmdoeaaLfB
import Derived.Deep.RegionLaw
import Derived.Deep.AppendLies
import Derived.Deep.CutBlock
import Derived.Deep.DeepCutAuto
import Derived.Laws.IdiomCopy
namespace Go.Proofs.Ytbicdmhmpmdoeaa.Lf
open Go.ChangeShapes Go.WideShapes Go.ChangeAt Go.RowKit
open Qu (Blk)
open By (Bys cellsB cellsB_length cellsB_at)
open Se (over over_length over_at noughts noughts_len)
open Dk (Sec secCells secCells_size secCells_at size_sector)
set_option linter.unusedVariables false

/-- A value and a sector are told. -/
theorem two_results {f : Func} {p u : Tmp} {T : TypeId} (hf : f.results = #[.cell p T, .tmp u]) (tmps : Array Value) (w : World) (g : Nat) (s : List UInt8) (v : Value) (hT : T = 29) (h : Sec w g s) (hp : tmps.getD p undef = .pointer (some ⟨g, 0, none⟩)) (hv : tmps.getD u undef = v) : (results f tmps).run Try.prog w = .ok (.tuple #[.agg (secCells s), v]) w := by
  subst hT
  have hl := run_loadVar_row (P := Try.prog) w g 29 29 (secCells s) (0, 0) _ h.2.here Try.underlying29 rfl (by rw [size_sector, secCells_size, h.1])
  rw [results_cell_tmp hf, hp, hv]
  simp only [asAddr, Sem.run_pure, Result.andThen_ok, hl]

theorem over_cells : ∀ (vs s : List UInt8) (o : Nat), over (cellsB s) o (cellsB vs) = cellsB (over s o vs)
  | [], s, o => rfl
  | v :: r, s, o => by
    show over ((cellsB s).set o (.int .u8 (v.toNat : Int))) (o + 1) (cellsB r) = cellsB (over (s.set o v) (o + 1) r)
    rw [← By.cellsB_set, over_cells r]

/-- Bytes are written over a sector's, from a place on. -/
theorem sec_over {w : World} {g o : Nat} {s vs : List UInt8} (h : Sec w g s) : Sec (w.setCells g o (cellsB vs)) g (over s o vs) ∧ w.grownBy (w.setCells g o (cellsB vs)) (some g) := by
  obtain ⟨h1, h2⟩ := Dk.setCells_blk (cellsB vs) o w g _ _ h.2
  refine ⟨⟨by rw [over_length, h.1], ?_⟩, h2⟩
  have e : (Se.over (secCells s).toList o (cellsB vs)).toArray = secCells (over s o vs) := by
    unfold secCells
    rw [← over_cells]
  rw [e] at h1
  exact h1

/-- Bytes are copied into a sector, at a step of a region that draws; none, perhaps. -/
theorem step_copy_in {w : World} {ops : Array Oper} {o : Oper} {a : Act} {K : Act → World → Prop} {Q : Exit → Act → World → Prop} {E : Prop} (free : o.guard = none) (x y : Operand)
    (is : o.op = .call { callee := .builtin .copy, args := #[x, y], argTypes := #[23, 23] }) (g o1 n1 c1 m c M : Nat) (A : Option Addr) (s d : List UInt8) (vx : a.eval x = .slice (some ⟨g, o1, none⟩) n1 c1) (vy : a.eval y = .slice A m c)
    (hS : Sec w g s) (hb : Bys w M A m d) (h1 : m ≤ n1) (h2 : o1 + m ≤ 64) (go : ∀ w', Sec w' g (over s o1 d) → w.grownBy w' (some g) → K (a.put o.dst (goInt m)) w') :
    if Region.wanted o (yielded ops a.tmps) = true then Oper.wp Try.prog o a w K Q else E := by
  have hw : Region.wanted o (yielded ops a.tmps) = true := by simp [Region.wanted, free]
  rw [if_pos hw]
  by_cases h0 : m = 0
  · subst h0
    obtain rfl : d = [] := List.eq_nil_of_length_eq_zero hb.len
    have hrun := run_copy_none (P := Try.prog) w 23 23 o.type 5 (some ⟨g, o1, none⟩) A n1 c1 0 c Try.underlying23 (by kernel_rfl) (Nat.zero_min _)
    unfold Oper.wp
    simp [execOp, is, resolve, invoke, builtin, vx, vy, hrun, Result.andThen]
    exact go _ hS (World.grownBy.refl w _)
  obtain ⟨g2, o2, rfl, _, _⟩ := hb.at (k := 0) (by omega)
  have hl : (cellsB d).length = m := by rw [cellsB_length, hb.len]
  have hrun := run_copy_cells (P := Try.prog) w 23 23 o.type 5 g o1 n1 c1 ⟨g2, o2, none⟩ m c (cellsB d) Try.underlying23 (by kernel_rfl) (by rw [hl]; exact (Nat.min_eq_left h1).symm)
    hb.there
    (fun j hj => by
      rw [hl] at hj
      rw [hS.2.cell, secCells_at, List.getElem?_eq_getElem (by rw [hS.1]; omega)]
      rfl)
    (fun j hj => hS.2.frozen _) (By.cellsB_one _)
  rw [hl] at hrun
  obtain ⟨q1, q2⟩ := sec_over (o := o1) (vs := d) hS
  unfold Oper.wp
  simp [execOp, is, resolve, invoke, builtin, vx, vy, hrun, Result.andThen]
  exact go _ q1 q2

/-- A leaf in a box of its own: its five cells. -/
def LeafC (e n : Nat) (f l : Bool) (A : Option Addr) (m c : Nat) : Array Value := #[.int .u32 (e : Int), .int .u32 (n : Int), .bool f, .bool l, .slice A m c]

theorem box_cells {w : World} {g e n m c : Nat} {f l : Bool} {A : Option Addr} (h : Blk w g 25 (LeafC e n f l A m c)) :
    w.cell? ⟨g, 0, none⟩ = some (.int .u32 (e : Int)) ∧ w.cell? ⟨g, 1, none⟩ = some (.int .u32 (n : Int)) ∧ w.cell? ⟨g, 2, none⟩ = some (.bool f) ∧ w.cell? ⟨g, 3, none⟩ = some (.bool l) ∧ w.cell? ⟨g, 4, none⟩ = some (.slice A m c) :=
  ⟨h.cell 0, h.cell 1, h.cell 2, h.cell 3, h.cell 4⟩

/-- What stands while a leaf is laid: the leaf's box, the named result, the sector that is filled. -/
structure LayAt (w wk : World) (g : Nat) (cs : Array Value) (t : List UInt8) : Prop where
  box : Blk wk w.heap.size 25 cs
  res : Sec wk (w.heap.size + 1) noughts
  out : Sec wk g t
  below : Below w.heap.size w wk
  low : w.heap.size + 1 < g

section
variable {w wk wk' : World} {g : Nat} {cs : Array Value} {t t' : List UInt8}
theorem Sec.far {w w' : World} {g k : Nat} {s : List UInt8} (h : Sec w g s) (hg : w.grownBy w' (some k)) (hne : g ≠ k) : Sec w' g s := ⟨h.1, h.2.grown hg (fun e => hne (by injection e))⟩

theorem Sec.below {w w' : World} {g : Nat} {s : List UInt8} (h : Sec w g s) (hb : Below w.heap.size w w') : Sec w' g s := ⟨h.1, h.2.below hb⟩

theorem LayAt.turned (h : LayAt w wk g cs t) (hS : Sec wk' g t') (hg : wk.grownBy wk' (some g)) : LayAt w wk' g cs t' :=
  ⟨h.box.grown hg (fun e => by have := h.low; injection e with e; omega), Sec.far h.res hg (by have := h.low; omega), hS, h.below.grown hg h.below.size (fun k hk => by have := h.low; injection hk with hk; omega), h.low⟩

theorem LayAt.later (h : LayAt w wk g cs t) (hb : Below wk.heap.size wk wk') : LayAt w wk' g cs t :=
  ⟨h.box.below hb, Sec.below h.res hb, Sec.below h.out hb, h.below.trans (hb.mono h.below.size), h.low⟩

theorem LayAt.byte (h : LayAt w wk g cs t) (k : Nat) (z : Int) (hz : 0 ≤ z ∧ z ≤ 255) : LayAt w (wk.setCell ⟨g, k, none⟩ (.int .u8 z)) g cs (t.set k (UInt8.ofNat z.toNat)) :=
  h.turned (h.out.byte z hz) (Qu.turned_at _ _ _ _)

theorem LayAt.drew (h : LayAt w wk g cs t) : LayAt w wk.drew g cs t := ⟨h.box.drew, Sec_drew h.res, Sec_drew h.out, h.below.drew, h.low⟩
end

set_option maxHeartbeats 2000000 in
theorem lay_right (w : World) (e n m c : Nat) (f l : Bool) (A : Option Addr) (d : List UInt8) (hb : Bys w w.heap.size A m d) (he : e < 2 ^ 32) (hn : n < 2 ^ 32) (hr : rightB ⟨e, n, f, l, d⟩ = true) :
    Calls Try.prog 12 #[.agg #[.int .u32 (e : Int), .int .u32 (n : Int), .bool f, .bool l, .slice A m c]] w fun en w' => en = .returned (.tuple #[.agg (secCells (layB ⟨e, n, f, l, d⟩)), .int .i64 0]) ∧ Below w.heap.size w w' := by
  have hm := hb.len
  have hr2 : e ≠ 0 ∧ 1 ≤ d.length ∧ d.length ≤ 46 ∧ (l = true ∨ d.length = 46) := (right_iff _).1 hr
  have m1 : (m : Int) ≤ 46 := by have := hr2.2.2.1; omega
  have m0 : (1 : Int) ≤ (m : Int) := by have := hr2.2.1; omega
  have HD := Lib.hid hb
  have HM := Lib.hid (show d.length = m ∧ 0 < m ∧ m ≤ 46 from ⟨hm, by omega, by omega⟩)
  have HR := Lib.hid hr
  have HE := Lib.hid (And.intro he hn)
  clear hb hr2 hr hm he hn
  go_enter Try.func12, Try.ntmps12
  go_wp2_with (first
    | (refine Dk.new_sec (op := ⟨some 2, _, _, _, _, _⟩) rfl rfl ?_; intro w1 hS1 hB1 hZ1; obtain ⟨c0, c1, c2, c3, c4⟩ := box_cells ((Blk.new w 25 (LeafC e n f l A m c)).below hB1)))
  have H1 := Lib.hid (show Blk w1 w.heap.size 25 (LeafC e n f l A m c) ∧ Sec w1 (w.heap.size + 1) noughts ∧ Below w.heap.size w w1 ∧ w1.heap.size = w.heap.size + 2 from
    ⟨(Blk.new w 25 (LeafC e n f l A m c)).below hB1, by have h := hS1; rw [World.size_alloc] at h; exact h, ((Below.refl w.heap.size w).alloc (Nat.le_refl _) _).trans (hB1.mono (by simp)), by have h := hZ1; rw [World.size_alloc] at h; exact h⟩)
  clear hS1 hB1 hZ1 c0 c1 c2 c3 c4
  refine (right_any w1 e n m c f l A d HM.out.1).mono ?_
  rintro en w2 ⟨rfl, k2⟩
  rw [HR.out]
  have H2 := Lib.hid (show Blk w2 w.heap.size 25 (LeafC e n f l A m c) ∧ Sec w2 (w.heap.size + 1) noughts ∧ Below w.heap.size w w2 ∧ w.heap.size + 1 < w2.heap.size from
    ⟨H1.out.1.below k2, Sec.below H1.out.2.1 k2, H1.out.2.2.1.trans (k2.mono H1.out.2.2.1.size), by have := k2.size; have := H1.out.2.2.2; omega⟩)
  clear k2 H1
  go_wp2_with (first
    | (refine Dk.new_sec (op := ⟨some 4, _, _, _, _, _⟩) rfl rfl ?_; intro w3 hS3 hB3 hZ3; obtain ⟨c0, c1, c2, c3, c4⟩ := box_cells (H2.out.1.below hB3)))
  obtain ⟨g, hg⟩ : ∃ g, w2.heap.size = g := ⟨_, rfl⟩
  have H3 := Lib.hid (show LayAt w w3 g (LeafC e n f l A m c) noughts from ⟨H2.out.1.below hB3, Sec.below H2.out.2.1 hB3, by rw [← hg]; exact hS3, H2.out.2.2.1.trans (hB3.mono H2.out.2.2.1.size), by have := H2.out.2.2.2; omega⟩)
  rw [hg]
  clear hS3 hB3 hZ3 c0 c1 c2 c3 c4 hg H2
  refine (put_any w3 g 0 e _ H3.out.out (by omega) HE.out.1).mono ?_
  rintro en w4 ⟨rfl, s4, g4⟩
  have H4 := Lib.hid (show LayAt w w4 g (LeafC e n f l A m c) (lay1 ⟨e, n, f, l, d⟩) from H3.out.turned s4 g4)
  clear s4 g4 H3
  obtain ⟨c0, c1, c2, c3, c4⟩ := box_cells H4.out.box
  go_wp2_with fail
  refine (put_any w4 g 4 n _ H4.out.out (by omega) HE.out.2).mono ?_
  rintro en w5 ⟨rfl, s5, g5⟩
  have H5 := Lib.hid (show LayAt w w5 g (LeafC e n f l A m c) (lay2 ⟨e, n, f, l, d⟩) from H4.out.turned s5 g5)
  clear s5 g5 H4 c0 c1 c2 c3 c4
  obtain ⟨c0, c1, c2, c3, c4⟩ := box_cells H5.out.box
  go_wp2_with fail
  refine (flags_any w5 e n m c f l A).mono ?_
  rintro en w6 ⟨rfl, k6⟩
  have H6 := Lib.hid (H5.out.later k6)
  clear k6 H5 c0 c1 c2 c3 c4
  obtain ⟨c0, c1, c2, c3, c4⟩ := box_cells H6.out.box
  have fl := flagsN_lt f l
  have z0 : (0 : Int) ≤ (flagsN f l : Int) := by omega
  have z1 : (flagsN f l : Int) ≤ 255 := by omega
  have b8 := H6.out.out.2.cell 8
  have f8 := H6.out.out.2.frozen 8
  have b9 := H6.out.out.2.cell 9
  have f9 := H6.out.out.2.frozen 9
  obtain ⟨u8, hu8⟩ : ∃ u, (secCells (lay2 ⟨e, n, f, l, d⟩))[8]? = some u := ⟨_, Array.getElem?_eq_getElem (by rw [secCells_size, lay2_len]; omega)⟩
  obtain ⟨u9, hu9⟩ : ∃ u, (secCells (lay2 ⟨e, n, f, l, d⟩))[9]? = some u := ⟨_, Array.getElem?_eq_getElem (by rw [secCells_size, lay2_len]; omega)⟩
  rw [hu8] at b8
  rw [hu9] at b9
  clear hu8 hu9
  have gw : w.heap.size ≠ g := by have := H6.out.low; omega
  go_upto_region 8 with (fail)
  obtain ⟨w7, hw7⟩ : ∃ w7, w7 = (w6.setCell ⟨g, 8, none⟩ (.int .u8 (flagsN f l : Int))).setCell ⟨g, 9, none⟩ (.int .u8 (m : Int)) := ⟨_, rfl⟩
  have H7 := Lib.hid (show LayAt w w7 g (LeafC e n f l A m c) (lay4 ⟨e, n, f, l, d⟩) by
    have h := (H6.out.byte 8 (flagsN f l : Int) (by omega)).byte 9 (m : Int) (by omega)
    rw [← hw7, Int.toNat_natCast, Int.toNat_natCast] at h
    show LayAt w w7 g (LeafC e n f l A m c) (((lay2 ⟨e, n, f, l, d⟩).set 8 (UInt8.ofNat (flagsN f l))).set 9 (UInt8.ofNat d.length))
    rw [HM.out.1]
    exact h)
  rw [← hw7]
  clear c0 c1 c2 c3 c4 b8 b9 f8 f9 gw fl z0 z1 H6 hw7
  obtain ⟨c0, c1, c2, c3, c4⟩ := box_cells H7.out.box
  have HB7 := Lib.hid (HD.out.below H7.out.below.drew (Nat.le_refl _))
  go_region_law (first | (refine step_copy_in (by rfl) (.tmp 23) (.tmp 25) (by rfl) g 10 46 54 m c w.heap.size A (lay4 ⟨e, n, f, l, d⟩) d (by rfl) (by rfl) (Sec_drew H7.out.out) HB7.out HM.out.2.2 (by have := HM.out.2.2; omega) ?_; intro w8 s8 g8))
  have H8 := Lib.hid (show LayAt w w8 g (LeafC e n f l A m c) (lay5 ⟨e, n, f, l, d⟩) from H7.out.drew.turned s8 g8)
  unfold Exit.then
  dsimp only
  clear s8 g8 c0 c1 c2 c3 c4 HB7 H7
  have hsl := fun W => part_h g 56 56 rfl (by omega) W
  go_wp2_with fail
  refine (Cr.sum_any 56 64 w8.heap.size (some ⟨g, 0, none⟩) ((lay5 ⟨e, n, f, l, d⟩).take 56) w8 (by have h := part_bys (lo := 0) (n := 56) H8.out.out (by omega); rw [cut, Nat.zero_add, List.drop_zero] at h; exact h) (by omega)).mono ?_
  rintro en w9 ⟨rfl, k9⟩
  have H9 := Lib.hid (H8.out.later k9)
  clear k9 H8 hsl
  go_wp2_with fail
  refine (put_any w9 g 56 (Cr.sum ((lay5 ⟨e, n, f, l, d⟩).take 56)) _ H9.out.out (by omega) (Cr.more_lt _ _)).mono ?_
  rintro en w10 ⟨rfl, s10, g10⟩
  have H10 := Lib.hid (show LayAt w w10 g (LeafC e n f l A m c) (lay6 ⟨e, n, f, l, d⟩) from H9.out.turned s10 g10)
  clear s10 g10 H9
  obtain ⟨c0, c1, c2, c3, c4⟩ := box_cells H10.out.box
  go_wp2_with fail
  refine (put_any w10 g 60 e _ H10.out.out (by omega) HE.out.1).mono ?_
  rintro en w11 ⟨rfl, s11, g11⟩
  have H11 := Lib.hid (show LayAt w w11 g (LeafC e n f l A m c) (layB ⟨e, n, f, l, d⟩) from H10.out.turned s11 g11)
  clear s11 g11 H10 c0 c1 c2 c3 c4
  have hR := H11.out.res
  have hO := H11.out.out
  obtain ⟨S, hSe⟩ : ∃ S, layB ⟨e, n, f, l, d⟩ = S := ⟨_, rfl⟩
  have hSl : S.length = 64 := by rw [← hSe]; exact layB_len _
  rw [hSe] at hO
  go_wp2_with (first
    | ((with_reducible refine Dk.load_sec (op := ⟨some 33, _, _, _, _, _⟩) ?_ (.tmp 4) ?_ _ ?_ _ hO ?_); (next => rfl); (next => rfl); (next => rfl))
    | (refine Dk.store_sec (w := w11) rfl _ _ rfl _ rfl _ rfl _ hR hSl ?_; intro w12 hS12 hG12))
  refine bodyPost_ret (two_results rfl _ w12 (w.heap.size + 1) S (.int .i64 0) rfl hS12 rfl rfl) rfl ⟨by rw [hSe], H11.out.below.grown hG12 H11.out.below.size (fun k hk => by injection hk with hk; omega)⟩

set_option maxHeartbeats 2000000 in
theorem lay_wrong (w : World) (e n m c : Nat) (f l : Bool) (A : Option Addr) (d : List UInt8) (hm : d.length = m) (hr : rightB ⟨e, n, f, l, d⟩ = false) :
    Calls Try.prog 12 #[.agg #[.int .u32 (e : Int), .int .u32 (n : Int), .bool f, .bool l, .slice A m c]] w fun en w' => en = .returned (.tuple #[.agg (secCells noughts), .int .i64 2]) ∧ Below w.heap.size w w' := by
  have HR := Lib.hid hr
  clear hr
  go_enter Try.func12, Try.ntmps12
  go_wp2_with (first
    | (refine Dk.new_sec (op := ⟨some 2, _, _, _, _, _⟩) rfl rfl ?_; intro w1 hS1 hB1 hZ1; obtain ⟨c0, c1, c2, c3, c4⟩ := box_cells ((Blk.new w 25 (LeafC e n f l A m c)).below hB1)))
  have H1 := Lib.hid (show Sec w1 (w.heap.size + 1) noughts ∧ Below w.heap.size w w1 from
    ⟨by have h := hS1; rw [World.size_alloc] at h; exact h, ((Below.refl w.heap.size w).alloc (Nat.le_refl _) _).trans (hB1.mono (by simp))⟩)
  clear hS1 hB1 hZ1 c0 c1 c2 c3 c4
  refine (right_any w1 e n m c f l A d hm).mono ?_
  rintro en w2 ⟨rfl, k2⟩
  rw [HR.out]
  have hR := Sec.below H1.out.1 k2
  have HB := Lib.hid (H1.out.2.trans (k2.mono H1.out.2.size))
  clear k2 H1
  go_wp2_with (first
    | (refine Dk.zero_sec rfl rfl ?_)
    | (refine Dk.store_sec (w := w2) rfl _ _ rfl _ rfl _ rfl _ hR noughts_len ?_; intro w3 hS3 hG3))
  refine bodyPost_ret (two_results rfl _ w3 (w.heap.size + 1) noughts (.int .i64 2) rfl hS3 rfl rfl) rfl ⟨rfl, HB.out.grown hG3 HB.out.size (fun k hk => by injection hk with hk; omega)⟩

/-- What Lay tells. -/
def layV (l : Leaf) : List UInt8 := if rightB l then layB l else noughts

def layE (l : Leaf) : Int := if rightB l then 0 else 2

theorem layV_len (l : Leaf) : (layV l).length = 64 := by
  unfold layV
  split
  · exact layB_len _
  · exact noughts_len

theorem lay_any (w : World) (e n m c : Nat) (f l : Bool) (A : Option Addr) (d : List UInt8) (hb : Bys w w.heap.size A m d) (he : e < 2 ^ 32) (hn : n < 2 ^ 32) :
    Calls Try.prog 12 #[.agg #[.int .u32 (e : Int), .int .u32 (n : Int), .bool f, .bool l, .slice A m c]] w fun en w' => en = .returned (.tuple #[.agg (secCells (layV ⟨e, n, f, l, d⟩)), .int .i64 (layE ⟨e, n, f, l, d⟩)]) ∧ Below w.heap.size w w' := by
  unfold layV layE
  cases hr : rightB ⟨e, n, f, l, d⟩ with
  | true => exact lay_right w e n m c f l A d hb he hn hr
  | false => exact lay_wrong w e n m c f l A d hb.len hr

end Go.Proofs.Ytbicdmhmpmdoeaa.Lf
