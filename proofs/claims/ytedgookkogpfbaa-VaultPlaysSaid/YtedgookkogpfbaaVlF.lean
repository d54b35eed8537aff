/- A landed vault on a disk of the call's own; what a program that does nothing does not answer. -/
import Derived.Test.YtedgookkogpfbaaVlC
import Derived.Test.YtedgookkogpfbaaVlE
import Derived.Test.YtedgookkogpfbaaVtZ
import Derived.Lib.SlBytesConst
set_option maxRecDepth 100000
namespace Go.Proofs.Ytedgookkogpfbaa.Vl
open Go.ChangeShapes Go.WideShapes Go.ChangeAt Go.RowKit
open Qu (Blk)
open Mv (Only Fresh)
open By (Own8 Bys cellsB cellsB_length)
open Dk (DS dsNew crashD startD armD writeD writeE secCells)
open Dd (Lay At Tidy Pl)
open Jr (JS Recd JHas Fit newE blankJ openJ addE addDS addJ stopE needN blk_blk_ne own_own_ne ownBlock_any)
open Jl (RecE Told AddE own_far_disk)
open Vt
set_option linter.unusedVariables false

theorem mark_lt (s : List UInt8) (h : s.length = 64) : Lf.markN s < 2 ^ 32 := by
  have h1 := Lf.val4_lt (Lf.cut_len (s := s) (at_ := 0) (n := 4) (by omega))
  have h2 := Lf.val4_lt (Lf.cut_len (s := s) (at_ := 60) (n := 4) (by omega))
  unfold Lf.markN
  omega

theorem top_lt {d : DS} (h : d.Ok) : topN d.now < 2 ^ 32 := by
  have : topN d.now ≤ 4294967295 := top_le fun s hs => by
    obtain ⟨i, hi, rfl⟩ := List.getElem_of_mem hs
    have := mark_lt _ (h.now.at (List.getElem?_eq_getElem hi))
    omega
  omega

/-- A vault that is opened has its numbers. -/
theorem fit_open {d : DS} (hE : vopenE d = 0) (hd : d.n ≤ 20000) (ha : d.armed ≤ 9223372036854775807) (ht : topN d.now < 2 ^ 32) : VFit (vopenDS d) (vopenV d) := by
  refine VFit.open_ ?_ hE hd ha ht
  unfold vopenE at hE
  by_cases h : vstopE d ≠ 0
  · rw [if_pos h] at hE; exact absurd hE h
  · omega

/-- The vault v on the disk d, all of it the call's own. -/
structure VP (w wr : World) (x : Nat) (q : Pl) (v : VS) (d : DS) : Prop where
  some : ∃ Bd y A c vs, At wr Bd q d ∧ VA wr w.heap.size x y q A c vs v
  lo : ∀ k, q.has k → w.heap.size ≤ k
  below : Below w.heap.size w wr
  fit : VFit d v

/-- The disk alone. -/
structure DP (w wr : World) (q : Pl) (d : DS) : Prop where
  some : ∃ Bd, At wr Bd q d
  lo : ∀ k, q.has k → w.heap.size ≤ k
  below : Below w.heap.size w wr
  n : d.n ≤ 20000
  n0 : 0 < d.n
  armed : d.armed ≤ 9223372036854775807

section
variable {w wr w1 : World} {x : Nat} {q : Pl} {v : VS} {d d' : DS}

theorem DP.later (h : DP w wr q d) (k : Below wr.heap.size wr w1) : DP w w1 q d := by
  obtain ⟨Bd, h1⟩ := h.some
  exact ⟨⟨Bd, Dk.at_below h1 k⟩, h.lo, h.below.trans (k.mono h.below.size), h.n, h.n0, h.armed⟩

theorem DP.turned (h : DP w wr q d) (hD : ∀ Bd, At wr Bd q d → At w1 Bd q d') (ho : Only wr w1 q.has) (hn : d'.n = d.n) (ha : d'.armed ≤ 9223372036854775807) : DP w w1 q d' := by
  obtain ⟨Bd, h1⟩ := h.some
  exact ⟨⟨Bd, hD Bd h1⟩, h.lo, h.below.trans (ho.toBelow h.below.size fun k hk hs => by have := h.lo k hs; omega), by rw [hn]; exact h.n, by rw [hn]; exact h.n0, ha⟩

theorem VP.later (h : VP w wr x q v d) (k : Below wr.heap.size wr w1) : VP w w1 x q v d := by
  obtain ⟨Bd, y, A, c, vs, h1, h2⟩ := h.some
  exact ⟨⟨Bd, y, A, c, vs, Dk.at_below h1 k, h2.below k⟩, h.lo, h.below.trans (k.mono h.below.size), h.fit⟩

theorem VP.dp (h : VP w wr x q v d) : DP w wr q d := by
  obtain ⟨Bd, y, A, c, vs, h1, h2⟩ := h.some
  exact ⟨⟨Bd, h1⟩, h.lo, h.below, h.fit.fit.dn, by have := h.fit.size; have := h.fit.n2; omega, h.fit.fit.armed⟩

theorem at_ok {Bd : Nat} (h : At wr Bd q d) : d.Ok := ⟨h.lay.now.1, h.lay.sure.1, h.lay.ok.len, h.lay.ok.lens⟩

theorem vp_open (h : DP w wr q d) (hE : vopenE d = 0) : Calls Try.prog 11 #[.pointer (some ⟨q.x, 0, none⟩)] wr fun r w' => ∃ x, r = .returned (.tuple #[.pointer (some ⟨x, 0, none⟩), .int .i64 0]) ∧ VP w w' x q (vopenV d) (vopenDS d) ∧ (vfound d = true → Below wr.heap.size wr w') := by
  obtain ⟨Bd, h1⟩ := h.some
  have ht := top_lt (at_ok h1)
  refine (open_any wr Bd q d h1 h.n h.armed ht).mono ?_
  rintro r w' ⟨g1, g2, g3, g4⟩
  rcases g4 with ⟨g4, _⟩ | ⟨_, x, y, A, c, vs, rfl, hV⟩
  · exact absurd hE g4
  · have hs : vstopE d = 0 := by
      unfold vopenE at hE
      by_cases hh : vstopE d ≠ 0
      · rw [if_pos hh] at hE; exact absurd hE hh
      · omega
    obtain ⟨hb, hx, hj⟩ := hV
    have hz := h.below.size
    exact ⟨x, rfl, ⟨⟨Bd, y, A, c, vs, g1, ⟨by omega, hx, jl_lower hj hz⟩⟩, h.lo, h.below.trans (g2.toBelow h.below.size fun k hk hs => by have := h.lo k hs; omega), fit_open hE h.n h.armed ht⟩, g3 hs⟩

theorem vp_open_bad (h : DP w wr q d) (hE : vopenE d ≠ 0) : Calls Try.prog 11 #[.pointer (some ⟨q.x, 0, none⟩)] wr fun r w' => r = .returned (.tuple #[.pointer none, .int .i64 (vopenE d)]) ∧ DP w w' q (vopenDS d) := by
  obtain ⟨Bd, h1⟩ := h.some
  refine (open_any wr Bd q d h1 h.n h.armed (top_lt (at_ok h1))).mono ?_
  rintro r w' ⟨g1, g2, g3, g4⟩
  rcases g4 with ⟨_, rfl⟩ | ⟨g4, _⟩
  · have hnn : (vopenDS d).n = d.n ∧ (vopenDS d).armed ≤ d.armed := by
      unfold vopenDS
      split
      · exact ⟨rfl, Nat.le_refl _⟩
      · split
        · exact ⟨rfl, Nat.le_refl _⟩
        · exact Jr.addDS_n _ _ _
    exact ⟨rfl, ⟨Bd, g1⟩, h.lo, h.below.trans (g2.toBelow h.below.size fun k hk hs => by have := h.lo k hs; omega), by rw [hnn.1]; exact h.n, by rw [hnn.1]; exact h.n0, by have := h.armed; omega⟩
  · exact absurd g4 hE

theorem vp_vae {Bd y c : Nat} {A : Option Addr} {vs : List Value} {d' : DS} {v' : VS} {E : Int} {e : Ending} (h : VP w wr x q v d) (h2 : VA wr w.heap.size x y q A c vs v) (hE : VAE wr w.heap.size Bd x q y A d' v' E e w1) (hf : VFit d' v') : e = .returned (.int .i64 E) ∧ VP w w1 x q v' d' := by
  obtain ⟨he, g1, y', A', c', vs', g2, g3, g4, g5⟩ := hE
  refine ⟨he, ⟨Bd, y', A', c', vs', g1, g2⟩, h.lo, h.below.trans (g3.toBelow h.below.size fun k hk hs => ?_), hf⟩
  rcases hs with hs | hs | hs | hs
  · have := h.lo k hs; omega
  · have := h2.base; omega
  · have := h2.jat.base; omega
  · have := (h2.jat.rows.own.lt k (by rw [← hs]; exact ownBlock_any _ _ _ _ _)).1
    omega

theorem vp_add (h : VP w wr x q v d) {Ab : Option Addr} {cb : Nat} {b : List UInt8} (hb : Bys wr wr.heap.size Ab b.length b) (hcb : b.length ≤ cb) (hcb2 : cb ≤ 9223372036854775807) (hlen : b.length ≤ 1000000000000) (hfar : ∀ a, Ab = some a → ¬ q.has a.block) :
    Calls Try.prog 24 #[.pointer (some ⟨x, 0, none⟩), .slice Ab b.length cb] wr fun e w' => e = .returned (.int .i64 (vaddE d v b)) ∧ VP w w' x q (vaddV d v b) (vaddDS d v b) := by
  obtain ⟨Bd, y, A, c, vs, h1, h2⟩ := h.some
  exact (vadd_any h2 h1 h.fit hb hcb hcb2 hlen hfar).mono fun e w' hE => vp_vae h h2 hE h.fit.add

theorem vp_comp (h : VP w wr x q v d) {Ab : Option Addr} {cb : Nat} {b : List UInt8} (hb : Bys wr wr.heap.size Ab b.length b) (hA0 : Ab = none → b.length = 0 ∧ cb = 0) (hlen : b.length ≤ 1000000000000) :
    Calls Try.prog 14 #[.pointer (some ⟨x, 0, none⟩), .slice Ab b.length cb] wr fun e w' => e = .returned (.int .i64 (vcompE d v b)) ∧ VP w w' x q (vcompV d v b) (vcompDS d v b) := by
  obtain ⟨Bd, y, A, c, vs, h1, h2⟩ := h.some
  exact (vcomp_any h2 h1 h.fit hb hA0 hlen).mono fun e w' hE => vp_vae h h2 hE h.fit.comp

theorem VP.nums (h : VP w wr x q v d) : v.j.l.length ≤ 1000000 ∧ (∀ b ∈ v.j.l, b.length ≤ 1000000000000) ∧ v.j.l.length ≠ 0 ∧ v.j.used ≤ 20000 := by
  have h1 := h.fit.fit.room
  have h2 := h.fit.fit.dn
  have h3 := h.fit.fit.used
  have h4 := h.fit.fit.len
  exact ⟨by omega, fun b hb => by have := h.fit.fit.each b hb; omega, h.fit.one, by omega⟩

theorem vp_half (h : VP w wr x q v d) : Calls Try.prog 32 #[.pointer (some ⟨x, 0, none⟩)] wr fun e w' => e = .returned (.int .i64 (v.half : Int)) ∧ w' = wr := by
  obtain ⟨Bd, y, A, c, vs, h1, h2⟩ := h.some
  exact half_any h2

theorem vp_used (h : VP w wr x q v d) : Calls Try.prog 33 #[.pointer (some ⟨x, 0, none⟩)] wr fun e w' => e = .returned (.int .i64 (v.j.used : Int)) ∧ w' = wr := by
  obtain ⟨Bd, y, A, c, vs, h1, h2⟩ := h.some
  exact used_any h2

theorem vp_disk (h : VP w wr x q v d) : Calls Try.prog 27 #[.pointer (some ⟨x, 0, none⟩)] wr fun e w' => e = .returned (.pointer (some ⟨q.x, 0, none⟩)) ∧ w' = wr := by
  obtain ⟨Bd, y, A, c, vs, h1, h2⟩ := h.some
  exact disk_any h2

theorem vp_base (h : VP w wr x q v d) {b : List UInt8} {r : List (List UInt8)} (hb : v.j.l = (1 :: b) :: r) : Calls Try.prog 29 #[.pointer (some ⟨x, 0, none⟩)] wr (BaseE wr b) := by
  obtain ⟨Bd, y, A, c, vs, h1, h2⟩ := h.some
  obtain ⟨n1, n2, _⟩ := h.nums
  have := base_any h2 (b0 := 1 :: b) (by rw [hb]; rfl) (by simp) n1 n2
  exact this

theorem vp_base_any (h : VP w wr x q v d) {b0 : List UInt8} (hb : v.j.l[0]? = some b0) : Calls Try.prog 29 #[.pointer (some ⟨x, 0, none⟩)] wr (BaseE wr b0.tail) := by
  obtain ⟨Bd, y, A, c, vs, h1, h2⟩ := h.some
  obtain ⟨n1, n2, _⟩ := h.nums
  exact base_any h2 hb (h.fit.each b0 (List.mem_of_getElem? hb)) n1 n2

theorem vp_records (h : VP w wr x q v d) : Calls Try.prog 31 #[.pointer (some ⟨x, 0, none⟩)] wr (RowsE wr v.j.l.tail) := by
  obtain ⟨Bd, y, A, c, vs, h1, h2⟩ := h.some
  obtain ⟨n1, n2, n3, _⟩ := h.nums
  exact records_any h2 n3 n1 n2
end

/-! ### awake -/
theorem dp_new {w w1 : World} {q : Pl} {n : Nat} (hq : At w1 w.heap.size q (dsNew n)) (hlo : ∀ k, q.has k → w.heap.size ≤ k) (hb : Below w.heap.size w w1) (h1 : 1 ≤ n) (h2 : n ≤ 20000) : DP w w1 q (dsNew n) :=
  ⟨⟨_, hq⟩, hlo, hb, by rw [new_n]; exact h2, by rw [new_n]; omega, Nat.zero_le _⟩

theorem DP.up {w w0 wr : World} {q : Pl} {d : DS} (h : DP w0 wr q d) (hb : Below w.heap.size w w0) : DP w wr q d :=
  ⟨h.some, fun k hk => Nat.le_trans hb.size (h.lo k hk), hb.trans (h.below.mono hb.size), h.n, h.n0, h.armed⟩

theorem one_bys (W : World) (z : UInt8) : Bys (W.alloc (.cells #[.int .u8 (z.toNat : Int)] 5)) (W.alloc (.cells #[.int .u8 (z.toNat : Int)] 5)).heap.size (some ⟨W.heap.size, 0, none⟩) [z].length [z] := by
  have h := By.Own8.bys (Jl.one_row W W.heap.size (Nat.le_refl _) z)
  exact h

/-- '[]byte("a")': the new row bears the run-time's mark. -/
theorem conv_one (z : Int) (W : World) : (convert 37 37 (.slice (some ⟨W.heap.size, 0, none⟩) 1 1)).run Try.prog (W.alloc (.cells #[.int .u8 z] 5)) = .ok (.slice (some ⟨W.heap.size, 0, none⟩) 1 1) (W.alloc (.cells #[.int .u8 z] 5 (1, 2))) :=
  Lib.run_convert_bytes_const W 37 5 #[.int .u8 z] 1 1 Try.underlying37 Try.underlying5

theorem marked_bys (W : World) (z : UInt8) : Bys (W.alloc (.cells #[.int .u8 (z.toNat : Int)] 5 (1, 2))) (W.alloc (.cells #[.int .u8 (z.toNat : Int)] 5 (1, 2))).heap.size (some ⟨W.heap.size, 0, none⟩) [z].length [z] := ⟨rfl, fun i y hy => by
  have hi : i = 0 := by have := (List.getElem?_eq_some_iff.1 hy).1; simp at this; omega
  subst hi
  injection hy with hy
  subst hy
  refine ⟨W.heap.size, 0, rfl, by simp, ?_⟩
  have h := heap_alloc_new W (.cells #[.int .u8 (z.toNat : Int)] 5 (1, 2))
  unfold World.cell?
  rw [h]
  rfl⟩

set_option maxHeartbeats 4000000 in
theorem awake_any (w : World) : Calls Try.prog 13 #[] w fun e w' => e = .returned (.bool true) ∧ Below w.heap.size w w' := by
  obtain ⟨m1, m2, m3, m4, m5, m6, m7⟩ := vlive_new (m := 8) (n := 4) (by omega) rfl (by omega)
  obtain ⟨p1, p2⟩ := vk_new (n := 8) (by omega) (by omega)
  have hmath := m2.add_calm p2.fit m6 (b := [97]) (by simp) (by simp) (by rw [m4]; decide)
  have HM : Hid (vaddE (vopenDS (dsNew 8)) (vopenV (dsNew 8)) [97] = 0 ∧ (vaddV (vopenDS (dsNew 8)) (vopenV (dsNew 8)) [97]).half = 0 ∧ (vaddV (vopenDS (dsNew 8)) (vopenV (dsNew 8)) [97]).j.used = 2 ∧ (vaddV (vopenDS (dsNew 8)) (vopenV (dsNew 8)) [97]).j.l = [[1], [97]]) := Lib.hid ⟨hmath.1, hmath.2.2.2.1.trans m3, by rw [hmath.2.1.j]; rfl, by rw [hmath.2.1.j]; rfl⟩
  have HO := Lib.hid m1
  have hcv := conv_one 97
  clear m1 m2 m3 m4 m5 m6 m7 p1 p2 hmath
  go_enter Try.func13, Try.ntmps13
  go_wp2_with fail
  refine (Dd.new_ok w 8 (by omega) (by omega)).mono ?_
  rintro e w1 ⟨q, rfl, hq, hlo, hb⟩
  have HP1 := Lib.hid (dp_new hq hlo hb (by omega) (by omega))
  clear hq hlo hb
  go_wp2_with fail
  refine (vp_open HP1.out HO.out).mono ?_
  rintro e w2 ⟨x, rfl, hV, _⟩
  generalize vopenV (dsNew 8) = v at *
  generalize vopenDS (dsNew 8) = d at *
  have HV := Lib.hid hV
  clear hV HP1 HO
  obtain ⟨W3, hW3⟩ : ∃ W3, W3 = w2.alloc (.cells #[.int .u8 97] 5 (1, 2)) := ⟨_, rfl⟩
  have k3 : Below w2.heap.size w2 W3 := by rw [hW3]; exact (Below.refl _ _).alloc (Nat.le_refl _) _
  have HA : Hid (Calls Try.prog 24 #[.pointer (some ⟨x, 0, none⟩), .slice (some ⟨w2.heap.size, 0, none⟩) 1 1] W3 fun e w' => e = .returned (.int .i64 (vaddE d v [97])) ∧ VP w w' x q (vaddV d v [97]) (vaddDS d v [97])) := Lib.hid (vp_add (HV.out.later k3) (b := [97]) (cb := 1) (Ab := some ⟨w2.heap.size, 0, none⟩) (by rw [hW3]; exact marked_bys w2 97) (by simp) (by omega) (by simp) (fun a ha hh => by
    injection ha with ha
    subst ha
    obtain ⟨Bd, y, A, c, vs, h1, h2⟩ := HV.out.some
    have := h1.there _ hh
    exact Nat.lt_irrefl _ this))
  have HW3 := Lib.hid hW3
  clear hW3 k3
  go_wp2_with fail
  rw [← HW3.out]
  refine HA.out.mono ?_
  rintro e w4 ⟨rfl, hV⟩
  obtain ⟨a1, a2, a3, a4⟩ := HM.out
  rw [a1]
  generalize vaddV d v [97] = v4 at *
  generalize vaddDS d v [97] = d4 at *
  have HV4 := Lib.hid hV
  have HR := Lib.hid (vp_records hV)
  have HU := Lib.hid (fun u (hu : Below w4.heap.size w4 u) => vp_used (hV.later hu))
  have HH := Lib.hid (fun u (hu : Below w4.heap.size w4 u) => vp_half (hV.later hu))
  rw [a4] at HR
  rw [a3] at HU
  rw [a2] at HH
  have HL : Hid (([[1], [97]] : List (List UInt8)).tail.length = 1) := Lib.hid rfl
  generalize ([[1], [97]] : List (List UInt8)).tail = L at *
  clear hV a1 a2 a3 a4 HM HV HA HW3
  go_wp2_with (first
    | (go_at_call 31; (with_reducible refine HR.out.mono ?_); rintro e w5 ⟨A5, c5, rfl, hT5, hc5, k5⟩; rw [HL.out])
    | (go_at_call 33; (with_reducible refine (HU.out _ k5).mono ?_); rintro e w6 ⟨rfl, hw⟩; rw [hw]; clear hw w6)
    | (go_at_call 32; (with_reducible refine (HH.out _ k5).mono ?_); rintro e w6 ⟨rfl, hw⟩; rw [hw]; clear hw w6))
  go_ret
  exact ⟨rfl, (HV4.out.later k5).below⟩

end Go.Proofs.Ytedgookkogpfbaa.Vl
