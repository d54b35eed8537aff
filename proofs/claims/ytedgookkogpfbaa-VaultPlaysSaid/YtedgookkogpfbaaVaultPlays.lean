/- P9.1, P9.2: whatever is added, compacted, armed, lost, opened again and written over by hand, up to forty steps on four to twenty-seven sectors, the vault tells what the document's vault tells; for every number and every script. No conditions. -/
import Derived.Test.YtedgookkogpfbaaVqC
import Derived.LaidEqlPtr
import Derived.Test.YtedgookkogpfbaaBa
set_option maxRecDepth 100000
namespace Go.Proofs.Ytedgookkogpfbaa.vaultPlays
open Go.ChangeShapes Go.WideShapes Go.ChangeAt Go.RowKit
set_option linter.unusedVariables false

theorem own : ownKnob Try.prog.godebug = none := by kernel_rfl

open Qu (Blk)
open Mv (Only Fresh)
open By (Own8 Bys cellsB cellsB_length)
open Dk (DS dsNew crashD startD armD writeD writeE RefAt secCells Sec)
open Dd (Lay At Tidy Pl)
open Jr (JS ownBlock_any JHas)
open Jl (modN modN_lt mod_any)
open Vt Vl Vq

theorem keepS_drew {u : World} {G K : Nat} {v : Value} {b : List UInt8} (h : u.cell? ⟨G, 1, none⟩ = some v ∧ Sec u K b) : u.drew.cell? ⟨G, 1, none⟩ = some v ∧ Sec u.drew K b := ⟨h.1, Lf.Sec_drew h.2⟩

/-- Bytes are copied into a sector of the call's own, as many as it has room for. -/
theorem step_copy_most {w : World} {ops : Array Oper} {o : Oper} {a : Act} {K : Act → World → Prop} {Q : Exit → Act → World → Prop} {E : Prop} (free : o.guard = none) (x y : Operand)
    (is : o.op = .call { callee := .builtin .copy, args := #[x, y], argTypes := #[37, 37] }) (g m c M : Nat) (A : Option Addr) (s d : List UInt8) (vx : a.eval x = .slice (some ⟨g, 0, none⟩) 64 64) (vy : a.eval y = .slice A m c)
    (hS : Sec w g s) (hb : Bys w M A m d) (go : ∀ w' (b : List UInt8), b.length = 64 → Sec w' g b → w.grownBy w' (some g) → K (a.put o.dst (goInt (((min m 64 : Nat)) : Int))) w') :
    if Region.wanted o (yielded ops a.tmps) = true then Oper.wp Try.prog o a w K Q else E := by
  have hw : Region.wanted o (yielded ops a.tmps) = true := by simp [Region.wanted, free]
  rw [if_pos hw]
  by_cases h0 : m = 0
  · subst h0
    have hrun := run_copy_none (P := Try.prog) w 37 37 o.type 5 (some ⟨g, 0, none⟩) A 64 64 0 c Try.underlying37 (by kernel_rfl) (Nat.zero_min _)
    unfold Oper.wp
    simp [execOp, is, resolve, invoke, builtin, vx, vy, hrun, Result.andThen]
    exact go _ s hS.1 hS (World.grownBy.refl w _)
  obtain ⟨g2, o2, rfl, _, _⟩ := hb.at (k := 0) (by omega)
  have hbt := hb.take (k := min m 64) (by omega)
  have hl : (cellsB (d.take (min m 64))).length = min m 64 := by rw [cellsB_length, hbt.len]
  have hrun := run_copy_cells (P := Try.prog) w 37 37 o.type 5 g 0 64 64 ⟨g2, o2, none⟩ m c (cellsB (d.take (min m 64))) Try.underlying37 (by kernel_rfl) hl
    hbt.there
    (fun j hj => by
      rw [hl] at hj
      rw [hS.2.cell, Dk.secCells_at, List.getElem?_eq_getElem (by rw [hS.1]; omega)]
      rfl)
    (fun j hj => hS.2.frozen _) (By.cellsB_one _)
  rw [hl] at hrun
  obtain ⟨q1, q2⟩ := Lf.sec_over (o := 0) (vs := d.take (min m 64)) hS
  unfold Oper.wp
  simp [execOp, is, resolve, invoke, builtin, vx, vy, hrun, Result.andThen]
  exact go _ _ q1.1 q1 q2


section
variable {w wr w1 : World} {q : Pl} {p : Dk.Place} {L R : Option (Nat × VS)} {d1 d2 : DS} {g : Nat} {s : Opr}
theorem cell_st (h : St w wr (Option.some (g, s.cells)) q p L R d1 d2) : wr.cell? ⟨g, 0, none⟩ = some (.int .i64 s.kind) ∧ wr.cell? ⟨g, 1, none⟩ = some (.int .i64 s.n) ∧ wr.cell? ⟨g, 2, none⟩ = some (.slice s.Ab s.b.length s.cb) ∧ wr.cell? ⟨g, 3, none⟩ = some (.slice s.Ak s.kn s.ck) := by
  have hb := h.box g s.cells rfl
  exact ⟨hb.cell 0, hb.cell 1, hb.cell 2, hb.cell 3⟩

theorem s_disk {x : Nat} {v : VS} {o : Option (Nat × Array Value)} (h : St w wr o q p (Option.some (x, v)) R d1 d2) : Calls Try.prog 27 #[.pointer (some ⟨x, 0, none⟩)] wr fun e w' => e = .returned (.pointer (some ⟨q.x, 0, none⟩)) ∧ w' = wr := by
  obtain ⟨A, A2, h1, h2, h3, _⟩ := h.some
  obtain ⟨y, c, vs, hL⟩ := h3 x v rfl
  exact disk_any hL

theorem st_lt {o : Option (Nat × Array Value)} (h : St w wr o q p L R d1 d2) : (∀ k, q.has k → k < wr.heap.size) ∧ ∀ k, p.has k → k < wr.heap.size := by
  obtain ⟨A, A2, h1, h2, _⟩ := h.some
  exact ⟨h1.there, ref_there h2⟩
end

theorem ptr_same (x : Nat) (W : World) : (binOp .eql 24 (.pointer (some ⟨x, 0, none⟩)) (.pointer (some ⟨x, 0, none⟩))).run Try.prog W = .ok (.bool true) W := by
  obtain ⟨j, hj⟩ : ∃ j, Try.prog.info? 63 = some j := Option.isSome_iff_exists.1 (by kernel_rfl)
  exact run_eql_ptr_same W _ Try.underlying24 hj

set_option maxRecDepth 100000 in
set_option maxHeartbeats 16000000 in
theorem walk (w : World) (a0 : Int) (wf0 : (Lit.int .i64 a0).wf = true) (A1 : Option Addr) (n1 c1 : Nat) (o : Nat → Opr) (hI : Oprs w A1 n1 o) (hn1 : n1 ≤ 9223372036854775807) :
    Calls Try.prog 3 #[.int .i64 a0, .slice A1 n1 c1] w fun e w' => e = .returned (.bool true) ∧ Below w.heap.size w w' := by
  have HM0 := Lib.hid (mod_any a0 24 (by omega) (by omega) w)
  obtain ⟨t0, ht0⟩ : ∃ t, modN a0 24 = t := ⟨_, rfl⟩
  have ht1 : t0 < 24 := by rw [← ht0]; exact modN_lt a0 (by omega)
  rw [ht0] at HM0
  obtain ⟨N, hN⟩ : ∃ N : Nat, 4 + t0 = N := ⟨_, rfl⟩
  have hN1 : (4 : Int) + (t0 : Int) = (N : Int) := by omega
  have hN2 : (N : Int) ≤ 27 := by omega
  have HNN : Hid (4 ≤ N ∧ N ≤ 27) := Lib.hid ⟨by omega, by omega⟩
  have HI := Lib.hid hI
  have HE0 := Lib.hid (vk_new (n := N) (by omega) (by omega)).1
  clear hI ht0 ht1 hN wf0
  go_enter Try.func3, Try.ntmps3
  go_wp2_with (first | (refine HM0.out.mono ?_; rintro r w2 ⟨rfl, hw⟩; rw [hw]; clear hw w2))
  refine (Dd.new_ok w N (by have := HNN.out; omega) (by have := HNN.out; omega)).mono ?_
  rintro e w1 ⟨q, rfl, hq, hlo, hb⟩
  have HQ := Lib.hid (And.intro hq (And.intro hlo hb))
  clear hq hlo hb HM0 hN1
  go_wp2_with fail
  refine (Dk.rnew_any w1 N (by have := HNN.out; omega)).mono ?_
  rintro r w2 ⟨p, rfl, hp, hlp, hb⟩
  have HS2 := Lib.hid (st_new HQ.out.1 HQ.out.2.1 HQ.out.2.2 hp hlp hb (by have := HNN.out; omega) (by have := HNN.out; omega))
  clear hp hlp hb HQ
  have hE0 := HE0.out
  generalize dsNew N = dn at *
  have HE0 := Lib.hid hE0
  clear hE0
  go_wp2_with fail
  refine (s_open HS2.out HE0.out).mono ?_
  rintro r w3 ⟨x0, rfl, hS3⟩
  have HS3 := Lib.hid hS3
  clear hS3
  go_wp2_with fail
  refine (s_ropen HS3.out HE0.out).mono ?_
  rintro r w4 ⟨y0, rfl, hS4⟩
  have HS4 := Lib.hid hS4
  generalize vopenV dn = v0 at *
  generalize vopenDS dn = d0 at *
  clear hS4 HS3 HS2 HE0
  go_wp2_with fail
  refine (awake_any w4).mono ?_
  rintro r w5 ⟨rfl, k5⟩
  have HS5 := Lib.hid (HS4.out.later k5)
  clear k5 HS4
  go_wp2_with fail
  go_loopw [8, 10, 12] (fun s8 s10 s12 wr => ∃ (i x y : Nat) (v : VS) (d : DS), s12 = .int .i64 (i : Int) ∧ s8 = .pointer (some ⟨x, 0, none⟩) ∧ s10 = .pointer (some ⟨y, 0, none⟩) ∧ i ≤ n1 ∧ i ≤ 40 ∧ St w wr none q p (Option.some (x, v)) (Option.some (y, v)) d d) (fun _ _ s _ => 40 - (intOf s).toNat)
  case atStart => exact ⟨0, x0, y0, v0, d0, rfl, rfl, rfl, Nat.zero_le _, by omega, HS5.out⟩
  case round =>
    clear HS5
    obtain ⟨i, x, y, v, d, rfl, rfl, rfl, hi, hi40, hX⟩ := hrel
    have HX := Lib.hid hX
    have HIN := Lib.hid (And.intro hi hi40)
    clear hX
    have i0 : (0 : Int) ≤ (i : Int) := by omega
    by_cases hlt : i < n1 ∧ i < 40
    case neg =>
      have HDK := Lib.hid (s_disk HX.out)
      have hpe : ∀ W : World, (binOp .eql 24 (.pointer (some ⟨q.x, 0, none⟩)) (.pointer (some ⟨q.x, 0, none⟩))).run Try.prog W = .ok (.bool true) W := fun W => ptr_same q.x W
      by_cases hin : i < n1
      case' pos =>
        have i1 : (i : Int) < (n1 : Int) := by omega
        have i2 : ¬ (i : Int) < 40 := by omega
        have i3 : decide (i < n1) = true := decide_eq_true hin
        have i4 : decide (i < 40) = false := decide_eq_false (by omega)
      case' neg =>
        have i1 : ¬ (i : Int) < (n1 : Int) := by omega
        have i3 : decide (i < n1) = false := decide_eq_false hin
      all_goals
        clear hlt hin
        go_wp2_with (first | (go_at_call 27; (with_reducible refine HDK.out.mono ?_); rintro r w6 ⟨rfl, hw⟩; rw [hw]; clear hw w6))
        go_ret
        exact ⟨rfl, HX.out.below⟩
    case pos =>
    have i1 : (i : Int) < (n1 : Int) := by omega
    have i2 : (i : Int) < 40 := by omega
    have i3 : decide (i < n1) = true := decide_eq_true hlt.1
    have i4 : decide (i < 40) = true := decide_eq_true hlt.2
    obtain ⟨b, off, rfl, hb, hcs, hok⟩ := HI.out i hlt.1
    have e0 := (HX.out.below.cell (p := ⟨b, off + i * 4, none⟩) hb).trans (hcs 0 (by omega))
    have e1 := (HX.out.below.cell (p := ⟨b, off + i * 4 + 1, none⟩) hb).trans (hcs 1 (by omega))
    have e2 := (HX.out.below.cell (p := ⟨b, off + i * 4 + 2, none⟩) hb).trans (hcs 2 (by omega))
    have e3 := (HX.out.below.cell (p := ⟨b, off + i * 4 + 3, none⟩) hb).trans (hcs 3 (by omega))
    simp [Opr.cells] at e0 e1 e2 e3
    have HOK := Lib.hid hok
    generalize o i = s at *
    clear hcs hb hok
    obtain ⟨W1, hW1⟩ : ∃ W1, W1 = wr.alloc (.cells #[.int .i64 s.kind, .int .i64 s.n, .slice s.Ab s.b.length s.cb, .slice s.Ak s.kn s.ck] 40) := ⟨_, rfl⟩
    have hXB : St w W1 (Option.some (wr.heap.size, s.cells)) q p (Option.some (x, v)) (Option.some (y, v)) d d := by rw [hW1]; exact HX.out.boxed s.cells
    have HW1 := Lib.hid hW1
    clear hW1
    obtain ⟨G, hG⟩ : ∃ G, wr.heap.size = G := ⟨_, rfl⟩
    rw [hG] at hXB
    have HQ := Lib.hid hXB
    have HGL : Hid (G < W1.heap.size) := Lib.hid (hXB.box G s.cells rfl).lt
    clear hXB HX
    go_upto_region 12 with (fail)
    rw [← HW1.out]
    clear e0 e1 e2 e3 hG
    obtain ⟨f0, f1, f2, f3⟩ := cell_st HQ.out
    by_cases hsm : s.b.length ≤ 300 ∧ s.kn ≤ 40
    case neg =>
      by_cases hb3 : s.b.length ≤ 300
      case' neg =>
        have g1 : (300 : Int) < (s.b.length : Int) := by omega
        have g2 : decide (300 < s.b.length) = true := by simp; omega
      case' pos =>
        have g1 : ¬ (300 : Int) < (s.b.length : Int) := by omega
        have g2 : decide (300 < s.b.length) = false := by simp; omega
        have g3 : (40 : Int) < (s.kn : Int) := by omega
        have g4 : decide (40 < s.kn) = true := by simp; omega
      all_goals
        clear hsm
        go_wp2_with fail
        go_ret
        exact ⟨rfl, HQ.out.below⟩
    case pos =>
    have HSM := Lib.hid hsm
    have HLT := Lib.hid hlt
    obtain ⟨T, hT⟩ : ∃ T, modN s.kind 8 = T := ⟨_, rfl⟩
    have hT8 : T < 8 := by rw [← hT]; exact modN_lt s.kind (by omega)
    have HMK : Hid (∀ u, Calls Try.prog 8 #[.int .i64 s.kind, .int .i64 8] u fun e w' => e = .returned (.int .i64 (T : Int)) ∧ w' = u) := Lib.hid (fun u => by have h := mod_any s.kind 8 (by omega) (by omega) u; rw [hT] at h; exact h)
    have g1 : ¬ (300 : Int) < (s.b.length : Int) := by omega
    have g2 : decide (300 < s.b.length) = false := by simp; omega
    have g3 : ¬ (40 : Int) < (s.kn : Int) := by omega
    have g4 : decide (40 < s.kn) = false := by simp; omega
    have sb3 : (s.b.length : Int) ≤ 300 := by omega
    have HBW : Hid (∀ u, Below w.heap.size w u → Bys u u.heap.size s.Ab s.b.length s.b) := Lib.hid (fun u hu => (HOK.out.bys.below hu (Nat.le_refl _)).more hu.size)
    have HFA : Hid (∀ a, s.Ab = Option.some a → s.b.length ≠ 0 → a.block < w.heap.size) := Lib.hid (fun a ha hn => by
      obtain ⟨z, hz⟩ : ∃ z, s.b[0]? = Option.some z := ⟨_, List.getElem?_eq_getElem (by omega)⟩
      obtain ⟨bb, oo, h1, h2, h3⟩ := HOK.out.bys.cell 0 z hz
      rw [ha] at h1
      injection h1 with h1
      rw [h1]
      exact h2)
    clear hsm hT hlt hi hi40
    go_upto_block 2 with (first | (go_at_call 8; (refine (HMK.out _).mono ?_); rintro r wz ⟨rfl, hw⟩; rw [hw]; clear hw wz))
    go_cut [8, 10] (fun s8 s10 wx => ∃ (x y : Nat) (v : VS) (d : DS), s8 = .pointer (some ⟨x, 0, none⟩) ∧ s10 = .pointer (some ⟨y, 0, none⟩) ∧ St w wx none q p (Option.some (x, v)) (Option.some (y, v)) d d)
    case first =>
      by_cases h3 : T = 3
      · have b1 : ((T : Int) == 3) = true := by rw [h3]; rfl
        have HC := Lib.hid (s_comp (HQ.out.later (Below.refl _ _).drew) (HBW.out _ (HQ.out.later (Below.refl _ _).drew).below) HOK.out.none (by have := HSM.out; omega))
        have HRC : Hid (∀ wq d' v', St w wq (Option.some (G, s.cells)) q p (Option.some (x, v')) (Option.some (y, v)) d' d → Calls Try.prog 15 #[.pointer (some ⟨y, 0, none⟩), .slice s.Ab s.b.length s.cb] wq fun e w' => e = .returned (.int .i64 (vcompE d v s.b)) ∧ St w w' (Option.some (G, s.cells)) q p (Option.some (x, v')) (Option.some (y, vcompV d v s.b)) d' (vcompDS d v s.b)) := Lib.hid (fun wq d' v' hq => s_rcomp hq (HBW.out wq hq.below) HOK.out.none (by have := HSM.out; omega) HFA.out)
        have hnn : (vcompE d v s.b != vcompE d v s.b) = false := bne_self_eq_false _
        have f2' : W1.drew.cell? ⟨G, 2, none⟩ = some (.slice s.Ab s.b.length s.cb) := (cell_st (HQ.out.later (Below.refl _ _).drew)).2.2.1
        clear h3 f0 f1 f3 hT8
        go_wp2_with fail
        go_region_held3 (fun u => u.cell? ⟨G, 2, none⟩ = some (.slice s.Ab s.b.length s.cb))
          (first
            | exact f2'
            | exact (cell_st hQ8).2.2.1
            | exact (cell_st hQ7).2.2.1
            | assumption)
          (first
            | (go_at_call 14; ((with_reducible refine HC.out.mono ?_); rintro r w7 ⟨rfl, hQ7⟩))
            | (go_at_call 15; ((with_reducible refine (HRC.out w7 _ _ hQ7).mono ?_); rintro r w8 ⟨rfl, hQ8⟩)))
        all_goals
          have HFI : Hid (∃ (x' y' : Nat) (v' : VS) (d' : DS), Value.pointer (some ⟨x, 0, none⟩) = .pointer (some ⟨x', 0, none⟩) ∧ Value.pointer (some ⟨y, 0, none⟩) = .pointer (some ⟨y', 0, none⟩) ∧ St w w8 none q p (Option.some (x', v')) (Option.some (y', v')) d' d') := Lib.hid ⟨x, y, _, _, rfl, rfl, hQ8.bare⟩
          clear hQ7 hQ8 f2 f2' HC HRC
          go_wp2_with fail
          go_meet
          exact HFI.out
      have b3 : ((T : Int) == 3) = false := beq_eq_false_iff_ne.2 (by omega)
      by_cases h4 : T = 4
      · have b4 : ((T : Int) == 4) = true := by rw [h4]; rfl
        clear h3 h4 hT8
        go_wp2_with fail
        refine (s_arm HQ.out s.n HOK.out.n2).mono ?_
        rintro r w6 ⟨rfl, h6⟩
        have HQ6 := Lib.hid h6
        clear h6 f0 f1 f2 f3
        obtain ⟨f0, f1, f2, f3⟩ := cell_st HQ6.out
        go_wp2_with fail
        refine (s_rarm HQ6.out s.n HOK.out.n2).mono ?_
        rintro r w7 ⟨rfl, h7⟩
        have HFI : Hid (∃ (x' y' : Nat) (v' : VS) (d' : DS), Value.pointer (some ⟨x, 0, none⟩) = .pointer (some ⟨x', 0, none⟩) ∧ Value.pointer (some ⟨y, 0, none⟩) = .pointer (some ⟨y', 0, none⟩) ∧ St w w7 none q p (Option.some (x', v')) (Option.some (y', v')) d' d') := Lib.hid ⟨x, y, _, _, rfl, rfl, h7.bare⟩
        clear h7 f0 f1 f2 f3
        go_wp2_with fail
        go_meet
        exact HFI.out
      have b4 : ((T : Int) == 4) = false := beq_eq_false_iff_ne.2 (by omega)
      by_cases h5 : T < 3
      · have b5 : ((T : Int) == 5) = false := beq_eq_false_iff_ne.2 (by omega)
        have b6 : ((T : Int) == 6) = false := beq_eq_false_iff_ne.2 (by omega)
        have b7 : ((T : Int) == 7) = false := beq_eq_false_iff_ne.2 (by omega)
        have b8 : (T : Int) < 8 := by omega
        have HA := Lib.hid (s_add (HQ.out.later (Below.refl _ _).drew) (HBW.out _ (HQ.out.later (Below.refl _ _).drew).below) HOK.out.bc HOK.out.cb (by have := HSM.out; omega) (fun a ha hn hh => by
          have := HFA.out a ha hn
          have := HQ.out.lo1 _ hh
          omega))
        have HRA : Hid (∀ wq d' v', St w wq (Option.some (G, s.cells)) q p (Option.some (x, v')) (Option.some (y, v)) d' d → Calls Try.prog 25 #[.pointer (some ⟨y, 0, none⟩), .slice s.Ab s.b.length s.cb] wq fun e w' => e = .returned (.int .i64 (vaddE d v s.b)) ∧ St w w' (Option.some (G, s.cells)) q p (Option.some (x, v')) (Option.some (y, vaddV d v s.b)) d' (vaddDS d v s.b)) := Lib.hid (fun wq d' v' hq => s_radd hq (HBW.out wq hq.below) HOK.out.bc HOK.out.cb (by have := HSM.out; omega) HFA.out)
        have hnn : (vaddE d v s.b != vaddE d v s.b) = false := bne_self_eq_false _
        have f2' : W1.drew.cell? ⟨G, 2, none⟩ = some (.slice s.Ab s.b.length s.cb) := (cell_st (HQ.out.later (Below.refl _ _).drew)).2.2.1
        clear h3 h4 h5 f0 f1 f3 hT8
        go_wp2_with fail
        go_region_held3 (fun u => u.cell? ⟨G, 2, none⟩ = some (.slice s.Ab s.b.length s.cb))
          (first
            | exact f2'
            | exact (cell_st hQ8).2.2.1
            | exact (cell_st hQ7).2.2.1
            | assumption)
          (first
            | (go_at_call 24; ((with_reducible refine HA.out.mono ?_); rintro r w7 ⟨rfl, hQ7⟩))
            | (go_at_call 25; ((with_reducible refine (HRA.out w7 _ _ hQ7).mono ?_); rintro r w8 ⟨rfl, hQ8⟩)))
        all_goals
          have HFI : Hid (∃ (x' y' : Nat) (v' : VS) (d' : DS), Value.pointer (some ⟨x, 0, none⟩) = .pointer (some ⟨x', 0, none⟩) ∧ Value.pointer (some ⟨y, 0, none⟩) = .pointer (some ⟨y', 0, none⟩) ∧ St w w8 none q p (Option.some (x', v')) (Option.some (y', v')) d' d') := Lib.hid ⟨x, y, _, _, rfl, rfl, hQ8.bare⟩
          clear hQ7 hQ8 f2 f2' HA HRA
          go_wp2_with fail
          go_meet
          exact HFI.out
      have HD0 := Lib.hid HQ.out.drop
      have hT567 : T = 5 ∨ T = 6 ∨ T = 7 := by omega
      have HTT := Lib.hid hT567
      clear h3 h4 h5 hT8 hT567
      -- one of 5, 6, 7
      go_upto_if 109 with (fail)
      go_cut [109] (fun s109 wx => s109 = .bool true ∧ wx = W1)
      case first =>
        rcases HTT.out with h | h | h
        case' inl => have b5 : ((T : Int) == 5) = true := by rw [h]; rfl
        case' inr.inl =>
          have b5 : ((T : Int) == 5) = false := by rw [h]; rfl
          have b6 : ((T : Int) == 6) = true := by rw [h]; rfl
        case' inr.inr =>
          have b5 : ((T : Int) == 5) = false := by rw [h]; rfl
          have b6 : ((T : Int) == 6) = false := by rw [h]; rfl
          have b7 : ((T : Int) == 7) = true := by rw [h]; rfl
        all_goals
          clear h
          go_wp2_with fail
          go_meet
          first | exact ⟨rfl, rfl⟩ | exact ⟨congrArg Value.bool b5, rfl⟩
      case rest =>
      obtain ⟨rfl, hwc⟩ := hcut
      subst hwc
      -- a sector by hand
      go_upto_if 114 with (fail)
      go_cut [14] (fun s14 wx => s14 = .int .i64 (T : Int) ∧ ∃ dx, St w wx (Option.some (G, s.cells)) q p none none dx dx)
      case first =>
        by_cases h7 : T = 7
        · have b7 : ((T : Int) == 7) = true := by rw [h7]; rfl
          clear h7
          go_upto_region 29 with (first
            | ((with_reducible refine Dk.new_sec (op := ⟨some 15, _, _, _, _, _⟩) rfl rfl ?_); intro w3 hS3 hB3 hZ3))
          have hQ3 := HD0.out.later hB3
          clear f0 f1 f2 f3
          obtain ⟨f0, f1, f2, f3⟩ := cell_st hQ3
          obtain ⟨K, hK17⟩ : ∃ K, wc.heap.size = K := ⟨_, rfl⟩
          have HB3 := Lib.hid hB3
          have HY3 := Lib.hid (HBW.out w3.drew hQ3.below.drew)
          have HS3 : Hid (Sec w3.drew K Se.noughts) := Lib.hid (by rw [← hK17]; exact Lf.Sec_drew hS3)
          have HZ3 : Hid (w3.heap.size = K + 1 ∧ wc.heap.size = K) := Lib.hid ⟨by rw [hZ3, hK17], hK17⟩
          rw [hK17]
          clear hS3 hB3 hZ3 hQ3 hK17
          go_region_law (first | ((with_reducible refine step_copy_most (o := ⟨some 118, _, _, _, _, _⟩) rfl (.tmp 115) (.tmp 117) rfl K s.b.length s.cb w3.drew.heap.size s.Ab Se.noughts s.b ?_ ?_ HS3.out HY3.out ?_); (next => rfl); (next => rfl); intro w4 b4 hb4 hS4 hG4))
          unfold Exit.then
          dsimp only
          have hB4 : Below wc.heap.size wc w4 := (HB3.out.drew).grown hG4 (by have := HB3.out.size; exact this) (fun k hk => by injection hk with hk; have := HZ3.out.2; omega)
          have HQ4 := Lib.hid (HD0.out.later hB4)
          have HSB := Lib.hid (And.intro hS4 hb4)
          clear f0 f1 f2 f3 hG4 hB4 hS4 hb4 HB3 HY3 HS3
          have hf1 := (cell_st HQ4.out).2.1
          obtain ⟨V, hV⟩ : ∃ V, modN s.n N = V := ⟨_, rfl⟩
          have HMV : Hid (∀ u, Calls Try.prog 8 #[.int .i64 s.n, .int .i64 (N : Int)] u fun e w' => e = .returned (.int .i64 (V : Int)) ∧ w' = u) := Lib.hid (fun u => by have h := mod_any s.n N (by have := HNN.out; omega) (by have := HNN.out; omega) u; rw [hV] at h; exact h)
          clear hV
          have hnn : (writeE d (V : Int) != writeE d (V : Int)) = false := bne_self_eq_false _
          go_upto_region 30 with (fail)
          refine wp_region_held_drew (S := fun u => u.cell? ⟨G, 1, none⟩ = some (.int .i64 s.n) ∧ Sec u K b4) (by kernel_rfl) (keepS_drew ⟨hf1, HSB.out.1⟩) (fun hHeld => ?_)
          refine wpAnyH_take (i := 0) (oi := ⟨some 119, _, _, _, _, _⟩) (v := .pointer (some ⟨q.x, 0, none⟩)) rfl (by kernel_rfl) (by kernel_rfl) (by kernel_rfl) (fun _ _ _ h => h) (Or.inl ⟨by rfl, fun wq hSw => ?_⟩) (by assumption) ?_
          · (obtain ⟨s1, s3⟩ := hSw; go_simp)
          simp only [Act.put, List.setIfInBounds_toArray, List.set_cons_zero, List.set_cons_succ]
          refine wpAnyH_take (i := 1) (oi := ⟨some 120, _, _, _, _, _⟩) (v := .pointer (some ⟨G, 1, none⟩)) rfl (by kernel_rfl) (by kernel_rfl) (by kernel_rfl) (fun _ _ _ h => h) (Or.inl ⟨by rfl, fun wq hSw => ?_⟩) (by assumption) ?_
          · (obtain ⟨s1, s3⟩ := hSw; go_simp)
          simp only [Act.put, List.setIfInBounds_toArray, List.set_cons_zero, List.set_cons_succ]
          refine wpAnyH_take (i := 2) (oi := ⟨some 121, _, _, _, _, _⟩) (v := .int .i64 s.n) rfl (by kernel_rfl) (by kernel_rfl) (by kernel_rfl) (fun _ _ _ h => h) (Or.inl ⟨by rfl, fun wq hSw => ?_⟩) (by assumption) ?_
          · (obtain ⟨s1, s3⟩ := hSw; go_simp)
          simp only [Act.put, List.setIfInBounds_toArray, List.set_cons_zero, List.set_cons_succ]
          refine wpAnyH_take (i := 3) (oi := ⟨some 122, _, _, _, _, _⟩) (v := .int .i64 (N : Int)) rfl (by kernel_rfl) (by kernel_rfl) (by kernel_rfl) (fun _ _ _ h => h) (Or.inl ⟨by rfl, fun wq hSw => ?_⟩) (by assumption) ?_
          · (obtain ⟨s1, s3⟩ := hSw; go_simp)
          simp only [Act.put, List.setIfInBounds_toArray, List.set_cons_zero, List.set_cons_succ]
          refine wpAnyH_take (i := 5) (oi := ⟨some 124, _, _, _, _, _⟩) (v := .agg (secCells b4)) rfl (by kernel_rfl) (by kernel_rfl) (by kernel_rfl) (fun _ _ _ h => h) (Lf.yields_sec (by rfl) (.tmp 15) rfl K rfl b4 (fun wq hSw => hSw.2)) (by assumption) ?_
          simp only [Act.put, List.setIfInBounds_toArray, List.set_cons_zero, List.set_cons_succ]
          refine wpAnyH_take (i := 7) (oi := ⟨some 126, _, _, _, _, _⟩) (v := .pointer (some ⟨p.x, 0, none⟩)) rfl (by kernel_rfl) (by kernel_rfl) (by kernel_rfl) (fun _ _ _ h => h) (Or.inl ⟨by rfl, fun wq hSw => ?_⟩) (by assumption) ?_
          · (obtain ⟨s1, s3⟩ := hSw; go_simp)
          simp only [Act.put, List.setIfInBounds_toArray, List.set_cons_zero, List.set_cons_succ]
          refine wpAnyH_take (i := 8) (oi := ⟨some 127, _, _, _, _, _⟩) (v := .pointer (some ⟨G, 1, none⟩)) rfl (by kernel_rfl) (by kernel_rfl) (by kernel_rfl) (fun _ _ _ h => h) (Or.inl ⟨by rfl, fun wq hSw => ?_⟩) (by assumption) ?_
          · (obtain ⟨s1, s3⟩ := hSw; go_simp)
          simp only [Act.put, List.setIfInBounds_toArray, List.set_cons_zero, List.set_cons_succ]
          refine wpAnyH_take (i := 9) (oi := ⟨some 128, _, _, _, _, _⟩) (v := .int .i64 s.n) rfl (by kernel_rfl) (by kernel_rfl) (by kernel_rfl) (fun _ _ _ h => h) (Or.inl ⟨by rfl, fun wq hSw => ?_⟩) (by assumption) ?_
          · (obtain ⟨s1, s3⟩ := hSw; go_simp)
          simp only [Act.put, List.setIfInBounds_toArray, List.set_cons_zero, List.set_cons_succ]
          refine wpAnyH_take (i := 10) (oi := ⟨some 129, _, _, _, _, _⟩) (v := .int .i64 (N : Int)) rfl (by kernel_rfl) (by kernel_rfl) (by kernel_rfl) (fun _ _ _ h => h) (Or.inl ⟨by rfl, fun wq hSw => ?_⟩) (by assumption) ?_
          · (obtain ⟨s1, s3⟩ := hSw; go_simp)
          simp only [Act.put, List.setIfInBounds_toArray, List.set_cons_zero, List.set_cons_succ]
          refine wpAnyH_take (i := 12) (oi := ⟨some 131, _, _, _, _, _⟩) (v := .agg (secCells b4)) rfl (by kernel_rfl) (by kernel_rfl) (by kernel_rfl) (fun _ _ _ h => h) (Lf.yields_sec (by rfl) (.tmp 15) rfl K rfl b4 (fun wq hSw => hSw.2)) (by assumption) ?_
          simp only [Act.put, List.setIfInBounds_toArray, List.set_cons_zero, List.set_cons_succ]
          have HH := Lib.hid hHeld
          clear hHeld hf1
          refine wpAnyH_ready (rs := [4]) (by kernel_rfl) (by simp) ?_
          refine AllReadyH.cons (o := ⟨some 123, _, _, _, _, _⟩) rfl (fun K2 hK => ?_) AllReadyH.nil
          go_simp
          refine (HMV.out _).mono ?_
          rintro r wz ⟨rfl, hw⟩
          rw [hw]
          clear hw wz
          go_wp2_with fail
          refine hK.out _ _ HH.out (fun hHeld => ?_)
          clear hK K2
          refine wpAnyH_ready (rs := [6]) (by kernel_rfl) (by simp) ?_
          refine AllReadyH.cons (o := ⟨some 125, _, _, _, _, _⟩) rfl (fun K2 hK => ?_) AllReadyH.nil
          go_simp
          have hQ4 := HQ4.out.later (Below.refl _ _).drew
          refine (s_write hQ4 (V : Int) b4 HSB.out.2).mono ?_
          rintro r w6 ⟨rfl, hQ6, hO6⟩
          have HQ6 := Lib.hid (And.intro hQ6 hO6)
          clear hQ4 hQ6 hO6
          go_wp2_with fail
          have hlt6 : ∀ k, q.has k → k < wc.heap.size := (st_lt HD0.out).1
          have hS6 : w6.cell? ⟨G, 1, none⟩ = some (.int .i64 s.n) ∧ Sec w6 K b4 := ⟨(cell_st HQ6.out.1).2.1, HH.out.2.1, Mv.blk_only HH.out.2.2 HQ6.out.2 (fun hs => by have := hlt6 K hs; have := HZ3.out.2; omega)⟩
          have HS6 := Lib.hid hS6
          refine hK.out _ _ hS6 (fun hHeld => ?_)
          clear hK K2 hS6 hHeld hlt6
          refine wpAnyH_ready (rs := [11]) (by kernel_rfl) (by simp) ?_
          refine AllReadyH.cons (o := ⟨some 130, _, _, _, _, _⟩) rfl (fun K2 hK => ?_) AllReadyH.nil
          go_simp
          refine (HMV.out _).mono ?_
          rintro r wz ⟨rfl, hw⟩
          rw [hw]
          clear hw wz
          go_wp2_with fail
          refine hK.out _ _ HS6.out (fun hHeld => ?_)
          clear hK K2
          refine wpAnyH_ready (rs := [13]) (by kernel_rfl) (by simp) ?_
          refine AllReadyH.cons (o := ⟨some 132, _, _, _, _, _⟩) rfl (fun K2 hK => ?_) AllReadyH.nil
          go_simp
          refine (s_rwrite HQ6.out.1 (V : Int) b4 HSB.out.2).mono ?_
          rintro r w7 ⟨rfl, hQ7, hO7⟩
          have hlt7 : ∀ k, p.has k → k < wc.heap.size := (st_lt HD0.out).2
          have hS7 : w7.cell? ⟨G, 1, none⟩ = some (.int .i64 s.n) ∧ Sec w7 K b4 := ⟨(cell_st hQ7).2.1, HS6.out.2.1, Mv.blk_only HS6.out.2.2 hO7 (fun hs => by have := hlt7 K hs; have := HZ3.out.2; omega)⟩
          have HFI : Hid (∃ dx, St w w7 (Option.some (G, s.cells)) q p none none dx dx) := Lib.hid ⟨_, hQ7⟩
          clear hQ7 hO7 hlt7
          go_wp2_with fail
          refine hK.out _ _ hS7 (fun hHeld => ?_)
          clear hK K2 hS7
          refine wpAnyH_take (i := 14) (oi := ⟨some 133, _, _, _, _, _⟩) (v := .bool false) rfl (by kernel_rfl) (by kernel_rfl) (by kernel_rfl) (fun _ _ _ h => h) (Or.inl ⟨by rfl, fun wq hSw => ?_⟩) (by assumption) ?_
          · (go_simp)
          simp only [Act.put, List.setIfInBounds_toArray, List.set_cons_zero, List.set_cons_succ]
          refine wpAnyH_done (by kernel_rfl) ?_ _
          clear hHeld HQ6 HS6 HH HSB HQ4
          go_wp2_with fail
          go_meet
          exact ⟨rfl, HFI.out⟩
        · have b7 : ((T : Int) == 7) = false := beq_eq_false_iff_ne.2 (by omega)
          clear h7
          go_wp2_with fail
          go_meet
          exact ⟨rfl, _, HD0.out⟩
      case rest =>
      obtain ⟨rfl, dx, hD1⟩ := hcut
      have HD1 := Lib.hid hD1
      clear hD1 f0 f1 f2 f3 HD0 HQ
      generalize wc = wd at *
      obtain ⟨f0, f1, f2, f3⟩ := cell_st HD1.out
      -- a crash
      go_upto_if 135 with (fail)
      go_cut [14] (fun s14 wx => s14 = .int .i64 (T : Int) ∧ ∃ dx, St w wx none q p none none dx dx)
      case first =>
        by_cases h5 : T = 5
        · have b5 : ((T : Int) == 5) = true := by rw [h5]; rfl
          have HKW : Hid (∀ u, Below w.heap.size w u → Hl.Ints u u.heap.size s.Ak s.kn s.kf) := Lib.hid (fun u hu k hk => by
            obtain ⟨b, o, e1, e2, e3⟩ := HOK.out.keep k hk
            exact ⟨b, o, e1, Nat.lt_of_lt_of_le e2 hu.size, (hu.cell (p := ⟨b, o + k, none⟩) e2).trans e3⟩)
          have HKT : Hid (∀ a, s.Ak = Option.some a → s.kn ≠ 0 → a.block < w.heap.size) := Lib.hid (fun a ha hn => by
            obtain ⟨b, o, h1, h2, _⟩ := HOK.out.keep 0 (by omega)
            rw [ha] at h1
            injection h1 with h1
            rw [h1]
            exact h2)
          clear h5
          go_wp2_with fail
          refine (s_crash HD1.out s.ck (HKW.out _ HD1.out.below) (fun a ha hn hh => by have := HKT.out a ha hn; have := HD1.out.lo1 _ hh; omega) HSM.out.2 HOK.out.kfs).mono ?_
          rintro r w6 ⟨rfl, h6⟩
          have HQ6 := Lib.hid h6
          clear h6 f0 f1 f2 f3
          obtain ⟨f0, f1, f2, f3⟩ := cell_st HQ6.out
          go_wp2_with fail
          refine (s_rcrash HQ6.out s.ck (HKW.out _ HQ6.out.below) (fun a ha hn hh => by have := HKT.out a ha hn; have := HQ6.out.lo2 _ hh; omega) HSM.out.2 HOK.out.kfs).mono ?_
          rintro r w7 ⟨rfl, h7⟩
          have HFI : Hid (∃ dx, St w w7 none q p none none dx dx) := Lib.hid ⟨_, h7.bare⟩
          clear h7
          go_wp2_with fail
          go_meet
          exact ⟨rfl, HFI.out⟩
        · have b5 : ((T : Int) == 5) = false := beq_eq_false_iff_ne.2 (by omega)
          clear h5
          go_wp2_with fail
          go_meet
          exact ⟨rfl, _, HD1.out.bare⟩
      case rest =>
      obtain ⟨rfl, dy, hD2⟩ := hcut
      have HD2 := Lib.hid hD2
      clear hD2 f0 f1 f2 f3 HD1
      generalize wc = we at *
      -- opened again
      go_wp2_with fail
      refine (s_start HD2.out).mono ?_
      rintro r w8 ⟨rfl, h8⟩
      have HQ8 := Lib.hid h8
      clear h8 HD2
      go_wp2_with fail
      refine (s_rstart HQ8.out).mono ?_
      rintro r w9 ⟨rfl, h9⟩
      have HQ9 := Lib.hid h9
      generalize startD dy = ds at *
      clear h9 HQ8
      go_wp2_with fail
      refine (s_arm HQ9.out 0 (by omega)).mono ?_
      rintro r w10 ⟨rfl, h10⟩
      have HQ10 := Lib.hid h10
      clear h10 HQ9
      go_wp2_with fail
      refine (s_rarm HQ10.out 0 (by omega)).mono ?_
      rintro r w11 ⟨rfl, h11⟩
      have HQ11 := Lib.hid h11
      generalize armD ds 0 = da at *
      clear h11 HQ10
      by_cases hE : vopenE da = 0
      · have HO := Lib.hid (s_open HQ11.out hE)
        have HE := Lib.hid hE
        clear hE
        go_wp2_with fail
        refine HO.out.mono ?_
        rintro r w13 ⟨x', rfl, hS13⟩
        have HR := Lib.hid (s_ropen hS13 HE.out)
        clear hS13 HO
        go_wp2_with fail
        refine HR.out.mono ?_
        rintro r w14 ⟨x2, rfl, hS14⟩
        have HFI : Hid (∃ (x'' y' : Nat) (v' : VS) (d' : DS), Value.pointer (some ⟨x', 0, none⟩) = .pointer (some ⟨x'', 0, none⟩) ∧ Value.pointer (some ⟨x2, 0, none⟩) = .pointer (some ⟨y', 0, none⟩) ∧ St w w14 none q p (Option.some (x'', v')) (Option.some (y', v')) d' d') := Lib.hid ⟨x', x2, _, _, rfl, rfl, hS14⟩
        clear hS14 HR
        go_wp2_with fail
        go_meet
        exact HFI.out
      · have HO := Lib.hid (s_open_bad HQ11.out hE)
        have HR : Hid (∀ u, St w u none q p none none (vopenDS da) da → Calls Try.prog 12 #[.pointer (some ⟨p.x, 0, none⟩)] u fun r w' => r = .returned (.tuple #[.pointer none, .int .i64 (vopenE da)]) ∧ St w w' none q p none none (vopenDS da) (vopenDS da)) := Lib.hid (fun u hu => s_ropen_bad hu hE)
        generalize vopenE da = E at *
        have b1 : (E == 0) = false := beq_eq_false_iff_ne.2 hE
        have b2 : (E != 0) = true := by rw [bne, b1]; rfl
        have bE3 : (E != E) = false := bne_self_eq_false _
        clear hE
        go_wp2_with fail
        refine HO.out.mono ?_
        rintro r w13 ⟨rfl, hS13⟩
        have HR2 := Lib.hid (HR.out _ hS13)
        clear hS13 HO HR
        go_wp2_with fail
        refine HR2.out.mono ?_
        rintro r w14 ⟨rfl, hS14⟩
        have HS14 := Lib.hid hS14
        clear hS14 HR2
        go_wp2_with fail
        go_ret
        exact ⟨rfl, HS14.out.below⟩
    case rest =>
      obtain ⟨x', y', v', d', rfl, rfl, hS⟩ := hcut
      have HS := Lib.hid hS
      clear hS HQ f0 f1 f2 f3 HMK g1 g2 g3 g4
      generalize wc = wb at *
      go_wp2_with fail
      refine (alike_any HS.out).mono ?_
      rintro r wl ⟨rfl, kl⟩
      have HEND := Lib.hid (HS.out.later kl)
      clear kl
      go_wp2_with fail
      go_roundw
      case rel => exact ⟨i + 1, x', y', v', d', by go_num, rfl, rfl, by have := HLT.out; omega, by have := HLT.out; omega, HEND.out⟩
      case measure => simp [intOf]; have := HLT.out; omega

set_option maxRecDepth 100000 in
theorem lifted (os : Os) (started : os.Started) (H : Type) (enc : TypeId × Value → H) :
    ReturnsInHanded {} Try.checked os 3 .any (Rows.vaultPlaysSpec.pre6 enc Try.prog Try.f3 Rows.vaultPlaysRow.domain false) (Rows.vaultPlaysSpec.post enc Try.prog Try.f3 false true false false) := by
  refine returnsInHanded_of_change (C := Try.checked) own started (by kernel_rfl) Try.func3
    (ChangeSpec.witness6 (enc := enc) (C := Try.checked) false ⟨#[], #[.int .i64 0, .slice none 0 0], []⟩ 8 (by kernel_rfl) (by kernel_rfl) (by kernel_rfl) (by kernel_rfl)) ?_
  intro W base args ds gs before hval0 hW hcnd _
  have hval : ∀ (j : Nat) t v, Try.f3.params[j]? = some t → args[j]? = some v → Value.okWide Try.prog W .any base t v := hval0
  have hW' := hW
  obtain ⟨p, q, hA0, hV, rfl, hfz, hnd⟩ := hW
  have hA : DataW.TrodAll enc Try.prog W 0 (fun _ => true) true Try.f3.params.toList args.toList ds p := hA0
  rw [Try.params3] at hA hval
  obtain ⟨v0, vs0, d0, ds0, p0, q0, hargs, rfl, rfl, h0, r0⟩ := trodAll_cons hA
  obtain ⟨v1, vs1, d1, ds1, p1, q1, rfl, rfl, rfl, h1, r1⟩ := trodAll_cons r0
  obtain ⟨rfl, rfl, rfl⟩ := trodAll_nil r1
  obtain rfl : args = #[v0, v1] := by cases args; simp_all
  obtain ⟨a0, rfl, _, _, w0⟩ := open_int Try.underlying3 (hval 0 3 v0 rfl rfl) h0
  obtain ⟨A1, n1, c1, o1, rfl, x1, y1⟩ := Vq.open_oprs (hval 1 22 v1 rfl rfl) h1
  refine (walk W a0 w0 A1 n1 c1 o1 x1 y1).mono fun e W' ⟨he, hb⟩ => ?_
  subst he
  exact ⟨_, rfl, Hk.closeLaw (tb := 4) (by kernel_rfl) (by kernel_rfl) rfl rfl rfl Try.underlying4 hW' hb⟩

theorem over : Rows.vaultPlaysRow.holds Try.pinned (OpenSpec.ofChange Rows.vaultPlaysSpec) :=
  OpenClaim.holds_of_wide 3 Try.f3 rfl rfl rfl rfl rfl rfl rfl ⟨rfl, rfl, rfl, rfl, rfl⟩ rfl rfl rfl rfl rfl (by kernel_rfl) Try.func3 (by kernel_rfl)
    (of_decide_eq_true (by kernel_rfl)) (by unfold Func.isWrapper; first | (rw [if_pos (by decide +kernel)]; kernel_rfl) | (rw [if_neg (by decide +kernel)]; exact ⟨rfl, rfl⟩))
    (fun os started H enc _ => lifted os started H enc)

/-- The statement. -/
theorem proved : Rows.VaultPlaysSaid :=
  over
end Go.Proofs.Ytedgookkogpfbaa.vaultPlays
