/- P8.1, P8.2: whatever is added, lost, opened again with a greater epoch, begun anew, or written over by hand, up to forty steps on up to fourteen sectors, the journal tells what the document's journal tells; what is handed to Add stays, with the room behind it; for every slice of steps. No conditions. -/
import Derived.Test.YtibadhoabobmpaaJpB
import Derived.Test.YtibadhoabobmpaaBa
set_option maxRecDepth 100000
namespace Go.Proofs.Ytibadhoabobmpaa.journalPlays
open Go.ChangeShapes Go.WideShapes Go.ChangeAt Go.RowKit
set_option linter.unusedVariables false

theorem own : ownKnob Try.prog.godebug = none := by kernel_rfl

open Qu (Blk)
open Mv (Only Fresh)
open By (Own8 Bys cellsB cellsB_length)
open Dk (DS dsNew crashD startD armD writeD writeE RefAt secCells Sec)
open Dd (Lay At Tidy Pl)
open Jr (JS newE blankJ openJ addE addDS addJ Fit new_is ownBlock_any JHas)
open Jl (modN modN_lt mod_any dsNew_n)
open Jp

theorem cell_box {w wr : World} {g x y : Nat} {s : Opr} {q : Pl} {p : Dk.Place} {A A2 : Option Addr} {d1 d2 : DS} {j1 j2 : JS} (h : Quad w wr g s.cells q p x y A A2 d1 j1 d2 j2) : wr.cell? ⟨g, 0, none⟩ = some (.int .i64 s.kind) ∧ wr.cell? ⟨g, 1, none⟩ = some (.int .i64 s.n) ∧ wr.cell? ⟨g, 2, none⟩ = some (.slice s.Ab s.b.length s.cb) ∧ wr.cell? ⟨g, 3, none⟩ = some (.slice s.Ak s.kn s.ck) :=
  ⟨h.box.cell 0, h.box.cell 1, h.box.cell 2, h.box.cell 3⟩

theorem keepS_drew {u : World} {G K : Nat} {v : Value} {b : List UInt8} (h : u.cell? ⟨G, 1, none⟩ = some v ∧ Sec u K b) : u.drew.cell? ⟨G, 1, none⟩ = some v ∧ Sec u.drew K b := ⟨h.1, Lf.Sec_drew h.2⟩

/-- Bytes are copied into a sector of the call's own, as many as it has room for. -/
theorem step_copy_most {w : World} {ops : Array Oper} {o : Oper} {a : Act} {K : Act → World → Prop} {Q : Exit → Act → World → Prop} {E : Prop} (free : o.guard = none) (x y : Operand)
    (is : o.op = .call { callee := .builtin .copy, args := #[x, y], argTypes := #[38, 38] }) (g m c M : Nat) (A : Option Addr) (s d : List UInt8) (vx : a.eval x = .slice (some ⟨g, 0, none⟩) 64 64) (vy : a.eval y = .slice A m c)
    (hS : Sec w g s) (hb : Bys w M A m d) (go : ∀ w' (b : List UInt8), b.length = 64 → Sec w' g b → w.grownBy w' (some g) → K (a.put o.dst (goInt (((min m 64 : Nat)) : Int))) w') :
    if Region.wanted o (yielded ops a.tmps) = true then Oper.wp Try.prog o a w K Q else E := by
  have hw : Region.wanted o (yielded ops a.tmps) = true := by simp [Region.wanted, free]
  rw [if_pos hw]
  by_cases h0 : m = 0
  · subst h0
    have hrun := run_copy_none (P := Try.prog) w 38 38 o.type 5 (some ⟨g, 0, none⟩) A 64 64 0 c Try.underlying38 (by kernel_rfl) (Nat.zero_min _)
    unfold Oper.wp
    simp [execOp, is, resolve, invoke, builtin, vx, vy, hrun, Result.andThen]
    exact go _ s hS.1 hS (World.grownBy.refl w _)
  obtain ⟨g2, o2, rfl, _, _⟩ := hb.at (k := 0) (by omega)
  have hbt := hb.take (k := min m 64) (by omega)
  have hl : (cellsB (d.take (min m 64))).length = min m 64 := by rw [cellsB_length, hbt.len]
  have hrun := run_copy_cells (P := Try.prog) w 38 38 o.type 5 g 0 64 64 ⟨g2, o2, none⟩ m c (cellsB (d.take (min m 64))) Try.underlying38 (by kernel_rfl) hl
    hbt.there
    (fun j hj => by
      rw [hl] at hj
      rw [hS.2.cell, Dk.secCells_at, List.getElem?_eq_getElem (by rw [hS.1]; omega)]
      rfl)
    (fun j hj => hS.2.frozen _) (By.cellsB_one _)
  rw [hl] at hrun
  obtain ⟨q1, q2⟩ := Lf.sec_over (o := 0) (vs := d.take (min m 64)) hS
  unfold Oper.wp
  simp [execOp, is, resolve, invoke, builtin, vx, vy, hrun, Result.andThen]
  exact go _ _ q1.1 q1 q2

set_option maxRecDepth 100000 in
set_option maxHeartbeats 8000000 in
theorem walk (w : World) (a0 : Int) (wf0 : (Lit.int .i64 a0).wf = true) (a1 : Int) (wf1 : (Lit.int .i64 a1).wf = true) (A0 : Option Addr) (n0 c0 : Nat) (o : Nat → Opr) (hI : Oprs w A0 n0 o) (hn0 : n0 ≤ 9223372036854775807) :
    Calls Try.prog 3 #[.int .i64 a0, .int .i64 a1, .slice A0 n0 c0] w fun e w' => e = .returned (.bool true) ∧ Below w.heap.size w w' := by
  have HM0 := Lib.hid (mod_any a0 14 (by omega) (by omega) w)
  have HM1 := Lib.hid (mod_any a1 3 (by omega) (by omega) w)
  obtain ⟨t0, ht0⟩ : ∃ t, modN a0 14 = t := ⟨_, rfl⟩
  obtain ⟨O, hO⟩ : ∃ t, modN a1 3 = t := ⟨_, rfl⟩
  have ht1 : t0 < 14 := by rw [← ht0]; exact modN_lt a0 (by omega)
  have hO3 : O < 3 := by rw [← hO]; exact modN_lt a1 (by omega)
  rw [ht0] at HM0
  rw [hO] at HM1
  obtain ⟨N, hN⟩ : ∃ N : Nat, t0 + 1 = N := ⟨_, rfl⟩
  obtain ⟨M, hM⟩ : ∃ M : Nat, N + O + 2 = M := ⟨_, rfl⟩
  have hN1 : (1 : Int) + (t0 : Int) = (N : Int) := by omega
  have hM1 : (N : Int) + (O : Int) + 2 = (M : Int) := by omega
  have HI := Lib.hid hI
  have HNM : Hid (N + O + 2 = M ∧ 1 ≤ N ∧ N ≤ 14 ∧ O < 3) := Lib.hid ⟨hM, by omega, by omega, hO3⟩
  have m1 : (N : Int) + (O : Int) ≤ 20 := by omega
  have m2 : (0 : Int) ≤ (N : Int) + (O : Int) := by omega
  clear hI ht0 hO hN hM wf0 wf1
  go_enter Try.func3, Try.ntmps3
  go_wp2_with (first | (refine HM0.out.mono ?_; rintro r w2 ⟨rfl, hw⟩; rw [hw]; clear hw w2) | (refine HM1.out.mono ?_; rintro r w2 ⟨rfl, hw⟩; rw [hw]; clear hw w2))
  clear hN1 ht1 hO3 HM0 HM1
  have hM18 : M ≤ 18 := by have := HNM.out; omega
  refine (Dd.new_ok w M (by have := HNM.out; omega) (by omega)).mono ?_
  rintro r w1 ⟨q, rfl, hq, hlo, hb⟩
  have HQ := Lib.hid (And.intro hq (And.intro hlo hb))
  clear hq hlo hb
  go_wp2_with fail
  refine (Dk.rnew_any w1 M (by omega)).mono ?_
  rintro r w2 ⟨p, rfl, hp, hlp, hb⟩
  have HP := Lib.hid (And.intro hp (And.intro hlp hb))
  have hq2 := And.intro (HQ.out.1.lay.below hb) HQ.out.1.tidy
  have HN := Lib.hid (Jl.pair_new (w := w) ⟨hq2.1, hq2.2⟩ HQ.out.2.1 (HQ.out.2.2.trans (hb.mono HQ.out.2.2.size)) (by rw [dsNew_n]; omega) (by show 0 ≤ _; omega) O N 1 (by omega) (new_is (by rw [dsNew_n]; have := HNM.out; omega) (by have := HNM.out; omega) (by omega) rfl))
  clear hp hlp hb hq2
  go_wp2_with fail
  refine HN.out.mono ?_
  rintro r w3 ⟨x, rfl, hP, k3⟩
  have HP3 := Lib.hid (And.intro hP k3)
  have HB := Lib.hid (Jr.rblank_ok w3 w1.heap.size p (dsNew M) O N 1 (HP.out.1.below k3) (by rw [dsNew_n]; omega) (by omega) (new_is (by rw [dsNew_n]; have := HNM.out; omega) (by have := HNM.out; omega) (by omega) rfl))
  clear hP k3 HN
  go_wp2_with fail
  refine HB.out.mono ?_
  rintro r w4 ⟨y, rfl, hy, hJ, k4⟩
  have HX : Hid (Base w w4 q p x y none none (dsNew M) (blankJ O N 1)) := Lib.hid ⟨⟨_, _, _, _, 0, [], 0, [], HP3.out.1.later k4, (HP.out.1.below HP3.out.2).below k4, hJ, HP3.out.1.below.size, fun g hg => by cases hg⟩, HP3.out.1.fit, fun k hk => by
      have := HP.out.2.1 k hk
      have := HQ.out.2.2.size
      omega, fun k hk hk2 => by
      have := HQ.out.1.there k hk
      have := HP.out.2.1 k hk2
      omega⟩
  clear hy hJ k4 HB HP3 HP HQ
  go_wp2_with fail
  refine (Jl.awake_any w4).mono ?_
  rintro r w5 ⟨rfl, k5⟩
  have HX5 := Lib.hid (HX.out.later k5)
  clear k5 HX
  go_wp2_with fail
  go_loopw [10, 11, 13, 15] (fun s10 s11 s13 s15 wr => ∃ (i E x y : Nat) (A A2 : Option Addr) (d : DS) (j : JS), s15 = .int .i64 (i : Int) ∧ s10 = .int .u32 (E : Int) ∧ s11 = .pointer (some ⟨x, 0, none⟩) ∧ s13 = .pointer (some ⟨y, 0, none⟩) ∧ i ≤ n0 ∧ i ≤ 40 ∧ E ≤ i + 1 ∧ 1 ≤ E ∧ d.n = M ∧ Base w wr q p x y A A2 d j) (fun _ _ _ s _ => 40 - (intOf s).toNat)
  case atStart => exact ⟨0, 1, x, y, none, none, dsNew M, blankJ O N 1, rfl, rfl, rfl, rfl, by omega, by omega, by omega, by omega, dsNew_n M, HX5.out⟩
  case round =>
    clear HX5
    obtain ⟨i, E, x, y, A, A2, d, j, rfl, rfl, rfl, rfl, hi, hi40, hE1, hE2, hdn, hX⟩ := hrel
    have HX := Lib.hid hX
    have HD := Lib.hid hdn
    clear hX hdn
    have i0 : (0 : Int) ≤ (i : Int) := by omega
    by_cases hlt : i < n0 ∧ i < 40
    case neg =>
      by_cases hin : i < n0
      case' pos =>
        have i1 : (i : Int) < (n0 : Int) := by omega
        have i2 : ¬ (i : Int) < 40 := by omega
        have i3 : decide (i < n0) = true := by simp; omega
      case' neg =>
        have i1 : ¬ (i : Int) < (n0 : Int) := by omega
        have i3 : decide (i < n0) = false := by simp; omega
      all_goals
        go_wp2_with fail
        go_ret
        exact ⟨rfl, HX.out.below⟩
    case pos =>
    have i1 : (i : Int) < (n0 : Int) := by omega
    have i2 : (i : Int) < 40 := by omega
    have i3 : decide (i < n0) = true := by simp; omega
    obtain ⟨b, off, rfl, hb, hcs, hok⟩ := HI.out i hlt.1
    have e0 := (HX.out.below.cell (p := ⟨b, off + i * 4, none⟩) hb).trans (hcs 0 (by omega))
    have e1 := (HX.out.below.cell (p := ⟨b, off + i * 4 + 1, none⟩) hb).trans (hcs 1 (by omega))
    have e2 := (HX.out.below.cell (p := ⟨b, off + i * 4 + 2, none⟩) hb).trans (hcs 2 (by omega))
    have e3 := (HX.out.below.cell (p := ⟨b, off + i * 4 + 3, none⟩) hb).trans (hcs 3 (by omega))
    simp [Opr.cells] at e0 e1 e2 e3
    have HOK := Lib.hid hok
    generalize o i = s at *
    clear hcs hb hok
    have HXB := Lib.hid (HX.out.box s.cells)
    obtain ⟨W1, hW1⟩ : ∃ W1, W1 = wr.alloc (.cells #[.int .i64 s.kind, .int .i64 s.n, .slice s.Ab s.b.length s.cb, .slice s.Ak s.kn s.ck] 41) := ⟨_, rfl⟩
    have HW1 := Lib.hid hW1
    have hXB : Quad w W1 wr.heap.size s.cells q p x y A A2 d j d j := by rw [hW1]; exact HX.out.box s.cells
    clear hW1
    obtain ⟨G, hG⟩ : ∃ G, wr.heap.size = G := ⟨_, rfl⟩
    rw [hG] at hXB
    have HQ := Lib.hid hXB
    clear hXB
    go_upto_region 13 with (fail)
    rw [← HW1.out]
    clear e0 e1 e2 e3 hG
    obtain ⟨f0, f1, f2, f3⟩ := cell_box HQ.out
    by_cases hsm : s.b.length ≤ 300 ∧ s.kn ≤ 40
    case neg =>
      by_cases hb3 : s.b.length ≤ 300
      case' neg =>
        have g1 : (300 : Int) < (s.b.length : Int) := by omega
        have g2 : decide (300 < s.b.length) = true := by simp; omega
      case' pos =>
        have g1 : ¬ (300 : Int) < (s.b.length : Int) := by omega
        have g2 : decide (300 < s.b.length) = false := by simp; omega
        have g3 : (40 : Int) < (s.kn : Int) := by omega
        have g4 : decide (40 < s.kn) = true := by simp; omega
      all_goals
        clear hsm
        go_wp2_with fail
        go_ret
        exact ⟨rfl, HQ.out.below⟩
    case pos =>
    have HSM := Lib.hid hsm
    have HKP : Hid (Keep w s.Ak s.kn s.kf) := Lib.hid ⟨HOK.out.keep, HOK.out.kfs, hsm.2⟩
    have HD0 : Hid (0 < d.n ∧ d.n = M) := Lib.hid ⟨by rw [HD.out]; have := HNM.out; omega, HD.out⟩
    obtain ⟨T, hT⟩ : ∃ T, modN s.kind 7 = T := ⟨_, rfl⟩
    have hT7 : T < 7 := by rw [← hT]; exact modN_lt s.kind (by omega)
    have HMK : Hid (∀ u, Calls Try.prog 9 #[.int .i64 s.kind, .int .i64 7] u fun e w' => e = .returned (.int .i64 (T : Int)) ∧ w' = u) := Lib.hid (fun u => by have h := mod_any s.kind 7 (by omega) (by omega) u; rw [hT] at h; exact h)
    have g1 : ¬ (300 : Int) < (s.b.length : Int) := by omega
    have g2 : decide (300 < s.b.length) = false := by simp; omega
    have g3 : ¬ (40 : Int) < (s.kn : Int) := by omega
    have g4 : decide (40 < s.kn) = false := by simp; omega
    clear hsm hT
    have hcase : T = 3 ∨ T = 4 ∨ T = 5 ∨ T = 6 ∨ T < 3 := by omega
    rcases hcase with rfl | rfl | rfl | rfl | hT3
    · clear hT7
      go_wp2_with (first | (go_at_call 9; (with_reducible refine (HMK.out _).mono ?_); rintro r wz ⟨rfl, hw⟩; rw [hw]; clear hw wz))
      refine (q_arm HQ.out s.n HOK.out.n2 HD0.out.1).mono ?_
      rintro r w6 ⟨rfl, h6⟩
      have HQ6 := Lib.hid h6
      clear h6 f0 f1 f2 f3
      obtain ⟨f0, f1, f2, f3⟩ := cell_box HQ6.out
      go_wp2_with fail
      refine (q_rarm HQ6.out s.n HOK.out.n2 HD0.out.1).mono ?_
      rintro r w7 ⟨rfl, h7⟩
      have HQ7 := Lib.hid h7
      clear h7 f0 f1 f2 f3
      go_wp2_with fail
      refine (alike_any HQ7.out).mono ?_
      rintro r wl ⟨rfl, kl⟩
      have HEND := Lib.hid (HQ7.out.keep kl)
      clear kl
      go_wp2_with fail
      exact ⟨⟨i + 1, E, x, y, A, A2, armD d s.n, j, by go_num, rfl, rfl, rfl, by omega, by omega, by omega, by omega, HD0.out.2, HEND.out⟩, by simp [intOf]; omega⟩
    · clear hT7
      go_wp2_with (first | (go_at_call 9; (with_reducible refine (HMK.out _).mono ?_); rintro r wz ⟨rfl, hw⟩; rw [hw]; clear hw wz))
      refine (q_crash HQ.out s.ck HKP.out HD0.out.1).mono ?_
      rintro r w6 ⟨rfl, h6⟩
      have HQ6 := Lib.hid h6
      clear h6 f0 f1 f2 f3
      obtain ⟨f0, f1, f2, f3⟩ := cell_box HQ6.out
      go_wp2_with fail
      refine (q_rcrash HQ6.out s.ck HKP.out HD0.out.1).mono ?_
      rintro r w7 ⟨rfl, h7⟩
      have hcn := (Jr.crashD_n d s.kn s.kf).1
      generalize crashD d s.kn s.kf = dc at *
      have HQ7 := Lib.hid h7
      have HDC : Hid (0 < dc.n ∧ dc.n = M) := Lib.hid (by rw [hcn]; exact HD0.out)
      clear h7 f0 f1 f2 f3 hcn HQ6 HQ
      obtain ⟨f0, f1, f2, f3⟩ := cell_box HQ7.out
      go_wp2_with fail
      refine (q_start HQ7.out HDC.out.1).mono ?_
      rintro r w8 ⟨rfl, h8⟩
      have HQ8 := Lib.hid h8
      clear h8 f0 f1 f2 f3
      obtain ⟨f0, f1, f2, f3⟩ := cell_box HQ8.out
      go_wp2_with fail
      refine (q_rstart HQ8.out HDC.out.1).mono ?_
      rintro r w9 ⟨rfl, h9⟩
      have hsn := Jr.startD_n dc
      generalize startD dc = ds at *
      have HQ9 := Lib.hid h9
      have HDS : Hid (ds.n = M ∧ ds.off = false) := Lib.hid ⟨hsn.1.trans HDC.out.2, hsn.2.2⟩
      clear h9 f0 f1 f2 f3 hsn HQ8
      obtain ⟨f0, f1, f2, f3⟩ := cell_box HQ9.out
      obtain ⟨E', hE'⟩ : ∃ E', E + 1 = E' := ⟨_, rfl⟩
      have hu1 : IntKind.u32.wrap ((E : Int) + 1) = (E' : Int) := by rw [IntWalk.u32_in _ (by omega)]; omega
      have HE : Hid (E + 1 = E') := Lib.hid hE'
      have HNE := Lib.hid (new_is (d := ds) (o := O) (n := N) (e := E') (by rw [HDS.out.1]; have := HNM.out; omega) (by have := HNM.out; omega) (by omega) HDS.out.2)
      have hE32 : E' < 2 ^ 32 := by omega
      clear hE'
      go_wp2_with (first | (go_at_call 9; (with_reducible refine (HMK.out _).mono ?_); rintro r wz ⟨rfl, hw⟩; rw [hw]; clear hw wz))
      refine (q_open HQ9.out O N E' hE32 HNE.out).mono ?_
      rintro r w10 ⟨x', A', rfl, h10⟩
      have HQ10 := Lib.hid h10
      clear h10 f0 f1 f2 f3 hu1 HQ9
      go_wp2_with fail
      refine (q_ropen HQ10.out O N E' hE32 HNE.out).mono ?_
      rintro r w11 ⟨y', A2', rfl, h11⟩
      have HQ11 := Lib.hid h11
      clear h11 HQ10
      go_wp2_with fail
      refine (alike_any HQ11.out).mono ?_
      rintro r wl ⟨rfl, kl⟩
      have HEND := Lib.hid (HQ11.out.keep kl)
      clear kl
      go_wp2_with fail
      exact ⟨⟨i + 1, E', x', y', A', A2', ds, openJ ds O N E', by go_num, rfl, rfl, rfl, by omega, by omega, by have := HE.out; omega, by have := HE.out; omega, HDS.out.1, HEND.out⟩, by simp [intOf]; omega⟩
    · clear hT7
      go_wp2_with (first | (go_at_call 9; (with_reducible refine (HMK.out _).mono ?_); rintro r wz ⟨rfl, hw⟩; rw [hw]; clear hw wz))
      refine (q_crash HQ.out s.ck HKP.out HD0.out.1).mono ?_
      rintro r w6 ⟨rfl, h6⟩
      have HQ6 := Lib.hid h6
      clear h6 f0 f1 f2 f3
      obtain ⟨f0, f1, f2, f3⟩ := cell_box HQ6.out
      go_wp2_with fail
      refine (q_rcrash HQ6.out s.ck HKP.out HD0.out.1).mono ?_
      rintro r w7 ⟨rfl, h7⟩
      have hcn := (Jr.crashD_n d s.kn s.kf).1
      generalize crashD d s.kn s.kf = dc at *
      have HQ7 := Lib.hid h7
      have HDC : Hid (0 < dc.n ∧ dc.n = M) := Lib.hid (by rw [hcn]; exact HD0.out)
      clear h7 f0 f1 f2 f3 hcn HQ6 HQ
      obtain ⟨f0, f1, f2, f3⟩ := cell_box HQ7.out
      go_wp2_with fail
      refine (q_start HQ7.out HDC.out.1).mono ?_
      rintro r w8 ⟨rfl, h8⟩
      have HQ8 := Lib.hid h8
      clear h8 f0 f1 f2 f3
      obtain ⟨f0, f1, f2, f3⟩ := cell_box HQ8.out
      go_wp2_with fail
      refine (q_rstart HQ8.out HDC.out.1).mono ?_
      rintro r w9 ⟨rfl, h9⟩
      have hsn := Jr.startD_n dc
      generalize startD dc = ds at *
      have HQ9 := Lib.hid h9
      have HDS : Hid (ds.n = M ∧ ds.off = false) := Lib.hid ⟨hsn.1.trans HDC.out.2, hsn.2.2⟩
      clear h9 f0 f1 f2 f3 hsn HQ8
      obtain ⟨f0, f1, f2, f3⟩ := cell_box HQ9.out
      obtain ⟨E', hE'⟩ : ∃ E', E + 1 = E' := ⟨_, rfl⟩
      have hu1 : IntKind.u32.wrap ((E : Int) + 1) = (E' : Int) := by rw [IntWalk.u32_in _ (by omega)]; omega
      have HE : Hid (E + 1 = E') := Lib.hid hE'
      have HNE := Lib.hid (new_is (d := ds) (o := O) (n := N) (e := E') (by rw [HDS.out.1]; have := HNM.out; omega) (by have := HNM.out; omega) (by omega) HDS.out.2)
      have hE32 : E' < 2 ^ 32 := by omega
      clear hE'
      go_wp2_with (first | (go_at_call 9; (with_reducible refine (HMK.out _).mono ?_); rintro r wz ⟨rfl, hw⟩; rw [hw]; clear hw wz))
      refine (q_new HQ9.out O N E' hE32 HNE.out).mono ?_
      rintro r w10 ⟨x', rfl, h10⟩
      have HQ10 := Lib.hid h10
      clear h10 f0 f1 f2 f3 hu1 HQ9
      go_wp2_with fail
      refine (q_rblank HQ10.out O N E' hE32 HNE.out).mono ?_
      rintro r w11 ⟨y', rfl, h11⟩
      have HQ11 := Lib.hid h11
      clear h11 HQ10
      go_wp2_with fail
      refine (alike_any HQ11.out).mono ?_
      rintro r wl ⟨rfl, kl⟩
      have HEND := Lib.hid (HQ11.out.keep kl)
      clear kl
      go_wp2_with fail
      exact ⟨⟨i + 1, E', x', y', none, none, ds, blankJ O N E', by go_num, rfl, rfl, rfl, by omega, by omega, by have := HE.out; omega, by have := HE.out; omega, HDS.out.1, HEND.out⟩, by simp [intOf]; omega⟩
    · clear hT7
      have HBW : Hid (∀ u, Below w.heap.size w u → Bys u u.heap.size s.Ab s.b.length s.b) := Lib.hid (fun u hu => (HOK.out.bys.below hu (Nat.le_refl _)).more hu.size)
      have hun1 := HOK.out.n1
      have hun2 := HOK.out.n2
      go_upto_region 27 with (first | (go_at_call 9; (with_reducible refine (HMK.out _).mono ?_); rintro r wz ⟨rfl, hw⟩; rw [hw]; clear hw wz) | ((with_reducible refine Dk.new_sec (op := ⟨some 17, _, _, _, _, _⟩) rfl rfl ?_); intro w3 hS3 hB3 hZ3))
      have hQ3 := HQ.out.later hB3
      clear f0 f1 f2 f3
      obtain ⟨f0, f1, f2, f3⟩ := cell_box hQ3
      obtain ⟨K, hK17⟩ : ∃ K, W1.heap.size = K := ⟨_, rfl⟩
      have HB3 := Lib.hid hB3
      have HY3 := Lib.hid (HBW.out w3.drew hQ3.below.drew)
      have HS3 : Hid (Sec w3.drew K Se.noughts) := Lib.hid (by rw [← hK17]; exact Lf.Sec_drew hS3)
      have HZ3 : Hid (w3.heap.size = K + 1 ∧ W1.heap.size = K) := Lib.hid ⟨by rw [hZ3, hK17], hK17⟩
      rw [hK17]
      clear hS3 hB3 hZ3 hQ3 hK17
      go_region_law (first | ((with_reducible refine step_copy_most (o := ⟨some 134, _, _, _, _, _⟩) rfl (.tmp 131) (.tmp 133) rfl K s.b.length s.cb w3.drew.heap.size s.Ab Se.noughts s.b ?_ ?_ HS3.out HY3.out ?_); (next => rfl); (next => rfl); intro w4 b4 hb4 hS4 hG4))
      unfold Exit.then
      dsimp only
      have hB4 : Below W1.heap.size W1 w4 := (HB3.out.drew).grown hG4 (by have := HB3.out.size; exact this) (fun k hk => by injection hk with hk; have := HZ3.out.2; omega)
      have HQ4 := Lib.hid (HQ.out.later hB4)
      have HG4 : Hid (G < K ∧ K < w4.heap.size) := Lib.hid ⟨by have := HQ.out.box.lt; have := HZ3.out.2; omega, hS4.2.lt⟩
      have HSB := Lib.hid (And.intro hS4 hb4)
      clear f0 f1 f2 f3 hG4 hB4 hS4 hb4 HB3 HY3 HS3
      have hf1 := (cell_box HQ4.out).2.1
      obtain ⟨V, hV⟩ : ∃ V, modN s.n M = V := ⟨_, rfl⟩
      have HMV : Hid (∀ u, Calls Try.prog 9 #[.int .i64 s.n, .int .i64 (M : Int)] u fun e w' => e = .returned (.int .i64 (V : Int)) ∧ w' = u) := Lib.hid (fun u => by have h := mod_any s.n M (by have := HNM.out; omega) (by omega) u; rw [hV] at h; exact h)
      clear hV
      have hnn : (writeE d (V : Int) != writeE d (V : Int)) = false := bne_self_eq_false _
      have HHX := Lib.hid (fun (u : World) (hc : u.cell? ⟨G, 1, none⟩ = some (.int .i64 s.n)) (hs : Sec u K b4) => And.intro hc hs)
      have hw1 : IntKind.i64.wrap ((N : Int) + (O : Int)) = (N : Int) + (O : Int) := IntWalk.i64_in _ (by omega)
      have hw2 : IntKind.i64.wrap (M : Int) = (M : Int) := IntWalk.i64_in _ (by omega)
      go_upto_region 28 with (fail)
      refine wp_region_held_drew (S := fun u => u.cell? ⟨G, 1, none⟩ = some (.int .i64 s.n) ∧ Sec u K b4) (by kernel_rfl) (keepS_drew ⟨hf1, HSB.out.1⟩) (fun hHeld => ?_)
      refine wpAnyH_take (i := 0) (oi := ⟨some 135, _, _, _, _, _⟩) (v := .pointer (some ⟨q.x, 0, none⟩)) rfl (by kernel_rfl) (by kernel_rfl) (by kernel_rfl) (fun _ _ _ h => h) (Or.inl ⟨by rfl, fun wq hSw => ?_⟩) (by assumption) ?_
      · (obtain ⟨s1, s3⟩ := hSw; go_simp)
      simp only [Act.put, List.setIfInBounds_toArray, List.set_cons_zero, List.set_cons_succ]
      refine wpAnyH_take (i := 1) (oi := ⟨some 136, _, _, _, _, _⟩) (v := .pointer (some ⟨G, 1, none⟩)) rfl (by kernel_rfl) (by kernel_rfl) (by kernel_rfl) (fun _ _ _ h => h) (Or.inl ⟨by rfl, fun wq hSw => ?_⟩) (by assumption) ?_
      · (obtain ⟨s1, s3⟩ := hSw; go_simp)
      simp only [Act.put, List.setIfInBounds_toArray, List.set_cons_zero, List.set_cons_succ]
      refine wpAnyH_take (i := 2) (oi := ⟨some 137, _, _, _, _, _⟩) (v := .int .i64 s.n) rfl (by kernel_rfl) (by kernel_rfl) (by kernel_rfl) (fun _ _ _ h => h) (Or.inl ⟨by rfl, fun wq hSw => ?_⟩) (by assumption) ?_
      · (obtain ⟨s1, s3⟩ := hSw; go_simp)
      simp only [Act.put, List.setIfInBounds_toArray, List.set_cons_zero, List.set_cons_succ]
      refine wpAnyH_take (i := 3) (oi := ⟨some 138, _, _, _, _, _⟩) (v := .int .i64 (N : Int)) rfl (by kernel_rfl) (by kernel_rfl) (by kernel_rfl) (fun _ _ _ h => h) (Or.inl ⟨by rfl, fun wq hSw => ?_⟩) (by assumption) ?_
      · (obtain ⟨s1, s3⟩ := hSw; go_simp)
      simp only [Act.put, List.setIfInBounds_toArray, List.set_cons_zero, List.set_cons_succ]
      refine wpAnyH_take (i := 4) (oi := ⟨some 139, _, _, _, _, _⟩) (v := .int .i64 (O : Int)) rfl (by kernel_rfl) (by kernel_rfl) (by kernel_rfl) (fun _ _ _ h => h) (Or.inl ⟨by rfl, fun wq hSw => ?_⟩) (by assumption) ?_
      · (obtain ⟨s1, s3⟩ := hSw; go_simp)
      simp only [Act.put, List.setIfInBounds_toArray, List.set_cons_zero, List.set_cons_succ]
      refine wpAnyH_take (i := 5) (oi := ⟨some 140, _, _, _, _, _⟩) (v := .int .i64 ((N : Int) + (O : Int))) rfl (by kernel_rfl) (by kernel_rfl) (by kernel_rfl) (fun _ _ _ h => h) (Or.inl ⟨by rfl, fun wq hSw => ?_⟩) (by assumption) ?_
      · (obtain ⟨s1, s3⟩ := hSw; go_simp)
      simp only [Act.put, List.setIfInBounds_toArray, List.set_cons_zero, List.set_cons_succ]
      refine wpAnyH_take (i := 6) (oi := ⟨some 141, _, _, _, _, _⟩) (v := .int .i64 (M : Int)) rfl (by kernel_rfl) (by kernel_rfl) (by kernel_rfl) (fun _ _ _ h => h) (Or.inl ⟨by rfl, fun wq hSw => ?_⟩) (by assumption) ?_
      · (obtain ⟨s1, s3⟩ := hSw; go_simp)
      simp only [Act.put, List.setIfInBounds_toArray, List.set_cons_zero, List.set_cons_succ]
      refine wpAnyH_take (i := 8) (oi := ⟨some 143, _, _, _, _, _⟩) (v := .agg (secCells b4)) rfl (by kernel_rfl) (by kernel_rfl) (by kernel_rfl) (fun _ _ _ h => h) (Lf.yields_sec (by rfl) (.tmp 17) rfl K rfl b4 (fun wq hSw => hSw.2)) (by assumption) ?_
      simp only [Act.put, List.setIfInBounds_toArray, List.set_cons_zero, List.set_cons_succ]
      refine wpAnyH_take (i := 10) (oi := ⟨some 145, _, _, _, _, _⟩) (v := .pointer (some ⟨p.x, 0, none⟩)) rfl (by kernel_rfl) (by kernel_rfl) (by kernel_rfl) (fun _ _ _ h => h) (Or.inl ⟨by rfl, fun wq hSw => ?_⟩) (by assumption) ?_
      · (obtain ⟨s1, s3⟩ := hSw; go_simp)
      simp only [Act.put, List.setIfInBounds_toArray, List.set_cons_zero, List.set_cons_succ]
      refine wpAnyH_take (i := 11) (oi := ⟨some 146, _, _, _, _, _⟩) (v := .pointer (some ⟨G, 1, none⟩)) rfl (by kernel_rfl) (by kernel_rfl) (by kernel_rfl) (fun _ _ _ h => h) (Or.inl ⟨by rfl, fun wq hSw => ?_⟩) (by assumption) ?_
      · (obtain ⟨s1, s3⟩ := hSw; go_simp)
      simp only [Act.put, List.setIfInBounds_toArray, List.set_cons_zero, List.set_cons_succ]
      refine wpAnyH_take (i := 12) (oi := ⟨some 147, _, _, _, _, _⟩) (v := .int .i64 s.n) rfl (by kernel_rfl) (by kernel_rfl) (by kernel_rfl) (fun _ _ _ h => h) (Or.inl ⟨by rfl, fun wq hSw => ?_⟩) (by assumption) ?_
      · (obtain ⟨s1, s3⟩ := hSw; go_simp)
      simp only [Act.put, List.setIfInBounds_toArray, List.set_cons_zero, List.set_cons_succ]
      refine wpAnyH_take (i := 13) (oi := ⟨some 148, _, _, _, _, _⟩) (v := .int .i64 (N : Int)) rfl (by kernel_rfl) (by kernel_rfl) (by kernel_rfl) (fun _ _ _ h => h) (Or.inl ⟨by rfl, fun wq hSw => ?_⟩) (by assumption) ?_
      · (obtain ⟨s1, s3⟩ := hSw; go_simp)
      simp only [Act.put, List.setIfInBounds_toArray, List.set_cons_zero, List.set_cons_succ]
      refine wpAnyH_take (i := 14) (oi := ⟨some 149, _, _, _, _, _⟩) (v := .int .i64 (O : Int)) rfl (by kernel_rfl) (by kernel_rfl) (by kernel_rfl) (fun _ _ _ h => h) (Or.inl ⟨by rfl, fun wq hSw => ?_⟩) (by assumption) ?_
      · (obtain ⟨s1, s3⟩ := hSw; go_simp)
      simp only [Act.put, List.setIfInBounds_toArray, List.set_cons_zero, List.set_cons_succ]
      refine wpAnyH_take (i := 15) (oi := ⟨some 150, _, _, _, _, _⟩) (v := .int .i64 ((N : Int) + (O : Int))) rfl (by kernel_rfl) (by kernel_rfl) (by kernel_rfl) (fun _ _ _ h => h) (Or.inl ⟨by rfl, fun wq hSw => ?_⟩) (by assumption) ?_
      · (obtain ⟨s1, s3⟩ := hSw; go_simp)
      simp only [Act.put, List.setIfInBounds_toArray, List.set_cons_zero, List.set_cons_succ]
      refine wpAnyH_take (i := 16) (oi := ⟨some 151, _, _, _, _, _⟩) (v := .int .i64 (M : Int)) rfl (by kernel_rfl) (by kernel_rfl) (by kernel_rfl) (fun _ _ _ h => h) (Or.inl ⟨by rfl, fun wq hSw => ?_⟩) (by assumption) ?_
      · (obtain ⟨s1, s3⟩ := hSw; go_simp)
      simp only [Act.put, List.setIfInBounds_toArray, List.set_cons_zero, List.set_cons_succ]
      refine wpAnyH_take (i := 18) (oi := ⟨some 153, _, _, _, _, _⟩) (v := .agg (secCells b4)) rfl (by kernel_rfl) (by kernel_rfl) (by kernel_rfl) (fun _ _ _ h => h) (Lf.yields_sec (by rfl) (.tmp 17) rfl K rfl b4 (fun wq hSw => hSw.2)) (by assumption) ?_
      simp only [Act.put, List.setIfInBounds_toArray, List.set_cons_zero, List.set_cons_succ]
      have HH := Lib.hid hHeld
      clear hHeld hf1
      refine wpAnyH_ready (rs := [7]) (by kernel_rfl) (by simp) ?_
      refine AllReadyH.cons (o := ⟨some 142, _, _, _, _, _⟩) rfl (fun K2 hK => ?_) AllReadyH.nil
      go_simp
      refine (HMV.out _).mono ?_
      rintro r wz ⟨rfl, hw⟩
      rw [hw]
      clear hw wz
      go_wp2_with fail
      refine hK.out _ _ HH.out (fun hHeld => ?_)
      clear hK K2
      refine wpAnyH_ready (rs := [9]) (by kernel_rfl) (by simp) ?_
      refine AllReadyH.cons (o := ⟨some 144, _, _, _, _, _⟩) rfl (fun K2 hK => ?_) AllReadyH.nil
      go_simp
      have hQ4 := HQ4.out.later (Below.refl _ _).drew
      have HLW := Lib.hid hQ4.low
      have HLG : Hid (W1.heap.size = K ∧ ∀ k, k < W1.heap.size → k < K) := Lib.hid ⟨HZ3.out.2, fun k hk => by have := HZ3.out.2; omega⟩
      refine (q_write hQ4 (V : Int) b4 HSB.out.2 HD0.out.1).mono ?_
      rintro r w6 ⟨rfl, hQ6, hO6⟩
      have HQ6 := Lib.hid (And.intro hQ6 hO6)
      clear hQ4 hQ6 hO6
      go_wp2_with fail
      have hS6 : w6.cell? ⟨G, 1, none⟩ = some (.int .i64 s.n) ∧ Sec w6 K b4 := ⟨(cell_box HQ6.out.1).2.1, HH.out.2.1, Mv.blk_only HH.out.2.2 HQ6.out.2 (fun hs => by have := HQ.out.low.1 K (.inl hs); have := HZ3.out.2; omega)⟩
      have HS6 := Lib.hid hS6
      refine hK.out _ _ hS6 (fun hHeld => ?_)
      clear hK K2 hS6 hHeld
      refine wpAnyH_ready (rs := [17]) (by kernel_rfl) (by simp) ?_
      refine AllReadyH.cons (o := ⟨some 152, _, _, _, _, _⟩) rfl (fun K2 hK => ?_) AllReadyH.nil
      go_simp
      refine (HMV.out _).mono ?_
      rintro r wz ⟨rfl, hw⟩
      rw [hw]
      clear hw wz
      go_wp2_with fail
      refine hK.out _ _ HS6.out (fun hHeld => ?_)
      clear hK K2
      refine wpAnyH_ready (rs := [19]) (by kernel_rfl) (by simp) ?_
      refine AllReadyH.cons (o := ⟨some 154, _, _, _, _, _⟩) rfl (fun K2 hK => ?_) AllReadyH.nil
      go_simp
      refine (q_rwrite HQ6.out.1 (V : Int) b4 HSB.out.2 HD0.out.1).mono ?_
      rintro r w7 ⟨rfl, hQ7, hO7⟩
      have hS7 : w7.cell? ⟨G, 1, none⟩ = some (.int .i64 s.n) ∧ Sec w7 K b4 := ⟨(cell_box hQ7).2.1, HS6.out.2.1, Mv.blk_only HS6.out.2.2 hO7 (fun hs => by have := HQ.out.low.2 K (.inl hs); have := HZ3.out.2; omega)⟩
      have HQ7' := Lib.hid hQ7
      clear hQ7 hO7
      go_wp2_with fail
      refine hK.out _ _ hS7 (fun hHeld => ?_)
      clear hK K2 hS7
      refine wpAnyH_take (i := 20) (oi := ⟨some 155, _, _, _, _, _⟩) (v := .bool false) rfl (by kernel_rfl) (by kernel_rfl) (by kernel_rfl) (fun _ _ _ h => h) (Or.inl ⟨by rfl, fun wq hSw => ?_⟩) (by assumption) ?_
      · (go_simp)
      simp only [Act.put, List.setIfInBounds_toArray, List.set_cons_zero, List.set_cons_succ]
      refine wpAnyH_done (by kernel_rfl) ?_ _
      unfold Exit.then
      dsimp only
      have hwn := (writeD_na d (V : Int) b4).1
      have h7 := HQ7'.out
      clear HQ7' hHeld
      generalize writeD d (V : Int) b4 = dw at *
      have HQ7 := Lib.hid h7
      have HDW : Hid (0 < dw.n ∧ dw.n = M) := Lib.hid (by rw [hwn]; exact HD0.out)
      clear h7 hwn HQ6 HS6 HH HSB HQ4 HQ hnn hw1 hw2 HHX HLW HLG HG4
      go_wp2_with fail
      go_at_call 21
      obtain ⟨f0, f1, f2, f3⟩ := cell_box HQ7.out
      go_wp2_with fail
      refine (q_start HQ7.out HDW.out.1).mono ?_
      rintro r w8 ⟨rfl, h8⟩
      have HQ8 := Lib.hid h8
      clear h8 f0 f1 f2 f3
      obtain ⟨f0, f1, f2, f3⟩ := cell_box HQ8.out
      go_wp2_with fail
      refine (q_rstart HQ8.out HDW.out.1).mono ?_
      rintro r w9 ⟨rfl, h9⟩
      have hsn := Jr.startD_n dw
      generalize startD dw = ds at *
      have HQ9 := Lib.hid h9
      have HDS : Hid (ds.n = M ∧ ds.off = false) := Lib.hid ⟨hsn.1.trans HDW.out.2, hsn.2.2⟩
      clear h9 f0 f1 f2 f3 hsn HQ8
      obtain ⟨f0, f1, f2, f3⟩ := cell_box HQ9.out
      obtain ⟨E', hE'⟩ : ∃ E', E + 1 = E' := ⟨_, rfl⟩
      have hu1 : IntKind.u32.wrap ((E : Int) + 1) = (E' : Int) := by rw [IntWalk.u32_in _ (by omega)]; omega
      have HE : Hid (E + 1 = E') := Lib.hid hE'
      have HNE := Lib.hid (new_is (d := ds) (o := O) (n := N) (e := E') (by rw [HDS.out.1]; have := HNM.out; omega) (by have := HNM.out; omega) (by omega) HDS.out.2)
      have hE32 : E' < 2 ^ 32 := by omega
      clear hE'
      go_wp2_with (first | (go_at_call 9; (with_reducible refine (HMK.out _).mono ?_); rintro r wz ⟨rfl, hw⟩; rw [hw]; clear hw wz))
      refine (q_open HQ9.out O N E' hE32 HNE.out).mono ?_
      rintro r w10 ⟨x', A', rfl, h10⟩
      have HQ10 := Lib.hid h10
      clear h10 f0 f1 f2 f3 hu1 HQ9
      go_wp2_with fail
      refine (q_ropen HQ10.out O N E' hE32 HNE.out).mono ?_
      rintro r w11 ⟨y', A2', rfl, h11⟩
      have HQ11 := Lib.hid h11
      clear h11 HQ10
      go_wp2_with fail
      refine (alike_any HQ11.out).mono ?_
      rintro r wl ⟨rfl, kl⟩
      have HEND := Lib.hid (HQ11.out.keep kl)
      clear kl
      go_wp2_with fail
      exact ⟨⟨i + 1, E', x', y', A', A2', ds, openJ ds O N E', by go_num, rfl, rfl, rfl, by omega, by omega, by have := HE.out; omega, by have := HE.out; omega, HDS.out.1, HEND.out⟩, by simp [intOf]; omega⟩
    · have b3 : ((T : Int) == 3) = false := beq_eq_false_iff_ne.2 (by omega)
      have b4 : ((T : Int) == 4) = false := beq_eq_false_iff_ne.2 (by omega)
      have b5 : ((T : Int) == 5) = false := beq_eq_false_iff_ne.2 (by omega)
      have b6 : ((T : Int) == 6) = false := beq_eq_false_iff_ne.2 (by omega)
      have HBW : Hid (∀ u, Below w.heap.size w u → Bys u u.heap.size s.Ab s.b.length s.b) := Lib.hid (fun u hu => (HOK.out.bys.below hu (Nat.le_refl _)).more hu.size)
      have HOW := Lib.hid (Hy.own_byte s.Ab s.b.length s.cb (By.at_ s.b) 71 W1 (Hy.Ints.of (HBW.out W1 HQ.out.below)) HOK.out.none (by have := HSM.out; omega))
      have sb3 : (s.b.length : Int) ≤ 300 := by have := HSM.out; omega
      clear hT7 hT3
      go_upto_region 17 with (first | (go_at_call 9; (with_reducible refine (HMK.out _).mono ?_); rintro r wz ⟨rfl, hw⟩; rw [hw]; clear hw wz) | (go_at_call 25; (with_reducible refine HOW.out.mono ?_); rintro r w6 ⟨gi, rfl, hgi, hfi, k6⟩))
      have k6d := k6.drew
      have hQ6 := HQ.out.later k6d
      have HFI := Lib.hid (And.intro hgi (show Hy.Filled w6.drew gi s.b.length (By.at_ s.b) 71 from hfi))
      have hbi : Bys w6.drew w6.drew.heap.size (some ⟨gi, 0, none⟩) s.b.length s.b := Hy.Ints.bys (Hy.Filled.ints HFI.out.2) rfl
      have HLOW := Lib.hid HQ.out.low
      have HA := Lib.hid (q_add (cb := s.b.length + 3) hQ6 hbi (by omega) (by have := HSM.out; omega) (fun a ha hh => by
        injection ha with ha
        subst ha
        have := HLOW.out.1 gi (.inl hh)
        omega) (by have := HSM.out; omega))
      have HRA : Hid (∀ (u : World) (A' : Option Addr), Quad w u G s.cells q p x y A' A2 (addDS d j s.b) (addJ d j s.b) d j → Calls Try.prog 27 #[.pointer (some ⟨y, 0, none⟩), .slice s.Ab s.b.length s.cb] u fun e w' => e = .returned (.int .i64 (addE d j s.b)) ∧ ∃ A2', Quad w w' G s.cells q p x y A' A2' (addDS d j s.b) (addJ d j s.b) (addDS d j s.b) (addJ d j s.b) ∧ Only u w' (fun i => p.has i ∨ JHas y A2 i)) := Lib.hid (fun u A' hq => q_radd hq (HBW.out u hq.below) HOK.out.bc HOK.out.cb (fun a ha hn => by
        obtain ⟨z, hz⟩ : ∃ z, s.b[0]? = some z := ⟨_, List.getElem?_eq_getElem (by omega)⟩
        obtain ⟨bb, oo, h1, h2, _⟩ := HOK.out.bys.cell 0 z hz
        rw [ha] at h1
        injection h1 with h1
        rw [h1]
        exact h2) (by have := HSM.out; omega))
      have HKE : Hid (∀ (w7 w8 : World) (A' A2' : Option Addr) (d1 d2 : DS) (j1 j2 : JS), Only w6.drew w7 (fun i => q.has i ∨ JHas x A i) → Only w7 w8 (fun i => p.has i ∨ JHas y A2 i) → Quad w w8 G s.cells q p x y A' A2' d1 j1 d2 j2 → Calls Try.prog 28 #[.slice (some ⟨gi, 0, none⟩) s.b.length (s.b.length + 3), .slice s.Ab s.b.length s.cb, .int .u8 71] w8 fun e w' => e = .returned (.bool true) ∧ Hl.Drawn w8 w') := Lib.hid (fun w7 w8 A' A2' d1 d2 j1 j2 h7 h8 hq => Hy.kept_byte s.Ab gi s.b.length s.cb (By.at_ s.b) 71 w8 (fun k hk => by
          have hc := HFI.out.2 k hk
          have hgl : gi < w6.drew.heap.size := World.block_lt_of_cell? _ _ hc
          rw [h8.cell (by have := h7.size; omega) (fun hs => by have := HLOW.out.2 gi hs; have := HFI.out.1; omega), h7.cell hgl (fun hs => by have := HLOW.out.1 gi hs; have := HFI.out.1; omega)]
          exact hc) (Hy.Ints.of (HBW.out w8 hq.below)) (by have := HSM.out; omega))
      have hnn : (addE d j s.b != addE d j s.b) = false := bne_self_eq_false _
      have f2' := (cell_box hQ6).2.2.1
      clear f0 f1 f2 f3 hgi hfi k6 k6d hbi hQ6
      have f2 : w6.cell? ⟨G, 2, none⟩ = some (.slice s.Ab s.b.length s.cb) := f2'
      go_region_held3 (fun u => u.cell? ⟨G, 2, none⟩ = some (.slice s.Ab s.b.length s.cb))
        (first
          | exact f2'
          | exact (cell_box hQ8).2.2.1
          | exact (cell_box hQ7).2.2.1
          | assumption
          | (obtain ⟨dd, rfl⟩ := hd9; exact (cell_box hQ8).2.2.1))
        (first
          | (go_at_call 26; ((with_reducible refine HA.out.mono ?_); rintro r w7 ⟨rfl, A', hQ7, hO7⟩))
          | (go_at_call 27; ((with_reducible refine (HRA.out w7 A' hQ7).mono ?_); rintro r w8 ⟨rfl, A2', hQ8, hO8⟩))
          | (go_at_call 28; ((with_reducible refine (HKE.out w7 w8 A' A2' _ _ _ _ hO7 hO8 hQ8).mono ?_); rintro r w9 ⟨rfl, hd9⟩)))
      all_goals
        unfold Exit.then
        dsimp only
        have HQ8 := Lib.hid (hQ8.later (hd9.below _))
        clear hQ7 hQ8 hO7 hO8 hd9 HA HRA HKE HOW HFI f2 f2'
        go_wp2_with fail
        refine (alike_any HQ8.out).mono ?_
        rintro r wl ⟨rfl, kl⟩
        have HEND := Lib.hid (HQ8.out.keep kl)
        clear kl
        go_wp2_with fail
        exact ⟨⟨i + 1, E, x, y, A', A2', addDS d j s.b, addJ d j s.b, by go_num, rfl, rfl, rfl, by omega, by omega, by omega, by omega, (Jr.addDS_n _ _ _).1.trans HD0.out.2, HEND.out⟩, by simp [intOf]; omega⟩

set_option maxRecDepth 100000 in
theorem lifted (os : Os) (started : os.Started) (H : Type) (enc : TypeId × Value → H) :
    ReturnsInHanded {} Try.checked os 3 .any (Rows.journalPlaysSpec.pre6 enc Try.prog Try.f3 Rows.journalPlaysRow.domain false) (Rows.journalPlaysSpec.post enc Try.prog Try.f3 false true false false) := by
  refine returnsInHanded_of_change (C := Try.checked) own started (by kernel_rfl) Try.func3
    (ChangeSpec.witness6 (enc := enc) (C := Try.checked) false ⟨#[], #[.int .i64 0, .int .i64 0, .slice none 0 0], []⟩ 8 (by kernel_rfl) (by kernel_rfl) (by kernel_rfl) (by kernel_rfl)) ?_
  intro W base args ds gs before hval0 hW hcnd _
  have hval : ∀ (j : Nat) t v, Try.f3.params[j]? = some t → args[j]? = some v → Value.okWide Try.prog W .any base t v := hval0
  have hW' := hW
  obtain ⟨p, q, hA0, hV, rfl, hfz, hnd⟩ := hW
  have hA : DataW.TrodAll enc Try.prog W 0 (fun _ => true) true Try.f3.params.toList args.toList ds p := hA0
  rw [Try.params3] at hA hval
  obtain ⟨v0, vs0, d0, ds0, p0, q0, hargs, rfl, rfl, h0, r0⟩ := trodAll_cons hA
  obtain ⟨v1, vs1, d1, ds1, p1, q1, rfl, rfl, rfl, h1, r1⟩ := trodAll_cons r0
  obtain ⟨v2, vs2, d2, ds2, p2, q2, rfl, rfl, rfl, h2, r2⟩ := trodAll_cons r1
  obtain ⟨rfl, rfl, rfl⟩ := trodAll_nil r2
  obtain rfl : args = #[v0, v1, v2] := by cases args; simp_all
  obtain ⟨a0, rfl, _, _, w0⟩ := open_int Try.underlying3 (hval 0 3 v0 rfl rfl) h0
  obtain ⟨a1, rfl, _, _, w1⟩ := open_int Try.underlying3 (hval 1 3 v1 rfl rfl) h1
  obtain ⟨A2, n2, c2, o2, rfl, x2, y2⟩ := Jp.open_oprs (hval 2 22 v2 rfl rfl) h2
  refine (walk W a0 w0 a1 w1 A2 n2 c2 o2 x2 y2).mono fun e W' ⟨he, hb⟩ => ?_
  subst he
  exact ⟨_, rfl, Hk.closeLaw (tb := 4) (by kernel_rfl) (by kernel_rfl) rfl rfl rfl Try.underlying4 hW' hb⟩

theorem over : Rows.journalPlaysRow.holds Try.pinned (OpenSpec.ofChange Rows.journalPlaysSpec) :=
  OpenClaim.holds_of_wide 3 Try.f3 rfl rfl rfl rfl rfl rfl rfl ⟨rfl, rfl, rfl, rfl, rfl⟩ rfl rfl rfl rfl rfl (by kernel_rfl) Try.func3 (by kernel_rfl)
    (of_decide_eq_true (by kernel_rfl)) (by unfold Func.isWrapper; first | (rw [if_pos (by decide +kernel)]; kernel_rfl) | (rw [if_neg (by decide +kernel)]; exact ⟨rfl, rfl⟩))
    (fun os started H enc _ => lifted os started H enc)

/-- The statement. -/
theorem proved : Rows.JournalPlaysSaid :=
  over
end Go.Proofs.Ytibadhoabobmpaa.journalPlays
