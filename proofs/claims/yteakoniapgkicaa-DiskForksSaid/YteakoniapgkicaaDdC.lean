/- The landed disk: settle, Sync, Crash, Start, Fork; of nil; all its contracts. -/
import Derived.Test.YteakoniapgkicaaDdW
import Derived.Deep.AppendLies
namespace Go.Proofs.Yteakoniapgkicaa.Dd
open Go.ChangeShapes Go.WideShapes Go.ChangeAt Go.RowKit
open Qu (Blk)
open Mv (Only)
open Se (All64 blanks Rows64 noughts noughts_len)
open By (cellsB cellsB_length cellsB_at)
open Dk (DS dsNew readE readV writeE writeD syncE syncD armD crashD startD secCells secCells_size size_sector Bools lies lies_of tick hitB crashN crashN_n crashN_at mixS mixS_len midD keeps keeps_le rank rank_le rank_yes rank_no new_sec zero_sec store_sec box_sec two_results info_sector info_bool below_then rows_on bools_on keep3_drew keep3_sec keep3_flag)
set_option linter.unusedVariables false

/-- The first bytes of a sector are copied, at a step of a region that draws. -/
theorem step_copy_sec {w : World} {ops : Array Oper} {o : Oper} {a : Act} {K : Act → World → Prop} {Q : Exit → Act → World → Prop} {E : Prop} (free : o.guard = none) (x y : Operand)
    (is : o.op = .call { callee := .builtin .copy, args := #[x, y], argTypes := #[40, 40] }) (b o1 c1 g o2 c2 m : Nat) (s : List UInt8) (vx : a.eval x = .slice (some ⟨b, o1, none⟩) m c1) (vy : a.eval y = .slice (some ⟨g, o2, none⟩) m c2)
    (hs : s.length = 64) (hm : m ≤ 64) (hr : w.rangeAt g o2 (cellsB s)) (ht : w.there b o1 64) (go : K (a.put o.dst (goInt m)) (w.setCells b o1 (cellsB (s.take m)))) :
    if Region.wanted o (yielded ops a.tmps) = true then Oper.wp Try.prog o a w K Q else E := by
  have hw : Region.wanted o (yielded ops a.tmps) = true := by simp [Region.wanted, free]
  rw [if_pos hw]
  have hl : (cellsB (s.take m)).length = m := by rw [cellsB_length, List.length_take]; omega
  have hrun := run_copy_cells (P := Try.prog) w 40 40 o.type 5 b o1 m c1 ⟨g, o2, none⟩ m c2 (cellsB (s.take m)) Try.underlying40 (by kernel_rfl) (by rw [hl]; exact (Nat.min_self m).symm)
    (fun j v hj => by
      have e : (⟨g, o2, none⟩ : Addr).add j = ⟨g, o2 + j, none⟩ := by unfold Addr.add; split <;> simp_all
      rw [e]
      refine hr j v ?_
      rw [cellsB_at] at hj ⊢
      rw [List.getElem?_take] at hj
      split at hj
      · exact hj
      · cases hj)
    (fun j hj => (ht j (by omega)).1) (fun j hj => (ht j (by omega)).2) (By.cellsB_one _)
  rw [hl] at hrun
  unfold Oper.wp
  simp [execOp, is, resolve, invoke, builtin, vx, vy, hrun, Result.andThen]
  exact go

/-- What a region that copies the first bytes of a sector finds. -/
theorem keepC_drew {w : World} {x f1 f2 s t k : Nat} {A0 A1 : Value} {b : List UInt8}
    (h : w.cell? ⟨x, f1, none⟩ = some A0 ∧ w.cell? ⟨x, f2, none⟩ = some A1 ∧ w.rangeAt s (k * 64) (cellsB b) ∧ w.there t (k * 64) 64) :
    w.drew.cell? ⟨x, f1, none⟩ = some A0 ∧ w.drew.cell? ⟨x, f2, none⟩ = some A1 ∧ w.drew.rangeAt s (k * 64) (cellsB b) ∧ w.drew.there t (k * 64) 64 := h

theorem keepC_copy {w : World} {x f1 f2 s t k : Nat} {A0 A1 : Value} {b : List UInt8} (vs : List Value) (h1 : x ≠ t) (h3 : s ≠ t)
    (h : w.cell? ⟨x, f1, none⟩ = some A0 ∧ w.cell? ⟨x, f2, none⟩ = some A1 ∧ w.rangeAt s (k * 64) (cellsB b) ∧ w.there t (k * 64) 64) :
    (w.setCells t (k * 64) vs).cell? ⟨x, f1, none⟩ = some A0 ∧ (w.setCells t (k * 64) vs).cell? ⟨x, f2, none⟩ = some A1 ∧ (w.setCells t (k * 64) vs).rangeAt s (k * 64) (cellsB b) ∧ (w.setCells t (k * 64) vs).there t (k * 64) 64 := by
  obtain ⟨q0, q1, q3, q4⟩ := h
  have e : ∀ y : Addr, y.block ≠ t → (w.setCells t (k * 64) vs).cell? y = w.cell? y := fun y hy => World.cell?_setCells_out t vs (k * 64) w y (fun e => absurd e hy)
  exact ⟨(e _ h1).trans q0, (e _ h1).trans q1, World.rangeAt_setCells_apart q3 _ _ _ (.inl h3), World.there_setCells q4 _ _ _⟩

set_option maxRecDepth 100000 in
set_option maxHeartbeats 4000000 in
theorem settle_any (w : World) (B : Nat) (q : Pl) (d : DS) (A : Option Addr) (kn c : Nat) (kf : Nat → Int) (h : Lay w B q d) (hA : Hl.Ints w w.heap.size A kn kf) (hd : ∀ a, A = some a → kn ≠ 0 → ¬ q.has a.block) (hk : kn ≤ 1000000) (hkf : ∀ k, k < kn → -9223372036854775808 ≤ kf k ∧ kf k ≤ 9223372036854775807) (n0 : 0 < d.n) (hn : d.n ≤ 1000000) :
    Calls Try.prog 35 #[.pointer (some ⟨q.x, 0, none⟩), .slice A kn c] w fun e w' => e = .returned (.tuple #[]) ∧ Lay w' B q (crashN d kn kf d.n) ∧ Only w w' q.has := by
  have c1 := h.box.cell 1
  simp at c1
  have HL := Lib.hid (len_eq w q.x _ d.n _ c1 hn)
  have HR0 := Lib.hid h
  have HI := Lib.hid hA
  have HD := Lib.hid hd
  have HF := Lib.hid hkf
  have HK := Lib.hid h.ok
  clear h hA hd hkf c1
  go_enter Try.func35, Try.ntmps35
  go_wp2_with (first | (refine HL.out.mono ?_; rintro e w1 ⟨rfl, rfl⟩))
  go_loopw [4, 9] (fun s4 s9 wr => ∃ i : Nat, s9 = .int .i64 (i : Int) ∧ i ≤ d.n ∧ s4 = .int .i64 (rank d.loose i : Int) ∧ Lay wr B q (crashN d kn kf i) ∧ Only w wr q.has) (fun _ s9 _ => d.n - (intOf s9).toNat)
  case atStart => exact ⟨0, rfl, by omega, rfl, HR0.out, Mv.Only.refl _ _⟩
  case round =>
    obtain ⟨i, rfl, hi, rfl, hR, hO⟩ := hrel
    have en2 : (crashN d kn kf i).n = d.n := crashN_n kn kf i
    have i0 : (0 : Int) ≤ (i : Int) := by omega
    have n1 : (d.n : Int) ≤ 1000000 := by omega
    have hrk := rank_le d.loose i
    have HR := Lib.hid hR
    have HO := Lib.hid hO
    have HN := Lib.hid en2
    by_cases hlt : i < d.n
    · have c0 := hR.box.cell 0
      have c1 := hR.box.cell 1
      have c2 := hR.box.cell 2
      simp at c0 c1 c2
      rw [en2] at c0 c1 c2
      have i1 : (i : Int) < (d.n : Int) := by omega
      have i2 : decide (i < d.n) = true := by simp; omega
      have c5 := hR.flag (k := i) (by rw [en2]; exact hlt)
      have hl2 : (crashN d kn kf i).loose.getD i false = d.loose.getD i false := by rw [List.getD, List.getD, (crashN_at (d := d) kn kf i i (Nat.le_refl _)).2.2]
      rw [hl2] at c5
      have HI2 : Hid (Hl.Ints wr w.heap.size A kn kf) := Lib.hid (fun k hk => by
        obtain ⟨g, o, hA, hg, hc⟩ := HI.out k hk
        exact ⟨g, o, hA, hg, (hO.cell hg (HD.out ⟨g, o, none⟩ hA (by omega))).trans hc⟩)
      clear hR en2 hl2 hO
      cases hfl : d.loose.getD i false with
      | false =>
        rw [hfl] at c5
        have HS : Hid (rank d.loose (i + 1) = rank d.loose i ∧ crashN d kn kf (i + 1) = crashN d kn kf i) := Lib.hid ⟨rank_no hfl, by rw [crashN, hfl, if_neg (by simp)]⟩
        clear hfl
        go_wp2_with fail
        go_roundw
        case rel => exact ⟨i + 1, by go_num, by omega, by rw [HS.out.1], by rw [HS.out.2]; exact HR.out, HO.out⟩
        case measure => simp [intOf]; omega
      | true =>
        rw [hfl] at c5
        have HS : Hid (rank d.loose (i + 1) = rank d.loose i + 1 ∧ d.loose.getD i false = true) := Lib.hid ⟨rank_yes hfl, hfl⟩
        clear hfl
        have HKp := Lib.hid (kept_any wr A kn c w.heap.size kf (rank d.loose i) HI2.out hk HF.out (by omega))
        obtain ⟨m, hm⟩ : ∃ m, keeps kn kf (rank d.loose i) = m := ⟨_, rfl⟩
        have hm64 : m ≤ 64 := by rw [← hm]; exact keeps_le _ _ _
        have HM := Lib.hid hm
        rw [hm] at HKp
        have r0 : (0 : Int) ≤ (rank d.loose i : Int) := by omega
        have r1 : (rank d.loose i : Int) ≤ 1000000 := by omega
        have m0 : (0 : Int) ≤ (m : Int) := by omega
        have m1 : (m : Int) ≤ 64 := by omega
        obtain ⟨s, hs⟩ : ∃ s, d.now[i]? = some s := ⟨_, List.getElem?_eq_getElem hlt⟩
        have hs64 : s.length = 64 := HK.out.now.at hs
        have q3 : wr.rangeAt q.a (i * 64) (cellsB s) := HR.out.now.range (by rw [(crashN_at (d := d) kn kf i i (Nat.le_refl _)).1]; exact hs)
        have q4 : wr.there q.b (i * 64) 64 := HR.out.sure.there (Nat.lt_of_lt_of_eq hlt HN.out.symm)
        have HA := Lib.hid (HR.out.apart (by rw [HN.out]; exact n0))
        have HNE := Lib.hid HR.out.ne
        have HW : Hid (Lay (wr.drew.setCells q.b (i * 64) (cellsB (s.take m))) B q (midD d kn kf i m) ∧ Only w (wr.drew.setCells q.b (i * 64) (cellsB (s.take m))) q.has) := Lib.hid (by
          obtain ⟨o1, o2⟩ := midD_part HK.out n0 hlt hs hm64 HR.out.drew
          exact ⟨o1, HO.out.drew.trans o2 fun i _ h => h⟩)
        clear hm hs
        go_wp2_with (first | (refine HKp.out.mono ?_; rintro e w1 ⟨rfl, rfl⟩))
        go_region_held3 (fun w' => w'.cell? ⟨q.x, 0, none⟩ = some (.slice (some ⟨q.b, 0, none⟩) d.n q.cb) ∧ w'.cell? ⟨q.x, 1, none⟩ = some (.slice (some ⟨q.a, 0, none⟩) d.n q.ca) ∧ w'.rangeAt q.a (i * 64) (cellsB s) ∧ w'.there q.b (i * 64) 64)
          (first
            | assumption
            | (go_split_ands; exact keepC_drew ⟨by assumption, by assumption, by assumption, by assumption⟩)
            | (go_split_ands; exact keepC_copy _ HA.out.2.1 HNE.out ⟨by assumption, by assumption, by assumption, by assumption⟩))
          (first
            | ((refine step_copy_sec (o := ⟨some 39, _, _, _, _, _⟩) rfl _ _ rfl q.b (i * 64) 64 q.a (i * 64) 64 m s ?_ ?_ hs64 hm64 ?_ ?_ ?_); (next => rfl); (next => rfl); (next => (go_split_ands; assumption)); (next => (go_split_ands; assumption))))
        unfold Exit.then
        dsimp only
        clear q3 q4 c0 c1 c2 c5
        generalize wr.drew.setCells q.b (i * 64) (cellsB (s.take m)) = wx at *
        obtain ⟨b, hb⟩ : ∃ b, mixS d kn kf i = b := ⟨_, rfl⟩
        have hb64 : b.length = 64 := by rw [← hb]; exact mixS_len kn kf HK.out hlt
        have hR2 : Lay wx B q (midD d kn kf i (keeps kn kf (rank d.loose i))) := by rw [HM.out]; exact HW.out.1
        have hn2 : (midD d kn kf i (keeps kn kf (rank d.loose i))).n = d.n := crashN_n kn kf i
        have hsu : (midD d kn kf i (keeps kn kf (rank d.loose i))).sure[i]? = some b := by
          show ((crashN d kn kf i).sure.set i _)[i]? = _
          rw [List.getElem?_set_self (by have := (Dk.crashN_len (d := d) kn kf i).2.1; have := HK.out.len; have e : d.now.length = d.n := rfl; omega), ← hb]
          rfl
        have c0 := hR2.box.cell 0
        have c1 := hR2.box.cell 1
        have c2 := hR2.box.cell 2
        simp at c0 c1 c2
        rw [hn2] at c0 c1 c2
        have q3 : wx.rangeAt q.b (i * 64) (cellsB b) := hR2.sure.range hsu
        have q4 : wx.there q.a (i * 64) 64 := hR2.now.there (Nat.lt_of_lt_of_eq hlt hn2.symm)
        have q5 : wx.cell? ⟨q.c, i, none⟩ = some (lies wx ⟨q.c, i, none⟩) := lies_of (hR2.flag (Nat.lt_of_lt_of_eq hlt hn2.symm))
        have q6 := hR2.loose.frozenAt i
        have hu : Try.prog.underlying 42 = some (.array 64 5) := Try.underlying42
        have hcl : (cellsB b).length = 64 := by rw [cellsB_length, hb64]
        have hii : (Try.prog.info? 42).map (·.size) = some (cellsB b).length := by rw [size_sector, hcl]
        have hone : ∀ v ∈ cellsB b, v.oneCell' = true := By.cellsB_one b
        have HX : Hid (Lay ((wx.drew.setCells q.a (i * 64) (cellsB b)).setCell ⟨q.c, i, none⟩ (.bool false)) B q (crashN d kn kf (i + 1)) ∧ Only w ((wx.drew.setCells q.a (i * 64) (cellsB b)).setCell ⟨q.c, i, none⟩ (.bool false)) q.has) := Lib.hid (by
          obtain ⟨o1, o2⟩ := midD_done HK.out n0 hlt HS.out.2 hR2.drew
          rw [hb] at o1 o2
          exact ⟨o1, HW.out.2.drew.trans o2 fun i _ h => h⟩)
        clear hb hR2 hsu hb64 hn2
        go_wp2_with fail
        go_region_held3 (fun w' => w'.cell? ⟨q.x, 0, none⟩ = some (.slice (some ⟨q.b, 0, none⟩) d.n q.cb) ∧ w'.cell? ⟨q.x, 1, none⟩ = some (.slice (some ⟨q.a, 0, none⟩) d.n q.ca) ∧ w'.cell? ⟨q.x, 2, none⟩ = some (.slice (some ⟨q.c, 0, none⟩) d.n q.cc) ∧ w'.rangeAt q.b (i * 64) (cellsB b) ∧ w'.there q.a (i * 64) 64 ∧ w'.cell? ⟨q.c, i, none⟩ = some (lies w' ⟨q.c, i, none⟩) ∧ w'.frozen? ⟨q.c, i, none⟩ = false)
          (first
            | assumption
            | (go_split_ands; exact keep3_drew ⟨by assumption, by assumption, by assumption, by assumption, by assumption, by assumption, by assumption⟩)
            | (go_split_ands; exact keep3_sec _ HA.out.1 HA.out.2.2.2.1 (Ne.symm HNE.out) ⟨by assumption, by assumption, by assumption, by assumption, by assumption, by assumption, by assumption⟩)
            | (go_split_ands; exact keep3_flag _ HA.out.2.2.1 (Ne.symm HA.out.2.2.2.1) (Ne.symm HA.out.2.2.2.2) ⟨by assumption, by assumption, by assumption, by assumption, by assumption, by assumption, by assumption⟩))
          (fail)
        go_wp2
        go_roundw
        case rel => exact ⟨i + 1, by go_num, by omega, by rw [HS.out.1]; go_num, HX.out.1, HX.out.2⟩
        case measure => simp [intOf]; omega
    · have hin : i = d.n := by omega
      have i1 : ¬ (i : Int) < (d.n : Int) := by omega
      have i2 : decide (i < d.n) = false := by simp; omega
      have HE : Hid (Lay wr B q (crashN d kn kf d.n)) := Lib.hid (by subst hin; exact hR)
      clear hin hR en2 hO
      go_wp2_with fail
      go_end0
      exact ⟨rfl, HE.out, HO.out⟩

/-- A slice of one number, new. -/
theorem ints_one (W : World) (v : Int) : Hl.Ints (W.alloc (.cells #[.int .i64 v] 3)) (W.alloc (.cells #[.int .i64 v] 3)).heap.size (some ⟨W.heap.size, 0, none⟩) 1 (fun _ => v) := fun k hk => by
  obtain rfl : k = 0 := by omega
  exact ⟨W.heap.size, 0, rfl, by simp, (Qu.Blk.new W 3 #[.int .i64 v]).cell 0⟩

/-- All that is loose is made sure. -/
theorem settle_lay (w : World) (B : Nat) (q : Pl) (d : DS) (h : Lay w B q d) (n0 : 0 < d.n) (hn : d.n ≤ 1000000) :
    Calls Try.prog 35 #[.pointer (some ⟨q.x, 0, none⟩), .slice (some ⟨w.heap.size, 0, none⟩) 1 1] (w.alloc (.cells #[.int .i64 64] 3)) fun e w' => e = .returned (.tuple #[]) ∧ Lay w' B q (crashN d 1 (fun _ => 64) d.n) ∧ Only w w' q.has := by
  have hb : Below w.heap.size w (w.alloc (.cells #[.int .i64 64] 3)) := (Below.refl _ _).alloc (Nat.le_refl _) _
  have hq : ∀ k, q.has k → k < w.heap.size := fun k hk => by
    rcases hk with rfl | rfl | rfl | rfl
    · exact h.box.lt
    · exact (World.ownsRow.lt h.now.2 q.a rfl).2
    · exact (World.ownsRow.lt h.sure.2 q.b rfl).2
    · exact (World.ownsRow.lt h.loose q.c rfl).2
  refine (settle_any _ B q d (some ⟨w.heap.size, 0, none⟩) 1 1 (fun _ => 64) (h.below hb) (ints_one w 64) (fun a ha _ hh => ?_) (by omega) (fun k hk => by omega) n0 hn).mono ?_
  · injection ha with ha
    subst ha
    have := hq _ hh
    simp at this
  · rintro e w' ⟨rfl, h1, h2⟩
    exact ⟨rfl, h1, (Mv.Only.ofBelow hb q.has).trans h2 fun _ _ h => h⟩

theorem crash_lay (w : World) (B : Nat) (q : Pl) (d : DS) (A : Option Addr) (kn c : Nat) (kf : Nat → Int) (h : Lay w B q d) (hA : Hl.Ints w w.heap.size A kn kf) (hd : ∀ a, A = some a → kn ≠ 0 → ¬ q.has a.block) (hk : kn ≤ 1000000) (hkf : ∀ k, k < kn → -9223372036854775808 ≤ kf k ∧ kf k ≤ 9223372036854775807) (n0 : 0 < d.n) (hn : d.n ≤ 1000000) :
    Calls Try.prog 18 #[.pointer (some ⟨q.x, 0, none⟩), .slice A kn c] w fun e w' => e = .returned (.tuple #[]) ∧ Lay w' B q (crashD d kn kf) ∧ Only w w' q.has := by
  have HC := Lib.hid (settle_any w B q d A kn c kf h hA hd hk hkf n0 hn)
  have en : (crashN d kn kf d.n).n = d.n := crashN_n kn kf d.n
  clear h hA hd hkf
  go_enter Try.func18, Try.ntmps18
  go_wp2_with (first | (refine HC.out.mono ?_; rintro e w1 ⟨rfl, hr, ho⟩; have e3 := hr.box.cell 3; have e4 := hr.box.cell 4; have f3 := hr.box.frozen 3; have f4 := hr.box.frozen 4; simp at e3 e4; have HF : Hid (Lay ((w1.setCell ⟨q.x, 3, none⟩ (.bool true)).setCell ⟨q.x, 4, none⟩ (.int .i64 0)) B q (crashD d kn kf) ∧ Only w1 ((w1.setCell ⟨q.x, 3, none⟩ (.bool true)).setCell ⟨q.x, 4, none⟩ (.int .i64 0)) q.has) := Lib.hid (hr.setBox (d' := crashD d kn kf) (by rw [en]; exact n0) ((hr.box.put 3 (.bool true)).put 4 (.int .i64 0)) (((Mv.Only.refl w1 (Mv.one q.x)).put _ fun _ => rfl).put _ fun _ => rfl) rfl rfl rfl); have HO := Lib.hid ho; clear hr ho))
  go_end0
  exact ⟨rfl, HF.out.1, HO.out.trans HF.out.2 fun _ _ h => h⟩

theorem start_lay (w : World) (B : Nat) (q : Pl) (d : DS) (h : Lay w B q d) (n0 : 0 < d.n) (hn : d.n ≤ 1000000) :
    Calls Try.prog 19 #[.pointer (some ⟨q.x, 0, none⟩)] w fun e w' => e = .returned (.tuple #[]) ∧ Lay w' B q (startD d) ∧ Only w w' q.has := by
  have c3 := h.box.cell 3
  simp at c3
  have HDn := Lib.hid (down_eq w q.x d.off c3)
  cases ho : d.off with
  | false =>
    rw [ho] at HDn
    have HV : Hid (startD d = d) := Lib.hid (by unfold startD; rw [ho]; rfl)
    have HR := Lib.hid h
    clear h ho c3
    go_enter Try.func19, Try.ntmps19
    go_wp2_with (first | (refine HDn.out.mono ?_; rintro e w1 ⟨rfl, rfl⟩))
    refine bodyPost_ret (results_none rfl _ _ _) rfl ?_
    exact ⟨rfl, by rw [HV.out]; exact HR.out, Mv.Only.refl _ _⟩
  | true =>
    rw [ho] at HDn
    have HV : Hid (startD d = { crashD d 0 (fun _ => 0) with off := false }) := Lib.hid (by unfold startD; rw [ho]; rfl)
    have HC := Lib.hid (settle_any w B q d none 0 0 (fun _ => 0) h (Dk.ints_nil w _) (fun a h _ => by cases h) (by omega) (fun k hk => by omega) n0 hn)
    have en : (crashN d 0 (fun _ => 0) d.n).n = d.n := crashN_n 0 _ d.n
    clear h ho c3
    go_enter Try.func19, Try.ntmps19
    go_wp2_with (first | (refine HDn.out.mono ?_; rintro e w1 ⟨rfl, rfl⟩) | (refine HC.out.mono ?_; rintro e w1 ⟨rfl, hr, ho⟩; have e3 := hr.box.cell 3; have e4 := hr.box.cell 4; have f3 := hr.box.frozen 3; have f4 := hr.box.frozen 4; simp at e3 e4; have HF : Hid (Lay ((w1.setCell ⟨q.x, 3, none⟩ (.bool false)).setCell ⟨q.x, 4, none⟩ (.int .i64 0)) B q { crashD d 0 (fun _ => 0) with off := false } ∧ Only w1 ((w1.setCell ⟨q.x, 3, none⟩ (.bool false)).setCell ⟨q.x, 4, none⟩ (.int .i64 0)) q.has) := Lib.hid (hr.setBox (d' := { crashD d 0 (fun _ => 0) with off := false }) (by rw [en]; exact n0) ((hr.box.put 3 (.bool false)).put 4 (.int .i64 0)) (((Mv.Only.refl w1 (Mv.one q.x)).put _ fun _ => rfl).put _ fun _ => rfl) rfl rfl rfl); have HO := Lib.hid ho; clear hr ho))
    go_end0
    exact ⟨rfl, by rw [HV.out]; exact HF.out.1, HO.out.trans HF.out.2 fun _ _ h => h⟩

theorem sync_lay (w : World) (B : Nat) (q : Pl) (d : DS) (h : Lay w B q d) (ht : Tidy d) (n0 : 0 < d.n) (hn : d.n ≤ 1000000) (ha : d.armed ≤ 9223372036854775807) :
    Calls Try.prog 17 #[.pointer (some ⟨q.x, 0, none⟩)] w fun e w' => e = .returned (.int .i64 (syncE d)) ∧ Lay w' B q (syncD d) ∧ Only w w' q.has := by
  have c3 := h.box.cell 3
  simp at c3
  have HRf := Lib.hid (refused_any w q.x d.off c3)
  have HR := Lib.hid h
  cases ho : d.off with
  | true =>
    rw [ho] at HRf
    have HV : Hid (syncE d = 9 ∧ syncD d = d) := Lib.hid ⟨by unfold syncE; rw [ho]; rfl, by unfold syncD; rw [ho]; rfl⟩
    clear h ho c3
    go_enter Try.func17, Try.ntmps17
    go_wp2_with (first | (refine HRf.out.mono ?_; rintro e w1 ⟨rfl, rfl⟩))
    go_ret
    exact ⟨by rw [HV.out.1]; rfl, by rw [HV.out.2]; exact HR.out, Mv.Only.refl _ _⟩
  | false =>
    rw [ho] at HRf
    have HC := Lib.hid (count_any w B q d h ho n0 ha)
    cases hh : hitB d with
    | true =>
      have HV : Hid (syncE d = 9 ∧ syncD d = tick d) := Lib.hid ⟨by unfold syncE; rw [ho, hh]; rfl, by unfold syncD; rw [ho, hh]; rfl⟩
      have HH : Hid (countE d = 9) := Lib.hid (by unfold countE; rw [hh]; rfl)
      clear h ho c3 hh
      go_enter Try.func17, Try.ntmps17
      go_wp2_with (first | (refine HRf.out.mono ?_; rintro e w1 ⟨rfl, rfl⟩) | (refine HC.out.mono ?_; rintro e w1 ⟨rfl, hr1, ho1⟩; have HR1 := Lib.hid (And.intro hr1 ho1); clear hr1 ho1; rw [HH.out]))
      go_ret
      exact ⟨by rw [HV.out.1]; rfl, by rw [HV.out.2]; exact HR1.out.1, HR1.out.2⟩
    | false =>
      have HV : Hid (syncE d = 0 ∧ crashN (tick d) 1 (fun _ => 64) (tick d).n = syncD d) := Lib.hid ⟨by unfold syncE; rw [ho, hh]; rfl, sync_is ht h.ok ho hh⟩
      have HH : Hid (countE d = 0) := Lib.hid (by unfold countE; rw [hh]; rfl)
      clear h ho c3 hh ht
      go_enter Try.func17, Try.ntmps17
      go_wp2_with (first
        | (refine HRf.out.mono ?_; rintro e w1 ⟨rfl, rfl⟩)
        | (refine HC.out.mono ?_; rintro e w1 ⟨rfl, hr1, ho1⟩; have HS := Lib.hid (settle_lay w1 B q (tick d) hr1 n0 hn); have HR1 := Lib.hid ho1; clear hr1 ho1; rw [HH.out])
        | (refine HS.out.mono ?_; rintro e w2 ⟨rfl, hr2, ho2⟩; have HR2 := Lib.hid (And.intro hr2 ho2); clear hr2 ho2))
      go_ret
      exact ⟨by rw [HV.out.1]; rfl, by rw [← HV.out.2]; exact HR2.out.1, HR1.out.trans HR2.out.2 fun _ _ h => h⟩

/-! ### Fork -/
/-- What a copy of a row of sectors is. -/
def Cloned (w : World) (n : Nat) (l : List (List UInt8)) (e : Ending) (w' : World) : Prop := ∃ g c, e = .returned (.slice (some ⟨g, 0, none⟩) n c) ∧ Rows64 w' w.heap.size 42 g n c l ∧ Below w.heap.size w w'

theorem clone_secs (w : World) (B g n c : Nat) (l : List (List UInt8)) (h : Rows64 w B 42 g n c l) (n0 : 0 < n) (hn : n ≤ 1000000) :
    Calls Try.prog 24 #[.slice (some ⟨g, 0, none⟩) n c] w (Cloned w n l) := by
  obtain ⟨i0, hi0, hz0, hz1, hz2⟩ := info_parts info_sector
  have hnil := fun W => Lib.run_eql_slice_nil (P := Try.prog) W 54 42 (some ⟨g, 0, none⟩) n c 0 0 Try.underlying54
  have HB := Lib.hid (rows_on h (w' := w.alloc (.cells #[] 42)) ((Below.refl _ _).alloc (Nat.le_refl _) _))
  have HOW := Lib.hid (World.ownsRow_made (base := w.heap.size) (e := 42) (size := 64) w #[] 0 (Nat.le_refl _) (by unfold maxLen; omega) rfl)
  have hz3 : (Value.agg (secCells noughts)).cells.size = 64 := by show (secCells noughts).size = 64; rw [secCells_size, noughts_len]
  have HA := Lib.hid h.1
  clear h
  go_enter Try.func24, Try.ntmps24
  go_wp2_with ((at_builtin; refine wpList_append_lies _ rfl _ _ 54 rfl w.heap.size 42 i0 _ 64 64 Try.underlying54 hi0 hz0 hz1 hz2 hz3 (by omega) (.slice (some ⟨w.heap.size, 0, none⟩) 0 0) 0 [] rfl HOW.out ⟨g, 0, none⟩ n c (cellsB l.flatten) rfl HB.out.2.1 (HB.out.2.cells rfl) (By.cellsB_one _) n0 (by unfold maxLen; omega) (by omega) (by simp) _ rfl ?_; intro g' cap' w' h1 h2 h3 h4))
  rw [List.nil_append] at h1
  have hr := HA.out
  have HF : Hid (∀ m, 0 + n = m → Cloned w m l (.returned (.slice (some ⟨g', 0, none⟩) m cap')) w') := Lib.hid (fun m hm => by
    subst hm
    refine ⟨g', cap', rfl, ⟨hr, h1⟩, ((Below.refl _ _).alloc (Nat.le_refl _) _).grown h2 (by simp) (fun k hk => by rw [Mv.ownBlock_some] at hk; injection hk with hk; omega)⟩)
  clear h1 h2 h3 h4 hr
  go_wp2
  go_ret
  exact HF.out _ (by omega)

/-- What a copy of a row of flags is. -/
def ClonedF (w : World) (n : Nat) (l : List Bool) (e : Ending) (w' : World) : Prop := ∃ g c, e = .returned (.slice (some ⟨g, 0, none⟩) n c) ∧ Bools w' w.heap.size g n c l ∧ Below w.heap.size w w'

theorem clone_flags (w : World) (B g n c : Nat) (l : List Bool) (h : Bools w B g n c l) (n0 : 0 < n) (hn : n ≤ 1000000) :
    Calls Try.prog 25 #[.slice (some ⟨g, 0, none⟩) n c] w (ClonedF w n l) := by
  obtain ⟨i0, hi0, hz0, hz1, hz2⟩ := info_parts info_bool
  have hnil := fun W => Lib.run_eql_slice_nil (P := Try.prog) W 49 4 (some ⟨g, 0, none⟩) n c 0 0 Try.underlying49
  have HB := Lib.hid (bools_on h (w' := w.alloc (.cells #[] 4)) ((Below.refl _ _).alloc (Nat.le_refl _) _))
  have HOW := Lib.hid (World.ownsRow_made (base := w.heap.size) (e := 4) (size := 1) w #[] 0 (Nat.le_refl _) (by unfold maxLen; omega) rfl)
  have hone : ∀ u ∈ l.map Value.bool, u.oneCell' = true := by intro u hu; obtain ⟨b, _, rfl⟩ := List.mem_map.1 hu; rfl
  obtain ⟨xs, hxs⟩ : ∃ xs, l.map Value.bool = xs := ⟨_, rfl⟩
  have HX := Lib.hid hxs
  unfold Bools at HB
  rw [hxs] at HB hone
  clear h hxs
  go_enter Try.func25, Try.ntmps25
  go_wp2_with ((at_builtin; refine wpList_append_lies _ rfl _ _ 49 rfl w.heap.size 4 i0 _ 1 1 Try.underlying49 hi0 hz0 hz1 hz2 rfl (by omega) (.slice (some ⟨w.heap.size, 0, none⟩) 0 0) 0 [] rfl HOW.out ⟨g, 0, none⟩ n c xs rfl HB.out.1 (World.ownsRow.cells HB.out rfl) hone n0 (by unfold maxLen; omega) (by omega) (by simp) _ rfl ?_; intro g' cap' w' h1 h2 h3 h4))
  rw [List.nil_append] at h1
  have HF : Hid (∀ m, 0 + n = m → ClonedF w m l (.returned (.slice (some ⟨g', 0, none⟩) m cap')) w') := Lib.hid (fun m hm => by
    subst hm
    refine ⟨g', cap', rfl, by unfold Bools; rw [HX.out]; exact h1, ((Below.refl _ _).alloc (Nat.le_refl _) _).grown h2 (by simp) (fun k hk => by rw [Mv.ownBlock_some] at hk; injection hk with hk; omega)⟩)
  clear h1 h2 h3 h4
  go_wp2
  go_ret
  exact HF.out _ (by omega)

theorem keep5 {w W : World} {x : Nat} {A0 A1 A2 A3 A4 : Value} (hx : x < w.heap.size)
    (h : w.cell? ⟨x, 0, none⟩ = some A0 ∧ w.cell? ⟨x, 1, none⟩ = some A1 ∧ w.cell? ⟨x, 2, none⟩ = some A2 ∧ w.cell? ⟨x, 3, none⟩ = some A3 ∧ w.cell? ⟨x, 4, none⟩ = some A4)
    (hb : Below w.heap.size w W) : W.cell? ⟨x, 0, none⟩ = some A0 ∧ W.cell? ⟨x, 1, none⟩ = some A1 ∧ W.cell? ⟨x, 2, none⟩ = some A2 ∧ W.cell? ⟨x, 3, none⟩ = some A3 ∧ W.cell? ⟨x, 4, none⟩ = some A4 ∧ Below w.heap.size w W := by
  have e : ∀ k, W.cell? ⟨x, k, none⟩ = w.cell? ⟨x, k, none⟩ := fun k => hb.cell (p := ⟨x, k, none⟩) hx
  exact ⟨(e 0).trans h.1, (e 1).trans h.2.1, (e 2).trans h.2.2.1, (e 3).trans h.2.2.2.1, (e 4).trans h.2.2.2.2, hb⟩

theorem fork_end {w W : World} {d : DS} (hd : d.Ok) (ht : Tidy d) {ga gb gc ca cb cc : Nat} (ha : Rows64 W w.heap.size 42 ga d.n ca d.now) (hb : Rows64 W w.heap.size 42 gb d.n cb d.sure) (hc : Bools W w.heap.size gc d.n cc d.loose)
    (hw : Below w.heap.size w W) (hne : ga ≠ gb) (g1 : w.heap.size ≤ ga) (g2 : w.heap.size ≤ gb) (g3 : w.heap.size ≤ gc) {off : Bool} (ho : d.off = off) {armed : Int} (hm : (d.armed : Int) = armed) :
    ForkE w d (.returned (.pointer (some ⟨W.heap.size, 0, none⟩))) (W.alloc (.cells #[.slice (some ⟨gb, 0, none⟩) d.n cb, .slice (some ⟨ga, 0, none⟩) d.n ca, .slice (some ⟨gc, 0, none⟩) d.n cc, .bool off, .int .i64 armed] 56)) := by
  subst ho hm
  have hal : Below W.heap.size W (W.alloc (.cells #[.slice (some ⟨gb, 0, none⟩) d.n cb, .slice (some ⟨ga, 0, none⟩) d.n ca, .slice (some ⟨gc, 0, none⟩) d.n cc, .bool d.off, .int .i64 (d.armed : Int)] 56)) := (Below.refl _ _).alloc (Nat.le_refl _) _
  have ho := Mv.Only.ofBelow hal fun _ => False
  refine ⟨⟨W.heap.size, ga, gb, gc, ca, cb, cc⟩, rfl, ⟨⟨hd, hw.size, ⟨heap_alloc_new _ _⟩, ha.only ho fun h => h, hb.only ho fun h => h, Mv.own_only hc ho fun _ _ h => h, hne⟩, ht⟩, fun k hk => ?_, below_then hw hal⟩
  rcases hk with hk | hk | hk | hk <;> rw [hk] <;> dsimp only
  · exact hw.size
  · exact g1
  · exact g2
  · exact g3

theorem own_lower {w : World} {B B' E size n : Nat} {v : Value} {xs : List Value} (h : w.ownsRow B E size v n xs) (hb : B' ≤ B) : w.ownsRow B' E size v n xs := by
  refine ⟨h.1, ?_⟩
  rcases h.2 with h2 | ⟨g, cap, cur, hv, hg, rest⟩
  · exact .inl h2
  · exact .inr ⟨g, cap, cur, hv, Nat.le_trans hb hg, rest⟩

theorem fork_any (w : World) (B : Nat) (q : Pl) (d : DS) (h : At w B q d) (n0 : 0 < d.n) (hn : d.n ≤ 20000) : Calls Try.prog 11 #[.pointer (some ⟨q.x, 0, none⟩)] w (ForkE w d) := by
  have c0 := h.lay.box.cell 0
  have c1 := h.lay.box.cell 1
  have c2 := h.lay.box.cell 2
  have c3 := h.lay.box.cell 3
  have c4 := h.lay.box.cell 4
  simp at c0 c1 c2 c3 c4
  have hx := h.lay.box.lt
  have HR := Lib.hid h
  have hB0 := Below.refl w.heap.size w
  obtain ⟨off, hoff⟩ : ∃ o, d.off = o := ⟨_, rfl⟩
  obtain ⟨ar, har⟩ : ∃ o, (d.armed : Int) = o := ⟨_, rfl⟩
  rw [hoff] at c3
  rw [har] at c4
  have HE := Lib.hid (And.intro hoff har)
  have HC := Lib.hid (And.intro c0 (And.intro c1 (And.intro c2 (And.intro c3 c4))))
  have KB := Lib.hid fun W (hW : Below w.heap.size w W) => clone_secs W B q.b d.n q.cb d.sure (rows_on h.lay.sure hW) n0 (by omega)
  have KA := Lib.hid fun W (hW : Below w.heap.size w W) => clone_secs W B q.a d.n q.ca d.now (rows_on h.lay.now hW) n0 (by omega)
  have KC := Lib.hid fun W (hW : Below w.heap.size w W) => clone_flags W B q.c d.n q.cc d.loose (bools_on h.lay.loose hW) n0 (by omega)
  clear c0 c1 c2 c3 c4
  clear h hoff har
  go_enter Try.func11, Try.ntmps11
  go_wp2_with fail
  go_region_held3 (fun w' => w'.cell? ⟨q.x, 0, none⟩ = some (.slice (some ⟨q.b, 0, none⟩) d.n q.cb) ∧ w'.cell? ⟨q.x, 1, none⟩ = some (.slice (some ⟨q.a, 0, none⟩) d.n q.ca) ∧ w'.cell? ⟨q.x, 2, none⟩ = some (.slice (some ⟨q.c, 0, none⟩) d.n q.cc) ∧ w'.cell? ⟨q.x, 3, none⟩ = some (.bool off) ∧ w'.cell? ⟨q.x, 4, none⟩ = some (.int .i64 ar) ∧ Below w.heap.size w w')
    (first
      | exact keep5 hx HC.out hB0.drew
      | (go_split_ands; exact keep5 hx HC.out (below_then (by assumption) kA))
      | (go_split_ands; exact keep5 hx HC.out (below_then (by assumption) kB))
      | (go_split_ands; exact keep5 hx HC.out (below_then (by assumption) kC))
      | (go_split_ands; exact keep5 hx HC.out (Below.alloc (by assumption) (Below.size (by assumption)) _)))
    (first
      | (go_at_call 24; ((with_reducible refine (KB.out _ (by go_split_ands; assumption)).mono ?_); rintro e wb ⟨gb, cb, rfl, hb, kB⟩))
      | (go_at_call 24; ((with_reducible refine (KA.out _ (by go_split_ands; assumption)).mono ?_); rintro e wa ⟨ga, ca, rfl, ha, kA⟩))
      | (go_at_call 25; ((with_reducible refine (KC.out _ (by go_split_ands; assumption)).mono ?_); rintro e wc ⟨gc, cc, rfl, hc, kC⟩)))
  unfold Exit.then
  dsimp only
  go_wp2_with fail
  go_ret
  have h1 : Below w.heap.size w wb := below_then hB0.drew kB
  have h2 := below_then h1 kA
  have h3 := below_then h2 kC
  have s1 := h1.size
  have s2 := h2.size
  obtain ⟨l1, l2⟩ := World.ownsRow.lt hb.2 gb rfl
  have l1' : w.heap.size ≤ gb := l1
  have l3 := (World.ownsRow.lt ha.2 ga rfl).1
  have l4 := (World.ownsRow.lt hc gc rfl).1
  exact fork_end HR.out.ok HR.out.tidy (rows_on ⟨ha.1, own_lower ha.2 s1⟩ kC) (rows_on (rows_on ⟨hb.1, own_lower hb.2 (Nat.le_refl _)⟩ kA) kC) (own_lower hc s2) h3 (by omega) (by omega) l1' (by omega) HE.out.1 HE.out.2

section
variable (w : World) (B : Nat) (q : Pl) (d : DS)
theorem len_any (h : At w B q d) (n0 : 0 < d.n) (hn : d.n ≤ 20000) : Calls Try.prog 23 #[.pointer (some ⟨q.x, 0, none⟩)] w fun e w' => e = .returned (.int .i64 (d.n : Int)) ∧ Below w.heap.size w w' := by
  have c1 := h.lay.box.cell 1
  simp at c1
  refine (len_eq w q.x _ d.n _ c1 (by omega)).mono ?_
  rintro e w' ⟨rfl, rfl⟩
  exact ⟨rfl, Below.refl _ _⟩

theorem down_any (h : At w B q d) (n0 : 0 < d.n) (hn : d.n ≤ 20000) : Calls Try.prog 22 #[.pointer (some ⟨q.x, 0, none⟩)] w fun e w' => e = .returned (.bool d.off) ∧ Below w.heap.size w w' := by
  have c3 := h.lay.box.cell 3
  simp at c3
  refine (down_eq w q.x d.off c3).mono ?_
  rintro e w' ⟨rfl, rfl⟩
  exact ⟨rfl, Below.refl _ _⟩

theorem read_any (i : Int) (h : At w B q d) (n0 : 0 < d.n) (hn : d.n ≤ 20000) : Calls Try.prog 20 #[.pointer (some ⟨q.x, 0, none⟩), .int .i64 i] w fun e w' => e = .returned (.tuple #[.agg (secCells (readV d i)), .int .i64 (readE d i)]) ∧ Below w.heap.size w w' := read_lay w B q d i h.lay (by omega)

theorem write_any (i : Int) (b : List UInt8) (h : At w B q d) (n0 : 0 < d.n) (hn : d.n ≤ 20000) (hb : b.length = 64) (ha : d.armed ≤ 9223372036854775807) : Calls Try.prog 15 #[.pointer (some ⟨q.x, 0, none⟩), .int .i64 i, .agg (secCells b)] w fun e w' => e = .returned (.int .i64 (writeE d i)) ∧ Went w B q (writeD d i b) w' := by
  refine (write_lay w B q d i b h.lay n0 (by omega) hb ha).mono ?_
  rintro e w' ⟨rfl, h1⟩
  exact ⟨rfl, Went.of h1 (tidy_write h.tidy h.ok)⟩

theorem sync_any (h : At w B q d) (n0 : 0 < d.n) (hn : d.n ≤ 20000) (ha : d.armed ≤ 9223372036854775807) : Calls Try.prog 17 #[.pointer (some ⟨q.x, 0, none⟩)] w fun e w' => e = .returned (.int .i64 (syncE d)) ∧ Went w B q (syncD d) w' := by
  refine (sync_lay w B q d h.lay h.tidy n0 (by omega) ha).mono ?_
  rintro e w' ⟨rfl, h1⟩
  exact ⟨rfl, Went.of h1 (tidy_sync h.tidy)⟩

theorem arm_any (m : Int) (h : At w B q d) (n0 : 0 < d.n) (hn : d.n ≤ 20000) (hm : m ≤ 9223372036854775807) : Calls Try.prog 21 #[.pointer (some ⟨q.x, 0, none⟩), .int .i64 m] w fun e w' => e = .returned (.tuple #[]) ∧ Went w B q (armD d m) w' := by
  refine (arm_lay w B q d m h.lay n0 hm).mono ?_
  rintro e w' ⟨rfl, h1⟩
  exact ⟨rfl, Went.of h1 h.tidy⟩

theorem tidy_crash (kn : Nat) (kf : Nat → Int) (h : At w B q d) : Tidy (crashD d kn kf) := tidy_crashN kn kf h.tidy h.ok

theorem crash_any (A : Option Addr) (kn c : Nat) (kf : Nat → Int) (h : At w B q d) (hA : Hl.Ints w w.heap.size A kn kf) (hd : ∀ a, A = some a → kn ≠ 0 → ¬ q.has a.block) (hk : kn ≤ 1000000) (hkf : ∀ k, k < kn → -9223372036854775808 ≤ kf k ∧ kf k ≤ 9223372036854775807) (n0 : 0 < d.n) (hn : d.n ≤ 20000) :
    Calls Try.prog 18 #[.pointer (some ⟨q.x, 0, none⟩), .slice A kn c] w fun e w' => e = .returned (.tuple #[]) ∧ Went w B q (crashD d kn kf) w' := by
  refine (crash_lay w B q d A kn c kf h.lay hA hd hk hkf n0 (by omega)).mono ?_
  rintro e w' ⟨rfl, h1⟩
  exact ⟨rfl, Went.of h1 (tidy_crash w B q d kn kf h)⟩

theorem start_any (h : At w B q d) (n0 : 0 < d.n) (hn : d.n ≤ 20000) : Calls Try.prog 19 #[.pointer (some ⟨q.x, 0, none⟩)] w fun e w' => e = .returned (.tuple #[]) ∧ Went w B q (startD d) w' := by
  refine (start_lay w B q d h.lay n0 (by omega)).mono ?_
  rintro e w' ⟨rfl, h1⟩
  refine ⟨rfl, Went.of h1 ?_⟩
  unfold startD
  split
  · exact tidy_crash w B q d 0 (fun _ => 0) h
  · exact h.tidy

/-! ### nil -/
theorem read_nil (i : Int) : Calls Try.prog 20 #[.pointer none, .int .i64 i] w fun e w' => e = .returned (.tuple #[.agg (secCells Se.noughts), .int .i64 1]) ∧ Below w.heap.size w w' := by
  have HN := Lib.hid fun W => at_nil W i
  go_enter Try.func20, Try.ntmps20
  go_wp2_with (first
    | (refine new_sec rfl rfl ?_; intro w1 hS1 hB1 hZ1; have HB := Lib.hid (And.intro hB1 hZ1); clear hB1 hZ1)
    | (refine (HN.out w1).mono ?_; rintro e w2 ⟨rfl, rfl⟩)
    | (refine zero_sec rfl rfl ?_)
    | (refine store_sec rfl _ _ rfl _ rfl _ rfl _ hS1 noughts_len ?_; intro w2 hS2 hG2))
  refine bodyPost_ret (two_results rfl _ w2 w.heap.size noughts (.int .i64 1) rfl hS2 rfl rfl) rfl ⟨rfl, ?_⟩
  exact HB.out.1.grown hG2 HB.out.1.size (fun k hk => by injection hk with hk; omega)

theorem write_nil (i : Int) (b : List UInt8) (hb : b.length = 64) : Calls Try.prog 15 #[.pointer none, .int .i64 i, .agg (secCells b)] w fun e w' => e = .returned (.int .i64 1) ∧ Below w.heap.size w w' := by
  have HN := Lib.hid fun W => at_nil W i
  go_enter Try.func15, Try.ntmps15
  go_wp2_with (first
    | (refine box_sec rfl _ rfl _ rfl hb ?_; intro w1 hS1 hB1 hZ1; have HB := Lib.hid hB1; clear hB1 hZ1 hS1)
    | (refine (HN.out w1).mono ?_; rintro e w2 ⟨rfl, rfl⟩))
  go_ret
  exact ⟨rfl, HB.out⟩

theorem sync_nil : Calls Try.prog 17 #[.pointer none] w fun e w' => e = .returned (.int .i64 1) ∧ Below w.heap.size w w' := by
  have HN := Lib.hid (refused_nil w)
  go_enter Try.func17, Try.ntmps17
  go_wp2_with (first | (refine HN.out.mono ?_; rintro e w2 ⟨rfl, rfl⟩))
  go_ret
  exact ⟨rfl, Below.refl _ _⟩

theorem arm_nil (m : Int) (hm : m ≤ 9223372036854775807) : Calls Try.prog 21 #[.pointer none, .int .i64 m] w fun e w' => e = .returned (.tuple #[]) ∧ Below w.heap.size w w' := by
  go_enter Try.func21, Try.ntmps21
  go_wp2_with fail
  refine bodyPost_ret (results_none rfl _ _ _) rfl ?_
  exact ⟨rfl, Below.refl _ _⟩

theorem crash_nil (A : Option Addr) (kn c : Nat) : Calls Try.prog 18 #[.pointer none, .slice A kn c] w fun e w' => e = .returned (.tuple #[]) ∧ Below w.heap.size w w' := by
  go_enter Try.func18, Try.ntmps18
  go_wp2_with fail
  refine bodyPost_ret (results_none rfl _ _ _) rfl ?_
  exact ⟨rfl, Below.refl _ _⟩

theorem down_nil : Calls Try.prog 22 #[.pointer none] w fun e w' => e = .returned (.bool false) ∧ Below w.heap.size w w' := by
  go_enter Try.func22, Try.ntmps22
  go_wp2_with fail
  go_ret
  exact ⟨rfl, Below.refl _ _⟩

theorem down_none : Calls Try.prog 22 #[.pointer none] w fun e w' => e = .returned (.bool false) ∧ w = w' := by
  go_enter Try.func22, Try.ntmps22
  go_wp2_with fail
  go_ret
  exact ⟨rfl, rfl⟩

theorem start_nil : Calls Try.prog 19 #[.pointer none] w fun e w' => e = .returned (.tuple #[]) ∧ Below w.heap.size w w' := by
  have HN := Lib.hid (down_none w)
  go_enter Try.func19, Try.ntmps19
  go_wp2_with (first | (refine HN.out.mono ?_; rintro e w2 ⟨rfl, rfl⟩))
  refine bodyPost_ret (results_none rfl _ _ _) rfl ?_
  exact ⟨rfl, Below.refl _ _⟩

theorem len_nil : Calls Try.prog 23 #[.pointer none] w fun e w' => e = .returned (.int .i64 0) ∧ Below w.heap.size w w' := by
  go_enter Try.func23, Try.ntmps23
  go_wp2_with fail
  go_ret
  exact ⟨rfl, Below.refl _ _⟩

theorem fork_nil : Calls Try.prog 11 #[.pointer none] w fun e w' => e = .returned (.pointer none) ∧ Below w.heap.size w w' := by
  go_enter Try.func11, Try.ntmps11
  go_wp2_with fail
  go_ret
  exact ⟨rfl, Below.refl _ _⟩
end

end Go.Proofs.Yteakoniapgkicaa.Dd
