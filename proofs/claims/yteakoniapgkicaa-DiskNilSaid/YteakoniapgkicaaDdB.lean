/- The landed disk: what is refused, Len, Down, Arm, count, kept, Read, New. -/
import Derived.Test.YteakoniapgkicaaDdA
import Derived.Laws.MakeOwn
import Derived.Lib.SliceRun
namespace Go.Proofs.Yteakoniapgkicaa.Dd
open Go.ChangeShapes Go.WideShapes Go.ChangeAt Go.RowKit
open Qu (Blk)
open Mv (Only)
open Se (All64 blanks Rows64 noughts noughts_len)
open By (cellsB cellsB_length cellsB_at)
open Dk (DS dsNew readE readV writeE writeD syncE syncD armD crashD startD secCells secCells_size size_sector Bools lies lies_of tick hitB crashN keeps keeps_le rank)
set_option linter.unusedVariables false

/-- The landed disk d, at these places. -/
structure At (w : World) (B : Nat) (q : Pl) (d : DS) : Prop where
  lay : Lay w B q d
  tidy : Tidy d

theorem At.ok {w : World} {B : Nat} {q : Pl} {d : DS} (h : At w B q d) : d.Ok := h.lay.ok

theorem At.only {w w' : World} {B : Nat} {q : Pl} {d : DS} {S : Nat → Prop} (h : At w B q d) (k : Only w w' S) (hs : ∀ i, q.has i → ¬ S i) : At w' B q d := ⟨h.lay.only k hs, h.tidy⟩

theorem At.from {w : World} {B : Nat} {q : Pl} {d : DS} (h : At w B q d) : ∀ k, q.has k → B ≤ k := h.lay.from

theorem At.there {w : World} {B : Nat} {q : Pl} {d : DS} (h : At w B q d) : ∀ k, q.has k → k < w.heap.size := fun k hk => by
  rcases hk with rfl | rfl | rfl | rfl
  · exact h.lay.box.lt
  · exact (World.ownsRow.lt h.lay.now.2 q.a rfl).2
  · exact (World.ownsRow.lt h.lay.sure.2 q.b rfl).2
  · exact (World.ownsRow.lt h.lay.loose q.c rfl).2

/-- The disk went on: what it is now, and where; nothing else has turned. -/
def Went (w : World) (B : Nat) (q : Pl) (d : DS) (w' : World) : Prop := ∃ q' : Pl, q'.x = q.x ∧ At w' B q' d ∧ Only w w' q.has ∧ ∀ k, q'.has k → q.has k ∨ w.heap.size ≤ k

theorem Went.of {w w' : World} {B : Nat} {q : Pl} {d : DS} (h : Lay w' B q d ∧ Only w w' q.has) (t : Tidy d) : Went w B q d w' := ⟨q, rfl, ⟨h.1, t⟩, h.2, fun _ hk => .inl hk⟩

theorem Went.refl {w : World} {B : Nat} {q : Pl} {d : DS} (h : At w B q d) : Went w B q d w := Went.of ⟨h.lay, Mv.Only.refl _ _⟩ h.tidy

def NewE (w : World) (n : Nat) (e : Ending) (w' : World) : Prop := ∃ q : Pl, e = .returned (.tuple #[.pointer (some ⟨q.x, 0, none⟩), .int .i64 0]) ∧ At w' w.heap.size q (dsNew n) ∧ (∀ k, q.has k → w.heap.size ≤ k) ∧ Below w.heap.size w w'

def ForkE (w : World) (d : DS) (e : Ending) (w' : World) : Prop := ∃ q : Pl, e = .returned (.pointer (some ⟨q.x, 0, none⟩)) ∧ At w' w.heap.size q d ∧ (∀ k, q.has k → w.heap.size ≤ k) ∧ Below w.heap.size w w'

section
variable (w : World) (B : Nat) (q : Pl) (d : DS)
theorem refused_any (x : Nat) (off : Bool) (c3 : w.cell? ⟨x, 3, none⟩ = some (.bool off)) : Calls Try.prog 34 #[.pointer (some ⟨x, 0, none⟩)] w fun e w' => e = .returned (.int .i64 (if off then 9 else 0)) ∧ w = w' := by
  cases off <;>
  · go_enter Try.func34, Try.ntmps34
    go_wp2
    go_ret
    exact ⟨rfl, rfl⟩

theorem refused_nil : Calls Try.prog 34 #[.pointer none] w fun e w' => e = .returned (.int .i64 1) ∧ w = w' := by
  go_enter Try.func34, Try.ntmps34
  go_wp2
  go_ret
  exact ⟨rfl, rfl⟩

theorem len_eq (x : Nat) (A : Option Addr) (n c : Nat) (c1 : w.cell? ⟨x, 1, none⟩ = some (.slice A n c)) (hn : n ≤ 1000000) : Calls Try.prog 23 #[.pointer (some ⟨x, 0, none⟩)] w fun e w' => e = .returned (.int .i64 (n : Int)) ∧ w = w' := by
  go_enter Try.func23, Try.ntmps23
  go_wp2
  go_ret
  exact ⟨rfl, rfl⟩

theorem down_eq (x : Nat) (off : Bool) (c3 : w.cell? ⟨x, 3, none⟩ = some (.bool off)) : Calls Try.prog 22 #[.pointer (some ⟨x, 0, none⟩)] w fun e w' => e = .returned (.bool off) ∧ w = w' := by
  go_enter Try.func22, Try.ntmps22
  go_wp2
  go_ret
  exact ⟨rfl, rfl⟩

theorem at_nil (i : Int) : Calls Try.prog 32 #[.pointer none, .int .i64 i] w fun e w' => e = .returned (.int .i64 1) ∧ w = w' := by
  have HC := Lib.hid (refused_nil w)
  go_enter Try.func32, Try.ntmps32
  go_wp2_with (first | (refine HC.out.mono ?_; rintro e w1 ⟨rfl, rfl⟩))
  go_ret
  exact ⟨rfl, rfl⟩

/-- Why nothing can be done at that place. -/
theorem at_any (i : Int) (h : Lay w B q d) (hn : d.n ≤ 1000000) : Calls Try.prog 32 #[.pointer (some ⟨q.x, 0, none⟩), .int .i64 i] w fun e w' => e = .returned (.int .i64 (readE d i)) ∧ w = w' := by
  have c1 := h.box.cell 1
  have c3 := h.box.cell 3
  simp at c1 c3
  have HL := Lib.hid (len_eq w q.x _ d.n _ c1 hn)
  have HC := Lib.hid (refused_any w q.x d.off c3)
  clear h c1 c3
  cases ho : d.off with
  | true =>
    rw [ho] at HC
    have HE := Lib.hid (Dk.readE_down (i := i) ho)
    clear ho
    go_enter Try.func32, Try.ntmps32
    go_wp2_with (first | (refine HC.out.mono ?_; rintro e w1 ⟨rfl, rfl⟩))
    go_ret
    exact ⟨by rw [HE.out]; rfl, rfl⟩
  | false =>
    rw [ho] at HC
    by_cases hneg : i < 0
    · have HE := Lib.hid (Dk.readE_out (i := i) ho (.inl hneg))
      have i0 : decide (i < 0) = true := by simpa using hneg
      clear ho
      go_enter Try.func32, Try.ntmps32
      go_wp2_with (first | (refine HC.out.mono ?_; rintro e w1 ⟨rfl, rfl⟩))
      go_ret
      exact ⟨by rw [HE.out]; rfl, rfl⟩
    · have i0 : decide (i < 0) = false := by simpa using hneg
      by_cases hge : (d.n : Int) ≤ i
      · have HE := Lib.hid (Dk.readE_out (i := i) ho (.inr hge))
        have i2 : decide ((d.n : Int) ≤ i) = true := by simpa using hge
        clear ho
        go_enter Try.func32, Try.ntmps32
        go_wp2_with (first | (refine HC.out.mono ?_; rintro e w1 ⟨rfl, rfl⟩) | (refine HL.out.mono ?_; rintro e w1 ⟨rfl, rfl⟩))
        go_ret
        exact ⟨by rw [HE.out]; rfl, rfl⟩
      · have HE := Lib.hid (Dk.readE_ok (i := i) ho (by omega) (by omega))
        have i2 : decide ((d.n : Int) ≤ i) = false := by simpa using hge
        clear ho
        go_enter Try.func32, Try.ntmps32
        go_wp2_with (first | (refine HC.out.mono ?_; rintro e w1 ⟨rfl, rfl⟩) | (refine HL.out.mono ?_; rintro e w1 ⟨rfl, rfl⟩))
        go_ret
        exact ⟨by rw [HE.out]; rfl, rfl⟩

/-- A call that would be done is counted: what is told. -/
def countE (d : DS) : Int := if hitB d then 9 else 0

/-- A call that would be done is counted. -/
theorem count_any (h : Lay w B q d) (ho : d.off = false) (n0 : 0 < d.n) (ha : d.armed ≤ 9223372036854775807) :
    Calls Try.prog 33 #[.pointer (some ⟨q.x, 0, none⟩)] w fun e w' => e = .returned (.int .i64 (countE d)) ∧ Lay w' B q (tick d) ∧ Only w w' q.has := by
  have c4 := h.box.cell 4
  have f4 := h.box.frozen 4
  have c3 := h.box.cell 3
  have f3 := h.box.frozen 3
  simp at c4 c3
  have a0 : (0 : Int) ≤ (d.armed : Int) := by omega
  have a1 : (d.armed : Int) ≤ 9223372036854775807 := by omega
  by_cases h0 : d.armed = 0
  · have HR : Hid (countE d = 0 ∧ Lay w B q (tick d)) := Lib.hid (by
      refine ⟨by unfold countE hitB; rw [h0]; rfl, ?_⟩
      have e : tick d = d := by
        cases d
        simp only at h0
        subst h0
        simp [tick]
      rw [e]; exact h)
    have k0 : ((d.armed : Int) == 0) = true := by rw [h0]; rfl
    clear h h0 ho
    go_enter Try.func33, Try.ntmps33
    go_wp2
    go_ret
    exact ⟨by rw [HR.out.1]; rfl, HR.out.2, Mv.Only.refl _ _⟩
  · have k0 : ((d.armed : Int) == 0) = false := beq_eq_false_iff_ne.2 (by omega)
    by_cases h1 : d.armed = 1
    · have HR : Hid (countE d = 9) := Lib.hid (by unfold countE hitB; rw [h1]; rfl)
      have HF : Hid (Lay ((w.setCell ⟨q.x, 4, none⟩ (.int .i64 ((d.armed : Int) - 1))).setCell ⟨q.x, 3, none⟩ (.bool true)) B q (tick d) ∧ Only w ((w.setCell ⟨q.x, 4, none⟩ (.int .i64 ((d.armed : Int) - 1))).setCell ⟨q.x, 3, none⟩ (.bool true)) q.has) := Lib.hid (by
        refine h.setBox n0 ?_ (((Mv.Only.refl w (Mv.one q.x)).put _ fun _ => rfl).put _ fun _ => rfl) rfl rfl rfl
        have hb := (h.box.put 4 (.int .i64 ((d.armed : Int) - 1))).put 3 (.bool true)
        have e1 : (tick d).off = true := by unfold tick; simp [h1]
        have e2 : (((tick d).armed : Nat) : Int) = (d.armed : Int) - 1 := by
          show ((d.armed - 1 : Nat) : Int) = _
          omega
        rw [e1, e2]
        exact hb)
      have k2 : ((d.armed : Int) - 1 == 0) = true := by rw [h1]; rfl
      have HC := Lib.hid (refused_any _ q.x true (((h.box.put 4 (.int .i64 ((d.armed : Int) - 1))).put 3 (.bool true)).cell 3))
      clear h h0 h1 ho
      go_enter Try.func33, Try.ntmps33
      go_wp2_with (first | (refine HC.out.mono ?_; rintro e w1 ⟨rfl, rfl⟩))
      go_ret
      exact ⟨by rw [HR.out]; rfl, HF.out.1, HF.out.2⟩
    · have HR : Hid (countE d = 0) := Lib.hid (by unfold countE hitB; rw [if_neg (by simpa using h1)])
      have HF : Hid (Lay ((w.setCell ⟨q.x, 4, none⟩ (.int .i64 ((d.armed : Int) - 1))).setCell ⟨q.x, 3, none⟩ (.bool false)) B q (tick d) ∧ Only w ((w.setCell ⟨q.x, 4, none⟩ (.int .i64 ((d.armed : Int) - 1))).setCell ⟨q.x, 3, none⟩ (.bool false)) q.has) := Lib.hid (by
        refine h.setBox n0 ?_ (((Mv.Only.refl w (Mv.one q.x)).put _ fun _ => rfl).put _ fun _ => rfl) rfl rfl rfl
        have hb := (h.box.put 4 (.int .i64 ((d.armed : Int) - 1))).put 3 (.bool false)
        have e1 : (tick d).off = false := by unfold tick; simp [h1, ho]
        have e2 : (((tick d).armed : Nat) : Int) = (d.armed : Int) - 1 := by
          show ((d.armed - 1 : Nat) : Int) = _
          omega
        rw [e1, e2]
        exact hb)
      have k2 : ((d.armed : Int) - 1 == 0) = false := beq_eq_false_iff_ne.2 (by omega)
      have HC := Lib.hid (refused_any _ q.x false (((h.box.put 4 (.int .i64 ((d.armed : Int) - 1))).put 3 (.bool false)).cell 3))
      clear h h0 h1 ho
      go_enter Try.func33, Try.ntmps33
      go_wp2_with (first | (refine HC.out.mono ?_; rintro e w1 ⟨rfl, rfl⟩))
      go_ret
      exact ⟨by rw [HR.out]; rfl, HF.out.1, HF.out.2⟩

theorem arm_lay (m : Int) (h : Lay w B q d) (n0 : 0 < d.n) (hm : m ≤ 9223372036854775807) : Calls Try.prog 21 #[.pointer (some ⟨q.x, 0, none⟩), .int .i64 m] w fun e w' => e = .returned (.tuple #[]) ∧ Lay w' B q (armD d m) ∧ Only w w' q.has := by
  obtain ⟨x, hx⟩ : ∃ x : Nat, m.toNat = x := ⟨_, rfl⟩
  have hm1 : (if m < 0 then 0 else m) = (x : Int) := by split <;> omega
  have hm2 : (if 0 < m then m else 0) = (x : Int) := by split <;> omega
  have c4 := h.box.cell 4
  have f4 := h.box.frozen 4
  simp at c4
  have HF : Hid (Lay (w.setCell ⟨q.x, 4, none⟩ (.int .i64 (x : Int))) B q (armD d m) ∧ Only w (w.setCell ⟨q.x, 4, none⟩ (.int .i64 (x : Int))) q.has) := Lib.hid (by
    refine h.setBox n0 ?_ ((Mv.Only.refl w (Mv.one q.x)).put _ fun _ => rfl) rfl rfl rfl
    have hb := h.box.put 4 (.int .i64 (x : Int))
    have e2 : (armD d m).armed = x := hx
    rw [e2]
    exact hb)
  clear h hx hm
  go_enter Try.func21, Try.ntmps21
  go_wp2
  go_end0
  exact ⟨rfl, HF.out.1, HF.out.2⟩

/-- How many bytes stay of the r-th loose sector. -/
theorem kept_any (A : Option Addr) (kn c M : Nat) (kf : Nat → Int) (r : Nat) (hA : Hl.Ints w M A kn kf) (hk : kn ≤ 1000000) (hkf : ∀ k, k < kn → -9223372036854775808 ≤ kf k ∧ kf k ≤ 9223372036854775807) (hr : r ≤ 1000000) :
    Calls Try.prog 37 #[.slice A kn c, .int .i64 (r : Int)] w fun e w' => e = .returned (.int .i64 (keeps kn kf r : Int)) ∧ w = w' := by
  obtain ⟨m, hm⟩ : ∃ m, keeps kn kf r = m := ⟨_, rfl⟩
  have hm64 : m ≤ 64 := by rw [← hm]; exact keeps_le _ _ _
  have HM := Lib.hid hm
  have r0 : (0 : Int) ≤ (r : Int) := by omega
  have r1 : (r : Int) ≤ 1000000 := by omega
  by_cases hk0 : kn = 0
  · have HZ : Hid (m = 0) := Lib.hid (by rw [← hm]; unfold keeps; rw [if_pos hk0])
    have k1 : ((kn : Int) == 0) = true := by rw [hk0]; rfl
    clear hm hk0 hA hkf
    go_enter Try.func37, Try.ntmps37
    go_wp2
    go_ret
    exact ⟨by rw [HM.out, HZ.out]; rfl, rfl⟩
  · have hkp : 0 < kn := by omega
    have k1 : ((kn : Int) == 0) = false := beq_eq_false_iff_ne.2 (by omega)
    have k2 : (0 : Int) < (kn : Int) := by omega
    obtain ⟨t, ht⟩ : ∃ t, r % kn = t := ⟨_, rfl⟩
    have htk : t < kn := by rw [← ht]; exact Nat.mod_lt _ hkp
    have hmod : (r : Int) % (kn : Int) = (t : Int) := by rw [← ht]; rfl
    have t0 : (0 : Int) ≤ (t : Int) := by omega
    have t1 : (t : Int) < (kn : Int) := by omega
    obtain ⟨g, o, rfl, hg, hcell⟩ := hA t htk
    obtain ⟨v1, v2⟩ := hkf t htk
    have hmv : m = min (kf t).toNat 64 := by rw [← hm]; unfold keeps; rw [if_neg hk0, ht]
    generalize kf t = v at *
    obtain ⟨x, hx⟩ : ∃ x : Nat, v.toNat = x := ⟨_, rfl⟩
    have hm1 : (if v < 0 then 0 else v) = (x : Int) := by split <;> omega
    have hm2 : (if 0 < v then v else 0) = (x : Int) := by split <;> omega
    have hx1 : (if (x : Int) < 64 then (x : Int) else 64) = (m : Int) := by rw [hmv, hx]; split <;> omega
    have hx2 : (if 64 < (x : Int) then 64 else (x : Int)) = (m : Int) := by rw [hmv, hx]; split <;> omega
    clear hm hmv hk0 ht hx hA hkf
    go_enter Try.func37, Try.ntmps37
    go_wp2
    go_ret
    exact ⟨by rw [HM.out]; rfl, rfl⟩
end

end Go.Proofs.Yteakoniapgkicaa.Dd
