/- Mark, of the landed code and of the document. -/
import Derived.Test.YtbicdmhmpmdoeaaLfD
import Derived.BigQuiet
import Derived.Deep.QuietTactic
namespace Go.Proofs.Ytbicdmhmpmdoeaa.Lf
open Go.ChangeShapes Go.WideShapes Go.ChangeAt Go.RowKit
open Qu (Blk)
open By (Bys cellsB cellsB_length cellsB_at)
open Se (over over_length over_at noughts noughts_len)
open Dk (Sec secCells secCells_size secCells_at size_sector)
set_option linter.unusedVariables false

/-! ### Operations that are guarded -/
theorem wpList_want {P : Program} {ops : Array Oper} {Q : Exit → Act → World → Prop} {a : Act} {w : World} {rest : List Oper} {o : Oper} (hw : Region.wanted o (yielded ops a.tmps) = true)
    (h : ∀ K : Act → World → Prop, (∀ a w, wpList P ops Q rest a w → K a w) → o.wp P a w K Q) : wpList P ops Q (o :: rest) a w :=
  wpList_step fun K hK => by rw [if_pos hw]; exact h K hK

theorem load_sec_w {ops : Array Oper} {rest : List Oper} {op : Oper} {a : Act} {w : World} {Q : Exit → Act → World → Prop} (hw : Region.wanted op (yielded ops a.tmps) = true) (x : Operand) (is : op.op = .load 29 x) (g : Nat) (vx : a.eval x = .pointer (some ⟨g, 0, none⟩)) (s : List UInt8) (h : Sec w g s)
    (go : wpList Try.prog ops Q rest (a.put op.dst (.agg (secCells s))) w) : wpList Try.prog ops Q (op :: rest) a w := by
  refine wpList_want hw fun K hK => ?_
  unfold Oper.wp execOp
  simp only [is, vx, h.load, Sem.run_bind, Sem.run_pure, Result.andThen_ok]
  exact hK _ _ go

theorem neq_sec_w {ops : Array Oper} {rest : List Oper} {op : Oper} {a : Act} {w : World} {Q : Exit → Act → World → Prop} (hw : Region.wanted op (yielded ops a.tmps) = true) (x y : Operand) (is : op.op = .binOp .neq 29 x y 29) (s t : List UInt8) (vx : a.eval x = .agg (secCells s)) (vy : a.eval y = .agg (secCells t)) (hs : s.length = 64) (ht : t.length = 64) (b : Bool) (hb : (!(s == t)) = b)
    (go : wpList Try.prog ops Q rest (a.put op.dst (.bool b)) w) : wpList Try.prog ops Q (op :: rest) a w := by
  refine wpList_want hw fun K hK => ?_
  have hg : Try.prog.eqGuardType Try.prog.depth 29 = false := by kernel_rfl
  subst hb
  unfold Oper.wp execOp
  simp only [is, vx, vy, Sem.run_bind, run_eqGuard_agg w .neq 29 x y _ _ hg, Dk.neq_sector s t hs ht w, Sem.run_pure, Result.andThen_ok]
  exact hK _ _ go

theorem eql_sec_w {ops : Array Oper} {rest : List Oper} {op : Oper} {a : Act} {w : World} {Q : Exit → Act → World → Prop} (hw : Region.wanted op (yielded ops a.tmps) = true) (x y : Operand) (is : op.op = .binOp .eql 29 x y 29) (s t : List UInt8) (vx : a.eval x = .agg (secCells s)) (vy : a.eval y = .agg (secCells t)) (hs : s.length = 64) (ht : t.length = 64) (b : Bool) (hb : (s == t) = b)
    (go : wpList Try.prog ops Q rest (a.put op.dst (.bool b)) w) : wpList Try.prog ops Q (op :: rest) a w := by
  refine wpList_want hw fun K hK => ?_
  have hg : Try.prog.eqGuardType Try.prog.depth 29 = false := by kernel_rfl
  subst hb
  unfold Oper.wp execOp
  simp only [is, vx, vy, Sem.run_bind, run_eqGuard_agg w .eql 29 x y _ _ hg, Dk.eql_sector s t hs ht w, Sem.run_pure, Result.andThen_ok]
  exact hK _ _ go

/-- A sector is read whole, at a step of a region that draws. -/
theorem yields_sec {ops : Array Oper} {S : World → Prop} {op : Oper} {a : Act} (hw : Region.wanted op (yielded ops a.tmps) = true) (x : Operand) (ho : op.op = .load 29 x)
    (g : Nat) (hx : a.eval x = .pointer (some ⟨g, 0, none⟩)) (s : List UInt8) (hS : ∀ w, S w → Sec w g s) : YieldsIf Try.prog ops S op (.agg (secCells s)) a :=
  .inl ⟨hw, fun w hw' => by
    unfold execOp
    simp only [ho, hx, (hS w hw').load, Sem.run_bind, Sem.run_pure, Result.andThen_ok]⟩

theorem max_nat (x y : Nat) : (if x < y then (y : Int) else (x : Int)) = ((max x y : Nat) : Int) := by split <;> omega

set_option maxHeartbeats 1000000 in
theorem rmark_any (w : World) (s : List UInt8) (hs : s.length = 64) :
    Calls Try.prog 20 #[.agg (secCells s)] w fun e w' => e = .returned (.int .u32 (markN s : Int)) ∧ Below w.heap.size w w' := by
  have hsa := fun g W => part_all g W
  have HM : Hid (max (val4 (cut s 0 4)) (val4 (cut s 60 4)) = markN s) := Lib.hid rfl
  go_enter Try.func20, Try.ntmps20
  go_wp2_with (first
    | (refine Dk.box_sec rfl _ rfl _ rfl hs ?_; intro w1 hS1 hB1 hZ1; have H0 := Lib.hid (And.intro hS1 hB1); clear hS1 hB1 hZ1))
  have K0 : Hid (∀ W, Sec W w.heap.size s ∧ Below w.heap.size w W → Calls Try.prog 31 #[.slice (some ⟨w.heap.size, 0, none⟩) 64 64, .int .i64 0] W fun e w' => e = .returned (.int .u32 (val4 (cut s 0 4) : Int)) ∧ W = w') :=
    Lib.hid (fun W h => rfour_any W w.heap.size 0 s h.1 (by omega))
  have K1 : Hid (∀ W, Sec W w.heap.size s ∧ Below w.heap.size w W → Calls Try.prog 31 #[.slice (some ⟨w.heap.size, 0, none⟩) 64 64, .int .i64 60] W fun e w' => e = .returned (.int .u32 (val4 (cut s 60 4) : Int)) ∧ W = w') :=
    Lib.hid (fun W h => rfour_any W w.heap.size 60 s h.1 (by omega))
  have h0 := H0.out
  have hd0 : Sec w1.drew w.heap.size s ∧ Below w.heap.size w w1.drew := ⟨Sec_drew h0.1, h0.2.drew⟩
  generalize val4 (cut s 0 4) = x0 at *
  generalize val4 (cut s 60 4) = x1 at *
  go_region_held3 (fun u => Sec u w.heap.size s ∧ Below w.heap.size w u)
    (first
      | exact hd0
      | assumption)
    (first
      | (go_at_call 31; ((with_reducible refine (K0.out _ (by assumption)).mono ?_); rintro e wz ⟨rfl, rfl⟩))
      | (go_at_call 31; ((with_reducible refine (K1.out _ (by assumption)).mono ?_); rintro e wz ⟨rfl, rfl⟩)))
  rw [max_nat]
  unfold Exit.then
  dsimp only
  go_wp2
  go_ret
  exact ⟨by rw [← HM.out]; rfl, hd0.2⟩

set_option maxHeartbeats 1000000 in
theorem mark_any (w : World) (s : List UInt8) (hs : s.length = 64) :
    Calls Try.prog 19 #[.agg (secCells s)] w fun e w' => e = .returned (.int .u32 (markN s : Int)) ∧ Below w.heap.size w w' := by
  have HM : Hid (max (val4 (cut s 0 4)) (val4 (cut s 60 4)) = markN s) := Lib.hid rfl
  go_enter Try.func19, Try.ntmps19
  go_wp2_with (first
    | (refine Dk.box_sec rfl _ rfl _ rfl hs ?_; intro w1 hS1 hB1 hZ1; have H0 := Lib.hid (And.intro hS1 hB1); clear hS1 hB1 hZ1))
  have K0 : Hid (∀ W, Sec W w.heap.size s ∧ Below w.heap.size w W → Calls Try.prog 32 #[.agg (secCells s), .int .i64 0] W fun e w' => e = .returned (.int .u32 (val4 (cut s 0 4) : Int)) ∧ Sec w' w.heap.size s ∧ Below w.heap.size w w') :=
    Lib.hid (fun W h => (number_any W 0 s hs (by omega)).mono fun e w' q => ⟨q.1, Sec.below h.1 q.2, h.2.trans (q.2.mono h.2.size)⟩)
  have K1 : Hid (∀ W, Sec W w.heap.size s ∧ Below w.heap.size w W → Calls Try.prog 32 #[.agg (secCells s), .int .i64 60] W fun e w' => e = .returned (.int .u32 (val4 (cut s 60 4) : Int)) ∧ Sec w' w.heap.size s ∧ Below w.heap.size w w') :=
    Lib.hid (fun W h => (number_any W 60 s hs (by omega)).mono fun e w' q => ⟨q.1, Sec.below h.1 q.2, h.2.trans (q.2.mono h.2.size)⟩)
  have h0 := H0.out
  have hd0 : Sec w1.drew w.heap.size s ∧ Below w.heap.size w w1.drew := ⟨Sec_drew h0.1, h0.2.drew⟩
  generalize val4 (cut s 0 4) = x0 at *
  generalize val4 (cut s 60 4) = x1 at *
  refine wp_region_held_drew (S := fun u => Sec u w.heap.size s ∧ Below w.heap.size w u) (by kernel_rfl) hd0 (fun hHeld => ?_)
  refine wpAnyH_take (i := 0) (oi := ⟨some 3, _, _, _, _, _⟩) (v := .agg (secCells s)) rfl (by kernel_rfl) (by kernel_rfl) (by kernel_rfl) (fun _ _ _ h => h) (yields_sec (by rfl) _ rfl w.heap.size rfl s (fun _ h => h.1)) (by assumption) ?_
  simp only [Act.put, List.setIfInBounds_toArray, List.set_cons_zero, List.set_cons_succ]
  refine wpAnyH_take (i := 2) (oi := ⟨some 5, _, _, _, _, _⟩) (v := .agg (secCells s)) rfl (by kernel_rfl) (by kernel_rfl) (by kernel_rfl) (fun _ _ _ h => h) (yields_sec (by rfl) _ rfl w.heap.size rfl s (fun _ h => h.1)) (by assumption) ?_
  simp only [Act.put, List.setIfInBounds_toArray, List.set_cons_zero, List.set_cons_succ]
  refine wpAnyH_ready (rs := [1]) (by kernel_rfl) (by simp) ?_
  refine AllReadyH.cons (o := ⟨some 4, _, _, _, _, _⟩) rfl (fun K hK => ?_) AllReadyH.nil
  go_simp
  refine (K0.out _ hHeld).mono ?_
  rintro e w2 ⟨rfl, h2⟩
  go_wp2_with fail
  refine hK.out _ _ h2 (fun hHeld2 => ?_)
  clear hK K hHeld
  try simp only [Act.put, List.setIfInBounds_toArray, List.set_cons_zero, List.set_cons_succ]
  refine wpAnyH_ready (rs := [3]) (by kernel_rfl) (by simp) ?_
  refine AllReadyH.cons (o := ⟨some 6, _, _, _, _, _⟩) rfl (fun K hK => ?_) AllReadyH.nil
  go_simp
  refine (K1.out _ hHeld2).mono ?_
  rintro e w3 ⟨rfl, h3⟩
  go_wp2_with fail
  refine hK.out _ _ h3 (fun hHeld3 => ?_)
  clear hK K hHeld2
  try simp only [Act.put, List.setIfInBounds_toArray, List.set_cons_zero, List.set_cons_succ]
  refine wpAnyH_take (i := 4) (oi := ⟨some 7, _, _, _, _, _⟩) (v := .int .u32 ((max x0 x1 : Nat) : Int)) rfl (by kernel_rfl) (by kernel_rfl) (by kernel_rfl) (fun _ _ _ h => h) (Or.inl ⟨by rfl, fun wq hSw => ?_⟩) (by assumption) ?_
  · go_simp
    simp only [max_nat]
  simp only [Act.put, List.setIfInBounds_toArray, List.set_cons_zero, List.set_cons_succ]
  refine wpAnyH_take (i := 5) (oi := ⟨some 2, _, _, _, _, _⟩) (v := .int .u32 ((max x0 x1 : Nat) : Int)) rfl (by kernel_rfl) (by kernel_rfl) (by kernel_rfl) (fun _ _ _ h => h) (Or.inl ⟨by rfl, fun wq hSw => ?_⟩) (by assumption) ?_
  · go_simp
  simp only [Act.put, List.setIfInBounds_toArray, List.set_cons_zero, List.set_cons_succ]
  refine wpAnyH_done (by kernel_rfl) ?_ _
  unfold Exit.then
  dsimp only
  go_wp2
  go_ret
  exact ⟨by rw [← HM.out]; rfl, h3.2⟩

end Go.Proofs.Ytbicdmhmpmdoeaa.Lf
