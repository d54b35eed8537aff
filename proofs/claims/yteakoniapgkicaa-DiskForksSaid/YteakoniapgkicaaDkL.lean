/- What the statements of layer 6 ask with: awake, same, step. -/
import Derived.Test.YteakoniapgkicaaDdC
import Derived.Test.YteakoniapgkicaaDkE
import Derived.Test.YteakoniapgkicaaKitE
import Derived.Deep.CutBlock
import Derived.Deep.DeepCutAuto
namespace Go.Proofs.Yteakoniapgkicaa.Dk
open Go.ChangeShapes Go.WideShapes Go.ChangeAt Go.RowKit
open Qu (Blk)
open Mv (Only)
open Se (All64 blanks Rows64 noughts noughts_len)
open By (cellsB cellsB_length cellsB_at)
open Dd (Pl At Went)
set_option linter.unusedVariables false

theorem at_below {w w' : World} {B : Nat} {q : Pl} {d : DS} (h : At w B q d) (k : Below w.heap.size w w') : At w' B q d := h.only (Mv.Only.ofBelow k fun _ => False) (fun _ _ h => h)

theorem readV_len {d : DS} (h : d.Ok) (i : Int) : (readV d i).length = 64 := by
  unfold readV
  split
  · rename_i h0
    obtain ⟨h1, h2, _⟩ := inR_yes h0
    have hl : i.toNat < d.now.length := by unfold DS.n at h2; omega
    rw [List.getD, List.getElem?_eq_getElem hl]
    exact h.now _ (List.getElem_mem _)
  · exact noughts_len

theorem Sec.below {w w' : World} {g : Nat} {s : List UInt8} (h : Sec w g s) (k : Below w.heap.size w w') : Sec w' g s := ⟨h.1, Mv.blk_only h.2 (Mv.Only.ofBelow k fun _ => False) (fun h => h)⟩

theorem sec_far {w w' : World} {g k : Nat} {s : List UInt8} (h : Sec w g s) (hg : w.grownBy w' (some k)) (hk : g ≠ k) : Sec w' g s := ⟨h.1, h.2.grown hg fun e => hk (by injection e)⟩

theorem neq_same (s : List UInt8) (hs : s.length = 64) (w : World) : (binOp .neq 42 (.agg (secCells s)) (.agg (secCells s))).run Try.prog w = .ok (.bool false) w := by
  rw [neq_sector s s hs hs w]
  simp

/-- As the walk meets it: a sector is held against itself. -/
theorem neq_step {ops : Array Oper} {rest : List Oper} {op : Oper} {a : Act} {w : World} {Q : Exit → Act → World → Prop} (free : op.guard = none) (x y : Operand) (is : op.op = .binOp .neq 42 x y 42) (s : List UInt8) (vx : a.eval x = .agg (secCells s)) (vy : a.eval y = .agg (secCells s)) (hs : s.length = 64)
    (go : wpList Try.prog ops Q rest (a.put op.dst (.bool false)) w) : wpList Try.prog ops Q (op :: rest) a w := by
  refine wpList_plain free fun K hK => ?_
  have hg : Try.prog.eqGuardType Try.prog.depth 42 = false := by kernel_rfl
  unfold Oper.wp execOp
  simp only [is, vx, vy, Sem.run_bind, run_eqGuard_agg w .neq 42 x y _ _ hg, neq_same s hs w, Sem.run_pure, Result.andThen_ok]
  exact hK _ _ go

theorem keep_same {w W : World} {x : Nat} {A0 A3 : Value} (hx : x < w.heap.size) (h : w.cell? ⟨x, 0, none⟩ = some A0 ∧ w.cell? ⟨x, 3, none⟩ = some A3) (hb : Below w.heap.size w W) :
    W.cell? ⟨x, 0, none⟩ = some A0 ∧ W.cell? ⟨x, 3, none⟩ = some A3 ∧ Below w.heap.size w W :=
  ⟨(hb.cell (p := ⟨x, 0, none⟩) hx).trans h.1, (hb.cell (p := ⟨x, 3, none⟩) hx).trans h.2, hb⟩

set_option maxHeartbeats 1000000 in
theorem same_any (w : World) (B C : Nat) (q : Pl) (p : Place) (d : DS) (h : At w B q d) (h' : RefAt w C p d) (n0 : 0 < d.n) (hn : d.n ≤ 20000) :
    Calls Try.prog 14 #[.pointer (some ⟨q.x, 0, none⟩), .pointer (some ⟨p.x, 0, none⟩)] w fun e w' => e = .returned (.bool true) ∧ Below w.heap.size w w' := by
  have c0 := h'.box.cell 0
  have c3 := h'.box.cell 3
  simp at c0 c3
  have hx := h'.box.lt
  have HQ := Lib.hid h
  have HR := Lib.hid h'
  have HC := Lib.hid (And.intro c0 c3)
  have hB0 := Below.refl w.heap.size w
  have n1 : (d.n : Int) ≤ 20000 := by omega
  clear h h' c0 c3
  go_enter Try.func14, Try.ntmps14
  go_wp2_with fail
  go_region_held3 (fun w' => w'.cell? ⟨p.x, 0, none⟩ = some (.slice (some ⟨p.a, 0, none⟩) d.n p.ca) ∧ w'.cell? ⟨p.x, 3, none⟩ = some (.bool d.off) ∧ Below w.heap.size w w')
    (first
      | exact keep_same hx HC.out hB0.drew
      | (go_split_ands; exact keep_same hx HC.out (below_then (by assumption) kB))
      | (go_split_ands; exact keep_same hx HC.out (below_then (by assumption) kA)))
    (first
      | ((with_reducible refine (Dd.len_any _ B q d (at_below HQ.out (by go_split_ands; assumption)) n0 hn).mono ?_); (rintro e wA ⟨rfl, kA⟩))
      | ((with_reducible refine (Dd.down_any _ B q d (at_below HQ.out (by go_split_ands; assumption)) n0 hn).mono ?_); (rintro e wB ⟨rfl, kB⟩)))
  have HB1 := Lib.hid (below_then (below_then hB0.drew kA) kB)
  clear kA kB
  unfold Exit.then
  dsimp only
  go_wp2_with fail
  go_loopw [5] (fun s5 wr => ∃ i : Nat, s5 = .int .i64 ((i : Int) - 1) ∧ i ≤ d.n + 2 ∧ Below w.heap.size w wr) (fun s5 _ => d.n + 2 - (intOf s5 + 1).toNat)
  case atStart => exact ⟨0, rfl, by omega, HB1.out⟩
  case round =>
    clear HB1
    obtain ⟨i, rfl, hi, hB⟩ := hrel
    have c0 := (hB.cell (p := ⟨p.x, 0, none⟩) hx).trans HC.out.1
    have HBr := Lib.hid hB
    have HQr := Lib.hid (at_below HQ.out hB)
    have HRr := Lib.hid (HR.out.below hB)
    have HL := Lib.hid (readV_len HQ.out.ok ((i : Int) - 1))
    clear hB
    have i0 : (-1 : Int) ≤ (i : Int) - 1 := by omega
    by_cases hlt : i ≤ d.n + 1
    · have i1 : (i : Int) - 1 ≤ (d.n : Int) := by omega
      have i2 : (i : Int) ≤ (d.n : Int) + 1 := by omega
      go_wp2_with (first
        | ((with_reducible refine (Dd.read_any _ B q d ((i : Int) - 1) HQr.out n0 hn).mono ?_); (rintro e1 w1 ⟨rfl, k1⟩))
        | (refine new_sec (op := ⟨some 6, _, _, _, _, _⟩) rfl rfl ?_; intro w2 hS2 hB2 hZ2)
        | (refine store_sec (w := w2) rfl _ _ rfl _ rfl _ rfl _ hS2 HL.out ?_; intro w3 hS3 hG3))
      have hk3 : Below wr.heap.size wr w3 := (below_then k1 hB2).grown hG3 (below_then k1 hB2).size (fun k hk => by injection hk with hk; have := k1.size; omega)
      have HK3 := Lib.hid hk3
      have HS3 := Lib.hid hS3
      have HR3 := Lib.hid (HRr.out.below hk3)
      clear k1 hB2 hG3 hk3 hS3 hS2 hZ2
      generalize w1.heap.size = g6 at *
      refine (rread_any _ C p d ((i : Int) - 1) HR3.out n0 (by omega)).mono ?_
      rintro e4 w4 ⟨rfl, k4⟩
      have HS4 := Lib.hid (HS3.out.below k4)
      have HK4 := Lib.hid (below_then HK3.out k4)
      clear k4
      go_upto_region 8 with (first
        | (refine new_sec (op := ⟨some 8, _, _, _, _, _⟩) rfl rfl ?_; intro w5 hT5 hB5 hZ5; have HS5 := Lib.hid (HS4.out.below hB5))
        | (refine store_sec (w := w5) rfl _ _ rfl _ rfl _ rfl _ hT5 HL.out ?_; intro w6 hT6 hG6; have hS6 := sec_far HS5.out hG6 (Nat.ne_of_lt HS4.out.2.lt)))
      have HB6 := Lib.hid (((below_then HK4.out hB5).grown hG6 (below_then HK4.out hB5).size (fun k hk => by injection hk with hk; have := HK4.out.size; omega) : Below wr.heap.size wr w6))
      have hl4 := HL.out
      clear hB5 hG6 hZ5 hT5
      go_wp2_with (first
        | ((with_reducible refine load_sec (op := ⟨some 48, _, _, _, _, _⟩) ?_ (.tmp 6) ?_ _ ?_ _ hS6 ?_); (next => rfl); (next => rfl); (next => rfl))
        | ((with_reducible refine load_sec (op := ⟨some 49, _, _, _, _, _⟩) ?_ (.tmp 8) ?_ _ ?_ _ hT6 ?_); (next => rfl); (next => rfl); (next => rfl))
        | ((with_reducible refine neq_step (op := ⟨some 50, _, _, _, _, _⟩) ?_ (.tmp 48) (.tmp 49) ?_ _ ?_ ?_ hl4 ?_); (next => rfl); (next => rfl); (next => rfl); (next => rfl)))
      go_roundw
      case rel => exact ⟨i + 1, by first | go_num | (congr 1; omega), by omega, below_then HBr.out HB6.out⟩
      case measure => simp [intOf]; omega
    · have i1 : ¬ (i : Int) - 1 ≤ (d.n : Int) := by omega
      have i2 : ¬ (i : Int) ≤ (d.n : Int) + 1 := by omega
      go_wp2_with fail
      go_ret
      exact ⟨rfl, HBr.out⟩

end Go.Proofs.Yteakoniapgkicaa.Dk
