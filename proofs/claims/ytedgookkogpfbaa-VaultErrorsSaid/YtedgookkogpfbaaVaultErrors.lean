/- P9.1: what may not be opened, and why, on a disk of one to twelve sectors, one of them marked with all bits at either end or none, power on or off; what a nil vault answers. No conditions. -/
import Derived.Test.YtedgookkogpfbaaVqC
import Derived.Test.YtedgookkogpfbaaBa
set_option maxRecDepth 100000
namespace Go.Proofs.Ytedgookkogpfbaa.vaultErrors
open Go.ChangeShapes Go.WideShapes Go.ChangeAt Go.RowKit
set_option linter.unusedVariables false

theorem own : ownKnob Try.prog.godebug = none := by kernel_rfl

open Qu (Blk)
open Mv (Only)
open By (cellsB cellsB_length)
open Dk (DS dsNew crashD RefAt writeD writeE secCells Sec)
open Dd (Lay At Pl)
open Jl (modN modN_lt mod_any)
open Vt Vq Vl

def litA : List UInt8 := [255, 255, 255, 255] ++ List.replicate 60 0
def litB : List UInt8 := List.replicate 60 0 ++ [255, 255, 255, 255]

/-- A sector written out. -/
theorem build_sec {ops : Array Oper} {rest : List Oper} {op : Oper} {a : Act} {w : World} {Q : Exit → Act → World → Prop} (free : op.guard = none) (ps : Array (Nat × Operand)) (is : op.op = .build 43 ps) (qs : Array (Nat × Value)) (hq : (ps.map fun x => (x.1, a.eval x.2)) = qs) (s : List UInt8) (hr : ∀ W, (Instr.build 43 qs).run Try.prog W = .ok (.agg (secCells s)) W)
    (go : wpList Try.prog ops Q rest (a.put op.dst (.agg (secCells s))) w) : wpList Try.prog ops Q (op :: rest) a w := by
  refine wpList_plain free fun K hK => ?_
  have hq' : (ps.map fun (x : Nat × Operand) => match x with | (i, x) => (i, a.eval x)) = qs := hq
  unfold Oper.wp execOp
  simp only [is, hq', hr, Sem.run_bind, Sem.run_pure, Result.andThen_ok]
  exact hK _ _ go

theorem build_A (W : World) : (Instr.build 43 #[(0, .int .u8 255), (1, .int .u8 255), (2, .int .u8 255), (3, .int .u8 255)]).run Try.prog W = .ok (.agg (secCells litA)) W := by kernel_rfl

theorem build_B (W : World) : (Instr.build 43 #[(60, .int .u8 255), (61, .int .u8 255), (62, .int .u8 255), (63, .int .u8 255)]).run Try.prog W = .ok (.agg (secCells litB)) W := by kernel_rfl

set_option maxRecDepth 100000 in
set_option maxHeartbeats 8000000 in
theorem walk (w : World) (a0 : Int) (wf0 : (Lit.int .i64 a0).wf = true) (a1 : Bool) (a2 : Int) (wf2 : (Lit.int .i64 a2).wf = true) (a3 : Bool) :
    Calls Try.prog 7 #[.int .i64 a0, .bool a1, .int .i64 a2, .bool a3] w fun e w' => e = .returned (.bool true) ∧ Below w.heap.size w w' := by
  have HM0 := Lib.hid (mod_any a0 12 (by omega) (by omega) w)
  obtain ⟨t0, ht0⟩ : ∃ t, modN a0 12 = t := ⟨_, rfl⟩
  have ht1 : t0 < 12 := by rw [← ht0]; exact modN_lt a0 (by omega)
  rw [ht0] at HM0
  obtain ⟨N, hN⟩ : ∃ N : Nat, t0 + 1 = N := ⟨_, rfl⟩
  have hN1 : (1 : Int) + (t0 : Int) = (N : Int) := by omega
  have hN12 : (N : Int) ≤ 12 := by omega
  have HNN : Hid (1 ≤ N ∧ N ≤ 12) := Lib.hid ⟨by omega, by omega⟩
  obtain ⟨M, hM⟩ : ∃ M : Nat, 2 * N = M := ⟨_, rfl⟩
  have hM1 : (2 : Int) * (N : Int) = (M : Int) := by omega
  have hM2 : (M : Int) ≤ 24 := by omega
  obtain ⟨V, hV⟩ : ∃ V, modN a2 M = V := ⟨_, rfl⟩
  have HMV : Hid (∀ u, Calls Try.prog 8 #[.int .i64 a2, .int .i64 (M : Int)] u fun e w' => e = .returned (.int .i64 (V : Int)) ∧ w' = u) := Lib.hid (fun u => by have h := mod_any a2 M (by omega) (by omega) u; rw [hV] at h; exact h)
  have hw1 : IntKind.i64.wrap ((2 : Int) * (N : Int)) = (M : Int) := by rw [hM1, IntWalk.i64_in _ (by omega)]
  clear ht0 ht1 hN hM hV wf0 wf2 hM1
  go_enter Try.func7, Try.ntmps7
  go_wp2_with (first | (refine HM0.out.mono ?_; rintro r w2 ⟨rfl, hw⟩; rw [hw]; clear hw w2))
  refine (Dd.new_ok w N (by have := HNN.out; omega) (by have := HNN.out; omega)).mono ?_
  rintro r w1 ⟨q, rfl, hq, hlo, hb⟩
  have HQ := Lib.hid (And.intro hq (And.intro hlo hb))
  clear hq hlo hb HM0
  go_wp2_with fail
  refine (Dk.rnew_any w1 N (by have := HNN.out; omega)).mono ?_
  rintro r w2 ⟨p, rfl, hp, hlp, hb⟩
  have HS2 := Lib.hid (st_new HQ.out.1 HQ.out.2.1 HQ.out.2.2 hp hlp hb HNN.out.1 (by have := HNN.out; omega))
  clear hp hlp hb HQ
  generalize dsNew N = d at *
  go_wp2_with fail
  refine (awake_any w2).mono ?_
  rintro r w3 ⟨rfl, k3⟩
  have HS3 := Lib.hid (HS2.out.later k3)
  clear k3 HS2
  have HBA := Lib.hid build_A
  have HBB := Lib.hid build_B
  have hlA : litA.length = 64 := rfl
  have hlB : litB.length = 64 := rfl
  generalize litA = LA at *
  generalize litB = LB at *
  have HLA := Lib.hid hlA
  have HLB := Lib.hid hlB
  clear hlA hlB
  cases a3
  case' true =>
    go_upto_region 9 with (first
      | ((with_reducible refine build_sec (op := ⟨some 36, _, _, _, _, _⟩) ?_ #[(0, .const (.int .u8 255)), (1, .const (.int .u8 255)), (2, .const (.int .u8 255)), (3, .const (.int .u8 255))] ?_ _ ?_ LA HBA.out ?_); (next => rfl); (next => rfl); (next => (simp only [List.map_toArray, List.map_cons, List.map_nil]; rfl)))
      | ((with_reducible refine Dk.new_sec (w := w3) (op := ⟨some 12, _, _, _, _, _⟩) rfl rfl ?_); intro w4 hS4 hB4 hZ4)
      | ((with_reducible refine Dk.store_sec (w := w4) (op := ⟨none, _, _, _, _, _⟩) ?_ (.tmp 12) (.tmp 36) ?_ _ ?_ LA ?_ _ hS4 HLA.out ?_); (next => rfl); (next => rfl); (next => rfl); (next => rfl); intro w5 hS5 hG5)
      | ((with_reducible refine build_sec (op := ⟨some 38, _, _, _, _, _⟩) ?_ #[(60, .const (.int .u8 255)), (61, .const (.int .u8 255)), (62, .const (.int .u8 255)), (63, .const (.int .u8 255))] ?_ _ ?_ LB HBB.out ?_); (next => rfl); (next => rfl); (next => (simp only [List.map_toArray, List.map_cons, List.map_nil]; rfl)))
      | ((with_reducible refine Dk.store_sec (w := w5) (op := ⟨none, _, _, _, _, _⟩) ?_ (.tmp 12) (.tmp 38) ?_ _ ?_ LB ?_ _ hS5 HLB.out ?_); (next => rfl); (next => rfl); (next => rfl); (next => rfl); intro w6 hS6 hG6))
    have HK : Hid (Sec w6 w3.heap.size LB ∧ LB.length = 64 ∧ St w w6 none q p none none d d ∧ w3.heap.size < w6.heap.size ∧ Below w3.heap.size w3 w6) := Lib.hid (by
      have k6 : Below w3.heap.size w3 w6 := (hB4.grown hG5 hB4.size (fun k hk => by injection hk with hk; omega)).grown hG6 (by have := hB4.size; have := hG5.size; omega) (fun k hk => by injection hk with hk; omega)
      exact ⟨hS6, HLB.out, HS3.out.later k6, hS6.2.lt, k6⟩)
    obtain ⟨LX, hLX⟩ : ∃ LX, LX = LB := ⟨_, rfl⟩
    rw [← hLX] at HK
    generalize w6 = wb at *
    clear hS4 hB4 hZ4 hS5 hG5 hS6 hG6 hLX HBA HBB HLA HLB
  case' false =>
    go_upto_region 9 with (first
      | ((with_reducible refine build_sec (op := ⟨some 36, _, _, _, _, _⟩) ?_ #[(0, .const (.int .u8 255)), (1, .const (.int .u8 255)), (2, .const (.int .u8 255)), (3, .const (.int .u8 255))] ?_ _ ?_ LA HBA.out ?_); (next => rfl); (next => rfl); (next => (simp only [List.map_toArray, List.map_cons, List.map_nil]; rfl)))
      | ((with_reducible refine Dk.new_sec (w := w3) (op := ⟨some 12, _, _, _, _, _⟩) rfl rfl ?_); intro w4 hS4 hB4 hZ4)
      | ((with_reducible refine Dk.store_sec (w := w4) (op := ⟨none, _, _, _, _, _⟩) ?_ (.tmp 12) (.tmp 36) ?_ _ ?_ LA ?_ _ hS4 HLA.out ?_); (next => rfl); (next => rfl); (next => rfl); (next => rfl); intro w5 hS5 hG5))
    have HK : Hid (Sec w5 w3.heap.size LA ∧ LA.length = 64 ∧ St w w5 none q p none none d d ∧ w3.heap.size < w5.heap.size ∧ Below w3.heap.size w3 w5) := Lib.hid (by
      have k6 : Below w3.heap.size w3 w5 := hB4.grown hG5 hB4.size (fun k hk => by injection hk with hk; omega)
      exact ⟨hS5, HLA.out, HS3.out.later k6, hS5.2.lt, k6⟩)
    obtain ⟨LX, hLX⟩ : ∃ LX, LX = LA := ⟨_, rfl⟩
    rw [← hLX] at HK
    generalize w5 = wb at *
    clear hS4 hB4 hZ4 hS5 hG5 hLX HBA HBB HLA HLB
  all_goals
    generalize hK : w3.heap.size = K at *
    have HKK := Lib.hid hK
    have hu : Try.prog.underlying 43 = some (.array 64 5) := Try.underlying43
    have hi : (Try.prog.info? 43).map (·.size) = some (cellsB LX).length := by rw [Dk.size_sector, cellsB_length, HK.out.2.1]
    have HW := Lib.hid (s_write (HK.out.2.2.1.later (Below.refl _ _).drew) (V : Int) LX HK.out.2.1)
    have q8 : wb.rangeAt K 0 (cellsB LX) := HK.out.1.range
    have HKP : Hid (∀ w', Only wb.drew w' q.has → Sec w' K LX) := Lib.hid (fun w' ho => ⟨HK.out.2.1, Mv.blk_only (Lf.Sec_drew HK.out.1).2 ho (fun hs => by
      obtain ⟨A, A2, h1, _⟩ := HS3.out.some
      have := h1.there _ hs
      have := HKK.out
      omega)⟩)
    have HKQ : Hid (∀ w', Only wb.drew w' q.has → w'.rangeAt K 0 (cellsB LX)) := Lib.hid (fun w' ho => (HKP.out w' ho).range)
    clear hK
    go_region_held3 (fun u => u.rangeAt K 0 (cellsB LX))
      (first
        | exact q8
        | exact HKQ.out _ ho7)
      (first
        | (go_at_call 8; (with_reducible refine (HMV.out _).mono ?_); rintro r wz ⟨rfl, hw⟩; rw [hw]; clear hw wz)
        | (go_at_call 18; (refine HW.out.mono ?_; rintro r w7 ⟨rfl, hS7, ho7⟩)))
    unfold Exit.then
    dsimp only
    have HS7 := Lib.hid hS7
    have HB7 := Lib.hid (HKP.out w7 ho7)
    clear hS7 ho7 q8 HKQ HKP HW
    have HW2 := Lib.hid (s_rwrite (HS7.out.later (Below.refl _ _).drew) (V : Int) LX HK.out.2.1)
    have q9 : w7.rangeAt K 0 (cellsB LX) := HB7.out.range
    have HKQ2 : Hid (∀ w', Only w7.drew w' p.has → w'.rangeAt K 0 (cellsB LX)) := Lib.hid (fun w' ho => Dk.Sec.range ⟨HK.out.2.1, Mv.blk_only (Lf.Sec_drew HB7.out).2 ho (fun hs => by
      obtain ⟨A, A2, _, h2, _⟩ := HS3.out.some
      have := ref_there h2 _ hs
      have := HKK.out
      omega)⟩)
    go_wp2_with fail
    go_region_held3 (fun u => u.rangeAt K 0 (cellsB LX))
      (first
        | exact q9
        | exact HKQ2.out _ ho8)
      (first
        | (go_at_call 8; (with_reducible refine (HMV.out _).mono ?_); rintro r wz ⟨rfl, hw⟩; rw [hw]; clear hw wz)
        | (go_at_call 19; (refine HW2.out.mono ?_; rintro r w8 ⟨rfl, hS8, ho8⟩)))
    unfold Exit.then
    dsimp only
    have HS8 := Lib.hid hS8
    clear hS8 ho8 q9 HKQ2 HW2 HS7 HB7 HK HKK hu hi HS3
    generalize writeD d (V : Int) LX = dw at *
    cases a1
    case' true =>
      obtain ⟨W9, hW9⟩ : ∃ W9, W9 = w8.alloc (.cells #[.int .i64 64] 3) := ⟨_, rfl⟩
      have HI9 := Dd.ints_one w8 64
      rw [← hW9] at HI9
      have k9 : Below w8.heap.size w8 W9 := by rw [hW9]; exact (Below.refl _ _).alloc (Nat.le_refl _) _
      have HC := Lib.hid (s_crash (HS8.out.later k9) 1 HI9 (fun a ha hn hh => by
        injection ha with ha
        subst ha
        obtain ⟨A, A2, h1, _⟩ := HS8.out.some
        have := h1.there _ hh
        exact Nat.lt_irrefl _ this) (by omega) (fun k hk => by omega))
      have HW9 := Lib.hid hW9
      clear hW9 HI9 k9
      go_wp2_with fail
      rw [← HW9.out]
      refine HC.out.mono ?_
      rintro r w10 ⟨rfl, hS10⟩
      have HS10 := Lib.hid hS10
      clear hS10 HC HW9 HS8
      obtain ⟨W11, hW11⟩ : ∃ W11, W11 = w10.alloc (.cells #[.int .i64 64] 3) := ⟨_, rfl⟩
      have HI11 := Dd.ints_one w10 64
      rw [← hW11] at HI11
      have k11 : Below w10.heap.size w10 W11 := by rw [hW11]; exact (Below.refl _ _).alloc (Nat.le_refl _) _
      have HC := Lib.hid (s_rcrash (HS10.out.later k11) 1 HI11 (fun a ha hn hh => by
        injection ha with ha
        subst ha
        obtain ⟨A, A2, _, h2, _⟩ := HS10.out.some
        have := ref_there h2 _ hh
        exact Nat.lt_irrefl _ this) (by omega) (fun k hk => by omega))
      have HW11 := Lib.hid hW11
      clear hW11 HI11 k11
      go_wp2_with fail
      rw [← HW11.out]
      refine HC.out.mono ?_
      rintro r w12 ⟨rfl, hS12⟩
      have HX : Hid (St w w12 none q p none none (crashD dw 1 fun _ => 64) (crashD dw 1 fun _ => 64)) := Lib.hid hS12
      generalize crashD dw 1 (fun _ => 64) = dx at *
      generalize w12 = wx at *
      clear hS12 HC HW11 HS10
    case' false =>
      go_wp2_with fail
      have HX : Hid (St w w8 none q p none none dw dw) := Lib.hid HS8.out
      generalize dw = dx at *
      generalize w8 = wx at *
      clear HS8
    all_goals
      have HON := Lib.hid (fun u => Vl.open_nil u)
      have HAN := Lib.hid (fun u v => Vl.add_nil u v)
      have HCN := Lib.hid (fun u v => Vl.compact_nil u v)
      have HBN := Lib.hid (fun u => Vl.base_nil u)
      have HRN := Lib.hid (fun u => Vl.records_nil u)
      have HHN := Lib.hid (fun u => Vl.half_nil u)
      have HUN := Lib.hid (fun u => Vl.used_nil u)
      have HDN := Lib.hid (fun u => Vl.disk_nil u)
      by_cases hE : vopenE dx = 0
      · have HO := Lib.hid (s_open HX.out hE)
        have HE := Lib.hid hE
        clear hE
        go_wp2_with fail
        refine HO.out.mono ?_
        rintro r w13 ⟨x, rfl, hS13⟩
        have HR := Lib.hid (s_ropen hS13 HE.out)
        clear hS13 HO
        go_wp2_with fail
        refine HR.out.mono ?_
        rintro r w14 ⟨x2, rfl, hS14⟩
        have HS14 := Lib.hid hS14
        clear hS14 HR
        go_wp2_with (first
          | (go_at_call 11; (with_reducible refine (HON.out _).mono ?_); rintro r u4 ⟨rfl, rfl⟩)
          | (go_at_call 24; (with_reducible refine (HAN.out _ _).mono ?_); rintro r u4 ⟨rfl, rfl⟩)
          | (go_at_call 14; (with_reducible refine (HCN.out _ _).mono ?_); rintro r u4 ⟨rfl, rfl⟩)
          | (go_at_call 29; (with_reducible refine (HBN.out _).mono ?_); rintro r u4 ⟨rfl, rfl⟩)
          | (go_at_call 31; (with_reducible refine (HRN.out _).mono ?_); rintro r u4 ⟨rfl, rfl⟩)
          | (go_at_call 32; (with_reducible refine (HHN.out _).mono ?_); rintro r u4 ⟨rfl, rfl⟩)
          | (go_at_call 33; (with_reducible refine (HUN.out _).mono ?_); rintro r u4 ⟨rfl, rfl⟩)
          | (go_at_call 27; (with_reducible refine (HDN.out _).mono ?_); rintro r u4 ⟨rfl, rfl⟩))
        go_ret
        exact ⟨rfl, HS14.out.below.alloc HS14.out.below.size _⟩
      · have HO := Lib.hid (s_open_bad HX.out hE)
        have HR : Hid (∀ u, St w u none q p none none (vopenDS dx) dx → Calls Try.prog 12 #[.pointer (some ⟨p.x, 0, none⟩)] u fun r w' => r = .returned (.tuple #[.pointer none, .int .i64 (vopenE dx)]) ∧ St w w' none q p none none (vopenDS dx) (vopenDS dx)) := Lib.hid (fun u hu => s_ropen_bad hu hE)
        generalize vopenE dx = E at *
        have b1 : (E == 0) = false := beq_eq_false_iff_ne.2 hE
        have b2 : (E != 0) = true := by rw [bne, b1]; rfl
        have b3 : (E == E) = true := beq_self_eq_true _
        clear hE
        go_wp2_with fail
        refine HO.out.mono ?_
        rintro r w13 ⟨rfl, hS13⟩
        have HR2 := Lib.hid (HR.out _ hS13)
        clear hS13 HO HR
        go_wp2_with fail
        refine HR2.out.mono ?_
        rintro r w14 ⟨rfl, hS14⟩
        have HS14 := Lib.hid hS14
        clear hS14 HR2
        go_wp2_with (first
          | (go_at_call 11; (with_reducible refine (HON.out _).mono ?_); rintro r u4 ⟨rfl, rfl⟩)
          | (go_at_call 24; (with_reducible refine (HAN.out _ _).mono ?_); rintro r u4 ⟨rfl, rfl⟩)
          | (go_at_call 14; (with_reducible refine (HCN.out _ _).mono ?_); rintro r u4 ⟨rfl, rfl⟩)
          | (go_at_call 29; (with_reducible refine (HBN.out _).mono ?_); rintro r u4 ⟨rfl, rfl⟩)
          | (go_at_call 31; (with_reducible refine (HRN.out _).mono ?_); rintro r u4 ⟨rfl, rfl⟩)
          | (go_at_call 32; (with_reducible refine (HHN.out _).mono ?_); rintro r u4 ⟨rfl, rfl⟩)
          | (go_at_call 33; (with_reducible refine (HUN.out _).mono ?_); rintro r u4 ⟨rfl, rfl⟩)
          | (go_at_call 27; (with_reducible refine (HDN.out _).mono ?_); rintro r u4 ⟨rfl, rfl⟩))
        go_ret
        exact ⟨rfl, HS14.out.below.alloc HS14.out.below.size _⟩

set_option maxRecDepth 100000 in
theorem lifted (os : Os) (started : os.Started) (H : Type) (enc : TypeId × Value → H) :
    ReturnsInHanded {} Try.checked os 7 .any (Rows.vaultErrorsSpec.pre6 enc Try.prog Try.f7 Rows.vaultErrorsRow.domain false) (Rows.vaultErrorsSpec.post enc Try.prog Try.f7 false true false false) := by
  refine returnsInHanded_of_change (C := Try.checked) own started (by kernel_rfl) Try.func7
    (ChangeSpec.witness6 (enc := enc) (C := Try.checked) false ⟨#[], #[.int .i64 0, .bool false, .int .i64 0, .bool false], []⟩ 8 (by kernel_rfl) (by kernel_rfl) (by kernel_rfl) (by kernel_rfl)) ?_
  intro W base args ds gs before hval0 hW hcnd _
  have hval : ∀ (j : Nat) t v, Try.f7.params[j]? = some t → args[j]? = some v → Value.okWide Try.prog W .any base t v := hval0
  have hW' := hW
  obtain ⟨p, q, hA0, hV, rfl, hfz, hnd⟩ := hW
  have hA : DataW.TrodAll enc Try.prog W 0 (fun _ => true) true Try.f7.params.toList args.toList ds p := hA0
  rw [Try.params7] at hA hval
  obtain ⟨v0, vs0, d0, ds0, p0, q0, hargs, rfl, rfl, h0, r0⟩ := trodAll_cons hA
  obtain ⟨v1, vs1, d1, ds1, p1, q1, rfl, rfl, rfl, h1, r1⟩ := trodAll_cons r0
  obtain ⟨v2, vs2, d2, ds2, p2, q2, rfl, rfl, rfl, h2, r2⟩ := trodAll_cons r1
  obtain ⟨v3, vs3, d3, ds3, p3, q3, rfl, rfl, rfl, h3, r3⟩ := trodAll_cons r2
  obtain ⟨rfl, rfl, rfl⟩ := trodAll_nil r3
  obtain rfl : args = #[v0, v1, v2, v3] := by cases args; simp_all
  obtain ⟨a0, rfl, _, _, w0⟩ := open_int Try.underlying3 (hval 0 3 v0 rfl rfl) h0
  obtain ⟨a1, rfl, _, _⟩ := open_bool Try.underlying4 (hval 1 4 v1 rfl rfl) h1
  obtain ⟨a2, rfl, _, _, w2⟩ := open_int Try.underlying3 (hval 2 3 v2 rfl rfl) h2
  obtain ⟨a3, rfl, _, _⟩ := open_bool Try.underlying4 (hval 3 4 v3 rfl rfl) h3
  refine (walk W a0 w0 a1 a2 w2 a3).mono fun e W' ⟨he, hb⟩ => ?_
  subst he
  exact ⟨_, rfl, Hk.closeLaw (tb := 4) (by kernel_rfl) (by kernel_rfl) rfl rfl rfl Try.underlying4 hW' hb⟩

theorem over : Rows.vaultErrorsRow.holds Try.pinned (OpenSpec.ofChange Rows.vaultErrorsSpec) :=
  OpenClaim.holds_of_wide 7 Try.f7 rfl rfl rfl rfl rfl rfl rfl ⟨rfl, rfl, rfl, rfl, rfl⟩ rfl rfl rfl rfl rfl (by kernel_rfl) Try.func7 (by kernel_rfl)
    (of_decide_eq_true (by kernel_rfl)) (by unfold Func.isWrapper; first | (rw [if_pos (by decide +kernel)]; kernel_rfl) | (rw [if_neg (by decide +kernel)]; exact ⟨rfl, rfl⟩))
    (fun os started H enc _ => lifted os started H enc)

/-- The statement. -/
theorem proved : Rows.VaultErrorsSaid :=
  over
end Go.Proofs.Ytedgookkogpfbaa.vaultErrors
