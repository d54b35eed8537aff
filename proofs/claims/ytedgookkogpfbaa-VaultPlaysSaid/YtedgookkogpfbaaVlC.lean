/- The landed vault in memory: Compact. -/
import Derived.Test.YtedgookkogpfbaaVlB
set_option maxRecDepth 100000
namespace Go.Proofs.Ytedgookkogpfbaa.Vl
open Go.ChangeShapes Go.WideShapes Go.ChangeAt Go.RowKit
open Qu (Blk)
open Mv (Only Fresh)
open By (Own8 Bys cellsB cellsB_length)
open Dk (DS)
open Dd (Lay At Tidy Pl)
open Jr (JS Recd JHas Fit newE blankJ openJ addE addDS addJ stopE needN blk_blk_ne own_own_ne ownBlock_any)
open Jl (RecE Told AddE own_far_disk)
open Vt
set_option linter.unusedVariables false

theorem size_vault : (Try.prog.info? 80).map (·.size) = some 5 := by kernel_rfl

theorem load_vault {ops : Array Oper} {rest : List Oper} {op : Oper} {a : Act} {w : World} {Q : Exit → Act → World → Prop} (free : op.guard = none) (x : Operand) (is : op.op = .load 80 x) (g : Nat) (vx : a.eval x = .pointer (some ⟨g, 0, none⟩)) (vs : Array Value) (h : Blk w g 80 vs) (hz : vs.size = 5)
    (go : wpList Try.prog ops Q rest (a.put op.dst (.agg vs)) w) : wpList Try.prog ops Q (op :: rest) a w := by
  refine wpList_plain free fun K hK => ?_
  have hl := run_loadVar_row (P := Try.prog) w g 80 80 vs (0, 0) _ h.here Try.underlying80 rfl (by rw [size_vault, hz])
  unfold Oper.wp execOp
  simp only [is, vx, Instr.loadAt, Instr.sureAddr, hl, Sem.run_bind, Sem.run_pure, Result.andThen_ok]
  exact hK _ _ go

/-- A vault is stored in its box. -/
theorem store_vault {ops : Array Oper} {rest : List Oper} {op : Oper} {a : Act} {w : World} {Q : Exit → Act → World → Prop} (free : op.guard = none) (x y : Operand) (is : op.op = .store 80 x y) (g : Nat) (vx : a.eval x = .pointer (some ⟨g, 0, none⟩)) (vs : Array Value) (vy : a.eval y = .agg vs) (cs : Array Value) (h : Blk w g 80 cs) (hc : cs.size = 5) (hv : vs.size = 5) (h1 : vs.all (·.oneCell') = true)
    (go : ∀ w', Blk w' g 80 vs → Only w w' (Mv.one g) → wpList Try.prog ops Q rest (a.put op.dst undef) w') : wpList Try.prog ops Q (op :: rest) a w := by
  refine wpList_plain free fun K hK => ?_
  have hth : w.there g 0 vs.size := fun j hj => by
    refine ⟨?_, h.frozen _⟩
    rw [Nat.zero_add, h.cell j, Array.getElem?_eq_getElem (by omega)]
    rfl
  obtain ⟨q1, q2⟩ := Dk.setCells_blk vs.toList 0 w g _ _ h
  rw [Lf.leaf_cells _ _ (by simpa using hc) (by simpa using hv)] at q1
  have q0 := run_storeAt_mid (P := Try.prog) w g 0 80 vs hth (by rw [size_vault, hv]) h1
  unfold Oper.wp execOp
  simp only [is, vx, vy, q0, Sem.run_bind, Sem.run_pure, Result.andThen_ok]
  exact hK _ _ (go _ (by simpa using q1) (Mv.Only.ofGrown q2 fun i hi => by injection hi with hi; exact hi.symm))

section
variable {w w' : World} {B Bd x y c : Nat} {q : Pl} {A : Option Addr} {vs : List Value} {v : VS} {d : DS}

/-- A Compact that writes nothing. -/
theorem cstop_keep (h : VA w B x y q A c vs v) (hD : At w Bd q d) {b : List UInt8} (hs : cstopE d v b ≠ 0) (h9 : cstopE d v b ≠ 9) : VAE w B Bd x q y A (vcompDS d v b) (vcompV d v b) (vcompE d v b) (.returned (.int .i64 (cstopE d v b))) w := by
  have e1 : vcompE d v b = cstopE d v b := by unfold vcompE; rw [if_pos hs]
  have e2 : vcompDS d v b = d := by unfold vcompDS; rw [if_pos hs]
  have e3 : vcompV d v b = v := by unfold vcompV; rw [if_neg h9, if_pos hs]
  rw [e1, e2, e3]
  exact ⟨rfl, hD, y, A, c, vs, h, Mv.Only.refl _ _, .inl rfl, .inl rfl⟩

/-- The box turns to what was begun. -/
theorem vturn {W : World} {B' x' y' c' : Nat} {A' : Option Addr} {vs' : List Value} {v' : VS} {cs : Array Value} (hbx : Blk w x 80 cs) (hB : B ≤ x) (h' : VA w B' x' y' q A' c' vs' v') (hB' : B ≤ B') (hD : At w Bd q d) (ho : Only w W (Mv.one x))
    (hb : ∃ ep : Nat, (v'.dead = false → ep = v'.epoch) ∧ Blk W x 80 #[.pointer (some ⟨q.x, 0, none⟩), .int .i64 (v'.half : Int), .int .u32 (ep : Int), .pointer (some ⟨y', 0, none⟩), .bool v'.dead]) :
    VA W B x y' q A' c' vs' v' ∧ At W Bd q d := by
  have hJ := jat_box h'.jat hbx ho
  refine ⟨⟨hB, hb, ⟨Nat.le_trans hB' hJ.base, hJ.box, Lf.own_lower hJ.rows.own hB', hJ.rows.len, fun i u hu => ?_⟩⟩, at_box hD hbx ho⟩
  obtain ⟨z, z1, z2⟩ := hJ.rows.each i u hu
  exact ⟨z, z1, Lf.own_lower z2 hB'⟩

theorem half_is (v : VS) (h1 : v.half ≤ 1) : blankJ ((1 - v.half) * v.n) v.n (v.epoch + 1) = newHalf v := by
  unfold newHalf
  congr 1
  rcases Nat.le_one_iff_eq_zero_or_eq_one.1 h1 with e | e
  · rw [e]; simp
  · rw [e]; simp

set_option maxHeartbeats 4000000 in
theorem vcomp_any {Ab : Option Addr} {cb : Nat} {b : List UInt8} (h : VA w B x y q A c vs v) (hD : At w Bd q d) (hf : VFit d v) (hb : Bys w w.heap.size Ab b.length b) (hA0 : Ab = none → b.length = 0 ∧ cb = 0) (hlen : b.length ≤ 1000000000000) :
    Calls Try.prog 14 #[.pointer (some ⟨x, 0, none⟩), .slice Ab b.length cb] w (VAE w B Bd x q y A (vcompDS d v b) (vcompV d v b) (vcompE d v b)) := by
  by_cases hc : (v.dead || d.off) = true
  · have es : cstopE d v b = 9 := by unfold cstopE; rw [if_pos hc]
    have HE : Hid (vcompE d v b = 9 ∧ vcompDS d v b = d ∧ vcompV d v b = { v with dead := true }) := Lib.hid ⟨by unfold vcompE; rw [es, if_pos (by decide)], by unfold vcompDS; rw [es, if_pos (by decide)], by unfold vcompV; rw [if_pos es]⟩
    have HP := Lib.hid (h.die hD)
    have HR := Lib.hid (refused_stop h hD hc)
    clear h hD hf hb hc es
    go_enter Try.func14, Try.ntmps14
    go_wp2_with (first | (go_at_call 46; (with_reducible refine HR.out.mono ?_); rintro r w2 ⟨rfl, hw⟩; rw [hw]; clear hw w2))
    go_ret
    rw [HE.out.1, HE.out.2.1, HE.out.2.2]
    exact ⟨rfl, HP.out.2.1, y, A, c, vs, HP.out.1, HP.out.2.2, .inl rfl, .inl rfl⟩
  have hc' : (v.dead || d.off) = false := by simpa using hc
  have hd : v.dead = false ∧ d.off = false := by
    cases h1 : v.dead with
    | true => rw [h1] at hc'; cases hc'
    | false => exact ⟨rfl, by rw [h1, Bool.false_or] at hc'; exact hc'⟩
  have HR := Lib.hid (refused_go h hD hc')
  have l0 : (b.length : Int) ≤ 1000000000000 := by omega
  by_cases h2 : 400000 ≤ b.length
  · have es : cstopE d v b = 2 := by unfold cstopE; rw [if_neg hc, if_pos h2]
    have HF := Lib.hid (cstop_keep h hD (b := b) (by omega) (by omega))
    rw [es] at HF
    have l1 : (400000 : Int) ≤ (b.length : Int) := by omega
    have l2 : decide (400000 ≤ b.length) = true := by simpa using h2
    clear h hD hf hb hc hc' hd h2 es
    generalize b.length = bl at *
    go_enter Try.func14, Try.ntmps14
    go_wp2_with (first | (go_at_call 46; (with_reducible refine HR.out.mono ?_); rintro r w2 ⟨rfl, hw⟩; rw [hw]; clear hw w2))
    go_ret
    exact HF.out
  have l1 : ¬ (400000 : Int) ≤ (b.length : Int) := by omega
  have l3 : decide ((400000 : Int) ≤ (b.length : Int)) = false := decide_eq_false l1
  have l2 : decide (400000 ≤ b.length) = false := by simpa using h2
  obtain ⟨ep, hep, hbx⟩ := h.box
  obtain rfl := hep hd.1
  have c0 := hbx.cell 0
  have c1 := hbx.cell 1
  have c2 := hbx.cell 2
  simp at c0 c1 c2
  by_cases hm : v.epoch = 4294967295
  · have es : cstopE d v b = 6 := by unfold cstopE; rw [if_neg hc, if_neg h2, if_pos (.inl hm)]
    have HF := Lib.hid (cstop_keep h hD (b := b) (by omega) (by omega))
    rw [es] at HF
    have m1 : ((v.epoch : Int) == 4294967295) = true := by rw [hm]; rfl
    clear h hD hf hb hc hc' hd h2 es hbx hep hm
    generalize v.epoch = ve at *
    generalize b.length = bl at *
    go_enter Try.func14, Try.ntmps14
    go_wp2_with (first | (go_at_call 46; (with_reducible refine HR.out.mono ?_); rintro r w2 ⟨rfl, hw⟩; rw [hw]; clear hw w2))
    go_ret
    exact HF.out
  have m1 : ((v.epoch : Int) == 4294967295) = false := beq_eq_false_iff_ne.2 (by omega)
  have he32 := hf.e2
  have hh1 := hf.h1
  have hn2 := hf.n2
  have hsz := hf.size
  have hdn := hf.fit.dn
  obtain ⟨E1, hE1⟩ : ∃ E1, v.epoch + 1 = E1 := ⟨_, rfl⟩
  obtain ⟨G, hG⟩ : ∃ G, 1 - v.half = G := ⟨_, rfl⟩
  have u1 : IntKind.u32.wrap ((v.epoch : Int) + 1) = (E1 : Int) := by rw [IntWalk.u32_in _ (by omega)]; omega
  have n3 : IntKind.i64.wrap (1 - (v.half : Int)) = (G : Int) := by rw [IntWalk.i64_in _ (by omega)]; omega
  have hbl : ∀ J, blankJ (G * v.n) v.n E1 = J → J = newHalf v := fun J hJ => by rw [← hJ, ← hG, ← hE1]; exact half_is v hh1
  have HJ : Hid (blankJ (G * v.n) v.n E1 = newHalf v) := Lib.hid (by rw [← hG, ← hE1]; exact half_is v hh1)
  have HB := Lib.hid (begin_any w.drew G v.n E1 cb Ab b (Dk.at_below hD (Below.refl _ _).drew) hdn hf.fit.armed hd.2 hsz hn2 (by omega) (by omega) (by omega) (hb.below (Below.refl _ _).drew (Nat.le_refl _)) hA0 (by omega))
  unfold BeginE at HB
  rw [HJ.out] at HB
  have HKC : Hid (∀ u, Only w.drew u q.has → u.cell? ⟨x, 0, none⟩ = some (.pointer (some ⟨q.x, 0, none⟩)) ∧ u.cell? ⟨x, 1, none⟩ = some (.int .i64 (v.half : Int)) ∧ u.cell? ⟨x, 2, none⟩ = some (.int .u32 (v.epoch : Int))) := Lib.hid (fun u hu => by
    have hb2 := Mv.blk_only (hbx.below (Below.refl _ _).drew) hu (box_far hD hbx)
    exact ⟨hb2.cell 0, hb2.cell 1, hb2.cell 2⟩)
  have HV := Lib.hid (And.intro h (And.intro hD (And.intro hbx (And.intro hf hd))))
  have HNUM := Lib.hid (And.intro hE1 (And.intro hG hh1))
  have HC : Hid (addE d (newHalf v) (1 :: b) ≠ 0 → addE d (newHalf v) (1 :: b) ≠ 9 → cstopE d v b = 6 ∧ addE d (newHalf v) (1 :: b) = 6) := Lib.hid (fun h0 h9 => by
    have hst : Jr.stopE d (newHalf v) (1 :: b) = 6 := by
      by_cases hs : stopE d (newHalf v) (1 :: b) = 0
      · have : addE d (newHalf v) (1 :: b) = 0 ∨ addE d (newHalf v) (1 :: b) = 9 := by
          unfold addE
          rw [if_neg (by omega)]
          split
          · exact .inl rfl
          · exact .inr rfl
        omega
      · have e : addE d (newHalf v) (1 :: b) = stopE d (newHalf v) (1 :: b) := by unfold addE; rw [if_pos hs]
        rw [e] at h9
        unfold stopE at hs h9 ⊢
        rw [show ((newHalf v).dead || d.off) = false by rw [hd.2]; rfl, if_neg (by simp)] at hs h9 ⊢
        rw [if_neg (by simp; omega)] at hs h9 ⊢
        split
        · rfl
        · rename_i hc2
          rw [if_neg hc2] at hs
          exact absurd rfl hs
    refine ⟨?_, by unfold addE; rw [hst]; rfl⟩
    have hn : v.n < needN (b.length + 1) := by
      unfold stopE at hst
      rw [show ((newHalf v).dead || d.off) = false by rw [hd.2]; rfl, if_neg (by simp)] at hst
      rw [if_neg (by simp; omega)] at hst
      split at hst
      · rename_i hc2
        have e1 : (newHalf v).n - (newHalf v).used = v.n := rfl
        have e2 : (1 :: b).length = b.length + 1 := rfl
        rw [e1, e2] at hc2
        exact hc2
      · cases hst
    unfold cstopE
    rw [hc', if_neg (by simp), if_neg h2, if_pos (.inr hn)])
  have HZ : Hid (cstopE d v b = 0 ∨ cstopE d v b = 6) := Lib.hid (by
    unfold cstopE
    rw [hc', if_neg (by simp), if_neg h2]
    split
    · exact .inr rfl
    · exact .inl rfl)
  have HZ6 : Hid (cstopE d v b = 6 → addE d (newHalf v) (1 :: b) = 6 ∧ addDS d (newHalf v) (1 :: b) = d) := Lib.hid (fun h6 => by
    have hn : v.n < needN (b.length + 1) := by
      unfold cstopE at h6
      rw [hc', if_neg (by simp), if_neg h2] at h6
      split at h6
      · omega
      · cases h6
    obtain ⟨q1, q2, _⟩ := Jr.calm_full (d := d) (j := newHalf v) (b := 1 :: b) hd.2 rfl (by simp) (by simp; omega) (by show v.n - 0 < needN (b.length + 1); omega)
    exact ⟨q1, q2⟩)
  clear h hD hf hb hc hc' hd h2 hbx hep hm hsz hdn hn2 hE1 hG he32 hA0 hh1
  generalize hbl : b.length = bl at *
  have HBLN := Lib.hid hbl
  clear hbl
  by_cases h0 : addE d (newHalf v) (1 :: b) = 0
  · have HB2 : Hid (Calls Try.prog 41 #[.pointer (some ⟨q.x, 0, none⟩), .int .i64 (G : Int), .int .u32 (E1 : Int), .slice Ab bl cb] w.drew fun e w' => ∃ x' , e = .returned (.tuple #[.pointer (some ⟨x', 0, none⟩), .int .i64 0]) ∧ At w' Bd q (addDS d (newHalf v) (1 :: b)) ∧ Only w.drew w' q.has ∧ ∃ y' A' c' vs', VA w' w.drew.heap.size x' y' q A' c' vs' ⟨G, v.n, E1, addJ d (newHalf v) (1 :: b), false⟩) := Lib.hid (HB.out.mono fun e w' hh => by
      obtain ⟨g1, g2, g3 | ⟨_, x', y', A', c', vs', g4, g5⟩⟩ := hh
      · exact absurd h0 g3.1
      · exact ⟨x', g4, g1, g2, y', A', c', vs', g5⟩)
    have HE : Hid (vcompE d v b = 0 ∧ vcompDS d v b = addDS d (newHalf v) (1 :: b) ∧ vcompV d v b = ⟨1 - v.half, v.n, v.epoch + 1, addJ d (newHalf v) (1 :: b), false⟩) := Lib.hid (by
      have hs : cstopE d v b = 0 := by
        rcases HZ.out with q | q
        · exact q
        · have := (HZ6.out q).1; omega
      exact ⟨by unfold vcompE; rw [if_neg (by omega), if_pos h0], by unfold vcompDS; rw [if_neg (by omega)], by unfold vcompV; rw [if_neg (by omega), if_neg (by omega), if_pos h0]⟩)
    have HL : Hid (addE d (newHalf v) (1 :: b) = 0 → (addJ d (newHalf v) (1 :: b)).l.length ≠ 0) := Lib.hid (fun h0 => by rw [Jr.addJ_zero h0]; show ([] ++ [1 :: b]).length ≠ 0; simp)
    have HH0 := Lib.hid h0
    clear h0 HB HC HZ HZ6
    go_enter Try.func14, Try.ntmps14
    go_wp2_with fail
    refine HR.out.mono ?_
    rintro r w2 ⟨rfl, hw⟩
    rw [hw]
    clear hw w2
    go_wp2_with fail
    go_region_held3 (fun u => u.cell? ⟨x, 0, none⟩ = some (.pointer (some ⟨q.x, 0, none⟩)) ∧ u.cell? ⟨x, 1, none⟩ = some (.int .i64 (v.half : Int)) ∧ u.cell? ⟨x, 2, none⟩ = some (.int .u32 (v.epoch : Int)))
      (first
        | exact ⟨c0, c1, c2⟩
        | exact HKC.out _ hO7)
      (first
        | (go_at_call 41; ((with_reducible refine HB2.out.mono ?_); rintro r w7 ⟨x', rfl, hD7, hO7, hV7⟩)))
    unfold Exit.then
    dsimp only
    obtain ⟨y', A', c', vs', hV7⟩ := hV7
    obtain ⟨ep', hep', hbx'⟩ := hV7.box
    obtain rfl : ep' = E1 := hep' rfl
    have kd : Below w.heap.size w w.drew := (Below.refl _ _).drew
    have hbx := Mv.blk_only (HV.out.2.2.1.below kd) hO7 (box_far (Dk.at_below HV.out.2.1 kd) (HV.out.2.2.1.below kd))
    have H7 := Lib.hid (And.intro hD7 (And.intro ((Mv.Only.ofBelow kd q.has).trans hO7 (fun _ _ h => h)) (And.intro hV7 (And.intro hbx' hbx))))
    clear hD7 hO7 hV7 hep' hbx' hbx kd c0 c1 c2 HB2 HKC
    obtain ⟨C, hC⟩ : ∃ C : Array Value, C = #[.pointer (some ⟨q.x, 0, none⟩), .int .i64 (G : Int), .int .u32 (ep' : Int), .pointer (some ⟨y', 0, none⟩), .bool false] := ⟨_, rfl⟩
    have hCs : C.size = 5 := by rw [hC]; rfl
    have hCo : C.all (·.oneCell') = true := by rw [hC]; simp [Value.oneCell']
    have HBC : Hid (Blk w7 x' 80 C) := Lib.hid (by rw [hC]; exact H7.out.2.2.2.1)
    have HC := Lib.hid hC
    clear hC
    go_wp2_with (first
      | ((with_reducible refine load_vault (w := w7) (op := ⟨some 50, _, _, _, _, _⟩) ?_ (.tmp 49) ?_ _ ?_ _ HBC.out hCs ?_); (next => rfl); (next => rfl); (next => rfl))
      | ((with_reducible refine store_vault (w := w7) (op := ⟨none, _, _, _, _, _⟩) ?_ (.tmp 51) (.tmp 50) ?_ _ ?_ C ?_ _ H7.out.2.2.2.2 ?_ hCs hCo ?_); (next => rfl); (next => rfl); (next => rfl); (next => rfl); (next => rfl); intro w8 hK8 hO8))
    go_ret
    rw [HE.out.1, HE.out.2.1, HE.out.2.2, HNUM.out.1, HNUM.out.2.1]
    rw [HC.out] at hK8
    have hBx := HV.out.1.base
    have hxl := HV.out.1.lt.1
    have hsd : w.drew.heap.size = w.heap.size := rfl
    obtain ⟨r1, r2⟩ := vturn (v' := ⟨G, v.n, ep', addJ d (newHalf v) (1 :: b), false⟩) H7.out.2.2.2.2 hBx H7.out.2.2.1 (by omega) H7.out.1 hO8 ⟨ep', fun _ => rfl, hK8⟩
    refine ⟨rfl, r2, y', A', c', vs', r1, ?_, .inr (by have := H7.out.2.2.1.jat.base; omega), .inr ?_⟩
    · exact (H7.out.2.1.mono (fun i _ hs => .inl hs)).trans (hO8.mono (fun i _ hs => .inr (.inl hs))) (fun _ _ h => h)
    · have hl := HL.out HH0.out
      obtain ⟨g, cap, hv, hg, hgl⟩ := H7.out.2.2.1.jat.rows.own.form (by show 0 < (addJ d (newHalf v) (1 :: b)).l.length; omega)
      injection hv with hA _ _
      subst hA
      exact ⟨g, rfl, by omega⟩
  · have HB2 : Hid (Calls Try.prog 41 #[.pointer (some ⟨q.x, 0, none⟩), .int .i64 (G : Int), .int .u32 (E1 : Int), .slice Ab bl cb] w.drew fun e w' => e = .returned (.tuple #[.pointer none, .int .i64 (addE d (newHalf v) (1 :: b))]) ∧ At w' Bd q (addDS d (newHalf v) (1 :: b)) ∧ Only w.drew w' q.has) := Lib.hid (HB.out.mono fun e w' hh => by
      obtain ⟨g1, g2, g3 | ⟨h0', _⟩⟩ := hh
      · exact ⟨g3.2, g1, g2⟩
      · exact absurd h0' h0)
    obtain ⟨F, hF⟩ : ∃ F, addE d (newHalf v) (1 :: b) = F := ⟨_, rfl⟩
    have HE : Hid (vcompE d v b = F ∧ vcompDS d v b = addDS d (newHalf v) (1 :: b) ∧ vcompV d v b = { v with epoch := if F = 9 then v.epoch + 1 else v.epoch, dead := decide (F = 9) }) := Lib.hid (by
      by_cases h9 : F = 9
      · have hs : cstopE d v b = 0 := by
          rcases HZ.out with q | q
          · exact q
          · have := (HZ6.out q).1; omega
        exact ⟨by unfold vcompE; rw [if_neg (by omega), if_neg h0, h9], by unfold vcompDS; rw [if_neg (by omega)], by unfold vcompV; rw [if_neg (by omega), if_neg (by omega), if_neg h0, if_pos h9, h9]; rfl⟩
      · obtain ⟨q1, q2⟩ := HC.out h0 (by omega)
        have q3 := (HZ6.out q1).2
        refine ⟨by unfold vcompE; rw [if_pos (by omega)]; omega, by unfold vcompDS; rw [if_pos (by omega), q3], ?_⟩
        unfold vcompV
        rw [if_neg (by omega), if_pos (by omega), if_neg h9, decide_eq_false h9]
        have hd := HV.out.2.2.2.2.1
        cases v
        simp at hd
        subst hd
        rfl)
    rw [hF] at HB2 h0
    have b1 : (F == 0) = false := beq_eq_false_iff_ne.2 h0
    have b2 : (F != 0) = true := by rw [bne, b1]; rfl
    clear h0 hF HB HC HZ HZ6
    go_enter Try.func14, Try.ntmps14
    go_wp2_with fail
    refine HR.out.mono ?_
    rintro r w2 ⟨rfl, hw⟩
    rw [hw]
    clear hw w2
    go_wp2_with fail
    go_region_held3 (fun u => u.cell? ⟨x, 0, none⟩ = some (.pointer (some ⟨q.x, 0, none⟩)) ∧ u.cell? ⟨x, 1, none⟩ = some (.int .i64 (v.half : Int)) ∧ u.cell? ⟨x, 2, none⟩ = some (.int .u32 (v.epoch : Int)))
      (first
        | exact ⟨c0, c1, c2⟩
        | exact HKC.out _ hO7)
      (first
        | (go_at_call 41; ((with_reducible refine HB2.out.mono ?_); rintro r w7 ⟨rfl, hD7, hO7⟩)))
    unfold Exit.then
    dsimp only
    have kd : Below w.heap.size w w.drew := (Below.refl _ _).drew
    have hbx := Mv.blk_only (HV.out.2.2.1.below kd) hO7 (box_far (Dk.at_below HV.out.2.1 kd) (HV.out.2.2.1.below kd))
    have hV7 : VA w7 B x y q A c vs v := ⟨HV.out.1.base, ⟨v.epoch, fun _ => rfl, hbx⟩, (HV.out.1.jat.below kd).disk (Dk.at_below HV.out.2.1 kd).lay hO7⟩
    have e4 := hbx.cell 4
    have f4 := hbx.frozen 4
    simp at e4
    rw [HV.out.2.2.2.2.1] at e4
    have HT := Lib.hid (told_any w7 x false F e4 f4)
    have H7 := Lib.hid (And.intro hD7 (And.intro ((Mv.Only.ofBelow kd q.has).trans hO7 (fun _ _ h => h)) (And.intro hV7 hbx)))
    clear hD7 hO7 hV7 hbx kd c0 c1 c2 HB2 HKC e4 f4
    go_wp2_with fail
    refine HT.out.mono ?_
    rintro r w8 ⟨rfl, hw⟩
    rw [hw]
    clear hw w8
    go_wp2_with fail
    go_ret
    rw [HE.out.1, HE.out.2.1, HE.out.2.2]
    obtain ⟨q1, q2, q3⟩ := H7.out.2.2.1.put (v' := { v with epoch := if F = 9 then v.epoch + 1 else v.epoch, dead := decide (F = 9) }) H7.out.1 ((Mv.Only.refl w7 (Mv.one x)).put (.bool (false || F == 9)) (fun _ => rfl)) rfl ⟨v.epoch, fun hd => by
      have h9 : ¬ F = 9 := of_decide_eq_false hd
      show v.epoch = if F = 9 then v.epoch + 1 else v.epoch
      rw [if_neg h9], by exact H7.out.2.2.2.put 4 (.bool (false || F == 9))⟩
    exact ⟨rfl, q2, y, A, c, vs, q1, (H7.out.2.1.mono (fun i _ hs => .inl hs)).trans q3 (fun _ _ h => h), .inl rfl, .inl rfl⟩
end

end Go.Proofs.Ytedgookkogpfbaa.Vl
