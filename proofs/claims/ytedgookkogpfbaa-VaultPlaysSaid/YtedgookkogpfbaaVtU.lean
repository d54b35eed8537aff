/- The document's vault in memory: the Compact that writes. -/
import Derived.Test.YtedgookkogpfbaaVtT
set_option maxRecDepth 100000
namespace Go.Proofs.Ytedgookkogpfbaa.Vr
open Go.ChangeShapes Go.WideShapes Go.ChangeAt Go.RowKit
open Qu (Blk)
open Mv (Only Fresh)
open By (Own8 Bys cellsB cellsB_length)
open Dk (DS RefAt)
open Jr (JS Recd JHas Fit newE blankJ openJ addE addDS addJ stopE needN blk_blk_ne own_own_ne ownBlock_any)
open Vt
set_option linter.unusedVariables false

section
variable {w w' : World} {B Bp x y c : Nat} {p : Dk.Place} {A : Option Addr} {vs : List Value} {v : VS} {d : DS}

theorem own_jat_ne {w : World} {B B' y p c n cc : Nat} {A A' : Option Addr} {vs : List Value} {j : JS} {b : List UInt8} (h : Own8 w B (.slice A' n cc) b) (hJ : Jr.JAt w B' y p A c vs j) : ∀ a, A' = some a → a.block ≠ y := fun a ha => by
  subst ha
  exact Mv.own_blk_ne h hJ.box (by decide) a.block rfl

theorem jat_lower {w : World} {B B' y p c : Nat} {A : Option Addr} {vs : List Value} {j : JS} (h : Jr.JAt w B y p A c vs j) (hb : B' ≤ B) : Jr.JAt w B' y p A c vs j :=
  ⟨Nat.le_trans hb h.base, h.box, Lf.own_lower h.rows.own hb, h.rows.len, fun i u hu => by
    obtain ⟨z, z1, z2⟩ := h.rows.each i u hu
    exact ⟨z, z1, Lf.own_lower z2 hb⟩⟩

/-- The box turns to another journal. -/
theorem rv_turn {w W : World} {B x y2 c2 : Nat} {p : Dk.Place} {A2 : Option Addr} {vs2 : List Value} {v' : VS} {cs : Array Value} (hbx : Blk w x 84 cs) (hB : B ≤ x) (hJ : Jr.JAt w B y2 p.x A2 c2 vs2 v'.j) (ho : Only w W (Mv.one x))
    (hb : Blk W x 84 #[.pointer (some ⟨p.x, 0, none⟩), .pointer (some ⟨y2, 0, none⟩), .int .i64 (v'.half : Int), .int .u32 (v'.epoch : Int), .bool v'.dead]) : RV W B x y2 p A2 c2 vs2 v' := by
  refine ⟨hB, hb, hJ.base, Mv.blk_only hJ.box ho (fun hs => blk_blk_ne hJ.box hbx (by decide) hs), Mv.own_only hJ.rows.own ho (fun g hg hs => Mv.own_blk_ne hJ.rows.own hbx (by decide) g hg hs), hJ.rows.len, fun k u' hu => ?_⟩
  obtain ⟨z, z1, z2⟩ := hJ.rows.each k u' hu
  exact ⟨z, z1, Mv.own_only z2 ho (fun g hg hs => Mv.own_blk_ne z2 hbx (by decide) g hg hs)⟩

set_option maxHeartbeats 4000000 in
theorem rvcomp_go {Ab : Option Addr} {cb : Nat} {b : List UInt8} (h : RV w B x y p A c vs v) (hD : RefAt w Bp p d) (hf : VFit d v) (hb : Bys w w.heap.size Ab b.length b) (hA0 : Ab = none → b.length = 0 ∧ cb = 0) (hfx : ∀ a, Ab = some a → b.length ≠ 0 → a.block ≠ x) (hlen : b.length ≤ 1000000000000) (hs : cstopE d v b = 0) :
    Calls Try.prog 15 #[.pointer (some ⟨x, 0, none⟩), .slice Ab b.length cb] w (RVE w B Bp x p y A (vcompDS d v b) (vcompV d v b) (vcompE d v b)) := by
  have c0 := h.box.cell 0
  have c2 := h.box.cell 2
  have c3 := h.box.cell 3
  have c4 := h.box.cell 4
  have f3 := h.box.frozen 3
  have d0 := hD.box.cell 0
  have d3 := hD.box.cell 3
  simp at c0 c2 c3 c4 d0 d3
  have hcnd : (v.dead || d.off) = false ∧ ¬ 400000 ≤ b.length ∧ v.epoch ≠ 4294967295 ∧ needN (b.length + 1) ≤ v.n := by
    unfold cstopE at hs
    cases q : (v.dead || d.off) with
    | true => rw [q] at hs; cases hs
    | false =>
      rw [q, if_neg (by simp)] at hs
      by_cases q2 : 400000 ≤ b.length
      · rw [if_pos q2] at hs; cases hs
      · rw [if_neg q2] at hs
        by_cases q3 : v.epoch = 4294967295 ∨ v.n < needN (b.length + 1)
        · rw [if_pos q3] at hs; cases hs
        · exact ⟨rfl, q2, fun e => q3 (.inl e), by omega⟩
  obtain ⟨hc, h2, hm, hroom⟩ := hcnd
  have hd : v.dead = false ∧ d.off = false := by
    cases q1 : v.dead with
    | true => rw [q1] at hc; cases hc
    | false => exact ⟨rfl, by rw [q1, Bool.false_or] at hc; exact hc⟩
  have HE : Hid (vcompE d v b = (if addE d (newHalf v) (1 :: b) = 0 then 0 else 9) ∧ vcompDS d v b = addDS d (newHalf v) (1 :: b) ∧ vcompV d v b = if addE d (newHalf v) (1 :: b) = 0 then ⟨1 - v.half, v.n, v.epoch + 1, addJ d (newHalf v) (1 :: b), false⟩ else { v with epoch := v.epoch + 1, dead := true }) :=
    Lib.hid ⟨by unfold vcompE; rw [if_neg (by omega)], by unfold vcompDS; rw [if_neg (by omega)], by unfold vcompV; rw [if_neg (by omega), if_neg (by omega)]⟩
  obtain ⟨hNE, hNF⟩ := new_half hf hd.2 hm
  have hsz := hf.size
  have hn20 := hf.fit.dn
  have he32 := hf.e2
  have hh1 := hf.h1
  obtain ⟨O, hO⟩ : ∃ O : Nat, v.n - v.n * v.half = O := ⟨_, rfl⟩
  obtain ⟨Q, hQ⟩ : ∃ Q : Nat, v.n * v.half = Q := ⟨_, rfl⟩
  have hQn : Q ≤ v.n := by
    rw [← hQ]
    rcases Nat.le_one_iff_eq_zero_or_eq_one.1 hh1 with e | e <;> rw [e] <;> simp
  have HNH : Hid (newHalf v = blankJ O v.n (v.epoch + 1) ∧ Fit d (newHalf v)) := Lib.hid ⟨by unfold newHalf; rw [hO], hNF⟩
  rw [hO] at hNE
  -- numbers
  have l1 : ¬ (400000 : Int) ≤ (b.length : Int) := by omega
  have l2 : decide (400000 ≤ b.length) = false := by simpa using h2
  have l0 : (b.length : Int) ≤ 400000 := by omega
  have hq : ((d.n : Int) / 2) = (v.n : Int) := by omega
  have hq2 : (d.n : Int) ≤ 20000 := by omega
  have hq3 : (v.n : Int) ≤ 20000 := by omega
  have m1 : ((v.epoch : Int) == 4294967295) = false := beq_eq_false_iff_ne.2 (by omega)
  have HND := Lib.hid (Jr.rneed_any (((b.length + 1 : Nat)) : Int) w (by omega))
  simp only [Int.toNat_natCast] at HND
  have hbl : ((b.length + 1 : Nat) : Int) = (b.length : Int) + 1 := by omega
  rw [hbl] at HND
  obtain ⟨K, hK⟩ : ∃ K, needN (b.length + 1) = K := ⟨_, rfl⟩
  rw [hK] at HND hroom
  have m2 : ¬ (v.n : Int) < (K : Int) := by omega
  have m3 : decide (v.n < K) = false := by simp; omega
  obtain ⟨E1, hE1⟩ : ∃ E1, v.epoch + 1 = E1 := ⟨_, rfl⟩
  have u1 : IntKind.u32.wrap ((v.epoch : Int) + 1) = (E1 : Int) := by rw [IntWalk.u32_in _ (by omega)]; omega
  have n1 : IntKind.i64.wrap ((v.n : Int) * (v.half : Int)) = (Q : Int) := by
    have e : (v.n : Int) * (v.half : Int) = ((v.n * v.half : Nat) : Int) := by simp
    rw [e, hQ, IntWalk.i64_in _ (by omega)]
  have n2 : IntKind.i64.wrap ((v.n : Int) - (Q : Int)) = (O : Int) := by rw [IntWalk.i64_in _ (by omega)]; omega
  have n3 : IntKind.i64.wrap (1 - (v.half : Int)) = ((1 - v.half : Nat) : Int) := by rw [IntWalk.i64_in _ (by omega)]; omega
  rw [hd.1] at c4
  rw [hd.2] at d3
  -- the vault with its next epoch
  obtain ⟨W1, hW1⟩ : ∃ W1, W1 = w.setCell ⟨x, 3, none⟩ (.int .u32 (E1 : Int)) := ⟨_, rfl⟩
  have HW1 := Lib.hid hW1
  have HP : Hid (RV W1 B x y p A c vs { v with epoch := E1 } ∧ RefAt W1 Bp p d ∧ Only w W1 (fun k => p.has k ∨ VHas x y A k)) := Lib.hid (by
    rw [hW1]
    exact h.put (v' := { v with epoch := E1 }) hD 3 (.int .u32 (E1 : Int)) rfl (by have := h.box.put 3 (.int .u32 (E1 : Int)); simpa using this))
  have HBY : Hid (∀ u, Below W1.heap.size W1 u → Bys u u.heap.size Ab b.length b) := Lib.hid (fun u hu => by
    have ho : Only w W1 (Mv.one x) := by rw [hW1]; exact (Mv.Only.refl w (Mv.one x)).put _ (fun _ => rfl)
    refine ⟨hb.len, fun i z hz => ?_⟩
    obtain ⟨bb, oo, e1, e2, e3⟩ := hb.cell i z hz
    have hx : bb ≠ x := hfx _ e1 (by have := (List.getElem?_eq_some_iff.1 hz).1; omega)
    have := ho.size
    have := hu.size
    exact ⟨bb, oo, e1, by omega, by rw [hu.cell (p := ⟨bb, oo + i, none⟩) (show bb < W1.heap.size by omega), ho.cell e2 (fun hs => hx hs)]; exact e3⟩)
  have HBL : Hid (∀ u, Below W1.heap.size W1 u → Calls Try.prog 44 #[.pointer (some ⟨p.x, 0, none⟩), .int .i64 (O : Int), .int .i64 (v.n : Int), .int .u32 (E1 : Int)] u fun r w' => ∃ y2, r = .returned (.tuple #[.pointer (some ⟨y2, 0, none⟩), .int .i64 0]) ∧ u.heap.size ≤ y2 ∧ Jr.JAt w' u.heap.size y2 p.x none 0 [] (blankJ O v.n E1) ∧ Below u.heap.size u w') := Lib.hid (fun u hu => Jr.rblank_ok u Bp p d O v.n E1 (HP.out.2.1.below hu) (by omega) (by omega) (by rw [← hE1]; exact hNE))
  have HBX : Hid (∀ u, Below W1.heap.size W1 u → u.cell? ⟨x, 0, none⟩ = some (.pointer (some ⟨p.x, 0, none⟩)) ∧ u.cell? ⟨x, 2, none⟩ = some (.int .i64 (v.half : Int)) ∧ u.cell? ⟨x, 3, none⟩ = some (.int .u32 (E1 : Int)) ∧ Below W1.heap.size W1 u) := Lib.hid (fun u hu => by
    have hb := (HP.out.1.below hu).box
    exact ⟨hb.cell 0, hb.cell 2, hb.cell 3, hu⟩)
  have HNUM := Lib.hid (And.intro hE1 (And.intro hh1 (And.intro hf hlen)))
  have HH := Lib.hid hd.1
  clear h hD hf hb hfx hc h2 hm hs hd hNE hNF hW1 hO hQ hK hbl hsz hE1 hQn hroom hh1
  generalize hbl : b.length = bl at *
  have HBLN := Lib.hid hbl
  clear hbl
  go_enter Try.func15, Try.ntmps15
  go_upto_region 10 with (first | (refine HND.out.mono ?_; rintro r w2 ⟨rfl, hw⟩; rw [hw]; clear hw w2))
  rw [← HW1.out]
  clear c0 c2 c3 c4 f3 d0 d3
  go_region_held3 (fun u => u.cell? ⟨x, 0, none⟩ = some (.pointer (some ⟨p.x, 0, none⟩)) ∧ u.cell? ⟨x, 2, none⟩ = some (.int .i64 (v.half : Int)) ∧ u.cell? ⟨x, 3, none⟩ = some (.int .u32 (E1 : Int)) ∧ Below W1.heap.size W1 u)
    (first
      | exact HBX.out _ (Below.refl _ _).drew
      | (go_split_ands; exact HBX.out _ (Dk.below_then (by assumption) kb))
      | (go_split_ands; exact ⟨by assumption, by assumption, by assumption, by assumption⟩))
    (first
      | (go_at_call 44; ((with_reducible refine (HBL.out _ (by go_split_ands; assumption)).mono ?_); rintro r wb ⟨y2, rfl, hy2, hJ2, kb⟩)))
  unfold Exit.then
  dsimp only
  have kW : Below W1.heap.size W1 wb := Dk.below_then (Below.refl _ _).drew kb
  have HKW := Lib.hid (And.intro kW (And.intro hy2 hJ2))
  clear kW kb hy2 hJ2 HBL HBX HND
  -- the new base's bytes
  obtain ⟨bb, hbb⟩ : ∃ bb : List UInt8, 1 :: b = bb := ⟨_, rfl⟩
  have hbl2 : 1 + bl = bb.length := by rw [← hbb, ← HBLN.out]; simp; omega
  have HBB := Lib.hid (And.intro hbb hbl2)
  have bb1 : (bb.length : Int) ≤ 400001 := by omega
  obtain ⟨j0, hj0, hj1, hj2, hj3⟩ := info_parts By.info_u8
  have hby := HBY.out _ (HKW.out.1.alloc HKW.out.1.size (.cells #[.int .u8 1] 5))
  have hone : (wb.alloc (.cells #[.int .u8 1] 5)).ownsRow wb.heap.size 5 1 (.slice (some ⟨wb.heap.size, 0, none⟩) 1 1) 1 (cellsB [1]) := Jl.one_row wb wb.heap.size (Nat.le_refl _) 1
  have HAD : Hid (∀ (w6 : World) (v6 : Value), w6.ownsRow wb.heap.size 5 1 v6 (1 + bl) (cellsB ([1] ++ b)) → (wb.alloc (.cells #[.int .u8 1] 5)).grownBy w6 (some wb.heap.size) → ∃ A6 c6, v6 = .slice A6 bb.length c6 ∧ Calls Try.prog 45 #[.pointer (some ⟨y2, 0, none⟩), .slice A6 bb.length c6] w6 (Jr.RAddE w6 W1.drew.heap.size Bp y2 p none [] (newHalf v) d bb) ∧ Below wb.heap.size wb w6 ∧ ∃ n6, Own8 w6 wb.heap.size (.slice A6 n6 c6) bb) := Lib.hid (fun w6 v6 h6 hg => by
    have h8' : Own8 w6 wb.heap.size v6 bb := by
      have e : [1] ++ b = bb := hbb
      rw [e, hbl2] at h6
      exact h6
    obtain ⟨A6, c6, rfl⟩ := Mv.own_value h8'
    have h8 := h8'
    have k6 : Below wb.heap.size wb w6 := ((Below.refl wb.heap.size wb).alloc (Nat.le_refl _) _).grown hg (by simp) (fun g hg => by injection hg with hg; omega)
    have hcap := Mv.own_cap h8
    have hJ6 : Jr.JAt w6 W1.drew.heap.size y2 p.x none 0 [] (newHalf v) := by
      rw [HNH.out.1, HNUM.out.1]
      exact HKW.out.2.2.below k6
    have hD6 := (HP.out.2.1.below HKW.out.1).below k6
    exact ⟨A6, c6, rfl, radd_any w6 W1.drew.heap.size Bp y2 0 c6 none A6 [] (newHalf v) p d bb hJ6 hD6 HNH.out.2 (By.Own8.bys h8) hcap.1 hcap.2 (by omega) (fun a ha _ => own_far_ref h8 hD6 a ha) (fun a ha _ => own_jat_ne h8 hJ6 a ha), k6, bb.length, h8⟩)
  have HBY6 := Lib.hid (And.intro hby (And.intro hone (And.intro hj0 (And.intro hj1 (And.intro hj2 hj3)))))
  have HSZ : Hid (1 + bl ≤ 140737488355328 ∧ wb.heap.size ≤ (wb.alloc (.cells #[.int .u8 1] 5)).heap.size) := Lib.hid ⟨by omega, by simp⟩
  clear hbb hby hone hbl2 hj0 hj1 hj2 hj3
  go_wp2_with (first
    | (at_builtin; ((with_reducible refine By.wpList_append_bytes (o := ⟨some 80, _, _, _, _, _⟩) (wb.alloc (.cells #[.int .u8 1] 5)) ?_ (.tmp 78) (.tmp 79) 37 ?_ wb.heap.size 5 j0 Try.underlying37 HBY6.out.2.2.1 HBY6.out.2.2.2.1 HBY6.out.2.2.2.2.1 HBY6.out.2.2.2.2.2 (.slice (some ⟨wb.heap.size, 0, none⟩) 1 1) 1 [1] ?_ HBY6.out.2.1 (wb.alloc (.cells #[.int .u8 1] 5)).heap.size Ab bl cb b ?_ HBY6.out.1 hA0 HSZ.out.1 HSZ.out.2 ?_); (next => rfl); (next => rfl); (next => rfl); (next => rfl)); intro v6 w6 hown6 hgr6 hfr6; obtain ⟨A6, c6, rfl, hA6, hk6, n6, h86⟩ := HAD.out w6 v6 hown6 hgr6; have H6 := Lib.hid (And.intro hA6 (And.intro hk6 h86)); clear hown6 hgr6 hfr6 hA6 hk6 h86))
  refine H6.out.1.mono ?_
  rintro r w7 ⟨hr7, hR7, A7, c7, vs7, hJ7, hO7, hF7⟩
  obtain ⟨E, hE⟩ : ∃ E, addE d (newHalf v) bb = E := ⟨_, rfl⟩
  rw [hE] at hr7
  subst hr7
  have HEE := Lib.hid hE
  -- what stays
  have hD6 := (HP.out.2.1.below HKW.out.1).below H6.out.2.1
  have hV6 := (HP.out.1.below HKW.out.1).below H6.out.2.1
  have hxl := HP.out.1.box.lt
  have hyl := HP.out.1.jat.box.lt
  have hyb : W1.heap.size ≤ y2 := HKW.out.2.1
  have hV7 : RV w7 B x y p A c vs { v with epoch := E1 } := hV6.beside hD6 hO7 (by omega) (by omega) (fun g hg => by cases hg) (fun i u hu g hg => by
      obtain ⟨z, z1, z2⟩ := HP.out.1.jat.rows.each i u hu
      have := (World.ownsRow.lt z2 g hg).2
      exact ⟨by omega, fun e => by cases e⟩) (fun g hg => by
      have := (HP.out.1.jat.rows.own.lt g (by rw [← hg]; exact ownBlock_any _ _ _ _ _)).2
      omega)
  have hOall : Only w w7 (fun k => p.has k ∨ VHas x y A k) := by
    refine ((HP.out.2.2.below HKW.out.1).below H6.out.2.1).trans hO7 fun i hi hs => ?_
    rcases hs with hs | hs | hs
    · exact .inl hs
    · have := HP.out.2.2.size
      omega
    · cases hs
  have H7 := Lib.hid (And.intro hV7 (And.intro hR7 (And.intro hJ7 (And.intro hOall hF7))))
  have x1 := hV7.box.cell 1
  have x2 := hV7.box.cell 2
  have x4 := hV7.box.cell 4
  have g1 := hV7.box.frozen 1
  have g2 := hV7.box.frozen 2
  have g4 := hV7.box.frozen 4
  simp at x1 x2 x4
  have hA7 : addE d (newHalf v) bb = 0 → ∃ k, (Value.slice A7 0 0).ownBlock = some k ∧ w.heap.size ≤ k := fun h0 => by
    have hl : (addJ d (newHalf v) bb).l.length ≠ 0 := by rw [Jr.addJ_zero h0]; show ([] ++ [bb]).length ≠ 0; simp
    obtain ⟨g, cap, hv, hg, hgl⟩ := hJ7.rows.own.form (by omega)
    injection hv with hA _ _
    subst hA
    rcases hF7 with q | ⟨k, q, hk⟩
    · cases q
    · exact ⟨k, q, by have := HP.out.2.2.size; have := HKW.out.1.size; have := H6.out.2.1.size; omega⟩
  have HA7 := Lib.hid hA7
  clear hR7 hJ7 hO7 hF7 hE hD6 hV6 hV7 hOall hA7 hxl hyl hyb HAD HBY HBY6 HSZ
  by_cases h0 : E = 0
  · subst h0
    have HF : Hid (vcompE d v b = 0 ∧ vcompDS d v b = addDS d (newHalf v) bb ∧ vcompV d v b = ⟨1 - v.half, v.n, v.epoch + 1, addJ d (newHalf v) bb, false⟩) := Lib.hid (by
      obtain ⟨q1, q2, q3⟩ := HE.out
      rw [HBB.out.1] at q1 q2 q3
      rw [HEE.out] at q1 q3
      exact ⟨by rw [q1, if_pos rfl], q2, by rw [q3, if_pos rfl]⟩)
    go_wp2_with fail
    go_ret
    rw [HF.out.1, HF.out.2.1, HF.out.2.2]
    have hbx := (H7.out.1.box.put 1 (.pointer (some ⟨y2, 0, none⟩))).put 2 (.int .i64 ((1 - v.half : Nat) : Int))
    have ho : Only w7 ((w7.setCell ⟨x, 1, none⟩ (.pointer (some ⟨y2, 0, none⟩))).setCell ⟨x, 2, none⟩ (.int .i64 ((1 - v.half : Nat) : Int))) (Mv.one x) := ((Mv.Only.refl w7 (Mv.one x)).put _ (fun _ => rfl)).put _ (fun _ => rfl)
    have hap := H7.out.1.apart H7.out.2.1
    have hBx := HP.out.1.base
    have hxl := HP.out.1.box.lt
    have hy2 : W1.heap.size ≤ y2 := HKW.out.2.1
    have hsz1 := HP.out.2.2.size
    have hRV := rv_turn (v' := ⟨1 - v.half, v.n, E1, addJ d (newHalf v) bb, v.dead⟩) H7.out.1.box H7.out.1.base (jat_lower H7.out.2.2.1 (show B ≤ W1.heap.size by omega)) ho hbx
    rw [HH.out] at hRV
    rw [HNUM.out.1]
    exact ⟨rfl, H7.out.2.1.only ho (fun k hk hs => hap.1 (by have e : k = x := hs; rw [← e]; exact hk)), y2, A7, c7, vs7, hRV, H7.out.2.2.2.1.trans (ho.mono (fun k _ hs => .inr (.inl hs))) (fun _ _ h => h), .inr (by omega), .inr (HA7.out HEE.out)⟩
  · have b1 : (E == 0) = false := beq_eq_false_iff_ne.2 h0
    have b2 : (E != 0) = true := by rw [bne, b1]; rfl
    have HF : Hid (vcompE d v b = 9 ∧ vcompDS d v b = addDS d (newHalf v) bb ∧ vcompV d v b = { v with epoch := v.epoch + 1, dead := true }) := Lib.hid (by
      obtain ⟨q1, q2, q3⟩ := HE.out
      rw [HBB.out.1] at q1 q2 q3
      rw [HEE.out] at q1 q3
      exact ⟨by rw [q1, if_neg h0], q2, by rw [q3, if_neg h0]⟩)
    clear h0
    go_wp2_with fail
    go_ret
    rw [HF.out.1, HF.out.2.1, HF.out.2.2]
    obtain ⟨q1, q2, q3⟩ := H7.out.1.put (v' := { v with epoch := E1, dead := true }) H7.out.2.1 4 (.bool true) rfl (H7.out.1.box.put 4 (.bool true))
    rw [HNUM.out.1]
    exact ⟨rfl, q2, y, A, c, vs, q1, H7.out.2.2.2.1.trans q3 (fun _ _ h => h), .inl rfl, .inl rfl⟩
end

end Go.Proofs.Ytedgookkogpfbaa.Vr
