/- The document's vault in memory: Open. -/
import Derived.Test.YtedgookkogpfbaaVtU
set_option maxRecDepth 100000
namespace Go.Proofs.Ytedgookkogpfbaa.Vr
open Go.ChangeShapes Go.WideShapes Go.ChangeAt Go.RowKit
open Qu (Blk)
open Mv (Only Fresh)
open By (Own8 Bys cellsB cellsB_length)
open Dk (DS RefAt)
open Jr (JS Recd JHas Fit newE blankJ openJ addE addDS addJ stopE needN blk_blk_ne own_own_ne ownBlock_any)
open Vt
set_option linter.unusedVariables false

/-- What OpenVault answers and leaves. -/
def ROpenE (w : World) (Bp : Nat) (p : Dk.Place) (d : DS) (e : Ending) (w' : World) : Prop :=
  RefAt w' Bp p (vopenDS d) ∧ Only w w' p.has ∧
  ((vopenE d ≠ 0 ∧ e = .returned (.tuple #[.pointer none, .int .i64 (vopenE d)])) ∨
   (vopenE d = 0 ∧ ∃ x y A c vs, e = .returned (.tuple #[.pointer (some ⟨x, 0, none⟩), .int .i64 0]) ∧ RV w' w.heap.size x y p A c vs (vopenV d) ∧ w.heap.size ≤ x))

theorem ropenv_nil (w : World) : Calls Try.prog 12 #[.pointer none] w fun e w' => e = .returned (.tuple #[.pointer none, .int .i64 1]) ∧ w' = w := by
  go_enter Try.func12, Try.ntmps12
  go_wp2
  go_ret2
  exact ⟨rfl, rfl⟩

theorem ropen_stop {w w' : World} {Bp : Nat} {p : Dk.Place} {d : DS} (h : RefAt w Bp p d) (hs : vstopE d ≠ 0) (hb : Below w.heap.size w w') : ROpenE w Bp p d (.returned (.tuple #[.pointer none, .int .i64 (vstopE d)])) w' := by
  have e1 : vopenE d = vstopE d := by unfold vopenE; rw [if_pos hs]
  have e2 : vopenDS d = d := by unfold vopenDS; rw [if_pos hs]
  unfold ROpenE
  rw [e1, e2]
  exact ⟨h.below hb, Mv.Only.ofBelow hb _, .inl ⟨hs, rfl⟩⟩

/-- A journal stays where a vault's box turns. -/
theorem jat_box {w W : World} {B x y c : Nat} {q : Nat} {A : Option Addr} {vs : List Value} {j : JS} {cs : Array Value} (hJ : Jr.JAt w B y q A c vs j) (hbx : Blk w x 84 cs) (ho : Only w W (Mv.one x)) : Jr.JAt W B y q A c vs j := by
  refine ⟨hJ.base, Mv.blk_only hJ.box ho (fun hs => blk_blk_ne hJ.box hbx (by decide) hs), Mv.own_only hJ.rows.own ho (fun g hg hs => Mv.own_blk_ne hJ.rows.own hbx (by decide) g hg hs), hJ.rows.len, fun k u' hu => ?_⟩
  obtain ⟨z, z1, z2⟩ := hJ.rows.each k u' hu
  exact ⟨z, z1, Mv.own_only z2 ho (fun g hg hs => Mv.own_blk_ne z2 hbx (by decide) g hg hs)⟩

theorem ref_far {w : World} {Bp x : Nat} {p : Dk.Place} {d : DS} {cs : Array Value} (hD : RefAt w Bp p d) (hbx : Blk w x 84 cs) : ¬ p.has x := fun hi => by
  rcases hi with hi | hi | hi | hi
  · exact blk_blk_ne hbx hD.box (by decide) hi
  · exact Mv.own_blk_ne hD.now.2 hbx (by decide) p.a rfl hi.symm
  · exact Mv.own_blk_ne hD.sure.2 hbx (by decide) p.b rfl hi.symm
  · exact Mv.own_blk_ne hD.loose hbx (by decide) p.c rfl hi.symm

theorem ref_box {w W : World} {Bp x : Nat} {p : Dk.Place} {d : DS} {cs : Array Value} (hD : RefAt w Bp p d) (hbx : Blk w x 84 cs) (ho : Only w W (Mv.one x)) : RefAt W Bp p d :=
  hD.only ho (fun k hi hs => by
    have e : k = x := hs
    subst e
    rcases hi with hi | hi | hi | hi
    · exact blk_blk_ne hbx hD.box (by decide) hi
    · exact Mv.own_blk_ne hD.now.2 hbx (by decide) p.a rfl hi.symm
    · exact Mv.own_blk_ne hD.sure.2 hbx (by decide) p.b rfl hi.symm
    · exact Mv.own_blk_ne hD.loose hbx (by decide) p.c rfl hi.symm)

set_option maxHeartbeats 8000000 in
theorem ropenv_any (w : World) (Bp : Nat) (p : Dk.Place) (d : DS) (h : RefAt w Bp p d) (hn : d.n ≤ 20000) (ha : d.armed ≤ 9223372036854775807) (hT : topN d.now < 2 ^ 32) :
    Calls Try.prog 12 #[.pointer (some ⟨p.x, 0, none⟩)] w (ROpenE w Bp p d) := by
  have d0 := h.box.cell 0
  have d3 := h.box.cell 3
  simp at d0 d3
  obtain ⟨H, hH⟩ : ∃ H : Nat, d.n / 2 = H := ⟨_, rfl⟩
  have hq : ((d.n : Int) / 2) = (H : Int) := by omega
  have hq2 : (d.n : Int) ≤ 20000 := by omega
  have hq3 : (H : Int) ≤ 10000 := by omega
  have HH := Lib.hid hH
  by_cases h2 : H < 2
  · have es : vstopE d = 2 := by unfold vstopE; rw [if_pos (by omega)]
    have HFI := Lib.hid (ropen_stop h (by omega) (Below.refl w.heap.size w))
    rw [es] at HFI
    have l1 : (H : Int) < 2 := by omega
    have l2 : decide (H < 2) = true := by simpa using h2
    clear h hn ha hT hH h2 es
    generalize d.n = dn at *
    go_enter Try.func12, Try.ntmps12
    go_wp2
    go_ret2
    exact HFI.out
  have l1 : ¬ (H : Int) < 2 := by omega
  have l2 : decide (H < 2) = false := by simpa using h2
  cases ho : d.off with
  | true =>
    have es : vstopE d = 9 := by unfold vstopE; rw [if_neg (by omega), ho]; rfl
    have HFI := Lib.hid (ropen_stop h (by omega) (Below.refl w.heap.size w))
    rw [es] at HFI
    rw [ho] at d3
    clear h hn ha hT hH h2 es ho
    generalize d.n = dn at *
    go_enter Try.func12, Try.ntmps12
    go_wp2
    go_ret2
    exact HFI.out
  | false =>
  rw [ho] at d3
  have HD := Lib.hid h
  have HN := Lib.hid (And.intro hn (And.intro ha (And.intro hT (And.intro ho h2))))
  clear h hn ha hT hH h2 ho
  go_enter Try.func12, Try.ntmps12
  go_wp2_with fail
  go_loopw [5, 6] (fun s5 s6 wr => ∃ i : Nat, s6 = .int .i64 (i : Int) ∧ s5 = .int .u32 ((topN (d.now.take i) : Nat) : Int) ∧ i ≤ d.n ∧ Below w.heap.size w wr) (fun _ s _ => d.n - (intOf s).toNat)
  case atStart => exact ⟨0, rfl, rfl, Nat.zero_le _, Below.refl _ _⟩
  case round =>
    obtain ⟨i, rfl, rfl, hi, hB⟩ := hrel
    have hD := HD.out.below hB
    have d0' := hD.box.cell 0
    simp at d0'
    have i0 : (0 : Int) ≤ (i : Int) := by omega
    by_cases hlt : i < d.n
    · have i1 : (i : Int) < (d.n : Int) := by omega
      obtain ⟨s, hs⟩ : ∃ s, d.now[i]? = some s := ⟨_, List.getElem?_eq_getElem hlt⟩
      have hs64 := hD.now.1.at hs
      have HR := Lib.hid hD.now
      have HS := Lib.hid hs
      have HMK := Lib.hid (Lf.rmark_any wr s hs64)
      have htk : d.now.take (i + 1) = d.now.take i ++ [s] := by
        rw [List.take_add_one, hs]
        rfl
      obtain ⟨t, ht⟩ : ∃ t, topN (d.now.take i) = t := ⟨_, rfl⟩
      obtain ⟨m, hm⟩ : ∃ m, Lf.markN s = m := ⟨_, rfl⟩
      obtain ⟨M, hM⟩ : ∃ M, topN (d.now.take (i + 1)) = M := ⟨_, rfl⟩
      have hMx : M = max t m := by rw [← hM, htk, top_more, ht, hm]
      have e1 : (if (t : Int) < (m : Int) then (m : Int) else (t : Int)) = (M : Int) := by split <;> omega
      have e2 : (if (m : Int) < (t : Int) then (t : Int) else (m : Int)) = (M : Int) := by split <;> omega
      have e3 : (if t < m then (m : Int) else (t : Int)) = (M : Int) := by split <;> omega
      have e4 : (if m < t then (t : Int) else (m : Int)) = (M : Int) := by split <;> omega
      have HM := Lib.hid hM
      rw [hm] at HMK
      rw [ht]
      have HB := Lib.hid hB
      clear hD hs htk ht hm hM hMx hB hlt
      generalize d.n = dn at *
      go_wp2_with (first
        | ((with_reducible refine Dk.load_row (op := ⟨some 43, _, _, _, _, _⟩) ?_ (.tmp 42) ?_ (i := i) ?_ s HR.out HS.out ?_); (next => rfl); (next => rfl); (next => rfl)))
      refine HMK.out.mono ?_
      rintro r w2 ⟨rfl, k2⟩
      have HB2 := Lib.hid (HB.out.trans (k2.mono HB.out.size))
      clear k2
      go_wp2_with fail
      go_roundw
      case rel => exact ⟨i + 1, by go_num, by rw [HM.out], by omega, HB2.out⟩
      case measure => simp [intOf]; omega
    · have hin : i = d.n := by omega
      subst hin
      have i1 : ¬ (d.n : Int) < (d.n : Int) := by omega
      have htt : d.now.take d.n = d.now := List.take_of_length_le (Nat.le_refl _)
      rw [htt]
      obtain ⟨T, hTT⟩ : ∃ T, topN d.now = T := ⟨_, rfl⟩
      have HT := Lib.hid hTT
      rw [hTT]
      have t1 : (T : Int) ≤ 4294967295 := by have := HN.out.2.2.1; omega
      by_cases hmx : T = 4294967295
      · have es : vstopE d = 6 := by unfold vstopE; rw [if_neg (by have := HH.out; have := HN.out.2.2.2.2; omega), HN.out.2.2.2.1, if_neg (by simp), if_pos (by omega)]
        have HFI := Lib.hid (ropen_stop HD.out (by omega) hB)
        rw [es] at HFI
        have m1 : ((T : Int) == 4294967295) = true := by rw [hmx]; rfl
        clear hmx es hTT hD hlt
        go_wp2_with fail
        go_ret2
        exact HFI.out
      have m1 : ((T : Int) == 4294967295) = false := beq_eq_false_iff_ne.2 (by omega)
      obtain ⟨E, hE⟩ : ∃ E, T + 1 = E := ⟨_, rfl⟩
      have hE32 : E < 2 ^ 32 := by omega
      have u1 : IntKind.u32.wrap ((T : Int) + 1) = (E : Int) := by rw [IntWalk.u32_in _ (by omega)]; omega
      have HE := Lib.hid hE
      have hvs : vstopE d = 0 := by unfold vstopE; rw [if_neg (by have := HH.out; have := HN.out.2.2.2.2; omega), HN.out.2.2.2.1, if_neg (by simp), if_neg (by omega)]
      have HV := Lib.hid hvs
      have HE1 := Lib.hid (Jr.new_is (d := d) (o := 0) (n := H) (e := E) (by have := HH.out; omega) (by have := HN.out.2.2.2.2; omega) (by omega) HN.out.2.2.2.1)
      have HE2 := Lib.hid (Jr.new_is (d := d) (o := H) (n := H) (e := E) (by have := HH.out; omega) (by have := HN.out.2.2.2.2; omega) (by omega) HN.out.2.2.2.1)
      have HB := Lib.hid hB
      obtain ⟨W1, hW1⟩ : ∃ W1, W1 = wr.alloc (.cells #[.pointer (some ⟨p.x, 0, none⟩), .pointer none, .int .i64 0, .int .u32 (E : Int), .bool false] 84) := ⟨_, rfl⟩
      have HW1 : Hid (W1 = wr.alloc (.cells #[.pointer (some ⟨p.x, 0, none⟩), .pointer none, .int .i64 0, .int .u32 (E : Int), .bool false] 84) ∧ Below wr.heap.size wr W1 ∧ Blk W1 wr.heap.size 84 #[.pointer (some ⟨p.x, 0, none⟩), .pointer none, .int .i64 0, .int .u32 (E : Int), .bool false]) := Lib.hid ⟨hW1, by rw [hW1]; exact (Below.refl _ _).alloc (Nat.le_refl _) _, by rw [hW1]; exact Qu.Blk.new wr _ _⟩
      obtain ⟨x, hx⟩ : ∃ x, wr.heap.size = x := ⟨_, rfl⟩
      have HX := Lib.hid hx
      clear hTT hE hvs hW1 hD hB hlt hmx
      go_upto_region 16 with (fail)
      rw [← HW1.out.1]
      have hb1 := HW1.out.2.2
      rw [hx] at hb1
      have x3 := hb1.cell 3
      simp at x3
      have HBX := Lib.hid hb1
      have hDW := HD.out.below (HB.out.trans (HW1.out.2.1.mono HB.out.size))
      have HDW := Lib.hid hDW
      have HO1 := Lib.hid (Jr.ropen_ok W1 Bp p d 0 H E hDW (by have := HN.out.1; omega) hE32 HE1.out)
      clear hb1 hx d0' hDW
      go_wp2_with fail
      refine HO1.out.mono ?_
      rintro r w2 ⟨y1, A1, cc1, vs1, rfl, hy1, hJ1, k2⟩
      have hb2 := HBX.out.below k2
      have z3 := hb2.cell 3
      simp at z3
      have HD2 := Lib.hid (HDW.out.below k2)
      have H2 := Lib.hid (And.intro hb2 (And.intro hJ1 k2))
      have HO2 := Lib.hid (Jr.ropen_ok w2 Bp p d H H E HD2.out (by have := HN.out.1; omega) hE32 HE2.out)
      clear hb2 hJ1 k2 hy1 x3 HO1
      go_wp2_with fail
      refine HO2.out.mono ?_
      rintro r w3 ⟨y2, A2, cc2, vs2, rfl, hy2, hJ2, k3⟩
      have hb3 := H2.out.1.below k3
      have q1 := hb3.cell 1
      have g1 := hb3.frozen 1
      simp at q1
      -- the first half's journal, for now
      obtain ⟨W4, hW4⟩ : ∃ W4, W4 = w3.setCell ⟨x, 1, none⟩ (.pointer (some ⟨y1, 0, none⟩)) := ⟨_, rfl⟩
      have ho4 : Only w3 W4 (Mv.one x) := by rw [hW4]; exact (Mv.Only.refl w3 (Mv.one x)).put _ (fun _ => rfl)
      have H4 : Hid (W4 = w3.setCell ⟨x, 1, none⟩ (.pointer (some ⟨y1, 0, none⟩)) ∧ RefAt W4 Bp p d ∧ Jr.JAt W4 W1.heap.size y1 p.x A1 cc1 vs1 (openJ d 0 H E) ∧ Jr.JAt W4 w2.heap.size y2 p.x A2 cc2 vs2 (openJ d H H E) ∧ Blk W4 x 84 #[.pointer (some ⟨p.x, 0, none⟩), .pointer (some ⟨y1, 0, none⟩), .int .i64 0, .int .u32 (E : Int), .bool false] ∧ Below w.heap.size w W4) := Lib.hid (by
        refine ⟨hW4, ref_box (HD2.out.below k3) hb3 ho4, jat_box (H2.out.2.1.below k3) hb3 ho4, jat_box hJ2 hb3 ho4, by rw [hW4]; have := hb3.put 1 (.pointer (some ⟨y1, 0, none⟩)); simpa using this, ?_⟩
        have k4 : Below w.heap.size w w3 := ((HB.out.trans (HW1.out.2.1.mono HB.out.size)).trans (H2.out.2.2.mono (by have := HB.out.size; have := HW1.out.2.1.size; omega))).trans (k3.mono (by have := HB.out.size; have := HW1.out.2.1.size; have := H2.out.2.2.size; omega))
        exact k4.trans (ho4.toBelow k4.size fun k hk hs => by have e : k = x := hs; have := HX.out; have := HB.out.size; omega))
      clear hW4 ho4 hJ2 hy2 k3 HO2 z3 hb3
      obtain ⟨b1, hb1⟩ : ∃ b1, (openJ d 0 H E).begun = b1 := ⟨_, rfl⟩
      obtain ⟨b2, hb2⟩ : ∃ b2, (openJ d H H E).begun = b2 := ⟨_, rfl⟩
      have HC : Hid (∀ u, Below W4.heap.size W4 u → u.cell? ⟨y1, 5, none⟩ = some (.int .u32 (b1 : Int)) ∧ u.cell? ⟨y2, 5, none⟩ = some (.int .u32 (b2 : Int)) ∧ u.cell? ⟨x, 1, none⟩ = some (.pointer (some ⟨y1, 0, none⟩)) ∧ u.cell? ⟨x, 2, none⟩ = some (.int .i64 0) ∧ u.cell? ⟨x, 3, none⟩ = some (.int .u32 (E : Int)) ∧ u.frozen? ⟨x, 1, none⟩ = false ∧ u.frozen? ⟨x, 2, none⟩ = false ∧ Below W4.heap.size W4 u) := Lib.hid (fun u hu => by
        have e1 := (H4.out.2.2.1.below hu).box.cell 5
        have e2 := (H4.out.2.2.2.1.below hu).box.cell 5
        have e3 := H4.out.2.2.2.2.1.below hu
        rw [hb1] at e1
        rw [hb2] at e2
        exact ⟨e1, e2, e3.cell 1, e3.cell 2, e3.cell 3, e3.frozen 1, e3.frozen 2, hu⟩)
      have HBG : Hid ((openJ d 0 H E).begun = b1 ∧ (openJ d H H E).begun = b2) := Lib.hid ⟨hb1, hb2⟩
      have HPK : Hid (pickV d (d.n / 2) (topN d.now + 1) = if b1 < b2 then (1, openJ d H H E) else (0, openJ d 0 H E)) := Lib.hid (by
        unfold pickV
        rw [HH.out, HT.out, HE.out, hb1, hb2])
      have c1 := (HC.out W4 (Below.refl _ _)).1
      have c2 := (HC.out W4 (Below.refl _ _)).2.1
      clear hb1 hb2
      go_upto_region 19 with (fail)
      rw [← H4.out.1]
      clear q1 g1
      have HX0 : Hid (vopenE d = (if vfound d then 0 else addE d (blankJ 0 H E) [1]) ∧ vopenDS d = (if vfound d then d else addDS d (blankJ 0 H E) [1]) ∧ vopenV d = (if vfound d then ⟨(pickV d (d.n / 2) (topN d.now + 1)).1, H, E, (pickV d (d.n / 2) (topN d.now + 1)).2, false⟩ else ⟨0, H, E, addJ d (blankJ 0 H E) [1], false⟩)) := Lib.hid (by
        have e0 := HV.out
        refine ⟨?_, ?_, ?_⟩
        · unfold vopenE
          rw [if_neg (by omega), HH.out, HT.out, HE.out]
        · unfold vopenDS
          rw [if_neg (by omega), HH.out, HT.out, HE.out]
        · unfold vopenV
          rw [HH.out, HT.out, HE.out])
      by_cases hlt : b1 < b2
      · have i2 : (b1 : Int) < (b2 : Int) := by omega
        have i3 : decide (b1 < b2) = true := by simpa using hlt
        have i4 : ((b2 : Int) == 0) = false := beq_eq_false_iff_ne.2 (by omega)
        have HF : Hid (vopenE d = 0 ∧ vopenDS d = d ∧ vopenV d = ⟨1, H, E, openJ d H H E, false⟩) := Lib.hid (by
          have e1 := HPK.out
          rw [if_pos hlt] at e1
          have e2 : vfound d = true := by
            unfold vfound
            rw [e1]
            show decide ((openJ d H H E).begun ≠ 0) = true
            rw [HBG.out.2]
            simp
            omega
          obtain ⟨a1, a2, a3⟩ := HX0.out
          rw [e2] at a1 a2 a3
          rw [e1] at a3
          exact ⟨a1, a2, a3⟩)
        clear hlt
        go_quiet (fail)
        obtain ⟨W5, hW5⟩ : ∃ W5, W5 = W4.drewN nq := ⟨_, rfl⟩
        rw [← hW5]
        have k5 : Below W4.heap.size W4 W5 := by rw [hW5]; exact Qu.below_draws (Below.refl _ _) nq
        have H5 : Hid (RefAt W5 Bp p d ∧ Jr.JAt W5 W1.heap.size y1 p.x A1 cc1 vs1 (openJ d 0 H E) ∧ Jr.JAt W5 w2.heap.size y2 p.x A2 cc2 vs2 (openJ d H H E) ∧ Blk W5 x 84 #[.pointer (some ⟨p.x, 0, none⟩), .pointer (some ⟨y1, 0, none⟩), .int .i64 0, .int .u32 (E : Int), .bool false] ∧ Below w.heap.size w W5) :=
          Lib.hid ⟨H4.out.2.1.below k5, H4.out.2.2.1.below k5, H4.out.2.2.2.1.below k5, H4.out.2.2.2.2.1.below k5, H4.out.2.2.2.2.2.trans (k5.mono H4.out.2.2.2.2.2.size)⟩
        obtain ⟨g1, g2, g3, g4, g5, g6, g7, _⟩ := HC.out W5 k5
        clear hW5 k5 c1 c2
        go_wp2_with fail
        go_ret2
        rw [ROpenE, HF.out.1, HF.out.2.1, HF.out.2.2]
        have hbx := (H5.out.2.2.2.1.put 1 (.pointer (some ⟨y2, 0, none⟩))).put 2 (.int .i64 1)
        have ho : Only W5 ((W5.setCell ⟨x, 1, none⟩ (.pointer (some ⟨y2, 0, none⟩))).setCell ⟨x, 2, none⟩ (.int .i64 1)) (Mv.one x) := ((Mv.Only.refl W5 (Mv.one x)).put _ (fun _ => rfl)).put _ (fun _ => rfl)
        have hsx : w.heap.size ≤ x := by have := HX.out; have := HB.out.size; omega
        have hw1 : w.heap.size ≤ W1.heap.size := by have := HB.out.size; have := HW1.out.2.1.size; omega
        have hw2 : w.heap.size ≤ w2.heap.size := by have := H2.out.2.2.size; omega
        have hRV := rv_turn (v' := ⟨1, H, E, openJ d H H E, false⟩) H5.out.2.2.2.1 hsx (jat_lower H5.out.2.2.1 hw2) ho hbx
        exact ⟨ref_box H5.out.1 H5.out.2.2.2.1 ho, (Mv.Only.ofBelow H5.out.2.2.2.2 p.has).trans ho (fun i hi hs => by have e : i = x := hs; omega), .inr ⟨rfl, x, y2, A2, cc2, vs2, rfl, hRV, hsx⟩⟩
      · have i2 : ¬ (b1 : Int) < (b2 : Int) := by omega
        have i3 : decide (b1 < b2) = false := by simpa using hlt
        have HPK2 := HPK.out
        rw [if_neg hlt] at HPK2
        have HPK3 := Lib.hid HPK2
        have HX2 : Hid (vfound d = decide (b1 ≠ 0)) := Lib.hid (by
          unfold vfound
          rw [HPK3.out]
          show decide ((openJ d 0 H E).begun ≠ 0) = _
          rw [HBG.out.1])
        clear hlt HPK2
        by_cases h0 : b1 = 0
        · have i4 : ((b1 : Int) == 0) = true := by rw [h0]; rfl
          have HF : Hid (vopenE d = addE d (blankJ 0 H E) [1] ∧ vopenDS d = addDS d (blankJ 0 H E) [1] ∧ vopenV d = ⟨0, H, E, addJ d (blankJ 0 H E) [1], false⟩) := Lib.hid (by
            have e2 := HX2.out
            rw [h0] at e2
            obtain ⟨a1, a2, a3⟩ := HX0.out
            rw [e2] at a1 a2 a3
            exact ⟨a1, a2, a3⟩)
          clear h0
          go_quiet (fail)
          obtain ⟨W5, hW5⟩ : ∃ W5, W5 = W4.drewN nq := ⟨_, rfl⟩
          rw [← hW5]
          have k5 : Below W4.heap.size W4 W5 := by rw [hW5]; exact Qu.below_draws (Below.refl _ _) nq
          have H5 : Hid (RefAt W5 Bp p d ∧ Jr.JAt W5 W1.heap.size y1 p.x A1 cc1 vs1 (openJ d 0 H E) ∧ Jr.JAt W5 w2.heap.size y2 p.x A2 cc2 vs2 (openJ d H H E) ∧ Blk W5 x 84 #[.pointer (some ⟨p.x, 0, none⟩), .pointer (some ⟨y1, 0, none⟩), .int .i64 0, .int .u32 (E : Int), .bool false] ∧ Below w.heap.size w W5) :=
            Lib.hid ⟨H4.out.2.1.below k5, H4.out.2.2.1.below k5, H4.out.2.2.2.1.below k5, H4.out.2.2.2.2.1.below k5, H4.out.2.2.2.2.2.trans (k5.mono H4.out.2.2.2.2.2.size)⟩
          obtain ⟨g1, g2, g3, g4, g5, g6, g7, _⟩ := HC.out W5 k5
          clear hW5 k5 c1 c2
          have HBLK : Hid (Calls Try.prog 44 #[.pointer (some ⟨p.x, 0, none⟩), .int .i64 0, .int .i64 (H : Int), .int .u32 (E : Int)] W5 fun r w' => ∃ x, r = .returned (.tuple #[.pointer (some ⟨x, 0, none⟩), .int .i64 0]) ∧ W5.heap.size ≤ x ∧ Jr.JAt w' W5.heap.size x p.x none 0 [] (blankJ 0 H E) ∧ Below W5.heap.size W5 w') := Lib.hid (Jr.rblank_ok W5 Bp p d 0 H E H5.out.1 (by have := HN.out.1; omega) hE32 HE1.out)
          go_wp2_with (first
            | (go_at_call 44; ((with_reducible refine HBLK.out.mono ?_); rintro r w6 ⟨y3, rfl, hy3, hJ3, k6⟩; have g8 := (H5.out.2.2.2.1.below k6).cell 1; have g9 := (H5.out.2.2.2.1.below k6).frozen 1; simp at g8; have H6 := Lib.hid (And.intro hy3 (And.intro hJ3 k6)); clear hy3 hJ3 k6)))
          obtain ⟨W7, hW7⟩ : ∃ W7, W7 = w6.setCell ⟨x, 1, none⟩ (.pointer (some ⟨y3, 0, none⟩)) := ⟨_, rfl⟩
          rw [← hW7]
          obtain ⟨W8, hW8⟩ : ∃ W8, W8 = W7.alloc (.cells #[.int .u8 1] 5) := ⟨_, rfl⟩
          rw [← hW8]
          have hsz7 : w6.heap.size = W7.heap.size := by rw [hW7]; simp
          rw [hsz7]
          have hbx6 := H5.out.2.2.2.1.below H6.out.2.2
          have ho7 : Only w6 W7 (Mv.one x) := by rw [hW7]; exact (Mv.Only.refl w6 (Mv.one x)).put _ (fun _ => rfl)
          have hbx7 : Blk W7 x 84 #[.pointer (some ⟨p.x, 0, none⟩), .pointer (some ⟨y3, 0, none⟩), .int .i64 0, .int .u32 (E : Int), .bool false] := by rw [hW7]; have := hbx6.put 1 (.pointer (some ⟨y3, 0, none⟩)); simpa using this
          have hD7 := ref_box (H5.out.1.below H6.out.2.2) hbx6 ho7
          have hJ7 := jat_box H6.out.2.1 hbx6 ho7
          have k8 : Below W7.heap.size W7 W8 := by rw [hW8]; exact (Below.refl _ _).alloc (Nat.le_refl _) _
          have h8 : Own8 W8 W7.heap.size (.slice (some ⟨W7.heap.size, 0, none⟩) 1 1) [1] := by rw [hW8]; exact Jl.one_row W7 W7.heap.size (Nat.le_refl _) 1
          have hD8 := hD7.below k8
          have hJ8 := hJ7.below k8
          have hbx8 := hbx7.below k8
          have hfit : Fit d (blankJ 0 H E) := ⟨by show 0 + H ≤ d.n; have := HH.out; omega, HN.out.1, Nat.zero_le _, Nat.le_refl _, fun b hb => (by cases hb), by show 1 ≤ E; have := HE.out; omega, hE32, HN.out.2.1⟩
          have hadd := radd_any W8 W5.heap.size Bp y3 0 1 none (some ⟨W7.heap.size, 0, none⟩) [] (blankJ 0 H E) p d [1] hJ8 hD8 hfit (By.Own8.bys h8) (by simp) (by omega) (by simp) (fun a ha _ => own_far_ref h8 hD8 a ha) (fun a ha _ => own_jat_ne h8 hJ8 a ha)
          refine hadd.mono ?_
          rintro r w9 ⟨hr9, hR9, A9, c9, vs9, hJ9, hO9, hF9⟩
          have hsx : w.heap.size ≤ x := by have := HX.out; have := HB.out.size; omega
          have hs5 : w.heap.size ≤ W5.heap.size := H5.out.2.2.2.2.size
          have hy3 : W5.heap.size ≤ y3 := H6.out.1
          have hx5 : x < W5.heap.size := H5.out.2.2.2.1.lt
          have hbx9 := Mv.blk_only hbx8 hO9 (fun hs => by
            rcases hs with hs | hs | hs
            · exact ref_far hD8 hbx8 hs
            · omega
            · cases hs)
          have hOall : Only w w9 p.has := by
            refine (((((Mv.Only.ofBelow H5.out.2.2.2.2 p.has).below H6.out.2.2).trans ho7 ?_).below k8).trans hO9 ?_)
            · intro i hi hs
              have e : i = x := hs
              omega
            · intro i hi hs
              rcases hs with hs | hs | hs
              · exact hs
              · omega
              · cases hs
          obtain ⟨F, hF⟩ : ∃ F, addE d (blankJ 0 H E) [1] = F := ⟨_, rfl⟩
          rw [hF] at hr9
          subst hr9
          have HFF := Lib.hid hF
          have H9 := Lib.hid (And.intro hR9 (And.intro hJ9 (And.intro hbx9 (And.intro hOall (And.intro hsx hs5)))))
          clear hW7 hW8 hsz7 hbx6 ho7 hbx7 hD7 hJ7 k8 h8 hD8 hJ8 hbx8 hfit hadd hR9 hJ9 hO9 hF9 hbx9 hOall hF hsx hs5 hy3 hx5
          by_cases h0 : F = 0
          · subst h0
            go_wp2_with fail
            go_ret2
            rw [ROpenE, HF.out.1, HF.out.2.1, HF.out.2.2, HFF.out]
            exact ⟨H9.out.1, H9.out.2.2.2.1, .inr ⟨rfl, x, y3, A9, c9, vs9, rfl, ⟨H9.out.2.2.2.2.1, H9.out.2.2.1, jat_lower H9.out.2.1 H9.out.2.2.2.2.2⟩, H9.out.2.2.2.2.1⟩⟩
          · have b1 : (F == 0) = false := beq_eq_false_iff_ne.2 h0
            have b2 : (F != 0) = true := by rw [bne, b1]; rfl
            have HNE := Lib.hid h0
            clear h0
            go_wp2_with fail
            go_ret2
            rw [ROpenE, HF.out.1, HF.out.2.1, HFF.out]
            exact ⟨H9.out.1, H9.out.2.2.2.1, .inl ⟨HNE.out, rfl⟩⟩
        · have i4 : ((b1 : Int) == 0) = false := beq_eq_false_iff_ne.2 (by omega)
          have HF : Hid (vopenE d = 0 ∧ vopenDS d = d ∧ vopenV d = ⟨0, H, E, openJ d 0 H E, false⟩) := Lib.hid (by
            have e2 := HX2.out
            rw [decide_eq_true h0] at e2
            obtain ⟨a1, a2, a3⟩ := HX0.out
            rw [e2] at a1 a2 a3
            rw [HPK3.out] at a3
            exact ⟨a1, a2, a3⟩)
          clear h0
          go_quiet (fail)
          obtain ⟨W5, hW5⟩ : ∃ W5, W5 = W4.drewN nq := ⟨_, rfl⟩
          rw [← hW5]
          have k5 : Below W4.heap.size W4 W5 := by rw [hW5]; exact Qu.below_draws (Below.refl _ _) nq
          have H5 : Hid (RefAt W5 Bp p d ∧ Jr.JAt W5 W1.heap.size y1 p.x A1 cc1 vs1 (openJ d 0 H E) ∧ Jr.JAt W5 w2.heap.size y2 p.x A2 cc2 vs2 (openJ d H H E) ∧ Blk W5 x 84 #[.pointer (some ⟨p.x, 0, none⟩), .pointer (some ⟨y1, 0, none⟩), .int .i64 0, .int .u32 (E : Int), .bool false] ∧ Below w.heap.size w W5) :=
            Lib.hid ⟨H4.out.2.1.below k5, H4.out.2.2.1.below k5, H4.out.2.2.2.1.below k5, H4.out.2.2.2.2.1.below k5, H4.out.2.2.2.2.2.trans (k5.mono H4.out.2.2.2.2.2.size)⟩
          obtain ⟨g1, g2, g3, g4, g5, g6, g7, _⟩ := HC.out W5 k5
          clear hW5 k5 c1 c2
          go_wp2_with fail
          go_ret2
          rw [ROpenE, HF.out.1, HF.out.2.1, HF.out.2.2]
          have hsx : w.heap.size ≤ x := by have := HX.out; have := HB.out.size; omega
          have hw1 : w.heap.size ≤ W1.heap.size := by have := HB.out.size; have := HW1.out.2.1.size; omega
          exact ⟨H5.out.1, Mv.Only.ofBelow H5.out.2.2.2.2 p.has, .inr ⟨rfl, x, y1, A1, cc1, vs1, rfl, ⟨hsx, H5.out.2.2.2.1, jat_lower H5.out.2.1 hw1⟩, hsx⟩⟩

end Go.Proofs.Ytedgookkogpfbaa.Vr
