/- P14.1, P14.2: of lines that may be; their units' Nets come to what they cost; for every slice of items and slice of lines. No conditions. -/
import Derived.Test.YtdmpnkhgcggepaaBkK
import Derived.Test.YtdmpnkhgcggepaaBkN
import Derived.Test.YtdmpnkhgcggepaaBa
set_option maxRecDepth 100000
namespace Go.Proofs.Ytdmpnkhgcggepaa.basketNear
open Go.ChangeShapes Go.WideShapes Go.ChangeAt Go.RowKit
open It (Itm kItem row_item item_rep)
open Ap (Lin Unt kLin kUnt row_Lin row_Unt)
open Kd (Kind Row Own Cells Fit Agree eqL)
open Bk
set_option maxRecDepth 100000
set_option linter.unusedVariables false

theorem own : ownKnob Try.prog.godebug = none := by kernel_rfl

set_option maxHeartbeats 4000000 in
theorem walk (w : World) (A : Option Addr) (n c : Nat) (its : List Itm) (hrI : Row kItem w (· < w.heap.size) A n its) (hfI : Fit A n c) (B : Option Addr) (m d : Nat) (xs : List Lin) (hrL : Row kLin w (· < w.heap.size) B m xs) (hfL : Fit B m d) :
    Calls Try.prog 4 #[.slice A n c, .slice B m d] w fun e w' => e = .returned (.bool true) ∧ Below w.heap.size w w' := by
  have HA := Lib.hid (awake_any w)
  by_cases h40 : 40 < n
  · have i1 : (40 : Int) < (n : Int) := by omega
    clear hrI hfI hrL hfL
    go_enter Try.func4, Try.ntmps4
    go_wp2_with fail
    refine HA.out.mono ?_
    rintro e w1 ⟨rfl, hb⟩
    have HB := Lib.hid hb
    clear hb
    go_wp2
    go_ret
    exact ⟨rfl, HB.out⟩
  have i1 : ¬ (40 : Int) < (n : Int) := by omega
  by_cases g40 : 40 < m
  · have i2 : (40 : Int) < (m : Int) := by omega
    clear hrI hfI hrL hfL
    go_enter Try.func4, Try.ntmps4
    go_wp2_with fail
    refine HA.out.mono ?_
    rintro e w1 ⟨rfl, hb⟩
    have HB := Lib.hid hb
    clear hb
    go_wp2
    go_ret
    exact ⟨rfl, HB.out⟩
  have i2 : ¬ (40 : Int) < (m : Int) := by omega
  have HI := Lib.hid (Py.items_any A n c its w hrI (by omega))
  have HRL := Lib.hid (At.mk (w := w) hrL (Below.refl _ _))
  have hm : m ≤ 40 := by omega
  clear hrI hfI hrL hfL HA h40 g40
  go_enter Try.func4, Try.ntmps4
  go_wp2_with fail
  refine HI.out.mono ?_
  rintro e w1 ⟨v, rfl, hm1⟩
  obtain ⟨A1, c1, rfl⟩ := hm1.own.value
  have h8 : (Py.itemsOf its).take 8 = Py.itemsOf its := List.take_of_length_le (by rw [Py.itemsOf_length]; omega)
  have h1 := hm1.own
  rw [h8] at h1
  have HX1 := Lib.hid (At.mk (w := w) h1.read hm1.below)
  have HRL1 := Lib.hid (HRL.out.on hm1.below)
  have HLn := Lib.hid (lines_any B m d xs w1 HRL1.out.row (by omega))
  have hc8 : 8 ≤ c1 := by have := h1.fit.2.1; omega
  obtain ⟨ms, hms⟩ : ∃ ms, linesOf xs = ms := ⟨_, rfl⟩
  have hM8 := linesOf_length xs
  have hMay := lines_may xs
  have hck := near_check its xs
  have hgr := near_gross xs
  have hun := near_units xs
  rw [hms] at hM8 hMay hck hgr hun HLn
  obtain ⟨M, hM⟩ : ∃ M, ms.length = M := ⟨_, rfl⟩
  rw [hM] at hM8
  obtain ⟨us, hus⟩ : ∃ us, flatU 0 ms = us := ⟨_, rfl⟩
  rw [hus] at hun
  obtain ⟨L, hL⟩ : ∃ L, us.length = L := ⟨_, rfl⟩
  have hLq : ((L : Nat) : Int) = qsum ms := by rw [← hL, ← hus]; exact flatU_length 0 hMay.fine
  have HK := Lib.hid (And.intro hMay (And.intro hck (And.intro hgr (And.intro hun (And.intro hM (And.intro hus (And.intro hL hLq)))))))
  have hL5 : L ≤ 100000 := by have := hMay.units; omega
  clear hm1 h8 h1 HI HRL HRL1 i1 i2 hms hMay hck hgr hun hM hus hL hLq
  go_wp2_with fail
  refine HLn.out.mono ?_
  rintro e w2 ⟨A2, c2, rfl, ho2, hb2⟩
  rw [HK.out.2.2.2.2.1] at ho2
  simp only [HK.out.2.2.2.2.1]
  have HX2 := Lib.hid (HX1.out.on hb2)
  have HY2 := Lib.hid (At.mk (w := w) ho2.read HX2.out.below)
  have HU := Lib.hid (units_any A2 M c2 ms w2 HY2.out.row (by omega))
  rw [HK.out.2.2.2.1] at HU
  clear ho2 hb2 HX1 HLn
  go_wp2_with fail
  refine HU.out.mono ?_
  rintro e w3 ⟨A3, c3, rfl, ho3, hb3⟩
  rw [HK.out.2.2.2.2.2.2.1] at ho3
  simp only [HK.out.2.2.2.2.2.2.1]
  have HX3 := Lib.hid (HX2.out.on hb3)
  have HY3 := Lib.hid (HY2.out.on hb3)
  have HZ3 := Lib.hid (At.mk (w := w) ho3.read HX3.out.below)
  clear ho3 hb3 HX2 HY2 HU
  go_wp2
  go_loopw [8, 10] (fun s8 s10 wr => ∃ i : Nat, s10 = .int .i64 i ∧ s8 = .int .i64 (nsum (us.take i)) ∧ i ≤ L ∧ Hl.Drawn w3 wr) (fun _ s10 _ => L - (intOf s10).toNat)
  case atStart => exact ⟨0, rfl, rfl, by omega, ⟨0, rfl⟩⟩
  case round =>
    obtain ⟨i, rfl, rfl, hi, hD⟩ := hrel
    have ii : (0 : Int) ≤ (i : Int) := by omega
    have hnets : Nets us := by rw [← HK.out.2.2.2.2.2.1]; exact flat_nets HK.out.1.fine 0
    have hpart := hnets.part i
    have htot : nsum us = gsum ms := by rw [← HK.out.2.2.2.2.2.1]; exact flat_nsum 0 HK.out.1.fine
    have hg13 := HK.out.1.gross
    by_cases hlt : i < L
    · obtain ⟨u, hu⟩ := HZ3.out.row.get hlt
      have hpn := (hnets.part (i + 1)).2
      have hn1 := nsum_next hu
      have hnu := hnets i u hu
      obtain ⟨t, x, hx, hux⟩ := flat_at (xs := ms) (j := 0) (i := i) (u := u) (by rw [HK.out.2.2.2.2.2.1]; exact hu)
      rw [Nat.zero_add] at hux
      have htM : t < M := by rw [← HK.out.2.2.2.2.1]; exact (List.getElem?_eq_some_iff.1 hx).1
      obtain ⟨g3, o3, rfl, _, _, hok, a0, a1, a2⟩ := row_Unt HZ3.out.row hu
      obtain ⟨g2, o2, rfl, _, _, hokx, _, _, b2⟩ := row_Lin HY3.out.row hx
      obtain ⟨p, hp⟩ : ∃ p, x.price = p := ⟨_, rfl⟩
      rw [hp] at hux b2
      subst hux
      dsimp only at a0 a1 a2 hn1 hnu
      obtain ⟨S, hS⟩ : ∃ S, nsum (us.take i) = S := ⟨_, rfl⟩
      rw [hS] at hn1 hpart
      obtain ⟨S2, hS2⟩ : ∃ S2, S + p = S2 := ⟨_, rfl⟩
      rw [hS2] at hn1
      rw [hn1] at hpn
      have w1 : IntKind.i64.wrap (S + p) = S2 := by rw [hS2]; exact IntWalk.i64_in _ (by omega)
      have HN1 := Lib.hid hn1
      have c0 : ∀ q, (wr.drewN q).cell? ⟨g3, o3 + i * 3, none⟩ = some (.int .i64 (t : Int)) := fun q => by obtain ⟨z, rfl⟩ := hD; exact a0
      have c1' : ∀ q, (wr.drewN q).cell? ⟨g3, o3 + i * 3 + 1, none⟩ = some (.int .i64 p) := fun q => by obtain ⟨z, rfl⟩ := hD; exact a1
      have c2' : ∀ q, (wr.drewN q).cell? ⟨g3, o3 + i * 3 + 2, none⟩ = some (.bool true) := fun q => by obtain ⟨z, rfl⟩ := hD; exact a2
      have d2 : ∀ q, (wr.drewN q).cell? ⟨g2, o2 + t * 3 + 2, none⟩ = some (.int .i64 p) := fun q => by obtain ⟨z, rfl⟩ := hD; exact b2
      have c1r : wr.cell? ⟨g3, o3 + i * 3 + 1, none⟩ = some (.int .i64 p) := c1' 0
      have k1 : (i : Int) < (L : Int) := by omega
      have t0 : ¬ (t : Int) < 0 := by omega
      have t00 : (0 : Int) ≤ (t : Int) := by omega
      have t1 : (t : Int) < (M : Int) := by omega
      have t2 : ¬ (M : Int) ≤ (t : Int) := by omega
      have e1 : (p == p) = true := beq_self_eq_true p
      have e2 : (p != p) = false := by rw [bne, e1]; rfl
      have HD := Lib.hid hD
      have HPs : Hid (i = 0 ∨ ∃ (z : Nat) (y : Unt), i = z + 1 ∧ us[z]? = some y) := Lib.hid (by
        cases i with
        | zero => exact .inl rfl
        | succ z =>
          obtain ⟨y, hy⟩ := HZ3.out.row.get (show z < L by omega)
          exact .inr ⟨z, y, rfl, hy⟩)
      have HHu := Lib.hid hu
      clear a0 a1 a2 b2 hu hx hok hokx hp hn1 hpn hnu hnets hpart htot hg13 hS2 hD
      simp only [hS]
      clear hS
      go_upto_region 10 with (fail)
      rcases HPs.out with h0 | ⟨z, y, hz, hy⟩
      · have j0 : ¬ (0 : Int) < (i : Int) := by omega
        have j1 : decide ((0 : Int) < (i : Int)) = false := decide_eq_false j0
        have j2 : decide (0 < i) = false := decide_eq_false (by omega)
        clear c1r h0
        go_quiet (fail)
        go_wp2_with fail
        go_roundw
        case rel => exact ⟨i + 1, by go_num, by rw [HN1.out], by omega, HD.out.more _⟩
        case measure => simp [intOf]; omega
      · have j0 : (0 : Int) < (i : Int) := by omega
        have j1 : decide ((0 : Int) < (i : Int)) = true := decide_eq_true j0
        have j2 : decide (0 < i) = true := decide_eq_true (by omega)
        have hmo := flat_mono (xs := ms) (j := 0) (i := z) (u := y) (v := ⟨(t : Int), p, true⟩) (by rw [HK.out.2.2.2.2.2.1]; exact hy) (by rw [HK.out.2.2.2.2.2.1, ← hz]; exact HHu.out)
        obtain ⟨t', x', _, hyx⟩ := flat_at (xs := ms) (j := 0) (i := z) (u := y) (by rw [HK.out.2.2.2.2.2.1]; exact hy)
        rw [Nat.zero_add] at hyx
        obtain ⟨g4, o4, hg4, _, _, _, f0, _, _⟩ := row_Unt HZ3.out.row hy
        injection hg4 with hg4
        injection hg4 with hg4 ho4
        subst hg4 ho4
        subst hyx
        dsimp only at f0 hmo
        have f0' : ∀ q, (wr.drewN q).cell? ⟨g3, o3 + z * 3, none⟩ = some (.int .i64 (t' : Int)) := fun q => by obtain ⟨z9, rfl⟩ := HD.out; exact f0
        have wz : IntKind.i64.wrap ((i : Int) - 1) = (z : Int) := by rw [IntWalk.i64_in _ (by omega)]; omega
        have z0 : (0 : Int) ≤ (z : Int) := by omega
        have z1 : (z : Int) < (L : Int) := by omega
        have t5 : ¬ (t : Int) < (t' : Int) := by omega
        clear c1r f0 hy hz hmo
        go_quiet (fail)
        go_wp2_with fail
        go_roundw
        case rel => exact ⟨i + 1, by go_num, by rw [HN1.out], by omega, HD.out.more _⟩
        case measure => simp [intOf]; omega
    · have k1 : ¬ (i : Int) < (L : Int) := by omega
      obtain rfl : i = L := by omega
      have hS : nsum (us.take i) = gsum ms := by rw [List.take_of_length_le (by rw [HK.out.2.2.2.2.2.2.1]; omega)]; exact htot
      rw [hS]
      obtain ⟨G, hG⟩ : ∃ G, gsum ms = G := ⟨_, rfl⟩
      rw [hG]
      have HG := Lib.hid hG
      have HD := Lib.hid hD
      clear hnets hpart htot hg13 hS hG hD
      go_wp2
      clear k1
      go_loopw [9, 11] (fun s9 s11 wr => ∃ j : Nat, s11 = .int .i64 j ∧ s9 = .int .i64 (qsum (ms.take j)) ∧ j ≤ M ∧ Hl.Drawn w3 wr) (fun _ s11 _ => M - (intOf s11).toNat)
      case atStart => exact ⟨0, rfl, rfl, by omega, HD.out⟩
      case round =>
        clear HD
        obtain ⟨j, rfl, rfl, hj, hD⟩ := hrel
        have jj : (0 : Int) ≤ (j : Int) := by omega
        have hp := HK.out.1.fine.part j
        have hq5 := HK.out.1.units
        by_cases hlt : j < M
        · obtain ⟨x, hx⟩ := HY3.out.row.get hlt
          have hfx := fine_iff.1 (HK.out.1.fine j x hx)
          have hn := qsum_next hx
          have hp2 := (HK.out.1.fine.part (j + 1)).2.1
          obtain ⟨g, o, rfl, _, _, _, _, a1, _⟩ := row_Lin HY3.out.row hx
          have c1' : wr.cell? ⟨g, o + j * 3 + 1, none⟩ = some (.int .i64 x.qty) := by obtain ⟨z, rfl⟩ := hD; exact a1
          obtain ⟨Q, hQ⟩ : ∃ q, qsum (ms.take j) = q := ⟨_, rfl⟩
          obtain ⟨Q2, hQ2⟩ : ∃ q, Q + x.qty = q := ⟨_, rfl⟩
          rw [hQ, hQ2] at hn
          rw [hn] at hp2
          rw [hQ] at hp
          have w1 : IntKind.i64.wrap (Q + x.qty) = Q2 := by rw [hQ2]; exact IntWalk.i64_in _ (by omega)
          have k1 : (j : Int) < (M : Int) := by omega
          have HN := Lib.hid hn
          have HD := Lib.hid hD
          clear a1 hx hfx hn hp2 hp hq5 hQ2 hD
          simp only [hQ]
          clear hQ
          go_wp2
          go_roundw
          case rel => exact ⟨j + 1, by go_num, by rw [HN.out], by omega, HD.out⟩
          case measure => simp [intOf]; omega
        · have k1 : ¬ (j : Int) < (M : Int) := by omega
          obtain rfl : j = M := by omega
          have hQ : qsum (ms.take j) = (i : Int) := by rw [List.take_of_length_le (by rw [HK.out.2.2.2.2.1]; omega)]; exact HK.out.2.2.2.2.2.2.2.symm
          rw [hQ]
          have HX4 := Lib.hid (HX3.out.on (hD.below _))
          have HY4 := Lib.hid (HY3.out.on (hD.below _))
          have HA := Lib.hid (awake_any wr)
          clear hp hq5 hQ hD HX3 HY3 HZ3
          go_wp2_with fail
          refine HA.out.mono ?_
          rintro e w5 ⟨rfl, hb5⟩
          have HX5 := Lib.hid (HX4.out.on hb5)
          have HY5 := Lib.hid (HY4.out.on hb5)
          have HC := Lib.hid (check_any A1 8 c1 (Py.itemsOf its) A2 j c2 ms w5 HX5.out.row hc8 (by omega) HY5.out.row (by omega))
          rw [HK.out.2.1] at HC
          clear hb5 HA HX4 HY4
          go_wp2_with fail
          refine HC.out.mono ?_
          rintro e w6 ⟨rfl, hb6⟩
          have HX6 := Lib.hid (HX5.out.on hb6)
          have HY6 := Lib.hid (HY5.out.on hb6)
          have HC := Lib.hid (gross_any A2 j c2 ms w6 HY6.out.row (by omega))
          rw [HK.out.2.2.1, HG.out] at HC
          have e1 : (G == G) = true := beq_self_eq_true G
          clear hb6 HX5 HY5
          go_wp2_with fail
          refine HC.out.mono ?_
          rintro e w7 ⟨rfl, hb7⟩
          have HX7 := Lib.hid (HX6.out.on hb7)
          have HY7 := Lib.hid (HY6.out.on hb7)
          have HC := Lib.hid (items_any A1 8 c1 (Py.itemsOf its) A2 j c2 ms w7 HX7.out.row hc8 (by omega) HY7.out.row (by omega))
          obtain ⟨ts, hts⟩ : ∃ ts, gotL (Py.itemsOf its) ms = ts := ⟨_, rfl⟩
          have htl := gotL_length (Py.itemsOf its) ms
          rw [hts] at HC htl
          have HTs := Lib.hid (And.intro hts (Nat.le_trans htl (Nat.le_of_eq HK.out.2.2.2.2.1)))
          obtain ⟨T, hT⟩ : ∃ T, ts.length = T := ⟨_, rfl⟩
          have e3 : ((i : Int) == (i : Int)) = true := beq_self_eq_true _
          clear hb7 HX6 HY6 hts htl
          go_wp2_with fail
          refine HC.out.mono ?_
          rintro e w8 ⟨A8, c8, rfl, ho8, hb8⟩
          rw [hT] at ho8
          simp only [hT]
          have HX8 := Lib.hid (HX7.out.on hb8)
          have HY8 := Lib.hid (HY7.out.on hb8)
          have HP8 := Lib.hid (own_at ho8 hb8 HX7.out.below)
          have HC := Lib.hid (ritems_any A1 8 c1 (Py.itemsOf its) A2 j c2 ms w8 HX8.out.row (by omega) HY8.out.row (by omega))
          rw [HTs.out.1] at HC
          clear ho8 hb8 HX7 HY7
          go_wp2_with fail
          refine HC.out.mono ?_
          rintro e w9 ⟨A9, c9, rfl, ho9, hb9⟩
          rw [hT] at ho9
          simp only [hT]
          have HP9 := Lib.hid (HP8.out.on hb9)
          have HC := Lib.hid (It.plain_any A8 A9 T T c8 c9 ts ts _ w9 HP9.out.row (own_at ho9 hb9 HX8.out.below).row (fun _ h => h) (by have := HTs.out.2; omega))
          rw [Kd.eqL_refl It.sameB_refl] at HC
          clear ho9 hb9 HX8 HY8 HP8
          go_wp2_with fail
          refine HC.out.mono ?_
          rintro e wa ⟨rfl, hba⟩
          have HB := Lib.hid (HP9.out.on hba).below
          clear hba HC
          go_wp2
          go_ret
          exact ⟨rfl, HB.out⟩

set_option maxRecDepth 100000 in
theorem lifted (os : Os) (started : os.Started) (H : Type) (enc : TypeId × Value → H) :
    ReturnsInHanded {} Try.checked os 4 .any (Rows.basketNearSpec.pre6 enc Try.prog Try.f4 Rows.basketNearRow.domain false) (Rows.basketNearSpec.post enc Try.prog Try.f4 false true false false) := by
  refine returnsInHanded_of_change (C := Try.checked) own started (by kernel_rfl) Try.func4
    (ChangeSpec.witness6 (enc := enc) (C := Try.checked) false ⟨#[], #[.slice none 0 0, .slice none 0 0], []⟩ 8 (by kernel_rfl) (by kernel_rfl) (by kernel_rfl) (by kernel_rfl)) ?_
  intro W base args ds gs before hval0 hW hcnd _
  have hval : ∀ (j : Nat) t v, Try.f4.params[j]? = some t → args[j]? = some v → Value.okWide Try.prog W .any base t v := hval0
  have hW' := hW
  obtain ⟨p, q, hA0, hV, rfl, hfz, hnd⟩ := hW
  have hA : DataW.TrodAll enc Try.prog W 0 (fun _ => true) true Try.f4.params.toList args.toList ds p := hA0
  rw [Try.params4] at hA hval
  obtain ⟨v0, vs0, d0, ds0, p0, q0, hargs, rfl, rfl, h0, r0⟩ := trodAll_cons hA
  obtain ⟨v1, vs1, d1, ds1, p1, q1, rfl, rfl, rfl, h1, r1⟩ := trodAll_cons r0
  obtain ⟨rfl, rfl, rfl⟩ := trodAll_nil r1
  obtain rfl : args = #[v0, v1] := by cases args; simp_all
  obtain ⟨A0, n0, c0, xs0, rfl, x0, y0⟩ := Kd.open_list It.reads_item Try.underlying22 (by decide) (hval 0 22 v0 rfl rfl) h0
  obtain ⟨A1, n1, c1, xs1, rfl, x1, y1⟩ := Kd.open_list Ap.reads_Lin Try.underlying23 (by decide) (hval 1 23 v1 rfl rfl) h1
  refine (walk W A0 n0 c0 xs0 x0 y0 A1 n1 c1 xs1 x1 y1).mono fun e W' ⟨he, hb⟩ => ?_
  subst he
  exact ⟨_, rfl, Hk.closeLaw (tb := 4) (by kernel_rfl) (by kernel_rfl) rfl rfl rfl Try.underlying4 hW' hb⟩

theorem over : Rows.basketNearRow.holds Try.pinned (OpenSpec.ofChange Rows.basketNearSpec) :=
  OpenClaim.holds_of_wide 4 Try.f4 rfl rfl rfl rfl rfl rfl rfl ⟨rfl, rfl, rfl, rfl, rfl⟩ rfl rfl rfl rfl rfl (by kernel_rfl) Try.func4 (by kernel_rfl)
    (of_decide_eq_true (by kernel_rfl)) (by unfold Func.isWrapper; first | (rw [if_pos (by decide +kernel)]; kernel_rfl) | (rw [if_neg (by decide +kernel)]; exact ⟨rfl, rfl⟩))
    (fun os started H enc _ => lifted os started H enc)

/-- The statement. -/
theorem proved : Rows.BasketNearSaid :=
  over
end Go.Proofs.Ytdmpnkhgcggepaa.basketNear
