/- P9.2: on four to thirty-three sectors, up to thirty records of any sizes up to a hundred and fifty bytes: what has no room is refused and changes nothing; behind a Compact there is room again; for every number, list of sizes and base. No conditions. -/
import Derived.Test.YtedgookkogpfbaaVlF
import Derived.Test.YtedgookkogpfbaaBa
set_option maxRecDepth 100000
namespace Go.Proofs.Ytedgookkogpfbaa.vaultFull
open Go.ChangeShapes Go.WideShapes Go.ChangeAt Go.RowKit
set_option linter.unusedVariables false

theorem own : ownKnob Try.prog.godebug = none := by kernel_rfl

open Qu (Blk)
open Mv (Only)
open By (Bys cellsB cellsB_length)
open Dk (DS dsNew)
open Dd (Lay At Pl)
open Jl (modN modN_lt mod_any make_bytes)
open Vt Vl

theorem vf_small {d : DS} {v : VS} {n u c : Nat} (h : VF d v n u c) : u ≤ n ∧ c + 1 ≤ u := by
  obtain ⟨recs, eb, b0, h1, h2, h3⟩ := h.live
  have := h1.inv.fits
  have := h1.inv.len
  have := h.n
  omega

set_option maxRecDepth 100000 in
set_option maxHeartbeats 8000000 in
theorem walk (w : World) (a0 : Int) (wf0 : (Lit.int .i64 a0).wf = true) (A1 : Option Addr) (n1 c1 : Nat) (f1 : Nat → Int) (hI : Hl.Ints w w.heap.size A1 n1 f1) (hn1 : n1 ≤ 9223372036854775807) (hf1 : ∀ k, k < n1 → -9223372036854775808 ≤ f1 k ∧ f1 k ≤ 9223372036854775807) (a2 : Int) (wf2 : (Lit.int .i64 a2).wf = true) :
    Calls Try.prog 6 #[.int .i64 a0, .slice A1 n1 c1, .int .i64 a2] w fun e w' => e = .returned (.bool true) ∧ Below w.heap.size w w' := by
  have HM0 := Lib.hid (mod_any a0 30 (by omega) (by omega) w)
  have HM2 := Lib.hid (mod_any a2 400 (by omega) (by omega) w)
  obtain ⟨t0, ht0⟩ : ∃ t, modN a0 30 = t := ⟨_, rfl⟩
  obtain ⟨Z, hZ⟩ : ∃ t, modN a2 400 = t := ⟨_, rfl⟩
  have ht1 : t0 < 30 := by rw [← ht0]; exact modN_lt a0 (by omega)
  have hZ1 : Z < 400 := by rw [← hZ]; exact modN_lt a2 (by omega)
  rw [ht0] at HM0
  rw [hZ] at HM2
  obtain ⟨N, hN⟩ : ∃ N : Nat, 4 + t0 = N := ⟨_, rfl⟩
  obtain ⟨H, hH⟩ : ∃ H : Nat, N / 2 = H := ⟨_, rfl⟩
  have hN1 : (4 : Int) + (t0 : Int) = (N : Int) := by omega
  have hN2 : (N : Int) ≤ 33 := by omega
  have hH1 : ((N : Int) / 2) = (H : Int) := by omega
  have hH2 : ((N : Int).tdiv 2) = (H : Int) := by rw [Int.tdiv_eq_ediv_of_nonneg (by omega)]; omega
  have hH3 : (H : Int) ≤ 16 := by omega
  have hZ2 : (Z : Int) < 400 := by omega
  have HNN : Hid (4 ≤ N ∧ N ≤ 33 ∧ H ≤ 16 ∧ Z < 400) := Lib.hid ⟨by omega, by omega, by omega, hZ1⟩
  obtain ⟨m1, m2⟩ := VF.new (m := N) (by omega) (by omega)
  rw [hH] at m2
  have HI := Lib.hid (And.intro hI hf1)
  have HM := Lib.hid (And.intro m1 m2)
  clear hI hf1 m1 m2 ht0 ht1 hZ hZ1 hN hH wf0 wf2
  go_enter Try.func6, Try.ntmps6
  go_wp2_with (first | (refine HM0.out.mono ?_; rintro r w2 ⟨rfl, hw⟩; rw [hw]; clear hw w2) | (refine HM2.out.mono ?_; rintro r w2 ⟨rfl, hw⟩; rw [hw]; clear hw w2))
  refine (Dd.new_ok w N (by have := HNN.out; omega) (by have := HNN.out; omega)).mono ?_
  rintro e w1 ⟨q, rfl, hq, hlo, hb⟩
  have HP1 := Lib.hid (dp_new hq hlo hb (by have := HNN.out; omega) (by have := HNN.out; omega))
  clear hq hlo hb HM0 HM2 hN1
  go_wp2_with fail
  refine (vp_open HP1.out HM.out.1).mono ?_
  rintro e w2 ⟨x, rfl, hV, _⟩
  have hT0 := HM.out.2
  generalize vopenV (dsNew N) = v0 at *
  generalize vopenDS (dsNew N) = d0 at *
  have HV := Lib.hid (And.intro hV hT0)
  clear hV HP1 HM hT0
  go_wp2_with fail
  refine (awake_any w2).mono ?_
  rintro e w3 ⟨rfl, k3⟩
  have HV3 := Lib.hid (And.intro (HV.out.1.later k3) HV.out.2)
  clear k3 HV
  go_wp2_with fail
  go_loopw [11, 12, 13] (fun s11 s12 s13 wr => ∃ (i u c : Nat) (v : VS) (d : DS), s13 = .int .i64 (i : Int) ∧ s11 = .int .i64 (u : Int) ∧ s12 = .int .i64 (c : Int) ∧ i ≤ n1 ∧ i ≤ 30 ∧ VP w wr x q v d ∧ VF d v H u c) (fun _ _ s _ => 30 - (intOf s).toNat)
  case atStart => exact ⟨0, 1, 0, v0, d0, rfl, rfl, rfl, Nat.zero_le _, by omega, HV3.out.1, HV3.out.2⟩
  case round =>
    clear HV3
    obtain ⟨i, u, c, v, d, rfl, rfl, rfl, hi, hi30, hV, hT⟩ := hrel
    have hsm := vf_small hT
    have HV := Lib.hid (And.intro hV hT)
    have HIN := Lib.hid (And.intro hi hi30)
    have u1 : (u : Int) ≤ 16 := by omega
    have c1' : (c : Int) ≤ 16 := by omega
    have u0 : (0 : Int) ≤ (u : Int) := by omega
    clear hV hT
    have i0 : (0 : Int) ≤ (i : Int) := by omega
    by_cases hlt : i < n1 ∧ i < 30
    · have j1 : (i : Int) < (n1 : Int) := by omega
      have j2 : (i : Int) < 30 := by omega
      have j3 : decide (i < n1) = true := decide_eq_true hlt.1
      have j4 : decide (i < 30) = true := decide_eq_true hlt.2
      obtain ⟨b, o, rfl, hbl, hc⟩ := HI.out.1 i hlt.1
      have hcr := (HV.out.1.below.cell (p := ⟨b, o + i, none⟩) hbl).trans hc
      obtain ⟨t, ht⟩ : ∃ t, modN (f1 i) 150 = t := ⟨_, rfl⟩
      have ht1 : t < 150 := by rw [← ht]; exact modN_lt (f1 i) (by omega)
      have HMK := Lib.hid (mod_any (f1 i) 150 (by omega) (by omega) wr)
      rw [ht] at HMK
      generalize f1 i = fi at *
      obtain ⟨K, hK⟩ : ∃ K : Nat, 1 + t = K := ⟨_, rfl⟩
      have hK1 : (1 : Int) + (t : Int) = (K : Int) := by omega
      have hK2 : (K : Int) ≤ 150 := by omega
      obtain ⟨D, hD⟩ : ∃ D : Nat, (K + 45) / 46 = D := ⟨_, rfl⟩
      have hD1 : ((K : Int) + 45) / 46 = (D : Int) := by omega
      have hD2 : ((K : Int) + 45).tdiv 46 = (D : Int) := by rw [Int.tdiv_eq_ediv_of_nonneg (by omega)]; omega
      have hD3 : (D : Int) ≤ 5 := by omega
      obtain ⟨l, hl⟩ : ∃ l : List UInt8, List.replicate K 0 = l := ⟨_, rfl⟩
      have hlK : l.length = K := by rw [← hl, List.length_replicate]
      have mk := make_bytes K (by omega) wr
      rw [hl] at mk
      obtain ⟨W3, hW3⟩ : ∃ W3, W3 = wr.alloc (.cells (cellsB l).toArray 5) := ⟨_, rfl⟩
      rw [← hW3] at mk
      have k3 : Below wr.heap.size wr W3 := by rw [hW3]; exact (Below.refl _ _).alloc (Nat.le_refl _) _
      have HA : Hid (Calls Try.prog 24 #[.pointer (some ⟨x, 0, none⟩), .slice (some ⟨wr.heap.size, 0, none⟩) K K] W3 fun e w' => e = .returned (.int .i64 (vaddE d v l)) ∧ VP w w' x q (vaddV d v l) (vaddDS d v l)) := Lib.hid (by
        have hh := vp_add (HV.out.1.later k3) (b := l) (cb := K) (Ab := some ⟨wr.heap.size, 0, none⟩) (by rw [hW3]; exact By.Bys.blk (Qu.Blk.new wr _ _) rfl rfl) (by omega) (by omega) (by omega) (fun a ha hh => by
          injection ha with ha
          subst ha
          obtain ⟨Bd, y, A, c, vs, h1, h2⟩ := HV.out.1.some
          have := h1.there _ hh
          exact Nat.lt_irrefl _ this)
        rw [hlK] at hh
        exact hh)
      obtain ⟨f1', f2'⟩ := HV.out.2.add (b := l) hlK (by omega) (by omega)
      rw [hD] at f1' f2'
      have HT := Lib.hid (And.intro f1' f2')
      clear hl hW3 k3 f1' f2' hlK hlt hbl hc ht ht1 hK hD hsm hi hi30
      by_cases hfit : u + D ≤ H
      · obtain ⟨g1, g2⟩ := HT.out.1 hfit
        rw [g1] at HA
        obtain ⟨e1, e2⟩ := g2.told
        have HG := Lib.hid (And.intro g2 (And.intro e1 e2))
        have x1 : (u : Int) + (D : Int) ≤ (H : Int) := by omega
        have x2 : decide ((u : Int) + (D : Int) ≤ (H : Int)) = true := decide_eq_true x1
        clear g1 g2 e1 e2 hfit HT HV
        go_wp2_with (first | (go_at_call 8; (refine HMK.out.mono ?_); rintro r wz ⟨rfl, hw⟩; rw [hw]; clear hw wz))
        refine HA.out.mono ?_
        rintro e w4 ⟨rfl, hV4⟩
        obtain ⟨g2, e1, e2⟩ := HG.out
        generalize vaddV d v l = v4 at *
        generalize vaddDS d v l = d4 at *
        have HUS := Lib.hid (vp_used hV4)
        rw [e1] at HUS
        have HRE : Hid (∀ u, Below w4.heap.size w4 u → Calls Try.prog 31 #[.pointer (some ⟨x, 0, none⟩)] u fun e w' => ∃ A' c', e = .returned (.slice A' (c + 1) c') ∧ Below u.heap.size u w') := Lib.hid (fun u hu => by
          have h := vp_records (hV4.later hu)
          have hl : v4.j.l.tail.length = c + 1 := by rw [List.length_tail, e2]; rfl
          exact h.mono fun e w' ⟨A', c', h1, h2, h3, h4⟩ => ⟨A', c', by rw [h1, hl], h4⟩)
        have HV4 := Lib.hid (And.intro hV4 g2)
        have z1 : (((u : Int) + (D : Int)) != ((u : Int) + (D : Int))) = false := bne_self_eq_false _
        have z2 : (((c : Int) + 1) != ((c : Int) + 1)) = false := bne_self_eq_false _
        have z3 : ((u + D : Nat) : Int) = (u : Int) + (D : Int) := by omega
        have z4 : ((c + 1 : Nat) : Int) = (c : Int) + 1 := by omega
        rw [z3] at HUS
        clear hV4 g2 e1 e2 HG HA mk HMK
        go_wp2_with (first
          | (go_at_call 33; (with_reducible refine HUS.out.mono ?_); rintro e w6 ⟨rfl, hw⟩; rw [hw]; clear hw w6)
          | (go_at_call 31; (with_reducible refine (HRE.out _ (Below.refl _ _)).mono ?_); rintro e w6 ⟨A6, c6, rfl, k6⟩))
        go_roundw
        case rel => exact ⟨i + 1, u + D, c + 1, v4, d4, by go_num, by go_num, by go_num, by omega, by omega, HV4.out.1.later k6, HV4.out.2⟩
        case measure => simp [intOf]; omega
      · obtain ⟨g1, g2, g3⟩ := HT.out.2 hfit
        rw [g1, g2, g3] at HA
        obtain ⟨e1, e2⟩ := HV.out.2.told
        have x1 : ¬ (u : Int) + (D : Int) ≤ (H : Int) := by omega
        have x2 : decide ((u : Int) + (D : Int) ≤ (H : Int)) = false := decide_eq_false x1
        clear g1 g2 g3 hfit HT
        go_wp2_with (first | (go_at_call 8; (refine HMK.out.mono ?_); rintro r wz ⟨rfl, hw⟩; rw [hw]; clear hw wz))
        refine HA.out.mono ?_
        rintro e w4 ⟨rfl, hV4⟩
        have HUS := Lib.hid (vp_used hV4)
        rw [e1] at HUS
        have HRE : Hid (∀ u, Below w4.heap.size w4 u → Calls Try.prog 31 #[.pointer (some ⟨x, 0, none⟩)] u fun e w' => ∃ A' c', e = .returned (.slice A' c c') ∧ Below u.heap.size u w') := Lib.hid (fun u hu => by
          have h := vp_records (hV4.later hu)
          have hl : v.j.l.tail.length = c := by rw [List.length_tail, e2]; rfl
          exact h.mono fun e w' ⟨A', c', h1, h2, h3, h4⟩ => ⟨A', c', by rw [h1, hl], h4⟩)
        have HV4 := Lib.hid (And.intro hV4 HV.out.2)
        have z1 : ((u : Int) != (u : Int)) = false := bne_self_eq_false _
        have z2 : ((c : Int) != (c : Int)) = false := bne_self_eq_false _
        clear hV4 e1 e2 HA mk HMK HV
        go_wp2_with (first
          | (go_at_call 33; (with_reducible refine HUS.out.mono ?_); rintro e w6 ⟨rfl, hw⟩; rw [hw]; clear hw w6)
          | (go_at_call 31; (with_reducible refine (HRE.out _ (Below.refl _ _)).mono ?_); rintro e w6 ⟨A6, c6, rfl, k6⟩))
        go_roundw
        case rel => exact ⟨i + 1, u, c, v, d, by go_num, rfl, rfl, by omega, by omega, HV4.out.1.later k6, HV4.out.2⟩
        case measure => simp [intOf]; omega
    · obtain ⟨Q, hQ⟩ : ∃ Q : Nat, Z / 46 = Q := ⟨_, rfl⟩
      have hQ1 : (Z : Int) / 46 = (Q : Int) := by omega
      have hQ2 : (Z : Int).tdiv 46 = (Q : Int) := by rw [Int.tdiv_eq_ediv_of_nonneg (by omega)]; omega
      have hQ3 : (Q : Int) ≤ 9 := by omega
      obtain ⟨l, hl⟩ : ∃ l : List UInt8, List.replicate Z 0 = l := ⟨_, rfl⟩
      have hlK : l.length = Z := by rw [← hl, List.length_replicate]
      have mk := make_bytes Z (by omega) wr
      rw [hl] at mk
      obtain ⟨W3, hW3⟩ : ∃ W3, W3 = wr.alloc (.cells (cellsB l).toArray 5) := ⟨_, rfl⟩
      rw [← hW3] at mk
      have k3 : Below wr.heap.size wr W3 := by rw [hW3]; exact (Below.refl _ _).alloc (Nat.le_refl _) _
      have HC : Hid (Calls Try.prog 14 #[.pointer (some ⟨x, 0, none⟩), .slice (some ⟨wr.heap.size, 0, none⟩) Z Z] W3 fun e w' => e = .returned (.int .i64 (vcompE d v l)) ∧ VP w w' x q (vcompV d v l) (vcompDS d v l)) := Lib.hid (by
        have hh := vp_comp (HV.out.1.later k3) (b := l) (cb := Z) (Ab := some ⟨wr.heap.size, 0, none⟩) (by rw [hW3]; exact By.Bys.blk (Qu.Blk.new wr _ _) rfl rfl) (fun e => by cases e) (by omega)
        rw [hlK] at hh
        exact hh)
      obtain ⟨f1', f2'⟩ := HV.out.2.comp (b := l) (by omega)
      rw [hlK, hQ] at f1' f2'
      have HT := Lib.hid (And.intro f1' f2')
      clear hl hW3 k3 f1' f2' hlK hQ hsm hi hi30
      by_cases hin : i < n1
      case' pos =>
        have j1 : (i : Int) < (n1 : Int) := by omega
        have j2 : ¬ (i : Int) < 30 := by omega
        have j3 : decide (i < n1) = true := decide_eq_true hin
        have j4 : decide (i < 30) = false := decide_eq_false (by omega)
      case' neg =>
        have j1 : ¬ (i : Int) < (n1 : Int) := by omega
        have j3 : decide (i < n1) = false := decide_eq_false hin
      all_goals
        clear hlt hin
        by_cases hfit : Q + 1 ≤ H
        · obtain ⟨g1, g2, g3⟩ := HT.out.1 hfit
          rw [g1] at HC
          have HG := Lib.hid (And.intro g2 g3)
          have x1 : (Q : Int) + 1 ≤ (H : Int) := by omega
          have x2 : decide ((Q : Int) + 1 ≤ (H : Int)) = true := decide_eq_true x1
          clear g1 g2 g3 hfit HT HV
          go_wp2_with fail
          refine HC.out.mono ?_
          rintro e w4 ⟨rfl, hV4⟩
          obtain ⟨e1, e2⟩ := HG.out
          generalize vcompV d v l = v4 at *
          generalize vcompDS d v l = d4 at *
          have HUS := Lib.hid (vp_used hV4)
          rw [e1] at HUS
          have HRE : Hid (∀ u, Below w4.heap.size w4 u → Calls Try.prog 31 #[.pointer (some ⟨x, 0, none⟩)] u fun e w' => ∃ A' c', e = .returned (.slice A' 0 c') ∧ Below u.heap.size u w') := Lib.hid (fun u hu => by
            have h := vp_records (hV4.later hu)
            have hl : v4.j.l.tail.length = 0 := by rw [List.length_tail, e2]; rfl
            exact h.mono fun e w' ⟨A', c', h1, h2, h3, h4⟩ => ⟨A', c', by rw [h1, hl], h4⟩)
          have HV4 := Lib.hid hV4
          have z1 : (((Q : Int) + 1) == ((Q : Int) + 1)) = true := beq_self_eq_true _
          have z3 : ((Q + 1 : Nat) : Int) = (Q : Int) + 1 := by omega
          rw [z3] at HUS
          clear hV4 e1 e2 HG HC mk
          go_wp2_with (first
            | (go_at_call 33; (with_reducible refine HUS.out.mono ?_); rintro e w6 ⟨rfl, hw⟩; rw [hw]; clear hw w6)
            | (go_at_call 31; (with_reducible refine (HRE.out _ (Below.refl _ _)).mono ?_); rintro e w6 ⟨A6, c6, rfl, k6⟩))
          go_ret
          exact ⟨rfl, (HV4.out.later k6).below⟩
        · obtain ⟨g1, g2, g3⟩ := HT.out.2 hfit
          rw [g1, g2, g3] at HC
          obtain ⟨e1, e2⟩ := HV.out.2.told
          have x1 : ¬ (Q : Int) + 1 ≤ (H : Int) := by omega
          have x2 : decide ((Q : Int) + 1 ≤ (H : Int)) = false := decide_eq_false x1
          clear g1 g2 g3 hfit HT
          go_wp2_with fail
          refine HC.out.mono ?_
          rintro e w4 ⟨rfl, hV4⟩
          have HUS := Lib.hid (vp_used hV4)
          rw [e1] at HUS
          have HRE : Hid (∀ u, Below w4.heap.size w4 u → Calls Try.prog 31 #[.pointer (some ⟨x, 0, none⟩)] u fun e w' => ∃ A' c', e = .returned (.slice A' c c') ∧ Below u.heap.size u w') := Lib.hid (fun u hu => by
            have h := vp_records (hV4.later hu)
            have hl : v.j.l.tail.length = c := by rw [List.length_tail, e2]; rfl
            exact h.mono fun e w' ⟨A', c', h1, h2, h3, h4⟩ => ⟨A', c', by rw [h1, hl], h4⟩)
          have HV4 := Lib.hid hV4
          have z1 : ((u : Int) != (u : Int)) = false := bne_self_eq_false _
          have z2 : ((c : Int) != (c : Int)) = false := bne_self_eq_false _
          clear hV4 e1 e2 HC mk HV
          go_wp2_with (first
            | (go_at_call 33; (with_reducible refine HUS.out.mono ?_); rintro e w6 ⟨rfl, hw⟩; rw [hw]; clear hw w6)
            | (go_at_call 31; (with_reducible refine (HRE.out _ (Below.refl _ _)).mono ?_); rintro e w6 ⟨A6, c6, rfl, k6⟩))
          go_ret
          exact ⟨rfl, (HV4.out.later k6).below⟩

set_option maxRecDepth 100000 in
theorem lifted (os : Os) (started : os.Started) (H : Type) (enc : TypeId × Value → H) :
    ReturnsInHanded {} Try.checked os 6 .any (Rows.vaultFullSpec.pre6 enc Try.prog Try.f6 Rows.vaultFullRow.domain false) (Rows.vaultFullSpec.post enc Try.prog Try.f6 false true false false) := by
  refine returnsInHanded_of_change (C := Try.checked) own started (by kernel_rfl) Try.func6
    (ChangeSpec.witness6 (enc := enc) (C := Try.checked) false ⟨#[], #[.int .i64 0, .slice none 0 0, .int .i64 0], []⟩ 8 (by kernel_rfl) (by kernel_rfl) (by kernel_rfl) (by kernel_rfl)) ?_
  intro W base args ds gs before hval0 hW hcnd _
  have hval : ∀ (j : Nat) t v, Try.f6.params[j]? = some t → args[j]? = some v → Value.okWide Try.prog W .any base t v := hval0
  have hW' := hW
  obtain ⟨p, q, hA0, hV, rfl, hfz, hnd⟩ := hW
  have hA : DataW.TrodAll enc Try.prog W 0 (fun _ => true) true Try.f6.params.toList args.toList ds p := hA0
  rw [Try.params6] at hA hval
  obtain ⟨v0, vs0, d0, ds0, p0, q0, hargs, rfl, rfl, h0, r0⟩ := trodAll_cons hA
  obtain ⟨v1, vs1, d1, ds1, p1, q1, rfl, rfl, rfl, h1, r1⟩ := trodAll_cons r0
  obtain ⟨v2, vs2, d2, ds2, p2, q2, rfl, rfl, rfl, h2, r2⟩ := trodAll_cons r1
  obtain ⟨rfl, rfl, rfl⟩ := trodAll_nil r2
  obtain rfl : args = #[v0, v1, v2] := by cases args; simp_all
  obtain ⟨a0, rfl, _, _, w0⟩ := open_int Try.underlying3 (hval 0 3 v0 rfl rfl) h0
  obtain ⟨A1, n1, c1, f1, rfl, x1, y1, z1, u1⟩ := Hk.open_ints_at Try.underlying38 Try.underlying3 (by kernel_rfl) (hval 1 38 v1 rfl rfl) h1
  obtain ⟨a2, rfl, _, _, w2⟩ := open_int Try.underlying3 (hval 2 3 v2 rfl rfl) h2
  refine (walk W a0 w0 A1 n1 c1 f1 x1 y1 z1 a2 w2).mono fun e W' ⟨he, hb⟩ => ?_
  subst he
  exact ⟨_, rfl, Hk.closeLaw (tb := 4) (by kernel_rfl) (by kernel_rfl) rfl rfl rfl Try.underlying4 hW' hb⟩

theorem over : Rows.vaultFullRow.holds Try.pinned (OpenSpec.ofChange Rows.vaultFullSpec) :=
  OpenClaim.holds_of_wide 6 Try.f6 rfl rfl rfl rfl rfl rfl rfl ⟨rfl, rfl, rfl, rfl, rfl⟩ rfl rfl rfl rfl rfl (by kernel_rfl) Try.func6 (by kernel_rfl)
    (of_decide_eq_true (by kernel_rfl)) (by unfold Func.isWrapper; first | (rw [if_pos (by decide +kernel)]; kernel_rfl) | (rw [if_neg (by decide +kernel)]; exact ⟨rfl, rfl⟩))
    (fun os started H enc _ => lifted os started H enc)

/-- The statement. -/
theorem proved : Rows.VaultFullSaid :=
  over
end Go.Proofs.Ytedgookkogpfbaa.vaultFull
