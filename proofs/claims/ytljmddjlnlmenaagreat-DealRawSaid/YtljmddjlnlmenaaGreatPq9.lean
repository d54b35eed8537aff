/- Cuts: the statements' Units (made by gen-units15.py). -/
import Derived.Test.YtljmddjlnlmenaaGreatPq8
set_option maxRecDepth 100000
set_option linter.unusedVariables false

namespace Go.Proofs.YtljmddjlnlmenaaGreat.Ct
open Go.ChangeShapes Go.WideShapes Go.ChangeAt Go.RowKit
open Ap (Unt Tir Prm kUnt kTir row_Unt row_Tir)
open Kd (Kind Row kInt row_int)
open Ko (Out Told At)
open Py (modN modN_lt mod_any mod64_any)
theorem rem_3 (k r : Nat) (h : k % 3 = r) : (k : Int).tmod 3 = (r : Int) := by
  rw [Int.tmod_eq_emod_of_nonneg (Int.natCast_nonneg k), <- h]; rfl
theorem zero_r (k r : Nat) (h : k % 3 = r) : (k % 3 == 0) = ((r : Int) == 0) := by
  rw [h]; cases r <;> rfl
theorem few_3 (r : Nat) (h : r < 3) : IntKind.i64.wrap (r : Int) = (r : Int) /\ wrap64 (r : Int) = (r : Int) := by
  have h0 : (0 : Int) <= (r : Int) := Int.natCast_nonneg r
  have h1 : (r : Int) < 3 := Int.ofNat_lt.2 h
  exact ⟨IntWalk.i64_in _ (by omega), IntWalk.wrap64_in _ (by omega)⟩
set_option maxHeartbeats 4000000 in
theorem units_any (A : Option Addr) (n c : Nat) (xs : List Unt) (w : World) (h : Row kUnt w (· < w.heap.size) A n xs) (hn : n <= 1000000000000) :
    Calls Tryz.prog 18 #[.slice A n c] w fun e w' => Ko.Told kUnt 35 w e w' (unitsOf xs) := by
  have HH := Lib.hid h
  have HL := Lib.hid h.len
  have HO0 := Lib.hid (Out.nil kUnt 35 (Below.refl w.heap.size w))
  clear h
  go_enter Tryz.func18, Tryz.ntmps18
  go_wp2
  go_loopw [3, 4] (fun s3 s4 wr => ∃ k : Nat, s4 = .int .i64 k /\ k <= n /\ k <= 60 /\ Hid (Out kUnt 35 w wr s3 (unitsFrom 0 (xs.take k)))) (fun _ s4 _ => 60 - (intOf s4).toNat)
  case atStart => exact ⟨0, rfl, Nat.zero_le _, by omega, Lib.hid (by rw [List.take_zero]; exact HO0.out)⟩
  case round =>
    clear HO0
    obtain ⟨k, rfl, hk, hk8, HO⟩ := hrel
    have kk : (0 : Int) <= (k : Int) := by omega
    have hlen : (unitsFrom 0 (xs.take k)).length = k := by rw [unitsFrom_length, List.length_take, HL.out]; omega
    by_cases hlt : k < n
    . have k1 : (k : Int) < (n : Int) := by omega
      by_cases h8 : k < 60
      . have k2 : (k : Int) < 60 := by omega
        obtain ⟨x, hx⟩ := HH.out.get hlt
        obtain ⟨g, o, rfl, hg, _, hok, a0, a1, a2⟩ := row_Unt HH.out hx
        have c0 : ∀ u, Below w.heap.size w u -> u.cell? ⟨g, o + k * 3, none⟩ = some (.int .i64 x.line) := fun u hu => (hu.cell (p := ⟨g, _, none⟩) hg).trans a0
        have c1 : ∀ u, Below w.heap.size w u -> u.cell? ⟨g, o + k * 3 + 1, none⟩ = some (.int .i64 x.net) := fun u hu => (hu.cell (p := ⟨g, _, none⟩) hg).trans a1
        have c2 : ∀ u, Below w.heap.size w u -> u.cell? ⟨g, o + k * 3 + 2, none⟩ = some (.bool x.opn) := fun u hu => (hu.cell (p := ⟨g, _, none⟩) hg).trans a2
        have H2 := Lib.hid (fun W => mod_any x.line 9 W (by omega) (by omega))
        have H3 := Lib.hid (fun W => mod64_any x.net 3000 W (by omega) (by omega))
        have HF := Lib.hid (unitAt_ok k x)
        obtain ⟨op, hop⟩ : ∃ b, x.opn = b := ⟨_, rfl⟩
        obtain ⟨v2, hv2⟩ : ∃ v, modN x.line 9 = v := ⟨_, rfl⟩
        obtain ⟨v3, hv3⟩ : ∃ v, modN x.net 3000 = v := ⟨_, rfl⟩
        simp only [hv2] at H2
        simp only [hv3] at H3
        rw [hop] at c2
        have HA : Hid (unitAt k x = ⟨(v2 : Int), (v3 : Int), op || (k % 3 == 0)⟩) := Lib.hid (by unfold unitAt; rw [hv2, hv3, hop])
        have HN1 : Hid (unitsFrom 0 (xs.take (k + 1)) = unitsFrom 0 (xs.take k) ++ [⟨(v2 : Int), (v3 : Int), op || (k % 3 == 0)⟩]) := Lib.hid (by rw [unitsFrom_next hx, <- HA.out])
        have HOk1 : Hid ((⟨(v2 : Int), (v3 : Int), op || (k % 3 == 0)⟩ : Unt).ok) := Lib.hid (by rw [<- HA.out]; exact HF.out)
        obtain ⟨us, hus⟩ : ∃ us, unitsFrom 0 (xs.take k) = us := ⟨_, rfl⟩
        rw [hus] at HO hlen HN1
        obtain ⟨B, d, hv⟩ := HO.out.own.value
        rw [hlen] at hv
        subst hv
        have hown0 : Hid (Kd.Own kUnt wr w.heap.size 35 (fun _ => False) (.slice B k d) k us) := Lib.hid (by have := HO.out.own; rw [hlen] at this; exact this)
        have HLn := Lib.hid hlen
        have hlow := HO.out.below.size
        have hlow2 : w.heap.size <= wr.drew.heap.size := hlow
        clear hx a0 a1 a2 hok hg hop hv2 hv3 hus hlen HA HF
        cases op with
        | true =>
          have HN : Hid (unitsFrom 0 (xs.take (k + 1)) = us ++ [⟨(v2 : Int), (v3 : Int), true⟩]) := Lib.hid (by rw [HN1.out]; rfl)
          have HOk : Hid ((⟨(v2 : Int), (v3 : Int), true⟩ : Unt).ok) := Lib.hid HOk1.out
          clear HN1 HOk1
          go_wp2_with fail
          refine wp_region_held_drew (S := fun u => Below w.heap.size w u) (by kernel_rfl) (HO.out.below.drew) (fun hS0 => ?_)
          refine pkT 0 15 hS0 ?_
          try simp only [Act.put, pkA, pkB, pkC]
          refine pkT 1 16 hS0 ?_
          try simp only [Act.put, pkA, pkB, pkC]
          refine pkT 2 17 hS0 ?_
          try simp only [Act.put, pkA, pkB, pkC]
          refine pkT 3 18 hS0 ?_
          try simp only [Act.put, pkA, pkB, pkC]
          refine pkT 4 19 hS0 ?_
          try simp only [Act.put, pkA, pkB, pkC]
          refine pkT 5 20 hS0 ?_
          try simp only [Act.put, pkA, pkB, pkC]
          refine pkT 7 22 hS0 ?_
          try simp only [Act.put, pkA, pkB, pkC]
          refine pkT 8 23 hS0 ?_
          try simp only [Act.put, pkA, pkB, pkC]
          refine pkT 9 24 hS0 ?_
          try simp only [Act.put, pkA, pkB, pkC]
          refine pkT 10 25 hS0 ?_
          try simp only [Act.put, pkA, pkB, pkC]
          refine pkT 11 26 hS0 ?_
          try simp only [Act.put, pkA, pkB, pkC]
          refine pkT 13 28 hS0 ?_
          try simp only [Act.put, pkA, pkB, pkC]
          refine pkT 14 29 hS0 ?_
          try simp only [Act.put, pkA, pkB, pkC]
          refine pkT 15 30 hS0 ?_
          try simp only [Act.put, pkA, pkB, pkC]
          refine pkT 16 31 hS0 ?_
          try simp only [Act.put, pkA, pkB, pkC]
          refine pkT 17 32 hS0 ?_
          try simp only [Act.put, pkA, pkB, pkC]
          refine wpAnyH_ready (rs := [6]) (by kernel_rfl) (by simp) ?_
          refine AllReadyH.cons (o := ⟨some 21, _, _, _, _, _⟩) rfl (fun K hK => ?_) AllReadyH.nil
          go_simp
          refine (H2.out _).mono ?_
          rintro e wa ⟨rfl, rfl⟩
          go_wp2_with fail
          refine hK.out _ _ (hS0) (fun hS1 => ?_)
          clear hK K
          try simp only [Act.put, pkA, pkB, pkC]
          refine wpAnyH_ready (rs := [12]) (by kernel_rfl) (by simp) ?_
          refine AllReadyH.cons (o := ⟨some 27, _, _, _, _, _⟩) rfl (fun K hK => ?_) AllReadyH.nil
          go_simp
          refine (H3.out _).mono ?_
          rintro e wb ⟨rfl, rfl⟩
          go_wp2_with fail
          refine hK.out _ _ (hS1) (fun hS2 => ?_)
          clear hK K
          try simp only [Act.put, pkA, pkB, pkC]
          refine pkT 18 33 hS2 ?_
          try simp only [Act.put, pkA, pkB, pkC]
          refine pkU 19 34 hS2 ?_
          try simp only [Act.put, pkA, pkB, pkC]
          refine pkU 20 35 hS2 ?_
          try simp only [Act.put, pkA, pkB, pkC]
          refine pkU 21 36 hS2 ?_
          try simp only [Act.put, pkA, pkB, pkC]
          refine pkT 22 37 hS2 ?_
          try simp only [Act.put, pkA, pkB, pkC]
          refine pkT 23 38 hS2 ?_
          try simp only [Act.put, pkA, pkB, pkC]
          refine wpAnyH_ready (rs := [24]) (by kernel_rfl) (by simp) ?_
          refine AllReadyH.cons (o := ⟨some 39, _, _, _, _, _⟩) rfl (fun K hK => ?_) AllReadyH.nil
          go_simp
          refine hK.out _ _ ((Kd.below_alloc hS2 _)) (fun hS3 => ?_)
          clear hK K
          try simp only [Act.put, pkA, pkB, pkC]
          refine wpAnyH_ready (rs := [25]) (by kernel_rfl) (by simp) ?_
          refine AllReadyH.cons (o := ⟨some 40, _, _, _, _, _⟩) rfl (fun K hK => ?_) AllReadyH.nil
          refine Kd.step_push (o := ⟨some 40, _, _, _, _, _⟩) (W := wr.drew) (F := fun _ => False) (B := w.heap.size) (n := k) (v := .slice B k d) (xs := us) (y := ⟨(v2 : Int), (v3 : Int), true⟩) (cs := [.int .i64 (v2 : Int), .int .i64 (v3 : Int), .bool true]) Ap.Unt.row_t rfl (.tmp 15) (.tmp 39) rfl rfl rfl rfl (hown0.out.later (Below.refl _ _).drew) (Ap.Unt_rep.2 ⟨rfl, HOk.out⟩) (by omega) (by omega) (by omega) (fun _ h => h.elim) ?_
          intro g1 cap w9 hown hgrow hfr
          have HP := Lib.hid ((HO.out.later (Below.refl _ _).drew).push HLn.out hown hgrow)
          refine hK.out _ _ (HP.out.below) (fun hS4 => ?_)
          clear hK K
          try simp only [Act.put, pkA, pkB, pkC]
          refine pkT 26 3 hS4 ?_
          try simp only [Act.put, pkA, pkB, pkC]
          refine wpAnyH_done (by kernel_rfl) ?_ _
          clear hown hgrow hfr
          go_wp2_with fail
          go_roundw
          case rel => exact ⟨k + 1, by go_num, by omega, by omega, Lib.hid (by rw [HN.out]; exact HP.out)⟩
          case measure => simp [intOf]; omega
        | false =>
          obtain ⟨r, hr⟩ : ∃ r, k % 3 = r := ⟨_, rfl⟩
          have hr3 : r < 3 := by rw [<- hr]; exact Nat.mod_lt _ (by decide)
          have w1 : (k : Int).tmod 3 = (r : Int) := rem_3 k r hr
          have hz0 := zero_r k r hr
          have w2 : IntKind.i64.wrap (r : Int) = (r : Int) := (few_3 r hr3).1
          have w2' : wrap64 (r : Int) = (r : Int) := (few_3 r hr3).2
          obtain ⟨z, hz⟩ : ∃ z, ((r : Int) == 0) = z := ⟨_, rfl⟩
          rw [hz] at hz0
          have HN : Hid (unitsFrom 0 (xs.take (k + 1)) = us ++ [⟨(v2 : Int), (v3 : Int), z⟩]) := Lib.hid (by rw [HN1.out, hz0]; rfl)
          have HOk : Hid ((⟨(v2 : Int), (v3 : Int), z⟩ : Unt).ok) := Lib.hid (by have := HOk1.out; rw [hz0] at this; exact this)
          clear HN1 HOk1 hr hz0
          go_wp2_with fail
          refine wp_region_held_drew (S := fun u => Below w.heap.size w u) (by kernel_rfl) (HO.out.below.drew) (fun hS0 => ?_)
          refine pkT 0 15 hS0 ?_
          try simp only [Act.put, pkA, pkB, pkC]
          refine pkT 1 16 hS0 ?_
          try simp only [Act.put, pkA, pkB, pkC]
          refine pkT 2 17 hS0 ?_
          try simp only [Act.put, pkA, pkB, pkC]
          refine pkT 3 18 hS0 ?_
          try simp only [Act.put, pkA, pkB, pkC]
          refine pkT 4 19 hS0 ?_
          try simp only [Act.put, pkA, pkB, pkC]
          refine pkT 5 20 hS0 ?_
          try simp only [Act.put, pkA, pkB, pkC]
          refine pkT 7 22 hS0 ?_
          try simp only [Act.put, pkA, pkB, pkC]
          refine pkT 8 23 hS0 ?_
          try simp only [Act.put, pkA, pkB, pkC]
          refine pkT 9 24 hS0 ?_
          try simp only [Act.put, pkA, pkB, pkC]
          refine pkT 10 25 hS0 ?_
          try simp only [Act.put, pkA, pkB, pkC]
          refine pkT 11 26 hS0 ?_
          try simp only [Act.put, pkA, pkB, pkC]
          refine pkT 13 28 hS0 ?_
          try simp only [Act.put, pkA, pkB, pkC]
          refine pkT 14 29 hS0 ?_
          try simp only [Act.put, pkA, pkB, pkC]
          refine pkT 15 30 hS0 ?_
          try simp only [Act.put, pkA, pkB, pkC]
          refine pkT 16 31 hS0 ?_
          try simp only [Act.put, pkA, pkB, pkC]
          refine pkT 17 32 hS0 ?_
          try simp only [Act.put, pkA, pkB, pkC]
          refine wpAnyH_ready (rs := [6]) (by kernel_rfl) (by simp) ?_
          refine AllReadyH.cons (o := ⟨some 21, _, _, _, _, _⟩) rfl (fun K hK => ?_) AllReadyH.nil
          go_simp
          refine (H2.out _).mono ?_
          rintro e wa ⟨rfl, rfl⟩
          go_wp2_with fail
          refine hK.out _ _ (hS0) (fun hS1 => ?_)
          clear hK K
          try simp only [Act.put, pkA, pkB, pkC]
          refine wpAnyH_ready (rs := [12]) (by kernel_rfl) (by simp) ?_
          refine AllReadyH.cons (o := ⟨some 27, _, _, _, _, _⟩) rfl (fun K hK => ?_) AllReadyH.nil
          go_simp
          refine (H3.out _).mono ?_
          rintro e wb ⟨rfl, rfl⟩
          go_wp2_with fail
          refine hK.out _ _ (hS1) (fun hS2 => ?_)
          clear hK K
          try simp only [Act.put, pkA, pkB, pkC]
          refine pkT 18 33 hS2 ?_
          try simp only [Act.put, pkA, pkB, pkC]
          refine pkT 19 34 hS2 ?_
          try simp only [Act.put, pkA, pkB, pkC]
          refine pkT 20 35 hS2 ?_
          try simp only [Act.put, pkA, pkB, pkC]
          refine pkT 21 36 hS2 ?_
          try simp only [Act.put, pkA, pkB, pkC]
          refine pkT 22 37 hS2 ?_
          try simp only [Act.put, pkA, pkB, pkC]
          refine pkT 23 38 hS2 ?_
          try simp only [Act.put, pkA, pkB, pkC]
          refine wpAnyH_ready (rs := [24]) (by kernel_rfl) (by simp) ?_
          refine AllReadyH.cons (o := ⟨some 39, _, _, _, _, _⟩) rfl (fun K hK => ?_) AllReadyH.nil
          go_simp
          refine hK.out _ _ ((Kd.below_alloc hS2 _)) (fun hS3 => ?_)
          clear hK K
          try simp only [Act.put, pkA, pkB, pkC]
          refine wpAnyH_ready (rs := [25]) (by kernel_rfl) (by simp) ?_
          refine AllReadyH.cons (o := ⟨some 40, _, _, _, _, _⟩) rfl (fun K hK => ?_) AllReadyH.nil
          refine Kd.step_push (o := ⟨some 40, _, _, _, _, _⟩) (W := wr.drew) (F := fun _ => False) (B := w.heap.size) (n := k) (v := .slice B k d) (xs := us) (y := ⟨(v2 : Int), (v3 : Int), z⟩) (cs := [.int .i64 (v2 : Int), .int .i64 (v3 : Int), .bool z]) Ap.Unt.row_t rfl (.tmp 15) (.tmp 39) rfl rfl rfl rfl (hown0.out.later (Below.refl _ _).drew) (Ap.Unt_rep.2 ⟨rfl, HOk.out⟩) (by omega) (by omega) (by omega) (fun _ h => h.elim) ?_
          intro g1 cap w9 hown hgrow hfr
          have HP := Lib.hid ((HO.out.later (Below.refl _ _).drew).push HLn.out hown hgrow)
          refine hK.out _ _ (HP.out.below) (fun hS4 => ?_)
          clear hK K
          try simp only [Act.put, pkA, pkB, pkC]
          refine pkT 26 3 hS4 ?_
          try simp only [Act.put, pkA, pkB, pkC]
          refine wpAnyH_done (by kernel_rfl) ?_ _
          clear hown hgrow hfr
          go_wp2_with fail
          go_roundw
          case rel => exact ⟨k + 1, by go_num, by omega, by omega, Lib.hid (by rw [HN.out]; exact HP.out)⟩
          case measure => simp [intOf]; omega
      . have k2 : ¬ (k : Int) < 60 := by omega
        have HB : Hid (unitsOf xs = unitsFrom 0 (xs.take k)) := Lib.hid (by unfold unitsOf; rw [show k = 60 by omega])
        go_wp2
        go_ret
        rw [HB.out]
        exact HO.out.told
    . have k1 : ¬ (k : Int) < (n : Int) := by omega
      have HB : Hid (unitsOf xs = unitsFrom 0 (xs.take k)) := Lib.hid (by unfold unitsOf; rw [List.take_of_length_le (by rw [HL.out]; omega), List.take_of_length_le (by rw [HL.out]; omega)])
      go_wp2
      go_ret
      rw [HB.out]
      exact HO.out.told
end Go.Proofs.YtljmddjlnlmenaaGreat.Ct
