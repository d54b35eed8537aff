/- The statements' Tax: a function of the numbers that it draws, all of it new. (made by wip/gen-tax.py) -/
import Derived.Deep.CutBlock
import Derived.Deep.DeepCutAuto
import Derived.Deep.RegionHeld3
import Derived.Test.YtfcmhgneijipgaaGreatPk30

set_option maxRecDepth 100000
set_option linter.unusedVariables false
namespace Go.Proofs.YtfcmhgneijipgaaGreat.Py
open Go.ChangeShapes Go.WideShapes Go.ChangeAt Go.RowKit Go.Deep
open Kd (Kind Row Own Cells Fit Agree High Lst kStr)
open Ap (CtR Zon Txs kCtR kZon row_CtR row_Zon Zon_rep)
open Ru (cellsZ ZonesSmall)
theorem zonS_size (k : Nat) : (zonS k).size ≤ maxLen := by
  unfold zonS two
  rw [By.strOf_size]
  unfold maxLen
  simp
theorem catS_size (k : Nat) : (catS k).size ≤ maxLen := by
  unfold catS chr
  rw [By.strOf_size]
  unfold maxLen
  simp
set_option maxHeartbeats 20000000 in
theorem tax_near (t : Txs) (l : Txs.Lay) (w : World) (h : Ap.Txs.Holds w (· < w.heap.size) t l) (hS : ZonesSmall t.zones) (hn : l.zones.n ≤ 1000000000000) :
    Calls Tryz.prog 18 #[.agg #[.bool t.incl, .bool t.byOrder, .int .i64 t.round, .slice l.zones.A l.zones.n l.zones.c]] w fun e w' => Taxed w t e w' := by
  obtain ⟨⟨A, n, c⟩⟩ := l
  have hn : n ≤ 1000000000000 := hn
  obtain ⟨W1, hW1⟩ : ∃ W1, w.alloc (.cells #[.bool t.incl, .bool t.byOrder, .int .i64 t.round, .slice A n c] 26) = W1 := ⟨_, rfl⟩
  have hb1 : Below w.heap.size w W1 := by rw [← hW1]; exact (Below.refl _ _).alloc (Nat.le_refl _) _
  have hs1 : W1.heap.size = w.heap.size + 1 := by rw [← hW1]; simp
  have hbox : Qu.Blk W1 w.heap.size 26 #[.bool t.incl, .bool t.byOrder, .int .i64 t.round, .slice A n c] := by rw [← hW1]; exact Qu.Blk.new w _ _
  obtain ⟨W2, hW2⟩ : ∃ W2, W1.alloc (.cells #[.bool false, .bool false, .int .i64 0, .slice none 0 0] 26) = W2 := ⟨_, rfl⟩
  have hb2 : Below W1.heap.size W1 W2 := by rw [← hW2]; exact (Below.refl _ _).alloc (Nat.le_refl _) _
  have hs2 : W2.heap.size = w.heap.size + 2 := by rw [← hW2]; simp [hs1]
  have hbz : Qu.Blk W2 (w.heap.size + 1) 26 #[.bool false, .bool false, .int .i64 0, .slice none 0 0] := by rw [← hW2, ← hs1]; exact Qu.Blk.new W1 _ _
  have hB : Below w.heap.size w W2 := hb1.trans (hb2.mono (by omega))
  have HA := Lib.hid (And.intro hB (And.intro hs2 (And.intro (hbox.below hb2) hbz)))
  have HH := Lib.hid (And.intro h.zones hS)
  have HLn := Lib.hid h.zones.row.len
  obtain ⟨m, hm⟩ : ∃ m, modN t.round 3 = m := ⟨_, rfl⟩
  have HM := Lib.hid (fun W => mod_any t.round 3 W (by omega) (by omega))
  simp only [hm] at HM
  have HMr := Lib.hid hm
  have c0 : ∀ u, Below W2.heap.size W2 u → u.cell? ⟨w.heap.size, 0, none⟩ = some (.bool t.incl) := fun u hu => ((hbox.below hb2).below hu).cell 0
  have c1 : ∀ u, Below W2.heap.size W2 u → u.cell? ⟨w.heap.size, 1, none⟩ = some (.bool t.byOrder) := fun u hu => ((hbox.below hb2).below hu).cell 1
  have c2 : ∀ u, Below W2.heap.size W2 u → u.cell? ⟨w.heap.size, 2, none⟩ = some (.int .i64 t.round) := fun u hu => ((hbox.below hb2).below hu).cell 2
  have hz2 := Lib.hid hs2
  clear h hS hb1 hb2 hbox hbz hB hm hs2
  go_enter Tryz.func18, Tryz.ntmps18
  go_upto_region 1 with (fail)
  try rw [hz2.out]
  clear hW1 hW2 hs1
  go_cut [3] (fun s3 wx => ∃ b3, s3 = .pointer (some ⟨b3, 0, none⟩) ∧ Hid (TG w wx b3 t ⟨⟨A, n, c⟩⟩ (.slice none 0 0) 0))
  case first =>
    refine wp_region_held_drew (S := fun u => Below W2.heap.size W2 u) (by kernel_rfl) ((Below.refl _ _).drew) (fun hS0 => ?_)
    refine pkT 0 7 hS0 ?_
    try simp only [Act.put, pkA, pkB, pkC]
    refine pkT 1 8 hS0 ?_
    try simp only [Act.put, pkA, pkB, pkC]
    refine pkT 2 9 hS0 ?_
    try simp only [Act.put, pkA, pkB, pkC]
    refine pkT 3 10 hS0 ?_
    try simp only [Act.put, pkA, pkB, pkC]
    refine pkT 4 11 hS0 ?_
    try simp only [Act.put, pkA, pkB, pkC]
    refine pkT 5 12 hS0 ?_
    try simp only [Act.put, pkA, pkB, pkC]
    refine wpAnyH_ready (rs := [6, 8]) (by kernel_rfl) (by simp) ?_
    refine AllReadyH.cons (o := ⟨some 13, _, _, _, _, _⟩) rfl (fun K hK => ?_) ?_
    ·
      go_simp
      refine (HM.out _).mono ?_
      rintro e wb ⟨rfl, rfl⟩
      go_wp2_with fail
      refine hK.out _ _ (hS0) (fun hS1 => ?_)
      clear hK K
      try simp only [Act.put, pkA, pkB, pkC]
      refine pkT 7 14 hS1 ?_
      try simp only [Act.put, pkA, pkB, pkC]
      refine wpAnyH_ready (rs := [8]) (by kernel_rfl) (by simp) ?_
      refine AllReadyH.cons (o := ⟨some 3, _, _, _, _, _⟩) rfl (fun K hK => ?_) AllReadyH.nil
      go_simp
      obtain ⟨W5, g5, e1, e2, hG, hB5⟩ := gott_new hS1
      first | rw [e1, e2] | (rw [show (World.alloc W2 _).drew = W5 from e1]; rw [show W2.heap.size = g5 from e2])
      refine hK.out _ _ (hB5) (fun hS2 => ?_)
      clear hK K
      try simp only [Act.put, pkA, pkB, pkC]
      refine wpAnyH_ready (rs := [9]) (by kernel_rfl) (by simp) ?_
      refine AllReadyH.cons (o := ⟨none, _, _, _, _, _⟩) rfl (fun K hK => ?_) AllReadyH.nil
      have z0 := hG.blk.cell 0
      have z1 := hG.blk.cell 1
      have z2 := hG.blk.cell 2
      have z3 := hG.blk.cell 3
      have zf := hG.blk.frozen
      have HX := Lib.hid (TG.begin (t := t) (l := ⟨⟨A, n, c⟩⟩) HA.out.1 HA.out.2.1 HA.out.2.2.1 HA.out.2.2.2 hS2 hG)
      rw [HMr.out] at HX
      go_simp
      refine hK.out _ _ (HX.out.2) (fun hS3 => ?_)
      clear hK K
      try simp only [Act.put, pkA, pkB, pkC]
      refine wpAnyH_done (by kernel_rfl) ?_ _
      go_wp2_with fail
      go_meet
      exact ⟨_, rfl, Lib.hid (HMr.out ▸ HX.out.1)⟩
    refine AllReadyH.cons (o := ⟨some 3, _, _, _, _, _⟩) rfl (fun K hK => ?_) AllReadyH.nil
    go_simp
    obtain ⟨W5, g5, e1, e2, hG, hB5⟩ := gott_new hS0
    first | rw [e1, e2] | (rw [show (World.alloc W2 _).drew = W5 from e1]; rw [show W2.heap.size = g5 from e2])
    refine hK.out _ _ (hB5) (fun hS1 => ?_)
    clear hK K
    try simp only [Act.put, pkA, pkB, pkC]
    refine wpAnyH_ready (rs := [6]) (by kernel_rfl) (by simp) ?_
    refine AllReadyH.cons (o := ⟨some 13, _, _, _, _, _⟩) rfl (fun K hK => ?_) AllReadyH.nil
    go_simp
    refine (HM.out _).mono ?_
    rintro e wb ⟨rfl, rfl⟩
    go_wp2_with fail
    refine hK.out _ _ (hS1) (fun hS2 => ?_)
    clear hK K
    try simp only [Act.put, pkA, pkB, pkC]
    refine pkT 7 14 hS2 ?_
    try simp only [Act.put, pkA, pkB, pkC]
    refine wpAnyH_ready (rs := [9]) (by kernel_rfl) (by simp) ?_
    refine AllReadyH.cons (o := ⟨none, _, _, _, _, _⟩) rfl (fun K hK => ?_) AllReadyH.nil
    have z0 := hG.blk.cell 0
    have z1 := hG.blk.cell 1
    have z2 := hG.blk.cell 2
    have z3 := hG.blk.cell 3
    have zf := hG.blk.frozen
    have HX := Lib.hid (TG.begin (t := t) (l := ⟨⟨A, n, c⟩⟩) HA.out.1 HA.out.2.1 HA.out.2.2.1 HA.out.2.2.2 hS2 hG)
    rw [HMr.out] at HX
    go_simp
    refine hK.out _ _ (HX.out.2) (fun hS3 => ?_)
    clear hK K
    try simp only [Act.put, pkA, pkB, pkC]
    refine wpAnyH_done (by kernel_rfl) ?_ _
    go_wp2_with fail
    go_meet
    exact ⟨_, rfl, Lib.hid (HMr.out ▸ HX.out.1)⟩
  case rest =>
    obtain ⟨b3, rfl, hT0⟩ := hcut
    clear c0 c1 c2 HM
    go_wp2
    go_loopw [4] (fun s4 wr => ∃ k : Nat, s4 = .int .i64 k ∧ k ≤ 3 ∧ Hid (∃ v, TG w wr b3 t ⟨⟨A, n, c⟩⟩ v k)) (fun s4 _ => 3 - (intOf s4).toNat)
    case atStart => exact ⟨0, rfl, by omega, Lib.hid ⟨_, hT0.out⟩⟩
    case round =>
      clear hT0
      obtain ⟨k, rfl, hk, hT2⟩ := hrel
      obtain ⟨v, hT⟩ := hT2.out
      have HT := Lib.hid hT
      clear hT2
      have k0 : (0 : Int) ≤ (k : Int) := by omega
      by_cases hk3 : k < 3
      · have k1 : (k : Int) < 3 := by omega
        have hr := fun W => By.run_text (P := Tryz.prog) (c := 1) 63 9 5 Tryz.underlying63 Tryz.underlying5 Tryz.underlying9 (By.Bys.made W 5 (48 + (k : Int)) (by omega) (by omega))
        have e : (48 + (k : Int)).toNat = 48 + k := by omega
        rw [e] at hr
        have hc : ∀ W, (Op.stringOp .add ⟨#[122]⟩ (By.strOf [UInt8.ofNat (48 + k)])).run Tryz.prog W = .ok (.string (zonS k)) W := fun W => cat_two 122 (48 + k) W
        obtain ⟨x0, hx0⟩ : ∃ x, By.strOf [UInt8.ofNat (48 + k)] = x := ⟨_, rfl⟩
        simp only [hx0] at hr hc
        have m1 : IntKind.i64.wrap (1000 * (k : Int)) = 1000 * (k : Int) := IntWalk.i64_in _ (by omega)
        have m2 : IntKind.i64.wrap (500 * (k : Int)) = 500 * (k : Int) := IntWalk.i64_in _ (by omega)
        have x3 := hT.arg.cell 3
        obtain ⟨W4, hW4⟩ : ∃ W4, ((wr.alloc (.cells #[.int .u8 (48 + (k : Int))] 5)).alloc (.cells #[.string (zonS k), .slice none 0 0, .int .i64 (1000 * (k : Int)), .int .i64 (500 * (k : Int))] 41)) = W4 := ⟨_, rfl⟩
        have HZ0 : Hid (ZD wr W4 (wr.heap.size + 1) ⟨zonS k, [], 1000 * (k : Int), 500 * (k : Int)⟩ ⟨⟨none, 0, 0⟩⟩) := Lib.hid (ZD.begin rfl ⟨zonS_size k, ⟨by show -9223372036854775808 ≤ 1000 * (k : Int); omega, by show 1000 * (k : Int) ≤ 9223372036854775807; omega⟩, by show (-9223372036854775808 : Int) ≤ 500 * (k : Int); omega, by show 500 * (k : Int) ≤ 9223372036854775807; omega⟩ hW4)
        have HW4 := Lib.hid hW4
        obtain ⟨g5, hg5⟩ : ∃ g5, wr.heap.size + 1 = g5 := ⟨_, rfl⟩
        have x3b : W4.cell? ⟨w.heap.size, 3, none⟩ = some (.slice A n c) := ((hT.later HZ0.out.below).arg).cell 3
        clear hx0 hT e
        go_upto_if 34 with (fail)
        simp only [hg5] at HZ0 ⊢
        clear hr hc m1 m2 hW4 hg5
        go_cut [] (fun wx => Hid (∃ lz, ZD wr wx g5 (zonAt t.zones k) lz))
        case first =>
          by_cases hkn : k < n
          · have n1 : (k : Int) < (n : Int) := by omega
            have n2 : decide (k < n) = true := decide_eq_true hkn
            obtain ⟨x, hx⟩ := HH.out.1.row.get hkn
            obtain ⟨g, o, lx, hA, _, hgl, hok, b0, b1, b2, b3'⟩ := row_Zon HH.out.1.row hx
            have hA2 : A = some ⟨g, o, none⟩ := hA
            subst hA2
            have hbw4 : Below w.heap.size w W4 := HT.out.below.trans (HZ0.out.below.mono HT.out.below.size)
            have hg5l : g < g5 := Nat.lt_of_lt_of_le hgl (Nat.le_trans HT.out.below.size HZ0.out.hg)
            have hw5l : w.heap.size < g5 := Nat.lt_of_lt_of_le HT.out.arg.lt HZ0.out.hg
            have c3 : ∀ u, Below g5 W4 u → u.cell? ⟨w.heap.size, 3, none⟩ = some (.slice (some ⟨g, o, none⟩) n c) := fun u hu => (hu.cell (p := ⟨w.heap.size, _, none⟩) hw5l).trans x3b
            have a2 : ∀ u, Below g5 W4 u → u.cell? ⟨g, o + k * 4 + 2, none⟩ = some (.int .i64 x.rest) := fun u hu => ((hu.cell (p := ⟨g, _, none⟩) hg5l).trans (hbw4.cell (p := ⟨g, _, none⟩) hgl)).trans b2
            have a3 : ∀ u, Below g5 W4 u → u.cell? ⟨g, o + k * 4 + 3, none⟩ = some (.int .i64 x.ship) := fun u hu => ((hu.cell (p := ⟨g, _, none⟩) hg5l).trans (hbw4.cell (p := ⟨g, _, none⟩) hgl)).trans b3'
            have a1 : ∀ u, Below g5 W4 u → u.cell? ⟨g, o + k * 4 + 1, none⟩ = some (.slice lx.rates.A lx.rates.n lx.rates.c) := fun u hu => ((hu.cell (p := ⟨g, _, none⟩) hg5l).trans (hbw4.cell (p := ⟨g, _, none⟩) hgl)).trans b1
            have z0 : W4.cell? ⟨g5, 0, none⟩ = some (.string (zonS k)) := HZ0.out.box.cell 0
            have z1 : W4.cell? ⟨g5, 1, none⟩ = some (.slice none 0 0) := HZ0.out.box.cell 1
            have z2 : W4.cell? ⟨g5, 2, none⟩ = some (.int .i64 (1000 * (k : Int))) := HZ0.out.box.cell 2
            have z3 : W4.cell? ⟨g5, 3, none⟩ = some (.int .i64 (500 * (k : Int))) := HZ0.out.box.cell 3
            have zf := HZ0.out.box.frozen
            obtain ⟨r, hr⟩ : ∃ r : Nat, modN x.rest 3000 = r := ⟨_, rfl⟩
            obtain ⟨s, hs⟩ : ∃ s : Nat, modN x.ship 3000 = s := ⟨_, rfl⟩
            have HMa := Lib.hid (fun W => mod64_any x.rest 3000 W (by omega) (by omega))
            have HMb := Lib.hid (fun W => mod64_any x.ship 3000 W (by omega) (by omega))
            have r1 := modN_lt x.rest 3000 (by omega)
            have s1 := modN_lt x.ship 3000 (by omega)
            rw [hr] at r1
            rw [hs] at s1
            simp only [hr] at HMa
            simp only [hs] at HMb
            have HX : Hid (ZD wr ((W4.drew.setCell ⟨g5, 2, none⟩ (.int .i64 (r : Int))).setCell ⟨g5, 3, none⟩ (.int .i64 (s : Int))) g5 ⟨zonS k, [], (r : Int), (s : Int)⟩ ⟨⟨none, 0, 0⟩⟩) := Lib.hid ((HZ0.out.later (Below.refl _ _).drew).put2 (by omega) (by omega))
            have HXb : Hid (∀ u, Below g5 W4 u → (∀ w', Below g5 u w' → Below g5 W4 w')) := Lib.hid fun u hu w' hw => hu.trans hw
            have HZx : Hid (zonAt t.zones k = ⟨zonS k, ratesTo x.rates (min 3 x.rates.length), (r : Int), (s : Int)⟩) := Lib.hid (by rw [zonAt_yes hx, hr, hs])
            have HRx := Lib.hid (And.intro hok.rates (And.intro (HH.out.2 k x hx) hbw4))
            have HG := Lib.hid (And.intro hg5l (And.intro hgl hw5l))
            have HLx := Lib.hid hok.rates.row.len
            clear hx hA hgl hok b0 b1 b2 b3' hr hs r1 s1 hbw4 hg5l hw5l x3
            go_upto_region 7 with (fail)
            go_cut [] (fun wx => Hid (ZD wr wx g5 ⟨zonS k, [], (r : Int), (s : Int)⟩ ⟨⟨none, 0, 0⟩⟩ ∧ Below g5 W4 wx))
            case first =>
              refine wp_region_held_drew (S := fun u => Below g5 W4 u) (by kernel_rfl) ((Below.refl _ _).drew) (fun hS0 => ?_)
              refine pkT 0 35 hS0 ?_
              try simp only [Act.put, pkA, pkB, pkC]
              refine pkT 1 36 hS0 ?_
              try simp only [Act.put, pkA, pkB, pkC]
              refine pkT 2 37 hS0 ?_
              try simp only [Act.put, pkA, pkB, pkC]
              refine pkT 3 38 hS0 ?_
              try simp only [Act.put, pkA, pkB, pkC]
              refine pkT 4 39 hS0 ?_
              try simp only [Act.put, pkA, pkB, pkC]
              refine pkT 5 40 hS0 ?_
              try simp only [Act.put, pkA, pkB, pkC]
              refine pkT 7 42 hS0 ?_
              try simp only [Act.put, pkA, pkB, pkC]
              refine pkT 8 43 hS0 ?_
              try simp only [Act.put, pkA, pkB, pkC]
              refine pkT 9 44 hS0 ?_
              try simp only [Act.put, pkA, pkB, pkC]
              refine pkT 10 45 hS0 ?_
              try simp only [Act.put, pkA, pkB, pkC]
              refine pkT 11 46 hS0 ?_
              try simp only [Act.put, pkA, pkB, pkC]
              refine pkT 12 47 hS0 ?_
              try simp only [Act.put, pkA, pkB, pkC]
              refine wpAnyH_ready (rs := [6]) (by kernel_rfl) (by simp) ?_
              refine AllReadyH.cons (o := ⟨some 41, _, _, _, _, _⟩) rfl (fun K hK => ?_) AllReadyH.nil
              go_simp
              refine (HMa.out _).mono ?_
              rintro e wb ⟨rfl, rfl⟩
              go_wp2_with fail
              refine hK.out _ _ (hS0) (fun hS1 => ?_)
              clear hK K
              try simp only [Act.put, pkA, pkB, pkC]
              refine pkT 14 49 hS1 ?_
              try simp only [Act.put, pkA, pkB, pkC]
              refine wpAnyH_ready (rs := [13]) (by kernel_rfl) (by simp) ?_
              refine AllReadyH.cons (o := ⟨some 48, _, _, _, _, _⟩) rfl (fun K hK => ?_) AllReadyH.nil
              go_simp
              refine (HMb.out _).mono ?_
              rintro e wc ⟨rfl, rfl⟩
              go_wp2_with fail
              refine hK.out _ _ (hS1) (fun hS2 => ?_)
              clear hK K
              try simp only [Act.put, pkA, pkB, pkC]
              refine wpAnyH_ready (rs := [15]) (by kernel_rfl) (by simp) ?_
              refine AllReadyH.cons (o := ⟨none, _, _, _, _, _⟩) rfl (fun K hK => ?_) AllReadyH.nil
              go_simp
              refine hK.out _ _ ((Kd.below_set (Nat.le_refl _) hS2)) (fun hS3 => ?_)
              clear hK K
              try simp only [Act.put, pkA, pkB, pkC]
              refine pkT 16 50 hS3 ?_
              try simp only [Act.put, pkA, pkB, pkC]
              refine wpAnyH_ready (rs := [17]) (by kernel_rfl) (by simp) ?_
              refine AllReadyH.cons (o := ⟨none, _, _, _, _, _⟩) rfl (fun K hK => ?_) AllReadyH.nil
              go_simp
              refine hK.out _ _ ((Kd.below_set (Nat.le_refl _) hS3)) (fun hS4 => ?_)
              clear hK K
              try simp only [Act.put, pkA, pkB, pkC]
              refine wpAnyH_done (by kernel_rfl) ?_ _
              go_wp2_with fail
              go_meet
              exact Lib.hid ⟨HX.out, hS4⟩
            case rest =>
              have HX9 := Lib.hid hcut.out.2
              have hX1 := hcut.out.1
              have HX1 := Lib.hid hX1
              obtain ⟨wo, hwo⟩ : ∃ wo : World, wo = wr := ⟨_, rfl⟩
              subst hwo
              clear hX1 hcut HX z0 z1 z2 z3 zf HMa HMb
              have d3 : ∀ u, Below g5 wc u → u.cell? ⟨w.heap.size, 3, none⟩ = some (.slice (some ⟨g, o, none⟩) n c) := fun u hu => c3 u (HX9.out.trans hu)
              have d1 : ∀ u, Below g5 wc u → u.cell? ⟨g, o + k * 4 + 1, none⟩ = some (.slice lx.rates.A lx.rates.n lx.rates.c) := fun u hu => a1 u (HX9.out.trans hu)
              have HRw : Hid (∀ u, Below g5 wc u → Below g5 W4 u) := Lib.hid fun u hu => HX9.out.trans hu
              clear c3 a1 a2 a3
              go_wp2
              go_loopw [6] (fun s6 wr => ∃ j : Nat, s6 = .int .i64 j ∧ j ≤ 3 ∧ j ≤ lx.rates.n ∧ Hid (Below g5 wc wr ∧ ∃ lz : Zon.Lay, lz.rates.n = j ∧ ZD wo wr g5 ⟨zonS k, ratesTo x.rates j, (r : Int), (s : Int)⟩ lz)) (fun s6 _ => 3 - (intOf s6).toNat)
              case atStart => exact ⟨0, rfl, by omega, by omega, Lib.hid ⟨Below.refl _ _, _, rfl, by rw [ratesTo_zero]; exact HX1.out⟩⟩
              case round =>
                clear HX1
                obtain ⟨j, rfl, hj3, hjl, hZ⟩ := hrel
                obtain ⟨hwi, ⟨⟨A3, n3, c3⟩⟩, hj, hZ⟩ := hZ.out
                obtain rfl : j = n3 := hj.symm
                have HZ := Lib.hid hZ
                have HWi := Lib.hid hwi
                have j0 : (0 : Int) ≤ (j : Int) := by omega
                have f3 := d3 wr hwi
                have f1 := d1 wr hwi
                clear hZ hwi hj
                by_cases h3 : j < 3
                · have j1 : (j : Int) < 3 := by omega
                  by_cases hl : j < lx.rates.n
                  · have j2 : (j : Int) < (lx.rates.n : Int) := by omega
                    obtain ⟨y, hy⟩ := HRx.out.1.row.get hl
                    obtain ⟨g2, o2, hA2, _, hg2, hoy, y0, y1⟩ := row_CtR HRx.out.1.row hy
                    have hgy : g2 < g5 := Nat.lt_of_lt_of_le hg2 (Nat.le_trans HT.out.below.size HZ0.out.hg)
                    have e3 : ∀ u, Below g5 wr u → u.cell? ⟨w.heap.size, 3, none⟩ = some (.slice (some ⟨g, o, none⟩) n c) := fun u hu => d3 u (HWi.out.trans hu)
                    have e1 : ∀ u, Below g5 wr u → u.cell? ⟨g, o + k * 4 + 1, none⟩ = some (.slice (some ⟨g2, o2, none⟩) lx.rates.n lx.rates.c) := fun u hu => by rw [← hA2]; exact d1 u (HWi.out.trans hu)
                    have e2 : ∀ u, Below g5 wr u → u.cell? ⟨g2, o2 + j * 2 + 1, none⟩ = some (.int .i64 y.rate) := fun u hu => (((HRw.out u (HWi.out.trans hu)).cell (p := ⟨g2, _, none⟩) hgy).trans (HRx.out.2.2.cell (p := ⟨g2, _, none⟩) hg2)).trans y1
                    have p1 : wr.cell? ⟨g5, 1, none⟩ = some (.slice A3 j c3) := HZ.out.box.cell 1
                    have pf := HZ.out.box.frozen
                    have bz : ∀ u : World, u = u := fun _ => rfl
                    obtain ⟨q, hq⟩ : ∃ q : Nat, modN y.rate 3000 = q := ⟨_, rfl⟩
                    have q9 := modN_lt y.rate 3000 (by omega)
                    rw [hq] at q9
                    have HMr := Lib.hid (fun W => mod64_any y.rate 3000 W (by omega) (by omega))
                    simp only [hq] at HMr
                    have HC := Lib.hid (fun W => category_any (j : Int) W)
                    have hcj : modN (j : Int) 3 = j := modN_num j 3 h3 (by omega)
                    simp only [hcj] at HC
                    have HNx : Hid (ratesTo x.rates (j + 1) = ratesTo x.rates j ++ [⟨catS j, (q : Int)⟩]) := Lib.hid (by rw [ratesTo_next hy, hq])
                    have hrep : Hid (∀ W, kCtR.rep W (fun _ => False) ⟨catS j, (q : Int)⟩ [.string (catS j), .int .i64 (q : Int)]) := Lib.hid fun W => Ap.CtR_rep.2 ⟨rfl, catS_size j, by show -9223372036854775808 ≤ (q : Int); omega, by show (q : Int) ≤ 9223372036854775807; omega⟩
                    have HJ : Hid (j < 3) := Lib.hid h3
                    have HJl : Hid (j < lx.rates.n) := Lib.hid hl
                    clear hy hA2 hg2 hoy y0 y1 hgy hq q9 hcj d3 d1 bz
                    go_upto_block 3 with (fail)
                    clear f3 f1
                    go_cut [6] (fun s6 wy => s6 = .int .i64 (j : Int) ∧ Hid (Below g5 wc wy ∧ ∃ lz : Zon.Lay, lz.rates.n = j + 1 ∧ ZD wo wy g5 ⟨zonS k, ratesTo x.rates (j + 1), (r : Int), (s : Int)⟩ lz))
                    case first =>
                      go_wp2_with fail
                      refine wp_region_held_drew (S := fun u => Below g5 wr u) (by kernel_rfl) ((Below.refl _ _).drew) (fun hS0 => ?_)
                      refine pkT 0 66 hS0 ?_
                      try simp only [Act.put, pkA, pkB, pkC]
                      refine pkT 2 68 hS0 ?_
                      try simp only [Act.put, pkA, pkB, pkC]
                      refine pkT 4 70 hS0 ?_
                      try simp only [Act.put, pkA, pkB, pkC]
                      refine pkT 5 71 hS0 ?_
                      try simp only [Act.put, pkA, pkB, pkC]
                      refine pkT 6 72 hS0 ?_
                      try simp only [Act.put, pkA, pkB, pkC]
                      refine pkT 7 73 hS0 ?_
                      try simp only [Act.put, pkA, pkB, pkC]
                      refine pkT 8 74 hS0 ?_
                      try simp only [Act.put, pkA, pkB, pkC]
                      refine pkT 9 75 hS0 ?_
                      try simp only [Act.put, pkA, pkB, pkC]
                      refine pkT 10 76 hS0 ?_
                      try simp only [Act.put, pkA, pkB, pkC]
                      refine pkT 11 77 hS0 ?_
                      try simp only [Act.put, pkA, pkB, pkC]
                      refine pkT 12 78 hS0 ?_
                      try simp only [Act.put, pkA, pkB, pkC]
                      refine pkT 13 79 hS0 ?_
                      try simp only [Act.put, pkA, pkB, pkC]
                      refine wpAnyH_ready (rs := [1, 3]) (by kernel_rfl) (by simp) ?_
                      refine AllReadyH.cons (o := ⟨some 67, _, _, _, _, _⟩) rfl (fun K hK => ?_) ?_
                      ·
                        go_simp
                        refine hK.out _ _ (hS0) (fun hS1 => ?_)
                        clear hK K
                        try simp only [Act.put, pkA, pkB, pkC]
                        refine wpAnyH_ready (rs := [3]) (by kernel_rfl) (by simp) ?_
                        refine AllReadyH.cons (o := ⟨some 69, _, _, _, _, _⟩) rfl (fun K hK => ?_) AllReadyH.nil
                        go_simp
                        refine (HC.out _).mono ?_
                        rintro e wz ⟨rfl, hbz⟩
                        have HZz : Hid (ZD wo wz g5 ⟨zonS k, ratesTo x.rates j, (r : Int), (s : Int)⟩ ⟨⟨A3, j, c3⟩⟩) := Lib.hid ((HZ.out.later (Below.refl _ _).drew).later hbz)
                        have hyz : Below g5 wr wz := Below.trans hS1 (hbz.mono (Nat.le_trans (Nat.le_of_lt HZ.out.box.lt) (Below.size hS1)))
                        have hyy := Lib.hid hyz
                        have q1 : wz.cell? ⟨g5, 1, none⟩ = some (.slice A3 j c3) := HZz.out.box.cell 1
                        have q1a : ∀ o : Obj, (wz.alloc o).cell? ⟨g5, 1, none⟩ = some (.slice A3 j c3) := fun o => (HZz.out.box.alloc o).cell 1
                        clear hbz
                        go_wp2_with fail
                        refine hK.out _ _ (hyz) (fun hS2 => ?_)
                        clear hK K
                        try simp only [Act.put, pkA, pkB, pkC]
                        refine wpAnyH_ready (rs := [14]) (by kernel_rfl) (by simp) ?_
                        refine AllReadyH.cons (o := ⟨some 80, _, _, _, _, _⟩) rfl (fun K hK => ?_) AllReadyH.nil
                        go_simp
                        refine (HMr.out _).mono ?_
                        rintro e wb ⟨rfl, rfl⟩
                        go_wp2_with fail
                        refine hK.out _ _ (hS2) (fun hS3 => ?_)
                        clear hK K
                        try simp only [Act.put, pkA, pkB, pkC]
                        refine pkT 15 81 hS3 ?_
                        try simp only [Act.put, pkA, pkB, pkC]
                        refine wpAnyH_ready (rs := [16]) (by kernel_rfl) (by simp) ?_
                        refine AllReadyH.cons (o := ⟨some 82, _, _, _, _, _⟩) rfl (fun K hK => ?_) AllReadyH.nil
                        go_simp
                        refine hK.out _ _ ((Below.alloc hS3 (Nat.le_of_lt HZz.out.box.lt) _)) (fun hS4 => ?_)
                        clear hK K
                        try simp only [Act.put, pkA, pkB, pkC]
                        refine wpAnyH_ready (rs := [17]) (by kernel_rfl) (by simp) ?_
                        refine AllReadyH.cons (o := ⟨some 83, _, _, _, _, _⟩) rfl (fun K hK => ?_) AllReadyH.nil
                        refine Kd.step_push (o := ⟨some 83, _, _, _, _, _⟩) (W := wb) (F := fun _ => False) (B := g5 + 1) (n := j) (v := .slice A3 j c3) (xs := ratesTo x.rates j) (y := ⟨catS j, (q : Int)⟩) (cs := [.string (catS j), .int .i64 (q : Int)]) Ap.CtR.row_t rfl (.tmp 67) (.tmp 82) rfl rfl rfl rfl HZz.out.own (hrep.out _) (by have := HJ.out; omega) (by have := HJ.out; omega) HZz.out.box.lt (fun _ h => h.elim) ?_
                        intro g1 cap w9 hown hgrow hfr
                        have HB9 := Lib.hid (ZD.push HZz.out rfl hown hgrow hfr)
                        obtain ⟨hm9, ⟨c9, q9⟩, f9⟩ := ZD.same9 HZz.out hyy.out hgrow
                        refine hK.out _ _ (hm9) (fun hS5 => ?_)
                        clear hK K
                        try simp only [Act.put, pkA, pkB, pkC]
                        refine pkT 18 84 hS5 ?_
                        try simp only [Act.put, pkA, pkB, pkC]
                        refine wpAnyH_ready (rs := [19]) (by kernel_rfl) (by simp) ?_
                        refine AllReadyH.cons (o := ⟨none, _, _, _, _, _⟩) rfl (fun K hK => ?_) AllReadyH.nil
                        go_simp
                        refine hK.out _ _ ((Kd.below_set (Nat.le_refl _) hS5)) (fun hS6 => ?_)
                        clear hK K
                        try simp only [Act.put, pkA, pkB, pkC]
                        refine wpAnyH_done (by kernel_rfl) ?_ _
                        go_wp2_with fail
                        go_meet
                        exact ⟨rfl, Lib.hid ⟨HWi.out.trans hS6, _, rfl, by rw [HNx.out]; exact HB9.out⟩⟩
                      refine AllReadyH.cons (o := ⟨some 69, _, _, _, _, _⟩) rfl (fun K hK => ?_) AllReadyH.nil
                      go_simp
                      refine (HC.out _).mono ?_
                      rintro e wz ⟨rfl, hbz⟩
                      have HZz : Hid (ZD wo wz g5 ⟨zonS k, ratesTo x.rates j, (r : Int), (s : Int)⟩ ⟨⟨A3, j, c3⟩⟩) := Lib.hid ((HZ.out.later (Below.refl _ _).drew).later hbz)
                      have hyz : Below g5 wr wz := Below.trans hS0 (hbz.mono (Nat.le_trans (Nat.le_of_lt HZ.out.box.lt) (Below.size hS0)))
                      have hyy := Lib.hid hyz
                      have q1 : wz.cell? ⟨g5, 1, none⟩ = some (.slice A3 j c3) := HZz.out.box.cell 1
                      have q1a : ∀ o : Obj, (wz.alloc o).cell? ⟨g5, 1, none⟩ = some (.slice A3 j c3) := fun o => (HZz.out.box.alloc o).cell 1
                      clear hbz
                      go_wp2_with fail
                      refine hK.out _ _ (hyz) (fun hS1 => ?_)
                      clear hK K
                      try simp only [Act.put, pkA, pkB, pkC]
                      refine wpAnyH_ready (rs := [1, 14]) (by kernel_rfl) (by simp) ?_
                      refine AllReadyH.cons (o := ⟨some 67, _, _, _, _, _⟩) rfl (fun K hK => ?_) ?_
                      ·
                        go_simp
                        refine hK.out _ _ (hS1) (fun hS2 => ?_)
                        clear hK K
                        try simp only [Act.put, pkA, pkB, pkC]
                        refine wpAnyH_ready (rs := [14]) (by kernel_rfl) (by simp) ?_
                        refine AllReadyH.cons (o := ⟨some 80, _, _, _, _, _⟩) rfl (fun K hK => ?_) AllReadyH.nil
                        go_simp
                        refine (HMr.out _).mono ?_
                        rintro e wb ⟨rfl, rfl⟩
                        go_wp2_with fail
                        refine hK.out _ _ (hS2) (fun hS3 => ?_)
                        clear hK K
                        try simp only [Act.put, pkA, pkB, pkC]
                        refine pkT 15 81 hS3 ?_
                        try simp only [Act.put, pkA, pkB, pkC]
                        refine wpAnyH_ready (rs := [16]) (by kernel_rfl) (by simp) ?_
                        refine AllReadyH.cons (o := ⟨some 82, _, _, _, _, _⟩) rfl (fun K hK => ?_) AllReadyH.nil
                        go_simp
                        refine hK.out _ _ ((Below.alloc hS3 (Nat.le_of_lt HZz.out.box.lt) _)) (fun hS4 => ?_)
                        clear hK K
                        try simp only [Act.put, pkA, pkB, pkC]
                        refine wpAnyH_ready (rs := [17]) (by kernel_rfl) (by simp) ?_
                        refine AllReadyH.cons (o := ⟨some 83, _, _, _, _, _⟩) rfl (fun K hK => ?_) AllReadyH.nil
                        refine Kd.step_push (o := ⟨some 83, _, _, _, _, _⟩) (W := wb) (F := fun _ => False) (B := g5 + 1) (n := j) (v := .slice A3 j c3) (xs := ratesTo x.rates j) (y := ⟨catS j, (q : Int)⟩) (cs := [.string (catS j), .int .i64 (q : Int)]) Ap.CtR.row_t rfl (.tmp 67) (.tmp 82) rfl rfl rfl rfl HZz.out.own (hrep.out _) (by have := HJ.out; omega) (by have := HJ.out; omega) HZz.out.box.lt (fun _ h => h.elim) ?_
                        intro g1 cap w9 hown hgrow hfr
                        have HB9 := Lib.hid (ZD.push HZz.out rfl hown hgrow hfr)
                        obtain ⟨hm9, ⟨c9, q9⟩, f9⟩ := ZD.same9 HZz.out hyy.out hgrow
                        refine hK.out _ _ (hm9) (fun hS5 => ?_)
                        clear hK K
                        try simp only [Act.put, pkA, pkB, pkC]
                        refine pkT 18 84 hS5 ?_
                        try simp only [Act.put, pkA, pkB, pkC]
                        refine wpAnyH_ready (rs := [19]) (by kernel_rfl) (by simp) ?_
                        refine AllReadyH.cons (o := ⟨none, _, _, _, _, _⟩) rfl (fun K hK => ?_) AllReadyH.nil
                        go_simp
                        refine hK.out _ _ ((Kd.below_set (Nat.le_refl _) hS5)) (fun hS6 => ?_)
                        clear hK K
                        try simp only [Act.put, pkA, pkB, pkC]
                        refine wpAnyH_done (by kernel_rfl) ?_ _
                        go_wp2_with fail
                        go_meet
                        exact ⟨rfl, Lib.hid ⟨HWi.out.trans hS6, _, rfl, by rw [HNx.out]; exact HB9.out⟩⟩
                      refine AllReadyH.cons (o := ⟨some 80, _, _, _, _, _⟩) rfl (fun K hK => ?_) AllReadyH.nil
                      go_simp
                      refine (HMr.out _).mono ?_
                      rintro e wb ⟨rfl, rfl⟩
                      go_wp2_with fail
                      refine hK.out _ _ (hS1) (fun hS2 => ?_)
                      clear hK K
                      try simp only [Act.put, pkA, pkB, pkC]
                      refine pkT 15 81 hS2 ?_
                      try simp only [Act.put, pkA, pkB, pkC]
                      refine wpAnyH_ready (rs := [1, 16]) (by kernel_rfl) (by simp) ?_
                      refine AllReadyH.cons (o := ⟨some 67, _, _, _, _, _⟩) rfl (fun K hK => ?_) ?_
                      ·
                        go_simp
                        refine hK.out _ _ (hS2) (fun hS3 => ?_)
                        clear hK K
                        try simp only [Act.put, pkA, pkB, pkC]
                        refine wpAnyH_ready (rs := [16]) (by kernel_rfl) (by simp) ?_
                        refine AllReadyH.cons (o := ⟨some 82, _, _, _, _, _⟩) rfl (fun K hK => ?_) AllReadyH.nil
                        go_simp
                        refine hK.out _ _ ((Below.alloc hS3 (Nat.le_of_lt HZz.out.box.lt) _)) (fun hS4 => ?_)
                        clear hK K
                        try simp only [Act.put, pkA, pkB, pkC]
                        refine wpAnyH_ready (rs := [17]) (by kernel_rfl) (by simp) ?_
                        refine AllReadyH.cons (o := ⟨some 83, _, _, _, _, _⟩) rfl (fun K hK => ?_) AllReadyH.nil
                        refine Kd.step_push (o := ⟨some 83, _, _, _, _, _⟩) (W := wb) (F := fun _ => False) (B := g5 + 1) (n := j) (v := .slice A3 j c3) (xs := ratesTo x.rates j) (y := ⟨catS j, (q : Int)⟩) (cs := [.string (catS j), .int .i64 (q : Int)]) Ap.CtR.row_t rfl (.tmp 67) (.tmp 82) rfl rfl rfl rfl HZz.out.own (hrep.out _) (by have := HJ.out; omega) (by have := HJ.out; omega) HZz.out.box.lt (fun _ h => h.elim) ?_
                        intro g1 cap w9 hown hgrow hfr
                        have HB9 := Lib.hid (ZD.push HZz.out rfl hown hgrow hfr)
                        obtain ⟨hm9, ⟨c9, q9⟩, f9⟩ := ZD.same9 HZz.out hyy.out hgrow
                        refine hK.out _ _ (hm9) (fun hS5 => ?_)
                        clear hK K
                        try simp only [Act.put, pkA, pkB, pkC]
                        refine pkT 18 84 hS5 ?_
                        try simp only [Act.put, pkA, pkB, pkC]
                        refine wpAnyH_ready (rs := [19]) (by kernel_rfl) (by simp) ?_
                        refine AllReadyH.cons (o := ⟨none, _, _, _, _, _⟩) rfl (fun K hK => ?_) AllReadyH.nil
                        go_simp
                        refine hK.out _ _ ((Kd.below_set (Nat.le_refl _) hS5)) (fun hS6 => ?_)
                        clear hK K
                        try simp only [Act.put, pkA, pkB, pkC]
                        refine wpAnyH_done (by kernel_rfl) ?_ _
                        go_wp2_with fail
                        go_meet
                        exact ⟨rfl, Lib.hid ⟨HWi.out.trans hS6, _, rfl, by rw [HNx.out]; exact HB9.out⟩⟩
                      refine AllReadyH.cons (o := ⟨some 82, _, _, _, _, _⟩) rfl (fun K hK => ?_) AllReadyH.nil
                      go_simp
                      refine hK.out _ _ ((Below.alloc hS2 (Nat.le_of_lt HZz.out.box.lt) _)) (fun hS3 => ?_)
                      clear hK K
                      try simp only [Act.put, pkA, pkB, pkC]
                      refine wpAnyH_ready (rs := [1]) (by kernel_rfl) (by simp) ?_
                      refine AllReadyH.cons (o := ⟨some 67, _, _, _, _, _⟩) rfl (fun K hK => ?_) AllReadyH.nil
                      go_simp
                      refine hK.out _ _ (hS3) (fun hS4 => ?_)
                      clear hK K
                      try simp only [Act.put, pkA, pkB, pkC]
                      refine wpAnyH_ready (rs := [17]) (by kernel_rfl) (by simp) ?_
                      refine AllReadyH.cons (o := ⟨some 83, _, _, _, _, _⟩) rfl (fun K hK => ?_) AllReadyH.nil
                      refine Kd.step_push (o := ⟨some 83, _, _, _, _, _⟩) (W := wb) (F := fun _ => False) (B := g5 + 1) (n := j) (v := .slice A3 j c3) (xs := ratesTo x.rates j) (y := ⟨catS j, (q : Int)⟩) (cs := [.string (catS j), .int .i64 (q : Int)]) Ap.CtR.row_t rfl (.tmp 67) (.tmp 82) rfl rfl rfl rfl HZz.out.own (hrep.out _) (by have := HJ.out; omega) (by have := HJ.out; omega) HZz.out.box.lt (fun _ h => h.elim) ?_
                      intro g1 cap w9 hown hgrow hfr
                      have HB9 := Lib.hid (ZD.push HZz.out rfl hown hgrow hfr)
                      obtain ⟨hm9, ⟨c9, q9⟩, f9⟩ := ZD.same9 HZz.out hyy.out hgrow
                      refine hK.out _ _ (hm9) (fun hS5 => ?_)
                      clear hK K
                      try simp only [Act.put, pkA, pkB, pkC]
                      refine pkT 18 84 hS5 ?_
                      try simp only [Act.put, pkA, pkB, pkC]
                      refine wpAnyH_ready (rs := [19]) (by kernel_rfl) (by simp) ?_
                      refine AllReadyH.cons (o := ⟨none, _, _, _, _, _⟩) rfl (fun K hK => ?_) AllReadyH.nil
                      go_simp
                      refine hK.out _ _ ((Kd.below_set (Nat.le_refl _) hS5)) (fun hS6 => ?_)
                      clear hK K
                      try simp only [Act.put, pkA, pkB, pkC]
                      refine wpAnyH_done (by kernel_rfl) ?_ _
                      go_wp2_with fail
                      go_meet
                      exact ⟨rfl, Lib.hid ⟨HWi.out.trans hS6, _, rfl, by rw [HNx.out]; exact HB9.out⟩⟩
                    case rest =>
                      obtain ⟨rfl, hcz⟩ := hcut
                      clear e1 e2 e3 p1 pf HMr HC hrep
                      go_wp2
                      go_roundw
                      case rel => exact ⟨j + 1, by go_num, by have := HJ.out; omega, by have := HJl.out; omega, hcz⟩
                      case measure => have := HJ.out; simp [intOf]; omega
                  · have j2 : ¬ (j : Int) < (lx.rates.n : Int) := by omega
                    have HE : Hid (∃ lz, ZD wo wr g5 (zonAt t.zones k) lz) := Lib.hid ⟨_, by rw [HZx.out, show min 3 x.rates.length = j by have := HLx.out; omega]; exact HZ.out⟩
                    clear d3 d1
                    go_wp2
                    go_meet
                    exact HE
                · have j1 : ¬ (j : Int) < 3 := by omega
                  have HE : Hid (∃ lz, ZD wo wr g5 (zonAt t.zones k) lz) := Lib.hid ⟨_, by rw [HZx.out, show min 3 x.rates.length = j by have := HLx.out; omega]; exact HZ.out⟩
                  clear d3 d1
                  go_wp2
                  go_meet
                  exact HE
          · have n1 : ¬ (k : Int) < (n : Int) := by omega
            have n2 : decide (k < n) = false := decide_eq_false hkn
            have HE : Hid (∃ lz, ZD wr W4 g5 (zonAt t.zones k) lz) := Lib.hid ⟨_, by rw [zonAt_no (List.getElem?_eq_none (by have := HLn.out; omega))]; exact HZ0.out⟩
            go_wp2
            go_meet
            exact HE
        case rest =>
          obtain ⟨⟨⟨A3, n3, c3⟩⟩, hZ⟩ := hcut.out
          have hu := HT.out.later hZ.below
          have HZd := Lib.hid hZ
          have HU := Lib.hid hu
          obtain ⟨A5, c5, rfl⟩ := hu.own.value
          obtain ⟨z, hz⟩ : ∃ z, zonAt t.zones k = z := ⟨_, rfl⟩
          have HZz := Lib.hid hz
          have hrp := HT.out.rep hZ
          have hbz := hZ.box
          rw [hz] at hrp hbz
          have HRp := Lib.hid hrp
          have z0 : wc.cell? ⟨g5, 0, none⟩ = some (.string z.name) := hbz.cell 0
          have z1 : wc.cell? ⟨g5, 1, none⟩ = some (.slice A3 n3 c3) := hbz.cell 1
          have z2 : wc.cell? ⟨g5, 2, none⟩ = some (.int .i64 z.rest) := hbz.cell 2
          have z3 : wc.cell? ⟨g5, 3, none⟩ = some (.int .i64 z.ship) := hbz.cell 3
          have t3 := hu.out.cell 3
          have tf := hu.out.frozen
          have hb3 : b3 + 1 ≤ wc.heap.size := hu.out.lt
          clear hcut hZ hu hz hrp hbz
          go_wp2_with ((at_builtin; refine Kd.wpList_high (W := wc) (B := b3 + 1) (n := k) (v := .slice A5 k c5) (xs := zonesTo t.zones k) (x := z) (cs := [.string z.name, .slice A3 n3 c3, .int .i64 z.rest, .int .i64 z.ship]) zon_t rfl _ _ rfl rfl rfl rfl HU.out.own HRp.out (by omega) (by omega) hb3 ?_; intro g1 cap w9 hown hgrow hfr; have HT9 := Lib.hid (HT.out.zone HZd.out (HZz.out ▸ hown) hgrow); have t39 := (HU.out.out.grown hgrow (fun e => by have := (HU.out.own.low _ e.symm).1; omega)).cell 3; have t3f := (HU.out.out.grown hgrow (fun e => by have := (HU.out.own.low _ e.symm).1; omega)).frozen; clear hown hgrow hfr))
          go_roundw
          case rel => exact ⟨k + 1, by go_num, by omega, Lib.hid ⟨_, HT9.out⟩⟩
          case measure => simp [intOf]; omega
      · have k1 : ¬ (k : Int) < 3 := by omega
        obtain rfl : k = 3 := by omega
        obtain ⟨A5, c5, rfl⟩ := hT.own.value
        have o0 := hT.out.cell 0
        have o1 := hT.out.cell 1
        have o2 := hT.out.cell 2
        have o3 := hT.out.cell 3
        have r0 := hT.res.cell 0
        have r1 := hT.res.cell 1
        have r2 := hT.res.cell 2
        have r3 := hT.res.cell 3
        have rf := hT.res.frozen
        obtain ⟨W9, hW9⟩ : ∃ W9, ((((wr.setCell ⟨w.heap.size + 1, 0, none⟩ (.bool t.incl)).setCell ⟨w.heap.size + 1, 1, none⟩ (.bool t.byOrder)).setCell ⟨w.heap.size + 1, 2, none⟩ (.int .i64 (modN t.round 3 : Int))).setCell ⟨w.heap.size + 1, 3, none⟩ (.slice A5 3 c5)) = W9 := ⟨_, rfl⟩
        have HE := Lib.hid (hT.ends W9 hW9)
        have HW9 := Lib.hid hW9
        clear hT hW9
        go_wp2
        all_goals
          try rw [HW9.out]
          refine bodyPost_ret (results_tax rfl _ _ (w.heap.size + 1) #[.bool t.incl, .bool t.byOrder, .int .i64 (modN t.round 3 : Int), .slice A5 3 c5] rfl HE.out.1 rfl rfl) rfl HE.out.2
end Go.Proofs.YtfcmhgneijipgaaGreat.Py
