/- P9.3: wherever power goes during up to twenty-five Adds and Compacts of any bytes, whatever stays of what was not sure: opened, the vault tells the base and the records that there were, or with the one that was under way, or the new base alone; opened again the same; for every script. No conditions. -/
import Derived.Test.YtedgookkogpfbaaVlG
import Derived.Test.YtedgookkogpfbaaVqA
import Derived.Test.YtedgookkogpfbaaBa
set_option maxRecDepth 100000
namespace Go.Proofs.Ytedgookkogpfbaa.vaultKeeps
open Go.ChangeShapes Go.WideShapes Go.ChangeAt Go.RowKit
set_option linter.unusedVariables false

theorem own : ownKnob Try.prog.godebug = none := by kernel_rfl

open Qu (Blk)
open Mv (Only Fresh)
open By (Own8 Bys cellsB cellsB_length)
open Dk (DS dsNew crashD startD armD)
open Dd (Lay At Pl)
open Jr (Recd ownBlock_any info_bytes)
open Jl (modN modN_lt mod_any step_append_own own_far_disk)
open Vt Vl
open Vq (Opr Oprs OprOk)

/-- The data of the script: base, records, and what comes next. -/
structure D4 (w wr : World) (G : Nat → Prop) (s13 s14 s15 s16 : Value) (base : List UInt8) (all : List (List UInt8)) (nb : List UInt8) (nx : List (List UInt8)) : Prop where
  b1 : OB w wr G s13 base
  r1 : OR w wr G s14 all
  b2 : OB w wr G s15 nb
  r2 : OR w wr G s16 nx

section
variable {w wr w1 : World} {G G' : Nat → Prop} {s13 s14 s15 s16 : Value} {base nb : List UInt8} {all nx : List (List UInt8)} {x : Nat} {q : Pl} {v : VS} {d : DS}
theorem D4.only (h : D4 w wr G s13 s14 s15 s16 base all nb nx) (k : Only wr w1 (fun k => ¬ G k)) : D4 w w1 G s13 s14 s15 s16 base all nb nx := ⟨h.b1.only k, h.r1.only k, h.b2.only k, h.r2.only k⟩
theorem D4.later (h : D4 w wr G s13 s14 s15 s16 base all nb nx) (k : Below wr.heap.size wr w1) : D4 w w1 G s13 s14 s15 s16 base all nb nx := h.only (Mv.Only.ofBelow k _)

theorem vg_arm (h : VG w wr x q v d G) (m : Int) (hm : m ≤ 9223372036854775807) : Calls Try.prog 16 #[.pointer (some ⟨q.x, 0, none⟩), .int .i64 m] wr fun e w' => e = .returned (.tuple #[]) ∧ VG w w' x q v (armD d m) G ∧ Only wr w' (fun k => ¬ G k) := by
  obtain ⟨Bd, y, A, c, vs, h1, h2, h3⟩ := h.some
  have hd := h.dg
  refine (Jl.arm_at wr _ q d m h1 hd.n0 hm).mono ?_
  rintro e w' ⟨rfl, hD, ho⟩
  obtain ⟨ep, he, hbx⟩ := h2.box
  exact ⟨rfl, ⟨⟨Bd, y, A, c, vs, hD, ⟨h2.base, ⟨ep, he, Mv.blk_only hbx ho (box_far h1 hbx)⟩, h2.jat.disk h1.lay ho⟩, fun k hk => ⟨Nat.lt_of_lt_of_le (h3 k hk).1 ho.size, (h3 k hk).2⟩⟩, h.lo, h.below.trans (ho.toBelow h.below.size fun k hk hs => by have := h.lo k hs; omega), h.fit.disk rfl (by show m.toNat ≤ _; omega)⟩, ho.mono fun k _ hs hk => (h3 k hk).2 (.inl hs)⟩

theorem ob_form (h : OB w wr G s13 base) : ∃ A c, s13 = .slice A base.length c ∧ Bys wr wr.heap.size A base.length base := by
  obtain ⟨A, c, rfl, h2, h3⟩ := h
  exact ⟨A, c, rfl, By.Own8.bys h2⟩

theorem or_form (h : OR w wr G s13 all) : ∃ A c, s13 = .slice A all.length c ∧ Hr.Rws wr wr.heap.size A all.length all := by
  obtain ⟨A, c, us, rfl, h2, h3⟩ := h
  exact ⟨A, c, rfl, Jl.Recd.rws h2⟩

/-- The new bytes are data too. -/
theorem ob_new {v5 : Value} {y : List UInt8} (hB : w.heap.size ≤ wr.heap.size) (h : Own8 w1 wr.heap.size v5 y) : OB w w1 (fun i => G i ∨ (wr.heap.size ≤ i ∧ i < w1.heap.size)) v5 y := by
  obtain ⟨A, c, rfl⟩ := Mv.own_value h
  exact ⟨A, c, rfl, Lf.own_lower h hB, fun g hg => .inr (h.lt g hg)⟩
end

set_option maxRecDepth 100000 in
set_option maxHeartbeats 16000000 in
theorem walk (w : World) (A0 : Option Addr) (n0 c0 : Nat) (o : Nat → Opr) (hI : Oprs w A0 n0 o) (hn0 : n0 ≤ 9223372036854775807) (a1 : Int) (wf1 : (Lit.int .i64 a1).wf = true) (A2 : Option Addr) (n2 c2 : Nat) (f2 : Nat → Int) (hK : Hl.Ints w w.heap.size A2 n2 f2) (hn2 : n2 ≤ 9223372036854775807) (hf2 : ∀ k, k < n2 → -9223372036854775808 ≤ f2 k ∧ f2 k ≤ 9223372036854775807) (a3 : Int) (wf3 : (Lit.int .i64 a3).wf = true) :
    Calls Try.prog 4 #[.slice A0 n0 c0, .int .i64 a1, .slice A2 n2 c2, .int .i64 a3] w fun e w' => e = .returned (.bool true) ∧ Below w.heap.size w w' := by
  by_cases h40 : 40 < n2
  · have i1 : (40 : Int) < (n2 : Int) := by omega
    have i2 : decide (40 < n2) = true := decide_eq_true h40
    have HA := Lib.hid (awake_any w)
    clear hI hK hf2 h40 wf1 wf3
    go_enter Try.func4, Try.ntmps4
    go_wp2_with fail
    refine HA.out.mono ?_
    rintro e w1 ⟨rfl, k1⟩
    have HKK := Lib.hid k1
    clear k1
    go_wp2_with fail
    go_ret
    exact ⟨rfl, HKK.out⟩
  have i1 : ¬ (40 : Int) < (n2 : Int) := by omega
  have i2 : decide (40 < n2) = false := decide_eq_false h40
  have HM1 := Lib.hid (fun u => mod_any a1 50 (by omega) (by omega) u)
  obtain ⟨t1, ht1⟩ : ∃ t, modN a1 50 = t := ⟨_, rfl⟩
  have ht1' : t1 < 50 := by rw [← ht1]; exact modN_lt a1 (by omega)
  rw [ht1] at HM1
  have HM3 := Lib.hid (fun u => mod_any a3 6 (by omega) (by omega) u)
  obtain ⟨t3, ht3⟩ : ∃ t, modN a3 6 = t := ⟨_, rfl⟩
  have ht3' : t3 < 6 := by rw [← ht3]; exact modN_lt a3 (by omega)
  rw [ht3] at HM3
  have t11 : (t1 : Int) < 50 := by omega
  have t31 : (t3 : Int) < 6 := by omega
  have HI := Lib.hid hI
  have HKE := Lib.hid (And.intro hK (And.intro hf2 (show n2 ≤ 40 by omega)))
  obtain ⟨m1, m2⟩ := vk_new (n := 80) (by omega) (by omega)
  have HM := Lib.hid (And.intro m1 m2)
  clear hI hK hf2 h40 wf1 wf3 m1 m2 ht1 ht3 ht1' ht3' i1
  have i1 : ¬ (40 : Int) < (n2 : Int) := by have := HKE.out.2.2; omega
  go_enter Try.func4, Try.ntmps4
  go_wp2_with fail
  refine (Dd.new_ok w 80 (by omega) (by omega)).mono ?_
  rintro e w1 ⟨q, rfl, hq, hlo, hb⟩
  have HP1 := Lib.hid (dp_new hq hlo hb (by omega) (by omega))
  clear hq hlo hb
  go_wp2_with fail
  refine (vp_open HP1.out HM.out.1).mono ?_
  rintro e w2 ⟨x, rfl, hV, _⟩
  have hT0 := HM.out.2
  generalize vopenV (dsNew 80) = v0 at *
  generalize vopenDS (dsNew 80) = d0 at *
  have HV := Lib.hid (And.intro hV hT0)
  clear hV HP1 HM hT0
  go_wp2_with fail
  refine (awake_any w2).mono ?_
  rintro e w3 ⟨rfl, k3⟩
  have HV3 := Lib.hid (And.intro (HV.out.1.later k3).vg HV.out.2)
  clear k3 HV
  go_wp2_with (first | (go_at_call 8; (refine (HM1.out _).mono ?_); rintro r wz ⟨rfl, hw⟩; rw [hw]; clear hw wz))
  refine (vg_arm HV3.out.1 (1 + (t1 : Int)) (by omega)).mono ?_
  rintro e w4 ⟨rfl, hV4, ho4⟩
  have HV4 := Lib.hid (And.intro hV4 (HV3.out.2.arm (1 + (t1 : Int)) (by omega)))
  generalize armD d0 (1 + (t1 : Int)) = d4 at *
  clear hV4 ho4 HV3 HM1
  go_upto_block 0 with fail
  go_cut [13, 14, 15, 16] (fun s13 s14 s15 s16 wx => ∃ (G : Nat → Prop) (d : DS) (base : List UInt8) (all : List (List UInt8)) (nb : List UInt8) (nx : List (List UInt8)), DG w wx q d G ∧ D4 w wx G s13 s14 s15 s16 base all nb nx ∧ all.length ≤ 30 ∧ nx.length ≤ 30 ∧ ∀ kn kf, VB (startD (crashD d kn kf)) base all nb nx)
  case first =>
    go_wp2_with fail
    go_loopw [13, 14, 15, 16, 17] (fun s13 s14 s15 s16 s17 wr => ∃ (i : Nat) (G : Nat → Prop) (v : VS) (d : DS) (base : List UInt8) (all : List (List UInt8)), s17 = .int .i64 (i : Int) ∧ i ≤ n0 ∧ i ≤ 25 ∧ all.length ≤ i ∧ VG w wr x q v d G ∧ D4 w wr G s13 s14 s15 s16 base all base all ∧ VK d v base all (1 + i)) (fun _ _ _ _ s _ => 25 - (intOf s).toNat)
    case atStart => exact ⟨0, _, v0, d4, [], [], rfl, Nat.zero_le _, by omega, Nat.le_refl _, HV4.out.1, ⟨OB.nil, OR.nil, OB.nil, OR.nil⟩, HV4.out.2⟩
    case round =>
      clear HV4
      obtain ⟨i, G, v, d, base, all, rfl, hi, hi25, hal, hV, hD, hVK⟩ := hrel
      have HV := Lib.hid (And.intro hV (And.intro hD hVK))
      have HIN := Lib.hid (And.intro hi (And.intro hi25 hal))
      have al1 : (all.length : Int) ≤ 25 := by omega
      clear hV hD hVK
      have i0 : (0 : Int) ≤ (i : Int) := by omega
      by_cases hlt : i < n0 ∧ i < 25
      case neg =>
        by_cases hin : i < n0
        case' pos =>
          have j1 : (i : Int) < (n0 : Int) := by omega
          have j2 : ¬ (i : Int) < 25 := by omega
          have j3 : decide (i < n0) = true := decide_eq_true hin
          have j4 : decide (i < 25) = false := decide_eq_false (by omega)
        case' neg =>
          have j1 : ¬ (i : Int) < (n0 : Int) := by omega
          have j3 : decide (i < n0) = false := decide_eq_false hin
        all_goals
          clear hlt hin
          have HFI : Hid (∃ (G : Nat → Prop) (d : DS) (base : List UInt8) (all : List (List UInt8)) (nb : List UInt8) (nx : List (List UInt8)), DG w wr q d G ∧ D4 w wr G u13 u14 u15 u16 base all nb nx ∧ all.length ≤ 30 ∧ nx.length ≤ 30 ∧ ∀ kn kf, VB (startD (crashD d kn kf)) base all nb nx) := Lib.hid
            ⟨G, d, base, all, base, all, HV.out.1.dg, HV.out.2.1, by omega, by omega, fun kn kf => HV.out.2.2.still (by omega) kn kf⟩
          go_wp2_with fail
          go_meet
          exact HFI.out
      case pos =>
      have j1 : (i : Int) < (n0 : Int) := by omega
      have j2 : (i : Int) < 25 := by omega
      have j3 : decide (i < n0) = true := decide_eq_true hlt.1
      have j4 : decide (i < 25) = true := decide_eq_true hlt.2
      obtain ⟨b, off, rfl, hbl, hcs, hok⟩ := HI.out i hlt.1
      have e0 := (HV.out.1.below.cell (p := ⟨b, off + i * 4, none⟩) hbl).trans (hcs 0 (by omega))
      have e2 := (HV.out.1.below.cell (p := ⟨b, off + i * 4 + 2, none⟩) hbl).trans (hcs 2 (by omega))
      simp [Opr.cells] at e0 e2
      have HOK := Lib.hid hok
      have hoi := hok
      generalize o i = s at *
      obtain ⟨T, hT⟩ : ∃ T : Nat, min s.b.length 100 = T := ⟨_, rfl⟩
      have hT0 : (0 : Int) ≤ (T : Int) := by omega
      have hT1 : (if (s.b.length : Int) < 100 then (s.b.length : Int) else 100) = (T : Int) := by split <;> omega
      have hT2 : (if 100 < (s.b.length : Int) then 100 else (s.b.length : Int)) = (T : Int) := by split <;> omega
      have hTz : T ≤ s.b.length := by omega
      have hT3 : (T : Int) ≤ (s.cb : Int) := by have := hok.bc; omega
      have hT4 : T ≤ 100 := by omega
      obtain ⟨W1, hW1⟩ : ∃ W1, W1 = (wr.alloc (.cells #[.int .u8 1] 5)).drew := ⟨_, rfl⟩
      have hbw : b < wr.heap.size := by have := HV.out.1.below.size; omega
      have HW1 : Hid (W1.cell? ⟨b, off + i * 4 + 2, none⟩ = some (.slice s.Ab s.b.length s.cb) ∧ Below wr.heap.size wr W1 ∧ Bys W1 W1.heap.size s.Ab T (s.b.take 100) ∧ (s.Ab = none → T = 0 ∧ s.cb = 0) ∧ Own8 W1 wr.heap.size (.slice (some ⟨wr.heap.size, 0, none⟩) 1 1) [1] ∧ wr.heap.size ≤ W1.heap.size) := Lib.hid (by
        have h1 := HV.out.1.below.size
        have hk : Below wr.heap.size wr W1 := by rw [hW1]; exact ((Below.refl _ _).alloc (Nat.le_refl _) _).drew
        refine ⟨(hk.cell (p := ⟨b, off + i * 4 + 2, none⟩) hbw).trans e2, hk, ?_, fun h => by have := hok.none h; omega, ?_, hk.size⟩
        · have h3 := ((hok.bys.take hTz).below (HV.out.1.below) (Nat.le_refl _)).more h1
          have h4 := (h3.below hk (Nat.le_refl _)).more hk.size
          have e : s.b.take T = s.b.take 100 := by
            rcases Nat.le_total s.b.length 100 with h | h
            · exact (List.take_of_length_le (show s.b.length ≤ T by omega)).trans (List.take_of_length_le h).symm
            · rw [show T = 100 by omega]
          rw [e] at h4
          exact h4
        · rw [hW1]
          exact Jl.one_row wr wr.heap.size (Nat.le_refl _) 1)
      have HK5 : Hid (∀ w5, W1.grownBy w5 (some wr.heap.size) → w5.cell? ⟨b, off + i * 4 + 2, none⟩ = some (.slice s.Ab s.b.length s.cb) ∧ Below wr.heap.size wr w5) := Lib.hid (fun w5 hg => by
        have h2 := HW1.out.2.1.size
        have hk := HW1.out.2.1.grown hg h2 (fun g hg => by injection hg with hg; omega)
        exact ⟨(hk.cell (p := ⟨b, off + i * 4 + 2, none⟩) hbw).trans e2, hk⟩)
      have HT2 : Hid ([(1 : UInt8)].length + T ≤ 1000000000000) := Lib.hid (by simp; omega)
      have HE0 : Hid (∀ u, Below wr.heap.size wr u → u.cell? ⟨b, off + i * 4, none⟩ = some (.int .i64 s.kind)) := Lib.hid (fun u hu => (hu.cell (p := ⟨b, off + i * 4, none⟩) hbw).trans e0)
      have HLT := Lib.hid hlt
      have HT4 := Lib.hid (And.intro hT4 (show (s.b.take 100).length = T by rw [List.length_take]; omega))
      have k1 := HOK.out.k1
      have k2 := HOK.out.k2
      clear hcs hok hoi hbl hlt hT hbw e0 hi hi25 hal hT4
      go_upto_region 13 with (fail)
      go_cut [18] (fun v5 wx => Own8 wx wr.heap.size v5 (1 :: s.b.take 100) ∧ Below wr.heap.size wr wx)
      case first =>
        go_region_held3 (fun u => u.cell? ⟨b, off + i * 4 + 2, none⟩ = some (.slice s.Ab s.b.length s.cb) ∧ Below wr.heap.size wr u)
          (first
            | exact ⟨e2, (Below.refl _ _).drew⟩
            | exact hW1 ▸ ⟨HW1.out.1, HW1.out.2.1⟩
            | exact HK5.out _ hgr5)
          (first
            | (rw [← hW1]; (with_reducible refine step_append_own (o := ⟨some 82, _, _, _, _, _⟩) rfl (.tmp 68) (.tmp 81) rfl wr.heap.size (.slice (some ⟨wr.heap.size, 0, none⟩) 1 1) [1] ?_ HW1.out.2.2.2.2.1 W1.heap.size s.Ab T s.cb (s.b.take 100) ?_ HW1.out.2.2.1 HW1.out.2.2.2.1 HT2.out HW1.out.2.2.2.2.2 ?_); (next => rfl); (next => rfl); intro v5 w5 hown5 hgr5 hfr5))
        all_goals
          have HFI := Lib.hid (And.intro (show Own8 w5 wr.heap.size v5 (1 :: s.b.take 100) from hown5) (HK5.out _ hgr5).2)
          clear hown5 hgr5 hfr5
          go_wp2_with fail
          go_meet
          exact HFI.out
      case rest =>
      obtain ⟨hown5, k5⟩ := hcut
      generalize u18 = v5 at *
      generalize wc = w5 at *
      obtain ⟨y, hy⟩ : ∃ y : List UInt8, 1 :: s.b.take 100 = y := ⟨_, rfl⟩
      have hy1 : 1 ≤ y.length := by rw [← hy]; simp
      have hy2 : y.length ≤ 101 := by rw [← hy, List.length_cons, HT4.out.2]; have := HT4.out.1; omega
      have hown : Own8 w5 wr.heap.size v5 y := by rw [← hy]; exact hown5
      have HOB := Lib.hid (ob_new (G := G) HV.out.1.below.size hown)
      have HBX := Lib.hid (hown.lt)
      obtain ⟨A5, c5, rfl⟩ := Mv.own_value hown
      have hcap := Mv.own_cap hown
      have hA5 : A5 = none → y.length = 0 ∧ c5 = 0 := fun h => by
        obtain ⟨g, cap, hv, _⟩ := hown.form (by omega)
        rw [h] at hv
        cases hv
      have HWR := Lib.hid HV.out.1.below.size
      have HVW := Lib.hid (And.intro (HV.out.1.widen k5) (And.intro (((HV.out.2.1.later k5))) HV.out.2.2))
      have HE5 := HE0.out w5 k5
      have HY := Lib.hid (And.intro hown (And.intro hcap (And.intro hA5 (And.intro hy1 hy2))))
      have HK5' := Lib.hid k5
      have ey : (y.length : Int) ≤ 101 := by omega
      clear hown5 hy hown hcap hA5 HK5 HW1 hW1 e2 hy1 hy2 k5 HV HE0
      obtain ⟨M, hM⟩ : ∃ M, modN s.kind 4 = M := ⟨_, rfl⟩
      have hM4 : M < 4 := by rw [← hM]; exact modN_lt s.kind (by omega)
      have HMK : Hid (∀ u, Calls Try.prog 8 #[.int .i64 s.kind, .int .i64 4] u fun e w' => e = .returned (.int .i64 (M : Int)) ∧ w' = u) := Lib.hid (fun u => by have h := mod_any s.kind 4 (by omega) (by omega) u; rw [hM] at h; exact h)
      clear hM
      by_cases hM3 : M = 3
      · subst hM3
        have HC := Lib.hid (vg_comp HVW.out.1 (b := y) (Ab := A5) (cb := c5) (By.Own8.bys HY.out.1) HY.out.2.2.1 (by omega))
        have hthree := HVW.out.2.2.comp (b := y) (by have := HY.out.2.2.2.2; omega) (by have := HIN.out; omega)
        have H3 := Lib.hid hthree
        clear hthree hM4
        go_wp2_with (first | (go_at_call 8; (refine (HMK.out _).mono ?_); rintro r wz ⟨rfl, hw⟩; rw [hw]; clear hw wz))
        refine HC.out.mono ?_
        rintro e w6 ⟨rfl, hV6, ho6⟩
        have HV6 := Lib.hid (And.intro hV6 ho6)
        clear hV6 ho6 HC HMK HE5
        rcases H3.out with ⟨g0, g1⟩ | ⟨g0, g1, g2⟩ | ⟨g0, g1⟩
        · rw [g0]
          have HFI : Hid (∃ (G : Nat → Prop) (v : VS) (d : DS) (base : List UInt8) (all : List (List UInt8)), VG w w6 x q v d G ∧ D4 w w6 G (.slice A5 y.length c5) (.slice none 0 0) (.slice A5 y.length c5) (.slice none 0 0) base all base all ∧ all.length ≤ i + 1 ∧ VK d v base all (1 + (i + 1))) := Lib.hid
            ⟨_, _, _, y, [], HV6.out.1, ⟨HOB.out.only HV6.out.2, OR.nil, HOB.out.only HV6.out.2, OR.nil⟩, Nat.zero_le _, g1⟩
          clear g0 g1 H3
          go_wp2_with fail
          go_roundw
          case rel =>
            obtain ⟨G', v', d', base', all', f1, f2, f3, f4⟩ := HFI.out
            exact ⟨i + 1, G', v', d', base', all', by go_num, by have := HLT.out; omega, by have := HLT.out; omega, f3, f1, f2, f4⟩
          case measure => simp [intOf]; have := HLT.out; omega
        · rw [g0]
          have HFI : Hid (∃ (G : Nat → Prop) (v : VS) (d : DS), VG w w6 x q v d G ∧ D4 w w6 G u13 u14 u13 u14 base all base all ∧ VK d v base all (1 + (i + 1))) := Lib.hid (by
            have f1 := HV6.out.1
            rw [g1, g2] at f1
            have hD := HVW.out.2.1
            have hb := (hD.b1.more (G' := fun i => G i ∨ (wr.heap.size ≤ i ∧ i < w5.heap.size)) (fun k hk => .inl hk)).only HV6.out.2
            have hr := (hD.r1.more (G' := fun i => G i ∨ (wr.heap.size ≤ i ∧ i < w5.heap.size)) (fun k hk => .inl hk)).only HV6.out.2
            exact ⟨_, _, _, f1, ⟨hb, hr, hb, hr⟩, ⟨HVW.out.2.2.fit, HVW.out.2.2.live, by have := HVW.out.2.2.epoch; omega⟩⟩)
          clear g0 g1 g2 H3
          go_wp2_with fail
          go_roundw
          case rel =>
            obtain ⟨G', v', d', f1, f2, f4⟩ := HFI.out
            exact ⟨i + 1, G', v', d', base, all, by go_num, by have := HLT.out; omega, by have := HLT.out; omega, by have := HIN.out; omega, f1, f2, f4⟩
          case measure => simp [intOf]; have := HLT.out; omega
        · rw [g0]
          have HFI : Hid (∃ (G : Nat → Prop) (d : DS) (base : List UInt8) (all : List (List UInt8)) (nb : List UInt8) (nx : List (List UInt8)), DG w w6 q d G ∧ D4 w w6 G u13 u14 (.slice A5 y.length c5) (.slice none 0 0) base all nb nx ∧ all.length ≤ 30 ∧ nx.length ≤ 30 ∧ ∀ kn kf, VB (startD (crashD d kn kf)) base all nb nx) := Lib.hid (by
            have hD := HVW.out.2.1
            have hb := (hD.b1.more (G' := fun i => G i ∨ (wr.heap.size ≤ i ∧ i < w5.heap.size)) (fun k hk => .inl hk)).only HV6.out.2
            have hr := (hD.r1.more (G' := fun i => G i ∨ (wr.heap.size ≤ i ∧ i < w5.heap.size)) (fun k hk => .inl hk)).only HV6.out.2
            exact ⟨_, _, base, all, y, [], HV6.out.1.dg, ⟨hb, hr, HOB.out.only HV6.out.2, OR.nil⟩, by have := HIN.out; omega, by simp, g1⟩)
          clear g0 g1 H3
          go_wp2_with fail
          go_meet
          exact HFI.out
      · have m1 : ((M : Int) == 3) = false := beq_eq_false_iff_ne.2 (by omega)
        clear hM3
        obtain ⟨A4, c4, us, rfl, hR4, hG4, hu4⟩ := HVW.out.2.1.r1
        have HR4 := Lib.hid (And.intro hR4 (And.intro hG4 hu4))
        have HBS : Hid (w.heap.size ≤ w5.heap.size ∧ all.length ≤ 1000000) := Lib.hid ⟨HVW.out.1.below.size, by have := HIN.out; omega⟩
        have hthree := HVW.out.2.2.add (b := y) (by have := HY.out; omega) (by have := HY.out.2.2.2.2; omega) (by have := HIN.out; omega)
        have H3 := Lib.hid hthree
        obtain ⟨j0, hj0, hj1, hj2, hj3⟩ := info_parts info_bytes
        have HJ := Lib.hid (And.intro hj0 (And.intro hj1 (And.intro hj2 hj3)))
        have hone : ∀ u ∈ [Value.slice A5 y.length c5], u.oneCell' = true := by simp [Value.oneCell']
        have hl1 : all.length + 1 ≤ maxLen := by unfold maxLen; have := HIN.out; omega
        have hl2 : (all.length + 1) * 24 ≤ 140737488355328 := by have := HIN.out; omega
        clear hthree hM4 hR4 hG4 hu4 hj0 hj1 hj2 hj3
        go_wp2_with (first
          | (go_at_call 8; (refine (HMK.out _).mono ?_); rintro r wz ⟨rfl, hw⟩; rw [hw]; clear hw wz)
          | ((with_reducible refine wpList_copy_rows (w := w5) (o := ⟨some 96, _, _, _, _, _⟩) ?_ (.const (.slice none 0 0)) (.tmp 95) ?_ w.heap.size A4 all.length c4 us all ?_ ?_ HR4.out.1 HBS.out.2 HBS.out.1 ?_); (next => rfl); (next => rfl); (next => rfl); (next => rfl); intro A6 c6 w6 hR6 k6 hg6; have HS6 : Hid (w.heap.size ≤ (w6.alloc (.cells #[.slice A5 y.length c5] 37)).heap.size ∧ (w6.alloc (.cells #[.slice A5 y.length c5] 37)).heap.size = w6.heap.size + 1) := Lib.hid ⟨by have := HBS.out.1; have := k6.size; simp; omega, by simp⟩)
          | (at_builtin; (with_reducible refine wpList_append_lies (o := ⟨some 99, _, _, _, _, _⟩) (w6.alloc (.cells #[.slice A5 y.length c5] 37)) ?_ (.tmp 96) (.tmp 98) 49 ?_ w.heap.size 37 j0 _ 1 24 Try.underlying49 HJ.out.1 HJ.out.2.1 HJ.out.2.2.1 HJ.out.2.2.2 ?_ ?_ (.slice A6 all.length c6) all.length us ?_ (hR6.own.alloc _) ⟨w6.heap.size, 0, none⟩ 1 1 [.slice A5 y.length c5] ?_ ?_ (World.news_of_block (cs := #[.slice A5 y.length c5]) (t := 37) (fr := (0, 0)) (heap_alloc_new w6 _)) hone ?_ hl1 hl2 HS6.out.1 (w6.heap.size + 1) HS6.out.2 ?_); (next => rfl); (next => rfl); (next => rfl); (next => decide); (next => rfl); (next => rfl); (next => rfl); (next => decide); intro g cp w7 hown7 hgrow7 hat7 hlt7))
        have hv6 : Own8 w6 wr.heap.size (.slice A5 y.length c5) y := By.Own8.below HY.out.1 k6
        have hwr : w.heap.size ≤ wr.heap.size := HWR.out
        obtain ⟨hR7, ho67⟩ := Jl.Recd.push hR6 (Lf.own_lower hv6 hwr) hown7 hgrow7
        have k57 : Below w5.heap.size w5 w7 := k6.trans (ho67.toBelow k6.size fun k hk hs => by
          have := hg6 k (by rw [← hs]; exact ownBlock_any _ _ _ _ _)
          omega)
        have hgl : w5.heap.size ≤ g := by
          rcases hat7 with h | h
          · exact hg6 g h
          · have := k6.size; omega
        have hV7 := HVW.out.1.widen k57
        have hvv : Own8 w7 wr.heap.size (.slice A5 y.length c5) y := By.Own8.below HY.out.1 k57
        have hOR : OR w w7 (fun i => (G i ∨ (wr.heap.size ≤ i ∧ i < w5.heap.size)) ∨ (w5.heap.size ≤ i ∧ i < w7.heap.size)) (.slice (some ⟨g, 0, none⟩) (all.length + 1) cp) (all ++ [y]) := by
          refine ⟨some ⟨g, 0, none⟩, cp, us ++ [.slice A5 y.length c5], by rw [List.length_append]; rfl, hR7, fun i hi => ?_, fun i u hu i' hi' => ?_⟩
          · rw [Mv.ownBlock_some] at hi
            injection hi with hi
            exact .inr (by omega)
          · rcases Nat.lt_or_ge i us.length with h | h
            · rw [List.getElem?_append_left h] at hu
              exact .inl (.inl (HR4.out.2.2 i u hu i' hi'))
            · rw [List.getElem?_append_right h] at hu
              rcases Nat.eq_zero_or_pos (i - us.length) with h0 | h0
              · rw [h0] at hu
                injection hu with hu
                subst hu
                exact .inl (.inr (HBX.out i' hi'))
              · rw [List.getElem?_eq_none (by simp; omega)] at hu
                cases hu
        have hD7 : D4 w w7 (fun i => (G i ∨ (wr.heap.size ≤ i ∧ i < w5.heap.size)) ∨ (w5.heap.size ≤ i ∧ i < w7.heap.size)) u13 (.slice A4 all.length c4) u13 (.slice (some ⟨g, 0, none⟩) (all.length + 1) cp) base all base (all ++ [y]) := by
          have h1 := (HVW.out.2.1.later k57)
          have hb := h1.b1.more (G' := fun i => (G i ∨ (wr.heap.size ≤ i ∧ i < w5.heap.size)) ∨ (w5.heap.size ≤ i ∧ i < w7.heap.size)) (fun k hk => .inl (.inl hk))
          exact ⟨hb, h1.r1.more (fun k hk => .inl (.inl hk)), hb, hOR⟩
        have HA := Lib.hid (vg_add hV7 (b := y) (Ab := A5) (cb := c5) (By.Own8.bys hvv) HY.out.2.1.1 HY.out.2.1.2 (by omega) (fun a ha => by
          obtain ⟨Bd, yy, AA, cc, vv, h1, h2, h3⟩ := hV7.some
          exact own_far_disk hvv h1.lay a ha))
        have HD7 := Lib.hid hD7
        clear hv6 hwr hR7 ho67 k57 hgl hV7 hvv hOR hD7 hR6 k6 hg6 HS6 hown7 hgrow7 hat7 hlt7
        refine HA.out.mono ?_
        rintro e w8 ⟨rfl, hV8, ho8⟩
        have HV8 := Lib.hid (And.intro hV8 (HD7.out.only ho8))
        clear hV8 ho8 HA HMK HE5 HD7
        rcases H3.out with ⟨g0, g1⟩ | ⟨g0, g1, g2⟩ | ⟨g0, g1⟩
        · rw [g0]
          have HFI : Hid (∃ (G : Nat → Prop) (v : VS) (d : DS), VG w w8 x q v d G ∧ D4 w w8 G u13 (.slice (some ⟨g, 0, none⟩) (all.length + 1) cp) u13 (.slice (some ⟨g, 0, none⟩) (all.length + 1) cp) base (all ++ [y]) base (all ++ [y]) ∧ VK d v base (all ++ [y]) (1 + (i + 1))) := Lib.hid
            ⟨_, _, _, HV8.out.1, ⟨HV8.out.2.b1, HV8.out.2.r2, HV8.out.2.b1, HV8.out.2.r2⟩, ⟨g1.fit, g1.live, by have := g1.epoch; omega⟩⟩
          clear g0 g1 H3
          go_wp2_with fail
          go_roundw
          case rel =>
            obtain ⟨G', v', d', f1, f2, f4⟩ := HFI.out
            exact ⟨i + 1, G', v', d', base, all ++ [y], by go_num, by have := HLT.out; omega, by have := HLT.out; omega, by rw [List.length_append]; have := HIN.out; simp; omega, f1, f2, f4⟩
          case measure => simp [intOf]; have := HLT.out; omega
        · rw [g0]
          have HFI : Hid (∃ (G : Nat → Prop) (v : VS) (d : DS), VG w w8 x q v d G ∧ D4 w w8 G u13 (.slice A4 all.length c4) u13 (.slice A4 all.length c4) base all base all ∧ VK d v base all (1 + (i + 1))) := Lib.hid (by
            have f1 := HV8.out.1
            rw [g1, g2] at f1
            exact ⟨_, _, _, f1, ⟨HV8.out.2.b1, HV8.out.2.r1, HV8.out.2.b1, HV8.out.2.r1⟩, ⟨HVW.out.2.2.fit, HVW.out.2.2.live, by have := HVW.out.2.2.epoch; omega⟩⟩)
          clear g0 g1 g2 H3
          go_wp2_with fail
          go_roundw
          case rel =>
            obtain ⟨G', v', d', f1, f2, f4⟩ := HFI.out
            exact ⟨i + 1, G', v', d', base, all, by go_num, by have := HLT.out; omega, by have := HLT.out; omega, by have := HIN.out; omega, f1, f2, f4⟩
          case measure => simp [intOf]; have := HLT.out; omega
        · rw [g0]
          have HFI : Hid (∃ (G : Nat → Prop) (d : DS) (base0 : List UInt8) (all0 : List (List UInt8)) (nb : List UInt8) (nx : List (List UInt8)), DG w w8 q d G ∧ D4 w w8 G u13 (.slice A4 all.length c4) u13 (.slice (some ⟨g, 0, none⟩) (all.length + 1) cp) base0 all0 nb nx ∧ all0.length ≤ 30 ∧ nx.length ≤ 30 ∧ ∀ kn kf, VB (startD (crashD d kn kf)) base0 all0 nb nx) := Lib.hid
            ⟨_, _, base, all, base, all ++ [y], HV8.out.1.dg, HV8.out.2, by have := HIN.out; omega, by rw [List.length_append]; have := HIN.out; simp; omega, g1⟩
          clear g0 g1 H3
          go_wp2_with fail
          go_meet
          exact HFI.out
  case rest =>
    obtain ⟨G, d, base, all, nb, nx, hD, h4, hl1, hl2, hVB⟩ := hcut
    have HD := Lib.hid (And.intro hD (And.intro h4 hVB))
    have al1 : (all.length : Int) ≤ 30 := by omega
    have nl1 : (nx.length : Int) ≤ 30 := by omega
    have HIN := Lib.hid (And.intro hl1 hl2)
    clear HV4 hD h4 hVB hl1 hl2
    generalize wc = wd at *
    have HKW : Hid (∀ u, Below w.heap.size w u → Hl.Ints u u.heap.size A2 n2 f2) := Lib.hid (fun u hu k hk => by
      obtain ⟨b, o, e1, e2, e3⟩ := HKE.out.1 k hk
      exact ⟨b, o, e1, Nat.lt_of_lt_of_le e2 hu.size, (hu.cell (p := ⟨b, o + k, none⟩) e2).trans e3⟩)
    have HC := Lib.hid (dg_crash HD.out.1 c2 (HKW.out wd HD.out.1.below) (fun a ha hn hh => by
      obtain ⟨b, o, e1, e2, _⟩ := HKE.out.1 0 (by omega)
      rw [ha] at e1
      injection e1 with e1
      have := HD.out.1.lo _ hh
      rw [e1] at this
      simp at this
      omega) HKE.out.2.2 HKE.out.2.1)
    go_wp2_with fail
    refine HC.out.mono ?_
    rintro e w5 ⟨rfl, hD5, ho5⟩
    have HD5 := Lib.hid (And.intro hD5 (And.intro (HD.out.2.1.only ho5) (HD.out.2.2 n2 f2)))
    generalize crashD d n2 f2 = dc at *
    clear hD5 ho5 HC HD HKW
    go_wp2_with fail
    refine (dg_start HD5.out.1).mono ?_
    rintro e w6 ⟨rfl, hD6, ho6⟩
    have HD6 := Lib.hid (And.intro hD6 (And.intro (HD5.out.2.1.only ho6) (HD5.out.2.2.arm (t3 : Int))))
    generalize startD dc = ds at *
    clear hD6 ho6 HD5
    go_wp2_with (first | (go_at_call 8; (refine (HM3.out _).mono ?_); rintro r wz ⟨rfl, hw⟩; rw [hw]; clear hw wz))
    refine (dg_arm HD6.out.1 (t3 : Int) (by omega)).mono ?_
    rintro e w7 ⟨rfl, hD7, ho7⟩
    have HD7 := Lib.hid (And.intro hD7 (And.intro (HD6.out.2.1.only ho7) HD6.out.2.2))
    generalize armD ds (t3 : Int) = da at *
    clear hD7 ho7 HD6
    obtain ⟨g0, g1, g2, g3⟩ := HD7.out.2.2.open_
    have gF := HD7.out.2.2.found
    obtain ⟨bX, rX, hX, hX2⟩ : ∃ bX rX, (vopenV da).j.l = (1 :: bX) :: rX ∧ ((bX = base ∧ rX = all) ∨ (bX = nb ∧ rX = nx)) := by
      rcases g3 with g3 | g3
      · exact ⟨base, all, g3, .inl ⟨rfl, rfl⟩⟩
      · exact ⟨nb, nx, g3, .inr ⟨rfl, rfl⟩⟩
    have HX := Lib.hid (And.intro g0 (And.intro g1 (And.intro gF (And.intro hX hX2))))
    have hrX : rX.length ≤ 30 := by
      have := HIN.out
      rcases hX2 with ⟨_, h⟩ | ⟨_, h⟩
      · rw [h]; omega
      · rw [h]; omega
    have rx1 : (rX.length : Int) ≤ 30 := by omega
    have HRX := Lib.hid hrX
    clear g0 g1 g2 g3 gF hX hX2 hrX
    go_wp2_with fail
    refine (dg_open HD7.out.1 HX.out.1 HX.out.2.2.1).mono ?_
    rintro e w8 ⟨x8, rfl, hV8, k8⟩
    rw [HX.out.2.1] at hV8
    have HV8 := Lib.hid (And.intro hV8 (HD7.out.2.1.later k8))
    obtain ⟨A13, c13, e13, hb13⟩ := ob_form HV8.out.2.b1
    obtain ⟨A14, c14, e14, hb14⟩ := or_form HV8.out.2.r1
    obtain ⟨A15, c15, e15, hb15⟩ := ob_form HV8.out.2.b2
    obtain ⟨A16, c16, e16, hb16⟩ := or_form HV8.out.2.r2
    subst e13 e14 e15 e16
    have HB := Lib.hid (And.intro hb13 (And.intro hb14 (And.intro hb15 hb16)))
    clear hV8 k8 HD7 hb13 hb14 hb15 hb16
    have hl := HX.out.2.2.2.1
    generalize hv8 : vopenV da = v8 at *
    have HBA : Hid (∀ u, Below w8.heap.size w8 u → Calls Try.prog 29 #[.pointer (some ⟨x8, 0, none⟩)] u (BaseE u bX)) := Lib.hid (fun u hu => vp_base (HV8.out.1.later hu).vp hl)
    have HRE : Hid (∀ u, Below w8.heap.size w8 u → Calls Try.prog 31 #[.pointer (some ⟨x8, 0, none⟩)] u (RowsE u rX)) := Lib.hid (fun u hu => by
      have h := vp_records (HV8.out.1.later hu).vp
      rw [hl] at h
      exact h)
    have HBY : Hid (∀ (u : World) (A A' : Option Addr) (c c' : Nat) (b b' : List UInt8), Bys u u.heap.size A b.length b → Bys u u.heap.size A' b'.length b' → Calls Try.prog 28 #[.slice A b.length c, .slice A' b'.length c'] u fun e w' => e = .returned (.bool (b == b')) ∧ w' = u) := Lib.hid (fun u A A' c c' b b' h h' =>
      (By.bytes_any A A' b.length b'.length c c' u.heap.size b b' u h h').mono fun e w' ⟨he, hd⟩ => ⟨he, hd.symm⟩)
    have HRW : Hid (∀ (u : World) (A A' : Option Addr) (c c' : Nat) (r r' : List (List UInt8)), r.length ≤ 30 → r'.length ≤ 30 → Hr.Rws u u.heap.size A r.length r → Hr.Rws u u.heap.size A' r'.length r' → Calls Try.prog 30 #[.slice A r.length c, .slice A' r'.length c'] u fun e w' => e = .returned (.bool (r == r')) ∧ Below u.heap.size u w') := Lib.hid (fun u A A' c c' r r' h1 h2 h h' =>
      (Hr.rows_any A A' r.length r'.length c c' r r' u.heap.size u h h' (by unfold maxLen; omega) (by unfold maxLen; omega)).mono fun e w' ⟨he, hd⟩ => ⟨he, hd.below _⟩)
    clear hl
    go_upto_region 36 with (fail)
    go_cut [22] (fun s22 wx => ∃ e : Bool, s22 = .bool e ∧ (bX = base ∧ rX = all → e = true) ∧ Below w8.heap.size w8 wx)
    case first =>
      cases hbb : (bX == base)
      case' true =>
        have HBB : Hid (∀ (u : World) (A A' : Option Addr) (c c' : Nat), Bys u u.heap.size A bX.length bX → Bys u u.heap.size A' base.length base → Calls Try.prog 28 #[.slice A bX.length c, .slice A' base.length c'] u fun e w' => e = .returned (.bool true) ∧ w' = u) := Lib.hid (fun u A A' c c' h h' => by have hh := HBY.out u A A' c c' bX base h h'; rw [hbb] at hh; exact hh)
        have HFI : Hid (∀ W, Below w8.heap.size w8 W → ∃ e : Bool, Value.bool (rX == all) = .bool e ∧ (bX = base ∧ rX = all → e = true) ∧ Below w8.heap.size w8 W) := Lib.hid (fun W hW => ⟨_, rfl, fun h => by rw [h.2]; exact beq_self_eq_true _, hW⟩)
      case' false =>
        have HBB : Hid (∀ (u : World) (A A' : Option Addr) (c c' : Nat), Bys u u.heap.size A bX.length bX → Bys u u.heap.size A' base.length base → Calls Try.prog 28 #[.slice A bX.length c, .slice A' base.length c'] u fun e w' => e = .returned (.bool false) ∧ w' = u) := Lib.hid (fun u A A' c c' h h' => by have hh := HBY.out u A A' c c' bX base h h'; rw [hbb] at hh; exact hh)
        have HFI : Hid (∀ W, Below w8.heap.size w8 W → ∃ e : Bool, Value.bool false = .bool e ∧ (bX = base ∧ rX = all → e = true) ∧ Below w8.heap.size w8 W) := Lib.hid (fun W hW => ⟨_, rfl, fun h => (by rw [h.1, beq_self_eq_true] at hbb; cases hbb), hW⟩)
      all_goals
        clear hbb
        go_wp2_with (first
          | (go_at_call 29; (with_reducible refine (HBA.out _ (Below.refl _ _)).mono ?_); rintro e w9 ⟨A9, c9, rfl, hy9, hc9, k9⟩)
          | (go_at_call 28; (with_reducible refine (HBB.out _ A9 A13 c9 c13 hy9 ((HB.out.1.below k9 (Nat.le_refl _)).more k9.size)).mono ?_); rintro e w10 ⟨rfl, hw⟩; rw [hw]; clear hw w10; have kk := k9)
          | (go_at_call 31; (with_reducible refine (HRE.out _ k9).mono ?_); rintro e w11 ⟨A11, c11, rfl, hy11, hc11, k11⟩)
          | (go_at_call 30; (with_reducible refine (HRW.out _ A11 A14 c11 c14 rX all HRX.out HIN.out.1 hy11 ((HB.out.2.1.below (Dk.below_then k9 k11) (Nat.le_refl _)).more (Dk.below_then k9 k11).size)).mono ?_); rintro e w12 ⟨rfl, k12⟩; have kk2 := Dk.below_then (Dk.below_then k9 k11) k12))
        go_meet
        first | exact HFI.out _ kk2 | exact HFI.out _ kk
    case rest =>
    obtain ⟨e1, rfl, he1, k22⟩ := hcut
    have H22 := Lib.hid (And.intro he1 k22)
    clear he1 k22
    generalize wc = w22 at *
    go_upto_region 37 with (fail)
    go_cut [23] (fun s23 wx => ∃ e : Bool, s23 = .bool e ∧ (bX = nb ∧ rX = nx → e = true) ∧ Below w8.heap.size w8 wx)
    case first =>
      cases hbb : (bX == nb)
      case' true =>
        have HBB : Hid (∀ (u : World) (A A' : Option Addr) (c c' : Nat), Bys u u.heap.size A bX.length bX → Bys u u.heap.size A' nb.length nb → Calls Try.prog 28 #[.slice A bX.length c, .slice A' nb.length c'] u fun e w' => e = .returned (.bool true) ∧ w' = u) := Lib.hid (fun u A A' c c' h h' => by have hh := HBY.out u A A' c c' bX nb h h'; rw [hbb] at hh; exact hh)
        have HFI : Hid (∀ W, Below w8.heap.size w8 W → ∃ e : Bool, Value.bool (rX == nx) = .bool e ∧ (bX = nb ∧ rX = nx → e = true) ∧ Below w8.heap.size w8 W) := Lib.hid (fun W hW => ⟨_, rfl, fun h => by rw [h.2]; exact beq_self_eq_true _, hW⟩)
      case' false =>
        have HBB : Hid (∀ (u : World) (A A' : Option Addr) (c c' : Nat), Bys u u.heap.size A bX.length bX → Bys u u.heap.size A' nb.length nb → Calls Try.prog 28 #[.slice A bX.length c, .slice A' nb.length c'] u fun e w' => e = .returned (.bool false) ∧ w' = u) := Lib.hid (fun u A A' c c' h h' => by have hh := HBY.out u A A' c c' bX nb h h'; rw [hbb] at hh; exact hh)
        have HFI : Hid (∀ W, Below w8.heap.size w8 W → ∃ e : Bool, Value.bool false = .bool e ∧ (bX = nb ∧ rX = nx → e = true) ∧ Below w8.heap.size w8 W) := Lib.hid (fun W hW => ⟨_, rfl, fun h => (by rw [h.1, beq_self_eq_true] at hbb; cases hbb), hW⟩)
      all_goals
        clear hbb
        go_wp2_with (first
          | (go_at_call 29; (with_reducible refine (HBA.out _ H22.out.2).mono ?_); rintro e w9 ⟨A9, c9, rfl, hy9, hc9, k9'⟩; have k9 := Dk.below_then H22.out.2 k9')
          | (go_at_call 28; (with_reducible refine (HBB.out _ A9 A15 c9 c15 hy9 ((HB.out.2.2.1.below k9 (Nat.le_refl _)).more k9.size)).mono ?_); rintro e w10 ⟨rfl, hw⟩; rw [hw]; clear hw w10; have kk := k9)
          | (go_at_call 31; (with_reducible refine (HRE.out _ k9).mono ?_); rintro e w11 ⟨A11, c11, rfl, hy11, hc11, k11⟩)
          | (go_at_call 30; (with_reducible refine (HRW.out _ A11 A16 c11 c16 rX nx HRX.out HIN.out.2 hy11 ((HB.out.2.2.2.below (Dk.below_then k9 k11) (Nat.le_refl _)).more (Dk.below_then k9 k11).size)).mono ?_); rintro e w12 ⟨rfl, k12⟩; have kk2 := Dk.below_then (Dk.below_then k9 k11) k12))
        go_meet
        first | exact HFI.out _ kk2 | exact HFI.out _ kk
    case rest =>
    obtain ⟨e2, rfl, he2, k23⟩ := hcut
    have HEE : Hid (e1 = true ∨ (e1 = false ∧ e2 = true)) := Lib.hid (by
      rcases HX.out.2.2.2.2 with h | h
      · exact .inl (H22.out.1 h)
      · cases e1
        · exact .inr ⟨rfl, he2 h⟩
        · exact .inl rfl)
    have H23 := Lib.hid k23
    clear he2 k23 H22
    generalize wc = w23 at *
    go_wp2_with (first
      | (go_at_call 29; (with_reducible refine (HBA.out _ H23.out).mono ?_); rintro e w9 ⟨A9, c9, rfl, hy9, hc9, k9'⟩; have k9 := Dk.below_then H23.out k9')
      | (go_at_call 31; (with_reducible refine (HRE.out _ k9).mono ?_); rintro e w11 ⟨A11, c11, rfl, hy11, hc11, k11⟩))
    have k11' := Dk.below_then k9 k11
    have HY := Lib.hid (And.intro ((hy9.below k11 (Nat.le_refl _)).more k11.size) (And.intro hy11 (HV8.out.1.later k11')))
    clear hy9 hc9 k9' k9 hy11 hc11 k11 k11' HB HBA HRE H23
    refine (dg_open HY.out.2.2.dg HX.out.1 HX.out.2.2.1).mono ?_
    rintro e w12 ⟨x12, rfl, hV12, k12⟩
    have hl : (vopenV da).j.l = (1 :: bX) :: rX := by rw [hv8]; exact HX.out.2.2.2.1
    have HV12 := Lib.hid (And.intro hV12 k12)
    have HBA : Hid (∀ u, Below w12.heap.size w12 u → Calls Try.prog 29 #[.pointer (some ⟨x12, 0, none⟩)] u (BaseE u bX)) := Lib.hid (fun u hu => vp_base (HV12.out.1.later hu).vp hl)
    have HRE : Hid (∀ u, Below w12.heap.size w12 u → Calls Try.prog 31 #[.pointer (some ⟨x12, 0, none⟩)] u (RowsE u rX)) := Lib.hid (fun u hu => by
      have h := vp_records (HV12.out.1.later hu).vp
      rw [hl] at h
      exact h)
    have HBB : Hid (∀ (u : World) (A A' : Option Addr) (c c' : Nat), Bys u u.heap.size A bX.length bX → Bys u u.heap.size A' bX.length bX → Calls Try.prog 28 #[.slice A bX.length c, .slice A' bX.length c'] u fun e w' => e = .returned (.bool true) ∧ w' = u) := Lib.hid (fun u A A' c c' h h' => by have hh := HBY.out u A A' c c' bX bX h h'; rw [beq_self_eq_true] at hh; exact hh)
    have HRR : Hid (∀ (u : World) (A A' : Option Addr) (c c' : Nat), Hr.Rws u u.heap.size A rX.length rX → Hr.Rws u u.heap.size A' rX.length rX → Calls Try.prog 30 #[.slice A rX.length c, .slice A' rX.length c'] u fun e w' => e = .returned (.bool true) ∧ Below u.heap.size u w') := Lib.hid (fun u A A' c c' h h' => by have hh := HRW.out u A A' c c' rX rX HRX.out HRX.out h h'; rw [beq_self_eq_true] at hh; exact hh)
    clear hV12 k12 hl HBY HRW HX hv8
    rcases HEE.out with hee | ⟨hee, hee2⟩
    case' inl => subst hee
    case' inr => subst hee hee2
    all_goals
      go_wp2_with (first
        | (go_at_call 29; (with_reducible refine (HBA.out _ (Below.refl _ _)).mono ?_); rintro e w13 ⟨A13', c13', rfl, hy13, hc13, k13⟩)
        | (go_at_call 28; (with_reducible refine (HBB.out _ A13' A9 c13' c9 hy13 ((HY.out.1.below (Dk.below_then HV12.out.2 k13) (Nat.le_refl _)).more (Dk.below_then HV12.out.2 k13).size)).mono ?_); rintro e w10 ⟨rfl, hw⟩; rw [hw]; clear hw w10)
        | (go_at_call 31; (with_reducible refine (HRE.out _ k13).mono ?_); rintro e w14 ⟨A14', c14', rfl, hy14, hc14, k14⟩)
        | (go_at_call 30; (with_reducible refine (HRR.out _ A14' A11 c14' c11 hy14 ((HY.out.2.1.below (Dk.below_then HV12.out.2 (Dk.below_then k13 k14)) (Nat.le_refl _)).more (Dk.below_then HV12.out.2 (Dk.below_then k13 k14)).size)).mono ?_); rintro e w15 ⟨rfl, k15⟩))
      go_ret
      exact ⟨rfl, (HV12.out.1.later (Dk.below_then (Dk.below_then k13 k14) k15)).below⟩

set_option maxRecDepth 100000 in
theorem lifted (os : Os) (started : os.Started) (H : Type) (enc : TypeId × Value → H) :
    ReturnsInHanded {} Try.checked os 4 .any (Rows.vaultKeepsSpec.pre6 enc Try.prog Try.f4 Rows.vaultKeepsRow.domain false) (Rows.vaultKeepsSpec.post enc Try.prog Try.f4 false true false false) := by
  refine returnsInHanded_of_change (C := Try.checked) own started (by kernel_rfl) Try.func4
    (ChangeSpec.witness6 (enc := enc) (C := Try.checked) false ⟨#[], #[.slice none 0 0, .int .i64 0, .slice none 0 0, .int .i64 0], []⟩ 8 (by kernel_rfl) (by kernel_rfl) (by kernel_rfl) (by kernel_rfl)) ?_
  intro W base args ds gs before hval0 hW hcnd _
  have hval : ∀ (j : Nat) t v, Try.f4.params[j]? = some t → args[j]? = some v → Value.okWide Try.prog W .any base t v := hval0
  have hW' := hW
  obtain ⟨p, q, hA0, hV, rfl, hfz, hnd⟩ := hW
  have hA : DataW.TrodAll enc Try.prog W 0 (fun _ => true) true Try.f4.params.toList args.toList ds p := hA0
  rw [Try.params4] at hA hval
  obtain ⟨v0, vs0, d0, ds0, p0, q0, hargs, rfl, rfl, h0, r0⟩ := trodAll_cons hA
  obtain ⟨v1, vs1, d1, ds1, p1, q1, rfl, rfl, rfl, h1, r1⟩ := trodAll_cons r0
  obtain ⟨v2, vs2, d2, ds2, p2, q2, rfl, rfl, rfl, h2, r2⟩ := trodAll_cons r1
  obtain ⟨v3, vs3, d3, ds3, p3, q3, rfl, rfl, rfl, h3, r3⟩ := trodAll_cons r2
  obtain ⟨rfl, rfl, rfl⟩ := trodAll_nil r3
  obtain rfl : args = #[v0, v1, v2, v3] := by cases args; simp_all
  obtain ⟨A0, n0, c0, o0, rfl, x0, y0⟩ := Vq.open_oprs (hval 0 22 v0 rfl rfl) h0
  obtain ⟨a1, rfl, _, _, w1⟩ := open_int Try.underlying3 (hval 1 3 v1 rfl rfl) h1
  obtain ⟨A2, n2, c2, f2, rfl, x2, y2, z2, u2⟩ := Hk.open_ints_at Try.underlying38 Try.underlying3 (by kernel_rfl) (hval 2 38 v2 rfl rfl) h2
  obtain ⟨a3, rfl, _, _, w3⟩ := open_int Try.underlying3 (hval 3 3 v3 rfl rfl) h3
  refine (walk W A0 n0 c0 o0 x0 y0 a1 w1 A2 n2 c2 f2 x2 y2 z2 a3 w3).mono fun e W' ⟨he, hb⟩ => ?_
  subst he
  exact ⟨_, rfl, Hk.closeLaw (tb := 4) (by kernel_rfl) (by kernel_rfl) rfl rfl rfl Try.underlying4 hW' hb⟩

theorem over : Rows.vaultKeepsRow.holds Try.pinned (OpenSpec.ofChange Rows.vaultKeepsSpec) :=
  OpenClaim.holds_of_wide 4 Try.f4 rfl rfl rfl rfl rfl rfl rfl ⟨rfl, rfl, rfl, rfl, rfl⟩ rfl rfl rfl rfl rfl (by kernel_rfl) Try.func4 (by kernel_rfl)
    (of_decide_eq_true (by kernel_rfl)) (by unfold Func.isWrapper; first | (rw [if_pos (by decide +kernel)]; kernel_rfl) | (rw [if_neg (by decide +kernel)]; exact ⟨rfl, rfl⟩))
    (fun os started H enc _ => lifted os started H enc)

/-- The statement. -/
theorem proved : Rows.VaultKeepsSaid :=
  over
end Go.Proofs.Ytedgookkogpfbaa.vaultKeeps
