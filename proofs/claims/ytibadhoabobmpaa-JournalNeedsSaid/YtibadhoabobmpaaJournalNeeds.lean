/- P8.1, P8.2: records take so many sectors; what does not fit is refused, and changes nothing; what fits just so is there: on one to twenty sectors, for every number and every slice of sizes. No conditions. -/
import Derived.Test.YtibadhoabobmpaaJlT
import Derived.Test.YtibadhoabobmpaaBa
set_option maxRecDepth 100000
namespace Go.Proofs.Ytibadhoabobmpaa.journalNeeds
open Go.ChangeShapes Go.WideShapes Go.ChangeAt Go.RowKit
set_option linter.unusedVariables false

theorem own : ownKnob Try.prog.godebug = none := by kernel_rfl

open Qu (Blk)
open Mv (Only Fresh)
open By (Own8 Bys cellsB cellsB_length)
open Dk (DS dsNew)
open Dd (Lay At)
open Jr (JS newE blankJ openJ needN addE addDS addJ calm_ok calm_full addJ_zero Fit new_is)
open Jl

/-- What holds at each round. -/
structure Rnd (w wr : World) (x Bd Bj : Nat) (q : Dd.Pl) (m u k : Nat) : Prop where
  some : ∃ A c vs j d, Pair w wr x Bd Bj q A c vs j d ∧ d.off = false ∧ d.armed = 0 ∧ j.dead = false ∧ j.n = m ∧ j.used = u ∧ j.l.length = k

theorem need_quo {k : Nat} (h : 1 ≤ k) (h2 : k ≤ 1000) : ((k : Int) + 45) / 46 = ((needN k : Nat) : Int) ∧ needN k ≤ k := by
  have e : needN k = (k + 45) / 46 := by
    unfold needN
    split <;> omega
  rw [e]
  constructor <;> omega

theorem need_pos' {k N : Nat} (h : 1 ≤ k) (hN : needN k = N) : 1 ≤ N := by rw [← hN]; exact Jr.need_pos h

set_option maxRecDepth 100000 in
set_option maxHeartbeats 4000000 in
theorem walk (w : World) (a0 : Int) (wf0 : (Lit.int .i64 a0).wf = true) (A : Option Addr) (n c : Nat) (f : Nat → Int) (hA : Hl.Ints w w.heap.size A n f) (hn : n ≤ 9223372036854775807) (hf : ∀ k, k < n → -9223372036854775808 ≤ f k ∧ f k ≤ 9223372036854775807) :
    Calls Try.prog 6 #[.int .i64 a0, .slice A n c] w fun e w' => e = .returned (.bool true) ∧ Below w.heap.size w w' := by
  have HMod := Lib.hid (mod_any a0 20 (by omega) (by omega) w)
  obtain ⟨t, ht⟩ : ∃ t, modN a0 20 = t := ⟨_, rfl⟩
  have ht20 : t < 20 := by rw [← ht]; exact modN_lt a0 (by omega)
  rw [ht] at HMod
  obtain ⟨m, hm⟩ : ∃ m : Nat, t + 1 = m := ⟨_, rfl⟩
  have hm1 : (1 : Int) + (t : Int) = (m : Int) := by omega
  have hm2 : 1 ≤ m := by omega
  have hm3 : m ≤ 20 := by omega
  have HA := Lib.hid (And.intro hA hf)
  clear hA hf ht wf0 hm
  go_enter Try.func6, Try.ntmps6
  go_wp2_with fail
  refine HMod.out.mono ?_
  rintro r w0 ⟨rfl, hw⟩
  subst hw
  clear HMod
  go_wp2_with fail
  clear hm1 ht20
  refine (Dd.new_ok w0 m hm2 (by omega)).mono ?_
  rintro r w1 ⟨q, rfl, hq, hlo, hb⟩
  have HN := Lib.hid (pair_new hq hlo hb (by rw [dsNew_n]; omega) (by show 0 ≤ _; omega) 0 m 1 (by omega) (new_is (by rw [dsNew_n]; omega) (by omega) (by omega) rfl))
  clear hq hlo hb
  go_wp2_with fail
  refine HN.out.mono ?_
  rintro r w2 ⟨x, rfl, hP, k2⟩
  have HP := Lib.hid hP
  clear hP k2 HN
  go_wp2_with fail
  refine (awake_any w2).mono ?_
  rintro r w3 ⟨rfl, k3⟩
  have HR : Hid (Rnd w0 w3 x w0.heap.size w1.heap.size q m 0 0) := Lib.hid ⟨_, _, _, _, _, HP.out.later k3, rfl, rfl, rfl, rfl, rfl, rfl⟩
  clear k3 HP
  go_wp2_with fail
  go_loopw [9, 10, 11] (fun s9 s10 s11 wr => ∃ i u k : Nat, s11 = .int .i64 (i : Int) ∧ s9 = .int .i64 (u : Int) ∧ s10 = .int .i64 (k : Int) ∧ i ≤ n ∧ i ≤ 30 ∧ u ≤ m ∧ k ≤ u ∧ Rnd w0 wr x w0.heap.size w1.heap.size q m u k) (fun _ _ s _ => 30 - (intOf s).toNat)
  case atStart => exact ⟨0, 0, 0, rfl, rfl, rfl, by omega, by omega, by omega, by omega, HR.out⟩
  case round =>
    clear HR
    obtain ⟨i, u, k, rfl, rfl, rfl, hi, hi30, hum, hku, hR⟩ := hrel
    obtain ⟨A2, c2, vs, j, d, hP, h1, h2, h3, h4, h5, h6⟩ := hR.some
    have HP := Lib.hid hP
    have HS := Lib.hid (And.intro h1 (And.intro h2 (And.intro h3 (And.intro h4 (And.intro h5 h6)))))
    clear hR hP h1 h2 h3 h4 h5 h6
    have i0 : (0 : Int) ≤ (i : Int) := by omega
    have u0 : (u : Int) ≤ 20 := by omega
    have m0 : (m : Int) ≤ 20 := by omega
    have k0 : (k : Int) ≤ 20 := by omega
    by_cases hlt : i < n ∧ i < 30
    · have i1 : (i : Int) < (n : Int) := by omega
      have i2 : (i : Int) < 30 := by omega
      have i3 : decide (i < n) = true := by simp; omega
      obtain ⟨b, o, rfl, hb, hc⟩ := HA.out.1 i hlt.1
      have hc2 := (HP.out.below.cell (p := ⟨b, o + i, none⟩) hb).trans hc
      have HM2 := Lib.hid (mod_any (f i) 200 (by omega) (by omega) wr)
      obtain ⟨t, ht⟩ : ∃ t, modN (f i) 200 = t := ⟨_, rfl⟩
      have ht2 : t < 200 := by rw [← ht]; exact modN_lt (f i) (by omega)
      rw [ht] at HM2
      obtain ⟨z, hz⟩ : ∃ z : Nat, t + 1 = z := ⟨_, rfl⟩
      have hz1 : (1 : Int) + (t : Int) = (z : Int) := by omega
      have hz2 : 1 ≤ z := by omega
      have hz3 : z ≤ 200 := by omega
      clear ht hc hb hz
      go_upto_region 11 with (first | (refine HM2.out.mono ?_; rintro r w4 ⟨rfl, hw⟩; rw [hw]; clear hw w4))
      clear hz1 ht2 hc2
      obtain ⟨hq1, hq2⟩ := need_quo hz2 (by omega)
      have HND := Lib.hid (fun u => need_any (z : Int) u (by omega))
      simp only [Int.toNat_natCast] at HND
      have z0 : (z : Int) ≤ 200 := by omega
      have mk := make_bytes z (by omega)
      obtain ⟨l, hl⟩ : ∃ l : List UInt8, List.replicate z 0 = l := ⟨_, rfl⟩
      have hlz : l.length = z := by rw [← hl]; simp
      rw [hl] at mk
      have HAD : Hid (Calls Try.prog 26 #[.pointer (some ⟨x, 0, none⟩), .slice (some ⟨wr.heap.size, 0, none⟩) z z] (wr.alloc (.cells (cellsB l).toArray 5)) (PairE w0 (wr.alloc (.cells (cellsB l).toArray 5)) x w0.heap.size w1.heap.size q A2 vs j d l)) := Lib.hid (by
        have h := HP.out.later (((Below.refl wr.heap.size wr).alloc (Nat.le_refl _) (.cells (cellsB l).toArray 5)))
        have hb : Bys (wr.alloc (.cells (cellsB l).toArray 5)) (wr.alloc (.cells (cellsB l).toArray 5)).heap.size (some ⟨wr.heap.size, 0, none⟩) l.length l := By.Bys.blk (Qu.Blk.new wr _ _) rfl rfl
        have := pair_add (cb := z) h hb (by omega) (by omega) (fun a ha hh => by
          injection ha with ha
          subst ha
          have := HP.out.disk.there _ hh
          exact Nat.lt_irrefl _ this) (by omega)
        rw [hlz] at this
        exact this)
      have HLZ := Lib.hid hlz
      obtain ⟨N, hN⟩ : ∃ N, needN z = N := ⟨_, rfl⟩
      rw [hN] at HND hq1 hq2
      have HNN := Lib.hid hN
      clear hl hlz hN
      have N0 : (N : Int) ≤ 200 := by omega
      go_wp2_with fail
      refine HAD.out.mono ?_
      rintro r w5 ⟨rfl, A3, c3, vs3, hP5, _, _, _⟩
      clear HAD mk
      by_cases hfit : u + N ≤ m
      · have f1 : (u : Int) + (N : Int) ≤ (m : Int) := by omega
        have hok := calm_ok (b := l) HP.out.fit HS.out.1 HS.out.2.1 HS.out.2.2.1 (by rw [HLZ.out]; omega) (by rw [HLZ.out]; omega) (by rw [HLZ.out, HNN.out, HS.out.2.2.2.1, HS.out.2.2.2.2.1]; omega)
        have haj := addJ_zero hok.1
        rw [haj] at hP5
        rw [hok.1]
        have HR5 : Hid (Rnd w0 w5 x w0.heap.size w1.heap.size q m (u + N) (k + 1)) := Lib.hid ⟨_, _, _, _, _, hP5, hok.2.1, hok.2.2, HS.out.2.2.1, HS.out.2.2.2.1, by show j.used + needN l.length = _; rw [HLZ.out, HNN.out, HS.out.2.2.2.2.1], by show (j.l ++ [l]).length = _; rw [List.length_append, HS.out.2.2.2.2.2]; rfl⟩
        clear hok haj hP5 hfit
        obtain ⟨A5, c5, vs5, j5, d5, hP6, h1, h2, h3, h4, h5, h6⟩ := HR5.out.some
        have HU := Lib.hid (used_any w5 x _ hP6.cells.2)
        have HR := Lib.hid (pair_records hP6)
        unfold RecE at HR
        rw [h5] at HU
        rw [h6] at HR
        clear hP6 h1 h2 h3 h4 h5 h6 HP HS
        have n1 : ((N : Int) != (N : Int)) = false := by simp
        go_wp2_with (first
          | (go_at_call 34; (with_reducible refine (HND.out _).mono ?_); rintro r w4 ⟨rfl, hw⟩; rw [hw]; clear hw w4)
          | (go_at_call 35; (with_reducible refine HU.out.mono ?_); rintro r w4 ⟨rfl, hw⟩; rw [hw]; clear hw w4)
          | (go_at_call 31; (with_reducible refine HR.out.mono ?_); rintro r w6 ⟨A6, c6, u6, rfl, _, k6⟩))
        refine ⟨⟨i + 1, u + N, k + 1, by go_num, by go_num, by go_num, by omega, by omega, by omega, by have := need_pos' hz2 HNN.out; omega, ?_⟩, by simp [intOf]; omega⟩
        obtain ⟨A7, c7, vs7, j7, d7, h0, h1⟩ := HR5.out.some
        exact ⟨A7, c7, vs7, j7, d7, h0.later k6, h1⟩
      · have f1 : ¬ (u : Int) + (N : Int) ≤ (m : Int) := by omega
        have hno := calm_full (d := d) (j := j) (b := l) HS.out.1 HS.out.2.2.1 (by rw [HLZ.out]; omega) (by rw [HLZ.out]; omega) (by rw [HLZ.out, HNN.out, HS.out.2.2.2.1, HS.out.2.2.2.2.1]; omega)
        rw [hno.2.1, hno.2.2] at hP5
        rw [hno.1]
        have HU := Lib.hid (used_any w5 x _ hP5.cells.2)
        have HR := Lib.hid (pair_records hP5)
        unfold RecE at HR
        rw [HS.out.2.2.2.2.1] at HU
        rw [HS.out.2.2.2.2.2] at HR
        have HP5 := Lib.hid hP5
        have n1 : ((N : Int) != (N : Int)) = false := by simp
        clear hno hP5 hfit HP
        go_wp2_with (first
          | (go_at_call 34; (with_reducible refine (HND.out _).mono ?_); rintro r w4 ⟨rfl, hw⟩; rw [hw]; clear hw w4)
          | (go_at_call 35; (with_reducible refine HU.out.mono ?_); rintro r w4 ⟨rfl, hw⟩; rw [hw]; clear hw w4)
          | (go_at_call 31; (with_reducible refine HR.out.mono ?_); rintro r w6 ⟨A6, c6, u6, rfl, _, k6⟩))
        refine ⟨⟨i + 1, u, k, by go_num, rfl, rfl, by omega, by omega, by omega, by omega, A3, c3, vs3, j, d, HP5.out.later k6, HS.out⟩, by simp [intOf]; omega⟩
    · have HNZ := Lib.hid (fun u => need_any 0 u (by omega))
      have HAZ : Hid (∀ u, Below wr.heap.size wr u → Calls Try.prog 26 #[.pointer (some ⟨x, 0, none⟩), .slice none 0 0] u (PairE w0 u x w0.heap.size w1.heap.size q A2 vs j d [])) := Lib.hid (fun u hu => pair_add (cb := 0) (HP.out.later hu) (By.Bys.nil _ _ _) (Nat.le_refl 0) (by omega) (fun a ha => by cases ha) (Nat.zero_le _))
      have HE : Hid (addE d j [] = 2) := Lib.hid (by
        unfold addE Jr.stopE
        rw [HS.out.1, HS.out.2.2.1]
        rfl)
      have HZ := Lib.hid (HAZ.out wr (Below.refl _ _))
      by_cases hin : i < n
      case' pos =>
        have i1 : (i : Int) < (n : Int) := by omega
        have i2 : ¬ (i : Int) < 30 := by omega
        have i3 : decide (i < n) = true := by simp; omega
      case' neg =>
        have i1 : ¬ (i : Int) < (n : Int) := by omega
        have i3 : decide (i < n) = false := by simp; omega
      all_goals
        clear hin hlt
        go_wp2_with (first
          | (go_at_call 26; (with_reducible refine HZ.out.mono ?_); rintro r w5 ⟨rfl, A3, c3, vs3, hP5, _, _, _⟩; rw [HE.out])
          | (go_at_call 34; (with_reducible refine (HNZ.out _).mono ?_); rintro r w4 ⟨rfl, hw⟩; rw [hw]; clear hw w4))
        all_goals (go_ret; exact ⟨rfl, hP5.below⟩)

set_option maxRecDepth 100000 in
theorem lifted (os : Os) (started : os.Started) (H : Type) (enc : TypeId × Value → H) :
    ReturnsInHanded {} Try.checked os 6 .any (Rows.journalNeedsSpec.pre6 enc Try.prog Try.f6 Rows.journalNeedsRow.domain false) (Rows.journalNeedsSpec.post enc Try.prog Try.f6 false true false false) := by
  refine returnsInHanded_of_change (C := Try.checked) own started (by kernel_rfl) Try.func6
    (ChangeSpec.witness6 (enc := enc) (C := Try.checked) false ⟨#[], #[.int .i64 0, .slice none 0 0], []⟩ 8 (by kernel_rfl) (by kernel_rfl) (by kernel_rfl) (by kernel_rfl)) ?_
  intro W base args ds gs before hval0 hW hcnd _
  have hval : ∀ (j : Nat) t v, Try.f6.params[j]? = some t → args[j]? = some v → Value.okWide Try.prog W .any base t v := hval0
  have hW' := hW
  obtain ⟨p, q, hA0, hV, rfl, hfz, hnd⟩ := hW
  have hA : DataW.TrodAll enc Try.prog W 0 (fun _ => true) true Try.f6.params.toList args.toList ds p := hA0
  rw [Try.params6] at hA hval
  obtain ⟨v0, vs0, d0, ds0, p0, q0, hargs, rfl, rfl, h0, r0⟩ := trodAll_cons hA
  obtain ⟨v1, vs1, d1, ds1, p1, q1, rfl, rfl, rfl, h1, r1⟩ := trodAll_cons r0
  obtain ⟨rfl, rfl, rfl⟩ := trodAll_nil r1
  obtain rfl : args = #[v0, v1] := by cases args; simp_all
  obtain ⟨a0, rfl, _, _, w0⟩ := open_int Try.underlying3 (hval 0 3 v0 rfl rfl) h0
  obtain ⟨A1, n1, c1, f1, rfl, x1, y1, z1, u1⟩ := Hk.open_ints_at Try.underlying39 Try.underlying3 (by kernel_rfl) (hval 1 39 v1 rfl rfl) h1
  refine (walk W a0 w0 A1 n1 c1 f1 x1 y1 z1).mono fun e W' ⟨he, hb⟩ => ?_
  subst he
  exact ⟨_, rfl, Hk.closeLaw (tb := 4) (by kernel_rfl) (by kernel_rfl) rfl rfl rfl Try.underlying4 hW' hb⟩

theorem over : Rows.journalNeedsRow.holds Try.pinned (OpenSpec.ofChange Rows.journalNeedsSpec) :=
  OpenClaim.holds_of_wide 6 Try.f6 rfl rfl rfl rfl rfl rfl rfl ⟨rfl, rfl, rfl, rfl, rfl⟩ rfl rfl rfl rfl rfl (by kernel_rfl) Try.func6 (by kernel_rfl)
    (of_decide_eq_true (by kernel_rfl)) (by unfold Func.isWrapper; first | (rw [if_pos (by decide +kernel)]; kernel_rfl) | (rw [if_neg (by decide +kernel)]; exact ⟨rfl, rfl⟩))
    (fun os started H enc _ => lifted os started H enc)

/-- The statement. -/
theorem proved : Rows.JournalNeedsSaid :=
  over
end Go.Proofs.Ytibadhoabobmpaa.journalNeeds
