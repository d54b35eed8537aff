/- R3, of layer 8: what Records told is new memory, and what was handed to Add is not kept: either may be written over, and the journal tells the same; for any list of records. No conditions. -/
import Derived.Test.YtibadhoabobmpaaJlS
import Derived.Test.YtibadhoabobmpaaBa
set_option maxRecDepth 100000
namespace Go.Proofs.Ytibadhoabobmpaa.journalOwn
open Go.ChangeShapes Go.WideShapes Go.ChangeAt Go.RowKit
set_option linter.unusedVariables false

theorem own : ownKnob Try.prog.godebug = none := by kernel_rfl

open Qu (Blk)
open Mv (Only Fresh)
open By (Own8 Bys cellsB cellsB_length)
open Dk (DS dsNew)
open Dd (Lay At Tidy Pl)
open Jr (JS newE blankJ openJ Fit Recs new_is Recd own_own_ne ownBlock_any addE addDS addJ addJ_zero info_bytes JHas)
open Hk (Rin)
open Jl

theorem outside (w : World) (A0 : Option Addr) (n0 c0 : Nat) (h0 : n0 ≤ 9223372036854775807) (h : ¬ n0 ≤ 10) :
    Calls Try.prog 8 #[.slice A0 n0 c0] w fun e w' => e = .returned (.bool true) ∧ Below w.heap.size w w' := by
  have HA := Lib.hid (awake_any w)
  have b0 : (10 : Int) < (n0 : Int) := by omega
  have c0' : decide (10 < n0) = true := by simp; omega
  clear h
  go_enter Try.func8, Try.ntmps8
  go_wp2_with (first | (refine HA.out.mono ?_; rintro r w1 ⟨rfl, hb⟩))
  go_ret
  exact ⟨rfl, hb⟩

/-- Bytes of the call's own are written over: a journal, its disk, and rows beside stay. -/
theorem trio_spoil {w w8 w9 : World} {x Bd Bj c c2 B5 : Nat} {q : Pl} {A A2 : Option Addr} {vs us : List Value} {j : JS} {d : DS} {l : List (List UInt8)} {y : List UInt8} {v5 : Value} (hP : Pair w w8 x Bd Bj q A c vs j d) (hR : Recd w8 w.heap.size A2 l.length c2 us l)
    (h5 : Own8 w8 B5 v5 y) (hB : w.heap.size ≤ B5) (hg : w8.grownBy w9 v5.ownBlock) (hv : ∀ (i : Nat) (v : Value), vs[i]? = some v → ∀ g, v.ownBlock = some g → v5.ownBlock ≠ some g) (hu : ∀ (i : Nat) (v : Value), us[i]? = some v → ∀ g, v.ownBlock = some g → v5.ownBlock ≠ some g) :
    Pair w w9 x Bd Bj q A c vs j d ∧ Recd w9 w.heap.size A2 l.length c2 us l := by
  have ho : Only w8 w9 (fun i => v5.ownBlock = some i) := Mv.Only.ofGrown hg fun k hk => hk
  have hq : ∀ i, q.has i → ¬ v5.ownBlock = some i := fun i hi hs => by
    obtain ⟨A5, c5, rfl⟩ := Mv.own_value h5
    cases A5 with
    | none => cases hs
    | some a =>
      have e : a.block = i := by injection hs
      have := own_far_disk h5 hP.disk.lay a rfl
      rw [e] at this
      exact this hi
  refine ⟨⟨hP.disk.only ho hq, ⟨hP.jat.base, Mv.blk_only hP.jat.box ho (fun hs => Mv.own_blk_ne h5 hP.jat.box (by decide) x hs rfl), ⟨Mv.own_only hP.jat.rows.own ho (fun g hg hs => own_own_ne h5 hP.jat.rows.own (by decide) g hs hg), hP.jat.rows.len, fun i u hu => ?_⟩⟩, hP.lo, hP.base, hP.below.trans (ho.toBelow hP.below.size fun k hk hs => by have := (World.ownsRow.lt h5 k hs).1; omega), hP.fit⟩, ⟨Mv.own_only hR.own ho (fun g hg hs => own_own_ne h5 hR.own (by decide) g hs hg), hR.len, fun i u hu' => ?_⟩⟩
  · obtain ⟨z, z1, z2⟩ := hP.jat.rows.each i u hu
    exact ⟨z, z1, Mv.own_only z2 ho fun g hg hs => hv i u hu g hg hs⟩
  · obtain ⟨z, z1, z2⟩ := hR.each i u hu'
    exact ⟨z, z1, Mv.own_only z2 ho fun g hg hs => hu i u hu' g hg hs⟩

theorem own_beside {w w' : World} {B Bd Bj x c : Nat} {q : Pl} {A : Option Addr} {vs : List Value} {j : JS} {d : DS} {z : List UInt8} {v : Value} (h : Own8 w B v z) (hD : Lay w Bd q d) (hJ : Jl.JAt w Bj x q.x A c vs j) (hO : Only w w' (fun i => q.has i ∨ JHas x A i)) : Own8 w' B v z :=
  Mv.own_only h hO fun g hg hs => by
    rcases hs with hs | hs | hs
    · rcases hs with hs | hs | hs | hs
      · exact Mv.own_blk_ne h hD.box (by decide) _ hg hs
      · exact own_own_ne h hD.now.2 (by decide) _ hg (by rw [hs]; rfl)
      · exact own_own_ne h hD.sure.2 (by decide) _ hg (by rw [hs]; rfl)
      · exact own_own_ne h hD.loose (by decide) _ hg (by rw [hs]; rfl)
    · exact Mv.own_blk_ne h hJ.box (by decide) _ hg hs
    · exact own_own_ne h hJ.rows.own (by decide) _ hg (by rw [← hs]; exact ownBlock_any _ _ _ _ _)

/-- What holds at each round. -/
structure Ring (w wr : World) (x Bd Bj : Nat) (q : Pl) (d : DS) (j : JS) (recs : Recs) (i : Nat) (A2 : Option Addr) (c2 : Nat) : Prop where
  trio : Trio w wr x Bd Bj q ⟨d, j, recs.map (·.1), i⟩ A2 c2
  calm : Jl.Calm d j recs 1 1
  len : recs.length = i

set_option maxRecDepth 100000 in
set_option maxHeartbeats 4000000 in
theorem walk (w : World) (A0 : Option Addr) (n0 c0 : Nat) (f0 : Nat → List UInt8) (hI0 : Rin w A0 n0 f0) (hn0 : n0 ≤ 9223372036854775807) :
    Calls Try.prog 8 #[.slice A0 n0 c0] w fun e w' => e = .returned (.bool true) ∧ Below w.heap.size w w' := by
  by_cases hin : n0 ≤ 10
  case neg => exact outside w A0 n0 c0 hn0 hin
  case pos =>
  have b0 : ¬ (10 : Int) < (n0 : Int) := by omega
  have c0' : decide (10 < n0) = false := by simp; omega
  have HI := Lib.hid hI0
  clear hI0
  go_enter Try.func8, Try.ntmps8
  go_wp2_with fail
  refine (Dd.new_ok w 90 (by omega) (by omega)).mono ?_
  rintro r w1 ⟨q, rfl, hq, hlo, hb⟩
  have HN := Lib.hid (pair_new hq hlo hb (by rw [dsNew_n]; omega) (by show 0 ≤ _; omega) 0 90 1 (by omega) (new_is (by rw [dsNew_n]; omega) (by omega) (by omega) rfl))
  clear hq hlo hb
  go_wp2_with fail
  refine HN.out.mono ?_
  rintro r w2 ⟨x, rfl, hP, k2⟩
  have HP := Lib.hid hP
  clear hP k2 HN
  go_wp2_with fail
  refine (awake_any w2).mono ?_
  rintro r w3 ⟨rfl, k3⟩
  have HG : Hid (Ring w w3 x w.heap.size w1.heap.size q (dsNew 90) (blankJ 0 90 1) [] 0 none 0) := Lib.hid ⟨⟨none, 0, [], [], HP.out.later k3, ⟨World.ownsRow_nil _ _ _ _, rfl, fun i v hv => by simp at hv⟩, fun g hg => by cases hg⟩, calm_new 1 1 (by omega), rfl⟩
  clear k3 HP b0 c0'
  go_wp2_with fail
  go_loopw [7, 8] (fun s7 s8 wr => ∃ (i : Nat) (d : DS) (j : JS) (recs : Recs) (A2 : Option Addr) (c2 : Nat), s8 = .int .i64 (i : Int) ∧ s7 = .slice A2 i c2 ∧ i ≤ n0 ∧ Ring w wr x w.heap.size w1.heap.size q d j recs i A2 c2) (fun _ s _ => n0 - (intOf s).toNat)
  case atStart => exact ⟨0, _, _, _, none, 0, rfl, rfl, by omega, HG.out⟩
  case round =>
    clear HG
    obtain ⟨i, d, j, recs, A2, c2, rfl, rfl, hi, hG⟩ := hrel
    have HG := Lib.hid hG
    have i0 : (0 : Int) ≤ (i : Int) := by omega
    by_cases hlt : i < n0
    · have i1 : (i : Int) < (n0 : Int) := by omega
      obtain ⟨A, c, vs, us, hP, hR, hne⟩ := hG.trio.some
      obtain ⟨L, hL⟩ : ∃ L, recs.map (·.1) = L := ⟨_, rfl⟩
      have hLl : L.length = i := by rw [← hL, List.length_map, hG.len]
      subst hLl
      have hP : Pair w wr x w.heap.size w1.heap.size q A c vs j d := hP
      have hR : Recd wr w.heap.size A2 L.length c2 us L := by have h : Recd wr w.heap.size A2 (recs.map (·.1)).length c2 us (recs.map (·.1)) := hR; rw [hL] at h; exact h
      have HL := Lib.hid hL
      have HP := Lib.hid (And.intro hP (And.intro hR hne))
      have HBW := Lib.hid hP.below
      obtain ⟨b, o, A', c', rfl, hbl, hc, hB, hA0, hle, hc63⟩ := (HI.out.below hP.below) L.length hlt
      clear hG hP hR hne hL
      generalize hz : f0 L.length = z at *
      obtain ⟨T, hT⟩ : ∃ T : Nat, min z.length 200 = T := ⟨_, rfl⟩
      have hT0 : (0 : Int) ≤ (T : Int) := by omega
      have hT1 : (if (z.length : Int) < 200 then (z.length : Int) else 200) = (T : Int) := by split <;> omega
      have hT2 : (if 200 < (z.length : Int) then 200 else (z.length : Int)) = (T : Int) := by split <;> omega
      have hT3 : (T : Int) ≤ (c' : Int) := by omega
      have hTz : T ≤ z.length := by omega
      obtain ⟨W1, hW1⟩ : ∃ W1, W1 = (wr.alloc (.cells #[.int .u8 7] 5)).drew := ⟨_, rfl⟩
      have HW1 : Hid (W1.cell? ⟨b, o + L.length, none⟩ = some (.slice A' z.length c') ∧ Below wr.heap.size wr W1 ∧ Bys W1 W1.heap.size A' T (z.take 200) ∧ (A' = none → T = 0 ∧ c' = 0) ∧ Own8 W1 wr.heap.size (.slice (some ⟨wr.heap.size, 0, none⟩) 1 1) [7] ∧ wr.heap.size ≤ W1.heap.size) := Lib.hid (by
        have hk : Below wr.heap.size wr W1 := by rw [hW1]; exact ((Below.refl _ _).alloc (Nat.le_refl _) _).drew
        refine ⟨(hk.cell (p := ⟨b, o + L.length, none⟩) hbl).trans hc, hk, ?_, fun h => by have := hA0 h; omega, ?_, hk.size⟩
        · have h3 := (hB.take hTz).below hk (Nat.le_refl _)
          have e : z.take T = z.take 200 := by
            rcases Nat.le_total z.length 200 with h | h
            · exact (List.take_of_length_le (show z.length ≤ T by omega)).trans (List.take_of_length_le h).symm
            · rw [show T = 200 by omega]
          rw [e] at h3
          exact h3.more hk.size
        · rw [hW1]
          exact one_row wr wr.heap.size (Nat.le_refl _) 7)
      have HK5 : Hid (∀ w5, W1.grownBy w5 (some wr.heap.size) → w5.cell? ⟨b, o + L.length, none⟩ = some (.slice A' z.length c') ∧ Below wr.heap.size wr w5) := Lib.hid (fun w5 hg => by
        have h2 := HW1.out.2.1.size
        have hk := HW1.out.2.1.grown hg h2 (fun g hg => by injection hg with hg; omega)
        exact ⟨(hk.cell (p := ⟨b, o + L.length, none⟩) hbl).trans hc, hk⟩)
      have HT2 : Hid ([(7 : UInt8)].length + T ≤ 1000000000000) := Lib.hid (by simp; omega)
      clear hB hA0 hle hT
      go_upto_region 11 with (fail)
      go_region_held3 (fun u => u.cell? ⟨b, o + L.length, none⟩ = some (.slice A' z.length c') ∧ Below wr.heap.size wr u)
        (first
          | exact ⟨hc, (Below.refl _ _).drew⟩
          | exact hW1 ▸ ⟨HW1.out.1, HW1.out.2.1⟩
          | exact HK5.out _ hgr5)
        (first
          | (rw [← hW1]; (with_reducible refine step_append_own (o := ⟨some 53, _, _, _, _, _⟩) rfl (.tmp 41) (.tmp 52) rfl wr.heap.size (.slice (some ⟨wr.heap.size, 0, none⟩) 1 1) [7] ?_ HW1.out.2.2.2.2.1 W1.heap.size A' T c' (z.take 200) ?_ HW1.out.2.2.1 HW1.out.2.2.2.1 HT2.out HW1.out.2.2.2.2.2 ?_); (next => rfl); (next => rfl); intro v5 w5 hown5 hgr5 hfr5))
      all_goals
        unfold Exit.then
        dsimp only
        have k5 : Below wr.heap.size wr w5 := (HK5.out _ hgr5).2
        obtain ⟨y, hy⟩ : ∃ y : List UInt8, 7 :: z.take 200 = y := ⟨_, rfl⟩
        have hy2 : 1 ≤ y.length ∧ y.length ≤ 201 := by rw [← hy]; simp; omega
        have hown : Own8 w5 wr.heap.size v5 y := by rw [← hy]; exact hown5
        obtain ⟨A5, c5, rfl⟩ := Mv.own_value hown
        have hcap := Mv.own_cap hown
        have H5 := Lib.hid (And.intro hown k5)
        have HY := Lib.hid (And.intro hy2 hcap)
        have y1 : (y.length : Int) ≤ 201 := by omega
        clear hown5 hgr5 hfr5 k5 hy hown HK5 HW1 hW1 hc hz hy2 hcap
        obtain ⟨j0, hj0, hy0, hy1, hy3⟩ := info_parts By.info_u8
        obtain ⟨i0', hi0, hz0, hz1, hz2⟩ := info_parts info_bytes
        have HP6 : Hid (∀ (w6 : World) (A6 : Option Addr) (c6 : Nat), Own8 w6 w5.heap.size (.slice A6 y.length c6) y → w5.grownBy w6 none → Below wr.heap.size wr w6 ∧ Pair w w6 x w.heap.size w1.heap.size q A c vs j d ∧ Recd w6 w.heap.size A2 L.length c2 us L ∧ Own8 w6 wr.heap.size (.slice A5 y.length c5) y ∧
            (L.length + 1 ≤ maxLen ∧ (L.length + 1) * 24 ≤ 140737488355328 ∧ w.heap.size ≤ (w6.alloc (.cells #[.slice A6 y.length c6] 38)).heap.size ∧ (w6.alloc (.cells #[.slice A6 y.length c6] 38)).heap.size = w6.heap.size + 1) ∧ w5.heap.size ≤ w6.heap.size) := Lib.hid (fun w6 A6 c6 h6 hg => by
          have hb6 : Below w5.heap.size w5 w6 := (Below.refl w5.heap.size w5).grown hg (Nat.le_refl _) (fun g hg => by cases hg)
          have hk6 : Below wr.heap.size wr w6 := H5.out.2.trans (hb6.mono H5.out.2.size)
          have := HBW.out.size
          have := hk6.size
          exact ⟨hk6, HP.out.1.later hk6, HP.out.2.1.only (Mv.Only.ofBelow hk6 fun _ => False) (fun _ _ h => h), By.Own8.below H5.out.1 hb6, ⟨by unfold maxLen; omega, by omega, by simp; omega, by simp⟩, hb6.size⟩)
        go_upto_region 13 with (first
          | (at_builtin; refine By.wpList_append_bytes w5 rfl (.const (.slice none 0 0)) (.tmp 55) 38 rfl w5.heap.size 5 j0 Try.underlying38 hj0 hy0 hy1 hy3 (.slice none 0 0) 0 [] rfl (World.ownsRow_nil _ _ _ _) w5.heap.size A5 y.length c5 y rfl (By.Own8.bys H5.out.1) (Mv.own_none H5.out.1) (by omega) (Nat.le_refl _) ?_; intro v6 w6 hown6 hgr6 hfr6; rw [Nat.zero_add, List.nil_append] at hown6; obtain ⟨A6, c6, rfl⟩ := Mv.own_value hown6; have H6 := Lib.hid (And.intro (show Own8 w6 w5.heap.size (.slice A6 y.length c6) y from hown6) (HP6.out w6 A6 c6 hown6 hgr6)); clear hown6 hgr6 hfr6; have hone : ∀ u ∈ [Value.slice A6 y.length c6], u.oneCell' = true := by simp [Value.oneCell'])
          | (at_builtin; refine wpList_append_lies _ rfl _ _ 51 rfl w.heap.size 38 i0' _ 1 24 Try.underlying51 hi0 hz0 hz1 hz2 rfl (by omega) (.slice A2 L.length c2) L.length us rfl (H6.out.2.2.2.1.own.alloc _) ⟨w6.heap.size, 0, none⟩ 1 1 [.slice A6 y.length c6] rfl rfl (World.news_of_block (cs := #[.slice A6 y.length c6]) (t := 38) (fr := (0, 0)) (heap_alloc_new w6 _)) hone (by omega) H6.out.2.2.2.2.2.1.1 H6.out.2.2.2.2.2.1.2.1 H6.out.2.2.2.2.2.1.2.2.1 (w6.heap.size + 1) H6.out.2.2.2.2.2.1.2.2.2 ?_; intro g cp w7 hown hgrow hat hlt7))
        have ho7 := (Recd.push H6.out.2.2.2.1 (Lf.own_lower H6.out.1 (by have := HBW.out.size; have := H5.out.2.size; omega)) hown hgrow).2
        obtain ⟨hP7, hR7, hne7, hy7⟩ := trio_push (ob := .cells #[.slice A6 y.length c6] 38) H6.out.2.2.1 H6.out.2.2.2.1 HP.out.2.2 (Lf.own_lower H6.out.1 (by have := HBW.out.size; have := H5.out.2.size; omega)) hown hgrow (hat.imp id (fun h => by omega))
        have h57 : Own8 w7 wr.heap.size (.slice A5 y.length c5) y := Mv.own_only H6.out.2.2.2.2.1 ho7 fun g hg hs => own_own_ne H6.out.2.2.2.2.1 H6.out.2.2.2.1.own (by decide) g hg (by rw [← hs]; exact ownBlock_any _ _ _ _ _)
        have HA := Lib.hid (pair_add (b := y) (cb := c5) hP7 (By.Own8.bys h57) HY.out.2.1 HY.out.2.2 (own_far_disk h57 hP7.disk.lay) (by omega))
        have H7 := Lib.hid (And.intro hP7 (And.intro hR7 (And.intro hne7 (And.intro h57 ho7.size))))
        have HCA := Lib.hid (HG.out.calm.add (b := y) (by omega) (by omega) HY.out.1.1 HY.out.1.2 (by rw [HG.out.len]; omega))
        clear hP7 hR7 hne7 hy7 h57 ho7 hown hgrow hat hlt7 hone
        go_wp2_with fail
        refine HA.out.mono ?_
        rintro r w8 ⟨rfl, A8, c8, vs8, hP8, hO8, hF8, hV8⟩
        have hR8 := Recd.beside H7.out.2.1 H7.out.1.disk.lay H7.out.1.jat hO8 H7.out.2.2.1
        have h58 := own_beside H7.out.2.2.2.1 H7.out.1.disk.lay H7.out.1.jat hO8
        have hne8 : ∀ k, (Value.slice (some ⟨g, 0, none⟩) 0 0).ownBlock = some k → (Value.slice A8 0 0).ownBlock ≠ some k := fun k hk hk' => by
          rcases hF8 with hF | ⟨k2, hF, hk2⟩
          · exact H7.out.2.2.1 k hk (by rw [← hF]; exact hk')
          · rw [hF] at hk'
            injection hk' with hk'
            have := (H7.out.2.1.own.lt k (by rw [← hk]; exact ownBlock_any _ _ _ _ _)).2
            omega
        have hu8 : ∀ (i : Nat) (v : Value), (us ++ [Value.slice A6 y.length c6])[i]? = some v → ∀ g, v.ownBlock = some g → (Value.slice A5 y.length c5).ownBlock ≠ some g := fun i v hv g hg hg5 => by
          have q5 := World.ownsRow.lt H5.out.1 g hg5
          rcases List.mem_append.1 (List.mem_of_getElem? hv) with hm | hm
          · obtain ⟨k, hk⟩ := List.getElem?_of_mem hm
            obtain ⟨z', _, z2⟩ := HP.out.2.1.each k v hk
            have := (World.ownsRow.lt z2 g hg).2
            omega
          · have e : v = Value.slice A6 y.length c6 := by simpa using hm
            rw [e] at hg
            have := (World.ownsRow.lt H6.out.1 g hg).1
            omega
        have hv8 : ∀ (i : Nat) (v : Value), vs8[i]? = some v → ∀ g, v.ownBlock = some g → (Value.slice A5 y.length c5).ownBlock ≠ some g := fun i v hv g hg hg5 => by
          have q5 := World.ownsRow.lt H5.out.1 g hg5
          have old : v ∈ vs → False := fun hm => by
            obtain ⟨k, hk⟩ := List.getElem?_of_mem hm
            obtain ⟨z', _, z2⟩ := HP.out.1.jat.rows.each k v hk
            have := (World.ownsRow.lt z2 g hg).2
            omega
          rcases hV8 with hV | ⟨v', hV, h8⟩
          · rw [hV] at hv
            exact old (List.mem_of_getElem? hv)
          · rw [hV] at hv
            rcases List.mem_append.1 (List.mem_of_getElem? hv) with hm | hm
            · exact old hm
            · have e : v = v' := by simpa using hm
              rw [e] at hg
              have := (World.ownsRow.lt h8 g hg).1
              have := H7.out.2.2.2.2
              have := H6.out.2.2.2.2.2.2
              omega
        have HSP := Lib.hid (By.spoil_any w8 wr.heap.size y.length c5 A5 y h58 (by omega))
        have H8 := Lib.hid (And.intro hP8 (And.intro hR8 (And.intro h58 (And.intro hne8 (And.intro hu8 hv8)))))
        have e0 := HCA.out.1
        rw [e0]
        clear hP8 hR8 h58 hne8 hu8 hv8 hO8 hF8 hV8 e0 HA
        go_wp2_with fail
        refine HSP.out.mono ?_
        rintro r w9 ⟨rfl, hg9⟩
        obtain ⟨hP9, hR9⟩ := trio_spoil H8.out.1 H8.out.2.1 H8.out.2.2.1 (by have := HBW.out.size; omega) hg9 H8.out.2.2.2.2.2 H8.out.2.2.2.2.1
        have HR9 : Hid (Ring w w9 x w.heap.size w1.heap.size q (addDS d j y) (addJ d j y) (recs ++ [(y, 1)]) (L.length + 1) (some ⟨g, 0, none⟩) cp) := Lib.hid ⟨⟨A8, c8, vs8, us ++ [Value.slice A6 y.length c6], hP9, by
            show Recd w9 w.heap.size (some ⟨g, 0, none⟩) (List.map (fun r : List UInt8 × Nat => r.1) (recs ++ [(y, 1)])).length cp _ (List.map (fun r : List UInt8 × Nat => r.1) (recs ++ [(y, 1)]))
            rw [List.map_append, HL.out]
            exact hR9, H8.out.2.2.2.1⟩, HCA.out.2, by rw [List.length_append, HG.out.len]; rfl⟩
        clear hP9 hR9 hg9
        go_wp2_with fail
        go_roundw
        case rel => exact ⟨L.length + 1, _, _, _, some ⟨g, 0, none⟩, cp, by go_num, rfl, by omega, HR9.out⟩
        case measure => simp [intOf]; omega
    · obtain ⟨wo, hwo⟩ : ∃ wo : World, wo = wr := ⟨_, rfl⟩
      subst hwo
      have hin2 : i = n0 := by omega
      have i1 : ¬ (i : Int) < (n0 : Int) := by omega
      obtain ⟨A, c, vs, us, hP, hR, hne⟩ := hG.trio.some
      obtain ⟨L, hL⟩ : ∃ L, recs.map (·.1) = L := ⟨_, rfl⟩
      have hLl : L.length = i := by rw [← hL, List.length_map, hG.len]
      have hP : Pair w wo x w.heap.size w1.heap.size q A c vs j d := hP
      have hR : Recd wo w.heap.size A2 L.length c2 us L := by have h : Recd wo w.heap.size A2 (recs.map (·.1)).length c2 us (recs.map (·.1)) := hR; rw [hL] at h; exact h
      have hjl : j.l = L := by rw [hG.calm.l, hL]
      have HP := Lib.hid (And.intro hP hR)
      have hRE := pair_records hP
      rw [hjl] at hRE
      have HRE := Lib.hid hRE
      have hE201 : ∀ b ∈ L, b.length ≤ 1000000 := fun b hb => by
        have := hP.fit.each b (by rw [hjl]; exact hb)
        have hn := hG.calm.jn
        rw [hn] at this
        omega
      have HLJ := Lib.hid (And.intro hjl (And.intro hLl hE201))
      have l0 : (L.length : Int) ≤ 10 := by omega
      clear hP hR hne hG HG hL hRE hin2 hlt hjl hE201
      rw [← hLl] at i1 ⊢
      clear hLl
      go_wp2_with fail
      refine HRE.out.mono ?_
      rintro r w4 ⟨A4, c4, us4, rfl, hTo, k4⟩
      have HTo := Lib.hid (And.intro hTo k4)
      clear hTo k4 HRE
      go_wp2_with fail
      go_loopw [11] (fun s wx => ∃ k : Nat, s = .int .i64 (k : Int) ∧ k ≤ L.length ∧ Below wo.heap.size wo wx ∧ wx.ownsRow wo.heap.size 38 1 (.slice A4 L.length c4) L.length us4 ∧ ∀ (i : Nat) (v : Value), k ≤ i → us4[i]? = some v → ∃ z : List UInt8, z.length ≤ 1000000 ∧ Own8 wx wo.heap.size v z) (fun s _ => L.length - (intOf s).toNat)
      case atStart => exact ⟨0, rfl, by omega, HTo.out.2, HTo.out.1.rows.own, fun i v _ hv => by
        obtain ⟨z, z1, z2⟩ := HTo.out.1.rows.each i v hv
        exact ⟨z, HLJ.out.2.2 z (List.mem_of_getElem? z1), z2⟩⟩
      case round =>
        obtain ⟨k, rfl, hk, hb, hO, hE⟩ := hrel
        have k0 : (0 : Int) ≤ (k : Int) := by omega
        by_cases hlt : k < L.length
        · have k1 : (k : Int) < (L.length : Int) := by omega
          obtain ⟨g, cap, hv, hg, hgl⟩ := hO.form (by omega)
          injection hv with hA _ hc
          subst hA hc
          obtain ⟨v, hvk⟩ : ∃ v, us4[k]? = some v := ⟨_, List.getElem?_eq_getElem (by have := hO.1; omega)⟩
          obtain ⟨z, hz1, hz2⟩ := hE k v (Nat.le_refl _) hvk
          obtain ⟨A7, c7, rfl⟩ := Mv.own_value hz2
          have q1 := hO.cellAt k (by omega)
          rw [hvk] at q1
          have HSP := Lib.hid (By.spoil_any _ _ _ _ _ z hz2 (by omega))
          have HX := Lib.hid (And.intro hb (And.intro hO (And.intro hE (And.intro hz2 hvk))))
          clear hb hO hE hz2 hvk
          go_wp2_with fail
          refine HSP.out.mono ?_
          rintro r w7 ⟨rfl, hg7⟩
          obtain ⟨h1, h2, h3, h4, h5⟩ := HX.out
          have ho7 : Only _ w7 (fun i => (Value.slice A7 z.length c7).ownBlock = some i) := Mv.Only.ofGrown hg7 fun k hk => hk
          have HN : Hid (Below wo.heap.size wo w7 ∧ w7.ownsRow wo.heap.size 38 1 (.slice (some ⟨g, 0, none⟩) L.length c4) L.length us4 ∧ ∀ (i : Nat) (v : Value), k + 1 ≤ i → us4[i]? = some v → ∃ z : List UInt8, z.length ≤ 1000000 ∧ Own8 w7 wo.heap.size v z) := Lib.hid ⟨h1.trans (ho7.toBelow h1.size fun i hi hs => by have := (World.ownsRow.lt h4 i hs).1; omega), Mv.own_only h2 ho7 (fun g hg hs => own_own_ne h4 h2 (by decide) g hs hg), fun i v hi hv => by
            obtain ⟨z', z1, z2⟩ := h3 i v (by omega) hv
            exact ⟨z', z1, Mv.own_only z2 ho7 fun g hg hs => HTo.out.1.dist k i _ v (by omega) h5 hv g hs hg⟩⟩
          clear h1 h2 h3 h4 h5 ho7 hg7 HX
          go_wp2_with fail
          go_roundw
          case rel => exact ⟨k + 1, by go_num, by omega, HN.out⟩
          case measure => simp [intOf]; omega
        · have k1 : ¬ (k : Int) < (L.length : Int) := by omega
          have hP2 := HP.out.1.later hb
          have hRE2 := pair_records hP2
          rw [HLJ.out.1] at hRE2
          have HRE2 := Lib.hid hRE2
          have HPX := Lib.hid (And.intro hP2 hb)
          clear hb hO hE hP2 hRE2
          go_wp2_with fail
          refine HRE2.out.mono ?_
          rintro r w8 ⟨A8, c8, us8, rfl, hT8, k8⟩
          have HRW : Hid (Calls Try.prog 32 #[.slice A8 L.length c8, .slice A2 L.length c2] w8 fun e w' => e = .returned (.bool true) ∧ Hl.Drawn w8 w') := Lib.hid (by
            have hr : Recd w8 w.heap.size A2 L.length c2 us L := HP.out.2.only (Mv.Only.ofBelow (HPX.out.2.trans (k8.mono HPX.out.2.size)) fun _ => False) (fun _ _ h => h)
            have h := Hr.rows_any A8 A2 L.length L.length c8 c2 L L w8.heap.size w8 (Recd.rws hT8.rows) (Recd.rws hr) (by unfold maxLen; omega) (by unfold maxLen; omega)
            rw [beq_self_eq_true] at h
            exact h)
          have K8 := Lib.hid k8
          clear hT8 k8
          go_wp2_with fail
          refine HRW.out.mono ?_
          rintro r w9 ⟨rfl, hDr⟩
          go_wp2_with fail
          go_ret
          exact ⟨rfl, (HPX.out.1.below.trans (K8.out.mono HPX.out.1.below.size)).trans (hDr.below _)⟩

set_option maxRecDepth 100000 in
theorem lifted (os : Os) (started : os.Started) (H : Type) (enc : TypeId × Value → H) :
    ReturnsInHanded {} Try.checked os 8 .any (Rows.journalOwnSpec.pre6 enc Try.prog Try.f8 Rows.journalOwnRow.domain false) (Rows.journalOwnSpec.post enc Try.prog Try.f8 false true false false) := by
  refine returnsInHanded_of_change (C := Try.checked) own started (by kernel_rfl) Try.func8
    (ChangeSpec.witness6 (enc := enc) (C := Try.checked) false ⟨#[], #[.slice none 0 0], []⟩ 8 (by kernel_rfl) (by kernel_rfl) (by kernel_rfl) (by kernel_rfl)) ?_
  intro W base args ds gs before hval0 hW hcnd _
  have hval : ∀ (j : Nat) t v, Try.f8.params[j]? = some t → args[j]? = some v → Value.okWide Try.prog W .any base t v := hval0
  have hW' := hW
  obtain ⟨p, q, hA0, hV, rfl, hfz, hnd⟩ := hW
  have hA : DataW.TrodAll enc Try.prog W 0 (fun _ => true) true Try.f8.params.toList args.toList ds p := hA0
  rw [Try.params8] at hA hval
  obtain ⟨v0, vs0, d0, ds0, p0, q0, hargs, rfl, rfl, h0, r0⟩ := trodAll_cons hA
  obtain ⟨rfl, rfl, rfl⟩ := trodAll_nil r0
  obtain rfl : args = #[v0] := by cases args; simp_all
  obtain ⟨A0, n0, c0, f0, rfl, x0, y0⟩ := Hk.open_rows_bytes (hval 0 51 v0 rfl rfl) h0
  refine (walk W A0 n0 c0 f0 x0 y0).mono fun e W' ⟨he, hb⟩ => ?_
  subst he
  exact ⟨_, rfl, Hk.closeLaw (tb := 4) (by kernel_rfl) (by kernel_rfl) rfl rfl rfl Try.underlying4 hW' hb⟩

theorem over : Rows.journalOwnRow.holds Try.pinned (OpenSpec.ofChange Rows.journalOwnSpec) :=
  OpenClaim.holds_of_wide 8 Try.f8 rfl rfl rfl rfl rfl rfl rfl ⟨rfl, rfl, rfl, rfl, rfl⟩ rfl rfl rfl rfl rfl (by kernel_rfl) Try.func8 (by kernel_rfl)
    (of_decide_eq_true (by kernel_rfl)) (by unfold Func.isWrapper; first | (rw [if_pos (by decide +kernel)]; kernel_rfl) | (rw [if_neg (by decide +kernel)]; exact ⟨rfl, rfl⟩))
    (fun os started H enc _ => lifted os started H enc)

/-- The statement. -/
theorem proved : Rows.JournalOwnSaid :=
  over
end Go.Proofs.Ytibadhoabobmpaa.journalOwn
