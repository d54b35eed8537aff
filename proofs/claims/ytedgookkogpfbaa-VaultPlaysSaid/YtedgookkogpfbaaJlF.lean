/- The landed journal: Add. -/
import Derived.Test.YtedgookkogpfbaaJlE
set_option maxRecDepth 100000
namespace Go.Proofs.Ytedgookkogpfbaa.Jl
open Go.ChangeShapes Go.WideShapes Go.ChangeAt Go.RowKit
open Qu (Blk)
open Mv (Only Fresh)
open By (Own8 Bys cellsB cellsB_length)
open Dk (DS)
open Dd (Lay At Tidy)
open Lf (own_lower own_far)
open Jr (JS Recd JHas needN need_le own_own_ne ownBlock_any blk_blk_ne newE blankJ openJ stopE addE addDS addJ doneJ)
set_option linter.unusedVariables false

/-- What Add answers and leaves: the disk, the journal; of the old blocks these two's alone have turned; the new record lies in new memory. -/
def AddE (w : World) (B B' x : Nat) (q : Dd.Pl) (A : Option Addr) (vs : List Value) (j : JS) (d : DS) (b : List UInt8) (e : Ending) (w' : World) : Prop :=
  e = .returned (.int .i64 (addE d j b)) ∧ At w' B' q (addDS d j b) ∧ ∃ A' c' us, JAt w' B x q.x A' c' us (addJ d j b) ∧ Only w w' (fun i => q.has i ∨ JHas x A i) ∧ Fresh w (Value.slice A 0 0).ownBlock (Value.slice A' 0 0).ownBlock ∧ (us = vs ∨ ∃ v, us = vs ++ [v] ∧ Own8 w' w.heap.size v b)

section
variable {w w' : World} {B B' x c : Nat} {q : Dd.Pl} {A : Option Addr} {vs : List Value} {j : JS} {d : DS} {b : List UInt8}

theorem at_only {S : Nat → Prop} (h : At w B q d) (k : Only w w' S) (hs : ∀ i, q.has i → ¬ S i) : At w' B q d := ⟨h.lay.only k hs, h.tidy⟩

theorem stop_keep (hJ : JAt w B x q.x A c vs j) (hD : At w B' q d) (hs : stopE d j b ≠ 0) (h9 : stopE d j b ≠ 9) (hb : Below w.heap.size w w') : AddE w B B' x q A vs j d b (.returned (.int .i64 (stopE d j b))) w' := by
  have e1 : addE d j b = stopE d j b := by unfold addE; rw [if_pos hs]
  have e2 : addDS d j b = d := by unfold addDS; rw [if_pos hs]
  have e3 : addJ d j b = j := by unfold addJ; rw [e1, if_neg h9, if_pos hs]
  unfold AddE
  rw [e1, e2, e3]
  exact ⟨rfl, ⟨hD.lay.below hb, hD.tidy⟩, A, c, vs, hJ.below hb, Mv.Only.ofBelow hb _, .inl rfl, .inl rfl⟩

theorem stop_die (hJ : JAt w B x q.x A c vs j) (hD : At w B' q d) (h9 : stopE d j b = 9) : AddE w B B' x q A vs j d b (.returned (.int .i64 9)) (w.setCell ⟨x, 7, none⟩ (.bool true)) := by
  have e1 : addE d j b = 9 := by unfold addE; rw [h9, if_pos (by decide)]
  have e2 : addDS d j b = d := by unfold addDS; rw [if_pos (by omega)]
  have e3 : addJ d j b = { j with dead := true } := by unfold addJ; rw [e1, if_pos rfl]
  unfold AddE
  rw [e1, e2, e3]
  exact ⟨rfl, at_only hD hJ.die.2 (hJ.apart hD.lay), A, c, vs, hJ.die.1, hJ.die.2.mono (fun i _ h => .inr h), .inl rfl, .inl rfl⟩

/-- Power went while it was written. -/
theorem done_die {W : World} (hs : stopE d j b = 0) (hE : doneE d j b = 9) (hJ : JAt W B x q.x A c vs j) (hD : At W B' q (doneJ d j b).1) (hO : Only w W q.has) : AddE w B B' x q A vs j d b (.returned (.int .i64 9)) (W.setCell ⟨x, 7, none⟩ (.bool true)) := by
  have h2 : (doneJ d j b).2 = false := by
    unfold doneE at hE
    cases h : (doneJ d j b).2 with
    | false => rfl
    | true => rw [h] at hE; exact absurd hE (by decide)
  have e1 : addE d j b = 9 := by unfold addE; rw [if_neg (by omega), h2]; rfl
  have e2 : addDS d j b = (doneJ d j b).1 := by unfold addDS; rw [if_neg (by omega)]
  have e3 : addJ d j b = { j with dead := true } := by unfold addJ; rw [e1, if_pos rfl]
  unfold AddE
  rw [e1, e2, e3]
  exact ⟨rfl, at_only hD hJ.die.2 (hJ.apart hD.lay), A, c, vs, hJ.die.1, (hO.mono (fun i _ h => .inl h)).trans hJ.die.2 (fun i _ h => .inr h), .inl rfl, .inl rfl⟩

/-- The record is there. -/
theorem done_ok {W W3 : World} {v : Value} (hs : stopE d j b = 0) (hE : doneE d j b = 0) (hdead : j.dead = false) (hD : At W B' q (doneJ d j b).1) (hO : Only w W q.has) (hJ : JAt W B x q.x A c vs j) (hv : Own8 W w.heap.size v b) (hP : PutE W B x q.x A vs v (moreJ j b j.epoch) W3) : AddE w B B' x q A vs j d b (.returned (.int .i64 0)) W3 := by
  have h2 : (doneJ d j b).2 = true := by
    unfold doneE at hE
    cases h : (doneJ d j b).2 with
    | true => rfl
    | false => rw [h] at hE; exact absurd hE (by decide)
  have e1 : addE d j b = 0 := by unfold addE; rw [if_neg (by omega), h2]; rfl
  have e2 : addDS d j b = (doneJ d j b).1 := by unfold addDS; rw [if_neg (by omega)]
  have e3 : addJ d j b = moreJ j b j.epoch := by unfold addJ moreJ; rw [e1, if_neg (by decide), if_neg (by decide)]
  obtain ⟨A3, c3, hJ3, ho3, hf3⟩ := hP
  unfold AddE
  rw [e1, e2, e3]
  refine ⟨rfl, at_only hD ho3 (hJ.apart hD.lay), A3, c3, _, hJ3, (hO.mono (fun i _ h => .inl h)).trans ho3 (fun i _ h => .inr h), ?_, .inr ⟨v, rfl, ?_⟩⟩
  · rcases hf3 with h | ⟨k, h, hk⟩
    · exact .inl h
    · exact .inr ⟨k, h, Nat.le_trans hO.size hk⟩
  · exact Mv.own_only hv ho3 fun g hg hs => by
      rcases hs with rfl | hs
      · exact Mv.own_blk_ne hv hJ.box (by decide) g hg rfl
      · exact own_own_ne hv hJ.rows.own (by decide) g hg (by rw [← hs]; exact ownBlock_any _ _ _ _ _)
end

theorem putE_cell {w w' : World} {B x y : Nat} {A : Option Addr} {vs : List Value} {v : Value} {j : JS} {b : List UInt8} {e : Nat} (h : PutE w B x y A vs v (moreJ j b e) w') : w'.cell? ⟨x, 3, none⟩ = some (.int .u32 (j.epoch : Int)) := by
  obtain ⟨A3, c3, hJ3, _, _⟩ := h
  exact hJ3.box.cell 3

set_option maxHeartbeats 4000000 in
theorem add_any (w : World) (B B' x c cb : Nat) (A Ab : Option Addr) (vs : List Value) (j : JS) (q : Dd.Pl) (d : DS) (b : List UInt8) (hJ : JAt w B x q.x A c vs j) (hD : At w B' q d) (hu : j.used ≤ j.n) (hn : j.n ≤ 1000000) (hb : Bys w w.heap.size Ab b.length b) (hcb : b.length ≤ cb) (hcb2 : cb ≤ 9223372036854775807)
    (hfar : ∀ a, Ab = some a → ¬ q.has a.block) (hlen : b.length ≤ 1000000000000) (hl : j.l.length ≤ 1000000) (he1 : 1 ≤ j.epoch) (he2 : j.epoch < 2 ^ 32) (hdn : d.n ≤ 20000) (hroom : j.o + j.n ≤ d.n) (hda : d.armed ≤ 9223372036854775807) :
    Calls Try.prog 53 #[.pointer (some ⟨x, 0, none⟩), .slice Ab b.length cb] w (AddE w B B' x q A vs j d b) := by
  have HJ := Lib.hid hJ
  have HD := Lib.hid hD
  have e0 := hJ.box.cell 0
  have e2 := hJ.box.cell 2
  have e6 := hJ.box.cell 6
  have e7 := hJ.box.cell 7
  have f7 := hJ.box.frozen 7
  have d3 := hD.lay.box.cell 3
  simp at e0 e2 e6 e7 d3
  have hst : stopE d j b = if j.dead || d.off then 9 else if b.length < 1 ∨ 400000 < b.length then 2 else if j.n - j.used < needN b.length then 6 else 0 := rfl
  have b0 : (b.length : Int) ≤ 1000000000000 := by omega
  have HDo := Lib.hid (Dd.down_eq w q.x d.off d3)
  cases hd : j.dead with
  | true =>
    rw [hd] at e7 hst
    rw [Bool.true_or, if_pos rfl] at hst
    have HS := Lib.hid hst
    clear hst hd hb hfar hJ hD
    go_enter Try.func53, Try.ntmps53
    go_wp2
    go_ret
    exact stop_die HJ.out HD.out HS.out
  | false =>
    rw [hd] at e7 hst
    rw [Bool.false_or] at hst
    cases ho : d.off with
    | true =>
      rw [ho] at d3 hst HDo
      rw [if_pos rfl] at hst
      have HS := Lib.hid hst
      clear hst hd ho hb hfar hJ hD
      go_enter Try.func53, Try.ntmps53
      go_wp2_with (first | (refine HDo.out.mono ?_; rintro e w2 ⟨rfl, rfl⟩))
      go_ret
      exact stop_die HJ.out HD.out HS.out
    | false =>
      rw [ho] at d3 hst HDo
      rw [if_neg (by simp)] at hst
      have HDF := Lib.hid (And.intro hd ho)
      clear hd ho
      by_cases h1 : b.length < 1
      · rw [if_pos (.inl h1)] at hst
        have HS := Lib.hid hst
        have b1 : (b.length : Int) < 1 := by omega
        have b2 : decide (b.length < 1) = true := by simpa using h1
        clear hst h1 hb hfar hJ hD
        generalize hbl : b.length = bl at *
        have HBL := Lib.hid hbl
        clear hbl
        go_enter Try.func53, Try.ntmps53
        go_wp2_with (first | (refine HDo.out.mono ?_; rintro e w2 ⟨rfl, rfl⟩))
        go_ret
        have h := stop_keep HJ.out HD.out (show stopE d j b ≠ 0 by rw [HS.out]; decide) (by rw [HS.out]; decide) (Below.refl _ _)
        rw [HS.out] at h
        exact h
      · by_cases h2 : 400000 < b.length
        · rw [if_pos (.inr h2)] at hst
          have HS := Lib.hid hst
          have b1 : ¬ (b.length : Int) < 1 := by omega
          have b2 : decide (b.length < 1) = false := by simpa using h1
          have b3 : (400000 : Int) < (b.length : Int) := by omega
          have b4 : decide (400000 < b.length) = true := by simpa using h2
          clear hst h1 h2 hb hfar hJ hD
          generalize hbl : b.length = bl at *
          have HBL := Lib.hid hbl
          clear hbl
          go_enter Try.func53, Try.ntmps53
          go_wp2_with (first | (refine HDo.out.mono ?_; rintro e w2 ⟨rfl, rfl⟩))
          go_ret
          have h := stop_keep HJ.out HD.out (show stopE d j b ≠ 0 by rw [HS.out]; decide) (by rw [HS.out]; decide) (Below.refl _ _)
          rw [HS.out] at h
          exact h
        · rw [if_neg (by omega)] at hst
          have HN := need_any (b.length : Int) w.drew (by omega)
          rw [Int.toNat_natCast] at HN
          have hnl := need_le b.length
          have b1 : ¬ (b.length : Int) < 1 := by omega
          have b2 : decide (b.length < 1) = false := by simpa using h1
          have b3 : ¬ (400000 : Int) < (b.length : Int) := by omega
          have b4 : decide (400000 < b.length) = false := by simpa using h2
          have b6 : IntKind.i64.wrap ((j.n : Int) - (j.used : Int)) = (j.n : Int) - (j.used : Int) := IntWalk.i64_in _ (by omega)
          have HH := Lib.hid (And.intro hst (And.intro h1 h2))
          have HW := Lib.hid fun hnd => write_any w.drew B B' x c cb A Ab vs j q d b (hJ.below (Below.refl _ _).drew) ⟨hD.lay.below (Below.refl _ _).drew, hD.tidy⟩ hu hn (hb.below (Below.refl _ _).drew (Nat.le_refl _)) hcb hcb2 hfar ⟨by omega, by omega⟩ hnd hl he1 he2 hdn hroom hda
          have HB := Lib.hid (And.intro hb hfar)
          have HLS := Lib.hid (And.intro hl (And.intro hu hn))
          clear hst h1 h2 hb hfar hJ hD
          by_cases h3 : j.n - j.used < needN b.length
          · have HS : Hid (stopE d j b = 6) := Lib.hid (by rw [HH.out.1, if_pos h3])
            obtain ⟨nd, hnd⟩ : ∃ nd, needN b.length = nd := ⟨_, rfl⟩
            rw [hnd] at h3 HN hnl
            have HN := Lib.hid HN
            have b5 : (j.n : Int) - (j.used : Int) < (nd : Int) := by omega
            clear h3 hnd
            go_enter Try.func53, Try.ntmps53
            go_upto_region 8 with (first | (refine HDo.out.mono ?_; rintro e w2 ⟨rfl, rfl⟩))
            go_region_held3 (fun u => u.cell? ⟨x, 2, none⟩ = some (.int .i64 (j.n : Int)) ∧ u.cell? ⟨x, 6, none⟩ = some (.int .i64 (j.used : Int)))
              (first
                | exact ⟨e2, e6⟩)
              (first
                | (go_at_call 69; refine HN.out.mono ?_; rintro r w9 ⟨rfl, rfl⟩))
            unfold Exit.then
            dsimp only
            go_wp2_with fail
            go_ret
            have h := stop_keep HJ.out HD.out (show stopE d j b ≠ 0 by rw [HS.out]; decide) (by rw [HS.out]; decide) (Below.refl _ _).drew
            rw [HS.out] at h
            exact h
          · have HS : Hid (stopE d j b = 0) := Lib.hid (by rw [HH.out.1, if_neg h3])
            have HWR := Lib.hid (HW.out (by omega))
            obtain ⟨nd, hnd⟩ : ∃ nd, needN b.length = nd := ⟨_, rfl⟩
            rw [hnd] at h3 HN hnl
            have HN := Lib.hid HN
            have HND := Lib.hid (And.intro hnd h3)
            have b5 : ¬ (j.n : Int) - (j.used : Int) < (nd : Int) := by omega
            obtain ⟨E, hE⟩ : ∃ E, doneE d j b = E := ⟨_, rfl⟩
            have hE09 : E = 0 ∨ E = 9 := by
              rw [← hE]
              unfold doneE
              split
              · exact .inl rfl
              · exact .inr rfl
            rw [hE] at HWR
            have HE := Lib.hid hE
            clear h3 hnd hE
            go_enter Try.func53, Try.ntmps53
            go_upto_region 8 with (first | (refine HDo.out.mono ?_; rintro e w2 ⟨rfl, rfl⟩))
            go_region_held3 (fun u => u.cell? ⟨x, 2, none⟩ = some (.int .i64 (j.n : Int)) ∧ u.cell? ⟨x, 6, none⟩ = some (.int .i64 (j.used : Int)))
              (first
                | exact ⟨e2, e6⟩)
              (first
                | (go_at_call 69; refine HN.out.mono ?_; rintro r w9 ⟨rfl, rfl⟩))
            unfold Exit.then
            dsimp only
            go_wp2_with fail
            refine HWR.out.mono ?_
            rintro r w3 ⟨rfl, hD3, hO3⟩
            have hO : Only w w3 q.has := ((Mv.Only.refl w q.has).drew).trans hO3 (fun _ _ h => h)
            have hJ3 : JAt w3 B x q.x A c vs j := HJ.out.disk HD.out.lay hO
            have H3 := Lib.hid (And.intro hJ3 (And.intro hD3 hO))
            have e7' := hJ3.box.cell 7
            have f7' := hJ3.box.frozen 7
            have e3' := hJ3.box.cell 3
            simp at e7' e3'
            clear hO hJ3 hD3 hO3 e0 e2 e6 e7 f7 d3 b1 b2 b3 b4 b5 b6
            rcases hE09 with hE0 | hE9
            · subst hE0
              have hB3 : Bys w3 w3.heap.size Ab b.length b := ⟨HB.out.1.len, fun i z hz => by
                obtain ⟨bb, oo, h1, h2, h3⟩ := HB.out.1.cell i z hz
                exact ⟨bb, oo, h1, Nat.lt_of_lt_of_le h2 H3.out.2.2.size, (H3.out.2.2.cell h2 (HB.out.2 _ h1)).trans h3⟩⟩
              have hAb : Ab = none → b.length = 0 ∧ cb = 0 := fun h => by
                have hb1 := HH.out.2.1
                obtain ⟨z, hz⟩ : ∃ z, b[0]? = some z := ⟨_, List.getElem?_eq_getElem (by omega)⟩
                obtain ⟨bb, oo, h1, _⟩ := HB.out.1.cell 0 z hz
                rw [h] at h1
                cases h1
              have HCL := Lib.hid (By.clone_any Ab b.length cb w3.heap.size b w3.drew (hB3.below (Below.refl _ _).drew (Nat.le_refl _)) hAb hlen)
              clear hB3 hAb
              go_upto_region 14 with (fail)
              have HK3 : Hid (∀ u, Below w3.heap.size w3 u → u.cell? ⟨x, 3, none⟩ = some (.int .u32 (j.epoch : Int))) := Lib.hid (fun u hu => (H3.out.1.below hu).box.cell 3)
              have HPT : Hid (∀ (wq : World) (A2 : Option Addr) (c2 : Nat), Own8 wq w3.heap.size (.slice A2 b.length c2) b → Below w3.heap.size w3 wq → Calls Try.prog 71 #[.pointer (some ⟨x, 0, none⟩), .slice A2 b.length c2, .int .u32 (j.epoch : Int)] wq fun r w' => r = .returned (.tuple #[]) ∧ PutE wq B x q.x A vs (.slice A2 b.length c2) (moreJ j b j.epoch) w') := Lib.hid (fun wq A2 c2 h8 hb => by
                have hB : B ≤ w3.heap.size := by have := H3.out.1.base; have := H3.out.1.box.lt; omega
                have hn1 := HND.out
                exact put_any wq B x q.x c c2 j.epoch A A2 vs j b (H3.out.1.below hb) (own_lower h8 hB) HLS.out.1 (by have := HLS.out.2; omega) hlen he2)
              go_region_held3 (fun u => u.cell? ⟨x, 3, none⟩ = some (.int .u32 (j.epoch : Int)))
                (first
                  | exact e3'
                  | exact HK3.out _ (Qu.below_undrew kq)
                  | exact putE_cell hP)
                (first
                  | (go_at_call 72; refine HCL.out.mono ?_; rintro r wq ⟨A2, c2, rfl, hown, kq⟩)
                  | (go_at_call 71; refine (HPT.out wq A2 c2 hown (Qu.below_undrew kq)).mono ?_; rintro r wp ⟨rfl, hP⟩))
              all_goals
                unfold Exit.then
                dsimp only
                have hkq : Below w3.heap.size w3 wq := Qu.below_undrew kq
                have HFI := Lib.hid (done_ok HS.out HE.out HDF.out.1 ⟨H3.out.2.1.lay.below hkq, H3.out.2.1.tidy⟩ (H3.out.2.2.below hkq) (H3.out.1.below hkq) (own_lower (show Own8 wq w3.heap.size (.slice A2 b.length c2) b from hown) H3.out.2.2.size) hP)
                clear hkq hown kq hP e3' e7' f7'
                go_wp2_with fail
                go_ret
                exact HFI.out
            · subst hE9
              go_wp2_with fail
              go_ret
              exact done_die HS.out HE.out H3.out.1 H3.out.2.1 H3.out.2.2

end Go.Proofs.Ytedgookkogpfbaa.Jl
