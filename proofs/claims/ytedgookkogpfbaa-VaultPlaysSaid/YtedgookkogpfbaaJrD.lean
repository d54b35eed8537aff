/- The document's journal: Add that writes nothing. -/
import Derived.Test.YtedgookkogpfbaaJrO
set_option maxRecDepth 100000
namespace Go.Proofs.Ytedgookkogpfbaa.Jr
open Go.ChangeShapes Go.WideShapes Go.ChangeAt Go.RowKit
open Qu (Blk)
open Mv (Only)
open By (Own8 Bys cellsB cellsB_length)
open Dk (DS RefAt)
set_option linter.unusedVariables false

theorem blk_blk_ne {w : World} {x x' t t' : Nat} {cs cs' : Array Value} (h : Blk w x t cs) (h' : Blk w x' t' cs') (hne : t ≠ t') : x ≠ x' := fun e => by
  subst e
  have e1 := h.here.symm.trans h'.here
  injection e1 with e1
  injection e1 with _ e2
  exact hne e2

/-- A journal's blocks are none of a disk's. -/
theorem JAt.apart {w : World} {B B' x y c : Nat} {A : Option Addr} {vs : List Value} {j : JS} {p : Dk.Place} {d : DS} (hJ : JAt w B x y A c vs j) (hD : RefAt w B' p d) : ∀ i, p.has i → ¬ JHas x A i := fun i hi hj => by
  have hb := hJ.box
  have hr := hJ.rows.own
  rcases hj with rfl | hj
  · rcases hi with hi | hi | hi | hi
    · exact blk_blk_ne hb hD.box (by decide) hi
    · exact Mv.own_blk_ne hD.now.2 hb (by decide) p.a rfl hi.symm
    · exact Mv.own_blk_ne hD.sure.2 hb (by decide) p.b rfl hi.symm
    · exact Mv.own_blk_ne hD.loose hb (by decide) p.c rfl hi.symm
  · have hj2 : (Value.slice A j.l.length c).ownBlock = some i := by rw [← hj]; exact ownBlock_any _ _ _ _ _
    rcases hi with hi | hi | hi | hi
    · exact Mv.own_blk_ne hr hD.box (by decide) i hj2 hi
    · exact own_own_ne hr hD.now.2 (by decide) i hj2 (by rw [hi]; rfl)
    · exact own_own_ne hr hD.sure.2 (by decide) i hj2 (by rw [hi]; rfl)
    · exact own_own_ne hr hD.loose (by decide) i hj2 (by rw [hi]; rfl)

/-- What a disk turns is none of it: a disk's blocks are of other types. -/
theorem JAt.disk {w w' : World} {B B' x y c : Nat} {A : Option Addr} {vs : List Value} {j : JS} {p : Dk.Place} {d : DS} (hJ : JAt w B x y A c vs j) (hD : RefAt w B' p d) (ho : Only w w' p.has) : JAt w' B x y A c vs j := by
  have hap : ∀ i, p.has i → i ≠ x ∧ (Value.slice A j.l.length c).ownBlock ≠ some i := fun i hi => by
    have hb := hJ.box
    have hr := hJ.rows.own
    rcases hi with hi | hi | hi | hi <;> subst hi
    · exact ⟨fun e => blk_blk_ne hb hD.box (by decide) e.symm, fun e => Mv.own_blk_ne hr hD.box (by decide) _ e rfl⟩
    · exact ⟨fun e => Mv.own_blk_ne hD.now.2 hb (by decide) p.a rfl e, fun e => own_own_ne hr hD.now.2 (by decide) _ e rfl⟩
    · exact ⟨fun e => Mv.own_blk_ne hD.sure.2 hb (by decide) p.b rfl e, fun e => own_own_ne hr hD.sure.2 (by decide) _ e rfl⟩
    · exact ⟨fun e => Mv.own_blk_ne hD.loose hb (by decide) p.c rfl e, fun e => own_own_ne hr hD.loose (by decide) _ e rfl⟩
  refine ⟨hJ.base, Mv.blk_only hJ.box ho fun h => (hap x h).1 rfl, Mv.own_only hJ.rows.own ho fun g hg hs => (hap g hs).2 hg, hJ.rows.len, fun i v hv => ?_⟩
  obtain ⟨z, z1, z2⟩ := hJ.rows.each i v hv
  refine ⟨z, z1, Mv.own_only z2 ho fun g hg hs => ?_⟩
  rcases hs with hs | hs | hs | hs <;> subst hs
  · exact Mv.own_blk_ne z2 hD.box (by decide) _ hg rfl
  · exact own_own_ne z2 hD.now.2 (by decide) _ hg rfl
  · exact own_own_ne z2 hD.sure.2 (by decide) _ hg rfl
  · exact own_own_ne z2 hD.loose (by decide) _ hg rfl

/-- An Add told that power is off. -/
theorem JAt.die {w : World} {B x y c : Nat} {A : Option Addr} {vs : List Value} {j : JS} (hJ : JAt w B x y A c vs j) : JAt (w.setCell ⟨x, 7, none⟩ (.bool true)) B x y A c vs { j with dead := true } ∧ Only w (w.setCell ⟨x, 7, none⟩ (.bool true)) (JHas x A) :=
  ⟨⟨hJ.base, hJ.box.put 7 (.bool true), hJ.rows.put hJ.box (by decide) (by decide)⟩, (Mv.Only.refl w _).put _ (fun _ => .inl rfl)⟩

set_option maxHeartbeats 2000000 in
theorem radd_stop (w : World) (B B' x c cb : Nat) (A Ab : Option Addr) (vs : List Value) (j : JS) (p : Dk.Place) (d : DS) (b : List UInt8) (hJ : JAt w B x p.x A c vs j) (hD : RefAt w B' p d) (hu : j.used ≤ j.n) (hn : j.n ≤ 1000000) (hb : b.length ≤ 1000000000000) (hs : stopE d j b ≠ 0) :
    Calls Try.prog 45 #[.pointer (some ⟨x, 0, none⟩), .slice Ab b.length cb] w fun e w' => e = .returned (.int .i64 (addE d j b)) ∧ JAt w' B x p.x A c vs (addJ d j b) ∧ RefAt w' B' p (addDS d j b) ∧ Only w w' (JHas x A) := by
  have HE : Hid (addE d j b = stopE d j b ∧ addDS d j b = d) := Lib.hid ⟨by unfold addE; rw [if_pos hs], by unfold addDS; rw [if_pos hs]⟩
  have HJA : Hid (addJ d j b = if stopE d j b = 9 then { j with dead := true } else j) := Lib.hid (by
    unfold addJ
    rw [HE.out.1]
    by_cases h9 : stopE d j b = 9
    · rw [if_pos h9, if_pos h9]
    · rw [if_neg h9, if_neg h9, if_pos hs])
  have HJ := Lib.hid hJ
  have HD := Lib.hid hD
  have HP := Lib.hid (hJ.apart hD)
  have e0 := hJ.box.cell 0
  have e2 := hJ.box.cell 2
  have e6 := hJ.box.cell 6
  have e7 := hJ.box.cell 7
  have f7 := hJ.box.frozen 7
  have d3 := hD.box.cell 3
  simp at e0 e2 e6 e7 d3
  have hst : stopE d j b = if j.dead || d.off then 9 else if b.length < 1 ∨ 400000 < b.length then 2 else if j.n - j.used < needN b.length then 6 else 0 := rfl
  have HDIE : Hid (JAt (w.setCell ⟨x, 7, none⟩ (.bool true)) B x p.x A c vs { j with dead := true } ∧ RefAt (w.setCell ⟨x, 7, none⟩ (.bool true)) B' p d ∧ Only w (w.setCell ⟨x, 7, none⟩ (.bool true)) (JHas x A)) := Lib.hid ⟨HJ.out.die.1, hD.only HJ.out.die.2 HP.out, HJ.out.die.2⟩
  have b0 : (b.length : Int) ≤ 1000000000000 := by omega
  clear hJ hD
  cases hd : j.dead with
  | true =>
    rw [hd] at e7 hst
    rw [Bool.true_or, if_pos rfl] at hst
    have HS := Lib.hid hst
    clear hs hst hd
    go_enter Try.func45, Try.ntmps45
    go_wp2
    go_ret
    refine ⟨by rw [HE.out.1, HS.out]; rfl, by rw [HJA.out, HS.out, if_pos rfl]; exact HDIE.out.1, by rw [HE.out.2]; exact HDIE.out.2.1, HDIE.out.2.2⟩
  | false =>
    rw [hd] at e7 hst
    rw [Bool.false_or] at hst
    cases ho : d.off with
    | true =>
      rw [ho] at d3 hst
      rw [if_pos rfl] at hst
      have HS := Lib.hid hst
      clear hs hst hd ho
      go_enter Try.func45, Try.ntmps45
      go_wp2
      go_ret
      refine ⟨by rw [HE.out.1, HS.out]; rfl, by rw [HJA.out, HS.out, if_pos rfl]; exact HDIE.out.1, by rw [HE.out.2]; exact HDIE.out.2.1, HDIE.out.2.2⟩
    | false =>
      rw [ho] at d3 hst
      rw [if_neg (by simp)] at hst
      clear hd ho
      by_cases h1 : b.length < 1
      · rw [if_pos (.inl h1)] at hst
        have HS := Lib.hid hst
        have b1 : (b.length : Int) < 1 := by omega
        have b2 : decide (b.length < 1) = true := by simpa using h1
        clear hs hst h1
        generalize b.length = bl at *
        go_enter Try.func45, Try.ntmps45
        go_wp2
        go_ret
        refine ⟨by rw [HE.out.1, HS.out]; rfl, by rw [HJA.out, HS.out, if_neg (by decide)]; exact HJ.out, by rw [HE.out.2]; exact HD.out, Mv.Only.refl _ _⟩
      · by_cases h2 : 400000 < b.length
        · rw [if_pos (.inr h2)] at hst
          have HS := Lib.hid hst
          have b1 : ¬ (b.length : Int) < 1 := by omega
          have b2 : decide (b.length < 1) = false := by simpa using h1
          have b3 : (400000 : Int) < (b.length : Int) := by omega
          have b4 : decide (400000 < b.length) = true := by simpa using h2
          clear hs hst h1 h2
          generalize b.length = bl at *
          go_enter Try.func45, Try.ntmps45
          go_wp2
          go_ret
          refine ⟨by rw [HE.out.1, HS.out]; rfl, by rw [HJA.out, HS.out, if_neg (by decide)]; exact HJ.out, by rw [HE.out.2]; exact HD.out, Mv.Only.refl _ _⟩
        · have h3 : j.n - j.used < needN b.length := by
            rw [if_neg (by omega)] at hst
            rcases Nat.lt_or_ge (j.n - j.used) (needN b.length) with h | h
            · exact h
            · rw [if_neg (by omega)] at hst
              exact absurd hst hs
          rw [if_neg (by omega), if_pos h3] at hst
          have HS := Lib.hid hst
          have HN := Lib.hid (rneed_any (b.length : Int) w (by omega))
          have hnl := need_le b.length
          rw [Int.toNat_natCast] at HN
          have b1 : ¬ (b.length : Int) < 1 := by omega
          have b2 : decide (b.length < 1) = false := by simpa using h1
          have b3 : ¬ (400000 : Int) < (b.length : Int) := by omega
          have b4 : decide (400000 < b.length) = false := by simpa using h2
          generalize needN b.length = nd at *
          generalize b.length = bl at *
          have b5 : (j.n : Int) - (j.used : Int) < (nd : Int) := by omega
          have b6 : IntKind.i64.wrap ((j.n : Int) - (j.used : Int)) = (j.n : Int) - (j.used : Int) := IntWalk.i64_in _ (by omega)
          clear hs hst h1 h2 h3 hu
          go_enter Try.func45, Try.ntmps45
          go_wp2_with (first | (refine HN.out.mono ?_; rintro e w2 ⟨rfl, rfl⟩))
          go_region_held3 (fun u => u.cell? ⟨x, 2, none⟩ = some (.int .i64 (j.n : Int)) ∧ u.cell? ⟨x, 6, none⟩ = some (.int .i64 (j.used : Int)))
            (first
              | exact ⟨e2, e6⟩)
            (fail)
          unfold Exit.then
          dsimp only
          go_wp2
          go_ret
          refine ⟨by rw [HE.out.1, HS.out]; rfl, by rw [HJA.out, HS.out, if_neg (by decide)]; exact HJ.out.below ((Below.refl _ _).drew), by rw [HE.out.2]; exact HD.out.below ((Below.refl _ _).drew), (Mv.Only.refl _ _).drew⟩

end Go.Proofs.Ytedgookkogpfbaa.Jr
