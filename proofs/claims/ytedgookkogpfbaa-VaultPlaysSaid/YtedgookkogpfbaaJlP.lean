/- The landed journal: put. -/
import Derived.Test.YtedgookkogpfbaaJlR
import Derived.Deep.AppendLies
set_option maxRecDepth 100000
namespace Go.Proofs.Ytedgookkogpfbaa.Jl
open Go.ChangeShapes Go.WideShapes Go.ChangeAt Go.RowKit
open Qu (Blk)
open Mv (Only Fresh)
open By (Own8 Bys cellsB cellsB_length)
open Dk (DS)
open Dd (Lay At Tidy)
open Lf (own_lower own_far)
open Jr (JS Recd JHas needN need_le own_own_ne ownBlock_any blk_blk_ne newE blankJ openJ stopE addE addDS addJ info_bytes)
set_option linter.unusedVariables false

/-- What put leaves: the record more, behind the others. -/
def PutE (w : World) (B x y : Nat) (A : Option Addr) (vs : List Value) (v : Value) (j : JS) (w' : World) : Prop :=
  ∃ A3 c3, JAt w' B x y A3 c3 (vs ++ [v]) j ∧ Only w w' (JHas x A) ∧ Fresh w (Value.slice A 0 0).ownBlock (Value.slice A3 0 0).ownBlock

/-- The journal with that record more. -/
def moreJ (j : JS) (b : List UInt8) (e : Nat) : JS := ⟨j.o, j.n, j.epoch, j.l ++ [b], if j.l.length = 0 then e else j.begun, j.used + needN b.length, j.dead⟩

set_option maxHeartbeats 4000000 in
theorem put_any (w : World) (B x y c c' e : Nat) (A A' : Option Addr) (vs : List Value) (j : JS) (b : List UInt8) (hJ : JAt w B x y A c vs j) (h8 : Own8 w B (.slice A' b.length c') b) (hl : j.l.length ≤ 1000000) (hu : j.used + needN b.length ≤ 1000000000) (hbl : b.length ≤ 1000000000000) (he : e < 2 ^ 32) :
    Calls Try.prog 71 #[.pointer (some ⟨x, 0, none⟩), .slice A' b.length c', .int .u32 (e : Int)] w fun r w' => r = .returned (.tuple #[]) ∧ PutE w B x y A vs (.slice A' b.length c') (moreJ j b e) w' := by
  obtain ⟨i0, hi0, hz0, hz1, hz2⟩ := info_parts info_bytes
  have e4 := hJ.box.cell 4
  have f5 := hJ.box.frozen 5
  have e5 := hJ.box.cell 5
  simp at e4 e5
  have HJ := Lib.hid hJ
  have H8 := Lib.hid h8
  have HL := Lib.hid (And.intro hl (And.intro hu hbl))
  have hx := hJ.box.lt
  have l0 : (j.l.length : Int) ≤ 1000000 := by omega
  have b0 : (b.length : Int) ≤ 1000000000000 := by omega
  have HND := fun W => need_any (b.length : Int) W (by omega)
  simp only [Int.toNat_natCast] at HND
  have HN := Lib.hid HND
  have w1 : IntKind.i64.wrap ((j.used : Int) + ((needN b.length : Nat) : Int)) = ((j.used + needN b.length : Nat) : Int) := by rw [IntWalk.i64_in _ (by omega)]; omega
  clear HND hu hbl hJ h8
  by_cases h0 : j.l.length = 0
  case' pos =>
    have b1 : ((j.l.length : Int) == 0) = true := by rw [h0]; rfl
    obtain ⟨W2, hW2⟩ : ∃ W2, W2 = w.setCell ⟨x, 5, none⟩ (.int .u32 (e : Int)) := ⟨_, rfl⟩
    have HW2 : Hid (Blk W2 x 99 #[.pointer (some ⟨y, 0, none⟩), .int .i64 (j.o : Int), .int .i64 (j.n : Int), .int .u32 (j.epoch : Int), .slice A j.l.length c, .int .u32 ((moreJ j b e).begun : Int), .int .i64 (j.used : Int), .bool j.dead] ∧ Recd W2 B A j.l.length c vs j.l ∧ Own8 W2 B (.slice A' b.length c') b ∧ Only w W2 (JHas x A)) := Lib.hid (by
      rw [hW2, show (moreJ j b e).begun = e from if_pos h0]
      exact ⟨HJ.out.box.put 5 _, HJ.out.rows.put HJ.out.box (by decide) (by decide), Jr.Own8.put H8.out HJ.out.box (by decide), (Mv.Only.refl _ _).put _ (fun _ => .inl rfl)⟩)
    have HWW := Lib.hid hW2
    clear h0 hW2
  case' neg =>
    have b1 : ((j.l.length : Int) == 0) = false := beq_eq_false_iff_ne.2 (by omega)
    obtain ⟨W2, hW2⟩ : ∃ W2, W2 = w := ⟨_, rfl⟩
    have HW2 : Hid (Blk W2 x 99 #[.pointer (some ⟨y, 0, none⟩), .int .i64 (j.o : Int), .int .i64 (j.n : Int), .int .u32 (j.epoch : Int), .slice A j.l.length c, .int .u32 ((moreJ j b e).begun : Int), .int .i64 (j.used : Int), .bool j.dead] ∧ Recd W2 B A j.l.length c vs j.l ∧ Own8 W2 B (.slice A' b.length c') b ∧ Only w W2 (JHas x A)) := Lib.hid (by
      rw [hW2, show (moreJ j b e).begun = j.begun from if_neg h0]
      exact ⟨HJ.out.box, HJ.out.rows, H8.out, Mv.Only.refl _ _⟩)
    have HWW := Lib.hid hW2
    clear h0 hW2
  all_goals
    have HNE2 : Hid (some x ≠ (Value.slice A j.l.length c).ownBlock) := Lib.hid (fun e => Mv.own_blk_ne HW2.out.2.1.own HW2.out.1 (by decide) x e.symm rfl)
    have hone : ∀ u ∈ [Value.slice A' b.length c'], u.oneCell' = true := by simp [Value.oneCell']
    have HB : Hid (B ≤ w.heap.size) := Lib.hid (by have := HJ.out.base; omega)
    have HRA : Hid (j.l.length + 1 ≤ maxLen ∧ (j.l.length + 1) * 24 ≤ 140737488355328 ∧ B ≤ (W2.alloc (.cells #[.slice A' b.length c'] 37)).heap.size ∧ (W2.alloc (.cells #[.slice A' b.length c'] 37)).heap.size = W2.heap.size + 1) := Lib.hid ⟨by have := HL.out.1; unfold maxLen; omega, by have := HL.out.1; omega, by have := HW2.out.2.2.2.size; have := HB.out; simp; omega, by simp⟩
    go_enter Try.func71, Try.ntmps71
    go_upto_region 2 with (fail)
    rw [← HWW.out]
    have r4 := HW2.out.1.cell 4
    simp at r4
    clear e4 e5 f5
    go_upto_region 3 with ((at_builtin; refine wpList_append_lies _ rfl _ _ 49 rfl B 37 i0 _ 1 24 Try.underlying49 hi0 hz0 hz1 hz2 rfl (by omega) (.slice A j.l.length c) j.l.length vs rfl (HW2.out.2.1.own.alloc _) ⟨W2.heap.size, 0, none⟩ 1 1 [.slice A' b.length c'] rfl rfl (World.news_of_block (cs := #[.slice A' b.length c']) (t := 37) (fr := (0, 0)) (heap_alloc_new W2 _)) hone (by omega) HRA.out.1 HRA.out.2.1 HRA.out.2.2.1 (W2.heap.size + 1) HRA.out.2.2.2 ?_; intro g cp w4 hown hgrow hat hlt; have hb4 := (HW2.out.1.alloc (.cells #[.slice A' b.length c'] 37)).grown hgrow HNE2.out; have y4 := hb4.cell 4; have y4f := hb4.frozen 4; simp at y4; have HP := Lib.hid (And.intro (JAt.push (ob := .cells #[.slice A' b.length c'] 37) (used' := j.used + needN b.length) HJ.out.base HW2.out.1 HW2.out.2.1 HW2.out.2.2.1 hown hgrow) (And.intro hat hb4)); clear hown hgrow hat hlt hb4))
    obtain ⟨W5, hW5⟩ : ∃ W5, w4.setCell ⟨x, 4, none⟩ (.slice (some ⟨g, 0, none⟩) (j.l.length + 1) cp) = W5 := ⟨_, rfl⟩
    have HW5 := Lib.hid hW5
    have hb5 := HP.out.2.2.put 4 (.slice (some ⟨g, 0, none⟩) (j.l.length + 1) cp)
    rw [hW5] at hb5 ⊢
    have y6 := hb5.cell 6
    have y6f := hb5.frozen 6
    simp at y6
    clear hb5 y4 y4f r4 hW5
    generalize hnd : needN b.length = nd at *
    have HNN := Lib.hid hnd
    clear hnd
    go_region_with ((go_at_call 69; refine (HN.out _).mono ?_; rintro r w6 ⟨rfl, rfl⟩))
    all_goals
      go_end0
      refine ⟨rfl, ?_⟩
      obtain rfl := HNN.out
      have e6 : ((j.used + needN b.length : Nat) : Int) = (j.used : Int) + ((needN b.length : Nat) : Int) := by omega
      obtain ⟨⟨hp1, hp2⟩, hat, _⟩ := HP.out
      rw [HW5.out, e6] at hp1 hp2
      refine ⟨_, _, hp1.below (Below.refl _ _).drew, (HW2.out.2.2.2.trans hp2 (fun _ _ h => h)).drew, ?_⟩
      rcases hat with hat | hat
      · exact .inl ((ownBlock_any A 0 0 j.l.length c).trans hat).symm
      · exact .inr ⟨g, rfl, by have := HW2.out.2.2.2.size; omega⟩

end Go.Proofs.Ytedgookkogpfbaa.Jl
