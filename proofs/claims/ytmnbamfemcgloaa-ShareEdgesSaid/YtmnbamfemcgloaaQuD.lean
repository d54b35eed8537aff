/- Contracts of container/heap's up over a queue's line. -/
import Derived.Test.YtmnbamfemcgloaaQuC
namespace Go.Proofs.Ytmnbamfemcgloaa.Qu
open Go.ChangeShapes Go.WideShapes Go.ChangeAt Go.RowKit
set_option linter.unusedVariables false

/-- A queue whose row lies at g, from w on turned in that row alone: it holds b, a row of what a holds. -/
structure Turned (w w' : World) (B q g n cap : Nat) (a b : Array Pt) : Prop where
  at_ : QAt w' B q (.slice (some ⟨g, 0, none⟩) n cap) b
  size : b.size = n
  perm : b.toList.Perm a.toList
  only : w.grownBy w' (some g)

theorem Turned.cellq {w w' : World} {B q g n cap : Nat} {a b : Array Pt} (h : Turned w w' B q g n cap a b) : w'.cell? ⟨q, 0, none⟩ = some (.slice (some ⟨g, 0, none⟩) n cap) := by
  have := h.at_.blk.cell 0
  simpa using this
theorem Turned.own {w w' : World} {B q g n cap : Nat} {a b : Array Pt} (h : Turned w w' B q g n cap a b) : w'.ownsRow B 81 2 (.slice (some ⟨g, 0, none⟩) n cap) n (cells2 b.toList) := by
  have := h.at_.own
  rw [h.size] at this
  exact this
theorem Turned.below {w w' w'' : World} {B q g n cap : Nat} {a b : Array Pt} (h : Turned w w' B q g n cap a b) (hb : Below w'.heap.size w' w'') : Turned w w'' B q g n cap a b :=
  ⟨⟨h.at_.blk.below hb, row_below h.at_.own hb, h.at_.base⟩, h.size, h.perm, h.only.trans (turned_none hb _)⟩
theorem Turned.row {w w' w'' : World} {B q g n cap : Nat} {a b : Array Pt} {i j : Nat} (h : Turned w w' B q g n cap a b) (hi : i < n) (hj : j < n) (hr : Row w' w'' B g n cap (swp b i j)) : Turned w w'' B q g n cap a (swp b i j) := by
  have hs : (swp b i j).size = n := by rw [size_swp]; exact h.size
  refine ⟨⟨h.at_.blk.grown hr.only ?_, by rw [hs]; exact hr.own, h.at_.base⟩, hs, (perm_swp b i j (by rw [h.size]; exact hi) (by rw [h.size]; exact hj)).trans h.perm, h.only.trans hr.only⟩
  have := own_ne_blk h.own h.at_.blk (by omega)
  simp
  omega
theorem Turned.start {w : World} {B q g n cap : Nat} {a : Array Pt} (h : QAt w B q (.slice (some ⟨g, 0, none⟩) n cap) a) (hs : a.size = n) : Turned w w B q g n cap a a :=
  ⟨h, hs, List.Perm.refl _, World.grownBy.refl _ _⟩
theorem Turned.toRow {w w' : World} {B q g n cap : Nat} {a b : Array Pt} (h : Turned w w' B q g n cap a b) : Row w' w' B g n cap b := ⟨h.own, World.grownBy.refl _ _⟩

def Upped (w w' : World) (B q g n cap : Nat) (a : Array Pt) : Prop := ∃ b, Turned w w' B q g n cap a b ∧ Heap b n

theorem up_any (q g n cap : Nat) (a : Array Pt) (j : Nat) (B : Nat) (w : World) (h : QAt w B q (.slice (some ⟨g, 0, none⟩) n cap) a) (hs : a.size = n) (hj : j < n) (hu : HeapUp a n j) (hn : n ≤ 1000000000) :
    Calls Try.prog 52 #[.iface 79 (.pointer (some ⟨q, 0, none⟩)), .int .i64 j] w fun e w' => e = .returned (.tuple #[]) ∧ Upped w w' B q g n cap a := by
  go_enter Try.func52, Try.ntmps52
  go_wp2
  go_loopw [1] (fun s wr => ∃ (k : Nat) (b : Array Pt), s = .int .i64 k ∧ k < n ∧ Turned w wr B q g n cap a b ∧ HeapUp b n k) (fun s _ => (intOf s).toNat)
  case atStart => exact ⟨j, a, rfl, hj, Turned.start h hs, hu⟩
  case round =>
    obtain ⟨k, b, rfl, hk, hT, hU⟩ := hrel
    have k1 : (k : Int) ≤ 1000000000 := by omega
    by_cases k0 : k = 0
    · subst k0
      have HF := Lib.hid (show Upped w wr B q g n cap a from ⟨b, hT, hU.done (by omega)⟩)
      clear hT hU hu h hs hj hk
      go_wp2
      go_end0
      exact ⟨rfl, HF.out⟩
    · obtain ⟨p, hp⟩ : ∃ p, p = (k - 1) / 2 := ⟨_, rfl⟩
      have hpk : p < k := by omega
      have e1 : wrap64 (((k : Int) - 1).tdiv 2) = (p : Int) := by
        rw [Int.tdiv_eq_ediv_of_nonneg (by omega), IntWalk.wrap64_in _ ⟨by omega, by omega⟩]
        omega
      have e2 : ((k : Int) - 1) / 2 = (p : Int) := by omega
      have HP := Lib.hid hp
      clear hp
      have b1 : ((p : Int) == (k : Int)) = false := beq_eq_false_iff_ne.2 (by omega)
      have HT := Lib.hid hT
      have HU := Lib.hid hU
      have mL := method_less q _ n cap wr hT.cellq
      have HL := Lib.hid (less_any g n cap b k p B wr hT.own hk (by omega) hn)
      clear hT hU hu h hs hj
      cases hA : aheadB (gt b k) (gt b p) with
      | false =>
        rw [hA] at HL
        have HA := Lib.hid hA
        clear hA
        go_wp2_with fail
        refine HL.out.mono ?_
        rintro e w1 ⟨rfl, hb⟩
        have HB := Lib.hid hb
        clear hb
        go_wp2
        go_end0
        exact ⟨rfl, b, HT.out.below HB.out, HU.out.done fun _ => by rw [← HP.out]; exact HA.out⟩
      | true =>
        rw [hA] at HL
        have HA := Lib.hid hA
        clear hA
        go_wp2_with fail
        refine HL.out.mono ?_
        rintro e w1 ⟨rfl, hb⟩
        have hT1 := HT.out.below hb
        have mS := method_swap q _ n cap w1 hT1.cellq
        have HS := Lib.hid (swap_any w1 g n cap b p k B w1 hT1.toRow (by omega) hk hn)
        have HT1 := Lib.hid hT1
        clear hT1 hb
        go_wp2_with fail
        refine HS.out.mono ?_
        rintro e w2 ⟨rfl, hr⟩
        have HR := Lib.hid hr
        clear hr
        go_wp2
        go_roundw
        case rel => exact ⟨p, swp b p k, rfl, by omega, HT1.out.row (by omega) hk HR.out, by rw [HP.out]; exact HU.out.step (by omega) hk (by rw [HT.out.size]; omega) (by rw [← HP.out]; exact HA.out)⟩
        case measure => simp [intOf]; omega

end Go.Proofs.Ytmnbamfemcgloaa.Qu
