/- Contracts of container/heap's Push and Pop over a queue's line, and of package queue. -/
import Derived.Test.YtmnbamfemcgloaaQuE
namespace Go.Proofs.Ytmnbamfemcgloaa.Qu
open Go.ChangeShapes Go.WideShapes Go.ChangeAt Go.RowKit
set_option linter.unusedVariables false
set_option maxRecDepth 100000

theorem QAt.form {w : World} {B q : Nat} {v : Value} {a : Array Pt} (h : QAt w B q v a) (h0 : 0 < a.size) : ∃ g cap, v = .slice (some ⟨g, 0, none⟩) a.size cap := by
  obtain ⟨g, cap, hv, _, _⟩ := h.own.form h0
  exact ⟨g, cap, hv⟩
theorem QAt.cell {w : World} {B q : Nat} {v : Value} {a : Array Pt} (h : QAt w B q v a) : w.cell? ⟨q, 0, none⟩ = some v := by
  have := h.blk.cell 0
  simpa using this

def HPushed (w w' : World) (B q : Nat) (v : Value) (a : Array Pt) (x : Pt) : Prop := ∃ v' b, QAt w' B q v' b ∧ Moved w w' q v.ownBlock ∧ Fresh w v.ownBlock v'.ownBlock ∧ Heap b b.size ∧ b.toList.Perm (x :: a.toList)

theorem heappush_any (v : Value) (q : Nat) (a : Array Pt) (x : Pt) (B : Nat) (w : World) (h : QAt w B q v a) (hh : Heap a a.size) (hn : a.size ≤ 999999999) :
    Calls Try.prog 48 #[.iface 79 (.pointer (some ⟨q, 0, none⟩)), .iface 81 (.agg #[.int .i64 x.1, .int .i64 x.2])] w fun e w' => e = .returned (.tuple #[]) ∧ HPushed w w' B q v a x := by
  have mP := fun W => method_push q W
  have HL := Lib.hid (linepush_any v q a x B w h (by omega))
  have HH := Lib.hid hh
  have n1 : (a.size : Int) ≤ 999999999 := by omega
  have HN := Lib.hid hn
  clear h hh hn
  go_enter Try.func48, Try.ntmps48
  go_wp2_with fail
  refine HL.out.mono ?_
  rintro e w1 ⟨rfl, v', hQ, hM, hF⟩
  have e1 : (a.push x).size = a.size + 1 := by simp
  obtain ⟨g, cap, rfl⟩ := hQ.form (by omega)
  rw [e1] at hQ hF
  have mL := method_len q _ (a.size + 1) cap w1 hQ.cell
  have HU := Lib.hid (up_any q g (a.size + 1) cap (a.push x) a.size B w1 hQ e1 (by omega) HH.out.push (by have := HN.out; omega))
  have HQ := Lib.hid (And.intro hQ (And.intro hM hF))
  clear hQ hM hF e1
  go_wp2_with fail
  refine (len_any _ _ _ _).mono ?_
  rintro e w2 ⟨rfl, rfl⟩
  go_wp2_with fail
  refine HU.out.mono ?_
  rintro e w3 ⟨rfl, b, hT, hB⟩
  obtain ⟨hQ, hM, hF⟩ := HQ.out
  have HF : Hid (HPushed w w3 B q v a x) := Lib.hid ⟨_, b, hT.at_, hM.trans (Moved.grown (Moved.refl w1 q (some g)) hT.only) hF, hF, by rw [hT.size]; exact hB, hT.perm.trans (by rw [Array.toList_push]; exact List.perm_append_singleton _ _)⟩
  clear hQ hM hF hT hB
  go_wp2
  go_end0
  exact ⟨rfl, HF.out⟩

def HPopped (w w' : World) (B q : Nat) (v : Value) (a : Array Pt) : Prop := ∃ v' b, QAt w' B q v' b.pop ∧ Moved w w' q v.ownBlock ∧ v'.ownBlock = v.ownBlock ∧ Heap b.pop b.pop.size ∧ b.toList.Perm a.toList ∧ b.size = a.size ∧ gt b (a.size - 1) = gt a 0

theorem heappop_any (v : Value) (q n : Nat) (a : Array Pt) (B : Nat) (w : World) (h : QAt w B q v a) (hh : Heap a a.size) (hs : a.size = n + 1) (hn : n ≤ 999999999) :
    Calls Try.prog 50 #[.iface 79 (.pointer (some ⟨q, 0, none⟩))] w fun e w' => e = .returned (.iface 81 (.agg #[.int .i64 (gt a 0).1, .int .i64 (gt a 0).2])) ∧ HPopped w w' B q v a := by
  have mP := fun W => method_pop q W
  obtain ⟨g, cap, hv⟩ := h.form (by omega)
  rw [hs] at hv
  subst hv
  have hT := Turned.start h hs
  have hT0 := hT
  have mL := method_len q _ (n + 1) cap w hT.cellq
  have mS := method_swap q _ (n + 1) cap w hT.cellq
  have HS := Lib.hid (swap_any w g (n + 1) cap a 0 n B w hT.toRow (by omega) (by omega) (by omega))
  have n1 : (n : Int) ≤ 999999999 := by omega
  have HH := Lib.hid (And.intro hh (And.intro hs hn))
  have HT := Lib.hid hT
  clear hT hT0 h hh hs hn
  go_enter Try.func50, Try.ntmps50
  go_wp2_with fail
  refine (len_any _ _ _ _).mono ?_
  rintro e w0 ⟨rfl, rfl⟩
  go_wp2_with fail
  refine HS.out.mono ?_
  rintro e w1 ⟨rfl, hr⟩
  have hT1 := HT.out.row (by omega) (by omega) hr
  clear hr mL mS
  have hHD := (show Heap a (n + 1) from by have := HH.out.1; rw [HH.out.2.1] at this; exact this).pop HH.out.2.1
  have HD := Lib.hid (down_any q g n cap (swp a 0 n) B w1 hT1.at_ hT1.size hHD HH.out.2.2)
  have HT1 := Lib.hid hT1
  clear hT1 hHD
  go_wp2_with fail
  refine HD.out.mono ?_
  rintro e w2 ⟨⟨r, rfl⟩, b, hT2, hHb, hE⟩
  have hbn : gt b n = gt a 0 := by
    rw [hE, gt_swp _ _ _ _ (by rw [HH.out.2.1]; omega) (by rw [HH.out.2.1]; omega)]
    by_cases h0 : n = 0
    · rw [if_pos h0, h0]
    · rw [if_neg h0, if_pos rfl]
  have HP := Lib.hid (linepop_any g n cap q b B w2 hT2.at_ hT2.size (by have := HH.out.2.2; omega))
  rw [hbn] at HP
  have HT2 := Lib.hid (And.intro hT2 (And.intro hHb hbn))
  clear hT2 hHb hE hbn
  go_wp2_with fail
  refine HP.out.mono ?_
  rintro e w3 ⟨rfl, hQ, hM⟩
  have HF : Hid (HPopped w w3 B q (.slice (some ⟨g, 0, none⟩) (n + 1) cap) a) := Lib.hid (by
    obtain ⟨hT2, hHb, hbn⟩ := HT2.out
    have hs := HH.out.2.1
    refine ⟨_, b, hQ, ((Moved.grown (Moved.refl w q (some g)) HT1.out.only).grown hT2.only).trans hM (Fresh.refl _ _), rfl, ?_, hT2.perm.trans (perm_swp a 0 n (by omega) (by omega)), by rw [hT2.size, hs], by rw [hs]; exact hbn⟩
    have e : b.pop.size = n := by simp [hT2.size]
    rw [e]
    intro i i0 hi
    have := hHb i i0 hi
    have e2 : ∀ k, k < n → gt b.pop k = gt b k := by
      intro k hk
      unfold gt
      have h1 : k < b.pop.size := by omega
      have h2 : k < b.size := by rw [hT2.size]; omega
      simp only [Array.getD, h1, h2, dif_pos]
      show b.pop[k] = b[k]
      rw [Array.getElem_pop]
    rw [e2 _ (by omega), e2 _ hi]
    exact this)
  clear hQ hM
  go_wp2
  go_ret
  exact ⟨rfl, HF.out⟩

end Go.Proofs.Ytmnbamfemcgloaa.Qu
