/- The document's vault in memory: Compact. -/
import Derived.Test.YtedgookkogpfbaaVtS
set_option maxRecDepth 100000
namespace Go.Proofs.Ytedgookkogpfbaa.Vr
open Go.ChangeShapes Go.WideShapes Go.ChangeAt Go.RowKit
open Qu (Blk)
open Mv (Only Fresh)
open By (Own8 Bys cellsB cellsB_length)
open Dk (DS RefAt)
open Jr (JS Recd JHas Fit newE blankJ openJ addE addDS addJ stopE needN blk_blk_ne own_own_ne ownBlock_any)
open Vt
set_option linter.unusedVariables false

/-- Bytes of the call's own are no part of the document's disk. -/
theorem own_far_ref {w : World} {B B' : Nat} {p : Dk.Place} {d : DS} {A : Option Addr} {n c : Nat} {b : List UInt8} (h : Own8 w B (.slice A n c) b) (hD : RefAt w B' p d) : ∀ a, A = some a → ¬ p.has a.block := fun a ha hi => by
  subst ha
  have hg : (Value.slice (some a) n c).ownBlock = some a.block := rfl
  rcases hi with hi | hi | hi | hi
  · exact Mv.own_blk_ne h hD.box (by decide) _ hg hi
  · exact own_own_ne h hD.now.2 (by decide) _ hg (by rw [hi]; rfl)
  · exact own_own_ne h hD.sure.2 (by decide) _ hg (by rw [hi]; rfl)
  · exact own_own_ne h hD.loose (by decide) _ hg (by rw [hi]; rfl)

section
variable {w w' : World} {B Bp x y c : Nat} {p : Dk.Place} {A : Option Addr} {vs : List Value} {v : VS} {d : DS}

/-- A vault stays where its disk, and another journal, turn. -/
theorem RV.beside {y2 : Nat} {A2 : Option Addr} (h : RV w B x y p A c vs v) (hD : RefAt w Bp p d) (hO : Only w w' (fun i => p.has i ∨ JHas y2 A2 i)) (hx : x ≠ y2) (hy : y ≠ y2) (hA : ∀ g, (Value.slice A2 0 0).ownBlock = some g → g ≠ x ∧ g ≠ y ∧ (Value.slice A 0 0).ownBlock ≠ some g) (hR : ∀ (i : Nat) (u : Value), vs[i]? = some u → ∀ g, u.ownBlock = some g → g ≠ y2 ∧ (Value.slice A2 0 0).ownBlock ≠ some g) (hAy : ∀ g, (Value.slice A 0 0).ownBlock = some g → g ≠ y2) : RV w' B x y p A c vs v := by
  obtain ⟨a1, a2⟩ := h.apart hD
  have hJp := h.jat.apart hD
  refine ⟨h.base, Mv.blk_only h.box hO (fun hs => ?_), h.jat.base, Mv.blk_only h.jat.box hO (fun hs => ?_), Mv.own_only h.jat.rows.own hO (fun g hg hs => ?_), h.jat.rows.len, fun i u hu => ?_⟩
  · rcases hs with hs | hs | hs
    · exact a1 hs
    · exact hx hs
    · exact (hA x hs).1 rfl
  · rcases hs with hs | hs | hs
    · exact hJp y hs (.inl rfl)
    · exact hy hs
    · exact (hA y hs).2.1 rfl
  · have hg' : (Value.slice A 0 0).ownBlock = some g := by rw [← hg]; exact ownBlock_any _ _ _ _ _
    rcases hs with hs | hs | hs
    · exact hJp g hs (.inr hg')
    · exact hAy g hg' hs
    · exact (hA g hs).2.2 hg'
  · obtain ⟨z, z1, z2⟩ := h.jat.rows.each i u hu
    refine ⟨z, z1, Mv.own_only z2 hO (fun g hg hs => ?_)⟩
    rcases hs with hs | hs | hs
    · obtain ⟨A', c', rfl⟩ := Mv.own_value z2
      cases A' with
      | none => cases hg
      | some a =>
        have e : a.block = g := by injection hg
        have := own_far_ref z2 hD a rfl
        rw [e] at this
        exact this hs
    · exact (hR i u hu g hg).1 hs
    · exact (hR i u hu g hg).2 hs

set_option maxHeartbeats 2000000 in
theorem rvcomp_stop {Ab : Option Addr} {cb : Nat} {b : List UInt8} (h : RV w B x y p A c vs v) (hD : RefAt w Bp p d) (hf : VFit d v) (hlen : b.length ≤ 1000000000000) (hs : cstopE d v b ≠ 0) :
    Calls Try.prog 15 #[.pointer (some ⟨x, 0, none⟩), .slice Ab b.length cb] w (RVE w B Bp x p y A (vcompDS d v b) (vcompV d v b) (vcompE d v b)) := by
  have c0 := h.box.cell 0
  have c3 := h.box.cell 3
  have c4 := h.box.cell 4
  have f4 := h.box.frozen 4
  have d0 := hD.box.cell 0
  have d3 := hD.box.cell 3
  simp at c0 c3 c4 d0 d3
  have e1 : vcompE d v b = cstopE d v b := by unfold vcompE; rw [if_pos hs]
  have e2 : vcompDS d v b = d := by unfold vcompDS; rw [if_pos hs]
  by_cases h9 : cstopE d v b = 9
  · have HE : Hid (vcompE d v b = 9 ∧ vcompDS d v b = d ∧ vcompV d v b = { v with dead := true }) := Lib.hid ⟨by rw [e1, h9], e2, by unfold vcompV; rw [if_pos h9]⟩
    have HP := Lib.hid (h.put (v' := { v with dead := true }) hD 4 (.bool true) rfl (by have := h.box.put 4 (.bool true); simpa using this))
    have HFI : Hid (RVE w B Bp x p y A (vcompDS d v b) (vcompV d v b) (vcompE d v b) (.returned (.int .i64 9)) (w.setCell ⟨x, 4, none⟩ (.bool true))) := Lib.hid (by
      rw [HE.out.1, HE.out.2.1, HE.out.2.2]
      exact ⟨rfl, HP.out.2.1, y, A, c, vs, HP.out.1, HP.out.2.2, .inl rfl, .inl rfl⟩)
    have hc : (v.dead || d.off) = true := by
      cases q : (v.dead || d.off) with
      | true => rfl
      | false =>
        unfold cstopE at h9
        rw [q, if_neg (by simp)] at h9
        split at h9
        · cases h9
        · split at h9
          · cases h9
          · cases h9
    cases hd : v.dead with
    | true =>
      rw [hd] at c4
      clear h hD hf hc HE HP hd hs e1 e2 h9
      go_enter Try.func15, Try.ntmps15
      go_wp2
      go_ret
      exact HFI.out
    | false =>
      have ho : d.off = true := by rw [hd, Bool.false_or] at hc; exact hc
      rw [hd] at c4
      rw [ho] at d3
      clear h hD hf hc HE HP hd ho hs e1 e2 h9
      go_enter Try.func15, Try.ntmps15
      go_wp2
      go_ret
      exact HFI.out
  · have hc : (v.dead || d.off) = false := by
      cases q : (v.dead || d.off) with
      | false => rfl
      | true => exact absurd (by unfold cstopE; rw [q]; rfl) h9
    have hd : v.dead = false ∧ d.off = false := by
      cases q1 : v.dead with
      | true => rw [q1] at hc; cases hc
      | false => exact ⟨rfl, by rw [q1, Bool.false_or] at hc; exact hc⟩
    have e3 : vcompV d v b = v := by unfold vcompV; rw [if_neg h9, if_pos hs]
    have HFI : ∀ W, Below w.heap.size w W → RVE w B Bp x p y A (vcompDS d v b) (vcompV d v b) (vcompE d v b) (.returned (.int .i64 (cstopE d v b))) W := fun W hW => by
      rw [e1, e2, e3]
      exact ⟨rfl, hD.below hW, y, A, c, vs, h.below hW, Mv.Only.ofBelow hW _, .inl rfl, .inl rfl⟩
    rw [hd.1] at c4
    rw [hd.2] at d3
    have l0 : (b.length : Int) ≤ 1000000000000 := by omega
    by_cases h2 : 400000 ≤ b.length
    · have es : cstopE d v b = 2 := by unfold cstopE; rw [hc, if_neg (by simp), if_pos h2]
      rw [es] at HFI
      have HFI := Lib.hid (HFI w (Below.refl _ _))
      have l1 : (400000 : Int) ≤ (b.length : Int) := by omega
      have l2 : decide (400000 ≤ b.length) = true := by simpa using h2
      clear h hD hf hc hd hs e1 e2 e3 h9 h2 es
      generalize b.length = bl at *
      go_enter Try.func15, Try.ntmps15
      go_wp2
      go_ret
      exact HFI.out
    · have hcnd : v.epoch = 4294967295 ∨ v.n < needN (b.length + 1) := by
        by_cases q : v.epoch = 4294967295 ∨ v.n < needN (b.length + 1)
        · exact q
        · exact absurd (by unfold cstopE; rw [hc, if_neg (by simp), if_neg h2, if_neg q]) hs
      have es : cstopE d v b = 6 := by unfold cstopE; rw [hc, if_neg (by simp), if_neg h2, if_pos hcnd]
      rw [es] at HFI
      have HFI := Lib.hid (HFI w (Below.refl _ _))
      have l1 : ¬ (400000 : Int) ≤ (b.length : Int) := by omega
      have l2 : decide (400000 ≤ b.length) = false := by simpa using h2
      have hq : ((d.n : Int) / 2) = (v.n : Int) := by have := hf.size; omega
      have hq2 : (d.n : Int) ≤ 20000 := by have := hf.fit.dn; omega
      have hq3 : (v.n : Int) ≤ 20000 := by omega
      have hep : (v.epoch : Int) ≤ 4294967295 := by have := hf.e2; omega
      have HND := Lib.hid (Jr.rneed_any (((b.length + 1 : Nat)) : Int) w (by omega))
      simp only [Int.toNat_natCast] at HND
      have hbl : ((b.length + 1 : Nat) : Int) = (b.length : Int) + 1 := by omega
      rw [hbl] at HND
      obtain ⟨K, hK⟩ : ∃ K, needN (b.length + 1) = K := ⟨_, rfl⟩
      rw [hK] at HND hcnd
      have hK2 : (K : Int) ≤ 1000000000001 := by have := Jr.need_le (b.length + 1); omega
      clear h hD hf hc hd hs e1 e2 e3 h9 h2 es hbl hK
      generalize b.length = bl at *
      generalize hvn : v.n = vn at *
      generalize hve : v.epoch = ve at *
      generalize hdn : d.n = dn at *
      by_cases hm : ve = 4294967295
      · have m1 : ((ve : Int) == 4294967295) = true := by rw [hm]; rfl
        clear hm hcnd
        go_enter Try.func15, Try.ntmps15
        go_wp2_with fail
        go_ret
        exact HFI.out
      · have m1 : ((ve : Int) == 4294967295) = false := beq_eq_false_iff_ne.2 (by omega)
        have m2 : (vn : Int) < (K : Int) := by omega
        have m3 : decide (vn < K) = true := by simp; omega
        clear hm hcnd
        go_enter Try.func15, Try.ntmps15
        go_wp2_with (first | (refine HND.out.mono ?_; rintro r w2 ⟨rfl, hw⟩; rw [hw]; clear hw w2))
        go_ret
        exact HFI.out
end

end Go.Proofs.Ytedgookkogpfbaa.Vr
