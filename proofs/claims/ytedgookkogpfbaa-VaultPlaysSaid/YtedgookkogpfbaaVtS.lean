/- The document's vault in memory: Add. -/
import Derived.Test.YtedgookkogpfbaaVtR
set_option maxRecDepth 100000
namespace Go.Proofs.Ytedgookkogpfbaa.Vr
open Go.ChangeShapes Go.WideShapes Go.ChangeAt Go.RowKit
open Qu (Blk)
open Mv (Only Fresh)
open By (Own8 Bys cellsB cellsB_length)
open Dk (DS RefAt)
open Jr (JS Recd JHas Fit newE blankJ openJ addE addDS addJ stopE needN blk_blk_ne own_own_ne ownBlock_any)
open Vt
set_option linter.unusedVariables false

/-- An Add of the document's journal, whatever comes. -/
theorem radd_any (wr : World) (B B' x c cb : Nat) (A Ab : Option Addr) (vs : List Value) (j : JS) (p : Dk.Place) (d : DS) (b : List UInt8) (hJ : Jr.JAt wr B x p.x A c vs j) (hD : RefAt wr B' p d) (hf : Fit d j) (hb : Bys wr wr.heap.size Ab b.length b) (hcb : b.length ≤ cb) (hcb2 : cb ≤ 9223372036854775807) (hlen : b.length ≤ 1000000000000)
    (hfar : ∀ a, Ab = some a → b.length ≠ 0 → ¬ p.has a.block) (hfx : ∀ a, Ab = some a → b.length ≠ 0 → a.block ≠ x) :
    Calls Try.prog 45 #[.pointer (some ⟨x, 0, none⟩), .slice Ab b.length cb] wr (Jr.RAddE wr B B' x p A vs j d b) := by
  have h1 := hf.room
  have h2 := hf.dn
  have h3 := hf.used
  have h4 := hf.len
  by_cases hs : stopE d j b = 0
  · have hl1 := (Jr.stop_zero hs).2.2.1
    exact Jr.radd_go wr B B' x c cb A Ab vs j p d b hJ hD h3 (by omega) hb hcb hcb2 (fun a ha => hfar a ha (by omega)) (fun a ha => hfx a ha (by omega)) hs (by omega) hf.e1 hf.e2 (by omega) h1 hf.armed
  · refine (Jr.radd_stop wr B B' x c cb A Ab vs j p d b hJ hD h3 (by omega) hlen hs).mono ?_
    rintro e w' ⟨rfl, g1, g2, g3⟩
    exact ⟨rfl, g2, A, c, vs, g1, g3.mono (fun i _ h => .inr h), .inl rfl⟩

/-- The blocks of a vault beside its disk. -/
def VHas (x y : Nat) (A : Option Addr) : Nat → Prop := fun k => k = x ∨ JHas y A k

/-- What an Add of it answers and leaves. -/
def RVE (w : World) (B Bp x : Nat) (p : Dk.Place) (y : Nat) (A : Option Addr) (d' : DS) (v' : VS) (E : Int) (e : Ending) (w' : World) : Prop :=
  e = .returned (.int .i64 E) ∧ RefAt w' Bp p d' ∧ ∃ y' A' c' vs', RV w' B x y' p A' c' vs' v' ∧ Only w w' (fun i => p.has i ∨ VHas x y A i) ∧ (y' = y ∨ w.heap.size ≤ y') ∧ Fresh w (Value.slice A 0 0).ownBlock (Value.slice A' 0 0).ownBlock

section
variable {w w' : World} {B Bp x y c : Nat} {p : Dk.Place} {A : Option Addr} {vs : List Value} {v : VS} {d : DS}

/-- A vault's box is none of a disk's, nor of its journal's. -/
theorem RV.apart (h : RV w B x y p A c vs v) (hD : RefAt w Bp p d) : ¬ p.has x ∧ ¬ JHas y A x := by
  refine ⟨fun hi => ?_, fun hi => ?_⟩
  · rcases hi with hi | hi | hi | hi
    · exact blk_blk_ne h.box hD.box (by decide) hi
    · exact Mv.own_blk_ne hD.now.2 h.box (by decide) p.a rfl hi.symm
    · exact Mv.own_blk_ne hD.sure.2 h.box (by decide) p.b rfl hi.symm
    · exact Mv.own_blk_ne hD.loose h.box (by decide) p.c rfl hi.symm
  · rcases hi with hi | hi
    · exact blk_blk_ne h.box h.jat.box (by decide) hi
    · exact Mv.own_blk_ne h.jat.rows.own h.box (by decide) x (by rw [← hi]; exact ownBlock_any _ _ _ _ _) rfl

/-- A store into the vault's box. -/
theorem RV.put {v' : VS} (h : RV w B x y p A c vs v) (hD : RefAt w Bp p d) (i : Nat) (u : Value) (hj : v'.j = v.j)
    (hb : Blk (w.setCell ⟨x, i, none⟩ u) x 84 #[.pointer (some ⟨p.x, 0, none⟩), .pointer (some ⟨y, 0, none⟩), .int .i64 (v'.half : Int), .int .u32 (v'.epoch : Int), .bool v'.dead]) :
    RV (w.setCell ⟨x, i, none⟩ u) B x y p A c vs v' ∧ RefAt (w.setCell ⟨x, i, none⟩ u) Bp p d ∧ Only w (w.setCell ⟨x, i, none⟩ u) (fun k => p.has k ∨ VHas x y A k) := by
  have ho : Only w (w.setCell ⟨x, i, none⟩ u) (Mv.one x) := (Mv.Only.refl w (Mv.one x)).put u (fun _ => rfl)
  obtain ⟨a1, a2⟩ := h.apart hD
  refine ⟨⟨h.base, hb, ?_⟩, hD.only ho (fun k hk hs => a1 (by have e : k = x := hs; rw [← e]; exact hk)), ho.mono (fun k _ hs => .inr (.inl hs))⟩
  rw [hj]
  refine ⟨h.jat.base, Mv.blk_only h.jat.box ho (fun hs => a2 (.inl (by have e : y = x := hs; exact e.symm))), Mv.own_only h.jat.rows.own ho (fun g hg hs => a2 (.inr (by have e : g = x := hs; rw [← e, ← hg]; exact ownBlock_any _ _ _ _ _))), h.jat.rows.len, fun k u' hu => ?_⟩
  obtain ⟨z, z1, z2⟩ := h.jat.rows.each k u' hu
  exact ⟨z, z1, Mv.own_only z2 ho (fun g hg hs => Mv.own_blk_ne z2 h.box (by decide) g hg hs)⟩

set_option maxHeartbeats 1000000 in
theorem rvadd_any {Ab : Option Addr} {cb : Nat} {b : List UInt8} (h : RV w B x y p A c vs v) (hD : RefAt w Bp p d) (hf : VFit d v) (hb : Bys w w.heap.size Ab b.length b) (hcb : b.length ≤ cb) (hcb2 : cb ≤ 9223372036854775807) (hlen : b.length ≤ 1000000000000)
    (hfar : ∀ a, Ab = some a → b.length ≠ 0 → ¬ p.has a.block) (hfx : ∀ a, Ab = some a → b.length ≠ 0 → a.block ≠ y) :
    Calls Try.prog 25 #[.pointer (some ⟨x, 0, none⟩), .slice Ab b.length cb] w (RVE w B Bp x p y A (vaddDS d v b) (vaddV d v b) (vaddE d v b)) := by
  have c0 := h.box.cell 0
  have c1 := h.box.cell 1
  have c4 := h.box.cell 4
  have f4 := h.box.frozen 4
  have d3 := hD.box.cell 3
  simp at c0 c1 c4 d3
  by_cases hc : (v.dead || d.off) = true
  · have HE : Hid (vaddE d v b = 9 ∧ vaddDS d v b = d ∧ vaddV d v b = { v with dead := true }) := Lib.hid ⟨by unfold vaddE; rw [if_pos hc], by unfold vaddDS; rw [if_pos hc], by unfold vaddV; rw [if_pos hc]⟩
    have HP := Lib.hid (h.put (v' := { v with dead := true }) hD 4 (.bool true) rfl (by have := h.box.put 4 (.bool true); simpa using this))
    have HFI : Hid (RVE w B Bp x p y A (vaddDS d v b) (vaddV d v b) (vaddE d v b) (.returned (.int .i64 9)) (w.setCell ⟨x, 4, none⟩ (.bool true))) := Lib.hid (by
      rw [HE.out.1, HE.out.2.1, HE.out.2.2]
      exact ⟨rfl, HP.out.2.1, y, A, c, vs, HP.out.1, HP.out.2.2, .inl rfl, .inl rfl⟩)
    cases hd : v.dead with
    | true =>
      rw [hd] at c4
      clear h hD hf hb hfar hfx hc HE HP hd
      go_enter Try.func25, Try.ntmps25
      go_wp2
      go_ret
      exact HFI.out
    | false =>
      have ho : d.off = true := by rw [hd, Bool.false_or] at hc; exact hc
      rw [hd] at c4
      rw [ho] at d3
      clear h hD hf hb hfar hfx hc HE HP hd ho
      go_enter Try.func25, Try.ntmps25
      go_wp2
      go_ret
      exact HFI.out
  · have hd : v.dead = false ∧ d.off = false := by
      cases h1 : v.dead with
      | true => rw [h1] at hc; exact absurd rfl hc
      | false =>
        cases h2 : d.off with
        | true => rw [h1, h2] at hc; exact absurd rfl hc
        | false => exact ⟨rfl, rfl⟩
    have HE : Hid (vaddE d v b = addE d v.j b ∧ vaddDS d v b = addDS d v.j b ∧ vaddV d v b = { v with j := addJ d v.j b, dead := decide (addE d v.j b = 9) }) := Lib.hid ⟨by unfold vaddE; rw [if_neg hc], by unfold vaddDS; rw [if_neg hc], by unfold vaddV; rw [if_neg hc]⟩
    rw [hd.1] at c4
    rw [hd.2] at d3
    have HA := Lib.hid (radd_any w B Bp y c cb A Ab vs v.j p d b h.jat hD hf.fit hb hcb hcb2 hlen hfar hfx)
    have HV := Lib.hid (And.intro h hD)
    clear h hD hf hb hfar hfx hc hd
    go_enter Try.func25, Try.ntmps25
    go_wp2_with fail
    refine HA.out.mono ?_
    rintro r w1 ⟨rfl, hR, A', c', vs', hJ, hO, hF⟩
    obtain ⟨a1, a2⟩ := HV.out.1.apart HV.out.2
    have hbx := Mv.blk_only HV.out.1.box hO (fun hs => hs.elim a1 a2)
    have e4 := hbx.cell 4
    have f4' := hbx.frozen 4
    simp at e4
    have HR1 : Hid (RV w1 B x y p A' c' vs' { v with j := addJ d v.j b }) := Lib.hid ⟨HV.out.1.base, hbx, hJ⟩
    have HX := Lib.hid (And.intro hR (And.intro hO hF))
    clear hR hJ hO hF hbx a1 a2 c0 c1 c4 f4 d3 HA
    generalize hE9 : addE d v.j b = E at *
    have HE9 := Lib.hid hE9
    clear hE9
    go_wp2_with fail
    go_ret
    obtain ⟨q1, q2, q3⟩ := HR1.out.put (v' := { v with j := addJ d v.j b, dead := decide (E = 9) }) HX.out.1 4 (.bool (E == 9)) rfl (HR1.out.box.put 4 (.bool (E == 9)))
    rw [HE.out.1, HE.out.2.1, HE.out.2.2]
    refine ⟨rfl, q2, y, A', c', vs', q1, ?_, .inl rfl, HX.out.2.2⟩
    refine (HX.out.2.1.mono (fun i _ hs => hs.imp id .inr)).trans q3 fun i hi hs => ?_
    rcases hs with hs | hs | hs | hs
    · exact .inl hs
    · exact .inr (.inl hs)
    · exact .inr (.inr (.inl hs))
    · rcases HX.out.2.2 with g | ⟨k, g, hk⟩
      · exact .inr (.inr (.inr (by rw [← g]; exact hs)))
      · rw [g] at hs
        injection hs with hs
        omega
end

end Go.Proofs.Ytedgookkogpfbaa.Vr
