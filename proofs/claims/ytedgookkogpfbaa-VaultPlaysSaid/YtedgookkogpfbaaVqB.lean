/- Law 09: the landed disk and the document's, a vault on each, and a step's box beside them: what each call leaves of them. -/
import Derived.Test.YtedgookkogpfbaaVlF
import Derived.Test.YtedgookkogpfbaaVtW
import Derived.Test.YtedgookkogpfbaaVqA
set_option maxRecDepth 100000
namespace Go.Proofs.Ytedgookkogpfbaa.Vq
open Go.ChangeShapes Go.WideShapes Go.ChangeAt Go.RowKit
open Qu (Blk)
open Mv (Only Fresh)
open By (Own8 Bys cellsB cellsB_length)
open Dk (DS dsNew crashD startD armD writeD writeE RefAt secCells)
open Dd (Lay At Tidy Pl)
open Jr (JS Recd JHas Fit newE blankJ openJ addE addDS addJ stopE needN blk_blk_ne own_own_ne ownBlock_any)
open Vt
open Vl (VA VAE OpenE BaseE RowsE VHas box_far)
open Vr (RV RVE ROpenE)
set_option linter.unusedVariables false

/-! ### Whose blocks are whose -/
section
variable {w w' : World} {B B2 Bd Bp x x2 y y2 c c2 g t : Nat} {q : Pl} {p : Dk.Place} {A A2 : Option Addr} {vs vs2 : List Value} {v v2 : VS} {d d1 d2 : DS} {cs : Array Value}

theorem at_blk (hD : At w Bd q d) (hb : Blk w g t cs) (h1 : t ≠ 63) (h2 : t ≠ 43) (h3 : t ≠ 4) : ¬ q.has g := fun hi => by
  have hL := hD.lay
  rcases hi with hi | hi | hi | hi
  · exact blk_blk_ne hb hL.box h1 hi
  · exact Mv.own_blk_ne hL.now.2 hb (Ne.symm h2) q.a rfl hi.symm
  · exact Mv.own_blk_ne hL.sure.2 hb (Ne.symm h2) q.b rfl hi.symm
  · exact Mv.own_blk_ne hL.loose hb (Ne.symm h3) q.c rfl hi.symm

theorem ref_blk (hD : RefAt w Bp p d) (hb : Blk w g t cs) (h1 : t ≠ 65) (h2 : t ≠ 43) (h3 : t ≠ 4) : ¬ p.has g := fun hi => by
  rcases hi with hi | hi | hi | hi
  · exact blk_blk_ne hb hD.box h1 hi
  · exact Mv.own_blk_ne hD.now.2 hb (Ne.symm h2) p.a rfl hi.symm
  · exact Mv.own_blk_ne hD.sure.2 hb (Ne.symm h2) p.b rfl hi.symm
  · exact Mv.own_blk_ne hD.loose hb (Ne.symm h3) p.c rfl hi.symm

theorem at_own {E size n : Nat} {u : Value} {xs : List Value} (hD : At w Bd q d) (ho : w.ownsRow B E size u n xs) (h1 : E ≠ 63) (h2 : E ≠ 43) (h3 : E ≠ 4) : ∀ g, u.ownBlock = some g → ¬ q.has g := fun g hg hi => by
  have hL := hD.lay
  rcases hi with hi | hi | hi | hi
  · exact Mv.own_blk_ne ho hL.box h1 g hg hi
  · exact own_own_ne ho hL.now.2 h2 g hg (by rw [hi]; rfl)
  · exact own_own_ne ho hL.sure.2 h2 g hg (by rw [hi]; rfl)
  · exact own_own_ne ho hL.loose h3 g hg (by rw [hi]; rfl)

theorem ref_own {E size n : Nat} {u : Value} {xs : List Value} (hD : RefAt w Bp p d) (ho : w.ownsRow B E size u n xs) (h1 : E ≠ 65) (h2 : E ≠ 43) (h3 : E ≠ 4) : ∀ g, u.ownBlock = some g → ¬ p.has g := fun g hg hi => by
  rcases hi with hi | hi | hi | hi
  · exact Mv.own_blk_ne ho hD.box h1 g hg hi
  · exact own_own_ne ho hD.now.2 h2 g hg (by rw [hi]; rfl)
  · exact own_own_ne ho hD.sure.2 h2 g hg (by rw [hi]; rfl)
  · exact own_own_ne ho hD.loose h3 g hg (by rw [hi]; rfl)

theorem va_blk (hV : VA w B x y q A c vs v) (hb : Blk w g t cs) (h1 : t ≠ 80) (h2 : t ≠ 99) (h3 : t ≠ 37) : ¬ VHas x y A g := fun hi => by
  obtain ⟨ep, _, hbx⟩ := hV.box
  rcases hi with hi | hi | hi
  · exact blk_blk_ne hb hbx h1 hi
  · exact blk_blk_ne hb hV.jat.box h2 hi
  · exact Mv.own_blk_ne hV.jat.rows.own hb (Ne.symm h3) g (by rw [← hi]; exact ownBlock_any _ _ _ _ _) rfl

theorem va_own {E size n : Nat} {u : Value} {xs : List Value} (hV : VA w B x y q A c vs v) (ho : w.ownsRow B2 E size u n xs) (h1 : E ≠ 80) (h2 : E ≠ 99) (h3 : E ≠ 37) : ∀ g, u.ownBlock = some g → ¬ VHas x y A g := fun g hg hi => by
  obtain ⟨ep, _, hbx⟩ := hV.box
  rcases hi with hi | hi | hi
  · exact Mv.own_blk_ne ho hbx h1 g hg hi
  · exact Mv.own_blk_ne ho hV.jat.box h2 g hg hi
  · exact own_own_ne ho hV.jat.rows.own h3 g hg (by rw [← hi]; exact ownBlock_any _ _ _ _ _)

theorem rv_blk (hV : RV w B x y p A c vs v) (hb : Blk w g t cs) (h1 : t ≠ 84) (h2 : t ≠ 88) (h3 : t ≠ 37) : ¬ VHas x y A g := fun hi => by
  rcases hi with hi | hi | hi
  · exact blk_blk_ne hb hV.box h1 hi
  · exact blk_blk_ne hb hV.jat.box h2 hi
  · exact Mv.own_blk_ne hV.jat.rows.own hb (Ne.symm h3) g (by rw [← hi]; exact ownBlock_any _ _ _ _ _) rfl

theorem rv_own {E size n : Nat} {u : Value} {xs : List Value} (hV : RV w B x y p A c vs v) (ho : w.ownsRow B2 E size u n xs) (h1 : E ≠ 84) (h2 : E ≠ 88) (h3 : E ≠ 37) : ∀ g, u.ownBlock = some g → ¬ VHas x y A g := fun g hg hi => by
  rcases hi with hi | hi | hi
  · exact Mv.own_blk_ne ho hV.box h1 g hg hi
  · exact Mv.own_blk_ne ho hV.jat.box h2 g hg hi
  · exact own_own_ne ho hV.jat.rows.own h3 g hg (by rw [← hi]; exact ownBlock_any _ _ _ _ _)

/-- The landed vault stays where S turns. -/
theorem va_only {S : Nat → Prop} (hV : VA w B x y q A c vs v) (hO : Only w w' S) (hx : ¬ S x) (hy : ¬ S y) (hA : ∀ g, (Value.slice A 0 0).ownBlock = some g → ¬ S g) (hR : ∀ (u : Value) (b : List UInt8), Own8 w B u b → ∀ g, u.ownBlock = some g → ¬ S g) : VA w' B x y q A c vs v := by
  obtain ⟨ep, he, hbx⟩ := hV.box
  refine ⟨hV.base, ⟨ep, he, Mv.blk_only hbx hO hx⟩, hV.jat.base, Mv.blk_only hV.jat.box hO hy, Mv.own_only hV.jat.rows.own hO (fun g hg => hA g (by rw [← hg]; exact ownBlock_any _ _ _ _ _)), hV.jat.rows.len, fun i u hu => ?_⟩
  obtain ⟨z, z1, z2⟩ := hV.jat.rows.each i u hu
  exact ⟨z, z1, Mv.own_only z2 hO (hR u z z2)⟩

theorem rv_only {S : Nat → Prop} (hV : RV w B x y p A c vs v) (hO : Only w w' S) (hx : ¬ S x) (hy : ¬ S y) (hA : ∀ g, (Value.slice A 0 0).ownBlock = some g → ¬ S g) (hR : ∀ (u : Value) (b : List UInt8), Own8 w B u b → ∀ g, u.ownBlock = some g → ¬ S g) : RV w' B x y p A c vs v := by
  refine ⟨hV.base, Mv.blk_only hV.box hO hx, hV.jat.base, Mv.blk_only hV.jat.box hO hy, Mv.own_only hV.jat.rows.own hO (fun g hg => hA g (by rw [← hg]; exact ownBlock_any _ _ _ _ _)), hV.jat.rows.len, fun i u hu => ?_⟩
  obtain ⟨z, z1, z2⟩ := hV.jat.rows.each i u hu
  exact ⟨z, z1, Mv.own_only z2 hO (hR u z z2)⟩

theorem own_ab (A : Option Addr) (n c : Nat) : (Value.slice A n c).ownBlock = (Value.slice A 0 0).ownBlock := ownBlock_any _ _ _ _ _

theorem va_disk (hV : VA w B x y q A c vs v) (hD : At w Bd q d) (hO : Only w w' q.has) : VA w' B x y q A c vs v := by
  obtain ⟨ep, he, hbx⟩ := hV.box
  exact va_only hV hO (at_blk hD hbx (by decide) (by decide) (by decide)) (at_blk hD hV.jat.box (by decide) (by decide) (by decide)) (fun g hg => at_own hD hV.jat.rows.own (by decide) (by decide) (by decide) g (by rw [← hg]; exact ownBlock_any _ _ _ _ _)) (fun u b ho => at_own hD ho (by decide) (by decide) (by decide))

theorem va_ref (hV : VA w B x y q A c vs v) (hD : RefAt w Bp p d) (hO : Only w w' p.has) : VA w' B x y q A c vs v := by
  obtain ⟨ep, he, hbx⟩ := hV.box
  exact va_only hV hO (ref_blk hD hbx (by decide) (by decide) (by decide)) (ref_blk hD hV.jat.box (by decide) (by decide) (by decide)) (fun g hg => ref_own hD hV.jat.rows.own (by decide) (by decide) (by decide) g (by rw [← hg]; exact ownBlock_any _ _ _ _ _)) (fun u b ho => ref_own hD ho (by decide) (by decide) (by decide))

theorem rv_disk (hV : RV w B x y p A c vs v) (hD : At w Bd q d) (hO : Only w w' q.has) : RV w' B x y p A c vs v :=
  rv_only hV hO (at_blk hD hV.box (by decide) (by decide) (by decide)) (at_blk hD hV.jat.box (by decide) (by decide) (by decide)) (fun g hg => at_own hD hV.jat.rows.own (by decide) (by decide) (by decide) g (by rw [← hg]; exact ownBlock_any _ _ _ _ _)) (fun u b ho => at_own hD ho (by decide) (by decide) (by decide))

theorem rv_ref (hV : RV w B x y p A c vs v) (hD : RefAt w Bp p d) (hO : Only w w' p.has) : RV w' B x y p A c vs v :=
  rv_only hV hO (ref_blk hD hV.box (by decide) (by decide) (by decide)) (ref_blk hD hV.jat.box (by decide) (by decide) (by decide)) (fun g hg => ref_own hD hV.jat.rows.own (by decide) (by decide) (by decide) g (by rw [← hg]; exact ownBlock_any _ _ _ _ _)) (fun u b ho => ref_own hD ho (by decide) (by decide) (by decide))

/-- The document's vault stays where the landed one turns. -/
theorem rv_keep (hV : RV w B2 x2 y2 p A2 c2 vs2 v2) (hL : VA w B x y q A c vs v) (hD : At w Bd q d) (hO : Only w w' (fun i => q.has i ∨ VHas x y A i)) (hA : ∀ g, (Value.slice A 0 0).ownBlock = some g → (Value.slice A2 0 0).ownBlock ≠ some g) : RV w' B2 x2 y2 p A2 c2 vs2 v2 := by
  refine rv_only hV hO (fun hs => ?_) (fun hs => ?_) (fun g hg hs => ?_) (fun u b ho g hg hs => ?_)
  · exact hs.elim (at_blk hD hV.box (by decide) (by decide) (by decide)) (va_blk hL hV.box (by decide) (by decide) (by decide))
  · exact hs.elim (at_blk hD hV.jat.box (by decide) (by decide) (by decide)) (va_blk hL hV.jat.box (by decide) (by decide) (by decide))
  · have hg' : (Value.slice A2 v2.j.l.length c2).ownBlock = some g := by rw [← hg]; exact ownBlock_any _ _ _ _ _
    obtain ⟨ep, _, hbx⟩ := hL.box
    rcases hs with hs | hs | hs | hs
    · exact at_own hD hV.jat.rows.own (by decide) (by decide) (by decide) g hg' hs
    · exact Mv.own_blk_ne hV.jat.rows.own hbx (by decide) g hg' hs
    · exact Mv.own_blk_ne hV.jat.rows.own hL.jat.box (by decide) g hg' hs
    · exact hA g hs hg
  · exact hs.elim (at_own hD ho (by decide) (by decide) (by decide) g hg) (va_own hL ho (by decide) (by decide) (by decide) g hg)

theorem va_keep (hL : VA w B x y q A c vs v) (hV : RV w B2 x2 y2 p A2 c2 vs2 v2) (hD : RefAt w Bp p d) (hO : Only w w' (fun i => p.has i ∨ VHas x2 y2 A2 i)) (hA : ∀ g, (Value.slice A 0 0).ownBlock = some g → (Value.slice A2 0 0).ownBlock ≠ some g) : VA w' B x y q A c vs v := by
  obtain ⟨ep, _, hbx⟩ := hL.box
  refine va_only hL hO (fun hs => ?_) (fun hs => ?_) (fun g hg hs => ?_) (fun u b ho g hg hs => ?_)
  · exact hs.elim (ref_blk hD hbx (by decide) (by decide) (by decide)) (rv_blk hV hbx (by decide) (by decide) (by decide))
  · exact hs.elim (ref_blk hD hL.jat.box (by decide) (by decide) (by decide)) (rv_blk hV hL.jat.box (by decide) (by decide) (by decide))
  · have hg' : (Value.slice A v.j.l.length c).ownBlock = some g := by rw [← hg]; exact ownBlock_any _ _ _ _ _
    rcases hs with hs | hs | hs | hs
    · exact ref_own hD hL.jat.rows.own (by decide) (by decide) (by decide) g hg' hs
    · exact Mv.own_blk_ne hL.jat.rows.own hV.box (by decide) g hg' hs
    · exact Mv.own_blk_ne hL.jat.rows.own hV.jat.box (by decide) g hg' hs
    · exact hA g hg hs
  · exact hs.elim (ref_own hD ho (by decide) (by decide) (by decide) g hg) (rv_own hV ho (by decide) (by decide) (by decide) g hg)

theorem vhas_ref (hL : VA w B x y q A c vs v) (hD : RefAt w Bp p d) : ∀ i, p.has i → ¬ VHas x y A i := fun i hi hs => by
  obtain ⟨ep, _, hbx⟩ := hL.box
  rcases hs with hs | hs | hs
  · exact ref_blk hD hbx (by decide) (by decide) (by decide) (by rw [← hs]; exact hi)
  · exact ref_blk hD hL.jat.box (by decide) (by decide) (by decide) (by rw [← hs]; exact hi)
  · exact ref_own hD hL.jat.rows.own (by decide) (by decide) (by decide) i (by rw [← hs]; exact ownBlock_any _ _ _ _ _) hi

theorem vhas_at (hV : RV w B2 x2 y2 p A2 c2 vs2 v2) (hD : At w Bd q d) : ∀ i, q.has i → ¬ VHas x2 y2 A2 i := fun i hi hs => by
  rcases hs with hs | hs | hs
  · exact at_blk hD hV.box (by decide) (by decide) (by decide) (by rw [← hs]; exact hi)
  · exact at_blk hD hV.jat.box (by decide) (by decide) (by decide) (by rw [← hs]; exact hi)
  · exact at_own hD hV.jat.rows.own (by decide) (by decide) (by decide) i (by rw [← hs]; exact ownBlock_any _ _ _ _ _) hi

theorem vhas_lo (hL : VA w B x y q A c vs v) : ∀ k, VHas x y A k → B ≤ k := fun k hs => by
  rcases hs with hs | hs | hs
  · have := hL.base; omega
  · have := hL.jat.base; omega
  · exact (hL.jat.rows.own.lt k (by rw [← hs]; exact ownBlock_any _ _ _ _ _)).1

theorem rhas_lo (hL : RV w B x y p A c vs v) : ∀ k, VHas x y A k → B ≤ k := fun k hs => by
  rcases hs with hs | hs | hs
  · have := hL.base; omega
  · have := hL.jat.base; omega
  · exact (hL.jat.rows.own.lt k (by rw [← hs]; exact ownBlock_any _ _ _ _ _)).1
end

/-! ### All of it -/
/-- Both disks, the landed vault L and the document's R (if they are there), a step's box o. -/
structure St (w wr : World) (o : Option (Nat × Array Value)) (q : Pl) (p : Dk.Place) (L R : Option (Nat × VS)) (d1 d2 : DS) : Prop where
  some : ∃ A A2, At wr w.heap.size q d1 ∧ RefAt wr w.heap.size p d2 ∧ (∀ x v, L = Option.some (x, v) → ∃ y c vs, VA wr w.heap.size x y q A c vs v) ∧ (∀ x v, R = Option.some (x, v) → ∃ y c vs, RV wr w.heap.size x y p A2 c vs v) ∧ (∀ g, (Value.slice A 0 0).ownBlock = Option.some g → (Value.slice A2 0 0).ownBlock ≠ Option.some g)
  fit1 : ∀ x v, L = Option.some (x, v) → VFit d1 v
  fit2 : ∀ x v, R = Option.some (x, v) → VFit d2 v
  lo1 : ∀ k, q.has k → w.heap.size ≤ k
  lo2 : ∀ k, p.has k → w.heap.size ≤ k
  ap : ∀ k, q.has k → ¬ p.has k
  below : Below w.heap.size w wr
  box : ∀ g cs, o = Option.some (g, cs) → Blk wr g 40 cs
  n1 : d1.n ≤ 20000 ∧ 0 < d1.n ∧ d1.armed ≤ 9223372036854775807
  n2 : d2.n ≤ 20000 ∧ 0 < d2.n ∧ d2.armed ≤ 9223372036854775807

section
variable {w wr w1 : World} {o : Option (Nat × Array Value)} {q : Pl} {p : Dk.Place} {L R : Option (Nat × VS)} {d1 d2 d' : DS} {x x2 : Nat} {v v2 v' : VS}

theorem St.later (h : St w wr o q p L R d1 d2) (k : Below wr.heap.size wr w1) : St w w1 o q p L R d1 d2 := by
  obtain ⟨A, A2, h1, h2, h3, h4, h5⟩ := h.some
  exact ⟨⟨A, A2, Dk.at_below h1 k, h2.below k, fun x v e => by
    obtain ⟨y, c, vs, g⟩ := h3 x v e
    exact ⟨y, c, vs, g.below k⟩, fun x v e => by
    obtain ⟨y, c, vs, g⟩ := h4 x v e
    exact ⟨y, c, vs, g.below k⟩, h5⟩, h.fit1, h.fit2, h.lo1, h.lo2, h.ap, h.below.trans (k.mono h.below.size), fun g cs e => (h.box g cs e).below k, h.n1, h.n2⟩

/-- The vaults are forgotten. -/
theorem St.drop (h : St w wr o q p L R d1 d2) : St w wr o q p none none d1 d2 := by
  obtain ⟨A, A2, h1, h2, h3, h4, h5⟩ := h.some
  exact ⟨⟨none, none, h1, h2, fun x v e => (by cases e), fun x v e => (by cases e), fun g e => (by cases e)⟩, fun x v e => (by cases e), fun x v e => (by cases e), h.lo1, h.lo2, h.ap, h.below, h.box, h.n1, h.n2⟩

theorem St.bare (h : St w wr o q p L R d1 d2) : St w wr none q p L R d1 d2 := ⟨h.some, h.fit1, h.fit2, h.lo1, h.lo2, h.ap, h.below, fun g cs e => (by cases e), h.n1, h.n2⟩

theorem St.boxed (h : St w wr none q p L R d1 d2) (cs : Array Value) : St w (wr.alloc (.cells cs 40)) (Option.some (wr.heap.size, cs)) q p L R d1 d2 := by
  have h' := h.later ((Below.refl wr.heap.size wr).alloc (Nat.le_refl _) (.cells cs 40))
  exact ⟨h'.some, h'.fit1, h'.fit2, h'.lo1, h'.lo2, h'.ap, h'.below, fun g cs' e => (by injection e with e; injection e with e1 e2; subst e1 e2; exact Qu.Blk.new wr _ _), h'.n1, h'.n2⟩

/-- The landed disk has turned. -/
theorem St.turn1 (h : St w wr o q p L R d1 d2) (hD : At w1 w.heap.size q d') (ho : Only wr w1 q.has) (hn : d'.n = d1.n) (ha : d'.armed ≤ 9223372036854775807) : St w w1 o q p L R d' d2 := by
  obtain ⟨A, A2, h1, h2, h3, h4, h5⟩ := h.some
  exact ⟨⟨A, A2, hD, h2.only ho (fun i hi hs => h.ap i hs hi), fun x v e => by
    obtain ⟨y, c, vs, g⟩ := h3 x v e
    exact ⟨y, c, vs, va_disk g h1 ho⟩, fun x v e => by
    obtain ⟨y, c, vs, g⟩ := h4 x v e
    exact ⟨y, c, vs, rv_disk g h1 ho⟩, h5⟩, fun x v e => (h.fit1 x v e).disk hn ha, h.fit2, h.lo1, h.lo2, h.ap, h.below.trans (ho.toBelow h.below.size fun k hk hs => by have := h.lo1 k hs; omega), fun g cs e => Mv.blk_only (h.box g cs e) ho (at_blk h1 (h.box g cs e) (by decide) (by decide) (by decide)), by rw [hn]; exact ⟨h.n1.1, h.n1.2.1, ha⟩, h.n2⟩

theorem St.turn2 (h : St w wr o q p L R d1 d2) (hD : RefAt w1 w.heap.size p d') (ho : Only wr w1 p.has) (hn : d'.n = d2.n) (ha : d'.armed ≤ 9223372036854775807) : St w w1 o q p L R d1 d' := by
  obtain ⟨A, A2, h1, h2, h3, h4, h5⟩ := h.some
  exact ⟨⟨A, A2, h1.only ho (fun i hi hs => h.ap i hi hs), hD, fun x v e => by
    obtain ⟨y, c, vs, g⟩ := h3 x v e
    exact ⟨y, c, vs, va_ref g h2 ho⟩, fun x v e => by
    obtain ⟨y, c, vs, g⟩ := h4 x v e
    exact ⟨y, c, vs, rv_ref g h2 ho⟩, h5⟩, h.fit1, fun x v e => (h.fit2 x v e).disk hn ha, h.lo1, h.lo2, h.ap, h.below.trans (ho.toBelow h.below.size fun k hk hs => by have := h.lo2 k hs; omega), fun g cs e => Mv.blk_only (h.box g cs e) ho (ref_blk h2 (h.box g cs e) (by decide) (by decide) (by decide)), h.n1, by rw [hn]; exact ⟨h.n2.1, h.n2.2.1, ha⟩⟩

/-! ### The disks' calls -/
/-- A slice of ints that came in. -/
structure Keep (w : World) (A : Option Addr) (n : Nat) (f : Nat → Int) : Prop where
  ints : Hl.Ints w w.heap.size A n f
  fs : ∀ k, k < n → -9223372036854775808 ≤ f k ∧ f k ≤ 9223372036854775807
  small : n ≤ 40

theorem Keep.there {A : Option Addr} {n : Nat} {f : Nat → Int} (h : Keep w A n f) : ∀ a, A = some a → n ≠ 0 → a.block < w.heap.size := fun a ha hn => by
  obtain ⟨b, o, h1, h2, _⟩ := h.ints 0 (by omega)
  rw [ha] at h1
  injection h1 with h1
  rw [h1]
  exact h2

theorem Keep.on {A : Option Addr} {n : Nat} {f : Nat → Int} (h : Keep w A n f) (hb : Below w.heap.size w wr) : Hl.Ints wr wr.heap.size A n f := fun k hk => by
  obtain ⟨b, o, e1, e2, e3⟩ := h.ints k hk
  exact ⟨b, o, e1, Nat.lt_of_lt_of_le e2 hb.size, (hb.cell (p := ⟨b, o + k, none⟩) e2).trans e3⟩

theorem s_arm (h : St w wr o q p L R d1 d2) (m : Int) (hm : m ≤ 9223372036854775807) : Calls Try.prog 16 #[.pointer (some ⟨q.x, 0, none⟩), .int .i64 m] wr fun e w' => e = .returned (.tuple #[]) ∧ St w w' o q p L R (armD d1 m) d2 := by
  obtain ⟨A, A2, h1, _⟩ := h.some
  refine (Jl.arm_at wr _ q d1 m h1 h.n1.2.1 hm).mono ?_
  rintro e w' ⟨rfl, hD, ho⟩
  exact ⟨rfl, h.turn1 hD ho rfl (by show m.toNat ≤ _; omega)⟩

theorem s_rarm (h : St w wr o q p L R d1 d2) (m : Int) (hm : m ≤ 9223372036854775807) : Calls Try.prog 17 #[.pointer (some ⟨p.x, 0, none⟩), .int .i64 m] wr fun e w' => e = .returned (.tuple #[]) ∧ St w w' o q p L R d1 (armD d2 m) := by
  obtain ⟨A, A2, h1, h2, _⟩ := h.some
  refine (Dk.rarm_any wr _ p d2 m h2 h.n2.2.1 hm).mono ?_
  rintro e w' ⟨rfl, hD, ho⟩
  exact ⟨rfl, h.turn2 hD ho rfl (by show m.toNat ≤ _; omega)⟩

theorem s_crash (h : St w wr o q p L R d1 d2) {A0 : Option Addr} {kn : Nat} {kf : Nat → Int} (kc : Nat) (hI : Hl.Ints wr wr.heap.size A0 kn kf) (hd : ∀ a, A0 = Option.some a → kn ≠ 0 → ¬ q.has a.block) (hs : kn ≤ 40) (hf : ∀ k, k < kn → -9223372036854775808 ≤ kf k ∧ kf k ≤ 9223372036854775807) : Calls Try.prog 20 #[.pointer (some ⟨q.x, 0, none⟩), .slice A0 kn kc] wr fun e w' => e = .returned (.tuple #[]) ∧ St w w' o q p L R (crashD d1 kn kf) d2 := by
  obtain ⟨A, A2, h1, _⟩ := h.some
  refine (Jl.crash_at wr _ q d1 A0 kn kc kf h1 hI hd (by omega) hf h.n1.2.1 h.n1.1).mono ?_
  rintro e w' ⟨rfl, hD, ho⟩
  exact ⟨rfl, h.turn1 hD ho (Jr.crashD_n _ _ _).1 (by rw [(Jr.crashD_n _ _ _).2.1]; omega)⟩

theorem s_rcrash (h : St w wr o q p L R d1 d2) {A0 : Option Addr} {kn : Nat} {kf : Nat → Int} (kc : Nat) (hI : Hl.Ints wr wr.heap.size A0 kn kf) (hd : ∀ a, A0 = Option.some a → kn ≠ 0 → ¬ p.has a.block) (hs : kn ≤ 40) (hf : ∀ k, k < kn → -9223372036854775808 ≤ kf k ∧ kf k ≤ 9223372036854775807) : Calls Try.prog 21 #[.pointer (some ⟨p.x, 0, none⟩), .slice A0 kn kc] wr fun e w' => e = .returned (.tuple #[]) ∧ St w w' o q p L R d1 (crashD d2 kn kf) := by
  obtain ⟨A, A2, h1, h2, _⟩ := h.some
  refine (Dk.rcrash_any wr _ p d2 A0 kn kc kf h2 hI hd (by omega) hf h.n2.2.1 (by have := h.n2.1; omega)).mono ?_
  rintro e w' ⟨rfl, hD, ho⟩
  exact ⟨rfl, h.turn2 hD ho (Jr.crashD_n _ _ _).1 (by rw [(Jr.crashD_n _ _ _).2.1]; omega)⟩

theorem s_start (h : St w wr o q p L R d1 d2) : Calls Try.prog 22 #[.pointer (some ⟨q.x, 0, none⟩)] wr fun e w' => e = .returned (.tuple #[]) ∧ St w w' o q p L R (startD d1) d2 := by
  obtain ⟨A, A2, h1, _⟩ := h.some
  refine (Jl.start_at wr _ q d1 h1 h.n1.2.1 h.n1.1).mono ?_
  rintro e w' ⟨rfl, hD, ho⟩
  exact ⟨rfl, h.turn1 hD ho (Jr.startD_n _).1 (by have := (Jr.startD_n d1).2.1; have := h.n1.2.2; omega)⟩

theorem s_rstart (h : St w wr o q p L R d1 d2) : Calls Try.prog 23 #[.pointer (some ⟨p.x, 0, none⟩)] wr fun e w' => e = .returned (.tuple #[]) ∧ St w w' o q p L R d1 (startD d2) := by
  obtain ⟨A, A2, h1, h2, _⟩ := h.some
  refine (Dk.rstart_any wr _ p d2 h2 h.n2.2.1 (by have := h.n2.1; omega)).mono ?_
  rintro e w' ⟨rfl, hD, ho⟩
  exact ⟨rfl, h.turn2 hD ho (Jr.startD_n _).1 (by have := (Jr.startD_n d2).2.1; have := h.n2.2.2; omega)⟩

theorem writeD_na (d : DS) (i : Int) (b : List UInt8) : (writeD d i b).n = d.n ∧ (writeD d i b).armed ≤ d.armed := ⟨Jl.writeD_n' d i b, Jl.writeD_armed d i b⟩

theorem s_write (h : St w wr o q p L R d1 d2) (i : Int) (b : List UInt8) (hb : b.length = 64) : Calls Try.prog 18 #[.pointer (some ⟨q.x, 0, none⟩), .int .i64 i, .agg (secCells b)] wr fun e w' => e = .returned (.int .i64 (writeE d1 i)) ∧ St w w' o q p L R (writeD d1 i b) d2 ∧ Only wr w' q.has := by
  obtain ⟨A, A2, h1, _⟩ := h.some
  refine (Dd.write_lay wr _ q d1 i b h1.lay h.n1.2.1 (by have := h.n1.1; omega) hb h.n1.2.2).mono ?_
  rintro e w' ⟨rfl, hD, ho⟩
  exact ⟨rfl, h.turn1 ⟨hD, Dd.tidy_write h1.tidy h1.ok⟩ ho (writeD_na _ _ _).1 (by have := (writeD_na d1 i b).2; have := h.n1.2.2; omega), ho⟩

theorem s_rwrite (h : St w wr o q p L R d1 d2) (i : Int) (b : List UInt8) (hb : b.length = 64) : Calls Try.prog 19 #[.pointer (some ⟨p.x, 0, none⟩), .int .i64 i, .agg (secCells b)] wr fun e w' => e = .returned (.int .i64 (writeE d2 i)) ∧ St w w' o q p L R d1 (writeD d2 i b) ∧ Only wr w' p.has := by
  obtain ⟨A, A2, h1, h2, _⟩ := h.some
  refine (Dk.rwrite_any wr _ p d2 i b h2 h.n2.2.1 (by have := h.n2.1; omega) hb h.n2.2.2).mono ?_
  rintro e w' ⟨rfl, hD, ho⟩
  exact ⟨rfl, h.turn2 hD ho (writeD_na _ _ _).1 (by have := (writeD_na d2 i b).2; have := h.n2.2.2; omega), ho⟩

/-! ### Open -/
theorem vopen_n (d : DS) : (vopenDS d).n = d.n ∧ (vopenDS d).armed ≤ d.armed := by
  unfold vopenDS
  split
  · exact ⟨rfl, Nat.le_refl _⟩
  · split
    · exact ⟨rfl, Nat.le_refl _⟩
    · exact Jr.addDS_n _ _ _

theorem at_ok {Bd : Nat} {d : DS} (h : At wr Bd q d) : d.Ok := h.lay.ok

theorem s_open (h : St w wr o q p none none d1 d2) (hE : vopenE d1 = 0) : Calls Try.prog 11 #[.pointer (some ⟨q.x, 0, none⟩)] wr fun r w' => ∃ x, r = .returned (.tuple #[.pointer (some ⟨x, 0, none⟩), .int .i64 0]) ∧ St w w' o q p (Option.some (x, vopenV d1)) none (vopenDS d1) d2 := by
  obtain ⟨A, A2, h1, h2, _⟩ := h.some
  have ht := Vl.top_lt h1.ok
  refine (Vl.open_any wr _ q d1 h1 h.n1.1 h.n1.2.2 ht).mono ?_
  rintro r w' ⟨g1, g2, _, g4⟩
  rcases g4 with ⟨g4, _⟩ | ⟨_, x, y, A', c, vs, rfl, hV⟩
  · exact absurd hE g4
  · obtain ⟨hb, hx, hj⟩ := hV
    have hz := h.below.size
    have hn := vopen_n d1
    refine ⟨x, rfl, ⟨⟨A', none, g1, h2.only g2 (fun i hi hs => h.ap i hs hi), fun x' v' e => ?_, fun x' v' e => (by cases e), fun g hg e => (by cases e)⟩, fun x' v' e => ?_, fun x' v' e => (by cases e), h.lo1, h.lo2, h.ap, h.below.trans (g2.toBelow hz fun k hk hs => by have := h.lo1 k hs; omega), fun g cs e => Mv.blk_only (h.box g cs e) g2 (at_blk h1 (h.box g cs e) (by decide) (by decide) (by decide)), by rw [hn.1]; exact ⟨h.n1.1, h.n1.2.1, by have := h.n1.2.2; omega⟩, h.n2⟩⟩
    · injection e with e
      injection e with e1 e2
      subst e1 e2
      exact ⟨y, c, vs, ⟨by omega, hx, Vl.jl_lower hj hz⟩⟩
    · injection e with e
      injection e with e1 e2
      subst e1 e2
      exact Vl.fit_open hE h.n1.1 h.n1.2.2 ht

theorem s_open_bad (h : St w wr o q p none none d1 d2) (hE : vopenE d1 ≠ 0) : Calls Try.prog 11 #[.pointer (some ⟨q.x, 0, none⟩)] wr fun r w' => r = .returned (.tuple #[.pointer none, .int .i64 (vopenE d1)]) ∧ St w w' o q p none none (vopenDS d1) d2 := by
  obtain ⟨A, A2, h1, h2, _⟩ := h.some
  refine (Vl.open_any wr _ q d1 h1 h.n1.1 h.n1.2.2 (Vl.top_lt h1.ok)).mono ?_
  rintro r w' ⟨g1, g2, _, g4⟩
  rcases g4 with ⟨_, rfl⟩ | ⟨g4, _⟩
  · have hn := vopen_n d1
    exact ⟨rfl, ⟨⟨none, none, g1, h2.only g2 (fun i hi hs => h.ap i hs hi), fun x' v' e => (by cases e), fun x' v' e => (by cases e), fun g hg e => (by cases e)⟩, fun x' v' e => (by cases e), fun x' v' e => (by cases e), h.lo1, h.lo2, h.ap, h.below.trans (g2.toBelow h.below.size fun k hk hs => by have := h.lo1 k hs; omega), fun g cs e => Mv.blk_only (h.box g cs e) g2 (at_blk h1 (h.box g cs e) (by decide) (by decide) (by decide)), by rw [hn.1]; exact ⟨h.n1.1, h.n1.2.1, by have := h.n1.2.2; omega⟩, h.n2⟩⟩
  · exact absurd g4 hE

theorem rv_lower {B B' y c : Nat} {A : Option Addr} {vs : List Value} (h : RV wr B x y p A c vs v) (hb : B' ≤ B) : RV wr B' x y p A c vs v := ⟨Nat.le_trans hb h.base, h.box, Vr.jat_lower h.jat hb⟩

theorem s_ropen (h : St w wr o q p (Option.some (x, v)) none d1 d2) (hE : vopenE d2 = 0) : Calls Try.prog 12 #[.pointer (some ⟨p.x, 0, none⟩)] wr fun r w' => ∃ x2, r = .returned (.tuple #[.pointer (some ⟨x2, 0, none⟩), .int .i64 0]) ∧ St w w' o q p (Option.some (x, v)) (Option.some (x2, vopenV d2)) d1 (vopenDS d2) := by
  obtain ⟨A, A2, h1, h2, h3, _⟩ := h.some
  obtain ⟨y, c, vs, hL⟩ := h3 x v rfl
  have ht := Vl.top_lt h2.ok
  refine (Vr.ropenv_any wr _ p d2 h2 h.n2.1 h.n2.2.2 ht).mono ?_
  rintro r w' ⟨g1, g2, g4⟩
  rcases g4 with ⟨g4, _⟩ | ⟨_, x2, y2, A', c2, vs2, rfl, hV, _⟩
  · exact absurd hE g4
  · have hz := h.below.size
    have hn := vopen_n d2
    refine ⟨x2, rfl, ⟨⟨A, A', h1.only g2 (fun i hi hs => h.ap i hi hs), g1, fun x' v' e => ?_, fun x' v' e => ?_, fun g hg e => ?_⟩, h.fit1, fun x' v' e => ?_, h.lo1, h.lo2, h.ap, h.below.trans (g2.toBelow hz fun k hk hs => by have := h.lo2 k hs; omega), fun g cs e => Mv.blk_only (h.box g cs e) g2 (ref_blk h2 (h.box g cs e) (by decide) (by decide) (by decide)), h.n1, by rw [hn.1]; exact ⟨h.n2.1, h.n2.2.1, by have := h.n2.2.2; omega⟩⟩⟩
    · injection e with e
      injection e with e1 e2
      subst e1 e2
      exact ⟨y, c, vs, va_ref hL h2 g2⟩
    · injection e with e
      injection e with e1 e2
      subst e1 e2
      exact ⟨y2, c2, vs2, rv_lower hV hz⟩
    · have q1 := (hV.jat.rows.own.lt g (by rw [← e]; exact ownBlock_any _ _ _ _ _)).1
      have q2 := (hL.jat.rows.own.lt g (by rw [← hg]; exact ownBlock_any _ _ _ _ _)).2
      omega
    · injection e with e
      injection e with e1 e2
      subst e1 e2
      exact Vl.fit_open hE h.n2.1 h.n2.2.2 ht

theorem s_ropen_bad (h : St w wr o q p none none d1 d2) (hE : vopenE d2 ≠ 0) : Calls Try.prog 12 #[.pointer (some ⟨p.x, 0, none⟩)] wr fun r w' => r = .returned (.tuple #[.pointer none, .int .i64 (vopenE d2)]) ∧ St w w' o q p none none d1 (vopenDS d2) := by
  obtain ⟨A, A2, h1, h2, _⟩ := h.some
  refine (Vr.ropenv_any wr _ p d2 h2 h.n2.1 h.n2.2.2 (Vl.top_lt h2.ok)).mono ?_
  rintro r w' ⟨g1, g2, g4⟩
  rcases g4 with ⟨_, rfl⟩ | ⟨g4, _⟩
  · have hn := vopen_n d2
    exact ⟨rfl, ⟨⟨none, none, h1.only g2 (fun i hi hs => h.ap i hi hs), g1, fun x' v' e => (by cases e), fun x' v' e => (by cases e), fun g hg e => (by cases e)⟩, fun x' v' e => (by cases e), fun x' v' e => (by cases e), h.lo1, h.lo2, h.ap, h.below.trans (g2.toBelow h.below.size fun k hk hs => by have := h.lo2 k hs; omega), fun g cs e => Mv.blk_only (h.box g cs e) g2 (ref_blk h2 (h.box g cs e) (by decide) (by decide) (by decide)), h.n1, by rw [hn.1]; exact ⟨h.n2.1, h.n2.2.1, by have := h.n2.2.2; omega⟩⟩⟩
  · exact absurd g4 hE

/-! ### Add and Compact -/
theorem s_vae {y c : Nat} {A A2 : Option Addr} {vs : List Value} {E : Int} {e : Ending} (h : St w wr o q p (Option.some (x, v)) (Option.some (x2, v2)) d1 d2) (h1 : At wr w.heap.size q d1) (h2 : RefAt wr w.heap.size p d2) (hL : VA wr w.heap.size x y q A c vs v) (hR : ∃ y c vs, RV wr w.heap.size x2 y p A2 c vs v2) (hA : ∀ g, (Value.slice A 0 0).ownBlock = Option.some g → (Value.slice A2 0 0).ownBlock ≠ Option.some g)
    (hE : VAE wr w.heap.size w.heap.size x q y A d' v' E e w1) (hf : VFit d' v') (hn : d'.n = d1.n) (ha : d'.armed ≤ d1.armed) : e = .returned (.int .i64 E) ∧ St w w1 o q p (Option.some (x, v')) (Option.some (x2, v2)) d' d2 := by
  obtain ⟨y2, c2, vs2, hR⟩ := hR
  obtain ⟨he, g1, y', A', c', vs', g2, g3, g4, g5⟩ := hE
  refine ⟨he, ⟨⟨A', A2, g1, h2.only g3 (fun i hi hs => hs.elim (fun hs => h.ap i hs hi) (fun hs => vhas_ref hL h2 i hi hs)), fun x' v' e => ?_, fun x' v' e => ?_, fun g hg e => ?_⟩, fun x' v' e => ?_, h.fit2, h.lo1, h.lo2, h.ap, h.below.trans (g3.toBelow h.below.size fun k hk hs => ?_), fun g cs e => Mv.blk_only (h.box g cs e) g3 (fun hs => hs.elim (at_blk h1 (h.box g cs e) (by decide) (by decide) (by decide)) (va_blk hL (h.box g cs e) (by decide) (by decide) (by decide))), by rw [hn]; exact ⟨h.n1.1, h.n1.2.1, by have := h.n1.2.2; omega⟩, h.n2⟩⟩
  · injection e with e
    injection e with e1 e2
    subst e1 e2
    exact ⟨y', c', vs', g2⟩
  · injection e with e
    injection e with e1 e2
    subst e1 e2
    exact ⟨y2, c2, vs2, rv_keep hR hL h1 g3 hA⟩
  · rcases g5 with g5 | ⟨k, g5, hk⟩
    · exact hA g (by rw [← g5]; exact hg) e
    · rw [g5] at hg
      injection hg with hg
      have := (hR.jat.rows.own.lt g (by rw [← e]; exact ownBlock_any _ _ _ _ _)).2
      omega
  · injection e with e
    injection e with e1 e2
    subst e1 e2
    exact hf
  · rcases hs with hs | hs
    · have := h.lo1 k hs; omega
    · have := vhas_lo hL k hs; omega

theorem vadd_n (d : DS) (v : VS) (b : List UInt8) : (vaddDS d v b).n = d.n ∧ (vaddDS d v b).armed ≤ d.armed := by
  unfold vaddDS
  split
  · exact ⟨rfl, Nat.le_refl _⟩
  · exact Jr.addDS_n _ _ _

theorem vcomp_n (d : DS) (v : VS) (b : List UInt8) : (vcompDS d v b).n = d.n ∧ (vcompDS d v b).armed ≤ d.armed := by
  unfold vcompDS
  split
  · exact ⟨rfl, Nat.le_refl _⟩
  · exact Jr.addDS_n _ _ _

theorem s_add (h : St w wr o q p (Option.some (x, v)) (Option.some (x2, v2)) d1 d2) {Ab : Option Addr} {cb : Nat} {b : List UInt8} (hb : Bys wr wr.heap.size Ab b.length b) (hcb : b.length ≤ cb) (hcb2 : cb ≤ 9223372036854775807) (hlen : b.length ≤ 1000000000000) (hfar : ∀ a, Ab = some a → b.length ≠ 0 → ¬ q.has a.block) :
    Calls Try.prog 24 #[.pointer (some ⟨x, 0, none⟩), .slice Ab b.length cb] wr fun e w' => e = .returned (.int .i64 (vaddE d1 v b)) ∧ St w w' o q p (Option.some (x, vaddV d1 v b)) (Option.some (x2, v2)) (vaddDS d1 v b) d2 := by
  obtain ⟨A, A2, h1, h2, h3, h4, h5⟩ := h.some
  obtain ⟨y, c, vs, hL⟩ := h3 x v rfl
  exact (Vl.vadd_weak hL h1 (h.fit1 x v rfl) hb hcb hcb2 hlen hfar).mono fun e w' hE => s_vae h h1 h2 hL (h4 x2 v2 rfl) h5 hE (h.fit1 x v rfl).add (vadd_n _ _ _).1 (vadd_n _ _ _).2

theorem s_comp (h : St w wr o q p (Option.some (x, v)) (Option.some (x2, v2)) d1 d2) {Ab : Option Addr} {cb : Nat} {b : List UInt8} (hb : Bys wr wr.heap.size Ab b.length b) (hA0 : Ab = none → b.length = 0 ∧ cb = 0) (hlen : b.length ≤ 1000000000000) :
    Calls Try.prog 14 #[.pointer (some ⟨x, 0, none⟩), .slice Ab b.length cb] wr fun e w' => e = .returned (.int .i64 (vcompE d1 v b)) ∧ St w w' o q p (Option.some (x, vcompV d1 v b)) (Option.some (x2, v2)) (vcompDS d1 v b) d2 := by
  obtain ⟨A, A2, h1, h2, h3, h4, h5⟩ := h.some
  obtain ⟨y, c, vs, hL⟩ := h3 x v rfl
  exact (Vl.vcomp_any hL h1 (h.fit1 x v rfl) hb hA0 hlen).mono fun e w' hE => s_vae h h1 h2 hL (h4 x2 v2 rfl) h5 hE (h.fit1 x v rfl).comp (vcomp_n _ _ _).1 (vcomp_n _ _ _).2

theorem s_rve {y c : Nat} {A A2 : Option Addr} {vs : List Value} {E : Int} {e : Ending} (h : St w wr o q p (Option.some (x, v)) (Option.some (x2, v2)) d1 d2) (h1 : At wr w.heap.size q d1) (h2 : RefAt wr w.heap.size p d2) (hL : ∃ y c vs, VA wr w.heap.size x y q A c vs v) (hR : RV wr w.heap.size x2 y p A2 c vs v2) (hA : ∀ g, (Value.slice A 0 0).ownBlock = Option.some g → (Value.slice A2 0 0).ownBlock ≠ Option.some g)
    (hE : RVE wr w.heap.size w.heap.size x2 p y A2 d' v' E e w1) (hf : VFit d' v') (hn : d'.n = d2.n) (ha : d'.armed ≤ d2.armed) : e = .returned (.int .i64 E) ∧ St w w1 o q p (Option.some (x, v)) (Option.some (x2, v')) d1 d' := by
  obtain ⟨y1, c1, vs1, hL⟩ := hL
  obtain ⟨he, g1, y', A', c', vs', g2, g3, g4, g5⟩ := hE
  refine ⟨he, ⟨⟨A, A', h1.only g3 (fun i hi hs => hs.elim (fun hs => h.ap i hi hs) (fun hs => vhas_at hR h1 i hi hs)), g1, fun x' v' e => ?_, fun x' v' e => ?_, fun g hg e => ?_⟩, h.fit1, fun x' v' e => ?_, h.lo1, h.lo2, h.ap, h.below.trans (g3.toBelow h.below.size fun k hk hs => ?_), fun g cs e => Mv.blk_only (h.box g cs e) g3 (fun hs => hs.elim (ref_blk h2 (h.box g cs e) (by decide) (by decide) (by decide)) (rv_blk hR (h.box g cs e) (by decide) (by decide) (by decide))), h.n1, by rw [hn]; exact ⟨h.n2.1, h.n2.2.1, by have := h.n2.2.2; omega⟩⟩⟩
  · injection e with e
    injection e with e1 e2
    subst e1 e2
    exact ⟨y1, c1, vs1, va_keep hL hR h2 g3 hA⟩
  · injection e with e
    injection e with e1 e2
    subst e1 e2
    exact ⟨y', c', vs', g2⟩
  · rcases g5 with g5 | ⟨k, g5, hk⟩
    · exact hA g hg (by rw [← g5]; exact e)
    · rw [g5] at e
      injection e with e
      have := (hL.jat.rows.own.lt g (by rw [← hg]; exact ownBlock_any _ _ _ _ _)).2
      omega
  · injection e with e
    injection e with e1 e2
    subst e1 e2
    exact hf
  · rcases hs with hs | hs
    · have := h.lo2 k hs; omega
    · have := rhas_lo hR k hs; omega

theorem s_radd (h : St w wr o q p (Option.some (x, v)) (Option.some (x2, v2)) d1 d2) {Ab : Option Addr} {cb : Nat} {b : List UInt8} (hb : Bys wr wr.heap.size Ab b.length b) (hcb : b.length ≤ cb) (hcb2 : cb ≤ 9223372036854775807) (hlen : b.length ≤ 1000000000000) (hfar : ∀ a, Ab = some a → b.length ≠ 0 → a.block < w.heap.size) :
    Calls Try.prog 25 #[.pointer (some ⟨x2, 0, none⟩), .slice Ab b.length cb] wr fun e w' => e = .returned (.int .i64 (vaddE d2 v2 b)) ∧ St w w' o q p (Option.some (x, v)) (Option.some (x2, vaddV d2 v2 b)) d1 (vaddDS d2 v2 b) := by
  obtain ⟨A, A2, h1, h2, h3, h4, h5⟩ := h.some
  obtain ⟨y, c, vs, hR⟩ := h4 x2 v2 rfl
  exact (Vr.rvadd_any hR h2 (h.fit2 x2 v2 rfl) hb hcb hcb2 hlen (fun a ha hn hp => by have := hfar a ha hn; have := h.lo2 _ hp; omega) (fun a ha hn hy => by have := hfar a ha hn; have := hR.jat.base; omega)).mono fun e w' hE => s_rve h h1 h2 (h3 x v rfl) hR h5 hE (h.fit2 x2 v2 rfl).add (vadd_n _ _ _).1 (vadd_n _ _ _).2

theorem s_rcomp (h : St w wr o q p (Option.some (x, v)) (Option.some (x2, v2)) d1 d2) {Ab : Option Addr} {cb : Nat} {b : List UInt8} (hb : Bys wr wr.heap.size Ab b.length b) (hA0 : Ab = none → b.length = 0 ∧ cb = 0) (hlen : b.length ≤ 1000000000000) (hfar : ∀ a, Ab = some a → b.length ≠ 0 → a.block < w.heap.size) :
    Calls Try.prog 15 #[.pointer (some ⟨x2, 0, none⟩), .slice Ab b.length cb] wr fun e w' => e = .returned (.int .i64 (vcompE d2 v2 b)) ∧ St w w' o q p (Option.some (x, v)) (Option.some (x2, vcompV d2 v2 b)) d1 (vcompDS d2 v2 b) := by
  obtain ⟨A, A2, h1, h2, h3, h4, h5⟩ := h.some
  obtain ⟨y, c, vs, hR⟩ := h4 x2 v2 rfl
  by_cases hs : cstopE d2 v2 b = 0
  · exact (Vr.rvcomp_go hR h2 (h.fit2 x2 v2 rfl) hb hA0 (fun a ha hn hy => by have := hfar a ha hn; have := hR.base; omega) hlen hs).mono fun e w' hE => s_rve h h1 h2 (h3 x v rfl) hR h5 hE (h.fit2 x2 v2 rfl).comp (vcomp_n _ _ _).1 (vcomp_n _ _ _).2
  · exact (Vr.rvcomp_stop hR h2 (h.fit2 x2 v2 rfl) hlen hs).mono fun e w' hE => s_rve h h1 h2 (h3 x v rfl) hR h5 hE (h.fit2 x2 v2 rfl).comp (vcomp_n _ _ _).1 (vcomp_n _ _ _).2
end

end Go.Proofs.Ytedgookkogpfbaa.Vq
