/- Law 08: both journals, each on a disk of its own, and a step's box beside them: what each call leaves of them. -/
import Derived.Test.YtibadhoabobmpaaJlV
import Derived.Test.YtibadhoabobmpaaJrE
set_option maxRecDepth 100000
namespace Go.Proofs.Ytibadhoabobmpaa.Jp
open Go.ChangeShapes Go.WideShapes Go.ChangeAt Go.RowKit
open Qu (Blk)
open Mv (Only Fresh)
open By (Own8 Bys cellsB cellsB_length)
open Dk (DS dsNew crashD startD armD writeD writeE RefAt secCells)
open Dd (Lay At Tidy Pl)
open Jr (JS Recd JHas needN own_own_ne ownBlock_any newE blankJ openJ addE addDS addJ stopE Fit blk_blk_ne)
open Jl (Pair PairE RecE own_far_disk)
set_option linter.unusedVariables false

/-- A slice of ints that came in. -/
structure Keep (w : World) (A : Option Addr) (n : Nat) (f : Nat → Int) : Prop where
  ints : Hl.Ints w w.heap.size A n f
  fs : ∀ k, k < n → -9223372036854775808 ≤ f k ∧ f k ≤ 9223372036854775807
  small : n ≤ 40

theorem Keep.there {w : World} {A : Option Addr} {n : Nat} {f : Nat → Int} (h : Keep w A n f) : ∀ a, A = some a → n ≠ 0 → a.block < w.heap.size := fun a ha hn => by
  obtain ⟨b, o, h1, h2, _⟩ := h.ints 0 (by omega)
  rw [ha] at h1
  injection h1 with h1
  rw [h1]
  exact h2

theorem Keep.on {w wr : World} {A : Option Addr} {n : Nat} {f : Nat → Int} (h : Keep w A n f) (hb : Below w.heap.size w wr) : Hl.Ints wr wr.heap.size A n f := fun k hk => by
  obtain ⟨b, o, e1, e2, e3⟩ := h.ints k hk
  exact ⟨b, o, e1, Nat.lt_of_lt_of_le e2 hb.size, (hb.cell (p := ⟨b, o + k, none⟩) e2).trans e3⟩

/-- Both, and a step's box. -/
structure Quad (w wr : World) (g : Nat) (cs : Array Value) (q : Pl) (p : Dk.Place) (x y : Nat) (A A2 : Option Addr) (d1 : DS) (j1 : JS) (d2 : DS) (j2 : JS) : Prop where
  some : ∃ Bd Bj Bp By c vs c2 us, Pair w wr x Bd Bj q A c vs j1 d1 ∧ RefAt wr Bp p d2 ∧ Jr.JAt wr By y p.x A2 c2 us j2 ∧ w.heap.size ≤ By ∧ (∀ g, (Value.slice A 0 0).ownBlock = some g → (Value.slice A2 0 0).ownBlock ≠ some g)
  fit : Fit d2 j2
  lo : ∀ k, p.has k → w.heap.size ≤ k
  ap : ∀ k, q.has k → ¬ p.has k
  box : Blk wr g 41 cs
  glo : w.heap.size ≤ g

section
variable {w wr w1 : World} {g x y : Nat} {cs : Array Value} {q : Pl} {p : Dk.Place} {d1 d2 d' : DS} {j1 j2 : JS} {A A2 : Option Addr}

theorem Quad.below (h : Quad w wr g cs q p x y A A2 d1 j1 d2 j2) : Below w.heap.size w wr := by
  obtain ⟨Bd, Bj, Bp, B2, c, vs, c2, us, h1, _⟩ := h.some
  exact h1.below

theorem Quad.later (h : Quad w wr g cs q p x y A A2 d1 j1 d2 j2) (k : Below wr.heap.size wr w1) : Quad w w1 g cs q p x y A A2 d1 j1 d2 j2 := by
  obtain ⟨Bd, Bj, Bp, B2, c, vs, c2, us, h1, h2, h3, h4, h5⟩ := h.some
  exact ⟨⟨Bd, Bj, Bp, B2, c, vs, c2, us, h1.later k, h2.below k, h3.below k, h4, h5⟩, h.fit, h.lo, h.ap, h.box.below k, h.glo⟩

/-- Where its parts lie. -/
theorem Quad.low (h : Quad w wr g cs q p x y A A2 d1 j1 d2 j2) : (∀ k, q.has k ∨ JHas x A k → k < wr.heap.size) ∧ (∀ k, p.has k ∨ JHas y A2 k → k < wr.heap.size) := by
  obtain ⟨Bd, Bj, Bp, B2, c, vs, c2, us, h1, h2, h3, h4, h5⟩ := h.some
  refine ⟨fun k hk => ?_, fun k hk => ?_⟩
  · rcases hk with hk | hk | hk
    · exact h1.disk.there k hk
    · rw [hk]; exact h1.jat.box.lt
    · exact (h1.jat.rows.own.lt k (by rw [← hk]; exact ownBlock_any _ _ _ _ _)).2
  · rcases hk with hk | hk | hk
    · rcases hk with rfl | rfl | rfl | rfl
      · exact h2.box.lt
      · exact (World.ownsRow.lt h2.now.2 p.a rfl).2
      · exact (World.ownsRow.lt h2.sure.2 p.b rfl).2
      · exact (World.ownsRow.lt h2.loose p.c rfl).2
    · rw [hk]; exact h3.box.lt
    · exact (h3.rows.own.lt k (by rw [← hk]; exact ownBlock_any _ _ _ _ _)).2

/-- A disk's blocks are none of a journal's, of either kind, whatever the types say. -/
theorem jat_disk {By c2 : Nat} {us : List Value} (hJ : Jr.JAt wr By y p.x A2 c2 us j2) {Bd : Nat} {d : DS} (hD : Lay wr Bd q d) (ho : Only wr w1 q.has) : Jr.JAt w1 By y p.x A2 c2 us j2 := by
  have hap : ∀ i, q.has i → i ≠ y ∧ (Value.slice A2 j2.l.length c2).ownBlock ≠ some i := fun i hi => by
    have hb := hJ.box
    have hr := hJ.rows.own
    rcases hi with hi | hi | hi | hi <;> subst hi
    · exact ⟨fun e => blk_blk_ne hb hD.box (by decide) e.symm, fun e => Mv.own_blk_ne hr hD.box (by decide) _ e rfl⟩
    · exact ⟨fun e => Mv.own_blk_ne hD.now.2 hb (by decide) q.a rfl e, fun e => own_own_ne hr hD.now.2 (by decide) _ e rfl⟩
    · exact ⟨fun e => Mv.own_blk_ne hD.sure.2 hb (by decide) q.b rfl e, fun e => own_own_ne hr hD.sure.2 (by decide) _ e rfl⟩
    · exact ⟨fun e => Mv.own_blk_ne hD.loose hb (by decide) q.c rfl e, fun e => own_own_ne hr hD.loose (by decide) _ e rfl⟩
  refine ⟨hJ.base, Mv.blk_only hJ.box ho fun h => (hap y h).1 rfl, Mv.own_only hJ.rows.own ho fun g hg hs => (hap g hs).2 hg, hJ.rows.len, fun i v hv => ?_⟩
  obtain ⟨z, z1, z2⟩ := hJ.rows.each i v hv
  refine ⟨z, z1, Mv.own_only z2 ho fun g hg hs => ?_⟩
  rcases hs with hs | hs | hs | hs <;> subst hs
  · exact Mv.own_blk_ne z2 hD.box (by decide) _ hg rfl
  · exact own_own_ne z2 hD.now.2 (by decide) _ hg rfl
  · exact own_own_ne z2 hD.sure.2 (by decide) _ hg rfl
  · exact own_own_ne z2 hD.loose (by decide) _ hg rfl

theorem jl_disk {Bp Bj c : Nat} {vs : List Value} {d : DS} (hJ : Jl.JAt wr Bj x q.x A c vs j1) (hD : RefAt wr Bp p d) (ho : Only wr w1 p.has) : Jl.JAt w1 Bj x q.x A c vs j1 := by
  have hap : ∀ i, p.has i → i ≠ x ∧ (Value.slice A j1.l.length c).ownBlock ≠ some i := fun i hi => by
    have hb := hJ.box
    have hr := hJ.rows.own
    rcases hi with hi | hi | hi | hi <;> subst hi
    · exact ⟨fun e => blk_blk_ne hb hD.box (by decide) e.symm, fun e => Mv.own_blk_ne hr hD.box (by decide) _ e rfl⟩
    · exact ⟨fun e => Mv.own_blk_ne hD.now.2 hb (by decide) p.a rfl e, fun e => own_own_ne hr hD.now.2 (by decide) _ e rfl⟩
    · exact ⟨fun e => Mv.own_blk_ne hD.sure.2 hb (by decide) p.b rfl e, fun e => own_own_ne hr hD.sure.2 (by decide) _ e rfl⟩
    · exact ⟨fun e => Mv.own_blk_ne hD.loose hb (by decide) p.c rfl e, fun e => own_own_ne hr hD.loose (by decide) _ e rfl⟩
  refine ⟨hJ.base, Mv.blk_only hJ.box ho fun h => (hap x h).1 rfl, Mv.own_only hJ.rows.own ho fun g hg hs => (hap g hs).2 hg, hJ.rows.len, fun i v hv => ?_⟩
  obtain ⟨z, z1, z2⟩ := hJ.rows.each i v hv
  refine ⟨z, z1, Mv.own_only z2 ho fun g hg hs => ?_⟩
  rcases hs with hs | hs | hs | hs <;> subst hs
  · exact Mv.own_blk_ne z2 hD.box (by decide) _ hg rfl
  · exact own_own_ne z2 hD.now.2 (by decide) _ hg rfl
  · exact own_own_ne z2 hD.sure.2 (by decide) _ hg rfl
  · exact own_own_ne z2 hD.loose (by decide) _ hg rfl

theorem box_disk {Bd : Nat} {d : DS} (hb : Blk wr g 41 cs) (hD : Lay wr Bd q d) : ¬ q.has g := fun hi => by
  rcases hi with hi | hi | hi | hi
  · exact blk_blk_ne hb hD.box (by decide) hi
  · exact Mv.own_blk_ne hD.now.2 hb (by decide) q.a rfl hi.symm
  · exact Mv.own_blk_ne hD.sure.2 hb (by decide) q.b rfl hi.symm
  · exact Mv.own_blk_ne hD.loose hb (by decide) q.c rfl hi.symm

theorem box_ref {Bp : Nat} {d : DS} (hb : Blk wr g 41 cs) (hD : RefAt wr Bp p d) : ¬ p.has g := fun hi => by
  rcases hi with hi | hi | hi | hi
  · exact blk_blk_ne hb hD.box (by decide) hi
  · exact Mv.own_blk_ne hD.now.2 hb (by decide) p.a rfl hi.symm
  · exact Mv.own_blk_ne hD.sure.2 hb (by decide) p.b rfl hi.symm
  · exact Mv.own_blk_ne hD.loose hb (by decide) p.c rfl hi.symm

/-- The landed disk alone has turned. -/
theorem Quad.disk (h : Quad w wr g cs q p x y A A2 d1 j1 d2 j2) (hD : ∀ Bd, At wr Bd q d1 → At w1 Bd q d') (ho : Only wr w1 q.has) (hn : d'.n = d1.n) (ha : d'.armed ≤ 9223372036854775807) : Quad w w1 g cs q p x y A A2 d' j1 d2 j2 := by
  obtain ⟨Bd, Bj, Bp, B2, c, vs, c2, us, h1, h2, h3, h4, h5⟩ := h.some
  exact ⟨⟨Bd, Bj, Bp, B2, c, vs, c2, us, h1.turned (hD Bd h1.disk) ho hn ha, h2.only ho (fun i hi hs => h.ap i hs hi), jat_disk h3 h1.disk.lay ho, h4, h5⟩, h.fit, h.lo, h.ap, Mv.blk_only h.box ho (box_disk h.box h1.disk.lay), h.glo⟩

/-- The document's disk alone has turned. -/
theorem Quad.ref (h : Quad w wr g cs q p x y A A2 d1 j1 d2 j2) (hD : ∀ Bp, RefAt wr Bp p d2 → RefAt w1 Bp p d') (ho : Only wr w1 p.has) (hn : d'.n = d2.n) (ha : d'.armed ≤ 9223372036854775807) : Quad w w1 g cs q p x y A A2 d1 j1 d' j2 := by
  obtain ⟨Bd, Bj, Bp, B2, c, vs, c2, us, h1, h2, h3, h4, h5⟩ := h.some
  refine ⟨⟨Bd, Bj, Bp, B2, c, vs, c2, us, ⟨h1.disk.only ho (fun i hi hs => h.ap i hi hs), jl_disk h1.jat h2 ho, h1.lo, h1.base, h1.below.trans (ho.toBelow h1.below.size fun k hk hs => by have := h.lo k hs; omega), h1.fit⟩, hD Bp h2, h3.disk h2 ho, h4, h5⟩, h.fit.disk hn ha, h.lo, h.ap, Mv.blk_only h.box ho (box_ref h.box h2), h.glo⟩

/-! ### The disks' calls -/
theorem q_arm (h : Quad w wr g cs q p x y A A2 d1 j1 d2 j2) (m : Int) (hm : m ≤ 9223372036854775807) (n0 : 0 < d1.n) : Calls Try.prog 15 #[.pointer (some ⟨q.x, 0, none⟩), .int .i64 m] wr fun e w' => e = .returned (.tuple #[]) ∧ Quad w w' g cs q p x y A A2 (armD d1 m) j1 d2 j2 := by
  obtain ⟨Bd, Bj, Bp, B2, c, vs, c2, us, h1, h2, h3, h4, h5⟩ := h.some
  refine (Jl.arm_at wr Bd q d1 m h1.disk n0 hm).mono ?_
  rintro e w' ⟨rfl, hD, ho⟩
  refine ⟨rfl, ⟨⟨Bd, Bj, Bp, B2, c, vs, c2, us, h1.turned hD ho rfl (by show m.toNat ≤ _; omega), h2.only ho (fun i hi hs => h.ap i hs hi), jat_disk h3 h1.disk.lay ho, h4, h5⟩, h.fit, h.lo, h.ap, Mv.blk_only h.box ho (box_disk h.box h1.disk.lay), h.glo⟩⟩

theorem q_crash (h : Quad w wr g cs q p x y A A2 d1 j1 d2 j2) {A0 : Option Addr} {kn : Nat} {kf : Nat → Int} (kc : Nat) (hK : Keep w A0 kn kf) (n0 : 0 < d1.n) : Calls Try.prog 19 #[.pointer (some ⟨q.x, 0, none⟩), .slice A0 kn kc] wr fun e w' => e = .returned (.tuple #[]) ∧ Quad w w' g cs q p x y A A2 (crashD d1 kn kf) j1 d2 j2 := by
  obtain ⟨Bd, Bj, Bp, B2, c, vs, c2, us, h1, h2, h3, h4, h5⟩ := h.some
  refine (Jl.crash_at wr Bd q d1 A0 kn kc kf h1.disk (hK.on h1.below) (fun a ha hn hh => by have := hK.there a ha hn; have := h1.lo _ hh; omega) (by have := hK.small; omega) hK.fs n0 h1.fit.dn).mono ?_
  rintro e w' ⟨rfl, hD, ho⟩
  refine ⟨rfl, ⟨⟨Bd, Bj, Bp, B2, c, vs, c2, us, h1.turned hD ho (Jr.crashD_n _ _ _).1 (by rw [(Jr.crashD_n _ _ _).2.1]; omega), h2.only ho (fun i hi hs => h.ap i hs hi), jat_disk h3 h1.disk.lay ho, h4, h5⟩, h.fit, h.lo, h.ap, Mv.blk_only h.box ho (box_disk h.box h1.disk.lay), h.glo⟩⟩

theorem q_start (h : Quad w wr g cs q p x y A A2 d1 j1 d2 j2) (n0 : 0 < d1.n) : Calls Try.prog 21 #[.pointer (some ⟨q.x, 0, none⟩)] wr fun e w' => e = .returned (.tuple #[]) ∧ Quad w w' g cs q p x y A A2 (startD d1) j1 d2 j2 := by
  obtain ⟨Bd, Bj, Bp, B2, c, vs, c2, us, h1, h2, h3, h4, h5⟩ := h.some
  refine (Jl.start_at wr Bd q d1 h1.disk n0 h1.fit.dn).mono ?_
  rintro e w' ⟨rfl, hD, ho⟩
  refine ⟨rfl, ⟨⟨Bd, Bj, Bp, B2, c, vs, c2, us, h1.turned hD ho (Jr.startD_n _).1 (by have := (Jr.startD_n d1).2.1; have := h1.fit.armed; omega), h2.only ho (fun i hi hs => h.ap i hs hi), jat_disk h3 h1.disk.lay ho, h4, h5⟩, h.fit, h.lo, h.ap, Mv.blk_only h.box ho (box_disk h.box h1.disk.lay), h.glo⟩⟩

theorem writeD_na (d : DS) (i : Int) (b : List UInt8) : (writeD d i b).n = d.n ∧ (writeD d i b).armed ≤ d.armed := by
  constructor
  · exact Jl.writeD_n' d i b
  · exact Jl.writeD_armed d i b

theorem q_write (h : Quad w wr g cs q p x y A A2 d1 j1 d2 j2) (i : Int) (b : List UInt8) (hb : b.length = 64) (n0 : 0 < d1.n) : Calls Try.prog 17 #[.pointer (some ⟨q.x, 0, none⟩), .int .i64 i, .agg (secCells b)] wr fun e w' => e = .returned (.int .i64 (writeE d1 i)) ∧ Quad w w' g cs q p x y A A2 (writeD d1 i b) j1 d2 j2 ∧ Only wr w' q.has := by
  obtain ⟨Bd, Bj, Bp, B2, c, vs, c2, us, h1, h2, h3, h4, h5⟩ := h.some
  refine (Dd.write_lay wr Bd q d1 i b h1.disk.lay n0 (by have := h1.fit.dn; omega) hb h1.fit.armed).mono ?_
  rintro e w' ⟨rfl, hD, ho⟩
  refine ⟨rfl, ⟨⟨Bd, Bj, Bp, B2, c, vs, c2, us, h1.turned ⟨hD, Dd.tidy_write h1.disk.tidy h1.disk.ok⟩ ho (writeD_na _ _ _).1 (by have := (writeD_na d1 i b).2; have := h1.fit.armed; omega), h2.only ho (fun i hi hs => h.ap i hs hi), jat_disk h3 h1.disk.lay ho, h4, h5⟩, h.fit, h.lo, h.ap, Mv.blk_only h.box ho (box_disk h.box h1.disk.lay), h.glo⟩, ho⟩

theorem q_rarm (h : Quad w wr g cs q p x y A A2 d1 j1 d2 j2) (m : Int) (hm : m ≤ 9223372036854775807) (n0 : 0 < d2.n) : Calls Try.prog 16 #[.pointer (some ⟨p.x, 0, none⟩), .int .i64 m] wr fun e w' => e = .returned (.tuple #[]) ∧ Quad w w' g cs q p x y A A2 d1 j1 (armD d2 m) j2 := by
  obtain ⟨Bd, Bj, Bp, B2, c, vs, c2, us, h1, h2, h3, h4, h5⟩ := h.some
  refine (Dk.rarm_any wr Bp p d2 m h2 n0 hm).mono ?_
  rintro e w' ⟨rfl, hD, ho⟩
  refine ⟨rfl, ⟨⟨Bd, Bj, Bp, B2, c, vs, c2, us, ⟨h1.disk.only ho (fun i hi hs => h.ap i hi hs), jl_disk h1.jat h2 ho, h1.lo, h1.base, h1.below.trans (ho.toBelow h1.below.size fun k hk hs => by have := h.lo k hs; omega), h1.fit⟩, hD, h3.disk h2 ho, h4, h5⟩, h.fit.disk rfl (by show m.toNat ≤ _; omega), h.lo, h.ap, Mv.blk_only h.box ho (box_ref h.box h2), h.glo⟩⟩

theorem q_rcrash (h : Quad w wr g cs q p x y A A2 d1 j1 d2 j2) {A0 : Option Addr} {kn : Nat} {kf : Nat → Int} (kc : Nat) (hK : Keep w A0 kn kf) (n0 : 0 < d2.n) : Calls Try.prog 20 #[.pointer (some ⟨p.x, 0, none⟩), .slice A0 kn kc] wr fun e w' => e = .returned (.tuple #[]) ∧ Quad w w' g cs q p x y A A2 d1 j1 (crashD d2 kn kf) j2 := by
  obtain ⟨Bd, Bj, Bp, B2, c, vs, c2, us, h1, h2, h3, h4, h5⟩ := h.some
  refine (Dk.rcrash_any wr Bp p d2 A0 kn kc kf h2 (hK.on h1.below) (fun a ha hn hh => by have := hK.there a ha hn; have := h.lo _ hh; omega) (by have := hK.small; omega) hK.fs n0 (by have := h.fit.dn; omega)).mono ?_
  rintro e w' ⟨rfl, hD, ho⟩
  refine ⟨rfl, ⟨⟨Bd, Bj, Bp, B2, c, vs, c2, us, ⟨h1.disk.only ho (fun i hi hs => h.ap i hi hs), jl_disk h1.jat h2 ho, h1.lo, h1.base, h1.below.trans (ho.toBelow h1.below.size fun k hk hs => by have := h.lo k hs; omega), h1.fit⟩, hD, h3.disk h2 ho, h4, h5⟩, h.fit.disk (Jr.crashD_n _ _ _).1 (by rw [(Jr.crashD_n _ _ _).2.1]; omega), h.lo, h.ap, Mv.blk_only h.box ho (box_ref h.box h2), h.glo⟩⟩

theorem q_rstart (h : Quad w wr g cs q p x y A A2 d1 j1 d2 j2) (n0 : 0 < d2.n) : Calls Try.prog 22 #[.pointer (some ⟨p.x, 0, none⟩)] wr fun e w' => e = .returned (.tuple #[]) ∧ Quad w w' g cs q p x y A A2 d1 j1 (startD d2) j2 := by
  obtain ⟨Bd, Bj, Bp, B2, c, vs, c2, us, h1, h2, h3, h4, h5⟩ := h.some
  refine (Dk.rstart_any wr Bp p d2 h2 n0 (by have := h.fit.dn; omega)).mono ?_
  rintro e w' ⟨rfl, hD, ho⟩
  refine ⟨rfl, ⟨⟨Bd, Bj, Bp, B2, c, vs, c2, us, ⟨h1.disk.only ho (fun i hi hs => h.ap i hi hs), jl_disk h1.jat h2 ho, h1.lo, h1.base, h1.below.trans (ho.toBelow h1.below.size fun k hk hs => by have := h.lo k hs; omega), h1.fit⟩, hD, h3.disk h2 ho, h4, h5⟩, h.fit.disk (Jr.startD_n _).1 (by have := (Jr.startD_n d2).2.1; have := h.fit.armed; omega), h.lo, h.ap, Mv.blk_only h.box ho (box_ref h.box h2), h.glo⟩⟩

theorem q_rwrite (h : Quad w wr g cs q p x y A A2 d1 j1 d2 j2) (i : Int) (b : List UInt8) (hb : b.length = 64) (n0 : 0 < d2.n) : Calls Try.prog 18 #[.pointer (some ⟨p.x, 0, none⟩), .int .i64 i, .agg (secCells b)] wr fun e w' => e = .returned (.int .i64 (writeE d2 i)) ∧ Quad w w' g cs q p x y A A2 d1 j1 (writeD d2 i b) j2 ∧ Only wr w' p.has := by
  obtain ⟨Bd, Bj, Bp, B2, c, vs, c2, us, h1, h2, h3, h4, h5⟩ := h.some
  refine (Dk.rwrite_any wr Bp p d2 i b h2 n0 (by have := h.fit.dn; omega) hb h.fit.armed).mono ?_
  rintro e w' ⟨rfl, hD, ho⟩
  refine ⟨rfl, ⟨⟨Bd, Bj, Bp, B2, c, vs, c2, us, ⟨h1.disk.only ho (fun i hi hs => h.ap i hi hs), jl_disk h1.jat h2 ho, h1.lo, h1.base, h1.below.trans (ho.toBelow h1.below.size fun k hk hs => by have := h.lo k hs; omega), h1.fit⟩, hD, h3.disk h2 ho, h4, h5⟩, h.fit.disk (writeD_na _ _ _).1 (by have := (writeD_na d2 i b).2; have := h.fit.armed; omega), h.lo, h.ap, Mv.blk_only h.box ho (box_ref h.box h2), h.glo⟩, ho⟩

/-! ### The journals' calls -/
theorem q_new (h : Quad w wr g cs q p x y A A2 d1 j1 d2 j2) (o n e : Nat) (he : e < 2 ^ 32) (hE : newE d1 o n e = 0) :
    Calls Try.prog 12 #[.pointer (some ⟨q.x, 0, none⟩), .int .i64 (o : Int), .int .i64 (n : Int), .int .u32 (e : Int)] wr fun r w' => ∃ x', r = .returned (.tuple #[.pointer (some ⟨x', 0, none⟩), .int .i64 0]) ∧ Quad w w' g cs q p x' y none A2 d1 (blankJ o n e) d2 j2 := by
  obtain ⟨Bd, Bj, Bp, B2, c, vs, c2, us, h1, h2, h3, h4, h5⟩ := h.some
  refine (Jl.pair_new h1.disk h1.lo h1.below h1.fit.dn h1.fit.armed o n e he hE).mono ?_
  rintro r w' ⟨x', rfl, hP, k⟩
  exact ⟨x', rfl, ⟨Bd, _, Bp, B2, 0, [], c2, us, hP, h2.below k, h3.below k, h4, fun g hg => by cases hg⟩, h.fit, h.lo, h.ap, h.box.below k, h.glo⟩

theorem q_open (h : Quad w wr g cs q p x y A A2 d1 j1 d2 j2) (o n e : Nat) (he : e < 2 ^ 32) (hE : newE d1 o n e = 0) :
    Calls Try.prog 23 #[.pointer (some ⟨q.x, 0, none⟩), .int .i64 (o : Int), .int .i64 (n : Int), .int .u32 (e : Int)] wr fun r w' => ∃ x' A', r = .returned (.tuple #[.pointer (some ⟨x', 0, none⟩), .int .i64 0]) ∧ Quad w w' g cs q p x' y A' A2 d1 (openJ d1 o n e) d2 j2 := by
  obtain ⟨Bd, Bj, Bp, B2, c, vs, c2, us, h1, h2, h3, h4, h5⟩ := h.some
  refine (Jl.pair_open h1.disk h1.lo h1.below h1.fit.dn h1.fit.armed o n e he hE).mono ?_
  rintro r w' ⟨x', A', c', vs', rfl, hP, k⟩
  refine ⟨x', A', rfl, ⟨Bd, _, Bp, B2, c', vs', c2, us, hP, h2.below k, h3.below k, h4, fun g hg hg2 => ?_⟩, h.fit, h.lo, h.ap, h.box.below k, h.glo⟩
  have q1 := (hP.jat.rows.own.lt g (by rw [← hg]; exact ownBlock_any _ _ _ _ _)).1
  have q2 := (h3.rows.own.lt g (by rw [← hg2]; exact ownBlock_any _ _ _ _ _)).2
  omega

theorem q_rblank (h : Quad w wr g cs q p x y A A2 d1 j1 d2 j2) (o n e : Nat) (he : e < 2 ^ 32) (hE : newE d2 o n e = 0) :
    Calls Try.prog 13 #[.pointer (some ⟨p.x, 0, none⟩), .int .i64 (o : Int), .int .i64 (n : Int), .int .u32 (e : Int)] wr fun r w' => ∃ y', r = .returned (.tuple #[.pointer (some ⟨y', 0, none⟩), .int .i64 0]) ∧ Quad w w' g cs q p x y' A none d1 j1 d2 (blankJ o n e) := by
  obtain ⟨Bd, Bj, Bp, B2, c, vs, c2, us, h1, h2, h3, h4, h5⟩ := h.some
  refine (Jr.rblank_ok wr Bp p d2 o n e h2 (by have := h.fit.dn; omega) he hE).mono ?_
  rintro r w' ⟨y', rfl, hy, hJ, k⟩
  exact ⟨y', rfl, ⟨Bd, Bj, Bp, _, c, vs, 0, [], h1.later k, h2.below k, hJ, h1.below.size, fun g hg hg2 => by cases hg2⟩, Fit.blank hE h.fit.dn he h.fit.armed, h.lo, h.ap, h.box.below k, h.glo⟩

theorem q_ropen (h : Quad w wr g cs q p x y A A2 d1 j1 d2 j2) (o n e : Nat) (he : e < 2 ^ 32) (hE : newE d2 o n e = 0) :
    Calls Try.prog 24 #[.pointer (some ⟨p.x, 0, none⟩), .int .i64 (o : Int), .int .i64 (n : Int), .int .u32 (e : Int)] wr fun r w' => ∃ y' A', r = .returned (.tuple #[.pointer (some ⟨y', 0, none⟩), .int .i64 0]) ∧ Quad w w' g cs q p x y' A A' d1 j1 d2 (openJ d2 o n e) := by
  obtain ⟨Bd, Bj, Bp, B2, c, vs, c2, us, h1, h2, h3, h4, h5⟩ := h.some
  refine (Jr.ropen_ok wr Bp p d2 o n e h2 (by have := h.fit.dn; omega) he hE).mono ?_
  rintro r w' ⟨y', A', c', us', rfl, hy, hJ, k⟩
  refine ⟨y', A', rfl, ⟨Bd, Bj, Bp, _, c, vs, c', us', h1.later k, h2.below k, hJ, h1.below.size, fun g hg hg2 => ?_⟩, Fit.open_ hE h.fit.dn he h.fit.armed, h.lo, h.ap, h.box.below k, h.glo⟩
  have q1 := (hJ.rows.own.lt g (by rw [← hg2]; exact ownBlock_any _ _ _ _ _)).1
  have q2 := (h1.jat.rows.own.lt g (by rw [← hg]; exact ownBlock_any _ _ _ _ _)).2
  omega

/-- What the landed journal turns is none of the document's. -/
theorem q_add (h : Quad w wr g cs q p x y A A2 d1 j1 d2 j2) {Ab : Option Addr} {cb : Nat} {b : List UInt8} (hb : Bys wr wr.heap.size Ab b.length b) (hcb : b.length ≤ cb) (hcb2 : cb ≤ 9223372036854775807) (hfar : ∀ a, Ab = some a → ¬ q.has a.block) (hlen : b.length ≤ 1000000000000) :
    Calls Try.prog 26 #[.pointer (some ⟨x, 0, none⟩), .slice Ab b.length cb] wr fun e w' => e = .returned (.int .i64 (addE d1 j1 b)) ∧ ∃ A', Quad w w' g cs q p x y A' A2 (addDS d1 j1 b) (addJ d1 j1 b) d2 j2 ∧ Only wr w' (fun i => q.has i ∨ JHas x A i) := by
  obtain ⟨Bd, Bj, Bp, B2, c, vs, c2, us, h1, h2, h3, h4, h5⟩ := h.some
  refine (Jl.pair_add h1 hb hcb hcb2 hfar hlen).mono ?_
  rintro e w' ⟨rfl, A', c', vs', hP, hO, hF, _⟩
  have hJx := h1.jat.box
  have hJr := h1.jat.rows.own
  have jn : ∀ i, JHas x A i → ¬ p.has i := fun i hi hp => by
    rcases hi with hi | hi
    · rcases hp with hp | hp | hp | hp
      · exact blk_blk_ne hJx h2.box (by decide) (hi.symm.trans hp)
      · exact Mv.own_blk_ne h2.now.2 hJx (by decide) p.a rfl (hp.symm.trans hi)
      · exact Mv.own_blk_ne h2.sure.2 hJx (by decide) p.b rfl (hp.symm.trans hi)
      · exact Mv.own_blk_ne h2.loose hJx (by decide) p.c rfl (hp.symm.trans hi)
    · have hi2 : (Value.slice A j1.l.length c).ownBlock = some i := by rw [← hi]; exact ownBlock_any _ _ _ _ _
      rcases hp with hp | hp | hp | hp
      · exact Mv.own_blk_ne hJr h2.box (by decide) i hi2 hp
      · exact own_own_ne hJr h2.now.2 (by decide) i hi2 (by rw [hp]; rfl)
      · exact own_own_ne hJr h2.sure.2 (by decide) i hi2 (by rw [hp]; rfl)
      · exact own_own_ne hJr h2.loose (by decide) i hi2 (by rw [hp]; rfl)
  have h3' : Jr.JAt w' B2 y p.x A2 c2 us j2 := by
    refine ⟨h3.base, Mv.blk_only h3.box hO fun hs => ?_, Mv.own_only h3.rows.own hO fun g hg hs => ?_, h3.rows.len, fun i v hv => ?_⟩
    · rcases hs with hs | hs | hs
      · have hD := h1.disk.lay
        rcases hs with hs | hs | hs | hs
        · exact blk_blk_ne h3.box hD.box (by decide) hs
        · exact Mv.own_blk_ne hD.now.2 h3.box (by decide) q.a rfl hs.symm
        · exact Mv.own_blk_ne hD.sure.2 h3.box (by decide) q.b rfl hs.symm
        · exact Mv.own_blk_ne hD.loose h3.box (by decide) q.c rfl hs.symm
      · exact blk_blk_ne h3.box hJx (by decide) hs
      · exact Mv.own_blk_ne hJr h3.box (by decide) y (by rw [← hs]; exact ownBlock_any _ _ _ _ _) rfl
    · rcases hs with hs | hs | hs
      · have hD := h1.disk.lay
        rcases hs with hs | hs | hs | hs
        · exact Mv.own_blk_ne h3.rows.own hD.box (by decide) _ hg hs
        · exact own_own_ne h3.rows.own hD.now.2 (by decide) _ hg (by rw [hs]; rfl)
        · exact own_own_ne h3.rows.own hD.sure.2 (by decide) _ hg (by rw [hs]; rfl)
        · exact own_own_ne h3.rows.own hD.loose (by decide) _ hg (by rw [hs]; rfl)
      · exact Mv.own_blk_ne h3.rows.own hJx (by decide) _ hg hs
      · exact h5 g hs (by rw [← hg]; exact ownBlock_any _ _ _ _ _)
    · obtain ⟨z, z1, z2⟩ := h3.rows.each i v hv
      refine ⟨z, z1, Mv.own_only z2 hO fun g hg hs => ?_⟩
      rcases hs with hs | hs | hs
      · have hD := h1.disk.lay
        rcases hs with hs | hs | hs | hs
        · exact Mv.own_blk_ne z2 hD.box (by decide) _ hg hs
        · exact own_own_ne z2 hD.now.2 (by decide) _ hg (by rw [hs]; rfl)
        · exact own_own_ne z2 hD.sure.2 (by decide) _ hg (by rw [hs]; rfl)
        · exact own_own_ne z2 hD.loose (by decide) _ hg (by rw [hs]; rfl)
      · exact Mv.own_blk_ne z2 hJx (by decide) _ hg hs
      · exact own_own_ne z2 hJr (by decide) _ hg (by rw [← hs]; exact ownBlock_any _ _ _ _ _)
  have hbox : ¬ (q.has g ∨ JHas x A g) := fun hs => by
    rcases hs with hs | hs | hs
    · exact box_disk h.box h1.disk.lay hs
    · exact blk_blk_ne h.box hJx (by decide) hs
    · exact Mv.own_blk_ne hJr h.box (by decide) g (by rw [← hs]; exact ownBlock_any _ _ _ _ _) rfl
  refine ⟨rfl, A', ⟨⟨Bd, Bj, Bp, B2, c', vs', c2, us, hP, h2.only hO (fun i hi hs => hs.elim (fun hs => h.ap i hs hi) (fun hs => jn i hs hi)), h3', h4, fun g hg hg2 => ?_⟩, h.fit, h.lo, h.ap, Mv.blk_only h.box hO hbox, h.glo⟩, hO⟩
  rcases hF with hF | ⟨k, hF, hk⟩
  · exact h5 g (by rw [← hF]; exact hg) hg2
  · rw [hF] at hg
    injection hg with hg
    have := (h3.rows.own.lt g (by rw [← hg2]; exact ownBlock_any _ _ _ _ _)).2
    omega

theorem radd_any (wr : World) (B B' x c cb : Nat) (A Ab : Option Addr) (vs : List Value) (j : JS) (p : Dk.Place) (d : DS) (b : List UInt8) (hJ : Jr.JAt wr B x p.x A c vs j) (hD : RefAt wr B' p d) (hf : Fit d j) (hb : Bys wr wr.heap.size Ab b.length b) (hcb : b.length ≤ cb) (hcb2 : cb ≤ 9223372036854775807) (hlen : b.length ≤ 1000000000000)
    (hfar : ∀ a, Ab = some a → b.length ≠ 0 → ¬ p.has a.block) (hfx : ∀ a, Ab = some a → b.length ≠ 0 → a.block ≠ x) :
    Calls Try.prog 27 #[.pointer (some ⟨x, 0, none⟩), .slice Ab b.length cb] wr (Jr.RAddE wr B B' x p A vs j d b) := by
  have h1 := hf.room
  have h2 := hf.dn
  have h3 := hf.used
  have h4 := hf.len
  by_cases hs : stopE d j b = 0
  · have hl1 := (Jr.stop_zero hs).2.2.1
    exact Jr.radd_go wr B B' x c cb A Ab vs j p d b hJ hD h3 (by omega) hb hcb hcb2 (fun a ha => hfar a ha (by omega)) (fun a ha => hfx a ha (by omega)) hs (by omega) hf.e1 hf.e2 (by omega) h1 hf.armed
  · refine (Jr.radd_stop wr B B' x c cb A Ab vs j p d b hJ hD h3 (by omega) hlen hs).mono ?_
    rintro e w' ⟨rfl, g1, g2, g3⟩
    exact ⟨rfl, g2, A, c, vs, g1, g3.mono (fun i _ h => .inr h), .inl rfl⟩

theorem q_radd (h : Quad w wr g cs q p x y A A2 d1 j1 d2 j2) {Ab : Option Addr} {cb : Nat} {b : List UInt8} (hb : Bys wr wr.heap.size Ab b.length b) (hcb : b.length ≤ cb) (hcb2 : cb ≤ 9223372036854775807) (hfar : ∀ a, Ab = some a → b.length ≠ 0 → a.block < w.heap.size) (hlen : b.length ≤ 1000000000000) :
    Calls Try.prog 27 #[.pointer (some ⟨y, 0, none⟩), .slice Ab b.length cb] wr fun e w' => e = .returned (.int .i64 (addE d2 j2 b)) ∧ ∃ A', Quad w w' g cs q p x y A A' d1 j1 (addDS d2 j2 b) (addJ d2 j2 b) ∧ Only wr w' (fun i => p.has i ∨ JHas y A2 i) := by
  obtain ⟨Bd, Bj, Bp, B2, c, vs, c2, us, h1, h2, h3, h4, h5⟩ := h.some
  refine (radd_any wr B2 Bp y c2 cb A2 Ab us j2 p d2 b h3 h2 h.fit hb hcb hcb2 hlen (fun a ha hn hp => by have := hfar a ha hn; have := h.lo _ hp; omega) (fun a ha hn hy => by have := hfar a ha hn; have := h3.base; omega)).mono ?_
  rintro e w' ⟨rfl, hD, A', c', us', hJ, hO, hF⟩
  have hyb := h3.box
  have hyr := h3.rows.own
  have qn : ∀ i, q.has i → ¬ (p.has i ∨ JHas y A2 i) := fun i hi hs => by
    rcases hs with hs | hs | hs
    · exact h.ap i hi hs
    · have hD := h1.disk.lay
      rcases hi with hi | hi | hi | hi
      · exact blk_blk_ne hyb hD.box (by decide) (hs.symm.trans hi)
      · exact Mv.own_blk_ne hD.now.2 hyb (by decide) q.a rfl (hi.symm.trans hs)
      · exact Mv.own_blk_ne hD.sure.2 hyb (by decide) q.b rfl (hi.symm.trans hs)
      · exact Mv.own_blk_ne hD.loose hyb (by decide) q.c rfl (hi.symm.trans hs)
    · have hD := h1.disk.lay
      have hi2 : (Value.slice A2 j2.l.length c2).ownBlock = some i := by rw [← hs]; exact ownBlock_any _ _ _ _ _
      rcases hi with hi | hi | hi | hi
      · exact Mv.own_blk_ne hyr hD.box (by decide) i hi2 hi
      · exact own_own_ne hyr hD.now.2 (by decide) i hi2 (by rw [hi]; rfl)
      · exact own_own_ne hyr hD.sure.2 (by decide) i hi2 (by rw [hi]; rfl)
      · exact own_own_ne hyr hD.loose (by decide) i hi2 (by rw [hi]; rfl)
  have h1' : Jl.JAt w' Bj x q.x A c vs j1 := by
    refine ⟨h1.jat.base, Mv.blk_only h1.jat.box hO fun hs => ?_, Mv.own_only h1.jat.rows.own hO fun g hg hs => ?_, h1.jat.rows.len, fun i v hv => ?_⟩
    · rcases hs with hs | hs | hs
      · rcases hs with hs | hs | hs | hs
        · exact blk_blk_ne h1.jat.box h2.box (by decide) hs
        · exact Mv.own_blk_ne h2.now.2 h1.jat.box (by decide) p.a rfl hs.symm
        · exact Mv.own_blk_ne h2.sure.2 h1.jat.box (by decide) p.b rfl hs.symm
        · exact Mv.own_blk_ne h2.loose h1.jat.box (by decide) p.c rfl hs.symm
      · exact blk_blk_ne h1.jat.box hyb (by decide) hs
      · exact Mv.own_blk_ne hyr h1.jat.box (by decide) x (by rw [← hs]; exact ownBlock_any _ _ _ _ _) rfl
    · rcases hs with hs | hs | hs
      · rcases hs with hs | hs | hs | hs
        · exact Mv.own_blk_ne h1.jat.rows.own h2.box (by decide) _ hg hs
        · exact own_own_ne h1.jat.rows.own h2.now.2 (by decide) _ hg (by rw [hs]; rfl)
        · exact own_own_ne h1.jat.rows.own h2.sure.2 (by decide) _ hg (by rw [hs]; rfl)
        · exact own_own_ne h1.jat.rows.own h2.loose (by decide) _ hg (by rw [hs]; rfl)
      · exact Mv.own_blk_ne h1.jat.rows.own hyb (by decide) _ hg hs
      · exact h5 g (by rw [← hg]; exact ownBlock_any _ _ _ _ _) hs
    · obtain ⟨z, z1, z2⟩ := h1.jat.rows.each i v hv
      refine ⟨z, z1, Mv.own_only z2 hO fun g hg hs => ?_⟩
      rcases hs with hs | hs | hs
      · rcases hs with hs | hs | hs | hs
        · exact Mv.own_blk_ne z2 h2.box (by decide) _ hg hs
        · exact own_own_ne z2 h2.now.2 (by decide) _ hg (by rw [hs]; rfl)
        · exact own_own_ne z2 h2.sure.2 (by decide) _ hg (by rw [hs]; rfl)
        · exact own_own_ne z2 h2.loose (by decide) _ hg (by rw [hs]; rfl)
      · exact Mv.own_blk_ne z2 hyb (by decide) _ hg hs
      · exact own_own_ne z2 hyr (by decide) _ hg (by rw [← hs]; exact ownBlock_any _ _ _ _ _)
  have hbox : ¬ (p.has g ∨ JHas y A2 g) := fun hs => by
    rcases hs with hs | hs | hs
    · exact box_ref h.box h2 hs
    · exact blk_blk_ne h.box hyb (by decide) hs
    · exact Mv.own_blk_ne hyr h.box (by decide) g (by rw [← hs]; exact ownBlock_any _ _ _ _ _) rfl
  have hlo : ∀ k, k < w.heap.size → ¬ (p.has k ∨ JHas y A2 k) := fun k hk hs => by
    rcases hs with hs | hs | hs
    · have := h.lo k hs; omega
    · have := h3.base; omega
    · have := (hyr.lt k (by rw [← hs]; exact ownBlock_any _ _ _ _ _)).1
      omega
  refine ⟨rfl, A', ⟨⟨Bd, Bj, Bp, B2, c, vs, c', us', ⟨h1.disk.only hO qn, h1', h1.lo, h1.base, h1.below.trans (hO.toBelow h1.below.size hlo), h1.fit⟩, hD, hJ, h4, fun g hg hg2 => ?_⟩, h.fit.add, h.lo, h.ap, Mv.blk_only h.box hO hbox, h.glo⟩, hO⟩
  rcases hF with hF | ⟨k, hF, hk⟩
  · exact h5 g hg (by rw [← hF]; exact hg2)
  · rw [hF] at hg2
    injection hg2 with hg2
    have := (h1.jat.rows.own.lt g (by rw [← hg]; exact ownBlock_any _ _ _ _ _)).2
    omega
end

end Go.Proofs.Ytibadhoabobmpaa.Jp
