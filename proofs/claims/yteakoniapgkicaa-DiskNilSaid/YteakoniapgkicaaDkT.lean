/- What the statements of layer 6 ask with: a step on both disks. -/
import Derived.Test.YteakoniapgkicaaDkL
import Derived.Test.YteakoniapgkicaaByB
namespace Go.Proofs.Yteakoniapgkicaa.Dk
open Go.ChangeShapes Go.WideShapes Go.ChangeAt Go.RowKit
open Qu (Blk)
open Mv (Only)
open Se (All64 blanks Rows64 noughts noughts_len)
open By (cellsB cellsB_length cellsB_at)
open Dd (Pl At Went)
set_option linter.unusedVariables false

/-- What a step writes. -/
def stepB (at_ : Int) (c : UInt8) : List UInt8 := (allOf c).set 63 (UInt8.ofNat (at_ % 256).toNat)

theorem stepB_len (at_ : Int) (c : UInt8) : (stepB at_ c).length = 64 := by simp [stepB, allOf]

def stepD (d : DS) (k : Nat) (at_ : Int) (c : UInt8) (kn : Nat) (kf : Nat → Int) : DS :=
  if k < 2 then writeD d at_ (stepB at_ c) else if k = 2 then syncD d else if k = 3 then armD d at_ else if k = 4 then crashD d kn kf else startD d

theorem step_n (d : DS) (k : Nat) (at_ : Int) (c : UInt8) (kn : Nat) (kf : Nat → Int) : (stepD d k at_ c kn kf).n = d.n := by
  unfold stepD
  split
  · unfold writeD
    split
    · rfl
    · unfold tick DS.n; simp
  · split
    · unfold syncD
      split
      · rfl
      · split <;> rfl
    · split
      · rfl
      · split
        · exact crashN_n _ _ _
        · unfold startD
          split
          · exact crashN_n _ _ _
          · rfl

theorem step_armed {d : DS} {k : Nat} {at_ : Int} {c : UInt8} {kn : Nat} {kf : Nat → Int} (h : d.armed ≤ 9223372036854775807) (ha : at_ ≤ 9223372036854775807) : (stepD d k at_ c kn kf).armed ≤ 9223372036854775807 := by
  unfold stepD
  split
  · unfold writeD
    split
    · exact h
    · show d.armed - 1 ≤ _; omega
  · split
    · unfold syncD
      split
      · exact h
      · split
        · show d.armed - 1 ≤ _; omega
        · show d.armed - 1 ≤ _; omega
    · split
      · show at_.toNat ≤ _; omega
      · split
        · exact Nat.zero_le _
        · unfold startD
          split
          · exact Nat.zero_le _
          · exact h

/-- Both disks went on alike. -/
def Both (w : World) (B C : Nat) (q : Pl) (p : Place) (d : DS) (w' : World) : Prop :=
  ∃ q' : Pl, q'.x = q.x ∧ At w' B q' d ∧ RefAt w' C p d ∧ Only w w' (fun k => q.has k ∨ p.has k) ∧ (∀ k, q'.has k → ¬ p.has k) ∧ ∀ k, q'.has k → q.has k ∨ w.heap.size ≤ k

theorem RefAt.there {w : World} {B : Nat} {p : Place} {d : DS} (h : RefAt w B p d) : ∀ k, p.has k → k < w.heap.size := fun k hk => by
  rcases hk with rfl | rfl | rfl | rfl
  · exact h.box.lt
  · exact (World.ownsRow.lt h.now.2 p.a rfl).2
  · exact (World.ownsRow.lt h.sure.2 p.b rfl).2
  · exact (World.ownsRow.lt h.loose p.c rfl).2

/-- One went on, and then the other. -/
theorem both_of {w w1 w2 w3 : World} {B C : Nat} {q : Pl} {p : Place} {d d' : DS} (h' : RefAt w C p d) (hap : ∀ k, q.has k → ¬ p.has k) (k0 : Below w.heap.size w w1) (hw : Went w1 B q d' w2) (hr : RefAt w3 C p d') (ho : Only w2 w3 p.has) : Both w B C q p d' w3 := by
  obtain ⟨q', hx, ha, ho1, hq⟩ := hw
  have hs := k0.size
  have ap' : ∀ k, q'.has k → ¬ p.has k := fun k hk hp => by
    rcases hq k hk with h1 | h1
    · exact hap k h1 hp
    · have := h'.there k hp; omega
  refine ⟨q', hx, ha.only ho fun i hi hp => ap' i hi hp, hr, ?_, ap', fun k hk => (hq k hk).imp (fun h => h) (fun h => by omega)⟩
  exact ((Mv.Only.ofBelow k0 _).trans ho1 fun i _ h => .inl h).trans ho fun i _ h => .inr h

/-- The other one, behind the first's going on. -/
theorem ref_on {w1 w2 : World} {B C : Nat} {q : Pl} {p : Place} {d d' : DS} (h' : RefAt w1 C p d) (hap : ∀ k, q.has k → ¬ p.has k) (hw : Went w1 B q d' w2) : RefAt w2 C p d := by
  obtain ⟨q', hx, ha, ho1, hq⟩ := hw
  exact h'.only ho1 fun i hp hi => hap i hi hp

theorem u64_tmod {a n v : Int} (h : (IntKind.u64.wrap a) % n = v) : (IntKind.u64.wrap a).tmod n = v := by
  rw [Int.tmod_eq_emod_of_nonneg (by rw [IntKind.wrap_u64]; omega)]
  exact h

def StepE (w : World) (B C : Nat) (q : Pl) (p : Place) (d : DS) (e : Ending) (w' : World) : Prop := e = .returned (.bool true) ∧ Both w B C q p d w'

section
variable (w : World) (B C : Nat) (q : Pl) (p : Place) (d : DS) (kind at_ : Int) (c : UInt8) (A : Option Addr) (kn cap : Nat) (kf : Nat → Int)

/-- What a step asks: two disks that are alike and apart, numbers in their bounds, keeps that lie below both. -/
structure Fit : Prop where
  one : At w B q d
  two : RefAt w C p d
  apart : ∀ k, q.has k → ¬ p.has k
  n0 : 0 < d.n
  hn : d.n ≤ 20000
  armed : d.armed ≤ 9223372036854775807
  at1 : -9223372036854775808 ≤ at_
  at2 : at_ ≤ 9223372036854775807
  keep : Hl.Ints w w.heap.size A kn kf
  keepd : ∀ a, A = some a → kn ≠ 0 → ¬ q.has a.block ∧ ¬ p.has a.block
  kn1 : kn ≤ 1000000
  kfs : ∀ k, k < kn → -9223372036854775808 ≤ kf k ∧ kf k ≤ 9223372036854775807

/-- The step's box, behind the first disk's going on. -/
theorem box_on {w w2 : World} {B : Nat} {q : Pl} {d d' : DS} {A : Option Addr} {kn cap : Nat} {kind at_ : Int} {c : UInt8} (h : At w B q d) (hw : Went (w.alloc (.cells #[.int .i64 kind, .int .i64 at_, .int .u8 (c.toNat : Int), .slice A kn cap] 35)) B q d' w2) (k : Nat) (hk : k < 4) :
    w2.cell? ⟨w.heap.size, k, none⟩ = (#[.int .i64 kind, .int .i64 at_, .int .u8 (c.toNat : Int), .slice A kn cap] : Array Value)[k]? := by
  obtain ⟨q', hx, ha, ho, hq⟩ := hw
  rw [ho.cell (by simp) (fun hh => by have := h.there _ hh; omega)]
  rw [World.cell?_alloc_mark]

theorem keep_below {w w1 : World} {A : Option Addr} {kn : Nat} {kf : Nat → Int} (h : Hl.Ints w w.heap.size A kn kf) (k0 : Below w.heap.size w w1) : Hl.Ints w1 w1.heap.size A kn kf := (h.below k0 (Nat.le_refl _)).more k0.size

theorem keep_on {w w1 w2 : World} {B C : Nat} {q : Pl} {p : Place} {d d' : DS} {at_ : Int} {A : Option Addr} {kn : Nat} {kf : Nat → Int} (h : Fit w B C q p d at_ A kn kf) (k0 : Below w.heap.size w w1) (hw : Went w1 B q d' w2) : Hl.Ints w2 w2.heap.size A kn kf := fun k hk => by
  obtain ⟨q', hx, ha, ho, hq⟩ := hw
  obtain ⟨b, o, hA, hb, hc⟩ := h.keep k hk
  have := k0.size
  have := ho.size
  exact ⟨b, o, hA, by omega, by rw [ho.cell (show b < w1.heap.size by omega) (h.keepd _ hA (by omega)).1, k0.cell hb]; exact hc⟩

set_option maxHeartbeats 1000000 in
theorem step_sync (h : Fit w B C q p d at_ A kn kf) (h6 : (IntKind.u64.wrap kind % 6).toNat = 2) :
    Calls Try.prog 13 #[.pointer (some ⟨q.x, 0, none⟩), .pointer (some ⟨p.x, 0, none⟩), .agg #[.int .i64 kind, .int .i64 at_, .int .u8 (c.toNat : Int), .slice A kn cap]] w (StepE w B C q p (syncD d)) := by
  obtain ⟨t, ht, ht3, htm, htu⟩ := By.umod_in kind 6 (by omega) (by omega)
  have ht0 : (t : Int) = 2 := by omega
  rw [ht0] at ht htm htu
  have htt := u64_tmod htm
  have HF := Lib.hid h
  have K0 := Lib.hid (((Below.refl w.heap.size w).alloc (Nat.le_refl _) (.cells #[.int .i64 kind, .int .i64 at_, .int .u8 (c.toNat : Int), .slice A kn cap] 35)))
  clear h h6 ht3 ht0
  go_enter Try.func13, Try.ntmps13
  go_wp2_with fail
  refine (Dd.sync_any _ B q d (at_below HF.out.one K0.out) HF.out.n0 HF.out.hn HF.out.armed).mono ?_
  rintro e w2 ⟨rfl, hw⟩
  have HW := Lib.hid hw
  clear hw
  go_wp2_with fail
  refine (rsync_any _ C p d (ref_on (HF.out.two.below K0.out) HF.out.apart HW.out) HF.out.n0 (by have := HF.out.hn; omega) HF.out.armed).mono ?_
  rintro e w3 ⟨rfl, hr, ho⟩
  have HB := Lib.hid (both_of HF.out.two HF.out.apart K0.out HW.out hr ho)
  clear hr ho
  go_wp2_with fail
  go_ret
  exact ⟨by simp, HB.out⟩

set_option maxHeartbeats 1000000 in
theorem step_arm (h : Fit w B C q p d at_ A kn kf) (h6 : (IntKind.u64.wrap kind % 6).toNat = 3) :
    Calls Try.prog 13 #[.pointer (some ⟨q.x, 0, none⟩), .pointer (some ⟨p.x, 0, none⟩), .agg #[.int .i64 kind, .int .i64 at_, .int .u8 (c.toNat : Int), .slice A kn cap]] w (StepE w B C q p (armD d at_)) := by
  obtain ⟨t, ht, ht3, htm, htu⟩ := By.umod_in kind 6 (by omega) (by omega)
  have ht0 : (t : Int) = 3 := by omega
  rw [ht0] at ht htm htu
  have htt := u64_tmod htm
  have HF := Lib.hid h
  have K0 := Lib.hid (((Below.refl w.heap.size w).alloc (Nat.le_refl _) (.cells #[.int .i64 kind, .int .i64 at_, .int .u8 (c.toNat : Int), .slice A kn cap] 35)))
  clear h h6 ht3 ht0
  go_enter Try.func13, Try.ntmps13
  go_wp2_with fail
  refine (Dd.arm_any _ B q d at_ (at_below HF.out.one K0.out) HF.out.n0 HF.out.hn HF.out.at2).mono ?_
  rintro e w2 ⟨rfl, hw⟩
  have HW := Lib.hid hw
  have o1 := box_on (w := w) (A := A) (kn := kn) (cap := cap) (kind := kind) (at_ := at_) (c := c) HF.out.one HW.out 1 (by omega)
  have o3 := box_on (w := w) (A := A) (kn := kn) (cap := cap) (kind := kind) (at_ := at_) (c := c) HF.out.one HW.out 3 (by omega)
  simp at o1 o3
  clear hw
  go_wp2_with fail
  refine (rarm_any _ C p d at_ (ref_on (HF.out.two.below K0.out) HF.out.apart HW.out) HF.out.n0 HF.out.at2).mono ?_
  rintro e w3 ⟨rfl, hr, ho⟩
  have HB := Lib.hid (both_of HF.out.two HF.out.apart K0.out HW.out hr ho)
  clear hr ho
  go_wp2_with fail
  go_ret
  exact ⟨by simp, HB.out⟩

set_option maxHeartbeats 1000000 in
theorem step_crash (h : Fit w B C q p d at_ A kn kf) (h6 : (IntKind.u64.wrap kind % 6).toNat = 4) :
    Calls Try.prog 13 #[.pointer (some ⟨q.x, 0, none⟩), .pointer (some ⟨p.x, 0, none⟩), .agg #[.int .i64 kind, .int .i64 at_, .int .u8 (c.toNat : Int), .slice A kn cap]] w (StepE w B C q p (crashD d kn kf)) := by
  obtain ⟨t, ht, ht3, htm, htu⟩ := By.umod_in kind 6 (by omega) (by omega)
  have ht0 : (t : Int) = 4 := by omega
  rw [ht0] at ht htm htu
  have htt := u64_tmod htm
  have HF := Lib.hid h
  have K0 := Lib.hid (((Below.refl w.heap.size w).alloc (Nat.le_refl _) (.cells #[.int .i64 kind, .int .i64 at_, .int .u8 (c.toNat : Int), .slice A kn cap] 35)))
  clear h h6 ht3 ht0
  go_enter Try.func13, Try.ntmps13
  go_wp2_with fail
  refine (Dd.crash_any _ B q d A kn cap kf (at_below HF.out.one K0.out) (keep_below HF.out.keep K0.out) (fun a ha hz => (HF.out.keepd a ha hz).1) HF.out.kn1 HF.out.kfs HF.out.n0 HF.out.hn).mono ?_
  rintro e w2 ⟨rfl, hw⟩
  have HW := Lib.hid hw
  have o1 := box_on (w := w) (A := A) (kn := kn) (cap := cap) (kind := kind) (at_ := at_) (c := c) HF.out.one HW.out 1 (by omega)
  have o3 := box_on (w := w) (A := A) (kn := kn) (cap := cap) (kind := kind) (at_ := at_) (c := c) HF.out.one HW.out 3 (by omega)
  simp at o1 o3
  clear hw
  go_wp2_with fail
  refine (rcrash_any _ C p d A kn cap kf (ref_on (HF.out.two.below K0.out) HF.out.apart HW.out) (keep_on HF.out K0.out HW.out) (fun a ha hz => (HF.out.keepd a ha hz).2) HF.out.kn1 HF.out.kfs HF.out.n0 (by have := HF.out.hn; omega)).mono ?_
  rintro e w3 ⟨rfl, hr, ho⟩
  have HB := Lib.hid (both_of HF.out.two HF.out.apart K0.out HW.out hr ho)
  clear hr ho
  go_wp2_with fail
  go_ret
  exact ⟨by simp, HB.out⟩

set_option maxHeartbeats 1000000 in
theorem step_start (h : Fit w B C q p d at_ A kn kf) (h6 : (IntKind.u64.wrap kind % 6).toNat = 5) :
    Calls Try.prog 13 #[.pointer (some ⟨q.x, 0, none⟩), .pointer (some ⟨p.x, 0, none⟩), .agg #[.int .i64 kind, .int .i64 at_, .int .u8 (c.toNat : Int), .slice A kn cap]] w (StepE w B C q p (startD d)) := by
  obtain ⟨t, ht, ht3, htm, htu⟩ := By.umod_in kind 6 (by omega) (by omega)
  have ht0 : (t : Int) = 5 := by omega
  rw [ht0] at ht htm htu
  have htt := u64_tmod htm
  have HF := Lib.hid h
  have K0 := Lib.hid (((Below.refl w.heap.size w).alloc (Nat.le_refl _) (.cells #[.int .i64 kind, .int .i64 at_, .int .u8 (c.toNat : Int), .slice A kn cap] 35)))
  clear h h6 ht3 ht0
  go_enter Try.func13, Try.ntmps13
  go_wp2_with fail
  refine (Dd.start_any _ B q d (at_below HF.out.one K0.out) HF.out.n0 HF.out.hn).mono ?_
  rintro e w2 ⟨rfl, hw⟩
  have HW := Lib.hid hw
  have o1 := box_on (w := w) (A := A) (kn := kn) (cap := cap) (kind := kind) (at_ := at_) (c := c) HF.out.one HW.out 1 (by omega)
  have o3 := box_on (w := w) (A := A) (kn := kn) (cap := cap) (kind := kind) (at_ := at_) (c := c) HF.out.one HW.out 3 (by omega)
  simp at o1 o3
  clear hw
  go_wp2_with fail
  refine (rstart_any _ C p d (ref_on (HF.out.two.below K0.out) HF.out.apart HW.out) HF.out.n0 (by have := HF.out.hn; omega)).mono ?_
  rintro e w3 ⟨rfl, hr, ho⟩
  have HB := Lib.hid (both_of HF.out.two HF.out.apart K0.out HW.out hr ho)
  clear hr ho
  go_wp2_with fail
  go_ret
  exact ⟨by simp, HB.out⟩


theorem sec_byte {w : World} {g k : Nat} {s : List UInt8} {b : UInt8} (h : Sec w g s) (hk : s[k]? = some b) : w.cell? ⟨g, k, none⟩ = some (.int .u8 (b.toNat : Int)) := by
  rw [h.2.cell k, secCells_at, hk]
  rfl

theorem keepW_drew {w : World} {g5 g7 : Nat} {at_ : Int} {b : List UInt8} (h : w.cell? ⟨g5, 1, none⟩ = some (.int .i64 at_) ∧ w.rangeAt g7 0 (cellsB b)) : w.drew.cell? ⟨g5, 1, none⟩ = some (.int .i64 at_) ∧ w.drew.rangeAt g7 0 (cellsB b) := h

theorem keepW_only {w w' : World} {g5 g7 : Nat} {at_ : Int} {b : List UInt8} {S : Nat → Prop} (ho : Only w w' S) (h5 : ¬ S g5) (h7 : ¬ S g7) (l5 : g5 < g7) (l7 : g7 < w.heap.size) (h : w.cell? ⟨g5, 1, none⟩ = some (.int .i64 at_) ∧ w.rangeAt g7 0 (cellsB b)) : w'.cell? ⟨g5, 1, none⟩ = some (.int .i64 at_) ∧ w'.rangeAt g7 0 (cellsB b) :=
  ⟨(ho.cell (by omega) h5).trans h.1, fun j v hj => (ho.cell l7 h7).trans (h.2 j v hj)⟩

theorem keepW_went {w w' : World} {B : Nat} {q : Pl} {d d' : DS} {g5 g7 : Nat} {at_ : Int} {b : List UInt8} (hq : At w.drew B q d) (hl : ∀ k, q.has k → k < g5) (l5 : g5 < g7) (l7 : g7 < w.heap.size) (hw : Went w.drew B q d' w') (h : w.drew.cell? ⟨g5, 1, none⟩ = some (.int .i64 at_) ∧ w.drew.rangeAt g7 0 (cellsB b)) : w'.cell? ⟨g5, 1, none⟩ = some (.int .i64 at_) ∧ w'.rangeAt g7 0 (cellsB b) := by
  obtain ⟨q', hx, ha, ho, hq'⟩ := hw
  exact keepW_only ho (fun hh => by have := hl _ hh; omega) (fun hh => by have := hl _ hh; omega) l5 l7 h

theorem went_size {w w' : World} {B : Nat} {q : Pl} {d : DS} (h : Went w B q d w') : w.heap.size ≤ w'.heap.size := by
  obtain ⟨q', hx, ha, ho, hq'⟩ := h
  exact ho.size

theorem keepW_ref {w w' : World} {p : Place} {g5 g7 : Nat} {at_ : Int} {b : List UInt8} (hl : ∀ k, p.has k → k < g5) (l5 : g5 < g7) (l7 : g7 < w.heap.size) (ho : Only w w' p.has) (h : w.cell? ⟨g5, 1, none⟩ = some (.int .i64 at_) ∧ w.rangeAt g7 0 (cellsB b)) : w'.cell? ⟨g5, 1, none⟩ = some (.int .i64 at_) ∧ w'.rangeAt g7 0 (cellsB b) :=
  keepW_only ho (fun hh => by have := hl _ hh; omega) (fun hh => by have := hl _ hh; omega) l5 l7 h

set_option maxHeartbeats 2000000 in
theorem step_write (h : Fit w B C q p d at_ A kn kf) (h6 : (IntKind.u64.wrap kind % 6).toNat < 2) :
    Calls Try.prog 13 #[.pointer (some ⟨q.x, 0, none⟩), .pointer (some ⟨p.x, 0, none⟩), .agg #[.int .i64 kind, .int .i64 at_, .int .u8 (c.toNat : Int), .slice A kn cap]] w (StepE w B C q p (writeD d at_ (stepB at_ c))) := by
  obtain ⟨t, ht, ht3, htm, htu⟩ := By.umod_in kind 6 (by omega) (by omega)
  have ht2 : (t : Int) = 0 ∨ (t : Int) = 1 := by omega
  have HF := Lib.hid h
  obtain ⟨w1, hw1⟩ : ∃ w1, w1 = w.alloc (.cells #[.int .i64 kind, .int .i64 at_, .int .u8 (c.toNat : Int), .slice A kn cap] 35) := ⟨_, rfl⟩
  have K0 := Lib.hid (show Below w.heap.size w w1 by rw [hw1]; exact (Below.refl w.heap.size w).alloc (Nat.le_refl _) _)
  have HG := Lib.hid (show w1.heap.size = w.heap.size + 1 by rw [hw1]; simp)
  have o1 : w1.cell? ⟨w.heap.size, 1, none⟩ = some (.int .i64 at_) := by rw [hw1, World.cell?_alloc_mark]; rfl
  have o2 : w1.cell? ⟨w.heap.size, 2, none⟩ = some (.int .u8 (c.toNat : Int)) := by rw [hw1, World.cell?_alloc_mark]; rfl
  have o0 : w1.cell? ⟨w.heap.size, 0, none⟩ = some (.int .i64 kind) := by rw [hw1, World.cell?_alloc_mark]; rfl
  have HW1 := Lib.hid hw1
  obtain ⟨g5, hg5⟩ : ∃ g5, w.heap.size = g5 := ⟨_, rfl⟩
  have HG5 := Lib.hid hg5
  have HO := Lib.hid (And.intro o1 o2)
  have HS := Lib.hid h6
  clear h h6 ht3 hw1 hg5 o0 o1 o2
  rcases ht2 with ht0 | ht0
  all_goals
    rw [ht0] at ht htm htu
    have htt := u64_tmod htm
    clear ht0
    go_enter Try.func13, Try.ntmps13
    go_wp2_with fail
    rw [← HW1.out]
    refine (full_any c w1).mono ?_
    rintro e w2 ⟨rfl, k1⟩
    have HK2 := Lib.hid (below_then K0.out k1)
    have HO2 := Lib.hid (And.intro ((k1.cell (p := ⟨w.heap.size, 1, none⟩) (by have := HG.out; show w.heap.size < _; omega)).trans HO.out.1) k1.size)
    clear k1
    go_upto_region 7 with (first
      | (refine new_sec (op := ⟨some 7, _, _, _, _, _⟩) rfl rfl ?_; intro w3 hS3 hB3 hZ3)
      | (refine store_sec (w := w3) rfl _ _ rfl _ rfl _ rfl _ hS3 (allOf_len c) ?_; intro w4 hS4 hG4))
    have hB4 : Below w2.heap.size w2 w4 := hB3.grown hG4 hB3.size (fun k hk => by injection hk with hk; omega)
    have hlt2 : w.heap.size < w2.heap.size := by have := HG.out; have := HO2.out.2; omega
    have o1 := (hB4.cell (p := ⟨w.heap.size, 1, none⟩) hlt2).trans HO2.out.1
    have q63 := sec_byte hS4 (k := 63) (b := c) (by unfold allOf; rw [List.getElem?_replicate, if_pos (by omega)])
    have f63 := hS4.2.frozen 63
    have hne : w.heap.size ≠ w2.heap.size := by omega
    obtain ⟨w5, hw5⟩ : ∃ w5, w5 = w4.setCell ⟨w2.heap.size, 63, none⟩ (.int .u8 (at_ % 256)) := ⟨_, rfl⟩
    have HS5 := Lib.hid (show Sec w5 w2.heap.size (stepB at_ c) by rw [hw5]; exact hS4.byte (k := 63) _ (by omega))
    have HB5 := Lib.hid (show Below w.heap.size w w5 by rw [hw5]; exact (below_then HK2.out hB4).setCell (by have := HK2.out.size; exact this) _)
    have HO5 := Lib.hid (show w5.cell? ⟨w.heap.size, 1, none⟩ = some (.int .i64 at_) by rw [hw5]; exact (Qu.turned_at w4 w2.heap.size 63 (.int .u8 (at_ % 256))).cell o1 (fun e => by injection e with e; exact hne e))
    have HW5 := Lib.hid hw5
    have HLT := Lib.hid hlt2
    clear hB3 hG4 hS3 hZ3 hS4 hB4 hw5 hlt2
    go_upto_region 8 with (fail)
    rw [← HW5.out]
    clear o1 q63 f63
    have o1 := HO5.out
    have q3 := HS5.out.range
    have hb64 := stepB_len at_ c
    have HQ5 := Lib.hid (at_below HF.out.one HB5.out.drew)
    have HR5 := Lib.hid (HF.out.two.below HB5.out.drew)
    obtain ⟨b, hb⟩ : ∃ b, stepB at_ c = b := ⟨_, rfl⟩
    rw [hb] at q3 hb64 ⊢
    have hu : Try.prog.underlying 42 = some (.array 64 5) := Try.underlying42
    have hcl : (cellsB b).length = 64 := by rw [cellsB_length, hb64]
    have hii : (Try.prog.info? 42).map (·.size) = some (cellsB b).length := by rw [size_sector, hcl]
    obtain ⟨g5, hg5⟩ : ∃ g5, w.heap.size = g5 := ⟨_, rfl⟩
    obtain ⟨g7, hg7⟩ : ∃ g7, w2.heap.size = g7 := ⟨_, rfl⟩
    have HG := Lib.hid (show (∀ k, q.has k → k < g5) ∧ (∀ k, p.has k → k < g5) ∧ g5 < g7 ∧ g7 < w5.heap.size from ⟨fun k hk => by have := HF.out.one.there k hk; omega, fun k hk => by have := HF.out.two.there k hk; omega, by have := HLT.out; omega, by have := HS5.out.2.lt; omega⟩)
    rw [hg5] at o1 ⊢
    rw [hg7] at q3 ⊢
    have HBB := Lib.hid hb
    clear hb hg5 hg7
    refine wp_region_held_drew (S := fun w' => w'.cell? ⟨g5, 1, none⟩ = some (.int .i64 at_) ∧ w'.rangeAt g7 0 (cellsB b)) (by kernel_rfl) (keepW_drew ⟨o1, q3⟩) (fun hHeld => ?_)
    refine wpAnyH_take (i := 0) (oi := ⟨some 26, _, _, _, _, _⟩) (v := .pointer (some ⟨q.x, 0, none⟩)) rfl (by kernel_rfl) (by kernel_rfl) (by kernel_rfl) (fun _ _ _ h => h) (Or.inl ⟨by rfl, fun wq hSw => ?_⟩) (by assumption) ?_
    · (obtain ⟨s1, s3⟩ := hSw; go_simp)
    simp only [Act.put, List.setIfInBounds_toArray, List.set_cons_zero, List.set_cons_succ]
    refine wpAnyH_take (i := 1) (oi := ⟨some 27, _, _, _, _, _⟩) (v := .pointer (some ⟨g5, 1, none⟩)) rfl (by kernel_rfl) (by kernel_rfl) (by kernel_rfl) (fun _ _ _ h => h) (Or.inl ⟨by rfl, fun wq hSw => ?_⟩) (by assumption) ?_
    · (obtain ⟨s1, s3⟩ := hSw; go_simp)
    simp only [Act.put, List.setIfInBounds_toArray, List.set_cons_zero, List.set_cons_succ]
    refine wpAnyH_take (i := 2) (oi := ⟨some 28, _, _, _, _, _⟩) (v := .int .i64 at_) rfl (by kernel_rfl) (by kernel_rfl) (by kernel_rfl) (fun _ _ _ h => h) (Or.inl ⟨by rfl, fun wq hSw => ?_⟩) (by assumption) ?_
    · (obtain ⟨s1, s3⟩ := hSw; go_simp)
    simp only [Act.put, List.setIfInBounds_toArray, List.set_cons_zero, List.set_cons_succ]
    refine wpAnyH_take (i := 3) (oi := ⟨some 29, _, _, _, _, _⟩) (v := .agg (cellsB b).toArray) rfl (by kernel_rfl) (by kernel_rfl) (by kernel_rfl) (fun _ _ _ h => h) (yieldsIf_load_mid (by rfl) _ _ rfl _ _ rfl (cellsB b) _ (fun wq hSw => hSw.2) hu rfl hii) (by assumption) ?_
    simp only [Act.put, List.setIfInBounds_toArray, List.set_cons_zero, List.set_cons_succ]
    refine wpAnyH_take (i := 5) (oi := ⟨some 31, _, _, _, _, _⟩) (v := .pointer (some ⟨p.x, 0, none⟩)) rfl (by kernel_rfl) (by kernel_rfl) (by kernel_rfl) (fun _ _ _ h => h) (Or.inl ⟨by rfl, fun wq hSw => ?_⟩) (by assumption) ?_
    · (obtain ⟨s1, s3⟩ := hSw; go_simp)
    simp only [Act.put, List.setIfInBounds_toArray, List.set_cons_zero, List.set_cons_succ]
    refine wpAnyH_take (i := 6) (oi := ⟨some 32, _, _, _, _, _⟩) (v := .pointer (some ⟨g5, 1, none⟩)) rfl (by kernel_rfl) (by kernel_rfl) (by kernel_rfl) (fun _ _ _ h => h) (Or.inl ⟨by rfl, fun wq hSw => ?_⟩) (by assumption) ?_
    · (obtain ⟨s1, s3⟩ := hSw; go_simp)
    simp only [Act.put, List.setIfInBounds_toArray, List.set_cons_zero, List.set_cons_succ]
    refine wpAnyH_take (i := 7) (oi := ⟨some 33, _, _, _, _, _⟩) (v := .int .i64 at_) rfl (by kernel_rfl) (by kernel_rfl) (by kernel_rfl) (fun _ _ _ h => h) (Or.inl ⟨by rfl, fun wq hSw => ?_⟩) (by assumption) ?_
    · (obtain ⟨s1, s3⟩ := hSw; go_simp)
    simp only [Act.put, List.setIfInBounds_toArray, List.set_cons_zero, List.set_cons_succ]
    refine wpAnyH_take (i := 8) (oi := ⟨some 34, _, _, _, _, _⟩) (v := .agg (cellsB b).toArray) rfl (by kernel_rfl) (by kernel_rfl) (by kernel_rfl) (fun _ _ _ h => h) (yieldsIf_load_mid (by rfl) _ _ rfl _ _ rfl (cellsB b) _ (fun wq hSw => hSw.2) hu rfl hii) (by assumption) ?_
    simp only [Act.put, List.setIfInBounds_toArray, List.set_cons_zero, List.set_cons_succ]
    have HH := Lib.hid hHeld
    clear hHeld o1 q3
    refine wpAnyH_ready (rs := [4]) (by kernel_rfl) (by simp) ?_
    refine AllReadyH.cons (o := ⟨some 30, _, _, _, _, _⟩) rfl (fun K hK => ?_) AllReadyH.nil
    go_simp
    refine (Dd.write_any _ B q d at_ b HQ5.out HF.out.n0 HF.out.hn hb64 HF.out.armed).mono ?_
    rintro e w6 ⟨rfl, hw6⟩
    have HW6 := Lib.hid hw6
    clear hw6
    go_wp2_with fail
    refine hK.out _ _ (keepW_went HQ5.out HG.out.1 HG.out.2.2.1 HG.out.2.2.2 HW6.out HH.out) (fun hHeld => ?_)
    clear hK K
    refine wpAnyH_ready (rs := [9]) (by kernel_rfl) (by simp) ?_
    refine AllReadyH.cons (o := ⟨some 35, _, _, _, _, _⟩) rfl (fun K hK => ?_) AllReadyH.nil
    go_simp
    refine (rwrite_any _ C p d at_ b (ref_on HR5.out HF.out.apart HW6.out) HF.out.n0 (by have := HF.out.hn; omega) hb64 HF.out.armed).mono ?_
    rintro e w7 ⟨rfl, hr7, ho7⟩
    have HR7 := Lib.hid (And.intro hr7 ho7)
    clear hr7 ho7
    go_wp2_with fail
    refine hK.out _ _ (keepW_ref HG.out.2.1 HG.out.2.2.1 (Nat.lt_of_lt_of_le HG.out.2.2.2 (show w5.heap.size ≤ w6.heap.size from went_size (w := w5.drew) HW6.out)) HR7.out.2 hHeld) (fun hHeld => ?_)
    clear hK K
    refine wpAnyH_take (i := 10) (oi := ⟨some 36, _, _, _, _, _⟩) (v := .bool true) rfl (by kernel_rfl) (by kernel_rfl) (by kernel_rfl) (fun _ _ _ h => h) (Or.inl ⟨by rfl, fun wq hSw => ?_⟩) (by assumption) ?_
    · (go_simp)
    simp only [Act.put, List.setIfInBounds_toArray, List.set_cons_zero, List.set_cons_succ]
    refine wpAnyH_take (i := 11) (oi := ⟨some 6, _, _, _, _, _⟩) (v := .bool true) rfl (by kernel_rfl) (by kernel_rfl) (by kernel_rfl) (fun _ _ _ h => h) (Or.inl ⟨by rfl, fun wq hSw => ?_⟩) (by assumption) ?_
    · (go_simp)
    simp only [Act.put, List.setIfInBounds_toArray, List.set_cons_zero, List.set_cons_succ]
    refine wpAnyH_done (by kernel_rfl) ?_ _
    unfold Exit.then
    dsimp only
    go_wp2_with fail
    go_ret
    have hsz := HB5.out
    exact ⟨rfl, by rw [HBB.out]; exact both_of (w1 := w5.drew) HF.out.two HF.out.apart hsz.drew HW6.out HR7.out.1 HR7.out.2⟩

theorem step_any (h : Fit w B C q p d at_ A kn kf) :
    Calls Try.prog 13 #[.pointer (some ⟨q.x, 0, none⟩), .pointer (some ⟨p.x, 0, none⟩), .agg #[.int .i64 kind, .int .i64 at_, .int .u8 (c.toNat : Int), .slice A kn cap]] w (StepE w B C q p (stepD d (IntKind.u64.wrap kind % 6).toNat at_ c kn kf)) := by
  obtain ⟨t, ht, ht3, htm, htu⟩ := By.umod_in kind 6 (by omega) (by omega)
  have hk : (IntKind.u64.wrap kind % 6).toNat < 6 := by omega
  unfold stepD
  by_cases h2 : (IntKind.u64.wrap kind % 6).toNat < 2
  · rw [if_pos h2]; exact step_write w B C q p d kind at_ c A kn cap kf h h2
  · rw [if_neg h2]
    by_cases h3 : (IntKind.u64.wrap kind % 6).toNat = 2
    · rw [if_pos h3]; exact step_sync w B C q p d kind at_ c A kn cap kf h h3
    · rw [if_neg h3]
      by_cases h4 : (IntKind.u64.wrap kind % 6).toNat = 3
      · rw [if_pos h4]; exact step_arm w B C q p d kind at_ c A kn cap kf h h4
      · rw [if_neg h4]
        by_cases h5 : (IntKind.u64.wrap kind % 6).toNat = 4
        · rw [if_pos h5]; exact step_crash w B C q p d kind at_ c A kn cap kf h h5
        · rw [if_neg h5]; exact step_start w B C q p d kind at_ c A kn cap kf h (by omega)

end

end Go.Proofs.Yteakoniapgkicaa.Dk
