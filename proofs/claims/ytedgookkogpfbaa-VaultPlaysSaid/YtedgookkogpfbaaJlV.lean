/- Law 08: a disk that goes on beside rows; what put comes to behind a crash. -/
import Derived.Test.YtedgookkogpfbaaJlT
set_option maxRecDepth 100000
namespace Go.Proofs.Ytedgookkogpfbaa.Jl
open Go.ChangeShapes Go.WideShapes Go.ChangeAt Go.RowKit
open Qu (Blk)
open Mv (Only Fresh)
open By (Own8 Bys cellsB cellsB_length)
open Dk (DS dsNew crashD startD armD)
open Dd (Lay At Tidy Pl)
open Lf (own_lower own_far)
open Hk (Rin)
open Jr (JS Recd JHas needN own_own_ne ownBlock_any newE blankJ openJ addE addDS addJ Fit Live Puts Recs Sound addJ_zero)
set_option linter.unusedVariables false

/-! ### A disk goes on -/
section
variable (w : World) (B : Nat) (q : Pl) (d : DS)
theorem arm_at (m : Int) (h : At w B q d) (n0 : 0 < d.n) (hm : m ≤ 9223372036854775807) : Calls Try.prog 16 #[.pointer (some ⟨q.x, 0, none⟩), .int .i64 m] w fun e w' => e = .returned (.tuple #[]) ∧ At w' B q (armD d m) ∧ Only w w' q.has := by
  refine (Dd.arm_lay w B q d m h.lay n0 hm).mono ?_
  rintro e w' ⟨rfl, h1, h2⟩
  exact ⟨rfl, ⟨h1, h.tidy⟩, h2⟩

theorem crash_at (A : Option Addr) (kn c : Nat) (kf : Nat → Int) (h : At w B q d) (hA : Hl.Ints w w.heap.size A kn kf) (hd : ∀ a, A = some a → kn ≠ 0 → ¬ q.has a.block) (hk : kn ≤ 1000000) (hkf : ∀ k, k < kn → -9223372036854775808 ≤ kf k ∧ kf k ≤ 9223372036854775807) (n0 : 0 < d.n) (hn : d.n ≤ 20000) :
    Calls Try.prog 20 #[.pointer (some ⟨q.x, 0, none⟩), .slice A kn c] w fun e w' => e = .returned (.tuple #[]) ∧ At w' B q (crashD d kn kf) ∧ Only w w' q.has := by
  refine (Dd.crash_lay w B q d A kn c kf h.lay hA hd hk hkf n0 (by omega)).mono ?_
  rintro e w' ⟨rfl, h1, h2⟩
  exact ⟨rfl, ⟨h1, Dd.tidy_crash w B q d kn kf h⟩, h2⟩

theorem start_at (h : At w B q d) (n0 : 0 < d.n) (hn : d.n ≤ 20000) : Calls Try.prog 22 #[.pointer (some ⟨q.x, 0, none⟩)] w fun e w' => e = .returned (.tuple #[]) ∧ At w' B q (startD d) ∧ Only w w' q.has := by
  refine (Dd.start_lay w B q d h.lay n0 (by omega)).mono ?_
  rintro e w' ⟨rfl, h1, h2⟩
  refine ⟨rfl, ⟨h1, ?_⟩, h2⟩
  unfold startD
  split
  · exact Dd.tidy_crash w B q d 0 (fun _ => 0) h
  · exact h.tidy
end

/-- Rows beside a disk stay where it turns. -/
theorem Recd.disk {w w' : World} {B Bd n c2 : Nat} {q : Pl} {A2 : Option Addr} {us : List Value} {d : DS} {l : List (List UInt8)} (h : Recd w B A2 n c2 us l) (hD : Lay w Bd q d) (hO : Only w w' q.has) : Recd w' B A2 n c2 us l := by
  refine ⟨Mv.own_only h.own hO fun g hg hs => ?_, h.len, fun i v hv => ?_⟩
  · rcases hs with hs | hs | hs | hs
    · exact Mv.own_blk_ne h.own hD.box (by decide) _ hg hs
    · exact own_own_ne h.own hD.now.2 (by decide) _ hg (by rw [hs]; rfl)
    · exact own_own_ne h.own hD.sure.2 (by decide) _ hg (by rw [hs]; rfl)
    · exact own_own_ne h.own hD.loose (by decide) _ hg (by rw [hs]; rfl)
  · obtain ⟨z, z1, z2⟩ := h.each i v hv
    exact ⟨z, z1, Mv.own_only z2 hO fun g hg hs => own_far_disk (A := some ⟨g, 0, none⟩) (n := 0) (c := 0) (w := w) (B := B) (b := z) (d := d) (q := q) (B' := Bd) (by
      obtain ⟨A', c', rfl⟩ := Mv.own_value z2
      exact absurd hs (by
        cases A' with
        | none => cases hg
        | some a =>
          have hb := own_far_disk z2 hD a rfl
          have e : a.block = g := by injection hg
          rw [e] at hb
          exact hb)) hD ⟨g, 0, none⟩ rfl hs⟩

/-- A disk of the call's own, and rows beside it. -/
structure Turn (w wr : World) (Bd : Nat) (q : Pl) (d : DS) (A2 : Option Addr) (c2 : Nat) (l : List (List UInt8)) : Prop where
  disk : At wr Bd q d
  lo : ∀ k, q.has k → w.heap.size ≤ k
  below : Below w.heap.size w wr
  n : d.n = 90
  armed : d.armed ≤ 9223372036854775807
  rows : ∃ us, Recd wr w.heap.size A2 l.length c2 us l

section
variable {w wr w1 : World} {Bd x Bj c2 : Nat} {q : Pl} {d d' : DS} {A2 : Option Addr} {l : List (List UInt8)} {s : PS}
theorem Turn.later (h : Turn w wr Bd q d A2 c2 l) (k : Below wr.heap.size wr w1) : Turn w w1 Bd q d A2 c2 l := by
  obtain ⟨us, hr⟩ := h.rows
  exact ⟨⟨h.disk.lay.below k, h.disk.tidy⟩, h.lo, h.below.trans (k.mono h.below.size), h.n, h.armed, us, hr.only (Mv.Only.ofBelow k fun _ => False) (fun _ _ h => h)⟩

theorem Turn.turned (h : Turn w wr Bd q d A2 c2 l) (hD : At w1 Bd q d') (ho : Only wr w1 q.has) (hn : d'.n = d.n) (ha : d'.armed ≤ 9223372036854775807) : Turn w w1 Bd q d' A2 c2 l := by
  obtain ⟨us, hr⟩ := h.rows
  exact ⟨hD, h.lo, h.below.trans (ho.toBelow h.below.size fun k hk hs => by have := h.lo k hs; omega), by rw [hn]; exact h.n, ha, us, Recd.disk hr h.disk.lay ho⟩

theorem Trio.turn (h : Trio w wr x Bd Bj q s A2 c2) (hn : s.d.n = 90) : Turn w wr Bd q s.d A2 c2 s.all := by
  obtain ⟨A, c, vs, us, h1, h2, h3⟩ := h.some
  exact ⟨h1.disk, h1.lo, h1.below, hn, h1.fit.armed, us, h2⟩
end

/-! ### What put comes to -/
theorem putN_n (f : Nat → List UInt8) : ∀ (k i : Nat) (s : PS), (putN f k i s).d.n = s.d.n
  | 0, _, _ => rfl
  | k + 1, i, s => by
    unfold putN
    split
    · rw [putN_n f k]
      exact (Jr.addDS_n _ _ _).1
    · exact (Jr.addDS_n _ _ _).1

theorem putN_len (f : Nat → List UInt8) : ∀ (k i : Nat) (s : PS), (putN f k i s).all.length ≤ s.all.length + k
  | 0, _, _ => Nat.le_refl _
  | k + 1, i, s => by
    unfold putN
    split
    · have := putN_len f k (i + 1) ⟨addDS s.d s.j (1 :: (f i).take 200), addJ s.d s.j (1 :: (f i).take 200), s.all ++ [1 :: (f i).take 200], s.ok + 1⟩
      have e : (s.all ++ [1 :: (f i).take 200]).length = s.all.length + 1 := by simp
      have this' : _ ≤ (s.all ++ [1 :: (f i).take 200]).length + k := this
      omega
    · show (s.all ++ [1 :: (f i).take 200]).length ≤ _
      simp

theorem Live.armed {d : DS} {j : JS} {recs : Recs} (h : Live d j recs) (k : Int) : Live (armD d k) j recs :=
  ⟨h.sound.armed k, h.on, h.l, h.used, h.alive, h.e1, h.e2, h.n1⟩

theorem putN_puts (f : Nat → List UInt8) : ∀ (k i : Nat) (s : PS) (recs : Recs), Live s.d s.j recs → s.all = s.j.l → s.ok = s.all.length → Puts (putN f k i s).d s.j.o s.j.n s.j.epoch (putN f k i s).all (putN f k i s).ok
  | 0, i, s, recs, hL, ha, hk => by
    have h := hL.puts
    rw [← ha, ← hk] at h
    exact h
  | k + 1, i, s, recs, hL, ha, hk => by
    have hb : 1 ≤ (1 :: (f i).take 200 : List UInt8).length := by simp
    unfold putN
    by_cases h0 : addE s.d s.j (1 :: (f i).take 200) = 0
    · rw [if_pos h0]
      rcases hL.add hb with ⟨_, h1⟩ | ⟨h1, _⟩ | ⟨h1, _⟩
      · have e := addJ_zero h0
        have ih := putN_puts f k (i + 1) ⟨addDS s.d s.j (1 :: (f i).take 200), addJ s.d s.j (1 :: (f i).take 200), s.all ++ [1 :: (f i).take 200], s.ok + 1⟩ _ h1 (by
          show s.all ++ _ = (addJ s.d s.j (1 :: (f i).take 200)).l
          rw [e, ha]) (by
          show s.ok + 1 = (s.all ++ [_]).length
          rw [hk]
          simp)
        have e1 : (addJ s.d s.j (1 :: (f i).take 200)).o = s.j.o := by rw [e]
        have e2 : (addJ s.d s.j (1 :: (f i).take 200)).n = s.j.n := by rw [e]
        have e3 : (addJ s.d s.j (1 :: (f i).take 200)).epoch = s.j.epoch := by rw [e]
        have ih' := ih
        simp only [e1, e2, e3] at ih'
        exact ih'
      · exact absurd h0 h1
      · exact absurd h0 h1
    · rw [if_neg h0]
      have h := hL.fails hb h0
      rw [← ha, ← hk] at h
      exact h

end Go.Proofs.Ytedgookkogpfbaa.Jl
