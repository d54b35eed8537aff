/- The disk alone, as a law's own; what is hit, and when. -/
import Derived.Test.YteakoniapgkicaaDkP
namespace Go.Proofs.Yteakoniapgkicaa.Dk
open Go.ChangeShapes Go.WideShapes Go.ChangeAt Go.RowKit
open Qu (Blk)
open Mv (Only)
open Se (All64 blanks Rows64 noughts noughts_len)
open By (cellsB cellsB_length cellsB_at)
open Dd (Pl At Went NewE ForkE)
set_option linter.unusedVariables false

/-- A disk of the call's own. -/
structure Solo (w wr : World) (x : Nat) (q : Pl) (B : Nat) (d : DS) : Prop where
  one : At wr B q d
  lo : ∀ k, q.has k → w.heap.size ≤ k
  below : Below w.heap.size w wr
  x : q.x = x

section
variable {w wr w1 w2 : World} {x : Nat} {q : Pl} {B : Nat} {d d' : DS}

theorem Solo.later (h : Solo w wr x q B d) (k : Below wr.heap.size wr w1) : Solo w w1 x q B d := ⟨at_below h.one k, h.lo, h.below.trans (k.mono h.below.size), h.x⟩

theorem Solo.went (h : Solo w wr x q B d) (hw : Went wr B q d' w2) : ∃ q' : Pl, Solo w w2 x q' B d' := by
  obtain ⟨q', hx, ha, ho, hq⟩ := hw
  refine ⟨q', ha, fun k hk => ?_, h.below.trans (ho.toBelow h.below.size fun k hk hh => ?_), by rw [hx]; exact h.x⟩
  · rcases hq k hk with h4 | h4
    · exact h.lo k h4
    · have := h.below.size; omega
  · have := h.lo k hh; omega

/-- What was there before the call is there. -/
theorem Solo.old (h : Solo w wr x q B d) {k j : Nat} (hk : k < w.heap.size) : wr.cell? ⟨k, j, none⟩ = w.cell? ⟨k, j, none⟩ := h.below.cell (p := ⟨k, j, none⟩) hk

def SoloE (w : World) (x : Nat) (B : Nat) (d : DS) (v : Value) (e : Ending) (w' : World) : Prop := e = .returned v ∧ ∃ q : Pl, Solo w w' x q B d

theorem solo_read (h : Solo w wr x q B d) (i : Int) (n0 : 0 < d.n) (hn : d.n ≤ 20000) : Calls Try.prog 20 #[.pointer (some ⟨x, 0, none⟩), .int .i64 i] wr fun e w' => e = .returned (.tuple #[.agg (secCells (readV d i)), .int .i64 (readE d i)]) ∧ Below wr.heap.size wr w' := by
  have hs := Dd.read_any wr B q d i h.one n0 hn
  rw [h.x] at hs
  exact hs

theorem solo_down (h : Solo w wr x q B d) (n0 : 0 < d.n) (hn : d.n ≤ 20000) : Calls Try.prog 22 #[.pointer (some ⟨x, 0, none⟩)] wr fun e w' => e = .returned (.bool d.off) ∧ Below wr.heap.size wr w' := by
  have hs := Dd.down_any wr B q d h.one n0 hn
  rw [h.x] at hs
  exact hs

theorem solo_write (h : Solo w wr x q B d) (i : Int) (b : List UInt8) (n0 : 0 < d.n) (hn : d.n ≤ 20000) (hb : b.length = 64) (ha : d.armed ≤ 9223372036854775807) : Calls Try.prog 15 #[.pointer (some ⟨x, 0, none⟩), .int .i64 i, .agg (secCells b)] wr (SoloE w x B (writeD d i b) (.int .i64 (writeE d i))) := by
  have hs := Dd.write_any wr B q d i b h.one n0 hn hb ha
  rw [h.x] at hs
  exact hs.mono fun e w' ⟨h1, h2⟩ => ⟨h1, h.went h2⟩

theorem solo_sync (h : Solo w wr x q B d) (n0 : 0 < d.n) (hn : d.n ≤ 20000) (ha : d.armed ≤ 9223372036854775807) : Calls Try.prog 17 #[.pointer (some ⟨x, 0, none⟩)] wr (SoloE w x B (syncD d) (.int .i64 (syncE d))) := by
  have hs := Dd.sync_any wr B q d h.one n0 hn ha
  rw [h.x] at hs
  exact hs.mono fun e w' ⟨h1, h2⟩ => ⟨h1, h.went h2⟩

theorem solo_arm (h : Solo w wr x q B d) (m : Int) (n0 : 0 < d.n) (hn : d.n ≤ 20000) (hm : m ≤ 9223372036854775807) : Calls Try.prog 21 #[.pointer (some ⟨x, 0, none⟩), .int .i64 m] wr (SoloE w x B (armD d m) (.tuple #[])) := by
  have hs := Dd.arm_any wr B q d m h.one n0 hn hm
  rw [h.x] at hs
  exact hs.mono fun e w' ⟨h1, h2⟩ => ⟨h1, h.went h2⟩

theorem solo_crash (h : Solo w wr x q B d) {A : Option Addr} {kn c : Nat} {kf : Nat → Int} (hA : Hl.Ints w w.heap.size A kn kf) (hk : kn ≤ 1000000) (hkf : ∀ k, k < kn → -9223372036854775808 ≤ kf k ∧ kf k ≤ 9223372036854775807) (n0 : 0 < d.n) (hn : d.n ≤ 20000) :
    Calls Try.prog 18 #[.pointer (some ⟨x, 0, none⟩), .slice A kn c] wr (SoloE w x B (crashD d kn kf) (.tuple #[])) := by
  have hs := Dd.crash_any wr B q d A kn c kf h.one (keep_below hA h.below) (fun a ha hz hh => by
    obtain ⟨b, o, hA', hb, _⟩ := hA 0 (by omega)
    rw [ha] at hA'
    injection hA' with hA'
    have := h.lo _ hh
    rw [hA'] at this
    exact absurd hb (Nat.not_lt.2 this)) hk hkf n0 hn
  rw [h.x] at hs
  exact hs.mono fun e w' ⟨h1, h2⟩ => ⟨h1, h.went h2⟩

theorem solo_start (h : Solo w wr x q B d) (n0 : 0 < d.n) (hn : d.n ≤ 20000) : Calls Try.prog 19 #[.pointer (some ⟨x, 0, none⟩)] wr (SoloE w x B (startD d) (.tuple #[])) := by
  have hs := Dd.start_any wr B q d h.one n0 hn
  rw [h.x] at hs
  exact hs.mono fun e w' ⟨h1, h2⟩ => ⟨h1, h.went h2⟩
end

theorem writeD_n (d : DS) (i : Int) (b : List UInt8) : (writeD d i b).n = d.n := by
  unfold writeD
  split
  · rfl
  · unfold tick DS.n; simp

theorem startD_n (d : DS) : (startD d).n = d.n := by
  unfold startD
  split
  · exact crashN_n _ _ _
  · rfl

/-! ### Which call is hit -/
/-- The disk behind so many writes. -/
def hitN (n : Nat) : Nat → DS
  | 0 => armD (dsNew 20) (n : Int)
  | i + 1 => writeD (hitN n i) (i : Int) (allOf (UInt8.ofNat (i + 1)))

theorem hitN_n (n : Nat) : ∀ i, (hitN n i).n = 20
  | 0 => dsNew_n 20
  | i + 1 => by rw [hitN, writeD_n]; exact hitN_n n i

theorem hitN_on (n : Nat) : ∀ i, i < n → i < 20 → (hitN n i).off = false ∧ (hitN n i).armed = n - i
  | 0, _, _ => ⟨rfl, by show (n : Int).toNat = n - 0; omega⟩
  | i + 1, h1, h2 => by
    obtain ⟨h3, h4⟩ := hitN_on n i (by omega) (by omega)
    have hr := readE_ok (i := (i : Int)) h3 (by omega) (by rw [hitN_n]; omega)
    rw [hitN]
    unfold writeD
    rw [hr, if_neg (by simp)]
    unfold tick
    simp only
    rw [h3, h4]
    refine ⟨?_, by omega⟩
    have : (n - i == 1) = false := beq_eq_false_iff_ne.2 (by omega)
    rw [this]; rfl

theorem hitN_off (n : Nat) (hn : 1 ≤ n) : ∀ i, n ≤ i → i ≤ 20 → (hitN n i).off = true ∧ (hitN n i).armed = 0
  | 0, h1, _ => by omega
  | i + 1, h1, h2 => by
    by_cases hi : n ≤ i
    · obtain ⟨h3, h4⟩ := hitN_off n hn i hi (by omega)
      rw [hitN]
      unfold writeD
      rw [readE_down h3, if_pos (by decide)]
      exact ⟨h3, h4⟩
    · obtain ⟨h3, h4⟩ := hitN_on n i (by omega) (by omega)
      have hr := readE_ok (i := (i : Int)) h3 (by omega) (by rw [hitN_n]; omega)
      rw [hitN]
      unfold writeD
      rw [hr, if_neg (by simp)]
      unfold tick
      simp only
      rw [h3, h4]
      have e : n - i = 1 := by omega
      rw [e]
      exact ⟨rfl, rfl⟩

theorem hitN_armed (n : Nat) (hn : 1 ≤ n) (i : Nat) (hi : i ≤ 16) : (hitN n i).armed ≤ n := by
  by_cases h : i < n
  · rw [(hitN_on n i h (by omega)).2]; omega
  · rw [(hitN_off n hn i (by omega) (by omega)).2]; omega

/-- What the calls of a round answer. -/
theorem hit_told (n : Nat) (hn : 1 ≤ n) (i : Nat) (hi : i ≤ 15) : (i < n → readE (hitN n i) 20 = 2 ∧ writeE (hitN n i) (-1) = 2) ∧ writeD (hitN n i) (-1) (allOf 1) = hitN n i ∧ (i + 1 < n → writeE (hitN n i) (i : Int) = 0) ∧ (n ≤ i + 1 → writeE (hitN n i) (i : Int) = 9) := by
  have hN := hitN_n n i
  by_cases h : i < n
  · obtain ⟨h3, h4⟩ := hitN_on n i h (by omega)
    have hr := readE_ok (i := (i : Int)) h3 (by omega) (by rw [hN]; omega)
    have ho := readE_out (i := 20) h3 (.inr (by rw [hN]; omega))
    have hm := readE_out (i := -1) h3 (.inl (by omega))
    refine ⟨fun _ => ⟨ho, ?_⟩, ?_, fun h5 => ?_, fun h5 => ?_⟩
    · unfold writeE; rw [hm, if_pos (by decide)]
    · unfold writeD; rw [hm, if_pos (by decide)]
    · unfold writeE hitB; rw [hr, if_neg (by simp), h4, if_neg (by simp; omega)]
    · unfold writeE hitB; rw [hr, if_neg (by simp), h4, if_pos (by simp; omega)]
  · obtain ⟨h3, h4⟩ := hitN_off n hn i (by omega) (by omega)
    refine ⟨fun h5 => absurd h5 h, ?_, fun h5 => by omega, fun h5 => ?_⟩
    · unfold writeD; rw [readE_down h3, if_pos (by decide)]
    · unfold writeE; rw [readE_down h3, if_pos (by decide)]

theorem hit_sync (n : Nat) (hn : 1 ≤ n) (i : Nat) (hi : i ≤ 15) (h : i + 1 < n) : startD (hitN n (i + 1)) = hitN n (i + 1) ∧ syncE (hitN n (i + 1)) = if n = i + 2 then 9 else 0 := by
  obtain ⟨h3, h4⟩ := hitN_on n (i + 1) h (by omega)
  refine ⟨by unfold startD; rw [h3, if_neg (by simp)], ?_⟩
  unfold syncE hitB
  rw [h3, h4]
  by_cases h5 : n = i + 2
  · rw [if_pos h5, if_pos (by simp; omega)]
  · rw [if_neg h5, if_neg (by simp; omega)]

theorem hit_sync2 (n : Nat) (hn : 1 ≤ n) (i : Nat) (hi : i ≤ 15) (h : n ≤ i + 1) : syncE (startD (hitN n (i + 1))) = 0 := by
  obtain ⟨h3, h4⟩ := hitN_off n hn (i + 1) h (by omega)
  unfold startD
  rw [h3, if_pos rfl]
  rfl

theorem startD_armed (d : DS) (h : d.armed ≤ 9223372036854775807) : (startD d).armed ≤ 9223372036854775807 := by
  unfold startD
  split
  · exact Nat.zero_le _
  · exact h

/-- A slice of flags. -/
def Flags (w : World) (A : Option Addr) (n : Nat) (f : Nat → Bool) : Prop := ∀ k, k < n → ∃ b off, A = some ⟨b, off, none⟩ ∧ b < w.heap.size ∧ w.cell? ⟨b, off + k, none⟩ = some (.bool (f k))

theorem open_flags {H : Type} {enc : TypeId × Value → H} {base b0 : Nat} {w : World} {spare : Nat → Bool} {held : Bool} {v : Value} {d : DataW H} {ps : List MemPlace} {r : Reach}
    (hval : Value.okWide Try.prog w r b0 49 v) (hd : DataW.Trod enc Try.prog w base spare held 49 v d ps) :
    ∃ A n c f, v = .slice A n c ∧ Flags w A n f ∧ n ≤ 9223372036854775807 := by
  have hc : Try.prog.cellsOf 4 = 1 := by kernel_rfl
  obtain ⟨A, n, c, rfl, hn, _, _, hz, hel⟩ := Hk.open_any_slice Try.underlying49 (by rw [hc]; omega) hval hd
  obtain ⟨f, hf⟩ := Go.Deep.choose_lt (α := Bool) (n := n) (p := fun k z => ∃ b off, A = some ⟨b, off, none⟩ ∧ b < w.heap.size ∧ w.cell? ⟨b, off + k, none⟩ = some (.bool z)) (fun k hk => by
    obtain ⟨b, off, hA, hb, hl⟩ := hel k hk
    rw [hc, Nat.mul_one] at hl
    obtain ⟨z, hz⟩ := hl.flag Try.underlying4 hc
    exact ⟨z, b, off, hA, hb, hz⟩)
  exact ⟨A, n, c, f, rfl, hf, hn⟩

/-- What holds at each round. -/
structure AtS (w wr : World) (x B : Nat) (d : DS) : Prop where
  solo : ∃ q : Pl, Solo w wr x q B d

end Go.Proofs.Yteakoniapgkicaa.Dk
