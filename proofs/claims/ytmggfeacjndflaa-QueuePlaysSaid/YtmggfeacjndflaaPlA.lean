/- Steps that a queue is played with, in memory; who is ahead of all of them. -/
import Derived.Test.YtmggfeacjndflaaQuK
import Derived.Deep.Slices
import Derived.Deep.Fields
import Derived.Maps.AppendAt
import Derived.Deep.RegionLaw
namespace Go.Proofs.Ytmggfeacjndflaa.Pl
open Go.ChangeShapes Go.WideShapes Go.ChangeAt Go.RowKit
open Qu (Pt le Blk)
set_option linter.unusedVariables false

/-- Kind, number, rank. -/
abbrev Stp := Int × Int × Int
def pt (o : Stp) : Pt := (o.2.2, o.2.1)

def cells3 (l : List Stp) : List Value := l.flatMap fun o => [.int .i64 o.1, .int .i64 o.2.1, .int .i64 o.2.2]

theorem cells3_cons (o : Stp) (l : List Stp) : cells3 (o :: l) = .int .i64 o.1 :: .int .i64 o.2.1 :: .int .i64 o.2.2 :: cells3 l := rfl
theorem cells3_append (l m : List Stp) : cells3 (l ++ m) = cells3 l ++ cells3 m := List.flatMap_append
theorem cells3_length : ∀ l, (cells3 l).length = l.length * 3
  | [] => rfl
  | o :: l => by rw [cells3_cons, List.length_cons, List.length_cons, List.length_cons, cells3_length l, List.length_cons]; omega
theorem cells3_one (l : List Stp) : ∀ u ∈ cells3 l, u.oneCell' = true := by
  intro u hu
  obtain ⟨o, _, ho⟩ := List.mem_flatMap.1 hu
  simp at ho
  rcases ho with rfl | rfl | rfl <;> rfl
theorem cells3_at : ∀ (l : List Stp) (i : Nat) (o : Stp), l[i]? = some o → (cells3 l)[i * 3]? = some (.int .i64 o.1) ∧ (cells3 l)[i * 3 + 1]? = some (.int .i64 o.2.1) ∧ (cells3 l)[i * 3 + 2]? = some (.int .i64 o.2.2)
  | [], i, o, h => by simp at h
  | p :: l, 0, o, h => by simp at h; subst h; exact ⟨rfl, rfl, rfl⟩
  | p :: l, i + 1, o, h => by
    obtain ⟨a, b, c⟩ := cells3_at l i o (by simpa using h)
    rw [cells3_cons, show (i + 1) * 3 = i * 3 + 1 + 1 + 1 by omega]
    refine ⟨?_, ?_, ?_⟩
    · simpa using a
    · rw [show i * 3 + 1 + 1 + 1 + 1 = (i * 3 + 1) + 1 + 1 + 1 by omega]; simpa using b
    · rw [show i * 3 + 1 + 1 + 1 + 2 = (i * 3 + 2) + 1 + 1 + 1 by omega]; simpa using c
theorem cells3_drop (l : List Stp) (k : Nat) : (cells3 l).drop (k * 3) = cells3 (l.drop k) := by
  rcases Nat.lt_or_ge l.length k with h | h
  · rw [List.drop_eq_nil_of_le (by rw [cells3_length]; omega), List.drop_eq_nil_of_le (by omega)]; rfl
  · have e : l = l.take k ++ l.drop k := (List.take_append_drop k l).symm
    have h2 : (cells3 (l.take k)).length = k * 3 := by rw [cells3_length, List.length_take, Nat.min_eq_left h]
    calc (cells3 l).drop (k * 3) = (cells3 (l.take k) ++ cells3 (l.drop k)).drop (k * 3) := by rw [← cells3_append, ← e]
      _ = cells3 (l.drop k) := by rw [← h2]; exact List.drop_left

/-- A slice of n steps, below block M. -/
def Stps (w : World) (M : Nat) (A : Option Addr) (n : Nat) (o : Nat → Stp) : Prop :=
  ∀ k, k < n → ∃ b off, A = some ⟨b, off, none⟩ ∧ b < M ∧ w.cell? ⟨b, off + k * 3, none⟩ = some (.int .i64 (o k).1) ∧ w.cell? ⟨b, off + k * 3 + 1, none⟩ = some (.int .i64 (o k).2.1) ∧ w.cell? ⟨b, off + k * 3 + 2, none⟩ = some (.int .i64 (o k).2.2)

theorem Stps.below {w w' : World} {M B n : Nat} {A : Option Addr} {o : Nat → Stp} (h : Stps w M A n o) (hb : Below B w w') (hM : M ≤ B) : Stps w' M A n o := fun k hk => by
  obtain ⟨b, off, hA, hb1, h1, h2, h3⟩ := h k hk
  have hlt : b < B := by omega
  exact ⟨b, off, hA, hb1, (hb.cell (p := ⟨b, _, none⟩) hlt).trans h1, (hb.cell (p := ⟨b, _, none⟩) hlt).trans h2, (hb.cell (p := ⟨b, _, none⟩) hlt).trans h3⟩

def nth (l : List Stp) (k : Nat) : Stp := l.getD k (0, 0, 0)
theorem nth_eq {l : List Stp} {k : Nat} (hk : k < l.length) : l[k]? = some (nth l k) := by simp [nth, hk]

theorem Stps.own {w : World} {B E : Nat} {A : Option Addr} {n cap : Nat} {l : List Stp} (h : w.ownsRow B E 3 (.slice A n cap) n (cells3 l)) : Stps w w.heap.size A n (nth l) := fun k hk => by
  obtain ⟨g, c, hv, _, hlt⟩ := h.form (by omega)
  cases hv
  have hl : l.length = n := by have := h.1; rw [cells3_length] at this; omega
  obtain ⟨a, b, c⟩ := cells3_at l k _ (nth_eq (l := l) (k := k) (by omega))
  refine ⟨g, 0, rfl, hlt, ?_, ?_, ?_⟩
  · rw [Nat.zero_add, h.cellAt _ (by omega)]; exact a
  · rw [Nat.zero_add, h.cellAt _ (by omega)]; exact b
  · rw [Nat.zero_add, h.cellAt _ (by omega)]; exact c

def FirstIs (e : Ending) (n : Nat) (o : Nat → Stp) : Prop := (n = 0 ∧ e = .returned (.int .i64 (-1))) ∨ ∃ k : Nat, k < n ∧ e = .returned (.int .i64 k) ∧ ∀ j, j < n → le (pt (o k)) (pt (o j))

def Best (i : Nat) (o : Nat → Stp) (s : Value) : Prop := (i = 0 ∧ s = .int .i64 (-1)) ∨ ∃ k : Nat, k < i ∧ s = .int .i64 k ∧ ∀ j, j < i → le (pt (o k)) (pt (o j))

theorem Best.one (o : Nat → Stp) : Best 1 o (.int .i64 0) := .inr ⟨0, by omega, rfl, fun j hj => by
  have h0 : j = 0 := by omega
  subst h0
  exact Qu.le_refl _⟩
theorem Best.same {i k : Nat} {o : Nat → Stp} (hk : k < i) (h : ∀ j, j < i → le (pt (o k)) (pt (o j))) (hn : Qu.aheadB (pt (o i)) (pt (o k)) = false) : Best (i + 1) o (.int .i64 k) :=
  .inr ⟨k, by omega, rfl, fun j hj => by
    rcases Nat.lt_or_ge j i with h1 | h1
    · exact h j h1
    · have : j = i := by omega
      subst this; exact hn⟩
theorem Best.turn {i k : Nat} {o : Nat → Stp} (hk : k < i) (h : ∀ j, j < i → le (pt (o k)) (pt (o j))) (hn : Qu.aheadB (pt (o i)) (pt (o k)) = true) : Best (i + 1) o (.int .i64 i) :=
  .inr ⟨i, by omega, rfl, fun j hj => by
    rcases Nat.lt_or_ge j i with h1 | h1
    · exact Qu.le_trans (Qu.le_of_ahead hn) (h j h1)
    · have : j = i := by omega
      subst this; exact Qu.le_refl _⟩

set_option maxRecDepth 100000 in
set_option maxHeartbeats 2000000 in
theorem first_any (A : Option Addr) (n c : Nat) (o : Nat → Stp) (M : Nat) (w : World) (ha : Stps w M A n o) (hn : n ≤ 1000000) :
    Calls Try.prog 12 #[.slice A n c] w fun e w' => FirstIs e n o ∧ Hl.Drawn w w' := by
  have n1 : (n : Int) ≤ 1000000 := by omega
  go_enter Try.func12, Try.ntmps12
  go_wp2
  go_loopw [3, 4] (fun s3 s4 wr => ∃ i : Nat, s4 = .int .i64 i ∧ i ≤ n ∧ Best i o s3 ∧ Hl.Drawn w wr) (fun _ s _ => n - (intOf s).toNat)
  case atStart => exact ⟨0, rfl, by omega, .inl ⟨rfl, rfl⟩, ⟨0, rfl⟩⟩
  case round =>
    obtain ⟨i, rfl, hi, hB, hD⟩ := hrel
    have i0 : (0 : Int) ≤ (i : Int) := by omega
    by_cases hlt : i < n
    · have i1 : (i : Int) < (n : Int) := by omega
      rcases hB with ⟨h0, hs⟩ | ⟨k, hk, hs, hm⟩
      · subst h0
        subst hs
        have HD := Lib.hid hD
        clear hD ha
        go_wp2_with fail
        go_quiet (fail)
        go_wp2
        go_roundw
        case rel => exact ⟨1, rfl, by omega, Best.one o, HD.out.more _⟩
        case measure => simp [intOf]; omega
      · subst hs
        obtain ⟨b, off, rfl, _, a1, a2, a3⟩ := ha i hlt
        obtain ⟨b', off', hAA, _, b1, b2, b3⟩ := ha k (by omega)
        cases hAA
        have c2 : wr.cell? ⟨b, off + i * 3 + 1, none⟩ = some (.int .i64 (o i).2.1) := by obtain ⟨d, rfl⟩ := hD; exact a2
        have c3 : wr.cell? ⟨b, off + i * 3 + 2, none⟩ = some (.int .i64 (o i).2.2) := by obtain ⟨d, rfl⟩ := hD; exact a3
        have d2 : wr.cell? ⟨b, off + k * 3 + 1, none⟩ = some (.int .i64 (o k).2.1) := by obtain ⟨d, rfl⟩ := hD; exact b2
        have d3 : wr.cell? ⟨b, off + k * 3 + 2, none⟩ = some (.int .i64 (o k).2.2) := by obtain ⟨d, rfl⟩ := hD; exact b3
        have k0 : (0 : Int) ≤ (k : Int) := by omega
        have k1 : (k : Int) < (n : Int) := by omega
        have kn : decide ((k : Int) < 0) = false := by simp
        have HD := Lib.hid hD
        have HM := Lib.hid (And.intro hk hm)
        have HK : Hid (Qu.aheadB (pt (o i)) (pt (o k)) = decide ((o k).2.2 < (o i).2.2 ∨ ((o k).2.2 = (o i).2.2 ∧ (o i).2.1 < (o k).2.1))) := Lib.hid rfl
        clear hD hm ha a1 a2 a3 b1 b2 b3 hk
        generalize hri : (o i).2.2 = ri at *
        generalize hni : (o i).2.1 = ni at *
        generalize hrk : (o k).2.2 = rk at *
        generalize hnk : (o k).2.1 = nk at *
        clear hri hni hrk hnk
        rcases Int.lt_trichotomy rk ri with h | h | h
        · have e1 : decide (rk < ri) = true := by simpa using h
          have HT := Lib.hid (Best.turn HM.out.1 HM.out.2 (by rw [HK.out]; simp [h]))
          clear h
          go_wp2_with fail
          go_quiet (fail)
          go_wp2
          go_roundw
          case rel => exact ⟨i + 1, by go_num, by omega, HT.out, HD.out.more _⟩
          case measure => simp [intOf]; omega
        · subst h
          have e1 : decide (rk < rk) = false := by simp
          have e2 : (rk == rk) = true := by simp
          by_cases h : ni < nk
          · have e3 : decide (ni < nk) = true := by simpa using h
            have HT := Lib.hid (Best.turn HM.out.1 HM.out.2 (by rw [HK.out]; simp [h]))
            clear h
            go_wp2_with fail
            go_quiet (fail)
            go_wp2
            go_roundw
            case rel => exact ⟨i + 1, by go_num, by omega, HT.out, HD.out.more _⟩
            case measure => simp [intOf]; omega
          · have e3 : decide (ni < nk) = false := by simpa using h
            have HT := Lib.hid (Best.same HM.out.1 HM.out.2 (by rw [HK.out]; simp; omega))
            clear h
            go_wp2_with fail
            go_quiet (fail)
            go_wp2
            go_roundw
            case rel => exact ⟨i + 1, by go_num, by omega, HT.out, HD.out.more _⟩
            case measure => simp [intOf]; omega
        · have e1 : decide (rk < ri) = false := by simp; omega
          have e2 : (ri == rk) = false := beq_eq_false_iff_ne.2 (by omega)
          have HT := Lib.hid (Best.same HM.out.1 HM.out.2 (by rw [HK.out]; simp; omega))
          clear h
          go_wp2_with fail
          go_quiet (fail)
          go_wp2
          go_roundw
          case rel => exact ⟨i + 1, by go_num, by omega, HT.out, HD.out.more _⟩
          case measure => simp [intOf]; omega
    · obtain rfl : i = n := by omega
      have i1 : ¬ (i : Int) < (i : Int) := by omega
      have HF : Hid (FirstIs (.returned u3) i o ∧ Hl.Drawn w wr) := Lib.hid ⟨by
        rcases hB with ⟨h0, hs⟩ | ⟨k, hk, hs, hm⟩
        · exact .inl ⟨h0, by rw [hs]⟩
        · exact .inr ⟨k, hk, by rw [hs], hm⟩, hD⟩
      clear hB hD ha
      go_wp2
      go_ret
      exact HF.out

end Go.Proofs.Ytmggfeacjndflaa.Pl
