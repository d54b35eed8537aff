/- Contracts of package crc, told of what is new alone. -/
import Derived.Test.YtbicdmhmpmdoeaaCrR
namespace Go.Proofs.Ytbicdmhmpmdoeaa.Cr
open Go.ChangeShapes Go.WideShapes Go.ChangeAt Go.RowKit
open By (Bys at_ at_in)
set_option linter.unusedVariables false

/-- What package crc answers. -/
def MoreSaid : Prop := ∀ (s n c M : Nat) (A : Option Addr) (l : List UInt8) (w : World), s < 2 ^ 32 → Bys w M A n l → n ≤ 1000000000000 →
    Calls Try.prog 33 #[.int .u32 (s : Int), .slice A n c] w fun e w' => e = .returned (.int .u32 (more s l : Int)) ∧ Below w.heap.size w w'

theorem xor_and (q y : Nat) (hq : q < 2 ^ 32) (hy : y < 2 ^ 32) : bits .and .u32 (bits .xor .u32 (q : Int) (y : Int)) 1 = (((q + y) % 2 : Nat) : Int) := by
  rw [xor32 q y hq hy, and1 _ (Nat.xor_lt_two_pow hq hy), xor_mod_two]

theorem low_and (q x k : Nat) (hq : q < 2 ^ 32) (hx : x < 256) : bits .and .u32 (bits .xor .u32 (q : Int) ((x : Int) / 2 ^ k % 4294967296)) 1 = (((q + x / 2 ^ k % 2) % 2 : Nat) : Int) := by
  have h1 : x / 2 ^ k < 256 := Nat.lt_of_le_of_lt (Nat.div_le_self _ _) hx
  have e2 : (x : Int) / 2 ^ k = ((x / 2 ^ k : Nat) : Int) := by simp
  rw [e2]
  generalize x / 2 ^ k = y at h1 ⊢
  have e : ((y : Nat) : Int) % 4294967296 = (y : Int) := by omega
  rw [e, xor_and q y hq (by omega)]
  omega

theorem none_xor (q : Nat) (h : q < 2 ^ 32) : bits .xor .u32 ((q : Int) / 2) 0 = ((q / 2 : Nat) : Int) := by
  have h1 := xor32 (q / 2) 0 (by omega) (by decide)
  rw [Nat.xor_zero] at h1
  have e : ((q / 2 : Nat) : Int) = (q : Int) / 2 := by omega
  rw [e] at h1
  rw [e]
  exact h1

set_option maxHeartbeats 1000000 in
theorem more_any0 (s n c M : Nat) (A : Option Addr) (l : List UInt8) (w : World) (hs : s < 2 ^ 32) (h : Bys w M A n l) (hn : n ≤ 1000000000000) :
    Calls Try.prog 33 #[.int .u32 (s : Int), .slice A n c] w fun e w' => e = .returned (.int .u32 (more s l : Int)) ∧ Below w.heap.size w w' := by
  have n1 : (n : Int) ≤ 1000000000000 := by omega
  have s1 : (s : Int) ≤ 4294967295 := by omega
  have b0 := neg_bits s hs
  have HB := Lib.hid h
  have HL := Lib.hid h.len
  clear h
  go_enter Try.func33, Try.ntmps33
  go_wp2_with fail
  go_loop [5, 14] (fun s5 s6 => ∃ i : Nat, s6 = .int .i64 (i : Int) ∧ i ≤ n ∧ s5 = .int .u32 ((feed (neg s) (l.take i) : Nat) : Int)) (fun _ s6 => n - (intOf s6).toNat)
  case atStart => exact ⟨0, rfl, by omega, rfl⟩
  case round =>
    obtain ⟨i, rfl, hi, rfl⟩ := hrel
    have i0 : (0 : Int) ≤ (i : Int) := by omega
    have hr := feed_lt (l.take i) (neg_lt s)
    by_cases hlt : i < n
    · have i1 : (i : Int) < (n : Int) := by omega
      have i2 : decide (i < n) = true := by simp; omega
      obtain ⟨g, o, rfl, hg, hcell⟩ := HB.out.at (k := i) hlt
      have il : i < l.length := by have := HL.out; omega
      obtain ⟨b, hb⟩ : ∃ b, l[i]? = some b := ⟨_, List.getElem?_eq_getElem il⟩
      rw [By.at_some hb] at hcell
      have HT := Lib.hid (feed_take (neg s) hb)
      generalize feed (neg s) (l.take i) = R at *
      have hbb := b.toNat_lt
      generalize b.toNat = x at *
      have x0 : (0 : Int) ≤ (x : Int) := by omega
      have x1 : (x : Int) ≤ 255 := by omega
      clear hb il
      go_wp2_with fail
      go_loop [5, 18] (fun s5 s7 => ∃ k : Nat, s7 = .int .i64 (k : Int) ∧ k ≤ 8 ∧ s5 = .int .u32 ((bitsN R x k : Nat) : Int)) (fun _ s7 => 8 - (intOf s7).toNat)
      case atStart => exact ⟨0, rfl, by omega, rfl⟩
      case round =>
        obtain ⟨k, rfl, hk, rfl⟩ := hrel
        have k0 : (0 : Int) ≤ (k : Int) := by omega
        have hq := bitsN_lt (r := R) x hr k
        have HQ : Hid (bitsN R x (k + 1) = st (bitsN R x k) (x / 2 ^ k % 2)) := Lib.hid rfl
        generalize hQQ : bitsN R x k = Q at *
        have HQ0 := Lib.hid hQQ
        clear hQQ
        have q0 : (0 : Int) ≤ (Q : Int) := by omega
        have q1 : (Q : Int) ≤ 4294967295 := by omega
        have a3 := low_and Q x k hq hbb
        by_cases hk8 : k < 8
        · have k1 : (k : Int) < 8 := by omega
          generalize x / 2 ^ k % 2 = c1 at *
          by_cases hl : (Q + c1) % 2 = 1
          · have HS := Lib.hid (st_one hl)
            have a4 := poly_xor Q hq
            rw [hl] at a3
            clear hl
            go_wp2
            go_round
            case rel => exact ⟨k + 1, by go_num, by omega, by rw [HQ.out, HS.out]⟩
            case measure => simp [intOf]; omega
          · have HS := Lib.hid (st_none hl)
            have h0 : (Q + c1) % 2 = 0 := by omega
            have a4 := none_xor Q hq
            rw [h0] at a3
            clear hl h0
            go_wp2
            go_round
            case rel => exact ⟨k + 1, by go_num, by omega, by rw [HQ.out, HS.out]; exact congrArg _ (Int.natCast_ediv Q 2).symm⟩
            case measure => simp [intOf]; omega
        · have k1 : ¬ (k : Int) < 8 := by omega
          obtain rfl : k = 8 := by omega
          clear a3
          go_wp2
          go_round
          case rel => exact ⟨i + 1, by go_num, by omega, by rw [HT.out, HQ0.out]⟩
          case measure => simp [intOf]; omega
    · obtain rfl : i = n := by omega
      have i1 : ¬ (i : Int) < (i : Int) := by omega
      have i2 : decide (i < i) = false := by simp
      have HE : Hid (l.take i = l) := Lib.hid (List.take_of_length_le (by have := HL.out; omega))
      have b1 := neg_bits _ hr
      go_wp2
      go_ret
      exact ⟨by rw [HE.out]; rfl, Below.refl _ _⟩

theorem more_any : MoreSaid := fun s n c M A l w hs h hn => more_any0 s n c M A l w hs h hn

theorem sum_any (n c M : Nat) (A : Option Addr) (l : List UInt8) (w : World) (h : Bys w M A n l) (hn : n ≤ 1000000000000) :
    Calls Try.prog 25 #[.slice A n c] w fun e w' => e = .returned (.int .u32 (sum l : Int)) ∧ Below w.heap.size w w' := by
  have H := Lib.hid (more_any 0 n c M A l w (by decide) h hn)
  clear h
  go_enter Try.func25, Try.ntmps25
  go_wp2_with fail
  refine H.out.mono ?_
  rintro e w' ⟨rfl, hb⟩
  go_wp2
  go_ret
  exact ⟨rfl, hb⟩

end Go.Proofs.Ytbicdmhmpmdoeaa.Cr
