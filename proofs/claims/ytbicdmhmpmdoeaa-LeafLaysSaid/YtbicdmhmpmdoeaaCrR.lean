/- Contracts of the document's sums over bytes. -/
import Derived.Test.YtbicdmhmpmdoeaaCrM
import Derived.Test.YtbicdmhmpmdoeaaByC
import Derived.Laws.BitsAllLaws
import Derived.Laws.Shifts
namespace Go.Proofs.Ytbicdmhmpmdoeaa.Cr
open Go.ChangeShapes Go.WideShapes Go.ChangeAt Go.RowKit
open By (Bys at_ at_in)
set_option linter.unusedVariables false

theorem and1 (x : Nat) (h : x < 2 ^ 32) : bits .and .u32 (x : Int) 1 = ((x % 2 : Nat) : Int) := by
  have := u32_and_nat x 1 (by omega) (by omega)
  rw [Nat.and_one_is_mod] at this
  exact this

theorem xor32 (x y : Nat) (hx : x < 2 ^ 32) (hy : y < 2 ^ 32) : bits .xor .u32 (x : Int) (y : Int) = ((x ^^^ y : Nat) : Int) := u32_xor_nat x y (by omega) (by omega)

theorem neg_bits (s : Nat) (hs : s < 2 ^ 32) : bits .xor .u32 IntKind.u32.max (s : Int) = ((neg s : Nat) : Int) := by
  have h := u32_xor_nat 4294967295 s (by omega) (by omega)
  have e : IntKind.u32.max = ((4294967295 : Nat) : Int) := rfl
  rw [e, h]
  congr 1
  have h2 := xor_neg hs
  rw [← h2, Nat.xor_comm s (neg s), Nat.xor_assoc, Nat.xor_self, Nat.xor_zero]

theorem bit_and (x k : Nat) (h : x < 256) : bits .and .u32 ((x : Int) / 2 ^ k % 4294967296) 1 = ((x / 2 ^ k % 2 : Nat) : Int) := by
  have h1 : x / 2 ^ k < 256 := Nat.lt_of_le_of_lt (Nat.div_le_self _ _) h
  have e : (x : Int) / 2 ^ k % 4294967296 = ((x / 2 ^ k : Nat) : Int) := by
    have e2 : (x : Int) / 2 ^ k = ((x / 2 ^ k : Nat) : Int) := by simp
    rw [e2]
    generalize x / 2 ^ k = y at h1 ⊢
    omega
  rw [e, and1 _ (by omega)]

theorem low_xor (q c : Nat) (hc : c < 2) : bits .xor .u32 ((q : Int) % 2) (c : Int) = (((q + c) % 2 : Nat) : Int) := by
  have h := xor32 (q % 2) c (by omega) (by omega)
  have e : ((q % 2 : Nat) : Int) = (q : Int) % 2 := by omega
  rw [e] at h
  rw [h]
  congr 1
  have h2 := xor_mod_two (q % 2) c
  have h3 : q % 2 ^^^ c < 2 := by
    have := Nat.xor_lt_two_pow (x := q % 2) (y := c) (n := 1) (by omega) (by omega)
    omega
  omega

theorem poly_xor (q : Nat) (h : q < 2 ^ 32) : bits .xor .u32 ((q : Int) / 2) 3988292384 = ((q / 2 ^^^ poly : Nat) : Int) := by
  have h1 := xor32 (q / 2) poly (by omega) (by decide)
  have e : ((q / 2 : Nat) : Int) = (q : Int) / 2 := by omega
  rw [e] at h1
  exact h1

theorem st_one {q c : Nat} (h : (q + c) % 2 = 1) : st q c = q / 2 ^^^ poly := by unfold st pick; rw [if_pos h]

theorem st_none {q c : Nat} (h : ¬ (q + c) % 2 = 1) : st q c = q / 2 := by unfold st pick; rw [if_neg h, Nat.xor_zero]

set_option maxHeartbeats 1000000 in
theorem rmore_any (s n c M : Nat) (A : Option Addr) (l : List UInt8) (w : World) (hs : s < 2 ^ 32) (h : Bys w M A n l) (hn : n ≤ 1000000000000) :
    Calls Try.prog 29 #[.int .u32 (s : Int), .slice A n c] w fun e w' => e = .returned (.int .u32 (more s l : Int)) ∧ w = w' := by
  have n1 : (n : Int) ≤ 1000000000000 := by omega
  have s1 : (s : Int) ≤ 4294967295 := by omega
  have b0 := neg_bits s hs
  have HB := Lib.hid h
  have HL := Lib.hid h.len
  clear h
  go_enter Try.func29, Try.ntmps29
  go_wp2_with fail
  go_loop [5, 6] (fun s5 s6 => ∃ i : Nat, s6 = .int .i64 (i : Int) ∧ i ≤ n ∧ s5 = .int .u32 ((feed (neg s) (l.take i) : Nat) : Int)) (fun _ s6 => n - (intOf s6).toNat)
  case atStart => exact ⟨0, rfl, by omega, rfl⟩
  case round =>
    obtain ⟨i, rfl, hi, rfl⟩ := hrel
    have i0 : (0 : Int) ≤ (i : Int) := by omega
    have hr := feed_lt (l.take i) (neg_lt s)
    by_cases hlt : i < n
    · have i1 : (i : Int) < (n : Int) := by omega
      have i2 : decide (i < n) = true := by simp; omega
      obtain ⟨g, o, rfl, hg, hcell⟩ := HB.out.at (k := i) hlt
      have il : i < l.length := by have := HL.out; omega
      obtain ⟨b, hb⟩ : ∃ b, l[i]? = some b := ⟨_, List.getElem?_eq_getElem il⟩
      rw [By.at_some hb] at hcell
      have HT := Lib.hid (feed_take (neg s) hb)
      generalize feed (neg s) (l.take i) = R at *
      have hbb := b.toNat_lt
      generalize b.toNat = x at *
      clear hb il
      go_wp2_with fail
      go_loop [5, 7] (fun s5 s7 => ∃ k : Nat, s7 = .int .i64 (k : Int) ∧ k ≤ 8 ∧ s5 = .int .u32 ((bitsN R x k : Nat) : Int)) (fun _ s7 => 8 - (intOf s7).toNat)
      case atStart => exact ⟨0, rfl, by omega, rfl⟩
      case round =>
        obtain ⟨k, rfl, hk, rfl⟩ := hrel
        have k0 : (0 : Int) ≤ (k : Int) := by omega
        have hq := bitsN_lt (r := R) x hr k
        have HQ : Hid (bitsN R x (k + 1) = st (bitsN R x k) (x / 2 ^ k % 2)) := Lib.hid rfl
        generalize hQQ : bitsN R x k = Q at *
        have HQ0 := Lib.hid hQQ
        clear hQQ
        have q0 : (0 : Int) ≤ (Q : Int) := by omega
        have q1 : (Q : Int) ≤ 4294967295 := by omega
        have x0 : (0 : Int) ≤ (x : Int) := by omega
        have x1 : (x : Int) ≤ 255 := by omega
        have a1 := and1 Q hq
        have a2 := bit_and x k hbb
        have hc : x / 2 ^ k % 2 < 2 := Nat.mod_lt _ (by omega)
        by_cases hk8 : k < 8
        · have k1 : (k : Int) < 8 := by omega
          generalize x / 2 ^ k % 2 = c1 at *
          have a3 := low_xor Q c1 hc
          by_cases hl : (Q + c1) % 2 = 1
          · have HS := Lib.hid (st_one hl)
            have a4 := poly_xor Q hq
            rw [hl] at a3
            clear hl
            go_wp2
            go_round
            case rel => exact ⟨k + 1, by go_num, by omega, by rw [HQ.out, HS.out]⟩
            case measure => simp [intOf]; omega
          · have HS := Lib.hid (st_none hl)
            have h0 : (Q + c1) % 2 = 0 := by omega
            rw [h0] at a3
            clear hl h0
            go_wp2
            go_round
            case rel => exact ⟨k + 1, by go_num, by omega, by rw [HQ.out, HS.out]; rfl⟩
            case measure => simp [intOf]; omega
        · have k1 : ¬ (k : Int) < 8 := by omega
          obtain rfl : k = 8 := by omega
          clear a1 a2 hc
          go_wp2
          go_round
          case rel => exact ⟨i + 1, by go_num, by omega, by rw [HT.out, HQ0.out]⟩
          case measure => simp [intOf]; omega
    · obtain rfl : i = n := by omega
      have i1 : ¬ (i : Int) < (i : Int) := by omega
      have i2 : decide (i < i) = false := by simp
      have HE : Hid (l.take i = l) := Lib.hid (List.take_of_length_le (by have := HL.out; omega))
      have b1 := neg_bits _ hr
      go_wp2
      go_ret
      exact ⟨by rw [HE.out]; rfl, rfl⟩

theorem rsum_any (n c M : Nat) (A : Option Addr) (l : List UInt8) (w : World) (h : Bys w M A n l) (hn : n ≤ 1000000000000) :
    Calls Try.prog 15 #[.slice A n c] w fun e w' => e = .returned (.int .u32 (sum l : Int)) ∧ w = w' := by
  have H := Lib.hid (rmore_any 0 n c M A l w (by decide) h hn)
  clear h
  go_enter Try.func15, Try.ntmps15
  go_wp2_with fail
  refine H.out.mono ?_
  rintro e w' ⟨rfl, rfl⟩
  go_wp2
  go_ret
  exact ⟨rfl, rfl⟩

end Go.Proofs.Ytbicdmhmpmdoeaa.Cr
