/- Sums over bytes: plain mathematics, nothing of the program. · Contracts of the document's sums over bytes. · Contracts of package crc, told of what is new alone. -/
import Derived.Test.YtedgookkogpfbaaBa
import Derived.Laws.BitsAllLaws
import Derived.Laws.Shifts
set_option maxRecDepth 100000

section
set_option linter.unusedVariables false
namespace Go.Proofs.Ytedgookkogpfbaa.Cr

def poly : Nat := 3988292384

/-- What is changed where the lowest bits differ. -/
def pick (x : Nat) : Nat := if x % 2 = 1 then poly else 0

/-- A bit goes in. -/
def st (r c : Nat) : Nat := (r / 2) ^^^ pick (r + c)

theorem pick_add (x y : Nat) : pick (x + y) = pick x ^^^ pick y := by
  unfold pick
  rcases Nat.mod_two_eq_zero_or_one x with hx | hx <;> rcases Nat.mod_two_eq_zero_or_one y with hy | hy
  · rw [if_neg (by omega), if_neg (by omega), if_neg (by omega)]; rfl
  · rw [if_pos (by omega), if_neg (by omega), if_pos hy]; simp
  · rw [if_pos (by omega), if_pos hx, if_neg (by omega)]; simp
  · rw [if_neg (by omega), if_pos hx, if_pos hy, Nat.xor_self]

theorem pick_mod (x : Nat) : pick (x % 2) = pick x := by
  unfold pick
  rw [Nat.mod_mod]

theorem xor_mod_two (a b : Nat) : (a ^^^ b) % 2 = (a + b) % 2 := by
  have h := Nat.xor_mod_two_pow (a := a) (b := b) (n := 1)
  rw [Nat.pow_one] at h
  rw [h, Nat.add_mod]
  rcases Nat.mod_two_eq_zero_or_one a with ha | ha <;> rcases Nat.mod_two_eq_zero_or_one b with hb | hb <;> rw [ha, hb] <;> rfl

theorem pick_xor (a b : Nat) : pick (a ^^^ b) = pick a ^^^ pick b := by
  rw [← pick_mod, xor_mod_two, pick_mod, pick_add]

/-- Two registers by exclusive or, two bits modulo two. -/
theorem st_xor (a b c d : Nat) : st (a ^^^ b) (c + d) = st a c ^^^ st b d := by
  unfold st
  rw [pick_add, pick_add, pick_add, pick_add, pick_xor, Nat.xor_div_two]
  simp only [Nat.xor_assoc]
  congr 1
  rw [← Nat.xor_assoc (b / 2), Nat.xor_comm (b / 2) (pick a), Nat.xor_assoc]
  congr 1
  rw [← Nat.xor_assoc (pick c), Nat.xor_comm (pick c) (b / 2), Nat.xor_assoc]
  congr 1
  rw [← Nat.xor_assoc, Nat.xor_comm (pick b) (pick c), Nat.xor_assoc]

theorem st_mod (r c : Nat) : st r (c % 2) = st r c := by
  unfold st
  rw [pick_add, pick_mod, ← pick_add]

theorem pick_lt (x : Nat) : pick x < 2 ^ 32 := by
  unfold pick
  split <;> decide

theorem st_lt {r : Nat} (c : Nat) (h : r < 2 ^ 32) : st r c < 2 ^ 32 := Nat.xor_lt_two_pow (by omega) (pick_lt _)

theorem xor_eq_zero {a b : Nat} (h : a ^^^ b = 0) : a = b := by
  have : a ^^^ b ^^^ b = 0 ^^^ b := by rw [h]
  rw [Nat.xor_assoc, Nat.xor_self, Nat.xor_zero, Nat.zero_xor] at this
  exact this

/-- A register that is not 0 does not get 0. -/
theorem st_zero {r : Nat} (h : r < 2 ^ 32) (h0 : st r 0 = 0) : r = 0 := by
  unfold st at h0
  have := xor_eq_zero h0
  rw [Nat.add_zero] at this
  unfold pick at this
  split at this
  · unfold poly at this; omega
  · omega

theorem st_zz : st 0 0 = 0 := by decide

/-! ### Bits one by one -/
def runF (r : Nat) (f : Nat → Nat) : Nat → Nat
  | 0 => r
  | n + 1 => st (runF r f n) (f n)

theorem runF_lt {r : Nat} (f : Nat → Nat) (h : r < 2 ^ 32) : ∀ n, runF r f n < 2 ^ 32
  | 0 => h
  | n + 1 => st_lt _ (runF_lt f h n)

theorem runF_xor (a b : Nat) (f g : Nat → Nat) : ∀ n, runF (a ^^^ b) (fun i => f i + g i) n = runF a f n ^^^ runF b g n
  | 0 => rfl
  | n + 1 => by
    show st (runF (a ^^^ b) (fun i => f i + g i) n) (f n + g n) = st (runF a f n) (f n) ^^^ st (runF b g n) (g n)
    rw [runF_xor a b f g n, st_xor]

theorem runF_congr (r : Nat) {f g : Nat → Nat} : ∀ n, (∀ i, i < n → f i % 2 = g i % 2) → runF r f n = runF r g n
  | 0, _ => rfl
  | n + 1, h => by
    show st (runF r f n) (f n) = st (runF r g n) (g n)
    rw [runF_congr r n (fun i hi => h i (by omega)), ← st_mod, h n (by omega), st_mod]

theorem runF_add (r : Nat) (f : Nat → Nat) (n : Nat) : ∀ m, runF r f (n + m) = runF (runF r f n) (fun i => f (n + i)) m
  | 0 => rfl
  | m + 1 => by
    show st (runF r f (n + m)) (f (n + m)) = _
    rw [runF_add r f n m]
    rfl

/-- So many noughts. -/
def zs (r n : Nat) : Nat := runF r (fun _ => 0) n

theorem zs_xor (a b n : Nat) : zs (a ^^^ b) n = zs a n ^^^ zs b n := runF_xor a b (fun _ => 0) (fun _ => 0) n

theorem zs_nought : ∀ n, zs 0 n = 0
  | 0 => rfl
  | n + 1 => by
    show st (zs 0 n) 0 = 0
    rw [zs_nought n]
    exact st_zz

theorem zs_zero {r : Nat} (h : r < 2 ^ 32) : ∀ n, zs r n = 0 → r = 0
  | 0, h0 => h0
  | n + 1, h0 => zs_zero h n (st_zero (runF_lt _ h n) h0)

/-- A bit at a place comes down. -/
theorem zs_down (c : Nat) (hc : c < 2) : ∀ k, zs (c * 2 ^ k) k = c
  | 0 => by simp [zs, runF]
  | k + 1 => by
    have h : ∀ j, j ≤ k → zs (c * 2 ^ (k + 1)) j = c * 2 ^ (k + 1 - j) := by
      intro j
      induction j with
      | zero => intro _; rfl
      | succ j ih =>
        intro hj
        show st (zs (c * 2 ^ (k + 1)) j) 0 = _
        rw [ih (by omega)]
        have e : k + 1 - j = (k + 1 - (j + 1)) + 1 := by omega
        rw [e, Nat.pow_succ, ← Nat.mul_assoc]
        unfold st
        have : pick (c * 2 ^ (k + 1 - (j + 1)) * 2 + 0) = 0 := by unfold pick; rw [if_neg (by omega)]
        rw [Nat.mul_div_cancel _ (by omega), this, Nat.xor_zero]
    show st (zs (c * 2 ^ (k + 1)) k) 0 = c
    rw [h k (Nat.le_refl _)]
    have e : k + 1 - k = 1 := by omega
    rw [e]
    unfold st pick
    rw [if_neg (by omega), Nat.xor_zero]
    omega

/-- The bits of a number. -/
def bitsOf (u : Nat) (i : Nat) : Nat := u / 2 ^ i % 2

theorem low_bit (u k : Nat) : u % 2 ^ (k + 1) = (u % 2 ^ k) ^^^ (bitsOf u k * 2 ^ k) := by
  unfold bitsOf
  have h1 : u % 2 ^ k < 2 ^ k := Nat.mod_lt _ (Nat.two_pow_pos k)
  have h2 := Nat.two_pow_add_eq_or_of_lt h1 (u / 2 ^ k % 2)
  have h3 : u % 2 ^ (k + 1) = u % 2 ^ k + 2 ^ k * (u / 2 ^ k % 2) := by rw [Nat.pow_succ, Nat.mod_mul]
  rw [h3]
  apply Nat.eq_of_testBit_eq
  intro j
  rw [Nat.add_comm, h2, Nat.testBit_or, Nat.testBit_xor, Nat.mul_comm (u / 2 ^ k % 2)]
  have h4 : (2 ^ k * (u / 2 ^ k % 2)).testBit j = true → (u % 2 ^ k).testBit j = false := by
    intro ht
    rcases Nat.lt_or_ge j k with hj | hj
    · rw [Nat.testBit_two_pow_mul] at ht
      simp at ht
      omega
    · exact Nat.testBit_lt_two_pow (Nat.lt_of_lt_of_le h1 (Nat.pow_le_pow_right (by omega) hj))
  cases ha : (2 ^ k * (u / 2 ^ k % 2)).testBit j with
  | false => simp
  | true => rw [h4 ha]; rfl

/-- A number's bits from the lowest on, into nought: as its register, and noughts. -/
theorem feed_bits (u : Nat) : ∀ k, k ≤ 32 → runF 0 (bitsOf u) k = zs (u % 2 ^ k) k
  | 0, _ => by rw [Nat.pow_zero, Nat.mod_one]; rfl
  | k + 1, h => by
    show st (runF 0 (bitsOf u) k) (bitsOf u k) = zs (u % 2 ^ (k + 1)) (k + 1)
    rw [feed_bits u k (by omega), low_bit, zs_xor]
    have h1 : zs (bitsOf u k * 2 ^ k) (k + 1) = st (bitsOf u k) 0 := by
      show st (zs (bitsOf u k * 2 ^ k) k) 0 = _
      rw [zs_down _ (by unfold bitsOf; omega)]
    have h2 : zs (u % 2 ^ k) (k + 1) = st (zs (u % 2 ^ k) k) 0 := rfl
    rw [h1, h2]
    have h3 : st (bitsOf u k) 0 = st 0 (bitsOf u k) := by
      unfold st
      have : bitsOf u k / 2 = 0 := by unfold bitsOf; omega
      rw [this, Nat.zero_div, Nat.add_zero, Nat.zero_add]
    rw [h3, ← st_xor, Nat.xor_zero, Nat.zero_add]

theorem feed32 (r u : Nat) (hu : u < 2 ^ 32) : runF r (bitsOf u) 32 = zs (r ^^^ u) 32 := by
  have h := runF_xor r 0 (fun _ => 0) (bitsOf u) 32
  rw [Nat.xor_zero] at h
  have e : (fun i => (fun _ => 0) i + bitsOf u i) = bitsOf u := by funext i; simp
  rw [e, feed_bits u 32 (by omega), Nat.mod_eq_of_lt hu] at h
  rw [h, zs_xor]
  rfl

/-! ### Bytes -/
def bitsN (r b : Nat) : Nat → Nat
  | 0 => r
  | k + 1 => st (bitsN r b k) (b / 2 ^ k % 2)

def feed (r : Nat) : List UInt8 → Nat
  | [] => r
  | b :: l => feed (bitsN r b.toNat 8) l

theorem bitsN_lt {r : Nat} (b : Nat) (h : r < 2 ^ 32) : ∀ k, bitsN r b k < 2 ^ 32
  | 0 => h
  | k + 1 => st_lt _ (bitsN_lt b h k)

theorem feed_lt : ∀ (l : List UInt8) {r : Nat}, r < 2 ^ 32 → feed r l < 2 ^ 32
  | [], _, h => h
  | b :: l, _, h => feed_lt l (bitsN_lt _ h 8)

theorem feed_append : ∀ (l m : List UInt8) (r : Nat), feed r (l ++ m) = feed (feed r l) m
  | [], _, _ => rfl
  | b :: l, m, r => by
    show feed (bitsN r b.toNat 8) (l ++ m) = _
    rw [feed_append l m]
    rfl

/-- One byte more. -/
theorem feed_take {l : List UInt8} {i : Nat} {b : UInt8} (r : Nat) (h : l[i]? = some b) : feed r (l.take (i + 1)) = bitsN (feed r (l.take i)) b.toNat 8 := by
  have hi := (List.getElem?_eq_some_iff.1 h).1
  have e : l.take (i + 1) = l.take i ++ [b] := by
    rw [List.take_add_one, h]; rfl
  rw [e, feed_append]
  rfl

def neg (x : Nat) : Nat := 4294967295 - x

def more (s : Nat) (l : List UInt8) : Nat := neg (feed (neg s) l)

def sum (l : List UInt8) : Nat := more 0 l

theorem neg_neg {x : Nat} (h : x < 2 ^ 32) : neg (neg x) = x := by unfold neg; omega

theorem neg_lt (x : Nat) : neg x < 2 ^ 32 := by unfold neg; omega

theorem more_lt (s : Nat) (l : List UInt8) : more s l < 2 ^ 32 := neg_lt _

theorem neg_inj {x y : Nat} (hx : x < 2 ^ 32) (hy : y < 2 ^ 32) (h : neg x = neg y) : x = y := by unfold neg at h; omega

/-- Bytes in pieces. -/
theorem more_more (s : Nat) (l m : List UInt8) : more (more s l) m = more s (l ++ m) := by
  unfold more
  rw [neg_neg (feed_lt l (neg_lt s)), feed_append]

/-! ### Bits of bytes, one behind the other -/
def bitAt (l : List UInt8) (j : Nat) : Nat := (l.getD (j / 8) 0).toNat / 2 ^ (j % 8) % 2

theorem bitsN_run (r b : Nat) : ∀ k, bitsN r b k = runF r (bitsOf b) k
  | 0 => rfl
  | k + 1 => by
    show st (bitsN r b k) (b / 2 ^ k % 2) = st (runF r (bitsOf b) k) (bitsOf b k)
    rw [bitsN_run r b k]
    rfl

theorem feed_run : ∀ (l : List UInt8) (r : Nat), feed r l = runF r (bitAt l) (8 * l.length)
  | [], _ => rfl
  | b :: l, r => by
    show feed (bitsN r b.toNat 8) l = _
    rw [feed_run l, bitsN_run]
    have e : 8 * (b :: l).length = 8 + 8 * l.length := by rw [List.length_cons]; omega
    rw [e, runF_add]
    have e1 : runF r (bitAt (b :: l)) 8 = runF r (bitsOf b.toNat) 8 := runF_congr r 8 fun i hi => by
      unfold bitAt bitsOf
      have h0 : i / 8 = 0 := by omega
      have h1 : i % 8 = i := by omega
      rw [h0, h1]
      rfl
    rw [e1]
    refine runF_congr _ _ fun i hi => ?_
    unfold bitAt
    have h0 : (8 + i) / 8 = i / 8 + 1 := by omega
    have h1 : (8 + i) % 8 = i % 8 := by omega
    rw [h0, h1]
    simp

/-- Rows of as many bytes, by exclusive or, bit by bit. -/
theorem feed_xor (a b : Nat) (l m x : List UInt8) (hl : l.length = x.length) (hm : m.length = x.length) (h : ∀ j, bitAt x j % 2 = (bitAt l j + bitAt m j) % 2) : feed (a ^^^ b) x = feed a l ^^^ feed b m := by
  rw [feed_run, feed_run, feed_run, hl, hm, ← runF_xor]
  exact runF_congr _ _ fun i _ => h i

theorem xor_bit (x y i : Nat) : (x ^^^ y) / 2 ^ i % 2 = (x / 2 ^ i % 2 + y / 2 ^ i % 2) % 2 := by
  have h : (x ^^^ y) / 2 ^ i = (x / 2 ^ i) ^^^ (y / 2 ^ i) := Nat.xor_div_two_pow
  rw [h, xor_mod_two, Nat.add_mod]

theorem bitAt_xor (l m x : List UInt8) (h : ∀ j, (x.getD j 0).toNat = (l.getD j 0).toNat ^^^ (m.getD j 0).toNat) (j : Nat) : bitAt x j % 2 = (bitAt l j + bitAt m j) % 2 := by
  unfold bitAt
  rw [h, xor_bit, Nat.mod_mod]

/-! ### Bits turned within 32 neighbouring ones -/
theorem burst (at_ u n : Nat) (f : Nat → Nat) (hu : u < 2 ^ 32) (hn : at_ + 32 ≤ n) (h0 : ∀ j, j < at_ → f j % 2 = 0) (h1 : ∀ i, i < 32 → f (at_ + i) % 2 = bitsOf u i) (h2 : ∀ j, at_ + 32 ≤ j → f j % 2 = 0) : (runF 0 f n = 0) ↔ u = 0 := by
  obtain ⟨m, rfl⟩ : ∃ m, n = at_ + (32 + m) := ⟨n - at_ - 32, by omega⟩
  have e0 : runF 0 f at_ = 0 := by
    rw [runF_congr 0 (g := fun _ => 0) at_ (fun i hi => by rw [h0 i hi])]
    exact zs_nought at_
  have e1 : runF 0 (fun i => f (at_ + i)) 32 = zs u 32 := by
    rw [runF_congr 0 (g := bitsOf u) 32 (fun i hi => by rw [h1 i hi]; unfold bitsOf; omega), feed32 0 u hu, Nat.zero_xor]
  have e2 : runF 0 f (at_ + (32 + m)) = zs (zs u 32) m := by
    rw [runF_add, e0, runF_add, e1]
    exact runF_congr _ _ fun i hi => by
      show f (at_ + (32 + i)) % 2 = 0 % 2
      rw [h2 _ (by omega)]
  rw [e2]
  refine ⟨fun h => zs_zero hu 32 (zs_zero (runF_lt _ hu 32) m h), fun h => ?_⟩
  subst h
  rw [zs_nought, zs_nought]

/-! ### Its own sum behind it -/
theorem xor_neg {x : Nat} (h : x < 2 ^ 32) : x ^^^ neg x = 4294967295 := by
  have e : neg x = 2 ^ 32 - (x + 1) := by unfold neg; omega
  rw [e]
  apply Nat.eq_of_testBit_eq
  intro i
  rw [Nat.testBit_xor, Nat.testBit_two_pow_sub_succ h, show (4294967295 : Nat) = 2 ^ 32 - 1 by rfl, Nat.testBit_two_pow_sub_one]
  by_cases hi : i < 32
  · simp [hi]
  · have : x.testBit i = false := Nat.testBit_lt_two_pow (Nat.lt_of_lt_of_le h (Nat.pow_le_pow_right (by omega) (by omega)))
    simp [hi, this]

/-- Four bytes that say u, the lowest first. -/
theorem feed4 (r u : Nat) (hu : u < 2 ^ 32) (b0 b1 b2 b3 : UInt8) (h0 : b0.toNat = u % 256) (h1 : b1.toNat = u / 256 % 256) (h2 : b2.toNat = u / 65536 % 256) (h3 : b3.toNat = u / 16777216 % 256) : feed r [b0, b1, b2, b3] = zs (r ^^^ u) 32 := by
  rw [feed_run, ← feed32 r u hu]
  refine runF_congr _ _ fun i hi => ?_
  have hi' : i < 32 := hi
  unfold bitAt bitsOf
  have key : ∀ (b k : Nat), k < 8 → ∀ q, b = u / 2 ^ q % 256 → b / 2 ^ k % 2 = u / 2 ^ (q + k) % 2 := by
    intro b k hk q hb
    rw [hb, Nat.pow_add, ← Nat.div_div_eq_div_mul]
    generalize u / 2 ^ q = v
    have e : 256 = 2 ^ k * 2 ^ (8 - k) := by rw [← Nat.pow_add, show k + (8 - k) = 8 by omega]
    have e8 : 2 ^ (8 - k) = 2 * 2 ^ (7 - k) := by rw [show 8 - k = (7 - k) + 1 by omega, Nat.pow_succ, Nat.mul_comm]
    rw [e, Nat.mod_mul_right_div_self, e8, Nat.mod_mul_right_mod]
  have cs : i / 8 = 0 ∨ i / 8 = 1 ∨ i / 8 = 2 ∨ i / 8 = 3 := by omega
  rcases cs with c | c | c | c
  · rw [c]
    show b0.toNat / 2 ^ (i % 8) % 2 % 2 = _
    rw [key b0.toNat (i % 8) (by omega) 0 (by simpa using h0), show 0 + i % 8 = i by omega]
  · rw [c]
    show b1.toNat / 2 ^ (i % 8) % 2 % 2 = _
    rw [key b1.toNat (i % 8) (by omega) 8 h1, show 8 + i % 8 = i by omega]
  · rw [c]
    show b2.toNat / 2 ^ (i % 8) % 2 % 2 = _
    rw [key b2.toNat (i % 8) (by omega) 16 h2, show 16 + i % 8 = i by omega]
  · rw [c]
    show b3.toNat / 2 ^ (i % 8) % 2 % 2 = _
    rw [key b3.toNat (i % 8) (by omega) 24 h3, show 24 + i % 8 = i by omega]

/-- A number's four bytes, the lowest first. -/
def b4 (u : Nat) : List UInt8 := [UInt8.ofNat (u % 256), UInt8.ofNat (u / 256 % 256), UInt8.ofNat (u / 65536 % 256), UInt8.ofNat (u / 16777216 % 256)]

theorem sum_ends (l : List UInt8) : sum (l ++ b4 (sum l)) = sum [0, 0, 0, 0] := by
  have hR := feed_lt l (neg_lt 0)
  have e1 : feed (feed (neg 0) l) (b4 (sum l)) = zs (neg 0) 32 := by
    unfold b4
    rw [feed4 _ (sum l) (more_lt _ _) _ _ _ _ (By.toNat_small (by omega)) (By.toNat_small (by omega)) (By.toNat_small (by omega)) (By.toNat_small (by omega))]
    have e : feed (neg 0) l ^^^ sum l = neg 0 := xor_neg hR
    rw [e]
  have e2 : feed (neg 0) [0, 0, 0, 0] = zs (neg 0) 32 := by
    rw [feed4 (neg 0) 0 (by decide) 0 0 0 0 rfl rfl rfl rfl, Nat.xor_zero]
  unfold sum more
  rw [feed_append]
  unfold sum more at e1
  rw [e1, e2]

theorem neg_xor {y : Nat} (h : y < 2 ^ 32) : neg y = 4294967295 ^^^ y := by
  have h2 := xor_neg h
  rw [← h2, Nat.xor_comm y (neg y), Nat.xor_assoc, Nat.xor_self, Nat.xor_zero]

/-- Three rows of as many bytes, and what they are together. -/
theorem sum_three (a b c x : List UInt8) (ha : a.length = x.length) (hb : b.length = x.length) (hc : c.length = x.length)
    (h : ∀ j, j < x.length → (x.getD j 0).toNat = (a.getD j 0).toNat ^^^ (b.getD j 0).toNat ^^^ (c.getD j 0).toNat) : sum x = sum a ^^^ sum b ^^^ sum c := by
  have h' : ∀ j, (x.getD j 0).toNat = (a.getD j 0).toNat ^^^ (b.getD j 0).toNat ^^^ (c.getD j 0).toNat := fun j => by
    rcases Nat.lt_or_ge j x.length with hj | hj
    · exact h j hj
    · have e : ∀ l : List UInt8, l.length = x.length → l.getD j 0 = 0 := fun l hl => by
        rw [List.getD, List.getElem?_eq_none (by omega)]; rfl
      rw [e x rfl, e a ha, e b hb, e c hc]
      rfl
  obtain ⟨t, ht, htx⟩ : ∃ t : List UInt8, t.length = x.length ∧ ∀ j, (t.getD j 0).toNat = (a.getD j 0).toNat ^^^ (b.getD j 0).toNat := by
    refine ⟨List.zipWith (· ^^^ ·) a b, by rw [List.length_zipWith]; omega, fun j => ?_⟩
    rcases Nat.lt_or_ge j x.length with hj | hj
    · have e : (List.zipWith (· ^^^ ·) a b).getD j 0 = a.getD j 0 ^^^ b.getD j 0 := by
        simp only [List.getD, List.getElem?_zipWith]
        rw [List.getElem?_eq_getElem (show j < a.length by omega), List.getElem?_eq_getElem (show j < b.length by omega)]
        rfl
      rw [e, UInt8.toNat_xor]
    · have e : ∀ l : List UInt8, l.length = x.length → l.getD j 0 = 0 := fun l hl => by
        rw [List.getD, List.getElem?_eq_none (by omega)]; rfl
      rw [e _ (by rw [List.length_zipWith]; omega), e a ha, e b hb]
      rfl
  have f1 := feed_xor (neg 0) (neg 0) a b t (by omega) (by omega) (bitAt_xor a b t htx)
  have f2 := feed_xor (neg 0 ^^^ neg 0) (neg 0) t c x ht hc (bitAt_xor t c x fun j => by rw [h' j, htx j])
  rw [Nat.xor_self, Nat.zero_xor] at f2
  rw [Nat.xor_self] at f1
  have la := feed_lt a (neg_lt 0)
  have lb := feed_lt b (neg_lt 0)
  have lc := feed_lt c (neg_lt 0)
  unfold sum more
  rw [f2, f1, neg_xor la, neg_xor lb, neg_xor lc, neg_xor (Nat.xor_lt_two_pow (Nat.xor_lt_two_pow la lb) lc)]
  generalize feed (neg 0) a = A
  generalize feed (neg 0) b = B
  generalize feed (neg 0) c = C
  generalize (4294967295 : Nat) = F
  apply Nat.eq_of_testBit_eq
  intro i
  simp only [Nat.testBit_xor]
  cases F.testBit i <;> cases A.testBit i <;> cases B.testBit i <;> cases C.testBit i <;> rfl

/-! ### Bits turned, in a row of bytes -/
/-- The bits that are turned: those of u from at_ on, i of them. -/
def burstAt (at_ u i j : Nat) : Nat := if at_ ≤ j ∧ j < at_ + i then bitsOf u (j - at_) else 0

theorem two_pow_bit (p r : Nat) : 2 ^ p / 2 ^ r % 2 = if p = r then 1 else 0 := by
  rcases Nat.lt_trichotomy p r with h | h | h
  · rw [if_neg (by omega), Nat.div_eq_of_lt (Nat.pow_lt_pow_right (by omega) h)]
  · subst h; rw [if_pos rfl, Nat.div_self (Nat.two_pow_pos p)]
  · rw [if_neg (by omega), Nat.pow_div (by omega) (by omega)]
    have : p - r = (p - r - 1) + 1 := by omega
    rw [this, Nat.pow_succ]
    omega

/-- One bit is turned. -/
theorem turn_bit (C : List UInt8) (q : Nat) (y : UInt8) (p : Nat) (hp : p < 8) (hq : q < C.length) (hy : y.toNat = (C.getD q 0).toNat ^^^ 2 ^ p) (j : Nat) : bitAt (C.set q y) j = (bitAt C j + if j = 8 * q + p then 1 else 0) % 2 := by
  unfold bitAt
  by_cases h : j / 8 = q
  · have e : (C.set q y).getD (j / 8) 0 = y := by
      rw [h, List.getD, List.getElem?_set_self hq]; rfl
    rw [e, hy, xor_bit, h, two_pow_bit]
    congr 2
    by_cases h2 : p = j % 8
    · rw [if_pos h2, if_pos (by omega)]
    · rw [if_neg h2, if_neg (by omega)]
  · have e : (C.set q y).getD (j / 8) 0 = C.getD (j / 8) 0 := by
      rw [List.getD, List.getElem?_set_ne (fun e => h e.symm)]; rfl
    rw [e, if_neg (by omega)]
    omega

theorem turned_step {b C : List UInt8} {at_ u i : Nat} (h : ∀ j, bitAt C j = (bitAt b j + burstAt at_ u i j) % 2) (y : UInt8) (hq : (at_ + i) / 8 < C.length) (hu : bitsOf u i = 1) (hy : y.toNat = (C.getD ((at_ + i) / 8) 0).toNat ^^^ 2 ^ ((at_ + i) % 8)) (j : Nat) :
    bitAt (C.set ((at_ + i) / 8) y) j = (bitAt b j + burstAt at_ u (i + 1) j) % 2 := by
  rw [turn_bit C _ y _ (by omega) hq hy j, h j]
  unfold burstAt
  by_cases hj : j = at_ + i
  · subst hj
    rw [if_neg (show ¬ (at_ ≤ at_ + i ∧ at_ + i < at_ + i) by omega), if_pos (show at_ + i = 8 * ((at_ + i) / 8) + (at_ + i) % 8 by omega), if_pos (show at_ ≤ at_ + i ∧ at_ + i < at_ + (i + 1) by omega)]
    have : at_ + i - at_ = i := by omega
    rw [this, hu]
    omega
  · rw [if_neg (show ¬ j = 8 * ((at_ + i) / 8) + (at_ + i) % 8 by omega)]
    by_cases h2 : at_ ≤ j ∧ j < at_ + i
    · rw [if_pos h2, if_pos (show at_ ≤ j ∧ j < at_ + (i + 1) by omega)]; omega
    · rw [if_neg h2, if_neg (show ¬ (at_ ≤ j ∧ j < at_ + (i + 1)) by omega)]; omega

theorem same_step {b C : List UInt8} {at_ u i : Nat} (h : ∀ j, bitAt C j = (bitAt b j + burstAt at_ u i j) % 2) (hu : bitsOf u i = 0) (j : Nat) : bitAt C j = (bitAt b j + burstAt at_ u (i + 1) j) % 2 := by
  rw [h j]
  unfold burstAt
  by_cases hj : j = at_ + i
  · subst hj
    rw [if_neg (show ¬ (at_ ≤ at_ + i ∧ at_ + i < at_ + i) by omega), if_pos (show at_ ≤ at_ + i ∧ at_ + i < at_ + (i + 1) by omega)]
    have : at_ + i - at_ = i := by omega
    rw [this, hu]
  · by_cases h2 : at_ ≤ j ∧ j < at_ + i
    · rw [if_pos h2, if_pos (show at_ ≤ j ∧ j < at_ + (i + 1) by omega)]
    · rw [if_neg h2, if_neg (show ¬ (at_ ≤ j ∧ j < at_ + (i + 1)) by omega)]

theorem sum_turned {b C : List UInt8} {at_ u : Nat} (hu : u < 2 ^ 32) (hl : C.length = b.length) (hn : at_ + 32 ≤ 8 * b.length) (h : ∀ j, bitAt C j = (bitAt b j + burstAt at_ u 32 j) % 2) : (sum b = sum C) ↔ u = 0 := by
  have f1 : feed (neg 0) C = feed (neg 0) b ^^^ runF 0 (burstAt at_ u 32) (8 * b.length) := by
    rw [feed_run, feed_run, hl, ← runF_xor, Nat.xor_zero]
    exact runF_congr _ _ fun j _ => by rw [h j, Nat.mod_mod]
  have hb := burst at_ u (8 * b.length) (burstAt at_ u 32) hu hn (fun j hj => by unfold burstAt; rw [if_neg (by omega)]) (fun i hi => by
    unfold burstAt
    rw [if_pos (by omega), show at_ + i - at_ = i by omega]
    unfold bitsOf
    omega) (fun j hj => by unfold burstAt; rw [if_neg (by omega)])
  rw [← hb]
  unfold sum more
  refine ⟨fun e => ?_, fun e => ?_⟩
  · have e2 := neg_inj (feed_lt b (neg_lt 0)) (feed_lt C (neg_lt 0)) e
    rw [f1] at e2
    have e3 : feed (neg 0) b ^^^ feed (neg 0) b = feed (neg 0) b ^^^ (feed (neg 0) b ^^^ runF 0 (burstAt at_ u 32) (8 * b.length)) := by rw [← e2]
    rw [Nat.xor_self, ← Nat.xor_assoc, Nat.xor_self, Nat.zero_xor] at e3
    exact e3.symm
  · rw [f1, e, Nat.xor_zero]

end Go.Proofs.Ytedgookkogpfbaa.Cr
end

section
namespace Go.Proofs.Ytedgookkogpfbaa.Cr
open Go.ChangeShapes Go.WideShapes Go.ChangeAt Go.RowKit
open By (Bys at_ at_in)
set_option linter.unusedVariables false

theorem and1 (x : Nat) (h : x < 2 ^ 32) : bits .and .u32 (x : Int) 1 = ((x % 2 : Nat) : Int) := by
  have := u32_and_nat x 1 (by omega) (by omega)
  rw [Nat.and_one_is_mod] at this
  exact this

theorem xor32 (x y : Nat) (hx : x < 2 ^ 32) (hy : y < 2 ^ 32) : bits .xor .u32 (x : Int) (y : Int) = ((x ^^^ y : Nat) : Int) := u32_xor_nat x y (by omega) (by omega)

theorem neg_bits (s : Nat) (hs : s < 2 ^ 32) : bits .xor .u32 IntKind.u32.max (s : Int) = ((neg s : Nat) : Int) := by
  have h := u32_xor_nat 4294967295 s (by omega) (by omega)
  have e : IntKind.u32.max = ((4294967295 : Nat) : Int) := rfl
  rw [e, h]
  congr 1
  have h2 := xor_neg hs
  rw [← h2, Nat.xor_comm s (neg s), Nat.xor_assoc, Nat.xor_self, Nat.xor_zero]

theorem bit_and (x k : Nat) (h : x < 256) : bits .and .u32 ((x : Int) / 2 ^ k % 4294967296) 1 = ((x / 2 ^ k % 2 : Nat) : Int) := by
  have h1 : x / 2 ^ k < 256 := Nat.lt_of_le_of_lt (Nat.div_le_self _ _) h
  have e : (x : Int) / 2 ^ k % 4294967296 = ((x / 2 ^ k : Nat) : Int) := by
    have e2 : (x : Int) / 2 ^ k = ((x / 2 ^ k : Nat) : Int) := by simp
    rw [e2]
    generalize x / 2 ^ k = y at h1 ⊢
    omega
  rw [e, and1 _ (by omega)]

theorem low_xor (q c : Nat) (hc : c < 2) : bits .xor .u32 ((q : Int) % 2) (c : Int) = (((q + c) % 2 : Nat) : Int) := by
  have h := xor32 (q % 2) c (by omega) (by omega)
  have e : ((q % 2 : Nat) : Int) = (q : Int) % 2 := by omega
  rw [e] at h
  rw [h]
  congr 1
  have h2 := xor_mod_two (q % 2) c
  have h3 : q % 2 ^^^ c < 2 := by
    have := Nat.xor_lt_two_pow (x := q % 2) (y := c) (n := 1) (by omega) (by omega)
    omega
  omega

theorem poly_xor (q : Nat) (h : q < 2 ^ 32) : bits .xor .u32 ((q : Int) / 2) 3988292384 = ((q / 2 ^^^ poly : Nat) : Int) := by
  have h1 := xor32 (q / 2) poly (by omega) (by decide)
  have e : ((q / 2 : Nat) : Int) = (q : Int) / 2 := by omega
  rw [e] at h1
  exact h1

theorem st_one {q c : Nat} (h : (q + c) % 2 = 1) : st q c = q / 2 ^^^ poly := by unfold st pick; rw [if_pos h]

theorem st_none {q c : Nat} (h : ¬ (q + c) % 2 = 1) : st q c = q / 2 := by unfold st pick; rw [if_neg h, Nat.xor_zero]

set_option maxHeartbeats 1000000 in
theorem rmore_any (s n c M : Nat) (A : Option Addr) (l : List UInt8) (w : World) (hs : s < 2 ^ 32) (h : Bys w M A n l) (hn : n ≤ 1000000000000) :
    Calls Try.prog 86 #[.int .u32 (s : Int), .slice A n c] w fun e w' => e = .returned (.int .u32 (more s l : Int)) ∧ w = w' := by
  have n1 : (n : Int) ≤ 1000000000000 := by omega
  have s1 : (s : Int) ≤ 4294967295 := by omega
  have b0 := neg_bits s hs
  have HB := Lib.hid h
  have HL := Lib.hid h.len
  clear h
  go_enter Try.func86, Try.ntmps86
  go_wp2_with fail
  go_loop [5, 6] (fun s5 s6 => ∃ i : Nat, s6 = .int .i64 (i : Int) ∧ i ≤ n ∧ s5 = .int .u32 ((feed (neg s) (l.take i) : Nat) : Int)) (fun _ s6 => n - (intOf s6).toNat)
  case atStart => exact ⟨0, rfl, by omega, rfl⟩
  case round =>
    obtain ⟨i, rfl, hi, rfl⟩ := hrel
    have i0 : (0 : Int) ≤ (i : Int) := by omega
    have hr := feed_lt (l.take i) (neg_lt s)
    by_cases hlt : i < n
    · have i1 : (i : Int) < (n : Int) := by omega
      have i2 : decide (i < n) = true := by simp; omega
      obtain ⟨g, o, rfl, hg, hcell⟩ := HB.out.at (k := i) hlt
      have il : i < l.length := by have := HL.out; omega
      obtain ⟨b, hb⟩ : ∃ b, l[i]? = some b := ⟨_, List.getElem?_eq_getElem il⟩
      rw [By.at_some hb] at hcell
      have HT := Lib.hid (feed_take (neg s) hb)
      generalize feed (neg s) (l.take i) = R at *
      have hbb := b.toNat_lt
      generalize b.toNat = x at *
      clear hb il
      go_wp2_with fail
      go_loop [5, 7] (fun s5 s7 => ∃ k : Nat, s7 = .int .i64 (k : Int) ∧ k ≤ 8 ∧ s5 = .int .u32 ((bitsN R x k : Nat) : Int)) (fun _ s7 => 8 - (intOf s7).toNat)
      case atStart => exact ⟨0, rfl, by omega, rfl⟩
      case round =>
        obtain ⟨k, rfl, hk, rfl⟩ := hrel
        have k0 : (0 : Int) ≤ (k : Int) := by omega
        have hq := bitsN_lt (r := R) x hr k
        have HQ : Hid (bitsN R x (k + 1) = st (bitsN R x k) (x / 2 ^ k % 2)) := Lib.hid rfl
        generalize hQQ : bitsN R x k = Q at *
        have HQ0 := Lib.hid hQQ
        clear hQQ
        have q0 : (0 : Int) ≤ (Q : Int) := by omega
        have q1 : (Q : Int) ≤ 4294967295 := by omega
        have x0 : (0 : Int) ≤ (x : Int) := by omega
        have x1 : (x : Int) ≤ 255 := by omega
        have a1 := and1 Q hq
        have a2 := bit_and x k hbb
        have hc : x / 2 ^ k % 2 < 2 := Nat.mod_lt _ (by omega)
        by_cases hk8 : k < 8
        · have k1 : (k : Int) < 8 := by omega
          generalize x / 2 ^ k % 2 = c1 at *
          have a3 := low_xor Q c1 hc
          by_cases hl : (Q + c1) % 2 = 1
          · have HS := Lib.hid (st_one hl)
            have a4 := poly_xor Q hq
            rw [hl] at a3
            clear hl
            go_wp2
            go_round
            case rel => exact ⟨k + 1, by go_num, by omega, by rw [HQ.out, HS.out]⟩
            case measure => simp [intOf]; omega
          · have HS := Lib.hid (st_none hl)
            have h0 : (Q + c1) % 2 = 0 := by omega
            rw [h0] at a3
            clear hl h0
            go_wp2
            go_round
            case rel => exact ⟨k + 1, by go_num, by omega, by rw [HQ.out, HS.out]; rfl⟩
            case measure => simp [intOf]; omega
        · have k1 : ¬ (k : Int) < 8 := by omega
          obtain rfl : k = 8 := by omega
          clear a1 a2 hc
          go_wp2
          go_round
          case rel => exact ⟨i + 1, by go_num, by omega, by rw [HT.out, HQ0.out]⟩
          case measure => simp [intOf]; omega
    · obtain rfl : i = n := by omega
      have i1 : ¬ (i : Int) < (i : Int) := by omega
      have i2 : decide (i < i) = false := by simp
      have HE : Hid (l.take i = l) := Lib.hid (List.take_of_length_le (by have := HL.out; omega))
      have b1 := neg_bits _ hr
      go_wp2
      go_ret
      exact ⟨by rw [HE.out]; rfl, rfl⟩

theorem rsum_any (n c M : Nat) (A : Option Addr) (l : List UInt8) (w : World) (h : Bys w M A n l) (hn : n ≤ 1000000000000) :
    Calls Try.prog 81 #[.slice A n c] w fun e w' => e = .returned (.int .u32 (sum l : Int)) ∧ w = w' := by
  have H := Lib.hid (rmore_any 0 n c M A l w (by decide) h hn)
  clear h
  go_enter Try.func81, Try.ntmps81
  go_wp2_with fail
  refine H.out.mono ?_
  rintro e w' ⟨rfl, rfl⟩
  go_wp2
  go_ret
  exact ⟨rfl, rfl⟩

end Go.Proofs.Ytedgookkogpfbaa.Cr
end

section
namespace Go.Proofs.Ytedgookkogpfbaa.Cr
open Go.ChangeShapes Go.WideShapes Go.ChangeAt Go.RowKit
open By (Bys at_ at_in)
set_option linter.unusedVariables false

/-- What package crc answers. -/
def MoreSaid : Prop := ∀ (s n c M : Nat) (A : Option Addr) (l : List UInt8) (w : World), s < 2 ^ 32 → Bys w M A n l → n ≤ 1000000000000 →
    Calls Try.prog 92 #[.int .u32 (s : Int), .slice A n c] w fun e w' => e = .returned (.int .u32 (more s l : Int)) ∧ Below w.heap.size w w'

theorem xor_and (q y : Nat) (hq : q < 2 ^ 32) (hy : y < 2 ^ 32) : bits .and .u32 (bits .xor .u32 (q : Int) (y : Int)) 1 = (((q + y) % 2 : Nat) : Int) := by
  rw [xor32 q y hq hy, and1 _ (Nat.xor_lt_two_pow hq hy), xor_mod_two]

theorem low_and (q x k : Nat) (hq : q < 2 ^ 32) (hx : x < 256) : bits .and .u32 (bits .xor .u32 (q : Int) ((x : Int) / 2 ^ k % 4294967296)) 1 = (((q + x / 2 ^ k % 2) % 2 : Nat) : Int) := by
  have h1 : x / 2 ^ k < 256 := Nat.lt_of_le_of_lt (Nat.div_le_self _ _) hx
  have e2 : (x : Int) / 2 ^ k = ((x / 2 ^ k : Nat) : Int) := by simp
  rw [e2]
  generalize x / 2 ^ k = y at h1 ⊢
  have e : ((y : Nat) : Int) % 4294967296 = (y : Int) := by omega
  rw [e, xor_and q y hq (by omega)]
  omega

theorem none_xor (q : Nat) (h : q < 2 ^ 32) : bits .xor .u32 ((q : Int) / 2) 0 = ((q / 2 : Nat) : Int) := by
  have h1 := xor32 (q / 2) 0 (by omega) (by decide)
  rw [Nat.xor_zero] at h1
  have e : ((q / 2 : Nat) : Int) = (q : Int) / 2 := by omega
  rw [e] at h1
  rw [e]
  exact h1

set_option maxHeartbeats 1000000 in
theorem more_any0 (s n c M : Nat) (A : Option Addr) (l : List UInt8) (w : World) (hs : s < 2 ^ 32) (h : Bys w M A n l) (hn : n ≤ 1000000000000) :
    Calls Try.prog 92 #[.int .u32 (s : Int), .slice A n c] w fun e w' => e = .returned (.int .u32 (more s l : Int)) ∧ Below w.heap.size w w' := by
  have n1 : (n : Int) ≤ 1000000000000 := by omega
  have s1 : (s : Int) ≤ 4294967295 := by omega
  have b0 := neg_bits s hs
  have HB := Lib.hid h
  have HL := Lib.hid h.len
  clear h
  go_enter Try.func92, Try.ntmps92
  go_wp2_with fail
  go_loop [5, 14] (fun s5 s6 => ∃ i : Nat, s6 = .int .i64 (i : Int) ∧ i ≤ n ∧ s5 = .int .u32 ((feed (neg s) (l.take i) : Nat) : Int)) (fun _ s6 => n - (intOf s6).toNat)
  case atStart => exact ⟨0, rfl, by omega, rfl⟩
  case round =>
    obtain ⟨i, rfl, hi, rfl⟩ := hrel
    have i0 : (0 : Int) ≤ (i : Int) := by omega
    have hr := feed_lt (l.take i) (neg_lt s)
    by_cases hlt : i < n
    · have i1 : (i : Int) < (n : Int) := by omega
      have i2 : decide (i < n) = true := by simp; omega
      obtain ⟨g, o, rfl, hg, hcell⟩ := HB.out.at (k := i) hlt
      have il : i < l.length := by have := HL.out; omega
      obtain ⟨b, hb⟩ : ∃ b, l[i]? = some b := ⟨_, List.getElem?_eq_getElem il⟩
      rw [By.at_some hb] at hcell
      have HT := Lib.hid (feed_take (neg s) hb)
      generalize feed (neg s) (l.take i) = R at *
      have hbb := b.toNat_lt
      generalize b.toNat = x at *
      have x0 : (0 : Int) ≤ (x : Int) := by omega
      have x1 : (x : Int) ≤ 255 := by omega
      clear hb il
      go_wp2_with fail
      go_loop [5, 18] (fun s5 s7 => ∃ k : Nat, s7 = .int .i64 (k : Int) ∧ k ≤ 8 ∧ s5 = .int .u32 ((bitsN R x k : Nat) : Int)) (fun _ s7 => 8 - (intOf s7).toNat)
      case atStart => exact ⟨0, rfl, by omega, rfl⟩
      case round =>
        obtain ⟨k, rfl, hk, rfl⟩ := hrel
        have k0 : (0 : Int) ≤ (k : Int) := by omega
        have hq := bitsN_lt (r := R) x hr k
        have HQ : Hid (bitsN R x (k + 1) = st (bitsN R x k) (x / 2 ^ k % 2)) := Lib.hid rfl
        generalize hQQ : bitsN R x k = Q at *
        have HQ0 := Lib.hid hQQ
        clear hQQ
        have q0 : (0 : Int) ≤ (Q : Int) := by omega
        have q1 : (Q : Int) ≤ 4294967295 := by omega
        have a3 := low_and Q x k hq hbb
        by_cases hk8 : k < 8
        · have k1 : (k : Int) < 8 := by omega
          generalize x / 2 ^ k % 2 = c1 at *
          by_cases hl : (Q + c1) % 2 = 1
          · have HS := Lib.hid (st_one hl)
            have a4 := poly_xor Q hq
            rw [hl] at a3
            clear hl
            go_wp2
            go_round
            case rel => exact ⟨k + 1, by go_num, by omega, by rw [HQ.out, HS.out]⟩
            case measure => simp [intOf]; omega
          · have HS := Lib.hid (st_none hl)
            have h0 : (Q + c1) % 2 = 0 := by omega
            have a4 := none_xor Q hq
            rw [h0] at a3
            clear hl h0
            go_wp2
            go_round
            case rel => exact ⟨k + 1, by go_num, by omega, by rw [HQ.out, HS.out]; exact congrArg _ (Int.natCast_ediv Q 2).symm⟩
            case measure => simp [intOf]; omega
        · have k1 : ¬ (k : Int) < 8 := by omega
          obtain rfl : k = 8 := by omega
          clear a3
          go_wp2
          go_round
          case rel => exact ⟨i + 1, by go_num, by omega, by rw [HT.out, HQ0.out]⟩
          case measure => simp [intOf]; omega
    · obtain rfl : i = n := by omega
      have i1 : ¬ (i : Int) < (i : Int) := by omega
      have i2 : decide (i < i) = false := by simp
      have HE : Hid (l.take i = l) := Lib.hid (List.take_of_length_le (by have := HL.out; omega))
      have b1 := neg_bits _ hr
      go_wp2
      go_ret
      exact ⟨by rw [HE.out]; rfl, Below.refl _ _⟩

theorem more_any : MoreSaid := fun s n c M A l w hs h hn => more_any0 s n c M A l w hs h hn

theorem sum_any (n c M : Nat) (A : Option Addr) (l : List UInt8) (w : World) (h : Bys w M A n l) (hn : n ≤ 1000000000000) :
    Calls Try.prog 90 #[.slice A n c] w fun e w' => e = .returned (.int .u32 (sum l : Int)) ∧ Below w.heap.size w w' := by
  have H := Lib.hid (more_any 0 n c M A l w (by decide) h hn)
  clear h
  go_enter Try.func90, Try.ntmps90
  go_wp2_with fail
  refine H.out.mono ?_
  rintro e w' ⟨rfl, hb⟩
  go_wp2
  go_ret
  exact ⟨rfl, hb⟩

end Go.Proofs.Ytedgookkogpfbaa.Cr
end
