/- math/bits.Div64 and package money's Times, for every number that may be asked. · The reference's calls of layer 1, and package money's, by one plain function each. · An amount in parts: plain mathematics, nothing of the program. · Cuts: what the document says of units, places and promotions that take something off, in numbers and lists. · A list while it is made; what a call that makes a list tells; a list at hand in a later world. Of every seat. · The reference's Times and Rate, whole. · Cuts: the document's sum, half, nets, Reached, May. -/
import Derived.Laws.MakeOwn
import Derived.Laws.MathBits
import Derived.Test.YtljmddjlnlmenaaPk0
import Derived.Test.YtljmddjlnlmenaaPk1
import Derived.Test.YtljmddjlnlmenaaPk2
import Derived.Test.YtljmddjlnlmenaaPk3

section
set_option maxRecDepth 100000
set_option linter.unusedVariables false
namespace Go.Proofs.Ytljmddjlnlmenaa.Dv
open Go.ChangeShapes Go.WideShapes Go.ChangeAt Go.RowKit
theorem powAdd (a : Nat) : ∀ b : Nat, (2 : Int) ^ a * 2 ^ b = 2 ^ (a + b)
  | 0 => by simp
  | b + 1 => by rw [Int.pow_succ, ← Int.mul_assoc, powAdd a b, ← Int.pow_succ]; rfl
theorem powPos (a : Nat) : (0 : Int) < 2 ^ a := Int.pow_pos (by omega)
theorem powLe (a b : Nat) (h : a ≤ b) : (2 : Int) ^ a ≤ 2 ^ b := by
  obtain ⟨c, rfl⟩ := Nat.exists_eq_add_of_le h
  rw [← powAdd]
  have h1 := powPos a
  have h2 := powPos c
  have h3 : (2 : Int) ^ a * 1 ≤ 2 ^ a * 2 ^ c := Int.mul_le_mul_of_nonneg_left (by omega) (by omega)
  omega
theorem orAdd (a P Z : Int) (s : Nat) (hP : P = 2 ^ s) (a0 : 0 ≤ a) (x1 : a * P < 18446744073709551616) (z0 : 0 ≤ Z) (z1 : Z < P) (x2 : Z < 18446744073709551616) : bits .or .u64 (a * P) Z = a * P + Z := by
  obtain ⟨n, rfl⟩ := Int.eq_ofNat_of_zero_le a0
  obtain ⟨m, rfl⟩ := Int.eq_ofNat_of_zero_le z0
  have e : ((n : Int)) * P = ((n * 2 ^ s : Nat) : Int) := by rw [hP]; simp
  rw [e] at x1 ⊢
  have k : m < 2 ^ s := by rw [hP] at z1; exact_mod_cast z1
  rw [u64_or_nat _ _ (by omega) (by omega), Nat.mul_comm, ← Nat.two_pow_add_eq_or_of_lt k n]
  simp
theorem wrapAll (a k c r : Int) (h : a * 4294967296 + k - c = r) (r0 : 0 ≤ r) (r1 : r < 18446744073709551616) :
    IntKind.u64.wrap (IntKind.u64.wrap (IntKind.u64.wrap (a * 4294967296) + k) - IntKind.u64.wrap c) = r := by
  simp only [IntKind.wrap_u64]
  omega
theorem div64_full (hi lo d : Int) (a0 : 1 ≤ hi) (a1 : hi < d) (b0 : 0 ≤ lo) (b1 : lo ≤ 18446744073709551615) (d1 : d ≤ 100000000000000) :
    Mn.DivGives hi lo d ((hi * 18446744073709551616 + lo) / d) ((hi * 18446744073709551616 + lo) % d) := by
  intro w
  obtain ⟨k1, k2, k3, k4⟩ := bits_of d (by omega) (by omega)
  obtain ⟨n, hn⟩ : ∃ n, n = Lib.bitLen d.toNat := ⟨_, rfl⟩
  rw [← hn] at k1 k2 k3 k4
  have n47 : n ≤ 47 := by
    by_cases h : n ≤ 47
    · exact h
    · have := powLe 47 (n - 1) (by omega)
      have e : (2 : Int) ^ 47 = 140737488355328 := by decide
      omega
  obtain ⟨s, hs⟩ : ∃ s, s = 64 - n := ⟨_, rfl⟩
  have en : n = 64 - s := by omega
  have pr : (2 : Int) ^ s * 2 ^ (64 - s) = 18446744073709551616 := by
    rw [powAdd, show s + (64 - s) = 64 by omega]
    decide
  have rr : (2 : Int) ^ (64 - s) ≤ 2 * d := by
    have : (2 : Int) ^ n = 2 ^ (n - 1) * 2 := by rw [← Int.pow_succ, show (n - 1).succ = n by omega]
    rw [← en]
    omega
  rw [en] at k2
  obtain ⟨c1, c2, c3, c4, c5, c6, c7, c8, c9, c10, c11⟩ := prep hi lo d (2 ^ s) (2 ^ (64 - s)) (powPos s) (powPos _) pr a0 a1 b0 b1 k2 rr
  have HL := Lib.hid (fun w => lz_any d w (by omega) (by omega) (by omega))
  have eL : (64 : Int) - (Lib.bitLen d.toNat : Int) = (s : Int) := by rw [← hn]; omega
  rw [eL] at HL
  have pz : (lo : Int) / 2 ^ (64 - s) < 18446744073709551616 := by
    have := Int.ediv_le_self (2 ^ (64 - s)) b0
    omega
  have hU := orAdd hi (2 ^ s) (lo / 2 ^ (64 - s)) s rfl (by omega) c4 c5 c6 pz
  have eV : IntKind.u64.wrap (lo * 2 ^ s) = lo % 2 ^ (64 - s) * 2 ^ s := by rw [IntKind.wrap_u64]; exact c10
  have eY : IntKind.u64.wrap (d * 2 ^ s) = d * 2 ^ s := by rw [IntKind.wrap_u64]; omega
  have eX : IntKind.u64.wrap (hi * 2 ^ s) = hi * 2 ^ s := by rw [IntKind.wrap_u64]; omega
  have hsc := scaled (hi * 18446744073709551616 + lo) d (2 ^ s) (powPos s) (by omega)
  rw [c11] at hsc
  have pp := powPos s
  have core := div64_core hi lo d w a0 a1 b0 b1 (by omega) d1 s (by omega) (by omega) HL
  obtain ⟨Y, hY⟩ : ∃ Y, Y = d * 2 ^ s := ⟨_, rfl⟩
  obtain ⟨V, hV⟩ : ∃ V, V = lo % 2 ^ (64 - s) * 2 ^ s := ⟨_, rfl⟩
  obtain ⟨U, hUU⟩ : ∃ U, U = hi * 2 ^ s + lo / 2 ^ (64 - s) := ⟨_, rfl⟩
  rw [← hY] at c1 c2 c7 eY hsc
  rw [← hV] at c8 c9 eV hsc
  rw [← hUU] at c7 hU hsc
  have u0 : 0 ≤ U := by omega
  have D1 := Digit.mk' U (V / 4294967296) Y c1 c2 u0 c7 (by omega) (by omega)
  have lo1 := D1.lo
  have hi1 := D1.hi
  obtain ⟨Q1, hQ1⟩ : ∃ Q, Q = (U * 4294967296 + V / 4294967296) / Y := ⟨_, rfl⟩
  rw [← hQ1] at D1 lo1 hi1
  have n1 : (Q1 + 1) * Y = Q1 * Y + Y := by rw [Int.add_mul, Int.one_mul]
  obtain ⟨R1, hR1⟩ : ∃ R, R = U * 4294967296 + V / 4294967296 - Q1 * Y := ⟨_, rfl⟩
  have D0 := Digit.mk' R1 (V % 4294967296) Y c1 c2 (by omega) (by omega) (by omega) (by omega)
  have lo0 := D0.lo
  have hi0 := D0.hi
  obtain ⟨Q0, hQ0⟩ : ∃ Q, Q = (R1 * 4294967296 + V % 4294967296) / Y := ⟨_, rfl⟩
  rw [← hQ0] at D0 lo0 hi0
  have n0 : (Q0 + 1) * Y = Q0 * Y + Y := by rw [Int.add_mul, Int.one_mul]
  obtain ⟨T, hT⟩ : ∃ T, T = R1 * 4294967296 + V % 4294967296 - Q0 * Y := ⟨_, rfl⟩
  have two := twoDigits U (V / 4294967296) (V % 4294967296) Y Q1 R1 Q0 (by omega) hR1 lo0 hi0
  have eN : U * 18446744073709551616 + V / 4294967296 * 4294967296 + V % 4294967296 = U * 18446744073709551616 + V := by omega
  rw [eN, hsc.1, hsc.2, ← hT] at two
  have fin := core Y (hi * 2 ^ s) (lo / 2 ^ (64 - s)) U V (Y / 4294967296) (Y % 4294967296) (V / 4294967296) (V % 4294967296) Q1 R1 Q0 T (by rw [← hY]; exact eY) eX rfl hU eV (and_low32 Y (by omega) (by omega)) rfl rfl (and_low32 V (by omega) (by omega)) D1 D0
    (wrapAll U (V / 4294967296) (Q1 * Y) R1 hR1.symm (by omega) (by omega)) (wrapAll R1 (V % 4294967296) (Q0 * Y) T hT.symm (by omega) (by omega))
  rw [← two.1, ← two.2, Int.mul_ediv_cancel _ (by omega)] at fin
  exact fin
theorem need_all (x y d : Int) (h0 : 0 ≤ x) (h1 : x ≤ 100000000000000) (g0 : 0 ≤ y) (g1 : y ≤ 100000000000000) (d0 : 1 ≤ d) (d1 : d ≤ 100000000000000) : Mn.DivNeed x y d := by
  have k0 : 0 ≤ x * y := Int.mul_nonneg h0 g0
  by_cases h : x * y < 18446744073709551616
  · exact Mn.need_small x y d k0 h d0 d1
  · intro hh
    have e : x * y / 18446744073709551616 * 18446744073709551616 + x * y % 18446744073709551616 = x * y := by omega
    have f := div64_full (x * y / 18446744073709551616) (x * y % 18446744073709551616) d (by omega) hh (by omega) (by omega) d1
    rw [e] at f
    exact f
end Go.Proofs.Ytljmddjlnlmenaa.Dv

end

section
set_option maxRecDepth 100000
set_option linter.unusedVariables false
namespace Go.Proofs.Ytljmddjlnlmenaa.Rf
open Go.ChangeShapes Go.WideShapes Go.ChangeAt Go.RowKit
abbrev Ok (x : Int) : Prop := 0 ≤ x ∧ x ≤ 100000000000000
def timesR (way x y d : Int) : Int × Int := if Ok x ∧ Ok y ∧ 1 ≤ d ∧ d ≤ 100000000000000 ∧ 0 ≤ way ∧ way ≤ 2 then (Mn.timesV way x y d, Mn.timesE way x y d) else (0, 2)
def rateR (way x rate : Int) : Int × Int := if 0 ≤ rate ∧ rate ≤ 10000 then timesR way x rate 10000 else (0, 2)
def pairOf (p : Int × Int) : Ending := .returned (.tuple #[.int .i64 p.1, .int .i64 p.2])
theorem m_times (way x y d : Int) (w : World) : Calls Try.prog 52 #[.int .i64 x, .int .i64 y, .int .i64 d, .int .i64 way] w fun e w' => e = pairOf (timesR way x y d) ∧ Below w.heap.size w w' := by
  unfold timesR pairOf Ok
  by_cases h : (0 ≤ x ∧ x ≤ 100000000000000) ∧ (0 ≤ y ∧ y ≤ 100000000000000) ∧ 1 ≤ d ∧ d ≤ 100000000000000 ∧ 0 ≤ way ∧ way ≤ 2
  · rw [if_pos h]
    obtain ⟨⟨h0, h1⟩, ⟨g0, g1⟩, d0, d1, w0, w1⟩ := h
    exact Mn.times_any way x y d w h0 h1 g0 g1 d0 d1 w0 w1 (Dv.need_all x y d h0 h1 g0 g1 d0 d1)
  · rw [if_neg h]; exact Mn.times_bad way x y d w (by omega)
theorem m_rate (way x rate : Int) (w : World) : Calls Try.prog 34 #[.int .i64 x, .int .i64 rate, .int .i64 way] w fun e w' => e = pairOf (rateR way x rate) ∧ Below w.heap.size w w' := by
  unfold rateR
  by_cases h : 0 ≤ rate ∧ rate ≤ 10000
  · rw [if_pos h]
    exact Mn.rate_any x rate way _ _ w h.1 h.2 (Lib.hid fun w => m_times way x rate 10000 w)
  · rw [if_neg h]; exact Mn.rate_bad x rate way w (by omega)
end Go.Proofs.Ytljmddjlnlmenaa.Rf

end

section
set_option maxRecDepth 100000
set_option linter.unusedVariables false
namespace Go.Proofs.Ytljmddjlnlmenaa.Sh
open Qu (Pt ord aheadB)
/-! ### Sums -/
def sumF (f : Nat → Int) : Nat → Int
  | 0 => 0
  | k + 1 => sumF f k + f k
theorem sumF_congr {f g : Nat → Int} : ∀ n, (∀ k, k < n → f k = g k) → sumF f n = sumF g n
  | 0, _ => rfl
  | n + 1, h => by rw [sumF, sumF, sumF_congr n (fun k hk => h k (by omega)), h n (by omega)]
theorem sumF_nonneg {f : Nat → Int} : ∀ n, (∀ k, k < n → 0 ≤ f k) → 0 ≤ sumF f n
  | 0, _ => Int.le_refl _
  | n + 1, h => by have := sumF_nonneg n (fun k hk => h k (by omega)); have := h n (by omega); rw [sumF]; omega
theorem sumF_le {f : Nat → Int} (n m : Nat) (h : n ≤ m) (h0 : ∀ k, k < m → 0 ≤ f k) : sumF f n ≤ sumF f m := by
  induction m with
  | zero => obtain rfl : n = 0 := by omega
            exact Int.le_refl _
  | succ m ih =>
    by_cases e : n = m + 1
    · subst e; exact Int.le_refl _
    · have := ih (by omega) (fun k hk => h0 k (by omega))
      have := h0 m (by omega)
      rw [sumF]; omega
theorem sumF_elem {f : Nat → Int} (n k : Nat) (hk : k < n) (h0 : ∀ k, k < n → 0 ≤ f k) : f k ≤ sumF f n := by
  have h1 := sumF_le (f := f) (k + 1) n (by omega) h0
  have h2 := sumF_nonneg (f := f) k (fun j hj => h0 j (by omega))
  rw [sumF] at h1
  omega
theorem sumF_add (f g : Nat → Int) : ∀ n, sumF (fun k => f k + g k) n = sumF f n + sumF g n
  | 0 => rfl
  | n + 1 => by rw [sumF, sumF, sumF, sumF_add f g n]; omega
theorem sumF_mul (c : Int) (f : Nat → Int) : ∀ n, sumF (fun k => c * f k) n = c * sumF f n
  | 0 => by simp [sumF]
  | n + 1 => by rw [sumF, sumF, sumF_mul c f n, Int.mul_add]
theorem sumF_const (c : Int) : ∀ n : Nat, sumF (fun _ => c) n = n * c
  | 0 => by simp [sumF]
  | n + 1 => by rw [sumF, sumF_const c n, show ((n + 1 : Nat) : Int) = (n : Int) + 1 by omega, Int.add_mul, Int.one_mul]
theorem sumF_mono {f g : Nat → Int} : ∀ n, (∀ k, k < n → f k ≤ g k) → sumF f n ≤ sumF g n
  | 0, _ => Int.le_refl _
  | n + 1, h => by have := sumF_mono n (fun k hk => h k (by omega)); have := h n (by omega); rw [sumF, sumF]; omega
/-! ### Whole parts and remainders -/
def base (t S : Int) (f : Nat → Int) (k : Nat) : Int := t * f k / S
def rest (t S : Int) (f : Nat → Int) (k : Nat) : Int := t * f k % S
def left (t S : Int) (f : Nat → Int) (n : Nat) : Int := t - sumF (base t S f) n
section
variable {t S : Int} {f : Nat → Int}
theorem rest_in (hS : 1 ≤ S) (k : Nat) : 0 ≤ rest t S f k ∧ rest t S f k < S := ⟨Int.emod_nonneg _ (by omega), Int.emod_lt_of_pos _ (by omega)⟩
theorem base_nonneg (hS : 1 ≤ S) (ht : 0 ≤ t) (k : Nat) (hf : 0 ≤ f k) : 0 ≤ base t S f k := Int.ediv_nonneg (Int.mul_nonneg ht hf) (by omega)
theorem base_le (hS : 1 ≤ S) (ht : 0 ≤ t) (k : Nat) (hf : f k ≤ S) : base t S f k ≤ t := by
  have h : t * f k ≤ t * S := Int.mul_le_mul_of_nonneg_left hf ht
  have h2 := Int.ediv_le_ediv (c := S) (by omega) h
  rwa [Int.mul_ediv_cancel _ (by omega)] at h2
theorem rests (n : Nat) (hs : S = sumF f n) : sumF (rest t S f) n = S * left t S f n := by
  have h1 : sumF (fun k => S * base t S f k + rest t S f k) n = t * sumF f n := by
    rw [← sumF_mul]
    exact sumF_congr n fun k _ => Int.mul_ediv_add_emod _ _
  rw [sumF_add, sumF_mul, ← hs] at h1
  unfold left
  rw [Int.mul_sub]
  have : S * t = t * S := Int.mul_comm _ _
  omega
theorem left_nonneg (n : Nat) (hS : 1 ≤ S) (hs : S = sumF f n) : 0 ≤ left t S f n := by
  have h1 := rests (t := t) n hs
  have h2 := sumF_nonneg (f := rest t S f) n (fun k _ => (rest_in hS k).1)
  by_cases h : 0 ≤ left t S f n
  · exact h
  · have : S * left t S f n < 0 := Int.mul_neg_of_pos_of_neg (by omega) (by omega)
    omega
theorem left_lt (n : Nat) (hS : 1 ≤ S) (hs : S = sumF f n) : left t S f n < n := by
  have h1 := rests (t := t) n hs
  have hn : 0 < n := by
    rcases Nat.eq_zero_or_pos n with rfl | h
    · rw [hs] at hS; simp [sumF] at hS
    · exact h
  have h2 : sumF (rest t S f) n ≤ sumF (fun _ => S - 1) n := sumF_mono n fun k _ => by have := (rest_in (t := t) (f := f) hS k).2; omega
  rw [sumF_const] at h2
  by_cases h : left t S f n < n
  · exact h
  · have h3 : S * (n : Int) ≤ S * left t S f n := Int.mul_le_mul_of_nonneg_left (by omega) (by omega)
    have h4 : (n : Int) * (S - 1) = S * n - n := by rw [Int.mul_sub, Int.mul_comm, Int.mul_one]
    omega
theorem left_le (n : Nat) (hS : 1 ≤ S) (ht : 0 ≤ t) (k : Nat) (hk : k ≤ n) (hf : ∀ k, k < n → 0 ≤ f k) : left t S f k ≤ t := by
  have := sumF_nonneg (f := base t S f) k (fun j hj => base_nonneg hS ht j (hf j (by omega)))
  unfold left; omega
theorem left_mid (n : Nat) (hS : 1 ≤ S) (hs : S = sumF f n) (ht : 0 ≤ t) (k : Nat) (hk : k ≤ n) (hf : ∀ k, k < n → 0 ≤ f k) : 0 ≤ left t S f k := by
  have h1 := left_nonneg (t := t) n hS hs
  have h2 := sumF_le (f := base t S f) k n hk (fun j hj => base_nonneg hS ht j (hf j hj))
  unfold left at *; omega
theorem left_step (k : Nat) : left t S f (k + 1) = left t S f k - base t S f k := by unfold left; rw [sumF]; omega
end
/-! ### One more for some -/
def nth (l : List Int) (k : Nat) : Int := l.getD k 0
def sumL : List Int → Int
  | [] => 0
  | x :: l => x + sumL l
def one (l : List Int) (p : Pt) : List Int := l.set p.2.toNat (nth l p.2.toNat + 1)
def bump (l : List Int) (ps : List Pt) : List Int := ps.foldl one l
theorem bump_nil (l : List Int) : bump l [] = l := rfl
theorem bump_cons (l : List Int) (p : Pt) (ps : List Pt) : bump l (p :: ps) = bump (one l p) ps := rfl
theorem bump_snoc (l : List Int) (ps : List Pt) (p : Pt) : bump l (ps ++ [p]) = one (bump l ps) p := by simp [bump]
theorem one_length (l : List Int) (p : Pt) : (one l p).length = l.length := by simp [one]
theorem bump_length (l : List Int) : ∀ ps, (bump l ps).length = l.length := by
  intro ps
  induction ps generalizing l with
  | nil => rfl
  | cons p ps ih => rw [bump_cons, ih, one_length]
theorem nth_one (l : List Int) (p : Pt) (i : Nat) (hi : i < l.length) : nth (one l p) i = nth l i + if p.2.toNat = i then 1 else 0 := by
  unfold nth one
  by_cases h : p.2.toNat = i
  · subst h
    rw [if_pos rfl]
    simp [nth, List.getD, hi]
  · rw [if_neg h]
    simp [nth, List.getD, h]
def places (ps : List Pt) : List Nat := ps.map fun p => p.2.toNat
theorem nth_bump (i : Nat) : ∀ (ps : List Pt) (l : List Int), i < l.length → nth (bump l ps) i = nth l i + (places ps).count i
  | [], l, _ => by simp [bump_nil, places]
  | p :: ps, l, hi => by
    rw [bump_cons, nth_bump i ps (one l p) (by rw [one_length]; exact hi), nth_one l p i hi]
    unfold places
    rw [List.map_cons, List.count_cons]
    by_cases h : p.2.toNat = i
    · subst h
      simp
      omega
    · simp [h]
theorem sumL_set : ∀ (l : List Int) (k : Nat) (x : Int), k < l.length → sumL (l.set k x) = sumL l - nth l k + x
  | [], k, x, h => by simp at h
  | y :: l, 0, x, _ => by simp [sumL, nth]; omega
  | y :: l, k + 1, x, h => by
    have := sumL_set l k x (by simpa using h)
    rw [List.set_cons_succ, sumL, sumL, this]
    unfold nth
    rw [List.getD_cons_succ]
    omega
theorem sumL_bump : ∀ (ps : List Pt) (l : List Int), (∀ p ∈ ps, p.2.toNat < l.length) → sumL (bump l ps) = sumL l + ps.length
  | [], l, _ => by simp [bump_nil]
  | p :: ps, l, h => by
    rw [bump_cons, sumL_bump ps (one l p) (fun q hq => by rw [one_length]; exact h q (List.mem_cons_of_mem _ hq))]
    unfold one
    rw [sumL_set _ _ _ (h p List.mem_cons_self), List.length_cons]
    omega
def baseL (t S : Int) (f : Nat → Int) (n : Nat) : List Int := (List.range n).map (base t S f)
theorem baseL_length (t S : Int) (f : Nat → Int) (n : Nat) : (baseL t S f n).length = n := by simp [baseL]
theorem nth_baseL (t S : Int) (f : Nat → Int) (n k : Nat) (hk : k < n) : nth (baseL t S f n) k = base t S f k := by
  unfold nth baseL
  simp [List.getD, hk]
theorem sumL_append : ∀ (l m : List Int), sumL (l ++ m) = sumL l + sumL m
  | [], m => by simp [sumL]
  | x :: l, m => by rw [List.cons_append, sumL, sumL, sumL_append l m]; omega
theorem sumL_range (f : Nat → Int) : ∀ n, sumL ((List.range n).map f) = sumF f n
  | 0 => rfl
  | n + 1 => by rw [List.range_succ, List.map_append, sumL_append, sumL_range f n]; simp [sumL, sumF]
def chosen (t S : Int) (f : Nat → Int) (n : Nat) : List Pt := (ord (rest t S f) n).take (left t S f n).toNat
def parts (t S : Int) (f : Nat → Int) (n : Nat) : List Int := bump (baseL t S f n) (chosen t S f n)
theorem ord_place {g : Nat → Int} {n : Nat} {p : Pt} (h : p ∈ ord g n) : p.2.toNat < n ∧ p = (g p.2.toNat, (p.2.toNat : Int)) := by
  obtain ⟨i, hi, rfl⟩ := Qu.ord_mem g n p h
  simp [hi]
section
variable {t S : Int} {f : Nat → Int} {n : Nat}
theorem parts_length : (parts t S f n).length = n := by rw [parts, bump_length, baseL_length]
theorem chosen_sub {p : Pt} (h : p ∈ chosen t S f n) : p ∈ ord (rest t S f) n := List.mem_of_mem_take h
theorem chosen_length (hS : 1 ≤ S) (hs : S = sumF f n) : (chosen t S f n).length = (left t S f n).toNat := by
  have := left_lt (t := t) n hS hs
  have := left_nonneg (t := t) n hS hs
  unfold chosen
  rw [List.length_take, Qu.ord_length]
  omega
theorem parts_sum (hS : 1 ≤ S) (hs : S = sumF f n) : sumL (parts t S f n) = t := by
  unfold parts
  rw [sumL_bump _ _ (fun p hp => by rw [baseL_length]; exact (ord_place (chosen_sub hp)).1), chosen_length hS hs, baseL, sumL_range]
  have := left_nonneg (t := t) n hS hs
  unfold left at *
  omega
theorem places_ord (g : Nat → Int) : (places (ord g n)).Perm (List.range n) := by
  have h := (Qu.ord_perm g n).map fun p : Pt => p.2.toNat
  have e : ((List.range n).map fun i => (g i, (i : Int))).map (fun p : Pt => p.2.toNat) = List.range n := by
    rw [List.map_map]
    conv => rhs; rw [← List.map_id (List.range n)]
    apply List.map_congr_left
    intro i hi
    simp
  rw [e] at h
  exact h
theorem count_le (i : Nat) : (places (chosen t S f n)).count i ≤ 1 := by
  have h1 : (places (chosen t S f n)).Sublist (places (ord (rest t S f) n)) := (List.take_sublist _ _).map _
  have h2 := h1.count_le i
  have h3 : (places (ord (rest t S f) n)).Nodup := (places_ord _).nodup_iff.2 List.nodup_range
  have h4 := List.nodup_iff_count.1 h3 i
  omega
theorem count_pos {i : Nat} (h : 0 < (places (chosen t S f n)).count i) : (rest t S f i, (i : Int)) ∈ chosen t S f n := by
  have h1 := List.count_pos_iff.1 h
  obtain ⟨p, hp, hi⟩ := List.mem_map.1 h1
  have h2 := (ord_place (chosen_sub hp)).2
  rw [hi] at h2
  rw [← h2]
  exact hp
theorem nth_parts {i : Nat} (hi : i < n) : nth (parts t S f n) i = base t S f i + (places (chosen t S f n)).count i := by
  unfold parts
  rw [nth_bump i _ _ (by rw [baseL_length]; exact hi), nth_baseL _ _ _ _ _ hi]
def fst (l : List Pt) : List Int := l.map (·.1)
theorem sumL_perm {l m : List Int} (h : l.Perm m) : sumL l = sumL m := by
  induction h with
  | nil => rfl
  | cons x _ ih => rw [sumL, sumL, ih]
  | swap x y l => simp only [sumL]; omega
  | trans _ _ h1 h2 => rw [h1, h2]
theorem fst_ord (g : Nat → Int) : sumL (fst (ord g n)) = sumF g n := by
  have h := (Qu.ord_perm g n).map fun p : Pt => p.1
  rw [fst, sumL_perm h, List.map_map, ← sumL_range]
  rfl
theorem sumL_le (S : Int) : ∀ l : List Int, (∀ x ∈ l, x ≤ S) → sumL l ≤ l.length * S
  | [], _ => by simp [sumL]
  | x :: l, h => by
    have h1 := sumL_le S l (fun y hy => h y (List.mem_cons_of_mem _ hy))
    have h2 := h x List.mem_cons_self
    rw [sumL, List.length_cons, show ((l.length + 1 : Nat) : Int) = (l.length : Int) + 1 by omega, Int.add_mul, Int.one_mul]
    omega
theorem chosen_pos (hS : 1 ≤ S) (hs : S = sumF f n) (p : Pt) (hp : p ∈ chosen t S f n) : 0 < p.1 := by
  by_cases h : 0 < p.1
  · exact h
  exfalso
  have hin : ∀ q ∈ ord (rest t S f) n, 0 ≤ q.1 ∧ q.1 ≤ S := fun q hq => by
    obtain ⟨i, _, rfl⟩ := Qu.ord_mem _ _ _ hq
    have := rest_in (t := t) (f := f) hS i
    simp only
    omega
  have h0 : p.1 = 0 := by have := (hin p (chosen_sub hp)).1; omega
  have hst := Qu.ord_strict (rest t S f) n
  have hsum := fst_ord (n := n) (rest t S f)
  rw [rests n hs] at hsum
  obtain ⟨s, u, hsu⟩ := List.append_of_mem hp
  have hlen := chosen_length (t := t) hS hs
  have hnn := left_nonneg (t := t) n hS hs
  have hall : ord (rest t S f) n = s ++ p :: (u ++ (ord (rest t S f) n).drop (left t S f n).toNat) := by
    conv => lhs; rw [← List.take_append_drop (left t S f n).toNat (ord (rest t S f) n)]
    show chosen t S f n ++ _ = _
    rw [hsu]; simp
  generalize hv : u ++ (ord (rest t S f) n).drop (left t S f n).toNat = v at hall
  rw [hall, List.pairwise_append, List.pairwise_cons] at hst
  have hv0 : ∀ q ∈ v, q.1 = 0 := fun q hq => by
    have h1 := (Qu.ahead_iff _ _).1 (hst.2.1.1 q hq)
    have h2 := (hin q (by rw [hall]; exact List.mem_append_right _ (List.mem_cons_of_mem _ hq))).1
    omega
  have e1 : fst (ord (rest t S f) n) = fst s ++ p.1 :: fst v := by rw [hall]; simp [fst]
  rw [e1, sumL_append, sumL, h0] at hsum
  have e2 : sumL (fst v) ≤ (fst v).length * 0 := sumL_le 0 _ (fun x hx => by
    obtain ⟨q, hq, rfl⟩ := List.mem_map.1 hx
    exact Int.le_of_eq (hv0 q hq))
  have e3 := sumL_le S (fst s) (fun x hx => by
    obtain ⟨q, hq, rfl⟩ := List.mem_map.1 hx
    exact (hin q (by rw [hall]; exact List.mem_append_left _ hq)).2)
  have e4 : (fst s).length = s.length := by simp [fst]
  rw [hsu] at hlen
  simp at hlen
  have e5 : (s.length : Int) ≤ left t S f n - 1 := by omega
  have e6 : (s.length : Int) * S ≤ (left t S f n - 1) * S := Int.mul_le_mul_of_nonneg_right e5 (by omega)
  rw [Int.sub_mul, Int.one_mul, Int.mul_comm (left t S f n)] at e6
  rw [e4] at e3
  omega
theorem each (hS : 1 ≤ S) (hs : S = sumF f n) {i : Nat} (hi : i < n) : nth (parts t S f n) i = base t S f i ∨ (nth (parts t S f n) i = base t S f i + 1 ∧ rest t S f i ≠ 0) := by
  rw [nth_parts hi]
  have h1 := count_le (t := t) (S := S) (f := f) (n := n) i
  rcases Nat.eq_zero_or_pos ((places (chosen t S f n)).count i) with h | h
  · left; omega
  · right
    have := chosen_pos hS hs _ (count_pos h)
    simp only at this
    omega
end
/-! ### All weights so many times as great -/
/-! ### What Largest answers -/
def okB (x : Int) : Bool := decide (0 ≤ x) && decide (x ≤ 100000000000000)
theorem okB_iff (x : Int) : okB x = true ↔ 0 ≤ x ∧ x ≤ 100000000000000 := by unfold okB; rw [Bool.and_eq_true, decide_eq_true_eq, decide_eq_true_eq]
def allOk (f : Nat → Int) (n : Nat) : Bool := (List.range n).all fun k => okB (f k)
theorem allOk_iff (f : Nat → Int) (n : Nat) : allOk f n = true ↔ ∀ k, k < n → 0 ≤ f k ∧ f k ≤ 100000000000000 := by
  unfold allOk
  rw [List.all_eq_true]
  exact ⟨fun h k hk => (okB_iff _).1 (h k (List.mem_range.2 hk)), fun h k hk => (okB_iff _).2 (h k (List.mem_range.1 hk))⟩
def largR (t : Int) (f : Nat → Int) (n : Nat) : List Int × Int :=
  if okB t && decide (n ≤ 100000) && allOk f n then
    if 100000000000000 < sumF f n then ([], 5)
    else if sumF f n = 0 then if 0 < t then ([], 7) else (List.replicate n 0, 0)
    else (parts t (sumF f n) f n, 0)
  else ([], 2)
section
variable {t : Int} {f : Nat → Int} {n : Nat} (ht : 0 ≤ t ∧ t ≤ 100000000000000) (hn : n ≤ 100000) (hf : ∀ k, k < n → 0 ≤ f k ∧ f k ≤ 100000000000000)
include ht hn hf
theorem larg_in : largR t f n = if 100000000000000 < sumF f n then ([], 5) else if sumF f n = 0 then if 0 < t then ([], 7) else (List.replicate n 0, 0) else (parts t (sumF f n) f n, 0) := by
  unfold largR
  rw [if_pos]
  rw [Bool.and_eq_true, Bool.and_eq_true, okB_iff, decide_eq_true_eq, allOk_iff]
  exact ⟨⟨ht, hn⟩, hf⟩
theorem larg_none (h : sumF f n = 0) (h2 : 0 < t) : largR t f n = ([], 7) := by rw [larg_in ht hn hf, if_neg (by omega), if_pos h, if_pos h2]
theorem larg_zero (h : sumF f n = 0) (h2 : ¬ 0 < t) : largR t f n = (List.replicate n 0, 0) := by rw [larg_in ht hn hf, if_neg (by omega), if_pos h, if_neg h2]
theorem larg_parts (h : sumF f n ≠ 0) (h2 : sumF f n ≤ 100000000000000) : largR t f n = (parts t (sumF f n) f n, 0) := by rw [larg_in ht hn hf, if_neg (by omega), if_neg h]
end
end Go.Proofs.Ytljmddjlnlmenaa.Sh

end

section
set_option maxRecDepth 100000
set_option linter.unusedVariables false
namespace Go.Proofs.Ytljmddjlnlmenaa.Ct
open Ap (Unt Tir Prm)
def nsum : List Unt → Int
  | [] => 0
  | u :: l => u.net + nsum l
theorem nsum_append (a b : List Unt) : nsum (a ++ b) = nsum a + nsum b := by
  induction a with
  | nil => simp [nsum]
  | cons x a ih => simp only [List.cons_append, nsum, ih]; omega
theorem take_next {α : Type} {xs : List α} {k : Nat} {x : α} (h : xs[k]? = some x) : xs.take (k + 1) = xs.take k ++ [x] := by
  rw [List.take_add_one, h]; rfl
theorem nsum_next {us : List Unt} {k : Nat} {u : Unt} (h : us[k]? = some u) : nsum (us.take (k + 1)) = nsum (us.take k) + u.net := by
  rw [take_next h, nsum_append]; simp [nsum]
def Nets (us : List Unt) : Prop := ∀ (k : Nat) (u : Unt), us[k]? = some u → 0 ≤ u.net
theorem Nets.sum : ∀ {us : List Unt}, Nets us → 0 ≤ nsum us
  | [], _ => by simp [nsum]
  | u :: us, h => by
    have h1 := h 0 u rfl
    have h2 : 0 ≤ nsum us := Nets.sum fun k v hv => h (k + 1) v hv
    simp only [nsum]; omega
theorem Nets.part {us : List Unt} (h : Nets us) (k : Nat) : 0 ≤ nsum (us.take k) ∧ nsum (us.take k) ≤ nsum us := by
  have h1 : 0 ≤ nsum (us.take k) := Nets.sum fun i u hu => by
    rw [List.getElem?_take] at hu
    split at hu
    · exact h i u hu
    · cases hu
  have h2 : 0 ≤ nsum (us.drop k) := Nets.sum fun i u hu => by
    rw [List.getElem?_drop] at hu
    exact h _ u hu
  have e := nsum_append (us.take k) (us.drop k)
  rw [List.take_append_drop] at e
  omega
theorem Nets.one {us : List Unt} (h : Nets us) {k : Nat} {u : Unt} (hu : us[k]? = some u) : u.net ≤ nsum us := by
  have h1 := nsum_next hu
  have h2 := h.part k
  have h3 := h.part (k + 1)
  omega
structure UnitsMay (us : List Unt) : Prop where
  few : us.length ≤ 100000
  nets : Nets us
  total : nsum us ≤ 10000000000000
structure PlacesMay (us : List Unt) (ms : List Int) : Prop where
  at_ : ∀ (i : Nat) (m : Int), ms[i]? = some m → 0 ≤ m ∧ ∃ u, us[m.toNat]? = some u ∧ u.opn = true
  rise : ∀ (i : Nat) (a b : Int), ms[i]? = some a → ms[i + 1]? = some b → a < b
structure May (us : List Unt) (ms : List Int) : Prop where
  units : UnitsMay us
  places : PlacesMay us ms
noncomputable def mayB (us : List Unt) (ms : List Int) : Bool := @decide (May us ms) (Classical.propDecidable _)
theorem mayB_yes {us : List Unt} {ms : List Int} (h : May us ms) : mayB us ms = true := by unfold mayB; exact @decide_eq_true _ (Classical.propDecidable _) h
theorem mayB_no {us : List Unt} {ms : List Int} (h : ¬ May us ms) : mayB us ms = false := by unfold mayB; exact @decide_eq_false _ (Classical.propDecidable _) h
theorem mayB_iff {us : List Unt} {ms : List Int} : mayB us ms = true ↔ May us ms := by
  constructor
  · intro h
    rcases Classical.em (May us ms) with h1 | h1
    · exact h1
    · rw [mayB_no h1] at h; cases h
  · exact mayB_yes
theorem PlacesMay.lt {us : List Unt} {ms : List Int} (h : PlacesMay us ms) : ∀ (d i : Nat) (a b : Int), ms[i]? = some a → ms[i + d + 1]? = some b → a < b := by
  intro d
  induction d with
  | zero => intro i a b ha hb; exact h.rise i a b ha hb
  | succ d ih =>
    intro i a b ha hb
    have hl : i + d + 1 < ms.length := by have := (List.getElem?_eq_some_iff.1 hb).1; omega
    have h1 := ih i a ms[i + d + 1] ha (List.getElem?_eq_getElem hl)
    have h2 := h.rise (i + d + 1) _ b (List.getElem?_eq_getElem hl) (by rw [show i + d + 1 + 1 = i + (d + 1) + 1 by omega]; exact hb)
    omega
theorem PlacesMay.ne {us : List Unt} {ms : List Int} (h : PlacesMay us ms) {i j : Nat} {a b : Int} (hij : i < j) (ha : ms[i]? = some a) (hb : ms[j]? = some b) : a.toNat ≠ b.toNat := by
  have h1 := h.lt (j - i - 1) i a b ha (by rw [show i + (j - i - 1) + 1 = j by omega]; exact hb)
  have h2 := (h.at_ i a ha).1
  have h3 := (h.at_ j b hb).1
  omega
theorem PlacesMay.few {us : List Unt} {ms : List Int} (h : PlacesMay us ms) : ms.length ≤ us.length := by
  -- the k-th place is at least k
  have hk : ∀ (k : Nat) (m : Int), ms[k]? = some m → (k : Int) ≤ m := by
    intro k
    induction k with
    | zero => intro m hm; exact (h.at_ 0 m hm).1
    | succ k ih =>
      intro m hm
      have hl : k < ms.length := by have := (List.getElem?_eq_some_iff.1 hm).1; omega
      have h1 := ih _ (List.getElem?_eq_getElem hl)
      have h2 := h.rise k _ m (List.getElem?_eq_getElem hl) hm
      omega
  rcases Nat.eq_zero_or_pos ms.length with h0 | h0
  · omega
  · have hl : ms.length - 1 < ms.length := by omega
    have h1 := hk _ _ (List.getElem?_eq_getElem hl)
    obtain ⟨h2, u, hu, _⟩ := h.at_ _ _ (List.getElem?_eq_getElem hl)
    have := (List.getElem?_eq_some_iff.1 hu).1
    omega
/-! ### What is taken off -/
def halfN (x rate : Int) : Int := (Rf.rateR 1 x rate).1
def sumL : List Int → Int
  | [] => 0
  | x :: l => x + sumL l
theorem sumL_append (a b : List Int) : sumL (a ++ b) = sumL a + sumL b := by
  induction a with
  | nil => simp [sumL]
  | cons x a ih => simp only [List.cons_append, sumL, ih]; omega
theorem sumL_next {l : List Int} {k : Nat} {x : Int} (h : l[k]? = some x) : sumL (l.take (k + 1)) = sumL (l.take k) + x := by
  rw [take_next h, sumL_append]; simp [sumL]
def netAt (us : List Unt) (m : Int) : Int := match us[m.toNat]? with
  | some u => u.net
  | none => 0
def netsL (us : List Unt) (ms : List Int) : List Int := ms.map (netAt us)
def nth (l : List Int) (k : Nat) : Int := (l[k]?).getD 0
def lessNet (o : Int) (u : Unt) : Unt := ⟨u.line, u.net - o, u.opn⟩
def shut (u : Unt) : Unt := ⟨u.line, u.net, false⟩
def subK (us : List Unt) (ms os : List Int) : Nat → List Unt
  | 0 => us
  | k + 1 => (subK us ms os k).modify (nth ms k).toNat (lessNet (nth os k))
def shutK (us : List Unt) (ms : List Int) : Nat → List Unt
  | 0 => us
  | k + 1 => (shutK us ms k).modify (nth ms k).toNat shut
theorem subK_length (us : List Unt) (ms os : List Int) : ∀ k, (subK us ms os k).length = us.length
  | 0 => rfl
  | k + 1 => by rw [subK, List.length_modify, subK_length]
theorem shutK_length (us : List Unt) (ms : List Int) : ∀ k, (shutK us ms k).length = us.length
  | 0 => rfl
  | k + 1 => by rw [shutK, List.length_modify, shutK_length]
def lessU (us : List Unt) (ms os : List Int) (closes : Bool) : List Unt × Int :=
  if sumL os = 0 then (us, 0) else (shutK (subK us ms os os.length) ms (if closes then ms.length else 0), sumL os)
end Go.Proofs.Ytljmddjlnlmenaa.Ct

end

section
set_option maxRecDepth 100000
set_option linter.unusedVariables false
namespace Go.Proofs.Ytljmddjlnlmenaa.Ko
open Go.ChangeShapes Go.WideShapes Go.ChangeAt Go.RowKit
open Kd (Kind Row)
section
variable {α : Type} {K : Kind α} {E : Nat}
structure Out (K : Kind α) (E : Nat) (w wr : World) (v : Value) (xs : List α) : Prop where
  own : Kd.Own K wr w.heap.size E (fun _ => False) v xs.length xs
  below : Below w.heap.size w wr
theorem Out.nil (K : Kind α) (E : Nat) {w wr : World} (h : Below w.heap.size w wr) : Out K E w wr (.slice none 0 0) [] := ⟨Kd.Own.nil _ _ _ _ _, h⟩
theorem Out.later {w wr w' : World} {v : Value} {xs : List α} (h : Out K E w wr v xs) (hb : Below wr.heap.size wr w') : Out K E w w' v xs := ⟨h.own.later hb, h.below.trans (hb.mono h.below.size)⟩
theorem Out.push {w wr w' : World} {v v' : Value} {xs : List α} {y : α} {L : Nat} (h : Out K E w wr v xs) (e : xs.length = L) (hown : Kd.Own K w' w.heap.size E (fun _ => False) v' (L + 1) (xs ++ [y])) (hgrow : wr.grownBy w' v.ownBlock) : Out K E w w' v' (xs ++ [y]) :=
  ⟨by rw [List.length_append, List.length_singleton, e]; exact hown, h.below.grown hgrow h.below.size fun i hi => (h.own.low i hi).1⟩
def Told (K : Kind α) (E : Nat) (w : World) (e : Ending) (w' : World) (xs : List α) : Prop :=
  ∃ (A : Option Addr) (c : Nat), e = .returned (.slice A xs.length c) ∧ Kd.Own K w' w.heap.size E (fun _ => False) (.slice A xs.length c) xs.length xs ∧ Below w.heap.size w w'
theorem Out.told {w wr : World} {v : Value} {xs : List α} (h : Out K E w wr v xs) : Told K E w (.returned v) wr xs := by
  obtain ⟨A, c, rfl⟩ := h.own.value
  exact ⟨A, c, rfl, h.own, h.below⟩
def Told2 (K : Kind α) (E : Nat) (w : World) (e : Ending) (w' : World) (xs : List α) (z : Int) : Prop :=
  ∃ (A : Option Addr) (c : Nat), e = .returned (.tuple #[.slice A xs.length c, .int .i64 z]) ∧ Kd.Own K w' w.heap.size E (fun _ => False) (.slice A xs.length c) xs.length xs ∧ Below w.heap.size w w'
theorem row_on {w w' : World} {A : Option Addr} {n : Nat} {xs : List α} (h : Row K w (· < w.heap.size) A n xs) (hb : Below w.heap.size w w') : Row K w' (· < w'.heap.size) A n xs := (h.below hb (Nat.le_refl _)).lift hb.size
structure At (K : Kind α) (w wx : World) (A : Option Addr) (n : Nat) (xs : List α) : Prop where
  row : Row K wx (· < wx.heap.size) A n xs
  below : Below w.heap.size w wx
theorem made_out {P : Program} {t e : TypeId} {z : Value} {S b : Nat} (R : Kd.RowT P K t e z S b) (n : Nat) (hn : b * n ≤ 281474976710656) (hn2 : n ≤ 1000000000000) :
    ∃ M : Array Value, (∀ W : World, (Instr.makeSlice t (.int .i64 0) (.int .i64 (n : Int))).run P W = .ok (.slice (some ⟨W.heap.size, 0, none⟩) 0 n) (W.alloc (.cells M e))) ∧
      ∀ (w W : World), Below w.heap.size w W → Out K e w (W.alloc (.cells M e)) (.slice (some ⟨W.heap.size, 0, none⟩) 0 n) [] := by
  obtain ⟨i0, hi0, hz0, hz1, hz2⟩ := info_parts R.info
  refine ⟨madeCells z.cells (n * S), fun W => ?_, fun w W hb => ⟨⟨rfl, [], ?_, rfl⟩, hb.alloc hb.size _⟩⟩
  · have h2 : ((b * n : Nat) : Int) ≤ 281474976710656 := by omega
    have h3 : (i0.bytes : Int) * (n : Int) ≤ 281474976710656 := by rw [hz2]; rw [Int.natCast_mul] at h2; exact h2
    have hr := run_make (P := P) W t e i0 _ R.ut hi0 hz0 .i64 .i64 0 (n : Int) (by omega) (by omega) h3 (by omega)
    rw [hz1] at hr
    rw [Int.toNat_natCast] at hr
    exact hr
  · rw [R.size]
    exact World.ownsRow_made W _ n hb.size (by unfold maxLen; omega) (by rw [size_madeCells])
end
end Go.Proofs.Ytljmddjlnlmenaa.Ko

end

section
set_option maxRecDepth 100000
set_option linter.unusedVariables false
namespace Go.Proofs.Ytljmddjlnlmenaa.Rf
open Go.ChangeShapes Go.WideShapes Go.ChangeAt Go.RowKit
theorem timesR_yes (way x y d v : Int) (g : Ok x ∧ Ok y ∧ 1 ≤ d ∧ d ≤ 100000000000000 ∧ 0 ≤ way ∧ way ≤ 2) (h : Mn.rnd way (x * y / d) (x * y % d) d = v) (hv : v ≤ 100000000000000) : timesR way x y d = (v, 0) := by
  unfold timesR Mn.timesV Mn.timesE
  rw [if_pos g, h, if_pos hv, if_pos hv]
end Go.Proofs.Ytljmddjlnlmenaa.Rf

end

section
set_option maxRecDepth 100000
set_option linter.unusedVariables false
namespace Go.Proofs.Ytljmddjlnlmenaa.Ct
open Go.ChangeShapes Go.WideShapes Go.ChangeAt Go.RowKit
open Ap (Unt Tir Prm kUnt kTir row_Unt row_Tir)
open Kd (Kind Row kInt row_int)
open Ko (Out Told At)
theorem i64_t : Kd.RowT Try.prog kInt 39 2 (.int .i64 0) 1 8 :=
  ⟨Try.underlying39, by kernel_rfl, rfl, rfl, by omega, fun h => by
    obtain ⟨rfl, _⟩ := h
    intro u hu
    simp only [List.mem_cons, List.not_mem_nil, or_false] at hu
    subst hu; rfl⟩
def SumOk (l : List Int) : Prop := ∀ k : Nat, -9223372036854775808 ≤ sumL (l.take k) ∧ sumL (l.take k) ≤ 9223372036854775807
def PlacesIn (n : Nat) (ms : List Int) : Prop := ∀ (i : Nat) (m : Int), ms[i]? = some m → 0 ≤ m ∧ m < (n : Int)
end Go.Proofs.Ytljmddjlnlmenaa.Ct

end
