/- An amount in parts: plain mathematics, nothing of the program. -/
import Derived.Test.YtmnbamfemcgloaaQuM
set_option linter.unusedVariables false
namespace Go.Proofs.Ytmnbamfemcgloaa.Sh
open Qu (Pt ord aheadB)

/-! ### Sums -/
def sumF (f : Nat → Int) : Nat → Int
  | 0 => 0
  | k + 1 => sumF f k + f k

theorem sumF_congr {f g : Nat → Int} : ∀ n, (∀ k, k < n → f k = g k) → sumF f n = sumF g n
  | 0, _ => rfl
  | n + 1, h => by rw [sumF, sumF, sumF_congr n (fun k hk => h k (by omega)), h n (by omega)]

theorem sumF_nonneg {f : Nat → Int} : ∀ n, (∀ k, k < n → 0 ≤ f k) → 0 ≤ sumF f n
  | 0, _ => Int.le_refl _
  | n + 1, h => by have := sumF_nonneg n (fun k hk => h k (by omega)); have := h n (by omega); rw [sumF]; omega

theorem sumF_le {f : Nat → Int} (n m : Nat) (h : n ≤ m) (h0 : ∀ k, k < m → 0 ≤ f k) : sumF f n ≤ sumF f m := by
  induction m with
  | zero => obtain rfl : n = 0 := by omega
            exact Int.le_refl _
  | succ m ih =>
    by_cases e : n = m + 1
    · subst e; exact Int.le_refl _
    · have := ih (by omega) (fun k hk => h0 k (by omega))
      have := h0 m (by omega)
      rw [sumF]; omega

theorem sumF_elem {f : Nat → Int} (n k : Nat) (hk : k < n) (h0 : ∀ k, k < n → 0 ≤ f k) : f k ≤ sumF f n := by
  have h1 := sumF_le (f := f) (k + 1) n (by omega) h0
  have h2 := sumF_nonneg (f := f) k (fun j hj => h0 j (by omega))
  rw [sumF] at h1
  omega

theorem sumF_add (f g : Nat → Int) : ∀ n, sumF (fun k => f k + g k) n = sumF f n + sumF g n
  | 0 => rfl
  | n + 1 => by rw [sumF, sumF, sumF, sumF_add f g n]; omega

theorem sumF_mul (c : Int) (f : Nat → Int) : ∀ n, sumF (fun k => c * f k) n = c * sumF f n
  | 0 => by simp [sumF]
  | n + 1 => by rw [sumF, sumF, sumF_mul c f n, Int.mul_add]

theorem sumF_const (c : Int) : ∀ n : Nat, sumF (fun _ => c) n = n * c
  | 0 => by simp [sumF]
  | n + 1 => by rw [sumF, sumF_const c n, show ((n + 1 : Nat) : Int) = (n : Int) + 1 by omega, Int.add_mul, Int.one_mul]

theorem sumF_mono {f g : Nat → Int} : ∀ n, (∀ k, k < n → f k ≤ g k) → sumF f n ≤ sumF g n
  | 0, _ => Int.le_refl _
  | n + 1, h => by have := sumF_mono n (fun k hk => h k (by omega)); have := h n (by omega); rw [sumF, sumF]; omega

theorem sumF_zero {f : Nat → Int} (n : Nat) (h0 : ∀ k, k < n → 0 ≤ f k) (h : sumF f n = 0) : ∀ k, k < n → f k = 0 := fun k hk => by
  have := sumF_elem n k hk h0
  have := h0 k hk
  omega

/-! ### Whole parts and remainders -/
def base (t S : Int) (f : Nat → Int) (k : Nat) : Int := t * f k / S

def rest (t S : Int) (f : Nat → Int) (k : Nat) : Int := t * f k % S

def left (t S : Int) (f : Nat → Int) (n : Nat) : Int := t - sumF (base t S f) n

section
variable {t S : Int} {f : Nat → Int}
theorem rest_in (hS : 1 ≤ S) (k : Nat) : 0 ≤ rest t S f k ∧ rest t S f k < S := ⟨Int.emod_nonneg _ (by omega), Int.emod_lt_of_pos _ (by omega)⟩

theorem base_nonneg (hS : 1 ≤ S) (ht : 0 ≤ t) (k : Nat) (hf : 0 ≤ f k) : 0 ≤ base t S f k := Int.ediv_nonneg (Int.mul_nonneg ht hf) (by omega)

theorem base_le (hS : 1 ≤ S) (ht : 0 ≤ t) (k : Nat) (hf : f k ≤ S) : base t S f k ≤ t := by
  have h : t * f k ≤ t * S := Int.mul_le_mul_of_nonneg_left hf ht
  have h2 := Int.ediv_le_ediv (c := S) (by omega) h
  rwa [Int.mul_ediv_cancel _ (by omega)] at h2

/-- The remainders come to what is left, times the sum. -/
theorem rests (n : Nat) (hs : S = sumF f n) : sumF (rest t S f) n = S * left t S f n := by
  have h1 : sumF (fun k => S * base t S f k + rest t S f k) n = t * sumF f n := by
    rw [← sumF_mul]
    exact sumF_congr n fun k _ => Int.mul_ediv_add_emod _ _
  rw [sumF_add, sumF_mul, ← hs] at h1
  unfold left
  rw [Int.mul_sub]
  have : S * t = t * S := Int.mul_comm _ _
  omega

theorem left_nonneg (n : Nat) (hS : 1 ≤ S) (hs : S = sumF f n) : 0 ≤ left t S f n := by
  have h1 := rests (t := t) n hs
  have h2 := sumF_nonneg (f := rest t S f) n (fun k _ => (rest_in hS k).1)
  by_cases h : 0 ≤ left t S f n
  · exact h
  · have : S * left t S f n < 0 := Int.mul_neg_of_pos_of_neg (by omega) (by omega)
    omega

theorem left_lt (n : Nat) (hS : 1 ≤ S) (hs : S = sumF f n) : left t S f n < n := by
  have h1 := rests (t := t) n hs
  have hn : 0 < n := by
    rcases Nat.eq_zero_or_pos n with rfl | h
    · rw [hs] at hS; simp [sumF] at hS
    · exact h
  have h2 : sumF (rest t S f) n ≤ sumF (fun _ => S - 1) n := sumF_mono n fun k _ => by have := (rest_in (t := t) (f := f) hS k).2; omega
  rw [sumF_const] at h2
  by_cases h : left t S f n < n
  · exact h
  · have h3 : S * (n : Int) ≤ S * left t S f n := Int.mul_le_mul_of_nonneg_left (by omega) (by omega)
    have h4 : (n : Int) * (S - 1) = S * n - n := by rw [Int.mul_sub, Int.mul_comm, Int.mul_one]
    omega

theorem left_le (n : Nat) (hS : 1 ≤ S) (ht : 0 ≤ t) (k : Nat) (hk : k ≤ n) (hf : ∀ k, k < n → 0 ≤ f k) : left t S f k ≤ t := by
  have := sumF_nonneg (f := base t S f) k (fun j hj => base_nonneg hS ht j (hf j (by omega)))
  unfold left; omega

theorem left_mid (n : Nat) (hS : 1 ≤ S) (hs : S = sumF f n) (ht : 0 ≤ t) (k : Nat) (hk : k ≤ n) (hf : ∀ k, k < n → 0 ≤ f k) : 0 ≤ left t S f k := by
  have h1 := left_nonneg (t := t) n hS hs
  have h2 := sumF_le (f := base t S f) k n hk (fun j hj => base_nonneg hS ht j (hf j hj))
  unfold left at *; omega

theorem left_step (k : Nat) : left t S f (k + 1) = left t S f k - base t S f k := by unfold left; rw [sumF]; omega
end

/-! ### One more for some -/
def nth (l : List Int) (k : Nat) : Int := l.getD k 0

def sumL : List Int → Int
  | [] => 0
  | x :: l => x + sumL l

def one (l : List Int) (p : Pt) : List Int := l.set p.2.toNat (nth l p.2.toNat + 1)

def bump (l : List Int) (ps : List Pt) : List Int := ps.foldl one l

theorem bump_nil (l : List Int) : bump l [] = l := rfl

theorem bump_cons (l : List Int) (p : Pt) (ps : List Pt) : bump l (p :: ps) = bump (one l p) ps := rfl

theorem bump_snoc (l : List Int) (ps : List Pt) (p : Pt) : bump l (ps ++ [p]) = one (bump l ps) p := by simp [bump]

theorem one_length (l : List Int) (p : Pt) : (one l p).length = l.length := by simp [one]

theorem bump_length (l : List Int) : ∀ ps, (bump l ps).length = l.length := by
  intro ps
  induction ps generalizing l with
  | nil => rfl
  | cons p ps ih => rw [bump_cons, ih, one_length]

theorem nth_one (l : List Int) (p : Pt) (i : Nat) (hi : i < l.length) : nth (one l p) i = nth l i + if p.2.toNat = i then 1 else 0 := by
  unfold nth one
  by_cases h : p.2.toNat = i
  · subst h
    rw [if_pos rfl]
    simp [nth, List.getD, hi]
  · rw [if_neg h]
    simp [nth, List.getD, h]

def places (ps : List Pt) : List Nat := ps.map fun p => p.2.toNat

theorem nth_bump (i : Nat) : ∀ (ps : List Pt) (l : List Int), i < l.length → nth (bump l ps) i = nth l i + (places ps).count i
  | [], l, _ => by simp [bump_nil, places]
  | p :: ps, l, hi => by
    rw [bump_cons, nth_bump i ps (one l p) (by rw [one_length]; exact hi), nth_one l p i hi]
    unfold places
    rw [List.map_cons, List.count_cons]
    by_cases h : p.2.toNat = i
    · subst h
      simp
      omega
    · simp [h]

theorem sumL_set : ∀ (l : List Int) (k : Nat) (x : Int), k < l.length → sumL (l.set k x) = sumL l - nth l k + x
  | [], k, x, h => by simp at h
  | y :: l, 0, x, _ => by simp [sumL, nth]; omega
  | y :: l, k + 1, x, h => by
    have := sumL_set l k x (by simpa using h)
    rw [List.set_cons_succ, sumL, sumL, this]
    unfold nth
    rw [List.getD_cons_succ]
    omega

theorem sumL_bump : ∀ (ps : List Pt) (l : List Int), (∀ p ∈ ps, p.2.toNat < l.length) → sumL (bump l ps) = sumL l + ps.length
  | [], l, _ => by simp [bump_nil]
  | p :: ps, l, h => by
    rw [bump_cons, sumL_bump ps (one l p) (fun q hq => by rw [one_length]; exact h q (List.mem_cons_of_mem _ hq))]
    unfold one
    rw [sumL_set _ _ _ (h p List.mem_cons_self), List.length_cons]
    omega

def baseL (t S : Int) (f : Nat → Int) (n : Nat) : List Int := (List.range n).map (base t S f)

theorem baseL_length (t S : Int) (f : Nat → Int) (n : Nat) : (baseL t S f n).length = n := by simp [baseL]

theorem nth_baseL (t S : Int) (f : Nat → Int) (n k : Nat) (hk : k < n) : nth (baseL t S f n) k = base t S f k := by
  unfold nth baseL
  simp [List.getD, hk]

theorem sumL_append : ∀ (l m : List Int), sumL (l ++ m) = sumL l + sumL m
  | [], m => by simp [sumL]
  | x :: l, m => by rw [List.cons_append, sumL, sumL, sumL_append l m]; omega

theorem sumL_range (f : Nat → Int) : ∀ n, sumL ((List.range n).map f) = sumF f n
  | 0 => rfl
  | n + 1 => by rw [List.range_succ, List.map_append, sumL_append, sumL_range f n]; simp [sumL, sumF]

/-- Who gets one more. -/
def chosen (t S : Int) (f : Nat → Int) (n : Nat) : List Pt := (ord (rest t S f) n).take (left t S f n).toNat

def parts (t S : Int) (f : Nat → Int) (n : Nat) : List Int := bump (baseL t S f n) (chosen t S f n)

theorem ord_place {g : Nat → Int} {n : Nat} {p : Pt} (h : p ∈ ord g n) : p.2.toNat < n ∧ p = (g p.2.toNat, (p.2.toNat : Int)) := by
  obtain ⟨i, hi, rfl⟩ := Qu.ord_mem g n p h
  simp [hi]

section
variable {t S : Int} {f : Nat → Int} {n : Nat}
theorem parts_length : (parts t S f n).length = n := by rw [parts, bump_length, baseL_length]

theorem chosen_sub {p : Pt} (h : p ∈ chosen t S f n) : p ∈ ord (rest t S f) n := List.mem_of_mem_take h

theorem chosen_length (hS : 1 ≤ S) (hs : S = sumF f n) : (chosen t S f n).length = (left t S f n).toNat := by
  have := left_lt (t := t) n hS hs
  have := left_nonneg (t := t) n hS hs
  unfold chosen
  rw [List.length_take, Qu.ord_length]
  omega

theorem parts_sum (hS : 1 ≤ S) (hs : S = sumF f n) : sumL (parts t S f n) = t := by
  unfold parts
  rw [sumL_bump _ _ (fun p hp => by rw [baseL_length]; exact (ord_place (chosen_sub hp)).1), chosen_length hS hs, baseL, sumL_range]
  have := left_nonneg (t := t) n hS hs
  unfold left at *
  omega

theorem places_ord (g : Nat → Int) : (places (ord g n)).Perm (List.range n) := by
  have h := (Qu.ord_perm g n).map fun p : Pt => p.2.toNat
  have e : ((List.range n).map fun i => (g i, (i : Int))).map (fun p : Pt => p.2.toNat) = List.range n := by
    rw [List.map_map]
    conv => rhs; rw [← List.map_id (List.range n)]
    apply List.map_congr_left
    intro i hi
    simp
  rw [e] at h
  exact h

theorem count_le (i : Nat) : (places (chosen t S f n)).count i ≤ 1 := by
  have h1 : (places (chosen t S f n)).Sublist (places (ord (rest t S f) n)) := (List.take_sublist _ _).map _
  have h2 := h1.count_le i
  have h3 : (places (ord (rest t S f) n)).Nodup := (places_ord _).nodup_iff.2 List.nodup_range
  have h4 := List.nodup_iff_count.1 h3 i
  omega

theorem count_pos {i : Nat} (h : 0 < (places (chosen t S f n)).count i) : (rest t S f i, (i : Int)) ∈ chosen t S f n := by
  have h1 := List.count_pos_iff.1 h
  obtain ⟨p, hp, hi⟩ := List.mem_map.1 h1
  have h2 := (ord_place (chosen_sub hp)).2
  rw [hi] at h2
  rw [← h2]
  exact hp

theorem count_none {i : Nat} (hi : i < n) (h : (places (chosen t S f n)).count i = 0) : (rest t S f i, (i : Int)) ∈ (ord (rest t S f) n).drop (left t S f n).toNat := by
  have h1 : (rest t S f i, (i : Int)) ∈ ord (rest t S f) n := (Qu.ord_perm _ n).mem_iff.2 (List.mem_map.2 ⟨i, List.mem_range.2 hi, rfl⟩)
  rw [← List.take_append_drop (left t S f n).toNat (ord (rest t S f) n)] at h1
  rcases List.mem_append.1 h1 with h2 | h2
  · exfalso
    have h3 : i ∈ places (chosen t S f n) := List.mem_map.2 ⟨_, h2, by simp⟩
    have := List.count_pos_iff.2 h3
    omega
  · exact h2

theorem nth_parts {i : Nat} (hi : i < n) : nth (parts t S f n) i = base t S f i + (places (chosen t S f n)).count i := by
  unfold parts
  rw [nth_bump i _ _ (by rw [baseL_length]; exact hi), nth_baseL _ _ _ _ _ hi]

/-- Of who has one more and who has not, the one is ahead of the other. -/
theorem fair (i k : Nat) (hi : i < n) (hk : k < n) (h1 : base t S f i < nth (parts t S f n) i) (h2 : nth (parts t S f n) k = base t S f k) :
    rest t S f k < rest t S f i ∨ (rest t S f k = rest t S f i ∧ i < k) := by
  rw [nth_parts hi] at h1
  rw [nth_parts hk] at h2
  have c1 := count_pos (t := t) (S := S) (f := f) (n := n) (i := i) (by omega)
  have c2 := count_none (t := t) (S := S) (f := f) hk (by omega)
  have h3 := Qu.ord_strict (rest t S f) n
  rw [← List.take_append_drop (left t S f n).toNat (ord (rest t S f) n), List.pairwise_append] at h3
  have h4 := (Qu.ahead_iff _ _).1 (h3.2.2 _ c1 _ c2)
  simp only at h4
  omega

def fst (l : List Pt) : List Int := l.map (·.1)

theorem sumL_perm {l m : List Int} (h : l.Perm m) : sumL l = sumL m := by
  induction h with
  | nil => rfl
  | cons x _ ih => rw [sumL, sumL, ih]
  | swap x y l => simp only [sumL]; omega
  | trans _ _ h1 h2 => rw [h1, h2]

theorem fst_ord (g : Nat → Int) : sumL (fst (ord g n)) = sumF g n := by
  have h := (Qu.ord_perm g n).map fun p : Pt => p.1
  rw [fst, sumL_perm h, List.map_map, ← sumL_range]
  rfl

theorem sumL_le (S : Int) : ∀ l : List Int, (∀ x ∈ l, x ≤ S) → sumL l ≤ l.length * S
  | [], _ => by simp [sumL]
  | x :: l, h => by
    have h1 := sumL_le S l (fun y hy => h y (List.mem_cons_of_mem _ hy))
    have h2 := h x List.mem_cons_self
    rw [sumL, List.length_cons, show ((l.length + 1 : Nat) : Int) = (l.length : Int) + 1 by omega, Int.add_mul, Int.one_mul]
    omega

/-- Who has one more has some remainder. -/
theorem chosen_pos (hS : 1 ≤ S) (hs : S = sumF f n) (p : Pt) (hp : p ∈ chosen t S f n) : 0 < p.1 := by
  by_cases h : 0 < p.1
  · exact h
  exfalso
  have hin : ∀ q ∈ ord (rest t S f) n, 0 ≤ q.1 ∧ q.1 ≤ S := fun q hq => by
    obtain ⟨i, _, rfl⟩ := Qu.ord_mem _ _ _ hq
    have := rest_in (t := t) (f := f) hS i
    simp only
    omega
  have h0 : p.1 = 0 := by have := (hin p (chosen_sub hp)).1; omega
  have hst := Qu.ord_strict (rest t S f) n
  have hsum := fst_ord (n := n) (rest t S f)
  rw [rests n hs] at hsum
  obtain ⟨s, u, hsu⟩ := List.append_of_mem hp
  have hlen := chosen_length (t := t) hS hs
  have hnn := left_nonneg (t := t) n hS hs
  have hall : ord (rest t S f) n = s ++ p :: (u ++ (ord (rest t S f) n).drop (left t S f n).toNat) := by
    conv => lhs; rw [← List.take_append_drop (left t S f n).toNat (ord (rest t S f) n)]
    show chosen t S f n ++ _ = _
    rw [hsu]; simp
  generalize hv : u ++ (ord (rest t S f) n).drop (left t S f n).toNat = v at hall
  rw [hall, List.pairwise_append, List.pairwise_cons] at hst
  have hv0 : ∀ q ∈ v, q.1 = 0 := fun q hq => by
    have h1 := (Qu.ahead_iff _ _).1 (hst.2.1.1 q hq)
    have h2 := (hin q (by rw [hall]; exact List.mem_append_right _ (List.mem_cons_of_mem _ hq))).1
    omega
  have e1 : fst (ord (rest t S f) n) = fst s ++ p.1 :: fst v := by rw [hall]; simp [fst]
  rw [e1, sumL_append, sumL, h0] at hsum
  have e2 : sumL (fst v) ≤ (fst v).length * 0 := sumL_le 0 _ (fun x hx => by
    obtain ⟨q, hq, rfl⟩ := List.mem_map.1 hx
    exact Int.le_of_eq (hv0 q hq))
  have e3 := sumL_le S (fst s) (fun x hx => by
    obtain ⟨q, hq, rfl⟩ := List.mem_map.1 hx
    exact (hin q (by rw [hall]; exact List.mem_append_left _ hq)).2)
  have e4 : (fst s).length = s.length := by simp [fst]
  rw [hsu] at hlen
  simp at hlen
  have e5 : (s.length : Int) ≤ left t S f n - 1 := by omega
  have e6 : (s.length : Int) * S ≤ (left t S f n - 1) * S := Int.mul_le_mul_of_nonneg_right e5 (by omega)
  rw [Int.sub_mul, Int.one_mul, Int.mul_comm (left t S f n)] at e6
  rw [e4] at e3
  omega

theorem each (hS : 1 ≤ S) (hs : S = sumF f n) {i : Nat} (hi : i < n) : nth (parts t S f n) i = base t S f i ∨ (nth (parts t S f n) i = base t S f i + 1 ∧ rest t S f i ≠ 0) := by
  rw [nth_parts hi]
  have h1 := count_le (t := t) (S := S) (f := f) (n := n) i
  rcases Nat.eq_zero_or_pos ((places (chosen t S f n)).count i) with h | h
  · left; omega
  · right
    have := chosen_pos hS hs _ (count_pos h)
    simp only at this
    omega
end

/-! ### All weights so many times as great -/
def grow (c : Int) (p : Pt) : Pt := (c * p.1, p.2)

theorem ahead_grow (c : Int) (hc : 1 ≤ c) (x y : Pt) : aheadB (grow c x) (grow c y) = aheadB x y := by
  have key : ∀ a b : Int, (c * a < c * b ↔ a < b) ∧ (c * a = c * b ↔ a = b) := fun a b => ⟨⟨fun h => Int.lt_of_mul_lt_mul_left h (by omega), fun h => Int.mul_lt_mul_of_pos_left h (by omega)⟩, ⟨fun h => Int.eq_of_mul_eq_mul_left (by omega) h, fun h => by rw [h]⟩⟩
  unfold aheadB grow
  simp only [(key _ _).1, (key _ _).2]

theorem ins_grow (c : Int) (hc : 1 ≤ c) (x : Pt) : ∀ l, Qu.ins (grow c x) (l.map (grow c)) = (Qu.ins x l).map (grow c)
  | [] => rfl
  | y :: l => by
    rw [List.map_cons, Qu.ins, Qu.ins, ahead_grow c hc]
    by_cases h : aheadB x y = true
    · rw [if_pos h, if_pos h]; rfl
    · rw [if_neg h, if_neg h, List.map_cons, ins_grow c hc x l]

theorem ord_grow (c : Int) (hc : 1 ≤ c) (g : Nat → Int) : ∀ n, ord (fun k => c * g k) n = (ord g n).map (grow c)
  | 0 => rfl
  | n + 1 => by
    rw [ord, ord, ord_grow c hc g n]
    exact ins_grow c hc (g n, (n : Int)) (ord g n)

theorem bump_grow (c : Int) : ∀ (ps : List Pt) (l : List Int), bump l (ps.map (grow c)) = bump l ps
  | [], l => rfl
  | p :: ps, l => by rw [List.map_cons, bump_cons, bump_cons]; exact bump_grow c ps _

theorem parts_grow (t S c : Int) (f : Nat → Int) (n : Nat) (hc : 1 ≤ c) (hS : 1 ≤ S) : parts t (c * S) (fun k => c * f k) n = parts t S f n := by
  have e1 : base t (c * S) (fun k => c * f k) = base t S f := by
    funext k
    unfold base
    rw [Int.mul_left_comm]
    exact Int.mul_ediv_mul_of_pos _ _ (by omega)
  have e2 : rest t (c * S) (fun k => c * f k) = fun k => c * rest t S f k := by
    funext k
    unfold rest
    rw [Int.mul_left_comm]
    exact Int.mul_emod_mul_of_pos _ _ (by omega)
  unfold parts chosen left baseL
  rw [e1, e2, ord_grow c hc, ← List.map_take, bump_grow]

/-! ### What Largest answers -/
def okB (x : Int) : Bool := decide (0 ≤ x) && decide (x ≤ 100000000000000)

theorem okB_iff (x : Int) : okB x = true ↔ 0 ≤ x ∧ x ≤ 100000000000000 := by unfold okB; rw [Bool.and_eq_true, decide_eq_true_eq, decide_eq_true_eq]

def allOk (f : Nat → Int) (n : Nat) : Bool := (List.range n).all fun k => okB (f k)

theorem allOk_iff (f : Nat → Int) (n : Nat) : allOk f n = true ↔ ∀ k, k < n → 0 ≤ f k ∧ f k ≤ 100000000000000 := by
  unfold allOk
  rw [List.all_eq_true]
  exact ⟨fun h k hk => (okB_iff _).1 (h k (List.mem_range.2 hk)), fun h k hk => (okB_iff _).2 (h k (List.mem_range.1 hk))⟩

def largR (t : Int) (f : Nat → Int) (n : Nat) : List Int × Int :=
  if okB t && decide (n ≤ 100000) && allOk f n then
    if 100000000000000 < sumF f n then ([], 5)
    else if sumF f n = 0 then if 0 < t then ([], 7) else (List.replicate n 0, 0)
    else (parts t (sumF f n) f n, 0)
  else ([], 2)

theorem larg_bad (t : Int) (f : Nat → Int) (n : Nat) (h : ¬ (0 ≤ t ∧ t ≤ 100000000000000) ∨ 100000 < n ∨ ∃ k, k < n ∧ ¬ (0 ≤ f k ∧ f k ≤ 100000000000000)) : largR t f n = ([], 2) := by
  unfold largR
  rw [if_neg]
  intro hh
  rw [Bool.and_eq_true, Bool.and_eq_true, okB_iff, decide_eq_true_eq, allOk_iff] at hh
  rcases h with h | h | ⟨k, hk, h⟩
  · exact h hh.1.1
  · omega
  · exact h (hh.2 k hk)
section
variable {t : Int} {f : Nat → Int} {n : Nat} (ht : 0 ≤ t ∧ t ≤ 100000000000000) (hn : n ≤ 100000) (hf : ∀ k, k < n → 0 ≤ f k ∧ f k ≤ 100000000000000)
include ht hn hf
theorem larg_in : largR t f n = if 100000000000000 < sumF f n then ([], 5) else if sumF f n = 0 then if 0 < t then ([], 7) else (List.replicate n 0, 0) else (parts t (sumF f n) f n, 0) := by
  unfold largR
  rw [if_pos]
  rw [Bool.and_eq_true, Bool.and_eq_true, okB_iff, decide_eq_true_eq, allOk_iff]
  exact ⟨⟨ht, hn⟩, hf⟩

theorem larg_over (h : 100000000000000 < sumF f n) : largR t f n = ([], 5) := by rw [larg_in ht hn hf, if_pos h]

theorem larg_none (h : sumF f n = 0) (h2 : 0 < t) : largR t f n = ([], 7) := by rw [larg_in ht hn hf, if_neg (by omega), if_pos h, if_pos h2]

theorem larg_zero (h : sumF f n = 0) (h2 : ¬ 0 < t) : largR t f n = (List.replicate n 0, 0) := by rw [larg_in ht hn hf, if_neg (by omega), if_pos h, if_neg h2]

theorem larg_parts (h : sumF f n ≠ 0) (h2 : sumF f n ≤ 100000000000000) : largR t f n = (parts t (sumF f n) f n, 0) := by rw [larg_in ht hn hf, if_neg (by omega), if_neg h]
end

theorem parts_congr {t S : Int} {f g : Nat → Int} {n : Nat} (h : ∀ k, k < n → f k = g k) : parts t S f n = parts t S g n := by
  have e1 : baseL t S f n = baseL t S g n := by
    unfold baseL
    apply List.map_congr_left
    intro k hk
    unfold base
    rw [h k (List.mem_range.1 hk)]
  have e2 : sumF (base t S f) n = sumF (base t S g) n := sumF_congr n fun k hk => by unfold base; rw [h k hk]
  have e3 : ord (rest t S f) n = ord (rest t S g) n := Qu.ord_congr n fun k hk => by unfold rest; rw [h k hk]
  unfold parts chosen left
  rw [e1, e2, e3]

theorem larg_congr {t : Int} {f g : Nat → Int} {n : Nat} (h : ∀ k, k < n → f k = g k) : largR t f n = largR t g n := by
  have e1 : allOk f n = allOk g n := by
    unfold allOk
    rw [Bool.eq_iff_iff, List.all_eq_true, List.all_eq_true]
    exact ⟨fun hh k hk => by rw [← h k (List.mem_range.1 hk)]; exact hh k hk, fun hh k hk => by rw [h k (List.mem_range.1 hk)]; exact hh k hk⟩
  unfold largR
  rw [e1, sumF_congr n h, parts_congr h]

theorem larg_length (t : Int) (f : Nat → Int) (n : Nat) : (largR t f n).1.length ≤ n := by
  unfold largR
  split
  · split
    · simp
    · split
      · split <;> simp
      · show (parts t (sumF f n) f n).length ≤ n
        rw [parts_length]; exact Nat.le_refl _
  · simp

end Go.Proofs.Ytmnbamfemcgloaa.Sh
