/- Journals of records on a disk: plain mathematics, nothing of the program. · Journals and power that goes: what stands behind a crash; plain mathematics. · Journals on a disk: what an Add writes, what a crash leaves of it. · A journal's state: New, Open, Add as numbers and lists; that it stays sound. -/
import Derived.Test.YtedgookkogpfbaaLfX
import Derived.Test.YtedgookkogpfbaaDkX
set_option maxRecDepth 100000

section
set_option linter.unusedVariables false
namespace Go.Proofs.Ytedgookkogpfbaa.Jr
open Lf (Leaf layB readB takesB rightB cut cut_len cut_at read_lay takes_lay right_iff)

/-- How many leaves a record of so many bytes has. -/
def needN (k : Nat) : Nat := if k = 0 then 0 else (k - 1) / 46 + 1

theorem need_pos {k : Nat} (h : 1 ≤ k) : 1 ≤ needN k := by
  unfold needN
  rw [if_neg (by omega)]
  omega

theorem need_cover (k : Nat) : k ≤ 46 * needN k := by
  unfold needN
  split <;> omega

theorem need_last {k i : Nat} (h : i < needN k) : 46 * i < k := by
  unfold needN at h
  split at h <;> omega

theorem need_whole {k i : Nat} (h : i + 1 < needN k) : 46 * i + 46 < k := by
  unfold needN at h
  split at h <;> omega

theorem need_le (k : Nat) : needN k ≤ k := by
  unfold needN
  split <;> omega

/-- The i-th leaf of a record. -/
def leafN (epoch number : Nat) (b : List UInt8) (i : Nat) : Leaf :=
  ⟨epoch, number, decide (i = 0), decide (i + 1 = needN b.length), cut b (46 * i) (min 46 (b.length - 46 * i))⟩

theorem leaf_len {e m : Nat} {b : List UInt8} {i : Nat} (h : i < needN b.length) : (leafN e m b i).data.length = min 46 (b.length - 46 * i) := by
  have := need_last h
  exact cut_len (by omega)

theorem leaf_right {e m : Nat} {b : List UInt8} {i : Nat} (h : i < needN b.length) (he : 1 ≤ e) : rightB (leafN e m b i) = true := by
  rw [right_iff, leaf_len h]
  have h1 := need_last h
  refine ⟨by show e ≠ 0; omega, by omega, by omega, ?_⟩
  by_cases hl : i + 1 = needN b.length
  · exact .inl (by show decide _ = true; exact decide_eq_true hl)
  · have := need_whole (k := b.length) (i := i) (by omega)
    exact .inr (by omega)

theorem leaf_takes {e m : Nat} {b : List UInt8} {i : Nat} (h : i < needN b.length) (he : 1 ≤ e) (he2 : e < 2 ^ 32) (hm : m < 2 ^ 32) : takesB (layB (leafN e m b i)) = true := takes_lay _ (leaf_right h he) he2 hm

theorem leaf_read {e m : Nat} {b : List UInt8} {i : Nat} (h : i < needN b.length) (he2 : e < 2 ^ 32) (hm : m < 2 ^ 32) : readB (layB (leafN e m b i)) = leafN e m b i := read_lay _ (by rw [leaf_len h]; omega) he2 hm

/-- What stood ahead, and the i-th leaf's bytes. -/
theorem leaf_more {e m : Nat} {b : List UInt8} {i : Nat} (h : i < needN b.length) : b.take (46 * i) ++ (leafN e m b i).data = b.take (46 * i + 46) := by
  have h1 := need_last h
  show b.take (46 * i) ++ cut b (46 * i) (min 46 (b.length - 46 * i)) = _
  apply List.ext_getElem?
  intro k
  rcases Nat.lt_or_ge k (46 * i) with hk | hk
  · rw [List.getElem?_append_left (by rw [List.length_take]; omega), List.getElem?_take, List.getElem?_take, if_pos hk, if_pos (by omega)]
  · rw [List.getElem?_append_right (by rw [List.length_take]; omega), List.length_take, List.getElem?_take, show min (46 * i) b.length = 46 * i by omega]
    rcases Nat.lt_or_ge (k - 46 * i) (min 46 (b.length - 46 * i)) with hj | hj
    · rw [cut_at hj, if_pos (by omega)]
      congr 1
      omega
    · rw [List.getElem?_eq_none (by rw [cut_len (by omega)]; omega)]
      split
      · rw [List.getElem?_eq_none (by omega)]
      · rfl

/-! ### What is read -/
/-- Does the i-th sector go on with a record of that number? -/
def goodL (S : Nat → List UInt8) (number least e i : Nat) : Bool :=
  takesB (S i) && decide ((readB (S i)).number = number) && ((readB (S i)).first == decide (i = 0)) && (decide (i = 0) || decide ((readB (S i)).epoch = e)) && decide (least ≤ (readB (S i)).epoch)

/-- The record that stands there: its bytes, how many sectors, its epoch; 0 sectors: there is none. -/
def recGo (S : Nat → List UInt8) (number least : Nat) : Nat → Nat → List UInt8 → Nat → List UInt8 × Nat × Nat
  | 0, _, _, _ => ([], 0, 0)
  | f + 1, i, b, e => if goodL S number least e i then (if (readB (S i)).last then (b ++ (readB (S i)).data, i + 1, (readB (S i)).epoch) else recGo S number least f (i + 1) (b ++ (readB (S i)).data) (readB (S i)).epoch) else ([], 0, 0)

def recN (S : Nat → List UInt8) (number least cap : Nat) : List UInt8 × Nat × Nat := recGo S number least cap 0 [] 0

/-- A run of leaves of one record, from the first one on to the last one, the k-th. -/
structure Run (S : Nat → List UInt8) (number least i k E : Nat) : Prop where
  le : i ≤ k
  each : ∀ j, i ≤ j → j ≤ k → takesB (S j) = true ∧ (readB (S j)).number = number ∧ (readB (S j)).first = decide (j = 0) ∧ (readB (S j)).epoch = E
  least : least ≤ E
  on : ∀ j, i ≤ j → j < k → (readB (S j)).last = false
  last : (readB (S k)).last = true

section
variable {S : Nat → List UInt8} {number least : Nat}
theorem good_iff (e i : Nat) : goodL S number least e i = true ↔ takesB (S i) = true ∧ (readB (S i)).number = number ∧ (readB (S i)).first = decide (i = 0) ∧ (i = 0 ∨ (readB (S i)).epoch = e) ∧ least ≤ (readB (S i)).epoch := by
  unfold goodL
  simp only [Bool.and_eq_true, decide_eq_true_eq, Bool.or_eq_true, beq_iff_eq, and_assoc]

theorem rec_le : ∀ f i b e, (recGo S number least f i b e).2.1 ≤ i + f
  | 0, i, b, e => Nat.zero_le _
  | f + 1, i, b, e => by
    unfold recGo
    split
    · split
      · show i + 1 ≤ _; omega
      · have := rec_le f (i + 1) (b ++ (readB (S i)).data) (readB (S i)).epoch
        omega
    · exact Nat.zero_le _

theorem rec_run : ∀ f i b e, (recGo S number least f i b e).2.1 ≠ 0 → ∃ k E, k < i + f ∧ Run S number least i k E ∧ (i = 0 ∨ E = e)
  | 0, i, b, e, h => absurd rfl h
  | f + 1, i, b, e, h => by
    unfold recGo at h
    by_cases hg : goodL S number least e i = true
    · obtain ⟨g1, g2, g3, g4, g5⟩ := (good_iff e i).1 hg
      rw [if_pos hg] at h
      cases hl : (readB (S i)).last with
      | true =>
        exact ⟨i, (readB (S i)).epoch, by omega, ⟨Nat.le_refl _, fun j h1 h2 => by rw [show j = i by omega]; exact ⟨g1, g2, g3, rfl⟩, g5, fun j h1 h2 => by omega, hl⟩, g4⟩
      | false =>
        rw [hl, if_neg (by simp)] at h
        obtain ⟨k, E, hk, hr, hE⟩ := rec_run f (i + 1) _ _ h
        have hE' : E = (readB (S i)).epoch := hE.resolve_left (by omega)
        refine ⟨k, E, by omega, ⟨by have := hr.le; omega, fun j h1 h2 => ?_, hr.least, fun j h1 h2 => ?_, hr.last⟩, by rw [hE']; exact g4⟩
        · rcases Nat.eq_or_lt_of_le h1 with rfl | h1
          · exact ⟨g1, g2, g3, hE'.symm⟩
          · exact hr.each j h1 h2
        · rcases Nat.eq_or_lt_of_le h1 with rfl | h1
          · exact hl
          · exact hr.on j h1 h2
    · rw [if_neg hg] at h
      exact absurd rfl h

theorem run_rec : ∀ f i b e k E, k < i + f → Run S number least i k E → (i = 0 ∨ E = e) → (recGo S number least f i b e).2.1 = k + 1 ∧ (recGo S number least f i b e).2.2 = E
  | 0, i, b, e, k, E, hk, hr, _ => by have := hr.le; omega
  | f + 1, i, b, e, k, E, hk, hr, hE => by
    obtain ⟨g1, g2, g3, g4⟩ := hr.each i (Nat.le_refl _) hr.le
    have hg : goodL S number least e i = true := (good_iff e i).2 ⟨g1, g2, g3, by rw [g4]; exact hE, by rw [g4]; exact hr.least⟩
    unfold recGo
    rw [if_pos hg]
    rcases Nat.eq_or_lt_of_le hr.le with h | h
    · subst h
      rw [if_pos hr.last]
      exact ⟨rfl, g4⟩
    · rw [if_neg (by rw [hr.on i (Nat.le_refl _) h]; simp)]
      exact run_rec f (i + 1) _ _ k E (by omega) ⟨h, fun j h1 h2 => hr.each j (by omega) h2, hr.least, fun j h1 h2 => hr.on j (by omega) h2, hr.last⟩ (.inr g4.symm)

theorem recN_run {cap : Nat} (h : (recN S number least cap).2.1 ≠ 0) : ∃ k E, k < cap ∧ Run S number least 0 k E := by
  obtain ⟨k, E, hk, hr, _⟩ := rec_run cap 0 [] 0 h
  exact ⟨k, E, by omega, hr⟩

theorem recN_none {cap : Nat} (h : ∀ k E, k < cap → ¬ Run S number least 0 k E) : (recN S number least cap).2.1 = 0 := by
  rcases Nat.eq_zero_or_pos (recN S number least cap).2.1 with h0 | h0
  · exact h0
  · obtain ⟨k, E, hk, hr⟩ := recN_run (show (recN S number least cap).2.1 ≠ 0 by omega)
    exact absurd hr (h k E hk)

theorem recN_le (cap : Nat) : (recN S number least cap).2.1 ≤ cap := by
  have := rec_le (S := S) (number := number) (least := least) cap 0 [] 0
  unfold recN
  omega

/-- A record that stands there is read. -/
theorem rec_lay {b : List UInt8} {E : Nat} (hE : 1 ≤ E) (hE2 : E < 2 ^ 32) (hn : number < 2 ^ 32) (hl : least ≤ E) (hS : ∀ i, i < needN b.length → S i = layB (leafN E number b i)) :
    ∀ f i e, i < needN b.length → needN b.length ≤ i + f → (i = 0 ∨ E = e) → recGo S number least f i (b.take (46 * i)) e = (b, needN b.length, E)
  | 0, i, e, hi, hf, _ => by omega
  | f + 1, i, e, hi, hf, he => by
    have h1 := leaf_read (e := E) (m := number) hi hE2 hn
    have hg : goodL S number least e i = true := by
      rw [good_iff, hS i hi, h1]
      exact ⟨leaf_takes hi hE hE2 hn, rfl, rfl, he, hl⟩
    unfold recGo
    rw [if_pos hg, hS i hi, h1, leaf_more hi]
    by_cases hl2 : i + 1 = needN b.length
    · have e1 : (leafN E number b i).last = true := decide_eq_true hl2
      rw [if_pos e1, List.take_of_length_le (by have := need_cover b.length; omega), hl2]
      rfl
    · have e1 : (leafN E number b i).last = false := decide_eq_false hl2
      rw [if_neg (by rw [e1]; simp)]
      exact rec_lay hE hE2 hn hl hS f (i + 1) E (by omega) (by omega) (.inr rfl)

theorem recN_lay {b : List UInt8} {E cap : Nat} (hb : 1 ≤ b.length) (hE : 1 ≤ E) (hE2 : E < 2 ^ 32) (hn : number < 2 ^ 32) (hl : least ≤ E) (hc : needN b.length ≤ cap) (hS : ∀ i, i < needN b.length → S i = layB (leafN E number b i)) : recN S number least cap = (b, needN b.length, E) := by
  have h := rec_lay hE hE2 hn hl hS cap 0 0 (by have := need_pos hb; omega) (by omega) (.inl rfl)
  rw [Nat.mul_zero, List.take_zero] at h
  exact h
end

/-! ### All that stands there -/
/-- Records, the epoch of the first one, how many sectors they take, the epoch of the last one. -/
structure Rd where
  l : List (List UInt8)
  begun : Nat
  used : Nat
  least : Nat

def Rd.none : Rd := ⟨[], 0, 0, 1⟩

/-- The record behind those. -/
def nextR (S : Nat → List UInt8) (n : Nat) (r : Rd) : List UInt8 × Nat × Nat := recN (fun i => S (r.used + i)) (r.l.length % 4294967296) r.least (n - r.used)

def moreR (S : Nat → List UInt8) (n : Nat) (r : Rd) : Rd := ⟨r.l ++ [(nextR S n r).1], if r.l.length = 0 then (nextR S n r).2.2 else r.begun, r.used + (nextR S n r).2.1, (nextR S n r).2.2⟩

def openGo (S : Nat → List UInt8) (n : Nat) : Nat → Rd → Rd
  | 0, r => r
  | f + 1, r => if (nextR S n r).2.1 = 0 then r else openGo S n f (moreR S n r)

def openN (S : Nat → List UInt8) (n : Nat) : Rd := openGo S n n Rd.none

theorem next_le (S : Nat → List UInt8) (n : Nat) (r : Rd) : (nextR S n r).2.1 ≤ n - r.used := recN_le _

/-- Enough steps are enough. -/
theorem open_more (S : Nat → List UInt8) (n : Nat) : ∀ f r, n - r.used ≤ f → openGo S n (f + 1) r = openGo S n f r
  | 0, r, h => by
    have := next_le S n r
    show (if (nextR S n r).2.1 = 0 then r else _) = r
    rw [if_pos (by omega)]
  | f + 1, r, h => by
    have := next_le S n r
    show (if (nextR S n r).2.1 = 0 then r else openGo S n (f + 1) (moreR S n r)) = (if (nextR S n r).2.1 = 0 then r else openGo S n f (moreR S n r))
    split
    · rfl
    · exact open_more S n f (moreR S n r) (by show n - (r.used + (nextR S n r).2.1) ≤ f; omega)

theorem open_fuel (S : Nat → List UInt8) (n : Nat) {f g : Nat} {r : Rd} (h : n - r.used ≤ f) : openGo S n (f + g) r = openGo S n f r := by
  induction g with
  | zero => rfl
  | succ g ih => rw [← Nat.add_assoc, open_more S n (f + g) r (by omega), ih]

theorem open_at (S : Nat → List UInt8) (n : Nat) {f g : Nat} {r : Rd} (h : n - r.used ≤ f) (h2 : n - r.used ≤ g) : openGo S n f r = openGo S n g r := by
  rcases Nat.le_total f g with h3 | h3
  · rw [show g = f + (g - f) by omega, open_fuel S n h]
  · rw [show f = g + (f - g) by omega, open_fuel S n h2]

end Go.Proofs.Ytedgookkogpfbaa.Jr
end

section
set_option linter.unusedVariables false
namespace Go.Proofs.Ytedgookkogpfbaa.Jr
open Lf (Leaf layB readB takesB rightB cut cut_len cut_at read_lay takes_lay right_iff torn torn_at be4 val4)
open Dk (DS mix)

/-! ### Sectors of small epochs -/
/-- A sector at the end of which an epoch below that one stands. -/
structure Low (e : Nat) (s : List UInt8) : Prop where
  len : s.length = 64
  b0 : s[0]? = some 0
  b1 : s[1]? = some 0
  b2 : s[2]? = some 0
  end_ : ∃ b, s[63]? = some b ∧ b.toNat < e

theorem Low.mono {e e' : Nat} {s : List UInt8} (h : Low e s) (he : e ≤ e') : Low e' s := by
  obtain ⟨b, h1, h2⟩ := h.end_
  exact ⟨h.len, h.b0, h.b1, h.b2, b, h1, by omega⟩

theorem low_noughts {e : Nat} (he : 1 ≤ e) : Low e Se.noughts := ⟨Se.noughts_len, rfl, rfl, rfl, 0, rfl, he⟩

theorem be4_small {e : Nat} (he : e ≤ 255) : be4 e = [0, 0, 0, UInt8.ofNat e] := by
  unfold be4
  rw [show e / 16777216 % 256 = 0 by omega, show e / 65536 % 256 = 0 by omega, show e / 256 % 256 = 0 by omega, show e % 256 = e by omega]
  rfl

theorem lay_bytes (l : Leaf) (hl : l.data.length ≤ 46) (he : l.epoch ≤ 255) :
    (layB l)[0]? = some 0 ∧ (layB l)[1]? = some 0 ∧ (layB l)[2]? = some 0 ∧ (layB l)[3]? = some (UInt8.ofNat l.epoch) ∧ (layB l)[63]? = some (UInt8.ofNat l.epoch) := by
  have h0 := Lf.lay_epoch l hl
  have h1 := Lf.lay_again l
  rw [be4_small he] at h0 h1
  have a : ∀ k, k < 4 → (layB l)[0 + k]? = [0, 0, 0, UInt8.ofNat l.epoch][k]? := fun k hk => by rw [← h0, cut_at hk]
  have b : (layB l)[60 + 3]? = [0, 0, 0, UInt8.ofNat l.epoch][3]? := by rw [← h1, cut_at (by omega)]
  exact ⟨a 0 (by omega), a 1 (by omega), a 2 (by omega), a 3 (by omega), b⟩

theorem lay_low (l : Leaf) (hl : l.data.length ≤ 46) (he : l.epoch ≤ 255) : Low (l.epoch + 1) (layB l) := by
  obtain ⟨h0, h1, h2, _, h4⟩ := lay_bytes l hl he
  exact ⟨Lf.layB_len l, h0, h1, h2, _, h4, by rw [By.toNat_small (by omega)]; omega⟩

theorem takes_ends {s : List UInt8} (hs : s.length = 64) (h : takesB s = true) : s[63]? = s[3]? := by
  have e := (Lf.takes_told hs h).1
  have a : (cut s 60 4)[3]? = (cut s 0 4)[3]? := by rw [e]
  rwa [cut_at (by omega), cut_at (by omega)] at a

theorem low_epoch {e : Nat} {s : List UInt8} (h : Low e s) (ht : takesB s = true) : (readB s).epoch < e := by
  obtain ⟨b, h1, h2⟩ := h.end_
  have h3 := (takes_ends h.len ht).symm.trans h1
  have hc : cut s 0 4 = [0, 0, 0, b] := by
    refine Lf.cut_of_eq (by rw [h.len]; omega) rfl fun k hk => ?_
    match k, hk with
    | 0, _ => exact h.b0
    | 1, _ => exact h.b1
    | 2, _ => exact h.b2
    | 3, _ => exact h3
  show val4 (cut s 0 4) < e
  rw [hc]
  unfold val4
  simpa using h2

theorem mix_at {x y : List UInt8} (hx : x.length = 64) (n k : Nat) (hn : n ≤ 64) : (mix x y n)[k]? = if k < n then x[k]? else y[k]? := torn_at hx n k hn

/-- A beginning of a newer leaf over what stood there: it is none, or all of one of them. -/
theorem mix_takes {l : Leaf} {s : List UInt8} {n : Nat} (hl : l.data.length ≤ 46) (he : l.epoch ≤ 255) (hs : Low l.epoch s) (hn : n ≤ 64) (ht : takesB (mix (layB l) s n) = true) : mix (layB l) s n = layB l ∨ mix (layB l) s n = s := by
  obtain ⟨h0, h1, h2, h3, h4⟩ := lay_bytes l hl he
  have hx := Lf.layB_len l
  have T := mix_at (y := s) hx n
  have hz : (mix (layB l) s n).length = 64 := Dk.mix_len hx hs.len hn
  rcases Nat.lt_or_ge n 4 with h | h
  · right
    apply List.ext_getElem?
    intro k
    rw [T k hn]
    split
    · match k, (show k < 3 by omega) with
      | 0, _ => rw [h0, hs.b0]
      | 1, _ => rw [h1, hs.b1]
      | 2, _ => rw [h2, hs.b2]
    · rfl
  · rcases Nat.lt_or_ge n 64 with h64 | h64
    · exfalso
      obtain ⟨b, g1, g2⟩ := hs.end_
      have e := takes_ends hz ht
      rw [T _ hn, T _ hn, if_neg (by omega), if_pos (by omega), g1, h3] at e
      injection e with e
      rw [e, By.toNat_small (by omega)] at g2
      omega
    · left
      apply List.ext_getElem?
      intro k
      rw [T k hn]
      split
      · rfl
      · rw [List.getElem?_eq_none (by rw [hs.len]; omega), List.getElem?_eq_none (by omega)]

theorem mix_low {l : Leaf} {s : List UInt8} {n : Nat} (hl : l.data.length ≤ 46) (he : l.epoch ≤ 255) (hs : Low l.epoch s) (hn : n ≤ 64) : Low (l.epoch + 1) (mix (layB l) s n) := by
  obtain ⟨h0, h1, h2, h3, h4⟩ := lay_bytes l hl he
  have hx := Lf.layB_len l
  have T := mix_at (y := s) hx n
  obtain ⟨b, g1, g2⟩ := hs.end_
  refine ⟨Dk.mix_len hx hs.len hn, ?_, ?_, ?_, ?_⟩
  · rw [T _ hn, h0, hs.b0, ite_self]
  · rw [T _ hn, h1, hs.b1, ite_self]
  · rw [T _ hn, h2, hs.b2, ite_self]
  · rw [T _ hn]
    split
    · exact ⟨_, h4, by rw [By.toNat_small (by omega)]; omega⟩
    · exact ⟨b, g1, by omega⟩

/-! ### A record of which not all may have come down -/
theorem rec_cases {S S' : Nat → List UInt8} {m least e cap : Nat} {b : List UInt8} (hb : 1 ≤ b.length) (he : 1 ≤ e) (he2 : e < 2 ^ 32) (hm : m < 2 ^ 32)
    (hS : ∀ i, i < cap → takesB (S' i) = true → (i < needN b.length ∧ S' i = layB (leafN e m b i)) ∨ S' i = S i)
    (hlow : ∀ i, i < cap → takesB (S i) = true → (readB (S i)).epoch < e)
    (hstop : ∀ k E, k < cap → ¬ Run S m least 0 k E) :
    (∀ k E, k < cap → ¬ Run S' m least 0 k E) ∨ (∀ i, i < needN b.length → S' i = layB (leafN e m b i)) := by
  by_cases h : ∃ k E, k < cap ∧ Run S' m least 0 k E
  · obtain ⟨k, E, hk, hr⟩ := h
    have e1 : ∀ j, j < needN b.length → (readB (layB (leafN e m b j))).epoch = e := fun j hj => by rw [leaf_read hj he2 hm]; rfl
    have t0 := hr.each 0 (Nat.le_refl _) hr.le
    rcases hS 0 (by omega) t0.1 with ⟨h0, h1⟩ | h1
    · have hE : E = e := by rw [← t0.2.2.2, h1, e1 0 h0]
      subst hE
      have all : ∀ j, j ≤ k → j < needN b.length ∧ S' j = layB (leafN E m b j) := fun j hj => by
        have t := hr.each j (by omega) hj
        rcases hS j (by omega) t.1 with h2 | h2
        · exact h2
        · have := hlow j (by omega) (by rw [← h2]; exact t.1)
          rw [← h2, t.2.2.2] at this
          omega
      right
      intro i hi
      obtain ⟨k1, k2⟩ := all k (Nat.le_refl _)
      have hl := hr.last
      rw [k2, leaf_read k1 he2 hm] at hl
      have hl2 : k + 1 = needN b.length := of_decide_eq_true hl
      exact (all i (by omega)).2
    · exfalso
      have hE : E < e := by
        have := hlow 0 (by omega) (by rw [← h1]; exact t0.1)
        rw [← h1, t0.2.2.2] at this
        exact this
      have all : ∀ j, j ≤ k → S' j = S j := fun j hj => by
        have t := hr.each j (by omega) hj
        rcases hS j (by omega) t.1 with ⟨h2, h3⟩ | h2
        · have : E = e := by rw [← t.2.2.2, h3, e1 j h2]
          omega
        · exact h2
      refine hstop k E hk ⟨hr.le, fun j h1 h2 => ?_, hr.least, fun j h1 h2 => ?_, ?_⟩
      · rw [← all j h2]; exact hr.each j h1 h2
      · rw [← all j (by omega)]; exact hr.on j h1 h2
      · rw [← all k (Nat.le_refl _)]; exact hr.last
  · left
    intro k E hk hr
    exact h ⟨k, E, hk, hr⟩

/-! ### Records, one behind the other -/
abbrev Recs := List (List UInt8 × Nat)

def total : Recs → Nat
  | [] => 0
  | r :: t => needN r.1.length + total t

def lastE (least : Nat) : Recs → Nat
  | [] => least
  | r :: t => lastE r.2 t

def Stand (S : Nat → List UInt8) : Nat → Nat → Recs → Prop
  | _, _, [] => True
  | at_, m, r :: t => (∀ i, i < needN r.1.length → S (at_ + i) = layB (leafN r.2 m r.1 i)) ∧ Stand S (at_ + needN r.1.length) (m + 1) t

def Rise (top : Nat) : Nat → Recs → Prop
  | _, [] => True
  | least, r :: t => 1 ≤ r.1.length ∧ 1 ≤ r.2 ∧ least ≤ r.2 ∧ r.2 ≤ top ∧ Rise top r.2 t

def begunOf (l : List (List UInt8)) (begun : Nat) (recs : Recs) : Nat := if l.length = 0 then (match recs with | [] => begun | r :: _ => r.2) else begun

theorem total_more (b : List UInt8) (e : Nat) : ∀ recs : Recs, total (recs ++ [(b, e)]) = total recs + needN b.length
  | [] => by show needN b.length + 0 = 0 + _; omega
  | r :: t => by
    show needN r.1.length + total (t ++ [(b, e)]) = needN r.1.length + total t + _
    rw [total_more b e t]
    omega

theorem lastE_more (b : List UInt8) (e : Nat) : ∀ (recs : Recs) (least : Nat), lastE least (recs ++ [(b, e)]) = e
  | [], _ => rfl
  | r :: t, _ => lastE_more b e t r.2

theorem lastE_le {top : Nat} : ∀ (recs : Recs) (least : Nat), Rise top least recs → least ≤ lastE least recs ∧ (least ≤ top → lastE least recs ≤ top)
  | [], _, _ => ⟨Nat.le_refl _, id⟩
  | r :: t, least, h => by
    obtain ⟨_, _, h3, h4, h5⟩ := h
    obtain ⟨g1, g2⟩ := lastE_le t r.2 h5
    exact ⟨Nat.le_trans h3 g1, fun _ => g2 h4⟩

theorem rise_more {top e : Nat} {b : List UInt8} (hb : 1 ≤ b.length) (he : 1 ≤ e) (het : e ≤ top) : ∀ (recs : Recs) (least : Nat), Rise top least recs → lastE least recs ≤ e → Rise top least (recs ++ [(b, e)])
  | [], _, _, hl => ⟨hb, he, hl, het, trivial⟩
  | r :: t, _, h, hl => ⟨h.1, h.2.1, h.2.2.1, h.2.2.2.1, rise_more hb he het t r.2 h.2.2.2.2 hl⟩

theorem rise_top {top top' : Nat} (ht : top ≤ top') : ∀ (recs : Recs) (least : Nat), Rise top least recs → Rise top' least recs
  | [], _, _ => trivial
  | r :: t, _, h => ⟨h.1, h.2.1, h.2.2.1, by have := h.2.2.2.1; omega, rise_top ht t r.2 h.2.2.2.2⟩

theorem rise_len {top : Nat} : ∀ (recs : Recs) (least : Nat), Rise top least recs → recs.length ≤ total recs
  | [], _, _ => Nat.le_refl _
  | r :: t, _, h => by
    have h1 := need_pos h.1
    have h2 := rise_len t r.2 h.2.2.2.2
    show t.length + 1 ≤ needN r.1.length + total t
    omega

theorem stand_more {S : Nat → List UInt8} {b : List UInt8} {e : Nat} : ∀ (recs : Recs) (at_ m : Nat), Stand S at_ m recs → (∀ i, i < needN b.length → S (at_ + total recs + i) = layB (leafN e (m + recs.length) b i)) → Stand S at_ m (recs ++ [(b, e)])
  | [], at_, m, _, h => ⟨h, trivial⟩
  | r :: t, at_, m, hs, h => ⟨hs.1, stand_more t _ _ hs.2 fun i hi => by
      have := h i hi
      rw [show at_ + needN r.1.length + total t + i = at_ + total (r :: t) + i by show _ = at_ + (needN r.1.length + total t) + i; omega, this]
      congr 2
      show m + (t.length + 1) = m + 1 + t.length
      omega⟩

theorem stand_same {S S' : Nat → List UInt8} : ∀ (recs : Recs) (at_ m : Nat), Stand S at_ m recs → (∀ i, at_ ≤ i → i < at_ + total recs → S' i = S i) → Stand S' at_ m recs
  | [], _, _, _, _ => trivial
  | r :: t, at_, m, hs, h => ⟨fun i hi => by rw [h (at_ + i) (by omega) (by show _ < at_ + (needN r.1.length + total t); omega)]; exact hs.1 i hi, stand_same t _ _ hs.2 fun i h1 h2 => h i (by omega) (by show _ < at_ + (needN r.1.length + total t); omega)⟩

/-- What stands there is read, and no more. -/
theorem open_stand {S : Nat → List UInt8} {n top : Nat} (ht : top < 2 ^ 32) : ∀ (recs : Recs) (r : Rd) (f : Nat), n - r.used ≤ f → Stand S r.used r.l.length recs → Rise top r.least recs → r.used + total recs ≤ n → r.l.length + recs.length < 2 ^ 32 →
    (∀ k E, k < n - (r.used + total recs) → ¬ Run (fun i => S (r.used + total recs + i)) (r.l.length + recs.length) (lastE r.least recs) 0 k E) →
    openGo S n f r = ⟨r.l ++ recs.map (·.1), begunOf r.l r.begun recs, r.used + total recs, lastE r.least recs⟩
  | [], r, f, hf, _, _, _, hlen, hstop => by
    have e0 : (nextR S n r).2.1 = 0 := by
      unfold nextR
      rw [Nat.mod_eq_of_lt (by have := hlen; simp at this; omega)]
      exact recN_none hstop
    have e1 : openGo S n f r = r := by
      cases f with
      | zero => rfl
      | succ f => show (if (nextR S n r).2.1 = 0 then r else _) = r; rw [if_pos e0]
    rw [e1]
    cases r
    simp [begunOf, total, lastE]
  | (b, e) :: t, r, f, hf, hs, hr, hfit, hlen, hstop => by
    obtain ⟨h1, h2, h3, h4, h5⟩ := hr
    have hp : 1 ≤ needN b.length := need_pos h1
    have h2' : 1 ≤ e := h2
    have h3' : r.least ≤ e := h3
    have h4' : e ≤ top := h4
    have hfit' : r.used + (needN b.length + total t) ≤ n := hfit
    have hlen' : r.l.length + (t.length + 1) < 2 ^ 32 := hlen
    have hn : nextR S n r = (b, needN b.length, e) := by
      unfold nextR
      rw [Nat.mod_eq_of_lt (by omega)]
      exact recN_lay h1 h2 (by omega) (by omega) h3 (by omega) hs.1
    obtain ⟨f, rfl⟩ : ∃ g, f = g + 1 := ⟨f - 1, by omega⟩
    show (if (nextR S n r).2.1 = 0 then r else openGo S n f (moreR S n r)) = _
    rw [if_neg (by rw [hn]; show needN b.length ≠ 0; omega)]
    have hm : moreR S n r = ⟨r.l ++ [b], if r.l.length = 0 then e else r.begun, r.used + needN b.length, e⟩ := by unfold moreR; rw [hn]
    have hl1 : (r.l ++ [b]).length = r.l.length + 1 := by simp
    have ih := open_stand (S := S) (n := n) ht t (moreR S n r) f (by rw [hm]; show n - (r.used + needN b.length) ≤ f; omega) (by rw [hm]; show Stand S (r.used + needN b.length) (r.l ++ [b]).length t; rw [hl1]; exact hs.2) (by rw [hm]; exact h5)
      (by rw [hm]; show r.used + needN b.length + total t ≤ n; omega) (by rw [hm]; show (r.l ++ [b]).length + t.length < 2 ^ 32; omega)
      (by
        rw [hm]
        show ∀ k E, k < n - (r.used + needN b.length + total t) → ¬ Run (fun i => S (r.used + needN b.length + total t + i)) ((r.l ++ [b]).length + t.length) (lastE e t) 0 k E
        rw [hl1, show r.l.length + 1 + t.length = r.l.length + (t.length + 1) by omega, Nat.add_assoc r.used]
        exact hstop)
    rw [ih, hm]
    have e1 : begunOf (r.l ++ [b]) (if r.l.length = 0 then e else r.begun) t = begunOf r.l r.begun ((b, e) :: t) := by
      unfold begunOf
      rw [if_neg (by omega)]
    show Rd.mk ((r.l ++ [b]) ++ t.map (·.1)) _ (r.used + needN b.length + total t) (lastE e t) = Rd.mk (r.l ++ (b :: t.map (·.1))) _ (r.used + (needN b.length + total t)) (lastE e t)
    rw [e1, List.append_assoc, Nat.add_assoc]
    rfl

end Go.Proofs.Ytedgookkogpfbaa.Jr
end

section
set_option linter.unusedVariables false
namespace Go.Proofs.Ytedgookkogpfbaa.Jr
open Lf (Leaf layB readB takesB rightB cut cut_len cut_at read_lay takes_lay right_iff)
open Dk (DS mix mixS crashN crashD startD writeE writeD readE syncE syncD hitB tick keeps)

/-- The sectors from a place on. -/
def secs (d : DS) (o i : Nat) : List UInt8 := d.now.getD (o + i) []

/-! ### What an Add does to the disk -/
def writesD (d : DS) (at_ : Nat) (f : Nat → List UInt8) : Nat → Nat → DS × Bool
  | 0, _ => (d, true)
  | k + 1, i => if writeE d ((at_ + i : Nat) : Int) = 0 then writesD (writeD d ((at_ + i : Nat) : Int) (f i)) at_ f k (i + 1) else (writeD d ((at_ + i : Nat) : Int) (f i), false)

def addD (d : DS) (at_ : Nat) (f : Nat → List UInt8) (k : Nat) : DS × Bool :=
  if (writesD d at_ f k 0).2 then (syncD (writesD d at_ f k 0).1, decide (syncE (writesD d at_ f k 0).1 = 0)) else ((writesD d at_ f k 0).1, false)

/-- So many of the sectors have been written, and none is sure. -/
structure Under (d0 d : DS) (at_ : Nat) (f : Nat → List UInt8) (w : Nat) : Prop where
  ok : d.Ok
  n : d.n = d0.n
  now : ∀ i, d.now[i]? = if at_ ≤ i ∧ i < at_ + w then some (f (i - at_)) else d0.now[i]?
  sure : d.sure = d0.sure
  loose : ∀ i, d.loose.getD i false = decide (at_ ≤ i ∧ i < at_ + w)

theorem under_zero {d : DS} {at_ : Nat} {f : Nat → List UInt8} (h : d.Ok) (hd : ∀ i, d.loose.getD i false = false) : Under d d at_ f 0 :=
  ⟨h, rfl, fun i => by rw [if_neg (by omega)], rfl, fun i => by rw [hd i]; symm; exact decide_eq_false (by omega)⟩

theorem writeD_ok {d : DS} {i : Nat} {b : List UInt8} (ho : d.off = false) (hi : i < d.n) : writeD d (i : Int) b = tick { d with now := d.now.set i b, loose := d.loose.set i true } := by
  unfold writeD
  rw [Dk.readE_ok ho (by omega) (by omega), if_neg (fun h => h rfl), Int.toNat_natCast]

theorem under_step {d0 d : DS} {at_ w : Nat} {f : Nat → List UInt8} (h : Under d0 d at_ f w) (ho : d.off = false) (hi : at_ + w < d.n) (hf : (f w).length = 64) : Under d0 (writeD d ((at_ + w : Nat) : Int) (f w)) at_ f (w + 1) := by
  rw [writeD_ok ho hi]
  have hn : d.now.length = d.n := rfl
  have hl := h.ok.lens
  refine ⟨⟨h.ok.now.set hf _, h.ok.sure, ?_, ?_⟩, ?_, fun i => ?_, h.sure, fun i => ?_⟩
  · show d.sure.length = (d.now.set (at_ + w) (f w)).length
    rw [List.length_set]; exact h.ok.len
  · show (d.loose.set (at_ + w) true).length = (d.now.set (at_ + w) (f w)).length
    rw [List.length_set, List.length_set]; exact h.ok.lens
  · show (d.now.set (at_ + w) (f w)).length = d0.n
    rw [List.length_set]; exact h.n
  · show (d.now.set (at_ + w) (f w))[i]? = _
    by_cases hi2 : i = at_ + w
    · subst hi2
      rw [List.getElem?_set_self (by omega), if_pos (by omega), Nat.add_sub_cancel_left]
    · rw [List.getElem?_set_ne (by omega), h.now i]
      by_cases hc : at_ ≤ i ∧ i < at_ + w
      · rw [if_pos hc, if_pos (by omega)]
      · rw [if_neg hc, if_neg (by omega)]
  · show (d.loose.set (at_ + w) true).getD i false = _
    by_cases hi2 : i = at_ + w
    · subst hi2
      rw [List.getD, List.getElem?_set_self (by omega)]
      symm
      exact decide_eq_true (by omega)
    · have := h.loose i
      rw [List.getD] at this ⊢
      rw [List.getElem?_set_ne (by omega), this]
      congr 1
      apply propext
      constructor <;> intro hc <;> omega

theorem writes_under {d0 : DS} {at_ : Nat} {f : Nat → List UInt8} : ∀ (k i : Nat) (d : DS), Under d0 d at_ f i → d.off = false → at_ + i + k ≤ d0.n → (∀ j, j < i + k → (f j).length = 64) →
    ((writesD d at_ f k i).2 = true → Under d0 (writesD d at_ f k i).1 at_ f (i + k) ∧ (writesD d at_ f k i).1.off = false) ∧
    ((writesD d at_ f k i).2 = false → ∃ w, w ≤ i + k ∧ Under d0 (writesD d at_ f k i).1 at_ f w ∧ (writesD d at_ f k i).1.off = true)
  | 0, i, d, h, ho, _, _ => ⟨fun _ => ⟨h, ho⟩, fun e => by cases e⟩
  | k + 1, i, d, h, ho, hr, hf => by
    have hi : at_ + i < d.n := by rw [h.n]; omega
    have h1 := under_step h ho hi (hf i (by omega))
    have hr0 : readE d ((at_ + i : Nat) : Int) = 0 := Dk.readE_ok ho (by omega) (by omega)
    have hw : writeE d ((at_ + i : Nat) : Int) = if hitB d then 9 else 0 := by unfold writeE; rw [hr0, if_neg (fun h => h rfl)]
    unfold writesD
    cases hh : hitB d with
    | true =>
      rw [hw, hh, if_neg (by decide)]
      refine ⟨fun e => (by cases e), fun _ => ⟨i + 1, by omega, h1, ?_⟩⟩
      rw [writeD_ok ho hi]
      show (d.off || d.armed == 1) = true
      have : (d.armed == 1) = true := hh
      rw [this, Bool.or_true]
    | false =>
      rw [hw, hh, if_pos (by decide)]
      have ho1 : (writeD d ((at_ + i : Nat) : Int) (f i)).off = false := by
        rw [writeD_ok ho hi]
        show (d.off || d.armed == 1) = false
        have : (d.armed == 1) = false := hh
        rw [this, ho]
        rfl
      have ih := writes_under k (i + 1) _ h1 ho1 (by omega) (fun j hj => hf j (by omega))
      rw [show i + 1 + k = i + (k + 1) by omega] at ih
      exact ih

/-- What an Add leaves: all is sure; or power is off, and some sectors are loose. -/
theorem add_under {d : DS} {at_ k : Nat} {f : Nat → List UInt8} (h : d.Ok) (hd : ∀ i, d.loose.getD i false = false) (ho : d.off = false) (hr : at_ + k ≤ d.n) (hf : ∀ j, j < k → (f j).length = 64) :
    ((addD d at_ f k).2 = true → ∃ d1, Under d d1 at_ f k ∧ (addD d at_ f k).1.now = d1.now ∧ (addD d at_ f k).1.sure = d1.now ∧ (addD d at_ f k).1.loose = List.replicate d1.n false ∧ (addD d at_ f k).1.off = false) ∧
    ((addD d at_ f k).2 = false → ∃ w, w ≤ k ∧ Under d (addD d at_ f k).1 at_ f w ∧ (addD d at_ f k).1.off = true) := by
  obtain ⟨h1, h2⟩ := writes_under (d0 := d) (at_ := at_) (f := f) k 0 d (under_zero h hd) ho (by omega) (fun j hj => hf j (by omega))
  rw [Nat.zero_add] at h1 h2
  unfold addD
  cases hw : (writesD d at_ f k 0).2 with
  | false =>
    rw [if_neg (by simp)]
    exact ⟨fun e => (by cases e), fun _ => h2 hw⟩
  | true =>
    rw [if_pos rfl]
    obtain ⟨u, uo⟩ := h1 hw
    generalize (writesD d at_ f k 0).1 = d1 at u uo ⊢
    cases hh : hitB d1 with
    | true =>
      have e1 : syncE d1 = 9 := by unfold syncE; rw [hh, Bool.or_true, if_pos rfl]
      have e2 : syncD d1 = tick d1 := by unfold syncD; rw [uo, hh, if_neg (by simp), if_pos rfl]
      rw [e1, e2]
      refine ⟨fun e => (by cases e), fun _ => ⟨k, Nat.le_refl _, ⟨Dk.tick_ok u.ok, u.n, u.now, u.sure, u.loose⟩, ?_⟩⟩
      show (d1.off || d1.armed == 1) = true
      have : (d1.armed == 1) = true := hh
      rw [this, Bool.or_true]
    | false =>
      have e1 : syncE d1 = 0 := by unfold syncE; rw [hh, uo]; rfl
      have e2 : syncD d1 = { tick d1 with sure := d1.now, loose := List.replicate d1.n false } := by unfold syncD; rw [uo, hh, if_neg (by simp), if_neg (by simp)]
      rw [e1, e2]
      refine ⟨fun _ => ⟨d1, u, rfl, rfl, rfl, ?_⟩, fun e => by cases e⟩
      show (d1.off || d1.armed == 1) = false
      have : (d1.armed == 1) = false := hh
      rw [this, uo]
      rfl

/-! ### What a crash leaves -/
theorem crash_told {d : DS} (h : d.Ok) (kn : Nat) (kf : Nat → Int) (j : Nat) :
    (crashD d kn kf).now[j]? = (if d.loose.getD j false then some (mixS d kn kf j) else d.now[j]?) ∧ (crashD d kn kf).sure[j]? = (if d.loose.getD j false then some (mixS d kn kf j) else d.sure[j]?) ∧ (crashD d kn kf).loose.getD j false = false := by
  have hn : d.now.length = d.n := rfl
  have h1 := h.len
  have h2 := h.lens
  rcases Nat.lt_or_ge j d.n with hj | hj
  · obtain ⟨e1, e2, e3⟩ := Dk.crashN_told (d := d) kn kf d.n j hj (Nat.le_refl _) h2 h1
    refine ⟨e1, e2, ?_⟩
    show (crashN d kn kf d.n).loose.getD j false = false
    rw [List.getD, e3]
    rfl
  · obtain ⟨e1, e2, e3⟩ := Dk.crashN_at (d := d) kn kf d.n j hj
    have hl : d.loose.getD j false = false := by rw [List.getD, List.getElem?_eq_none (by omega)]; rfl
    rw [hl, if_neg (by simp), if_neg (by simp)]
    refine ⟨e1, e2, ?_⟩
    show (crashN d kn kf d.n).loose.getD j false = false
    rw [List.getD, e3, ← List.getD]
    exact hl

theorem crash_n (d : DS) (kn : Nat) (kf : Nat → Int) : (crashD d kn kf).n = d.n := Dk.crashN_n kn kf d.n

/-- A crash, and power is on again. -/
theorem again_told {d : DS} (h : d.Ok) (kn : Nat) (kf : Nat → Int) :
    (startD (crashD d kn kf)).Ok ∧ (startD (crashD d kn kf)).now = (crashD d kn kf).now ∧ (startD (crashD d kn kf)).sure = (crashD d kn kf).sure ∧ (∀ i, (startD (crashD d kn kf)).loose.getD i false = false) ∧ (startD (crashD d kn kf)).off = false ∧ (startD (crashD d kn kf)).n = d.n := by
  have hc := Dk.crashD_ok (d := d) kn kf h
  have e : startD (crashD d kn kf) = { crashD (crashD d kn kf) 0 (fun _ => 0) with off := false } := rfl
  have T := crash_told hc 0 (fun _ => 0)
  have L := fun j => (crash_told h kn kf j).2.2
  rw [e]
  have k1 : (crashD (crashD d kn kf) 0 (fun _ => 0)).now = (crashD d kn kf).now := List.ext_getElem? fun j => by rw [(T j).1, L j]; rfl
  have k2 : (crashD (crashD d kn kf) 0 (fun _ => 0)).sure = (crashD d kn kf).sure := List.ext_getElem? fun j => by rw [(T j).2.1, L j]; rfl
  have hcc := Dk.crashD_ok (d := crashD d kn kf) 0 (fun _ => 0) hc
  exact ⟨⟨hcc.now, hcc.sure, hcc.len, hcc.lens⟩, k1, k2, fun i => (T i).2.2, rfl, (crash_n _ _ _).trans (crash_n _ _ _)⟩

/-! ### A sound journal -/
structure Sound (d : DS) (o n : Nat) (recs : Recs) (e : Nat) : Prop where
  ok : d.Ok
  dry : ∀ i, d.loose.getD i false = false
  eq : d.sure = d.now
  room : o + n ≤ d.n
  stand : Stand (secs d o) 0 0 recs
  fits : total recs ≤ n
  rise : Rise e 1 recs
  low : ∀ i, total recs ≤ i → i < n → Low e (secs d o i)
  num : ∀ i, total recs ≤ i → i < n → takesB (secs d o i) = true → (readB (secs d o i)).number ≤ recs.length
  stop : ∀ k E, k < n - total recs → ¬ Run (fun i => secs d o (total recs + i)) recs.length (lastE 1 recs) 0 k E

/-- What a journal of small epochs opens. -/
theorem Sound.open_ {d : DS} {o n : Nat} {recs : Recs} {e : Nat} (h : Sound d o n recs e) (he : e < 2 ^ 32) (hn : n < 2 ^ 32) : openN (secs d o) n = ⟨recs.map (·.1), begunOf [] 0 recs, total recs, lastE 1 recs⟩ := by
  have hl := rise_len recs 1 h.rise
  have hf := h.fits
  have := open_stand (S := secs d o) (n := n) (top := e) he recs Rd.none n (by show n - 0 ≤ n; omega) h.stand h.rise (by show 0 + total recs ≤ n; omega) (by show 0 + recs.length < 2 ^ 32; omega)
    (by
      show ∀ k E, k < n - (0 + total recs) → ¬ Run (fun i => secs d o (0 + total recs + i)) (0 + recs.length) (lastE 1 recs) 0 k E
      rw [Nat.zero_add, Nat.zero_add]
      exact h.stop)
  unfold openN
  rw [this]
  show Rd.mk ([] ++ recs.map (·.1)) _ (0 + total recs) _ = _
  rw [List.nil_append, Nat.zero_add]
  rfl

/-- What is there of the sectors behind the records, of an Add of which so many sectors were written. -/
theorem sound_of {d d' : DS} {o n w e : Nat} {recs : Recs} {b : List UInt8} (h : Sound d o n recs e) (hb : 1 ≤ b.length) (he : 1 ≤ e) (he2 : e ≤ 254) (hm : recs.length < 2 ^ 32) (hroom : needN b.length ≤ n - total recs) (hw : w ≤ needN b.length)
    (ok : d'.Ok) (dry : ∀ i, d'.loose.getD i false = false) (eq : d'.sure = d'.now) (hn : d'.n = d.n) (kf : Nat → Nat) (hk : ∀ i, kf i ≤ 64)
    (told : ∀ i, secs d' o i = if total recs ≤ i ∧ i < total recs + w then mix (layB (leafN e recs.length b (i - total recs))) (secs d o i) (kf i) else secs d o i) :
    ∃ recs', (recs' = recs ∨ recs' = recs ++ [(b, e)]) ∧ ((∀ i, i < needN b.length → secs d' o (total recs + i) = layB (leafN e recs.length b i)) → recs' = recs ++ [(b, e)]) ∧ Sound d' o n recs' (e + 1) := by
  have hfit := h.fits
  have hL := fun i (hi : i < needN b.length) => leaf_len (e := e) (m := recs.length) hi
  have hlow : ∀ i, total recs ≤ i → i < n → Low (e + 1) (secs d' o i) := fun i h1 h2 => by
    rw [told i]
    split
    · rename_i hc
      exact mix_low (l := leafN e recs.length b (i - total recs)) (by rw [hL _ (by omega)]; omega) (by show e ≤ 255; omega) (h.low i h1 h2) (hk i)
    · exact (h.low i h1 h2).mono (by omega)
  have hcase : ∀ i, total recs ≤ i → i < n → takesB (secs d' o i) = true → (i - total recs < needN b.length ∧ secs d' o i = layB (leafN e recs.length b (i - total recs))) ∨ secs d' o i = secs d o i := fun i h1 h2 ht => by
    rw [told i] at ht ⊢
    split at ht
    · rename_i hc
      rw [if_pos hc]
      rcases mix_takes (l := leafN e recs.length b (i - total recs)) (by rw [hL _ (by omega)]; omega) (by show e ≤ 255; omega) (h.low i h1 h2) (hk i) ht with h3 | h3
      · exact .inl ⟨by omega, h3⟩
      · exact .inr h3
    · rename_i hc
      rw [if_neg hc]
      exact .inr rfl
  have hnum : ∀ i, total recs ≤ i → i < n → takesB (secs d' o i) = true → (readB (secs d' o i)).number ≤ recs.length := fun i h1 h2 ht => by
    rcases hcase i h1 h2 ht with ⟨h3, h4⟩ | h3
    · rw [h4, leaf_read h3 (by omega) hm]
      exact Nat.le_refl _
    · rw [h3]
      exact h.num i h1 h2 (by rw [← h3]; exact ht)
  have hst : Stand (secs d' o) 0 0 recs := stand_same recs 0 0 h.stand fun i h1 h2 => by rw [told i, if_neg (by omega)]
  have hle := (lastE_le recs 1 h.rise).2 he
  rcases rec_cases (S := fun i => secs d o (total recs + i)) (S' := fun i => secs d' o (total recs + i)) (m := recs.length) (least := lastE 1 recs) (e := e) (cap := n - total recs) (b := b) hb he (by omega) hm
    (fun i hi ht => by
      have := hcase (total recs + i) (by omega) (by omega) ht
      rwa [Nat.add_sub_cancel_left] at this)
    (fun i hi ht => low_epoch (h.low _ (by omega) (by omega)) ht) h.stop with hs | hs
  · by_cases hall : ∀ i, i < needN b.length → secs d' o (total recs + i) = layB (leafN e recs.length b i)
    · exact absurd (show Run (fun i => secs d' o (total recs + i)) recs.length (lastE 1 recs) 0 (needN b.length - 1) e from by
        have hp := need_pos hb
        have R : ∀ j, j ≤ needN b.length - 1 → readB (secs d' o (total recs + j)) = leafN e recs.length b j := fun j hj => by rw [hall j (by omega)]; exact leaf_read (by omega) (by omega) hm
        refine ⟨by omega, fun j _ hj => ?_, hle, fun j _ hj => ?_, ?_⟩
        · refine ⟨?_, ?_, ?_, ?_⟩
          · show takesB (secs d' o (total recs + j)) = true
            rw [hall j (by omega)]; exact leaf_takes (by omega) he (by omega) hm
          · show (readB (secs d' o (total recs + j))).number = _
            rw [R j hj]; rfl
          · show (readB (secs d' o (total recs + j))).first = _
            rw [R j hj]; rfl
          · show (readB (secs d' o (total recs + j))).epoch = _
            rw [R j hj]; rfl
        · show (readB (secs d' o (total recs + j))).last = false
          rw [R j (by omega)]; exact decide_eq_false (by omega)
        · show (readB (secs d' o (total recs + (needN b.length - 1)))).last = true
          rw [R _ (Nat.le_refl _)]; exact decide_eq_true (by omega)) (hs (needN b.length - 1) e (by have := need_pos hb; omega))
    · exact ⟨recs, .inl rfl, fun h => absurd h hall, ok, dry, eq, by rw [hn]; exact h.room, hst, hfit, rise_top (by omega) recs 1 h.rise, hlow, hnum, hs⟩
  · have ht : total (recs ++ [(b, e)]) = total recs + needN b.length := total_more b e recs
    have hlen : (recs ++ [(b, e)]).length = recs.length + 1 := by simp
    refine ⟨recs ++ [(b, e)], .inr rfl, fun _ => rfl, ok, dry, eq, by rw [hn]; exact h.room, stand_more recs 0 0 hst fun i hi => ?_, by rw [ht]; omega, rise_more hb he (by omega) recs 1 (rise_top (by omega) recs 1 h.rise) hle, fun i h1 h2 => hlow i (by omega) h2, fun i h1 h2 h3 => ?_, ?_⟩
    · rw [Nat.zero_add, Nat.zero_add]
      exact hs i hi
    · rw [hlen]
      have := hnum i (by omega) h2 h3
      omega
    · rw [ht, hlen]
      intro k E hk hr
      have t := hr.each 0 (Nat.le_refl _) hr.le
      have hnn := hnum (total recs + needN b.length + 0) (by omega) (by omega) t.1
      have := t.2.1
      have h9 : (readB (secs d' o (total recs + needN b.length + 0))).number = recs.length + 1 := this
      omega

/-- Behind a crash in the midst of an Add. -/
theorem crash_sound {d d1 : DS} {o n w e : Nat} {recs : Recs} {b : List UInt8} (h : Sound d o n recs e) (hb : 1 ≤ b.length) (he : 1 ≤ e) (he2 : e ≤ 254) (hm : recs.length < 2 ^ 32) (hroom : needN b.length ≤ n - total recs) (hw : w ≤ needN b.length)
    (hu : Under d d1 (o + total recs) (fun i => layB (leafN e recs.length b i)) w) (kn : Nat) (kf : Nat → Int) :
    ∃ recs', (recs' = recs ∨ recs' = recs ++ [(b, e)]) ∧ Sound (startD (crashD d1 kn kf)) o n recs' (e + 1) := by
  obtain ⟨a1, a2, a3, a4, a5, a6⟩ := again_told hu.ok kn kf
  have T := crash_told hu.ok kn kf
  have heq : (startD (crashD d1 kn kf)).sure = (startD (crashD d1 kn kf)).now := by
    rw [a2, a3]
    refine List.ext_getElem? fun j => ?_
    rw [(T j).1, (T j).2.1, hu.loose j, hu.now j, hu.sure, h.eq]
    by_cases hc : o + total recs ≤ j ∧ j < o + total recs + w
    · rw [decide_eq_true hc]; rfl
    · rw [decide_eq_false hc, if_neg hc]
  obtain ⟨recs', r1, _, r3⟩ := sound_of (d' := startD (crashD d1 kn kf)) h hb he he2 hm hroom hw a1 a4 heq (a6.trans hu.n) (fun i => keeps kn kf (Dk.rank d1.loose (o + i))) (fun i => Dk.keeps_le _ _ _) fun i => by
    show (startD (crashD d1 kn kf)).now.getD (o + i) [] = _
    rw [a2, List.getD, (T _).1, hu.loose, hu.now]
    by_cases hc : total recs ≤ i ∧ i < total recs + w
    · rw [decide_eq_true (by omega), if_pos rfl, if_pos hc]
      show mix (d1.now.getD (o + i) []) (d1.sure.getD (o + i) []) _ = _
      rw [List.getD, hu.now, if_pos (by omega), hu.sure, h.eq]
      show mix (layB (leafN e recs.length b (o + i - (o + total recs)))) _ _ = _
      rw [show o + i - (o + total recs) = i - total recs by omega]
      rfl
    · rw [decide_eq_false (by omega), if_neg (by simp), if_neg (by omega), if_neg hc]
      rfl
  exact ⟨recs', r1, r3⟩

/-- Behind a crash where nothing was under way. -/
theorem crash_still {d : DS} {o n e : Nat} {recs : Recs} (h : Sound d o n recs e) (kn : Nat) (kf : Nat → Int) : Sound (startD (crashD d kn kf)) o n recs (e + 1) := by
  obtain ⟨a1, a2, a3, a4, a5, a6⟩ := again_told h.ok kn kf
  have T := crash_told h.ok kn kf
  have k1 : (startD (crashD d kn kf)).now = d.now := by
    rw [a2]
    exact List.ext_getElem? fun j => by rw [(T j).1, h.dry j]; rfl
  have k2 : (startD (crashD d kn kf)).sure = d.sure := by
    rw [a3]
    exact List.ext_getElem? fun j => by rw [(T j).2.1, h.dry j]; rfl
  have ks : secs (startD (crashD d kn kf)) o = secs d o := funext fun i => by unfold secs; rw [k1]
  exact ⟨a1, a4, by rw [k1, k2, h.eq], by rw [a6]; exact h.room, by rw [ks]; exact h.stand, h.fits, rise_top (by omega) recs 1 h.rise, fun i h1 h2 => by rw [ks]; exact (h.low i h1 h2).mono (by omega), by rw [ks]; exact h.num, by rw [ks]; exact h.stop⟩

end Go.Proofs.Ytedgookkogpfbaa.Jr
end

section
set_option linter.unusedVariables false
namespace Go.Proofs.Ytedgookkogpfbaa.Jr
open Lf (Leaf layB readB takesB rightB cut cut_len cut_at read_lay takes_lay right_iff)
open Dk (DS mix mixS crashN crashD startD writeE writeD readE syncE syncD hitB tick keeps armD dsNew)

/-- A journal: the place and the number of its sectors, its epoch, its records, the first one's epoch, how many sectors they take, whether an Add told that power is off. -/
structure JS where
  o : Nat
  n : Nat
  epoch : Nat
  l : List (List UInt8)
  begun : Nat
  used : Nat
  dead : Bool

def blankJ (o n epoch : Nat) : JS := ⟨o, n, epoch, [], 0, 0, false⟩

def openJ (d : DS) (o n epoch : Nat) : JS := ⟨o, n, epoch, (openN (secs d o) n).l, (openN (secs d o) n).begun, (openN (secs d o) n).used, false⟩

/-- May it be opened? -/
def newE (d : DS) (o n : Int) (epoch : Nat) : Int := if o < 0 ∨ n < 1 ∨ (d.n : Int) < o ∨ (d.n : Int) - o < n ∨ epoch = 0 then 2 else if d.off then 9 else 0

def sectJ (j : JS) (b : List UInt8) (i : Nat) : List UInt8 := layB (leafN j.epoch (j.l.length % 4294967296) b i)

def doneJ (d : DS) (j : JS) (b : List UInt8) : DS × Bool := addD d (j.o + j.used) (sectJ j b) (needN b.length)

/-- Why nothing is written, if so. -/
def stopE (d : DS) (j : JS) (b : List UInt8) : Int := if j.dead || d.off then 9 else if b.length < 1 ∨ 400000 < b.length then 2 else if j.n - j.used < needN b.length then 6 else 0

def addE (d : DS) (j : JS) (b : List UInt8) : Int := if stopE d j b ≠ 0 then stopE d j b else if (doneJ d j b).2 then 0 else 9

def addDS (d : DS) (j : JS) (b : List UInt8) : DS := if stopE d j b ≠ 0 then d else (doneJ d j b).1

def addJ (d : DS) (j : JS) (b : List UInt8) : JS :=
  if addE d j b = 9 then { j with dead := true } else if addE d j b ≠ 0 then j else { j with l := j.l ++ [b], begun := if j.l.length = 0 then j.epoch else j.begun, used := j.used + needN b.length }

/-! ### It stays sound -/
theorem Sound.armed {d : DS} {o n e : Nat} {recs : Recs} (h : Sound d o n recs e) (k : Int) : Sound (armD d k) o n recs e :=
  ⟨⟨h.ok.now, h.ok.sure, h.ok.len, h.ok.lens⟩, h.dry, h.eq, h.room, h.stand, h.fits, h.rise, h.low, h.num, h.stop⟩

theorem sound_new {m o n e : Nat} (hr : o + n ≤ m) (he : 1 ≤ e) : Sound (dsNew m) o n [] e := by
  have hs : ∀ i, i < n → secs (dsNew m) o i = Se.noughts := fun i hi => by
    show (Se.blanks m).getD (o + i) [] = _
    rw [List.getD, Se.blanks, List.getElem?_replicate, if_pos (by omega)]
    rfl
  have hn : (dsNew m).n = m := by show (Se.blanks m).length = m; simp [Se.blanks]
  refine ⟨⟨Se.blanks_all m, Se.blanks_all m, rfl, by show (List.replicate m false).length = (Se.blanks m).length; simp [Se.blanks]⟩, fun i => ?_, rfl, by rw [hn]; exact hr, trivial, Nat.zero_le _, trivial, fun i _ hi => by rw [hs i hi]; exact low_noughts he, fun i _ hi ht => ?_, fun k E hk hR => ?_⟩
  · show (List.replicate m false).getD i false = false
    rw [List.getD, List.getElem?_replicate]
    split <;> rfl
  · rw [hs i hi, Lf.takes_noughts] at ht
    cases ht
  · have t := (hR.each 0 (Nat.le_refl _) hR.le).1
    have h0 : secs (dsNew m) o (0 + 0) = Se.noughts := hs 0 (by show 0 < n; have : k < n - 0 := hk; omega)
    have t' : takesB (secs (dsNew m) o (0 + 0)) = true := t
    rw [h0, Lf.takes_noughts] at t'
    cases t'

/-- An Add that is OK. -/
theorem add_sound {d : DS} {o n e : Nat} {recs : Recs} {b : List UInt8} (h : Sound d o n recs e) (ho : d.off = false) (hb : 1 ≤ b.length) (he : 1 ≤ e) (he2 : e ≤ 254) (hm : recs.length < 2 ^ 32) (hroom : needN b.length ≤ n - total recs)
    (hok : (addD d (o + total recs) (fun i => layB (leafN e recs.length b i)) (needN b.length)).2 = true) :
    Sound (addD d (o + total recs) (fun i => layB (leafN e recs.length b i)) (needN b.length)).1 o n (recs ++ [(b, e)]) e ∧ (addD d (o + total recs) (fun i => layB (leafN e recs.length b i)) (needN b.length)).1.off = false := by
  have hfit := h.fits
  have hr := h.room
  obtain ⟨d1, u, k1, k2, k3, k4⟩ := (add_under (d := d) (at_ := o + total recs) (k := needN b.length) (f := fun i => layB (leafN e recs.length b i)) h.ok h.dry ho (by omega) (fun j _ => Lf.layB_len _)).1 hok
  generalize (addD d (o + total recs) (fun i => layB (leafN e recs.length b i)) (needN b.length)).1 = d2 at k1 k2 k3 k4 ⊢
  refine ⟨?_, k4⟩
  have ht : total (recs ++ [(b, e)]) = total recs + needN b.length := total_more b e recs
  have hlen : (recs ++ [(b, e)]).length = recs.length + 1 := by simp
  have T : ∀ i, secs d2 o i = if total recs ≤ i ∧ i < total recs + needN b.length then layB (leafN e recs.length b (i - total recs)) else secs d o i := fun i => by
    unfold secs
    rw [k1, List.getD, u.now]
    by_cases hc : total recs ≤ i ∧ i < total recs + needN b.length
    · rw [if_pos hc, if_pos (by omega), show o + i - (o + total recs) = i - total recs by omega]
      rfl
    · rw [if_neg hc, if_neg (by omega)]
      rfl
  have hn2 : d2.n = d.n := by show d2.now.length = _; rw [k1]; exact u.n
  have hok2 : d2.Ok := ⟨by rw [k1]; exact u.ok.now, by rw [k2]; exact u.ok.now, by rw [k1, k2], by rw [k1, k3, List.length_replicate]; rfl⟩
  have hle := (lastE_le recs 1 h.rise).2 he
  have hnum : ∀ i, total recs + needN b.length ≤ i → i < n → takesB (secs d2 o i) = true → (readB (secs d2 o i)).number ≤ recs.length := fun i h1 h2 h3 => by
    rw [T i, if_neg (by omega)] at h3 ⊢
    exact h.num i (by omega) h2 h3
  refine ⟨hok2, fun i => ?_, by rw [k1, k2], by rw [hn2]; exact hr, stand_more recs 0 0 (stand_same recs 0 0 h.stand fun i h1 h2 => by rw [T i, if_neg (by omega)]) fun i hi => ?_, by rw [ht]; omega, rise_more hb he (Nat.le_refl _) recs 1 h.rise hle, fun i h1 h2 => ?_, fun i h1 h2 h3 => ?_, ?_⟩
  · rw [k3, List.getD, List.getElem?_replicate]
    split <;> rfl
  · rw [Nat.zero_add, Nat.zero_add, T, if_pos (by omega), Nat.add_sub_cancel_left]
  · rw [T i, if_neg (by omega)]
    exact h.low i (by omega) h2
  · rw [hlen]
    have := hnum i (by omega) h2 h3
    omega
  · rw [ht, hlen]
    intro k E hk hR
    have t := hR.each 0 (Nat.le_refl _) hR.le
    have hnn := hnum (total recs + needN b.length + 0) (by omega) (by omega) t.1
    have h9 : (readB (secs d2 o (total recs + needN b.length + 0))).number = recs.length + 1 := t.2.1
    omega

/-- A journal of small epochs that lies on a sound disk. -/
structure Live (d : DS) (j : JS) (recs : Recs) : Prop where
  sound : Sound d j.o j.n recs j.epoch
  on : d.off = false
  l : j.l = recs.map (·.1)
  used : j.used = total recs
  alive : j.dead = false
  e1 : 1 ≤ j.epoch
  e2 : j.epoch ≤ 254
  n1 : j.n < 4294967296

theorem Live.len {d : DS} {j : JS} {recs : Recs} (h : Live d j recs) : j.l.length = recs.length ∧ j.l.length < 4294967296 := by
  have h1 := rise_len recs 1 h.sound.rise
  have h2 := h.sound.fits
  have h3 := h.n1
  rw [h.l, List.length_map]
  exact ⟨rfl, by omega⟩

/-- What an Add of it does: the record is there; or there was no room, or it may not be one, and nothing is turned; or power is off, and behind a crash it may be there. -/
theorem Live.add {d : DS} {j : JS} {recs : Recs} {b : List UInt8} (h : Live d j recs) (hb : 1 ≤ b.length) :
    (addE d j b = 0 ∧ Live (addDS d j b) (addJ d j b) (recs ++ [(b, j.epoch)])) ∨
    (addE d j b ≠ 0 ∧ addDS d j b = d) ∨
    (addE d j b ≠ 0 ∧ ∃ w, w ≤ needN b.length ∧ needN b.length ≤ j.n - total recs ∧ Under d (addDS d j b) (j.o + total recs) (fun i => layB (leafN j.epoch recs.length b i)) w) := by
  obtain ⟨hl1, hl2⟩ := h.len
  by_cases hs : stopE d j b = 0
  · have hroom : needN b.length ≤ j.n - total recs := by
      unfold stopE at hs
      rw [h.alive, h.on, if_neg (by simp)] at hs
      split at hs
      · cases hs
      · split at hs
        · cases hs
        · rename_i h3
          rw [h.used] at h3
          omega
    have hd : doneJ d j b = addD d (j.o + total recs) (fun i => layB (leafN j.epoch recs.length b i)) (needN b.length) := by
      unfold doneJ
      rw [h.used]
      congr 1
      funext i
      unfold sectJ
      rw [Nat.mod_eq_of_lt hl2, hl1]
    have e1 : addDS d j b = (doneJ d j b).1 := by unfold addDS; rw [if_neg (by omega)]
    have e2 : addE d j b = if (doneJ d j b).2 then 0 else 9 := by unfold addE; rw [if_neg (by omega)]
    cases hk : (doneJ d j b).2 with
    | true =>
      left
      rw [e2, hk, if_pos rfl]
      refine ⟨rfl, ?_⟩
      have e3 : addJ d j b = { j with l := j.l ++ [b], begun := if j.l.length = 0 then j.epoch else j.begun, used := j.used + needN b.length } := by
        unfold addJ
        rw [e2, hk, if_pos rfl, if_neg (by decide), if_neg (by decide)]
      rw [hd] at hk
      obtain ⟨s1, s2⟩ := add_sound h.sound h.on hb h.e1 h.e2 (by omega) hroom hk
      rw [e1, hd, e3]
      exact ⟨s1, s2, by show j.l ++ [b] = _; rw [h.l, List.map_append]; rfl, by show j.used + _ = _; rw [total_more, h.used], h.alive, h.e1, h.e2, h.n1⟩
    | false =>
      right
      right
      rw [e2, hk, if_neg (by decide)]
      refine ⟨by decide, ?_⟩
      have hr := h.sound.room
      have hf := h.sound.fits
      rw [hd] at hk
      obtain ⟨w, w1, w2, _⟩ := (add_under (d := d) (at_ := j.o + total recs) (k := needN b.length) (f := fun i => layB (leafN j.epoch recs.length b i)) h.sound.ok h.sound.dry h.on (by omega) (fun j _ => Lf.layB_len _)).2 hk
      exact ⟨w, w1, hroom, by rw [e1, hd]; exact w2⟩
  · right
    left
    refine ⟨?_, by unfold addDS; rw [if_pos hs]⟩
    unfold addE
    rw [if_pos hs]
    exact hs

/-- Opened again with the next epoch. -/
theorem Sound.live {d : DS} {o n e : Nat} {recs : Recs} (h : Sound d o n recs e) (ho : d.off = false) (he : 1 ≤ e) (he2 : e ≤ 254) (hn : n < 4294967296) : Live d (openJ d o n e) recs := by
  have hop := h.open_ (by omega) hn
  refine ⟨h, ho, ?_, ?_, rfl, he, he2, hn⟩
  · show (openN (secs d o) n).l = _
    rw [hop]
  · show (openN (secs d o) n).used = _
    rw [hop]

/-- What put leaves: all that was handed in as far as it went, how many were OK; and what is there behind a crash. -/
structure Puts (d : DS) (o n e : Nat) (all : List (List UInt8)) (ok : Nat) : Prop where
  back : ∀ kn kf, ∃ recs', Sound (startD (crashD d kn kf)) o n recs' (e + 1) ∧ ok ≤ recs'.length ∧ recs'.length ≤ ok + 1 ∧ recs'.length ≤ all.length ∧ recs'.map (·.1) = all.take recs'.length

theorem Live.puts {d : DS} {j : JS} {recs : Recs} (h : Live d j recs) : Puts d j.o j.n j.epoch j.l j.l.length := by
  obtain ⟨hl1, _⟩ := h.len
  refine ⟨fun kn kf => ⟨recs, crash_still h.sound kn kf, by omega, by omega, by omega, ?_⟩⟩
  rw [← hl1, List.take_length, h.l]

theorem Live.fails {d : DS} {j : JS} {recs : Recs} {b : List UInt8} (h : Live d j recs) (hb : 1 ≤ b.length) (hE : addE d j b ≠ 0) : Puts (addDS d j b) j.o j.n j.epoch (j.l ++ [b]) j.l.length := by
  obtain ⟨hl1, hl2⟩ := h.len
  have hal : (j.l ++ [b]).length = j.l.length + 1 := by simp
  have still : ∀ kn kf, ∃ recs', Sound (startD (crashD d kn kf)) j.o j.n recs' (j.epoch + 1) ∧ j.l.length ≤ recs'.length ∧ recs'.length ≤ j.l.length + 1 ∧ recs'.length ≤ (j.l ++ [b]).length ∧ recs'.map (·.1) = (j.l ++ [b]).take recs'.length := fun kn kf =>
    ⟨recs, crash_still h.sound kn kf, by omega, by omega, by omega, by rw [← hl1, List.take_left, h.l]⟩
  rcases h.add hb with ⟨h0, _⟩ | ⟨_, h1⟩ | ⟨_, w, w1, w2, w3⟩
  · exact absurd h0 hE
  · rw [h1]
    exact ⟨still⟩
  · refine ⟨fun kn kf => ?_⟩
    obtain ⟨recs', hr, hs⟩ := crash_sound h.sound hb h.e1 h.e2 (by omega) w2 w1 w3 kn kf
    rcases hr with rfl | rfl
    · exact ⟨recs', hs, by omega, by omega, by omega, by rw [← hl1, List.take_left, h.l]⟩
    · have hx : (recs ++ [(b, j.epoch)]).length = j.l.length + 1 := by simp [hl1]
      refine ⟨_, hs, by omega, by omega, by omega, ?_⟩
      rw [hx, ← hal, List.take_length, h.l, List.map_append]
      rfl

end Go.Proofs.Ytedgookkogpfbaa.Jr
end
