/- Vaults as mathematics: marks; what a half tells; what stands behind a crash. -/
import Derived.Test.YtedgookkogpfbaaJlM
set_option maxRecDepth 100000
set_option linter.unusedVariables false
namespace Go.Proofs.Ytedgookkogpfbaa.Vt
open Lf (Leaf layB readB takesB markN cut cut_at val4 be4)
open Dk (DS mix mixS crashD startD armD dsNew keeps)
open Jr

/-! ### Marks -/
/-- A sector of which both marks are so small. -/
structure Mk (e : Nat) (s : List UInt8) : Prop where
  len : s.length = 64
  b0 : s[0]? = some 0
  b1 : s[1]? = some 0
  b2 : s[2]? = some 0
  b3 : ∃ x, s[3]? = some x ∧ x.toNat ≤ e
  c0 : s[60]? = some 0
  c1 : s[61]? = some 0
  c2 : s[62]? = some 0
  c3 : ∃ x, s[63]? = some x ∧ x.toNat ≤ e

theorem Mk.mono {e e' : Nat} {s : List UInt8} (h : Mk e s) (he : e ≤ e') : Mk e' s := by
  obtain ⟨x, h1, h2⟩ := h.b3
  obtain ⟨y, h3, h4⟩ := h.c3
  exact ⟨h.len, h.b0, h.b1, h.b2, ⟨x, h1, by omega⟩, h.c0, h.c1, h.c2, ⟨y, h3, by omega⟩⟩

theorem mk_noughts (e : Nat) : Mk e Se.noughts := ⟨Se.noughts_len, rfl, rfl, rfl, ⟨0, rfl, Nat.zero_le _⟩, rfl, rfl, rfl, ⟨0, rfl, Nat.zero_le _⟩⟩

theorem mk_lay (l : Leaf) (hl : l.data.length ≤ 46) (he : l.epoch ≤ 255) : Mk l.epoch (layB l) := by
  have e1 := Lf.lay_epoch l hl
  have e2 := Lf.lay_again l
  rw [be4_small he] at e1 e2
  have ht : (UInt8.ofNat l.epoch).toNat ≤ l.epoch := by rw [By.toNat_small (by omega)]; exact Nat.le_refl _
  have A : ∀ k, k < 4 → (layB l)[0 + k]? = [0, 0, 0, UInt8.ofNat l.epoch][k]? := fun k hk => by rw [← e1, cut_at hk]
  have B : ∀ k, k < 4 → (layB l)[60 + k]? = [0, 0, 0, UInt8.ofNat l.epoch][k]? := fun k hk => by rw [← e2, cut_at hk]
  exact ⟨Lf.layB_len l, A 0 (by omega), A 1 (by omega), A 2 (by omega), ⟨_, A 3 (by omega), ht⟩, B 0 (by omega), B 1 (by omega), B 2 (by omega), ⟨_, B 3 (by omega), ht⟩⟩

theorem mk_mix {e n : Nat} {x y : List UInt8} (hx : Mk e x) (hy : Mk e y) (hn : n ≤ 64) : Mk e (mix x y n) := by
  have T := mix_at (y := y) hx.len n
  obtain ⟨a, a1, a2⟩ := hx.b3
  obtain ⟨b, b1, b2⟩ := hy.b3
  obtain ⟨c, c1, c2⟩ := hx.c3
  obtain ⟨d, d1, d2⟩ := hy.c3
  have pick : ∀ {k : Nat} {u v : UInt8}, x[k]? = some u → y[k]? = some v → u.toNat ≤ e → v.toNat ≤ e → ∃ z, (mix x y n)[k]? = some z ∧ z.toNat ≤ e := fun {k u v} h1 h2 h3 h4 => by
    rw [T k hn]
    split
    · exact ⟨u, h1, h3⟩
    · exact ⟨v, h2, h4⟩
  exact ⟨Dk.mix_len hx.len hy.len hn, by rw [T _ hn, hx.b0, hy.b0, ite_self], by rw [T _ hn, hx.b1, hy.b1, ite_self], by rw [T _ hn, hx.b2, hy.b2, ite_self], pick a1 b1 a2 b2,
    by rw [T _ hn, hx.c0, hy.c0, ite_self], by rw [T _ hn, hx.c1, hy.c1, ite_self], by rw [T _ hn, hx.c2, hy.c2, ite_self], pick c1 d1 c2 d2⟩

theorem Mk.low {e : Nat} {s : List UInt8} (h : Mk e s) : Low (e + 1) s := by
  obtain ⟨y, h3, h4⟩ := h.c3
  exact ⟨h.len, h.b0, h.b1, h.b2, y, h3, by omega⟩

theorem Mk.mark {e : Nat} {s : List UInt8} (h : Mk e s) : markN s ≤ e := by
  obtain ⟨x, h1, h2⟩ := h.b3
  obtain ⟨y, h3, h4⟩ := h.c3
  have hl := h.len
  have q1 : cut s 0 4 = [0, 0, 0, x] := Lf.cut_of_eq (by omega) rfl fun k hk => by
    match k, hk with
    | 0, _ => exact h.b0
    | 1, _ => exact h.b1
    | 2, _ => exact h.b2
    | 3, _ => exact h1
  have q2 : cut s 60 4 = [0, 0, 0, y] := Lf.cut_of_eq (by omega) rfl fun k hk => by
    match k, hk with
    | 0, _ => exact h.c0
    | 1, _ => exact h.c1
    | 2, _ => exact h.c2
    | 3, _ => exact h3
  unfold markN
  rw [q1, q2]
  have v1 : val4 [0, 0, 0, x] = x.toNat := by unfold val4; simp
  have v2 : val4 [0, 0, 0, y] = y.toNat := by unfold val4; simp
  omega

theorem val4_small {a b c d : UInt8} {e : Nat} (h : val4 [a, b, c, d] ≤ e) (he : e ≤ 255) : a = 0 ∧ b = 0 ∧ c = 0 ∧ d.toNat ≤ e := by
  have hv : val4 [a, b, c, d] = ((a.toNat * 256 + b.toNat) * 256 + c.toNat) * 256 + d.toNat := by unfold val4; simp
  rw [hv] at h
  have z : ∀ x : UInt8, x.toNat = 0 → x = 0 := fun x hx => UInt8.toNat_inj.1 hx
  exact ⟨z a (by omega), z b (by omega), z c (by omega), by omega⟩

theorem mk_of {e : Nat} {s : List UInt8} (hl : s.length = 64) (h : markN s ≤ e) (he : e ≤ 255) : Mk e s := by
  have G : ∀ k, k < 64 → ∃ x, s[k]? = some x := fun k hk => ⟨_, List.getElem?_eq_getElem (by omega)⟩
  obtain ⟨a0, h0⟩ := G 0 (by omega)
  obtain ⟨a1, h1⟩ := G 1 (by omega)
  obtain ⟨a2, h2⟩ := G 2 (by omega)
  obtain ⟨a3, h3⟩ := G 3 (by omega)
  obtain ⟨b0, g0⟩ := G 60 (by omega)
  obtain ⟨b1, g1⟩ := G 61 (by omega)
  obtain ⟨b2, g2⟩ := G 62 (by omega)
  obtain ⟨b3, g3⟩ := G 63 (by omega)
  have q1 : cut s 0 4 = [a0, a1, a2, a3] := Lf.cut_of_eq (by omega) rfl fun k hk => by
    match k, hk with
    | 0, _ => exact h0
    | 1, _ => exact h1
    | 2, _ => exact h2
    | 3, _ => exact h3
  have q2 : cut s 60 4 = [b0, b1, b2, b3] := Lf.cut_of_eq (by omega) rfl fun k hk => by
    match k, hk with
    | 0, _ => exact g0
    | 1, _ => exact g1
    | 2, _ => exact g2
    | 3, _ => exact g3
  unfold markN at h
  rw [q1, q2] at h
  obtain ⟨rfl, rfl, rfl, x1⟩ := val4_small (e := e) (show val4 [a0, a1, a2, a3] ≤ e by omega) he
  obtain ⟨rfl, rfl, rfl, x2⟩ := val4_small (e := e) (show val4 [b0, b1, b2, b3] ≤ e by omega) he
  exact ⟨hl, h0, h1, h2, ⟨_, h3, x1⟩, g0, g1, g2, ⟨_, g3, x2⟩⟩

/-- The greatest mark. -/
def topN (l : List (List UInt8)) : Nat := l.foldl (fun t s => max t (markN s)) 0

theorem top_from : ∀ (l : List (List UInt8)) (t : Nat), t ≤ l.foldl (fun t s => max t (markN s)) t ∧ (∀ s ∈ l, markN s ≤ l.foldl (fun t s => max t (markN s)) t) ∧ ∀ e, t ≤ e → (∀ s ∈ l, markN s ≤ e) → l.foldl (fun t s => max t (markN s)) t ≤ e
  | [], t => ⟨Nat.le_refl _, fun s hs => (by cases hs), fun e h _ => h⟩
  | x :: l, t => by
    obtain ⟨h1, h2, h3⟩ := top_from l (max t (markN x))
    refine ⟨by show t ≤ l.foldl _ (max t (markN x)); omega, fun s hs => ?_, fun e ht hs => ?_⟩
    · show markN s ≤ l.foldl _ (max t (markN x))
      rcases List.mem_cons.1 hs with rfl | hs
      · omega
      · exact h2 s hs
    · show l.foldl _ (max t (markN x)) ≤ e
      have := hs x (List.mem_cons_self ..)
      exact h3 e (by omega) fun s h => hs s (List.mem_cons_of_mem _ h)

theorem le_top {l : List (List UInt8)} {s : List UInt8} (h : s ∈ l) : markN s ≤ topN l := (top_from l 0).2.1 s h

theorem top_le {l : List (List UInt8)} {e : Nat} (h : ∀ s ∈ l, markN s ≤ e) : topN l ≤ e := (top_from l 0).2.2 e (Nat.zero_le _) h

theorem top_more (l : List (List UInt8)) (s : List UInt8) : topN (l ++ [s]) = max (topN l) (markN s) := by unfold topN; rw [List.foldl_append]; rfl

/-! ### What depends on what -/
theorem recGo_congr {S S' : Nat → List UInt8} (number least : Nat) : ∀ f i b e, (∀ j, i ≤ j → j < i + f → S j = S' j) → recGo S number least f i b e = recGo S' number least f i b e
  | 0, _, _, _, _ => rfl
  | f + 1, i, b, e, h => by
    have hi := h i (Nat.le_refl _) (by omega)
    unfold recGo goodL
    rw [hi, recGo_congr number least f (i + 1) _ _ (fun j h1 h2 => h j (by omega) (by omega))]

theorem openGo_congr {S S' : Nat → List UInt8} {n : Nat} (h : ∀ i, i < n → S i = S' i) : ∀ f r, openGo S n f r = openGo S' n f r
  | 0, _ => rfl
  | f + 1, r => by
    have e1 : nextR S n r = nextR S' n r := by
      unfold nextR recN
      exact recGo_congr _ _ _ _ _ _ (fun j h1 h2 => h (r.used + j) (by omega))
    have e2 : moreR S n r = moreR S' n r := by unfold moreR; rw [e1]
    unfold openGo
    rw [e1, e2, openGo_congr h f]

theorem openN_congr {S S' : Nat → List UInt8} {n : Nat} (h : ∀ i, i < n → S i = S' i) : openN S n = openN S' n := openGo_congr h _ _

theorem begun_kept (S : Nat → List UInt8) (n : Nat) : ∀ f r, r.l.length ≠ 0 → (openGo S n f r).begun = r.begun
  | 0, _, _ => rfl
  | f + 1, r, h => by
    unfold openGo
    split
    · rfl
    · rw [begun_kept S n f (moreR S n r) (by show (r.l ++ [_]).length ≠ 0; simp)]
      show (if r.l.length = 0 then _ else r.begun) = r.begun
      rw [if_neg h]

theorem begun_rec (S : Nat → List UInt8) (n : Nat) : (openN S n).begun = if (recN S 0 1 n).2.1 = 0 then 0 else (recN S 0 1 n).2.2 := by
  have e : nextR S n Rd.none = recN S 0 1 n := by
    unfold nextR
    show recN (fun i => S (0 + i)) (0 % 4294967296) 1 (n - 0) = _
    rw [show (fun i => S (0 + i)) = S from funext fun i => by rw [Nat.zero_add]]
    rfl
  unfold openN
  cases n with
  | zero => rfl
  | succ f =>
    show (if (nextR S (f + 1) Rd.none).2.1 = 0 then Rd.none else openGo S (f + 1) f (moreR S (f + 1) Rd.none)).begun = _
    rw [e]
    split
    · rfl
    · rw [begun_kept _ _ _ _ (by show (([] : List (List UInt8)) ++ [(nextR S (f + 1) Rd.none).1]).length ≠ 0; simp)]
      show (if ([] : List (List UInt8)).length = 0 then (nextR S (f + 1) Rd.none).2.2 else Rd.none.begun) = (recN S 0 1 (f + 1)).2.2
      rw [if_pos (show ([] : List (List UInt8)).length = 0 from rfl), e]

/-- A record 0 that stands there: its epoch is told. -/
theorem run_begun {S : Nat → List UInt8} {n k E : Nat} (hk : k < n) (h : Run S 0 1 0 k E) : (openN S n).begun = E := by
  obtain ⟨h1, h2⟩ := run_rec n 0 [] 0 k E (by omega) h (.inl rfl)
  have h1' : (recN S 0 1 n).2.1 = k + 1 := h1
  have h2' : (recN S 0 1 n).2.2 = E := h2
  rw [begun_rec, h1', h2', if_neg (by omega)]

theorem begun_run {S : Nat → List UInt8} {n : Nat} (h : (openN S n).begun ≠ 0) : ∃ k E, k < n ∧ Run S 0 1 0 k E ∧ (openN S n).begun = E := by
  rw [begun_rec] at h
  by_cases h0 : (recN S 0 1 n).2.1 = 0
  · rw [if_pos h0] at h; exact absurd rfl h
  · obtain ⟨k, E, hk, hr⟩ := recN_run h0
    exact ⟨k, E, hk, hr, run_begun hk hr⟩

end Go.Proofs.Ytedgookkogpfbaa.Vt
