/- The statements' Scope: its lists are rows of the call's own. (XPyT's walk, told stronger) · Rows of the call's own whose things lead nowhere but to what is new besides: high rows. Nothing here speaks of the program. · The statements' Tax: what stands in memory while its zones are made. -/
import Derived.Deep.RegionHeld3
import Derived.Test.YtfcmhgneijipgaaGreatPk1
import Derived.Test.YtfcmhgneijipgaaGreatPk21
import Derived.Test.YtfcmhgneijipgaaGreatPk24
import Derived.Test.YtfcmhgneijipgaaGreatPk29
import Derived.Test.YtfcmhgneijipgaaGreatPk9

section
set_option maxRecDepth 100000
set_option linter.unusedVariables false
namespace Go.Proofs.YtfcmhgneijipgaaGreat.Py
open Go.ChangeShapes Go.WideShapes Go.ChangeAt Go.RowKit
open Kd (Kind Row Own Cells Fit Agree kStr row_str Lst Sl)
open Ap (Scp kScp Scp_rep)
theorem own_down {α : Type} {K : Kind α} {w : World} {B B' E n : Nat} {F : Nat → Prop} {v : Value} {xs : List α} (h : Own K w B E F v n xs) (hb : B' ≤ B) : Own K w B' E F v n xs := by
  obtain ⟨a1, cs, ho, hc⟩ := h
  refine ⟨a1, cs, ⟨ho.1, ?_⟩, hc⟩
  rcases ho.2 with h2 | ⟨g, cap, cur, hv, hb2, rest⟩
  · exact .inl h2
  · exact .inr ⟨g, cap, cur, hv, Nat.le_trans hb hb2, rest⟩
def ScopedOwn (w w' : World) (e : Ending) (s : Scp) : Prop :=
  ∃ l : Scp.Lay, e = .returned (.agg #[.slice l.skus.A l.skus.n l.skus.c, .slice l.cats.A l.cats.n l.cats.c]) ∧ Own kStr w' w.heap.size 9 (fun _ => False) (.slice l.skus.A l.skus.n l.skus.c) l.skus.n s.skus ∧ Own kStr w' w.heap.size 9 (fun _ => False) (.slice l.cats.A l.cats.n l.cats.c) l.cats.n s.cats ∧ (∀ g, (Value.slice l.skus.A l.skus.n l.skus.c).ownBlock = some g → (Value.slice l.cats.A l.cats.n l.cats.c).ownBlock ≠ some g) ∧ Below w.heap.size w w'
theorem scope_end2 {w W0 wz wy : World} {A5 A8 : Option Addr} {c5 c8 q1 q2 : Nat} {x1 x2 : List ByteArray} (z1 : W0.heap.size = w.heap.size + 2) (hb : Below w.heap.size w W0) (hG5 : Own kStr wz W0.drew.heap.size 9 (fun _ => False) (.slice A5 q1 c5) q1 x1) (hb5 : Below W0.drew.heap.size W0.drew wz) (hG8 : Own kStr wy wz.heap.size 9 (fun _ => False) (.slice A8 q2 c8) q2 x2) (hb8 : Below wz.heap.size wz wy) (hy : Kd.Held W0 wy (w.heap.size + 1) 47 2) :
    ∃ w9, (wy.setCell ⟨w.heap.size + 1, 0, none⟩ (.slice A5 q1 c5)).setCell ⟨w.heap.size + 1, 1, none⟩ (.slice A8 q2 c8) = w9 ∧ Qu.Blk w9 (w.heap.size + 1) 47 #[.slice A5 q1 c5, .slice A8 q2 c8] ∧ ScopedOwn w w9 (.returned (.agg #[.slice A5 q1 c5, .slice A8 q2 c8])) ⟨x1, x2⟩ := by
  obtain ⟨w9, hw9⟩ : ∃ w9, (wy.setCell ⟨w.heap.size + 1, 0, none⟩ (.slice A5 q1 c5)).setCell ⟨w.heap.size + 1, 1, none⟩ (.slice A8 q2 c8) = w9 := ⟨_, rfl⟩
  have hd : W0.drew.heap.size = W0.heap.size := rfl
  have z2 := hb5.size
  have z3 := hb8.size
  have far : ∀ b, w.heap.size + 2 ≤ b → w9.heap[b]? = wy.heap[b]? := fun b hb => by
    rw [← hw9]
    exact (Below.heap_setCell _ ⟨w.heap.size + 1, _, none⟩ _ b (show b ≠ w.heap.size + 1 by omega)).trans (Below.heap_setCell _ ⟨w.heap.size + 1, _, none⟩ _ b (show b ≠ w.heap.size + 1 by omega))
  have z4 : w9.heap.size = wy.heap.size := by rw [← hw9]; simp
  have hK : Qu.Blk w9 (w.heap.size + 1) 47 #[.slice A5 q1 c5, .slice A8 q2 c8] := by
    obtain ⟨cur, hbk, hsz⟩ := hy.box
    have h1 := (hbk.put 0 (.slice A5 q1 c5)).put 1 (.slice A8 q2 c8)
    rw [hw9] at h1
    have e : ((cur.setIfInBounds 0 (.slice A5 q1 c5)).setIfInBounds 1 (.slice A8 q2 c8)) = #[.slice A5 q1 c5, .slice A8 q2 c8] := by
      obtain ⟨l0⟩ := cur
      match l0, hsz with
      | [_, _], _ => rfl
    rw [e] at h1
    exact h1
  have hB : Below w.heap.size w w9 := by
    rw [← hw9]
    exact ((hb.trans (hy.below.mono (by omega))).setCell (Nat.le_succ _) _).setCell (Nat.le_succ _) _
  refine ⟨w9, hw9, hK, ⟨⟨A5, q1, c5⟩, ⟨A8, q2, c8⟩⟩, rfl, ?_, ?_, fun g h1 h2 => by have := (hG5.low g h1).2; have := (hG8.low g h2).1; omega, hB⟩
  · exact own_down ((hG5.later hb8).stay (fun _ h => h.elim) fun g hg => far g (by have := hG5.low g hg; omega)) (by omega)
  · exact own_down (hG8.stay (fun _ h => h.elim) fun g hg => far g (by have := hG8.low g hg; omega)) (by omega)
set_option maxHeartbeats 2000000 in
theorem scope_own (s : Scp) (l : Scp.Lay) (w : World) (h : Scp.Holds w (· < w.heap.size) s l) (hn : l.skus.n ≤ 9223372036854775807) (hm : l.cats.n ≤ 9223372036854775807) :
    Calls Tryz.prog 124 #[.agg #[.slice l.skus.A l.skus.n l.skus.c, .slice l.cats.A l.cats.n l.cats.c]] w fun e w' => ScopedOwn w w' e (scopeOf s) := by
  obtain ⟨W1, hW1⟩ : ∃ W1, w.alloc (.cells #[.slice l.skus.A l.skus.n l.skus.c, .slice l.cats.A l.cats.n l.cats.c] 47) = W1 := ⟨_, rfl⟩
  obtain ⟨W0, hW0⟩ : ∃ W0, W1.alloc (.cells #[.slice none 0 0, .slice none 0 0] 47) = W0 := ⟨_, rfl⟩
  have s1 : W1.heap.size = w.heap.size + 1 := by rw [← hW1]; simp
  have s0 : W0.heap.size = w.heap.size + 2 := by rw [← hW0]; simp [s1]
  have hB1 : Qu.Blk W0 w.heap.size 47 #[.slice l.skus.A l.skus.n l.skus.c, .slice l.cats.A l.cats.n l.cats.c] := by rw [← hW0, ← hW1]; exact (Qu.Blk.new w _ _).alloc _
  have hB2 : Qu.Blk W0 (w.heap.size + 1) 47 #[.slice none 0 0, .slice none 0 0] := by rw [← hW0, ← s1]; exact Qu.Blk.new W1 _ _
  have hb0 : Below w.heap.size w W0 := by rw [← hW0, ← hW1]; exact ((Below.refl _ _).alloc (Nat.le_refl _) _).alloc (by simp) _
  have hWH : Kd.Held W0 W0 (w.heap.size + 1) 47 2 := ⟨Below.refl _ _, _, hB2, rfl⟩
  have c0 : ∀ u, Kd.Held W0 u (w.heap.size + 1) 47 2 → u.cell? ⟨w.heap.size, 0, none⟩ = some (.slice l.skus.A l.skus.n l.skus.c) := fun u hu => (hu.below.cell (p := ⟨w.heap.size, 0, none⟩) (show w.heap.size < w.heap.size + 1 by omega)).trans (hB1.cell 0)
  have c1 : ∀ u, Kd.Held W0 u (w.heap.size + 1) 47 2 → u.cell? ⟨w.heap.size, 1, none⟩ = some (.slice l.cats.A l.cats.n l.cats.c) := fun u hu => (hu.below.cell (p := ⟨w.heap.size, 1, none⟩) (show w.heap.size < w.heap.size + 1 by omega)).trans (hB1.cell 1)
  have b0 : ∀ u, Kd.Held W0 u (w.heap.size + 1) 47 2 → u.cell? ⟨w.heap.size + 1, 0, none⟩ = some (Kd.lies u ⟨w.heap.size + 1, 0, none⟩) := fun u hu => hu.lies (by omega)
  have b1 : ∀ u, Kd.Held W0 u (w.heap.size + 1) 47 2 → u.cell? ⟨w.heap.size + 1, 1, none⟩ = some (Kd.lies u ⟨w.heap.size + 1, 1, none⟩) := fun u hu => hu.lies (by omega)
  have bz : ∀ u i, Kd.Held W0 u (w.heap.size + 1) 47 2 → u.frozen? ⟨w.heap.size + 1, i, none⟩ = false := fun u i hu => hu.frozen i
  have hin : ∀ u, Kd.Held W0 u (w.heap.size + 1) 47 2 → Below w.heap.size w u := fun u hu => hb0.trans (hu.below.mono (by omega))
  obtain ⟨q1, hq1⟩ : ∃ q1, (namesOf skuS s.skus 3 8 8).length = q1 := ⟨_, rfl⟩
  obtain ⟨q2, hq2⟩ : ∃ q2, (namesOf catS s.cats 2 3 3).length = q2 := ⟨_, rfl⟩
  have HA : Hid (∀ u, Kd.Held W0 u (w.heap.size + 1) 47 2 → Calls Tryz.prog 150 #[.slice l.skus.A l.skus.n l.skus.c, .int .i64 3, .int .i64 8, .func (.func 64) #[] #[]] u fun e w' => ∃ A c, e = .returned (.slice A q1 c) ∧ Own kStr w' u.heap.size 9 (fun _ => False) (.slice A q1 c) q1 (namesOf skuS s.skus 3 8 8) ∧ Below u.heap.size u w' ∧ Kd.Held W0 w' (w.heap.size + 1) 47 2) := Lib.hid fun u hu => by
    have hb := hin u hu
    have := hb.size
    exact (some_sku l.skus.A l.skus.n l.skus.c s.skus u ((h.skus.row.below hb (Nat.le_refl _)).more fun b hb2 => Nat.lt_of_lt_of_le hb2 hb.size) hn).mono fun e w' ⟨v, e1, hG⟩ => by
      obtain ⟨A, c, rfl⟩ := hG.own.value
      have hl := hG.own
      rw [← namesOf_len skuS s.skus 3 8 8, hq1] at hl e1
      exact ⟨A, c, e1, hl, hG.below, hu.on hG.below⟩
  have HC : Hid (∀ u, Kd.Held W0 u (w.heap.size + 1) 47 2 → Calls Tryz.prog 150 #[.slice l.cats.A l.cats.n l.cats.c, .int .i64 2, .int .i64 3, .func (.func 20) #[] #[]] u fun e w' => ∃ A c, e = .returned (.slice A q2 c) ∧ Own kStr w' u.heap.size 9 (fun _ => False) (.slice A q2 c) q2 (namesOf catS s.cats 2 3 3) ∧ Below u.heap.size u w' ∧ Kd.Held W0 w' (w.heap.size + 1) 47 2) := Lib.hid fun u hu => by
    have hb := hin u hu
    have := hb.size
    exact (some_cat l.cats.A l.cats.n l.cats.c s.cats u ((h.cats.row.below hb (Nat.le_refl _)).more fun b hb2 => Nat.lt_of_lt_of_le hb2 hb.size) hm).mono fun e w' ⟨v, e1, hG⟩ => by
      obtain ⟨A, c, rfl⟩ := hG.own.value
      have hl := hG.own
      rw [← namesOf_len catS s.cats 2 3 3, hq2] at hl e1
      exact ⟨A, c, e1, hl, hG.below, hu.on hG.below⟩
  have HS := Lib.hid (And.intro s1 (And.intro s0 hb0))
  clear hB1 hB2 hin h hn hm hb0 s0 hq1 hq2
  go_enter Tryz.func124, Tryz.ntmps124
  go_wp2_with fail
  clear hW1 hW0 s1
  go_region_held3 (fun u => Kd.Held W0 u (w.heap.size + 1) 47 2)
    (first
      | assumption
      | exact hWH.drew
      | exact hWH
      | exact (Kd.Held.put (by assumption) _ _).put _ _)
    (first
      | (go_at_call 150; with_reducible refine (HA.out _ ?_).mono ?_; (first | assumption | exact hWH.drew); rintro e wz ⟨A5, c5, rfl, hG5, hb5, hz⟩)
      | (go_at_call 150; with_reducible refine (HC.out _ ?_).mono ?_; (first | assumption | exact hWH.drew); rintro e wy ⟨A8, c8, rfl, hG8, hb8, hy⟩))
  obtain ⟨w9, hw9, hK, hE⟩ := scope_end2 HS.out.2.1 HS.out.2.2 hG5 hb5 hG8 hb8 hy
  have HK := Lib.hid (And.intro hK hE)
  rename_i hHeld
  rw [hw9]
  clear hK hE hy hz hb5 hb8 hG5 hG8 hHeld c0 c1 b0 b1 bz hWH HA HC HS
  clear hw9
  go_wp2_with fail
  refine bodyPost_ret (results_scope rfl _ w9 (w.heap.size + 1) _ rfl HK.out.1 rfl rfl) rfl ?_
  exact HK.out.2
end Go.Proofs.YtfcmhgneijipgaaGreat.Py

end

section
set_option maxRecDepth 100000
set_option linter.unusedVariables false
namespace Go.Proofs.YtfcmhgneijipgaaGreat.Kd
open Go.ChangeShapes Go.WideShapes Go.ChangeAt Go.RowKit Go.Deep
section
variable {α : Type} {P : Program} {K : Kind α} {w w' : World} {B E n c : Nat} {v : Value} {A : Option Addr} {xs ys : List α} {x : α}
def ButB (w : World) (v : Value) (B : Nat) : Nat → Prop := fun b => But w v b ∧ B ≤ b
def High (K : Kind α) (w : World) (B E : Nat) (v : Value) (n : Nat) (xs : List α) : Prop := Own K w B E (ButB w v B) v n xs
theorem High.nil (K : Kind α) (w : World) (B E : Nat) : High K w B E (.slice none 0 0) 0 [] := Own.nil _ _ _ _ _
theorem High.low (h : High K w B E v n xs) : ∀ g, v.ownBlock = some g → B ≤ g ∧ g < w.heap.size := Own.low h
theorem High.value (h : High K w B E v n xs) : ∃ A c, v = .slice A n c := Own.value h
theorem High.fit (h : High K w B E (.slice A n c) n xs) : Fit A n c := Own.fit h
theorem High.len (h : High K w B E v n xs) : xs.length = n := h.1
theorem butB_mono (hs : w.heap.size ≤ w'.heap.size) : ∀ b, ButB w v B b → ButB w' v B b := fun b hb => ⟨but_mono hs b hb.1, hb.2⟩
theorem High.later (h : High K w B E v n xs) (hb : Below w.heap.size w w') : High K w' B E v n xs :=
  (h.stay (fun b hb2 => hb.block b hb2.1.1) fun g hg => hb.block g (h.low g hg).2).more (butB_mono hb.size)
theorem High.only (h : High K w B E v n xs) (hs : w.heap.size ≤ w'.heap.size) (ho : ∀ b, b < w.heap.size → B ≤ b → w'.heap[b]? = w.heap[b]?) : High K w' B E v n xs :=
  (h.stay (fun b hb2 => ho b hb2.1.1 hb2.2) fun g hg => ho g (h.low g hg).2 (h.low g hg).1).more (butB_mono hs)
theorem High.deep (h : High K w B E v n xs) : Deep K w B E v n xs := h.more fun b hb => hb.1
theorem High.read (h : High K w B E (.slice A n c) n xs) : Row K w (· < w.heap.size) A n xs := h.deep.read
theorem High.lst (h : High K w B E (.slice A n c) n xs) : Lst K w (· < w.heap.size) ⟨A, n, c⟩ xs := ⟨h.read, h.fit⟩
theorem wpList_high {t e : TypeId} {z : Value} {S b : Nat} (R : RowT P K t e z S b) {W w1 : World} {cs : List Value} {ops : Array Oper} {rest : List Oper} {o : Oper} {a : Act} {Q : Exit → Act → World → Prop} (free : o.guard = none) (s y : Operand)
    (is : o.op = .call { callee := .builtin .append, args := #[s, y], argTypes := #[t, t] }) (hw : w1 = W.alloc (.cells cs.toArray e)) (vs : a.eval s = v) (vx : a.eval y = .slice (some ⟨W.heap.size, 0, none⟩) 1 1) (hO : High K W B e v n xs) (hy : K.rep W (ButB W v B) x cs)
    (hn : (n + 1) * b ≤ 140737488355328) (hn2 : n + 1 ≤ 1000000000000) (hB : B ≤ W.heap.size)
    (go : ∀ g cap w', High K w' B e (.slice (some ⟨g, 0, none⟩) (n + 1) cap) (n + 1) (xs ++ [x]) → W.grownBy w' v.ownBlock → (v.ownBlock = some g ∨ W.heap.size ≤ g) → wpList P ops Q rest (a.put o.dst (.slice (some ⟨g, 0, none⟩) (n + 1) cap)) w') : wpList P ops Q (o :: rest) a w1 := by
  refine wpList_push R free s y is hw vs vx hO hy hn hn2 hB (fun q hq => hq.1) fun g cap w' hown hg hf => go g cap w' (hown.more fun q hq => ⟨⟨?_, ?_⟩, hq.2⟩) hg hf
  · exact Nat.lt_of_lt_of_le hq.1.1 hg.size
  · intro e2
    injection e2 with e2
    have e3 : g = q := e2
    subst e3
    rcases hf with h1 | h1
    · exact hq.1.2 h1
    · have := hq.1.1
      omega
end
end Go.Proofs.YtfcmhgneijipgaaGreat.Kd

end

section
set_option maxRecDepth 100000
set_option linter.unusedVariables false
namespace Go.Proofs.YtfcmhgneijipgaaGreat.Py
open Go.ChangeShapes Go.WideShapes Go.ChangeAt Go.RowKit
open Kd (Kind Row Own Cells Fit Agree High Lst kStr)
open Ap (CtR Zon Txs kCtR kZon row_CtR row_Zon Zon_rep)
open Ru (cellsZ)
theorem zon_t : Kd.RowT Tryz.prog kZon 24 41 (.agg #[.string ⟨#[]⟩, .slice none 0 0, .int .i64 0, .int .i64 0]) 4 56 :=
  ⟨Tryz.underlying24, by kernel_rfl, Ap.size_Zon, rfl, by omega, fun h => by
    obtain ⟨l, rfl, _⟩ := Zon_rep.1 h
    intro u hu
    unfold Ap.Zon.enc at hu
    simp only [List.mem_cons, List.not_mem_nil, or_false] at hu
    rcases hu with rfl | rfl | rfl | rfl <;> rfl⟩
theorem blk_far2 {w : World} {g q i t : Nat} {cs : Array Value} {u : Value} (h : Qu.Blk w g t cs) (hne : g ≠ q) : Qu.Blk (w.setCell ⟨q, i, none⟩ u) g t cs := h.as (Below.heap_setCell w ⟨q, i, none⟩ u g hne)
structure TG (w wr : World) (b3 : Nat) (t : Txs) (l : Txs.Lay) (v : Value) (k : Nat) : Prop where
  below : Below w.heap.size w wr
  arg : Qu.Blk wr w.heap.size 26 #[.bool t.incl, .bool t.byOrder, .int .i64 t.round, .slice l.zones.A l.zones.n l.zones.c]
  res : Qu.Blk wr (w.heap.size + 1) 26 #[.bool false, .bool false, .int .i64 0, .slice none 0 0]
  out : Qu.Blk wr b3 26 #[.bool t.incl, .bool t.byOrder, .int .i64 (modN t.round 3 : Int), v]
  own : High kZon wr (b3 + 1) 41 v k (zonesTo t.zones k)
  high : w.heap.size + 1 < b3
theorem TG.later {w wr w' : World} {b3 k : Nat} {t : Txs} {l : Txs.Lay} {v : Value} (h : TG w wr b3 t l v k) (hb : Below wr.heap.size wr w') : TG w w' b3 t l v k :=
  ⟨h.below.trans (hb.mono h.below.size), h.arg.below hb, h.res.below hb, h.out.below hb, h.own.later hb, h.high⟩
structure GotT (W0 u : World) (g5 : Nat) : Prop where
  high : W0.heap.size ≤ g5
  blk : Qu.Blk u g5 26 #[.bool false, .bool false, .int .i64 0, .slice none 0 0]
theorem gott_new {W0 u : World} (h : Below W0.heap.size W0 u) : ∃ W5 g5, u.alloc (.cells #[.bool false, .bool false, .int .i64 0, .slice none 0 0] 26) = W5 ∧ u.heap.size = g5 ∧ GotT W0 W5 g5 ∧ Below W0.heap.size W0 W5 :=
  ⟨_, _, rfl, rfl, ⟨h.size, Qu.Blk.new u _ _⟩, h.alloc h.size _⟩
theorem TG.begin {w W2 u : World} {g5 : Nat} {t : Txs} {l : Txs.Lay} (h2 : Below w.heap.size w W2) (hz : W2.heap.size = w.heap.size + 2) (harg : Qu.Blk W2 w.heap.size 26 #[.bool t.incl, .bool t.byOrder, .int .i64 t.round, .slice l.zones.A l.zones.n l.zones.c]) (hres : Qu.Blk W2 (w.heap.size + 1) 26 #[.bool false, .bool false, .int .i64 0, .slice none 0 0]) (h : Below W2.heap.size W2 u) (hG : GotT W2 u g5) :
    TG w ((((u.setCell ⟨g5, 0, none⟩ (.bool t.incl)).setCell ⟨g5, 1, none⟩ (.bool t.byOrder)).setCell ⟨g5, 2, none⟩ (.int .i64 (modN t.round 3 : Int))).setCell ⟨g5, 3, none⟩ (.slice none 0 0)) g5 t l (.slice none 0 0) 0 ∧ Below W2.heap.size W2 ((((u.setCell ⟨g5, 0, none⟩ (.bool t.incl)).setCell ⟨g5, 1, none⟩ (.bool t.byOrder)).setCell ⟨g5, 2, none⟩ (.int .i64 (modN t.round 3 : Int))).setCell ⟨g5, 3, none⟩ (.slice none 0 0)) := by
  have hb : Below W2.heap.size W2 ((((u.setCell ⟨g5, 0, none⟩ (.bool t.incl)).setCell ⟨g5, 1, none⟩ (.bool t.byOrder)).setCell ⟨g5, 2, none⟩ (.int .i64 (modN t.round 3 : Int))).setCell ⟨g5, 3, none⟩ (.slice none 0 0)) :=
    (((h.setCell hG.high _).setCell hG.high _).setCell hG.high _).setCell hG.high _
  refine ⟨⟨h2.trans (hb.mono (by omega)), harg.below hb, hres.below hb, (((hG.blk.put 0 (.bool t.incl)).put 1 (.bool t.byOrder)).put 2 (.int .i64 (modN t.round 3 : Int))).put 3 (.slice none 0 0), ?_, by have := hG.high; omega⟩, hb⟩
  rw [zonesTo_zero]
  exact High.nil _ _ _ _
structure ZD (wr u : World) (g5 : Nat) (z : Zon) (lz : Zon.Lay) : Prop where
  below : Below wr.heap.size wr u
  box : Qu.Blk u g5 41 (cellsZ z lz)
  own : Own kCtR u (g5 + 1) 53 (fun _ => False) (.slice lz.rates.A lz.rates.n lz.rates.c) lz.rates.n z.rates
  hg : wr.heap.size ≤ g5
  ok : z.name.size ≤ maxLen ∧ (-9223372036854775808 ≤ z.rest ∧ z.rest ≤ 9223372036854775807) ∧ -9223372036854775808 ≤ z.ship ∧ z.ship ≤ 9223372036854775807
theorem ZD.later {wr u u' : World} {g5 : Nat} {z : Zon} {lz : Zon.Lay} (h : ZD wr u g5 z lz) (hb : Below u.heap.size u u') : ZD wr u' g5 z lz :=
  ⟨h.below.trans (hb.mono h.below.size), h.box.below hb, h.own.later hb, h.hg, h.ok⟩
theorem ZD.holds {wr u : World} {g5 : Nat} {z : Zon} {lz : Zon.Lay} {F : Nat → Prop} (h : ZD wr u g5 z lz) (hF : ∀ b, wr.heap.size ≤ b → b < u.heap.size → F b) : Ap.Zon.Holds u F z lz :=
  ⟨h.ok.1, ⟨(h.own.more (G := F) fun _ k => k.elim).row fun g hg => hF g (by have := (h.own.low g hg).1; have := h.hg; omega) (h.own.low g hg).2, h.own.fit⟩, h.ok.2.1, h.ok.2.2⟩
theorem ZD.begin {wr : World} {z : Zon} {cs : Array Value} {W : World} (hz : z.rates = []) (hok : z.name.size ≤ maxLen ∧ (-9223372036854775808 ≤ z.rest ∧ z.rest ≤ 9223372036854775807) ∧ -9223372036854775808 ≤ z.ship ∧ z.ship ≤ 9223372036854775807) (hW : ((wr.alloc (.cells cs 5)).alloc (.cells (cellsZ z ⟨⟨none, 0, 0⟩⟩) 41)) = W) : ZD wr W (wr.heap.size + 1) z ⟨⟨none, 0, 0⟩⟩ := by
  subst hW
  have hs : (wr.alloc (.cells cs 5)).heap.size = wr.heap.size + 1 := by simp
  refine ⟨((Below.refl _ _).alloc (Nat.le_refl _) _).alloc (by simp) _, ?_, ?_, by omega, hok⟩
  · rw [← hs]; exact Qu.Blk.new _ _ _
  · rw [hz]; exact Own.nil _ _ _ _ _
theorem ZD.put2 {wr u : World} {g5 : Nat} {z : Zon} {lz : Zon.Lay} {r s : Int} (h : ZD wr u g5 z lz) (hr : -9223372036854775808 ≤ r ∧ r ≤ 9223372036854775807) (hs : -9223372036854775808 ≤ s ∧ s ≤ 9223372036854775807) : ZD wr ((u.setCell ⟨g5, 2, none⟩ (.int .i64 r)).setCell ⟨g5, 3, none⟩ (.int .i64 s)) g5 ⟨z.name, z.rates, r, s⟩ lz := by
  refine ⟨(h.below.setCell h.hg _).setCell h.hg _, (h.box.put 2 (.int .i64 r)).put 3 (.int .i64 s), h.own.stay (fun b hb => hb.elim) fun g hg => ?_, h.hg, h.ok.1, hr, hs⟩
  have := (h.own.low g hg).1
  rw [Below.heap_setCell _ _ _ _ (by simp; omega), Below.heap_setCell _ _ _ _ (by simp; omega)]
theorem ZD.push {wr u w9 : World} {g5 g1 j cap : Nat} {z : Zon} {lz : Zon.Lay} {x : CtR} (h : ZD wr u g5 z lz) (hj : lz.rates.n = j) (hown : Own kCtR w9 (g5 + 1) 53 (fun _ => False) (.slice (some ⟨g1, 0, none⟩) (j + 1) cap) (j + 1) (z.rates ++ [x])) (hgrow : u.grownBy w9 (Value.slice lz.rates.A lz.rates.n lz.rates.c).ownBlock) (hfr : (Value.slice lz.rates.A lz.rates.n lz.rates.c).ownBlock = some g1 ∨ u.heap.size ≤ g1) :
    ZD wr (w9.setCell ⟨g5, 1, none⟩ (.slice (some ⟨g1, 0, none⟩) (j + 1) cap)) g5 ⟨z.name, z.rates ++ [x], z.rest, z.ship⟩ ⟨⟨some ⟨g1, 0, none⟩, j + 1, cap⟩⟩ := by
  have hne : ∀ g, (Value.slice lz.rates.A lz.rates.n lz.rates.c).ownBlock = some g → g5 < g := fun g hg => (h.own.low g hg).1
  have hb : Qu.Blk w9 g5 41 (cellsZ z lz) := h.box.grown hgrow fun e => by have := hne g5 e.symm; omega
  refine ⟨(h.below.grown hgrow h.below.size fun k hk => by have := hne k hk; have := h.hg; omega).setCell h.hg _, hb.put 1 (.slice (some ⟨g1, 0, none⟩) (j + 1) cap), hown.stay (fun b hb => hb.elim) fun g hg => ?_, h.hg, h.ok⟩
  have := (hown.low g hg).1
  rw [Below.heap_setCell _ _ _ _ (by simp; omega)]
theorem ZD.same9 {wr u w9 : World} {g5 : Nat} {z : Zon} {lz : Zon.Lay} {wi : World} (h : ZD wr u g5 z lz) (hb : Below g5 wi u) (hgrow : u.grownBy w9 (Value.slice lz.rates.A lz.rates.n lz.rates.c).ownBlock) : Below g5 wi w9 ∧ (∃ c, w9.cell? ⟨g5, 1, none⟩ = some c) ∧ w9.frozen? ⟨g5, 1, none⟩ = false := by
  have hne : ∀ g, (Value.slice lz.rates.A lz.rates.n lz.rates.c).ownBlock = some g → g5 < g := fun g hg => (h.own.low g hg).1
  have hb9 : Qu.Blk w9 g5 41 (cellsZ z lz) := h.box.grown hgrow fun e => by have := hne g5 e.symm; omega
  exact ⟨hb.grown hgrow (Nat.le_of_lt h.box.lt) fun k hk => by have := hne k hk; omega, ⟨_, hb9.cell 1⟩, hb9.frozen 1⟩
theorem TG.zone {w wr u w9 : World} {b3 k g5 g1 cap : Nat} {t : Txs} {l : Txs.Lay} {v : Value} {lz : Zon.Lay} (h : TG w wr b3 t l v k) (hz : ZD wr u g5 (zonAt t.zones k) lz) (hown : High kZon w9 (b3 + 1) 41 (.slice (some ⟨g1, 0, none⟩) (k + 1) cap) (k + 1) (zonesTo t.zones k ++ [zonAt t.zones k])) (hgrow : u.grownBy w9 v.ownBlock) :
    TG w (w9.setCell ⟨b3, 3, none⟩ (.slice (some ⟨g1, 0, none⟩) (k + 1) cap)) b3 t l (.slice (some ⟨g1, 0, none⟩) (k + 1) cap) (k + 1) := by
  have hu := h.later hz.below
  have hne : ∀ g, v.ownBlock = some g → b3 < g := fun g hg => (hu.own.low g hg).1
  have hh := hu.high
  have hw : w.heap.size ≤ b3 := by omega
  refine ⟨(hu.below.grown hgrow hu.below.size fun g hg => by have := hne g hg; omega).setCell hw _, blk_far2 (hu.arg.grown hgrow fun e => by have := hne _ e.symm; omega) (by omega), blk_far2 (hu.res.grown hgrow fun e => by have := hne _ e.symm; omega) (by omega), (hu.out.grown hgrow fun e => by have := hne _ e.symm; omega).put 3 (.slice (some ⟨g1, 0, none⟩) (k + 1) cap), ?_, h.high⟩
  rw [zonesTo_next]
  exact hown.only (by simp) fun b _ hb => by rw [Below.heap_setCell _ _ _ _ (by simp; omega)]
theorem TG.rep {w wr u : World} {b3 k g5 : Nat} {t : Txs} {l : Txs.Lay} {v : Value} {z : Zon} {lz : Zon.Lay} (h : TG w wr b3 t l v k) (hz : ZD wr u g5 z lz) : kZon.rep u (Kd.ButB u v (b3 + 1)) z [.string z.name, .slice lz.rates.A lz.rates.n lz.rates.c, .int .i64 z.rest, .int .i64 z.ship] :=
  Zon_rep.2 ⟨lz, rfl, hz.holds fun b h1 h2 => ⟨⟨h2, fun e => by have := (h.own.low b e).2; omega⟩, by have := h.out.lt; omega⟩⟩
theorem results_tax {f : Func} {p : Tmp} {T : TypeId} (hf : f.results = #[.cell p T]) (tmps : Array Value) (w : World) (g : Nat) (vs : Array Value) (hT : T = 26) (h : Qu.Blk w g 26 vs) (hv : vs.size = 4) (hp : tmps.getD p undef = .pointer (some ⟨g, 0, none⟩)) : (results f tmps).run Tryz.prog w = .ok (.agg vs) w := by
  subst hT
  exact results_cell_row hf tmps w g 26 vs (0, 0) _ hp h.here Tryz.underlying26 rfl (by rw [hv]; kernel_rfl)
def Taxed (w : World) (t : Txs) (e : Ending) (w' : World) : Prop :=
  ∃ v, e = .returned (.agg #[.bool t.incl, .bool t.byOrder, .int .i64 (modN t.round 3 : Int), v]) ∧ High kZon w' w.heap.size 41 v 3 (zonesTo t.zones 3) ∧ Below w.heap.size w w'
theorem high_down {α : Type} {K : Kind α} {w : World} {B B' E n : Nat} {v : Value} {xs : List α} (h : High K w B E v n xs) (hb : B' ≤ B) : High K w B' E v n xs :=
  (own_down h hb).more fun b k => ⟨k.1, Nat.le_trans hb k.2⟩
theorem TG.ends {w wr : World} {b3 : Nat} {t : Txs} {l : Txs.Lay} {v : Value} (h : TG w wr b3 t l v 3) : ∀ W, ((((wr.setCell ⟨w.heap.size + 1, 0, none⟩ (.bool t.incl)).setCell ⟨w.heap.size + 1, 1, none⟩ (.bool t.byOrder)).setCell ⟨w.heap.size + 1, 2, none⟩ (.int .i64 (modN t.round 3 : Int))).setCell ⟨w.heap.size + 1, 3, none⟩ v) = W → Qu.Blk W (w.heap.size + 1) 26 #[.bool t.incl, .bool t.byOrder, .int .i64 (modN t.round 3 : Int), v] ∧ Taxed w t (.returned (.agg #[.bool t.incl, .bool t.byOrder, .int .i64 (modN t.round 3 : Int), v])) W := by
  rintro W rfl
  have hq : (w.heap.size : Nat) ≤ w.heap.size + 1 := by omega
  have hh := h.high
  refine ⟨(((h.res.put 0 (.bool t.incl)).put 1 (.bool t.byOrder)).put 2 (.int .i64 (modN t.round 3 : Int))).put 3 v, v, rfl, high_down (h.own.only (by simp) fun b _ hb => ?_) (by omega), (((h.below.setCell hq _).setCell hq _).setCell hq _).setCell hq _⟩
  rw [Below.heap_setCell _ _ _ _ (by simp; omega), Below.heap_setCell _ _ _ _ (by simp; omega), Below.heap_setCell _ _ _ _ (by simp; omega), Below.heap_setCell _ _ _ _ (by simp; omega)]
end Go.Proofs.YtfcmhgneijipgaaGreat.Py

end
