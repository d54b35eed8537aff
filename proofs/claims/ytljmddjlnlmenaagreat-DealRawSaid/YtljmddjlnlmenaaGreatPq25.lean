/- Deals: the library's sort over a row of the call's own; queues, flags and rows beside each other: what a making holds in .. -/
import Derived.Sort.EveryDepth
import Derived.Sort.OwnSortedInts
import Derived.Test.YtljmddjlnlmenaaGreatPq23
import Derived.Test.YtljmddjlnlmenaaGreatPq24
set_option maxRecDepth 100000
set_option linter.unusedVariables false

section
namespace Go.Proofs.YtljmddjlnlmenaaGreat.Dl
open Go.ChangeShapes Go.WideShapes Go.ChangeAt Go.RowKit
open Ap (Unt Tir Prm kUnt kTir row_Unt row_Tir)
open Kd (Kind Row RowT kInt kFlag row_int)
open Ko (Out Told Told2 At row_on)
open Ct (nth nth_some netAt netsL sumL UnitsMay PlacesMay May mayB mayB_iff Far take_next lessU SumOk PlacesIn i64_t own_down told2_of)
theorem cells_ints {w : World} {F : Nat -> Prop} : ∀ {xs : List Int} {cs : List Value}, Kd.Cells kInt w F xs cs -> cs = xs.map (Value.int .i64) /\ ∀ x ∈ xs, -9223372036854775808 <= x /\ x <= 9223372036854775807
  | [], cs, h => by cases h; exact ⟨rfl, fun _ h => by cases h⟩
  | x :: xs, cs, ⟨a, b, e, ha, hb⟩ => by
    obtain ⟨rfl, hx⟩ := ha
    obtain ⟨rfl, hr⟩ := cells_ints hb
    refine ⟨e, fun y hy => ?_⟩
    rcases List.mem_cons.1 hy with rfl | hy
    . exact hx
    . exact hr y hy
theorem ints_cells {w : World} {F : Nat -> Prop} : ∀ {xs : List Int}, (∀ x ∈ xs, -9223372036854775808 <= x /\ x <= 9223372036854775807) -> Kd.Cells kInt w F xs (xs.map (Value.int .i64))
  | [], _ => rfl
  | x :: xs, h => ⟨[.int .i64 x], xs.map (Value.int .i64), rfl, ⟨rfl, h x List.mem_cons_self⟩, ints_cells fun y hy => h y (List.mem_cons_of_mem _ hy)⟩
theorem sort_any (A : Option Addr) (n c B : Nat) (xs : List Int) (w : World) (h : Kd.Own kInt w B 3 (fun _ => False) (.slice A n c) n xs) (hn : n <= 1000000000) :
    Calls Tryz.prog 72 #[.slice A n c] w fun e w' => e = .returned (.tuple #[]) /\ Kd.Own kInt w' B 3 (fun _ => False) (.slice A n c) n (srt xs) /\ w.grownBy w' (Value.slice A n c).ownBlock := by
  rcases Nat.eq_zero_or_pos n with h0 | h0
  . subst h0
    have hx : xs = [] := List.eq_nil_of_length_eq_zero h.1
    subst hx
    have hc := calls_of_every_depth fun D => AnyS.slices_Sort_int_none_in Srt.lays D A c w
    refine Calls.mono hc ?_
    rintro e w' ⟨rfl, rfl⟩
    have e0 : srt [] = [] := List.eq_nil_of_length_eq_zero (srt_length [])
    rw [e0]
    exact ⟨rfl, h, World.grownBy.refl _ _⟩
  . obtain ⟨g, hA, _, _⟩ := h.first h0
    subst hA
    obtain ⟨hl, cs, ho, hc⟩ := h
    obtain ⟨rfl, hr⟩ := cells_ints hc
    subst hl
    rcases ho.2 with ⟨h1, _⟩ | ⟨g', cap, cur, hv, hB, hg, hcap, hmax, hsz, ht⟩
    . cases h1
    . injection hv with h1 h2 h3
      injection h1 with h1
      injection h1 with h1
      subst h1 h3
      have hl1 : (xs.map (Value.int .i64)).length = xs.length := List.length_map _
      have ht' : cur.toList.take xs.length = xs.map (Value.int .i64) := by
        have h9 := ht
        rw [show xs.length * kInt.size = xs.length from Nat.mul_one _] at h9
        exact h9
      have hH := holds_of_blockI hg ht'
      have hlt : g < w.heap.size := (Array.getElem?_eq_some_iff.1 hg).1
      have hs := calls_of_every_depth fun D => AnyS.slices_Sort_int_in Srt.lays D g 0 c xs w hH hlt (by omega)
      refine Calls.mono hs ?_
      rintro e w' ⟨rfl, q, os, rfl⟩
      refine ⟨rfl, ⟨srt_length xs, (srt xs).map (Value.int .i64), ?_, ints_cells fun x hx => hr x ((srt_perm xs).mem_iff.1 hx)⟩, grownBy_sortedI _⟩
      have hsz' : cur.size = c * 1 := hsz
      have := ownsRow_sortedI (n := q) (os := os) (ts := srt xs) (ss := xs) (srt_length xs) hB hg hcap hmax hsz'
      exact this
def Stirs (t : Nat) : Prop := t = 134 \/ t = 132 \/ t = 4
structure Stir (B : Nat) (w w' : World) : Prop where
  below : Below B w w'
  only : Mv.Only w w' (fun k => ∃ cs t fr, w.heap[k]? = some (.cells cs t fr) /\ Stirs t)
theorem Stir.refl (B : Nat) (w : World) : Stir B w w := ⟨Below.refl _ _, Mv.Only.refl _ _⟩
theorem Stir.ofBelow {B : Nat} {w w' : World} (h : Below w.heap.size w w') (hB : B <= w.heap.size) : Stir B w w' := ⟨h.mono hB, Mv.Only.ofBelow h _⟩
theorem Stir.trans {B : Nat} {a b c : World} (h : Stir B a b) (k : Stir B b c) : Stir B a c := by
  refine ⟨h.below.trans k.below, ⟨k.only.os.trans h.only.os, k.only.tape.trans h.only.tape, k.only.output.trans h.only.output, Nat.le_trans h.only.size k.only.size, fun i hi hS => ?_⟩⟩
  have h1 := h.only.block i hi hS
  rw [<- h1]
  refine k.only.block i (Nat.lt_of_lt_of_le hi h.only.size) ?_
  rintro ⟨cs, t, fr, hc, ht⟩
  rw [h1] at hc
  exact hS ⟨cs, t, fr, hc, ht⟩
theorem own_stir {α : Type} {K : Kind α} {B B' E n : Nat} {w w' : World} {v : Value} {xs : List α} (h : Kd.Own K w B' E (fun _ => False) v n xs) (hE : ¬ Stirs E) (k : Stir B w w') : Kd.Own K w' B' E (fun _ => False) v n xs := by
  obtain ⟨hl, cs, ho, hc⟩ := h
  refine Kd.Own.stay ⟨hl, cs, ho, hc⟩ (fun _ h => h.elim) fun g hg => k.only.block g (ho.lt g hg).2 ?_
  rintro ⟨cs2, t, fr, h2, ht⟩
  rcases ho.2 with ⟨rfl, _⟩ | ⟨g', cap, cur, rfl, _, hg', _⟩
  . cases hg
  . rw [Mv.ownBlock_some] at hg
    injection hg with hg
    subst hg
    rw [hg'] at h2
    injection h2 with h2
    injection h2 with _ h2
    subst h2
    exact hE ht
theorem blk_stir {B g t : Nat} {w w' : World} {cs : Array Value} (h : Qu.Blk w g t cs) (ht : ¬ Stirs t) (k : Stir B w w') : Qu.Blk w' g t cs := by
  refine h.as (k.only.block g h.lt ?_)
  rintro ⟨cs2, t2, fr, h2, ht2⟩
  rw [h.here] at h2
  injection h2 with h2
  injection h2 with _ h2
  subst h2
  exact ht ht2
def kPtr : Kind Nat where
  size := 1
  rep := fun _ _ q cs => cs = [.pointer (some ⟨q, 0, none⟩)]
  len := by rintro _ _ _ _ rfl; rfl
  stay := fun _ h => h
  more := fun _ h => h
theorem ptr_t : RowT Tryz.prog kPtr 64 91 (.pointer none) 1 8 :=
  ⟨Tryz.underlying64, by kernel_rfl, rfl, rfl, by omega, fun h => by
    obtain rfl := h
    intro u hu
    simp only [List.mem_cons, List.not_mem_nil, or_false] at hu
    subst hu; rfl⟩
theorem own_kept {α : Type} {K : Kind α} {w w' : World} {B B' E q n : Nat} {r : Option Nat} {l : List Qu.Pt} {v : Value} {xs : List α} (h : Kd.Own K w B E (fun _ => False) v n xs) (hq : Qu.IsQ w B' q r l) (hm : Qu.Moved w w' q r) (h1 : 134 ≠ E) (h2 : E ≠ 132) : Kd.Own K w' B E (fun _ => False) v n xs := by
  obtain ⟨hl, cs, ho, hc⟩ := h
  obtain ⟨a1, a2⟩ := hq.apart ho h1 h2
  refine Kd.Own.stay ⟨hl, cs, ho, hc⟩ (fun _ h => h.elim) fun g hg => hm.block g (ho.lt g hg).2 ?_ ?_
  . intro e; subst e; exact a1 hg.symm
  . intro e
    rcases a2 with a2 | a2
    . rw [a2] at e; cases e
    . exact a2 (by rw [hg]; exact e.symm)
theorem stir_moved {B q : Nat} {r : Option Nat} {l : List Qu.Pt} {w w' : World} (hq : Qu.IsQ w B q r l) (hm : Qu.Moved w w' q r) : Stir B w w' := by
  have hb := hq.toBelow hm
  refine ⟨hb, ⟨hm.os, hm.tape, hm.output, hm.size, fun i hi hS => ?_⟩⟩
  obtain ⟨_, v, a, hQ, rfl, _, _⟩ := hq
  refine hm.block i hi ?_ ?_
  . rintro rfl
    exact hS ⟨_, _, _, hQ.blk.here, .inr (.inl rfl)⟩
  . intro e
    rcases hQ.own.2 with ⟨h1, _⟩ | ⟨g, cap, cur, h1, _, hg, _⟩
    . rw [h1] at e; cases e
    . rw [h1, Mv.ownBlock_some] at e
      injection e with e
      subst e
      exact hS ⟨_, _, _, hg, .inl rfl⟩
structure Mkg (w : World) (B : Nat) (wv hv : Value) (qs : List (Nat × Option Nat)) (ls : List (List Int)) (h : List Bool) : Prop where
  len : qs.length = ls.length
  que : ∀ (i q : Nat) (r : Option Nat) (l : List Int), qs[i]? = some (q, r) -> ls[i]? = some l -> ∃ L, Qu.IsQ w B q r L /\ places L = l
  apart : ∀ (i j q : Nat) (r : Option Nat) (q' : Nat) (r' : Option Nat), i ≠ j -> qs[i]? = some (q, r) -> qs[j]? = some (q', r') -> q ≠ q' /\ (r = none \/ r ≠ r')
  had : Kd.Own kFlag w B 4 (fun _ => False) hv h.length h
  wait : Kd.Own kPtr w B 91 (fun _ => False) wv qs.length (qs.map (·.1))
  few : h.length <= 100000
  inn : ∀ l ∈ ls, l.length <= 100000 /\ ∀ m ∈ l, 0 <= m /\ m < (h.length : Int)
theorem Mkg.later {w w' : World} {B : Nat} {wv hv : Value} {qs : List (Nat × Option Nat)} {ls : List (List Int)} {h : List Bool} (k : Mkg w B wv hv qs ls h) (hb : Below w.heap.size w w') : Mkg w' B wv hv qs ls h :=
  ⟨k.len, fun i q r l h1 h2 => by obtain ⟨L, hL, e⟩ := k.que i q r l h1 h2; exact ⟨L, hL.below hb, e⟩, k.apart, k.had.later hb, k.wait.later hb, k.few, k.inn⟩
theorem Mkg.at_ {w : World} {B : Nat} {wv hv : Value} {qs : List (Nat × Option Nat)} {ls : List (List Int)} {h : List Bool} (k : Mkg w B wv hv qs ls h) {i q : Nat} {r : Option Nat} (hi : qs[i]? = some (q, r)) : ∃ g c, wv = .slice (some ⟨g, 0, none⟩) qs.length c /\ w.cell? ⟨g, i, none⟩ = some (.pointer (some ⟨q, 0, none⟩)) := by
  have hl := (List.getElem?_eq_some_iff.1 hi).1
  obtain ⟨A, c, e⟩ := k.wait.value
  have hw := k.wait
  rw [e] at hw
  obtain ⟨g, hA, _, _⟩ := hw.first (by omega)
  subst hA
  have hq : (qs.map (·.1))[i]? = some q := by rw [List.getElem?_map, hi]; rfl
  obtain ⟨g', o, cs, hA, _, _, hr, hc⟩ := hw.read.each i q hq
  injection hA with hA
  injection hA with h1 h2
  subst h1 h2
  have hr' : cs = [.pointer (some ⟨q, 0, none⟩)] := hr
  subst hr'
  have := hc 0 _ rfl
  rw [show 0 + i * kPtr.size + 0 = i by show 0 + i * 1 + 0 = i; omega] at this
  exact ⟨g, c, e, this⟩
theorem Mkg.flag {w : World} {B : Nat} {wv hv : Value} {qs : List (Nat × Option Nat)} {ls : List (List Int)} {h : List Bool} (k : Mkg w B wv hv qs ls h) {t : Nat} (ht : t < h.length) : ∃ g c, hv = .slice (some ⟨g, 0, none⟩) h.length c /\ w.cell? ⟨g, t, none⟩ = some (.bool (hadAt h (t : Int))) /\ w.frozen? ⟨g, t, none⟩ = false := by
  obtain ⟨A, c, e⟩ := k.had.value
  have hw := k.had
  rw [e] at hw
  obtain ⟨g, hA, _, _⟩ := hw.first (by omega)
  subst hA
  have e1 := List.getElem?_eq_getElem ht
  obtain ⟨g', o, cs, hA, _, _, hr, hc⟩ := hw.read.each t _ e1
  injection hA with hA
  injection hA with h1 h2
  subst h1 h2
  have hr' : cs = [.bool h[t]] := hr
  subst hr'
  have := hc 0 _ rfl
  rw [show 0 + t * kFlag.size + 0 = t by show 0 + t * 1 + 0 = t; omega] at this
  have h2 := (hw.cell (K := kFlag) ht (j := 0) (by decide)).2
  rw [show t * kFlag.size + 0 = t by show t * 1 + 0 = t; omega] at h2
  refine ⟨g, c, e, ?_, h2⟩
  rw [this]
  unfold hadAt
  rw [Int.toNat_natCast, e1]; rfl
theorem Mkg.popped {w w' : World} {B : Nat} {wv hv : Value} {qs : List (Nat × Option Nat)} {ls : List (List Int)} {h : List Bool} (k : Mkg w B wv hv qs ls h) {i q : Nat} {r : Option Nat} {L L' : List Qu.Pt} {l : List Int} (hi : qs[i]? = some (q, r)) (hl : ls[i]? = some l) (hQ : Qu.IsQ w B q r L) (hQ' : Qu.IsQ w' B q r L') (hm : Qu.Moved w w' q r) (hsub : (places L').length <= l.length /\ ∀ m ∈ places L', m ∈ l) : Mkg w' B wv hv qs (ls.set i (places L')) h := by
  have hil := (List.getElem?_eq_some_iff.1 hl).1
  refine ⟨by rw [List.length_set, k.len], fun j q2 r2 l2 h1 h2 => ?_, k.apart, own_kept k.had hQ hm (by decide) (by decide), own_kept k.wait hQ hm (by decide) (by decide), k.few, fun l2 h2 => ?_⟩
  . by_cases e : i = j
    . subst e
      rw [hi] at h1
      injection h1 with h1
      injection h1 with h1 h3
      subst h1 h3
      rw [List.getElem?_set_self hil] at h2
      injection h2 with h2
      exact ⟨L', hQ', h2⟩
    . rw [List.getElem?_set_ne e] at h2
      obtain ⟨M, hM, e2⟩ := k.que j q2 r2 l2 h1 h2
      obtain ⟨a1, a2⟩ := k.apart j i q2 r2 q r (fun x => e x.symm) h1 hi
      exact ⟨M, hM.far hQ hm a1 a2, e2⟩
  . rcases List.mem_or_eq_of_mem_set h2 with h3 | h3
    . exact k.inn l2 h3
    . subst h3
      obtain ⟨a1, a2⟩ := k.inn l (List.mem_of_getElem? hl)
      exact ⟨by omega, fun m hm2 => a2 m (hsub.2 m hm2)⟩
theorem Mkg.took {w : World} {B g c t : Nat} {wv : Value} {qs : List (Nat × Option Nat)} {ls : List (List Int)} {h : List Bool} (k : Mkg w B wv (.slice (some ⟨g, 0, none⟩) h.length c) qs ls h) (ht : t < h.length) : Mkg (w.setCell ⟨g, t, none⟩ (.bool true)) B wv (.slice (some ⟨g, 0, none⟩) h.length c) qs ls (take1 h (t : Int)) /\ Stir B w (w.setCell ⟨g, t, none⟩ (.bool true)) := by
  have e1 := List.getElem?_eq_getElem ht
  have hlow := k.had.low g rfl
  have h1 := Kd.Own.put (K := kFlag) (k := t) (j := 0) (x := h[t]) (x' := true) (a := [.bool h[t]]) (u := .bool true) k.had e1 (fun h => h) (by decide) rfl (fun _ h => h.elim)
  rw [show t * kFlag.size + 0 = t from Nat.mul_one t] at h1
  have hg := Qu.turned_at w g t (.bool true)
  have hlen : (take1 h (t : Int)).length = h.length := take1_length _ _
  obtain ⟨hl, cs, ho, hc⟩ := k.had
  have hblk : ∃ cur fr, w.heap[g]? = some (.cells cur 4 fr) := by
    rcases ho.2 with ⟨h1, _⟩ | ⟨g', cap, cur, h1, _, hg', _⟩
    . cases h1
    . injection h1 with h1
      injection h1 with h1
      injection h1 with h1
      subst h1
      exact ⟨cur, _, hg'⟩
  have htk : take1 h (t : Int) = h.set t true := by unfold take1; rw [Int.toNat_natCast]
  refine ⟨⟨k.len, fun i q r l h2 h3 => ?_, k.apart, ?_, ?_, by rw [hlen]; exact k.few, fun l hl => by rw [hlen]; exact k.inn l hl⟩, ?_, ?_⟩
  . obtain ⟨L, hL, e⟩ := k.que i q r l h2 h3
    obtain ⟨a1, a2⟩ := hL.apart ho (by decide) (by decide)
    exact ⟨L, hL.grown hg a1 a2, e⟩
  . rw [hlen, htk]; exact h1.1
  . obtain ⟨hl2, cs2, ho2, hc2⟩ := k.wait
    refine Kd.Own.stay ⟨hl2, cs2, ho2, hc2⟩ (fun _ h => h.elim) fun b hb => hg.block b (ho2.lt b hb).2 ?_
    intro e
    rcases Qu.own_own_ne ho2 ho (by decide) with a | a
    . rw [a] at hb; cases hb
    . exact a (by rw [hb, e]; rfl)
  . exact (Below.refl B w).setCell hlow.1 _
  . refine ⟨rfl, rfl, rfl, by simp [World.setCell], fun b hb hS => ?_⟩
    refine Below.heap_setCell w ⟨g, t, none⟩ _ b ?_
    rintro rfl
    obtain ⟨cur, fr, hcur⟩ := hblk
    exact hS ⟨cur, _, fr, hcur, .inr (.inr rfl)⟩
end Go.Proofs.YtljmddjlnlmenaaGreat.Dl

end

section
namespace Go.Proofs.YtljmddjlnlmenaaGreat.Dl
open Go.ChangeShapes Go.WideShapes Go.ChangeAt Go.RowKit
open Ap (Unt Tir Prm kUnt kTir row_Unt row_Tir)
open Kd (Kind Row RowT kInt kFlag row_int)
open Ko (Out Told Told2 At row_on)
open Ct (nth nth_some netAt netsL sumL UnitsMay PlacesMay May mayB mayB_iff Far take_next lessU SumOk PlacesIn i64_t own_down told2_of)
def Dears (e : Ending) (w w' : World) (B : Nat) (wv hv : Value) (qs : List (Nat × Option Nat)) (ls : List (List Int)) (h : List Bool) (i : Nat) (ll : List Int) : Prop :=
  Stir B w w' /\ match first h ll with
    | none => e = .returned (.tuple #[.int .i64 0, .bool false])
    | some (m, l') => e = .returned (.tuple #[.int .i64 m, .bool true]) /\ Mkg w' B wv hv qs (ls.set i l') (take1 h m)
structure Dst (w1 wx : World) (B : Nat) (wv hv : Value) (qs : List (Nat × Option Nat)) (ls : List (List Int)) (h : List Bool) (i : Nat) (ll l : List Int) : Prop where
  mem : Mkg wx B wv hv qs (ls.set i l) h
  stir : Stir B w1 wx
  same : first h l = first h ll
  idx : i < ls.length
theorem set_same {α : Type} {ls : List α} {i : Nat} {l : α} (h : ls[i]? = some l) : ls.set i l = ls := by
  apply List.ext_getElem?
  intro j
  rw [List.getElem?_set]
  by_cases e : i = j
  . subst e
    rw [if_pos rfl, if_pos (List.getElem?_eq_some_iff.1 h).1, h]
  . rw [if_neg e]
theorem stirs_making : ¬ Stirs 67 := by unfold Stirs; decide
set_option maxHeartbeats 2000000 in
theorem dearest_any (p : Prm) (l : Prm.Lay) (A : Option Addr) (n c : Nat) (B : Nat) (wv hv : Value) (qs : List (Nat × Option Nat)) (ls : List (List Int)) (h : List Bool) (i q : Nat) (r : Option Nat) (ll : List Int) (w : World) (hB : B <= w.heap.size) (hk : Mkg w B wv hv qs ls h) (hi : qs[i]? = some (q, r)) (hl : ls[i]? = some ll) :
    Calls Tryz.prog 71 #[.agg #[.string p.id, .int .i64 p.kind, .int .i64 p.priority, .string p.group, .string p.code, .bool p.closes, .slice l.scope.skus.A l.scope.skus.n l.scope.skus.c, .slice l.scope.cats.A l.scope.cats.n l.scope.cats.c, .int .i64 p.least, .int .i64 p.rate, .int .i64 p.amount, .int .i64 p.buy, .int .i64 p.get, .slice l.parts.A l.parts.n l.parts.c, .slice l.tiers.A l.tiers.n l.tiers.c, .slice A n c, wv, hv], .int .i64 (i : Int)] w fun e w' => Dears e w w' B wv hv qs ls h i ll := by
  obtain ⟨w1, hw1⟩ : ∃ w1, w.alloc (.cells #[.string p.id, .int .i64 p.kind, .int .i64 p.priority, .string p.group, .string p.code, .bool p.closes, .slice l.scope.skus.A l.scope.skus.n l.scope.skus.c, .slice l.scope.cats.A l.scope.cats.n l.scope.cats.c, .int .i64 p.least, .int .i64 p.rate, .int .i64 p.amount, .int .i64 p.buy, .int .i64 p.get, .slice l.parts.A l.parts.n l.parts.c, .slice l.tiers.A l.tiers.n l.tiers.c, .slice A n c, wv, hv] 67) = w1 := ⟨_, rfl⟩
  have hb1 : Below w.heap.size w w1 := by rw [<- hw1]; exact (Below.refl _ _).alloc (Nat.le_refl _) _
  have hx : Qu.Blk w1 w.heap.size 67 #[.string p.id, .int .i64 p.kind, .int .i64 p.priority, .string p.group, .string p.code, .bool p.closes, .slice l.scope.skus.A l.scope.skus.n l.scope.skus.c, .slice l.scope.cats.A l.scope.cats.n l.scope.cats.c, .int .i64 p.least, .int .i64 p.rate, .int .i64 p.amount, .int .i64 p.buy, .int .i64 p.get, .slice l.parts.A l.parts.n l.parts.c, .slice l.tiers.A l.tiers.n l.tiers.c, .slice A n c, wv, hv] := by rw [<- hw1]; exact Qu.Blk.new w _ _
  have hk1 := hk.later hb1
  obtain ⟨g0, c0, e0, hc0⟩ := hk1.at_ hi
  subst e0
  have hq0 : i < qs.length := (List.getElem?_eq_some_iff.1 hi).1
  have i0 : (0 : Int) <= (i : Int) := by omega
  have i1 : (i : Int) < (qs.length : Int) := by omega
  have x16 := hx.cell 16
  have hil := (List.getElem?_eq_some_iff.1 hl).1
  have HD0 : Hid (Dst w1 w1 B (.slice (some ⟨g0, 0, none⟩) qs.length c0) hv qs ls h i ll ll) := Lib.hid ⟨by rw [set_same hl]; exact hk1, Stir.refl _ _, rfl, hil⟩
  have HK := Lib.hid (And.intro (Stir.ofBelow hb1 hB) hx)
  have HI := Lib.hid hi
  have HLn := Lib.hid (hk.inn ll (List.mem_of_getElem? hl)).1
  have HF := Lib.hid hk.few
  clear hk hi hl hb1 hx hk1 hil hB
  go_enter Tryz.func71, Tryz.ntmps71
  go_wp2_with fail
  clear hc0 x16 hw1
  go_loopg [8] ll.length (fun kx s8 wx => ∃ l2, l2.length <= kx /\ Hid (Dst w1 wx B (.slice (some ⟨g0, 0, none⟩) qs.length c0) hv qs ls h i ll l2))
  case atStart => exact ⟨ll, Nat.le_refl _, HD0⟩
  case round =>
    clear HD0
    obtain ⟨l2, hl2, HD⟩ := hrel
    have hset : (ls.set i l2)[i]? = some l2 := List.getElem?_set_self HD.out.idx
    obtain ⟨L, hQ, eL⟩ := HD.out.mem.que i q r l2 HI.out hset
    have HS := Lib.hid hset
    clear hset
    cases L with
    | nil =>
      have HLq := Lib.hid (Qu.qlen_any B q r [] wr hQ)
      have hn : first h ll = none := by rw [<- HD.out.same, <- eL]; rfl
      have HE : Hid (Dears (.returned (.tuple #[.int .i64 0, .bool false])) w wr B (.slice (some ⟨g0, 0, none⟩) qs.length c0) hv qs ls h i ll) := Lib.hid (by
        unfold Dears
        rw [hn]
        exact ⟨HK.out.1.trans HD.out.stir, rfl⟩)
      clear hQ eL hn hl2
      go_wp2_with fail
      refine HLq.out.mono ?_
      rintro e w3 ⟨rfl, rfl⟩
      go_wp2
      refine bodyPost_ret (results_tmp2 rfl _ _ _) rfl ?_
      exact HE.out
    | cons x L =>
      obtain ⟨x1, x2⟩ := x
      have hmem : x2 ∈ l2 := by rw [<- eL]; exact List.mem_cons_self
      obtain ⟨b1, b2⟩ := HD.out.mem.inn l2 (List.mem_of_getElem? HS.out)
      obtain ⟨m0, m1⟩ := b2 x2 hmem
      obtain ⟨t, ht⟩ : ∃ t : Nat, x2 = (t : Int) := ⟨x2.toNat, by omega⟩
      subst ht
      have htn : t < h.length := by omega
      have hlen2 : l2.length = L.length + 1 := by rw [<- eL]; unfold places; rw [List.length_map, List.length_cons]
      have HLq := Lib.hid (Qu.qlen_any B q r ((x1, (t : Int)) :: L) wr hQ)
      have HP := Lib.hid (Qu.pop_some B q r (x1, (t : Int)) L wr hQ (by omega))
      have HQ := Lib.hid (And.intro hQ (And.intro eL hlen2))
      have l1 : (0 : Int) < (L.length : Int) + 1 := by omega
      have HM := Lib.hid (show L.length < gk by omega)
      have t0 : (0 : Int) <= (t : Int) := by omega
      have t1 : (t : Int) < (h.length : Int) := by omega
      clear hQ eL hlen2 hmem b1 b2 hl2
      go_wp2_with fail
      refine HLq.out.mono ?_
      rintro e w3 ⟨rfl, rfl⟩
      go_wp2_with fail
      refine HP.out.mono ?_
      rintro e w4 ⟨rfl, hq4, hm4⟩
      have hs4 := HD.out.stir.trans (stir_moved HQ.out.1 hm4)
      have hk4 := HD.out.mem.popped HI.out HS.out HQ.out.1 hq4 hm4 ⟨by rw [HQ.out.2.2]; unfold places; rw [List.length_map]; omega, fun m hm => by rw [<- HQ.out.2.1]; exact List.mem_cons_of_mem _ hm⟩
      rw [List.set_set] at hk4
      obtain ⟨g2, c2, e2, hf2, hz2⟩ := hk4.flag htn
      have hx4 := blk_stir HK.out.2 stirs_making hs4
      have y17 := hx4.cell 17
      have HX4 := Lib.hid hx4
      have HQ4 := Lib.hid (And.intro hs4 hk4)
      clear hq4 hm4 hs4 hk4 hx4
      subst e2
      cases hb : hadAt h (t : Int) with
      | true =>
        rw [hb] at hf2
        have HD4 : Hid (Dst w1 w4 B (.slice (some ⟨g0, 0, none⟩) qs.length c0) (.slice (some ⟨g2, 0, none⟩) h.length c2) qs ls h i ll (places L)) := Lib.hid ⟨HQ4.out.2, HQ4.out.1, by
          rw [<- HD.out.same, <- HQ.out.2.1]
          show first h (places L) = first h ((t : Int) :: places L)
          rw [show first h ((t : Int) :: places L) = first h (places L) by rw [first, if_pos hb]], HD.out.idx⟩
        clear hb
        go_wp2_with fail
        go_roundg L.length
        case measure => exact HM.out
        case rel => exact ⟨places L, by unfold places; rw [List.length_map]; exact Nat.le_refl _, HD4⟩
      | false =>
        rw [hb] at hf2
        have ht4 := HQ4.out.2.took htn
        have hfi : first h ll = some ((t : Int), places L) := by
          rw [<- HD.out.same, <- HQ.out.2.1]
          show first h ((t : Int) :: places L) = some ((t : Int), places L)
          rw [first, if_neg (by rw [hb]; decide)]
        have HE : Hid (Dears (.returned (.tuple #[.int .i64 (t : Int), .bool true])) w (w4.setCell ⟨g2, t, none⟩ (.bool true)) B (.slice (some ⟨g0, 0, none⟩) qs.length c0) (.slice (some ⟨g2, 0, none⟩) h.length c2) qs ls h i ll) := Lib.hid (by
          unfold Dears
          rw [hfi]
          exact ⟨(HK.out.1.trans HQ4.out.1).trans ht4.2, rfl, ht4.1⟩)
        clear hb ht4 hfi
        go_wp2
        refine bodyPost_ret (results_tmp2 rfl _ _ _) rfl ?_
        exact HE.out
end Go.Proofs.YtljmddjlnlmenaaGreat.Dl

end
