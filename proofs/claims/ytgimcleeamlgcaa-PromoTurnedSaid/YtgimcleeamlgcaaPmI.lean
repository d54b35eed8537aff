/- A promotion in a box of the call's own, turned: its lists are rows of the call's own, all apart. (made by wip/gen-walk12.py) -/
import Derived.Test.YtgimcleeamlgcaaPmZ
set_option maxRecDepth 100000

set_option linter.unusedVariables false
namespace Go.Proofs.Ytgimcleeamlgcaa.Pm
open Go.ChangeShapes Go.WideShapes Go.ChangeAt Go.RowKit
open Ap (Scp Prt Tir Prm kPrm kPrt kTir row_Prm)
open Kd (Row Own kStr kInt Cells RowT Lst Fit Agree Kind)
open Pr (promoB PrmSmall)
open Py (Anew Played)
open Mv (Only)

/-- Where what its parts lead to lies. -/
def PF (W : World) (B : Nat) (m : Prm.Lay) : Nat → Prop := fun x => x < W.heap.size ∧ B ≤ x ∧ (Value.slice m.parts.A m.parts.n m.parts.c).ownBlock ≠ some x ∧ (Value.slice m.scope.skus.A m.scope.skus.n m.scope.skus.c).ownBlock ≠ some x ∧ (Value.slice m.scope.cats.A m.scope.cats.n m.scope.cats.c).ownBlock ≠ some x ∧ (Value.slice m.tiers.A m.tiers.n m.tiers.c).ownBlock ≠ some x

/-- A promotion's lists: rows of the call's own. -/
structure Lists (W : World) (B : Nat) (s : Scp) (ps : List Prt) (ts : List Tir) (m : Prm.Lay) : Prop where
  skus : Own kStr W B 9 (fun _ => False) (.slice m.scope.skus.A m.scope.skus.n m.scope.skus.c) m.scope.skus.n s.skus
  cats : Own kStr W B 9 (fun _ => False) (.slice m.scope.cats.A m.scope.cats.n m.scope.cats.c) m.scope.cats.n s.cats
  apart : ∀ g, (Value.slice m.scope.skus.A m.scope.skus.n m.scope.skus.c).ownBlock = some g → (Value.slice m.scope.cats.A m.scope.cats.n m.scope.cats.c).ownBlock ≠ some g
  parts : Own kPrt W B 35 (PF W B m) (.slice m.parts.A m.parts.n m.parts.c) m.parts.n ps
  tiers : Own kTir W B 37 (fun _ => False) (.slice m.tiers.A m.tiers.n m.tiers.c) m.tiers.n ts

/-- Its numbers and texts are no greater than Go's. -/
def Nums (q : Prm) : Prop := q.id.size ≤ maxLen ∧ q.group.size ≤ maxLen ∧ q.code.size ≤ maxLen ∧ (-9223372036854775808 ≤ q.kind ∧ q.kind ≤ 9223372036854775807) ∧ (-9223372036854775808 ≤ q.priority ∧ q.priority ≤ 9223372036854775807) ∧ (-9223372036854775808 ≤ q.least ∧ q.least ≤ 9223372036854775807) ∧ (-9223372036854775808 ≤ q.rate ∧ q.rate ≤ 9223372036854775807) ∧ (-9223372036854775808 ≤ q.amount ∧ q.amount ≤ 9223372036854775807) ∧ (-9223372036854775808 ≤ q.buy ∧ q.buy ≤ 9223372036854775807) ∧ (-9223372036854775808 ≤ q.get ∧ q.get ≤ 9223372036854775807)

theorem own_types {α β : Type} {K : Kind α} {K' : Kind β} {W : World} {B B' E E' n n' : Nat} {F F' : Nat → Prop} {v v' : Value} {xs : List α} {ys : List β} (h : Own K W B E F v n xs) (h' : Own K' W B' E' F' v' n' ys) (hE : E ≠ E') : ∀ g, v.ownBlock = some g → v'.ownBlock ≠ some g := by
  intro g hg hg'
  obtain ⟨_, cs, ho, _⟩ := h
  obtain ⟨_, cs', ho', _⟩ := h'
  rcases ho.2 with ⟨rfl, _⟩ | ⟨g1, cap, cur, rfl, _, hh, _⟩
  · cases hg
  · rcases ho'.2 with ⟨rfl, _⟩ | ⟨g2, cap2, cur2, rfl, _, hh2, _⟩
    · cases hg'
    · have e1 : g1 = g := by injection hg
      have e2 : g2 = g := by injection hg'
      subst e1
      subst e2
      rw [hh] at hh2
      injection hh2 with hh2
      injection hh2 with _ ht
      exact hE ht

theorem own_grown {α : Type} {K : Kind α} {W W' : World} {B E n : Nat} {F : Nat → Prop} {v : Value} {xs : List α} {r : Option Nat} (h : Own K W B E F v n xs) (hg : W.grownBy W' r) (hr : ∀ g, v.ownBlock = some g → r ≠ some g) (hF : ∀ x, F x → x < W.heap.size ∧ r ≠ some x) : Own K W' B E F v n xs :=
  h.stay (fun x hx => hg.block x (hF x hx).1 fun e => (hF x hx).2 e.symm) fun g hg2 => hg.block g (h.low g hg2).2 fun e => hr g hg2 e.symm

section
variable {w W W' : World} {B b : Nat} {q : Prm} {s : Scp} {ps : List Prt} {ts : List Tir} {m : Prm.Lay}
theorem Lists.box (h : Lists W B s ps ts m) {i : Nat} (hb : b < B) (u : Value) : Lists (W.setCell ⟨b, i, none⟩ u) B s ps ts m := by
  have hs : (W.setCell ⟨b, i, none⟩ u).heap.size = W.heap.size := by simp
  have far : ∀ x, B ≤ x → (W.setCell ⟨b, i, none⟩ u).heap[x]? = W.heap[x]? := fun x hx => Below.heap_setCell W ⟨b, i, none⟩ u x (show x ≠ b by omega)
  exact ⟨h.skus.stay (fun _ h => h.elim) fun g hg => far g (h.skus.low g hg).1, h.cats.stay (fun _ h => h.elim) fun g hg => far g (h.cats.low g hg).1, h.apart, (h.parts.stay (fun x hx => far x hx.2.1) fun g hg => far g (h.parts.low g hg).1).more fun x hx => ⟨by rw [hs]; exact hx.1, hx.2⟩, h.tiers.stay (fun _ h => h.elim) fun g hg => far g (h.tiers.low g hg).1⟩

theorem Lists.puts (hb : b < B) : ∀ (vs : List Value) (W : World) (o : Nat), Lists W B s ps ts m → Lists (W.setCells b o vs) B s ps ts m
  | [], W, o, h => h
  | v :: r, W, o, h => Lists.puts hb r _ (o + 1) (h.box hb v)

theorem Lists.later (h : Lists W B s ps ts m) (hb : Below W.heap.size W W') : Lists W' B s ps ts m :=
  ⟨h.skus.later hb, h.cats.later hb, h.apart, (h.parts.stay (fun x hx => hb.block x hx.1) fun g hg => hb.block g (h.parts.low g hg).2).more fun x hx => ⟨Nat.lt_of_lt_of_le hx.1 hb.size, hx.2⟩, h.tiers.later hb⟩

theorem Lists.noParts (h : Lists W B s ps ts m) : Lists W B s [] ts ⟨m.scope, ⟨none, 0, 0⟩, m.tiers⟩ := ⟨h.skus, h.cats, h.apart, Own.nil _ _ _ _ _, h.tiers⟩

theorem Lists.noTiers (h : Lists W B s ps ts m) : Lists W B s ps [] ⟨m.scope, m.parts, ⟨none, 0, 0⟩⟩ :=
  ⟨h.skus, h.cats, h.apart, h.parts.more fun x hx => ⟨hx.1, hx.2.1, hx.2.2.1, hx.2.2.2.1, hx.2.2.2.2.1, fun e => by cases e⟩, Own.nil _ _ _ _ _⟩

theorem new_ne {g n c x : Nat} {v : Value} (hfr : v.ownBlock = some g ∨ W.heap.size ≤ g) (hx : x < W.heap.size) (hv : v.ownBlock ≠ some x) : (Value.slice (some ⟨g, 0, none⟩) n c).ownBlock ≠ some x := fun e => by
  have e2 : g = x := by
    have e3 : some g = some x := e
    injection e3
  subst e2
  rcases hfr with h5 | h5
  · exact hv h5
  · omega

theorem Lists.pushTier (h : Lists W B s ps ts m) {y : Tir} {g cap : Nat} (hown : Own kTir W' B 37 (fun _ => False) (.slice (some ⟨g, 0, none⟩) (m.tiers.n + 1) cap) (m.tiers.n + 1) (ts ++ [y])) (hgrow : W.grownBy W' (Value.slice m.tiers.A m.tiers.n m.tiers.c).ownBlock) (hfr : (Value.slice m.tiers.A m.tiers.n m.tiers.c).ownBlock = some g ∨ W.heap.size ≤ g) :
    Lists W' B s ps (ts ++ [y]) ⟨m.scope, m.parts, ⟨some ⟨g, 0, none⟩, m.tiers.n + 1, cap⟩⟩ :=
  ⟨own_grown h.skus hgrow (own_types h.skus h.tiers (by decide)) fun _ h => h.elim, own_grown h.cats hgrow (own_types h.cats h.tiers (by decide)) fun _ h => h.elim, h.apart,
   (own_grown h.parts hgrow (own_types h.parts h.tiers (by decide)) fun x hx => ⟨hx.1, hx.2.2.2.2.2⟩).more fun x hx => ⟨Nat.lt_of_lt_of_le hx.1 hgrow.size, hx.2.1, hx.2.2.1, hx.2.2.2.1, hx.2.2.2.2.1, new_ne hfr hx.1 hx.2.2.2.2.2⟩, hown⟩

theorem Lists.pushSku (h : Lists W B s ps ts m) {y : ByteArray} {g cap : Nat} (hown : Own kStr W' B 9 (fun _ => False) (.slice (some ⟨g, 0, none⟩) (m.scope.skus.n + 1) cap) (m.scope.skus.n + 1) (s.skus ++ [y])) (hgrow : W.grownBy W' (Value.slice m.scope.skus.A m.scope.skus.n m.scope.skus.c).ownBlock) (hfr : (Value.slice m.scope.skus.A m.scope.skus.n m.scope.skus.c).ownBlock = some g ∨ W.heap.size ≤ g) :
    Lists W' B ⟨s.skus ++ [y], s.cats⟩ ps ts ⟨⟨⟨some ⟨g, 0, none⟩, m.scope.skus.n + 1, cap⟩, m.scope.cats⟩, m.parts, m.tiers⟩ :=
  ⟨hown, own_grown h.cats hgrow (fun k hk e => h.apart k e hk) fun _ h => h.elim, fun k hk hk2 => new_ne (n := m.scope.skus.n + 1) (c := cap) hfr (h.cats.low k hk2).2 (fun e => h.apart k e hk2) hk,
   (own_grown h.parts hgrow (own_types h.parts h.skus (by decide)) fun x hx => ⟨hx.1, hx.2.2.2.1⟩).more fun x hx => ⟨Nat.lt_of_lt_of_le hx.1 hgrow.size, hx.2.1, hx.2.2.1, new_ne hfr hx.1 hx.2.2.2.1, hx.2.2.2.2⟩, own_grown h.tiers hgrow (own_types h.tiers h.skus (by decide)) fun _ h => h.elim⟩

theorem Lists.pushPart (h : Lists W B s ps ts m) {y : Prt} {g cap : Nat} (hown : Own kPrt W' B 35 (PF W B m) (.slice (some ⟨g, 0, none⟩) (m.parts.n + 1) cap) (m.parts.n + 1) (ps ++ [y])) (hgrow : W.grownBy W' (Value.slice m.parts.A m.parts.n m.parts.c).ownBlock) (hfr : (Value.slice m.parts.A m.parts.n m.parts.c).ownBlock = some g ∨ W.heap.size ≤ g) :
    Lists W' B s (ps ++ [y]) ts ⟨m.scope, ⟨some ⟨g, 0, none⟩, m.parts.n + 1, cap⟩, m.tiers⟩ :=
  ⟨own_grown h.skus hgrow (own_types h.skus h.parts (by decide)) fun _ h => h.elim, own_grown h.cats hgrow (own_types h.cats h.parts (by decide)) fun _ h => h.elim, h.apart,
   hown.more fun x hx => ⟨Nat.lt_of_lt_of_le hx.1 hgrow.size, hx.2.1, new_ne hfr hx.1 hx.2.2.1, hx.2.2.2⟩, own_grown h.tiers hgrow (own_types h.tiers h.parts (by decide)) fun _ h => h.elim⟩

theorem Lists.holds (h : Lists W B q.scope q.parts q.tiers m) (hn : Nums q) : Ap.Prm.Holds W (· < W.heap.size) q m := by
  obtain ⟨n1, n2, n3, n4, n5, n6, n7, n8, n9, n10⟩ := hn
  exact ⟨n1, n4, n5, n2, n3, ⟨⟨h.skus.read, h.skus.fit⟩, ⟨h.cats.read, h.cats.fit⟩⟩, n6, n7, n8, n9, n10, ⟨(h.parts.more (G := (· < W.heap.size)) fun x hx => hx.1).row fun g hg => (h.parts.low g hg).2, h.parts.fit⟩, ⟨h.tiers.read, h.tiers.fit⟩⟩

/-- A promotion in a box, its lists the call's own. -/
structure Bx (w W : World) (B b : Nat) (q : Prm) (m : Prm.Lay) : Prop where
  blk : Qu.Blk W b 28 #[.string q.id, .int .i64 q.kind, .int .i64 q.priority, .string q.group, .string q.code, .bool q.closes, .slice m.scope.skus.A m.scope.skus.n m.scope.skus.c, .slice m.scope.cats.A m.scope.cats.n m.scope.cats.c, .int .i64 q.least, .int .i64 q.rate, .int .i64 q.amount, .int .i64 q.buy, .int .i64 q.get, .slice m.parts.A m.parts.n m.parts.c, .slice m.tiers.A m.tiers.n m.tiers.c]
  low : w.heap.size ≤ b
  lt : b < B
  sz : B ≤ W.heap.size
  below : Below w.heap.size w W
  nums : Nums q
  slight : Slight q
  lists : Lists W B q.scope q.parts q.tiers m

theorem Bx.later (h : Bx w W B b q m) (hb : Below W.heap.size W W') : Bx w W' B b q m := ⟨h.blk.below hb, h.low, h.lt, Nat.le_trans h.sz hb.size, h.below.trans (hb.mono h.below.size), h.nums, h.slight, h.lists.later hb⟩

theorem Bx.stored {q' : Prm} {m' : Prm.Lay} {i : Nat} {v : Value} (h : Bx w W B b q m) (hsz : B ≤ W'.heap.size) (hbel : Below w.heap.size w W') (hl : Lists W' B q'.scope q'.parts q'.tiers m') (hb2 : Qu.Blk (W'.setCell ⟨b, i, none⟩ v) b 28 #[.string q'.id, .int .i64 q'.kind, .int .i64 q'.priority, .string q'.group, .string q'.code, .bool q'.closes, .slice m'.scope.skus.A m'.scope.skus.n m'.scope.skus.c, .slice m'.scope.cats.A m'.scope.cats.n m'.scope.cats.c, .int .i64 q'.least, .int .i64 q'.rate, .int .i64 q'.amount, .int .i64 q'.buy, .int .i64 q'.get, .slice m'.parts.A m'.parts.n m'.parts.c, .slice m'.tiers.A m'.tiers.n m'.tiers.c]) (hn : Nums q') (hs : Slight q') : Bx w (W'.setCell ⟨b, i, none⟩ v) B b q' m' :=
  ⟨hb2, h.low, h.lt, by simpa using hsz, hbel.setCell h.low v, hn, hs, hl.box h.lt v⟩

theorem Bx.first {p' : Prm} {l' : Prm.Lay} (h : Boxed w W b p' l') (hn : Anew W W' q m) (hs : Slight q) : Bx w (W'.setCells b 0 [.string q.id, .int .i64 q.kind, .int .i64 q.priority, .string q.group, .string q.code, .bool q.closes, .slice m.scope.skus.A m.scope.skus.n m.scope.skus.c, .slice m.scope.cats.A m.scope.cats.n m.scope.cats.c, .int .i64 q.least, .int .i64 q.rate, .int .i64 q.amount, .int .i64 q.buy, .int .i64 q.get, .slice m.parts.A m.parts.n m.parts.c, .slice m.tiers.A m.tiers.n m.tiers.c]) W.heap.size b q m := by
  have hlt := h.blk.lt
  have hH := hn.holds
  refine ⟨Kd.blk_puts [.string q.id, .int .i64 q.kind, .int .i64 q.priority, .string q.group, .string q.code, .bool q.closes, .slice m.scope.skus.A m.scope.skus.n m.scope.skus.c, .slice m.scope.cats.A m.scope.cats.n m.scope.cats.c, .int .i64 q.least, .int .i64 q.rate, .int .i64 q.amount, .int .i64 q.buy, .int .i64 q.get, .slice m.parts.A m.parts.n m.parts.c, .slice m.tiers.A m.tiers.n m.tiers.c] W' 0 _ (h.blk.below hn.below), h.low, hlt, Nat.le_trans hn.below.size (Py.only_puts _ W' 0 (Only.refl W' (Mv.one b))).size, Kd.below_puts h.low _ W' 0 (h.below.trans (hn.below.mono h.below.size)), ⟨hH.id, hH.group, hH.code, hH.kind, hH.priority, hH.least, hH.rate, hH.amount, hH.buy, hH.get⟩, hs, Lists.puts hlt _ W' 0 ⟨hn.skus, hn.cats, hn.apart, hn.parts.more fun x hx => ⟨hx.1.1, hx.2.1, hx.1.2, hx.2.2.1, hx.2.2.2.1, hx.2.2.2.2⟩, hn.tiers⟩⟩

theorem Bx.right (h : Bx w W B b q m) : Calls Try.prog 11 #[.agg #[.string q.id, .int .i64 q.kind, .int .i64 q.priority, .string q.group, .string q.code, .bool q.closes, .slice m.scope.skus.A m.scope.skus.n m.scope.skus.c, .slice m.scope.cats.A m.scope.cats.n m.scope.cats.c, .int .i64 q.least, .int .i64 q.rate, .int .i64 q.amount, .int .i64 q.buy, .int .i64 q.get, .slice m.parts.A m.parts.n m.parts.c, .slice m.tiers.A m.tiers.n m.tiers.c]] W fun e w' => e = .returned (.bool (promoB q)) ∧ Below W.heap.size W w' := promo_any q m W (h.lists.holds h.nums) (h.slight.small (h.lists.holds h.nums))

theorem Bx.rright (h : Bx w W B b q m) : Calls Try.prog 12 #[.agg #[.string q.id, .int .i64 q.kind, .int .i64 q.priority, .string q.group, .string q.code, .bool q.closes, .slice m.scope.skus.A m.scope.skus.n m.scope.skus.c, .slice m.scope.cats.A m.scope.cats.n m.scope.cats.c, .int .i64 q.least, .int .i64 q.rate, .int .i64 q.amount, .int .i64 q.buy, .int .i64 q.get, .slice m.parts.A m.parts.n m.parts.c, .slice m.tiers.A m.tiers.n m.tiers.c]] W fun e w' => e = .returned (.bool (promoB q)) ∧ Below W.heap.size W w' := Pr.rpromo_any q m W (h.lists.holds h.nums) (h.slight.small (h.lists.holds h.nums))

/-- A row of its lists is not its box. -/
theorem Bx.far {v : Value} (h : Bx w W B b q m) (hv : ∀ g, v.ownBlock = some g → B ≤ g ∧ g < W.heap.size) : v.ownBlock ≠ some b := fun e => by
  have := (hv b e).1
  have := h.lt
  omega

theorem Bx.pushPart (h : Bx w W B b q m) {z : Int} {g cap : Nat} (hown : Own kPrt W' B 35 (PF W B m) (.slice (some ⟨g, 0, none⟩) (m.parts.n + 1) cap) (m.parts.n + 1) (q.parts ++ [⟨⟨[], []⟩, z⟩])) (hgrow : W.grownBy W' (Value.slice m.parts.A m.parts.n m.parts.c).ownBlock) (hfr : (Value.slice m.parts.A m.parts.n m.parts.c).ownBlock = some g ∨ W.heap.size ≤ g) (hp : q.parts.length ≤ 3) (hz : -9223372036854775808 ≤ z ∧ z ≤ 9223372036854775807) :
    Qu.Blk W' b 28 #[.string q.id, .int .i64 q.kind, .int .i64 q.priority, .string q.group, .string q.code, .bool q.closes, .slice m.scope.skus.A m.scope.skus.n m.scope.skus.c, .slice m.scope.cats.A m.scope.cats.n m.scope.cats.c, .int .i64 q.least, .int .i64 q.rate, .int .i64 q.amount, .int .i64 q.buy, .int .i64 q.get, .slice m.parts.A m.parts.n m.parts.c, .slice m.tiers.A m.tiers.n m.tiers.c] ∧ Bx w (W'.setCell ⟨b, 13, none⟩ (.slice (some ⟨g, 0, none⟩) (m.parts.n + 1) cap)) B b { q with parts := q.parts ++ [⟨⟨[], []⟩, z⟩] } ⟨m.scope, ⟨some ⟨g, 0, none⟩, m.parts.n + 1, cap⟩, m.tiers⟩ := by
  have hbk := h.blk.grown hgrow (fun e => h.far h.lists.parts.low e.symm)
  refine ⟨hbk, h.stored (Nat.le_trans h.sz hgrow.size) (h.below.grown hgrow h.below.size fun k hk => by have := (h.lists.parts.low k hk).1; have := h.low; have := h.lt; omega) (h.lists.pushPart hown hgrow hfr) (hbk.put 13 _) h.nums ⟨h.slight.skus, h.slight.cats, fun k x hx => ?_, ?_, h.slight.tiers⟩⟩
  · have hx' : (q.parts ++ [(⟨⟨[], []⟩, z⟩ : Prt)])[k]? = some x := hx
    rw [List.getElem?_append] at hx'
    split at hx'
    · exact h.slight.each k x hx'
    · next hlt =>
      have := (List.getElem?_eq_some_iff.1 hx').1
      rw [List.length_singleton] at this
      rw [show k - q.parts.length = 0 by omega] at hx'
      injection hx' with hx'
      subst hx'
      exact ⟨by simp, by simp⟩
  · show (q.parts ++ [(⟨⟨[], []⟩, z⟩ : Prt)]).length ≤ 1000000000000
    rw [List.length_append, List.length_singleton]; omega

theorem Bx.pushTier (h : Bx w W B b q m) {y : Tir} {g cap : Nat} (hown : Own kTir W' B 37 (fun _ => False) (.slice (some ⟨g, 0, none⟩) (m.tiers.n + 1) cap) (m.tiers.n + 1) (q.tiers ++ [y])) (hgrow : W.grownBy W' (Value.slice m.tiers.A m.tiers.n m.tiers.c).ownBlock) (hfr : (Value.slice m.tiers.A m.tiers.n m.tiers.c).ownBlock = some g ∨ W.heap.size ≤ g) (hp : q.tiers.length ≤ 6) :
    Qu.Blk W' b 28 #[.string q.id, .int .i64 q.kind, .int .i64 q.priority, .string q.group, .string q.code, .bool q.closes, .slice m.scope.skus.A m.scope.skus.n m.scope.skus.c, .slice m.scope.cats.A m.scope.cats.n m.scope.cats.c, .int .i64 q.least, .int .i64 q.rate, .int .i64 q.amount, .int .i64 q.buy, .int .i64 q.get, .slice m.parts.A m.parts.n m.parts.c, .slice m.tiers.A m.tiers.n m.tiers.c] ∧ Bx w (W'.setCell ⟨b, 14, none⟩ (.slice (some ⟨g, 0, none⟩) (m.tiers.n + 1) cap)) B b { q with tiers := q.tiers ++ [y] } ⟨m.scope, m.parts, ⟨some ⟨g, 0, none⟩, m.tiers.n + 1, cap⟩⟩ := by
  have hbk := h.blk.grown hgrow (fun e => h.far h.lists.tiers.low e.symm)
  refine ⟨hbk, h.stored (Nat.le_trans h.sz hgrow.size) (h.below.grown hgrow h.below.size fun k hk => by have := (h.lists.tiers.low k hk).1; have := h.low; have := h.lt; omega) (h.lists.pushTier hown hgrow hfr) (hbk.put 14 _) h.nums ⟨h.slight.skus, h.slight.cats, h.slight.each, h.slight.parts, ?_⟩⟩
  show (q.tiers ++ [y]).length ≤ 1000000000000
  rw [List.length_append, List.length_singleton]; omega

theorem Bx.pushSku (h : Bx w W B b q m) {y : ByteArray} {g cap : Nat} (hown : Own kStr W' B 9 (fun _ => False) (.slice (some ⟨g, 0, none⟩) (m.scope.skus.n + 1) cap) (m.scope.skus.n + 1) (q.scope.skus ++ [y])) (hgrow : W.grownBy W' (Value.slice m.scope.skus.A m.scope.skus.n m.scope.skus.c).ownBlock) (hfr : (Value.slice m.scope.skus.A m.scope.skus.n m.scope.skus.c).ownBlock = some g ∨ W.heap.size ≤ g) (hp : q.scope.skus.length ≤ 8) :
    Qu.Blk W' b 28 #[.string q.id, .int .i64 q.kind, .int .i64 q.priority, .string q.group, .string q.code, .bool q.closes, .slice m.scope.skus.A m.scope.skus.n m.scope.skus.c, .slice m.scope.cats.A m.scope.cats.n m.scope.cats.c, .int .i64 q.least, .int .i64 q.rate, .int .i64 q.amount, .int .i64 q.buy, .int .i64 q.get, .slice m.parts.A m.parts.n m.parts.c, .slice m.tiers.A m.tiers.n m.tiers.c] ∧ Bx w (W'.setCell ⟨b, 6, none⟩ (.slice (some ⟨g, 0, none⟩) (m.scope.skus.n + 1) cap)) B b { q with scope := ⟨q.scope.skus ++ [y], q.scope.cats⟩ } ⟨⟨⟨some ⟨g, 0, none⟩, m.scope.skus.n + 1, cap⟩, m.scope.cats⟩, m.parts, m.tiers⟩ := by
  have hbk := h.blk.grown hgrow (fun e => h.far h.lists.skus.low e.symm)
  refine ⟨hbk, h.stored (Nat.le_trans h.sz hgrow.size) (h.below.grown hgrow h.below.size fun k hk => by have := (h.lists.skus.low k hk).1; have := h.low; have := h.lt; omega) (h.lists.pushSku hown hgrow hfr) (hbk.put 6 _) h.nums ⟨?_, h.slight.cats, h.slight.each, h.slight.parts, h.slight.tiers⟩⟩
  show (q.scope.skus ++ [y]).length ≤ 1000000000000
  rw [List.length_append, List.length_singleton]; omega
end

end Go.Proofs.Ytgimcleeamlgcaa.Pm
