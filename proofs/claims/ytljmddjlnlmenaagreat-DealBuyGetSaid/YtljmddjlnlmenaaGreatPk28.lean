/- Law 15's simple (made by gen-cut15.py). · Cuts: a promotion made anew, with lists of the call's own; kept where a box is .. -/
import Derived.Deep.CutBlock
import Derived.Deep.DeepCutAuto
import Derived.Test.YtljmddjlnlmenaaGreatPk11
import Derived.Test.YtljmddjlnlmenaaGreatPk18
import Derived.Test.YtljmddjlnlmenaaGreatPk21
import Derived.Test.YtljmddjlnlmenaaGreatPk27
import Derived.Test.YtljmddjlnlmenaaGreatPk9
set_option maxRecDepth 100000
set_option linter.unusedVariables false

section
namespace Go.Proofs.YtljmddjlnlmenaaGreat.Ct
open Go.ChangeShapes Go.WideShapes Go.ChangeAt Go.RowKit
open Ap (Unt Tir Prm kUnt kTir row_Unt row_Tir)
open Kd (Kind Row kInt row_int)
open Ko (Out Told Told2 At row_on)
theorem anew_put {wc w' W' : World} {q : Prm} {m : Prm.Lay} {g : Nat} (h : Py.Anew wc w' q m) (hg : g < wc.heap.size) (ho : Mv.Only w' W' (Mv.one g)) : Ap.Prm.Holds W' (· < W'.heap.size) q m := by
  have n1 : ∀ b, (Value.slice m.scope.skus.A m.scope.skus.n m.scope.skus.c).ownBlock = some b -> ¬ Mv.one g b := fun b hb e => by have := (h.skus.low b hb).1; have : b = g := e; omega
  have n2 : ∀ b, (Value.slice m.scope.cats.A m.scope.cats.n m.scope.cats.c).ownBlock = some b -> ¬ Mv.one g b := fun b hb e => by have := (h.cats.low b hb).1; have : b = g := e; omega
  have n3 : ∀ b, (Value.slice m.tiers.A m.tiers.n m.tiers.c).ownBlock = some b -> ¬ Mv.one g b := fun b hb e => by have := (h.tiers.low b hb).1; have : b = g := e; omega
  have n4 : ∀ b, (Value.slice m.parts.A m.parts.n m.parts.c).ownBlock = some b -> ¬ Mv.one g b := fun b hb e => by have := (h.parts.low b hb).1; have : b = g := e; omega
  have s1 := Py.own_far h.skus ho n1
  have s2 := Py.own_far h.cats ho n2
  have s3 := Py.own_far h.tiers ho n3
  have hsz := ho.size
  have s4 := (h.parts.stay (fun b hb => ho.block b hb.1.1 fun e => by have : b = g := e; have := hb.2.1; omega) fun b hb => ho.block b (h.parts.low b hb).2 (n4 b hb)).more (G := Kd.But W' (.slice m.parts.A m.parts.n m.parts.c)) fun b hb => ⟨Nat.lt_of_lt_of_le hb.1.1 hsz, hb.1.2⟩
  have hh := h.holds
  exact ⟨hh.id, hh.kind, hh.priority, hh.group, hh.code, ⟨⟨s1.read, s1.fit⟩, ⟨s2.read, s2.fit⟩⟩, hh.least, hh.rate, hh.amount, hh.buy, hh.get, Kd.Deep.lst s4, ⟨s3.read, s3.fit⟩⟩
end Go.Proofs.YtljmddjlnlmenaaGreat.Ct

end

section
namespace Go.Proofs.YtljmddjlnlmenaaGreat.Ct
open Go.ChangeShapes Go.WideShapes Go.ChangeAt Go.RowKit
open Ap (Unt Tir Prm kPrt kUnt kTir row_Unt row_Tir)
open Kd (Kind Row kInt row_int)
open Ko (Out Told Told2 At row_on)
theorem anew_turn {w wc w' W' : World} {q : Prm} {m : Prm.Lay} {g : Nat} (h : Py.Anew wc w' q m) (hg : g < wc.heap.size) (ho : Mv.Only w' W' (Mv.one g)) (hb : Below w.heap.size w W') (hw : w.heap.size <= wc.heap.size) : Py.Anew w W' q m := by
  have n1 : ∀ b, (Value.slice m.scope.skus.A m.scope.skus.n m.scope.skus.c).ownBlock = some b -> ¬ Mv.one g b := fun b hb e => by have := (h.skus.low b hb).1; have : b = g := e; omega
  have n2 : ∀ b, (Value.slice m.scope.cats.A m.scope.cats.n m.scope.cats.c).ownBlock = some b -> ¬ Mv.one g b := fun b hb e => by have := (h.cats.low b hb).1; have : b = g := e; omega
  have n3 : ∀ b, (Value.slice m.tiers.A m.tiers.n m.tiers.c).ownBlock = some b -> ¬ Mv.one g b := fun b hb e => by have := (h.tiers.low b hb).1; have : b = g := e; omega
  have n4 : ∀ b, (Value.slice m.parts.A m.parts.n m.parts.c).ownBlock = some b -> ¬ Mv.one g b := fun b hb e => by have := (h.parts.low b hb).1; have : b = g := e; omega
  have hsz := ho.size
  have s4 := (h.parts.stay (fun b hb => ho.block b hb.1.1 fun e => by have : b = g := e; have := hb.2.1; omega) fun b hb => ho.block b (h.parts.low b hb).2 (n4 b hb)).more (G := fun b => Kd.But W' (.slice m.parts.A m.parts.n m.parts.c) b /\ w.heap.size <= b /\ (Value.slice m.scope.skus.A m.scope.skus.n m.scope.skus.c).ownBlock ≠ some b /\ (Value.slice m.scope.cats.A m.scope.cats.n m.scope.cats.c).ownBlock ≠ some b /\ (Value.slice m.tiers.A m.tiers.n m.tiers.c).ownBlock ≠ some b) fun b hb => ⟨⟨Nat.lt_of_lt_of_le hb.1.1 hsz, hb.1.2⟩, Nat.le_trans hw hb.2.1, hb.2.2⟩
  exact ⟨anew_put h hg ho, own_down (Py.own_far h.skus ho n1) hw, own_down (Py.own_far h.cats ho n2) hw, h.apart, own_down s4 hw, own_down (Py.own_far h.tiers ho n3) hw, hb⟩
theorem anew_on {wc w' W' : World} {q : Prm} {m : Prm.Lay} (h : Py.Anew wc w' q m) (hb : Below w'.heap.size w' W') : Py.Anew wc W' q m :=
  ⟨Pr.holds_later h.holds hb, h.skus.later hb, h.cats.later hb, h.apart, (h.parts.stay (fun b hb2 => hb.block b hb2.1.1) fun g hg => hb.block g (h.parts.low g hg).2).more fun b hb2 => ⟨Kd.but_mono hb.size b hb2.1, hb2.2⟩, h.tiers.later hb, h.below.trans (hb.mono h.below.size)⟩
def MadeN (w : World) (e : Ending) (w' : World) (q : Prm) : Prop := ∃ m : Prm.Lay, e = .returned (.agg #[.string q.id, .int .i64 q.kind, .int .i64 q.priority, .string q.group, .string q.code, .bool q.closes, .slice m.scope.skus.A m.scope.skus.n m.scope.skus.c, .slice m.scope.cats.A m.scope.cats.n m.scope.cats.c, .int .i64 q.least, .int .i64 q.rate, .int .i64 q.amount, .int .i64 q.buy, .int .i64 q.get, .slice m.parts.A m.parts.n m.parts.c, .slice m.tiers.A m.tiers.n m.tiers.c]) /\ Pr.promoB q = true /\ (q.scope.skus.length <= 8 /\ q.scope.cats.length <= 8 /\ q.tiers.length <= 6 /\ q.parts.length <= 3) /\ Py.Anew w w' q m
theorem near2_any (p : Prm) (l : Prm.Lay) (w : World) (h : Ap.Prm.Holds w (· < w.heap.size) p l) (hS : Pr.PrmSmall p l) :
    Calls Tryz.prog 49 #[.agg #[.string p.id, .int .i64 p.kind, .int .i64 p.priority, .string p.group, .string p.code, .bool p.closes, .slice l.scope.skus.A l.scope.skus.n l.scope.skus.c, .slice l.scope.cats.A l.scope.cats.n l.scope.cats.c, .int .i64 p.least, .int .i64 p.rate, .int .i64 p.amount, .int .i64 p.buy, .int .i64 p.get, .slice l.parts.A l.parts.n l.parts.c, .slice l.tiers.A l.tiers.n l.tiers.c], .int .i64 1] w fun e w' => MadeN w e w' (Py.nearP p 1) := by
  have h1 := Py.promo_near p l 1 w h hS
  rw [show Py.modN 1 10 = 1 from Py.modN_num 1 10 (by omega) (by omega)] at h1
  refine h1.mono ?_
  rintro e w' ⟨m, rfl, hm, _, hf, ha⟩
  exact ⟨m, rfl, hm, ⟨hf.1, hf.2.1, hf.2.2.1, hf.2.2.2.1⟩, ha⟩
theorem holds_only {w W u : World} {p : Prm} {l : Prm.Lay} (h : Ap.Prm.Holds W (· < w.heap.size) p l) (hs : w.heap.size < W.heap.size) (ho : Mv.Only W u (Mv.one w.heap.size)) : Ap.Prm.Holds u (· < u.heap.size) p l := by
  have ag : Kd.Agree (· < w.heap.size) W u := fun b hb => ho.block b (by omega) fun e => by have : b = w.heap.size := e; omega
  have hm : ∀ b, b < w.heap.size -> b < u.heap.size := fun b hb => by have := ho.size; omega
  exact ⟨h.id, h.kind, h.priority, h.group, h.code, ⟨⟨(h.scope.skus.row.stay ag).more hm, h.scope.skus.fit⟩, ⟨(h.scope.cats.row.stay ag).more hm, h.scope.cats.fit⟩⟩, h.least, h.rate, h.amount, h.buy, h.get, ⟨(h.parts.row.stay ag).more hm, h.parts.fit⟩, ⟨(h.tiers.row.stay ag).more hm, h.tiers.fit⟩⟩
abbrev Out1 (w W : World) : Nat -> Prop := fun b => b < W.heap.size /\ b ≠ w.heap.size
structure Turned (w Wn : World) (A : Option Addr) (k c : Nat) (vs : List Unt) (q : Prm) (m : Prm.Lay) : Prop where
  row : Row kUnt Wn (Out1 w Wn) A k vs
  fit : Kd.Fit A k c
  blk : Qu.Blk Wn w.heap.size 28 #[.string q.id, .int .i64 q.kind, .int .i64 q.priority, .string q.group, .string q.code, .bool q.closes, .slice m.scope.skus.A m.scope.skus.n m.scope.skus.c, .slice m.scope.cats.A m.scope.cats.n m.scope.cats.c, .int .i64 q.least, .int .i64 q.rate, .int .i64 q.amount, .int .i64 q.buy, .int .i64 q.get, .slice m.parts.A m.parts.n m.parts.c, .slice m.tiers.A m.tiers.n m.tiers.c]
  holds : Ap.Prm.Holds Wn (Out1 w Wn) q m
  below : Below w.heap.size w Wn
theorem out_row {α : Type} {K : Kd.Kind α} {w wl : World} {B E n c : Nat} {A : Option Addr} {xs : List α} (h : Kd.Own K wl B E (fun _ => False) (.slice A n c) n xs) (hB : w.heap.size < B) : Row K wl (Out1 w wl) A n xs :=
  (h.more (G := Out1 w wl) fun _ h => h.elim).row fun g hg => ⟨(h.low g hg).2, by have := (h.low g hg).1; omega⟩
theorem out_lst {α : Type} {K : Kd.Kind α} {w wl : World} {B E n c : Nat} {A : Option Addr} {xs : List α} (h : Kd.Own K wl B E (fun _ => False) (.slice A n c) n xs) (hB : w.heap.size < B) : Kd.Lst K wl (Out1 w wl) ⟨A, n, c⟩ xs := ⟨out_row h hB, h.fit⟩
theorem turned_in {w wc wl Wn : World} {B : Nat} {A : Option Addr} {k c : Nat} {vs : List Unt} {q : Prm} {m : Prm.Lay} {cs : Array Value} (hou : Kd.Own kUnt wl B 35 (fun _ => False) (.slice A k c) k vs) (hB : w.heap.size < B) (ha : Py.Anew wc wl q m) (hc : w.heap.size < wc.heap.size) (hz : Qu.Blk wl w.heap.size 28 cs) (hcs : ∃ a b c d e f g h i j k l m n o, cs = #[a, b, c, d, e, f, g, h, i, j, k, l, m, n, o]) (hb : Below w.heap.size w wl) (e : wl.setCells w.heap.size 0 (q.enc m) = Wn) : Turned w Wn A k c vs q m := by
  have ho : Mv.Only wl Wn (Mv.one w.heap.size) := by rw [<- e]; exact Py.only_puts (q.enc m) wl 0 (Mv.Only.refl wl _)
  obtain ⟨a1, a2, a3, a4, a5, a6, a7, a8, a9, a10, a11, a12, a13, a14, a15, rfl⟩ := hcs
  have hbk : Qu.Blk Wn w.heap.size 28 #[.string q.id, .int .i64 q.kind, .int .i64 q.priority, .string q.group, .string q.code, .bool q.closes, .slice m.scope.skus.A m.scope.skus.n m.scope.skus.c, .slice m.scope.cats.A m.scope.cats.n m.scope.cats.c, .int .i64 q.least, .int .i64 q.rate, .int .i64 q.amount, .int .i64 q.buy, .int .i64 q.get, .slice m.parts.A m.parts.n m.parts.c, .slice m.tiers.A m.tiers.n m.tiers.c] := by rw [<- e]; exact Kd.blk_puts (q.enc m) wl 0 _ hz
  have hf := Py.own_far hou ho fun b hb e => by have := (hou.low b hb).1; have : b = w.heap.size := e; omega
  have hbel : Below w.heap.size w Wn := by rw [<- e]; exact Kd.below_puts (Nat.le_refl _) (q.enc m) wl 0 hb
  have n1 : ∀ b, (Value.slice m.scope.skus.A m.scope.skus.n m.scope.skus.c).ownBlock = some b -> ¬ Mv.one w.heap.size b := fun b hb e => by have := (ha.skus.low b hb).1; have : b = w.heap.size := e; omega
  have n2 : ∀ b, (Value.slice m.scope.cats.A m.scope.cats.n m.scope.cats.c).ownBlock = some b -> ¬ Mv.one w.heap.size b := fun b hb e => by have := (ha.cats.low b hb).1; have : b = w.heap.size := e; omega
  have n3 : ∀ b, (Value.slice m.tiers.A m.tiers.n m.tiers.c).ownBlock = some b -> ¬ Mv.one w.heap.size b := fun b hb e => by have := (ha.tiers.low b hb).1; have : b = w.heap.size := e; omega
  have n4 : ∀ b, (Value.slice m.parts.A m.parts.n m.parts.c).ownBlock = some b -> ¬ Mv.one w.heap.size b := fun b hb e => by have := (ha.parts.low b hb).1; have : b = w.heap.size := e; omega
  have hsz := ho.size
  have hh := ha.holds
  have p4 := (ha.parts.stay (fun b hb => ho.block b hb.1.1 fun e => by have : b = w.heap.size := e; have := hb.2.1; omega) fun b hb => ho.block b (ha.parts.low b hb).2 (n4 b hb)).more (G := Out1 w Wn) fun b hb => ⟨Nat.lt_of_lt_of_le hb.1.1 hsz, by have := hb.2.1; omega⟩
  have s4 : Kd.Lst kPrt Wn (Out1 w Wn) m.parts q.parts := ⟨p4.row fun g hg => ⟨(p4.low g hg).2, by have := (p4.low g hg).1; omega⟩, ha.parts.fit⟩
  exact ⟨out_row hf hB, hf.fit, hbk, ⟨hh.id, hh.kind, hh.priority, hh.group, hh.code, ⟨out_lst (Py.own_far ha.skus ho n1) hc, out_lst (Py.own_far ha.cats ho n2) hc⟩, hh.least, hh.rate, hh.amount, hh.buy, hh.get, s4, out_lst (Py.own_far ha.tiers ho n3) hc⟩, hbel⟩
theorem Turned.on {w Wn W : World} {A : Option Addr} {k c : Nat} {vs : List Unt} {q : Prm} {m : Prm.Lay} (h : Turned w Wn A k c vs q m) (hb : Below Wn.heap.size Wn W) : Turned w W A k c vs q m := by
  have ag : Kd.Agree (Out1 w Wn) Wn W := fun b hb2 => hb.block b hb2.1
  have hm : ∀ b, Out1 w Wn b -> Out1 w W b := fun b hb2 => ⟨Nat.lt_of_lt_of_le hb2.1 hb.size, hb2.2⟩
  have hh := h.holds
  exact ⟨(h.row.stay ag).more hm, h.fit, h.blk.below hb, ⟨hh.id, hh.kind, hh.priority, hh.group, hh.code, ⟨(hh.scope.skus.stay ag).more hm, (hh.scope.cats.stay ag).more hm⟩, hh.least, hh.rate, hh.amount, hh.buy, hh.get, (hh.parts.stay ag).more hm, (hh.tiers.stay ag).more hm⟩, h.below.trans (hb.mono h.below.size)⟩
theorem Turned.urow {w Wn : World} {A : Option Addr} {k c : Nat} {vs : List Unt} {q : Prm} {m : Prm.Lay} (h : Turned w Wn A k c vs q m) : Row kUnt Wn (· < Wn.heap.size) A k vs := h.row.more fun _ hb => hb.1
theorem Turned.all {w Wn : World} {A : Option Addr} {k c : Nat} {vs : List Unt} {q : Prm} {m : Prm.Lay} (h : Turned w Wn A k c vs q m) : Ap.Prm.Holds Wn (· < Wn.heap.size) q m :=
  ⟨h.holds.id, h.holds.kind, h.holds.priority, h.holds.group, h.holds.code, ⟨h.holds.scope.skus.more fun _ hb => hb.1, h.holds.scope.cats.more fun _ hb => hb.1⟩, h.holds.least, h.holds.rate, h.holds.amount, h.holds.buy, h.holds.get, h.holds.parts.more fun _ hb => hb.1, h.holds.tiers.more fun _ hb => hb.1⟩
def withKind (q : Prm) (z : Int) : Prm := ⟨q.id, z, q.priority, q.group, q.code, q.closes, q.scope, q.least, q.rate, q.amount, q.buy, q.get, q.parts, q.tiers⟩
theorem holds_in {w W : World} {p : Prm} {l : Prm.Lay} (h : Ap.Prm.Holds w (· < w.heap.size) p l) (hb : Below w.heap.size w W) : Ap.Prm.Holds W (· < w.heap.size) p l :=
  ⟨h.id, h.kind, h.priority, h.group, h.code, ⟨h.scope.skus.below hb (Nat.le_refl _), h.scope.cats.below hb (Nat.le_refl _)⟩, h.least, h.rate, h.amount, h.buy, h.get, h.parts.below hb (Nat.le_refl _), h.tiers.below hb (Nat.le_refl _)⟩
end Go.Proofs.YtljmddjlnlmenaaGreat.Ct

end

section
namespace Go.Proofs.YtljmddjlnlmenaaGreat.Dl
open Go.ChangeShapes Go.WideShapes Go.ChangeAt Go.RowKit
open Ap (Unt Tir Prm Prt kUnt kTir kPrt row_Unt row_Tir row_Prt)
open Kd (Kind Row RowT kInt kFlag kList Lst row_int row_list)
open Ko (Out Told Told2 At row_on)
open Ct (nth nth_some netAt netsL sumL UnitsMay PlacesMay May mayB mayB_iff Far take_next lessU i64_t own_down nope MadeN anew_turn withKind near2_any blk_other)
set_option maxHeartbeats 2000000 in
theorem buyget_any (p : Prm) (l : Prm.Lay) (w : World) (h : Ap.Prm.Holds w (· < w.heap.size) p l) (hS : Pr.PrmSmall p l) :
    Calls Tryz.prog 19 #[.agg #[.string p.id, .int .i64 p.kind, .int .i64 p.priority, .string p.group, .string p.code, .bool p.closes, .slice l.scope.skus.A l.scope.skus.n l.scope.skus.c, .slice l.scope.cats.A l.scope.cats.n l.scope.cats.c, .int .i64 p.least, .int .i64 p.rate, .int .i64 p.amount, .int .i64 p.buy, .int .i64 p.get, .slice l.parts.A l.parts.n l.parts.c, .slice l.tiers.A l.tiers.n l.tiers.c]] w fun e w' => MadeN w e w' (Py.nearP (withKind p 3) 1) := by
  have hSp : ∀ {W : World}, Ap.Prm.Holds W (· < W.heap.size) p l -> Ap.Prm.Holds W (· < W.heap.size) (withKind p 3) l /\ Pr.PrmSmall (withKind p 3) l := fun hh => ⟨⟨hh.id, (show (-9223372036854775808 : Int) <= 3 /\ (3 : Int) <= 9223372036854775807 by decide), hh.priority, hh.group, hh.code, hh.scope, hh.least, hh.rate, hh.amount, hh.buy, hh.get, hh.parts, hh.tiers⟩, ⟨hS.scope, hS.parts, hS.np, hS.nt, hS.few⟩⟩
  obtain ⟨W1, hW1⟩ : ∃ W1, w.alloc (.cells #[.string p.id, .int .i64 p.kind, .int .i64 p.priority, .string p.group, .string p.code, .bool p.closes, .slice l.scope.skus.A l.scope.skus.n l.scope.skus.c, .slice l.scope.cats.A l.scope.cats.n l.scope.cats.c, .int .i64 p.least, .int .i64 p.rate, .int .i64 p.amount, .int .i64 p.buy, .int .i64 p.get, .slice l.parts.A l.parts.n l.parts.c, .slice l.tiers.A l.tiers.n l.tiers.c] 28) = W1 := ⟨_, rfl⟩
  have hb1 : Below w.heap.size w W1 := by rw [<- hW1]; exact (Below.refl _ _).alloc (Nat.le_refl _) _
  have hs1 : W1.heap.size = w.heap.size + 1 := by rw [<- hW1]; simp
  have hx1 : Qu.Blk W1 w.heap.size 28 #[.string p.id, .int .i64 p.kind, .int .i64 p.priority, .string p.group, .string p.code, .bool p.closes, .slice l.scope.skus.A l.scope.skus.n l.scope.skus.c, .slice l.scope.cats.A l.scope.cats.n l.scope.cats.c, .int .i64 p.least, .int .i64 p.rate, .int .i64 p.amount, .int .i64 p.buy, .int .i64 p.get, .slice l.parts.A l.parts.n l.parts.c, .slice l.tiers.A l.tiers.n l.tiers.c] := by rw [<- hW1]; exact Qu.Blk.new w _ _
  obtain ⟨W2, hW2⟩ : ∃ W2, W1.alloc (.cells #[.string ⟨#[]⟩, .int .i64 0, .int .i64 0, .string ⟨#[]⟩, .string ⟨#[]⟩, .bool false, .slice none 0 0, .slice none 0 0, .int .i64 0, .int .i64 0, .int .i64 0, .int .i64 0, .int .i64 0, .slice none 0 0, .slice none 0 0] 28) = W2 := ⟨_, rfl⟩
  have hb2 : Below w.heap.size w W2 := by rw [<- hW2]; exact hb1.alloc hb1.size _
  have hs2 : W2.heap.size = w.heap.size + 2 := by rw [<- hW2]; simp [hs1]
  have hx2 : Qu.Blk W2 w.heap.size 28 #[.string p.id, .int .i64 p.kind, .int .i64 p.priority, .string p.group, .string p.code, .bool p.closes, .slice l.scope.skus.A l.scope.skus.n l.scope.skus.c, .slice l.scope.cats.A l.scope.cats.n l.scope.cats.c, .int .i64 p.least, .int .i64 p.rate, .int .i64 p.amount, .int .i64 p.buy, .int .i64 p.get, .slice l.parts.A l.parts.n l.parts.c, .slice l.tiers.A l.tiers.n l.tiers.c] := by rw [<- hW2]; exact hx1.alloc _
  have hz2 : Qu.Blk W2 (w.heap.size + 1) 28 #[.string ⟨#[]⟩, .int .i64 0, .int .i64 0, .string ⟨#[]⟩, .string ⟨#[]⟩, .bool false, .slice none 0 0, .slice none 0 0, .int .i64 0, .int .i64 0, .int .i64 0, .int .i64 0, .int .i64 0, .slice none 0 0, .slice none 0 0] := by rw [<- hW2, <- hs1]; exact Qu.Blk.new W1 _ _
  obtain ⟨W4, hW4⟩ : ∃ W4, W2.setCell ⟨w.heap.size, 1, none⟩ (.int .i64 3) = W4 := ⟨_, rfl⟩
  have hb4 : Below w.heap.size w W4 := by rw [<- hW4]; exact hb2.setCell (Nat.le_refl _) _
  have hs4 : W4.heap.size = w.heap.size + 2 := by rw [<- hW4]; simp [World.setCell, hs2]
  have hx4 : Qu.Blk W4 w.heap.size 28 #[.string p.id, .int .i64 3, .int .i64 p.priority, .string p.group, .string p.code, .bool p.closes, .slice l.scope.skus.A l.scope.skus.n l.scope.skus.c, .slice l.scope.cats.A l.scope.cats.n l.scope.cats.c, .int .i64 p.least, .int .i64 p.rate, .int .i64 p.amount, .int .i64 p.buy, .int .i64 p.get, .slice l.parts.A l.parts.n l.parts.c, .slice l.tiers.A l.tiers.n l.tiers.c] := by rw [<- hW4]; exact hx2.put 1 _
  have hz4 : Qu.Blk W4 (w.heap.size + 1) 28 #[.string ⟨#[]⟩, .int .i64 0, .int .i64 0, .string ⟨#[]⟩, .string ⟨#[]⟩, .bool false, .slice none 0 0, .slice none 0 0, .int .i64 0, .int .i64 0, .int .i64 0, .int .i64 0, .int .i64 0, .slice none 0 0, .slice none 0 0] := by rw [<- hW4]; exact blk_other hz2 (by omega) _ _
  have hp4 := hSp (Pr.holds_later h hb4)
  have HN := near2_any (withKind p 3) l W4 hp4.1 hp4.2
  have HN2 : Calls Tryz.prog 49 #[.agg #[.string p.id, .int .i64 3, .int .i64 p.priority, .string p.group, .string p.code, .bool p.closes, .slice l.scope.skus.A l.scope.skus.n l.scope.skus.c, .slice l.scope.cats.A l.scope.cats.n l.scope.cats.c, .int .i64 p.least, .int .i64 p.rate, .int .i64 p.amount, .int .i64 p.buy, .int .i64 p.get, .slice l.parts.A l.parts.n l.parts.c, .slice l.tiers.A l.tiers.n l.tiers.c], .int .i64 1] W4 fun e w' => MadeN W4 e w' (Py.nearP (withKind p 3) 1) := HN
  have x1 := hx2.cell 1
  have xf := hx2.frozen 1
  have HX4 := Lib.hid hx4
  have HZ4 := Lib.hid (And.intro hz4 (And.intro hb4 hs4))
  have HNe := Lib.hid HN2
  obtain ⟨q, hq⟩ : ∃ q, Py.nearP (withKind p 3) 1 = q := ⟨_, rfl⟩
  rw [hq] at HNe ⊢
  have hw1 := Lib.hid hW1
  have hw2 := Lib.hid hW2
  have hw4 := Lib.hid hW4
  clear hp4 HN HN2 hSp hb1 hs1 hx1 hb2 hs2 hx2 hz2 hb4 hs4 hx4 hz4 h hS hW1 hW2 hW4 hq
  go_enter Tryz.func19, Tryz.ntmps19
  go_upto_region 1 with (fail)
  rw [hw1.out, hw2.out]
  go_upto_region 2 with (fail)
  rw [hw4.out]
  clear x1 xf hw1 hw2 hw4
  have y0 := HX4.out.cell 0
  have y1 := HX4.out.cell 1
  have y2 := HX4.out.cell 2
  have y3 := HX4.out.cell 3
  have y4 := HX4.out.cell 4
  have y5 := HX4.out.cell 5
  have y6 := HX4.out.cell 6
  have y7 := HX4.out.cell 7
  have y8 := HX4.out.cell 8
  have y9 := HX4.out.cell 9
  have y10 := HX4.out.cell 10
  have y11 := HX4.out.cell 11
  have y12 := HX4.out.cell 12
  have y13 := HX4.out.cell 13
  have y14 := HX4.out.cell 14
  go_wp2_with fail
  refine HNe.out.mono ?_
  rintro e w5 ⟨m, rfl, hmay, hfew, ha⟩
  have hb5 := ha.below
  have hz5 := HZ4.out.1.below hb5
  have HZ5 := Lib.hid hz5
  have z0 := hz5.cell 0
  have z1 := hz5.cell 1
  have z2 := hz5.cell 2
  have z3 := hz5.cell 3
  have z4 := hz5.cell 4
  have z5 := hz5.cell 5
  have z6 := hz5.cell 6
  have z7 := hz5.cell 7
  have z8 := hz5.cell 8
  have z9 := hz5.cell 9
  have z10 := hz5.cell 10
  have z11 := hz5.cell 11
  have z12 := hz5.cell 12
  have z13 := hz5.cell 13
  have z14 := hz5.cell 14
  have zf := hz5.frozen
  obtain ⟨W6, hW6⟩ : ∃ W6, (((((((((((((((w5.setCell ⟨w.heap.size + 1, 0, none⟩ (.string q.id)).setCell ⟨w.heap.size + 1, 1, none⟩ (.int .i64 q.kind)).setCell ⟨w.heap.size + 1, 2, none⟩ (.int .i64 q.priority)).setCell ⟨w.heap.size + 1, 3, none⟩ (.string q.group)).setCell ⟨w.heap.size + 1, 4, none⟩ (.string q.code)).setCell ⟨w.heap.size + 1, 5, none⟩ (.bool q.closes)).setCell ⟨w.heap.size + 1, 6, none⟩ (.slice m.scope.skus.A m.scope.skus.n m.scope.skus.c)).setCell ⟨w.heap.size + 1, 7, none⟩ (.slice m.scope.cats.A m.scope.cats.n m.scope.cats.c)).setCell ⟨w.heap.size + 1, 8, none⟩ (.int .i64 q.least)).setCell ⟨w.heap.size + 1, 9, none⟩ (.int .i64 q.rate)).setCell ⟨w.heap.size + 1, 10, none⟩ (.int .i64 q.amount)).setCell ⟨w.heap.size + 1, 11, none⟩ (.int .i64 q.buy)).setCell ⟨w.heap.size + 1, 12, none⟩ (.int .i64 q.get)).setCell ⟨w.heap.size + 1, 13, none⟩ (.slice m.parts.A m.parts.n m.parts.c)).setCell ⟨w.heap.size + 1, 14, none⟩ (.slice m.tiers.A m.tiers.n m.tiers.c)) = W6 := ⟨_, rfl⟩
  have hblk : Qu.Blk W6 (w.heap.size + 1) 28 #[.string q.id, .int .i64 q.kind, .int .i64 q.priority, .string q.group, .string q.code, .bool q.closes, .slice m.scope.skus.A m.scope.skus.n m.scope.skus.c, .slice m.scope.cats.A m.scope.cats.n m.scope.cats.c, .int .i64 q.least, .int .i64 q.rate, .int .i64 q.amount, .int .i64 q.buy, .int .i64 q.get, .slice m.parts.A m.parts.n m.parts.c, .slice m.tiers.A m.tiers.n m.tiers.c] := by
    rw [<- hW6]
    exact Kd.blk_puts (q.enc m) w5 0 _ hz5
  have ho : Mv.Only w5 W6 (Mv.one (w.heap.size + 1)) := by rw [<- hW6]; exact Py.only_puts (q.enc m) w5 0 (Mv.Only.refl w5 _)
  have hbel : Below w.heap.size w W6 := by rw [<- hW6]; exact Kd.below_puts (by omega) (q.enc m) w5 0 (HZ4.out.2.1.trans (hb5.mono HZ4.out.2.1.size))
  have HFin : Hid (MadeN w (.returned (.agg #[.string q.id, .int .i64 q.kind, .int .i64 q.priority, .string q.group, .string q.code, .bool q.closes, .slice m.scope.skus.A m.scope.skus.n m.scope.skus.c, .slice m.scope.cats.A m.scope.cats.n m.scope.cats.c, .int .i64 q.least, .int .i64 q.rate, .int .i64 q.amount, .int .i64 q.buy, .int .i64 q.get, .slice m.parts.A m.parts.n m.parts.c, .slice m.tiers.A m.tiers.n m.tiers.c])) W6 q) := Lib.hid ⟨m, rfl, hmay, hfew, anew_turn ha (by have := HZ4.out.2.2; omega) ho hbel (by have := HZ4.out.2.2; omega)⟩
  have HBl := Lib.hid hblk
  have hw6 := Lib.hid hW6
  clear hmay hfew hb5 ha hz5 hblk ho hbel hW6 HNe HX4
  go_wp2_with fail
  rw [hw6.out]
  refine bodyPost_ret (Py.results_promo rfl _ _ (w.heap.size + 1) _ rfl HBl.out rfl rfl) rfl ?_
  exact HFin.out
set_option maxHeartbeats 2000000 in
theorem bundle_any (p : Prm) (l : Prm.Lay) (w : World) (h : Ap.Prm.Holds w (· < w.heap.size) p l) (hS : Pr.PrmSmall p l) :
    Calls Tryz.prog 21 #[.agg #[.string p.id, .int .i64 p.kind, .int .i64 p.priority, .string p.group, .string p.code, .bool p.closes, .slice l.scope.skus.A l.scope.skus.n l.scope.skus.c, .slice l.scope.cats.A l.scope.cats.n l.scope.cats.c, .int .i64 p.least, .int .i64 p.rate, .int .i64 p.amount, .int .i64 p.buy, .int .i64 p.get, .slice l.parts.A l.parts.n l.parts.c, .slice l.tiers.A l.tiers.n l.tiers.c]] w fun e w' => MadeN w e w' (Py.nearP (withKind p 4) 1) := by
  have hSp : ∀ {W : World}, Ap.Prm.Holds W (· < W.heap.size) p l -> Ap.Prm.Holds W (· < W.heap.size) (withKind p 4) l /\ Pr.PrmSmall (withKind p 4) l := fun hh => ⟨⟨hh.id, (show (-9223372036854775808 : Int) <= 4 /\ (4 : Int) <= 9223372036854775807 by decide), hh.priority, hh.group, hh.code, hh.scope, hh.least, hh.rate, hh.amount, hh.buy, hh.get, hh.parts, hh.tiers⟩, ⟨hS.scope, hS.parts, hS.np, hS.nt, hS.few⟩⟩
  obtain ⟨W1, hW1⟩ : ∃ W1, w.alloc (.cells #[.string p.id, .int .i64 p.kind, .int .i64 p.priority, .string p.group, .string p.code, .bool p.closes, .slice l.scope.skus.A l.scope.skus.n l.scope.skus.c, .slice l.scope.cats.A l.scope.cats.n l.scope.cats.c, .int .i64 p.least, .int .i64 p.rate, .int .i64 p.amount, .int .i64 p.buy, .int .i64 p.get, .slice l.parts.A l.parts.n l.parts.c, .slice l.tiers.A l.tiers.n l.tiers.c] 28) = W1 := ⟨_, rfl⟩
  have hb1 : Below w.heap.size w W1 := by rw [<- hW1]; exact (Below.refl _ _).alloc (Nat.le_refl _) _
  have hs1 : W1.heap.size = w.heap.size + 1 := by rw [<- hW1]; simp
  have hx1 : Qu.Blk W1 w.heap.size 28 #[.string p.id, .int .i64 p.kind, .int .i64 p.priority, .string p.group, .string p.code, .bool p.closes, .slice l.scope.skus.A l.scope.skus.n l.scope.skus.c, .slice l.scope.cats.A l.scope.cats.n l.scope.cats.c, .int .i64 p.least, .int .i64 p.rate, .int .i64 p.amount, .int .i64 p.buy, .int .i64 p.get, .slice l.parts.A l.parts.n l.parts.c, .slice l.tiers.A l.tiers.n l.tiers.c] := by rw [<- hW1]; exact Qu.Blk.new w _ _
  obtain ⟨W2, hW2⟩ : ∃ W2, W1.alloc (.cells #[.string ⟨#[]⟩, .int .i64 0, .int .i64 0, .string ⟨#[]⟩, .string ⟨#[]⟩, .bool false, .slice none 0 0, .slice none 0 0, .int .i64 0, .int .i64 0, .int .i64 0, .int .i64 0, .int .i64 0, .slice none 0 0, .slice none 0 0] 28) = W2 := ⟨_, rfl⟩
  have hb2 : Below w.heap.size w W2 := by rw [<- hW2]; exact hb1.alloc hb1.size _
  have hs2 : W2.heap.size = w.heap.size + 2 := by rw [<- hW2]; simp [hs1]
  have hx2 : Qu.Blk W2 w.heap.size 28 #[.string p.id, .int .i64 p.kind, .int .i64 p.priority, .string p.group, .string p.code, .bool p.closes, .slice l.scope.skus.A l.scope.skus.n l.scope.skus.c, .slice l.scope.cats.A l.scope.cats.n l.scope.cats.c, .int .i64 p.least, .int .i64 p.rate, .int .i64 p.amount, .int .i64 p.buy, .int .i64 p.get, .slice l.parts.A l.parts.n l.parts.c, .slice l.tiers.A l.tiers.n l.tiers.c] := by rw [<- hW2]; exact hx1.alloc _
  have hz2 : Qu.Blk W2 (w.heap.size + 1) 28 #[.string ⟨#[]⟩, .int .i64 0, .int .i64 0, .string ⟨#[]⟩, .string ⟨#[]⟩, .bool false, .slice none 0 0, .slice none 0 0, .int .i64 0, .int .i64 0, .int .i64 0, .int .i64 0, .int .i64 0, .slice none 0 0, .slice none 0 0] := by rw [<- hW2, <- hs1]; exact Qu.Blk.new W1 _ _
  obtain ⟨W4, hW4⟩ : ∃ W4, W2.setCell ⟨w.heap.size, 1, none⟩ (.int .i64 4) = W4 := ⟨_, rfl⟩
  have hb4 : Below w.heap.size w W4 := by rw [<- hW4]; exact hb2.setCell (Nat.le_refl _) _
  have hs4 : W4.heap.size = w.heap.size + 2 := by rw [<- hW4]; simp [World.setCell, hs2]
  have hx4 : Qu.Blk W4 w.heap.size 28 #[.string p.id, .int .i64 4, .int .i64 p.priority, .string p.group, .string p.code, .bool p.closes, .slice l.scope.skus.A l.scope.skus.n l.scope.skus.c, .slice l.scope.cats.A l.scope.cats.n l.scope.cats.c, .int .i64 p.least, .int .i64 p.rate, .int .i64 p.amount, .int .i64 p.buy, .int .i64 p.get, .slice l.parts.A l.parts.n l.parts.c, .slice l.tiers.A l.tiers.n l.tiers.c] := by rw [<- hW4]; exact hx2.put 1 _
  have hz4 : Qu.Blk W4 (w.heap.size + 1) 28 #[.string ⟨#[]⟩, .int .i64 0, .int .i64 0, .string ⟨#[]⟩, .string ⟨#[]⟩, .bool false, .slice none 0 0, .slice none 0 0, .int .i64 0, .int .i64 0, .int .i64 0, .int .i64 0, .int .i64 0, .slice none 0 0, .slice none 0 0] := by rw [<- hW4]; exact blk_other hz2 (by omega) _ _
  have hp4 := hSp (Pr.holds_later h hb4)
  have HN := near2_any (withKind p 4) l W4 hp4.1 hp4.2
  have HN2 : Calls Tryz.prog 49 #[.agg #[.string p.id, .int .i64 4, .int .i64 p.priority, .string p.group, .string p.code, .bool p.closes, .slice l.scope.skus.A l.scope.skus.n l.scope.skus.c, .slice l.scope.cats.A l.scope.cats.n l.scope.cats.c, .int .i64 p.least, .int .i64 p.rate, .int .i64 p.amount, .int .i64 p.buy, .int .i64 p.get, .slice l.parts.A l.parts.n l.parts.c, .slice l.tiers.A l.tiers.n l.tiers.c], .int .i64 1] W4 fun e w' => MadeN W4 e w' (Py.nearP (withKind p 4) 1) := HN
  have x1 := hx2.cell 1
  have xf := hx2.frozen 1
  have HX4 := Lib.hid hx4
  have HZ4 := Lib.hid (And.intro hz4 (And.intro hb4 hs4))
  have HNe := Lib.hid HN2
  obtain ⟨q, hq⟩ : ∃ q, Py.nearP (withKind p 4) 1 = q := ⟨_, rfl⟩
  rw [hq] at HNe ⊢
  have hw1 := Lib.hid hW1
  have hw2 := Lib.hid hW2
  have hw4 := Lib.hid hW4
  clear hp4 HN HN2 hSp hb1 hs1 hx1 hb2 hs2 hx2 hz2 hb4 hs4 hx4 hz4 h hS hW1 hW2 hW4 hq
  go_enter Tryz.func21, Tryz.ntmps21
  go_upto_region 1 with (fail)
  rw [hw1.out, hw2.out]
  go_upto_region 2 with (fail)
  rw [hw4.out]
  clear x1 xf hw1 hw2 hw4
  have y0 := HX4.out.cell 0
  have y1 := HX4.out.cell 1
  have y2 := HX4.out.cell 2
  have y3 := HX4.out.cell 3
  have y4 := HX4.out.cell 4
  have y5 := HX4.out.cell 5
  have y6 := HX4.out.cell 6
  have y7 := HX4.out.cell 7
  have y8 := HX4.out.cell 8
  have y9 := HX4.out.cell 9
  have y10 := HX4.out.cell 10
  have y11 := HX4.out.cell 11
  have y12 := HX4.out.cell 12
  have y13 := HX4.out.cell 13
  have y14 := HX4.out.cell 14
  go_wp2_with fail
  refine HNe.out.mono ?_
  rintro e w5 ⟨m, rfl, hmay, hfew, ha⟩
  have hb5 := ha.below
  have hz5 := HZ4.out.1.below hb5
  have HZ5 := Lib.hid hz5
  have z0 := hz5.cell 0
  have z1 := hz5.cell 1
  have z2 := hz5.cell 2
  have z3 := hz5.cell 3
  have z4 := hz5.cell 4
  have z5 := hz5.cell 5
  have z6 := hz5.cell 6
  have z7 := hz5.cell 7
  have z8 := hz5.cell 8
  have z9 := hz5.cell 9
  have z10 := hz5.cell 10
  have z11 := hz5.cell 11
  have z12 := hz5.cell 12
  have z13 := hz5.cell 13
  have z14 := hz5.cell 14
  have zf := hz5.frozen
  obtain ⟨W6, hW6⟩ : ∃ W6, (((((((((((((((w5.setCell ⟨w.heap.size + 1, 0, none⟩ (.string q.id)).setCell ⟨w.heap.size + 1, 1, none⟩ (.int .i64 q.kind)).setCell ⟨w.heap.size + 1, 2, none⟩ (.int .i64 q.priority)).setCell ⟨w.heap.size + 1, 3, none⟩ (.string q.group)).setCell ⟨w.heap.size + 1, 4, none⟩ (.string q.code)).setCell ⟨w.heap.size + 1, 5, none⟩ (.bool q.closes)).setCell ⟨w.heap.size + 1, 6, none⟩ (.slice m.scope.skus.A m.scope.skus.n m.scope.skus.c)).setCell ⟨w.heap.size + 1, 7, none⟩ (.slice m.scope.cats.A m.scope.cats.n m.scope.cats.c)).setCell ⟨w.heap.size + 1, 8, none⟩ (.int .i64 q.least)).setCell ⟨w.heap.size + 1, 9, none⟩ (.int .i64 q.rate)).setCell ⟨w.heap.size + 1, 10, none⟩ (.int .i64 q.amount)).setCell ⟨w.heap.size + 1, 11, none⟩ (.int .i64 q.buy)).setCell ⟨w.heap.size + 1, 12, none⟩ (.int .i64 q.get)).setCell ⟨w.heap.size + 1, 13, none⟩ (.slice m.parts.A m.parts.n m.parts.c)).setCell ⟨w.heap.size + 1, 14, none⟩ (.slice m.tiers.A m.tiers.n m.tiers.c)) = W6 := ⟨_, rfl⟩
  have hblk : Qu.Blk W6 (w.heap.size + 1) 28 #[.string q.id, .int .i64 q.kind, .int .i64 q.priority, .string q.group, .string q.code, .bool q.closes, .slice m.scope.skus.A m.scope.skus.n m.scope.skus.c, .slice m.scope.cats.A m.scope.cats.n m.scope.cats.c, .int .i64 q.least, .int .i64 q.rate, .int .i64 q.amount, .int .i64 q.buy, .int .i64 q.get, .slice m.parts.A m.parts.n m.parts.c, .slice m.tiers.A m.tiers.n m.tiers.c] := by
    rw [<- hW6]
    exact Kd.blk_puts (q.enc m) w5 0 _ hz5
  have ho : Mv.Only w5 W6 (Mv.one (w.heap.size + 1)) := by rw [<- hW6]; exact Py.only_puts (q.enc m) w5 0 (Mv.Only.refl w5 _)
  have hbel : Below w.heap.size w W6 := by rw [<- hW6]; exact Kd.below_puts (by omega) (q.enc m) w5 0 (HZ4.out.2.1.trans (hb5.mono HZ4.out.2.1.size))
  have HFin : Hid (MadeN w (.returned (.agg #[.string q.id, .int .i64 q.kind, .int .i64 q.priority, .string q.group, .string q.code, .bool q.closes, .slice m.scope.skus.A m.scope.skus.n m.scope.skus.c, .slice m.scope.cats.A m.scope.cats.n m.scope.cats.c, .int .i64 q.least, .int .i64 q.rate, .int .i64 q.amount, .int .i64 q.buy, .int .i64 q.get, .slice m.parts.A m.parts.n m.parts.c, .slice m.tiers.A m.tiers.n m.tiers.c])) W6 q) := Lib.hid ⟨m, rfl, hmay, hfew, anew_turn ha (by have := HZ4.out.2.2; omega) ho hbel (by have := HZ4.out.2.2; omega)⟩
  have HBl := Lib.hid hblk
  have hw6 := Lib.hid hW6
  clear hmay hfew hb5 ha hz5 hblk ho hbel hW6 HNe HX4
  go_wp2_with fail
  rw [hw6.out]
  refine bodyPost_ret (Py.results_promo rfl _ _ (w.heap.size + 1) _ rfl HBl.out rfl rfl) rfl ?_
  exact HFin.out
theorem bundle_four (p : Prm) : (Py.nearP (withKind p 4) 1).kind = 4 := by
  unfold Py.nearP
  have h : (1 + (Py.modN (IntKind.i64.wrap ((withKind p 4).kind - 1)) 7 : Int)) = 4 := by
    show (1 + (Py.modN (IntKind.i64.wrap ((4 : Int) - 1)) 7 : Int)) = 4
    rw [show IntKind.i64.wrap ((4 : Int) - 1) = ((3 : Nat) : Int) by decide +kernel, show Py.modN ((3 : Nat) : Int) 7 = 3 from Py.modN_num 3 7 (by omega) (by omega)]
    rfl
  rw [h]
  unfold Py.swP
  rw [if_neg (by decide), if_neg (by decide), if_neg (by decide), if_pos rfl]
end Go.Proofs.YtljmddjlnlmenaaGreat.Dl

end

section
namespace Go.Proofs.YtljmddjlnlmenaaGreat.Dl
open Go.ChangeShapes Go.WideShapes Go.ChangeAt Go.RowKit
open Ap (Unt Tir Prm Prt kUnt kTir kPrt row_Unt row_Tir row_Prt)
open Ct (nth nth_some netAt netsL sumL sumL_append UnitsMay PlacesMay May mayB mayB_iff mayB_yes halfN lessU take_next nsum Nets inI)
def inAny (ls : List (List Int)) (x : Int) : Bool := ls.any fun l => inI l x
theorem inAny_next {ls : List (List Int)} {k : Nat} {l : List Int} (h : ls[k]? = some l) (x : Int) : inAny (ls.take (k + 1)) x = (inAny (ls.take k) x || inI l x) := by
  unfold inAny
  rw [take_next h, List.any_append, List.any_cons, List.any_nil, Bool.or_false]
theorem inAny_mem {ls : List (List Int)} {l : List Int} {x : Int} (hl : l ∈ ls) (hx : x ∈ l) : inAny ls x = true := by
  unfold inAny
  rw [List.any_eq_true]
  exact ⟨l, hl, by unfold inI; rw [List.contains_iff_mem]; exact hx⟩
structure KeepD (vs ys : List Unt) (pl : List (List Int)) (cl : Bool) (z : Int) : Prop where
  len : ys.length = vs.length
  each : ∀ (i : Nat) (u : Unt), vs[i]? = some u -> ∃ v, ys[i]? = some v /\ v.line = u.line /\ (0 <= v.net /\ v.net <= u.net) /\ (inAny pl (i : Int) = false -> v = u) /\ (v.opn = true -> u.opn = true) /\ (v.net < u.net -> cl = true -> v.opn = false)
  sum : nsum ys = nsum vs - z
  pos : 0 <= z
theorem keep_none {vs : List Unt} (hu : UnitsMay vs) (pl : List (List Int)) (cl : Bool) : KeepD vs vs pl cl 0 :=
  ⟨rfl, fun i u hi => ⟨u, hi, rfl, ⟨hu.nets i u hi, Int.le_refl _⟩, fun _ => rfl, id, fun h => by omega⟩, by omega, by omega⟩
theorem keep_less {vs : List Unt} {ds os : List Int} {pl : List (List Int)} {cl : Bool} (hu : UnitsMay vs) (hf : Fine vs ds os) (hin : ∀ m ∈ ds, inAny pl m = true) : KeepD vs (lessU vs ds os cl).1 pl cl (lessU vs ds os cl).2 := by
  have hsum := Ct.less_sum hf.apart.toFar hf.apart.in_ (by rw [hf.len]; exact Nat.le_refl _) cl
  by_cases h0 : sumL os = 0
  . have e : lessU vs ds os cl = (vs, 0) := by unfold lessU; rw [if_pos h0]
    rw [e]
    exact keep_none hu pl cl
  . have e2 : (lessU vs ds os cl).2 = sumL os := by unfold lessU; rw [if_neg h0]
    refine ⟨Ct.less_length _ _ _ _, fun i u hi => ?_, hsum, ?_⟩
    . by_cases hm : ∃ (j : Nat) (m : Int), ds[j]? = some m /\ m.toNat = i
      . obtain ⟨j, m, hj, rfl⟩ := hm
        have ho : os[j]? = some (os[j]'(by rw [hf.len]; exact (List.getElem?_eq_some_iff.1 hj).1)) := List.getElem?_eq_getElem _
        have h1 := Ct.less_mine hf.apart.toFar hf.len cl hj hi h0
        have h2 := hf.each j m _ hj ho
        have h3 : netAt vs m = u.net := by unfold netAt; rw [hi]
        rw [nth_some ho] at h1
        have h4 : inAny pl ((m.toNat : Nat) : Int) = true := by
          have h5 := hf.apart.at_ m (List.mem_of_getElem? hj)
          rw [Int.toNat_of_nonneg h5.1]
          exact hin m (List.mem_of_getElem? hj)
        refine ⟨_, h1, rfl, ⟨?_, ?_⟩, fun h => ?_, fun h => ?_, fun _ h => ?_⟩
        . show 0 <= u.net - _; omega
        . show u.net - _ <= u.net; omega
        . rw [h4] at h; cases h
        . have h6 : (u.opn && !cl) = true := h
          rw [Bool.and_eq_true] at h6; exact h6.1
        . show (u.opn && !cl) = false
          rw [h, Bool.not_true, Bool.and_false]
      . have h1 := Ct.less_other (us := vs) (ms := ds) (os := os) (by rw [hf.len]; exact Nat.le_refl _) cl (i := i) fun j m hj e => hm ⟨j, m, hj, e⟩
        exact ⟨u, by rw [h1]; exact hi, rfl, ⟨hu.nets i u hi, Int.le_refl _⟩, fun _ => rfl, id, fun h => by omega⟩
    . rw [e2]
      have hs := (sum_most (l := os) (M := 10000000000000) fun x hx => by
        obtain ⟨i, hi⟩ := List.mem_iff_getElem?.1 hx
        have hl : i < ds.length := by rw [<- hf.len]; exact (List.getElem?_eq_some_iff.1 hi).1
        have h1 := hf.each i _ x (List.getElem?_eq_getElem hl) hi
        have h2 := net_most hu ds[i]
        omega).1
      exact hs
theorem keep_rows (p : Prm) {vs : List Unt} {ms : List Int} {pl : List (List Int)} (hu : UnitsMay vs) (hm : ms ∈ pl) : KeepD vs (buygetU p vs ms).1 pl p.closes (buygetU p vs ms).2 := by
  unfold buygetU
  split
  . rename_i h
    rw [Bool.and_eq_true, Bool.and_eq_true] at h
    have hb := buyget_kind h.1.1 (by have := h.1.2; simpa using this)
    have hf := rows_fine (mayB_iff.1 h.2) hb.2.1
    refine keep_less hu hf fun m hm2 => ?_
    unfold wholeL at hm2
    exact inAny_mem hm ((dearL_perm vs ms).mem_iff.1 (List.mem_of_mem_take hm2))
  . exact keep_none hu pl _
theorem make_in {p : Prm} {us : List Unt} {S : Int -> Prop} : ∀ (f : Nat) {ls : List (List Int)} {h : List Bool} {all os : List Int}, (∀ l ∈ ls, ∀ x ∈ l, S x) -> (∀ x ∈ all, S x) -> ∀ x ∈ (makeB p us f ls h all os).1, S x
  | 0, _, _, _, _, _, ha => ha
  | f + 1, ls, h, all, os, hl, ha => by
    rw [makeB]
    cases e : nextB p us ls h with
    | none => exact ha
    | some r =>
      obtain ⟨b, ls', h'⟩ := r
      obtain ⟨_, _, g3, g4, _⟩ := next_got e
      refine make_in f (fun l' hl' x hx => ?_) fun x hx => ?_
      . obtain ⟨l, hl2, hx2⟩ := g4 l' hl' x hx
        exact hl l hl2 x hx2
      . rcases List.mem_append.1 hx with h1 | h1
        . exact ha x h1
        . obtain ⟨l, hl2, hx2⟩ := g3 x h1
          exact hl l hl2 x hx2
theorem keep_bundle (p : Prm) {vs : List Unt} {pl : List (List Int)} (hu : UnitsMay vs) : KeepD vs (bundleU p vs pl).1 pl p.closes (bundleU p vs pl).2 := by
  unfold bundleU
  split
  . rename_i h
    unfold bundleB at h
    rw [Bool.and_eq_true, Bool.and_eq_true, Bool.and_eq_true] at h
    have hb := bundle_kind h.1.1.1 (by have := h.1.1.2; simpa using this)
    have hp : ∀ ms ∈ pl, PlacesMay vs ms := fun ms hms => (mayB_iff.1 (List.all_eq_true.1 h.2 ms hms)).places
    refine keep_less hu (make_fine hu hb.1 _ (starts_making hp)) ?_
    refine make_in (S := fun x => inAny pl x = true) _ (fun l hl x hx => ?_) fun x hx => by cases hx
    unfold starts at hl
    obtain ⟨ms, hms, rfl⟩ := List.mem_map.1 hl
    exact inAny_mem hms ((dearL_perm vs ms).mem_iff.1 hx)
  . exact keep_none hu pl _
end Go.Proofs.YtljmddjlnlmenaaGreat.Dl

end
