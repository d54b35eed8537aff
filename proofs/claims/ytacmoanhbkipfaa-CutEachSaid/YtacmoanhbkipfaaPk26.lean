/- Cuts: a promotion made anew, with lists of the call's own; kept where a box is written (made by gen-cut15.py). -/
import Derived.Deep.CutBlock
import Derived.Deep.DeepCutAuto
import Derived.Test.YtacmoanhbkipfaaPk21
import Derived.Test.YtacmoanhbkipfaaPk25

set_option maxRecDepth 100000
set_option linter.unusedVariables false
namespace Go.Proofs.Ytacmoanhbkipfaa.Ct
open Go.ChangeShapes Go.WideShapes Go.ChangeAt Go.RowKit
open Ap (Unt Tir Prm kPrt kUnt kTir row_Unt row_Tir)
open Kd (Kind Row kInt row_int)
open Ko (Out Told Told2 At row_on)
theorem anew_on {wc w' W' : World} {q : Prm} {m : Prm.Lay} (h : Py.Anew wc w' q m) (hb : Below w'.heap.size w' W') : Py.Anew wc W' q m :=
  ⟨Pr.holds_later h.holds hb, h.skus.later hb, h.cats.later hb, h.apart, (h.parts.stay (fun b hb2 => hb.block b hb2.1.1) fun g hg => hb.block g (h.parts.low g hg).2).more fun b hb2 => ⟨Kd.but_mono hb.size b hb2.1, hb2.2⟩, h.tiers.later hb, h.below.trans (hb.mono h.below.size)⟩
def MadeN (w : World) (e : Ending) (w' : World) (q : Prm) : Prop := ∃ m : Prm.Lay, e = .returned (.agg #[.string q.id, .int .i64 q.kind, .int .i64 q.priority, .string q.group, .string q.code, .bool q.closes, .slice m.scope.skus.A m.scope.skus.n m.scope.skus.c, .slice m.scope.cats.A m.scope.cats.n m.scope.cats.c, .int .i64 q.least, .int .i64 q.rate, .int .i64 q.amount, .int .i64 q.buy, .int .i64 q.get, .slice m.parts.A m.parts.n m.parts.c, .slice m.tiers.A m.tiers.n m.tiers.c]) ∧ Pr.promoB q = true ∧ (q.scope.skus.length ≤ 8 ∧ q.scope.cats.length ≤ 8 ∧ q.tiers.length ≤ 6 ∧ q.parts.length ≤ 3) ∧ Py.Anew w w' q m
theorem near2_any (p : Prm) (l : Prm.Lay) (w : World) (h : Ap.Prm.Holds w (· < w.heap.size) p l) (hS : Pr.PrmSmall p l) :
    Calls Try.prog 13 #[.agg #[.string p.id, .int .i64 p.kind, .int .i64 p.priority, .string p.group, .string p.code, .bool p.closes, .slice l.scope.skus.A l.scope.skus.n l.scope.skus.c, .slice l.scope.cats.A l.scope.cats.n l.scope.cats.c, .int .i64 p.least, .int .i64 p.rate, .int .i64 p.amount, .int .i64 p.buy, .int .i64 p.get, .slice l.parts.A l.parts.n l.parts.c, .slice l.tiers.A l.tiers.n l.tiers.c], .int .i64 1] w fun e w' => MadeN w e w' (Py.nearP p 1) := by
  have h1 := Py.promo_near p l 1 w h hS
  rw [show Py.modN 1 10 = 1 from Py.modN_num 1 10 (by omega) (by omega)] at h1
  refine h1.mono ?_
  rintro e w' ⟨m, rfl, hm, _, hf, ha⟩
  exact ⟨m, rfl, hm, ⟨hf.1, hf.2.1, hf.2.2.1, hf.2.2.2.1⟩, ha⟩
theorem holds_only {w W u : World} {p : Prm} {l : Prm.Lay} (h : Ap.Prm.Holds W (· < w.heap.size) p l) (hs : w.heap.size < W.heap.size) (ho : Mv.Only W u (Mv.one w.heap.size)) : Ap.Prm.Holds u (· < u.heap.size) p l := by
  have ag : Kd.Agree (· < w.heap.size) W u := fun b hb => ho.block b (by omega) fun e => by have : b = w.heap.size := e; omega
  have hm : ∀ b, b < w.heap.size → b < u.heap.size := fun b hb => by have := ho.size; omega
  exact ⟨h.id, h.kind, h.priority, h.group, h.code, ⟨⟨(h.scope.skus.row.stay ag).more hm, h.scope.skus.fit⟩, ⟨(h.scope.cats.row.stay ag).more hm, h.scope.cats.fit⟩⟩, h.least, h.rate, h.amount, h.buy, h.get, ⟨(h.parts.row.stay ag).more hm, h.parts.fit⟩, ⟨(h.tiers.row.stay ag).more hm, h.tiers.fit⟩⟩
abbrev Out1 (w W : World) : Nat → Prop := fun b => b < W.heap.size ∧ b ≠ w.heap.size
structure Turned (w Wn : World) (A : Option Addr) (k c : Nat) (vs : List Unt) (q : Prm) (m : Prm.Lay) : Prop where
  row : Row kUnt Wn (Out1 w Wn) A k vs
  fit : Kd.Fit A k c
  blk : Qu.Blk Wn w.heap.size 28 #[.string q.id, .int .i64 q.kind, .int .i64 q.priority, .string q.group, .string q.code, .bool q.closes, .slice m.scope.skus.A m.scope.skus.n m.scope.skus.c, .slice m.scope.cats.A m.scope.cats.n m.scope.cats.c, .int .i64 q.least, .int .i64 q.rate, .int .i64 q.amount, .int .i64 q.buy, .int .i64 q.get, .slice m.parts.A m.parts.n m.parts.c, .slice m.tiers.A m.tiers.n m.tiers.c]
  holds : Ap.Prm.Holds Wn (Out1 w Wn) q m
  below : Below w.heap.size w Wn
theorem out_row {α : Type} {K : Kd.Kind α} {w wl : World} {B E n c : Nat} {A : Option Addr} {xs : List α} (h : Kd.Own K wl B E (fun _ => False) (.slice A n c) n xs) (hB : w.heap.size < B) : Row K wl (Out1 w wl) A n xs :=
  (h.more (G := Out1 w wl) fun _ h => h.elim).row fun g hg => ⟨(h.low g hg).2, by have := (h.low g hg).1; omega⟩
theorem out_lst {α : Type} {K : Kd.Kind α} {w wl : World} {B E n c : Nat} {A : Option Addr} {xs : List α} (h : Kd.Own K wl B E (fun _ => False) (.slice A n c) n xs) (hB : w.heap.size < B) : Kd.Lst K wl (Out1 w wl) ⟨A, n, c⟩ xs := ⟨out_row h hB, h.fit⟩
theorem turned_in {w wc wl Wn : World} {B : Nat} {A : Option Addr} {k c : Nat} {vs : List Unt} {q : Prm} {m : Prm.Lay} {cs : Array Value} (hou : Kd.Own kUnt wl B 41 (fun _ => False) (.slice A k c) k vs) (hB : w.heap.size < B) (ha : Py.Anew wc wl q m) (hc : w.heap.size < wc.heap.size) (hz : Qu.Blk wl w.heap.size 28 cs) (hcs : ∃ a b c d e f g h i j k l m n o, cs = #[a, b, c, d, e, f, g, h, i, j, k, l, m, n, o]) (hb : Below w.heap.size w wl) (e : wl.setCells w.heap.size 0 (q.enc m) = Wn) : Turned w Wn A k c vs q m := by
  have ho : Mv.Only wl Wn (Mv.one w.heap.size) := by rw [← e]; exact Py.only_puts (q.enc m) wl 0 (Mv.Only.refl wl _)
  obtain ⟨a1, a2, a3, a4, a5, a6, a7, a8, a9, a10, a11, a12, a13, a14, a15, rfl⟩ := hcs
  have hbk : Qu.Blk Wn w.heap.size 28 #[.string q.id, .int .i64 q.kind, .int .i64 q.priority, .string q.group, .string q.code, .bool q.closes, .slice m.scope.skus.A m.scope.skus.n m.scope.skus.c, .slice m.scope.cats.A m.scope.cats.n m.scope.cats.c, .int .i64 q.least, .int .i64 q.rate, .int .i64 q.amount, .int .i64 q.buy, .int .i64 q.get, .slice m.parts.A m.parts.n m.parts.c, .slice m.tiers.A m.tiers.n m.tiers.c] := by rw [← e]; exact Kd.blk_puts (q.enc m) wl 0 _ hz
  have hf := Py.own_far hou ho fun b hb e => by have := (hou.low b hb).1; have : b = w.heap.size := e; omega
  have hbel : Below w.heap.size w Wn := by rw [← e]; exact Kd.below_puts (Nat.le_refl _) (q.enc m) wl 0 hb
  have n1 : ∀ b, (Value.slice m.scope.skus.A m.scope.skus.n m.scope.skus.c).ownBlock = some b → ¬ Mv.one w.heap.size b := fun b hb e => by have := (ha.skus.low b hb).1; have : b = w.heap.size := e; omega
  have n2 : ∀ b, (Value.slice m.scope.cats.A m.scope.cats.n m.scope.cats.c).ownBlock = some b → ¬ Mv.one w.heap.size b := fun b hb e => by have := (ha.cats.low b hb).1; have : b = w.heap.size := e; omega
  have n3 : ∀ b, (Value.slice m.tiers.A m.tiers.n m.tiers.c).ownBlock = some b → ¬ Mv.one w.heap.size b := fun b hb e => by have := (ha.tiers.low b hb).1; have : b = w.heap.size := e; omega
  have n4 : ∀ b, (Value.slice m.parts.A m.parts.n m.parts.c).ownBlock = some b → ¬ Mv.one w.heap.size b := fun b hb e => by have := (ha.parts.low b hb).1; have : b = w.heap.size := e; omega
  have hsz := ho.size
  have hh := ha.holds
  have p4 := (ha.parts.stay (fun b hb => ho.block b hb.1.1 fun e => by have : b = w.heap.size := e; have := hb.2.1; omega) fun b hb => ho.block b (ha.parts.low b hb).2 (n4 b hb)).more (G := Out1 w Wn) fun b hb => ⟨Nat.lt_of_lt_of_le hb.1.1 hsz, by have := hb.2.1; omega⟩
  have s4 : Kd.Lst kPrt Wn (Out1 w Wn) m.parts q.parts := ⟨p4.row fun g hg => ⟨(p4.low g hg).2, by have := (p4.low g hg).1; omega⟩, ha.parts.fit⟩
  exact ⟨out_row hf hB, hf.fit, hbk, ⟨hh.id, hh.kind, hh.priority, hh.group, hh.code, ⟨out_lst (Py.own_far ha.skus ho n1) hc, out_lst (Py.own_far ha.cats ho n2) hc⟩, hh.least, hh.rate, hh.amount, hh.buy, hh.get, s4, out_lst (Py.own_far ha.tiers ho n3) hc⟩, hbel⟩
theorem Turned.on {w Wn W : World} {A : Option Addr} {k c : Nat} {vs : List Unt} {q : Prm} {m : Prm.Lay} (h : Turned w Wn A k c vs q m) (hb : Below Wn.heap.size Wn W) : Turned w W A k c vs q m := by
  have ag : Kd.Agree (Out1 w Wn) Wn W := fun b hb2 => hb.block b hb2.1
  have hm : ∀ b, Out1 w Wn b → Out1 w W b := fun b hb2 => ⟨Nat.lt_of_lt_of_le hb2.1 hb.size, hb2.2⟩
  have hh := h.holds
  exact ⟨(h.row.stay ag).more hm, h.fit, h.blk.below hb, ⟨hh.id, hh.kind, hh.priority, hh.group, hh.code, ⟨(hh.scope.skus.stay ag).more hm, (hh.scope.cats.stay ag).more hm⟩, hh.least, hh.rate, hh.amount, hh.buy, hh.get, (hh.parts.stay ag).more hm, (hh.tiers.stay ag).more hm⟩, h.below.trans (hb.mono h.below.size)⟩
theorem Turned.urow {w Wn : World} {A : Option Addr} {k c : Nat} {vs : List Unt} {q : Prm} {m : Prm.Lay} (h : Turned w Wn A k c vs q m) : Row kUnt Wn (· < Wn.heap.size) A k vs := h.row.more fun _ hb => hb.1
theorem Turned.all {w Wn : World} {A : Option Addr} {k c : Nat} {vs : List Unt} {q : Prm} {m : Prm.Lay} (h : Turned w Wn A k c vs q m) : Ap.Prm.Holds Wn (· < Wn.heap.size) q m :=
  ⟨h.holds.id, h.holds.kind, h.holds.priority, h.holds.group, h.holds.code, ⟨h.holds.scope.skus.more fun _ hb => hb.1, h.holds.scope.cats.more fun _ hb => hb.1⟩, h.holds.least, h.holds.rate, h.holds.amount, h.holds.buy, h.holds.get, h.holds.parts.more fun _ hb => hb.1, h.holds.tiers.more fun _ hb => hb.1⟩
def withCloses (q : Prm) (b : Bool) : Prm := ⟨q.id, q.kind, q.priority, q.group, q.code, b, q.scope, q.least, q.rate, q.amount, q.buy, q.get, q.parts, q.tiers⟩
def withKind (q : Prm) (z : Int) : Prm := ⟨q.id, z, q.priority, q.group, q.code, q.closes, q.scope, q.least, q.rate, q.amount, q.buy, q.get, q.parts, q.tiers⟩
theorem Turned.put {w Wn : World} {A : Option Addr} {k c : Nat} {vs : List Unt} {q : Prm} {m : Prm.Lay} (h : Turned w Wn A k c vs q m) (b : Bool) : Turned w (Wn.setCell ⟨w.heap.size, 5, none⟩ (.bool b)) A k c vs (withCloses q b) m := by
  have ag : Kd.Agree (Out1 w Wn) Wn (Wn.setCell ⟨w.heap.size, 5, none⟩ (.bool b)) := fun j hj => Below.heap_setCell Wn _ _ j hj.2
  have hs : (Wn.setCell ⟨w.heap.size, 5, none⟩ (.bool b)).heap.size = Wn.heap.size := by simp [World.setCell]
  have hm : ∀ j, Out1 w Wn j → Out1 w (Wn.setCell ⟨w.heap.size, 5, none⟩ (.bool b)) j := fun j hj => ⟨by rw [hs]; exact hj.1, hj.2⟩
  have hh := h.holds
  exact ⟨(h.row.stay ag).more hm, h.fit, h.blk.put 5 _, ⟨hh.id, hh.kind, hh.priority, hh.group, hh.code, ⟨(hh.scope.skus.stay ag).more hm, (hh.scope.cats.stay ag).more hm⟩, hh.least, hh.rate, hh.amount, hh.buy, hh.get, (hh.parts.stay ag).more hm, (hh.tiers.stay ag).more hm⟩, h.below.setCell (Nat.le_refl _) _⟩
theorem holds_in {w W : World} {p : Prm} {l : Prm.Lay} (h : Ap.Prm.Holds w (· < w.heap.size) p l) (hb : Below w.heap.size w W) : Ap.Prm.Holds W (· < w.heap.size) p l :=
  ⟨h.id, h.kind, h.priority, h.group, h.code, ⟨h.scope.skus.below hb (Nat.le_refl _), h.scope.cats.below hb (Nat.le_refl _)⟩, h.least, h.rate, h.amount, h.buy, h.get, h.parts.below hb (Nat.le_refl _), h.tiers.below hb (Nat.le_refl _)⟩
end Go.Proofs.Ytacmoanhbkipfaa.Ct
