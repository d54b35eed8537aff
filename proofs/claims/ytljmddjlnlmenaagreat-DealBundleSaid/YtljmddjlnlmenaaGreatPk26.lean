/- The statements' Promo: what stands at each stage; its text's tails. (made by wip/gen-play.py) · The statements' Promo: its end. (made by wip/gen-play.py) · The statements' Promo: the ways of its switch but a bundle's. (made by wip/gen-play.py) · The statements' Promo: what is bought and what is got. (made by wip/gen-play.py) · The statements' Promo: what stands while a bundle's parts are made. (made by wip/gen-play.py) -/
import Derived.Deep.CutBlock
import Derived.Deep.DeepCutAuto
import Derived.Deep.RegionHeld3
import Derived.IntWalk
import Derived.Test.YtljmddjlnlmenaaGreatPk18
import Derived.Test.YtljmddjlnlmenaaGreatPk24
import Derived.Test.YtljmddjlnlmenaaGreatPk25
set_option maxRecDepth 100000
set_option linter.unusedVariables false

section
namespace Go.Proofs.YtljmddjlnlmenaaGreat.Py
open Go.ChangeShapes Go.WideShapes Go.ChangeAt Go.RowKit
open Kd (Kind Row Own Cells Fit Agree Deep Lst kStr)
open Ap (Scp Prt Tir Prm kPrt kTir kPrm row_Prt row_Tir)
open Pr (promoB headB kindB blankB)
open Mv (Only)
structure Anew (w w' : World) (q : Prm) (m : Prm.Lay) : Prop where
  holds : Ap.Prm.Holds w' (· < w'.heap.size) q m
  skus : Kd.Own kStr w' w.heap.size 9 (fun _ => False) (.slice m.scope.skus.A m.scope.skus.n m.scope.skus.c) m.scope.skus.n q.scope.skus
  cats : Kd.Own kStr w' w.heap.size 9 (fun _ => False) (.slice m.scope.cats.A m.scope.cats.n m.scope.cats.c) m.scope.cats.n q.scope.cats
  apart : ∀ g, (Value.slice m.scope.skus.A m.scope.skus.n m.scope.skus.c).ownBlock = some g -> (Value.slice m.scope.cats.A m.scope.cats.n m.scope.cats.c).ownBlock ≠ some g
  parts : Kd.Own kPrt w' w.heap.size 56 (fun b => Kd.But w' (.slice m.parts.A m.parts.n m.parts.c) b /\ w.heap.size <= b /\ (Value.slice m.scope.skus.A m.scope.skus.n m.scope.skus.c).ownBlock ≠ some b /\ (Value.slice m.scope.cats.A m.scope.cats.n m.scope.cats.c).ownBlock ≠ some b /\ (Value.slice m.tiers.A m.tiers.n m.tiers.c).ownBlock ≠ some b) (.slice m.parts.A m.parts.n m.parts.c) m.parts.n q.parts
  tiers : Kd.Own kTir w' w.heap.size 124 (fun _ => False) (.slice m.tiers.A m.tiers.n m.tiers.c) m.tiers.n q.tiers
  below : Below w.heap.size w w'
def grOf (p : Prm) : ByteArray := if modN (pickS p.group) 3 = 1 then two 103 (48 + modN (p.group.size : Int) 2) else ⟨#[]⟩
def coOf (p : Prm) : ByteArray := if modN (pickS p.code) 3 = 1 then codeS (modN (p.code.size : Int) 3) else ⟨#[]⟩
def leOf (p : Prm) : Int := if modN p.least 3 = 1 then (modN p.least 9000 : Int) else 0
def partN (x : Prt) : Prt := ⟨scopeOf x.scope, 1 + (modN x.count 2 : Int)⟩
def partsTo (l : List Prt) (k : Nat) : List Prt := (l.take k).map partN
def partsOf (l : List Prt) : List Prt := if (partsTo l 3).length = 0 then [⟨⟨[], []⟩, 2⟩] else partsTo l 3
def swP (p : Prm) (i : ByteArray) (kd pr : Int) (gr co : ByteArray) (cl : Bool) (sc : Scp) (le : Int) : Prm :=
  if kd = 1 then ⟨i, kd, pr, gr, co, cl, sc, le, 1 + (modN p.rate 10000 : Int), 0, 0, 0, [], []⟩
  else if kd = 2 then ⟨i, kd, pr, gr, co, cl, sc, le, 0, 1 + (modN p.amount 900 : Int), 0, 0, [], []⟩
  else if kd = 3 then ⟨i, kd, pr, gr, co, cl, sc, le, 1 + (modN p.rate 10000 : Int), 0, 1 + (modN p.buy 3 : Int), 1 + (modN p.get 2 : Int), [], []⟩
  else if kd = 4 then ⟨i, kd, pr, gr, co, cl, ⟨[], []⟩, le, 0, (modN p.amount 3000 : Int), 0, 0, partsOf p.parts, []⟩
  else if kd = 5 then ⟨i, kd, pr, gr, co, cl, sc, le, 0, 0, 0, 0, [], tirOf p.tiers 5000⟩
  else if kd = 6 then ⟨i, kd, pr, gr, co, cl, sc, le, 0, 0, 0, 0, [], tirOf p.tiers 5⟩
  else ⟨i, kd, pr, gr, co, false, ⟨[], []⟩, le, 1 + (modN p.rate 10000 : Int), 0, 0, 0, [], []⟩
theorem parts_is {l : List Prt} {n N : Nat} (h : n = 3 \/ l.length <= n) (hn : 1 <= n /\ n <= 3 /\ n <= N) (hl : l.length = N) : partsOf l = partsTo l n := by
  have e : partsTo l 3 = partsTo l n := by
    rcases h with rfl | h
    . rfl
    . unfold partsTo
      rw [List.take_of_length_le (by omega), List.take_of_length_le h]
  unfold partsOf
  rw [e, if_neg (by unfold partsTo; rw [List.length_map, List.length_take]; omega)]
theorem parts_none {l : List Prt} (h : l.length = 0) : partsOf l = [⟨⟨[], []⟩, 2⟩] := by
  unfold partsOf
  rw [if_pos (by unfold partsTo; rw [List.length_map, List.length_take]; omega)]
def nearP (p : Prm) (k : Nat) : Prm := swP p (idS k) (1 + (modN (IntKind.i64.wrap (p.kind - 1)) 7 : Int)) (modN p.priority 5 : Int) (grOf p) (coOf p) p.closes (scopeOf p.scope) (leOf p)
def PlayedAs (w : World) (k : Nat) (q : Prm) (e : Ending) (w' : World) : Prop := ∃ (m : Prm.Lay), e = .returned (.agg (q.enc m).toArray) /\ promoB q = true /\ q.id = idS k /\
  (q.scope.skus.length <= 8 /\ q.scope.cats.length <= 8 /\ q.tiers.length <= 6 /\ q.parts.length <= 3 /\ ∀ (j : Nat) (x : Prt), q.parts[j]? = some x -> x.scope.skus.length <= 8 /\ x.scope.cats.length <= 8) /\ Anew w w' q m
structure Facts (k : Nat) (i : ByteArray) (kd pr : Int) (gr co : ByteArray) (sc : Scp) (le : Int) : Prop where
  id : i = idS k
  k10 : k < 10
  kind : 1 <= kd /\ kd <= 7
  prio : 0 <= pr /\ pr <= 1000
  gr : blankB gr = true /\ gr.size <= maxLen
  co : blankB co = true /\ co.size <= maxLen
  scope : Sc.scopeB sc = true /\ sc.skus.length <= 8 /\ sc.cats.length <= 8
  least : 0 <= le /\ le <= 10000000000000
structure Stage (w wc : World) (p : Prm) (l : Prm.Lay) (g2 g4 g5 : Nat) (i : ByteArray) (kd pr : Int) (gr co : ByteArray) (cl : Bool) (sc : Scp) (sl : Scp.Lay) (le : Int) : Prop where
  src : Qu.Blk wc g2 28 #[.string p.id, .int .i64 p.kind, .int .i64 p.priority, .string p.group, .string p.code, .bool p.closes, .slice l.scope.skus.A l.scope.skus.n l.scope.skus.c, .slice l.scope.cats.A l.scope.cats.n l.scope.cats.c, .int .i64 p.least, .int .i64 p.rate, .int .i64 p.amount, .int .i64 p.buy, .int .i64 p.get, .slice l.parts.A l.parts.n l.parts.c, .slice l.tiers.A l.tiers.n l.tiers.c]
  res : Qu.Blk wc g4 28 #[.string ⟨#[]⟩, .int .i64 0, .int .i64 0, .string ⟨#[]⟩, .string ⟨#[]⟩, .bool false, .slice none 0 0, .slice none 0 0, .int .i64 0, .int .i64 0, .int .i64 0, .int .i64 0, .int .i64 0, .slice none 0 0, .slice none 0 0]
  out : Qu.Blk wc g5 28 #[.string i, .int .i64 kd, .int .i64 pr, .string gr, .string co, .bool cl, .slice sl.skus.A sl.skus.n sl.skus.c, .slice sl.cats.A sl.cats.n sl.cats.c, .int .i64 le, .int .i64 0, .int .i64 0, .int .i64 0, .int .i64 0, .slice none 0 0, .slice none 0 0]
  low : w.heap.size <= g2
  one : g2 < g4
  two : g4 < g5
  skus : Kd.Own kStr wc w.heap.size 9 (fun _ => False) (.slice sl.skus.A sl.skus.n sl.skus.c) sl.skus.n sc.skus
  cats : Kd.Own kStr wc w.heap.size 9 (fun _ => False) (.slice sl.cats.A sl.cats.n sl.cats.c) sl.cats.n sc.cats
  apart : ∀ g, (Value.slice sl.skus.A sl.skus.n sl.skus.c).ownBlock = some g -> (Value.slice sl.cats.A sl.cats.n sl.cats.c).ownBlock ≠ some g
  below : Below w.heap.size w wc
theorem own_far {α : Type} {K : Kind α} {w w' : World} {B E n : Nat} {v : Value} {xs : List α} {S : Nat -> Prop} (h : Kd.Own K w B E (fun _ => False) v n xs) (ho : Only w w' S) (hS : ∀ b, v.ownBlock = some b -> ¬ S b) : Kd.Own K w' B E (fun _ => False) v n xs :=
  h.stay (fun _ h => h.elim) fun g hg => ho.block g (h.low g hg).2 (hS g hg)
theorem own_ne {α : Type} {K : Kind α} {w : World} {B E n q : Nat} {F : Nat -> Prop} {v : Value} {xs : List α} {cs : Array Value} (h : Kd.Own K w B E F v n xs) (hb : Qu.Blk w q 28 cs) (hE : E ≠ 28) : v.ownBlock ≠ some q := by
  obtain ⟨_, cs0, ho, _⟩ := h
  intro e
  rcases ho.2 with ⟨rfl, _⟩ | ⟨g, cap, cur, rfl, _, hh, _⟩
  . cases e
  . have e2 : g = q := by injection e
    subst e2
    rw [hb.here] at hh
    injection hh with hh
    injection hh with _ ht
    exact hE ht.symm
section
variable {w wc W : World} {p : Prm} {l : Prm.Lay} {g2 g4 g5 : Nat} {i gr co : ByteArray} {kd pr le : Int} {cl : Bool} {sc : Scp} {sl : Scp.Lay}
theorem Stage.later (h : Stage w wc p l g2 g4 g5 i kd pr gr co cl sc sl le) (hb : Below wc.heap.size wc W) : Stage w W p l g2 g4 g5 i kd pr gr co cl sc sl le :=
  ⟨h.src.below hb, h.res.below hb, h.out.below hb, h.low, h.one, h.two, h.skus.later hb, h.cats.later hb, h.apart, h.below.trans (hb.mono h.below.size)⟩
theorem Stage.only (h : Stage w wc p l g2 g4 g5 i kd pr gr co cl sc sl le) (n : Nat) (u : Value) : Only wc (wc.setCell ⟨g5, n, none⟩ u) (Mv.one g5) := (Only.refl wc _).put u fun _ => rfl
theorem set_below {w wc : World} {g n : Nat} {u : Value} (h : Below w.heap.size w wc) (hg : w.heap.size <= g) : Below w.heap.size w (wc.setCell ⟨g, n, none⟩ u) := h.setCell hg u
theorem Stage.group (h : Stage w wc p l g2 g4 g5 i kd pr gr co cl sc sl le) (gr' : ByteArray) : Stage w (wc.setCell ⟨g5, 3, none⟩ (.string gr')) p l g2 g4 g5 i kd pr gr' co cl sc sl le := by
  have ho := h.only 3 (.string gr')
  have h1 := h.one
  have h2 := h.two
  have h3 := h.low
  exact ⟨Mv.blk_only h.src ho (fun e => by have : g2 = g5 := e; omega), Mv.blk_only h.res ho (fun e => by have : g4 = g5 := e; omega), h.out.put 3 _, h.low, h.one, h.two, own_far h.skus ho (fun b hb e => own_ne h.skus h.out (by decide) (by rw [hb, show b = g5 from e])), own_far h.cats ho (fun b hb e => own_ne h.cats h.out (by decide) (by rw [hb, show b = g5 from e])), h.apart, set_below h.below (by omega)⟩
theorem Stage.code (h : Stage w wc p l g2 g4 g5 i kd pr gr co cl sc sl le) (co' : ByteArray) : Stage w (wc.setCell ⟨g5, 4, none⟩ (.string co')) p l g2 g4 g5 i kd pr gr co' cl sc sl le := by
  have ho := h.only 4 (.string co')
  have h1 := h.one
  have h2 := h.two
  have h3 := h.low
  exact ⟨Mv.blk_only h.src ho (fun e => by have : g2 = g5 := e; omega), Mv.blk_only h.res ho (fun e => by have : g4 = g5 := e; omega), h.out.put 4 _, h.low, h.one, h.two, own_far h.skus ho (fun b hb e => own_ne h.skus h.out (by decide) (by rw [hb, show b = g5 from e])), own_far h.cats ho (fun b hb e => own_ne h.cats h.out (by decide) (by rw [hb, show b = g5 from e])), h.apart, set_below h.below (by omega)⟩
theorem Stage.least (h : Stage w wc p l g2 g4 g5 i kd pr gr co cl sc sl le) (le' : Int) : Stage w (wc.setCell ⟨g5, 8, none⟩ (.int .i64 le')) p l g2 g4 g5 i kd pr gr co cl sc sl le' := by
  have ho := h.only 8 (.int .i64 le')
  have h1 := h.one
  have h2 := h.two
  have h3 := h.low
  exact ⟨Mv.blk_only h.src ho (fun e => by have : g2 = g5 := e; omega), Mv.blk_only h.res ho (fun e => by have : g4 = g5 := e; omega), h.out.put 8 _, h.low, h.one, h.two, own_far h.skus ho (fun b hb e => own_ne h.skus h.out (by decide) (by rw [hb, show b = g5 from e])), own_far h.cats ho (fun b hb e => own_ne h.cats h.out (by decide) (by rw [hb, show b = g5 from e])), h.apart, set_below h.below (by omega)⟩
end
theorem results_promo {f : Func} {t : Tmp} {T : TypeId} (hf : f.results = #[.cell t T]) (tmps : Array Value) (w : World) (g : Nat) (vs : Array Value) (hT : T = 28) (h : Qu.Blk w g 28 vs) (hv : vs.size = 15) (hp : tmps.getD t undef = .pointer (some ⟨g, 0, none⟩)) : (results f tmps).run Tryz.prog w = .ok (.agg vs) w := by
  subst hT
  exact results_cell_row hf tmps w g 28 vs (0, 0) _ hp h.here Tryz.underlying28 rfl (by rw [hv]; kernel_rfl)
end Go.Proofs.YtljmddjlnlmenaaGreat.Py
end
section
namespace Go.Proofs.YtljmddjlnlmenaaGreat.Py
open Go.ChangeShapes Go.WideShapes Go.ChangeAt Go.RowKit
open Kd (Kind Row Own Cells Fit Agree Deep Lst kStr)
open Ap (Scp Prt Tir Prm kPrt kTir kPrm row_Prt row_Tir)
open Pr (promoB headB kindB blankB)
open Mv (Only)
noncomputable def tail6 : Code := match Tryz.f49.body with
  | some (.seq _ (.seq _ (.seq _ (.seq _ (.seq _ (.seq _ c)))))) => c
  | _ => .skip
structure End (w wc : World) (g4 g5 k : Nat) (q : Prm) (m : Prm.Lay) : Prop where
  res : Qu.Blk wc g4 28 #[.string ⟨#[]⟩, .int .i64 0, .int .i64 0, .string ⟨#[]⟩, .string ⟨#[]⟩, .bool false, .slice none 0 0, .slice none 0 0, .int .i64 0, .int .i64 0, .int .i64 0, .int .i64 0, .int .i64 0, .slice none 0 0, .slice none 0 0]
  out : Qu.Blk wc g5 28 #[.string q.id, .int .i64 q.kind, .int .i64 q.priority, .string q.group, .string q.code, .bool q.closes, .slice m.scope.skus.A m.scope.skus.n m.scope.skus.c, .slice m.scope.cats.A m.scope.cats.n m.scope.cats.c, .int .i64 q.least, .int .i64 q.rate, .int .i64 q.amount, .int .i64 q.buy, .int .i64 q.get, .slice m.parts.A m.parts.n m.parts.c, .slice m.tiers.A m.tiers.n m.tiers.c]
  low : w.heap.size <= g4
  ne : g4 ≠ g5
  may : promoB q = true
  id : q.id = idS k
  few : q.scope.skus.length <= 8 /\ q.scope.cats.length <= 8 /\ q.tiers.length <= 6 /\ q.parts.length <= 3 /\ ∀ (j : Nat) (x : Prt), q.parts[j]? = some x -> x.scope.skus.length <= 8 /\ x.scope.cats.length <= 8
  sizes : q.id.size <= maxLen /\ q.group.size <= maxLen /\ q.code.size <= maxLen
  bounds : (-9223372036854775808 <= q.kind /\ q.kind <= 9223372036854775807) /\ (-9223372036854775808 <= q.priority /\ q.priority <= 9223372036854775807) /\ (-9223372036854775808 <= q.least /\ q.least <= 9223372036854775807) /\ (-9223372036854775808 <= q.rate /\ q.rate <= 9223372036854775807) /\ (-9223372036854775808 <= q.amount /\ q.amount <= 9223372036854775807) /\ (-9223372036854775808 <= q.buy /\ q.buy <= 9223372036854775807) /\ (-9223372036854775808 <= q.get /\ q.get <= 9223372036854775807)
  skus : Kd.Own kStr wc w.heap.size 9 (fun _ => False) (.slice m.scope.skus.A m.scope.skus.n m.scope.skus.c) m.scope.skus.n q.scope.skus
  cats : Kd.Own kStr wc w.heap.size 9 (fun _ => False) (.slice m.scope.cats.A m.scope.cats.n m.scope.cats.c) m.scope.cats.n q.scope.cats
  apart : ∀ g, (Value.slice m.scope.skus.A m.scope.skus.n m.scope.skus.c).ownBlock = some g -> (Value.slice m.scope.cats.A m.scope.cats.n m.scope.cats.c).ownBlock ≠ some g
  parts : Kd.Own kPrt wc w.heap.size 56 (fun b => b < wc.heap.size /\ (Value.slice m.parts.A m.parts.n m.parts.c).ownBlock ≠ some b /\ b ≠ g4 /\ w.heap.size <= b /\ (Value.slice m.scope.skus.A m.scope.skus.n m.scope.skus.c).ownBlock ≠ some b /\ (Value.slice m.scope.cats.A m.scope.cats.n m.scope.cats.c).ownBlock ≠ some b /\ (Value.slice m.tiers.A m.tiers.n m.tiers.c).ownBlock ≠ some b) (.slice m.parts.A m.parts.n m.parts.c) m.parts.n q.parts
  tiers : Kd.Own kTir wc w.heap.size 124 (fun _ => False) (.slice m.tiers.A m.tiers.n m.tiers.c) m.tiers.n q.tiers
  below : Below w.heap.size w wc
theorem only_puts {w0 : World} {g : Nat} : ∀ (vs : List Value) (u : World) (o : Nat), Only w0 u (Mv.one g) -> Only w0 (u.setCells g o vs) (Mv.one g)
  | [], u, o, h => h
  | v :: r, u, o, h => only_puts r (u.setCell ⟨g, o, none⟩ v) (o + 1) (h.put v fun _ => rfl)
theorem End.stored {w wc : World} {g4 g5 k : Nat} {q : Prm} {m : Prm.Lay} (h : End w wc g4 g5 k q m) : Qu.Blk (wc.setCells g4 0 (q.enc m)) g4 28 #[.string q.id, .int .i64 q.kind, .int .i64 q.priority, .string q.group, .string q.code, .bool q.closes, .slice m.scope.skus.A m.scope.skus.n m.scope.skus.c, .slice m.scope.cats.A m.scope.cats.n m.scope.cats.c, .int .i64 q.least, .int .i64 q.rate, .int .i64 q.amount, .int .i64 q.buy, .int .i64 q.get, .slice m.parts.A m.parts.n m.parts.c, .slice m.tiers.A m.tiers.n m.tiers.c] /\ PlayedAs w k q (.returned (.agg #[.string q.id, .int .i64 q.kind, .int .i64 q.priority, .string q.group, .string q.code, .bool q.closes, .slice m.scope.skus.A m.scope.skus.n m.scope.skus.c, .slice m.scope.cats.A m.scope.cats.n m.scope.cats.c, .int .i64 q.least, .int .i64 q.rate, .int .i64 q.amount, .int .i64 q.buy, .int .i64 q.get, .slice m.parts.A m.parts.n m.parts.c, .slice m.tiers.A m.tiers.n m.tiers.c])) (wc.setCells g4 0 (q.enc m)) := by
  obtain ⟨W, hW⟩ : ∃ W, wc.setCells g4 0 (q.enc m) = W := ⟨_, rfl⟩
  have hb := Kd.blk_puts (q.enc m) wc 0 _ h.res
  have ho : Only wc W (Mv.one g4) := by rw [<- hW]; exact only_puts (q.enc m) wc 0 (Only.refl wc _)
  have hbel : Below w.heap.size w W := by rw [<- hW]; exact Kd.below_puts h.low (q.enc m) wc 0 h.below
  rw [hW] at hb ⊢
  have hblk : Qu.Blk W g4 28 #[.string q.id, .int .i64 q.kind, .int .i64 q.priority, .string q.group, .string q.code, .bool q.closes, .slice m.scope.skus.A m.scope.skus.n m.scope.skus.c, .slice m.scope.cats.A m.scope.cats.n m.scope.cats.c, .int .i64 q.least, .int .i64 q.rate, .int .i64 q.amount, .int .i64 q.buy, .int .i64 q.get, .slice m.parts.A m.parts.n m.parts.c, .slice m.tiers.A m.tiers.n m.tiers.c] := hb
  have s1 := own_far h.skus ho (fun b hb2 e => own_ne h.skus h.res (by decide) (by rw [hb2, show b = g4 from e]))
  have s2 := own_far h.cats ho (fun b hb2 e => own_ne h.cats h.res (by decide) (by rw [hb2, show b = g4 from e]))
  have s3 := own_far h.tiers ho (fun b hb2 e => own_ne h.tiers h.res (by decide) (by rw [hb2, show b = g4 from e]))
  have hsz := ho.size
  have s4 : Kd.Own kPrt W w.heap.size 56 (fun b => Kd.But W (.slice m.parts.A m.parts.n m.parts.c) b /\ w.heap.size <= b /\ (Value.slice m.scope.skus.A m.scope.skus.n m.scope.skus.c).ownBlock ≠ some b /\ (Value.slice m.scope.cats.A m.scope.cats.n m.scope.cats.c).ownBlock ≠ some b /\ (Value.slice m.tiers.A m.tiers.n m.tiers.c).ownBlock ≠ some b) (.slice m.parts.A m.parts.n m.parts.c) m.parts.n q.parts :=
    (h.parts.stay (fun b hb2 => ho.block b hb2.1 fun e => hb2.2.2.1 e) fun g hg => ho.block g (h.parts.low g hg).2 fun e => own_ne h.parts h.res (by decide) (by rw [hg, show g = g4 from e])).more fun b hb2 => ⟨⟨Nat.lt_of_lt_of_le hb2.1 hsz, hb2.2.1⟩, hb2.2.2.2⟩
  obtain ⟨b1, b2, b3, b4, b5, b6, b7⟩ := h.bounds
  exact ⟨hblk, m, rfl, h.may, h.id, h.few, ⟨⟨h.sizes.1, b1, b2, h.sizes.2.1, h.sizes.2.2, ⟨⟨s1.read, s1.fit⟩, ⟨s2.read, s2.fit⟩⟩, b3, b4, b5, b6, b7, Deep.lst (s4.more fun b hb => hb.1), ⟨s3.read, s3.fit⟩⟩, s1, s2, h.apart, s4, s3, hbel⟩⟩
set_option maxRecDepth 1000000 in
set_option maxHeartbeats 8000000 in
theorem at6 (w wc : World) (g4 g5 k : Nat) (q : Prm) (m : Prm.Lay) (u0 u1 u2 u3 u6 u7 u8 u9 u10 u11 u12 u13 u14 u15 u16 u17 u18 u19 u20 u21 u22 u23 u24 u25 u26 u27 u28 u29 u30 u31 u32 u33 u34 u35 u36 u37 u38 u39 u40 u41 u42 u43 u44 u45 u46 u47 u48 u49 u50 u51 u52 u53 u54 u55 u56 u57 u58 u59 u60 u61 u62 u63 u64 u65 u66 u67 u68 u69 u70 u71 u72 u73 u74 u75 u76 u77 u78 u79 u80 u81 u82 u83 u84 u85 u86 u87 u88 u89 u90 u91 u92 u93 u94 u95 u96 u97 u98 u99 u100 u101 u102 u103 u104 u105 u106 u107 u108 u109 u110 u111 u112 u113 u114 u115 u116 u117 u118 u119 u120 u121 u122 u123 u124 u125 u126 u127 u128 u129 u130 u131 u132 u133 u134 u135 u136 u137 u138 u139 u140 u141 u142 u143 u144 u145 u146 u147 u148 u149 u150 u151 u152 u153 u154 u155 u156 : Value) (h : End w wc g4 g5 k q m) :
    Code.wp Tryz.prog tail6 (bodyPost Tryz.prog Tryz.f49 (PlayedAs w k q)) ⟨#[u0, u1, u2, u3, .pointer (some ⟨g4, 0, none⟩), .pointer (some ⟨g5, 0, none⟩), u6, u7, u8, u9, u10, u11, u12, u13, u14, u15, u16, u17, u18, u19, u20, u21, u22, u23, u24, u25, u26, u27, u28, u29, u30, u31, u32, u33, u34, u35, u36, u37, u38, u39, u40, u41, u42, u43, u44, u45, u46, u47, u48, u49, u50, u51, u52, u53, u54, u55, u56, u57, u58, u59, u60, u61, u62, u63, u64, u65, u66, u67, u68, u69, u70, u71, u72, u73, u74, u75, u76, u77, u78, u79, u80, u81, u82, u83, u84, u85, u86, u87, u88, u89, u90, u91, u92, u93, u94, u95, u96, u97, u98, u99, u100, u101, u102, u103, u104, u105, u106, u107, u108, u109, u110, u111, u112, u113, u114, u115, u116, u117, u118, u119, u120, u121, u122, u123, u124, u125, u126, u127, u128, u129, u130, u131, u132, u133, u134, u135, u136, u137, u138, u139, u140, u141, u142, u143, u144, u145, u146, u147, u148, u149, u150, u151, u152, u153, u154, u155, u156], []⟩ wc := by
  conv => arg 2; whnf
  try dsimp only
  have HE := Lib.hid h
  have x0 := h.out.cell 0
  have z0 := h.res.cell 0
  have x1 := h.out.cell 1
  have z1 := h.res.cell 1
  have x2 := h.out.cell 2
  have z2 := h.res.cell 2
  have x3 := h.out.cell 3
  have z3 := h.res.cell 3
  have x4 := h.out.cell 4
  have z4 := h.res.cell 4
  have x5 := h.out.cell 5
  have z5 := h.res.cell 5
  have x6 := h.out.cell 6
  have z6 := h.res.cell 6
  have x7 := h.out.cell 7
  have z7 := h.res.cell 7
  have x8 := h.out.cell 8
  have z8 := h.res.cell 8
  have x9 := h.out.cell 9
  have z9 := h.res.cell 9
  have x10 := h.out.cell 10
  have z10 := h.res.cell 10
  have x11 := h.out.cell 11
  have z11 := h.res.cell 11
  have x12 := h.out.cell 12
  have z12 := h.res.cell 12
  have x13 := h.out.cell 13
  have z13 := h.res.cell 13
  have x14 := h.out.cell 14
  have z14 := h.res.cell 14
  have zf := h.res.frozen
  clear h
  go_wp2
  refine bodyPost_ret (results_promo rfl _ (wc.setCells g4 0 (q.enc m)) g4 _ rfl HE.out.stored.1 rfl rfl) rfl ?_
  exact HE.out.stored.2
end Go.Proofs.YtljmddjlnlmenaaGreat.Py
end
section
namespace Go.Proofs.YtljmddjlnlmenaaGreat.Py
open Go.ChangeShapes Go.WideShapes Go.ChangeAt Go.RowKit
open Kd (Kind Row Own Cells Fit Agree Deep Lst kStr)
open Ap (Scp Prt Tir Prm kPrt kTir kPrm row_Prt row_Tir)
open Pr (promoB headB kindB blankB)
open Mv (Only)
noncomputable def tail5 : Code := match Tryz.f49.body with
  | some (.seq _ (.seq _ (.seq _ (.seq _ (.seq _ c))))) => c
  | _ => .skip
theorem head_ok {k : Nat} {i gr co : ByteArray} {kd pr le : Int} {sc : Scp} (f : Facts k i kd pr gr co sc le) (cl : Bool) (sc' : Scp) (ra am bu ge : Int) (ps : List Prt) (ts : List Tir) (hs : Sc.scopeB sc' = true) : headB ⟨i, kd, pr, gr, co, cl, sc', le, ra, am, bu, ge, ps, ts⟩ = true := by
  have hn : Sr.name i = true := by rw [f.id]; exact id_name f.k10
  rw [Pr.headB_def]
  show (Sr.name i && decide (1 <= kd) && decide (kd <= 7) && decide (0 <= pr) && decide (pr <= 1000) && blankB gr && blankB co && Sc.scopeB sc' && Pr.inB le 10000000000000) = true
  unfold Pr.inB
  rw [hn, f.gr.1, f.co.1, hs, decide_eq_true f.kind.1, decide_eq_true f.kind.2, decide_eq_true f.prio.1, decide_eq_true f.prio.2, decide_eq_true f.least.1, decide_eq_true f.least.2]
  rfl
theorem scope_none : Sc.scopeB ⟨[], []⟩ = true := by
  have h : Sc.namesB [] 20 = true := Sc.namesB_yes ⟨by simp, fun i x hx => by simp at hx, fun i x y hx => by simp at hx⟩
  unfold Sc.scopeB
  rw [h]; rfl
section
variable {w wc W : World} {p : Prm} {l : Prm.Lay} {g2 g4 g5 k : Nat} {i gr co : ByteArray} {kd pr le : Int} {cl : Bool} {sc : Scp} {sl : Scp.Lay}
theorem Stage.fin (h : Stage w wc p l g2 g4 g5 i kd pr gr co cl sc sl le) (f : Facts k i kd pr gr co sc le) (ho : Only wc W (Mv.one g5)) {cl' : Bool} {sc' : Scp} {sl' : Scp.Lay} {ra am bu ge : Int} {ps : List Prt} {pl : Kd.Sl} {ts : List Tir} {tl : Kd.Sl}
    (hout : Qu.Blk W g5 28 #[.string i, .int .i64 kd, .int .i64 pr, .string gr, .string co, .bool cl', .slice sl'.skus.A sl'.skus.n sl'.skus.c, .slice sl'.cats.A sl'.cats.n sl'.cats.c, .int .i64 le, .int .i64 ra, .int .i64 am, .int .i64 bu, .int .i64 ge, .slice pl.A pl.n pl.c, .slice tl.A tl.n tl.c])
    (hk : kindB ⟨i, kd, pr, gr, co, cl', sc', le, ra, am, bu, ge, ps, ts⟩ = true) (hs : Sc.scopeB sc' = true /\ sc'.skus.length <= 8 /\ sc'.cats.length <= 8)
    (hb : (0 <= ra /\ ra <= 10000000000000) /\ (0 <= am /\ am <= 10000000000000) /\ (0 <= bu /\ bu <= 10000000000000) /\ (0 <= ge /\ ge <= 10000000000000))
    (o1 : Kd.Own kStr W w.heap.size 9 (fun _ => False) (.slice sl'.skus.A sl'.skus.n sl'.skus.c) sl'.skus.n sc'.skus) (o2 : Kd.Own kStr W w.heap.size 9 (fun _ => False) (.slice sl'.cats.A sl'.cats.n sl'.cats.c) sl'.cats.n sc'.cats)
    (hap : ∀ g, (Value.slice sl'.skus.A sl'.skus.n sl'.skus.c).ownBlock = some g -> (Value.slice sl'.cats.A sl'.cats.n sl'.cats.c).ownBlock ≠ some g)
    (o3 : Kd.Own kPrt W w.heap.size 56 (fun b => b < W.heap.size /\ (Value.slice pl.A pl.n pl.c).ownBlock ≠ some b /\ b ≠ g4 /\ w.heap.size <= b /\ (Value.slice sl'.skus.A sl'.skus.n sl'.skus.c).ownBlock ≠ some b /\ (Value.slice sl'.cats.A sl'.cats.n sl'.cats.c).ownBlock ≠ some b /\ (Value.slice tl.A tl.n tl.c).ownBlock ≠ some b) (.slice pl.A pl.n pl.c) pl.n ps) (o4 : Kd.Own kTir W w.heap.size 124 (fun _ => False) (.slice tl.A tl.n tl.c) tl.n ts)
    (hl : ts.length <= 6 /\ ps.length <= 3 /\ ∀ (j : Nat) (x : Prt), ps[j]? = some x -> x.scope.skus.length <= 8 /\ x.scope.cats.length <= 8) :
    End w W g4 g5 k ⟨i, kd, pr, gr, co, cl', sc', le, ra, am, bu, ge, ps, ts⟩ ⟨sl', pl, tl⟩ := by
  have h1 := h.one
  have h2 := h.two
  have h3 := h.low
  obtain ⟨b1, b2, b3, b4⟩ := hb
  refine ⟨Mv.blk_only h.res ho (fun e => by have : g4 = g5 := e; omega), hout, by omega, by omega, ?_, f.id, ⟨hs.2.1, hs.2.2, hl.1, hl.2.1, hl.2.2⟩, ⟨?_, f.gr.2, f.co.2⟩, ⟨?_, ?_, ?_, ?_, ?_, ?_, ?_⟩, o1, o2, hap, o3, o4, h.below.trans (ho.toBelow h.below.size fun b hb e => by have : b = g5 := e; omega)⟩
  . unfold promoB
    rw [head_ok f _ _ _ _ _ _ _ _ hs.1, hk]; rfl
  . show i.size <= maxLen
    rw [f.id, id_size]; unfold maxLen; omega
  . have := f.kind; show _ <= kd /\ kd <= _; omega
  . have := f.prio; show _ <= pr /\ pr <= _; omega
  . have := f.least; show _ <= le /\ le <= _; omega
  . show _ <= ra /\ ra <= _; omega
  . show _ <= am /\ am <= _; omega
  . show _ <= bu /\ bu <= _; omega
  . show _ <= ge /\ ge <= _; omega
theorem nil_own {α : Type} {K : Kind α} {B E : Nat} {F : Nat -> Prop} : Kd.Own K W B E F (.slice none 0 0) 0 [] := Kd.Own.nil _ _ _ _ _
theorem Stage.far1 (h : Stage w wc p l g2 g4 g5 i kd pr gr co cl sc sl le) (ho : Only wc W (Mv.one g5)) : Kd.Own kStr W w.heap.size 9 (fun _ => False) (.slice sl.skus.A sl.skus.n sl.skus.c) sl.skus.n sc.skus /\ Kd.Own kStr W w.heap.size 9 (fun _ => False) (.slice sl.cats.A sl.cats.n sl.cats.c) sl.cats.n sc.cats :=
  ⟨own_far h.skus ho (fun b hb e => own_ne h.skus h.out (by decide) (by rw [hb, show b = g5 from e])), own_far h.cats ho (fun b hb e => own_ne h.cats h.out (by decide) (by rw [hb, show b = g5 from e]))⟩
theorem no_parts : (0 : Nat) <= 3 /\ ∀ (j : Nat) (x : Prt), ([] : List Prt)[j]? = some x -> x.scope.skus.length <= 8 /\ x.scope.cats.length <= 8 := ⟨by omega, fun j x h => by simp at h⟩
theorem Stage.rate (h : Stage w wc p l g2 g4 g5 i 1 pr gr co cl sc sl le) (f : Facts k i 1 pr gr co sc le) {r : Int} (hr : 1 <= r /\ r <= 10000) : ∃ m, End w (wc.setCell ⟨g5, 9, none⟩ (.int .i64 r)) g4 g5 k ⟨i, 1, pr, gr, co, cl, sc, le, r, 0, 0, 0, [], []⟩ m := by
  have ho := h.only 9 (.int .i64 r)
  have hf := h.far1 ho
  refine ⟨_, h.fin f ho (sl' := sl) (sc' := sc) (pl := ⟨none, 0, 0⟩) (tl := ⟨none, 0, 0⟩) (ps := []) (ts := []) (h.out.put 9 _) ?_ f.scope ⟨by omega, by omega, by omega, by omega⟩ hf.1 hf.2 h.apart nil_own nil_own ⟨by simp, no_parts⟩⟩
  unfold kindB
  rw [if_pos rfl]
  unfold Pr.someB Pr.noBuy Pr.noParts Pr.noTiers
  show (decide (1 <= r) && decide (r <= 10000) && (0 : Int) == 0 && ((0 : Int) == 0 && (0 : Int) == 0) && (0 : Nat) == 0 && (0 : Nat) == 0) = true
  rw [decide_eq_true hr.1, decide_eq_true hr.2]; rfl
theorem Stage.amount (h : Stage w wc p l g2 g4 g5 i 2 pr gr co cl sc sl le) (f : Facts k i 2 pr gr co sc le) {r : Int} (hr : 1 <= r /\ r <= 10000) : ∃ m, End w (wc.setCell ⟨g5, 10, none⟩ (.int .i64 r)) g4 g5 k ⟨i, 2, pr, gr, co, cl, sc, le, 0, r, 0, 0, [], []⟩ m := by
  have ho := h.only 10 (.int .i64 r)
  have hf := h.far1 ho
  refine ⟨_, h.fin f ho (sl' := sl) (sc' := sc) (pl := ⟨none, 0, 0⟩) (tl := ⟨none, 0, 0⟩) (ps := []) (ts := []) (h.out.put 10 _) ?_ f.scope ⟨by omega, by omega, by omega, by omega⟩ hf.1 hf.2 h.apart nil_own nil_own ⟨by simp, no_parts⟩⟩
  unfold kindB
  rw [if_neg (by show ¬ (2 : Int) = 1; omega), if_pos rfl]
  unfold Pr.noBuy Pr.noParts Pr.noTiers
  show ((0 : Int) == 0 && decide (1 <= r) && decide (r <= 1000000000) && ((0 : Int) == 0 && (0 : Int) == 0) && (0 : Nat) == 0 && (0 : Nat) == 0) = true
  rw [decide_eq_true hr.1, decide_eq_true (show r <= 1000000000 by omega)]; rfl
theorem Stage.buy (h : Stage w wc p l g2 g4 g5 i 3 pr gr co cl sc sl le) (f : Facts k i 3 pr gr co sc le) {r b g : Int} (hr : 1 <= r /\ r <= 10000) (hb : 1 <= b /\ b <= 100) (hg : 1 <= g /\ g <= 100) : ∃ m, End w (((wc.setCell ⟨g5, 9, none⟩ (.int .i64 r)).setCell ⟨g5, 11, none⟩ (.int .i64 b)).setCell ⟨g5, 12, none⟩ (.int .i64 g)) g4 g5 k ⟨i, 3, pr, gr, co, cl, sc, le, r, 0, b, g, [], []⟩ m := by
  have ho : Only wc (((wc.setCell ⟨g5, 9, none⟩ (.int .i64 r)).setCell ⟨g5, 11, none⟩ (.int .i64 b)).setCell ⟨g5, 12, none⟩ (.int .i64 g)) (Mv.one g5) := (((Only.refl wc (Mv.one g5)).put (g := g5) (i := 9) (.int .i64 r) (fun _ => rfl)).put (g := g5) (i := 11) (.int .i64 b) (fun _ => rfl)).put (g := g5) (i := 12) (.int .i64 g) (fun _ => rfl)
  have hf := h.far1 ho
  refine ⟨_, h.fin f ho (sl' := sl) (sc' := sc) (pl := ⟨none, 0, 0⟩) (tl := ⟨none, 0, 0⟩) (ps := []) (ts := []) (((h.out.put 9 _).put 11 _).put 12 _) ?_ f.scope ⟨by omega, by omega, by omega, by omega⟩ hf.1 hf.2 h.apart nil_own nil_own ⟨by simp, no_parts⟩⟩
  unfold kindB
  rw [if_neg (by show ¬ (3 : Int) = 1; omega), if_neg (by show ¬ (3 : Int) = 2; omega), if_pos rfl]
  unfold Pr.someB Pr.noParts Pr.noTiers
  show (decide (1 <= r) && decide (r <= 10000) && (0 : Int) == 0 && decide (1 <= b) && decide (b <= 100) && decide (1 <= g) && decide (g <= 100) && (0 : Nat) == 0 && (0 : Nat) == 0) = true
  rw [decide_eq_true hr.1, decide_eq_true hr.2, decide_eq_true hb.1, decide_eq_true hb.2, decide_eq_true hg.1, decide_eq_true hg.2]; rfl
theorem Stage.steps (h : Stage w wc p l g2 g4 g5 i kd pr gr co cl sc sl le) (hkd : kd = 5 \/ kd = 6) (f : Facts k i kd pr gr co sc le) {A : Option Addr} {n c : Nat} {L : List Tir} (hL : Pr.Tiers L) (hO : Kd.Own kTir wc w.heap.size 124 (fun _ => False) (.slice A n c) n L) : ∃ m, End w (wc.setCell ⟨g5, 14, none⟩ (.slice A n c)) g4 g5 k ⟨i, kd, pr, gr, co, cl, sc, le, 0, 0, 0, 0, [], L⟩ m := by
  have ho := h.only 14 (.slice A n c)
  have hf := h.far1 ho
  have hT := own_far hO ho (fun b hb e => own_ne hO h.out (by decide) (by rw [hb, show b = g5 from e]))
  refine ⟨_, h.fin f ho (sl' := sl) (sc' := sc) (pl := ⟨none, 0, 0⟩) (tl := ⟨A, n, c⟩) (ps := []) (ts := L) (h.out.put 14 _) ?_ f.scope ⟨by omega, by omega, by omega, by omega⟩ hf.1 hf.2 h.apart nil_own hT ⟨hL.few, no_parts⟩⟩
  unfold kindB
  rw [if_neg (by show ¬ kd = 1; omega), if_neg (by show ¬ kd = 2; omega), if_neg (by show ¬ kd = 3; omega), if_neg (by show ¬ kd = 4; omega), if_neg (by show ¬ kd = 7; omega)]
  unfold Pr.noBuy Pr.noParts
  show ((0 : Int) == 0 && (0 : Int) == 0 && ((0 : Int) == 0 && (0 : Int) == 0) && (0 : Nat) == 0 && Pr.tiersB L) = true
  rw [Pr.tiersB_yes hL]; rfl
theorem Stage.ship (h : Stage w wc p l g2 g4 g5 i 7 pr gr co cl sc sl le) (f : Facts k i 7 pr gr co sc le) {r : Int} (hr : 1 <= r /\ r <= 10000) : ∃ m, End w ((((wc.setCell ⟨g5, 6, none⟩ (.slice none 0 0)).setCell ⟨g5, 7, none⟩ (.slice none 0 0)).setCell ⟨g5, 5, none⟩ (.bool false)).setCell ⟨g5, 9, none⟩ (.int .i64 r)) g4 g5 k ⟨i, 7, pr, gr, co, false, ⟨[], []⟩, le, r, 0, 0, 0, [], []⟩ m := by
  have ho : Only wc ((((wc.setCell ⟨g5, 6, none⟩ (.slice none 0 0)).setCell ⟨g5, 7, none⟩ (.slice none 0 0)).setCell ⟨g5, 5, none⟩ (.bool false)).setCell ⟨g5, 9, none⟩ (.int .i64 r)) (Mv.one g5) := ((((Only.refl wc (Mv.one g5)).put (g := g5) (i := 6) (.slice none 0 0) (fun _ => rfl)).put (g := g5) (i := 7) (.slice none 0 0) (fun _ => rfl)).put (g := g5) (i := 5) (.bool false) (fun _ => rfl)).put (g := g5) (i := 9) (.int .i64 r) (fun _ => rfl)
  refine ⟨_, h.fin f ho (cl' := false) (sl' := ⟨⟨none, 0, 0⟩, ⟨none, 0, 0⟩⟩) (sc' := ⟨[], []⟩) (pl := ⟨none, 0, 0⟩) (tl := ⟨none, 0, 0⟩) (ps := []) (ts := []) ((((h.out.put 6 _).put 7 _).put 5 _).put 9 _) ?_ ⟨scope_none, by simp, by simp⟩ ⟨by omega, by omega, by omega, by omega⟩ nil_own nil_own (fun g hg => by cases hg) nil_own nil_own ⟨by simp, no_parts⟩⟩
  unfold kindB
  rw [if_neg (by show ¬ (7 : Int) = 1; omega), if_neg (by show ¬ (7 : Int) = 2; omega), if_neg (by show ¬ (7 : Int) = 3; omega), if_neg (by show ¬ (7 : Int) = 4; omega), if_pos rfl]
  unfold Pr.someB Pr.noBuy Pr.noParts Pr.noTiers Pr.allB
  show (decide (1 <= r) && decide (r <= 10000) && (0 : Int) == 0 && ((0 : Int) == 0 && (0 : Int) == 0) && (0 : Nat) == 0 && (0 : Nat) == 0 && ((0 : Nat) == 0 && (0 : Nat) == 0) && !false) = true
  rw [decide_eq_true hr.1, decide_eq_true hr.2]; rfl
end
set_option maxRecDepth 1000000 in
set_option maxHeartbeats 8000000 in
theorem at5_1 (w wc : World) (p : Prm) (l : Prm.Lay) (g2 g4 g5 k : Nat) (i gr co : ByteArray) (pr le : Int) (cl : Bool) (sc : Scp) (sl : Scp.Lay) (u0 u1 u3 u6 u7 u8 u9 u10 u11 u12 u13 u14 u15 u16 u17 u18 u19 u20 u21 u22 u23 u24 u25 u26 u27 u28 u29 u30 u31 u32 u33 u34 u35 u36 u37 u38 u39 u40 u41 u42 u43 u44 u45 u46 u47 u48 u49 u50 u51 u52 u53 u54 u55 u56 u57 u58 u59 u60 u61 u62 u63 u64 u65 u66 u67 u68 u69 u70 u71 u72 u73 u74 u75 u76 u77 u78 u79 u80 u81 u82 u83 u84 u85 u86 u87 u88 u89 u90 u91 u92 u93 u94 u95 u96 u97 u98 u99 u100 u101 u102 u103 u104 u105 u106 u107 u108 u109 u110 u111 u112 u113 u114 u115 u116 u117 u118 u119 u120 u121 u122 u123 u124 u125 u126 u127 u128 u129 u130 u131 u132 u133 u134 u135 u136 u137 u138 u139 u140 u141 u142 u143 u144 u145 u146 u147 u148 u149 u150 u151 u152 u153 u154 u155 u156 : Value) (h : Stage w wc p l g2 g4 g5 i 1 pr gr co cl sc sl le) (f : Facts k i 1 pr gr co sc le) (q0 : Prm) (hq : q0 = swP p i 1 pr gr co cl sc le) :
    Code.wp Tryz.prog tail5 (bodyPost Tryz.prog Tryz.f49 (PlayedAs w k q0)) ⟨#[u0, u1, .pointer (some ⟨g2, 0, none⟩), u3, .pointer (some ⟨g4, 0, none⟩), .pointer (some ⟨g5, 0, none⟩), u6, u7, u8, u9, u10, u11, u12, u13, u14, u15, u16, u17, u18, u19, u20, u21, u22, u23, u24, u25, u26, u27, u28, u29, u30, u31, u32, u33, u34, u35, u36, u37, u38, u39, u40, u41, u42, u43, u44, u45, u46, u47, u48, u49, u50, u51, u52, u53, u54, u55, u56, u57, u58, u59, u60, u61, u62, u63, u64, u65, u66, u67, u68, u69, u70, u71, u72, u73, u74, u75, u76, u77, u78, u79, u80, u81, u82, u83, u84, u85, u86, u87, u88, u89, u90, u91, u92, u93, u94, u95, u96, u97, u98, u99, u100, u101, u102, u103, u104, u105, u106, u107, u108, u109, u110, u111, u112, u113, u114, u115, u116, u117, u118, u119, u120, u121, u122, u123, u124, u125, u126, u127, u128, u129, u130, u131, u132, u133, u134, u135, u136, u137, u138, u139, u140, u141, u142, u143, u144, u145, u146, u147, u148, u149, u150, u151, u152, u153, u154, u155, u156], []⟩ wc := by
  conv => arg 2; whnf
  try dsimp only
  have HS := Lib.hid h
  have HF := Lib.hid f
  have d1 := h.out.cell 1
  have x9 := h.src.cell 9
  have e9 := h.out.cell 9
  have ef := h.out.frozen 9
  clear h f
  go_upto_block 0 with (fail)
  go_cut [6] (fun s6 wx => Hid (∃ m, End w wx g4 g5 k q0 m))
  case first =>
    have hq1 : q0 = ⟨i, 1, pr, gr, co, cl, sc, le, 1 + (modN p.rate 10000 : Int), 0, 0, 0, [], []⟩ := by rw [hq]; rfl
    clear hq
    obtain ⟨r, hr⟩ : ∃ r, modN p.rate 10000 = r := ⟨_, rfl⟩
    have hr1 := modN_lt p.rate 10000 (by omega)
    have H1 := Lib.hid (fun W => mod64_any p.rate 10000 W (by omega) (by omega))
    rw [hr] at hr1
    simp only [hr] at H1
    rw [hr] at hq1
    have HQ := Lib.hid hq1
    clear hr hq1
    have HE : Hid (∃ m, End w (wc.setCell ⟨g5, 9, none⟩ (.int .i64 (1 + (r : Int)))) g4 g5 k q0 m) := Lib.hid (by rw [HQ.out]; exact HS.out.rate HF.out (by omega))
    go_wp2_with fail
    refine (H1.out _).mono ?_
    rintro e w2 ⟨rfl, rfl⟩
    go_wp2_with fail
    go_meet
    exact HE
  case rest =>
    obtain ⟨m, hE⟩ := hcut.out
    apply_assumption
    exact at6 w wc g4 g5 k q0 m _ _ _ _ _ _ _ _ _ _ _ _ _ _ _ _ _ _ _ _ _ _ _ _ _ _ _ _ _ _ _ _ _ _ _ _ _ _ _ _ _ _ _ _ _ _ _ _ _ _ _ _ _ _ _ _ _ _ _ _ _ _ _ _ _ _ _ _ _ _ _ _ _ _ _ _ _ _ _ _ _ _ _ _ _ _ _ _ _ _ _ _ _ _ _ _ _ _ _ _ _ _ _ _ _ _ _ _ _ _ _ _ _ _ _ _ _ _ _ _ _ _ _ _ _ _ _ _ _ _ _ _ _ _ _ _ _ _ _ _ _ _ _ _ _ _ _ _ _ _ _ _ _ _ _ hE
set_option maxRecDepth 1000000 in
set_option maxHeartbeats 8000000 in
theorem at5_2 (w wc : World) (p : Prm) (l : Prm.Lay) (g2 g4 g5 k : Nat) (i gr co : ByteArray) (pr le : Int) (cl : Bool) (sc : Scp) (sl : Scp.Lay) (u0 u1 u3 u6 u7 u8 u9 u10 u11 u12 u13 u14 u15 u16 u17 u18 u19 u20 u21 u22 u23 u24 u25 u26 u27 u28 u29 u30 u31 u32 u33 u34 u35 u36 u37 u38 u39 u40 u41 u42 u43 u44 u45 u46 u47 u48 u49 u50 u51 u52 u53 u54 u55 u56 u57 u58 u59 u60 u61 u62 u63 u64 u65 u66 u67 u68 u69 u70 u71 u72 u73 u74 u75 u76 u77 u78 u79 u80 u81 u82 u83 u84 u85 u86 u87 u88 u89 u90 u91 u92 u93 u94 u95 u96 u97 u98 u99 u100 u101 u102 u103 u104 u105 u106 u107 u108 u109 u110 u111 u112 u113 u114 u115 u116 u117 u118 u119 u120 u121 u122 u123 u124 u125 u126 u127 u128 u129 u130 u131 u132 u133 u134 u135 u136 u137 u138 u139 u140 u141 u142 u143 u144 u145 u146 u147 u148 u149 u150 u151 u152 u153 u154 u155 u156 : Value) (h : Stage w wc p l g2 g4 g5 i 2 pr gr co cl sc sl le) (f : Facts k i 2 pr gr co sc le) (q0 : Prm) (hq : q0 = swP p i 2 pr gr co cl sc le) :
    Code.wp Tryz.prog tail5 (bodyPost Tryz.prog Tryz.f49 (PlayedAs w k q0)) ⟨#[u0, u1, .pointer (some ⟨g2, 0, none⟩), u3, .pointer (some ⟨g4, 0, none⟩), .pointer (some ⟨g5, 0, none⟩), u6, u7, u8, u9, u10, u11, u12, u13, u14, u15, u16, u17, u18, u19, u20, u21, u22, u23, u24, u25, u26, u27, u28, u29, u30, u31, u32, u33, u34, u35, u36, u37, u38, u39, u40, u41, u42, u43, u44, u45, u46, u47, u48, u49, u50, u51, u52, u53, u54, u55, u56, u57, u58, u59, u60, u61, u62, u63, u64, u65, u66, u67, u68, u69, u70, u71, u72, u73, u74, u75, u76, u77, u78, u79, u80, u81, u82, u83, u84, u85, u86, u87, u88, u89, u90, u91, u92, u93, u94, u95, u96, u97, u98, u99, u100, u101, u102, u103, u104, u105, u106, u107, u108, u109, u110, u111, u112, u113, u114, u115, u116, u117, u118, u119, u120, u121, u122, u123, u124, u125, u126, u127, u128, u129, u130, u131, u132, u133, u134, u135, u136, u137, u138, u139, u140, u141, u142, u143, u144, u145, u146, u147, u148, u149, u150, u151, u152, u153, u154, u155, u156], []⟩ wc := by
  conv => arg 2; whnf
  try dsimp only
  have HS := Lib.hid h
  have HF := Lib.hid f
  have d1 := h.out.cell 1
  have x9 := h.src.cell 10
  have e9 := h.out.cell 10
  have ef := h.out.frozen 10
  clear h f
  go_upto_block 0 with (fail)
  go_cut [6] (fun s6 wx => Hid (∃ m, End w wx g4 g5 k q0 m))
  case first =>
    have hq1 : q0 = ⟨i, 2, pr, gr, co, cl, sc, le, 0, 1 + (modN p.amount 900 : Int), 0, 0, [], []⟩ := by rw [hq]; rfl
    clear hq
    obtain ⟨r, hr⟩ : ∃ r, modN p.amount 900 = r := ⟨_, rfl⟩
    have hr1 := modN_lt p.amount 900 (by omega)
    have H1 := Lib.hid (fun W => mod64_any p.amount 900 W (by omega) (by omega))
    rw [hr] at hr1
    simp only [hr] at H1
    rw [hr] at hq1
    have HQ := Lib.hid hq1
    clear hr hq1
    have HE : Hid (∃ m, End w (wc.setCell ⟨g5, 10, none⟩ (.int .i64 (1 + (r : Int)))) g4 g5 k q0 m) := Lib.hid (by rw [HQ.out]; exact HS.out.amount HF.out (by omega))
    go_wp2_with fail
    refine (H1.out _).mono ?_
    rintro e w2 ⟨rfl, rfl⟩
    go_wp2_with fail
    go_meet
    exact HE
  case rest =>
    obtain ⟨m, hE⟩ := hcut.out
    apply_assumption
    exact at6 w wc g4 g5 k q0 m _ _ _ _ _ _ _ _ _ _ _ _ _ _ _ _ _ _ _ _ _ _ _ _ _ _ _ _ _ _ _ _ _ _ _ _ _ _ _ _ _ _ _ _ _ _ _ _ _ _ _ _ _ _ _ _ _ _ _ _ _ _ _ _ _ _ _ _ _ _ _ _ _ _ _ _ _ _ _ _ _ _ _ _ _ _ _ _ _ _ _ _ _ _ _ _ _ _ _ _ _ _ _ _ _ _ _ _ _ _ _ _ _ _ _ _ _ _ _ _ _ _ _ _ _ _ _ _ _ _ _ _ _ _ _ _ _ _ _ _ _ _ _ _ _ _ _ _ _ _ _ _ _ _ _ hE
set_option maxRecDepth 1000000 in
set_option maxHeartbeats 8000000 in
theorem at5_7 (w wc : World) (p : Prm) (l : Prm.Lay) (g2 g4 g5 k : Nat) (i gr co : ByteArray) (pr le : Int) (cl : Bool) (sc : Scp) (sl : Scp.Lay) (u0 u1 u3 u6 u7 u8 u9 u10 u11 u12 u13 u14 u15 u16 u17 u18 u19 u20 u21 u22 u23 u24 u25 u26 u27 u28 u29 u30 u31 u32 u33 u34 u35 u36 u37 u38 u39 u40 u41 u42 u43 u44 u45 u46 u47 u48 u49 u50 u51 u52 u53 u54 u55 u56 u57 u58 u59 u60 u61 u62 u63 u64 u65 u66 u67 u68 u69 u70 u71 u72 u73 u74 u75 u76 u77 u78 u79 u80 u81 u82 u83 u84 u85 u86 u87 u88 u89 u90 u91 u92 u93 u94 u95 u96 u97 u98 u99 u100 u101 u102 u103 u104 u105 u106 u107 u108 u109 u110 u111 u112 u113 u114 u115 u116 u117 u118 u119 u120 u121 u122 u123 u124 u125 u126 u127 u128 u129 u130 u131 u132 u133 u134 u135 u136 u137 u138 u139 u140 u141 u142 u143 u144 u145 u146 u147 u148 u149 u150 u151 u152 u153 u154 u155 u156 : Value) (h : Stage w wc p l g2 g4 g5 i 7 pr gr co cl sc sl le) (f : Facts k i 7 pr gr co sc le) (q0 : Prm) (hq : q0 = swP p i 7 pr gr co cl sc le) :
    Code.wp Tryz.prog tail5 (bodyPost Tryz.prog Tryz.f49 (PlayedAs w k q0)) ⟨#[u0, u1, .pointer (some ⟨g2, 0, none⟩), u3, .pointer (some ⟨g4, 0, none⟩), .pointer (some ⟨g5, 0, none⟩), u6, u7, u8, u9, u10, u11, u12, u13, u14, u15, u16, u17, u18, u19, u20, u21, u22, u23, u24, u25, u26, u27, u28, u29, u30, u31, u32, u33, u34, u35, u36, u37, u38, u39, u40, u41, u42, u43, u44, u45, u46, u47, u48, u49, u50, u51, u52, u53, u54, u55, u56, u57, u58, u59, u60, u61, u62, u63, u64, u65, u66, u67, u68, u69, u70, u71, u72, u73, u74, u75, u76, u77, u78, u79, u80, u81, u82, u83, u84, u85, u86, u87, u88, u89, u90, u91, u92, u93, u94, u95, u96, u97, u98, u99, u100, u101, u102, u103, u104, u105, u106, u107, u108, u109, u110, u111, u112, u113, u114, u115, u116, u117, u118, u119, u120, u121, u122, u123, u124, u125, u126, u127, u128, u129, u130, u131, u132, u133, u134, u135, u136, u137, u138, u139, u140, u141, u142, u143, u144, u145, u146, u147, u148, u149, u150, u151, u152, u153, u154, u155, u156], []⟩ wc := by
  conv => arg 2; whnf
  try dsimp only
  have HS := Lib.hid h
  have HF := Lib.hid f
  have d1 := h.out.cell 1
  have x9 := h.src.cell 9
  have e9 := h.out.cell 9
  have e5 := h.out.cell 5
  have e6 := h.out.cell 6
  have e7 := h.out.cell 7
  have ef := h.out.frozen
  clear h f
  go_upto_block 0 with (fail)
  go_cut [6] (fun s6 wx => Hid (∃ m, End w wx g4 g5 k q0 m))
  case first =>
    have hq1 : q0 = ⟨i, 7, pr, gr, co, false, ⟨[], []⟩, le, 1 + (modN p.rate 10000 : Int), 0, 0, 0, [], []⟩ := by rw [hq]; rfl
    clear hq
    obtain ⟨r, hr⟩ : ∃ r, modN p.rate 10000 = r := ⟨_, rfl⟩
    have hr1 := modN_lt p.rate 10000 (by omega)
    have H1 := Lib.hid (fun W => mod64_any p.rate 10000 W (by omega) (by omega))
    rw [hr] at hr1
    simp only [hr] at H1
    rw [hr] at hq1
    have HQ := Lib.hid hq1
    clear hr hq1
    have HE : Hid (∃ m, End w ((((wc.setCell ⟨g5, 6, none⟩ (.slice none 0 0)).setCell ⟨g5, 7, none⟩ (.slice none 0 0)).setCell ⟨g5, 5, none⟩ (.bool false)).setCell ⟨g5, 9, none⟩ (.int .i64 (1 + (r : Int)))) g4 g5 k q0 m) := Lib.hid (by rw [HQ.out]; exact HS.out.ship HF.out (by omega))
    go_wp2_with fail
    refine (H1.out _).mono ?_
    rintro e w2 ⟨rfl, rfl⟩
    go_wp2_with fail
    go_meet
    exact HE
  case rest =>
    obtain ⟨m, hE⟩ := hcut.out
    apply_assumption
    exact at6 w wc g4 g5 k q0 m _ _ _ _ _ _ _ _ _ _ _ _ _ _ _ _ _ _ _ _ _ _ _ _ _ _ _ _ _ _ _ _ _ _ _ _ _ _ _ _ _ _ _ _ _ _ _ _ _ _ _ _ _ _ _ _ _ _ _ _ _ _ _ _ _ _ _ _ _ _ _ _ _ _ _ _ _ _ _ _ _ _ _ _ _ _ _ _ _ _ _ _ _ _ _ _ _ _ _ _ _ _ _ _ _ _ _ _ _ _ _ _ _ _ _ _ _ _ _ _ _ _ _ _ _ _ _ _ _ _ _ _ _ _ _ _ _ _ _ _ _ _ _ _ _ _ _ _ _ _ _ _ _ _ _ hE
set_option maxRecDepth 1000000 in
set_option maxHeartbeats 8000000 in
theorem at5_5 (w wc : World) (p : Prm) (l : Prm.Lay) (g2 g4 g5 k : Nat) (i gr co : ByteArray) (pr le : Int) (cl : Bool) (sc : Scp) (sl : Scp.Lay) (u0 u1 u3 u6 u7 u8 u9 u10 u11 u12 u13 u14 u15 u16 u17 u18 u19 u20 u21 u22 u23 u24 u25 u26 u27 u28 u29 u30 u31 u32 u33 u34 u35 u36 u37 u38 u39 u40 u41 u42 u43 u44 u45 u46 u47 u48 u49 u50 u51 u52 u53 u54 u55 u56 u57 u58 u59 u60 u61 u62 u63 u64 u65 u66 u67 u68 u69 u70 u71 u72 u73 u74 u75 u76 u77 u78 u79 u80 u81 u82 u83 u84 u85 u86 u87 u88 u89 u90 u91 u92 u93 u94 u95 u96 u97 u98 u99 u100 u101 u102 u103 u104 u105 u106 u107 u108 u109 u110 u111 u112 u113 u114 u115 u116 u117 u118 u119 u120 u121 u122 u123 u124 u125 u126 u127 u128 u129 u130 u131 u132 u133 u134 u135 u136 u137 u138 u139 u140 u141 u142 u143 u144 u145 u146 u147 u148 u149 u150 u151 u152 u153 u154 u155 u156 : Value) (h : Stage w wc p l g2 g4 g5 i 5 pr gr co cl sc sl le) (f : Facts k i 5 pr gr co sc le) (q0 : Prm) (hq : q0 = swP p i 5 pr gr co cl sc le) (hr : Row kTir w (· < w.heap.size) l.tiers.A l.tiers.n p.tiers) (hn : l.tiers.n <= 1000000000000) :
    Code.wp Tryz.prog tail5 (bodyPost Tryz.prog Tryz.f49 (PlayedAs w k q0)) ⟨#[u0, u1, .pointer (some ⟨g2, 0, none⟩), u3, .pointer (some ⟨g4, 0, none⟩), .pointer (some ⟨g5, 0, none⟩), u6, u7, u8, u9, u10, u11, u12, u13, u14, u15, u16, u17, u18, u19, u20, u21, u22, u23, u24, u25, u26, u27, u28, u29, u30, u31, u32, u33, u34, u35, u36, u37, u38, u39, u40, u41, u42, u43, u44, u45, u46, u47, u48, u49, u50, u51, u52, u53, u54, u55, u56, u57, u58, u59, u60, u61, u62, u63, u64, u65, u66, u67, u68, u69, u70, u71, u72, u73, u74, u75, u76, u77, u78, u79, u80, u81, u82, u83, u84, u85, u86, u87, u88, u89, u90, u91, u92, u93, u94, u95, u96, u97, u98, u99, u100, u101, u102, u103, u104, u105, u106, u107, u108, u109, u110, u111, u112, u113, u114, u115, u116, u117, u118, u119, u120, u121, u122, u123, u124, u125, u126, u127, u128, u129, u130, u131, u132, u133, u134, u135, u136, u137, u138, u139, u140, u141, u142, u143, u144, u145, u146, u147, u148, u149, u150, u151, u152, u153, u154, u155, u156], []⟩ wc := by
  conv => arg 2; whnf
  try dsimp only
  have HS := Lib.hid h
  have HF := Lib.hid f
  have d1 := h.out.cell 1
  have x14 := h.src.cell 14
  have H1 := Lib.hid (tiers_any l.tiers.A l.tiers.n l.tiers.c p.tiers 5000 wc ((hr.below h.below (Nat.le_refl _)).more fun b hb => Nat.lt_of_lt_of_le hb h.below.size) hn (by omega) (by omega))
  clear h f
  go_upto_block 0 with (fail)
  go_cut [6] (fun s6 wx => Hid (∃ m, End w wx g4 g5 k q0 m))
  case first =>
    go_wp2_with fail
    refine H1.out.mono ?_
    rintro e w2 ⟨v, L, rfl, hL, hLe, hO, hl3, hb2⟩
    have HQ : Hid (q0 = ⟨i, 5, pr, gr, co, cl, sc, le, 0, 0, 0, 0, [], L⟩) := Lib.hid (by rw [hq, hLe]; rfl)
    clear hq hLe
    obtain ⟨A, c, rfl⟩ := hO.value
    have h2 := HS.out.later hb2
    have e14 := h2.out.cell 14
    have ef := h2.out.frozen 14
    have HE : Hid (∃ m, End w (w2.setCell ⟨g5, 14, none⟩ (.slice A L.length c)) g4 g5 k q0 m) := Lib.hid (by
     rw [HQ.out]
     exact h2.steps (by omega) HF.out hL (by
      obtain ⟨a1, cs, ho, hc⟩ := hO
      refine ⟨a1, cs, ⟨ho.1, ?_⟩, hc⟩
      rcases ho.2 with h2 | ⟨g, cap, cur, hv, hb, rest⟩
      . exact .inl h2
      . exact .inr ⟨g, cap, cur, hv, Nat.le_trans HS.out.below.size hb, rest⟩))
    clear h2 hL hO hb2
    go_wp2_with fail
    go_meet
    exact HE
  case rest =>
    obtain ⟨m, hE⟩ := hcut.out
    apply_assumption
    exact at6 w wc g4 g5 k q0 m _ _ _ _ _ _ _ _ _ _ _ _ _ _ _ _ _ _ _ _ _ _ _ _ _ _ _ _ _ _ _ _ _ _ _ _ _ _ _ _ _ _ _ _ _ _ _ _ _ _ _ _ _ _ _ _ _ _ _ _ _ _ _ _ _ _ _ _ _ _ _ _ _ _ _ _ _ _ _ _ _ _ _ _ _ _ _ _ _ _ _ _ _ _ _ _ _ _ _ _ _ _ _ _ _ _ _ _ _ _ _ _ _ _ _ _ _ _ _ _ _ _ _ _ _ _ _ _ _ _ _ _ _ _ _ _ _ _ _ _ _ _ _ _ _ _ _ _ _ _ _ _ _ _ _ hE
set_option maxRecDepth 1000000 in
set_option maxHeartbeats 8000000 in
theorem at5_6 (w wc : World) (p : Prm) (l : Prm.Lay) (g2 g4 g5 k : Nat) (i gr co : ByteArray) (pr le : Int) (cl : Bool) (sc : Scp) (sl : Scp.Lay) (u0 u1 u3 u6 u7 u8 u9 u10 u11 u12 u13 u14 u15 u16 u17 u18 u19 u20 u21 u22 u23 u24 u25 u26 u27 u28 u29 u30 u31 u32 u33 u34 u35 u36 u37 u38 u39 u40 u41 u42 u43 u44 u45 u46 u47 u48 u49 u50 u51 u52 u53 u54 u55 u56 u57 u58 u59 u60 u61 u62 u63 u64 u65 u66 u67 u68 u69 u70 u71 u72 u73 u74 u75 u76 u77 u78 u79 u80 u81 u82 u83 u84 u85 u86 u87 u88 u89 u90 u91 u92 u93 u94 u95 u96 u97 u98 u99 u100 u101 u102 u103 u104 u105 u106 u107 u108 u109 u110 u111 u112 u113 u114 u115 u116 u117 u118 u119 u120 u121 u122 u123 u124 u125 u126 u127 u128 u129 u130 u131 u132 u133 u134 u135 u136 u137 u138 u139 u140 u141 u142 u143 u144 u145 u146 u147 u148 u149 u150 u151 u152 u153 u154 u155 u156 : Value) (h : Stage w wc p l g2 g4 g5 i 6 pr gr co cl sc sl le) (f : Facts k i 6 pr gr co sc le) (q0 : Prm) (hq : q0 = swP p i 6 pr gr co cl sc le) (hr : Row kTir w (· < w.heap.size) l.tiers.A l.tiers.n p.tiers) (hn : l.tiers.n <= 1000000000000) :
    Code.wp Tryz.prog tail5 (bodyPost Tryz.prog Tryz.f49 (PlayedAs w k q0)) ⟨#[u0, u1, .pointer (some ⟨g2, 0, none⟩), u3, .pointer (some ⟨g4, 0, none⟩), .pointer (some ⟨g5, 0, none⟩), u6, u7, u8, u9, u10, u11, u12, u13, u14, u15, u16, u17, u18, u19, u20, u21, u22, u23, u24, u25, u26, u27, u28, u29, u30, u31, u32, u33, u34, u35, u36, u37, u38, u39, u40, u41, u42, u43, u44, u45, u46, u47, u48, u49, u50, u51, u52, u53, u54, u55, u56, u57, u58, u59, u60, u61, u62, u63, u64, u65, u66, u67, u68, u69, u70, u71, u72, u73, u74, u75, u76, u77, u78, u79, u80, u81, u82, u83, u84, u85, u86, u87, u88, u89, u90, u91, u92, u93, u94, u95, u96, u97, u98, u99, u100, u101, u102, u103, u104, u105, u106, u107, u108, u109, u110, u111, u112, u113, u114, u115, u116, u117, u118, u119, u120, u121, u122, u123, u124, u125, u126, u127, u128, u129, u130, u131, u132, u133, u134, u135, u136, u137, u138, u139, u140, u141, u142, u143, u144, u145, u146, u147, u148, u149, u150, u151, u152, u153, u154, u155, u156], []⟩ wc := by
  conv => arg 2; whnf
  try dsimp only
  have HS := Lib.hid h
  have HF := Lib.hid f
  have d1 := h.out.cell 1
  have x14 := h.src.cell 14
  have H1 := Lib.hid (tiers_any l.tiers.A l.tiers.n l.tiers.c p.tiers 5 wc ((hr.below h.below (Nat.le_refl _)).more fun b hb => Nat.lt_of_lt_of_le hb h.below.size) hn (by omega) (by omega))
  clear h f
  go_upto_block 0 with (fail)
  go_cut [6] (fun s6 wx => Hid (∃ m, End w wx g4 g5 k q0 m))
  case first =>
    go_wp2_with fail
    refine H1.out.mono ?_
    rintro e w2 ⟨v, L, rfl, hL, hLe, hO, hl3, hb2⟩
    have HQ : Hid (q0 = ⟨i, 6, pr, gr, co, cl, sc, le, 0, 0, 0, 0, [], L⟩) := Lib.hid (by rw [hq, hLe]; rfl)
    clear hq hLe
    obtain ⟨A, c, rfl⟩ := hO.value
    have h2 := HS.out.later hb2
    have e14 := h2.out.cell 14
    have ef := h2.out.frozen 14
    have HE : Hid (∃ m, End w (w2.setCell ⟨g5, 14, none⟩ (.slice A L.length c)) g4 g5 k q0 m) := Lib.hid (by
     rw [HQ.out]
     exact h2.steps (by omega) HF.out hL (by
      obtain ⟨a1, cs, ho, hc⟩ := hO
      refine ⟨a1, cs, ⟨ho.1, ?_⟩, hc⟩
      rcases ho.2 with h2 | ⟨g, cap, cur, hv, hb, rest⟩
      . exact .inl h2
      . exact .inr ⟨g, cap, cur, hv, Nat.le_trans HS.out.below.size hb, rest⟩))
    clear h2 hL hO hb2
    go_wp2_with fail
    go_meet
    exact HE
  case rest =>
    obtain ⟨m, hE⟩ := hcut.out
    apply_assumption
    exact at6 w wc g4 g5 k q0 m _ _ _ _ _ _ _ _ _ _ _ _ _ _ _ _ _ _ _ _ _ _ _ _ _ _ _ _ _ _ _ _ _ _ _ _ _ _ _ _ _ _ _ _ _ _ _ _ _ _ _ _ _ _ _ _ _ _ _ _ _ _ _ _ _ _ _ _ _ _ _ _ _ _ _ _ _ _ _ _ _ _ _ _ _ _ _ _ _ _ _ _ _ _ _ _ _ _ _ _ _ _ _ _ _ _ _ _ _ _ _ _ _ _ _ _ _ _ _ _ _ _ _ _ _ _ _ _ _ _ _ _ _ _ _ _ _ _ _ _ _ _ _ _ _ _ _ _ _ _ _ _ _ _ _ hE
end Go.Proofs.YtljmddjlnlmenaaGreat.Py
end
section
namespace Go.Proofs.YtljmddjlnlmenaaGreat.Py
open Go.ChangeShapes Go.WideShapes Go.ChangeAt Go.RowKit
open Kd (Kind Row Own Cells Fit Agree Deep Lst kStr)
open Ap (Scp Prt Tir Prm kPrt kTir kPrm row_Prt row_Tir)
open Pr (promoB headB kindB blankB)
open Mv (Only)
set_option maxRecDepth 1000000 in
set_option maxHeartbeats 8000000 in
theorem at5_3 (w wc : World) (p : Prm) (l : Prm.Lay) (g2 g4 g5 k : Nat) (i gr co : ByteArray) (pr le : Int) (cl : Bool) (sc : Scp) (sl : Scp.Lay) (u0 u1 u3 u6 u7 u8 u9 u10 u11 u12 u13 u14 u15 u16 u17 u18 u19 u20 u21 u22 u23 u24 u25 u26 u27 u28 u29 u30 u31 u32 u33 u34 u35 u36 u37 u38 u39 u40 u41 u42 u43 u44 u45 u46 u47 u48 u49 u50 u51 u52 u53 u54 u55 u56 u57 u58 u59 u60 u61 u62 u63 u64 u65 u66 u67 u68 u69 u70 u71 u72 u73 u74 u75 u76 u77 u78 u79 u80 u81 u82 u83 u84 u85 u86 u87 u88 u89 u90 u91 u92 u93 u94 u95 u96 u97 u98 u99 u100 u101 u102 u103 u104 u105 u106 u107 u108 u109 u110 u111 u112 u113 u114 u115 u116 u117 u118 u119 u120 u121 u122 u123 u124 u125 u126 u127 u128 u129 u130 u131 u132 u133 u134 u135 u136 u137 u138 u139 u140 u141 u142 u143 u144 u145 u146 u147 u148 u149 u150 u151 u152 u153 u154 u155 u156 : Value) (h : Stage w wc p l g2 g4 g5 i 3 pr gr co cl sc sl le) (f : Facts k i 3 pr gr co sc le) (q0 : Prm) (hq : q0 = swP p i 3 pr gr co cl sc le) :
    Code.wp Tryz.prog tail5 (bodyPost Tryz.prog Tryz.f49 (PlayedAs w k q0)) ⟨#[u0, u1, .pointer (some ⟨g2, 0, none⟩), u3, .pointer (some ⟨g4, 0, none⟩), .pointer (some ⟨g5, 0, none⟩), u6, u7, u8, u9, u10, u11, u12, u13, u14, u15, u16, u17, u18, u19, u20, u21, u22, u23, u24, u25, u26, u27, u28, u29, u30, u31, u32, u33, u34, u35, u36, u37, u38, u39, u40, u41, u42, u43, u44, u45, u46, u47, u48, u49, u50, u51, u52, u53, u54, u55, u56, u57, u58, u59, u60, u61, u62, u63, u64, u65, u66, u67, u68, u69, u70, u71, u72, u73, u74, u75, u76, u77, u78, u79, u80, u81, u82, u83, u84, u85, u86, u87, u88, u89, u90, u91, u92, u93, u94, u95, u96, u97, u98, u99, u100, u101, u102, u103, u104, u105, u106, u107, u108, u109, u110, u111, u112, u113, u114, u115, u116, u117, u118, u119, u120, u121, u122, u123, u124, u125, u126, u127, u128, u129, u130, u131, u132, u133, u134, u135, u136, u137, u138, u139, u140, u141, u142, u143, u144, u145, u146, u147, u148, u149, u150, u151, u152, u153, u154, u155, u156], []⟩ wc := by
  conv => arg 2; whnf
  try dsimp only
  have HS := Lib.hid h
  have HF := Lib.hid f
  have d1 := h.out.cell 1
  have g25 : g2 < g5 := by have := h.one; have := h.two; omega
  clear h f
  go_upto_block 0 with (fail)
  go_cut [6] (fun s6 wx => Hid (∃ m, End w wx g4 g5 k q0 m))
  case first =>
    obtain ⟨r, hr⟩ : ∃ r, modN p.rate 10000 = r := ⟨_, rfl⟩
    have hr1 := modN_lt p.rate 10000 (by omega)
    have H1 := Lib.hid (fun W => mod64_any p.rate 10000 W (by omega) (by omega))
    rw [hr] at hr1
    simp only [hr] at H1
    obtain ⟨b, hb⟩ : ∃ b, modN p.buy 3 = b := ⟨_, rfl⟩
    have hb1 := modN_lt p.buy 3 (by omega)
    have H2 := Lib.hid (fun W => mod_any p.buy 3 W (by omega) (by omega))
    rw [hb] at hb1
    simp only [hb] at H2
    obtain ⟨g, hg⟩ : ∃ g, modN p.get 2 = g := ⟨_, rfl⟩
    have hg1 := modN_lt p.get 2 (by omega)
    have H3 := Lib.hid (fun W => mod_any p.get 2 W (by omega) (by omega))
    rw [hg] at hg1
    simp only [hg] at H3
    have HQ : Hid (q0 = ⟨i, 3, pr, gr, co, cl, sc, le, 1 + (r : Int), 0, 1 + (b : Int), 1 + (g : Int), [], []⟩) := Lib.hid (by rw [hq, <- hr, <- hb, <- hg]; rfl)
    clear hq
    have HE : Hid (∀ W, Below wc.heap.size wc W -> ∃ m, End w (((W.setCell ⟨g5, 9, none⟩ (.int .i64 (1 + (r : Int)))).setCell ⟨g5, 11, none⟩ (.int .i64 (1 + (b : Int)))).setCell ⟨g5, 12, none⟩ (.int .i64 (1 + (g : Int)))) g4 g5 k q0 m) := Lib.hid (fun W hW => by rw [HQ.out]; exact (HS.out.later hW).buy HF.out (by omega) (by omega) (by omega))
    have q1 : IntKind.i64.wrap (1 + (r : Int)) = 1 + (r : Int) := IntWalk.i64_in _ (by omega)
    have q2 : IntKind.i64.wrap (1 + (b : Int)) = 1 + (b : Int) := IntWalk.i64_in _ (by omega)
    have q3 : IntKind.i64.wrap (1 + (g : Int)) = 1 + (g : Int) := IntWalk.i64_in _ (by omega)
    have hWH : Kd.Held wc wc g5 28 15 := ⟨Below.refl _ _, _, HS.out.out, rfl⟩
    have c9 : ∀ u, Kd.Held wc u g5 28 15 -> u.cell? ⟨g2, 9, none⟩ = some (.int .i64 p.rate) := fun u hu => (hu.below.cell (p := ⟨g2, 9, none⟩) g25).trans (HS.out.src.cell 9)
    have c11 : ∀ u, Kd.Held wc u g5 28 15 -> u.cell? ⟨g2, 11, none⟩ = some (.int .i64 p.buy) := fun u hu => (hu.below.cell (p := ⟨g2, 11, none⟩) g25).trans (HS.out.src.cell 11)
    have c12 : ∀ u, Kd.Held wc u g5 28 15 -> u.cell? ⟨g2, 12, none⟩ = some (.int .i64 p.get) := fun u hu => (hu.below.cell (p := ⟨g2, 12, none⟩) g25).trans (HS.out.src.cell 12)
    have b9 : ∀ u, Kd.Held wc u g5 28 15 -> u.cell? ⟨g5, 9, none⟩ = some (Kd.lies u ⟨g5, 9, none⟩) := fun u hu => hu.lies (by omega)
    have b11 : ∀ u, Kd.Held wc u g5 28 15 -> u.cell? ⟨g5, 11, none⟩ = some (Kd.lies u ⟨g5, 11, none⟩) := fun u hu => hu.lies (by omega)
    have b12 : ∀ u, Kd.Held wc u g5 28 15 -> u.cell? ⟨g5, 12, none⟩ = some (Kd.lies u ⟨g5, 12, none⟩) := fun u hu => hu.lies (by omega)
    have bz : ∀ u i, Kd.Held wc u g5 28 15 -> u.frozen? ⟨g5, i, none⟩ = false := fun u i hu => hu.frozen i
    clear hr hb hg HS HF hr1 hb1 hg1 HQ
    go_wp2_with fail
    go_region_held3 (fun u => Kd.Held wc u g5 28 15)
      (first
        | assumption
        | (repeat (first | assumption | exact hWH.drew | exact hWH | refine Kd.Held.put ?_ _ _ | refine Kd.Held.drew ?_)))
      (first
        | (go_at_call 48; with_reducible refine (H1.out _).mono ?_; rintro e wb ⟨rfl, rfl⟩)
        | (go_at_call 23; with_reducible refine (H2.out _).mono ?_; rintro e wb ⟨rfl, rfl⟩)
        | (go_at_call 23; with_reducible refine (H3.out _).mono ?_; rintro e wb ⟨rfl, rfl⟩))
    go_wp2_with fail
    go_meet
    exact Lib.hid (HE.out _ (Below.refl _ _).drew)
  case rest =>
    obtain ⟨m, hE⟩ := hcut.out
    apply_assumption
    exact at6 w wc g4 g5 k q0 m _ _ _ _ _ _ _ _ _ _ _ _ _ _ _ _ _ _ _ _ _ _ _ _ _ _ _ _ _ _ _ _ _ _ _ _ _ _ _ _ _ _ _ _ _ _ _ _ _ _ _ _ _ _ _ _ _ _ _ _ _ _ _ _ _ _ _ _ _ _ _ _ _ _ _ _ _ _ _ _ _ _ _ _ _ _ _ _ _ _ _ _ _ _ _ _ _ _ _ _ _ _ _ _ _ _ _ _ _ _ _ _ _ _ _ _ _ _ _ _ _ _ _ _ _ _ _ _ _ _ _ _ _ _ _ _ _ _ _ _ _ _ _ _ _ _ _ _ _ _ _ _ _ _ _ hE
end Go.Proofs.YtljmddjlnlmenaaGreat.Py
end
section
namespace Go.Proofs.YtljmddjlnlmenaaGreat.Py
open Go.ChangeShapes Go.WideShapes Go.ChangeAt Go.RowKit
open Kd (Kind Row Own Cells Fit Agree Deep Lst kStr)
open Ap (Scp Prt Tir Prm kPrt kTir kPrm row_Prt row_Tir)
open Pr (promoB headB kindB blankB)
open Mv (Only)
structure Mid (w : World) (p : Prm) (l : Prm.Lay) (g2 g5 : Nat) (u : World) : Prop where
  src : Qu.Blk u g2 28 #[.string p.id, .int .i64 p.kind, .int .i64 p.priority, .string p.group, .string p.code, .bool p.closes, .slice l.scope.skus.A l.scope.skus.n l.scope.skus.c, .slice l.scope.cats.A l.scope.cats.n l.scope.cats.c, .int .i64 p.least, .int .i64 p.rate, .int .i64 p.amount, .int .i64 p.buy, .int .i64 p.get, .slice l.parts.A l.parts.n l.parts.c, .slice l.tiers.A l.tiers.n l.tiers.c]
  box : ∃ cur : Array Value, Qu.Blk u g5 28 cur /\ cur.size = 15
  below : Below w.heap.size w u
  low : w.heap.size <= g5
  ne : g2 ≠ g5
section
variable {w u u' : World} {p : Prm} {l : Prm.Lay} {g2 g5 : Nat}
theorem Mid.on (h : Mid w p l g2 g5 u) (hb : Below u.heap.size u u') : Mid w p l g2 g5 u' := ⟨h.src.below hb, by
  obtain ⟨c, a, b⟩ := h.box
  exact ⟨c, a.below hb, b⟩, h.below.trans (hb.mono h.below.size), h.low, h.ne⟩
theorem Mid.drew (h : Mid w p l g2 g5 u) : Mid w p l g2 g5 u.drew := h.on (Below.refl _ _).drew
theorem Mid.alloc (h : Mid w p l g2 g5 u) (o : Obj) : Mid w p l g2 g5 (u.alloc o) := h.on ((Below.refl _ _).alloc (Nat.le_refl _) o)
theorem Mid.put (h : Mid w p l g2 g5 u) (i : Nat) (v : Value) : Mid w p l g2 g5 (u.setCell ⟨g5, i, none⟩ v) :=
  ⟨Mv.blk_only h.src ((Only.refl u (Mv.one g5)).put (g := g5) (i := i) v (fun _ => rfl)) (fun e => h.ne e), by
    obtain ⟨c, a, b⟩ := h.box
    exact ⟨_, a.put i v, by simpa using b⟩, h.below.setCell h.low v, h.low, h.ne⟩
theorem Mid.frozen (h : Mid w p l g2 g5 u) (i : Nat) : u.frozen? ⟨g5, i, none⟩ = false := by
  obtain ⟨cur, hbk, hs⟩ := h.box
  exact hbk.frozen i
theorem Mid.grown {row : Option Nat} (h : Mid w p l g2 g5 u) (hg : u.grownBy u' row) (h2 : some g2 ≠ row) (h5 : some g5 ≠ row) (hl : ∀ k, row = some k -> w.heap.size <= k) : Mid w p l g2 g5 u' := ⟨h.src.grown hg h2, by
  obtain ⟨c, a, b⟩ := h.box
  exact ⟨c, a.grown hg h5, b⟩, h.below.grown hg h.below.size hl, h.low, h.ne⟩
end
structure Bun (w wx : World) (p : Prm) (l : Prm.Lay) (g2 g4 g5 : Nat) (i gr co : ByteArray) (pr le am : Int) (cl : Bool) (A : Option Addr) (n c : Nat) (ps : List Prt) : Prop where
  src : Qu.Blk wx g2 28 #[.string p.id, .int .i64 p.kind, .int .i64 p.priority, .string p.group, .string p.code, .bool p.closes, .slice l.scope.skus.A l.scope.skus.n l.scope.skus.c, .slice l.scope.cats.A l.scope.cats.n l.scope.cats.c, .int .i64 p.least, .int .i64 p.rate, .int .i64 p.amount, .int .i64 p.buy, .int .i64 p.get, .slice l.parts.A l.parts.n l.parts.c, .slice l.tiers.A l.tiers.n l.tiers.c]
  res : Qu.Blk wx g4 28 #[.string ⟨#[]⟩, .int .i64 0, .int .i64 0, .string ⟨#[]⟩, .string ⟨#[]⟩, .bool false, .slice none 0 0, .slice none 0 0, .int .i64 0, .int .i64 0, .int .i64 0, .int .i64 0, .int .i64 0, .slice none 0 0, .slice none 0 0]
  out : Qu.Blk wx g5 28 #[.string i, .int .i64 4, .int .i64 pr, .string gr, .string co, .bool cl, .slice none 0 0, .slice none 0 0, .int .i64 le, .int .i64 0, .int .i64 am, .int .i64 0, .int .i64 0, .slice A n c, .slice none 0 0]
  low : w.heap.size <= g2
  one : g2 < g4
  two : g4 < g5
  below : Below w.heap.size w wx
  parts : Kd.Own kPrt wx w.heap.size 56 (fun b => b < wx.heap.size /\ (Value.slice A n c).ownBlock ≠ some b /\ b ≠ g4 /\ b ≠ g5 /\ w.heap.size <= b) (.slice A n c) n ps
  each : ∀ (j : Nat) (x : Prt), ps[j]? = some x -> Pr.partB x = true /\ x.scope.skus.length <= 8 /\ x.scope.cats.length <= 8
section
variable {w wc wx W u : World} {p : Prm} {l : Prm.Lay} {g2 g4 g5 n c k : Nat} {A : Option Addr} {i gr co : ByteArray} {pr le am : Int} {cl : Bool} {sc : Scp} {sl : Scp.Lay} {ps : List Prt}
theorem Stage.bundle (h : Stage w wc p l g2 g4 g5 i 4 pr gr co cl sc sl le) : Bun w (((wc.setCell ⟨g5, 6, none⟩ (.slice none 0 0)).setCell ⟨g5, 7, none⟩ (.slice none 0 0)).setCell ⟨g5, 10, none⟩ (.int .i64 am)) p l g2 g4 g5 i gr co pr le am cl none 0 0 [] := by
  have h1 := h.one
  have h2 := h.two
  have h3 := h.low
  have ho : Only wc (((wc.setCell ⟨g5, 6, none⟩ (.slice none 0 0)).setCell ⟨g5, 7, none⟩ (.slice none 0 0)).setCell ⟨g5, 10, none⟩ (.int .i64 am)) (Mv.one g5) := (((Only.refl wc (Mv.one g5)).put (g := g5) (i := 6) (.slice none 0 0) (fun _ => rfl)).put (g := g5) (i := 7) (.slice none 0 0) (fun _ => rfl)).put (g := g5) (i := 10) (.int .i64 am) (fun _ => rfl)
  exact ⟨Mv.blk_only h.src ho (fun e => by have : g2 = g5 := e; omega), Mv.blk_only h.res ho (fun e => by have : g4 = g5 := e; omega), ((h.out.put 6 _).put 7 _).put 10 _, h.low, h.one, h.two, h.below.trans (ho.toBelow h.below.size fun b hb e => by have : b = g5 := e; omega), Kd.Own.nil _ _ _ _ _, fun j x hj => by simp at hj⟩
theorem Bun.later (h : Bun w wx p l g2 g4 g5 i gr co pr le am cl A n c ps) (hb : Below wx.heap.size wx W) : Bun w W p l g2 g4 g5 i gr co pr le am cl A n c ps :=
  ⟨h.src.below hb, h.res.below hb, h.out.below hb, h.low, h.one, h.two, h.below.trans (hb.mono h.below.size), (h.parts.stay (fun b hb2 => hb.block b hb2.1) fun g hg => hb.block g (h.parts.low g hg).2).more fun b hb2 => ⟨Nat.lt_of_lt_of_le hb2.1 hb.size, hb2.2⟩, h.each⟩
theorem Bun.mid (h : Bun w wx p l g2 g4 g5 i gr co pr le am cl A n c ps) : Mid w p l g2 g5 wx := ⟨h.src, ⟨_, h.out, rfl⟩, h.below, by have := h.low; have := h.one; have := h.two; omega, by have := h.one; have := h.two; omega⟩
theorem Bun.far5 (h : Bun w wx p l g2 g4 g5 i gr co pr le am cl A n c ps) : (Value.slice A n c).ownBlock ≠ some g5 := own_ne h.parts h.out (by decide)
theorem Bun.far4 (h : Bun w wx p l g2 g4 g5 i gr co pr le am cl A n c ps) : (Value.slice A n c).ownBlock ≠ some g4 := own_ne h.parts h.res (by decide)
theorem Bun.far2 (h : Bun w wx p l g2 g4 g5 i gr co pr le am cl A n c ps) : (Value.slice A n c).ownBlock ≠ some g2 := own_ne h.parts h.src (by decide)
theorem Bun.push (h : Bun w W p l g2 g4 g5 i gr co pr le am cl A n c ps) {g cap : Nat} {y : Prt} (hy : Pr.partB y = true /\ y.scope.skus.length <= 8 /\ y.scope.cats.length <= 8) (hown : Kd.Own kPrt u w.heap.size 56 (fun b => b < W.heap.size /\ (Value.slice A n c).ownBlock ≠ some b /\ b ≠ g4 /\ b ≠ g5 /\ w.heap.size <= b) (.slice (some ⟨g, 0, none⟩) (n + 1) cap) (n + 1) (ps ++ [y])) (hgrow : W.grownBy u (Value.slice A n c).ownBlock) (hfr : (Value.slice A n c).ownBlock = some g \/ W.heap.size <= g) :
    Bun w (u.setCell ⟨g5, 13, none⟩ (.slice (some ⟨g, 0, none⟩) (n + 1) cap)) p l g2 g4 g5 i gr co pr le am cl (some ⟨g, 0, none⟩) (n + 1) cap (ps ++ [y]) := by
  have h1 := h.one
  have h2 := h.two
  have h3 := h.low
  have ho : Only u (u.setCell ⟨g5, 13, none⟩ (.slice (some ⟨g, 0, none⟩) (n + 1) cap)) (Mv.one g5) := (Only.refl u (Mv.one g5)).put (g := g5) (i := 13) _ (fun _ => rfl)
  have o5 := h.out.grown hgrow (fun e => h.far5 e.symm)
  have hsz := hgrow.size
  refine ⟨Mv.blk_only (h.src.grown hgrow (fun e => h.far2 e.symm)) ho (fun e => by have : g2 = g5 := e; omega), Mv.blk_only (h.res.grown hgrow (fun e => h.far4 e.symm)) ho (fun e => by have : g4 = g5 := e; omega), o5.put 13 _, h.low, h.one, h.two, (h.below.grown hgrow h.below.size fun k hk => (h.parts.low k hk).1).setCell (show w.heap.size <= g5 by omega) _, ?_, ?_⟩
  . refine (hown.stay (fun b hb => Below.heap_setCell u ⟨g5, 13, none⟩ _ b hb.2.2.2.1) fun q hq => Below.heap_setCell u ⟨g5, 13, none⟩ _ q (fun e => own_ne hown o5 (by decide) (by rw [hq, show q = g5 from e]))).more fun b hb => ⟨?_, ?_, hb.2.2⟩
    . have := hb.1
      have := ho.size
      omega
    . intro e
      have e2 : g = b := by
        have e3 : some g = some b := e
        injection e3
      subst e2
      rcases hfr with h5 | h5
      . exact hb.2.1 h5
      . have := hb.1
        omega
  . intro j x hj
    rw [List.getElem?_append] at hj
    split at hj
    . exact h.each j x hj
    . next hlt =>
      have := (List.getElem?_eq_some_iff.1 hj).1
      rw [List.length_singleton] at this
      rw [show j - ps.length = 0 by omega] at hj
      injection hj with hj
      subst hj
      exact hy
theorem part_rep (h : Bun w wx p l g2 g4 g5 i gr co pr le am cl A n c ps) {s : Scp} {ls : Scp.Lay} {ct : Int} (o1 : Kd.Own kStr W wx.heap.size 9 (fun _ => False) (.slice ls.skus.A ls.skus.n ls.skus.c) ls.skus.n s.skus) (o2 : Kd.Own kStr W wx.heap.size 9 (fun _ => False) (.slice ls.cats.A ls.cats.n ls.cats.c) ls.cats.n s.cats) (hc : 0 <= ct /\ ct <= 100) :
    kPrt.rep W (fun b => b < W.heap.size /\ (Value.slice A n c).ownBlock ≠ some b /\ b ≠ g4 /\ b ≠ g5 /\ w.heap.size <= b) ⟨s, ct⟩ [.slice ls.skus.A ls.skus.n ls.skus.c, .slice ls.cats.A ls.cats.n ls.cats.c, .int .i64 ct] := by
  have h4 := h.res.lt
  have h5 := h.out.lt
  have hF : ∀ g, wx.heap.size <= g /\ g < W.heap.size -> g < W.heap.size /\ (Value.slice A n c).ownBlock ≠ some g /\ g ≠ g4 /\ g ≠ g5 /\ w.heap.size <= g := fun g hg => ⟨hg.2, fun e => by have := (h.parts.low g e).2; omega, by omega, by omega, by have := h.below.size; omega⟩
  exact Ap.Prt_rep.2 ⟨⟨ls⟩, rfl, ⟨⟨⟨(o1.more (G := (fun b => b < W.heap.size /\ (Value.slice A n c).ownBlock ≠ some b /\ b ≠ g4 /\ b ≠ g5 /\ w.heap.size <= b)) fun _ h => h.elim).row fun g hg => hF g (o1.low g hg), o1.fit⟩, ⟨(o2.more (G := (fun b => b < W.heap.size /\ (Value.slice A n c).ownBlock ≠ some b /\ b ≠ g4 /\ b ≠ g5 /\ w.heap.size <= b)) fun _ h => h.elim).row fun g hg => hF g (o2.low g hg), o2.fit⟩⟩, by show _ <= ct /\ ct <= _; omega⟩⟩
theorem part_ok (s : Scp) {ct : Int} (hc : 1 <= ct /\ ct <= 100) : Pr.partB ⟨scopeOf s, ct⟩ = true /\ (scopeOf s).skus.length <= 8 /\ (scopeOf s).cats.length <= 8 := by
  refine ⟨?_, by have := (scopeOf_len s).1; omega, by have := (scopeOf_len s).2; omega⟩
  unfold Pr.partB
  show (Sc.scopeB (scopeOf s) && decide (1 <= ct) && decide (ct <= 100)) = true
  rw [scopeOf_may, decide_eq_true hc.1, decide_eq_true hc.2]
  rfl
theorem Bun.fin (h : Bun w wx p l g2 g4 g5 i gr co pr le am cl A n c ps) (f : Facts k i 4 pr gr co sc le) (ham : 0 <= am /\ am <= 3000) (hn : 1 <= n /\ n <= 3) : ∃ m, End w wx g4 g5 k ⟨i, 4, pr, gr, co, cl, ⟨[], []⟩, le, 0, am, 0, 0, ps, []⟩ m := by
  have h1 := h.one
  have h2 := h.two
  have h3 := h.low
  have hlen : ps.length = n := h.parts.1
  refine ⟨⟨⟨⟨none, 0, 0⟩, ⟨none, 0, 0⟩⟩, ⟨A, n, c⟩, ⟨none, 0, 0⟩⟩, h.res, h.out, by omega, by omega, ?_, f.id, ⟨by simp, by simp, by simp, by show ps.length <= 3; omega, fun j x hj => (h.each j x hj).2⟩, ⟨?_, f.gr.2, f.co.2⟩, ⟨?_, ?_, ?_, ?_, ?_, ?_, ?_⟩, nil_own, nil_own, (fun g hg => by cases hg), h.parts.more fun b hb => ⟨hb.1, hb.2.1, hb.2.2.1, hb.2.2.2.2, (fun e => by cases e), (fun e => by cases e), (fun e => by cases e)⟩, nil_own, h.below⟩
  . unfold promoB
    rw [head_ok f _ _ _ _ _ _ _ _ scope_none]
    have hp : Pr.partsB ps = true := by
      rw [Pr.partsB_end fun k x hx => (h.each k x hx).1, decide_eq_true (by omega), decide_eq_true (by omega)]; rfl
    unfold kindB
    rw [if_neg (by show ¬ (4 : Int) = 1; omega), if_neg (by show ¬ (4 : Int) = 2; omega), if_neg (by show ¬ (4 : Int) = 3; omega), if_pos rfl]
    unfold Pr.inB Pr.noBuy Pr.noTiers Pr.allB
    show (true && ((0 : Int) == 0 && (decide (0 <= am) && decide (am <= 10000000000000)) && ((0 : Int) == 0 && (0 : Int) == 0) && Pr.partsB ps && (0 : Nat) == 0 && ((0 : Nat) == 0 && (0 : Nat) == 0))) = true
    rw [hp, decide_eq_true ham.1, decide_eq_true (show am <= 10000000000000 by omega)]; rfl
  . show i.size <= maxLen
    rw [f.id, id_size]; unfold maxLen; omega
  . show _ <= (4 : Int) /\ (4 : Int) <= _; omega
  . have := f.prio; show _ <= pr /\ pr <= _; omega
  . have := f.least; show _ <= le /\ le <= _; omega
  . show _ <= (0 : Int) /\ (0 : Int) <= _; omega
  . show _ <= am /\ am <= _; omega
  . show _ <= (0 : Int) /\ (0 : Int) <= _; omega
  . show _ <= (0 : Int) /\ (0 : Int) <= _; omega
theorem Bun.lone (h : Bun w wx p l g2 g4 g5 i gr co pr le am cl A 0 c ps) (f : Facts k i 4 pr gr co sc le) (ham : 0 <= am /\ am <= 3000) : ∃ m, End w ((wx.alloc (.cells #[.slice none 0 0, .slice none 0 0, .int .i64 2] 56)).setCell ⟨g5, 13, none⟩ (.slice (some ⟨wx.heap.size, 0, none⟩) 1 1)) g4 g5 k ⟨i, 4, pr, gr, co, cl, ⟨[], []⟩, le, 0, am, 0, 0, [⟨⟨[], []⟩, 2⟩], []⟩ m := by
  have h1 := h.one
  have h2 := h.two
  have h3 := h.low
  have h5 := h.out.lt
  have hb1 : Below wx.heap.size wx (wx.alloc (.cells #[.slice none 0 0, .slice none 0 0, .int .i64 2] 56)) := (Below.refl _ _).alloc (Nat.le_refl _) _
  have hB := h.later hb1
  have hnew := Qu.Blk.new wx 56 #[.slice none 0 0, .slice none 0 0, .int .i64 2]
  have hps : ps = [] := List.eq_nil_of_length_eq_zero h.parts.1
  obtain ⟨W, hW⟩ : ∃ W, (wx.alloc (.cells #[.slice none 0 0, .slice none 0 0, .int .i64 2] 56)).setCell ⟨g5, 13, none⟩ (.slice (some ⟨wx.heap.size, 0, none⟩) 1 1) = W := ⟨_, rfl⟩
  have ho : Only (wx.alloc (.cells #[.slice none 0 0, .slice none 0 0, .int .i64 2] 56)) W (Mv.one g5) := by rw [<- hW]; exact (Only.refl _ (Mv.one g5)).put (g := g5) (i := 13) _ (fun _ => rfl)
  have hsz : (wx.alloc (.cells #[.slice none 0 0, .slice none 0 0, .int .i64 2] 56)).heap.size = wx.heap.size + 1 := by simp
  have hrep : kPrt.rep W (fun b => b < W.heap.size /\ (Value.slice (some ⟨wx.heap.size, 0, none⟩) 1 1).ownBlock ≠ some b /\ b ≠ g4 /\ b ≠ g5 /\ w.heap.size <= b) ⟨⟨[], []⟩, 2⟩ [.slice none 0 0, .slice none 0 0, .int .i64 2] :=
    Ap.Prt_rep.2 ⟨⟨⟨⟨none, 0, 0⟩, ⟨none, 0, 0⟩⟩⟩, rfl, ⟨⟨⟨(Kd.Own.nil kStr W 0 0 _).row fun g hg => (by cases hg), (Kd.Own.nil kStr W 0 0 (fun _ => False)).fit⟩, ⟨(Kd.Own.nil kStr W 0 0 _).row fun g hg => (by cases hg), (Kd.Own.nil kStr W 0 0 (fun _ => False)).fit⟩⟩, by show _ <= (2 : Int) /\ (2 : Int) <= _; omega⟩⟩
  have hB2 : Bun w W p l g2 g4 g5 i gr co pr le am cl (some ⟨wx.heap.size, 0, none⟩) 1 1 [⟨⟨[], []⟩, 2⟩] := by
    refine ⟨Mv.blk_only hB.src ho (fun e => by have : g2 = g5 := e; omega), Mv.blk_only hB.res ho (fun e => by have : g4 = g5 := e; omega), by rw [<- hW]; exact hB.out.put 13 _, h.low, h.one, h.two, hB.below.trans (ho.toBelow hB.below.size fun b hb e => by have : b = g5 := e; omega), ?_, ?_⟩
    . exact Kd.own_blk (Mv.blk_only hnew ho (fun e => by have : wx.heap.size = g5 := e; omega)) h.below.size rfl (Kd.Cells.one hrep) (Nat.le_refl _) (by unfold maxLen; omega) rfl rfl
    . intro j x hj
      match j, hj with
      | 0, hj =>
        injection hj with hj
        subst hj
        refine ⟨?_, by simp, by simp⟩
        unfold Pr.partB
        show (Sc.scopeB ⟨[], []⟩ && decide ((1 : Int) <= 2) && decide ((2 : Int) <= 100)) = true
        rw [scope_none]; rfl
      | j + 1, hj => simp at hj
  rw [hW]
  exact hB2.fin f ham (by omega)
end
end Go.Proofs.YtljmddjlnlmenaaGreat.Py
end
