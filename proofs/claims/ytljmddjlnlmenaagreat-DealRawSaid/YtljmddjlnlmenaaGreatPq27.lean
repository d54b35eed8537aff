/- Law 16's few (made by gen-law16a.py). · The document's Index. · The statements' Promo: what stands at each stage; its te .. -/
import Derived.Deep.CutBlock
import Derived.Deep.DeepCutAuto
import Derived.Deep.LoopGhost
import Derived.Deep.RegionHeld3
import Derived.IntWalk
import Derived.Test.YtljmddjlnlmenaaGreatPq1
import Derived.Test.YtljmddjlnlmenaaGreatPq16
import Derived.Test.YtljmddjlnlmenaaGreatPq2
import Derived.Test.YtljmddjlnlmenaaGreatPq21
import Derived.Test.YtljmddjlnlmenaaGreatPq26
import Derived.Test.YtljmddjlnlmenaaGreatPq7
set_option maxRecDepth 100000
set_option linter.unusedVariables false

section
namespace Go.Proofs.YtljmddjlnlmenaaGreat.Dl
open Go.ChangeShapes Go.WideShapes Go.ChangeAt Go.RowKit
open Ap (Unt Tir Prm Prt kUnt kTir kPrt row_Unt row_Tir row_Prt)
open Kd (Kind Row RowT kInt kFlag kList Lst row_int row_list)
open Ko (Out Told Told2 At row_on)
open Ct (nth nth_some netAt netsL sumL UnitsMay PlacesMay May mayB mayB_iff Far take_next lessU i64_t own_down nope FewC)
def FewQ (p : Prm) (n : Nat) (ls : List (List Int)) (w : World) (e : Ending) (w' : World) : Prop := ∃ b : Bool, e = .returned (.bool b) /\ (b = true -> FewC p n /\ ls.length <= 20 /\ ∀ x ∈ ls, x.length <= 200) /\ Below w.heap.size w w'
set_option maxHeartbeats 4000000 in
theorem few_any (p : Prm) (l : Prm.Lay) (A : Option Addr) (u cu : Nat) (B : Option Addr) (m d : Nat) (ls : List (List Int)) (w : World) (h : Ap.Prm.Holds w (· < w.heap.size) p l) (hg : Row (kList kInt) w (· < w.heap.size) B m ls) (hm : m <= 9223372036854775807) :
    Calls Tryz.prog 7 #[.agg #[.string p.id, .int .i64 p.kind, .int .i64 p.priority, .string p.group, .string p.code, .bool p.closes, .slice l.scope.skus.A l.scope.skus.n l.scope.skus.c, .slice l.scope.cats.A l.scope.cats.n l.scope.cats.c, .int .i64 p.least, .int .i64 p.rate, .int .i64 p.amount, .int .i64 p.buy, .int .i64 p.get, .slice l.parts.A l.parts.n l.parts.c, .slice l.tiers.A l.tiers.n l.tiers.c], .slice A u cu, .slice B m d] w fun e w' => FewQ p u ls w e w' := by
  obtain ⟨w1, hw1⟩ : ∃ w1, w.alloc (.cells #[.string p.id, .int .i64 p.kind, .int .i64 p.priority, .string p.group, .string p.code, .bool p.closes, .slice l.scope.skus.A l.scope.skus.n l.scope.skus.c, .slice l.scope.cats.A l.scope.cats.n l.scope.cats.c, .int .i64 p.least, .int .i64 p.rate, .int .i64 p.amount, .int .i64 p.buy, .int .i64 p.get, .slice l.parts.A l.parts.n l.parts.c, .slice l.tiers.A l.tiers.n l.tiers.c] 28) = w1 := ⟨_, rfl⟩
  have hx : Qu.Blk w1 w.heap.size 28 #[.string p.id, .int .i64 p.kind, .int .i64 p.priority, .string p.group, .string p.code, .bool p.closes, .slice l.scope.skus.A l.scope.skus.n l.scope.skus.c, .slice l.scope.cats.A l.scope.cats.n l.scope.cats.c, .int .i64 p.least, .int .i64 p.rate, .int .i64 p.amount, .int .i64 p.buy, .int .i64 p.get, .slice l.parts.A l.parts.n l.parts.c, .slice l.tiers.A l.tiers.n l.tiers.c] := by rw [<- hw1]; exact Qu.Blk.new w _ _
  have hb1 : Below w.heap.size w w1 := by rw [<- hw1]; exact (Below.refl _ _).alloc (Nat.le_refl _) _
  have x6 := hx.cell 6
  have x7 := hx.cell 7
  have x13 := hx.cell 13
  have x14 := hx.cell 14
  have HB := Lib.hid hb1
  have HG := Lib.hid (row_on hg hb1)
  have HLm := Lib.hid hg.len
  have HL := Lib.hid (And.intro h.scope.skus.row.len (And.intro h.scope.cats.row.len (And.intro h.parts.row.len h.tiers.row.len)))
  obtain ⟨n, hn⟩ : ∃ n, l.parts.n = n := ⟨_, rfl⟩
  obtain ⟨t, ht⟩ : ∃ t, l.tiers.n = t := ⟨_, rfl⟩
  obtain ⟨a, ha⟩ : ∃ a, l.scope.skus.n = a := ⟨_, rfl⟩
  obtain ⟨c, hc⟩ : ∃ c, l.scope.cats.n = c := ⟨_, rfl⟩
  simp only [hn, ht, ha, hc] at hw1 x6 x7 x13 x14 HL ⊢
  clear hx hb1 h hn ht ha hc hg
  go_enter Tryz.func7, Tryz.ntmps7
  go_wp2_with fail
  go_loopw [7] (fun s7 wr => ∃ k : Nat, s7 = .int .i64 k /\ k <= m /\ w1 = wr /\ Hid (∀ x ∈ ls.take k, x.length <= 200)) (fun s7 _ => m - (intOf s7).toNat)
  case atStart => exact ⟨0, rfl, by omega, rfl, Lib.hid fun x hx => by rw [List.take_zero] at hx; cases hx⟩
  case round =>
    obtain ⟨k, rfl, hk, rfl, HO⟩ := hrel
    have kk : (0 : Int) <= (k : Int) := by omega
    clear hw1
    by_cases hlt : k < m
    . obtain ⟨ms, hms⟩ := HG.out.get hlt
      obtain ⟨g, o, lm, rfl, hg, _, hlm, a0⟩ := row_list HG.out hms
      have k1 : (k : Int) < (m : Int) := by omega
      have HE := Lib.hid (And.intro hlm.row.len (take_next hms))
      obtain ⟨r, hr⟩ : ∃ r, lm.n = r := ⟨_, rfl⟩
      rw [hr] at a0 HE
      have c0 : w1.cell? ⟨g, o + k, none⟩ = some (.slice lm.A r lm.c) := a0
      clear a0 hlm hg hr hms
      by_cases hr2 : 200 < r
      . have r1 : (200 : Int) < (r : Int) := by omega
        clear HO HE
        go_wp2
        go_ret
        exact ⟨false, rfl, nope, HB.out⟩
      . have r1 : ¬ (200 : Int) < (r : Int) := by omega
        go_wp2
        go_roundw
        case rel =>
          refine ⟨k + 1, by go_num, by omega, (by first | trivial | rfl), Lib.hid fun x hx => ?_⟩
          rw [HE.out.2] at hx
          rcases List.mem_append.1 hx with h1 | h1
          . exact HO.out x h1
          . rw [List.mem_singleton.1 h1, HE.out.1]; omega
        case measure => simp [intOf]; omega
    . have k1 : ¬ (k : Int) < (m : Int) := by omega
      obtain rfl : k = m := by omega
      have HO2 : Hid (∀ x ∈ ls, x.length <= 200) := Lib.hid (by
        have := HO.out
        rw [List.take_of_length_le (by rw [HLm.out]; exact Nat.le_refl _)] at this
        exact this)
      clear HO hlt
      by_cases c0 : 20 < n
      . have d0 : ¬ (n : Int) <= 20 := by omega
        go_wp2
        go_ret
        exact ⟨false, rfl, nope, HB.out⟩
      have d0 : (n : Int) <= 20 := by omega
      by_cases c1 : 20 < t
      . have d1 : ¬ (t : Int) <= 20 := by omega
        go_wp2
        go_ret
        exact ⟨false, rfl, nope, HB.out⟩
      have d1 : (t : Int) <= 20 := by omega
      by_cases c2 : 40 < a
      . have d2 : ¬ (a : Int) <= 40 := by omega
        go_wp2
        go_ret
        exact ⟨false, rfl, nope, HB.out⟩
      have d2 : (a : Int) <= 40 := by omega
      by_cases c3 : 40 < c
      . have d3 : ¬ (c : Int) <= 40 := by omega
        go_wp2
        go_ret
        exact ⟨false, rfl, nope, HB.out⟩
      have d3 : (c : Int) <= 40 := by omega
      by_cases c4 : 200 < u
      . have d4 : ¬ (u : Int) <= 200 := by omega
        go_wp2
        go_ret
        exact ⟨false, rfl, nope, HB.out⟩
      have d4 : (u : Int) <= 200 := by omega
      have HF : Hid (decide ((k : Int) <= 20) = true -> FewC p u /\ ls.length <= 20 /\ ∀ x ∈ ls, x.length <= 200) := Lib.hid fun h5 => ⟨⟨by have := HL.out; omega, by have := HL.out; omega, by have := HL.out; omega, by have := HL.out; omega, by omega⟩, by rw [HLm.out]; have := of_decide_eq_true h5; omega, HO2.out⟩
      go_wp2
      go_ret
      exact ⟨decide ((k : Int) <= 20), rfl, HF.out, HB.out⟩
end Go.Proofs.YtljmddjlnlmenaaGreat.Dl

end

section
namespace Go.Proofs.YtljmddjlnlmenaaGreat.Sc
open Go.ChangeShapes Go.WideShapes Go.ChangeAt Go.RowKit
open It (Itm kItem row_item)
open Ap (Scp kScp row_Scp)
open Kd (Row Fit Lst Sl kStr kInt kList row_str Deep But Own)
theorem ints_rep {W : World} {v : Value} {B n c : Nat} {A : Option Addr} {l : List Int} (h : Kd.Own kInt W B 3 (fun _ => False) (.slice A n c) n l) (hv : ∀ g, v.ownBlock = some g -> g < B) : (kList kInt).rep W (But W v) l [.slice A n c] :=
  ⟨A, n, c, rfl, (h.more (G := But W v) fun _ h => h.elim).row fun g hg => ⟨(h.low g hg).2, fun e => by
    have h1 := hv g e
    have h2 := (h.low g hg).1
    omega⟩, h.fit⟩
end Go.Proofs.YtljmddjlnlmenaaGreat.Sc

end

section
section
namespace Go.Proofs.YtljmddjlnlmenaaGreat.Py
open Go.ChangeShapes Go.WideShapes Go.ChangeAt Go.RowKit
open Kd (Kind Row Own Cells Fit Agree Deep Lst kStr)
open Ap (Scp Prt Tir Prm kPrt kTir kPrm row_Prt row_Tir)
open Pr (promoB headB kindB blankB)
open Mv (Only)
structure Anew (w w' : World) (q : Prm) (m : Prm.Lay) : Prop where
  holds : Ap.Prm.Holds w' (· < w'.heap.size) q m
  skus : Kd.Own kStr w' w.heap.size 9 (fun _ => False) (.slice m.scope.skus.A m.scope.skus.n m.scope.skus.c) m.scope.skus.n q.scope.skus
  cats : Kd.Own kStr w' w.heap.size 9 (fun _ => False) (.slice m.scope.cats.A m.scope.cats.n m.scope.cats.c) m.scope.cats.n q.scope.cats
  apart : ∀ g, (Value.slice m.scope.skus.A m.scope.skus.n m.scope.skus.c).ownBlock = some g -> (Value.slice m.scope.cats.A m.scope.cats.n m.scope.cats.c).ownBlock ≠ some g
  parts : Kd.Own kPrt w' w.heap.size 56 (fun b => Kd.But w' (.slice m.parts.A m.parts.n m.parts.c) b /\ w.heap.size <= b /\ (Value.slice m.scope.skus.A m.scope.skus.n m.scope.skus.c).ownBlock ≠ some b /\ (Value.slice m.scope.cats.A m.scope.cats.n m.scope.cats.c).ownBlock ≠ some b /\ (Value.slice m.tiers.A m.tiers.n m.tiers.c).ownBlock ≠ some b) (.slice m.parts.A m.parts.n m.parts.c) m.parts.n q.parts
  tiers : Kd.Own kTir w' w.heap.size 124 (fun _ => False) (.slice m.tiers.A m.tiers.n m.tiers.c) m.tiers.n q.tiers
  below : Below w.heap.size w w'
theorem own_far {α : Type} {K : Kind α} {w w' : World} {B E n : Nat} {v : Value} {xs : List α} {S : Nat -> Prop} (h : Kd.Own K w B E (fun _ => False) v n xs) (ho : Only w w' S) (hS : ∀ b, v.ownBlock = some b -> ¬ S b) : Kd.Own K w' B E (fun _ => False) v n xs :=
  h.stay (fun _ h => h.elim) fun g hg => ho.block g (h.low g hg).2 (hS g hg)
section
variable {w wc W : World} {p : Prm} {l : Prm.Lay} {g2 g4 g5 : Nat} {i gr co : ByteArray} {kd pr le : Int} {cl : Bool} {sc : Scp} {sl : Scp.Lay}
end
end Go.Proofs.YtljmddjlnlmenaaGreat.Py
end
section
namespace Go.Proofs.YtljmddjlnlmenaaGreat.Py
open Go.ChangeShapes Go.WideShapes Go.ChangeAt Go.RowKit
open Kd (Kind Row Own Cells Fit Agree Deep Lst kStr)
open Ap (Scp Prt Tir Prm kPrt kTir kPrm row_Prt row_Tir)
open Pr (promoB headB kindB blankB)
open Mv (Only)
theorem only_puts {w0 : World} {g : Nat} : ∀ (vs : List Value) (u : World) (o : Nat), Only w0 u (Mv.one g) -> Only w0 (u.setCells g o vs) (Mv.one g)
  | [], u, o, h => h
  | v :: r, u, o, h => only_puts r (u.setCell ⟨g, o, none⟩ v) (o + 1) (h.put v fun _ => rfl)
end Go.Proofs.YtljmddjlnlmenaaGreat.Py
end
section
namespace Go.Proofs.YtljmddjlnlmenaaGreat.Py
open Go.ChangeShapes Go.WideShapes Go.ChangeAt Go.RowKit
open Kd (Kind Row Own Cells Fit Agree Deep Lst kStr)
open Ap (Scp Prt Tir Prm kPrt kTir kPrm row_Prt row_Tir)
open Pr (promoB headB kindB blankB)
open Mv (Only)
section
variable {w wc W : World} {p : Prm} {l : Prm.Lay} {g2 g4 g5 k : Nat} {i gr co : ByteArray} {kd pr le : Int} {cl : Bool} {sc : Scp} {sl : Scp.Lay}
end
end Go.Proofs.YtljmddjlnlmenaaGreat.Py
end
section
namespace Go.Proofs.YtljmddjlnlmenaaGreat.Py
open Go.ChangeShapes Go.WideShapes Go.ChangeAt Go.RowKit
open Kd (Kind Row Own Cells Fit Agree Deep Lst kStr)
open Ap (Scp Prt Tir Prm kPrt kTir kPrm row_Prt row_Tir)
open Pr (promoB headB kindB blankB)
open Mv (Only)
end Go.Proofs.YtljmddjlnlmenaaGreat.Py
end
section
namespace Go.Proofs.YtljmddjlnlmenaaGreat.Py
open Go.ChangeShapes Go.WideShapes Go.ChangeAt Go.RowKit
open Kd (Kind Row Own Cells Fit Agree Deep Lst kStr)
open Ap (Scp Prt Tir Prm kPrt kTir kPrm row_Prt row_Tir)
open Pr (promoB headB kindB blankB)
open Mv (Only)
section
variable {w u u' : World} {p : Prm} {l : Prm.Lay} {g2 g5 : Nat}
end
section
variable {w wc wx W u : World} {p : Prm} {l : Prm.Lay} {g2 g4 g5 n c k : Nat} {A : Option Addr} {i gr co : ByteArray} {pr le am : Int} {cl : Bool} {sc : Scp} {sl : Scp.Lay} {ps : List Prt}
end
end Go.Proofs.YtljmddjlnlmenaaGreat.Py
end

end

section
namespace Go.Proofs.YtljmddjlnlmenaaGreat.Ct
open Go.ChangeShapes Go.WideShapes Go.ChangeAt Go.RowKit
open Ap (Unt Tir Prm kPrt kUnt kTir row_Unt row_Tir)
open Kd (Kind Row kInt row_int)
open Ko (Out Told Told2 At row_on)
theorem anew_on {wc w' W' : World} {q : Prm} {m : Prm.Lay} (h : Py.Anew wc w' q m) (hb : Below w'.heap.size w' W') : Py.Anew wc W' q m :=
  ⟨Pr.holds_later h.holds hb, h.skus.later hb, h.cats.later hb, h.apart, (h.parts.stay (fun b hb2 => hb.block b hb2.1.1) fun g hg => hb.block g (h.parts.low g hg).2).more fun b hb2 => ⟨Kd.but_mono hb.size b hb2.1, hb2.2⟩, h.tiers.later hb, h.below.trans (hb.mono h.below.size)⟩
def MadeN (w : World) (e : Ending) (w' : World) (q : Prm) : Prop := ∃ m : Prm.Lay, e = .returned (.agg #[.string q.id, .int .i64 q.kind, .int .i64 q.priority, .string q.group, .string q.code, .bool q.closes, .slice m.scope.skus.A m.scope.skus.n m.scope.skus.c, .slice m.scope.cats.A m.scope.cats.n m.scope.cats.c, .int .i64 q.least, .int .i64 q.rate, .int .i64 q.amount, .int .i64 q.buy, .int .i64 q.get, .slice m.parts.A m.parts.n m.parts.c, .slice m.tiers.A m.tiers.n m.tiers.c]) /\ Pr.promoB q = true /\ (q.scope.skus.length <= 8 /\ q.scope.cats.length <= 8 /\ q.tiers.length <= 6 /\ q.parts.length <= 3) /\ Py.Anew w w' q m
theorem holds_only {w W u : World} {p : Prm} {l : Prm.Lay} (h : Ap.Prm.Holds W (· < w.heap.size) p l) (hs : w.heap.size < W.heap.size) (ho : Mv.Only W u (Mv.one w.heap.size)) : Ap.Prm.Holds u (· < u.heap.size) p l := by
  have ag : Kd.Agree (· < w.heap.size) W u := fun b hb => ho.block b (by omega) fun e => by have : b = w.heap.size := e; omega
  have hm : ∀ b, b < w.heap.size -> b < u.heap.size := fun b hb => by have := ho.size; omega
  exact ⟨h.id, h.kind, h.priority, h.group, h.code, ⟨⟨(h.scope.skus.row.stay ag).more hm, h.scope.skus.fit⟩, ⟨(h.scope.cats.row.stay ag).more hm, h.scope.cats.fit⟩⟩, h.least, h.rate, h.amount, h.buy, h.get, ⟨(h.parts.row.stay ag).more hm, h.parts.fit⟩, ⟨(h.tiers.row.stay ag).more hm, h.tiers.fit⟩⟩
abbrev Out1 (w W : World) : Nat -> Prop := fun b => b < W.heap.size /\ b ≠ w.heap.size
structure Turned (w Wn : World) (A : Option Addr) (k c : Nat) (vs : List Unt) (q : Prm) (m : Prm.Lay) : Prop where
  row : Row kUnt Wn (Out1 w Wn) A k vs
  fit : Kd.Fit A k c
  blk : Qu.Blk Wn w.heap.size 28 #[.string q.id, .int .i64 q.kind, .int .i64 q.priority, .string q.group, .string q.code, .bool q.closes, .slice m.scope.skus.A m.scope.skus.n m.scope.skus.c, .slice m.scope.cats.A m.scope.cats.n m.scope.cats.c, .int .i64 q.least, .int .i64 q.rate, .int .i64 q.amount, .int .i64 q.buy, .int .i64 q.get, .slice m.parts.A m.parts.n m.parts.c, .slice m.tiers.A m.tiers.n m.tiers.c]
  holds : Ap.Prm.Holds Wn (Out1 w Wn) q m
  below : Below w.heap.size w Wn
theorem out_row {α : Type} {K : Kd.Kind α} {w wl : World} {B E n c : Nat} {A : Option Addr} {xs : List α} (h : Kd.Own K wl B E (fun _ => False) (.slice A n c) n xs) (hB : w.heap.size < B) : Row K wl (Out1 w wl) A n xs :=
  (h.more (G := Out1 w wl) fun _ h => h.elim).row fun g hg => ⟨(h.low g hg).2, by have := (h.low g hg).1; omega⟩
theorem out_lst {α : Type} {K : Kd.Kind α} {w wl : World} {B E n c : Nat} {A : Option Addr} {xs : List α} (h : Kd.Own K wl B E (fun _ => False) (.slice A n c) n xs) (hB : w.heap.size < B) : Kd.Lst K wl (Out1 w wl) ⟨A, n, c⟩ xs := ⟨out_row h hB, h.fit⟩
theorem turned_in {w wc wl Wn : World} {B : Nat} {A : Option Addr} {k c : Nat} {vs : List Unt} {q : Prm} {m : Prm.Lay} {cs : Array Value} (hou : Kd.Own kUnt wl B 35 (fun _ => False) (.slice A k c) k vs) (hB : w.heap.size < B) (ha : Py.Anew wc wl q m) (hc : w.heap.size < wc.heap.size) (hz : Qu.Blk wl w.heap.size 28 cs) (hcs : ∃ a b c d e f g h i j k l m n o, cs = #[a, b, c, d, e, f, g, h, i, j, k, l, m, n, o]) (hb : Below w.heap.size w wl) (e : wl.setCells w.heap.size 0 (q.enc m) = Wn) : Turned w Wn A k c vs q m := by
  have ho : Mv.Only wl Wn (Mv.one w.heap.size) := by rw [<- e]; exact Py.only_puts (q.enc m) wl 0 (Mv.Only.refl wl _)
  obtain ⟨a1, a2, a3, a4, a5, a6, a7, a8, a9, a10, a11, a12, a13, a14, a15, rfl⟩ := hcs
  have hbk : Qu.Blk Wn w.heap.size 28 #[.string q.id, .int .i64 q.kind, .int .i64 q.priority, .string q.group, .string q.code, .bool q.closes, .slice m.scope.skus.A m.scope.skus.n m.scope.skus.c, .slice m.scope.cats.A m.scope.cats.n m.scope.cats.c, .int .i64 q.least, .int .i64 q.rate, .int .i64 q.amount, .int .i64 q.buy, .int .i64 q.get, .slice m.parts.A m.parts.n m.parts.c, .slice m.tiers.A m.tiers.n m.tiers.c] := by rw [<- e]; exact Kd.blk_puts (q.enc m) wl 0 _ hz
  have hf := Py.own_far hou ho fun b hb e => by have := (hou.low b hb).1; have : b = w.heap.size := e; omega
  have hbel : Below w.heap.size w Wn := by rw [<- e]; exact Kd.below_puts (Nat.le_refl _) (q.enc m) wl 0 hb
  have n1 : ∀ b, (Value.slice m.scope.skus.A m.scope.skus.n m.scope.skus.c).ownBlock = some b -> ¬ Mv.one w.heap.size b := fun b hb e => by have := (ha.skus.low b hb).1; have : b = w.heap.size := e; omega
  have n2 : ∀ b, (Value.slice m.scope.cats.A m.scope.cats.n m.scope.cats.c).ownBlock = some b -> ¬ Mv.one w.heap.size b := fun b hb e => by have := (ha.cats.low b hb).1; have : b = w.heap.size := e; omega
  have n3 : ∀ b, (Value.slice m.tiers.A m.tiers.n m.tiers.c).ownBlock = some b -> ¬ Mv.one w.heap.size b := fun b hb e => by have := (ha.tiers.low b hb).1; have : b = w.heap.size := e; omega
  have n4 : ∀ b, (Value.slice m.parts.A m.parts.n m.parts.c).ownBlock = some b -> ¬ Mv.one w.heap.size b := fun b hb e => by have := (ha.parts.low b hb).1; have : b = w.heap.size := e; omega
  have hsz := ho.size
  have hh := ha.holds
  have p4 := (ha.parts.stay (fun b hb => ho.block b hb.1.1 fun e => by have : b = w.heap.size := e; have := hb.2.1; omega) fun b hb => ho.block b (ha.parts.low b hb).2 (n4 b hb)).more (G := Out1 w Wn) fun b hb => ⟨Nat.lt_of_lt_of_le hb.1.1 hsz, by have := hb.2.1; omega⟩
  have s4 : Kd.Lst kPrt Wn (Out1 w Wn) m.parts q.parts := ⟨p4.row fun g hg => ⟨(p4.low g hg).2, by have := (p4.low g hg).1; omega⟩, ha.parts.fit⟩
  exact ⟨out_row hf hB, hf.fit, hbk, ⟨hh.id, hh.kind, hh.priority, hh.group, hh.code, ⟨out_lst (Py.own_far ha.skus ho n1) hc, out_lst (Py.own_far ha.cats ho n2) hc⟩, hh.least, hh.rate, hh.amount, hh.buy, hh.get, s4, out_lst (Py.own_far ha.tiers ho n3) hc⟩, hbel⟩
def withKind (q : Prm) (z : Int) : Prm := ⟨q.id, z, q.priority, q.group, q.code, q.closes, q.scope, q.least, q.rate, q.amount, q.buy, q.get, q.parts, q.tiers⟩
theorem holds_in {w W : World} {p : Prm} {l : Prm.Lay} (h : Ap.Prm.Holds w (· < w.heap.size) p l) (hb : Below w.heap.size w W) : Ap.Prm.Holds W (· < w.heap.size) p l :=
  ⟨h.id, h.kind, h.priority, h.group, h.code, ⟨h.scope.skus.below hb (Nat.le_refl _), h.scope.cats.below hb (Nat.le_refl _)⟩, h.least, h.rate, h.amount, h.buy, h.get, h.parts.below hb (Nat.le_refl _), h.tiers.below hb (Nat.le_refl _)⟩
end Go.Proofs.YtljmddjlnlmenaaGreat.Ct

end
