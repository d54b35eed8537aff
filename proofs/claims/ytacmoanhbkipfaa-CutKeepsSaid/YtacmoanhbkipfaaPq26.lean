/- Law 15's simple (made by gen-cut15.py). · Cuts: a promotion made anew, with lists of the call's own; kept where a box is written (made by gen-cut15.py). · Cuts: what follows of Apply, unit by unit. -/
import Derived.Deep.CutBlock
import Derived.Deep.DeepCutAuto
import Derived.Test.YtacmoanhbkipfaaPq13
import Derived.Test.YtacmoanhbkipfaaPq21
import Derived.Test.YtacmoanhbkipfaaPq25
import Derived.Test.YtacmoanhbkipfaaPq8

section
set_option maxRecDepth 100000
set_option linter.unusedVariables false
namespace Go.Proofs.Ytacmoanhbkipfaa.Ct
open Go.ChangeShapes Go.WideShapes Go.ChangeAt Go.RowKit
open Ap (Unt Tir Prm kUnt kTir row_Unt row_Tir)
open Kd (Kind Row kInt row_int)
open Ko (Out Told Told2 At row_on)
theorem anew_put {wc w' W' : World} {q : Prm} {m : Prm.Lay} {g : Nat} (h : Py.Anew wc w' q m) (hg : g < wc.heap.size) (ho : Mv.Only w' W' (Mv.one g)) : Ap.Prm.Holds W' (· < W'.heap.size) q m := by
  have n1 : ∀ b, (Value.slice m.scope.skus.A m.scope.skus.n m.scope.skus.c).ownBlock = some b → ¬ Mv.one g b := fun b hb e => by have := (h.skus.low b hb).1; have : b = g := e; omega
  have n2 : ∀ b, (Value.slice m.scope.cats.A m.scope.cats.n m.scope.cats.c).ownBlock = some b → ¬ Mv.one g b := fun b hb e => by have := (h.cats.low b hb).1; have : b = g := e; omega
  have n3 : ∀ b, (Value.slice m.tiers.A m.tiers.n m.tiers.c).ownBlock = some b → ¬ Mv.one g b := fun b hb e => by have := (h.tiers.low b hb).1; have : b = g := e; omega
  have n4 : ∀ b, (Value.slice m.parts.A m.parts.n m.parts.c).ownBlock = some b → ¬ Mv.one g b := fun b hb e => by have := (h.parts.low b hb).1; have : b = g := e; omega
  have s1 := Py.own_far h.skus ho n1
  have s2 := Py.own_far h.cats ho n2
  have s3 := Py.own_far h.tiers ho n3
  have hsz := ho.size
  have s4 := (h.parts.stay (fun b hb => ho.block b hb.1.1 fun e => by have : b = g := e; have := hb.2.1; omega) fun b hb => ho.block b (h.parts.low b hb).2 (n4 b hb)).more (G := Kd.But W' (.slice m.parts.A m.parts.n m.parts.c)) fun b hb => ⟨Nat.lt_of_lt_of_le hb.1.1 hsz, hb.1.2⟩
  have hh := h.holds
  exact ⟨hh.id, hh.kind, hh.priority, hh.group, hh.code, ⟨⟨s1.read, s1.fit⟩, ⟨s2.read, s2.fit⟩⟩, hh.least, hh.rate, hh.amount, hh.buy, hh.get, Kd.Deep.lst s4, ⟨s3.read, s3.fit⟩⟩
def kindS (p : Prm) : Int := match Py.modN p.kind 4 with
  | 0 => 1
  | 1 => 2
  | 2 => 5
  | _ => 6
def simP (p : Prm) : Prm := ⟨p.id, kindS p, p.priority, p.group, p.code, p.closes, p.scope, p.least, p.rate, p.amount, p.buy, p.get, p.parts, p.tiers⟩
def MadeP (w : World) (e : Ending) (w' : World) (q : Prm) : Prop := ∃ m : Prm.Lay, e = .returned (.agg #[.string q.id, .int .i64 q.kind, .int .i64 q.priority, .string q.group, .string q.code, .bool q.closes, .slice m.scope.skus.A m.scope.skus.n m.scope.skus.c, .slice m.scope.cats.A m.scope.cats.n m.scope.cats.c, .int .i64 q.least, .int .i64 q.rate, .int .i64 q.amount, .int .i64 q.buy, .int .i64 q.get, .slice m.parts.A m.parts.n m.parts.c, .slice m.tiers.A m.tiers.n m.tiers.c]) ∧ Pr.promoB q = true ∧ (q.scope.skus.length ≤ 8 ∧ q.scope.cats.length ≤ 8 ∧ q.tiers.length ≤ 6 ∧ q.parts.length ≤ 3) ∧ Ap.Prm.Holds w' (· < w'.heap.size) q m ∧ Below w.heap.size w w'
theorem near_any (p : Prm) (l : Prm.Lay) (w : World) (h : Ap.Prm.Holds w (· < w.heap.size) p l) (hS : Pr.PrmSmall p l) :
    Calls Try.prog 13 #[.agg #[.string p.id, .int .i64 p.kind, .int .i64 p.priority, .string p.group, .string p.code, .bool p.closes, .slice l.scope.skus.A l.scope.skus.n l.scope.skus.c, .slice l.scope.cats.A l.scope.cats.n l.scope.cats.c, .int .i64 p.least, .int .i64 p.rate, .int .i64 p.amount, .int .i64 p.buy, .int .i64 p.get, .slice l.parts.A l.parts.n l.parts.c, .slice l.tiers.A l.tiers.n l.tiers.c], .int .i64 1] w fun e w' => ∃ m : Prm.Lay, MadeP w e w' (Py.nearP p 1) ∧ e = .returned (.agg ((Py.nearP p 1).enc m).toArray) ∧ Py.Anew w w' (Py.nearP p 1) m := by
  have h1 := Py.promo_near p l 1 w h hS
  rw [show Py.modN 1 10 = 1 from Py.modN_num 1 10 (by omega) (by omega)] at h1
  refine h1.mono ?_
  rintro e w' ⟨m, rfl, hm, _, hf, ha⟩
  exact ⟨m, ⟨m, rfl, hm, ⟨hf.1, hf.2.1, hf.2.2.1, hf.2.2.2.1⟩, ha.holds, ha.below⟩, rfl, ha⟩
theorem kinds_at (p : Prm) : (#[.int .i64 1, .int .i64 2, .int .i64 5, .int .i64 6] : Array Value)[Py.modN p.kind 4]? = some (.int .i64 (kindS p)) := by
  have h := Py.modN_lt p.kind 4 (by omega)
  unfold kindS
  match Py.modN p.kind 4, h with
  | 0, _ => rfl
  | 1, _ => rfl
  | 2, _ => rfl
  | 3, _ => rfl
  | k + 4, h => omega
end Go.Proofs.Ytacmoanhbkipfaa.Ct

end

section
set_option maxRecDepth 100000
set_option linter.unusedVariables false
namespace Go.Proofs.Ytacmoanhbkipfaa.Ct
open Go.ChangeShapes Go.WideShapes Go.ChangeAt Go.RowKit
open Ap (Unt Tir Prm kPrt kUnt kTir row_Unt row_Tir)
open Kd (Kind Row kInt row_int)
open Ko (Out Told Told2 At row_on)
theorem anew_turn {w wc w' W' : World} {q : Prm} {m : Prm.Lay} {g : Nat} (h : Py.Anew wc w' q m) (hg : g < wc.heap.size) (ho : Mv.Only w' W' (Mv.one g)) (hb : Below w.heap.size w W') (hw : w.heap.size ≤ wc.heap.size) : Py.Anew w W' q m := by
  have n1 : ∀ b, (Value.slice m.scope.skus.A m.scope.skus.n m.scope.skus.c).ownBlock = some b → ¬ Mv.one g b := fun b hb e => by have := (h.skus.low b hb).1; have : b = g := e; omega
  have n2 : ∀ b, (Value.slice m.scope.cats.A m.scope.cats.n m.scope.cats.c).ownBlock = some b → ¬ Mv.one g b := fun b hb e => by have := (h.cats.low b hb).1; have : b = g := e; omega
  have n3 : ∀ b, (Value.slice m.tiers.A m.tiers.n m.tiers.c).ownBlock = some b → ¬ Mv.one g b := fun b hb e => by have := (h.tiers.low b hb).1; have : b = g := e; omega
  have n4 : ∀ b, (Value.slice m.parts.A m.parts.n m.parts.c).ownBlock = some b → ¬ Mv.one g b := fun b hb e => by have := (h.parts.low b hb).1; have : b = g := e; omega
  have hsz := ho.size
  have s4 := (h.parts.stay (fun b hb => ho.block b hb.1.1 fun e => by have : b = g := e; have := hb.2.1; omega) fun b hb => ho.block b (h.parts.low b hb).2 (n4 b hb)).more (G := fun b => Kd.But W' (.slice m.parts.A m.parts.n m.parts.c) b ∧ w.heap.size ≤ b ∧ (Value.slice m.scope.skus.A m.scope.skus.n m.scope.skus.c).ownBlock ≠ some b ∧ (Value.slice m.scope.cats.A m.scope.cats.n m.scope.cats.c).ownBlock ≠ some b ∧ (Value.slice m.tiers.A m.tiers.n m.tiers.c).ownBlock ≠ some b) fun b hb => ⟨⟨Nat.lt_of_lt_of_le hb.1.1 hsz, hb.1.2⟩, Nat.le_trans hw hb.2.1, hb.2.2⟩
  exact ⟨anew_put h hg ho, own_down (Py.own_far h.skus ho n1) hw, own_down (Py.own_far h.cats ho n2) hw, h.apart, own_down s4 hw, own_down (Py.own_far h.tiers ho n3) hw, hb⟩
theorem anew_on {wc w' W' : World} {q : Prm} {m : Prm.Lay} (h : Py.Anew wc w' q m) (hb : Below w'.heap.size w' W') : Py.Anew wc W' q m :=
  ⟨Pr.holds_later h.holds hb, h.skus.later hb, h.cats.later hb, h.apart, (h.parts.stay (fun b hb2 => hb.block b hb2.1.1) fun g hg => hb.block g (h.parts.low g hg).2).more fun b hb2 => ⟨Kd.but_mono hb.size b hb2.1, hb2.2⟩, h.tiers.later hb, h.below.trans (hb.mono h.below.size)⟩
def MadeN (w : World) (e : Ending) (w' : World) (q : Prm) : Prop := ∃ m : Prm.Lay, e = .returned (.agg #[.string q.id, .int .i64 q.kind, .int .i64 q.priority, .string q.group, .string q.code, .bool q.closes, .slice m.scope.skus.A m.scope.skus.n m.scope.skus.c, .slice m.scope.cats.A m.scope.cats.n m.scope.cats.c, .int .i64 q.least, .int .i64 q.rate, .int .i64 q.amount, .int .i64 q.buy, .int .i64 q.get, .slice m.parts.A m.parts.n m.parts.c, .slice m.tiers.A m.tiers.n m.tiers.c]) ∧ Pr.promoB q = true ∧ (q.scope.skus.length ≤ 8 ∧ q.scope.cats.length ≤ 8 ∧ q.tiers.length ≤ 6 ∧ q.parts.length ≤ 3) ∧ Py.Anew w w' q m
set_option maxHeartbeats 2000000 in
theorem simple2_any (p : Prm) (l : Prm.Lay) (w : World) (h : Ap.Prm.Holds w (· < w.heap.size) p l) (hS : Pr.PrmSmall p l) :
    Calls Try.prog 9 #[.agg #[.string p.id, .int .i64 p.kind, .int .i64 p.priority, .string p.group, .string p.code, .bool p.closes, .slice l.scope.skus.A l.scope.skus.n l.scope.skus.c, .slice l.scope.cats.A l.scope.cats.n l.scope.cats.c, .int .i64 p.least, .int .i64 p.rate, .int .i64 p.amount, .int .i64 p.buy, .int .i64 p.get, .slice l.parts.A l.parts.n l.parts.c, .slice l.tiers.A l.tiers.n l.tiers.c]] w fun e w' => MadeN w e w' (Py.nearP (simP p) 1) := by
  obtain ⟨r, hr⟩ : ∃ r, Py.modN p.kind 4 = r := ⟨_, rfl⟩
  have hr4 : r < 4 := by have := Py.modN_lt p.kind 4 (by omega); omega
  have hks := kinds_at p
  rw [hr] at hks
  have hkb : -9223372036854775808 ≤ kindS p ∧ kindS p ≤ 9223372036854775807 := by
    unfold kindS
    split <;> omega
  have hSp : ∀ {W : World} {ks : Int}, kindS p = ks → Ap.Prm.Holds W (· < W.heap.size) p l → Ap.Prm.Holds W (· < W.heap.size) (simP p) l ∧ Pr.PrmSmall (simP p) l := fun e hh => ⟨⟨hh.id, hkb, hh.priority, hh.group, hh.code, hh.scope, hh.least, hh.rate, hh.amount, hh.buy, hh.get, hh.parts, hh.tiers⟩, ⟨hS.scope, hS.parts, hS.np, hS.nt, hS.few⟩⟩
  obtain ⟨ks, hk⟩ : ∃ ks, kindS p = ks := ⟨_, rfl⟩
  rw [hk] at hks
  obtain ⟨W1, hW1⟩ : ∃ W1, w.alloc (.cells #[.string p.id, .int .i64 p.kind, .int .i64 p.priority, .string p.group, .string p.code, .bool p.closes, .slice l.scope.skus.A l.scope.skus.n l.scope.skus.c, .slice l.scope.cats.A l.scope.cats.n l.scope.cats.c, .int .i64 p.least, .int .i64 p.rate, .int .i64 p.amount, .int .i64 p.buy, .int .i64 p.get, .slice l.parts.A l.parts.n l.parts.c, .slice l.tiers.A l.tiers.n l.tiers.c] 28) = W1 := ⟨_, rfl⟩
  have hb1 : Below w.heap.size w W1 := by rw [← hW1]; exact (Below.refl _ _).alloc (Nat.le_refl _) _
  have hs1 : W1.heap.size = w.heap.size + 1 := by rw [← hW1]; simp
  have hx1 : Qu.Blk W1 w.heap.size 28 #[.string p.id, .int .i64 p.kind, .int .i64 p.priority, .string p.group, .string p.code, .bool p.closes, .slice l.scope.skus.A l.scope.skus.n l.scope.skus.c, .slice l.scope.cats.A l.scope.cats.n l.scope.cats.c, .int .i64 p.least, .int .i64 p.rate, .int .i64 p.amount, .int .i64 p.buy, .int .i64 p.get, .slice l.parts.A l.parts.n l.parts.c, .slice l.tiers.A l.tiers.n l.tiers.c] := by rw [← hW1]; exact Qu.Blk.new w _ _
  obtain ⟨W2, hW2⟩ : ∃ W2, W1.alloc (.cells #[.string ⟨#[]⟩, .int .i64 0, .int .i64 0, .string ⟨#[]⟩, .string ⟨#[]⟩, .bool false, .slice none 0 0, .slice none 0 0, .int .i64 0, .int .i64 0, .int .i64 0, .int .i64 0, .int .i64 0, .slice none 0 0, .slice none 0 0] 28) = W2 := ⟨_, rfl⟩
  have hb2 : Below w.heap.size w W2 := by rw [← hW2]; exact hb1.alloc hb1.size _
  have hs2 : W2.heap.size = w.heap.size + 2 := by rw [← hW2]; simp [hs1]
  have hx2 : Qu.Blk W2 w.heap.size 28 #[.string p.id, .int .i64 p.kind, .int .i64 p.priority, .string p.group, .string p.code, .bool p.closes, .slice l.scope.skus.A l.scope.skus.n l.scope.skus.c, .slice l.scope.cats.A l.scope.cats.n l.scope.cats.c, .int .i64 p.least, .int .i64 p.rate, .int .i64 p.amount, .int .i64 p.buy, .int .i64 p.get, .slice l.parts.A l.parts.n l.parts.c, .slice l.tiers.A l.tiers.n l.tiers.c] := by rw [← hW2]; exact hx1.alloc _
  have hz2 : Qu.Blk W2 (w.heap.size + 1) 28 #[.string ⟨#[]⟩, .int .i64 0, .int .i64 0, .string ⟨#[]⟩, .string ⟨#[]⟩, .bool false, .slice none 0 0, .slice none 0 0, .int .i64 0, .int .i64 0, .int .i64 0, .int .i64 0, .int .i64 0, .slice none 0 0, .slice none 0 0] := by rw [← hW2, ← hs1]; exact Qu.Blk.new W1 _ _
  obtain ⟨W3, hW3⟩ : ∃ W3, W2.alloc (.cells #[.int .i64 1, .int .i64 2, .int .i64 5, .int .i64 6] 3) = W3 := ⟨_, rfl⟩
  have hb3 : Below w.heap.size w W3 := by rw [← hW3]; exact hb2.alloc hb2.size _
  have hs3 : W3.heap.size = w.heap.size + 3 := by rw [← hW3]; simp [hs2]
  have hx3 : Qu.Blk W3 w.heap.size 28 #[.string p.id, .int .i64 p.kind, .int .i64 p.priority, .string p.group, .string p.code, .bool p.closes, .slice l.scope.skus.A l.scope.skus.n l.scope.skus.c, .slice l.scope.cats.A l.scope.cats.n l.scope.cats.c, .int .i64 p.least, .int .i64 p.rate, .int .i64 p.amount, .int .i64 p.buy, .int .i64 p.get, .slice l.parts.A l.parts.n l.parts.c, .slice l.tiers.A l.tiers.n l.tiers.c] := by rw [← hW3]; exact hx2.alloc _
  have hz3 : Qu.Blk W3 (w.heap.size + 1) 28 #[.string ⟨#[]⟩, .int .i64 0, .int .i64 0, .string ⟨#[]⟩, .string ⟨#[]⟩, .bool false, .slice none 0 0, .slice none 0 0, .int .i64 0, .int .i64 0, .int .i64 0, .int .i64 0, .int .i64 0, .slice none 0 0, .slice none 0 0] := by rw [← hW3]; exact hz2.alloc _
  have hi3 : Qu.Blk W3 (w.heap.size + 2) 3 #[.int .i64 1, .int .i64 2, .int .i64 5, .int .i64 6] := by rw [← hW3, ← hs2]; exact Qu.Blk.new W2 _ _
  obtain ⟨W4, hW4⟩ : ∃ W4, W3.setCell ⟨w.heap.size, 1, none⟩ (.int .i64 ks) = W4 := ⟨_, rfl⟩
  have hb4 : Below w.heap.size w W4 := by rw [← hW4]; exact hb3.setCell (Nat.le_refl _) _
  have hs4 : W4.heap.size = w.heap.size + 3 := by rw [← hW4]; simp [World.setCell, hs3]
  have hx4 : Qu.Blk W4 w.heap.size 28 #[.string p.id, .int .i64 ks, .int .i64 p.priority, .string p.group, .string p.code, .bool p.closes, .slice l.scope.skus.A l.scope.skus.n l.scope.skus.c, .slice l.scope.cats.A l.scope.cats.n l.scope.cats.c, .int .i64 p.least, .int .i64 p.rate, .int .i64 p.amount, .int .i64 p.buy, .int .i64 p.get, .slice l.parts.A l.parts.n l.parts.c, .slice l.tiers.A l.tiers.n l.tiers.c] := by rw [← hW4]; exact hx3.put 1 _
  have hz4 : Qu.Blk W4 (w.heap.size + 1) 28 #[.string ⟨#[]⟩, .int .i64 0, .int .i64 0, .string ⟨#[]⟩, .string ⟨#[]⟩, .bool false, .slice none 0 0, .slice none 0 0, .int .i64 0, .int .i64 0, .int .i64 0, .int .i64 0, .int .i64 0, .slice none 0 0, .slice none 0 0] := by rw [← hW4]; exact blk_other hz3 (by omega) _ _
  have hp4 := hSp hk (Pr.holds_later h hb4)
  have HN := near_any (simP p) l W4 hp4.1 hp4.2
  have HN2 : Calls Try.prog 13 #[.agg #[.string p.id, .int .i64 ks, .int .i64 p.priority, .string p.group, .string p.code, .bool p.closes, .slice l.scope.skus.A l.scope.skus.n l.scope.skus.c, .slice l.scope.cats.A l.scope.cats.n l.scope.cats.c, .int .i64 p.least, .int .i64 p.rate, .int .i64 p.amount, .int .i64 p.buy, .int .i64 p.get, .slice l.parts.A l.parts.n l.parts.c, .slice l.tiers.A l.tiers.n l.tiers.c], .int .i64 1] W4 fun e w' => ∃ m : Prm.Lay, MadeP W4 e w' (Py.nearP (simP p) 1) ∧ e = .returned (.agg ((Py.nearP (simP p) 1).enc m).toArray) ∧ Py.Anew W4 w' (Py.nearP (simP p) 1) m := by rw [← hk]; exact HN
  have i3 : W3.cell? ⟨w.heap.size + 1 + 1, r, none⟩ = some (.int .i64 ks) := (hi3.cell r).trans hks
  have x1 := hx3.cell 1
  have xf := hx3.frozen 1
  have HX4 := Lib.hid hx4
  have HZ4 := Lib.hid (And.intro hz4 (And.intro hb4 hs4))
  have HNe := Lib.hid HN2
  have hMo := fun (W : World) => Py.mod_any p.kind 4 W (by omega) (by omega)
  rw [hr] at hMo
  have HMo := Lib.hid (hMo W3)
  obtain ⟨q, hq⟩ : ∃ q, Py.nearP (simP p) 1 = q := ⟨_, rfl⟩
  rw [hq] at HNe ⊢
  have r0 : (0 : Int) ≤ (r : Int) := by omega
  have r1 : (r : Int) < 4 := by omega
  have hw1 := Lib.hid hW1
  have hw2 := Lib.hid hW2
  have hw3 := Lib.hid hW3
  have hw4 := Lib.hid hW4
  clear hp4 HN HN2 hMo hSp hks hkb hk hr hb1 hs1 hx1 hb2 hs2 hx2 hz2 hb3 hs3 hx3 hz3 hi3 hb4 hs4 hx4 hz4 h hS hW1 hW2 hW3 hW4 hq
  go_enter Try.func9, Try.ntmps9
  go_wp2_with fail
  rw [hw1.out, hw2.out, hw3.out]
  refine HMo.out.mono ?_
  rintro e wz ⟨rfl, hw⟩
  obtain rfl := hw.symm
  go_upto_region 2 with (fail)
  rw [hw4.out]
  clear i3 x1 xf hw1 hw2 hw3 hw4
  have y0 := HX4.out.cell 0
  have y1 := HX4.out.cell 1
  have y2 := HX4.out.cell 2
  have y3 := HX4.out.cell 3
  have y4 := HX4.out.cell 4
  have y5 := HX4.out.cell 5
  have y6 := HX4.out.cell 6
  have y7 := HX4.out.cell 7
  have y8 := HX4.out.cell 8
  have y9 := HX4.out.cell 9
  have y10 := HX4.out.cell 10
  have y11 := HX4.out.cell 11
  have y12 := HX4.out.cell 12
  have y13 := HX4.out.cell 13
  have y14 := HX4.out.cell 14
  go_wp2_with fail
  refine HNe.out.mono ?_
  rintro e w5 ⟨m, ⟨m2, he, hmay, hfew, _, hb5⟩, rfl, ha⟩
  have hz5 := HZ4.out.1.below hb5
  have HZ5 := Lib.hid hz5
  have z0 := hz5.cell 0
  have z1 := hz5.cell 1
  have z2 := hz5.cell 2
  have z3 := hz5.cell 3
  have z4 := hz5.cell 4
  have z5 := hz5.cell 5
  have z6 := hz5.cell 6
  have z7 := hz5.cell 7
  have z8 := hz5.cell 8
  have z9 := hz5.cell 9
  have z10 := hz5.cell 10
  have z11 := hz5.cell 11
  have z12 := hz5.cell 12
  have z13 := hz5.cell 13
  have z14 := hz5.cell 14
  have zf := hz5.frozen
  obtain ⟨W6, hW6⟩ : ∃ W6, (((((((((((((((w5.setCell ⟨w.heap.size + 1, 0, none⟩ (.string q.id)).setCell ⟨w.heap.size + 1, 1, none⟩ (.int .i64 q.kind)).setCell ⟨w.heap.size + 1, 2, none⟩ (.int .i64 q.priority)).setCell ⟨w.heap.size + 1, 3, none⟩ (.string q.group)).setCell ⟨w.heap.size + 1, 4, none⟩ (.string q.code)).setCell ⟨w.heap.size + 1, 5, none⟩ (.bool q.closes)).setCell ⟨w.heap.size + 1, 6, none⟩ (.slice m.scope.skus.A m.scope.skus.n m.scope.skus.c)).setCell ⟨w.heap.size + 1, 7, none⟩ (.slice m.scope.cats.A m.scope.cats.n m.scope.cats.c)).setCell ⟨w.heap.size + 1, 8, none⟩ (.int .i64 q.least)).setCell ⟨w.heap.size + 1, 9, none⟩ (.int .i64 q.rate)).setCell ⟨w.heap.size + 1, 10, none⟩ (.int .i64 q.amount)).setCell ⟨w.heap.size + 1, 11, none⟩ (.int .i64 q.buy)).setCell ⟨w.heap.size + 1, 12, none⟩ (.int .i64 q.get)).setCell ⟨w.heap.size + 1, 13, none⟩ (.slice m.parts.A m.parts.n m.parts.c)).setCell ⟨w.heap.size + 1, 14, none⟩ (.slice m.tiers.A m.tiers.n m.tiers.c)) = W6 := ⟨_, rfl⟩
  have hblk : Qu.Blk W6 (w.heap.size + 1) 28 #[.string q.id, .int .i64 q.kind, .int .i64 q.priority, .string q.group, .string q.code, .bool q.closes, .slice m.scope.skus.A m.scope.skus.n m.scope.skus.c, .slice m.scope.cats.A m.scope.cats.n m.scope.cats.c, .int .i64 q.least, .int .i64 q.rate, .int .i64 q.amount, .int .i64 q.buy, .int .i64 q.get, .slice m.parts.A m.parts.n m.parts.c, .slice m.tiers.A m.tiers.n m.tiers.c] := by
    rw [← hW6]
    exact Kd.blk_puts (q.enc m) w5 0 _ hz5
  have ho : Mv.Only w5 W6 (Mv.one (w.heap.size + 1)) := by rw [← hW6]; exact Py.only_puts (q.enc m) w5 0 (Mv.Only.refl w5 _)
  have hbel : Below w.heap.size w W6 := by rw [← hW6]; exact Kd.below_puts (by omega) (q.enc m) w5 0 (HZ4.out.2.1.trans (hb5.mono HZ4.out.2.1.size))
  have HFin : Hid (MadeN w (.returned (.agg #[.string q.id, .int .i64 q.kind, .int .i64 q.priority, .string q.group, .string q.code, .bool q.closes, .slice m.scope.skus.A m.scope.skus.n m.scope.skus.c, .slice m.scope.cats.A m.scope.cats.n m.scope.cats.c, .int .i64 q.least, .int .i64 q.rate, .int .i64 q.amount, .int .i64 q.buy, .int .i64 q.get, .slice m.parts.A m.parts.n m.parts.c, .slice m.tiers.A m.tiers.n m.tiers.c])) W6 q) := Lib.hid ⟨m, rfl, hmay, hfew, anew_turn ha (by have := HZ4.out.2.2; omega) ho hbel (by have := HZ4.out.2.2; omega)⟩
  have HBl := Lib.hid hblk
  have hw6 := Lib.hid hW6
  clear he hmay hfew hb5 ha hz5 hblk ho hbel hW6 HNe HX4
  unfold Ap.Prm.enc
  go_wp2_with fail
  rw [hw6.out]
  refine bodyPost_ret (Py.results_promo rfl _ _ (w.heap.size + 1) _ rfl HBl.out rfl rfl) rfl ?_
  exact HFin.out
theorem holds_only {w W u : World} {p : Prm} {l : Prm.Lay} (h : Ap.Prm.Holds W (· < w.heap.size) p l) (hs : w.heap.size < W.heap.size) (ho : Mv.Only W u (Mv.one w.heap.size)) : Ap.Prm.Holds u (· < u.heap.size) p l := by
  have ag : Kd.Agree (· < w.heap.size) W u := fun b hb => ho.block b (by omega) fun e => by have : b = w.heap.size := e; omega
  have hm : ∀ b, b < w.heap.size → b < u.heap.size := fun b hb => by have := ho.size; omega
  exact ⟨h.id, h.kind, h.priority, h.group, h.code, ⟨⟨(h.scope.skus.row.stay ag).more hm, h.scope.skus.fit⟩, ⟨(h.scope.cats.row.stay ag).more hm, h.scope.cats.fit⟩⟩, h.least, h.rate, h.amount, h.buy, h.get, ⟨(h.parts.row.stay ag).more hm, h.parts.fit⟩, ⟨(h.tiers.row.stay ag).more hm, h.tiers.fit⟩⟩
abbrev Out1 (w W : World) : Nat → Prop := fun b => b < W.heap.size ∧ b ≠ w.heap.size
structure Turned (w Wn : World) (A : Option Addr) (k c : Nat) (vs : List Unt) (q : Prm) (m : Prm.Lay) : Prop where
  row : Row kUnt Wn (Out1 w Wn) A k vs
  fit : Kd.Fit A k c
  blk : Qu.Blk Wn w.heap.size 28 #[.string q.id, .int .i64 q.kind, .int .i64 q.priority, .string q.group, .string q.code, .bool q.closes, .slice m.scope.skus.A m.scope.skus.n m.scope.skus.c, .slice m.scope.cats.A m.scope.cats.n m.scope.cats.c, .int .i64 q.least, .int .i64 q.rate, .int .i64 q.amount, .int .i64 q.buy, .int .i64 q.get, .slice m.parts.A m.parts.n m.parts.c, .slice m.tiers.A m.tiers.n m.tiers.c]
  holds : Ap.Prm.Holds Wn (Out1 w Wn) q m
  below : Below w.heap.size w Wn
theorem out_row {α : Type} {K : Kd.Kind α} {w wl : World} {B E n c : Nat} {A : Option Addr} {xs : List α} (h : Kd.Own K wl B E (fun _ => False) (.slice A n c) n xs) (hB : w.heap.size < B) : Row K wl (Out1 w wl) A n xs :=
  (h.more (G := Out1 w wl) fun _ h => h.elim).row fun g hg => ⟨(h.low g hg).2, by have := (h.low g hg).1; omega⟩
theorem out_lst {α : Type} {K : Kd.Kind α} {w wl : World} {B E n c : Nat} {A : Option Addr} {xs : List α} (h : Kd.Own K wl B E (fun _ => False) (.slice A n c) n xs) (hB : w.heap.size < B) : Kd.Lst K wl (Out1 w wl) ⟨A, n, c⟩ xs := ⟨out_row h hB, h.fit⟩
theorem turned_in {w wc wl Wn : World} {B : Nat} {A : Option Addr} {k c : Nat} {vs : List Unt} {q : Prm} {m : Prm.Lay} {cs : Array Value} (hou : Kd.Own kUnt wl B 41 (fun _ => False) (.slice A k c) k vs) (hB : w.heap.size < B) (ha : Py.Anew wc wl q m) (hc : w.heap.size < wc.heap.size) (hz : Qu.Blk wl w.heap.size 28 cs) (hcs : ∃ a b c d e f g h i j k l m n o, cs = #[a, b, c, d, e, f, g, h, i, j, k, l, m, n, o]) (hb : Below w.heap.size w wl) (e : wl.setCells w.heap.size 0 (q.enc m) = Wn) : Turned w Wn A k c vs q m := by
  have ho : Mv.Only wl Wn (Mv.one w.heap.size) := by rw [← e]; exact Py.only_puts (q.enc m) wl 0 (Mv.Only.refl wl _)
  obtain ⟨a1, a2, a3, a4, a5, a6, a7, a8, a9, a10, a11, a12, a13, a14, a15, rfl⟩ := hcs
  have hbk : Qu.Blk Wn w.heap.size 28 #[.string q.id, .int .i64 q.kind, .int .i64 q.priority, .string q.group, .string q.code, .bool q.closes, .slice m.scope.skus.A m.scope.skus.n m.scope.skus.c, .slice m.scope.cats.A m.scope.cats.n m.scope.cats.c, .int .i64 q.least, .int .i64 q.rate, .int .i64 q.amount, .int .i64 q.buy, .int .i64 q.get, .slice m.parts.A m.parts.n m.parts.c, .slice m.tiers.A m.tiers.n m.tiers.c] := by rw [← e]; exact Kd.blk_puts (q.enc m) wl 0 _ hz
  have hf := Py.own_far hou ho fun b hb e => by have := (hou.low b hb).1; have : b = w.heap.size := e; omega
  have hbel : Below w.heap.size w Wn := by rw [← e]; exact Kd.below_puts (Nat.le_refl _) (q.enc m) wl 0 hb
  have n1 : ∀ b, (Value.slice m.scope.skus.A m.scope.skus.n m.scope.skus.c).ownBlock = some b → ¬ Mv.one w.heap.size b := fun b hb e => by have := (ha.skus.low b hb).1; have : b = w.heap.size := e; omega
  have n2 : ∀ b, (Value.slice m.scope.cats.A m.scope.cats.n m.scope.cats.c).ownBlock = some b → ¬ Mv.one w.heap.size b := fun b hb e => by have := (ha.cats.low b hb).1; have : b = w.heap.size := e; omega
  have n3 : ∀ b, (Value.slice m.tiers.A m.tiers.n m.tiers.c).ownBlock = some b → ¬ Mv.one w.heap.size b := fun b hb e => by have := (ha.tiers.low b hb).1; have : b = w.heap.size := e; omega
  have n4 : ∀ b, (Value.slice m.parts.A m.parts.n m.parts.c).ownBlock = some b → ¬ Mv.one w.heap.size b := fun b hb e => by have := (ha.parts.low b hb).1; have : b = w.heap.size := e; omega
  have hsz := ho.size
  have hh := ha.holds
  have p4 := (ha.parts.stay (fun b hb => ho.block b hb.1.1 fun e => by have : b = w.heap.size := e; have := hb.2.1; omega) fun b hb => ho.block b (ha.parts.low b hb).2 (n4 b hb)).more (G := Out1 w Wn) fun b hb => ⟨Nat.lt_of_lt_of_le hb.1.1 hsz, by have := hb.2.1; omega⟩
  have s4 : Kd.Lst kPrt Wn (Out1 w Wn) m.parts q.parts := ⟨p4.row fun g hg => ⟨(p4.low g hg).2, by have := (p4.low g hg).1; omega⟩, ha.parts.fit⟩
  exact ⟨out_row hf hB, hf.fit, hbk, ⟨hh.id, hh.kind, hh.priority, hh.group, hh.code, ⟨out_lst (Py.own_far ha.skus ho n1) hc, out_lst (Py.own_far ha.cats ho n2) hc⟩, hh.least, hh.rate, hh.amount, hh.buy, hh.get, s4, out_lst (Py.own_far ha.tiers ho n3) hc⟩, hbel⟩
theorem Turned.on {w Wn W : World} {A : Option Addr} {k c : Nat} {vs : List Unt} {q : Prm} {m : Prm.Lay} (h : Turned w Wn A k c vs q m) (hb : Below Wn.heap.size Wn W) : Turned w W A k c vs q m := by
  have ag : Kd.Agree (Out1 w Wn) Wn W := fun b hb2 => hb.block b hb2.1
  have hm : ∀ b, Out1 w Wn b → Out1 w W b := fun b hb2 => ⟨Nat.lt_of_lt_of_le hb2.1 hb.size, hb2.2⟩
  have hh := h.holds
  exact ⟨(h.row.stay ag).more hm, h.fit, h.blk.below hb, ⟨hh.id, hh.kind, hh.priority, hh.group, hh.code, ⟨(hh.scope.skus.stay ag).more hm, (hh.scope.cats.stay ag).more hm⟩, hh.least, hh.rate, hh.amount, hh.buy, hh.get, (hh.parts.stay ag).more hm, (hh.tiers.stay ag).more hm⟩, h.below.trans (hb.mono h.below.size)⟩
theorem Turned.urow {w Wn : World} {A : Option Addr} {k c : Nat} {vs : List Unt} {q : Prm} {m : Prm.Lay} (h : Turned w Wn A k c vs q m) : Row kUnt Wn (· < Wn.heap.size) A k vs := h.row.more fun _ hb => hb.1
theorem Turned.all {w Wn : World} {A : Option Addr} {k c : Nat} {vs : List Unt} {q : Prm} {m : Prm.Lay} (h : Turned w Wn A k c vs q m) : Ap.Prm.Holds Wn (· < Wn.heap.size) q m :=
  ⟨h.holds.id, h.holds.kind, h.holds.priority, h.holds.group, h.holds.code, ⟨h.holds.scope.skus.more fun _ hb => hb.1, h.holds.scope.cats.more fun _ hb => hb.1⟩, h.holds.least, h.holds.rate, h.holds.amount, h.holds.buy, h.holds.get, h.holds.parts.more fun _ hb => hb.1, h.holds.tiers.more fun _ hb => hb.1⟩
theorem holds_in {w W : World} {p : Prm} {l : Prm.Lay} (h : Ap.Prm.Holds w (· < w.heap.size) p l) (hb : Below w.heap.size w W) : Ap.Prm.Holds W (· < w.heap.size) p l :=
  ⟨h.id, h.kind, h.priority, h.group, h.code, ⟨h.scope.skus.below hb (Nat.le_refl _), h.scope.cats.below hb (Nat.le_refl _)⟩, h.least, h.rate, h.amount, h.buy, h.get, h.parts.below hb (Nat.le_refl _), h.tiers.below hb (Nat.le_refl _)⟩
end Go.Proofs.Ytacmoanhbkipfaa.Ct

end

section
set_option maxRecDepth 100000
set_option linter.unusedVariables false
namespace Go.Proofs.Ytacmoanhbkipfaa.Ct
open Go.ChangeShapes Go.WideShapes Go.ChangeAt Go.RowKit
open Ap (Unt Tir Prm kUnt kTir row_Unt row_Tir)
open Kd (Kind Row kInt row_int)
open Ko (Out Told Told2 At row_on)
structure KeepU (vs ys : List Unt) (ps : List Int) (cl : Bool) (z : Int) : Prop where
  len : ys.length = vs.length
  each : ∀ (i : Nat) (u : Unt), vs[i]? = some u → ∃ v, ys[i]? = some v ∧ v.line = u.line ∧ (0 ≤ v.net ∧ v.net ≤ u.net) ∧ (inI ps (i : Int) = false → v = u) ∧ (inI ps (i : Int) = true → u.opn = true ∧ v.opn = !(cl && decide (0 < z)))
  sum : nsum ys = nsum vs - z
  pos : 0 ≤ z
theorem keep_u {p : Prm} {vs : List Unt} {ps : List Int} (hp : Pr.promoB p = true) (hm : May vs ps) : KeepU vs (applyU p vs ps).1 ps p.closes (applyU p vs ps).2 := by
  have hn := nets_ok hm
  have hfine := offs_fine hp hn
  have hfs := fine_sums hn hfine
  have hxl : (netsL vs ps).length = ps.length := by unfold netsL; rw [List.length_map]
  have hin := hm.places.in_
  have hsum0 : 0 ≤ sumL (offsL p (netsL vs ps)) := by
    have h0 : ∀ (k : Nat) (x : Int), (offsL p (netsL vs ps))[k]? = some x → 0 ≤ x := fun k x hk => by
      rcases hfine with h1 | h1
      · have hl : k < (netsL vs ps).length := by rw [← h1.1]; exact (List.getElem?_eq_some_iff.1 hk).1
        exact (h1.2 k x _ hk (List.getElem?_eq_getElem hl)).1
      · rw [h1] at hk; simp at hk
    have := (sum_part h0 (offsL p (netsL vs ps)).length).1
    rw [List.take_length] at this
    exact this
  have e : applyU p vs ps = lessU vs ps (offsL p (netsL vs ps)) p.closes := by unfold applyU; rw [hp, mayB_yes hm, if_pos (show (true && true) = true from rfl)]
  rw [e]
  refine ⟨less_length _ _ _ _, fun i u hu => ?_, less_sum hm.places.far hin (by rw [← hxl]; exact hfs.2) p.closes, ?_⟩
  · by_cases hs : sumL (offsL p (netsL vs ps)) = 0
    · have e2 : lessU vs ps (offsL p (netsL vs ps)) p.closes = (vs, 0) := by unfold lessU; rw [if_pos hs]
      rw [e2]
      refine ⟨u, hu, rfl, ⟨hm.units.nets i u hu, Int.le_refl _⟩, fun _ => rfl, fun h => ?_⟩
      unfold inI at h
      rw [List.contains_iff_mem] at h
      obtain ⟨j, hj, ej⟩ := List.mem_iff_getElem.1 h
      obtain ⟨_, u2, hu2, ho⟩ := hm.places.at_ j (i : Int) (by rw [List.getElem?_eq_getElem hj, ej])
      rw [Int.toNat_natCast, hu] at hu2
      injection hu2 with hu2
      subst hu2
      exact ⟨ho, by rw [ho]; simp⟩
    · have e2 : (lessU vs ps (offsL p (netsL vs ps)) p.closes).2 = sumL (offsL p (netsL vs ps)) := by unfold lessU; rw [if_neg hs]
      have hof : OffsFine (netsL vs ps) (offsL p (netsL vs ps)) := by
        rcases hfine with h1 | h1
        · exact h1
        · exact absurd (by rw [h1]; rfl) hs
      cases hb : inI ps (i : Int) with
      | false =>
        have hno : ∀ (j : Nat) (m : Int), ps[j]? = some m → m.toNat ≠ i := fun j m hj e3 => by
          have h1 := (hin j m hj).1
          have : inI ps (i : Int) = true := by
            unfold inI
            rw [List.contains_iff_mem]
            have e4 : m = (i : Int) := by omega
            rw [← e4]
            exact List.mem_of_getElem? hj
          rw [hb] at this; cases this
        exact ⟨u, by rw [less_other (by rw [← hxl]; exact hfs.2) p.closes hno]; exact hu, rfl, ⟨hm.units.nets i u hu, Int.le_refl _⟩, fun _ => rfl, fun h => (by cases h)⟩
      | true =>
        have h := hb
        unfold inI at h
        rw [List.contains_iff_mem] at h
        obtain ⟨j, hj, ej⟩ := List.mem_iff_getElem.1 h
        have hj2 : ps[j]? = some (i : Int) := by rw [List.getElem?_eq_getElem hj, ej]
        obtain ⟨_, u2, hu2, ho⟩ := hm.places.at_ j (i : Int) hj2
        rw [Int.toNat_natCast, hu] at hu2
        injection hu2 with hu2
        subst hu2
        have hmine := less_mine hm.places.far (by rw [hof.1, hxl]) p.closes hj2 (by rw [Int.toNat_natCast]; exact hu) hs
        rw [Int.toNat_natCast] at hmine
        have hx : (netsL vs ps)[j]? = some u.net := by
          unfold netsL
          rw [List.getElem?_map, hj2]
          show some (netAt vs (i : Int)) = _
          unfold netAt
          rw [Int.toNat_natCast, hu]
        have hoj : j < (offsL p (netsL vs ps)).length := by rw [hof.1, hxl]; exact hj
        have ho2 := List.getElem?_eq_getElem hoj
        have hb2 := hof.2 j _ _ ho2 hx
        rw [nth_some ho2] at hmine
        have hz : (0 < sumL (offsL p (netsL vs ps))) := by omega
        refine ⟨_, hmine, rfl, ⟨by show 0 ≤ u.net - _; omega, by show u.net - _ ≤ u.net; omega⟩, fun h => (by cases h), fun _ => ⟨ho, ?_⟩⟩
        rw [e2]
        show (u.opn && !p.closes) = !(p.closes && decide (0 < _))
        rw [ho]
        simp [hz]
  · by_cases hs : sumL (offsL p (netsL vs ps)) = 0
    · unfold lessU; rw [if_pos hs]; exact Int.le_refl 0
    · unfold lessU; rw [if_neg hs]; exact hsum0
end Go.Proofs.Ytacmoanhbkipfaa.Ct

end
