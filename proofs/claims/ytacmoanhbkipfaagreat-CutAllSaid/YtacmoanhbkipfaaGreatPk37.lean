/- Law 15's simple (made by gen-cut15.py). -/
import Derived.Deep.CutBlock
import Derived.Deep.DeepCutAuto
import Derived.Test.YtacmoanhbkipfaaGreatPk27
import Derived.Test.YtacmoanhbkipfaaGreatPk36

set_option maxRecDepth 100000
set_option linter.unusedVariables false
namespace Go.Proofs.YtacmoanhbkipfaaGreat.Ct
open Go.ChangeShapes Go.WideShapes Go.ChangeAt Go.RowKit
open Ap (Unt Tir Prm kUnt kTir row_Unt row_Tir)
open Kd (Kind Row kInt row_int)
open Ko (Out Told Told2 At row_on)
theorem anew_put {wc w' W' : World} {q : Prm} {m : Prm.Lay} {g : Nat} (h : Py.Anew wc w' q m) (hg : g < wc.heap.size) (ho : Mv.Only w' W' (Mv.one g)) : Ap.Prm.Holds W' (· < W'.heap.size) q m := by
  have n1 : ∀ b, (Value.slice m.scope.skus.A m.scope.skus.n m.scope.skus.c).ownBlock = some b → ¬ Mv.one g b := fun b hb e => by have := (h.skus.low b hb).1; have : b = g := e; omega
  have n2 : ∀ b, (Value.slice m.scope.cats.A m.scope.cats.n m.scope.cats.c).ownBlock = some b → ¬ Mv.one g b := fun b hb e => by have := (h.cats.low b hb).1; have : b = g := e; omega
  have n3 : ∀ b, (Value.slice m.tiers.A m.tiers.n m.tiers.c).ownBlock = some b → ¬ Mv.one g b := fun b hb e => by have := (h.tiers.low b hb).1; have : b = g := e; omega
  have n4 : ∀ b, (Value.slice m.parts.A m.parts.n m.parts.c).ownBlock = some b → ¬ Mv.one g b := fun b hb e => by have := (h.parts.low b hb).1; have : b = g := e; omega
  have s1 := Py.own_far h.skus ho n1
  have s2 := Py.own_far h.cats ho n2
  have s3 := Py.own_far h.tiers ho n3
  have hsz := ho.size
  have s4 := (h.parts.stay (fun b hb => ho.block b hb.1.1 fun e => by have : b = g := e; have := hb.2.1; omega) fun b hb => ho.block b (h.parts.low b hb).2 (n4 b hb)).more (G := Kd.But W' (.slice m.parts.A m.parts.n m.parts.c)) fun b hb => ⟨Nat.lt_of_lt_of_le hb.1.1 hsz, hb.1.2⟩
  have hh := h.holds
  exact ⟨hh.id, hh.kind, hh.priority, hh.group, hh.code, ⟨⟨s1.read, s1.fit⟩, ⟨s2.read, s2.fit⟩⟩, hh.least, hh.rate, hh.amount, hh.buy, hh.get, Kd.Deep.lst s4, ⟨s3.read, s3.fit⟩⟩
def kindS (p : Prm) : Int := match Py.modN p.kind 4 with
  | 0 => 1
  | 1 => 2
  | 2 => 5
  | _ => 6
def simP (p : Prm) : Prm := ⟨p.id, kindS p, p.priority, p.group, p.code, p.closes, p.scope, p.least, p.rate, p.amount, p.buy, p.get, p.parts, p.tiers⟩
def MadeP (w : World) (e : Ending) (w' : World) (q : Prm) : Prop := ∃ m : Prm.Lay, e = .returned (.agg #[.string q.id, .int .i64 q.kind, .int .i64 q.priority, .string q.group, .string q.code, .bool q.closes, .slice m.scope.skus.A m.scope.skus.n m.scope.skus.c, .slice m.scope.cats.A m.scope.cats.n m.scope.cats.c, .int .i64 q.least, .int .i64 q.rate, .int .i64 q.amount, .int .i64 q.buy, .int .i64 q.get, .slice m.parts.A m.parts.n m.parts.c, .slice m.tiers.A m.tiers.n m.tiers.c]) ∧ Pr.promoB q = true ∧ (q.scope.skus.length ≤ 8 ∧ q.scope.cats.length ≤ 8 ∧ q.tiers.length ≤ 6 ∧ q.parts.length ≤ 3) ∧ Ap.Prm.Holds w' (· < w'.heap.size) q m ∧ Below w.heap.size w w'
theorem near_any (p : Prm) (l : Prm.Lay) (w : World) (h : Ap.Prm.Holds w (· < w.heap.size) p l) (hS : Pr.PrmSmall p l) :
    Calls Tryz.prog 20 #[.agg #[.string p.id, .int .i64 p.kind, .int .i64 p.priority, .string p.group, .string p.code, .bool p.closes, .slice l.scope.skus.A l.scope.skus.n l.scope.skus.c, .slice l.scope.cats.A l.scope.cats.n l.scope.cats.c, .int .i64 p.least, .int .i64 p.rate, .int .i64 p.amount, .int .i64 p.buy, .int .i64 p.get, .slice l.parts.A l.parts.n l.parts.c, .slice l.tiers.A l.tiers.n l.tiers.c], .int .i64 1] w fun e w' => ∃ m : Prm.Lay, MadeP w e w' (Py.nearP p 1) ∧ e = .returned (.agg ((Py.nearP p 1).enc m).toArray) ∧ Py.Anew w w' (Py.nearP p 1) m := by
  have h1 := Py.promo_near p l 1 w h hS
  rw [show Py.modN 1 10 = 1 from Py.modN_num 1 10 (by omega) (by omega)] at h1
  refine h1.mono ?_
  rintro e w' ⟨m, rfl, hm, _, hf, ha⟩
  exact ⟨m, ⟨m, rfl, hm, ⟨hf.1, hf.2.1, hf.2.2.1, hf.2.2.2.1⟩, ha.holds, ha.below⟩, rfl, ha⟩
theorem kinds_at (p : Prm) : (#[.int .i64 1, .int .i64 2, .int .i64 5, .int .i64 6] : Array Value)[Py.modN p.kind 4]? = some (.int .i64 (kindS p)) := by
  have h := Py.modN_lt p.kind 4 (by omega)
  unfold kindS
  match Py.modN p.kind 4, h with
  | 0, _ => rfl
  | 1, _ => rfl
  | 2, _ => rfl
  | 3, _ => rfl
  | k + 4, h => omega
set_option maxHeartbeats 2000000 in
theorem simple_any (p : Prm) (l : Prm.Lay) (w : World) (h : Ap.Prm.Holds w (· < w.heap.size) p l) (hS : Pr.PrmSmall p l) :
    Calls Tryz.prog 19 #[.agg #[.string p.id, .int .i64 p.kind, .int .i64 p.priority, .string p.group, .string p.code, .bool p.closes, .slice l.scope.skus.A l.scope.skus.n l.scope.skus.c, .slice l.scope.cats.A l.scope.cats.n l.scope.cats.c, .int .i64 p.least, .int .i64 p.rate, .int .i64 p.amount, .int .i64 p.buy, .int .i64 p.get, .slice l.parts.A l.parts.n l.parts.c, .slice l.tiers.A l.tiers.n l.tiers.c]] w fun e w' => MadeP w e w' (Py.nearP (simP p) 1) := by
  obtain ⟨r, hr⟩ : ∃ r, Py.modN p.kind 4 = r := ⟨_, rfl⟩
  have hr4 : r < 4 := by have := Py.modN_lt p.kind 4 (by omega); omega
  have hks := kinds_at p
  rw [hr] at hks
  have hkb : -9223372036854775808 ≤ kindS p ∧ kindS p ≤ 9223372036854775807 := by
    unfold kindS
    split <;> omega
  have hSp : ∀ {W : World} {ks : Int}, kindS p = ks → Ap.Prm.Holds W (· < W.heap.size) p l → Ap.Prm.Holds W (· < W.heap.size) (simP p) l ∧ Pr.PrmSmall (simP p) l := fun e hh => ⟨⟨hh.id, hkb, hh.priority, hh.group, hh.code, hh.scope, hh.least, hh.rate, hh.amount, hh.buy, hh.get, hh.parts, hh.tiers⟩, ⟨hS.scope, hS.parts, hS.np, hS.nt, hS.few⟩⟩
  obtain ⟨ks, hk⟩ : ∃ ks, kindS p = ks := ⟨_, rfl⟩
  rw [hk] at hks
  obtain ⟨W1, hW1⟩ : ∃ W1, w.alloc (.cells #[.string p.id, .int .i64 p.kind, .int .i64 p.priority, .string p.group, .string p.code, .bool p.closes, .slice l.scope.skus.A l.scope.skus.n l.scope.skus.c, .slice l.scope.cats.A l.scope.cats.n l.scope.cats.c, .int .i64 p.least, .int .i64 p.rate, .int .i64 p.amount, .int .i64 p.buy, .int .i64 p.get, .slice l.parts.A l.parts.n l.parts.c, .slice l.tiers.A l.tiers.n l.tiers.c] 28) = W1 := ⟨_, rfl⟩
  have hb1 : Below w.heap.size w W1 := by rw [← hW1]; exact (Below.refl _ _).alloc (Nat.le_refl _) _
  have hs1 : W1.heap.size = w.heap.size + 1 := by rw [← hW1]; simp
  have hx1 : Qu.Blk W1 w.heap.size 28 #[.string p.id, .int .i64 p.kind, .int .i64 p.priority, .string p.group, .string p.code, .bool p.closes, .slice l.scope.skus.A l.scope.skus.n l.scope.skus.c, .slice l.scope.cats.A l.scope.cats.n l.scope.cats.c, .int .i64 p.least, .int .i64 p.rate, .int .i64 p.amount, .int .i64 p.buy, .int .i64 p.get, .slice l.parts.A l.parts.n l.parts.c, .slice l.tiers.A l.tiers.n l.tiers.c] := by rw [← hW1]; exact Qu.Blk.new w _ _
  obtain ⟨W2, hW2⟩ : ∃ W2, W1.alloc (.cells #[.string ⟨#[]⟩, .int .i64 0, .int .i64 0, .string ⟨#[]⟩, .string ⟨#[]⟩, .bool false, .slice none 0 0, .slice none 0 0, .int .i64 0, .int .i64 0, .int .i64 0, .int .i64 0, .int .i64 0, .slice none 0 0, .slice none 0 0] 28) = W2 := ⟨_, rfl⟩
  have hb2 : Below w.heap.size w W2 := by rw [← hW2]; exact hb1.alloc hb1.size _
  have hs2 : W2.heap.size = w.heap.size + 2 := by rw [← hW2]; simp [hs1]
  have hx2 : Qu.Blk W2 w.heap.size 28 #[.string p.id, .int .i64 p.kind, .int .i64 p.priority, .string p.group, .string p.code, .bool p.closes, .slice l.scope.skus.A l.scope.skus.n l.scope.skus.c, .slice l.scope.cats.A l.scope.cats.n l.scope.cats.c, .int .i64 p.least, .int .i64 p.rate, .int .i64 p.amount, .int .i64 p.buy, .int .i64 p.get, .slice l.parts.A l.parts.n l.parts.c, .slice l.tiers.A l.tiers.n l.tiers.c] := by rw [← hW2]; exact hx1.alloc _
  have hz2 : Qu.Blk W2 (w.heap.size + 1) 28 #[.string ⟨#[]⟩, .int .i64 0, .int .i64 0, .string ⟨#[]⟩, .string ⟨#[]⟩, .bool false, .slice none 0 0, .slice none 0 0, .int .i64 0, .int .i64 0, .int .i64 0, .int .i64 0, .int .i64 0, .slice none 0 0, .slice none 0 0] := by rw [← hW2, ← hs1]; exact Qu.Blk.new W1 _ _
  obtain ⟨W3, hW3⟩ : ∃ W3, W2.alloc (.cells #[.int .i64 1, .int .i64 2, .int .i64 5, .int .i64 6] 3) = W3 := ⟨_, rfl⟩
  have hb3 : Below w.heap.size w W3 := by rw [← hW3]; exact hb2.alloc hb2.size _
  have hs3 : W3.heap.size = w.heap.size + 3 := by rw [← hW3]; simp [hs2]
  have hx3 : Qu.Blk W3 w.heap.size 28 #[.string p.id, .int .i64 p.kind, .int .i64 p.priority, .string p.group, .string p.code, .bool p.closes, .slice l.scope.skus.A l.scope.skus.n l.scope.skus.c, .slice l.scope.cats.A l.scope.cats.n l.scope.cats.c, .int .i64 p.least, .int .i64 p.rate, .int .i64 p.amount, .int .i64 p.buy, .int .i64 p.get, .slice l.parts.A l.parts.n l.parts.c, .slice l.tiers.A l.tiers.n l.tiers.c] := by rw [← hW3]; exact hx2.alloc _
  have hz3 : Qu.Blk W3 (w.heap.size + 1) 28 #[.string ⟨#[]⟩, .int .i64 0, .int .i64 0, .string ⟨#[]⟩, .string ⟨#[]⟩, .bool false, .slice none 0 0, .slice none 0 0, .int .i64 0, .int .i64 0, .int .i64 0, .int .i64 0, .int .i64 0, .slice none 0 0, .slice none 0 0] := by rw [← hW3]; exact hz2.alloc _
  have hi3 : Qu.Blk W3 (w.heap.size + 2) 3 #[.int .i64 1, .int .i64 2, .int .i64 5, .int .i64 6] := by rw [← hW3, ← hs2]; exact Qu.Blk.new W2 _ _
  obtain ⟨W4, hW4⟩ : ∃ W4, W3.setCell ⟨w.heap.size, 1, none⟩ (.int .i64 ks) = W4 := ⟨_, rfl⟩
  have hb4 : Below w.heap.size w W4 := by rw [← hW4]; exact hb3.setCell (Nat.le_refl _) _
  have hs4 : W4.heap.size = w.heap.size + 3 := by rw [← hW4]; simp [World.setCell, hs3]
  have hx4 : Qu.Blk W4 w.heap.size 28 #[.string p.id, .int .i64 ks, .int .i64 p.priority, .string p.group, .string p.code, .bool p.closes, .slice l.scope.skus.A l.scope.skus.n l.scope.skus.c, .slice l.scope.cats.A l.scope.cats.n l.scope.cats.c, .int .i64 p.least, .int .i64 p.rate, .int .i64 p.amount, .int .i64 p.buy, .int .i64 p.get, .slice l.parts.A l.parts.n l.parts.c, .slice l.tiers.A l.tiers.n l.tiers.c] := by rw [← hW4]; exact hx3.put 1 _
  have hz4 : Qu.Blk W4 (w.heap.size + 1) 28 #[.string ⟨#[]⟩, .int .i64 0, .int .i64 0, .string ⟨#[]⟩, .string ⟨#[]⟩, .bool false, .slice none 0 0, .slice none 0 0, .int .i64 0, .int .i64 0, .int .i64 0, .int .i64 0, .int .i64 0, .slice none 0 0, .slice none 0 0] := by rw [← hW4]; exact blk_other hz3 (by omega) _ _
  have hp4 := hSp hk (Pr.holds_later h hb4)
  have HN := near_any (simP p) l W4 hp4.1 hp4.2
  have HN2 : Calls Tryz.prog 20 #[.agg #[.string p.id, .int .i64 ks, .int .i64 p.priority, .string p.group, .string p.code, .bool p.closes, .slice l.scope.skus.A l.scope.skus.n l.scope.skus.c, .slice l.scope.cats.A l.scope.cats.n l.scope.cats.c, .int .i64 p.least, .int .i64 p.rate, .int .i64 p.amount, .int .i64 p.buy, .int .i64 p.get, .slice l.parts.A l.parts.n l.parts.c, .slice l.tiers.A l.tiers.n l.tiers.c], .int .i64 1] W4 fun e w' => ∃ m : Prm.Lay, MadeP W4 e w' (Py.nearP (simP p) 1) ∧ e = .returned (.agg ((Py.nearP (simP p) 1).enc m).toArray) ∧ Py.Anew W4 w' (Py.nearP (simP p) 1) m := by rw [← hk]; exact HN
  have i3 : W3.cell? ⟨w.heap.size + 1 + 1, r, none⟩ = some (.int .i64 ks) := (hi3.cell r).trans hks
  have x1 := hx3.cell 1
  have xf := hx3.frozen 1
  have HX4 := Lib.hid hx4
  have HZ4 := Lib.hid (And.intro hz4 (And.intro hb4 hs4))
  have HNe := Lib.hid HN2
  have hMo := fun (W : World) => Py.mod_any p.kind 4 W (by omega) (by omega)
  rw [hr] at hMo
  have HMo := Lib.hid (hMo W3)
  obtain ⟨q, hq⟩ : ∃ q, Py.nearP (simP p) 1 = q := ⟨_, rfl⟩
  rw [hq] at HNe ⊢
  have r0 : (0 : Int) ≤ (r : Int) := by omega
  have r1 : (r : Int) < 4 := by omega
  have hw1 := Lib.hid hW1
  have hw2 := Lib.hid hW2
  have hw3 := Lib.hid hW3
  have hw4 := Lib.hid hW4
  clear hp4 HN HN2 hMo hSp hks hkb hk hr hb1 hs1 hx1 hb2 hs2 hx2 hz2 hb3 hs3 hx3 hz3 hi3 hb4 hs4 hx4 hz4 h hS hW1 hW2 hW3 hW4 hq
  go_enter Tryz.func19, Tryz.ntmps19
  go_wp2_with fail
  rw [hw1.out, hw2.out, hw3.out]
  refine HMo.out.mono ?_
  rintro e wz ⟨rfl, hw⟩
  obtain rfl := hw.symm
  go_upto_region 2 with (fail)
  rw [hw4.out]
  clear i3 x1 xf hw1 hw2 hw3 hw4
  have y0 := HX4.out.cell 0
  have y1 := HX4.out.cell 1
  have y2 := HX4.out.cell 2
  have y3 := HX4.out.cell 3
  have y4 := HX4.out.cell 4
  have y5 := HX4.out.cell 5
  have y6 := HX4.out.cell 6
  have y7 := HX4.out.cell 7
  have y8 := HX4.out.cell 8
  have y9 := HX4.out.cell 9
  have y10 := HX4.out.cell 10
  have y11 := HX4.out.cell 11
  have y12 := HX4.out.cell 12
  have y13 := HX4.out.cell 13
  have y14 := HX4.out.cell 14
  go_wp2_with fail
  refine HNe.out.mono ?_
  rintro e w5 ⟨m, ⟨m2, he, hmay, hfew, _, hb5⟩, rfl, ha⟩
  have hz5 := HZ4.out.1.below hb5
  have HZ5 := Lib.hid hz5
  have z0 := hz5.cell 0
  have z1 := hz5.cell 1
  have z2 := hz5.cell 2
  have z3 := hz5.cell 3
  have z4 := hz5.cell 4
  have z5 := hz5.cell 5
  have z6 := hz5.cell 6
  have z7 := hz5.cell 7
  have z8 := hz5.cell 8
  have z9 := hz5.cell 9
  have z10 := hz5.cell 10
  have z11 := hz5.cell 11
  have z12 := hz5.cell 12
  have z13 := hz5.cell 13
  have z14 := hz5.cell 14
  have zf := hz5.frozen
  obtain ⟨W6, hW6⟩ : ∃ W6, (((((((((((((((w5.setCell ⟨w.heap.size + 1, 0, none⟩ (.string q.id)).setCell ⟨w.heap.size + 1, 1, none⟩ (.int .i64 q.kind)).setCell ⟨w.heap.size + 1, 2, none⟩ (.int .i64 q.priority)).setCell ⟨w.heap.size + 1, 3, none⟩ (.string q.group)).setCell ⟨w.heap.size + 1, 4, none⟩ (.string q.code)).setCell ⟨w.heap.size + 1, 5, none⟩ (.bool q.closes)).setCell ⟨w.heap.size + 1, 6, none⟩ (.slice m.scope.skus.A m.scope.skus.n m.scope.skus.c)).setCell ⟨w.heap.size + 1, 7, none⟩ (.slice m.scope.cats.A m.scope.cats.n m.scope.cats.c)).setCell ⟨w.heap.size + 1, 8, none⟩ (.int .i64 q.least)).setCell ⟨w.heap.size + 1, 9, none⟩ (.int .i64 q.rate)).setCell ⟨w.heap.size + 1, 10, none⟩ (.int .i64 q.amount)).setCell ⟨w.heap.size + 1, 11, none⟩ (.int .i64 q.buy)).setCell ⟨w.heap.size + 1, 12, none⟩ (.int .i64 q.get)).setCell ⟨w.heap.size + 1, 13, none⟩ (.slice m.parts.A m.parts.n m.parts.c)).setCell ⟨w.heap.size + 1, 14, none⟩ (.slice m.tiers.A m.tiers.n m.tiers.c)) = W6 := ⟨_, rfl⟩
  have hblk : Qu.Blk W6 (w.heap.size + 1) 28 #[.string q.id, .int .i64 q.kind, .int .i64 q.priority, .string q.group, .string q.code, .bool q.closes, .slice m.scope.skus.A m.scope.skus.n m.scope.skus.c, .slice m.scope.cats.A m.scope.cats.n m.scope.cats.c, .int .i64 q.least, .int .i64 q.rate, .int .i64 q.amount, .int .i64 q.buy, .int .i64 q.get, .slice m.parts.A m.parts.n m.parts.c, .slice m.tiers.A m.tiers.n m.tiers.c] := by
    rw [← hW6]
    exact Kd.blk_puts (q.enc m) w5 0 _ hz5
  have ho : Mv.Only w5 W6 (Mv.one (w.heap.size + 1)) := by rw [← hW6]; exact Py.only_puts (q.enc m) w5 0 (Mv.Only.refl w5 _)
  have hbel : Below w.heap.size w W6 := by rw [← hW6]; exact Kd.below_puts (by omega) (q.enc m) w5 0 (HZ4.out.2.1.trans (hb5.mono HZ4.out.2.1.size))
  have HFin : Hid (MadeP w (.returned (.agg #[.string q.id, .int .i64 q.kind, .int .i64 q.priority, .string q.group, .string q.code, .bool q.closes, .slice m.scope.skus.A m.scope.skus.n m.scope.skus.c, .slice m.scope.cats.A m.scope.cats.n m.scope.cats.c, .int .i64 q.least, .int .i64 q.rate, .int .i64 q.amount, .int .i64 q.buy, .int .i64 q.get, .slice m.parts.A m.parts.n m.parts.c, .slice m.tiers.A m.tiers.n m.tiers.c])) W6 q) := Lib.hid ⟨m, rfl, hmay, hfew, anew_put ha (by have := HZ4.out.2.2; omega) ho, hbel⟩
  have HBl := Lib.hid hblk
  have hw6 := Lib.hid hW6
  clear he hmay hfew hb5 ha hz5 hblk ho hbel hW6 HNe HX4
  unfold Ap.Prm.enc
  go_wp2_with fail
  rw [hw6.out]
  refine bodyPost_ret (Py.results_promo rfl _ _ (w.heap.size + 1) _ rfl HBl.out rfl rfl) rfl ?_
  exact HFin.out
end Go.Proofs.YtacmoanhbkipfaaGreat.Ct
