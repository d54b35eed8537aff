/- The landed Right. (made by wip/gen-right.py) -/
import Derived.Deep.CutBlock
import Derived.Deep.DeepCutAuto
import Derived.Deep.RegionHeld3
import Derived.Laws.EntriesVeiled
import Derived.Test.YtljmddjlnlmenaaGreatPq17
set_option maxRecDepth 100000
set_option linter.unusedVariables false

namespace Go.Proofs.YtljmddjlnlmenaaGreat.Pm
open Go.ChangeShapes Go.WideShapes Go.ChangeAt Go.RowKit
open Ap (Scp Prt Tir Prm kPrt kTir row_Prt row_Tir)
open Kd (Row Lst)
def table : Array Value := #[.nilFunc, .int .i64 0, .func (.func 50) #[] #[], .int .i64 193, .func (.func 51) #[] #[], .int .i64 194, .func (.func 52) #[] #[], .int .i64 205, .func (.func 53) #[] #[], .int .i64 146, .func (.func 54) #[] #[], .int .i64 224, .func (.func 54) #[] #[], .int .i64 224, .func (.func 50) #[] #[], .int .i64 1]
structure Asked (w wx : World) (p : Prm) (l : Prm.Lay) (g4 g5 : Nat) (f : Nat) (m : Int) : Prop where
  x : Qu.Blk wx g4 83 #[.string p.id, .int .i64 p.kind, .int .i64 p.priority, .string p.group, .string p.code, .bool p.closes, .slice l.scope.skus.A l.scope.skus.n l.scope.skus.c, .slice l.scope.cats.A l.scope.cats.n l.scope.cats.c, .int .i64 p.least, .int .i64 p.rate, .int .i64 p.amount, .int .i64 p.buy, .int .i64 p.get, .slice l.parts.A l.parts.n l.parts.c, .slice l.tiers.A l.tiers.n l.tiers.c]
  k : Qu.Blk wx g5 86 #[.func (.func f) #[] #[], .int .i64 m]
  below : Below w.heap.size w wx
theorem asked_one {w w2 : World} {p : Prm} {l : Prm.Lay} {f : Nat} {m : Int} (hb : Below w.heap.size w w2) : Asked w ((w2.alloc (.cells #[.string p.id, .int .i64 p.kind, .int .i64 p.priority, .string p.group, .string p.code, .bool p.closes, .slice l.scope.skus.A l.scope.skus.n l.scope.skus.c, .slice l.scope.cats.A l.scope.cats.n l.scope.cats.c, .int .i64 p.least, .int .i64 p.rate, .int .i64 p.amount, .int .i64 p.buy, .int .i64 p.get, .slice l.parts.A l.parts.n l.parts.c, .slice l.tiers.A l.tiers.n l.tiers.c] 83)).alloc (.cells #[.func (.func f) #[] #[], .int .i64 m] 86)).drew p l w2.heap.size (w2.heap.size + 1) f m := by
  have hs : (w2.alloc (.cells #[.string p.id, .int .i64 p.kind, .int .i64 p.priority, .string p.group, .string p.code, .bool p.closes, .slice l.scope.skus.A l.scope.skus.n l.scope.skus.c, .slice l.scope.cats.A l.scope.cats.n l.scope.cats.c, .int .i64 p.least, .int .i64 p.rate, .int .i64 p.amount, .int .i64 p.buy, .int .i64 p.get, .slice l.parts.A l.parts.n l.parts.c, .slice l.tiers.A l.tiers.n l.tiers.c] 83)).heap.size = w2.heap.size + 1 := by simp
  have h1 := (Qu.Blk.new w2 83 #[.string p.id, .int .i64 p.kind, .int .i64 p.priority, .string p.group, .string p.code, .bool p.closes, .slice l.scope.skus.A l.scope.skus.n l.scope.skus.c, .slice l.scope.cats.A l.scope.cats.n l.scope.cats.c, .int .i64 p.least, .int .i64 p.rate, .int .i64 p.amount, .int .i64 p.buy, .int .i64 p.get, .slice l.parts.A l.parts.n l.parts.c, .slice l.tiers.A l.tiers.n l.tiers.c]).alloc (.cells #[.func (.func f) #[] #[], .int .i64 m] 86)
  have h2 := Qu.Blk.new (w2.alloc (.cells #[.string p.id, .int .i64 p.kind, .int .i64 p.priority, .string p.group, .string p.code, .bool p.closes, .slice l.scope.skus.A l.scope.skus.n l.scope.skus.c, .slice l.scope.cats.A l.scope.cats.n l.scope.cats.c, .int .i64 p.least, .int .i64 p.rate, .int .i64 p.amount, .int .i64 p.buy, .int .i64 p.get, .slice l.parts.A l.parts.n l.parts.c, .slice l.tiers.A l.tiers.n l.tiers.c] 83)) 86 #[.func (.func f) #[] #[], .int .i64 m]
  rw [hs] at h2
  exact ⟨h1.drew, h2.drew, ((hb.alloc hb.size _).alloc (by have := hb.size; omega) _).drew⟩
theorem asked_two {w w2 : World} {p : Prm} {l : Prm.Lay} {f : Nat} {m : Int} (hb : Below w.heap.size w w2) : Asked w ((w2.alloc (.cells #[.func (.func f) #[] #[], .int .i64 m] 86)).alloc (.cells #[.string p.id, .int .i64 p.kind, .int .i64 p.priority, .string p.group, .string p.code, .bool p.closes, .slice l.scope.skus.A l.scope.skus.n l.scope.skus.c, .slice l.scope.cats.A l.scope.cats.n l.scope.cats.c, .int .i64 p.least, .int .i64 p.rate, .int .i64 p.amount, .int .i64 p.buy, .int .i64 p.get, .slice l.parts.A l.parts.n l.parts.c, .slice l.tiers.A l.tiers.n l.tiers.c] 83)).drew p l (w2.heap.size + 1) w2.heap.size f m := by
  have hs : (w2.alloc (.cells #[.func (.func f) #[] #[], .int .i64 m] 86)).heap.size = w2.heap.size + 1 := by simp
  have h1 := (Qu.Blk.new w2 86 #[.func (.func f) #[] #[], .int .i64 m]).alloc (.cells #[.string p.id, .int .i64 p.kind, .int .i64 p.priority, .string p.group, .string p.code, .bool p.closes, .slice l.scope.skus.A l.scope.skus.n l.scope.skus.c, .slice l.scope.cats.A l.scope.cats.n l.scope.cats.c, .int .i64 p.least, .int .i64 p.rate, .int .i64 p.amount, .int .i64 p.buy, .int .i64 p.get, .slice l.parts.A l.parts.n l.parts.c, .slice l.tiers.A l.tiers.n l.tiers.c] 83)
  have h2 := Qu.Blk.new (w2.alloc (.cells #[.func (.func f) #[] #[], .int .i64 m] 86)) 83 #[.string p.id, .int .i64 p.kind, .int .i64 p.priority, .string p.group, .string p.code, .bool p.closes, .slice l.scope.skus.A l.scope.skus.n l.scope.skus.c, .slice l.scope.cats.A l.scope.cats.n l.scope.cats.c, .int .i64 p.least, .int .i64 p.rate, .int .i64 p.amount, .int .i64 p.buy, .int .i64 p.get, .slice l.parts.A l.parts.n l.parts.c, .slice l.tiers.A l.tiers.n l.tiers.c]
  rw [hs] at h2
  exact ⟨h2.drew, h1.drew, ((hb.alloc hb.size _).alloc (by have := hb.size; omega) _).drew⟩
noncomputable def tailR : Code := match Tryz.f25.body with
  | some (.seq _ (.seq _ (.seq _ (.seq _ c)))) => c
  | _ => .skip
set_option maxRecDepth 100000 in
set_option maxHeartbeats 8000000 in
theorem right_pre (KK f : Nat) (m : Int) (R : Bool) (p : Prm) (l : Prm.Lay) (w : World) (h1 : 1 <= p.kind) (h2 : p.kind <= 7) (hk : p.kind.toNat = KK) (hE0 : table[KK * 2]? = some (.func (.func f) #[] #[])) (hE1 : table[KK * 2 + 1]? = some (.int .i64 m))
    (hR : ∀ (wc : World) (g4 g5 : Nat) (u0 u1 u2 u3 u6 u7 u8 u9 u10 u11 u12 u13 u14 u15 u16 u17 u18 u19 u20 u21 u22 u23 u24 u25 u26 u27 u28 u29 u30 u31 u32 u33 u34 u35 u36 u37 u38 u39 u40 u41 u42 : Value), Asked w wc p l g4 g5 f m -> Code.wp Tryz.prog tailR (bodyPost Tryz.prog Tryz.f25 fun e w' => e = .returned (.bool R) /\ Below w.heap.size w w') ⟨#[u0, u1, u2, u3, .pointer (some ⟨g4, 0, none⟩), .pointer (some ⟨g5, 0, none⟩), u6, u7, u8, u9, u10, u11, u12, u13, u14, u15, u16, u17, u18, u19, u20, u21, u22, u23, u24, u25, u26, u27, u28, u29, u30, u31, u32, u33, u34, u35, u36, u37, u38, u39, u40, u41, u42], []⟩ wc) :
    Calls Tryz.prog 25 #[.agg #[.string p.id, .int .i64 p.kind, .int .i64 p.priority, .string p.group, .string p.code, .bool p.closes, .slice l.scope.skus.A l.scope.skus.n l.scope.skus.c, .slice l.scope.cats.A l.scope.cats.n l.scope.cats.c, .int .i64 p.least, .int .i64 p.rate, .int .i64 p.amount, .int .i64 p.buy, .int .i64 p.get, .slice l.parts.A l.parts.n l.parts.c, .slice l.tiers.A l.tiers.n l.tiers.c]] w fun e w' => e = .returned (.bool R) /\ Below w.heap.size w w' := by
  have HR := Lib.hid hR
  clear hR
  obtain ⟨w1, hw1⟩ : ∃ w1, w.alloc (.cells #[.string p.id, .int .i64 p.kind, .int .i64 p.priority, .string p.group, .string p.code, .bool p.closes, .slice l.scope.skus.A l.scope.skus.n l.scope.skus.c, .slice l.scope.cats.A l.scope.cats.n l.scope.cats.c, .int .i64 p.least, .int .i64 p.rate, .int .i64 p.amount, .int .i64 p.buy, .int .i64 p.get, .slice l.parts.A l.parts.n l.parts.c, .slice l.tiers.A l.tiers.n l.tiers.c] 28) = w1 := ⟨_, rfl⟩
  have hx : Qu.Blk w1 w.heap.size 28 #[.string p.id, .int .i64 p.kind, .int .i64 p.priority, .string p.group, .string p.code, .bool p.closes, .slice l.scope.skus.A l.scope.skus.n l.scope.skus.c, .slice l.scope.cats.A l.scope.cats.n l.scope.cats.c, .int .i64 p.least, .int .i64 p.rate, .int .i64 p.amount, .int .i64 p.buy, .int .i64 p.get, .slice l.parts.A l.parts.n l.parts.c, .slice l.tiers.A l.tiers.n l.tiers.c] := by rw [<- hw1]; exact Qu.Blk.new w _ _
  have hb1 : Below w.heap.size w w1 := by rw [<- hw1]; exact (Below.refl _ _).alloc (Nat.le_refl _) _
  obtain ⟨w2, hw2⟩ : ∃ w2, w1.alloc (.cells #[.nilFunc, .int .i64 0, .func (.func 50) #[] #[], .int .i64 193, .func (.func 51) #[] #[], .int .i64 194, .func (.func 52) #[] #[], .int .i64 205, .func (.func 53) #[] #[], .int .i64 146, .func (.func 54) #[] #[], .int .i64 224, .func (.func 54) #[] #[], .int .i64 224, .func (.func 50) #[] #[], .int .i64 1] 87) = w2 := ⟨_, rfl⟩
  have hx2 : Qu.Blk w2 w.heap.size 28 #[.string p.id, .int .i64 p.kind, .int .i64 p.priority, .string p.group, .string p.code, .bool p.closes, .slice l.scope.skus.A l.scope.skus.n l.scope.skus.c, .slice l.scope.cats.A l.scope.cats.n l.scope.cats.c, .int .i64 p.least, .int .i64 p.rate, .int .i64 p.amount, .int .i64 p.buy, .int .i64 p.get, .slice l.parts.A l.parts.n l.parts.c, .slice l.tiers.A l.tiers.n l.tiers.c] := by rw [<- hw2]; exact hx.alloc _
  have ht2 : Qu.Blk w2 w1.heap.size 87 table := by rw [<- hw2]; exact Qu.Blk.new w1 _ _
  have HB2 : Hid (Below w.heap.size w w2) := Lib.hid (by rw [<- hw2]; exact hb1.alloc hb1.size _)
  have x0 := hx2.cell 0
  have x1 := hx2.cell 1
  have x2 := hx2.cell 2
  have x3 := hx2.cell 3
  have x4 := hx2.cell 4
  have x5 := hx2.cell 5
  have x6 := hx2.cell 6
  have x7 := hx2.cell 7
  have x8 := hx2.cell 8
  have x9 := hx2.cell 9
  have x10 := hx2.cell 10
  have x11 := hx2.cell 11
  have x12 := hx2.cell 12
  have x13 := hx2.cell 13
  have x14 := hx2.cell 14
  have y0 : w2.cell? ⟨w1.heap.size, KK * 2, none⟩ = some (.func (.func f) #[] #[]) := (ht2.cell (KK * 2)).trans hE0
  have y1 : w2.cell? ⟨w1.heap.size, KK * 2 + 1, none⟩ = some (.int .i64 m) := (ht2.cell (KK * 2 + 1)).trans hE1
  have d1 : ¬ p.kind < 1 := by omega
  have d2 : ¬ (8 : Int) <= p.kind := by omega
  have d3 : decide ((8 : Int) <= p.kind) = false := decide_eq_false d2
  have d4 : decide (p.kind < 1) = false := decide_eq_false d1
  have kn : p.kind.toNat = KK := hk
  have kl : p.kind < 8 := by omega
  have k0 : 0 <= p.kind := by omega
  have hz1 : w.heap.size < w2.heap.size := hx2.lt
  have hz2 : w1.heap.size < w2.heap.size := ht2.lt
  clear hx hb1 hx2 ht2 hE0 hE1 hk
  go_enter Tryz.func25, Tryz.ntmps25
  go_upto_region 4 with (fail)
  clear d1 d2 d3 d4
  have HT := Lib.hid (And.intro hz1 hz2)
  go_cut [4, 5] (fun s4 s5 wx => ∃ g4 g5 : Nat, s4 = .pointer (some ⟨g4, 0, none⟩) /\ s5 = .pointer (some ⟨g5, 0, none⟩) /\ Hid (Asked w wx p l g4 g5 f m))
  case first =>
    go_region
    . go_wp2_with fail
      go_meet
      exact ⟨w2.heap.size, w2.heap.size + 1, rfl, rfl, Lib.hid (asked_one HB2.out)⟩
    . go_wp2_with fail
      go_meet
      exact ⟨w2.heap.size + 1, w2.heap.size, rfl, rfl, Lib.hid (asked_two HB2.out)⟩
  case rest =>
    obtain ⟨g4, g5, rfl, rfl, HAs⟩ := hcut
    clear HT HB2 hw1 hw2 x0 x1 x2 x3 x4 x5 x6 x7 x8 x9 x10 x11 x12 x13 x14 y0 y1 kn kl k0 hz1 hz2
    apply_assumption
    exact HR.out wc g4 g5 _ _ _ _ _ _ _ _ _ _ _ _ _ _ _ _ _ _ _ _ _ _ _ _ _ _ _ _ _ _ _ _ _ _ _ _ _ _ _ _ _ HAs.out
end Go.Proofs.YtljmddjlnlmenaaGreat.Pm
