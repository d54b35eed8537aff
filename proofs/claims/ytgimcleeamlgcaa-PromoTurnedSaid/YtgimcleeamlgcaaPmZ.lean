/- A promotion in a box of the call's own: whether it may be, asked of both. (made by wip/gen-walk12.py) -/
import Derived.Test.YtgimcleeamlgcaaPmY
import Derived.Test.YtgimcleeamlgcaaPmW
import Derived.Test.YtgimcleeamlgcaaPrP
import Derived.Test.YtgimcleeamlgcaaPyZ
set_option maxRecDepth 100000

set_option linter.unusedVariables false
namespace Go.Proofs.Ytgimcleeamlgcaa.Pm
open Go.ChangeShapes Go.WideShapes Go.ChangeAt Go.RowKit
open Ap (Scp Prt Tir Prm kPrm kPrt kTir row_Prm)
open Kd (Row Own kStr kInt Cells RowT Lst Fit Agree)
open Pr (promoB PrmSmall)
open Py (Anew Played)
open Mv (Only)

/-- A promotion in a box. -/
structure Boxed (w W : World) (b : Nat) (q : Prm) (m : Prm.Lay) : Prop where
  blk : Qu.Blk W b 28 #[.string q.id, .int .i64 q.kind, .int .i64 q.priority, .string q.group, .string q.code, .bool q.closes, .slice m.scope.skus.A m.scope.skus.n m.scope.skus.c, .slice m.scope.cats.A m.scope.cats.n m.scope.cats.c, .int .i64 q.least, .int .i64 q.rate, .int .i64 q.amount, .int .i64 q.buy, .int .i64 q.get, .slice m.parts.A m.parts.n m.parts.c, .slice m.tiers.A m.tiers.n m.tiers.c]
  holds : Ap.Prm.Holds W (fun k => k < W.heap.size ∧ k ≠ b) q m
  slight : Slight q
  low : w.heap.size ≤ b
  below : Below w.heap.size w W

section
variable {w W W' : World} {b : Nat} {p q : Prm} {l m : Prm.Lay}
theorem holds_stay {F : Nat → Prop} (h : Ap.Prm.Holds W F q m) (ag : Agree F W W') : Ap.Prm.Holds W' F q m :=
  ⟨h.id, h.kind, h.priority, h.group, h.code, ⟨h.scope.skus.stay ag, h.scope.cats.stay ag⟩, h.least, h.rate, h.amount, h.buy, h.get, h.parts.stay ag, h.tiers.stay ag⟩

theorem holds_more {F G : Nat → Prop} (h : Ap.Prm.Holds W F q m) (f : ∀ b, F b → G b) : Ap.Prm.Holds W G q m :=
  ⟨h.id, h.kind, h.priority, h.group, h.code, ⟨h.scope.skus.more f, h.scope.cats.more f⟩, h.least, h.rate, h.amount, h.buy, h.get, h.parts.more f, h.tiers.more f⟩

theorem Boxed.begin (h : Ap.Prm.Holds w (· < w.heap.size) p l) (hs : Slight p) : Boxed w (w.alloc (.cells #[.string p.id, .int .i64 p.kind, .int .i64 p.priority, .string p.group, .string p.code, .bool p.closes, .slice l.scope.skus.A l.scope.skus.n l.scope.skus.c, .slice l.scope.cats.A l.scope.cats.n l.scope.cats.c, .int .i64 p.least, .int .i64 p.rate, .int .i64 p.amount, .int .i64 p.buy, .int .i64 p.get, .slice l.parts.A l.parts.n l.parts.c, .slice l.tiers.A l.tiers.n l.tiers.c] 28)) w.heap.size p l := by
  have e : (w.alloc (.cells #[.string p.id, .int .i64 p.kind, .int .i64 p.priority, .string p.group, .string p.code, .bool p.closes, .slice l.scope.skus.A l.scope.skus.n l.scope.skus.c, .slice l.scope.cats.A l.scope.cats.n l.scope.cats.c, .int .i64 p.least, .int .i64 p.rate, .int .i64 p.amount, .int .i64 p.buy, .int .i64 p.get, .slice l.parts.A l.parts.n l.parts.c, .slice l.tiers.A l.tiers.n l.tiers.c] 28)).heap.size = w.heap.size + 1 := by simp
  exact ⟨Qu.Blk.new w _ _, holds_more (holds_stay h (Agree.alloc _ fun b hb => hb)) fun b hb => ⟨by rw [e]; omega, by omega⟩, hs, Nat.le_refl _, (Below.refl _ _).alloc (Nat.le_refl _) _⟩

theorem Boxed.later (h : Boxed w W b q m) (hb : Below W.heap.size W W') : Boxed w W' b q m :=
  ⟨h.blk.below hb, holds_more (holds_stay h.holds fun k hk => hb.block k hk.1) fun k hk => ⟨Nat.lt_of_lt_of_le hk.1 hb.size, hk.2⟩, h.slight, h.low, h.below.trans (hb.mono h.below.size)⟩

theorem Boxed.put {p' : Prm} {l' : Prm.Lay} (h : Boxed w W b p' l') (hn : Anew W W' q m) (hs : Slight q) : Boxed w (W'.setCells b 0 [.string q.id, .int .i64 q.kind, .int .i64 q.priority, .string q.group, .string q.code, .bool q.closes, .slice m.scope.skus.A m.scope.skus.n m.scope.skus.c, .slice m.scope.cats.A m.scope.cats.n m.scope.cats.c, .int .i64 q.least, .int .i64 q.rate, .int .i64 q.amount, .int .i64 q.buy, .int .i64 q.get, .slice m.parts.A m.parts.n m.parts.c, .slice m.tiers.A m.tiers.n m.tiers.c]) b q m := by
  have hlt := h.blk.lt
  have ho : Only W' (W'.setCells b 0 [.string q.id, .int .i64 q.kind, .int .i64 q.priority, .string q.group, .string q.code, .bool q.closes, .slice m.scope.skus.A m.scope.skus.n m.scope.skus.c, .slice m.scope.cats.A m.scope.cats.n m.scope.cats.c, .int .i64 q.least, .int .i64 q.rate, .int .i64 q.amount, .int .i64 q.buy, .int .i64 q.get, .slice m.parts.A m.parts.n m.parts.c, .slice m.tiers.A m.tiers.n m.tiers.c]) (Mv.one b) := Py.only_puts _ W' 0 (Only.refl W' _)
  have hoff := hn.off (F := fun g => W.heap.size ≤ g ∧ g < W'.heap.size) fun g hg => hg
  refine ⟨Kd.blk_puts [.string q.id, .int .i64 q.kind, .int .i64 q.priority, .string q.group, .string q.code, .bool q.closes, .slice m.scope.skus.A m.scope.skus.n m.scope.skus.c, .slice m.scope.cats.A m.scope.cats.n m.scope.cats.c, .int .i64 q.least, .int .i64 q.rate, .int .i64 q.amount, .int .i64 q.buy, .int .i64 q.get, .slice m.parts.A m.parts.n m.parts.c, .slice m.tiers.A m.tiers.n m.tiers.c] W' 0 _ (h.blk.below hn.below), holds_more (holds_stay hoff fun k hk => ho.block k hk.2 fun e => by have : k = b := e; omega) fun k hk => ⟨Nat.lt_of_lt_of_le hk.2 ho.size, by omega⟩, hs, h.low, Kd.below_puts h.low _ W' 0 (h.below.trans (hn.below.mono h.below.size))⟩

theorem Boxed.all (h : Boxed w W b q m) : Ap.Prm.Holds W (· < W.heap.size) q m := holds_more h.holds fun k hk => hk.1

theorem Boxed.right (h : Boxed w W b q m) : Calls Try.prog 11 #[.agg #[.string q.id, .int .i64 q.kind, .int .i64 q.priority, .string q.group, .string q.code, .bool q.closes, .slice m.scope.skus.A m.scope.skus.n m.scope.skus.c, .slice m.scope.cats.A m.scope.cats.n m.scope.cats.c, .int .i64 q.least, .int .i64 q.rate, .int .i64 q.amount, .int .i64 q.buy, .int .i64 q.get, .slice m.parts.A m.parts.n m.parts.c, .slice m.tiers.A m.tiers.n m.tiers.c]] W fun e w' => e = .returned (.bool (promoB q)) ∧ Below W.heap.size W w' := promo_any q m W h.all (h.slight.small h.all)

theorem Boxed.rright (h : Boxed w W b q m) : Calls Try.prog 12 #[.agg #[.string q.id, .int .i64 q.kind, .int .i64 q.priority, .string q.group, .string q.code, .bool q.closes, .slice m.scope.skus.A m.scope.skus.n m.scope.skus.c, .slice m.scope.cats.A m.scope.cats.n m.scope.cats.c, .int .i64 q.least, .int .i64 q.rate, .int .i64 q.amount, .int .i64 q.buy, .int .i64 q.get, .slice m.parts.A m.parts.n m.parts.c, .slice m.tiers.A m.tiers.n m.tiers.c]] W fun e w' => e = .returned (.bool (promoB q)) ∧ Below W.heap.size W w' := Pr.rpromo_any q m W h.all (h.slight.small h.all)
end

end Go.Proofs.Ytgimcleeamlgcaa.Pm
