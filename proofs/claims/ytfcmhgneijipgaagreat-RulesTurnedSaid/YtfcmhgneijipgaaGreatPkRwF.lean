/- RulesTurned: rules of the call's own, in a box, and each of the things that may be turned. (made by wip/gen-rwF.py) -/
import Derived.Test.YtfcmhgneijipgaaGreatPk0
import Derived.Test.YtfcmhgneijipgaaGreatPk1
import Derived.Test.YtfcmhgneijipgaaGreatPk2
import Derived.Test.YtfcmhgneijipgaaGreatPk3
import Derived.Test.YtfcmhgneijipgaaGreatPk4
import Derived.Test.YtfcmhgneijipgaaGreatPk5
import Derived.Test.YtfcmhgneijipgaaGreatPk6
import Derived.Test.YtfcmhgneijipgaaGreatPk7
import Derived.Test.YtfcmhgneijipgaaGreatPk8
import Derived.Test.YtfcmhgneijipgaaGreatPk9
import Derived.Test.YtfcmhgneijipgaaGreatPk10
import Derived.Test.YtfcmhgneijipgaaGreatPk11
import Derived.Test.YtfcmhgneijipgaaGreatPk12
import Derived.Test.YtfcmhgneijipgaaGreatPk13
import Derived.Test.YtfcmhgneijipgaaGreatPk14
import Derived.Test.YtfcmhgneijipgaaGreatPk15
import Derived.Test.YtfcmhgneijipgaaGreatPk16
import Derived.Test.YtfcmhgneijipgaaGreatPk17
import Derived.Test.YtfcmhgneijipgaaGreatPk18
import Derived.Test.YtfcmhgneijipgaaGreatPk19
import Derived.Test.YtfcmhgneijipgaaGreatPk20
import Derived.Test.YtfcmhgneijipgaaGreatPk21
import Derived.Test.YtfcmhgneijipgaaGreatPk22
import Derived.Test.YtfcmhgneijipgaaGreatPk23
import Derived.Test.YtfcmhgneijipgaaGreatPk24
import Derived.Test.YtfcmhgneijipgaaGreatPk25
import Derived.Test.YtfcmhgneijipgaaGreatPk26
import Derived.Test.YtfcmhgneijipgaaGreatPk27
import Derived.Test.YtfcmhgneijipgaaGreatPk28
import Derived.Test.YtfcmhgneijipgaaGreatPk29
import Derived.Test.YtfcmhgneijipgaaGreatPk30
import Derived.Test.YtfcmhgneijipgaaGreatPk31
import Derived.Test.YtfcmhgneijipgaaGreatPk32
import Derived.Test.YtfcmhgneijipgaaGreatPk33
import Derived.Test.YtfcmhgneijipgaaGreatPk34
import Derived.Test.YtfcmhgneijipgaaGreatPk35
import Derived.Test.YtfcmhgneijipgaaGreatPk36
import Derived.Test.YtfcmhgneijipgaaGreatPk37
import Derived.Test.YtfcmhgneijipgaaGreatPk38
import Derived.Test.YtfcmhgneijipgaaGreatPk39

set_option maxRecDepth 100000
set_option linter.unusedVariables false
namespace Go.Proofs.YtfcmhgneijipgaaGreat.Ru
open Go.ChangeShapes Go.WideShapes Go.ChangeAt Go.RowKit Go.Deep
open Ap (CtR Zon Txs Shp Pol Rls Prm Prt Tir Scp kCtR kZon kPrm kPrt row_CtR row_Zon row_Prm Zon_rep CtR_rep)
open Kd (Row Own Cells Lst Sl Fit Agree eqL Band kInt row_int)
open It (Itm kItem)
structure Lens (t : Rls) : Prop where
  small : RulesSmall t
  small2 : SmallR t
def Fin (Wr W : World) (b9 : Nat) : Prop := ∃ (t : Rls) (m : Rls.Lay), Qu.Blk W b9 33 #[.slice m.items.A m.items.n m.items.c, .slice m.promos.A m.promos.n m.promos.c, .bool t.tax.incl, .bool t.tax.byOrder, .int .i64 t.tax.round, .slice m.tax.zones.A m.tax.zones.n m.tax.zones.c, .int .i64 t.ship.fee, .int .i64 t.ship.free, .int .i64 t.policy.window, .int .i64 t.policy.grace, .int .i64 t.policy.mode, .int .i64 t.policy.restock, .slice m.policy.order.A m.policy.order.n m.policy.order.c, .slice m.policy.credit.A m.policy.credit.n m.policy.credit.c] ∧ Rls.Holds W (· < W.heap.size) t m ∧ Lens t ∧ Below Wr.heap.size Wr W
structure Cnt (t : Rls) : Prop where
  items : t.items.length = 8
  zones : t.tax.zones.length = 3
  promos : t.promos.length ≤ 6
  order : t.policy.order.length ≤ 6
  credit : t.policy.credit.length ≤ 6
  rates : ∀ z ∈ t.tax.zones, z.rates.length ≤ 3
  slight : Pm.Slights t.promos
  each : ∀ p ∈ t.promos, SmallP p
theorem lens_of {t : Rls} (hi : t.items.length ≤ 8) (hp : t.promos.length ≤ 7) (hz : t.tax.zones.length ≤ 3) (ho : t.policy.order.length ≤ 7) (hc : t.policy.credit.length ≤ 7) (hr : ∀ z ∈ t.tax.zones, z.rates.length ≤ 4) (hs : Pm.Slights t.promos) (he : ∀ p ∈ t.promos, SmallP p) : Lens t :=
  ⟨⟨by omega, ⟨hs, by omega⟩, ⟨fun k z hk => by have := hr z (List.mem_of_getElem? hk); omega, by omega⟩, by omega, by omega⟩, ⟨by omega, by omega, he, by omega, fun z hz => by have := hr z hz; omega, by omega, by omega⟩⟩
structure TT (Wr W : World) (b9 s0 s1 s2 s3 s4 s5 gz : Nat) (t : Rls) (m : Rls.Lay) (z0 : Zon) (zs : List Zon) (A0 : Option Addr) (n0 c0 : Nat) : Prop where
  le : Wr.heap.size ≤ s0 ∧ s0 ≤ s1 ∧ s1 ≤ s2 ∧ s2 ≤ s3 ∧ s3 ≤ s4 ∧ s4 ≤ s5 ∧ s5 ≤ b9
  blk : Qu.Blk W b9 33 #[.slice m.items.A m.items.n m.items.c, .slice m.promos.A m.promos.n m.promos.c, .bool t.tax.incl, .bool t.tax.byOrder, .int .i64 t.tax.round, .slice m.tax.zones.A m.tax.zones.n m.tax.zones.c, .int .i64 t.ship.fee, .int .i64 t.ship.free, .int .i64 t.policy.window, .int .i64 t.policy.grace, .int .i64 t.policy.mode, .int .i64 t.policy.restock, .slice m.policy.order.A m.policy.order.n m.policy.order.c, .slice m.policy.credit.A m.policy.credit.n m.policy.credit.c]
  items : Band kItem W s0 s1 44 (.slice m.items.A m.items.n m.items.c) m.items.n t.items
  promos : Band kPrm W s1 s2 51 (.slice m.promos.A m.promos.n m.promos.c) m.promos.n t.promos
  hz : t.tax.zones = z0 :: zs
  za : m.tax.zones.A = some ⟨gz, 0, none⟩
  zlt : s2 ≤ gz ∧ gz < s3
  zrow : ∃ tl, W.ownsRow s2 41 4 (.slice (some ⟨gz, 0, none⟩) m.tax.zones.n m.tax.zones.c) m.tax.zones.n ([.string z0.name, .slice A0 n0 c0, .int .i64 z0.rest, .int .i64 z0.ship] ++ tl) ∧ Cells kZon W (fun b => s2 ≤ b ∧ b < s3 ∧ b ≠ gz) zs tl
  zok : z0.name.size ≤ maxLen ∧ (-9223372036854775808 ≤ z0.rest ∧ z0.rest ≤ 9223372036854775807) ∧ -9223372036854775808 ≤ z0.ship ∧ z0.ship ≤ 9223372036854775807
  rates : Own kCtR W (b9 + 1) 53 (fun _ => False) (.slice A0 n0 c0) n0 z0.rates
  zn : m.tax.zones.n = 3
  order : Band kInt W s3 s4 3 (.slice m.policy.order.A m.policy.order.n m.policy.order.c) m.policy.order.n t.policy.order
  credit : Band kInt W s4 s5 3 (.slice m.policy.credit.A m.policy.credit.n m.policy.credit.c) m.policy.credit.n t.policy.credit
  below : Below Wr.heap.size Wr W
  round : -9223372036854775808 ≤ t.tax.round ∧ t.tax.round ≤ 9223372036854775807
  ship : Shp.ok t.ship
  nums : (-9223372036854775808 ≤ t.policy.window ∧ t.policy.window ≤ 9223372036854775807) ∧ (-9223372036854775808 ≤ t.policy.grace ∧ t.policy.grace ≤ 9223372036854775807) ∧ (-9223372036854775808 ≤ t.policy.mode ∧ t.policy.mode ≤ 9223372036854775807) ∧ -9223372036854775808 ≤ t.policy.restock ∧ t.policy.restock ≤ 9223372036854775807
  cnt : Cnt t
section
variable {Wr W W' : World} {b9 s0 s1 s2 s3 s4 s5 gz : Nat} {t : Rls} {m : Rls.Lay} {z0 : Zon} {zs : List Zon} {A0 : Option Addr} {n0 c0 : Nat}
theorem TT.zown (h : TT Wr W b9 s0 s1 s2 s3 s4 s5 gz t m z0 zs A0 n0 c0) : Own kZon W s2 41 (fun b => ((s2 ≤ b ∧ b < s3) ∨ b9 < b) ∧ b < W.heap.size ∧ b ≠ gz) (.slice (some ⟨gz, 0, none⟩) m.tax.zones.n m.tax.zones.c) m.tax.zones.n (z0 :: zs) := by
  obtain ⟨tl, hr, hc⟩ := h.zrow
  have hle := h.le
  have hbl := h.blk.lt
  have hl : (z0 :: zs).length = m.tax.zones.n := by rw [← h.hz, h.cnt.zones, h.zn]
  refine ⟨hl, _, hr, _, tl, rfl, Zon_rep.2 ⟨⟨⟨A0, n0, c0⟩⟩, rfl, h.zok.1, ⟨(h.rates.more (G := fun b => ((s2 ≤ b ∧ b < s3) ∨ b9 < b) ∧ b < W.heap.size ∧ b ≠ gz) fun _ k => k.elim).row fun g hg => ?_, h.rates.fit⟩, h.zok.2.1, h.zok.2.2⟩, hc.more fun b k => ⟨.inl ⟨k.1, k.2.1⟩, by omega, k.2.2⟩⟩
  have h1 := (h.rates.low g hg)
  have h2 := h.zlt
  exact ⟨.inr (by omega), h1.2, by omega⟩
theorem TT.zonesAt (h : TT Wr W b9 s0 s1 s2 s3 s4 s5 gz t m z0 zs A0 n0 c0) (hs : W.heap.size ≤ W'.heap.size) (far : ∀ b, ((s2 ≤ b ∧ b < s3) ∨ b9 < b) → b < W.heap.size → W'.heap[b]? = W.heap[b]?) : Lst kZon W' (· < W'.heap.size) m.tax.zones t.tax.zones := by
  have ho := h.zown
  have hlt := h.zlt
  have hle := h.le
  have hbl := h.blk.lt
  have h1 := ho.stay (w' := W') (fun b k => far b k.1 k.2.1) fun g hg => by
    injection hg with hg
    have e : gz = g := hg
    subst e
    exact far gz (.inl hlt) (by omega)
  have h2 := (h1.more (G := (· < W'.heap.size)) fun b k => Nat.lt_of_lt_of_le k.2.1 hs).row (fun g hg => by
    injection hg with hg
    have e : gz = g := hg
    omega)
  rw [h.hz]
  exact ⟨by rw [h.za]; exact h2, by rw [h.za]; exact h1.fit⟩
theorem TT.itemsAt (h : TT Wr W b9 s0 s1 s2 s3 s4 s5 gz t m z0 zs A0 n0 c0) (hs : W.heap.size ≤ W'.heap.size) (far : ∀ b, s0 ≤ b → b < s1 → W'.heap[b]? = W.heap[b]?) : Lst kItem W' (· < W'.heap.size) m.items t.items := (h.items.stay hs far).lst
theorem TT.promosAt (h : TT Wr W b9 s0 s1 s2 s3 s4 s5 gz t m z0 zs A0 n0 c0) (hs : W.heap.size ≤ W'.heap.size) (far : ∀ b, s1 ≤ b → b < s2 → W'.heap[b]? = W.heap[b]?) : Lst kPrm W' (· < W'.heap.size) m.promos t.promos := (h.promos.stay hs far).lst
theorem TT.orderAt (h : TT Wr W b9 s0 s1 s2 s3 s4 s5 gz t m z0 zs A0 n0 c0) (hs : W.heap.size ≤ W'.heap.size) (far : ∀ b, s3 ≤ b → b < s4 → W'.heap[b]? = W.heap[b]?) : Lst kInt W' (· < W'.heap.size) m.policy.order t.policy.order := (h.order.stay hs far).lst
theorem TT.creditAt (h : TT Wr W b9 s0 s1 s2 s3 s4 s5 gz t m z0 zs A0 n0 c0) (hs : W.heap.size ≤ W'.heap.size) (far : ∀ b, s4 ≤ b → b < s5 → W'.heap[b]? = W.heap[b]?) : Lst kInt W' (· < W'.heap.size) m.policy.credit t.policy.credit := (h.credit.stay hs far).lst
theorem rates4 (hc : Cnt t) : ∀ z ∈ t.tax.zones, z.rates.length ≤ 4 := fun z hz => by have := hc.rates z hz; omega
end
theorem TT.setRound {Wr W W' : World} {b9 s0 s1 s2 s3 s4 s5 gz : Nat} {t : Rls} {m : Rls.Lay} {z0 : Zon} {zs : List Zon} {A0 : Option Addr} {n0 c0 : Nat} (h : TT Wr W b9 s0 s1 s2 s3 s4 s5 gz t m z0 zs A0 n0 c0) (x : Int) (hx : -9223372036854775808 ≤ x ∧ x ≤ 9223372036854775807) : Fin Wr (W.setCell ⟨b9, 4, none⟩ (.int .i64 x)) b9 := by
  have hle := h.le
  have hs : W.heap.size ≤ (W.setCell ⟨b9, 4, none⟩ (.int .i64 x)).heap.size := by simp
  have far : ∀ b, b ≠ b9 → (W.setCell ⟨b9, 4, none⟩ (.int .i64 x)).heap[b]? = W.heap[b]? := fun b hb => Below.heap_setCell W _ _ b hb
  have hlow : Wr.heap.size ≤ b9 := by omega
  exact ⟨⟨t.items, t.promos, ⟨t.tax.incl, t.tax.byOrder, x, t.tax.zones⟩, ⟨t.ship.fee, t.ship.free⟩, ⟨t.policy.window, t.policy.grace, t.policy.mode, t.policy.restock, t.policy.order, t.policy.credit⟩⟩, m, h.blk.put 4 (.int .i64 x), ⟨h.itemsAt hs fun b _ k => far b (by omega), h.promosAt hs fun b _ k => far b (by omega), ⟨hx, h.zonesAt hs fun b k _ => far b (by omega)⟩, h.ship, ⟨h.nums.1, h.nums.2.1, h.nums.2.2.1, h.nums.2.2.2, h.orderAt hs fun b _ k => far b (by omega), h.creditAt hs fun b _ k => far b (by omega)⟩⟩, lens_of (by show t.items.length ≤ 8; rw [h.cnt.items]; omega) (by show t.promos.length ≤ 7; have := h.cnt.promos; omega) (by show t.tax.zones.length ≤ 3; rw [h.cnt.zones]; omega) (by show t.policy.order.length ≤ 7; have := h.cnt.order; omega) (by show t.policy.credit.length ≤ 7; have := h.cnt.credit; omega) (fun z hz => rates4 h.cnt z hz) h.cnt.slight h.cnt.each, h.below.setCell hlow _⟩
theorem TT.setFee {Wr W W' : World} {b9 s0 s1 s2 s3 s4 s5 gz : Nat} {t : Rls} {m : Rls.Lay} {z0 : Zon} {zs : List Zon} {A0 : Option Addr} {n0 c0 : Nat} (h : TT Wr W b9 s0 s1 s2 s3 s4 s5 gz t m z0 zs A0 n0 c0) (x : Int) (hx : -9223372036854775808 ≤ x ∧ x ≤ 9223372036854775807) : Fin Wr (W.setCell ⟨b9, 6, none⟩ (.int .i64 x)) b9 := by
  have hle := h.le
  have hs : W.heap.size ≤ (W.setCell ⟨b9, 6, none⟩ (.int .i64 x)).heap.size := by simp
  have far : ∀ b, b ≠ b9 → (W.setCell ⟨b9, 6, none⟩ (.int .i64 x)).heap[b]? = W.heap[b]? := fun b hb => Below.heap_setCell W _ _ b hb
  have hlow : Wr.heap.size ≤ b9 := by omega
  exact ⟨⟨t.items, t.promos, ⟨t.tax.incl, t.tax.byOrder, t.tax.round, t.tax.zones⟩, ⟨x, t.ship.free⟩, ⟨t.policy.window, t.policy.grace, t.policy.mode, t.policy.restock, t.policy.order, t.policy.credit⟩⟩, m, h.blk.put 6 (.int .i64 x), ⟨h.itemsAt hs fun b _ k => far b (by omega), h.promosAt hs fun b _ k => far b (by omega), ⟨h.round, h.zonesAt hs fun b k _ => far b (by omega)⟩, ⟨hx, h.ship.free⟩, ⟨h.nums.1, h.nums.2.1, h.nums.2.2.1, h.nums.2.2.2, h.orderAt hs fun b _ k => far b (by omega), h.creditAt hs fun b _ k => far b (by omega)⟩⟩, lens_of (by show t.items.length ≤ 8; rw [h.cnt.items]; omega) (by show t.promos.length ≤ 7; have := h.cnt.promos; omega) (by show t.tax.zones.length ≤ 3; rw [h.cnt.zones]; omega) (by show t.policy.order.length ≤ 7; have := h.cnt.order; omega) (by show t.policy.credit.length ≤ 7; have := h.cnt.credit; omega) (fun z hz => rates4 h.cnt z hz) h.cnt.slight h.cnt.each, h.below.setCell hlow _⟩
theorem TT.setFree {Wr W W' : World} {b9 s0 s1 s2 s3 s4 s5 gz : Nat} {t : Rls} {m : Rls.Lay} {z0 : Zon} {zs : List Zon} {A0 : Option Addr} {n0 c0 : Nat} (h : TT Wr W b9 s0 s1 s2 s3 s4 s5 gz t m z0 zs A0 n0 c0) (x : Int) (hx : -9223372036854775808 ≤ x ∧ x ≤ 9223372036854775807) : Fin Wr (W.setCell ⟨b9, 7, none⟩ (.int .i64 x)) b9 := by
  have hle := h.le
  have hs : W.heap.size ≤ (W.setCell ⟨b9, 7, none⟩ (.int .i64 x)).heap.size := by simp
  have far : ∀ b, b ≠ b9 → (W.setCell ⟨b9, 7, none⟩ (.int .i64 x)).heap[b]? = W.heap[b]? := fun b hb => Below.heap_setCell W _ _ b hb
  have hlow : Wr.heap.size ≤ b9 := by omega
  exact ⟨⟨t.items, t.promos, ⟨t.tax.incl, t.tax.byOrder, t.tax.round, t.tax.zones⟩, ⟨t.ship.fee, x⟩, ⟨t.policy.window, t.policy.grace, t.policy.mode, t.policy.restock, t.policy.order, t.policy.credit⟩⟩, m, h.blk.put 7 (.int .i64 x), ⟨h.itemsAt hs fun b _ k => far b (by omega), h.promosAt hs fun b _ k => far b (by omega), ⟨h.round, h.zonesAt hs fun b k _ => far b (by omega)⟩, ⟨h.ship.fee, hx⟩, ⟨h.nums.1, h.nums.2.1, h.nums.2.2.1, h.nums.2.2.2, h.orderAt hs fun b _ k => far b (by omega), h.creditAt hs fun b _ k => far b (by omega)⟩⟩, lens_of (by show t.items.length ≤ 8; rw [h.cnt.items]; omega) (by show t.promos.length ≤ 7; have := h.cnt.promos; omega) (by show t.tax.zones.length ≤ 3; rw [h.cnt.zones]; omega) (by show t.policy.order.length ≤ 7; have := h.cnt.order; omega) (by show t.policy.credit.length ≤ 7; have := h.cnt.credit; omega) (fun z hz => rates4 h.cnt z hz) h.cnt.slight h.cnt.each, h.below.setCell hlow _⟩
theorem TT.setWindow {Wr W W' : World} {b9 s0 s1 s2 s3 s4 s5 gz : Nat} {t : Rls} {m : Rls.Lay} {z0 : Zon} {zs : List Zon} {A0 : Option Addr} {n0 c0 : Nat} (h : TT Wr W b9 s0 s1 s2 s3 s4 s5 gz t m z0 zs A0 n0 c0) (x : Int) (hx : -9223372036854775808 ≤ x ∧ x ≤ 9223372036854775807) : Fin Wr (W.setCell ⟨b9, 8, none⟩ (.int .i64 x)) b9 := by
  have hle := h.le
  have hs : W.heap.size ≤ (W.setCell ⟨b9, 8, none⟩ (.int .i64 x)).heap.size := by simp
  have far : ∀ b, b ≠ b9 → (W.setCell ⟨b9, 8, none⟩ (.int .i64 x)).heap[b]? = W.heap[b]? := fun b hb => Below.heap_setCell W _ _ b hb
  have hlow : Wr.heap.size ≤ b9 := by omega
  exact ⟨⟨t.items, t.promos, ⟨t.tax.incl, t.tax.byOrder, t.tax.round, t.tax.zones⟩, ⟨t.ship.fee, t.ship.free⟩, ⟨x, t.policy.grace, t.policy.mode, t.policy.restock, t.policy.order, t.policy.credit⟩⟩, m, h.blk.put 8 (.int .i64 x), ⟨h.itemsAt hs fun b _ k => far b (by omega), h.promosAt hs fun b _ k => far b (by omega), ⟨h.round, h.zonesAt hs fun b k _ => far b (by omega)⟩, h.ship, ⟨hx, h.nums.2.1, h.nums.2.2.1, h.nums.2.2.2, h.orderAt hs fun b _ k => far b (by omega), h.creditAt hs fun b _ k => far b (by omega)⟩⟩, lens_of (by show t.items.length ≤ 8; rw [h.cnt.items]; omega) (by show t.promos.length ≤ 7; have := h.cnt.promos; omega) (by show t.tax.zones.length ≤ 3; rw [h.cnt.zones]; omega) (by show t.policy.order.length ≤ 7; have := h.cnt.order; omega) (by show t.policy.credit.length ≤ 7; have := h.cnt.credit; omega) (fun z hz => rates4 h.cnt z hz) h.cnt.slight h.cnt.each, h.below.setCell hlow _⟩
theorem TT.setGrace {Wr W W' : World} {b9 s0 s1 s2 s3 s4 s5 gz : Nat} {t : Rls} {m : Rls.Lay} {z0 : Zon} {zs : List Zon} {A0 : Option Addr} {n0 c0 : Nat} (h : TT Wr W b9 s0 s1 s2 s3 s4 s5 gz t m z0 zs A0 n0 c0) (x : Int) (hx : -9223372036854775808 ≤ x ∧ x ≤ 9223372036854775807) : Fin Wr (W.setCell ⟨b9, 9, none⟩ (.int .i64 x)) b9 := by
  have hle := h.le
  have hs : W.heap.size ≤ (W.setCell ⟨b9, 9, none⟩ (.int .i64 x)).heap.size := by simp
  have far : ∀ b, b ≠ b9 → (W.setCell ⟨b9, 9, none⟩ (.int .i64 x)).heap[b]? = W.heap[b]? := fun b hb => Below.heap_setCell W _ _ b hb
  have hlow : Wr.heap.size ≤ b9 := by omega
  exact ⟨⟨t.items, t.promos, ⟨t.tax.incl, t.tax.byOrder, t.tax.round, t.tax.zones⟩, ⟨t.ship.fee, t.ship.free⟩, ⟨t.policy.window, x, t.policy.mode, t.policy.restock, t.policy.order, t.policy.credit⟩⟩, m, h.blk.put 9 (.int .i64 x), ⟨h.itemsAt hs fun b _ k => far b (by omega), h.promosAt hs fun b _ k => far b (by omega), ⟨h.round, h.zonesAt hs fun b k _ => far b (by omega)⟩, h.ship, ⟨h.nums.1, hx, h.nums.2.2.1, h.nums.2.2.2, h.orderAt hs fun b _ k => far b (by omega), h.creditAt hs fun b _ k => far b (by omega)⟩⟩, lens_of (by show t.items.length ≤ 8; rw [h.cnt.items]; omega) (by show t.promos.length ≤ 7; have := h.cnt.promos; omega) (by show t.tax.zones.length ≤ 3; rw [h.cnt.zones]; omega) (by show t.policy.order.length ≤ 7; have := h.cnt.order; omega) (by show t.policy.credit.length ≤ 7; have := h.cnt.credit; omega) (fun z hz => rates4 h.cnt z hz) h.cnt.slight h.cnt.each, h.below.setCell hlow _⟩
theorem TT.setMode {Wr W W' : World} {b9 s0 s1 s2 s3 s4 s5 gz : Nat} {t : Rls} {m : Rls.Lay} {z0 : Zon} {zs : List Zon} {A0 : Option Addr} {n0 c0 : Nat} (h : TT Wr W b9 s0 s1 s2 s3 s4 s5 gz t m z0 zs A0 n0 c0) (x : Int) (hx : -9223372036854775808 ≤ x ∧ x ≤ 9223372036854775807) : Fin Wr (W.setCell ⟨b9, 10, none⟩ (.int .i64 x)) b9 := by
  have hle := h.le
  have hs : W.heap.size ≤ (W.setCell ⟨b9, 10, none⟩ (.int .i64 x)).heap.size := by simp
  have far : ∀ b, b ≠ b9 → (W.setCell ⟨b9, 10, none⟩ (.int .i64 x)).heap[b]? = W.heap[b]? := fun b hb => Below.heap_setCell W _ _ b hb
  have hlow : Wr.heap.size ≤ b9 := by omega
  exact ⟨⟨t.items, t.promos, ⟨t.tax.incl, t.tax.byOrder, t.tax.round, t.tax.zones⟩, ⟨t.ship.fee, t.ship.free⟩, ⟨t.policy.window, t.policy.grace, x, t.policy.restock, t.policy.order, t.policy.credit⟩⟩, m, h.blk.put 10 (.int .i64 x), ⟨h.itemsAt hs fun b _ k => far b (by omega), h.promosAt hs fun b _ k => far b (by omega), ⟨h.round, h.zonesAt hs fun b k _ => far b (by omega)⟩, h.ship, ⟨h.nums.1, h.nums.2.1, hx, h.nums.2.2.2, h.orderAt hs fun b _ k => far b (by omega), h.creditAt hs fun b _ k => far b (by omega)⟩⟩, lens_of (by show t.items.length ≤ 8; rw [h.cnt.items]; omega) (by show t.promos.length ≤ 7; have := h.cnt.promos; omega) (by show t.tax.zones.length ≤ 3; rw [h.cnt.zones]; omega) (by show t.policy.order.length ≤ 7; have := h.cnt.order; omega) (by show t.policy.credit.length ≤ 7; have := h.cnt.credit; omega) (fun z hz => rates4 h.cnt z hz) h.cnt.slight h.cnt.each, h.below.setCell hlow _⟩
theorem TT.setRestock {Wr W W' : World} {b9 s0 s1 s2 s3 s4 s5 gz : Nat} {t : Rls} {m : Rls.Lay} {z0 : Zon} {zs : List Zon} {A0 : Option Addr} {n0 c0 : Nat} (h : TT Wr W b9 s0 s1 s2 s3 s4 s5 gz t m z0 zs A0 n0 c0) (x : Int) (hx : -9223372036854775808 ≤ x ∧ x ≤ 9223372036854775807) : Fin Wr (W.setCell ⟨b9, 11, none⟩ (.int .i64 x)) b9 := by
  have hle := h.le
  have hs : W.heap.size ≤ (W.setCell ⟨b9, 11, none⟩ (.int .i64 x)).heap.size := by simp
  have far : ∀ b, b ≠ b9 → (W.setCell ⟨b9, 11, none⟩ (.int .i64 x)).heap[b]? = W.heap[b]? := fun b hb => Below.heap_setCell W _ _ b hb
  have hlow : Wr.heap.size ≤ b9 := by omega
  exact ⟨⟨t.items, t.promos, ⟨t.tax.incl, t.tax.byOrder, t.tax.round, t.tax.zones⟩, ⟨t.ship.fee, t.ship.free⟩, ⟨t.policy.window, t.policy.grace, t.policy.mode, x, t.policy.order, t.policy.credit⟩⟩, m, h.blk.put 11 (.int .i64 x), ⟨h.itemsAt hs fun b _ k => far b (by omega), h.promosAt hs fun b _ k => far b (by omega), ⟨h.round, h.zonesAt hs fun b k _ => far b (by omega)⟩, h.ship, ⟨h.nums.1, h.nums.2.1, h.nums.2.2.1, hx, h.orderAt hs fun b _ k => far b (by omega), h.creditAt hs fun b _ k => far b (by omega)⟩⟩, lens_of (by show t.items.length ≤ 8; rw [h.cnt.items]; omega) (by show t.promos.length ≤ 7; have := h.cnt.promos; omega) (by show t.tax.zones.length ≤ 3; rw [h.cnt.zones]; omega) (by show t.policy.order.length ≤ 7; have := h.cnt.order; omega) (by show t.policy.credit.length ≤ 7; have := h.cnt.credit; omega) (fun z hz => rates4 h.cnt z hz) h.cnt.slight h.cnt.each, h.below.setCell hlow _⟩
theorem TT.setPrice {Wr W W' : World} {b9 s0 s1 s2 s3 s4 s5 gz : Nat} {t : Rls} {m : Rls.Lay} {z0 : Zon} {zs : List Zon} {A0 : Option Addr} {n0 c0 : Nat} (h : TT Wr W b9 s0 s1 s2 s3 s4 s5 gz t m z0 zs A0 n0 c0) (j : Nat) (hj : j < 8) (x : Int) (hx : -9223372036854775808 ≤ x ∧ x ≤ 9223372036854775807) : ∃ gi, m.items.A = some ⟨gi, 0, none⟩ ∧ m.items.n = 8 ∧ gi ≠ b9 ∧ (∃ u, W.cell? ⟨gi, j * 4 + 2, none⟩ = some u) ∧ W.frozen? ⟨gi, j * 4 + 2, none⟩ = false ∧ Fin Wr (W.setCell ⟨gi, j * 4 + 2, none⟩ (.int .i64 x)) b9 := by
  have hle := h.le
  have hn : m.items.n = 8 := by rw [← h.items.own.1]; exact h.cnt.items
  obtain ⟨gi, hA, hg1, hg2⟩ := h.items.own.first (by omega)
  have hown := h.items.own
  have htop := h.items.top gi (by rw [hA]; rfl)
  rw [hA] at hown
  obtain ⟨y, hy⟩ : ∃ y, t.items[j]? = some y := ⟨_, List.getElem?_eq_getElem (by rw [h.cnt.items]; exact hj)⟩
  obtain ⟨hc1, hc2⟩ := hown.cell (k := j) (j := 2) (by omega) (by decide)
  have hput := hown.turn (j := 2) (u := .int .i64 x) (x' := ⟨y.sku, y.cat, x, y.fin⟩) hy (by decide) (fun k => by
    obtain ⟨rfl, hok⟩ := It.item_rep.1 k
    exact It.item_rep.2 ⟨rfl, hok.sku, hok.cat, hx.1, hx.2⟩) (fun q k e => k.2.2 (by rw [e]; rfl))
  have hblk := h.blk.lt
  have hne : gi ≠ b9 := by omega
  have hs : W.heap.size ≤ (W.setCell ⟨gi, j * 4 + 2, none⟩ (.int .i64 x)).heap.size := by simp
  have far : ∀ b, b ≠ gi → (W.setCell ⟨gi, j * 4 + 2, none⟩ (.int .i64 x)).heap[b]? = W.heap[b]? := fun b hb => Below.heap_setCell W _ _ b hb
  have hlst : Lst kItem (W.setCell ⟨gi, j * 4 + 2, none⟩ (.int .i64 x)) (· < (W.setCell ⟨gi, j * 4 + 2, none⟩ (.int .i64 x)).heap.size) m.items (t.items.set j ⟨y.sku, y.cat, x, y.fin⟩) := by
    have h3 := (hput.1.more (G := (· < (W.setCell ⟨gi, j * 4 + 2, none⟩ (.int .i64 x)).heap.size)) fun b k => by have := h.items.le; omega).row (fun g hg => by injection hg with hg; have e : gi = g := hg; omega)
    exact ⟨by rw [hA]; exact h3, by rw [hA]; exact hput.1.fit⟩
  refine ⟨gi, hA, hn, hne, hc1, hc2, ⟨t.items.set j ⟨y.sku, y.cat, x, y.fin⟩, t.promos, ⟨t.tax.incl, t.tax.byOrder, t.tax.round, t.tax.zones⟩, ⟨t.ship.fee, t.ship.free⟩, ⟨t.policy.window, t.policy.grace, t.policy.mode, t.policy.restock, t.policy.order, t.policy.credit⟩⟩, m, Py.blk_far2 h.blk (fun e => hne e.symm), ⟨hlst, h.promosAt hs fun b _ k => far b (by omega), ⟨h.round, h.zonesAt hs fun b k _ => far b (by omega)⟩, h.ship, ⟨h.nums.1, h.nums.2.1, h.nums.2.2.1, h.nums.2.2.2, h.orderAt hs fun b _ k => far b (by omega), h.creditAt hs fun b _ k => far b (by omega)⟩⟩, lens_of (by show (t.items.set j _).length ≤ 8; rw [List.length_set, h.cnt.items]; omega) (by show t.promos.length ≤ 7; have := h.cnt.promos; omega) (by show t.tax.zones.length ≤ 3; rw [h.cnt.zones]; omega) (by show t.policy.order.length ≤ 7; have := h.cnt.order; omega) (by show t.policy.credit.length ≤ 7; have := h.cnt.credit; omega) (fun z hz => rates4 h.cnt z hz) h.cnt.slight h.cnt.each, h.below.setCell (by show Wr.heap.size ≤ gi; omega) _⟩
theorem TT.setName {Wr W W' : World} {b9 s0 s1 s2 s3 s4 s5 gz : Nat} {t : Rls} {m : Rls.Lay} {z0 : Zon} {zs : List Zon} {A0 : Option Addr} {n0 c0 : Nat} (h : TT Wr W b9 s0 s1 s2 s3 s4 s5 gz t m z0 zs A0 n0 c0) (j : Nat) (hj : j < 3) (s : ByteArray) (hsz : s.size ≤ maxLen) : gz ≠ b9 ∧ (∃ u, W.cell? ⟨gz, j * 4 + 0, none⟩ = some u) ∧ W.frozen? ⟨gz, j * 4 + 0, none⟩ = false ∧ Fin Wr (W.setCell ⟨gz, j * 4 + 0, none⟩ (.string s)) b9 := by
  have hle := h.le
  have hlt := h.zlt
  have hbl := h.blk.lt
  have hown := h.zown
  obtain ⟨y, hy⟩ : ∃ y, (z0 :: zs)[j]? = some y := ⟨_, List.getElem?_eq_getElem (by rw [← h.hz, h.cnt.zones]; exact hj)⟩
  obtain ⟨hc1, hc2⟩ := hown.cell (k := j) (j := 0) (by rw [h.zn]; exact hj) (by decide)
  have hput := hown.turn (j := 0) (u := .string s) (x' := ⟨s, y.rates, y.rest, y.ship⟩) hy (by decide) (fun k => by
    obtain ⟨lz, rfl, hok⟩ := Zon_rep.1 k
    exact Zon_rep.2 ⟨lz, rfl, ⟨hsz, hok.rates, hok.rest, hok.ship⟩⟩) (fun q k => k.2.2)
  have hne : gz ≠ b9 := by omega
  have hs : W.heap.size ≤ (W.setCell ⟨gz, j * 4 + 0, none⟩ (.string s)).heap.size := by simp
  have far : ∀ b, b ≠ gz → (W.setCell ⟨gz, j * 4 + 0, none⟩ (.string s)).heap[b]? = W.heap[b]? := fun b hb => Below.heap_setCell W _ _ b hb
  have hlst : Lst kZon (W.setCell ⟨gz, j * 4 + 0, none⟩ (.string s)) (· < (W.setCell ⟨gz, j * 4 + 0, none⟩ (.string s)).heap.size) m.tax.zones ((z0 :: zs).set j ⟨s, y.rates, y.rest, y.ship⟩) := by
    have h3 := (hput.1.more (G := (· < (W.setCell ⟨gz, j * 4 + 0, none⟩ (.string s)).heap.size)) fun b k => Nat.lt_of_lt_of_le k.2.1 hs).row (fun g hg => by injection hg with hg; have e : gz = g := hg; omega)
    exact ⟨by rw [h.za]; exact h3, by rw [h.za]; exact hput.1.fit⟩
  have hr : ∀ z ∈ (z0 :: zs).set j ⟨s, y.rates, y.rest, y.ship⟩, z.rates.length ≤ 4 := fun z hz => by
    rcases List.mem_or_eq_of_mem_set hz with h1 | rfl
    · exact rates4 h.cnt z (by rw [h.hz]; exact h1)
    · exact rates4 h.cnt y (by rw [h.hz]; exact List.mem_of_getElem? hy)
  refine ⟨hne, hc1, hc2, ⟨t.items, t.promos, ⟨t.tax.incl, t.tax.byOrder, t.tax.round, (z0 :: zs).set j ⟨s, y.rates, y.rest, y.ship⟩⟩, ⟨t.ship.fee, t.ship.free⟩, ⟨t.policy.window, t.policy.grace, t.policy.mode, t.policy.restock, t.policy.order, t.policy.credit⟩⟩, m, Py.blk_far2 h.blk (fun e => hne e.symm), ⟨h.itemsAt hs fun b _ k => far b (by omega), h.promosAt hs fun b _ k => far b (by omega), ⟨h.round, hlst⟩, h.ship, ⟨h.nums.1, h.nums.2.1, h.nums.2.2.1, h.nums.2.2.2, h.orderAt hs fun b _ k => far b (by omega), h.creditAt hs fun b _ k => far b (by omega)⟩⟩, lens_of (by show t.items.length ≤ 8; rw [h.cnt.items]; omega) (by show t.promos.length ≤ 7; have := h.cnt.promos; omega) (by show ((z0 :: zs).set j _).length ≤ 3; rw [List.length_set, ← h.hz, h.cnt.zones]; omega) (by show t.policy.order.length ≤ 7; have := h.cnt.order; omega) (by show t.policy.credit.length ≤ 7; have := h.cnt.credit; omega) hr h.cnt.slight h.cnt.each, h.below.setCell (by show Wr.heap.size ≤ gz; omega) _⟩
theorem TT.setRest {Wr W W' : World} {b9 s0 s1 s2 s3 s4 s5 gz : Nat} {t : Rls} {m : Rls.Lay} {z0 : Zon} {zs : List Zon} {A0 : Option Addr} {n0 c0 : Nat} (h : TT Wr W b9 s0 s1 s2 s3 s4 s5 gz t m z0 zs A0 n0 c0) (j : Nat) (hj : j < 3) (x : Int) (hx : -9223372036854775808 ≤ x ∧ x ≤ 9223372036854775807) : gz ≠ b9 ∧ (∃ u, W.cell? ⟨gz, j * 4 + 2, none⟩ = some u) ∧ W.frozen? ⟨gz, j * 4 + 2, none⟩ = false ∧ Fin Wr (W.setCell ⟨gz, j * 4 + 2, none⟩ (.int .i64 x)) b9 := by
  have hle := h.le
  have hlt := h.zlt
  have hbl := h.blk.lt
  have hown := h.zown
  obtain ⟨y, hy⟩ : ∃ y, (z0 :: zs)[j]? = some y := ⟨_, List.getElem?_eq_getElem (by rw [← h.hz, h.cnt.zones]; exact hj)⟩
  obtain ⟨hc1, hc2⟩ := hown.cell (k := j) (j := 2) (by rw [h.zn]; exact hj) (by decide)
  have hput := hown.turn (j := 2) (u := .int .i64 x) (x' := ⟨y.name, y.rates, x, y.ship⟩) hy (by decide) (fun k => by
    obtain ⟨lz, rfl, hok⟩ := Zon_rep.1 k
    exact Zon_rep.2 ⟨lz, rfl, ⟨hok.name, hok.rates, hx, hok.ship⟩⟩) (fun q k => k.2.2)
  have hne : gz ≠ b9 := by omega
  have hs : W.heap.size ≤ (W.setCell ⟨gz, j * 4 + 2, none⟩ (.int .i64 x)).heap.size := by simp
  have far : ∀ b, b ≠ gz → (W.setCell ⟨gz, j * 4 + 2, none⟩ (.int .i64 x)).heap[b]? = W.heap[b]? := fun b hb => Below.heap_setCell W _ _ b hb
  have hlst : Lst kZon (W.setCell ⟨gz, j * 4 + 2, none⟩ (.int .i64 x)) (· < (W.setCell ⟨gz, j * 4 + 2, none⟩ (.int .i64 x)).heap.size) m.tax.zones ((z0 :: zs).set j ⟨y.name, y.rates, x, y.ship⟩) := by
    have h3 := (hput.1.more (G := (· < (W.setCell ⟨gz, j * 4 + 2, none⟩ (.int .i64 x)).heap.size)) fun b k => Nat.lt_of_lt_of_le k.2.1 hs).row (fun g hg => by injection hg with hg; have e : gz = g := hg; omega)
    exact ⟨by rw [h.za]; exact h3, by rw [h.za]; exact hput.1.fit⟩
  have hr : ∀ z ∈ (z0 :: zs).set j ⟨y.name, y.rates, x, y.ship⟩, z.rates.length ≤ 4 := fun z hz => by
    rcases List.mem_or_eq_of_mem_set hz with h1 | rfl
    · exact rates4 h.cnt z (by rw [h.hz]; exact h1)
    · exact rates4 h.cnt y (by rw [h.hz]; exact List.mem_of_getElem? hy)
  refine ⟨hne, hc1, hc2, ⟨t.items, t.promos, ⟨t.tax.incl, t.tax.byOrder, t.tax.round, (z0 :: zs).set j ⟨y.name, y.rates, x, y.ship⟩⟩, ⟨t.ship.fee, t.ship.free⟩, ⟨t.policy.window, t.policy.grace, t.policy.mode, t.policy.restock, t.policy.order, t.policy.credit⟩⟩, m, Py.blk_far2 h.blk (fun e => hne e.symm), ⟨h.itemsAt hs fun b _ k => far b (by omega), h.promosAt hs fun b _ k => far b (by omega), ⟨h.round, hlst⟩, h.ship, ⟨h.nums.1, h.nums.2.1, h.nums.2.2.1, h.nums.2.2.2, h.orderAt hs fun b _ k => far b (by omega), h.creditAt hs fun b _ k => far b (by omega)⟩⟩, lens_of (by show t.items.length ≤ 8; rw [h.cnt.items]; omega) (by show t.promos.length ≤ 7; have := h.cnt.promos; omega) (by show ((z0 :: zs).set j _).length ≤ 3; rw [List.length_set, ← h.hz, h.cnt.zones]; omega) (by show t.policy.order.length ≤ 7; have := h.cnt.order; omega) (by show t.policy.credit.length ≤ 7; have := h.cnt.credit; omega) hr h.cnt.slight h.cnt.each, h.below.setCell (by show Wr.heap.size ≤ gz; omega) _⟩
def lateP (s : ByteArray) : Prm := ⟨s, 1, 0, ⟨#[]⟩, ⟨#[]⟩, false, ⟨[], []⟩, 0, 5, 0, 0, 0, [], []⟩
theorem lateP_rep {w : World} {F : Nat → Prop} {s : ByteArray} (hs : s.size ≤ maxLen) : kPrm.rep w F (lateP s) [.string s, .int .i64 1, .int .i64 0, .string ⟨#[]⟩, .string ⟨#[]⟩, .bool false, .slice none 0 0, .slice none 0 0, .int .i64 0, .int .i64 5, .int .i64 0, .int .i64 0, .int .i64 0, .slice none 0 0, .slice none 0 0] :=
  Ap.Prm_rep.2 ⟨⟨⟨⟨none, 0, 0⟩, ⟨none, 0, 0⟩⟩, ⟨none, 0, 0⟩, ⟨none, 0, 0⟩⟩, rfl, hs, ⟨by show (-9223372036854775808 : Int) ≤ 1; omega, by show (1 : Int) ≤ 9223372036854775807; omega⟩, ⟨by show (-9223372036854775808 : Int) ≤ 0; omega, by show (0 : Int) ≤ 9223372036854775807; omega⟩, by show (0 : Nat) ≤ maxLen; unfold maxLen; omega, by show (0 : Nat) ≤ maxLen; unfold maxLen; omega, ⟨nil_lst _ _ _, nil_lst _ _ _⟩, ⟨by show (-9223372036854775808 : Int) ≤ 0; omega, by show (0 : Int) ≤ 9223372036854775807; omega⟩, ⟨by show (-9223372036854775808 : Int) ≤ 5; omega, by show (5 : Int) ≤ 9223372036854775807; omega⟩, ⟨by show (-9223372036854775808 : Int) ≤ 0; omega, by show (0 : Int) ≤ 9223372036854775807; omega⟩, ⟨by show (-9223372036854775808 : Int) ≤ 0; omega, by show (0 : Int) ≤ 9223372036854775807; omega⟩, ⟨by show (-9223372036854775808 : Int) ≤ 0; omega, by show (0 : Int) ≤ 9223372036854775807; omega⟩, nil_lst _ _ _, nil_lst _ _ _⟩
theorem slights_push {l : List Prm} {s : ByteArray} (h : Pm.Slights l) : Pm.Slights (l ++ [lateP s]) := fun k p hk => by
  rcases List.mem_append.1 (List.mem_of_getElem? hk) with h1 | h1
  · obtain ⟨j, hj⟩ := List.mem_iff_getElem?.1 h1
    exact h j p hj
  · obtain rfl : p = lateP s := List.mem_singleton.1 h1
    exact ⟨by show (0 : Nat) ≤ _; omega, by show (0 : Nat) ≤ _; omega, fun k q hq => by simp [lateP] at hq, by show (0 : Nat) ≤ _; omega, by show (0 : Nat) ≤ _; omega⟩
theorem each_push {l : List Prm} {s : ByteArray} (h : ∀ p ∈ l, SmallP p) : ∀ p ∈ l ++ [lateP s], SmallP p := fun p hp => by
  rcases List.mem_append.1 hp with h1 | h1
  · exact h p h1
  · obtain rfl : p = lateP s := List.mem_singleton.1 h1
    exact ⟨⟨by show (0 : Nat) ≤ _; omega, by show (0 : Nat) ≤ _; omega⟩, by show (0 : Nat) ≤ _; omega, fun q hq => by simp [lateP] at hq, by show (0 : Nat) ≤ _; omega⟩
theorem TT.pushPromo {Wr W W' : World} {b9 s0 s1 s2 s3 s4 s5 gz : Nat} {t : Rls} {m : Rls.Lay} {z0 : Zon} {zs : List Zon} {A0 : Option Addr} {n0 c0 : Nat} (h : TT Wr W b9 s0 s1 s2 s3 s4 s5 gz t m z0 zs A0 n0 c0) {w9 : World} {g1 cap : Nat} {s : ByteArray} (hown : Own kPrm w9 s1 51 (fun b => s1 ≤ b ∧ b < s2 ∧ (Value.slice m.promos.A m.promos.n m.promos.c).ownBlock ≠ some b) (.slice (some ⟨g1, 0, none⟩) (m.promos.n + 1) cap) (m.promos.n + 1) (t.promos ++ [lateP s])) (hgrow : W.grownBy w9 (Value.slice m.promos.A m.promos.n m.promos.c).ownBlock) (hfr : (Value.slice m.promos.A m.promos.n m.promos.c).ownBlock = some g1 ∨ W.heap.size ≤ g1) : Fin Wr (w9.setCell ⟨b9, 1, none⟩ (.slice (some ⟨g1, 0, none⟩) (m.promos.n + 1) cap)) b9 ∧ Qu.Blk w9 b9 33 #[.slice m.items.A m.items.n m.items.c, .slice m.promos.A m.promos.n m.promos.c, .bool t.tax.incl, .bool t.tax.byOrder, .int .i64 t.tax.round, .slice m.tax.zones.A m.tax.zones.n m.tax.zones.c, .int .i64 t.ship.fee, .int .i64 t.ship.free, .int .i64 t.policy.window, .int .i64 t.policy.grace, .int .i64 t.policy.mode, .int .i64 t.policy.restock, .slice m.policy.order.A m.policy.order.n m.policy.order.c, .slice m.policy.credit.A m.policy.credit.n m.policy.credit.c] := by
  have hle := h.le
  have hbl := h.blk.lt
  have hzl := h.zlt
  have hlow : ∀ g, (Value.slice m.promos.A m.promos.n m.promos.c).ownBlock = some g → s1 ≤ g ∧ g < s2 := fun g hg => ⟨(h.promos.own.low g hg).1, h.promos.top g hg⟩
  have hg1 : g1 ≠ b9 := by
    rcases hfr with e | e
    · have := hlow g1 e; omega
    · omega
  have hb9 : Qu.Blk w9 b9 33 #[.slice m.items.A m.items.n m.items.c, .slice m.promos.A m.promos.n m.promos.c, .bool t.tax.incl, .bool t.tax.byOrder, .int .i64 t.tax.round, .slice m.tax.zones.A m.tax.zones.n m.tax.zones.c, .int .i64 t.ship.fee, .int .i64 t.ship.free, .int .i64 t.policy.window, .int .i64 t.policy.grace, .int .i64 t.policy.mode, .int .i64 t.policy.restock, .slice m.policy.order.A m.policy.order.n m.policy.order.c, .slice m.policy.credit.A m.policy.credit.n m.policy.credit.c] := h.blk.grown hgrow fun e => by have := hlow b9 e.symm; omega
  obtain ⟨W', hW'⟩ : ∃ W', w9.setCell ⟨b9, 1, none⟩ (.slice (some ⟨g1, 0, none⟩) (m.promos.n + 1) cap) = W' := ⟨_, rfl⟩
  have hs9 : w9.heap.size ≤ W'.heap.size := by rw [← hW']; simp
  have hs : W.heap.size ≤ W'.heap.size := Nat.le_trans hgrow.size hs9
  have far9 : ∀ b, b ≠ b9 → W'.heap[b]? = w9.heap[b]? := fun b hb => by rw [← hW']; exact Below.heap_setCell w9 _ _ b hb
  have far : ∀ b, b < W.heap.size → b ≠ b9 → ¬ (s1 ≤ b ∧ b < s2) → W'.heap[b]? = W.heap[b]? := fun b hb h1 h2 => (far9 b h1).trans (hgrow.block b hb fun e => h2 (hlow b e.symm))
  have h1 := hown.stay (w' := W') (fun b k => far9 b (by omega)) (fun g hg => far9 g (by injection hg with hg; have e : g1 = g := hg; omega))
  have hlst : Lst kPrm W' (· < W'.heap.size) ⟨some ⟨g1, 0, none⟩, m.promos.n + 1, cap⟩ (t.promos ++ [lateP s]) := ⟨(h1.more (G := (· < W'.heap.size)) fun b k => by omega).row (fun g hg => (h1.low g hg).2), h1.fit⟩
  have hb : Below Wr.heap.size Wr W' := by
    rw [← hW']
    exact (h.below.grown hgrow h.below.size fun k hk => by have := hlow k hk; omega).setCell (by show Wr.heap.size ≤ b9; omega) _
  rw [hW']
  refine ⟨⟨⟨t.items, t.promos ++ [lateP s], ⟨t.tax.incl, t.tax.byOrder, t.tax.round, t.tax.zones⟩, ⟨t.ship.fee, t.ship.free⟩, ⟨t.policy.window, t.policy.grace, t.policy.mode, t.policy.restock, t.policy.order, t.policy.credit⟩⟩, ⟨m.items, ⟨some ⟨g1, 0, none⟩, m.promos.n + 1, cap⟩, m.tax, ⟨m.policy.order, m.policy.credit⟩⟩, by rw [← hW']; exact hb9.put 1 (.slice (some ⟨g1, 0, none⟩) (m.promos.n + 1) cap), ⟨h.itemsAt hs (fun b k1 k2 => far b (by omega) (by omega) (by omega)), hlst, ⟨h.round, h.zonesAt hs (fun b k1 k2 => far b k2 (by omega) (by omega))⟩, h.ship, ⟨h.nums.1, h.nums.2.1, h.nums.2.2.1, h.nums.2.2.2, h.orderAt hs (fun b k1 k2 => far b (by omega) (by omega) (by omega)), h.creditAt hs (fun b k1 k2 => far b (by omega) (by omega) (by omega))⟩⟩, lens_of (by show t.items.length ≤ 8; rw [h.cnt.items]; omega) (by show (t.promos ++ [_]).length ≤ 7; rw [List.length_append, List.length_singleton]; have := h.cnt.promos; omega) (by show t.tax.zones.length ≤ 3; rw [h.cnt.zones]; omega) (by show t.policy.order.length ≤ 7; have := h.cnt.order; omega) (by show t.policy.credit.length ≤ 7; have := h.cnt.credit; omega) (fun z hz => rates4 h.cnt z hz) (slights_push h.cnt.slight) (each_push h.cnt.each), hb⟩, hb9⟩
theorem TT.pushOrder {Wr W W' : World} {b9 s0 s1 s2 s3 s4 s5 gz : Nat} {t : Rls} {m : Rls.Lay} {z0 : Zon} {zs : List Zon} {A0 : Option Addr} {n0 c0 : Nat} (h : TT Wr W b9 s0 s1 s2 s3 s4 s5 gz t m z0 zs A0 n0 c0) {w9 : World} {g1 cap : Nat} {x : Int} (hown : Own kInt w9 s3 3 (fun b => s3 ≤ b ∧ b < s4 ∧ (Value.slice m.policy.order.A m.policy.order.n m.policy.order.c).ownBlock ≠ some b) (.slice (some ⟨g1, 0, none⟩) (m.policy.order.n + 1) cap) (m.policy.order.n + 1) (t.policy.order ++ [x])) (hgrow : W.grownBy w9 (Value.slice m.policy.order.A m.policy.order.n m.policy.order.c).ownBlock) (hfr : (Value.slice m.policy.order.A m.policy.order.n m.policy.order.c).ownBlock = some g1 ∨ W.heap.size ≤ g1) : Fin Wr (w9.setCell ⟨b9, 12, none⟩ (.slice (some ⟨g1, 0, none⟩) (m.policy.order.n + 1) cap)) b9 ∧ Qu.Blk w9 b9 33 #[.slice m.items.A m.items.n m.items.c, .slice m.promos.A m.promos.n m.promos.c, .bool t.tax.incl, .bool t.tax.byOrder, .int .i64 t.tax.round, .slice m.tax.zones.A m.tax.zones.n m.tax.zones.c, .int .i64 t.ship.fee, .int .i64 t.ship.free, .int .i64 t.policy.window, .int .i64 t.policy.grace, .int .i64 t.policy.mode, .int .i64 t.policy.restock, .slice m.policy.order.A m.policy.order.n m.policy.order.c, .slice m.policy.credit.A m.policy.credit.n m.policy.credit.c] := by
  have hle := h.le
  have hbl := h.blk.lt
  have hzl := h.zlt
  have hlow : ∀ g, (Value.slice m.policy.order.A m.policy.order.n m.policy.order.c).ownBlock = some g → s3 ≤ g ∧ g < s4 := fun g hg => ⟨(h.order.own.low g hg).1, h.order.top g hg⟩
  have hg1 : g1 ≠ b9 := by
    rcases hfr with e | e
    · have := hlow g1 e; omega
    · omega
  have hb9 : Qu.Blk w9 b9 33 #[.slice m.items.A m.items.n m.items.c, .slice m.promos.A m.promos.n m.promos.c, .bool t.tax.incl, .bool t.tax.byOrder, .int .i64 t.tax.round, .slice m.tax.zones.A m.tax.zones.n m.tax.zones.c, .int .i64 t.ship.fee, .int .i64 t.ship.free, .int .i64 t.policy.window, .int .i64 t.policy.grace, .int .i64 t.policy.mode, .int .i64 t.policy.restock, .slice m.policy.order.A m.policy.order.n m.policy.order.c, .slice m.policy.credit.A m.policy.credit.n m.policy.credit.c] := h.blk.grown hgrow fun e => by have := hlow b9 e.symm; omega
  obtain ⟨W', hW'⟩ : ∃ W', w9.setCell ⟨b9, 12, none⟩ (.slice (some ⟨g1, 0, none⟩) (m.policy.order.n + 1) cap) = W' := ⟨_, rfl⟩
  have hs9 : w9.heap.size ≤ W'.heap.size := by rw [← hW']; simp
  have hs : W.heap.size ≤ W'.heap.size := Nat.le_trans hgrow.size hs9
  have far9 : ∀ b, b ≠ b9 → W'.heap[b]? = w9.heap[b]? := fun b hb => by rw [← hW']; exact Below.heap_setCell w9 _ _ b hb
  have far : ∀ b, b < W.heap.size → b ≠ b9 → ¬ (s3 ≤ b ∧ b < s4) → W'.heap[b]? = W.heap[b]? := fun b hb h1 h2 => (far9 b h1).trans (hgrow.block b hb fun e => h2 (hlow b e.symm))
  have h1 := hown.stay (w' := W') (fun b k => far9 b (by omega)) (fun g hg => far9 g (by injection hg with hg; have e : g1 = g := hg; omega))
  have hlst : Lst kInt W' (· < W'.heap.size) ⟨some ⟨g1, 0, none⟩, m.policy.order.n + 1, cap⟩ (t.policy.order ++ [x]) := ⟨(h1.more (G := (· < W'.heap.size)) fun b k => by omega).row (fun g hg => (h1.low g hg).2), h1.fit⟩
  have hb : Below Wr.heap.size Wr W' := by
    rw [← hW']
    exact (h.below.grown hgrow h.below.size fun k hk => by have := hlow k hk; omega).setCell (by show Wr.heap.size ≤ b9; omega) _
  rw [hW']
  refine ⟨⟨⟨t.items, t.promos, ⟨t.tax.incl, t.tax.byOrder, t.tax.round, t.tax.zones⟩, ⟨t.ship.fee, t.ship.free⟩, ⟨t.policy.window, t.policy.grace, t.policy.mode, t.policy.restock, t.policy.order ++ [x], t.policy.credit⟩⟩, ⟨m.items, m.promos, m.tax, ⟨⟨some ⟨g1, 0, none⟩, m.policy.order.n + 1, cap⟩, m.policy.credit⟩⟩, by rw [← hW']; exact hb9.put 12 (.slice (some ⟨g1, 0, none⟩) (m.policy.order.n + 1) cap), ⟨h.itemsAt hs (fun b k1 k2 => far b (by omega) (by omega) (by omega)), h.promosAt hs (fun b k1 k2 => far b (by omega) (by omega) (by omega)), ⟨h.round, h.zonesAt hs (fun b k1 k2 => far b k2 (by omega) (by omega))⟩, h.ship, ⟨h.nums.1, h.nums.2.1, h.nums.2.2.1, h.nums.2.2.2, hlst, h.creditAt hs (fun b k1 k2 => far b (by omega) (by omega) (by omega))⟩⟩, lens_of (by show t.items.length ≤ 8; rw [h.cnt.items]; omega) (by show t.promos.length ≤ 7; have := h.cnt.promos; omega) (by show t.tax.zones.length ≤ 3; rw [h.cnt.zones]; omega) (by show (t.policy.order ++ [_]).length ≤ 7; rw [List.length_append, List.length_singleton]; have := h.cnt.order; omega) (by show t.policy.credit.length ≤ 7; have := h.cnt.credit; omega) (fun z hz => rates4 h.cnt z hz) h.cnt.slight h.cnt.each, hb⟩, hb9⟩
theorem TT.pushCredit {Wr W W' : World} {b9 s0 s1 s2 s3 s4 s5 gz : Nat} {t : Rls} {m : Rls.Lay} {z0 : Zon} {zs : List Zon} {A0 : Option Addr} {n0 c0 : Nat} (h : TT Wr W b9 s0 s1 s2 s3 s4 s5 gz t m z0 zs A0 n0 c0) {w9 : World} {g1 cap : Nat} {x : Int} (hown : Own kInt w9 s4 3 (fun b => s4 ≤ b ∧ b < s5 ∧ (Value.slice m.policy.credit.A m.policy.credit.n m.policy.credit.c).ownBlock ≠ some b) (.slice (some ⟨g1, 0, none⟩) (m.policy.credit.n + 1) cap) (m.policy.credit.n + 1) (t.policy.credit ++ [x])) (hgrow : W.grownBy w9 (Value.slice m.policy.credit.A m.policy.credit.n m.policy.credit.c).ownBlock) (hfr : (Value.slice m.policy.credit.A m.policy.credit.n m.policy.credit.c).ownBlock = some g1 ∨ W.heap.size ≤ g1) : Fin Wr (w9.setCell ⟨b9, 13, none⟩ (.slice (some ⟨g1, 0, none⟩) (m.policy.credit.n + 1) cap)) b9 ∧ Qu.Blk w9 b9 33 #[.slice m.items.A m.items.n m.items.c, .slice m.promos.A m.promos.n m.promos.c, .bool t.tax.incl, .bool t.tax.byOrder, .int .i64 t.tax.round, .slice m.tax.zones.A m.tax.zones.n m.tax.zones.c, .int .i64 t.ship.fee, .int .i64 t.ship.free, .int .i64 t.policy.window, .int .i64 t.policy.grace, .int .i64 t.policy.mode, .int .i64 t.policy.restock, .slice m.policy.order.A m.policy.order.n m.policy.order.c, .slice m.policy.credit.A m.policy.credit.n m.policy.credit.c] := by
  have hle := h.le
  have hbl := h.blk.lt
  have hzl := h.zlt
  have hlow : ∀ g, (Value.slice m.policy.credit.A m.policy.credit.n m.policy.credit.c).ownBlock = some g → s4 ≤ g ∧ g < s5 := fun g hg => ⟨(h.credit.own.low g hg).1, h.credit.top g hg⟩
  have hg1 : g1 ≠ b9 := by
    rcases hfr with e | e
    · have := hlow g1 e; omega
    · omega
  have hb9 : Qu.Blk w9 b9 33 #[.slice m.items.A m.items.n m.items.c, .slice m.promos.A m.promos.n m.promos.c, .bool t.tax.incl, .bool t.tax.byOrder, .int .i64 t.tax.round, .slice m.tax.zones.A m.tax.zones.n m.tax.zones.c, .int .i64 t.ship.fee, .int .i64 t.ship.free, .int .i64 t.policy.window, .int .i64 t.policy.grace, .int .i64 t.policy.mode, .int .i64 t.policy.restock, .slice m.policy.order.A m.policy.order.n m.policy.order.c, .slice m.policy.credit.A m.policy.credit.n m.policy.credit.c] := h.blk.grown hgrow fun e => by have := hlow b9 e.symm; omega
  obtain ⟨W', hW'⟩ : ∃ W', w9.setCell ⟨b9, 13, none⟩ (.slice (some ⟨g1, 0, none⟩) (m.policy.credit.n + 1) cap) = W' := ⟨_, rfl⟩
  have hs9 : w9.heap.size ≤ W'.heap.size := by rw [← hW']; simp
  have hs : W.heap.size ≤ W'.heap.size := Nat.le_trans hgrow.size hs9
  have far9 : ∀ b, b ≠ b9 → W'.heap[b]? = w9.heap[b]? := fun b hb => by rw [← hW']; exact Below.heap_setCell w9 _ _ b hb
  have far : ∀ b, b < W.heap.size → b ≠ b9 → ¬ (s4 ≤ b ∧ b < s5) → W'.heap[b]? = W.heap[b]? := fun b hb h1 h2 => (far9 b h1).trans (hgrow.block b hb fun e => h2 (hlow b e.symm))
  have h1 := hown.stay (w' := W') (fun b k => far9 b (by omega)) (fun g hg => far9 g (by injection hg with hg; have e : g1 = g := hg; omega))
  have hlst : Lst kInt W' (· < W'.heap.size) ⟨some ⟨g1, 0, none⟩, m.policy.credit.n + 1, cap⟩ (t.policy.credit ++ [x]) := ⟨(h1.more (G := (· < W'.heap.size)) fun b k => by omega).row (fun g hg => (h1.low g hg).2), h1.fit⟩
  have hb : Below Wr.heap.size Wr W' := by
    rw [← hW']
    exact (h.below.grown hgrow h.below.size fun k hk => by have := hlow k hk; omega).setCell (by show Wr.heap.size ≤ b9; omega) _
  rw [hW']
  refine ⟨⟨⟨t.items, t.promos, ⟨t.tax.incl, t.tax.byOrder, t.tax.round, t.tax.zones⟩, ⟨t.ship.fee, t.ship.free⟩, ⟨t.policy.window, t.policy.grace, t.policy.mode, t.policy.restock, t.policy.order, t.policy.credit ++ [x]⟩⟩, ⟨m.items, m.promos, m.tax, ⟨m.policy.order, ⟨some ⟨g1, 0, none⟩, m.policy.credit.n + 1, cap⟩⟩⟩, by rw [← hW']; exact hb9.put 13 (.slice (some ⟨g1, 0, none⟩) (m.policy.credit.n + 1) cap), ⟨h.itemsAt hs (fun b k1 k2 => far b (by omega) (by omega) (by omega)), h.promosAt hs (fun b k1 k2 => far b (by omega) (by omega) (by omega)), ⟨h.round, h.zonesAt hs (fun b k1 k2 => far b k2 (by omega) (by omega))⟩, h.ship, ⟨h.nums.1, h.nums.2.1, h.nums.2.2.1, h.nums.2.2.2, h.orderAt hs (fun b k1 k2 => far b (by omega) (by omega) (by omega)), hlst⟩⟩, lens_of (by show t.items.length ≤ 8; rw [h.cnt.items]; omega) (by show t.promos.length ≤ 7; have := h.cnt.promos; omega) (by show t.tax.zones.length ≤ 3; rw [h.cnt.zones]; omega) (by show t.policy.order.length ≤ 7; have := h.cnt.order; omega) (by show (t.policy.credit ++ [_]).length ≤ 7; rw [List.length_append, List.length_singleton]; have := h.cnt.credit; omega) (fun z hz => rates4 h.cnt z hz) h.cnt.slight h.cnt.each, hb⟩, hb9⟩
theorem TT.pushRate {Wr W W' : World} {b9 s0 s1 s2 s3 s4 s5 gz : Nat} {t : Rls} {m : Rls.Lay} {z0 : Zon} {zs : List Zon} {A0 : Option Addr} {n0 c0 : Nat} (h : TT Wr W b9 s0 s1 s2 s3 s4 s5 gz t m z0 zs A0 n0 c0) {w9 : World} {g1 cap : Nat} {x : CtR} (hown : Own kCtR w9 (b9 + 1) 53 (fun _ => False) (.slice (some ⟨g1, 0, none⟩) (n0 + 1) cap) (n0 + 1) (z0.rates ++ [x])) (hgrow : W.grownBy w9 (Value.slice A0 n0 c0).ownBlock) (hfr : (Value.slice A0 n0 c0).ownBlock = some g1 ∨ W.heap.size ≤ g1) : Fin Wr (w9.setCell ⟨gz, 1, none⟩ (.slice (some ⟨g1, 0, none⟩) (n0 + 1) cap)) b9 ∧ Qu.Blk w9 b9 33 #[.slice m.items.A m.items.n m.items.c, .slice m.promos.A m.promos.n m.promos.c, .bool t.tax.incl, .bool t.tax.byOrder, .int .i64 t.tax.round, .slice m.tax.zones.A m.tax.zones.n m.tax.zones.c, .int .i64 t.ship.fee, .int .i64 t.ship.free, .int .i64 t.policy.window, .int .i64 t.policy.grace, .int .i64 t.policy.mode, .int .i64 t.policy.restock, .slice m.policy.order.A m.policy.order.n m.policy.order.c, .slice m.policy.credit.A m.policy.credit.n m.policy.credit.c] ∧ (∃ u, w9.cell? ⟨gz, 1, none⟩ = some u) ∧ w9.frozen? ⟨gz, 1, none⟩ = false := by
  have hle := h.le
  have hbl := h.blk.lt
  have hzl := h.zlt
  have hlow : ∀ g, (Value.slice A0 n0 c0).ownBlock = some g → b9 < g := fun g hg => (h.rates.low g hg).1
  have hb9 : Qu.Blk w9 b9 33 #[.slice m.items.A m.items.n m.items.c, .slice m.promos.A m.promos.n m.promos.c, .bool t.tax.incl, .bool t.tax.byOrder, .int .i64 t.tax.round, .slice m.tax.zones.A m.tax.zones.n m.tax.zones.c, .int .i64 t.ship.fee, .int .i64 t.ship.free, .int .i64 t.policy.window, .int .i64 t.policy.grace, .int .i64 t.policy.mode, .int .i64 t.policy.restock, .slice m.policy.order.A m.policy.order.n m.policy.order.c, .slice m.policy.credit.A m.policy.credit.n m.policy.credit.c] := h.blk.grown hgrow fun e => by have := hlow b9 e.symm; omega
  obtain ⟨tl, hr, hc⟩ := h.zrow
  have hr9 := hr.kept hgrow (.inr (fun e => by have := hlow gz e.symm; omega))
  have hst := (hr9.stored 1 (.slice (some ⟨g1, 0, none⟩) (n0 + 1) cap)).1
  obtain ⟨W', hW'⟩ : ∃ W', w9.setCell ⟨gz, 1, none⟩ (.slice (some ⟨g1, 0, none⟩) (n0 + 1) cap) = W' := ⟨_, rfl⟩
  rw [hW'] at hst ⊢
  have hs9 : w9.heap.size ≤ W'.heap.size := by rw [← hW']; simp
  have hs : W.heap.size ≤ W'.heap.size := Nat.le_trans hgrow.size hs9
  have far9 : ∀ b, b ≠ gz → W'.heap[b]? = w9.heap[b]? := fun b hb => by rw [← hW']; exact Below.heap_setCell w9 _ _ b hb
  have far : ∀ b, b < W.heap.size → b ≠ gz → b ≤ b9 → W'.heap[b]? = W.heap[b]? := fun b hb h1 h2 => (far9 b h1).trans (hgrow.block b hb fun e => by have := hlow b e.symm; omega)
  have hown' := hown.stay (w' := W') (fun b k => k.elim) fun g hg => far9 g (by have := (hown.low g hg).1; omega)
  have hl : (z0 :: zs).length = m.tax.zones.n := by rw [← h.hz, h.cnt.zones, h.zn]
  have hz0 : z0.rates.length ≤ 3 := h.cnt.rates z0 (by rw [h.hz]; exact List.mem_cons_self)
  have hO : Own kZon W' s2 41 (· < W'.heap.size) (.slice (some ⟨gz, 0, none⟩) m.tax.zones.n m.tax.zones.c) m.tax.zones.n (⟨z0.name, z0.rates ++ [x], z0.rest, z0.ship⟩ :: zs) := by
    refine ⟨hl, _, hst, [.string z0.name, .slice (some ⟨g1, 0, none⟩) (n0 + 1) cap, .int .i64 z0.rest, .int .i64 z0.ship], tl, rfl, Zon_rep.2 ⟨⟨⟨some ⟨g1, 0, none⟩, n0 + 1, cap⟩⟩, rfl, h.zok.1, ⟨(hown'.more (G := (· < W'.heap.size)) fun _ k => k.elim).row fun g hg => (hown'.low g hg).2, hown'.fit⟩, h.zok.2.1, h.zok.2.2⟩, (hc.stay fun b k => far b (by omega) k.2.2 (by omega)).more fun b k => by omega⟩
  have hlst : Lst kZon W' (· < W'.heap.size) m.tax.zones (⟨z0.name, z0.rates ++ [x], z0.rest, z0.ship⟩ :: zs) := ⟨by rw [h.za]; exact hO.row fun g hg => (hO.low g hg).2, by rw [h.za]; exact hO.fit⟩
  have hb : Below Wr.heap.size Wr W' := by
    rw [← hW']
    exact (h.below.grown hgrow h.below.size fun k hk => by have := hlow k hk; omega).setCell (by show Wr.heap.size ≤ gz; omega) _
  have hrs : ∀ z ∈ (⟨z0.name, z0.rates ++ [x], z0.rest, z0.ship⟩ :: zs : List Zon), z.rates.length ≤ 4 := fun z hz => by
    rcases List.mem_cons.1 hz with rfl | h1
    · show (z0.rates ++ [x]).length ≤ 4
      rw [List.length_append, List.length_singleton]; omega
    · have := h.cnt.rates z (by rw [h.hz]; exact List.mem_cons_of_mem _ h1); omega
  have hgx : gz ≠ b9 := by omega
  refine ⟨⟨⟨t.items, t.promos, ⟨t.tax.incl, t.tax.byOrder, t.tax.round, ⟨z0.name, z0.rates ++ [x], z0.rest, z0.ship⟩ :: zs⟩, ⟨t.ship.fee, t.ship.free⟩, ⟨t.policy.window, t.policy.grace, t.policy.mode, t.policy.restock, t.policy.order, t.policy.credit⟩⟩, m, ?_, ⟨h.itemsAt hs fun b k1 k2 => far b (by omega) (by omega) (by omega), h.promosAt hs fun b k1 k2 => far b (by omega) (by omega) (by omega), ⟨h.round, hlst⟩, h.ship, ⟨h.nums.1, h.nums.2.1, h.nums.2.2.1, h.nums.2.2.2, h.orderAt hs fun b k1 k2 => far b (by omega) (by omega) (by omega), h.creditAt hs fun b k1 k2 => far b (by omega) (by omega) (by omega)⟩⟩, lens_of (by show t.items.length ≤ 8; rw [h.cnt.items]; omega) (by show t.promos.length ≤ 7; have := h.cnt.promos; omega) (by show (_ :: zs).length ≤ 3; have := h.cnt.zones; rw [h.hz] at this; simpa using Nat.le_of_eq this) (by show t.policy.order.length ≤ 7; have := h.cnt.order; omega) (by show t.policy.credit.length ≤ 7; have := h.cnt.credit; omega) hrs h.cnt.slight h.cnt.each, hb⟩, hb9, ?_, ?_⟩
  · rw [← hW']; exact Py.blk_far2 hb9 hgx.symm
  · have := hr9.cellAt 1 (by rw [h.zn]; decide)
    exact ⟨_, this⟩
  · exact hr9.frozenAt 1
theorem TT.copied {Wr w4 W : World} {t : Rls} {m : Rls.Lay} (hr : Py.Ruled Wr w4 t m) (hsu : Py.Sure t) (hW : w4.alloc (.cells #[.slice m.items.A m.items.n m.items.c, .slice m.promos.A m.promos.n m.promos.c, .bool t.tax.incl, .bool t.tax.byOrder, .int .i64 t.tax.round, .slice m.tax.zones.A m.tax.zones.n m.tax.zones.c, .int .i64 t.ship.fee, .int .i64 t.ship.free, .int .i64 t.policy.window, .int .i64 t.policy.grace, .int .i64 t.policy.mode, .int .i64 t.policy.restock, .slice m.policy.order.A m.policy.order.n m.policy.order.c, .slice m.policy.credit.A m.policy.credit.n m.policy.credit.c] 33) = W) :
    ∃ (gz : Nat) (z0 : Zon) (zs : List Zon) (l0 : Sl), m.tax.zones.A = some ⟨gz, 0, none⟩ ∧ m.tax.zones.n = 3 ∧ gz < w4.heap.size ∧ Qu.Blk W w4.heap.size 33 #[.slice m.items.A m.items.n m.items.c, .slice m.promos.A m.promos.n m.promos.c, .bool t.tax.incl, .bool t.tax.byOrder, .int .i64 t.tax.round, .slice m.tax.zones.A m.tax.zones.n m.tax.zones.c, .int .i64 t.ship.fee, .int .i64 t.ship.free, .int .i64 t.policy.window, .int .i64 t.policy.grace, .int .i64 t.policy.mode, .int .i64 t.policy.restock, .slice m.policy.order.A m.policy.order.n m.policy.order.c, .slice m.policy.credit.A m.policy.credit.n m.policy.credit.c] ∧ W.cell? ⟨gz, 1, none⟩ = some (.slice l0.A l0.n l0.c) ∧ W.frozen? ⟨gz, 1, none⟩ = false ∧ Lst kCtR W (· < W.heap.size) l0 z0.rates ∧ l0.n ≤ 3 ∧ w4.heap.size + 1 = W.heap.size ∧
      ∀ (A' : Option Addr) (c' : Nat) (w9 : World), Own kCtR w9 (w4.heap.size + 1) 53 (fun _ => False) (.slice A' l0.n c') l0.n z0.rates → W.grownBy w9 none → (∃ u, w9.cell? ⟨gz, 1, none⟩ = some u) ∧ w9.frozen? ⟨gz, 1, none⟩ = false ∧ Qu.Blk w9 w4.heap.size 33 #[.slice m.items.A m.items.n m.items.c, .slice m.promos.A m.promos.n m.promos.c, .bool t.tax.incl, .bool t.tax.byOrder, .int .i64 t.tax.round, .slice m.tax.zones.A m.tax.zones.n m.tax.zones.c, .int .i64 t.ship.fee, .int .i64 t.ship.free, .int .i64 t.policy.window, .int .i64 t.policy.grace, .int .i64 t.policy.mode, .int .i64 t.policy.restock, .slice m.policy.order.A m.policy.order.n m.policy.order.c, .slice m.policy.credit.A m.policy.credit.n m.policy.credit.c] ∧ ∃ s0 s1 s2 s3 s4 s5, TT Wr (w9.setCell ⟨gz, 1, none⟩ (.slice A' l0.n c')) w4.heap.size s0 s1 s2 s3 s4 s5 gz t m z0 zs A' l0.n c' := by
  have hb : Below w4.heap.size w4 W := by rw [← hW]; exact (Below.refl _ _).alloc (Nat.le_refl _) _
  have hblk : Qu.Blk W w4.heap.size 33 #[.slice m.items.A m.items.n m.items.c, .slice m.promos.A m.promos.n m.promos.c, .bool t.tax.incl, .bool t.tax.byOrder, .int .i64 t.tax.round, .slice m.tax.zones.A m.tax.zones.n m.tax.zones.c, .int .i64 t.ship.fee, .int .i64 t.ship.free, .int .i64 t.policy.window, .int .i64 t.policy.grace, .int .i64 t.policy.mode, .int .i64 t.policy.restock, .slice m.policy.order.A m.policy.order.n m.policy.order.c, .slice m.policy.credit.A m.policy.credit.n m.policy.credit.c] := by rw [← hW]; exact Qu.Blk.new w4 _ _
  have hsz : w4.heap.size + 1 = W.heap.size := by rw [← hW]; simp
  obtain ⟨s0, s1, s2, s3, s4, s5, a0, a1, a2, a3, a4, a5, h1, h2, h3, h4, h5⟩ := hr.bands
  have hcnt : Cnt t := ⟨hsu.items, hsu.zones, hsu.few.1, hsu.few.2.1, hsu.few.2.2, fun z hz => by
    obtain ⟨k, hk⟩ := List.mem_iff_getElem?.1 hz
    exact hsu.rates k z hk, hsu.small.promos.1, hsu.small2.each⟩
  have h3' := h3.later hb
  have hle3 := h3.le
  have hle4 := h4.le
  have hle5 := h5.le
  have hn : m.tax.zones.n = 3 := by rw [← h3'.own.1]; exact hsu.zones
  obtain ⟨gz, hA, hg1, hg2⟩ := h3'.own.first (by omega)
  have htop := h3'.top gz (by rw [hA]; rfl)
  have hown := h3'.own
  rw [hA] at hown
  obtain ⟨z0, zs, hzs⟩ : ∃ z0 zs, t.tax.zones = z0 :: zs := by
    cases hz : t.tax.zones with
    | nil => have := hsu.zones; rw [hz] at this; cases this
    | cons a b => exact ⟨a, b, rfl⟩
  rw [hzs] at hown
  obtain ⟨hl, cs, ho, a, b, hcs, hra, hcb⟩ := hown
  obtain ⟨lz, rfl, hh⟩ := Zon_rep.1 hra
  subst hcs
  have hz0 : z0.rates.length ≤ 3 := hcnt.rates z0 (by rw [hzs]; exact List.mem_cons_self)
  have hne : ∀ q, (Value.slice (some ⟨gz, 0, none⟩) m.tax.zones.n m.tax.zones.c).ownBlock ≠ some q → q ≠ gz := fun q hq e => hq (by rw [e]; rfl)
  refine ⟨gz, z0, zs, lz.rates, hA, hn, by omega, hblk, ?_, ho.frozenAt 1, ⟨hh.rates.row.more fun q k => by omega, hh.rates.fit⟩, by have := hh.rates.row.len; omega, hsz, fun A' c' w9 hO hgrow => ?_⟩
  · exact (ho.cellAt 1 (by rw [hn]; decide)).trans rfl
  · have ho9 := ho.kept hgrow (.inr (fun e => by cases e))
    have hst := (ho9.stored 1 (.slice A' lz.rates.n c')).1
    have hb9 : Qu.Blk w9 w4.heap.size 33 #[.slice m.items.A m.items.n m.items.c, .slice m.promos.A m.promos.n m.promos.c, .bool t.tax.incl, .bool t.tax.byOrder, .int .i64 t.tax.round, .slice m.tax.zones.A m.tax.zones.n m.tax.zones.c, .int .i64 t.ship.fee, .int .i64 t.ship.free, .int .i64 t.policy.window, .int .i64 t.policy.grace, .int .i64 t.policy.mode, .int .i64 t.policy.restock, .slice m.policy.order.A m.policy.order.n m.policy.order.c, .slice m.policy.credit.A m.policy.credit.n m.policy.credit.c] := hblk.grown hgrow (fun e => by cases e)
    obtain ⟨W7, hW7⟩ : ∃ W7, w9.setCell ⟨gz, 1, none⟩ (.slice A' lz.rates.n c') = W7 := ⟨_, rfl⟩
    rw [hW7] at hst ⊢
    have hs9 : w9.heap.size ≤ W7.heap.size := by rw [← hW7]; simp
    have hs : W.heap.size ≤ W7.heap.size := Nat.le_trans hgrow.size hs9
    have far9 : ∀ q, q ≠ gz → W7.heap[q]? = w9.heap[q]? := fun q hq => by rw [← hW7]; exact Below.heap_setCell w9 _ _ q hq
    have far : ∀ q, q < W.heap.size → q ≠ gz → W7.heap[q]? = W.heap[q]? := fun q hq h1 => (far9 q h1).trans (hgrow.block q hq fun e => by cases e)
    have hc9 := ho9.cellAt 1 (by rw [hn]; decide)
    refine ⟨⟨_, hc9⟩, ho9.frozenAt 1, hb9, s0, s1, s2, s3, s4, s5, ⟨by omega, a1, a2, a3, a4, a5, hle5⟩, ?_, (h1.later hb).stay hs fun q k1 k2 => far q (by omega) (by omega), (h2.later hb).stay hs fun q k1 k2 => far q (by omega) (by omega), hzs, hA, ⟨hg1, htop⟩, ⟨b, hst, (hcb.stay fun q k => far q (by omega) (hne q k.2.2)).more fun q k => ⟨k.1, k.2.1, hne q k.2.2⟩⟩, ⟨hh.name, hh.rest, hh.ship⟩, hO.stay (fun q k => k.elim) fun g hg => far9 g (by have := (hO.low g hg).1; omega), hn, (h4.later hb).stay hs fun q k1 k2 => far q (by omega) (by omega), (h5.later hb).stay hs fun q k1 k2 => far q (by omega) (by omega), ?_, hr.round, hr.ship, hr.nums, hcnt⟩
    · rw [← hW7]; exact Py.blk_far2 hb9 (by omega)
    · rw [← hW7]
      exact (((hr.below.trans (hb.mono hr.below.size)).grown hgrow (by have := hr.below.size; omega) (fun k hk => by cases hk))).setCell (by show Wr.heap.size ≤ gz; omega) _
theorem TT.drew {Wr W W' : World} {b9 s0 s1 s2 s3 s4 s5 gz : Nat} {t : Rls} {m : Rls.Lay} {z0 : Zon} {zs : List Zon} {A0 : Option Addr} {n0 c0 : Nat} (h : TT Wr W b9 s0 s1 s2 s3 s4 s5 gz t m z0 zs A0 n0 c0) : TT Wr W.drew b9 s0 s1 s2 s3 s4 s5 gz t m z0 zs A0 n0 c0 := by
  have bd : Below W.heap.size W W.drew := (Below.refl _ _).drew
  obtain ⟨tl, hr, hc⟩ := h.zrow
  exact ⟨h.le, h.blk.drew, h.items.later bd, h.promos.later bd, h.hz, h.za, h.zlt, ⟨tl, hr, hc.stay (show Agree _ W W.drew from fun b _ => rfl)⟩, h.zok, h.rates.later bd, h.zn, h.order.later bd, h.credit.later bd, h.below.trans (bd.mono h.below.size), h.round, h.ship, h.nums, h.cnt⟩
end Go.Proofs.YtfcmhgneijipgaaGreat.Ru
