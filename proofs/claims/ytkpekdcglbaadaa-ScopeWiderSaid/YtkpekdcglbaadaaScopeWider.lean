/- 'What follows': a scope that names something, and then more, has all that it had, and what is named; for every scope, two ints and an item. No conditions. -/
import Derived.Test.YtkpekdcglbaadaaScK
import Derived.Test.YtkpekdcglbaadaaPyV
import Derived.Test.YtkpekdcglbaadaaKdE
import Derived.Test.YtkpekdcglbaadaaBa
set_option maxRecDepth 100000
namespace Go.Proofs.Ytkpekdcglbaadaa.scopeWider
open Go.ChangeShapes Go.WideShapes Go.ChangeAt Go.RowKit
open It (Itm kItem row_item row_ok item_rep)
open Ap (Scp kScp row_Scp Scp_rep)
open Kd (Kind Row Own Cells Fit Agree Lst Sl kStr kInt kList row_str Deep)
set_option maxRecDepth 100000
set_option linter.unusedVariables false

theorem own : ownKnob Try.prog.godebug = none := by kernel_rfl

def wider (s : Scp) (a b : ByteArray) : Scp := ⟨s.skus ++ [a], s.cats ++ [b]⟩

/-- A scope that names something, none of it called q. -/
structure Names (s : Scp) : Prop where
  some_ : ¬ (s.skus.length = 0 ∧ s.cats.length = 0)
  skus : ⟨#[113]⟩ ∉ s.skus
  cats : ⟨#[113]⟩ ∉ s.cats
  few : s.skus.length ≤ 3 ∧ s.cats.length ≤ 3

theorem hasX_of {s : Scp} (h : ¬ (s.skus.length = 0 ∧ s.cats.length = 0)) (k c : ByteArray) : Sc.hasX s k c = (Sc.hasB s.skus k || Sc.hasB s.cats c) := by
  unfold Sc.hasX
  have e : ((s.skus.length == 0) && (s.cats.length == 0)) = false := by
    rw [Bool.and_eq_false_iff]
    by_cases e : s.skus.length = 0
    · exact .inr (beq_eq_false_iff_ne.2 fun e2 => h ⟨e, e2⟩)
    · exact .inl (beq_eq_false_iff_ne.2 e)
  rw [e, Bool.false_or]

theorem wider_some (s : Scp) (a b : ByteArray) : ¬ ((wider s a b).skus.length = 0 ∧ (wider s a b).cats.length = 0) := fun h => by
  have := h.1
  simp [wider] at this

theorem wider_has {s : Scp} (h : Names s) {a b k c : ByteArray} (hk : Sc.hasX s k c = true) : Sc.hasX (wider s a b) k c = true := by
  rw [hasX_of h.some_, Bool.or_eq_true, Sc.hasB_iff, Sc.hasB_iff] at hk
  rw [hasX_of (wider_some s a b), Bool.or_eq_true, Sc.hasB_iff, Sc.hasB_iff]
  exact hk.imp (fun h => List.mem_append_left _ h) (fun h => List.mem_append_left _ h)

theorem wider_sku (s : Scp) (a b c : ByteArray) : Sc.hasX (wider s a b) a c = true := by
  rw [hasX_of (wider_some s a b), Bool.or_eq_true, Sc.hasB_iff]
  exact .inl (List.mem_append_right _ (List.mem_singleton.2 rfl))

theorem wider_cat (s : Scp) (a b k : ByteArray) : Sc.hasX (wider s a b) k b = true := by
  rw [hasX_of (wider_some s a b), Bool.or_eq_true, Sc.hasB_iff (l := (wider s a b).cats)]
  exact .inr (List.mem_append_right _ (List.mem_singleton.2 rfl))

theorem names_q {s : Scp} (h : Names s) : Sc.hasX s ⟨#[113]⟩ ⟨#[113]⟩ = false := by
  rw [hasX_of h.some_, Bool.or_eq_false_iff]
  constructor
  · cases e : Sc.hasB s.skus ⟨#[113]⟩ with
    | false => rfl
    | true => exact absurd (Sc.hasB_iff.1 e) h.skus
  · cases e : Sc.hasB s.cats ⟨#[113]⟩ with
    | false => rfl
    | true => exact absurd (Sc.hasB_iff.1 e) h.cats

theorem sku_q {a : Nat} (h : a < 8) : Py.skuS a ≠ ⟨#[113]⟩ := by
  obtain e | e | e | e | e | e | e | e : a = 0 ∨ a = 1 ∨ a = 2 ∨ a = 3 ∨ a = 4 ∨ a = 5 ∨ a = 6 ∨ a = 7 := by omega
  all_goals (subst e; decide +kernel)

theorem cat_q {a : Nat} (h : a < 3) : Py.catS a ≠ ⟨#[113]⟩ := by
  obtain e | e | e : a = 0 ∨ a = 1 ∨ a = 2 := by omega
  all_goals (subst e; decide +kernel)

theorem near_names {s : Scp} (h : ¬ ((Py.scopeOf s).skus.length = 0 ∧ (Py.scopeOf s).cats.length = 0)) : Names (Py.scopeOf s) := ⟨h, fun hm => by
  obtain ⟨a, ha, e⟩ := Py.scopeOf_sku hm
  exact sku_q ha e.symm, fun hm => by
  obtain ⟨a, ha, e⟩ := Py.scopeOf_cat hm
  exact cat_q ha e.symm, by have := Py.scopeOf_len s; omega⟩

theorem one_names : Names ⟨[⟨#[97]⟩], []⟩ := ⟨by simp, fun h => by
  have h1 : (⟨#[113]⟩ : ByteArray) = ⟨#[97]⟩ := List.mem_singleton.1 h
  exact absurd h1 (by decide +kernel), by simp, by simp⟩

theorem int_zero (k : Nat) : ((k : Int) == 0) = (k == 0) := by
  by_cases h : k = 0
  · subst h; rfl
  · rw [beq_eq_false_iff_ne.2 h]; exact beq_eq_false_iff_ne.2 (by omega)

/-- A scope in the box of the first argument, an item in the box of the last. -/
structure Ws (w wx : World) (x : Itm) (s : Scp) (l : Scp.Lay) : Prop where
  box : Qu.Blk wx w.heap.size 24 #[.slice l.skus.A l.skus.n l.skus.c, .slice l.cats.A l.cats.n l.cats.c]
  item : Qu.Blk wx (w.heap.size + 1) 33 #[.string x.sku, .string x.cat, .int .i64 x.price, .bool x.fin]
  holds : Scp.Holds wx (· < wx.heap.size) s l
  names : Names s
  below : Below w.heap.size w wx

theorem Ws.on {w wx wy : World} {x : Itm} {s : Scp} {l : Scp.Lay} (h : Ws w wx x s l) (hb : Below wx.heap.size wx wy) : Ws w wy x s l :=
  ⟨h.box.below hb, h.item.below hb, Sc.holds_more (Sc.holds_below h.holds hb (Nat.le_refl _)) fun b hb2 => Nat.lt_of_lt_of_le hb2 hb.size, h.names, h.below.trans (hb.mono h.below.size)⟩

theorem Ws.small {w wx : World} {x : Itm} {s : Scp} {l : Scp.Lay} (h : Ws w wx x s l) : l.skus.n ≤ 3 ∧ l.cats.n ≤ 3 := by
  have h1 := h.holds.skus.row.len
  have h2 := h.holds.cats.row.len
  have h3 := h.names.few
  omega

/-- The wider scope, in a box of the call's own. -/
structure Tb (wc wx : World) (b : Nat) (s : Scp) (l : Scp.Lay) : Prop where
  box : Qu.Blk wx b 24 #[.slice l.skus.A l.skus.n l.skus.c, .slice l.cats.A l.cats.n l.cats.c]
  holds : Scp.Holds wx (· < wx.heap.size) s l
  below : Below wc.heap.size wc wx

theorem Tb.on {wc wx wy : World} {b : Nat} {s : Scp} {l : Scp.Lay} (h : Tb wc wx b s l) (hb : Below wx.heap.size wx wy) : Tb wc wy b s l :=
  ⟨h.box.below hb, Sc.holds_more (Sc.holds_below h.holds hb (Nat.le_refl _)) fun b hb2 => Nat.lt_of_lt_of_le hb2 hb.size, h.below.trans (hb.mono h.below.size)⟩

section
variable {wc u2 wa u6 wd u9 we u13 wg : World} {B E n1 n2 c3 c5 c7 c8 : Nat} {A3 A5 A7 A8 : Option Addr} {l1 l2 : List ByteArray} {a b : ByteArray}
/-- Its box was made before the last copy. -/
theorem tb_put (hx : Qu.Blk wg E 24 #[.slice none 0 0, .slice none 0 0]) (hE : wc.heap.size ≤ E) (hg : Below wc.heap.size wc wg)
    (h2 : Kd.Grew u2 wa B (.slice none 0 0) A3 n1 c3 l1) (k26 : Below wa.heap.size wa u6) (h6 : Kd.Grew u6 wd B (.slice A3 n1 c3) A5 (n1 + 1) c5 (l1 ++ [a])) (k69 : Below wd.heap.size wd u9) (h9 : Kd.Grew u9 we B (.slice none 0 0) A7 n2 c7 l2) (k913 : Below we.heap.size we u13) (h13 : Kd.Grew u13 wg B (.slice A7 n2 c7) A8 (n2 + 1) c8 (l2 ++ [b]))
    (e1 : (Value.slice A5 (n1 + 1) c5).ownBlock ≠ some E) (e2 : (Value.slice A8 (n2 + 1) c8).ownBlock ≠ some E) :
    Tb wc ((wg.setCell ⟨E, 0, none⟩ (.slice A5 (n1 + 1) c5)).setCell ⟨E, 1, none⟩ (.slice A8 (n2 + 1) c8)) E ⟨l1 ++ [a], l2 ++ [b]⟩ ⟨⟨A5, n1 + 1, c5⟩, ⟨A8, n2 + 1, c8⟩⟩ := by
  have h := Kd.grew_two (E := E) (W := (wg.setCell ⟨E, 0, none⟩ (.slice A5 (n1 + 1) c5)).setCell ⟨E, 1, none⟩ (.slice A8 (n2 + 1) c8)) h2 k26 h6 k69 h9 k913 h13 (fun q hq _ => (Below.heap_setCell _ ⟨E, 1, none⟩ _ q hq).trans (Below.heap_setCell _ ⟨E, 0, none⟩ _ q hq)) (by simp) e1 e2
  exact ⟨(hx.put 0 _).put 1 _, ⟨h.1, h.2⟩, (hg.setCell hE _).setCell hE _⟩

/-- Its box was made last. -/
theorem tb_last (hg : Below wc.heap.size wc wg)
    (h2 : Kd.Grew u2 wa B (.slice none 0 0) A3 n1 c3 l1) (k26 : Below wa.heap.size wa u6) (h6 : Kd.Grew u6 wd B (.slice A3 n1 c3) A5 (n1 + 1) c5 (l1 ++ [a])) (k69 : Below wd.heap.size wd u9) (h9 : Kd.Grew u9 we B (.slice none 0 0) A7 n2 c7 l2) (k913 : Below we.heap.size we u13) (h13 : Kd.Grew u13 wg B (.slice A7 n2 c7) A8 (n2 + 1) c8 (l2 ++ [b])) :
    Tb wc (wg.alloc (.cells #[.slice A5 (n1 + 1) c5, .slice A8 (n2 + 1) c8] 24)) wg.heap.size ⟨l1 ++ [a], l2 ++ [b]⟩ ⟨⟨A5, n1 + 1, c5⟩, ⟨A8, n2 + 1, c8⟩⟩ := by
  have q1 := k69.size
  have q2 := h9.below_nil.size
  have q3 := k913.size
  have q4 := h13.size
  have h := Kd.grew_two (E := wg.heap.size) (W := wg.alloc (.cells #[.slice A5 (n1 + 1) c5, .slice A8 (n2 + 1) c8] 24)) h2 k26 h6 k69 h9 k913 h13 (fun q _ hl => Below.heap_alloc wg _ q hl) (by simp) (fun e => by have := h6.top _ e; omega) (fun e => by have := h13.top _ e; omega)
  exact ⟨Qu.Blk.new wg _ _, ⟨h.1, h.2⟩, hg.alloc hg.size _⟩

theorem new_next (u : World) (o : Obj) (T : TypeId) (cs : Array Value) : Qu.Blk ((u.alloc o).alloc (.cells cs T)) (u.heap.size + 1) T cs := by
  have h := Qu.Blk.new (u.alloc o) T cs
  have e : (u.alloc o).heap.size = u.heap.size + 1 := by simp
  rw [e] at h
  exact h
end

theorem Tb.self {wc wx : World} {b : Nat} {s : Scp} {l : Scp.Lay} (h : Tb wc wx b s l) : Tb wx wx b s l := ⟨h.box, h.holds, Below.refl _ _⟩

/-- All that is asked at the end. -/
structure Fin (w V : World) (x : Itm) (s : Scp) (l : Scp.Lay) (g : Nat) (t : Scp) (m : Scp.Lay) (gy gz : Nat) (a b : ByteArray) : Prop where
  ws : Ws w V x s l
  tb : Tb V V g t m
  y : Qu.Blk V gy 33 #[.string a, .string ⟨#[113]⟩, .int .i64 0, .bool false]
  z : Qu.Blk V gz 33 #[.string ⟨#[113]⟩, .string b, .int .i64 0, .bool false]
  few : m.skus.n ≤ 4 ∧ m.cats.n ≤ 4

section
variable {w V V' : World} {x : Itm} {s t : Scp} {l m : Scp.Lay} {g gy gz : Nat} {a b : ByteArray}
theorem Fin.on (h : Fin w V x s l g t m gy gz a b) (hb : Below V.heap.size V V') : Fin w V' x s l g t m gy gz a b := ⟨h.ws.on hb, (h.tb.on hb).self, h.y.below hb, h.z.below hb, h.few⟩

theorem Fin.has_s (h : Fin w V x s l g t m gy gz a b) (i : Itm) {r : Bool} (hr : Sc.hasX s i.sku i.cat = r) : Calls Try.prog 12 #[.agg #[.slice l.skus.A l.skus.n l.skus.c, .slice l.cats.A l.cats.n l.cats.c], .agg #[.string i.sku, .string i.cat, .int .i64 i.price, .bool i.fin]] V fun e w' => e = .returned (.bool r) ∧ Below V.heap.size V w' :=
  Sc.has_later h.ws.holds ⟨by have := h.ws.small; omega, by have := h.ws.small; omega⟩ i hr V (Below.refl _ _)

theorem Fin.has_t (h : Fin w V x s l g t m gy gz a b) (i : Itm) {r : Bool} (hr : Sc.hasX t i.sku i.cat = r) : Calls Try.prog 12 #[.agg #[.slice m.skus.A m.skus.n m.skus.c, .slice m.cats.A m.cats.n m.cats.c], .agg #[.string i.sku, .string i.cat, .int .i64 i.price, .bool i.fin]] V fun e w' => e = .returned (.bool r) ∧ Below V.heap.size V w' :=
  Sc.has_later h.tb.holds ⟨by have := h.few; omega, by have := h.few; omega⟩ i hr V (Below.refl _ _)
end

theorem has_none (V : World) (i : Itm) : Calls Try.prog 12 #[.agg #[.slice none 0 0, .slice none 0 0], .agg #[.string i.sku, .string i.cat, .int .i64 i.price, .bool i.fin]] V fun e w' => e = .returned (.bool true) ∧ Below V.heap.size V w' :=
  Sc.has_later (s := ⟨[], []⟩) (l := ⟨⟨none, 0, 0⟩, ⟨none, 0, 0⟩⟩) Sc.holds_none ⟨by show (0 : Nat) ≤ 1000000000000; omega, by show (0 : Nat) ≤ 1000000000000; omega⟩ i rfl V (Below.refl _ _)

set_option maxHeartbeats 4000000 in
theorem walk (w : World) (s : Scp) (l : Scp.Lay) (hh : Scp.Holds w (· < w.heap.size) s l) (sku : Int) (hsku : (Lit.int .i64 sku).wf = true) (cat : Int) (hcat : (Lit.int .i64 cat).wf = true) (x : Itm) (hx : x.ok) :
    Calls Try.prog 5 #[.agg #[.slice l.skus.A l.skus.n l.skus.c, .slice l.cats.A l.cats.n l.cats.c], .int .i64 sku, .int .i64 cat, .agg #[.string x.sku, .string x.cat, .int .i64 x.price, .bool x.fin]] w fun e w' => e = .returned (.bool true) ∧ Below w.heap.size w w' := by
  obtain ⟨w3, hw3⟩ : ∃ w3, ((w.alloc (.cells #[.slice l.skus.A l.skus.n l.skus.c, .slice l.cats.A l.cats.n l.cats.c] 24)).alloc (.cells #[.string x.sku, .string x.cat, .int .i64 x.price, .bool x.fin] 33)).alloc (.cells #[.slice l.skus.A l.skus.n l.skus.c, .slice l.cats.A l.cats.n l.cats.c] 24) = w3 := ⟨_, rfl⟩
  have hb3 : Below w.heap.size w w3 := by rw [← hw3]; exact (((Below.refl _ _).alloc (Nat.le_refl _) _).alloc (by simp) _).alloc (by simp; omega) _
  have h1 : Qu.Blk w3 w.heap.size 24 #[.slice l.skus.A l.skus.n l.skus.c, .slice l.cats.A l.cats.n l.cats.c] := by rw [← hw3]; exact ((Qu.Blk.new w _ _).alloc _).alloc _
  have h2 : Qu.Blk w3 (w.heap.size + 1) 33 #[.string x.sku, .string x.cat, .int .i64 x.price, .bool x.fin] := by
    have h := (Qu.Blk.new (w.alloc (.cells #[.slice l.skus.A l.skus.n l.skus.c, .slice l.cats.A l.cats.n l.cats.c] 24)) 33 #[.string x.sku, .string x.cat, .int .i64 x.price, .bool x.fin]).alloc (.cells #[.slice l.skus.A l.skus.n l.skus.c, .slice l.cats.A l.cats.n l.cats.c] 24)
    have e : (w.alloc (.cells #[.slice l.skus.A l.skus.n l.skus.c, .slice l.cats.A l.cats.n l.cats.c] 24)).heap.size = w.heap.size + 1 := by simp
    rw [hw3, e] at h
    exact h
  have h3 : Qu.Blk w3 (w.heap.size + 2) 24 #[.slice l.skus.A l.skus.n l.skus.c, .slice l.cats.A l.cats.n l.cats.c] := by
    have h := Qu.Blk.new ((w.alloc (.cells #[.slice l.skus.A l.skus.n l.skus.c, .slice l.cats.A l.cats.n l.cats.c] 24)).alloc (.cells #[.string x.sku, .string x.cat, .int .i64 x.price, .bool x.fin] 33)) 24 #[.slice l.skus.A l.skus.n l.skus.c, .slice l.cats.A l.cats.n l.cats.c]
    have e : ((w.alloc (.cells #[.slice l.skus.A l.skus.n l.skus.c, .slice l.cats.A l.cats.n l.cats.c] 24)).alloc (.cells #[.string x.sku, .string x.cat, .int .i64 x.price, .bool x.fin] 33)).heap.size = w.heap.size + 2 := by simp
    rw [hw3, e] at h
    exact h
  have hh3 : Scp.Holds w3 (· < w3.heap.size) s l := Sc.holds_more (Sc.holds_below hh hb3 (Nat.le_refl _)) fun b hb => Nat.lt_of_lt_of_le hb hb3.size
  have hone : Row kScp w3 (· < w3.heap.size) (some ⟨w.heap.size + 2, 0, none⟩) 1 [s] := Kd.row_blk (E := 24) (cs := s.enc l) h3 (Cells.one (Scp_rep.2 ⟨l, rfl, hh3⟩)) rfl h3.lt
  have HF := Lib.hid (Sc.few_any (some ⟨w.heap.size + 2, 0, none⟩) 1 1 [s] _ w3 hone (by omega))
  have l1 := hh.skus.row.len
  have l2 := hh.cats.row.len
  have HB3 := Lib.hid hb3
  have c0 := h1.cell 0
  have c1 := h1.cell 1
  have HX := Lib.hid (And.intro h1 (And.intro h2 hh3))
  have HOK := Lib.hid hx
  clear hb3 h1 h2 h3 hh3 hone hh hx hsku hcat
  cases hB : Sc.fewB [s] with
  | false =>
    rw [hB] at HF
    clear hB c0 c1
    go_enter Try.func5, Try.ntmps5
    go_wp2_with fail
    refine HF.out.mono ?_
    rintro e w4 ⟨rfl, rfl⟩
    go_wp2_with fail
    refine (Sc.awake_any _).mono ?_
    rintro e w5 ⟨rfl, hb5⟩
    have HB5 := Lib.hid (HB3.out.trans (hb5.mono HB3.out.size))
    clear hb5
    go_wp2
    go_ret
    exact ⟨rfl, HB5.out⟩
  | true =>
    rw [hB] at HF
    have hlen := (Sc.fewB_yes hB).2 0 s rfl
    rw [l1, l2] at hlen
    have HSc := Lib.hid (Py.scope_any s l w3 HX.out.2.2 (by omega) (by omega))
    have HNear : Hid (¬ ((Py.scopeOf s).skus.length = 0 ∧ (Py.scopeOf s).cats.length = 0) → Names (Py.scopeOf s)) := Lib.hid near_names
    obtain ⟨s1, hs1⟩ : ∃ s1, Py.scopeOf s = s1 := ⟨_, rfl⟩
    rw [hs1] at HSc HNear
    clear hB hlen l1 l2 hs1
    go_enter Try.func5, Try.ntmps5
    go_wp2_with fail
    refine HF.out.mono ?_
    rintro e w4 ⟨rfl, rfl⟩
    clear hw3 HF
    go_wp2_with fail
    refine HSc.out.mono ?_
    rintro e w5 ⟨m, rfl, hm, hb5⟩
    obtain ⟨w6, hw6⟩ : ∃ w6, (w5.setCell ⟨w.heap.size, 0, none⟩ (.slice m.skus.A m.skus.n m.skus.c)).setCell ⟨w.heap.size, 1, none⟩ (.slice m.cats.A m.cats.n m.cats.c) = w6 := ⟨_, rfl⟩
    have hbx5 := HX.out.1.below hb5
    have d0 := hbx5.cell 0
    have d1 := hbx5.cell 1
    have f0 := hbx5.frozen 0
    have f1 := hbx5.frozen 1
    have h6 : Qu.Blk w6 w.heap.size 24 #[.slice m.skus.A m.skus.n m.skus.c, .slice m.cats.A m.cats.n m.cats.c] := by rw [← hw6]; exact (hbx5.put 0 _).put 1 _
    have H6 : Hid (Qu.Blk w6 w.heap.size 24 #[.slice m.skus.A m.skus.n m.skus.c, .slice m.cats.A m.cats.n m.cats.c] ∧ Qu.Blk w6 (w.heap.size + 1) 33 #[.string x.sku, .string x.cat, .int .i64 x.price, .bool x.fin] ∧ Scp.Holds w6 (· < w6.heap.size) s1 m ∧ Below w.heap.size w w6) := Lib.hid (by
      have far : ∀ q, q ≠ w.heap.size → w6.heap[q]? = w5.heap[q]? := fun q hq => by
        rw [← hw6]
        exact (Below.heap_setCell _ ⟨w.heap.size, 1, none⟩ _ q hq).trans (Below.heap_setCell _ ⟨w.heap.size, 0, none⟩ _ q hq)
      have hs : w6.heap.size = w5.heap.size := by rw [← hw6]; simp
      have hlt := HX.out.1.lt
      refine ⟨h6, (HX.out.2.1.below hb5).as (far _ (by omega)), ?_, ?_⟩
      · have ag : Agree (Py.News w4 w5) w5 w6 := fun b hb => far b (by have := hb.1; omega)
        exact Sc.holds_more ⟨hm.skus.stay ag, hm.cats.stay ag⟩ fun b hb => by have := hb.2; omega
      · rw [← hw6]
        exact (((HB3.out.trans (hb5.mono HB3.out.size))).setCell (Nat.le_refl _) _).setCell (Nat.le_refl _) _)
    have e0 := h6.cell 0
    have e1 := h6.cell 1
    have z1 := int_zero m.skus.n
    have z2 := int_zero m.cats.n
    clear h6 hbx5 hm hb5 HSc HX HB3
    have hnn : Hid (s1.skus.length = m.skus.n ∧ s1.cats.length = m.cats.n) := Lib.hid ⟨H6.out.2.2.1.skus.row.len, H6.out.2.2.1.cats.row.len⟩
    go_upto_region 4 with (fail)
    go_cut [28] (fun s28 wx => ∃ bb : Bool, s28 = .bool bb ∧ Hid ((Qu.Blk wx w.heap.size 24 #[.slice m.skus.A m.skus.n m.skus.c, .slice m.cats.A m.cats.n m.cats.c] ∧ Qu.Blk wx (w.heap.size + 1) 33 #[.string x.sku, .string x.cat, .int .i64 x.price, .bool x.fin] ∧ Scp.Holds wx (· < wx.heap.size) s1 m ∧ Below w.heap.size w wx) ∧ (bb = true → m.skus.n = 0 ∧ m.cats.n = 0) ∧ (bb = false → ¬ (m.skus.n = 0 ∧ m.cats.n = 0))))
    case first =>
      by_cases h0 : m.skus.n = 0
      · rw [beq_iff_eq.2 h0] at z1
        by_cases h2 : m.cats.n = 0
        · rw [beq_iff_eq.2 h2] at z2
          have HO := Lib.hid (And.intro h0 h2)
          clear h0 h2
          go_wp2_with fail
          go_meet
          exact ⟨true, rfl, Lib.hid ⟨H6.out, fun _ => HO.out, fun e => by cases e⟩⟩
        · rw [beq_eq_false_iff_ne.2 h2] at z2
          have HO := Lib.hid h2
          clear h0 h2
          go_wp2_with fail
          go_meet
          exact ⟨false, rfl, Lib.hid ⟨H6.out, fun e => (by cases e), fun _ h => HO.out h.2⟩⟩
      · rw [beq_eq_false_iff_ne.2 h0] at z1
        have HO := Lib.hid h0
        clear h0 z2
        go_wp2_with fail
        go_meet
        exact ⟨false, rfl, Lib.hid ⟨H6.out, fun e => (by cases e), fun _ h => HO.out h.1⟩⟩
    case rest =>
    obtain ⟨bb, rfl, hC⟩ := hcut
    clear H6 z1 z2 e0 e1 d0 d1 f0 f1 hw6 c0 c1
    go_upto_if 28 with (fail)
    obtain ⟨w8, hw8⟩ : ∃ w8 : World, w8 = wc := ⟨_, rfl⟩
    subst hw8
    go_cut [30] (fun s30 wx => ∃ (s2 : Scp) (l2 : Scp.Lay), Hid (Ws w wx x s2 l2))
    case first =>
      cases bb with
      | true =>
        obtain ⟨w7, hw7⟩ : ∃ w7, w8.alloc (.cells #[.string ⟨#[97]⟩] 9) = w7 := ⟨_, rfl⟩
        have hb7 : Below w8.heap.size w8 w7 := by rw [← hw7]; exact (Below.refl _ _).alloc (Nat.le_refl _) _
        have h7 := hC.out.1.1.below hb7
        have k0 := h7.cell 0
        have kf := h7.frozen 0
        have HT : Hid (Ws w (w7.setCell ⟨w.heap.size, 0, none⟩ (.slice (some ⟨w8.heap.size, 0, none⟩) 1 1)) x ⟨[⟨#[97]⟩], []⟩ ⟨⟨some ⟨w8.heap.size, 0, none⟩, 1, 1⟩, m.cats⟩) := Lib.hid (by
          obtain ⟨⟨c1, c2, c3, c4⟩, h0, _⟩ := hC.out
          have h0 := h0 rfl
          have hlt := c1.lt
          have hlt2 := c2.lt
          have far : ∀ q, q ≠ w.heap.size → (w7.setCell ⟨w.heap.size, 0, none⟩ (.slice (some ⟨w8.heap.size, 0, none⟩) 1 1)).heap[q]? = w7.heap[q]? := fun q hq => Below.heap_setCell _ ⟨w.heap.size, 0, none⟩ _ q hq
          have hnew : Qu.Blk w7 w8.heap.size 9 #[.string ⟨#[97]⟩] := by rw [← hw7]; exact Qu.Blk.new w8 _ _
          have h8 := hnew.as (far w8.heap.size (by omega))
          refine ⟨h7.put 0 _, (c2.below hb7).as (far _ (by omega)), ⟨Sc.one_row h8 (by decide) h8.lt, ?_⟩, one_names, ((c4.trans (hb7.mono c4.size)).setCell (Nat.le_refl _) _)⟩
          refine ⟨?_, c3.cats.fit⟩
          rw [h0.2]
          exact Row.nil _ _ _ _)
        clear h7 hb7
        go_wp2_with fail
        go_meet
        exact ⟨_, _, HT⟩
      | false =>
        have HW : Hid (Ws w w8 x s1 m) := Lib.hid ⟨hC.out.1.1, hC.out.1.2.1, hC.out.1.2.2.1, HNear.out (fun h => hC.out.2.2 rfl (by rw [hnn.out.1, hnn.out.2] at h; exact h)), hC.out.1.2.2.2⟩
        go_wp2_with fail
        go_meet
        exact ⟨_, _, HW⟩
    case rest =>
    obtain ⟨s2, l2, HW⟩ := hcut
    clear hC hnn HNear
    go_upto_region 6 with (fail)
    obtain ⟨q, hq⟩ : ∃ q, Py.modN sku 8 = q := ⟨_, rfl⟩
    obtain ⟨p, hp⟩ : ∃ p, Py.modN cat 3 = p := ⟨_, rfl⟩
    have HSk : Hid (∀ u, Calls Try.prog 20 #[.int .i64 sku] u fun e w' => e = .returned (.string (Py.skuS q)) ∧ Hid (Below u.heap.size u w') ∧ u.heap.size ≤ w'.heap.size) := Lib.hid (fun u => by
      have h := Py.sku_any sku u
      rw [hq] at h
      exact h.mono fun e w' he => ⟨he.1, Lib.hid he.2, he.2.size⟩)
    have HCt : Hid (∀ u, Calls Try.prog 21 #[.int .i64 cat] u fun e w' => e = .returned (.string (Py.catS p)) ∧ Hid (Below u.heap.size u w') ∧ u.heap.size ≤ w'.heap.size) := Lib.hid (fun u => by
      have h := Py.category_any cat u
      rw [hp] at h
      exact h.mono fun e w' he => ⟨he.1, Lib.hid he.2, he.2.size⟩)
    clear hq hp
    obtain ⟨a, ha⟩ : ∃ a, Py.skuS q = a := ⟨_, rfl⟩
    obtain ⟨b, hb⟩ : ∃ b, Py.catS p = b := ⟨_, rfl⟩
    have HSZ : Hid (a.size ≤ maxLen ∧ b.size ≤ maxLen) := Lib.hid ⟨by rw [← ha, Py.sku_size]; decide, by rw [← hb, Py.cat_size]; decide⟩
    rw [ha] at HSk
    rw [hb] at HCt
    clear ha hb
    have x0 : ∀ u, Below wc.heap.size wc u → u.cell? ⟨w.heap.size, 0, none⟩ = some (.slice l2.skus.A l2.skus.n l2.skus.c) := fun u hu => (HW.out.on hu).box.cell 0
    have x1 : ∀ u, Below wc.heap.size wc u → u.cell? ⟨w.heap.size, 1, none⟩ = some (.slice l2.cats.A l2.cats.n l2.cats.c) := fun u hu => (HW.out.on hu).box.cell 1
    have HJ1 : Hid (∀ u, Below wc.heap.size wc u → Row kStr u (· < u.heap.size) l2.skus.A l2.skus.n s2.skus) := Lib.hid fun u hu => (HW.out.on hu).holds.skus.row
    have HJ2 : Hid (∀ u, Below wc.heap.size wc u → Row kStr u (· < u.heap.size) l2.cats.A l2.cats.n s2.cats) := Lib.hid fun u hu => (HW.out.on hu).holds.cats.row
    have HFit : Hid (Fit l2.skus.A l2.skus.n l2.skus.c ∧ Fit l2.cats.A l2.cats.n l2.cats.c) := Lib.hid ⟨HW.out.holds.skus.fit, HW.out.holds.cats.fit⟩
    have hsm := HW.out.small
    go_cut [9] (fun s9 wx => ∃ (g : Nat) (l3 : Scp.Lay), s9 = .pointer (some ⟨g, 0, none⟩) ∧ Hid (Tb wc wx g (wider s2 a b) l3))
    case first =>
      go_region_held3 (fun u => Below wc.heap.size wc u)
        (first
          | assumption
          | (repeat (first | assumption | exact Below.refl _ _ | exact hab.out | exact hef.out | refine Below.drew ?_ | refine Kd.below_alloc ?_ _ | (refine Kd.below_set ?_ ?_; (next => first | exact Nat.le_refl _ | omega)))))
        (first
          | (refine Kd.step_copy (o := ⟨some 33, _, _, _, _, _⟩) rfl _ _ rfl rfl wc.heap.size l2.skus.A l2.skus.n l2.skus.c s2.skus rfl ?_ HFit.out.1 (by omega) ?_ ?_; (next => exact HJ1.out _ (by (repeat (first | assumption | exact Below.refl _ _ | exact hab.out | exact hef.out | refine Below.drew ?_ | refine Kd.below_alloc ?_ _ | (refine Kd.below_set ?_ ?_; (next => first | exact Nat.le_refl _ | omega)))))); (next => exact Below.size (B := wc.heap.size) (w := wc) (by (repeat (first | assumption | exact Below.refl _ _ | exact hab.out | exact hef.out | refine Below.drew ?_ | refine Kd.below_alloc ?_ _ | (refine Kd.below_set ?_ ?_; (next => first | exact Nat.le_refl _ | omega)))))); (intro A3 c3 wa H2; have hSa : Below wc.heap.size wc wa := H2.out.on (by (repeat (first | assumption | exact Below.refl _ _ | exact hab.out | exact hef.out | refine Below.drew ?_ | refine Kd.below_alloc ?_ _ | (refine Kd.below_set ?_ ?_; (next => first | exact Nat.le_refl _ | omega))))) (Below.size (B := wc.heap.size) (w := wc) (by (repeat (first | assumption | exact Below.refl _ _ | exact hab.out | exact hef.out | refine Below.drew ?_ | refine Kd.below_alloc ?_ _ | (refine Kd.below_set ?_ ?_; (next => first | exact Nat.le_refl _ | omega)))))) (fun q hq => by cases hq); have hsa := Below.size hSa; have hz2 := H2.out.size; (try simp at hz2)))
          | (go_at_call 20; with_reducible refine (HSk.out _).mono ?_; rintro e wb ⟨rfl, h4, hz4⟩; have hab : Hid (Below wa.heap.size wa wb) := Lib.hid (Hk.andThen (by (repeat (first | assumption | exact Below.refl _ _ | exact hab.out | exact hef.out | refine Below.drew ?_ | refine Kd.below_alloc ?_ _ | (refine Kd.below_set ?_ ?_; (next => first | exact Nat.le_refl _ | omega))))) h4.out); have hSb : Below wc.heap.size wc wb := Hk.andThen hSa hab.out; have hsb := Below.size hSb; (try simp at hz4))
          | ((first | (refine Kd.step_text (o := ⟨some 37, _, _, _, _, _⟩) rfl (.tmp 33) (.tmp 36) rfl wc.heap.size A3 l2.skus.n c3 s2.skus rfl wb.heap.size a rfl ?_ ?_ HSZ.out.1 (by omega) ?_ ?_) | (refine Kd.step_text (o := ⟨some 37, _, _, _, _, _⟩) rfl (.tmp 33) (.tmp 36) rfl wc.heap.size A3 l2.skus.n c3 s2.skus rfl (wb.heap.size + 1) a rfl ?_ ?_ HSZ.out.1 (by omega) ?_ ?_)); (next => exact H2.out.own.later (by (repeat (first | assumption | exact Below.refl _ _ | exact hab.out | exact hef.out | refine Below.drew ?_ | refine Kd.below_alloc ?_ _ | (refine Kd.below_set ?_ ?_; (next => first | exact Nat.le_refl _ | omega)))))); (next => first | exact Qu.Blk.new _ _ _ | exact new_next _ _ _ _ | exact (Qu.Blk.new _ _ _).alloc _); (next => exact Below.size (B := wc.heap.size) (w := wc) (by (repeat (first | assumption | exact Below.refl _ _ | exact hab.out | exact hef.out | refine Below.drew ?_ | refine Kd.below_alloc ?_ _ | (refine Kd.below_set ?_ ?_; (next => first | exact Nat.le_refl _ | omega)))))); (intro A5 c5 wd H6; have hSd : Below wc.heap.size wc wd := H6.out.on (by (repeat (first | assumption | exact Below.refl _ _ | exact hab.out | exact hef.out | refine Below.drew ?_ | refine Kd.below_alloc ?_ _ | (refine Kd.below_set ?_ ?_; (next => first | exact Nat.le_refl _ | omega))))) (Below.size (B := wc.heap.size) (w := wc) (by (repeat (first | assumption | exact Below.refl _ _ | exact hab.out | exact hef.out | refine Below.drew ?_ | refine Kd.below_alloc ?_ _ | (refine Kd.below_set ?_ ?_; (next => first | exact Nat.le_refl _ | omega)))))) (fun q hq => (H2.out.own.low q hq).1); have hsd := Below.size hSd; have hz6 := H6.out.size; (try simp at hz6)))
          | (refine Kd.step_copy (o := ⟨some 40, _, _, _, _, _⟩) rfl _ _ rfl rfl wc.heap.size l2.cats.A l2.cats.n l2.cats.c s2.cats rfl ?_ HFit.out.2 (by omega) ?_ ?_; (next => exact HJ2.out _ (by (repeat (first | assumption | exact Below.refl _ _ | exact hab.out | exact hef.out | refine Below.drew ?_ | refine Kd.below_alloc ?_ _ | (refine Kd.below_set ?_ ?_; (next => first | exact Nat.le_refl _ | omega)))))); (next => exact Below.size (B := wc.heap.size) (w := wc) (by (repeat (first | assumption | exact Below.refl _ _ | exact hab.out | exact hef.out | refine Below.drew ?_ | refine Kd.below_alloc ?_ _ | (refine Kd.below_set ?_ ?_; (next => first | exact Nat.le_refl _ | omega)))))); (intro A7 c7 we H9; have hSe : Below wc.heap.size wc we := H9.out.on (by (repeat (first | assumption | exact Below.refl _ _ | exact hab.out | exact hef.out | refine Below.drew ?_ | refine Kd.below_alloc ?_ _ | (refine Kd.below_set ?_ ?_; (next => first | exact Nat.le_refl _ | omega))))) (Below.size (B := wc.heap.size) (w := wc) (by (repeat (first | assumption | exact Below.refl _ _ | exact hab.out | exact hef.out | refine Below.drew ?_ | refine Kd.below_alloc ?_ _ | (refine Kd.below_set ?_ ?_; (next => first | exact Nat.le_refl _ | omega)))))) (fun q hq => by cases hq); have hse := Below.size hSe; have hz9 := H9.out.size; (try simp at hz9)))
          | (go_at_call 21; with_reducible refine (HCt.out _).mono ?_; rintro e wf ⟨rfl, h11, hz11⟩; have hef : Hid (Below we.heap.size we wf) := Lib.hid (Hk.andThen (by (repeat (first | assumption | exact Below.refl _ _ | exact hab.out | exact hef.out | refine Below.drew ?_ | refine Kd.below_alloc ?_ _ | (refine Kd.below_set ?_ ?_; (next => first | exact Nat.le_refl _ | omega))))) h11.out); have hSf : Below wc.heap.size wc wf := Hk.andThen hSe hef.out; have hsf := Below.size hSf; (try simp at hz11))
          | ((first | (refine Kd.step_text (o := ⟨some 44, _, _, _, _, _⟩) rfl (.tmp 40) (.tmp 43) rfl wc.heap.size A7 l2.cats.n c7 s2.cats rfl wf.heap.size b rfl ?_ ?_ HSZ.out.2 (by omega) ?_ ?_) | (refine Kd.step_text (o := ⟨some 44, _, _, _, _, _⟩) rfl (.tmp 40) (.tmp 43) rfl wc.heap.size A7 l2.cats.n c7 s2.cats rfl (wf.heap.size + 1) b rfl ?_ ?_ HSZ.out.2 (by omega) ?_ ?_)); (next => exact H9.out.own.later (by (repeat (first | assumption | exact Below.refl _ _ | exact hab.out | exact hef.out | refine Below.drew ?_ | refine Kd.below_alloc ?_ _ | (refine Kd.below_set ?_ ?_; (next => first | exact Nat.le_refl _ | omega)))))); (next => first | exact Qu.Blk.new _ _ _ | exact new_next _ _ _ _ | exact (Qu.Blk.new _ _ _).alloc _); (next => exact Below.size (B := wc.heap.size) (w := wc) (by (repeat (first | assumption | exact Below.refl _ _ | exact hab.out | exact hef.out | refine Below.drew ?_ | refine Kd.below_alloc ?_ _ | (refine Kd.below_set ?_ ?_; (next => first | exact Nat.le_refl _ | omega)))))); (intro A8 c8 wg H13; have hSg : Below wc.heap.size wc wg := H13.out.on (by (repeat (first | assumption | exact Below.refl _ _ | exact hab.out | exact hef.out | refine Below.drew ?_ | refine Kd.below_alloc ?_ _ | (refine Kd.below_set ?_ ?_; (next => first | exact Nat.le_refl _ | omega))))) (Below.size (B := wc.heap.size) (w := wc) (by (repeat (first | assumption | exact Below.refl _ _ | exact hab.out | exact hef.out | refine Below.drew ?_ | refine Kd.below_alloc ?_ _ | (refine Kd.below_set ?_ ?_; (next => first | exact Nat.le_refl _ | omega)))))) (fun q hq => (H9.out.own.low q hq).1); have hsg := Below.size hSg; have hz13 := H13.out.size; (try simp at hz13); (first | (refine Kd.cut_then (P := Qu.Blk wg wc.heap.size 24 #[.slice none 0 0, .slice none 0 0]) ?_ ?_; (next => (refine H13.out.blk' ?_ ?_; (next => intro e9; have q1 := H9.out.low_nil _ e9; have q2 := H9.out.top _ e9; (try simp at q1); omega); (repeat (first | exact Qu.Blk.new _ _ _ | exact new_next _ _ _ _ | exact Kd.blk_drew (Qu.Blk.new _ _ _) | refine Qu.Blk.alloc ?_ _ | refine Qu.Blk.below ?_ h11.out | (refine H9.out.blk' ?_ ?_; (next => intro e9; cases e9)) | (refine H6.out.blk' ?_ ?_; (next => intro e9; have q1 := H2.out.low_nil _ e9; have q2 := H2.out.top _ e9; (try simp at q1); omega)) | refine Qu.Blk.below ?_ h4.out | (refine H2.out.blk' ?_ ?_; (next => intro e9; cases e9)))); done)); intro HBX0; have y0 := HBX0.cell 0; have y1 := HBX0.cell 1; have y2 := HBX0.frozen 0; have y3 := HBX0.frozen 1; have HBX := Lib.hid HBX0; clear HBX0) | (refine Kd.cut_then (P := Qu.Blk wg wa.heap.size 24 #[.slice none 0 0, .slice none 0 0]) ?_ ?_; (next => (refine H13.out.blk' ?_ ?_; (next => intro e9; have q1 := H9.out.low_nil _ e9; have q2 := H9.out.top _ e9; (try simp at q1); omega); (repeat (first | exact Qu.Blk.new _ _ _ | exact new_next _ _ _ _ | exact Kd.blk_drew (Qu.Blk.new _ _ _) | refine Qu.Blk.alloc ?_ _ | refine Qu.Blk.below ?_ h11.out | (refine H9.out.blk' ?_ ?_; (next => intro e9; cases e9)) | (refine H6.out.blk' ?_ ?_; (next => intro e9; have q1 := H2.out.low_nil _ e9; have q2 := H2.out.top _ e9; (try simp at q1); omega)) | refine Qu.Blk.below ?_ h4.out | (refine H2.out.blk' ?_ ?_; (next => intro e9; cases e9)))); done)); intro HBX0; have y0 := HBX0.cell 0; have y1 := HBX0.cell 1; have y2 := HBX0.frozen 0; have y3 := HBX0.frozen 1; have HBX := Lib.hid HBX0; clear HBX0) | (refine Kd.cut_then (P := Qu.Blk wg wb.heap.size 24 #[.slice none 0 0, .slice none 0 0]) ?_ ?_; (next => (refine H13.out.blk' ?_ ?_; (next => intro e9; have q1 := H9.out.low_nil _ e9; have q2 := H9.out.top _ e9; (try simp at q1); omega); (repeat (first | exact Qu.Blk.new _ _ _ | exact new_next _ _ _ _ | exact Kd.blk_drew (Qu.Blk.new _ _ _) | refine Qu.Blk.alloc ?_ _ | refine Qu.Blk.below ?_ h11.out | (refine H9.out.blk' ?_ ?_; (next => intro e9; cases e9)) | (refine H6.out.blk' ?_ ?_; (next => intro e9; have q1 := H2.out.low_nil _ e9; have q2 := H2.out.top _ e9; (try simp at q1); omega)) | refine Qu.Blk.below ?_ h4.out | (refine H2.out.blk' ?_ ?_; (next => intro e9; cases e9)))); done)); intro HBX0; have y0 := HBX0.cell 0; have y1 := HBX0.cell 1; have y2 := HBX0.frozen 0; have y3 := HBX0.frozen 1; have HBX := Lib.hid HBX0; clear HBX0) | (refine Kd.cut_then (P := Qu.Blk wg (wb.heap.size + 1) 24 #[.slice none 0 0, .slice none 0 0]) ?_ ?_; (next => (refine H13.out.blk' ?_ ?_; (next => intro e9; have q1 := H9.out.low_nil _ e9; have q2 := H9.out.top _ e9; (try simp at q1); omega); (repeat (first | exact Qu.Blk.new _ _ _ | exact new_next _ _ _ _ | exact Kd.blk_drew (Qu.Blk.new _ _ _) | refine Qu.Blk.alloc ?_ _ | refine Qu.Blk.below ?_ h11.out | (refine H9.out.blk' ?_ ?_; (next => intro e9; cases e9)) | (refine H6.out.blk' ?_ ?_; (next => intro e9; have q1 := H2.out.low_nil _ e9; have q2 := H2.out.top _ e9; (try simp at q1); omega)) | refine Qu.Blk.below ?_ h4.out | (refine H2.out.blk' ?_ ?_; (next => intro e9; cases e9)))); done)); intro HBX0; have y0 := HBX0.cell 0; have y1 := HBX0.cell 1; have y2 := HBX0.frozen 0; have y3 := HBX0.frozen 1; have HBX := Lib.hid HBX0; clear HBX0) | (refine Kd.cut_then (P := Qu.Blk wg wd.heap.size 24 #[.slice none 0 0, .slice none 0 0]) ?_ ?_; (next => (refine H13.out.blk' ?_ ?_; (next => intro e9; have q1 := H9.out.low_nil _ e9; have q2 := H9.out.top _ e9; (try simp at q1); omega); (repeat (first | exact Qu.Blk.new _ _ _ | exact new_next _ _ _ _ | exact Kd.blk_drew (Qu.Blk.new _ _ _) | refine Qu.Blk.alloc ?_ _ | refine Qu.Blk.below ?_ h11.out | (refine H9.out.blk' ?_ ?_; (next => intro e9; cases e9)) | (refine H6.out.blk' ?_ ?_; (next => intro e9; have q1 := H2.out.low_nil _ e9; have q2 := H2.out.top _ e9; (try simp at q1); omega)) | refine Qu.Blk.below ?_ h4.out | (refine H2.out.blk' ?_ ?_; (next => intro e9; cases e9)))); done)); intro HBX0; have y0 := HBX0.cell 0; have y1 := HBX0.cell 1; have y2 := HBX0.frozen 0; have y3 := HBX0.frozen 1; have HBX := Lib.hid HBX0; clear HBX0) | (refine Kd.cut_then (P := Qu.Blk wg we.heap.size 24 #[.slice none 0 0, .slice none 0 0]) ?_ ?_; (next => (refine H13.out.blk' ?_ ?_; (next => intro e9; have q1 := H9.out.low_nil _ e9; have q2 := H9.out.top _ e9; (try simp at q1); omega); (repeat (first | exact Qu.Blk.new _ _ _ | exact new_next _ _ _ _ | exact Kd.blk_drew (Qu.Blk.new _ _ _) | refine Qu.Blk.alloc ?_ _ | refine Qu.Blk.below ?_ h11.out | (refine H9.out.blk' ?_ ?_; (next => intro e9; cases e9)) | (refine H6.out.blk' ?_ ?_; (next => intro e9; have q1 := H2.out.low_nil _ e9; have q2 := H2.out.top _ e9; (try simp at q1); omega)) | refine Qu.Blk.below ?_ h4.out | (refine H2.out.blk' ?_ ?_; (next => intro e9; cases e9)))); done)); intro HBX0; have y0 := HBX0.cell 0; have y1 := HBX0.cell 1; have y2 := HBX0.frozen 0; have y3 := HBX0.frozen 1; have HBX := Lib.hid HBX0; clear HBX0) | (refine Kd.cut_then (P := Qu.Blk wg wf.heap.size 24 #[.slice none 0 0, .slice none 0 0]) ?_ ?_; (next => (refine H13.out.blk' ?_ ?_; (next => intro e9; have q1 := H9.out.low_nil _ e9; have q2 := H9.out.top _ e9; (try simp at q1); omega); (repeat (first | exact Qu.Blk.new _ _ _ | exact new_next _ _ _ _ | exact Kd.blk_drew (Qu.Blk.new _ _ _) | refine Qu.Blk.alloc ?_ _ | refine Qu.Blk.below ?_ h11.out | (refine H9.out.blk' ?_ ?_; (next => intro e9; cases e9)) | (refine H6.out.blk' ?_ ?_; (next => intro e9; have q1 := H2.out.low_nil _ e9; have q2 := H2.out.top _ e9; (try simp at q1); omega)) | refine Qu.Blk.below ?_ h4.out | (refine H2.out.blk' ?_ ?_; (next => intro e9; cases e9)))); done)); intro HBX0; have y0 := HBX0.cell 0; have y1 := HBX0.cell 1; have y2 := HBX0.frozen 0; have y3 := HBX0.frozen 1; have HBX := Lib.hid HBX0; clear HBX0) | (refine Kd.cut_then (P := Qu.Blk wg (wf.heap.size + 1) 24 #[.slice none 0 0, .slice none 0 0]) ?_ ?_; (next => (refine H13.out.blk' ?_ ?_; (next => intro e9; have q1 := H9.out.low_nil _ e9; have q2 := H9.out.top _ e9; (try simp at q1); omega); (repeat (first | exact Qu.Blk.new _ _ _ | exact new_next _ _ _ _ | exact Kd.blk_drew (Qu.Blk.new _ _ _) | refine Qu.Blk.alloc ?_ _ | refine Qu.Blk.below ?_ h11.out | (refine H9.out.blk' ?_ ?_; (next => intro e9; cases e9)) | (refine H6.out.blk' ?_ ?_; (next => intro e9; have q1 := H2.out.low_nil _ e9; have q2 := H2.out.top _ e9; (try simp at q1); omega)) | refine Qu.Blk.below ?_ h4.out | (refine H2.out.blk' ?_ ?_; (next => intro e9; cases e9)))); done)); intro HBX0; have y0 := HBX0.cell 0; have y1 := HBX0.cell 1; have y2 := HBX0.frozen 0; have y3 := HBX0.frozen 1; have HBX := Lib.hid HBX0; clear HBX0) | skip))))
      all_goals clear x0 x1 HSk HCt HJ1 HJ2 HFit
      all_goals first
        | (refine Kd.cut_then (tb_put HBX.out ?_ hSg H2.out ?_ H6.out ?_ H9.out ?_ H13.out ?_ ?_) ?_; (next => first | exact Nat.le_refl _ | omega); (next => (repeat (first | assumption | exact Below.refl _ _ | exact hab.out | exact hef.out | refine Below.drew ?_ | refine Kd.below_alloc ?_ _))); (next => (repeat (first | assumption | exact Below.refl _ _ | exact hab.out | exact hef.out | refine Below.drew ?_ | refine Kd.below_alloc ?_ _))); (next => (repeat (first | assumption | exact Below.refl _ _ | exact hab.out | exact hef.out | refine Below.drew ?_ | refine Kd.below_alloc ?_ _))); (next => intro e9; have q1 := H6.out.fresh _ e9; have q2 := H6.out.top _ e9; rcases q1 with q1 | q1; (next => have q3 := H2.out.low_nil _ q1; have q4 := H2.out.top _ q1; (try simp at q3); omega); (next => (try simp at q1); omega)); (next => intro e9; have q1 := H13.out.fresh _ e9; have q2 := H13.out.top _ e9; rcases q1 with q1 | q1; (next => have q3 := H9.out.low_nil _ q1; have q4 := H9.out.top _ q1; (try simp at q3); omega); (next => (try simp at q1); omega)); intro HT0; have HT := Lib.hid HT0; clear HT0; go_wp2_with fail; go_meet; exact ⟨_, _, rfl, HT⟩)
        | (refine Kd.cut_then (tb_last hSg H2.out ?_ H6.out ?_ H9.out ?_ H13.out) ?_; (next => (repeat (first | assumption | exact Below.refl _ _ | exact hab.out | exact hef.out | refine Below.drew ?_ | refine Kd.below_alloc ?_ _))); (next => (repeat (first | assumption | exact Below.refl _ _ | exact hab.out | exact hef.out | refine Below.drew ?_ | refine Kd.below_alloc ?_ _))); (next => (repeat (first | assumption | exact Below.refl _ _ | exact hab.out | exact hef.out | refine Below.drew ?_ | refine Kd.below_alloc ?_ _))); intro HT0; have HT := Lib.hid HT0; clear HT0; go_wp2_with fail; go_meet; exact ⟨_, _, rfl, HT⟩)
    case rest =>
    obtain ⟨g, l3, rfl, hT⟩ := hcut
    have HN := Lib.hid (And.intro HW.out.names (And.intro HW.out.small hT.out.holds))
    have HW2 := Lib.hid (HW.out.on hT.out.below)
    have HT2 := Lib.hid hT.out.self
    clear hT HW x0 x1 HJ1 HJ2 HFit hsm
    have HFew : Hid (l3.skus.n ≤ 4 ∧ l3.cats.n ≤ 4) := Lib.hid (by
      have h1 := HN.out.2.2.skus.row.len
      have h2 := HN.out.2.2.cats.row.len
      have h3 := HN.out.1.few
      simp only [wider, List.length_append, List.length_cons, List.length_nil] at h1 h2
      omega)
    have HQ : Hid ((Sc.hasX s2 x.sku x.cat = true → Sc.hasX (wider s2 a b) x.sku x.cat = true) ∧ Sc.hasX (wider s2 a b) a ⟨#[113]⟩ = true ∧ Sc.hasX (wider s2 a b) ⟨#[113]⟩ b = true ∧ Sc.hasX s2 ⟨#[113]⟩ ⟨#[113]⟩ = false) := Lib.hid ⟨fun h => wider_has HN.out.1 h, wider_sku _ _ _ _, wider_cat _ _ _ _, names_q HN.out.1⟩
    clear HN
    obtain ⟨t3, ht3⟩ : ∃ t3, wider s2 a b = t3 := ⟨_, rfl⟩
    rw [ht3] at HQ HT2
    clear ht3
    go_wp2_with fail
    refine (HSk.out _).mono ?_
    rintro e w1 ⟨rfl, h1, _⟩
    obtain ⟨wy, hwy⟩ : ∃ wy, w1.alloc (.cells #[.string a, .string ⟨#[113]⟩, .int .i64 0, .bool false] 33) = wy := ⟨_, rfl⟩
    have hby : Below w1.heap.size w1 wy := by rw [← hwy]; exact (Below.refl _ _).alloc (Nat.le_refl _) _
    have HY0 : Hid (Qu.Blk wy w1.heap.size 33 #[.string a, .string ⟨#[113]⟩, .int .i64 0, .bool false] ∧ Ws w wy x s2 l2 ∧ Tb wy wy g t3 l3) := Lib.hid ⟨by rw [← hwy]; exact Qu.Blk.new w1 _ _, (HW2.out.on h1.out).on hby, ((HT2.out.on h1.out).on hby).self⟩
    have HWY := Lib.hid hwy
    clear hwy hby h1 HW2 HT2 HSk
    go_wp2_with fail
    refine (HCt.out _).mono ?_
    rintro e w2 ⟨rfl, h2, _⟩
    rw [HWY.out] at h2
    obtain ⟨wz, hwz⟩ : ∃ wz, w2.alloc (.cells #[.string ⟨#[113]⟩, .string b, .int .i64 0, .bool false] 33) = wz := ⟨_, rfl⟩
    have hbz : Below w2.heap.size w2 wz := by rw [← hwz]; exact (Below.refl _ _).alloc (Nat.le_refl _) _
    have Hz : Hid (Fin w wz x s2 l2 g t3 l3 w1.heap.size w2.heap.size a b) := Lib.hid ⟨(HY0.out.2.1.on h2.out).on hbz, ((HY0.out.2.2.on h2.out).on hbz).self, (HY0.out.1.below h2.out).below hbz, by rw [← hwz]; exact Qu.Blk.new w2 _ _, HFew.out⟩
    have HWZ := Lib.hid hwz
    clear hwz hbz h2 HY0 HCt HWY
    go_wp2_with fail
    refine (Sc.awake_any _).mono ?_
    rintro e v0 ⟨rfl, hb0⟩
    rw [HWZ.out] at hb0
    have Hv0 := Lib.hid (Hz.out.on hb0)
    clear hb0 Hz HWZ HFew
    obtain ⟨r, hr⟩ : ∃ r, Sc.hasX s2 x.sku x.cat = r := ⟨_, rfl⟩
    have HR := Lib.hid hr
    clear hr
    cases r with
    | false =>
      have s0 := Hv0.out.ws.box.cell 0
      have s1 := Hv0.out.ws.box.cell 1
      have i0 := Hv0.out.ws.item.cell 0
      have i1 := Hv0.out.ws.item.cell 1
      have i2 := Hv0.out.ws.item.cell 2
      have i3 := Hv0.out.ws.item.cell 3
      go_wp2_with fail
      refine (Hv0.out.has_s x HR.out).mono ?_
      rintro e v1 ⟨rfl, hbv1⟩
      have Hv1 := Lib.hid (Hv0.out.on hbv1)
      clear hbv1 s0 s1 i0 i1 i2 i3
      have t0 := Hv1.out.tb.box.cell 0
      have t1 := Hv1.out.tb.box.cell 1
      have y0 := Hv1.out.y.cell 0
      have y1 := Hv1.out.y.cell 1
      have y2 := Hv1.out.y.cell 2
      have y3 := Hv1.out.y.cell 3
      go_wp2_with fail
      refine (Hv1.out.has_t ⟨a, ⟨#[113]⟩, 0, false⟩ HQ.out.2.1).mono ?_
      rintro e v3 ⟨rfl, hbv3⟩
      have Hv3 := Lib.hid (Hv1.out.on hbv3)
      clear hbv3 t0 t1 y0 y1 y2 y3
      have t0 := Hv3.out.tb.box.cell 0
      have t1 := Hv3.out.tb.box.cell 1
      have z0 := Hv3.out.z.cell 0
      have z1 := Hv3.out.z.cell 1
      have z2 := Hv3.out.z.cell 2
      have z3 := Hv3.out.z.cell 3
      go_wp2_with fail
      refine (Hv3.out.has_t ⟨⟨#[113]⟩, b, 0, false⟩ HQ.out.2.2.1).mono ?_
      rintro e v4 ⟨rfl, hbv4⟩
      have Hv4 := Lib.hid (Hv3.out.on hbv4)
      clear hbv4 t0 t1 z0 z1 z2 z3
      have s0 := Hv4.out.ws.box.cell 0
      have s1 := Hv4.out.ws.box.cell 1
      go_wp2_with fail
      refine (Hv4.out.has_s ⟨⟨#[113]⟩, ⟨#[113]⟩, 0, false⟩ HQ.out.2.2.2).mono ?_
      rintro e v5 ⟨rfl, hbv5⟩
      have Hv5 := Lib.hid (Hv4.out.on hbv5)
      clear hbv5 s0 s1
      have i0 := Hv5.out.ws.item.cell 0
      have i1 := Hv5.out.ws.item.cell 1
      have i2 := Hv5.out.ws.item.cell 2
      have i3 := Hv5.out.ws.item.cell 3
      go_wp2_with fail
      refine (has_none v5 x).mono ?_
      rintro e v6 ⟨rfl, hbv6⟩
      have Hv6 := Lib.hid (Hv5.out.on hbv6)
      clear hbv6 i0 i1 i2 i3
      go_wp2
      go_ret
      exact ⟨rfl, Hv6.out.ws.below⟩
    | true =>
      have s0 := Hv0.out.ws.box.cell 0
      have s1 := Hv0.out.ws.box.cell 1
      have i0 := Hv0.out.ws.item.cell 0
      have i1 := Hv0.out.ws.item.cell 1
      have i2 := Hv0.out.ws.item.cell 2
      have i3 := Hv0.out.ws.item.cell 3
      go_wp2_with fail
      refine (Hv0.out.has_s x HR.out).mono ?_
      rintro e v1 ⟨rfl, hbv1⟩
      have Hv1 := Lib.hid (Hv0.out.on hbv1)
      clear hbv1 s0 s1 i0 i1 i2 i3
      have t0 := Hv1.out.tb.box.cell 0
      have t1 := Hv1.out.tb.box.cell 1
      have i0 := Hv1.out.ws.item.cell 0
      have i1 := Hv1.out.ws.item.cell 1
      have i2 := Hv1.out.ws.item.cell 2
      have i3 := Hv1.out.ws.item.cell 3
      go_wp2_with fail
      refine (Hv1.out.has_t x (HQ.out.1 HR.out)).mono ?_
      rintro e v2 ⟨rfl, hbv2⟩
      have Hv2 := Lib.hid (Hv1.out.on hbv2)
      clear hbv2 t0 t1 i0 i1 i2 i3
      have t0 := Hv2.out.tb.box.cell 0
      have t1 := Hv2.out.tb.box.cell 1
      have y0 := Hv2.out.y.cell 0
      have y1 := Hv2.out.y.cell 1
      have y2 := Hv2.out.y.cell 2
      have y3 := Hv2.out.y.cell 3
      go_wp2_with fail
      refine (Hv2.out.has_t ⟨a, ⟨#[113]⟩, 0, false⟩ HQ.out.2.1).mono ?_
      rintro e v3 ⟨rfl, hbv3⟩
      have Hv3 := Lib.hid (Hv2.out.on hbv3)
      clear hbv3 t0 t1 y0 y1 y2 y3
      have t0 := Hv3.out.tb.box.cell 0
      have t1 := Hv3.out.tb.box.cell 1
      have z0 := Hv3.out.z.cell 0
      have z1 := Hv3.out.z.cell 1
      have z2 := Hv3.out.z.cell 2
      have z3 := Hv3.out.z.cell 3
      go_wp2_with fail
      refine (Hv3.out.has_t ⟨⟨#[113]⟩, b, 0, false⟩ HQ.out.2.2.1).mono ?_
      rintro e v4 ⟨rfl, hbv4⟩
      have Hv4 := Lib.hid (Hv3.out.on hbv4)
      clear hbv4 t0 t1 z0 z1 z2 z3
      have s0 := Hv4.out.ws.box.cell 0
      have s1 := Hv4.out.ws.box.cell 1
      go_wp2_with fail
      refine (Hv4.out.has_s ⟨⟨#[113]⟩, ⟨#[113]⟩, 0, false⟩ HQ.out.2.2.2).mono ?_
      rintro e v5 ⟨rfl, hbv5⟩
      have Hv5 := Lib.hid (Hv4.out.on hbv5)
      clear hbv5 s0 s1
      have i0 := Hv5.out.ws.item.cell 0
      have i1 := Hv5.out.ws.item.cell 1
      have i2 := Hv5.out.ws.item.cell 2
      have i3 := Hv5.out.ws.item.cell 3
      go_wp2_with fail
      refine (has_none v5 x).mono ?_
      rintro e v6 ⟨rfl, hbv6⟩
      have Hv6 := Lib.hid (Hv5.out.on hbv6)
      clear hbv6 i0 i1 i2 i3
      go_wp2
      go_ret
      exact ⟨rfl, Hv6.out.ws.below⟩

set_option maxRecDepth 100000 in
theorem lifted (os : Os) (started : os.Started) (H : Type) (enc : TypeId × Value → H) :
    ReturnsInHanded {} Try.checked os 5 .any (Rows.scopeWiderSpec.pre6 enc Try.prog Try.f5 Rows.scopeWiderRow.domain false) (Rows.scopeWiderSpec.post enc Try.prog Try.f5 false true false false) := by
  refine returnsInHanded_of_change (C := Try.checked) own started (by kernel_rfl) Try.func5
    (ChangeSpec.witness6 (enc := enc) (C := Try.checked) false ⟨#[], #[.agg #[.slice none 0 0, .slice none 0 0], .int .i64 0, .int .i64 0, .agg #[.string ⟨#[]⟩, .string ⟨#[]⟩, .int .i64 0, .bool false]], []⟩ 8 (by kernel_rfl) (by kernel_rfl) (by kernel_rfl) (by kernel_rfl)) ?_
  intro W base args ds gs before hval0 hW hcnd _
  have hval : ∀ (j : Nat) t v, Try.f5.params[j]? = some t → args[j]? = some v → Value.okWide Try.prog W .any base t v := hval0
  have hW' := hW
  obtain ⟨p, q, hA0, hV, rfl, hfz, hnd⟩ := hW
  have hA : DataW.TrodAll enc Try.prog W 0 (fun _ => true) true Try.f5.params.toList args.toList ds p := hA0
  rw [Try.params5] at hA hval
  obtain ⟨v0, vs0, d0, ds0, p0, q0, hargs, rfl, rfl, h0, r0⟩ := trodAll_cons hA
  obtain ⟨v1, vs1, d1, ds1, p1, q1, rfl, rfl, rfl, h1, r1⟩ := trodAll_cons r0
  obtain ⟨v2, vs2, d2, ds2, p2, q2, rfl, rfl, rfl, h2, r2⟩ := trodAll_cons r1
  obtain ⟨v3, vs3, d3, ds3, p3, q3, rfl, rfl, rfl, h3, r3⟩ := trodAll_cons r2
  obtain ⟨rfl, rfl, rfl⟩ := trodAll_nil r3
  obtain rfl : args = #[v0, v1, v2, v3] := by cases args; simp_all
  obtain ⟨cs0, s0, rfl, r0⟩ := Kd.open_struct Ap.reads_Scp Try.underlying24 (hval 0 24 v0 rfl rfl) h0; obtain ⟨l0, rfl, x0⟩ := Ap.Scp_rep.1 r0
  obtain ⟨a1, rfl, _, _, w1⟩ := open_int Try.underlying3 (hval 1 3 v1 rfl rfl) h1
  obtain ⟨a2, rfl, _, _, w2⟩ := open_int Try.underlying3 (hval 2 3 v2 rfl rfl) h2
  obtain ⟨cs3, s3, rfl, r3⟩ := Kd.open_struct It.reads_item Try.underlying33 (hval 3 33 v3 rfl rfl) h3; obtain ⟨rfl, x3⟩ := It.item_rep.1 r3
  refine (walk W s0 l0 x0 a1 w1 a2 w2 s3 x3).mono fun e W' ⟨he, hb⟩ => ?_
  subst he
  exact ⟨_, rfl, Hk.closeLaw (tb := 4) (by kernel_rfl) (by kernel_rfl) rfl rfl rfl Try.underlying4 hW' hb⟩

theorem over : Rows.scopeWiderRow.holds Try.pinned (OpenSpec.ofChange Rows.scopeWiderSpec) :=
  OpenClaim.holds_of_wide 5 Try.f5 rfl rfl rfl rfl rfl rfl rfl ⟨rfl, rfl, rfl, rfl, rfl⟩ rfl rfl rfl rfl rfl (by kernel_rfl) Try.func5 (by kernel_rfl)
    (of_decide_eq_true (by kernel_rfl)) (by unfold Func.isWrapper; first | (rw [if_pos (by decide +kernel)]; kernel_rfl) | (rw [if_neg (by decide +kernel)]; exact ⟨rfl, rfl⟩))
    (fun os started H enc _ => lifted os started H enc)

/-- The statement. -/
theorem proved : Rows.ScopeWiderSaid :=
  over
end Go.Proofs.Ytkpekdcglbaadaa.scopeWider
