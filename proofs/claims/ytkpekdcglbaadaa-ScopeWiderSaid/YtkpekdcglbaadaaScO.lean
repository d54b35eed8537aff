/- The landed package scope: what a scope asks, and Has. -/
import Derived.Test.YtkpekdcglbaadaaScN
import Derived.Deep.RegionHeld3
import Derived.Laws.EntriesVeiled
set_option maxRecDepth 100000

set_option linter.unusedVariables false
namespace Go.Proofs.Ytkpekdcglbaadaa.Sc
open Go.ChangeShapes Go.WideShapes Go.ChangeAt Go.RowKit
open It (Itm kItem row_item)
open Ap (Scp kScp row_Scp)
open Kd (Row Fit Lst Sl kStr kInt kList row_str Deep But Own)

/-- A function value that asks what a scope with such lists asks. -/
inductive Asking (M : Nat) (w : World) (v : Value) (l : Scp.Lay) : Prop
  | all : l.skus.n = 0 → l.cats.n = 0 → v = .func (.func 37) #[] #[] → Asking M w v l
  | some_ (g1 g2 : Nat) : ¬ (l.skus.n = 0 ∧ l.cats.n = 0) → v = .func (.func 39) #[] #[.pointer (some ⟨g1, 0, none⟩), .pointer (some ⟨g2, 0, none⟩)] →
      M ≤ g1 ∧ g1 < w.heap.size → M ≤ g2 ∧ g2 < w.heap.size →
      w.cell? ⟨g1, 0, none⟩ = some (.func (.func 38) #[.slice l.skus.A l.skus.n l.skus.c] #[]) →
      w.cell? ⟨g2, 0, none⟩ = some (.func (.func 38) #[.slice l.cats.A l.cats.n l.cats.c] #[]) → Asking M w v l

/-- Two boxes made one behind the other. -/
theorem two_boxes {w w1 : World} (F1 F2 : Value) (T : TypeId) (s1 : w1.heap.size = w.heap.size + 1) (hb : Below w.heap.size w w1) :
    ∃ W, ((w1.alloc (.cells #[F1] T)).alloc (.cells #[F2] T)).drew = W ∧ W.cell? ⟨w1.heap.size, 0, none⟩ = some F1 ∧ W.cell? ⟨w1.heap.size + 1, 0, none⟩ = some F2 ∧ W.heap.size = w1.heap.size + 2 ∧ w1.heap.size = w.heap.size + 1 ∧ Below w.heap.size w W := by
  refine ⟨_, rfl, ?_, ?_, ?_, s1, ?_⟩
  · have h : Qu.Blk ((w1.alloc (.cells #[F1] T)).alloc (.cells #[F2] T)) w1.heap.size T #[F1] := (Qu.Blk.new w1 T #[F1]).alloc _
    exact h.cell 0
  · have h := Qu.Blk.new (w1.alloc (.cells #[F1] T)) T #[F2]
    have e : (w1.alloc (.cells #[F1] T)).heap.size = w1.heap.size + 1 := by simp
    rw [e] at h
    exact h.cell 0
  · show ((w1.alloc (.cells #[F1] T)).alloc (.cells #[F2] T)).heap.size = _
    simp
  · exact ((hb.alloc (by omega) _).alloc (by simp; omega) _).drew

set_option maxHeartbeats 2000000 in
theorem asks_any (l : Scp.Lay) (w : World) :
    Calls Try.prog 25 #[.agg #[.slice l.skus.A l.skus.n l.skus.c, .slice l.cats.A l.cats.n l.cats.c]] w fun e w' => ∃ v, e = .returned v ∧ Asking w.heap.size w' v l ∧ Below w.heap.size w w' := by
  obtain ⟨⟨A1, n1, c1⟩, ⟨A2, n2, c2⟩⟩ := l
  have hmf : ∀ (fn : Fn) (first cap : Array Value) (w : World), (Instr.makeFunc fn first cap).run Try.prog w = .ok (.func fn first cap) w := fun _ _ _ _ => rfl
  obtain ⟨w1, hw1⟩ : ∃ w1, w.alloc (.cells #[.slice A1 n1 c1, .slice A2 n2 c2] 24) = w1 := ⟨_, rfl⟩
  have s1 : w1.heap.size = w.heap.size + 1 := by rw [← hw1]; simp
  have HB1 : Hid (Below w.heap.size w w1) := Lib.hid (by rw [← hw1]; exact (Below.refl _ _).alloc (Nat.le_refl _) _)
  have hx : Qu.Blk w1 w.heap.size 24 #[.slice A1 n1 c1, .slice A2 n2 c2] := by rw [← hw1]; exact Qu.Blk.new w _ _
  have x0 : ∀ u, Below w1.heap.size w1 u → u.cell? ⟨w.heap.size, 0, none⟩ = some (.slice A1 n1 c1) := fun u hu => (hu.cell (p := ⟨w.heap.size, 0, none⟩) (show w.heap.size < w1.heap.size by omega)).trans (hx.cell 0)
  have x1 : ∀ u, Below w1.heap.size w1 u → u.cell? ⟨w.heap.size, 1, none⟩ = some (.slice A2 n2 c2) := fun u hu => (hu.cell (p := ⟨w.heap.size, 1, none⟩) (show w.heap.size < w1.heap.size by omega)).trans (hx.cell 1)
  have y0 := x0 w1 (Below.refl _ _)
  have y1 := x1 w1 (Below.refl _ _)
  clear hx
  have z1 : ((n1 : Int) == 0) = (n1 == 0) := by
    by_cases e : n1 = 0
    · subst e; rfl
    · rw [beq_eq_false_iff_ne.2 e]; exact beq_eq_false_iff_ne.2 (by omega)
  have z2 : ((n2 : Int) == 0) = (n2 == 0) := by
    by_cases e : n2 = 0
    · subst e; rfl
    · rw [beq_eq_false_iff_ne.2 e]; exact beq_eq_false_iff_ne.2 (by omega)
  by_cases e1 : n1 = 0 ∧ n2 = 0
  · rw [beq_iff_eq.2 e1.1] at z1
    rw [beq_iff_eq.2 e1.2] at z2
    have HE := Lib.hid e1
    clear e1
    go_enter Try.func25, Try.ntmps25
    go_wp2
    go_ret
    exact ⟨_, rfl, .all HE.out.1 HE.out.2 rfl, HB1.out⟩
  · have HE := Lib.hid e1
    have HS1 := Lib.hid s1
    clear s1
    by_cases e2 : n1 = 0
    · have e3 : n2 ≠ 0 := fun e => e1 ⟨e2, e⟩
      rw [beq_iff_eq.2 e2] at z1
      rw [beq_eq_false_iff_ne.2 e3] at z2
      clear e1 e2 e3
      go_enter Try.func25, Try.ntmps25
      go_wp2
      go_region_held3 (fun u => Below w1.heap.size w1 u)
        (first
          | assumption
          | (repeat (first | exact Below.refl _ _ | refine Below.drew ?_ | refine Below.alloc ?_ (by simp) _ | refine Below.setCell ?_ (by simp) _)))
        (fail)
      all_goals clear x0 x1 y0 y1 hw1
      all_goals first
        | (obtain ⟨W, hW, hK⟩ := two_boxes (.func (.func 38) #[.slice A1 n1 c1] #[]) (.func (.func 38) #[.slice A2 n2 c2] #[]) 61 HS1.out HB1.out
           rw [hW]
           have HK := Lib.hid hK
           clear hK hW
           go_wp2
           go_ret
           exact ⟨_, rfl, .some_ w1.heap.size (w1.heap.size + 1) HE.out rfl (by have := HK.out.2.2; omega) (by have := HK.out.2.2; omega) HK.out.1 HK.out.2.1, HK.out.2.2.2.2⟩)
        | (obtain ⟨W, hW, hK⟩ := two_boxes (.func (.func 38) #[.slice A2 n2 c2] #[]) (.func (.func 38) #[.slice A1 n1 c1] #[]) 61 HS1.out HB1.out
           rw [hW]
           have HK := Lib.hid hK
           clear hK hW
           go_wp2
           go_ret
           exact ⟨_, rfl, .some_ (w1.heap.size + 1) w1.heap.size HE.out rfl (by have := HK.out.2.2; omega) (by have := HK.out.2.2; omega) HK.out.2.1 HK.out.1, HK.out.2.2.2.2⟩)
    · rw [beq_eq_false_iff_ne.2 e2] at z1
      clear e1 e2 z2
      go_enter Try.func25, Try.ntmps25
      go_wp2
      go_region_held3 (fun u => Below w1.heap.size w1 u)
        (first
          | assumption
          | (repeat (first | exact Below.refl _ _ | refine Below.drew ?_ | refine Below.alloc ?_ (by simp) _ | refine Below.setCell ?_ (by simp) _)))
        (fail)
      all_goals clear x0 x1 y0 y1 hw1
      all_goals first
        | (obtain ⟨W, hW, hK⟩ := two_boxes (.func (.func 38) #[.slice A1 n1 c1] #[]) (.func (.func 38) #[.slice A2 n2 c2] #[]) 61 HS1.out HB1.out
           rw [hW]
           have HK := Lib.hid hK
           clear hK hW
           go_wp2
           go_ret
           exact ⟨_, rfl, .some_ w1.heap.size (w1.heap.size + 1) HE.out rfl (by have := HK.out.2.2; omega) (by have := HK.out.2.2; omega) HK.out.1 HK.out.2.1, HK.out.2.2.2.2⟩)
        | (obtain ⟨W, hW, hK⟩ := two_boxes (.func (.func 38) #[.slice A2 n2 c2] #[]) (.func (.func 38) #[.slice A1 n1 c1] #[]) 61 HS1.out HB1.out
           rw [hW]
           have HK := Lib.hid hK
           clear hK hW
           go_wp2
           go_ret
           exact ⟨_, rfl, .some_ (w1.heap.size + 1) w1.heap.size HE.out rfl (by have := HK.out.2.2; omega) (by have := HK.out.2.2; omega) HK.out.2.1 HK.out.1, HK.out.2.2.2.2⟩)

theorem ask_all (x : Itm) (w : World) :
    Calls Try.prog 37 #[.agg #[.string x.sku, .string x.cat, .int .i64 x.price, .bool x.fin]] w fun e w' => e = .returned (.bool true) ∧ Below w.heap.size w w' := by
  have HB : Hid (∀ o, Below w.heap.size w (w.alloc o)) := Lib.hid fun o => (Below.refl _ _).alloc (Nat.le_refl _) _
  go_enter Try.func37, Try.ntmps37
  go_wp2
  go_ret
  exact ⟨rfl, HB.out _⟩

set_option maxHeartbeats 1000000 in
theorem ask_some (s : Scp) (l : Scp.Lay) (x : Itm) (w : World) (g1 g2 : Nat) (h : Scp.Holds w (· < w.heap.size) s l) (hl : Small l) (b1 : g1 < w.heap.size) (b2 : g2 < w.heap.size)
    (k1 : w.cell? ⟨g1, 0, none⟩ = some (.func (.func 38) #[.slice l.skus.A l.skus.n l.skus.c] #[]))
    (k2 : w.cell? ⟨g2, 0, none⟩ = some (.func (.func 38) #[.slice l.cats.A l.cats.n l.cats.c] #[])) :
    Calls Try.prog 39 #[.agg #[.string x.sku, .string x.cat, .int .i64 x.price, .bool x.fin], .pointer (some ⟨g1, 0, none⟩), .pointer (some ⟨g2, 0, none⟩)] w fun e w' => e = .returned (.bool (hasB s.skus x.sku || hasB s.cats x.cat)) ∧ Below w.heap.size w w' := by
  obtain ⟨⟨A1, n1, c1⟩, ⟨A2, n2, c2⟩⟩ := l
  obtain ⟨sku, cat, price, fin⟩ := x
  simp only at k1 k2 ⊢
  obtain ⟨w1, hw1⟩ : ∃ w1, w.alloc (.cells #[.string sku, .string cat, .int .i64 price, .bool fin] 33) = w1 := ⟨_, rfl⟩
  have hb1 : Below w.heap.size w w1 := by rw [← hw1]; exact (Below.refl _ _).alloc (Nat.le_refl _) _
  have c1' : w1.cell? ⟨g1, 0, none⟩ = some (.func (.func 38) #[.slice A1 n1 c1] #[]) := (hb1.cell (p := ⟨g1, 0, none⟩) b1).trans k1
  have c2' : w1.cell? ⟨g2, 0, none⟩ = some (.func (.func 38) #[.slice A2 n2 c2] #[]) := (hb1.cell (p := ⟨g2, 0, none⟩) b2).trans k2
  have hy : Qu.Blk w1 w.heap.size 33 #[.string sku, .string cat, .int .i64 price, .bool fin] := by rw [← hw1]; exact Qu.Blk.new w _ _
  have y0 := hy.cell 0
  have y1 := hy.cell 1
  have HA : Hid (Calls Try.prog 38 #[.slice A1 n1 c1, .string sku] w1 fun e w' => e = .returned (.bool (hasB s.skus sku)) ∧ w' = w1) := Lib.hid (have_any A1 n1 c1 s.skus sku _ w1 (h.skus.row.below hb1 (Nat.le_refl _)) hl.1)
  have HC : Hid (Calls Try.prog 38 #[.slice A2 n2 c2, .string cat] w1 fun e w' => e = .returned (.bool (hasB s.cats cat)) ∧ w' = w1) := Lib.hid (have_any A2 n2 c2 s.cats cat _ w1 (h.cats.row.below hb1 (Nat.le_refl _)) hl.2)
  have HB1 := Lib.hid hb1
  clear h hl hb1 hy k1 k2 b1 b2
  cases h1 : hasB s.skus sku with
  | true =>
    rw [h1] at HA
    clear h1
    go_enter Try.func39, Try.ntmps39
    go_wp2_with fail
    refine HA.out.mono ?_
    rintro e w2 ⟨rfl, rfl⟩
    go_wp2
    go_ret
    exact ⟨rfl, HB1.out⟩
  | false =>
    rw [h1] at HA
    clear h1
    obtain ⟨b, hb⟩ : ∃ b, hasB s.cats cat = b := ⟨_, rfl⟩
    rw [hb] at HC ⊢
    clear hb
    go_enter Try.func39, Try.ntmps39
    go_wp2_with fail
    refine HA.out.mono ?_
    rintro e w2 ⟨rfl, rfl⟩
    go_wp2_with fail
    refine HC.out.mono ?_
    rintro e w2 ⟨rfl, rfl⟩
    go_wp2
    go_ret
    exact ⟨by simp, HB1.out⟩

theorem hasX_all {s : Scp} {l : Scp.Lay} {w : World} {F : Nat → Prop} (h : Scp.Holds w F s l) (h1 : l.skus.n = 0) (h2 : l.cats.n = 0) (sku cat : ByteArray) : hasX s sku cat = true := by
  have l1 := h.skus.row.len
  have l2 := h.cats.row.len
  unfold hasX
  rw [l1, l2, h1, h2]
  rfl

theorem hasX_some {s : Scp} {l : Scp.Lay} {w : World} {F : Nat → Prop} (h : Scp.Holds w F s l) (hn : ¬ (l.skus.n = 0 ∧ l.cats.n = 0)) (sku cat : ByteArray) : hasX s sku cat = (hasB s.skus sku || hasB s.cats cat) := by
  have l1 := h.skus.row.len
  have l2 := h.cats.row.len
  unfold hasX
  rw [l1, l2]
  have e : ((l.skus.n == 0) && (l.cats.n == 0)) = false := by
    rw [Bool.and_eq_false_iff]
    by_cases e : l.skus.n = 0
    · exact .inr (beq_eq_false_iff_ne.2 fun e2 => hn ⟨e, e2⟩)
    · exact .inl (beq_eq_false_iff_ne.2 e)
  rw [e, Bool.false_or]

/-- What an asker answers, in any later world. -/
theorem Asking.on {M : Nat} {w w' : World} {v : Value} {l : Scp.Lay} (h : Asking M w v l) (hb : Below w.heap.size w w') : Asking M w' v l := by
  cases h with
  | all h1 h2 h3 => exact .all h1 h2 h3
  | some_ g1 g2 h0 h1 h2 h3 h4 h5 =>
    exact .some_ g1 g2 h0 h1 ⟨h2.1, Nat.lt_of_lt_of_le h2.2 hb.size⟩ ⟨h3.1, Nat.lt_of_lt_of_le h3.2 hb.size⟩ ((hb.cell (p := ⟨g1, 0, none⟩) h2.2).trans h4) ((hb.cell (p := ⟨g2, 0, none⟩) h3.2).trans h5)

end Go.Proofs.Ytkpekdcglbaadaa.Sc
