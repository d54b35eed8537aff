/- P11.1: whether any scope may be, and which items, any ones, it has; nothing is turned; for every scope and slice of items. No conditions. -/
import Derived.Test.YtkpekdcglbaadaaScK
import Derived.Test.YtkpekdcglbaadaaPyV
import Derived.Test.YtkpekdcglbaadaaHpB
import Derived.Test.YtkpekdcglbaadaaBa
set_option maxRecDepth 100000
namespace Go.Proofs.Ytkpekdcglbaadaa.scopeAll
open Go.ChangeShapes Go.WideShapes Go.ChangeAt Go.RowKit
open It (Itm kItem row_item row_ok item_rep)
open Ap (Scp kScp row_Scp Scp_rep)
open Kd (Kind Row Own Cells Fit Agree Lst Sl kStr kInt kList row_str Deep)
set_option maxRecDepth 100000
set_option linter.unusedVariables false

theorem own : ownKnob Try.prog.godebug = none := by kernel_rfl

def spT : ByteArray := ⟨#[115, 112, 111, 105, 108, 116]⟩

/-- What stands behind the copies. -/
structure In (w wx : World) (s : Scp) (l : Scp.Lay) (b g1 g2 : Nat) : Prop where
  box : Qu.Blk wx b 24 #[.slice (some ⟨g1, 0, none⟩) l.skus.n (l.skus.n + 3), .slice (some ⟨g2, 0, none⟩) l.cats.n (l.cats.n + 3)]
  arg : Qu.Blk wx w.heap.size 24 #[.slice l.skus.A l.skus.n l.skus.c, .slice l.cats.A l.cats.n l.cats.c]
  a : Row kStr wx (· < wx.heap.size) (some ⟨g1, 0, none⟩) (l.skus.n + 3) (s.skus ++ [spT, spT, spT])
  c : Row kStr wx (· < wx.heap.size) (some ⟨g2, 0, none⟩) (l.cats.n + 3) (s.cats ++ [spT, spT, spT])
  old : Scp.Holds wx (· < wx.heap.size) s l
  below : Below w.heap.size w wx

theorem In.on {w wx wy : World} {s : Scp} {l : Scp.Lay} {b g1 g2 : Nat} (h : In w wx s l b g1 g2) (hb : Below wx.heap.size wx wy) : In w wy s l b g1 g2 :=
  ⟨h.box.below hb, h.arg.below hb, (h.a.below hb (Nat.le_refl _)).lift hb.size, (h.c.below hb (Nat.le_refl _)).lift hb.size, Sc.holds_more (Sc.holds_below h.old hb (Nat.le_refl _)) fun b hb2 => Nat.lt_of_lt_of_le hb2 hb.size, h.below.trans (hb.mono h.below.size)⟩

theorem In.new {w wx : World} {s : Scp} {l : Scp.Lay} {b g1 g2 : Nat} (h : In w wx s l b g1 g2) (hl : l.skus.n ≤ 40 ∧ l.cats.n ≤ 40) : Scp.Holds wx (· < wx.heap.size) s ⟨⟨some ⟨g1, 0, none⟩, l.skus.n, l.skus.n + 3⟩, ⟨some ⟨g2, 0, none⟩, l.cats.n, l.cats.n + 3⟩⟩ :=
  ⟨⟨Kd.row_front h.a h.old.skus.row.len, (fun h => by cases h), Nat.le_add_right _ _, by show l.skus.n + 3 ≤ _; omega⟩, ⟨Kd.row_front h.c h.old.cats.row.len, (fun h => by cases h), Nat.le_add_right _ _, by show l.cats.n + 3 ≤ _; omega⟩⟩

/-- A copy that was made, from a world on. -/
structure Cop (u w' : World) (g n : Nat) (xs : List ByteArray) : Prop where
  row : Row kStr w' (· < w'.heap.size) (some ⟨g, 0, none⟩) (n + 3) (xs ++ [spT, spT, spT])
  below : Below u.heap.size u w'
  low : u.heap.size ≤ g
  top : g < w'.heap.size

/-- Texts stay where their own block does. -/
theorem row_at {w W : World} {F : Nat → Prop} {g n : Nat} {xs : List ByteArray} (h : Row kStr w F (some ⟨g, 0, none⟩) n xs) (e : W.heap[g]? = w.heap[g]?) (hs : w.heap.size ≤ W.heap.size) : Row kStr W (· < W.heap.size) (some ⟨g, 0, none⟩) n xs := ⟨h.len, fun k x hk => by
  obtain ⟨g', o, cs, hA, _, hl, hr, hc⟩ := h.each k x hk
  injection hA with hA
  injection hA with hA1 hA2
  subst hA1 hA2
  exact ⟨g, 0, cs, rfl, Nat.lt_of_lt_of_le hl hs, Nat.lt_of_lt_of_le hl hs, hr, fun j v hj => (World.cell?_of_block (a := ⟨g, _, none⟩) e).trans (hc j v hj)⟩⟩

section
variable {w w3 u1 wz u2 wy W : World} {s : Scp} {l : Scp.Lay} {b g1 g2 : Nat}
theorem in_end (hx : Qu.Blk w3 w.heap.size 24 #[.slice l.skus.A l.skus.n l.skus.c, .slice l.cats.A l.cats.n l.cats.c]) (hh : Scp.Holds w3 (· < w3.heap.size) s l) (hb : Below w.heap.size w w3) (c1 : Cop u1 wz g1 l.skus.n s.skus) (h2 : Below wz.heap.size wz u2) (c2 : Cop u2 wy g2 l.cats.n s.cats)
    (hW : ∀ q, q ≠ b → q < wy.heap.size → W.heap[q]? = wy.heap[q]?) (hs : wy.heap.size ≤ W.heap.size) (hbx : Qu.Blk W b 24 #[.slice (some ⟨g1, 0, none⟩) l.skus.n (l.skus.n + 3), .slice (some ⟨g2, 0, none⟩) l.cats.n (l.cats.n + 3)]) (n1 : g1 ≠ b) (n2 : g2 ≠ b) (hBW : Below w3.heap.size w3 W) : In w W s l b g1 g2 := by
  have k1 := c1.top
  have k2 := c2.top
  have k3 := h2.size
  have k4 := c2.below.size
  exact ⟨hbx, hx.below hBW, row_at c1.row ((hW g1 n1 (by omega)).trans ((c2.below.block g1 (by omega)).trans (h2.block g1 k1))) (by omega), row_at c2.row (hW g2 n2 k2) hs,
    Sc.holds_more (Sc.holds_below hh hBW (Nat.le_refl _)) fun b hb2 => Nat.lt_of_lt_of_le hb2 hBW.size, hb.trans (hBW.mono hb.size)⟩

/-- The box of what was copied was made last. -/
theorem in_last (hx : Qu.Blk w3 w.heap.size 24 #[.slice l.skus.A l.skus.n l.skus.c, .slice l.cats.A l.cats.n l.cats.c] ∧ Scp.Holds w3 (· < w3.heap.size) s l ∧ Below w.heap.size w w3) (c1 : Cop w3.drew wz g1 l.skus.n s.skus) (c2 : Cop wz wy g2 l.cats.n s.cats) :
    In w (wy.alloc (.cells #[.slice (some ⟨g1, 0, none⟩) l.skus.n (l.skus.n + 3), .slice (some ⟨g2, 0, none⟩) l.cats.n (l.cats.n + 3)] 24)) s l wy.heap.size g1 g2 := by
  have k1 := c1.top
  have k2 := c2.top
  have k4 := c2.below.size
  have hz : Below w3.heap.size w3 wy := Hk.andThen (Hk.andThen (Below.refl _ _).drew c1.below) c2.below
  exact in_end hx.1 hx.2.1 hx.2.2 c1 (Below.refl _ _) c2 (fun q hq hl => Below.heap_alloc wy _ q hl) (by simp) (Qu.Blk.new wy _ _) (by omega) (by omega) (hz.alloc hz.size _)

theorem put_two {v1 v2 : Value} (h : Qu.Blk wy b 24 #[.slice none 0 0, .slice none 0 0]) : Qu.Blk ((wy.setCell ⟨b, 0, none⟩ v1).setCell ⟨b, 1, none⟩ v2) b 24 #[v1, v2] := (h.put 0 v1).put 1 v2

theorem far_two {v1 v2 : Value} {q : Nat} (hq : q ≠ b) : ((wy.setCell ⟨b, 0, none⟩ v1).setCell ⟨b, 1, none⟩ v2).heap[q]? = wy.heap[q]? :=
  (Below.heap_setCell _ ⟨b, 1, none⟩ v2 q hq).trans (Below.heap_setCell _ ⟨b, 0, none⟩ v1 q hq)

/-- It was made first. -/
theorem in_first (hx : Qu.Blk w3 w.heap.size 24 #[.slice l.skus.A l.skus.n l.skus.c, .slice l.cats.A l.cats.n l.cats.c] ∧ Scp.Holds w3 (· < w3.heap.size) s l ∧ Below w.heap.size w w3) (c1 : Cop ((w3.alloc (.cells #[.slice none 0 0, .slice none 0 0] 24)).drew) wz g1 l.skus.n s.skus) (c2 : Cop wz wy g2 l.cats.n s.cats) :
    In w ((wy.setCell ⟨w3.heap.size, 0, none⟩ (.slice (some ⟨g1, 0, none⟩) l.skus.n (l.skus.n + 3))).setCell ⟨w3.heap.size, 1, none⟩ (.slice (some ⟨g2, 0, none⟩) l.cats.n (l.cats.n + 3))) s l w3.heap.size g1 g2 := by
  have e : ((w3.alloc (.cells #[.slice none 0 0, .slice none 0 0] 24)).drew).heap.size = w3.heap.size + 1 := by
    show (w3.alloc _).heap.size = _
    simp
  have k0 := c1.low
  have k1 := c1.top
  have k2 := c2.low
  have k5 := c1.below.size
  rw [e] at k0 k5
  have h0 : Qu.Blk ((w3.alloc (.cells #[.slice none 0 0, .slice none 0 0] 24)).drew) w3.heap.size 24 #[.slice none 0 0, .slice none 0 0] := (Qu.Blk.new w3 _ _).as rfl
  have hz : Below w3.heap.size w3 wy := (((Below.refl _ _).alloc (Nat.le_refl _) _).drew.trans (c1.below.mono (by rw [e]; omega))).trans (c2.below.mono (by omega))
  exact in_end hx.1 hx.2.1 hx.2.2 c1 (Below.refl _ _) c2 (fun q hq _ => far_two hq) (by simp) (put_two ((h0.below c1.below).below c2.below)) (by omega) (by omega) ((hz.setCell (Nat.le_refl _) _).setCell (Nat.le_refl _) _)

/-- It was made between. -/
theorem in_mid (hx : Qu.Blk w3 w.heap.size 24 #[.slice l.skus.A l.skus.n l.skus.c, .slice l.cats.A l.cats.n l.cats.c] ∧ Scp.Holds w3 (· < w3.heap.size) s l ∧ Below w.heap.size w w3) (c1 : Cop w3.drew wz g1 l.skus.n s.skus) (c2 : Cop (wz.alloc (.cells #[.slice none 0 0, .slice none 0 0] 24)) wy g2 l.cats.n s.cats) :
    In w ((wy.setCell ⟨wz.heap.size, 0, none⟩ (.slice (some ⟨g1, 0, none⟩) l.skus.n (l.skus.n + 3))).setCell ⟨wz.heap.size, 1, none⟩ (.slice (some ⟨g2, 0, none⟩) l.cats.n (l.cats.n + 3))) s l wz.heap.size g1 g2 := by
  have e : (wz.alloc (.cells #[.slice none 0 0, .slice none 0 0] 24)).heap.size = wz.heap.size + 1 := by simp
  have k1 := c1.top
  have k2 := c2.low
  rw [e] at k2
  have h0 := Qu.Blk.new wz 24 #[.slice none 0 0, .slice none 0 0]
  have hz1 : Below w3.heap.size w3 wz := Hk.andThen (Below.refl _ _).drew c1.below
  have hz : Below w3.heap.size w3 wy := (hz1.alloc hz1.size _).trans (c2.below.mono (by rw [e]; have := hz1.size; omega))
  exact in_end hx.1 hx.2.1 hx.2.2 c1 ((Below.refl _ _).alloc (Nat.le_refl _) _) c2 (fun q hq _ => far_two hq) (by simp) (put_two (h0.below c2.below)) (by omega) (by omega) ((hz.setCell hz1.size _).setCell hz1.size _)
end

set_option maxHeartbeats 2000000 in
theorem walk (w : World) (s : Scp) (l : Scp.Lay) (hh : Scp.Holds w (· < w.heap.size) s l) (A : Option Addr) (n c : Nat) (xs : List Itm) (hrow : Row kItem w (· < w.heap.size) A n xs) (hfit : Fit A n c) :
    Calls Try.prog 3 #[.agg #[.slice l.skus.A l.skus.n l.skus.c, .slice l.cats.A l.cats.n l.cats.c], .slice A n c] w fun e w' => e = .returned (.bool true) ∧ Below w.heap.size w w' := by
  obtain ⟨w2, hw2⟩ : ∃ w2, (w.alloc (.cells #[.slice l.skus.A l.skus.n l.skus.c, .slice l.cats.A l.cats.n l.cats.c] 24)).alloc (.cells #[.slice l.skus.A l.skus.n l.skus.c, .slice l.cats.A l.cats.n l.cats.c] 24) = w2 := ⟨_, rfl⟩
  have s2 : w2.heap.size = w.heap.size + 2 := by rw [← hw2]; simp
  have hb2 : Below w.heap.size w w2 := by rw [← hw2]; exact ((Below.refl _ _).alloc (Nat.le_refl _) _).alloc (by simp) _
  have hx : Qu.Blk w2 w.heap.size 24 #[.slice l.skus.A l.skus.n l.skus.c, .slice l.cats.A l.cats.n l.cats.c] := by rw [← hw2]; exact (Qu.Blk.new w _ _).alloc _
  have hy : Qu.Blk w2 (w.heap.size + 1) 24 #[.slice l.skus.A l.skus.n l.skus.c, .slice l.cats.A l.cats.n l.cats.c] := by
    have h := Qu.Blk.new (w.alloc (.cells #[.slice l.skus.A l.skus.n l.skus.c, .slice l.cats.A l.cats.n l.cats.c] 24)) 24 #[.slice l.skus.A l.skus.n l.skus.c, .slice l.cats.A l.cats.n l.cats.c]
    have e : (w.alloc (.cells #[.slice l.skus.A l.skus.n l.skus.c, .slice l.cats.A l.cats.n l.cats.c] 24)).heap.size = w.heap.size + 1 := by simp
    rw [hw2, e] at h
    exact h
  have hh2 : Scp.Holds w2 (· < w2.heap.size) s l := Sc.holds_more (Sc.holds_below hh hb2 (Nat.le_refl _)) fun b hb => Nat.lt_of_lt_of_le hb hb2.size
  have hone : Row kScp w2 (· < w2.heap.size) (some ⟨w.heap.size + 1, 0, none⟩) 1 [s] := Kd.row_blk (E := 24) (cs := s.enc l) hy (Cells.one (Scp_rep.2 ⟨l, rfl, hh2⟩)) rfl hy.lt
  have HF := Lib.hid (Sc.few_any (some ⟨w.heap.size + 1, 0, none⟩) 1 1 [s] _ w2 hone (by omega))
  have l1 := hh.skus.row.len
  have l2 := hh.cats.row.len
  have HX := Lib.hid (And.intro hx (And.intro hh2 (And.intro hb2 hrow)))
  have HY : Hid (Fit l.skus.A l.skus.n l.skus.c ∧ Fit l.cats.A l.cats.n l.cats.c) := Lib.hid ⟨hh.skus.fit, hh.cats.fit⟩
  have hn63 : n ≤ 9223372036854775807 := by have := hfit.2; omega
  clear hy hone hh2 hh hfit hrow s2
  cases hB : Sc.fewB [s] with
  | false =>
    rw [hB] at HF
    clear hB hx hb2
    go_enter Try.func3, Try.ntmps3
    go_wp2_with fail
    refine HF.out.mono ?_
    rintro e w3 ⟨rfl, rfl⟩
    go_wp2_with fail
    refine (Sc.awake_any _).mono ?_
    rintro e w4 ⟨rfl, hb4⟩
    have HB4 := Lib.hid (HX.out.2.2.1.trans (hb4.mono HX.out.2.2.1.size))
    clear hb4
    go_wp2
    go_ret
    exact ⟨rfl, HB4.out⟩
  | true =>
    rw [hB] at HF
    have hfew := Sc.fewB_yes hB
    have hlen := hfew.2 0 s rfl
    rw [l1, l2] at hlen
    clear hB hx hb2 hfew
    by_cases h40 : 40 < n
    · have i1 : (40 : Int) < (n : Int) := by omega
      clear h40 hlen
      go_enter Try.func3, Try.ntmps3
      go_wp2_with fail
      refine HF.out.mono ?_
      rintro e w3 ⟨rfl, rfl⟩
      go_wp2_with fail
      refine (Sc.awake_any _).mono ?_
      rintro e w4 ⟨rfl, hb4⟩
      have HB4 := Lib.hid (HX.out.2.2.1.trans (hb4.mono HX.out.2.2.1.size))
      clear hb4
      go_wp2
      go_ret
      exact ⟨rfl, HB4.out⟩
    · have i1 : ¬ (40 : Int) < (n : Int) := by omega
      have hl40 := hlen
      have n40 : n ≤ 40 := by omega
      have HO1 : Hid (∀ u, Below w2.heap.size w2 u → Calls Try.prog 9 #[.slice l.skus.A l.skus.n l.skus.c, .string ⟨#[115, 112, 111, 105, 108, 116]⟩] u fun e w' => ∃ g, e = .returned (.slice (some ⟨g, 0, none⟩) l.skus.n (l.skus.n + 3)) ∧ Hid (Cop u w' g l.skus.n s.skus) ∧ (∀ b o, b < u.heap.size → w'.cell? ⟨b, o, none⟩ = u.cell? ⟨b, o, none⟩) ∧ (∀ b o, b < u.heap.size → w'.frozen? ⟨b, o, none⟩ = u.frozen? ⟨b, o, none⟩) ∧ u.heap.size ≤ w'.heap.size ∧ Below w2.heap.size w2 w') := Lib.hid fun u hu =>
        (Hp.own_str l.skus.A l.skus.n l.skus.c s.skus spT u ((HX.out.2.1.skus.row.below hu (Nat.le_refl _)).lift hu.size) HY.out.1 (by decide) (by omega)).mono fun e w' ⟨g, e1, h1, h2, h3, h4⟩ => ⟨g, e1, Lib.hid ⟨h3, h4, h1, h2⟩, fun b o hb => h4.cell (p := ⟨b, o, none⟩) hb, fun b o hb => h4.frozen (p := ⟨b, o, none⟩) hb, h4.size, Hk.andThen hu h4⟩
      have HO2 : Hid (∀ u, Below w2.heap.size w2 u → Calls Try.prog 9 #[.slice l.cats.A l.cats.n l.cats.c, .string ⟨#[115, 112, 111, 105, 108, 116]⟩] u fun e w' => ∃ g, e = .returned (.slice (some ⟨g, 0, none⟩) l.cats.n (l.cats.n + 3)) ∧ Hid (Cop u w' g l.cats.n s.cats) ∧ (∀ b o, b < u.heap.size → w'.cell? ⟨b, o, none⟩ = u.cell? ⟨b, o, none⟩) ∧ (∀ b o, b < u.heap.size → w'.frozen? ⟨b, o, none⟩ = u.frozen? ⟨b, o, none⟩) ∧ u.heap.size ≤ w'.heap.size ∧ Below w2.heap.size w2 w') := Lib.hid fun u hu =>
        (Hp.own_str l.cats.A l.cats.n l.cats.c s.cats spT u ((HX.out.2.1.cats.row.below hu (Nat.le_refl _)).lift hu.size) HY.out.2 (by decide) (by omega)).mono fun e w' ⟨g, e1, h1, h2, h3, h4⟩ => ⟨g, e1, Lib.hid ⟨h3, h4, h1, h2⟩, fun b o hb => h4.cell (p := ⟨b, o, none⟩) hb, fun b o hb => h4.frozen (p := ⟨b, o, none⟩) hb, h4.size, Hk.andThen hu h4⟩
      have x0 : ∀ u, Below w2.heap.size w2 u → u.cell? ⟨w.heap.size, 0, none⟩ = some (.slice l.skus.A l.skus.n l.skus.c) := fun u hu => (hu.cell (p := ⟨w.heap.size, 0, none⟩) HX.out.1.lt).trans (HX.out.1.cell 0)
      have x1 : ∀ u, Below w2.heap.size w2 u → u.cell? ⟨w.heap.size, 1, none⟩ = some (.slice l.cats.A l.cats.n l.cats.c) := fun u hu => (hu.cell (p := ⟨w.heap.size, 1, none⟩) HX.out.1.lt).trans (HX.out.1.cell 1)
      clear h40 hlen hn63
      go_enter Try.func3, Try.ntmps3
      go_wp2_with fail
      refine HF.out.mono ?_
      rintro e w3 ⟨rfl, rfl⟩
      go_upto_region 3 with (fail)
      clear hw2
      go_cut [5] (fun s5 wx => ∃ b g1 g2, s5 = .pointer (some ⟨b, 0, none⟩) ∧ Hid (In w wx s l b g1 g2))
      case first =>
        have hS : ∀ u, Below w3.heap.size w3 u → ∀ o, Below w3.heap.size w3 (u.alloc o) := fun u hu o => hu.alloc hu.size o
        go_region_held3 (fun u => Below w3.heap.size w3 u)
          (first
            | assumption
            | (repeat (first | assumption | exact Below.refl _ _ | refine Below.drew ?_ | refine hS _ ?_ _ | refine Below.setCell ?_ (by first | exact Nat.le_refl _ | assumption) _)))
          (first
            | (go_at_call 9; with_reducible refine (HO1.out _ (by first | assumption | (repeat (first | assumption | exact Below.refl _ _ | refine Below.drew ?_ | refine hS _ ?_ _ | refine Below.setCell ?_ (by first | exact Nat.le_refl _ | assumption) _)))).mono ?_; rintro e wz ⟨g1, rfl, hg1, hcz, hfz, hzu, hz⟩; have hzs := Below.size hz; (try simp at hzu); (try have hzl : w3.heap.size < wz.heap.size := by omega))
            | (go_at_call 9; with_reducible refine (HO2.out _ (by first | assumption | (repeat (first | assumption | exact Below.refl _ _ | refine Below.drew ?_ | refine hS _ ?_ _ | refine Below.setCell ?_ (by first | exact Nat.le_refl _ | assumption) _)))).mono ?_; rintro e wy ⟨g2, rfl, hg2, hcy, hfy, hyu, hy⟩; have hys := Below.size hy))
        all_goals have HXX := Lib.hid (And.intro HX.out.1 (And.intro HX.out.2.1 HX.out.2.2.1))
        all_goals clear hz hy hcz hcy hfz hfy hzs hys x0 x1
        all_goals first
          | (go_wp2_with fail; go_meet; exact ⟨_, _, _, rfl, Lib.hid (in_last HXX.out hg1.out hg2.out)⟩)
          | (go_wp2_with fail; go_meet; exact ⟨_, _, _, rfl, Lib.hid (in_first HXX.out hg1.out hg2.out)⟩)
          | (go_wp2_with fail; go_meet; exact ⟨_, _, _, rfl, Lib.hid (in_mid HXX.out hg1.out hg2.out)⟩)
      case rest =>
        obtain ⟨b, g1, g2, rfl, hC⟩ := hcut
        have HRW : Hid (Row kItem w (· < w.heap.size) A n xs) := Lib.hid HX.out.2.2.2
        clear HF HO1 HO2 x0 x1 HX
        obtain ⟨r, hr⟩ : ∃ r, Sc.scopeB s = r := ⟨_, rfl⟩
        have HA : Hid (∀ u, Below wc.heap.size wc u → Calls Try.prog 8 #[] u fun e w' => e = .returned (.bool true) ∧ Below wc.heap.size wc w') := Lib.hid fun u hu => (Sc.awake_any u).mono fun e w' he => ⟨he.1, Hk.andThen hu he.2⟩
        have HR : Hid (∀ u, Below wc.heap.size wc u → Calls Try.prog 10 #[.agg #[.slice (some ⟨g1, 0, none⟩) l.skus.n (l.skus.n + 3), .slice (some ⟨g2, 0, none⟩) l.cats.n (l.cats.n + 3)]] u fun e w' => e = .returned (.bool r) ∧ Below wc.heap.size wc w') := Lib.hid fun u hu =>
          (Sc.Right_any s ⟨⟨some ⟨g1, 0, none⟩, l.skus.n, l.skus.n + 3⟩, ⟨some ⟨g2, 0, none⟩, l.cats.n, l.cats.n + 3⟩⟩ u ((hC.out.on hu).new hl40) ⟨by show l.skus.n ≤ _; omega, by show l.cats.n ≤ _; omega⟩).mono fun e w' he => ⟨by rw [he.1, hr], Hk.andThen hu he.2⟩
        have HF : Hid (∀ u, Below wc.heap.size wc u → Calls Try.prog 11 #[.agg #[.slice l.skus.A l.skus.n l.skus.c, .slice l.cats.A l.cats.n l.cats.c]] u fun e w' => e = .returned (.bool r) ∧ Below wc.heap.size wc w') := Lib.hid fun u hu =>
          (Sc.rscope_any s l u (hC.out.on hu).old ⟨by omega, by omega⟩).mono fun e w' he => ⟨by rw [he.1, hr], Hk.andThen hu he.2⟩
        have x0 : ∀ u, Below wc.heap.size wc u → u.cell? ⟨w.heap.size, 0, none⟩ = some (.slice l.skus.A l.skus.n l.skus.c) := fun u hu => (hC.out.on hu).arg.cell 0
        have x1 : ∀ u, Below wc.heap.size wc u → u.cell? ⟨w.heap.size, 1, none⟩ = some (.slice l.cats.A l.cats.n l.cats.c) := fun u hu => (hC.out.on hu).arg.cell 1
        have y0 : ∀ u, Below wc.heap.size wc u → u.cell? ⟨b, 0, none⟩ = some (.slice (some ⟨g1, 0, none⟩) l.skus.n (l.skus.n + 3)) := fun u hu => (hC.out.on hu).box.cell 0
        have y1 : ∀ u, Below wc.heap.size wc u → u.cell? ⟨b, 1, none⟩ = some (.slice (some ⟨g2, 0, none⟩) l.cats.n (l.cats.n + 3)) := fun u hu => (hC.out.on hu).box.cell 1
        have e1 : (r != r) = false := by cases r <;> rfl
        have HN := Lib.hid (And.intro hl40 n40)
        clear hr
        go_wp2_with fail
        go_region_held3 (fun u => Below wc.heap.size wc u)
          (first
            | assumption
            | exact (Below.refl _ _).drew
            | exact Below.refl _ _)
          (first
            | (go_at_call 8; with_reducible refine (HA.out _ (by first | assumption | exact (Below.refl _ _).drew)).mono ?_; rintro e wa ⟨rfl, ha⟩)
            | (go_at_call 10; with_reducible refine (HR.out _ (by first | assumption | exact (Below.refl _ _).drew)).mono ?_; rintro e wd ⟨rfl, hd⟩)
            | (go_at_call 11; with_reducible refine (HF.out _ (by first | assumption | exact (Below.refl _ _).drew)).mono ?_; rintro e we ⟨rfl, he⟩))
        have HI0 : Hid (In w we s l b g1 g2) := Lib.hid (hC.out.on he)
        clear he hd ha x0 x1 y0 y1 HA HR HF hC
        go_wp2
        go_loopw [6] (fun s6 wr => ∃ i : Nat, s6 = .int .i64 i ∧ i ≤ n ∧ Hid (In w wr s l b g1 g2)) (fun s6 _ => n - (intOf s6).toNat)
        case atStart => exact ⟨0, rfl, by omega, HI0⟩
        case round =>
          clear HI0
          obtain ⟨i, rfl, hi, hI⟩ := hrel
          have i0 : (0 : Int) ≤ (i : Int) := by omega
          by_cases hil : i < n
          · have i1 : (i : Int) < (n : Int) := by omega
            obtain ⟨x, hx⟩ := HRW.out.get hil
            obtain ⟨g, o, rfl, _, hg, hok, a0, a1, a2, a3⟩ := row_item HRW.out hx
            have x0 : ∀ u, Below wr.heap.size wr u → u.cell? ⟨w.heap.size, 0, none⟩ = some (.slice l.skus.A l.skus.n l.skus.c) := fun u hu => (hI.out.on hu).arg.cell 0
            have x1 : ∀ u, Below wr.heap.size wr u → u.cell? ⟨w.heap.size, 1, none⟩ = some (.slice l.cats.A l.cats.n l.cats.c) := fun u hu => (hI.out.on hu).arg.cell 1
            have y0 : ∀ u, Below wr.heap.size wr u → u.cell? ⟨b, 0, none⟩ = some (.slice (some ⟨g1, 0, none⟩) l.skus.n (l.skus.n + 3)) := fun u hu => (hI.out.on hu).box.cell 0
            have y1 : ∀ u, Below wr.heap.size wr u → u.cell? ⟨b, 1, none⟩ = some (.slice (some ⟨g2, 0, none⟩) l.cats.n (l.cats.n + 3)) := fun u hu => (hI.out.on hu).box.cell 1
            have z0 : ∀ u, Below wr.heap.size wr u → u.cell? ⟨g, o + i * 4, none⟩ = some (.string x.sku) := fun u hu => ((hI.out.on hu).below.cell (p := ⟨g, _, none⟩) hg).trans a0
            have z1 : ∀ u, Below wr.heap.size wr u → u.cell? ⟨g, o + i * 4 + 1, none⟩ = some (.string x.cat) := fun u hu => ((hI.out.on hu).below.cell (p := ⟨g, _, none⟩) hg).trans a1
            have z2 : ∀ u, Below wr.heap.size wr u → u.cell? ⟨g, o + i * 4 + 2, none⟩ = some (.int .i64 x.price) := fun u hu => ((hI.out.on hu).below.cell (p := ⟨g, _, none⟩) hg).trans a2
            have z3 : ∀ u, Below wr.heap.size wr u → u.cell? ⟨g, o + i * 4 + 3, none⟩ = some (.bool x.fin) := fun u hu => ((hI.out.on hu).below.cell (p := ⟨g, _, none⟩) hg).trans a3
            obtain ⟨t, ht⟩ : ∃ t, Sc.hasX s x.sku x.cat = t := ⟨_, rfl⟩
            have e2 : (t != t) = false := by cases t <;> rfl
            have HH : Hid (∀ u, Below wr.heap.size wr u → Calls Try.prog 12 #[.agg #[.slice (some ⟨g1, 0, none⟩) l.skus.n (l.skus.n + 3), .slice (some ⟨g2, 0, none⟩) l.cats.n (l.cats.n + 3)], .agg #[.string x.sku, .string x.cat, .int .i64 x.price, .bool x.fin]] u fun e w' => e = .returned (.bool t) ∧ Below wr.heap.size wr w') := Lib.hid fun u hu =>
              (Sc.Has_any s ⟨⟨some ⟨g1, 0, none⟩, l.skus.n, l.skus.n + 3⟩, ⟨some ⟨g2, 0, none⟩, l.cats.n, l.cats.n + 3⟩⟩ x u ((hI.out.on hu).new HN.out.1) ⟨by show l.skus.n ≤ _; omega, by show l.cats.n ≤ _; omega⟩).mono fun e w' he => ⟨by rw [he.1, ht], Hk.andThen hu he.2⟩
            have HG : Hid (∀ u, Below wr.heap.size wr u → Calls Try.prog 13 #[.agg #[.slice l.skus.A l.skus.n l.skus.c, .slice l.cats.A l.cats.n l.cats.c], .agg #[.string x.sku, .string x.cat, .int .i64 x.price, .bool x.fin]] u fun e w' => e = .returned (.bool t) ∧ Below wr.heap.size wr w') := Lib.hid fun u hu =>
              (Sc.rHas_any s l x u (hI.out.on hu).old ⟨by omega, by omega⟩).mono fun e w' he => ⟨by rw [he.1, ht], Hk.andThen hu he.2⟩
            clear ht hx hok a0 a1 a2 a3 hg
            go_wp2_with fail
            go_region_held3 (fun u => Below wr.heap.size wr u)
              (first
                | assumption
                | exact (Below.refl _ _).drew
                | exact Below.refl _ _)
              (first
                | (go_at_call 12; with_reducible refine (HH.out _ (by first | assumption | exact (Below.refl _ _).drew)).mono ?_; rintro e wd ⟨rfl, hd⟩)
                | (go_at_call 13; with_reducible refine (HG.out _ (by first | assumption | exact (Below.refl _ _).drew)).mono ?_; rintro e we ⟨rfl, he⟩))
            have HI2 : Hid (In w we s l b g1 g2) := Lib.hid (hI.out.on he)
            clear he hd x0 x1 y0 y1 z0 z1 z2 z3 HH HG hI
            go_wp2
            go_roundw
            case rel => exact ⟨i + 1, by go_num, by omega, HI2⟩
            case measure => simp [intOf]; omega
          · obtain rfl : i = n := by omega
            have i1 : ¬ (i : Int) < (i : Int) := by omega
            have x0 := hI.out.arg.cell 0
            have y0 := hI.out.box.cell 0
            have HK1 : Hid (Calls Try.prog 14 #[.slice (some ⟨g1, 0, none⟩) l.skus.n (l.skus.n + 3), .slice l.skus.A l.skus.n l.skus.c, .string ⟨#[115, 112, 111, 105, 108, 116]⟩] wr fun e w' => e = .returned (.bool true) ∧ Below wr.heap.size wr w') := Lib.hid (Hp.kept_str (some ⟨g1, 0, none⟩) l.skus.A l.skus.n l.skus.c s.skus spT _ wr hI.out.a hI.out.old.skus.row (fun b hb => hb) (by omega))
            clear HRW
            go_wp2_with fail
            refine HK1.out.mono ?_
            rintro e w5 ⟨rfl, hb5⟩
            have HI5 : Hid (In w w5 s l b g1 g2) := Lib.hid (hI.out.on hb5)
            have x1 := HI5.out.arg.cell 1
            have y1 := HI5.out.box.cell 1
            have HK2 : Hid (Calls Try.prog 14 #[.slice (some ⟨g2, 0, none⟩) l.cats.n (l.cats.n + 3), .slice l.cats.A l.cats.n l.cats.c, .string ⟨#[115, 112, 111, 105, 108, 116]⟩] w5 fun e w' => e = .returned (.bool true) ∧ Below w5.heap.size w5 w') := Lib.hid (Hp.kept_str (some ⟨g2, 0, none⟩) l.cats.A l.cats.n l.cats.c s.cats spT _ w5 HI5.out.c HI5.out.old.cats.row (fun b hb => hb) (by omega))
            clear hb5 hI x0 y0 HK1
            go_wp2_with fail
            refine HK2.out.mono ?_
            rintro e w6 ⟨rfl, hb6⟩
            have HI6 := Lib.hid (HI5.out.on hb6).below
            clear hb6 x1 y1
            go_wp2
            go_ret
            exact ⟨rfl, HI6.out⟩

set_option maxRecDepth 100000 in
theorem lifted (os : Os) (started : os.Started) (H : Type) (enc : TypeId × Value → H) :
    ReturnsInHanded {} Try.checked os 3 .any (Rows.scopeAllSpec.pre6 enc Try.prog Try.f3 Rows.scopeAllRow.domain false) (Rows.scopeAllSpec.post enc Try.prog Try.f3 false true false false) := by
  refine returnsInHanded_of_change (C := Try.checked) own started (by kernel_rfl) Try.func3
    (ChangeSpec.witness6 (enc := enc) (C := Try.checked) false ⟨#[], #[.agg #[.slice none 0 0, .slice none 0 0], .slice none 0 0], []⟩ 8 (by kernel_rfl) (by kernel_rfl) (by kernel_rfl) (by kernel_rfl)) ?_
  intro W base args ds gs before hval0 hW hcnd _
  have hval : ∀ (j : Nat) t v, Try.f3.params[j]? = some t → args[j]? = some v → Value.okWide Try.prog W .any base t v := hval0
  have hW' := hW
  obtain ⟨p, q, hA0, hV, rfl, hfz, hnd⟩ := hW
  have hA : DataW.TrodAll enc Try.prog W 0 (fun _ => true) true Try.f3.params.toList args.toList ds p := hA0
  rw [Try.params3] at hA hval
  obtain ⟨v0, vs0, d0, ds0, p0, q0, hargs, rfl, rfl, h0, r0⟩ := trodAll_cons hA
  obtain ⟨v1, vs1, d1, ds1, p1, q1, rfl, rfl, rfl, h1, r1⟩ := trodAll_cons r0
  obtain ⟨rfl, rfl, rfl⟩ := trodAll_nil r1
  obtain rfl : args = #[v0, v1] := by cases args; simp_all
  obtain ⟨cs0, s0, rfl, r0⟩ := Kd.open_struct Ap.reads_Scp Try.underlying24 (hval 0 24 v0 rfl rfl) h0; obtain ⟨l0, rfl, x0⟩ := Ap.Scp_rep.1 r0
  obtain ⟨A1, n1, c1, xs1, rfl, x1, y1⟩ := Kd.open_list It.reads_item Try.underlying25 (by decide) (hval 1 25 v1 rfl rfl) h1
  refine (walk W s0 l0 x0 A1 n1 c1 xs1 x1 y1).mono fun e W' ⟨he, hb⟩ => ?_
  subst he
  exact ⟨_, rfl, Hk.closeLaw (tb := 4) (by kernel_rfl) (by kernel_rfl) rfl rfl rfl Try.underlying4 hW' hb⟩

theorem over : Rows.scopeAllRow.holds Try.pinned (OpenSpec.ofChange Rows.scopeAllSpec) :=
  OpenClaim.holds_of_wide 3 Try.f3 rfl rfl rfl rfl rfl rfl rfl ⟨rfl, rfl, rfl, rfl, rfl⟩ rfl rfl rfl rfl rfl (by kernel_rfl) Try.func3 (by kernel_rfl)
    (of_decide_eq_true (by kernel_rfl)) (by unfold Func.isWrapper; first | (rw [if_pos (by decide +kernel)]; kernel_rfl) | (rw [if_neg (by decide +kernel)]; exact ⟨rfl, rfl⟩))
    (fun os started H enc _ => lifted os started H enc)

/-- The statement. -/
theorem proved : Rows.ScopeAllSaid :=
  over
end Go.Proofs.Ytkpekdcglbaadaa.scopeAll
