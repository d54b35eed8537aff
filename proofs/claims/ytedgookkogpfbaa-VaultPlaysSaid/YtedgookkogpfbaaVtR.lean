/- The document's vault in memory: Base, Records, Add. -/
import Derived.Test.YtedgookkogpfbaaVtQ
import Derived.Test.YtedgookkogpfbaaJlT
import Derived.Test.YtedgookkogpfbaaJrE
set_option maxRecDepth 100000
namespace Go.Proofs.Ytedgookkogpfbaa.Vr
open Go.ChangeShapes Go.WideShapes Go.ChangeAt Go.RowKit
open Qu (Blk)
open Mv (Only Fresh)
open By (Own8 Bys cellsB cellsB_length)
open Dk (DS RefAt)
open Jr (JS Recd JHas Fit newE blankJ openJ addE addDS addJ stopE needN blk_blk_ne own_own_ne ownBlock_any)
open Vt
set_option linter.unusedVariables false

/-- The document's vault: its box, its journal's box, the journal's rows. -/
structure RV (w : World) (B x y : Nat) (p : Dk.Place) (A : Option Addr) (c : Nat) (vs : List Value) (v : VS) : Prop where
  base : B ≤ x
  box : Blk w x 84 #[.pointer (some ⟨p.x, 0, none⟩), .pointer (some ⟨y, 0, none⟩), .int .i64 (v.half : Int), .int .u32 (v.epoch : Int), .bool v.dead]
  jat : Jr.JAt w B y p.x A c vs v.j

/-- What Base answers. -/
def BaseE (w : World) (b : List UInt8) (e : Ending) (w' : World) : Prop := ∃ A' c', e = .returned (.slice A' b.length c') ∧ Bys w w.heap.size A' b.length b ∧ b.length ≤ c' ∧ w' = w

theorem baseE_of {w : World} {b : List UInt8} {A : Option Addr} {n c : Nat} (hn : b.length = n) (h : Bys w w.heap.size A n b) (hc : n ≤ c) : BaseE w b (.returned (.slice A n c)) w := by
  subst hn
  exact ⟨A, c, rfl, h, hc, rfl⟩

theorem RV.below {w w' : World} {B x y c : Nat} {p : Dk.Place} {A : Option Addr} {vs : List Value} {v : VS} (h : RV w B x y p A c vs v) (hb : Below w.heap.size w w') : RV w' B x y p A c vs v := ⟨h.base, h.box.below hb, h.jat.below hb⟩

section
variable {w : World} {B x y c : Nat} {p : Dk.Place} {A : Option Addr} {vs : List Value} {v : VS}

theorem rbase_any (h : RV w B x y p A c vs v) {b0 : List UInt8} (h0 : v.j.l[0]? = some b0) (h1 : 1 ≤ b0.length) (h2 : b0.length ≤ 1000000000000) (hl : v.j.l.length ≤ 1000000) :
    Calls Try.prog 54 #[.pointer (some ⟨x, 0, none⟩)] w (BaseE w b0.tail) := by
  have c1 := h.box.cell 1
  have d4 := h.jat.box.cell 4
  simp at c1 d4
  have hlen : 0 < v.j.l.length := (List.getElem?_eq_some_iff.1 h0).1
  obtain ⟨u, hu⟩ : ∃ u, vs[0]? = some u := ⟨_, List.getElem?_eq_getElem (by have := h.jat.rows.own.1; omega)⟩
  obtain ⟨z, z1, z2⟩ := h.jat.rows.each 0 u hu
  rw [h0] at z1
  injection z1 with z1
  subst z1
  obtain ⟨A0, c0, rfl⟩ := Mv.own_value z2
  obtain ⟨g, cap, hv, hg, hgl⟩ := h.jat.rows.own.form hlen
  injection hv with hA _ hc
  subst hA hc
  have q0 := h.jat.rows.own.cellAt 0 (by omega)
  rw [hu] at q0
  have hcap := (Mv.own_cap z2)
  have hy := By.Bys.drop (By.Own8.bys z2) (k := 1) h1 hcap.1
  rw [List.drop_one] at hy
  have HY := Lib.hid hy
  clear hy
  have HLN : Hid (b0.tail.length = b0.length - 1 ∧ b0.length - 1 ≤ c0 - 1) := Lib.hid ⟨List.length_tail, by omega⟩
  have n0 : (0 : Int) < (v.j.l.length : Int) := by omega
  have l1 : (1 : Int) ≤ (b0.length : Int) := by omega
  have l2 : (b0.length : Int) ≤ (c0 : Int) := by omega
  have l3 : (b0.length : Int) ≤ 1000000000000 := by omega
  have l4 : (c0 : Int) ≤ 9223372036854775807 := by omega
  generalize hbl : b0.length = bl at *
  generalize v.j.l.length = n at *
  clear h h0 z2 hu hbl
  by_cases hc : c0 = 1
  · subst hc
    rw [if_pos rfl] at HY
    obtain rfl : bl = 1 := by omega
    go_enter Try.func54, Try.ntmps54
    go_wp2
    go_ret
    exact baseE_of HLN.out.1 HY.out HLN.out.2
  · rw [if_neg hc] at HY
    go_enter Try.func54, Try.ntmps54
    go_wp2
    go_ret
    exact baseE_of HLN.out.1 HY.out HLN.out.2

/-- What Records answers: the rows behind the first one. -/
def RowsE (w : World) (l : List (List UInt8)) (e : Ending) (w' : World) : Prop := ∃ A' c', e = .returned (.slice A' l.length c') ∧ Hr.Rws w w.heap.size A' l.length l ∧ l.length ≤ c' ∧ w' = w

theorem rowsE_of {w : World} {l : List (List UInt8)} {A : Option Addr} {n c : Nat} (hn : l.length = n) (h : Hr.Rws w w.heap.size A n l) (hc : n ≤ c) : RowsE w l (.returned (.slice A n c)) w := by
  subst hn
  exact ⟨A, c, rfl, h, hc, rfl⟩

theorem rws_drop {w : World} {M n c : Nat} {A : Option Addr} {ls : List (List UInt8)} (h : Hr.Rws w M A n ls) (h1 : 1 ≤ n) (hc : n ≤ c) : Hr.Rws w M (if c = 1 then A else A.map (·.add 1)) (n - 1) (ls.drop 1) := ⟨by rw [List.length_drop, h.len], fun k l hk => by
  rw [List.getElem?_drop] at hk
  have hkn : 1 + k < n := by have := (List.getElem?_eq_some_iff.1 hk).1; have := h.len; omega
  obtain ⟨b, o, A', m, c', e1, e2, e3, e4⟩ := h.each (1 + k) l hk
  rw [if_neg (by omega), e1]
  exact ⟨b, o + 1, A', m, c', rfl, e2, by rw [Nat.add_assoc]; exact e3, e4⟩⟩

theorem rrecs_any (h : RV w B x y p A c vs v) (h1 : v.j.l.length ≠ 0) (hl : v.j.l.length ≤ 1000000) :
    Calls Try.prog 55 #[.pointer (some ⟨x, 0, none⟩)] w (RowsE w v.j.l.tail) := by
  have c1 := h.box.cell 1
  have d4 := h.jat.box.cell 4
  simp at c1 d4
  have hcap := (Mv.own_cap h.jat.rows.own)
  have hy := rws_drop (Jl.Recd.rws h.jat.rows) (by omega) hcap.1
  rw [List.drop_one] at hy
  have HY := Lib.hid hy
  clear hy
  have HLN : Hid (v.j.l.tail.length = v.j.l.length - 1 ∧ v.j.l.length - 1 ≤ c - 1) := Lib.hid ⟨List.length_tail, by omega⟩
  have l1 : (1 : Int) ≤ (v.j.l.length : Int) := by omega
  have l2 : (v.j.l.length : Int) ≤ (c : Int) := by omega
  have l3 : (v.j.l.length : Int) ≤ 1000000 := by omega
  have l4 : (c : Int) ≤ 9223372036854775807 := by omega
  generalize v.j.l.length = n at *
  clear h
  by_cases hc : c = 1
  · subst hc
    rw [if_pos rfl] at HY
    obtain rfl : n = 1 := by omega
    go_enter Try.func55, Try.ntmps55
    go_wp2
    go_ret
    exact rowsE_of HLN.out.1 HY.out HLN.out.2
  · rw [if_neg hc] at HY
    go_enter Try.func55, Try.ntmps55
    go_wp2
    go_ret
    exact rowsE_of HLN.out.1 HY.out HLN.out.2
end

end Go.Proofs.Ytedgookkogpfbaa.Vr
