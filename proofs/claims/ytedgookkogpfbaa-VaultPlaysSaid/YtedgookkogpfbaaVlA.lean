/- The landed vault in memory: what it tells; told, refused; a nil one. -/
import Derived.Test.YtedgookkogpfbaaVtQ
import Derived.Test.YtedgookkogpfbaaJlT
set_option maxRecDepth 100000
namespace Go.Proofs.Ytedgookkogpfbaa.Vl
open Go.ChangeShapes Go.WideShapes Go.ChangeAt Go.RowKit
open Qu (Blk)
open Mv (Only Fresh)
open By (Own8 Bys cellsB cellsB_length)
open Dk (DS)
open Dd (Lay At Tidy Pl)
open Jr (JS Recd JHas Fit newE blankJ openJ addE addDS addJ stopE needN blk_blk_ne own_own_ne ownBlock_any)
open Jl (RecE Told)
open Vt
set_option linter.unusedVariables false

/-- The landed vault: its box, its journal's box, the journal's rows. -/
structure VA (w : World) (B x y : Nat) (q : Pl) (A : Option Addr) (c : Nat) (vs : List Value) (v : VS) : Prop where
  base : B ≤ x
  box : ∃ ep : Nat, (v.dead = false → ep = v.epoch) ∧ Blk w x 80 #[.pointer (some ⟨q.x, 0, none⟩), .int .i64 (v.half : Int), .int .u32 (ep : Int), .pointer (some ⟨y, 0, none⟩), .bool v.dead]
  jat : Jl.JAt w B y q.x A c vs v.j

theorem VA.below {w w' : World} {B x y c : Nat} {q : Pl} {A : Option Addr} {vs : List Value} {v : VS} (h : VA w B x y q A c vs v) (hb : Below w.heap.size w w') : VA w' B x y q A c vs v := by
  obtain ⟨ep, h1, h2⟩ := h.box
  exact ⟨h.base, ⟨ep, h1, h2.below hb⟩, h.jat.below hb⟩

/-- The blocks of a vault beside its disk. -/
def VHas (x y : Nat) (A : Option Addr) : Nat → Prop := fun k => k = x ∨ JHas y A k

/-! ### Nil -/
theorem refused_nil (w : World) : Calls Try.prog 46 #[.pointer none] w fun e w' => e = .returned (.int .i64 1) ∧ w' = w := by
  go_enter Try.func46, Try.ntmps46
  go_wp2
  all_goals (go_ret; exact ⟨rfl, rfl⟩)

theorem all_nil (w : World) : Calls Try.prog 56 #[.pointer none] w fun e w' => e = .returned (.slice none 0 0) ∧ w' = w := by
  go_enter Try.func56, Try.ntmps56
  go_wp2
  go_ret
  exact ⟨rfl, rfl⟩

theorem base_nil (w : World) : Calls Try.prog 29 #[.pointer none] w fun e w' => e = .returned (.slice none 0 0) ∧ w' = w := by
  have HK := Lib.hid (all_nil w)
  go_enter Try.func29, Try.ntmps29
  go_wp2_with (first | (refine HK.out.mono ?_; rintro r w2 ⟨rfl, hw⟩; rw [hw]; clear hw w2))
  go_ret
  exact ⟨rfl, rfl⟩

theorem records_nil (w : World) : Calls Try.prog 31 #[.pointer none] w fun e w' => e = .returned (.slice none 0 0) ∧ w' = w := by
  have HK := Lib.hid (all_nil w)
  go_enter Try.func31, Try.ntmps31
  go_wp2_with (first | (refine HK.out.mono ?_; rintro r w2 ⟨rfl, hw⟩; rw [hw]; clear hw w2))
  go_ret
  exact ⟨rfl, rfl⟩

theorem half_nil (w : World) : Calls Try.prog 32 #[.pointer none] w fun e w' => e = .returned (.int .i64 0) ∧ w' = w := by
  go_enter Try.func32, Try.ntmps32
  go_wp2
  go_ret
  exact ⟨rfl, rfl⟩

theorem used_nil (w : World) : Calls Try.prog 33 #[.pointer none] w fun e w' => e = .returned (.int .i64 0) ∧ w' = w := by
  go_enter Try.func33, Try.ntmps33
  go_wp2
  go_ret
  exact ⟨rfl, rfl⟩

theorem disk_nil (w : World) : Calls Try.prog 27 #[.pointer none] w fun e w' => e = .returned (.pointer none) ∧ w' = w := by
  go_enter Try.func27, Try.ntmps27
  go_wp2
  go_ret
  exact ⟨rfl, rfl⟩

theorem add_nil (w : World) (v : Value) : Calls Try.prog 24 #[.pointer none, v] w fun e w' => e = .returned (.int .i64 1) ∧ w' = w := by
  have HK := Lib.hid (refused_nil w)
  go_enter Try.func24, Try.ntmps24
  go_wp2_with (first | (refine HK.out.mono ?_; rintro r w2 ⟨rfl, hw⟩; rw [hw]; clear hw w2))
  go_ret
  exact ⟨rfl, rfl⟩

theorem compact_nil (w : World) (v : Value) : Calls Try.prog 14 #[.pointer none, v] w fun e w' => e = .returned (.int .i64 1) ∧ w' = w := by
  have HK := Lib.hid (refused_nil w)
  go_enter Try.func14, Try.ntmps14
  go_wp2_with (first | (refine HK.out.mono ?_; rintro r w2 ⟨rfl, hw⟩; rw [hw]; clear hw w2))
  go_ret
  exact ⟨rfl, rfl⟩

/-! ### told, refused -/
theorem told_any (w : World) (x : Nat) (dead : Bool) (E : Int) (c4 : w.cell? ⟨x, 4, none⟩ = some (.bool dead)) (f4 : w.frozen? ⟨x, 4, none⟩ = false) :
    Calls Try.prog 47 #[.pointer (some ⟨x, 0, none⟩), .int .i64 E] w fun e w' => e = .returned (.int .i64 E) ∧ w' = w.setCell ⟨x, 4, none⟩ (.bool (dead || E == 9)) := by
  cases dead with
  | true =>
    go_enter Try.func47, Try.ntmps47
    go_wp2
    go_ret
    exact ⟨rfl, rfl⟩
  | false =>
    go_enter Try.func47, Try.ntmps47
    go_wp2
    go_ret
    exact ⟨rfl, rfl⟩

section
variable {w w' : World} {B Bd x y c : Nat} {q : Pl} {A : Option Addr} {vs : List Value} {v : VS} {d : DS}

theorem refused_stop (h : VA w B x y q A c vs v) (hD : At w Bd q d) (hc : (v.dead || d.off) = true) :
    Calls Try.prog 46 #[.pointer (some ⟨x, 0, none⟩)] w fun e w' => e = .returned (.int .i64 9) ∧ w' = w.setCell ⟨x, 4, none⟩ (.bool true) := by
  obtain ⟨ep, _, hb⟩ := h.box
  have c0 := hb.cell 0
  have c4 := hb.cell 4
  have f4 := hb.frozen 4
  have d3 := hD.lay.box.cell 3
  simp at c0 c4 d3
  have HT := Lib.hid (told_any w x v.dead 9 c4 f4)
  rw [show (v.dead || ((9 : Int) == 9)) = true by simp] at HT
  cases hd : v.dead with
  | true =>
    rw [hd] at c4
    clear h hD hc hb hd
    go_enter Try.func46, Try.ntmps46
    go_wp2_with (first | (refine HT.out.mono ?_; rintro r w2 ⟨rfl, hw⟩; rw [hw]; clear hw w2))
    go_ret
    exact ⟨rfl, rfl⟩
  | false =>
    have ho : d.off = true := by rw [hd, Bool.false_or] at hc; exact hc
    rw [hd] at c4
    rw [ho] at d3
    have HW := Lib.hid (Dd.down_eq w q.x true d3)
    clear h hD hc hb hd ho
    go_enter Try.func46, Try.ntmps46
    go_wp2_with (first | (refine HW.out.mono ?_; rintro r w2 ⟨rfl, rfl⟩) | (refine HT.out.mono ?_; rintro r w2 ⟨rfl, hw⟩; rw [hw]; clear hw w2))
    go_ret
    exact ⟨rfl, rfl⟩

theorem refused_go (h : VA w B x y q A c vs v) (hD : At w Bd q d) (hc : (v.dead || d.off) = false) :
    Calls Try.prog 46 #[.pointer (some ⟨x, 0, none⟩)] w fun e w' => e = .returned (.int .i64 0) ∧ w' = w := by
  obtain ⟨ep, _, hb⟩ := h.box
  have c0 := hb.cell 0
  have c4 := hb.cell 4
  have d3 := hD.lay.box.cell 3
  simp at c0 c4 d3
  have hd : v.dead = false ∧ d.off = false := by
    cases h1 : v.dead with
    | true => rw [h1] at hc; cases hc
    | false => exact ⟨rfl, by rw [h1, Bool.false_or] at hc; exact hc⟩
  rw [hd.1] at c4
  rw [hd.2] at d3
  have HW := Lib.hid (Dd.down_eq w q.x false d3)
  clear h hD hc hb hd
  go_enter Try.func46, Try.ntmps46
  go_wp2_with (first | (refine HW.out.mono ?_; rintro r w2 ⟨rfl, rfl⟩))
  go_ret
  exact ⟨rfl, rfl⟩

/-! ### What it tells -/
theorem half_any (h : VA w B x y q A c vs v) : Calls Try.prog 32 #[.pointer (some ⟨x, 0, none⟩)] w fun e w' => e = .returned (.int .i64 (v.half : Int)) ∧ w' = w := by
  obtain ⟨ep, _, hb⟩ := h.box
  have c1 := hb.cell 1
  simp at c1
  clear h hb
  go_enter Try.func32, Try.ntmps32
  go_wp2
  go_ret
  exact ⟨rfl, rfl⟩

theorem disk_any (h : VA w B x y q A c vs v) : Calls Try.prog 27 #[.pointer (some ⟨x, 0, none⟩)] w fun e w' => e = .returned (.pointer (some ⟨q.x, 0, none⟩)) ∧ w' = w := by
  obtain ⟨ep, _, hb⟩ := h.box
  have c0 := hb.cell 0
  simp at c0
  clear h hb
  go_enter Try.func27, Try.ntmps27
  go_wp2
  go_ret
  exact ⟨rfl, rfl⟩

theorem used_any (h : VA w B x y q A c vs v) : Calls Try.prog 33 #[.pointer (some ⟨x, 0, none⟩)] w fun e w' => e = .returned (.int .i64 (v.j.used : Int)) ∧ w' = w := by
  obtain ⟨ep, _, hb⟩ := h.box
  have c3 := hb.cell 3
  have j6 := h.jat.box.cell 6
  simp at c3 j6
  have HU := Lib.hid (Jl.used_any w y _ j6)
  clear h hb
  go_enter Try.func33, Try.ntmps33
  go_wp2_with (first | (refine HU.out.mono ?_; rintro r w2 ⟨rfl, hw⟩; rw [hw]; clear hw w2))
  go_ret
  exact ⟨rfl, rfl⟩

theorem all_any (h : VA w B x y q A c vs v) (hl : v.j.l.length ≤ 1000000) (hs : ∀ b ∈ v.j.l, b.length ≤ 1000000000000) : Calls Try.prog 56 #[.pointer (some ⟨x, 0, none⟩)] w (RecE w v.j.l) := by
  obtain ⟨ep, _, hb⟩ := h.box
  have c3 := hb.cell 3
  simp at c3
  have HR := Lib.hid (Jl.records_any w B y q.x c A vs v.j h.jat hl hs)
  clear h hb hl hs
  go_enter Try.func56, Try.ntmps56
  go_wp2_with fail
  refine HR.out.mono ?_
  rintro r w2 ⟨A', c', us, rfl, hT, hB⟩
  have HX := Lib.hid (And.intro hT hB)
  clear hT hB
  go_wp2
  go_ret
  exact ⟨A', c', us, rfl, HX.out.1, HX.out.2⟩

/-- What Base answers. -/
def BaseE (w : World) (b : List UInt8) (e : Ending) (w' : World) : Prop := ∃ A' c', e = .returned (.slice A' b.length c') ∧ Bys w' w'.heap.size A' b.length b ∧ b.length ≤ c' ∧ Below w.heap.size w w'

theorem baseE_of {b : List UInt8} {A : Option Addr} {n c : Nat} (hn : b.length = n) (h : Bys w' w'.heap.size A n b) (hc : n ≤ c) (hb : Below w.heap.size w w') : BaseE w b (.returned (.slice A n c)) w' := by
  subst hn
  exact ⟨A, c, rfl, h, hc, hb⟩

/-- What Records answers: the rows behind the first one. -/
def RowsE (w : World) (l : List (List UInt8)) (e : Ending) (w' : World) : Prop := ∃ A' c', e = .returned (.slice A' l.length c') ∧ Hr.Rws w' w'.heap.size A' l.length l ∧ l.length ≤ c' ∧ Below w.heap.size w w'

theorem rowsE_of {l : List (List UInt8)} {A : Option Addr} {n c : Nat} (hn : l.length = n) (h : Hr.Rws w' w'.heap.size A n l) (hc : n ≤ c) (hb : Below w.heap.size w w') : RowsE w l (.returned (.slice A n c)) w' := by
  subst hn
  exact ⟨A, c, rfl, h, hc, hb⟩

theorem base_any (h : VA w B x y q A c vs v) {b0 : List UInt8} (h0 : v.j.l[0]? = some b0) (h1 : 1 ≤ b0.length) (hl : v.j.l.length ≤ 1000000) (hs : ∀ b ∈ v.j.l, b.length ≤ 1000000000000) :
    Calls Try.prog 29 #[.pointer (some ⟨x, 0, none⟩)] w (BaseE w b0.tail) := by
  have HK := Lib.hid (all_any h hl hs)
  have hlen : 0 < v.j.l.length := (List.getElem?_eq_some_iff.1 h0).1
  have h2 : b0.length ≤ 1000000000000 := hs b0 (List.mem_of_getElem? h0)
  generalize v.j.l = L at *
  clear h hs
  go_enter Try.func29, Try.ntmps29
  go_wp2_with fail
  refine HK.out.mono ?_
  rintro r w2 ⟨A1, c1, us, rfl, hT, hB⟩
  obtain ⟨u, hu⟩ : ∃ u, us[0]? = some u := ⟨_, List.getElem?_eq_getElem (by have := hT.rows.own.1; omega)⟩
  obtain ⟨z, z1, z2⟩ := hT.rows.each 0 u hu
  rw [h0] at z1
  injection z1 with z1
  subst z1
  obtain ⟨A0, c0, rfl⟩ := Mv.own_value z2
  obtain ⟨g, cap, hv, hg, hgl⟩ := hT.rows.own.form hlen
  injection hv with hA _ hc
  subst hA hc
  have q0 := hT.rows.own.cellAt 0 (by omega)
  rw [hu] at q0
  have hcap := (Mv.own_cap z2)
  have hy := By.Bys.drop (By.Own8.bys z2) (k := 1) h1 hcap.1
  rw [List.drop_one] at hy
  have HY := Lib.hid hy
  have HB := Lib.hid hB
  have HLN : Hid (b0.tail.length = b0.length - 1 ∧ b0.length - 1 ≤ c0 - 1) := Lib.hid ⟨List.length_tail, by omega⟩
  have n0 : (0 : Int) < (L.length : Int) := by omega
  have n1 : ((L.length : Int) == 0) = false := beq_eq_false_iff_ne.2 (by omega)
  have l1 : (1 : Int) ≤ (b0.length : Int) := by omega
  have l2 : (b0.length : Int) ≤ (c0 : Int) := by omega
  have l3 : (b0.length : Int) ≤ 1000000000000 := by omega
  have l4 : (c0 : Int) ≤ 9223372036854775807 := by omega
  generalize hbl : b0.length = bl at *
  generalize L.length = n at *
  clear hy hB hT h0 z2 hu hbl HK
  by_cases hc : c0 = 1
  · subst hc
    rw [if_pos rfl] at HY
    obtain rfl : bl = 1 := by omega
    go_wp2
    go_ret
    exact baseE_of HLN.out.1 HY.out HLN.out.2 HB.out
  · rw [if_neg hc] at HY
    go_wp2
    go_ret
    exact baseE_of HLN.out.1 HY.out HLN.out.2 HB.out

theorem rws_drop {w : World} {M n c : Nat} {A : Option Addr} {ls : List (List UInt8)} (h : Hr.Rws w M A n ls) (h1 : 1 ≤ n) (hc : n ≤ c) : Hr.Rws w M (if c = 1 then A else A.map (·.add 1)) (n - 1) (ls.drop 1) := ⟨by rw [List.length_drop, h.len], fun k l hk => by
  rw [List.getElem?_drop] at hk
  have hkn : 1 + k < n := by have := (List.getElem?_eq_some_iff.1 hk).1; have := h.len; omega
  obtain ⟨b, o, A', m, c', e1, e2, e3, e4⟩ := h.each (1 + k) l hk
  rw [if_neg (by omega), e1]
  exact ⟨b, o + 1, A', m, c', rfl, e2, by rw [Nat.add_assoc]; exact e3, e4⟩⟩

theorem records_any (h : VA w B x y q A c vs v) (h1 : v.j.l.length ≠ 0) (hl : v.j.l.length ≤ 1000000) (hs : ∀ b ∈ v.j.l, b.length ≤ 1000000000000) :
    Calls Try.prog 31 #[.pointer (some ⟨x, 0, none⟩)] w (RowsE w v.j.l.tail) := by
  have HK := Lib.hid (all_any h hl hs)
  generalize v.j.l = L at *
  clear h hs
  go_enter Try.func31, Try.ntmps31
  go_wp2_with fail
  refine HK.out.mono ?_
  rintro r w2 ⟨A1, c1, us, rfl, hT, hB⟩
  have hcap := (Mv.own_cap hT.rows.own)
  have hy := rws_drop (Jl.Recd.rws hT.rows) (by omega) hcap.1
  rw [List.drop_one] at hy
  have HY := Lib.hid hy
  have HB := Lib.hid hB
  have HLN : Hid (L.tail.length = L.length - 1 ∧ L.length - 1 ≤ c1 - 1) := Lib.hid ⟨List.length_tail, by omega⟩
  have n1 : ((L.length : Int) == 0) = false := beq_eq_false_iff_ne.2 (by omega)
  have l1 : (1 : Int) ≤ (L.length : Int) := by omega
  have l2 : (L.length : Int) ≤ (c1 : Int) := by omega
  have l3 : (L.length : Int) ≤ 1000000 := by omega
  have l4 : (c1 : Int) ≤ 9223372036854775807 := by omega
  generalize L.length = n at *
  clear hy hB hT HK
  by_cases hc : c1 = 1
  · subst hc
    rw [if_pos rfl] at HY
    obtain rfl : n = 1 := by omega
    go_wp2
    go_ret
    exact rowsE_of HLN.out.1 HY.out HLN.out.2 HB.out
  · rw [if_neg hc] at HY
    go_wp2
    go_ret
    exact rowsE_of HLN.out.1 HY.out HLN.out.2 HB.out
end

end Go.Proofs.Ytedgookkogpfbaa.Vl
