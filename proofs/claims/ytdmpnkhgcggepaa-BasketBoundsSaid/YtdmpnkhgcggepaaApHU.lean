/- The statements' helpers on api.Unit: Same, Plain, Own, Kept. -/
import Derived.Test.YtdmpnkhgcggepaaApB
import Derived.Test.YtdmpnkhgcggepaaKa
import Derived.Deep.RegionHeld3
import Derived.Laws.StructEq
set_option maxRecDepth 100000

set_option linter.unusedVariables false
namespace Go.Proofs.Ytdmpnkhgcggepaa.Ap.Unt
open Go.ChangeShapes Go.WideShapes Go.ChangeAt Go.RowKit
open Kd (Kind Row Own Cells Reads Fields Fit Agree kInt kStr kFlag kPair kVia Filling Owned eqL eqL_len eqL_no eqL_yes eqL_refl Two rows_get)

def sameB (x y : Unt) : Bool := (x.line == y.line) && (x.net == y.net) && (x.opn == y.opn)

theorem sameB_refl (x : Unt) : sameB x x = true := by
  unfold sameB
  simp

theorem sameB_iff {x y : Unt} : sameB x y = true ↔ x = y := by
  constructor
  · intro h
    unfold sameB at h
    simp only [Bool.and_eq_true, beq_iff_eq] at h
    obtain ⟨a0, a1, a2⟩ := x
    obtain ⟨b0, b1, b2⟩ := y
    simp only at h
    simp [h]
  · rintro rfl
    exact sameB_refl x

set_option maxHeartbeats 1000000 in
theorem eq_any (x y : Unt) (w : World) : Calls Try.prog 36 #[.agg #[.int .i64 x.line, .int .i64 x.net, .bool x.opn], .agg #[.int .i64 y.line, .int .i64 y.net, .bool y.opn]] w fun e w' => e = .returned (.bool (sameB x y)) ∧ Below w.heap.size w w' := by
  have hd : sameB x y = ((x.line == y.line) && (x.net == y.net) && (x.opn == y.opn)) := rfl
  have HD := Lib.hid hd
  have HB : Hid (∀ o p, Below w.heap.size w ((w.alloc o).alloc p)) := Lib.hid fun o p => ((Below.refl _ _).alloc (Nat.le_refl _) _).alloc (by simp) _
  clear hd
  go_enter Try.func36, Try.ntmps36
  go_wp2
  all_goals (go_ret; refine ⟨?_, HB.out _ _⟩; rw [HD.out]; simp [*])

set_option maxHeartbeats 1000000 in
theorem same_any (A C : Option Addr) (n m ca cc : Nat) (xs ys : List Unt) (F : Nat → Prop) (w : World) (ha : Row kUnt w F A n xs) (hc : Row kUnt w F C m ys) (hF : ∀ b, F b → b < w.heap.size) (hn : n ≤ 1000000000000) :
    Calls Try.prog 35 #[.slice A n ca, .slice C m cc, .func (.func 36) #[] #[]] w fun e w' => e = .returned (.bool (eqL sameB xs ys)) ∧ Below w.heap.size w w' := by
  have hl := ha.len
  have hl2 := hc.len
  have HL := Lib.hid (And.intro hl hl2)
  have HF := Lib.hid hF
  by_cases hnm : n = m
  · subst hnm
    have b0 : ((n : Int) != (n : Int)) = false := by simp
    have HT0 := Lib.hid (Two.mk ha hc (Below.refl w.heap.size w))
    clear ha hc hl hl2 hF
    go_enter Try.func35, Try.ntmps35
    go_wp2
    go_loopw [7] (fun s wr => ∃ k : Nat, s = .int .i64 k ∧ k ≤ n ∧ Hid (Two kUnt w wr F A C n n xs ys) ∧ Hid (∀ (j : Nat) (x y : Unt), j < k → xs[j]? = some x → ys[j]? = some y → sameB x y = true)) (fun s _ => n - (intOf s).toNat)
    case atStart => exact ⟨0, rfl, by omega, HT0, Lib.hid fun j x y hj => by omega⟩
    case round =>
      clear HT0
      obtain ⟨k, rfl, hk, HT, HE⟩ := hrel
      by_cases hlt : k < n
      · obtain ⟨x, y, hx, hy⟩ := rows_get HT.out.a HT.out.c hlt
        obtain ⟨g, o, rfl, hg1, hg2, _, a0, a1, a2⟩ := row_Unt HT.out.a hx
        obtain ⟨g', o', rfl, hg3, hg4, _, d0, d1, d2⟩ := row_Unt HT.out.c hy
        have k0 : (0 : Int) ≤ (k : Int) := by omega
        have k1 : (k : Int) < (n : Int) := by omega
        have HXY := Lib.hid (And.intro hx hy)
        have HO : Hid (∀ W, Below wr.heap.size wr W → Calls Try.prog 36 #[.agg #[.int .i64 x.line, .int .i64 x.net, .bool x.opn], .agg #[.int .i64 y.line, .int .i64 y.net, .bool y.opn]] W fun e w' => e = .returned (.bool (sameB x y)) ∧ Below wr.heap.size wr w') := Lib.hid fun W hW => (eq_any x y W).mono fun e w' h => ⟨h.1, Hk.andThen hW h.2⟩
        have c0 : ∀ u, Below wr.heap.size wr u → u.cell? ⟨g, o + k * 3, none⟩ = some (.int .i64 x.line) := fun u hu => (hu.cell (p := ⟨g, _, none⟩) hg2).trans a0
        have c1 : ∀ u, Below wr.heap.size wr u → u.cell? ⟨g, o + k * 3 + 1, none⟩ = some (.int .i64 x.net) := fun u hu => (hu.cell (p := ⟨g, _, none⟩) hg2).trans a1
        have c2 : ∀ u, Below wr.heap.size wr u → u.cell? ⟨g, o + k * 3 + 2, none⟩ = some (.bool x.opn) := fun u hu => (hu.cell (p := ⟨g, _, none⟩) hg2).trans a2
        have e0 : ∀ u, Below wr.heap.size wr u → u.cell? ⟨g', o' + k * 3, none⟩ = some (.int .i64 y.line) := fun u hu => (hu.cell (p := ⟨g', _, none⟩) hg4).trans d0
        have e1 : ∀ u, Below wr.heap.size wr u → u.cell? ⟨g', o' + k * 3 + 1, none⟩ = some (.int .i64 y.net) := fun u hu => (hu.cell (p := ⟨g', _, none⟩) hg4).trans d1
        have e2 : ∀ u, Below wr.heap.size wr u → u.cell? ⟨g', o' + k * 3 + 2, none⟩ = some (.bool y.opn) := fun u hu => (hu.cell (p := ⟨g', _, none⟩) hg4).trans d2
        clear a0 a1 a2 d0 d1 d2 hx hy hg1 hg2 hg3 hg4
        cases hB : sameB x y with
        | true =>
          rw [hB] at HO
          have HB := Lib.hid hB
          clear hB
          go_wp2_with fail
          go_region_held3 (fun u => Below wr.heap.size wr u)
            (first
              | assumption
              | exact (Below.refl _ _).drew
              | exact Below.refl _ _)
            (first
              | (go_at_call 36; refine (HO.out _ (by first | assumption | exact (Below.refl _ _).drew)).mono ?_; rintro e wz ⟨rfl, hz⟩))
          have HT2 := Lib.hid (HT.out.on HF.out hz)
          clear hz
          go_wp2
          go_roundw
          case rel => exact ⟨k + 1, by go_num, by omega, HT2, Lib.hid fun j x' y' hj hx' hy' => by
            rcases Nat.lt_or_ge j k with h | h
            · exact HE.out j x' y' h hx' hy'
            · obtain rfl : j = k := by omega
              rw [HXY.out.1] at hx'
              rw [HXY.out.2] at hy'
              injection hx' with hx'
              injection hy' with hy'
              subst hx' hy'
              exact HB.out⟩
          case measure => simp [intOf]; omega
        | false =>
          rw [hB] at HO
          have HG := Lib.hid (eqL_no HXY.out.1 HXY.out.2 hB)
          clear hB
          go_wp2_with fail
          go_region_held3 (fun u => Below wr.heap.size wr u)
            (first
              | assumption
              | exact (Below.refl _ _).drew
              | exact Below.refl _ _)
            (first
              | (go_at_call 36; refine (HO.out _ (by first | assumption | exact (Below.refl _ _).drew)).mono ?_; rintro e wz ⟨rfl, hz⟩))
          have HT2 := Lib.hid (HT.out.on HF.out hz)
          clear hz
          go_wp2
          go_ret
          exact ⟨by rw [HG.out]; rfl, HT2.out.below⟩
      · have k1 : ¬ (k : Int) < (n : Int) := by omega
        have HG := Lib.hid (eqL_yes (eq := sameB) (HL.out.1.trans HL.out.2.symm) fun j x y hx hy => HE.out j x y (by
          have := (List.getElem?_eq_some_iff.1 hx).1
          rw [HL.out.1] at this
          omega) hx hy)
        go_wp2
        go_ret
        exact ⟨by rw [HG.out]; rfl, HT.out.below⟩
  · have b0 : ((n : Int) != (m : Int)) = true := by rw [bne_iff_ne]; omega
    have HG := Lib.hid (eqL_len (eq := sameB) (xs := xs) (ys := ys) (by omega))
    clear ha hc hl hl2 hnm hF
    go_enter Try.func35, Try.ntmps35
    go_wp2
    go_ret
    exact ⟨by rw [HG.out]; rfl, Below.refl _ _⟩

theorem plain_any (A C : Option Addr) (n m ca cc : Nat) (xs ys : List Unt) (F : Nat → Prop) (w : World) (ha : Row kUnt w F A n xs) (hc : Row kUnt w F C m ys) (hF : ∀ b, F b → b < w.heap.size) (hn : n ≤ 1000000000000) :
    Calls Try.prog 16 #[.slice A n ca, .slice C m cc] w fun e w' => e = .returned (.bool (eqL sameB xs ys)) ∧ Below w.heap.size w w' := by
  have HS := Lib.hid (same_any A C n m ca cc xs ys F w ha hc hF hn)
  clear ha hc hF
  go_enter Try.func16, Try.ntmps16
  go_wp2_with fail
  refine HS.out.mono ?_
  rintro e w1 ⟨rfl, hb⟩
  have HB := Lib.hid hb
  clear hb
  go_wp2
  go_ret
  exact ⟨rfl, HB.out⟩

theorem info_it : (Try.prog.info? 37).map (fun i => (i.zero, i.size, i.bytes)) = some (some (.agg #[.int .i64 0, .int .i64 0, .bool false]), 3, 24) := by kernel_rfl

theorem enc_one (x : Unt) : ∀ u ∈ x.enc, u.oneCell' = true := by
  intro u hu
  simp only [Unt.enc, List.mem_cons, List.not_mem_nil, or_false] at hu
  rcases hu with rfl | rfl | rfl <;> rfl

theorem cells_one {w : World} {F : Nat → Prop} : ∀ {xs : List Unt} {cs : List Value}, Cells kUnt w F xs cs → ∀ u ∈ cs, u.oneCell' = true
  | [], _, h, u, hu => by cases h; cases hu
  | x :: xs, _, ⟨a, b, rfl, ha, hb⟩, u, hu => by
    rcases List.mem_append.1 hu with h1 | h1
    · obtain ⟨rfl, _⟩ := Unt_rep.1 ha
      exact enc_one x u h1
    · exact cells_one hb u h1

theorem row_t : Kd.RowT Try.prog kUnt 38 37 (.agg #[.int .i64 0, .int .i64 0, .bool false]) 3 24 :=
  ⟨Try.underlying38, info_it, rfl, rfl, by omega, fun h => by
    obtain ⟨rfl, _⟩ := Unt_rep.1 h
    exact enc_one _⟩

theorem fill_cells {w : World} {F : Nat → Prop} {x : Unt} (hx : x.ok) : Cells kUnt w F [x, x, x] (x.enc ++ (x.enc ++ (x.enc ++ []))) :=
  ⟨x.enc, _, rfl, Unt_rep.2 ⟨rfl, hx⟩, x.enc, _, rfl, Unt_rep.2 ⟨rfl, hx⟩, x.enc, _, rfl, Unt_rep.2 ⟨rfl, hx⟩, rfl⟩

/-- The copy, the box of what fills it, and what there was. -/
structure Keep (w wr : World) (F : Nat → Prop) (A : Option Addr) (n b : Nat) (xs : List Unt) (f : Unt) : Prop where
  row : Row kUnt wr F A (n + 3) (xs ++ [f, f, f])
  box : Qu.Blk wr b 37 #[.int .i64 f.line, .int .i64 f.net, .bool f.opn]
  below : Below w.heap.size w wr

theorem Keep.on {w wr w' : World} {F : Nat → Prop} {A : Option Addr} {n b : Nat} {xs : List Unt} {f : Unt} (h : Keep w wr F A n b xs f) (hF : ∀ b, F b → b < w.heap.size) (hb : Below wr.heap.size wr w') : Keep w w' F A n b xs f :=
  ⟨h.row.stay fun b hb2 => hb.block b (Nat.lt_of_lt_of_le (hF b hb2) h.below.size), h.box.below hb, Hk.andThen h.below hb⟩

theorem behind {xs : List Unt} {f : Unt} {n k : Nat} (hx : xs.length = n) (hk : n ≤ k) (hk3 : k < n + 3) : (xs ++ [f, f, f])[k]? = some f := by
  rw [List.getElem?_append_right (by omega), hx]
  obtain h | h | h : k = n ∨ k = n + 1 ∨ k = n + 2 := by omega
  · rw [show k - n = 0 by omega]; rfl
  · rw [show k - n = 1 by omega]; rfl
  · rw [show k - n = 2 by omega]; rfl

end Go.Proofs.Ytdmpnkhgcggepaa.Ap.Unt
