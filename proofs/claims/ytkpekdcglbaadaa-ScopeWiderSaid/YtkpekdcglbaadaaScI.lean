/- The document's Index. -/
import Derived.Test.YtkpekdcglbaadaaScR
set_option maxRecDepth 100000

set_option linter.unusedVariables false
namespace Go.Proofs.Ytkpekdcglbaadaa.Sc
open Go.ChangeShapes Go.WideShapes Go.ChangeAt Go.RowKit
open It (Itm kItem row_item)
open Ap (Scp kScp row_Scp)
open Kd (Row Fit Lst Sl kStr kInt kList row_str Deep But Own)

/-- Scopes whose lists are small enough to be walked. -/
def Smalls (ss : List Scp) : Prop := ∀ (k : Nat) (s : Scp), ss[k]? = some s → s.skus.length ≤ 1000000000000 ∧ s.cats.length ≤ 1000000000000

theorem holds_small {w : World} {F : Nat → Prop} {s : Scp} {l : Scp.Lay} (h : Scp.Holds w F s l) (hs : s.skus.length ≤ 1000000000000 ∧ s.cats.length ≤ 1000000000000) : Small l := by
  have h1 := h.skus.row.len
  have h2 := h.cats.row.len
  exact ⟨by omega, by omega⟩

theorem holds_below {w w' : World} {B M : Nat} {s : Scp} {l : Scp.Lay} (h : Scp.Holds w (· < M) s l) (hb : Below B w w') (hM : M ≤ B) : Scp.Holds w' (· < M) s l := ⟨h.skus.below hb hM, h.cats.below hb hM⟩

theorem holds_more {w : World} {F G : Nat → Prop} {s : Scp} {l : Scp.Lay} (h : Scp.Holds w F s l) (f : ∀ b, F b → G b) : Scp.Holds w G s l := ⟨h.skus.more f, h.cats.more f⟩

/-- A row of numbers of the call's own, as a thing within another row. -/
theorem ints_rep {W : World} {v : Value} {B n c : Nat} {A : Option Addr} {l : List Int} (h : Own kInt W B 3 (fun _ => False) (.slice A n c) n l) (hv : ∀ g, v.ownBlock = some g → g < B) : (kList kInt).rep W (But W v) l [.slice A n c] :=
  ⟨A, n, c, rfl, (h.more (G := But W v) fun _ h => h.elim).row fun g hg => ⟨(h.low g hg).2, fun e => by
    have h1 := hv g e
    have h2 := (h.low g hg).1
    omega⟩, h.fit⟩

theorem indexL_get {xs : List Itm} {ss : List Scp} {k : Nat} {x : Itm} (h : xs[k]? = some x) : (indexL xs ss)[k]? = some (idxTo ss x.sku x.cat ss.length) := by
  unfold indexL
  rw [List.getElem?_map, h]
  rfl

theorem take_more {α : Type} {l : List α} {k : Nat} {x : α} (h : l[k]? = some x) : l.take (k + 1) = l.take k ++ [x] := by
  rw [List.take_add_one, h]; rfl

set_option maxHeartbeats 2000000 in
theorem rindex_any (A A2 : Option Addr) (n c n2 c2 : Nat) (xs : List Itm) (ss : List Scp) (w : World) (hi : Row kItem w (· < w.heap.size) A n xs) (hs : Row kScp w (· < w.heap.size) A2 n2 ss) (hS : Smalls ss) (hn : n ≤ 1000000) (hn2 : n2 ≤ 1000000) :
    Calls Try.prog 19 #[.slice A n c, .slice A2 n2 c2] w fun e w' => ∃ v, e = .returned v ∧ Deep (kList kInt) w' w.heap.size 57 v n (indexL xs ss) ∧ Below w.heap.size w w' := by
  have HI := Lib.hid hi
  have HS := Lib.hid (And.intro hs hS)
  have l2 : ss.length = n2 := hs.len
  have l1 : xs.length = n := hi.len
  have HL := Lib.hid (And.intro l1 l2)
  have HM0 : Hid (Deep (kList kInt) w w.heap.size 57 (.slice none 0 0) 0 ((indexL xs ss).take 0) ∧ Below w.heap.size w w) := Lib.hid ⟨Deep.nil _ _ _ _, Below.refl _ _⟩
  clear hi hs hS l1 l2
  go_enter Try.func19, Try.ntmps19
  go_wp2
  go_loopw [5, 6] (fun s5 s6 wr => ∃ k : Nat, s6 = .int .i64 k ∧ k ≤ n ∧ Hid (Deep (kList kInt) wr w.heap.size 57 s5 k ((indexL xs ss).take k) ∧ Below w.heap.size w wr)) (fun _ s6 _ => n - (intOf s6).toNat)
  case atStart => exact ⟨0, rfl, by omega, HM0⟩
  case round =>
    clear HM0
    obtain ⟨k, rfl, hk, hM⟩ := hrel
    have k0 : (0 : Int) ≤ (k : Int) := by omega
    by_cases hlt : k < n
    · have k1 : (k : Int) < (n : Int) := by omega
      obtain ⟨x, hx⟩ := HI.out.get hlt
      have HX := Lib.hid hx
      obtain ⟨wo, hwo⟩ : ∃ wo : World, wo = wr := ⟨_, rfl⟩
      subst hwo
      have HO0 : Hid (Own kInt wo wo.heap.size 3 (fun _ => False) (.slice none 0 0) (idxTo ss x.sku x.cat 0).length (idxTo ss x.sku x.cat 0) ∧ Below wo.heap.size wo wo) := Lib.hid ⟨Own.nil _ _ _ _ _, Below.refl _ _⟩
      obtain ⟨v5, hv5⟩ : ∃ v5, u5 = v5 := ⟨_, rfl⟩
      clear hx hv5
      go_wp2
      go_loopw [7, 8] (fun s7 s8 wi => ∃ j : Nat, s8 = .int .i64 j ∧ j ≤ n2 ∧ Hid (Own kInt wi wo.heap.size 3 (fun _ => False) s7 (idxTo ss x.sku x.cat j).length (idxTo ss x.sku x.cat j) ∧ Below wo.heap.size wo wi)) (fun _ s8 _ => n2 - (intOf s8).toNat)
      case atStart => exact ⟨0, rfl, by omega, HO0⟩
      case round =>
        clear HO0
        obtain ⟨j, rfl, hj, hI⟩ := hrel
        have j0 : (0 : Int) ≤ (j : Int) := by omega
        by_cases hjl : j < n2
        · have j1 : (j : Int) < (n2 : Int) := by omega
          obtain ⟨s, hs⟩ := HS.out.1.get hjl
          have hb := hM.out.2.trans (hI.out.2.mono hM.out.2.size)
          obtain ⟨g, o, rfl, _, hg, _, a0, a1, a2, a3⟩ := row_item (HI.out.below hb (Nat.le_refl _)) HX.out
          obtain ⟨g', o', l, rfl, _, hg', hh, d0, d1⟩ := row_Scp (HS.out.1.below hb (Nat.le_refl _)) hs
          have hsm := holds_small hh (HS.out.2 j s hs)
          have HH : Hid (∀ W, Below wr.heap.size wr W → Calls Try.prog 13 #[.agg #[.slice l.skus.A l.skus.n l.skus.c, .slice l.cats.A l.cats.n l.cats.c], .agg #[.string x.sku, .string x.cat, .int .i64 x.price, .bool x.fin]] W fun e w' => e = .returned (.bool (hasX s x.sku x.cat)) ∧ Below wr.heap.size wr w') := Lib.hid fun W hW =>
            (rHas_any s l x W (holds_more (holds_below (holds_more hh fun b hb2 => Nat.lt_of_lt_of_le hb2 hb.size) hW (Nat.le_refl _)) fun b hb2 => Nat.lt_of_lt_of_le hb2 hW.size) hsm).mono fun e w' h => ⟨h.1, Hk.andThen hW h.2⟩
          have c0 : ∀ u, Below wr.heap.size wr u → u.cell? ⟨g, o + k * 4, none⟩ = some (.string x.sku) := fun u hu => (hu.cell (p := ⟨g, _, none⟩) hg).trans a0
          have c1 : ∀ u, Below wr.heap.size wr u → u.cell? ⟨g, o + k * 4 + 1, none⟩ = some (.string x.cat) := fun u hu => (hu.cell (p := ⟨g, _, none⟩) hg).trans a1
          have c2 : ∀ u, Below wr.heap.size wr u → u.cell? ⟨g, o + k * 4 + 2, none⟩ = some (.int .i64 x.price) := fun u hu => (hu.cell (p := ⟨g, _, none⟩) hg).trans a2
          have c3 : ∀ u, Below wr.heap.size wr u → u.cell? ⟨g, o + k * 4 + 3, none⟩ = some (.bool x.fin) := fun u hu => (hu.cell (p := ⟨g, _, none⟩) hg).trans a3
          have e0 : ∀ u, Below wr.heap.size wr u → u.cell? ⟨g', o' + j * 2, none⟩ = some (.slice l.skus.A l.skus.n l.skus.c) := fun u hu => (hu.cell (p := ⟨g', _, none⟩) hg').trans d0
          have e1 : ∀ u, Below wr.heap.size wr u → u.cell? ⟨g', o' + j * 2 + 1, none⟩ = some (.slice l.cats.A l.cats.n l.cats.c) := fun u hu => (hu.cell (p := ⟨g', _, none⟩) hg').trans d1
          have hsucc := idxTo_succ ss x.sku x.cat j hs
          have hlen := idxTo_len ss x.sku x.cat j
          clear a0 a1 a2 a3 d0 d1 hs hh hsm hb hg hg'
          cases hB : hasX s x.sku x.cat with
          | false =>
            simp only [hB] at HH
            rw [hB] at hsucc
            simp only [Bool.false_eq_true, if_false, List.append_nil] at hsucc
            have HSU := Lib.hid hsucc
            clear hB hsucc hlen
            go_wp2_with fail
            go_region_held3 (fun u => Below wr.heap.size wr u)
              (first
                | assumption
                | exact (Below.refl _ _).drew
                | exact Below.refl _ _)
              (first
                | (go_at_call 13; refine (HH.out _ (by first | assumption | exact (Below.refl _ _).drew)).mono ?_; rintro e wz ⟨rfl, hz⟩))
            have HI2 : Hid (Own kInt wz wo.heap.size 3 (fun _ => False) u7 (idxTo ss x.sku x.cat (j + 1)).length (idxTo ss x.sku x.cat (j + 1)) ∧ Below wo.heap.size wo wz) := Lib.hid ⟨by rw [HSU.out]; exact hI.out.1.later hz, hI.out.2.trans (hz.mono hI.out.2.size)⟩
            clear hz
            go_wp2
            go_roundw
            case rel => exact ⟨j + 1, by go_num, by omega, HI2⟩
            case measure => simp [intOf]; omega
          | true =>
            simp only [hB] at HH
            rw [hB, if_pos rfl] at hsucc
            have HSU := Lib.hid hsucc
            clear hB hsucc
            go_wp2_with fail
            go_region_held3 (fun u => Below wr.heap.size wr u)
              (first
                | assumption
                | exact (Below.refl _ _).drew
                | exact Below.refl _ _)
              (first
                | (go_at_call 13; refine (HH.out _ (by first | assumption | exact (Below.refl _ _).drew)).mono ?_; rintro e wz ⟨rfl, hz⟩))
            have HOW : Hid (Own kInt wz wo.heap.size 3 (fun _ => False) u7 (idxTo ss x.sku x.cat j).length (idxTo ss x.sku x.cat j) ∧ Below wo.heap.size wo wz ∧ wo.heap.size ≤ wz.heap.size ∧ kInt.rep wz (fun _ => False) (j : Int) [.int .i64 (j : Int)]) := Lib.hid (by
              have hb := hI.out.2.trans (hz.mono hI.out.2.size)
              exact ⟨hI.out.1.later hz, hb, hb.size, rfl, by omega, by omega⟩)
            obtain ⟨q, hq⟩ : ∃ q, (idxTo ss x.sku x.cat j).length = q := ⟨_, rfl⟩
            have hq2 : q ≤ j := by rw [← hq]; exact hlen
            rw [hq] at HOW
            have HQ := Lib.hid hq
            clear hz hq hlen hI
            go_wp2_with ((at_builtin; refine Kd.wpList_push (W := wz) (F := fun _ => False) (B := wo.heap.size) (n := q) (v := u7) (xs := idxTo ss x.sku x.cat j) (y := (j : Int)) (cs := [.int .i64 (j : Int)]) Ap.int_t rfl _ _ rfl rfl rfl rfl HOW.out.1 HOW.out.2.2.2 (by omega) (by omega) HOW.out.2.2.1 (fun _ h => h.elim) ?_; intro g1 cap w' hown hgrow hfr))
            have HI2 : Hid (Own kInt w' wo.heap.size 3 (fun _ => False) (.slice (some ⟨g1, 0, none⟩) (q + 1) cap) (idxTo ss x.sku x.cat (j + 1)).length (idxTo ss x.sku x.cat (j + 1)) ∧ Below wo.heap.size wo w') := Lib.hid ⟨by
              have e : (idxTo ss x.sku x.cat (j + 1)).length = q + 1 := by rw [HSU.out, List.length_append, HQ.out]; rfl
              rw [e, HSU.out]; exact hown, HOW.out.2.1.grown hgrow HOW.out.2.2.1 (fun i hi => (HOW.out.1.low i hi).1)⟩
            clear hown hgrow hfr
            go_wp2
            go_roundw
            case rel => exact ⟨j + 1, by go_num, by omega, HI2⟩
            case measure => simp [intOf]; omega
        · obtain rfl : j = n2 := by omega
          have j1 : ¬ (j : Int) < (j : Int) := by omega
          have hown := hI.out.1
          have hlen := idxTo_len ss x.sku x.cat j
          obtain ⟨q, hq⟩ : ∃ q, (idxTo ss x.sku x.cat j).length = q := ⟨_, rfl⟩
          rw [hq] at hown
          obtain ⟨Ai, ci, rfl⟩ := hown.value
          have HOW : Hid (Deep (kList kInt) wr w.heap.size 57 u5 k ((indexL xs ss).take k) ∧ Below w.heap.size w wr ∧ w.heap.size ≤ wr.heap.size ∧ (kList kInt).rep wr (But wr u5) (idxTo ss x.sku x.cat j) [.slice Ai q ci]) := Lib.hid (by
            have hb := hM.out.2.trans (hI.out.2.mono hM.out.2.size)
            exact ⟨hM.out.1.later hI.out.2, hb, hb.size, ints_rep hown fun g hg => (hM.out.1.low g hg).2⟩)
          have HT : Hid ((indexL xs ss).take (k + 1) = (indexL xs ss).take k ++ [idxTo ss x.sku x.cat j]) := Lib.hid (by
            have := take_more (indexL_get (ss := ss) HX.out)
            rw [HL.out.2] at this
            exact this)
          clear hI hown hlen hq hM
          go_wp2_with ((at_builtin; refine Kd.wpList_grow (W := wr) (B := w.heap.size) (n := k) (v := u5) (xs := (indexL xs ss).take k) (x := idxTo ss x.sku x.cat j) (cs := [.slice Ai q ci]) Ap.ints_t rfl _ _ rfl rfl rfl rfl HOW.out.1 HOW.out.2.2.2 (by omega) (by omega) HOW.out.2.2.1 ?_; intro g1 cap w' hdeep hgrow hfr))
          have HM2 : Hid (Deep (kList kInt) w' w.heap.size 57 (.slice (some ⟨g1, 0, none⟩) (k + 1) cap) (k + 1) ((indexL xs ss).take (k + 1)) ∧ Below w.heap.size w w') := Lib.hid ⟨by rw [HT.out]; exact hdeep, HOW.out.2.1.grown hgrow HOW.out.2.2.1 (fun i hi => (HOW.out.1.low i hi).1)⟩
          clear hdeep hgrow hfr
          go_wp2
          go_roundw
          case rel => exact ⟨k + 1, by go_num, by omega, HM2⟩
          case measure => simp [intOf]; omega
    · obtain rfl : k = n := by omega
      have k1 : ¬ (k : Int) < (k : Int) := by omega
      have HO : Hid (Deep (kList kInt) wr w.heap.size 57 u5 k (indexL xs ss) ∧ Below w.heap.size w wr) := Lib.hid (by
        have e : (indexL xs ss).take k = indexL xs ss := List.take_of_length_le (by unfold indexL; rw [List.length_map, HL.out.1]; omega)
        have h1 := hM.out
        rw [e] at h1
        exact h1)
      clear hM
      go_wp2
      go_ret
      exact ⟨_, rfl, HO.out⟩

end Go.Proofs.Ytkpekdcglbaadaa.Sc
