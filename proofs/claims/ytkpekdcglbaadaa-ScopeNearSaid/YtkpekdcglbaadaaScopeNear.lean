/- P11.1: of scopes and items that may be: who has what, by an index; for every slice of scopes and slice of items. No conditions. -/
import Derived.Test.YtkpekdcglbaadaaScK
import Derived.Test.YtkpekdcglbaadaaPyV
import Derived.Test.YtkpekdcglbaadaaHpA
import Derived.Test.YtkpekdcglbaadaaBa
set_option maxRecDepth 100000
namespace Go.Proofs.Ytkpekdcglbaadaa.scopeNear
open Go.ChangeShapes Go.WideShapes Go.ChangeAt Go.RowKit
open It (Itm kItem row_item row_ok item_rep)
open Ap (Scp kScp row_Scp Scp_rep)
open Kd (Kind Row Own Cells Fit Agree Lst Sl kStr kInt kList row_str Deep)
set_option maxRecDepth 100000
set_option linter.unusedVariables false

theorem own : ownKnob Try.prog.godebug = none := by kernel_rfl

theorem scps_t : Kd.RowT Try.prog kScp 27 24 (.agg #[.slice none 0 0, .slice none 0 0]) 2 48 :=
  ⟨Try.underlying27, by kernel_rfl, rfl, rfl, by omega, fun h => by
    obtain ⟨l, rfl, _⟩ := Scp_rep.1 h
    intro u hu
    simp only [Scp.enc, List.mem_cons, List.not_mem_nil, or_false] at hu
    rcases hu with rfl | rfl <;> rfl⟩

/-- Scopes near to raw ones, while they are made. -/
structure Ms (w wr : World) (v : Value) (k : Nat) (ss : List Scp) : Prop where
  deep : Deep kScp wr w.heap.size 24 v k ((ss.map Py.scopeOf).take k)
  below : Below w.heap.size w wr

/-- The one that came last. -/
theorem back {W : World} {B E g c k : Nat} {xs : List Scp} {x : Scp} (h : Deep kScp W B E (.slice (some ⟨g, 0, none⟩) (k + 1) c) (k + 1) (xs ++ [x])) (hl : xs.length = k) :
    ∃ l : Scp.Lay, W.cell? ⟨g, k * 2, none⟩ = some (.slice l.skus.A l.skus.n l.skus.c) ∧ W.cell? ⟨g, k * 2 + 1, none⟩ = some (.slice l.cats.A l.cats.n l.cats.c) ∧ Hid (Scp.Holds W (· < W.heap.size) x l) := by
  obtain ⟨g8, o8, l8, hA8, _, _, hh8, d0, d1⟩ := row_Scp (k := k) (x := x) h.read (by rw [List.getElem?_append_right (by omega), hl, Nat.sub_self]; rfl)
  injection hA8 with hA
  injection hA with hA1 hA2
  subst hA1 hA2
  rw [Nat.zero_add] at d0 d1
  exact ⟨l8, d0, d1, Lib.hid hh8⟩

theorem small_of (ss : List Scp) : Sc.Smalls (ss.map Py.scopeOf) := fun k s hs => by
  rw [List.getElem?_map] at hs
  cases h : ss[k]? with
  | none => rw [h] at hs; cases hs
  | some s0 =>
    rw [h] at hs
    obtain rfl : Py.scopeOf s0 = s := by simpa using hs
    have := Py.scopeOf_len s0
    omega

theorem index_small (xs : List Itm) (ss : List Scp) (h : ss.length ≤ 20) : ∀ x ∈ Sc.indexL xs ss, x.length ≤ 1000000000000 := fun x hx => by
  unfold Sc.indexL at hx
  obtain ⟨y, _, rfl⟩ := List.mem_map.1 hx
  have := Sc.idxTo_len ss y.sku y.cat ss.length
  omega

theorem lists_same (l : List (List Int)) : Kd.eqL (Kd.eqL Hp.eqI) l l = true := Kd.eqL_refl (fun x => Kd.eqL_refl (fun z => Hp.eqI_iff.2 rfl) x) l

/-- Both indexes, in turn, from a world on where the items and the scopes lie. -/
structure Laid (w : World) (A A2 : Option Addr) (n c n2 c2 : Nat) (xs : List Itm) (ss : List Scp) : Prop where
  items : Row kItem w (· < w.heap.size) A n xs
  scopes : Row kScp w (· < w.heap.size) A2 n2 ss
  small : Sc.Smalls ss
  n : n ≤ 1000000
  n2 : n2 ≤ 20

section
variable {w W : World} {A A2 : Option Addr} {n c n2 c2 : Nat} {xs : List Itm} {ss : List Scp}
theorem Laid.on (h : Laid w A A2 n c n2 c2 xs ss) (hb : Below w.heap.size w W) : Laid W A A2 n c n2 c2 xs ss :=
  ⟨(h.items.below hb (Nat.le_refl _)).lift hb.size, (h.scopes.below hb (Nat.le_refl _)).lift hb.size, h.small, h.n, h.n2⟩

theorem Laid.index (h : Laid w A A2 n c n2 c2 xs ss) : Calls Try.prog 18 #[.slice A n c, .slice A2 n2 c2] w fun e w' => ∃ g, e = .returned (.slice (some ⟨g, 0, none⟩) n n) ∧ Hid (Row (kList kInt) w' (· < w'.heap.size) (some ⟨g, 0, none⟩) n (Sc.indexL xs ss) ∧ Below w.heap.size w w') :=
  (Sc.Index_any A A2 n c n2 c2 xs ss w h.items h.scopes h.small h.n (by have := h.n2; omega)).mono fun e w' ⟨g, e1, h1, h2⟩ => ⟨g, e1, Lib.hid ⟨h1, h2⟩⟩

theorem Laid.ref (h : Laid w A A2 n c n2 c2 xs ss) : Calls Try.prog 19 #[.slice A n c, .slice A2 n2 c2] w fun e w' => ∃ A c, e = .returned (.slice A n c) ∧ Hid (Row (kList kInt) w' (· < w'.heap.size) A n (Sc.indexL xs ss) ∧ Below w.heap.size w w') :=
  (Sc.rindex_any A A2 n c n2 c2 xs ss w h.items h.scopes h.small h.n (by have := h.n2; omega)).mono fun e w' ⟨v, e1, h1, h2⟩ => by
    obtain ⟨A, c, rfl⟩ := h1.value
    exact ⟨A, c, e1, Lib.hid ⟨h1.read, h2⟩⟩

theorem Laid.lists (h : Laid w A A2 n c n2 c2 xs ss) {C D : Option Addr} {cc cd : Nat} (h1 : Row (kList kInt) W (· < W.heap.size) C n (Sc.indexL xs ss)) (h2 : Row (kList kInt) W (· < W.heap.size) D n (Sc.indexL xs ss)) : Calls Try.prog 17 #[.slice C n cc, .slice D n cd] W fun e w' => e = .returned (.bool true) ∧ Below W.heap.size W w' :=
  (Hp.lists_any C D n n cc cd (Sc.indexL xs ss) (Sc.indexL xs ss) (· < W.heap.size) W h1 h2 (fun b hb => hb) (by have := h.n; omega) (index_small xs ss (by rw [h.scopes.len]; exact h.n2))).mono fun e w' he => ⟨by rw [he.1, lists_same], he.2⟩
end

set_option maxHeartbeats 4000000 in
theorem walk (w : World) (A : Option Addr) (n c : Nat) (ss : List Scp) (hrow : Row kScp w (· < w.heap.size) A n ss) (hfit : Fit A n c) (A2 : Option Addr) (n2 c2 : Nat) (xs : List Itm) (hrow2 : Row kItem w (· < w.heap.size) A2 n2 xs) (hfit2 : Fit A2 n2 c2) :
    Calls Try.prog 4 #[.slice A n c, .slice A2 n2 c2] w fun e w' => e = .returned (.bool true) ∧ Below w.heap.size w w' := by
  have hn63 : n ≤ 9223372036854775807 := by have := hfit.2; omega
  have hn63b : n2 ≤ 9223372036854775807 := by have := hfit2.2; omega
  have HF := Lib.hid (Sc.few_any A n c ss _ w hrow hn63)
  have hlen := hrow.len
  cases hB : Sc.fewB ss with
  | false =>
    rw [hB] at HF
    clear hB hrow hrow2 hlen
    go_enter Try.func4, Try.ntmps4
    go_wp2_with fail
    refine HF.out.mono ?_
    rintro e w3 ⟨rfl, rfl⟩
    go_wp2_with fail
    refine (Sc.awake_any _).mono ?_
    rintro e w4 ⟨rfl, hb4⟩
    have HB4 := Lib.hid hb4
    clear hb4
    go_wp2
    go_ret
    exact ⟨rfl, HB4.out⟩
  | true =>
    rw [hB] at HF
    have hfew := Sc.fewB_yes hB
    rw [hlen] at hfew
    by_cases h40 : 40 < n2
    · have i1 : (40 : Int) < (n2 : Int) := by omega
      clear h40 hfew hB hrow hrow2 hlen
      go_enter Try.func4, Try.ntmps4
      go_wp2_with fail
      refine HF.out.mono ?_
      rintro e w3 ⟨rfl, rfl⟩
      go_wp2_with fail
      refine (Sc.awake_any _).mono ?_
      rintro e w4 ⟨rfl, hb4⟩
      have HB4 := Lib.hid hb4
      clear hb4
      go_wp2
      go_ret
      exact ⟨rfl, HB4.out⟩
    · have i1 : ¬ (40 : Int) < (n2 : Int) := by omega
      have n20 := hfew.1
      have HR := Lib.hid (And.intro hrow (And.intro hrow2 (And.intro hlen hfew)))
      have HM0 : Hid (Ms w w (.slice none 0 0) 0 ss) := Lib.hid ⟨Deep.nil _ _ _ _, Below.refl _ _⟩
      have n240 : n2 ≤ 40 := by omega
      clear hB hfew hrow hrow2 hlen h40 hn63 hn63b hfit hfit2
      go_enter Try.func4, Try.ntmps4
      go_wp2_with fail
      refine HF.out.mono ?_
      rintro e w3 ⟨rfl, rfl⟩
      clear HF
      go_wp2
      go_loopw [5, 6] (fun s5 s6 wr => ∃ k : Nat, s6 = .int .i64 k ∧ k ≤ n ∧ Hid (Ms w3 wr s5 k ss)) (fun _ s6 _ => n - (intOf s6).toNat)
      case atStart => exact ⟨0, rfl, by omega, HM0⟩
      case round =>
        clear HM0
        obtain ⟨k, rfl, hk, hM⟩ := hrel
        have k0 : (0 : Int) ≤ (k : Int) := by omega
        by_cases hlt : k < n
        · have k1 : (k : Int) < (n : Int) := by omega
          obtain ⟨s, hs⟩ := HR.out.1.get hlt
          obtain ⟨g, o, l, rfl, _, hg, hh, a0, a1⟩ := row_Scp HR.out.1 hs
          have e0 := (hM.out.below.cell (p := ⟨g, o + k * 2, none⟩) hg).trans a0
          have e1 := (hM.out.below.cell (p := ⟨g, o + k * 2 + 1, none⟩) hg).trans a1
          have hsm := HR.out.2.2.2.2 k s hs
          have l1 := hh.skus.row.len
          have l2 := hh.cats.row.len
          have HSc := Lib.hid (Py.scope_any s l wr (Sc.holds_more (Sc.holds_below hh hM.out.below (Nat.le_refl _)) fun b hb => Nat.lt_of_lt_of_le hb hM.out.below.size) (by omega) (by omega))
          have HT : Hid ((ss.map Py.scopeOf).take (k + 1) = (ss.map Py.scopeOf).take k ++ [Py.scopeOf s] ∧ ((ss.map Py.scopeOf).take k).length = k) := Lib.hid ⟨Py.take_more (by rw [List.getElem?_map, hs]; rfl), by rw [List.length_take, List.length_map, HR.out.2.2.1]; omega⟩
          clear hs hh a0 a1 hg hsm l1 l2
          go_wp2_with fail
          refine HSc.out.mono ?_
          rintro e w1 ⟨l1, rfl, hh1, hb1⟩
          have HOW : Hid (Deep kScp w1 w3.heap.size 24 u5 k ((ss.map Py.scopeOf).take k) ∧ Below w3.heap.size w3 w1 ∧ w3.heap.size ≤ w1.heap.size ∧ kScp.rep w1 (Kd.But w1 u5) (Py.scopeOf s) ((Py.scopeOf s).enc l1)) := Lib.hid (by
            have hb := hM.out.below.trans (hb1.mono hM.out.below.size)
            refine ⟨hM.out.deep.later hb1, hb, hb.size, Scp_rep.2 ⟨l1, rfl, Sc.holds_more hh1 fun b hb2 => ⟨hb2.2, fun e => ?_⟩⟩⟩
            have h1 := (hM.out.deep.low b e).2
            have h2 := hb2.1
            omega)
          clear hM hh1 hb1 e0 e1 HSc
          go_wp2_with ((at_builtin; refine Kd.wpList_grow (W := w1) (B := w3.heap.size) (n := k) (v := u5) (xs := (ss.map Py.scopeOf).take k) (x := Py.scopeOf s) (cs := (Py.scopeOf s).enc l1) scps_t rfl _ _ rfl rfl rfl rfl HOW.out.1 HOW.out.2.2.2 (by omega) (by omega) HOW.out.2.2.1 ?_; intro g1 cap w' hdeep hgrow hfr; obtain ⟨l8, d0, d1, HH8⟩ := back hdeep HT.out.2; have HD := Lib.hid (And.intro hdeep hgrow); clear hdeep hgrow hfr))
          have hsl := Py.scopeOf_len s
          have HRt := Lib.hid (Sc.Right_any (Py.scopeOf s) l8 w' HH8.out ⟨by have := HH8.out.skus.row.len; omega, by have := HH8.out.cats.row.len; omega⟩)
          rw [Py.scopeOf_may] at HRt
          have HMW : Hid (Ms w3 w' (.slice (some ⟨g1, 0, none⟩) (k + 1) cap) (k + 1) ss) := Lib.hid ⟨by rw [HT.out.1]; exact HD.out.1, HOW.out.2.1.grown HD.out.2 HOW.out.2.2.1 (fun i hi => (HOW.out.1.low i hi).1)⟩
          clear d0 d1 hsl
          refine HRt.out.mono ?_
          rintro e w5 ⟨rfl, hb5⟩
          have HM5 : Hid (Ms w3 w5 (.slice (some ⟨g1, 0, none⟩) (k + 1) cap) (k + 1) ss) := Lib.hid ⟨HMW.out.deep.later hb5, HMW.out.below.trans (hb5.mono HMW.out.below.size)⟩
          clear hb5
          go_wp2
          go_roundw
          case rel => exact ⟨k + 1, by go_num, by omega, HM5⟩
          case measure => simp [intOf]; omega
        · obtain rfl : k = n := by omega
          have k1 : ¬ (k : Int) < (k : Int) := by omega
          obtain ⟨Am, cm, rfl⟩ := hM.out.deep.value
          have HI := Lib.hid (Py.items_any A2 n2 c2 xs wr ((HR.out.2.1.below hM.out.below (Nat.le_refl _)).lift hM.out.below.size) (by omega))
          go_wp2_with fail
          refine HI.out.mono ?_
          rintro e w1 ⟨v, rfl, hm⟩
          obtain ⟨Ax, cx, rfl⟩ := hm.own.value
          have HL : Hid (Laid w1 Ax Am 8 cx k cm (Py.itemsOf xs) (ss.map Py.scopeOf) ∧ Laid w1 A2 A n2 c2 k c xs ss ∧ Below w3.heap.size w3 w1) := Lib.hid (by
            have hb := hM.out.below.trans (hm.below.mono hM.out.below.size)
            have h8 : (Py.itemsOf xs).take 8 = Py.itemsOf xs := List.take_of_length_le (by rw [Py.itemsOf_length]; omega)
            have hk : (ss.map Py.scopeOf).take k = ss.map Py.scopeOf := List.take_of_length_le (by rw [List.length_map, HR.out.2.2.1]; omega)
            have h1 := hm.own.read
            rw [h8] at h1
            have h2 := (hM.out.deep.later hm.below).read
            rw [hk] at h2
            exact ⟨⟨h1, h2, small_of ss, by omega, n20⟩, ⟨(HR.out.2.1.below hb (Nat.le_refl _)).lift hb.size, (HR.out.1.below hb (Nat.le_refl _)).lift hb.size, fun j s hs => by have := HR.out.2.2.2.2 j s hs; omega, by omega, n20⟩, hb⟩)
          clear hM hm HI HR
          go_wp2_with fail
          refine (Sc.awake_any _).mono ?_
          rintro e w2 ⟨rfl, hb2⟩
          have HL2 : Hid (Laid w2 Ax Am 8 cx k cm (Py.itemsOf xs) (ss.map Py.scopeOf) ∧ Laid w2 A2 A n2 c2 k c xs ss ∧ Below w3.heap.size w3 w2) := Lib.hid ⟨HL.out.1.on hb2, HL.out.2.1.on hb2, HL.out.2.2.trans (hb2.mono HL.out.2.2.size)⟩
          clear hb2 HL
          go_wp2_with fail
          refine HL2.out.1.index.mono ?_
          rintro e w4 ⟨g4, rfl, H4⟩
          have HL4 : Hid (Laid w4 Ax Am 8 cx k cm (Py.itemsOf xs) (ss.map Py.scopeOf)) := Lib.hid (HL2.out.1.on H4.out.2)
          go_wp2_with fail
          refine HL4.out.ref.mono ?_
          rintro e w5 ⟨A5, c5, rfl, H5⟩
          have HS := Lib.hid (HL4.out.lists (cc := 8) (cd := c5) ((H4.out.1.below H5.out.2 (Nat.le_refl _)).lift H5.out.2.size) H5.out.1)
          go_wp2_with fail
          refine HS.out.mono ?_
          rintro e w6 ⟨rfl, hb6⟩
          have HL6 : Hid (Laid w6 A2 A n2 c2 k c xs ss ∧ Below w3.heap.size w3 w6) := Lib.hid (by
            have hb := Hk.andThen (Hk.andThen H4.out.2 H5.out.2) hb6
            exact ⟨HL2.out.2.1.on hb, HL2.out.2.2.trans (hb.mono HL2.out.2.2.size)⟩)
          clear hb6 HS HL4 H4 H5 HL2
          go_wp2_with fail
          refine HL6.out.1.index.mono ?_
          rintro e w7 ⟨g7, rfl, H7⟩
          have HL7 : Hid (Laid w7 A2 A n2 c2 k c xs ss) := Lib.hid (HL6.out.1.on H7.out.2)
          go_wp2_with fail
          refine HL7.out.ref.mono ?_
          rintro e w8 ⟨A8, c8, rfl, H8⟩
          have HS := Lib.hid (HL7.out.lists (cc := n2) (cd := c8) ((H7.out.1.below H8.out.2 (Nat.le_refl _)).lift H8.out.2.size) H8.out.1)
          go_wp2_with fail
          refine HS.out.mono ?_
          rintro e w9 ⟨rfl, hb9⟩
          have HB9 := Lib.hid (HL6.out.2.trans ((Hk.andThen (Hk.andThen H7.out.2 H8.out.2) hb9).mono HL6.out.2.size))
          clear hb9
          go_wp2
          go_ret
          exact ⟨rfl, HB9.out⟩

set_option maxRecDepth 100000 in
theorem lifted (os : Os) (started : os.Started) (H : Type) (enc : TypeId × Value → H) :
    ReturnsInHanded {} Try.checked os 4 .any (Rows.scopeNearSpec.pre6 enc Try.prog Try.f4 Rows.scopeNearRow.domain false) (Rows.scopeNearSpec.post enc Try.prog Try.f4 false true false false) := by
  refine returnsInHanded_of_change (C := Try.checked) own started (by kernel_rfl) Try.func4
    (ChangeSpec.witness6 (enc := enc) (C := Try.checked) false ⟨#[], #[.slice none 0 0, .slice none 0 0], []⟩ 8 (by kernel_rfl) (by kernel_rfl) (by kernel_rfl) (by kernel_rfl)) ?_
  intro W base args ds gs before hval0 hW hcnd _
  have hval : ∀ (j : Nat) t v, Try.f4.params[j]? = some t → args[j]? = some v → Value.okWide Try.prog W .any base t v := hval0
  have hW' := hW
  obtain ⟨p, q, hA0, hV, rfl, hfz, hnd⟩ := hW
  have hA : DataW.TrodAll enc Try.prog W 0 (fun _ => true) true Try.f4.params.toList args.toList ds p := hA0
  rw [Try.params4] at hA hval
  obtain ⟨v0, vs0, d0, ds0, p0, q0, hargs, rfl, rfl, h0, r0⟩ := trodAll_cons hA
  obtain ⟨v1, vs1, d1, ds1, p1, q1, rfl, rfl, rfl, h1, r1⟩ := trodAll_cons r0
  obtain ⟨rfl, rfl, rfl⟩ := trodAll_nil r1
  obtain rfl : args = #[v0, v1] := by cases args; simp_all
  obtain ⟨A0, n0, c0, xs0, rfl, x0, y0⟩ := Kd.open_list Ap.reads_Scp Try.underlying27 (by decide) (hval 0 27 v0 rfl rfl) h0
  obtain ⟨A1, n1, c1, xs1, rfl, x1, y1⟩ := Kd.open_list It.reads_item Try.underlying25 (by decide) (hval 1 25 v1 rfl rfl) h1
  refine (walk W A0 n0 c0 xs0 x0 y0 A1 n1 c1 xs1 x1 y1).mono fun e W' ⟨he, hb⟩ => ?_
  subst he
  exact ⟨_, rfl, Hk.closeLaw (tb := 4) (by kernel_rfl) (by kernel_rfl) rfl rfl rfl Try.underlying4 hW' hb⟩

theorem over : Rows.scopeNearRow.holds Try.pinned (OpenSpec.ofChange Rows.scopeNearSpec) :=
  OpenClaim.holds_of_wide 4 Try.f4 rfl rfl rfl rfl rfl rfl rfl ⟨rfl, rfl, rfl, rfl, rfl⟩ rfl rfl rfl rfl rfl (by kernel_rfl) Try.func4 (by kernel_rfl)
    (of_decide_eq_true (by kernel_rfl)) (by unfold Func.isWrapper; first | (rw [if_pos (by decide +kernel)]; kernel_rfl) | (rw [if_neg (by decide +kernel)]; exact ⟨rfl, rfl⟩))
    (fun os started H enc _ => lifted os started H enc)

/-- The statement. -/
theorem proved : Rows.ScopeNearSaid :=
  over
end Go.Proofs.Ytkpekdcglbaadaa.scopeNear
