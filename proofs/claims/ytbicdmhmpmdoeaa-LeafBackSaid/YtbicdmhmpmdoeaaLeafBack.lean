/- P7.1: what is laid is taken as it was, and its mark is its epoch; for every leaf near to any raw one. No conditions. -/
import Derived.Test.YtbicdmhmpmdoeaaLfO
import Derived.Test.YtbicdmhmpmdoeaaKitC
namespace Go.Proofs.Ytbicdmhmpmdoeaa.leafBack
open Go.ChangeShapes Go.WideShapes Go.ChangeAt Go.RowKit
set_option linter.unusedVariables false

theorem own : ownKnob Try.prog.godebug = none := by kernel_rfl

/-- What the last region reads, in any later world. -/
theorem keep_back {wk u : World} {g1 g5 g3 e n m c m' c' : Nat} {f l : Bool} {A A' : Option Addr} {s : List UInt8} (h1 : Qu.Blk wk g1 25 (Lf.LeafC e n f l A m c)) (h5 : Qu.Blk wk g5 25 (Lf.LeafC e n f l A' m' c')) (h3 : Dk.Sec wk g3 s) (hb : Below wk.heap.size wk u) :
    u.cell? ⟨g1, 0, none⟩ = some (.int .u32 (e : Int)) ∧ u.cell? ⟨g1, 1, none⟩ = some (.int .u32 (n : Int)) ∧ u.cell? ⟨g1, 2, none⟩ = some (.bool f) ∧ u.cell? ⟨g1, 3, none⟩ = some (.bool l) ∧ u.cell? ⟨g1, 4, none⟩ = some (.slice A m c) ∧
    u.cell? ⟨g5, 0, none⟩ = some (.int .u32 (e : Int)) ∧ u.cell? ⟨g5, 1, none⟩ = some (.int .u32 (n : Int)) ∧ u.cell? ⟨g5, 2, none⟩ = some (.bool f) ∧ u.cell? ⟨g5, 3, none⟩ = some (.bool l) ∧ u.cell? ⟨g5, 4, none⟩ = some (.slice A' m' c') ∧ u.rangeAt g3 0 (By.cellsB s) ∧ Below wk.heap.size wk u := by
  obtain ⟨a0, a1, a2, a3, a4⟩ := Lf.box_cells (h1.below hb)
  obtain ⟨b0, b1, b2, b3, b4⟩ := Lf.box_cells (h5.below hb)
  exact ⟨a0, a1, a2, a3, a4, b0, b1, b2, b3, b4, (Lf.Sec.below h3 hb).range, hb⟩

set_option maxHeartbeats 4000000 in
theorem walk (w : World) (e n m c : Nat) (f l : Bool) (A : Option Addr) (d : List UInt8) (hb : By.Bys w w.heap.size A m d) (hA : A = none → m = 0 ∧ c = 0) (hc : m ≤ c) (he : e < 2 ^ 32) (hn : n < 2 ^ 32) (hm : m ≤ 9223372036854775807) :
    Calls Try.prog 5 #[.agg #[.int .u32 (e : Int), .int .u32 (n : Int), .bool f, .bool l, .slice A m c]] w fun e w' => e = .returned (.bool true) ∧ Below w.heap.size w w' := by
  have hb0 : Below w.heap.size w (w.alloc (.cells (Lf.LeafC e n f l A m c) 25)) := (Below.refl _ _).alloc (Nat.le_refl _) _
  have HN := Lib.hid (Lf.near_any (w.alloc (.cells (Lf.LeafC e n f l A m c) 25)) e n m c f l A d ((hb.below hb0 (Nat.le_refl _)).size) hA hc he hn hm)
  have HB0 := Lib.hid hb0
  obtain ⟨L, hL⟩ : ∃ L, Lf.nearL ⟨e, n, f, l, d⟩ = L := ⟨_, rfl⟩
  have HR := Lib.hid (show Lf.rightB L = true ∧ L.epoch < 2 ^ 32 ∧ L.number < 2 ^ 32 by
    rw [← hL]
    exact ⟨Lf.near_right _, by show max e 1 < 2 ^ 32; omega, hn⟩)
  have HL := Lib.hid hL
  clear hb0 hb hA hc hm hL he hn
  go_enter Try.func5, Try.ntmps5
  go_wp2_with fail
  refine HN.out.mono ?_
  rintro en w1 hN1
  unfold Lf.Neared at hN1
  rw [HL.out] at hN1
  obtain ⟨A1, c1, rfl, hY1, hZ1, hc1, hd1, k1⟩ := hN1
  have hk1 : Qu.Blk w1 w.heap.size 25 (Lf.LeafC e n f l A m c) := (Qu.Blk.new w _ _).below k1
  have h5 : Lf.Leaf5 w1 w.heap.size := ⟨_, hk1, rfl⟩
  have HB1 := Lib.hid (show Below w.heap.size w w1 ∧ By.Bys w1 w1.heap.size A1 L.data.length L.data ∧ w.heap.size < w1.heap.size ∧ (∀ a, A1 = some a → w.heap.size < a.block) from ⟨HB0.out.trans (k1.mono (by simp)), hY1, hk1.lt, fun a ha => by have := hd1 a ha; simp at this; omega⟩)
  clear hY1 hZ1 hc1 hd1 k1 hk1 HN
  go_wp2_with (first
    | ((with_reducible refine Lf.store_leaf (w := w1) (op := ⟨none, _, _, _, _, _⟩) ?_ (.tmp 1) (.tmp 8) ?_ _ ?_ (Lf.LeafC L.epoch L.number L.first L.last A1 L.data.length c1) ?_ h5 ?_ (Lf.LeafC_one _ _ _ _ _ _ _) ?_); (next => rfl); (next => rfl); (next => rfl); (next => rfl); (next => rfl); intro w2 hK2 hG2)
    | ((with_reducible refine Lf.load_leaf (w := w2) (op := ⟨some 10, _, _, _, _, _⟩) ?_ (.tmp 1) ?_ _ ?_ _ hK2 ?_ ?_); (next => rfl); (next => rfl); (next => rfl); (next => rfl)))
  have HY2 : Hid (By.Bys w2 w2.heap.size A1 L.data.length L.data) := Lib.hid ((HB1.out.2.1.only (Mv.Only.ofGrown (S := Mv.one w.heap.size) hG2 fun k hk => by injection hk with hk; exact hk.symm) (fun a ha _ e => by have := HB1.out.2.2.2 a ha; have e' : a.block = w.heap.size := e; omega)).size)
  have HB2 := Lib.hid (show Below w.heap.size w w2 ∧ Qu.Blk w2 w.heap.size 25 (Lf.LeafC L.epoch L.number L.first L.last A1 L.data.length c1) from ⟨HB1.out.1.grown hG2 HB1.out.1.size (fun k hk => by injection hk with hk; omega), hK2⟩)
  clear hG2 hK2 HB1 h5
  refine (Lf.lay_right w2 L.epoch L.number L.data.length c1 L.first L.last A1 L.data HY2.out HR.out.2.1 HR.out.2.2 HR.out.1).mono ?_
  rintro en w3 ⟨rfl, k3⟩
  have eL : (⟨L.epoch, L.number, L.first, L.last, L.data⟩ : Lf.Leaf) = L := rfl
  rw [eL]
  obtain ⟨S, hS⟩ : ∃ S, Lf.layB L = S := ⟨_, rfl⟩
  have HS : Hid (Lf.takesB S = true ∧ Lf.readB S = L ∧ Lf.markN S = L.epoch) := Lib.hid (by
    rw [← hS]
    have h46 := ((Lf.right_iff L).1 HR.out.1).2.2.1
    exact ⟨Lf.takes_lay L HR.out.1 HR.out.2.1 HR.out.2.2, Lf.read_lay L h46 HR.out.2.1 HR.out.2.2, Lf.mark_lay L h46 HR.out.2.1⟩)
  have hSl : S.length = 64 := by rw [← hS]; exact Lf.layB_len _
  rw [hS]
  have HB3 := Lib.hid (show Below w.heap.size w w3 ∧ Qu.Blk w3 w.heap.size 25 (Lf.LeafC L.epoch L.number L.first L.last A1 L.data.length c1) ∧ By.Bys w3 w3.heap.size A1 L.data.length L.data from ⟨HB2.out.1.trans (k3.mono HB2.out.1.size), HB2.out.2.below k3, (HY2.out.below k3 (Nat.le_refl _)).size⟩)
  clear k3 eL hS HB2 HY2
  go_wp2_with (first
    | (with_reducible refine Dk.new_sec (w := w3) (op := ⟨some 3, _, _, _, _, _⟩) rfl rfl ?_; intro w4 hS4 hB4 hZ4)
    | ((with_reducible refine Dk.store_sec (w := w4) (op := ⟨none, _, _, _, _, _⟩) ?_ (.tmp 3) (.tmp 12) ?_ _ ?_ S ?_ _ hS4 hSl ?_); (next => rfl); (next => rfl); (next => rfl); (next => rfl); intro w5 hS5 hG5)
    | ((with_reducible refine Dk.load_sec (w := w5) (op := ⟨some 15, _, _, _, _, _⟩) ?_ (.tmp 3) ?_ _ ?_ _ hS5 ?_); (next => rfl); (next => rfl); (next => rfl)))
  obtain ⟨g3, hg3⟩ : ∃ g3, w3.heap.size = g3 := ⟨_, rfl⟩
  have h4b := HB3.out.1.trans (hB4.mono HB3.out.1.size)
  have HB5 := Lib.hid (show Below w.heap.size w w5 ∧ Qu.Blk w5 w.heap.size 25 (Lf.LeafC L.epoch L.number L.first L.last A1 L.data.length c1) ∧ By.Bys w5 w5.heap.size A1 L.data.length L.data ∧ Dk.Sec w5 g3 S from by
    refine ⟨h4b.grown hG5 h4b.size (fun k hk => by injection hk with hk; have := HB3.out.1.size; omega), (HB3.out.2.1.below hB4).grown hG5 (fun e => by have := HB3.out.2.1.lt; injection e with e; omega), ?_, by rw [← hg3]; exact hS5⟩
    exact ((HB3.out.2.2.below hB4 (Nat.le_refl _)).only (Mv.Only.ofGrown (S := Mv.one w3.heap.size) hG5 fun k hk => by injection hk with hk; exact hk.symm) (fun a ha hl e => by have e' : a.block = w3.heap.size := e; omega)).size)
  rw [hg3]
  clear hS4 hB4 hZ4 hS5 hG5 h4b hg3 HB3
  refine (Lf.take_any w5 S hSl).mono ?_
  rintro en w6 ht
  unfold Lf.Took at ht
  rw [HS.out.1, HS.out.2.1] at ht
  obtain ⟨A6, c6, rfl, hO, k6⟩ := ht
  have HB6 := Lib.hid (show Below w.heap.size w w6 ∧ Qu.Blk w6 w.heap.size 25 (Lf.LeafC L.epoch L.number L.first L.last A1 L.data.length c1) ∧ By.Bys w6 w6.heap.size A1 L.data.length L.data ∧ Dk.Sec w6 g3 S ∧ By.Bys w6 w6.heap.size A6 L.data.length L.data from
    ⟨HB5.out.1.trans (k6.mono HB5.out.1.size), HB5.out.2.1.below k6, (HB5.out.2.2.1.below k6 (Nat.le_refl _)).size, Lf.Sec.below HB5.out.2.2.2 k6, By.Bys.own hO⟩)
  clear hO k6 HB5
  go_upto_region 4 with (first
    | (with_reducible refine Lf.new_leaf (w := w6) (op := ⟨some 5, _, _, _, _, _⟩) rfl rfl ?_; intro w7 hL7 hB7 hZ7)
    | ((with_reducible refine Lf.store_leaf (w := w7) (op := ⟨none, _, _, _, _, _⟩) ?_ (.tmp 5) (.tmp 17) ?_ _ ?_ (Lf.LeafC L.epoch L.number L.first L.last A6 L.data.length c6) ?_ hL7 ?_ (Lf.LeafC_one _ _ _ _ _ _ _) ?_); (next => rfl); (next => rfl); (next => rfl); (next => rfl); (next => rfl); intro w8 hK8 hG8))
  obtain ⟨g5, hg5⟩ : ∃ g5, w6.heap.size = g5 := ⟨_, rfl⟩
  have h7b := HB6.out.1.trans (hB7.mono HB6.out.1.size)
  have far : ∀ {A : Option Addr}, By.Bys w6 w6.heap.size A L.data.length L.data → By.Bys w8 w8.heap.size A L.data.length L.data := fun h =>
    ((h.below hB7 (Nat.le_refl _)).only (Mv.Only.ofGrown (S := Mv.one w6.heap.size) hG8 fun k hk => by injection hk with hk; exact hk.symm) (fun a ha hl e => by have e' : a.block = w6.heap.size := e; omega)).size
  have HB8 := Lib.hid (show Below w.heap.size w w8 ∧ Qu.Blk w8 w.heap.size 25 (Lf.LeafC L.epoch L.number L.first L.last A1 L.data.length c1) ∧ By.Bys w8 w8.heap.size A1 L.data.length L.data ∧ Dk.Sec w8 g3 S ∧ By.Bys w8 w8.heap.size A6 L.data.length L.data ∧ Qu.Blk w8 g5 25 (Lf.LeafC L.epoch L.number L.first L.last A6 L.data.length c6) from
    ⟨h7b.grown hG8 h7b.size (fun k hk => by injection hk with hk; have := HB6.out.1.size; omega), (HB6.out.2.1.below hB7).grown hG8 (fun e => by have := HB6.out.2.1.lt; injection e with e; omega), far HB6.out.2.2.1, Lf.Sec.far (Lf.Sec.below HB6.out.2.2.2.1 hB7) hG8 (by have := HB6.out.2.2.2.1.2.lt; omega), far HB6.out.2.2.2.2, by rw [← hg5]; exact hK8⟩)
  rw [hg5]
  clear hL7 hB7 hZ7 hK8 hG8 h7b hg5 HB6 far
  have MA : Hid (∀ W, Below w8.heap.size w8 W → Calls Try.prog 9 #[] W fun e w' => e = .returned (.bool true) ∧ Below w8.heap.size w8 w') := Lib.hid (fun W hW => (Lf.awake_any W).mono fun e w' ⟨he, hb⟩ => ⟨he, hW.trans (hb.mono hW.size)⟩)
  have ML : Hid (∀ W, Below w8.heap.size w8 W → Calls Try.prog 18 #[.agg #[.int .u32 (L.epoch : Int), .int .u32 (L.number : Int), .bool L.first, .bool L.last, .slice A1 L.data.length c1], .agg #[.int .u32 (L.epoch : Int), .int .u32 (L.number : Int), .bool L.first, .bool L.last, .slice A6 L.data.length c6]] W fun e w' => e = .returned (.bool true) ∧ Below w8.heap.size w8 w') := Lib.hid (fun W hW =>
    (Lf.same_leaf W L.epoch L.number L.data.length c1 L.data.length c6 L.first L.last A1 A6 L.data (HB8.out.2.2.1.below hW (Nat.le_refl _)).size (HB8.out.2.2.2.2.1.below hW (Nat.le_refl _)).size).mono fun e w' ⟨he, hb⟩ => ⟨he, hW.trans (hb.mono hW.size)⟩)
  have MM : Hid (∀ W, Below w8.heap.size w8 W → Calls Try.prog 19 #[.agg (By.cellsB S).toArray] W fun e w' => e = .returned (.int .u32 (L.epoch : Int)) ∧ Below w8.heap.size w8 w') := Lib.hid (fun W hW =>
    (Lf.mark_any W S hSl).mono fun e w' ⟨he, hb⟩ => ⟨by rw [he, HS.out.2.2], hW.trans (hb.mono hW.size)⟩)
  have hu : Try.prog.underlying 29 = some (.array 64 5) := Try.underlying29
  have hcl : (By.cellsB S).length = 64 := by rw [By.cellsB_length, hSl]
  have hii : (Try.prog.info? 29).map (·.size) = some (By.cellsB S).length := by rw [Dk.size_sector, hcl]
  obtain ⟨ee, hee⟩ : ∃ x, L.epoch = x := ⟨_, rfl⟩
  obtain ⟨nn, hnn⟩ : ∃ x, L.number = x := ⟨_, rfl⟩
  obtain ⟨ff, hff⟩ : ∃ x, L.first = x := ⟨_, rfl⟩
  obtain ⟨ll, hll⟩ : ∃ x, L.last = x := ⟨_, rfl⟩
  obtain ⟨mm, hmm⟩ : ∃ x, L.data.length = x := ⟨_, rfl⟩
  rw [hee, hnn, hff, hll, hmm] at ML HB8 ⊢
  rw [hee] at MM
  clear hee hnn hff hll hmm HS HR HL hcl
  go_region_held3 (fun u => u.cell? ⟨w.heap.size, 0, none⟩ = some (.int .u32 (ee : Int)) ∧ u.cell? ⟨w.heap.size, 1, none⟩ = some (.int .u32 (nn : Int)) ∧ u.cell? ⟨w.heap.size, 2, none⟩ = some (.bool ff) ∧ u.cell? ⟨w.heap.size, 3, none⟩ = some (.bool ll) ∧ u.cell? ⟨w.heap.size, 4, none⟩ = some (.slice A1 mm c1) ∧
    u.cell? ⟨g5, 0, none⟩ = some (.int .u32 (ee : Int)) ∧ u.cell? ⟨g5, 1, none⟩ = some (.int .u32 (nn : Int)) ∧ u.cell? ⟨g5, 2, none⟩ = some (.bool ff) ∧ u.cell? ⟨g5, 3, none⟩ = some (.bool ll) ∧ u.cell? ⟨g5, 4, none⟩ = some (.slice A6 mm c6) ∧ u.rangeAt g3 0 (By.cellsB S) ∧ Below w8.heap.size w8 u)
    (first
      | exact keep_back HB8.out.2.1 HB8.out.2.2.2.2.2 HB8.out.2.2.2.1 (Below.refl _ _).drew
      | (go_split_ands; exact keep_back HB8.out.2.1 HB8.out.2.2.2.2.2 HB8.out.2.2.2.1 (by assumption)))
    (first
      | (go_at_call 9; ((with_reducible refine (MA.out _ (by go_split_ands; assumption)).mono ?_); rintro e wz ⟨rfl, hz⟩))
      | (go_at_call 18; ((with_reducible refine (ML.out _ (by go_split_ands; assumption)).mono ?_); rintro e wz ⟨rfl, hz⟩))
      | (go_at_call 19; ((with_reducible refine (MM.out _ (by go_split_ands; assumption)).mono ?_); rintro e wz ⟨rfl, hz⟩)))
  go_wp2
  go_ret
  exact ⟨rfl, HB8.out.1.trans (hz.mono HB8.out.1.size)⟩

set_option maxRecDepth 100000 in
theorem lifted (os : Os) (started : os.Started) (H : Type) (enc : TypeId × Value → H) :
    ReturnsInHanded {} Try.checked os 5 .any (Rows.leafBackSpec.pre6 enc Try.prog Try.f5 Rows.leafBackRow.domain false) (Rows.leafBackSpec.post enc Try.prog Try.f5 false true false false) := by
  refine returnsInHanded_of_change (C := Try.checked) own started (by kernel_rfl) Try.func5
    (ChangeSpec.witness6 (enc := enc) (C := Try.checked) false ⟨#[], #[.agg #[.int .u32 0, .int .u32 0, .bool false, .bool false, .slice none 0 0]], []⟩ 8 (by kernel_rfl) (by kernel_rfl) (by kernel_rfl) (by kernel_rfl)) ?_
  intro W base args ds gs before hval0 hW hcnd _
  have hval : ∀ (j : Nat) t v, Try.f5.params[j]? = some t → args[j]? = some v → Value.okWide Try.prog W .any base t v := hval0
  have hW' := hW
  obtain ⟨p, q, hA0, hV, rfl, hfz, hnd⟩ := hW
  have hA : DataW.TrodAll enc Try.prog W 0 (fun _ => true) true Try.f5.params.toList args.toList ds p := hA0
  rw [Try.params5] at hA hval
  obtain ⟨v0, vs0, d0, ds0, p0, q0, hargs, rfl, rfl, h0, r0⟩ := trodAll_cons hA
  obtain ⟨rfl, rfl, rfl⟩ := trodAll_nil r0
  obtain rfl : args = #[v0] := by cases args; simp_all
  obtain ⟨e0, n0, f0, l0, A0, m0, c0, d0, rfl, p0, q0, x0, z0, u0, y0⟩ := Lf.open_leaf (hval 0 25 v0 rfl rfl) h0
  refine (walk W e0 n0 m0 c0 f0 l0 A0 d0 x0 z0 u0 p0 q0 y0).mono fun e W' ⟨he, hb⟩ => ?_
  subst he
  exact ⟨_, rfl, Hk.closeLaw (tb := 4) (by kernel_rfl) (by kernel_rfl) rfl rfl rfl Try.underlying4 hW' hb⟩

theorem over : Rows.leafBackRow.holds Try.pinned (OpenSpec.ofChange Rows.leafBackSpec) :=
  OpenClaim.holds_of_wide 5 Try.f5 rfl rfl rfl rfl rfl rfl rfl ⟨rfl, rfl, rfl, rfl, rfl⟩ rfl rfl rfl rfl rfl (by kernel_rfl) Try.func5 (by kernel_rfl)
    (of_decide_eq_true (by kernel_rfl)) (by unfold Func.isWrapper; first | (rw [if_pos (by decide +kernel)]; kernel_rfl) | (rw [if_neg (by decide +kernel)]; exact ⟨rfl, rfl⟩))
    (fun os started H enc _ => lifted os started H enc)

/-- The statement. -/
theorem proved : Rows.LeafBackSaid :=
  over
end Go.Proofs.Ytbicdmhmpmdoeaa.leafBack
