/- P7.1: any leaf's bytes, or why not, and its data stays; for every leaf of at most 100 bytes, raw or near to a right one. No conditions. -/
import Derived.Test.YtbicdmhmpmdoeaaLfO
import Derived.Test.YtbicdmhmpmdoeaaKitC
namespace Go.Proofs.Ytbicdmhmpmdoeaa.leafLays
open Go.ChangeShapes Go.WideShapes Go.ChangeAt Go.RowKit
set_option linter.unusedVariables false

theorem own : ownKnob Try.prog.godebug = none := by kernel_rfl

theorem long (w : World) (e n m c : Nat) (f l : Bool) (A : Option Addr) (raw : Bool) (hm : m ≤ 9223372036854775807) (h : 100 < m) :
    Calls Try.prog 3 #[.agg #[.int .u32 (e : Int), .int .u32 (n : Int), .bool f, .bool l, .slice A m c], .bool raw] w fun e w' => e = .returned (.bool true) ∧ Below w.heap.size w w' := by
  have h1 : (100 : Int) < (m : Int) := by omega
  have HB := Lib.hid (show Below w.heap.size w (w.alloc (.cells (Lf.LeafC e n f l A m c) 25)) from (Below.refl _ _).alloc (Nat.le_refl _) _)
  clear h hm
  go_enter Try.func3, Try.ntmps3
  go_wp2_with fail
  refine (Lf.awake_any _).mono ?_
  rintro en w1 ⟨rfl, k1⟩
  have HB1 := Lib.hid (HB.out.trans (k1.mono (by simp)))
  clear k1
  go_wp2
  go_ret
  exact ⟨rfl, HB1.out⟩

/-- What stands while both are asked: the leaf's box, its copy's, the bytes of both. -/
structure St (w u : World) (g5 go e n m c : Nat) (f l : Bool) (A : Option Addr) (d : List UInt8) : Prop where
  below : Below w.heap.size w u
  box : Qu.Blk u w.heap.size 25 (Lf.LeafC e n f l A m c)
  copy : Qu.Blk u g5 25 (Lf.LeafC e n f l (some ⟨go, 0, none⟩) m (m + 3))
  bys : By.Bys u u.heap.size A m d
  own : Hy.Filled u go m (By.at_ d) 71
  lt : go < u.heap.size

theorem St.later {w u u' : World} {g5 go e n m c : Nat} {f l : Bool} {A : Option Addr} {d : List UInt8} (h : St w u g5 go e n m c f l A d) (k : Below u.heap.size u u') : St w u' g5 go e n m c f l A d :=
  ⟨h.below.trans (k.mono h.below.size), h.box.below k, h.copy.below k, (h.bys.below k (Nat.le_refl _)).size, h.own.below k h.lt, Nat.lt_of_lt_of_le h.lt k.size⟩

set_option maxHeartbeats 8000000 in
theorem short (w : World) (e n m c : Nat) (f l : Bool) (A : Option Addr) (d : List UInt8) (hb : By.Bys w w.heap.size A m d) (hA : A = none → m = 0 ∧ c = 0) (hc : m ≤ c) (he : e < 2 ^ 32) (hn : n < 2 ^ 32) (hm : m ≤ 100) (raw : Bool) :
    Calls Try.prog 3 #[.agg #[.int .u32 (e : Int), .int .u32 (n : Int), .bool f, .bool l, .slice A m c], .bool raw] w fun e w' => e = .returned (.bool true) ∧ Below w.heap.size w w' := by
  have h1 : ¬ (100 : Int) < (m : Int) := by omega
  have hb0 : Below w.heap.size w (w.alloc (.cells (Lf.LeafC e n f l A m c) 25)) := (Below.refl _ _).alloc (Nat.le_refl _) _
  have HN := Lib.hid (Lf.near_any (w.alloc (.cells (Lf.LeafC e n f l A m c) 25)) e n m c f l A d ((hb.below hb0 (Nat.le_refl _)).size) hA hc he hn (by omega))
  have HB0 := Lib.hid (And.intro hb0 (And.intro (hb.below hb0 (Nat.le_refl _)).size (And.intro hA (And.intro hm (And.intro he hn)))))
  clear hb0 hb hA hc hm he hn
  go_enter Try.func3, Try.ntmps3
  cases raw
  case' true =>
    go_upto_region 5 with (fail)
    obtain ⟨wa, hwa⟩ : ∃ wa, wa = w.alloc (.cells (Lf.LeafC e n f l A m c) 25) := ⟨_, rfl⟩
    have HA := Lib.hid (show Below w.heap.size w wa ∧ Qu.Blk wa w.heap.size 25 (Lf.LeafC e n f l A m c) ∧ By.Bys wa wa.heap.size A m d ∧ (A = none → m = 0 ∧ c = 0) ∧ m ≤ 100 ∧ e < 2 ^ 32 ∧ n < 2 ^ 32 by
      rw [hwa]
      exact ⟨HB0.out.1, Qu.Blk.new _ _ _, HB0.out.2.1, HB0.out.2.2.1, HB0.out.2.2.2.1, HB0.out.2.2.2.2.1, HB0.out.2.2.2.2.2⟩)
    have hwa' : w.alloc (.cells #[.int .u32 (e : Int), .int .u32 (n : Int), .bool f, .bool l, .slice A m c] 25) = wa := hwa.symm
    rw [hwa']
    clear hwa hwa' HN HB0 h1
    generalize e = e1 at *
    generalize n = n1 at *
    generalize f = f1 at *
    generalize l = l1 at *
    generalize A = A1 at *
    generalize m = m1 at *
    generalize c = c1 at *
    generalize d = d1 at *
  case' false =>
    go_wp2_with fail
    refine HN.out.mono ?_
    rintro en w1 hN1
    unfold Lf.Neared at hN1
    obtain ⟨L, hL⟩ : ∃ L, Lf.nearL ⟨e, n, f, l, d⟩ = L := ⟨_, rfl⟩
    have hln : L.data.length ≤ 46 := by rw [← hL, Lf.nearL_len]; exact (Lf.nearN_in _ _).2
    have hle : L.epoch < 2 ^ 32 := by rw [← hL]; show max e 1 < 2 ^ 32; have := HB0.out.2.2.2.2.1; omega
    have hlu : L.number < 2 ^ 32 := by rw [← hL]; exact HB0.out.2.2.2.2.2
    rw [hL] at hN1
    clear hL
    obtain ⟨A1, c1, rfl, hY1, hZ1, hc1, hd1, k1⟩ := hN1
    have hk1 : Qu.Blk w1 w.heap.size 25 (Lf.LeafC e n f l A m c) := (Qu.Blk.new w _ _).below k1
    have h5 : Lf.Leaf5 w1 w.heap.size := ⟨_, hk1, rfl⟩
    obtain ⟨e1, hee⟩ : ∃ x, L.epoch = x := ⟨_, rfl⟩
    obtain ⟨n1, hnn⟩ : ∃ x, L.number = x := ⟨_, rfl⟩
    obtain ⟨f1, hff⟩ : ∃ x, L.first = x := ⟨_, rfl⟩
    obtain ⟨l1, hll⟩ : ∃ x, L.last = x := ⟨_, rfl⟩
    obtain ⟨m1, hmm⟩ : ∃ x, L.data.length = x := ⟨_, rfl⟩
    obtain ⟨d1, hdd⟩ : ∃ x, L.data = x := ⟨_, rfl⟩
    rw [hee, hnn, hff, hll, hmm]
    rw [hmm] at hY1 hZ1 hln
    rw [hee] at hle
    rw [hnn] at hlu
    rw [hdd] at hY1
    clear hee hnn hff hll hmm hdd
    have HB1 := Lib.hid (show Below w.heap.size w w1 ∧ By.Bys w1 w1.heap.size A1 m1 d1 ∧ w.heap.size < w1.heap.size ∧ (∀ a, A1 = some a → w.heap.size < a.block) ∧ (A1 = none → m1 = 0 ∧ c1 = 0) ∧ m1 ≤ 100 ∧ e1 < 2 ^ 32 ∧ n1 < 2 ^ 32 from ⟨HB0.out.1.trans (k1.mono (by simp)), hY1, hk1.lt, fun a ha => by have := hd1 a ha; simp at this; omega, hZ1, by omega, hle, hlu⟩)
    clear hY1 hZ1 hc1 hd1 k1 hk1 HN HB0 hln hle hlu h1
    go_upto_region 5 with (first
      | ((with_reducible refine Lf.store_leaf (w := w1) (op := ⟨none, _, _, _, _, _⟩) ?_ (.tmp 2) (.tmp 18) ?_ _ ?_ (Lf.LeafC e1 n1 f1 l1 A1 m1 c1) ?_ h5 ?_ (Lf.LeafC_one _ _ _ _ _ _ _) ?_); (next => rfl); (next => rfl); (next => rfl); (next => rfl); (next => rfl); intro wa hK2 hG2))
    have HA := Lib.hid (show Below w.heap.size w wa ∧ Qu.Blk wa w.heap.size 25 (Lf.LeafC e1 n1 f1 l1 A1 m1 c1) ∧ By.Bys wa wa.heap.size A1 m1 d1 ∧ (A1 = none → m1 = 0 ∧ c1 = 0) ∧ m1 ≤ 100 ∧ e1 < 2 ^ 32 ∧ n1 < 2 ^ 32 from
      ⟨HB1.out.1.grown hG2 HB1.out.1.size (fun k hk => by injection hk with hk; omega), hK2, (HB1.out.2.1.only (Mv.Only.ofGrown (S := Mv.one w.heap.size) hG2 fun k hk => by injection hk with hk; exact hk.symm) (fun a ha _ e => by have := HB1.out.2.2.2.1 a ha; have e' : a.block = w.heap.size := e; omega)).size, HB1.out.2.2.2.2.1, HB1.out.2.2.2.2.2.1, HB1.out.2.2.2.2.2.2.1, HB1.out.2.2.2.2.2.2.2⟩)
    clear hK2 hG2 h5 HB1
  all_goals
    have hka := HA.out.2.1
    go_wp2_with (first
      | ((with_reducible refine Lf.load_leaf (w := wa) (op := ⟨some 19, _, _, _, _, _⟩) ?_ (.tmp 2) ?_ _ ?_ _ hka ?_ ?_); (next => rfl); (next => rfl); (next => rfl); (next => rfl))
      | (with_reducible refine Lf.new_leaf (w := wa) (op := ⟨some 5, _, _, _, _, _⟩) rfl rfl ?_; intro wb hLb hBb hZb)
      | ((with_reducible refine Lf.store_leaf (w := wb) (op := ⟨none, _, _, _, _, _⟩) ?_ (.tmp 5) (.tmp 19) ?_ _ ?_ (Lf.LeafC e1 n1 f1 l1 A1 m1 c1) ?_ hLb ?_ (Lf.LeafC_one _ _ _ _ _ _ _) ?_); (next => rfl); (next => rfl); (next => rfl); (next => rfl); (next => rfl); intro wc hKc hGc; obtain ⟨c0', c1', c2', c3', c4'⟩ := Lf.box_cells ((hka.below hBb).grown hGc (fun e => by have := hka.lt; injection e with e; omega))))
    obtain ⟨g5, hg5⟩ : ∃ g5, wa.heap.size = g5 := ⟨_, rfl⟩
    have hwl := hka.lt
    have kc : Below wa.heap.size wa wc := hBb.grown hGc hBb.size (fun k hk => by injection hk with hk; omega)
    have HC := Lib.hid (show Below w.heap.size w wc ∧ Qu.Blk wc w.heap.size 25 (Lf.LeafC e1 n1 f1 l1 A1 m1 c1) ∧ Qu.Blk wc g5 25 (Lf.LeafC e1 n1 f1 l1 A1 m1 c1) ∧ By.Bys wc g5 A1 m1 d1 ∧ w.heap.size < g5 from
      ⟨HA.out.1.trans (kc.mono HA.out.1.size), hka.below kc, by rw [← hg5]; exact hKc, by rw [← hg5]; exact HA.out.2.2.1.below kc (Nat.le_refl _), by omega⟩)
    have HP := Lib.hid HA.out.2.2.2
    rw [hg5]
    clear hLb hBb hZb hKc hGc c0' c1' c2' c3' c4' hg5 kc hka HA hwl
    refine (Hy.own_byte A1 m1 c1 (By.at_ d1) 71 wc (Hy.Ints.of HC.out.2.2.2.1.size) HP.out.1 (by have := HP.out.2.1; omega)).mono ?_
    rintro en wd ⟨go, rfl, hgo, hF, kd⟩
    obtain ⟨x0, x1, x2, x3, x4⟩ := Lf.box_cells (HC.out.2.1.below kd)
    obtain ⟨y0, y1, y2, y3, y4⟩ := Lf.box_cells (HC.out.2.2.1.below kd)
    have y4f := (HC.out.2.2.1.below kd).frozen 4
    have HD := Lib.hid (And.intro hgo (And.intro hF kd))
    have hne : w.heap.size ≠ g5 := by have := HC.out.2.2.2.2; omega
    clear hgo hF kd
    go_upto_region 7 with (fail)
    obtain ⟨we, hwe⟩ : ∃ we, we = wd.setCell ⟨g5, 4, none⟩ (.slice (some ⟨go, 0, none⟩) m1 (m1 + 3)) := ⟨_, rfl⟩
    have HE : Hid (St w we g5 go e1 n1 m1 c1 f1 l1 A1 d1) := Lib.hid (by
      obtain ⟨hgo, hF, kd⟩ := HD.out
      have ht := Qu.turned_at wd g5 4 (.slice (some ⟨go, 0, none⟩) m1 (m1 + 3))
      have h5 := (HC.out.2.2.1.below kd)
      have hl5 := HC.out.2.2.1.lt
      have hgl : go < wd.heap.size := World.block_lt_of_cell? wd _ (hF 0 (by omega))
      have hbw := HC.out.1.trans (kd.mono HC.out.1.size)
      rw [hwe]
      refine ⟨hbw.grown ht hbw.size (fun k hk => by injection hk with hk; have := HC.out.2.2.2.2; omega), (HC.out.2.1.below kd).grown ht (fun e => hne (by injection e)), h5.put 4 _, ?_, fun k hk => ht.cell (hF k hk) (fun e => by injection e with e; have e' : go = g5 := e; omega), ?_⟩
      · exact ((HC.out.2.2.2.1.below kd (by have := HC.out.2.2.1.lt; omega)).only (Mv.Only.ofGrown (S := Mv.one g5) ht fun k hk => by injection hk with hk; exact hk.symm) (fun a ha hl h => by have h' : a.block = g5 := h; omega)).size
      · have := ht.size; omega)
    rw [← hwe]
    clear x0 x1 x2 x3 x4 y0 y1 y2 y3 y4 y4f hne hwe HC HD
    have hk5 := HE.out.copy
    go_wp2_with (first
      | ((with_reducible refine Lf.load_leaf (w := we) (op := ⟨some 25, _, _, _, _, _⟩) ?_ (.tmp 5) ?_ _ ?_ _ hk5 ?_ ?_); (next => rfl); (next => rfl); (next => rfl); (next => rfl)))
    clear hk5
    have hdl : d1.length = m1 := HE.out.bys.len
    refine (Lf.lay_any we e1 n1 m1 (m1 + 3) f1 l1 (some ⟨go, 0, none⟩) d1 (HE.out.own.ints.bys hdl) HP.out.2.2.1 HP.out.2.2.2).mono ?_
    rintro en wf ⟨rfl, kf⟩
    have HF := Lib.hid (HE.out.later kf)
    have hV := Lf.layV_len ⟨e1, n1, f1, l1, d1⟩
    obtain ⟨V, hVe⟩ : ∃ V, Lf.layV ⟨e1, n1, f1, l1, d1⟩ = V := ⟨_, rfl⟩
    obtain ⟨E, hEe⟩ : ∃ E, Lf.layE ⟨e1, n1, f1, l1, d1⟩ = E := ⟨_, rfl⟩
    rw [hVe] at hV ⊢
    rw [hEe]
    have HVE := Lib.hid (And.intro hVe hEe)
    clear kf HE hdl hVe hEe
    go_upto_region 8 with (first
      | (with_reducible refine Dk.new_sec (w := wf) (op := ⟨some 6, _, _, _, _, _⟩) rfl rfl ?_; intro wg hSg hBg hZg)
      | ((with_reducible refine Dk.store_sec (w := wg) (op := ⟨none, _, _, _, _, _⟩) ?_ (.tmp 6) (.tmp 27) ?_ _ ?_ V ?_ _ hSg hV ?_); (next => rfl); (next => rfl); (next => rfl); (next => rfl); intro wh hSh hGh))
    obtain ⟨g6, hg6⟩ : ∃ g6, wf.heap.size = g6 := ⟨_, rfl⟩
    have kh : Below wf.heap.size wf wh := hBg.grown hGh hBg.size (fun k hk => by injection hk with hk; omega)
    rw [hg6] at hSh ⊢
    have HH := Lib.hid (And.intro (HF.out.later kh) hSh)
    clear hSg hBg hZg hSh hGh kh hg6 HF
    have hkb := HH.out.1.box
    go_wp2_with (first
      | ((with_reducible refine Lf.load_leaf (w := wh) (op := ⟨some 30, _, _, _, _, _⟩) ?_ (.tmp 2) ?_ _ ?_ _ hkb ?_ ?_); (next => rfl); (next => rfl); (next => rfl); (next => rfl)))
    clear hkb
    refine (Lf.rlayleaf_any wh e1 n1 m1 c1 f1 l1 A1 d1 HH.out.1.bys HP.out.2.2.1 HP.out.2.2.2).mono ?_
    rintro en wi ⟨rfl, ki⟩
    rw [HVE.out.1, HVE.out.2]
    have HI := Lib.hid (And.intro (HH.out.1.later ki) (Lf.Sec.below HH.out.2 ki))
    clear ki HH HVE
    go_upto_region 9 with (first
      | (with_reducible refine Dk.new_sec (w := wi) (op := ⟨some 8, _, _, _, _, _⟩) rfl rfl ?_; intro wj hSj hBj hZj)
      | ((with_reducible refine Dk.store_sec (w := wj) (op := ⟨none, _, _, _, _, _⟩) ?_ (.tmp 8) (.tmp 32) ?_ _ ?_ V ?_ _ hSj hV ?_); (next => rfl); (next => rfl); (next => rfl); (next => rfl); intro wk hSk hGk))
    obtain ⟨g8, hg8⟩ : ∃ g8, wi.heap.size = g8 := ⟨_, rfl⟩
    have kk : Below wi.heap.size wi wk := hBj.grown hGk hBj.size (fun k hk => by injection hk with hk; omega)
    rw [hg8] at hSk ⊢
    have HK := Lib.hid (And.intro (HI.out.1.later kk) (And.intro (Lf.Sec.below HI.out.2 kk) hSk))
    clear hSj hBj hZj hSk hGk kk hg8 HI
    go_wp2_with fail
    refine (Lf.awake_any wk).mono ?_
    rintro en wl ⟨rfl, kl⟩
    have HL := Lib.hid (HK.out.1.later kl)
    have hS6 := Lf.Sec.below HK.out.2.1 kl
    have hS8 := Lf.Sec.below HK.out.2.2 kl
    obtain ⟨x0, x1, x2, x3, x4⟩ := Lf.box_cells HL.out.box
    obtain ⟨y0, y1, y2, y3, y4⟩ := Lf.box_cells HL.out.copy
    clear kl HK
    have hvv : (V == V) = true := by simp
    go_wp2_with (first
      | ((with_reducible refine Lf.load_sec_w (w := wl) (op := ⟨some 36, _, _, _, _, _⟩) ?_ (.tmp 6) ?_ _ ?_ _ hS6 ?_); (next => rfl); (next => rfl); (next => rfl))
      | ((with_reducible refine Lf.load_sec_w (w := wl) (op := ⟨some 37, _, _, _, _, _⟩) ?_ (.tmp 8) ?_ _ ?_ _ hS8 ?_); (next => rfl); (next => rfl); (next => rfl))
      | ((with_reducible refine Lf.eql_sec_w (op := ⟨some 38, _, _, _, _, _⟩) ?_ (.tmp 36) (.tmp 37) ?_ _ _ ?_ ?_ hV hV true hvv ?_); (next => rfl); (next => rfl); (next => rfl); (next => rfl)))
    refine (Hy.kept_byte A1 go m1 c1 (By.at_ d1) 71 wl HL.out.own (Hy.Ints.of HL.out.bys) (by have := HP.out.2.1; omega)).mono ?_
    rintro en wm ⟨rfl, hD⟩
    have HM := Lib.hid (HL.out.below.trans ((hD.below _).mono (Nat.le_refl _)))
    clear hD hS6 hS8 x0 x1 x2 x3 x4 y0 y1 y2 y3 y4 hvv
    go_wp2
    go_ret
    exact ⟨rfl, HM.out⟩

theorem walk (w : World) (e n m c : Nat) (f l : Bool) (A : Option Addr) (d : List UInt8) (hb : By.Bys w w.heap.size A m d) (hA : A = none → m = 0 ∧ c = 0) (hc : m ≤ c) (he : e < 2 ^ 32) (hn : n < 2 ^ 32) (hm : m ≤ 9223372036854775807) (raw : Bool) :
    Calls Try.prog 3 #[.agg #[.int .u32 (e : Int), .int .u32 (n : Int), .bool f, .bool l, .slice A m c], .bool raw] w fun e w' => e = .returned (.bool true) ∧ Below w.heap.size w w' := by
  by_cases h : 100 < m
  · exact long w e n m c f l A raw hm h
  · exact short w e n m c f l A d hb hA hc he hn (by omega) raw

set_option maxRecDepth 100000 in
theorem lifted (os : Os) (started : os.Started) (H : Type) (enc : TypeId × Value → H) :
    ReturnsInHanded {} Try.checked os 3 .any (Rows.leafLaysSpec.pre6 enc Try.prog Try.f3 Rows.leafLaysRow.domain false) (Rows.leafLaysSpec.post enc Try.prog Try.f3 false true false false) := by
  refine returnsInHanded_of_change (C := Try.checked) own started (by kernel_rfl) Try.func3
    (ChangeSpec.witness6 (enc := enc) (C := Try.checked) false ⟨#[], #[.agg #[.int .u32 0, .int .u32 0, .bool false, .bool false, .slice none 0 0], .bool false], []⟩ 8 (by kernel_rfl) (by kernel_rfl) (by kernel_rfl) (by kernel_rfl)) ?_
  intro W base args ds gs before hval0 hW hcnd _
  have hval : ∀ (j : Nat) t v, Try.f3.params[j]? = some t → args[j]? = some v → Value.okWide Try.prog W .any base t v := hval0
  have hW' := hW
  obtain ⟨p, q, hA0, hV, rfl, hfz, hnd⟩ := hW
  have hA : DataW.TrodAll enc Try.prog W 0 (fun _ => true) true Try.f3.params.toList args.toList ds p := hA0
  rw [Try.params3] at hA hval
  obtain ⟨v0, vs0, d0, ds0, p0, q0, hargs, rfl, rfl, h0, r0⟩ := trodAll_cons hA
  obtain ⟨v1, vs1, d1, ds1, p1, q1, rfl, rfl, rfl, h1, r1⟩ := trodAll_cons r0
  obtain ⟨rfl, rfl, rfl⟩ := trodAll_nil r1
  obtain rfl : args = #[v0, v1] := by cases args; simp_all
  obtain ⟨e0, n0, f0, l0, A0, m0, c0, d0, rfl, p0, q0, x0, z0, u0, y0⟩ := Lf.open_leaf (hval 0 25 v0 rfl rfl) h0
  obtain ⟨a1, rfl, _, _⟩ := open_bool Try.underlying4 (hval 1 4 v1 rfl rfl) h1
  refine (walk W e0 n0 m0 c0 f0 l0 A0 d0 x0 z0 u0 p0 q0 y0 a1).mono fun e W' ⟨he, hb⟩ => ?_
  subst he
  exact ⟨_, rfl, Hk.closeLaw (tb := 4) (by kernel_rfl) (by kernel_rfl) rfl rfl rfl Try.underlying4 hW' hb⟩

theorem over : Rows.leafLaysRow.holds Try.pinned (OpenSpec.ofChange Rows.leafLaysSpec) :=
  OpenClaim.holds_of_wide 3 Try.f3 rfl rfl rfl rfl rfl rfl rfl ⟨rfl, rfl, rfl, rfl, rfl⟩ rfl rfl rfl rfl rfl (by kernel_rfl) Try.func3 (by kernel_rfl)
    (of_decide_eq_true (by kernel_rfl)) (by unfold Func.isWrapper; first | (rw [if_pos (by decide +kernel)]; kernel_rfl) | (rw [if_neg (by decide +kernel)]; exact ⟨rfl, rfl⟩))
    (fun os started H enc _ => lifted os started H enc)

/-- The statement. -/
theorem proved : Rows.LeafLaysSaid :=
  over
end Go.Proofs.Ytbicdmhmpmdoeaa.leafLays
