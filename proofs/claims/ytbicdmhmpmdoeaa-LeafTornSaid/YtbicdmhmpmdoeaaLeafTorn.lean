/- Chapter 7, What follows: a beginning of one leaf over the end of another of another epoch, or of noughts, is none, unless nothing of the one, or of the other, is lacking; for any two leaves near to raw ones. No conditions. -/
import Derived.Test.YtbicdmhmpmdoeaaLfO
import Derived.Test.YtbicdmhmpmdoeaaKitC
namespace Go.Proofs.Ytbicdmhmpmdoeaa.leafTorn
open Go.ChangeShapes Go.WideShapes Go.ChangeAt Go.RowKit
set_option linter.unusedVariables false

theorem own : ownKnob Try.prog.godebug = none := by kernel_rfl

/-- Both leaves are near: their boxes, their bytes. -/
structure Two (w u : World) (L R : Lf.Leaf) (A1 : Option Addr) (c1 : Nat) (A2 : Option Addr) (c2 : Nat) : Prop where
  below : Below w.heap.size w u
  one : Qu.Blk u w.heap.size 25 (Lf.LeafC L.epoch L.number L.first L.last A1 L.data.length c1)
  two : Qu.Blk u (w.heap.size + 1) 25 (Lf.LeafC R.epoch R.number R.first R.last A2 R.data.length c2)
  bys1 : By.Bys u u.heap.size A1 L.data.length L.data
  bys2 : By.Bys u u.heap.size A2 R.data.length R.data

theorem Two.later {w u u' : World} {L R : Lf.Leaf} {A1 A2 : Option Addr} {c1 c2 : Nat} (h : Two w u L R A1 c1 A2 c2) (k : Below u.heap.size u u') : Two w u' L R A1 c1 A2 c2 :=
  ⟨h.below.trans (k.mono h.below.size), h.one.below k, h.two.below k, (h.bys1.below k (Nat.le_refl _)).size, (h.bys2.below k (Nat.le_refl _)).size⟩

/-- What stands from then on: the first leaf's box, its bytes. -/
structure One (w u : World) (L : Lf.Leaf) (A1 : Option Addr) (c1 : Nat) : Prop where
  below : Below w.heap.size w u
  one : Qu.Blk u w.heap.size 25 (Lf.LeafC L.epoch L.number L.first L.last A1 L.data.length c1)
  bys : By.Bys u u.heap.size A1 L.data.length L.data

theorem One.later {w u u' : World} {L : Lf.Leaf} {A1 : Option Addr} {c1 : Nat} (h : One w u L A1 c1) (k : Below u.heap.size u u') : One w u' L A1 c1 :=
  ⟨h.below.trans (k.mono h.below.size), h.one.below k, (h.bys.below k (Nat.le_refl _)).size⟩

theorem two_end {w w0 w1 w2 w3 w4 : World} {L R : Lf.Leaf} {A1 A2 : Option Addr} {c1 c2 : Nat} (hb : Below w.heap.size w w0) (hl : w.heap.size + 1 < w0.heap.size) (k1 : Below w0.heap.size w0.drew w1) (y1 : By.Bys w1 w1.heap.size A1 L.data.length L.data) (d1 : ∀ a, A1 = some a → w0.heap.size ≤ a.block)
    (k2 : Below w1.heap.size w1 w2) (y2 : By.Bys w2 w2.heap.size A2 R.data.length R.data) (d2 : ∀ a, A2 = some a → w1.heap.size ≤ a.block)
    (b3 : Qu.Blk w3 w.heap.size 25 (Lf.LeafC L.epoch L.number L.first L.last A1 L.data.length c1)) (g3 : w2.grownBy w3 (some w.heap.size)) (b4 : Qu.Blk w4 (w.heap.size + 1) 25 (Lf.LeafC R.epoch R.number R.first R.last A2 R.data.length c2)) (g4 : w3.grownBy w4 (some (w.heap.size + 1))) : Two w w4 L R A1 c1 A2 c2 := by
  have h01 : Below w.heap.size w w1 := (hb.drew).trans (k1.mono (by omega))
  have z1 := k1.size
  have z1' : w0.heap.size ≤ w1.heap.size := z1
  have z2 := k2.size
  have h02 : Below w.heap.size w w2 := h01.trans (k2.mono h01.size)
  have h03 := h02.grown g3 h02.size (fun k hk => by injection hk with hk; omega)
  have h04 := h03.grown g4 h03.size (fun k hk => by injection hk with hk; omega)
  have far : ∀ {A : Option Addr} {k : Nat} {l : List UInt8}, By.Bys w2 w2.heap.size A k l → (∀ a, A = some a → w0.heap.size ≤ a.block) → By.Bys w4 w4.heap.size A k l := fun h hd =>
    (((h.only (Mv.Only.ofGrown (S := Mv.one w.heap.size) g3 fun k hk => by injection hk with hk; exact hk.symm) (fun a ha _ e => by have := hd a ha; have e' : a.block = w.heap.size := e; omega)).only (Mv.Only.ofGrown (S := Mv.one (w.heap.size + 1)) g4 fun k hk => by injection hk with hk; exact hk.symm) (fun a ha _ e => by have := hd a ha; have e' : a.block = w.heap.size + 1 := e; omega))).size
  exact ⟨h04, b3.grown g4 (fun e => by injection e with e; omega), b4, far ((y1.below k2 (Nat.le_refl _)).size) d1, far y2 (fun a ha => by have := d2 a ha; omega)⟩

set_option maxHeartbeats 8000000 in
theorem walk (w : World) (e n m c : Nat) (f l : Bool) (A : Option Addr) (d : List UInt8) (hb : By.Bys w w.heap.size A m d) (hA : A = none → m = 0 ∧ c = 0) (hc : m ≤ c) (he : e < 2 ^ 32) (hn : n < 2 ^ 32) (hm : m ≤ 9223372036854775807)
    (e' n' m' c' : Nat) (f' l' : Bool) (A' : Option Addr) (d' : List UInt8) (hb' : By.Bys w w.heap.size A' m' d') (hA' : A' = none → m' = 0 ∧ c' = 0) (hc' : m' ≤ c') (he' : e' < 2 ^ 32) (hn' : n' < 2 ^ 32) (hm' : m' ≤ 9223372036854775807) (a2 : Int) (w2' : (Lit.int .i64 a2).wf = true) (blank : Bool) :
    Calls Try.prog 7 #[.agg #[.int .u32 (e : Int), .int .u32 (n : Int), .bool f, .bool l, .slice A m c], .agg #[.int .u32 (e' : Int), .int .u32 (n' : Int), .bool f', .bool l', .slice A' m' c'], .int .i64 a2, .bool blank] w fun e w' => e = .returned (.bool true) ∧ Below w.heap.size w w' := by
  obtain ⟨t, t1, t2, t3, t4⟩ := By.umod_in a2 65 (by omega) (by omega)
  have t0 : (0 : Int) ≤ (t : Int) := by omega
  have tn : t ≤ 64 := by omega
  obtain ⟨w0, hw0⟩ : ∃ w0, w0 = (w.alloc (.cells (Lf.LeafC e n f l A m c) 25)).alloc (.cells (Lf.LeafC e' n' f' l' A' m' c') 25) := ⟨_, rfl⟩
  have hk0 : Below w.heap.size w w0 := by rw [hw0]; exact ((Below.refl _ _).alloc (Nat.le_refl _) _).alloc (by simp) _
  have hx0 : Qu.Blk w0 w.heap.size 25 (Lf.LeafC e n f l A m c) := by rw [hw0]; exact (Qu.Blk.new _ _ _).alloc _
  have hy0 : Qu.Blk w0 (w.heap.size + 1) 25 (Lf.LeafC e' n' f' l' A' m' c') := by
    rw [hw0]
    have h := Qu.Blk.new (w.alloc (.cells (Lf.LeafC e n f l A m c) 25)) 25 (Lf.LeafC e' n' f' l' A' m' c')
    rw [World.size_alloc] at h
    exact h
  obtain ⟨L, hL⟩ : ∃ L, Lf.nearL ⟨e, n, f, l, d⟩ = L := ⟨_, rfl⟩
  obtain ⟨R, hR⟩ : ∃ R, Lf.nearL ⟨e', n', f', l', d'⟩ = R := ⟨_, rfl⟩
  have HLR := Lib.hid (show (Lf.rightB L = true ∧ L.epoch < 2 ^ 32 ∧ L.number < 2 ^ 32) ∧ (Lf.rightB R = true ∧ R.epoch < 2 ^ 32 ∧ R.number < 2 ^ 32) by
    rw [← hL, ← hR]
    exact ⟨⟨Lf.near_right _, by show max e 1 < 2 ^ 32; omega, hn⟩, ⟨Lf.near_right _, by show max e' 1 < 2 ^ 32; omega, hn'⟩⟩)
  have NA : Hid (∀ W, Below w0.heap.size w0 W → Calls Try.prog 10 #[.agg #[.int .u32 (e : Int), .int .u32 (n : Int), .bool f, .bool l, .slice A m c]] W fun en w' => Lf.Neared W w' en ⟨e, n, f, l, d⟩) := Lib.hid (fun W hW => Lf.near_any W e n m c f l A d ((hb.below hk0 (Nat.le_refl _)).size.below hW (Nat.le_refl _)).size hA hc he hn hm)
  have NB : Hid (∀ W, Below w0.heap.size w0 W → Calls Try.prog 10 #[.agg #[.int .u32 (e' : Int), .int .u32 (n' : Int), .bool f', .bool l', .slice A' m' c']] W fun en w' => Lf.Neared W w' en ⟨e', n', f', l', d'⟩) := Lib.hid (fun W hW => Lf.near_any W e' n' m' c' f' l' A' d' ((hb'.below hk0 (Nat.le_refl _)).size.below hW (Nat.le_refl _)).size hA' hc' he' hn' hm')
  have H0 := Lib.hid (And.intro hk0 (And.intro hx0 hy0))
  have HL := Lib.hid (And.intro hL hR)
  have HW0 := Lib.hid hw0
  clear hk0 hx0 hy0 hL hR hb hb' hA hA' hc hc' he he' hn hn' hm hm' w2' hw0
  go_enter Try.func7, Try.ntmps7
  go_upto_region 1 with (fail)
  have hw0' : (w.alloc (.cells #[.int .u32 (e : Int), .int .u32 (n : Int), .bool f, .bool l, .slice A m c] 25)).alloc (.cells #[.int .u32 (e' : Int), .int .u32 (n' : Int), .bool f', .bool l', .slice A' m' c'] 25) = w0 := HW0.out.symm
  rw [hw0']
  clear hw0' HW0
  have hxd : Qu.Blk w0.drew w.heap.size 25 (Lf.LeafC e n f l A m c) := H0.out.2.1.drew
  have hyd : Qu.Blk w0.drew (w.heap.size + 1) 25 (Lf.LeafC e' n' f' l' A' m' c') := H0.out.2.2.drew
  have hbd : Below w0.heap.size w0 w0.drew := (Below.refl _ _).drew
  have HZ := Lib.hid hyd.lt
  go_cut [8] (fun v wx => v = .bool false ∧ ∃ A1 c1 A2 c2, Two w wx L R A1 c1 A2 c2)
  case first =>
    refine wp_region_held_drew (S := fun u => Lf.Leaf5 u w.heap.size ∧ Lf.Leaf5 u (w.heap.size + 1) ∧ Below w.heap.size w u) (by kernel_rfl) ⟨⟨_, hxd, rfl⟩, ⟨_, hyd, rfl⟩, H0.out.1.drew⟩ (fun hs0 => ?_)
    refine wpAnyH_ready (rs := [0,2]) (by kernel_rfl) (by simp) ?_
    refine AllReadyH.cons (o := ⟨some 17, _, _, _, _, _⟩) rfl (fun K hK => ?_) ?_
    ·
      obtain ⟨q0, q1, q2, q3, q4⟩ := Lf.box_cells hxd
      go_simp
      refine hK.out _ _ hs0 (fun h1 => ?_)
      clear hK K q0 q1 q2 q3 q4
      try simp only [Act.put, List.setIfInBounds_toArray, List.set_cons_zero, List.set_cons_succ]
      refine wpAnyH_ready (rs := [1,2]) (by kernel_rfl) (by simp) ?_
      refine AllReadyH.cons (o := ⟨some 18, _, _, _, _, _⟩) rfl (fun K hK => ?_) ?_
      ·
        go_simp
        refine (NA.out _ hbd).mono ?_
        rintro en w1 hN1
        unfold Lf.Neared at hN1
        rw [HL.out.1] at hN1
        obtain ⟨A1, c1, rfl, y1, _, _, d1', k1⟩ := hN1
        go_wp2_with fail
        refine hK.out _ _ ⟨h1.1.below k1, h1.2.1.below k1, h1.2.2.trans (k1.mono h1.2.2.size)⟩ (fun h2 => ?_)
        clear hK K
        try simp only [Act.put, List.setIfInBounds_toArray, List.set_cons_zero, List.set_cons_succ]
        refine wpAnyH_ready (rs := [2]) (by kernel_rfl) (by simp) ?_
        refine AllReadyH.cons (o := ⟨some 19, _, _, _, _, _⟩) rfl (fun K hK => ?_) AllReadyH.nil
        obtain ⟨q0, q1, q2, q3, q4⟩ := Lf.box_cells (hyd.below k1)
        go_simp
        refine hK.out _ _ h2 (fun h3 => ?_)
        clear hK K q0 q1 q2 q3 q4
        try simp only [Act.put, List.setIfInBounds_toArray, List.set_cons_zero, List.set_cons_succ]
        refine wpAnyH_ready (rs := [3]) (by kernel_rfl) (by simp) ?_
        refine AllReadyH.cons (o := ⟨some 20, _, _, _, _, _⟩) rfl (fun K hK => ?_) AllReadyH.nil
        go_simp
        refine (NB.out _ (hbd.trans (k1.mono (Nat.le_refl _)))).mono ?_
        rintro en w2 hN1
        unfold Lf.Neared at hN1
        rw [HL.out.2] at hN1
        obtain ⟨A2, c2, rfl, y2, _, _, d2', k2⟩ := hN1
        go_wp2_with fail
        refine hK.out _ _ ⟨h3.1.below k2, h3.2.1.below k2, h3.2.2.trans (k2.mono h3.2.2.size)⟩ (fun h4 => ?_)
        clear hK K
        try simp only [Act.put, List.setIfInBounds_toArray, List.set_cons_zero, List.set_cons_succ]
        refine wpAnyH_ready (rs := [4]) (by kernel_rfl) (by simp) ?_
        refine AllReadyH.cons (o := ⟨none, _, _, _, _, _⟩) rfl (fun K hK => ?_) AllReadyH.nil
        refine Lf.step_store_leaf (w := w2) (by rfl) (.tmp 4) (.tmp 18) (by rfl) w.heap.size (by rfl) (Lf.LeafC L.epoch L.number L.first L.last A1 L.data.length c1) (by rfl) h4.1 rfl (Lf.LeafC_one _ _ _ _ _ _ _) ?_
        intro w3 b3 g3
        refine hK.out _ _ ⟨⟨_, b3, rfl⟩, h4.2.1.far g3 (by omega), h4.2.2.grown g3 h4.2.2.size (fun k hk => by injection hk with hk; omega)⟩ (fun hs3 => ?_)
        clear hK K
        try simp only [Act.put]
        refine wpAnyH_ready (rs := [5]) (by kernel_rfl) (by simp) ?_
        refine AllReadyH.cons (o := ⟨none, _, _, _, _, _⟩) rfl (fun K hK => ?_) AllReadyH.nil
        refine Lf.step_store_leaf (w := w3) (by rfl) (.tmp 5) (.tmp 20) (by rfl) (w.heap.size + 1) (by rfl) (Lf.LeafC R.epoch R.number R.first R.last A2 R.data.length c2) (by rfl) hs3.2.1 rfl (Lf.LeafC_one _ _ _ _ _ _ _) ?_
        intro w4 b4 g4
        refine hK.out _ _ ⟨hs3.1.far g4 (by omega), ⟨_, b4, rfl⟩, hs3.2.2.grown g4 hs3.2.2.size (fun k hk => by injection hk with hk; omega)⟩ (fun hs4 => ?_)
        clear hK K
        try simp only [Act.put]
        refine wpAnyH_done (by kernel_rfl) ?_ _
        go_wp2_with fail
        go_meet
        exact ⟨rfl, A1, c1, A2, c2, two_end H0.out.1 HZ.out k1 y1 d1' k2 y2 d2' b3 g3 b4 g4⟩
      refine AllReadyH.cons (o := ⟨some 19, _, _, _, _, _⟩) rfl (fun K hK => ?_) AllReadyH.nil
      obtain ⟨q0, q1, q2, q3, q4⟩ := Lf.box_cells hyd
      go_simp
      refine hK.out _ _ h1 (fun h2 => ?_)
      clear hK K q0 q1 q2 q3 q4
      try simp only [Act.put, List.setIfInBounds_toArray, List.set_cons_zero, List.set_cons_succ]
      refine wpAnyH_ready (rs := [1]) (by kernel_rfl) (by simp) ?_
      refine AllReadyH.cons (o := ⟨some 18, _, _, _, _, _⟩) rfl (fun K hK => ?_) AllReadyH.nil
      go_simp
      refine (NA.out _ hbd).mono ?_
      rintro en w1 hN1
      unfold Lf.Neared at hN1
      rw [HL.out.1] at hN1
      obtain ⟨A1, c1, rfl, y1, _, _, d1', k1⟩ := hN1
      go_wp2_with fail
      refine hK.out _ _ ⟨h2.1.below k1, h2.2.1.below k1, h2.2.2.trans (k1.mono h2.2.2.size)⟩ (fun h3 => ?_)
      clear hK K
      try simp only [Act.put, List.setIfInBounds_toArray, List.set_cons_zero, List.set_cons_succ]
      refine wpAnyH_ready (rs := [3]) (by kernel_rfl) (by simp) ?_
      refine AllReadyH.cons (o := ⟨some 20, _, _, _, _, _⟩) rfl (fun K hK => ?_) AllReadyH.nil
      go_simp
      refine (NB.out _ (hbd.trans (k1.mono (Nat.le_refl _)))).mono ?_
      rintro en w2 hN1
      unfold Lf.Neared at hN1
      rw [HL.out.2] at hN1
      obtain ⟨A2, c2, rfl, y2, _, _, d2', k2⟩ := hN1
      go_wp2_with fail
      refine hK.out _ _ ⟨h3.1.below k2, h3.2.1.below k2, h3.2.2.trans (k2.mono h3.2.2.size)⟩ (fun h4 => ?_)
      clear hK K
      try simp only [Act.put, List.setIfInBounds_toArray, List.set_cons_zero, List.set_cons_succ]
      refine wpAnyH_ready (rs := [4]) (by kernel_rfl) (by simp) ?_
      refine AllReadyH.cons (o := ⟨none, _, _, _, _, _⟩) rfl (fun K hK => ?_) AllReadyH.nil
      refine Lf.step_store_leaf (w := w2) (by rfl) (.tmp 4) (.tmp 18) (by rfl) w.heap.size (by rfl) (Lf.LeafC L.epoch L.number L.first L.last A1 L.data.length c1) (by rfl) h4.1 rfl (Lf.LeafC_one _ _ _ _ _ _ _) ?_
      intro w3 b3 g3
      refine hK.out _ _ ⟨⟨_, b3, rfl⟩, h4.2.1.far g3 (by omega), h4.2.2.grown g3 h4.2.2.size (fun k hk => by injection hk with hk; omega)⟩ (fun hs3 => ?_)
      clear hK K
      try simp only [Act.put]
      refine wpAnyH_ready (rs := [5]) (by kernel_rfl) (by simp) ?_
      refine AllReadyH.cons (o := ⟨none, _, _, _, _, _⟩) rfl (fun K hK => ?_) AllReadyH.nil
      refine Lf.step_store_leaf (w := w3) (by rfl) (.tmp 5) (.tmp 20) (by rfl) (w.heap.size + 1) (by rfl) (Lf.LeafC R.epoch R.number R.first R.last A2 R.data.length c2) (by rfl) hs3.2.1 rfl (Lf.LeafC_one _ _ _ _ _ _ _) ?_
      intro w4 b4 g4
      refine hK.out _ _ ⟨hs3.1.far g4 (by omega), ⟨_, b4, rfl⟩, hs3.2.2.grown g4 hs3.2.2.size (fun k hk => by injection hk with hk; omega)⟩ (fun hs4 => ?_)
      clear hK K
      try simp only [Act.put]
      refine wpAnyH_done (by kernel_rfl) ?_ _
      go_wp2_with fail
      go_meet
      exact ⟨rfl, A1, c1, A2, c2, two_end H0.out.1 HZ.out k1 y1 d1' k2 y2 d2' b3 g3 b4 g4⟩
    refine AllReadyH.cons (o := ⟨some 19, _, _, _, _, _⟩) rfl (fun K hK => ?_) AllReadyH.nil
    obtain ⟨q0, q1, q2, q3, q4⟩ := Lf.box_cells hyd
    go_simp
    refine hK.out _ _ hs0 (fun h1 => ?_)
    clear hK K q0 q1 q2 q3 q4
    try simp only [Act.put, List.setIfInBounds_toArray, List.set_cons_zero, List.set_cons_succ]
    refine wpAnyH_ready (rs := [0]) (by kernel_rfl) (by simp) ?_
    refine AllReadyH.cons (o := ⟨some 17, _, _, _, _, _⟩) rfl (fun K hK => ?_) AllReadyH.nil
    obtain ⟨q0, q1, q2, q3, q4⟩ := Lf.box_cells hxd
    go_simp
    refine hK.out _ _ h1 (fun h2 => ?_)
    clear hK K q0 q1 q2 q3 q4
    try simp only [Act.put, List.setIfInBounds_toArray, List.set_cons_zero, List.set_cons_succ]
    refine wpAnyH_ready (rs := [1]) (by kernel_rfl) (by simp) ?_
    refine AllReadyH.cons (o := ⟨some 18, _, _, _, _, _⟩) rfl (fun K hK => ?_) AllReadyH.nil
    go_simp
    refine (NA.out _ hbd).mono ?_
    rintro en w1 hN1
    unfold Lf.Neared at hN1
    rw [HL.out.1] at hN1
    obtain ⟨A1, c1, rfl, y1, _, _, d1', k1⟩ := hN1
    go_wp2_with fail
    refine hK.out _ _ ⟨h2.1.below k1, h2.2.1.below k1, h2.2.2.trans (k1.mono h2.2.2.size)⟩ (fun h3 => ?_)
    clear hK K
    try simp only [Act.put, List.setIfInBounds_toArray, List.set_cons_zero, List.set_cons_succ]
    refine wpAnyH_ready (rs := [3]) (by kernel_rfl) (by simp) ?_
    refine AllReadyH.cons (o := ⟨some 20, _, _, _, _, _⟩) rfl (fun K hK => ?_) AllReadyH.nil
    go_simp
    refine (NB.out _ (hbd.trans (k1.mono (Nat.le_refl _)))).mono ?_
    rintro en w2 hN1
    unfold Lf.Neared at hN1
    rw [HL.out.2] at hN1
    obtain ⟨A2, c2, rfl, y2, _, _, d2', k2⟩ := hN1
    go_wp2_with fail
    refine hK.out _ _ ⟨h3.1.below k2, h3.2.1.below k2, h3.2.2.trans (k2.mono h3.2.2.size)⟩ (fun h4 => ?_)
    clear hK K
    try simp only [Act.put, List.setIfInBounds_toArray, List.set_cons_zero, List.set_cons_succ]
    refine wpAnyH_ready (rs := [4]) (by kernel_rfl) (by simp) ?_
    refine AllReadyH.cons (o := ⟨none, _, _, _, _, _⟩) rfl (fun K hK => ?_) AllReadyH.nil
    refine Lf.step_store_leaf (w := w2) (by rfl) (.tmp 4) (.tmp 18) (by rfl) w.heap.size (by rfl) (Lf.LeafC L.epoch L.number L.first L.last A1 L.data.length c1) (by rfl) h4.1 rfl (Lf.LeafC_one _ _ _ _ _ _ _) ?_
    intro w3 b3 g3
    refine hK.out _ _ ⟨⟨_, b3, rfl⟩, h4.2.1.far g3 (by omega), h4.2.2.grown g3 h4.2.2.size (fun k hk => by injection hk with hk; omega)⟩ (fun hs3 => ?_)
    clear hK K
    try simp only [Act.put]
    refine wpAnyH_ready (rs := [5]) (by kernel_rfl) (by simp) ?_
    refine AllReadyH.cons (o := ⟨none, _, _, _, _, _⟩) rfl (fun K hK => ?_) AllReadyH.nil
    refine Lf.step_store_leaf (w := w3) (by rfl) (.tmp 5) (.tmp 20) (by rfl) (w.heap.size + 1) (by rfl) (Lf.LeafC R.epoch R.number R.first R.last A2 R.data.length c2) (by rfl) hs3.2.1 rfl (Lf.LeafC_one _ _ _ _ _ _ _) ?_
    intro w4 b4 g4
    refine hK.out _ _ ⟨hs3.1.far g4 (by omega), ⟨_, b4, rfl⟩, hs3.2.2.grown g4 hs3.2.2.size (fun k hk => by injection hk with hk; omega)⟩ (fun hs4 => ?_)
    clear hK K
    try simp only [Act.put]
    refine wpAnyH_done (by kernel_rfl) ?_ _
    go_wp2_with fail
    go_meet
    exact ⟨rfl, A1, c1, A2, c2, two_end H0.out.1 HZ.out k1 y1 d1' k2 y2 d2' b3 g3 b4 g4⟩
  case rest =>
    obtain ⟨rfl, A1, c1, A2, c2, hT⟩ := hcut
    have hk1 := hT.one
    go_wp2_with (first
      | ((with_reducible refine Lf.load_leaf (w := wc) (op := ⟨some 22, _, _, _, _, _⟩) ?_ (.tmp 4) ?_ _ ?_ _ hk1 ?_ ?_); (next => rfl); (next => rfl); (next => rfl); (next => rfl)))
    clear hk1 hxd hyd hbd HZ NA NB H0 HL
    refine (Lf.lay_right wc L.epoch L.number L.data.length c1 L.first L.last A1 L.data hT.bys1 HLR.out.1.2.1 HLR.out.1.2.2 HLR.out.1.1).mono ?_
    rintro en w1 ⟨rfl, k1⟩
    have eL : (⟨L.epoch, L.number, L.first, L.last, L.data⟩ : Lf.Leaf) = L := rfl
    rw [eL]
    obtain ⟨X, hX⟩ : ∃ X, Lf.layB L = X := ⟨_, rfl⟩
    have hXl : X.length = 64 := by rw [← hX]; exact Lf.layB_len _
    rw [hX]
    have HX := Lib.hid hX
    have H1 := Lib.hid (hT.later k1)
    clear k1 eL hX hT
    go_upto_region 3 with (first
      | (with_reducible refine Dk.new_sec (w := w1) (op := ⟨some 9, _, _, _, _, _⟩) rfl rfl ?_; intro w2 hS2 hB2 hZ2)
      | ((with_reducible refine Dk.store_sec (w := w2) (op := ⟨none, _, _, _, _, _⟩) ?_ (.tmp 9) (.tmp 24) ?_ _ ?_ X ?_ _ hS2 hXl ?_); (next => rfl); (next => rfl); (next => rfl); (next => rfl); intro w3 hS3 hG3))
    obtain ⟨g9, hg9⟩ : ∃ g, w1.heap.size = g := ⟨_, rfl⟩
    have k3 : Below w1.heap.size w1 w3 := hB2.grown hG3 hB2.size (fun k hk => by injection hk with hk; omega)
    rw [hg9] at hS3 ⊢
    have H3 := Lib.hid (And.intro (H1.out.later k3) hS3)
    clear hS2 hB2 hZ2 hS3 hG3 k3 hg9 H1
    have hk2 := H3.out.1.two
    go_wp2_with (first
      | ((with_reducible refine Lf.load_leaf (w := w3) (op := ⟨some 27, _, _, _, _, _⟩) ?_ (.tmp 5) ?_ _ ?_ _ hk2 ?_ ?_); (next => rfl); (next => rfl); (next => rfl); (next => rfl)))
    clear hk2
    refine (Lf.lay_right w3 R.epoch R.number R.data.length c2 R.first R.last A2 R.data H3.out.1.bys2 HLR.out.2.2.1 HLR.out.2.2.2 HLR.out.2.1).mono ?_
    rintro en w4 ⟨rfl, k4⟩
    have eR : (⟨R.epoch, R.number, R.first, R.last, R.data⟩ : Lf.Leaf) = R := rfl
    rw [eR]
    obtain ⟨V, hV⟩ : ∃ V, Lf.layB R = V := ⟨_, rfl⟩
    have hVl : V.length = 64 := by rw [← hV]; exact Lf.layB_len _
    rw [hV]
    have HV := Lib.hid hV
    have H4 := Lib.hid (And.intro (H3.out.1.later k4) (Lf.Sec.below H3.out.2 k4))
    clear k4 eR hV H3
    go_upto_region 4 with (first
      | (with_reducible refine Dk.new_sec (w := w4) (op := ⟨some 11, _, _, _, _, _⟩) rfl rfl ?_; intro w5 hS5 hB5 hZ5)
      | ((with_reducible refine Dk.store_sec (w := w5) (op := ⟨none, _, _, _, _, _⟩) ?_ (.tmp 11) (.tmp 29) ?_ _ ?_ V ?_ _ hS5 hVl ?_); (next => rfl); (next => rfl); (next => rfl); (next => rfl); intro w6 hS6 hG6))
    obtain ⟨g11, hg11⟩ : ∃ g, w4.heap.size = g := ⟨_, rfl⟩
    have k6 : Below w4.heap.size w4 w6 := hB5.grown hG6 hB5.size (fun k hk => by injection hk with hk; omega)
    have hg119 : g9 ≠ g11 := by have := H4.out.2.2.lt; omega
    have hgw : w.heap.size + 1 < g11 := by have := H4.out.1.two.lt; omega
    rw [hg11] at hS6 ⊢
    have H6 := Lib.hid (show Two w w6 L R A1 c1 A2 c2 ∧ Dk.Sec w6 g9 X ∧ Dk.Sec w6 g11 V ∧ By.Bys w6 g11 A1 L.data.length L.data from ⟨H4.out.1.later k6, Lf.Sec.below H4.out.2 k6, hS6, by rw [← hg11]; exact H4.out.1.bys1.below k6 (Nat.le_refl _)⟩)
    clear hS5 hB5 hZ5 hS6 hG6 k6 hg11 H4
    go_wp2_with fail
    refine (Lf.awake_any w6).mono ?_
    rintro en w7 ⟨rfl, k7⟩
    have H7 := Lib.hid (show Two w w7 L R A1 c1 A2 c2 ∧ Dk.Sec w7 g9 X ∧ Dk.Sec w7 g11 V ∧ By.Bys w7 g11 A1 L.data.length L.data from ⟨H6.out.1.later k7, Lf.Sec.below H6.out.2.1 k7, Lf.Sec.below H6.out.2.2.1 k7, H6.out.2.2.2.below k7 (Nat.le_of_lt H6.out.2.2.1.2.lt)⟩)
    clear k7 H6
    cases blank
    case' true =>
      have hS11 := H7.out.2.2.1
      go_upto_region 10 with (first
        | (with_reducible refine Dk.zero_sec (op := ⟨some 42, _, _, _, _, _⟩) rfl rfl ?_)
        | ((with_reducible refine Dk.store_sec (w := w7) (op := ⟨none, _, _, _, _, _⟩) ?_ (.tmp 11) (.tmp 42) ?_ _ ?_ Se.noughts ?_ _ hS11 Se.noughts_len ?_); (next => rfl); (next => rfl); (next => rfl); (next => rfl); intro w8 hS8 hG8))
      obtain ⟨Y, H8, HXY, hYl⟩ : ∃ (Y : List UInt8), Hid (One w w8 L A1 c1 ∧ Dk.Sec w8 g9 X ∧ Dk.Sec w8 g11 Y) ∧ Hid (Lf.cut Y 60 4 = Lf.cut Y 0 4 ∧ Lf.cut X 0 4 ≠ Lf.cut Y 0 4 ∧ Lf.takesB Y = false) ∧ Y.length = 64 := by
        have hnum := Lf.noughts_cut 0 (by omega)
        refine ⟨Se.noughts, Lib.hid ⟨?_, Lf.Sec.far H7.out.2.1 hG8 hg119, hS8⟩, Lib.hid ⟨by rw [Lf.noughts_cut 60 (by omega), hnum], ?_, Lf.takes_noughts⟩, Se.noughts_len⟩
        · have hh := H7.out.1
          exact ⟨hh.below.grown hG8 hh.below.size (fun k hk => by injection hk with hk; omega), hh.one.grown hG8 (fun e => by injection e with e; omega), (H7.out.2.2.2.only (Mv.Only.ofGrown (S := Mv.one g11) hG8 fun k hk => by injection hk with hk; exact hk.symm) (fun a ha hl e => by have e' : a.block = g11 := e; omega)).size⟩
        · rw [← HX.out, Lf.lay_epoch L ((Lf.right_iff L).1 HLR.out.1.1).2.2.1, hnum]
          intro e
          exact ((Lf.right_iff L).1 HLR.out.1.1).1 (Lf.be4_inj HLR.out.1.2.1 (by omega) e)
      clear hS11 hS8 hG8 H7 HV hVl
    case' false =>
      by_cases hee : L.epoch = R.epoch
      · have e1 : ((L.epoch : Int) == (R.epoch : Int)) = true := by rw [hee]; simp
        obtain ⟨q0, q1, q2, q3, q4⟩ := Lf.box_cells H7.out.1.one
        obtain ⟨p0, p1, p2, p3, p4⟩ := Lf.box_cells H7.out.1.two
        generalize L.epoch = ea at *
        generalize R.epoch = eb at *
        subst hee
        clear e1
        have HB7 := Lib.hid H7.out.1.below
        clear H7
        go_wp2_with fail
        go_ret
        exact ⟨rfl, HB7.out⟩
      have e1 : ((L.epoch : Int) == (R.epoch : Int)) = false := beq_eq_false_iff_ne.2 (by omega)
      obtain ⟨q0, q1, q2, q3, q4⟩ := Lf.box_cells H7.out.1.one
      obtain ⟨p0, p1, p2, p3, p4⟩ := Lf.box_cells H7.out.1.two
      have HEE := Lib.hid hee
      clear hee
      go_upto_region 10 with (fail)
      clear q0 q1 q2 q3 q4 p0 p1 p2 p3 p4 e1
      obtain ⟨Y, H8, HXY, hYl⟩ : ∃ (Y : List UInt8), Hid (One w w7 L A1 c1 ∧ Dk.Sec w7 g9 X ∧ Dk.Sec w7 g11 Y) ∧ Hid (Lf.cut Y 60 4 = Lf.cut Y 0 4 ∧ Lf.cut X 0 4 ≠ Lf.cut Y 0 4 ∧ Lf.takesB Y = true) ∧ Y.length = 64 := by
        have hl46 := ((Lf.right_iff L).1 HLR.out.1.1).2.2.1
        have hr46 := ((Lf.right_iff R).1 HLR.out.2.1).2.2.1
        refine ⟨V, Lib.hid ⟨⟨H7.out.1.below, H7.out.1.one, H7.out.1.bys1⟩, H7.out.2.1, H7.out.2.2.1⟩, Lib.hid ⟨?_, ?_, ?_⟩, hVl⟩
        · rw [← HV.out, Lf.lay_again, Lf.lay_epoch R hr46]
        · rw [← HX.out, ← HV.out, Lf.lay_epoch L hl46, Lf.lay_epoch R hr46]
          intro e
          exact HEE.out (Lf.be4_inj HLR.out.1.2.1 HLR.out.2.2.1 e)
        · rw [← HV.out]
          exact Lf.takes_lay R HLR.out.2.1 HLR.out.2.2.1 HLR.out.2.2.2
      clear H7 HV hVl HEE
      generalize w7 = w8 at *
    all_goals
      have HXX : Hid (Lf.takesB X = true ∧ Lf.readB X = L ∧ Lf.cut X 60 4 = Lf.cut X 0 4) := Lib.hid (by
        have hl46 := ((Lf.right_iff L).1 HLR.out.1.1).2.2.1
        rw [← HX.out]
        exact ⟨Lf.takes_lay L HLR.out.1.1 HLR.out.1.2.1 HLR.out.1.2.2, Lf.read_lay L hl46 HLR.out.1.2.1 HLR.out.1.2.2, by rw [Lf.lay_again, Lf.lay_epoch L hl46]⟩)
      have hS11 := H8.out.2.2
      go_upto_region 12 with (first
        | ((with_reducible refine Dk.load_sec (w := w8) (op := ⟨some 52, _, _, _, _, _⟩) ?_ (.tmp 11) ?_ _ ?_ _ hS11 ?_); (next => rfl); (next => rfl); (next => rfl))
        | (with_reducible refine Dk.new_sec (w := w8) (op := ⟨some 14, _, _, _, _, _⟩) rfl rfl ?_; intro w9 hS9 hB9 hZ9)
        | ((with_reducible refine Dk.store_sec (w := w9) (op := ⟨none, _, _, _, _, _⟩) ?_ (.tmp 14) (.tmp 52) ?_ _ ?_ Y ?_ _ hS9 hYl ?_); (next => rfl); (next => rfl); (next => rfl); (next => rfl); intro w10 hS10 hG10))
      obtain ⟨g14, hg14⟩ : ∃ g, w8.heap.size = g := ⟨_, rfl⟩
      have k10 : Below w8.heap.size w8 w10 := hB9.grown hG10 hB9.size (fun k hk => by injection hk with hk; omega)
      have hne : g9 ≠ g14 ∧ g11 ≠ g14 ∧ w.heap.size ≠ g14 := by have := H8.out.2.1.2.lt; have := H8.out.2.2.2.lt; have := H8.out.1.one.lt; omega
      rw [hg14] at hS10 ⊢
      have H10 := Lib.hid (show One w w10 L A1 c1 ∧ Dk.Sec w10 g9 X ∧ Dk.Sec w10 g11 Y ∧ Dk.Sec w10 g14 Y ∧ By.Bys w10 g14 A1 L.data.length L.data ∧ w.heap.size < g14 from ⟨H8.out.1.later k10, Lf.Sec.below H8.out.2.1 k10, Lf.Sec.below H8.out.2.2 k10, hS10, by rw [← hg14]; exact H8.out.1.bys.below k10 (Nat.le_refl _), by have := H8.out.1.one.lt; omega⟩)
      clear hS9 hB9 hZ9 hS10 hG10 k10 hg14 H8 hS11 HX HLR
      have hy := Lib.hid (Lf.part_bys (lo := 0) (n := t) (Lf.Sec_drew H10.out.2.1) (by omega))
      have hs1 := fun W => Lf.part_h g14 t (t : Int) rfl tn W
      have hs2 := fun W => Lf.part_h g9 t (t : Int) rfl tn W
      go_region_law (first | (refine Lf.step_copy_in (by rfl) (.tmp 54) (.tmp 56) (by rfl) g14 0 t 64 t 64 w10.drew.heap.size (some ⟨g9, 0, none⟩) Y (Lf.cut X 0 t) (by rfl) (by rfl) (Lf.Sec_drew H10.out.2.2.2.1) hy.out (by omega) (by omega) ?_; intro w11 s11 k11))
      unfold Exit.then
      dsimp only
      obtain ⟨Z, hZ⟩ : ∃ Z, Lf.torn X Y t = Z := ⟨_, rfl⟩
      rw [Lf.torn_over hXl hYl t tn, hZ] at s11
      have hZl : Z.length = 64 := s11.1
      have HZ := Lib.hid hZ
      have H11 := Lib.hid (show One w w11 L A1 c1 ∧ Dk.Sec w11 g9 X ∧ Dk.Sec w11 g11 Y ∧ Dk.Sec w11 g14 Z from by
        have hh := H10.out.1
        refine ⟨⟨hh.below.drew.grown k11 hh.below.drew.size (fun k hk => by injection hk with hk; have := H10.out.2.2.2.2.2; omega), hh.one.drew.grown k11 (fun e => hne.2.2 (by injection e)), ?_⟩, Lf.Sec.far (Lf.Sec_drew H10.out.2.1) k11 hne.1, Lf.Sec.far (Lf.Sec_drew H10.out.2.2.1) k11 hne.2.1, s11⟩
        have hyd : By.Bys w10.drew g14 A1 L.data.length L.data := H10.out.2.2.2.2.1.below (Below.refl w10.heap.size w10).drew (Nat.le_of_lt H10.out.2.2.2.1.2.lt)
        exact (hyd.only (Mv.Only.ofGrown (S := Mv.one g14) k11 fun k hk => by injection hk with hk; exact hk.symm) (fun a ha hl e => by have e' : a.block = g14 := e; omega)).size)
      clear s11 k11 hy hs1 hs2 H10 hne hZ
      have hSZ := H11.out.2.2.2
      go_wp2_with (first
        | ((with_reducible refine Dk.load_sec (w := w11) (op := ⟨some 59, _, _, _, _, _⟩) ?_ (.tmp 14) ?_ _ ?_ _ hSZ ?_); (next => rfl); (next => rfl); (next => rfl)))
      clear hSZ
      refine (Lf.take_any w11 Z hZl).mono ?_
      rintro en w12 ht
      obtain ⟨A3, c3, rfl, hY3, k12⟩ := Lf.took_as ht
      obtain ⟨P, hP⟩ : ∃ P, Lf.tookL Z = P := ⟨_, rfl⟩
      obtain ⟨Tz, hTz⟩ : ∃ T, Lf.takesB Z = T := ⟨_, rfl⟩
      rw [hP] at hY3 ⊢
      rw [hTz]
      have HPT := Lib.hid (And.intro hP hTz)
      have H12 := Lib.hid (show One w w12 L A1 c1 ∧ Dk.Sec w12 g9 X ∧ Dk.Sec w12 g11 Y ∧ Dk.Sec w12 g14 Z ∧ By.Bys w12 w12.heap.size A3 P.data.length P.data from ⟨H11.out.1.later k12, Lf.Sec.below H11.out.2.1 k12, Lf.Sec.below H11.out.2.2.1 k12, Lf.Sec.below H11.out.2.2.2 k12, hY3⟩)
      clear ht hY3 k12 hP hTz H11
      go_upto_region 14 with (first
        | (with_reducible refine Lf.new_leaf (w := w12) (op := ⟨some 15, _, _, _, _, _⟩) rfl rfl ?_; intro w13 hL13 hB13 hZ13)
        | ((with_reducible refine Lf.store_leaf (w := w13) (op := ⟨none, _, _, _, _, _⟩) ?_ (.tmp 15) (.tmp 61) ?_ _ ?_ (Lf.LeafC P.epoch P.number P.first P.last A3 P.data.length c3) ?_ hL13 ?_ (Lf.LeafC_one _ _ _ _ _ _ _) ?_); (next => rfl); (next => rfl); (next => rfl); (next => rfl); (next => rfl); intro w14 hK14 hG14))
      obtain ⟨g15, hg15⟩ : ∃ g, w12.heap.size = g := ⟨_, rfl⟩
      have k14 : Below w12.heap.size w12 w14 := hB13.grown hG14 hB13.size (fun k hk => by injection hk with hk; omega)
      rw [hg15] at hK14 ⊢
      have H14 := Lib.hid (show One w w14 L A1 c1 ∧ Dk.Sec w14 g9 X ∧ Dk.Sec w14 g11 Y ∧ Dk.Sec w14 g14 Z ∧ By.Bys w14 w14.heap.size A3 P.data.length P.data ∧ Qu.Blk w14 g15 25 (Lf.LeafC P.epoch P.number P.first P.last A3 P.data.length c3) from ⟨H12.out.1.later k14, Lf.Sec.below H12.out.2.1 k14, Lf.Sec.below H12.out.2.2.1 k14, Lf.Sec.below H12.out.2.2.2.1 k14, (H12.out.2.2.2.2.below k14 (Nat.le_refl _)).size, hK14⟩)
      clear hL13 hB13 hZ13 hK14 hG14 k14 hg15 H12
      have hSZ := H14.out.2.2.2.1
      have hSX := H14.out.2.1
      by_cases hZX : Z = X
      · have hzx : (Z == X) = true := by rw [hZX]; simp
        have HPL : Hid (P = L ∧ Tz = true) := Lib.hid (by
          rw [← HPT.out.1, ← HPT.out.2, hZX]
          unfold Lf.tookL
          rw [HXX.out.1, if_pos rfl]
          exact ⟨HXX.out.2.1, rfl⟩)
        obtain ⟨hPL, rfl⟩ := HPL.out
        obtain rfl : P = L := hPL
        clear HPL hZX
        obtain ⟨q0, q1, q2, q3, q4⟩ := Lf.box_cells H14.out.1.one
        obtain ⟨p0, p1, p2, p3, p4⟩ := Lf.box_cells H14.out.2.2.2.2.2
        go_wp2_with (first
          | ((with_reducible refine Dk.load_sec (w := w14) (op := ⟨some 63, _, _, _, _, _⟩) ?_ (.tmp 14) ?_ _ ?_ _ hSZ ?_); (next => rfl); (next => rfl); (next => rfl))
          | ((with_reducible refine Dk.load_sec (w := w14) (op := ⟨some 64, _, _, _, _, _⟩) ?_ (.tmp 9) ?_ _ ?_ _ hSX ?_); (next => rfl); (next => rfl); (next => rfl))
          | ((with_reducible refine Lf.eql_sec_w (op := ⟨some 65, _, _, _, _, _⟩) ?_ (.tmp 63) (.tmp 64) ?_ _ _ ?_ ?_ hZl hXl true hzx ?_); (next => rfl); (next => rfl); (next => rfl); (next => rfl)))
        refine (Lf.same_leaf w14 P.epoch P.number P.data.length c3 P.data.length c1 P.first P.last A3 A1 P.data H14.out.2.2.2.2.1 H14.out.1.bys).mono ?_
        rintro en w15 ⟨rfl, k15⟩
        have HB15 := Lib.hid (H14.out.1.below.trans (k15.mono H14.out.1.below.size))
        clear k15 q0 q1 q2 q3 q4 p0 p1 p2 p3 p4 hSZ hSX
        go_wp2_with fail
        go_ret
        exact ⟨rfl, HB15.out⟩
      · have hzx : (Z == X) = false := beq_eq_false_iff_ne.2 hZX
        have hSY := H14.out.2.2.1
        by_cases hZY : Z = Y
        · have hzy : (Z == Y) = true := by rw [hZY]; simp
          have HTT : Hid (Lf.takesB Y = Tz) := Lib.hid (by rw [← HPT.out.2, hZY])
          have htt := HXY.out.2.2
          rw [HTT.out] at htt
          subst htt
          have HZY := Lib.hid hZY
          clear hZX hZY
          go_upto_region 17 with (first
            | ((with_reducible refine Dk.load_sec (w := w14) (op := ⟨some 63, _, _, _, _, _⟩) ?_ (.tmp 14) ?_ _ ?_ _ hSZ ?_); (next => rfl); (next => rfl); (next => rfl))
            | ((with_reducible refine Dk.load_sec (w := w14) (op := ⟨some 64, _, _, _, _, _⟩) ?_ (.tmp 9) ?_ _ ?_ _ hSX ?_); (next => rfl); (next => rfl); (next => rfl))
            | ((with_reducible refine Lf.eql_sec_w (op := ⟨some 65, _, _, _, _, _⟩) ?_ (.tmp 63) (.tmp 64) ?_ _ _ ?_ ?_ hZl hXl false hzx ?_); (next => rfl); (next => rfl); (next => rfl); (next => rfl))
            | ((with_reducible refine Dk.load_sec (w := w14) (op := ⟨some 72, _, _, _, _, _⟩) ?_ (.tmp 14) ?_ _ ?_ _ hSZ ?_); (next => rfl); (next => rfl); (next => rfl))
            | ((with_reducible refine Dk.load_sec (w := w14) (op := ⟨some 73, _, _, _, _, _⟩) ?_ (.tmp 11) ?_ _ ?_ _ hSY ?_); (next => rfl); (next => rfl); (next => rfl))
            | ((with_reducible refine Lf.eql_sec_w (op := ⟨some 74, _, _, _, _, _⟩) ?_ (.tmp 72) (.tmp 73) ?_ _ _ ?_ ?_ hZl hYl true hzy ?_); (next => rfl); (next => rfl); (next => rfl); (next => rfl)))
          have HP := Lib.hid (show One w w14 L A1 c1 ∧ Dk.Sec w14 g9 X ∧ Dk.Sec w14 g11 Y ∧ Dk.Sec w14 g14 Y from ⟨H14.out.1, H14.out.2.1, H14.out.2.2.1, by rw [← HZY.out]; exact H14.out.2.2.2.1⟩)
          have MM : Hid (∀ W, Below w14.heap.size w14 W → Calls Try.prog 19 #[.agg (Dk.secCells Y)] W fun e w' => e = .returned (.int .u32 (Lf.markN Y : Int)) ∧ Below w14.heap.size w14 w') := Lib.hid (fun W hW =>
            (Lf.mark_any W Y hYl).mono fun e w' ⟨he, hb⟩ => ⟨he, hW.trans (hb.mono hW.size)⟩)
          have MR : Hid (∀ W, Below w14.heap.size w14 W → Calls Try.prog 20 #[.agg (Dk.secCells Y)] W fun e w' => e = .returned (.int .u32 (Lf.markN Y : Int)) ∧ Below w14.heap.size w14 w') := Lib.hid (fun W hW =>
            (Lf.rmark_any W Y hYl).mono fun e w' ⟨he, hb⟩ => ⟨he, hW.trans (hb.mono hW.size)⟩)
          generalize Lf.markN Y = M at *
          clear hSZ hSX hSY hzx hzy
          refine wp_region_held_drew (S := fun u => Dk.Sec u g14 Y ∧ Dk.Sec u g11 Y ∧ Below w14.heap.size w14 u) (by kernel_rfl) ⟨Lf.Sec_drew HP.out.2.2.2, Lf.Sec_drew HP.out.2.2.1, (Below.refl _ _).drew⟩ (fun h0 => ?_)
          first
            | (
              refine wpAnyH_take (i := 0) (oi := ⟨some 75, _, _, _, _, _⟩) (v := .bool false) rfl (by kernel_rfl) (by kernel_rfl) (by kernel_rfl) (fun _ _ _ h => h) (Or.inl ⟨by rfl, fun wq hSw => ?_⟩) (by assumption) ?_
              · go_simp
              try simp only [Act.put, List.setIfInBounds_toArray, List.set_cons_zero, List.set_cons_succ]
              refine wpAnyH_take (i := 1) (oi := ⟨some 76, _, _, _, _, _⟩) (v := .bool true) rfl (by kernel_rfl) (by kernel_rfl) (by kernel_rfl) (fun _ _ _ h => h) (Or.inl ⟨by rfl, fun wq hSw => ?_⟩) (by assumption) ?_
              · go_simp
              try simp only [Act.put, List.setIfInBounds_toArray, List.set_cons_zero, List.set_cons_succ]
              refine wpAnyH_take (i := 2) (oi := ⟨some 77, _, _, _, _, _⟩) (v := .bool false) rfl (by kernel_rfl) (by kernel_rfl) (by kernel_rfl) (fun _ _ _ h => h) (Or.inl ⟨by rfl, fun wq hSw => ?_⟩) (by assumption) ?_
              · go_simp
              try simp only [Act.put, List.setIfInBounds_toArray, List.set_cons_zero, List.set_cons_succ]
              refine wpAnyH_take (i := 3) (oi := ⟨some 78, _, _, _, _, _⟩) (v := .bool true) rfl (by kernel_rfl) (by kernel_rfl) (by kernel_rfl) (fun _ _ _ h => h) (Or.inl ⟨by rfl, fun wq hSw => ?_⟩) (by assumption) ?_
              · go_simp
              try simp only [Act.put, List.setIfInBounds_toArray, List.set_cons_zero, List.set_cons_succ]
              refine wpAnyH_take (i := 4) (oi := ⟨some 79, _, _, _, _, _⟩) (v := .bool true) rfl (by kernel_rfl) (by kernel_rfl) (by kernel_rfl) (fun _ _ _ h => h) (Or.inl ⟨by rfl, fun wq hSw => ?_⟩) (by assumption) ?_
              · go_simp
              try simp only [Act.put, List.setIfInBounds_toArray, List.set_cons_zero, List.set_cons_succ]
              refine wpAnyH_take (i := 5) (oi := ⟨some 80, _, _, _, _, _⟩) (v := .agg (Dk.secCells Y)) rfl (by kernel_rfl) (by kernel_rfl) (by kernel_rfl) (fun _ _ _ h => h) (Lf.yields_sec (by rfl) _ rfl g14 rfl Y (fun _ h => h.1)) (by assumption) ?_
              try simp only [Act.put, List.setIfInBounds_toArray, List.set_cons_zero, List.set_cons_succ]
              refine wpAnyH_take (i := 7) (oi := ⟨some 82, _, _, _, _, _⟩) (v := .agg (Dk.secCells Y)) rfl (by kernel_rfl) (by kernel_rfl) (by kernel_rfl) (fun _ _ _ h => h) (Lf.yields_sec (by rfl) _ rfl g11 rfl Y (fun _ h => h.2.1)) (by assumption) ?_
              try simp only [Act.put, List.setIfInBounds_toArray, List.set_cons_zero, List.set_cons_succ]
              refine wpAnyH_ready (rs := [6]) (by kernel_rfl) (by simp) ?_
              refine AllReadyH.cons (o := ⟨some 81, _, _, _, _, _⟩) rfl (fun K hK => ?_) AllReadyH.nil
              go_simp
              refine (MM.out _ h0.2.2).mono ?_
              rintro e wA ⟨rfl, hzwA⟩
              go_wp2_with fail
              refine hK.out _ _ ⟨Lf.Sec.below HP.out.2.2.2 hzwA, Lf.Sec.below HP.out.2.2.1 hzwA, hzwA⟩ (fun h1 => ?_)
              clear hK K
              try simp only [Act.put, List.setIfInBounds_toArray, List.set_cons_zero, List.set_cons_succ]
              refine wpAnyH_ready (rs := [8]) (by kernel_rfl) (by simp) ?_
              refine AllReadyH.cons (o := ⟨some 83, _, _, _, _, _⟩) rfl (fun K hK => ?_) AllReadyH.nil
              go_simp
              refine (MR.out _ h1.2.2).mono ?_
              rintro e wB ⟨rfl, hzwB⟩
              go_wp2_with fail
              refine hK.out _ _ ⟨Lf.Sec.below HP.out.2.2.2 hzwB, Lf.Sec.below HP.out.2.2.1 hzwB, hzwB⟩ (fun h2 => ?_)
              clear hK K
              try simp only [Act.put, List.setIfInBounds_toArray, List.set_cons_zero, List.set_cons_succ]
              refine wpAnyH_take (i := 9) (oi := ⟨some 84, _, _, _, _, _⟩) (v := .bool true) rfl (by kernel_rfl) (by kernel_rfl) (by kernel_rfl) (fun _ _ _ h => h) (Or.inl ⟨by rfl, fun wq hSw => ?_⟩) (by assumption) ?_
              · go_simp
              try simp only [Act.put, List.setIfInBounds_toArray, List.set_cons_zero, List.set_cons_succ]
              refine wpAnyH_take (i := 10) (oi := ⟨some 85, _, _, _, _, _⟩) (v := .bool true) rfl (by kernel_rfl) (by kernel_rfl) (by kernel_rfl) (fun _ _ _ h => h) (Or.inl ⟨by rfl, fun wq hSw => ?_⟩) (by assumption) ?_
              · go_simp
              try simp only [Act.put, List.setIfInBounds_toArray, List.set_cons_zero, List.set_cons_succ]
              refine wpAnyH_take (i := 11) (oi := ⟨some 8, _, _, _, _, _⟩) (v := .bool true) rfl (by kernel_rfl) (by kernel_rfl) (by kernel_rfl) (fun _ _ _ h => h) (Or.inl ⟨by rfl, fun wq hSw => ?_⟩) (by assumption) ?_
              · go_simp
              try simp only [Act.put, List.setIfInBounds_toArray, List.set_cons_zero, List.set_cons_succ]
              refine wpAnyH_done (by kernel_rfl) ?_ _
              unfold Exit.then
              dsimp only
              go_wp2
              go_ret
              exact ⟨rfl, HP.out.1.below.trans (h2.2.2.mono HP.out.1.below.size)⟩)
            | (
              refine wpAnyH_take (i := 0) (oi := ⟨some 75, _, _, _, _, _⟩) (v := .bool true) rfl (by kernel_rfl) (by kernel_rfl) (by kernel_rfl) (fun _ _ _ h => h) (Or.inl ⟨by rfl, fun wq hSw => ?_⟩) (by assumption) ?_
              · go_simp
              try simp only [Act.put, List.setIfInBounds_toArray, List.set_cons_zero, List.set_cons_succ]
              refine wpAnyH_take (i := 1) (oi := ⟨some 76, _, _, _, _, _⟩) (v := .bool false) rfl (by kernel_rfl) (by kernel_rfl) (by kernel_rfl) (fun _ _ _ h => h) (Or.inl ⟨by rfl, fun wq hSw => ?_⟩) (by assumption) ?_
              · go_simp
              try simp only [Act.put, List.setIfInBounds_toArray, List.set_cons_zero, List.set_cons_succ]
              refine wpAnyH_take (i := 2) (oi := ⟨some 77, _, _, _, _, _⟩) (v := .bool true) rfl (by kernel_rfl) (by kernel_rfl) (by kernel_rfl) (fun _ _ _ h => h) (Or.inl ⟨by rfl, fun wq hSw => ?_⟩) (by assumption) ?_
              · go_simp
              try simp only [Act.put, List.setIfInBounds_toArray, List.set_cons_zero, List.set_cons_succ]
              refine wpAnyH_take (i := 3) (oi := ⟨some 78, _, _, _, _, _⟩) (v := .bool true) rfl (by kernel_rfl) (by kernel_rfl) (by kernel_rfl) (fun _ _ _ h => h) (Or.inl ⟨by rfl, fun wq hSw => ?_⟩) (by assumption) ?_
              · go_simp
              try simp only [Act.put, List.setIfInBounds_toArray, List.set_cons_zero, List.set_cons_succ]
              refine wpAnyH_take (i := 4) (oi := ⟨some 79, _, _, _, _, _⟩) (v := .bool true) rfl (by kernel_rfl) (by kernel_rfl) (by kernel_rfl) (fun _ _ _ h => h) (Or.inl ⟨by rfl, fun wq hSw => ?_⟩) (by assumption) ?_
              · go_simp
              try simp only [Act.put, List.setIfInBounds_toArray, List.set_cons_zero, List.set_cons_succ]
              refine wpAnyH_take (i := 5) (oi := ⟨some 80, _, _, _, _, _⟩) (v := .agg (Dk.secCells Y)) rfl (by kernel_rfl) (by kernel_rfl) (by kernel_rfl) (fun _ _ _ h => h) (Lf.yields_sec (by rfl) _ rfl g14 rfl Y (fun _ h => h.1)) (by assumption) ?_
              try simp only [Act.put, List.setIfInBounds_toArray, List.set_cons_zero, List.set_cons_succ]
              refine wpAnyH_take (i := 7) (oi := ⟨some 82, _, _, _, _, _⟩) (v := .agg (Dk.secCells Y)) rfl (by kernel_rfl) (by kernel_rfl) (by kernel_rfl) (fun _ _ _ h => h) (Lf.yields_sec (by rfl) _ rfl g11 rfl Y (fun _ h => h.2.1)) (by assumption) ?_
              try simp only [Act.put, List.setIfInBounds_toArray, List.set_cons_zero, List.set_cons_succ]
              refine wpAnyH_ready (rs := [6]) (by kernel_rfl) (by simp) ?_
              refine AllReadyH.cons (o := ⟨some 81, _, _, _, _, _⟩) rfl (fun K hK => ?_) AllReadyH.nil
              go_simp
              refine (MM.out _ h0.2.2).mono ?_
              rintro e wA ⟨rfl, hzwA⟩
              go_wp2_with fail
              refine hK.out _ _ ⟨Lf.Sec.below HP.out.2.2.2 hzwA, Lf.Sec.below HP.out.2.2.1 hzwA, hzwA⟩ (fun h1 => ?_)
              clear hK K
              try simp only [Act.put, List.setIfInBounds_toArray, List.set_cons_zero, List.set_cons_succ]
              refine wpAnyH_ready (rs := [8]) (by kernel_rfl) (by simp) ?_
              refine AllReadyH.cons (o := ⟨some 83, _, _, _, _, _⟩) rfl (fun K hK => ?_) AllReadyH.nil
              go_simp
              refine (MR.out _ h1.2.2).mono ?_
              rintro e wB ⟨rfl, hzwB⟩
              go_wp2_with fail
              refine hK.out _ _ ⟨Lf.Sec.below HP.out.2.2.2 hzwB, Lf.Sec.below HP.out.2.2.1 hzwB, hzwB⟩ (fun h2 => ?_)
              clear hK K
              try simp only [Act.put, List.setIfInBounds_toArray, List.set_cons_zero, List.set_cons_succ]
              refine wpAnyH_take (i := 9) (oi := ⟨some 84, _, _, _, _, _⟩) (v := .bool true) rfl (by kernel_rfl) (by kernel_rfl) (by kernel_rfl) (fun _ _ _ h => h) (Or.inl ⟨by rfl, fun wq hSw => ?_⟩) (by assumption) ?_
              · go_simp
              try simp only [Act.put, List.setIfInBounds_toArray, List.set_cons_zero, List.set_cons_succ]
              refine wpAnyH_take (i := 10) (oi := ⟨some 85, _, _, _, _, _⟩) (v := .bool true) rfl (by kernel_rfl) (by kernel_rfl) (by kernel_rfl) (fun _ _ _ h => h) (Or.inl ⟨by rfl, fun wq hSw => ?_⟩) (by assumption) ?_
              · go_simp
              try simp only [Act.put, List.setIfInBounds_toArray, List.set_cons_zero, List.set_cons_succ]
              refine wpAnyH_take (i := 11) (oi := ⟨some 8, _, _, _, _, _⟩) (v := .bool true) rfl (by kernel_rfl) (by kernel_rfl) (by kernel_rfl) (fun _ _ _ h => h) (Or.inl ⟨by rfl, fun wq hSw => ?_⟩) (by assumption) ?_
              · go_simp
              try simp only [Act.put, List.setIfInBounds_toArray, List.set_cons_zero, List.set_cons_succ]
              refine wpAnyH_done (by kernel_rfl) ?_ _
              unfold Exit.then
              dsimp only
              go_wp2
              go_ret
              exact ⟨rfl, HP.out.1.below.trans (h2.2.2.mono HP.out.1.below.size)⟩)
        · have hzy : (Z == Y) = false := beq_eq_false_iff_ne.2 hZY
          have HTF : Hid (Tz = false) := Lib.hid (by
            rw [← HPT.out.2, ← HZ.out]
            exact Lf.torn_none hXl hYl t tn HXX.out.2.2 HXY.out.1 HXY.out.2.1 (by rw [HZ.out]; exact hZX) (by rw [HZ.out]; exact hZY))
          obtain rfl : Tz = false := HTF.out
          clear hZX hZY HTF
          go_wp2_with (first
            | ((with_reducible refine Dk.load_sec (w := w14) (op := ⟨some 63, _, _, _, _, _⟩) ?_ (.tmp 14) ?_ _ ?_ _ hSZ ?_); (next => rfl); (next => rfl); (next => rfl))
            | ((with_reducible refine Dk.load_sec (w := w14) (op := ⟨some 64, _, _, _, _, _⟩) ?_ (.tmp 9) ?_ _ ?_ _ hSX ?_); (next => rfl); (next => rfl); (next => rfl))
            | ((with_reducible refine Lf.eql_sec_w (op := ⟨some 65, _, _, _, _, _⟩) ?_ (.tmp 63) (.tmp 64) ?_ _ _ ?_ ?_ hZl hXl false hzx ?_); (next => rfl); (next => rfl); (next => rfl); (next => rfl))
            | ((with_reducible refine Dk.load_sec (w := w14) (op := ⟨some 72, _, _, _, _, _⟩) ?_ (.tmp 14) ?_ _ ?_ _ hSZ ?_); (next => rfl); (next => rfl); (next => rfl))
            | ((with_reducible refine Dk.load_sec (w := w14) (op := ⟨some 73, _, _, _, _, _⟩) ?_ (.tmp 11) ?_ _ ?_ _ hSY ?_); (next => rfl); (next => rfl); (next => rfl))
            | ((with_reducible refine Lf.eql_sec_w (op := ⟨some 74, _, _, _, _, _⟩) ?_ (.tmp 72) (.tmp 73) ?_ _ _ ?_ ?_ hZl hYl false hzy ?_); (next => rfl); (next => rfl); (next => rfl); (next => rfl)))
          go_ret
          exact ⟨rfl, H14.out.1.below⟩

set_option maxRecDepth 100000 in
theorem lifted (os : Os) (started : os.Started) (H : Type) (enc : TypeId × Value → H) :
    ReturnsInHanded {} Try.checked os 7 .any (Rows.leafTornSpec.pre6 enc Try.prog Try.f7 Rows.leafTornRow.domain false) (Rows.leafTornSpec.post enc Try.prog Try.f7 false true false false) := by
  refine returnsInHanded_of_change (C := Try.checked) own started (by kernel_rfl) Try.func7
    (ChangeSpec.witness6 (enc := enc) (C := Try.checked) false ⟨#[], #[.agg #[.int .u32 0, .int .u32 0, .bool false, .bool false, .slice none 0 0], .agg #[.int .u32 0, .int .u32 0, .bool false, .bool false, .slice none 0 0], .int .i64 0, .bool false], []⟩ 8 (by kernel_rfl) (by kernel_rfl) (by kernel_rfl) (by kernel_rfl)) ?_
  intro W base args ds gs before hval0 hW hcnd _
  have hval : ∀ (j : Nat) t v, Try.f7.params[j]? = some t → args[j]? = some v → Value.okWide Try.prog W .any base t v := hval0
  have hW' := hW
  obtain ⟨p, q, hA0, hV, rfl, hfz, hnd⟩ := hW
  have hA : DataW.TrodAll enc Try.prog W 0 (fun _ => true) true Try.f7.params.toList args.toList ds p := hA0
  rw [Try.params7] at hA hval
  obtain ⟨v0, vs0, d0, ds0, p0, q0, hargs, rfl, rfl, h0, r0⟩ := trodAll_cons hA
  obtain ⟨v1, vs1, d1, ds1, p1, q1, rfl, rfl, rfl, h1, r1⟩ := trodAll_cons r0
  obtain ⟨v2, vs2, d2, ds2, p2, q2, rfl, rfl, rfl, h2, r2⟩ := trodAll_cons r1
  obtain ⟨v3, vs3, d3, ds3, p3, q3, rfl, rfl, rfl, h3, r3⟩ := trodAll_cons r2
  obtain ⟨rfl, rfl, rfl⟩ := trodAll_nil r3
  obtain rfl : args = #[v0, v1, v2, v3] := by cases args; simp_all
  obtain ⟨e0, n0, f0, l0, A0, m0, c0, d0, rfl, p0, q0, x0, z0, u0, y0⟩ := Lf.open_leaf (hval 0 25 v0 rfl rfl) h0
  obtain ⟨e1, n1, f1, l1, A1, m1, c1, d1, rfl, p1, q1, x1, z1, u1, y1⟩ := Lf.open_leaf (hval 1 25 v1 rfl rfl) h1
  obtain ⟨a2, rfl, _, _, w2⟩ := open_int Try.underlying3 (hval 2 3 v2 rfl rfl) h2
  obtain ⟨a3, rfl, _, _⟩ := open_bool Try.underlying4 (hval 3 4 v3 rfl rfl) h3
  refine (walk W e0 n0 m0 c0 f0 l0 A0 d0 x0 z0 u0 p0 q0 y0 e1 n1 m1 c1 f1 l1 A1 d1 x1 z1 u1 p1 q1 y1 a2 w2 a3).mono fun e W' ⟨he, hb⟩ => ?_
  subst he
  exact ⟨_, rfl, Hk.closeLaw (tb := 4) (by kernel_rfl) (by kernel_rfl) rfl rfl rfl Try.underlying4 hW' hb⟩

theorem over : Rows.leafTornRow.holds Try.pinned (OpenSpec.ofChange Rows.leafTornSpec) :=
  OpenClaim.holds_of_wide 7 Try.f7 rfl rfl rfl rfl rfl rfl rfl ⟨rfl, rfl, rfl, rfl, rfl⟩ rfl rfl rfl rfl rfl (by kernel_rfl) Try.func7 (by kernel_rfl)
    (of_decide_eq_true (by kernel_rfl)) (by unfold Func.isWrapper; first | (rw [if_pos (by decide +kernel)]; kernel_rfl) | (rw [if_neg (by decide +kernel)]; exact ⟨rfl, rfl⟩))
    (fun os started H enc _ => lifted os started H enc)

/-- The statement. -/
theorem proved : Rows.LeafTornSaid :=
  over
end Go.Proofs.Ytbicdmhmpmdoeaa.leafTorn
