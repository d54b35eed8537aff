/- P16.1, P16.2: any promo, any units, and any places of them; nothing is turned; for every promo, slice of units, and slice of slices of ints. No conditions. -/
import Derived.Test.YtljmddjlnlmenaaGreatPq0
import Derived.Test.YtljmddjlnlmenaaGreatPq10
import Derived.Test.YtljmddjlnlmenaaGreatPq15
import Derived.Test.YtljmddjlnlmenaaGreatPq24
import Derived.Test.YtljmddjlnlmenaaGreatPq27
import Derived.Test.YtljmddjlnlmenaaGreatPq31
import Derived.Test.YtljmddjlnlmenaaGreatPq36
import Derived.Test.YtljmddjlnlmenaaGreatPq40
import Derived.Test.YtljmddjlnlmenaaGreatPq41
import Derived.Test.YtljmddjlnlmenaaGreatPq9
set_option maxRecDepth 100000
set_option linter.unusedVariables false

namespace Go.Proofs.YtljmddjlnlmenaaGreat.dealRaw
open Go.ChangeShapes Go.WideShapes Go.ChangeAt Go.RowKit
open Ap (Scp Prt Tir Prm Unt kPrm kPrt kTir kUnt row_Prm row_Unt row_Tir)
open Kd (Kind Row Cells Fit Agree Lst Sl kStr kInt kList row_int row_list)
open Ko (Out Told Told2 At row_on)
open Dl
open Ct (nth nth_some UnitsMay take_next unitsOf unitsOf_may unitsOf_length units_any mineL mineFrom_length mine_any mine_may MadeN Turned turned_in anew_on holds_in holds_only withKind small_of nope)
theorem own : ownKnob Tryz.prog.godebug = none := by kernel_rfl
structure Raws (w W : World) (p : Prm) (l : Prm.Lay) (A : Option Addr) (n : Nat) (us : List Unt) (B : Option Addr) (m : Nat) (ls : List (List Int)) (A0 : Option Addr) (n0 c0 gb ob : Nat) (ms : List Int) : Prop where
  blk : Qu.Blk W w.heap.size 28 #[.string p.id, .int .i64 p.kind, .int .i64 p.priority, .string p.group, .string p.code, .bool p.closes, .slice l.scope.skus.A l.scope.skus.n l.scope.skus.c, .slice l.scope.cats.A l.scope.cats.n l.scope.cats.c, .int .i64 p.least, .int .i64 p.rate, .int .i64 p.amount, .int .i64 p.buy, .int .i64 p.get, .slice l.parts.A l.parts.n l.parts.c, .slice l.tiers.A l.tiers.n l.tiers.c]
  holds : Ap.Prm.Holds W (· < W.heap.size) p l
  un : Row kUnt W (· < W.heap.size) A n us
  ls_ : Row (kList kInt) W (· < W.heap.size) B m ls
  ms_ : Row kInt W (· < W.heap.size) A0 n0 ms
  hd : W.cell? ⟨gb, ob, none⟩ = some (.slice A0 n0 c0)
  lt : gb < W.heap.size
  below : Below w.heap.size w W
theorem Raws.on {w W u : World} {p : Prm} {l : Prm.Lay} {A : Option Addr} {n : Nat} {us : List Unt} {B : Option Addr} {m : Nat} {ls : List (List Int)} {A0 : Option Addr} {n0 c0 gb ob : Nat} {ms : List Int} (h : Raws w W p l A n us B m ls A0 n0 c0 gb ob ms) (hb : Below W.heap.size W u) : Raws w u p l A n us B m ls A0 n0 c0 gb ob ms :=
  ⟨h.blk.below hb, Pr.holds_later h.holds hb, row_on h.un hb, row_on h.ls_ hb, row_on h.ms_ hb, (hb.cell (p := ⟨gb, _, none⟩) h.lt).trans h.hd, Nat.lt_of_lt_of_le h.lt hb.size, h.below.trans (hb.mono h.below.size)⟩
structure Copies (W : World) (n : Nat) (us : List Unt) (n0 : Nat) (ms : List Int) (g3 g4 : Nat) : Prop where
  un : Row kUnt W (· < W.heap.size) (some ⟨g3, 0, none⟩) (n + 3) (us ++ [⟨71, 0, false⟩, ⟨71, 0, false⟩, ⟨71, 0, false⟩])
  ms_ : Row kInt W (· < W.heap.size) (some ⟨g4, 0, none⟩) (n0 + 3) (ms ++ [71, 71, 71])
theorem Copies.on {W u : World} {n : Nat} {us : List Unt} {n0 : Nat} {ms : List Int} {g3 g4 : Nat} (h : Copies W n us n0 ms g3 g4) (hb : Below W.heap.size W u) : Copies u n us n0 ms g3 g4 := ⟨row_on h.un hb, row_on h.ms_ hb⟩
set_option maxHeartbeats 8000000 in
theorem walk (w : World) (p : Prm) (l : Prm.Lay) (hP : Ap.Prm.Holds w (· < w.heap.size) p l) (A : Option Addr) (n c : Nat) (us : List Unt) (hU : Row kUnt w (· < w.heap.size) A n us) (hfU : Kd.Fit A n c) (B : Option Addr) (m d : Nat) (ls : List (List Int)) (hL : Row (kList kInt) w (· < w.heap.size) B m ls) (hfL : Kd.Fit B m d) :
    Calls Tryz.prog 3 #[.agg #[.string p.id, .int .i64 p.kind, .int .i64 p.priority, .string p.group, .string p.code, .bool p.closes, .slice l.scope.skus.A l.scope.skus.n l.scope.skus.c, .slice l.scope.cats.A l.scope.cats.n l.scope.cats.c, .int .i64 p.least, .int .i64 p.rate, .int .i64 p.amount, .int .i64 p.buy, .int .i64 p.get, .slice l.parts.A l.parts.n l.parts.c, .slice l.tiers.A l.tiers.n l.tiers.c], .slice A n c, .slice B m d] w fun e w' => e = .returned (.bool true) /\ Below w.heap.size w w' := by
  obtain ⟨W1, hW1⟩ : ∃ W1, w.alloc (.cells #[.string p.id, .int .i64 p.kind, .int .i64 p.priority, .string p.group, .string p.code, .bool p.closes, .slice l.scope.skus.A l.scope.skus.n l.scope.skus.c, .slice l.scope.cats.A l.scope.cats.n l.scope.cats.c, .int .i64 p.least, .int .i64 p.rate, .int .i64 p.amount, .int .i64 p.buy, .int .i64 p.get, .slice l.parts.A l.parts.n l.parts.c, .slice l.tiers.A l.tiers.n l.tiers.c] 28) = W1 := ⟨_, rfl⟩
  have hb1 : Below w.heap.size w W1 := by rw [<- hW1]; exact (Below.refl _ _).alloc (Nat.le_refl _) _
  have hx1 : Qu.Blk W1 w.heap.size 28 #[.string p.id, .int .i64 p.kind, .int .i64 p.priority, .string p.group, .string p.code, .bool p.closes, .slice l.scope.skus.A l.scope.skus.n l.scope.skus.c, .slice l.scope.cats.A l.scope.cats.n l.scope.cats.c, .int .i64 p.least, .int .i64 p.rate, .int .i64 p.amount, .int .i64 p.buy, .int .i64 p.get, .slice l.parts.A l.parts.n l.parts.c, .slice l.tiers.A l.tiers.n l.tiers.c] := by rw [<- hW1]; exact Qu.Blk.new w _ _
  have HFw := Lib.hid (few_any p l A n c B m d ls W1 (Pr.holds_later hP hb1) (row_on hL hb1) (by have := hfL.2; omega))
  unfold FewQ at HFw
  have HB1 := Lib.hid hb1
  have x0 := hx1.cell 0
  have x1 := hx1.cell 1
  have x2 := hx1.cell 2
  have x3 := hx1.cell 3
  have x4 := hx1.cell 4
  have x5 := hx1.cell 5
  have x6 := hx1.cell 6
  have x7 := hx1.cell 7
  have x8 := hx1.cell 8
  have x9 := hx1.cell 9
  have x10 := hx1.cell 10
  have x11 := hx1.cell 11
  have x12 := hx1.cell 12
  have x13 := hx1.cell 13
  have x14 := hx1.cell 14
  have HX := Lib.hid hx1
  have HP := Lib.hid hP
  have HU := Lib.hid hU
  have HL := Lib.hid hL
  have HFu := Lib.hid hfU
  have HFl := Lib.hid hfL
  clear hx1 hP hU hfU hL hfL
  go_enter Tryz.func3, Tryz.ntmps3
  go_wp2_with fail
  clear hW1 hb1
  refine HFw.out.mono ?_
  rintro e w2 ⟨b, rfl, hfew, hb2⟩
  clear x0 x1 x2 x3 x4 x5 x6 x7 x8 x9 x10 x11 x12 x13 x14
  cases b with
  | false =>
    clear hfew HFw HX HP HU HL HFu HFl
    have HA := Lib.hid (awake_any w2)
    have HBq := Lib.hid (HB1.out.trans (hb2.mono HB1.out.size))
    go_wp2_with fail
    refine HA.out.mono ?_
    rintro e wz ⟨rfl, hbz⟩
    have HBz := Lib.hid (HBq.out.trans (hbz.mono HBq.out.size))
    clear hbz
    go_wp2
    go_ret
    exact ⟨rfl, HBz.out⟩
  | true =>
    by_cases hm0 : m = 0
    . subst hm0
      clear hfew HFw HX HP HU HL HFu HFl
      have HA := Lib.hid (awake_any w2)
      have HBq := Lib.hid (HB1.out.trans (hb2.mono HB1.out.size))
      go_wp2_with fail
      refine HA.out.mono ?_
      rintro e wz ⟨rfl, hbz⟩
      have HBz := Lib.hid (HBq.out.trans (hbz.mono HBq.out.size))
      clear hbz
      go_wp2
      go_ret
      exact ⟨rfl, HBz.out⟩
    have b0 : ((m : Int) == 0) = false := by rw [beq_eq_false_iff_ne]; omega
    have m0 : (0 : Int) < (m : Int) := by omega
    have m1 : 0 < m := by omega
    obtain ⟨hfw, hl20, hl200⟩ := hfew rfl
    have hn2 : n <= 200 := hfw.units
    have hm20 : m <= 20 := by rw [<- HL.out.len]; exact hl20
    have HS := Lib.hid (small_of HP.out hfw.skus hfw.cats hfw.parts hfw.tiers)
    have hbb := HB1.out.trans (hb2.mono HB1.out.size)
    have hl2 := row_on HL.out hbb
    obtain ⟨ms, hms⟩ := hl2.get m1
    obtain ⟨gb, ob, lm, hBe, hgb, _, hlm, a0⟩ := row_list hl2 hms
    obtain ⟨A0, n0, c0⟩ := lm
    have hlr : Row kInt w2 (· < w2.heap.size) A0 n0 ms := hlm.row
    have hlf : Kd.Fit A0 n0 c0 := hlm.fit
    have a1 : w2.cell? ⟨gb, ob, none⟩ = some (.slice A0 n0 c0) := a0
    have hn0 : n0 <= 200 := by rw [<- hlr.len]; exact hl200 ms (List.mem_of_getElem? hms)
    have HR : Hid (Raws w w2 p l A n us B m ls A0 n0 c0 gb ob ms) := Lib.hid ⟨HX.out.below hb2, Pr.holds_later (Pr.holds_later HP.out HB1.out) hb2, row_on HU.out hbb, hl2, hlr, a1, hgb, hbb⟩
    have HL2 := Lib.hid hl200
    have HF0 := Lib.hid hlf
    subst hBe
    have d0 : ∀ u, Below w2.heap.size w2 u -> u.cell? ⟨gb, ob, none⟩ = some (.slice A0 n0 c0) := fun u hu => (HR.out.on hu).hd
    have HOu := Lib.hid (fun (u : World) (hu : Below w2.heap.size w2 u) => Ap.Unt.own_any A n c us ⟨71, 0, false⟩ u (HR.out.on hu).un HFu.out ⟨by decide, by decide⟩ (by omega))
    have HOi := Lib.hid (fun (u : World) (hu : Below w2.heap.size w2 u) => Hp.own_int A0 n0 c0 ms 71 u (HR.out.on hu).ms_ HF0.out (by decide) (by omega))
    unfold Kd.Owned at HOu HOi
    clear hfew hfw hl20 hl200 HFw HX HP HU HL hb2 hbb hl2 hms hgb hlm a0 a1 hlr hlf HB1
    go_upto_region 3 with (fail)
    go_cut [7, 8] from 28 to 34 (fun s7 s8 wx => ∃ g3 g4 : Nat, s7 = .slice (some ⟨g3, 0, none⟩) n (n + 3) /\ s8 = .slice (some ⟨g4, 0, none⟩) n0 (n0 + 3) /\ Hid (Raws w wx p l A n us (some ⟨gb, ob, none⟩) m ls A0 n0 c0 gb ob ms /\ Copies wx n us n0 ms g3 g4))
    case first =>
      refine wp_region_held_drew (S := fun u => Below w2.heap.size w2 u) (by kernel_rfl) ((Below.refl _ _).drew) (fun hS0 => ?_)
      refine pkT 0 28 hS0 ?_
      try simp only [Act.put, pkA, pkB, pkC]
      refine pkT 1 29 hS0 ?_
      try simp only [Act.put, pkA, pkB, pkC]
      refine pkT 3 31 hS0 ?_
      try simp only [Act.put, pkA, pkB, pkC]
      refine pkT 4 32 hS0 ?_
      try simp only [Act.put, pkA, pkB, pkC]
      refine pkT 5 33 hS0 ?_
      try simp only [Act.put, pkA, pkB, pkC]
      refine wpAnyH_ready (rs := [2]) (by kernel_rfl) (by simp) ?_
      refine AllReadyH.cons (o := ⟨some 30, _, _, _, _, _⟩) rfl (fun K hK => ?_) AllReadyH.nil
      go_simp
      refine (HOu.out _ hS0).mono ?_
      rintro e wU ⟨g3, rfl, _, _, hoU, hbU⟩
      have hyU : Below w2.heap.size w2 wU := Below.trans hS0 (hbU.mono (Below.size hS0))
      go_wp2_with fail
      refine hK.out _ _ (hyU) (fun hS1 => ?_)
      clear hK K
      try simp only [Act.put, pkA, pkB, pkC]
      refine wpAnyH_ready (rs := [6]) (by kernel_rfl) (by simp) ?_
      refine AllReadyH.cons (o := ⟨some 34, _, _, _, _, _⟩) rfl (fun K hK => ?_) AllReadyH.nil
      go_simp
      refine (HOi.out _ hS1).mono ?_
      rintro e wI ⟨g4, rfl, _, _, hoI, hbI⟩
      have hyI : Below w2.heap.size w2 wI := Below.trans hS1 (hbI.mono (Below.size hS1))
      go_wp2_with fail
      refine hK.out _ _ (hyI) (fun hS2 => ?_)
      clear hK K
      try simp only [Act.put, pkA, pkB, pkC]
      refine pkT 7 7 hS2 ?_
      try simp only [Act.put, pkA, pkB, pkC]
      refine pkT 8 8 hS2 ?_
      try simp only [Act.put, pkA, pkB, pkC]
      refine wpAnyH_done (by kernel_rfl) ?_ _
      go_wp2_with fail
      go_meet
      first | exact ⟨g3, g4, rfl, rfl, Lib.hid ⟨HR.out.on hyI, ⟨row_on hoU hbI, hoI⟩⟩⟩ | exact ⟨g3, g4, rfl, rfl, Lib.hid ⟨HR.out.on hyU, ⟨hoU, row_on hoI hbU⟩⟩⟩
    case rest =>
      obtain ⟨g3, g4, rfl, rfl, HC⟩ := hcut
      clear HR HOu HOi d0
      have hUl := HC.out.1.un.len
      have hMl := HC.out.1.ms_.len
      have H5 := lbuyget_any p l (some ⟨g3, 0, none⟩) n (n + 3) us (some ⟨g4, 0, none⟩) n0 (n0 + 3) ms wc HC.out.1.holds HS.out (Kd.row_front HC.out.2.un hUl) ⟨fun h => (by cases h), by omega, by omega⟩ (Kd.row_front HC.out.2.ms_ hMl) (by omega) (by omega)
      have H6 := fun W (hb : Below wc.heap.size wc W) => rbuyget_any p l A n c us A0 n0 c0 ms W (HC.out.1.on hb).holds HS.out (HC.out.1.on hb).un HFu.out (HC.out.1.on hb).ms_ (by omega) (by omega)
      unfold Ko.Told2 at H5 H6
      obtain ⟨ys, hys⟩ : ∃ ys, (buygetU p us ms).1 = ys := ⟨_, rfl⟩
      obtain ⟨z, hz⟩ : ∃ z, (buygetU p us ms).2 = z := ⟨_, rfl⟩
      have hyl : ys.length = us.length := by rw [<- hys]; unfold buygetU; split; exact Ct.less_length _ _ _ _; rfl
      rw [hUl] at hyl
      simp only [hys, hz, hyl] at H5 H6
      have H7 := fun W (hb : Below wc.heap.size wc W) => lbundle_any p l (some ⟨g3, 0, none⟩) n (n + 3) us (some ⟨gb, ob, none⟩) m d ls W (HC.out.1.on hb).holds HS.out (Kd.row_front (HC.out.2.on hb).un hUl) ⟨fun h => (by cases h), by omega, by omega⟩ (HC.out.1.on hb).ls_ (by omega) (by omega) (fun x hx => by have := HL2.out x hx; omega)
      have H8 := fun W (hb : Below wc.heap.size wc W) => rbundle_any p l A n c us (some ⟨gb, ob, none⟩) m d ls W (HC.out.1.on hb).holds HS.out (HC.out.1.on hb).un HFu.out (HC.out.1.on hb).ls_ (by omega) (by omega) (fun x hx => by have := HL2.out x hx; omega)
      unfold Ko.Told2 at H7 H8
      obtain ⟨xs, hxs⟩ : ∃ ys, (bundleU p us ls).1 = ys := ⟨_, rfl⟩
      obtain ⟨v, hv⟩ : ∃ z, (bundleU p us ls).2 = z := ⟨_, rfl⟩
      have hxl : xs.length = us.length := by rw [<- hxs]; unfold bundleU; split; exact Ct.less_length _ _ _ _; rfl
      rw [hUl] at hxl
      simp only [hxs, hv, hxl] at H7 H8
      have H5h := Lib.hid H5
      have H6h := Lib.hid H6
      have H7h := Lib.hid H7
      have H8h := Lib.hid H8
      have hx := HC.out.1.blk
      have x0 := hx.cell 0
      have x1 := hx.cell 1
      have x2 := hx.cell 2
      have x3 := hx.cell 3
      have x4 := hx.cell 4
      have x5 := hx.cell 5
      have x6 := hx.cell 6
      have x7 := hx.cell 7
      have x8 := hx.cell 8
      have x9 := hx.cell 9
      have x10 := hx.cell 10
      have x11 := hx.cell 11
      have x12 := hx.cell 12
      have x13 := hx.cell 13
      have x14 := hx.cell 14
      clear H5 H6 H7 H8 hys hz hyl hxs hv hxl hx hUl hMl
      go_wp2_with fail
      refine H5h.out.mono ?_
      rintro e w5 ⟨A5, c5, rfl, ho5, hb5⟩
      clear x0 x1 x2 x3 x4 x5 x6 x7 x8 x9 x10 x11 x12 x13 x14
      have HR5 := Lib.hid ho5.read
      have HB5 := Lib.hid hb5
      have H6 := Lib.hid (fun (u : World) (hu : Below w5.heap.size w5 u) => H6h.out u (hb5.trans (hu.mono hb5.size)))
      have hx := HC.out.1.on hb5
      have x0 : ∀ u, Below w5.heap.size w5 u -> u.cell? ⟨w.heap.size, 0, none⟩ = _ := fun u hu => (hx.blk.below hu).cell 0
      have x1 : ∀ u, Below w5.heap.size w5 u -> u.cell? ⟨w.heap.size, 1, none⟩ = _ := fun u hu => (hx.blk.below hu).cell 1
      have x2 : ∀ u, Below w5.heap.size w5 u -> u.cell? ⟨w.heap.size, 2, none⟩ = _ := fun u hu => (hx.blk.below hu).cell 2
      have x3 : ∀ u, Below w5.heap.size w5 u -> u.cell? ⟨w.heap.size, 3, none⟩ = _ := fun u hu => (hx.blk.below hu).cell 3
      have x4 : ∀ u, Below w5.heap.size w5 u -> u.cell? ⟨w.heap.size, 4, none⟩ = _ := fun u hu => (hx.blk.below hu).cell 4
      have x5 : ∀ u, Below w5.heap.size w5 u -> u.cell? ⟨w.heap.size, 5, none⟩ = _ := fun u hu => (hx.blk.below hu).cell 5
      have x6 : ∀ u, Below w5.heap.size w5 u -> u.cell? ⟨w.heap.size, 6, none⟩ = _ := fun u hu => (hx.blk.below hu).cell 6
      have x7 : ∀ u, Below w5.heap.size w5 u -> u.cell? ⟨w.heap.size, 7, none⟩ = _ := fun u hu => (hx.blk.below hu).cell 7
      have x8 : ∀ u, Below w5.heap.size w5 u -> u.cell? ⟨w.heap.size, 8, none⟩ = _ := fun u hu => (hx.blk.below hu).cell 8
      have x9 : ∀ u, Below w5.heap.size w5 u -> u.cell? ⟨w.heap.size, 9, none⟩ = _ := fun u hu => (hx.blk.below hu).cell 9
      have x10 : ∀ u, Below w5.heap.size w5 u -> u.cell? ⟨w.heap.size, 10, none⟩ = _ := fun u hu => (hx.blk.below hu).cell 10
      have x11 : ∀ u, Below w5.heap.size w5 u -> u.cell? ⟨w.heap.size, 11, none⟩ = _ := fun u hu => (hx.blk.below hu).cell 11
      have x12 : ∀ u, Below w5.heap.size w5 u -> u.cell? ⟨w.heap.size, 12, none⟩ = _ := fun u hu => (hx.blk.below hu).cell 12
      have x13 : ∀ u, Below w5.heap.size w5 u -> u.cell? ⟨w.heap.size, 13, none⟩ = _ := fun u hu => (hx.blk.below hu).cell 13
      have x14 : ∀ u, Below w5.heap.size w5 u -> u.cell? ⟨w.heap.size, 14, none⟩ = _ := fun u hu => (hx.blk.below hu).cell 14
      have d0 : ∀ u, Below w5.heap.size w5 u -> u.cell? ⟨gb, ob, none⟩ = some (.slice A0 n0 c0) := fun u hu => (hx.on hu).hd
      clear hb5 ho5 H5h H6h hx
      go_upto_region 5 with (fail)
      refine wp_region_held_drew (S := fun u => Below w5.heap.size w5 u) (by kernel_rfl) ((Below.refl _ _).drew) (fun hS0 => ?_)
      refine pkT 0 43 hS0 ?_
      try simp only [Act.put, pkA, pkB, pkC]
      refine pkT 1 44 hS0 ?_
      try simp only [Act.put, pkA, pkB, pkC]
      refine pkT 2 45 hS0 ?_
      try simp only [Act.put, pkA, pkB, pkC]
      refine pkT 3 46 hS0 ?_
      try simp only [Act.put, pkA, pkB, pkC]
      refine pkT 4 47 hS0 ?_
      try simp only [Act.put, pkA, pkB, pkC]
      refine wpAnyH_ready (rs := [5]) (by kernel_rfl) (by simp) ?_
      refine AllReadyH.cons (o := ⟨some 48, _, _, _, _, _⟩) rfl (fun K hK => ?_) AllReadyH.nil
      go_simp
      refine (H6.out _ hS0).mono ?_
      rintro e w6 ⟨A6, c6, rfl, ho6, hb6⟩
      have hy6 : Below w5.heap.size w5 w6 := Below.trans hS0 (hb6.mono (Below.size hS0))
      go_wp2_with fail
      refine hK.out _ _ (hy6) (fun hS1 => ?_)
      clear hK K
      try simp only [Act.put, pkA, pkB, pkC]
      refine pkT 6 42 hS1 ?_
      try simp only [Act.put, pkA, pkB, pkC]
      refine pkT 7 49 hS1 ?_
      try simp only [Act.put, pkA, pkB, pkC]
      refine pkT 8 50 hS1 ?_
      try simp only [Act.put, pkA, pkB, pkC]
      refine pkT 9 11 hS1 ?_
      try simp only [Act.put, pkA, pkB, pkC]
      refine pkT 10 12 hS1 ?_
      try simp only [Act.put, pkA, pkB, pkC]
      refine wpAnyH_done (by kernel_rfl) ?_ _
      skip
      have HR56 := Lib.hid (row_on HR5.out hy6)
      have HR6 := Lib.hid ho6.read
      have HB6 := Lib.hid (HB5.out.trans (hy6.mono HB5.out.size))
      clear x0 x1 x2 x3 x4 x5 x6 x7 x8 x9 x10 x11 x12 x13 x14
      have hx := (HC.out.1.on HB6.out).blk
      have x0 := hx.cell 0
      have x1 := hx.cell 1
      have x2 := hx.cell 2
      have x3 := hx.cell 3
      have x4 := hx.cell 4
      have x5 := hx.cell 5
      have x6 := hx.cell 6
      have x7 := hx.cell 7
      have x8 := hx.cell 8
      have x9 := hx.cell 9
      have x10 := hx.cell 10
      have x11 := hx.cell 11
      have x12 := hx.cell 12
      have x13 := hx.cell 13
      have x14 := hx.cell 14
      have H7 := Lib.hid (H7h.out w6 HB6.out)
      clear hS0 hy6 hb6 ho6 H6 d0 H7h hx HR5 HB5
      go_wp2_with fail
      refine H7.out.mono ?_
      rintro e w7 ⟨A7, c7, rfl, ho7, hb7⟩
      clear x0 x1 x2 x3 x4 x5 x6 x7 x8 x9 x10 x11 x12 x13 x14
      have HB7 := Lib.hid (HB6.out.trans (hb7.mono HB6.out.size))
      have HR57 := Lib.hid (row_on HR56.out hb7)
      have HR67 := Lib.hid (row_on HR6.out hb7)
      have HR7 := Lib.hid ho7.read
      have H8 := Lib.hid (H8h.out w7 HB7.out)
      have hx := (HC.out.1.on HB7.out).blk
      have x0 := hx.cell 0
      have x1 := hx.cell 1
      have x2 := hx.cell 2
      have x3 := hx.cell 3
      have x4 := hx.cell 4
      have x5 := hx.cell 5
      have x6 := hx.cell 6
      have x7 := hx.cell 7
      have x8 := hx.cell 8
      have x9 := hx.cell 9
      have x10 := hx.cell 10
      have x11 := hx.cell 11
      have x12 := hx.cell 12
      have x13 := hx.cell 13
      have x14 := hx.cell 14
      clear ho7 hb7 H7 H8h hx HR56 HR6 HB6
      go_wp2_with fail
      refine H8.out.mono ?_
      rintro e w8 ⟨A8, c8, rfl, ho8, hb8⟩
      clear x0 x1 x2 x3 x4 x5 x6 x7 x8 x9 x10 x11 x12 x13 x14
      have HB8 := Lib.hid (HB7.out.trans (hb8.mono HB7.out.size))
      have HR58 := Lib.hid (row_on HR57.out hb8)
      have HR68 := Lib.hid (row_on HR67.out hb8)
      have HR78 := Lib.hid (row_on HR7.out hb8)
      have HR8 := Lib.hid ho8.read
      have HA := Lib.hid (awake_any w8)
      clear ho8 hb8 H8 HR57 HR67 HR7 HB7
      go_wp2_with fail
      refine HA.out.mono ?_
      rintro e w9 ⟨rfl, hb9⟩
      have HB9 := Lib.hid (HB8.out.trans (hb9.mono HB8.out.size))
      have H10 := Ap.Unt.plain_any A5 A6 n n c5 c6 ys ys _ w9 (row_on HR58.out hb9) (row_on HR68.out hb9) (fun b hb => hb) (by omega)
      rw [Kd.eqL_refl (fun y => Ap.Unt.sameB_refl y)] at H10
      have H10h := Lib.hid H10
      have HR79 := Lib.hid (row_on HR78.out hb9)
      have HR89 := Lib.hid (row_on HR8.out hb9)
      clear hb9 HA H10 HR58 HR68 HR78 HR8 HB8
      go_wp2_with fail
      refine H10h.out.mono ?_
      rintro e w10 ⟨rfl, hb10⟩
      have HB10 := Lib.hid (HB9.out.trans (hb10.mono HB9.out.size))
      have H11 := Ap.Unt.plain_any A7 A8 n n c7 c8 xs xs _ w10 (row_on HR79.out hb10) (row_on HR89.out hb10) (fun b hb => hb) (by omega)
      rw [Kd.eqL_refl (fun y => Ap.Unt.sameB_refl y)] at H11
      have H11h := Lib.hid H11
      clear hb10 H10h H11 HR79 HR89 HB9
      go_wp2_with fail
      refine H11h.out.mono ?_
      rintro e w11 ⟨rfl, hb11⟩
      have HB11 := Lib.hid (HB10.out.trans (hb11.mono HB10.out.size))
      have H12 := Lib.hid (Ap.Unt.kept_any (some ⟨g3, 0, none⟩) A n c us ⟨71, 0, false⟩ _ w11 (HC.out.2.on HB11.out).un (HC.out.1.on HB11.out).un (fun b hb => hb) (by omega))
      clear hb11 H11h HB10
      go_wp2_with fail
      refine H12.out.mono ?_
      rintro e w12 ⟨rfl, hb12⟩
      have HB12 := Lib.hid (HB11.out.trans (hb12.mono HB11.out.size))
      have H13 := Lib.hid (Hp.kept_int (some ⟨g4, 0, none⟩) A0 n0 c0 ms 71 _ w12 (HC.out.2.on HB12.out).ms_ (HC.out.1.on HB12.out).ms_ (fun b hb => hb) (by omega))
      have d0 := (HC.out.1.on HB12.out).hd
      clear hb12 H12 HB11
      go_wp2_with fail
      refine H13.out.mono ?_
      rintro e w13 ⟨rfl, hb13⟩
      have HB13 := Lib.hid (HC.out.1.below.trans ((HB12.out.trans (hb13.mono HB12.out.size)).mono HC.out.1.below.size))
      clear hb13 H13 d0
      go_wp2
      go_ret
      exact ⟨rfl, HB13.out⟩
set_option maxRecDepth 100000 in
theorem lifted (os : Os) (started : os.Started) (H : Type) (enc : TypeId × Value -> H) :
    ReturnsInHanded {} Tryz.checked os 3 .any (Rows.dealRawSpec.pre6 enc Tryz.prog Tryz.f3 Rows.dealRawRow.domain false) (Rows.dealRawSpec.post enc Tryz.prog Tryz.f3 false true false false) := by
  refine returnsInHanded_of_change (C := Tryz.checked) own started (by kernel_rfl) Tryz.func3
    (ChangeSpec.witness6 (enc := enc) (C := Tryz.checked) false ⟨#[], #[.agg #[.string ⟨#[]⟩, .int .i64 0, .int .i64 0, .string ⟨#[]⟩, .string ⟨#[]⟩, .bool false, .slice none 0 0, .slice none 0 0, .int .i64 0, .int .i64 0, .int .i64 0, .int .i64 0, .int .i64 0, .slice none 0 0, .slice none 0 0], .slice none 0 0, .slice none 0 0], []⟩ 8 (by kernel_rfl) (by kernel_rfl) (by kernel_rfl) (by kernel_rfl)) ?_
  intro W base args ds gs before hval0 hW hcnd _
  have hval : ∀ (j : Nat) t v, Tryz.f3.params[j]? = some t -> args[j]? = some v -> Value.okWide Tryz.prog W .any base t v := hval0
  have hW' := hW
  obtain ⟨p, q, hA0, hV, rfl, hfz, hnd⟩ := hW
  have hA : DataW.TrodAll enc Tryz.prog W 0 (fun _ => true) true Tryz.f3.params.toList args.toList ds p := hA0
  rw [Tryz.params3] at hA hval
  obtain ⟨v0, vs0, d0, ds0, p0, q0, hargs, rfl, rfl, h0, r0⟩ := trodAll_cons hA
  obtain ⟨v1, vs1, d1, ds1, p1, q1, rfl, rfl, rfl, h1, r1⟩ := trodAll_cons r0
  obtain ⟨v2, vs2, d2, ds2, p2, q2, rfl, rfl, rfl, h2, r2⟩ := trodAll_cons r1
  obtain ⟨rfl, rfl, rfl⟩ := trodAll_nil r2
  obtain rfl : args = #[v0, v1, v2] := by cases args; simp_all
  obtain ⟨cs0, p0, rfl, r0⟩ := Kd.open_struct Ap.reads_Prm Tryz.underlying28 (hval 0 28 v0 rfl rfl) h0; obtain ⟨l0, rfl, x0⟩ := Ap.Prm_rep.1 r0
  obtain ⟨A1, n1, c1, xs1, rfl, x1, y1⟩ := Kd.open_list Ap.reads_Unt Tryz.underlying29 (by decide) (hval 1 29 v1 rfl rfl) h1
  obtain ⟨A2, n2, c2, xs2, rfl, x2, y2⟩ := Kd.open_list (Kd.Reads.list Tryz.underlying36 (by kernel_rfl) (Kd.Reads.int Tryz.underlying3 (by kernel_rfl)) (by decide)) Tryz.underlying30 (by decide) (hval 2 30 v2 rfl rfl) h2
  refine (walk W p0 l0 x0 A1 n1 c1 xs1 x1 y1 A2 n2 c2 xs2 x2 y2).mono fun e W' ⟨he, hb⟩ => ?_
  subst he
  exact ⟨_, rfl, Hk.closeLaw (tb := 4) (by kernel_rfl) (by kernel_rfl) rfl rfl rfl Tryz.underlying4 hW' hb⟩
theorem over : Rows.dealRawRow.holds Tryz.pinned (OpenSpec.ofChange Rows.dealRawSpec) :=
  OpenClaim.holds_of_wide 3 Tryz.f3 rfl rfl rfl rfl rfl rfl rfl ⟨rfl, rfl, rfl, rfl, rfl⟩ rfl rfl rfl rfl rfl (by kernel_rfl) Tryz.func3 (by kernel_rfl)
    (of_decide_eq_true (by kernel_rfl)) (by unfold Func.isWrapper; first | (rw [if_pos (by decide +kernel)]; kernel_rfl) | (rw [if_neg (by decide +kernel)]; exact ⟨rfl, rfl⟩))
    (fun os started H enc _ => lifted os started H enc)
theorem proved : Rows.DealRawSaid :=
  over
end Go.Proofs.YtljmddjlnlmenaaGreat.dealRaw
