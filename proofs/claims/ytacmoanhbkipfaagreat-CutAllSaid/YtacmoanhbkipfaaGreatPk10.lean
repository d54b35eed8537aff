/- Cuts: the document's offs, kind by kind (made by gen-offs15.py). · Cuts: the document's offs, kind 6 (made by gen-offs15.py). -/
import Derived.Test.YtacmoanhbkipfaaGreatPk7
import Derived.Test.YtacmoanhbkipfaaGreatPk9

section
set_option maxRecDepth 100000
set_option linter.unusedVariables false
namespace Go.Proofs.YtacmoanhbkipfaaGreat.Ct
open Go.ChangeShapes Go.WideShapes Go.ChangeAt Go.RowKit
open Ap (Unt Tir Prm kUnt kTir row_Unt row_Tir)
open Kd (Kind Row kInt row_int)
open Ko (Out Told Told2 At row_on)
theorem rnd_low {way q r d : Int} (hq : 0 ≤ q) : 0 ≤ Mn.rnd way q r d := by
  unfold Mn.rnd
  split
  · exact hq
  · split
    · omega
    · split <;> omega
theorem halfN_ok (x rate : Int) : 0 ≤ halfN x rate ∧ halfN x rate ≤ 100000000000000 := by
  unfold halfN Rf.rateR
  split
  · rename_i hr
    unfold Rf.timesR
    split
    · rename_i h
      have hq : 0 ≤ x * rate / 10000 := Int.ediv_nonneg (Int.mul_nonneg h.1.1 hr.1) (by omega)
      have h0 := rnd_low (way := 1) (r := x * rate % 10000) (d := 10000) hq
      show 0 ≤ Mn.timesV 1 x rate 10000 ∧ Mn.timesV 1 x rate 10000 ≤ 100000000000000
      unfold Mn.timesV
      split
      · rename_i hm; exact ⟨h0, hm⟩
      · omega
    · exact ⟨Int.le_refl 0, by decide⟩
  · exact ⟨Int.le_refl 0, by decide⟩
theorem own_down {α : Type} {K : Kind α} {w : World} {B B' E n : Nat} {F : Nat → Prop} {v : Value} {xs : List α} (h : Kd.Own K w B E F v n xs) (hB : B' ≤ B) : Kd.Own K w B' E F v n xs := by
  obtain ⟨h1, cs, ho, hc⟩ := h
  refine ⟨h1, cs, ⟨ho.1, ?_⟩, hc⟩
  rcases ho.2 with h2 | ⟨g, cap, cur, hv, hb, rest⟩
  · exact .inl h2
  · exact .inr ⟨g, cap, cur, hv, Nat.le_trans hB hb, rest⟩
theorem told_down {α : Type} {K : Kind α} {E : Nat} {w w1 wr : World} {v : Value} {xs : List α} (h : Out K E w1 wr v xs) (hb : Below w.heap.size w w1) : Ko.Told K E w (.returned v) wr xs :=
  Out.told ⟨own_down h.own hb.size, hb.trans (h.below.mono hb.size)⟩
set_option maxHeartbeats 8000000 in
theorem offs_percent (p : Prm) (l : Prm.Lay) (A : Option Addr) (n c : Nat) (xs : List Int) (w : World) (hk : p.kind = 1) (hpr : -9223372036854775808 ≤ p.amount ∧ p.amount ≤ 9223372036854775807) (h : Row kInt w (· < w.heap.size) A n xs) (hn : n ≤ 100000) :
    Calls Tryz.prog 32 #[.agg #[.string p.id, .int .i64 p.kind, .int .i64 p.priority, .string p.group, .string p.code, .bool p.closes, .slice l.scope.skus.A l.scope.skus.n l.scope.skus.c, .slice l.scope.cats.A l.scope.cats.n l.scope.cats.c, .int .i64 p.least, .int .i64 p.rate, .int .i64 p.amount, .int .i64 p.buy, .int .i64 p.get, .slice l.parts.A l.parts.n l.parts.c, .slice l.tiers.A l.tiers.n l.tiers.c], .slice A n c] w fun e w' => Ko.Told kInt 2 w e w' (offsL p xs) := by
  obtain ⟨w1, hw1⟩ : ∃ w1, w.alloc (.cells #[.string p.id, .int .i64 p.kind, .int .i64 p.priority, .string p.group, .string p.code, .bool p.closes, .slice l.scope.skus.A l.scope.skus.n l.scope.skus.c, .slice l.scope.cats.A l.scope.cats.n l.scope.cats.c, .int .i64 p.least, .int .i64 p.rate, .int .i64 p.amount, .int .i64 p.buy, .int .i64 p.get, .slice l.parts.A l.parts.n l.parts.c, .slice l.tiers.A l.tiers.n l.tiers.c] 28) = w1 := ⟨_, rfl⟩
  have hb1 : Below w.heap.size w w1 := by rw [← hw1]; exact (Below.refl _ _).alloc (Nat.le_refl _) _
  have hx : Qu.Blk w1 w.heap.size 28 #[.string p.id, .int .i64 p.kind, .int .i64 p.priority, .string p.group, .string p.code, .bool p.closes, .slice l.scope.skus.A l.scope.skus.n l.scope.skus.c, .slice l.scope.cats.A l.scope.cats.n l.scope.cats.c, .int .i64 p.least, .int .i64 p.rate, .int .i64 p.amount, .int .i64 p.buy, .int .i64 p.get, .slice l.parts.A l.parts.n l.parts.c, .slice l.tiers.A l.tiers.n l.tiers.c] := by rw [← hw1]; exact Qu.Blk.new w _ _
  have y1 := hx.cell 1
  have x9 := hx.cell 9
  have hlt1 := hx.lt
  have HE : Hid (offsL p xs = xs.map (fun x => halfN x p.rate)) := Lib.hid (by unfold offsL; rw [if_pos hk])
  have HX := Lib.hid (And.intro hx hb1)
  have HQ := Lib.hid (row_on h hb1)
  have HL := Lib.hid h.len
  have HPr := Lib.hid hpr
  have x1 : w1.cell? ⟨w.heap.size, 1, none⟩ = some (.int .i64 1) := by rw [← hk]; exact y1
  have c9 : ∀ u, Below w1.heap.size w1 u → u.cell? ⟨w.heap.size, 9, none⟩ = some (.int .i64 p.rate) := fun u hu => (hu.cell (p := ⟨w.heap.size, _, none⟩) hlt1).trans x9
  have HO0 := Lib.hid (Out.nil kInt 2 (Below.refl w1.heap.size w1))
  clear hb1 hx h hk hpr x9 y1
  go_enter Tryz.func32, Tryz.ntmps32
  go_wp2_with fail
  go_loopw [5, 6] (fun s5 s6 wr => ∃ k : Nat, s6 = .int .i64 k ∧ k ≤ n ∧ Hid (Out kInt 2 w1 wr s5 ((xs.take k).map (fun x => halfN x p.rate)))) (fun _ s6 _ => n - (intOf s6).toNat)
  case atStart => exact ⟨0, rfl, by omega, Lib.hid (by rw [List.take_zero]; exact HO0.out)⟩
  case round =>
    clear HO0
    obtain ⟨k, rfl, hk, HO⟩ := hrel
    have kk : (0 : Int) ≤ (k : Int) := by omega
    by_cases hlt : k < n
    · obtain ⟨x, hx⟩ := HQ.out.get hlt
      obtain ⟨g, o, rfl, hg, _, hok, a0⟩ := row_int HQ.out hx
      have c0 : ∀ u, Below w1.heap.size w1 u → u.cell? ⟨g, o + k, none⟩ = some (.int .i64 x) := fun u hu => (hu.cell (p := ⟨g, _, none⟩) hg).trans a0
      have k1 : (k : Int) < (n : Int) := by omega
      have HH := Lib.hid (fun W => half_any x p.rate W)
      obtain ⟨v, hv⟩ : ∃ v, halfN x p.rate = v := ⟨_, rfl⟩
      simp only [hv] at HH
      have hvr : -9223372036854775808 ≤ v ∧ v ≤ 9223372036854775807 := by have := halfN_ok x p.rate; omega
      have HN : Hid ((xs.take (k + 1)).map (fun x => halfN x p.rate) = (xs.take k).map (fun x => halfN x p.rate) ++ [v]) := Lib.hid (by rw [take_next hx, List.map_append]; show _ ++ [halfN x p.rate] = _ ++ [v]; rw [hv])
      have hlen : ((xs.take k).map (fun x => halfN x p.rate)).length = k := by rw [List.length_map, List.length_take, HL.out]; omega
      obtain ⟨os, hos⟩ : ∃ os, (xs.take k).map (fun x => halfN x p.rate) = os := ⟨_, rfl⟩
      rw [hos] at HO hlen HN
      obtain ⟨C, d, hvv⟩ := HO.out.own.value
      rw [hlen] at hvv
      subst hvv
      have hown0 : Hid (Kd.Own kInt wr w1.heap.size 2 (fun _ => False) (.slice C k d) k os) := Lib.hid (by have := HO.out.own; rw [hlen] at this; exact this)
      have HLn := Lib.hid hlen
      have hlow := HO.out.below.size
      have hlow2 : w1.heap.size ≤ wr.drew.heap.size := hlow
      clear hx a0 hok hg hos hlen
      go_wp2_with fail
      refine wp_region_held_drew (S := fun u => Below w1.heap.size w1 u) (by kernel_rfl) (HO.out.below.drew) (fun hS0 => ?_)
      refine pkT 0 24 hS0 ?_
      try simp only [Act.put, pkA, pkB, pkC]
      refine pkT 1 25 hS0 ?_
      try simp only [Act.put, pkA, pkB, pkC]
      refine pkT 2 26 hS0 ?_
      try simp only [Act.put, pkA, pkB, pkC]
      refine pkT 3 27 hS0 ?_
      try simp only [Act.put, pkA, pkB, pkC]
      refine pkT 4 28 hS0 ?_
      try simp only [Act.put, pkA, pkB, pkC]
      refine pkT 5 29 hS0 ?_
      try simp only [Act.put, pkA, pkB, pkC]
      refine pkT 6 30 hS0 ?_
      try simp only [Act.put, pkA, pkB, pkC]
      refine wpAnyH_ready (rs := [7]) (by kernel_rfl) (by simp) ?_
      refine AllReadyH.cons (o := ⟨some 31, _, _, _, _, _⟩) rfl (fun K hK => ?_) AllReadyH.nil
      go_simp
      refine (HH.out _).mono ?_
      rintro e wa ⟨rfl, hba⟩
      have hbr : Below wr.heap.size wr wa := ((Below.refl _ wr).drew).trans hba
      have hyy : Below w1.heap.size w1 wa := HO.out.below.trans (hbr.mono HO.out.below.size)
      have hsz := hyy.size
      go_wp2_with fail
      refine hK.out _ _ (hyy) (fun hS1 => ?_)
      clear hK K
      try simp only [Act.put, pkA, pkB, pkC]
      refine wpAnyH_ready (rs := [8]) (by kernel_rfl) (by simp) ?_
      refine AllReadyH.cons (o := ⟨some 32, _, _, _, _, _⟩) rfl (fun K hK => ?_) AllReadyH.nil
      go_simp
      refine hK.out _ _ ((Kd.below_alloc hS1 _)) (fun hS2 => ?_)
      clear hK K
      try simp only [Act.put, pkA, pkB, pkC]
      refine wpAnyH_ready (rs := [9]) (by kernel_rfl) (by simp) ?_
      refine AllReadyH.cons (o := ⟨some 33, _, _, _, _, _⟩) rfl (fun K hK => ?_) AllReadyH.nil
      refine Kd.step_push (o := ⟨some 33, _, _, _, _, _⟩) (W := wa) (F := fun _ => False) (B := w1.heap.size) (n := k) (v := .slice C k d) (xs := os) (y := v) (cs := [.int .i64 v]) i64_t rfl (.tmp 24) (.tmp 32) rfl rfl rfl rfl (hown0.out.later hbr) ⟨rfl, hvr⟩ (by omega) (by omega) (by omega) (fun _ h => h.elim) ?_
      intro g1 cap w9 hown hgrow hfr
      have HP := Lib.hid ((HO.out.later hbr).push HLn.out hown hgrow)
      refine hK.out _ _ (HP.out.below) (fun hS3 => ?_)
      clear hK K
      try simp only [Act.put, pkA, pkB, pkC]
      refine pkT 10 5 hS3 ?_
      try simp only [Act.put, pkA, pkB, pkC]
      refine wpAnyH_done (by kernel_rfl) ?_ _
      clear hown hgrow hfr
      go_wp2_with fail
      go_roundw
      case rel => exact ⟨k + 1, by go_num, by omega, Lib.hid (by rw [HN.out]; exact HP.out)⟩
      case measure => simp [intOf]; omega
    · have k1 : ¬ (k : Int) < (n : Int) := by omega
      obtain rfl : k = n := by omega
      have HE2 : Hid (offsL p xs = (xs.take k).map (fun x => halfN x p.rate)) := Lib.hid (by rw [HE.out, List.take_of_length_le (by rw [HL.out]; omega)])
      go_wp2
      go_ret
      rw [HE2.out]
      exact told_down HO.out HX.out.2
set_option maxHeartbeats 8000000 in
theorem offs_amount (p : Prm) (l : Prm.Lay) (A : Option Addr) (n c : Nat) (xs : List Int) (w : World) (hk : p.kind = 2) (hpr : -9223372036854775808 ≤ p.amount ∧ p.amount ≤ 9223372036854775807) (h : Row kInt w (· < w.heap.size) A n xs) (hn : n ≤ 100000) :
    Calls Tryz.prog 32 #[.agg #[.string p.id, .int .i64 p.kind, .int .i64 p.priority, .string p.group, .string p.code, .bool p.closes, .slice l.scope.skus.A l.scope.skus.n l.scope.skus.c, .slice l.scope.cats.A l.scope.cats.n l.scope.cats.c, .int .i64 p.least, .int .i64 p.rate, .int .i64 p.amount, .int .i64 p.buy, .int .i64 p.get, .slice l.parts.A l.parts.n l.parts.c, .slice l.tiers.A l.tiers.n l.tiers.c], .slice A n c] w fun e w' => Ko.Told kInt 2 w e w' (offsL p xs) := by
  obtain ⟨w1, hw1⟩ : ∃ w1, w.alloc (.cells #[.string p.id, .int .i64 p.kind, .int .i64 p.priority, .string p.group, .string p.code, .bool p.closes, .slice l.scope.skus.A l.scope.skus.n l.scope.skus.c, .slice l.scope.cats.A l.scope.cats.n l.scope.cats.c, .int .i64 p.least, .int .i64 p.rate, .int .i64 p.amount, .int .i64 p.buy, .int .i64 p.get, .slice l.parts.A l.parts.n l.parts.c, .slice l.tiers.A l.tiers.n l.tiers.c] 28) = w1 := ⟨_, rfl⟩
  have hb1 : Below w.heap.size w w1 := by rw [← hw1]; exact (Below.refl _ _).alloc (Nat.le_refl _) _
  have hx : Qu.Blk w1 w.heap.size 28 #[.string p.id, .int .i64 p.kind, .int .i64 p.priority, .string p.group, .string p.code, .bool p.closes, .slice l.scope.skus.A l.scope.skus.n l.scope.skus.c, .slice l.scope.cats.A l.scope.cats.n l.scope.cats.c, .int .i64 p.least, .int .i64 p.rate, .int .i64 p.amount, .int .i64 p.buy, .int .i64 p.get, .slice l.parts.A l.parts.n l.parts.c, .slice l.tiers.A l.tiers.n l.tiers.c] := by rw [← hw1]; exact Qu.Blk.new w _ _
  have y1 := hx.cell 1
  have x9 := hx.cell 10
  have hlt1 := hx.lt
  have HE : Hid (offsL p xs = xs.map (fun x => min x p.amount)) := Lib.hid (by unfold offsL; rw [if_neg (by omega), if_pos hk])
  have HX := Lib.hid (And.intro hx hb1)
  have HQ := Lib.hid (row_on h hb1)
  have HL := Lib.hid h.len
  have HPr := Lib.hid hpr
  have x1 : w1.cell? ⟨w.heap.size, 1, none⟩ = some (.int .i64 2) := by rw [← hk]; exact y1
  have c9 : ∀ u, Below w1.heap.size w1 u → u.cell? ⟨w.heap.size, 10, none⟩ = some (.int .i64 p.amount) := fun u hu => (hu.cell (p := ⟨w.heap.size, _, none⟩) hlt1).trans x9
  have HO0 := Lib.hid (Out.nil kInt 2 (Below.refl w1.heap.size w1))
  clear hb1 hx h hk hpr x9 y1
  go_enter Tryz.func32, Tryz.ntmps32
  go_wp2_with fail
  go_loopw [5, 7] (fun s5 s6 wr => ∃ k : Nat, s6 = .int .i64 k ∧ k ≤ n ∧ Hid (Out kInt 2 w1 wr s5 ((xs.take k).map (fun x => min x p.amount)))) (fun _ s6 _ => n - (intOf s6).toNat)
  case atStart => exact ⟨0, rfl, by omega, Lib.hid (by rw [List.take_zero]; exact HO0.out)⟩
  case round =>
    clear HO0
    obtain ⟨k, rfl, hk, HO⟩ := hrel
    have kk : (0 : Int) ≤ (k : Int) := by omega
    by_cases hlt : k < n
    · obtain ⟨x, hx⟩ := HQ.out.get hlt
      obtain ⟨g, o, rfl, hg, _, hok, a0⟩ := row_int HQ.out hx
      have c0 : ∀ u, Below w1.heap.size w1 u → u.cell? ⟨g, o + k, none⟩ = some (.int .i64 x) := fun u hu => (hu.cell (p := ⟨g, _, none⟩) hg).trans a0
      have k1 : (k : Int) < (n : Int) := by omega
      obtain ⟨v, hv⟩ : ∃ v, min x p.amount = v := ⟨_, rfl⟩
      have hvr : -9223372036854775808 ≤ v ∧ v ≤ 9223372036854775807 := by have h1 : -9223372036854775808 ≤ x ∧ x ≤ 9223372036854775807 := hok; have := HPr.out; omega
      have Hv := Lib.hid hv
      have HN : Hid ((xs.take (k + 1)).map (fun x => min x p.amount) = (xs.take k).map (fun x => min x p.amount) ++ [v]) := Lib.hid (by rw [take_next hx, List.map_append]; show _ ++ [min x p.amount] = _ ++ [v]; rw [hv])
      have hlen : ((xs.take k).map (fun x => min x p.amount)).length = k := by rw [List.length_map, List.length_take, HL.out]; omega
      obtain ⟨os, hos⟩ : ∃ os, (xs.take k).map (fun x => min x p.amount) = os := ⟨_, rfl⟩
      rw [hos] at HO hlen HN
      obtain ⟨C, d, hvv⟩ := HO.out.own.value
      rw [hlen] at hvv
      subst hvv
      have hown0 : Hid (Kd.Own kInt wr w1.heap.size 2 (fun _ => False) (.slice C k d) k os) := Lib.hid (by have := HO.out.own; rw [hlen] at this; exact this)
      have HLn := Lib.hid hlen
      have hlow := HO.out.below.size
      have hlow2 : w1.heap.size ≤ wr.drew.heap.size := hlow
      clear hx a0 hok hg hos hlen
      go_wp2_with fail
      refine wp_region_held_drew (S := fun u => Below w1.heap.size w1 u) (by kernel_rfl) (HO.out.below.drew) (fun hS0 => ?_)
      refine pkT 0 42 hS0 ?_
      try simp only [Act.put, pkA, pkB, pkC]
      refine pkT 1 43 hS0 ?_
      try simp only [Act.put, pkA, pkB, pkC]
      refine pkT 2 44 hS0 ?_
      try simp only [Act.put, pkA, pkB, pkC]
      refine pkT 3 45 hS0 ?_
      try simp only [Act.put, pkA, pkB, pkC]
      refine pkT 4 46 hS0 ?_
      try simp only [Act.put, pkA, pkB, pkC]
      refine pkT 5 47 hS0 ?_
      try simp only [Act.put, pkA, pkB, pkC]
      refine pkT 6 48 hS0 ?_
      try simp only [Act.put, pkA, pkB, pkC]
      refine pkT 7 49 hS0 ?_
      try simp only [Act.put, pkA, pkB, pkC]
      refine wpAnyH_ready (rs := [8]) (by kernel_rfl) (by simp) ?_
      refine AllReadyH.cons (o := ⟨some 50, _, _, _, _, _⟩) rfl (fun K hK => ?_) AllReadyH.nil
      go_simp
      refine hK.out _ _ ((Kd.below_alloc hS0 _)) (fun hS1 => ?_)
      clear hK K
      try simp only [Act.put, pkA, pkB, pkC]
      refine wpAnyH_ready (rs := [9]) (by kernel_rfl) (by simp) ?_
      refine AllReadyH.cons (o := ⟨some 51, _, _, _, _, _⟩) rfl (fun K hK => ?_) AllReadyH.nil
      refine Kd.step_push (o := ⟨some 51, _, _, _, _, _⟩) (W := wr.drew) (F := fun _ => False) (B := w1.heap.size) (n := k) (v := .slice C k d) (xs := os) (y := v) (cs := [.int .i64 v]) i64_t rfl (.tmp 42) (.tmp 50) rfl rfl rfl rfl (hown0.out.later (Below.refl _ _).drew) ⟨rfl, hvr⟩ (by omega) (by omega) (by omega) (fun _ h => h.elim) ?_
      intro g1 cap w9 hown hgrow hfr
      have HP := Lib.hid ((HO.out.later (Below.refl _ _).drew).push HLn.out hown hgrow)
      refine hK.out _ _ (HP.out.below) (fun hS2 => ?_)
      clear hK K
      try simp only [Act.put, pkA, pkB, pkC]
      refine pkT 10 5 hS2 ?_
      try simp only [Act.put, pkA, pkB, pkC]
      refine wpAnyH_done (by kernel_rfl) ?_ _
      clear hown hgrow hfr
      go_wp2_with fail
      go_roundw
      case rel => exact ⟨k + 1, by go_num, by omega, Lib.hid (by rw [HN.out]; exact HP.out)⟩
      case measure => simp [intOf]; omega
    · have k1 : ¬ (k : Int) < (n : Int) := by omega
      obtain rfl : k = n := by omega
      have HE2 : Hid (offsL p xs = (xs.take k).map (fun x => min x p.amount)) := Lib.hid (by rw [HE.out, List.take_of_length_le (by rw [HL.out]; omega)])
      go_wp2
      go_ret
      rw [HE2.out]
      exact told_down HO.out HX.out.2
end Go.Proofs.YtacmoanhbkipfaaGreat.Ct

end

section
set_option maxRecDepth 100000
set_option linter.unusedVariables false
namespace Go.Proofs.YtacmoanhbkipfaaGreat.Ct
open Go.ChangeShapes Go.WideShapes Go.ChangeAt Go.RowKit
open Ap (Unt Tir Prm kUnt kTir row_Unt row_Tir)
open Kd (Kind Row kInt row_int)
open Ko (Out Told Told2 At row_on)
set_option maxHeartbeats 8000000 in
theorem offs_count (p : Prm) (l : Prm.Lay) (A : Option Addr) (n c : Nat) (xs : List Int) (w : World) (hk : p.kind = 6) (hta : 0 ≤ (tierOf (n : Int) p.tiers).amount ∧ (tierOf (n : Int) p.tiers).amount ≤ 10000000000000) (hT : Row kTir w (· < w.heap.size) l.tiers.A l.tiers.n p.tiers) (hTn : l.tiers.n ≤ 1000000000000) (h : Row kInt w (· < w.heap.size) A n xs) (hn : n ≤ 100000) :
    Calls Tryz.prog 32 #[.agg #[.string p.id, .int .i64 p.kind, .int .i64 p.priority, .string p.group, .string p.code, .bool p.closes, .slice l.scope.skus.A l.scope.skus.n l.scope.skus.c, .slice l.scope.cats.A l.scope.cats.n l.scope.cats.c, .int .i64 p.least, .int .i64 p.rate, .int .i64 p.amount, .int .i64 p.buy, .int .i64 p.get, .slice l.parts.A l.parts.n l.parts.c, .slice l.tiers.A l.tiers.n l.tiers.c], .slice A n c] w fun e w' => Ko.Told kInt 2 w e w' (offsL p xs) := by
  obtain ⟨w1, hw1⟩ : ∃ w1, w.alloc (.cells #[.string p.id, .int .i64 p.kind, .int .i64 p.priority, .string p.group, .string p.code, .bool p.closes, .slice l.scope.skus.A l.scope.skus.n l.scope.skus.c, .slice l.scope.cats.A l.scope.cats.n l.scope.cats.c, .int .i64 p.least, .int .i64 p.rate, .int .i64 p.amount, .int .i64 p.buy, .int .i64 p.get, .slice l.parts.A l.parts.n l.parts.c, .slice l.tiers.A l.tiers.n l.tiers.c] 28) = w1 := ⟨_, rfl⟩
  have hb1 : Below w.heap.size w w1 := by rw [← hw1]; exact (Below.refl _ _).alloc (Nat.le_refl _) _
  have hx : Qu.Blk w1 w.heap.size 28 #[.string p.id, .int .i64 p.kind, .int .i64 p.priority, .string p.group, .string p.code, .bool p.closes, .slice l.scope.skus.A l.scope.skus.n l.scope.skus.c, .slice l.scope.cats.A l.scope.cats.n l.scope.cats.c, .int .i64 p.least, .int .i64 p.rate, .int .i64 p.amount, .int .i64 p.buy, .int .i64 p.get, .slice l.parts.A l.parts.n l.parts.c, .slice l.tiers.A l.tiers.n l.tiers.c] := by rw [← hw1]; exact Qu.Blk.new w _ _
  have y1 := hx.cell 1
  have x14 := hx.cell 14
  have x1 : w1.cell? ⟨w.heap.size, 1, none⟩ = some (.int .i64 6) := by rw [← hk]; exact y1
  have HR := reached_any l.tiers.A l.tiers.n l.tiers.c p.tiers (n : Int) w1 (row_on hT hb1) hTn
  unfold tierPair at HR
  obtain ⟨ls, hls⟩ : ∃ z, (tierOf (n : Int) p.tiers).least = z := ⟨_, rfl⟩
  obtain ⟨r, hr⟩ : ∃ z, (tierOf (n : Int) p.tiers).rate = z := ⟨_, rfl⟩
  obtain ⟨am, ham⟩ : ∃ z, (tierOf (n : Int) p.tiers).amount = z := ⟨_, rfl⟩
  obtain ⟨sm, hsm⟩ : ∃ z, (reached (n : Int) p.tiers).isSome = z := ⟨_, rfl⟩
  rw [hls, hr, ham, hsm] at HR
  rw [ham] at hta
  have HRe := Lib.hid HR
  have HL := Lib.hid h.len
  have HE : Hid (offsL p xs = xs.map (fun x => min x (halfN x r + am))) := Lib.hid (by unfold offsL; rw [if_neg (by omega), if_neg (by omega), if_pos hk, h.len, hr, ham])
  have HX := Lib.hid (And.intro hx hb1)
  have HQ1 := Lib.hid (row_on h hb1)
  have HTa := Lib.hid hta
  have HK1 := Lib.hid x1
  clear hb1 hx h hk x1 x14 y1 hT hls hr ham hsm hta HR
  have x1 : w1.cell? ⟨w.heap.size, 1, none⟩ = some (.int .i64 6) := HK1.out
  have x14 := HX.out.1.cell 14
  go_enter Tryz.func32, Tryz.ntmps32
  go_wp2_with (go_at_call 12; with_reducible refine HRe.out.mono ?_; rintro e wz ⟨rfl, hbz⟩; obtain ⟨W2, hW2⟩ : ∃ W2, wz.alloc (.cells #[.int .i64 ls, .int .i64 r, .int .i64 am] 40) = W2 := ⟨_, rfl⟩; have hb2 : Below w1.heap.size w1 W2 := (by rw [← hW2]; exact hbz.alloc hbz.size _); have hx2 : Qu.Blk W2 wz.heap.size 40 #[.int .i64 ls, .int .i64 r, .int .i64 am] := (by rw [← hW2]; exact Qu.Blk.new wz _ _); have HX2 := Lib.hid (And.intro hx2 hb2); clear hx2 hb2 hbz)
  clear hW2
  obtain ⟨bz, hbz⟩ : ∃ b, wz.heap.size = b := ⟨_, rfl⟩
  rw [hbz] at HX2
  simp only [hbz]
  clear hbz
  have z1 := HX2.out.1.cell 1
  have z2 := HX2.out.1.cell 2
  have hlt2 := HX2.out.1.lt
  have c1 : ∀ u, Below W2.heap.size W2 u → u.cell? ⟨bz, 1, none⟩ = some (.int .i64 r) := fun u hu => (hu.cell (p := ⟨bz, _, none⟩) hlt2).trans z1
  have c2 : ∀ u, Below W2.heap.size W2 u → u.cell? ⟨bz, 2, none⟩ = some (.int .i64 am) := fun u hu => (hu.cell (p := ⟨bz, _, none⟩) hlt2).trans z2
  have HQ := Lib.hid (row_on HQ1.out HX2.out.2)
  have HB := Lib.hid (HX.out.2.trans (HX2.out.2.mono HX.out.2.size))
  have HO0 := Lib.hid (Out.nil kInt 2 (Below.refl W2.heap.size W2))
  clear z1 z2
  go_loopw [5, 10] (fun s5 s6 wr => ∃ k : Nat, s6 = .int .i64 k ∧ k ≤ n ∧ Hid (Out kInt 2 W2 wr s5 ((xs.take k).map (fun x => min x (halfN x r + am))))) (fun _ s6 _ => n - (intOf s6).toNat)
  case atStart => exact ⟨0, rfl, by omega, Lib.hid (by rw [List.take_zero]; exact HO0.out)⟩
  case round =>
    clear HO0
    obtain ⟨k, rfl, hk, HO⟩ := hrel
    have kk : (0 : Int) ≤ (k : Int) := by omega
    by_cases hlt : k < n
    · obtain ⟨x, hx⟩ := HQ.out.get hlt
      obtain ⟨g, o, rfl, hg, _, hok, a0⟩ := row_int HQ.out hx
      have c0 : ∀ u, Below W2.heap.size W2 u → u.cell? ⟨g, o + k, none⟩ = some (.int .i64 x) := fun u hu => (hu.cell (p := ⟨g, _, none⟩) hg).trans a0
      have k1 : (k : Int) < (n : Int) := by omega
      have HH := Lib.hid (fun W => half_any x r W)
      obtain ⟨hv1, hhv⟩ : ∃ v, halfN x r = v := ⟨_, rfl⟩
      simp only [hhv] at HH
      have hb0 := halfN_ok x r
      rw [hhv] at hb0
      obtain ⟨s1, hs1⟩ : ∃ v, hv1 + am = v := ⟨_, rfl⟩
      have hta := HTa.out
      have w1s : IntKind.i64.wrap (hv1 + am) = s1 := by rw [hs1]; exact IntWalk.i64_in _ (by omega)
      obtain ⟨v, hv⟩ : ∃ v, min x s1 = v := ⟨_, rfl⟩
      have hvr : -9223372036854775808 ≤ v ∧ v ≤ 9223372036854775807 := by have h1 : -9223372036854775808 ≤ x ∧ x ≤ 9223372036854775807 := hok; omega
      have HN : Hid ((xs.take (k + 1)).map (fun x => min x (halfN x r + am)) = (xs.take k).map (fun x => min x (halfN x r + am)) ++ [v]) := Lib.hid (by rw [take_next hx, List.map_append]; show _ ++ [min x (halfN x r + am)] = _ ++ [v]; rw [hhv, hs1, hv])
      have hlen : ((xs.take k).map (fun x => min x (halfN x r + am))).length = k := by rw [List.length_map, List.length_take, HL.out]; omega
      obtain ⟨os, hos⟩ : ∃ os, (xs.take k).map (fun x => min x (halfN x r + am)) = os := ⟨_, rfl⟩
      rw [hos] at HO hlen HN
      obtain ⟨C, d, hvv⟩ := HO.out.own.value
      rw [hlen] at hvv
      subst hvv
      have hown0 : Hid (Kd.Own kInt wr W2.heap.size 2 (fun _ => False) (.slice C k d) k os) := Lib.hid (by have := HO.out.own; rw [hlen] at this; exact this)
      have HLn := Lib.hid hlen
      have hlow := HO.out.below.size
      have hlow2 : W2.heap.size ≤ wr.drew.heap.size := hlow
      clear hx a0 hok hg hos hlen hhv hb0 hs1 hta
      go_wp2_with fail
      refine wp_region_held_drew (S := fun u => Below W2.heap.size W2 u) (by kernel_rfl) (HO.out.below.drew) (fun hS0 => ?_)
      refine pkT 0 68 hS0 ?_
      try simp only [Act.put, pkA, pkB, pkC]
      refine pkT 1 69 hS0 ?_
      try simp only [Act.put, pkA, pkB, pkC]
      refine pkT 2 70 hS0 ?_
      try simp only [Act.put, pkA, pkB, pkC]
      refine pkT 3 71 hS0 ?_
      try simp only [Act.put, pkA, pkB, pkC]
      refine pkT 4 72 hS0 ?_
      try simp only [Act.put, pkA, pkB, pkC]
      refine pkT 5 73 hS0 ?_
      try simp only [Act.put, pkA, pkB, pkC]
      refine pkT 6 74 hS0 ?_
      try simp only [Act.put, pkA, pkB, pkC]
      refine pkT 7 75 hS0 ?_
      try simp only [Act.put, pkA, pkB, pkC]
      refine pkT 8 76 hS0 ?_
      try simp only [Act.put, pkA, pkB, pkC]
      refine pkT 9 77 hS0 ?_
      try simp only [Act.put, pkA, pkB, pkC]
      refine pkT 10 78 hS0 ?_
      try simp only [Act.put, pkA, pkB, pkC]
      refine pkT 12 80 hS0 ?_
      try simp only [Act.put, pkA, pkB, pkC]
      refine pkT 13 81 hS0 ?_
      try simp only [Act.put, pkA, pkB, pkC]
      refine wpAnyH_ready (rs := [11]) (by kernel_rfl) (by simp) ?_
      refine AllReadyH.cons (o := ⟨some 79, _, _, _, _, _⟩) rfl (fun K hK => ?_) AllReadyH.nil
      go_simp
      refine (HH.out _).mono ?_
      rintro e wa ⟨rfl, hba⟩
      have hbr : Below wr.heap.size wr wa := ((Below.refl _ wr).drew).trans hba
      have hyy : Below W2.heap.size W2 wa := HO.out.below.trans (hbr.mono HO.out.below.size)
      have hsz := hyy.size
      go_wp2_with fail
      refine hK.out _ _ (hyy) (fun hS1 => ?_)
      clear hK K
      try simp only [Act.put, pkA, pkB, pkC]
      refine pkT 14 82 hS1 ?_
      try simp only [Act.put, pkA, pkB, pkC]
      refine pkT 15 83 hS1 ?_
      try simp only [Act.put, pkA, pkB, pkC]
      refine wpAnyH_ready (rs := [16]) (by kernel_rfl) (by simp) ?_
      refine AllReadyH.cons (o := ⟨some 84, _, _, _, _, _⟩) rfl (fun K hK => ?_) AllReadyH.nil
      go_simp
      refine hK.out _ _ ((Kd.below_alloc hS1 _)) (fun hS2 => ?_)
      clear hK K
      try simp only [Act.put, pkA, pkB, pkC]
      refine wpAnyH_ready (rs := [17]) (by kernel_rfl) (by simp) ?_
      refine AllReadyH.cons (o := ⟨some 85, _, _, _, _, _⟩) rfl (fun K hK => ?_) AllReadyH.nil
      refine Kd.step_push (o := ⟨some 85, _, _, _, _, _⟩) (W := wa) (F := fun _ => False) (B := W2.heap.size) (n := k) (v := .slice C k d) (xs := os) (y := v) (cs := [.int .i64 v]) i64_t rfl (.tmp 68) (.tmp 84) rfl rfl rfl rfl (hown0.out.later hbr) ⟨rfl, hvr⟩ (by omega) (by omega) (by omega) (fun _ h => h.elim) ?_
      intro g1 cap w9 hown hgrow hfr
      have HP := Lib.hid ((HO.out.later hbr).push HLn.out hown hgrow)
      refine hK.out _ _ (HP.out.below) (fun hS3 => ?_)
      clear hK K
      try simp only [Act.put, pkA, pkB, pkC]
      refine pkT 18 5 hS3 ?_
      try simp only [Act.put, pkA, pkB, pkC]
      refine wpAnyH_done (by kernel_rfl) ?_ _
      clear hown hgrow hfr
      go_wp2_with fail
      go_roundw
      case rel => exact ⟨k + 1, by go_num, by omega, Lib.hid (by rw [HN.out]; exact HP.out)⟩
      case measure => simp [intOf]; omega
    · have k1 : ¬ (k : Int) < (n : Int) := by omega
      obtain rfl : k = n := by omega
      have HE2 : Hid (offsL p xs = (xs.take k).map (fun x => min x (halfN x r + am))) := Lib.hid (by rw [HE.out, List.take_of_length_le (by rw [HL.out]; omega)])
      go_wp2
      go_ret
      rw [HE2.out]
      exact told_down HO.out HB.out
end Go.Proofs.YtacmoanhbkipfaaGreat.Ct

end
