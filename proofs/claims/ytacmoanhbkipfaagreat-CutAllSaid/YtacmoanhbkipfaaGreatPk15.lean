/- Cuts: the document's offs, kind 5, and the kinds that take nothing off (made by gen-spend15.py). -/
import Derived.Test.YtacmoanhbkipfaaGreatPk10
import Derived.Test.YtacmoanhbkipfaaGreatPk11
import Derived.Test.YtacmoanhbkipfaaGreatPk14

set_option maxRecDepth 100000
set_option linter.unusedVariables false
namespace Go.Proofs.YtacmoanhbkipfaaGreat.Ct
open Go.ChangeShapes Go.WideShapes Go.ChangeAt Go.RowKit
open Ap (Unt Tir Prm kUnt kTir row_Unt row_Tir)
open Kd (Kind Row kInt row_int)
open Ko (Out Told Told2 At row_on)
theorem sum_part : ∀ {l : List Int}, (∀ (k : Nat) (x : Int), l[k]? = some x → 0 ≤ x) → ∀ k, 0 ≤ sumL (l.take k) ∧ sumL (l.take k) ≤ sumL l
  | [], _, k => by rw [List.take_nil]; exact ⟨Int.le_refl _, Int.le_refl _⟩
  | x :: l, h, k => by
    have h0 := h 0 x rfl
    have ih := fun j => sum_part (l := l) (fun j y hy => h (j + 1) y hy) j
    cases k with
    | zero =>
      have := ih l.length
      rw [List.take_length] at this
      rw [List.take_zero]
      simp only [sumL]
      omega
    | succ k =>
      have := ih k
      rw [List.take_succ_cons]
      simp only [sumL]
      omega
theorem NetsOk.sums {l : List Int} (h : NetsOk l) : SumOk l ∧ 0 ≤ sumL l := by
  have h1 := sum_part (l := l) fun k x hx => (h.each k x hx).1
  have h2 := h.total
  refine ⟨fun k => by have := h1 k; omega, ?_⟩
  have := h1 l.length
  rw [List.take_length] at this
  exact this.1
def ReadL (w : World) (e : Ending) (w' : World) (xs : List Int) : Prop :=
  ∃ (A : Option Addr) (c : Nat), e = .returned (.slice A xs.length c) ∧ Row kInt w' (· < w'.heap.size) A xs.length xs ∧ Below w.heap.size w w'
theorem read_told {E : Nat} {w w' : World} {e : Ending} {xs : List Int} (h : Ko.Told kInt E w e w' xs) : ReadL w e w' xs := by
  obtain ⟨A, c, rfl, ho, hb⟩ := h
  exact ⟨A, c, rfl, ho.read, hb⟩
theorem ints_row {w : World} {A : Option Addr} {n : Nat} {xs : List Int} (h : Row kInt w (· < w.heap.size) A n xs) : Hl.Ints w w.heap.size A n (nth xs) := fun k hk => by
  obtain ⟨x, hx⟩ := h.get hk
  obtain ⟨g, o, hA, hg, _, _, hc⟩ := row_int h hx
  exact ⟨g, o, hA, hg, by rw [hc, nth_some hx]⟩
theorem read_ints {w w' : World} {A : Option Addr} {c : Nat} {xs ys : List Int} (h : Hl.Ints w' w'.heap.size A xs.length (Sh.nth xs)) (hr : ∀ (k : Nat) (x : Int), xs[k]? = some x → -9223372036854775808 ≤ x ∧ x ≤ 9223372036854775807) (hb : Below w.heap.size w w') (e : ys = xs) : ReadL w (.returned (.slice A xs.length c)) w' ys := by
  subst e
  refine ⟨A, c, rfl, ⟨rfl, fun k x hk => ?_⟩, hb⟩
  have hl : k < ys.length := (List.getElem?_eq_some_iff.1 hk).1
  obtain ⟨b, off, hA, hlt, hc⟩ := h k hl
  have e2 : Sh.nth ys k = x := by unfold Sh.nth; rw [List.getD_eq_getElem?_getD, hk]; rfl
  rw [e2] at hc
  refine ⟨b, off, [.int .i64 x], hA, hlt, hlt, ⟨rfl, hr k x hk⟩, fun j v hv => ?_⟩
  cases j with
  | zero =>
    injection hv with hv
    subst hv
    show w'.cell? ⟨b, off + k * 1 + 0, none⟩ = _
    rw [Nat.mul_one, Nat.add_zero]; exact hc
  | succ j => simp at hv
set_option maxHeartbeats 8000000 in
theorem offs_spend (p : Prm) (l : Prm.Lay) (A : Option Addr) (n c : Nat) (xs : List Int) (w : World) (hk : p.kind = 5) (hta : 0 ≤ (tierOf (sumL xs) p.tiers).amount ∧ (tierOf (sumL xs) p.tiers).amount ≤ 10000000000000) (hT : Row kTir w (· < w.heap.size) l.tiers.A l.tiers.n p.tiers) (hTn : l.tiers.n ≤ 1000000000000) (h : Row kInt w (· < w.heap.size) A n xs) (hn : NetsOk xs) :
    Calls Tryz.prog 32 #[.agg #[.string p.id, .int .i64 p.kind, .int .i64 p.priority, .string p.group, .string p.code, .bool p.closes, .slice l.scope.skus.A l.scope.skus.n l.scope.skus.c, .slice l.scope.cats.A l.scope.cats.n l.scope.cats.c, .int .i64 p.least, .int .i64 p.rate, .int .i64 p.amount, .int .i64 p.buy, .int .i64 p.get, .slice l.parts.A l.parts.n l.parts.c, .slice l.tiers.A l.tiers.n l.tiers.c], .slice A n c] w fun e w' => ReadL w e w' (offsL p xs) := by
  obtain ⟨w1, hw1⟩ : ∃ w1, w.alloc (.cells #[.string p.id, .int .i64 p.kind, .int .i64 p.priority, .string p.group, .string p.code, .bool p.closes, .slice l.scope.skus.A l.scope.skus.n l.scope.skus.c, .slice l.scope.cats.A l.scope.cats.n l.scope.cats.c, .int .i64 p.least, .int .i64 p.rate, .int .i64 p.amount, .int .i64 p.buy, .int .i64 p.get, .slice l.parts.A l.parts.n l.parts.c, .slice l.tiers.A l.tiers.n l.tiers.c] 28) = w1 := ⟨_, rfl⟩
  have hb1 : Below w.heap.size w w1 := by rw [← hw1]; exact (Below.refl _ _).alloc (Nat.le_refl _) _
  have hx : Qu.Blk w1 w.heap.size 28 #[.string p.id, .int .i64 p.kind, .int .i64 p.priority, .string p.group, .string p.code, .bool p.closes, .slice l.scope.skus.A l.scope.skus.n l.scope.skus.c, .slice l.scope.cats.A l.scope.cats.n l.scope.cats.c, .int .i64 p.least, .int .i64 p.rate, .int .i64 p.amount, .int .i64 p.buy, .int .i64 p.get, .slice l.parts.A l.parts.n l.parts.c, .slice l.tiers.A l.tiers.n l.tiers.c] := by rw [← hw1]; exact Qu.Blk.new w _ _
  have y1 := hx.cell 1
  have x1 : w1.cell? ⟨w.heap.size, 1, none⟩ = some (.int .i64 5) := by rw [← hk]; exact y1
  have hS0 := hn.sums.2
  have hST := hn.total
  have hnl := h.len
  have hn5 : n ≤ 100000 := by rw [← hnl]; exact hn.few
  have HS1 := Lib.hid (fun W (hb : Below w1.heap.size w1 W) => sum_any A n c xs _ W (row_on (row_on h hb1) hb) (by omega) hn.sums.1)
  have HR := reached_any l.tiers.A l.tiers.n l.tiers.c p.tiers (sumL xs) w1 (row_on hT hb1) hTn
  unfold tierPair at HR
  obtain ⟨S, hS⟩ : ∃ z, sumL xs = z := ⟨_, rfl⟩
  obtain ⟨ls, hls⟩ : ∃ z, (tierOf (sumL xs) p.tiers).least = z := ⟨_, rfl⟩
  obtain ⟨r, hr⟩ : ∃ z, (tierOf (sumL xs) p.tiers).rate = z := ⟨_, rfl⟩
  obtain ⟨am, ham⟩ : ∃ z, (tierOf (sumL xs) p.tiers).amount = z := ⟨_, rfl⟩
  obtain ⟨sm, hsm⟩ : ∃ z, (reached (sumL xs) p.tiers).isSome = z := ⟨_, rfl⟩
  rw [hls, hr, ham, hsm, hS] at HR
  simp only [hS] at HS1
  rw [ham] at hta
  rw [hS] at hS0 hST
  have hh0 := halfN_ok S r
  have HH := Lib.hid (fun W => half_any S r W)
  obtain ⟨hv, hhv⟩ : ∃ v, halfN S r = v := ⟨_, rfl⟩
  simp only [hhv] at HH
  rw [hhv] at hh0
  obtain ⟨s1, hs1⟩ : ∃ v, hv + am = v := ⟨_, rfl⟩
  have w1s : IntKind.i64.wrap (hv + am) = s1 := by rw [hs1]; exact IntWalk.i64_in _ (by omega)
  obtain ⟨t, ht⟩ : ∃ v, min S s1 = v := ⟨_, rfl⟩
  have ht0 : 0 ≤ t := by omega
  have htS : t ≤ S := by omega
  have hfine := spend_fine hn ht0 (by rw [hS]; exact htS)
  obtain ⟨Lg, hLg⟩ : ∃ z, (Sh.largR t (nth xs) n).1 = z := ⟨_, rfl⟩
  obtain ⟨er, her⟩ : ∃ z, (Sh.largR t (nth xs) n).2 = z := ⟨_, rfl⟩
  have HE : Hid (offsL p xs = Lg) := Lib.hid (by unfold offsL; rw [if_neg (by omega), if_neg (by omega), if_neg (by omega), if_pos hk, hr, ham, hS, hhv, hs1, ht, hnl]; exact hLg)
  rw [hnl, hLg] at hfine
  have HLr : Hid (∀ (k : Nat) (x : Int), Lg[k]? = some x → -9223372036854775808 ≤ x ∧ x ≤ 9223372036854775807) := Lib.hid fun k o ho => by
    have hl : k < xs.length := by rw [← hfine.1.1]; exact (List.getElem?_eq_some_iff.1 ho).1
    have e := List.getElem?_eq_getElem hl
    have h1 := hfine.1.2 k o _ ho e
    have h2 := hn.each k _ e
    omega
  have HG1 := fun (w0 W : World) (hq : Row kInt w0 (· < w0.heap.size) A n xs) (hb : Below w0.heap.size w0 W) => Sh.rlargest_any t A n c (nth xs) W (ints_row (row_on hq hb))
  unfold Sh.Gave at HG1
  simp only [hLg, her] at HG1
  have HG2 := Lib.hid HG1
  have HRe := Lib.hid HR
  have HX := Lib.hid (And.intro hx hb1)
  have HQ1 := Lib.hid (row_on h hb1)
  have HK1 := Lib.hid x1
  have hmin := Lib.hid ht
  clear hb1 hx h hk x1 y1 hT hls hr ham hsm hta HR hS hhv hs1 hfine hLg her HG1 hh0 hnl hn hS0 hST
  have x1 : w1.cell? ⟨w.heap.size, 1, none⟩ = some (.int .i64 5) := HK1.out
  have x14 := HX.out.1.cell 14
  go_enter Tryz.func32, Tryz.ntmps32
  go_wp2_with (first
    | (go_at_call 66; with_reducible refine (HS1.out _ (Below.refl _ _)).mono ?_; rintro e wz ⟨rfl, hw⟩; obtain rfl := hw)
    | (go_at_call 12; with_reducible refine HRe.out.mono ?_; rintro e wz ⟨rfl, hbz⟩; obtain ⟨W2, hW2⟩ : ∃ W2, wz.alloc (.cells #[.int .i64 ls, .int .i64 r, .int .i64 am] 40) = W2 := ⟨_, rfl⟩; have hb2 : Below w1.heap.size w1 W2 := (by rw [← hW2]; exact hbz.alloc hbz.size _); have hx2 : Qu.Blk W2 wz.heap.size 40 #[.int .i64 ls, .int .i64 r, .int .i64 am] := (by rw [← hW2]; exact Qu.Blk.new wz _ _); have HX2 := Lib.hid (And.intro hx2 hb2); clear hx2 hb2 hbz))
  clear hW2
  obtain ⟨bz, hbz⟩ : ∃ b, wz.heap.size = b := ⟨_, rfl⟩
  rw [hbz] at HX2
  simp only [hbz]
  clear hbz
  have z1 := HX2.out.1.cell 1
  have z2 := HX2.out.1.cell 2
  have hlt2 := HX2.out.1.lt
  have c1 : ∀ u, Below W2.heap.size W2 u → u.cell? ⟨bz, 1, none⟩ = some (.int .i64 r) := fun u hu => (hu.cell (p := ⟨bz, _, none⟩) hlt2).trans z1
  have c2 : ∀ u, Below W2.heap.size W2 u → u.cell? ⟨bz, 2, none⟩ = some (.int .i64 am) := fun u hu => (hu.cell (p := ⟨bz, _, none⟩) hlt2).trans z2
  have HB := Lib.hid (HX.out.2.trans (HX2.out.2.mono HX.out.2.size))
  have HG := Lib.hid (fun W (hb : Below W2.heap.size W2 W) => HG2.out W2 W (row_on HQ1.out HX2.out.2) hb)
  have hmn := hmin.out
  clear z1 z2
  refine wp_region_held_drew (S := fun u => Below W2.heap.size W2 u) (by kernel_rfl) ((Below.refl _ _).drew) (fun hS0 => ?_)
  refine pkT 0 98 hS0 ?_
  try simp only [Act.put, pkA, pkB, pkC]
  refine pkT 1 99 hS0 ?_
  try simp only [Act.put, pkA, pkB, pkC]
  refine pkT 2 100 hS0 ?_
  try simp only [Act.put, pkA, pkB, pkC]
  refine pkT 3 101 hS0 ?_
  try simp only [Act.put, pkA, pkB, pkC]
  refine pkT 5 103 hS0 ?_
  try simp only [Act.put, pkA, pkB, pkC]
  refine pkT 6 104 hS0 ?_
  try simp only [Act.put, pkA, pkB, pkC]
  refine pkT 9 107 hS0 ?_
  try simp only [Act.put, pkA, pkB, pkC]
  refine wpAnyH_ready (rs := [4]) (by kernel_rfl) (by simp) ?_
  refine AllReadyH.cons (o := ⟨some 102, _, _, _, _, _⟩) rfl (fun K hK => ?_) AllReadyH.nil
  go_simp
  refine (HH.out _).mono ?_
  rintro e wa ⟨rfl, hba⟩
  have hya : Below W2.heap.size W2 wa := ((Below.refl _ W2).drew).trans hba
  go_wp2_with fail
  refine hK.out _ _ (hya) (fun hS1 => ?_)
  clear hK K
  try simp only [Act.put, pkA, pkB, pkC]
  refine pkT 7 105 hS1 ?_
  try simp only [Act.put, pkA, pkB, pkC]
  refine pkT 8 106 hS1 ?_
  try simp only [Act.put, pkA, pkB, pkC]
  refine wpAnyH_ready (rs := [10]) (by kernel_rfl) (by simp) ?_
  refine AllReadyH.cons (o := ⟨some 108, _, _, _, _, _⟩) rfl (fun K hK => ?_) AllReadyH.nil
  go_simp
  refine (HG.out _ hya).mono ?_
  rintro e wb ⟨A5, c5, rfl, hin, hbb⟩
  have hyb : Below W2.heap.size W2 wb := hya.trans (hbb.mono hya.size)
  go_wp2_with fail
  refine hK.out _ _ (hyb) (fun hS2 => ?_)
  clear hK K
  try simp only [Act.put, pkA, pkB, pkC]
  refine pkT 11 97 hS2 ?_
  try simp only [Act.put, pkA, pkB, pkC]
  refine pkT 12 109 hS2 ?_
  try simp only [Act.put, pkA, pkB, pkC]
  refine pkT 13 110 hS2 ?_
  try simp only [Act.put, pkA, pkB, pkC]
  refine pkT 14 5 hS2 ?_
  try simp only [Act.put, pkA, pkB, pkC]
  refine wpAnyH_done (by kernel_rfl) ?_ _
  have HI := Lib.hid (And.intro hin (HB.out.trans (hyb.mono HB.out.size)))
  clear hin hbb hyb hya
  go_wp2_with fail
  go_ret
  exact read_ints HI.out.1 HLr.out HI.out.2 HE.out
end Go.Proofs.YtacmoanhbkipfaaGreat.Ct
