/- Cuts: the document's less, and In[int] (made by gen-less15.py). · Cuts: the document's offs, kind by kind (made by gen-o .. -/
import Derived.Test.YtljmddjlnlmenaaGreatPq0
import Derived.Test.YtljmddjlnlmenaaGreatPq4
import Derived.Test.YtljmddjlnlmenaaGreatPq5
import Derived.Test.YtljmddjlnlmenaaGreatPq6
import Derived.Test.YtljmddjlnlmenaaGreatPq9
set_option maxRecDepth 100000
set_option linter.unusedVariables false

section
namespace Go.Proofs.YtljmddjlnlmenaaGreat.Ct
open Go.ChangeShapes Go.WideShapes Go.ChangeAt Go.RowKit
open Ap (Unt Tir Prm kUnt kTir row_Unt row_Tir)
open Kd (Kind Row kInt row_int)
open Ko (Out Told Told2 At row_on)
def Far (ms : List Int) : Prop := ∀ (i j : Nat) (a b : Int), i < j -> ms[i]? = some a -> ms[j]? = some b -> a.toNat ≠ b.toNat
theorem PlacesMay.far {us : List Unt} {ms : List Int} (h : PlacesMay us ms) : Far ms := fun i j a b hij ha hb => h.ne hij ha hb
theorem PlacesMay.in_ {us : List Unt} {ms : List Int} (h : PlacesMay us ms) : PlacesIn us.length ms := fun i m hm => by
  obtain ⟨h1, u, hu, _⟩ := h.at_ i m hm
  have := (List.getElem?_eq_some_iff.1 hu).1
  omega
theorem modify_at {xs : List Unt} {k : Nat} {x : Unt} (h : xs[k]? = some x) (f : Unt -> Unt) : xs.modify k f = xs.set k (f x) := by
  apply List.ext_getElem?
  intro j
  have hl := (List.getElem?_eq_some_iff.1 h).1
  rw [List.getElem?_modify, List.getElem?_set]
  by_cases hj : k = j
  . subst hj
    rw [h, if_pos rfl, if_pos hl]
    simp
  . simp [hj]
theorem nth_some {l : List Int} {k : Nat} {m : Int} (h : l[k]? = some m) : nth l k = m := by unfold nth; rw [h]; rfl
theorem subK_at {us : List Unt} {ms os : List Int} (hf : Far ms) {k : Nat} {m : Int} (hm : ms[k]? = some m) : ∀ j, j <= k -> (subK us ms os j)[m.toNat]? = us[m.toNat]?
  | 0, _ => rfl
  | j + 1, hj => by
    have hl : j < ms.length := by have := (List.getElem?_eq_some_iff.1 hm).1; omega
    have e := List.getElem?_eq_getElem hl
    have hne := hf j k _ m (by omega) e hm
    rw [subK, List.getElem?_modify, nth_some e, subK_at hf hm j (by omega)]
    simp [hne]
def LessOk (us : List Unt) (ms os : List Int) : Prop := ∀ (k : Nat) (m o : Int) (u : Unt), ms[k]? = some m -> os[k]? = some o -> us[m.toNat]? = some u -> -9223372036854775808 <= u.net - o /\ u.net - o <= 9223372036854775807
structure Ls (w wr : World) (g n c : Nat) (xs : List Unt) : Prop where
  own : Kd.Own kUnt wr w.heap.size 35 (fun _ => False) (.slice (some ⟨g, 0, none⟩) n c) n xs
  below : Below w.heap.size w wr
theorem Ls.lt {w wr : World} {g n c : Nat} {xs : List Unt} (h : Ls w wr g n c xs) : w.heap.size <= g := (h.own.low g rfl).1
theorem Ls.get {w wr : World} {g n c : Nat} {xs : List Unt} (h : Ls w wr g n c xs) {k : Nat} {u : Unt} (hu : xs[k]? = some u) :
    wr.cell? ⟨g, k * 3 + 1, none⟩ = some (.int .i64 u.net) /\ wr.cell? ⟨g, k * 3 + 2, none⟩ = some (.bool u.opn) /\ wr.frozen? ⟨g, k * 3 + 1, none⟩ = false /\ wr.frozen? ⟨g, k * 3 + 2, none⟩ = false /\ u.ok := by
  obtain ⟨g2, o, e, _, _, hok, _, a1, a2⟩ := row_Unt h.own.read hu
  injection e with e
  injection e with e1 e2
  subst e1
  subst e2
  rw [Nat.zero_add] at a1 a2
  have hk : k < n := by rw [<- h.own.1]; exact (List.getElem?_eq_some_iff.1 hu).1
  exact ⟨a1, a2, (h.own.cell (K := kUnt) hk (j := 1) (by decide)).2, (h.own.cell (K := kUnt) hk (j := 2) (by decide)).2, hok⟩
theorem Ls.drew {w wr : World} {g n c : Nat} {xs : List Unt} (h : Ls w wr g n c xs) : Ls w wr.drew g n c xs := ⟨h.own.later (Below.refl _ _).drew, h.below.drew⟩
theorem Ls.less {w wr : World} {g n c : Nat} {xs : List Unt} (h : Ls w wr g n c xs) {k : Nat} {u : Unt} (hu : xs[k]? = some u) {v o : Int} (hv : u.net - o = v) (h0 : -9223372036854775808 <= v /\ v <= 9223372036854775807) :
    Ls w (wr.setCell ⟨g, k * 3 + 1, none⟩ (.int .i64 v)) g n c (xs.modify k (lessNet o)) := by
  have hlt := h.lt
  have hok := (h.get hu).2.2.2.2
  have h1 := Kd.Own.put (k := k) (j := 1) (x := u) (x' := lessNet o u) (a := u.enc) (u := .int .i64 v) h.own hu (fun h => (Ap.Unt_rep.1 h).1) (by decide) (Ap.Unt_rep.2 ⟨by subst hv; rfl, ⟨hok.line, by show -9223372036854775808 <= u.net - o /\ u.net - o <= 9223372036854775807; rw [hv]; exact h0⟩⟩) (fun _ h => h.elim)
  rw [modify_at hu]
  exact ⟨h1.1, h.below.setCell hlt _⟩
theorem Ls.shut {w wr : World} {g n c : Nat} {xs : List Unt} (h : Ls w wr g n c xs) {k : Nat} {u : Unt} (hu : xs[k]? = some u) :
    Ls w (wr.setCell ⟨g, k * 3 + 2, none⟩ (.bool false)) g n c (xs.modify k Ct.shut) := by
  have hlt := h.lt
  have hok := (h.get hu).2.2.2.2
  have h1 := Kd.Own.put (k := k) (j := 2) (x := u) (x' := Ct.shut u) (a := u.enc) (u := .bool false) h.own hu (fun h => (Ap.Unt_rep.1 h).1) (by decide) (Ap.Unt_rep.2 ⟨rfl, ⟨hok.line, hok.net⟩⟩) (fun _ h => h.elim)
  rw [modify_at hu]
  exact ⟨h1.1, h.below.setCell hlt _⟩
theorem told2_of {w w3 : World} {A : Option Addr} {n c : Nat} {xs : List Unt} (h : Kd.Own kUnt w3 w.heap.size 35 (fun _ => False) (.slice A n c) n xs) (hb : Below w.heap.size w w3) (z : Int) : Ko.Told2 kUnt 35 w (.returned (.tuple #[.slice A n c, .int .i64 z])) w3 xs z := by
  obtain rfl : xs.length = n := h.1
  exact ⟨A, c, rfl, h, hb⟩
set_option maxHeartbeats 8000000 in
theorem less_any (A : Option Addr) (n c : Nat) (us : List Unt) (B : Option Addr) (m d : Nat) (ms : List Int) (C : Option Addr) (q e : Nat) (os : List Int) (cl : Bool) (w : World)
    (h : Row kUnt w (· < w.heap.size) A n us) (hf : Kd.Fit A n c) (hm0 : Row kInt w (· < w.heap.size) B m ms) (ho0 : Row kInt w (· < w.heap.size) C q os) (hn : n <= 100000) (hm : m <= 100000) (hq : q <= m) (hp : PlacesIn n ms) (hfar : Far ms) (hs : SumOk os) (hok : LessOk us ms os) :
    Calls Tryz.prog 35 #[.slice A n c, .slice B m d, .slice C q e, .bool cl] w fun x w' => Ko.Told2 kUnt 35 w x w' (lessU us ms os cl).1 (lessU us ms os cl).2 := by
  have HU := Lib.hid h
  have HM := Lib.hid hm0
  have HQ := Lib.hid ho0
  have HFi := Lib.hid hf
  have HP := Lib.hid hp
  have HFar := Lib.hid hfar
  have HOk := Lib.hid hok
  have HLu := Lib.hid h.len
  have HLm := Lib.hid hm0.len
  have HLo := Lib.hid ho0.len
  obtain ⟨S, hS⟩ : ∃ s, sumL os = s := ⟨_, rfl⟩
  have HC := Lib.hid (fun (W : World) (hb : Below w.heap.size w W) => sum_any C q e os _ W (row_on ho0 hb) (by omega) hs)
  simp only [hS] at HC
  have HS := Lib.hid hS
  clear h hf hm0 ho0 hp hfar hs hok hS
  obtain ⟨z, hz⟩ : ∃ z, (S == 0) = z := ⟨_, rfl⟩
  have HZ := Lib.hid hz
  cases z with
  | true =>
    have HE : Hid (lessU us ms os cl = (us, 0)) := Lib.hid (by unfold lessU; rw [if_pos (by rw [HS.out]; simpa using HZ.out)])
    go_enter Tryz.func35, Tryz.ntmps35
    go_wp2_with (first
      | (at_builtin; refine Kd.wpList_join (F := fun _ => False) (G := (· < w.heap.size)) (B := w.heap.size) (n := 0) (m := n) (c := c) (v := .slice none 0 0) (xs := []) (ys := us) (A := A) Ap.Unt.row_t rfl _ _ rfl rfl rfl (Kd.Own.nil _ _ _ _ _) HU.out HFi.out.1 (fun h => Ap.Unt_rep.2 (Ap.Unt_rep.1 h)) (by omega) (by omega) (Nat.le_refl _) (fun _ h => h.elim) ?_; intro v3 w3 hown hgrow hfr; rw [Nat.zero_add, List.nil_append] at hown; have hb3 : Below w.heap.size w w3 := (Below.refl _ _).grown hgrow (Nat.le_refl _) (fun q hq => by cases hq); have HO3 := Lib.hid (And.intro hown hb3); obtain ⟨A3, c3, rfl⟩ := hown.value; clear hown hgrow hfr)
      | (go_at_call 42; with_reducible refine (HC.out _ HO3.out.2).mono ?_; rintro x wz ⟨rfl, hw⟩; obtain rfl := hw))
    refine bodyPost_ret (results_tmp2 rfl _ _ _) rfl ?_
    rw [HE.out]
    exact told2_of HO3.out.1 HO3.out.2 0
  | false =>
    have hS0 : ¬ S = 0 := by simpa using HZ.out
    have hq0 : 0 < q := by
      rcases Nat.eq_zero_or_pos q with h0 | h0
      . have : os = [] := List.eq_nil_of_length_eq_zero (by rw [HLo.out]; exact h0)
        have h2 := HS.out
        rw [this] at h2
        exact absurd h2.symm hS0
      . exact h0
    have hn0 : 0 < n := by
      obtain ⟨x, hx⟩ := HM.out.get (show 0 < m by omega)
      have := HP.out 0 x hx
      omega
    have HE : Hid (lessU us ms os cl = (shutK (subK us ms os q) ms (if cl then m else 0), S)) := Lib.hid (by unfold lessU; rw [HS.out, if_neg hS0, HLo.out, HLm.out])
    clear hS0
    go_enter Tryz.func35, Tryz.ntmps35
    go_wp2_with (first
      | (at_builtin; refine Kd.wpList_join (F := fun _ => False) (G := (· < w.heap.size)) (B := w.heap.size) (n := 0) (m := n) (c := c) (v := .slice none 0 0) (xs := []) (ys := us) (A := A) Ap.Unt.row_t rfl _ _ rfl rfl rfl (Kd.Own.nil _ _ _ _ _) HU.out HFi.out.1 (fun h => Ap.Unt_rep.2 (Ap.Unt_rep.1 h)) (by omega) (by omega) (Nat.le_refl _) (fun _ h => h.elim) ?_; intro v3 w3 hown hgrow hfr; rw [Nat.zero_add, List.nil_append] at hown; have hb3 : Below w.heap.size w w3 := (Below.refl _ _).grown hgrow (Nat.le_refl _) (fun q hq => by cases hq); obtain ⟨A3, c3, rfl⟩ := hown.value; obtain ⟨g, rfl, _, _⟩ := hown.first hn0; have HO3 := Lib.hid (Ls.mk hown hb3); clear hown hgrow hfr)
      | (go_at_call 42; with_reducible refine (HC.out _ HO3.out.below).mono ?_; rintro x wz ⟨rfl, hw⟩; obtain rfl := hw))
    go_loopw [11] (fun s11 wr => ∃ k : Nat, s11 = .int .i64 k /\ k <= q /\ Hid (Ls w wr g n c3 (subK us ms os k))) (fun s11 _ => q - (intOf s11).toNat)
    case atStart => exact ⟨0, rfl, by omega, HO3⟩
    case round =>
      clear HO3
      obtain ⟨k, rfl, hk, HO⟩ := hrel
      have kk : (0 : Int) <= (k : Int) := by omega
      by_cases hlt : k < q
      . obtain ⟨t0, ht0⟩ := HM.out.get (show k < m by omega)
        obtain ⟨x0, x1⟩ := HP.out k t0 ht0
        obtain ⟨t, ht⟩ : ∃ t : Nat, t0 = (t : Int) := ⟨t0.toNat, by omega⟩
        subst ht
        have htn : t < n := by omega
        obtain ⟨o, ho⟩ := HQ.out.get hlt
        obtain ⟨u, hu⟩ := HU.out.get htn
        have hus : (subK us ms os k)[t]? = some u := by
          have := subK_at (us := us) (os := os) HFar.out ht0 k (Nat.le_refl k)
          rw [Int.toNat_natCast] at this
          rw [this, hu]
        obtain ⟨v, hv⟩ : ∃ v, u.net - o = v := ⟨_, rfl⟩
        have hvr : -9223372036854775808 <= v /\ v <= 9223372036854775807 := by rw [<- hv]; exact HOk.out k (t : Int) o u ht0 ho (by rw [Int.toNat_natCast]; exact hu)
        have w1 : IntKind.i64.wrap (u.net - o) = v := by rw [hv]; exact IntWalk.i64_in _ (by omega)
        have hsub : subK us ms os (k + 1) = (subK us ms os k).modify t (lessNet o) := by rw [subK, nth_some ht0, nth_some ho, Int.toNat_natCast]
        have HX : Hid (Ls w (wr.drew.setCell ⟨g, t * 3 + 1, none⟩ (.int .i64 v)) g n c3 (subK us ms os (k + 1))) := Lib.hid (by rw [hsub]; exact HO.out.drew.less hus hv hvr)
        obtain ⟨c37, _, f37, _, _⟩ := HO.out.get hus
        obtain ⟨g1, o1, rfl, hg1, _, _, a1⟩ := row_int HM.out ht0
        obtain ⟨g2, o2, rfl, hg2, _, _, a2⟩ := row_int HQ.out ho
        have c1 : ∀ u, Below w.heap.size w u -> u.cell? ⟨g1, o1 + k, none⟩ = some (.int .i64 (t : Int)) := fun u hu => (hu.cell (p := ⟨g1, _, none⟩) hg1).trans a1
        have c2 : ∀ u, Below w.heap.size w u -> u.cell? ⟨g2, o2 + k, none⟩ = some (.int .i64 o) := fun u hu => (hu.cell (p := ⟨g2, _, none⟩) hg2).trans a2
        have k1 : (k : Int) < (q : Int) := by omega
        have k2 : (k : Int) < (m : Int) := by omega
        have t0 : (0 : Int) <= (t : Int) := by omega
        have t1 : (t : Int) < (n : Int) := by omega
        clear ht0 ho hu hus hv hvr hsub a1 a2 hg1 hg2 x0 x1
        go_wp2_with fail
        refine wp_region_held_drew (S := fun u => Below w.heap.size w u) (by kernel_rfl) (HO.out.below.drew) (fun hS0 => ?_)
        refine pkT 0 25 hS0 ?_
        try simp only [Act.put, pkA, pkB, pkC]
        refine pkT 1 26 hS0 ?_
        try simp only [Act.put, pkA, pkB, pkC]
        refine pkT 2 27 hS0 ?_
        try simp only [Act.put, pkA, pkB, pkC]
        refine pkT 3 28 hS0 ?_
        try simp only [Act.put, pkA, pkB, pkC]
        refine pkT 4 29 hS0 ?_
        try simp only [Act.put, pkA, pkB, pkC]
        refine pkT 5 30 hS0 ?_
        try simp only [Act.put, pkA, pkB, pkC]
        refine pkT 6 31 hS0 ?_
        try simp only [Act.put, pkA, pkB, pkC]
        refine pkT 7 32 hS0 ?_
        try simp only [Act.put, pkA, pkB, pkC]
        refine pkT 8 33 hS0 ?_
        try simp only [Act.put, pkA, pkB, pkC]
        refine pkT 9 34 hS0 ?_
        try simp only [Act.put, pkA, pkB, pkC]
        refine pkT 10 35 hS0 ?_
        try simp only [Act.put, pkA, pkB, pkC]
        refine pkT 11 36 hS0 ?_
        try simp only [Act.put, pkA, pkB, pkC]
        refine pkT 13 38 hS0 ?_
        try simp only [Act.put, pkA, pkB, pkC]
        refine pkT 14 39 hS0 ?_
        try simp only [Act.put, pkA, pkB, pkC]
        refine pkT 15 40 hS0 ?_
        try simp only [Act.put, pkA, pkB, pkC]
        refine pkT 16 41 hS0 ?_
        try simp only [Act.put, pkA, pkB, pkC]
        refine wpAnyH_ready (rs := [12]) (by kernel_rfl) (by simp) ?_
        refine AllReadyH.cons (o := ⟨some 37, _, _, _, _, _⟩) rfl (fun K hK => ?_) AllReadyH.nil
        go_simp
        refine hK.out _ _ (hS0) (fun hS1 => ?_)
        clear hK K
        try simp only [Act.put, pkA, pkB, pkC]
        refine pkT 17 42 hS1 ?_
        try simp only [Act.put, pkA, pkB, pkC]
        refine pkT 18 43 hS1 ?_
        try simp only [Act.put, pkA, pkB, pkC]
        refine pkT 19 44 hS1 ?_
        try simp only [Act.put, pkA, pkB, pkC]
        refine wpAnyH_ready (rs := [20]) (by kernel_rfl) (by simp) ?_
        refine AllReadyH.cons (o := ⟨none, _, _, _, _, _⟩) rfl (fun K hK => ?_) AllReadyH.nil
        go_simp
        refine hK.out _ _ (HX.out.below) (fun hS2 => ?_)
        clear hK K
        try simp only [Act.put, pkA, pkB, pkC]
        refine wpAnyH_done (by kernel_rfl) ?_ _
        go_wp2_with fail
        go_roundw
        case rel => exact ⟨k + 1, by go_num, by omega, HX⟩
        case measure => simp [intOf]; omega
      . have k1 : ¬ (k : Int) < (q : Int) := by omega
        obtain rfl : k = q := by omega
        obtain ⟨X, hX⟩ : ∃ X, subK us ms os k = X := ⟨_, rfl⟩
        rw [hX] at HO HE
        have HLx : Hid (X.length = n) := Lib.hid HO.out.own.1
        clear hX
        go_wp2_with fail
        go_loopw [12] (fun s12 wr => ∃ k2 : Nat, s12 = .int .i64 k2 /\ k2 <= m /\ (cl = false -> k2 = 0) /\ Hid (Ls w wr g n c3 (shutK X ms k2))) (fun s12 _ => m - (intOf s12).toNat)
        case atStart => exact ⟨0, rfl, by omega, fun _ => rfl, HO⟩
        case round =>
          clear HO
          obtain ⟨j, rfl, hj, hcl, HO⟩ := hrel
          have jj : (0 : Int) <= (j : Int) := by omega
          by_cases hlt : j < m
          . cases cl with
            | true =>
              obtain ⟨t0, ht0⟩ := HM.out.get hlt
              obtain ⟨x0, x1⟩ := HP.out j t0 ht0
              obtain ⟨t, ht⟩ : ∃ t : Nat, t0 = (t : Int) := ⟨t0.toNat, by omega⟩
              subst ht
              have htn : t < n := by omega
              obtain ⟨u, hu⟩ : ∃ u, (shutK X ms j)[t]? = some u := ⟨_, List.getElem?_eq_getElem (by rw [shutK_length, HLx.out]; exact htn)⟩
              have hsub : shutK X ms (j + 1) = (shutK X ms j).modify t Ct.shut := by rw [shutK, nth_some ht0, Int.toNat_natCast]
              have HX : Hid (Ls w (wr.setCell ⟨g, t * 3 + 2, none⟩ (.bool false)) g n c3 (shutK X ms (j + 1))) := Lib.hid (by rw [hsub]; exact HO.out.shut hu)
              obtain ⟨_, c38, _, f38, _⟩ := HO.out.get hu
              obtain ⟨g1, o1, rfl, hg1, _, _, a1⟩ := row_int HM.out ht0
              have c1 : wr.cell? ⟨g1, o1 + j, none⟩ = some (.int .i64 (t : Int)) := (HO.out.below.cell (p := ⟨g1, _, none⟩) hg1).trans a1
              have k2 : (j : Int) < (m : Int) := by omega
              have t0 : (0 : Int) <= (t : Int) := by omega
              have t1 : (t : Int) < (n : Int) := by omega
              clear ht0 hu hsub a1 hg1 x0 x1
              go_wp2
              go_roundw
              case rel => exact ⟨j + 1, by go_num, by omega, (fun h => by cases h), HX⟩
              case measure => simp [intOf]; omega
            | false =>
              have k2 : (j : Int) < (m : Int) := by omega
              have HE2 : Hid (lessU us ms os false = (shutK X ms j, S)) := Lib.hid (by rw [HE.out, hcl rfl]; rfl)
              clear hcl
              go_wp2_with (go_at_call 42; with_reducible refine (HC.out _ HO.out.below).mono ?_; rintro x wz ⟨rfl, hw⟩; obtain rfl := hw)
              refine bodyPost_ret (results_tmp2 rfl _ _ _) rfl ?_
              rw [HE2.out]
              exact told2_of HO.out.own HO.out.below S
          . have k2 : ¬ (j : Int) < (m : Int) := by omega
            have HE2 : Hid (lessU us ms os cl = (shutK X ms j, S)) := Lib.hid (by
              rw [HE.out]
              cases cl with
              | true => rw [show j = m by omega]; rfl
              | false => rw [hcl rfl]; rfl)
            clear hcl
            go_wp2_with (go_at_call 42; with_reducible refine (HC.out _ HO.out.below).mono ?_; rintro x wz ⟨rfl, hw⟩; obtain rfl := hw)
            refine bodyPost_ret (results_tmp2 rfl _ _ _) rfl ?_
            rw [HE2.out]
            exact told2_of HO.out.own HO.out.below S
end Go.Proofs.YtljmddjlnlmenaaGreat.Ct

end

section
namespace Go.Proofs.YtljmddjlnlmenaaGreat.Ct
open Go.ChangeShapes Go.WideShapes Go.ChangeAt Go.RowKit
open Ap (Unt Tir Prm kUnt kTir row_Unt row_Tir)
open Kd (Kind Row kInt row_int)
open Ko (Out Told Told2 At row_on)
theorem rnd_low {way q r d : Int} (hq : 0 <= q) : 0 <= Mn.rnd way q r d := by
  unfold Mn.rnd
  split
  . exact hq
  . split
    . omega
    . split <;> omega
theorem halfN_ok (x rate : Int) : 0 <= halfN x rate /\ halfN x rate <= 100000000000000 := by
  unfold halfN Rf.rateR
  split
  . rename_i hr
    unfold Rf.timesR
    split
    . rename_i h
      have hq : 0 <= x * rate / 10000 := Int.ediv_nonneg (Int.mul_nonneg h.1.1 hr.1) (by omega)
      have h0 := rnd_low (way := 1) (r := x * rate % 10000) (d := 10000) hq
      show 0 <= Mn.timesV 1 x rate 10000 /\ Mn.timesV 1 x rate 10000 <= 100000000000000
      unfold Mn.timesV
      split
      . rename_i hm; exact ⟨h0, hm⟩
      . omega
    . exact ⟨Int.le_refl 0, by decide⟩
  . exact ⟨Int.le_refl 0, by decide⟩
theorem own_down {α : Type} {K : Kind α} {w : World} {B B' E n : Nat} {F : Nat -> Prop} {v : Value} {xs : List α} (h : Kd.Own K w B E F v n xs) (hB : B' <= B) : Kd.Own K w B' E F v n xs := by
  obtain ⟨h1, cs, ho, hc⟩ := h
  refine ⟨h1, cs, ⟨ho.1, ?_⟩, hc⟩
  rcases ho.2 with h2 | ⟨g, cap, cur, hv, hb, rest⟩
  . exact .inl h2
  . exact .inr ⟨g, cap, cur, hv, Nat.le_trans hB hb, rest⟩
theorem told_down {α : Type} {K : Kind α} {E : Nat} {w w1 wr : World} {v : Value} {xs : List α} (h : Out K E w1 wr v xs) (hb : Below w.heap.size w w1) : Ko.Told K E w (.returned v) wr xs :=
  Out.told ⟨own_down h.own hb.size, hb.trans (h.below.mono hb.size)⟩
end Go.Proofs.YtljmddjlnlmenaaGreat.Ct

end

section
namespace Go.Proofs.YtljmddjlnlmenaaGreat.Ct
open Ap (Unt Tir Prm)
theorem parts_fine {t S : Int} {f : Nat -> Int} {n : Nat} (hS : 1 <= S) (hs : S = Sh.sumF f n) (h0 : 0 <= t) (h1 : t <= S) (hf : ∀ k, k < n -> 0 <= f k) {i : Nat} (hi : i < n) : 0 <= Sh.nth (Sh.parts t S f n) i /\ Sh.nth (Sh.parts t S f n) i <= f i := by
  have hfi := hf i hi
  have hm : t * f i <= S * f i := Int.mul_le_mul_of_nonneg_right h1 hfi
  have hb0 : 0 <= Sh.base t S f i := Int.ediv_nonneg (Int.mul_nonneg h0 hfi) (by omega)
  have hdm : S * Sh.base t S f i + Sh.rest t S f i = t * f i := Int.mul_ediv_add_emod _ _
  have hr0 : 0 <= Sh.rest t S f i := Int.emod_nonneg _ (by omega)
  rcases Sh.each (t := t) hS hs hi with e | ⟨e, hr⟩
  . rw [e]
    exact ⟨hb0, Int.le_of_mul_le_mul_left (a := S) (by omega) (by omega)⟩
  . rw [e]
    have h2 : Sh.base t S f i < f i := Int.lt_of_mul_lt_mul_left (a := S) (by omega) (by omega)
    omega
theorem sumF_nth (l : List Int) : ∀ k, k <= l.length -> Sh.sumF (nth l) k = sumL (l.take k)
  | 0, _ => by rw [List.take_zero]; rfl
  | k + 1, h => by
    have e : l[k]? = some (l[k]'(by omega)) := List.getElem?_eq_getElem (by omega)
    rw [Sh.sumF, sumF_nth l k (by omega), sumL_next e, nth_some e]
theorem sumL_same : ∀ l : List Int, Sh.sumL l = sumL l
  | [] => rfl
  | x :: l => by show x + Sh.sumL l = x + sumL l; rw [sumL_same l]
theorem sumL_zero (n : Nat) : sumL (List.replicate n 0) = 0 := by
  induction n with
  | zero => rfl
  | succ n ih => rw [List.replicate_succ, sumL, ih]; rfl
structure NetsOk (l : List Int) : Prop where
  few : l.length <= 100000
  each : ∀ (k : Nat) (x : Int), l[k]? = some x -> 0 <= x /\ x <= 10000000000000
  total : sumL l <= 10000000000000
def OffsFine (l os : List Int) : Prop := os.length = l.length /\ ∀ (k : Nat) (o x : Int), os[k]? = some o -> l[k]? = some x -> 0 <= o /\ o <= x
theorem spend_fine {l : List Int} (h : NetsOk l) {t : Int} (h0 : 0 <= t) (h1 : t <= sumL l) : OffsFine l (Sh.largR t (nth l) l.length).1 /\ sumL (Sh.largR t (nth l) l.length).1 = t := by
  have hs := sumF_nth l l.length (Nat.le_refl _)
  rw [List.take_length] at hs
  have hT := h.total
  have hfe : ∀ k, k < l.length -> 0 <= nth l k /\ nth l k <= 10000000000000 := fun k hk => by
    have e := List.getElem?_eq_getElem hk
    rw [nth_some e]; exact h.each k _ e
  by_cases hz : sumL l = 0
  . have t0 : t = 0 := by omega
    rw [Sh.larg_zero ⟨h0, by omega⟩ h.few (fun k hk => ⟨(hfe k hk).1, by have := (hfe k hk).2; omega⟩) (by rw [hs]; exact hz) (by omega)]
    refine ⟨⟨List.length_replicate, fun k o x ho hx => ?_⟩, by rw [t0]; exact sumL_zero _⟩
    have e : o = 0 := by
      rw [List.getElem?_replicate] at ho
      split at ho
      . injection ho with ho; exact ho.symm
      . cases ho
    have := h.each k x hx
    omega
  . have hp : 1 <= sumL l := by omega
    rw [Sh.larg_parts ⟨h0, by omega⟩ h.few (fun k hk => ⟨(hfe k hk).1, by have := (hfe k hk).2; omega⟩) (by rw [hs]; exact hz) (by rw [hs]; omega), hs]
    refine ⟨⟨Sh.parts_length, fun k o x ho hx => ?_⟩, ?_⟩
    . have hk : k < l.length := (List.getElem?_eq_some_iff.1 hx).1
      have := parts_fine hp hs.symm h0 h1 (fun k hk => (hfe k hk).1) hk
      rw [nth_some hx] at this
      have e : Sh.nth (Sh.parts t (sumL l) (nth l) l.length) k = o := by
        unfold Sh.nth
        have ho' : (Sh.parts t (sumL l) (nth l) l.length)[k]? = some o := ho
        rw [List.getD_eq_getElem?_getD, ho']; rfl
      rw [e] at this
      exact this
    . show sumL (Sh.parts t (sumL l) (nth l) l.length) = t
      rw [<- sumL_same]
      exact Sh.parts_sum hp hs.symm
theorem half_le {x rate : Int} (h0 : 0 <= x) (hr : rate <= 10000) : halfN x rate <= x := by
  unfold halfN Rf.rateR
  split
  . rename_i hr0
    unfold Rf.timesR
    split
    . show Mn.timesV 1 x rate 10000 <= x
      have hd : 10000 * (x * rate / 10000) + x * rate % 10000 = x * rate := Int.mul_ediv_add_emod _ _
      have hm : x * rate <= x * 10000 := Int.mul_le_mul_of_nonneg_left hr h0
      have hm0 : 0 <= x * rate := Int.mul_nonneg h0 hr0.1
      obtain ⟨q, hq⟩ : ∃ q, x * rate / 10000 = q := ⟨_, rfl⟩
      obtain ⟨r, hrr⟩ : ∃ r, x * rate % 10000 = r := ⟨_, rfl⟩
      have r0 : 0 <= r := by rw [<- hrr]; exact Int.emod_nonneg _ (by omega)
      rw [hq, hrr] at hd
      have key : Mn.rnd 1 q r 10000 <= x := by
        unfold Mn.rnd
        rw [if_neg (by omega), if_neg (by omega)]
        split <;> omega
      unfold Mn.timesV
      rw [hq, hrr]
      split
      . exact key
      . exact h0
    . exact h0
  . exact h0
theorem nsum_mono {us : List Unt} (h : Nets us) {a b : Nat} (hab : a <= b) : nsum (us.take a) <= nsum (us.take b) := by
  have h1 : Nets (us.take b) := fun k u hu => by
    rw [List.getElem?_take] at hu
    split at hu
    . exact h k u hu
    . cases hu
  have := (h1.part a).2
  rw [List.take_take, Nat.min_eq_left hab] at this
  exact this
theorem nets_sum {us : List Unt} {ms : List Int} (h : Nets us) (hp : PlacesMay us ms) : ∀ k, k <= ms.length -> sumL (netsL us (ms.take k)) <= nsum us /\ ∀ z m, k = z + 1 -> ms[z]? = some m -> sumL (netsL us (ms.take k)) <= nsum (us.take (m.toNat + 1))
  | 0, _ => ⟨by rw [List.take_zero]; exact h.sum, fun z m e => by omega⟩
  | k + 1, hk => by
    have ih := nets_sum h hp k (by omega)
    have e : ms[k]? = some (ms[k]'(by omega)) := List.getElem?_eq_getElem (by omega)
    obtain ⟨m, hm⟩ : ∃ m, ms[k]'(by omega) = m := ⟨_, rfl⟩
    rw [hm] at e
    obtain ⟨m0, u, hu, _⟩ := hp.at_ k m e
    have hs : sumL (netsL us (ms.take (k + 1))) = sumL (netsL us (ms.take k)) + u.net := by
      rw [take_next e]
      unfold netsL
      rw [List.map_append, sumL_append]
      show _ + sumL [netAt us m] = _
      have : netAt us m = u.net := by unfold netAt; rw [hu]
      rw [this]; simp [sumL]
    have hn := nsum_next hu
    have hlow : sumL (netsL us (ms.take k)) <= nsum (us.take m.toNat) := by
      cases k with
      | zero => rw [List.take_zero]; exact (h.part _).1
      | succ z =>
        have e2 : ms[z]? = some (ms[z]'(by omega)) := List.getElem?_eq_getElem (by omega)
        have h1 := ih.2 z _ rfl e2
        have h2 := hp.rise z _ m e2 e
        have h3 := (hp.at_ z _ e2).1
        exact Int.le_trans h1 (nsum_mono h (by omega))
    have key : sumL (netsL us (ms.take (k + 1))) <= nsum (us.take (m.toNat + 1)) := by omega
    refine ⟨Int.le_trans key (h.part _).2, fun z m' ez hz => ?_⟩
    obtain rfl : z = k := by omega
    rw [e] at hz; injection hz with hz; subst hz
    exact key
theorem nets_ok {us : List Unt} {ms : List Int} (h : May us ms) : NetsOk (netsL us ms) := by
  have hf := h.places.few
  have hu := h.units.few
  refine ⟨by unfold netsL; rw [List.length_map]; omega, fun k x hx => ?_, ?_⟩
  . unfold netsL at hx
    rw [List.getElem?_map] at hx
    cases e : ms[k]? with
    | none => rw [e] at hx; cases hx
    | some m =>
      rw [e] at hx
      obtain ⟨_, u, hu, _⟩ := h.places.at_ k m e
      have e2 : netAt us m = u.net := by unfold netAt; rw [hu]
      injection hx with hx
      rw [<- hx, e2]
      have h1 := h.units.nets _ u hu
      have h2 := h.units.nets.one hu
      have h3 := h.units.total
      omega
  . have := (nets_sum h.units.nets h.places ms.length (Nat.le_refl _)).1
    rw [List.take_length] at this
    have h3 := h.units.total
    omega
end Go.Proofs.YtljmddjlnlmenaaGreat.Ct

end

section
namespace Go.Proofs.YtljmddjlnlmenaaGreat.Sh
open Go.ChangeShapes Go.WideShapes Go.ChangeAt Go.RowKit
open Rf (pairOf)
theorem upto_in (t n k : Int) (t0 : 0 <= t) (n0 : 1 <= n) (k0 : 0 <= k) (k1 : k <= n) : 0 <= t * k / n /\ t * k / n <= t := by
  refine ⟨Int.ediv_nonneg (Int.mul_nonneg t0 k0) (by omega), ?_⟩
  have h : t * k <= t * n := Int.mul_le_mul_of_nonneg_left k1 t0
  have h2 := Int.ediv_le_ediv (c := n) (by omega) h
  rwa [Int.mul_ediv_cancel _ (by omega)] at h2
end Go.Proofs.YtljmddjlnlmenaaGreat.Sh

end
