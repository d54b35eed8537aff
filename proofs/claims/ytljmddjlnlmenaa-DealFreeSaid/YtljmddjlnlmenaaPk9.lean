/- Deals: what the document says of rows and bundles, in numbers and lists. · Deals: the landed sum, netsOf, rateOf, waiting, dearestFirst (made by gen-deal16.py). -/
import Derived.Test.YtljmddjlnlmenaaPk5
import Derived.Test.YtljmddjlnlmenaaPk7
import Derived.Test.YtljmddjlnlmenaaPk8

section
set_option maxRecDepth 100000
set_option linter.unusedVariables false
namespace Go.Proofs.Ytljmddjlnlmenaa.Dl
open Ap (Unt Tir Prm Prt)
open Ct (nth nth_some netAt netsL sumL sumL_append sumL_next halfN UnitsMay PlacesMay May mayB Far take_next lessU)
/-! ### The dearest first -/
def pt (us : List Unt) (m : Int) : Qu.Pt := (netAt us m, m)
def dearK (us : List Unt) (ms : List Int) : Nat → List Qu.Pt
  | 0 => []
  | k + 1 => Qu.ins (pt us (nth ms k)) (dearK us ms k)
def dearP (us : List Unt) (ms : List Int) : List Qu.Pt := dearK us ms ms.length
def places (l : List Qu.Pt) : List Int := l.map (·.2)
def dearL (us : List Unt) (ms : List Int) : List Int := places (dearP us ms)
theorem dearK_length (us : List Unt) (ms : List Int) : ∀ k, (dearK us ms k).length = k
  | 0 => rfl
  | k + 1 => by rw [dearK, Qu.length_ins, dearK_length us ms k]
theorem dearK_perm (us : List Unt) (ms : List Int) : ∀ k, k ≤ ms.length → (dearK us ms k).Perm ((ms.take k).map (pt us))
  | 0, _ => by rw [List.take_zero]; exact List.Perm.refl _
  | k + 1, h => by
    have e := List.getElem?_eq_getElem (show k < ms.length by omega)
    rw [take_next e, List.map_append, dearK, nth_some e]
    exact (Qu.ins_perm _ _).trans (((dearK_perm us ms k (by omega)).cons _).trans (List.perm_append_singleton _ _).symm)
theorem dearL_length (us : List Unt) (ms : List Int) : (dearL us ms).length = ms.length := by unfold dearL places dearP; rw [List.length_map, dearK_length]
theorem dearL_perm (us : List Unt) (ms : List Int) : (dearL us ms).Perm ms := by
  have h := (dearK_perm us ms ms.length (Nat.le_refl _)).map (·.2)
  rw [List.take_length, List.map_map] at h
  have e : ms.map ((fun p : Qu.Pt => p.2) ∘ pt us) = ms := by
    have : ((fun p : Qu.Pt => p.2) ∘ pt us) = id := rfl
    rw [this, List.map_id]
  rw [e] at h
  exact h
/-! ### Places apart, in any order -/
structure Apart (us : List Unt) (ds : List Int) : Prop where
  at_ : ∀ m ∈ ds, 0 ≤ m ∧ ∃ u, us[m.toNat]? = some u ∧ u.opn = true
  far : ds.Pairwise fun a b => a.toNat ≠ b.toNat
theorem Apart.nil (us : List Unt) : Apart us [] := ⟨fun _ h => (by cases h), List.Pairwise.nil⟩
theorem Apart.perm {us : List Unt} {a b : List Int} (h : Apart us a) (hp : a.Perm b) : Apart us b :=
  ⟨fun m hm => h.at_ m (hp.mem_iff.2 hm), (hp.pairwise_iff (fun h => h.symm)).1 h.far⟩
theorem Apart.sub {us : List Unt} {a b : List Int} (h : Apart us b) (hs : a.Sublist b) : Apart us a :=
  ⟨fun m hm => h.at_ m (hs.subset hm), h.far.sublist hs⟩
theorem Apart.toFar {us : List Unt} {ds : List Int} (h : Apart us ds) : Far ds := fun i j a b hij ha hb => by
  obtain ⟨h1, rfl⟩ := List.getElem?_eq_some_iff.1 ha
  obtain ⟨h2, rfl⟩ := List.getElem?_eq_some_iff.1 hb
  exact List.pairwise_iff_getElem.1 h.far i j h1 h2 hij
theorem apart_of {us : List Unt} {ms : List Int} (h : PlacesMay us ms) : Apart us ms :=
  ⟨fun m hm => by
    obtain ⟨i, hi⟩ := List.mem_iff_getElem?.1 hm
    exact h.at_ i m hi,
   List.pairwise_iff_getElem.2 fun i j hi hj hij => h.far i j _ _ hij (List.getElem?_eq_getElem hi) (List.getElem?_eq_getElem hj)⟩
theorem Apart.get {us : List Unt} {ds : List Int} (h : Apart us ds) {i : Nat} {m : Int} (hm : ds[i]? = some m) : 0 ≤ m ∧ ∃ u, us[m.toNat]? = some u ∧ u.opn = true := h.at_ m (List.mem_of_getElem? hm)
theorem Apart.in_ {us : List Unt} {ds : List Int} (h : Apart us ds) : Ct.PlacesIn us.length ds := fun i m hm => by
  obtain ⟨h1, u, hu, _⟩ := h.get hm
  have := (List.getElem?_eq_some_iff.1 hu).1
  omega
theorem nodup_le : ∀ (n : Nat) (l : List Nat), l.Pairwise (· ≠ ·) → (∀ x ∈ l, x < n) → l.length ≤ n
  | 0, l, _, h => by
    cases l with
    | nil => exact Nat.le_refl _
    | cons x l => have := h x List.mem_cons_self; omega
  | n + 1, l, hd, h => by
    have hd' : l.Nodup := hd
    have h1 := nodup_le n (l.erase n) (hd'.erase n) fun x hx => by
      have h2 := (hd'.mem_erase_iff).1 hx
      have := h x h2.2
      have := h2.1
      omega
    rw [List.length_erase] at h1
    split at h1 <;> omega
theorem Apart.few {us : List Unt} {ds : List Int} (h : Apart us ds) : ds.length ≤ us.length := by
  have h1 := nodup_le us.length (ds.map Int.toNat) (List.Pairwise.map _ (fun _ _ h => h) h.far) fun x hx => by
    obtain ⟨m, hm, rfl⟩ := List.mem_map.1 hx
    obtain ⟨_, u, hu, _⟩ := h.at_ m hm
    exact (List.getElem?_eq_some_iff.1 hu).1
  rw [List.length_map] at h1
  exact h1
theorem dear_apart {us : List Unt} {ms : List Int} (h : PlacesMay us ms) : Apart us (dearL us ms) := (apart_of h).perm (dearL_perm us ms).symm
/-! ### What comes off of such places -/
structure Fine (us : List Unt) (ds os : List Int) : Prop where
  apart : Apart us ds
  len : os.length = ds.length
  each : ∀ (k : Nat) (m o : Int), ds[k]? = some m → os[k]? = some o → 0 ≤ o ∧ o ≤ netAt us m
theorem net_most {us : List Unt} (h : UnitsMay us) (m : Int) : 0 ≤ netAt us m ∧ netAt us m ≤ 10000000000000 := by
  unfold netAt
  split
  · rename_i u hu
    have h1 := h.nets _ u hu
    have h2 := h.nets.one hu
    have h3 := h.total
    omega
  · omega
theorem sum_most {l : List Int} {M : Int} (h : ∀ x ∈ l, 0 ≤ x ∧ x ≤ M) : 0 ≤ sumL l ∧ sumL l ≤ M * (l.length : Int) := by
  induction l with
  | nil => simp [sumL]
  | cons x l ih =>
    have h1 := h x List.mem_cons_self
    have h2 := ih fun y hy => h y (List.mem_cons_of_mem _ hy)
    have e : M * ((x :: l).length : Int) = M * (l.length : Int) + M := by
      rw [List.length_cons]
      push_cast
      rw [Int.mul_add, Int.mul_one]
    simp only [sumL]
    rw [e]
    omega
theorem nets_most {us : List Unt} (h : UnitsMay us) {ds : List Int} (hl : ds.length ≤ 100000) : ∀ k, 0 ≤ sumL ((netsL us ds).take k) ∧ sumL ((netsL us ds).take k) ≤ 1000000000000000000 := fun k => by
  have h1 := sum_most (l := (netsL us ds).take k) (M := 10000000000000) fun x hx => by
    obtain ⟨m, _, rfl⟩ := List.mem_map.1 (List.mem_of_mem_take hx)
    exact net_most h m
  have h2 : ((netsL us ds).take k).length ≤ 100000 := by rw [List.length_take]; unfold netsL; rw [List.length_map]; omega
  omega
theorem Fine.sums {us : List Unt} {ds os : List Int} (h : Fine us ds os) (hu : UnitsMay us) : Ct.SumOk os := fun k => by
  have hf := h.apart.few
  have hu2 := hu.few
  have h1 := sum_most (l := os.take k) (M := 10000000000000) fun x hx => by
    obtain ⟨i, hi⟩ := List.mem_iff_getElem?.1 (List.mem_of_mem_take hx)
    have hl : i < ds.length := by rw [← h.len]; exact (List.getElem?_eq_some_iff.1 hi).1
    have e := List.getElem?_eq_getElem hl
    have h1 := h.each i _ x e hi
    have h2 := net_most hu ds[i]
    omega
  have h2 : (os.take k).length ≤ 100000 := by rw [List.length_take, h.len]; omega
  omega
theorem Fine.less {us : List Unt} {ds os : List Int} (h : Fine us ds os) (hu : UnitsMay us) : Ct.LessOk us ds os := fun k m o u hm ho hun => by
  have h1 := h.each k m o hm ho
  have h2 := net_most hu m
  have e : netAt us m = u.net := by unfold netAt; rw [hun]
  omega
theorem cutK_deal {us : List Unt} {ms os : List Int} {cl : Bool} (hp : Apart us ms) (hl : os.length = ms.length) (hs : sumL os ≠ 0) : Ct.cutK us ms os cl ms.length = (lessU us ms os cl).1 := by
  apply List.ext_getElem?
  intro i
  by_cases h : ∃ (j : Nat) (m : Int), ms[j]? = some m ∧ m.toNat = i
  · obtain ⟨j, m, hm, rfl⟩ := h
    obtain ⟨_, u, hu, ho⟩ := hp.get hm
    have hj := (List.getElem?_eq_some_iff.1 hm).1
    rw [Ct.cutK_mine hp.toFar hm hu ms.length hj (Nat.le_refl _), Ct.less_mine hp.toFar hl cl hm hu hs]
    unfold Ct.cutOne
    rw [ho, Bool.true_and]
  · have h2 : ∀ (j : Nat) (m : Int), ms[j]? = some m → m.toNat ≠ i := fun j m hm e => h ⟨j, m, hm, e⟩
    rw [Ct.less_other (by omega) cl h2, Ct.cutK_other ms.length fun j hj => by
      have e := List.getElem?_eq_getElem hj
      rw [nth_some e]; exact h2 j _ e]
/-! ### Rows -/
def rowN (p : Prm) : Nat := (p.buy + p.get).toNat
def wholeL (p : Prm) (us : List Unt) (ms : List Int) : List Int := (dearL us ms).take (ms.length - ms.length % rowN p)
def offAt (p : Prm) (us : List Unt) (i : Nat) (m : Int) : Int := if p.buy ≤ ((i % rowN p : Nat) : Int) then halfN (netAt us m) p.rate else 0
def offsFrom (p : Prm) (us : List Unt) : Nat → List Int → List Int
  | _, [] => []
  | i, m :: l => offAt p us i m :: offsFrom p us (i + 1) l
def rowOffs (p : Prm) (us : List Unt) (ms : List Int) : List Int := offsFrom p us 0 (wholeL p us ms)
theorem offsFrom_length (p : Prm) (us : List Unt) : ∀ (i : Nat) (l : List Int), (offsFrom p us i l).length = l.length
  | _, [] => rfl
  | i, m :: l => by rw [offsFrom, List.length_cons, List.length_cons, offsFrom_length]
theorem offsFrom_append (p : Prm) (us : List Unt) : ∀ (i : Nat) (a b : List Int), offsFrom p us i (a ++ b) = offsFrom p us i a ++ offsFrom p us (i + a.length) b
  | i, [], b => rfl
  | i, m :: a, b => by
    show offAt p us i m :: offsFrom p us (i + 1) (a ++ b) = offAt p us i m :: offsFrom p us (i + 1) a ++ offsFrom p us (i + (a.length + 1)) b
    rw [offsFrom_append p us (i + 1) a b, show i + 1 + a.length = i + (a.length + 1) by omega]
    rfl
theorem offsFrom_next {p : Prm} {us : List Unt} {ds : List Int} {k : Nat} {m : Int} (h : ds[k]? = some m) : offsFrom p us 0 (ds.take (k + 1)) = offsFrom p us 0 (ds.take k) ++ [offAt p us k m] := by
  have hl : (ds.take k).length = k := by rw [List.length_take]; have := (List.getElem?_eq_some_iff.1 h).1; omega
  rw [take_next h, offsFrom_append, hl, Nat.zero_add]; rfl
theorem offsFrom_at {p : Prm} {us : List Unt} : ∀ {i k : Nat} {l : List Int} {o : Int}, (offsFrom p us i l)[k]? = some o → ∃ m, l[k]? = some m ∧ o = offAt p us (i + k) m
  | i, k, [], o, h => by simp [offsFrom] at h
  | i, 0, m :: l, o, h => by
    simp only [offsFrom, List.getElem?_cons_zero, Option.some.injEq] at h
    exact ⟨m, rfl, h.symm⟩
  | i, k + 1, m :: l, o, h => by
    simp only [offsFrom, List.getElem?_cons_succ] at h
    obtain ⟨x, hx, rfl⟩ := offsFrom_at h
    exact ⟨x, hx, by rw [show i + 1 + k = i + (k + 1) by omega]⟩
noncomputable def buygetU (p : Prm) (us : List Unt) (ms : List Int) : List Unt × Int :=
  if (Pr.promoB p && p.kind == 3 && mayB us ms) = true then lessU us (wholeL p us ms) (rowOffs p us ms) p.closes else (us, 0)
theorem half_low (x rate : Int) (h : 0 ≤ x) : 0 ≤ halfN x rate := (Ct.halfN_ok x rate).1
theorem rows_fine {p : Prm} {us : List Unt} {ms : List Int} (h : May us ms) (hr : p.rate ≤ 10000) : Fine us (wholeL p us ms) (rowOffs p us ms) :=
  ⟨(dear_apart h.places).sub (List.take_sublist _ _), offsFrom_length _ _ _ _, fun k m o hm ho => by
    obtain ⟨m', hm', rfl⟩ := offsFrom_at ho
    rw [hm] at hm'
    injection hm' with hm'
    subst hm'
    have h1 := net_most h.units m
    unfold offAt
    split
    · exact ⟨half_low _ _ h1.1, Ct.half_le h1.1 hr⟩
    · omega⟩
end Go.Proofs.Ytljmddjlnlmenaa.Dl

end

section
set_option maxRecDepth 100000
set_option linter.unusedVariables false
namespace Go.Proofs.Ytljmddjlnlmenaa.Dl
open Go.ChangeShapes Go.WideShapes Go.ChangeAt Go.RowKit
open Ap (Unt Tir Prm kUnt kTir row_Unt row_Tir)
open Kd (Kind Row kInt row_int)
open Ko (Out Told Told2 At row_on)
open Ct (nth nth_some netAt netsL sumL sumL_append sumL_next halfN UnitsMay PlacesMay May mayB Far take_next lessU SumOk PlacesIn i64_t)
theorem dsum_any (A : Option Addr) (n c : Nat) (l : List Int) (F : Nat → Prop) (w : World) (h : Row kInt w F A n l) (hn : n ≤ 1000000000000) (hs : SumOk l) :
    Calls Try.prog 35 #[.slice A n c] w fun e w' => e = .returned (.int .i64 (sumL l)) ∧ w = w' := by
  have HH := Lib.hid h
  have HS := Lib.hid hs
  have HL := Lib.hid h.len
  clear h hs
  go_enter Try.func35, Try.ntmps35
  go_wp2
  go_loopw [3, 8] (fun s3 s4 wr => ∃ k : Nat, s4 = .int .i64 k ∧ s3 = .int .i64 (sumL (l.take k)) ∧ k ≤ n ∧ w = wr) (fun _ s4 _ => n - (intOf s4).toNat)
  case atStart => exact ⟨0, rfl, rfl, by omega, rfl⟩
  case round =>
    obtain ⟨k, rfl, rfl, hk, hw⟩ := hrel
    obtain rfl := hw
    have kk : (0 : Int) ≤ (k : Int) := by omega
    by_cases hlt : k < n
    · obtain ⟨x, hx⟩ := HH.out.get hlt
      obtain ⟨g, o, rfl, _, _, hok, a0⟩ := row_int HH.out hx
      have e1 := sumL_next hx
      have b1 := HS.out (k + 1)
      rw [e1] at b1
      obtain ⟨S, hS⟩ : ∃ s, sumL (l.take k) = s := ⟨_, rfl⟩
      rw [hS] at e1 b1
      obtain ⟨T, hT⟩ : ∃ t, S + x = t := ⟨_, rfl⟩
      rw [hT] at e1 b1
      have w1 : IntKind.i64.wrap (S + x) = T := by rw [hT]; exact IntWalk.i64_in _ (by omega)
      have HE := Lib.hid e1
      have k1 : (k : Int) < (n : Int) := by omega
      clear hx hok e1 b1 hT
      simp only [hS]
      clear hS
      go_wp2
      go_roundw
      case rel => exact ⟨k + 1, by go_num, by rw [HE.out], by omega, (by first | trivial | rfl)⟩
      case measure => simp [intOf]; omega
    · have k1 : ¬ (k : Int) < (n : Int) := by omega
      obtain rfl : k = n := by omega
      have HE : Hid (sumL (l.take k) = sumL l) := Lib.hid (by rw [List.take_of_length_le (by rw [HL.out]; omega)])
      go_wp2
      go_ret
      exact ⟨by rw [← HE.out]; rfl, rfl⟩
theorem dnets_any (A : Option Addr) (n c : Nat) (us : List Unt) (B : Option Addr) (m d : Nat) (ms : List Int) (w : World) (h : Row kUnt w (· < w.heap.size) A n us) (g : Row kInt w (· < w.heap.size) B m ms) (hm : m ≤ 100000) (hp : PlacesIn n ms) :
    Calls Try.prog 21 #[.slice A n c, .slice B m d] w fun e w' => Ko.Told kInt 2 w e w' (netsL us ms) := by
  have HU := Lib.hid h
  have HM := Lib.hid g
  have HP := Lib.hid hp
  have HL := Lib.hid g.len
  obtain ⟨M, hM1, hM2⟩ := Ko.made_out i64_t m (by omega) (by omega)
  have HO0 := Lib.hid (hM2 w w (Below.refl _ _))
  have hmk := hM1 w
  clear h g hp hM1 hM2
  go_enter Try.func21, Try.ntmps21
  go_wp2
  go_loopw [5, 13] (fun s5 s6 wr => ∃ k : Nat, s6 = .int .i64 k ∧ k ≤ m ∧ Hid (Out kInt 2 w wr s5 (netsL us (ms.take k)))) (fun _ s6 _ => m - (intOf s6).toNat)
  case atStart => exact ⟨0, rfl, by omega, Lib.hid (by rw [List.take_zero]; exact HO0.out)⟩
  case round =>
    clear HO0 hmk
    obtain ⟨k, rfl, hk, HO⟩ := hrel
    have kk : (0 : Int) ≤ (k : Int) := by omega
    by_cases hlt : k < m
    · obtain ⟨x, hx⟩ := HM.out.get hlt
      obtain ⟨x0, x1⟩ := HP.out k x hx
      obtain ⟨t, ht⟩ : ∃ t : Nat, x = (t : Int) := ⟨x.toNat, by omega⟩
      subst ht
      have htn : t < n := by omega
      obtain ⟨u, hu⟩ := HU.out.get htn
      obtain ⟨g, o, rfl, hg, _, _, a0⟩ := row_int HM.out hx
      obtain ⟨g2, o2, rfl, hg2, _, hok, _, b1, _⟩ := row_Unt HU.out hu
      have c0 : wr.cell? ⟨g, o + k, none⟩ = some (.int .i64 (t : Int)) := (HO.out.below.cell (p := ⟨g, _, none⟩) hg).trans a0
      have c1 : wr.cell? ⟨g2, o2 + t * 3 + 1, none⟩ = some (.int .i64 u.net) := (HO.out.below.cell (p := ⟨g2, _, none⟩) hg2).trans b1
      have HN : Hid (netsL us (ms.take (k + 1)) = netsL us (ms.take k) ++ [u.net]) := Lib.hid (by
        rw [take_next hx]
        unfold netsL
        rw [List.map_append]
        congr 1
        show [netAt us (t : Int)] = [u.net]
        unfold netAt
        rw [Int.toNat_natCast, hu])
      have HK := Lib.hid hok.net
      have k1 : (k : Int) < (m : Int) := by omega
      have t0 : (0 : Int) ≤ (t : Int) := by omega
      have t1 : (t : Int) < (n : Int) := by omega
      have hlen : (netsL us (ms.take k)).length = k := by unfold netsL; rw [List.length_map, List.length_take, HL.out]; omega
      obtain ⟨os, hos⟩ : ∃ os, netsL us (ms.take k) = os := ⟨_, rfl⟩
      rw [hos] at HO hlen HN
      obtain ⟨C, e5, hv⟩ := HO.out.own.value
      rw [hlen] at hv
      subst hv
      have hown0 : Hid (Kd.Own kInt wr w.heap.size 2 (fun _ => False) (.slice C k e5) k os) := Lib.hid (by have := HO.out.own; rw [hlen] at this; exact this)
      have HLl := Lib.hid hlen
      have hlow := HO.out.below.size
      clear a0 b1 hx hu hok hg hg2 hos hlen x0 x1
      go_wp2_with ((at_builtin; refine Kd.wpList_push (W := wr) (F := fun _ => False) (B := w.heap.size) (n := k) (v := .slice C k e5) (xs := os) (y := u.net) (cs := [.int .i64 u.net]) i64_t rfl _ _ rfl rfl rfl rfl hown0.out ⟨rfl, HK.out⟩ (by omega) (by omega) hlow (fun _ h => h.elim) ?_; intro g1 cap w' hown hgrow hfr; have HPu := Lib.hid (HO.out.push HLl.out hown hgrow); clear hown hgrow hfr))
      go_roundw
      case rel => exact ⟨k + 1, by go_num, by omega, Lib.hid (by rw [HN.out]; exact HPu.out)⟩
      case measure => simp [intOf]; omega
    · have k1 : ¬ (k : Int) < (m : Int) := by omega
      obtain rfl : k = m := by omega
      have HE : Hid (netsL us (ms.take k) = netsL us ms) := Lib.hid (by rw [List.take_of_length_le (by rw [HL.out]; omega)])
      go_wp2
      go_ret
      exact (by rw [HE.out] at HO; exact HO.out.told)
theorem drate_any (x rate : Int) (w : World) : Calls Try.prog 15 #[.int .i64 x, .int .i64 rate] w fun e w' => e = .returned (.int .i64 (halfN x rate)) ∧ Below w.heap.size w w' := by
  have HR := Lib.hid (Rf.m_rate 1 x rate w)
  unfold Rf.pairOf at HR
  obtain ⟨a, ha⟩ : ∃ a, (Rf.rateR 1 x rate).1 = a := ⟨_, rfl⟩
  obtain ⟨b, hb⟩ : ∃ b, (Rf.rateR 1 x rate).2 = b := ⟨_, rfl⟩
  have HH : Hid (halfN x rate = a) := Lib.hid ha
  rw [ha, hb] at HR
  clear ha hb
  go_enter Try.func15, Try.ntmps15
  go_wp2_with fail
  refine HR.out.mono ?_
  rintro e w2 ⟨rfl, hb2⟩
  have HB := Lib.hid hb2
  clear hb2
  go_wp2
  go_ret
  exact ⟨by rw [HH.out]; rfl, HB.out⟩
/-! ### A row of the call's own stays, whatever is done with a queue -/
theorem own_moved {w w' : World} {B B' E q n : Nat} {r : Option Nat} {l : List Qu.Pt} {v : Value} {xs : List Int} (h : Kd.Own kInt w B E (fun _ => False) v n xs) (hq : Qu.IsQ w B' q r l) (hm : Qu.Moved w w' q r) (h1 : 103 ≠ E) (h2 : E ≠ 101) : Kd.Own kInt w' B E (fun _ => False) v n xs := by
  obtain ⟨hl, cs, ho, hc⟩ := h
  obtain ⟨a1, a2⟩ := hq.apart ho h1 h2
  refine Kd.Own.stay ⟨hl, cs, ho, hc⟩ (fun _ h => h.elim) fun g hg => hm.block g (ho.lt g hg).2 ?_ ?_
  · intro e; subst e; exact a1 hg.symm
  · intro e
    rcases a2 with a2 | a2
    · rw [a2] at e; cases e
    · exact a2 (by rw [hg]; exact e.symm)
def Waits (e : Ending) (w w' : World) (l : List Qu.Pt) : Prop := ∃ (q : Nat) (r : Option Nat), e = .returned (.pointer (some ⟨q, 0, none⟩)) ∧ Qu.IsQ w' w.heap.size q r l ∧ Below w.heap.size w w'
set_option maxHeartbeats 1000000 in
theorem waiting_any (A : Option Addr) (n c : Nat) (us : List Unt) (B : Option Addr) (m d : Nat) (ms : List Int) (w : World) (h : Row kUnt w (· < w.heap.size) A n us) (g : Row kInt w (· < w.heap.size) B m ms) (hm : m ≤ 100000) (hp : PlacesIn n ms) :
    Calls Try.prog 31 #[.slice A n c, .slice B m d] w fun e w' => Waits e w w' (dearP us ms) := by
  have HU := Lib.hid h
  have HM := Lib.hid g
  have HP := Lib.hid hp
  have HL := Lib.hid g.len
  clear h g hp
  go_enter Try.func31, Try.ntmps31
  go_wp2_with fail
  refine (Qu.queue_new w.heap.size w (Nat.le_refl _)).mono ?_
  rintro e w1 ⟨rfl, hQ, hB, hS⟩
  have HQ0 := Lib.hid (And.intro hQ hB)
  clear hQ hB hS
  go_wp2
  go_loopw [11] (fun s11 wr => ∃ (k : Nat) (r : Option Nat), s11 = .int .i64 k ∧ k ≤ m ∧ Hid (Qu.IsQ wr w.heap.size w.heap.size r (dearK us ms k) ∧ Below w.heap.size w wr)) (fun s11 _ => m - (intOf s11).toNat)
  case atStart => exact ⟨0, none, rfl, by omega, HQ0⟩
  case round =>
    clear HQ0
    obtain ⟨k, r, rfl, hk, HO⟩ := hrel
    have kk : (0 : Int) ≤ (k : Int) := by omega
    by_cases hlt : k < m
    · obtain ⟨x, hx⟩ := HM.out.get hlt
      obtain ⟨x0, x1⟩ := HP.out k x hx
      obtain ⟨t, ht⟩ : ∃ t : Nat, x = (t : Int) := ⟨x.toNat, by omega⟩
      subst ht
      have htn : t < n := by omega
      obtain ⟨u, hu⟩ := HU.out.get htn
      obtain ⟨g, o, rfl, hg, _, _, a0⟩ := row_int HM.out hx
      obtain ⟨g2, o2, rfl, hg2, _, hok, _, b1, _⟩ := row_Unt HU.out hu
      have c0 : wr.cell? ⟨g, o + k, none⟩ = some (.int .i64 (t : Int)) := (HO.out.2.cell (p := ⟨g, _, none⟩) hg).trans a0
      have c1 : wr.cell? ⟨g2, o2 + t * 3 + 1, none⟩ = some (.int .i64 u.net) := (HO.out.2.cell (p := ⟨g2, _, none⟩) hg2).trans b1
      have HN : Hid (dearK us ms (k + 1) = Qu.ins (u.net, (t : Int)) (dearK us ms k)) := Lib.hid (by
        rw [dearK, nth_some hx]
        unfold pt netAt
        rw [Int.toNat_natCast, hu])
      have HPu := Lib.hid (Qu.push_any (u.net, (t : Int)) w.heap.size w.heap.size r (dearK us ms k) wr HO.out.1 (by rw [dearK_length]; omega))
      have k1 : (k : Int) < (m : Int) := by omega
      have t0 : (0 : Int) ≤ (t : Int) := by omega
      have t1 : (t : Int) < (n : Int) := by omega
      clear a0 b1 hx hu hok hg hg2 x0 x1
      go_wp2_with fail
      refine HPu.out.mono ?_
      rintro e w2 ⟨rfl, r', hQ', hM, hF⟩
      have HQ2 := Lib.hid (And.intro hQ' (HO.out.2.trans (HO.out.1.toBelow hM)))
      clear hQ' hM hF
      go_wp2
      go_roundw
      case rel => exact ⟨k + 1, r', by go_num, by omega, Lib.hid (by rw [HN.out]; exact HQ2.out)⟩
      case measure => simp [intOf]; omega
    · have k1 : ¬ (k : Int) < (m : Int) := by omega
      obtain rfl : k = m := by omega
      have HE : Hid (dearK us ms k = dearP us ms) := Lib.hid (by unfold dearP; rw [HL.out])
      go_wp2
      go_ret
      exact ⟨_, r, rfl, by rw [← HE.out]; exact HO.out.1, HO.out.2⟩
structure Tells (w wr : World) (B q : Nat) (r : Option Nat) (v : Value) (all done l : List Qu.Pt) : Prop where
  all : all = done ++ l
  que : Qu.IsQ wr B q r l
  out : Out kInt 3 w wr v (places done)
  low : w.heap.size ≤ B
theorem Tells.step {w wr w1 w2 : World} {B q : Nat} {r : Option Nat} {v v' : Value} {all done l : List Qu.Pt} {x : Qu.Pt} {L : Nat} (h : Tells w wr B q r v all done (x :: l)) (hq : Qu.IsQ w1 B q r l) (hm : Qu.Moved wr w1 q r) (e : done.length = L)
    (hown : Kd.Own kInt w2 w.heap.size 3 (fun _ => False) v' (L + 1) (places done ++ [x.2])) (hgrow : w1.grownBy w2 v.ownBlock) : Tells w w2 B q r v' all (done ++ [x]) l := by
  have h1 := own_moved h.out.own h.que hm (by decide) (by decide)
  obtain ⟨_, cs, ho, _⟩ := h1
  obtain ⟨a1, a2⟩ := hq.apart ho (by decide) (by decide)
  have hb := h.out.below.trans ((h.que.toBelow hm).mono h.low)
  refine ⟨by rw [h.all]; simp, hq.grown hgrow a1 a2, ?_, h.low⟩
  have e1 : places (done ++ [x]) = places done ++ [x.2] := by unfold places; rw [List.map_append]; rfl
  have e2 : (places done).length = L := by unfold places; rw [List.length_map]; exact e
  refine ⟨by rw [e1, List.length_append, List.length_singleton, e2]; exact hown, hb.grown hgrow hb.size fun i hi => (ho.lt i hi).1⟩
set_option maxHeartbeats 1000000 in
theorem dearestFirst_any (A : Option Addr) (n c : Nat) (us : List Unt) (B : Option Addr) (m d : Nat) (ms : List Int) (w : World) (h : Row kUnt w (· < w.heap.size) A n us) (g : Row kInt w (· < w.heap.size) B m ms) (hm : m ≤ 100000) (hp : PlacesIn n ms) :
    Calls Try.prog 14 #[.slice A n c, .slice B m d] w fun e w' => Ko.Told kInt 3 w e w' (dearL us ms) := by
  obtain ⟨M, hM1, hM2⟩ := Ko.made_out Ap.int_t m (by omega) (by omega)
  have hmk := hM1 w
  have hO0 := hM2 w w (Below.refl _ _)
  obtain ⟨w1, hw1⟩ : ∃ w1, w.alloc (.cells M 3) = w1 := ⟨_, rfl⟩
  rw [hw1] at hmk hO0
  have HWt := Lib.hid (waiting_any A n c us B m d ms w1 (row_on h hO0.below) (row_on g hO0.below) hm hp)
  have HO0 := Lib.hid hO0
  have HL := Lib.hid g.len
  have HBd : Hid (∀ x ∈ ms, -9223372036854775808 ≤ x ∧ x ≤ 9223372036854775807) := Lib.hid fun x hx => by
    obtain ⟨i, hi⟩ := List.mem_iff_getElem?.1 hx
    obtain ⟨_, _, _, _, _, hok, _⟩ := row_int g hi
    exact hok
  clear h g hp hM1 hM2 hO0 hw1
  go_enter Try.func14, Try.ntmps14
  go_wp2_with fail
  refine HWt.out.mono ?_
  rintro e w2 ⟨q, r, rfl, hQ, hB⟩
  have HT0 : Hid (Tells w w2 w1.heap.size q r (.slice (some ⟨w.heap.size, 0, none⟩) 0 m) (dearP us ms) [] (dearP us ms)) := Lib.hid ⟨rfl, hQ, HO0.out.later hB, HO0.out.below.size⟩
  clear hQ hB
  go_wp2_with fail
  go_loopg [5] m (fun kx s5 wx => ∃ v done l, s5 = v ∧ l.length ≤ kx ∧ Hid (Tells w wx w1.heap.size q r v (dearP us ms) done l))
  case atStart => exact ⟨_, [], dearP us ms, rfl, by unfold dearP; rw [dearK_length, HL.out]; exact Nat.le_refl _, HT0⟩
  case round =>
    obtain ⟨v, done, l, hv5, hl, HT⟩ := hrel
    subst hv5
    clear HT0
    have hall := congrArg List.length HT.out.all
    unfold dearP at hall
    rw [dearK_length, List.length_append, HL.out] at hall
    cases l with
    | nil =>
      have HLn := Lib.hid (Qu.qlen_any w1.heap.size q r [] wr HT.out.que)
      have hd : dearL us ms = places done := by unfold dearL; rw [HT.out.all, List.append_nil]
      have HF : Hid (Ko.Told kInt 3 w (.returned u5) wr (dearL us ms)) := Lib.hid (by rw [hd]; exact HT.out.out.told)
      clear hall hl hd
      go_wp2_with fail
      refine HLn.out.mono ?_
      rintro e w3 ⟨rfl, rfl⟩
      go_wp2
      go_ret
      exact HF.out
    | cons x l =>
      have HLn := Lib.hid (Qu.qlen_any w1.heap.size q r (x :: l) wr HT.out.que)
      have HP := Lib.hid (Qu.pop_some w1.heap.size q r x l wr HT.out.que (by simp at hall; omega))
      have l1 : (0 : Int) < (l.length : Int) + 1 := by omega
      have hdl : done.length ≤ 100000 := by omega
      have HL2 := Lib.hid (show l.length < gk by simp at hl; omega)
      have hlen : (places done).length = done.length := by unfold places; rw [List.length_map]
      obtain ⟨L, hLe⟩ : ∃ L, done.length = L := ⟨_, rfl⟩
      rw [hLe] at hdl hlen
      obtain ⟨C, e5, hv⟩ := HT.out.out.own.value
      rw [hlen] at hv
      subst hv
      have HLe := Lib.hid hLe
      have HLen := Lib.hid hlen
      have hx2 : -9223372036854775808 ≤ x.2 ∧ x.2 ≤ 9223372036854775807 := by
        refine HBd.out _ ((dearL_perm us ms).mem_iff.1 ?_)
        unfold dearL places
        rw [HT.out.all]
        exact List.mem_map_of_mem (List.mem_append_right _ List.mem_cons_self)
      have HX2 := Lib.hid hx2
      clear hall hl hlen hLe hx2
      go_wp2_with fail
      refine HLn.out.mono ?_
      rintro e w3 ⟨rfl, rfl⟩
      go_wp2_with fail
      refine HP.out.mono ?_
      rintro e w4 ⟨rfl, hq, hm⟩
      have hown0 := own_moved HT.out.out.own HT.out.que hm (by decide) (by decide)
      rw [HLen.out] at hown0
      have HQ := Lib.hid (And.intro hq hm)
      have hlow : w.heap.size ≤ w4.heap.size := by have := HT.out.out.below.size; have := hm.size; omega
      have HOw := Lib.hid hown0
      clear hq hm hown0
      go_wp2_with ((at_builtin; refine Kd.wpList_push (W := w4) (F := fun _ => False) (B := w.heap.size) (n := L) (v := .slice C L e5) (xs := places done) (y := x.2) (cs := [.int .i64 x.2]) Ap.int_t rfl _ _ rfl rfl rfl rfl HOw.out ⟨rfl, HX2.out⟩ (by omega) (by omega) hlow (fun _ h => h.elim) ?_; intro g1 cap w' hown hgrow hfr; have HT4 := Lib.hid (HT.out.step HQ.out.1 HQ.out.2 HLe.out hown hgrow); clear hown hgrow hfr))
      go_roundg l.length
      case measure => exact HL2.out
      case rel => exact ⟨_, done ++ [x], l, rfl, Nat.le_refl _, HT4⟩
end Go.Proofs.Ytljmddjlnlmenaa.Dl

end
