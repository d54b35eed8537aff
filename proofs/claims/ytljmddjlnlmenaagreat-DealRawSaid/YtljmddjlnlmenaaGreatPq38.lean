/- Deals: the document's one (made by gen-one16.py). · The document's Largest, and where its list lies (made by gen-largn16 .. -/
import Derived.Test.YtljmddjlnlmenaaGreatPq13
import Derived.Test.YtljmddjlnlmenaaGreatPq30
import Derived.Test.YtljmddjlnlmenaaGreatPq37
set_option maxRecDepth 100000
set_option linter.unusedVariables false

section
namespace Go.Proofs.YtljmddjlnlmenaaGreat.Dl
open Go.ChangeShapes Go.WideShapes Go.ChangeAt Go.RowKit
open Ap (Unt Tir Prm Prt kUnt kTir kPrt row_Unt row_Tir row_Prt)
open Kd (Kind Row RowT kInt kFlag kList Lst row_int row_list)
open Ko (Out Told row_on)
open Ct (nth nth_some take_next own_down)
theorem flag_get {w : World} {B g q c t : Nat} {h : List Bool} (k : Kd.Own kFlag w B 4 (fun _ => False) (.slice (some ⟨g, 0, none⟩) q c) q h) (ht : t < q) : w.cell? ⟨g, t, none⟩ = some (.bool (hadAt h (t : Int))) /\ w.frozen? ⟨g, t, none⟩ = false := by
  have hl : h.length = q := k.1
  have e1 := List.getElem?_eq_getElem (show t < h.length by omega)
  obtain ⟨g', o, cs, hA, _, _, hr, hc⟩ := k.read.each t _ e1
  injection hA with hA
  injection hA with h1 h2
  subst h1 h2
  have hr' : cs = [.bool h[t]] := hr
  subst hr'
  have := hc 0 _ rfl
  rw [show 0 + t * kFlag.size + 0 = t by show 0 + t * 1 + 0 = t; omega] at this
  have h2 := (k.cell (K := kFlag) ht (j := 0) (by decide)).2
  rw [show t * kFlag.size + 0 = t by show t * 1 + 0 = t; omega] at h2
  refine ⟨?_, h2⟩
  rw [this]
  unfold hadAt
  rw [Int.toNat_natCast, e1]; rfl
theorem flag_set {w : World} {B g q c t : Nat} {h : List Bool} (k : Kd.Own kFlag w B 4 (fun _ => False) (.slice (some ⟨g, 0, none⟩) q c) q h) (ht : t < q) : Kd.Own kFlag (w.setCell ⟨g, t, none⟩ (.bool true)) B 4 (fun _ => False) (.slice (some ⟨g, 0, none⟩) q c) q (take1 h (t : Int)) /\ B <= g := by
  have hl : h.length = q := k.1
  have e1 := List.getElem?_eq_getElem (show t < h.length by omega)
  have h1 := Kd.Own.put (K := kFlag) (k := t) (j := 0) (x := h[t]) (x' := true) (a := [.bool h[t]]) (u := .bool true) k e1 (fun h => h) (by decide) rfl (fun _ h => h.elim)
  rw [show t * kFlag.size + 0 = t from Nat.mul_one t] at h1
  have htk : take1 h (t : Int) = h.set t true := by unfold take1; rw [Int.toNat_natCast]
  rw [htk]
  exact ⟨h1.1, (k.low g rfl).1⟩
def oneL (p : Prm) (Ss : List (List Int)) (h : List Bool) : List Int := match pickAll (counts p) Ss h with
  | none => []
  | some (b, _, _) => srt b
structure Ost (w1 wx : World) (p : Prm) (Ss : List (List Int)) (h : List Bool) (q : Nat) (v9 v10 : Value) (i : Nat) (acc : List Int) (done : List (List Int)) (hh : List Bool) : Prop where
  out : Out kInt 3 w1 wx v9 acc
  tk : Kd.Own kFlag wx w1.heap.size 4 (fun _ => False) v10 q hh
  all : pickAll (counts p) Ss h = rest acc done ((counts p).drop i) (Ss.drop i) hh
  few : acc.length <= 100 * i
structure Oin (w1 wx : World) (p : Prm) (Ss : List (List Int)) (h : List Bool) (q : Nat) (v9 v10 : Value) (i c : Nat) (cur : List Int) (acc : List Int) (done : List (List Int)) (hh : List Bool) : Prop where
  out : Out kInt 3 w1 wx v9 acc
  tk : Kd.Own kFlag wx w1.heap.size 4 (fun _ => False) v10 q hh
  all : pickAll (counts p) Ss h = restIn acc done c cur ((counts p).drop (i + 1)) (Ss.drop (i + 1)) hh
  few : acc.length + c <= 100 * (i + 1)
set_option maxHeartbeats 4000000 in
theorem one_any (p : Prm) (l : Prm.Lay) (A : Option Addr) (n c : Nat) (B : Option Addr) (m d : Nat) (Ss : List (List Int)) (C : Option Addr) (q e : Nat) (h : List Bool) (w : World) (hP : Row kPrt w (· < w.heap.size) l.parts.A l.parts.n p.parts) (hg : Row (kList kInt) w (· < w.heap.size) B m Ss) (hu : Row kFlag w (· < w.heap.size) C q h) (hC : C = none -> q = 0 /\ e = 0) (hq5 : q <= 100000) (hmp : m = p.parts.length) (hp3 : p.parts.length <= 3) (hct : ∀ x ∈ p.parts, 1 <= x.count /\ x.count <= 100) (hin : ∀ S ∈ Ss, S.length <= 100000 /\ ∀ x ∈ S, 0 <= x /\ x < (q : Int)) :
    Calls Tryz.prog 41 #[.agg #[.string p.id, .int .i64 p.kind, .int .i64 p.priority, .string p.group, .string p.code, .bool p.closes, .slice l.scope.skus.A l.scope.skus.n l.scope.skus.c, .slice l.scope.cats.A l.scope.cats.n l.scope.cats.c, .int .i64 p.least, .int .i64 p.rate, .int .i64 p.amount, .int .i64 p.buy, .int .i64 p.get, .slice l.parts.A l.parts.n l.parts.c, .slice l.tiers.A l.tiers.n l.tiers.c], .slice A n c, .slice B m d, .slice C q e] w fun e w' => Ko.Told kInt 3 w e w' (oneL p Ss h) := by
  obtain ⟨w1, hw1⟩ : ∃ w1, w.alloc (.cells #[.string p.id, .int .i64 p.kind, .int .i64 p.priority, .string p.group, .string p.code, .bool p.closes, .slice l.scope.skus.A l.scope.skus.n l.scope.skus.c, .slice l.scope.cats.A l.scope.cats.n l.scope.cats.c, .int .i64 p.least, .int .i64 p.rate, .int .i64 p.amount, .int .i64 p.buy, .int .i64 p.get, .slice l.parts.A l.parts.n l.parts.c, .slice l.tiers.A l.tiers.n l.tiers.c] 28) = w1 := ⟨_, rfl⟩
  have hb1 : Below w.heap.size w w1 := by rw [<- hw1]; exact (Below.refl _ _).alloc (Nat.le_refl _) _
  have hx : Qu.Blk w1 w.heap.size 28 #[.string p.id, .int .i64 p.kind, .int .i64 p.priority, .string p.group, .string p.code, .bool p.closes, .slice l.scope.skus.A l.scope.skus.n l.scope.skus.c, .slice l.scope.cats.A l.scope.cats.n l.scope.cats.c, .int .i64 p.least, .int .i64 p.rate, .int .i64 p.amount, .int .i64 p.buy, .int .i64 p.get, .slice l.parts.A l.parts.n l.parts.c, .slice l.tiers.A l.tiers.n l.tiers.c] := by rw [<- hw1]; exact Qu.Blk.new w _ _
  have c13 : ∀ u, Below w1.heap.size w1 u -> u.cell? ⟨w.heap.size, 13, none⟩ = some (.slice l.parts.A l.parts.n l.parts.c) := fun u hu => (hx.below hu).cell 13
  have hlp := hP.len
  obtain ⟨np, hnp⟩ : ∃ np, l.parts.n = np := ⟨_, rfl⟩
  obtain ⟨A9, hA9⟩ : ∃ A9, l.parts.A = A9 := ⟨_, rfl⟩
  rw [hnp, hA9] at hP
  simp only [hnp, hA9] at c13
  rw [hnp] at hlp
  have hnp3 : np <= 3 := by omega
  have HP := Lib.hid (row_on hP hb1)
  have HG := Lib.hid (row_on hg hb1)
  have HU := Lib.hid (row_on hu hb1)
  have HB1 := Lib.hid hb1
  have HC := Lib.hid hct
  have HIn := Lib.hid hin
  have HLn := Lib.hid (And.intro hlp (And.intro hg.len hmp))
  have hmq : m = np := by omega
  have HMq := Lib.hid hmq
  have HOn := Lib.hid (show oneL p Ss h = match pickAll (counts p) Ss h with | none => [] | some (b, _, _) => srt b from rfl)
  clear hP hg hu hb1 hx hct hin hlp hmp hnp hA9 hp3 hmq
  go_enter Tryz.func41, Tryz.ntmps41
  go_wp2_with (at_builtin; refine Kd.wpList_join (o := ⟨some 16, _, _, _, _, _⟩) (F := fun _ => False) (G := (· < w1.heap.size)) (B := w1.heap.size) (n := 0) (m := q) (c := e) (v := .slice none 0 0) (xs := []) (ys := h) (A := C) flag_t rfl _ _ rfl rfl rfl (Kd.Own.nil _ _ _ _ _) HU.out hC (fun h => h) (by omega) (by omega) (Nat.le_refl _) (fun _ h => h.elim) ?_; intro v10 w2 hown hgrow hfr; rw [Nat.zero_add, List.nil_append] at hown; have hb2 : Below w1.heap.size w1 w2 := (Below.refl _ _).grown hgrow (Nat.le_refl _) (fun q hq => by cases hq); have H2 := Lib.hid (And.intro hown hb2); clear hown hgrow hfr hb2)
  obtain ⟨A10, c10, e10⟩ := H2.out.1.value
  subst e10
  have HO0 : Hid (Ost w1 w2 p Ss h q (.slice none 0 0) (.slice A10 q c10) 0 [] [] h) := Lib.hid ⟨Out.nil _ _ H2.out.2, H2.out.1, by rw [List.drop_zero, List.drop_zero, rest_start], by simp⟩
  go_loopw [9, 11] (fun s9 s11 wx => ∃ (i : Nat) (acc : List Int) (done : List (List Int)) (hh : List Bool), s11 = .int .i64 i /\ i <= np /\ Hid (Ost w1 wx p Ss h q s9 (.slice A10 q c10) i acc done hh)) (fun _ s11 _ => np - (intOf s11).toNat)
  case atStart => exact ⟨0, [], [], h, rfl, by omega, HO0⟩
  case round =>
    clear HO0 hw1
    obtain ⟨i, acc, done, hh, rfl, hi, HO⟩ := hrel
    have ii : (0 : Int) <= (i : Int) := by omega
    have y13 := c13 wr HO.out.out.below
    by_cases hlt : i < np
    . obtain ⟨pt9, hpt⟩ := HP.out.get hlt
      obtain ⟨g3, o3, l3, rfl, hg3, _, _, z0, z1, z2⟩ := row_Prt HP.out hpt
      have hct := HC.out pt9 (List.mem_of_getElem? hpt)
      obtain ⟨ct, hct2⟩ : ∃ ct : Nat, pt9.count = (ct : Int) := ⟨pt9.count.toNat, by omega⟩
      rw [hct2] at hct z2
      have d2 : ∀ u, Below w1.heap.size w1 u -> u.cell? ⟨g3, o3 + i * 3 + 2, none⟩ = some (.int .i64 (ct : Int)) := fun u hu => (hu.cell (p := ⟨g3, _, none⟩) hg3).trans z2
      have him : i < m := by rw [HMq.out]; exact hlt
      obtain ⟨S, hS⟩ := HG.out.get him
      obtain ⟨g4, o4, lm, rfl, hg4, _, hlm, a0⟩ := row_list HG.out hS
      have d4 : ∀ u, Below w1.heap.size w1 u -> u.cell? ⟨g4, o4 + i, none⟩ = some (.slice lm.A lm.n lm.c) := fun u hu => (hu.cell (p := ⟨g4, _, none⟩) hg4).trans a0
      obtain ⟨N, hN⟩ : ∃ N, lm.n = N := ⟨_, rfl⟩
      obtain ⟨A4, hA4⟩ : ∃ A4, lm.A = A4 := ⟨_, rfl⟩
      obtain ⟨C4, hC4⟩ : ∃ C4, lm.c = C4 := ⟨_, rfl⟩
      have hlr := hlm.row
      rw [hN, hA4] at hlr
      simp only [hN, hA4, hC4] at d4
      have HSr := Lib.hid hlr
      have HSl := Lib.hid hlr.len
      have hsn := HIn.out S (List.mem_of_getElem? hS)
      have HSi := Lib.hid hsn.2
      have hcd : (counts p).drop i = ct :: (counts p).drop (i + 1) := by
        have hl : i < (counts p).length := by unfold counts; rw [List.length_map, HLn.out.1]; exact hlt
        rw [List.drop_eq_getElem_cons hl]
        have e9 : (counts p)[i]? = some ct := by
          unfold counts
          rw [List.getElem?_map, hpt]
          show some pt9.count.toNat = some ct
          rw [hct2, Int.toNat_natCast]
        rw [(List.getElem?_eq_some_iff.1 e9).2]
      have hsd : Ss.drop i = S :: Ss.drop (i + 1) := by
        obtain ⟨h9, e9⟩ := List.getElem?_eq_some_iff.1 hS
        rw [List.drop_eq_getElem_cons h9, e9]
      have HI0 : Hid (Oin w1 wr p Ss h q u9 (.slice A10 q c10) i (ct - 0) (S.drop 0) acc done hh) := Lib.hid ⟨HO.out.out, HO.out.tk, by rw [HO.out.all, hcd, hsd, rest_cons]; rfl, by have := HO.out.few; omega⟩
      have hN5 : N <= 100000 := by rw [<- HSl.out]; exact hsn.1
      have k1 : (i : Int) < (np : Int) := by omega
      have k1m : (i : Int) < (m : Int) := by omega
      have c0 : (0 : Int) <= (ct : Int) := by omega
      have hc100 : ct <= 100 := by omega
      clear z0 z1 z2 hpt hct hct2 a0 hg3 hg4 hS hlm hN hA4 hC4 hlr hsn hcd hsd
      go_wp2_with fail
      clear y13
      go_loopw [9, 12, 13] (fun s9 s12 s13 wx => ∃ (nn k : Nat) (acc2 : List Int) (hh2 : List Bool), s12 = .int .i64 nn /\ s13 = .int .i64 k /\ nn <= ct /\ k <= N /\ Hid (Oin w1 wx p Ss h q s9 (.slice A10 q c10) i (ct - nn) (S.drop k) acc2 done hh2)) (fun _ _ s13 _ => N - (intOf s13).toNat)
      case atStart => exact ⟨0, 0, acc, hh, rfl, rfl, by omega, by omega, HI0⟩
      case round =>
        clear HI0 HO
        obtain ⟨nn, k, acc2, hh2, rfl, rfl, hnn, hkN, HI⟩ := hrel
        have kk : (0 : Int) <= (k : Int) := by omega
        have y13 := c13 wr HI.out.out.below
        have y2 := d2 wr HI.out.out.below
        have y4 := d4 wr HI.out.out.below
        by_cases hstop : k < N /\ nn < ct
        . obtain ⟨hk2, hn2⟩ := hstop
          obtain ⟨x, hx⟩ := HSr.out.get hk2
          obtain ⟨x0, x1⟩ := HSi.out x (List.mem_of_getElem? hx)
          obtain ⟨t, ht⟩ : ∃ t : Nat, x = (t : Int) := ⟨x.toNat, by omega⟩
          subst ht
          obtain ⟨g5, o5, rfl, hg5, _, _, a5⟩ := row_int HSr.out hx
          have y5 : wr.cell? ⟨g5, o5 + k, none⟩ = some (.int .i64 (t : Int)) := (HI.out.out.below.cell (p := ⟨g5, _, none⟩) hg5).trans a5
          have htq : t < q := by omega
          obtain ⟨g6, e6, _, _⟩ := HI.out.tk.first (by omega)
          subst e6
          obtain ⟨b6, f6⟩ := flag_get HI.out.tk htq
          have hdr : S.drop k = (t : Int) :: S.drop (k + 1) := by
            obtain ⟨h9, e9⟩ := List.getElem?_eq_some_iff.1 hx
            rw [List.drop_eq_getElem_cons h9, e9]
          obtain ⟨c9, hc9⟩ : ∃ c9, ct - nn = c9 + 1 := ⟨ct - nn - 1, by omega⟩
          have hall := HI.out.all
          rw [hdr, hc9] at hall
          have k2 : (k : Int) < (N : Int) := by omega
          have k3 : (nn : Int) < (ct : Int) := by omega
          have t0 : (0 : Int) <= (t : Int) := by omega
          have t1 : (t : Int) < (q : Int) := by omega
          cases hb : hadAt hh2 (t : Int) with
          | true =>
            rw [hb] at b6
            rw [restIn_had hb] at hall
            have HN : Hid (Oin w1 wr p Ss h q u9 (.slice (some ⟨g6, 0, none⟩) q c10) i (ct - nn) (S.drop (k + 1)) acc2 done hh2) := Lib.hid ⟨HI.out.out, HI.out.tk, by rw [hc9]; exact hall, HI.out.few⟩
            clear hx a5 hg5 hdr hall hb x0 x1
            go_wp2
            go_roundw
            case rel => exact ⟨nn, k + 1, acc2, hh2, rfl, by go_num, hnn, by omega, HN⟩
            case measure => simp [intOf]; omega
          | false =>
            rw [hb] at b6
            rw [restIn_take hb] at hall
            obtain ⟨hset, hlow6⟩ := flag_set HI.out.tk htq
            obtain ⟨Ws, hWs⟩ : ∃ Ws, wr.setCell ⟨g6, t, none⟩ (.bool true) = Ws := ⟨_, rfl⟩
            rw [hWs] at hset
            have hout : Out kInt 3 w1 Ws u9 acc2 := by
              rw [<- hWs]
              exact ⟨own_beside HI.out.out.own HI.out.tk (by decide) (Qu.turned_at wr g6 t _), HI.out.out.below.setCell hlow6 _⟩
            obtain ⟨La, hLa⟩ : ∃ La, acc2.length = La := ⟨_, rfl⟩
            obtain ⟨C9, e9, hv9⟩ := hout.own.value
            rw [hLa] at hv9
            subst hv9
            have hown0 := hout.own
            rw [hLa] at hown0
            have hfew := HI.out.few
            have hLa3 : La <= 1000 := by omega
            have HW := Lib.hid (And.intro hown0 (And.intro hout hLa))
            have HS := Lib.hid hset
            have HAll := Lib.hid hall
            have HFw := Lib.hid (And.intro hfew hc9)
            have hlow : w1.heap.size <= Ws.heap.size := hout.below.size
            have htr : -9223372036854775808 <= (t : Int) /\ (t : Int) <= 9223372036854775807 := by omega
            have HTr := Lib.hid htr
            clear hx a5 hg5 hdr hall hb x0 x1 hset hout hown0 hLa hfew hc9 htr
            go_wp2_with (at_builtin; refine Kd.wpList_push (W := Ws) (F := fun _ => False) (B := w1.heap.size) (n := La) (v := .slice C9 La e9) (xs := acc2) (y := (t : Int)) (cs := [.int .i64 (t : Int)]) Ap.int_t rfl _ _ rfl rfl rfl rfl HW.out.1 ⟨rfl, HTr.out⟩ (by omega) (by omega) hlow (fun _ h => h.elim) ?_; intro g7 cap w7 hown hgrow hfr; have HP7 := Lib.hid (And.intro (HW.out.2.1.push HW.out.2.2 hown hgrow) (own_beside HS.out HW.out.1 (by decide) hgrow)); clear hown hgrow hfr)
            go_roundw
            case rel => exact ⟨nn + 1, k + 1, _, _, by go_num, by go_num, by omega, by omega, Lib.hid ⟨HP7.out.1, HP7.out.2, by rw [show ct - (nn + 1) = c9 by have := HFw.out.2; omega]; exact HAll.out, by rw [List.length_append, List.length_singleton]; have := HFw.out; omega⟩⟩
            case measure => simp [intOf]; omega
        . by_cases hn2 : nn < ct
          . obtain rfl : k = N := by omega
            have hE : oneL p Ss h = [] := by
              have hall := HI.out.all
              obtain ⟨c9, hc9⟩ : ∃ c9, ct - nn = c9 + 1 := ⟨ct - nn - 1, by omega⟩
              rw [hc9, List.drop_of_length_le (by rw [HSl.out]; exact Nat.le_refl _), restIn_out] at hall
              rw [HOn.out, hall]
            have HE := Lib.hid hE
            have k2 : ¬ (k : Int) < (k : Int) := by omega
            have k3 : (nn : Int) < (ct : Int) := by omega
            clear hE hstop
            go_wp2
            go_ret
            rw [HE.out]
            exact ⟨none, 0, rfl, Kd.Own.nil _ _ _ _ _, HB1.out.trans (HI.out.out.below.mono HB1.out.size)⟩
          . obtain rfl : nn = ct := by omega
            have hall := HI.out.all
            rw [Nat.sub_self, restIn_zero] at hall
            have HO2 : Hid (Ost w1 wr p Ss h q u9 (.slice A10 q c10) (i + 1) acc2 (done ++ [S.drop k]) hh2) := Lib.hid ⟨HI.out.out, HI.out.tk, hall, by have := HI.out.few; omega⟩
            have k3 : ¬ (nn : Int) < (nn : Int) := by omega
            clear hall hstop hn2
            by_cases hk2 : k < N
            . have k2 : (k : Int) < (N : Int) := by omega
              go_wp2
              go_roundw
              case rel => exact ⟨i + 1, acc2, _, hh2, by go_num, by omega, HO2⟩
              case measure => simp [intOf]; omega
            . have k2 : ¬ (k : Int) < (N : Int) := by omega
              go_wp2
              go_roundw
              case rel => exact ⟨i + 1, acc2, _, hh2, by go_num, by omega, HO2⟩
              case measure => simp [intOf]; omega
    . have k1 : ¬ (i : Int) < (np : Int) := by omega
      obtain rfl : i = np := by omega
      have hall := HO.out.all
      rw [List.drop_of_length_le (by unfold counts; rw [List.length_map, HLn.out.1]; exact Nat.le_refl _), List.drop_of_length_le (by rw [HLn.out.2.1, HMq.out]; exact Nat.le_refl _), rest_nil] at hall
      have hE : oneL p Ss h = srt acc := by rw [HOn.out, hall]
      obtain ⟨La, hLa⟩ : ∃ La, acc.length = La := ⟨_, rfl⟩
      obtain ⟨C9, e9, hv9⟩ := HO.out.out.own.value
      rw [hLa] at hv9
      subst hv9
      have hown := HO.out.out.own
      rw [hLa] at hown
      have HRs := Lib.hid (rising_any C9 La e9 acc wr hown.read (by have := HO.out.few; omega))
      have HE := Lib.hid hE
      clear hall hE hown hLa
      go_wp2_with fail
      refine HRs.out.mono ?_
      rintro e w9 ht
      obtain ⟨A11, c11, rfl, ho, hb⟩ := ht
      have HF := Lib.hid (And.intro ho hb)
      clear ho hb
      go_wp2
      go_ret
      rw [HE.out]
      have hB := HB1.out.trans (HO.out.out.below.mono HB1.out.size)
      exact ⟨A11, c11, rfl, own_down HF.out.1 hB.size, hB.trans (HF.out.2.mono hB.size)⟩
end Go.Proofs.YtljmddjlnlmenaaGreat.Dl

end

section
namespace Go.Proofs.YtljmddjlnlmenaaGreat.Sh
open Go.ChangeShapes Go.WideShapes Go.ChangeAt Go.RowKit
open Qu (Blk IsQ Moved Pt ord)
def GaveN (e : Ending) (w w' : World) (p : List Int × Int) : Prop := Gave e w w' p /\ ∃ m c : Nat, e = .returned (.tuple #[.slice (some ⟨w.heap.size, 0, none⟩) m c, .int .i64 p.2])
set_option maxHeartbeats 4000000 in
set_option maxRecDepth 100000 in
theorem rlN_parts (t : Int) (A : Option Addr) (n c : Nat) (f : Nat -> Int) (w : World) (ha : Hl.Ints w w.heap.size A n f) (t0 : 0 <= t) (t1 : t <= 100000000000000) (hn : n <= 100000) (hf : ∀ k, k < n -> 0 <= f k /\ f k <= 100000000000000) (h0 : 1 <= sumF f n) (h : sumF f n <= 100000000000000) :
    Calls Tryz.prog 44 #[.int .i64 t, .slice A n c] w fun e w' => GaveN e w w' (parts t (sumF f n) f n, 0) := by
  have d0 : decide ((100000 : Int) < (n : Int)) = false := by simp; omega
  have d1 : decide (100000 < n) = false := by simp; omega
  have n1 : (n : Int) <= 100000 := by omega
  have HA := Lib.hid ha
  have HN := Lib.hid hn
  have HF := Lib.hid hf
  have HT := Lib.hid (show sumF f n <= 100000000000000 by omega)
  have HS0 := Lib.hid h0
  clear h h0
  clear ha hf hn
  go_enter Tryz.func44, Tryz.ntmps44
  go_wp2_with fail
  refine (Rf.right_yes _ _ t0 t1).mono ?_
  rintro e w1 ⟨rfl, rfl⟩
  go_wp2
  go_loopw [6] (fun s wr => ∃ k : Nat, s = .int .i64 k /\ k <= n /\ w = wr) (fun s _ => n - (intOf s).toNat)
  case atStart => exact ⟨0, rfl, by omega, by trivial⟩
  case round =>
    obtain ⟨k, rfl, hk, rfl⟩ := hrel
    have k0 : (0 : Int) <= (k : Int) := by omega
    by_cases hlt : k < n
    . obtain ⟨b, o, rfl, hbm, c1⟩ := HA.out k hlt
      have k1 : (k : Int) < (n : Int) := by omega
      go_wp2_with fail
      refine (Rf.right_yes _ _ (HF.out k hlt).1 (HF.out k hlt).2).mono ?_
      rintro e w1 ⟨rfl, rfl⟩
      go_wp2
      go_roundw
      case rel => exact ⟨k + 1, by go_num, by omega, by trivial⟩
      case measure => simp [intOf]; omega
    . obtain rfl : k = n := by omega
      have k1 : ¬ (k : Int) < (k : Int) := by omega
      go_wp2
      go_loopw [7, 8] (fun v s wr => ∃ (j : Nat) (x : Int), v = .int .i64 x /\ s = .int .i64 j /\ j <= k /\ w = wr /\ x = sumF f j /\ 0 <= x /\ x <= 100000000000000) (fun _ s _ => k - (intOf s).toNat)
      case atStart => exact ⟨0, 0, rfl, rfl, by omega, by trivial, rfl, by omega, by omega⟩
      case round =>
        obtain ⟨j, x, rfl, rfl, hj, rfl, hx, x0, x1⟩ := hrel
        have HX := Lib.hid hx
        clear hx
        have j0 : (0 : Int) <= (j : Int) := by omega
        by_cases hlt2 : j < k
        . obtain ⟨b, o, rfl, hbm, c1⟩ := HA.out j hlt2
          have j1 : (j : Int) < (k : Int) := by omega
          have hfj := HF.out j hlt2
          have HS : Hid (x + f j = sumF f (j + 1)) := Lib.hid (by rw [HX.out]; rfl)
          have hs : x + f j <= 100000000000000 := by
            have := sumF_le (f := f) (j + 1) k (by omega) (fun i hi => (HF.out i hi).1)
            have := HS.out
            have := HT.out
            omega
          go_wp2
          go_roundw
          case rel => exact ⟨j + 1, x + f j, by trivial, by go_num, by omega, by trivial, HS.out, by omega, hs⟩
          case measure => simp [intOf]; omega
        . obtain rfl : j = k := by omega
          have j1 : ¬ (j : Int) < (j : Int) := by omega
          clear d0 d1 hlt hlt2 k0 k1 hk hj
          have hj1 : j <= 100000 := HN.out
          have s0 : 1 <= x := by rw [HX.out]; exact HS0.out
          have hmk := make_row j (by omega)
          have HR0 : Hid (Rl3 w ((w.alloc (.cells (madeCells #[.int .i64 0] j) 2)).alloc (.cells (madeCells #[.int .i64 0] j) 2)) t x f j 0) := Lib.hid (by
            refine ⟨?_, ?_, ((Below.refl _ _).alloc (Nat.le_refl _) _).alloc (by simp) _⟩
            . rw [partG_zero]; exact (RowAt.made w j).alloc _
            . rw [partG_zero]
              have := RowAt.made (w.alloc (.cells (madeCells #[.int .i64 0] j) 2)) j
              simpa using this)
          have HFE : Hid (∀ k, k < j -> 0 <= f k /\ f k <= x) := Lib.hid (fun k hk => ⟨(HF.out k hk).1, by rw [HX.out]; exact sumF_elem j k hk (fun i hi => (HF.out i hi).1)⟩)
          have HXG : Hid (parts t (sumF f j) f j = parts t x f j) := Lib.hid (by rw [HX.out])
          have b1 : (x == 0) = false := by rw [beq_eq_false_iff_ne]; omega
          go_wp2
          go_loopw [11, 12] (fun v s wr => ∃ i : Nat, v = .int .i64 (left t x f i) /\ s = .int .i64 i /\ i <= j /\ Rl3 w wr t x f j i) (fun _ s _ => j - (intOf s).toNat)
          case atStart => exact ⟨0, by simp [left, sumF], rfl, by omega, HR0.out⟩
          case round =>
            clear HR0
            obtain ⟨i, rfl, rfl, hi, hR⟩ := hrel
            have i0 : (0 : Int) <= (i : Int) := by omega
            by_cases hij : i < j
            . have i1 : (i : Int) < (j : Int) := by omega
              obtain ⟨b, o, rfl, hbm, h1⟩ := HA.out i hij
              have c1 : wr.cell? ⟨b, o + i, none⟩ = some (.int .i64 (f i)) := (hR.below.cell (p := ⟨b, o + i, none⟩) hbm).trans h1
              have HP := Lib.hid (fun W => (Rf.parts_any t (f i) x W t0 t1 (HF.out i hij).1 (HF.out i hij).2 s0 x1).mono (fun e w' (h : Rf.PartsSaid t (f i) x W e w') => And.intro (h.2.1 (by have := upto_in t x (f i) t0 s0 (HFE.out i hij).1 (HFE.out i hij).2; omega)) h.1))
              have eb : t * f i / x = base t x f i := rfl
              have er : t * f i % x = rest t x f i := rfl
              rw [eb, er] at HP
              have HR := Lib.hid hR
              clear eb er hR h1
              have hl0 := left_mid j s0 HX.out t0 i hi (fun k hk => (HFE.out k hk).1)
              have hl1 := left_le (t := t) (f := f) j s0 t0 i hi (fun k hk => (HFE.out k hk).1)
              have hb0 := base_nonneg (f := f) s0 t0 i (HFE.out i hij).1
              have hb1 := base_le (f := f) s0 t0 i (HFE.out i hij).2
              have HLS := Lib.hid (left_step (t := t) (S := x) (f := f) i)
              obtain ⟨y, hy⟩ : ∃ y, y = base t x f i := ⟨_, rfl⟩
              obtain ⟨z, hz⟩ : ∃ z, z = rest t x f i := ⟨_, rfl⟩
              obtain ⟨L, hL⟩ : ∃ L, L = left t x f i := ⟨_, rfl⟩
              rw [<- hy, <- hz] at HP
              rw [<- hy] at hb0 hb1
              rw [<- hL] at hl0 hl1
              rw [<- hL]
              have HE := Lib.hid (And.intro hy (And.intro hz hL))
              clear hy hz hL
              go_wp2_with fail
              refine (HP.out _).mono ?_
              rintro e w3 ⟨rfl, hb⟩
              have HST := Lib.hid (HR.out.step hij hb)
              have hr1 := HR.out.row.below hb
              have hr2 := HR.out.res.below hb
              rw [<- HE.out.1, <- HE.out.2.1] at HST
              have c2 := hr1.cell i (by rw [partG_length _ _ _ hi]; exact hij)
              have c3 := Blk.frozen hr1 i
              have c4 := hr2.cell i (by rw [partG_length _ _ _ hi]; exact hij)
              have c5 := Blk.frozen hr2 i
              have HNL : Hid (L - y = left t x f (i + 1)) := Lib.hid (by rw [HLS.out, HE.out.1, HE.out.2.2])
              clear hr1 hr2 hb
              go_wp2
              go_roundw
              case rel => exact ⟨i + 1, by rw [HNL.out], by go_num, by omega, HST.out⟩
              case measure => simp [intOf]; omega
            . obtain rfl : i = j := by omega
              have i1 : ¬ (i : Int) < (i : Int) := by omega
              have hi2 : Hl.Ints wr wr.heap.size (some ⟨w.heap.size + 1, 0, none⟩) i (rest t x f) := by
                have := hR.res.ints
                rw [partG_length _ _ _ (Nat.le_refl _)] at this
                exact this.congr fun k hk => partG_nth _ _ _ _ hk (Nat.le_refl _)
              have HO := Lib.hid (Qu.ref_order (some ⟨w.heap.size + 1, 0, none⟩) i i (rest t x f) wr hi2 (by omega))
              have hl0 := left_nonneg (t := t) i s0 HX.out
              have hl1 := left_lt (t := t) i s0 HX.out
              obtain ⟨J, hJ⟩ : ∃ J : Nat, left t x f i = (J : Int) := ⟨(left t x f i).toNat, by omega⟩
              have hJk : J <= i := by omega
              rw [hJ]
              have HJ := Lib.hid hJ
              have HR := Lib.hid hR
              clear hR hi2 hJ hl0 hl1
              go_wp2_with fail
              refine HO.out.mono ?_
              rintro e w2 ⟨A2, c2, rfl, hown, hb2⟩
              have hwz : w.heap.size < wr.heap.size := Blk.lt HR.out.row
              have HR4 : Hid (Rl4 w w2 t x f i 0 A2) := Lib.hid ⟨by rw [List.take_zero, bump_nil]; have := HR.out.row.below hb2; simpa [partG, baseL] using this, PlacesAt.own hown (by rw [Qu.ord_length]) hwz, HR.out.below.trans (hb2.mono HR.out.below.size)⟩
              clear hown hb2 hwz HR HO
              go_wp2
              go_loopw [14] (fun s wx => ∃ m : Nat, s = .int .i64 m /\ m <= J /\ Rl4 w wx t x f i m A2) (fun s _ => J - (intOf s).toNat)
              case atStart => exact ⟨0, rfl, by omega, HR4.out⟩
              case round =>
                clear HR4
                obtain ⟨m, rfl, hm, hR⟩ := hrel
                have m0 : (0 : Int) <= (m : Int) := by omega
                by_cases hlt2 : m < J
                . have m1 : (m : Int) < (J : Int) := by omega
                  have m2 : (m : Int) < (i : Int) := by omega
                  have m3 : (m : Int) <= 100000 := by omega
                  obtain ⟨p, hp⟩ : ∃ p, (ord (rest t x f) i)[m]? = some p := ⟨_, List.getElem?_eq_getElem (by rw [Qu.ord_length]; omega)⟩
                  have hpm := ord_place (List.mem_of_getElem? hp)
                  obtain ⟨g, rfl, hg, h1⟩ := hR.pls m p hp
                  have hin := nth_bump_in s0 t0 HFE.out m p.2.toNat hpm.1 (by omega)
                  have hst := hR.step hp
                  have hrow := hR.row.cell p.2.toNat (by rw [bump_length, baseL_length]; exact hpm.1)
                  have hfr := Blk.frozen hR.row p.2.toNat
                  obtain ⟨q, hq⟩ : ∃ q, q = p.2.toNat := ⟨_, rfl⟩
                  have eq : p.2 = (q : Int) := by have := hpm.2; rw [hq]; exact congrArg Prod.snd this
                  rw [<- hq] at hin hst hrow hfr
                  rw [eq] at h1
                  have hqk : (q : Int) < (i : Int) := by have := hpm.1; omega
                  have q0 : (0 : Int) <= (q : Int) := by omega
                  have HST := Lib.hid hst
                  clear hst hpm hp hq eq hR
                  generalize nth (bump (baseL t x f i) ((ord (rest t x f) i).take m)) q = z at *
                  go_wp2
                  go_roundw
                  case rel => exact ⟨m + 1, by go_num, by omega, HST.out⟩
                  case measure => simp [intOf]; omega
                . obtain rfl : m = J := by omega
                  have m1 : ¬ (m : Int) < (m : Int) := by omega
                  have HG : Hid (GaveN (.returned (.tuple #[.slice (some ⟨w.heap.size, 0, none⟩) i i, .int .i64 0])) w wr (parts t (sumF f i) f i, 0)) := Lib.hid (by
                    rw [HXG.out]
                    refine ⟨?_, _, _, rfl⟩
                    refine Gave.row parts_length ?_ hR.below
                    have := hR.row
                    unfold parts chosen
                    rw [HJ.out, Int.toNat_natCast]
                    exact this)
                  clear hR HXG
                  go_wp2
                  go_ret2
                  exact HG.out
end Go.Proofs.YtljmddjlnlmenaaGreat.Sh

end
