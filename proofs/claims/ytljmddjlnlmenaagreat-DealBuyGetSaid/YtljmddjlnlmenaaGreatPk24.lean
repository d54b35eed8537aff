/- Law 16's few (made by gen-law16a.py). · The statements' tiers: some that may be. · The statements' names: texts of one b .. -/
import Derived.Deep.CutBlock
import Derived.Deep.DeepCutAuto
import Derived.Deep.LoopGhost
import Derived.Deep.RegionHeld3
import Derived.IntWalk
import Derived.Test.YtljmddjlnlmenaaGreatPk1
import Derived.Test.YtljmddjlnlmenaaGreatPk18
import Derived.Test.YtljmddjlnlmenaaGreatPk2
import Derived.Test.YtljmddjlnlmenaaGreatPk23
import Derived.Test.YtljmddjlnlmenaaGreatPk7
set_option maxRecDepth 100000
set_option linter.unusedVariables false

section
namespace Go.Proofs.YtljmddjlnlmenaaGreat.Dl
open Go.ChangeShapes Go.WideShapes Go.ChangeAt Go.RowKit
open Ap (Unt Tir Prm Prt kUnt kTir kPrt row_Unt row_Tir row_Prt)
open Kd (Kind Row RowT kInt kFlag kList Lst row_int row_list)
open Ko (Out Told Told2 At row_on)
open Ct (nth nth_some netAt netsL sumL UnitsMay PlacesMay May mayB mayB_iff Far take_next lessU i64_t own_down nope FewC)
def FewQ (p : Prm) (n : Nat) (ls : List (List Int)) (w : World) (e : Ending) (w' : World) : Prop := ∃ b : Bool, e = .returned (.bool b) /\ (b = true -> FewC p n /\ ls.length <= 20 /\ ∀ x ∈ ls, x.length <= 200) /\ Below w.heap.size w w'
set_option maxHeartbeats 4000000 in
theorem few_any (p : Prm) (l : Prm.Lay) (A : Option Addr) (u cu : Nat) (B : Option Addr) (m d : Nat) (ls : List (List Int)) (w : World) (h : Ap.Prm.Holds w (· < w.heap.size) p l) (hg : Row (kList kInt) w (· < w.heap.size) B m ls) (hm : m <= 9223372036854775807) :
    Calls Tryz.prog 7 #[.agg #[.string p.id, .int .i64 p.kind, .int .i64 p.priority, .string p.group, .string p.code, .bool p.closes, .slice l.scope.skus.A l.scope.skus.n l.scope.skus.c, .slice l.scope.cats.A l.scope.cats.n l.scope.cats.c, .int .i64 p.least, .int .i64 p.rate, .int .i64 p.amount, .int .i64 p.buy, .int .i64 p.get, .slice l.parts.A l.parts.n l.parts.c, .slice l.tiers.A l.tiers.n l.tiers.c], .slice A u cu, .slice B m d] w fun e w' => FewQ p u ls w e w' := by
  obtain ⟨w1, hw1⟩ : ∃ w1, w.alloc (.cells #[.string p.id, .int .i64 p.kind, .int .i64 p.priority, .string p.group, .string p.code, .bool p.closes, .slice l.scope.skus.A l.scope.skus.n l.scope.skus.c, .slice l.scope.cats.A l.scope.cats.n l.scope.cats.c, .int .i64 p.least, .int .i64 p.rate, .int .i64 p.amount, .int .i64 p.buy, .int .i64 p.get, .slice l.parts.A l.parts.n l.parts.c, .slice l.tiers.A l.tiers.n l.tiers.c] 28) = w1 := ⟨_, rfl⟩
  have hx : Qu.Blk w1 w.heap.size 28 #[.string p.id, .int .i64 p.kind, .int .i64 p.priority, .string p.group, .string p.code, .bool p.closes, .slice l.scope.skus.A l.scope.skus.n l.scope.skus.c, .slice l.scope.cats.A l.scope.cats.n l.scope.cats.c, .int .i64 p.least, .int .i64 p.rate, .int .i64 p.amount, .int .i64 p.buy, .int .i64 p.get, .slice l.parts.A l.parts.n l.parts.c, .slice l.tiers.A l.tiers.n l.tiers.c] := by rw [<- hw1]; exact Qu.Blk.new w _ _
  have hb1 : Below w.heap.size w w1 := by rw [<- hw1]; exact (Below.refl _ _).alloc (Nat.le_refl _) _
  have x6 := hx.cell 6
  have x7 := hx.cell 7
  have x13 := hx.cell 13
  have x14 := hx.cell 14
  have HB := Lib.hid hb1
  have HG := Lib.hid (row_on hg hb1)
  have HLm := Lib.hid hg.len
  have HL := Lib.hid (And.intro h.scope.skus.row.len (And.intro h.scope.cats.row.len (And.intro h.parts.row.len h.tiers.row.len)))
  obtain ⟨n, hn⟩ : ∃ n, l.parts.n = n := ⟨_, rfl⟩
  obtain ⟨t, ht⟩ : ∃ t, l.tiers.n = t := ⟨_, rfl⟩
  obtain ⟨a, ha⟩ : ∃ a, l.scope.skus.n = a := ⟨_, rfl⟩
  obtain ⟨c, hc⟩ : ∃ c, l.scope.cats.n = c := ⟨_, rfl⟩
  simp only [hn, ht, ha, hc] at hw1 x6 x7 x13 x14 HL ⊢
  clear hx hb1 h hn ht ha hc hg
  go_enter Tryz.func7, Tryz.ntmps7
  go_wp2_with fail
  go_loopw [7] (fun s7 wr => ∃ k : Nat, s7 = .int .i64 k /\ k <= m /\ w1 = wr /\ Hid (∀ x ∈ ls.take k, x.length <= 200)) (fun s7 _ => m - (intOf s7).toNat)
  case atStart => exact ⟨0, rfl, by omega, rfl, Lib.hid fun x hx => by rw [List.take_zero] at hx; cases hx⟩
  case round =>
    obtain ⟨k, rfl, hk, rfl, HO⟩ := hrel
    have kk : (0 : Int) <= (k : Int) := by omega
    clear hw1
    by_cases hlt : k < m
    . obtain ⟨ms, hms⟩ := HG.out.get hlt
      obtain ⟨g, o, lm, rfl, hg, _, hlm, a0⟩ := row_list HG.out hms
      have k1 : (k : Int) < (m : Int) := by omega
      have HE := Lib.hid (And.intro hlm.row.len (take_next hms))
      obtain ⟨r, hr⟩ : ∃ r, lm.n = r := ⟨_, rfl⟩
      rw [hr] at a0 HE
      have c0 : w1.cell? ⟨g, o + k, none⟩ = some (.slice lm.A r lm.c) := a0
      clear a0 hlm hg hr hms
      by_cases hr2 : 200 < r
      . have r1 : (200 : Int) < (r : Int) := by omega
        clear HO HE
        go_wp2
        go_ret
        exact ⟨false, rfl, nope, HB.out⟩
      . have r1 : ¬ (200 : Int) < (r : Int) := by omega
        go_wp2
        go_roundw
        case rel =>
          refine ⟨k + 1, by go_num, by omega, (by first | trivial | rfl), Lib.hid fun x hx => ?_⟩
          rw [HE.out.2] at hx
          rcases List.mem_append.1 hx with h1 | h1
          . exact HO.out x h1
          . rw [List.mem_singleton.1 h1, HE.out.1]; omega
        case measure => simp [intOf]; omega
    . have k1 : ¬ (k : Int) < (m : Int) := by omega
      obtain rfl : k = m := by omega
      have HO2 : Hid (∀ x ∈ ls, x.length <= 200) := Lib.hid (by
        have := HO.out
        rw [List.take_of_length_le (by rw [HLm.out]; exact Nat.le_refl _)] at this
        exact this)
      clear HO hlt
      by_cases c0 : 20 < n
      . have d0 : ¬ (n : Int) <= 20 := by omega
        go_wp2
        go_ret
        exact ⟨false, rfl, nope, HB.out⟩
      have d0 : (n : Int) <= 20 := by omega
      by_cases c1 : 20 < t
      . have d1 : ¬ (t : Int) <= 20 := by omega
        go_wp2
        go_ret
        exact ⟨false, rfl, nope, HB.out⟩
      have d1 : (t : Int) <= 20 := by omega
      by_cases c2 : 40 < a
      . have d2 : ¬ (a : Int) <= 40 := by omega
        go_wp2
        go_ret
        exact ⟨false, rfl, nope, HB.out⟩
      have d2 : (a : Int) <= 40 := by omega
      by_cases c3 : 40 < c
      . have d3 : ¬ (c : Int) <= 40 := by omega
        go_wp2
        go_ret
        exact ⟨false, rfl, nope, HB.out⟩
      have d3 : (c : Int) <= 40 := by omega
      by_cases c4 : 200 < u
      . have d4 : ¬ (u : Int) <= 200 := by omega
        go_wp2
        go_ret
        exact ⟨false, rfl, nope, HB.out⟩
      have d4 : (u : Int) <= 200 := by omega
      have HF : Hid (decide ((k : Int) <= 20) = true -> FewC p u /\ ls.length <= 20 /\ ∀ x ∈ ls, x.length <= 200) := Lib.hid fun h5 => ⟨⟨by have := HL.out; omega, by have := HL.out; omega, by have := HL.out; omega, by have := HL.out; omega, by omega⟩, by rw [HLm.out]; have := of_decide_eq_true h5; omega, HO2.out⟩
      go_wp2
      go_ret
      exact ⟨decide ((k : Int) <= 20), rfl, HF.out, HB.out⟩
end Go.Proofs.YtljmddjlnlmenaaGreat.Dl

end

section
namespace Go.Proofs.YtljmddjlnlmenaaGreat.Py
open Go.ChangeShapes Go.WideShapes Go.ChangeAt Go.RowKit
open Kd (Kind Row Own Cells Fit Agree)
open Ap (Tir kTir row_Tir Tir_rep)
open Pr (Tiers tierB inB)
structure Laid (L : List Tir) (k : Nat) (y : Int) : Prop where
  len : L.length = k
  each : ∀ (i : Nat) (t : Tir), L[i]? = some t -> tierB t = true /\ t.least < y
  rise : ∀ (i : Nat) (a b : Tir), L[i]? = some a -> L[i + 1]? = some b -> a.least < b.least
  low : 0 <= y
  high : y <= 5000 * k
theorem Laid.begin : Laid [] 0 0 := ⟨rfl, fun i t h => by simp at h, fun i a b h => by simp at h, by omega, by omega⟩
theorem tier_fine {d r a : Int} (h1 : 0 <= d) (h2 : d <= 10000000000000) (h3 : 0 <= r) (h4 : r <= 10000) (h5 : 1 <= a) (h6 : a <= 10000000000000) : tierB ⟨d, r, a⟩ = true := by
  unfold tierB inB
  simp [h1, h2, h3, h4, h6]
  omega
theorem Laid.next {L : List Tir} {k : Nat} {y d r a : Int} (h : Laid L k y) (hk : k <= 2) (hd : y <= d) (hd2 : d < y + 5000) (h3 : 0 <= r) (h4 : r <= 10000) (h5 : 1 <= a) (h6 : a <= 300) : Laid (L ++ [⟨d, r, a⟩]) (k + 1) (d + 1) := by
  have h0 := h.low
  have h9 := h.high
  have hget : ∀ (i : Nat) (t : Tir), (L ++ [(⟨d, r, a⟩ : Tir)])[i]? = some t -> (i < k /\ L[i]? = some t) \/ (i = k /\ t = ⟨d, r, a⟩) := fun i t ht => by
    have hl := (List.getElem?_eq_some_iff.1 ht).1
    rw [List.length_append, h.len, List.length_singleton] at hl
    rcases Nat.lt_or_ge i k with h1 | h1
    . rw [List.getElem?_append_left (by rw [h.len]; exact h1)] at ht
      exact .inl ⟨h1, ht⟩
    . obtain rfl : i = k := by omega
      rw [List.getElem?_append_right (by rw [h.len]; exact Nat.le_refl _), h.len, Nat.sub_self] at ht
      exact .inr ⟨rfl, by injection ht with ht; exact ht.symm⟩
  refine ⟨by rw [List.length_append, h.len]; rfl, fun i t ht => ?_, fun i b c hb hc => ?_, by omega, by omega⟩
  . rcases hget i t ht with ⟨_, h1⟩ | ⟨_, rfl⟩
    . have := h.each i t h1
      exact ⟨this.1, by omega⟩
    . exact ⟨tier_fine (by omega) (by omega) h3 h4 h5 (by omega), by show d < d + 1; omega⟩
  . rcases hget (i + 1) c hc with ⟨h1, hc1⟩ | ⟨h1, rfl⟩
    . rcases hget i b hb with ⟨_, hb1⟩ | ⟨h2, _⟩
      . exact h.rise i b c hb1 hc1
      . omega
    . rcases hget i b hb with ⟨_, hb1⟩ | ⟨h2, _⟩
      . have := (h.each i b hb1).2
        show b.least < d
        omega
      . omega
theorem Laid.tiers {L : List Tir} {k : Nat} {y : Int} (h : Laid L k y) (hk : 1 <= k) (hk2 : k <= 6) : Tiers L := ⟨fun i t ht => (h.each i t ht).1, h.rise, by rw [h.len]; exact hk, by rw [h.len]; exact hk2⟩
theorem one_tiers {s : Int} (h1 : 0 <= s) (h2 : s <= 5000) : Tiers [⟨s, 1000, 0⟩] := by
  have hget : ∀ (i : Nat) (t : Tir), ([⟨s, 1000, 0⟩] : List Tir)[i]? = some t -> i = 0 /\ t = ⟨s, 1000, 0⟩ := fun i t ht => by
    have hl := (List.getElem?_eq_some_iff.1 ht).1
    obtain rfl : i = 0 := by simpa using hl
    exact ⟨rfl, by injection ht with ht; exact ht.symm⟩
  refine ⟨fun i t ht => ?_, fun i a b ha hb => ?_, by simp, by simp⟩
  . obtain ⟨_, rfl⟩ := hget i t ht
    unfold tierB inB
    simp [h1]
    omega
  . have := (hget _ _ hb).1
    omega
def tirTo (l : List Tir) (step : Int) : Nat -> List Tir × Int
  | 0 => ([], 0)
  | k + 1 => match l[k]? with
    | none => tirTo l step k
    | some t => ((tirTo l step k).1 ++ [⟨(tirTo l step k).2 + (modN t.least step : Int), (modN t.rate 4000 : Int), 1 + (modN t.amount 300 : Int)⟩], (tirTo l step k).2 + (modN t.least step : Int) + 1)
def tirOf (l : List Tir) (step : Int) : List Tir := if (tirTo l step 3).1.length = 0 then [⟨step / 2, 1000, 0⟩] else (tirTo l step 3).1
theorem tirTo_next {l : List Tir} {step y : Int} {k : Nat} {L : List Tir} {t : Tir} (h : (L, y) = tirTo l step k) (ht : l[k]? = some t) : (L ++ [(⟨y + (modN t.least step : Int), (modN t.rate 4000 : Int), 1 + (modN t.amount 300 : Int)⟩ : Tir)], y + (modN t.least step : Int) + 1) = tirTo l step (k + 1) := by
  show _ = (match l[k]? with | none => tirTo l step k | some t => ((tirTo l step k).1 ++ [(⟨(tirTo l step k).2 + (modN t.least step : Int), (modN t.rate 4000 : Int), 1 + (modN t.amount 300 : Int)⟩ : Tir)], (tirTo l step k).2 + (modN t.least step : Int) + 1))
  rw [ht, <- h]
theorem tirTo_stop (l : List Tir) (step : Int) (i : Nat) (h : l.length <= i) : ∀ j, tirTo l step (i + j) = tirTo l step i
  | 0 => rfl
  | j + 1 => by
    have h2 : l[i + j]? = none := List.getElem?_eq_none (by omega)
    show (match l[i + j]? with | none => tirTo l step (i + j) | some t => _) = _
    rw [h2]
    exact tirTo_stop l step i h j
theorem tirOf_is {l : List Tir} {step y : Int} {k : Nat} {L : List Tir} (h : (L, y) = tirTo l step k) (hk : k = 3 \/ (k <= 3 /\ l.length <= k)) (hL : 0 < L.length) : L = tirOf l step := by
  have e : tirTo l step 3 = tirTo l step k := by
    rcases hk with rfl | ⟨h1, h2⟩
    . rfl
    . have := tirTo_stop l step k h2 (3 - k)
      rw [show k + (3 - k) = 3 by omega] at this
      exact this
  unfold tirOf
  rw [e, <- h, if_neg (by show ¬ L.length = 0; omega)]
theorem tirOf_none {l : List Tir} {step : Int} (h : l.length = 0) : [(⟨step / 2, 1000, 0⟩ : Tir)] = tirOf l step := by
  have e : tirTo l step 3 = tirTo l step 0 := tirTo_stop l step 0 (by omega) 3
  unfold tirOf
  rw [e, if_pos (show (tirTo l step 0).1.length = 0 from rfl)]
def Tiered (w : World) (l : List Tir) (step : Int) (e : Ending) (w' : World) : Prop := ∃ v L, e = .returned v /\ Tiers L /\ L = tirOf l step /\ Kd.Own kTir w' w.heap.size 124 (fun _ => False) v L.length L /\ L.length <= 3 /\ Below w.heap.size w w'
theorem tier_ok {d r a : Int} (h1 : 0 <= d) (h2 : d <= 10000000000000) (h3 : 0 <= r) (h4 : r <= 10000) (h5 : 0 <= a) (h6 : a <= 10000000000000) : (⟨d, r, a⟩ : Tir).ok := ⟨⟨by show _ <= d; omega, by show d <= _; omega⟩, ⟨by show _ <= r; omega, by show r <= _; omega⟩, ⟨by show _ <= a; omega, by show a <= _; omega⟩⟩
set_option maxHeartbeats 4000000 in
theorem tiers_any (A : Option Addr) (n c : Nat) (l : List Tir) (step : Int) (w : World) (h : Row kTir w (· < w.heap.size) A n l) (hn : n <= 1000000000000) (hs1 : 2 <= step) (hs2 : step <= 5000) :
    Calls Tryz.prog 86 #[.slice A n c, .int .i64 step] w (Tiered w l step) := by
  have HR := Lib.hid h
  have HLn := Lib.hid h.len
  obtain ⟨w1, hw1⟩ : ∃ w1, w.alloc (.cells #[] 124) = w1 := ⟨_, rfl⟩
  have HL0 : Hid (∃ L, Laid L 0 0 /\ (L, (0 : Int)) = tirTo l step 0 /\ Kd.Own kTir w1 w.heap.size 124 (fun _ => False) (.slice (some ⟨w.heap.size, 0, none⟩) 0 0) 0 L /\ Below w.heap.size w w1) := Lib.hid ⟨[], Laid.begin, rfl, by
    rw [<- hw1]
    exact Kd.own_blk (cs := []) (Qu.Blk.new w _ _) (Nat.le_refl _) rfl rfl (Nat.le_refl _) (by unfold maxLen; omega) rfl rfl, by rw [<- hw1]; exact (Below.refl _ _).alloc (Nat.le_refl _) _⟩
  clear h
  go_enter Tryz.func86, Tryz.ntmps86
  go_wp2
  go_loopw [5, 6, 7] (fun s5 s6 s7 wr => ∃ (k : Nat) (y : Int), s7 = .int .i64 k /\ s6 = .int .i64 y /\ k <= n /\ k <= 3 /\ Hid (∃ L, Laid L k y /\ (L, y) = tirTo l step k /\ Kd.Own kTir wr w.heap.size 124 (fun _ => False) s5 k L /\ Below w.heap.size w wr)) (fun _ _ s7 _ => 3 - (intOf s7).toNat)
  case atStart => exact ⟨0, 0, rfl, rfl, Nat.zero_le _, by omega, HL0⟩
  case round =>
    clear HL0
    obtain ⟨k, y, rfl, rfl, hkn, hk3, HL⟩ := hrel
    have k0 : (0 : Int) <= (k : Int) := by omega
    by_cases hlt : k < n
    . have k1 : (k : Int) < (n : Int) := by omega
      by_cases hl3 : k < 3
      . have k3 : (k : Int) < 3 := by omega
        obtain ⟨L, hL, hE, hO, hB⟩ := HL.out
        obtain ⟨t, ht⟩ := HR.out.get hlt
        obtain ⟨g, o, rfl, hgw, hg, hok, a0, a1, a2⟩ := row_Tir (HR.out.below hB (Nat.le_refl _)) ht
        have a1 := ((hB.cell (p := ⟨g, o + k * 3 + 1, none⟩) hgw).symm.trans a1)
        have a2 := ((hB.cell (p := ⟨g, o + k * 3 + 2, none⟩) hgw).symm.trans a2)
        obtain ⟨d, hd⟩ : ∃ d, modN t.least step = d := ⟨_, rfl⟩
        obtain ⟨r, hr⟩ : ∃ r, modN t.rate 4000 = r := ⟨_, rfl⟩
        obtain ⟨m, hm⟩ : ∃ m, modN t.amount 300 = m := ⟨_, rfl⟩
        have hT := tirTo_next hE ht
        rw [hd, hr, hm] at hT
        have HT := Lib.hid hT
        clear hT hE
        have hd1 := modN_lt t.least step (by omega)
        have hr1 := modN_lt t.rate 4000 (by omega)
        have hm1 := modN_lt t.amount 300 (by omega)
        have H1 := Lib.hid (fun W => mod64_any t.least step W (by omega) (by omega))
        have H2 := Lib.hid (fun W => mod64_any t.rate 4000 W (by omega) (by omega))
        have H3 := Lib.hid (fun W => mod64_any t.amount 300 W (by omega) (by omega))
        rw [hd] at hd1
        rw [hr] at hr1
        rw [hm] at hm1
        simp only [hd] at H1
        simp only [hr] at H2
        simp only [hm] at H3
        have hy0 := hL.low
        have hy1 := hL.high
        have HN : Hid (Laid (L ++ [⟨y + (d : Int), (r : Int), 1 + (m : Int)⟩]) (k + 1) (y + (d : Int) + 1)) := Lib.hid (hL.next (by omega) (by omega) (by omega) (by omega) (by omega) (by omega) (by omega))
        have HOK : Hid ((⟨y + (d : Int), (r : Int), 1 + (m : Int)⟩ : Tir).ok) := Lib.hid (tier_ok (by omega) (by omega) (by omega) (by omega) (by omega) (by omega))
        have b1 : ∀ u, Below w.heap.size w u -> u.cell? ⟨g, o + k * 3 + 1, none⟩ = some (.int .i64 t.rate) := fun u hu => (hu.cell (p := ⟨g, _, none⟩) hgw).trans a1
        have b2 : ∀ u, Below w.heap.size w u -> u.cell? ⟨g, o + k * 3 + 2, none⟩ = some (.int .i64 t.amount) := fun u hu => (hu.cell (p := ⟨g, _, none⟩) hgw).trans a2
        have HOB := Lib.hid (And.intro hO hB)
        have hka : k <= 2 := by omega
        have hwm : IntKind.i64.wrap (1 + (m : Int)) = 1 + (m : Int) := IntWalk.i64_in _ (by omega)
        clear hL hO hB ht hok hd hr hm HL a1 a2
        go_wp2_with fail
        refine (H1.out _).mono ?_
        rintro e w2 ⟨rfl, rfl⟩
        go_upto_region 7 with (fail)
        go_cut [5] (fun s5 wx => ∃ g1 cap, s5 = .slice (some ⟨g1, 0, none⟩) (k + 1) cap /\ Hid (∃ L, Laid L (k + 1) (y + (d : Int) + 1) /\ (L, y + (d : Int) + 1) = tirTo l step (k + 1) /\ Kd.Own kTir wx w.heap.size 124 (fun _ => False) (.slice (some ⟨g1, 0, none⟩) (k + 1) cap) (k + 1) L /\ Below w.heap.size w wx))
        case first =>
          go_region_held3 (fun u => Below w.heap.size w u)
            (first
              | assumption
              | (repeat (first | assumption | exact HOB.out.2 | refine Below.drew ?_ | refine Kd.below_alloc ?_ _)))
            (first
              | (go_at_call 48; with_reducible refine (H2.out _).mono ?_; rintro e wb ⟨rfl, rfl⟩)
              | (go_at_call 48; with_reducible refine (H3.out _).mono ?_; rintro e wb ⟨rfl, rfl⟩)
              | (refine Kd.step_push (o := ⟨some 45, _, _, _, _, _⟩) (W := w2.drew) (F := fun _ => False) (B := w.heap.size) (n := k) (v := u5) (xs := L) (y := ⟨y + (d : Int), (r : Int), 1 + (m : Int)⟩) (cs := [.int .i64 (y + (d : Int)), .int .i64 (r : Int), .int .i64 (1 + (m : Int))]) Ap.tir_t rfl (.tmp 28) (.tmp 44) rfl rfl rfl rfl ?_ (Tir_rep.2 ⟨rfl, HOK.out⟩) (by omega) (by omega) ?_ (fun _ h => h.elim) ?_; (next => exact HOB.out.1.later (by (repeat (first | exact Below.refl _ _ | refine Below.drew ?_)))); (next => exact Below.size (B := w.heap.size) (w := w) (by (repeat (first | exact HOB.out.2 | refine Below.drew ?_)))); (intro g1 cap w9 hown hgrow hfr; have hS9 : Below w.heap.size w w9 := Below.grown (by (repeat (first | exact HOB.out.2 | refine Below.drew ?_))) hgrow (Below.size (B := w.heap.size) (w := w) (by (repeat (first | exact HOB.out.2 | refine Below.drew ?_)))) (fun q hq => (HOB.out.1.low q hq).1))))
          all_goals
            have HO9 := Lib.hid (And.intro hown hS9)
            clear hown hgrow hfr
            go_wp2_with fail
            go_meet
            exact ⟨g1, cap, rfl, Lib.hid ⟨_, HN.out, HT.out, HO9.out.1, HO9.out.2⟩⟩
        case rest =>
          obtain ⟨g1, cap, rfl, HN5⟩ := hcut
          clear HOB HN HOK H1 H2 H3 b1 b2
          go_wp2
          go_roundw
          case rel => exact ⟨k + 1, y + (d : Int) + 1, by go_num, rfl, by omega, by omega, HN5⟩
          case measure => simp [intOf]; omega
      . have k3 : ¬ (k : Int) < 3 := by omega
        obtain ⟨L, hL, hE, hO, hB⟩ := HL.out
        have c0 : ((k : Int) == 0) = false := beq_eq_false_iff_ne.2 (by omega)
        obtain ⟨A5, c5, rfl⟩ := hO.value
        have HF : Hid (Tiered w l step (.returned (.slice A5 k c5)) wr) := Lib.hid ⟨_, L, rfl, hL.tiers (by omega) (by omega), tirOf_is hE (.inl (by omega)) (by rw [hL.len]; omega), by rw [hL.len]; exact hO, by rw [hL.len]; omega, hB⟩
        clear hL hE hO hB HL
        go_wp2
        go_ret
        exact HF.out
    . have k1 : ¬ (k : Int) < (n : Int) := by omega
      obtain ⟨L, hL, hE, hO, hB⟩ := HL.out
      obtain ⟨A5, c5, rfl⟩ := hO.value
      by_cases hk0 : k = 0
      . subst hk0
        have hL0 : L = [] := List.eq_nil_of_length_eq_zero hL.len
        subst hL0
        have hsd : 0 <= step / 2 /\ step / 2 <= 5000 := by omega
        obtain ⟨s2, hs2'⟩ : ∃ s2, step / 2 = s2 := ⟨_, rfl⟩
        rw [hs2'] at hsd
        have HS2 := Lib.hid hs2'
        have HOK : Hid ((⟨s2, 1000, 0⟩ : Tir).ok /\ Tiers [⟨s2, 1000, 0⟩]) := Lib.hid ⟨tier_ok (by omega) (by omega) (by omega) (by omega) (by omega) (by omega), one_tiers (by omega) (by omega)⟩
        have HOB := Lib.hid (And.intro hO hB)
        clear hL hE hO hB HL hsd
        go_wp2_with ((at_builtin; refine Kd.wpList_push (W := wr) (F := fun _ => False) (B := w.heap.size) (n := 0) (v := .slice A5 0 c5) (xs := []) (y := ⟨s2, 1000, 0⟩) (cs := [.int .i64 s2, .int .i64 1000, .int .i64 0]) Ap.tir_t rfl _ _ rfl rfl rfl rfl HOB.out.1 (Tir_rep.2 ⟨rfl, HOK.out.1⟩) (by omega) (by omega) HOB.out.2.size (fun _ h => h.elim) ?_; intro g1 cap w' hown hgrow hfr))
        have HF : Hid (Tiered w l step (.returned (.slice (some ⟨g1, 0, none⟩) 1 cap)) w') := Lib.hid ⟨_, _, rfl, HOK.out.2, by rw [<- HS2.out]; exact tirOf_none (by have := HLn.out; omega), hown, by show 1 <= 3; omega, HOB.out.2.grown hgrow HOB.out.2.size fun q hq => (HOB.out.1.low q hq).1⟩
        clear hown hgrow hfr
        go_wp2
        go_ret
        exact HF.out
      . have c0 : ((k : Int) == 0) = false := beq_eq_false_iff_ne.2 (by omega)
        have HF : Hid (Tiered w l step (.returned (.slice A5 k c5)) wr) := Lib.hid ⟨_, L, rfl, hL.tiers (by omega) (by omega), tirOf_is hE (.inr ⟨by omega, by have := HLn.out; omega⟩) (by rw [hL.len]; omega), by rw [hL.len]; exact hO, by rw [hL.len]; omega, hB⟩
        clear hL hE hO hB HL
        go_wp2
        go_ret
        exact HF.out
end Go.Proofs.YtljmddjlnlmenaaGreat.Py

end

section
namespace Go.Proofs.YtljmddjlnlmenaaGreat.Py
open Go.ChangeShapes Go.WideShapes Go.ChangeAt Go.RowKit
theorem chr_list (c : Nat) : (chr c).toList = [UInt8.ofNat c] := by unfold chr; exact By.strOf_list _
theorem chr_data (c : Nat) : (chr c).data.toList = [UInt8.ofNat c] := by rw [<- ByteArray.toList_eq]; exact chr_list c
theorem chr_size (c : Nat) : (chr c).size = 1 := by unfold chr; rw [By.strOf_size]; rfl
theorem chr_lt {a b : Nat} (h : a < b) (hb : b < 256) : Sr.lt (chr a) (chr b) = true := by
  unfold Sr.lt
  rw [chr_list, chr_list]
  have h1 : UInt8.ofNat a < UInt8.ofNat b := by
    rw [UInt8.lt_iff_toNat_lt, By.toNat_small (by omega), By.toNat_small hb]; exact h
  simp [Op.bytesLess, h1]
theorem chr_name {a : Nat} (h : Sr.plain (a : Int) = true) (ha : a < 256) : Sr.name (chr a) = true := by
  unfold Sr.name Sr.nameL
  rw [chr_data]
  simp [By.toNat_small ha, h]
theorem sku_name {k : Nat} (h : k < 26) : Sr.name (skuS k) = true := chr_name (by unfold Sr.plain; simp; omega) (by omega)
theorem cat_name {k : Nat} (h : k < 3) : Sr.name (catS k) = true := chr_name (by unfold Sr.plain; simp; omega) (by omega)
end Go.Proofs.YtljmddjlnlmenaaGreat.Py

end
