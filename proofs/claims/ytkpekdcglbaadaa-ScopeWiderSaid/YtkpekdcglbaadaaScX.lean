/- The landed package scope: Index. -/
import Derived.Test.YtkpekdcglbaadaaScH
import Derived.Test.YtkpekdcglbaadaaKdD
set_option maxRecDepth 100000

set_option linter.unusedVariables false
namespace Go.Proofs.Ytkpekdcglbaadaa.Sc
open Go.ChangeShapes Go.WideShapes Go.ChangeAt Go.RowKit
open It (Itm kItem row_item)
open Ap (Scp kScp row_Scp)
open Kd (Row Fit Lst Sl kStr kInt kList row_str Deep But Own Fan Agree)

/-- The places among the first k scopes, of each item. -/
def idxK (xs : List Itm) (ss : List Scp) (k : Nat) : List (List Int) := xs.map fun x => idxTo ss x.sku x.cat k

/-- The same, and of the first i items one scope more. -/
def midL (xs : List Itm) (ss : List Scp) (k i : Nat) : List (List Int) := xs.mapIdx fun j x => idxTo ss x.sku x.cat (if j < i then k + 1 else k)

theorem midL_at (xs : List Itm) (ss : List Scp) (k i j : Nat) : (midL xs ss k i)[j]? = (xs[j]?).map fun x => idxTo ss x.sku x.cat (if j < i then k + 1 else k) := by
  unfold midL
  rw [List.getElem?_mapIdx]

theorem midL_get {xs : List Itm} {ss : List Scp} {k i : Nat} {x : Itm} (h : xs[i]? = some x) : (midL xs ss k i)[i]? = some (idxTo ss x.sku x.cat k) := by
  rw [midL_at, h]
  simp

theorem midL_zero (xs : List Itm) (ss : List Scp) (k : Nat) : midL xs ss k 0 = idxK xs ss k := by
  apply List.ext_getElem?
  intro j
  rw [midL_at]
  unfold idxK
  rw [List.getElem?_map]
  simp

theorem midL_full {xs : List Itm} {ss : List Scp} {k i : Nat} (h : xs.length ≤ i) : midL xs ss k i = idxK xs ss (k + 1) := by
  apply List.ext_getElem?
  intro j
  rw [midL_at]
  unfold idxK
  rw [List.getElem?_map]
  cases hx : xs[j]? with
  | none => rfl
  | some x =>
    have := (List.getElem?_eq_some_iff.1 hx).1
    simp only [Option.map_some]
    rw [if_pos (by omega)]

theorem midL_other {xs : List Itm} {ss : List Scp} {k i j : Nat} (h : j ≠ i) : (midL xs ss k (i + 1))[j]? = (midL xs ss k i)[j]? := by
  rw [midL_at, midL_at]
  by_cases h1 : j < i
  · rw [if_pos (by omega), if_pos h1]
  · rw [if_neg (by omega), if_neg h1]

theorem midL_miss {xs : List Itm} {ss : List Scp} {k i : Nat} {x : Itm} {s : Scp} (h : xs[i]? = some x) (hs : ss[k]? = some s) (hb : hasX s x.sku x.cat = false) : midL xs ss k (i + 1) = midL xs ss k i := by
  apply List.ext_getElem?
  intro j
  by_cases e : j = i
  · subst e
    rw [midL_get h, midL_at, h]
    simp only [Option.map_some]
    rw [if_pos (by omega), idxTo_succ ss x.sku x.cat k hs, hb]
    simp
  · exact midL_other e

theorem midL_hit {xs : List Itm} {ss : List Scp} {k i : Nat} {x : Itm} {s : Scp} (h : xs[i]? = some x) (hs : ss[k]? = some s) (hb : hasX s x.sku x.cat = true) : midL xs ss k (i + 1) = (midL xs ss k i).set i (idxTo ss x.sku x.cat k ++ [(k : Int)]) := by
  apply List.ext_getElem?
  intro j
  by_cases e : j = i
  · subst e
    have hl := (List.getElem?_eq_some_iff.1 (midL_get (ss := ss) (k := k) h)).1
    rw [List.getElem?_set_self hl, midL_at, h]
    simp only [Option.map_some]
    rw [if_pos (by omega), idxTo_succ ss x.sku x.cat k hs, hb]
    simp
  · rw [List.getElem?_set_ne (fun e2 => e e2.symm), midL_other e]

theorem idxK_zero (xs : List Itm) (ss : List Scp) {n : Nat} (h : xs.length = n) : idxK xs ss 0 = List.replicate n [] := by
  apply List.ext_getElem?
  intro j
  unfold idxK idxTo
  rw [List.getElem?_map, List.getElem?_replicate]
  by_cases hj : j < n
  · rw [if_pos hj, List.getElem?_eq_getElem (by omega)]
    rfl
  · rw [if_neg hj, List.getElem?_eq_none (by omega)]
    rfl

theorem idxK_full (xs : List Itm) (ss : List Scp) {k : Nat} (h : ss.length = k) : idxK xs ss k = indexL xs ss := by subst h; rfl

/-- So many slices that hold nothing, made anew. -/
theorem made_nils (n : Nat) (hn : n ≤ 1000000) : ∃ M : Array Value, M.toList = List.replicate n (.slice none 0 0) ∧ ∀ W : World, (Instr.makeSlice 39 (.int .i64 (n : Int)) (.int .i64 (n : Int))).run Try.prog W = .ok (.slice (some ⟨W.heap.size, 0, none⟩) n n) (W.alloc (.cells M 57)) := by
  obtain ⟨i0, hi0, hz0, hz1, hz2⟩ := info_parts Ap.ints_t.info
  refine ⟨madeCells (Value.slice none 0 0).cells (n * 1), ?_, fun W => ?_⟩
  · rw [Nat.mul_one]
    exact toList_madeCells_one _ _
  · have hr := run_make (P := Try.prog) W 39 57 i0 _ Ap.ints_t.ut hi0 hz0 .i64 .i64 (n : Int) (n : Int) (by omega) (by omega) (by rw [hz2]; omega) (by omega)
    rw [hz1] at hr
    have e : ((n : Int)).toNat = n := by omega
    rw [e] at hr
    exact hr

/-- The rows that are filled, at item i of scope k. -/
structure Mid (w wi : World) (N : Nat → Prop) (xs : List Itm) (ss : List Scp) (k i : Nat) (vs : List Value) : Prop where
  fan : Fan kInt wi w.heap.size 3 57 w.heap.size N vs (midL xs ss k i)
  below : Below w.heap.size w wi

theorem Mid.later {w wi wj : World} {N : Nat → Prop} {xs : List Itm} {ss : List Scp} {k i : Nat} {vs : List Value} (h : Mid w wi N xs ss k i vs) (hb : Below wi.heap.size wi wj) : Mid w wj N xs ss k i vs :=
  ⟨h.fan.later hb, h.below.trans (hb.mono h.below.size)⟩

theorem Mid.next {w wi wj : World} {N : Nat → Prop} {xs : List Itm} {ss : List Scp} {k i : Nat} {vs : List Value} {x : Itm} {s : Scp} (h : Mid w wi N xs ss k i vs) (hb : Below wi.heap.size wi wj) (hx : xs[i]? = some x) (hs : ss[k]? = some s) (hB : hasX s x.sku x.cat = false) : Mid w wj N xs ss k (i + 1) vs := by
  have h1 := h.later hb
  exact ⟨by rw [midL_miss hx hs hB]; exact h1.fan, h1.below⟩

theorem Mid.hit {w wi w' : World} {N : Nat → Prop} {xs : List Itm} {ss : List Scp} {k i g1 q cap : Nat} {vs : List Value} {v : Value} {x : Itm} {s : Scp} (h : Mid w wi N xs ss k i vs) (hx : xs[i]? = some x) (hs : ss[k]? = some s) (hB : hasX s x.sku x.cat = true) (hv : vs[i]? = some v) (hq : (idxTo ss x.sku x.cat k).length = q)
    (hown : Own kInt w' w.heap.size 3 (fun _ => False) (.slice (some ⟨g1, 0, none⟩) (q + 1) cap) (q + 1) (idxTo ss x.sku x.cat k ++ [(k : Int)])) (hgrow : wi.grownBy w' v.ownBlock) (hfr : v.ownBlock = some g1 ∨ wi.heap.size ≤ g1) (hN : ∀ b, N b → b < wi.heap.size) (hNg : ¬ N w.heap.size) :
    Mid w (w'.setCell ⟨w.heap.size, i, none⟩ (.slice (some ⟨g1, 0, none⟩) (q + 1) cap)) N xs ss k (i + 1) (vs.set i (.slice (some ⟨g1, 0, none⟩) (q + 1) cap)) ∧ Agree N wi (w'.setCell ⟨w.heap.size, i, none⟩ (.slice (some ⟨g1, 0, none⟩) (q + 1) cap)) := by
  obtain ⟨h1, h2⟩ := h.fan.put hv (midL_get hx) hown (by rw [List.length_append, hq]; rfl) hgrow hfr hN hNg
  refine ⟨⟨by rw [midL_hit hx hs hB]; exact h1, ?_⟩, h2⟩
  refine (h.below.grown hgrow h.below.size fun j hj => ?_).setCell (Nat.le_refl _) _
  obtain ⟨l, _, ho⟩ := h.fan.there hv
  exact (ho.low j hj).1

theorem asked_agree {w w' : World} {l : Scp.Lay} {g1 g2 : Nat} (h : Asked w l g1 g2) (ha : Agree (fun b => b = g1 ∨ b = g2) w w') (hs : w.heap.size ≤ w'.heap.size) : Asked w' l g1 g2 :=
  ⟨Nat.lt_of_lt_of_le h.b1 hs, Nat.lt_of_lt_of_le h.b2 hs, (ha.cell (o := 0) (.inl rfl)).trans h.k1, (ha.cell (o := 0) (.inr rfl)).trans h.k2⟩

theorem size_hit {wi w' : World} {v v' : Value} {a : Addr} (hgrow : wi.grownBy w' v.ownBlock) : wi.heap.size ≤ (w'.setCell a v').heap.size := by
  have := hgrow.size
  simpa using this

set_option maxHeartbeats 4000000 in
theorem Index_any (A A2 : Option Addr) (n c n2 c2 : Nat) (xs : List Itm) (ss : List Scp) (w : World) (hi : Row kItem w (· < w.heap.size) A n xs) (hs : Row kScp w (· < w.heap.size) A2 n2 ss) (hS : Smalls ss) (hn : n ≤ 1000000) (hn2 : n2 ≤ 1000000) :
    Calls Try.prog 18 #[.slice A n c, .slice A2 n2 c2] w fun e w' => ∃ g, e = .returned (.slice (some ⟨g, 0, none⟩) n n) ∧ Row (kList kInt) w' (· < w'.heap.size) (some ⟨g, 0, none⟩) n (indexL xs ss) ∧ Below w.heap.size w w' := by
  have HI := Lib.hid hi
  have HS := Lib.hid (And.intro hs hS)
  have l2 : ss.length = n2 := hs.len
  have l1 : xs.length = n := hi.len
  have HL := Lib.hid (And.intro l1 l2)
  obtain ⟨M, hM1, hM2⟩ := made_nils n hn
  have HM0 : Hid (∃ vs, Fan kInt (w.alloc (.cells M 57)) w.heap.size 3 57 w.heap.size (fun _ => False) vs (idxK xs ss 0) ∧ Below w.heap.size w (w.alloc (.cells M 57))) := Lib.hid ⟨_, by rw [idxK_zero xs ss l1]; exact Fan.made kInt w w.heap.size 3 57 n M hM1 (Nat.le_refl _), (Below.refl _ _).alloc (Nat.le_refl _) _⟩
  clear hi hs hS l1 l2 hM1
  go_enter Try.func18, Try.ntmps18
  go_wp2
  clear hM2
  go_loopw [16] (fun s16 wr => ∃ k : Nat, s16 = .int .i64 k ∧ k ≤ n2 ∧ Hid (∃ vs, Fan kInt wr w.heap.size 3 57 w.heap.size (fun _ => False) vs (idxK xs ss k) ∧ Below w.heap.size w wr)) (fun s16 _ => n2 - (intOf s16).toNat)
  case atStart => exact ⟨0, rfl, by omega, HM0⟩
  case round =>
    clear HM0
    obtain ⟨k, rfl, hk, hM⟩ := hrel
    have k0 : (0 : Int) ≤ (k : Int) := by omega
    by_cases hlt : k < n2
    · have k1 : (k : Int) < (n2 : Int) := by omega
      obtain ⟨wo, hwo⟩ : ∃ wo : World, wo = wr := ⟨_, rfl⟩
      subst hwo
      obtain ⟨s, hs⟩ := HS.out.1.get hlt
      obtain ⟨g', o', l, rfl, _, hg', hh, d0, d1⟩ := row_Scp HS.out.1 hs
      have hbw : Below w.heap.size w wo := hM.out.elim fun _ h => h.2
      have e0 := (hbw.cell (p := ⟨g', o' + k * 2, none⟩) hg').trans d0
      have e1 := (hbw.cell (p := ⟨g', o' + k * 2 + 1, none⟩) hg').trans d1
      have HSM := Lib.hid (holds_small hh (HS.out.2 k s hs))
      have HSS := Lib.hid hs
      obtain ⟨wq, hwq⟩ : ∃ wq, wo.alloc (.cells #[.slice l.skus.A l.skus.n l.skus.c, .slice l.cats.A l.cats.n l.cats.c] 24) = wq := ⟨_, rfl⟩
      have HQ : Hid (Below wo.heap.size wo wq) := Lib.hid (by rw [← hwq]; exact (Below.refl _ _).alloc (Nat.le_refl _) _)
      have hq : Qu.Blk wq wo.heap.size 24 #[.slice l.skus.A l.skus.n l.skus.c, .slice l.cats.A l.cats.n l.cats.c] := by rw [← hwq]; exact Qu.Blk.new wo _ _
      have q0 := hq.cell 0
      have HWQ : Hid (wq.heap.size = wo.heap.size + 1) := Lib.hid (by rw [← hwq]; simp)
      have q1 := hq.cell 1
      have HA := Lib.hid (asks_any l wq)
      clear hs d0 d1 hbw hg' hq
      go_wp2_with fail
      refine HA.out.mono ?_
      rintro e w1 ⟨v, rfl, hv, hbv⟩
      clear hwq e0 e1 q0 q1 HA
      rcases hv with ⟨h1, h2, rfl⟩ | ⟨g1, g2, h0, rfl, h2, h3, h4, h5⟩
      · have HN : Hid ((∀ b, (fun _ => False) b → b < w1.heap.size) ∧ ¬ (fun _ => False) w.heap.size) := Lib.hid ⟨fun _ h => h.elim, fun h => h⟩
        have HI0 : Hid (∃ vs, Mid w w1 (fun _ => False) xs ss k 0 vs ∧ True) := Lib.hid (by
          obtain ⟨vs, hfan, hb⟩ := hM.out
          have hbq : Below wo.heap.size wo w1 := Hk.andThen HQ.out hbv
          exact ⟨vs, ⟨by rw [midL_zero]; exact hfan.away hbq (fun _ h => h.elim), hb.trans (hbq.mono hb.size)⟩, trivial⟩)
        have HC : Hid (∀ (u : World) (x : Itm), Below w.heap.size w u → True → Calls Try.prog 37 #[.agg #[.string x.sku, .string x.cat, .int .i64 x.price, .bool x.fin]] u fun e w' => e = .returned (.bool (hasX s x.sku x.cat)) ∧ Below u.heap.size u w') := Lib.hid fun u x hu hk =>
          (ask_all x u).mono fun e w' he => ⟨by rw [he.1, hasX_all hh h1 h2], he.2⟩
        clear hbv hM hh HQ
        go_wp2
        go_loopw [25] (fun s25 wi => ∃ i : Nat, s25 = .int .i64 i ∧ i ≤ n ∧ w1.heap.size ≤ wi.heap.size ∧ Hid (∃ vs, Mid w wi (fun _ => False) xs ss k i vs ∧ True)) (fun s25 _ => n - (intOf s25).toNat)
        case atStart => exact ⟨0, rfl, by omega, Nat.le_refl _, HI0⟩
        case round =>
          clear HI0
          obtain ⟨i, rfl, hi, hsz, hI⟩ := hrel
          have i0 : (0 : Int) ≤ (i : Int) := by omega
          by_cases hil : i < n
          · have i1 : (i : Int) < (n : Int) := by omega
            obtain ⟨x, hx⟩ := HI.out.get hil
            obtain ⟨vs, hmid, hask⟩ := hI.out
            obtain ⟨g, o, rfl, _, hg, hok, a0, a1, a2, a3⟩ := row_item HI.out hx
            have b0 := (hmid.below.cell (p := ⟨g, o + i * 4, none⟩) hg).trans a0
            have b1 := (hmid.below.cell (p := ⟨g, o + i * 4 + 1, none⟩) hg).trans a1
            have b2 := (hmid.below.cell (p := ⟨g, o + i * 4 + 2, none⟩) hg).trans a2
            have b3 := (hmid.below.cell (p := ⟨g, o + i * 4 + 3, none⟩) hg).trans a3
            obtain ⟨v, hv, hown, hcell⟩ := hmid.fan.get (midL_get (ss := ss) (k := k) hx)
            have hlen := idxTo_len ss x.sku x.cat k
            have HMX := Lib.hid (And.intro hmid (And.intro hask (And.intro hx hv)))
            obtain ⟨wj, hwj⟩ : ∃ wj, wr.alloc (.cells #[.string x.sku, .string x.cat, .int .i64 x.price, .bool x.fin] 33) = wj := ⟨_, rfl⟩
            have hbj : Below wr.heap.size wr wj := by rw [← hwj]; exact (Below.refl _ _).alloc (Nat.le_refl _) _
            have hj : Qu.Blk wj wr.heap.size 33 #[.string x.sku, .string x.cat, .int .i64 x.price, .bool x.fin] := by rw [← hwj]; exact Qu.Blk.new wr _ _
            have j0 := hj.cell 0
            have j1 := hj.cell 1
            have j2 := hj.cell 2
            have j3 := hj.cell 3
            have HCX := Lib.hid (HC.out wj x (hmid.below.trans (hbj.mono hmid.below.size)) trivial)
            have HBJ := Lib.hid hbj
            obtain ⟨q, hq⟩ : ∃ q, (idxTo ss x.sku x.cat k).length = q := ⟨_, rfl⟩
            rw [hq] at hown hlen
            obtain ⟨Ai, ci, rfl⟩ := hown.value
            have HQ := Lib.hid (And.intro hq hown)
            clear hmid hask hx hv hown hq a0 a1 a2 a3 hg hok hbj hj hI
            cases hB : hasX s x.sku x.cat with
            | false =>
              rw [hB] at HCX
              have HB := Lib.hid hB
              clear hB hcell
              go_wp2_with fail
              refine HCX.out.mono ?_
              rintro e w2 ⟨rfl, hb2⟩
              have hb3 := Hk.andThen HBJ.out hb2
              have hsz2 : w1.heap.size ≤ w2.heap.size := Nat.le_trans hsz hb3.size
              have HI2 : Hid (∃ vs, Mid w w2 (fun _ => False) xs ss k (i + 1) vs ∧ True) := Lib.hid ⟨vs, HMX.out.1.next hb3 HMX.out.2.2.1 HSS.out HB.out, trivial⟩
              clear hb2 hb3 hwj
              go_wp2
              go_roundw
              case rel => exact ⟨i + 1, by go_num, by omega, hsz2, HI2⟩
              case measure => simp [intOf]; omega
            | true =>
              rw [hB] at HCX
              have HB := Lib.hid hB
              clear hB
              go_wp2_with fail
              refine HCX.out.mono ?_
              rintro e w2 ⟨rfl, hb2⟩
              have hb3 := Hk.andThen HBJ.out hb2
              have hsz2 : w1.heap.size ≤ w2.heap.size := Nat.le_trans hsz hb3.size
              have hm2 := HMX.out.1.later hb3
              have hcell2 : w2.cell? ⟨w.heap.size, i, none⟩ = some (.slice Ai q ci) := by
                have h1 := hm2.fan.blk.cell i
                rw [List.getElem?_toArray, HMX.out.2.2.2] at h1
                exact h1
              have HM2 := Lib.hid (And.intro hm2 (And.intro (HQ.out.2.later hb3) trivial))
              have hw2 : w.heap.size ≤ w2.heap.size := hm2.below.size
              clear hb2 hb3 hwj hm2 hcell
              go_wp2_with ((at_builtin; refine Kd.wpList_push (W := w2) (F := fun _ => False) (B := w.heap.size) (n := q) (v := .slice Ai q ci) (xs := idxTo ss x.sku x.cat k) (y := (k : Int)) (cs := [.int .i64 (k : Int)]) Ap.int_t rfl _ _ rfl rfl rfl rfl HM2.out.2.1 ⟨rfl, by omega, by omega⟩ (by omega) (by omega) hw2 (fun _ h => h.elim) ?_; intro g9 cap w' hown hgrow hfr; obtain ⟨_, hc9, hz9⟩ := HM2.out.1.fan.grown HMX.out.2.2.2 hgrow; have HH9 := Lib.hid (And.intro hown (And.intro hgrow hfr)); clear hown hgrow hfr))
              have HI2 : Hid (∃ vs, Mid w (w'.setCell ⟨w.heap.size, i, none⟩ (.slice (some ⟨g9, 0, none⟩) (q + 1) cap)) (fun _ => False) xs ss k (i + 1) vs ∧ True) := Lib.hid (by
                obtain ⟨hown, hgrow, hfr⟩ := HH9.out
                obtain ⟨hm, ha⟩ := HM2.out.1.hit HMX.out.2.2.1 HSS.out HB.out HMX.out.2.2.2 HQ.out.1 hown hgrow hfr (fun b hb => Nat.lt_of_lt_of_le (HN.out.1 b hb) hsz2) HN.out.2
                exact ⟨_, hm, trivial⟩)
              have hsz3 : w1.heap.size ≤ (w'.setCell ⟨w.heap.size, i, none⟩ (.slice (some ⟨g9, 0, none⟩) (q + 1) cap)).heap.size := Nat.le_trans hsz2 (size_hit HH9.out.2.1)
              clear hc9 hz9 hcell2
              go_wp2
              go_roundw
              case rel => exact ⟨i + 1, by go_num, by omega, hsz3, HI2⟩
              case measure => simp [intOf]; omega
          · obtain rfl : i = n := by omega
            have i1 : ¬ (i : Int) < (i : Int) := by omega
            have HM2 : Hid (∃ vs, Fan kInt wr w.heap.size 3 57 w.heap.size (fun _ => False) vs (idxK xs ss (k + 1)) ∧ Below w.heap.size w wr) := Lib.hid (by
              obtain ⟨vs, hm, _⟩ := hI.out
              have h1 := hm.fan
              rw [midL_full (by rw [HL.out.1]; omega)] at h1
              exact ⟨vs, h1.less fun _ h => h.elim, hm.below⟩)
            clear hI
            go_wp2
            go_roundw
            case rel => exact ⟨k + 1, by go_num, by omega, HM2⟩
            case measure => simp [intOf]; omega
      · have HN : Hid ((∀ b, (fun b => b = g1 ∨ b = g2) b → b < w1.heap.size) ∧ ¬ (fun b => b = g1 ∨ b = g2) w.heap.size) := Lib.hid (by
          have q1 := h2.1
          have q2 := h3.1
          have q3 := HQ.out.size
          have q4 : w.heap.size ≤ wo.heap.size := hM.out.elim fun _ h => h.2.size
          have q5 := HWQ.out
          refine ⟨fun b hb => ?_, fun hb => ?_⟩
          · rcases (show b = g1 ∨ b = g2 from hb) with rfl | rfl
            · exact h2.2
            · exact h3.2
          · rcases (show w.heap.size = g1 ∨ w.heap.size = g2 from hb) with e | e <;> omega)
        have HI0 : Hid (∃ vs, Mid w w1 (fun b => b = g1 ∨ b = g2) xs ss k 0 vs ∧ Asked w1 l g1 g2) := Lib.hid (by
          obtain ⟨vs, hfan, hb⟩ := hM.out
          have hbq : Below wo.heap.size wo w1 := Hk.andThen HQ.out hbv
          exact ⟨vs, ⟨by rw [midL_zero]; exact hfan.away hbq (fun b hb => by
            have q1 := h2.1
            have q2 := h3.1
            have q5 := HWQ.out
            rcases (show b = g1 ∨ b = g2 from hb) with rfl | rfl <;> omega), hb.trans (hbq.mono hb.size)⟩, ⟨h2.2, h3.2, h4, h5⟩⟩)
        have HC : Hid (∀ (u : World) (x : Itm), Below w.heap.size w u → Asked u l g1 g2 → Calls Try.prog 39 #[.agg #[.string x.sku, .string x.cat, .int .i64 x.price, .bool x.fin], .pointer (some ⟨g1, 0, none⟩), .pointer (some ⟨g2, 0, none⟩)] u fun e w' => e = .returned (.bool (hasX s x.sku x.cat)) ∧ Below u.heap.size u w') := Lib.hid fun u x hu hk =>
          (ask_some s l x u g1 g2 (holds_more (holds_below hh hu (Nat.le_refl _)) fun b hb2 => Nat.lt_of_lt_of_le hb2 hu.size) HSM.out hk.b1 hk.b2 hk.k1 hk.k2).mono fun e w' he => ⟨by rw [he.1, hasX_some hh h0], he.2⟩
        clear hbv hM hh HQ
        go_wp2
        go_loopw [25] (fun s25 wi => ∃ i : Nat, s25 = .int .i64 i ∧ i ≤ n ∧ w1.heap.size ≤ wi.heap.size ∧ Hid (∃ vs, Mid w wi (fun b => b = g1 ∨ b = g2) xs ss k i vs ∧ Asked wi l g1 g2)) (fun s25 _ => n - (intOf s25).toNat)
        case atStart => exact ⟨0, rfl, by omega, Nat.le_refl _, HI0⟩
        case round =>
          clear HI0
          obtain ⟨i, rfl, hi, hsz, hI⟩ := hrel
          have i0 : (0 : Int) ≤ (i : Int) := by omega
          by_cases hil : i < n
          · have i1 : (i : Int) < (n : Int) := by omega
            obtain ⟨x, hx⟩ := HI.out.get hil
            obtain ⟨vs, hmid, hask⟩ := hI.out
            obtain ⟨g, o, rfl, _, hg, hok, a0, a1, a2, a3⟩ := row_item HI.out hx
            have b0 := (hmid.below.cell (p := ⟨g, o + i * 4, none⟩) hg).trans a0
            have b1 := (hmid.below.cell (p := ⟨g, o + i * 4 + 1, none⟩) hg).trans a1
            have b2 := (hmid.below.cell (p := ⟨g, o + i * 4 + 2, none⟩) hg).trans a2
            have b3 := (hmid.below.cell (p := ⟨g, o + i * 4 + 3, none⟩) hg).trans a3
            obtain ⟨v, hv, hown, hcell⟩ := hmid.fan.get (midL_get (ss := ss) (k := k) hx)
            have hlen := idxTo_len ss x.sku x.cat k
            have HMX := Lib.hid (And.intro hmid (And.intro hask (And.intro hx hv)))
            obtain ⟨wj, hwj⟩ : ∃ wj, wr.alloc (.cells #[.string x.sku, .string x.cat, .int .i64 x.price, .bool x.fin] 33) = wj := ⟨_, rfl⟩
            have hbj : Below wr.heap.size wr wj := by rw [← hwj]; exact (Below.refl _ _).alloc (Nat.le_refl _) _
            have hj : Qu.Blk wj wr.heap.size 33 #[.string x.sku, .string x.cat, .int .i64 x.price, .bool x.fin] := by rw [← hwj]; exact Qu.Blk.new wr _ _
            have j0 := hj.cell 0
            have j1 := hj.cell 1
            have j2 := hj.cell 2
            have j3 := hj.cell 3
            have HCX := Lib.hid (HC.out wj x (hmid.below.trans (hbj.mono hmid.below.size)) (hask.on hbj))
            have HBJ := Lib.hid hbj
            obtain ⟨q, hq⟩ : ∃ q, (idxTo ss x.sku x.cat k).length = q := ⟨_, rfl⟩
            rw [hq] at hown hlen
            obtain ⟨Ai, ci, rfl⟩ := hown.value
            have HQ := Lib.hid (And.intro hq hown)
            clear hmid hask hx hv hown hq a0 a1 a2 a3 hg hok hbj hj hI
            cases hB : hasX s x.sku x.cat with
            | false =>
              rw [hB] at HCX
              have HB := Lib.hid hB
              clear hB hcell
              go_wp2_with fail
              refine HCX.out.mono ?_
              rintro e w2 ⟨rfl, hb2⟩
              have hb3 := Hk.andThen HBJ.out hb2
              have hsz2 : w1.heap.size ≤ w2.heap.size := Nat.le_trans hsz hb3.size
              have HI2 : Hid (∃ vs, Mid w w2 (fun b => b = g1 ∨ b = g2) xs ss k (i + 1) vs ∧ Asked w2 l g1 g2) := Lib.hid ⟨vs, HMX.out.1.next hb3 HMX.out.2.2.1 HSS.out HB.out, (HMX.out.2.1.on hb3)⟩
              clear hb2 hb3 hwj
              go_wp2
              go_roundw
              case rel => exact ⟨i + 1, by go_num, by omega, hsz2, HI2⟩
              case measure => simp [intOf]; omega
            | true =>
              rw [hB] at HCX
              have HB := Lib.hid hB
              clear hB
              go_wp2_with fail
              refine HCX.out.mono ?_
              rintro e w2 ⟨rfl, hb2⟩
              have hb3 := Hk.andThen HBJ.out hb2
              have hsz2 : w1.heap.size ≤ w2.heap.size := Nat.le_trans hsz hb3.size
              have hm2 := HMX.out.1.later hb3
              have hcell2 : w2.cell? ⟨w.heap.size, i, none⟩ = some (.slice Ai q ci) := by
                have h1 := hm2.fan.blk.cell i
                rw [List.getElem?_toArray, HMX.out.2.2.2] at h1
                exact h1
              have HM2 := Lib.hid (And.intro hm2 (And.intro (HQ.out.2.later hb3) (HMX.out.2.1.on hb3)))
              have hw2 : w.heap.size ≤ w2.heap.size := hm2.below.size
              clear hb2 hb3 hwj hm2 hcell
              go_wp2_with ((at_builtin; refine Kd.wpList_push (W := w2) (F := fun _ => False) (B := w.heap.size) (n := q) (v := .slice Ai q ci) (xs := idxTo ss x.sku x.cat k) (y := (k : Int)) (cs := [.int .i64 (k : Int)]) Ap.int_t rfl _ _ rfl rfl rfl rfl HM2.out.2.1 ⟨rfl, by omega, by omega⟩ (by omega) (by omega) hw2 (fun _ h => h.elim) ?_; intro g9 cap w' hown hgrow hfr; obtain ⟨_, hc9, hz9⟩ := HM2.out.1.fan.grown HMX.out.2.2.2 hgrow; have HH9 := Lib.hid (And.intro hown (And.intro hgrow hfr)); clear hown hgrow hfr))
              have HI2 : Hid (∃ vs, Mid w (w'.setCell ⟨w.heap.size, i, none⟩ (.slice (some ⟨g9, 0, none⟩) (q + 1) cap)) (fun b => b = g1 ∨ b = g2) xs ss k (i + 1) vs ∧ Asked (w'.setCell ⟨w.heap.size, i, none⟩ (.slice (some ⟨g9, 0, none⟩) (q + 1) cap)) l g1 g2) := Lib.hid (by
                obtain ⟨hown, hgrow, hfr⟩ := HH9.out
                obtain ⟨hm, ha⟩ := HM2.out.1.hit HMX.out.2.2.1 HSS.out HB.out HMX.out.2.2.2 HQ.out.1 hown hgrow hfr (fun b hb => Nat.lt_of_lt_of_le (HN.out.1 b hb) hsz2) HN.out.2
                exact ⟨_, hm, asked_agree HM2.out.2.2 ha (size_hit hgrow)⟩)
              have hsz3 : w1.heap.size ≤ (w'.setCell ⟨w.heap.size, i, none⟩ (.slice (some ⟨g9, 0, none⟩) (q + 1) cap)).heap.size := Nat.le_trans hsz2 (size_hit HH9.out.2.1)
              clear hc9 hz9 hcell2
              go_wp2
              go_roundw
              case rel => exact ⟨i + 1, by go_num, by omega, hsz3, HI2⟩
              case measure => simp [intOf]; omega
          · obtain rfl : i = n := by omega
            have i1 : ¬ (i : Int) < (i : Int) := by omega
            have HM2 : Hid (∃ vs, Fan kInt wr w.heap.size 3 57 w.heap.size (fun _ => False) vs (idxK xs ss (k + 1)) ∧ Below w.heap.size w wr) := Lib.hid (by
              obtain ⟨vs, hm, _⟩ := hI.out
              have h1 := hm.fan
              rw [midL_full (by rw [HL.out.1]; omega)] at h1
              exact ⟨vs, h1.less fun _ h => h.elim, hm.below⟩)
            clear hI
            go_wp2
            go_roundw
            case rel => exact ⟨k + 1, by go_num, by omega, HM2⟩
            case measure => simp [intOf]; omega
    · obtain rfl : k = n2 := by omega
      have k1 : ¬ (k : Int) < (k : Int) := by omega
      have HO : Hid (Row (kList kInt) wr (· < wr.heap.size) (some ⟨w.heap.size, 0, none⟩) n (indexL xs ss) ∧ Below w.heap.size w wr) := Lib.hid (by
        obtain ⟨vs, hfan, hb⟩ := hM.out
        rw [idxK_full xs ss HL.out.2] at hfan
        exact ⟨hfan.row (by unfold indexL; rw [List.length_map]; exact HL.out.1), hb⟩)
      clear hM
      go_wp2
      go_ret
      exact ⟨_, rfl, HO.out⟩

end Go.Proofs.Ytkpekdcglbaadaa.Sc
