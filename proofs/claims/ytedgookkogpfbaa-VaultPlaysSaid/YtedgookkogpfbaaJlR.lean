/- The landed journal: record, from leaves that the closure takes. -/
import Derived.Test.YtedgookkogpfbaaJlX
import Derived.BigQuiet
set_option maxRecDepth 100000
namespace Go.Proofs.Ytedgookkogpfbaa.Jl
open Go.ChangeShapes Go.WideShapes Go.ChangeAt Go.RowKit
open Qu (Blk)
open Mv (Only)
open By (Own8 Bys cellsB cellsB_length)
open Dk (DS Sec secCells readE readV readE_ok)
open Dd (Lay At Tidy)
open Lf (Took LeafC LeafC_one Leaf5 own_lower own_far takesB readB new_leaf store_leaf load_leaf zero_leaf two_leaf ZeroC ZeroC_one)
open Jr (JS Recd took took_cells blk_blk_ne own_own_ne recGo recN goodL good_iff rec_zero secs)
set_option linter.unusedVariables false

/-! ### What stays where a box, or a row of bytes, has turned -/
section
variable {w w' : World} {B B' g t : Nat} {cs : Array Value} {q : Dd.Pl} {d : DS} {v : Value} {b : List UInt8} {ga ge gd a e x : Nat}

theorem lay_one (h : Lay w B q d) (hb : Blk w g t cs) (h1 : t ≠ 63) (h2 : t ≠ 43) (h3 : t ≠ 4) (ho : Only w w' (Mv.one g)) : Lay w' B q d :=
  h.only ho fun i hi hs => by
    have e : i = g := hs
    subst e
    rcases hi with hi | hi | hi | hi <;> subst hi
    · exact blk_blk_ne hb h.box h1 rfl
    · exact Mv.own_blk_ne h.now.2 hb (Ne.symm h2) _ rfl rfl
    · exact Mv.own_blk_ne h.sure.2 hb (Ne.symm h2) _ rfl rfl
    · exact Mv.own_blk_ne h.loose hb (Ne.symm h3) _ rfl rfl

theorem lay_own (h : Lay w B q d) (hv : Own8 w B' v b) (hg : w.grownBy w' v.ownBlock) : Lay w' B q d :=
  h.only (Mv.Only.ofGrown (S := fun i => v.ownBlock = some i) hg fun k hk => hk) fun i hi hs => by
    rcases hi with hi | hi | hi | hi <;> subst hi
    · exact Mv.own_blk_ne hv h.box (by decide) _ hs rfl
    · exact own_own_ne hv h.now.2 (by decide) _ hs rfl
    · exact own_own_ne hv h.sure.2 (by decide) _ hs rfl
    · exact own_own_ne hv h.loose (by decide) _ hs rfl

theorem own_one (h : Own8 w B v b) (hb : Blk w g t cs) (h1 : t ≠ 5) (ho : Only w w' (Mv.one g)) : Own8 w' B v b :=
  Mv.own_only h ho fun k hk hs => Mv.own_blk_ne h hb (Ne.symm h1) k hk hs

theorem cap_one (h : Cap w ga ge gd a e x) (hb : Blk w g t cs) (h1 : t ≠ 3) (h2 : t ≠ 24) (ho : Only w w' (Mv.one g)) : Cap w' ga ge gd a e x :=
  ⟨Mv.blk_only h.at_ ho fun hs => blk_blk_ne hb h.at_ h1 (show ga = g from hs).symm, Mv.blk_only h.end_ ho fun hs => blk_blk_ne hb h.end_ h1 (show ge = g from hs).symm, Mv.blk_only h.disk ho fun hs => blk_blk_ne hb h.disk h2 (show gd = g from hs).symm, h.ne⟩

theorem cap_own (h : Cap w ga ge gd a e x) (hv : Own8 w B' v b) (hg : w.grownBy w' v.ownBlock) : Cap w' ga ge gd a e x :=
  ⟨h.at_.grown hg fun e => Mv.own_blk_ne hv h.at_ (by decide) _ e.symm rfl, h.end_.grown hg fun e => Mv.own_blk_ne hv h.end_ (by decide) _ e.symm rfl, h.disk.grown hg fun e => Mv.own_blk_ne hv h.disk (by decide) _ e.symm rfl, h.ne⟩

theorem only_one (hg : w.grownBy w' (some g)) : Only w w' (Mv.one g) := Mv.Only.ofGrown hg fun i hi => by injection hi with hi; exact hi.symm
end

/-- The leaf that comes next, and whether there is one. -/
def leafAt (d : DS) (a e : Nat) : Lf.Leaf := if a < e then took (d.now.getD a []) else ⟨0, 0, false, false, []⟩

def isAt (d : DS) (a e : Nat) : Bool := decide (a < e) && takesB (d.now.getD a [])

/-- What the closure answers. -/
def CloU (w : World) (ga ge gd a e x : Nat) (L : Lf.Leaf) (T : Bool) (r : Ending) (w' : World) : Prop :=
  ∃ A c, r = .returned (.tuple #[.agg (LeafC L.epoch L.number L.first L.last A L.data.length c), .bool T]) ∧ w'.ownsRow w.heap.size 5 1 (.slice A L.data.length c) L.data.length (cellsB L.data) ∧ (T = true → Cap w' ga ge gd (a + 1) e x) ∧ Only w w' (Mv.one ga)

theorem clo_any (w : World) (B : Nat) (q : Dd.Pl) (d : DS) (ga ge gd a e : Nat) (hc : Cap w ga ge gd a e q.x) (hD : Lay w B q d) (hoff : d.off = false) (hn : d.n ≤ 1000000) (hle : a ≤ e) (he : e ≤ d.n) :
    Calls Try.prog 84 #[.pointer (some ⟨ga, 0, none⟩), .pointer (some ⟨ge, 0, none⟩), .pointer (some ⟨gd, 0, none⟩)] w (CloU w ga ge gd a e q.x (leafAt d a e) (isAt d a e)) := by
  by_cases hlt : a < e
  · have hl : d.now.length = d.n := rfl
    obtain ⟨s, hs⟩ : ∃ s, d.now[a]? = some s := ⟨_, List.getElem?_eq_getElem (by omega)⟩
    refine (clo_take w B q d ga ge gd a e hc hD hoff hn hlt he s hs).mono ?_
    rintro r w' ⟨A, c, rfl, h1, h2, h3⟩
    have e1 : leafAt d a e = took s := by unfold leafAt; rw [if_pos hlt, List.getD, hs]; rfl
    have e2 : isAt d a e = takesB s := by unfold isAt; rw [decide_eq_true hlt, Bool.true_and, List.getD, hs]; rfl
    rw [e1, e2]
    exact ⟨A, c, rfl, h1, fun _ => h2, h3⟩
  · obtain rfl : a = e := by omega
    refine (clo_end w ga ge gd a q.x hc).mono ?_
    rintro r w' ⟨rfl, h1⟩
    have e1 : leafAt d a a = ⟨0, 0, false, false, []⟩ := by unfold leafAt; rw [if_neg hlt]
    have e2 : isAt d a a = false := by unfold isAt; rw [decide_eq_false hlt]; rfl
    rw [e1, e2]
    exact ⟨none, 0, rfl, World.ownsRow_nil _ _ _ _, (fun h => by cases h), Mv.Only.ofBelow h1 _⟩

theorem leafAt_small (d : DS) (hok : d.Ok) (a e : Nat) (he : e ≤ d.n) : (leafAt d a e).epoch < 2 ^ 32 ∧ (leafAt d a e).number < 2 ^ 32 ∧ (leafAt d a e).data.length ≤ 46 := by
  unfold leafAt
  split
  · rename_i hlt
    have hl : d.now.length = d.n := rfl
    obtain ⟨s, hs⟩ : ∃ s, d.now[a]? = some s := ⟨_, List.getElem?_eq_getElem (by omega)⟩
    have e1 : d.now.getD a [] = s := by rw [List.getD, hs]; rfl
    have h64 := hok.now.at hs
    rw [e1]
    unfold took
    split
    · exact ⟨Lf.read_epoch s h64, Lf.read_number s h64, Lf.read_le s h64⟩
    · exact ⟨by show 0 < _; omega, by show 0 < _; omega, by simp⟩
  · exact ⟨by show 0 < _; omega, by show 0 < _; omega, by simp⟩

/-- Whether a leaf goes on with the record. -/
theorem isAt_good {d : DS} {a e num E k : Nat} (hlt : a + k < e) : goodL (secs d a) num 0 E k = (isAt d (a + k) e && decide ((leafAt d (a + k) e).number = num) && ((leafAt d (a + k) e).first == decide (k = 0)) && (decide (k = 0) || decide ((leafAt d (a + k) e).epoch = E))) ∧ (isAt d (a + k) e = true → leafAt d (a + k) e = readB (secs d a k)) := by
  have e1 : secs d a k = d.now.getD (a + k) [] := rfl
  have e2 : isAt d (a + k) e = takesB (secs d a k) := by unfold isAt; rw [decide_eq_true hlt, Bool.true_and, e1]
  have e3 : isAt d (a + k) e = true → leafAt d (a + k) e = readB (secs d a k) := fun h => by
    rw [e2] at h
    unfold leafAt took
    rw [if_pos hlt, ← e1, h, if_pos rfl]
  refine ⟨?_, e3⟩
  cases h : isAt d (a + k) e with
  | false =>
    rw [e2] at h
    unfold goodL
    rw [h]
    simp
  | true =>
    rw [e3 h]
    rw [e2] at h
    unfold goodL
    rw [h]
    simp

theorem rec_none {d : DS} {a e num E k : Nat} {b : List UInt8} {R : List UInt8 × Nat × Nat} (hk : a + k ≤ e) (hG : recGo (secs d a) num 0 (e - a - k) k b E = R)
    (hbad : isAt d (a + k) e = false ∨ (leafAt d (a + k) e).number ≠ num ∨ (leafAt d (a + k) e).first ≠ decide (k = 0) ∨ (k ≠ 0 ∧ (leafAt d (a + k) e).epoch ≠ E)) : R = ([], 0, 0) := by
  by_cases hlt : a + k < e
  · have hf : e - a - k = e - a - (k + 1) + 1 := by omega
    rw [hf] at hG
    unfold recGo at hG
    rw [if_neg] at hG
    · exact hG.symm
    · rw [(isAt_good hlt).1]
      rcases hbad with h | h | h | ⟨h1, h2⟩
      · rw [h]; simp
      · rw [decide_eq_false h]; simp
      · rw [show ((leafAt d (a + k) e).first == decide (k = 0)) = false from beq_eq_false_iff_ne.2 h]; simp
      · rw [decide_eq_false h1, decide_eq_false h2]; simp
  · rw [show e - a - k = 0 by omega] at hG
    exact hG.symm

theorem rec_on {d : DS} {a e num E k : Nat} {b : List UInt8} {R : List UInt8 × Nat × Nat} (hk : a + k ≤ e) (hG : recGo (secs d a) num 0 (e - a - k) k b E = R) (hT : isAt d (a + k) e = true) (hN : (leafAt d (a + k) e).number = num) (hF : (leafAt d (a + k) e).first = decide (k = 0)) (hE : k = 0 ∨ (leafAt d (a + k) e).epoch = E) :
    a + (k + 1) ≤ e ∧ R = if (leafAt d (a + k) e).last = true then (b ++ (leafAt d (a + k) e).data, k + 1, (leafAt d (a + k) e).epoch) else recGo (secs d a) num 0 (e - a - (k + 1)) (k + 1) (b ++ (leafAt d (a + k) e).data) (leafAt d (a + k) e).epoch := by
  have hlt : a + k < e := by
    unfold isAt at hT
    rw [Bool.and_eq_true] at hT
    exact of_decide_eq_true hT.1
  refine ⟨by omega, ?_⟩
  have hf : e - a - k = e - a - (k + 1) + 1 := by omega
  rw [hf] at hG
  unfold recGo at hG
  rw [if_pos] at hG
  · rw [(isAt_good (num := num) (E := E) hlt).2 hT]
    exact hG.symm
  · rw [(isAt_good hlt).1, hT, decide_eq_true hN, hF]
    rcases hE with h | h
    · simp [h]
    · simp [h]

/-- What record answers. -/
def RecordE (w : World) (ga ge gd a e x : Nat) (R : List UInt8 × Nat × Nat) (r : Ending) (w' : World) : Prop :=
  ∃ A c, r = .returned (.tuple #[.slice A R.1.length c, .int .u32 (R.2.2 : Int), .bool (R.2.1 != 0)]) ∧ Own8 w' w.heap.size (.slice A R.1.length c) R.1 ∧ (R.2.1 ≠ 0 → Cap w' ga ge gd (a + R.2.1) e x) ∧ Only w w' (Mv.one ga)

theorem recordE_none {w w' : World} {ga ge gd a e x : Nat} {R : List UInt8 × Nat × Nat} (hR : R = ([], 0, 0)) (ho : Only w w' (Mv.one ga)) : RecordE w ga ge gd a e x R (.returned (.tuple #[.slice none 0 0, .int .u32 0, .bool false])) w' := by
  subst hR
  exact ⟨none, 0, rfl, Own8.nil _ _, fun h => absurd rfl h, ho⟩

theorem recordE_some {w w' : World} {ga ge gd a e x k E c : Nat} {A : Option Addr} {b : List UInt8} {R : List UInt8 × Nat × Nat} (hR : R = (b, k + 1, E)) (h8 : Own8 w' w.heap.size (.slice A b.length c) b) (hc : Cap w' ga ge gd (a + (k + 1)) e x) (ho : Only w w' (Mv.one ga)) : RecordE w ga ge gd a e x R (.returned (.tuple #[.slice A b.length c, .int .u32 (E : Int), .bool true])) w' := by
  subst hR
  exact ⟨A, c, rfl, h8, fun _ => hc, ho⟩

/-- What stands at each round of record: the box of the leaf that was taken last, whether that is the last one, the bytes so far. -/
structure Mid (w wx : World) (B : Nat) (q : Dd.Pl) (d : DS) (ga ge gd a e num E g7 k : Nat) (lf : Bool) (b : List UInt8) (s9 : Value) (R : List UInt8 × Nat × Nat) : Prop where
  le : a + (k + 1) ≤ e
  is : R = if lf = true then (b, k + 1, E) else recGo (secs d a) num 0 (e - a - (k + 1)) (k + 1) b E
  len : b.length ≤ 46 * (k + 1)
  bytes : ∃ A c, s9 = .slice A b.length c ∧ Own8 wx w.heap.size (.slice A b.length c) b
  box : ∃ e1 n1 f1 A2 m2 c2, Blk wx g7 104 (LeafC e1 n1 f1 lf A2 m2 c2)
  cap : Cap wx ga ge gd (a + (k + 1)) e q.x
  lay : Lay wx B q d
  only : Only w wx (Mv.one ga)
  g : w.heap.size ≤ g7

theorem Mid.below {w wx wy : World} {B ga ge gd a e num E g7 k : Nat} {q : Dd.Pl} {d : DS} {lf : Bool} {b : List UInt8} {s9 : Value} {R : List UInt8 × Nat × Nat} (h : Mid w wx B q d ga ge gd a e num E g7 k lf b s9 R) (hb : Below wx.heap.size wx wy) : Mid w wy B q d ga ge gd a e num E g7 k lf b s9 R :=
  ⟨h.le, h.is, h.len, by obtain ⟨A, c, h1, h2⟩ := h.bytes; exact ⟨A, c, h1, h2.below hb⟩, by obtain ⟨e1, n1, f1, A2, m2, c2, h1⟩ := h.box; exact ⟨e1, n1, f1, A2, m2, c2, h1.below hb⟩, h.cap.below hb, h.lay.below hb, h.only.below hb, h.g⟩

set_option maxHeartbeats 4000000 in
theorem record_any (w : World) (B : Nat) (q : Dd.Pl) (d : DS) (ga ge gd a e num : Nat) (hc : Cap w ga ge gd a e q.x) (hD : Lay w B q d) (hoff : d.off = false) (hn : d.n ≤ 1000000) (hle : a ≤ e) (he : e ≤ d.n) (hnum : num < 2 ^ 32)
    (R : List UInt8 × Nat × Nat) (hR : recN (secs d a) num 0 (e - a) = R) :
    Calls Try.prog 76 #[.func (.func 84) #[] #[.pointer (some ⟨ga, 0, none⟩), .pointer (some ⟨ge, 0, none⟩), .pointer (some ⟨gd, 0, none⟩)], .int .u32 (num : Int)] w (RecordE w ga ge gd a e q.x R) := by
  have HR : Hid (recGo (secs d a) num 0 (e - a - 0) 0 [] 0 = R) := Lib.hid hR
  have HI := Lib.hid (And.intro hoff (And.intro hn (And.intro hle he)))
  have HK := Lib.hid (clo_any w B q d ga ge gd a e hc hD hoff hn hle he)
  have HS := Lib.hid (leafAt_small d hD.ok a e he)
  have HOK := Lib.hid hD.ok
  have HC := Lib.hid hc
  have HD := Lib.hid hD
  have HNUM := Lib.hid hnum
  clear hc hD hoff hn hle he hR
  go_enter Try.func76, Try.ntmps76
  go_wp2_with fail
  refine HK.out.mono ?_
  rintro r w1 ⟨A2, c2, rfl, hown, hcap, hon⟩
  have hcz := HS.out
  have HX := Lib.hid (show (recGo (secs d a) num 0 (e - a - 0) 0 [] 0 = R) ∧ leafAt d (a + 0) e = leafAt d a e ∧ isAt d (a + 0) e = isAt d a e from ⟨HR.out, rfl, rfl⟩)
  obtain ⟨L, hL⟩ : ∃ L, leafAt d a e = L := ⟨_, rfl⟩
  obtain ⟨T, hT⟩ : ∃ T, isAt d a e = T := ⟨_, rfl⟩
  rw [hL] at hown hcz ⊢
  rw [hT] at hcap ⊢
  have HL := Lib.hid (And.intro hL hT)
  have H1 := Lib.hid (And.intro hown (And.intro hcap hon))
  clear hown hcap hon hL hT
  go_upto_region 2 with (first
    | (refine new_leaf (w := w1) rfl rfl ?_; intro w2 hS2 hB2 hZ2)
    | ((with_reducible refine store_leaf (w := w2) (op := ⟨none, _, _, _, _, _⟩) ?_ (.tmp 7) (.tmp 14) ?_ w1.heap.size ?_ (LeafC L.epoch L.number L.first L.last A2 L.data.length c2) ?_ hS2 ?_ (LeafC_one _ _ _ _ _ _ _) ?_); (next => rfl); (next => rfl); (next => rfl); (next => rfl); (next => rfl); intro w3 hK3 hG3))
  obtain ⟨g7, hg7⟩ : ∃ g7, w1.heap.size = g7 := ⟨_, rfl⟩
  have H3 := Lib.hid (show Blk w3 g7 104 (LeafC L.epoch L.number L.first L.last A2 L.data.length c2) ∧ Own8 w3 w.heap.size (.slice A2 L.data.length c2) L.data ∧ (T = true → Cap w3 ga ge gd (a + 1) e q.x) ∧ Lay w3 B q d ∧ Only w w3 (Mv.one ga) ∧ w.heap.size ≤ g7 from by
    obtain ⟨h1, h2, h3⟩ := H1.out
    have hb : Below w1.heap.size w1 w3 := hB2.grown hG3 hB2.size (fun k hk => by injection hk with hk; omega)
    have hl1 : Lay w1 B q d := HD.out.only h3 (fun i hi hs => HC.out.apart HD.out (by have e : i = ga := hs; rw [← e]; exact hi))
    rw [hg7] at hK3
    exact ⟨hK3, Qu.row_below h1 hb, fun h => (h2 h).below hb, hl1.below hb, h3.below hb, by have := h3.size; omega⟩)
  rw [hg7]
  clear hS2 hB2 hZ2 hK3 hG3 hg7 H1 HS
  have HNO : Hid (T = false ∨ L.number ≠ num ∨ L.first = false → R = ([], 0, 0)) := Lib.hid (fun h => rec_none (k := 0) HI.out.2.2.1 HR.out (by
    show isAt d a e = false ∨ (leafAt d a e).number ≠ num ∨ (leafAt d a e).first ≠ true ∨ _
    rw [HL.out.1, HL.out.2]
    rcases h with h | h | h
    · exact .inl h
    · exact .inr (.inl h)
    · exact .inr (.inr (.inl (by rw [h]; decide)))))
  have HON : Hid (T = true → L.number = num → L.first = true → a + (0 + 1) ≤ e ∧ R = if L.last = true then (L.data, 0 + 1, L.epoch) else recGo (secs d a) num 0 (e - a - (0 + 1)) (0 + 1) L.data L.epoch) := Lib.hid (fun h1 h2 h3 => by
    rw [← HL.out.1] at h2 h3 ⊢
    rw [← HL.out.2] at h1
    exact rec_on (k := 0) HI.out.2.2.1 HR.out h1 h2 h3 (.inl rfl))
  obtain ⟨l0, l1, l2, l3, l4⟩ := Lf.box_cells H3.out.1
  have hnum' := HNUM.out
  have n0 : (0 : Int) ≤ (num : Int) := by omega
  have n1 : (0 : Int) ≤ (L.number : Int) := by omega
  by_cases hbad : T = false ∨ L.number ≠ num ∨ L.first = false
  · have HN0 := Lib.hid (HNO.out hbad)
    have hbad' : T = false ∨ (T = true ∧ (L.first = false ∨ (L.first = true ∧ L.number ≠ num))) := by
      cases T with
      | false => exact .inl rfl
      | true =>
        refine .inr ⟨rfl, ?_⟩
        cases hf : L.first with
        | false => exact .inl rfl
        | true =>
          refine .inr ⟨rfl, ?_⟩
          rcases hbad with h | h | h
          · cases h
          · exact h
          · rw [hf] at h; cases h
    clear hbad
    generalize hnn : L.number = nn at *
    generalize hff : L.first = ff at *
    have HQ := Lib.hid (And.intro hnn hff)
    clear hnn hff
    rcases hbad' with h | ⟨h, h2 | ⟨h2, h3⟩⟩
    · subst h
      go_wp2
      go_ret3
      exact recordE_none HN0.out H3.out.2.2.2.2.1
    · subst h h2
      go_wp2
      go_ret3
      exact recordE_none HN0.out H3.out.2.2.2.2.1
    · subst h h2
      have b1 : ((nn : Int) == (num : Int)) = false := beq_eq_false_iff_ne.2 (by omega)
      have b2 : ((nn : Int) != (num : Int)) = true := by rw [bne, b1]; rfl
      go_wp2
      go_ret3
      exact recordE_none HN0.out H3.out.2.2.2.2.1
  · have hT : T = true := by
      cases T with
      | false => exact absurd (.inl rfl) hbad
      | true => rfl
    have hN : L.number = num := Decidable.byContradiction fun h => hbad (.inr (.inl h))
    have hF : L.first = true := by
      cases hf : L.first with
      | false => exact absurd (.inr (.inr hf)) hbad
      | true => rfl
    have hM := HON.out hT hN hF
    have HM : Hid (Mid w w3 B q d ga ge gd a e num L.epoch g7 0 L.last L.data (.slice A2 L.data.length c2) R) := Lib.hid (by
      obtain ⟨h1, h2, h3, h4, h5, h6⟩ := H3.out
      exact ⟨hM.1, hM.2, by omega, ⟨A2, c2, rfl, h2⟩, ⟨_, _, _, _, _, _, h1⟩, h3 hT, h4, h5, h6⟩)
    have b1 : ((L.number : Int) == (num : Int)) = true := beq_iff_eq.2 (by omega)
    have b2 : ((L.number : Int) != (num : Int)) = false := by rw [bne, b1]; rfl
    have HE := Lib.hid hcz.1
    rw [hF] at l2
    clear hbad hM HNO HON hcz H3 hN hF
    generalize L.number = nn at *
    generalize hle : L.epoch = le at *
    subst hT
    go_upto_region 4 with (fail)
    go_quiet (fail)
    clear l0 l1 l2 l3 l4 b1 b2
    go_wp2_with fail
    have HM2 := Lib.hid (HM.out.below (Qu.below_draws (Below.refl _ _) nq))
    clear HM
    generalize w3.drewN nq = w4 at *
    go_loopg [9] (e - a - 1) (fun kx s9 wx => ∃ (k : Nat) (lf : Bool) (b : List UInt8), kx = e - a - (k + 1) ∧ Mid w wx B q d ga ge gd a e num le g7 k lf b s9 R)
    case atStart => exact ⟨0, _, _, rfl, HM2.out⟩
    case round =>
      clear HM2 HL hle
      obtain ⟨k, lf, b, hkx, hM⟩ := hrel
      obtain ⟨A1, c1, rfl, h8⟩ := hM.bytes
      obtain ⟨e1, m1, f1, A3, m3, c3, hbx⟩ := hM.box
      obtain ⟨l0, l1, l2, l3, l4⟩ := Lf.box_cells hbx
      have HM := Lib.hid hM
      have HBX := Lib.hid hbx
      have H8 := Lib.hid h8
      have HKX := Lib.hid hkx
      clear hM hbx h8 hkx l0 l1 l2 l4
      cases lf with
      | true =>
        go_wp2_with fail
        go_ret3
        have hi := HM.out.is
        rw [if_pos rfl] at hi
        exact recordE_some hi H8.out HM.out.cap HM.out.only
      | false =>
        have HK2 := Lib.hid (clo_any wr B q d ga ge gd (a + (k + 1)) e HM.out.cap HM.out.lay HI.out.1 HI.out.2.1 HM.out.le HI.out.2.2.2)
        have HS := Lib.hid (leafAt_small d HOK.out (a + (k + 1)) e HI.out.2.2.2)
        go_wp2_with fail
        refine HK2.out.mono ?_
        rintro r w5 ⟨A4, c4, rfl, hown, hcap, hon⟩
        have hcz := HS.out
        obtain ⟨L, hL⟩ : ∃ L, leafAt d (a + (k + 1)) e = L := ⟨_, rfl⟩
        obtain ⟨T, hT⟩ : ∃ T, isAt d (a + (k + 1)) e = T := ⟨_, rfl⟩
        rw [hL] at hown hcz ⊢
        rw [hT] at hcap ⊢
        have HL := Lib.hid (And.intro hL hT)
        have hbx5 := Mv.blk_only HBX.out hon (fun hs => blk_blk_ne HBX.out HM.out.cap.at_ (by decide) hs)
        have H5 := Lib.hid (show Leaf5 w5 g7 ∧ (Own8 w5 wr.heap.size (.slice A4 L.data.length c4) L.data) ∧ (T = true → Cap w5 ga ge gd (a + (k + 1) + 1) e q.x) ∧ Lay w5 B q d ∧ Own8 w5 w.heap.size (.slice A1 b.length c1) b ∧ Only w w5 (Mv.one ga) from
          ⟨⟨_, hbx5, rfl⟩, hown, hcap, lay_one HM.out.lay HM.out.cap.at_ (by decide) (by decide) (by decide) hon, own_one H8.out HM.out.cap.at_ (by decide) hon, HM.out.only.trans hon (fun _ _ h => h)⟩)
        clear hown hcap hon hL hT hbx5 l3
        go_upto_region 7 with (first
          | ((with_reducible refine store_leaf (w := w5) (op := ⟨none, _, _, _, _, _⟩) ?_ (.tmp 7) (.tmp 39) ?_ g7 ?_ (LeafC L.epoch L.number L.first L.last A4 L.data.length c4) ?_ H5.out.1 ?_ (LeafC_one _ _ _ _ _ _ _) ?_); (next => rfl); (next => rfl); (next => rfl); (next => rfl); (next => rfl); intro w6 hK6 hG6))
        have hbx5 : ∃ cs, Blk w5 g7 104 cs := by obtain ⟨cs, h1, _⟩ := H5.out.1; exact ⟨cs, h1⟩
        have H6 := Lib.hid (show Blk w6 g7 104 (LeafC L.epoch L.number L.first L.last A4 L.data.length c4) ∧ (Own8 w6 wr.heap.size (.slice A4 L.data.length c4) L.data) ∧ (T = true → Cap w6 ga ge gd (a + (k + 1) + 1) e q.x) ∧ Lay w6 B q d ∧ Own8 w6 w.heap.size (.slice A1 b.length c1) b ∧ Only w w6 (Mv.one ga) from by
          obtain ⟨cs, hcs⟩ := hbx5
          obtain ⟨q1, q2, q3, q4, q5, q6⟩ := H5.out
          have ho := only_one hG6
          exact ⟨hK6, own_one q2 hcs (by decide) ho, fun h => cap_one (q3 h) hcs (by decide) (by decide) ho, lay_one q4 hcs (by decide) (by decide) (by decide) ho, own_one q5 hcs (by decide) ho, q6.trans ho (fun i hi hs => by have e : i = g7 := hs; have := HM.out.g; omega)⟩)
        have HNO : Hid (T = false ∨ L.number ≠ num ∨ L.first = true ∨ L.epoch ≠ le → R = ([], 0, 0)) := Lib.hid (fun h => by
          have hi := HM.out.is
          rw [if_neg (by simp), ← Nat.sub_sub, Nat.sub_sub] at hi
          refine rec_none (k := k + 1) HM.out.le hi.symm ?_
          rw [HL.out.1, HL.out.2, decide_eq_false (Nat.succ_ne_zero k)]
          rcases h with h | h | h | h
          · exact .inl h
          · exact .inr (.inl h)
          · exact .inr (.inr (.inl (by rw [h]; decide)))
          · exact .inr (.inr (.inr ⟨Nat.succ_ne_zero k, h⟩)))
        have HON : Hid (T = true → L.number = num → L.first = false → L.epoch = le → a + (k + 1 + 1) ≤ e ∧ R = if L.last = true then (b ++ L.data, k + 1 + 1, L.epoch) else recGo (secs d a) num 0 (e - a - (k + 1 + 1)) (k + 1 + 1) (b ++ L.data) L.epoch) := Lib.hid (fun h1 h2 h3 h4 => by
          have hi := HM.out.is
          rw [if_neg (by simp)] at hi
          rw [← HL.out.1] at h2 h3 h4 ⊢
          rw [← HL.out.2] at h1
          exact rec_on (k := k + 1) HM.out.le hi.symm h1 h2 (by rw [h3, decide_eq_false (Nat.succ_ne_zero k)]) (.inr h4))
        clear hK6 hG6 hbx5 H5
        obtain ⟨l0, l1, l2, l3, l4⟩ := Lf.box_cells H6.out.1
        have n1 : (0 : Int) ≤ (L.number : Int) := by omega
        have n2 : (0 : Int) ≤ (L.epoch : Int) := by omega
        by_cases hbad : T = false ∨ L.number ≠ num ∨ L.first = true ∨ L.epoch ≠ le
        · have HN0 := Lib.hid (HNO.out hbad)
          have hbad' : T = false ∨ (T = true ∧ (L.first = true ∨ (L.first = false ∧ (L.number ≠ num ∨ (L.number = num ∧ L.epoch ≠ le))))) := by
            cases T with
            | false => exact .inl rfl
            | true =>
              refine .inr ⟨rfl, ?_⟩
              cases hf : L.first with
              | true => exact .inl rfl
              | false =>
                refine .inr ⟨rfl, ?_⟩
                by_cases hn : L.number = num
                · refine .inr ⟨hn, ?_⟩
                  rcases hbad with h | h | h | h
                  · cases h
                  · exact absurd hn h
                  · rw [hf] at h; cases h
                  · exact h
                · exact .inl hn
          clear hbad HNO HON
          generalize hnn : L.number = nn at *
          generalize hff : L.first = ff at *
          generalize hee : L.epoch = ee at *
          have HQ := Lib.hid (And.intro hnn (And.intro hff hee))
          clear hnn hff hee
          have HOO := Lib.hid H6.out.2.2.2.2.2
          rcases hbad' with h | ⟨h, h2 | ⟨h2, h3 | ⟨h3, h4⟩⟩⟩
          · subst h
            go_wp2
            go_ret3
            exact recordE_none HN0.out HOO.out
          · subst h h2
            go_wp2
            go_ret3
            exact recordE_none HN0.out HOO.out
          · subst h h2
            have b1 : ((nn : Int) == (num : Int)) = false := beq_eq_false_iff_ne.2 (by omega)
            have b2 : ((nn : Int) != (num : Int)) = true := by rw [bne, b1]; rfl
            go_wp2
            go_ret3
            exact recordE_none HN0.out HOO.out
          · subst h h2
            have b1 : ((nn : Int) == (num : Int)) = true := beq_iff_eq.2 (by omega)
            have b2 : ((nn : Int) != (num : Int)) = false := by rw [bne, b1]; rfl
            have b3 : ((ee : Int) == (le : Int)) = false := beq_eq_false_iff_ne.2 (by omega)
            have b4 : ((ee : Int) != (le : Int)) = true := by rw [bne, b3]; rfl
            clear h3 h4
            go_wp2
            go_ret3
            exact recordE_none HN0.out HOO.out
        · have hT : T = true := by
            cases T with
            | false => exact absurd (.inl rfl) hbad
            | true => rfl
          have hN : L.number = num := Decidable.byContradiction fun h => hbad (.inr (.inl h))
          have hF : L.first = false := by
            cases hf : L.first with
            | true => exact absurd (.inr (.inr (.inl hf))) hbad
            | false => rfl
          have hE : L.epoch = le := Decidable.byContradiction fun h => hbad (.inr (.inr (.inr h)))
          have HMM := Lib.hid (HON.out hT hN hF hE)
          have HEE := Lib.hid hE
          have HCA := Lib.hid (H6.out.2.2.1 hT)
          have b1 : ((L.number : Int) == (num : Int)) = true := beq_iff_eq.2 (by omega)
          have b2 : ((L.number : Int) != (num : Int)) = false := by rw [bne, b1]; rfl
          have b3 : ((L.epoch : Int) == (le : Int)) = true := beq_iff_eq.2 (by omega)
          have b4 : ((L.epoch : Int) != (le : Int)) = false := by rw [bne, b3]; rfl
          rw [hF] at l2
          obtain ⟨i0, hi0, hz0, hz1, hz2⟩ := info_parts By.info_u8
          have hbl := HM.out.len
          have hde := HM.out.le
          have hen := HI.out.2.2.2
          have hdn := HI.out.2.1
          have HRM : Hid (b.length + L.data.length ≤ 140737488355328) := Lib.hid (by omega)
          have HSZ : Hid (w.heap.size ≤ w6.heap.size) := Lib.hid (H6.out.2.2.2.2.2.size)
          have HY := Lib.hid (Bys.own H6.out.2.1)
          have HNN := Lib.hid (Mv.own_none H6.out.2.1)
          have HD2 := Lib.hid (show (b ++ L.data).length = b.length + L.data.length from List.length_append)
          have HBD := Lib.hid (show (b ++ L.data).length ≤ 46 * (k + 1 + 1) by rw [List.length_append]; omega)
          clear hbad HNO HON hcz hN hF hE hbl hde hen hdn
          generalize hnn : L.number = nn at *
          generalize hee : L.epoch = ee at *
          have HQ := Lib.hid (And.intro hnn hee)
          clear hnn hee
          subst hT
          go_wp2_with ((at_builtin; refine By.wpList_append_bytes _ rfl _ _ 37 rfl w.heap.size 5 i0 Try.underlying37 hi0 hz0 hz1 hz2 (.slice A1 b.length c1) b.length b rfl H6.out.2.2.2.2.1 w6.heap.size A4 L.data.length c4 L.data rfl HY.out HNN.out HRM.out HSZ.out ?_; intro v' w' hown hgrow hfr; obtain ⟨A', c', rfl⟩ := Mv.own_value hown; have HFI := Lib.hid (And.intro hown hgrow); clear hown hgrow hfr l0 l1 l2 l3 l4))
          go_roundg (e - a - (k + 1 + 1))
          case measure => have := HMM.out.1; have := HKX.out; omega
          case rel => 
            obtain ⟨q1, q2, q3, q4, q5, q6⟩ := H6.out
            have hne : some g7 ≠ (Value.slice A1 b.length c1).ownBlock := fun e => Mv.own_blk_ne q5 q1 (by decide) g7 e.symm rfl
            have hR := HMM.out.2
            rw [HEE.out] at hR
            refine ⟨k + 1, _, b ++ L.data, rfl, ⟨HMM.out.1, hR, HBD.out, ⟨A', c', by rw [HD2.out], by unfold Own8; rw [HD2.out]; exact HFI.out.1⟩, ⟨_, _, _, _, _, _, q1.grown HFI.out.2 hne⟩, cap_own HCA.out q5 HFI.out.2, lay_own q4 q5 HFI.out.2, q6.grown HFI.out.2 (fun i hi hlt => absurd (World.ownsRow.lt q5 i hi).1 (by omega)), HM.out.g⟩⟩

end Go.Proofs.Ytedgookkogpfbaa.Jl
