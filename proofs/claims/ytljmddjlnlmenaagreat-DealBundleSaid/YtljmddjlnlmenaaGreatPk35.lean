/- The reference's Order, which puts each place where it belongs. -/
import Derived.Deep.LoopGhost
import Derived.Test.YtljmddjlnlmenaaGreatPk10
set_option maxRecDepth 100000
set_option linter.unusedVariables false

namespace Go.Proofs.YtljmddjlnlmenaaGreat.Qu
open Go.ChangeShapes Go.WideShapes Go.ChangeAt Go.RowKit
theorem ins_at (x : Pt) : ∀ (l : List Pt) (k : Nat), k <= l.length -> (∀ j y, j < k -> l[j]? = some y -> aheadB x y = false) -> (∀ y, l[k]? = some y -> aheadB x y = true) -> ins x l = l.take k ++ x :: l.drop k
  | [], k, hk, _, _ => by simp at hk; subst hk; rfl
  | y :: l, 0, _, _, h => by
    unfold ins
    rw [if_pos (h y rfl)]
    rfl
  | y :: l, k + 1, hk, h1, h2 => by
    unfold ins
    rw [if_neg (by rw [h1 0 y (by omega) rfl]; simp), ins_at x l k (by simpa using hk) (fun j z hj hz => h1 (j + 1) z (by omega) hz) (fun z hz => h2 z hz)]
    rfl
def plc (l : List Pt) : List Int := l.map (·.2)
def gap (l : List Pt) (k : Nat) (z : Int) : List Int := plc (l.take k) ++ z :: plc (l.drop k)
theorem gap_length (l : List Pt) (k : Nat) (z : Int) (hk : k <= l.length) : (gap l k z).length = l.length + 1 := by
  simp [gap, plc]
  omega
theorem gap_end (l : List Pt) (z : Int) : gap l l.length z = plc l ++ [z] := by simp [gap, plc]
theorem gap_set (l : List Pt) (k : Nat) (z y : Int) (hk : k <= l.length) : (gap l k z).set k y = gap l k y := by
  unfold gap
  have h : (plc (l.take k)).length = k := by simp [plc]; omega
  rw [List.set_append_right _ _ (by omega), h, Nat.sub_self]
  rfl
theorem gap_at (l : List Pt) (k : Nat) (z : Int) (p : Pt) (hp : l[k]? = some p) : (gap l (k + 1) z)[k]? = some p.2 /\ (gap l (k + 1) z).set (k + 1) p.2 = gap l k p.2 := by
  have hk : k < l.length := (List.getElem?_eq_some_iff.1 hp).1
  have h : (plc (l.take (k + 1))).length = k + 1 := by simp [plc]; omega
  refine ⟨?_, ?_⟩
  . unfold gap
    rw [List.getElem?_append_left (by omega)]
    simp [plc, hp]
  . rw [gap_set _ _ _ _ (by omega)]
    unfold gap
    have e1 : l.take (k + 1) = l.take k ++ [p] := by rw [List.take_add_one, hp]; rfl
    have e2 : l.drop k = p :: l.drop (k + 1) := by
      have := List.drop_eq_getElem_cons hk
      rw [this]
      congr 1
      exact (List.getElem?_eq_some_iff.1 hp).2
    rw [e1, e2]
    simp [plc]
theorem gap_ins (x : Pt) (l : List Pt) (k : Nat) (h : ins x l = l.take k ++ x :: l.drop k) : gap l k x.2 = plc (ins x l) := by
  rw [h]; simp [gap, plc]
structure OutAt (w wr : World) (v : Value) (m : Nat) (l : List Int) : Prop where
  own : wr.ownsRow w.heap.size 3 1 v m (l.map (Value.int .i64))
  below : Below w.heap.size w wr
theorem OutAt.drawn {w wr w' : World} {v : Value} {m : Nat} {l : List Int} (h : OutAt w wr v m l) (hd : Hl.Drawn wr w') : OutAt w w' v m l := by
  obtain ⟨d, rfl⟩ := hd
  exact ⟨h.own, below_draws h.below d⟩
theorem OutAt.len {w wr : World} {v : Value} {m : Nat} {l : List Int} (h : OutAt w wr v m l) : l.length = m := by simpa using h.own.1
theorem OutAt.form {w wr : World} {v : Value} {m : Nat} {l : List Int} (h : OutAt w wr v m l) (hm : 0 < m) : ∃ g cap, v = .slice (some ⟨g, 0, none⟩) m cap /\ w.heap.size <= g := by
  obtain ⟨g, cap, hv, hb, _⟩ := h.own.form hm
  exact ⟨g, cap, hv, hb⟩
theorem OutAt.cell {w wr : World} {g cap m : Nat} {l : List Int} (h : OutAt w wr (.slice (some ⟨g, 0, none⟩) m cap) m l) (k : Nat) (y : Int) (hy : l[k]? = some y) : wr.cell? ⟨g, k, none⟩ = some (.int .i64 y) := by
  have hk := (List.getElem?_eq_some_iff.1 hy).1
  rw [h.own.cellAt k (by have := h.len; omega), List.getElem?_map, hy]
  rfl
theorem OutAt.set_ {w wr : World} {g cap m : Nat} {l : List Int} (h : OutAt w wr (.slice (some ⟨g, 0, none⟩) m cap) m l) (hg : w.heap.size <= g) (k : Nat) (y : Int) : OutAt w (wr.setCell ⟨g, k, none⟩ (.int .i64 y)) (.slice (some ⟨g, 0, none⟩) m cap) m (l.set k y) := by
  obtain ⟨h1, h2⟩ := h.own.stored k (.int .i64 y)
  exact ⟨by rw [List.map_set]; exact h1, h.below.setCell hg _⟩
set_option maxHeartbeats 2000000 in
set_option maxRecDepth 100000 in
theorem ref_order (A : Option Addr) (n cap : Nat) (f : Nat -> Int) (w : World) (ha : Hl.Ints w w.heap.size A n f) (hn : n <= 900000000) :
    Calls Tryz.prog 69 #[.slice A n cap] w fun e w' => Ordered e w w' n f := by
  obtain ⟨i0, hi0, hz0, hz1, hz2⟩ := info_parts info_int
  have n1 : (n : Int) <= 900000000 := by omega
  go_enter Tryz.func69, Tryz.ntmps69
  go_wp2
  go_loopw [3, 4] (fun v s wr => ∃ (i : Nat) (A : Option Addr) (c : Nat), s = .int .i64 i /\ v = .slice A i c /\ i <= n /\ OutAt w wr v i (plc (ord f i))) (fun _ s _ => n - (intOf s).toNat)
  case atStart => exact ⟨0, none, 0, rfl, rfl, by omega, World.ownsRow_nil _ _ _ _, Below.refl _ _⟩
  case round =>
    obtain ⟨i, A', c', rfl, rfl, hi, hO⟩ := hrel
    obtain ⟨wo, hwo⟩ : ∃ wo : World, wo = wr := ⟨_, rfl⟩
    subst hwo
    by_cases hlt : i < n
    . have q1 : (i : Int) < (n : Int) := by omega
      have q0 : (0 : Int) <= (i : Int) := by omega
      have HO := Lib.hid hO
      have HA := Lib.hid ha
      have HL := Lib.hid (ord_length f i)
      clear hO ha
      go_wp2
      go_loopw [5] (fun s wr => ∃ k : Nat, s = .int .i64 k /\ k <= i /\ Hl.Drawn wo wr /\ ∀ j y, j < k -> (ord f i)[j]? = some y -> aheadB (f i, (i : Int)) y = false) (fun s _ => i - (intOf s).toNat)
      case atStart => exact ⟨0, rfl, by omega, ⟨0, rfl⟩, fun j y hj => by omega⟩
      case round =>
        obtain ⟨k, rfl, hk, hD, hE⟩ := hrel
        have k0 : (0 : Int) <= (k : Int) := by omega
        have HE := Lib.hid hE
        clear hE
        by_cases hki : k < i
        . have k1 : (k : Int) < (i : Int) := by omega
          obtain ⟨y, hy⟩ : ∃ y, (ord f i)[k]? = some y := ⟨_, List.getElem?_eq_getElem (by rw [HL.out]; exact hki)⟩
          obtain ⟨p, hp, hyp⟩ := ord_mem f i y (List.mem_of_getElem? hy)
          subst hyp
          have hO2 := HO.out.drawn hD
          obtain ⟨g, cg, hv, hg⟩ := hO2.form (by omega)
          cases hv
          have c1 := hO2.cell k (p : Int) (by simp [plc, hy])
          obtain ⟨b, o, rfl, hbm, hc2⟩ := HA.out p (by omega)
          have c2 : wr.cell? ⟨b, o + p, none⟩ = some (.int .i64 (f p)) := (hO2.below.cell (p := ⟨b, o + p, none⟩) hbm).trans hc2
          obtain ⟨b', o', hAA, hbm', hc3⟩ := HA.out i hlt
          cases hAA
          have c3 : wr.cell? ⟨b, o + i, none⟩ = some (.int .i64 (f i)) := (hO2.below.cell (p := ⟨b, o + i, none⟩) hbm').trans hc3
          have p0 : (0 : Int) <= (p : Int) := by omega
          have p1 : (p : Int) < (n : Int) := by omega
          have HD := Lib.hid hD
          have HY := Lib.hid hy
          have HPI := Lib.hid hp
          clear hO2 hc2 hc3 hD hbm hbm' hg hy hp
          by_cases hf : f i <= f p
          . have d1 : decide (f i <= f p) = true := by simpa using hf
            clear hf
            go_wp2_with fail
            go_quiet (fail)
            go_wp2
            go_roundw
            case rel => exact ⟨k + 1, by go_num, by omega, HD.out.more _, fun j z hj hz => by
              rcases Nat.lt_or_ge j k with h | h
              . exact HE.out j z h hz
              . have hjk : j = k := by omega
                subst hjk
                have hz2 := HY.out.symm.trans hz
                injection hz2 with hz2
                subst hz2
                rw [not_ahead]
                have := HPI.out
                simp at d1
                show ¬ (f p < f i \/ (f p = f i /\ (i : Int) < (p : Int)))
                omega⟩
            case measure => (simp [intOf] <;> omega)
          . have d1 : decide (f i <= f p) = false := by simp; omega
            have hins : Hid (ins (f i, (i : Int)) (ord f i) = (ord f i).take k ++ (f i, (i : Int)) :: (ord f i).drop k) := Lib.hid (ins_at _ _ k (by rw [HL.out]; omega) HE.out (fun z hz => by
              have hz2 := HY.out.symm.trans hz
              injection hz2 with hz2
              subst hz2
              rw [ahead_iff]
              left
              show f p < f i
              omega))
            clear hf
            go_wp2_with fail
            go_quiet (fail)
            have HO3 := Lib.hid (HO.out.drawn (HD.out.more nq))
            generalize World.drewN wr nq = wx at *
            go_wp2_with ((at_builtin; refine wpList_append_lies _ rfl _ _ 36 rfl w.heap.size 3 i0 _ 1 8 Tryz.underlying36 hi0 hz0 hz1 hz2 rfl (by omega) _ _ _ rfl (HO3.out.own.alloc _) ⟨wx.heap.size, 0, none⟩ 1 1 [.int .i64 0] rfl rfl (World.news_of_block (cs := #[.int .i64 0]) (t := 3) (fr := (0, 0)) (heap_alloc_new wx _)) (by simp [Value.oneCell']) (by omega) (by unfold maxLen; omega) (by omega) (by have := HO3.out.below.size; simp; omega) (wx.heap.size + 1) (by simp) ?_; intro g2 cp w4 hown hgrow hat hlt2))
            have HO4 : Hid (OutAt w w4 (.slice (some ⟨g2, 0, none⟩) (i + 1) cp) (i + 1) (gap (ord f i) i 0) /\ w.heap.size <= g2) := Lib.hid (by
              have hB := HO3.out.below
              have e := gap_end (ord f i) 0
              rw [HL.out] at e
              refine ⟨⟨?_, (hB.alloc hB.size _).grown hgrow (by have := hB.size; simp; omega) fun j hj => (HO3.out.own.lt j hj).1⟩, ?_⟩
              . rw [e, List.map_append]; exact hown
              . exact (hown.lt g2 rfl).1)
            clear hown hgrow hat hlt2
            go_wp2
            go_loopw [6] (fun s wr => ∃ (m : Nat) (z : Int), s = .int .i64 m /\ k <= m /\ m <= i /\ OutAt w wr (.slice (some ⟨g2, 0, none⟩) (i + 1) cp) (i + 1) (gap (ord f i) m z)) (fun s _ => (intOf s).toNat)
            case atStart => exact ⟨i, 0, rfl, by omega, by omega, HO4.out.1⟩
            case round =>
              obtain ⟨m, z, rfl, hkm, hmi, hO5⟩ := hrel
              have r0 : (0 : Int) <= (m : Int) := by omega
              have r1 : (m : Int) < (i : Int) + 1 := by omega
              by_cases hgo : k < m
              . obtain ⟨m, rfl⟩ : ∃ m', m = m' + 1 := ⟨m - 1, by omega⟩
                have r2 : (k : Int) < (m : Int) + 1 := by omega
                have r3 : (m : Int) < (i : Int) := by omega
                have r4 : (0 : Int) <= (m : Int) := by omega
                obtain ⟨y, hy⟩ : ∃ y, (ord f i)[m]? = some y := ⟨_, List.getElem?_eq_getElem (by rw [HL.out]; omega)⟩
                obtain ⟨ga, gs⟩ := gap_at (ord f i) m z y hy
                have c5 := hO5.cell m y.2 ga
                obtain ⟨z5, hz5⟩ : ∃ z5, (gap (ord f i) (m + 1) z)[m + 1]? = some z5 := ⟨_, List.getElem?_eq_getElem (by rw [gap_length _ _ _ (by rw [HL.out]; omega), HL.out]; omega)⟩
                have c6 := hO5.cell (m + 1) z5 hz5
                have c7 := hO5.own.frozenAt (m + 1)
                have hO6 := hO5.set_ HO4.out.2 (m + 1) y.2
                rw [gs] at hO6
                have HO6 := Lib.hid hO6
                clear hO6 hO5 gs ga hy hz5
                go_wp2
                go_roundw
                case rel => exact ⟨m, y.2, by go_num, by omega, by omega, HO6.out⟩
                case measure => (simp [intOf] <;> omega)
              . have hmk : k = m := by omega
                subst hmk
                have r2 : ¬ (k : Int) < (k : Int) := by omega
                obtain ⟨z5, hz5⟩ : ∃ z5, (gap (ord f i) k z)[k]? = some z5 := ⟨_, List.getElem?_eq_getElem (by rw [gap_length _ _ _ (by rw [HL.out]; omega), HL.out]; omega)⟩
                have c6 := hO5.cell k z5 hz5
                have c7 := hO5.own.frozenAt k
                have hO6 := hO5.set_ HO4.out.2 k (i : Int)
                rw [gap_set _ _ _ _ (by rw [HL.out]; omega), gap_ins (f i, (i : Int)) _ _ hins.out] at hO6
                have HO6 := Lib.hid hO6
                clear hO6 hO5 hz5
                go_wp2
                go_roundw
                case rel => exact ⟨i + 1, some ⟨g2, 0, none⟩, cp, by go_num, rfl, by omega, HO6.out⟩
                case measure => (simp [intOf] <;> omega)
        . obtain rfl : k = i := by omega
          have k1 : decide ((k : Int) < (k : Int)) = false := by simp
          have k2 : decide (k < k) = false := by simp
          have hins : Hid (ins (f k, (k : Int)) (ord f k) = (ord f k).take k ++ (f k, (k : Int)) :: (ord f k).drop k) := Lib.hid (ins_at _ _ k (by rw [HL.out]; omega) HE.out (fun z hz => by
            rw [List.getElem?_eq_none (by rw [HL.out]; omega)] at hz
            cases hz))
          have HD := Lib.hid hD
          clear hki hD
          go_wp2_with fail
          go_quiet (fail)
          have HO3 := Lib.hid (HO.out.drawn (HD.out.more nq))
          generalize World.drewN wr nq = wx at *
          go_wp2_with ((at_builtin; refine wpList_append_lies _ rfl _ _ 36 rfl w.heap.size 3 i0 _ 1 8 Tryz.underlying36 hi0 hz0 hz1 hz2 rfl (by omega) _ _ _ rfl (HO3.out.own.alloc _) ⟨wx.heap.size, 0, none⟩ 1 1 [.int .i64 0] rfl rfl (World.news_of_block (cs := #[.int .i64 0]) (t := 3) (fr := (0, 0)) (heap_alloc_new wx _)) (by simp [Value.oneCell']) (by omega) (by unfold maxLen; omega) (by omega) (by have := HO3.out.below.size; simp; omega) (wx.heap.size + 1) (by simp) ?_; intro g2 cp w4 hown hgrow hat hlt2))
          have HO4 : Hid (OutAt w w4 (.slice (some ⟨g2, 0, none⟩) (k + 1) cp) (k + 1) (gap (ord f k) k 0) /\ w.heap.size <= g2) := Lib.hid (by
            have hB := HO3.out.below
            have e := gap_end (ord f k) 0
            rw [HL.out] at e
            refine ⟨⟨?_, (hB.alloc hB.size _).grown hgrow (by have := hB.size; simp; omega) fun j hj => (HO3.out.own.lt j hj).1⟩, ?_⟩
            . rw [e, List.map_append]; exact hown
            . exact (hown.lt g2 rfl).1)
          clear hown hgrow hat hlt2
          go_wp2
          go_loopw [6] (fun s wr => ∃ (m : Nat) (z : Int), s = .int .i64 m /\ k <= m /\ m <= k /\ OutAt w wr (.slice (some ⟨g2, 0, none⟩) (k + 1) cp) (k + 1) (gap (ord f k) m z)) (fun s _ => (intOf s).toNat)
          case atStart => exact ⟨k, 0, rfl, by omega, by omega, HO4.out.1⟩
          case round =>
            obtain ⟨m, z, rfl, hkm, hmi, hO5⟩ := hrel
            have r0 : (0 : Int) <= (m : Int) := by omega
            have r1 : (m : Int) < (k : Int) + 1 := by omega
            by_cases hgo : k < m
            . exact absurd hgo (by omega)
            . have hmk : k = m := by omega
              subst hmk
              have r2 : ¬ (k : Int) < (k : Int) := by omega
              obtain ⟨z5, hz5⟩ : ∃ z5, (gap (ord f k) k z)[k]? = some z5 := ⟨_, List.getElem?_eq_getElem (by rw [gap_length _ _ _ (by rw [HL.out]; omega), HL.out]; omega)⟩
              have c6 := hO5.cell k z5 hz5
              have c7 := hO5.own.frozenAt k
              have hO6 := hO5.set_ HO4.out.2 k (k : Int)
              rw [gap_set _ _ _ _ (by rw [HL.out]; omega), gap_ins (f k, (k : Int)) _ _ hins.out] at hO6
              have HO6 := Lib.hid hO6
              clear hO6 hO5 hz5
              go_wp2
              go_roundw
              case rel => exact ⟨k + 1, some ⟨g2, 0, none⟩, cp, by go_num, rfl, by omega, HO6.out⟩
              case measure => (simp [intOf] <;> omega)
    . obtain rfl : i = n := by omega
      have q1 : ¬ (i : Int) < (i : Int) := by omega
      have HF : Hid (Ordered (.returned (.slice A' i c')) w wo i f) := Lib.hid ⟨A', c', rfl, by rw [nums_eq]; exact hO.own, hO.below⟩
      clear hO ha
      go_wp2
      go_ret
      exact HF.out
theorem ref_told (A : Option Addr) (n cap : Nat) (f : Nat -> Int) (w : World) (ha : Hl.Ints w w.heap.size A n f) (hn : n <= 900000000) :
    Calls Tryz.prog 69 #[.slice A n cap] w fun e w' => Told e w w' n ((ord f n).map (·.2)) :=
  (ref_order A n cap f w ha hn).mono fun e w' ⟨A', c, he, hown, hb⟩ => ⟨A', c, he, by rw [nums_eq] at hown; exact Hl.Ints.own hown, hb⟩
end Go.Proofs.YtljmddjlnlmenaaGreat.Qu
