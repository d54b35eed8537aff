/- P4.2: a number in more bytes than it needs, of nine and more that go on, or out of bounds, says nothing; for every int64 and int. No conditions. -/
import Derived.Test.YtkpdcgikmjhhfaaPkL
import Derived.Test.YtkpdcgikmjhhfaaKitC
namespace Go.Proofs.Ytkpdcgikmjhhfaa.packForms
open Go.ChangeShapes Go.WideShapes Go.ChangeAt Go.RowKit
set_option linter.unusedVariables false

theorem own : ownKnob Try.prog.godebug = none := by kernel_rfl

/-- The bytes of a number, all of which go on. -/
theorem allOn (x : Nat) (hx : x ≤ 9223372036854775807) (f : Nat) (hf : (By.num x).length = f + 1) : 0 ≤ By.at_ (By.num x) f ∧ By.at_ (By.num x) f ≤ 127 ∧ ∀ (j : Nat) (c : UInt8), ((By.num x).set f (UInt8.ofNat (By.at_ (By.num x) f + 128).toNat))[j]? = some c → 128 ≤ c.toNat := by
  obtain ⟨b, hb, hb1, _⟩ := By.num_last x x (Nat.le_refl _)
  have e : (By.num x).length - 1 = f := by omega
  rw [e] at hb
  have ha := By.at_some hb
  refine ⟨by omega, by omega, fun j c hj => ?_⟩
  rw [ha] at hj
  by_cases hjf : j = f
  · subst hjf
    rw [List.getElem?_set_self (by omega)] at hj
    have hc : UInt8.ofNat ((b.toNat : Int) + 128).toNat = c := by simpa using hj
    rw [← hc, By.toNat_small (by omega)]
    omega
  · rw [List.getElem?_set_ne (fun e => hjf e.symm)] at hj
    have hl := (List.getElem?_eq_some_iff.1 hj).1
    obtain ⟨d, hd, hd2⟩ := By.num_on x j (by omega)
    rw [hj] at hd
    injection hd with hd
    subst hd
    exact hd2

/-- All of them go on. -/
def AllOn (L : List UInt8) : Prop := ∀ (j : Nat) (c : UInt8), L[j]? = some c → 128 ≤ c.toNat

theorem AllOn.snoc {L : List UInt8} {d : UInt8} (h : AllOn L) (hd : 128 ≤ d.toNat) : AllOn (L ++ [d]) := fun j c hj => by
  rcases Nat.lt_or_ge j L.length with hl | hl
  · rw [List.getElem?_append_left hl] at hj
    exact h j c hj
  · rw [List.getElem?_append_right hl] at hj
    have := (List.getElem?_eq_some_iff.1 hj).1
    have e : j - L.length = 0 := by simpa using this
    rw [e] at hj
    have : d = c := by simpa using hj
    rw [← this]; exact hd

theorem numE_allOn (L : List UInt8) (a b : Int) (h : AllOn L) (h0 : 0 < L.length) : By.numE (L ++ [0]) a b = 4 ∧ By.numV (L ++ [0]) a b = 0 := By.numE_long L a b h h0

/-- Readers beside each other, and what was there. -/
structure Two (w wi : World) (q1 q2 : Nat) (r1 r2 : Option Nat) (l1 l2 : List UInt8) (e1 e2 : Int) : Prop where
  one : Pk.IsR wi q1 r1 l1 e1
  two : Pk.IsR wi q2 r2 l2 e2
  low : w.heap.size ≤ q1
  lt : q1 < q2
  r1 : ∀ k, r1 = some k → k < q1
  r2 : ∀ k, r2 = some k → q1 < k ∧ k < q2
  below : Below w.heap.size w wi

theorem Two.next {w wi wj : World} {q1 q2 : Nat} {r1 r2 : Option Nat} {l1 l2 : List UInt8} {e1 e2 : Int} (h : Two w wi q1 q2 r1 r2 l1 l2 e1 e2) (hb : Below wi.heap.size wi wj) : Two w wj q1 q2 r1 r2 l1 l2 e1 e2 :=
  ⟨h.one.below hb, h.two.below hb, h.low, h.lt, h.r1, h.r2, h.below.trans (hb.mono h.below.size)⟩

theorem Two.did1 {w wi wj : World} {q1 q2 : Nat} {r1 r2 : Option Nat} {l1 l2 m : List UInt8} {e1 e2 f : Int} (h : Two w wi q1 q2 r1 r2 l1 l2 e1 e2) (k : Pk.Did wi wj q1 r1 m f) : Two w wj q1 q2 r1 r2 m l2 f e2 :=
  ⟨k.1, h.two.only k.2 (fun e => by have e' : q2 = q1 := e; have := h.lt; omega) (fun g hg e => by have e' : g = q1 := e; have := (h.r2 g hg).1; omega), h.low, h.lt, h.r1, h.r2, h.below.trans (k.toBelow h.one h.low)⟩

theorem Two.did2 {w wi wj : World} {q1 q2 : Nat} {r1 r2 : Option Nat} {l1 l2 m : List UInt8} {e1 e2 f : Int} (h : Two w wi q1 q2 r1 r2 l1 l2 e1 e2) (k : Pk.Did wi wj q2 r2 m f) : Two w wj q1 q2 r1 r2 l1 m e1 f :=
  ⟨h.one.only k.2 (fun e => by have e' : q1 = q2 := e; have := h.lt; omega) (fun g hg e => by have e' : g = q2 := e; have := h.r1 g hg; have := h.lt; omega), k.1, h.low, h.lt, h.r1, h.r2, h.below.trans (k.toBelow h.two (by have := h.low; have := h.lt; omega))⟩

def inB (x a b : Int) : Bool := decide (a ≤ x) && decide (x ≤ b)

set_option maxHeartbeats 4000000 in
set_option maxRecDepth 100000 in
/-- What is asked at the end, behind the two readers. -/
theorem walk0 (w : World) (a0 a1 a2 a3 : Int) (ha : a0 ≤ 9223372036854775807) :
    Calls Try.prog 6 #[.int .i64 a0, .int .i64 a1, .int .i64 a2, .int .i64 a3] w fun e w' => e = .returned (.bool true) ∧ Below w.heap.size w w' := by
  obtain ⟨i0, hi0, hz0, hz1, hz2⟩ := info_parts By.info_u8
  obtain ⟨x, hx⟩ : ∃ x : Nat, a0.toNat = x := ⟨_, rfl⟩
  have hm : (if a0 < 0 then 0 else a0) = (x : Int) := by split <;> omega
  have hm2 : (if 0 < a0 then a0 else 0) = (x : Int) := by split <;> omega
  have hx0 : (x : Int) ≤ 9223372036854775807 := by omega
  have hx1 : (0 : Int) ≤ (x : Int) := by omega
  obtain ⟨t, ht1, ht2, ht3, ht4⟩ := By.umod_in a1 12 (by omega) (by omega)
  have ht0 : (0 : Int) ≤ (t : Int) := by omega
  obtain ⟨f, hf⟩ : ∃ f, (By.num x).length = f + 1 := ⟨(By.num x).length - 1, by have := By.num_pos x; omega⟩
  have hf9 : f ≤ 8 := by have := By.num_nine (v := x) (by omega); omega
  obtain ⟨y0, y1, hall⟩ := allOn x (by omega) f hf
  have f0 : (0 : Int) ≤ (f : Int) := by omega
  have e1 : (f : Int) + 1 - 1 = (f : Int) := by omega
  have HNum := Lib.hid (fun W => (By.rnum_any (x : Int) W (by omega)).mono fun e w' h => By.Rowed.n (l := By.num x) h hf)
  have HFL := Lib.hid hf
  have HALL := Lib.hid hall
  clear hx ha hf hall
  go_enter Try.func6, Try.ntmps6
  go_wp2_with fail
  refine (HNum.out _).mono ?_
  rintro e w1 ⟨A1, c1, rfl, ho1, hb1⟩
  obtain ⟨g, cap, hv, hg, hgl⟩ := ho1.form (by omega)
  injection hv with hA1 _ hc1
  subst hA1 hc1
  have b1 := (By.Bys.own ho1).at (k := f) (by omega)
  obtain ⟨g', o', hgg, _, hcell⟩ := b1
  injection hgg with hgg
  injection hgg with hgg hoo
  subst hgg hoo
  have hcell2 : w1.cell? ⟨g, f, none⟩ = some (.int .u8 (By.at_ (By.num x) f)) := by rw [Nat.zero_add] at hcell; exact hcell
  have hfz := ho1.frozenAt f
  have HO1 : Hid (By.Own8 (w1.setCell ⟨g, f, none⟩ (.int .u8 (By.at_ (By.num x) f + 128))) w.heap.size (.slice (some ⟨g, 0, none⟩) (f + 1) c1) ((By.num x).set f (UInt8.ofNat (By.at_ (By.num x) f + 128).toNat)) ∧ Below w.heap.size w (w1.setCell ⟨g, f, none⟩ (.int .u8 (By.at_ (By.num x) f + 128)))) := Lib.hid (by
    obtain ⟨s1, s2⟩ := ho1.stored f (.int .u8 (By.at_ (By.num x) f + 128))
    refine ⟨?_, hb1.setCell hg _⟩
    unfold By.Own8
    rw [List.length_set, HFL.out, By.cellsB_set, By.toNat_small (by omega), show (((By.at_ (By.num x) f + 128).toNat : Nat) : Int) = By.at_ (By.num x) f + 128 by omega]
    exact s1)
  clear ho1 hb1 hcell hg
  go_wp2_with fail
  go_loopw [9, 10] (fun s9 s10 wr => ∃ (i : Nat) (L : List UInt8), s10 = .int .i64 (i : Int) ∧ i ≤ t ∧ L.length = f + 1 + i ∧ AllOn L ∧ By.Own8 wr w.heap.size s9 L ∧ Below w.heap.size w wr) (fun _ s10 _ => t - (intOf s10).toNat)
  case atStart => exact ⟨0, _, rfl, by omega, by rw [List.length_set, HFL.out], HALL.out, HO1.out.1, HO1.out.2⟩
  case round =>
    clear HO1 hfz hcell2 hgl
    obtain ⟨i, L, rfl, hi, hL, hA, hO, hB⟩ := hrel
    have i0' : (0 : Int) ≤ (i : Int) := by omega
    have t12 : t ≤ 11 := by omega
    have hLl : L.length ≤ 20 := by omega
    have hO2 := fun o => World.ownsRow.alloc hO o
    have HO := Lib.hid (And.intro hO hB)
    have HS := Lib.hid hB.size
    have HA := Lib.hid hA
    have HLL := Lib.hid hL
    clear hO hB hA hL
    by_cases hlt : i < t
    · have k1 : (i : Int) < (t : Int) := by omega
      have k2 : decide (i < t) = true := by simp; omega
      go_wp2_with ((at_builtin; refine By.wpList_append_bytes _ rfl _ _ 26 rfl w.heap.size 5 i0 Try.underlying26 hi0 hz0 hz1 hz2 u9 L.length L rfl (hO2 _) (wr.heap.size + 1) (some ⟨wr.heap.size, 0, none⟩) 1 1 _ rfl (By.Bys.made wr _ _ (by omega) (by omega)) (by simp) (by omega) (by have := HS.out; simp; omega) ?_; intro v' w' hown hgrow hfr))
      have HF := Lib.hid (By.Own8.more HO.out.2 HS.out HO.out.1 hown rfl hgrow)
      clear hown hgrow hfr
      go_wp2
      go_roundw
      case rel => exact ⟨i + 1, _, by go_num, by omega, by rw [List.length_append, HLL.out]; simp; omega, AllOn.snoc HA.out (by decide), HF.out.1, HF.out.2⟩
      case measure => simp [intOf]; omega
    · have k1 : ¬ (i : Int) < (t : Int) := by omega
      have k2 : decide (i < t) = false := by simp; omega
      go_wp2_with ((at_builtin; refine By.wpList_append_bytes _ rfl _ _ 26 rfl w.heap.size 5 i0 Try.underlying26 hi0 hz0 hz1 hz2 u9 L.length L rfl (hO2 _) (wr.heap.size + 1) (some ⟨wr.heap.size, 0, none⟩) 1 1 _ rfl (By.Bys.made wr _ _ (by omega) (by omega)) (by simp) (by omega) (by have := HS.out; simp; omega) ?_; intro v' w2 hown hgrow hfr; obtain ⟨A2, c2, rfl⟩ := Mv.own_value hown; have HF := Lib.hid (By.Own8.more HO.out.2 HS.out HO.out.1 hown rfl hgrow); have HY := Lib.hid (By.Bys.own hown); have HNN := Lib.hid (Mv.own_none hown); clear hown hgrow hfr))
      have hall := numE_allOn L 0 9223372036854775807 HA.out (by have := HLL.out; omega)
      have HALLE := Lib.hid hall
      have hz : [UInt8.ofNat (Int.toNat 0)] = [(0 : UInt8)] := rfl
      refine (Pk.read_any A2 _ c2 _ _ w2 HY.out HNN.out (by omega)).mono ?_
      rw [hz]
      rintro e w3 ⟨q1, r1, rfl, hR1, hq1, hr1, hb3⟩
      have HB3 := Lib.hid (HF.out.2.trans (hb3.mono HF.out.2.size))
      have HR1 := Lib.hid (And.intro hR1 (And.intro (show w.heap.size ≤ q1 by have := HF.out.2.size; omega) (fun k hk => (hr1 k hk).2)))
      clear hR1 hq1 hr1 hb3 HF HY HNN hO2 HO HS HA HLL
      go_wp2_with fail
      refine (HNum.out _).mono ?_
      rintro e w4 ⟨A4, c4, rfl, ho4, hb4⟩
      have HY := Lib.hid (By.Bys.own ho4)
      have HNN := Lib.hid (Mv.own_none ho4)
      have HR4 := Lib.hid (And.intro (HR1.out.1.below hb4) (HB3.out.trans (hb4.mono HB3.out.size)))
      clear ho4 hb4
      go_wp2_with fail
      refine (Pk.read_any A4 _ c4 _ _ w4 HY.out HNN.out (by omega)).mono ?_
      rintro e w5 ⟨q2, r2, rfl, hR2, hq2, hr2, hb5⟩
      have HTa : Hid (Two w w5 q1 q2 r1 r2 (L ++ [0]) (By.num x) 0 0) := Lib.hid
        ⟨HR4.out.1.below hb5, hR2, HR1.out.2.1, by have := HR4.out.1.lt; omega, HR1.out.2.2, fun k hk => by have := HR4.out.1.lt; have := hr2 k hk; omega, HR4.out.2.trans (hb5.mono HR4.out.2.size)⟩
      clear hR2 hq2 hr2 hb5 HY HNN HR4 HB3 HR1
      go_wp2_with fail
      refine (Pk.awake_any _).mono ?_
      rintro e w5b ⟨rfl, hb6⟩
      have HT5 := Lib.hid (HTa.out.next hb6)
      clear hb6 HTa
      have HM := Pk.rnum_any q1 r1 (L ++ [0]) 0 9223372036854775807 _ HT5.out.one
      rw [HALLE.out.1, HALLE.out.2] at HM
      have HM1 := Lib.hid HM
      clear HM hall hz
      by_cases hin : a2 ≤ (x : Int) ∧ (x : Int) ≤ a3
      · obtain ⟨n1, n2, _⟩ := By.numE_num x [] a2 a3 (by omega) hin.1 hin.2
        rw [List.append_nil] at n1 n2
        have i1 : a2 ≤ (x : Int) := hin.1
        have i2 : (x : Int) ≤ a3 := hin.2
        clear hin
        go_wp2_with fail
        refine (HM1.out).mono ?_
        rintro e w6 ⟨rfl, hd⟩
        have HT6 := Lib.hid (HT5.out.did1 hd)
        clear hd
        have HM2 := Pk.rnum_any q2 r2 (By.num x) a2 a3 w6 HT6.out.two
        rw [n1, n2] at HM2
        have HM3 := Lib.hid HM2
        clear HM2 n1 n2
        go_wp2_with fail
        refine HM3.out.mono ?_
        rintro e w7 ⟨rfl, hd⟩
        have HT7 := Lib.hid (HT6.out.did2 hd)
        clear hd HT6 HT5 HM1 HM3
        go_wp2_with fail
        refine (Pk.rerr_any q1 r1 _ 4 _ HT7.out.one).mono ?_
        rintro e w8 ⟨rfl, rfl⟩
        go_wp2_with fail
        refine (Pk.rerr_any q2 r2 _ 0 _ HT7.out.two).mono ?_
        rintro e w8 ⟨rfl, rfl⟩
        go_wp2_with fail
        refine (Pk.rerr_any q2 r2 _ 0 _ HT7.out.two).mono ?_
        rintro e w8 ⟨rfl, rfl⟩
        go_wp2
        go_ret
        exact ⟨rfl, HT7.out.below⟩
      · have n1 := By.numE_out x [] a2 a3 (by omega) hin
        rw [List.append_nil] at n1
        have n2 : By.numV (By.num x) a2 a3 = 0 := by unfold By.numV; rw [if_neg (by omega)]
        by_cases hx0' : x = 0
        · subst hx0'
          by_cases i1 : a2 ≤ ((0 : Nat) : Int)
          · have i2 : ¬ ((0 : Nat) : Int) ≤ a3 := fun h => hin ⟨i1, h⟩
            have j1 : a2 ≤ 0 := by omega
            have j2 : ¬ 0 ≤ a3 := by omega
            have j3 : decide (0 ≤ a3) = false := by simpa using j2
            clear hin
            go_wp2_with fail
            refine (HM1.out).mono ?_
            rintro e w6 ⟨rfl, hd⟩
            have HT6 := Lib.hid (HT5.out.did1 hd)
            clear hd
            have HM2 := Pk.rnum_any q2 r2 (By.num 0) a2 a3 w6 HT6.out.two
            rw [n1, n2] at HM2
            have HM3 := Lib.hid HM2
            clear HM2 n1 n2
            go_wp2_with fail
            refine HM3.out.mono ?_
            rintro e w7 ⟨rfl, hd⟩
            have HT7 := Lib.hid (HT6.out.did2 hd)
            clear hd HT6 HT5 HM1 HM3
            go_wp2_with fail
            refine (Pk.rerr_any q1 r1 _ 4 _ HT7.out.one).mono ?_
            rintro e w8 ⟨rfl, rfl⟩
            go_wp2_with fail
            refine (Pk.rerr_any q2 r2 _ 4 _ HT7.out.two).mono ?_
            rintro e w8 ⟨rfl, rfl⟩
            go_wp2_with fail
            refine (Pk.rerr_any q2 r2 _ 4 _ HT7.out.two).mono ?_
            rintro e w8 ⟨rfl, rfl⟩
            go_wp2
            go_ret
            exact ⟨rfl, HT7.out.below⟩
          · have j1 : ¬ a2 ≤ 0 := by omega
            have j3 : decide (a2 ≤ 0) = false := by simpa using j1
            clear hin
            go_wp2_with fail
            refine (HM1.out).mono ?_
            rintro e w6 ⟨rfl, hd⟩
            have HT6 := Lib.hid (HT5.out.did1 hd)
            clear hd
            have HM2 := Pk.rnum_any q2 r2 (By.num 0) a2 a3 w6 HT6.out.two
            rw [n1, n2] at HM2
            have HM3 := Lib.hid HM2
            clear HM2 n1 n2
            go_wp2_with fail
            refine HM3.out.mono ?_
            rintro e w7 ⟨rfl, hd⟩
            have HT7 := Lib.hid (HT6.out.did2 hd)
            clear hd HT6 HT5 HM1 HM3
            go_wp2_with fail
            refine (Pk.rerr_any q1 r1 _ 4 _ HT7.out.one).mono ?_
            rintro e w8 ⟨rfl, rfl⟩
            go_wp2_with fail
            refine (Pk.rerr_any q2 r2 _ 4 _ HT7.out.two).mono ?_
            rintro e w8 ⟨rfl, rfl⟩
            go_wp2_with fail
            refine (Pk.rerr_any q2 r2 _ 4 _ HT7.out.two).mono ?_
            rintro e w8 ⟨rfl, rfl⟩
            go_wp2
            go_ret
            exact ⟨rfl, HT7.out.below⟩
        · have x1 : ((0 : Int) == (x : Int)) = false := beq_eq_false_iff_ne.2 (by omega)
          clear hx0'
          by_cases i1 : a2 ≤ (x : Int)
          · have i2 : ¬ (x : Int) ≤ a3 := fun h => hin ⟨i1, h⟩
            have i3 : decide ((x : Int) ≤ a3) = false := by simpa using i2
            clear hin
            go_wp2_with fail
            refine (HM1.out).mono ?_
            rintro e w6 ⟨rfl, hd⟩
            have HT6 := Lib.hid (HT5.out.did1 hd)
            clear hd
            have HM2 := Pk.rnum_any q2 r2 (By.num x) a2 a3 w6 HT6.out.two
            rw [n1, n2] at HM2
            have HM3 := Lib.hid HM2
            clear HM2 n1 n2
            go_wp2_with fail
            refine HM3.out.mono ?_
            rintro e w7 ⟨rfl, hd⟩
            have HT7 := Lib.hid (HT6.out.did2 hd)
            clear hd HT6 HT5 HM1 HM3
            go_wp2_with fail
            refine (Pk.rerr_any q1 r1 _ 4 _ HT7.out.one).mono ?_
            rintro e w8 ⟨rfl, rfl⟩
            go_wp2_with fail
            refine (Pk.rerr_any q2 r2 _ 4 _ HT7.out.two).mono ?_
            rintro e w8 ⟨rfl, rfl⟩
            go_wp2_with fail
            refine (Pk.rerr_any q2 r2 _ 4 _ HT7.out.two).mono ?_
            rintro e w8 ⟨rfl, rfl⟩
            go_wp2
            go_ret
            exact ⟨rfl, HT7.out.below⟩
          · have i3 : decide (a2 ≤ (x : Int)) = false := by simpa using i1
            clear hin
            go_wp2_with fail
            refine (HM1.out).mono ?_
            rintro e w6 ⟨rfl, hd⟩
            have HT6 := Lib.hid (HT5.out.did1 hd)
            clear hd
            have HM2 := Pk.rnum_any q2 r2 (By.num x) a2 a3 w6 HT6.out.two
            rw [n1, n2] at HM2
            have HM3 := Lib.hid HM2
            clear HM2 n1 n2
            go_wp2_with fail
            refine HM3.out.mono ?_
            rintro e w7 ⟨rfl, hd⟩
            have HT7 := Lib.hid (HT6.out.did2 hd)
            clear hd HT6 HT5 HM1 HM3
            go_wp2_with fail
            refine (Pk.rerr_any q1 r1 _ 4 _ HT7.out.one).mono ?_
            rintro e w8 ⟨rfl, rfl⟩
            go_wp2_with fail
            refine (Pk.rerr_any q2 r2 _ 4 _ HT7.out.two).mono ?_
            rintro e w8 ⟨rfl, rfl⟩
            go_wp2_with fail
            refine (Pk.rerr_any q2 r2 _ 4 _ HT7.out.two).mono ?_
            rintro e w8 ⟨rfl, rfl⟩
            go_wp2
            go_ret
            exact ⟨rfl, HT7.out.below⟩

theorem walk (w : World) (a0 : Int) (w0 : (Lit.int .i64 a0).wf = true) (a1 : Int) (w1 : (Lit.int .i64 a1).wf = true) (a2 : Int) (w2 : (Lit.int .i64 a2).wf = true) (a3 : Int) (w3 : (Lit.int .i64 a3).wf = true) :
    Calls Try.prog 6 #[.int .i64 a0, .int .i64 a1, .int .i64 a2, .int .i64 a3] w fun e w' => e = .returned (.bool true) ∧ Below w.heap.size w w' :=
  walk0 w a0 a1 a2 a3 (bounds_i64 w0).2


set_option maxRecDepth 100000 in
theorem lifted (os : Os) (started : os.Started) (H : Type) (enc : TypeId × Value → H) :
    ReturnsInHanded {} Try.checked os 6 .any (Rows.packFormsSpec.pre6 enc Try.prog Try.f6 Rows.packFormsRow.domain false) (Rows.packFormsSpec.post enc Try.prog Try.f6 false true false false) := by
  refine returnsInHanded_of_change (C := Try.checked) own started (by kernel_rfl) Try.func6
    (ChangeSpec.witness6 (enc := enc) (C := Try.checked) false ⟨#[], #[.int .i64 0, .int .i64 0, .int .i64 0, .int .i64 0], []⟩ 8 (by kernel_rfl) (by kernel_rfl) (by kernel_rfl) (by kernel_rfl)) ?_
  intro W base args ds gs before hval0 hW hcnd _
  have hval : ∀ (j : Nat) t v, Try.f6.params[j]? = some t → args[j]? = some v → Value.okWide Try.prog W .any base t v := hval0
  have hW' := hW
  obtain ⟨p, q, hA0, hV, rfl, hfz, hnd⟩ := hW
  have hA : DataW.TrodAll enc Try.prog W 0 (fun _ => true) true Try.f6.params.toList args.toList ds p := hA0
  rw [Try.params6] at hA hval
  obtain ⟨v0, vs0, d0, ds0, p0, q0, hargs, rfl, rfl, h0, r0⟩ := trodAll_cons hA
  obtain ⟨v1, vs1, d1, ds1, p1, q1, rfl, rfl, rfl, h1, r1⟩ := trodAll_cons r0
  obtain ⟨v2, vs2, d2, ds2, p2, q2, rfl, rfl, rfl, h2, r2⟩ := trodAll_cons r1
  obtain ⟨v3, vs3, d3, ds3, p3, q3, rfl, rfl, rfl, h3, r3⟩ := trodAll_cons r2
  obtain ⟨rfl, rfl, rfl⟩ := trodAll_nil r3
  obtain rfl : args = #[v0, v1, v2, v3] := by cases args; simp_all
  obtain ⟨a0, rfl, _, _, w0⟩ := open_int Try.underlying2 (hval 0 2 v0 rfl rfl) h0
  obtain ⟨a1, rfl, _, _, w1⟩ := open_int Try.underlying3 (hval 1 3 v1 rfl rfl) h1
  obtain ⟨a2, rfl, _, _, w2⟩ := open_int Try.underlying2 (hval 2 2 v2 rfl rfl) h2
  obtain ⟨a3, rfl, _, _, w3⟩ := open_int Try.underlying2 (hval 3 2 v3 rfl rfl) h3
  refine (walk W a0 w0 a1 w1 a2 w2 a3 w3).mono fun e W' ⟨he, hb⟩ => ?_
  subst he
  exact ⟨_, rfl, Hk.closeLaw (tb := 4) (by kernel_rfl) (by kernel_rfl) rfl rfl rfl Try.underlying4 hW' hb⟩

theorem over : Rows.packFormsRow.holds Try.pinned (OpenSpec.ofChange Rows.packFormsSpec) :=
  OpenClaim.holds_of_wide 6 Try.f6 rfl rfl rfl rfl rfl rfl rfl ⟨rfl, rfl, rfl, rfl, rfl⟩ rfl rfl rfl rfl rfl (by kernel_rfl) Try.func6 (by kernel_rfl)
    (of_decide_eq_true (by kernel_rfl)) (by unfold Func.isWrapper; first | (rw [if_pos (by decide +kernel)]; kernel_rfl) | (rw [if_neg (by decide +kernel)]; exact ⟨rfl, rfl⟩))
    (fun os started H enc _ => lifted os started H enc)

/-- The statement. -/
theorem proved : Rows.PackFormsSaid :=
  over
end Go.Proofs.Ytkpdcgikmjhhfaa.packForms
