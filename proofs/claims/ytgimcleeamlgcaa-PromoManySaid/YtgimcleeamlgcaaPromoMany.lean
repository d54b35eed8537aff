/- P12.1: so many promos, codes, parts and tiers, and no more; no two of one name; for every two ints. No conditions. -/
import Derived.Test.YtgimcleeamlgcaaPmJ
import Derived.Test.YtgimcleeamlgcaaBa
set_option maxRecDepth 100000
namespace Go.Proofs.Ytgimcleeamlgcaa.promoMany
open Go.ChangeShapes Go.WideShapes Go.ChangeAt Go.RowKit
open Ap (Scp Prt Tir Prm kPrm kPrt kTir row_Prm)
open Kd (Kind Row Own Cells Fit Agree Lst Sl kStr kInt kList row_str Deep)
set_option maxRecDepth 100000
set_option linter.unusedVariables false

theorem own : ownKnob Try.prog.godebug = none := by kernel_rfl

theorem text_two (W : World) (a b : Nat) (ha : a < 256) (hb : b < 256) : (convert 51 9 (.slice (some ⟨W.heap.size, 0, none⟩) 2 2)).run Try.prog (W.alloc (.cells #[.int .u8 (a : Int), .int .u8 (b : Int)] 5)) = .ok (.string (By.strOf [UInt8.ofNat a, UInt8.ofNat b])) (W.alloc (.cells #[.int .u8 (a : Int), .int .u8 (b : Int)] 5)) := by
  have h : By.Bys (W.alloc (.cells #[.int .u8 (a : Int), .int .u8 (b : Int)] 5)) (W.heap.size + 1) (some ⟨W.heap.size, 0, none⟩) 2 [UInt8.ofNat a, UInt8.ofNat b] := ⟨rfl, fun k c hk => by
    refine ⟨W.heap.size, 0, rfl, by omega, ?_⟩
    have hl := (List.getElem?_eq_some_iff.1 hk).1
    rw [Nat.zero_add, Qu.Blk.cell (Qu.Blk.new W 5 _) k]
    obtain e | e : k = 0 ∨ k = 1 := by simp at hl; omega
    · subst e
      obtain rfl : UInt8.ofNat a = c := by simpa using hk
      rw [By.toNat_small ha]; rfl
    · subst e
      obtain rfl : UInt8.ofNat b = c := by simpa using hk
      rw [By.toNat_small hb]; rfl⟩
  exact By.run_text (P := Try.prog) (c := 2) 51 9 5 Try.underlying51 Try.underlying5 Try.underlying9 h

/-- The promotions while they are made. -/
structure Made (w wr : World) (v : Value) (k : Nat) : Prop where
  own : Own kPrm wr w.heap.size 28 (fun _ => False) v k (Pm.pL k)
  below : Below w.heap.size w wr

/-- The parts while they are counted. -/
structure Counted (W0 W : World) (gp gb N k : Nat) : Prop where
  own : Own kPrt W W0.heap.size 35 (fun _ => False) (.slice (some ⟨gp, 0, none⟩) N N) N (Pm.bL N k)
  blk : Qu.Blk W gb 28 #[.string ⟨#[97]⟩, .int .i64 4, .int .i64 0, .string ⟨#[]⟩, .string ⟨#[]⟩, .bool false, .slice none 0 0, .slice none 0 0, .int .i64 0, .int .i64 0, .int .i64 0, .int .i64 0, .int .i64 0, .slice (some ⟨gp, 0, none⟩) N N, .slice none 0 0]
  ne : gb ≠ gp
  below : Below W0.heap.size W0 W

/-- The tiers while they are made. -/
structure Stepped (W0 W : World) (gt : Nat) (A : Option Addr) (n c : Nat) : Prop where
  own : Own kTir W W0.heap.size 37 (fun _ => False) (.slice A n c) n (Pm.tL n)
  blk : Qu.Blk W gt 28 #[.string ⟨#[97]⟩, .int .i64 6, .int .i64 0, .string ⟨#[]⟩, .string ⟨#[]⟩, .bool false, .slice none 0 0, .slice none 0 0, .int .i64 0, .int .i64 0, .int .i64 0, .int .i64 0, .int .i64 0, .slice none 0 0, .slice A n c]
  low : W0.heap.size ≤ gt
  below : Below W0.heap.size W0 W

theorem own_box {α : Type} {K : Kind α} {W : World} {B E n g i : Nat} {v u : Value} {xs : List α} (h : Own K W B E (fun _ => False) v n xs) (hv : v.ownBlock ≠ some g) : Own K (W.setCell ⟨g, i, none⟩ u) B E (fun _ => False) v n xs :=
  h.stay (fun _ h => h.elim) fun q hq => Below.heap_setCell W ⟨g, i, none⟩ u q (fun e => hv (by rw [hq, show q = g from e]))

theorem Stepped.far {W0 W : World} {gt n c : Nat} {A : Option Addr} (h : Stepped W0 W gt A n c) : (Value.slice A n c).ownBlock ≠ some gt := Py.own_ne h.own h.blk (by decide)

theorem Stepped.next {W0 W W' : World} {gt n c g cap : Nat} {A : Option Addr} (h : Stepped W0 W gt A n c) (hown : Own kTir W' W0.heap.size 37 (fun _ => False) (.slice (some ⟨g, 0, none⟩) (n + 1) cap) (n + 1) (Pm.tL n ++ [⟨(n : Int), 0, 1⟩])) (hgrow : W.grownBy W' (Value.slice A n c).ownBlock) :
    Qu.Blk W' gt 28 #[.string ⟨#[97]⟩, .int .i64 6, .int .i64 0, .string ⟨#[]⟩, .string ⟨#[]⟩, .bool false, .slice none 0 0, .slice none 0 0, .int .i64 0, .int .i64 0, .int .i64 0, .int .i64 0, .int .i64 0, .slice none 0 0, .slice A n c] ∧ Stepped W0 (W'.setCell ⟨gt, 14, none⟩ (.slice (some ⟨g, 0, none⟩) (n + 1) cap)) gt (some ⟨g, 0, none⟩) (n + 1) cap := by
  have hbk := h.blk.grown hgrow (fun e => h.far e.symm)
  have hne : (Value.slice (some ⟨g, 0, none⟩) (n + 1) cap).ownBlock ≠ some gt := Py.own_ne hown hbk (by decide)
  exact ⟨hbk, ⟨by rw [Pm.tL_succ]; exact own_box hown hne, hbk.put 14 _, h.low, (h.below.grown hgrow h.below.size fun k hk => (h.own.low k hk).1).setCell h.low _⟩⟩

/-- What stands at the end. -/
structure Stands (w W : World) (gl m cl q gc N3 gb gp N2 gt : Nat) (A : Option Addr) (N5 c5 : Nat) : Prop where
  rows : Row kPrm W (· < W.heap.size) (some ⟨gl, 0, none⟩) m (Pm.pM m q)
  codes : Row kStr W (· < W.heap.size) (some ⟨gc, 0, none⟩) N3 (Pm.cL N3)
  bundle : ∃ B, Own kPrt W B 35 (fun _ => False) (.slice (some ⟨gp, 0, none⟩) N2 N2) N2 (Pm.bL N2 N2)
  bbox : Qu.Blk W gb 28 #[.string ⟨#[97]⟩, .int .i64 4, .int .i64 0, .string ⟨#[]⟩, .string ⟨#[]⟩, .bool false, .slice none 0 0, .slice none 0 0, .int .i64 0, .int .i64 0, .int .i64 0, .int .i64 0, .int .i64 0, .slice (some ⟨gp, 0, none⟩) N2 N2, .slice none 0 0]
  tiers : ∃ B, Own kTir W B 37 (fun _ => False) (.slice A N5 c5) N5 (Pm.tL N5)
  tbox : Qu.Blk W gt 28 #[.string ⟨#[97]⟩, .int .i64 6, .int .i64 0, .string ⟨#[]⟩, .string ⟨#[]⟩, .bool false, .slice none 0 0, .slice none 0 0, .int .i64 0, .int .i64 0, .int .i64 0, .int .i64 0, .int .i64 0, .slice none 0 0, .slice A N5 c5]
  below : Below w.heap.size w W

theorem row_on {α : Type} {K : Kind α} {W W' : World} {A : Option Addr} {n : Nat} {xs : List α} (h : Row K W (· < W.heap.size) A n xs) (hb : Below W.heap.size W W') : Row K W' (· < W'.heap.size) A n xs :=
  (h.below hb (Nat.le_refl _)).more fun b hb2 => Nat.lt_of_lt_of_le hb2 hb.size

theorem Stands.later {w W W' : World} {gl m cl q gc N3 gb gp N2 gt N5 c5 : Nat} {A : Option Addr} (h : Stands w W gl m cl q gc N3 gb gp N2 gt A N5 c5) (hb : Below W.heap.size W W') : Stands w W' gl m cl q gc N3 gb gp N2 gt A N5 c5 := by
  obtain ⟨B1, h1⟩ := h.bundle
  obtain ⟨B2, h2⟩ := h.tiers
  exact ⟨row_on h.rows hb, row_on h.codes hb, ⟨B1, h1.later hb⟩, h.bbox.below hb, ⟨B2, h2.later hb⟩, h.tbox.below hb, h.below.trans (hb.mono h.below.size)⟩

set_option maxHeartbeats 4000000 in
theorem walk (w : World) (n : Int) (hn : (Lit.int .i64 n).wf = true) (tw : Int) (htw : (Lit.int .i64 tw).wf = true) :
    Calls Try.prog 7 #[.int .i64 n, .int .i64 tw] w fun e w' => e = .returned (.bool true) ∧ Below w.heap.size w w' := by
  obtain ⟨t, ht⟩ : ∃ t, Py.modN n 3 = t := ⟨_, rfl⟩
  have ht3 := Py.modN_lt n 3 (by omega)
  have HM := Lib.hid (fun W => Py.mod_any n 3 W (by omega) (by omega))
  rw [ht] at ht3
  simp only [ht] at HM
  have ht3' : t < 3 := by omega
  obtain ⟨m, hm⟩ : ∃ m, 59 + t = m := ⟨_, rfl⟩
  have qm : IntKind.i64.wrap (59 + (t : Int)) = (m : Int) := by rw [IntWalk.i64_in _ (by omega)]; omega
  have hm62 : 59 ≤ m ∧ m ≤ 61 := by omega
  have HM0 : Hid (Made w w (.slice none 0 0) 0) := Lib.hid ⟨Own.nil _ _ _ _ _, Below.refl _ _⟩
  have HW := Lib.hid (And.intro ht3' hm)
  have k3 : IntKind.i64.wrap (3 + (t : Int)) = ((3 + t : Nat) : Int) := by rw [IntWalk.i64_in _ (by omega)]; omega
  have k2 : IntKind.i64.wrap (2 + (t : Int)) = ((2 + t : Nat) : Int) := by rw [IntWalk.i64_in _ (by omega)]; omega
  have k5 : IntKind.i64.wrap (5 + (t : Int)) = ((5 + t : Nat) : Int) := by rw [IntWalk.i64_in _ (by omega)]; omega
  obtain ⟨N3, hN3⟩ : ∃ N, 3 + t = N := ⟨_, rfl⟩
  obtain ⟨N2, hN2⟩ : ∃ N, 2 + t = N := ⟨_, rfl⟩
  obtain ⟨N5, hN5⟩ : ∃ N, 5 + t = N := ⟨_, rfl⟩
  rw [hN3] at k3
  rw [hN2] at k2
  rw [hN5] at k5
  have hNs : (3 ≤ N3 ∧ N3 ≤ 5) ∧ (2 ≤ N2 ∧ N2 ≤ 4) ∧ (5 ≤ N5 ∧ N5 ≤ 7) := by omega
  have HNs := Lib.hid hNs
  have HN2 := Lib.hid (And.intro ht3' hN2)
  clear hn htw ht hm ht3 hN3 hN2 hN5 ht3' hNs
  go_enter Try.func7, Try.ntmps7
  go_wp2_with fail
  refine (HM.out _).mono ?_
  rintro e w1 ⟨rfl, rfl⟩
  go_wp2
  clear qm
  go_loopw [6, 7] (fun s6 s7 wr => ∃ k : Nat, s7 = .int .i64 k ∧ k ≤ m ∧ Hid (Made w1 wr s6 k)) (fun _ s7 _ => m - (intOf s7).toNat)
  case atStart => exact ⟨0, rfl, by omega, HM0⟩
  case round =>
    clear HM0
    obtain ⟨k, rfl, hk, hM⟩ := hrel
    have k0 : (0 : Int) ≤ (k : Int) := by omega
    by_cases hlt : k < m
    · have k1 : (k : Int) < (m : Int) := by omega
      have hT := fun W => text_two W (97 + k / 10) (48 + k % 10) (by omega) (by omega)
      have hSt : By.strOf [UInt8.ofNat (97 + k / 10), UInt8.ofNat (48 + k % 10)] = Pm.pS k := rfl
      simp only [hSt] at hT
      have f1 : ((97 + k / 10 : Nat) : Int) = 97 + (k : Int) / 10 := by omega
      have f2 : ((48 + k % 10 : Nat) : Int) = 48 + (k : Int) % 10 := by omega
      simp only [f1, f2] at hT
      obtain ⟨W1, hW1⟩ : ∃ W1, wr.alloc (.cells #[.int .u8 (97 + (k : Int) / 10), .int .u8 (48 + (k : Int) % 10)] 5) = W1 := ⟨_, rfl⟩
      have hT1 := hT wr
      rw [hW1] at hT1
      have hb1 : Below wr.heap.size wr W1 := by rw [← hW1]; exact (Below.refl _ _).alloc (Nat.le_refl _) _
      have HOW : Hid (Own kPrm W1 w1.heap.size 28 (fun _ => False) u6 k (Pm.pL k) ∧ Below w1.heap.size w1 W1 ∧ w1.heap.size ≤ W1.heap.size ∧ kPrm.rep W1 (fun _ => False) (Pm.pP (Pm.pS k)) [.string (Pm.pS k), .int .i64 1, .int .i64 0, .string ⟨#[]⟩, .string ⟨#[]⟩, .bool false, .slice none 0 0, .slice none 0 0, .int .i64 0, .int .i64 1, .int .i64 0, .int .i64 0, .int .i64 0, .slice none 0 0, .slice none 0 0]) := Lib.hid (by
        have hb := hM.out.below.trans (hb1.mono hM.out.below.size)
        exact ⟨hM.out.own.later hb1, hb, hb.size, Pm.pP_rep (by rw [Pm.pS_size]; unfold maxLen; omega)⟩)
      have HT : Hid (Pm.pL (k + 1) = Pm.pL k ++ [Pm.pP (Pm.pS k)]) := Lib.hid (Pm.pL_succ k)
      clear hM hT hSt f1 f2 hb1
      go_wp2_with ((at_builtin; refine Kd.wpList_push (W := W1) (F := fun _ => False) (B := w1.heap.size) (n := k) (v := u6) (xs := Pm.pL k) (y := Pm.pP (Pm.pS k)) (cs := [.string (Pm.pS k), .int .i64 1, .int .i64 0, .string ⟨#[]⟩, .string ⟨#[]⟩, .bool false, .slice none 0 0, .slice none 0 0, .int .i64 0, .int .i64 1, .int .i64 0, .int .i64 0, .int .i64 0, .slice none 0 0, .slice none 0 0]) Ap.prm_t rfl _ _ rfl rfl rfl rfl HOW.out.1 HOW.out.2.2.2 (by omega) (by omega) HOW.out.2.2.1 (fun _ h => h.elim) ?_; intro g cap w' hown hgrow hfr))
      have HM2 : Hid (Made w1 w' (.slice (some ⟨g, 0, none⟩) (k + 1) cap) (k + 1)) := Lib.hid ⟨by rw [HT.out]; exact hown, HOW.out.2.1.grown hgrow HOW.out.2.2.1 (fun j hj => (HOW.out.1.low j hj).1)⟩
      clear hown hgrow hfr
      go_wp2
      go_roundw
      case rel => exact ⟨k + 1, by go_num, by omega, HM2⟩
      case measure => simp [intOf]; omega
    · obtain rfl : k = m := by omega
      have k1 : ¬ (k : Int) < (k : Int) := by omega
      obtain ⟨A1, c1, rfl⟩ := hM.out.own.value
      obtain ⟨gl, rfl, hg1, hg2⟩ := hM.out.own.first (by omega)
      have hR := Pm.all_any (some ⟨gl, 0, none⟩) k c1 (Pm.pL k) wr hM.out.own.read (Pm.pL_slights k) (by omega)
      rw [Pm.pL_all (by omega)] at hR
      obtain ⟨b1, hb1⟩ : ∃ b, decide (k ≤ 60) = b := ⟨_, rfl⟩
      rw [hb1] at hR
      have HR := Lib.hid hR
      have HB1 := Lib.hid hb1
      clear hR hb1 hg1 hg2
      go_wp2_with fail
      refine HR.out.mono ?_
      rintro e w2 ⟨rfl, hb2⟩
      obtain ⟨M1, hM1⟩ : ∃ M : Nat, k - 1 = M := ⟨_, rfl⟩
      have qM : IntKind.i64.wrap ((k : Int) - 1) = (M1 : Int) := by rw [IntWalk.i64_in _ (by omega)]; omega
      obtain ⟨q, hq⟩ : ∃ q, Py.modN tw (M1 : Int) = q := ⟨_, rfl⟩
      have hqM := Py.modN_lt tw (M1 : Int) (by omega)
      have HK := Lib.hid (Py.mod_any tw (M1 : Int) w2 (by omega) (by omega))
      rw [hq] at hqM HK
      obtain ⟨K, hK⟩ : ∃ K, q + 1 = K := ⟨_, rfl⟩
      have qK : IntKind.i64.wrap (1 + (q : Int)) = (K : Int) := by rw [IntWalk.i64_in _ (by omega)]; omega
      have qq : IntKind.i64.wrap ((K : Int) - 1) = (q : Int) := by rw [IntWalk.i64_in _ (by omega)]; omega
      have hKk : K < k := by omega
      have K0 : (0 : Int) ≤ (K : Int) := by omega
      have K1 : (K : Int) < (k : Int) := by omega
      have q0 : (0 : Int) ≤ (q : Int) := by omega
      have q1 : (q : Int) < (k : Int) := by omega
      have HO2 := hM.out.own.later hb2
      have HBl := Lib.hid (hM.out.below.trans (hb2.mono hM.out.below.size))
      obtain ⟨gx, ox, lx, ex, _, _, _, a0, _⟩ := row_Prm HO2.read (Pm.pL_get (show q < k by omega))
      injection ex with ex
      injection ex with ex1 ex2
      subst ex1
      subst ex2
      rw [Nat.zero_add] at a0
      have a0' : w2.cell? ⟨gl, q * 15, none⟩ = some (.string (Pm.pS q)) := a0
      rename_i hrest
      clear a0 hrest
      obtain ⟨⟨u0, hu0⟩, hf0⟩ := HO2.cell (k := K) (j := 0) hKk (by decide)
      rw [show K * kPrm.size + 0 = K * 15 from rfl] at hu0 hf0
      have hput := HO2.turn (j := 0) (u := .string (Pm.pS q)) (x' := Pm.pP (Pm.pS q)) (Pm.pL_get hKk) (by decide) (fun h => Pm.pP_named (by rw [Pm.pS_size]; unfold maxLen; omega) h) (fun q hq => hq.elim)
      rw [show K * kPrm.size + 0 = K * 15 from rfl] at hput
      obtain ⟨W3, hW3⟩ : ∃ W3, w2.setCell ⟨gl, K * 15, none⟩ (.string (Pm.pS q)) = W3 := ⟨_, rfl⟩
      rw [hW3] at hput
      have HL3 : Hid (Row kPrm W3 (· < W3.heap.size) (some ⟨gl, 0, none⟩) k (Pm.pM k q) ∧ Below w1.heap.size w1 W3) := Lib.hid ⟨by
        have h := hput.1.read
        rw [← hK] at h
        exact h, HBl.out.grown hput.2 HBl.out.size fun k hk => by injection hk with hk; subst hk; exact (HO2.low _ rfl).1⟩
      have HqK := Lib.hid (show q + 1 < k by omega)
      have hW3' := Lib.hid hW3
      clear hput HO2 hb2 hM hM1 hq hqM hK HR
      go_wp2_with fail
      refine HK.out.mono ?_
      rintro e w4 ⟨rfl, rfl⟩
      obtain ⟨W4, hW4⟩ : ∃ W4, W3.alloc (.cells #[.string ⟨#[97]⟩, .string ⟨#[98]⟩, .string ⟨#[99]⟩, .string ⟨#[100]⟩, .string ⟨#[101]⟩] 9) = W4 := ⟨_, rfl⟩
      have hb4 : Below W3.heap.size W3 W4 := by rw [← hW4]; exact (Below.refl _ _).alloc (Nat.le_refl _) _
      have HC4 : Hid (Row kStr W4 (· < W4.heap.size) (some ⟨W3.heap.size, 0, none⟩) N3 (Pm.cL N3)) := Lib.hid (Pm.codes_to (by rw [← hW4]; exact Pm.codes_five) (by have := HNs.out; omega))
      have HL4 := Lib.hid (And.intro (row_on HL3.out.1 hb4) (HL3.out.2.trans (hb4.mono HL3.out.2.size)))
      have nb1 : (N3 : Int) ≤ 5 := by have := HNs.out; omega
      have nb0 : (0 : Int) ≤ (N3 : Int) := by omega
      have HMK := Lib.hid (fun W => Pm.make_parts HN2.out.1 W)
      clear hb4 HK HL3
      go_wp2_with fail
      refine (HM.out _).mono ?_
      rintro e w5 ⟨rfl, rfl⟩
      go_wp2_with fail
      obtain ⟨gc, hgc⟩ : ∃ g, W3.heap.size = g := ⟨_, rfl⟩
      rw [hgc] at HC4 ⊢
      obtain ⟨cs, hmk, hown⟩ := HMK.out w5
      rw [HN2.out.2] at hmk hown
      have HO := Lib.hid hown
      have n2b : (0 : Int) ≤ (N2 : Int) := by omega
      clear hgc hW4 hW3 hu0 hf0 a0' hown HMK
      refine (HM.out _).mono ?_
      rintro e w6 ⟨rfl, rfl⟩
      obtain ⟨W6, hW6⟩ : ∃ W6, w6.alloc (.cells cs 35) = W6 := ⟨_, rfl⟩
      obtain ⟨gp, hgp⟩ : ∃ g, w6.heap.size = g := ⟨_, rfl⟩
      obtain ⟨gb, hgb⟩ : ∃ g, W6.heap.size = g := ⟨_, rfl⟩
      obtain ⟨W7, hW7⟩ : ∃ W7, W6.alloc (.cells #[.string ⟨#[97]⟩, .int .i64 4, .int .i64 0, .string ⟨#[]⟩, .string ⟨#[]⟩, .bool false, .slice none 0 0, .slice none 0 0, .int .i64 0, .int .i64 0, .int .i64 0, .int .i64 0, .int .i64 0, .slice (some ⟨w6.heap.size, 0, none⟩) N2 N2, .slice none 0 0] 28) = W7 := ⟨_, rfl⟩
      have HC0 : Hid (Counted w6 W7 gp gb N2 0) := Lib.hid (by
        have hs : W6.heap.size = w6.heap.size + 1 := by rw [← hW6]; simp
        have h1 := HO.out w6.heap.size (Nat.le_refl _)
        rw [hW6] at h1
        have h2 : Below W6.heap.size W6 W7 := by rw [← hW7]; exact (Below.refl _ _).alloc (Nat.le_refl _) _
        have h0 : Below w6.heap.size w6 W6 := by rw [← hW6]; exact (Below.refl _ _).alloc (Nat.le_refl _) _
        have h3 := h1.later h2
        rw [hgp] at h3
        exact ⟨by rw [hgp]; exact h3, by rw [← hW7, ← hgb, hgp]; exact Qu.Blk.new W6 _ _, by omega, h0.trans (h2.mono h0.size)⟩)
      have HG := Lib.hid (And.intro hW6 (And.intro hgp (And.intro hgb hW7)))
      clear hgp hgb hW7 hW6
      have hW6 := HG.out.1
      go_wp2_with fail
      rw [HG.out.2.2.2, HG.out.2.1, HG.out.2.2.1]
      clear hW6 HG HO hmk
      go_loopw [67] (fun s67 wx => ∃ i : Nat, s67 = .int .i64 i ∧ i ≤ N2 ∧ Hid (Counted w6 wx gp gb N2 i)) (fun s67 _ => N2 - (intOf s67).toNat)
      case atStart => exact ⟨0, rfl, by omega, HC0⟩
      case round =>
        clear HC0
        obtain ⟨i, rfl, hi, hC⟩ := hrel
        have i0 : (0 : Int) ≤ (i : Int) := by omega
        have hN24 : N2 ≤ 4 := by have := HNs.out; omega
        by_cases hlt : i < N2
        · have i1 : (i : Int) < (N2 : Int) := by omega
          have e13 := hC.out.blk.cell 13
          obtain ⟨⟨u9, hu9⟩, hf9⟩ := hC.out.own.cell (k := i) (j := 2) hlt (by decide)
          rw [show i * kPrt.size + 2 = i * 3 + 2 from rfl] at hu9 hf9
          have hput := hC.out.own.turn (j := 2) (u := .int .i64 1) (x' := Pm.prtN 1) (Pm.bL_get hlt) (by decide) (fun h => Pm.prt_counted h) (fun q hq => hq.elim)
          rw [show i * kPrt.size + 2 = i * 3 + 2 from rfl, Pm.bL_set hlt] at hput
          have HC2 : Hid (Counted w6 (wr.setCell ⟨gp, i * 3 + 2, none⟩ (.int .i64 1)) gp gb N2 (i + 1)) := Lib.hid ⟨hput.1, hC.out.blk.grown hput.2 (fun e => hC.out.ne (by injection e)), hC.out.ne, hC.out.below.grown hput.2 hC.out.below.size fun k hk => by injection hk with hk; subst hk; exact (hC.out.own.low _ rfl).1⟩
          clear hput hC
          go_wp2
          go_roundw
          case rel => exact ⟨i + 1, by go_num, by omega, HC2⟩
          case measure => simp [intOf]; omega
        · obtain rfl : i = N2 := by omega
          have i1 : ¬ (i : Int) < (i : Int) := by omega
          obtain ⟨gt, hgt⟩ : ∃ g, wr.heap.size = g := ⟨_, rfl⟩
          obtain ⟨W9, hW9⟩ : ∃ W9, wr.alloc (.cells #[.string ⟨#[97]⟩, .int .i64 6, .int .i64 0, .string ⟨#[]⟩, .string ⟨#[]⟩, .bool false, .slice none 0 0, .slice none 0 0, .int .i64 0, .int .i64 0, .int .i64 0, .int .i64 0, .int .i64 0, .slice none 0 0, .slice none 0 0] 28) = W9 := ⟨_, rfl⟩
          have HT0 : Hid (∃ A c, Stepped wr W9 gt A 0 c) := Lib.hid ⟨none, 0, Own.nil _ _ _ _ _, by rw [← hW9, ← hgt]; exact Qu.Blk.new wr _ _, by omega, by rw [← hW9]; exact (Below.refl _ _).alloc (Nat.le_refl _) _⟩
          have HG := Lib.hid (And.intro hgt hW9)
          clear hgt hW9
          obtain ⟨wo, hwo⟩ : ∃ wo : World, wo = wr := ⟨_, rfl⟩
          subst hwo
          go_wp2_with fail
          rw [HG.out.1, HG.out.2]
          clear HG
          go_loopw [14] (fun s14 wx => ∃ i : Nat, s14 = .int .i64 i ∧ i ≤ N5 ∧ Hid (∃ A c, Stepped wo wx gt A i c)) (fun s14 _ => N5 - (intOf s14).toNat)
          case atStart => exact ⟨0, rfl, by omega, HT0⟩
          case round =>
            clear HT0
            obtain ⟨j, rfl, hj, hT⟩ := hrel
            have j0 : (0 : Int) ≤ (j : Int) := by omega
            obtain ⟨A, c, hS⟩ := hT.out
            have HS := Lib.hid hS
            clear hS hT
            by_cases hjt : j < N5
            · have j1 : (j : Int) < (N5 : Int) := by omega
              have e14 := HS.out.blk.cell 14
              have j7 : j ≤ 7 := by have := HNs.out; omega
              have hrep : Hid (∀ W, kTir.rep W (fun _ => False) ⟨(j : Int), 0, 1⟩ [.int .i64 (j : Int), .int .i64 0, .int .i64 1]) := Lib.hid fun W => Ap.Tir_rep.2 ⟨rfl, ⟨by show _ ≤ (j : Int) ∧ (j : Int) ≤ _; omega, by show _ ≤ (0 : Int) ∧ (0 : Int) ≤ _; omega, by show _ ≤ (1 : Int) ∧ (1 : Int) ≤ _; omega⟩⟩
              go_wp2_with fail
              refine (HM.out _).mono ?_
              rintro e wv ⟨rfl, rfl⟩
              have hBsz : wo.heap.size ≤ wv.heap.size := HS.out.below.size
              go_wp2_with ((at_builtin; refine Kd.wpList_push (W := wv) (F := fun _ => False) (B := wo.heap.size) (n := j) (v := .slice A j c) (xs := Pm.tL j) (y := ⟨(j : Int), 0, 1⟩) (cs := [.int .i64 (j : Int), .int .i64 0, .int .i64 1]) Ap.tir_t rfl _ _ rfl rfl rfl rfl HS.out.own (hrep.out _) (by omega) (by omega) hBsz (fun _ h => h.elim) ?_; intro g1 cap w9 hown hgrow hfr; have HE := Lib.hid (HS.out.next hown hgrow); have y14 := HE.out.1.cell 14; have yf := HE.out.1.frozen 14))
              have HE2 := Lib.hid HE.out.2
              clear hown hgrow hfr HE y14 yf e14
              go_roundw
              case rel => exact ⟨j + 1, by go_num, by omega, Lib.hid ⟨_, _, HE2.out⟩⟩
              case measure => simp [intOf]; omega
            · obtain rfl : j = N5 := by omega
              have j1 : ¬ (j : Int) < (j : Int) := by omega
              go_wp2_with fail
              refine (HM.out _).mono ?_
              rintro e wv ⟨rfl, rfl⟩
              have hZ : Hid (Stands w1 wv gl k 0 q gc N3 gb gp i gt A j c) := Lib.hid (by
                have h1 := hC.out.below
                have h2 := HS.out.below
                exact ⟨row_on (row_on HL4.out.1 h1) h2, row_on (row_on HC4.out h1) h2, ⟨_, hC.out.own.later h2⟩, hC.out.blk.below h2, ⟨_, HS.out.own⟩, HS.out.blk, (HL4.out.2.trans (h1.mono HL4.out.2.size)).trans (h2.mono (by have := HL4.out.2.size; have := h1.size; omega))⟩)
              clear HS hC HL4 HC4
              obtain ⟨b2, hb2⟩ : ∃ b, decide (N3 ≤ 4) = b := ⟨_, rfl⟩
              obtain ⟨b3, hb3⟩ : ∃ b, decide (i ≤ 3) = b := ⟨_, rfl⟩
              obtain ⟨b4, hb4⟩ : ∃ b, decide (j ≤ 6) = b := ⟨_, rfl⟩
              have d1 : decide ((k : Int) ≤ 60) = b1 := by rw [← HB1.out]; congr 1; simp; omega
              have d2 : decide ((N3 : Int) ≤ 4) = b2 := by rw [← hb2]; congr 1; simp; omega
              have d3 : decide ((i : Int) ≤ 3) = b3 := by rw [← hb3]; congr 1; simp; omega
              have d4 : decide ((j : Int) ≤ 6) = b4 := by rw [← hb4]; congr 1; simp; omega
              have e1 : (b1 == b1) = true := by cases b1 <;> rfl
              have e2 : (b2 == b2) = true := by cases b2 <;> rfl
              have e3 : (b3 == b3) = true := by cases b3 <;> rfl
              have e4 : (b4 == b4) = true := by cases b4 <;> rfl
              have HA : Hid (∀ u, Below wv.heap.size wv u → Calls Try.prog 9 #[] u fun e w' => e = .returned (.bool true) ∧ Below wv.heap.size wv w') := Lib.hid fun u hu => (Pm.awake_any u).mono fun e w' he => ⟨he.1, Hk.andThen hu he.2⟩
              have HL : Hid (∀ u, Below wv.heap.size wv u → Calls Try.prog 19 #[.slice (some ⟨gl, 0, none⟩) k c1] u fun e w' => e = .returned (.bool false) ∧ Below wv.heap.size wv w') := Lib.hid fun u hu => (Pm.all_any (some ⟨gl, 0, none⟩) k c1 (Pm.pM k q) u (hZ.out.later hu).rows (Pm.pM_slights k q) (by omega)).mono fun e w' he => ⟨by rw [he.1, Pm.pM_no HqK.out], Hk.andThen hu he.2⟩
              have HC : Hid (∀ u, Below wv.heap.size wv u → Calls Try.prog 21 #[.slice (some ⟨gc, 0, none⟩) N3 5] u fun e w' => e = .returned (.bool b2) ∧ Below wv.heap.size wv w') := Lib.hid fun u hu => (Pm.codes_any (some ⟨gc, 0, none⟩) N3 5 (Pm.cL N3) _ u (hZ.out.later hu).codes (by have := HNs.out; omega)).mono fun e w' he => ⟨by rw [he.1, Pm.cL_names (by have := HNs.out; omega), hb2], by rw [he.2]; exact hu⟩
              have HR1 : Hid (∀ u, Below wv.heap.size wv u → Calls Try.prog 11 #[.agg #[.string ⟨#[97]⟩, .int .i64 4, .int .i64 0, .string ⟨#[]⟩, .string ⟨#[]⟩, .bool false, .slice none 0 0, .slice none 0 0, .int .i64 0, .int .i64 0, .int .i64 0, .int .i64 0, .int .i64 0, .slice (some ⟨gp, 0, none⟩) i i, .slice none 0 0]] u fun e w' => e = .returned (.bool b3) ∧ Below wv.heap.size wv w') := Lib.hid fun u hu => by
                obtain ⟨B, hB⟩ := (hZ.out.later hu).bundle
                have hh := Pm.bP_holds hB
                exact (Pm.promo_any _ _ u hh ((Pm.bP_slight (Nat.le_refl _) (by have := HNs.out; omega)).small hh)).mono fun e w' he => ⟨by rw [he.1, Pm.bP_is (by have := HNs.out; omega), hb3], Hk.andThen hu he.2⟩
              have HR2 : Hid (∀ u, Below wv.heap.size wv u → Calls Try.prog 11 #[.agg #[.string ⟨#[97]⟩, .int .i64 6, .int .i64 0, .string ⟨#[]⟩, .string ⟨#[]⟩, .bool false, .slice none 0 0, .slice none 0 0, .int .i64 0, .int .i64 0, .int .i64 0, .int .i64 0, .int .i64 0, .slice none 0 0, .slice A j c]] u fun e w' => e = .returned (.bool b4) ∧ Below wv.heap.size wv w') := Lib.hid fun u hu => by
                obtain ⟨B, hB⟩ := (hZ.out.later hu).tiers
                have hh := Pm.tP_holds hB
                exact (Pm.promo_any _ _ u hh ((Pm.tP_slight (by have := HNs.out; omega)).small hh)).mono fun e w' he => ⟨by rw [he.1, Pm.tP_is (by have := HNs.out; omega) (by have := HNs.out; omega), hb4], Hk.andThen hu he.2⟩
              have f0 : ∀ u, Below wv.heap.size wv u → u.cell? ⟨gb, 0, none⟩ = some (.string ⟨#[97]⟩) := fun u hu => (hZ.out.later hu).bbox.cell 0
              have f1 : ∀ u, Below wv.heap.size wv u → u.cell? ⟨gb, 1, none⟩ = some (.int .i64 4) := fun u hu => (hZ.out.later hu).bbox.cell 1
              have f2 : ∀ u, Below wv.heap.size wv u → u.cell? ⟨gb, 2, none⟩ = some (.int .i64 0) := fun u hu => (hZ.out.later hu).bbox.cell 2
              have f3 : ∀ u, Below wv.heap.size wv u → u.cell? ⟨gb, 3, none⟩ = some (.string ⟨#[]⟩) := fun u hu => (hZ.out.later hu).bbox.cell 3
              have f4 : ∀ u, Below wv.heap.size wv u → u.cell? ⟨gb, 4, none⟩ = some (.string ⟨#[]⟩) := fun u hu => (hZ.out.later hu).bbox.cell 4
              have f5 : ∀ u, Below wv.heap.size wv u → u.cell? ⟨gb, 5, none⟩ = some (.bool false) := fun u hu => (hZ.out.later hu).bbox.cell 5
              have f6 : ∀ u, Below wv.heap.size wv u → u.cell? ⟨gb, 6, none⟩ = some (.slice none 0 0) := fun u hu => (hZ.out.later hu).bbox.cell 6
              have f7 : ∀ u, Below wv.heap.size wv u → u.cell? ⟨gb, 7, none⟩ = some (.slice none 0 0) := fun u hu => (hZ.out.later hu).bbox.cell 7
              have f8 : ∀ u, Below wv.heap.size wv u → u.cell? ⟨gb, 8, none⟩ = some (.int .i64 0) := fun u hu => (hZ.out.later hu).bbox.cell 8
              have f9 : ∀ u, Below wv.heap.size wv u → u.cell? ⟨gb, 9, none⟩ = some (.int .i64 0) := fun u hu => (hZ.out.later hu).bbox.cell 9
              have f10 : ∀ u, Below wv.heap.size wv u → u.cell? ⟨gb, 10, none⟩ = some (.int .i64 0) := fun u hu => (hZ.out.later hu).bbox.cell 10
              have f11 : ∀ u, Below wv.heap.size wv u → u.cell? ⟨gb, 11, none⟩ = some (.int .i64 0) := fun u hu => (hZ.out.later hu).bbox.cell 11
              have f12 : ∀ u, Below wv.heap.size wv u → u.cell? ⟨gb, 12, none⟩ = some (.int .i64 0) := fun u hu => (hZ.out.later hu).bbox.cell 12
              have f13 : ∀ u, Below wv.heap.size wv u → u.cell? ⟨gb, 13, none⟩ = some (.slice (some ⟨gp, 0, none⟩) i i) := fun u hu => (hZ.out.later hu).bbox.cell 13
              have f14 : ∀ u, Below wv.heap.size wv u → u.cell? ⟨gb, 14, none⟩ = some (.slice none 0 0) := fun u hu => (hZ.out.later hu).bbox.cell 14
              have r0 : ∀ u, Below wv.heap.size wv u → u.cell? ⟨gt, 0, none⟩ = some (.string ⟨#[97]⟩) := fun u hu => (hZ.out.later hu).tbox.cell 0
              have r1 : ∀ u, Below wv.heap.size wv u → u.cell? ⟨gt, 1, none⟩ = some (.int .i64 6) := fun u hu => (hZ.out.later hu).tbox.cell 1
              have r2 : ∀ u, Below wv.heap.size wv u → u.cell? ⟨gt, 2, none⟩ = some (.int .i64 0) := fun u hu => (hZ.out.later hu).tbox.cell 2
              have r3 : ∀ u, Below wv.heap.size wv u → u.cell? ⟨gt, 3, none⟩ = some (.string ⟨#[]⟩) := fun u hu => (hZ.out.later hu).tbox.cell 3
              have r4 : ∀ u, Below wv.heap.size wv u → u.cell? ⟨gt, 4, none⟩ = some (.string ⟨#[]⟩) := fun u hu => (hZ.out.later hu).tbox.cell 4
              have r5 : ∀ u, Below wv.heap.size wv u → u.cell? ⟨gt, 5, none⟩ = some (.bool false) := fun u hu => (hZ.out.later hu).tbox.cell 5
              have r6 : ∀ u, Below wv.heap.size wv u → u.cell? ⟨gt, 6, none⟩ = some (.slice none 0 0) := fun u hu => (hZ.out.later hu).tbox.cell 6
              have r7 : ∀ u, Below wv.heap.size wv u → u.cell? ⟨gt, 7, none⟩ = some (.slice none 0 0) := fun u hu => (hZ.out.later hu).tbox.cell 7
              have r8 : ∀ u, Below wv.heap.size wv u → u.cell? ⟨gt, 8, none⟩ = some (.int .i64 0) := fun u hu => (hZ.out.later hu).tbox.cell 8
              have r9 : ∀ u, Below wv.heap.size wv u → u.cell? ⟨gt, 9, none⟩ = some (.int .i64 0) := fun u hu => (hZ.out.later hu).tbox.cell 9
              have r10 : ∀ u, Below wv.heap.size wv u → u.cell? ⟨gt, 10, none⟩ = some (.int .i64 0) := fun u hu => (hZ.out.later hu).tbox.cell 10
              have r11 : ∀ u, Below wv.heap.size wv u → u.cell? ⟨gt, 11, none⟩ = some (.int .i64 0) := fun u hu => (hZ.out.later hu).tbox.cell 11
              have r12 : ∀ u, Below wv.heap.size wv u → u.cell? ⟨gt, 12, none⟩ = some (.int .i64 0) := fun u hu => (hZ.out.later hu).tbox.cell 12
              have r13 : ∀ u, Below wv.heap.size wv u → u.cell? ⟨gt, 13, none⟩ = some (.slice none 0 0) := fun u hu => (hZ.out.later hu).tbox.cell 13
              have r14 : ∀ u, Below wv.heap.size wv u → u.cell? ⟨gt, 14, none⟩ = some (.slice A j c) := fun u hu => (hZ.out.later hu).tbox.cell 14
              clear hb2 hb3 hb4
              go_wp2_with fail
              go_region_held3 (fun u => Below wv.heap.size wv u)
                (first
                  | assumption
                  | exact (Below.refl _ _).drew
                  | exact Below.refl _ _)
                (first
                  | (go_at_call 9; with_reducible refine (HA.out _ (by first | assumption | exact (Below.refl _ _).drew)).mono ?_; rintro e wa ⟨rfl, ha⟩)
                  | (go_at_call 19; with_reducible refine (HL.out _ (by first | assumption | exact (Below.refl _ _).drew)).mono ?_; rintro e wb ⟨rfl, hb⟩)
                  | (go_at_call 21; with_reducible refine (HC.out _ (by first | assumption | exact (Below.refl _ _).drew)).mono ?_; rintro e wd ⟨rfl, hd⟩)
                  | (go_at_call 11; with_reducible refine (HR1.out _ (by first | assumption | exact (Below.refl _ _).drew)).mono ?_; rintro e we ⟨rfl, he⟩)
                  | (go_at_call 11; with_reducible refine (HR2.out _ (by first | assumption | exact (Below.refl _ _).drew)).mono ?_; rintro e wf ⟨rfl, hf⟩))
              have HE := Lib.hid (hZ.out.later hf).below
              clear ha hb hd he hf HA HL HC HR1 HR2 hZ f0 r0 f1 r1 f2 r2 f3 r3 f4 r4 f5 r5 f6 r6 f7 r7 f8 r8 f9 r9 f10 r10 f11 r11 f12 r12 f13 r13 f14 r14
              go_wp2
              go_ret
              exact ⟨rfl, HE.out⟩

set_option maxRecDepth 100000 in
theorem lifted (os : Os) (started : os.Started) (H : Type) (enc : TypeId × Value → H) :
    ReturnsInHanded {} Try.checked os 7 .any (Rows.promoManySpec.pre6 enc Try.prog Try.f7 Rows.promoManyRow.domain false) (Rows.promoManySpec.post enc Try.prog Try.f7 false true false false) := by
  refine returnsInHanded_of_change (C := Try.checked) own started (by kernel_rfl) Try.func7
    (ChangeSpec.witness6 (enc := enc) (C := Try.checked) false ⟨#[], #[.int .i64 0, .int .i64 0], []⟩ 8 (by kernel_rfl) (by kernel_rfl) (by kernel_rfl) (by kernel_rfl)) ?_
  intro W base args ds gs before hval0 hW hcnd _
  have hval : ∀ (j : Nat) t v, Try.f7.params[j]? = some t → args[j]? = some v → Value.okWide Try.prog W .any base t v := hval0
  have hW' := hW
  obtain ⟨p, q, hA0, hV, rfl, hfz, hnd⟩ := hW
  have hA : DataW.TrodAll enc Try.prog W 0 (fun _ => true) true Try.f7.params.toList args.toList ds p := hA0
  rw [Try.params7] at hA hval
  obtain ⟨v0, vs0, d0, ds0, p0, q0, hargs, rfl, rfl, h0, r0⟩ := trodAll_cons hA
  obtain ⟨v1, vs1, d1, ds1, p1, q1, rfl, rfl, rfl, h1, r1⟩ := trodAll_cons r0
  obtain ⟨rfl, rfl, rfl⟩ := trodAll_nil r1
  obtain rfl : args = #[v0, v1] := by cases args; simp_all
  obtain ⟨a0, rfl, _, _, w0⟩ := open_int Try.underlying3 (hval 0 3 v0 rfl rfl) h0
  obtain ⟨a1, rfl, _, _, w1⟩ := open_int Try.underlying3 (hval 1 3 v1 rfl rfl) h1
  refine (walk W a0 w0 a1 w1).mono fun e W' ⟨he, hb⟩ => ?_
  subst he
  exact ⟨_, rfl, Hk.closeLaw (tb := 4) (by kernel_rfl) (by kernel_rfl) rfl rfl rfl Try.underlying4 hW' hb⟩

theorem over : Rows.promoManyRow.holds Try.pinned (OpenSpec.ofChange Rows.promoManySpec) :=
  OpenClaim.holds_of_wide 7 Try.f7 rfl rfl rfl rfl rfl rfl rfl ⟨rfl, rfl, rfl, rfl, rfl⟩ rfl rfl rfl rfl rfl (by kernel_rfl) Try.func7 (by kernel_rfl)
    (of_decide_eq_true (by kernel_rfl)) (by unfold Func.isWrapper; first | (rw [if_pos (by decide +kernel)]; kernel_rfl) | (rw [if_neg (by decide +kernel)]; exact ⟨rfl, rfl⟩))
    (fun os started H enc _ => lifted os started H enc)

/-- The statement. -/
theorem proved : Rows.PromoManySaid :=
  over
end Go.Proofs.Ytgimcleeamlgcaa.promoMany
