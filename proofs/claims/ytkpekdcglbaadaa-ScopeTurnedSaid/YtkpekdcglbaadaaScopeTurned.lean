/- P11.1: names that rise, each once, and so many, may be; one turned, or one more, may not; for every three ints and bool. No conditions. -/
import Derived.Test.YtkpekdcglbaadaaScK
import Derived.Test.YtkpekdcglbaadaaPyI
import Derived.Test.YtkpekdcglbaadaaBa
set_option maxRecDepth 100000
namespace Go.Proofs.Ytkpekdcglbaadaa.scopeTurned
open Go.ChangeShapes Go.WideShapes Go.ChangeAt Go.RowKit
open It (Itm kItem row_item row_ok item_rep)
open Ap (Scp kScp row_Scp Scp_rep)
open Kd (Kind Row Own Cells Fit Agree Lst Sl kStr kInt kList row_str Deep)
set_option maxRecDepth 100000
set_option linter.unusedVariables false

theorem own : ownKnob Try.prog.godebug = none := by kernel_rfl

def twoS (i : Nat) : ByteArray := By.strOf [UInt8.ofNat 97, UInt8.ofNat (97 + i)]

def tL (n : Nat) : List ByteArray := (List.range n).map twoS

theorem tL_length (n : Nat) : (tL n).length = n := by simp [tL]

theorem tL_succ (n : Nat) : tL (n + 1) = tL n ++ [twoS n] := by simp [tL, List.range_succ]

theorem tL_get {n k : Nat} (h : k < n) : (tL n)[k]? = some (twoS k) := by
  unfold tL
  rw [List.getElem?_map, List.getElem?_range h]
  rfl

theorem tL_at {n k : Nat} {x : ByteArray} (h : (tL n)[k]? = some x) : k < n ∧ x = twoS k := by
  have hl := (List.getElem?_eq_some_iff.1 h).1
  rw [tL_length] at hl
  rw [tL_get hl] at h
  exact ⟨hl, by simpa using h.symm⟩

theorem twoS_size (i : Nat) : (twoS i).size ≤ maxLen := by unfold twoS; rw [By.strOf_size]; show 2 ≤ maxLen; decide

theorem twoS_name {i : Nat} (h : i < 26) : Sr.name (twoS i) = true := by
  unfold Sr.name Sr.nameL twoS
  rw [← ByteArray.toList_eq, By.strOf_list]
  have h1 : Sr.plain ((97 : Nat) : Int) = true := by decide
  have h2 : Sr.plain (((97 + i : Nat)) : Int) = true := by unfold Sr.plain; simp; omega
  have e1 : (UInt8.ofNat 97).toNat = 97 := By.toNat_small (by omega)
  have e2 : (UInt8.ofNat (97 + i)).toNat = 97 + i := By.toNat_small (by omega)
  simp only [List.all_cons, List.all_nil, List.length_cons, List.length_nil, e1, e2, h1, h2]
  rfl

theorem twoS_lt {i j : Nat} (h : i < j) (hj : j < 26) : Sr.lt (twoS i) (twoS j) = true := by
  unfold Sr.lt twoS
  rw [By.strOf_list, By.strOf_list]
  generalize UInt8.ofNat 97 = c
  unfold Op.bytesLess Op.bytesLess Op.bytesLess
  simp only [Bool.or_eq_true, decide_eq_true_eq, Bool.and_eq_true, beq_iff_eq, UInt8.lt_iff_toNat_lt, ← UInt8.toNat_inj]
  rw [By.toNat_small (by omega), By.toNat_small (by omega)]
  exact .inr ⟨trivial, .inl (by omega)⟩

theorem t_names {t : Nat} (h : t < 22) : Sc.namesB (tL (1 + t)) 20 = decide (1 + (t : Int) ≤ 20) := by
  by_cases h5 : 1 + (t : Int) ≤ 20
  · rw [decide_eq_true h5]
    refine Sc.namesB_yes ⟨by rw [tL_length]; omega, fun i x hx => ?_, fun i x y hx hy => ?_⟩
    · obtain ⟨h1, rfl⟩ := tL_at hx
      exact twoS_name (by omega)
    · obtain ⟨h1, rfl⟩ := tL_at hx
      obtain ⟨h2, rfl⟩ := tL_at hy
      exact twoS_lt (by omega) (by omega)
  · rw [decide_eq_false h5]
    exact Sc.namesB_no fun g => by
      have := g.few
      rw [tL_length] at this
      omega

theorem t_bad {t k : Nat} (hk : k < 1 + t) : Sc.namesB ((tL (1 + t)).set k ⟨#[65]⟩) 20 = false :=
  Sc.bad_name (k := k) (a := ⟨#[65]⟩) (by rw [List.getElem?_set_self (by rw [tL_length]; exact hk)]) (by decide +kernel)

theorem int_zero (k : Nat) : ((k : Int) == 0) = decide (k = 0) := by
  by_cases h : k = 0
  · subst h; rfl
  · rw [decide_eq_false h]; exact beq_eq_false_iff_ne.2 (by omega)

theorem t_dup {t k : Nat} (h : t < 22) (hk : k < 1 + t) : Sc.namesB ((tL (1 + t)).set k (twoS 0)) 20 = (decide (1 + (t : Int) ≤ 20) && ((k : Int) == 0)) := by
  rw [int_zero]
  by_cases h0 : k = 0
  · subst h0
    rw [decide_eq_true rfl, Bool.and_true, ← t_names h]
    congr 1
    apply List.ext_getElem?
    intro j
    rw [List.getElem?_set]
    split
    · rename_i e
      subst e
      rw [tL_get (by omega)]
      simp [tL_length]
    · rfl
  · rw [decide_eq_false h0, Bool.and_false]
    refine Sc.namesB_no fun g => ?_
    have h1 := g.rise.lt (i := 0) (j := k) (a := twoS 0) (b := twoS 0) (by omega) (by rw [List.getElem?_set_ne (by omega), tL_get (by omega)]) (by rw [List.getElem?_set_self (by rw [tL_length]; exact hk)])
    rw [Sr.lt_irrefl] at h1
    cases h1

theorem t_swap {t k : Nat} (h : t < 22) (hk : k < 1 + t) : Sc.namesB (((tL (1 + t)).set k (twoS 0)).set 0 (twoS k)) 20 = (decide (1 + (t : Int) ≤ 20) && ((k : Int) == 0)) := by
  rw [int_zero]
  by_cases h0 : k = 0
  · subst h0
    rw [decide_eq_true rfl, Bool.and_true, ← t_names h, List.set_set]
    congr 1
    apply List.ext_getElem?
    intro j
    rw [List.getElem?_set]
    split
    · rename_i e
      subst e
      rw [tL_get (by omega)]
      simp [tL_length]
    · rfl
  · rw [decide_eq_false h0, Bool.and_false]
    refine Sc.namesB_no fun g => ?_
    have h1 := g.rise.lt (i := 0) (j := k) (a := twoS k) (b := twoS 0) (by omega) (by rw [List.getElem?_set_self (by rw [List.length_set, tL_length]; omega)]) (by rw [List.getElem?_set_ne (by omega), List.getElem?_set_self (by rw [tL_length]; exact hk)])
    rw [Sr.lt_asymm (twoS_lt (show 0 < k by omega) (by omega))] at h1
    cases h1

theorem text_two (W : World) (b : Nat) (hb : b < 256) : (convert 45 9 (.slice (some ⟨W.heap.size, 0, none⟩) 2 2)).run Try.prog (W.alloc (.cells #[.int .u8 97, .int .u8 (b : Int)] 5)) = .ok (.string (By.strOf [UInt8.ofNat 97, UInt8.ofNat b])) (W.alloc (.cells #[.int .u8 97, .int .u8 (b : Int)] 5)) := by
  have h : By.Bys (W.alloc (.cells #[.int .u8 97, .int .u8 (b : Int)] 5)) (W.heap.size + 1) (some ⟨W.heap.size, 0, none⟩) 2 [UInt8.ofNat 97, UInt8.ofNat b] := ⟨rfl, fun k c hk => by
    refine ⟨W.heap.size, 0, rfl, by omega, ?_⟩
    have hl := (List.getElem?_eq_some_iff.1 hk).1
    rw [Nat.zero_add, Qu.Blk.cell (Qu.Blk.new W 5 _) k]
    obtain e | e : k = 0 ∨ k = 1 := by simp at hl; omega
    · subst e
      obtain rfl : UInt8.ofNat 97 = c := by simpa using hk
      rfl
    · subst e
      obtain rfl : UInt8.ofNat b = c := by simpa using hk
      rw [By.toNat_small hb]; rfl⟩
  exact By.run_text (P := Try.prog) (c := 2) 45 9 5 Try.underlying45 Try.underlying5 Try.underlying9 h

/-- Texts of the call's own. -/
structure Txt (w wr : World) (v : Value) (n : Nat) (l : List ByteArray) : Prop where
  own : Own kStr wr w.heap.size 9 (fun _ => False) v n l
  below : Below w.heap.size w wr

theorem Txt.at {w wr : World} {g n c k : Nat} {l : List ByteArray} {x : ByteArray} (h : Txt w wr (.slice (some ⟨g, 0, none⟩) n c) n l) (hk : l[k]? = some x) : wr.cell? ⟨g, k, none⟩ = some (.string x) ∧ wr.frozen? ⟨g, k, none⟩ = false := by
  obtain ⟨gg, oo, hA, _, _, _, a0⟩ := row_str h.own.read hk
  injection hA with hA
  injection hA with hA1 hA2
  subst hA1 hA2
  rw [Nat.zero_add] at a0
  obtain ⟨_, cs, ho, _⟩ := h.own
  exact ⟨a0, ho.frozenAt k⟩

theorem Txt.put {w wr : World} {g n c k : Nat} {l : List ByteArray} {s : ByteArray} (h : Txt w wr (.slice (some ⟨g, 0, none⟩) n c) n l) (hk : k < n) (hs : s.size ≤ maxLen) : Txt w (wr.setCell ⟨g, k, none⟩ (.string s)) (.slice (some ⟨g, 0, none⟩) n c) n (l.set k s) := by
  have hl : l.length = n := h.own.1
  obtain ⟨x, hx⟩ : ∃ x, l[k]? = some x := ⟨_, List.getElem?_eq_getElem (by omega)⟩
  have h1 := (Own.put (k := k) (j := 0) (x := x) (x' := s) (a := [.string x]) (u := .string s) h.own hx (fun h => h.1) (by decide) ⟨rfl, hs⟩ (fun _ h => h.elim)).1
  rw [show k * kStr.size + 0 = k by show k * 1 + 0 = k; omega] at h1
  obtain ⟨g', hg, hlo, _⟩ := h.own.first (by omega)
  injection hg with hg
  injection hg with hg1
  subst hg1
  exact ⟨h1, h.below.setCell hlo _⟩

set_option maxHeartbeats 2000000 in
theorem walk (w : World) (n : Int) (hn : (Lit.int .i64 n).wf = true) (at_ : Int) (hat : (Lit.int .i64 at_).wf = true) (how : Int) (hhow : (Lit.int .i64 how).wf = true) (cats : Bool) :
    Calls Try.prog 6 #[.int .i64 n, .int .i64 at_, .int .i64 how, .bool cats] w fun e w' => e = .returned (.bool true) ∧ Below w.heap.size w w' := by
  obtain ⟨t, ht⟩ : ∃ t, Py.modN n 22 = t := ⟨_, rfl⟩
  have ht22 := Py.modN_lt n 22 (by omega)
  have HM := Lib.hid (Py.mod_any n 22 w (by omega) (by omega))
  rw [ht] at ht22 HM
  obtain ⟨k, hk⟩ : ∃ k, Py.modN at_ (1 + (t : Int)) = k := ⟨_, rfl⟩
  have hkt := Py.modN_lt at_ (1 + (t : Int)) (by omega)
  have HK := Lib.hid (fun W => Py.mod_any at_ (1 + (t : Int)) W (by omega) (by omega))
  rw [hk] at hkt
  simp only [hk] at HK
  obtain ⟨q, hq⟩ : ∃ q, Py.modN how 4 = q := ⟨_, rfl⟩
  have hq4 := Py.modN_lt how 4 (by omega)
  have HH := Lib.hid (fun W => Py.mod_any how 4 W (by omega) (by omega))
  rw [hq] at hq4
  simp only [hq] at HH
  have HM0 : Hid (Txt w w (.slice none 0 0) 0 (tL 0)) := Lib.hid ⟨Own.nil _ _ _ _ _, Below.refl _ _⟩
  have HKT : Hid (k < 1 + t) := Lib.hid (by omega)
  obtain ⟨ok, hok⟩ : ∃ ok, decide (1 + (t : Int) ≤ 20) = ok := ⟨_, rfl⟩
  have HN := Lib.hid (And.intro (t_names (t := t) (by omega)) (And.intro (t_bad HKT.out) (And.intro (t_dup (by omega) HKT.out) (t_swap (by omega) HKT.out))))
  clear hn hat hhow ht hk hq
  go_enter Try.func6, Try.ntmps6
  go_wp2_with fail
  refine HM.out.mono ?_
  rintro e w1 ⟨rfl, rfl⟩
  go_wp2
  go_loopw [9, 10] (fun s9 s10 wr => ∃ i : Nat, s10 = .int .i64 i ∧ i ≤ 1 + t ∧ Hid (Txt w1 wr s9 i (tL i))) (fun _ s10 _ => 1 + t - (intOf s10).toNat)
  case atStart => exact ⟨0, rfl, by omega, HM0⟩
  case round =>
    clear HM0
    obtain ⟨i, rfl, hi, hM⟩ := hrel
    have i0 : (0 : Int) ≤ (i : Int) := by omega
    by_cases hlt : i < 1 + t
    · have i1 : (i : Int) < 1 + (t : Int) := by omega
      have hT := fun W => text_two W (97 + i) (by omega)
      have hSt : By.strOf [UInt8.ofNat 97, UInt8.ofNat (97 + i)] = twoS i := rfl
      simp only [hSt] at hT
      have f2 : ((97 + i : Nat) : Int) = 97 + (i : Int) := by omega
      simp only [f2] at hT
      obtain ⟨W1, hW1⟩ : ∃ W1, wr.alloc (.cells #[.int .u8 97, .int .u8 (97 + (i : Int))] 5) = W1 := ⟨_, rfl⟩
      have hT1 := hT wr
      rw [hW1] at hT1
      have hb1 : Below wr.heap.size wr W1 := by rw [← hW1]; exact (Below.refl _ _).alloc (Nat.le_refl _) _
      have HOW : Hid (Own kStr W1 w1.heap.size 9 (fun _ => False) u9 i (tL i) ∧ Below w1.heap.size w1 W1 ∧ w1.heap.size ≤ W1.heap.size ∧ kStr.rep W1 (fun _ => False) (twoS i) [.string (twoS i)]) := Lib.hid (by
        have hb := hM.out.below.trans (hb1.mono hM.out.below.size)
        exact ⟨hM.out.own.later hb1, hb, hb.size, rfl, twoS_size i⟩)
      have HT : Hid (tL (i + 1) = tL i ++ [twoS i]) := Lib.hid (tL_succ i)
      have k48 : (i + 1) * 16 ≤ 140737488355328 := by omega
      clear hM hT hSt f2 hb1
      go_wp2_with ((at_builtin; refine Kd.wpList_push (W := W1) (F := fun _ => False) (B := w1.heap.size) (n := i) (v := u9) (xs := tL i) (y := twoS i) (cs := [.string (twoS i)]) Ap.str_t rfl _ _ rfl rfl rfl rfl HOW.out.1 HOW.out.2.2.2 k48 (by omega) HOW.out.2.2.1 (fun _ h => h.elim) ?_; intro g cap w' hown hgrow hfr))
      have HM2 : Hid (Txt w1 w' (.slice (some ⟨g, 0, none⟩) (i + 1) cap) (i + 1) (tL (i + 1))) := Lib.hid ⟨by rw [HT.out]; exact hown, HOW.out.2.1.grown hgrow HOW.out.2.2.1 (fun j hj => (HOW.out.1.low j hj).1)⟩
      clear hown hgrow hfr
      go_wp2
      go_roundw
      case rel => exact ⟨i + 1, by go_num, by omega, HM2⟩
      case measure => simp [intOf]; omega
    · have hit : i = 1 + t := by omega
      have i1 : ¬ (i : Int) < 1 + (t : Int) := by omega
      obtain ⟨A1, c1, rfl⟩ := hM.out.own.value
      obtain ⟨g, rfl, _, _⟩ := hM.out.own.first (by omega)
      subst hit
      have ki : (k : Int) < ((1 + t : Nat) : Int) := by omega
      have zi : (0 : Int) < ((1 + t : Nat) : Int) := by omega
      have k0 : (0 : Int) ≤ (k : Int) := by omega
      clear HM
      go_wp2_with fail
      refine (HK.out _).mono ?_
      rintro e w2 ⟨rfl, rfl⟩
      go_wp2_with fail
      refine (HH.out _).mono ?_
      rintro e w3 ⟨rfl, rfl⟩
      go_upto_block 2 with (fail)
      go_cut [11] (fun s11 wx => ∃ b : Bool, s11 = .bool b ∧ Hid (∃ l, Txt w1 wx (.slice (some ⟨g, 0, none⟩) (1 + t) c1) (1 + t) l ∧ Sc.namesB l 20 = b))
      case first =>
        obtain h | h | h | h : q = 0 ∨ q = 1 ∨ q = 2 ∨ q = 3 := by omega
        · have b1 : ((q : Int) == 1) = false := by rw [h]; rfl
          have b2 : ((q : Int) == 2) = false := by rw [h]; rfl
          have b3 : ((q : Int) == 3) = false := by rw [h]; rfl
          clear h
          go_wp2_with fail
          go_meet
          exact ⟨_, rfl, Lib.hid ⟨_, hM.out, by rw [HN.out.1, hok]⟩⟩
        · have b1 : ((q : Int) == 1) = true := by rw [h]; rfl
          obtain ⟨c0, z0⟩ := hM.out.at (k := k) (tL_get HKT.out)
          have HT : Hid (Txt w1 (w3.setCell ⟨g, k, none⟩ (.string ⟨#[65]⟩)) (.slice (some ⟨g, 0, none⟩) (1 + t) c1) (1 + t) ((tL (1 + t)).set k ⟨#[65]⟩)) := Lib.hid (hM.out.put HKT.out (by decide))
          clear h
          go_wp2_with fail
          go_meet
          exact ⟨_, rfl, Lib.hid ⟨_, HT.out, HN.out.2.1⟩⟩
        · have b1 : ((q : Int) == 1) = false := by rw [h]; rfl
          have b2 : ((q : Int) == 2) = true := by rw [h]; rfl
          obtain ⟨c0, z0⟩ := hM.out.at (k := k) (tL_get HKT.out)
          obtain ⟨d0, y0⟩ := hM.out.at (k := 0) (tL_get (by omega))
          have HT : Hid (Txt w1 (w3.setCell ⟨g, k, none⟩ (.string (twoS 0))) (.slice (some ⟨g, 0, none⟩) (1 + t) c1) (1 + t) ((tL (1 + t)).set k (twoS 0))) := Lib.hid (hM.out.put HKT.out (twoS_size 0))
          have HNN := Lib.hid HN.out.2.2.1
          rw [hok] at HNN
          clear h
          cases ok with
          | true =>
            go_wp2_with fail
            go_meet
            exact ⟨_, rfl, Lib.hid ⟨_, HT.out, HNN.out⟩⟩
          | false =>
            go_wp2_with fail
            go_meet
            exact ⟨_, rfl, Lib.hid ⟨_, HT.out, HNN.out⟩⟩
        · have b1 : ((q : Int) == 1) = false := by rw [h]; rfl
          have b2 : ((q : Int) == 2) = false := by rw [h]; rfl
          have b3 : ((q : Int) == 3) = true := by rw [h]; rfl
          obtain ⟨c0, z0⟩ := hM.out.at (k := k) (tL_get HKT.out)
          obtain ⟨d0, y0⟩ := hM.out.at (k := 0) (tL_get (by omega))
          have fz : ∀ i, w3.frozen? ⟨g, i, none⟩ = false := fun i => by
            obtain ⟨_, cs, ho, _⟩ := hM.out.own
            exact ho.frozenAt i
          have HT : Hid (Txt w1 (((w3.setCell ⟨g, k, none⟩ (.string (twoS 0))).setCell ⟨g, 0, none⟩ (.string (twoS k))).drew) (.slice (some ⟨g, 0, none⟩) (1 + t) c1) (1 + t) (((tL (1 + t)).set k (twoS 0)).set 0 (twoS k))) := Lib.hid (by
            have h1 := (hM.out.put HKT.out (twoS_size 0)).put (k := 0) (by omega) (twoS_size k)
            exact ⟨h1.own.later (Below.refl _ _).drew, h1.below.drew⟩)
          have HNN := Lib.hid HN.out.2.2.2
          rw [hok] at HNN
          clear h
          cases ok with
          | true =>
            by_cases hk0 : k = 0
            · subst hk0
              go_wp2_with fail
              go_region
              go_wp2_with fail
              go_meet
              exact ⟨_, rfl, Lib.hid ⟨_, HT.out, HNN.out⟩⟩
            · go_wp2_with fail
              go_region
              go_wp2_with fail
              go_meet
              exact ⟨_, rfl, Lib.hid ⟨_, HT.out, HNN.out⟩⟩
          | false =>
            by_cases hk0 : k = 0
            · subst hk0
              go_wp2_with fail
              go_region
              go_wp2_with fail
              go_meet
              exact ⟨_, rfl, Lib.hid ⟨_, HT.out, HNN.out⟩⟩
            · go_wp2_with fail
              go_region
              go_wp2_with fail
              go_meet
              exact ⟨_, rfl, Lib.hid ⟨_, HT.out, HNN.out⟩⟩
      case rest =>
        obtain ⟨b, rfl, hC⟩ := hcut
        clear hM HN hok
        obtain ⟨l, hl⟩ : ∃ l, Txt w1 wc (.slice (some ⟨g, 0, none⟩) (1 + t) c1) (1 + t) l ∧ Sc.namesB l 20 = b := hC.out
        have HL := Lib.hid hl
        clear hl hC
        cases cats with
        | false =>
          obtain ⟨wx, hwx⟩ : ∃ wx, wc.alloc (.cells #[.slice (some ⟨g, 0, none⟩) (1 + t) c1, .slice none 0 0] 24) = wx := ⟨_, rfl⟩
          have hbx : Below wc.heap.size wc wx := by rw [← hwx]; exact (Below.refl _ _).alloc (Nat.le_refl _) _
          have hx : Qu.Blk wx wc.heap.size 24 #[.slice (some ⟨g, 0, none⟩) (1 + t) c1, .slice none 0 0] := by rw [← hwx]; exact Qu.Blk.new wc _ _
          have HX := Lib.hid hx
          have HBX := Lib.hid (HL.out.1.below.trans (hbx.mono HL.out.1.below.size))
          have HR := Lib.hid (fun W (hW : Below wx.heap.size wx W) => (Sc.Right_any ⟨l, []⟩ ⟨⟨some ⟨g, 0, none⟩, 1 + t, c1⟩, ⟨none, 0, 0⟩⟩ W ⟨⟨((HL.out.1.own.later hbx).later hW).read, HL.out.1.own.fit⟩, Sc.holds_none.cats⟩ ⟨by show 1 + t ≤ _; omega, by show (0 : Nat) ≤ 1000000000000; omega⟩).mono fun e w' he => (⟨by rw [he.1]; unfold Sc.scopeB; rw [HL.out.2, Sc.names_none 20 (by omega), Bool.and_true], Hk.andThen hW he.2⟩ : e = Ending.returned (.bool b) ∧ Below wx.heap.size wx w'))
          have e1 : (b == b) = true := by cases b <;> rfl
          have HWX := Lib.hid hwx
          clear hx hbx hwx
          go_wp2_with fail
          refine (Sc.awake_any _).mono ?_
          rintro e w4 ⟨rfl, hb4⟩
          rw [HWX.out] at hb4
          have HB4 := Lib.hid hb4
          have x0 := (HX.out.below hb4).cell 0
          have x1 := (HX.out.below hb4).cell 1
          clear hb4
          go_wp2_with fail
          refine (HR.out _ HB4.out).mono ?_
          rintro e w5 ⟨rfl, hb5⟩
          have HB5 := Lib.hid (HBX.out.trans (hb5.mono HBX.out.size))
          clear hb5
          go_wp2
          go_ret
          exact ⟨rfl, HB5.out⟩
        | true =>
          obtain ⟨wx, hwx⟩ : ∃ wx, wc.alloc (.cells #[.slice none 0 0, .slice (some ⟨g, 0, none⟩) (1 + t) c1] 24) = wx := ⟨_, rfl⟩
          have hbx : Below wc.heap.size wc wx := by rw [← hwx]; exact (Below.refl _ _).alloc (Nat.le_refl _) _
          have hx : Qu.Blk wx wc.heap.size 24 #[.slice none 0 0, .slice (some ⟨g, 0, none⟩) (1 + t) c1] := by rw [← hwx]; exact Qu.Blk.new wc _ _
          have HX := Lib.hid hx
          have HBX := Lib.hid (HL.out.1.below.trans (hbx.mono HL.out.1.below.size))
          have HR := Lib.hid (fun W (hW : Below wx.heap.size wx W) => (Sc.Right_any ⟨[], l⟩ ⟨⟨none, 0, 0⟩, ⟨some ⟨g, 0, none⟩, 1 + t, c1⟩⟩ W ⟨Sc.holds_none.cats, ⟨((HL.out.1.own.later hbx).later hW).read, HL.out.1.own.fit⟩⟩ ⟨by show (0 : Nat) ≤ 1000000000000; omega, by show 1 + t ≤ _; omega⟩).mono fun e w' he => (⟨by rw [he.1]; unfold Sc.scopeB; rw [HL.out.2, Sc.names_none 20 (by omega), Bool.true_and], Hk.andThen hW he.2⟩ : e = Ending.returned (.bool b) ∧ Below wx.heap.size wx w'))
          have e1 : (b == b) = true := by cases b <;> rfl
          have HWX := Lib.hid hwx
          clear hx hbx hwx
          go_wp2_with fail
          refine (Sc.awake_any _).mono ?_
          rintro e w4 ⟨rfl, hb4⟩
          rw [HWX.out] at hb4
          have HB4 := Lib.hid hb4
          have x0 := (HX.out.below hb4).cell 0
          have x1 := (HX.out.below hb4).cell 1
          clear hb4
          go_wp2_with fail
          refine (HR.out _ HB4.out).mono ?_
          rintro e w5 ⟨rfl, hb5⟩
          have HB5 := Lib.hid (HBX.out.trans (hb5.mono HBX.out.size))
          clear hb5
          go_wp2
          go_ret
          exact ⟨rfl, HB5.out⟩

set_option maxRecDepth 100000 in
theorem lifted (os : Os) (started : os.Started) (H : Type) (enc : TypeId × Value → H) :
    ReturnsInHanded {} Try.checked os 6 .any (Rows.scopeTurnedSpec.pre6 enc Try.prog Try.f6 Rows.scopeTurnedRow.domain false) (Rows.scopeTurnedSpec.post enc Try.prog Try.f6 false true false false) := by
  refine returnsInHanded_of_change (C := Try.checked) own started (by kernel_rfl) Try.func6
    (ChangeSpec.witness6 (enc := enc) (C := Try.checked) false ⟨#[], #[.int .i64 0, .int .i64 0, .int .i64 0, .bool false], []⟩ 8 (by kernel_rfl) (by kernel_rfl) (by kernel_rfl) (by kernel_rfl)) ?_
  intro W base args ds gs before hval0 hW hcnd _
  have hval : ∀ (j : Nat) t v, Try.f6.params[j]? = some t → args[j]? = some v → Value.okWide Try.prog W .any base t v := hval0
  have hW' := hW
  obtain ⟨p, q, hA0, hV, rfl, hfz, hnd⟩ := hW
  have hA : DataW.TrodAll enc Try.prog W 0 (fun _ => true) true Try.f6.params.toList args.toList ds p := hA0
  rw [Try.params6] at hA hval
  obtain ⟨v0, vs0, d0, ds0, p0, q0, hargs, rfl, rfl, h0, r0⟩ := trodAll_cons hA
  obtain ⟨v1, vs1, d1, ds1, p1, q1, rfl, rfl, rfl, h1, r1⟩ := trodAll_cons r0
  obtain ⟨v2, vs2, d2, ds2, p2, q2, rfl, rfl, rfl, h2, r2⟩ := trodAll_cons r1
  obtain ⟨v3, vs3, d3, ds3, p3, q3, rfl, rfl, rfl, h3, r3⟩ := trodAll_cons r2
  obtain ⟨rfl, rfl, rfl⟩ := trodAll_nil r3
  obtain rfl : args = #[v0, v1, v2, v3] := by cases args; simp_all
  obtain ⟨a0, rfl, _, _, w0⟩ := open_int Try.underlying3 (hval 0 3 v0 rfl rfl) h0
  obtain ⟨a1, rfl, _, _, w1⟩ := open_int Try.underlying3 (hval 1 3 v1 rfl rfl) h1
  obtain ⟨a2, rfl, _, _, w2⟩ := open_int Try.underlying3 (hval 2 3 v2 rfl rfl) h2
  obtain ⟨a3, rfl, _, _⟩ := open_bool Try.underlying4 (hval 3 4 v3 rfl rfl) h3
  refine (walk W a0 w0 a1 w1 a2 w2 a3).mono fun e W' ⟨he, hb⟩ => ?_
  subst he
  exact ⟨_, rfl, Hk.closeLaw (tb := 4) (by kernel_rfl) (by kernel_rfl) rfl rfl rfl Try.underlying4 hW' hb⟩

theorem over : Rows.scopeTurnedRow.holds Try.pinned (OpenSpec.ofChange Rows.scopeTurnedSpec) :=
  OpenClaim.holds_of_wide 6 Try.f6 rfl rfl rfl rfl rfl rfl rfl ⟨rfl, rfl, rfl, rfl, rfl⟩ rfl rfl rfl rfl rfl (by kernel_rfl) Try.func6 (by kernel_rfl)
    (of_decide_eq_true (by kernel_rfl)) (by unfold Func.isWrapper; first | (rw [if_pos (by decide +kernel)]; kernel_rfl) | (rw [if_neg (by decide +kernel)]; exact ⟨rfl, rfl⟩))
    (fun os started H enc _ => lifted os started H enc)

/-- The statement. -/
theorem proved : Rows.ScopeTurnedSaid :=
  over
end Go.Proofs.Ytkpekdcglbaadaa.scopeTurned
