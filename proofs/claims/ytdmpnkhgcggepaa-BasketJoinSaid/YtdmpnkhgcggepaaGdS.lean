/- The landed goods.Find: the search by halves, and what is asked of any list. -/
import Derived.Test.YtdmpnkhgcggepaaGdC
set_option maxRecDepth 100000

set_option linter.unusedVariables false
namespace Go.Proofs.Ytdmpnkhgcggepaa.Gd
open Go.ChangeShapes Go.WideShapes Go.ChangeAt Go.RowKit
open It (Itm kItem row_item row_ok)
open Kd (Row Fit)

theorem cmp_below {a s : ByteArray} (h : Sr.lt a s = true) : cmp a s = -1 := by unfold cmp; rw [h]; rfl

theorem cmp_not {a s : ByteArray} (h : Sr.lt a s = false) : 0 ≤ cmp a s := by
  unfold cmp
  rw [h]
  simp only [Bool.false_eq_true, if_false]
  split <;> omega

theorem cmp_zero {a s : ByteArray} : cmp a s = 0 ↔ a = s := by
  unfold cmp
  constructor
  · intro h
    split at h
    · omega
    · split at h
      · exact Sr.same_iff.1 ‹_›
      · omega
  · rintro rfl
    rw [Sr.lt_irrefl, Sr.same_refl]; rfl

/-- What the search tells. -/
def Told (xs : List Itm) (s : ByteArray) (e : Ending) : Prop := ∃ (i : Nat) (b : Bool), e = .returned (.tuple #[.int .i64 (i : Int), .bool b]) ∧ (b = true → ∃ x, xs[i]? = some x ∧ x.sku = s) ∧ (b = false → ∀ (k : Nat) (x : Itm), xs[k]? = some x → x.sku ≠ s)

set_option maxHeartbeats 1000000 in
theorem search_any (A : Option Addr) (n c : Nat) (xs : List Itm) (s : ByteArray) (F : Nat → Prop) (w : World) (h : Row kItem w F A n xs) (hF : ∀ b, F b → b < w.heap.size) (hR : Rise xs) (hn : n ≤ 1000000000000) :
    Calls Try.prog 46 #[.slice A n c, .string s, .func (.func 47) #[] #[]] w fun e w' => Told xs s e ∧ Below w.heap.size w w' := by
  have HL := Lib.hid h.len
  have HK0 := Lib.hid (Kept.mk (w := w) h (Below.refl _ _))
  have HF := Lib.hid hF
  have HR := Lib.hid hR
  have HH0 := Lib.hid (Halves.begin s xs)
  rw [HL.out] at HH0
  clear h hF hR
  go_enter Try.func46, Try.ntmps46
  go_wp2
  go_loopw [9, 10] (fun s9 s10 wr => ∃ i j : Nat, s9 = .int .i64 i ∧ s10 = .int .i64 j ∧ i ≤ j ∧ j ≤ n ∧ Kept w wr F A n xs ∧ Hid (Halves s xs i j)) (fun s9 s10 _ => (intOf s10).toNat - (intOf s9).toNat)
  case atStart => exact ⟨0, n, rfl, rfl, by omega, by omega, HK0.out, HH0⟩
  case round =>
    clear HK0 HH0
    obtain ⟨i, j, rfl, rfl, hij, hj, hK, HH⟩ := hrel
    by_cases hlt : i < j
    · obtain ⟨x, hx⟩ := hK.row.get (k := (i + j) / 2) (by omega)
      obtain ⟨g, o, rfl, _, _, hok, c0, c1, c2, c3⟩ := row_item hK.row hx
      have HC := Lib.hid (fun W => bySku_any x s W)
      have HK := Lib.hid hK
      have HX := Lib.hid hx
      obtain ⟨m, hm⟩ : ∃ m, (i + j) / 2 = m := ⟨_, rfl⟩
      have hm1 : i ≤ m := by omega
      have hm2 : m < j := by omega
      rw [hm] at HX c0 c1 c2 c3
      have k1 : (i : Int) < (j : Int) := by omega
      have e1 : ((i : Int) + (j : Int)) / 2 = (m : Int) := by omega
      have m1 : (m : Int) < (n : Int) := by omega
      clear hK hx hok hm
      cases hB : Sr.lt x.sku s with
      | true =>
        have hc := cmp_below hB
        have hH2 := Lib.hid (HH.out.up HR.out hm1 hm2 HX.out hB)
        rw [hc] at HC
        clear hc hB
        go_wp2_with fail
        refine (HC.out _).mono ?_
        rintro e w1 ⟨rfl, hb⟩
        have HK2 := Lib.hid (HK.out.on HF.out hb)
        clear hb
        go_wp2
        go_roundw
        case rel => exact ⟨m + 1, j, by go_num, rfl, by omega, by omega, HK2.out, hH2⟩
        case measure => simp [intOf]; omega
      | false =>
        have hc := cmp_not hB
        have hH2 := Lib.hid (HH.out.down HR.out hm1 hm2 HX.out hB)
        obtain ⟨q, hq⟩ : ∃ q, cmp x.sku s = q := ⟨_, rfl⟩
        rw [hq] at HC hc
        clear hB hq
        go_wp2_with fail
        refine (HC.out _).mono ?_
        rintro e w1 ⟨rfl, hb⟩
        have HK2 := Lib.hid (HK.out.on HF.out hb)
        clear hb
        go_wp2
        go_roundw
        case rel => exact ⟨i, m, rfl, rfl, by omega, by omega, HK2.out, hH2⟩
        case measure => simp [intOf]; omega
    · obtain rfl : i = j := by omega
      have k1 : ¬ (i : Int) < (i : Int) := by omega
      by_cases hin : i < n
      · obtain ⟨x, hx⟩ := hK.row.get hin
        obtain ⟨g, o, rfl, _, _, hok, c0, c1, c2, c3⟩ := row_item hK.row hx
        have HC := Lib.hid (fun W => bySku_any x s W)
        have HK := Lib.hid hK
        have HX := Lib.hid hx
        have i1 : (i : Int) < (n : Int) := by omega
        clear hK hx hok
        obtain ⟨q, hq⟩ : ∃ q, cmp x.sku s = q := ⟨_, rfl⟩
        rw [hq] at HC
        by_cases hz : q = 0
        · have HZ : Hid (x.sku = s) := Lib.hid (cmp_zero.1 (by rw [hq]; exact hz))
          subst hz
          clear hq
          go_wp2_with fail
          refine (HC.out _).mono ?_
          rintro e w1 ⟨rfl, hb⟩
          have HK2 := Lib.hid (HK.out.on HF.out hb)
          clear hb
          go_wp2
          go_ret2
          exact ⟨⟨i, true, rfl, fun _ => ⟨x, HX.out, HZ.out⟩, fun h => by cases h⟩, HK2.out.below⟩
        · have HZ : Hid (∀ (k : Nat) (x : Itm), xs[k]? = some x → x.sku ≠ s) := Lib.hid (HH.out.none HR.out fun y hy e => hz (by
            rw [HX.out] at hy
            injection hy with hy
            subst hy
            rw [← hq]; exact cmp_zero.2 e))
          have q0 : (q == 0) = false := beq_eq_false_iff_ne.2 hz
          clear hq hz
          go_wp2_with fail
          refine (HC.out _).mono ?_
          rintro e w1 ⟨rfl, hb⟩
          have HK2 := Lib.hid (HK.out.on HF.out hb)
          clear hb
          go_wp2
          go_ret2
          exact ⟨⟨i, false, rfl, (fun h => by cases h), fun _ => HZ.out⟩, HK2.out.below⟩
      · have i1 : ¬ (i : Int) < (n : Int) := by omega
        have HZ : Hid (∀ (k : Nat) (x : Itm), xs[k]? = some x → x.sku ≠ s) := Lib.hid (HH.out.none HR.out fun y hy => by
          have := (List.getElem?_eq_some_iff.1 hy).1
          rw [HL.out] at this
          omega)
        have HK := Lib.hid hK
        clear hK
        go_wp2
        go_ret2
        exact ⟨⟨i, false, rfl, (fun h => by cases h), fun _ => HZ.out⟩, HK.out.below⟩

theorem size_of_item (W : World) : (sizeOf (Try.prog.elem 22)).run Try.prog W = .ok 4 W := by kernel_rfl

theorem item_from (A : Option Addr) (n c k : Nat) (hk : k ≤ n) (W : World) : (Instr.slice 22 (.slice A n c) (some (.int .i64 (k : Int))) none none).run Try.prog W = .ok (.slice (if c = k then A else A.map (·.add (k * 4))) (n - k) (c - k)) W :=
  Kd.slice_from Try.underlying22 size_of_item A n c k hk W

theorem item_mid (A : Option Addr) (n c j k : Nat) (hj : j ≤ k) (hk : k ≤ c) (W : World) : (Instr.slice 22 (.slice A n c) (some (.int .i64 (j : Int))) (some (.int .i64 (k : Int))) none).run Try.prog W = .ok (.slice (if c = j then A else A.map (·.add (j * 4))) (k - j) (c - j)) W :=
  Kd.slice_mid Try.underlying22 size_of_item A n c j k hj hk W

theorem item_to (A : Option Addr) (n c k : Nat) (hk : k ≤ c) (W : World) : (Instr.slice 22 (.slice A n c) none (some (.int .i64 (k : Int))) none).run Try.prog W = .ok (.slice A k c) W :=
  Kd.slice_to Try.underlying22 size_of_item A n c k hk W

/-- The piece of a list that rises, from a place on. -/
theorem Rose.piece {xs : List Itm} {f r : Nat} (h : Rose (xs.drop f) r) : Rise ((xs.take (f + r)).drop f) := by
  have e : (xs.take (f + r)).drop f = (xs.drop f).take r := by rw [List.drop_take]; congr 1; omega
  rw [e]
  exact h.rise

set_option maxHeartbeats 1000000 in
theorem find_any (A : Option Addr) (n c : Nat) (xs : List Itm) (s : ByteArray) (F : Nat → Prop) (w : World) (h : Row kItem w F A n xs) (hF : ∀ b, F b → b < w.heap.size) (hc : n ≤ c) (hn : n ≤ 1000000000000) :
    Calls Try.prog 30 #[.slice A n c, .string s] w fun e w' => e = .returned (.int .i64 (find s xs)) ∧ Below w.heap.size w w' := by
  have HL := Lib.hid h.len
  have HK0 := Lib.hid (Kept.mk (w := w) h (Below.refl _ _))
  have HF := Lib.hid hF
  have hS1 := fun k (hk : k ≤ n) W => item_from A n c k hk W
  have hS2 := fun j k (hj : j ≤ k) (hk : k ≤ c) W => item_mid A n c j k hj hk W
  have HS1 := Lib.hid hS1
  have HS2 := Lib.hid hS2
  clear h hF hS1 hS2
  go_enter Try.func30, Try.ntmps30
  go_wp2
  go_loopw [5] (fun s5 wr => ∃ f : Nat, s5 = .int .i64 f ∧ f ≤ n ∧ Kept w wr F A n xs ∧ ∀ (k : Nat) (x : Itm), k < f → xs[k]? = some x → x.sku ≠ s) (fun s5 _ => n - (intOf s5).toNat)
  case atStart => exact ⟨0, rfl, by omega, HK0.out, fun k x hk => by omega⟩
  case round =>
    clear HK0
    obtain ⟨f, rfl, hf, hK, hE⟩ := hrel
    have HE := Lib.hid hE
    have HK := Lib.hid hK
    clear hE hK
    by_cases hlt : f < n
    · have k1 : (f : Int) < (n : Int) := by omega
      have a1 := HS1.out f hf wr
      have hrow1 : Row kItem wr F (if c = f then A else A.map (·.add (f * 4))) (n - f) (xs.drop f) := HK.out.row.drop hf hc
      obtain ⟨Af, hAf⟩ : ∃ Af, (if c = f then A else A.map (·.add (f * 4))) = Af := ⟨_, rfl⟩
      rw [hAf] at a1 hrow1
      have HRi := Lib.hid (rising_any Af (n - f) (c - f) (xs.drop f) F wr hrow1 (by omega))
      clear hrow1 hAf
      go_wp2_with fail
      refine HRi.out.mono ?_
      rintro e w1 ⟨⟨r, rfl, hr⟩, hD⟩
      have HRo := Lib.hid hr
      have hr1 : f + r ≤ n ∧ 0 < r := by
        have h1 := hr.le
        have h2 := hr.some_
        rw [List.length_drop, HL.out] at h1 h2
        exact ⟨by omega, h2 (by omega)⟩
      have a2 := HS2.out f (f + r) (by omega) (by omega) w1
      have HK2 := Lib.hid (HK.out.on HF.out (hD.below _))
      have hrow2 : Row kItem w1 F (if c = f then A else A.map (·.add (f * 4))) (f + r - f) ((xs.take (f + r)).drop f) := HK2.out.row.mid (by omega) hr1.1 hc
      obtain ⟨Ag, hAg⟩ : ∃ Af, (if c = f then A else A.map (·.add (f * 4))) = Af := ⟨_, rfl⟩
      rw [hAg] at a2 hrow2
      have HSe := Lib.hid (search_any Ag (f + r - f) (c - f) ((xs.take (f + r)).drop f) s F w1 hrow2 (fun b hb => Nat.lt_of_lt_of_le (HF.out b hb) HK2.out.below.size) hr.piece (by omega))
      clear hrow2 hAg
      have e1 : (f : Int) + (r : Int) = ((f + r : Nat) : Int) := by omega
      obtain ⟨to, hto⟩ : ∃ to, f + r = to := ⟨_, rfl⟩
      have r1 := hr1.1
      have r2 := hr1.2
      rw [hto] at a2 HSe e1 r1
      clear hr hD hr1
      go_wp2_with fail
      refine HSe.out.mono ?_
      rintro e w2 ⟨⟨i, b, rfl, hy, hno⟩, hb⟩
      have HK3 := Lib.hid (HK2.out.on HF.out hb)
      clear hb
      cases b with
      | true =>
        have HO : Hid (find s xs = ((f + i : Nat) : Int) ∧ f + i < n) := Lib.hid (by
          obtain ⟨x, hx, hs⟩ := hy rfl
          rw [List.getElem?_drop, List.getElem?_take] at hx
          split at hx
          · rename_i hlt2
            have hin := (List.getElem?_eq_some_iff.1 hx).1
            rw [HL.out] at hin
            refine ⟨find_at hx hs fun k y hk hy2 => ?_, hin⟩
            rcases Nat.lt_or_ge k f with hkf | hkf
            · exact HE.out k y hkf hy2
            · intro e
              have hlo := HRo.out.rise.below (i := k - f) (j := i) (x := y) (y := x) (by omega) (by rw [List.getElem?_take, if_pos (by omega), List.getElem?_drop, show f + (k - f) = k by omega]; exact hy2) (by rw [List.getElem?_take, if_pos (by omega), List.getElem?_drop]; exact hx)
              exact Sr.lt_ne hlo (e.trans hs.symm)
          · cases hx)
        clear hy hno
        have hin := HO.out.2
        go_wp2
        go_ret
        exact ⟨by rw [HO.out.1, Int.natCast_add]; rfl, HK3.out.below⟩
      | false =>
        have HN : Hid (∀ (k : Nat) (x : Itm), k < to → xs[k]? = some x → x.sku ≠ s) := Lib.hid (fun k x hk hx => by
          rcases Nat.lt_or_ge k f with hkf | hkf
          · exact HE.out k x hkf hx
          · exact hno rfl (k - f) x (by rw [List.getElem?_drop, List.getElem?_take, if_pos (by omega), show f + (k - f) = k by omega]; exact hx))
        clear hy hno
        go_wp2
        go_roundw
        case rel => exact ⟨to, rfl, by omega, HK3.out, HN.out⟩
        case measure => simp [intOf]; omega
    · have k1 : ¬ (f : Int) < (n : Int) := by omega
      have HO : Hid (find s xs = -1) := Lib.hid (find_none fun k x hx => HE.out k x (by
        have := (List.getElem?_eq_some_iff.1 hx).1
        rw [HL.out] at this
        omega) hx)
      go_wp2
      go_ret
      exact ⟨by rw [HO.out]; rfl, HK.out.below⟩

end Go.Proofs.Ytdmpnkhgcggepaa.Gd
