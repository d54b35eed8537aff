/- The statements' names of promotions and codes: Id, Code, Codes; the document's Codes. -/
import Derived.Test.YtgimcleeamlgcaaPyT
import Derived.Test.YtgimcleeamlgcaaScR
set_option maxRecDepth 100000

set_option linter.unusedVariables false
namespace Go.Proofs.Ytgimcleeamlgcaa.Py
open Go.ChangeShapes Go.WideShapes Go.ChangeAt Go.RowKit
open Kd (Kind Row Own Cells Fit Agree kStr row_str Lst Sl)

/-- A text of two bytes. -/
def two (a c : Nat) : ByteArray := By.strOf [UInt8.ofNat a, UInt8.ofNat c]

def idS (k : Nat) : ByteArray := two 112 (48 + k)

def codeS (k : Nat) : ByteArray := two 99 (48 + k)

theorem two_list (a c : Nat) : (two a c).toList = [UInt8.ofNat a, UInt8.ofNat c] := by unfold two; exact By.strOf_list _

theorem two_data (a c : Nat) : (two a c).data.toList = [UInt8.ofNat a, UInt8.ofNat c] := by rw [← ByteArray.toList_eq]; exact two_list a c

theorem two_size (a c : Nat) : (two a c).size = 2 := by unfold two; rw [By.strOf_size]; rfl

theorem id_size (k : Nat) : (idS k).size = 2 := two_size _ _

theorem code_size (k : Nat) : (codeS k).size = 2 := two_size _ _

theorem two_lt {a c d : Nat} (h : c < d) (hd : d < 256) : Sr.lt (two a c) (two a d) = true := by
  unfold Sr.lt
  rw [two_list, two_list]
  have h1 : UInt8.ofNat c < UInt8.ofNat d := by
    rw [UInt8.lt_iff_toNat_lt, By.toNat_small (by omega), By.toNat_small hd]; exact h
  simp [Op.bytesLess, h1]

theorem two_name {a c : Nat} (h : Sr.plain (a : Int) = true) (h2 : Sr.plain (c : Int) = true) (ha : a < 256) (hc : c < 256) : Sr.name (two a c) = true := by
  unfold Sr.name Sr.nameL
  rw [two_data]
  simp [By.toNat_small ha, By.toNat_small hc, h, h2]

theorem id_name {k : Nat} (h : k < 10) : Sr.name (idS k) = true := two_name (by decide) (by unfold Sr.plain; simp; omega) (by omega) (by omega)

theorem code_name {k : Nat} (h : k < 10) : Sr.name (codeS k) = true := two_name (by decide) (by unfold Sr.plain; simp; omega) (by omega) (by omega)

theorem cat_two (a c : Nat) (W : World) : (Op.stringOp .add (By.strOf [UInt8.ofNat a]) (By.strOf [UInt8.ofNat c])).run Try.prog W = .ok (.string (two a c)) W := by
  have h := run_string_add_sum (P := Try.prog) (w := W) (By.strOf [UInt8.ofNat a]) (By.strOf [UInt8.ofNat c]) (by rw [By.strOf_size, By.strOf_size]; show 1 + 1 ≤ 9223372036854775807; decide)
  exact h

theorem id_any (a : Int) (w : World) : Calls Try.prog 25 #[.int .i64 a] w fun e w' => e = .returned (.string (idS (modN a 10))) ∧ Below w.heap.size w w' := by
  have HM := Lib.hid (mod_any a 10 w (by omega) (by omega))
  have ht := modN_lt a 10 (by omega)
  generalize hk : modN a 10 = t at HM ht ⊢
  have hr := fun W => By.run_text (P := Try.prog) (c := 1) 51 9 5 Try.underlying51 Try.underlying5 Try.underlying9 (By.Bys.made W 5 (48 + (t : Int)) (by omega) (by omega))
  have e : (48 + (t : Int)).toNat = 48 + t := by omega
  rw [e] at hr
  have hc : ∀ W, (Op.stringOp .add ⟨#[112]⟩ (By.strOf [UInt8.ofNat (48 + t)])).run Try.prog W = .ok (.string (idS t)) W := fun W => cat_two 112 (48 + t) W
  obtain ⟨x, hx⟩ : ∃ x, By.strOf [UInt8.ofNat (48 + t)] = x := ⟨_, rfl⟩
  simp only [hx] at hr hc
  clear hk hx
  go_enter Try.func25, Try.ntmps25
  go_wp2_with fail
  refine HM.out.mono ?_
  rintro e w1 ⟨rfl, rfl⟩
  go_wp2
  go_ret
  exact ⟨rfl, (Below.refl _ _).alloc (Nat.le_refl _) _⟩

theorem code_any (a : Int) (w : World) : Calls Try.prog 28 #[.int .i64 a] w fun e w' => e = .returned (.string (codeS (modN a 3))) ∧ Below w.heap.size w w' := by
  have HM := Lib.hid (mod_any a 3 w (by omega) (by omega))
  have ht := modN_lt a 3 (by omega)
  generalize hk : modN a 3 = t at HM ht ⊢
  have hr := fun W => By.run_text (P := Try.prog) (c := 1) 51 9 5 Try.underlying51 Try.underlying5 Try.underlying9 (By.Bys.made W 5 (48 + (t : Int)) (by omega) (by omega))
  have e : (48 + (t : Int)).toNat = 48 + t := by omega
  rw [e] at hr
  have hc : ∀ W, (Op.stringOp .add ⟨#[99]⟩ (By.strOf [UInt8.ofNat (48 + t)])).run Try.prog W = .ok (.string (codeS t)) W := fun W => cat_two 99 (48 + t) W
  obtain ⟨x, hx⟩ : ∃ x, By.strOf [UInt8.ofNat (48 + t)] = x := ⟨_, rfl⟩
  simp only [hx] at hr hc
  clear hk hx
  go_enter Try.func28, Try.ntmps28
  go_wp2_with fail
  refine HM.out.mono ?_
  rintro e w1 ⟨rfl, rfl⟩
  go_wp2
  go_ret
  exact ⟨rfl, (Below.refl _ _).alloc (Nat.le_refl _) _⟩

set_option maxHeartbeats 2000000 in
theorem some_code (A : Option Addr) (n c : Nat) (l : List ByteArray) (w : World) (h : Row kStr w (· < w.heap.size) A n l) (hn : n ≤ 1000000000000) :
    Calls Try.prog 43 #[.slice A n c, .int .i64 3, .int .i64 3, .func (.func 28) #[] #[]] w fun e w' => ∃ v, e = .returned v ∧ Gath w w' v codeS l 3 3 3 := by
  have hln : l.length = n := h.len
  have HR := Lib.hid (And.intro h hln)
  have HM0 : Hid (Gath w w (.slice none 0 0) codeS l 3 3 0) := Lib.hid ⟨Own.nil _ _ _ _ _, Below.refl _ _⟩
  have HPK := Lib.hid (fun s W h => pick_any s W h)
  have HMD := Lib.hid (fun a W => mod_any a 3 W (by omega) (by omega))
  have HNM := Lib.hid (fun a W => code_any a W)
  clear h hln
  go_enter Try.func43, Try.ntmps43
  go_wp2
  go_loopw [9, 10] (fun s9 s10 wr => ∃ k : Nat, s10 = .int .i64 k ∧ k ≤ 3 ∧ Hid (Gath w wr s9 codeS l 3 3 k)) (fun _ s10 _ => 3 - (intOf s10).toNat)
  case atStart => exact ⟨0, rfl, by omega, HM0⟩
  case round =>
    clear HM0
    obtain ⟨k, rfl, hk, hM⟩ := hrel
    have k0 : (0 : Int) ≤ (k : Int) := by omega
    by_cases hlt : k < 3
    · have k1 : (k : Int) < 3 := by omega
      obtain ⟨wo, hwo⟩ : ∃ wo : World, wo = wr := ⟨_, rfl⟩
      subst hwo
      have hval := hM.out.own.value
      obtain ⟨q, hq⟩ : ∃ q, (someTo l 3 3 k).length = q := ⟨_, rfl⟩
      have hq2 := (someTo_len l 3 3 k).1
      have hown := hM.out.own
      rw [hq] at hq2 hown hval
      obtain ⟨A9, c9, hv9⟩ := hval
      subst hv9
      have HO := Lib.hid (And.intro hown hq)
      have HE0 : Hid (∀ (j : Nat) (s : ByteArray), j < 0 → l[j]? = some s → modN (pickS s) 3 ≠ k) := Lib.hid fun j s hj => by omega
      clear hown hq
      go_wp2
      go_loopw [9, 11] (fun s9 s11 wi => s9 = .slice A9 q c9 ∧ ∃ i : Nat, s11 = .int .i64 i ∧ i ≤ n ∧ i ≤ 4 ∧ wi = wo ∧ Hid (∀ (j : Nat) (s : ByteArray), j < i → l[j]? = some s → modN (pickS s) 3 ≠ k)) (fun _ s11 _ => 4 - (intOf s11).toNat)
      case atStart => exact ⟨rfl, 0, rfl, by omega, by omega, by trivial, HE0⟩
      case round =>
        clear HE0
        obtain ⟨rfl, i, rfl, hi, hi4, rfl, hE⟩ := hrel
        have i0 : (0 : Int) ≤ (i : Int) := by omega
        by_cases hin : i < n
        · have i1 : (i : Int) < (n : Int) := by omega
          by_cases hi4' : i < 4
          · have i2 : (i : Int) < 4 := by omega
            by_cases hqm : q < 3
            · have q1 : (q : Int) < 3 := by omega
              obtain ⟨s, hs⟩ := HR.out.1.get hin
              obtain ⟨g, o, rfl, hg1, hg2, hsz, a0⟩ := row_str (HR.out.1.below hM.out.below (Nat.le_refl _)) hs
              have HPx := Lib.hid (fun W => HPK.out s W hsz)
              have HMx := Lib.hid (fun W => HMD.out (pickS s) W)
              obtain ⟨t, ht⟩ : ∃ t, modN (pickS s) 3 = t := ⟨_, rfl⟩
              simp only [ht] at HMx
              have HT := Lib.hid (And.intro hs ht)
              clear hsz hs ht
              by_cases htk : t = k
              · have b1 : ((t : Int) == (k : Int)) = true := by rw [beq_iff_eq]; omega
                have HS : Hid (someTo l 3 3 (k + 1) = someTo l 3 3 k ++ [k]) := Lib.hid (someTo_hit (by rw [HO.out.2]; exact hqm) (hitB_yes hi4' HT.out.1 (HT.out.2.trans htk)))
                have hnm := fun W => HNM.out (k : Int) W
                have e1 : modN (k : Int) 3 = k := modN_num k 3 hlt (by omega)
                simp only [e1] at hnm
                have HNx := Lib.hid hnm
                clear htk hnm e1
                go_wp2_with fail
                refine (HPx.out _).mono ?_
                rintro e w1 ⟨rfl, rfl⟩
                go_wp2_with fail
                refine (HMx.out _).mono ?_
                rintro e w1 ⟨rfl, rfl⟩
                go_wp2_with fail
                refine (HNx.out _).mono ?_
                rintro e w1 ⟨rfl, hb1⟩
                have HOW : Hid (Own kStr w1 w.heap.size 9 (fun _ => False) (.slice A9 q c9) q (namesOf codeS l 3 3 k) ∧ Below w.heap.size w w1 ∧ w.heap.size ≤ w1.heap.size ∧ kStr.rep w1 (fun _ => False) (codeS k) [.string (codeS k)]) := Lib.hid (by
                  have hb := hM.out.below.trans (hb1.mono hM.out.below.size)
                  exact ⟨HO.out.1.later hb1, hb, hb.size, rfl, by rw [code_size]; decide⟩)
                clear hb1
                go_wp2_with ((at_builtin; refine Kd.wpList_push (W := w1) (F := fun _ => False) (B := w.heap.size) (n := q) (v := .slice A9 q c9) (xs := namesOf codeS l 3 3 k) (y := codeS k) (cs := [.string (codeS k)]) Ap.str_t rfl _ _ rfl rfl rfl rfl HOW.out.1 HOW.out.2.2.2 (by omega) (by omega) HOW.out.2.2.1 (fun _ h => h.elim) ?_; intro g1 cap w' hown hgrow hfr))
                have HM2 : Hid (Gath w w' (.slice (some ⟨g1, 0, none⟩) (q + 1) cap) codeS l 3 3 (k + 1)) := Lib.hid ⟨by
                  unfold namesOf
                  have e : (someTo l 3 3 (k + 1)).length = q + 1 := by rw [HS.out, List.length_append, HO.out.2]; rfl
                  rw [e, HS.out, List.map_append]; exact hown, HOW.out.2.1.grown hgrow HOW.out.2.2.1 (fun i hi => (HOW.out.1.low i hi).1)⟩
                clear hown hgrow hfr
                go_wp2
                go_roundw
                case rel => exact ⟨k + 1, by go_num, by omega, HM2⟩
                case measure => simp [intOf]; omega
              · have b1 : ((t : Int) == (k : Int)) = false := by rw [beq_eq_false_iff_ne]; omega
                have HE2 : Hid (∀ (j : Nat) (s : ByteArray), j < i + 1 → l[j]? = some s → modN (pickS s) 3 ≠ k) := Lib.hid fun j s' hj hs' => by
                  rcases Nat.lt_or_ge j i with hji | hji
                  · exact hE.out j s' hji hs'
                  · obtain rfl : j = i := by omega
                    rw [HT.out.1] at hs'
                    injection hs' with hs'
                    subst hs'
                    rw [HT.out.2]; exact htk
                clear htk
                go_wp2_with fail
                refine (HPx.out _).mono ?_
                rintro e w1 ⟨rfl, rfl⟩
                go_wp2_with fail
                refine (HMx.out _).mono ?_
                rintro e w1 ⟨rfl, rfl⟩
                go_wp2
                go_roundw
                case rel => exact ⟨rfl, i + 1, by go_num, by omega, by omega, by trivial, HE2⟩
                case measure => simp [intOf]; omega
            · have q1 : ¬ (q : Int) < 3 := by omega
              have HM2 : Hid (Gath w _ (.slice A9 q c9) codeS l 3 3 (k + 1)) := Lib.hid (hM.out.keep (someTo_full (by rw [HO.out.2]; exact hqm)))
              clear hM
              go_wp2
              go_roundw
              case rel => exact ⟨k + 1, by go_num, by omega, HM2⟩
              case measure => simp [intOf]; omega
          · have i2 : ¬ (i : Int) < 4 := by omega
            have HM2 : Hid (Gath w _ (.slice A9 q c9) codeS l 3 3 (k + 1)) := Lib.hid (hM.out.keep (someTo_miss (hitB_no fun j s hj hs => hE.out j s (by omega) hs)))
            clear hM
            go_wp2
            go_roundw
            case rel => exact ⟨k + 1, by go_num, by omega, HM2⟩
            case measure => simp [intOf]; omega
        · have i1 : ¬ (i : Int) < (n : Int) := by omega
          have HM2 : Hid (Gath w _ (.slice A9 q c9) codeS l 3 3 (k + 1)) := Lib.hid (hM.out.keep (someTo_miss (hitB_no fun j s hj hs => hE.out j s (by
            have := (List.getElem?_eq_some_iff.1 hs).1
            have := HR.out.2
            omega) hs)))
          clear hM
          go_wp2
          go_roundw
          case rel => exact ⟨k + 1, by go_num, by omega, HM2⟩
          case measure => simp [intOf]; omega
    · obtain rfl : k = 3 := by omega
      go_wp2
      go_ret
      exact ⟨_, rfl, hM.out⟩


/-- Codes near to raw ones. -/
def codesOf (l : List ByteArray) : List ByteArray := namesOf codeS l 3 3 3

theorem codes_any (A : Option Addr) (n c : Nat) (l : List ByteArray) (w : World) (h : Row kStr w (· < w.heap.size) A n l) (hn : n ≤ 1000000000000) :
    Calls Try.prog 15 #[.slice A n c] w fun e w' => ∃ v, e = .returned v ∧ Gath w w' v codeS l 3 3 3 := by
  have HS := Lib.hid (some_code A n c l w h hn)
  clear h
  go_enter Try.func15, Try.ntmps15
  go_wp2_with fail
  refine HS.out.mono ?_
  rintro e w1 ⟨v, rfl, hg⟩
  have HG := Lib.hid hg
  clear hg
  go_wp2
  go_ret
  exact ⟨v, rfl, HG.out⟩

theorem rcodes_any (A : Option Addr) (n c : Nat) (l : List ByteArray) (F : Nat → Prop) (w : World) (h : Row kStr w F A n l) (hn : n ≤ 1000000000000) :
    Calls Try.prog 22 #[.slice A n c] w fun e w' => e = .returned (.bool (Sc.namesB l 4)) ∧ Hl.Drawn w w' := by
  have HS := Lib.hid (Sc.rnames_any A n c l 4 F w h hn)
  obtain ⟨b, hb⟩ : ∃ b, Sc.namesB l 4 = b := ⟨_, rfl⟩
  rw [hb] at HS ⊢
  clear h hb
  go_enter Try.func22, Try.ntmps22
  go_wp2_with fail
  refine HS.out.mono ?_
  rintro e w1 ⟨rfl, hD⟩
  have HD := Lib.hid hD
  clear hD
  go_wp2
  go_ret
  exact ⟨rfl, HD.out⟩

end Go.Proofs.Ytgimcleeamlgcaa.Py
