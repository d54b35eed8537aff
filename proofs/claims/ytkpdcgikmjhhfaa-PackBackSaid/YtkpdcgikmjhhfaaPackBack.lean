/- What follows of P4.1 and P4.2: what is written, up to forty numbers, texts and flags, is read as it was; with bytes behind it is not the end; for every slice of steps and slice of bytes. No conditions. -/
import Derived.Test.YtkpdcgikmjhhfaaPkF
import Derived.Test.YtkpdcgikmjhhfaaKitC
namespace Go.Proofs.Ytkpdcgikmjhhfaa.packBack
open Go.ChangeShapes Go.WideShapes Go.ChangeAt Go.RowKit
set_option linter.unusedVariables false

theorem own : ownKnob Try.prog.godebug = none := by kernel_rfl

theorem pre_encs (o : Nat → Pk.Stp) : ∀ (m k : Nat), ∃ R, Pk.encs o (k + m) = Pk.encs o k ++ R
  | 0, k => ⟨[], by simp⟩
  | m + 1, k => by
    obtain ⟨R, h⟩ := pre_encs o m k
    refine ⟨R ++ Pk.enc (o (k + m)), ?_⟩
    rw [← List.append_assoc, ← h]
    rfl

theorem rest_encs (o : Nat → Pk.Stp) (n k : Nat) (R : List UInt8) (hk : k < n) (h : Pk.encs o n = Pk.encs o k ++ R) : ∃ R', Pk.encs o n = Pk.encs o (k + 1) ++ R' ∧ R = Pk.enc (o k) ++ R' := by
  obtain ⟨R', h'⟩ := pre_encs o (n - (k + 1)) (k + 1)
  rw [show k + 1 + (n - (k + 1)) = n by omega] at h'
  refine ⟨R', h', ?_⟩
  have e : Pk.encs o (k + 1) = Pk.encs o k ++ Pk.enc (o k) := rfl
  rw [h', e, List.append_assoc] at h
  exact (List.append_cancel_left h).symm

theorem none_left {l R : List UInt8} (h : l = l ++ R) : R = [] := by
  have := congrArg List.length h
  rw [List.length_append] at this
  exact List.eq_nil_of_length_eq_zero (by omega)

theorem many (w : World) (A : Option Addr) (n c : Nat) (o : Nat → Pk.Stp) (ha : Pk.Stps w w.heap.size A n o) (hn : n ≤ 9223372036854775807) (hs : ∀ k, k < n → (o k).n ≤ 9223372036854775807 ∧ (o k).s.size ≤ maxLen) (hf : Pk.fewB o n = false) (A2 : Option Addr) (m c2 : Nat) :
    Calls Try.prog 4 #[.slice A n c, .slice A2 m c2] w fun e w' => e = .returned (.bool true) ∧ Below w.heap.size w w' := by
  have HFW := Pk.few_any A n c o w.heap.size w ha hn (fun k hk => (hs k hk).2)
  rw [hf] at HFW
  have HFF := Lib.hid HFW
  clear HFW ha hs hf
  go_enter Try.func4, Try.ntmps4
  go_wp2_with fail
  refine HFF.out.mono ?_
  rintro e w1 ⟨rfl, rfl⟩
  go_wp2_with fail
  refine (Pk.awake_any _).mono ?_
  rintro e w1 ⟨rfl, hb⟩
  go_wp2
  go_ret
  exact ⟨rfl, hb⟩

theorem long (w : World) (A : Option Addr) (n c : Nat) (o : Nat → Pk.Stp) (ha : Pk.Stps w w.heap.size A n o) (hn : n ≤ 9223372036854775807) (hs : ∀ k, k < n → (o k).n ≤ 9223372036854775807 ∧ (o k).s.size ≤ maxLen) (hf : Pk.fewB o n = true) (A2 : Option Addr) (m c2 : Nat) (hm : m ≤ 9223372036854775807) (hl : 100 < m) :
    Calls Try.prog 4 #[.slice A n c, .slice A2 m c2] w fun e w' => e = .returned (.bool true) ∧ Below w.heap.size w w' := by
  have HFW := Pk.few_any A n c o w.heap.size w ha hn (fun k hk => (hs k hk).2)
  rw [hf] at HFW
  have HFF := Lib.hid HFW
  have m1 : (100 : Int) < (m : Int) := by omega
  clear HFW ha hs hf
  go_enter Try.func4, Try.ntmps4
  go_wp2_with fail
  refine HFF.out.mono ?_
  rintro e w1 ⟨rfl, rfl⟩
  go_wp2_with fail
  refine (Pk.awake_any _).mono ?_
  rintro e w1 ⟨rfl, hb⟩
  go_wp2
  go_ret
  exact ⟨rfl, hb⟩

/-- The reader, and what was there. -/
structure Rd (w wi : World) (q : Nat) (r : Option Nat) (l : List UInt8) : Prop where
  rd : Pk.IsR wi q r l 0
  low : w.heap.size ≤ q
  below : Below w.heap.size w wi

theorem Rd.next {w wi wj : World} {q : Nat} {r : Option Nat} {l : List UInt8} (h : Rd w wi q r l) (hb : Below wi.heap.size wi wj) : Rd w wj q r l := ⟨h.rd.below hb, h.low, h.below.trans (hb.mono h.below.size)⟩

theorem Rd.did {w wi wj : World} {q : Nat} {r : Option Nat} {l m : List UInt8} (h : Rd w wi q r l) (k : Pk.Did wi wj q r m 0) : Rd w wj q r m := ⟨k.1, h.low, h.below.trans (k.toBelow h.rd h.low)⟩

theorem Rd.drew {w wi : World} {q : Nat} {r : Option Nat} {l : List UInt8} (h : Rd w wi q r l) : Rd w wi.drew q r l := h.next ((Below.refl _ _).drew)

/-- What each step reads. -/
theorem read_n (q : Nat) (r : Option Nat) (x : Nat) (rest : List UInt8) (w : World) (hx : x ≤ 9223372036854775807) (h : Pk.IsR w q r (By.num x ++ rest) 0) :
    Calls Try.prog 19 #[.pointer (some ⟨q, 0, none⟩), .int .i64 0, .int .i64 (x : Int)] w fun e w' => e = .returned (.int .i64 (x : Int)) ∧ Pk.Did w w' q r rest 0 := by
  have h1 := Pk.rnum_any q r (By.num x ++ rest) 0 (x : Int) w h
  obtain ⟨a, b, c⟩ := By.numE_num x rest 0 (x : Int) hx (by omega) (by omega)
  rw [a, b, c] at h1
  exact h1

theorem read_s (q : Nat) (r : Option Nat) (s : ByteArray) (rest : List UInt8) (w : World) (hs : s.size ≤ 300) (h : Pk.IsR w q r (By.text s.data.toList ++ rest) 0) :
    Calls Try.prog 20 #[.pointer (some ⟨q, 0, none⟩), .int .i64 300] w fun e w' => e = .returned (.string s) ∧ Pk.Did w w' q r rest 0 := by
  have h1 := Pk.rtext_any q r (By.text s.data.toList ++ rest) 300 w h
  obtain ⟨a, b, c⟩ := By.textE_text s.data.toList rest 300 (by rw [By.size_list]; omega) (by rw [By.size_list]; omega)
  rw [a, b, c, By.strOf_back] at h1
  exact h1

theorem read_b (q : Nat) (r : Option Nat) (x : Bool) (rest : List UInt8) (w : World) (h : Pk.IsR w q r (By.flag x ++ rest) 0) :
    Calls Try.prog 21 #[.pointer (some ⟨q, 0, none⟩)] w fun e w' => e = .returned (.bool x) ∧ Pk.Did w w' q r rest 0 := by
  have h1 := Pk.rflag_any q r (By.flag x ++ rest) w h
  rw [By.flag_num] at h1
  obtain ⟨a, b, c⟩ := By.numE_num (if x then 1 else 0) rest 0 1 (by split <;> omega) (by omega) (by split <;> omega)
  rw [a, b, c] at h1
  have e : ((((if x then 1 else 0 : Nat)) : Int) == 1) = x := by cases x <;> rfl
  rw [e] at h1
  exact h1

set_option maxHeartbeats 8000000 in
set_option maxRecDepth 100000 in
theorem short (w : World) (A : Option Addr) (n c : Nat) (o : Nat → Pk.Stp) (ha : Pk.Stps w w.heap.size A n o) (hn : n ≤ 9223372036854775807) (hs : ∀ k, k < n → (o k).n ≤ 9223372036854775807 ∧ (o k).s.size ≤ maxLen) (hf : Pk.fewB o n = true) (A2 : Option Addr) (m c2 : Nat) (more : List UInt8) (hy : By.Bys w w.heap.size A2 m more) (hm : m ≤ 100) (hA2 : A2 = none → m = 0 ∧ c2 = 0) :
    Calls Try.prog 4 #[.slice A n c, .slice A2 m c2] w fun e w' => e = .returned (.bool true) ∧ Below w.heap.size w w' := by
  obtain ⟨i0, hi0, hz0, hz1, hz2⟩ := info_parts By.info_u8
  have HFW := Pk.few_any A n c o w.heap.size w ha hn (fun k hk => (hs k hk).2)
  rw [hf] at HFW
  have HFF := Lib.hid HFW
  obtain ⟨hn40, hs300⟩ := Pk.fewB_yes hf
  have HS := Lib.hid (And.intro (fun k hk => (hs k hk).1) hs300)
  have HEL : Hid ((Pk.encs o n).length ≤ 20000) := Lib.hid (by have := Pk.encs_len HS.out.1 HS.out.2 n (Nat.le_refl _); omega)
  have HST := Lib.hid ha
  have HWR := Lib.hid (Pk.write_any A n c o w ha hn40 HS.out.2 HS.out.1)
  have n1 : (n : Int) ≤ 40 := by omega
  have m1 : ¬ (100 : Int) < (m : Int) := by omega
  have HY := Lib.hid (And.intro hy hA2)
  have HML := Lib.hid hy.len
  clear HFW ha hs hf hs300 hn hy hA2
  go_enter Try.func4, Try.ntmps4
  go_wp2_with fail
  refine HFF.out.mono ?_
  rintro e w1 ⟨rfl, rfl⟩
  go_wp2_with fail
  refine HWR.out.mono ?_
  rintro e w1 ⟨A1, c1, rfl, ho, hb⟩
  have HO := Lib.hid (And.intro ho hb)
  have hws := hb.size
  have hel := HEL.out
  clear ho hb
  go_wp2_with ((at_builtin; refine By.wpList_append_bytes _ rfl _ _ 26 rfl w.heap.size 5 i0 Try.underlying26 hi0 hz0 hz1 hz2 (.slice A1 (Pk.encs o n).length c1) (Pk.encs o n).length (Pk.encs o n) rfl HO.out.1 w.heap.size A2 m c2 more rfl (HY.out.1.below HO.out.2 (Nat.le_refl _)) HY.out.2 (by omega) hws ?_; intro v' w2 hown hgrow hfr; obtain ⟨A3, c3, rfl⟩ := Mv.own_value hown))
  have HR := Lib.hid (Pk.read_any A3 ((Pk.encs o n).length + m) c3 w2.heap.size (Pk.encs o n ++ more) w2 (By.Bys.own hown) (Mv.own_none hown) (by omega))
  have HB2 := Lib.hid (HO.out.2.grown hgrow hws (fun g hg => (World.ownsRow.lt HO.out.1 g hg).1))
  clear hown hgrow hfr HWR HO hel
  refine HR.out.mono ?_
  rintro e w3 ⟨q, r, rfl, hR, hq, hr, hb⟩
  have H3 : Hid (Rd w w3 q r (Pk.encs o n ++ more)) := Lib.hid ⟨hR, by have := HB2.out.size; omega, HB2.out.trans (hb.mono HB2.out.size)⟩
  clear hR hq hr hb HR HB2
  go_wp2_with fail
  refine (Pk.awake_any _).mono ?_
  rintro e w4 ⟨rfl, hb⟩
  have H4 := Lib.hid (H3.out.next hb)
  clear hb H3 hws
  go_wp2
  go_loopw [6] (fun s6 wr => ∃ (k : Nat) (R : List UInt8), s6 = .int .i64 (k : Int) ∧ k ≤ n ∧ Pk.encs o n = Pk.encs o k ++ R ∧ Rd w wr q r (R ++ more)) (fun s6 _ => n - (intOf s6).toNat)
  case atStart => exact ⟨0, Pk.encs o n, rfl, by omega, rfl, H4.out⟩
  case round =>
    clear H4 HFF
    obtain ⟨k, R, rfl, hk, hE, hR⟩ := hrel
    have k0 : (0 : Int) ≤ (k : Int) := by omega
    by_cases hlt : k < n
    · have k1 : (k : Int) < (n : Int) := by omega
      have k2 : decide (k < n) = true := by simp; omega
      obtain ⟨b, off, rfl, hbm, a0, a1, a2, a3, a4, a5⟩ := HST.out k hlt
      have hB := hR.below
      have c0 := (hB.cell (p := ⟨b, off + k * 6, none⟩) hbm).trans a0
      have c1 := (hB.cell (p := ⟨b, off + k * 6 + 1, none⟩) hbm).trans a1
      have c2 := (hB.cell (p := ⟨b, off + k * 6 + 2, none⟩) hbm).trans a2
      have c3 := (hB.cell (p := ⟨b, off + k * 6 + 3, none⟩) hbm).trans a3
      have c4 := (hB.cell (p := ⟨b, off + k * 6 + 4, none⟩) hbm).trans a4
      have c5 := (hB.cell (p := ⟨b, off + k * 6 + 5, none⟩) hbm).trans a5
      have hbr : b < wr.heap.size := by have := hB.size; omega
      have hbq : b < q := by have := hR.low; omega
      obtain ⟨R', hE', hRR⟩ := rest_encs o n k R hlt hE
      subst hRR
      have HE' := Lib.hid hE'
      have HSM := Lib.hid (And.intro (HS.out.1 k hlt) (HS.out.2 k hlt))
      have hkd := Pk.kindOf_lt (o k).kind
      have HR := Lib.hid hR
      clear hB a0 a1 a2 a3 a4 a5 hbm hR hE hE'
      go_wp2_with fail
      refine (Pk.kind_any (o k) wr).mono ?_
      rintro e w5 ⟨rfl, hb2⟩
      have H5 := Lib.hid (HR.out.next hb2)
      have d0 := (hb2.cell (p := ⟨b, off + k * 6 + 3, none⟩) hbr).trans c3
      have d1 := (hb2.cell (p := ⟨b, off + k * 6 + 4, none⟩) hbr).trans c4
      have d2 := (hb2.cell (p := ⟨b, off + k * 6 + 5, none⟩) hbr).trans c5
      have hbr2 : b < w5.heap.size := by have := hb2.size; omega
      clear c0 c1 c2 c3 c4 c5 hb2 HR hbr
      by_cases e0 : Pk.kindOf (o k).kind = 0
      · have HE : Hid (Pk.enc (o k) = By.num (o k).n.toNat) := Lib.hid (by unfold Pk.enc; rw [if_pos e0])
        obtain ⟨x, hx⟩ : ∃ x : Nat, (o k).n.toNat = x := ⟨_, rfl⟩
        have hmx : (if (o k).n < 0 then 0 else (o k).n) = (x : Int) := by split <;> omega
        have hmx2 : (if 0 < (o k).n then (o k).n else 0) = (x : Int) := by split <;> omega
        have hxx : (x : Int) ≤ 9223372036854775807 := by have := HSM.out.1; omega
        have bx : ((x : Int) != (x : Int)) = false := by simp
        have H6 : Hid (Rd w w5 q r (By.num x ++ (R' ++ more))) := Lib.hid (by
          have h := H5.out
          rw [HE.out, hx, List.append_assoc] at h
          exact h)
        rw [e0]
        clear e0 hkd H5 HE hx
        go_wp2_with fail
        refine (read_n q r x _ w5 (by omega) H6.out.rd).mono ?_
        rintro e w6 ⟨rfl, hd⟩
        have H7 := Lib.hid (H6.out.did hd)
        clear hd H6
        go_wp2
        go_roundw
        case rel => exact ⟨k + 1, R', by go_num, by omega, HE'.out, H7.out⟩
        case measure => simp [intOf]; omega
      · by_cases e1 : Pk.kindOf (o k).kind = 1
        · have HE : Hid (Pk.enc (o k) = By.text (o k).s.data.toList) := Lib.hid (by unfold Pk.enc; rw [if_neg e0, if_pos e1])
          have H6 : Hid (Rd w w5.drew q r (By.text (o k).s.data.toList ++ (R' ++ more))) := Lib.hid (by
            have h := H5.out.drew
            rw [HE.out, List.append_assoc] at h
            exact h)
          generalize hs' : (o k).s = s at *
          have HC := Lib.hid (read_s q r s _ w5.drew HSM.out.2 H6.out.rd)
          have bs : (s.toList != s.toList) = false := by simp
          rw [e1]
          clear e0 e1 hkd H5 HE hs'
          go_wp2_with fail
          go_region_held3 (fun u => u.cell? ⟨b, off + k * 6 + 4, none⟩ = some (.string s))
            (first
              | go_keep
              | (rw [hcc]; assumption))
            (first | (go_at_call 20; refine HC.out.mono ?_; rintro e w6 ⟨rfl, hd⟩; have hcc := hd.2.cell (g := b) (o := off + k * 6 + 4) hbr2 (fun e => by have e' : b = q := e; omega)))
          have H7 := Lib.hid (H6.out.did hd)
          clear hd H6
          go_wp2
          go_roundw
          case rel => exact ⟨k + 1, R', by go_num, by omega, HE'.out, H7.out⟩
          case measure => simp [intOf]; omega
        · have HE : Hid (Pk.enc (o k) = By.flag (o k).is) := Lib.hid (by unfold Pk.enc; rw [if_neg e0, if_neg e1])
          have e2 : Pk.kindOf (o k).kind = 2 := by omega
          have H6 : Hid (Rd w w5.drew q r (By.flag (o k).is ++ (R' ++ more))) := Lib.hid (by
            have h := H5.out.drew
            rw [HE.out, List.append_assoc] at h
            exact h)
          generalize hs' : (o k).is = s at *
          have HC := Lib.hid (read_b q r s _ w5.drew H6.out.rd)
          have bs : (s != s) = false := by simp
          rw [e2]
          clear e0 e1 e2 hkd H5 HE hs'
          go_wp2_with fail
          go_region_held3 (fun u => u.cell? ⟨b, off + k * 6 + 5, none⟩ = some (.bool s))
            (first
              | go_keep
              | (rw [hcc]; assumption))
            (first | (go_at_call 21; refine HC.out.mono ?_; rintro e w6 ⟨rfl, hd⟩; have hcc := hd.2.cell (g := b) (o := off + k * 6 + 5) hbr2 (fun e => by have e' : b = q := e; omega)))
          have H7 := Lib.hid (H6.out.did hd)
          clear hd H6
          go_wp2
          go_roundw
          case rel => exact ⟨k + 1, R', by go_num, by omega, HE'.out, H7.out⟩
          case measure => simp [intOf]; omega
    · have hkn : k = n := by omega
      subst hkn
      have k1 : ¬ (k : Int) < (k : Int) := by omega
      have k2 : decide (k < k) = false := by simp
      have hR0 := none_left hE
      subst hR0
      rw [List.nil_append] at hR
      have HR := Lib.hid hR
      clear hR hE
      by_cases hm0 : m = 0
      · have m2 : ((m : Int) == 0) = true := by simp [hm0]
        have HEN : Hid (Pk.endE more 0 = 0) := Lib.hid (by unfold Pk.endE; rw [if_neg (by simp), if_neg (by have := HML.out; omega)])
        clear hm0
        go_wp2_with fail
        refine (Pk.rerr_any q r _ 0 _ HR.out.rd).mono ?_
        rintro e w6 ⟨rfl, rfl⟩
        go_wp2_with fail
        refine (Pk.rend_any q r _ 0 _ HR.out.rd).mono ?_
        rintro e w6 ⟨rfl, rfl⟩
        rw [HEN.out]
        go_wp2
        go_ret
        exact ⟨rfl, HR.out.below⟩
      · have m2 : ((m : Int) == 0) = false := beq_eq_false_iff_ne.2 (by omega)
        have HEN : Hid (Pk.endE more 0 = 4) := Lib.hid (by unfold Pk.endE; rw [if_neg (by simp), if_pos (by have := HML.out; omega)])
        clear hm0
        go_wp2_with fail
        refine (Pk.rerr_any q r _ 0 _ HR.out.rd).mono ?_
        rintro e w6 ⟨rfl, rfl⟩
        go_wp2_with fail
        refine (Pk.rend_any q r _ 0 _ HR.out.rd).mono ?_
        rintro e w6 ⟨rfl, rfl⟩
        rw [HEN.out]
        go_wp2
        go_ret
        exact ⟨rfl, HR.out.below⟩

theorem walk (w : World) (A : Option Addr) (n c : Nat) (o : Nat → Pk.Stp) (ha : Pk.Stps w w.heap.size A n o) (hn : n ≤ 9223372036854775807) (hs : ∀ k, k < n → (o k).n ≤ 9223372036854775807 ∧ (o k).s.size ≤ maxLen)
    (A2 : Option Addr) (m c2 : Nat) (more : List UInt8) (hy : By.Bys w w.heap.size A2 m more) (hm : m ≤ 9223372036854775807) (hA2 : A2 = none → m = 0 ∧ c2 = 0) :
    Calls Try.prog 4 #[.slice A n c, .slice A2 m c2] w fun e w' => e = .returned (.bool true) ∧ Below w.heap.size w w' := by
  rcases Bool.eq_false_or_eq_true (Pk.fewB o n) with hf | hf
  · by_cases hl : 100 < m
    · exact long w A n c o ha hn hs hf A2 m c2 hm hl
    · exact short w A n c o ha hn hs hf A2 m c2 more hy (by omega) hA2
  · exact many w A n c o ha hn hs hf A2 m c2


set_option maxRecDepth 100000 in
theorem lifted (os : Os) (started : os.Started) (H : Type) (enc : TypeId × Value → H) :
    ReturnsInHanded {} Try.checked os 4 .any (Rows.packBackSpec.pre6 enc Try.prog Try.f4 Rows.packBackRow.domain false) (Rows.packBackSpec.post enc Try.prog Try.f4 false true false false) := by
  refine returnsInHanded_of_change (C := Try.checked) own started (by kernel_rfl) Try.func4
    (ChangeSpec.witness6 (enc := enc) (C := Try.checked) false ⟨#[], #[.slice none 0 0, .slice none 0 0], []⟩ 8 (by kernel_rfl) (by kernel_rfl) (by kernel_rfl) (by kernel_rfl)) ?_
  intro W base args ds gs before hval0 hW hcnd _
  have hval : ∀ (j : Nat) t v, Try.f4.params[j]? = some t → args[j]? = some v → Value.okWide Try.prog W .any base t v := hval0
  have hW' := hW
  obtain ⟨p, q, hA0, hV, rfl, hfz, hnd⟩ := hW
  have hA : DataW.TrodAll enc Try.prog W 0 (fun _ => true) true Try.f4.params.toList args.toList ds p := hA0
  rw [Try.params4] at hA hval
  obtain ⟨v0, vs0, d0, ds0, p0, q0, hargs, rfl, rfl, h0, r0⟩ := trodAll_cons hA
  obtain ⟨v1, vs1, d1, ds1, p1, q1, rfl, rfl, rfl, h1, r1⟩ := trodAll_cons r0
  obtain ⟨rfl, rfl, rfl⟩ := trodAll_nil r1
  obtain rfl : args = #[v0, v1] := by cases args; simp_all
  obtain ⟨A0, n0, c0, o0, rfl, x0, y0, z0⟩ := Pk.open_steps (hval 0 22 v0 rfl rfl) h0
  obtain ⟨A1, n1, c1, l1, rfl, x1, y1, z1⟩ := Hk.open_bytes Try.underlying26 Try.underlying5 (by kernel_rfl) (hval 1 26 v1 rfl rfl) h1
  refine (walk W A0 n0 c0 o0 x0 y0 z0 A1 n1 c1 l1 x1 y1 z1).mono fun e W' ⟨he, hb⟩ => ?_
  subst he
  exact ⟨_, rfl, Hk.closeLaw (tb := 4) (by kernel_rfl) (by kernel_rfl) rfl rfl rfl Try.underlying4 hW' hb⟩

theorem over : Rows.packBackRow.holds Try.pinned (OpenSpec.ofChange Rows.packBackSpec) :=
  OpenClaim.holds_of_wide 4 Try.f4 rfl rfl rfl rfl rfl rfl rfl ⟨rfl, rfl, rfl, rfl, rfl⟩ rfl rfl rfl rfl rfl (by kernel_rfl) Try.func4 (by kernel_rfl)
    (of_decide_eq_true (by kernel_rfl)) (by unfold Func.isWrapper; first | (rw [if_pos (by decide +kernel)]; kernel_rfl) | (rw [if_neg (by decide +kernel)]; exact ⟨rfl, rfl⟩))
    (fun os started H enc _ => lifted os started H enc)

/-- The statement. -/
theorem proved : Rows.PackBackSaid :=
  over
end Go.Proofs.Ytkpdcgikmjhhfaa.packBack
