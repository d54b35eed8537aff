/- The statements' own writing of steps: what is written is a list of bytes. -/
import Derived.Test.YtkpdcgikmjhhfaaPkL
namespace Go.Proofs.Ytkpdcgikmjhhfaa.Pk
open Go.ChangeShapes Go.WideShapes Go.ChangeAt Go.RowKit
open Qu (Blk)
open Mv (Only one two)
open By
set_option linter.unusedVariables false

set_option maxHeartbeats 2000000 in
theorem write_any (A : Option Addr) (n c : Nat) (o : Nat → Stp) (w : World) (ha : Stps w w.heap.size A n o) (hn : n ≤ 40) (hs : ∀ k, k < n → (o k).s.size ≤ 300) (hm : ∀ k, k < n → (o k).n ≤ 9223372036854775807) :
    Calls Try.prog 17 #[.slice A n c] w fun e w' => Rowed e w w' (encs o n) := by
  obtain ⟨i0, hi0, hz0, hz1, hz2⟩ := info_parts info_u8
  have n1 : (n : Int) ≤ 40 := by omega
  have HLS := Lib.hid (And.intro hs hm)
  clear hs hm
  go_enter Try.func17, Try.ntmps17
  go_wp2
  go_loopw [3, 4] (fun s3 s4 wr => ∃ k : Nat, s4 = .int .i64 k ∧ k ≤ n ∧ Own8 wr w.heap.size s3 (encs o k) ∧ Below w.heap.size w wr) (fun _ s _ => n - (intOf s).toNat)
  case atStart => exact ⟨0, rfl, by omega, Own8.nil _ _, Below.refl _ _⟩
  case round =>
    obtain ⟨k, rfl, hk, hO, hB⟩ := hrel
    have k0 : (0 : Int) ≤ (k : Int) := by omega
    by_cases hlt : k < n
    · have k1 : (k : Int) < (n : Int) := by omega
      obtain ⟨b, off, rfl, hbm, a0, a1, a2, a3, a4, a5⟩ := ha k hlt
      have c0 := (hB.cell (p := ⟨b, off + k * 6, none⟩) hbm).trans a0
      have c1 := (hB.cell (p := ⟨b, off + k * 6 + 1, none⟩) hbm).trans a1
      have c2 := (hB.cell (p := ⟨b, off + k * 6 + 2, none⟩) hbm).trans a2
      have c3 := (hB.cell (p := ⟨b, off + k * 6 + 3, none⟩) hbm).trans a3
      have c4 := (hB.cell (p := ⟨b, off + k * 6 + 4, none⟩) hbm).trans a4
      have c5 := (hB.cell (p := ⟨b, off + k * 6 + 5, none⟩) hbm).trans a5
      have hbr : b < wr.heap.size := by have := hB.size; omega
      have HA := Lib.hid ha
      have HO := Lib.hid (And.intro hO hB)
      have HLN : Hid ((encs o k).length + (enc (o k)).length ≤ 1000000) := Lib.hid (by
        have h1 := encs_len HLS.out.2 HLS.out.1 k hk
        have h2 := enc_len (HLS.out.2 k hlt) (HLS.out.1 k hlt)
        omega)
      have HSM := Lib.hid (And.intro (HLS.out.2 k hlt) (HLS.out.1 k hlt))
      have hkd := kindOf_lt (o k).kind
      clear ha hO hB a0 a1 a2 a3 a4 a5 hbm
      go_wp2_with fail
      refine (kind_any (o k) wr).mono ?_
      rintro e w2 ⟨rfl, hb2⟩
      have HB2 := Lib.hid hb2
      have d0 := (hb2.cell (p := ⟨b, off + k * 6 + 3, none⟩) hbr).trans c3
      have d1 := (hb2.cell (p := ⟨b, off + k * 6 + 4, none⟩) hbr).trans c4
      have d2 := (hb2.cell (p := ⟨b, off + k * 6 + 5, none⟩) hbr).trans c5
      clear c0 c1 c2 c3 c4 c5 hb2
      by_cases e0 : kindOf (o k).kind = 0
      · have HE : Hid (enc (o k) = num (o k).n.toNat) := Lib.hid (by unfold enc; rw [if_pos e0])
        rw [e0]
        clear e0 hkd
        go_wp2_with fail
        refine (By.rnum_any (o k).n w2 HSM.out.1).mono ?_
        rintro e w3 ⟨A3, c3, rfl, ho, hb⟩
        have HO2 : Hid (w3.ownsRow w.heap.size 5 1 u3 (encs o k).length (cellsB (encs o k))) := Lib.hid (Own8.below (Own8.below HO.out.1 HB2.out) hb)
        have HY := Lib.hid (Bys.own ho)
        have HNN := Lib.hid (Mv.own_none ho)
        have HSZ := Lib.hid (show w.heap.size ≤ w3.heap.size by have := HO.out.2.size; have := HB2.out.size; have := hb.size; omega)
        have HB3 := Lib.hid (HO.out.2.trans ((Hk.andThen HB2.out hb).mono HO.out.2.size))
        have hle := HLN.out
        rw [HE.out] at hle
        clear ho hb
        go_wp2_with ((at_builtin; refine wpList_append_bytes _ rfl _ _ 26 rfl w.heap.size 5 i0 Try.underlying26 hi0 hz0 hz1 hz2 u3 (encs o k).length (encs o k) rfl HO2.out w3.heap.size A3 _ c3 (num (o k).n.toNat) rfl HY.out HNN.out (by omega) HSZ.out ?_; intro v' w' hown hgrow hfr))
        have HF : Hid (Own8 w' w.heap.size v' (encs o (k + 1)) ∧ Below w.heap.size w w') := Lib.hid (by
          refine ⟨?_, HB3.out.grown hgrow HSZ.out (fun g hg => (World.ownsRow.lt HO2.out g hg).1)⟩
          unfold Own8
          rw [encs, HE.out, List.length_append]
          exact hown)
        clear hown hgrow hfr
        go_wp2
        go_roundw
        case rel => exact ⟨k + 1, by go_num, by omega, HF.out.1, HF.out.2⟩
        case measure => simp [intOf]; omega
      · by_cases e1 : kindOf (o k).kind = 1
        · have HE : Hid (enc (o k) = text (o k).s.data.toList) := Lib.hid (by unfold enc; rw [if_neg e0, if_pos e1])
          rw [e1]
          clear e0 e1 hkd
          go_wp2_with fail
          refine (By.rtext_any (o k).s w2 (by have := HSM.out.2; omega)).mono ?_
          rintro e w3 ⟨A3, c3, rfl, ho, hb⟩
          have HO2 : Hid (w3.ownsRow w.heap.size 5 1 u3 (encs o k).length (cellsB (encs o k))) := Lib.hid (Own8.below (Own8.below HO.out.1 HB2.out) hb)
          have HY := Lib.hid (Bys.own ho)
          have HNN := Lib.hid (Mv.own_none ho)
          have HSZ := Lib.hid (show w.heap.size ≤ w3.heap.size by have := HO.out.2.size; have := HB2.out.size; have := hb.size; omega)
          have HB3 := Lib.hid (HO.out.2.trans ((Hk.andThen HB2.out hb).mono HO.out.2.size))
          have hle := HLN.out
          rw [HE.out] at hle
          clear ho hb
          go_wp2_with ((at_builtin; refine wpList_append_bytes _ rfl _ _ 26 rfl w.heap.size 5 i0 Try.underlying26 hi0 hz0 hz1 hz2 u3 (encs o k).length (encs o k) rfl HO2.out w3.heap.size A3 _ c3 (text (o k).s.data.toList) rfl HY.out HNN.out (by omega) HSZ.out ?_; intro v' w' hown hgrow hfr))
          have HF : Hid (Own8 w' w.heap.size v' (encs o (k + 1)) ∧ Below w.heap.size w w') := Lib.hid (by
            refine ⟨?_, HB3.out.grown hgrow HSZ.out (fun g hg => (World.ownsRow.lt HO2.out g hg).1)⟩
            unfold Own8
            rw [encs, HE.out, List.length_append]
            exact hown)
          clear hown hgrow hfr
          go_wp2
          go_roundw
          case rel => exact ⟨k + 1, by go_num, by omega, HF.out.1, HF.out.2⟩
          case measure => simp [intOf]; omega
        · have HE : Hid (enc (o k) = flag (o k).is) := Lib.hid (by unfold enc; rw [if_neg e0, if_neg e1])
          have e2 : kindOf (o k).kind = 2 := by omega
          rw [e2]
          clear e0 e1 e2 hkd
          go_wp2_with fail
          refine (By.rflag_any (o k).is w2).mono ?_
          rintro e w3 ⟨A3, c3, rfl, ho, hb⟩
          have HO2 : Hid (w3.ownsRow w.heap.size 5 1 u3 (encs o k).length (cellsB (encs o k))) := Lib.hid (Own8.below (Own8.below HO.out.1 HB2.out) hb)
          have HY := Lib.hid (Bys.own ho)
          have HNN := Lib.hid (Mv.own_none ho)
          have HSZ := Lib.hid (show w.heap.size ≤ w3.heap.size by have := HO.out.2.size; have := HB2.out.size; have := hb.size; omega)
          have HB3 := Lib.hid (HO.out.2.trans ((Hk.andThen HB2.out hb).mono HO.out.2.size))
          have hle := HLN.out
          rw [HE.out] at hle
          clear ho hb
          go_wp2_with ((at_builtin; refine wpList_append_bytes _ rfl _ _ 26 rfl w.heap.size 5 i0 Try.underlying26 hi0 hz0 hz1 hz2 u3 (encs o k).length (encs o k) rfl HO2.out w3.heap.size A3 _ c3 (flag (o k).is) rfl HY.out HNN.out (by omega) HSZ.out ?_; intro v' w' hown hgrow hfr))
          have HF : Hid (Own8 w' w.heap.size v' (encs o (k + 1)) ∧ Below w.heap.size w w') := Lib.hid (by
            refine ⟨?_, HB3.out.grown hgrow HSZ.out (fun g hg => (World.ownsRow.lt HO2.out g hg).1)⟩
            unfold Own8
            rw [encs, HE.out, List.length_append]
            exact hown)
          clear hown hgrow hfr
          go_wp2
          go_roundw
          case rel => exact ⟨k + 1, by go_num, by omega, HF.out.1, HF.out.2⟩
          case measure => simp [intOf]; omega
    · have hkn : k = n := by omega
      subst hkn
      have k1 : ¬ (k : Int) < (k : Int) := by omega
      obtain ⟨A', c', rfl⟩ := Mv.own_value hO
      have HF : Hid (Rowed (.returned (.slice A' (encs o k).length c')) w wr (encs o k)) := Lib.hid ⟨A', c', rfl, hO, hB⟩
      clear ha hO hB
      go_wp2
      go_ret
      exact HF.out

end Go.Proofs.Ytkpdcgikmjhhfaa.Pk
