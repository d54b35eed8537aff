/- The landed Codes. -/
import Derived.Test.YtgimcleeamlgcaaPmO
import Derived.Test.YtgimcleeamlgcaaPyK
set_option maxRecDepth 100000

set_option linter.unusedVariables false
namespace Go.Proofs.Ytgimcleeamlgcaa.Pm
open Go.ChangeShapes Go.WideShapes Go.ChangeAt Go.RowKit
open Kd (Row kStr row_str)
open Sc (namesB UpTo bad_name bad_step)

set_option maxHeartbeats 1000000 in
theorem codes_any (A : Option Addr) (n c : Nat) (l : List ByteArray) (F : Nat → Prop) (w : World) (h : Row kStr w F A n l) (hn : n ≤ 1000000000000) :
    Calls Try.prog 21 #[.slice A n c] w fun e w' => e = .returned (.bool (namesB l 4)) ∧ w' = w := by
  have hlen := h.len
  by_cases hm : 4 < n
  · have HG : Hid (namesB l 4 = false) := Lib.hid (Sc.namesB_no fun g => by have := g.few; omega)
    have k1 : (4 : Int) < (n : Int) := by omega
    clear h hlen
    go_enter Try.func21, Try.ntmps21
    go_wp2
    go_ret
    exact ⟨by rw [HG.out]; rfl, rfl⟩
  · have HH := Lib.hid h
    have HL := Lib.hid hlen
    have k4 : ¬ (4 : Int) < (n : Int) := by omega
    clear h hlen
    go_enter Try.func21, Try.ntmps21
    go_wp2
    go_loopw [10] (fun s10 wr => ∃ k : Nat, s10 = .int .i64 k ∧ k ≤ n ∧ wr = w ∧ Hid (UpTo l k)) (fun s10 _ => n - (intOf s10).toNat)
    case atStart => exact ⟨0, rfl, by omega, rfl, Lib.hid ⟨fun i x hi => by omega, fun i x y hi => by omega⟩⟩
    case round =>
      obtain ⟨k, rfl, hk, rfl, HU⟩ := hrel
      by_cases hlt : k < n
      · obtain ⟨x, hx⟩ := HH.out.get hlt
        obtain ⟨g, o, rfl, _, _, hok, c0⟩ := row_str HH.out hx
        have HX := Lib.hid hx
        have N1 := Lib.hid (fun W => Gd.name_any x W hok)
        have k1 : (k : Int) < (n : Int) := by omega
        have kk : (0 : Int) ≤ (k : Int) := by omega
        clear hx hok
        cases n1 : Sr.name x with
        | false =>
          simp only [n1] at N1
          have HB := Lib.hid (bad_name (m := 4) HX.out n1)
          clear n1
          go_wp2_with fail
          refine (N1.out _).mono ?_
          rintro e w1 ⟨rfl, rfl⟩
          go_wp2
          go_ret
          exact ⟨by rw [HB.out]; rfl, rfl⟩
        | true =>
          simp only [n1] at N1
          by_cases k0 : 0 < k
          · obtain ⟨y, hy⟩ := HH.out.get (k := k - 1) (by omega)
            obtain ⟨g', o', hA, _, _, _, d0⟩ := row_str HH.out hy
            injection hA with hA
            injection hA with hA1 hA2
            subst hA1 hA2
            have HY := Lib.hid hy
            have j0 : (0 : Int) < (k : Int) := by omega
            have j1 : (0 : Int) ≤ (k : Int) - 1 := by omega
            have j2 : (k : Int) - 1 < (n : Int) := by omega
            have j3 : ((k : Int) - 1).toNat = k - 1 := by omega
            have hle := fun W => Sc.leq_str x y W
            clear hy
            cases hB : Sr.lt y x with
            | true =>
              simp only [hB] at hle
              have HU2 := Lib.hid (HU.out.next HX.out n1 fun z _ hz => by
                rw [HY.out] at hz; injection hz with hz; subst hz; exact hB)
              clear hB n1
              go_wp2_with fail
              refine (N1.out _).mono ?_
              rintro e w1 ⟨rfl, rfl⟩
              go_wp2
              go_roundw
              case rel => exact ⟨k + 1, by go_num, by omega, by trivial, Lib.hid HU2.out⟩
              case measure => simp [intOf]; omega
            | false =>
              simp only [hB] at hle
              have HB := Lib.hid (bad_step (m := 4) HX.out HY.out k0 hB)
              clear hB n1
              go_wp2_with fail
              refine (N1.out _).mono ?_
              rintro e w1 ⟨rfl, rfl⟩
              go_wp2
              go_ret
              exact ⟨by rw [HB.out]; rfl, rfl⟩
          · have j0 : ¬ (0 : Int) < (k : Int) := by omega
            have HU2 := Lib.hid (HU.out.next HX.out n1 fun z h => by omega)
            clear n1
            go_wp2_with fail
            refine (N1.out _).mono ?_
            rintro e w1 ⟨rfl, rfl⟩
            go_wp2
            go_roundw
            case rel => exact ⟨k + 1, by go_num, by omega, by trivial, Lib.hid HU2.out⟩
            case measure => simp [intOf]; omega
      · obtain rfl : k = n := by omega
        have k1 : ¬ (k : Int) < (k : Int) := by omega
        have HG : Hid (namesB l 4 = true) := Lib.hid (by
          have h1 := HU.out
          have h2 := HL.out
          rw [← h2] at h1
          rw [h1.names, decide_eq_true (by omega)])
        go_wp2
        go_ret
        exact ⟨by rw [HG.out]; rfl, rfl⟩

end Go.Proofs.Ytgimcleeamlgcaa.Pm
