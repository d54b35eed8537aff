/- The document's scopes: names, has, Scope, Has, Index. · The document's parts and tiers. · The landed package scope: what .. -/
import Derived.Deep.RegionHeld3
import Derived.Test.YtljmddjlnlmenaaGreatPq1
import Derived.Test.YtljmddjlnlmenaaGreatPq15
import Derived.Test.YtljmddjlnlmenaaGreatPq2
import Derived.Test.YtljmddjlnlmenaaGreatPq7
set_option maxRecDepth 100000
set_option linter.unusedVariables false

section
namespace Go.Proofs.YtljmddjlnlmenaaGreat.Sc
open Go.ChangeShapes Go.WideShapes Go.ChangeAt Go.RowKit
open It (Itm kItem row_item)
open Ap (Scp kScp row_Scp)
open Kd (Row Fit Lst Sl kStr kInt kList row_str Deep But Own)
theorem leq_str (a b : ByteArray) (W : World) : (binOp .leq 9 (.string a) (.string b)).run Tryz.prog W = .ok (.bool (!Sr.lt b a)) W := by
  have e : binOp .leq 9 (.string a) (.string b) = pure (.bool (Op.bytesLess a.toList b.toList || a.toList == b.toList)) := by simp [binOp, Op.stringOp]
  rw [e, Sr.le_iff]
  rfl
set_option maxHeartbeats 2000000 in
theorem rnames_any (A : Option Addr) (n c : Nat) (l : List ByteArray) (m : Int) (F : Nat -> Prop) (w : World) (h : Row kStr w F A n l) (hn : n <= 9223372036854775807) :
    Calls Tryz.prog 98 #[.slice A n c, .int .i64 m] w fun e w' => e = .returned (.bool (namesB l m)) /\ Hl.Drawn w w' := by
  have hlen := h.len
  have HH := Lib.hid h
  have HL := Lib.hid hlen
  clear h hlen
  go_enter Tryz.func98, Tryz.ntmps98
  go_wp2
  go_loopw [5] (fun s5 wr => ∃ k : Nat, s5 = .int .i64 k /\ k <= n /\ Hl.Drawn w wr /\ UpTo l k) (fun s5 _ => n - (intOf s5).toNat)
  case atStart => exact ⟨0, rfl, by omega, ⟨0, rfl⟩, ⟨fun i x hi => by omega, fun i x y hi => by omega⟩⟩
  case round =>
    obtain ⟨k, rfl, hk, hD, hU⟩ := hrel
    have HU := Lib.hid hU
    clear hU
    by_cases hlt : k < n
    . obtain ⟨x, hx⟩ := HH.out.get hlt
      obtain ⟨g, o, rfl, _, _, hok, a0⟩ := row_str HH.out hx
      have c0 : wr.cell? ⟨g, o + k, none⟩ = some (.string x) := by obtain ⟨d, rfl⟩ := hD; exact a0
      have HX := Lib.hid hx
      have N1 := Lib.hid (fun W => Py.rname_any x W hok)
      have k1 : (k : Int) < (n : Int) := by omega
      have kk : (0 : Int) <= (k : Int) := by omega
      clear a0 hx hok
      cases n1 : Sr.name x with
      | false =>
        simp only [n1] at N1
        have HB := Lib.hid (bad_name (m := m) HX.out n1)
        have HD := Lib.hid hD
        clear n1 hD
        go_wp2_with fail
        go_quiet ((go_at_call 64; exact Calls.quiet_of_same (N1.out _)))
        go_wp2
        go_ret
        exact ⟨by rw [HB.out]; rfl, HD.out.more _⟩
      | true =>
        simp only [n1] at N1
        by_cases k0 : 0 < k
        . obtain ⟨y, hy⟩ := HH.out.get (k := k - 1) (by omega)
          obtain ⟨g', o', hA, _, _, _, b1⟩ := row_str HH.out hy
          injection hA with hA
          injection hA with hA1 hA2
          subst hA1 hA2
          have d0 : wr.cell? ⟨g, o + (k - 1), none⟩ = some (.string y) := by obtain ⟨d, rfl⟩ := hD; exact b1
          have HD := Lib.hid hD
          have HY := Lib.hid hy
          have j0 : (0 : Int) < (k : Int) := by omega
          have j1 : (0 : Int) <= (k : Int) - 1 := by omega
          have j2 : (k : Int) - 1 < (n : Int) := by omega
          have j3 : ((k : Int) - 1).toNat = k - 1 := by omega
          have hle := fun W => leq_str x y W
          clear hD b1 hy
          cases hB : Sr.lt y x with
          | true =>
            simp only [hB] at hle
            have HU2 := Lib.hid (HU.out.next HX.out n1 fun z _ hz => by
              rw [HY.out] at hz; injection hz with hz; subst hz; exact hB)
            clear hB n1
            go_wp2_with fail
            go_quiet ((go_at_call 64; exact Calls.quiet_of_same (N1.out _)))
            go_wp2
            go_roundw
            case rel => exact ⟨k + 1, by go_num, by omega, HD.out.more _, HU2.out⟩
            case measure => simp [intOf]; omega
          | false =>
            simp only [hB] at hle
            have HB := Lib.hid (bad_step (m := m) HX.out HY.out k0 hB)
            clear hB n1
            go_wp2_with fail
            go_quiet ((go_at_call 64; exact Calls.quiet_of_same (N1.out _)))
            go_wp2
            go_ret
            exact ⟨by rw [HB.out]; rfl, HD.out.more _⟩
        . have j0 : ¬ (0 : Int) < (k : Int) := by omega
          have HU2 := Lib.hid (HU.out.next HX.out n1 fun z h => by omega)
          have HD := Lib.hid hD
          clear hD n1
          go_wp2_with fail
          go_quiet ((go_at_call 64; exact Calls.quiet_of_same (N1.out _)))
          go_wp2
          go_roundw
          case rel => exact ⟨k + 1, by go_num, by omega, HD.out.more _, HU2.out⟩
          case measure => simp [intOf]; omega
    . obtain rfl : k = n := by omega
      have k1 : ¬ (k : Int) < (k : Int) := by omega
      have HG : Hid (namesB l m = decide ((k : Int) <= m)) := Lib.hid (by
        have h1 := HU.out
        have h2 := HL.out
        rw [<- h2] at h1 ⊢
        exact h1.names)
      go_wp2
      go_ret
      exact ⟨by rw [HG.out]; rfl, hD⟩
def Small (l : Scp.Lay) : Prop := l.skus.n <= 9223372036854775807 /\ l.cats.n <= 9223372036854775807
theorem rscope_any (s : Scp) (l : Scp.Lay) (w : World) (h : Scp.Holds w (· < w.heap.size) s l) (hl : Small l) :
    Calls Tryz.prog 65 #[.agg #[.slice l.skus.A l.skus.n l.skus.c, .slice l.cats.A l.cats.n l.cats.c]] w fun e w' => e = .returned (.bool (scopeB s)) /\ Below w.heap.size w w' := by
  obtain ⟨⟨A1, n1, c1⟩, ⟨A2, n2, c2⟩⟩ := l
  have hd : scopeB s = (namesB s.skus 20 && namesB s.cats 20) := rfl
  have HA : Hid (∀ W, Below w.heap.size w W -> Calls Tryz.prog 98 #[.slice A1 n1 c1, .int .i64 20] W fun e w' => e = .returned (.bool (namesB s.skus 20)) /\ Hl.Drawn W w') := Lib.hid fun W hW =>
    rnames_any A1 n1 c1 s.skus 20 _ W (h.skus.row.below hW (Nat.le_refl _)) hl.1
  have HC : Hid (∀ W, Below w.heap.size w W -> Calls Tryz.prog 98 #[.slice A2 n2 c2, .int .i64 20] W fun e w' => e = .returned (.bool (namesB s.cats 20)) /\ Hl.Drawn W w') := Lib.hid fun W hW =>
    rnames_any A2 n2 c2 s.cats 20 _ W (h.cats.row.below hW (Nat.le_refl _)) hl.2
  obtain ⟨w1, hw1⟩ : ∃ w1, w.alloc (.cells #[.slice A1 n1 c1, .slice A2 n2 c2] 24) = w1 := ⟨_, rfl⟩
  have HB1 : Hid (Below w.heap.size w w1) := Lib.hid (by rw [<- hw1]; exact (Below.refl _ _).alloc (Nat.le_refl _) _)
  have hx : Qu.Blk w1 w.heap.size 24 #[.slice A1 n1 c1, .slice A2 n2 c2] := by rw [<- hw1]; exact Qu.Blk.new w _ _
  have x0 := hx.cell 0
  have X1 := Lib.hid (hx.cell 1)
  clear h hl hx
  cases b1 : namesB s.skus 20 with
  | false =>
    simp only [b1] at HA
    have HD : Hid (scopeB s = false) := Lib.hid (by rw [hd, b1]; rfl)
    clear hd b1 X1
    go_enter Tryz.func65, Tryz.ntmps65
    go_wp2_with fail
    refine (HA.out _ HB1.out).mono ?_
    rintro e w2 ⟨rfl, hD⟩
    have HB := Lib.hid (HB1.out.trans (hD.below _))
    clear hD
    go_wp2
    go_ret
    exact ⟨by rw [HD.out]; rfl, HB.out⟩
  | true =>
    simp only [b1] at HA
    have HD : Hid (scopeB s = namesB s.cats 20) := Lib.hid (by rw [hd, b1]; rfl)
    clear hd b1
    go_enter Tryz.func65, Tryz.ntmps65
    go_wp2_with fail
    refine (HA.out _ HB1.out).mono ?_
    rintro e w2 ⟨rfl, hD⟩
    have x1 : w2.cell? ⟨w.heap.size, 1, none⟩ = some (.slice A2 n2 c2) := by obtain ⟨d, rfl⟩ := hD; exact X1.out
    have HB := Lib.hid (HB1.out.trans (hD.below _))
    clear hD
    go_wp2_with fail
    refine (HC.out _ HB.out).mono ?_
    rintro e w3 ⟨rfl, hD⟩
    have HB3 := Lib.hid (HB.out.trans (hD.below _))
    clear hD
    obtain ⟨b, hb⟩ : ∃ b, namesB s.cats 20 = b := ⟨_, rfl⟩
    simp only [hb] at HD ⊢
    clear hb
    go_wp2
    go_ret
    exact ⟨by rw [HD.out]; rfl, HB3.out⟩
end Go.Proofs.YtljmddjlnlmenaaGreat.Sc

end

section
namespace Go.Proofs.YtljmddjlnlmenaaGreat.Pr
open Go.ChangeShapes Go.WideShapes Go.ChangeAt Go.RowKit
open Ap (Scp Prt Tir Prm kPrt kTir kPrm row_Prt row_Tir)
open Kd (Row Fit Lst Sl kStr kInt kList row_str)
def PartsSmall (l : List Prt) : Prop := ∀ (k : Nat) (p : Prt), l[k]? = some p -> p.scope.skus.length <= 9223372036854775807 /\ p.scope.cats.length <= 9223372036854775807
set_option maxHeartbeats 1000000 in
theorem rparts_any (A : Option Addr) (n c : Nat) (l : List Prt) (w : World) (h : Row kPrt w (· < w.heap.size) A n l) (hS : PartsSmall l) (hn : n <= 1000000000000) :
    Calls Tryz.prog 67 #[.slice A n c] w fun e w' => e = .returned (.bool (partsB l)) /\ Below w.heap.size w w' := by
  have hlen := h.len
  have HR := Lib.hid (And.intro h (And.intro hlen hS))
  have HM0 : Hid ((∀ (j : Nat) (p : Prt), j < 0 -> l[j]? = some p -> partB p = true) /\ Below w.heap.size w w) := Lib.hid ⟨fun j p hj => by omega, Below.refl _ _⟩
  clear h hlen hS
  go_enter Tryz.func67, Tryz.ntmps67
  go_wp2
  go_loopw [3] (fun s3 wr => ∃ k : Nat, s3 = .int .i64 k /\ k <= n /\ Hid ((∀ (j : Nat) (p : Prt), j < k -> l[j]? = some p -> partB p = true) /\ Below w.heap.size w wr)) (fun s3 _ => n - (intOf s3).toNat)
  case atStart => exact ⟨0, rfl, by omega, HM0⟩
  case round =>
    clear HM0
    obtain ⟨k, rfl, hk, hM⟩ := hrel
    have k0 : (0 : Int) <= (k : Int) := by omega
    by_cases hlt : k < n
    . have k1 : (k : Int) < (n : Int) := by omega
      obtain ⟨p, hp⟩ := HR.out.1.get hlt
      have hb := hM.out.2
      obtain ⟨g, o, y, rfl, _, hg, hh, a0, a1, a2⟩ := row_Prt (HR.out.1.below hb (Nat.le_refl _)) hp
      have hsm := HR.out.2.2 k p hp
      have l1 := hh.scope.skus.row.len
      have l2 := hh.scope.cats.row.len
      have HSc := Lib.hid (Sc.rscope_any p.scope y.scope wr ⟨hh.scope.skus.more fun b hb2 => Nat.lt_of_lt_of_le hb2 hb.size, hh.scope.cats.more fun b hb2 => Nat.lt_of_lt_of_le hb2 hb.size⟩ ⟨by omega, by omega⟩)
      have HP := Lib.hid hp
      have HA := Lib.hid (And.intro a2 (And.intro hg hb))
      have hgs : g < wr.heap.size := hg
      have hd : partB p = (Sc.scopeB p.scope && decide (1 <= p.count) && decide (p.count <= 100)) := rfl
      clear hp hh hsm l1 l2 a2 hb
      cases h1 : Sc.scopeB p.scope with
      | false =>
        rw [h1] at HSc hd
        have HF : Hid (partsB l = false) := Lib.hid (partsB_no HP.out (by rw [hd]; rfl))
        clear h1 hd
        go_wp2_with fail
        refine HSc.out.mono ?_
        rintro e w2 ⟨rfl, hb2⟩
        have HB2 := Lib.hid (HA.out.2.2.trans (hb2.mono HA.out.2.2.size))
        clear hb2
        go_wp2
        go_ret
        exact ⟨by rw [HF.out]; rfl, HB2.out⟩
      | true =>
        rw [h1] at HSc hd
        have HD := Lib.hid hd
        clear h1 hd
        go_wp2_with fail
        refine HSc.out.mono ?_
        rintro e w2 ⟨rfl, hb2⟩
        have HB2 := Lib.hid (HA.out.2.2.trans (hb2.mono HA.out.2.2.size))
        have d2 := (hb2.cell (p := ⟨g, o + k * 3 + 2, none⟩) hgs).trans HA.out.1
        clear hb2
        by_cases c1 : p.count < 1
        . have HF : Hid (partsB l = false) := Lib.hid (partsB_no HP.out (by rw [HD.out, decide_eq_false (by omega)]; rfl))
          go_wp2
          go_ret
          exact ⟨by rw [HF.out]; rfl, HB2.out⟩
        . by_cases c2 : 100 < p.count
          . have HF : Hid (partsB l = false) := Lib.hid (partsB_no HP.out (by rw [HD.out, decide_eq_true (show 1 <= p.count by omega), decide_eq_false (show ¬ p.count <= 100 by omega)]; rfl))
            go_wp2
            go_ret
            exact ⟨by rw [HF.out]; rfl, HB2.out⟩
          . have HM2 : Hid ((∀ (j : Nat) (q : Prt), j < k + 1 -> l[j]? = some q -> partB q = true) /\ Below w.heap.size w w2) := Lib.hid ⟨fun j q hj hq => by
              rcases Nat.lt_or_ge j k with h1 | h1
              . exact hM.out.1 j q h1 hq
              . obtain rfl : j = k := by omega
                rw [HP.out] at hq
                injection hq with hq
                subst hq
                rw [HD.out, decide_eq_true (show 1 <= p.count by omega), decide_eq_true (show p.count <= 100 by omega)]
                rfl, HB2.out⟩
            clear hM
            go_wp2
            go_roundw
            case rel => exact ⟨k + 1, by go_num, by omega, HM2⟩
            case measure => simp [intOf]; omega
    . obtain rfl : k = n := by omega
      have k1 : ¬ (k : Int) < (k : Int) := by omega
      have HF : Hid (partsB l = (decide (1 <= k) && decide (k <= 3))) := Lib.hid (by
        rw [partsB_end fun j p hp => hM.out.1 j p (by
          have := (List.getElem?_eq_some_iff.1 hp).1
          rw [HR.out.2.1] at this
          exact this) hp, HR.out.2.1])
      by_cases c1 : 1 <= k
      . have d1 : (1 : Int) <= (k : Int) := by omega
        by_cases c2 : k <= 3
        . have d2 : (k : Int) <= 3 := by omega
          have HG : Hid (partsB l = true) := Lib.hid (by rw [HF.out, decide_eq_true c1, decide_eq_true c2]; rfl)
          go_wp2
          go_ret
          exact ⟨by rw [HG.out]; simp, hM.out.2⟩
        . have d2 : ¬ (k : Int) <= 3 := by omega
          have HG : Hid (partsB l = false) := Lib.hid (by rw [HF.out, decide_eq_true c1, decide_eq_false c2]; rfl)
          go_wp2
          go_ret
          exact ⟨by rw [HG.out]; simp, hM.out.2⟩
      . have d1 : ¬ (1 : Int) <= (k : Int) := by omega
        have HG : Hid (partsB l = false) := Lib.hid (by rw [HF.out, decide_eq_false c1]; rfl)
        go_wp2
        go_ret
        exact ⟨by rw [HG.out]; simp, hM.out.2⟩
set_option maxHeartbeats 2000000 in
theorem rtiers_any (A : Option Addr) (n c : Nat) (l : List Tir) (w : World) (h : Row kTir w (· < w.heap.size) A n l) (hn : n <= 1000000000000) :
    Calls Tryz.prog 68 #[.slice A n c] w fun e w' => e = .returned (.bool (tiersB l)) /\ Below w.heap.size w w' := by
  have hlen := h.len
  have HR := Lib.hid (And.intro h hlen)
  have HM0 : Hid (TUp l 0 /\ Below w.heap.size w w) := Lib.hid ⟨⟨fun i t hi => by omega, fun i a b hi => by omega⟩, Below.refl _ _⟩
  clear h hlen
  go_enter Tryz.func68, Tryz.ntmps68
  go_wp2
  go_loopw [3] (fun s3 wr => ∃ k : Nat, s3 = .int .i64 k /\ k <= n /\ Hid (TUp l k /\ Below w.heap.size w wr)) (fun s3 _ => n - (intOf s3).toNat)
  case atStart => exact ⟨0, rfl, by omega, HM0⟩
  case round =>
    clear HM0
    obtain ⟨k, rfl, hk, hM⟩ := hrel
    have k0 : (0 : Int) <= (k : Int) := by omega
    by_cases hlt : k < n
    . have k1 : (k : Int) < (n : Int) := by omega
      obtain ⟨t, ht⟩ := HR.out.1.get hlt
      obtain ⟨g, o, rfl, _, hg, hok, a0, a1, a2⟩ := row_Tir (HR.out.1.below hM.out.2 (Nat.le_refl _)) ht
      obtain ⟨W1, hW1⟩ : ∃ W1, wr.alloc (.cells #[.int .i64 t.least, .int .i64 t.rate, .int .i64 t.amount] 124) = W1 := ⟨_, rfl⟩
      have HW : Hid (Below wr.heap.size wr W1) := Lib.hid (by rw [<- hW1]; exact (Below.refl _ _).alloc (Nat.le_refl _) _)
      have HB1 : Hid (Below w.heap.size w W1) := Lib.hid (hM.out.2.trans (HW.out.mono hM.out.2.size))
      have hx : Qu.Blk W1 wr.heap.size 124 #[.int .i64 t.least, .int .i64 t.rate, .int .i64 t.amount] := by rw [<- hW1]; exact Qu.Blk.new wr _ _
      have x0 := hx.cell 0
      have x1 := hx.cell 1
      have x2 := hx.cell 2
      have HX := Lib.hid ht
      have hd : tierB t = (inB t.least 10000000000000 && inB t.rate 10000 && inB t.amount 10000000000000 && !(t.rate == 0 && t.amount == 0)) := rfl
      have hN1 : ∀ W, Calls Tryz.prog 66 #[.int .i64 t.least, .int .i64 10000000000000] W fun e w' => e = .returned (.bool (inB t.least 10000000000000)) /\ w' = W := fun W => Py.rin_any t.least 10000000000000 W
      have hN2 : ∀ W, Calls Tryz.prog 66 #[.int .i64 t.rate, .int .i64 10000] W fun e w' => e = .returned (.bool (inB t.rate 10000)) /\ w' = W := fun W => Py.rin_any t.rate 10000 W
      have hN3 : ∀ W, Calls Tryz.prog 66 #[.int .i64 t.amount, .int .i64 10000000000000] W fun e w' => e = .returned (.bool (inB t.amount 10000000000000)) /\ w' = W := fun W => Py.rin_any t.amount 10000000000000 W
      have N1 := Lib.hid hN1
      have N2 := Lib.hid hN2
      have N3 := Lib.hid hN3
      clear hx ht hok hN1 hN2 hN3 hg
      cases h1 : inB t.least 10000000000000 with
      | false =>
        rw [h1] at hd
        simp only [h1] at N1
        clear h1
        have HF : Hid (tiersB l = false) := Lib.hid (tier_bad HX.out (by rw [hd]; rfl))
        clear hd
        go_wp2_with fail
        go_quiet ((first | (go_at_call 66; with_reducible exact Calls.quiet_of_same (N1.out _)) | (go_at_call 66; with_reducible exact Calls.quiet_of_same (N2.out _)) | (go_at_call 66; with_reducible exact Calls.quiet_of_same (N3.out _))))
        go_wp2
        go_ret
        exact ⟨by rw [HF.out]; rfl, Qu.below_draws HB1.out _⟩
      | true =>
        rw [h1] at hd
        simp only [h1] at N1
        clear h1
        cases h2 : inB t.rate 10000 with
        | false =>
          rw [h2] at hd
          simp only [h2] at N2
          clear h2
          have HF : Hid (tiersB l = false) := Lib.hid (tier_bad HX.out (by rw [hd]; rfl))
          clear hd
          go_wp2_with fail
          go_quiet ((first | (go_at_call 66; with_reducible exact Calls.quiet_of_same (N1.out _)) | (go_at_call 66; with_reducible exact Calls.quiet_of_same (N2.out _)) | (go_at_call 66; with_reducible exact Calls.quiet_of_same (N3.out _))))
          go_wp2
          go_ret
          exact ⟨by rw [HF.out]; rfl, Qu.below_draws HB1.out _⟩
        | true =>
          rw [h2] at hd
          simp only [h2] at N2
          clear h2
          cases h3 : inB t.amount 10000000000000 with
          | false =>
            rw [h3] at hd
            simp only [h3] at N3
            clear h3
            have HF : Hid (tiersB l = false) := Lib.hid (tier_bad HX.out (by rw [hd]; rfl))
            clear hd
            go_wp2_with fail
            go_quiet ((first | (go_at_call 66; with_reducible exact Calls.quiet_of_same (N1.out _)) | (go_at_call 66; with_reducible exact Calls.quiet_of_same (N2.out _)) | (go_at_call 66; with_reducible exact Calls.quiet_of_same (N3.out _))))
            go_wp2
            go_ret
            exact ⟨by rw [HF.out]; rfl, Qu.below_draws HB1.out _⟩
          | true =>
            rw [h3] at hd
            simp only [h3] at N3
            clear h3
            have HD := Lib.hid hd
            clear hd
            cases e1 : (t.rate == 0) with
            | false =>
              have HT : Hid (tierB t = true) := Lib.hid (by rw [HD.out, e1]; rfl)
              by_cases k9 : 0 < k
              . obtain ⟨b, hb⟩ := HR.out.1.get (k := k - 1) (by omega)
                obtain ⟨g', o', hA, _, hg', _, b0, _, _⟩ := row_Tir (HR.out.1.below hM.out.2 (Nat.le_refl _)) hb
                injection hA with hA
                injection hA with hA1 hA2
                subst hA1 hA2
                have d0 : W1.cell? ⟨g, o + (k - 1) * 3, none⟩ = some (.int .i64 b.least) := (HW.out.cell (p := ⟨g, _, none⟩) hg').trans b0
                have HBB := Lib.hid hb
                have j0 : (0 : Int) < (k : Int) := by omega
                have j1 : (0 : Int) <= (k : Int) - 1 := by omega
                have j2 : (k : Int) - 1 < (n : Int) := by omega
                have j3 : ((k : Int) - 1).toNat = k - 1 := by omega
                clear hb b0 hg'
                by_cases c9 : t.least <= b.least
                . have HC9 := Lib.hid c9
                  have HF : Hid (tiersB l = false) := Lib.hid (tier_step HX.out HBB.out k9 HC9.out)
                  clear HD
                  go_wp2_with fail
                  go_quiet ((first | (go_at_call 66; with_reducible exact Calls.quiet_of_same (N1.out _)) | (go_at_call 66; with_reducible exact Calls.quiet_of_same (N2.out _)) | (go_at_call 66; with_reducible exact Calls.quiet_of_same (N3.out _))))
                  go_wp2
                  go_ret
                  exact ⟨by rw [HF.out]; rfl, Qu.below_draws HB1.out _⟩
                . have HC9 := Lib.hid c9
                  have HU2 : Hid (TUp l (k + 1)) := Lib.hid (hM.out.1.next HX.out HT.out fun z _ hz => by rw [HBB.out] at hz; injection hz with hz; subst hz; have := HC9.out; omega)
                  clear HD
                  go_wp2_with fail
                  go_quiet ((first | (go_at_call 66; with_reducible exact Calls.quiet_of_same (N1.out _)) | (go_at_call 66; with_reducible exact Calls.quiet_of_same (N2.out _)) | (go_at_call 66; with_reducible exact Calls.quiet_of_same (N3.out _))))
                  go_wp2
                  go_roundw
                  case rel => exact ⟨k + 1, by go_num, by omega, Lib.hid ⟨HU2.out, Qu.below_draws HB1.out _⟩⟩
                  case measure => simp [intOf]; omega
              . have j0 : ¬ (0 : Int) < (k : Int) := by omega
                have HU2 : Hid (TUp l (k + 1)) := Lib.hid (hM.out.1.next HX.out HT.out fun z h => by omega)
                clear HD
                go_wp2_with fail
                go_quiet ((first | (go_at_call 66; with_reducible exact Calls.quiet_of_same (N1.out _)) | (go_at_call 66; with_reducible exact Calls.quiet_of_same (N2.out _)) | (go_at_call 66; with_reducible exact Calls.quiet_of_same (N3.out _))))
                go_wp2
                go_roundw
                case rel => exact ⟨k + 1, by go_num, by omega, Lib.hid ⟨HU2.out, Qu.below_draws HB1.out _⟩⟩
                case measure => simp [intOf]; omega
            | true =>
              cases e2 : (t.amount == 0) with
              | true =>
                have HF : Hid (tiersB l = false) := Lib.hid (tier_bad HX.out (by rw [HD.out, e1, e2]; rfl))
                clear HD
                go_wp2_with fail
                go_quiet ((first | (go_at_call 66; with_reducible exact Calls.quiet_of_same (N1.out _)) | (go_at_call 66; with_reducible exact Calls.quiet_of_same (N2.out _)) | (go_at_call 66; with_reducible exact Calls.quiet_of_same (N3.out _))))
                go_wp2
                go_ret
                exact ⟨by rw [HF.out]; rfl, Qu.below_draws HB1.out _⟩
              | false =>
                have HT : Hid (tierB t = true) := Lib.hid (by rw [HD.out, e1, e2]; rfl)
                by_cases k9 : 0 < k
                . obtain ⟨b, hb⟩ := HR.out.1.get (k := k - 1) (by omega)
                  obtain ⟨g', o', hA, _, hg', _, b0, _, _⟩ := row_Tir (HR.out.1.below hM.out.2 (Nat.le_refl _)) hb
                  injection hA with hA
                  injection hA with hA1 hA2
                  subst hA1 hA2
                  have d0 : W1.cell? ⟨g, o + (k - 1) * 3, none⟩ = some (.int .i64 b.least) := (HW.out.cell (p := ⟨g, _, none⟩) hg').trans b0
                  have HBB := Lib.hid hb
                  have j0 : (0 : Int) < (k : Int) := by omega
                  have j1 : (0 : Int) <= (k : Int) - 1 := by omega
                  have j2 : (k : Int) - 1 < (n : Int) := by omega
                  have j3 : ((k : Int) - 1).toNat = k - 1 := by omega
                  clear hb b0 hg'
                  by_cases c9 : t.least <= b.least
                  . have HC9 := Lib.hid c9
                    have HF : Hid (tiersB l = false) := Lib.hid (tier_step HX.out HBB.out k9 HC9.out)
                    clear HD
                    go_wp2_with fail
                    go_quiet ((first | (go_at_call 66; with_reducible exact Calls.quiet_of_same (N1.out _)) | (go_at_call 66; with_reducible exact Calls.quiet_of_same (N2.out _)) | (go_at_call 66; with_reducible exact Calls.quiet_of_same (N3.out _))))
                    go_wp2
                    go_ret
                    exact ⟨by rw [HF.out]; rfl, Qu.below_draws HB1.out _⟩
                  . have HC9 := Lib.hid c9
                    have HU2 : Hid (TUp l (k + 1)) := Lib.hid (hM.out.1.next HX.out HT.out fun z _ hz => by rw [HBB.out] at hz; injection hz with hz; subst hz; have := HC9.out; omega)
                    clear HD
                    go_wp2_with fail
                    go_quiet ((first | (go_at_call 66; with_reducible exact Calls.quiet_of_same (N1.out _)) | (go_at_call 66; with_reducible exact Calls.quiet_of_same (N2.out _)) | (go_at_call 66; with_reducible exact Calls.quiet_of_same (N3.out _))))
                    go_wp2
                    go_roundw
                    case rel => exact ⟨k + 1, by go_num, by omega, Lib.hid ⟨HU2.out, Qu.below_draws HB1.out _⟩⟩
                    case measure => simp [intOf]; omega
                . have j0 : ¬ (0 : Int) < (k : Int) := by omega
                  have HU2 : Hid (TUp l (k + 1)) := Lib.hid (hM.out.1.next HX.out HT.out fun z h => by omega)
                  clear HD
                  go_wp2_with fail
                  go_quiet ((first | (go_at_call 66; with_reducible exact Calls.quiet_of_same (N1.out _)) | (go_at_call 66; with_reducible exact Calls.quiet_of_same (N2.out _)) | (go_at_call 66; with_reducible exact Calls.quiet_of_same (N3.out _))))
                  go_wp2
                  go_roundw
                  case rel => exact ⟨k + 1, by go_num, by omega, Lib.hid ⟨HU2.out, Qu.below_draws HB1.out _⟩⟩
                  case measure => simp [intOf]; omega
    . obtain rfl : k = n := by omega
      have k1 : ¬ (k : Int) < (k : Int) := by omega
      have HF : Hid (tiersB l = (decide (1 <= k) && decide (k <= 6))) := Lib.hid (by
        have h1 := hM.out.1
        have h2 := HR.out.2
        rw [<- h2] at h1 ⊢
        exact h1.all)
      by_cases c1 : 1 <= k
      . have d1 : (1 : Int) <= (k : Int) := by omega
        by_cases c2 : k <= 6
        . have d2 : (k : Int) <= 6 := by omega
          have HG : Hid (tiersB l = true) := Lib.hid (by rw [HF.out, decide_eq_true c1, decide_eq_true c2]; rfl)
          go_wp2
          go_ret
          exact ⟨by rw [HG.out]; simp, hM.out.2⟩
        . have d2 : ¬ (k : Int) <= 6 := by omega
          have HG : Hid (tiersB l = false) := Lib.hid (by rw [HF.out, decide_eq_true c1, decide_eq_false c2]; rfl)
          go_wp2
          go_ret
          exact ⟨by rw [HG.out]; simp, hM.out.2⟩
      . have d1 : ¬ (1 : Int) <= (k : Int) := by omega
        have HG : Hid (tiersB l = false) := Lib.hid (by rw [HF.out, decide_eq_false c1]; rfl)
        go_wp2
        go_ret
        exact ⟨by rw [HG.out]; simp, hM.out.2⟩
end Go.Proofs.YtljmddjlnlmenaaGreat.Pr

end

section
namespace Go.Proofs.YtljmddjlnlmenaaGreat.Sc
open Go.ChangeShapes Go.WideShapes Go.ChangeAt Go.RowKit
open It (Itm kItem row_item)
open Ap (Scp kScp row_Scp)
open Kd (Row Fit Lst Sl kStr kInt kList row_str Deep But Own)
theorem wrong_any (s : ByteArray) (w : World) (hs : s.size <= maxLen) : Calls Tryz.prog 131 #[.string s] w fun e w' => e = .returned (.bool (!Sr.name s)) /\ w' = w := by
  have HN := Lib.hid (Gd.name_any s w hs)
  obtain ⟨b, hb⟩ : ∃ b, Sr.name s = b := ⟨_, rfl⟩
  rw [hb] at HN ⊢
  clear hb hs
  go_enter Tryz.func131, Tryz.ntmps131
  go_wp2_with fail
  refine HN.out.mono ?_
  rintro e w1 ⟨rfl, rfl⟩
  go_wp2
  go_ret
  exact ⟨rfl, rfl⟩
theorem badFunc_any (A : Option Addr) (n c : Nat) (l : List ByteArray) (F : Nat -> Prop) (w : World) (h : Row kStr w F A n l) (hn : n <= 9223372036854775807) :
    Calls Tryz.prog 140 #[.slice A n c, .func (.func 131) #[] #[]] w fun e w' => (∃ r : Int, e = .returned (.int .i64 r) /\ ((0 <= r /\ ∃ (i : Nat) (x : ByteArray), l[i]? = some x /\ Sr.name x = false) \/ (r = -1 /\ ∀ (i : Nat) (x : ByteArray), l[i]? = some x -> Sr.name x = true))) /\ w' = w := by
  have hlen := h.len
  have HH := Lib.hid (And.intro h hlen)
  clear h hlen
  go_enter Tryz.func140, Tryz.ntmps140
  go_wp2
  go_loopw [8] (fun s8 wr => ∃ k : Nat, s8 = .int .i64 k /\ k <= n /\ wr = w /\ ∀ (i : Nat) (x : ByteArray), i < k -> l[i]? = some x -> Sr.name x = true) (fun s8 _ => n - (intOf s8).toNat)
  case atStart => exact ⟨0, rfl, by omega, rfl, fun i x hi => by omega⟩
  case round =>
    obtain ⟨k, rfl, hk, rfl, hE⟩ := hrel
    have HE := Lib.hid hE
    clear hE
    by_cases hlt : k < n
    . obtain ⟨x, hx⟩ := HH.out.1.get hlt
      obtain ⟨g, o, rfl, _, _, hok, c0⟩ := row_str HH.out.1 hx
      have k1 : (k : Int) < (n : Int) := by omega
      have k0 : (0 : Int) <= (k : Int) := by omega
      have HC := Lib.hid (wrong_any x wr hok)
      have HX := Lib.hid hx
      clear hx hok
      cases hB : Sr.name x with
      | true =>
        rw [hB] at HC
        have HB := Lib.hid hB
        clear hB
        go_wp2_with fail
        refine HC.out.mono ?_
        rintro e w1 ⟨rfl, rfl⟩
        go_wp2
        go_roundw
        case rel => exact ⟨k + 1, by go_num, by omega, by trivial, fun i y hi hy => by
          rcases Nat.lt_or_ge i k with h1 | h1
          . exact HE.out i y h1 hy
          . obtain rfl : i = k := by omega
            rw [HX.out] at hy
            injection hy with hy
            subst hy
            exact HB.out⟩
        case measure => simp [intOf]; omega
      | false =>
        rw [hB] at HC
        have HB := Lib.hid hB
        clear hB
        go_wp2_with fail
        refine HC.out.mono ?_
        rintro e w1 ⟨rfl, rfl⟩
        go_wp2
        go_ret
        exact ⟨⟨k, rfl, .inl ⟨by omega, k, x, HX.out, HB.out⟩⟩, rfl⟩
    . have k1 : ¬ (k : Int) < (n : Int) := by omega
      go_wp2
      go_ret
      exact ⟨⟨-1, rfl, .inr ⟨rfl, fun i x hx => HE.out i x (by
        have := (List.getElem?_eq_some_iff.1 hx).1
        have := HH.out.2
        omega) hx⟩⟩, rfl⟩
theorem anyBad_any (A : Option Addr) (n c : Nat) (l : List ByteArray) (F : Nat -> Prop) (w : World) (h : Row kStr w F A n l) (hn : n <= 9223372036854775807) :
    Calls Tryz.prog 130 #[.slice A n c, .func (.func 131) #[] #[]] w fun e w' => (∃ b : Bool, e = .returned (.bool b) /\ (b = false ↔ ∀ (i : Nat) (x : ByteArray), l[i]? = some x -> Sr.name x = true)) /\ w' = w := by
  have HC := Lib.hid (badFunc_any A n c l F w h hn)
  clear h
  go_enter Tryz.func130, Tryz.ntmps130
  go_wp2_with fail
  refine HC.out.mono ?_
  rintro e w1 ⟨⟨r, rfl, hr⟩, rfl⟩
  rcases hr with ⟨h0, i, x, hx, hi⟩ | ⟨rfl, hA⟩
  . have HX := Lib.hid (And.intro hx hi)
    clear hx hi
    go_wp2
    go_ret
    exact ⟨⟨true, rfl, by simp; exact ⟨i, x, HX.out.1, HX.out.2⟩⟩, rfl⟩
  . have HX := Lib.hid hA
    clear hA
    go_wp2
    go_ret
    exact ⟨⟨false, rfl, by simp; exact HX.out⟩, rfl⟩
noncomputable def riseB (l : List ByteArray) : Bool := @decide (Rise l) (Classical.propDecidable _)
theorem riseB_yes {l : List ByteArray} (h : Rise l) : riseB l = true := by unfold riseB; exact @decide_eq_true _ (Classical.propDecidable _) h
theorem riseB_no {l : List ByteArray} (h : ¬ Rise l) : riseB l = false := by unfold riseB; exact @decide_eq_false _ (Classical.propDecidable _) h
theorem riseB_iff {l : List ByteArray} : riseB l = true ↔ Rise l := by
  constructor
  . intro h
    by_cases k : Rise l
    . exact k
    . rw [riseB_no k] at h; cases h
  . exact riseB_yes
set_option maxHeartbeats 1000000 in
theorem rise_any (A : Option Addr) (n c : Nat) (l : List ByteArray) (F : Nat -> Prop) (w : World) (h : Row kStr w F A n l) (hn : n <= 9223372036854775807) :
    Calls Tryz.prog 129 #[.slice A n c] w fun e w' => e = .returned (.bool (riseB l)) /\ Hl.Drawn w w' := by
  have hlen := h.len
  have HH := Lib.hid h
  have HL := Lib.hid hlen
  clear h hlen
  go_enter Tryz.func129, Tryz.ntmps129
  go_wp2
  go_loopw [3] (fun s3 wr => ∃ k : Nat, s3 = .int .i64 k /\ 1 <= k /\ (k <= n \/ (n = 0 /\ k = 1)) /\ Hl.Drawn w wr /\ ∀ (i : Nat) (a b : ByteArray), i + 1 < k -> l[i]? = some a -> l[i + 1]? = some b -> Sr.lt a b = true) (fun s3 _ => n - (intOf s3).toNat)
  case atStart => exact ⟨1, rfl, by omega, by omega, ⟨0, rfl⟩, fun i a b hi => by omega⟩
  case round =>
    obtain ⟨k, rfl, hk1, hk2, hD, hR⟩ := hrel
    have HR := Lib.hid hR
    clear hR
    by_cases hlt : k < n
    . obtain ⟨x, hx⟩ := HH.out.get hlt
      obtain ⟨y, hy⟩ := HH.out.get (k := k - 1) (by omega)
      obtain ⟨g, o, rfl, _, _, _, a1⟩ := row_str HH.out hx
      obtain ⟨g', o', hA, _, _, _, b1⟩ := row_str HH.out hy
      injection hA with hA
      injection hA with hA1 hA2
      subst hA1 hA2
      have c1 : wr.cell? ⟨g, o + k, none⟩ = some (.string x) := by obtain ⟨d, rfl⟩ := hD; exact a1
      have c2 : wr.cell? ⟨g, o + (k - 1), none⟩ = some (.string y) := by obtain ⟨d, rfl⟩ := hD; exact b1
      have HD := Lib.hid hD
      have HX := Lib.hid (And.intro hx hy)
      have k0 : (0 : Int) <= (k : Int) - 1 := by omega
      have k1 : (k : Int) < (n : Int) := by omega
      have k2 : (k : Int) - 1 < (n : Int) := by omega
      have k3 : ((k : Int) - 1).toNat = k - 1 := by omega
      have hle := fun W => leq_str x y W
      clear a1 b1 hD hx hy hlt
      cases hB : Sr.lt y x with
      | true =>
        simp only [hB] at hle
        have HB := Lib.hid hB
        clear hB
        go_wp2_with fail
        go_quiet (fail)
        go_wp2
        go_roundw
        case rel => exact ⟨k + 1, by go_num, by omega, by omega, HD.out.more _, fun i a b hi ha hb => by
          rcases Nat.lt_or_ge (i + 1) k with h1 | h1
          . exact HR.out i a b h1 ha hb
          . obtain rfl : k = i + 1 := by omega
            rw [HX.out.1] at hb
            rw [show i + 1 - 1 = i by omega] at HX
            rw [HX.out.2] at ha
            injection ha with ha
            injection hb with hb
            subst ha hb
            exact HB.out⟩
        case measure => simp [intOf]; omega
      | false =>
        simp only [hB] at hle
        have HO : Hid (riseB l = false) := Lib.hid (riseB_no fun hr => by
          have h1 := hr (k - 1) y x HX.out.2 (by rw [show k - 1 + 1 = k by omega]; exact HX.out.1)
          rw [hB] at h1
          cases h1)
        clear hB
        go_wp2_with fail
        go_quiet (fail)
        go_wp2
        go_ret
        exact ⟨by rw [HO.out]; rfl, HD.out.more _⟩
    . have k1 : ¬ (k : Int) < (n : Int) := by omega
      have HO : Hid (riseB l = true) := Lib.hid (riseB_yes fun i a b ha hb => by
        have h1 := (List.getElem?_eq_some_iff.1 hb).1
        rw [HL.out] at h1
        exact HR.out i a b (by omega) ha hb)
      have HD := Lib.hid hD
      clear hD
      go_wp2
      go_ret
      exact ⟨by rw [HO.out]; rfl, HD.out⟩
theorem names_told {l : List ByteArray} {m : Int} (h5 : (l.length : Int) <= m) (hr : riseB l = true) {b : Bool} (hb : b = false ↔ ∀ (i : Nat) (x : ByteArray), l[i]? = some x -> Sr.name x = true) : namesB l m = !b := by
  cases b with
  | false => exact namesB_yes ⟨h5, hb.1 rfl, riseB_iff.1 hr⟩
  | true => exact namesB_no fun h => by cases hb.2 h.each
set_option maxHeartbeats 1000000 in
theorem right_any (A : Option Addr) (n c : Nat) (l : List ByteArray) (F : Nat -> Prop) (w : World) (h : Row kStr w F A n l) (hn : n <= 9223372036854775807) :
    Calls Tryz.prog 107 #[.slice A n c] w fun e w' => e = .returned (.bool (namesB l 20)) /\ Hl.Drawn w w' := by
  have HL := Lib.hid h.len
  by_cases h5 : n <= 20
  . have d5 : (n : Int) <= 20 := by omega
    have HR := Lib.hid (rise_any A n c l F w h hn)
    have HC := Lib.hid (fun w1 (hD : Hl.Drawn w w1) => anyBad_any A n c l F w1 (by obtain ⟨d, rfl⟩ := hD; exact h.drewN d) hn)
    clear h
    cases hB : riseB l with
    | true =>
      rw [hB] at HR
      have HB := Lib.hid hB
      clear hB
      go_enter Tryz.func107, Tryz.ntmps107
      go_wp2_with fail
      refine HR.out.mono ?_
      rintro e w1 ⟨rfl, hD⟩
      have HD := Lib.hid hD
      clear hD
      go_wp2_with fail
      refine (HC.out _ HD.out).mono ?_
      rintro e w2 ⟨⟨b, rfl, hb⟩, rfl⟩
      have HG : Hid (namesB l 20 = !b) := Lib.hid (names_told (by rw [HL.out]; omega) HB.out hb)
      clear hb
      go_wp2
      go_ret
      exact ⟨by rw [HG.out]; rfl, HD.out⟩
    | false =>
      rw [hB] at HR
      have HG : Hid (namesB l 20 = false) := Lib.hid (namesB_no fun hg => by
        rw [riseB_yes hg.rise] at hB
        cases hB)
      clear hB
      go_enter Tryz.func107, Tryz.ntmps107
      go_wp2_with fail
      refine HR.out.mono ?_
      rintro e w1 ⟨rfl, hD⟩
      have HD := Lib.hid hD
      clear hD
      go_wp2
      go_ret
      exact ⟨by rw [HG.out]; rfl, HD.out⟩
  . have d5 : ¬ (n : Int) <= 20 := by omega
    have HG : Hid (namesB l 20 = false) := Lib.hid (namesB_no fun hg => by have := hg.few; rw [HL.out] at this; omega)
    clear h
    go_enter Tryz.func107, Tryz.ntmps107
    go_wp2
    go_ret
    exact ⟨by rw [HG.out]; rfl, ⟨0, rfl⟩⟩
theorem Right_any (s : Scp) (l : Scp.Lay) (w : World) (h : Scp.Holds w (· < w.heap.size) s l) (hl : Small l) :
    Calls Tryz.prog 89 #[.agg #[.slice l.skus.A l.skus.n l.skus.c, .slice l.cats.A l.cats.n l.cats.c]] w fun e w' => e = .returned (.bool (scopeB s)) /\ Below w.heap.size w w' := by
  obtain ⟨⟨A1, n1, c1⟩, ⟨A2, n2, c2⟩⟩ := l
  have hd : scopeB s = (namesB s.skus 20 && namesB s.cats 20) := rfl
  have HA : Hid (∀ W, Below w.heap.size w W -> Calls Tryz.prog 107 #[.slice A1 n1 c1] W fun e w' => e = .returned (.bool (namesB s.skus 20)) /\ Hl.Drawn W w') := Lib.hid fun W hW =>
    right_any A1 n1 c1 s.skus _ W (h.skus.row.below hW (Nat.le_refl _)) hl.1
  have HC : Hid (∀ W, Below w.heap.size w W -> Calls Tryz.prog 107 #[.slice A2 n2 c2] W fun e w' => e = .returned (.bool (namesB s.cats 20)) /\ Hl.Drawn W w') := Lib.hid fun W hW =>
    right_any A2 n2 c2 s.cats _ W (h.cats.row.below hW (Nat.le_refl _)) hl.2
  obtain ⟨w1, hw1⟩ : ∃ w1, w.alloc (.cells #[.slice A1 n1 c1, .slice A2 n2 c2] 24) = w1 := ⟨_, rfl⟩
  have HB1 : Hid (Below w.heap.size w w1) := Lib.hid (by rw [<- hw1]; exact (Below.refl _ _).alloc (Nat.le_refl _) _)
  have hx : Qu.Blk w1 w.heap.size 24 #[.slice A1 n1 c1, .slice A2 n2 c2] := by rw [<- hw1]; exact Qu.Blk.new w _ _
  have x0 := hx.cell 0
  have X1 := Lib.hid (hx.cell 1)
  clear h hl hx
  cases b1 : namesB s.skus 20 with
  | false =>
    simp only [b1] at HA
    have HD : Hid (scopeB s = false) := Lib.hid (by rw [hd, b1]; rfl)
    clear hd b1 X1
    go_enter Tryz.func89, Tryz.ntmps89
    go_wp2_with fail
    refine (HA.out _ HB1.out).mono ?_
    rintro e w2 ⟨rfl, hD⟩
    have HB := Lib.hid (HB1.out.trans (hD.below _))
    clear hD
    go_wp2
    go_ret
    exact ⟨by rw [HD.out]; rfl, HB.out⟩
  | true =>
    simp only [b1] at HA
    have HD : Hid (scopeB s = namesB s.cats 20) := Lib.hid (by rw [hd, b1]; rfl)
    clear hd b1
    go_enter Tryz.func89, Tryz.ntmps89
    go_wp2_with fail
    refine (HA.out _ HB1.out).mono ?_
    rintro e w2 ⟨rfl, hD⟩
    have x1 : w2.cell? ⟨w.heap.size, 1, none⟩ = some (.slice A2 n2 c2) := by obtain ⟨d, rfl⟩ := hD; exact X1.out
    have HB := Lib.hid (HB1.out.trans (hD.below _))
    clear hD
    go_wp2_with fail
    refine (HC.out _ HB.out).mono ?_
    rintro e w3 ⟨rfl, hD⟩
    have HB3 := Lib.hid (HB.out.trans (hD.below _))
    clear hD
    obtain ⟨b, hb⟩ : ∃ b, namesB s.cats 20 = b := ⟨_, rfl⟩
    simp only [hb] at HD ⊢
    clear hb
    go_wp2
    go_ret
    exact ⟨by rw [HD.out]; rfl, HB3.out⟩
end Go.Proofs.YtljmddjlnlmenaaGreat.Sc

end
