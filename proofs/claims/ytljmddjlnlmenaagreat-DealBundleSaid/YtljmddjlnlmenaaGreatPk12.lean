/- Cuts: the landed Apply (made by gen-cut15.py). · Cuts: the landed Apply, where something is done (made by gen-cut15.py). .. -/
import Derived.Deep.Quiet
import Derived.Deep.QuietTactic
import Derived.Deep.RegionHeld3
import Derived.Laws.EntriesVeiled
import Derived.Lib.SliceRun
import Derived.Test.YtljmddjlnlmenaaGreatPk1
import Derived.Test.YtljmddjlnlmenaaGreatPk11
import Derived.Test.YtljmddjlnlmenaaGreatPk2
import Derived.Test.YtljmddjlnlmenaaGreatPk7
set_option maxRecDepth 100000
set_option linter.unusedVariables false

section
namespace Go.Proofs.YtljmddjlnlmenaaGreat.Ct
open Go.ChangeShapes Go.WideShapes Go.ChangeAt Go.RowKit
open Ap (Unt Tir Prm kUnt kTir row_Unt row_Tir)
open Kd (Kind Row kInt row_int)
open Ko (Out Told Told2 At row_on)
set_option maxHeartbeats 1000000 in
theorem cloneU_any (A : Option Addr) (n c : Nat) (xs : List Unt) (w : World) (h : Row kUnt w (· < w.heap.size) A n xs) (hf : Kd.Fit A n c) (hn : n <= 1000000000000) :
    Calls Tryz.prog 27 #[.slice A n c] w fun e w' => ∃ A' c', e = .returned (.slice A' n c') /\ Kd.Own kUnt w' w.heap.size 35 (fun _ => False) (.slice A' n c') n xs /\ Below w.heap.size w w' := by
  cases A with
  | none =>
    obtain ⟨rfl, rfl⟩ := hf.1 rfl
    have hl : xs = [] := List.eq_nil_of_length_eq_zero h.len
    subst hl
    have hnil := fun W => Lib.run_eql_slice_nil (P := Tryz.prog) W 29 35 none 0 0 0 0 Tryz.underlying29
    clear h hf
    go_enter Tryz.func27, Tryz.ntmps27
    go_wp2
    go_ret
    exact ⟨none, 0, rfl, Kd.Own.nil _ _ _ _ _, Below.refl _ _⟩
  | some a =>
    have hl := h.len
    subst hl
    have hnil := fun W => Lib.run_eql_slice_nil (P := Tryz.prog) W 29 35 (some a) xs.length c 0 0 Tryz.underlying29
    have HOW : Hid (Kd.Own kUnt (w.alloc (.cells #[] 35)) w.heap.size 35 (fun _ => False) (.slice (some ⟨w.heap.size, 0, none⟩) 0 0) 0 []) := Lib.hid ⟨rfl, [], World.ownsRow_made (base := w.heap.size) (e := 35) (size := 3) w #[] 0 (Nat.le_refl _) (by unfold maxLen; omega) rfl, rfl⟩
    have HR := Lib.hid (h.below (w' := w.alloc (.cells #[] 35)) (B := w.heap.size) ((Below.refl _ _).alloc (Nat.le_refl _) _) (Nat.le_refl _))
    have hlen : xs.length <= 1000000000000 := hn
    have HLn := Lib.hid hlen
    clear h hf
    go_enter Tryz.func27, Tryz.ntmps27
    go_wp2_with ((at_builtin; refine Kd.wpList_join (F := fun _ => False) (G := (· < w.heap.size)) (B := w.heap.size) (n := 0) (m := xs.length) (c := c) (v := .slice (some ⟨w.heap.size, 0, none⟩) 0 0) (xs := []) (ys := xs) (A := some a) Ap.Unt.row_t rfl _ _ rfl rfl rfl HOW.out HR.out (fun h => by cases h) (fun h => Ap.Unt_rep.2 (Ap.Unt_rep.1 h)) (by have := HLn.out; omega) (by have := HLn.out; omega) (by simp) (fun _ h => h.elim) ?_; intro v' w' hown hgrow hfr))
    rw [Nat.zero_add, List.nil_append] at hown
    obtain ⟨A', c', rfl⟩ := hown.value
    have HF : Hid (Kd.Own kUnt w' w.heap.size 35 (fun _ => False) (.slice A' xs.length c') xs.length xs /\ Below w.heap.size w w') := Lib.hid
      ⟨hown, ((Below.refl _ _).alloc (Nat.le_refl _) _).grown hgrow (by simp) (fun k hk => by rw [Mv.ownBlock_some] at hk; injection hk with hk; omega)⟩
    clear hown hgrow hfr
    go_wp2
    go_ret
    exact ⟨A', c', rfl, HF.out.1, HF.out.2⟩
def cutOne (o : Int) (cl : Bool) (u : Unt) : Unt := ⟨u.line, u.net - o, !cl⟩
def cutK (us : List Unt) (ms os : List Int) (cl : Bool) : Nat -> List Unt
  | 0 => us
  | k + 1 => (cutK us ms os cl k).modify (nth ms k).toNat (cutOne (nth os k) cl)
theorem cutK_at {us : List Unt} {ms os : List Int} {cl : Bool} (hf : Far ms) {k : Nat} {m : Int} (hm : ms[k]? = some m) : ∀ j, j <= k -> (cutK us ms os cl j)[m.toNat]? = us[m.toNat]?
  | 0, _ => rfl
  | j + 1, hj => by
    have hl : j < ms.length := by have := (List.getElem?_eq_some_iff.1 hm).1; omega
    have e := List.getElem?_eq_getElem hl
    have hne := hf j k _ m (by omega) e hm
    rw [cutK, List.getElem?_modify, nth_some e, cutK_at hf hm j (by omega)]
    simp [hne]
theorem cutK_other {us : List Unt} {ms os : List Int} {cl : Bool} {i : Nat} : ∀ k, (∀ j, j < k -> (nth ms j).toNat ≠ i) -> (cutK us ms os cl k)[i]? = us[i]?
  | 0, _ => rfl
  | k + 1, h => by
    rw [cutK, List.getElem?_modify, cutK_other k fun j hj => h j (by omega)]
    have := h k (by omega)
    simp [this]
theorem cutK_mine {us : List Unt} {ms os : List Int} {cl : Bool} (hf : Far ms) {j : Nat} {m : Int} (hm : ms[j]? = some m) {u : Unt} (hu : us[m.toNat]? = some u) : ∀ k, j < k -> k <= ms.length -> (cutK us ms os cl k)[m.toNat]? = some (cutOne (nth os j) cl u)
  | 0, h, _ => by omega
  | k + 1, h, hk => by
    rw [cutK, List.getElem?_modify]
    rcases Nat.lt_or_ge j k with h1 | h1
    . have e := List.getElem?_eq_getElem (show k < ms.length by omega)
      have hne := hf j k m _ h1 hm e
      rw [cutK_mine hf hm hu k h1 (by omega), nth_some e]
      have : ¬ (ms[k].toNat = m.toNat) := fun e => hne e.symm
      simp [this]
    . obtain rfl : j = k := by omega
      rw [cutK_at hf hm j (Nat.le_refl j), nth_some hm, hu]
      simp
end Go.Proofs.YtljmddjlnlmenaaGreat.Ct

end

section
namespace Go.Proofs.YtljmddjlnlmenaaGreat.Ct
open Go.ChangeShapes Go.WideShapes Go.ChangeAt Go.RowKit
open Ap (Unt Tir Prm kUnt kTir row_Unt row_Tir)
open Kd (Kind Row kInt row_int)
open Ko (Out Told Told2 At row_on)
def setOpn (b : Bool) (u : Unt) : Unt := ⟨u.line, u.net, b⟩
theorem Ls.flag {w wr : World} {g n c : Nat} {xs : List Unt} (h : Ls w wr g n c xs) {k : Nat} {u : Unt} (hu : xs[k]? = some u) (b : Bool) :
    Ls w (wr.setCell ⟨g, k * 3 + 2, none⟩ (.bool b)) g n c (xs.modify k (setOpn b)) := by
  have hlt := h.lt
  have hok := (h.get hu).2.2.2.2
  have h1 := Kd.Own.put (k := k) (j := 2) (x := u) (x' := setOpn b u) (a := u.enc) (u := .bool b) h.own hu (fun h => (Ap.Unt_rep.1 h).1) (by decide) (Ap.Unt_rep.2 ⟨rfl, ⟨hok.line, hok.net⟩⟩) (fun _ h => h.elim)
  rw [modify_at hu]
  exact ⟨h1.1, h.below.setCell hlt _⟩
theorem cut_one {xs : List Unt} {k : Nat} {u : Unt} (h : xs[k]? = some u) (o : Int) (cl : Bool) : (xs.modify k (lessNet o)).modify k (setOpn (!cl)) = xs.modify k (cutOne o cl) := by
  have hl := (List.getElem?_eq_some_iff.1 h).1
  have h2 : (xs.modify k (lessNet o))[k]? = some (lessNet o u) := by rw [List.getElem?_modify, h]; simp
  rw [modify_at h2, modify_at h, modify_at h, List.set_set]
  rfl
theorem less_get {xs : List Unt} {k : Nat} {u : Unt} (h : xs[k]? = some u) (o : Int) : (xs.modify k (lessNet o))[k]? = some (lessNet o u) := by rw [List.getElem?_modify, h]; simp
end Go.Proofs.YtljmddjlnlmenaaGreat.Ct

end

section
namespace Go.Proofs.YtljmddjlnlmenaaGreat.Gd
open Go.ChangeShapes Go.WideShapes Go.ChangeAt Go.RowKit
open It (Itm kItem row_item row_ok)
open Kd (Row Fit)
theorem plain_any (z : Int) (w : World) (h0 : 0 <= z) (h1 : z <= 255) : Calls Tryz.prog 108 #[.int .u8 z] w fun e w' => e = .returned (.bool (Sr.plain z)) /\ w' = w := by
  obtain ⟨hp, c1, c2⟩ | ⟨hp, c1, c2, c3⟩ | ⟨hp, c1, c2⟩ | ⟨hp, c1, d0⟩ | ⟨hp, c1, c2, d0⟩ | ⟨hp, c1, d0⟩ := Py.plain_cases z
  . rw [hp]; clear hp
    go_enter Tryz.func108, Tryz.ntmps108
    go_wp2
    go_ret
    exact ⟨rfl, rfl⟩
  . rw [hp]; clear hp
    have d1 : ¬ (97 : Int) <= z := by omega
    go_enter Tryz.func108, Tryz.ntmps108
    go_wp2
    go_ret
    exact ⟨rfl, rfl⟩
  . rw [hp]; clear hp
    subst c2
    go_enter Tryz.func108, Tryz.ntmps108
    go_wp2
    go_ret
    exact ⟨rfl, rfl⟩
  . rw [hp]; clear hp
    have d1 : (97 : Int) <= z := by omega
    have d2 : ¬ z <= (122 : Int) := by omega
    have d3 : (48 : Int) <= z := by omega
    have d4 : ¬ z <= (57 : Int) := by omega
    have d5 : (z == 45) = false := beq_eq_false_iff_ne.2 d0
    go_enter Tryz.func108, Tryz.ntmps108
    go_wp2
    go_ret
    exact ⟨rfl, rfl⟩
  . rw [hp]; clear hp
    have d1 : ¬ (97 : Int) <= z := by omega
    have d3 : (48 : Int) <= z := by omega
    have d4 : ¬ z <= (57 : Int) := by omega
    have d5 : (z == 45) = false := beq_eq_false_iff_ne.2 (by omega)
    go_enter Tryz.func108, Tryz.ntmps108
    go_wp2
    go_ret
    exact ⟨rfl, rfl⟩
  . rw [hp]; clear hp
    have d1 : ¬ (97 : Int) <= z := by omega
    have d3 : ¬ (48 : Int) <= z := by omega
    have d5 : (z == 45) = false := beq_eq_false_iff_ne.2 d0
    go_enter Tryz.func108, Tryz.ntmps108
    go_wp2
    go_ret
    exact ⟨rfl, rfl⟩
set_option maxHeartbeats 1000000 in
theorem name_any (s : ByteArray) (w : World) (hs : s.size <= maxLen) : Calls Tryz.prog 91 #[.string s] w fun e w' => e = .returned (.bool (Sr.name s)) /\ w' = w := by
  unfold maxLen at hs
  by_cases c1 : s.size < 1
  . have d1 : (s.size : Int) < 1 := by omega
    have HF := Lib.hid (Sr.name_none c1)
    clear c1
    go_enter Tryz.func91, Tryz.ntmps91
    go_wp2
    go_ret
    exact ⟨by rw [HF.out]; rfl, rfl⟩
  by_cases c2 : 12 < s.size
  . have d1 : ¬ (s.size : Int) < 1 := by omega
    have d2 : (12 : Int) < (s.size : Int) := by omega
    have HF := Lib.hid (Sr.name_long c2)
    clear c1 c2
    go_enter Tryz.func91, Tryz.ntmps91
    go_wp2
    go_ret
    exact ⟨by rw [HF.out]; rfl, rfl⟩
  have d1 : ¬ (s.size : Int) < 1 := by omega
  have d2 : ¬ (12 : Int) < (s.size : Int) := by omega
  have hA := fun k (hk : k < s.size) W => Py.run_at 9 Tryz.underlying9 s k hk W
  have HA := Lib.hid hA
  clear hA
  go_enter Tryz.func91, Tryz.ntmps91
  go_wp2
  go_loopw [14] (fun s3 wr => ∃ k : Nat, s3 = .int .i64 k /\ k <= s.size /\ wr = w /\ ∀ (j : Nat) (b : UInt8), j < k -> s.data.toList[j]? = some b -> Sr.plain (b.toNat : Int) = true) (fun s3 _ => s.size - (intOf s3).toNat)
  case atStart => exact ⟨0, rfl, by omega, rfl, fun j b hj => by omega⟩
  case round =>
    obtain ⟨k, rfl, hk, rfl, hE⟩ := hrel
    have HE := Lib.hid hE
    clear hE
    by_cases h1 : k < s.size
    . have k1 : (k : Int) < (s.size : Int) := by omega
      have hi := HA.out k h1 wr
      obtain ⟨b, hb1, hb2⟩ := Py.byte_at h1
      rw [hb2] at hi
      have HB := Lib.hid hb1
      have hbn := By.at_in s.data.toList k
      rw [hb2] at hbn
      clear hb1 hb2
      obtain ⟨z, hz⟩ : ∃ z : Int, (b.toNat : Int) = z := ⟨_, rfl⟩
      have HZ := Lib.hid hz
      rw [hz] at hi hbn
      clear hz
      have HC := Lib.hid (plain_any z wr hbn.1 hbn.2)
      cases hp : Sr.plain z with
      | true =>
        rw [hp] at HC
        have HP := Lib.hid hp
        clear hp
        go_wp2_with fail
        refine HC.out.mono ?_
        rintro e w1 ⟨rfl, rfl⟩
        go_wp2
        go_roundw
        case rel => exact ⟨k + 1, by go_num, by omega, by trivial, fun j b' hj hb' => by
          rcases Nat.lt_or_ge j k with h | h
          . exact HE.out j b' h hb'
          . obtain rfl : j = k := by omega
            rw [HB.out] at hb'
            injection hb' with hb'
            subst hb'
            rw [HZ.out]; exact HP.out⟩
        case measure => simp [intOf]; omega
      | false =>
        rw [hp] at HC
        have HF := Lib.hid (Sr.name_bad HB.out (by rw [HZ.out]; exact hp))
        clear hp
        go_wp2_with fail
        refine HC.out.mono ?_
        rintro e w1 ⟨rfl, rfl⟩
        go_wp2
        go_ret
        exact ⟨by rw [HF.out]; rfl, rfl⟩
    . have k1 : ¬ (k : Int) < (s.size : Int) := by omega
      have HF : Hid (Sr.name s = true) := Lib.hid (by
        rw [Sr.name_size fun j b hj => HE.out j b (by
          have := (List.getElem?_eq_some_iff.1 hj).1
          rw [By.size_list] at this
          omega) hj]
        simp
        omega)
      go_wp2
      go_ret
      exact ⟨by rw [HF.out]; rfl, rfl⟩
end Go.Proofs.YtljmddjlnlmenaaGreat.Gd

end

section
namespace Go.Proofs.YtljmddjlnlmenaaGreat.Pm
open Go.ChangeShapes Go.WideShapes Go.ChangeAt Go.RowKit
open Ap (Scp Prt Tir Prm)
def inR (x a b : Int) : Bool := decide (a <= x) && decide (x <= b)
theorem inR_yes {x a b : Int} (h : a <= x) (k : x <= b) : inR x a b = true := by unfold inR; rw [decide_eq_true h, decide_eq_true k]; rfl
theorem inR_low {x a b : Int} (h : x < a) : inR x a b = false := by unfold inR; rw [decide_eq_false (by omega)]; rfl
theorem inR_high {x a b : Int} (h : b < x) : inR x a b = false := by unfold inR; rw [decide_eq_false (p := x <= b) (by omega), Bool.and_false]
theorem within64_any (x a b : Int) (w : World) : Calls Tryz.prog 87 #[.int .i64 x, .int .i64 a, .int .i64 b] w fun e w' => e = .returned (.bool (inR x a b)) /\ w' = w := by
  by_cases h1 : a <= x
  . by_cases h2 : x <= b
    . have HG := Lib.hid (inR_yes h1 h2)
      go_enter Tryz.func87, Tryz.ntmps87
      go_wp2
      go_ret
      exact ⟨by rw [HG.out]; rfl, rfl⟩
    . have HG := Lib.hid (inR_high (a := a) (x := x) (b := b) (by omega))
      go_enter Tryz.func87, Tryz.ntmps87
      go_wp2
      go_ret
      exact ⟨by rw [HG.out]; rfl, rfl⟩
  . have HG := Lib.hid (inR_low (a := a) (x := x) (b := b) (by omega))
    go_enter Tryz.func87, Tryz.ntmps87
    go_wp2
    go_ret
    exact ⟨by rw [HG.out]; rfl, rfl⟩
theorem within_any (x a b : Int) (w : World) : Calls Tryz.prog 88 #[.int .i64 x, .int .i64 a, .int .i64 b] w fun e w' => e = .returned (.bool (inR x a b)) /\ w' = w := by
  by_cases h1 : a <= x
  . by_cases h2 : x <= b
    . have HG := Lib.hid (inR_yes h1 h2)
      go_enter Tryz.func88, Tryz.ntmps88
      go_wp2
      go_ret
      exact ⟨by rw [HG.out]; rfl, rfl⟩
    . have HG := Lib.hid (inR_high (a := a) (x := x) (b := b) (by omega))
      go_enter Tryz.func88, Tryz.ntmps88
      go_wp2
      go_ret
      exact ⟨by rw [HG.out]; rfl, rfl⟩
  . have HG := Lib.hid (inR_low (a := a) (x := x) (b := b) (by omega))
    go_enter Tryz.func88, Tryz.ntmps88
    go_wp2
    go_ret
    exact ⟨by rw [HG.out]; rfl, rfl⟩
theorem blank_any (s : ByteArray) (w : World) (hs : s.size <= maxLen) : Calls Tryz.prog 92 #[.string s] w fun e w' => e = .returned (.bool (Pr.blankB s)) /\ w' = w := by
  have HN := Lib.hid (fun W => Gd.name_any s W hs)
  clear hs
  cases e : s.toList.isEmpty with
  | true =>
    have HG : Hid (Pr.blankB s = true) := Lib.hid (by unfold Pr.blankB; rw [e]; rfl)
    have g : s.toList = [] := List.isEmpty_iff.1 e
    clear e
    go_enter Tryz.func92, Tryz.ntmps92
    go_wp2
    go_ret
    exact ⟨by rw [HG.out]; rfl, rfl⟩
  | false =>
    have g : ¬ s.toList = [] := fun k => by rw [k] at e; cases e
    have HG : Hid (Pr.blankB s = Sr.name s) := Lib.hid (by unfold Pr.blankB; rw [e]; rfl)
    have HE := Lib.hid e
    obtain ⟨b, hb⟩ : ∃ b, Sr.name s = b := ⟨_, rfl⟩
    simp only [hb] at HN HG
    clear e hb
    go_enter Tryz.func92, Tryz.ntmps92
    go_wp2_with fail
    refine (HN.out _).mono ?_
    rintro e w1 ⟨rfl, rfl⟩
    go_wp2
    go_ret
    refine ⟨?_, rfl⟩
    rw [HG.out]
    show Ending.returned (.bool (s.toList.isEmpty || b)) = _
    rw [HE.out]; rfl
def wh (t : Int) (b : Bool) : Int := if b then t else 0
theorem where_any (t : Int) (b : Bool) (w : World) : Calls Tryz.prog 93 #[.int .i64 t, .bool b] w fun e w' => e = .returned (.int .i64 (wh t b)) /\ w' = w := by
  cases b with
  | true =>
    have HG : Hid (wh t true = t) := Lib.hid rfl
    go_enter Tryz.func93, Tryz.ntmps93
    go_wp2
    go_ret
    exact ⟨by rw [HG.out]; rfl, rfl⟩
  | false =>
    have HG : Hid (wh t false = 0) := Lib.hid rfl
    go_enter Tryz.func93, Tryz.ntmps93
    go_wp2
    go_ret
    exact ⟨by rw [HG.out]; rfl, rfl⟩
theorem rate_any (p : Prm) (l : Prm.Lay) (w : World) : Calls Tryz.prog 50 #[.agg #[.string p.id, .int .i64 p.kind, .int .i64 p.priority, .string p.group, .string p.code, .bool p.closes, .slice l.scope.skus.A l.scope.skus.n l.scope.skus.c, .slice l.scope.cats.A l.scope.cats.n l.scope.cats.c, .int .i64 p.least, .int .i64 p.rate, .int .i64 p.amount, .int .i64 p.buy, .int .i64 p.get, .slice l.parts.A l.parts.n l.parts.c, .slice l.tiers.A l.tiers.n l.tiers.c]] w fun e w' => e = .returned (.bool (inR p.rate 1 10000)) /\ Below w.heap.size w w' := by
  have HW := Lib.hid (fun W => within64_any p.rate 1 10000 W)
  have HB : Hid (∀ o, Below w.heap.size w (w.alloc o)) := Lib.hid fun o => (Below.refl _ _).alloc (Nat.le_refl _) _
  obtain ⟨b, hb⟩ : ∃ b, inR p.rate 1 10000 = b := ⟨_, rfl⟩
  simp only [hb] at HW ⊢
  clear hb
  go_enter Tryz.func50, Tryz.ntmps50
  go_wp2_with fail
  refine (HW.out _).mono ?_
  rintro e w1 ⟨rfl, rfl⟩
  go_wp2
  go_ret
  exact ⟨rfl, HB.out _⟩
theorem amount_any (p : Prm) (l : Prm.Lay) (w : World) : Calls Tryz.prog 51 #[.agg #[.string p.id, .int .i64 p.kind, .int .i64 p.priority, .string p.group, .string p.code, .bool p.closes, .slice l.scope.skus.A l.scope.skus.n l.scope.skus.c, .slice l.scope.cats.A l.scope.cats.n l.scope.cats.c, .int .i64 p.least, .int .i64 p.rate, .int .i64 p.amount, .int .i64 p.buy, .int .i64 p.get, .slice l.parts.A l.parts.n l.parts.c, .slice l.tiers.A l.tiers.n l.tiers.c]] w fun e w' => e = .returned (.bool (inR p.amount 1 1000000000)) /\ Below w.heap.size w w' := by
  have HW := Lib.hid (fun W => within64_any p.amount 1 1000000000 W)
  have HB : Hid (∀ o, Below w.heap.size w (w.alloc o)) := Lib.hid fun o => (Below.refl _ _).alloc (Nat.le_refl _) _
  obtain ⟨b, hb⟩ : ∃ b, inR p.amount 1 1000000000 = b := ⟨_, rfl⟩
  simp only [hb] at HW ⊢
  clear hb
  go_enter Tryz.func51, Tryz.ntmps51
  go_wp2_with fail
  refine (HW.out _).mono ?_
  rintro e w1 ⟨rfl, rfl⟩
  go_wp2
  go_ret
  exact ⟨rfl, HB.out _⟩
def takesB (t : Tir) : Bool := inR t.rate 0 10000 && inR t.amount 0 10000000000000 && (decide (0 < t.rate) || decide (0 < t.amount))
theorem takesB_def (t : Tir) : takesB t = (inR t.rate 0 10000 && inR t.amount 0 10000000000000 && (decide (0 < t.rate) || decide (0 < t.amount))) := rfl
set_option maxHeartbeats 1000000 in
theorem takes_any (t : Tir) (w : World) : Calls Tryz.prog 90 #[.agg #[.int .i64 t.least, .int .i64 t.rate, .int .i64 t.amount]] w fun e w' => e = .returned (.bool (takesB t)) /\ Below w.heap.size w w' := by
  have HR := Lib.hid (fun W => within64_any t.rate 0 10000 W)
  have HA := Lib.hid (fun W => within64_any t.amount 0 10000000000000 W)
  have HB : Hid (∀ o, Below w.heap.size w (w.alloc o)) := Lib.hid fun o => (Below.refl _ _).alloc (Nat.le_refl _) _
  have HD := Lib.hid (takesB_def t)
  cases b1 : inR t.rate 0 10000 with
  | false =>
    simp only [b1] at HR
    have HG : Hid (takesB t = false) := Lib.hid (by rw [HD.out, b1]; rfl)
    clear b1
    go_enter Tryz.func90, Tryz.ntmps90
    go_wp2_with fail
    refine (HR.out _).mono ?_
    rintro e w1 ⟨rfl, rfl⟩
    go_wp2
    go_ret
    exact ⟨by rw [HG.out]; rfl, HB.out _⟩
  | true =>
    simp only [b1] at HR
    cases b2 : inR t.amount 0 10000000000000 with
    | false =>
      simp only [b2] at HA
      have HG : Hid (takesB t = false) := Lib.hid (by rw [HD.out, b1, b2]; rfl)
      clear b1 b2
      go_enter Tryz.func90, Tryz.ntmps90
      go_wp2_with fail
      refine (HR.out _).mono ?_
      rintro e w1 ⟨rfl, rfl⟩
      go_wp2_with fail
      refine (HA.out _).mono ?_
      rintro e w1 ⟨rfl, rfl⟩
      go_wp2
      go_ret
      exact ⟨by rw [HG.out]; rfl, HB.out _⟩
    | true =>
      simp only [b2] at HA
      by_cases h1 : 0 < t.rate
      . have HG : Hid (takesB t = true) := Lib.hid (by rw [HD.out, b1, b2, decide_eq_true h1]; rfl)
        clear b1 b2
        go_enter Tryz.func90, Tryz.ntmps90
        go_wp2_with fail
        refine (HR.out _).mono ?_
        rintro e w1 ⟨rfl, rfl⟩
        go_wp2_with fail
        refine (HA.out _).mono ?_
        rintro e w1 ⟨rfl, rfl⟩
        go_wp2
        go_ret
        exact ⟨by rw [HG.out]; rfl, HB.out _⟩
      . have HG : Hid (takesB t = decide (0 < t.amount)) := Lib.hid (by rw [HD.out, b1, b2, decide_eq_false h1]; rfl)
        clear b1 b2
        go_enter Tryz.func90, Tryz.ntmps90
        go_wp2_with fail
        refine (HR.out _).mono ?_
        rintro e w1 ⟨rfl, rfl⟩
        go_wp2_with fail
        refine (HA.out _).mono ?_
        rintro e w1 ⟨rfl, rfl⟩
        go_wp2
        go_ret
        refine ⟨?_, HB.out _⟩
        rw [HG.out]
        show Ending.returned (.bool (decide (0 < t.rate) || decide (0 < t.amount))) = _
        rw [decide_eq_false (by omega : ¬ 0 < t.rate)]; rfl
def rowsB (p : Prm) : Bool := inR p.buy 1 100 && inR p.get 1 100 && inR p.rate 1 10000
theorem rowsB_def (p : Prm) : rowsB p = (inR p.buy 1 100 && inR p.get 1 100 && inR p.rate 1 10000) := rfl
set_option maxHeartbeats 2000000 in
theorem rows_any (p : Prm) (l : Prm.Lay) (w : World) : Calls Tryz.prog 52 #[.agg #[.string p.id, .int .i64 p.kind, .int .i64 p.priority, .string p.group, .string p.code, .bool p.closes, .slice l.scope.skus.A l.scope.skus.n l.scope.skus.c, .slice l.scope.cats.A l.scope.cats.n l.scope.cats.c, .int .i64 p.least, .int .i64 p.rate, .int .i64 p.amount, .int .i64 p.buy, .int .i64 p.get, .slice l.parts.A l.parts.n l.parts.c, .slice l.tiers.A l.tiers.n l.tiers.c]] w fun e w' => e = .returned (.bool (rowsB p)) /\ Below w.heap.size w w' := by
  have H1 := Lib.hid (fun W => within_any p.buy 1 100 W)
  have H2 := Lib.hid (fun W => within_any p.get 1 100 W)
  have H3 := Lib.hid (fun W => rate_any p l W)
  obtain ⟨w1, hw1⟩ : ∃ w1, w.alloc (.cells #[.string p.id, .int .i64 p.kind, .int .i64 p.priority, .string p.group, .string p.code, .bool p.closes, .slice l.scope.skus.A l.scope.skus.n l.scope.skus.c, .slice l.scope.cats.A l.scope.cats.n l.scope.cats.c, .int .i64 p.least, .int .i64 p.rate, .int .i64 p.amount, .int .i64 p.buy, .int .i64 p.get, .slice l.parts.A l.parts.n l.parts.c, .slice l.tiers.A l.tiers.n l.tiers.c] 83) = w1 := ⟨_, rfl⟩
  have hx : Qu.Blk w1 w.heap.size 83 #[.string p.id, .int .i64 p.kind, .int .i64 p.priority, .string p.group, .string p.code, .bool p.closes, .slice l.scope.skus.A l.scope.skus.n l.scope.skus.c, .slice l.scope.cats.A l.scope.cats.n l.scope.cats.c, .int .i64 p.least, .int .i64 p.rate, .int .i64 p.amount, .int .i64 p.buy, .int .i64 p.get, .slice l.parts.A l.parts.n l.parts.c, .slice l.tiers.A l.tiers.n l.tiers.c] := by rw [<- hw1]; exact Qu.Blk.new w _ _
  have HB : Hid (Below w.heap.size w w1) := Lib.hid (by rw [<- hw1]; exact (Below.refl _ _).alloc (Nat.le_refl _) _)
  have x0 := hx.cell 0
  have x1 := hx.cell 1
  have x2 := hx.cell 2
  have x3 := hx.cell 3
  have x4 := hx.cell 4
  have x5 := hx.cell 5
  have x6 := hx.cell 6
  have x7 := hx.cell 7
  have x8 := hx.cell 8
  have x9 := hx.cell 9
  have x10 := hx.cell 10
  have x11 := hx.cell 11
  have x12 := hx.cell 12
  have x13 := hx.cell 13
  have x14 := hx.cell 14
  have HD := Lib.hid (rowsB_def p)
  clear hx
  cases b1 : inR p.buy 1 100 with
  | false =>
    simp only [b1] at H1
    have HG : Hid (rowsB p = false) := Lib.hid (by rw [HD.out, b1]; rfl)
    clear b1
    go_enter Tryz.func52, Tryz.ntmps52
    go_wp2_with fail
    refine (H1.out _).mono ?_
    rintro e w2 ⟨rfl, rfl⟩
    go_wp2
    go_ret
    exact ⟨by rw [HG.out]; rfl, HB.out⟩
  | true =>
    simp only [b1] at H1
    cases b2 : inR p.get 1 100 with
    | false =>
      simp only [b2] at H2
      have HG : Hid (rowsB p = false) := Lib.hid (by rw [HD.out, b1, b2]; rfl)
      clear b1 b2
      go_enter Tryz.func52, Tryz.ntmps52
      go_wp2_with fail
      refine (H1.out _).mono ?_
      rintro e w2 ⟨rfl, rfl⟩
      go_wp2_with fail
      refine (H2.out _).mono ?_
      rintro e w2 ⟨rfl, rfl⟩
      go_wp2
      go_ret
      exact ⟨by rw [HG.out]; rfl, HB.out⟩
    | true =>
      simp only [b2] at H2
      have HG : Hid (rowsB p = inR p.rate 1 10000) := Lib.hid (by rw [HD.out, b1, b2]; rfl)
      obtain ⟨b, hb⟩ : ∃ b, inR p.rate 1 10000 = b := ⟨_, rfl⟩
      simp only [hb] at H3 HG
      clear b1 b2 hb
      go_enter Tryz.func52, Tryz.ntmps52
      go_wp2_with fail
      refine (H1.out _).mono ?_
      rintro e w2 ⟨rfl, rfl⟩
      go_wp2_with fail
      refine (H2.out _).mono ?_
      rintro e w2 ⟨rfl, rfl⟩
      go_wp2_with fail
      refine (H3.out _).mono ?_
      rintro e w3 ⟨rfl, hb3⟩
      have HB3 := Lib.hid (HB.out.trans (hb3.mono HB.out.size))
      clear hb3
      go_wp2
      go_ret
      exact ⟨by rw [HG.out]; rfl, HB3.out⟩
end Go.Proofs.YtljmddjlnlmenaaGreat.Pm

end

section
namespace Go.Proofs.YtljmddjlnlmenaaGreat.Sc
open Go.ChangeShapes Go.WideShapes Go.ChangeAt Go.RowKit
open It (Itm kItem row_item)
open Ap (Scp kScp row_Scp)
open Kd (Row Fit Lst Sl kStr kInt kList row_str Deep But Own)
theorem leq_str (a b : ByteArray) (W : World) : (binOp .leq 9 (.string a) (.string b)).run Tryz.prog W = .ok (.bool (!Sr.lt b a)) W := by
  have e : binOp .leq 9 (.string a) (.string b) = pure (.bool (Op.bytesLess a.toList b.toList || a.toList == b.toList)) := by simp [binOp, Op.stringOp]
  rw [e, Sr.le_iff]
  rfl
set_option maxHeartbeats 2000000 in
theorem rnames_any (A : Option Addr) (n c : Nat) (l : List ByteArray) (m : Int) (F : Nat -> Prop) (w : World) (h : Row kStr w F A n l) (hn : n <= 9223372036854775807) :
    Calls Tryz.prog 98 #[.slice A n c, .int .i64 m] w fun e w' => e = .returned (.bool (namesB l m)) /\ Hl.Drawn w w' := by
  have hlen := h.len
  have HH := Lib.hid h
  have HL := Lib.hid hlen
  clear h hlen
  go_enter Tryz.func98, Tryz.ntmps98
  go_wp2
  go_loopw [5] (fun s5 wr => ∃ k : Nat, s5 = .int .i64 k /\ k <= n /\ Hl.Drawn w wr /\ UpTo l k) (fun s5 _ => n - (intOf s5).toNat)
  case atStart => exact ⟨0, rfl, by omega, ⟨0, rfl⟩, ⟨fun i x hi => by omega, fun i x y hi => by omega⟩⟩
  case round =>
    obtain ⟨k, rfl, hk, hD, hU⟩ := hrel
    have HU := Lib.hid hU
    clear hU
    by_cases hlt : k < n
    . obtain ⟨x, hx⟩ := HH.out.get hlt
      obtain ⟨g, o, rfl, _, _, hok, a0⟩ := row_str HH.out hx
      have c0 : wr.cell? ⟨g, o + k, none⟩ = some (.string x) := by obtain ⟨d, rfl⟩ := hD; exact a0
      have HX := Lib.hid hx
      have N1 := Lib.hid (fun W => Py.rname_any x W hok)
      have k1 : (k : Int) < (n : Int) := by omega
      have kk : (0 : Int) <= (k : Int) := by omega
      clear a0 hx hok
      cases n1 : Sr.name x with
      | false =>
        simp only [n1] at N1
        have HB := Lib.hid (bad_name (m := m) HX.out n1)
        have HD := Lib.hid hD
        clear n1 hD
        go_wp2_with fail
        go_quiet ((go_at_call 64; exact Calls.quiet_of_same (N1.out _)))
        go_wp2
        go_ret
        exact ⟨by rw [HB.out]; rfl, HD.out.more _⟩
      | true =>
        simp only [n1] at N1
        by_cases k0 : 0 < k
        . obtain ⟨y, hy⟩ := HH.out.get (k := k - 1) (by omega)
          obtain ⟨g', o', hA, _, _, _, b1⟩ := row_str HH.out hy
          injection hA with hA
          injection hA with hA1 hA2
          subst hA1 hA2
          have d0 : wr.cell? ⟨g, o + (k - 1), none⟩ = some (.string y) := by obtain ⟨d, rfl⟩ := hD; exact b1
          have HD := Lib.hid hD
          have HY := Lib.hid hy
          have j0 : (0 : Int) < (k : Int) := by omega
          have j1 : (0 : Int) <= (k : Int) - 1 := by omega
          have j2 : (k : Int) - 1 < (n : Int) := by omega
          have j3 : ((k : Int) - 1).toNat = k - 1 := by omega
          have hle := fun W => leq_str x y W
          clear hD b1 hy
          cases hB : Sr.lt y x with
          | true =>
            simp only [hB] at hle
            have HU2 := Lib.hid (HU.out.next HX.out n1 fun z _ hz => by
              rw [HY.out] at hz; injection hz with hz; subst hz; exact hB)
            clear hB n1
            go_wp2_with fail
            go_quiet ((go_at_call 64; exact Calls.quiet_of_same (N1.out _)))
            go_wp2
            go_roundw
            case rel => exact ⟨k + 1, by go_num, by omega, HD.out.more _, HU2.out⟩
            case measure => simp [intOf]; omega
          | false =>
            simp only [hB] at hle
            have HB := Lib.hid (bad_step (m := m) HX.out HY.out k0 hB)
            clear hB n1
            go_wp2_with fail
            go_quiet ((go_at_call 64; exact Calls.quiet_of_same (N1.out _)))
            go_wp2
            go_ret
            exact ⟨by rw [HB.out]; rfl, HD.out.more _⟩
        . have j0 : ¬ (0 : Int) < (k : Int) := by omega
          have HU2 := Lib.hid (HU.out.next HX.out n1 fun z h => by omega)
          have HD := Lib.hid hD
          clear hD n1
          go_wp2_with fail
          go_quiet ((go_at_call 64; exact Calls.quiet_of_same (N1.out _)))
          go_wp2
          go_roundw
          case rel => exact ⟨k + 1, by go_num, by omega, HD.out.more _, HU2.out⟩
          case measure => simp [intOf]; omega
    . obtain rfl : k = n := by omega
      have k1 : ¬ (k : Int) < (k : Int) := by omega
      have HG : Hid (namesB l m = decide ((k : Int) <= m)) := Lib.hid (by
        have h1 := HU.out
        have h2 := HL.out
        rw [<- h2] at h1 ⊢
        exact h1.names)
      go_wp2
      go_ret
      exact ⟨by rw [HG.out]; rfl, hD⟩
def Small (l : Scp.Lay) : Prop := l.skus.n <= 9223372036854775807 /\ l.cats.n <= 9223372036854775807
theorem rscope_any (s : Scp) (l : Scp.Lay) (w : World) (h : Scp.Holds w (· < w.heap.size) s l) (hl : Small l) :
    Calls Tryz.prog 65 #[.agg #[.slice l.skus.A l.skus.n l.skus.c, .slice l.cats.A l.cats.n l.cats.c]] w fun e w' => e = .returned (.bool (scopeB s)) /\ Below w.heap.size w w' := by
  obtain ⟨⟨A1, n1, c1⟩, ⟨A2, n2, c2⟩⟩ := l
  have hd : scopeB s = (namesB s.skus 20 && namesB s.cats 20) := rfl
  have HA : Hid (∀ W, Below w.heap.size w W -> Calls Tryz.prog 98 #[.slice A1 n1 c1, .int .i64 20] W fun e w' => e = .returned (.bool (namesB s.skus 20)) /\ Hl.Drawn W w') := Lib.hid fun W hW =>
    rnames_any A1 n1 c1 s.skus 20 _ W (h.skus.row.below hW (Nat.le_refl _)) hl.1
  have HC : Hid (∀ W, Below w.heap.size w W -> Calls Tryz.prog 98 #[.slice A2 n2 c2, .int .i64 20] W fun e w' => e = .returned (.bool (namesB s.cats 20)) /\ Hl.Drawn W w') := Lib.hid fun W hW =>
    rnames_any A2 n2 c2 s.cats 20 _ W (h.cats.row.below hW (Nat.le_refl _)) hl.2
  obtain ⟨w1, hw1⟩ : ∃ w1, w.alloc (.cells #[.slice A1 n1 c1, .slice A2 n2 c2] 24) = w1 := ⟨_, rfl⟩
  have HB1 : Hid (Below w.heap.size w w1) := Lib.hid (by rw [<- hw1]; exact (Below.refl _ _).alloc (Nat.le_refl _) _)
  have hx : Qu.Blk w1 w.heap.size 24 #[.slice A1 n1 c1, .slice A2 n2 c2] := by rw [<- hw1]; exact Qu.Blk.new w _ _
  have x0 := hx.cell 0
  have X1 := Lib.hid (hx.cell 1)
  clear h hl hx
  cases b1 : namesB s.skus 20 with
  | false =>
    simp only [b1] at HA
    have HD : Hid (scopeB s = false) := Lib.hid (by rw [hd, b1]; rfl)
    clear hd b1 X1
    go_enter Tryz.func65, Tryz.ntmps65
    go_wp2_with fail
    refine (HA.out _ HB1.out).mono ?_
    rintro e w2 ⟨rfl, hD⟩
    have HB := Lib.hid (HB1.out.trans (hD.below _))
    clear hD
    go_wp2
    go_ret
    exact ⟨by rw [HD.out]; rfl, HB.out⟩
  | true =>
    simp only [b1] at HA
    have HD : Hid (scopeB s = namesB s.cats 20) := Lib.hid (by rw [hd, b1]; rfl)
    clear hd b1
    go_enter Tryz.func65, Tryz.ntmps65
    go_wp2_with fail
    refine (HA.out _ HB1.out).mono ?_
    rintro e w2 ⟨rfl, hD⟩
    have x1 : w2.cell? ⟨w.heap.size, 1, none⟩ = some (.slice A2 n2 c2) := by obtain ⟨d, rfl⟩ := hD; exact X1.out
    have HB := Lib.hid (HB1.out.trans (hD.below _))
    clear hD
    go_wp2_with fail
    refine (HC.out _ HB.out).mono ?_
    rintro e w3 ⟨rfl, hD⟩
    have HB3 := Lib.hid (HB.out.trans (hD.below _))
    clear hD
    obtain ⟨b, hb⟩ : ∃ b, namesB s.cats 20 = b := ⟨_, rfl⟩
    simp only [hb] at HD ⊢
    clear hb
    go_wp2
    go_ret
    exact ⟨by rw [HD.out]; rfl, HB3.out⟩
end Go.Proofs.YtljmddjlnlmenaaGreat.Sc

end
