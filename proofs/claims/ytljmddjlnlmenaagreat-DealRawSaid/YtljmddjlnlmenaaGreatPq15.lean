/- Cuts: the landed each and the four ways to take something off (made by gen-cut15.py). · Cuts: what follows (the mathemat .. -/
import Derived.Deep.Quiet
import Derived.Deep.QuietTactic
import Derived.Laws.EntriesVeiled
import Derived.Lib.SliceRun
import Derived.Test.YtljmddjlnlmenaaGreatPq1
import Derived.Test.YtljmddjlnlmenaaGreatPq12
import Derived.Test.YtljmddjlnlmenaaGreatPq13
import Derived.Test.YtljmddjlnlmenaaGreatPq14
import Derived.Test.YtljmddjlnlmenaaGreatPq2
import Derived.Test.YtljmddjlnlmenaaGreatPq6
import Derived.Test.YtljmddjlnlmenaaGreatPq7
set_option maxRecDepth 100000
set_option linter.unusedVariables false

section
namespace Go.Proofs.YtljmddjlnlmenaaGreat.Ct
open Go.ChangeShapes Go.WideShapes Go.ChangeAt Go.RowKit
open Ap (Unt Tir Prm kUnt kTir row_Unt row_Tir)
open Kd (Kind Row kInt row_int)
open Ko (Out Told Told2 At row_on)
def Typed (w : World) (A : Option Addr) : Prop := ∀ (b o : Nat), A = some ⟨b, o, none⟩ -> ∃ cs, w.heap[b]? = some (.cells cs 2 (0, 0))
def GaveT (e : Ending) (w w' : World) (p : List Int × Int) : Prop := ∃ A c, e = .returned (.tuple #[.slice A p.1.length c, .int .i64 p.2]) /\ Hl.Ints w' w'.heap.size A p.1.length (Sh.nth p.1) /\ Below w.heap.size w w' /\ Typed w' A
theorem GaveT.row {w w' : World} {g n : Nat} {l : List Int} (hl : l.length = n) (h : Sh.RowAt w' g l) (hb : Below w.heap.size w w') : GaveT (.returned (.tuple #[.slice (some ⟨g, 0, none⟩) n n, .int .i64 0])) w w' (l, 0) := by
  subst hl
  exact ⟨_, _, rfl, h.ints, hb, fun b o hA => by injection hA with hA; injection hA with hA; subst hA; exact ⟨_, Qu.Blk.here h⟩⟩
theorem lgT_zero (A : Option Addr) (n c : Nat) (f : Nat -> Int) (w : World) (ha : Hl.Ints w w.heap.size A n f) (hn : n <= 100000) (hf : ∀ k, k < n -> 0 <= f k /\ f k <= 100000000000000) (h : Sh.sumF f n = 0) :
    Calls Tryz.prog 39 #[.int .i64 0, .slice A n c] w fun e w' => GaveT e w w' (List.replicate n 0, 0) := by
  have HR := Lib.hid (Sh.allRight_any A n c f _ w ha)
  have e1 : (decide (n <= 100000) && Sh.allOk f n) = true := by rw [Bool.and_eq_true, decide_eq_true_eq, Sh.allOk_iff]; exact ⟨hn, hf⟩
  rw [e1] at HR
  have HA := Lib.hid (Sh.added_any A n c f _ w ha hn hf)
  have e2 : Sh.addedR f n = (0, 0) := by unfold Sh.addedR; rw [h]; rfl
  rw [e2] at HA
  have hmk := Sh.make_row n (by omega)
  have HG := Lib.hid (GaveT.row (w := w) (n := n) (l := List.replicate n 0) (by simp) (Sh.RowAt.made w n) ((Below.refl _ _).alloc (Nat.le_refl _) _))
  clear ha h e1 e2 hf
  unfold Rf.pairOf at HA
  go_enter Tryz.func39, Tryz.ntmps39
  go_wp2_with fail
  refine (Mn.right_yes _ _ (by omega) (by omega)).mono ?_
  rintro e w1 ⟨rfl, rfl⟩
  go_wp2_with fail
  refine HR.out.mono ?_
  rintro e w2 ⟨rfl, rfl⟩
  go_wp2_with fail
  refine HA.out.mono ?_
  rintro e w3 ⟨rfl, rfl⟩
  go_wp2
  all_goals
    go_ret2
    exact HG.out
theorem lgT_parts (t : Int) (A : Option Addr) (n c : Nat) (f : Nat -> Int) (w : World) (ha : Hl.Ints w w.heap.size A n f) (t0 : 0 <= t) (t1 : t <= 100000000000000) (hn : n <= 100000) (hf : ∀ k, k < n -> 0 <= f k /\ f k <= 100000000000000) (h : 1 <= Sh.sumF f n) (h1 : Sh.sumF f n <= 100000000000000) :
    Calls Tryz.prog 39 #[.int .i64 t, .slice A n c] w fun e w' => GaveT e w w' (Sh.parts t (Sh.sumF f n) f n, 0) := by
  have HR := Lib.hid (Sh.allRight_any A n c f _ w ha)
  have e1 : (decide (n <= 100000) && Sh.allOk f n) = true := by rw [Bool.and_eq_true, decide_eq_true_eq, Sh.allOk_iff]; exact ⟨hn, hf⟩
  rw [e1] at HR
  have HA := Lib.hid (Sh.added_any A n c f _ w ha hn hf)
  have e2 : Sh.addedR f n = (Sh.sumF f n, 0) := by unfold Sh.addedR; rw [if_pos h1]
  rw [e2] at HA
  have HD := Lib.hid (Sh.divide_any t (Sh.sumF f n) A n c f w ha hn t0 t1 h h1 rfl (fun k hk => ⟨(hf k hk).1, Sh.sumF_elem n k hk (fun j hj => (hf j hj).1)⟩))
  have HL := Lib.hid (Sh.parts_length (t := t) (S := Sh.sumF f n) (f := f) (n := n))
  clear ha e1 e2 hf
  unfold Rf.pairOf at HA
  generalize Sh.parts t (Sh.sumF f n) f n = l at *
  generalize Sh.sumF f n = S at *
  go_enter Tryz.func39, Tryz.ntmps39
  go_wp2_with fail
  refine (Mn.right_yes _ _ t0 t1).mono ?_
  rintro e w1 ⟨rfl, rfl⟩
  go_wp2_with fail
  refine HR.out.mono ?_
  rintro e w2 ⟨rfl, rfl⟩
  go_wp2_with fail
  refine HA.out.mono ?_
  rintro e w3 ⟨rfl, rfl⟩
  go_wp2_with fail
  refine HD.out.mono ?_
  rintro e w4 ⟨g, rfl, hr, hb⟩
  have HG := Lib.hid (GaveT.row HL.out hr hb)
  clear hr hb
  go_wp2
  all_goals
    go_ret2
    exact HG.out
theorem largestT_any (t : Int) (A : Option Addr) (n c : Nat) (f : Nat -> Int) (w : World) (ha : Hl.Ints w w.heap.size A n f) (ht : 0 <= t /\ t <= 100000000000000) (hn : n <= 100000) (hf : ∀ k, k < n -> 0 <= f k /\ f k <= 100000000000000) (h5 : Sh.sumF f n <= 100000000000000) (hts : t <= Sh.sumF f n) :
    Calls Tryz.prog 39 #[.int .i64 t, .slice A n c] w fun e w' => GaveT e w w' (Sh.largR t f n) := by
  by_cases h0 : Sh.sumF f n = 0
  . obtain rfl : t = 0 := by omega
    rw [Sh.larg_zero ht hn hf h0 (by omega)]
    exact lgT_zero A n c f w ha hn hf h0
  . rw [Sh.larg_parts ht hn hf h0 (by omega)]
    have := Sh.sumF_nonneg (f := f) n (fun k hk => (hf k hk).1)
    exact lgT_parts t A n c f w ha ht.1 ht.2 hn hf (by omega) (by omega)
end Go.Proofs.YtljmddjlnlmenaaGreat.Ct

end

section
namespace Go.Proofs.YtljmddjlnlmenaaGreat.Ct
open Ap (Unt Tir Prm)
theorem subK_other {us : List Unt} {ms os : List Int} {i : Nat} : ∀ k, (∀ j, j < k -> (nth ms j).toNat ≠ i) -> (subK us ms os k)[i]? = us[i]?
  | 0, _ => rfl
  | k + 1, h => by
    rw [subK, List.getElem?_modify, subK_other k fun j hj => h j (by omega)]
    have := h k (by omega)
    simp [this]
theorem subK_mine {us : List Unt} {ms os : List Int} (hf : Far ms) {j : Nat} {m : Int} (hm : ms[j]? = some m) {u : Unt} (hu : us[m.toNat]? = some u) : ∀ k, j < k -> k <= ms.length -> (subK us ms os k)[m.toNat]? = some (lessNet (nth os j) u)
  | 0, h, _ => by omega
  | k + 1, h, hk => by
    rw [subK, List.getElem?_modify]
    rcases Nat.lt_or_ge j k with h1 | h1
    . have e := List.getElem?_eq_getElem (show k < ms.length by omega)
      have hne := hf j k m _ h1 hm e
      rw [nth_some e, subK_mine hf hm hu k h1 (by omega)]
      simp
      exact fun x => absurd x.symm hne
    . obtain rfl : j = k := by omega
      rw [nth_some hm, subK_at hf hm j (Nat.le_refl _), hu]
      simp
theorem shutK_other {us : List Unt} {ms : List Int} {i : Nat} : ∀ k, (∀ j, j < k -> (nth ms j).toNat ≠ i) -> (shutK us ms k)[i]? = us[i]?
  | 0, _ => rfl
  | k + 1, h => by
    rw [shutK, List.getElem?_modify, shutK_other k fun j hj => h j (by omega)]
    have := h k (by omega)
    simp [this]
theorem shutK_mine {us : List Unt} {ms : List Int} (hf : Far ms) {j : Nat} {m : Int} (hm : ms[j]? = some m) {u : Unt} (hu : us[m.toNat]? = some u) : ∀ k, j < k -> k <= ms.length -> (shutK us ms k)[m.toNat]? = some (shut u)
  | 0, h, _ => by omega
  | k + 1, h, hk => by
    rw [shutK, List.getElem?_modify]
    rcases Nat.lt_or_ge j k with h1 | h1
    . have e := List.getElem?_eq_getElem (show k < ms.length by omega)
      have hne := hf j k m _ h1 hm e
      rw [nth_some e, shutK_mine hf hm hu k h1 (by omega)]
      simp
      exact fun x => absurd x.symm hne
    . obtain rfl : j = k := by omega
      rw [nth_some hm, shutK_other j fun t ht => by
        have e := List.getElem?_eq_getElem (show t < ms.length by omega)
        rw [nth_some e]
        exact hf t j _ m ht e hm, hu]
      simp
theorem less_length (us : List Unt) (ms os : List Int) (cl : Bool) : (lessU us ms os cl).1.length = us.length := by
  unfold lessU
  split
  . rfl
  . show (shutK _ _ _).length = _; rw [shutK_length, subK_length]
theorem less_other {us : List Unt} {ms os : List Int} (hl : os.length <= ms.length) (cl : Bool) {i : Nat} (h : ∀ (j : Nat) (m : Int), ms[j]? = some m -> m.toNat ≠ i) : (lessU us ms os cl).1[i]? = us[i]? := by
  have hj : ∀ k, k <= ms.length -> ∀ j, j < k -> (nth ms j).toNat ≠ i := fun k hk j hj => by
    have e := List.getElem?_eq_getElem (show j < ms.length by omega)
    rw [nth_some e]; exact h j _ e
  unfold lessU
  split
  . rfl
  . show (shutK _ _ _)[i]? = _
    rw [shutK_other _ (hj _ (by split <;> omega)), subK_other _ (hj _ hl)]
theorem less_mine {us : List Unt} {ms os : List Int} (hf : Far ms) (hl : os.length = ms.length) (cl : Bool) {j : Nat} {m : Int} (hm : ms[j]? = some m) {u : Unt} (hu : us[m.toNat]? = some u) (hs : sumL os ≠ 0) : (lessU us ms os cl).1[m.toNat]? = some ⟨u.line, u.net - nth os j, u.opn && !cl⟩ := by
  have hjl : j < ms.length := (List.getElem?_eq_some_iff.1 hm).1
  have h1 := subK_mine (os := os) hf hm hu os.length (by omega) (by omega)
  unfold lessU
  rw [if_neg hs]
  show (shutK _ _ _)[m.toNat]? = _
  cases cl with
  | true =>
    rw [if_pos rfl, shutK_mine hf hm h1 ms.length hjl (Nat.le_refl _)]
    show some (shut (lessNet (nth os j) u)) = _
    rw [Bool.not_true, Bool.and_false]; rfl
  | false =>
    rw [if_neg (by decide)]
    show (subK us ms os os.length)[m.toNat]? = _
    rw [h1, Bool.not_false, Bool.and_true]; rfl
end Go.Proofs.YtljmddjlnlmenaaGreat.Ct

end

section
namespace Go.Proofs.YtljmddjlnlmenaaGreat.Ct
open Go.ChangeShapes Go.WideShapes Go.ChangeAt Go.RowKit
open Ap (Unt Tir Prm kUnt kTir row_Unt row_Tir)
open Kd (Kind Row kInt row_int)
open Ko (Out Told Told2 At row_on)
set_option maxHeartbeats 1000000 in
theorem cloneU_any (A : Option Addr) (n c : Nat) (xs : List Unt) (w : World) (h : Row kUnt w (· < w.heap.size) A n xs) (hf : Kd.Fit A n c) (hn : n <= 1000000000000) :
    Calls Tryz.prog 27 #[.slice A n c] w fun e w' => ∃ A' c', e = .returned (.slice A' n c') /\ Kd.Own kUnt w' w.heap.size 35 (fun _ => False) (.slice A' n c') n xs /\ Below w.heap.size w w' := by
  cases A with
  | none =>
    obtain ⟨rfl, rfl⟩ := hf.1 rfl
    have hl : xs = [] := List.eq_nil_of_length_eq_zero h.len
    subst hl
    have hnil := fun W => Lib.run_eql_slice_nil (P := Tryz.prog) W 29 35 none 0 0 0 0 Tryz.underlying29
    clear h hf
    go_enter Tryz.func27, Tryz.ntmps27
    go_wp2
    go_ret
    exact ⟨none, 0, rfl, Kd.Own.nil _ _ _ _ _, Below.refl _ _⟩
  | some a =>
    have hl := h.len
    subst hl
    have hnil := fun W => Lib.run_eql_slice_nil (P := Tryz.prog) W 29 35 (some a) xs.length c 0 0 Tryz.underlying29
    have HOW : Hid (Kd.Own kUnt (w.alloc (.cells #[] 35)) w.heap.size 35 (fun _ => False) (.slice (some ⟨w.heap.size, 0, none⟩) 0 0) 0 []) := Lib.hid ⟨rfl, [], World.ownsRow_made (base := w.heap.size) (e := 35) (size := 3) w #[] 0 (Nat.le_refl _) (by unfold maxLen; omega) rfl, rfl⟩
    have HR := Lib.hid (h.below (w' := w.alloc (.cells #[] 35)) (B := w.heap.size) ((Below.refl _ _).alloc (Nat.le_refl _) _) (Nat.le_refl _))
    have hlen : xs.length <= 1000000000000 := hn
    have HLn := Lib.hid hlen
    clear h hf
    go_enter Tryz.func27, Tryz.ntmps27
    go_wp2_with ((at_builtin; refine Kd.wpList_join (F := fun _ => False) (G := (· < w.heap.size)) (B := w.heap.size) (n := 0) (m := xs.length) (c := c) (v := .slice (some ⟨w.heap.size, 0, none⟩) 0 0) (xs := []) (ys := xs) (A := some a) Ap.Unt.row_t rfl _ _ rfl rfl rfl HOW.out HR.out (fun h => by cases h) (fun h => Ap.Unt_rep.2 (Ap.Unt_rep.1 h)) (by have := HLn.out; omega) (by have := HLn.out; omega) (by simp) (fun _ h => h.elim) ?_; intro v' w' hown hgrow hfr))
    rw [Nat.zero_add, List.nil_append] at hown
    obtain ⟨A', c', rfl⟩ := hown.value
    have HF : Hid (Kd.Own kUnt w' w.heap.size 35 (fun _ => False) (.slice A' xs.length c') xs.length xs /\ Below w.heap.size w w') := Lib.hid
      ⟨hown, ((Below.refl _ _).alloc (Nat.le_refl _) _).grown hgrow (by simp) (fun k hk => by rw [Mv.ownBlock_some] at hk; injection hk with hk; omega)⟩
    clear hown hgrow hfr
    go_wp2
    go_ret
    exact ⟨A', c', rfl, HF.out.1, HF.out.2⟩
def cutOne (o : Int) (cl : Bool) (u : Unt) : Unt := ⟨u.line, u.net - o, !cl⟩
def cutK (us : List Unt) (ms os : List Int) (cl : Bool) : Nat -> List Unt
  | 0 => us
  | k + 1 => (cutK us ms os cl k).modify (nth ms k).toNat (cutOne (nth os k) cl)
theorem cutK_at {us : List Unt} {ms os : List Int} {cl : Bool} (hf : Far ms) {k : Nat} {m : Int} (hm : ms[k]? = some m) : ∀ j, j <= k -> (cutK us ms os cl j)[m.toNat]? = us[m.toNat]?
  | 0, _ => rfl
  | j + 1, hj => by
    have hl : j < ms.length := by have := (List.getElem?_eq_some_iff.1 hm).1; omega
    have e := List.getElem?_eq_getElem hl
    have hne := hf j k _ m (by omega) e hm
    rw [cutK, List.getElem?_modify, nth_some e, cutK_at hf hm j (by omega)]
    simp [hne]
theorem cutK_other {us : List Unt} {ms os : List Int} {cl : Bool} {i : Nat} : ∀ k, (∀ j, j < k -> (nth ms j).toNat ≠ i) -> (cutK us ms os cl k)[i]? = us[i]?
  | 0, _ => rfl
  | k + 1, h => by
    rw [cutK, List.getElem?_modify, cutK_other k fun j hj => h j (by omega)]
    have := h k (by omega)
    simp [this]
theorem cutK_mine {us : List Unt} {ms os : List Int} {cl : Bool} (hf : Far ms) {j : Nat} {m : Int} (hm : ms[j]? = some m) {u : Unt} (hu : us[m.toNat]? = some u) : ∀ k, j < k -> k <= ms.length -> (cutK us ms os cl k)[m.toNat]? = some (cutOne (nth os j) cl u)
  | 0, h, _ => by omega
  | k + 1, h, hk => by
    rw [cutK, List.getElem?_modify]
    rcases Nat.lt_or_ge j k with h1 | h1
    . have e := List.getElem?_eq_getElem (show k < ms.length by omega)
      have hne := hf j k m _ h1 hm e
      rw [cutK_mine hf hm hu k h1 (by omega), nth_some e]
      have : ¬ (ms[k].toNat = m.toNat) := fun e => hne e.symm
      simp [this]
    . obtain rfl : j = k := by omega
      rw [cutK_at hf hm j (Nat.le_refl j), nth_some hm, hu]
      simp
end Go.Proofs.YtljmddjlnlmenaaGreat.Ct

end

section
namespace Go.Proofs.YtljmddjlnlmenaaGreat.Ct
open Go.ChangeShapes Go.WideShapes Go.ChangeAt Go.RowKit
open Ap (Unt Tir Prm kUnt kTir row_Unt row_Tir)
open Kd (Kind Row kInt row_int)
open Ko (Out Told Told2 At row_on)
def setOpn (b : Bool) (u : Unt) : Unt := ⟨u.line, u.net, b⟩
theorem Ls.flag {w wr : World} {g n c : Nat} {xs : List Unt} (h : Ls w wr g n c xs) {k : Nat} {u : Unt} (hu : xs[k]? = some u) (b : Bool) :
    Ls w (wr.setCell ⟨g, k * 3 + 2, none⟩ (.bool b)) g n c (xs.modify k (setOpn b)) := by
  have hlt := h.lt
  have hok := (h.get hu).2.2.2.2
  have h1 := Kd.Own.put (k := k) (j := 2) (x := u) (x' := setOpn b u) (a := u.enc) (u := .bool b) h.own hu (fun h => (Ap.Unt_rep.1 h).1) (by decide) (Ap.Unt_rep.2 ⟨rfl, ⟨hok.line, hok.net⟩⟩) (fun _ h => h.elim)
  rw [modify_at hu]
  exact ⟨h1.1, h.below.setCell hlt _⟩
theorem cut_one {xs : List Unt} {k : Nat} {u : Unt} (h : xs[k]? = some u) (o : Int) (cl : Bool) : (xs.modify k (lessNet o)).modify k (setOpn (!cl)) = xs.modify k (cutOne o cl) := by
  have hl := (List.getElem?_eq_some_iff.1 h).1
  have h2 : (xs.modify k (lessNet o))[k]? = some (lessNet o u) := by rw [List.getElem?_modify, h]; simp
  rw [modify_at h2, modify_at h, modify_at h, List.set_set]
  rfl
theorem less_get {xs : List Unt} {k : Nat} {u : Unt} (h : xs[k]? = some u) (o : Int) : (xs.modify k (lessNet o))[k]? = some (lessNet o u) := by rw [List.getElem?_modify, h]; simp
end Go.Proofs.YtljmddjlnlmenaaGreat.Ct

end

section
namespace Go.Proofs.YtljmddjlnlmenaaGreat.Gd
open Go.ChangeShapes Go.WideShapes Go.ChangeAt Go.RowKit
open It (Itm kItem row_item row_ok)
open Kd (Row Fit)
theorem plain_any (z : Int) (w : World) (h0 : 0 <= z) (h1 : z <= 255) : Calls Tryz.prog 108 #[.int .u8 z] w fun e w' => e = .returned (.bool (Sr.plain z)) /\ w' = w := by
  obtain ⟨hp, c1, c2⟩ | ⟨hp, c1, c2, c3⟩ | ⟨hp, c1, c2⟩ | ⟨hp, c1, d0⟩ | ⟨hp, c1, c2, d0⟩ | ⟨hp, c1, d0⟩ := Py.plain_cases z
  . rw [hp]; clear hp
    go_enter Tryz.func108, Tryz.ntmps108
    go_wp2
    go_ret
    exact ⟨rfl, rfl⟩
  . rw [hp]; clear hp
    have d1 : ¬ (97 : Int) <= z := by omega
    go_enter Tryz.func108, Tryz.ntmps108
    go_wp2
    go_ret
    exact ⟨rfl, rfl⟩
  . rw [hp]; clear hp
    subst c2
    go_enter Tryz.func108, Tryz.ntmps108
    go_wp2
    go_ret
    exact ⟨rfl, rfl⟩
  . rw [hp]; clear hp
    have d1 : (97 : Int) <= z := by omega
    have d2 : ¬ z <= (122 : Int) := by omega
    have d3 : (48 : Int) <= z := by omega
    have d4 : ¬ z <= (57 : Int) := by omega
    have d5 : (z == 45) = false := beq_eq_false_iff_ne.2 d0
    go_enter Tryz.func108, Tryz.ntmps108
    go_wp2
    go_ret
    exact ⟨rfl, rfl⟩
  . rw [hp]; clear hp
    have d1 : ¬ (97 : Int) <= z := by omega
    have d3 : (48 : Int) <= z := by omega
    have d4 : ¬ z <= (57 : Int) := by omega
    have d5 : (z == 45) = false := beq_eq_false_iff_ne.2 (by omega)
    go_enter Tryz.func108, Tryz.ntmps108
    go_wp2
    go_ret
    exact ⟨rfl, rfl⟩
  . rw [hp]; clear hp
    have d1 : ¬ (97 : Int) <= z := by omega
    have d3 : ¬ (48 : Int) <= z := by omega
    have d5 : (z == 45) = false := beq_eq_false_iff_ne.2 d0
    go_enter Tryz.func108, Tryz.ntmps108
    go_wp2
    go_ret
    exact ⟨rfl, rfl⟩
set_option maxHeartbeats 1000000 in
theorem name_any (s : ByteArray) (w : World) (hs : s.size <= maxLen) : Calls Tryz.prog 91 #[.string s] w fun e w' => e = .returned (.bool (Sr.name s)) /\ w' = w := by
  unfold maxLen at hs
  by_cases c1 : s.size < 1
  . have d1 : (s.size : Int) < 1 := by omega
    have HF := Lib.hid (Sr.name_none c1)
    clear c1
    go_enter Tryz.func91, Tryz.ntmps91
    go_wp2
    go_ret
    exact ⟨by rw [HF.out]; rfl, rfl⟩
  by_cases c2 : 12 < s.size
  . have d1 : ¬ (s.size : Int) < 1 := by omega
    have d2 : (12 : Int) < (s.size : Int) := by omega
    have HF := Lib.hid (Sr.name_long c2)
    clear c1 c2
    go_enter Tryz.func91, Tryz.ntmps91
    go_wp2
    go_ret
    exact ⟨by rw [HF.out]; rfl, rfl⟩
  have d1 : ¬ (s.size : Int) < 1 := by omega
  have d2 : ¬ (12 : Int) < (s.size : Int) := by omega
  have hA := fun k (hk : k < s.size) W => Py.run_at 9 Tryz.underlying9 s k hk W
  have HA := Lib.hid hA
  clear hA
  go_enter Tryz.func91, Tryz.ntmps91
  go_wp2
  go_loopw [14] (fun s3 wr => ∃ k : Nat, s3 = .int .i64 k /\ k <= s.size /\ wr = w /\ ∀ (j : Nat) (b : UInt8), j < k -> s.data.toList[j]? = some b -> Sr.plain (b.toNat : Int) = true) (fun s3 _ => s.size - (intOf s3).toNat)
  case atStart => exact ⟨0, rfl, by omega, rfl, fun j b hj => by omega⟩
  case round =>
    obtain ⟨k, rfl, hk, rfl, hE⟩ := hrel
    have HE := Lib.hid hE
    clear hE
    by_cases h1 : k < s.size
    . have k1 : (k : Int) < (s.size : Int) := by omega
      have hi := HA.out k h1 wr
      obtain ⟨b, hb1, hb2⟩ := Py.byte_at h1
      rw [hb2] at hi
      have HB := Lib.hid hb1
      have hbn := By.at_in s.data.toList k
      rw [hb2] at hbn
      clear hb1 hb2
      obtain ⟨z, hz⟩ : ∃ z : Int, (b.toNat : Int) = z := ⟨_, rfl⟩
      have HZ := Lib.hid hz
      rw [hz] at hi hbn
      clear hz
      have HC := Lib.hid (plain_any z wr hbn.1 hbn.2)
      cases hp : Sr.plain z with
      | true =>
        rw [hp] at HC
        have HP := Lib.hid hp
        clear hp
        go_wp2_with fail
        refine HC.out.mono ?_
        rintro e w1 ⟨rfl, rfl⟩
        go_wp2
        go_roundw
        case rel => exact ⟨k + 1, by go_num, by omega, by trivial, fun j b' hj hb' => by
          rcases Nat.lt_or_ge j k with h | h
          . exact HE.out j b' h hb'
          . obtain rfl : j = k := by omega
            rw [HB.out] at hb'
            injection hb' with hb'
            subst hb'
            rw [HZ.out]; exact HP.out⟩
        case measure => simp [intOf]; omega
      | false =>
        rw [hp] at HC
        have HF := Lib.hid (Sr.name_bad HB.out (by rw [HZ.out]; exact hp))
        clear hp
        go_wp2_with fail
        refine HC.out.mono ?_
        rintro e w1 ⟨rfl, rfl⟩
        go_wp2
        go_ret
        exact ⟨by rw [HF.out]; rfl, rfl⟩
    . have k1 : ¬ (k : Int) < (s.size : Int) := by omega
      have HF : Hid (Sr.name s = true) := Lib.hid (by
        rw [Sr.name_size fun j b hj => HE.out j b (by
          have := (List.getElem?_eq_some_iff.1 hj).1
          rw [By.size_list] at this
          omega) hj]
        simp
        omega)
      go_wp2
      go_ret
      exact ⟨by rw [HF.out]; rfl, rfl⟩
end Go.Proofs.YtljmddjlnlmenaaGreat.Gd

end

section
namespace Go.Proofs.YtljmddjlnlmenaaGreat.Pm
open Go.ChangeShapes Go.WideShapes Go.ChangeAt Go.RowKit
open Ap (Scp Prt Tir Prm)
def inR (x a b : Int) : Bool := decide (a <= x) && decide (x <= b)
theorem inR_yes {x a b : Int} (h : a <= x) (k : x <= b) : inR x a b = true := by unfold inR; rw [decide_eq_true h, decide_eq_true k]; rfl
theorem inR_low {x a b : Int} (h : x < a) : inR x a b = false := by unfold inR; rw [decide_eq_false (by omega)]; rfl
theorem inR_high {x a b : Int} (h : b < x) : inR x a b = false := by unfold inR; rw [decide_eq_false (p := x <= b) (by omega), Bool.and_false]
theorem within64_any (x a b : Int) (w : World) : Calls Tryz.prog 87 #[.int .i64 x, .int .i64 a, .int .i64 b] w fun e w' => e = .returned (.bool (inR x a b)) /\ w' = w := by
  by_cases h1 : a <= x
  . by_cases h2 : x <= b
    . have HG := Lib.hid (inR_yes h1 h2)
      go_enter Tryz.func87, Tryz.ntmps87
      go_wp2
      go_ret
      exact ⟨by rw [HG.out]; rfl, rfl⟩
    . have HG := Lib.hid (inR_high (a := a) (x := x) (b := b) (by omega))
      go_enter Tryz.func87, Tryz.ntmps87
      go_wp2
      go_ret
      exact ⟨by rw [HG.out]; rfl, rfl⟩
  . have HG := Lib.hid (inR_low (a := a) (x := x) (b := b) (by omega))
    go_enter Tryz.func87, Tryz.ntmps87
    go_wp2
    go_ret
    exact ⟨by rw [HG.out]; rfl, rfl⟩
theorem within_any (x a b : Int) (w : World) : Calls Tryz.prog 88 #[.int .i64 x, .int .i64 a, .int .i64 b] w fun e w' => e = .returned (.bool (inR x a b)) /\ w' = w := by
  by_cases h1 : a <= x
  . by_cases h2 : x <= b
    . have HG := Lib.hid (inR_yes h1 h2)
      go_enter Tryz.func88, Tryz.ntmps88
      go_wp2
      go_ret
      exact ⟨by rw [HG.out]; rfl, rfl⟩
    . have HG := Lib.hid (inR_high (a := a) (x := x) (b := b) (by omega))
      go_enter Tryz.func88, Tryz.ntmps88
      go_wp2
      go_ret
      exact ⟨by rw [HG.out]; rfl, rfl⟩
  . have HG := Lib.hid (inR_low (a := a) (x := x) (b := b) (by omega))
    go_enter Tryz.func88, Tryz.ntmps88
    go_wp2
    go_ret
    exact ⟨by rw [HG.out]; rfl, rfl⟩
theorem blank_any (s : ByteArray) (w : World) (hs : s.size <= maxLen) : Calls Tryz.prog 92 #[.string s] w fun e w' => e = .returned (.bool (Pr.blankB s)) /\ w' = w := by
  have HN := Lib.hid (fun W => Gd.name_any s W hs)
  clear hs
  cases e : s.toList.isEmpty with
  | true =>
    have HG : Hid (Pr.blankB s = true) := Lib.hid (by unfold Pr.blankB; rw [e]; rfl)
    have g : s.toList = [] := List.isEmpty_iff.1 e
    clear e
    go_enter Tryz.func92, Tryz.ntmps92
    go_wp2
    go_ret
    exact ⟨by rw [HG.out]; rfl, rfl⟩
  | false =>
    have g : ¬ s.toList = [] := fun k => by rw [k] at e; cases e
    have HG : Hid (Pr.blankB s = Sr.name s) := Lib.hid (by unfold Pr.blankB; rw [e]; rfl)
    have HE := Lib.hid e
    obtain ⟨b, hb⟩ : ∃ b, Sr.name s = b := ⟨_, rfl⟩
    simp only [hb] at HN HG
    clear e hb
    go_enter Tryz.func92, Tryz.ntmps92
    go_wp2_with fail
    refine (HN.out _).mono ?_
    rintro e w1 ⟨rfl, rfl⟩
    go_wp2
    go_ret
    refine ⟨?_, rfl⟩
    rw [HG.out]
    show Ending.returned (.bool (s.toList.isEmpty || b)) = _
    rw [HE.out]; rfl
def wh (t : Int) (b : Bool) : Int := if b then t else 0
theorem where_any (t : Int) (b : Bool) (w : World) : Calls Tryz.prog 93 #[.int .i64 t, .bool b] w fun e w' => e = .returned (.int .i64 (wh t b)) /\ w' = w := by
  cases b with
  | true =>
    have HG : Hid (wh t true = t) := Lib.hid rfl
    go_enter Tryz.func93, Tryz.ntmps93
    go_wp2
    go_ret
    exact ⟨by rw [HG.out]; rfl, rfl⟩
  | false =>
    have HG : Hid (wh t false = 0) := Lib.hid rfl
    go_enter Tryz.func93, Tryz.ntmps93
    go_wp2
    go_ret
    exact ⟨by rw [HG.out]; rfl, rfl⟩
theorem rate_any (p : Prm) (l : Prm.Lay) (w : World) : Calls Tryz.prog 50 #[.agg #[.string p.id, .int .i64 p.kind, .int .i64 p.priority, .string p.group, .string p.code, .bool p.closes, .slice l.scope.skus.A l.scope.skus.n l.scope.skus.c, .slice l.scope.cats.A l.scope.cats.n l.scope.cats.c, .int .i64 p.least, .int .i64 p.rate, .int .i64 p.amount, .int .i64 p.buy, .int .i64 p.get, .slice l.parts.A l.parts.n l.parts.c, .slice l.tiers.A l.tiers.n l.tiers.c]] w fun e w' => e = .returned (.bool (inR p.rate 1 10000)) /\ Below w.heap.size w w' := by
  have HW := Lib.hid (fun W => within64_any p.rate 1 10000 W)
  have HB : Hid (∀ o, Below w.heap.size w (w.alloc o)) := Lib.hid fun o => (Below.refl _ _).alloc (Nat.le_refl _) _
  obtain ⟨b, hb⟩ : ∃ b, inR p.rate 1 10000 = b := ⟨_, rfl⟩
  simp only [hb] at HW ⊢
  clear hb
  go_enter Tryz.func50, Tryz.ntmps50
  go_wp2_with fail
  refine (HW.out _).mono ?_
  rintro e w1 ⟨rfl, rfl⟩
  go_wp2
  go_ret
  exact ⟨rfl, HB.out _⟩
theorem amount_any (p : Prm) (l : Prm.Lay) (w : World) : Calls Tryz.prog 51 #[.agg #[.string p.id, .int .i64 p.kind, .int .i64 p.priority, .string p.group, .string p.code, .bool p.closes, .slice l.scope.skus.A l.scope.skus.n l.scope.skus.c, .slice l.scope.cats.A l.scope.cats.n l.scope.cats.c, .int .i64 p.least, .int .i64 p.rate, .int .i64 p.amount, .int .i64 p.buy, .int .i64 p.get, .slice l.parts.A l.parts.n l.parts.c, .slice l.tiers.A l.tiers.n l.tiers.c]] w fun e w' => e = .returned (.bool (inR p.amount 1 1000000000)) /\ Below w.heap.size w w' := by
  have HW := Lib.hid (fun W => within64_any p.amount 1 1000000000 W)
  have HB : Hid (∀ o, Below w.heap.size w (w.alloc o)) := Lib.hid fun o => (Below.refl _ _).alloc (Nat.le_refl _) _
  obtain ⟨b, hb⟩ : ∃ b, inR p.amount 1 1000000000 = b := ⟨_, rfl⟩
  simp only [hb] at HW ⊢
  clear hb
  go_enter Tryz.func51, Tryz.ntmps51
  go_wp2_with fail
  refine (HW.out _).mono ?_
  rintro e w1 ⟨rfl, rfl⟩
  go_wp2
  go_ret
  exact ⟨rfl, HB.out _⟩
def takesB (t : Tir) : Bool := inR t.rate 0 10000 && inR t.amount 0 10000000000000 && (decide (0 < t.rate) || decide (0 < t.amount))
theorem takesB_def (t : Tir) : takesB t = (inR t.rate 0 10000 && inR t.amount 0 10000000000000 && (decide (0 < t.rate) || decide (0 < t.amount))) := rfl
set_option maxHeartbeats 1000000 in
theorem takes_any (t : Tir) (w : World) : Calls Tryz.prog 90 #[.agg #[.int .i64 t.least, .int .i64 t.rate, .int .i64 t.amount]] w fun e w' => e = .returned (.bool (takesB t)) /\ Below w.heap.size w w' := by
  have HR := Lib.hid (fun W => within64_any t.rate 0 10000 W)
  have HA := Lib.hid (fun W => within64_any t.amount 0 10000000000000 W)
  have HB : Hid (∀ o, Below w.heap.size w (w.alloc o)) := Lib.hid fun o => (Below.refl _ _).alloc (Nat.le_refl _) _
  have HD := Lib.hid (takesB_def t)
  cases b1 : inR t.rate 0 10000 with
  | false =>
    simp only [b1] at HR
    have HG : Hid (takesB t = false) := Lib.hid (by rw [HD.out, b1]; rfl)
    clear b1
    go_enter Tryz.func90, Tryz.ntmps90
    go_wp2_with fail
    refine (HR.out _).mono ?_
    rintro e w1 ⟨rfl, rfl⟩
    go_wp2
    go_ret
    exact ⟨by rw [HG.out]; rfl, HB.out _⟩
  | true =>
    simp only [b1] at HR
    cases b2 : inR t.amount 0 10000000000000 with
    | false =>
      simp only [b2] at HA
      have HG : Hid (takesB t = false) := Lib.hid (by rw [HD.out, b1, b2]; rfl)
      clear b1 b2
      go_enter Tryz.func90, Tryz.ntmps90
      go_wp2_with fail
      refine (HR.out _).mono ?_
      rintro e w1 ⟨rfl, rfl⟩
      go_wp2_with fail
      refine (HA.out _).mono ?_
      rintro e w1 ⟨rfl, rfl⟩
      go_wp2
      go_ret
      exact ⟨by rw [HG.out]; rfl, HB.out _⟩
    | true =>
      simp only [b2] at HA
      by_cases h1 : 0 < t.rate
      . have HG : Hid (takesB t = true) := Lib.hid (by rw [HD.out, b1, b2, decide_eq_true h1]; rfl)
        clear b1 b2
        go_enter Tryz.func90, Tryz.ntmps90
        go_wp2_with fail
        refine (HR.out _).mono ?_
        rintro e w1 ⟨rfl, rfl⟩
        go_wp2_with fail
        refine (HA.out _).mono ?_
        rintro e w1 ⟨rfl, rfl⟩
        go_wp2
        go_ret
        exact ⟨by rw [HG.out]; rfl, HB.out _⟩
      . have HG : Hid (takesB t = decide (0 < t.amount)) := Lib.hid (by rw [HD.out, b1, b2, decide_eq_false h1]; rfl)
        clear b1 b2
        go_enter Tryz.func90, Tryz.ntmps90
        go_wp2_with fail
        refine (HR.out _).mono ?_
        rintro e w1 ⟨rfl, rfl⟩
        go_wp2_with fail
        refine (HA.out _).mono ?_
        rintro e w1 ⟨rfl, rfl⟩
        go_wp2
        go_ret
        refine ⟨?_, HB.out _⟩
        rw [HG.out]
        show Ending.returned (.bool (decide (0 < t.rate) || decide (0 < t.amount))) = _
        rw [decide_eq_false (by omega : ¬ 0 < t.rate)]; rfl
def rowsB (p : Prm) : Bool := inR p.buy 1 100 && inR p.get 1 100 && inR p.rate 1 10000
theorem rowsB_def (p : Prm) : rowsB p = (inR p.buy 1 100 && inR p.get 1 100 && inR p.rate 1 10000) := rfl
set_option maxHeartbeats 2000000 in
theorem rows_any (p : Prm) (l : Prm.Lay) (w : World) : Calls Tryz.prog 52 #[.agg #[.string p.id, .int .i64 p.kind, .int .i64 p.priority, .string p.group, .string p.code, .bool p.closes, .slice l.scope.skus.A l.scope.skus.n l.scope.skus.c, .slice l.scope.cats.A l.scope.cats.n l.scope.cats.c, .int .i64 p.least, .int .i64 p.rate, .int .i64 p.amount, .int .i64 p.buy, .int .i64 p.get, .slice l.parts.A l.parts.n l.parts.c, .slice l.tiers.A l.tiers.n l.tiers.c]] w fun e w' => e = .returned (.bool (rowsB p)) /\ Below w.heap.size w w' := by
  have H1 := Lib.hid (fun W => within_any p.buy 1 100 W)
  have H2 := Lib.hid (fun W => within_any p.get 1 100 W)
  have H3 := Lib.hid (fun W => rate_any p l W)
  obtain ⟨w1, hw1⟩ : ∃ w1, w.alloc (.cells #[.string p.id, .int .i64 p.kind, .int .i64 p.priority, .string p.group, .string p.code, .bool p.closes, .slice l.scope.skus.A l.scope.skus.n l.scope.skus.c, .slice l.scope.cats.A l.scope.cats.n l.scope.cats.c, .int .i64 p.least, .int .i64 p.rate, .int .i64 p.amount, .int .i64 p.buy, .int .i64 p.get, .slice l.parts.A l.parts.n l.parts.c, .slice l.tiers.A l.tiers.n l.tiers.c] 83) = w1 := ⟨_, rfl⟩
  have hx : Qu.Blk w1 w.heap.size 83 #[.string p.id, .int .i64 p.kind, .int .i64 p.priority, .string p.group, .string p.code, .bool p.closes, .slice l.scope.skus.A l.scope.skus.n l.scope.skus.c, .slice l.scope.cats.A l.scope.cats.n l.scope.cats.c, .int .i64 p.least, .int .i64 p.rate, .int .i64 p.amount, .int .i64 p.buy, .int .i64 p.get, .slice l.parts.A l.parts.n l.parts.c, .slice l.tiers.A l.tiers.n l.tiers.c] := by rw [<- hw1]; exact Qu.Blk.new w _ _
  have HB : Hid (Below w.heap.size w w1) := Lib.hid (by rw [<- hw1]; exact (Below.refl _ _).alloc (Nat.le_refl _) _)
  have x0 := hx.cell 0
  have x1 := hx.cell 1
  have x2 := hx.cell 2
  have x3 := hx.cell 3
  have x4 := hx.cell 4
  have x5 := hx.cell 5
  have x6 := hx.cell 6
  have x7 := hx.cell 7
  have x8 := hx.cell 8
  have x9 := hx.cell 9
  have x10 := hx.cell 10
  have x11 := hx.cell 11
  have x12 := hx.cell 12
  have x13 := hx.cell 13
  have x14 := hx.cell 14
  have HD := Lib.hid (rowsB_def p)
  clear hx
  cases b1 : inR p.buy 1 100 with
  | false =>
    simp only [b1] at H1
    have HG : Hid (rowsB p = false) := Lib.hid (by rw [HD.out, b1]; rfl)
    clear b1
    go_enter Tryz.func52, Tryz.ntmps52
    go_wp2_with fail
    refine (H1.out _).mono ?_
    rintro e w2 ⟨rfl, rfl⟩
    go_wp2
    go_ret
    exact ⟨by rw [HG.out]; rfl, HB.out⟩
  | true =>
    simp only [b1] at H1
    cases b2 : inR p.get 1 100 with
    | false =>
      simp only [b2] at H2
      have HG : Hid (rowsB p = false) := Lib.hid (by rw [HD.out, b1, b2]; rfl)
      clear b1 b2
      go_enter Tryz.func52, Tryz.ntmps52
      go_wp2_with fail
      refine (H1.out _).mono ?_
      rintro e w2 ⟨rfl, rfl⟩
      go_wp2_with fail
      refine (H2.out _).mono ?_
      rintro e w2 ⟨rfl, rfl⟩
      go_wp2
      go_ret
      exact ⟨by rw [HG.out]; rfl, HB.out⟩
    | true =>
      simp only [b2] at H2
      have HG : Hid (rowsB p = inR p.rate 1 10000) := Lib.hid (by rw [HD.out, b1, b2]; rfl)
      obtain ⟨b, hb⟩ : ∃ b, inR p.rate 1 10000 = b := ⟨_, rfl⟩
      simp only [hb] at H3 HG
      clear b1 b2 hb
      go_enter Tryz.func52, Tryz.ntmps52
      go_wp2_with fail
      refine (H1.out _).mono ?_
      rintro e w2 ⟨rfl, rfl⟩
      go_wp2_with fail
      refine (H2.out _).mono ?_
      rintro e w2 ⟨rfl, rfl⟩
      go_wp2_with fail
      refine (H3.out _).mono ?_
      rintro e w3 ⟨rfl, hb3⟩
      have HB3 := Lib.hid (HB.out.trans (hb3.mono HB.out.size))
      clear hb3
      go_wp2
      go_ret
      exact ⟨by rw [HG.out]; rfl, HB3.out⟩
end Go.Proofs.YtljmddjlnlmenaaGreat.Pm

end
