/- Law 12's PromoMany: the lists that it makes; whether they may be: plain mathematics. -/
import Derived.Test.YtgimcleeamlgcaaPmI
import Derived.Test.YtgimcleeamlgcaaKa
set_option maxRecDepth 100000

set_option linter.unusedVariables false
namespace Go.Proofs.Ytgimcleeamlgcaa.Pm
open Go.ChangeShapes Go.WideShapes Go.ChangeAt Go.RowKit
open Ap (Scp Prt Tir Prm kPrm kPrt kTir row_Prm)
open Kd (Row Own kStr kInt Cells RowT Lst Fit Agree Kind)
open Pr (promoB headB kindB)

def e0 : ByteArray := ⟨#[]⟩

def pS (i : Nat) : ByteArray := By.strOf [UInt8.ofNat (97 + i / 10), UInt8.ofNat (48 + i % 10)]

def pP (s : ByteArray) : Prm := ⟨s, 1, 0, ⟨#[]⟩, ⟨#[]⟩, false, ⟨[], []⟩, 0, 1, 0, 0, 0, [], []⟩

def pL (n : Nat) : List Prm := (List.range n).map fun i => pP (pS i)

theorem pL_length (n : Nat) : (pL n).length = n := by simp [pL]

theorem pL_succ (n : Nat) : pL (n + 1) = pL n ++ [pP (pS n)] := by simp [pL, List.range_succ]

theorem pL_get {n k : Nat} (h : k < n) : (pL n)[k]? = some (pP (pS k)) := by
  unfold pL
  rw [List.getElem?_map, List.getElem?_range h]
  rfl

theorem pL_at {n k : Nat} {x : Prm} (h : (pL n)[k]? = some x) : k < n ∧ x = pP (pS k) := by
  have hl := (List.getElem?_eq_some_iff.1 h).1
  rw [pL_length] at hl
  rw [pL_get hl] at h
  exact ⟨hl, by simpa using h.symm⟩

theorem pS_size (i : Nat) : (pS i).size = 2 := by unfold pS; rw [By.strOf_size]; rfl

theorem pS_name {i : Nat} (h : i < 200) : Sr.name (pS i) = true :=
  Py.two_name (by unfold Sr.plain; simp; omega) (by unfold Sr.plain; simp; omega) (by omega) (by omega)

theorem pS_ne {i j : Nat} (hi : i < 200) (hj : j < 200) (hne : i ≠ j) : pS i ≠ pS j := by
  intro e
  have e2 : (pS i).toList = (pS j).toList := by rw [e]
  unfold pS at e2
  rw [By.strOf_list, By.strOf_list] at e2
  injection e2 with e3 e4
  injection e4 with e5
  have e6 := congrArg UInt8.toNat e3
  have e7 := congrArg UInt8.toNat e5
  rw [By.toNat_small (by omega), By.toNat_small (by omega)] at e6 e7
  omega

theorem pP_yes {s : ByteArray} (h : Sr.name s = true) : promoB (pP s) = true := by
  have h1 : headB (pP s) = true := by
    rw [Pr.headB_def]
    show (Sr.name s && decide ((1 : Int) ≤ 1) && decide ((1 : Int) ≤ 7) && decide ((0 : Int) ≤ 0) && decide ((0 : Int) ≤ 1000) && Pr.blankB ⟨#[]⟩ && Pr.blankB ⟨#[]⟩ && Sc.scopeB ⟨[], []⟩ && Pr.inB 0 10000000000000) = true
    rw [h, blank_none, scope_none]; rfl
  unfold promoB
  rw [h1]
  unfold kindB
  rw [if_pos (show (pP s).kind = 1 from rfl)]
  rfl

theorem pP_slight (s : ByteArray) : Slight (pP s) := ⟨by show (0 : Nat) ≤ _; omega, by show (0 : Nat) ≤ _; omega, fun k x hx => by
  have : ([] : List Prt)[k]? = some x := hx
  simp at this, by show (0 : Nat) ≤ _; omega, by show (0 : Nat) ≤ _; omega⟩

theorem pL_slights (n : Nat) : Slights (pL n) := fun k x hx => by
  obtain ⟨_, rfl⟩ := pL_at hx
  exact pP_slight _

theorem pL_all {n : Nat} (h : n < 200) : promosB (pL n) = decide (n ≤ 60) := by
  by_cases h6 : n ≤ 60
  · rw [decide_eq_true h6]
    refine promosB_yes ⟨by rw [pL_length]; exact h6, fun i p hp => ?_, fun i j p q hij hp hq => ?_⟩
    · obtain ⟨h1, rfl⟩ := pL_at hp
      exact pP_yes (pS_name (by omega))
    · obtain ⟨h1, rfl⟩ := pL_at hp
      obtain ⟨h2, rfl⟩ := pL_at hq
      exact pS_ne (by omega) (by omega) (by omega)
  · rw [decide_eq_false h6]
    exact promosB_no fun g => h6 (by have := g.few; rw [pL_length] at this; exact this)

/-- One has the name of the one before. -/
def pM (n k : Nat) : List Prm := (pL n).set (k + 1) (pP (pS k))

theorem pM_slights (n k : Nat) : Slights (pM n k) := fun i x hx => by
  unfold pM at hx
  rw [List.getElem?_set] at hx
  split at hx
  · split at hx
    · injection hx with hx; subst hx; exact pP_slight _
    · cases hx
  · exact pL_slights n i x hx

theorem pM_no {n k : Nat} (h : k + 1 < n) : promosB (pM n k) = false := promosB_no fun g => by
  have h1 : (pM n k)[k]? = some (pP (pS k)) := by
    unfold pM
    rw [List.getElem?_set_ne (by omega)]
    exact pL_get (by omega)
  have h2 : (pM n k)[k + 1]? = some (pP (pS k)) := by
    unfold pM
    rw [List.getElem?_set_self (by rw [pL_length]; exact h)]
  exact g.apart k (k + 1) _ _ (by omega) h1 h2 rfl

/-! ### Codes -/
def cL (k : Nat) : List ByteArray := (List.range k).map Py.skuS

theorem cL_at {n k : Nat} {x : ByteArray} (h : (cL n)[k]? = some x) : k < n ∧ x = Py.skuS k := by
  have hl := (List.getElem?_eq_some_iff.1 h).1
  unfold cL at hl h
  rw [List.length_map, List.length_range] at hl
  rw [List.getElem?_map, List.getElem?_range hl] at h
  exact ⟨hl, by simpa using h.symm⟩

theorem cL_names {k : Nat} (h : k ≤ 8) : Sc.namesB (cL k) 4 = decide (k ≤ 4) := by
  have hl : (cL k).length = k := by simp [cL]
  by_cases h4 : k ≤ 4
  · rw [decide_eq_true h4]
    refine Sc.namesB_yes ⟨by rw [hl]; omega, fun i x hx => ?_, fun i x y hx hy => ?_⟩
    · obtain ⟨h1, rfl⟩ := cL_at hx
      exact Py.sku_name (by omega)
    · obtain ⟨h1, rfl⟩ := cL_at hx
      obtain ⟨h2, rfl⟩ := cL_at hy
      exact Py.chr_lt (by omega) (by omega)
  · rw [decide_eq_false h4]
    exact Sc.namesB_no fun g => by have := g.few; rw [hl] at this; omega

theorem cL_five : cL 5 = [⟨#[97]⟩, ⟨#[98]⟩, ⟨#[99]⟩, ⟨#[100]⟩, ⟨#[101]⟩] := by decide +kernel

theorem codes_five {W : World} : Row kStr (W.alloc (.cells #[.string ⟨#[97]⟩, .string ⟨#[98]⟩, .string ⟨#[99]⟩, .string ⟨#[100]⟩, .string ⟨#[101]⟩] 9)) (· < (W.alloc (.cells #[.string ⟨#[97]⟩, .string ⟨#[98]⟩, .string ⟨#[99]⟩, .string ⟨#[100]⟩, .string ⟨#[101]⟩] 9)).heap.size) (some ⟨W.heap.size, 0, none⟩) 5 (cL 5) := by
  have hb := Qu.Blk.new W 9 #[.string ⟨#[97]⟩, .string ⟨#[98]⟩, .string ⟨#[99]⟩, .string ⟨#[100]⟩, .string ⟨#[101]⟩]
  have h1 : ∀ s : ByteArray, s.size = 1 → ∀ {w : World} {F : Nat → Prop}, kStr.rep w F s [.string s] := fun s hs w F => ⟨rfl, by rw [hs]; unfold maxLen; omega⟩
  rw [cL_five]
  exact Kd.row_blk (cs := [.string ⟨#[97]⟩, .string ⟨#[98]⟩, .string ⟨#[99]⟩, .string ⟨#[100]⟩, .string ⟨#[101]⟩]) hb ⟨[.string ⟨#[97]⟩], [.string ⟨#[98]⟩, .string ⟨#[99]⟩, .string ⟨#[100]⟩, .string ⟨#[101]⟩], rfl, h1 _ rfl, [.string ⟨#[98]⟩], [.string ⟨#[99]⟩, .string ⟨#[100]⟩, .string ⟨#[101]⟩], rfl, h1 _ rfl, [.string ⟨#[99]⟩], [.string ⟨#[100]⟩, .string ⟨#[101]⟩], rfl, h1 _ rfl, [.string ⟨#[100]⟩], [.string ⟨#[101]⟩], rfl, h1 _ rfl, Cells.one (h1 _ rfl)⟩ rfl hb.lt

theorem cL_take {k : Nat} (h : k ≤ 5) : (cL 5).take k = cL k := by
  unfold cL
  rw [← List.map_take, List.take_range, Nat.min_eq_left h]

theorem codes_to {w : World} {F : Nat → Prop} {A : Option Addr} (h : Row kStr w F A 5 (cL 5)) {k : Nat} (hk : k ≤ 5) : Row kStr w F A k (cL k) := by
  have := h.take (k := k) hk
  rw [cL_take hk] at this
  exact this

/-! ### A bundle -/
def bP (ps : List Prt) : Prm := ⟨⟨#[97]⟩, 4, 0, ⟨#[]⟩, ⟨#[]⟩, false, ⟨[], []⟩, 0, 0, 0, 0, 0, ps, []⟩

def prtN (z : Int) : Prt := ⟨⟨[], []⟩, z⟩

/-- The first so many have their count. -/
def bL (n k : Nat) : List Prt := List.replicate k (prtN 1) ++ List.replicate (n - k) (prtN 0)

theorem bL_len {n k : Nat} (h : k ≤ n) : (bL n k).length = n := by unfold bL; simp; omega

theorem bL_get {n k : Nat} (h : k < n) : (bL n k)[k]? = some (prtN 0) := by
  unfold bL
  rw [List.getElem?_append_right (by simp), List.length_replicate, Nat.sub_self, List.getElem?_replicate_of_lt (by omega)]

theorem bL_set {n k : Nat} (h : k < n) : (bL n k).set k (prtN 1) = bL n (k + 1) := by
  unfold bL
  rw [List.set_append_right _ _ (by simp), List.length_replicate, Nat.sub_self, List.replicate_succ', show n - k = (n - (k + 1)) + 1 by omega, List.replicate_succ, List.set_cons_zero, List.append_assoc]
  rfl

theorem bL_all (n : Nat) : bL n n = List.replicate n (prtN 1) := by unfold bL; simp

theorem prt_one : Pr.partB (prtN 1) = true := by
  unfold Pr.partB
  show (Sc.scopeB ⟨[], []⟩ && decide ((1 : Int) ≤ 1) && decide ((1 : Int) ≤ 100)) = true
  rw [scope_none]; rfl

theorem bP_is {n : Nat} (h : 1 ≤ n) : promoB (bP (bL n n)) = decide (n ≤ 3) := by
  have hp : Pr.partsB (bL n n) = decide (n ≤ 3) := by
    rw [bL_all, Pr.partsB_end fun k x hx => by
      have : x = prtN 1 := List.eq_of_mem_replicate (List.mem_of_getElem? hx)
      rw [this]; exact prt_one]
    rw [List.length_replicate, decide_eq_true h]; rfl
  have h1 : headB (bP (bL n n)) = true := by
    rw [Pr.headB_def]
    show (Sr.name ⟨#[97]⟩ && decide ((1 : Int) ≤ 4) && decide ((4 : Int) ≤ 7) && decide ((0 : Int) ≤ 0) && decide ((0 : Int) ≤ 1000) && Pr.blankB ⟨#[]⟩ && Pr.blankB ⟨#[]⟩ && Sc.scopeB ⟨[], []⟩ && Pr.inB 0 10000000000000) = true
    rw [name_a, blank_none, scope_none]; rfl
  unfold promoB
  rw [h1]
  unfold kindB
  rw [if_neg (by show ¬ (4 : Int) = 1; omega), if_neg (by show ¬ (4 : Int) = 2; omega), if_neg (by show ¬ (4 : Int) = 3; omega), if_pos (show (bP (bL n n)).kind = 4 from rfl)]
  unfold Pr.inB Pr.noBuy Pr.noTiers Pr.allB
  show (true && ((0 : Int) == 0 && (decide ((0 : Int) ≤ 0) && decide ((0 : Int) ≤ 10000000000000)) && ((0 : Int) == 0 && (0 : Int) == 0) && Pr.partsB (bL n n) && (0 : Nat) == 0 && ((0 : Nat) == 0 && (0 : Nat) == 0))) = decide (n ≤ 3)
  rw [hp]
  cases decide (n ≤ 3) <;> rfl

theorem bP_slight {n k : Nat} (h : k ≤ n) (hn : n ≤ 10) : Slight (bP (bL n k)) := ⟨by show (0 : Nat) ≤ _; omega, by show (0 : Nat) ≤ _; omega, fun i x hx => by
  have hm := List.mem_of_getElem? (show (bL n k)[i]? = some x from hx)
  unfold bL at hm
  rcases List.mem_append.1 hm with h1 | h1
  · rw [List.eq_of_mem_replicate h1]; exact ⟨by show (0 : Nat) ≤ _; omega, by show (0 : Nat) ≤ _; omega⟩
  · rw [List.eq_of_mem_replicate h1]; exact ⟨by show (0 : Nat) ≤ _; omega, by show (0 : Nat) ≤ _; omega⟩, by show (bL n k).length ≤ _; rw [bL_len h]; omega, by show (0 : Nat) ≤ _; omega⟩

/-! ### Tiers -/
def tP (ts : List Tir) : Prm := ⟨⟨#[97]⟩, 6, 0, ⟨#[]⟩, ⟨#[]⟩, false, ⟨[], []⟩, 0, 0, 0, 0, 0, [], ts⟩

def tL (n : Nat) : List Tir := (List.range n).map fun (i : Nat) => (⟨(i : Int), 0, 1⟩ : Tir)

theorem tL_length (n : Nat) : (tL n).length = n := by simp [tL]

theorem tL_succ (n : Nat) : tL (n + 1) = tL n ++ [⟨(n : Int), 0, 1⟩] := by simp [tL, List.range_succ]

theorem tL_at {n k : Nat} {x : Tir} (h : (tL n)[k]? = some x) : k < n ∧ x = ⟨(k : Int), 0, 1⟩ := by
  have hl := (List.getElem?_eq_some_iff.1 h).1
  rw [tL_length] at hl
  unfold tL at h
  rw [List.getElem?_map, List.getElem?_range hl] at h
  exact ⟨hl, by simpa using h.symm⟩

theorem tP_is {n : Nat} (h : 1 ≤ n) (hn : n ≤ 10) : promoB (tP (tL n)) = decide (n ≤ 6) := by
  have hp : Pr.tiersB (tL n) = decide (n ≤ 6) := by
    rw [Pr.TUp.all ⟨fun i t hi ht => ?_, fun i a b hi ha hb => ?_⟩, tL_length, decide_eq_true h]
    · rfl
    · obtain ⟨h1, rfl⟩ := tL_at ht
      unfold Pr.tierB Pr.inB
      show (decide ((0 : Int) ≤ (i : Int)) && decide ((i : Int) ≤ 10000000000000) && (decide ((0 : Int) ≤ 0) && decide ((0 : Int) ≤ 10000)) && (decide ((0 : Int) ≤ 1) && decide ((1 : Int) ≤ 10000000000000)) && !((0 : Int) == 0 && (1 : Int) == 0)) = true
      rw [decide_eq_true (show (0 : Int) ≤ (i : Int) by omega), decide_eq_true (show (i : Int) ≤ 10000000000000 by omega)]; rfl
    · obtain ⟨h1, rfl⟩ := tL_at ha
      obtain ⟨h2, rfl⟩ := tL_at hb
      show (i : Int) < ((i + 1 : Nat) : Int)
      omega
  have h1 : headB (tP (tL n)) = true := by
    rw [Pr.headB_def]
    show (Sr.name ⟨#[97]⟩ && decide ((1 : Int) ≤ 6) && decide ((6 : Int) ≤ 7) && decide ((0 : Int) ≤ 0) && decide ((0 : Int) ≤ 1000) && Pr.blankB ⟨#[]⟩ && Pr.blankB ⟨#[]⟩ && Sc.scopeB ⟨[], []⟩ && Pr.inB 0 10000000000000) = true
    rw [name_a, blank_none, scope_none]; rfl
  unfold promoB
  rw [h1]
  unfold kindB
  rw [if_neg (by show ¬ (6 : Int) = 1; omega), if_neg (by show ¬ (6 : Int) = 2; omega), if_neg (by show ¬ (6 : Int) = 3; omega), if_neg (by show ¬ (6 : Int) = 4; omega), if_neg (by show ¬ (6 : Int) = 7; omega)]
  unfold Pr.noBuy Pr.noParts
  show (true && ((0 : Int) == 0 && (0 : Int) == 0 && ((0 : Int) == 0 && (0 : Int) == 0) && (0 : Nat) == 0 && Pr.tiersB (tL n))) = decide (n ≤ 6)
  rw [hp]
  cases decide (n ≤ 6) <;> rfl

theorem tP_slight {n : Nat} (hn : n ≤ 10) : Slight (tP (tL n)) := ⟨by show (0 : Nat) ≤ _; omega, by show (0 : Nat) ≤ _; omega, fun i x hx => by
  have : ([] : List Prt)[i]? = some x := hx
  simp at this, by show (0 : Nat) ≤ _; omega, by show (tL n).length ≤ _; rw [tL_length]; omega⟩

/-! ### In memory -/
theorem nil_fit : Fit none 0 0 := fit_none

theorem nil_lst {α : Type} {K : Kind α} {w : World} {F : Nat → Prop} : Lst K w F ⟨none, 0, 0⟩ [] := ⟨⟨rfl, fun k x hx => by simp at hx⟩, fit_none⟩

theorem pP_rep {w : World} {F : Nat → Prop} {s : ByteArray} (hs : s.size ≤ maxLen) : kPrm.rep w F (pP s) [.string s, .int .i64 1, .int .i64 0, .string ⟨#[]⟩, .string ⟨#[]⟩, .bool false, .slice none 0 0, .slice none 0 0, .int .i64 0, .int .i64 1, .int .i64 0, .int .i64 0, .int .i64 0, .slice none 0 0, .slice none 0 0] :=
  Ap.Prm_rep.2 ⟨noLay, rfl, ⟨hs, by show _ ≤ (1 : Int) ∧ (1 : Int) ≤ _; omega, by show _ ≤ (0 : Int) ∧ (0 : Int) ≤ _; omega, by show (0 : Nat) ≤ _; omega, by show (0 : Nat) ≤ _; omega, ⟨nil_lst, nil_lst⟩, by show _ ≤ (0 : Int) ∧ (0 : Int) ≤ _; omega, by show _ ≤ (1 : Int) ∧ (1 : Int) ≤ _; omega, by show _ ≤ (0 : Int) ∧ (0 : Int) ≤ _; omega, by show _ ≤ (0 : Int) ∧ (0 : Int) ≤ _; omega, by show _ ≤ (0 : Int) ∧ (0 : Int) ≤ _; omega, nil_lst, nil_lst⟩⟩

theorem pP_named {w : World} {F : Nat → Prop} {s s' : ByteArray} (hs : s'.size ≤ maxLen) {a : List Value} (h : kPrm.rep w F (pP s) a) : kPrm.rep w F (pP s') (a.set 0 (.string s')) := by
  obtain ⟨l, rfl, hh⟩ := Ap.Prm_rep.1 h
  exact Ap.Prm_rep.2 ⟨l, rfl, ⟨hs, hh.kind, hh.priority, hh.group, hh.code, hh.scope, hh.least, hh.rate, hh.amount, hh.buy, hh.get, hh.parts, hh.tiers⟩⟩

theorem prt_rep {w : World} {F : Nat → Prop} {z : Int} (hz : 0 ≤ z ∧ z ≤ 100) : kPrt.rep w F (prtN z) [.slice none 0 0, .slice none 0 0, .int .i64 z] :=
  Ap.Prt_rep.2 ⟨⟨⟨⟨none, 0, 0⟩, ⟨none, 0, 0⟩⟩⟩, rfl, ⟨⟨nil_lst, nil_lst⟩, by show _ ≤ z ∧ z ≤ _; omega⟩⟩

theorem prt_counted {w : World} {F : Nat → Prop} {z : Int} {a : List Value} (h : kPrt.rep w F (prtN z) a) : kPrt.rep w F (prtN 1) (a.set 2 (.int .i64 1)) := by
  obtain ⟨l, rfl, hh⟩ := Ap.Prt_rep.1 h
  exact Ap.Prt_rep.2 ⟨l, rfl, ⟨hh.scope, by show _ ≤ (1 : Int) ∧ (1 : Int) ≤ _; omega⟩⟩

theorem zero_cells {w : World} {F : Nat → Prop} : ∀ n, Cells kPrt w F (List.replicate n (prtN 0)) ((List.replicate n [Value.slice none 0 0, .slice none 0 0, .int .i64 0]).flatten)
  | 0 => rfl
  | n + 1 => ⟨_, _, rfl, prt_rep (by omega), zero_cells n⟩

theorem prt_info : (Try.prog.info? 35).map (fun i => (i.zero, i.size, i.bytes)) = some (some (.agg #[.slice none 0 0, .slice none 0 0, .int .i64 0]), 3, 56) := by kernel_rfl

/-- make([]api.Part, n), of two to four. -/
theorem make_parts {t : Nat} (ht : t < 3) (W : World) : ∃ cs : Array Value, (Instr.makeSlice 25 (.int .i64 ((2 + t : Nat) : Int)) (.int .i64 ((2 + t : Nat) : Int))).run Try.prog W = .ok (.slice (some ⟨W.heap.size, 0, none⟩) (2 + t) (2 + t)) (W.alloc (.cells cs 35)) ∧
    ∀ B, B ≤ W.heap.size → Own kPrt (W.alloc (.cells cs 35)) B 35 (fun _ => False) (.slice (some ⟨W.heap.size, 0, none⟩) (2 + t) (2 + t)) (2 + t) (bL (2 + t) 0) := by
  obtain ⟨i0, hi0, hz0, hz1, hz2⟩ := info_parts prt_info
  have hr := run_make (P := Try.prog) W 25 35 i0 _ Try.underlying25 hi0 hz0 .i64 .i64 ((2 + t : Nat) : Int) ((2 + t : Nat) : Int) (by omega) (by omega) (by rw [hz2]; omega) (by omega)
  rw [hz1] at hr
  simp only [Int.toNat_natCast] at hr
  refine ⟨_, hr, fun B hB => ?_⟩
  have e : bL (2 + t) 0 = List.replicate (2 + t) (prtN 0) := by unfold bL; simp
  rw [e]
  obtain rfl | rfl | rfl : t = 0 ∨ t = 1 ∨ t = 2 := by omega
  · exact Kd.own_blk (Qu.Blk.new W _ _) hB rfl (zero_cells 2) (Nat.le_refl _) (by unfold maxLen; omega) (by rw [size_madeCells]; rfl) (by kernel_rfl)
  · exact Kd.own_blk (Qu.Blk.new W _ _) hB rfl (zero_cells 3) (Nat.le_refl _) (by unfold maxLen; omega) (by rw [size_madeCells]; rfl) (by kernel_rfl)
  · exact Kd.own_blk (Qu.Blk.new W _ _) hB rfl (zero_cells 4) (Nat.le_refl _) (by unfold maxLen; omega) (by rw [size_madeCells]; rfl) (by kernel_rfl)

theorem bP_holds {w : World} {A : Option Addr} {n c k : Nat} {B : Nat} (h : Own kPrt w B 35 (fun _ => False) (.slice A n c) n (bL n k)) : Ap.Prm.Holds w (· < w.heap.size) (bP (bL n k)) ⟨⟨⟨none, 0, 0⟩, ⟨none, 0, 0⟩⟩, ⟨A, n, c⟩, ⟨none, 0, 0⟩⟩ :=
  ⟨by show 1 ≤ maxLen; unfold maxLen; omega, by show _ ≤ (4 : Int) ∧ (4 : Int) ≤ _; omega, by show _ ≤ (0 : Int) ∧ (0 : Int) ≤ _; omega, by show (0 : Nat) ≤ _; omega, by show (0 : Nat) ≤ _; omega, ⟨nil_lst, nil_lst⟩, by show _ ≤ (0 : Int) ∧ (0 : Int) ≤ _; omega, by show _ ≤ (0 : Int) ∧ (0 : Int) ≤ _; omega, by show _ ≤ (0 : Int) ∧ (0 : Int) ≤ _; omega, by show _ ≤ (0 : Int) ∧ (0 : Int) ≤ _; omega, by show _ ≤ (0 : Int) ∧ (0 : Int) ≤ _; omega, ⟨h.read, h.fit⟩, nil_lst⟩

theorem tP_holds {w : World} {A : Option Addr} {n c : Nat} {B : Nat} (h : Own kTir w B 37 (fun _ => False) (.slice A n c) n (tL n)) : Ap.Prm.Holds w (· < w.heap.size) (tP (tL n)) ⟨⟨⟨none, 0, 0⟩, ⟨none, 0, 0⟩⟩, ⟨none, 0, 0⟩, ⟨A, n, c⟩⟩ :=
  ⟨by show 1 ≤ maxLen; unfold maxLen; omega, by show _ ≤ (6 : Int) ∧ (6 : Int) ≤ _; omega, by show _ ≤ (0 : Int) ∧ (0 : Int) ≤ _; omega, by show (0 : Nat) ≤ _; omega, by show (0 : Nat) ≤ _; omega, ⟨nil_lst, nil_lst⟩, by show _ ≤ (0 : Int) ∧ (0 : Int) ≤ _; omega, by show _ ≤ (0 : Int) ∧ (0 : Int) ≤ _; omega, by show _ ≤ (0 : Int) ∧ (0 : Int) ≤ _; omega, by show _ ≤ (0 : Int) ∧ (0 : Int) ≤ _; omega, by show _ ≤ (0 : Int) ∧ (0 : Int) ≤ _; omega, nil_lst, ⟨h.read, h.fit⟩⟩

end Go.Proofs.Ytgimcleeamlgcaa.Pm
