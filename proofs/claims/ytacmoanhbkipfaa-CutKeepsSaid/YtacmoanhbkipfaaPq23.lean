/- The statements' names of promotions and codes: Id, Code, Codes; the document's Codes. · The document's Index. · The statements' Scope may be. · The statements' Scope: its lists are rows of the call's own. (XPyT's walk, told stronger) -/
import Derived.Deep.RegionHeld3
import Derived.Test.YtacmoanhbkipfaaPq15
import Derived.Test.YtacmoanhbkipfaaPq22

section
set_option maxRecDepth 100000
set_option linter.unusedVariables false
namespace Go.Proofs.Ytacmoanhbkipfaa.Py
open Go.ChangeShapes Go.WideShapes Go.ChangeAt Go.RowKit
open Kd (Kind Row Own Cells Fit Agree kStr row_str Lst Sl)
def two (a c : Nat) : ByteArray := By.strOf [UInt8.ofNat a, UInt8.ofNat c]
def idS (k : Nat) : ByteArray := two 112 (48 + k)
def codeS (k : Nat) : ByteArray := two 99 (48 + k)
theorem two_list (a c : Nat) : (two a c).toList = [UInt8.ofNat a, UInt8.ofNat c] := by unfold two; exact By.strOf_list _
theorem two_data (a c : Nat) : (two a c).data.toList = [UInt8.ofNat a, UInt8.ofNat c] := by rw [← ByteArray.toList_eq]; exact two_list a c
theorem two_size (a c : Nat) : (two a c).size = 2 := by unfold two; rw [By.strOf_size]; rfl
theorem id_size (k : Nat) : (idS k).size = 2 := two_size _ _
theorem code_size (k : Nat) : (codeS k).size = 2 := two_size _ _
theorem two_name {a c : Nat} (h : Sr.plain (a : Int) = true) (h2 : Sr.plain (c : Int) = true) (ha : a < 256) (hc : c < 256) : Sr.name (two a c) = true := by
  unfold Sr.name Sr.nameL
  rw [two_data]
  simp [By.toNat_small ha, By.toNat_small hc, h, h2]
theorem id_name {k : Nat} (h : k < 10) : Sr.name (idS k) = true := two_name (by decide) (by unfold Sr.plain; simp; omega) (by omega) (by omega)
theorem code_name {k : Nat} (h : k < 10) : Sr.name (codeS k) = true := two_name (by decide) (by unfold Sr.plain; simp; omega) (by omega) (by omega)
theorem cat_two (a c : Nat) (W : World) : (Op.stringOp .add (By.strOf [UInt8.ofNat a]) (By.strOf [UInt8.ofNat c])).run Try.prog W = .ok (.string (two a c)) W := by
  have h := run_string_add_sum (P := Try.prog) (w := W) (By.strOf [UInt8.ofNat a]) (By.strOf [UInt8.ofNat c]) (by rw [By.strOf_size, By.strOf_size]; show 1 + 1 ≤ 9223372036854775807; decide)
  exact h
theorem id_any (a : Int) (w : World) : Calls Try.prog 26 #[.int .i64 a] w fun e w' => e = .returned (.string (idS (modN a 10))) ∧ Below w.heap.size w w' := by
  have HM := Lib.hid (mod_any a 10 w (by omega) (by omega))
  have ht := modN_lt a 10 (by omega)
  generalize hk : modN a 10 = t at HM ht ⊢
  have hr := fun W => By.run_text (P := Try.prog) (c := 1) 66 9 5 Try.underlying66 Try.underlying5 Try.underlying9 (By.Bys.made W 5 (48 + (t : Int)) (by omega) (by omega))
  have e : (48 + (t : Int)).toNat = 48 + t := by omega
  rw [e] at hr
  have hc : ∀ W, (Op.stringOp .add ⟨#[112]⟩ (By.strOf [UInt8.ofNat (48 + t)])).run Try.prog W = .ok (.string (idS t)) W := fun W => cat_two 112 (48 + t) W
  obtain ⟨x, hx⟩ : ∃ x, By.strOf [UInt8.ofNat (48 + t)] = x := ⟨_, rfl⟩
  simp only [hx] at hr hc
  clear hk hx
  go_enter Try.func26, Try.ntmps26
  go_wp2_with fail
  refine HM.out.mono ?_
  rintro e w1 ⟨rfl, rfl⟩
  go_wp2
  go_ret
  exact ⟨rfl, (Below.refl _ _).alloc (Nat.le_refl _) _⟩
theorem code_any (a : Int) (w : World) : Calls Try.prog 29 #[.int .i64 a] w fun e w' => e = .returned (.string (codeS (modN a 3))) ∧ Below w.heap.size w w' := by
  have HM := Lib.hid (mod_any a 3 w (by omega) (by omega))
  have ht := modN_lt a 3 (by omega)
  generalize hk : modN a 3 = t at HM ht ⊢
  have hr := fun W => By.run_text (P := Try.prog) (c := 1) 66 9 5 Try.underlying66 Try.underlying5 Try.underlying9 (By.Bys.made W 5 (48 + (t : Int)) (by omega) (by omega))
  have e : (48 + (t : Int)).toNat = 48 + t := by omega
  rw [e] at hr
  have hc : ∀ W, (Op.stringOp .add ⟨#[99]⟩ (By.strOf [UInt8.ofNat (48 + t)])).run Try.prog W = .ok (.string (codeS t)) W := fun W => cat_two 99 (48 + t) W
  obtain ⟨x, hx⟩ : ∃ x, By.strOf [UInt8.ofNat (48 + t)] = x := ⟨_, rfl⟩
  simp only [hx] at hr hc
  clear hk hx
  go_enter Try.func29, Try.ntmps29
  go_wp2_with fail
  refine HM.out.mono ?_
  rintro e w1 ⟨rfl, rfl⟩
  go_wp2
  go_ret
  exact ⟨rfl, (Below.refl _ _).alloc (Nat.le_refl _) _⟩
end Go.Proofs.Ytacmoanhbkipfaa.Py

end

section
set_option maxRecDepth 100000
set_option linter.unusedVariables false
namespace Go.Proofs.Ytacmoanhbkipfaa.Sc
open Go.ChangeShapes Go.WideShapes Go.ChangeAt Go.RowKit
open It (Itm kItem row_item)
open Ap (Scp kScp row_Scp)
open Kd (Row Fit Lst Sl kStr kInt kList row_str Deep But Own)
theorem holds_below {w w' : World} {B M : Nat} {s : Scp} {l : Scp.Lay} (h : Scp.Holds w (· < M) s l) (hb : Below B w w') (hM : M ≤ B) : Scp.Holds w' (· < M) s l := ⟨h.skus.below hb hM, h.cats.below hb hM⟩
theorem holds_more {w : World} {F G : Nat → Prop} {s : Scp} {l : Scp.Lay} (h : Scp.Holds w F s l) (f : ∀ b, F b → G b) : Scp.Holds w G s l := ⟨h.skus.more f, h.cats.more f⟩
end Go.Proofs.Ytacmoanhbkipfaa.Sc

end

section
set_option maxRecDepth 100000
set_option linter.unusedVariables false
namespace Go.Proofs.Ytacmoanhbkipfaa.Py
open Go.ChangeShapes Go.WideShapes Go.ChangeAt Go.RowKit
open Ap (Scp)
open Sc (Names namesB namesB_yes scopeB)
theorem namesOf_at {nm : Nat → ByteArray} {l : List ByteArray} {M N k i : Nat} {x : ByteArray} (h : (namesOf nm l M N k)[i]? = some x) : ∃ a, (someTo l M N k)[i]? = some a ∧ a < k ∧ x = nm a := by
  unfold namesOf at h
  rw [List.getElem?_map] at h
  cases ha : (someTo l M N k)[i]? with
  | none => rw [ha] at h; cases h
  | some a =>
    rw [ha] at h
    exact ⟨a, rfl, someTo_low l M N k a (List.mem_of_getElem? ha), by simpa using h.symm⟩
theorem namesOf_may {nm : Nat → ByteArray} {l : List ByteArray} {M N : Nat} {m : Int} (hM : (M : Int) ≤ m) (hn : ∀ a, a < N → Sr.name (nm a) = true) (hl : ∀ a b, a < b → b < N → Sr.lt (nm a) (nm b) = true) : namesB (namesOf nm l M N N) m = true := by
  refine namesB_yes ⟨?_, ?_, ?_⟩
  · have := (someTo_len l M N N).2
    rw [namesOf_len]
    omega
  · intro i x hx
    obtain ⟨a, _, ha, rfl⟩ := namesOf_at hx
    exact hn a ha
  · intro i x y hx hy
    obtain ⟨a, h1, ha, rfl⟩ := namesOf_at hx
    obtain ⟨b, h2, hb, rfl⟩ := namesOf_at hy
    exact hl a b (someTo_rise l M N N i a b h1 h2) hb
theorem scopeOf_may (s : Scp) : scopeB (scopeOf s) = true := by
  unfold scopeB scopeOf
  rw [namesOf_may (by omega) (fun a ha => sku_name (by omega)) (fun a b hab hb => chr_lt (by omega) (by omega)), namesOf_may (by omega) (fun a ha => cat_name ha) (fun a b hab hb => chr_lt (by omega) (by omega))]
  rfl
theorem skusOf (s : Scp) : (scopeOf s).skus = namesOf skuS s.skus 3 8 8 := by simp only [scopeOf]
theorem catsOf (s : Scp) : (scopeOf s).cats = namesOf catS s.cats 2 3 3 := by simp only [scopeOf]
theorem namesOf_few (nm : Nat → ByteArray) (l : List ByteArray) (M N : Nat) : (namesOf nm l M N N).length ≤ M := by
  rw [namesOf_len]; exact (someTo_len l M N N).2
theorem scopeOf_len (s : Scp) : (scopeOf s).skus.length ≤ 3 ∧ (scopeOf s).cats.length ≤ 2 := by
  rw [skusOf, catsOf]
  exact ⟨namesOf_few _ _ _ _, namesOf_few _ _ _ _⟩
end Go.Proofs.Ytacmoanhbkipfaa.Py

end

section
set_option maxRecDepth 100000
set_option linter.unusedVariables false
namespace Go.Proofs.Ytacmoanhbkipfaa.Py
open Go.ChangeShapes Go.WideShapes Go.ChangeAt Go.RowKit
open Kd (Kind Row Own Cells Fit Agree kStr row_str Lst Sl)
open Ap (Scp kScp Scp_rep)
theorem own_down {α : Type} {K : Kind α} {w : World} {B B' E n : Nat} {F : Nat → Prop} {v : Value} {xs : List α} (h : Kd.Own K w B E F v n xs) (hb : B' ≤ B) : Kd.Own K w B' E F v n xs := by
  obtain ⟨a1, cs, ho, hc⟩ := h
  refine ⟨a1, cs, ⟨ho.1, ?_⟩, hc⟩
  rcases ho.2 with h2 | ⟨g, cap, cur, hv, hb2, rest⟩
  · exact .inl h2
  · exact .inr ⟨g, cap, cur, hv, Nat.le_trans hb hb2, rest⟩
def ScopedOwn (w w' : World) (e : Ending) (s : Scp) : Prop :=
  ∃ l : Scp.Lay, e = .returned (.agg #[.slice l.skus.A l.skus.n l.skus.c, .slice l.cats.A l.cats.n l.cats.c]) ∧ Kd.Own kStr w' w.heap.size 9 (fun _ => False) (.slice l.skus.A l.skus.n l.skus.c) l.skus.n s.skus ∧ Kd.Own kStr w' w.heap.size 9 (fun _ => False) (.slice l.cats.A l.cats.n l.cats.c) l.cats.n s.cats ∧ (∀ g, (Value.slice l.skus.A l.skus.n l.skus.c).ownBlock = some g → (Value.slice l.cats.A l.cats.n l.cats.c).ownBlock ≠ some g) ∧ Below w.heap.size w w'
theorem scope_end2 {w W0 wz wy : World} {A5 A8 : Option Addr} {c5 c8 q1 q2 : Nat} {x1 x2 : List ByteArray} (z1 : W0.heap.size = w.heap.size + 2) (hb : Below w.heap.size w W0) (hG5 : Kd.Own kStr wz W0.drew.heap.size 9 (fun _ => False) (.slice A5 q1 c5) q1 x1) (hb5 : Below W0.drew.heap.size W0.drew wz) (hG8 : Kd.Own kStr wy wz.heap.size 9 (fun _ => False) (.slice A8 q2 c8) q2 x2) (hb8 : Below wz.heap.size wz wy) (hy : Kd.Held W0 wy (w.heap.size + 1) 24 2) :
    ∃ w9, (wy.setCell ⟨w.heap.size + 1, 0, none⟩ (.slice A5 q1 c5)).setCell ⟨w.heap.size + 1, 1, none⟩ (.slice A8 q2 c8) = w9 ∧ Qu.Blk w9 (w.heap.size + 1) 24 #[.slice A5 q1 c5, .slice A8 q2 c8] ∧ ScopedOwn w w9 (.returned (.agg #[.slice A5 q1 c5, .slice A8 q2 c8])) ⟨x1, x2⟩ := by
  obtain ⟨w9, hw9⟩ : ∃ w9, (wy.setCell ⟨w.heap.size + 1, 0, none⟩ (.slice A5 q1 c5)).setCell ⟨w.heap.size + 1, 1, none⟩ (.slice A8 q2 c8) = w9 := ⟨_, rfl⟩
  have hd : W0.drew.heap.size = W0.heap.size := rfl
  have z2 := hb5.size
  have z3 := hb8.size
  have far : ∀ b, w.heap.size + 2 ≤ b → w9.heap[b]? = wy.heap[b]? := fun b hb => by
    rw [← hw9]
    exact (Below.heap_setCell _ ⟨w.heap.size + 1, _, none⟩ _ b (show b ≠ w.heap.size + 1 by omega)).trans (Below.heap_setCell _ ⟨w.heap.size + 1, _, none⟩ _ b (show b ≠ w.heap.size + 1 by omega))
  have z4 : w9.heap.size = wy.heap.size := by rw [← hw9]; simp
  have hK : Qu.Blk w9 (w.heap.size + 1) 24 #[.slice A5 q1 c5, .slice A8 q2 c8] := by
    obtain ⟨cur, hbk, hsz⟩ := hy.box
    have h1 := (hbk.put 0 (.slice A5 q1 c5)).put 1 (.slice A8 q2 c8)
    rw [hw9] at h1
    have e : ((cur.setIfInBounds 0 (.slice A5 q1 c5)).setIfInBounds 1 (.slice A8 q2 c8)) = #[.slice A5 q1 c5, .slice A8 q2 c8] := by
      obtain ⟨l0⟩ := cur
      match l0, hsz with
      | [_, _], _ => rfl
    rw [e] at h1
    exact h1
  have hB : Below w.heap.size w w9 := by
    rw [← hw9]
    exact ((hb.trans (hy.below.mono (by omega))).setCell (Nat.le_succ _) _).setCell (Nat.le_succ _) _
  refine ⟨w9, hw9, hK, ⟨⟨A5, q1, c5⟩, ⟨A8, q2, c8⟩⟩, rfl, ?_, ?_, fun g h1 h2 => by have := (hG5.low g h1).2; have := (hG8.low g h2).1; omega, hB⟩
  · exact own_down ((hG5.later hb8).stay (fun _ h => h.elim) fun g hg => far g (by have := hG5.low g hg; omega)) (by omega)
  · exact own_down (hG8.stay (fun _ h => h.elim) fun g hg => far g (by have := hG8.low g hg; omega)) (by omega)
set_option maxHeartbeats 2000000 in
theorem scope_own (s : Scp) (l : Scp.Lay) (w : World) (h : Scp.Holds w (· < w.heap.size) s l) (hn : l.skus.n ≤ 9223372036854775807) (hm : l.cats.n ≤ 9223372036854775807) :
    Calls Try.prog 27 #[.agg #[.slice l.skus.A l.skus.n l.skus.c, .slice l.cats.A l.cats.n l.cats.c]] w fun e w' => ScopedOwn w w' e (scopeOf s) := by
  obtain ⟨W1, hW1⟩ : ∃ W1, w.alloc (.cells #[.slice l.skus.A l.skus.n l.skus.c, .slice l.cats.A l.cats.n l.cats.c] 24) = W1 := ⟨_, rfl⟩
  obtain ⟨W0, hW0⟩ : ∃ W0, W1.alloc (.cells #[.slice none 0 0, .slice none 0 0] 24) = W0 := ⟨_, rfl⟩
  have s1 : W1.heap.size = w.heap.size + 1 := by rw [← hW1]; simp
  have s0 : W0.heap.size = w.heap.size + 2 := by rw [← hW0]; simp [s1]
  have hB1 : Qu.Blk W0 w.heap.size 24 #[.slice l.skus.A l.skus.n l.skus.c, .slice l.cats.A l.cats.n l.cats.c] := by rw [← hW0, ← hW1]; exact (Qu.Blk.new w _ _).alloc _
  have hB2 : Qu.Blk W0 (w.heap.size + 1) 24 #[.slice none 0 0, .slice none 0 0] := by rw [← hW0, ← s1]; exact Qu.Blk.new W1 _ _
  have hb0 : Below w.heap.size w W0 := by rw [← hW0, ← hW1]; exact ((Below.refl _ _).alloc (Nat.le_refl _) _).alloc (by simp) _
  have hWH : Kd.Held W0 W0 (w.heap.size + 1) 24 2 := ⟨Below.refl _ _, _, hB2, rfl⟩
  have c0 : ∀ u, Kd.Held W0 u (w.heap.size + 1) 24 2 → u.cell? ⟨w.heap.size, 0, none⟩ = some (.slice l.skus.A l.skus.n l.skus.c) := fun u hu => (hu.below.cell (p := ⟨w.heap.size, 0, none⟩) (show w.heap.size < w.heap.size + 1 by omega)).trans (hB1.cell 0)
  have c1 : ∀ u, Kd.Held W0 u (w.heap.size + 1) 24 2 → u.cell? ⟨w.heap.size, 1, none⟩ = some (.slice l.cats.A l.cats.n l.cats.c) := fun u hu => (hu.below.cell (p := ⟨w.heap.size, 1, none⟩) (show w.heap.size < w.heap.size + 1 by omega)).trans (hB1.cell 1)
  have b0 : ∀ u, Kd.Held W0 u (w.heap.size + 1) 24 2 → u.cell? ⟨w.heap.size + 1, 0, none⟩ = some (Kd.lies u ⟨w.heap.size + 1, 0, none⟩) := fun u hu => hu.lies (by omega)
  have b1 : ∀ u, Kd.Held W0 u (w.heap.size + 1) 24 2 → u.cell? ⟨w.heap.size + 1, 1, none⟩ = some (Kd.lies u ⟨w.heap.size + 1, 1, none⟩) := fun u hu => hu.lies (by omega)
  have bz : ∀ u i, Kd.Held W0 u (w.heap.size + 1) 24 2 → u.frozen? ⟨w.heap.size + 1, i, none⟩ = false := fun u i hu => hu.frozen i
  have hin : ∀ u, Kd.Held W0 u (w.heap.size + 1) 24 2 → Below w.heap.size w u := fun u hu => hb0.trans (hu.below.mono (by omega))
  obtain ⟨q1, hq1⟩ : ∃ q1, (namesOf skuS s.skus 3 8 8).length = q1 := ⟨_, rfl⟩
  obtain ⟨q2, hq2⟩ : ∃ q2, (namesOf catS s.cats 2 3 3).length = q2 := ⟨_, rfl⟩
  have HA : Hid (∀ u, Kd.Held W0 u (w.heap.size + 1) 24 2 → Calls Try.prog 48 #[.slice l.skus.A l.skus.n l.skus.c, .int .i64 3, .int .i64 8, .func (.func 49) #[] #[]] u fun e w' => ∃ A c, e = .returned (.slice A q1 c) ∧ Kd.Own kStr w' u.heap.size 9 (fun _ => False) (.slice A q1 c) q1 (namesOf skuS s.skus 3 8 8) ∧ Below u.heap.size u w' ∧ Kd.Held W0 w' (w.heap.size + 1) 24 2) := Lib.hid fun u hu => by
    have hb := hin u hu
    have := hb.size
    exact (some_sku l.skus.A l.skus.n l.skus.c s.skus u ((h.skus.row.below hb (Nat.le_refl _)).more fun b hb2 => Nat.lt_of_lt_of_le hb2 hb.size) hn).mono fun e w' ⟨v, e1, hG⟩ => by
      obtain ⟨A, c, rfl⟩ := hG.own.value
      have hl := hG.own
      rw [← namesOf_len skuS s.skus 3 8 8, hq1] at hl e1
      exact ⟨A, c, e1, hl, hG.below, hu.on hG.below⟩
  have HC : Hid (∀ u, Kd.Held W0 u (w.heap.size + 1) 24 2 → Calls Try.prog 48 #[.slice l.cats.A l.cats.n l.cats.c, .int .i64 2, .int .i64 3, .func (.func 50) #[] #[]] u fun e w' => ∃ A c, e = .returned (.slice A q2 c) ∧ Kd.Own kStr w' u.heap.size 9 (fun _ => False) (.slice A q2 c) q2 (namesOf catS s.cats 2 3 3) ∧ Below u.heap.size u w' ∧ Kd.Held W0 w' (w.heap.size + 1) 24 2) := Lib.hid fun u hu => by
    have hb := hin u hu
    have := hb.size
    exact (some_cat l.cats.A l.cats.n l.cats.c s.cats u ((h.cats.row.below hb (Nat.le_refl _)).more fun b hb2 => Nat.lt_of_lt_of_le hb2 hb.size) hm).mono fun e w' ⟨v, e1, hG⟩ => by
      obtain ⟨A, c, rfl⟩ := hG.own.value
      have hl := hG.own
      rw [← namesOf_len catS s.cats 2 3 3, hq2] at hl e1
      exact ⟨A, c, e1, hl, hG.below, hu.on hG.below⟩
  have HS := Lib.hid (And.intro s1 (And.intro s0 hb0))
  clear hB1 hB2 hin h hn hm hb0 s0 hq1 hq2
  go_enter Try.func27, Try.ntmps27
  go_wp2_with fail
  clear hW1 hW0 s1
  go_region_held3 (fun u => Kd.Held W0 u (w.heap.size + 1) 24 2)
    (first
      | assumption
      | exact hWH.drew
      | exact hWH
      | exact (Kd.Held.put (by assumption) _ _).put _ _)
    (first
      | (go_at_call 48; with_reducible refine (HA.out _ ?_).mono ?_; (first | assumption | exact hWH.drew); rintro e wz ⟨A5, c5, rfl, hG5, hb5, hz⟩)
      | (go_at_call 48; with_reducible refine (HC.out _ ?_).mono ?_; (first | assumption | exact hWH.drew); rintro e wy ⟨A8, c8, rfl, hG8, hb8, hy⟩))
  obtain ⟨w9, hw9, hK, hE⟩ := scope_end2 HS.out.2.1 HS.out.2.2 hG5 hb5 hG8 hb8 hy
  have HK := Lib.hid (And.intro hK hE)
  rename_i hHeld
  rw [hw9]
  clear hK hE hy hz hb5 hb8 hG5 hG8 hHeld c0 c1 b0 b1 bz hWH HA HC HS
  clear hw9
  go_wp2_with fail
  refine bodyPost_ret (results_scope rfl _ w9 (w.heap.size + 1) _ rfl HK.out.1 rfl rfl) rfl ?_
  exact HK.out.2
end Go.Proofs.Ytacmoanhbkipfaa.Py

end
