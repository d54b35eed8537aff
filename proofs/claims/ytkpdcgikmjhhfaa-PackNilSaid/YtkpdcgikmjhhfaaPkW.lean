/- Contracts of package pack's Writer: what was written is a list of bytes. -/
import Derived.Test.YtkpdcgikmjhhfaaByC
import Derived.Test.YtkpdcgikmjhhfaaByB
namespace Go.Proofs.Ytkpdcgikmjhhfaa.Pk
open Go.ChangeShapes Go.WideShapes Go.ChangeAt Go.RowKit
open Qu (Blk)
open Mv (Only two Fresh)
open By
set_option linter.unusedVariables false

/-- A writer at block q, its row at r, that has written l. -/
structure IsW (w : World) (B q : Nat) (r : Option Nat) (l : List UInt8) : Prop where
  base : B ≤ q
  ex : ∃ v, Blk w q 28 #[v] ∧ Own8 w B v l ∧ v.ownBlock = r

/-- It has written l now; nothing else has turned. -/
def Wrote (w w' : World) (B q : Nat) (r : Option Nat) (l : List UInt8) : Prop := ∃ r', IsW w' B q r' l ∧ Only w w' (two q r) ∧ Fresh w r r'

theorem IsW.only {w w' : World} {B q : Nat} {r : Option Nat} {l : List UInt8} {S : Nat → Prop} (h : IsW w B q r l) (k : Only w w' S) (h1 : ¬ S q) (h2 : ∀ g, r = some g → ¬ S g) : IsW w' B q r l := by
  obtain ⟨hb, v, hB, hO, rfl⟩ := h
  exact ⟨hb, v, Mv.blk_only hB k h1, Mv.own_only hO k h2, rfl⟩

theorem IsW.below {w w' : World} {B q : Nat} {r : Option Nat} {l : List UInt8} (h : IsW w B q r l) (hb : Below w.heap.size w w') : IsW w' B q r l :=
  h.only (Only.ofBelow hb fun _ => False) (fun h => h) (fun _ _ h => h)

theorem IsW.lt {w : World} {B q : Nat} {r : Option Nat} {l : List UInt8} (h : IsW w B q r l) : B ≤ q ∧ q < w.heap.size ∧ ∀ k, r = some k → B ≤ k ∧ k < w.heap.size := by
  obtain ⟨hb, v, hB, hO, rfl⟩ := h
  exact ⟨hb, hB.lt, fun k hk => World.ownsRow.lt hO k hk⟩

theorem Wrote.refl {w : World} {B q : Nat} {r : Option Nat} {l : List UInt8} (h : IsW w B q r l) : Wrote w w B q r l := ⟨r, h, Only.refl _ _, Fresh.refl _ _⟩

theorem Wrote.trans {a b c : World} {B q : Nat} {r s : Option Nat} {l : List UInt8} (h : Only a b (two q r)) (f : Fresh a r s) (k : Wrote b c B q s l) : Wrote a c B q r l := by
  obtain ⟨t, h1, h2, h3⟩ := k
  exact ⟨t, h1, h.more h2 f, f.trans h3 h.size⟩

theorem Wrote.toBelow {a b : World} {B q : Nat} {r : Option Nat} {l m : List UInt8} (h : IsW a B q r l) (k : Wrote a b B q r m) : Below B a b := by
  obtain ⟨t, h1, h2, h3⟩ := k
  obtain ⟨a1, a2, a3⟩ := h.lt
  exact h2.toBelow (by omega) fun i hi hs => by
    rcases hs with hs | hs
    · omega
    · have := a3 i hs.symm; omega

/-- An append onto its row, and the store. -/
theorem Wrote.step {w wa w' : World} {B q n : Nat} {v v' : Value} {l m : List UInt8} (hb : B ≤ q) (hB : Blk w q 28 #[v]) (hO : Own8 w B v l) (hwa : Below w.heap.size w wa)
    (hown : w'.ownsRow B 5 1 v' (l.length + n) (cellsB (l ++ m))) (hm : m.length = n) (hgrow : wa.grownBy w' v.ownBlock) (hf : Fresh wa v.ownBlock v'.ownBlock) : Wrote w (w'.setCell ⟨q, 0, none⟩ v') B q v.ownBlock (l ++ m) := by
  have h1 := Mv.own_blk_ne hO hB (by omega)
  have hB2 : Blk w' q 28 #[v] := (hB.below hwa).grown hgrow (fun e => h1 q e.symm rfl)
  have h2 := Mv.own_blk_ne hown hB2 (by omega)
  have hn : (l ++ m).length = l.length + n := by rw [List.length_append, hm]
  have hO2 : Own8 w' B v' (l ++ m) := by unfold Own8; rw [hn]; exact hown
  refine ⟨v'.ownBlock, ⟨hb, v', hB2.put 0 _, ?_, rfl⟩, ?_, ?_⟩
  · refine Mv.own_only hO2 ((Only.refl w' (fun k => k = q)).put v' (fun _ => rfl)) (fun g hg => h2 g hg)
  · exact (((Only.refl w (two q v.ownBlock)).below hwa).grown hgrow (fun i hi _ => .inr hi.symm)).put v' (fun _ => .inl rfl)
  · rcases hf with hf | ⟨k, hk, hk2⟩
    · exact .inl hf
    · exact .inr ⟨k, hk, by have := hwa.size; omega⟩

theorem wnum_nil (v : Int) (w : World) : Calls Try.prog 11 #[.pointer none, .int .i64 v] w fun e w' => e = .returned (.tuple #[]) ∧ w = w' := by
  go_enter Try.func11, Try.ntmps11
  go_wp2
  refine bodyPost_ret (results_none rfl _ _ _) rfl ?_
  exact ⟨rfl, rfl⟩

set_option maxHeartbeats 1000000 in
theorem wnum_any (v : Int) (B q : Nat) (r : Option Nat) (l : List UInt8) (w : World) (hv : v ≤ 9223372036854775807) (h : IsW w B q r l) (hl : l.length ≤ 1000000000000) :
    Calls Try.prog 11 #[.pointer (some ⟨q, 0, none⟩), .int .i64 v] w fun e w' => e = .returned (.tuple #[]) ∧ Wrote w w' B q r (l ++ num v.toNat) := by
  obtain ⟨i0, hi0, hz0, hz1, hz2⟩ := info_parts info_u8
  generalize hx : v.toNat = x
  have hm : (if v < 0 then 0 else v) = (x : Int) := by split <;> omega
  have hm2 : (if 0 < v then v else 0) = (x : Int) := by split <;> omega
  have hx0 : (x : Int) ≤ 9223372036854775807 := by omega
  have HW := Lib.hid h
  clear hx hv h
  go_enter Try.func11, Try.ntmps11
  go_wp2
  go_loopw [4] (fun s4 wr => ∃ (y : Nat) (done : List UInt8), s4 = .int .i64 (y : Int) ∧ num x = done ++ num y ∧ y ≤ x ∧ Wrote w wr B q r (l ++ done)) (fun s4 _ => (intOf s4).toNat)
  case atStart => exact ⟨x, [], rfl, rfl, Nat.le_refl _, by rw [List.append_nil]; exact Wrote.refl HW.out⟩
  case round =>
    obtain ⟨y, done, rfl, hN, hy, r1, hW, hOn, hF⟩ := hrel
    have hlen : done.length ≤ 9 := by
      have := num_nine (v := x) (by omega)
      rw [hN, List.length_append] at this
      omega
    obtain ⟨hb, v0, hB, hO, rfl⟩ := hW
    have y1 : (y : Int) ≤ 9223372036854775807 := by omega
    have y0 : 0 ≤ (y : Int) := by omega
    have q0 := hB.cell 0
    have qf := hB.frozen 0
    simp at q0
    have hqn := hB.lt
    have hvq := Mv.own_blk_ne hO hB (by omega)
    have hO2 := fun o => World.ownsRow.alloc hO o
    have hln : (l ++ done).length ≤ 1000000000009 := by rw [List.length_append]; omega
    have HH := Lib.hid (And.intro hOn hF)
    have HB := Lib.hid hB
    have HO := Lib.hid hO
    have HL := Lib.hid hl
    have hbs : B ≤ wr.heap.size := by omega
    clear hO hB hOn hF hl
    by_cases hlt : 128 ≤ y
    · have hge : (128 : Int) ≤ (y : Int) := by omega
      have HN := Lib.hid (num_ge hlt)
      have HT := Lib.hid hN
      have HL := Lib.hid hlt
      have b1 := or128 y
      clear hN hlt hm hm2
      go_wp2_with ((at_builtin; refine wpList_append_bytes _ rfl _ _ 26 rfl B 5 i0 Try.underlying26 hi0 hz0 hz1 hz2 v0 (l ++ done).length (l ++ done) rfl (hO2 _) (wr.heap.size + 1) (some ⟨wr.heap.size, 0, none⟩) 1 1 _ rfl (Bys.made wr _ _ (by omega) (by omega)) (by simp) (by omega) (by simp; omega) ?_; intro v' w' hown hgrow hfr; have hcz := (hgrow.cell_far ⟨q, 0, none⟩ (by simp; omega) (fun e => hvq q e.symm rfl)).trans (World.cell?_alloc_past _ _ _ hqn |>.trans q0); have hfz := (hgrow.frozen_far ⟨q, 0, none⟩ (by simp; omega) (fun e => hvq q e.symm rfl)).trans (World.frozen?_alloc_past _ _ _ hqn |>.trans qf); obtain ⟨A', c', rfl⟩ := Mv.own_value hown; have HF := Lib.hid (Wrote.trans HH.out.1 HH.out.2 (Wrote.step hb HB.out HO.out ((Below.refl _ _).alloc (Nat.le_refl _) _) hown rfl hgrow hfr)); clear hown hgrow hfr))
      go_roundw
      case rel => exact ⟨y / 128, done ++ [UInt8.ofNat ((y : Int) % 128 + 128).toNat], by go_num, by rw [HT.out, HN.out, show ((y : Int) % 128 + 128).toNat = y % 128 + 128 by omega]; exact (List.append_assoc done [_] _).symm, by omega, by have e3 := HF.out; rw [List.length_append] at e3; rw [← List.append_assoc]; exact e3⟩
      case measure => simp [intOf]; have := HL.out; omega
    · have hge : ¬ (128 : Int) ≤ (y : Int) := by omega
      have HN := Lib.hid (num_lt (v := y) (by omega))
      have HT := Lib.hid hN
      have hy2 : (y : Int) ≤ 127 := by omega
      have hy3 : (y : Int) % 256 = (y : Int) := by omega
      clear hN hlt hm hm2
      go_wp2_with ((at_builtin; refine wpList_append_bytes _ rfl _ _ 26 rfl B 5 i0 Try.underlying26 hi0 hz0 hz1 hz2 v0 (l ++ done).length (l ++ done) rfl (hO2 _) (wr.heap.size + 1) (some ⟨wr.heap.size, 0, none⟩) 1 1 _ rfl (Bys.made wr _ _ (by omega) (by omega)) (by simp) (by omega) (by simp; omega) ?_; intro v' w' hown hgrow hfr; have hcz := (hgrow.cell_far ⟨q, 0, none⟩ (by simp; omega) (fun e => hvq q e.symm rfl)).trans (World.cell?_alloc_past _ _ _ hqn |>.trans q0); have hfz := (hgrow.frozen_far ⟨q, 0, none⟩ (by simp; omega) (fun e => hvq q e.symm rfl)).trans (World.frozen?_alloc_past _ _ _ hqn |>.trans qf); obtain ⟨A', c', rfl⟩ := Mv.own_value hown; have HF := Lib.hid (Wrote.trans HH.out.1 HH.out.2 (Wrote.step hb HB.out HO.out ((Below.refl _ _).alloc (Nat.le_refl _) _) hown rfl hgrow hfr)); clear hown hgrow hfr))
      go_end0
      refine ⟨rfl, ?_⟩
      have e : num x = done ++ [UInt8.ofNat (Int.toNat (y : Int))] := by rw [HT.out, HN.out]; rfl
      rw [e, ← List.append_assoc]
      have e3 := HF.out
      rw [List.length_append] at e3
      exact e3

theorem wflag_nil (b : Bool) (w : World) : Calls Try.prog 13 #[.pointer none, .bool b] w fun e w' => e = .returned (.tuple #[]) ∧ w = w' := by
  cases b with
  | true =>
    go_enter Try.func13, Try.ntmps13
    go_wp2_with (go_at_call 11; refine (wnum_nil _ _).mono ?_; rintro e w' ⟨rfl, rfl⟩)
    refine bodyPost_ret (results_none rfl _ _ _) rfl ?_
    exact ⟨rfl, rfl⟩
  | false =>
    go_enter Try.func13, Try.ntmps13
    go_wp2_with (go_at_call 11; refine (wnum_nil _ _).mono ?_; rintro e w' ⟨rfl, rfl⟩)
    go_end0
    exact ⟨rfl, rfl⟩

theorem wflag_any (b : Bool) (B q : Nat) (r : Option Nat) (l : List UInt8) (w : World) (h : IsW w B q r l) (hl : l.length ≤ 1000000000000) :
    Calls Try.prog 13 #[.pointer (some ⟨q, 0, none⟩), .bool b] w fun e w' => e = .returned (.tuple #[]) ∧ Wrote w w' B q r (l ++ flag b) := by
  have H1 := Lib.hid (wnum_any 1 B q r l w (by omega) h hl)
  have H0 := Lib.hid (wnum_any 0 B q r l w (by omega) h hl)
  rw [flag_num]
  clear h
  cases b with
  | true =>
    go_enter Try.func13, Try.ntmps13
    go_wp2_with fail
    refine H1.out.mono ?_
    rintro e w1 ⟨rfl, hw⟩
    have HF := Lib.hid hw
    clear hw
    go_wp2
    refine bodyPost_ret (results_none rfl _ _ _) rfl ?_
    exact ⟨rfl, HF.out⟩
  | false =>
    go_enter Try.func13, Try.ntmps13
    go_wp2_with fail
    refine H0.out.mono ?_
    rintro e w1 ⟨rfl, hw⟩
    have HF := Lib.hid hw
    clear hw
    go_wp2
    go_end0
    exact ⟨rfl, HF.out⟩

theorem wtext_nil (s : ByteArray) (w : World) : Calls Try.prog 12 #[.pointer none, .string s] w fun e w' => e = .returned (.tuple #[]) ∧ w = w' := by
  go_enter Try.func12, Try.ntmps12
  go_wp2
  refine bodyPost_ret (results_none rfl _ _ _) rfl ?_
  exact ⟨rfl, rfl⟩

theorem wtext_any (s : ByteArray) (B q : Nat) (r : Option Nat) (l : List UInt8) (w : World) (hs : s.size ≤ 1000000000000) (h : IsW w B q r l) (hl : l.length ≤ 1000000000000) :
    Calls Try.prog 12 #[.pointer (some ⟨q, 0, none⟩), .string s] w fun e w' => e = .returned (.tuple #[]) ∧ Wrote w w' B q r (l ++ text s.data.toList) := by
  obtain ⟨i0, hi0, hz0, hz1, hz2⟩ := info_parts info_u8
  have HN := Lib.hid (wnum_any (s.size : Int) B q r l w (by omega) h hl)
  have h9 : (num ((s.size : Int)).toNat).length ≤ 9 := num_nine (by omega)
  have hs0 : (0 : Int) ≤ (s.size : Int) := by omega
  clear h
  go_enter Try.func12, Try.ntmps12
  go_wp2_with fail
  refine HN.out.mono ?_
  rintro e w1 ⟨rfl, r1, hW, hOn, hF⟩
  obtain ⟨hb, v0, hB, hO, rfl⟩ := hW
  have q0 := hB.cell 0
  have qf := hB.frozen 0
  simp at q0
  have hqn := hB.lt
  have hvq := Mv.own_blk_ne hO hB (by omega)
  have hln : (l ++ num ((s.size : Int)).toNat).length ≤ 1000000000009 := by rw [List.length_append]; omega
  have HH := Lib.hid (And.intro hOn hF)
  have HB := Lib.hid hB
  have HO := Lib.hid hO
  have hbs : B ≤ w1.heap.size := by omega
  clear hO hB hOn hF hl
  go_wp2_with ((at_builtin; refine wpList_append_text _ rfl _ _ 26 9 rfl B 5 i0 Try.underlying26 Try.underlying9 hi0 hz0 hz1 hz2 v0 _ _ rfl HO.out s rfl (by omega) (by omega) ?_; intro v' w' hown hgrow hfr; have hcz := (hgrow.cell_far ⟨q, 0, none⟩ (by omega) (fun e => hvq q e.symm rfl)).trans q0; have hfz := (hgrow.frozen_far ⟨q, 0, none⟩ (by omega) (fun e => hvq q e.symm rfl)).trans qf; obtain ⟨A', c', rfl⟩ := Mv.own_value hown; have HF := Lib.hid (Wrote.trans HH.out.1 HH.out.2 (Wrote.step hb HB.out HO.out (Below.refl _ _) hown (size_list s) hgrow hfr)); clear hown hgrow hfr))
  go_end0
  refine ⟨rfl, ?_⟩
  have e : text s.data.toList = num ((s.size : Int)).toNat ++ s.data.toList := by unfold text; rw [size_list]; rfl
  rw [e, ← List.append_assoc]
  have e3 := HF.out
  rw [List.length_append] at e3
  exact e3

theorem wbytes_nil (w : World) : Calls Try.prog 14 #[.pointer none] w fun e w' => e = .returned (.slice none 0 0) ∧ w = w' := by
  go_enter Try.func14, Try.ntmps14
  go_wp2
  go_ret
  exact ⟨rfl, rfl⟩

theorem wbytes_any (B q : Nat) (r : Option Nat) (l : List UInt8) (w : World) (h : IsW w B q r l) (hl : l.length ≤ 1000000000000) :
    Calls Try.prog 14 #[.pointer (some ⟨q, 0, none⟩)] w fun e w' => Rowed e w w' l := by
  obtain ⟨hb, v0, hB, hO, rfl⟩ := h
  obtain ⟨A, c, rfl⟩ := Mv.own_value hO
  have q0 := hB.cell 0
  simp at q0
  have HC := Lib.hid (clone_any A l.length c w.heap.size l w (Own8.bys hO) (fun e => by
    subst e
    rcases hO.2 with ⟨h0, h1⟩ | ⟨g, cap, cur, hv, _⟩
    · injection h0 with _ _ h0
      exact ⟨h1, h0⟩
    · cases hv) hl)
  clear hO hB
  go_enter Try.func14, Try.ntmps14
  go_wp2_with fail
  refine HC.out.mono ?_
  rintro e w1 ⟨A', c', rfl, ho, hbl⟩
  have HF : Hid (Rowed (.returned (.slice A' l.length c')) w w1 l) := Lib.hid ⟨A', c', rfl, ho, hbl⟩
  clear ho hbl
  go_wp2
  go_ret
  exact HF.out

/-- A new writer. -/
theorem IsW.new (w : World) (B : Nat) (hB : B ≤ w.heap.size) : IsW (w.alloc (.cells #[.slice none 0 0] 28)) B w.heap.size none [] :=
  ⟨hB, _, Blk.new _ _ _, Own8.nil _ _, rfl⟩

end Go.Proofs.Ytkpdcgikmjhhfaa.Pk
