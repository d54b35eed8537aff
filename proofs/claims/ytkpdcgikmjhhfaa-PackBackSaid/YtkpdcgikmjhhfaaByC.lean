/- Contracts of bytes.Clone and of the statements' helpers over bytes: Bytes, Spoil. -/
import Derived.Test.YtkpdcgikmjhhfaaRows
import Derived.Test.YtkpdcgikmjhhfaaKit
import Derived.Test.YtkpdcgikmjhhfaaByW
import Derived.WalkKit
import Derived.ProofKit
import Derived.OpenShut
import Derived.Lib.Hide
import Derived.BigQuiet
import Derived.Deep.QuietTactic
import Derived.LoopTactic
import Derived.Outline
import Derived.OwnWalk
import Derived.Lib.SliceRun
namespace Go.Proofs.Ytkpdcgikmjhhfaa.By
open Go.ChangeShapes Go.WideShapes Go.ChangeAt Go.RowKit
open Qu (Blk)
open Mv (Only)
set_option linter.unusedVariables false

theorem info_u8 : (Try.prog.info? 5).map (fun i => (i.zero, i.size, i.bytes)) = some (some (.int .u8 0), 1, 1) := by kernel_rfl

/-- New bytes are told. -/
def Rowed (e : Ending) (w w' : World) (l : List UInt8) : Prop := ∃ A c, e = .returned (.slice A l.length c) ∧ w'.ownsRow w.heap.size 5 1 (.slice A l.length c) l.length (cellsB l) ∧ Below w.heap.size w w'

/-- New bytes are told, n of them. -/
def RowedN (e : Ending) (w w' : World) (l : List UInt8) (n : Nat) : Prop := ∃ A c, e = .returned (.slice A n c) ∧ w'.ownsRow w.heap.size 5 1 (.slice A n c) n (cellsB l) ∧ Below w.heap.size w w'

theorem Rowed.n {e : Ending} {w w' : World} {l : List UInt8} {n : Nat} (h : Rowed e w w' l) (hn : l.length = n) : RowedN e w w' l n := by subst hn; exact h

theorem clone_any (A : Option Addr) (n c M : Nat) (l : List UInt8) (w : World) (h : Bys w M A n l) (hA : A = none → n = 0 ∧ c = 0) (hn : n ≤ 1000000000000) :
    Calls Try.prog 26 #[.slice A n c] w fun e w' => Rowed e w w' l := by
  cases A with
  | none =>
    obtain ⟨rfl, rfl⟩ := hA rfl
    have hl : l = [] := List.eq_nil_of_length_eq_zero h.len
    subst hl
    have hnil := fun W => Lib.run_eql_slice_nil (P := Try.prog) W 26 5 none 0 0 0 0 Try.underlying26
    clear h hA
    go_enter Try.func26, Try.ntmps26
    go_wp2
    go_ret
    exact ⟨none, 0, rfl, World.ownsRow_nil _ _ _ _, Below.refl _ _⟩
  | some a =>
    obtain ⟨i0, hi0, hz0, hz1, hz2⟩ := info_parts info_u8
    obtain rfl := h.len
    have hnil := fun W => Lib.run_eql_slice_nil (P := Try.prog) W 26 5 (some a) l.length c 0 0 Try.underlying26
    have HB := Lib.hid (h.size.below (w' := w.alloc (.cells #[] 5)) (B := w.heap.size) ((Below.refl _ _).alloc (Nat.le_refl _) _) (Nat.le_refl _))
    have HOW := Lib.hid (World.ownsRow_made (base := w.heap.size) (e := 5) (size := 1) w #[] 0 (Nat.le_refl _) (by unfold maxLen; omega) rfl)
    clear h hA
    go_enter Try.func26, Try.ntmps26
    go_wp2_with ((at_builtin; refine wpList_append_bytes _ rfl _ _ 26 rfl w.heap.size 5 i0 Try.underlying26 hi0 hz0 hz1 hz2 (.slice (some ⟨w.heap.size, 0, none⟩) 0 0) 0 [] rfl HOW.out w.heap.size (some a) l.length c l rfl HB.out (by simp) (by omega) (by simp) ?_; intro v' w' hown hgrow hfr))
    rw [Nat.zero_add, List.nil_append] at hown
    obtain ⟨A', c', rfl⟩ := Mv.own_value hown
    have HF : Hid (Rowed (.returned (.slice A' l.length c')) w w' l) := Lib.hid (by
      exact ⟨A', c', rfl, hown, ((Below.refl _ _).alloc (Nat.le_refl _) _).grown hgrow (by simp) (fun k hk => by rw [Mv.ownBlock_some] at hk; injection hk with hk; omega)⟩)
    clear hown hgrow hfr
    go_wp2
    go_ret
    exact HF.out

theorem bytes_any (A C : Option Addr) (n m ca cc M : Nat) (l k : List UInt8) (w : World) (ha : Bys w M A n l) (hc : Bys w M C m k) :
    Calls Try.prog 16 #[.slice A n ca, .slice C m cc] w fun e w' => e = .returned (.bool (l == k)) ∧ w = w' := by
  have h1 := fun W (hW : Bys W M A n l) => run_text (P := Try.prog) (c := ca) 26 9 5 Try.underlying26 Try.underlying5 Try.underlying9 hW
  have h2 := fun W (hW : Bys W M C m k) => run_text (P := Try.prog) (c := cc) 26 9 5 Try.underlying26 Try.underlying5 Try.underlying9 hW
  have g1 := h1 _ ha
  have g2 := h2 _ hc
  have e1 := strOf_list l
  have e2 := strOf_list k
  clear h1 h2 ha hc
  go_enter Try.func16, Try.ntmps16
  go_wp2
  go_ret
  exact ⟨rfl, rfl⟩

/-- All of a row of the call's own is written over. -/
theorem spoil_any (w : World) (B n c : Nat) (A : Option Addr) (l : List UInt8) (h : w.ownsRow B 5 1 (.slice A n c) n (cellsB l)) (hn : n ≤ 1000000000000) :
    Calls Try.prog 15 #[.slice A n c] w fun e w' => e = .returned (.tuple #[]) ∧ w.grownBy w' (Value.ownBlock (.slice A n c)) := by
  have n0 : (n : Int) ≤ 1000000000000 := by omega
  have H0 := Lib.hid h
  clear h
  go_enter Try.func15, Try.ntmps15
  go_wp2
  go_loopw [3] (fun s wr => ∃ (k : Nat) (xs : List Value), s = .int .i64 k ∧ k ≤ n ∧ wr.ownsRow B 5 1 (.slice A n c) n xs ∧ w.grownBy wr (Value.ownBlock (.slice A n c))) (fun s _ => n - (intOf s).toNat)
  case atStart => exact ⟨0, _, rfl, by omega, H0.out, World.grownBy.refl w _⟩
  case round =>
    obtain ⟨k, xs, rfl, hk, hO, hG⟩ := hrel
    by_cases hlt : k < n
    · obtain ⟨g, cap, hv, hg, hgl⟩ := hO.form (by omega)
      injection hv with hA _ hc
      subst hA hc
      have k0 : (0 : Int) ≤ (k : Int) := by omega
      have k1 : (k : Int) < (n : Int) := by omega
      have hl := hO.1
      have c1 := hO.cellAt k (by omega)
      obtain ⟨u, hu⟩ : ∃ u, xs[k]? = some u := ⟨_, List.getElem?_eq_getElem (by omega)⟩
      rw [hu] at c1
      have f1 := hO.frozenAt k
      obtain ⟨h1, h2⟩ := hO.stored k (.int .u8 0)
      have HS := Lib.hid (And.intro h1 (hG.trans h2))
      clear h1 h2 hO hG hl hu
      go_wp2
      go_roundw
      case rel => exact ⟨k + 1, _, by go_num, by omega, HS.out.1, HS.out.2⟩
      case measure => simp [intOf]; omega
    · have k1 : ¬ (k : Int) < (n : Int) := by omega
      have HG := Lib.hid hG
      clear hG hO
      go_wp2
      go_end0
      exact ⟨rfl, HG.out⟩

/-! ### The document's numbers and texts as bytes -/
/-- A row of the call's own holds the bytes l. -/
def Own8 (w : World) (B : Nat) (v : Value) (l : List UInt8) : Prop := w.ownsRow B 5 1 v l.length (cellsB l)

theorem Own8.nil (w : World) (B : Nat) : Own8 w B (.slice none 0 0) [] := World.ownsRow_nil _ _ _ _

theorem Own8.below {w w' : World} {B : Nat} {v : Value} {l : List UInt8} (h : Own8 w B v l) (hb : Below w.heap.size w w') : Own8 w' B v l := Qu.row_below h hb

theorem Own8.bys {w : World} {B n c : Nat} {A : Option Addr} {l : List UInt8} (h : Own8 w B (.slice A n c) l) : Bys w w.heap.size A l.length l := by
  obtain ⟨A', c', hv⟩ := Mv.own_value h
  injection hv with h1 h2 h3
  subst h2
  exact Bys.own h

/-- One byte in a block of its own. -/
theorem Bys.made (W : World) (t : TypeId) (z : Int) (h0 : 0 ≤ z) (h1 : z ≤ 255) : Bys (W.alloc (.cells #[.int .u8 z] t)) (W.heap.size + 1) (some ⟨W.heap.size, 0, none⟩) 1 [UInt8.ofNat z.toNat] := ⟨rfl, fun k b hk => by
  have hk0 : k = 0 := by have := (List.getElem?_eq_some_iff.1 hk).1; simpa using this
  subst hk0
  obtain rfl : UInt8.ofNat z.toNat = b := by simpa using hk
  refine ⟨W.heap.size, 0, rfl, by omega, ?_⟩
  rw [Blk.cell (Blk.new W t #[.int .u8 z]) 0, toNat_small (by omega)]
  simp
  omega⟩

/-- Bytes in a box. -/
theorem Bys.blk {w : World} {g t : Nat} {cs : Array Value} {l : List UInt8} {n : Nat} (h : Blk w g t cs) (e : cs = (cellsB l).toArray) (hn : l.length = n) : Bys w w.heap.size (some ⟨g, 0, none⟩) n l := ⟨hn, fun k b hk => by
  refine ⟨g, 0, rfl, h.lt, ?_⟩
  rw [Nat.zero_add, h.cell k, e]
  simp [cellsB_at, hk]⟩

/-- One more byte. -/
theorem Own8.more {w wr w' : World} {B n : Nat} {v v' : Value} {l m : List UInt8} {o : Obj} (hB : Below B w wr) (hBs : B ≤ wr.heap.size) (hO : Own8 wr B v l) (hown : w'.ownsRow B 5 1 v' (l.length + n) (cellsB (l ++ m))) (hm : m.length = n) (hgrow : (wr.alloc o).grownBy w' v.ownBlock) : Own8 w' B v' (l ++ m) ∧ Below B w w' := by
  refine ⟨?_, (hB.alloc hBs _).grown hgrow (by simp; omega) (fun k hk => (hO.lt k hk).1)⟩
  unfold Own8
  rw [List.length_append, hm]
  exact hown

theorem toNat_or (x : Nat) : (UInt8.ofNat (x % 128 + 128)).toNat = x % 128 + 128 := toNat_small (by omega)

set_option maxHeartbeats 1000000 in
theorem rnum_any (v : Int) (w : World) (hv : v ≤ 9223372036854775807) :
    Calls Try.prog 24 #[.int .i64 v] w fun e w' => Rowed e w w' (num v.toNat) := by
  obtain ⟨i0, hi0, hz0, hz1, hz2⟩ := info_parts info_u8
  generalize hx : v.toNat = x
  have hm : (if v < 0 then 0 else v) = (x : Int) := by split <;> omega
  have hm2 : (if 0 < v then v else 0) = (x : Int) := by split <;> omega
  have hx0 : (x : Int) ≤ 9223372036854775807 := by omega
  clear hx hv
  go_enter Try.func24, Try.ntmps24
  go_wp2
  go_loopw [0, 3] (fun s0 s3 wr => ∃ (y : Nat) (done : List UInt8), s0 = .int .i64 (y : Int) ∧ num x = done ++ num y ∧ y ≤ x ∧ Own8 wr w.heap.size s3 done ∧ Below w.heap.size w wr) (fun s0 _ _ => (intOf s0).toNat)
  case atStart => exact ⟨x, [], rfl, rfl, Nat.le_refl _, Own8.nil _ _, Below.refl _ _⟩
  case round =>
    obtain ⟨y, done, rfl, hN, hy, hO, hB⟩ := hrel
    have H9 : Hid (done.length + (num y).length ≤ 9) := Lib.hid (by
      have := num_nine (v := x) (by omega)
      rw [hN, List.length_append] at this
      exact this)
    have y1 : (y : Int) ≤ 9223372036854775807 := by omega
    have y0 : 0 ≤ (y : Int) := by omega
    have hO2 := fun o => World.ownsRow.alloc hO o
    have HO := Lib.hid (And.intro hO hB)
    have HS := Lib.hid hB.size
    have hlen : done.length ≤ 9 := by have := H9.out; omega
    clear hO hB
    by_cases hlt : 128 ≤ y
    · have hge : (128 : Int) ≤ (y : Int) := by omega
      have HN := Lib.hid (num_ge hlt)
      have HT := Lib.hid hN
      have HL := Lib.hid hlt
      clear hN hlt hm hm2
      go_wp2_with ((at_builtin; refine wpList_append_bytes _ rfl _ _ 26 rfl w.heap.size 5 i0 Try.underlying26 hi0 hz0 hz1 hz2 u3 done.length done rfl (hO2 _) (wr.heap.size + 1) (some ⟨wr.heap.size, 0, none⟩) 1 1 _ rfl (Bys.made wr _ _ (by omega) (by omega)) (by simp) (by omega) (by have := HS.out; simp; omega) ?_; intro v' w' hown hgrow hfr))
      have HF := Lib.hid (Own8.more HO.out.2 HS.out HO.out.1 hown rfl hgrow)
      clear hown hgrow hfr
      go_wp2
      go_roundw
      case rel => exact ⟨y / 128, _, by go_num, by rw [HT.out, HN.out, List.append_assoc, show ((y : Int) % 128 + 128).toNat = y % 128 + 128 by omega]; rfl, by omega, HF.out.1, HF.out.2⟩
      case measure => simp [intOf]; have := HL.out; omega
    · have hge : ¬ (128 : Int) ≤ (y : Int) := by omega
      have HN := Lib.hid (num_lt (v := y) (by omega))
      have HT := Lib.hid hN
      have hy2 : (y : Int) ≤ 127 := by omega
      clear hN hlt hm hm2
      go_wp2_with ((at_builtin; refine wpList_append_bytes _ rfl _ _ 26 rfl w.heap.size 5 i0 Try.underlying26 hi0 hz0 hz1 hz2 u3 done.length done rfl (hO2 _) (wr.heap.size + 1) (some ⟨wr.heap.size, 0, none⟩) 1 1 _ rfl (Bys.made wr _ _ (by omega) (by omega)) (by simp) (by omega) (by have := HS.out; simp; omega) ?_; intro v' w' hown hgrow hfr))
      have HF := Lib.hid (Own8.more HO.out.2 HS.out HO.out.1 hown rfl hgrow)
      obtain ⟨A', c', rfl⟩ := Mv.own_value hown
      have HR : Hid (Rowed (.returned (.slice A' (done.length + 1) c')) w w' (num x)) := Lib.hid (by
        have e : num x = done ++ [UInt8.ofNat (Int.toNat (y : Int))] := by rw [HT.out, HN.out]; rfl
        rw [e]
        have h1 := HF.out.1
        unfold Own8 at h1
        have e2 : (done ++ [UInt8.ofNat (Int.toNat (y : Int))]).length = done.length + 1 := by simp
        rw [e2] at h1
        refine ⟨A', c', by rw [e2], ?_, HF.out.2⟩
        rw [e2]; exact h1)
      clear hown hgrow hfr HF
      go_wp2
      go_ret
      exact HR.out

theorem rflag_any (b : Bool) (w : World) : Calls Try.prog 27 #[.bool b] w fun e w' => Rowed e w w' (flag b) := by
  have H1 := Lib.hid (rnum_any 1 w (by omega))
  have H0 := Lib.hid (rnum_any 0 w (by omega))
  rw [flag_num]
  cases b with
  | true =>
    go_enter Try.func27, Try.ntmps27
    go_wp2_with fail
    refine H1.out.mono ?_
    rintro e w1 ⟨A, c, rfl, ho, hb⟩
    have HF : Hid (Rowed (.returned (.slice A (num (Int.toNat 1)).length c)) w w1 (num 1)) := Lib.hid ⟨A, c, rfl, ho, hb⟩
    clear ho hb
    go_wp2
    go_ret
    exact HF.out
  | false =>
    go_enter Try.func27, Try.ntmps27
    go_wp2_with fail
    refine H0.out.mono ?_
    rintro e w1 ⟨A, c, rfl, ho, hb⟩
    have HF : Hid (Rowed (.returned (.slice A (num (Int.toNat 0)).length c)) w w1 (num 0)) := Lib.hid ⟨A, c, rfl, ho, hb⟩
    clear ho hb
    go_wp2
    go_ret
    exact HF.out

theorem rtext_any (s : ByteArray) (w : World) (hs : s.size ≤ 1000000000000) : Calls Try.prog 25 #[.string s] w fun e w' => Rowed e w w' (text s.data.toList) := by
  obtain ⟨i0, hi0, hz0, hz1, hz2⟩ := info_parts info_u8
  have HN := Lib.hid (rnum_any (s.size : Int) w (by omega))
  have hl : (num ((s.size : Int)).toNat).length ≤ 9 := num_nine (by omega)
  go_enter Try.func25, Try.ntmps25
  go_wp2_with fail
  refine HN.out.mono ?_
  rintro e w1 ⟨A, c, rfl, ho, hb⟩
  have HS := Lib.hid hb.size
  go_wp2_with ((at_builtin; refine wpList_append_text _ rfl _ _ 26 9 rfl w.heap.size 5 i0 Try.underlying26 Try.underlying9 hi0 hz0 hz1 hz2 _ _ _ rfl ho s rfl (by omega) HS.out ?_; intro v' w' hown hgrow hfr))
  obtain ⟨A', c', rfl⟩ := Mv.own_value hown
  have HF : Hid (Rowed (.returned (.slice A' ((num ((s.size : Int)).toNat).length + s.size) c')) w w' (text s.data.toList)) := Lib.hid (by
    have e : (text s.data.toList).length = (num ((s.size : Int)).toNat).length + s.size := by unfold text; rw [List.length_append, size_list]; rfl
    have e2 : text s.data.toList = num ((s.size : Int)).toNat ++ s.data.toList := by unfold text; rw [size_list]; rfl
    refine ⟨A', c', by rw [e], ?_, hb.grown hgrow HS.out (fun k hk => (ho.lt k hk).1)⟩
    rw [e, e2]; exact hown)
  clear hown hgrow hfr ho hb
  go_wp2
  go_ret
  exact HF.out

end Go.Proofs.Ytkpdcgikmjhhfaa.By
