/- Contracts of bytes.Clone and of the statements' helpers over bytes: Bytes, Spoil. -/
import Derived.Test.YtbicdmhmpmdoeaaRows
import Derived.Test.YtbicdmhmpmdoeaaKit
import Derived.Test.YtbicdmhmpmdoeaaByW
import Derived.WalkKit
import Derived.ProofKit
import Derived.OpenShut
import Derived.Lib.Hide
import Derived.BigQuiet
import Derived.Deep.QuietTactic
import Derived.LoopTactic
import Derived.Outline
import Derived.OwnWalk
import Derived.Lib.SliceRun
namespace Go.Proofs.Ytbicdmhmpmdoeaa.By
open Go.ChangeShapes Go.WideShapes Go.ChangeAt Go.RowKit
open Qu (Blk)
open Mv (Only)
set_option linter.unusedVariables false

theorem info_u8 : (Try.prog.info? 5).map (fun i => (i.zero, i.size, i.bytes)) = some (some (.int .u8 0), 1, 1) := by kernel_rfl

/-- New bytes are told. -/
def Rowed (e : Ending) (w w' : World) (l : List UInt8) : Prop := ∃ A c, e = .returned (.slice A l.length c) ∧ w'.ownsRow w.heap.size 5 1 (.slice A l.length c) l.length (cellsB l) ∧ Below w.heap.size w w'

/-- New bytes are told, n of them. -/
def RowedN (e : Ending) (w w' : World) (l : List UInt8) (n : Nat) : Prop := ∃ A c, e = .returned (.slice A n c) ∧ w'.ownsRow w.heap.size 5 1 (.slice A n c) n (cellsB l) ∧ Below w.heap.size w w'

theorem Rowed.n {e : Ending} {w w' : World} {l : List UInt8} {n : Nat} (h : Rowed e w w' l) (hn : l.length = n) : RowedN e w w' l n := by subst hn; exact h

theorem clone_any (A : Option Addr) (n c M : Nat) (l : List UInt8) (w : World) (h : Bys w M A n l) (hA : A = none → n = 0 ∧ c = 0) (hn : n ≤ 1000000000000) :
    Calls Try.prog 36 #[.slice A n c] w fun e w' => Rowed e w w' l := by
  cases A with
  | none =>
    obtain ⟨rfl, rfl⟩ := hA rfl
    have hl : l = [] := List.eq_nil_of_length_eq_zero h.len
    subst hl
    have hnil := fun W => Lib.run_eql_slice_nil (P := Try.prog) W 23 5 none 0 0 0 0 Try.underlying23
    clear h hA
    go_enter Try.func36, Try.ntmps36
    go_wp2
    go_ret
    exact ⟨none, 0, rfl, World.ownsRow_nil _ _ _ _, Below.refl _ _⟩
  | some a =>
    obtain ⟨i0, hi0, hz0, hz1, hz2⟩ := info_parts info_u8
    obtain rfl := h.len
    have hnil := fun W => Lib.run_eql_slice_nil (P := Try.prog) W 23 5 (some a) l.length c 0 0 Try.underlying23
    have HB := Lib.hid (h.size.below (w' := w.alloc (.cells #[] 5)) (B := w.heap.size) ((Below.refl _ _).alloc (Nat.le_refl _) _) (Nat.le_refl _))
    have HOW := Lib.hid (World.ownsRow_made (base := w.heap.size) (e := 5) (size := 1) w #[] 0 (Nat.le_refl _) (by unfold maxLen; omega) rfl)
    clear h hA
    go_enter Try.func36, Try.ntmps36
    go_wp2_with ((at_builtin; refine wpList_append_bytes _ rfl _ _ 23 rfl w.heap.size 5 i0 Try.underlying23 hi0 hz0 hz1 hz2 (.slice (some ⟨w.heap.size, 0, none⟩) 0 0) 0 [] rfl HOW.out w.heap.size (some a) l.length c l rfl HB.out (by simp) (by omega) (by simp) ?_; intro v' w' hown hgrow hfr))
    rw [Nat.zero_add, List.nil_append] at hown
    obtain ⟨A', c', rfl⟩ := Mv.own_value hown
    have HF : Hid (Rowed (.returned (.slice A' l.length c')) w w' l) := Lib.hid (by
      exact ⟨A', c', rfl, hown, ((Below.refl _ _).alloc (Nat.le_refl _) _).grown hgrow (by simp) (fun k hk => by rw [Mv.ownBlock_some] at hk; injection hk with hk; omega)⟩)
    clear hown hgrow hfr
    go_wp2
    go_ret
    exact HF.out

theorem bytes_any (A C : Option Addr) (n m ca cc M : Nat) (l k : List UInt8) (w : World) (ha : Bys w M A n l) (hc : Bys w M C m k) :
    Calls Try.prog 21 #[.slice A n ca, .slice C m cc] w fun e w' => e = .returned (.bool (l == k)) ∧ w = w' := by
  have h1 := fun W (hW : Bys W M A n l) => run_text (P := Try.prog) (c := ca) 23 9 5 Try.underlying23 Try.underlying5 Try.underlying9 hW
  have h2 := fun W (hW : Bys W M C m k) => run_text (P := Try.prog) (c := cc) 23 9 5 Try.underlying23 Try.underlying5 Try.underlying9 hW
  have g1 := h1 _ ha
  have g2 := h2 _ hc
  have e1 := strOf_list l
  have e2 := strOf_list k
  clear h1 h2 ha hc
  go_enter Try.func21, Try.ntmps21
  go_wp2
  go_ret
  exact ⟨rfl, rfl⟩

/-! ### The document's numbers and texts as bytes -/
/-- A row of the call's own holds the bytes l. -/
def Own8 (w : World) (B : Nat) (v : Value) (l : List UInt8) : Prop := w.ownsRow B 5 1 v l.length (cellsB l)

theorem Own8.nil (w : World) (B : Nat) : Own8 w B (.slice none 0 0) [] := World.ownsRow_nil _ _ _ _

theorem Own8.below {w w' : World} {B : Nat} {v : Value} {l : List UInt8} (h : Own8 w B v l) (hb : Below w.heap.size w w') : Own8 w' B v l := Qu.row_below h hb

theorem Own8.bys {w : World} {B n c : Nat} {A : Option Addr} {l : List UInt8} (h : Own8 w B (.slice A n c) l) : Bys w w.heap.size A l.length l := by
  obtain ⟨A', c', hv⟩ := Mv.own_value h
  injection hv with h1 h2 h3
  subst h2
  exact Bys.own h

/-- One byte in a block of its own. -/
theorem Bys.made (W : World) (t : TypeId) (z : Int) (h0 : 0 ≤ z) (h1 : z ≤ 255) : Bys (W.alloc (.cells #[.int .u8 z] t)) (W.heap.size + 1) (some ⟨W.heap.size, 0, none⟩) 1 [UInt8.ofNat z.toNat] := ⟨rfl, fun k b hk => by
  have hk0 : k = 0 := by have := (List.getElem?_eq_some_iff.1 hk).1; simpa using this
  subst hk0
  obtain rfl : UInt8.ofNat z.toNat = b := by simpa using hk
  refine ⟨W.heap.size, 0, rfl, by omega, ?_⟩
  rw [Blk.cell (Blk.new W t #[.int .u8 z]) 0, toNat_small (by omega)]
  simp
  omega⟩

/-- Bytes in a box. -/
theorem Bys.blk {w : World} {g t : Nat} {cs : Array Value} {l : List UInt8} {n : Nat} (h : Blk w g t cs) (e : cs = (cellsB l).toArray) (hn : l.length = n) : Bys w w.heap.size (some ⟨g, 0, none⟩) n l := ⟨hn, fun k b hk => by
  refine ⟨g, 0, rfl, h.lt, ?_⟩
  rw [Nat.zero_add, h.cell k, e]
  simp [cellsB_at, hk]⟩

/-- One more byte. -/
theorem Own8.more {w wr w' : World} {B n : Nat} {v v' : Value} {l m : List UInt8} {o : Obj} (hB : Below B w wr) (hBs : B ≤ wr.heap.size) (hO : Own8 wr B v l) (hown : w'.ownsRow B 5 1 v' (l.length + n) (cellsB (l ++ m))) (hm : m.length = n) (hgrow : (wr.alloc o).grownBy w' v.ownBlock) : Own8 w' B v' (l ++ m) ∧ Below B w w' := by
  refine ⟨?_, (hB.alloc hBs _).grown hgrow (by simp; omega) (fun k hk => (hO.lt k hk).1)⟩
  unfold Own8
  rw [List.length_append, hm]
  exact hown

theorem toNat_or (x : Nat) : (UInt8.ofNat (x % 128 + 128)).toNat = x % 128 + 128 := toNat_small (by omega)

end Go.Proofs.Ytbicdmhmpmdoeaa.By
