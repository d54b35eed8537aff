/- Contracts of bytes.Clone and of the statements' helpers over bytes: Bytes, Spoil. -/
import Derived.Test.YtipjcmkfgfcoiaaRows
import Derived.Test.YtipjcmkfgfcoiaaKit
import Derived.Test.YtipjcmkfgfcoiaaByW
import Derived.WalkKit
import Derived.ProofKit
import Derived.OpenShut
import Derived.Lib.Hide
import Derived.BigQuiet
import Derived.Deep.QuietTactic
import Derived.LoopTactic
import Derived.Outline
import Derived.OwnWalk
import Derived.Lib.SliceRun
namespace Go.Proofs.Ytipjcmkfgfcoiaa.By
open Go.ChangeShapes Go.WideShapes Go.ChangeAt Go.RowKit
open Qu (Blk)
open Mv (Only)
set_option linter.unusedVariables false

theorem info_u8 : (Try.prog.info? 5).map (fun i => (i.zero, i.size, i.bytes)) = some (some (.int .u8 0), 1, 1) := by kernel_rfl

/-- New bytes are told. -/
def Rowed (e : Ending) (w w' : World) (l : List UInt8) : Prop := ∃ A c, e = .returned (.slice A l.length c) ∧ w'.ownsRow w.heap.size 5 1 (.slice A l.length c) l.length (cellsB l) ∧ Below w.heap.size w w'

/-- New bytes are told, n of them. -/
def RowedN (e : Ending) (w w' : World) (l : List UInt8) (n : Nat) : Prop := ∃ A c, e = .returned (.slice A n c) ∧ w'.ownsRow w.heap.size 5 1 (.slice A n c) n (cellsB l) ∧ Below w.heap.size w w'

theorem Rowed.n {e : Ending} {w w' : World} {l : List UInt8} {n : Nat} (h : Rowed e w w' l) (hn : l.length = n) : RowedN e w w' l n := by subst hn; exact h

/-! ### The document's numbers and texts as bytes -/
/-- A row of the call's own holds the bytes l. -/
def Own8 (w : World) (B : Nat) (v : Value) (l : List UInt8) : Prop := w.ownsRow B 5 1 v l.length (cellsB l)

theorem Own8.nil (w : World) (B : Nat) : Own8 w B (.slice none 0 0) [] := World.ownsRow_nil _ _ _ _

theorem Own8.below {w w' : World} {B : Nat} {v : Value} {l : List UInt8} (h : Own8 w B v l) (hb : Below w.heap.size w w') : Own8 w' B v l := Qu.row_below h hb

theorem Own8.bys {w : World} {B n c : Nat} {A : Option Addr} {l : List UInt8} (h : Own8 w B (.slice A n c) l) : Bys w w.heap.size A l.length l := by
  obtain ⟨A', c', hv⟩ := Mv.own_value h
  injection hv with h1 h2 h3
  subst h2
  exact Bys.own h

/-- One byte in a block of its own. -/
theorem Bys.made (W : World) (t : TypeId) (z : Int) (h0 : 0 ≤ z) (h1 : z ≤ 255) : Bys (W.alloc (.cells #[.int .u8 z] t)) (W.heap.size + 1) (some ⟨W.heap.size, 0, none⟩) 1 [UInt8.ofNat z.toNat] := ⟨rfl, fun k b hk => by
  have hk0 : k = 0 := by have := (List.getElem?_eq_some_iff.1 hk).1; simpa using this
  subst hk0
  obtain rfl : UInt8.ofNat z.toNat = b := by simpa using hk
  refine ⟨W.heap.size, 0, rfl, by omega, ?_⟩
  rw [Blk.cell (Blk.new W t #[.int .u8 z]) 0, toNat_small (by omega)]
  simp
  omega⟩

/-- Bytes in a box. -/
theorem Bys.blk {w : World} {g t : Nat} {cs : Array Value} {l : List UInt8} {n : Nat} (h : Blk w g t cs) (e : cs = (cellsB l).toArray) (hn : l.length = n) : Bys w w.heap.size (some ⟨g, 0, none⟩) n l := ⟨hn, fun k b hk => by
  refine ⟨g, 0, rfl, h.lt, ?_⟩
  rw [Nat.zero_add, h.cell k, e]
  simp [cellsB_at, hk]⟩

/-- One more byte. -/
theorem Own8.more {w wr w' : World} {B n : Nat} {v v' : Value} {l m : List UInt8} {o : Obj} (hB : Below B w wr) (hBs : B ≤ wr.heap.size) (hO : Own8 wr B v l) (hown : w'.ownsRow B 5 1 v' (l.length + n) (cellsB (l ++ m))) (hm : m.length = n) (hgrow : (wr.alloc o).grownBy w' v.ownBlock) : Own8 w' B v' (l ++ m) ∧ Below B w w' := by
  refine ⟨?_, (hB.alloc hBs _).grown hgrow (by simp; omega) (fun k hk => (hO.lt k hk).1)⟩
  unfold Own8
  rw [List.length_append, hm]
  exact hown

theorem toNat_or (x : Nat) : (UInt8.ofNat (x % 128 + 128)).toNat = x % 128 + 128 := toNat_small (by omega)

end Go.Proofs.Ytipjcmkfgfcoiaa.By
