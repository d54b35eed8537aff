/- Law 09: the steps that come in. -/
import Derived.Test.YtedgookkogpfbaaJlT
set_option maxRecDepth 100000
namespace Go.Proofs.Ytedgookkogpfbaa.Vq
open Go.ChangeShapes Go.WideShapes Go.ChangeAt Go.RowKit
open Qu (Blk)
open Mv (Only Fresh)
open By (Own8 Bys cellsB cellsB_length)
set_option linter.unusedVariables false

structure Opr where
  kind : Int
  n : Int
  b : List UInt8
  Ab : Option Addr
  cb : Nat
  Ak : Option Addr
  kn : Nat
  ck : Nat
  kf : Nat → Int

instance : Inhabited Opr := ⟨⟨0, 0, [], none, 0, none, 0, 0, fun _ => 0⟩⟩

def Opr.cells (s : Opr) : Array Value := #[.int .i64 s.kind, .int .i64 s.n, .slice s.Ab s.b.length s.cb, .slice s.Ak s.kn s.ck]

structure OprOk (w : World) (s : Opr) : Prop where
  k1 : -9223372036854775808 ≤ s.kind
  k2 : s.kind ≤ 9223372036854775807
  n1 : -9223372036854775808 ≤ s.n
  n2 : s.n ≤ 9223372036854775807
  bys : Bys w w.heap.size s.Ab s.b.length s.b
  none : s.Ab = none → s.b.length = 0 ∧ s.cb = 0
  bc : s.b.length ≤ s.cb
  cb : s.cb ≤ 9223372036854775807
  keep : Hl.Ints w w.heap.size s.Ak s.kn s.kf
  kfs : ∀ k, k < s.kn → -9223372036854775808 ≤ s.kf k ∧ s.kf k ≤ 9223372036854775807
  kn1 : s.kn ≤ 9223372036854775807

def Oprs (w : World) (A : Option Addr) (n : Nat) (o : Nat → Opr) : Prop := ∀ k, k < n → ∃ b off, A = some ⟨b, off, none⟩ ∧ b < w.heap.size ∧ (∀ j, j < 4 → w.cell? ⟨b, off + k * 4 + j, none⟩ = (o k).cells[j]?) ∧ OprOk w (o k)

theorem open_oprs {H : Type} {enc : TypeId × Value → H} {base b0 : Nat} {w : World} {spare : Nat → Bool} {held : Bool} {v : Value} {d : DataW H} {ps : List MemPlace} {r : Reach}
    (hval : Value.okWide Try.prog w r b0 22 v) (hd : DataW.Trod enc Try.prog w base spare held 22 v d ps) :
    ∃ A n c o, v = .slice A n c ∧ Oprs w A n o ∧ n ≤ 9223372036854775807 := by
  have hc : Try.prog.cellsOf 40 = 4 := by kernel_rfl
  obtain ⟨A, n, c, rfl, hn, _, _, hz, hel⟩ := Hk.open_any_slice Try.underlying22 (by rw [hc]; omega) hval hd
  obtain ⟨o, ho⟩ := Go.Deep.choose_lt (α := Opr) (n := n) (p := fun k s => ∃ b off, A = some ⟨b, off, none⟩ ∧ b < w.heap.size ∧ (∀ j, j < 4 → w.cell? ⟨b, off + k * 4 + j, none⟩ = s.cells[j]?) ∧ OprOk w s) (fun k hk => by
    obtain ⟨b, off, hA, hb, hl⟩ := hel k hk
    rw [hc] at hl
    obtain ⟨z0, h0, hz0⟩ := (hl.field Try.underlying40 0 _ rfl (of_decide_eq_true (by kernel_rfl))).int64 Try.underlying3 (by kernel_rfl)
    obtain ⟨z1, h1, hz1⟩ := (hl.field Try.underlying40 1 _ rfl (of_decide_eq_true (by kernel_rfl))).int64 Try.underlying3 (by kernel_rfl)
    obtain ⟨A2, n2, c2, l2, h2, hy2, hn2, hc2, hz2⟩ := (hl.field Try.underlying40 2 _ rfl (of_decide_eq_true (by kernel_rfl))).bytes Try.underlying37 Try.underlying5 (by kernel_rfl) (by kernel_rfl)
    obtain ⟨A3, n3, c3, f3, h3, hi3, hn3, hb3, hz3⟩ := (hl.field Try.underlying40 3 _ rfl (of_decide_eq_true (by kernel_rfl))).ints Try.underlying38 Try.underlying3 (by kernel_rfl) (by kernel_rfl)
    obtain rfl := hy2.len
    refine ⟨⟨z0, z1, l2, A2, c2, A3, n3, c3, f3⟩, b, off, hA, hb, fun j hj => ?_, ⟨hz0.1, hz0.2, hz1.1, hz1.2, hy2, hz2, hn2, hc2, hi3, hb3, hn3⟩⟩
    match j, hj with
    | 0, _ => exact h0
    | 1, _ => exact h1
    | 2, _ => exact h2
    | 3, _ => exact h3)
  exact ⟨A, n, c, o, rfl, ho, hn⟩

end Go.Proofs.Ytedgookkogpfbaa.Vq
