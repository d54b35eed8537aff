/- Contracts of container/heap over a queue's line. -/
import Derived.Test.YtmnbamfemcgloaaQuB
import Derived.LoopTactic
import Derived.Deep.LoopGhost
import Derived.Deep.DeepCutAuto
import Derived.Deep.RegionWith
namespace Go.Proofs.Ytmnbamfemcgloaa.Qu
open Go.ChangeShapes Go.WideShapes Go.ChangeAt Go.RowKit
set_option linter.unusedVariables false

theorem method_parts {P : Program} {t : TypeId} {name : String} {f : FuncId} {ptr : Bool}
    (h : ((P.info? t).map fun i => (i.methods.find? (·.name == name)).map fun m => (m.path.toList, m.func)) = some (some ([], some (f, ptr)))) :
    ∃ i m, P.info? t = some i ∧ i.methods.find? (·.name == name) = some m ∧ m.path = #[] ∧ m.func = some (f, ptr) := by
  cases hi : P.info? t with
  | none => rw [hi] at h; cases h
  | some i =>
    rw [hi] at h
    cases hm : i.methods.find? (·.name == name) with
    | none => simp [hm] at h
    | some m =>
      simp [hm] at h
      exact ⟨i, m, rfl, hm, h.1, h.2⟩

theorem run_wrapNil {P : Program} {t : TypeId} {a : Addr} (x y : ByteArray) (w : World) : (Builtin.ssaWrapNilChk_ #[t] t #[.pointer (some a), .string x, .string y]).run P w = .ok (.pointer (some a)) w := rfl

theorem method_val {P : Program} {t e : TypeId} {name : String} {f : FuncId} (fuel q : Nat) (A : Option Addr) (n cap : Nat) (w : World) (ht : P.underlying t = some (.pointer e))
    (h : ((P.info? t).map fun i => (i.methods.find? (·.name == name)).map fun m => (m.path.toList, m.func)) = some (some ([], some (f, false))))
    (hl : (loadVar e ⟨q, 0, none⟩).run P w = .ok (.slice A n cap) w) :
    (method (fuel + 1) t (.pointer (some ⟨q, 0, none⟩)) name).run P w = .ok (f, .slice A n cap) w := by
  obtain ⟨i, m, hi, hm, hp, hf⟩ := method_parts h
  simp [method, typeInfo, hi, hm, hp, hf, follow, receiverAt, run_underlying ht, Place.get, strVal, run_wrapNil, asAddr, hl]

theorem method_ptr {P : Program} {t e : TypeId} {name : String} {f : FuncId} (fuel q : Nat) (w : World) (ht : P.underlying t = some (.pointer e))
    (h : ((P.info? t).map fun i => (i.methods.find? (·.name == name)).map fun m => (m.path.toList, m.func)) = some (some ([], some (f, true)))) :
    (method (fuel + 1) t (.pointer (some ⟨q, 0, none⟩)) name).run P w = .ok (f, .pointer (some ⟨q, 0, none⟩)) w := by
  obtain ⟨i, m, hi, hm, hp, hf⟩ := method_parts h
  simp [method, typeInfo, hi, hm, hp, hf, follow, receiverAt, run_underlying ht, Place.get]

theorem load_line (q : Nat) (A : Option Addr) (n cap : Nat) (w : World) (h : w.cell? ⟨q, 0, none⟩ = some (.slice A n cap)) : (loadVar 72 ⟨q, 0, none⟩).run Try.prog w = .ok (.slice A n cap) w := by
  have hu := Try.underlying72
  go_simp

theorem method_less (q : Nat) (A : Option Addr) (n cap : Nat) (w : World) (h : w.cell? ⟨q, 0, none⟩ = some (.slice A n cap)) :
    (method 212 79 (.pointer (some ⟨q, 0, none⟩)) "Less").run Try.prog w = .ok (72, .slice A n cap) w :=
  method_val _ q A n cap w Try.underlying79 (by kernel_rfl) (load_line q A n cap w h)
theorem method_swap (q : Nat) (A : Option Addr) (n cap : Nat) (w : World) (h : w.cell? ⟨q, 0, none⟩ = some (.slice A n cap)) :
    (method 212 79 (.pointer (some ⟨q, 0, none⟩)) "Swap").run Try.prog w = .ok (73, .slice A n cap) w :=
  method_val _ q A n cap w Try.underlying79 (by kernel_rfl) (load_line q A n cap w h)
theorem method_len (q : Nat) (A : Option Addr) (n cap : Nat) (w : World) (h : w.cell? ⟨q, 0, none⟩ = some (.slice A n cap)) :
    (method 212 79 (.pointer (some ⟨q, 0, none⟩)) "Len").run Try.prog w = .ok (71, .slice A n cap) w :=
  method_val _ q A n cap w Try.underlying79 (by kernel_rfl) (load_line q A n cap w h)
theorem method_push (q : Nat) (w : World) :
    (method 212 79 (.pointer (some ⟨q, 0, none⟩)) "Push").run Try.prog w = .ok (76, .pointer (some ⟨q, 0, none⟩)) w :=
  method_ptr _ q w Try.underlying79 (by kernel_rfl)
theorem method_pop (q : Nat) (w : World) :
    (method 212 79 (.pointer (some ⟨q, 0, none⟩)) "Pop").run Try.prog w = .ok (75, .pointer (some ⟨q, 0, none⟩)) w :=
  method_ptr _ q w Try.underlying79 (by kernel_rfl)

end Go.Proofs.Ytmnbamfemcgloaa.Qu
