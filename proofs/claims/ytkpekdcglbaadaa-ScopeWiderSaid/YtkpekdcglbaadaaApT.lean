/- What the program says of slices of numbers, texts, and lists of numbers. -/
import Derived.Test.YtkpekdcglbaadaaKdC
set_option maxRecDepth 100000

set_option linter.unusedVariables false
namespace Go.Proofs.Ytkpekdcglbaadaa.Ap
open Go.ChangeShapes Go.WideShapes Go.ChangeAt Go.RowKit
open Kd (Kind RowT kInt kStr kFlag kList)

theorem int_t : RowT Try.prog kInt 57 3 (.int .i64 0) 1 8 :=
  ⟨Try.underlying57, by kernel_rfl, rfl, rfl, by omega, fun h => by
    obtain ⟨rfl, _⟩ := h
    intro u hu
    simp only [List.mem_cons, List.not_mem_nil, or_false] at hu
    subst hu; rfl⟩

theorem str_t : RowT Try.prog kStr 22 9 (.string ⟨#[]⟩) 1 16 :=
  ⟨Try.underlying22, by kernel_rfl, rfl, rfl, by omega, fun h => by
    obtain ⟨rfl, _⟩ := h
    intro u hu
    simp only [List.mem_cons, List.not_mem_nil, or_false] at hu
    subst hu; rfl⟩

theorem ints_t : RowT Try.prog (kList kInt) 39 57 (.slice none 0 0) 1 24 :=
  ⟨Try.underlying39, by kernel_rfl, rfl, rfl, by omega, fun h => by
    obtain ⟨A, n, c, rfl, _⟩ := h
    intro u hu
    simp only [List.mem_cons, List.not_mem_nil, or_false] at hu
    subst hu; rfl⟩

end Go.Proofs.Ytkpekdcglbaadaa.Ap
