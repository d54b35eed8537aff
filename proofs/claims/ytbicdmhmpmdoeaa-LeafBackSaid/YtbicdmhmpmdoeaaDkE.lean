/- Two sectors held against each other. -/
import Derived.Test.YtbicdmhmpmdoeaaDkA
import Derived.Laws.StructEq
import Derived.ChangeKeysEq
namespace Go.Proofs.Ytbicdmhmpmdoeaa.Dk
open Go.ChangeShapes Go.WideShapes Go.ChangeAt Go.RowKit
open Qu (Blk)
open Mv (Only)
open By (cellsB cellsB_length cellsB_at)
open Se (noughts noughts_len)
set_option linter.unusedVariables false

theorem part_byte (s : List UInt8) (k : Nat) (b : UInt8) (hk : s[k]? = some b) (w : World) : (part 5 (secCells s) (k * 1)).run Try.prog w = .ok (.int .u8 (b.toNat : Int)) w := by
  have h1 : (secCells s)[k]? = some (.int .u8 (b.toNat : Int)) := by rw [secCells_at, hk]; rfl
  have ha : (isAgg 5).run Try.prog w = .ok false w := by kernel_rfl
  unfold part
  simp [Sem.run_bind, ha, h1]

theorem eq_byte (d : Nat) (a b : UInt8) (w : World) : (Op.equalIn (d + 1) 5 (.int .u8 (a.toNat : Int)) (.int .u8 (b.toNat : Int))).run Try.prog w = .ok (a == b) w := by
  rw [run_equalIn_int (P := Try.prog) w d 5 .u8 .u8 _ _ Try.underlying5]
  congr 1
  rw [Bool.eq_iff_iff]
  simp only [beq_iff_eq]
  constructor
  · intro h
    apply UInt8.toNat_inj.1
    omega
  · intro h
    rw [h]

theorem eq_items (s t : List UInt8) (hs : s.length = 64) (ht : t.length = 64) (w : World) : ∀ (n k : Nat), k + n = 64 →
    (Op.eqItems 9999 5 1 (secCells s) (secCells t) (List.range' k n)).run Try.prog w = .ok (s.drop k == t.drop k) w
  | 0, k, h => by
    rw [List.drop_eq_nil_of_le (by omega), List.drop_eq_nil_of_le (by omega)]
    simp [Op.eqItems]
  | n + 1, k, h => by
    have hk : k < s.length := by omega
    have hk2 : k < t.length := by omega
    rw [List.range'_succ, List.drop_eq_getElem_cons hk, List.drop_eq_getElem_cons hk2]
    simp only [Op.eqItems, Sem.run_bind, part_byte s k _ (List.getElem?_eq_getElem hk), part_byte t k _ (List.getElem?_eq_getElem hk2), Result.andThen_ok, eq_byte 9998]
    cases he : (s[k] == t[k]) with
    | false =>
      have : (s[k] :: s.drop (k + 1) == t[k] :: t.drop (k + 1)) = false := by
        rw [List.cons_beq_cons, he]; rfl
      rw [this]
      simp
    | true =>
      have : (s[k] :: s.drop (k + 1) == t[k] :: t.drop (k + 1)) = (s.drop (k + 1) == t.drop (k + 1)) := by
        rw [List.cons_beq_cons, he]; rfl
      rw [this]
      simpa using eq_items s t hs ht w n (k + 1) (by omega)

theorem eq_sector (s t : List UInt8) (hs : s.length = 64) (ht : t.length = 64) (w : World) : (Op.equalIn 10000 29 (.agg (secCells s)) (.agg (secCells t))).run Try.prog w = .ok (s == t) w := by
  obtain ⟨i0, hi0, _⟩ := info_parts (show (Try.prog.info? 5).map (fun i => (i.zero, i.size, i.bytes)) = some (some (.int .u8 0), 1, 1) by kernel_rfl)
  have h := run_equalIn_array (P := Try.prog) w 9999 (secCells s) (secCells t) Try.underlying29 hi0
  have hc : Try.prog.cellsOf 5 = 1 := by kernel_rfl
  rw [hc, List.range_eq_range'] at h
  rw [h, eq_items s t hs ht w 64 0 rfl, List.drop_zero, List.drop_zero]

/-- As the walk meets it. -/
theorem neq_sector (s t : List UInt8) (hs : s.length = 64) (ht : t.length = 64) (w : World) : (binOp .neq 29 (.agg (secCells s)) (.agg (secCells t))).run Try.prog w = .ok (.bool (!(s == t))) w := by
  rw [run_neq_struct, eq_sector s t hs ht w]
  rfl

theorem eql_sector (s t : List UInt8) (hs : s.length = 64) (ht : t.length = 64) (w : World) : (binOp .eql 29 (.agg (secCells s)) (.agg (secCells t))).run Try.prog w = .ok (.bool (s == t)) w := by
  rw [run_eql_struct, eq_sector s t hs ht w]
  rfl

end Go.Proofs.Ytbicdmhmpmdoeaa.Dk
