/- The statements' names: texts of one byte. -/
import Derived.Test.YtdmpnkhgcggepaaPyA
set_option maxRecDepth 100000

set_option linter.unusedVariables false
namespace Go.Proofs.Ytdmpnkhgcggepaa.Py
open Go.ChangeShapes Go.WideShapes Go.ChangeAt Go.RowKit

theorem chr_list (c : Nat) : (chr c).toList = [UInt8.ofNat c] := by unfold chr; exact By.strOf_list _

theorem chr_data (c : Nat) : (chr c).data.toList = [UInt8.ofNat c] := by rw [← ByteArray.toList_eq]; exact chr_list c

theorem chr_size (c : Nat) : (chr c).size = 1 := by unfold chr; rw [By.strOf_size]; rfl

theorem chr_lt {a b : Nat} (h : a < b) (hb : b < 256) : Sr.lt (chr a) (chr b) = true := by
  unfold Sr.lt
  rw [chr_list, chr_list]
  have h1 : UInt8.ofNat a < UInt8.ofNat b := by
    rw [UInt8.lt_iff_toNat_lt, By.toNat_small (by omega), By.toNat_small hb]; exact h
  simp [Op.bytesLess, h1]

theorem chr_name {a : Nat} (h : Sr.plain (a : Int) = true) (ha : a < 256) : Sr.name (chr a) = true := by
  unfold Sr.name Sr.nameL
  rw [chr_data]
  simp [By.toNat_small ha, h]

theorem sku_name {k : Nat} (h : k < 26) : Sr.name (skuS k) = true := chr_name (by unfold Sr.plain; simp; omega) (by omega)

theorem cat_name {k : Nat} (h : k < 3) : Sr.name (catS k) = true := chr_name (by unfold Sr.plain; simp; omega) (by omega)

theorem take_more {α : Type} {l : List α} {k : Nat} {x : α} (h : l[k]? = some x) : l.take (k + 1) = l.take k ++ [x] := by
  rw [List.take_add_one, h]; rfl

end Go.Proofs.Ytdmpnkhgcggepaa.Py
