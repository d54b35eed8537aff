/- Contracts of the statements' helpers on rows of bytes: Plain, Own, Kept. -/
import Derived.Test.YtbicdmhmpmdoeaaHlA
import Derived.Test.YtbicdmhmpmdoeaaByC
import Derived.OwnWalk
import Derived.Laws.MakeOwn
import Derived.Deep.AppendLies
namespace Go.Proofs.Ytbicdmhmpmdoeaa.Hy
open Go.ChangeShapes Go.WideShapes Go.ChangeAt Go.RowKit
open Qu (Blk)
open Hl (eqB eqB_len eqB_no eqB_yes Drawn)
set_option linter.unusedVariables false

/-- A slice of n bytes, as numbers, below block M. -/
def Ints (w : World) (M : Nat) (A : Option Addr) (n : Nat) (f : Nat → Int) : Prop := ∀ k, k < n → ∃ b off, A = some ⟨b, off, none⟩ ∧ b < M ∧ w.cell? ⟨b, off + k, none⟩ = some (.int .u8 (f k))

theorem Ints.below {w w' : World} {M B n : Nat} {A : Option Addr} {f : Nat → Int} (h : Ints w M A n f) (hb : Below B w w') (hM : M ≤ B) : Ints w' M A n f := fun k hk => by
  obtain ⟨b, off, hA, hb1, hc⟩ := h k hk
  exact ⟨b, off, hA, hb1, (hb.cell (p := ⟨b, off + k, none⟩) (by show b < B; omega)).trans hc⟩

theorem Ints.more {w : World} {M M' n : Nat} {A : Option Addr} {f : Nat → Int} (h : Ints w M A n f) (hM : M ≤ M') : Ints w M' A n f := fun k hk => by
  obtain ⟨b, off, hA, hb1, hc⟩ := h k hk
  exact ⟨b, off, hA, by omega, hc⟩

theorem Ints.size {w : World} {M n : Nat} {A : Option Addr} {f : Nat → Int} (h : Ints w M A n f) : Ints w w.heap.size A n f := fun k hk => by
  obtain ⟨b, off, hA, hb1, hc⟩ := h k hk
  exact ⟨b, off, hA, World.block_lt_of_cell? w _ hc, hc⟩

theorem Ints.drewN {w : World} {M n : Nat} {A : Option Addr} {f : Nat → Int} (h : Ints w M A n f) (d : Nat) : Ints (w.drewN d) M A n f := h

theorem Ints.less {w : World} {M n m : Nat} {A : Option Addr} {f : Nat → Int} (h : Ints w M A n f) (hm : m ≤ n) : Ints w M A m f := fun k hk => h k (by omega)

theorem Ints.congr {w : World} {M n : Nat} {A : Option Addr} {f g : Nat → Int} (h : Ints w M A n f) (hfg : ∀ k, k < n → f k = g k) : Ints w M A n g := fun k hk => by
  obtain ⟨b, off, hA, hb1, hc⟩ := h k hk
  exact ⟨b, off, hA, hb1, by rw [hc, hfg k hk]⟩


/-- Bytes as numbers, and back. -/
theorem Ints.of {w : World} {M n : Nat} {A : Option Addr} {l : List UInt8} (h : By.Bys w M A n l) : Ints w M A n (By.at_ l) := fun k hk => h.at hk

theorem Ints.bys {w : World} {M n : Nat} {A : Option Addr} {l : List UInt8} (h : Ints w M A n (By.at_ l)) (hl : l.length = n) : By.Bys w M A n l := ⟨hl, fun k b hk => by
  have hkn : k < n := by have := (List.getElem?_eq_some_iff.1 hk).1; omega
  obtain ⟨g, o, hA, hg, hc⟩ := h k hkn
  exact ⟨g, o, hA, hg, by rw [hc, By.at_some hk]⟩⟩

theorem one_byte (x y : Int) (w : World) : Calls Try.prog 35 #[.int .u8 x, .int .u8 y] w fun e w' => e = .returned (.bool (x == y)) ∧ w' = w := by
  go_enter Try.func35, Try.ntmps35
  go_wp2
  go_ret
  exact ⟨rfl, rfl⟩

set_option maxHeartbeats 1000000 in
theorem same_byte (A C : Option Addr) (n m ca cc : Nat) (f g : Nat → Int) (M : Nat) (w : World) (ha : Ints w M A n f) (hc : Ints w M C m g) (hn : n ≤ maxLen) (hm : m ≤ maxLen) :
    Calls Try.prog 34 #[.slice A n ca, .slice C m cc, .func (.func 35) #[] #[]] w fun e w' => e = .returned (.bool (eqB n m f g)) ∧ Drawn w w' := by
  unfold maxLen at hn hm
  by_cases hnm : n = m
  · subst hnm
    have b0 : ((n : Int) != (n : Int)) = false := by simp
    go_enter Try.func34, Try.ntmps34
    go_wp2
    go_loopw [7] (fun s wr => ∃ k : Nat, s = .int .i64 k ∧ k ≤ n ∧ Drawn w wr ∧ ∀ j, j < k → f j = g j) (fun s _ => n - (intOf s).toNat)
    case atStart => exact ⟨0, rfl, by omega, ⟨0, rfl⟩, fun j hj => by omega⟩
    case round =>
      obtain ⟨k, rfl, hk, hD, hE⟩ := hrel
      have HE := Lib.hid hE
      clear hE
      by_cases hlt : k < n
      · obtain ⟨b, o, rfl, _, h1⟩ := ha k hlt
        obtain ⟨b', o', rfl, _, h2⟩ := hc k hlt
        have c1 : wr.cell? ⟨b, o + k, none⟩ = some (.int .u8 (f k)) := by obtain ⟨d, rfl⟩ := hD; exact h1
        have c2 : wr.cell? ⟨b', o' + k, none⟩ = some (.int .u8 (g k)) := by obtain ⟨d, rfl⟩ := hD; exact h2
        have HD := Lib.hid hD
        have k0 : (0 : Int) ≤ (k : Int) := by omega
        have k1 : (k : Int) < (n : Int) := by omega
        have HA := Lib.hid ha
        have HC := Lib.hid hc
        clear ha hc h1 h2 hD
        cases hB : (f k == g k) with
        | true =>
          have ho := fun W => one_byte (f k) (g k) W
          rw [hB] at ho
          have HO := Lib.hid ho
          have HB := Lib.hid hB
          clear ho hB
          go_wp2_with fail
          go_quiet ((go_at_call 35; exact Calls.quiet_of_same (HO.out _)))
          go_wp2
          go_roundw
          case rel => exact ⟨k + 1, by go_num, by omega, HD.out.more _, fun j hj => by
            rcases Nat.lt_or_ge j k with h | h
            · exact HE.out j h
            · have : j = k := by omega
              subst this; exact eq_of_beq HB.out⟩
          case measure => simp [intOf]; omega
        | false =>
          have hF := eqB_no (g := g) hlt (beq_eq_false_iff_ne.1 hB)
          have ho := fun W => one_byte (f k) (g k) W
          rw [hB] at ho
          have HO := Lib.hid ho
          have HF := Lib.hid hF
          clear ho hF hB
          go_wp2_with fail
          go_quiet ((go_at_call 35; exact Calls.quiet_of_same (HO.out _)))
          go_wp2
          go_ret
          exact ⟨by rw [HF.out]; rfl, HD.out.more _⟩
      · have hF := eqB_yes (n := n) (f := f) (g := g) (fun j hj => HE.out j (by omega))
        have HF := Lib.hid hF
        have k1 : ¬ (k : Int) < (n : Int) := by omega
        clear hF
        go_wp2
        go_ret
        exact ⟨by rw [HF.out]; rfl, hD⟩
  · have b0 : ((n : Int) != (m : Int)) = true := by rw [bne_iff_ne]; omega
    have HF := Lib.hid (eqB_len (f := f) (g := g) hnm)
    clear hnm
    go_enter Try.func34, Try.ntmps34
    go_wp2
    go_ret
    exact ⟨by rw [HF.out]; rfl, ⟨0, rfl⟩⟩

theorem plain_byte (A C : Option Addr) (n m ca cc : Nat) (f g : Nat → Int) (M : Nat) (w : World) (ha : Ints w M A n f) (hc : Ints w M C m g) (hn : n ≤ maxLen) (hm : m ≤ maxLen) :
    Calls Try.prog 28 #[.slice A n ca, .slice C m cc] w fun e w' => e = .returned (.bool (eqB n m f g)) ∧ Drawn w w' := by
  have HS := Lib.hid (same_byte A C n m ca cc f g M w ha hc hn hm)
  clear ha hc hn hm
  go_enter Try.func28, Try.ntmps28
  go_wp2_with fail
  refine HS.out.mono ?_
  rintro e w1 ⟨rfl, hD⟩
  have HD := Lib.hid hD
  clear hD
  go_wp2
  go_ret
  exact ⟨rfl, HD.out⟩

/-- A copy of n numbers, with three more behind them. -/
def Filled (w : World) (g n : Nat) (f : Nat → Int) (fill : Int) : Prop := ∀ k, k < n + 3 → w.cell? ⟨g, k, none⟩ = some (.int .u8 (if k < n then f k else fill))

theorem Filled.below {w w' : World} {B g n : Nat} {f : Nat → Int} {fill : Int} (h : Filled w g n f fill) (hb : Below B w w') (hg : g < B) : Filled w' g n f fill := fun k hk => (hb.cell (p := ⟨g, k, none⟩) hg).trans (h k hk)

theorem Filled.ints {w : World} {g n : Nat} {f : Nat → Int} {fill : Int} (h : Filled w g n f fill) : Ints w w.heap.size (some ⟨g, 0, none⟩) n f := fun k hk => by
  have := h k (by omega)
  rw [if_pos hk] at this
  exact ⟨g, 0, rfl, World.block_lt_of_cell? w _ this, by rw [Nat.zero_add]; exact this⟩

def Owned (e : Ending) (w w' : World) (n : Nat) (f : Nat → Int) (fill : Int) : Prop := ∃ g, e = .returned (.slice (some ⟨g, 0, none⟩) n (n + 3)) ∧ w.heap.size ≤ g ∧ Filled w' g n f fill ∧ Below w.heap.size w w'

/-- The row while it is filled: the first k are right. -/
structure Filling (w wr : World) (g n k : Nat) (f : Nat → Int) (fill : Int) : Prop where
  blk : ∃ cur : Array Value, Blk wr g 5 cur ∧ cur.size = n + 3 ∧ ∀ j, j < k → cur[j]? = some (.int .u8 (if j < n then f j else fill))
  low : w.heap.size ≤ g
  below : Below w.heap.size w wr

theorem Filling.step {w wr : World} {g n k : Nat} {f : Nat → Int} {fill : Int} (h : Filling w wr g n k f fill) (hk : n ≤ k) (hk2 : k < n + 3) : Filling w (wr.setCell ⟨g, k, none⟩ (.int .u8 fill)) g n (k + 1) f fill := by
  obtain ⟨⟨cur, hb, hs, hc⟩, hl, hw⟩ := h
  refine ⟨⟨cur.setIfInBounds k (.int .u8 fill), hb.put k _, by simpa using hs, fun j hj => ?_⟩, hl, hw.setCell hl _⟩
  by_cases e : j = k
  · subst e
    have hj2 : j < cur.size := by omega
    rw [if_neg (by omega)]
    simp [hj2]
  · rw [Array.getElem?_setIfInBounds_ne (Ne.symm e)]
    exact hc j (by omega)

set_option maxHeartbeats 1000000 in
theorem own_byte (A : Option Addr) (n c : Nat) (f : Nat → Int) (fill : Int) (w : World) (ha : Ints w w.heap.size A n f) (hA : A = none → n = 0 ∧ c = 0) (hn : n ≤ 900000000) :
    Calls Try.prog 11 #[.slice A n c, .int .u8 fill] w fun e w' => Owned e w w' n f fill := by
  obtain ⟨i0, hi0, hz0, hz1, hz2⟩ := info_parts By.info_u8
  have n1 : (n : Int) ≤ 900000000 := by omega
  have hmk : ∀ W : World, (Instr.makeSlice 23 (.int .i64 0) (.int .i64 ((n : Int) + 3))).run Try.prog W = .ok (.slice (some ⟨W.heap.size, 0, none⟩) 0 (n + 3)) (W.alloc (.cells (madeCells #[.int .u8 0] (n + 3)) 5)) := fun W => by
    have hr := run_make (P := Try.prog) W 23 5 i0 _ Try.underlying23 hi0 hz0 .i64 .i64 0 ((n : Int) + 3) (by omega) (by omega) (by rw [hz2]; omega) (by omega)
    rw [hz1, Nat.mul_one] at hr
    have e : ((n : Int) + 3).toNat = n + 3 := by omega
    rw [e] at hr
    exact hr
  have hown0 : ∀ W : World, w.heap.size ≤ W.heap.size → (W.alloc (.cells (madeCells #[.int .u8 0] (n + 3)) 5)).ownsRow w.heap.size 5 1 (.slice (some ⟨W.heap.size, 0, none⟩) 0 (n + 3)) 0 [] := fun W hW => World.ownsRow_made W _ (n + 3) hW (by unfold maxLen; omega) (by simp [size_madeCells])
  have HOW := Lib.hid (hown0 w (Nat.le_refl _))
  have HN := Lib.hid hA
  have HC : Hid (∀ ad, A = some ad → ∀ j u, ((List.range n).map fun k => Value.int .u8 (f k))[j]? = some u → (w.alloc (.cells (madeCells #[.int .u8 0] (n + 3)) 5)).cell? (ad.add j) = some u) := Lib.hid (fun ad had j u hu => by
    have hj : j < n := by
      have := (List.getElem?_eq_some_iff.1 hu).1
      simpa using this
    obtain ⟨b, o, hbo, hbm, hcell⟩ := ha j hj
    rw [had] at hbo
    injection hbo with hbo
    subst hbo
    have hu2 : u = .int .u8 (f j) := by
      rw [List.getElem?_map, List.getElem?_range hj] at hu
      simpa using hu.symm
    rw [hu2, Go.WideShapes.add_plain]
    rw [World.cell?_alloc_lt _ _ _ hbm]
    exact hcell)
  clear hown0 hA ha
  go_enter Try.func11, Try.ntmps11
  go_wp2_with ((at_builtin; refine wpList_append_fits_any _ rfl _ _ 23 rfl w.heap.size 5 i0 1 Try.underlying23 hi0 hz1 w.heap.size 0 (n + 3) [] rfl HOW.out A n c ((List.range n).map fun k => Value.int .u8 (f k)) rfl (by simp) HN.out HC.out (by simp [Value.oneCell']) (by omega) ?_; intro w4 hown hgrow))
  have HF0 : Hid (Filling w w4 w.heap.size n n f fill) := Lib.hid (by
    simp only [Nat.zero_add, List.nil_append] at hown
    refine ⟨?_, Nat.le_refl _, ((Below.refl _ _).alloc (Nat.le_refl _) _).grown hgrow (by simp) (fun j hj => by injection hj with hj; omega)⟩
    rcases hown.2 with ⟨h0, _⟩ | ⟨g, cp, cur, hv, _, hh, _, _, hsz, htk⟩
    · cases h0
    · cases hv
      refine ⟨cur, ⟨hh⟩, by simpa using hsz, fun j hj => ?_⟩
      have e := congrArg (fun l : List Value => l[j]?) htk
      simp only [Nat.mul_one, List.getElem?_take, if_pos hj, List.getElem?_map, List.getElem?_range hj] at e
      rw [if_pos hj, ← Array.getElem?_toList]
      exact e)
  clear hown hgrow
  go_loopw [7] (fun s wr => ∃ k : Nat, s = .int .i64 k ∧ n ≤ k ∧ k ≤ n + 3 ∧ Filling w wr w.heap.size n k f fill) (fun s _ => n + 3 - (intOf s).toNat)
  case atStart => exact ⟨n, rfl, Nat.le_refl _, by omega, HF0.out⟩
  case round =>
    clear HF0
    obtain ⟨k, rfl, hk, hk3, hF⟩ := hrel
    have k0 : (0 : Int) ≤ (k : Int) := by omega
    have kk : (k : Int) ≤ 900000003 := by omega
    by_cases hlt : k < n + 3
    · have k1 : (k : Int) < (n : Int) + 3 := by omega
      have HS := Lib.hid (hF.step hk hlt)
      obtain ⟨cur, hb, hs, _⟩ := hF.blk
      have c1 := hb.cell k
      have c2 := hb.frozen k
      have hck : k < cur.size := by omega
      rw [Array.getElem?_eq_getElem hck] at c1
      clear hF hb hs
      go_wp2
      go_roundw
      case rel => exact ⟨k + 1, by go_num, by omega, by omega, HS.out⟩
      case measure => simp [intOf]; omega
    · have k1 : ¬ (k : Int) < (n : Int) + 3 := by omega
      have hkn : k = n + 3 := by omega
      have HO : Hid (Owned (.returned (.slice (some ⟨w.heap.size, 0, none⟩) n (n + 3))) w wr n f fill) := Lib.hid (by
        obtain ⟨cur, hb, hs, hc⟩ := hF.blk
        exact ⟨w.heap.size, rfl, Nat.le_refl _, fun j hj => by rw [hb.cell j]; exact hc j (by omega), hF.below⟩)
      clear hF hkn
      go_wp2
      go_ret
      exact HO.out

set_option maxHeartbeats 1000000 in
theorem kept_byte (A : Option Addr) (g n c : Nat) (f : Nat → Int) (fill : Int) (w : World) (hg : Filled w g n f fill) (ha : Ints w w.heap.size A n f) (hn : n ≤ 900000000) :
    Calls Try.prog 14 #[.slice (some ⟨g, 0, none⟩) n (n + 3), .slice A n c, .int .u8 fill] w fun e w' => e = .returned (.bool true) ∧ Drawn w w' := by
  have n1 : (n : Int) ≤ 900000000 := by omega
  have HP := Lib.hid (plain_byte (some ⟨g, 0, none⟩) A n n (n + 3) c f f w.heap.size w hg.ints ha (by unfold maxLen; omega) (by unfold maxLen; omega))
  rw [eqB_yes (fun k hk => rfl)] at HP
  have HG := Lib.hid hg
  clear hg ha
  go_enter Try.func14, Try.ntmps14
  go_wp2_with fail
  refine HP.out.mono ?_
  rintro e w1 ⟨rfl, hD⟩
  go_wp2
  go_loopw [8] (fun s wr => ∃ k : Nat, s = .int .i64 k ∧ n ≤ k ∧ k ≤ n + 3 ∧ Drawn w wr) (fun s _ => n + 3 - (intOf s).toNat)
  case atStart => exact ⟨n, rfl, Nat.le_refl _, by omega, hD⟩
  case round =>
    clear hD
    obtain ⟨k, rfl, hk, hk3, hD⟩ := hrel
    have k0 : (0 : Int) ≤ (k : Int) := by omega
    have kk : (k : Int) ≤ 900000003 := by omega
    by_cases hlt : k < n + 3
    · have k1 : (k : Int) < (n : Int) + 3 := by omega
      have c1 : wr.cell? ⟨g, k, none⟩ = some (.int .u8 fill) := by
        have := HG.out k hlt
        rw [if_neg (by omega)] at this
        obtain ⟨d, rfl⟩ := hD
        exact this
      have HD := Lib.hid hD
      clear hD
      go_wp2
      go_roundw
      case rel => exact ⟨k + 1, by go_num, by omega, by omega, HD.out⟩
      case measure => simp [intOf]; omega
    · have k1 : ¬ (k : Int) < (n : Int) + 3 := by omega
      go_wp2
      go_ret
      exact ⟨rfl, hD⟩

end Go.Proofs.Ytbicdmhmpmdoeaa.Hy
