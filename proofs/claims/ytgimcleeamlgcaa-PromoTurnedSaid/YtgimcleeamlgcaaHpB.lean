/- The statements' helps Own, Kept of lists of texts. -/
import Derived.Test.YtgimcleeamlgcaaHpA
set_option maxRecDepth 100000

set_option linter.unusedVariables false
namespace Go.Proofs.Ytgimcleeamlgcaa.Hp
open Go.ChangeShapes Go.WideShapes Go.ChangeAt Go.RowKit
open Kd (Kind Row Own Cells Fit Agree Lst Sl kInt kStr kFlag kList Filling Owned eqL eqL_len eqL_no eqL_yes eqL_refl eqL_iff Two rows_get row_str row_int row_list)

theorem str_info : (Try.prog.info? 9).map (fun i => (i.zero, i.size, i.bytes)) = some (some (.string ⟨#[]⟩), 1, 16) := by kernel_rfl

theorem str_cells_one {w : World} {F : Nat → Prop} : ∀ {xs : List ByteArray} {cs : List Value}, Cells kStr w F xs cs → ∀ u ∈ cs, u.oneCell' = true
  | [], _, h, u, hu => by cases h; cases hu
  | x :: xs, _, ⟨a, b, rfl, ha, hb⟩, u, hu => by
    rcases List.mem_append.1 hu with h1 | h1
    · obtain ⟨rfl, _⟩ := ha
      simp only [List.mem_cons, List.not_mem_nil, or_false] at h1
      subst h1; rfl
    · exact str_cells_one hb u h1

theorem str_fill_cells {w : World} {F : Nat → Prop} {x : ByteArray} (hx : x.size ≤ maxLen) : Cells kStr w F [x, x, x] [.string x, .string x, .string x] :=
  ⟨[.string x], _, rfl, ⟨rfl, hx⟩, [.string x], _, rfl, ⟨rfl, hx⟩, [.string x], _, rfl, ⟨rfl, hx⟩, rfl⟩

set_option maxHeartbeats 1000000 in
theorem own_str (A : Option Addr) (n c : Nat) (xs : List ByteArray) (f : ByteArray) (w : World) (h : Row kStr w (· < w.heap.size) A n xs) (hfit : Fit A n c) (hf : f.size ≤ maxLen) (hn : n ≤ 1000000000) :
    Calls Try.prog 16 #[.slice A n c, .string f] w fun e w' => Owned kStr e w w' n xs f := by
  obtain ⟨i0, hi0, hz0, hz1, hz2⟩ := info_parts str_info
  obtain ⟨M, hM1, hM2, hM3⟩ := Kd.made_row (P := Try.prog) Try.underlying22 str_info n (by omega) (by omega)
  have HOW := Lib.hid (hM3 w w.heap.size (by omega))
  have hb2 : Below w.heap.size w (w.alloc (.cells M 9)) := (Below.refl _ _).alloc (by omega) _
  obtain ⟨news, hnl, hnc, hna⟩ := Kd.news_of h hb2
  have HN := Lib.hid (And.intro hnl (And.intro hnc (And.intro hna (And.intro hfit.1 (str_cells_one hnc)))))
  obtain ⟨L, hL⟩ : ∃ L, news ++ [Value.string f, .string f, .string f] = L := ⟨_, rfl⟩
  have HL := Lib.hid hL
  have HW : Hid (∀ w4, (w4.ownsRow w.heap.size 9 1 (.slice (some ⟨w.heap.size, 0, none⟩) n (n + 3)) n news) → (w.alloc (.cells M 9)).grownBy w4 (some w.heap.size) → Filling w w4 w.heap.size 9 ((n + 3) * 1) (n * 1) L) := Lib.hid (fun w4 ho hg => Filling.begin ho rfl (fun j v hj => by rw [← HL.out, List.getElem?_append_left (List.getElem?_eq_some_iff.1 hj).1]; exact hj) (hb2.grown hg (by simp) (fun k hk => by injection hk with hk; omega)))
  have HLs : Hid (∀ k, n ≤ k → k < n + 3 → ∀ (j : Nat) (v : Value), [Value.string f][j]? = some v → L[k * 1 + j]? = some v) := Lib.hid (fun k hk hk3 j v hj => by
    have hj4 := (List.getElem?_eq_some_iff.1 hj).1
    obtain rfl : j = 0 := by simpa using hj4
    have hnl4 : news.length = n * 1 := hnl
    rw [← HL.out, List.getElem?_append_right (by omega)]
    obtain h | h | h : k = n ∨ k = n + 1 ∨ k = n + 2 := by omega
    · rw [show k * 1 + 0 - news.length = 0 by omega]; exact hj
    · rw [show k * 1 + 0 - news.length = 1 by omega]; exact hj
    · rw [show k * 1 + 0 - news.length = 2 by omega]; exact hj)
  have HE : Hid (∀ wr, Filling w wr w.heap.size 9 ((n + 3) * 1) ((n + 3) * 1) L → Owned kStr (.returned (.slice (some ⟨w.heap.size, 0, none⟩) n (n + 3))) w wr n xs f) := Lib.hid (fun wr hfl => by
    obtain ⟨cur, hbk, _, _⟩ := hfl.blk
    refine ⟨w.heap.size, rfl, by omega, hbk.lt, ?_, hfl.below⟩
    refine Filling.row (K := kStr) (n := n + 3) hfl (by rw [List.length_append, h.len]; rfl) ?_ hbk.lt
    rw [← HL.out]
    have h1 : Cells kStr wr (· < w.heap.size) xs news := hnc.stay (Agree.below hfl.below (Nat.le_refl _))
    exact (h1.more fun b hb => Nat.lt_of_lt_of_le hb hfl.below.size).append (str_fill_cells hf))
  have n1 : (n : Int) ≤ 1000000000 := by omega
  clear h hfit hf hnl hnc hna hL hb2 hM3 hM1
  go_enter Try.func16, Try.ntmps16
  go_wp2_with ((at_builtin; refine wpList_append_fits_any _ rfl _ _ 22 rfl w.heap.size 9 i0 1 Try.underlying22 hi0 hz1 w.heap.size 0 (n + 3) [] rfl HOW.out A n c news rfl HN.out.1 HN.out.2.2.2.1 HN.out.2.2.1 HN.out.2.2.2.2 (by omega) ?_; intro w4 hown hgrow))
  simp only [Nat.zero_add, List.nil_append] at hown
  have HF0 := Lib.hid (HW.out w4 hown hgrow)
  clear hown hgrow
  go_loopw [7] (fun s wr => ∃ k : Nat, s = .int .i64 k ∧ n ≤ k ∧ k ≤ n + 3 ∧ Hid (Filling w wr w.heap.size 9 ((n + 3) * 1) (k * 1) L)) (fun s _ => n + 3 - (intOf s).toNat)
  case atStart => exact ⟨n, rfl, Nat.le_refl _, by omega, HF0⟩
  case round =>
    clear HF0
    obtain ⟨k, rfl, hk, hk3, hF⟩ := hrel
    have k0 : (0 : Int) ≤ (k : Int) := by omega
    have kk : (k : Int) ≤ 1000000003 := by omega
    by_cases hlt : k < n + 3
    · have k1 : (k : Int) < (n : Int) + 3 := by omega
      have HS : Hid (Filling w (wr.setCells w.heap.size (k * 1) [Value.string f]) w.heap.size 9 ((n + 3) * 1) ((k + 1) * 1) L) := Lib.hid (by
        have h1 := hF.out.step (vs := [Value.string f]) (HLs.out k hk hlt) (by show k * 1 + 1 ≤ _; omega)
        have e : k * 1 + [Value.string f].length = (k + 1) * 1 := by show k * 1 + 1 = _; omega
        rw [e] at h1
        exact h1)
      obtain ⟨⟨v0, t0⟩, f0⟩ := hF.out.there (j := k) (by omega)
      rw [show k * 1 = k by omega] at HS
      change Hid (Filling w (wr.setCell ⟨w.heap.size, k, none⟩ (.string f)) w.heap.size 9 ((n + 3) * 1) ((k + 1) * 1) L) at HS
      clear hF
      go_wp2
      go_roundw
      case rel => exact ⟨k + 1, by go_num, by omega, by omega, HS⟩
      case measure => simp [intOf]; omega
    · have k1 : ¬ (k : Int) < (n : Int) + 3 := by omega
      obtain rfl : k = n + 3 := by omega
      have HO := Lib.hid (HE.out _ hF.out)
      clear hF
      go_wp2
      go_ret
      exact HO.out

theorem str_behind {xs : List ByteArray} {f : ByteArray} {n k : Nat} (hx : xs.length = n) (hk : n ≤ k) (hk3 : k < n + 3) : (xs ++ [f, f, f])[k]? = some f := by
  rw [List.getElem?_append_right (by omega), hx]
  obtain h | h | h : k = n ∨ k = n + 1 ∨ k = n + 2 := by omega
  · rw [show k - n = 0 by omega]; rfl
  · rw [show k - n = 1 by omega]; rfl
  · rw [show k - n = 2 by omega]; rfl

set_option maxHeartbeats 1000000 in
/-- A copy, with three more behind it, and what it was made of, are as they were. -/
theorem kept_str (A C : Option Addr) (n c : Nat) (xs : List ByteArray) (f : ByteArray) (F : Nat → Prop) (w : World) (ha : Row kStr w F A (n + 3) (xs ++ [f, f, f])) (hc : Row kStr w F C n xs) (hF : ∀ b, F b → b < w.heap.size) (hn : n ≤ 1000000000) :
    Calls Try.prog 24 #[.slice A n (n + 3), .slice C n c, .string f] w fun e w' => e = .returned (.bool true) ∧ Below w.heap.size w w' := by
  have hl := hc.len
  have HL := Lib.hid hl
  have n1 : (n : Int) ≤ 1000000000 := by omega
  have HF := Lib.hid hF
  have hS : ∀ W, (Instr.slice 22 (.slice A n (n + 3)) none (some (.int .i64 ((n : Int) + 3))) none).run Try.prog W = .ok (.slice A (n + 3) (n + 3)) W := fun W => by
    have := Kd.slice_to (P := Try.prog) (sz := 1) Try.underlying22 (fun W => by kernel_rfl) A n (n + 3) (n + 3) (Nat.le_refl _) W
    rw [show (((n + 3 : Nat)) : Int) = (n : Int) + 3 by omega] at this
    exact this
  have HS := Lib.hid hS
  have HK0 : Hid (Row kStr w F A (n + 3) (xs ++ [f, f, f])) := Lib.hid ha
  have HP : Hid (Calls Try.prog 57 #[.slice A n (n + 3), .slice C n c] w fun e w' => e = .returned (.bool true) ∧ Below w.heap.size w w') := Lib.hid (by
    have h1 := plain_str A C n n (n + 3) c xs xs F w (Kd.row_front ha hl) hc hF (by omega)
    rw [eqL_refl Sr.same_refl] at h1
    exact h1)
  clear ha hc hl hF hS
  go_enter Try.func24, Try.ntmps24
  go_wp2_with fail
  refine HP.out.mono ?_
  rintro e w1 ⟨rfl, hb⟩
  have HK := Lib.hid (And.intro (HK0.out.stay fun b hb2 => hb.block b (HF.out b hb2)) hb)
  have hS := HS.out w1
  clear hb HP HK0
  go_wp2
  go_loopw [8] (fun s wr => ∃ k : Nat, s = .int .i64 k ∧ n ≤ k ∧ k ≤ n + 3 ∧ Hid (Row kStr wr F A (n + 3) (xs ++ [f, f, f]) ∧ Below w.heap.size w wr)) (fun s _ => n + 3 - (intOf s).toNat)
  case atStart => exact ⟨n, rfl, Nat.le_refl _, by omega, HK⟩
  case round =>
    clear HK
    obtain ⟨k, rfl, hk, hk3, hK⟩ := hrel
    have k0 : (0 : Int) ≤ (k : Int) := by omega
    have kk : (k : Int) ≤ 1000000003 := by omega
    by_cases hlt : k < n + 3
    · have k1 : (k : Int) < (n : Int) + 3 := by omega
      obtain ⟨g, o, rfl, _, _, hok, c0⟩ := row_str hK.out.1 (str_behind HL.out hk hlt)
      clear hok
      go_wp2
      go_roundw
      case rel => exact ⟨k + 1, by go_num, by omega, by omega, hK⟩
      case measure => simp [intOf]; omega
    · have k1 : ¬ (k : Int) < (n : Int) + 3 := by omega
      go_wp2
      go_ret
      exact ⟨rfl, hK.out.2⟩

end Go.Proofs.Ytgimcleeamlgcaa.Hp
