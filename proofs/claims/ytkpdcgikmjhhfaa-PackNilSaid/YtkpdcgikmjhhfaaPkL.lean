/- The statements' steps over a writer and a reader, in memory; what every statement of layer 4 asks first. -/
import Derived.Test.YtkpdcgikmjhhfaaPkW
import Derived.Test.YtkpdcgikmjhhfaaPkR
import Derived.Test.YtkpdcgikmjhhfaaKitE
namespace Go.Proofs.Ytkpdcgikmjhhfaa.Pk
open Go.ChangeShapes Go.WideShapes Go.ChangeAt Go.RowKit
open Qu (Blk)
open Mv (Only one two)
open By
set_option linter.unusedVariables false

theorem awake_any (w : World) : Calls Try.prog 9 #[] w fun e w' => e = .returned (.bool true) ∧ Below w.heap.size w w' := by
  have n300 : num (Int.toNat 300) = [172, 2] := by decide +kernel
  have tab : text [97, 98] = [2, 97, 98] := by decide +kernel
  have HW : Hid (IsW (w.alloc (.cells #[.slice none 0 0] 28)) w.heap.size w.heap.size none []) := Lib.hid (IsW.new w _ (Nat.le_refl _))
  have HN := Lib.hid (wnum_any 300 _ _ _ _ _ (by omega) HW.out (by simp))
  go_enter Try.func9, Try.ntmps9
  go_wp2_with fail
  refine HN.out.mono ?_
  rintro e w1 ⟨rfl, h1⟩
  have HB1 := Lib.hid (((Below.refl w.heap.size w).alloc (Nat.le_refl _) _).trans (Wrote.toBelow HW.out h1))
  obtain ⟨r1, hW1, _, _⟩ := h1
  rw [n300, List.nil_append] at hW1
  have HT := Lib.hid (wtext_any ⟨#[97, 98]⟩ _ _ _ _ _ (by decide) hW1 (by simp))
  have HW1 := Lib.hid hW1
  clear hW1 HN HW n300
  go_wp2_with fail
  refine HT.out.mono ?_
  rintro e w2 ⟨rfl, h2⟩
  have HB2 := Lib.hid (HB1.out.trans (Wrote.toBelow HW1.out h2))
  obtain ⟨r2, hW2, _, _⟩ := h2
  have e2 : ([172, 2] : List UInt8) ++ text [97, 98] = [172, 2, 2, 97, 98] := by rw [tab]; rfl
  have hW2' : IsW w2 w.heap.size w.heap.size r2 [172, 2, 2, 97, 98] := by rw [← e2]; exact hW2
  have HW2 := Lib.hid hW2'
  clear hW2 hW2' HW1 HT HB1 e2 tab
  go_wp2_with fail
  refine (read_any _ 2 2 _ [172, 2] _ (Bys.blk (Blk.new _ _ _) rfl rfl) (by simp) (by omega)).mono ?_
  rintro e w3 ⟨q, r, rfl, hR, hq, hr, hb⟩
  have HB3 := Lib.hid (HB2.out.trans (((Below.refl w2.heap.size w2).alloc (Nat.le_refl _) (.cells #[.int .u8 172, .int .u8 2] 5)).trans (hb.mono (by simp)) |>.mono HB2.out.size))
  have HW3 := Lib.hid (HW2.out.below (((Below.refl w2.heap.size w2).alloc (Nat.le_refl _) (.cells #[.int .u8 172, .int .u8 2] 5)).trans (hb.mono (by simp))))
  have HQ : Hid (w2.heap.size < q) := Lib.hid (by simp at hq; omega)
  have HR := Lib.hid hR
  have HRr := Lib.hid hr
  clear hb hR HW2 hq hr
  go_wp2_with fail
  refine (wbytes_any _ _ _ _ _ HW3.out (by simp)).mono ?_
  rintro e w4 ⟨A, c, rfl, ho, hb⟩
  have HB4 := Lib.hid (HB3.out.trans (hb.mono HB3.out.size))
  have HY := Lib.hid ((Bys.own ho).below (w' := w4.alloc (.cells #[.int .u8 172, .int .u8 2, .int .u8 2, .int .u8 97, .int .u8 98] 5)) ((Below.refl _ _).alloc (Nat.le_refl _) _) (Nat.le_refl _))
  have HR4 := Lib.hid (HR.out.below (hb.alloc hb.size (.cells #[.int .u8 172, .int .u8 2, .int .u8 2, .int .u8 97, .int .u8 98] 5)))
  clear ho hb HR HW3
  go_wp2_with fail
  refine (bytes_any A _ _ 5 c 5 _ _ [172, 2, 2, 97, 98] _ (HY.out.more (by simp)) (Bys.blk (Blk.new _ _ _) rfl rfl)).mono ?_
  rintro e w5 ⟨rfl, rfl⟩
  have n1 : numE [172, 2] 0 300 = 0 := by decide +kernel
  have n2 : numV [172, 2] 0 300 = 300 := by decide +kernel
  have n3 : numL [172, 2] 0 300 = [] := by decide +kernel
  have HM := rnum_any q r [172, 2] 0 300 _ HR4.out
  rw [n1, n2, n3] at HM
  have HMM := Lib.hid HM
  clear HM n1 n2 n3
  go_wp2_with fail
  refine HMM.out.mono ?_
  rintro e w6 ⟨rfl, hd⟩
  have HB6 := Lib.hid ((HB4.out.alloc HB4.out.size (.cells #[.int .u8 172, .int .u8 2, .int .u8 2, .int .u8 97, .int .u8 98] 5)).trans (hd.toBelow HR4.out (by have := HQ.out; have := HB2.out.size; omega)))
  have HE := Lib.hid (rend_any q r [] 0 w6 hd.1)
  clear hd
  go_wp2_with fail
  refine HE.out.mono ?_
  rintro e w7 ⟨rfl, rfl⟩
  have e1 : endE [] 0 = 0 := by decide
  rw [e1]
  go_wp2
  go_ret
  exact ⟨rfl, HB6.out⟩

/-! ### Steps -/
structure Stp where
  kind : Int
  least : Int
  most : Int
  n : Int
  s : ByteArray
  is : Bool

instance : Inhabited Stp := ⟨⟨0, 0, 0, 0, ⟨#[]⟩, false⟩⟩

/-- A slice of n steps, below block M. -/
def Stps (w : World) (M : Nat) (A : Option Addr) (n : Nat) (o : Nat → Stp) : Prop :=
  ∀ k, k < n → ∃ b off, A = some ⟨b, off, none⟩ ∧ b < M ∧ w.cell? ⟨b, off + k * 6, none⟩ = some (.int .i64 (o k).kind) ∧ w.cell? ⟨b, off + k * 6 + 1, none⟩ = some (.int .i64 (o k).least) ∧ w.cell? ⟨b, off + k * 6 + 2, none⟩ = some (.int .i64 (o k).most)
    ∧ w.cell? ⟨b, off + k * 6 + 3, none⟩ = some (.int .i64 (o k).n) ∧ w.cell? ⟨b, off + k * 6 + 4, none⟩ = some (.string (o k).s) ∧ w.cell? ⟨b, off + k * 6 + 5, none⟩ = some (.bool (o k).is)

theorem Stps.below {w w' : World} {M B n : Nat} {A : Option Addr} {o : Nat → Stp} (h : Stps w M A n o) (hb : Below B w w') (hM : M ≤ B) : Stps w' M A n o := fun k hk => by
  obtain ⟨b, off, hA, hb1, h0, h1, h2, h3, h4, h5⟩ := h k hk
  have hlt : b < B := by omega
  exact ⟨b, off, hA, hb1, (hb.cell (p := ⟨b, _, none⟩) hlt).trans h0, (hb.cell (p := ⟨b, _, none⟩) hlt).trans h1, (hb.cell (p := ⟨b, _, none⟩) hlt).trans h2, (hb.cell (p := ⟨b, _, none⟩) hlt).trans h3, (hb.cell (p := ⟨b, _, none⟩) hlt).trans h4, (hb.cell (p := ⟨b, _, none⟩) hlt).trans h5⟩

theorem Stps.up {w : World} {M n : Nat} {A : Option Addr} {o : Nat → Stp} (h : Stps w M A n o) : Stps w w.heap.size A n o := fun k hk => by
  obtain ⟨b, off, hA, hb1, h0, hr⟩ := h k hk
  exact ⟨b, off, hA, World.block_lt_of_cell? w _ h0, h0, hr⟩

theorem open_steps {H : Type} {enc : TypeId × Value → H} {base b0 : Nat} {w : World} {spare : Nat → Bool} {held : Bool} {v : Value} {d : DataW H} {ps : List MemPlace} {r : Reach}
    (hval : Value.okWide Try.prog w r b0 22 v) (hd : DataW.Trod enc Try.prog w base spare held 22 v d ps) :
    ∃ A n c o, v = .slice A n c ∧ Stps w w.heap.size A n o ∧ n ≤ 9223372036854775807 ∧ ∀ k, k < n → (o k).n ≤ 9223372036854775807 ∧ (o k).s.size ≤ maxLen := by
  obtain ⟨A, n, c, hv, hn, _, hel⟩ := Hk.open_rows (C := 6) Try.underlying22 Try.underlying30 (by kernel_rfl) (by omega) (by decide) hval hd
  obtain ⟨o, ho⟩ := Go.Deep.choose_lt (α := Stp) (n := n) (p := fun k z => (∃ b off, A = some ⟨b, off, none⟩ ∧ b < w.heap.size ∧ w.cell? ⟨b, off + k * 6, none⟩ = some (.int .i64 z.kind) ∧ w.cell? ⟨b, off + k * 6 + 1, none⟩ = some (.int .i64 z.least) ∧ w.cell? ⟨b, off + k * 6 + 2, none⟩ = some (.int .i64 z.most)
    ∧ w.cell? ⟨b, off + k * 6 + 3, none⟩ = some (.int .i64 z.n) ∧ w.cell? ⟨b, off + k * 6 + 4, none⟩ = some (.string z.s) ∧ w.cell? ⟨b, off + k * 6 + 5, none⟩ = some (.bool z.is)) ∧ z.n ≤ 9223372036854775807 ∧ z.s.size ≤ maxLen) (fun k hk => by
    obtain ⟨b, off, hA, hb, hf⟩ := hel k hk
    obtain ⟨z0, h0, _⟩ := (hf 0 _ rfl (by kernel_rfl)).int Try.underlying3
    obtain ⟨z1, h1, _⟩ := (hf 1 _ rfl (by kernel_rfl)).int Try.underlying2
    obtain ⟨z2, h2, _⟩ := (hf 2 _ rfl (by kernel_rfl)).int Try.underlying2
    obtain ⟨z3, h3, hz3⟩ := (hf 3 _ rfl (by kernel_rfl)).int Try.underlying2
    obtain ⟨z4, h4, hz4⟩ := (hf 4 _ rfl (by kernel_rfl)).str Try.underlying9
    obtain ⟨z5, h5⟩ := (hf 5 _ rfl (by kernel_rfl)).bool Try.underlying4
    exact ⟨⟨z0, z1, z2, z3, z4, z5⟩, ⟨b, off, hA, hb, h0, h1, h2, h3, h4, h5⟩, hz3.2, hz4⟩)
  exact ⟨A, n, c, o, hv, fun k hk => (ho k hk).1, hn, fun k hk => (ho k hk).2⟩

def kindOf (a : Int) : Nat := ((IntKind.u64.wrap a) % 3).toNat

theorem kindOf_lt (a : Int) : kindOf a < 3 := by
  have h0 := Int.emod_nonneg (IntKind.u64.wrap a) (show (3 : Int) ≠ 0 by omega)
  have h1 := Int.emod_lt_of_pos (IntKind.u64.wrap a) (show (0 : Int) < 3 by omega)
  unfold kindOf
  omega

theorem kind_any (x : Stp) (w : World) : Calls Try.prog 10 #[.agg #[.int .i64 x.kind, .int .i64 x.least, .int .i64 x.most, .int .i64 x.n, .string x.s, .bool x.is]] w fun e w' => e = .returned (.int .i64 (kindOf x.kind : Int)) ∧ Below w.heap.size w w' := by
  obtain ⟨t, ht, ht3, htm, htu⟩ := umod_in x.kind 3 (by omega) (by omega)
  have HK : Hid (kindOf x.kind = t) := Lib.hid (by unfold kindOf; rw [htm]; omega)
  have t0 : (0 : Int) ≤ (t : Int) := by omega
  have HF : Hid (Below w.heap.size w (w.alloc (.cells #[.int .i64 x.kind, .int .i64 x.least, .int .i64 x.most, .int .i64 x.n, .string x.s, .bool x.is] 30))) := Lib.hid ((Below.refl _ _).alloc (Nat.le_refl _) _)
  go_enter Try.func10, Try.ntmps10
  go_wp2
  go_ret
  exact ⟨by rw [HK.out, ← ht]; rfl, HF.out⟩

/-- Not too many steps, with texts not too long. -/
def fewB (o : Nat → Stp) (n : Nat) : Bool := decide (n ≤ 40) && (List.range n).all fun k => decide ((o k).s.size ≤ 300)

theorem fewB_yes {o : Nat → Stp} {n : Nat} (h : fewB o n = true) : n ≤ 40 ∧ ∀ k, k < n → (o k).s.size ≤ 300 := by
  unfold fewB at h
  rw [Bool.and_eq_true, decide_eq_true_eq, List.all_eq_true] at h
  exact ⟨h.1, fun k hk => by simpa using h.2 k (List.mem_range.2 hk)⟩

theorem fewB_no {o : Nat → Stp} {n k : Nat} (hk : k < n) (h : 300 < (o k).s.size) : fewB o n = false := by
  cases hb : fewB o n with
  | false => rfl
  | true => have := (fewB_yes hb).2 k hk; omega

theorem fewB_of {o : Nat → Stp} {n : Nat} (h : ∀ k, k < n → (o k).s.size ≤ 300) : fewB o n = decide (n ≤ 40) := by
  unfold fewB
  have : ((List.range n).all fun k => decide ((o k).s.size ≤ 300)) = true := by
    rw [List.all_eq_true]
    intro k hk
    simpa using h k (List.mem_range.1 hk)
  rw [this, Bool.and_true]

theorem few_any (A : Option Addr) (n c : Nat) (o : Nat → Stp) (M : Nat) (w : World) (ha : Stps w M A n o) (hn : n ≤ 9223372036854775807) (hs : ∀ k, k < n → (o k).s.size ≤ maxLen) :
    Calls Try.prog 8 #[.slice A n c] w fun e w' => e = .returned (.bool (fewB o n)) ∧ w = w' := by
  have n1 : (n : Int) ≤ 9223372036854775807 := by omega
  have HS := Lib.hid hs
  clear hs
  go_enter Try.func8, Try.ntmps8
  go_wp2
  go_loopw [3] (fun s wr => ∃ k : Nat, s = .int .i64 k ∧ k ≤ n ∧ w = wr ∧ ∀ j, j < k → (o j).s.size ≤ 300) (fun s _ => n - (intOf s).toNat)
  case atStart => exact ⟨0, rfl, by omega, rfl, fun j hj => by omega⟩
  case round =>
    obtain ⟨k, rfl, hk, rfl, hE⟩ := hrel
    have HE := Lib.hid hE
    clear hE
    have k0 : (0 : Int) ≤ (k : Int) := by omega
    by_cases hlt : k < n
    · obtain ⟨b, off, rfl, hb, h0, h1, h2, h3, h4, h5⟩ := ha k hlt
      have k1 : (k : Int) < (n : Int) := by omega
      have hm := HS.out k hlt
      unfold maxLen at hm
      clear ha h0 h1 h2 h3 h5
      by_cases hx : 300 < (o k).s.size
      · have x1 : (300 : Int) < ((o k).s.size : Int) := by omega
        have HF := Lib.hid (fewB_no hlt hx)
        clear hx
        go_wp2
        go_ret
        exact ⟨by rw [HF.out]; rfl, rfl⟩
      · have x1 : ¬ (300 : Int) < ((o k).s.size : Int) := by omega
        have HX := Lib.hid (show (o k).s.size ≤ 300 by omega)
        clear hx
        go_wp2
        go_roundw
        case rel => exact ⟨k + 1, by go_num, by omega, by trivial, fun j hj => by
          rcases Nat.lt_or_ge j k with h | h
          · exact HE.out j h
          · have : j = k := by omega
            subst this; exact HX.out⟩
        case measure => simp [intOf]; omega
    · have hkn : k = n := by omega
      subst hkn
      have HF := Lib.hid (fewB_of (o := o) (n := k) HE.out)
      have k1 : ¬ (k : Int) < (k : Int) := by omega
      clear ha
      by_cases h40 : k ≤ 40
      · have k4 : (k : Int) ≤ 40 := by omega
        have HR : Hid (fewB o k = true) := Lib.hid (by rw [HF.out]; simpa using h40)
        clear h40
        go_wp2
        go_ret
        exact ⟨by rw [HR.out]; rfl, rfl⟩
      · have k4 : ¬ (k : Int) ≤ 40 := by omega
        have HR : Hid (fewB o k = false) := Lib.hid (by rw [HF.out]; simpa using h40)
        clear h40
        go_wp2
        go_ret
        exact ⟨by rw [HR.out]; rfl, rfl⟩

/-- What a step writes; what all of them write. -/
def enc (x : Stp) : List UInt8 := if kindOf x.kind = 0 then num x.n.toNat else if kindOf x.kind = 1 then text x.s.data.toList else flag x.is

def encs (o : Nat → Stp) : Nat → List UInt8
  | 0 => []
  | k + 1 => encs o k ++ enc (o k)

theorem enc_len {x : Stp} (hn : x.n ≤ 9223372036854775807) (hs : x.s.size ≤ 300) : (enc x).length ≤ 309 := by
  unfold enc
  split
  · have := num_nine (v := x.n.toNat) (by omega); omega
  · split
    · unfold text
      have := num_nine (v := x.s.data.toList.length) (by rw [size_list]; omega)
      rw [List.length_append, size_list] at *
      omega
    · unfold flag; split <;> simp

theorem encs_len {o : Nat → Stp} {n : Nat} (hn : ∀ k, k < n → (o k).n ≤ 9223372036854775807) (hs : ∀ k, k < n → (o k).s.size ≤ 300) : ∀ k, k ≤ n → (encs o k).length ≤ 309 * k
  | 0, _ => by simp [encs]
  | k + 1, h => by
    have h1 := encs_len hn hs k (by omega)
    have h2 := enc_len (hn k (by omega)) (hs k (by omega))
    rw [encs, List.length_append]
    omega

end Go.Proofs.Ytkpdcgikmjhhfaa.Pk
