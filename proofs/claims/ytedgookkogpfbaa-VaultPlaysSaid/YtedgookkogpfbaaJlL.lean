/- What the statements of layer 8 ask with: Mod, awake; a journal on a disk, both of the call's own. -/
import Derived.Test.YtedgookkogpfbaaJlF
import Derived.Test.YtedgookkogpfbaaJlM
import Derived.Test.YtedgookkogpfbaaBa
set_option maxRecDepth 100000
namespace Go.Proofs.Ytedgookkogpfbaa.Jl
open Go.ChangeShapes Go.WideShapes Go.ChangeAt Go.RowKit
open Qu (Blk)
open Mv (Only Fresh)
open By (Own8 Bys cellsB cellsB_length)
open Dk (DS dsNew)
open Dd (Lay At Tidy)
open Lf (own_lower own_far)
open Jr (JS Recd JHas needN need_le own_own_ne ownBlock_any blk_blk_ne newE blankJ openJ stopE addE addDS addJ doneJ Fit calm_ok addJ_zero)
set_option linter.unusedVariables false

/-! ### Mod -/
def modN (v : Int) (n : Nat) : Nat := ((IntKind.u64.wrap v) % (n : Int)).toNat

theorem modN_lt (v : Int) {n : Nat} (h : 1 ≤ n) : modN v n < n := by
  unfold modN
  have h1 := Int.emod_nonneg (IntKind.u64.wrap v) (show (n : Int) ≠ 0 by omega)
  have h2 := Int.emod_lt_of_pos (IntKind.u64.wrap v) (show 0 < (n : Int) by omega)
  omega

theorem mod_any (v : Int) (n : Nat) (h1 : 1 ≤ n) (h2 : n ≤ 1000000) (w : World) : Calls Try.prog 8 #[.int .i64 v, .int .i64 (n : Int)] w fun e w' => e = .returned (.int .i64 ((modN v n : Nat) : Int)) ∧ w' = w := by
  obtain ⟨t, ht, ht3, htm, htu⟩ := By.umod_in v (n : Int) (by omega) (by omega)
  have e : modN v n = t := by unfold modN; rw [htm]; rfl
  have htt : (IntKind.u64.wrap v).tmod (n : Int) = (t : Int) := by
    rw [Int.tmod_eq_emod_of_nonneg (by rw [IntKind.wrap_u64]; omega)]
    exact htm
  have HE := Lib.hid e
  have ht2 : wrap64 (t : Int) = (t : Int) := by rw [htt] at ht; exact ht
  have u1 : IntKind.u64.wrap (n : Int) = (n : Int) := by rw [IntKind.wrap_u64]; omega
  have n0 : ((n : Int) == 0) = false := beq_eq_false_iff_ne.2 (by omega)
  clear e ht3 htm
  go_enter Try.func8, Try.ntmps8
  go_wp2
  go_ret
  exact ⟨by rw [HE.out]; show Ending.returned (.int .i64 (wrap64 (t : Int))) = _; rw [ht2], rfl⟩

/-! ### New bytes of noughts -/
theorem make_bytes (n : Nat) (hn : n ≤ 1000000) (W : World) : (Instr.makeSlice 37 (.int .i64 (n : Int)) (.int .i64 (n : Int))).run Try.prog W = .ok (.slice (some ⟨W.heap.size, 0, none⟩) n n) (W.alloc (.cells (cellsB (List.replicate n 0)).toArray 5)) := by
  obtain ⟨i0, hi0, hz0, hz1, hz2⟩ := info_parts By.info_u8
  have hr := run_make (P := Try.prog) W 37 5 i0 _ Try.underlying37 hi0 hz0 .i64 .i64 (n : Int) (n : Int) (by omega) (by omega) (by rw [hz2]; omega) (by omega)
  rw [hz1, Nat.mul_one] at hr
  simp only [Int.toNat_natCast] at hr
  have e : madeCells #[Value.int .u8 0] n = (cellsB (List.replicate n 0)).toArray := by
    apply Array.toList_inj.1
    rw [toList_madeCells_one]
    unfold cellsB
    rw [List.map_replicate]
    simp
  rw [hr]
  exact congrArg (fun c => Result.ok _ (W.alloc (.cells c 5))) e

/-! ### A journal on a disk -/
structure Pair (w wr : World) (x Bd Bj : Nat) (q : Dd.Pl) (A : Option Addr) (c : Nat) (vs : List Value) (j : JS) (d : DS) : Prop where
  disk : At wr Bd q d
  jat : JAt wr Bj x q.x A c vs j
  lo : ∀ k, q.has k → w.heap.size ≤ k
  base : w.heap.size ≤ Bj
  below : Below w.heap.size w wr
  fit : Fit d j

section
variable {w wr w1 w2 : World} {x Bd Bj : Nat} {q : Dd.Pl} {A : Option Addr} {c : Nat} {vs : List Value} {j : JS} {d d' : DS}

theorem Pair.later (h : Pair w wr x Bd Bj q A c vs j d) (k : Below wr.heap.size wr w1) : Pair w w1 x Bd Bj q A c vs j d :=
  ⟨⟨h.disk.lay.below k, h.disk.tidy⟩, h.jat.below k, h.lo, h.base, h.below.trans (k.mono h.below.size), h.fit⟩

/-- The disk alone has turned. -/
theorem Pair.turned (h : Pair w wr x Bd Bj q A c vs j d) (hD : At w1 Bd q d') (ho : Only wr w1 q.has) (hn : d'.n = d.n) (ha : d'.armed ≤ 9223372036854775807) : Pair w w1 x Bd Bj q A c vs j d' :=
  ⟨hD, h.jat.disk h.disk.lay ho, h.lo, h.base, h.below.trans (ho.toBelow h.below.size fun k hk hs => by have := h.lo k hs; omega), h.fit.disk hn ha⟩

theorem Pair.cells (h : Pair w wr x Bd Bj q A c vs j d) : wr.cell? ⟨x, 5, none⟩ = some (.int .u32 (j.begun : Int)) ∧ wr.cell? ⟨x, 6, none⟩ = some (.int .i64 (j.used : Int)) := ⟨h.jat.box.cell 5, h.jat.box.cell 6⟩

/-- What Add answers and leaves. -/
def PairE (w wr : World) (x Bd Bj : Nat) (q : Dd.Pl) (A : Option Addr) (vs : List Value) (j : JS) (d : DS) (b : List UInt8) (e : Ending) (w' : World) : Prop :=
  e = .returned (.int .i64 (addE d j b)) ∧ ∃ A' c' us, Pair w w' x Bd Bj q A' c' us (addJ d j b) (addDS d j b) ∧ Only wr w' (fun i => q.has i ∨ JHas x A i) ∧ Fresh wr (Value.slice A 0 0).ownBlock (Value.slice A' 0 0).ownBlock ∧ (us = vs ∨ ∃ v, us = vs ++ [v] ∧ Own8 w' wr.heap.size v b)

theorem pair_add {Ab : Option Addr} {cb : Nat} {b : List UInt8} (h : Pair w wr x Bd Bj q A c vs j d) (hb : Bys wr wr.heap.size Ab b.length b) (hcb : b.length ≤ cb) (hcb2 : cb ≤ 9223372036854775807) (hfar : ∀ a, Ab = some a → ¬ q.has a.block) (hlen : b.length ≤ 1000000000000) :
    Calls Try.prog 53 #[.pointer (some ⟨x, 0, none⟩), .slice Ab b.length cb] wr (PairE w wr x Bd Bj q A vs j d b) := by
  have hf := h.fit
  have h1 := hf.room
  have h2 := hf.dn
  have h3 := hf.used
  have h4 := hf.len
  refine (add_any wr Bj Bd x c cb A Ab vs j q d b h.jat h.disk h3 (by omega) hb hcb hcb2 hfar hlen (by omega) hf.e1 hf.e2 h2 h1 hf.armed).mono ?_
  rintro e w' ⟨rfl, hD, A', c', us, hJ, hO, hF, hV⟩
  refine ⟨rfl, A', c', us, ⟨hD, hJ, h.lo, h.base, ?_, hf.add⟩, hO, hF, hV⟩
  refine h.below.trans (hO.toBelow h.below.size fun k hk hs => ?_)
  rcases hs with hs | hs | hs
  · have := h.lo k hs; omega
  · have := h.base; have := h.jat.base; omega
  · have := h.base
    have := (h.jat.rows.own.lt k (by rw [← hs]; exact ownBlock_any _ _ _ _ _)).1
    omega

theorem pair_records (h : Pair w wr x Bd Bj q A c vs j d) : Calls Try.prog 73 #[.pointer (some ⟨x, 0, none⟩)] wr (RecE wr j.l) := by
  have hf := h.fit
  have h1 := hf.room
  have h2 := hf.dn
  have h3 := hf.used
  have h4 := hf.len
  exact records_any wr Bj x q.x c A vs j h.jat (by omega) (fun b hb => by have := hf.each b hb; omega)

/-- A new journal on a disk of the call's own. -/
theorem pair_new (hD : At wr Bd q d) (hlo : ∀ k, q.has k → w.heap.size ≤ k) (hb : Below w.heap.size w wr) (hn : d.n ≤ 20000) (ha : d.armed ≤ 9223372036854775807) (o n e : Nat) (he : e < 2 ^ 32) (hE : newE d o n e = 0) :
    Calls Try.prog 61 #[.pointer (some ⟨q.x, 0, none⟩), .int .i64 (o : Int), .int .i64 (n : Int), .int .u32 (e : Int)] wr fun r w' => ∃ x, r = .returned (.tuple #[.pointer (some ⟨x, 0, none⟩), .int .i64 0]) ∧ Pair w w' x Bd wr.heap.size q none 0 [] (blankJ o n e) d ∧ Below wr.heap.size wr w' := by
  refine (new_ok wr Bd q d o n e hD.lay (by omega) he hE).mono ?_
  rintro r w' ⟨x, rfl, hx, hJ, hB⟩
  exact ⟨x, rfl, ⟨⟨hD.lay.below hB, hD.tidy⟩, hJ, hlo, hb.size, hb.trans (hB.mono hb.size), Fit.blank hE hn he ha⟩, hB⟩

theorem pair_open (hD : At wr Bd q d) (hlo : ∀ k, q.has k → w.heap.size ≤ k) (hb : Below w.heap.size w wr) (hn : d.n ≤ 20000) (ha : d.armed ≤ 9223372036854775807) (o n e : Nat) (he : e < 2 ^ 32) (hE : newE d o n e = 0) :
    Calls Try.prog 38 #[.pointer (some ⟨q.x, 0, none⟩), .int .i64 (o : Int), .int .i64 (n : Int), .int .u32 (e : Int)] wr fun r w' => ∃ x A c vs, r = .returned (.tuple #[.pointer (some ⟨x, 0, none⟩), .int .i64 0]) ∧ Pair w w' x Bd wr.heap.size q A c vs (openJ d o n e) d ∧ Below wr.heap.size wr w' := by
  refine (open_ok wr Bd q d o n e hD.lay (by omega) he hE).mono ?_
  rintro r w' ⟨x, A, c, vs, rfl, hx, hJ, hB⟩
  exact ⟨x, A, c, vs, rfl, ⟨⟨hD.lay.below hB, hD.tidy⟩, hJ, hlo, hb.size, hb.trans (hB.mono hb.size), Fit.open_ hE hn he ha⟩, hB⟩
end

theorem dsNew_n (n : Nat) : (dsNew n).n = n := by show (Se.blanks n).length = n; simp [Se.blanks]

theorem Recd.rws {w : World} {B n c : Nat} {A : Option Addr} {vs : List Value} {l : List (List UInt8)} (h : Recd w B A n c vs l) : Hr.Rws w w.heap.size A n l := ⟨h.len, fun k z hk => by
  have hkn : k < n := by have := (List.getElem?_eq_some_iff.1 hk).1; have := h.len; omega
  obtain ⟨g, cap, hv, hg, hgl⟩ := h.own.form (by omega)
  injection hv with hA _ hc
  subst hA hc
  have hlen := h.own.1
  obtain ⟨v, hv⟩ : ∃ v, vs[k]? = some v := ⟨_, List.getElem?_eq_getElem (by omega)⟩
  obtain ⟨z', h1, h2⟩ := h.each k v hv
  rw [hk] at h1
  injection h1 with h1
  subst h1
  obtain ⟨A', c', rfl⟩ := Mv.own_value h2
  have hc1 := h.own.cellAt k (by omega)
  rw [hv] at hc1
  exact ⟨g, 0, A', z.length, c', rfl, hgl, by rw [Nat.zero_add]; exact hc1, By.Own8.bys h2⟩⟩

end Go.Proofs.Ytedgookkogpfbaa.Jl
