/- Helpers of all the seats' proofs: nothing here speaks of the program. · The row's last step for a law, whatever its arguments are: what was there reads as it did. Nothing here speaks of the program. · Heaps and sorted lists of ranks and numbers: plain mathematics, nothing of the program. · Rows of ranks and numbers in memory: nothing of the program. · Of what there was, some blocks alone have turned; rows, boxes stay. Nothing of the program. · Numbers and texts as bytes: plain mathematics, nothing of the program. · Bytes in memory; texts of them, appends of them. Nothing of the program. · Contracts of bytes.Clone and of the statements' helpers over bytes: Bytes, Spoil. · Bits of small numbers, as the model has them. · Slices of slices of bytes; a literal text as bytes. · Opening a law's arguments: a slice of structs, field by field (numbers, texts, flags); a slice of bytes. Nothing here speaks of the program. · Lists of numbers in memory. · Opening a law's arguments that are slices: nothing here speaks of the program. · Opening a law's arguments, whatever their depth: what lies at a place, read as a type has it: numbers, texts, flags, structs, slices of any of these. Nothing here speaks of the program. · Opening a law's arguments that are structs or arrays by value: cell by cell. Nothing here speaks of the program. · append(b, make([]byte, m)...): noughts behind a row of bytes of the call's own. Nothing of the program. · Contracts of the statements' helpers on rows of bytes: Plain, Own, Kept. · The law folders' help on lists of rows of bytes: Same, Rows. · Sectors of 64 bytes in memory, and rows of them. Nothing of the program. -/
import Derived.WalkKit
import Derived.ProofKit
import Derived.OpenShut
import Derived.Lib.Hide
import Derived.Carry
import Derived.Laws.IdiomArrays
import Derived.Below
import Derived.Deep.AppendLies
import Derived.Deep.Draws
import Derived.Maps.AppendAt
import Derived.Lib.AppendStr
import Derived.Laws.IdiomStrings
import Derived.Laws.BytesArg
import Derived.Laws.Slices
import Derived.Laws.Strings
import Derived.Test.YtdmpnkhgcggepaaRows
import Derived.BigQuiet
import Derived.Deep.QuietTactic
import Derived.LoopTactic
import Derived.Outline
import Derived.OwnWalk
import Derived.Lib.SliceRun
import Derived.Laws.BitsAllLaws
import Derived.Laws.Shifts
import Derived.RowKit3
import Derived.IntWalk
import Derived.Lib.SlBytesConst
import Derived.Laws.MakeOwn
import Derived.Deep.Slices
import Derived.ChangeSlices
import Derived.ChangeMaps5
import Derived.ChangeArms
import Derived.Deep.MidRow
set_option maxRecDepth 100000

section
namespace Go.Proofs.Ytdmpnkhgcggepaa.Hk
open Go.ChangeShapes Go.WideShapes Go.ChangeAt Go.RowKit

/-- Two calls, one behind the other. -/
theorem andThen {u v w : World} (h : Below u.heap.size u v) (k : Below v.heap.size v w) : Below u.heap.size u w := h.trans (k.mono h.size)

section
variable {H : Type} {enc : TypeId × Value → H} {P : Program}
/-- The row's last step, where of the old memory all is as it was, and of the new one nothing is asked. -/
theorem closeRow {f : Func} {s : ChangeSpec} {apart fresh handsOn again : Bool} {W W' : World} {args : Array Value} {v : Value} {ds gs : List (DataW H)} {met pa pv : List MemPlace}
    (hW : DataW.Whole enc P f.params.toList s.vars apart W args.toList ds gs met) (hb : Below W.heap.size W W') (split : met = pa ++ pv)
    (out : ∀ (b : Nat) (sp : Nat → Bool) (hd : Bool), DataW.TrodAll enc P W' b sp hd f.resultTypes.toList (v.resultList f.resultTypes.size) (s.fn H (ds ++ gs)).results [])
    (ins : ∀ sp : Nat → Bool, (∀ p ∈ met, sp p.block = true) → DataW.TrodAll enc P W' 0 sp true f.params.toList args.toList (s.fn H (ds ++ gs)).args pa)
    (vars : ∀ sp : Nat → Bool, (∀ p ∈ met, sp p.block = true) → DataW.TrodVars enc P W' sp s.vars (s.fn H (ds ++ gs)).vars pv)
    (wide : ∀ (j : Nat) (t : TypeId) (r : Value), f.resultTypes[j]? = some t → (v.resultList f.resultTypes.size)[j]? = some r → Value.okWide P W' .any 0 t r) :
    s.post enc P f apart fresh handsOn again W args v W' := by
  have old : ∀ p ∈ met, p.block < W.heap.size := fun p hp => hW.lt p hp
  have sure : ∀ p ∈ met, (fun b => decide (b < W.heap.size)) p.block = true := fun p hp => decide_eq_true (old p hp)
  have ever : ∀ p ∈ met, (fun _ : Nat => true) p.block = true := fun _ _ => rfl
  subst split
  obtain ⟨q1, q2, q3, q4, q5, ice, lone⟩ := id hW
  refine ⟨ds, gs, pa ++ pv, [], pa, pv, hW, out _ _ _, ins _ sure, vars _ sure, World.keptBut_mono (fun p hp => ⟨hp, Or.inr (List.mem_append.mp hp)⟩) (hb.frame (· ∈ pa ++ pv)), fun _ => ⟨wide, _, _, ([] ++ pa) ++ pv, ⟨[] ++ pa, pv, trodAll_append (ins _ ever) (out _ _ _), vars _ ever, rfl, ?_, ?_⟩, ?_⟩⟩
  · intro b o hp
    have hp' : MemPlace.cell b o ∈ pa ++ pv := hp
    exact (hb.frozen (p := ⟨b, o, Option.none⟩) (old _ hp')).trans (ice b o hp')
  · exact lone
  · exact fun p hp _ => hp
end

end Go.Proofs.Ytdmpnkhgcggepaa.Hk
end

section
set_option linter.unusedVariables false
namespace Go.Proofs.Ytdmpnkhgcggepaa.Hk
open Go.ChangeShapes Go.WideShapes Go.ChangeAt Go.RowKit

section
variable {H : Type} {enc : TypeId × Value → H} {P : Program}

theorem argsStay (hl : laidOutB P = true) {W W' : World} (hb : Below W.heap.size W W') :
    ∀ (ts : List TypeId) (vs : List Value) (ds : List (DataW H)) (ps : List MemPlace) (sp : Nat → Bool), (ts.all fun t => P.readableRec t && decide (t < P.types.size)) = true →
      DataW.TrodAll enc P W 0 (fun _ => true) true ts vs ds ps → (∀ p ∈ ps, p.block < W.heap.size) → (∀ p ∈ ps, sp p.block = true) → DataW.TrodAll enc P W' 0 sp true ts vs ds ps
  | [], [], [], ps, _, _, h, _, _ => h
  | [], _ :: _, _, _, _, _, h, _, _ => by simp [DataW.TrodAll] at h
  | [], [], _ :: _, _, _, _, h, _, _ => by simp [DataW.TrodAll] at h
  | _ :: _, [], _, _, _, _, h, _, _ => by simp [DataW.TrodAll] at h
  | _ :: _, _ :: _, [], _, _, _, h, _, _ => by simp [DataW.TrodAll] at h
  | t :: ts, v :: vs, d :: ds, ps, sp, hr, h, hlt, hs => by
    obtain ⟨p, q, h1, h2, rfl⟩ := h
    simp only [List.all_cons, Bool.and_eq_true, decide_eq_true_eq] at hr
    exact ⟨p, q, WideElems.Trod_stays hl hr.1.1 hr.1.2 h1 (fun x hx => hb.same (hlt x (List.mem_append_left _ hx))) (fun x hx => hs x (List.mem_append_left _ hx)),
      argsStay hl hb ts vs ds q sp hr.2 h2 (fun x hx => hlt x (List.mem_append_right _ hx)) (fun x hx => hs x (List.mem_append_right _ hx)), rfl⟩

/-- A law that names no variable and returned true. -/
theorem closeLaw {f : Func} {s : ChangeSpec} {W W' : World} {args : Array Value} {ds gs : List (DataW H)} {met : List MemPlace} {tb : TypeId}
    (hl : laidOutB P = true) (hr : (f.params.toList.all fun t => P.readableRec t && decide (t < P.types.size)) = true) (hv : s.vars = []) (hs : s.fn H ds = { results := [.lit (.bool true)], args := ds })
    (hres : f.resultTypes = #[tb]) (ht : P.underlying tb = some .bool) (hW : DataW.Whole enc P f.params.toList s.vars false W args.toList ds gs met) (hb : Below W.heap.size W W') :
    s.post enc P f false true false false W args (.bool true) W' := by
  have hW' := hW
  have old : ∀ p ∈ met, p.block < W.heap.size := fun p hp => hW.lt p hp
  obtain ⟨p, q, hA, hV, rfl, hfz, hnd⟩ := hW
  rw [hv] at hV
  obtain ⟨rfl, rfl⟩ := trodVars_none hV
  have hs' : s.fn H (ds ++ []) = { results := [.lit (.bool true)], args := ds } := by rw [List.append_nil]; exact hs
  refine closeRow (pa := p) (pv := []) hW' hb rfl ?_ ?_ ?_ (ok_one hres rfl (okWide_bool_mk ht _))
  · intro b sp hd
    rw [hs', hres]
    exact trodAll_cons_mk (shut_bool ht _) trodAll_mk0
  · intro sp hsp
    rw [hs']
    exact argsStay hl hb _ _ _ _ sp hr hA (fun x hx => old x (by simpa using hx)) (fun x hx => hsp x (by simpa using hx))
  · intro sp hsp
    rw [hs', hv]
    rfl

theorem three {α : Type} {cs : Array α} (h : cs.size = 3) : ∃ a b c, cs = #[a, b, c] := by
  obtain ⟨l⟩ := cs
  match l, h with
  | [a, b, c], _ => exact ⟨a, b, c, rfl⟩

/-- An array of three bools. -/
theorem open_bools3 {t e : TypeId} {r : Reach} {b0 base : Nat} {w : World} {spare : Nat → Bool} {held : Bool} {v : Value} {d : DataW H} {ps : List MemPlace} (ht : P.underlying t = some (.array 3 e)) (he : P.underlying e = some .bool) (hce : P.cellsOf e = 1) (hct : P.cellsOf t = 3)
    (hval : Value.okWide P w r b0 t v) (hd : DataW.Trod enc P w base spare held t v d ps) : ∃ x y z : Bool, v = .agg #[.bool x, .bool y, .bool z] := by
  obtain ⟨fuel, hf⟩ := hd
  simp only [Value.okWide, ht] at hval
  obtain ⟨cs, rfl, hsz, _⟩ := hval
  obtain ⟨c0, c1, c2, rfl⟩ := three (hsz.trans hct)
  obtain ⟨y0, y1, y2, n, _, h0, h1, h2⟩ := trod_array3 ht hce hf
  obtain ⟨x, hx, _⟩ := DataW.trod_bool he h0
  obtain ⟨y, hy, _⟩ := DataW.trod_bool he h1
  obtain ⟨z, hz, _⟩ := DataW.trod_bool he h2
  simp only [List.cons.injEq, and_true] at hx hy hz
  exact ⟨x, y, z, by rw [hx, hy, hz]⟩
end

end Go.Proofs.Ytdmpnkhgcggepaa.Hk
end

section
set_option linter.unusedVariables false
namespace Go.Proofs.Ytdmpnkhgcggepaa.Qu

abbrev Pt := Int × Int

/-- Who is ahead: the greater rank, of equal ones the lesser number. -/
def aheadB (x y : Pt) : Bool := decide (y.1 < x.1 ∨ (y.1 = x.1 ∧ x.2 < y.2))

theorem ahead_iff (x y : Pt) : aheadB x y = true ↔ (y.1 < x.1 ∨ (y.1 = x.1 ∧ x.2 < y.2)) := by simp [aheadB]

theorem not_ahead (x y : Pt) : aheadB x y = false ↔ ¬ (y.1 < x.1 ∨ (y.1 = x.1 ∧ x.2 < y.2)) := by simp only [aheadB, decide_eq_false_iff_not]

/-- y is not ahead of x. -/
def le (x y : Pt) : Prop := aheadB y x = false

theorem le_refl (x : Pt) : le x x := by unfold le; rw [not_ahead]; omega

theorem le_trans {x y z : Pt} (h : le x y) (k : le y z) : le x z := by
  unfold le at *; rw [not_ahead] at *; omega

theorem le_antisymm {x y : Pt} (h : le x y) (k : le y x) : x = y := by
  unfold le at *; rw [not_ahead] at *
  obtain ⟨a, b⟩ := x; obtain ⟨c, d⟩ := y
  simp only [Prod.mk.injEq] at *
  omega

theorem le_of_ahead {x y : Pt} (h : aheadB x y = true) : le x y := by
  unfold le; rw [not_ahead]; rw [ahead_iff] at h; omega

theorem ahead_trans {x y z : Pt} (h : aheadB x y = true) (k : le y z) : aheadB x z = true := by
  unfold le at k; rw [not_ahead] at k; rw [ahead_iff] at *; omega

/-! ### Heaps -/
def gt (a : Array Pt) (i : Nat) : Pt := a.getD i (0, 0)

def swp (a : Array Pt) (i j : Nat) : Array Pt := a.swapIfInBounds i j

theorem size_swp (a : Array Pt) (i j : Nat) : (swp a i j).size = a.size := by simp [swp]

theorem gt_swp (a : Array Pt) (i j k : Nat) (hi : i < a.size) (hj : j < a.size) : gt (swp a i j) k = if k = i then gt a j else if k = j then gt a i else gt a k := by
  unfold gt swp
  rw [Array.swapIfInBounds_def, dif_pos hi, dif_pos hj]
  by_cases hk : k < a.size
  · simp only [Array.getD, Array.size_swap, hk, hi, hj, dif_pos]
    show (a.swap i j hi hj)[k]'_ = _
    rw [Array.getElem_swap]
    rfl
  · simp only [Array.getD, Array.size_swap, hk, dif_neg, not_false_eq_true]
    rw [if_neg (by omega), if_neg (by omega)]

theorem perm_swp (a : Array Pt) (i j : Nat) (hi : i < a.size) (hj : j < a.size) : (swp a i j).toList.Perm a.toList := by
  unfold swp
  rw [Array.swapIfInBounds_def, dif_pos hi, dif_pos hj]
  exact Array.perm_iff_toList_perm.1 (Array.swap_perm hi hj)

/-- The first n are a heap. -/
def Heap (a : Array Pt) (n : Nat) : Prop := ∀ i, 0 < i → i < n → le (gt a ((i - 1) / 2)) (gt a i)

theorem Heap.top {a : Array Pt} {n : Nat} (h : Heap a n) : ∀ i, i < n → le (gt a 0) (gt a i) := by
  intro i
  induction i using Nat.strongRecOn with
  | _ i ih =>
    intro hi
    rcases Nat.eq_zero_or_pos i with rfl | h0
    · exact le_refl _
    · exact le_trans (ih ((i - 1) / 2) (by omega) (by omega)) (h i h0 hi)

/-- A heap but for the one at j, that may have to go up. -/
def HeapUp (a : Array Pt) (n j : Nat) : Prop :=
  (∀ i, 0 < i → i < n → i ≠ j → le (gt a ((i - 1) / 2)) (gt a i)) ∧ (0 < j → ∀ i, 0 < i → i < n → (i - 1) / 2 = j → le (gt a ((j - 1) / 2)) (gt a i))

theorem HeapUp.done {a : Array Pt} {n j : Nat} (h : HeapUp a n j) (hj : 0 < j → le (gt a ((j - 1) / 2)) (gt a j)) : Heap a n := by
  intro i h0 hi
  by_cases e : i = j
  · subst e; exact hj h0
  · exact h.1 i h0 hi e

theorem HeapUp.step {a : Array Pt} {n j : Nat} (h : HeapUp a n j) (h0 : 0 < j) (hj : j < n) (hn : n ≤ a.size) (hl : aheadB (gt a j) (gt a ((j - 1) / 2)) = true) : HeapUp (swp a ((j - 1) / 2) j) n ((j - 1) / 2) := by
  have hp : (j - 1) / 2 < j := by omega
  generalize hpp : (j - 1) / 2 = p at *
  have hl' := le_of_ahead hl
  refine ⟨fun i i0 hi hne => ?_, fun p0 i i0 hi hip => ?_⟩
  · rw [gt_swp _ _ _ _ (by omega) (by omega), gt_swp _ _ _ _ (by omega) (by omega)]
    by_cases e : i = j
    · subst e
      rw [hpp, if_pos rfl, if_neg (by omega), if_pos rfl]
      exact hl'
    · rw [if_neg hne, if_neg e]
      by_cases e2 : (i - 1) / 2 = p
      · rw [if_pos e2]
        have := h.1 i i0 hi e
        rw [e2] at this
        exact le_trans hl' this
      · rw [if_neg e2]
        by_cases e3 : (i - 1) / 2 = j
        · rw [if_pos e3]
          have := h.2 h0 i i0 hi e3
          rw [hpp] at this
          exact this
        · rw [if_neg e3]
          exact h.1 i i0 hi e
  · rw [gt_swp _ _ _ _ (by omega) (by omega), gt_swp _ _ _ _ (by omega) (by omega)]
    rw [if_neg (show ¬ (p - 1) / 2 = p by omega), if_neg (show ¬ (p - 1) / 2 = j by omega)]
    have hpp1 := h.1 p p0 (by omega) (by omega)
    by_cases e : i = j
    · subst e
      rw [if_neg (by omega), if_pos rfl]
      exact hpp1
    · rw [if_neg (by omega), if_neg e]
      have := h.1 i i0 hi e
      rw [hip] at this
      exact le_trans hpp1 this

/-- A heap but for the one at i, that may have to go down. -/
def HeapDown (a : Array Pt) (n i : Nat) : Prop :=
  (∀ k, 0 < k → k < n → (k - 1) / 2 ≠ i → le (gt a ((k - 1) / 2)) (gt a k)) ∧ (0 < i → ∀ k, 0 < k → k < n → (k - 1) / 2 = i → le (gt a ((i - 1) / 2)) (gt a k))

theorem HeapDown.done {a : Array Pt} {n i : Nat} (h : HeapDown a n i) (hc : ∀ k, 0 < k → k < n → (k - 1) / 2 = i → le (gt a i) (gt a k)) : Heap a n := by
  intro k h0 hk
  by_cases e : (k - 1) / 2 = i
  · rw [e]; exact hc k h0 hk e
  · exact h.1 k h0 hk e

theorem HeapDown.step {a : Array Pt} {n i j : Nat} (h : HeapDown a n i) (h0 : 0 < j) (hj : j < n) (hn : n ≤ a.size) (hp : (j - 1) / 2 = i) (hl : aheadB (gt a j) (gt a i) = true)
    (hb : ∀ k, 0 < k → k < n → (k - 1) / 2 = i → le (gt a j) (gt a k)) : HeapDown (swp a i j) n j := by
  have hij : i < j := by omega
  refine ⟨fun k k0 hk hne => ?_, fun j0 k k0 hk hkj => ?_⟩
  · rw [gt_swp _ _ _ _ (by omega) (by omega), gt_swp _ _ _ _ (by omega) (by omega)]
    rw [if_neg (show ¬ (k - 1) / 2 = j from hne)]
    by_cases e : (k - 1) / 2 = i
    · rw [if_pos e, if_neg (by omega)]
      by_cases e2 : k = j
      · rw [if_pos e2]
        exact le_of_ahead hl
      · rw [if_neg e2]
        exact hb k k0 hk e
    · rw [if_neg e]
      have h1 := h.1 k k0 hk e
      by_cases e2 : k = i
      · subst e2
        rw [if_pos rfl]
        exact h.2 k0 j h0 hj hp
      · rw [if_neg e2, if_neg (by omega)]
        exact h1
  · rw [gt_swp _ _ _ _ (by omega) (by omega), gt_swp _ _ _ _ (by omega) (by omega)]
    rw [hp, if_pos rfl, if_neg (by omega), if_neg (by omega)]
    have := h.1 k k0 hk (by omega)
    rw [hkj] at this
    exact this

/-- A new one at the end: it may have to go up. -/
theorem Heap.push {a : Array Pt} {x : Pt} (h : Heap a a.size) : HeapUp (a.push x) (a.size + 1) a.size := by
  have e : ∀ i, i < a.size → gt (a.push x) i = gt a i := by
    intro i hi
    unfold gt
    simp only [Array.getD, Array.size_push, hi, show i < a.size + 1 by omega, dif_pos]
    show (a.push x)[i]'_ = a[i]
    rw [Array.getElem_push, dif_pos hi]
  refine ⟨fun i i0 hi hne => ?_, fun h0 i i0 hi hp => by omega⟩
  rw [e i (by omega), e _ (by omega)]
  exact h i i0 (by omega)

/-- The top has gone to the end: who came to the top may have to go down. -/
theorem Heap.pop {a : Array Pt} {n : Nat} (h : Heap a (n + 1)) (hs : a.size = n + 1) : HeapDown (swp a 0 n) n 0 := by
  refine ⟨fun k k0 hk hne => ?_, fun h0 => by omega⟩
  rw [gt_swp _ _ _ _ (by omega) (by omega), gt_swp _ _ _ _ (by omega) (by omega)]
  rw [if_neg hne, if_neg (by omega), if_neg (by omega), if_neg (by omega)]
  exact h k k0 (by omega)

/-! ### Sorted lists -/
def Sorted (l : List Pt) : Prop := l.Pairwise le

def ins (x : Pt) : List Pt → List Pt
  | [] => [x]
  | y :: l => if aheadB x y then x :: y :: l else y :: ins x l

theorem ins_perm (x : Pt) : ∀ l, (ins x l).Perm (x :: l)
  | [] => List.Perm.refl _
  | y :: l => by
    unfold ins
    by_cases h : aheadB x y = true
    · rw [if_pos h]
    · rw [if_neg h]
      exact ((ins_perm x l).cons y).trans (List.Perm.swap x y l)

theorem length_ins (x : Pt) (l : List Pt) : (ins x l).length = l.length + 1 := by simpa using (ins_perm x l).length_eq

theorem ins_sorted (x : Pt) : ∀ l, Sorted l → Sorted (ins x l)
  | [], _ => List.pairwise_singleton _ _
  | y :: l, h => by
    unfold Sorted at h
    rw [List.pairwise_cons] at h
    unfold ins
    by_cases hx : aheadB x y = true
    · rw [if_pos hx]
      refine List.pairwise_cons.2 ⟨fun z hz => ?_, List.pairwise_cons.2 h⟩
      rcases List.mem_cons.1 hz with rfl | hz
      · exact le_of_ahead hx
      · exact le_trans (le_of_ahead hx) (h.1 z hz)
    · rw [if_neg hx]
      refine List.pairwise_cons.2 ⟨fun z hz => ?_, ins_sorted x l h.2⟩
      rcases List.mem_cons.1 ((ins_perm x l).mem_iff.1 hz) with rfl | hz
      · exact (Bool.not_eq_true _).mp hx
      · exact h.1 z hz

theorem sorted_unique {l m : List Pt} (hl : Sorted l) (hm : Sorted m) (h : l.Perm m) : l = m :=
  h.eq_of_pairwise (fun a b _ _ h1 h2 => le_antisymm h1 h2) hl hm

/-- The top of a heap of a sorted list is its head. -/
theorem head_of_top {a : Array Pt} {x : Pt} {l : List Pt} (hs : Sorted (x :: l)) (hh : Heap a a.size) (hp : a.toList.Perm (x :: l)) : gt a 0 = x := by
  have hn : a.size = l.length + 1 := by simpa using hp.length_eq
  have hmem : ∀ i, i < a.size → gt a i ∈ a.toList := by
    intro i hi
    unfold gt
    simp [Array.getD, hi]
  obtain ⟨i, hi, he⟩ := Array.mem_iff_getElem.1 (Array.mem_toList_iff.1 (hp.symm.mem_iff.1 (List.mem_cons_self (a := x) (l := l))))
  have e : gt a i = x := by unfold gt; simp [Array.getD, hi, he]
  have h1 := hh.top i hi
  rw [e] at h1
  have h2 : le x (gt a 0) := by
    have h0 := hp.mem_iff.1 (hmem 0 (by omega))
    rcases List.mem_cons.1 h0 with h0 | h0
    · rw [h0]; exact le_refl _
    · exact (List.pairwise_cons.1 hs).1 _ h0
  exact le_antisymm h1 h2

/-- Who is left, behind a pop. -/
theorem left_perm {a b : Array Pt} {x : Pt} {l : List Pt} (hs : Sorted (x :: l)) (hh : Heap a a.size) (hp : a.toList.Perm (x :: l)) (hb : b.toList.Perm a.toList) (n : Nat) (hn : b.size = n + 1) (hlast : gt b n = gt a 0) : b.pop.toList.Perm l := by
  have h0 := head_of_top hs hh hp
  have hne : b.toList ≠ [] := by intro h; have : b.toList.length = n + 1 := by simpa using hn
                                 rw [h] at this; simp at this
  have h1 : b.toList = b.pop.toList ++ [x] := by
    rw [Array.toList_pop]
    have h2 : b.toList.getLast hne = x := by
      rw [← h0, ← hlast]
      unfold gt
      have hl : b.toList.length = n + 1 := by simpa using hn
      rw [List.getLast_eq_getElem]
      simp [Array.getD, hn]
    rw [← h2]
    exact (List.dropLast_concat_getLast hne).symm
  have h3 : (b.pop.toList ++ [x]).Perm (x :: l) := by rw [← h1]; exact hb.trans hp
  exact (List.perm_append_singleton x _ |>.symm.trans h3).cons_inv

/-! ### The order of ranks -/
def ord (f : Nat → Int) : Nat → List Pt
  | 0 => []
  | k + 1 => ins (f k, (k : Int)) (ord f k)

theorem ord_sorted (f : Nat → Int) : ∀ k, Sorted (ord f k)
  | 0 => List.Pairwise.nil
  | k + 1 => ins_sorted _ _ (ord_sorted f k)

theorem ord_length (f : Nat → Int) : ∀ k, (ord f k).length = k
  | 0 => rfl
  | k + 1 => by rw [ord, length_ins, ord_length f k]

theorem ord_perm (f : Nat → Int) : ∀ k, (ord f k).Perm ((List.range k).map fun i => (f i, (i : Int)))
  | 0 => List.Perm.refl _
  | k + 1 => by
    rw [List.range_succ, List.map_append]
    exact (ins_perm _ _).trans (((ord_perm f k).cons _).trans (List.perm_append_singleton _ _).symm)

theorem ord_mem (f : Nat → Int) (k : Nat) : ∀ x ∈ ord f k, ∃ i : Nat, i < k ∧ x = (f i, (i : Int)) := by
  intro x hx
  have := (ord_perm f k).mem_iff.1 hx
  obtain ⟨i, hi, rfl⟩ := List.mem_map.1 this
  exact ⟨i, List.mem_range.1 hi, rfl⟩

theorem ord_congr {f g : Nat → Int} : ∀ k, (∀ i, i < k → f i = g i) → ord f k = ord g k
  | 0, _ => rfl
  | k + 1, h => by rw [ord, ord, ord_congr k (fun i hi => h i (by omega)), h k (by omega)]

/-- In the order of ranks each is strictly ahead of all behind it. -/
theorem ord_strict (f : Nat → Int) (k : Nat) : (ord f k).Pairwise fun x y => aheadB x y = true := by
  have h1 := ord_sorted f k
  have h2 : (ord f k).Pairwise fun x y => x ≠ y := by
    have : ((List.range k).map fun i => (f i, (i : Int))).Nodup := by
      apply List.Pairwise.map _ _ (List.nodup_range (n := k))
      intro a b hab h
      injection h with _ h
      exact hab (by omega)
    exact ((ord_perm f k).nodup_iff).2 this
  refine (h1.and h2).imp ?_
  rintro x y ⟨h, hne⟩
  by_cases ha : aheadB x y = true
  · exact ha
  · exact absurd (le_antisymm h ((Bool.not_eq_true _).mp ha)) hne

end Go.Proofs.Ytdmpnkhgcggepaa.Qu
end

section
set_option linter.unusedVariables false
namespace Go.Proofs.Ytdmpnkhgcggepaa.Qu
open Go.RowKit

def cells2 (l : List Pt) : List Value := l.flatMap fun p => [.int .i64 p.1, .int .i64 p.2]

theorem cells2_nil : cells2 [] = [] := rfl

theorem cells2_cons (p : Pt) (l : List Pt) : cells2 (p :: l) = .int .i64 p.1 :: .int .i64 p.2 :: cells2 l := rfl

theorem cells2_append (l m : List Pt) : cells2 (l ++ m) = cells2 l ++ cells2 m := List.flatMap_append

theorem cells2_length : ∀ l, (cells2 l).length = l.length * 2
  | [] => rfl
  | p :: l => by rw [cells2_cons, List.length_cons, List.length_cons, cells2_length l, List.length_cons]; omega

theorem cells2_at0 : ∀ (l : List Pt) (i : Nat), (cells2 l)[i * 2]? = l[i]?.map fun p => Value.int .i64 p.1
  | [], i => by simp [cells2_nil]
  | p :: l, 0 => by simp [cells2_cons]
  | p :: l, i + 1 => by
    rw [cells2_cons, show (i + 1) * 2 = i * 2 + 1 + 1 by omega, List.getElem?_cons_succ, List.getElem?_cons_succ, cells2_at0 l i, List.getElem?_cons_succ]

theorem cells2_at1 : ∀ (l : List Pt) (i : Nat), (cells2 l)[i * 2 + 1]? = l[i]?.map fun p => Value.int .i64 p.2
  | [], i => by simp [cells2_nil]
  | p :: l, 0 => by simp [cells2_cons]
  | p :: l, i + 1 => by
    rw [cells2_cons, show (i + 1) * 2 + 1 = i * 2 + 1 + 1 + 1 by omega, List.getElem?_cons_succ, List.getElem?_cons_succ, cells2_at1 l i, List.getElem?_cons_succ]

theorem cells2_one (l : List Pt) : ∀ u ∈ cells2 l, u.oneCell' = true := by
  intro u hu
  obtain ⟨p, _, hp⟩ := List.mem_flatMap.1 hu
  simp at hp
  rcases hp with rfl | rfl <;> rfl

theorem toList_gt (a : Array Pt) (i : Nat) (hi : i < a.size) : a.toList[i]? = some (gt a i) := by
  unfold gt
  simp [Array.getD, hi]

theorem cells2_set (l : List Pt) (i : Nat) (x : Pt) (hi : i < l.length) : cells2 (l.set i x) = ((cells2 l).set (i * 2) (.int .i64 x.1)).set (i * 2 + 1) (.int .i64 x.2) := by
  induction l generalizing i with
  | nil => simp at hi
  | cons p l ih =>
    cases i with
    | zero => simp [cells2_cons]
    | succ i =>
      rw [List.set_cons_succ, cells2_cons, cells2_cons, show (i + 1) * 2 + 1 = i * 2 + 1 + 1 + 1 by omega, show (i + 1) * 2 = i * 2 + 1 + 1 by omega, List.set_cons_succ, List.set_cons_succ, List.set_cons_succ, List.set_cons_succ, ih i (by simpa using hi)]

theorem cells2_swp (a : Array Pt) (i j : Nat) (hi : i < a.size) (hj : j < a.size) :
    cells2 (swp a i j).toList = ((((cells2 a.toList).set (i * 2) (.int .i64 (gt a j).1)).set (i * 2 + 1) (.int .i64 (gt a j).2)).set (j * 2) (.int .i64 (gt a i).1)).set (j * 2 + 1) (.int .i64 (gt a i).2) := by
  have e : (swp a i j).toList = (a.toList.set i (gt a j)).set j (gt a i) := by
    unfold swp gt
    rw [Array.swapIfInBounds_def, dif_pos hi, dif_pos hj, Array.toList_swap]
    simp only [Array.getD, hi, hj, dif_pos]
    rfl
  rw [e, cells2_set _ _ _ (by simpa using hj), cells2_set _ _ _ (by simpa using hi)]

section
variable {w : World} {B E g n cap : Nat} {a : Array Pt}

/-- The cells of a's elements. -/
theorem row_cell0 (h : w.ownsRow B E 2 (.slice (some ⟨g, 0, none⟩) n cap) n (cells2 a.toList)) (hs : a.size = n) (i : Nat) (hi : i < n) : w.cell? ⟨g, i * 2, none⟩ = some (.int .i64 (gt a i).1) := by
  rw [h.cellAt _ (by omega), cells2_at0, toList_gt a i (by omega)]
  rfl

theorem row_cell1 (h : w.ownsRow B E 2 (.slice (some ⟨g, 0, none⟩) n cap) n (cells2 a.toList)) (hs : a.size = n) (i : Nat) (hi : i < n) : w.cell? ⟨g, i * 2 + 1, none⟩ = some (.int .i64 (gt a i).2) := by
  rw [h.cellAt _ (by omega), cells2_at1, toList_gt a i (by omega)]
  rfl

theorem row_len (h : w.ownsRow B E 2 (.slice (some ⟨g, 0, none⟩) n cap) n (cells2 a.toList)) : a.size = n := by
  have := h.1
  rw [cells2_length] at this
  simp at this
  omega

theorem row_drewN {v : Value} {xs : List Value} {size : Nat} (h : w.ownsRow B E size v n xs) (k : Nat) : (w.drewN k).ownsRow B E size v n xs := h

theorem row_drew {v : Value} {xs : List Value} {size : Nat} (h : w.ownsRow B E size v n xs) : w.drew.ownsRow B E size v n xs := h

theorem row_cap {xs : List Value} {size : Nat} (h : w.ownsRow B E size (.slice (some ⟨g, 0, none⟩) n cap) n xs) : n ≤ cap ∧ (cap : Int) ≤ 9223372036854775807 := by
  rcases h.2 with ⟨h0, _⟩ | ⟨g', cap', cur, hv, hg, hh, hn, hcap, _⟩
  · cases h0
  · cases hv
    unfold maxLen at hcap
    exact ⟨hn, by omega⟩

/-- One fewer. -/
theorem row_pop (h : w.ownsRow B E 2 (.slice (some ⟨g, 0, none⟩) (n + 1) cap) (n + 1) (cells2 a.toList)) (hs : a.size = n + 1) : w.ownsRow B E 2 (.slice (some ⟨g, 0, none⟩) n cap) n (cells2 a.pop.toList) := by
  obtain ⟨h1, h2⟩ := h
  rcases h2 with ⟨h0, _⟩ | ⟨g', cap', cur, hv, hg, hh, hn, hcap, hsz, htake⟩
  · cases h0
  · cases hv
    refine ⟨by rw [cells2_length]; simp [hs], .inr ⟨g, cap, cur, rfl, hg, hh, by omega, hcap, hsz, ?_⟩⟩
    have hne : a.toList ≠ [] := by intro h; have : a.toList.length = n + 1 := by simpa using hs
                                   rw [h] at this; simp at this
    have e : cells2 a.toList = cells2 a.pop.toList ++ cells2 [a.toList.getLast hne] := by
      rw [← cells2_append, Array.toList_pop, List.dropLast_concat_getLast]
    have h3 : (cur.toList.take ((n + 1) * 2)).take (n * 2) = (cells2 a.toList).take (n * 2) := by rw [htake]
    rw [List.take_take, Nat.min_eq_left (by omega)] at h3
    rw [h3, e]
    exact List.take_left' (by rw [cells2_length]; simp [hs])
end

/-- Draws turn nothing. -/
theorem below_draws {B : Nat} {a w : World} (h : Below B a w) (n : Nat) : Below B a (w.drewN n) := ⟨h.os, h.tape, h.output, h.size, h.block⟩

theorem below_undrew {w w' : World} (h : Below w.drew.heap.size w.drew w') : Below w.heap.size w w' := ⟨h.os, h.tape, h.output, h.size, h.block⟩

/-! ### Of the old blocks one alone has turned -/
theorem turned_drew {a w : World} {row : Option Nat} (h : a.grownBy w row) : a.grownBy w.drew row := ⟨h.os, h.tape, h.output, h.size, h.block⟩

theorem turned_at (w : World) (g i : Nat) (u : Value) : w.grownBy (w.setCell ⟨g, i, none⟩ u) (some g) :=
  ⟨rfl, rfl, rfl, by simp [World.setCell], fun k _ hk => Below.heap_setCell w ⟨g, i, none⟩ u k fun e => hk (congrArg some e)⟩

theorem turned_none {a w : World} (h : Below a.heap.size a w) (row : Option Nat) : a.grownBy w row := ⟨h.os, h.tape, h.output, h.size, fun i hi _ => h.block i hi⟩

/-- A row of one's own, where nothing old has turned. -/
theorem row_below {w w' : World} {B E size n : Nat} {v : Value} {xs : List Value} (h : w.ownsRow B E size v n xs) (hb : Below w.heap.size w w') : w'.ownsRow B E size v n xs := by
  refine h.kept (row := none) ⟨hb.os, hb.tape, hb.output, hb.size, fun i hi _ => hb.block i hi⟩ ?_
  cases hv : v.ownBlock <;> simp

/-! ### Boxes -/
/-- Block g is a box of these cells; all of them may be written. -/
structure Blk (w : World) (g : Nat) (t : TypeId) (cs : Array Value) : Prop where
  here : w.heap[g]? = some (.cells cs t (0, 0))

section
variable {w w' : World} {g : Nat} {t : TypeId} {cs : Array Value}
/-- Where the block is what it was, so is the box. -/
theorem Blk.as (h : Blk w g t cs) (e : w'.heap[g]? = w.heap[g]?) : Blk w' g t cs := ⟨e.trans h.here⟩

theorem Blk.lt (h : Blk w g t cs) : g < w.heap.size := (Array.getElem?_eq_some_iff.1 h.here).1

theorem Blk.cell (h : Blk w g t cs) (i : Nat) : w.cell? ⟨g, i, none⟩ = cs[i]? := cell_of_row w g i cs t (0, 0) h.here

theorem Blk.frozen (h : Blk w g t cs) (i : Nat) : w.frozen? ⟨g, i, none⟩ = false := frozen_of_row w g i cs t h.here

theorem Blk.new (w : World) (t : TypeId) (cs : Array Value) : Blk (w.alloc (.cells cs t)) w.heap.size t cs := ⟨heap_alloc_new w _⟩

theorem Blk.put (h : Blk w g t cs) (i : Nat) (u : Value) : Blk (w.setCell ⟨g, i, none⟩ u) g t (cs.setIfInBounds i u) := ⟨heap_setCell_same w g i cs t u h.here⟩

theorem Blk.below (h : Blk w g t cs) (hb : Below w.heap.size w w') : Blk w' g t cs := h.as (hb.block g h.lt)

theorem Blk.grown {row : Option Nat} (h : Blk w g t cs) (hb : w.grownBy w' row) (hg : some g ≠ row) : Blk w' g t cs := h.as (hb.block g h.lt hg)

theorem Blk.alloc (h : Blk w g t cs) (o : Obj) : Blk (w.alloc o) g t cs := h.as (Below.heap_alloc w o g h.lt)

theorem Blk.drew (h : Blk w g t cs) : Blk w.drew g t cs := h.as rfl
end

/-- Blocks of two types are two blocks. -/
theorem own_ne_blk {w : World} {B E size n g cap q t : Nat} {xs : List Value} {cs : Array Value} (h : w.ownsRow B E size (.slice (some ⟨g, 0, none⟩) n cap) n xs) (hq : Blk w q t cs) (hne : E ≠ t) : g ≠ q := by
  rintro rfl
  rcases h.2 with ⟨h0, _⟩ | ⟨g', cap', cur, hv, _, hh, _⟩
  · cases h0
  · cases hv
    rw [hq.here] at hh
    injection hh with hh
    injection hh with _ ht
    exact hne ht.symm

end Go.Proofs.Ytdmpnkhgcggepaa.Qu
end

section
set_option linter.unusedVariables false
namespace Go.Proofs.Ytdmpnkhgcggepaa.Mv
open Go.RowKit
open Qu (Blk)

/-- Of the blocks that there were, those in S alone may have turned. -/
structure Only (w w' : World) (S : Nat → Prop) : Prop where
  os : w'.os = w.os
  tape : w'.tape = w.tape
  output : w'.output = w.output
  size : w.heap.size ≤ w'.heap.size
  block : ∀ k, k < w.heap.size → ¬ S k → w'.heap[k]? = w.heap[k]?

section
variable {a b c w w' : World} {S T : Nat → Prop} {B : Nat}
theorem Only.refl (w : World) (S : Nat → Prop) : Only w w S := ⟨rfl, rfl, rfl, Nat.le_refl _, fun _ _ _ => rfl⟩

theorem Only.trans (h : Only a b S) (k : Only b c T) (f : ∀ i, i < a.heap.size → T i → S i) : Only a c S :=
  ⟨k.os.trans h.os, k.tape.trans h.tape, k.output.trans h.output, Nat.le_trans h.size k.size, fun i hi hs => (k.block i (Nat.lt_of_lt_of_le hi h.size) (fun ht => hs (f i hi ht))).trans (h.block i hi hs)⟩

theorem Only.mono (h : Only w w' S) (f : ∀ i, i < w.heap.size → S i → T i) : Only w w' T := ⟨h.os, h.tape, h.output, h.size, fun k hk ht => h.block k hk fun hs => ht (f k hk hs)⟩

theorem Only.ofBelow (h : Below w.heap.size w w') (S : Nat → Prop) : Only w w' S := ⟨h.os, h.tape, h.output, h.size, fun k hk _ => h.block k hk⟩

theorem Only.ofGrown {row : Option Nat} (h : w.grownBy w' row) (f : ∀ k, row = some k → S k) : Only w w' S :=
  ⟨h.os, h.tape, h.output, h.size, fun k hk hs => h.block k hk fun e => hs (f k e.symm)⟩

theorem Only.toBelow (h : Only w w' S) (hB : B ≤ w.heap.size) (f : ∀ k, k < B → ¬ S k) : Below B w w' := ⟨h.os, h.tape, h.output, h.size, fun k hk => h.block k (by omega) (f k hk)⟩

theorem Only.below (h : Only a b S) (k : Below b.heap.size b c) : Only a c S := h.trans (Only.ofBelow k S) fun _ _ hs => hs

theorem Only.grown {row : Option Nat} (h : Only a b S) (k : b.grownBy c row) (f : ∀ i, row = some i → i < a.heap.size → S i) : Only a c S :=
  ⟨k.os.trans h.os, k.tape.trans h.tape, k.output.trans h.output, Nat.le_trans h.size k.size, fun i hi hs => (k.block i (Nat.lt_of_lt_of_le hi h.size) (fun e => hs (f i e.symm hi))).trans (h.block i hi hs)⟩

theorem Only.put (h : Only a b S) {g i : Nat} (u : Value) (f : g < a.heap.size → S g) : Only a (b.setCell ⟨g, i, none⟩ u) S :=
  h.grown (Qu.turned_at b g i u) fun k hk hl => by injection hk with hk; subst hk; exact f hl

theorem Only.alloc (h : Only a b S) (o : Obj) : Only a (b.alloc o) S := h.below ((Below.refl _ _).alloc (Nat.le_refl _) _)

theorem Only.drew (h : Only a b S) : Only a b.drew S := ⟨h.os, h.tape, h.output, h.size, h.block⟩

theorem Only.drewN (h : Only a b S) (n : Nat) : Only a (b.drewN n) S := ⟨h.os, h.tape, h.output, h.size, h.block⟩

theorem Only.cell (h : Only w w' S) {g o : Nat} (hg : g < w.heap.size) (hs : ¬ S g) : w'.cell? ⟨g, o, none⟩ = w.cell? ⟨g, o, none⟩ := World.cell?_of_block (h.block g hg hs)

theorem blk_only {g : Nat} {t : TypeId} {cs : Array Value} (h : Blk w g t cs) (k : Only w w' S) (hs : ¬ S g) : Blk w' g t cs := h.as (k.block g h.lt hs)

theorem own_only {B e size n : Nat} {v : Value} {xs : List Value} (h : w.ownsRow B e size v n xs) (k : Only w w' S) (hs : ∀ g, v.ownBlock = some g → ¬ S g) : w'.ownsRow B e size v n xs := by
  refine ⟨h.1, ?_⟩
  rcases h.2 with hn | ⟨g, cap, cur, rfl, hb, hg, rest⟩
  · exact .inl hn
  · exact .inr ⟨g, cap, cur, rfl, hb, (k.block g (Array.getElem?_eq_some_iff.1 hg).1 (hs g rfl)).trans hg, rest⟩
end

/-- One block; two of them. -/
def one (q : Nat) : Nat → Prop := fun k => k = q

def two (q : Nat) (r : Option Nat) : Nat → Prop := fun k => k = q ∨ some k = r

/-- A row is the elder one, or new. -/
def Fresh (w : World) (r r' : Option Nat) : Prop := r' = r ∨ ∃ k, r' = some k ∧ w.heap.size ≤ k

theorem Fresh.refl (w : World) (r : Option Nat) : Fresh w r r := .inl rfl

theorem Fresh.trans {a b : World} {r s t : Option Nat} (h : Fresh a r s) (k : Fresh b s t) (hs : a.heap.size ≤ b.heap.size) : Fresh a r t := by
  rcases k with rfl | ⟨j, rfl, hj⟩
  · exact h
  · exact .inr ⟨j, rfl, by omega⟩

theorem Only.more {a b c : World} {q : Nat} {r s : Option Nat} (h : Only a b (two q r)) (k : Only b c (two q s)) (f : Fresh a r s) : Only a c (two q r) :=
  h.trans k fun i hi hs => by
    rcases hs with hs | hs
    · exact .inl hs
    · rcases f with rfl | ⟨j, rfl, hj⟩
      · exact .inr hs
      · injection hs with hs; omega

theorem ownBlock_some (g o n cap : Nat) (c : Option Nat) : (Value.slice (some ⟨g, o, c⟩) n cap).ownBlock = some g := rfl

/-- A row and a box of another type are two blocks. -/
theorem own_blk_ne {w : World} {B E size n q t : Nat} {v : Value} {xs : List Value} {cs : Array Value} (h : w.ownsRow B E size v n xs) (hq : Blk w q t cs) (hne : E ≠ t) : ∀ g, v.ownBlock = some g → g ≠ q := by
  intro g hg
  rcases h.2 with ⟨rfl, _⟩ | ⟨g', cap, cur, rfl, _⟩
  · simp [Value.ownBlock] at hg
  · have := Qu.own_ne_blk h hq hne
    rw [ownBlock_some] at hg
    injection hg with hg
    omega

theorem own_value {w : World} {B E size n : Nat} {v : Value} {xs : List Value} (h : w.ownsRow B E size v n xs) : ∃ A c, v = .slice A n c := by
  rcases h.2 with ⟨rfl, rfl⟩ | ⟨g, cap, cur, rfl, _⟩
  · exact ⟨none, 0, rfl⟩
  · exact ⟨_, _, rfl⟩

theorem own_cap {w : World} {B E size n c : Nat} {A : Option Addr} {xs : List Value} (h : w.ownsRow B E size (.slice A n c) n xs) : n ≤ c ∧ c ≤ 9223372036854775807 := by
  rcases h.2 with ⟨h0, rfl⟩ | ⟨g', cap', cur, hv, hg, hh, hn, hcap, _⟩
  · injection h0 with _ _ h0; omega
  · injection hv with _ _ hc
    subst hc
    unfold maxLen at hcap
    exact ⟨hn, by omega⟩

theorem own_none {w : World} {B E size n c : Nat} {A : Option Addr} {xs : List Value} (h : w.ownsRow B E size (.slice A n c) n xs) : A = none → n = 0 ∧ c = 0 := by
  intro e
  subst e
  rcases h.2 with ⟨h0, h1⟩ | ⟨g, cap, cur, hv, _⟩
  · injection h0 with _ _ h0
    exact ⟨h1, h0⟩
  · cases hv

end Go.Proofs.Ytdmpnkhgcggepaa.Mv
end

section
set_option linter.unusedVariables false
namespace Go.Proofs.Ytdmpnkhgcggepaa.By

/-- A number in groups of seven bits, the lowest first. -/
def num (v : Nat) : List UInt8 := if v < 128 then [UInt8.ofNat v] else UInt8.ofNat (v % 128 + 128) :: num (v / 128)
termination_by v

theorem num_lt {v : Nat} (h : v < 128) : num v = [UInt8.ofNat v] := by rw [num, if_pos h]

theorem num_ge {v : Nat} (h : 128 ≤ v) : num v = UInt8.ofNat (v % 128 + 128) :: num (v / 128) := by rw [num, if_neg (by omega)]

theorem toNat_small {v : Nat} (h : v < 256) : (UInt8.ofNat v).toNat = v := by rw [UInt8.toNat_ofNat']; omega

theorem num_ne (v : Nat) : num v ≠ [] := by
  rcases Nat.lt_or_ge v 128 with h | h
  · rw [num_lt h]; simp
  · rw [num_ge h]; simp

theorem num_pos (v : Nat) : 0 < (num v).length := List.length_pos_iff.2 (num_ne v)

theorem num_length : ∀ (k v : Nat), v < 128 ^ (k + 1) → (num v).length ≤ k + 1
  | 0, v, h => by rw [num_lt (by omega)]; simp
  | k + 1, v, h => by
    rcases Nat.lt_or_ge v 128 with h1 | h1
    · rw [num_lt h1]; simp
    · rw [num_ge h1, List.length_cons]
      have := num_length k (v / 128) (by rw [Nat.div_lt_iff_lt_mul (by omega)]; rw [Nat.pow_succ] at h; exact h)
      omega

theorem num_nine {v : Nat} (h : v ≤ 9223372036854775807) : (num v).length ≤ 9 := num_length 8 v (by omega)

/-- How many bytes ahead go on. -/
def lead : List UInt8 → Nat
  | [] => 0
  | b :: l => if 128 ≤ b.toNat then lead l + 1 else 0

/-- What the bytes say, seven bits each. -/
def valU : List UInt8 → Nat
  | [] => 0
  | b :: l => b.toNat % 128 + 128 * valU l

theorem lead_le : ∀ l, lead l ≤ l.length
  | [] => Nat.le_refl _
  | b :: l => by
    unfold lead
    have := lead_le l
    split <;> simp <;> omega

theorem lead_on : ∀ (l : List UInt8) (j : Nat), j < lead l → ∃ b, l[j]? = some b ∧ 128 ≤ b.toNat
  | [], j, h => by simp [lead] at h
  | b :: l, j, h => by
    unfold lead at h
    by_cases hb : 128 ≤ b.toNat
    · rw [if_pos hb] at h
      cases j with
      | zero => exact ⟨b, rfl, hb⟩
      | succ j => simpa using lead_on l j (by omega)
    · rw [if_neg hb] at h; omega

theorem lead_off : ∀ (l : List UInt8), lead l < l.length → ∃ b, l[lead l]? = some b ∧ b.toNat < 128
  | [], h => by simp at h
  | b :: l, h => by
    unfold lead at h ⊢
    by_cases hb : 128 ≤ b.toNat
    · rw [if_pos hb] at h ⊢
      simpa using lead_off l (by simpa using h)
    · rw [if_neg hb]
      exact ⟨b, rfl, by omega⟩

/-- Where the first that does not go on stands. -/
theorem lead_eq : ∀ (l : List UInt8) (k : Nat) (b : UInt8), (∀ j, j < k → ∃ c, l[j]? = some c ∧ 128 ≤ c.toNat) → l[k]? = some b → b.toNat < 128 → lead l = k
  | [], k, b, _, h, _ => by simp at h
  | a :: l, 0, b, _, h, hb => by
    obtain rfl : a = b := by simpa using h
    unfold lead; rw [if_neg (by omega)]
  | a :: l, k + 1, b, ha, h, hb => by
    obtain ⟨c, hc, hc2⟩ := ha 0 (by omega)
    obtain rfl : a = c := by simpa using hc
    unfold lead
    rw [if_pos hc2, lead_eq l k b (fun j hj => by simpa using ha (j + 1) (by omega)) (by simpa using h) hb]

theorem lead_ge : ∀ (l : List UInt8) (k : Nat), (∀ j, j < k → ∃ c, l[j]? = some c ∧ 128 ≤ c.toNat) → k ≤ lead l
  | l, 0, _ => Nat.zero_le _
  | [], k + 1, ha => by obtain ⟨c, hc, _⟩ := ha 0 (by omega); simp at hc
  | a :: l, k + 1, ha => by
    obtain ⟨c, hc, hc2⟩ := ha 0 (by omega)
    obtain rfl : a = c := by simpa using hc
    unfold lead
    rw [if_pos hc2]
    have := lead_ge l k (fun j hj => by simpa using ha (j + 1) (by omega))
    omega

theorem valU_take : ∀ (l : List UInt8) (i : Nat) (b : UInt8), l[i]? = some b → valU (l.take (i + 1)) = valU (l.take i) + 128 ^ i * (b.toNat % 128)
  | [], i, b, h => by simp at h
  | a :: l, 0, b, h => by
    obtain rfl : a = b := by simpa using h
    simp [valU]
  | a :: l, i + 1, b, h => by
    have := valU_take l i b (by simpa using h)
    rw [List.take_succ_cons, List.take_succ_cons, valU, valU, this, Nat.mul_add, Nat.pow_succ, ← Nat.mul_assoc, Nat.mul_comm 128 (128 ^ i)]
    omega

theorem valU_lt : ∀ (l : List UInt8) (i : Nat), l.length ≤ i → valU l < 128 ^ i
  | [], i, _ => by simpa [valU] using Nat.pow_pos (by omega)
  | a :: l, 0, h => by simp at h
  | a :: l, i + 1, h => by
    have := valU_lt l i (by simpa using h)
    rw [valU, Nat.pow_succ]
    omega

theorem valU_take_lt (l : List UInt8) (i : Nat) : valU (l.take i) < 128 ^ i := valU_lt _ _ (List.length_take_le _ _)

/-! ### What is written is read -/
theorem lead_num : ∀ (f v : Nat) (m : List UInt8), v ≤ f → lead (num v ++ m) = (num v).length - 1
  | 0, v, m, h => by
    rw [num_lt (by omega)]
    simp only [List.cons_append, List.nil_append, lead]
    rw [toNat_small (by omega), if_neg (by omega)]; rfl
  | f + 1, v, m, h => by
    rcases Nat.lt_or_ge v 128 with h1 | h1
    · rw [num_lt h1]
      simp only [List.cons_append, List.nil_append, lead]
      rw [toNat_small (by omega), if_neg (by omega)]; rfl
    · rw [num_ge h1, List.cons_append, lead, toNat_small (by omega), if_pos (by omega), lead_num f (v / 128) m (by omega), List.length_cons]
      have := num_pos (v / 128)
      omega

theorem num_val : ∀ (f v : Nat), v ≤ f → valU (num v) = v
  | 0, v, h => by rw [num_lt (by omega)]; simp only [valU]; rw [toNat_small (by omega)]; omega
  | f + 1, v, h => by
    rcases Nat.lt_or_ge v 128 with h1 | h1
    · rw [num_lt h1]; simp only [valU]; rw [toNat_small (by omega)]; omega
    · rw [num_ge h1, valU, toNat_small (by omega), num_val f (v / 128) (by omega)]; omega

/-- Its last byte: less than 128, and 0 where it is its only one alone. -/
theorem num_last : ∀ (f v : Nat), v ≤ f → ∃ b, (num v)[(num v).length - 1]? = some b ∧ b.toNat < 128 ∧ (1 < (num v).length → 0 < b.toNat)
  | 0, v, h => by rw [num_lt (by omega)]; exact ⟨_, rfl, by rw [toNat_small (by omega)]; omega, by simp⟩
  | f + 1, v, h => by
    rcases Nat.lt_or_ge v 128 with h1 | h1
    · rw [num_lt h1]; exact ⟨_, rfl, by rw [toNat_small (by omega)]; omega, by simp⟩
    · obtain ⟨b, hb, hb1, hb2⟩ := num_last f (v / 128) (by omega)
      have hp := num_pos (v / 128)
      refine ⟨b, ?_, hb1, fun _ => ?_⟩
      · rw [num_ge h1, List.length_cons]
        have e : (num (v / 128)).length + 1 - 1 = ((num (v / 128)).length - 1) + 1 := by omega
        rw [e, List.getElem?_cons_succ]
        exact hb
      · rcases Nat.lt_or_ge (v / 128) 128 with h2 | h2
        · rw [num_lt h2] at hb
          obtain rfl : UInt8.ofNat (v / 128) = b := by simpa using hb
          rw [toNat_small (by omega)]
          omega
        · refine hb2 ?_
          rw [num_ge h2, List.length_cons]
          have := num_pos (v / 128 / 128)
          omega

/-- All but its last byte go on. -/
theorem num_on (v j : Nat) (h : j + 1 < (num v).length) : ∃ c, (num v)[j]? = some c ∧ 128 ≤ c.toNat := by
  have := lead_num v v [] (Nat.le_refl _)
  rw [List.append_nil] at this
  exact lead_on _ _ (by omega)

/-! ### Reading: which fault, what is read, what is left -/
/-- The byte at a place. -/
def at_ (l : List UInt8) (k : Nat) : Int := ((l.getD k 0).toNat : Int)

theorem at_in (l : List UInt8) (k : Nat) : 0 ≤ at_ l k ∧ at_ l k ≤ 255 := by
  unfold at_
  have := (l.getD k 0).toNat_lt
  omega

theorem at_some {l : List UInt8} {k : Nat} {b : UInt8} (h : l[k]? = some b) : at_ l k = b.toNat := by unfold at_; rw [List.getD, h]; rfl

/-- Where the number ends, or why not. -/
def measE (l : List UInt8) : Int := if 9 ≤ lead l then 4 else if l.length ≤ lead l then 3 else 0

def sayB (l : List UInt8) (least most : Int) : Bool := decide (least ≤ (valU (l.take (lead l + 1)) : Int)) && decide ((valU (l.take (lead l + 1)) : Int) ≤ most)

def longB (l : List UInt8) : Bool := decide (0 < lead l) && (at_ l (lead l) == 0)

/-- The fault of a number. -/
def numE (l : List UInt8) (least most : Int) : Int := if measE l ≠ 0 then measE l else if longB l then 4 else if sayB l least most then 0 else 4

def numV (l : List UInt8) (least most : Int) : Int := if numE l least most = 0 then (valU (l.take (lead l + 1)) : Int) else 0

def numL (l : List UInt8) (least most : Int) : List UInt8 := if numE l least most = 0 then l.drop (lead l + 1) else l

theorem measE_in (l : List UInt8) : measE l = 0 ∨ measE l = 3 ∨ measE l = 4 := by
  unfold measE
  by_cases h : 9 ≤ lead l
  · rw [if_pos h]; simp
  · rw [if_neg h]
    by_cases h2 : l.length ≤ lead l
    · rw [if_pos h2]; simp
    · rw [if_neg h2]; simp

theorem numE_in (l : List UInt8) (least most : Int) : numE l least most = 0 ∨ numE l least most = 3 ∨ numE l least most = 4 := by
  unfold numE
  have := measE_in l
  split
  · exact this
  · split
    · simp
    · split <;> simp

theorem measE_ok {l : List UInt8} (h : measE l = 0) : lead l < 9 ∧ lead l < l.length := by
  unfold measE at h
  split at h
  · omega
  · split at h
    · omega
    · omega

theorem numE_ok {l : List UInt8} {least most : Int} (h : numE l least most = 0) : measE l = 0 ∧ longB l = false ∧ sayB l least most = true := by
  unfold numE at h
  split at h
  · exact absurd h ‹_›
  · split at h
    · omega
    · split at h
      · exact ⟨by omega, by simpa using ‹¬ longB l = true›, ‹_›⟩
      · omega

/-- A number that was written. -/
theorem read_num (v : Nat) (m : List UInt8) (least most : Int) (hv : v ≤ 9223372036854775807) : measE (num v ++ m) = 0 ∧ longB (num v ++ m) = false ∧ valU ((num v ++ m).take (lead (num v ++ m) + 1)) = v ∧ (num v ++ m).drop (lead (num v ++ m) + 1) = m ∧ lead (num v ++ m) = (num v).length - 1 := by
  have hl := lead_num v v m (Nat.le_refl _)
  have hp := num_pos v
  have h9 := num_nine hv
  have e : lead (num v ++ m) + 1 = (num v).length := by omega
  obtain ⟨b, hb, _, hb2⟩ := num_last v v (Nat.le_refl _)
  refine ⟨?_, ?_, ?_, ?_, hl⟩
  · unfold measE
    rw [if_neg (by omega), if_neg (by rw [List.length_append]; omega)]
  · unfold longB
    rcases Nat.eq_zero_or_pos (lead (num v ++ m)) with h0 | h0
    · rw [h0]; rfl
    · rw [hl, at_some (by rw [List.getElem?_append_left (by omega)]; exact hb), Bool.and_eq_false_iff]
      right
      have := hb2 (by omega)
      exact beq_eq_false_iff_ne.2 (by omega)
  · rw [e, List.take_left, num_val v v (Nat.le_refl _)]
  · rw [e, List.drop_left]

theorem numE_num (v : Nat) (m : List UInt8) (least most : Int) (hv : v ≤ 9223372036854775807) (h1 : least ≤ v) (h2 : (v : Int) ≤ most) : numE (num v ++ m) least most = 0 ∧ numV (num v ++ m) least most = v ∧ numL (num v ++ m) least most = m := by
  obtain ⟨a, b, c, d, e⟩ := read_num v m least most hv
  have h : numE (num v ++ m) least most = 0 := by
    unfold numE
    rw [if_neg (by rw [a]; simp), b, if_neg (by simp), if_pos]
    unfold sayB
    rw [c]
    simp [h1, h2]
  refine ⟨h, ?_, ?_⟩
  · unfold numV; rw [if_pos h, c]
  · unfold numL; rw [if_pos h, d]

theorem numE_out (v : Nat) (m : List UInt8) (least most : Int) (hv : v ≤ 9223372036854775807) (h1 : ¬ (least ≤ v ∧ (v : Int) ≤ most)) : numE (num v ++ m) least most = 4 := by
  obtain ⟨a, b, c, d, e⟩ := read_num v m least most hv
  unfold numE
  rw [if_neg (by rw [a]; simp), b, if_neg (by simp), if_neg]
  unfold sayB
  rw [c]
  simp
  omega

/-- A beginning of a number alone ends too early. -/
theorem numE_cut (v k : Nat) (m : List UInt8) (least most : Int) (hv : v ≤ 9223372036854775807) (hk : k < (num v).length) : numE ((num v ++ m).take k) least most = 3 := by
  have h9 := num_nine hv
  have hlen : ((num v ++ m).take k).length = k := by rw [List.length_take, List.length_append]; omega
  have hl : k ≤ lead ((num v ++ m).take k) := lead_ge _ _ fun j hj => by
    obtain ⟨c, hc, hc2⟩ := num_on v j (by omega)
    exact ⟨c, by rw [List.getElem?_take, if_pos hj, List.getElem?_append_left (by omega)]; exact hc, hc2⟩
  have hle := lead_le ((num v ++ m).take k)
  have e : measE ((num v ++ m).take k) = 3 := by
    unfold measE
    rw [if_neg (by omega), if_pos (by omega)]
  unfold numE
  rw [e, if_pos (by omega)]

/-- More bytes than it needs, or more than nine. -/
theorem numE_long (b : List UInt8) (least most : Int) (h : ∀ (j : Nat) (c : UInt8), b[j]? = some c → 128 ≤ c.toNat) (h0 : 0 < b.length) : numE (b ++ [0]) least most = 4 ∧ numV (b ++ [0]) least most = 0 := by
  have hl : lead (b ++ [0]) = b.length := lead_eq _ _ 0 (fun j hj => by
    obtain ⟨c, hc⟩ : ∃ c, b[j]? = some c := ⟨_, List.getElem?_eq_getElem hj⟩
    exact ⟨c, by rw [List.getElem?_append_left hj]; exact hc, h j c hc⟩) (by simp) (by decide)
  have e : numE (b ++ [0]) least most = 4 := by
    unfold numE
    by_cases h9 : 9 ≤ b.length
    · have : measE (b ++ [0]) = 4 := by unfold measE; rw [hl, if_pos h9]
      rw [this, if_pos (by omega)]
    · have : measE (b ++ [0]) = 0 := by unfold measE; rw [hl, if_neg h9, if_neg (by simp)]
      have h2 : longB (b ++ [0]) = true := by
        unfold longB
        rw [hl, at_some (b := 0) (by simp)]
        simpa using h0
      rw [this, if_neg (by simp), h2, if_pos rfl]
  refine ⟨e, ?_⟩
  unfold numV
  rw [if_neg (by omega)]

/-! ### Texts -/
def text (s : List UInt8) : List UInt8 := num s.length ++ s

def flag (b : Bool) : List UInt8 := if b then [1] else [0]

theorem flag_num (b : Bool) : flag b = num (if b then 1 else 0) := by cases b <;> (rw [num_lt (by decide)]; rfl)

/-- What Text reads, its fault, and what it leaves. -/
def textE (l : List UInt8) (most : Int) : Int := if numE l 0 most ≠ 0 then numE l 0 most else if ((numL l 0 most).length : Int) < numV l 0 most then 3 else 0

def textV (l : List UInt8) (most : Int) : List UInt8 := if textE l most = 0 then (numL l 0 most).take (numV l 0 most).toNat else []

def textL (l : List UInt8) (most : Int) : List UInt8 := if textE l most = 0 then (numL l 0 most).drop (numV l 0 most).toNat else numL l 0 most

theorem textE_text (s m : List UInt8) (most : Int) (hs : s.length ≤ 9223372036854775807) (hm : (s.length : Int) ≤ most) : textE (text s ++ m) most = 0 ∧ textV (text s ++ m) most = s ∧ textL (text s ++ m) most = m := by
  unfold text
  rw [List.append_assoc]
  obtain ⟨a, b, c⟩ := numE_num s.length (s ++ m) 0 most hs (by omega) hm
  have h : textE (num s.length ++ (s ++ m)) most = 0 := by
    unfold textE
    rw [a, b, c, if_neg (by simp), if_neg]
    rw [List.length_append]; omega
  refine ⟨h, ?_, ?_⟩
  · unfold textV
    rw [if_pos h, b, c]
    simp
  · unfold textL
    rw [if_pos h, b, c]
    simp

/-- A beginning of a text alone ends too early. -/
theorem textE_cut (s : List UInt8) (k : Nat) (most : Int) (hs : s.length ≤ 9223372036854775807) (hm : (s.length : Int) ≤ most) (hk : k < (text s).length) : textE ((text s).take k) most = 3 ∧ textV ((text s).take k) most = [] := by
  have h : textE ((text s).take k) most = 3 := by
    unfold text at hk ⊢
    rcases Nat.lt_or_ge k (num s.length).length with h | h
    · unfold textE
      rw [numE_cut _ _ _ _ _ hs h, if_pos (by omega)]
    · have e : (num s.length ++ s).take k = num s.length ++ s.take (k - (num s.length).length) := by rw [List.take_append, List.take_of_length_le h]
      rw [e]
      obtain ⟨a, b, c⟩ := numE_num s.length (s.take (k - (num s.length).length)) 0 most hs (by omega) hm
      unfold textE
      rw [a, b, c, if_neg (by simp), if_pos]
      rw [List.length_append] at hk
      rw [List.length_take]
      omega
  refine ⟨h, ?_⟩
  unfold textV
  rw [if_neg (by omega)]

end Go.Proofs.Ytdmpnkhgcggepaa.By
end

section
set_option linter.unusedVariables false
namespace Go.Proofs.Ytdmpnkhgcggepaa.By
open Go.RowKit
open Qu (Blk)
open Mv (Only)

def cellsB (l : List UInt8) : List Value := l.map fun b => .int .u8 (b.toNat : Int)

theorem cellsB_length (l : List UInt8) : (cellsB l).length = l.length := by simp [cellsB]

theorem cellsB_append (l m : List UInt8) : cellsB (l ++ m) = cellsB l ++ cellsB m := by simp [cellsB]

theorem cellsB_at (l : List UInt8) (k : Nat) : (cellsB l)[k]? = l[k]?.map fun b => Value.int .u8 (b.toNat : Int) := by simp [cellsB]

theorem cellsB_one (l : List UInt8) : ∀ u ∈ cellsB l, u.oneCell' = true := by
  intro u hu
  obtain ⟨b, _, rfl⟩ := List.mem_map.1 hu
  rfl

theorem cellsB_str (s : ByteArray) : Lib.strCells s = cellsB s.data.toList := rfl

theorem cellsB_take (l : List UInt8) (k : Nat) : cellsB (l.take k) = (cellsB l).take k := by simp [cellsB]

theorem cellsB_set (l : List UInt8) (i : Nat) (b : UInt8) : cellsB (l.set i b) = (cellsB l).set i (.int .u8 (b.toNat : Int)) := by unfold cellsB; rw [List.map_set]

/-- A slice of n bytes, that reads l, below block M. -/
structure Bys (w : World) (M : Nat) (A : Option Addr) (n : Nat) (l : List UInt8) : Prop where
  len : l.length = n
  cell : ∀ k b, l[k]? = some b → ∃ g o, A = some ⟨g, o, none⟩ ∧ g < M ∧ w.cell? ⟨g, o + k, none⟩ = some (.int .u8 (b.toNat : Int))

section
variable {w w' : World} {M B n c : Nat} {A : Option Addr} {l : List UInt8}
theorem Bys.nil (w : World) (M : Nat) (A : Option Addr) : Bys w M A 0 [] := ⟨rfl, fun k b h => by simp at h⟩

theorem Bys.below (h : Bys w M A n l) (hb : Below B w w') (hM : M ≤ B) : Bys w' M A n l := ⟨h.len, fun k b hk => by
  obtain ⟨g, o, hA, hg, hc⟩ := h.cell k b hk
  exact ⟨g, o, hA, hg, (hb.cell (p := ⟨g, _, none⟩) (by show g < B; omega)).trans hc⟩⟩

theorem Bys.only {S : Nat → Prop} (h : Bys w M A n l) (k : Only w w' S) (hs : ∀ a, A = some a → a.block < M → ¬ S a.block) : Bys w' M A n l := ⟨h.len, fun j b hj => by
  obtain ⟨g, o, hA, hg, hc⟩ := h.cell j b hj
  exact ⟨g, o, hA, hg, (k.cell (World.block_lt_of_cell? w _ hc) (hs ⟨g, o, none⟩ hA hg)).trans hc⟩⟩

theorem Bys.size (h : Bys w M A n l) : Bys w w.heap.size A n l := ⟨h.len, fun k b hk => by
  obtain ⟨g, o, hA, hg, hc⟩ := h.cell k b hk
  exact ⟨g, o, hA, World.block_lt_of_cell? w _ hc, hc⟩⟩

theorem Bys.more (h : Bys w M A n l) (hM : M ≤ B) : Bys w B A n l := ⟨h.len, fun k b hk => by
  obtain ⟨g, o, hA, hg, hc⟩ := h.cell k b hk
  exact ⟨g, o, hA, by omega, hc⟩⟩

theorem Bys.at (h : Bys w M A n l) {k : Nat} (hk : k < n) : ∃ g o, A = some ⟨g, o, none⟩ ∧ g < M ∧ w.cell? ⟨g, o + k, none⟩ = some (.int .u8 (at_ l k)) := by
  have hl : k < l.length := by have := h.len; omega
  obtain ⟨g, o, hA, hg, hc⟩ := h.cell k _ (List.getElem?_eq_getElem hl)
  exact ⟨g, o, hA, hg, by rw [hc, at_some (List.getElem?_eq_getElem hl)]⟩

theorem Bys.own {E : Nat} (h : w.ownsRow B E 1 (.slice A n c) n (cellsB l)) : Bys w w.heap.size A n l := by
  have hl : l.length = n := by have := h.1; rw [cellsB_length] at this; omega
  refine ⟨hl, fun k b hk => ?_⟩
  have hk2 : k < n := by have := (List.getElem?_eq_some_iff.1 hk).1; omega
  obtain ⟨g, cap, hv, _, hlt⟩ := h.form (by omega)
  injection hv with hA hn hc
  subst hA hc
  refine ⟨g, 0, rfl, hlt, ?_⟩
  rw [Nat.zero_add, h.cellAt k (by omega), cellsB_at, hk]
  rfl

theorem Bys.take (h : Bys w M A n l) {k : Nat} (hk : k ≤ n) : Bys w M A k (l.take k) := ⟨by rw [List.length_take, h.len]; omega, fun j b hj => by
  rw [List.getElem?_take] at hj
  split at hj
  · exact h.cell j b hj
  · cases hj⟩

theorem Bys.drop (h : Bys w M A n l) {k : Nat} (hk : k ≤ n) (hc : n ≤ c) : Bys w M (if c = k then A else A.map (·.add k)) (n - k) (l.drop k) := ⟨by rw [List.length_drop, h.len], fun j b hj => by
  rw [List.getElem?_drop] at hj
  obtain ⟨g, o, rfl, hg, hcell⟩ := h.cell (k + j) b hj
  have hlt := (List.getElem?_eq_some_iff.1 hj).1
  have hn := h.len
  rw [if_neg (by omega)]
  refine ⟨g, o + k, ?_, hg, ?_⟩
  · simp [Go.WideShapes.add_plain]
  · rw [Nat.add_assoc]; exact hcell⟩

/-- The bytes at an address. -/
theorem Bys.there {a : Addr} (h : Bys w M (some a) n l) : ∀ j u, (cellsB l)[j]? = some u → w.cell? (a.add j) = some u := fun j u hu => by
  rw [cellsB_at] at hu
  cases hb : l[j]? with
  | none => rw [hb] at hu; cases hu
  | some b =>
    rw [hb] at hu
    obtain ⟨g, o, hA, hg, hc⟩ := h.cell j b hb
    injection hA with hA
    subst hA
    rw [Go.WideShapes.add_plain]
    simpa [hc] using hu
end

theorem dropped_block {A : Option Addr} {c k : Nat} : ∀ a, (if c = k then A else A.map (·.add k)) = some a → ∃ a', A = some a' ∧ a'.block = a.block := by
  intro a h
  split at h
  · exact ⟨a, h, rfl⟩
  · cases A with
    | none => simp at h
    | some a' =>
      refine ⟨a', rfl, ?_⟩
      simp at h
      rw [← h]
      unfold Addr.add
      split <;> rfl

def strOf (l : List UInt8) : ByteArray := ⟨l.toArray⟩

theorem strOf_back (s : ByteArray) : strOf s.data.toList = s := by unfold strOf; simp

theorem strOf_inj {l m : List UInt8} (h : strOf l = strOf m) : l = m := by
  unfold strOf at h
  injection h with h
  simpa using h

theorem strOf_list (l : List UInt8) : (strOf l).toList = l := by rw [ByteArray.toList_eq]; simp [strOf]

theorem size_list (s : ByteArray) : s.data.toList.length = s.size := Array.length_toList

theorem strOf_size (l : List UInt8) : (strOf l).size = l.length := by simp [strOf, ByteArray.size]

section
variable {P : Program}
/-- A text of bytes. -/
theorem run_text {w : World} {M : Nat} {A : Option Addr} {n c : Nat} {l : List UInt8} (src dst e : TypeId) (hs : P.underlying src = some (.slice e)) (he : P.underlying e = some (.int .u8)) (hd : P.underlying dst = some .string) (h : Bys w M A n l) :
    (convert src dst (.slice A n c)).run P w = .ok (.string (strOf l)) w := by
  cases A with
  | none =>
    have hl : l = [] := by
      cases l with
      | nil => rfl
      | cons b l => obtain ⟨g, o, hA, _⟩ := h.cell 0 b rfl; cases hA
    subst hl
    exact run_convert_bytes_nil w src e hs he n c dst hd
  | some a =>
    obtain rfl := h.len
    refine run_convert_bytes_back w src dst e a c l hs he hd fun j hj => ?_
    have := h.there j (.int .u8 (l[j].toNat : Int)) (by rw [cellsB_at, List.getElem?_eq_getElem hj]; rfl)
    exact this

/-- append of bytes that lie anywhere onto a row of the call's own. -/
theorem run_append_bytes (w : World) (t ty e : TypeId) (base : Nat) (i : TypeInfo) (ht : P.underlying t = some (.slice e)) (hi : P.info? e = some i) (hz : i.zero = some (.int .u8 0)) (hsize : i.size = 1) (hby : i.bytes = 1)
    (v : Value) (n : Nat) (l : List UInt8) (hown : w.ownsRow base e 1 v n (cellsB l)) (M : Nat) (A : Option Addr) (m c : Nat) (new : List UInt8) (hr : Bys w M A m new) (hA : A = none → m = 0 ∧ c = 0)
    (h63 : n + m ≤ 140737488355328) (hbase : base ≤ w.heap.size) :
    ∃ v' w', (Builtin.append_ #[t, t] ty #[v, .slice A m c]).run P w = .ok v' w' ∧ w'.ownsRow base e 1 v' (n + m) (cellsB (l ++ new)) ∧ w.grownBy w' v.ownBlock ∧ Mv.Fresh w v.ownBlock v'.ownBlock := by
  cases A with
  | none =>
    obtain ⟨rfl, rfl⟩ := hA rfl
    have hn : new = [] := List.eq_nil_of_length_eq_zero hr.len
    subst hn
    exact ⟨v, w, run_append_owned_none (P := P) (w := w) base t ty e i 1 ht hi v n _ hown, by simpa using hown, World.grownBy.refl w _, Mv.Fresh.refl _ _⟩
  | some a =>
    obtain ⟨v', w', hrun, h2, h3, _, h5⟩ := run_append_own_at (P := P) w base t ty e i _ 1 1 ht hi hz hsize hby rfl (by omega) v n (cellsB l) hown a m c (cellsB new) (by rw [cellsB_length, hr.len]; omega) hr.there (cellsB_one _) (by unfold maxLen; omega) (by omega) hbase
    refine ⟨v', w', hrun, by rw [cellsB_append]; exact h2, h3, ?_⟩
    rcases h5 with h5 | h5
    · exact .inl h5
    · exact .inr ⟨_, h5, Nat.le_refl _⟩

theorem wpList_append_bytes (w : World) {ops : Array Oper} {rest : List Oper} {o : Oper} {a : Act} {Q : Exit → Act → World → Prop} (free : o.guard = none) (s x : Operand) (t : TypeId)
    (is : o.op = .call { callee := .builtin .append, args := #[s, x], argTypes := #[t, t] })
    (base : Nat) (e : TypeId) (i : TypeInfo) (ht : P.underlying t = some (.slice e)) (hi : P.info? e = some i) (hz : i.zero = some (.int .u8 0)) (hsize : i.size = 1) (hby : i.bytes = 1)
    (v : Value) (n : Nat) (l : List UInt8) (vs : a.eval s = v) (hown : w.ownsRow base e 1 v n (cellsB l)) (M : Nat) (A : Option Addr) (m c : Nat) (new : List UInt8) (vx : a.eval x = .slice A m c) (hr : Bys w M A m new) (hA : A = none → m = 0 ∧ c = 0)
    (h63 : n + m ≤ 140737488355328) (hbase : base ≤ w.heap.size)
    (go : ∀ v' w', w'.ownsRow base e 1 v' (n + m) (cellsB (l ++ new)) → w.grownBy w' v.ownBlock → Mv.Fresh w v.ownBlock v'.ownBlock → wpList P ops Q rest (a.put o.dst v') w') : wpList P ops Q (o :: rest) a w := by
  refine wpList_plain free fun K hK => ?_
  obtain ⟨v', w', run, h2, h3, h4⟩ := run_append_bytes (P := P) w t o.type e base i ht hi hz hsize hby v n l hown M A m c new hr hA h63 hbase
  unfold Oper.wp execOp
  simp only [is, resolve, invoke, builtin, Sem.run_bind, Sem.run_pure, Result.andThen_ok, List.map_toArray, List.map_cons, List.map_nil, vs, vx, run]
  exact hK _ _ (go v' w' h2 h3 h4)

/-- append of a text's bytes onto a row of the call's own. -/
theorem run_append_text (w : World) (t u ty e : TypeId) (base : Nat) (i : TypeInfo) (ht : P.underlying t = some (.slice e)) (hu : P.underlying u = some .string) (hi : P.info? e = some i) (hz : i.zero = some (.int .u8 0)) (hsize : i.size = 1) (hby : i.bytes = 1)
    (v : Value) (n : Nat) (l : List UInt8) (hown : w.ownsRow base e 1 v n (cellsB l)) (s : ByteArray) (h63 : n + s.size ≤ 140737488355328) (hbase : base ≤ w.heap.size) :
    ∃ v' w', (Builtin.append_ #[t, u] ty #[v, .string s]).run P w = .ok v' w' ∧ w'.ownsRow base e 1 v' (n + s.size) (cellsB (l ++ s.data.toList)) ∧ w.grownBy w' v.ownBlock ∧ Mv.Fresh w v.ownBlock v'.ownBlock := by
  obtain ⟨v', w', hrun, h2, h3, h4⟩ := Lib.run_append_own_string (P := P) w base t u ty e i ht hu hi hz hsize hby v n (cellsB l) hown s (by unfold maxLen; omega) h63 hbase
  refine ⟨v', w', hrun, by rw [cellsB_append]; exact h2, h3, ?_⟩
  rcases hown.2 with ⟨rfl, rfl⟩ | ⟨g, cap, cur, rfl, _, hh, hnc, hcm, hcs, _⟩
  · have hown2 := Lib.run_append_own_string (P := P) w w.heap.size t u ty e i ht hu hi hz hsize hby (.slice none 0 0) 0 [] (World.ownsRow_nil _ _ _ _) s (by unfold maxLen; omega) h63 (Nat.le_refl _)
    obtain ⟨v2, w2, hrun2, h22, _⟩ := hown2
    rw [hrun] at hrun2
    injection hrun2 with e1 e2
    subst e1 e2
    cases hb : v'.ownBlock with
    | none => exact .inl rfl
    | some k => exact .inr ⟨k, rfl, (h22.lt k hb).1⟩
  · by_cases hroom : n + s.size ≤ cap
    · have hr := Lib.run_append_room_string (P := P) w t u ty e i ht hu hi hsize g n cap cur hh s hroom (by omega)
      rw [hrun] at hr
      injection hr with e1 e2
      subst e1
      exact .inl rfl
    · have hr := Lib.run_append_grow_string (P := P) w t u ty e i (.int .u8 0) ht hu hi hz ⟨g, 0, none⟩ n cap (cellsB l) (by rw [hsize]; exact hown.1) (hown.cells (g := g) rfl) s (by omega) (by omega) (by rw [hby]; exact growslice_fits (by omega) (by omega))
      rw [hrun] at hr
      injection hr with e1 e2
      subst e1
      exact .inr ⟨_, rfl, Nat.le_refl _⟩

theorem wpList_append_text (w : World) {ops : Array Oper} {rest : List Oper} {o : Oper} {a : Act} {Q : Exit → Act → World → Prop} (free : o.guard = none) (sl x : Operand) (t u : TypeId)
    (is : o.op = .call { callee := .builtin .append, args := #[sl, x], argTypes := #[t, u] })
    (base : Nat) (e : TypeId) (i : TypeInfo) (ht : P.underlying t = some (.slice e)) (hu : P.underlying u = some .string) (hi : P.info? e = some i) (hz : i.zero = some (.int .u8 0)) (hsize : i.size = 1) (hby : i.bytes = 1)
    (v : Value) (n : Nat) (l : List UInt8) (vs : a.eval sl = v) (hown : w.ownsRow base e 1 v n (cellsB l)) (s : ByteArray) (vx : a.eval x = .string s)
    (h63 : n + s.size ≤ 140737488355328) (hbase : base ≤ w.heap.size)
    (go : ∀ v' w', w'.ownsRow base e 1 v' (n + s.size) (cellsB (l ++ s.data.toList)) → w.grownBy w' v.ownBlock → Mv.Fresh w v.ownBlock v'.ownBlock → wpList P ops Q rest (a.put o.dst v') w') : wpList P ops Q (o :: rest) a w := by
  refine wpList_plain free fun K hK => ?_
  obtain ⟨v', w', run, h2, h3, h4⟩ := run_append_text (P := P) w t u o.type e base i ht hu hi hz hsize hby v n l hown s h63 hbase
  unfold Oper.wp execOp
  simp only [is, resolve, invoke, builtin, Sem.run_bind, Sem.run_pure, Result.andThen_ok, List.map_toArray, List.map_cons, List.map_nil, vs, vx, run]
  exact hK _ _ (go v' w' h2 h3 h4)
end

end Go.Proofs.Ytdmpnkhgcggepaa.By
end

section
namespace Go.Proofs.Ytdmpnkhgcggepaa.By
open Go.ChangeShapes Go.WideShapes Go.ChangeAt Go.RowKit
open Qu (Blk)
open Mv (Only)
set_option linter.unusedVariables false

theorem info_u8 : (Try.prog.info? 5).map (fun i => (i.zero, i.size, i.bytes)) = some (some (.int .u8 0), 1, 1) := by kernel_rfl

/-- New bytes are told. -/
def Rowed (e : Ending) (w w' : World) (l : List UInt8) : Prop := ∃ A c, e = .returned (.slice A l.length c) ∧ w'.ownsRow w.heap.size 5 1 (.slice A l.length c) l.length (cellsB l) ∧ Below w.heap.size w w'

/-- New bytes are told, n of them. -/
def RowedN (e : Ending) (w w' : World) (l : List UInt8) (n : Nat) : Prop := ∃ A c, e = .returned (.slice A n c) ∧ w'.ownsRow w.heap.size 5 1 (.slice A n c) n (cellsB l) ∧ Below w.heap.size w w'

theorem Rowed.n {e : Ending} {w w' : World} {l : List UInt8} {n : Nat} (h : Rowed e w w' l) (hn : l.length = n) : RowedN e w w' l n := by subst hn; exact h

/-! ### The document's numbers and texts as bytes -/
/-- A row of the call's own holds the bytes l. -/
def Own8 (w : World) (B : Nat) (v : Value) (l : List UInt8) : Prop := w.ownsRow B 5 1 v l.length (cellsB l)

theorem Own8.nil (w : World) (B : Nat) : Own8 w B (.slice none 0 0) [] := World.ownsRow_nil _ _ _ _

theorem Own8.below {w w' : World} {B : Nat} {v : Value} {l : List UInt8} (h : Own8 w B v l) (hb : Below w.heap.size w w') : Own8 w' B v l := Qu.row_below h hb

theorem Own8.bys {w : World} {B n c : Nat} {A : Option Addr} {l : List UInt8} (h : Own8 w B (.slice A n c) l) : Bys w w.heap.size A l.length l := by
  obtain ⟨A', c', hv⟩ := Mv.own_value h
  injection hv with h1 h2 h3
  subst h2
  exact Bys.own h

/-- One byte in a block of its own. -/
theorem Bys.made (W : World) (t : TypeId) (z : Int) (h0 : 0 ≤ z) (h1 : z ≤ 255) : Bys (W.alloc (.cells #[.int .u8 z] t)) (W.heap.size + 1) (some ⟨W.heap.size, 0, none⟩) 1 [UInt8.ofNat z.toNat] := ⟨rfl, fun k b hk => by
  have hk0 : k = 0 := by have := (List.getElem?_eq_some_iff.1 hk).1; simpa using this
  subst hk0
  obtain rfl : UInt8.ofNat z.toNat = b := by simpa using hk
  refine ⟨W.heap.size, 0, rfl, by omega, ?_⟩
  rw [Blk.cell (Blk.new W t #[.int .u8 z]) 0, toNat_small (by omega)]
  simp
  omega⟩

/-- Bytes in a box. -/
theorem Bys.blk {w : World} {g t : Nat} {cs : Array Value} {l : List UInt8} {n : Nat} (h : Blk w g t cs) (e : cs = (cellsB l).toArray) (hn : l.length = n) : Bys w w.heap.size (some ⟨g, 0, none⟩) n l := ⟨hn, fun k b hk => by
  refine ⟨g, 0, rfl, h.lt, ?_⟩
  rw [Nat.zero_add, h.cell k, e]
  simp [cellsB_at, hk]⟩

/-- One more byte. -/
theorem Own8.more {w wr w' : World} {B n : Nat} {v v' : Value} {l m : List UInt8} {o : Obj} (hB : Below B w wr) (hBs : B ≤ wr.heap.size) (hO : Own8 wr B v l) (hown : w'.ownsRow B 5 1 v' (l.length + n) (cellsB (l ++ m))) (hm : m.length = n) (hgrow : (wr.alloc o).grownBy w' v.ownBlock) : Own8 w' B v' (l ++ m) ∧ Below B w w' := by
  refine ⟨?_, (hB.alloc hBs _).grown hgrow (by simp; omega) (fun k hk => (hO.lt k hk).1)⟩
  unfold Own8
  rw [List.length_append, hm]
  exact hown

theorem toNat_or (x : Nat) : (UInt8.ofNat (x % 128 + 128)).toNat = x % 128 + 128 := toNat_small (by omega)

end Go.Proofs.Ytdmpnkhgcggepaa.By
end

section
set_option linter.unusedVariables false
namespace Go.Proofs.Ytdmpnkhgcggepaa.By
open Go.RowKit

theorem or128_nat : ∀ a : Nat, a < 256 → a ||| 128 = a % 128 + 128 := by decide +kernel

theorem or128 (y : Nat) : bits .or .u8 ((y : Int) % 256) 128 = (y : Int) % 128 + 128 := by
  have h := u8_or_nat (y % 256) 128 (by omega) (by omega)
  have e : ((y % 256 : Nat) : Int) = (y : Int) % 256 := by omega
  rw [e] at h
  have e2 : ((128 : Nat) : Int) = 128 := rfl
  rw [e2] at h
  rw [h, or128_nat (y % 256) (by omega)]
  omega

theorem andNot128_nat : ∀ a : Nat, a < 256 → a &&& (255 - 128) = a % 128 := by decide +kernel

theorem andNot128 (x : Int) (h0 : 0 ≤ x) (h1 : x ≤ 255) : bits .andNot .u8 x 128 = x % 128 := by
  have h := u8_andNot x 128 h0 (by omega) (by omega) (by omega)
  have e2 : (128 : Int).toNat = 128 := rfl
  rw [e2, andNot128_nat x.toNat (by omega)] at h
  rw [h]
  omega

/-- Of an int64 that is not negative, and one that has its bits above all of it. -/
theorem or64_nat (a b : Nat) (ha : a < 9223372036854775808) (hb : b < 9223372036854775808) : bits .or .i64 (a : Int) (b : Int) = ((a ||| b : Nat) : Int) := by
  show IntKind.i64.wrap ((BitVec.ofInt 64 (a : Int) ||| BitVec.ofInt 64 (b : Int)).toNat : Int) = _
  have e : ∀ c : Nat, c < 9223372036854775808 → (BitVec.ofInt 64 (c : Int)).toNat = c := fun c hc => by
    rw [BitVec.toNat_ofInt]
    omega
  rw [BitVec.toNat_or, e a ha, e b hb]
  have h : a ||| b < 2 ^ 63 := Nat.or_lt_two_pow (by simpa using ha) (by simpa using hb)
  simp [IntKind.wrap, IntKind.bits, IntKind.signed]
  omega

/-- What nine groups of seven bits say, one by one. -/
theorem join7 (a b i : Nat) (hi : i ≤ 8) (ha : a < 128 ^ i) (hb : b < 128) : bits .or .i64 (a : Int) ((b : Int) * 2 ^ (7 * i)) = ((a + 128 ^ i * b : Nat) : Int) ∧ (b : Int) * 2 ^ (7 * i) < 9223372036854775808 ∧ a + 128 ^ i * b < 128 ^ (i + 1) := by
  have e128 : (128 : Nat) ^ i = 2 ^ (7 * i) := by rw [show (128 : Nat) = 2 ^ 7 from rfl, ← Nat.pow_mul]
  have hp : (128 : Nat) ^ i ≤ 128 ^ 8 := Nat.pow_le_pow_right (by omega) hi
  have hle : b * 2 ^ (7 * i) < 9223372036854775808 := by
    rw [← e128]
    calc b * 128 ^ i ≤ 127 * 128 ^ 8 := Nat.mul_le_mul (by omega) hp
      _ < _ := by decide
  have hc : (b : Int) * 2 ^ (7 * i) = ((b * 2 ^ (7 * i) : Nat) : Int) := by simp
  have hlt : a + 128 ^ i * b < 128 ^ (i + 1) := by
    rw [Nat.pow_succ]
    calc a + 128 ^ i * b < 128 ^ i + 128 ^ i * b := by omega
      _ = 128 ^ i * (b + 1) := by rw [Nat.mul_add]; omega
      _ ≤ 128 ^ i * 128 := Nat.mul_le_mul_left _ (by omega)
  refine ⟨?_, ?_, hlt⟩
  · rw [hc, or64_nat a _ (by have : (128 : Nat) ^ 8 < 9223372036854775808 := by decide
                             omega) hle]
    congr 1
    rw [Nat.or_comm, Nat.mul_comm b, ← Nat.two_pow_add_eq_or_of_lt (by rw [← e128]; exact ha), e128]
    omega
  · rw [hc]; omega

/-- An int of any number, modulo a small one, as the code has it. -/
theorem umod_in (a n : Int) (hn : 1 ≤ n) (hn1 : n ≤ 9223372036854775807) : ∃ t : Nat, wrap64 ((IntKind.u64.wrap a).tmod n) = (t : Int) ∧ (t : Int) < n ∧ (IntKind.u64.wrap a) % n = (t : Int) ∧ IntKind.u64.wrap ((IntKind.u64.wrap a).tmod n) = (t : Int) := by
  have h0 : 0 ≤ IntKind.u64.wrap a := by rw [IntKind.wrap_u64]; omega
  have h1 : (IntKind.u64.wrap a).tmod n = (IntKind.u64.wrap a) % n := Int.tmod_eq_emod_of_nonneg h0
  have h2 := Int.emod_nonneg (IntKind.u64.wrap a) (show n ≠ 0 by omega)
  have h3 := Int.emod_lt_of_pos (IntKind.u64.wrap a) (show 0 < n by omega)
  refine ⟨((IntKind.u64.wrap a) % n).toNat, ?_, ?_, ?_, ?_⟩
  · rw [h1, IntWalk.wrap64_in _ ⟨by omega, by omega⟩]; omega
  · omega
  · omega
  · rw [h1, IntKind.wrap_u64]; omega

end Go.Proofs.Ytdmpnkhgcggepaa.By
end

section
namespace Go.Proofs.Ytdmpnkhgcggepaa.By
open Go.ChangeShapes Go.WideShapes Go.ChangeAt Go.RowKit
open Qu (Blk)
set_option linter.unusedVariables false

theorem slice_to (A : Option Addr) (n c k : Nat) (hk : k ≤ c) (W : World) : (Instr.slice 79 (.slice A n c) none (some (.int .i64 (k : Int))) none).run Try.prog W = .ok (.slice A k c) W := by
  have hsz : (sizeOf (Try.prog.elem 79)).run Try.prog W = .ok 1 W := by kernel_rfl
  rw [run_slice_h (P := Try.prog) (w := W) 79 A n c Try.underlying79 .i64 (k : Int) (by omega) (by omega), hsz]
  have e : (if c = 0 then A else A.map (·.add (0 * 1))) = A := by
    split
    · rfl
    · cases A with
      | none => rfl
      | some a => simp [Addr.add]
  simp only [Result.andThen, sliced, Nat.sub_zero, Int.toNat_natCast]
  rw [e]

theorem slice_from (A : Option Addr) (n c k : Nat) (hk : k ≤ n) (W : World) : (Instr.slice 79 (.slice A n c) (some (.int .i64 (k : Int))) none none).run Try.prog W = .ok (.slice (if c = k then A else A.map (·.add k)) (n - k) (c - k)) W := by
  have hsz : (sizeOf (Try.prog.elem 79)).run Try.prog W = .ok 1 W := by kernel_rfl
  rw [run_slice_l (P := Try.prog) (w := W) 79 A n c Try.underlying79 .i64 (k : Int) (by omega) (by omega), hsz]
  simp only [Result.andThen, sliced, Nat.mul_one, Int.toNat_natCast]

theorem slice_mid (A : Option Addr) (n c j k : Nat) (hj : j ≤ k) (hk : k ≤ c) (W : World) : (Instr.slice 79 (.slice A n c) (some (.int .i64 (j : Int))) (some (.int .i64 (k : Int))) none).run Try.prog W = .ok (.slice (if c = j then A else A.map (·.add j)) (k - j) (c - j)) W := by
  have hsz : (sizeOf (Try.prog.elem 79)).run Try.prog W = .ok 1 W := by kernel_rfl
  rw [run_slice_lh (P := Try.prog) (w := W) 79 A n c Try.underlying79 .i64 .i64 (j : Int) (k : Int) (by omega) (by omega) (by omega), hsz]
  simp only [Result.andThen, sliced, Nat.mul_one, Int.toNat_natCast]

/-- The middle of a slice of bytes. -/
theorem Bys.mid {w : World} {M n c j k : Nat} {A : Option Addr} {l : List UInt8} (h : Bys w M A n l) (hj : j ≤ k) (hk : k ≤ n) (hc : n ≤ c) : Bys w M (if c = j then A else A.map (·.add j)) (k - j) ((l.take k).drop j) :=
  (h.take hk).drop hj (by omega)

/-- A literal text's bytes, in a block of its own. -/
theorem Bys.text (W : World) (l : List UInt8) (n : Nat) (hn : l.length = n) (fr : Nat × Nat) : Bys (W.alloc (.cells (cellsB l).toArray 5 fr)) (W.heap.size + 1) (some ⟨W.heap.size, 0, none⟩) n l := ⟨hn, fun k b hk => by
  refine ⟨W.heap.size, 0, rfl, by omega, ?_⟩
  rw [Nat.zero_add, World.cell?_alloc_mark]
  simp [cellsB_at, hk]⟩

/-- A row of noughts. -/
theorem make_bytes (n : Nat) (hn : n ≤ 1000000000) (W : World) : (Instr.makeSlice 79 (.int .i64 (n : Int)) (.int .i64 (n : Int))).run Try.prog W = .ok (.slice (some ⟨W.heap.size, 0, none⟩) n n) (W.alloc (.cells (madeCells #[.int .u8 0] n) 5)) := by
  obtain ⟨i0, hi0, hz0, hz1, hz2⟩ := info_parts info_u8
  have hr := run_make (P := Try.prog) W 79 5 i0 _ Try.underlying79 hi0 hz0 .i64 .i64 (n : Int) (n : Int) (by omega) (by omega) (by rw [hz2]; omega) (by omega)
  rw [hz1, Nat.mul_one] at hr
  simp only [Int.toNat_natCast] at hr
  exact hr

theorem made_own (W : World) (n : Nat) (hn : n ≤ 1000000000) : (W.alloc (.cells (madeCells #[.int .u8 0] n) 5)).ownsRow W.heap.size 5 1 (.slice (some ⟨W.heap.size, 0, none⟩) n n) n (cellsB (List.replicate n 0)) := by
  have e : madeCells #[.int .u8 0] n = (cellsB (List.replicate n 0)).toArray := by
    apply Array.toList_inj.1
    rw [toList_madeCells_one]
    simp [cellsB]
  have h := World.ownsRow_lit (base := W.heap.size) (e := 5) (size := 1) W (madeCells #[.int .u8 0] n) n (Nat.le_refl _) (by unfold maxLen; omega) (by rw [size_madeCells]; simp)
  rw [e] at h ⊢
  exact h

end Go.Proofs.Ytdmpnkhgcggepaa.By
end

section
set_option linter.unusedVariables false
namespace Go.Proofs.Ytdmpnkhgcggepaa.Hk
open Go.ChangeShapes Go.WideShapes Go.ChangeAt Go.RowKit Go.Deep

section
variable {H : Type} {enc : TypeId × Value → H} {P : Program}

/-- What every element has at the place of a field of one cell. -/
structure CellField (P : Program) (w : World) (b at_ : Nat) (f : Field) : Prop where
  int : P.underlying f.type = some (.int .i64) → ∃ z : Int, w.cell? ⟨b, at_ + f.offset, none⟩ = some (.int .i64 z) ∧ -9223372036854775808 ≤ z ∧ z ≤ 9223372036854775807
  str : P.underlying f.type = some .string → ∃ s : ByteArray, w.cell? ⟨b, at_ + f.offset, none⟩ = some (.string s) ∧ s.size ≤ maxLen
  bool : P.underlying f.type = some .bool → ∃ x : Bool, w.cell? ⟨b, at_ + f.offset, none⟩ = some (.bool x)

theorem open_rows {t e : TypeId} {C base : Nat} {fs : Array Field} {w : World} {spare : Nat → Bool} {held : Bool} {v : Value} {d : DataW H} {ps : List MemPlace} {r : Reach} {b0 : Nat}
    (ht : P.underlying t = some (.slice e)) (he : P.underlying e = some (.struct fs)) (hc : P.cellsOf e = C) (hC : 0 < C) (hfs : ∀ f ∈ fs, f.offset < C) (hval : Value.okWide P w r b0 t v) (hd : DataW.Trod enc P w base spare held t v d ps) :
    ∃ A n c, v = .slice A n c ∧ n ≤ 9223372036854775807 ∧ (A = none → n = 0 ∧ c = 0) ∧ ∀ i, i < n → ∃ b off, A = some ⟨b, off, none⟩ ∧ b < w.heap.size ∧ ∀ (j : Nat) (f : Field), fs[j]? = some f → P.cellsOf f.type = 1 → CellField P w b (off + i * C) f := by
  obtain ⟨a0, len0, cap0, rfl⟩ := okWide_slice ht hval
  obtain ⟨fuel, hf⟩ := hd
  rcases open_slice ht hf with ⟨hv, _⟩ | ⟨a, len, cap, m, k, D, Pl, hv, _, hl, hm, hmm, _, hel⟩
  · have hv' : Value.slice a0 len0 cap0 = .slice none 0 0 := by simpa [Value.cells] using hv
    exact ⟨none, 0, 0, hv', by omega, fun _ => ⟨rfl, rfl⟩, fun i hi => by omega⟩
  · have hv' : Value.slice a0 len0 cap0 = .slice (some a) len cap := by simpa [Value.cells] using hv
    have hle : len ≤ m := by rw [hmm]; split <;> omega
    unfold maxLen at hm
    refine ⟨some a, len, cap, hv', by omega, (fun h => by cases h), fun i hi => ?_⟩
    have hspot : ∃ b off, a = ⟨b, off, none⟩ := by
      obtain ⟨cs, hcs, _⟩ := hel 0 (by omega)
      rw [hc] at hcs
      obtain ⟨_, hn, hat⟩ := World.cells?_some hcs
      have h0 := hat 0 hC
      rw [Nat.zero_mul] at h0
      have e0 : (a.add 0).add 0 = a := by simp [Addr.add]
      rw [e0, List.getElem?_eq_getElem (by omega)] at h0
      obtain ⟨b, off, spot⟩ := a
      have hs : spot = none := by simpa using World.cell?_spot h0
      subst hs
      exact ⟨b, off, rfl⟩
    obtain ⟨b, off, rfl⟩ := hspot
    obtain ⟨cs, hcs, htr⟩ := hel i (by omega)
    rw [hc] at hcs
    obtain ⟨_, hn, hat⟩ := World.cells?_some hcs
    obtain ⟨xs, n', _, _, _, hxs, hfld⟩ := DataW.trod_struct he htr
    have hat2 : ∀ q, q < C → w.cell? ⟨b, off + i * C + q, none⟩ = cs[q]? := fun q hq => by
      have := hat q hq
      rw [Go.WideShapes.add_plain, Go.WideShapes.add_plain] at this
      exact this
    refine ⟨b, off, rfl, ?_, fun j f hj hone => ?_⟩
    · have h0 := hat2 0 hC
      rw [List.getElem?_eq_getElem (by omega)] at h0
      exact World.block_lt_of_cell? w _ h0
    · have hoff := hfs f (Array.mem_of_getElem? hj)
      have h1 := hfld j f hj
      rw [hone] at h1
      cases hx : xs[j]? with
      | none =>
        exfalso
        have hjl : j < fs.size := (Array.getElem?_eq_some_iff.1 hj).1
        have hxl : xs.length ≤ j := List.getElem?_eq_none_iff.1 hx
        omega
      | some x =>
        rw [hx] at h1
        have fetch : ∀ u : Value, (cs.drop f.offset).take 1 = [u] → w.cell? ⟨b, off + i * C + f.offset, none⟩ = some u := fun u hu => by
          have hz0 := congrArg (fun l : List Value => l[0]?) hu
          simp only [List.getElem?_take, List.getElem?_drop] at hz0
          rw [hat2 _ hoff]
          simpa using hz0
        refine ⟨fun hu => ?_, fun hu => ?_, fun hu => ?_⟩
        · obtain ⟨z, hz, _, hwf⟩ := DataW.trod_int hu h1
          exact ⟨z, fetch _ hz, bounds_i64 hwf⟩
        · obtain ⟨s, hz, _, hs⟩ := DataW.trod_string hu h1
          exact ⟨s, fetch _ hz, hs⟩
        · obtain ⟨x, hz, _⟩ := DataW.trod_bool hu h1
          exact ⟨x, fetch _ hz⟩

/-- A slice of bytes. -/
theorem open_bytes {t e : TypeId} {base : Nat} {w : World} {spare : Nat → Bool} {held : Bool} {v : Value} {d : DataW H} {ps : List MemPlace} (ht : P.underlying t = some (.slice e)) (he : P.underlying e = some (.int .u8)) (hc : P.cellsOf e = 1)
    {r : Reach} {b0 : Nat} (hval : Value.okWide P w r b0 t v) (hd : DataW.Trod enc P w base spare held t v d ps) : ∃ A n c l, v = .slice A n c ∧ By.Bys w w.heap.size A n l ∧ n ≤ 9223372036854775807 ∧ (A = none → n = 0 ∧ c = 0) ∧ n ≤ c := by
  obtain ⟨a0, len0, cap0, rfl⟩ := okWide_slice ht hval
  obtain ⟨fuel, hf⟩ := hd
  rcases open_ints ht he hc hf with ⟨hv, _⟩ | ⟨a, len, cap, zs, hv, _, hl, hm, hz, _, hcell, hwf⟩
  · have hv' : Value.slice a0 len0 cap0 = .slice none 0 0 := by simpa [Value.cells] using hv
    exact ⟨none, 0, 0, [], hv', By.Bys.nil _ _ _, by omega, fun _ => ⟨rfl, rfl⟩, by omega⟩
  · have hv' : Value.slice a0 len0 cap0 = .slice (some a) len cap := by simpa [Value.cells] using hv
    have hzl : len ≤ zs.length := by rw [hz]; split <;> omega
    unfold maxLen at hm
    refine ⟨some a, len, cap, (zs.take len).map fun z => UInt8.ofNat z.toNat, hv', ⟨by rw [List.length_map, List.length_take]; omega, fun k b hb => ?_⟩, by omega, (fun h => by cases h), hl⟩
    have hk : k < len := by
      have := (List.getElem?_eq_some_iff.1 hb).1
      rw [List.length_map, List.length_take] at this
      omega
    obtain ⟨g, off, rfl, hcs⟩ := ints_at hcell (by omega)
    have hk2 : k < zs.length := by omega
    refine ⟨g, off, rfl, World.block_lt_of_cell? w _ (hcs k hk2), ?_⟩
    rw [hcs k hk2]
    have hb2 := bounds_u8 (hwf (zs[k]) (List.getElem_mem hk2))
    rw [List.getElem?_map, List.getElem?_take, if_pos hk, List.getElem?_eq_getElem hk2] at hb
    have hb3 : UInt8.ofNat zs[k].toNat = b := by simpa using hb
    rw [← hb3, By.toNat_small (by omega)]
    have : zs.getD k 0 = zs[k] := by simp [List.getD, hk2]
    rw [this]
    congr 2
    omega
end

end Go.Proofs.Ytdmpnkhgcggepaa.Hk
end

section
namespace Go.Proofs.Ytdmpnkhgcggepaa.Hl
open Go.ChangeShapes Go.WideShapes Go.ChangeAt Go.RowKit
set_option linter.unusedVariables false

/-- A slice of n numbers, below block M. -/
def Ints (w : World) (M : Nat) (A : Option Addr) (n : Nat) (f : Nat → Int) : Prop := ∀ k, k < n → ∃ b off, A = some ⟨b, off, none⟩ ∧ b < M ∧ w.cell? ⟨b, off + k, none⟩ = some (.int .i64 (f k))

theorem Ints.below {w w' : World} {M B n : Nat} {A : Option Addr} {f : Nat → Int} (h : Ints w M A n f) (hb : Below B w w') (hM : M ≤ B) : Ints w' M A n f := fun k hk => by
  obtain ⟨b, off, hA, hb1, hc⟩ := h k hk
  exact ⟨b, off, hA, hb1, (hb.cell (p := ⟨b, off + k, none⟩) (by show b < B; omega)).trans hc⟩

theorem Ints.more {w : World} {M M' n : Nat} {A : Option Addr} {f : Nat → Int} (h : Ints w M A n f) (hM : M ≤ M') : Ints w M' A n f := fun k hk => by
  obtain ⟨b, off, hA, hb1, hc⟩ := h k hk
  exact ⟨b, off, hA, by omega, hc⟩

theorem Ints.size {w : World} {M n : Nat} {A : Option Addr} {f : Nat → Int} (h : Ints w M A n f) : Ints w w.heap.size A n f := fun k hk => by
  obtain ⟨b, off, hA, hb1, hc⟩ := h k hk
  exact ⟨b, off, hA, World.block_lt_of_cell? w _ hc, hc⟩

theorem Ints.drewN {w : World} {M n : Nat} {A : Option Addr} {f : Nat → Int} (h : Ints w M A n f) (d : Nat) : Ints (w.drewN d) M A n f := h

theorem Ints.less {w : World} {M n m : Nat} {A : Option Addr} {f : Nat → Int} (h : Ints w M A n f) (hm : m ≤ n) : Ints w M A m f := fun k hk => h k (by omega)

theorem Ints.congr {w : World} {M n : Nat} {A : Option Addr} {f g : Nat → Int} (h : Ints w M A n f) (hfg : ∀ k, k < n → f k = g k) : Ints w M A n g := fun k hk => by
  obtain ⟨b, off, hA, hb1, hc⟩ := h k hk
  exact ⟨b, off, hA, hb1, by rw [hc, hfg k hk]⟩

/-- A list by its index. -/
def at_ (l : List Int) (k : Nat) : Int := l.getD k 0

theorem Ints.own {w : World} {B E : Nat} {A : Option Addr} {n cap : Nat} {l : List Int} (h : w.ownsRow B E 1 (.slice A n cap) n (l.map (Value.int .i64))) : Ints w w.heap.size A n (at_ l) := fun k hk => by
  obtain ⟨g, c, hv, _, hlt⟩ := h.form (by omega)
  cases hv
  refine ⟨g, 0, rfl, hlt, ?_⟩
  have hl : l.length = n := by have := h.1; simpa using this
  rw [Nat.zero_add, h.cellAt k (by omega)]
  unfold at_
  simp [List.getD, hl, hk]

def eqB (n m : Nat) (f g : Nat → Int) : Bool := (n == m) && (List.range n).all fun k => f k == g k

theorem eqB_len {n m : Nat} {f g : Nat → Int} (h : n ≠ m) : eqB n m f g = false := by unfold eqB; rw [beq_eq_false_iff_ne.2 h]; rfl

theorem eqB_no {n : Nat} {f g : Nat → Int} {k : Nat} (hk : k < n) (h : f k ≠ g k) : eqB n n f g = false := by
  unfold eqB
  rw [beq_self_eq_true, Bool.true_and, List.all_eq_false]
  exact ⟨k, List.mem_range.2 hk, by simpa using h⟩

theorem eqB_yes {n : Nat} {f g : Nat → Int} (h : ∀ k, k < n → f k = g k) : eqB n n f g = true := by
  unfold eqB
  rw [beq_self_eq_true, Bool.true_and, List.all_eq_true]
  intro k hk
  simpa using h k (List.mem_range.1 hk)

/-- The same world, but for some draws. -/
def Drawn (w w' : World) : Prop := ∃ d, w' = w.drewN d

theorem Drawn.more {w w' : World} (h : Drawn w w') (n : Nat) : Drawn w (w'.drewN n) := by
  obtain ⟨d, rfl⟩ := h
  exact ⟨d + n, World.drewN_drewN _ _ _⟩

theorem Drawn.below {w w' : World} (h : Drawn w w') (B : Nat) : Below B w w' := by
  obtain ⟨d, rfl⟩ := h
  exact Qu.below_draws (Below.refl _ _) d

end Go.Proofs.Ytdmpnkhgcggepaa.Hl
end

section
set_option linter.unusedVariables false
namespace Go.Proofs.Ytdmpnkhgcggepaa.Hk
open Go.ChangeShapes Go.WideShapes Go.ChangeAt Go.RowKit

section
variable {H : Type} {enc : TypeId × Value → H} {P : Program}

/-- A slice of int64 or int. -/
theorem open_ints_at {t e : TypeId} {base : Nat} {w : World} {spare : Nat → Bool} {held : Bool} {v : Value} {d : DataW H} {ps : List MemPlace} (ht : P.underlying t = some (.slice e)) (he : P.underlying e = some (.int .i64)) (hc : P.cellsOf e = 1)
    {r : Reach} {b0 : Nat} (hval : Value.okWide P w r b0 t v) (hd : DataW.Trod enc P w base spare held t v d ps) : ∃ A n c f, v = .slice A n c ∧ Hl.Ints w w.heap.size A n f ∧ n ≤ 9223372036854775807 ∧ (∀ k, k < n → -9223372036854775808 ≤ f k ∧ f k ≤ 9223372036854775807) ∧ (A = none → n = 0 ∧ c = 0) := by
  obtain ⟨a0, len0, cap0, rfl⟩ := okWide_slice ht hval
  obtain ⟨fuel, hf⟩ := hd
  rcases open_ints ht he hc hf with ⟨hv, _⟩ | ⟨a, len, cap, zs, hv, _, hl, hm, hz, _, hcell, hwf⟩
  · have hv' : Value.slice a0 len0 cap0 = .slice none 0 0 := by simpa [Value.cells] using hv
    exact ⟨none, 0, 0, fun _ => 0, hv', fun k hk => by omega, by omega, fun k hk => by omega, fun _ => ⟨rfl, rfl⟩⟩
  · have hv' : Value.slice a0 len0 cap0 = .slice (some a) len cap := by simpa [Value.cells] using hv
    have hzl : len ≤ zs.length := by rw [hz]; split <;> omega
    unfold maxLen at hm
    refine ⟨some a, len, cap, fun k => zs.getD k 0, hv', fun k hk => ?_, by omega, fun k hk => ?_, fun h => by cases h⟩
    · obtain ⟨b, off, rfl, hcs⟩ := ints_at hcell (by omega)
      exact ⟨b, off, rfl, World.block_lt_of_cell? w _ (hcs k (by omega)), hcs k (by omega)⟩
    · have hk2 : k < zs.length := by omega
      have := bounds_i64 (hwf (zs[k]) (List.getElem_mem hk2))
      simpa [List.getD, hk2] using this
end

end Go.Proofs.Ytdmpnkhgcggepaa.Hk
end

section
set_option linter.unusedVariables false
namespace Go.Proofs.Ytdmpnkhgcggepaa.Hk
open Go.ChangeShapes Go.WideShapes Go.ChangeAt Go.RowKit Go.Deep

section
variable {H : Type} {enc : TypeId × Value → H} {P : Program} {base : Nat} {spare : Nat → Bool} {held : Bool} {w : World} {b o : Nat} {t e : TypeId}

/-- What lies at a place can be read as a value of the type. -/
def Lies (enc : TypeId × Value → H) (P : Program) (base : Nat) (spare : Nat → Bool) (held : Bool) (w : World) (b o : Nat) (t : TypeId) : Prop :=
  ∃ (cs : List Value) (fuel : Nat) (x : DataW H × List MemPlace), cs.length = P.cellsOf t ∧ (∀ q, q < P.cellsOf t → w.cell? ⟨b, o + q, none⟩ = cs[q]?) ∧ DataW.trod enc P w base spare held fuel t cs = some x

theorem Lies.one {v : Value} {cs : List Value} (hc : P.cellsOf t = 1) (hat : ∀ q, q < P.cellsOf t → w.cell? ⟨b, o + q, none⟩ = cs[q]?) (h : cs = [v]) : w.cell? ⟨b, o, none⟩ = some v := by
  have h0 := hat 0 (by omega)
  rw [h, Nat.add_zero] at h0
  exact h0

theorem wf_bounds {k : IntKind} {n : Int} (h : (Lit.int k n).wf = true) : k.min ≤ n ∧ n ≤ k.max := by
  unfold Lit.wf at h
  simpa using h

theorem Lies.int (h : Lies enc P base spare held w b o t) {k : IntKind} (hu : P.underlying t = some (.int k)) (hc : P.cellsOf t = 1) : ∃ z : Int, w.cell? ⟨b, o, none⟩ = some (.int k z) ∧ (Lit.int k z).wf = true := by
  obtain ⟨cs, fuel, x, _, hat, htr⟩ := h
  obtain ⟨z, hz, _, hwf⟩ := DataW.trod_int hu htr
  exact ⟨z, Lies.one hc hat hz, hwf⟩

theorem Lies.int64 (h : Lies enc P base spare held w b o t) (hu : P.underlying t = some (.int .i64)) (hc : P.cellsOf t = 1) : ∃ z : Int, w.cell? ⟨b, o, none⟩ = some (.int .i64 z) ∧ -9223372036854775808 ≤ z ∧ z ≤ 9223372036854775807 := by
  obtain ⟨z, hz, hwf⟩ := h.int hu hc
  exact ⟨z, hz, bounds_i64 hwf⟩

theorem Lies.byte (h : Lies enc P base spare held w b o t) (hu : P.underlying t = some (.int .u8)) (hc : P.cellsOf t = 1) : ∃ z : UInt8, w.cell? ⟨b, o, none⟩ = some (.int .u8 (z.toNat : Int)) := by
  obtain ⟨z, hz, hwf⟩ := h.int hu hc
  have hb : 0 ≤ z ∧ z ≤ 255 := bounds_u8 hwf
  refine ⟨UInt8.ofNat z.toNat, ?_⟩
  rw [By.toNat_small (by omega), hz]
  congr 2
  omega

theorem Lies.str (h : Lies enc P base spare held w b o t) (hu : P.underlying t = some .string) (hc : P.cellsOf t = 1) : ∃ s : ByteArray, w.cell? ⟨b, o, none⟩ = some (.string s) ∧ s.size ≤ maxLen := by
  obtain ⟨cs, fuel, x, _, hat, htr⟩ := h
  obtain ⟨s, hs, _, hl⟩ := DataW.trod_string hu htr
  exact ⟨s, Lies.one hc hat hs, hl⟩

theorem Lies.flag (h : Lies enc P base spare held w b o t) (hu : P.underlying t = some .bool) (hc : P.cellsOf t = 1) : ∃ x : Bool, w.cell? ⟨b, o, none⟩ = some (.bool x) := by
  obtain ⟨cs, fuel, x, _, hat, htr⟩ := h
  obtain ⟨s, hs, _⟩ := DataW.trod_bool hu htr
  exact ⟨s, Lies.one hc hat hs⟩

/-- A field of a struct. -/
theorem Lies.field (h : Lies enc P base spare held w b o t) {fs : Array Field} (hu : P.underlying t = some (.struct fs)) (j : Nat) (f : Field) (hj : fs[j]? = some f) (hf : f.offset + P.cellsOf f.type ≤ P.cellsOf t) : Lies enc P base spare held w b (o + f.offset) f.type := by
  obtain ⟨cs, fuel, x, hl, hat, htr⟩ := h
  obtain ⟨xs, n', _, _, _, hxs, hfld⟩ := DataW.trod_struct hu htr
  have h1 := hfld j f hj
  have hjl : j < xs.length := by have := (Array.getElem?_eq_some_iff.1 hj).1; omega
  rw [List.getElem?_eq_getElem hjl] at h1
  refine ⟨_, n', _, ?_, fun q hq => ?_, h1⟩
  · rw [List.length_take, List.length_drop]; omega
  · rw [List.getElem?_take, if_pos hq, List.getElem?_drop, Nat.add_assoc]
    exact hat _ (by omega)

/-- A slice: its elements, each at its place. -/
theorem Lies.elems {fuel len0 cap0 : Nat} {a0 : Option Addr} {x : DataW H × List MemPlace} (hu : P.underlying t = some (.slice e)) (hpos : 0 < P.cellsOf e) (htr : DataW.trod enc P w base spare held fuel t [.slice a0 len0 cap0] = some x) :
    len0 ≤ 9223372036854775807 ∧ len0 ≤ cap0 ∧ cap0 ≤ 9223372036854775807 ∧ (a0 = none → len0 = 0 ∧ cap0 = 0) ∧ ∀ i, i < len0 → ∃ b off, a0 = some ⟨b, off, none⟩ ∧ b < w.heap.size ∧ Lies enc P base spare held w b (off + i * P.cellsOf e) e := by
  rcases DataW.trod_slice hu htr with ⟨hv, _⟩ | ⟨a, len, cap, elems, rest, n, _, hv, _, _, hl, hm, hel, hat, _, _⟩
  · injection hv with hv
    injection hv with h1 h2 h3
    subst h1 h2 h3
    exact ⟨by omega, by omega, by omega, fun _ => ⟨rfl, rfl⟩, fun i hi => by omega⟩
  · injection hv with hv
    injection hv with h1 h2 h3
    subst h1 h2 h3
    unfold maxLen at hm
    refine ⟨by omega, hl, by omega, (fun h => by cases h), fun i hi => ?_⟩
    have get : ∀ i, i < len0 → ∃ cs x, w.cells? base (a.add (i * P.cellsOf e)) (P.cellsOf e) = some cs ∧ DataW.trod enc P w base spare held n e cs = some x := fun i hi => by
      have h1 := hat i hi
      rw [List.getElem?_eq_getElem (by omega)] at h1
      obtain ⟨cs, hcs, h2⟩ := Option.bind_eq_some_iff.1 h1
      exact ⟨cs, _, hcs, h2⟩
    have hspot : ∃ b off, a = ⟨b, off, none⟩ := by
      obtain ⟨cs, _, hcs, _⟩ := get 0 (by omega)
      obtain ⟨_, hn, hat⟩ := World.cells?_some hcs
      have h0 := hat 0 hpos
      rw [Nat.zero_mul] at h0
      have e0 : (a.add 0).add 0 = a := by simp [Addr.add]
      rw [e0, List.getElem?_eq_getElem (by omega)] at h0
      obtain ⟨b, off, spot⟩ := a
      have hs : spot = none := by simpa using World.cell?_spot h0
      subst hs
      exact ⟨b, off, rfl⟩
    obtain ⟨b, off, rfl⟩ := hspot
    obtain ⟨cs, y, hcs, h2⟩ := get i hi
    obtain ⟨_, hn, hat⟩ := World.cells?_some hcs
    have hat2 : ∀ q, q < P.cellsOf e → w.cell? ⟨b, off + i * P.cellsOf e + q, none⟩ = cs[q]? := fun q hq => by
      have := hat q hq
      rw [Go.WideShapes.add_plain, Go.WideShapes.add_plain] at this
      exact this
    refine ⟨b, off, rfl, ?_, cs, n, y, hn, hat2, h2⟩
    have h0 := hat2 0 hpos
    rw [List.getElem?_eq_getElem (by omega)] at h0
    exact World.block_lt_of_cell? w _ h0

theorem Lies.slice (h : Lies enc P base spare held w b o t) (hu : P.underlying t = some (.slice e)) (hc : P.cellsOf t = 1) (hpos : 0 < P.cellsOf e) :
    ∃ A n c, w.cell? ⟨b, o, none⟩ = some (.slice A n c) ∧ n ≤ 9223372036854775807 ∧ n ≤ c ∧ c ≤ 9223372036854775807 ∧ (A = none → n = 0 ∧ c = 0) ∧ ∀ i, i < n → ∃ b off, A = some ⟨b, off, none⟩ ∧ b < w.heap.size ∧ Lies enc P base spare held w b (off + i * P.cellsOf e) e := by
  obtain ⟨cs, fuel, x, hl, hat, htr⟩ := h
  have hcs : ∃ a n c, cs = [.slice a n c] := by
    rcases DataW.trod_slice hu htr with ⟨hv, _⟩ | ⟨a, len, cap, elems, rest, n, _, hv, _⟩
    · exact ⟨_, _, _, hv⟩
    · exact ⟨_, _, _, hv⟩
  obtain ⟨a, n, c, rfl⟩ := hcs
  obtain ⟨h1, h2, h3, h4, h5⟩ := Lies.elems hu hpos htr
  exact ⟨a, n, c, Lies.one hc hat rfl, h1, h2, h3, h4, h5⟩

/-- An argument that is a slice. -/
theorem open_any_slice {v : Value} {d : DataW H} {ps : List MemPlace} {r : Reach} {b0 : Nat} (hu : P.underlying t = some (.slice e)) (hpos : 0 < P.cellsOf e) (hval : Value.okWide P w r b0 t v) (hd : DataW.Trod enc P w base spare held t v d ps) :
    ∃ A n c, v = .slice A n c ∧ n ≤ 9223372036854775807 ∧ n ≤ c ∧ c ≤ 9223372036854775807 ∧ (A = none → n = 0 ∧ c = 0) ∧ ∀ i, i < n → ∃ b off, A = some ⟨b, off, none⟩ ∧ b < w.heap.size ∧ Lies enc P base spare held w b (off + i * P.cellsOf e) e := by
  obtain ⟨a0, len0, cap0, rfl⟩ := okWide_slice hu hval
  obtain ⟨fuel, hf⟩ := hd
  have hf' : DataW.trod enc P w base spare held fuel t [.slice a0 len0 cap0] = some (d, ps) := hf
  obtain ⟨h1, h2, h3, h4, h5⟩ := Lies.elems hu hpos hf'
  exact ⟨a0, len0, cap0, rfl, h1, h2, h3, h4, h5⟩

/-- A slice of numbers within. -/
theorem Lies.ints (h : Lies enc P base spare held w b o t) (hu : P.underlying t = some (.slice e)) (he : P.underlying e = some (.int .i64)) (hc : P.cellsOf t = 1) (hce : P.cellsOf e = 1) :
    ∃ A n c f, w.cell? ⟨b, o, none⟩ = some (.slice A n c) ∧ Hl.Ints w w.heap.size A n f ∧ n ≤ 9223372036854775807 ∧ (∀ k, k < n → -9223372036854775808 ≤ f k ∧ f k ≤ 9223372036854775807) ∧ (A = none → n = 0 ∧ c = 0) := by
  obtain ⟨A, n, c, hcell, hn, _, _, hz, hel⟩ := h.slice hu hc (by omega)
  obtain ⟨f, hf⟩ := Go.Deep.choose_lt (α := Int) (n := n) (p := fun k z => (∃ b off, A = some ⟨b, off, none⟩ ∧ b < w.heap.size ∧ w.cell? ⟨b, off + k, none⟩ = some (.int .i64 z)) ∧ -9223372036854775808 ≤ z ∧ z ≤ 9223372036854775807) (fun k hk => by
    obtain ⟨b, off, hA, hb, hl⟩ := hel k hk
    obtain ⟨z, hz, hb1⟩ := hl.int64 he hce
    rw [hce, Nat.mul_one] at hz
    exact ⟨z, ⟨b, off, hA, hb, hz⟩, hb1⟩)
  exact ⟨A, n, c, f, hcell, fun k hk => (hf k hk).1, hn, fun k hk => (hf k hk).2, hz⟩
end

end Go.Proofs.Ytdmpnkhgcggepaa.Hk
end

section
set_option linter.unusedVariables false
namespace Go.Proofs.Ytdmpnkhgcggepaa.Hk
open Go.ChangeShapes Go.WideShapes Go.ChangeAt Go.RowKit Go.Deep

section
variable {H : Type} {enc : TypeId × Value → H} {P : Program} {base : Nat} {spare : Nat → Bool} {held : Bool} {w : World} {t e : TypeId}

/-- Cells that read as a value of the type. -/
def Val (enc : TypeId × Value → H) (P : Program) (base : Nat) (spare : Nat → Bool) (held : Bool) (w : World) (t : TypeId) (cs : List Value) : Prop :=
  ∃ (fuel : Nat) (x : DataW H × List MemPlace), DataW.trod enc P w base spare held fuel t cs = some x

theorem Val.of {v : Value} {d : DataW H} {ps : List MemPlace} (hd : DataW.Trod enc P w base spare held t v d ps) {cs : Array Value} (hv : v = .agg cs) : Val enc P base spare held w t cs.toList := by
  subst hv
  obtain ⟨fuel, hf⟩ := hd
  exact ⟨fuel, _, hf⟩

theorem Val.int {cs : List Value} (h : Val enc P base spare held w t cs) {k : IntKind} (hu : P.underlying t = some (.int k)) : ∃ z : Int, cs = [.int k z] ∧ (Lit.int k z).wf = true := by
  obtain ⟨fuel, x, htr⟩ := h
  obtain ⟨z, hz, _, hwf⟩ := DataW.trod_int hu htr
  exact ⟨z, hz, hwf⟩

theorem Val.flag {cs : List Value} (h : Val enc P base spare held w t cs) (hu : P.underlying t = some .bool) : ∃ x : Bool, cs = [.bool x] := by
  obtain ⟨fuel, x, htr⟩ := h
  obtain ⟨z, hz, _⟩ := DataW.trod_bool hu htr
  exact ⟨z, hz⟩

theorem Val.str {cs : List Value} (h : Val enc P base spare held w t cs) (hu : P.underlying t = some .string) : ∃ s : ByteArray, cs = [.string s] ∧ s.size ≤ maxLen := by
  obtain ⟨fuel, x, htr⟩ := h
  obtain ⟨s, hs, _, hl⟩ := DataW.trod_string hu htr
  exact ⟨s, hs, hl⟩

theorem Val.field {cs : List Value} (h : Val enc P base spare held w t cs) {fs : Array Field} (hu : P.underlying t = some (.struct fs)) (j : Nat) (f : Field) (hj : fs[j]? = some f) : Val enc P base spare held w f.type ((cs.drop f.offset).take (P.cellsOf f.type)) := by
  obtain ⟨fuel, x, htr⟩ := h
  obtain ⟨xs, n', _, _, _, hxs, hfld⟩ := DataW.trod_struct hu htr
  have h1 := hfld j f hj
  have hjl : j < xs.length := by have := (Array.getElem?_eq_some_iff.1 hj).1; omega
  rw [List.getElem?_eq_getElem hjl] at h1
  exact ⟨n', _, h1⟩

theorem Val.item {cs : List Value} (h : Val enc P base spare held w t cs) {n : Nat} (hu : P.underlying t = some (.array n e)) (i : Nat) (hi : i < n) : Val enc P base spare held w e ((cs.drop (i * P.cellsOf e)).take (P.cellsOf e)) := by
  obtain ⟨fuel, x, htr⟩ := h
  obtain ⟨xs, m, _, _, _, hxs, hel⟩ := DataW.trod_array hu htr
  have h1 := hel i hi
  rw [List.getElem?_eq_getElem (by omega)] at h1
  exact ⟨m, _, h1⟩

/-- A field of one cell. -/
theorem cell_of {cs : List Value} {o : Nat} {v : Value} (h : (cs.drop o).take 1 = [v]) : cs[o]? = some v := by
  have h0 := congrArg (fun l : List Value => l[0]?) h
  simp only [List.getElem?_take, List.getElem?_drop] at h0
  simpa using h0

/-- A field of one cell, whose value stands there. -/
theorem Val.at {cs : List Value} (h : Val enc P base spare held w t cs) {fs : Array Field} (hu : P.underlying t = some (.struct fs)) (j o : Nat) (T : TypeId) (hj : (fs[j]?).map (fun f => (f.offset, f.type)) = some (o, T)) (hc : P.cellsOf T = 1) (v : Value) (hv : cs[o]? = some v) : Val enc P base spare held w T [v] := by
  cases hf : fs[j]? with
  | none => rw [hf] at hj; cases hj
  | some f =>
    rw [hf] at hj
    have h0 : (f.offset, f.type) = (o, T) := Option.some.inj hj
    injection h0 with h1 h2
    have h3 := h.field hu j f hf
    rw [h1, h2, hc] at h3
    have h4 : (cs.drop o).take 1 = [v] := by
      apply List.ext_getElem?
      intro k
      rw [List.getElem?_take, List.getElem?_drop]
      cases k with
      | zero => simpa using hv
      | succ k => simp
    rw [h4] at h3
    exact h3

/-- A slice of bytes within. -/
theorem Val.bytes {cs : List Value} (h : Val enc P base spare held w t cs) (ht : P.underlying t = some (.slice e)) (he : P.underlying e = some (.int .u8)) (hc : P.cellsOf e = 1) :
    ∃ A n c l, cs = [.slice A n c] ∧ By.Bys w w.heap.size A n l ∧ n ≤ 9223372036854775807 ∧ (A = none → n = 0 ∧ c = 0) ∧ n ≤ c := by
  obtain ⟨fuel, x, htr⟩ := h
  have hcs : ∃ a n c, cs = [.slice a n c] := by
    rcases DataW.trod_slice ht htr with ⟨hv, _⟩ | ⟨a, len, cap, elems, rest, n, _, hv, _⟩
    · exact ⟨_, _, _, hv⟩
    · exact ⟨_, _, _, hv⟩
  obtain ⟨a0, n0, c0, rfl⟩ := hcs
  rcases open_ints ht he hc htr with ⟨hv, _⟩ | ⟨a, len, cap, zs, hv, _, hl, hm, hz, _, hcell, hwf⟩
  · have hv' : Value.slice a0 n0 c0 = .slice none 0 0 := by simpa using hv
    exact ⟨none, 0, 0, [], by rw [hv'], By.Bys.nil _ _ _, by omega, fun _ => ⟨rfl, rfl⟩, by omega⟩
  · have hv' : Value.slice a0 n0 c0 = .slice (some a) len cap := by simpa using hv
    have hzl : len ≤ zs.length := by rw [hz]; split <;> omega
    unfold maxLen at hm
    refine ⟨some a, len, cap, (zs.take len).map fun z => UInt8.ofNat z.toNat, by rw [hv'], ⟨by rw [List.length_map, List.length_take]; omega, fun k b hb => ?_⟩, by omega, (fun h => by cases h), hl⟩
    have hk : k < len := by
      have := (List.getElem?_eq_some_iff.1 hb).1
      rw [List.length_map, List.length_take] at this
      omega
    obtain ⟨g, off, rfl, hcs⟩ := ints_at hcell (by omega)
    have hk2 : k < zs.length := by omega
    refine ⟨g, off, rfl, World.block_lt_of_cell? w _ (hcs k hk2), ?_⟩
    rw [hcs k hk2]
    have hb2 := bounds_u8 (hwf (zs[k]) (List.getElem_mem hk2))
    rw [List.getElem?_map, List.getElem?_take, if_pos hk, List.getElem?_eq_getElem hk2] at hb
    have hb3 : UInt8.ofNat zs[k].toNat = b := by simpa using hb
    rw [← hb3, By.toNat_small (by omega)]
    have : zs.getD k 0 = zs[k] := by simp [List.getD, hk2]
    rw [this]
    congr 2
    omega

/-- An array of bytes. -/
theorem open_array8 {v : Value} {d : DataW H} {ps : List MemPlace} {r : Reach} {b0 n : Nat} (ht : P.underlying t = some (.array n e)) (he : P.underlying e = some (.int .u8)) (hc : P.cellsOf e = 1) (hct : P.cellsOf t = n)
    (hval : Value.okWide P w r b0 t v) (hd : DataW.Trod enc P w base spare held t v d ps) : ∃ s : List UInt8, s.length = n ∧ v = .agg (By.cellsB s).toArray := by
  simp only [Value.okWide, ht] at hval
  obtain ⟨cs, rfl, hsz, _⟩ := hval
  rw [hct] at hsz
  have hv := Val.of hd rfl
  have hz : ∀ i, i < n → ∃ b : UInt8, cs.toList[i]? = some (.int .u8 (b.toNat : Int)) := fun i hi => by
    have h1 := hv.item ht i hi
    rw [hc, Nat.mul_one] at h1
    obtain ⟨z, hz, hwf⟩ := h1.int he
    have hb : 0 ≤ z ∧ z ≤ 255 := bounds_u8 hwf
    refine ⟨UInt8.ofNat z.toNat, ?_⟩
    rw [By.toNat_small (by omega), cell_of hz]
    congr 2
    omega
  obtain ⟨f, hf⟩ := Go.Deep.choose_lt (α := UInt8) (n := n) (p := fun i b => cs.toList[i]? = some (.int .u8 (b.toNat : Int))) hz
  refine ⟨(List.range n).map f, by simp, ?_⟩
  congr 1
  apply Array.ext'
  apply List.ext_getElem?
  intro i
  have hcl : cs.toList.length = n := by simpa using hsz
  rcases Nat.lt_or_ge i n with hi | hi
  · rw [hf i hi, show (By.cellsB ((List.range n).map f)).toArray.toList = By.cellsB ((List.range n).map f) from rfl, By.cellsB_at, List.getElem?_map, List.getElem?_range hi]
    rfl
  · rw [List.getElem?_eq_none (by omega), List.getElem?_eq_none (by rw [show (By.cellsB ((List.range n).map f)).toArray.toList = By.cellsB ((List.range n).map f) from rfl, By.cellsB_length, List.length_map, List.length_range]; omega)]
end

end Go.Proofs.Ytdmpnkhgcggepaa.Hk
end

section
set_option linter.unusedVariables false
namespace Go.Proofs.Ytdmpnkhgcggepaa.By
open Go.RowKit

theorem zeroCells_u8 (n : Nat) : Builtin.zeroCells (Value.int .u8 0).cells n = (cellsB (List.replicate n 0)).toArray := by
  apply Array.ext'
  apply List.ext_getElem?
  intro k
  have e : (Value.int IntKind.u8 0).cells = #[Value.int .u8 0] := rfl
  rw [e]
  unfold Builtin.zeroCells cellsB
  by_cases hk : k < n
  · have h1 : k % 1 = 0 := Nat.mod_one k
    simp [hk, h1]
  · simp [hk]

section
variable {P : Program} (w : World)

theorem asInt64 (z : Int) : (asIntOf (.int .i64 z)).run P w = .ok (.i64, z) w := rfl

theorem run_zeros_room (t u ty e : TypeId) (i : TypeInfo) (ht : P.underlying t = some (.slice e)) (hu : P.underlying u = some (.int .i64)) (hi : P.info? e = some i) (hz : i.zero = some (.int .u8 0)) (hs1 : i.size = 1) (hby : i.bytes = 1)
    (g sLen sCap : Nat) (cur : Array Value) (hg : w.heap[g]? = some (.cells cur e (0, 0))) (m : Nat) (hm : 0 < m) (hm2 : m ≤ 140737488355328)
    (hroom : sLen + m ≤ sCap) (hfit : sLen + m ≤ cur.size) :
    (Builtin.append_ #[t, u] ty #[.slice (some ⟨g, 0, none⟩) sLen sCap, .int .i64 (m : Int)]).run P w =
      .ok (.slice (some ⟨g, 0, none⟩) (sLen + m) sCap) (w.setRow g (cur.toList.take sLen ++ cellsB (List.replicate m 0) ++ cur.toList.drop (sLen + m)).toArray) := by
  have hl : (cellsB (List.replicate m 0)).length = m := by rw [cellsB_length, List.length_replicate]
  have hst := run_storeCells_at P g sLen e (cellsB (List.replicate m 0)) 0 cur w hg (by rw [hl]; simpa using hfit) (cellsB_one _)
  simp only [Nat.add_zero, hl] at hst
  have h2 : ¬ (281474976710656 < (m : Int)) := by omega
  have h3 : m ≠ 0 := by omega
  have h4 : IntKind.i64.wrap (m : Int) = (m : Int) := by rw [IntKind.wrap_i64]; omega
  have h5 : ¬ ((m : Int) < 0) := by omega
  simp [Builtin.append_, run_underlying ht, run_underlying hu, sizeOf, typeInfo, zeroValue, hi, hz, hs1, hby, asInt, asInt64, h2, h3, h4, h5, hroom, zeroCells_u8, Addr.add_lit, hst]

theorem run_zeros_nil (t u ty e : TypeId) (i : TypeInfo) (ht : P.underlying t = some (.slice e)) (hu : P.underlying u = some (.int .i64)) (hi : P.info? e = some i) (hz : i.zero = some (.int .u8 0)) (hs1 : i.size = 1) (hby : i.bytes = 1) (m : Nat) (hm : 0 < m) (hm2 : m ≤ 140737488355328) :
    (Builtin.append_ #[t, u] ty #[.slice none 0 0, .int .i64 (m : Int)]).run P w =
      .ok (.slice (some ⟨w.heap.size, 0, none⟩) m (grownCap w m 0 e)) (w.drew.alloc (.cells ((cellsB (List.replicate m 0)).toArray ++ Builtin.zeroCells (Value.int .u8 0).cells (grownCap w m 0 e - m)) e)) := by
  have h2 : ¬ (281474976710656 < (m : Int)) := by omega
  have h3 : m ≠ 0 := by omega
  have h4 : IntKind.i64.wrap (m : Int) = (m : Int) := by rw [IntKind.wrap_i64]; omega
  have h5 : ¬ ((m : Int) < 0) := by omega
  have h6 : ¬ (9223372036854775807 < (m : Int)) := by omega
  have h48 : ¬ (281474976710656 < Builtin.nextslicecap m 0) := by rw [nextslicecap_zero hm]; omega
  simp [Builtin.append_, run_underlying ht, run_underlying hu, sizeOf, typeInfo, zeroValue, hi, hz, hs1, hby, asInt, asInt64, h2, h3, h4, h5, h6, h48, Question.forced, run_firstCells_none, newRow, grownCap, zeroCells_u8]

theorem run_zeros_grow (t u ty e : TypeId) (i : TypeInfo) (ht : P.underlying t = some (.slice e)) (hu : P.underlying u = some (.int .i64)) (hi : P.info? e = some i) (hz : i.zero = some (.int .u8 0)) (hs1 : i.size = 1) (hby : i.bytes = 1)
    (b : Addr) (sLen sCap : Nat) (olds : List Value) (hlo : olds.length = sLen * i.size) (holds : ∀ j v, olds[j]? = some v → w.cell? (b.add j) = some v) (m : Nat) (hm : 0 < m)
    (hg : sCap < sLen + m) (h63 : sLen + m ≤ 140737488355328) (hfit : Builtin.nextslicecap (sLen + m) sCap ≤ 281474976710656) :
    (Builtin.append_ #[t, u] ty #[.slice (some b) sLen sCap, .int .i64 (m : Int)]).run P w =
      .ok (.slice (some ⟨w.heap.size, 0, none⟩) (sLen + m) (grownCap w (sLen + m) sCap e))
        (w.drew.alloc (.cells (olds.toArray ++ (cellsB (List.replicate m 0)).toArray ++ Builtin.zeroCells (Value.int .u8 0).cells (grownCap w (sLen + m) sCap e - (sLen + m))) e)) := by
  have hn : ¬ (sLen + m ≤ sCap) := by omega
  have h2 : ¬ (281474976710656 < (m : Int)) := by omega
  have h3 : m ≠ 0 := by omega
  have h4 : IntKind.i64.wrap (m : Int) = (m : Int) := by rw [IntKind.wrap_i64]; omega
  have h5 : ¬ ((m : Int) < 0) := by omega
  have h6 : ¬ (9223372036854775807 < ((sLen : Int) + (m : Int))) := by omega
  have h48 : ¬ (281474976710656 < Builtin.nextslicecap (sLen + m) sCap) := by omega
  have hfo := run_firstCells_some (P := P) w.drew i.size sLen b sLen sCap olds hlo (by simpa using holds)
  rw [hs1] at hfo
  simp [Builtin.append_, run_underlying ht, run_underlying hu, sizeOf, typeInfo, zeroValue, hi, hz, hs1, hby, asInt, asInt64, hn, h2, h3, h4, h5, h6, h48, Question.forced, hfo, newRow, grownCap, zeroCells_u8]

/-- Noughts behind a row of the call's own. -/
theorem run_append_zeros (base : Nat) (t u ty e : TypeId) (i : TypeInfo) (ht : P.underlying t = some (.slice e)) (hu : P.underlying u = some (.int .i64)) (hi : P.info? e = some i) (hz : i.zero = some (.int .u8 0)) (hsize : i.size = 1) (hby : i.bytes = 1)
    (v : Value) (n : Nat) (l : List UInt8) (hown : w.ownsRow base e 1 v n (cellsB l)) (m : Nat) (hm : 0 < m) (h63 : n + m ≤ 140737488355328) (hbase : base ≤ w.heap.size) :
    ∃ v' w', (Builtin.append_ #[t, u] ty #[v, .int .i64 (m : Int)]).run P w = .ok v' w' ∧ w'.ownsRow base e 1 v' (n + m) (cellsB (l ++ List.replicate m 0)) ∧ w.grownBy w' v.ownBlock := by
  have hsmall : n + m ≤ maxLen := by unfold maxLen; omega
  have hxl : (cellsB l).length = n := by simpa using hown.1
  have hrl : (cellsB (List.replicate m 0)).length = m := by rw [cellsB_length, List.length_replicate]
  have hlen : (cellsB (l ++ List.replicate m 0)).length = (n + m) * 1 := by rw [cellsB_append, List.length_append, hxl, hrl, Nat.mul_one]
  have grown : ∀ (old : Nat), old < n + m → ∀ (row : Option Nat),
      (w.drew.alloc (.cells ((cellsB l).toArray ++ (cellsB (List.replicate m 0)).toArray ++ Builtin.zeroCells (Value.int .u8 0).cells (grownCap w (n + m) old e - (n + m))) e)).ownsRow base e 1
        (.slice (some ⟨w.heap.size, 0, none⟩) (n + m) (grownCap w (n + m) old e)) (n + m) (cellsB (l ++ List.replicate m 0)) ∧
      w.grownBy (w.drew.alloc (.cells ((cellsB l).toArray ++ (cellsB (List.replicate m 0)).toArray ++ Builtin.zeroCells (Value.int .u8 0).cells (grownCap w (n + m) old e - (n + m))) e)) row := by
    intro old ho row
    have hge := grownCap_ge w (n + m) old e
    have hcm : grownCap w (n + m) old e ≤ maxLen := grownCap_le_maxLen w (n + m) old e hsmall
    refine ⟨⟨hlen, .inr ⟨w.heap.size, _, _, rfl, hbase, heap_alloc_new w.drew _, hge, hcm, ?_, ?_⟩⟩, ⟨rfl, rfl, rfl, by simp, fun k hk _ => (by first | exact heap_alloc_old w.drew _ k hk | exact heap_alloc_old w.drew _ hk)⟩⟩
    · have hz1 : (Value.int IntKind.u8 0).cells.size = 1 := rfl
      simp only [Array.size_append, List.size_toArray, size_zeroCells, hz1, hxl, hrl]
      omega
    · simp only [Array.toList_append, List.append_assoc]
      rw [← List.append_assoc, ← hlen, cellsB_append]
      exact List.take_left
  rcases hown.2 with ⟨rfl, rfl⟩ | ⟨g, cap, cur, rfl, hbg, hg, hnc, hcm, hcs, htake⟩
  · have hx : l = [] := List.eq_nil_of_length_eq_zero (by rw [cellsB_length] at hxl; exact hxl)
    subst hx
    have hr := run_zeros_nil (P := P) w t u ty e i ht hu hi hz hsize hby m hm (by omega)
    have hgr := grown 0 (by omega) (Value.ownBlock (.slice none 0 0))
    simp only [Nat.zero_add, List.nil_append] at hgr ⊢
    have e0 : (cellsB ([] : List UInt8)).toArray = #[] := rfl
    rw [e0, Array.empty_append] at hgr
    exact ⟨_, _, hr, hgr.1, hgr.2⟩
  · by_cases hroom : n + m ≤ cap
    · have hcs' : cur.size = cap := by simpa using hcs
      have hr := run_zeros_room (P := P) w t u ty e i ht hu hi hz hsize hby g n cap cur hg m hm (by omega) hroom (by omega)
      refine ⟨_, _, hr, ⟨hlen, .inr ⟨g, cap, _, rfl, hbg, setRow_heap w g cur _ e _ hg, hroom, hcm, ?_, ?_⟩⟩, ⟨rfl, rfl, rfl, by simp, fun k _ hk => setRow_other w g k _ (fun e => hk (by simp [Value.ownBlock, e]))⟩⟩
      · simp only [List.size_toArray, List.length_append, List.length_take, List.length_drop, Array.length_toList, hrl]
        omega
      · have ht' : cur.toList.take n = cellsB l := by simpa using htake
        rw [ht', ← hlen, cellsB_append]
        exact List.take_left
    · have holds : ∀ j u, (cellsB l)[j]? = some u → w.cell? ((⟨g, 0, none⟩ : Addr).add j) = some u := hown.cells (g := g) rfl
      have h48 : Builtin.nextslicecap (n + m) cap * 1 ≤ 281474976710656 := growslice_fits (by omega) (by omega)
      rw [Nat.mul_one] at h48
      have hr := run_zeros_grow (P := P) w t u ty e i ht hu hi hz hsize hby ⟨g, 0, none⟩ n cap (cellsB l) (by rw [hsize]; simpa using hxl) holds m hm (by omega) h63 h48
      have hgr := grown cap (by omega) (Value.ownBlock (.slice (some ⟨g, 0, none⟩) n cap))
      exact ⟨_, _, hr, hgr.1, hgr.2⟩

theorem wpList_append_zeros {ops : Array Oper} {rest : List Oper} {o : Oper} {a : Act} {Q : Exit → Act → World → Prop} (free : o.guard = none) (s x : Operand) (t u : TypeId)
    (is : o.op = .call { callee := .builtin .append, args := #[s, x], argTypes := #[t, u] })
    (base : Nat) (e : TypeId) (i : TypeInfo) (ht : P.underlying t = some (.slice e)) (hu : P.underlying u = some (.int .i64)) (hi : P.info? e = some i) (hz : i.zero = some (.int .u8 0)) (hsize : i.size = 1) (hby : i.bytes = 1)
    (v : Value) (n : Nat) (l : List UInt8) (vs : a.eval s = v) (hown : w.ownsRow base e 1 v n (cellsB l)) (m : Nat) (vx : a.eval x = .int .i64 (m : Int)) (hm : 0 < m) (h63 : n + m ≤ 140737488355328) (hbase : base ≤ w.heap.size)
    (go : ∀ v' w', w'.ownsRow base e 1 v' (n + m) (cellsB (l ++ List.replicate m 0)) → w.grownBy w' v.ownBlock → wpList P ops Q rest (a.put o.dst v') w') : wpList P ops Q (o :: rest) a w := by
  refine wpList_plain free fun K hK => ?_
  obtain ⟨v', w', run, h2, h3⟩ := run_append_zeros (P := P) w base t u o.type e i ht hu hi hz hsize hby v n l hown m hm h63 hbase
  unfold Oper.wp execOp
  simp only [is, resolve, invoke, builtin, Sem.run_bind, Sem.run_pure, Result.andThen_ok, List.map_toArray, List.map_cons, List.map_nil, vs, vx, run]
  exact hK _ _ (go v' w' h2 h3)
end

end Go.Proofs.Ytdmpnkhgcggepaa.By
end

section
namespace Go.Proofs.Ytdmpnkhgcggepaa.Hy
open Go.ChangeShapes Go.WideShapes Go.ChangeAt Go.RowKit
open Qu (Blk)
open Hl (eqB eqB_len eqB_no eqB_yes Drawn)
set_option linter.unusedVariables false

/-- A slice of n bytes, as numbers, below block M. -/
def Ints (w : World) (M : Nat) (A : Option Addr) (n : Nat) (f : Nat → Int) : Prop := ∀ k, k < n → ∃ b off, A = some ⟨b, off, none⟩ ∧ b < M ∧ w.cell? ⟨b, off + k, none⟩ = some (.int .u8 (f k))

theorem Ints.below {w w' : World} {M B n : Nat} {A : Option Addr} {f : Nat → Int} (h : Ints w M A n f) (hb : Below B w w') (hM : M ≤ B) : Ints w' M A n f := fun k hk => by
  obtain ⟨b, off, hA, hb1, hc⟩ := h k hk
  exact ⟨b, off, hA, hb1, (hb.cell (p := ⟨b, off + k, none⟩) (by show b < B; omega)).trans hc⟩

theorem Ints.more {w : World} {M M' n : Nat} {A : Option Addr} {f : Nat → Int} (h : Ints w M A n f) (hM : M ≤ M') : Ints w M' A n f := fun k hk => by
  obtain ⟨b, off, hA, hb1, hc⟩ := h k hk
  exact ⟨b, off, hA, by omega, hc⟩

theorem Ints.size {w : World} {M n : Nat} {A : Option Addr} {f : Nat → Int} (h : Ints w M A n f) : Ints w w.heap.size A n f := fun k hk => by
  obtain ⟨b, off, hA, hb1, hc⟩ := h k hk
  exact ⟨b, off, hA, World.block_lt_of_cell? w _ hc, hc⟩

theorem Ints.drewN {w : World} {M n : Nat} {A : Option Addr} {f : Nat → Int} (h : Ints w M A n f) (d : Nat) : Ints (w.drewN d) M A n f := h

theorem Ints.less {w : World} {M n m : Nat} {A : Option Addr} {f : Nat → Int} (h : Ints w M A n f) (hm : m ≤ n) : Ints w M A m f := fun k hk => h k (by omega)

theorem Ints.congr {w : World} {M n : Nat} {A : Option Addr} {f g : Nat → Int} (h : Ints w M A n f) (hfg : ∀ k, k < n → f k = g k) : Ints w M A n g := fun k hk => by
  obtain ⟨b, off, hA, hb1, hc⟩ := h k hk
  exact ⟨b, off, hA, hb1, by rw [hc, hfg k hk]⟩


/-- Bytes as numbers, and back. -/
theorem Ints.of {w : World} {M n : Nat} {A : Option Addr} {l : List UInt8} (h : By.Bys w M A n l) : Ints w M A n (By.at_ l) := fun k hk => h.at hk

theorem Ints.bys {w : World} {M n : Nat} {A : Option Addr} {l : List UInt8} (h : Ints w M A n (By.at_ l)) (hl : l.length = n) : By.Bys w M A n l := ⟨hl, fun k b hk => by
  have hkn : k < n := by have := (List.getElem?_eq_some_iff.1 hk).1; omega
  obtain ⟨g, o, hA, hg, hc⟩ := h k hkn
  exact ⟨g, o, hA, hg, by rw [hc, By.at_some hk]⟩⟩

/-- A copy of n numbers, with three more behind them. -/
def Filled (w : World) (g n : Nat) (f : Nat → Int) (fill : Int) : Prop := ∀ k, k < n + 3 → w.cell? ⟨g, k, none⟩ = some (.int .u8 (if k < n then f k else fill))

theorem Filled.below {w w' : World} {B g n : Nat} {f : Nat → Int} {fill : Int} (h : Filled w g n f fill) (hb : Below B w w') (hg : g < B) : Filled w' g n f fill := fun k hk => (hb.cell (p := ⟨g, k, none⟩) hg).trans (h k hk)

theorem Filled.ints {w : World} {g n : Nat} {f : Nat → Int} {fill : Int} (h : Filled w g n f fill) : Ints w w.heap.size (some ⟨g, 0, none⟩) n f := fun k hk => by
  have := h k (by omega)
  rw [if_pos hk] at this
  exact ⟨g, 0, rfl, World.block_lt_of_cell? w _ this, by rw [Nat.zero_add]; exact this⟩

def Owned (e : Ending) (w w' : World) (n : Nat) (f : Nat → Int) (fill : Int) : Prop := ∃ g, e = .returned (.slice (some ⟨g, 0, none⟩) n (n + 3)) ∧ w.heap.size ≤ g ∧ Filled w' g n f fill ∧ Below w.heap.size w w'

/-- The row while it is filled: the first k are right. -/
structure Filling (w wr : World) (g n k : Nat) (f : Nat → Int) (fill : Int) : Prop where
  blk : ∃ cur : Array Value, Blk wr g 5 cur ∧ cur.size = n + 3 ∧ ∀ j, j < k → cur[j]? = some (.int .u8 (if j < n then f j else fill))
  low : w.heap.size ≤ g
  below : Below w.heap.size w wr

theorem Filling.step {w wr : World} {g n k : Nat} {f : Nat → Int} {fill : Int} (h : Filling w wr g n k f fill) (hk : n ≤ k) (hk2 : k < n + 3) : Filling w (wr.setCell ⟨g, k, none⟩ (.int .u8 fill)) g n (k + 1) f fill := by
  obtain ⟨⟨cur, hb, hs, hc⟩, hl, hw⟩ := h
  refine ⟨⟨cur.setIfInBounds k (.int .u8 fill), hb.put k _, by simpa using hs, fun j hj => ?_⟩, hl, hw.setCell hl _⟩
  by_cases e : j = k
  · subst e
    have hj2 : j < cur.size := by omega
    rw [if_neg (by omega)]
    simp [hj2]
  · rw [Array.getElem?_setIfInBounds_ne (Ne.symm e)]
    exact hc j (by omega)

end Go.Proofs.Ytdmpnkhgcggepaa.Hy
end

section
namespace Go.Proofs.Ytdmpnkhgcggepaa.Hr
open Go.ChangeShapes Go.WideShapes Go.ChangeAt Go.RowKit
open Hl (Drawn)
open By (Bys)
set_option linter.unusedVariables false

/-- A slice of slices of bytes reads these lists. -/
structure Rws (w : World) (M : Nat) (A : Option Addr) (n : Nat) (ls : List (List UInt8)) : Prop where
  len : ls.length = n
  each : ∀ (k : Nat) (l : List UInt8), ls[k]? = some l → ∃ b o A' m c', A = some ⟨b, o, none⟩ ∧ b < M ∧ w.cell? ⟨b, o + k, none⟩ = some (.slice A' m c') ∧ Bys w M A' m l

theorem Rws.nil (w : World) (M : Nat) (A : Option Addr) : Rws w M A 0 [] := ⟨rfl, fun k l h => by simp at h⟩

theorem Rws.below {w w' : World} {M B n : Nat} {A : Option Addr} {ls : List (List UInt8)} (h : Rws w M A n ls) (hb : Below B w w') (hM : M ≤ B) : Rws w' M A n ls := ⟨h.len, fun k l hk => by
  obtain ⟨b, o, A', m, c', h1, h2, h3, h4⟩ := h.each k l hk
  exact ⟨b, o, A', m, c', h1, h2, (hb.cell (p := ⟨b, o + k, none⟩) (show b < B by omega)).trans h3, h4.below hb hM⟩⟩

theorem Rws.more {w : World} {M M' n : Nat} {A : Option Addr} {ls : List (List UInt8)} (h : Rws w M A n ls) (hM : M ≤ M') : Rws w M' A n ls := ⟨h.len, fun k l hk => by
  obtain ⟨b, o, A', m, c', h1, h2, h3, h4⟩ := h.each k l hk
  exact ⟨b, o, A', m, c', h1, by omega, h3, h4.more hM⟩⟩

theorem Bys.drawn {w : World} {M n : Nat} {A : Option Addr} {l : List UInt8} (h : Bys w M A n l) (d : Nat) : Bys (w.drewN d) M A n l := ⟨h.1, h.2⟩

end Go.Proofs.Ytdmpnkhgcggepaa.Hr
end

section
set_option linter.unusedVariables false
namespace Go.Proofs.Ytdmpnkhgcggepaa.Se
open Go.RowKit
open Qu (Blk)
open Mv (Only)
open By (cellsB cellsB_length cellsB_at)

/-- A row of sectors, each of 64 bytes. -/
def All64 (l : List (List UInt8)) : Prop := ∀ s ∈ l, s.length = 64

theorem All64.at {l : List (List UInt8)} {i : Nat} {s : List UInt8} (h : All64 l) (hi : l[i]? = some s) : s.length = 64 := h s (List.mem_of_getElem? hi)

theorem All64.set {l : List (List UInt8)} {s : List UInt8} (h : All64 l) (hs : s.length = 64) (i : Nat) : All64 (l.set i s) := fun t ht => by
  rcases List.mem_or_eq_of_mem_set ht with h1 | h1
  · exact h t h1
  · rw [h1]; exact hs

theorem flat_length : ∀ {l : List (List UInt8)}, All64 l → l.flatten.length = l.length * 64
  | [], _ => rfl
  | s :: l, h => by
    have h1 := flat_length (l := l) fun t ht => h t (List.mem_cons_of_mem _ ht)
    have h2 := h s List.mem_cons_self
    rw [List.flatten_cons, List.length_append, h1, h2, List.length_cons]
    omega

/-- The byte of a row of sectors. -/
theorem flat_at : ∀ {l : List (List UInt8)}, All64 l → ∀ (i j : Nat), j < 64 → l.flatten[i * 64 + j]? = (l[i]?.getD [])[j]?
  | [], _, i, j, _ => by simp
  | s :: l, h, 0, j, hj => by
    have h2 := h s List.mem_cons_self
    rw [List.flatten_cons, List.getElem?_append_left (by omega)]
    simp
  | s :: l, h, i + 1, j, hj => by
    have h1 := flat_at (l := l) (fun t ht => h t (List.mem_cons_of_mem _ ht)) i j hj
    have h2 := h s List.mem_cons_self
    rw [List.flatten_cons, List.getElem?_append_right (by omega), List.getElem?_cons_succ, ← h1]
    congr 1
    omega

/-- A list with others written over it from a place on. -/
def over {α : Type} (xs : List α) (o : Nat) : List α → List α
  | [] => xs
  | v :: r => over (xs.set o v) (o + 1) r

theorem over_length {α : Type} : ∀ (vs xs : List α) (o : Nat), (over xs o vs).length = xs.length
  | [], xs, o => rfl
  | v :: r, xs, o => by rw [over, over_length r, List.length_set]

theorem over_at {α : Type} : ∀ (vs xs : List α) (o k : Nat), o + vs.length ≤ xs.length → (over xs o vs)[k]? = if o ≤ k ∧ k < o + vs.length then vs[k - o]? else xs[k]?
  | [], xs, o, k, _ => by
    rw [over, if_neg]
    simp
  | v :: r, xs, o, k, h => by
    rw [List.length_cons] at h
    rw [over, over_at r (xs.set o v) (o + 1) k (by rw [List.length_set]; omega)]
    by_cases h1 : o + 1 ≤ k ∧ k < o + 1 + r.length
    · rw [if_pos h1, if_pos (by rw [List.length_cons]; omega)]
      have e : k - o = (k - (o + 1)) + 1 := by omega
      rw [e, List.getElem?_cons_succ]
    · rw [if_neg h1]
      by_cases h2 : k = o
      · subst h2
        rw [if_pos (by rw [List.length_cons]; omega), List.getElem?_set_self (by omega)]
        simp
      · rw [if_neg (by rw [List.length_cons]; omega), List.getElem?_set_ne (by omega)]

/-- A sector written over. -/
theorem over_flat {l : List (List UInt8)} {s : List UInt8} {i : Nat} (h : All64 l) (hs : s.length = 64) (hi : i < l.length) : over (cellsB l.flatten) (i * 64) (cellsB s) = cellsB (l.set i s).flatten := by
  have hl := flat_length h
  have hl2 := flat_length (h.set hs i)
  apply List.ext_getElem?
  intro k
  rw [over_at _ _ _ _ (by rw [cellsB_length, cellsB_length, hl, hs]; omega), cellsB_length, hs, cellsB_at, cellsB_at, cellsB_at]
  have e := flat_at (h.set hs i) (k / 64) (k % 64) (by omega)
  have e0 := flat_at h (k / 64) (k % 64) (by omega)
  have ek : k / 64 * 64 + k % 64 = k := by omega
  rw [ek] at e e0
  rw [e, e0]
  by_cases hk : i * 64 ≤ k ∧ k < i * 64 + 64
  · rw [if_pos hk]
    have h1 : k / 64 = i := by omega
    rw [h1, List.getElem?_set_self hi, show k - i * 64 = k % 64 by omega]
    rfl
  · rw [if_neg hk, List.getElem?_set_ne (by omega)]

section
variable {w : World} {B E size g n cap : Nat} {xs : List Value}
/-- Many cells of a row of the call's own are written over. -/
theorem own_over (vs : List Value) : ∀ (xs : List Value) (w : World) (o : Nat), w.ownsRow B E size (.slice (some ⟨g, 0, none⟩) n cap) n xs →
    (w.setCells g o vs).ownsRow B E size (.slice (some ⟨g, 0, none⟩) n cap) n (over xs o vs) ∧ w.grownBy (w.setCells g o vs) (some g) := by
  induction vs with
  | nil => exact fun xs w o h => ⟨h, World.grownBy.refl w _⟩
  | cons v r ih =>
    intro xs w o h
    obtain ⟨h1, h2⟩ := h.stored o v
    obtain ⟨h3, h4⟩ := ih _ _ (o + 1) h1
    exact ⟨h3, h2.trans h4⟩

/-- A part of a row lies there. -/
theorem own_range (h : w.ownsRow B E size (.slice (some ⟨g, 0, none⟩) n cap) n xs) (o : Nat) (vs : List Value) (hv : ∀ j v, vs[j]? = some v → xs[o + j]? = some v) : w.rangeAt g o vs := fun j v hj => by
  have h1 := hv j v hj
  have h2 := (List.getElem?_eq_some_iff.1 h1).1
  have h3 := h.1
  rw [h.cellAt _ (by omega)]
  exact h1

theorem own_there (h : w.ownsRow B E size (.slice (some ⟨g, 0, none⟩) n cap) n xs) (o k : Nat) (hk : o + k ≤ n * size) : w.there g o k := fun j hj => by
  have h3 := h.1
  refine ⟨?_, h.frozenAt _⟩
  rw [h.cellAt _ (by omega), List.getElem?_eq_getElem (by omega)]
  rfl
end

/-- The sectors of a row. -/
def Rows64 (w : World) (B E g n cap : Nat) (l : List (List UInt8)) : Prop := All64 l ∧ w.ownsRow B E 64 (.slice (some ⟨g, 0, none⟩) n cap) n (cellsB l.flatten)

section
variable {w w' : World} {B E g n cap i : Nat} {l : List (List UInt8)} {s : List UInt8}
theorem Rows64.len (h : Rows64 w B E g n cap l) : l.length = n := by
  have := h.2.1
  rw [cellsB_length, flat_length h.1] at this
  omega

theorem Rows64.range (h : Rows64 w B E g n cap l) (hi : l[i]? = some s) : w.rangeAt g (i * 64) (cellsB s) :=
  own_range h.2 _ _ fun j v hj => by
    have hs := h.1.at hi
    have hj2 := (List.getElem?_eq_some_iff.1 hj).1
    rw [cellsB_length, hs] at hj2
    rw [cellsB_at, flat_at h.1 i j hj2, hi]
    rw [cellsB_at] at hj
    exact hj

theorem Rows64.there (h : Rows64 w B E g n cap l) (hi : i < n) : w.there g (i * 64) 64 := own_there h.2 _ _ (by omega)

theorem Rows64.put (h : Rows64 w B E g n cap l) (hi : i < n) (hs : s.length = 64) : Rows64 (w.setCells g (i * 64) (cellsB s)) B E g n cap (l.set i s) ∧ w.grownBy (w.setCells g (i * 64) (cellsB s)) (some g) := by
  obtain ⟨h1, h2⟩ := own_over (cellsB s) _ w (i * 64) h.2
  rw [over_flat h.1 hs (by rw [h.len]; exact hi)] at h1
  exact ⟨⟨h.1.set hs i, h1⟩, h2⟩

theorem Rows64.only {S : Nat → Prop} (h : Rows64 w B E g n cap l) (k : Only w w' S) (hs : ¬ S g) : Rows64 w' B E g n cap l :=
  ⟨h.1, Mv.own_only h.2 k fun g' hg' => by rw [Mv.ownBlock_some] at hg'; injection hg' with hg'; subst hg'; exact hs⟩
end

def noughts : List UInt8 := List.replicate 64 0

theorem noughts_len : noughts.length = 64 := by simp [noughts]

/-- Sectors of noughts. -/
def blanks (n : Nat) : List (List UInt8) := List.replicate n (List.replicate 64 0)

theorem blanks_all (n : Nat) : All64 (blanks n) := fun s hs => by
  rw [(List.mem_replicate.1 hs).2]; simp

theorem blanks_flat : ∀ n, (blanks n).flatten = List.replicate (n * 64) 0
  | 0 => rfl
  | n + 1 => by
    show (List.replicate 64 (0 : UInt8) :: blanks n).flatten = _
    rw [List.flatten_cons, blanks_flat n, List.replicate_append_replicate]
    congr 1
    omega

end Go.Proofs.Ytdmpnkhgcggepaa.Se
end
