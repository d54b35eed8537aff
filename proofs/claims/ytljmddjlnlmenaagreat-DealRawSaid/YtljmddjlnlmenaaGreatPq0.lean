/- Helpers of all the seats' proofs: nothing here speaks of the program. · The row's last step for a law, whatever its arguments are: what was there reads as it did. Nothing here speaks of the program. · Heaps and sorted lists of ranks and numbers: plain mathematics, nothing of the program. · Rows of ranks and numbers in memory: nothing of the program. · Of what there was, some blocks alone have turned; rows, boxes stay. Nothing of the program. · Numbers and texts as bytes: plain mathematics, nothing of the program. · Bytes in memory; texts of them, appends of them. Nothing of the program. · Contracts of bytes.Clone and of the statements' helpers over bytes: Bytes, Spoil. · Bits of small numbers, as the model has them. · Slices of slices of bytes; a literal text as bytes. · Opening a law's arguments: a slice of structs, field by field (numbers, texts, flags); a slice of bytes. Nothing here speaks of the program. · Lists of numbers in memory. · Opening a law's arguments that are slices: nothing here speaks of the program. · Opening a law's arguments, whatever their depth: what lies at a place, read as a type has it: numbers, texts, flags, structs, slices of any of these. Nothing here speaks of the program. · Opening a law's arguments that are structs or arrays by value: cell by cell. Nothing here speaks of the program. · append(b, make([]byte, m)...): noughts behind a row of bytes of the call's own. Nothing of the program. · Contracts of the statements' helpers on rows of bytes: Plain, Own, Kept. · The law folders' help on lists of rows of bytes: Same, Rows. · Sectors of 64 bytes in memory, and rows of them. Nothing of the program. -/
import Derived.Below
import Derived.BigQuiet
import Derived.Carry
import Derived.ChangeArms
import Derived.ChangeMaps5
import Derived.ChangeSlices
import Derived.Deep.AppendLies
import Derived.Deep.Draws
import Derived.Deep.MidRow
import Derived.Deep.QuietTactic
import Derived.Deep.Slices
import Derived.IntWalk
import Derived.Laws.BitsAllLaws
import Derived.Laws.BytesArg
import Derived.Laws.IdiomArrays
import Derived.Laws.IdiomStrings
import Derived.Laws.MakeOwn
import Derived.Laws.Shifts
import Derived.Laws.Slices
import Derived.Laws.Strings
import Derived.Lib.AppendStr
import Derived.Lib.Hide
import Derived.Lib.SlBytesConst
import Derived.Lib.SliceRun
import Derived.LoopTactic
import Derived.Maps.AppendAt
import Derived.OpenShut
import Derived.Outline
import Derived.OwnWalk
import Derived.ProofKit
import Derived.RowKit3
import Derived.WalkKit
import Derived.Test.YtljmddjlnlmenaaGreatRows
set_option maxRecDepth 100000
set_option linter.unusedVariables false

section
section
namespace Go.Proofs.YtljmddjlnlmenaaGreat.Hk
open Go.ChangeShapes Go.WideShapes Go.ChangeAt Go.RowKit
theorem andThen {u v w : World} (h : Below u.heap.size u v) (k : Below v.heap.size v w) : Below u.heap.size u w := h.trans (k.mono h.size)
section
variable {H : Type} {enc : TypeId × Value -> H} {P : Program}
theorem closeRow {f : Func} {s : ChangeSpec} {apart fresh handsOn again : Bool} {W W' : World} {args : Array Value} {v : Value} {ds gs : List (DataW H)} {met pa pv : List MemPlace}
    (hW : DataW.Whole enc P f.params.toList s.vars apart W args.toList ds gs met) (hb : Below W.heap.size W W') (split : met = pa ++ pv)
    (out : ∀ (b : Nat) (sp : Nat -> Bool) (hd : Bool), DataW.TrodAll enc P W' b sp hd f.resultTypes.toList (v.resultList f.resultTypes.size) (s.fn H (ds ++ gs)).results [])
    (ins : ∀ sp : Nat -> Bool, (∀ p ∈ met, sp p.block = true) -> DataW.TrodAll enc P W' 0 sp true f.params.toList args.toList (s.fn H (ds ++ gs)).args pa)
    (vars : ∀ sp : Nat -> Bool, (∀ p ∈ met, sp p.block = true) -> DataW.TrodVars enc P W' sp s.vars (s.fn H (ds ++ gs)).vars pv)
    (wide : ∀ (j : Nat) (t : TypeId) (r : Value), f.resultTypes[j]? = some t -> (v.resultList f.resultTypes.size)[j]? = some r -> Value.okWide P W' .any 0 t r) :
    s.post enc P f apart fresh handsOn again W args v W' := by
  have old : ∀ p ∈ met, p.block < W.heap.size := fun p hp => hW.lt p hp
  have sure : ∀ p ∈ met, (fun b => decide (b < W.heap.size)) p.block = true := fun p hp => decide_eq_true (old p hp)
  have ever : ∀ p ∈ met, (fun _ : Nat => true) p.block = true := fun _ _ => rfl
  subst split
  obtain ⟨q1, q2, q3, q4, q5, ice, lone⟩ := id hW
  refine ⟨ds, gs, pa ++ pv, [], pa, pv, hW, out _ _ _, ins _ sure, vars _ sure, World.keptBut_mono (fun p hp => ⟨hp, Or.inr (List.mem_append.mp hp)⟩) (hb.frame (· ∈ pa ++ pv)), fun _ => ⟨wide, _, _, ([] ++ pa) ++ pv, ⟨[] ++ pa, pv, trodAll_append (ins _ ever) (out _ _ _), vars _ ever, rfl, ?_, ?_⟩, ?_⟩⟩
  . intro b o hp
    have hp' : MemPlace.cell b o ∈ pa ++ pv := hp
    exact (hb.frozen (p := ⟨b, o, Option.none⟩) (old _ hp')).trans (ice b o hp')
  . exact lone
  . exact fun p hp _ => hp
end
end Go.Proofs.YtljmddjlnlmenaaGreat.Hk
end
section
namespace Go.Proofs.YtljmddjlnlmenaaGreat.Hk
open Go.ChangeShapes Go.WideShapes Go.ChangeAt Go.RowKit
section
variable {H : Type} {enc : TypeId × Value -> H} {P : Program}
theorem argsStay (hl : laidOutB P = true) {W W' : World} (hb : Below W.heap.size W W') :
    ∀ (ts : List TypeId) (vs : List Value) (ds : List (DataW H)) (ps : List MemPlace) (sp : Nat -> Bool), (ts.all fun t => P.readableRec t && decide (t < P.types.size)) = true ->
      DataW.TrodAll enc P W 0 (fun _ => true) true ts vs ds ps -> (∀ p ∈ ps, p.block < W.heap.size) -> (∀ p ∈ ps, sp p.block = true) -> DataW.TrodAll enc P W' 0 sp true ts vs ds ps
  | [], [], [], ps, _, _, h, _, _ => h
  | [], _ :: _, _, _, _, _, h, _, _ => by simp [DataW.TrodAll] at h
  | [], [], _ :: _, _, _, _, h, _, _ => by simp [DataW.TrodAll] at h
  | _ :: _, [], _, _, _, _, h, _, _ => by simp [DataW.TrodAll] at h
  | _ :: _, _ :: _, [], _, _, _, h, _, _ => by simp [DataW.TrodAll] at h
  | t :: ts, v :: vs, d :: ds, ps, sp, hr, h, hlt, hs => by
    obtain ⟨p, q, h1, h2, rfl⟩ := h
    simp only [List.all_cons, Bool.and_eq_true, decide_eq_true_eq] at hr
    exact ⟨p, q, WideElems.Trod_stays hl hr.1.1 hr.1.2 h1 (fun x hx => hb.same (hlt x (List.mem_append_left _ hx))) (fun x hx => hs x (List.mem_append_left _ hx)),
      argsStay hl hb ts vs ds q sp hr.2 h2 (fun x hx => hlt x (List.mem_append_right _ hx)) (fun x hx => hs x (List.mem_append_right _ hx)), rfl⟩
theorem closeLaw {f : Func} {s : ChangeSpec} {W W' : World} {args : Array Value} {ds gs : List (DataW H)} {met : List MemPlace} {tb : TypeId}
    (hl : laidOutB P = true) (hr : (f.params.toList.all fun t => P.readableRec t && decide (t < P.types.size)) = true) (hv : s.vars = []) (hs : s.fn H ds = { results := [.lit (.bool true)], args := ds })
    (hres : f.resultTypes = #[tb]) (ht : P.underlying tb = some .bool) (hW : DataW.Whole enc P f.params.toList s.vars false W args.toList ds gs met) (hb : Below W.heap.size W W') :
    s.post enc P f false true false false W args (.bool true) W' := by
  have hW' := hW
  have old : ∀ p ∈ met, p.block < W.heap.size := fun p hp => hW.lt p hp
  obtain ⟨p, q, hA, hV, rfl, hfz, hnd⟩ := hW
  rw [hv] at hV
  obtain ⟨rfl, rfl⟩ := trodVars_none hV
  have hs' : s.fn H (ds ++ []) = { results := [.lit (.bool true)], args := ds } := by rw [List.append_nil]; exact hs
  refine closeRow (pa := p) (pv := []) hW' hb rfl ?_ ?_ ?_ (ok_one hres rfl (okWide_bool_mk ht _))
  . intro b sp hd
    rw [hs', hres]
    exact trodAll_cons_mk (shut_bool ht _) trodAll_mk0
  . intro sp hsp
    rw [hs']
    exact argsStay hl hb _ _ _ _ sp hr hA (fun x hx => old x (by simpa using hx)) (fun x hx => hsp x (by simpa using hx))
  . intro sp hsp
    rw [hs', hv]
    rfl
end
end Go.Proofs.YtljmddjlnlmenaaGreat.Hk
end
section
namespace Go.Proofs.YtljmddjlnlmenaaGreat.Qu
abbrev Pt := Int × Int
def aheadB (x y : Pt) : Bool := decide (y.1 < x.1 \/ (y.1 = x.1 /\ x.2 < y.2))
theorem ahead_iff (x y : Pt) : aheadB x y = true ↔ (y.1 < x.1 \/ (y.1 = x.1 /\ x.2 < y.2)) := by simp [aheadB]
theorem not_ahead (x y : Pt) : aheadB x y = false ↔ ¬ (y.1 < x.1 \/ (y.1 = x.1 /\ x.2 < y.2)) := by simp only [aheadB, decide_eq_false_iff_not]
def le (x y : Pt) : Prop := aheadB y x = false
theorem le_refl (x : Pt) : le x x := by unfold le; rw [not_ahead]; omega
theorem le_trans {x y z : Pt} (h : le x y) (k : le y z) : le x z := by
  unfold le at *; rw [not_ahead] at *; omega
theorem le_antisymm {x y : Pt} (h : le x y) (k : le y x) : x = y := by
  unfold le at *; rw [not_ahead] at *
  obtain ⟨a, b⟩ := x; obtain ⟨c, d⟩ := y
  simp only [Prod.mk.injEq] at *
  omega
theorem le_of_ahead {x y : Pt} (h : aheadB x y = true) : le x y := by
  unfold le; rw [not_ahead]; rw [ahead_iff] at h; omega
def gt (a : Array Pt) (i : Nat) : Pt := a.getD i (0, 0)
def swp (a : Array Pt) (i j : Nat) : Array Pt := a.swapIfInBounds i j
theorem size_swp (a : Array Pt) (i j : Nat) : (swp a i j).size = a.size := by simp [swp]
theorem gt_swp (a : Array Pt) (i j k : Nat) (hi : i < a.size) (hj : j < a.size) : gt (swp a i j) k = if k = i then gt a j else if k = j then gt a i else gt a k := by
  unfold gt swp
  rw [Array.swapIfInBounds_def, dif_pos hi, dif_pos hj]
  by_cases hk : k < a.size
  . simp only [Array.getD, Array.size_swap, hk, hi, hj, dif_pos]
    show (a.swap i j hi hj)[k]'_ = _
    rw [Array.getElem_swap]
    rfl
  . simp only [Array.getD, Array.size_swap, hk, dif_neg, not_false_eq_true]
    rw [if_neg (by omega), if_neg (by omega)]
theorem perm_swp (a : Array Pt) (i j : Nat) (hi : i < a.size) (hj : j < a.size) : (swp a i j).toList.Perm a.toList := by
  unfold swp
  rw [Array.swapIfInBounds_def, dif_pos hi, dif_pos hj]
  exact Array.perm_iff_toList_perm.1 (Array.swap_perm hi hj)
def Heap (a : Array Pt) (n : Nat) : Prop := ∀ i, 0 < i -> i < n -> le (gt a ((i - 1) / 2)) (gt a i)
theorem Heap.top {a : Array Pt} {n : Nat} (h : Heap a n) : ∀ i, i < n -> le (gt a 0) (gt a i) := by
  intro i
  induction i using Nat.strongRecOn with
  | _ i ih =>
    intro hi
    rcases Nat.eq_zero_or_pos i with rfl | h0
    . exact le_refl _
    . exact le_trans (ih ((i - 1) / 2) (by omega) (by omega)) (h i h0 hi)
def HeapUp (a : Array Pt) (n j : Nat) : Prop :=
  (∀ i, 0 < i -> i < n -> i ≠ j -> le (gt a ((i - 1) / 2)) (gt a i)) /\ (0 < j -> ∀ i, 0 < i -> i < n -> (i - 1) / 2 = j -> le (gt a ((j - 1) / 2)) (gt a i))
theorem HeapUp.done {a : Array Pt} {n j : Nat} (h : HeapUp a n j) (hj : 0 < j -> le (gt a ((j - 1) / 2)) (gt a j)) : Heap a n := by
  intro i h0 hi
  by_cases e : i = j
  . subst e; exact hj h0
  . exact h.1 i h0 hi e
theorem HeapUp.step {a : Array Pt} {n j : Nat} (h : HeapUp a n j) (h0 : 0 < j) (hj : j < n) (hn : n <= a.size) (hl : aheadB (gt a j) (gt a ((j - 1) / 2)) = true) : HeapUp (swp a ((j - 1) / 2) j) n ((j - 1) / 2) := by
  have hp : (j - 1) / 2 < j := by omega
  generalize hpp : (j - 1) / 2 = p at *
  have hl' := le_of_ahead hl
  refine ⟨fun i i0 hi hne => ?_, fun p0 i i0 hi hip => ?_⟩
  . rw [gt_swp _ _ _ _ (by omega) (by omega), gt_swp _ _ _ _ (by omega) (by omega)]
    by_cases e : i = j
    . subst e
      rw [hpp, if_pos rfl, if_neg (by omega), if_pos rfl]
      exact hl'
    . rw [if_neg hne, if_neg e]
      by_cases e2 : (i - 1) / 2 = p
      . rw [if_pos e2]
        have := h.1 i i0 hi e
        rw [e2] at this
        exact le_trans hl' this
      . rw [if_neg e2]
        by_cases e3 : (i - 1) / 2 = j
        . rw [if_pos e3]
          have := h.2 h0 i i0 hi e3
          rw [hpp] at this
          exact this
        . rw [if_neg e3]
          exact h.1 i i0 hi e
  . rw [gt_swp _ _ _ _ (by omega) (by omega), gt_swp _ _ _ _ (by omega) (by omega)]
    rw [if_neg (show ¬ (p - 1) / 2 = p by omega), if_neg (show ¬ (p - 1) / 2 = j by omega)]
    have hpp1 := h.1 p p0 (by omega) (by omega)
    by_cases e : i = j
    . subst e
      rw [if_neg (by omega), if_pos rfl]
      exact hpp1
    . rw [if_neg (by omega), if_neg e]
      have := h.1 i i0 hi e
      rw [hip] at this
      exact le_trans hpp1 this
def HeapDown (a : Array Pt) (n i : Nat) : Prop :=
  (∀ k, 0 < k -> k < n -> (k - 1) / 2 ≠ i -> le (gt a ((k - 1) / 2)) (gt a k)) /\ (0 < i -> ∀ k, 0 < k -> k < n -> (k - 1) / 2 = i -> le (gt a ((i - 1) / 2)) (gt a k))
theorem HeapDown.done {a : Array Pt} {n i : Nat} (h : HeapDown a n i) (hc : ∀ k, 0 < k -> k < n -> (k - 1) / 2 = i -> le (gt a i) (gt a k)) : Heap a n := by
  intro k h0 hk
  by_cases e : (k - 1) / 2 = i
  . rw [e]; exact hc k h0 hk e
  . exact h.1 k h0 hk e
theorem HeapDown.step {a : Array Pt} {n i j : Nat} (h : HeapDown a n i) (h0 : 0 < j) (hj : j < n) (hn : n <= a.size) (hp : (j - 1) / 2 = i) (hl : aheadB (gt a j) (gt a i) = true)
    (hb : ∀ k, 0 < k -> k < n -> (k - 1) / 2 = i -> le (gt a j) (gt a k)) : HeapDown (swp a i j) n j := by
  have hij : i < j := by omega
  refine ⟨fun k k0 hk hne => ?_, fun j0 k k0 hk hkj => ?_⟩
  . rw [gt_swp _ _ _ _ (by omega) (by omega), gt_swp _ _ _ _ (by omega) (by omega)]
    rw [if_neg (show ¬ (k - 1) / 2 = j from hne)]
    by_cases e : (k - 1) / 2 = i
    . rw [if_pos e, if_neg (by omega)]
      by_cases e2 : k = j
      . rw [if_pos e2]
        exact le_of_ahead hl
      . rw [if_neg e2]
        exact hb k k0 hk e
    . rw [if_neg e]
      have h1 := h.1 k k0 hk e
      by_cases e2 : k = i
      . subst e2
        rw [if_pos rfl]
        exact h.2 k0 j h0 hj hp
      . rw [if_neg e2, if_neg (by omega)]
        exact h1
  . rw [gt_swp _ _ _ _ (by omega) (by omega), gt_swp _ _ _ _ (by omega) (by omega)]
    rw [hp, if_pos rfl, if_neg (by omega), if_neg (by omega)]
    have := h.1 k k0 hk (by omega)
    rw [hkj] at this
    exact this
theorem Heap.push {a : Array Pt} {x : Pt} (h : Heap a a.size) : HeapUp (a.push x) (a.size + 1) a.size := by
  have e : ∀ i, i < a.size -> gt (a.push x) i = gt a i := by
    intro i hi
    unfold gt
    simp only [Array.getD, Array.size_push, hi, show i < a.size + 1 by omega, dif_pos]
    show (a.push x)[i]'_ = a[i]
    rw [Array.getElem_push, dif_pos hi]
  refine ⟨fun i i0 hi hne => ?_, fun h0 i i0 hi hp => by omega⟩
  rw [e i (by omega), e _ (by omega)]
  exact h i i0 (by omega)
theorem Heap.pop {a : Array Pt} {n : Nat} (h : Heap a (n + 1)) (hs : a.size = n + 1) : HeapDown (swp a 0 n) n 0 := by
  refine ⟨fun k k0 hk hne => ?_, fun h0 => by omega⟩
  rw [gt_swp _ _ _ _ (by omega) (by omega), gt_swp _ _ _ _ (by omega) (by omega)]
  rw [if_neg hne, if_neg (by omega), if_neg (by omega), if_neg (by omega)]
  exact h k k0 (by omega)
def Sorted (l : List Pt) : Prop := l.Pairwise le
def ins (x : Pt) : List Pt -> List Pt
  | [] => [x]
  | y :: l => if aheadB x y then x :: y :: l else y :: ins x l
theorem ins_perm (x : Pt) : ∀ l, (ins x l).Perm (x :: l)
  | [] => List.Perm.refl _
  | y :: l => by
    unfold ins
    by_cases h : aheadB x y = true
    . rw [if_pos h]
    . rw [if_neg h]
      exact ((ins_perm x l).cons y).trans (List.Perm.swap x y l)
theorem length_ins (x : Pt) (l : List Pt) : (ins x l).length = l.length + 1 := by simpa using (ins_perm x l).length_eq
theorem ins_sorted (x : Pt) : ∀ l, Sorted l -> Sorted (ins x l)
  | [], _ => List.pairwise_singleton _ _
  | y :: l, h => by
    unfold Sorted at h
    rw [List.pairwise_cons] at h
    unfold ins
    by_cases hx : aheadB x y = true
    . rw [if_pos hx]
      refine List.pairwise_cons.2 ⟨fun z hz => ?_, List.pairwise_cons.2 h⟩
      rcases List.mem_cons.1 hz with rfl | hz
      . exact le_of_ahead hx
      . exact le_trans (le_of_ahead hx) (h.1 z hz)
    . rw [if_neg hx]
      refine List.pairwise_cons.2 ⟨fun z hz => ?_, ins_sorted x l h.2⟩
      rcases List.mem_cons.1 ((ins_perm x l).mem_iff.1 hz) with rfl | hz
      . exact (Bool.not_eq_true _).mp hx
      . exact h.1 z hz
theorem head_of_top {a : Array Pt} {x : Pt} {l : List Pt} (hs : Sorted (x :: l)) (hh : Heap a a.size) (hp : a.toList.Perm (x :: l)) : gt a 0 = x := by
  have hn : a.size = l.length + 1 := by simpa using hp.length_eq
  have hmem : ∀ i, i < a.size -> gt a i ∈ a.toList := by
    intro i hi
    unfold gt
    simp [Array.getD, hi]
  obtain ⟨i, hi, he⟩ := Array.mem_iff_getElem.1 (Array.mem_toList_iff.1 (hp.symm.mem_iff.1 (List.mem_cons_self (a := x) (l := l))))
  have e : gt a i = x := by unfold gt; simp [Array.getD, hi, he]
  have h1 := hh.top i hi
  rw [e] at h1
  have h2 : le x (gt a 0) := by
    have h0 := hp.mem_iff.1 (hmem 0 (by omega))
    rcases List.mem_cons.1 h0 with h0 | h0
    . rw [h0]; exact le_refl _
    . exact (List.pairwise_cons.1 hs).1 _ h0
  exact le_antisymm h1 h2
theorem left_perm {a b : Array Pt} {x : Pt} {l : List Pt} (hs : Sorted (x :: l)) (hh : Heap a a.size) (hp : a.toList.Perm (x :: l)) (hb : b.toList.Perm a.toList) (n : Nat) (hn : b.size = n + 1) (hlast : gt b n = gt a 0) : b.pop.toList.Perm l := by
  have h0 := head_of_top hs hh hp
  have hne : b.toList ≠ [] := by intro h; have : b.toList.length = n + 1 := by simpa using hn
                                 rw [h] at this; simp at this
  have h1 : b.toList = b.pop.toList ++ [x] := by
    rw [Array.toList_pop]
    have h2 : b.toList.getLast hne = x := by
      rw [<- h0, <- hlast]
      unfold gt
      have hl : b.toList.length = n + 1 := by simpa using hn
      rw [List.getLast_eq_getElem]
      simp [Array.getD, hn]
    rw [<- h2]
    exact (List.dropLast_concat_getLast hne).symm
  have h3 : (b.pop.toList ++ [x]).Perm (x :: l) := by rw [<- h1]; exact hb.trans hp
  exact (List.perm_append_singleton x _ |>.symm.trans h3).cons_inv
def ord (f : Nat -> Int) : Nat -> List Pt
  | 0 => []
  | k + 1 => ins (f k, (k : Int)) (ord f k)
theorem ord_sorted (f : Nat -> Int) : ∀ k, Sorted (ord f k)
  | 0 => List.Pairwise.nil
  | k + 1 => ins_sorted _ _ (ord_sorted f k)
theorem ord_length (f : Nat -> Int) : ∀ k, (ord f k).length = k
  | 0 => rfl
  | k + 1 => by rw [ord, length_ins, ord_length f k]
theorem ord_perm (f : Nat -> Int) : ∀ k, (ord f k).Perm ((List.range k).map fun i => (f i, (i : Int)))
  | 0 => List.Perm.refl _
  | k + 1 => by
    rw [List.range_succ, List.map_append]
    exact (ins_perm _ _).trans (((ord_perm f k).cons _).trans (List.perm_append_singleton _ _).symm)
theorem ord_mem (f : Nat -> Int) (k : Nat) : ∀ x ∈ ord f k, ∃ i : Nat, i < k /\ x = (f i, (i : Int)) := by
  intro x hx
  have := (ord_perm f k).mem_iff.1 hx
  obtain ⟨i, hi, rfl⟩ := List.mem_map.1 this
  exact ⟨i, List.mem_range.1 hi, rfl⟩
theorem ord_strict (f : Nat -> Int) (k : Nat) : (ord f k).Pairwise fun x y => aheadB x y = true := by
  have h1 := ord_sorted f k
  have h2 : (ord f k).Pairwise fun x y => x ≠ y := by
    have : ((List.range k).map fun i => (f i, (i : Int))).Nodup := by
      apply List.Pairwise.map _ _ (List.nodup_range (n := k))
      intro a b hab h
      injection h with _ h
      exact hab (by omega)
    exact ((ord_perm f k).nodup_iff).2 this
  refine (h1.and h2).imp ?_
  rintro x y ⟨h, hne⟩
  by_cases ha : aheadB x y = true
  . exact ha
  . exact absurd (le_antisymm h ((Bool.not_eq_true _).mp ha)) hne
end Go.Proofs.YtljmddjlnlmenaaGreat.Qu
end
section
namespace Go.Proofs.YtljmddjlnlmenaaGreat.Qu
open Go.RowKit
def cells2 (l : List Pt) : List Value := l.flatMap fun p => [.int .i64 p.1, .int .i64 p.2]
theorem cells2_nil : cells2 [] = [] := rfl
theorem cells2_cons (p : Pt) (l : List Pt) : cells2 (p :: l) = .int .i64 p.1 :: .int .i64 p.2 :: cells2 l := rfl
theorem cells2_append (l m : List Pt) : cells2 (l ++ m) = cells2 l ++ cells2 m := List.flatMap_append
theorem cells2_length : ∀ l, (cells2 l).length = l.length * 2
  | [] => rfl
  | p :: l => by rw [cells2_cons, List.length_cons, List.length_cons, cells2_length l, List.length_cons]; omega
theorem cells2_at0 : ∀ (l : List Pt) (i : Nat), (cells2 l)[i * 2]? = l[i]?.map fun p => Value.int .i64 p.1
  | [], i => by simp [cells2_nil]
  | p :: l, 0 => by simp [cells2_cons]
  | p :: l, i + 1 => by
    rw [cells2_cons, show (i + 1) * 2 = i * 2 + 1 + 1 by omega, List.getElem?_cons_succ, List.getElem?_cons_succ, cells2_at0 l i, List.getElem?_cons_succ]
theorem cells2_at1 : ∀ (l : List Pt) (i : Nat), (cells2 l)[i * 2 + 1]? = l[i]?.map fun p => Value.int .i64 p.2
  | [], i => by simp [cells2_nil]
  | p :: l, 0 => by simp [cells2_cons]
  | p :: l, i + 1 => by
    rw [cells2_cons, show (i + 1) * 2 + 1 = i * 2 + 1 + 1 + 1 by omega, List.getElem?_cons_succ, List.getElem?_cons_succ, cells2_at1 l i, List.getElem?_cons_succ]
theorem toList_gt (a : Array Pt) (i : Nat) (hi : i < a.size) : a.toList[i]? = some (gt a i) := by
  unfold gt
  simp [Array.getD, hi]
theorem cells2_set (l : List Pt) (i : Nat) (x : Pt) (hi : i < l.length) : cells2 (l.set i x) = ((cells2 l).set (i * 2) (.int .i64 x.1)).set (i * 2 + 1) (.int .i64 x.2) := by
  induction l generalizing i with
  | nil => simp at hi
  | cons p l ih =>
    cases i with
    | zero => simp [cells2_cons]
    | succ i =>
      rw [List.set_cons_succ, cells2_cons, cells2_cons, show (i + 1) * 2 + 1 = i * 2 + 1 + 1 + 1 by omega, show (i + 1) * 2 = i * 2 + 1 + 1 by omega, List.set_cons_succ, List.set_cons_succ, List.set_cons_succ, List.set_cons_succ, ih i (by simpa using hi)]
theorem cells2_swp (a : Array Pt) (i j : Nat) (hi : i < a.size) (hj : j < a.size) :
    cells2 (swp a i j).toList = ((((cells2 a.toList).set (i * 2) (.int .i64 (gt a j).1)).set (i * 2 + 1) (.int .i64 (gt a j).2)).set (j * 2) (.int .i64 (gt a i).1)).set (j * 2 + 1) (.int .i64 (gt a i).2) := by
  have e : (swp a i j).toList = (a.toList.set i (gt a j)).set j (gt a i) := by
    unfold swp gt
    rw [Array.swapIfInBounds_def, dif_pos hi, dif_pos hj, Array.toList_swap]
    simp only [Array.getD, hi, hj, dif_pos]
    rfl
  rw [e, cells2_set _ _ _ (by simpa using hj), cells2_set _ _ _ (by simpa using hi)]
section
variable {w : World} {B E g n cap : Nat} {a : Array Pt}
theorem row_cell0 (h : w.ownsRow B E 2 (.slice (some ⟨g, 0, none⟩) n cap) n (cells2 a.toList)) (hs : a.size = n) (i : Nat) (hi : i < n) : w.cell? ⟨g, i * 2, none⟩ = some (.int .i64 (gt a i).1) := by
  rw [h.cellAt _ (by omega), cells2_at0, toList_gt a i (by omega)]
  rfl
theorem row_cell1 (h : w.ownsRow B E 2 (.slice (some ⟨g, 0, none⟩) n cap) n (cells2 a.toList)) (hs : a.size = n) (i : Nat) (hi : i < n) : w.cell? ⟨g, i * 2 + 1, none⟩ = some (.int .i64 (gt a i).2) := by
  rw [h.cellAt _ (by omega), cells2_at1, toList_gt a i (by omega)]
  rfl
theorem row_len (h : w.ownsRow B E 2 (.slice (some ⟨g, 0, none⟩) n cap) n (cells2 a.toList)) : a.size = n := by
  have := h.1
  rw [cells2_length] at this
  simp at this
  omega
theorem row_cap {xs : List Value} {size : Nat} (h : w.ownsRow B E size (.slice (some ⟨g, 0, none⟩) n cap) n xs) : n <= cap /\ (cap : Int) <= 9223372036854775807 := by
  rcases h.2 with ⟨h0, _⟩ | ⟨g', cap', cur, hv, hg, hh, hn, hcap, _⟩
  . cases h0
  . cases hv
    unfold maxLen at hcap
    exact ⟨hn, by omega⟩
theorem row_pop (h : w.ownsRow B E 2 (.slice (some ⟨g, 0, none⟩) (n + 1) cap) (n + 1) (cells2 a.toList)) (hs : a.size = n + 1) : w.ownsRow B E 2 (.slice (some ⟨g, 0, none⟩) n cap) n (cells2 a.pop.toList) := by
  obtain ⟨h1, h2⟩ := h
  rcases h2 with ⟨h0, _⟩ | ⟨g', cap', cur, hv, hg, hh, hn, hcap, hsz, htake⟩
  . cases h0
  . cases hv
    refine ⟨by rw [cells2_length]; simp [hs], .inr ⟨g, cap, cur, rfl, hg, hh, by omega, hcap, hsz, ?_⟩⟩
    have hne : a.toList ≠ [] := by intro h; have : a.toList.length = n + 1 := by simpa using hs
                                   rw [h] at this; simp at this
    have e : cells2 a.toList = cells2 a.pop.toList ++ cells2 [a.toList.getLast hne] := by
      rw [<- cells2_append, Array.toList_pop, List.dropLast_concat_getLast]
    have h3 : (cur.toList.take ((n + 1) * 2)).take (n * 2) = (cells2 a.toList).take (n * 2) := by rw [htake]
    rw [List.take_take, Nat.min_eq_left (by omega)] at h3
    rw [h3, e]
    exact List.take_left' (by rw [cells2_length]; simp [hs])
end
theorem below_draws {B : Nat} {a w : World} (h : Below B a w) (n : Nat) : Below B a (w.drewN n) := ⟨h.os, h.tape, h.output, h.size, h.block⟩
theorem below_undrew {w w' : World} (h : Below w.drew.heap.size w.drew w') : Below w.heap.size w w' := ⟨h.os, h.tape, h.output, h.size, h.block⟩
theorem turned_drew {a w : World} {row : Option Nat} (h : a.grownBy w row) : a.grownBy w.drew row := ⟨h.os, h.tape, h.output, h.size, h.block⟩
theorem turned_at (w : World) (g i : Nat) (u : Value) : w.grownBy (w.setCell ⟨g, i, none⟩ u) (some g) :=
  ⟨rfl, rfl, rfl, by simp [World.setCell], fun k _ hk => Below.heap_setCell w ⟨g, i, none⟩ u k fun e => hk (congrArg some e)⟩
theorem turned_none {a w : World} (h : Below a.heap.size a w) (row : Option Nat) : a.grownBy w row := ⟨h.os, h.tape, h.output, h.size, fun i hi _ => h.block i hi⟩
theorem row_below {w w' : World} {B E size n : Nat} {v : Value} {xs : List Value} (h : w.ownsRow B E size v n xs) (hb : Below w.heap.size w w') : w'.ownsRow B E size v n xs := by
  refine h.kept (row := none) ⟨hb.os, hb.tape, hb.output, hb.size, fun i hi _ => hb.block i hi⟩ ?_
  cases hv : v.ownBlock <;> simp
structure Blk (w : World) (g : Nat) (t : TypeId) (cs : Array Value) : Prop where
  here : w.heap[g]? = some (.cells cs t (0, 0))
section
variable {w w' : World} {g : Nat} {t : TypeId} {cs : Array Value}
theorem Blk.as (h : Blk w g t cs) (e : w'.heap[g]? = w.heap[g]?) : Blk w' g t cs := ⟨e.trans h.here⟩
theorem Blk.lt (h : Blk w g t cs) : g < w.heap.size := (Array.getElem?_eq_some_iff.1 h.here).1
theorem Blk.cell (h : Blk w g t cs) (i : Nat) : w.cell? ⟨g, i, none⟩ = cs[i]? := cell_of_row w g i cs t (0, 0) h.here
theorem Blk.frozen (h : Blk w g t cs) (i : Nat) : w.frozen? ⟨g, i, none⟩ = false := frozen_of_row w g i cs t h.here
theorem Blk.new (w : World) (t : TypeId) (cs : Array Value) : Blk (w.alloc (.cells cs t)) w.heap.size t cs := ⟨heap_alloc_new w _⟩
theorem Blk.put (h : Blk w g t cs) (i : Nat) (u : Value) : Blk (w.setCell ⟨g, i, none⟩ u) g t (cs.setIfInBounds i u) := ⟨heap_setCell_same w g i cs t u h.here⟩
theorem Blk.below (h : Blk w g t cs) (hb : Below w.heap.size w w') : Blk w' g t cs := h.as (hb.block g h.lt)
theorem Blk.grown {row : Option Nat} (h : Blk w g t cs) (hb : w.grownBy w' row) (hg : some g ≠ row) : Blk w' g t cs := h.as (hb.block g h.lt hg)
theorem Blk.alloc (h : Blk w g t cs) (o : Obj) : Blk (w.alloc o) g t cs := h.as (Below.heap_alloc w o g h.lt)
theorem Blk.drew (h : Blk w g t cs) : Blk w.drew g t cs := h.as rfl
end
theorem own_ne_blk {w : World} {B E size n g cap q t : Nat} {xs : List Value} {cs : Array Value} (h : w.ownsRow B E size (.slice (some ⟨g, 0, none⟩) n cap) n xs) (hq : Blk w q t cs) (hne : E ≠ t) : g ≠ q := by
  rintro rfl
  rcases h.2 with ⟨h0, _⟩ | ⟨g', cap', cur, hv, _, hh, _⟩
  . cases h0
  . cases hv
    rw [hq.here] at hh
    injection hh with hh
    injection hh with _ ht
    exact hne ht.symm
end Go.Proofs.YtljmddjlnlmenaaGreat.Qu
end
section
namespace Go.Proofs.YtljmddjlnlmenaaGreat.Mv
open Go.RowKit
open Qu (Blk)
structure Only (w w' : World) (S : Nat -> Prop) : Prop where
  os : w'.os = w.os
  tape : w'.tape = w.tape
  output : w'.output = w.output
  size : w.heap.size <= w'.heap.size
  block : ∀ k, k < w.heap.size -> ¬ S k -> w'.heap[k]? = w.heap[k]?
section
variable {a b c w w' : World} {S T : Nat -> Prop} {B : Nat}
theorem Only.refl (w : World) (S : Nat -> Prop) : Only w w S := ⟨rfl, rfl, rfl, Nat.le_refl _, fun _ _ _ => rfl⟩
theorem Only.ofBelow (h : Below w.heap.size w w') (S : Nat -> Prop) : Only w w' S := ⟨h.os, h.tape, h.output, h.size, fun k hk _ => h.block k hk⟩
theorem Only.grown {row : Option Nat} (h : Only a b S) (k : b.grownBy c row) (f : ∀ i, row = some i -> i < a.heap.size -> S i) : Only a c S :=
  ⟨k.os.trans h.os, k.tape.trans h.tape, k.output.trans h.output, Nat.le_trans h.size k.size, fun i hi hs => (k.block i (Nat.lt_of_lt_of_le hi h.size) (fun e => hs (f i e.symm hi))).trans (h.block i hi hs)⟩
theorem Only.put (h : Only a b S) {g i : Nat} (u : Value) (f : g < a.heap.size -> S g) : Only a (b.setCell ⟨g, i, none⟩ u) S :=
  h.grown (Qu.turned_at b g i u) fun k hk hl => by injection hk with hk; subst hk; exact f hl
end
def one (q : Nat) : Nat -> Prop := fun k => k = q
def Fresh (w : World) (r r' : Option Nat) : Prop := r' = r \/ ∃ k, r' = some k /\ w.heap.size <= k
theorem Fresh.refl (w : World) (r : Option Nat) : Fresh w r r := .inl rfl
theorem ownBlock_some (g o n cap : Nat) (c : Option Nat) : (Value.slice (some ⟨g, o, c⟩) n cap).ownBlock = some g := rfl
theorem own_blk_ne {w : World} {B E size n q t : Nat} {v : Value} {xs : List Value} {cs : Array Value} (h : w.ownsRow B E size v n xs) (hq : Blk w q t cs) (hne : E ≠ t) : ∀ g, v.ownBlock = some g -> g ≠ q := by
  intro g hg
  rcases h.2 with ⟨rfl, _⟩ | ⟨g', cap, cur, rfl, _⟩
  . simp [Value.ownBlock] at hg
  . have := Qu.own_ne_blk h hq hne
    rw [ownBlock_some] at hg
    injection hg with hg
    omega
theorem own_value {w : World} {B E size n : Nat} {v : Value} {xs : List Value} (h : w.ownsRow B E size v n xs) : ∃ A c, v = .slice A n c := by
  rcases h.2 with ⟨rfl, rfl⟩ | ⟨g, cap, cur, rfl, _⟩
  . exact ⟨none, 0, rfl⟩
  . exact ⟨_, _, rfl⟩
theorem own_cap {w : World} {B E size n c : Nat} {A : Option Addr} {xs : List Value} (h : w.ownsRow B E size (.slice A n c) n xs) : n <= c /\ c <= 9223372036854775807 := by
  rcases h.2 with ⟨h0, rfl⟩ | ⟨g', cap', cur, hv, hg, hh, hn, hcap, _⟩
  . injection h0 with _ _ h0; omega
  . injection hv with _ _ hc
    subst hc
    unfold maxLen at hcap
    exact ⟨hn, by omega⟩
theorem own_none {w : World} {B E size n c : Nat} {A : Option Addr} {xs : List Value} (h : w.ownsRow B E size (.slice A n c) n xs) : A = none -> n = 0 /\ c = 0 := by
  intro e
  subst e
  rcases h.2 with ⟨h0, h1⟩ | ⟨g, cap, cur, hv, _⟩
  . injection h0 with _ _ h0
    exact ⟨h1, h0⟩
  . cases hv
end Go.Proofs.YtljmddjlnlmenaaGreat.Mv
end
section
namespace Go.Proofs.YtljmddjlnlmenaaGreat.By
theorem toNat_small {v : Nat} (h : v < 256) : (UInt8.ofNat v).toNat = v := by rw [UInt8.toNat_ofNat']; omega
def at_ (l : List UInt8) (k : Nat) : Int := ((l.getD k 0).toNat : Int)
theorem at_in (l : List UInt8) (k : Nat) : 0 <= at_ l k /\ at_ l k <= 255 := by
  unfold at_
  have := (l.getD k 0).toNat_lt
  omega
theorem at_some {l : List UInt8} {k : Nat} {b : UInt8} (h : l[k]? = some b) : at_ l k = b.toNat := by unfold at_; rw [List.getD, h]; rfl
end Go.Proofs.YtljmddjlnlmenaaGreat.By
end
section
namespace Go.Proofs.YtljmddjlnlmenaaGreat.By
open Go.RowKit
open Qu (Blk)
open Mv (Only)
def cellsB (l : List UInt8) : List Value := l.map fun b => .int .u8 (b.toNat : Int)
theorem cellsB_length (l : List UInt8) : (cellsB l).length = l.length := by simp [cellsB]
theorem cellsB_at (l : List UInt8) (k : Nat) : (cellsB l)[k]? = l[k]?.map fun b => Value.int .u8 (b.toNat : Int) := by simp [cellsB]
structure Bys (w : World) (M : Nat) (A : Option Addr) (n : Nat) (l : List UInt8) : Prop where
  len : l.length = n
  cell : ∀ k b, l[k]? = some b -> ∃ g o, A = some ⟨g, o, none⟩ /\ g < M /\ w.cell? ⟨g, o + k, none⟩ = some (.int .u8 (b.toNat : Int))
section
variable {w w' : World} {M B n c : Nat} {A : Option Addr} {l : List UInt8}
theorem Bys.nil (w : World) (M : Nat) (A : Option Addr) : Bys w M A 0 [] := ⟨rfl, fun k b h => by simp at h⟩
end
theorem size_list (s : ByteArray) : s.data.toList.length = s.size := Array.length_toList
section
variable {P : Program}
end
end Go.Proofs.YtljmddjlnlmenaaGreat.By
end
section
namespace Go.Proofs.YtljmddjlnlmenaaGreat.By
open Go.ChangeShapes Go.WideShapes Go.ChangeAt Go.RowKit
open Qu (Blk)
open Mv (Only)
end Go.Proofs.YtljmddjlnlmenaaGreat.By
end
section
namespace Go.Proofs.YtljmddjlnlmenaaGreat.By
open Go.RowKit
theorem umod_in (a n : Int) (hn : 1 <= n) (hn1 : n <= 9223372036854775807) : ∃ t : Nat, wrap64 ((IntKind.u64.wrap a).tmod n) = (t : Int) /\ (t : Int) < n /\ (IntKind.u64.wrap a) % n = (t : Int) /\ IntKind.u64.wrap ((IntKind.u64.wrap a).tmod n) = (t : Int) := by
  have h0 : 0 <= IntKind.u64.wrap a := by rw [IntKind.wrap_u64]; omega
  have h1 : (IntKind.u64.wrap a).tmod n = (IntKind.u64.wrap a) % n := Int.tmod_eq_emod_of_nonneg h0
  have h2 := Int.emod_nonneg (IntKind.u64.wrap a) (show n ≠ 0 by omega)
  have h3 := Int.emod_lt_of_pos (IntKind.u64.wrap a) (show 0 < n by omega)
  refine ⟨((IntKind.u64.wrap a) % n).toNat, ?_, ?_, ?_, ?_⟩
  . rw [h1, IntWalk.wrap64_in _ ⟨by omega, by omega⟩]; omega
  . omega
  . omega
  . rw [h1, IntKind.wrap_u64]; omega
end Go.Proofs.YtljmddjlnlmenaaGreat.By
end
section
namespace Go.Proofs.YtljmddjlnlmenaaGreat.By
open Go.ChangeShapes Go.WideShapes Go.ChangeAt Go.RowKit
open Qu (Blk)
end Go.Proofs.YtljmddjlnlmenaaGreat.By
end
section
namespace Go.Proofs.YtljmddjlnlmenaaGreat.Hk
open Go.ChangeShapes Go.WideShapes Go.ChangeAt Go.RowKit Go.Deep
section
variable {H : Type} {enc : TypeId × Value -> H} {P : Program}
theorem open_bytes {t e : TypeId} {base : Nat} {w : World} {spare : Nat -> Bool} {held : Bool} {v : Value} {d : DataW H} {ps : List MemPlace} (ht : P.underlying t = some (.slice e)) (he : P.underlying e = some (.int .u8)) (hc : P.cellsOf e = 1)
    {r : Reach} {b0 : Nat} (hval : Value.okWide P w r b0 t v) (hd : DataW.Trod enc P w base spare held t v d ps) : ∃ A n c l, v = .slice A n c /\ By.Bys w w.heap.size A n l /\ n <= 9223372036854775807 /\ (A = none -> n = 0 /\ c = 0) /\ n <= c := by
  obtain ⟨a0, len0, cap0, rfl⟩ := okWide_slice ht hval
  obtain ⟨fuel, hf⟩ := hd
  rcases open_ints ht he hc hf with ⟨hv, _⟩ | ⟨a, len, cap, zs, hv, _, hl, hm, hz, _, hcell, hwf⟩
  . have hv' : Value.slice a0 len0 cap0 = .slice none 0 0 := by simpa [Value.cells] using hv
    exact ⟨none, 0, 0, [], hv', By.Bys.nil _ _ _, by omega, fun _ => ⟨rfl, rfl⟩, by omega⟩
  . have hv' : Value.slice a0 len0 cap0 = .slice (some a) len cap := by simpa [Value.cells] using hv
    have hzl : len <= zs.length := by rw [hz]; split <;> omega
    unfold maxLen at hm
    refine ⟨some a, len, cap, (zs.take len).map fun z => UInt8.ofNat z.toNat, hv', ⟨by rw [List.length_map, List.length_take]; omega, fun k b hb => ?_⟩, by omega, (fun h => by cases h), hl⟩
    have hk : k < len := by
      have := (List.getElem?_eq_some_iff.1 hb).1
      rw [List.length_map, List.length_take] at this
      omega
    obtain ⟨g, off, rfl, hcs⟩ := ints_at hcell (by omega)
    have hk2 : k < zs.length := by omega
    refine ⟨g, off, rfl, World.block_lt_of_cell? w _ (hcs k hk2), ?_⟩
    rw [hcs k hk2]
    have hb2 := bounds_u8 (hwf (zs[k]) (List.getElem_mem hk2))
    rw [List.getElem?_map, List.getElem?_take, if_pos hk, List.getElem?_eq_getElem hk2] at hb
    have hb3 : UInt8.ofNat zs[k].toNat = b := by simpa using hb
    rw [<- hb3, By.toNat_small (by omega)]
    have : zs.getD k 0 = zs[k] := by simp [List.getD, hk2]
    rw [this]
    congr 2
    omega
end
end Go.Proofs.YtljmddjlnlmenaaGreat.Hk
end
section
namespace Go.Proofs.YtljmddjlnlmenaaGreat.Hl
open Go.ChangeShapes Go.WideShapes Go.ChangeAt Go.RowKit
def Ints (w : World) (M : Nat) (A : Option Addr) (n : Nat) (f : Nat -> Int) : Prop := ∀ k, k < n -> ∃ b off, A = some ⟨b, off, none⟩ /\ b < M /\ w.cell? ⟨b, off + k, none⟩ = some (.int .i64 (f k))
theorem Ints.congr {w : World} {M n : Nat} {A : Option Addr} {f g : Nat -> Int} (h : Ints w M A n f) (hfg : ∀ k, k < n -> f k = g k) : Ints w M A n g := fun k hk => by
  obtain ⟨b, off, hA, hb1, hc⟩ := h k hk
  exact ⟨b, off, hA, hb1, by rw [hc, hfg k hk]⟩
def at_ (l : List Int) (k : Nat) : Int := l.getD k 0
theorem Ints.own {w : World} {B E : Nat} {A : Option Addr} {n cap : Nat} {l : List Int} (h : w.ownsRow B E 1 (.slice A n cap) n (l.map (Value.int .i64))) : Ints w w.heap.size A n (at_ l) := fun k hk => by
  obtain ⟨g, c, hv, _, hlt⟩ := h.form (by omega)
  cases hv
  refine ⟨g, 0, rfl, hlt, ?_⟩
  have hl : l.length = n := by have := h.1; simpa using this
  rw [Nat.zero_add, h.cellAt k (by omega)]
  unfold at_
  simp [List.getD, hl, hk]
def eqB (n m : Nat) (f g : Nat -> Int) : Bool := (n == m) && (List.range n).all fun k => f k == g k
theorem eqB_len {n m : Nat} {f g : Nat -> Int} (h : n ≠ m) : eqB n m f g = false := by unfold eqB; rw [beq_eq_false_iff_ne.2 h]; rfl
theorem eqB_no {n : Nat} {f g : Nat -> Int} {k : Nat} (hk : k < n) (h : f k ≠ g k) : eqB n n f g = false := by
  unfold eqB
  rw [beq_self_eq_true, Bool.true_and, List.all_eq_false]
  exact ⟨k, List.mem_range.2 hk, by simpa using h⟩
theorem eqB_yes {n : Nat} {f g : Nat -> Int} (h : ∀ k, k < n -> f k = g k) : eqB n n f g = true := by
  unfold eqB
  rw [beq_self_eq_true, Bool.true_and, List.all_eq_true]
  intro k hk
  simpa using h k (List.mem_range.1 hk)
def Drawn (w w' : World) : Prop := ∃ d, w' = w.drewN d
theorem Drawn.more {w w' : World} (h : Drawn w w') (n : Nat) : Drawn w (w'.drewN n) := by
  obtain ⟨d, rfl⟩ := h
  exact ⟨d + n, World.drewN_drewN _ _ _⟩
theorem Drawn.below {w w' : World} (h : Drawn w w') (B : Nat) : Below B w w' := by
  obtain ⟨d, rfl⟩ := h
  exact Qu.below_draws (Below.refl _ _) d
end Go.Proofs.YtljmddjlnlmenaaGreat.Hl
end
section
namespace Go.Proofs.YtljmddjlnlmenaaGreat.Hk
open Go.ChangeShapes Go.WideShapes Go.ChangeAt Go.RowKit
section
variable {H : Type} {enc : TypeId × Value -> H} {P : Program}
theorem open_ints_at {t e : TypeId} {base : Nat} {w : World} {spare : Nat -> Bool} {held : Bool} {v : Value} {d : DataW H} {ps : List MemPlace} (ht : P.underlying t = some (.slice e)) (he : P.underlying e = some (.int .i64)) (hc : P.cellsOf e = 1)
    {r : Reach} {b0 : Nat} (hval : Value.okWide P w r b0 t v) (hd : DataW.Trod enc P w base spare held t v d ps) : ∃ A n c f, v = .slice A n c /\ Hl.Ints w w.heap.size A n f /\ n <= 9223372036854775807 /\ (∀ k, k < n -> -9223372036854775808 <= f k /\ f k <= 9223372036854775807) /\ (A = none -> n = 0 /\ c = 0) := by
  obtain ⟨a0, len0, cap0, rfl⟩ := okWide_slice ht hval
  obtain ⟨fuel, hf⟩ := hd
  rcases open_ints ht he hc hf with ⟨hv, _⟩ | ⟨a, len, cap, zs, hv, _, hl, hm, hz, _, hcell, hwf⟩
  . have hv' : Value.slice a0 len0 cap0 = .slice none 0 0 := by simpa [Value.cells] using hv
    exact ⟨none, 0, 0, fun _ => 0, hv', fun k hk => by omega, by omega, fun k hk => by omega, fun _ => ⟨rfl, rfl⟩⟩
  . have hv' : Value.slice a0 len0 cap0 = .slice (some a) len cap := by simpa [Value.cells] using hv
    have hzl : len <= zs.length := by rw [hz]; split <;> omega
    unfold maxLen at hm
    refine ⟨some a, len, cap, fun k => zs.getD k 0, hv', fun k hk => ?_, by omega, fun k hk => ?_, fun h => by cases h⟩
    . obtain ⟨b, off, rfl, hcs⟩ := ints_at hcell (by omega)
      exact ⟨b, off, rfl, World.block_lt_of_cell? w _ (hcs k (by omega)), hcs k (by omega)⟩
    . have hk2 : k < zs.length := by omega
      have := bounds_i64 (hwf (zs[k]) (List.getElem_mem hk2))
      simpa [List.getD, hk2] using this
end
end Go.Proofs.YtljmddjlnlmenaaGreat.Hk
end
section
namespace Go.Proofs.YtljmddjlnlmenaaGreat.Hk
open Go.ChangeShapes Go.WideShapes Go.ChangeAt Go.RowKit Go.Deep
section
variable {H : Type} {enc : TypeId × Value -> H} {P : Program} {base : Nat} {spare : Nat -> Bool} {held : Bool} {w : World} {b o : Nat} {t e : TypeId}
def Lies (enc : TypeId × Value -> H) (P : Program) (base : Nat) (spare : Nat -> Bool) (held : Bool) (w : World) (b o : Nat) (t : TypeId) : Prop :=
  ∃ (cs : List Value) (fuel : Nat) (x : DataW H × List MemPlace), cs.length = P.cellsOf t /\ (∀ q, q < P.cellsOf t -> w.cell? ⟨b, o + q, none⟩ = cs[q]?) /\ DataW.trod enc P w base spare held fuel t cs = some x
theorem Lies.elems {fuel len0 cap0 : Nat} {a0 : Option Addr} {x : DataW H × List MemPlace} (hu : P.underlying t = some (.slice e)) (hpos : 0 < P.cellsOf e) (htr : DataW.trod enc P w base spare held fuel t [.slice a0 len0 cap0] = some x) :
    len0 <= 9223372036854775807 /\ len0 <= cap0 /\ cap0 <= 9223372036854775807 /\ (a0 = none -> len0 = 0 /\ cap0 = 0) /\ ∀ i, i < len0 -> ∃ b off, a0 = some ⟨b, off, none⟩ /\ b < w.heap.size /\ Lies enc P base spare held w b (off + i * P.cellsOf e) e := by
  rcases DataW.trod_slice hu htr with ⟨hv, _⟩ | ⟨a, len, cap, elems, rest, n, _, hv, _, _, hl, hm, hel, hat, _, _⟩
  . injection hv with hv
    injection hv with h1 h2 h3
    subst h1 h2 h3
    exact ⟨by omega, by omega, by omega, fun _ => ⟨rfl, rfl⟩, fun i hi => by omega⟩
  . injection hv with hv
    injection hv with h1 h2 h3
    subst h1 h2 h3
    unfold maxLen at hm
    refine ⟨by omega, hl, by omega, (fun h => by cases h), fun i hi => ?_⟩
    have get : ∀ i, i < len0 -> ∃ cs x, w.cells? base (a.add (i * P.cellsOf e)) (P.cellsOf e) = some cs /\ DataW.trod enc P w base spare held n e cs = some x := fun i hi => by
      have h1 := hat i hi
      rw [List.getElem?_eq_getElem (by omega)] at h1
      obtain ⟨cs, hcs, h2⟩ := Option.bind_eq_some_iff.1 h1
      exact ⟨cs, _, hcs, h2⟩
    have hspot : ∃ b off, a = ⟨b, off, none⟩ := by
      obtain ⟨cs, _, hcs, _⟩ := get 0 (by omega)
      obtain ⟨_, hn, hat⟩ := World.cells?_some hcs
      have h0 := hat 0 hpos
      rw [Nat.zero_mul] at h0
      have e0 : (a.add 0).add 0 = a := by simp [Addr.add]
      rw [e0, List.getElem?_eq_getElem (by omega)] at h0
      obtain ⟨b, off, spot⟩ := a
      have hs : spot = none := by simpa using World.cell?_spot h0
      subst hs
      exact ⟨b, off, rfl⟩
    obtain ⟨b, off, rfl⟩ := hspot
    obtain ⟨cs, y, hcs, h2⟩ := get i hi
    obtain ⟨_, hn, hat⟩ := World.cells?_some hcs
    have hat2 : ∀ q, q < P.cellsOf e -> w.cell? ⟨b, off + i * P.cellsOf e + q, none⟩ = cs[q]? := fun q hq => by
      have := hat q hq
      rw [Go.WideShapes.add_plain, Go.WideShapes.add_plain] at this
      exact this
    refine ⟨b, off, rfl, ?_, cs, n, y, hn, hat2, h2⟩
    have h0 := hat2 0 hpos
    rw [List.getElem?_eq_getElem (by omega)] at h0
    exact World.block_lt_of_cell? w _ h0
theorem open_any_slice {v : Value} {d : DataW H} {ps : List MemPlace} {r : Reach} {b0 : Nat} (hu : P.underlying t = some (.slice e)) (hpos : 0 < P.cellsOf e) (hval : Value.okWide P w r b0 t v) (hd : DataW.Trod enc P w base spare held t v d ps) :
    ∃ A n c, v = .slice A n c /\ n <= 9223372036854775807 /\ n <= c /\ c <= 9223372036854775807 /\ (A = none -> n = 0 /\ c = 0) /\ ∀ i, i < n -> ∃ b off, A = some ⟨b, off, none⟩ /\ b < w.heap.size /\ Lies enc P base spare held w b (off + i * P.cellsOf e) e := by
  obtain ⟨a0, len0, cap0, rfl⟩ := okWide_slice hu hval
  obtain ⟨fuel, hf⟩ := hd
  have hf' : DataW.trod enc P w base spare held fuel t [.slice a0 len0 cap0] = some (d, ps) := hf
  obtain ⟨h1, h2, h3, h4, h5⟩ := Lies.elems hu hpos hf'
  exact ⟨a0, len0, cap0, rfl, h1, h2, h3, h4, h5⟩
end
end Go.Proofs.YtljmddjlnlmenaaGreat.Hk
end
section
namespace Go.Proofs.YtljmddjlnlmenaaGreat.Hk
open Go.ChangeShapes Go.WideShapes Go.ChangeAt Go.RowKit Go.Deep
section
variable {H : Type} {enc : TypeId × Value -> H} {P : Program} {base : Nat} {spare : Nat -> Bool} {held : Bool} {w : World} {t e : TypeId}
def Val (enc : TypeId × Value -> H) (P : Program) (base : Nat) (spare : Nat -> Bool) (held : Bool) (w : World) (t : TypeId) (cs : List Value) : Prop :=
  ∃ (fuel : Nat) (x : DataW H × List MemPlace), DataW.trod enc P w base spare held fuel t cs = some x
theorem Val.of {v : Value} {d : DataW H} {ps : List MemPlace} (hd : DataW.Trod enc P w base spare held t v d ps) {cs : Array Value} (hv : v = .agg cs) : Val enc P base spare held w t cs.toList := by
  subst hv
  obtain ⟨fuel, hf⟩ := hd
  exact ⟨fuel, _, hf⟩
theorem Val.int {cs : List Value} (h : Val enc P base spare held w t cs) {k : IntKind} (hu : P.underlying t = some (.int k)) : ∃ z : Int, cs = [.int k z] /\ (Lit.int k z).wf = true := by
  obtain ⟨fuel, x, htr⟩ := h
  obtain ⟨z, hz, _, hwf⟩ := DataW.trod_int hu htr
  exact ⟨z, hz, hwf⟩
theorem Val.flag {cs : List Value} (h : Val enc P base spare held w t cs) (hu : P.underlying t = some .bool) : ∃ x : Bool, cs = [.bool x] := by
  obtain ⟨fuel, x, htr⟩ := h
  obtain ⟨z, hz, _⟩ := DataW.trod_bool hu htr
  exact ⟨z, hz⟩
theorem Val.str {cs : List Value} (h : Val enc P base spare held w t cs) (hu : P.underlying t = some .string) : ∃ s : ByteArray, cs = [.string s] /\ s.size <= maxLen := by
  obtain ⟨fuel, x, htr⟩ := h
  obtain ⟨s, hs, _, hl⟩ := DataW.trod_string hu htr
  exact ⟨s, hs, hl⟩
theorem Val.field {cs : List Value} (h : Val enc P base spare held w t cs) {fs : Array Field} (hu : P.underlying t = some (.struct fs)) (j : Nat) (f : Field) (hj : fs[j]? = some f) : Val enc P base spare held w f.type ((cs.drop f.offset).take (P.cellsOf f.type)) := by
  obtain ⟨fuel, x, htr⟩ := h
  obtain ⟨xs, n', _, _, _, hxs, hfld⟩ := DataW.trod_struct hu htr
  have h1 := hfld j f hj
  have hjl : j < xs.length := by have := (Array.getElem?_eq_some_iff.1 hj).1; omega
  rw [List.getElem?_eq_getElem hjl] at h1
  exact ⟨n', _, h1⟩
end
end Go.Proofs.YtljmddjlnlmenaaGreat.Hk
end
section
namespace Go.Proofs.YtljmddjlnlmenaaGreat.By
open Go.RowKit
section
variable {P : Program} (w : World)
end
end Go.Proofs.YtljmddjlnlmenaaGreat.By
end
section
namespace Go.Proofs.YtljmddjlnlmenaaGreat.Hy
open Go.ChangeShapes Go.WideShapes Go.ChangeAt Go.RowKit
open Qu (Blk)
open Hl (eqB eqB_len eqB_no eqB_yes Drawn)
end Go.Proofs.YtljmddjlnlmenaaGreat.Hy
end
section
namespace Go.Proofs.YtljmddjlnlmenaaGreat.Hr
open Go.ChangeShapes Go.WideShapes Go.ChangeAt Go.RowKit
open Hl (Drawn)
open By (Bys)
end Go.Proofs.YtljmddjlnlmenaaGreat.Hr
end
section
namespace Go.Proofs.YtljmddjlnlmenaaGreat.Se
open Go.RowKit
open Qu (Blk)
open Mv (Only)
open By (cellsB cellsB_length cellsB_at)
def over {α : Type} (xs : List α) (o : Nat) : List α -> List α
  | [] => xs
  | v :: r => over (xs.set o v) (o + 1) r
theorem over_length {α : Type} : ∀ (vs xs : List α) (o : Nat), (over xs o vs).length = xs.length
  | [], xs, o => rfl
  | v :: r, xs, o => by rw [over, over_length r, List.length_set]
theorem over_at {α : Type} : ∀ (vs xs : List α) (o k : Nat), o + vs.length <= xs.length -> (over xs o vs)[k]? = if o <= k /\ k < o + vs.length then vs[k - o]? else xs[k]?
  | [], xs, o, k, _ => by
    rw [over, if_neg]
    simp
  | v :: r, xs, o, k, h => by
    rw [List.length_cons] at h
    rw [over, over_at r (xs.set o v) (o + 1) k (by rw [List.length_set]; omega)]
    by_cases h1 : o + 1 <= k /\ k < o + 1 + r.length
    . rw [if_pos h1, if_pos (by rw [List.length_cons]; omega)]
      have e : k - o = (k - (o + 1)) + 1 := by omega
      rw [e, List.getElem?_cons_succ]
    . rw [if_neg h1]
      by_cases h2 : k = o
      . subst h2
        rw [if_pos (by rw [List.length_cons]; omega), List.getElem?_set_self (by omega)]
        simp
      . rw [if_neg (by rw [List.length_cons]; omega), List.getElem?_set_ne (by omega)]
section
variable {w : World} {B E size g n cap : Nat} {xs : List Value}
end
section
variable {w w' : World} {B E g n cap i : Nat} {l : List (List UInt8)} {s : List UInt8}
end
end Go.Proofs.YtljmddjlnlmenaaGreat.Se
end

end

section
section
namespace Go.Proofs.YtljmddjlnlmenaaGreat
open Go

/-- One operation of a drawn region is taken first: what it yields, and what the kernel decides of it, is found here. -/
theorem pkT {P : Program} {ops : Array Oper} {Q : Exit → Act → World → Prop} {md : Region.Mode} {S : World → Prop} {fuel : Nat} {listed : Array Bool} {a : Act} {w : World}
    (i d : Nat) {o : Op} {t : TypeId} {s : String} {f : Array Edge} {g : Option (Nat × Bool)} {v : Value} (hS : S w)
    (h : wpAnyH P md ops Q S fuel (listed.setIfInBounds i true) (a.put (some d) v) w)
    (hi : ops[i]? = some ⟨some d, o, t, s, f, g⟩ := by rfl)
    (hw : Region.wanted ⟨some d, o, t, s, f, g⟩ (yielded ops a.tmps) = true := by rfl)
    (hv : ∀ w, S w → (execOp a.eval ⟨some d, o, t, s, f, g⟩).run P w = .ok (.value v) w := by intro wq hSw; (try dsimp only at hSw); go_simp; all_goals (with_reducible rfl))
    (hs : Region.noSelect ops = true := by kernel_rfl) (hf : Region.free md ops listed i = true := by kernel_rfl)
    (hr : (Region.ready md ops listed).contains i = true := by kernel_rfl)
    (hQ : ∀ c a w, Q (.panic c) (a.put (some d) v) w → Q (.panic c) a w := by exact fun _ _ _ h => h) : wpAnyH P md ops Q S (fuel + 1) listed a w :=
  wpAnyH_take hi hs hf hr hQ (Or.inl ⟨hw, hv⟩) hS h

/-- One operation of a drawn region that is not wanted. -/
theorem pkU {P : Program} {ops : Array Oper} {Q : Exit → Act → World → Prop} {md : Region.Mode} {S : World → Prop} {fuel : Nat} {listed : Array Bool} {a : Act} {w : World}
    (i d : Nat) {o : Op} {t : TypeId} {s : String} {f : Array Edge} {g : Option (Nat × Bool)} (hS : S w)
    (h : wpAnyH P md ops Q S fuel (listed.setIfInBounds i true) (a.put (some d) undef) w)
    (hi : ops[i]? = some ⟨some d, o, t, s, f, g⟩ := by rfl)
    (hw : Region.wanted ⟨some d, o, t, s, f, g⟩ (yielded ops a.tmps) = false := by rfl)
    (hs : Region.noSelect ops = true := by kernel_rfl) (hf : Region.free md ops listed i = true := by kernel_rfl)
    (hr : (Region.ready md ops listed).contains i = true := by kernel_rfl)
    (hQ : ∀ c a w, Q (.panic c) (a.put (some d) undef) w → Q (.panic c) a w := by exact fun _ _ _ h => h) : wpAnyH P md ops Q S (fuel + 1) listed a w :=
  wpAnyH_take hi hs hf hr hQ (Or.inr ⟨hw, rfl⟩) hS h

theorem pkA {α : Type} (l : List α) (i : Nat) (a : α) : l.toArray.setIfInBounds i a = (l.set i a).toArray := List.setIfInBounds_toArray l i a
theorem pkB {α : Type} {x : α} {xs : List α} {a : α} : (x :: xs).set 0 a = a :: xs := rfl
theorem pkC {α : Type} {x : α} {xs : List α} {i : Nat} {a : α} : (x :: xs).set (i + 1) a = x :: xs.set i a := rfl

end Go.Proofs.YtljmddjlnlmenaaGreat
end

end
