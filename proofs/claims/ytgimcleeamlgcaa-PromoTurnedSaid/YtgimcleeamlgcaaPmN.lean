/- The stable sort over a row of the call's own; the order that promotions are told in, as mathematics. -/
import Derived.Test.YtgimcleeamlgcaaPmB
import Derived.Test.YtgimcleeamlgcaaQb
set_option maxRecDepth 100000

set_option linter.unusedVariables false
namespace Go.Proofs.Ytgimcleeamlgcaa.Pm
open Go.ChangeShapes Go.WideShapes Go.ChangeAt Go.RowKit
open Ap (Scp Prt Tir Prm kPrm row_Prm)
open Kd (Row Own kStr kInt Cells)
open Mv (Only)
open Pr (nth bef takenB orderTo)
open St (vals Dat Mrg seg)

/-- A list of places, by index. -/
def at_ (pl : List Nat) : Nat → Nat := fun i => pl.getD i 0

theorem at_get {pl : List Nat} {i : Nat} (h : i < pl.length) : pl[i]? = some (at_ pl i) := by
  unfold at_
  rw [List.getD, List.getElem?_eq_getElem h]
  rfl

theorem at_mem {pl : List Nat} {i : Nat} (h : i < pl.length) : at_ pl i ∈ pl := List.mem_of_getElem? (at_get h)

theorem seg_at (pl : List Nat) : seg (at_ pl) 0 pl.length = pl := by
  apply List.ext_getElem?
  intro k
  by_cases hk : k < pl.length
  · rw [St.seg_get _ (by omega), at_get hk, Nat.zero_add]
  · rw [List.getElem?_eq_none (by rw [St.seg_len]; omega), List.getElem?_eq_none (by omega)]

theorem cells_int {w : World} {F : Nat → Prop} : ∀ {xs : List Int} {cs : List Value}, Cells kInt w F xs cs → cs = xs.map fun z => .int .i64 z
  | [], _, h => h
  | x :: xs, _, ⟨a, b, e, ⟨ha, _⟩, hb⟩ => by rw [e, ha, cells_int hb]; rfl

theorem int_cells {w : World} {F : Nat → Prop} : ∀ {xs : List Int}, (∀ z ∈ xs, -9223372036854775808 ≤ z ∧ z ≤ 9223372036854775807) → Cells kInt w F xs (xs.map fun z => .int .i64 z)
  | [], _ => rfl
  | x :: xs, h => ⟨[.int .i64 x], _, rfl, ⟨rfl, h x (List.mem_cons_self ..)⟩, int_cells fun z hz => h z (List.mem_cons_of_mem _ hz)⟩

theorem vals_ints (f : Nat → Nat) (n : Nat) : vals f n = (ints ((List.range n).map f)).map fun z => .int .i64 z := by
  unfold vals ints
  simp

theorem vals_list (pl : List Nat) : vals (at_ pl) pl.length = (ints pl).map fun z => .int .i64 z := by
  rw [vals_ints]
  congr 2
  have := seg_at pl
  unfold seg at this
  rw [Nat.sub_zero, ← List.range_eq_range'] at this
  exact this

set_option maxHeartbeats 1000000 in
theorem insertion_nil (w : World) (v : Value) : Calls Try.prog 77 #[.slice none 0 0, .int .i64 0, .int .i64 0, v] w fun e w' => e = .returned (.tuple #[]) ∧ w' = w := by
  go_enter Try.func77, Try.ntmps77
  go_wp2
  go_loopw [8] (fun s8 wr => s8 = .int .i64 1 ∧ wr = w) (fun _ _ => 0)
  case atStart => exact ⟨rfl, rfl⟩
  case round =>
    obtain ⟨rfl, rfl⟩ := hrel
    go_wp2
    go_end0
    exact ⟨rfl, rfl⟩

set_option maxHeartbeats 1000000 in
theorem stable_nil (w : World) (v : Value) : Calls Try.prog 66 #[.slice none 0 0, .int .i64 0, v] w fun e w' => e = .returned (.tuple #[]) ∧ w' = w := by
  have HI := Lib.hid (fun W => insertion_nil W v)
  go_enter Try.func66, Try.ntmps66
  go_wp2
  go_loopw [7, 8] (fun s7 s8 wr => s7 = .int .i64 0 ∧ s8 = .int .i64 20 ∧ wr = w) (fun _ _ _ => 0)
  case atStart => exact ⟨rfl, rfl, rfl⟩
  case round =>
    obtain ⟨rfl, rfl, rfl⟩ := hrel
    go_wp2_with fail
    refine (HI.out _).mono ?_
    rintro e w1 ⟨rfl, rfl⟩
    go_wp2
    go_loopw [6] (fun s6 wx => s6 = .int .i64 20 ∧ wx = w1) (fun _ _ => 0)
    case atStart => exact ⟨rfl, rfl⟩
    case round =>
      obtain ⟨rfl, rfl⟩ := hrel
      go_wp2
      go_end0
      exact ⟨rfl, rfl⟩

theorem sort_nil (w : World) (v : Value) : Calls Try.prog 45 #[.slice none 0 0, v] w fun e w' => e = .returned (.tuple #[]) ∧ w' = w := by
  have HI := Lib.hid (fun W => stable_nil W v)
  go_enter Try.func45, Try.ntmps45
  go_wp2_with fail
  refine (HI.out _).mono ?_
  rintro e w1 ⟨rfl, rfl⟩
  go_wp2
  go_end0
  exact ⟨rfl, rfl⟩

/-- Sorted in the row. -/
def SortedOwn (l : List Prm) (pl : List Nat) (B : Nat) (v : Value) (w : World) (e : Ending) (w' : World) : Prop := e = .returned (.tuple #[]) ∧ ∃ F, Mrg (R l) (at_ pl) F 0 pl.length ∧ Own kInt w' B 3 (fun _ => False) v pl.length (ints ((List.range pl.length).map F)) ∧ Only w w' (fun b => v.ownBlock = some b)

theorem sort_own (l : List Prm) (n bx B : Nat) (v : Value) (pl : List Nat) (w : World) (hO : Own kInt w B 3 (fun _ => False) v pl.length (ints pl)) (hA : ∀ g, v.ownBlock = some g → St.Asks w g bx n (cz l)) (hr : St.Rises (at_ pl) pl.length) (hlt : ∀ x ∈ pl, x < n) (hn : pl.length ≤ 1000000000) (hnn : n ≤ 1000000000000) :
    Calls Try.prog 45 #[v, St.test bx] w (SortedOwn l pl B v w) := by
  obtain ⟨_, cs, ho, hc⟩ := hO
  have hcs := cells_int hc
  rw [← vals_list] at hcs
  rcases ho.2 with ⟨hv, h1⟩ | ⟨g, cap, cur, rfl, hB, hh, hrest⟩
  · have h0 : pl = [] := List.eq_nil_of_length_eq_zero h1
    subst h0
    subst hv
    refine (sort_nil w _).mono ?_
    rintro e w' ⟨rfl, rfl⟩
    exact ⟨rfl, at_ [], Mrg.none fun i j q1 q2 q3 => by simp at q3, Own.nil _ _ _ _ _, Only.refl _ _⟩
  · have hD : Dat w w B g pl.length cap (at_ pl) := ⟨by rw [← hcs]; exact ho, Only.refl _ _⟩
    refine (St.sortStable_any (R l) (cz l) (ord l) bx n w w B g pl.length cap (at_ pl) (hA g rfl) hD (fun k hk => hlt _ (at_mem hk)) hr hn).mono ?_
    rintro e w' ⟨rfl, F, hd, hm⟩
    refine ⟨rfl, F, hm, ⟨by simp [ints], _, hd.own, ?_⟩, hd.only.mono fun i _ hi => by rw [hi]; rfl⟩
    rw [vals_ints]
    refine int_cells fun z hz => ?_
    unfold ints at hz
    obtain ⟨x, hx, rfl⟩ := List.mem_map.1 hz
    obtain ⟨i, hi, rfl⟩ := List.mem_map.1 hx
    have hin := List.mem_range.1 hi
    obtain ⟨k, _, k2, e⟩ := hm.mem (Nat.zero_le i) hin
    have := hlt _ (at_mem k2)
    rw [e] at this
    show -9223372036854775808 ≤ ((F i : Nat) : Int) ∧ ((F i : Nat) : Int) ≤ 9223372036854775807
    omega

/-! ### The order, as mathematics -/
theorem places_rise (l : List Prm) (codes : List ByteArray) (n : Nat) : St.Rises (at_ (places l codes n)) (places l codes n).length := fun i j hij hj => by
  have hp : (places l codes n).Pairwise (· < ·) := List.Pairwise.filter _ List.pairwise_lt_range
  have := List.pairwise_iff_getElem.1 hp i j (by omega) hj hij
  have e1 := at_get (pl := places l codes n) (i := i) (by omega)
  have e2 := at_get (pl := places l codes n) (i := j) hj
  rw [List.getElem?_eq_getElem (by omega)] at e1 e2
  injection e1 with e1
  injection e2 with e2
  rw [← e1, ← e2]
  exact this

/-- Their Priorities. -/
def prio (l : List Prm) (F : Nat → Nat) : Nat → Int := fun i => (nth l (F i)).priority

/-- What is told. -/
def told (l : List Prm) (F : Nat → Nat) (N : Nat) : List Nat := (Qu.ord (prio l F) N).map fun p => F p.2.toNat

theorem told_is (l : List Prm) (codes : List ByteArray) (n : Nat) (F : Nat → Nat) (h : Mrg (R l) (at_ (places l codes n)) F 0 (places l codes n).length) : told l F (places l codes n).length = orderTo l codes n := by
  refine Pr.sorted_one (l := l) ?_ (Pr.orderTo_sorted l codes n) fun x => ?_
  · unfold told Pr.Sorted
    refine List.pairwise_map.2 ?_
    refine List.Pairwise.imp_of_mem ?_ (Qu.ord_strict (prio l F) _)
    intro p q hp hq hpq
    obtain ⟨i, hi, rfl⟩ := Qu.ord_mem _ _ p hp
    obtain ⟨j, hj, rfl⟩ := Qu.ord_mem _ _ q hq
    rw [Qu.ahead_iff] at hpq
    show bef l (F ((i : Int)).toNat) (F ((j : Int)).toNat) = true
    simp only [Int.toNat_natCast]
    have hpq2 : prio l F j < prio l F i ∨ (prio l F j = prio l F i ∧ (i : Int) < (j : Int)) := hpq
    unfold prio at hpq2
    rcases hpq2 with h1 | ⟨h1, h2⟩
    · refine Pr.bef_ahead ?_
      unfold Pr.aheadB
      rw [if_neg (by omega)]
      exact decide_eq_true h1
    · rcases h.sorted i j (Nat.zero_le _) (by omega) hj with h3 | ⟨h3, h4⟩
      · refine Pr.bef_ahead ?_
        unfold Pr.aheadB
        rw [if_pos h1.symm]
        exact h3
      · refine Pr.bef_lt ?_ h4
        unfold Pr.aheadB
        rw [if_pos h1, h3]
        exact Sr.lt_irrefl _
  · rw [Pr.orderTo_mem, ← places_mem]
    unfold told
    rw [List.mem_map]
    constructor
    · rintro ⟨p, hp, rfl⟩
      obtain ⟨i, hi, rfl⟩ := Qu.ord_mem _ _ p hp
      show F ((i : Int)).toNat ∈ _
      rw [Int.toNat_natCast]
      obtain ⟨k, _, k2, e⟩ := h.mem (Nat.zero_le i) hi
      rw [← e]
      exact at_mem k2
    · intro hx
      have h1 : x ∈ seg (at_ (places l codes n)) 0 (places l codes n).length := by rw [seg_at]; exact hx
      obtain ⟨i, _, i2, e⟩ := St.seg_mem.1 (h.perm.mem_iff.1 h1)
      have h2 := (Qu.ord_perm (prio l F) (places l codes n).length).mem_iff (a := (prio l F i, (i : Int)))
      refine ⟨(prio l F i, (i : Int)), h2.2 (List.mem_map.2 ⟨i, List.mem_range.2 i2, rfl⟩), ?_⟩
      show F ((i : Int)).toNat = x
      rw [Int.toNat_natCast]
      exact e

theorem told_len (l : List Prm) (F : Nat → Nat) (N : Nat) : (told l F N).length = N := by unfold told; rw [List.length_map, Qu.ord_length]

end Go.Proofs.Ytgimcleeamlgcaa.Pm
