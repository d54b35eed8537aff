/- Bytes in memory; texts of them, appends of them. Nothing of the program. -/
import Derived.Test.YtbicdmhmpmdoeaaByM
import Derived.Test.YtbicdmhmpmdoeaaMvA
import Derived.Lib.AppendStr
import Derived.Laws.IdiomStrings
import Derived.Laws.BytesArg
import Derived.Laws.Slices
import Derived.Laws.Strings
set_option linter.unusedVariables false
namespace Go.Proofs.Ytbicdmhmpmdoeaa.By
open Go.RowKit
open Qu (Blk)
open Mv (Only)

def cellsB (l : List UInt8) : List Value := l.map fun b => .int .u8 (b.toNat : Int)

theorem cellsB_length (l : List UInt8) : (cellsB l).length = l.length := by simp [cellsB]

theorem cellsB_append (l m : List UInt8) : cellsB (l ++ m) = cellsB l ++ cellsB m := by simp [cellsB]

theorem cellsB_at (l : List UInt8) (k : Nat) : (cellsB l)[k]? = l[k]?.map fun b => Value.int .u8 (b.toNat : Int) := by simp [cellsB]

theorem cellsB_one (l : List UInt8) : ∀ u ∈ cellsB l, u.oneCell' = true := by
  intro u hu
  obtain ⟨b, _, rfl⟩ := List.mem_map.1 hu
  rfl

theorem cellsB_str (s : ByteArray) : Lib.strCells s = cellsB s.data.toList := rfl

theorem cellsB_take (l : List UInt8) (k : Nat) : cellsB (l.take k) = (cellsB l).take k := by simp [cellsB]

theorem cellsB_set (l : List UInt8) (i : Nat) (b : UInt8) : cellsB (l.set i b) = (cellsB l).set i (.int .u8 (b.toNat : Int)) := by unfold cellsB; rw [List.map_set]

/-- A slice of n bytes, that reads l, below block M. -/
structure Bys (w : World) (M : Nat) (A : Option Addr) (n : Nat) (l : List UInt8) : Prop where
  len : l.length = n
  cell : ∀ k b, l[k]? = some b → ∃ g o, A = some ⟨g, o, none⟩ ∧ g < M ∧ w.cell? ⟨g, o + k, none⟩ = some (.int .u8 (b.toNat : Int))

section
variable {w w' : World} {M B n c : Nat} {A : Option Addr} {l : List UInt8}
theorem Bys.nil (w : World) (M : Nat) (A : Option Addr) : Bys w M A 0 [] := ⟨rfl, fun k b h => by simp at h⟩

theorem Bys.below (h : Bys w M A n l) (hb : Below B w w') (hM : M ≤ B) : Bys w' M A n l := ⟨h.len, fun k b hk => by
  obtain ⟨g, o, hA, hg, hc⟩ := h.cell k b hk
  exact ⟨g, o, hA, hg, (hb.cell (p := ⟨g, _, none⟩) (by show g < B; omega)).trans hc⟩⟩

theorem Bys.only {S : Nat → Prop} (h : Bys w M A n l) (k : Only w w' S) (hs : ∀ a, A = some a → a.block < M → ¬ S a.block) : Bys w' M A n l := ⟨h.len, fun j b hj => by
  obtain ⟨g, o, hA, hg, hc⟩ := h.cell j b hj
  exact ⟨g, o, hA, hg, (k.cell (World.block_lt_of_cell? w _ hc) (hs ⟨g, o, none⟩ hA hg)).trans hc⟩⟩

theorem Bys.size (h : Bys w M A n l) : Bys w w.heap.size A n l := ⟨h.len, fun k b hk => by
  obtain ⟨g, o, hA, hg, hc⟩ := h.cell k b hk
  exact ⟨g, o, hA, World.block_lt_of_cell? w _ hc, hc⟩⟩

theorem Bys.more (h : Bys w M A n l) (hM : M ≤ B) : Bys w B A n l := ⟨h.len, fun k b hk => by
  obtain ⟨g, o, hA, hg, hc⟩ := h.cell k b hk
  exact ⟨g, o, hA, by omega, hc⟩⟩

theorem Bys.at (h : Bys w M A n l) {k : Nat} (hk : k < n) : ∃ g o, A = some ⟨g, o, none⟩ ∧ g < M ∧ w.cell? ⟨g, o + k, none⟩ = some (.int .u8 (at_ l k)) := by
  have hl : k < l.length := by have := h.len; omega
  obtain ⟨g, o, hA, hg, hc⟩ := h.cell k _ (List.getElem?_eq_getElem hl)
  exact ⟨g, o, hA, hg, by rw [hc, at_some (List.getElem?_eq_getElem hl)]⟩

theorem Bys.own {E : Nat} (h : w.ownsRow B E 1 (.slice A n c) n (cellsB l)) : Bys w w.heap.size A n l := by
  have hl : l.length = n := by have := h.1; rw [cellsB_length] at this; omega
  refine ⟨hl, fun k b hk => ?_⟩
  have hk2 : k < n := by have := (List.getElem?_eq_some_iff.1 hk).1; omega
  obtain ⟨g, cap, hv, _, hlt⟩ := h.form (by omega)
  injection hv with hA hn hc
  subst hA hc
  refine ⟨g, 0, rfl, hlt, ?_⟩
  rw [Nat.zero_add, h.cellAt k (by omega), cellsB_at, hk]
  rfl

theorem Bys.take (h : Bys w M A n l) {k : Nat} (hk : k ≤ n) : Bys w M A k (l.take k) := ⟨by rw [List.length_take, h.len]; omega, fun j b hj => by
  rw [List.getElem?_take] at hj
  split at hj
  · exact h.cell j b hj
  · cases hj⟩

theorem Bys.drop (h : Bys w M A n l) {k : Nat} (hk : k ≤ n) (hc : n ≤ c) : Bys w M (if c = k then A else A.map (·.add k)) (n - k) (l.drop k) := ⟨by rw [List.length_drop, h.len], fun j b hj => by
  rw [List.getElem?_drop] at hj
  obtain ⟨g, o, rfl, hg, hcell⟩ := h.cell (k + j) b hj
  have hlt := (List.getElem?_eq_some_iff.1 hj).1
  have hn := h.len
  rw [if_neg (by omega)]
  refine ⟨g, o + k, ?_, hg, ?_⟩
  · simp [Go.WideShapes.add_plain]
  · rw [Nat.add_assoc]; exact hcell⟩

/-- The bytes at an address. -/
theorem Bys.there {a : Addr} (h : Bys w M (some a) n l) : ∀ j u, (cellsB l)[j]? = some u → w.cell? (a.add j) = some u := fun j u hu => by
  rw [cellsB_at] at hu
  cases hb : l[j]? with
  | none => rw [hb] at hu; cases hu
  | some b =>
    rw [hb] at hu
    obtain ⟨g, o, hA, hg, hc⟩ := h.cell j b hb
    injection hA with hA
    subst hA
    rw [Go.WideShapes.add_plain]
    simpa [hc] using hu
end

theorem dropped_block {A : Option Addr} {c k : Nat} : ∀ a, (if c = k then A else A.map (·.add k)) = some a → ∃ a', A = some a' ∧ a'.block = a.block := by
  intro a h
  split at h
  · exact ⟨a, h, rfl⟩
  · cases A with
    | none => simp at h
    | some a' =>
      refine ⟨a', rfl, ?_⟩
      simp at h
      rw [← h]
      unfold Addr.add
      split <;> rfl

def strOf (l : List UInt8) : ByteArray := ⟨l.toArray⟩

theorem strOf_back (s : ByteArray) : strOf s.data.toList = s := by unfold strOf; simp

theorem strOf_inj {l m : List UInt8} (h : strOf l = strOf m) : l = m := by
  unfold strOf at h
  injection h with h
  simpa using h

theorem strOf_list (l : List UInt8) : (strOf l).toList = l := by rw [ByteArray.toList_eq]; simp [strOf]

theorem size_list (s : ByteArray) : s.data.toList.length = s.size := Array.length_toList

theorem strOf_size (l : List UInt8) : (strOf l).size = l.length := by simp [strOf, ByteArray.size]

section
variable {P : Program}
/-- A text of bytes. -/
theorem run_text {w : World} {M : Nat} {A : Option Addr} {n c : Nat} {l : List UInt8} (src dst e : TypeId) (hs : P.underlying src = some (.slice e)) (he : P.underlying e = some (.int .u8)) (hd : P.underlying dst = some .string) (h : Bys w M A n l) :
    (convert src dst (.slice A n c)).run P w = .ok (.string (strOf l)) w := by
  cases A with
  | none =>
    have hl : l = [] := by
      cases l with
      | nil => rfl
      | cons b l => obtain ⟨g, o, hA, _⟩ := h.cell 0 b rfl; cases hA
    subst hl
    exact run_convert_bytes_nil w src e hs he n c dst hd
  | some a =>
    obtain rfl := h.len
    refine run_convert_bytes_back w src dst e a c l hs he hd fun j hj => ?_
    have := h.there j (.int .u8 (l[j].toNat : Int)) (by rw [cellsB_at, List.getElem?_eq_getElem hj]; rfl)
    exact this

/-- append of bytes that lie anywhere onto a row of the call's own. -/
theorem run_append_bytes (w : World) (t ty e : TypeId) (base : Nat) (i : TypeInfo) (ht : P.underlying t = some (.slice e)) (hi : P.info? e = some i) (hz : i.zero = some (.int .u8 0)) (hsize : i.size = 1) (hby : i.bytes = 1)
    (v : Value) (n : Nat) (l : List UInt8) (hown : w.ownsRow base e 1 v n (cellsB l)) (M : Nat) (A : Option Addr) (m c : Nat) (new : List UInt8) (hr : Bys w M A m new) (hA : A = none → m = 0 ∧ c = 0)
    (h63 : n + m ≤ 140737488355328) (hbase : base ≤ w.heap.size) :
    ∃ v' w', (Builtin.append_ #[t, t] ty #[v, .slice A m c]).run P w = .ok v' w' ∧ w'.ownsRow base e 1 v' (n + m) (cellsB (l ++ new)) ∧ w.grownBy w' v.ownBlock ∧ Mv.Fresh w v.ownBlock v'.ownBlock := by
  cases A with
  | none =>
    obtain ⟨rfl, rfl⟩ := hA rfl
    have hn : new = [] := List.eq_nil_of_length_eq_zero hr.len
    subst hn
    exact ⟨v, w, run_append_owned_none (P := P) (w := w) base t ty e i 1 ht hi v n _ hown, by simpa using hown, World.grownBy.refl w _, Mv.Fresh.refl _ _⟩
  | some a =>
    obtain ⟨v', w', hrun, h2, h3, _, h5⟩ := run_append_own_at (P := P) w base t ty e i _ 1 1 ht hi hz hsize hby rfl (by omega) v n (cellsB l) hown a m c (cellsB new) (by rw [cellsB_length, hr.len]; omega) hr.there (cellsB_one _) (by unfold maxLen; omega) (by omega) hbase
    refine ⟨v', w', hrun, by rw [cellsB_append]; exact h2, h3, ?_⟩
    rcases h5 with h5 | h5
    · exact .inl h5
    · exact .inr ⟨_, h5, Nat.le_refl _⟩

theorem wpList_append_bytes (w : World) {ops : Array Oper} {rest : List Oper} {o : Oper} {a : Act} {Q : Exit → Act → World → Prop} (free : o.guard = none) (s x : Operand) (t : TypeId)
    (is : o.op = .call { callee := .builtin .append, args := #[s, x], argTypes := #[t, t] })
    (base : Nat) (e : TypeId) (i : TypeInfo) (ht : P.underlying t = some (.slice e)) (hi : P.info? e = some i) (hz : i.zero = some (.int .u8 0)) (hsize : i.size = 1) (hby : i.bytes = 1)
    (v : Value) (n : Nat) (l : List UInt8) (vs : a.eval s = v) (hown : w.ownsRow base e 1 v n (cellsB l)) (M : Nat) (A : Option Addr) (m c : Nat) (new : List UInt8) (vx : a.eval x = .slice A m c) (hr : Bys w M A m new) (hA : A = none → m = 0 ∧ c = 0)
    (h63 : n + m ≤ 140737488355328) (hbase : base ≤ w.heap.size)
    (go : ∀ v' w', w'.ownsRow base e 1 v' (n + m) (cellsB (l ++ new)) → w.grownBy w' v.ownBlock → Mv.Fresh w v.ownBlock v'.ownBlock → wpList P ops Q rest (a.put o.dst v') w') : wpList P ops Q (o :: rest) a w := by
  refine wpList_plain free fun K hK => ?_
  obtain ⟨v', w', run, h2, h3, h4⟩ := run_append_bytes (P := P) w t o.type e base i ht hi hz hsize hby v n l hown M A m c new hr hA h63 hbase
  unfold Oper.wp execOp
  simp only [is, resolve, invoke, builtin, Sem.run_bind, Sem.run_pure, Result.andThen_ok, List.map_toArray, List.map_cons, List.map_nil, vs, vx, run]
  exact hK _ _ (go v' w' h2 h3 h4)

/-- append of a text's bytes onto a row of the call's own. -/
theorem run_append_text (w : World) (t u ty e : TypeId) (base : Nat) (i : TypeInfo) (ht : P.underlying t = some (.slice e)) (hu : P.underlying u = some .string) (hi : P.info? e = some i) (hz : i.zero = some (.int .u8 0)) (hsize : i.size = 1) (hby : i.bytes = 1)
    (v : Value) (n : Nat) (l : List UInt8) (hown : w.ownsRow base e 1 v n (cellsB l)) (s : ByteArray) (h63 : n + s.size ≤ 140737488355328) (hbase : base ≤ w.heap.size) :
    ∃ v' w', (Builtin.append_ #[t, u] ty #[v, .string s]).run P w = .ok v' w' ∧ w'.ownsRow base e 1 v' (n + s.size) (cellsB (l ++ s.data.toList)) ∧ w.grownBy w' v.ownBlock ∧ Mv.Fresh w v.ownBlock v'.ownBlock := by
  obtain ⟨v', w', hrun, h2, h3, h4⟩ := Lib.run_append_own_string (P := P) w base t u ty e i ht hu hi hz hsize hby v n (cellsB l) hown s (by unfold maxLen; omega) h63 hbase
  refine ⟨v', w', hrun, by rw [cellsB_append]; exact h2, h3, ?_⟩
  rcases hown.2 with ⟨rfl, rfl⟩ | ⟨g, cap, cur, rfl, _, hh, hnc, hcm, hcs, _⟩
  · have hown2 := Lib.run_append_own_string (P := P) w w.heap.size t u ty e i ht hu hi hz hsize hby (.slice none 0 0) 0 [] (World.ownsRow_nil _ _ _ _) s (by unfold maxLen; omega) h63 (Nat.le_refl _)
    obtain ⟨v2, w2, hrun2, h22, _⟩ := hown2
    rw [hrun] at hrun2
    injection hrun2 with e1 e2
    subst e1 e2
    cases hb : v'.ownBlock with
    | none => exact .inl rfl
    | some k => exact .inr ⟨k, rfl, (h22.lt k hb).1⟩
  · by_cases hroom : n + s.size ≤ cap
    · have hr := Lib.run_append_room_string (P := P) w t u ty e i ht hu hi hsize g n cap cur hh s hroom (by omega)
      rw [hrun] at hr
      injection hr with e1 e2
      subst e1
      exact .inl rfl
    · have hr := Lib.run_append_grow_string (P := P) w t u ty e i (.int .u8 0) ht hu hi hz ⟨g, 0, none⟩ n cap (cellsB l) (by rw [hsize]; exact hown.1) (hown.cells (g := g) rfl) s (by omega) (by omega) (by rw [hby]; exact growslice_fits (by omega) (by omega))
      rw [hrun] at hr
      injection hr with e1 e2
      subst e1
      exact .inr ⟨_, rfl, Nat.le_refl _⟩

theorem wpList_append_text (w : World) {ops : Array Oper} {rest : List Oper} {o : Oper} {a : Act} {Q : Exit → Act → World → Prop} (free : o.guard = none) (sl x : Operand) (t u : TypeId)
    (is : o.op = .call { callee := .builtin .append, args := #[sl, x], argTypes := #[t, u] })
    (base : Nat) (e : TypeId) (i : TypeInfo) (ht : P.underlying t = some (.slice e)) (hu : P.underlying u = some .string) (hi : P.info? e = some i) (hz : i.zero = some (.int .u8 0)) (hsize : i.size = 1) (hby : i.bytes = 1)
    (v : Value) (n : Nat) (l : List UInt8) (vs : a.eval sl = v) (hown : w.ownsRow base e 1 v n (cellsB l)) (s : ByteArray) (vx : a.eval x = .string s)
    (h63 : n + s.size ≤ 140737488355328) (hbase : base ≤ w.heap.size)
    (go : ∀ v' w', w'.ownsRow base e 1 v' (n + s.size) (cellsB (l ++ s.data.toList)) → w.grownBy w' v.ownBlock → Mv.Fresh w v.ownBlock v'.ownBlock → wpList P ops Q rest (a.put o.dst v') w') : wpList P ops Q (o :: rest) a w := by
  refine wpList_plain free fun K hK => ?_
  obtain ⟨v', w', run, h2, h3, h4⟩ := run_append_text (P := P) w t u o.type e base i ht hu hi hz hsize hby v n l hown s h63 hbase
  unfold Oper.wp execOp
  simp only [is, resolve, invoke, builtin, Sem.run_bind, Sem.run_pure, Result.andThen_ok, List.map_toArray, List.map_cons, List.map_nil, vs, vx, run]
  exact hK _ _ (go v' w' h2 h3 h4)
end

end Go.Proofs.Ytbicdmhmpmdoeaa.By
