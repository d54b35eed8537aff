/- append(b, make([]byte, m)...): noughts behind a row of bytes of the call's own. Nothing of the program. -/
import Derived.Test.YtbicdmhmpmdoeaaByW
set_option linter.unusedVariables false
namespace Go.Proofs.Ytbicdmhmpmdoeaa.By
open Go.RowKit

theorem zeroCells_u8 (n : Nat) : Builtin.zeroCells (Value.int .u8 0).cells n = (cellsB (List.replicate n 0)).toArray := by
  apply Array.ext'
  apply List.ext_getElem?
  intro k
  have e : (Value.int IntKind.u8 0).cells = #[Value.int .u8 0] := rfl
  rw [e]
  unfold Builtin.zeroCells cellsB
  by_cases hk : k < n
  · have h1 : k % 1 = 0 := Nat.mod_one k
    simp [hk, h1]
  · simp [hk]

section
variable {P : Program} (w : World)

theorem asInt64 (z : Int) : (asIntOf (.int .i64 z)).run P w = .ok (.i64, z) w := rfl

theorem run_zeros_room (t u ty e : TypeId) (i : TypeInfo) (ht : P.underlying t = some (.slice e)) (hu : P.underlying u = some (.int .i64)) (hi : P.info? e = some i) (hz : i.zero = some (.int .u8 0)) (hs1 : i.size = 1) (hby : i.bytes = 1)
    (g sLen sCap : Nat) (cur : Array Value) (hg : w.heap[g]? = some (.cells cur e (0, 0))) (m : Nat) (hm : 0 < m) (hm2 : m ≤ 140737488355328)
    (hroom : sLen + m ≤ sCap) (hfit : sLen + m ≤ cur.size) :
    (Builtin.append_ #[t, u] ty #[.slice (some ⟨g, 0, none⟩) sLen sCap, .int .i64 (m : Int)]).run P w =
      .ok (.slice (some ⟨g, 0, none⟩) (sLen + m) sCap) (w.setRow g (cur.toList.take sLen ++ cellsB (List.replicate m 0) ++ cur.toList.drop (sLen + m)).toArray) := by
  have hl : (cellsB (List.replicate m 0)).length = m := by rw [cellsB_length, List.length_replicate]
  have hst := run_storeCells_at P g sLen e (cellsB (List.replicate m 0)) 0 cur w hg (by rw [hl]; simpa using hfit) (cellsB_one _)
  simp only [Nat.add_zero, hl] at hst
  have h2 : ¬ (281474976710656 < (m : Int)) := by omega
  have h3 : m ≠ 0 := by omega
  have h4 : IntKind.i64.wrap (m : Int) = (m : Int) := by rw [IntKind.wrap_i64]; omega
  have h5 : ¬ ((m : Int) < 0) := by omega
  simp [Builtin.append_, run_underlying ht, run_underlying hu, sizeOf, typeInfo, zeroValue, hi, hz, hs1, hby, asInt, asInt64, h2, h3, h4, h5, hroom, zeroCells_u8, Addr.add_lit, hst]

theorem run_zeros_nil (t u ty e : TypeId) (i : TypeInfo) (ht : P.underlying t = some (.slice e)) (hu : P.underlying u = some (.int .i64)) (hi : P.info? e = some i) (hz : i.zero = some (.int .u8 0)) (hs1 : i.size = 1) (hby : i.bytes = 1) (m : Nat) (hm : 0 < m) (hm2 : m ≤ 140737488355328) :
    (Builtin.append_ #[t, u] ty #[.slice none 0 0, .int .i64 (m : Int)]).run P w =
      .ok (.slice (some ⟨w.heap.size, 0, none⟩) m (grownCap w m 0 e)) (w.drew.alloc (.cells ((cellsB (List.replicate m 0)).toArray ++ Builtin.zeroCells (Value.int .u8 0).cells (grownCap w m 0 e - m)) e)) := by
  have h2 : ¬ (281474976710656 < (m : Int)) := by omega
  have h3 : m ≠ 0 := by omega
  have h4 : IntKind.i64.wrap (m : Int) = (m : Int) := by rw [IntKind.wrap_i64]; omega
  have h5 : ¬ ((m : Int) < 0) := by omega
  have h6 : ¬ (9223372036854775807 < (m : Int)) := by omega
  have h48 : ¬ (281474976710656 < Builtin.nextslicecap m 0) := by rw [nextslicecap_zero hm]; omega
  simp [Builtin.append_, run_underlying ht, run_underlying hu, sizeOf, typeInfo, zeroValue, hi, hz, hs1, hby, asInt, asInt64, h2, h3, h4, h5, h6, h48, Question.forced, run_firstCells_none, newRow, grownCap, zeroCells_u8]

theorem run_zeros_grow (t u ty e : TypeId) (i : TypeInfo) (ht : P.underlying t = some (.slice e)) (hu : P.underlying u = some (.int .i64)) (hi : P.info? e = some i) (hz : i.zero = some (.int .u8 0)) (hs1 : i.size = 1) (hby : i.bytes = 1)
    (b : Addr) (sLen sCap : Nat) (olds : List Value) (hlo : olds.length = sLen * i.size) (holds : ∀ j v, olds[j]? = some v → w.cell? (b.add j) = some v) (m : Nat) (hm : 0 < m)
    (hg : sCap < sLen + m) (h63 : sLen + m ≤ 140737488355328) (hfit : Builtin.nextslicecap (sLen + m) sCap ≤ 281474976710656) :
    (Builtin.append_ #[t, u] ty #[.slice (some b) sLen sCap, .int .i64 (m : Int)]).run P w =
      .ok (.slice (some ⟨w.heap.size, 0, none⟩) (sLen + m) (grownCap w (sLen + m) sCap e))
        (w.drew.alloc (.cells (olds.toArray ++ (cellsB (List.replicate m 0)).toArray ++ Builtin.zeroCells (Value.int .u8 0).cells (grownCap w (sLen + m) sCap e - (sLen + m))) e)) := by
  have hn : ¬ (sLen + m ≤ sCap) := by omega
  have h2 : ¬ (281474976710656 < (m : Int)) := by omega
  have h3 : m ≠ 0 := by omega
  have h4 : IntKind.i64.wrap (m : Int) = (m : Int) := by rw [IntKind.wrap_i64]; omega
  have h5 : ¬ ((m : Int) < 0) := by omega
  have h6 : ¬ (9223372036854775807 < ((sLen : Int) + (m : Int))) := by omega
  have h48 : ¬ (281474976710656 < Builtin.nextslicecap (sLen + m) sCap) := by omega
  have hfo := run_firstCells_some (P := P) w.drew i.size sLen b sLen sCap olds hlo (by simpa using holds)
  rw [hs1] at hfo
  simp [Builtin.append_, run_underlying ht, run_underlying hu, sizeOf, typeInfo, zeroValue, hi, hz, hs1, hby, asInt, asInt64, hn, h2, h3, h4, h5, h6, h48, Question.forced, hfo, newRow, grownCap, zeroCells_u8]

/-- Noughts behind a row of the call's own. -/
theorem run_append_zeros (base : Nat) (t u ty e : TypeId) (i : TypeInfo) (ht : P.underlying t = some (.slice e)) (hu : P.underlying u = some (.int .i64)) (hi : P.info? e = some i) (hz : i.zero = some (.int .u8 0)) (hsize : i.size = 1) (hby : i.bytes = 1)
    (v : Value) (n : Nat) (l : List UInt8) (hown : w.ownsRow base e 1 v n (cellsB l)) (m : Nat) (hm : 0 < m) (h63 : n + m ≤ 140737488355328) (hbase : base ≤ w.heap.size) :
    ∃ v' w', (Builtin.append_ #[t, u] ty #[v, .int .i64 (m : Int)]).run P w = .ok v' w' ∧ w'.ownsRow base e 1 v' (n + m) (cellsB (l ++ List.replicate m 0)) ∧ w.grownBy w' v.ownBlock := by
  have hsmall : n + m ≤ maxLen := by unfold maxLen; omega
  have hxl : (cellsB l).length = n := by simpa using hown.1
  have hrl : (cellsB (List.replicate m 0)).length = m := by rw [cellsB_length, List.length_replicate]
  have hlen : (cellsB (l ++ List.replicate m 0)).length = (n + m) * 1 := by rw [cellsB_append, List.length_append, hxl, hrl, Nat.mul_one]
  have grown : ∀ (old : Nat), old < n + m → ∀ (row : Option Nat),
      (w.drew.alloc (.cells ((cellsB l).toArray ++ (cellsB (List.replicate m 0)).toArray ++ Builtin.zeroCells (Value.int .u8 0).cells (grownCap w (n + m) old e - (n + m))) e)).ownsRow base e 1
        (.slice (some ⟨w.heap.size, 0, none⟩) (n + m) (grownCap w (n + m) old e)) (n + m) (cellsB (l ++ List.replicate m 0)) ∧
      w.grownBy (w.drew.alloc (.cells ((cellsB l).toArray ++ (cellsB (List.replicate m 0)).toArray ++ Builtin.zeroCells (Value.int .u8 0).cells (grownCap w (n + m) old e - (n + m))) e)) row := by
    intro old ho row
    have hge := grownCap_ge w (n + m) old e
    have hcm : grownCap w (n + m) old e ≤ maxLen := grownCap_le_maxLen w (n + m) old e hsmall
    refine ⟨⟨hlen, .inr ⟨w.heap.size, _, _, rfl, hbase, heap_alloc_new w.drew _, hge, hcm, ?_, ?_⟩⟩, ⟨rfl, rfl, rfl, by simp, fun k hk _ => heap_alloc_old w.drew _ k hk⟩⟩
    · have hz1 : (Value.int IntKind.u8 0).cells.size = 1 := rfl
      simp only [Array.size_append, List.size_toArray, size_zeroCells, hz1, hxl, hrl]
      omega
    · simp only [Array.toList_append, List.append_assoc]
      rw [← List.append_assoc, ← hlen, cellsB_append]
      exact List.take_left
  rcases hown.2 with ⟨rfl, rfl⟩ | ⟨g, cap, cur, rfl, hbg, hg, hnc, hcm, hcs, htake⟩
  · have hx : l = [] := List.eq_nil_of_length_eq_zero (by rw [cellsB_length] at hxl; exact hxl)
    subst hx
    have hr := run_zeros_nil (P := P) w t u ty e i ht hu hi hz hsize hby m hm (by omega)
    have hgr := grown 0 (by omega) (Value.ownBlock (.slice none 0 0))
    simp only [Nat.zero_add, List.nil_append] at hgr ⊢
    have e0 : (cellsB ([] : List UInt8)).toArray = #[] := rfl
    rw [e0, Array.empty_append] at hgr
    exact ⟨_, _, hr, hgr.1, hgr.2⟩
  · by_cases hroom : n + m ≤ cap
    · have hcs' : cur.size = cap := by simpa using hcs
      have hr := run_zeros_room (P := P) w t u ty e i ht hu hi hz hsize hby g n cap cur hg m hm (by omega) hroom (by omega)
      refine ⟨_, _, hr, ⟨hlen, .inr ⟨g, cap, _, rfl, hbg, setRow_heap w g cur _ e _ hg, hroom, hcm, ?_, ?_⟩⟩, ⟨rfl, rfl, rfl, by simp, fun k _ hk => setRow_other w g k _ (fun e => hk (by simp [Value.ownBlock, e]))⟩⟩
      · simp only [List.size_toArray, List.length_append, List.length_take, List.length_drop, Array.length_toList, hrl]
        omega
      · have ht' : cur.toList.take n = cellsB l := by simpa using htake
        rw [ht', ← hlen, cellsB_append]
        exact List.take_left
    · have holds : ∀ j u, (cellsB l)[j]? = some u → w.cell? ((⟨g, 0, none⟩ : Addr).add j) = some u := hown.cells (g := g) rfl
      have h48 : Builtin.nextslicecap (n + m) cap * 1 ≤ 281474976710656 := growslice_fits (by omega) (by omega)
      rw [Nat.mul_one] at h48
      have hr := run_zeros_grow (P := P) w t u ty e i ht hu hi hz hsize hby ⟨g, 0, none⟩ n cap (cellsB l) (by rw [hsize]; simpa using hxl) holds m hm (by omega) h63 h48
      have hgr := grown cap (by omega) (Value.ownBlock (.slice (some ⟨g, 0, none⟩) n cap))
      exact ⟨_, _, hr, hgr.1, hgr.2⟩

theorem wpList_append_zeros {ops : Array Oper} {rest : List Oper} {o : Oper} {a : Act} {Q : Exit → Act → World → Prop} (free : o.guard = none) (s x : Operand) (t u : TypeId)
    (is : o.op = .call { callee := .builtin .append, args := #[s, x], argTypes := #[t, u] })
    (base : Nat) (e : TypeId) (i : TypeInfo) (ht : P.underlying t = some (.slice e)) (hu : P.underlying u = some (.int .i64)) (hi : P.info? e = some i) (hz : i.zero = some (.int .u8 0)) (hsize : i.size = 1) (hby : i.bytes = 1)
    (v : Value) (n : Nat) (l : List UInt8) (vs : a.eval s = v) (hown : w.ownsRow base e 1 v n (cellsB l)) (m : Nat) (vx : a.eval x = .int .i64 (m : Int)) (hm : 0 < m) (h63 : n + m ≤ 140737488355328) (hbase : base ≤ w.heap.size)
    (go : ∀ v' w', w'.ownsRow base e 1 v' (n + m) (cellsB (l ++ List.replicate m 0)) → w.grownBy w' v.ownBlock → wpList P ops Q rest (a.put o.dst v') w') : wpList P ops Q (o :: rest) a w := by
  refine wpList_plain free fun K hK => ?_
  obtain ⟨v', w', run, h2, h3⟩ := run_append_zeros (P := P) w base t u o.type e i ht hu hi hz hsize hby v n l hown m hm h63 hbase
  unfold Oper.wp execOp
  simp only [is, resolve, invoke, builtin, Sem.run_bind, Sem.run_pure, Result.andThen_ok, List.map_toArray, List.map_cons, List.map_nil, vs, vx, run]
  exact hK _ _ (go v' w' h2 h3)
end

end Go.Proofs.Ytbicdmhmpmdoeaa.By
