/- Opening the steps of a play; striking one out of a row of them. -/
import Derived.Test.YtmggfeacjndflaaPlA
import Derived.Test.YtmggfeacjndflaaKitD
import Derived.Deep.DrawnRows
namespace Go.Proofs.Ytmggfeacjndflaa.Pl
open Go.ChangeShapes Go.WideShapes Go.ChangeAt Go.RowKit
open Qu (Pt le Blk IsQ Moved Fresh)
set_option linter.unusedVariables false

theorem open_steps {H : Type} {enc : TypeId × Value → H} {base b0 : Nat} {w : World} {spare : Nat → Bool} {held : Bool} {v : Value} {d : DataW H} {ps : List MemPlace} {r : Reach}
    (hval : Value.okWide Try.prog w r b0 22 v) (hd : DataW.Trod enc Try.prog w base spare held 22 v d ps) :
    ∃ A n c o, v = .slice A n c ∧ Stps w w.heap.size A n o ∧ n ≤ 9223372036854775807 := by
  obtain ⟨A, n, c, hv, hn, _, hel⟩ := Hk.open_structs (C := 3) Try.underlying22 Try.underlying27 (by kernel_rfl) (by omega) (by decide) hval hd
  obtain ⟨o, ho⟩ := Go.Deep.choose_lt (α := Stp) (n := n) (p := fun k z => ∃ b off, A = some ⟨b, off, none⟩ ∧ b < w.heap.size ∧ w.cell? ⟨b, off + k * 3, none⟩ = some (.int .i64 z.1) ∧ w.cell? ⟨b, off + k * 3 + 1, none⟩ = some (.int .i64 z.2.1) ∧ w.cell? ⟨b, off + k * 3 + 2, none⟩ = some (.int .i64 z.2.2)) (fun k hk => by
    obtain ⟨b, off, hA, hb, hf⟩ := hel k hk
    obtain ⟨z0, h0, _⟩ := hf 0 _ rfl Try.underlying3 (by kernel_rfl)
    obtain ⟨z1, h1, _⟩ := hf 1 _ rfl Try.underlying3 (by kernel_rfl)
    obtain ⟨z2, h2, _⟩ := hf 2 _ rfl Try.underlying2 (by kernel_rfl)
    exact ⟨(z0, z1, z2), b, off, hA, hb, h0, h1, h2⟩)
  exact ⟨A, n, c, o, hv, ho, hn⟩

theorem info_step : (Try.prog.info? 27).map (fun i => (i.zero, i.size, i.bytes)) = some (some (.agg #[.int .i64 0, .int .i64 0, .int .i64 0]), 3, 24) := by kernel_rfl

/-- append onto a row of the call's own, of any many, at a step of a region that draws: where the new row lies is told. -/
theorem step_append_src {P : Program} (w : World) {ops : Array Oper} {o : Oper} {a : Act} {K : Act → World → Prop} {Q : Exit → Act → World → Prop} {E : Prop} (free : o.guard = none) (s x : Operand) (t : TypeId)
    (is : o.op = .call { callee := .builtin .append, args := #[s, x], argTypes := #[t, t] })
    (base : Nat) (e : TypeId) (i : TypeInfo) (z : Value) (size bytes : Nat) (h1 : P.underlying t = some (.slice e)) (h2 : P.info? e = some i) (h3 : i.zero = some z) (h4 : i.size = size) (h5 : i.bytes = bytes) (h6 : z.cells.size = size) (h7 : 0 < size)
    (v : Value) (n : Nat) (xs : List Value) (vs : a.eval s = v) (own : w.ownsRow base e size v n xs)
    (ad : Addr) (m c : Nat) (news : List Value) (vx : a.eval x = .slice (some ad) m c) (len : news.length = m * size) (there : ∀ j u, news[j]? = some u → w.cell? (ad.add j) = some u) (one : ∀ u ∈ news, u.oneCell' = true)
    (fits : n + m ≤ maxLen) (room : (n + m) * bytes ≤ 140737488355328) (low : base ≤ w.heap.size)
    (go : ∀ v' w', w'.ownsRow base e size v' (n + m) (xs ++ news) → w.grownBy w' v.ownBlock → K (a.put o.dst v') w') :
    if Region.wanted o (yielded ops a.tmps) = true then Oper.wp P o a w K Q else E := by
  obtain ⟨v', w', run, own', grown, _, _⟩ := run_append_own_at (P := P) w base t o.type e i z size bytes h1 h2 h3 h4 h5 h6 h7 v n xs own ad m c news len there one fits room low
  rw [if_pos (show Region.wanted o (yielded ops a.tmps) = true by simp [Region.wanted, free])]
  unfold Oper.wp execOp
  simp only [is, resolve, invoke, builtin, Sem.run_bind, Sem.run_pure, Result.andThen_ok, List.map_toArray, List.map_cons, List.map_nil, vs, vx, run]
  exact go v' w' own' grown

/-- The end of a row, from k + 1 on. -/
theorem slice_from (g n cap k : Nat) (hk : k < n) (hn : n ≤ 1000000) : ∃ ad : Addr, (∀ W : World, (Instr.slice 22 (.slice (some ⟨g, 0, none⟩) n cap) (some (.int .i64 ((k : Int) + 1))) none none).run Try.prog W = .ok (.slice (some ad) (n - (k + 1)) (cap - (k + 1))) W) ∧ (cap ≠ k + 1 → ad = ⟨g, (k + 1) * 3, none⟩) ∧ (if cap = k + 1 then (some ⟨g, 0, none⟩ : Option Addr) else some ⟨g, (k + 1) * 3, none⟩) = some ad := by
  have hsz : ∀ W : World, (sizeOf (Try.prog.elem 22)).run Try.prog W = .ok 3 W := fun W => by kernel_rfl
  have e : ((k : Int) + 1).toNat = k + 1 := by omega
  by_cases hc : cap = k + 1
  · refine ⟨⟨g, 0, none⟩, fun W => ?_, fun h => absurd hc h, by rw [if_pos hc]⟩
    rw [run_slice_l (P := Try.prog) (w := W) 22 (some ⟨g, 0, none⟩) n cap Try.underlying22 .i64 ((k : Int) + 1) (by omega) (by omega), hsz W, e]
    simp [Result.andThen, sliced, hc]
  · refine ⟨⟨g, (k + 1) * 3, none⟩, fun W => ?_, fun _ => rfl, by rw [if_neg hc]⟩
    rw [run_slice_l (P := Try.prog) (w := W) 22 (some ⟨g, 0, none⟩) n cap Try.underlying22 .i64 ((k : Int) + 1) (by omega) (by omega), hsz W, e]
    simp [Result.andThen, sliced, hc, Addr.add]

theorem there_take {W : World} {B E g n cap : Nat} {all : List Stp} (own : W.ownsRow B E 3 (.slice (some ⟨g, 0, none⟩) n cap) n (cells3 all)) (k : Nat) : ∀ j u, (cells3 (all.take k))[j]? = some u → W.cell? ((⟨g, 0, none⟩ : Addr).add j) = some u := fun j u hu => by
  refine own.cells (g := g) rfl j u ?_
  have e : cells3 all = cells3 (all.take k) ++ cells3 (all.drop k) := by rw [← cells3_append, List.take_append_drop]
  rw [e, List.getElem?_append_left (List.getElem?_eq_some_iff.1 hu).1]
  exact hu
theorem there_drop {W : World} {B E g n cap k : Nat} {all : List Stp} {ad : Addr} (own : W.ownsRow B E 3 (.slice (some ⟨g, 0, none⟩) n cap) n (cells3 all)) (had : cap ≠ k + 1 → ad = ⟨g, (k + 1) * 3, none⟩) : ∀ j u, (cells3 (all.drop (k + 1)))[j]? = some u → W.cell? (ad.add j) = some u := fun j u hu => by
  have hl : all.length = n := by have := own.1; rw [cells3_length] at this; omega
  have hj := (List.getElem?_eq_some_iff.1 hu).1
  rw [cells3_length, List.length_drop] at hj
  have hcap := (Qu.row_cap own).1
  rw [had (by omega), Go.WideShapes.add_plain, own.cellAt _ (by omega)]
  rw [← cells3_drop, List.getElem?_drop] at hu
  exact hu

/-- Where a play stands: l waits in the queue, all of them lie in the row v, and the step at hand in its box. -/
structure Play (w W : World) (q : Nat) (r : Option Nat) (l : List Pt) (v : Value) (all : List Stp) : Prop where
  que : IsQ W w.heap.size q r l
  own : W.ownsRow w.heap.size 27 3 v all.length (cells3 all)
  perm : l.Perm (all.map pt)
  below : Below w.heap.size w W

theorem Play.old {w W W' : World} {q : Nat} {r : Option Nat} {l : List Pt} {v : Value} {all : List Stp} (h : Play w W q r l v all) (hb : Below W.heap.size W W') : Play w W' q r l v all :=
  ⟨h.que.below hb, Qu.row_below h.own hb, h.perm, h.below.trans (hb.mono h.below.size)⟩
theorem Play.len {w W : World} {q : Nat} {r : Option Nat} {l : List Pt} {v : Value} {all : List Stp} (h : Play w W q r l v all) : l.length = all.length := by simpa using h.perm.length_eq

/-- The head is the best of them. -/
theorem Play.head {w W : World} {q k : Nat} {r : Option Nat} {x : Pt} {l : List Pt} {v : Value} {all : List Stp} (h : Play w W q r (x :: l) v all) (hk : k < all.length) (hm : ∀ j, j < all.length → le (pt (nth all k)) (pt (nth all j))) : x = pt (nth all k) := by
  refine Qu.le_antisymm ?_ ?_
  · have h1 := h.perm.symm.mem_iff.1 (List.mem_map.2 ⟨nth all k, List.mem_of_getElem? (nth_eq hk), rfl⟩)
    rcases List.mem_cons.1 h1 with h1 | h1
    · rw [h1]; exact Qu.le_refl _
    · exact (List.pairwise_cons.1 h.que.sorted).1 _ h1
  · obtain ⟨y, hy, hx⟩ := List.mem_map.1 (h.perm.mem_iff.1 (List.mem_cons_self (a := x) (l := l)))
    obtain ⟨j, hj, hyj⟩ := List.mem_iff_getElem.1 hy
    have := hm j hj
    rw [← hx]
    have e : nth all j = y := by simp [nth, hj, hyj]
    rw [← e]; exact this

theorem strike_perm (x : Pt) (l : List Pt) (all : List Stp) (k : Nat) (hk : k < all.length) (hx : x = pt (nth all k)) (hp : (x :: l).Perm (all.map pt)) : l.Perm ((all.take k ++ all.drop (k + 1)).map pt) := by
  have e : all = all.take k ++ nth all k :: all.drop (k + 1) := by
    have h := List.drop_eq_getElem_cons hk
    have e2 : all[k] = nth all k := by simp [nth, hk]
    rw [← e2, ← h, List.take_append_drop]
  rw [e, List.map_append, List.map_cons, ← hx] at hp
  rw [List.map_append]
  have := hp.trans List.perm_middle
  exact this.cons_inv

theorem Play.popped {w W W' : World} {q : Nat} {r : Option Nat} {x : Pt} {l : List Pt} {v : Value} {all : List Stp} (h : Play w W q r (x :: l) v all) (hp : Qu.QPopped W W' w.heap.size q r l) : IsQ W' w.heap.size q r l ∧ W'.ownsRow w.heap.size 27 3 v all.length (cells3 all) ∧ Below w.heap.size w W' :=
  ⟨hp.1, h.que.row hp.2 h.own (by omega) (by omega), h.below.trans (h.que.toBelow hp.2)⟩

theorem Play.pushed {w W W1 W2 : World} {q g cap : Nat} {r : Option Nat} {l : List Pt} {v : Value} {all : List Stp} {s : Stp} {o : Obj} (h : Play w W q r l v all) (hp : Qu.QPushed W W1 w.heap.size q r (pt s) l)
    (hown : W2.ownsRow w.heap.size 27 3 (.slice (some ⟨g, 0, none⟩) (all.length + 1) cap) (all.length + 1) (cells3 all ++ [.int .i64 s.1, .int .i64 s.2.1, .int .i64 s.2.2])) (hgrow : (W1.alloc o).grownBy W2 v.ownBlock) :
    ∃ r', Play w W2 q r' (Qu.ins (pt s) l) (.slice (some ⟨g, 0, none⟩) (all.length + 1) cap) (all ++ [s]) := by
  obtain ⟨r', hQ, hM, hF⟩ := hp
  have hv := h.que.row hM h.own (by omega) (by omega)
  obtain ⟨a1, a2⟩ := hQ.apart hv (by omega) (by omega)
  have hb : Below w.heap.size w W1 := h.below.trans (h.que.toBelow hM)
  refine ⟨r', (hQ.below ((Below.refl _ _).alloc (Nat.le_refl _) o)).grown hgrow a1 a2, ?_, ?_, (hb.alloc hb.size o).grown hgrow (by have := hb.size; simp; omega) (fun k hk => (hv.lt k hk).1)⟩
  · have e : cells3 (all ++ [s]) = cells3 all ++ [.int .i64 s.1, .int .i64 s.2.1, .int .i64 s.2.2] := by rw [cells3_append]; rfl
    have e2 : (all ++ [s]).length = all.length + 1 := by simp
    rw [e, e2]; exact hown
  · rw [List.map_append]
    exact (Qu.ins_perm _ _).trans ((h.perm.cons _).trans (List.perm_append_singleton _ _).symm)

theorem undrew {a b : World} {row : Option Nat} (h : a.drew.grownBy b row) : a.grownBy b row := ⟨h.os, h.tape, h.output, h.size, h.block⟩

/-- What is struck out: the two parts, one behind the other. -/
theorem struck {w W W1 W2 : World} {q k : Nat} {r : Option Nat} {x : Pt} {l : List Pt} {v1 v2 : Value} {all : List Stp} (hk : k < all.length) (hx : x = pt (nth all k)) (hp : (x :: l).Perm (all.map pt)) (hQ : IsQ W w.heap.size q r l) (hb : Below w.heap.size w W)
    (own1 : W1.ownsRow w.heap.size 27 3 v1 k (cells3 (all.take k))) (g1 : W.grownBy W1 none) (own2 : W2.ownsRow w.heap.size 27 3 v2 (k + (all.length - (k + 1))) (cells3 (all.take k) ++ cells3 (all.drop (k + 1)))) (g2 : W1.grownBy W2 v1.ownBlock) :
    Play w W2 q r l v2 (all.take k ++ all.drop (k + 1)) := by
  have hQ1 := hQ.grown g1 (by simp) (by cases r <;> simp)
  obtain ⟨a1, a2⟩ := hQ1.apart own1 (by omega) (by omega)
  have hb1 := hb.grown g1 hb.size (fun k hk => by cases hk)
  refine ⟨hQ1.grown g2 a1 a2, ?_, strike_perm x l all k hk hx hp, hb1.grown g2 hb1.size (fun j hj => (own1.lt j hj).1)⟩
  rw [cells3_append]
  have e : (all.take k ++ all.drop (k + 1)).length = k + (all.length - (k + 1)) := by simp; omega
  rw [e]; exact own2

end Go.Proofs.Ytmggfeacjndflaa.Pl
