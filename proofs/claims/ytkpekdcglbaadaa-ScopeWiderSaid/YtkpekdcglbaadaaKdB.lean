/- Rows of things that are filled, element by element: the statements' Own and Kept, whatever the things are. Nothing here speaks of the program. -/
import Derived.Test.YtkpekdcglbaadaaKdA
set_option maxRecDepth 100000

set_option linter.unusedVariables false
namespace Go.Proofs.Ytkpekdcglbaadaa.Kd
open Go.ChangeShapes Go.WideShapes Go.ChangeAt Go.RowKit Go.Deep
open Mv (Only)
open Qu (Blk)

variable {α β : Type}

theorem blk_puts {g t : Nat} : ∀ (vs : List Value) (w : World) (o : Nat) (cur : Array Value), Blk w g t cur → Blk (w.setCells g o vs) g t (Se.over cur.toList o vs).toArray
  | [], w, o, cur, h => by
    show Blk w g t cur.toList.toArray
    rw [Array.toArray_toList]; exact h
  | v :: r, w, o, cur, h => by
    have h1 := blk_puts r (w.setCell ⟨g, o, none⟩ v) (o + 1) (cur.setIfInBounds o v) (h.put o v)
    rw [Array.toList_setIfInBounds] at h1
    exact h1

theorem below_puts {B g : Nat} {u : World} (hg : B ≤ g) : ∀ (vs : List Value) (w : World) (o : Nat), Below B u w → Below B u (w.setCells g o vs)
  | [], w, o, h => h
  | v :: r, w, o, h => below_puts hg r (w.setCell ⟨g, o, none⟩ v) (o + 1) (h.setCell hg v)

/-- A row of a block of the call's own while it is filled: the first k cells are those of L. -/
structure Filling (w wr : World) (g E size k : Nat) (L : List Value) : Prop where
  blk : ∃ cur : Array Value, Blk wr g E cur ∧ cur.size = size ∧ ∀ j, j < k → cur[j]? = L[j]?
  low : w.heap.size ≤ g
  below : Below w.heap.size w wr

section
variable {w wr w' : World} {g E size k : Nat} {L vs : List Value}
theorem Filling.step (h : Filling w wr g E size k L) (hv : ∀ (j : Nat) (v : Value), vs[j]? = some v → L[k + j]? = some v) (hk : k + vs.length ≤ size) : Filling w (wr.setCells g k vs) g E size (k + vs.length) L := by
  obtain ⟨⟨cur, hb, hs, hc⟩, hl, hw⟩ := h
  refine ⟨⟨_, blk_puts vs wr k cur hb, by rw [List.size_toArray, Se.over_length, Array.length_toList, hs], fun j hj => ?_⟩, hl, below_puts hl vs wr k hw⟩
  have hcl : cur.toList.length = size := by rw [Array.length_toList]; exact hs
  rw [List.getElem?_toArray, Se.over_at vs cur.toList k j (by omega)]
  by_cases h1 : k ≤ j ∧ j < k + vs.length
  · rw [if_pos h1]
    obtain ⟨v, hv1⟩ : ∃ v, vs[j - k]? = some v := ⟨_, List.getElem?_eq_getElem (by omega)⟩
    rw [hv1]
    have := hv _ _ hv1
    rw [show k + (j - k) = j by omega] at this
    exact this.symm
  · rw [if_neg h1, Array.getElem?_toList]
    exact hc j (by omega)

theorem Filling.later (h : Filling w wr g E size k L) (hb : Below wr.heap.size wr w') : Filling w w' g E size k L := by
  obtain ⟨⟨cur, hbk, hs, hc⟩, hl, hw⟩ := h
  exact ⟨⟨cur, hbk.below hb, hs, hc⟩, hl, Hk.andThen hw hb⟩

theorem Filling.there (h : Filling w wr g E size k L) {j : Nat} (hj : j < size) : (∃ v, wr.cell? ⟨g, j, none⟩ = some v) ∧ wr.frozen? ⟨g, j, none⟩ = false := by
  obtain ⟨⟨cur, hb, hs, _⟩, _, _⟩ := h
  refine ⟨⟨cur[j]'(by omega), ?_⟩, hb.frozen j⟩
  rw [hb.cell, Array.getElem?_eq_getElem (by omega)]

/-- All of it is filled. -/
theorem Filling.row {K : Kind α} {F : Nat → Prop} {xs : List α} {n : Nat} (h : Filling w wr g E (n * K.size) (n * K.size) L) (hx : xs.length = n) (hc : Cells K wr F xs L) (hF : F g) : Row K wr F (some ⟨g, 0, none⟩) n xs := by
  obtain ⟨⟨cur, hb, hs, hcur⟩, hl, hw⟩ := h
  refine ⟨hx, fun k x hk => ?_⟩
  obtain ⟨a, ha, hat⟩ := hc.at k x hk
  have hlen := hc.len
  refine ⟨g, 0, a, rfl, hF, hb.lt, ha, fun j v hj => ?_⟩
  have h1 := hat j v hj
  have h2 := (List.getElem?_eq_some_iff.1 h1).1
  rw [hlen, hx] at h2
  rw [Nat.zero_add, hb.cell, hcur _ h2]
  exact h1

/-- A copy that an append filled. -/
theorem Filling.begin {n m c : Nat} {news : List Value} (hown : wr.ownsRow w.heap.size E m (.slice (some ⟨g, 0, none⟩) n c) n news) (hc : c * m = size) (hL : ∀ (j : Nat) (v : Value), news[j]? = some v → L[j]? = some v) (hb : Below w.heap.size w wr) : Filling w wr g E size (n * m) L := by
  have hnl := hown.1
  rcases hown.2 with ⟨h0, _⟩ | ⟨g', cp, cur, hv, hg, hh, _, _, hsz, htk⟩
  · cases h0
  · cases hv
    refine ⟨⟨cur, ⟨hh⟩, by rw [hsz]; exact hc, fun j hj => ?_⟩, hg, hb⟩
    have e := congrArg (fun l : List Value => l[j]?) htk
    simp only [List.getElem?_take, if_pos hj] at e
    have hjn : j < news.length := by omega
    rw [← Array.getElem?_toList, e, List.getElem?_eq_getElem hjn]
    exact (hL j _ (List.getElem?_eq_getElem hjn)).symm
end

/-- What Own tells: a copy with three more behind it. -/
def Owned (K : Kind α) (e : Ending) (w w' : World) (n : Nat) (xs : List α) (fill : α) : Prop :=
  ∃ g, e = .returned (.slice (some ⟨g, 0, none⟩) n (n + 3)) ∧ w.heap.size ≤ g ∧ g < w'.heap.size ∧ Row K w' (· < w'.heap.size) (some ⟨g, 0, none⟩) (n + 3) (xs ++ [fill, fill, fill]) ∧ Below w.heap.size w w'

theorem row_front {K : Kind α} {w : World} {F : Nat → Prop} {A : Option Addr} {n m : Nat} {xs ys : List α} (h : Row K w F A (n + m) (xs ++ ys)) (hx : xs.length = n) : Row K w F A n xs := by
  have := h.take (k := n) (by omega)
  rw [← hx, List.take_left] at this
  rw [← hx]; exact this

/-- Two rows, held against each other. -/
theorem rows_get {K : Kind α} {w : World} {F G : Nat → Prop} {A C : Option Addr} {n k : Nat} {xs ys : List α} (ha : Row K w F A n xs) (hc : Row K w G C n ys) (hk : k < n) : ∃ x y, xs[k]? = some x ∧ ys[k]? = some y := by
  obtain ⟨x, hx⟩ := ha.get hk
  obtain ⟨y, hy⟩ := hc.get hk
  exact ⟨x, y, hx, hy⟩

/-- Lists alike, one by one, by that. -/
def eqL (eq : α → α → Bool) : List α → List α → Bool
  | [], [] => true
  | x :: xs, y :: ys => eq x y && eqL eq xs ys
  | _, _ => false

theorem eqL_len {eq : α → α → Bool} : ∀ {xs ys : List α}, xs.length ≠ ys.length → eqL eq xs ys = false
  | [], [], h => absurd rfl h
  | [], _ :: _, _ => rfl
  | _ :: _, [], _ => rfl
  | x :: xs, y :: ys, h => by
    unfold eqL
    rw [eqL_len (by simpa using h), Bool.and_false]

theorem eqL_no {eq : α → α → Bool} : ∀ {xs ys : List α} {k : Nat} {x y : α}, xs[k]? = some x → ys[k]? = some y → eq x y = false → eqL eq xs ys = false
  | [], _, k, x, y, h, _, _ => by simp at h
  | _ :: _, [], k, x, y, _, h, _ => by simp at h
  | a :: xs, b :: ys, 0, x, y, h1, h2, h => by
    obtain rfl : a = x := by simpa using h1
    obtain rfl : b = y := by simpa using h2
    unfold eqL; rw [h]; rfl
  | a :: xs, b :: ys, k + 1, x, y, h1, h2, h => by
    unfold eqL
    rw [eqL_no (xs := xs) (ys := ys) (k := k) (by simpa using h1) (by simpa using h2) h, Bool.and_false]

theorem eqL_yes {eq : α → α → Bool} : ∀ {xs ys : List α}, xs.length = ys.length → (∀ (k : Nat) (x y : α), xs[k]? = some x → ys[k]? = some y → eq x y = true) → eqL eq xs ys = true
  | [], [], _, _ => rfl
  | [], _ :: _, h, _ => by simp at h
  | _ :: _, [], h, _ => by simp at h
  | a :: xs, b :: ys, h, hk => by
    unfold eqL
    rw [hk 0 a b rfl rfl, eqL_yes (by simpa using h) fun k x y hx hy => hk (k + 1) x y (by simpa using hx) (by simpa using hy)]
    rfl

theorem eqL_refl {eq : α → α → Bool} (h : ∀ x, eq x x = true) (xs : List α) : eqL eq xs xs = true := eqL_yes rfl fun k x y hx hy => by
  rw [hx] at hy; injection hy with hy; subst hy; exact h x

/-- Where a row was, and nothing turned of what there was. -/
structure Two (K : Kind α) (w wr : World) (F : Nat → Prop) (A C : Option Addr) (n m : Nat) (xs ys : List α) : Prop where
  a : Row K wr F A n xs
  c : Row K wr F C m ys
  below : Below w.heap.size w wr

theorem Two.on {K : Kind α} {w wr w' : World} {F : Nat → Prop} {A C : Option Addr} {n m : Nat} {xs ys : List α} (h : Two K w wr F A C n m xs ys) (hF : ∀ b, F b → b < w.heap.size) (hb : Below wr.heap.size wr w') : Two K w w' F A C n m xs ys :=
  ⟨h.a.stay fun b hb2 => hb.block b (Nat.lt_of_lt_of_le (hF b hb2) h.below.size), h.c.stay fun b hb2 => hb.block b (Nat.lt_of_lt_of_le (hF b hb2) h.below.size), Hk.andThen h.below hb⟩

/-- A row of its kind's zero values, made anew. -/
theorem made_row {P : Program} {t e : TypeId} {z : Value} {S b : Nat} (ht : P.underlying t = some (.slice e)) (hi : (P.info? e).map (fun i => (i.zero, i.size, i.bytes)) = some (some z, S, b)) (n : Nat) (hn : b * (n + 3) ≤ 281474976710656) (hn2 : n ≤ 1000000000000) :
    ∃ M : Array Value, M.size = (n + 3) * S ∧ (∀ W : World, (Instr.makeSlice t (.int .i64 0) (.int .i64 ((n : Int) + 3))).run P W = .ok (.slice (some ⟨W.heap.size, 0, none⟩) 0 (n + 3)) (W.alloc (.cells M e))) ∧
      ∀ (W : World) (B : Nat), B ≤ W.heap.size → (W.alloc (.cells M e)).ownsRow B e S (.slice (some ⟨W.heap.size, 0, none⟩) 0 (n + 3)) 0 [] := by
  obtain ⟨i0, hi0, hz0, hz1, hz2⟩ := info_parts hi
  refine ⟨madeCells z.cells ((n + 3) * S), by rw [size_madeCells], fun W => ?_, fun W B hB => World.ownsRow_made W _ (n + 3) hB (by unfold maxLen; omega) (by rw [size_madeCells])⟩
  have h2 : ((b * (n + 3) : Nat) : Int) ≤ 281474976710656 := by omega
  have h3 : (i0.bytes : Int) * ((n : Int) + 3) ≤ 281474976710656 := by rw [hz2]; rw [Int.natCast_mul] at h2; exact h2
  have hr := run_make (P := P) W t e i0 _ ht hi0 hz0 .i64 .i64 0 ((n : Int) + 3) (by omega) (by omega) h3 (by omega)
  rw [hz1] at hr
  have e : ((n : Int) + 3).toNat = n + 3 := by omega
  rw [e] at hr
  exact hr

/-- What a row holds, in a later world. -/
theorem news_of {K : Kind α} {w w' : World} {M n : Nat} {A : Option Addr} {xs : List α} (h : Row K w (· < M) A n xs) (hb : Below M w w') : ∃ cs : List Value, cs.length = n * K.size ∧ Cells K w (· < M) xs cs ∧ ∀ ad, A = some ad → ∀ (j : Nat) (u : Value), cs[j]? = some u → w'.cell? (ad.add j) = some u := by
  obtain ⟨cs, hc, hat⟩ := Cells.of_row (h.below hb (Nat.le_refl _))
  have hc0 : Cells K w (· < M) xs cs := hc.stay fun b hb2 => (hb.block b hb2).symm
  exact ⟨cs, by rw [hc.len, h.len], hc0, hat⟩

/-- What lies in a cell. -/
def lies (w : World) (a : Addr) : Value := (w.cell? a).getD undef

theorem lies_of {w : World} {a : Addr} {v : Value} (h : w.cell? a = some v) : w.cell? a = some (lies w a) := by unfold lies; rw [h]; rfl

/-- A box of the call's own, of so many cells, whatever they hold; what was below it is as it was. -/
structure Held (w0 u : World) (bx T S : Nat) : Prop where
  below : Below bx w0 u
  box : ∃ cur : Array Value, Blk u bx T cur ∧ cur.size = S

section
variable {w0 u u' : World} {bx T S : Nat}
theorem Held.on (h : Held w0 u bx T S) (hb : Below u.heap.size u u') : Held w0 u' bx T S := by
  obtain ⟨cur, hbk, hs⟩ := h.box
  exact ⟨h.below.trans (hb.mono (Nat.le_of_lt hbk.lt)), cur, hbk.below hb, hs⟩

theorem Held.drew (h : Held w0 u bx T S) : Held w0 u.drew bx T S := h.on (Below.refl _ _).drew

theorem Held.put (h : Held w0 u bx T S) (i : Nat) (v : Value) : Held w0 (u.setCell ⟨bx, i, none⟩ v) bx T S := by
  obtain ⟨cur, hbk, hs⟩ := h.box
  exact ⟨h.below.setCell (Nat.le_refl _) v, _, hbk.put i v, by simpa using hs⟩

theorem Held.lies (h : Held w0 u bx T S) {i : Nat} (hi : i < S) : u.cell? ⟨bx, i, none⟩ = some (Kd.lies u ⟨bx, i, none⟩) := by
  obtain ⟨cur, hbk, hs⟩ := h.box
  exact lies_of (v := cur[i]'(by omega)) (by rw [hbk.cell, Array.getElem?_eq_getElem (by omega)])

theorem Held.frozen (h : Held w0 u bx T S) (i : Nat) : u.frozen? ⟨bx, i, none⟩ = false := by
  obtain ⟨cur, hbk, hs⟩ := h.box
  exact hbk.frozen i
end

/-- A block that is known whole, as a row. -/
theorem row_blk {K : Kind α} {w : World} {F : Nat → Prop} {g E n : Nat} {xs : List α} {cs : List Value} (h : Blk w g E cs.toArray) (hc : Cells K w F xs cs) (hn : xs.length = n) (hF : F g) : Row K w F (some ⟨g, 0, none⟩) n xs := ⟨hn, fun k x hk => by
  obtain ⟨a, ha, hat⟩ := hc.at k x hk
  refine ⟨g, 0, a, rfl, hF, h.lt, ha, fun j v hj => ?_⟩
  rw [Nat.zero_add, h.cell, List.getElem?_toArray]
  exact hat j v hj⟩

/-! ### One more behind a row of the call's own -/
/-- What the program says of slices of such things. -/
structure RowT (P : Program) (K : Kind α) (t e : TypeId) (z : Value) (S b : Nat) : Prop where
  ut : P.underlying t = some (.slice e)
  info : (P.info? e).map (fun i => (i.zero, i.size, i.bytes)) = some (some z, S, b)
  size : K.size = S
  zs : z.cells.size = S
  pos : 0 < S
  one : ∀ {w F x cs}, K.rep w F x cs → ∀ u ∈ cs, u.oneCell' = true

section
variable {P : Program} {K : Kind α} {t e : TypeId} {z : Value} {S b : Nat}
theorem RowT.ones (R : RowT P K t e z S b) {w : World} {F : Nat → Prop} : ∀ {xs : List α} {cs : List Value}, Cells K w F xs cs → ∀ u ∈ cs, u.oneCell' = true
  | [], _, h, u, hu => by cases h; cases hu
  | x :: xs, _, ⟨a, b, rfl, ha, hb⟩, u, hu => by
    rcases List.mem_append.1 hu with h1 | h1
    · exact R.one ha u h1
    · exact R.ones hb u h1

theorem run_push (R : RowT P K t e z S b) {F : Nat → Prop} {B n m c : Nat} {v : Value} {xs ys : List α} {news : List Value} {ad : Addr} (ty : TypeId) (w1 : World) (hO : Own K w1 B e F v n xs) (hy : Cells K w1 F ys news) (hm : ys.length = m) (hm0 : 0 < m) (hnews : ∀ (j : Nat) (u : Value), news[j]? = some u → w1.cell? (ad.add j) = some u)
    (hn : (n + m) * b ≤ 140737488355328) (hn2 : n + m ≤ 1000000000000) (hB : B ≤ w1.heap.size) (hF : ∀ q, F q → q < w1.heap.size ∧ v.ownBlock ≠ some q) :
    ∃ g cap w', (Builtin.append_ #[t, t] ty #[v, .slice (some ad) m c]).run P w1 = .ok (.slice (some ⟨g, 0, none⟩) (n + m) cap) w' ∧ Own K w' B e F (.slice (some ⟨g, 0, none⟩) (n + m) cap) (n + m) (xs ++ ys) ∧ w1.grownBy w' v.ownBlock ∧ (v.ownBlock = some g ∨ g = w1.heap.size) := by
  obtain ⟨i0, hi0, hz0, hz1, hz2⟩ := info_parts R.info
  obtain ⟨hl, cs, ho, hc⟩ := hO
  obtain ⟨g, cap, w', hr, h2, h3, h4, h5⟩ := run_append_lies (P := P) w1 t ty B e i0 z S b R.ut hi0 hz0 hz1 hz2 R.zs R.pos v n cs (by rw [← R.size]; exact ho) ad m c news (by rw [hy.len, hm, R.size]) hnews (R.ones hy) hm0 (by unfold maxLen; omega) hn hB _ rfl
  have ag : Agree F w1 w' := fun q hq => h3.block q (hF q hq).1 fun e => (hF q hq).2 e.symm
  exact ⟨g, cap, w', hr, ⟨by rw [List.length_append, hl, hm], cs ++ news, by rw [R.size]; exact h2, (hc.stay ag).append (hy.stay ag)⟩, h3, h4⟩

/-- append(out, E{..}): the element lies in a block of its own. -/
theorem wpList_push (R : RowT P K t e z S b) {W w1 : World} {F : Nat → Prop} {B n : Nat} {v : Value} {xs : List α} {y : α} {cs : List Value} {ops : Array Oper} {rest : List Oper} {o : Oper} {a : Act} {Q : Exit → Act → World → Prop} (free : o.guard = none) (s x : Operand)
    (is : o.op = .call { callee := .builtin .append, args := #[s, x], argTypes := #[t, t] }) (hw : w1 = W.alloc (.cells cs.toArray e)) (vs : a.eval s = v) (vx : a.eval x = .slice (some ⟨W.heap.size, 0, none⟩) 1 1) (hO : Own K W B e F v n xs) (hy : K.rep W F y cs)
    (hn : (n + 1) * b ≤ 140737488355328) (hn2 : n + 1 ≤ 1000000000000) (hB : B ≤ W.heap.size) (hF : ∀ q, F q → q < W.heap.size ∧ v.ownBlock ≠ some q)
    (go : ∀ g cap w', Own K w' B e F (.slice (some ⟨g, 0, none⟩) (n + 1) cap) (n + 1) (xs ++ [y]) → W.grownBy w' v.ownBlock → (v.ownBlock = some g ∨ W.heap.size ≤ g) → wpList P ops Q rest (a.put o.dst (.slice (some ⟨g, 0, none⟩) (n + 1) cap)) w') : wpList P ops Q (o :: rest) a w1 := by
  refine wpList_plain free fun k hk => ?_
  subst hw
  have agA : ∀ {G : Nat → Prop}, (∀ q, G q → q < W.heap.size) → Agree G W (W.alloc (.cells cs.toArray e)) := fun f => Agree.alloc _ f
  have hO1 : Own K (W.alloc (.cells cs.toArray e)) B e F v n xs := hO.stay (agA fun q hq => (hF q hq).1) fun g hg => by
    obtain ⟨_, cs0, ho, _⟩ := hO
    exact Below.heap_alloc W _ g (ho.lt g hg).2
  have hsz : (W.alloc (.cells cs.toArray e)).heap.size = W.heap.size + 1 := by simp
  obtain ⟨g, cap, w', hr, h2, h3, h4⟩ := run_push (P := P) R (m := 1) (c := 1) o.type (W.alloc (.cells cs.toArray e)) hO1 (Cells.one (K.stay (agA fun q hq => (hF q hq).1) hy)) rfl (by omega) (ad := ⟨W.heap.size, 0, none⟩) (World.news_of_block (cs := cs.toArray) (t := e) (fr := (0, 0)) (heap_alloc_new W _)) hn hn2 (by omega) (fun q hq => ⟨by have := (hF q hq).1; omega, (hF q hq).2⟩)
  have h3' : W.grownBy w' v.ownBlock := ⟨h3.os, h3.tape, h3.output, by have := h3.size; omega, fun j hj hne => (h3.block j (by omega) hne).trans (Below.heap_alloc W _ j hj)⟩
  unfold Oper.wp execOp
  simp only [is, resolve, invoke, builtin, Sem.run_bind, Sem.run_pure, Result.andThen_ok, List.map_toArray, List.map_cons, List.map_nil, vs, vx, hr]
  exact hk _ _ (go g cap w' h2 h3' (h4.imp id fun e => by omega))
end

/-! ### Rows that are joined; a cell that is written over -/
section
variable {P : Program} {K : Kind α} {t e : TypeId} {z : Value} {S b : Nat}
theorem Cells.conv {w : World} {F G : Nat → Prop} (f : ∀ {x a}, K.rep w G x a → K.rep w F x a) : ∀ {xs : List α} {cs : List Value}, Cells K w G xs cs → Cells K w F xs cs
  | [], _, h => h
  | x :: xs, _, ⟨a, b, e, h, k⟩ => ⟨a, b, e, f h, Cells.conv f k⟩

theorem run_join (R : RowT P K t e z S b) {F G : Nat → Prop} {B n m c : Nat} {v : Value} {xs ys : List α} {A : Option Addr} (ty : TypeId) (w1 : World) (hO : Own K w1 B e F v n xs) (hy : Row K w1 G A m ys) (hA : A = none → m = 0 ∧ c = 0) (hrep : ∀ {x a}, K.rep w1 G x a → K.rep w1 F x a)
    (hn : (n + m) * b ≤ 140737488355328) (hn2 : n + m ≤ 1000000000000) (hB : B ≤ w1.heap.size) (hF : ∀ q, F q → q < w1.heap.size ∧ v.ownBlock ≠ some q) :
    ∃ v' w', (Builtin.append_ #[t, t] ty #[v, .slice A m c]).run P w1 = .ok v' w' ∧ Own K w' B e F v' (n + m) (xs ++ ys) ∧ w1.grownBy w' v.ownBlock ∧ Mv.Fresh w1 v.ownBlock v'.ownBlock := by
  obtain ⟨i0, hi0, hz0, hz1, hz2⟩ := info_parts R.info
  obtain ⟨hl, cs, ho, hc⟩ := hO
  have ho' : w1.ownsRow B e S v n cs := by rw [← R.size]; exact ho
  cases A with
  | none =>
    obtain ⟨rfl, rfl⟩ := hA rfl
    have hn : ys = [] := List.eq_nil_of_length_eq_zero hy.len
    subst hn
    exact ⟨v, w1, run_append_owned_none (P := P) (w := w1) B t ty e i0 S R.ut hi0 v n _ ho', ⟨by simpa using hl, cs, by simpa using ho, by simpa using hc⟩, World.grownBy.refl w1 _, Mv.Fresh.refl _ _⟩
  | some a =>
    obtain ⟨news, hyc, hat⟩ := Cells.of_row hy
    obtain ⟨v', w', hr, h2, h3, _, h5⟩ := run_append_own_at (P := P) w1 B t ty e i0 z S b R.ut hi0 hz0 hz1 hz2 R.zs R.pos v n cs ho' a m c news (by rw [hyc.len, hy.len, R.size]) (hat a rfl) (R.ones hyc) (by unfold maxLen; omega) hn hB
    have ag : Agree F w1 w' := fun q hq => h3.block q (hF q hq).1 fun e => (hF q hq).2 e.symm
    refine ⟨v', w', hr, ⟨by rw [List.length_append, hl, hy.len], cs ++ news, by rw [R.size]; exact h2, (hc.stay ag).append ((hyc.conv hrep).stay ag)⟩, h3, ?_⟩
    rcases h5 with h5 | h5
    · exact .inl h5
    · exact .inr ⟨_, h5, Nat.le_refl _⟩

/-- append(out, src...): what is appended lies anywhere. -/
theorem wpList_join (R : RowT P K t e z S b) {w1 : World} {F G : Nat → Prop} {B n m c : Nat} {v : Value} {xs ys : List α} {A : Option Addr} {ops : Array Oper} {rest : List Oper} {o : Oper} {a : Act} {Q : Exit → Act → World → Prop} (free : o.guard = none) (s x : Operand)
    (is : o.op = .call { callee := .builtin .append, args := #[s, x], argTypes := #[t, t] }) (vs : a.eval s = v) (vx : a.eval x = .slice A m c) (hO : Own K w1 B e F v n xs) (hy : Row K w1 G A m ys) (hA : A = none → m = 0 ∧ c = 0) (hrep : ∀ {x a}, K.rep w1 G x a → K.rep w1 F x a)
    (hn : (n + m) * b ≤ 140737488355328) (hn2 : n + m ≤ 1000000000000) (hB : B ≤ w1.heap.size) (hF : ∀ q, F q → q < w1.heap.size ∧ v.ownBlock ≠ some q)
    (go : ∀ v' w', Own K w' B e F v' (n + m) (xs ++ ys) → w1.grownBy w' v.ownBlock → Mv.Fresh w1 v.ownBlock v'.ownBlock → wpList P ops Q rest (a.put o.dst v') w') : wpList P ops Q (o :: rest) a w1 := by
  refine wpList_plain free fun k hk => ?_
  obtain ⟨v', w', hr, h2, h3, h4⟩ := run_join (P := P) R o.type w1 hO hy hA hrep hn hn2 hB hF
  unfold Oper.wp execOp
  simp only [is, resolve, invoke, builtin, Sem.run_bind, Sem.run_pure, Result.andThen_ok, List.map_toArray, List.map_cons, List.map_nil, vs, vx, hr]
  exact hk _ _ (go v' w' h2 h3 h4)

theorem Cells.put {w : World} {F : Nat → Prop} {x x' : α} {a : List Value} {j : Nat} {u : Value} (hu : ∀ {a'}, K.rep w F x a' → a' = a) (hj : j < K.size) (hx' : K.rep w F x' (a.set j u)) : ∀ {xs : List α} {cs : List Value} {k : Nat}, Cells K w F xs cs → xs[k]? = some x → Cells K w F (xs.set k x') (cs.set (k * K.size + j) u)
  | [], _, k, _, h => by simp at h
  | y :: xs, _, 0, ⟨a1, b1, rfl, h1, h2⟩, h => by
    obtain rfl : y = x := by simpa using h
    have hl := K.len h1
    obtain rfl := hu h1
    refine ⟨a1.set j u, b1, ?_, hx', h2⟩
    rw [Nat.zero_mul, Nat.zero_add, List.set_append_left _ _ (by omega)]
  | y :: xs, _, k + 1, ⟨a1, b1, rfl, h1, h2⟩, h => by
    have hl := K.len h1
    refine ⟨a1, b1.set (k * K.size + j) u, ?_, h1, Cells.put hu hj hx' h2 (by simpa using h)⟩
    rw [List.set_append_right _ _ (by rw [hl, Nat.add_mul]; omega), hl]
    congr 2
    rw [Nat.add_mul]; omega

/-- A cell of a row of the call's own is written over. -/
theorem Own.put {w : World} {F : Nat → Prop} {B E n c g k j : Nat} {xs : List α} {x x' : α} {a : List Value} {u : Value} (h : Own K w B E F (.slice (some ⟨g, 0, none⟩) n c) n xs) (hk : xs[k]? = some x) (hu : ∀ {a'}, K.rep w F x a' → a' = a) (hj : j < K.size) (hx' : K.rep w F x' (a.set j u)) (hF : ∀ q, F q → q ≠ g) :
    Own K (w.setCell ⟨g, k * K.size + j, none⟩ u) B E F (.slice (some ⟨g, 0, none⟩) n c) n (xs.set k x') ∧ w.grownBy (w.setCell ⟨g, k * K.size + j, none⟩ u) (some g) := by
  obtain ⟨hl, cs, ho, hc⟩ := h
  obtain ⟨h1, h2⟩ := ho.stored (k * K.size + j) u
  refine ⟨⟨by rw [List.length_set]; exact hl, _, h1, (Cells.put hu hj hx' hc hk).stay fun q hq => ?_⟩, h2⟩
  exact Below.heap_setCell w ⟨g, _, none⟩ u q (hF q hq)

theorem over_piece {cs vs : List Value} {o : Nat} (h : o + vs.length ≤ cs.length) : Se.over cs o vs = cs.take o ++ vs ++ cs.drop (o + vs.length) := by
  apply List.ext_getElem?
  intro j
  rw [Se.over_at vs cs o j h]
  have h1 : (cs.take o).length = o := by rw [List.length_take]; omega
  by_cases hj : j < o
  · rw [if_neg (by omega), List.append_assoc, List.getElem?_append_left (by omega), List.getElem?_take, if_pos hj]
  · by_cases hj2 : j < o + vs.length
    · rw [if_pos ⟨by omega, hj2⟩, List.append_assoc, List.getElem?_append_right (by omega), List.getElem?_append_left (by omega), h1]
    · rw [if_neg (by omega), List.getElem?_append_right (by rw [List.length_append]; omega), List.length_append, h1, List.getElem?_drop]
      congr 1
      omega

theorem far_puts {g q : Nat} (h : q ≠ g) : ∀ (vs : List Value) (w : World) (o : Nat), (w.setCells g o vs).heap[q]? = w.heap[q]?
  | [], w, o => rfl
  | v :: r, w, o => (far_puts h r (w.setCell ⟨g, o, none⟩ v) (o + 1)).trans (Below.heap_setCell w ⟨g, o, none⟩ v q h)

theorem Cells.puts {w : World} {F : Nat → Prop} {x' : α} {a' : List Value} (hx' : K.rep w F x' a') : ∀ {xs : List α} {cs : List Value} {k : Nat}, Cells K w F xs cs → k < xs.length → Cells K w F (xs.set k x') (Se.over cs (k * K.size) a')
  | [], _, k, _, h => by simp at h
  | y :: xs, _, 0, ⟨a1, b1, rfl, h1, h2⟩, h => by
    have hl := K.len h1
    have hl' := K.len hx'
    refine ⟨a', b1, ?_, hx', h2⟩
    rw [over_piece (by rw [List.length_append]; omega), Nat.zero_mul, Nat.zero_add, List.take_zero, List.nil_append, hl', ← hl, List.drop_left]
  | y :: xs, _, k + 1, ⟨a1, b1, rfl, h1, h2⟩, h => by
    have hl := K.len h1
    have hl' := K.len hx'
    have hk : k < xs.length := by simpa using h
    have hb := h2.len
    have hle : k * K.size + a'.length ≤ b1.length := by
      rw [hb, hl']
      calc k * K.size + K.size = (k + 1) * K.size := by rw [Nat.add_mul]; omega
        _ ≤ _ := Nat.mul_le_mul_right _ hk
    refine ⟨a1, Se.over b1 (k * K.size) a', ?_, h1, Cells.puts hx' h2 hk⟩
    have e : (k + 1) * K.size = a1.length + k * K.size := by rw [hl, Nat.add_mul]; omega
    rw [over_piece (by rw [List.length_append]; omega), over_piece hle, e, List.take_length_add_append, Nat.add_assoc, List.drop_length_add_append]
    simp only [List.append_assoc]

/-- An element of a row of the call's own is written over. -/
theorem Own.puts {w : World} {F : Nat → Prop} {B E n c g k : Nat} {xs : List α} {x' : α} {a' : List Value} (h : Own K w B E F (.slice (some ⟨g, 0, none⟩) n c) n xs) (hk : k < n) (hx' : K.rep w F x' a') (hF : ∀ q, F q → q ≠ g) :
    Own K (w.setCells g (k * K.size) a') B E F (.slice (some ⟨g, 0, none⟩) n c) n (xs.set k x') ∧ w.grownBy (w.setCells g (k * K.size) a') (some g) := by
  obtain ⟨hl, cs, ho, hc⟩ := h
  obtain ⟨h1, h2⟩ := Se.own_over a' _ w (k * K.size) ho
  exact ⟨⟨by rw [List.length_set]; exact hl, _, h1, (Cells.puts hx' hc (by omega)).stay fun q hq => far_puts (hF q hq) a' w (k * K.size)⟩, h2⟩

/-- What is there to be written over. -/
theorem Own.cell {w : World} {F : Nat → Prop} {B E n c g k j : Nat} {xs : List α} (h : Own K w B E F (.slice (some ⟨g, 0, none⟩) n c) n xs) (hk : k < n) (hj : j < K.size) : (∃ u, w.cell? ⟨g, k * K.size + j, none⟩ = some u) ∧ w.frozen? ⟨g, k * K.size + j, none⟩ = false := by
  obtain ⟨hl, cs, ho, hc⟩ := h
  have h3 := ho.1
  have hlt : k * K.size + j < n * K.size := by
    calc k * K.size + j < k * K.size + K.size := by omega
      _ = (k + 1) * K.size := by rw [Nat.add_mul]; omega
      _ ≤ n * K.size := Nat.mul_le_mul_right _ hk
  refine ⟨⟨cs[k * K.size + j]'(by omega), ?_⟩, ho.frozenAt _⟩
  rw [ho.cellAt _ hlt, List.getElem?_eq_getElem (by omega)]

theorem Own.first {w : World} {F : Nat → Prop} {B E n c : Nat} {A : Option Addr} {xs : List α} (h : Own K w B E F (.slice A n c) n xs) (hn : 0 < n) : ∃ g, A = some ⟨g, 0, none⟩ ∧ B ≤ g ∧ g < w.heap.size := by
  obtain ⟨_, cs, ho, _⟩ := h
  obtain ⟨g, cap, hv, h1, h2⟩ := ho.form hn
  injection hv with hA
  exact ⟨g, hA, h1, h2⟩

/-- A row of the call's own, of things that lead nowhere, read. -/
theorem Own.read {w : World} {B E n c : Nat} {A : Option Addr} {xs : List α} (h : Own K w B E (fun _ => False) (.slice A n c) n xs) : Row K w (· < w.heap.size) A n xs :=
  (h.more (G := (· < w.heap.size)) fun _ h => h.elim).row fun g hg => by
    obtain ⟨_, cs, ho, _⟩ := h
    exact (ho.lt g hg).2

/-- Where nothing that there was has turned, it stays. -/
theorem Own.later {w w' : World} {B E n : Nat} {v : Value} {xs : List α} (h : Own K w B E (fun _ => False) v n xs) (hb : Below w.heap.size w w') : Own K w' B E (fun _ => False) v n xs :=
  h.stay (fun _ h => h.elim) fun g hg => by
    obtain ⟨_, cs, ho, _⟩ := h
    exact hb.block g (ho.lt g hg).2

theorem Own.low {w : World} {F : Nat → Prop} {B E n : Nat} {v : Value} {xs : List α} (h : Own K w B E F v n xs) : ∀ g, v.ownBlock = some g → B ≤ g ∧ g < w.heap.size := fun g hg => by
  obtain ⟨_, cs, ho, _⟩ := h
  exact ho.lt g hg
end

end Go.Proofs.Ytkpekdcglbaadaa.Kd
