/- Kinds of things: how a thing of Lean's lies in cells of memory, whatever its depth; rows of such things; opening a law's arguments as such. Nothing here speaks of the program. -/
import Derived.Test.YtkpekdcglbaadaaBa
set_option maxRecDepth 100000

set_option linter.unusedVariables false
namespace Go.Proofs.Ytkpekdcglbaadaa.Kd
open Go.ChangeShapes Go.WideShapes Go.ChangeAt Go.RowKit Go.Deep
open Mv (Only)

/-- The blocks of F are as they were. -/
def Agree (F : Nat → Prop) (w w' : World) : Prop := ∀ b, F b → w'.heap[b]? = w.heap[b]?

section
variable {w w' w'' : World} {F G : Nat → Prop} {B M : Nat}
theorem Agree.refl (F : Nat → Prop) (w : World) : Agree F w w := fun _ _ => rfl

theorem Agree.trans (h : Agree F w w') (k : Agree F w' w'') : Agree F w w'' := fun b hb => (k b hb).trans (h b hb)

theorem Agree.mono (h : Agree G w w') (f : ∀ b, F b → G b) : Agree F w w' := fun b hb => h b (f b hb)

theorem Agree.below (h : Below B w w') (hM : M ≤ B) : Agree (· < M) w w' := fun b hb => h.block b (Nat.lt_of_lt_of_le hb hM)

theorem Agree.only {S : Nat → Prop} (h : Only w w' S) (f : ∀ b, F b → b < w.heap.size ∧ ¬ S b) : Agree F w w' := fun b hb => h.block b (f b hb).1 (f b hb).2

theorem Agree.alloc (o : Obj) (f : ∀ b, F b → b < w.heap.size) : Agree F w (w.alloc o) := fun b hb => Below.heap_alloc w o b (f b hb)

theorem Agree.cell (h : Agree F w w') {g o : Nat} (hg : F g) : w'.cell? ⟨g, o, none⟩ = w.cell? ⟨g, o, none⟩ := World.cell?_of_block (h g hg)
end

/-- How a thing lies in cells; what it leads to lies in blocks of F. -/
structure Kind (α : Type) where
  size : Nat
  rep : World → (Nat → Prop) → α → List Value → Prop
  len : ∀ {w F x cs}, rep w F x cs → cs.length = size
  stay : ∀ {w w' F x cs}, Agree F w w' → rep w F x cs → rep w' F x cs
  more : ∀ {w F G x cs}, (∀ b, F b → G b) → rep w F x cs → rep w G x cs

variable {α β : Type}

/-- Things one behind the other, from an address on. -/
structure Row (K : Kind α) (w : World) (F : Nat → Prop) (A : Option Addr) (n : Nat) (xs : List α) : Prop where
  len : xs.length = n
  each : ∀ (k : Nat) (x : α), xs[k]? = some x → ∃ g o cs, A = some ⟨g, o, none⟩ ∧ F g ∧ g < w.heap.size ∧ K.rep w F x cs ∧ ∀ j v, cs[j]? = some v → w.cell? ⟨g, o + k * K.size + j, none⟩ = some v

section
variable {K : Kind α} {w w' : World} {F G : Nat → Prop} {A : Option Addr} {n c k : Nat} {xs : List α} {x : α}
theorem Row.nil (K : Kind α) (w : World) (F : Nat → Prop) (A : Option Addr) : Row K w F A 0 [] := ⟨rfl, fun k x h => by simp at h⟩

theorem Row.stay (h : Row K w F A n xs) (a : Agree F w w') : Row K w' F A n xs := ⟨h.len, fun k x hk => by
  obtain ⟨g, o, cs, hA, hF, hl, hr, hc⟩ := h.each k x hk
  refine ⟨g, o, cs, hA, hF, ?_, K.stay a hr, fun j v hj => (a.cell hF).trans (hc j v hj)⟩
  have h1 := a g hF
  rw [Array.getElem?_eq_getElem hl] at h1
  exact (Array.getElem?_eq_some_iff.1 h1).1⟩

theorem Row.more (h : Row K w F A n xs) (f : ∀ b, F b → G b) : Row K w G A n xs := ⟨h.len, fun k x hk => by
  obtain ⟨g, o, cs, hA, hF, hl, hr, hc⟩ := h.each k x hk
  exact ⟨g, o, cs, hA, f g hF, hl, K.more f hr, hc⟩⟩

theorem Row.below {B M : Nat} (h : Row K w (· < M) A n xs) (hb : Below B w w') (hM : M ≤ B) : Row K w' (· < M) A n xs := h.stay (Agree.below hb hM)

theorem Row.lift {B M : Nat} (h : Row K w (· < M) A n xs) (hM : M ≤ B) : Row K w (· < B) A n xs := h.more fun _ hb => Nat.lt_of_lt_of_le hb hM

theorem Row.get (h : Row K w F A n xs) (hk : k < n) : ∃ x, xs[k]? = some x := ⟨_, List.getElem?_eq_getElem (by rw [h.len]; exact hk)⟩

theorem Row.take (h : Row K w F A n xs) (hk : k ≤ n) : Row K w F A k (xs.take k) := ⟨by rw [List.length_take, h.len]; omega, fun j x hj => by
  rw [List.getElem?_take] at hj
  split at hj
  · exact h.each j x hj
  · cases hj⟩

theorem Row.drop (h : Row K w F A n xs) (hk : k ≤ n) (hc : n ≤ c) : Row K w F (if c = k then A else A.map (·.add (k * K.size))) (n - k) (xs.drop k) := ⟨by rw [List.length_drop, h.len], fun j x hj => by
  rw [List.getElem?_drop] at hj
  obtain ⟨g, o, cs, rfl, hF, hl, hr, hcell⟩ := h.each (k + j) x hj
  have hlt := (List.getElem?_eq_some_iff.1 hj).1
  have hn := h.len
  rw [if_neg (by omega)]
  refine ⟨g, o + k * K.size, cs, ?_, hF, hl, hr, fun i v hi => ?_⟩
  · simp [Go.WideShapes.add_plain]
  · have e : o + k * K.size + j * K.size + i = o + (k + j) * K.size + i := by rw [Nat.add_mul]; omega
    rw [e]
    exact hcell i v hi⟩

theorem Row.mid {j : Nat} (h : Row K w F A n xs) (hj : j ≤ k) (hk : k ≤ n) (hc : n ≤ c) : Row K w F (if c = j then A else A.map (·.add (j * K.size))) (k - j) ((xs.take k).drop j) := (h.take hk).drop hj (by omega)

theorem Row.drew (h : Row K w F A n xs) : Row K w.drew F A n xs := h.stay fun _ _ => rfl

theorem Row.drewN (h : Row K w F A n xs) (d : Nat) : Row K (w.drewN d) F A n xs := h.stay fun _ _ => rfl
end

/-! ### Kinds -/
def kInt : Kind Int where
  size := 1
  rep := fun _ _ z cs => cs = [.int .i64 z] ∧ -9223372036854775808 ≤ z ∧ z ≤ 9223372036854775807
  len := by rintro _ _ _ _ ⟨rfl, _⟩; rfl
  stay := fun _ h => h
  more := fun _ h => h

def kStr : Kind ByteArray where
  size := 1
  rep := fun _ _ s cs => cs = [.string s] ∧ s.size ≤ maxLen
  len := by rintro _ _ _ _ ⟨rfl, _⟩; rfl
  stay := fun _ h => h
  more := fun _ h => h

def kFlag : Kind Bool where
  size := 1
  rep := fun _ _ b cs => cs = [.bool b]
  len := by rintro _ _ _ _ rfl; rfl
  stay := fun _ h => h
  more := fun _ h => h

def kPair (K : Kind α) (L : Kind β) : Kind (α × β) where
  size := K.size + L.size
  rep := fun w F x cs => ∃ a b, cs = a ++ b ∧ K.rep w F x.1 a ∧ L.rep w F x.2 b
  len := by rintro _ _ _ _ ⟨a, b, rfl, h, k⟩; rw [List.length_append, K.len h, L.len k]
  stay := by rintro _ _ _ _ _ ha ⟨a, b, rfl, h, k⟩; exact ⟨a, b, rfl, K.stay ha h, L.stay ha k⟩
  more := by rintro _ _ _ _ _ hf ⟨a, b, rfl, h, k⟩; exact ⟨a, b, rfl, K.more hf h, L.more hf k⟩

/-- Things of another make that are told by these. -/
def kVia (K : Kind β) (f : α → β) : Kind α where
  size := K.size
  rep := fun w F x cs => K.rep w F (f x) cs
  len := fun h => K.len h
  stay := fun ha h => K.stay ha h
  more := fun hf h => K.more hf h

/-- What a slice says of itself. -/
def Fit (A : Option Addr) (n c : Nat) : Prop := (A = none → n = 0 ∧ c = 0) ∧ n ≤ c ∧ c ≤ 9223372036854775807

def kList (K : Kind α) : Kind (List α) where
  size := 1
  rep := fun w F xs cs => ∃ A n c, cs = [.slice A n c] ∧ Row K w F A n xs ∧ Fit A n c
  len := by rintro _ _ _ _ ⟨A, n, c, rfl, _⟩; rfl
  stay := by rintro _ _ _ _ _ ha ⟨A, n, c, rfl, h, k⟩; exact ⟨A, n, c, rfl, h.stay ha, k⟩
  more := by rintro _ _ _ _ _ hf ⟨A, n, c, rfl, h, k⟩; exact ⟨A, n, c, rfl, h.more hf, k⟩

/-- A slice, and the list that it reads. -/
structure Sl where
  A : Option Addr
  n : Nat
  c : Nat

structure Lst (K : Kind α) (w : World) (F : Nat → Prop) (s : Sl) (xs : List α) : Prop where
  row : Row K w F s.A s.n xs
  fit : Fit s.A s.n s.c

/-! ### Reading -/
/-- What reads as the type is a thing of the kind. -/
def Reads (P : Program) (K : Kind α) (t : TypeId) : Prop :=
  P.cellsOf t = K.size ∧ ∀ (H : Type) (enc : TypeId × Value → H) (base : Nat) (spare : Nat → Bool) (held : Bool) (w : World) (cs : List Value), cs.length = K.size → Hk.Val enc P base spare held w t cs → ∃ x, K.rep w (· < w.heap.size) x cs

/-- The fields from the j-th on, that begin at the cell o. -/
def Fields (P : Program) (fs : Array Field) (j o : Nat) (K : Kind α) : Prop :=
  ∀ (H : Type) (enc : TypeId × Value → H) (base : Nat) (spare : Nat → Bool) (held : Bool) (w : World) (t : TypeId) (cs : List Value), P.underlying t = some (.struct fs) → Hk.Val enc P base spare held w t cs → o + K.size ≤ cs.length → ∃ x, K.rep w (· < w.heap.size) x ((cs.drop o).take K.size)

section
variable {P : Program} {t e T : TypeId} {fs : Array Field} {j o : Nat} {K : Kind α} {L : Kind β}
theorem Reads.int (hu : P.underlying t = some (.int .i64)) (hc : P.cellsOf t = 1) : Reads P kInt t := ⟨hc, fun H enc base spare held w cs _ h => by
  obtain ⟨z, rfl, hwf⟩ := h.int hu
  exact ⟨z, rfl, bounds_i64 hwf⟩⟩

theorem Reads.str (hu : P.underlying t = some .string) (hc : P.cellsOf t = 1) : Reads P kStr t := ⟨hc, fun H enc base spare held w cs _ h => by
  obtain ⟨s, rfl, hs⟩ := h.str hu
  exact ⟨s, rfl, hs⟩⟩

theorem Reads.flag (hu : P.underlying t = some .bool) (hc : P.cellsOf t = 1) : Reads P kFlag t := ⟨hc, fun H enc base spare held w cs _ h => by
  obtain ⟨s, rfl⟩ := h.flag hu
  exact ⟨s, rfl⟩⟩

theorem row_of (hK : Reads P K e) {H : Type} {enc : TypeId × Value → H} {base : Nat} {spare : Nat → Bool} {held : Bool} {w : World} {A : Option Addr} {n : Nat}
    (hel : ∀ i, i < n → ∃ b off, A = some ⟨b, off, none⟩ ∧ b < w.heap.size ∧ Hk.Lies enc P base spare held w b (off + i * P.cellsOf e) e) : ∃ xs, Row K w (· < w.heap.size) A n xs := by
  have h1 : ∀ i, i < n → ∃ x : α, ∃ g o cs, A = some ⟨g, o, none⟩ ∧ g < w.heap.size ∧ g < w.heap.size ∧ K.rep w (· < w.heap.size) x cs ∧ ∀ j v, cs[j]? = some v → w.cell? ⟨g, o + i * K.size + j, none⟩ = some v := fun i hi => by
    obtain ⟨b, off, hA, hb, cs, fuel, y, hl, hat, htr⟩ := hel i hi
    obtain ⟨x, hx⟩ := hK.2 H enc base spare held w cs (hl.trans hK.1) ⟨fuel, y, htr⟩
    refine ⟨x, b, off, cs, hA, hb, hb, hx, fun q v hq => ?_⟩
    have hq2 : q < P.cellsOf e := by have := (List.getElem?_eq_some_iff.1 hq).1; omega
    have := hat q hq2
    rw [hK.1] at this
    rw [this, hq]
  rcases Nat.eq_zero_or_pos n with rfl | hn
  · exact ⟨[], Row.nil _ _ _ _⟩
  · obtain ⟨x0, _⟩ := h1 0 hn
    haveI : Inhabited α := ⟨x0⟩
    obtain ⟨f, hf⟩ := Go.Deep.choose_lt (α := α) (n := n) h1
    refine ⟨(List.range n).map f, by simp, fun k x hk => ?_⟩
    have hkn : k < n := by
      have := (List.getElem?_eq_some_iff.1 hk).1
      simpa using this
    rw [List.getElem?_map, List.getElem?_range hkn] at hk
    obtain rfl : f k = x := by simpa using hk
    exact hf k hkn

theorem Reads.list (hu : P.underlying t = some (.slice e)) (hc : P.cellsOf t = 1) (hK : Reads P K e) (hpos : 0 < K.size) : Reads P (kList K) t := ⟨hc, fun H enc base spare held w cs _ h => by
  obtain ⟨fuel, x, htr⟩ := h
  have hcs : ∃ a n c, cs = [.slice a n c] := by
    rcases DataW.trod_slice hu htr with ⟨hv, _⟩ | ⟨a, len, cap, elems, rest, n, _, hv, _⟩
    · exact ⟨_, _, _, hv⟩
    · exact ⟨_, _, _, hv⟩
  obtain ⟨a, n, c, rfl⟩ := hcs
  obtain ⟨h1, h2, h3, h4, h5⟩ := Hk.Lies.elems hu (by rw [hK.1]; exact hpos) htr
  obtain ⟨xs, hxs⟩ := row_of hK h5
  exact ⟨xs, a, n, c, rfl, hxs, h4, h2, h3⟩⟩

theorem piece (hj : (fs[j]?).map (fun f => (f.offset, f.type)) = some (o, T)) (hK : Reads P K T) {H : Type} {enc : TypeId × Value → H} {base : Nat} {spare : Nat → Bool} {held : Bool} {w : World} {cs : List Value} (hu : P.underlying t = some (.struct fs)) (h : Hk.Val enc P base spare held w t cs) (hl : o + K.size ≤ cs.length) : ∃ x, K.rep w (· < w.heap.size) x ((cs.drop o).take K.size) := by
  cases hf : fs[j]? with
  | none => rw [hf] at hj; cases hj
  | some f =>
    rw [hf] at hj
    have h0 : (f.offset, f.type) = (o, T) := Option.some.inj hj
    injection h0 with h1 h2
    have h3 := h.field hu j f hf
    rw [h1, h2, hK.1] at h3
    exact hK.2 H enc base spare held w _ (by rw [List.length_take, List.length_drop]; omega) h3

theorem Fields.last (hj : (fs[j]?).map (fun f => (f.offset, f.type)) = some (o, T)) (hK : Reads P K T) : Fields P fs j o K := fun H enc base spare held w t cs hu h hl => piece hj hK hu h hl

theorem Fields.cons (hj : (fs[j]?).map (fun f => (f.offset, f.type)) = some (o, T)) (hK : Reads P K T) (hr : Fields P fs (j + 1) (o + K.size) L) : Fields P fs j o (kPair K L) := fun H enc base spare held w t cs hu h hl => by
  have hl' : o + (K.size + L.size) ≤ cs.length := hl
  obtain ⟨x, hx⟩ := piece hj hK hu h (by omega)
  obtain ⟨y, hy⟩ := hr H enc base spare held w t cs hu h (by omega)
  refine ⟨(x, y), _, _, ?_, hx, hy⟩
  show (cs.drop o).take (K.size + L.size) = _
  rw [List.take_add, List.drop_drop]

theorem Reads.struct (hu : P.underlying t = some (.struct fs)) (hc : P.cellsOf t = K.size) (hF : Fields P fs 0 0 K) : Reads P K t := ⟨hc, fun H enc base spare held w cs hl h => by
  obtain ⟨x, hx⟩ := hF H enc base spare held w t cs hu h (by omega)
  rw [List.drop_zero, List.take_of_length_le (by omega)] at hx
  exact ⟨x, hx⟩⟩

theorem Reads.via {f : α → β} (g : β → α) (hg : ∀ y, f (g y) = y) (h : Reads P L t) : Reads P (kVia L f) t := ⟨h.1, fun H enc base spare held w cs hl hv => by
  obtain ⟨y, hy⟩ := h.2 H enc base spare held w cs hl hv
  refine ⟨g y, ?_⟩
  show L.rep w _ (f (g y)) cs
  rw [hg]; exact hy⟩

/-- A law's argument that is a slice of such things. -/
theorem open_list (hK : Reads P K e) (hu : P.underlying t = some (.slice e)) (hpos : 0 < K.size) {H : Type} {enc : TypeId × Value → H} {base : Nat} {spare : Nat → Bool} {held : Bool} {w : World} {v : Value} {d : DataW H} {ps : List MemPlace} {r : Reach} {b0 : Nat} (hval : Value.okWide P w r b0 t v) (hd : DataW.Trod enc P w base spare held t v d ps) :
    ∃ A n c xs, v = .slice A n c ∧ Row K w (· < w.heap.size) A n xs ∧ Fit A n c := by
  obtain ⟨A, n, c, rfl, h1, h2, h3, h4, h5⟩ := Hk.open_any_slice hu (by rw [hK.1]; exact hpos) hval hd
  obtain ⟨xs, hxs⟩ := row_of hK h5
  exact ⟨A, n, c, xs, rfl, hxs, h4, h2, h3⟩

/-- A law's argument that is such a thing, a struct. -/
theorem open_struct (hK : Reads P K t) (hu : P.underlying t = some (.struct fs)) {H : Type} {enc : TypeId × Value → H} {base : Nat} {spare : Nat → Bool} {held : Bool} {w : World} {v : Value} {d : DataW H} {ps : List MemPlace} {r : Reach} {b0 : Nat} (hval : Value.okWide P w r b0 t v) (hd : DataW.Trod enc P w base spare held t v d ps) :
    ∃ cs x, v = .agg cs.toArray ∧ K.rep w (· < w.heap.size) x cs := by
  simp only [Value.okWide, hu] at hval
  obtain ⟨cs, rfl, hsz, _⟩ := hval
  obtain ⟨x, hx⟩ := hK.2 H enc base spare held w cs.toList (by rw [Array.length_toList, hsz, hK.1]) (Hk.Val.of hd rfl)
  exact ⟨cs.toList, x, rfl, hx⟩
end

/-! ### Rows of the call's own -/
/-- The cells of things, one behind the other. -/
def Cells (K : Kind α) (w : World) (F : Nat → Prop) : List α → List Value → Prop
  | [], cs => cs = []
  | x :: xs, cs => ∃ a b, cs = a ++ b ∧ K.rep w F x a ∧ Cells K w F xs b

section
variable {K : Kind α} {w w' : World} {F G : Nat → Prop} {xs ys : List α} {cs ds : List Value}
theorem Cells.len : ∀ {xs : List α} {cs : List Value}, Cells K w F xs cs → cs.length = xs.length * K.size
  | [], _, h => by cases h; simp
  | x :: xs, _, ⟨a, b, rfl, h, k⟩ => by rw [List.length_append, K.len h, Cells.len k, List.length_cons, Nat.add_mul]; omega

theorem Cells.stay (ag : Agree F w w') : ∀ {xs : List α} {cs : List Value}, Cells K w F xs cs → Cells K w' F xs cs
  | [], _, h => h
  | x :: xs, _, ⟨a, b, e, h, k⟩ => ⟨a, b, e, K.stay ag h, Cells.stay ag k⟩

theorem Cells.more (f : ∀ b, F b → G b) : ∀ {xs : List α} {cs : List Value}, Cells K w F xs cs → Cells K w G xs cs
  | [], _, h => h
  | x :: xs, _, ⟨a, b, e, h, k⟩ => ⟨a, b, e, K.more f h, Cells.more f k⟩

theorem Cells.append : ∀ {xs : List α} {cs : List Value}, Cells K w F xs cs → Cells K w F ys ds → Cells K w F (xs ++ ys) (cs ++ ds)
  | [], _, h, k => by cases h; simpa using k
  | x :: xs, _, ⟨a, b, e, h, k⟩, k2 => ⟨a, b ++ ds, by rw [e, List.append_assoc], h, Cells.append k k2⟩

theorem Cells.one {x : α} (h : K.rep w F x cs) : Cells K w F [x] cs := ⟨cs, [], by simp, h, rfl⟩

theorem Cells.at : ∀ {xs : List α} {cs : List Value}, Cells K w F xs cs → ∀ (k : Nat) (x : α), xs[k]? = some x → ∃ a, K.rep w F x a ∧ ∀ j v, a[j]? = some v → cs[k * K.size + j]? = some v
  | [], _, _, k, x, hk => by simp at hk
  | y :: xs, _, ⟨a, b, rfl, h, r⟩, 0, x, hk => by
    obtain rfl : y = x := by simpa using hk
    exact ⟨a, h, fun j v hj => by rw [Nat.zero_mul, Nat.zero_add, List.getElem?_append_left (List.getElem?_eq_some_iff.1 hj).1]; exact hj⟩
  | y :: xs, _, ⟨a, b, rfl, h, r⟩, k + 1, x, hk => by
    obtain ⟨c, hc, hat⟩ := Cells.at r k x (by simpa using hk)
    refine ⟨c, hc, fun j v hj => ?_⟩
    have hl := K.len h
    rw [List.getElem?_append_right (by rw [hl, Nat.add_mul]; omega), hl]
    have e : (k + 1) * K.size + j - K.size = k * K.size + j := by rw [Nat.add_mul]; omega
    rw [e]; exact hat j v hj

/-- What a row holds, from its cells. -/
theorem Cells.of_row {A : Option Addr} {n : Nat} (h : Row K w F A n xs) : ∃ cs, Cells K w F xs cs ∧ (∀ a, A = some a → ∀ j v, cs[j]? = some v → w.cell? (a.add j) = some v) := by
  induction xs generalizing A n with
  | nil => exact ⟨[], rfl, fun a _ j v hj => by simp at hj⟩
  | cons x xs ih =>
    obtain ⟨g, o, a, rfl, hF, hl, hr, hc⟩ := h.each 0 x rfl
    have h1 : Row K w F (some ⟨g, o + K.size, none⟩) xs.length xs := ⟨rfl, fun k y hk => by
      obtain ⟨g', o', cs', hA, hF', hl', hr', hc'⟩ := h.each (k + 1) y (by simpa using hk)
      injection hA with hA
      injection hA with h1 h2
      subst h1 h2
      refine ⟨g, o + K.size, cs', rfl, hF', hl', hr', fun j v hj => ?_⟩
      have e : o + K.size + k * K.size + j = o + (k + 1) * K.size + j := by rw [Nat.add_mul]; omega
      rw [e]; exact hc' j v hj⟩
    obtain ⟨b, hb, hbc⟩ := ih h1
    refine ⟨a ++ b, ⟨a, b, rfl, hr, hb⟩, fun ad had j v hj => ?_⟩
    injection had with had
    subst had
    rw [Go.WideShapes.add_plain]
    have hla := K.len hr
    by_cases hj2 : j < a.length
    · rw [List.getElem?_append_left hj2] at hj
      have := hc j v hj
      rw [Nat.zero_mul, Nat.add_zero] at this
      exact this
    · rw [List.getElem?_append_right (by omega)] at hj
      have := hbc _ rfl _ v hj
      rw [Go.WideShapes.add_plain] at this
      have e : o + K.size + (j - a.length) = o + j := by omega
      rw [e] at this
      exact this

/-- A row of the call's own, of these things. -/
def Own (K : Kind α) (w : World) (B E : Nat) (F : Nat → Prop) (v : Value) (n : Nat) (xs : List α) : Prop :=
  xs.length = n ∧ ∃ cs, w.ownsRow B E K.size v n cs ∧ Cells K w F xs cs

variable {B E n c : Nat} {v : Value} {A : Option Addr}
theorem Own.nil (K : Kind α) (w : World) (B E : Nat) (F : Nat → Prop) : Own K w B E F (.slice none 0 0) 0 [] := ⟨rfl, [], World.ownsRow_nil _ _ _ _, rfl⟩

theorem Own.row (h : Own K w B E F (.slice A n c) n xs) (f : ∀ g, (Value.slice A n c).ownBlock = some g → F g) : Row K w F A n xs := by
  obtain ⟨hl, cs, ho, hc⟩ := h
  refine ⟨hl, fun k x hk => ?_⟩
  have hkn : k < n := by have := (List.getElem?_eq_some_iff.1 hk).1; omega
  obtain ⟨g, cap, hv, hB, hlt⟩ := ho.form (by omega)
  injection hv with hA _ hcc
  subst hA hcc
  obtain ⟨a, ha, hat⟩ := hc.at k x hk
  refine ⟨g, 0, a, rfl, f g rfl, hlt, ha, fun j u hj => ?_⟩
  rw [Nat.zero_add]
  have hj2 := hat j u hj
  have h3 := ho.1
  rw [ho.cellAt _ (by have := (List.getElem?_eq_some_iff.1 hj2).1; omega)]
  exact hj2

theorem Own.stay (h : Own K w B E F v n xs) (ag : Agree F w w') (hb : ∀ g, v.ownBlock = some g → w'.heap[g]? = w.heap[g]?) : Own K w' B E F v n xs := by
  obtain ⟨hl, cs, ho, hc⟩ := h
  refine ⟨hl, cs, ⟨ho.1, ?_⟩, hc.stay ag⟩
  rcases ho.2 with hn | ⟨g, cap, cur, rfl, hB, hg, rest⟩
  · exact .inl hn
  · exact .inr ⟨g, cap, cur, rfl, hB, (hb g rfl).trans hg, rest⟩

theorem Own.value (h : Own K w B E F v n xs) : ∃ A c, v = .slice A n c := by
  obtain ⟨_, cs, ho, _⟩ := h
  exact Mv.own_value ho

theorem Own.fit (h : Own K w B E F (.slice A n c) n xs) : Fit A n c := by
  obtain ⟨_, cs, ho, _⟩ := h
  exact ⟨Mv.own_none ho, Mv.own_cap ho⟩

theorem Own.more (h : Own K w B E F v n xs) (f : ∀ b, F b → G b) : Own K w B E G v n xs := by
  obtain ⟨hl, cs, ho, hc⟩ := h
  exact ⟨hl, cs, ho, hc.more f⟩
end

/-! ### Parts of a slice -/
section
variable {P : Program} {t : TypeId} {sz : Nat}
theorem slice_to (hu : P.underlying t = some (.slice (P.elem t))) (hs : ∀ W, (sizeOf (P.elem t)).run P W = .ok sz W) (A : Option Addr) (n c k : Nat) (hk : k ≤ c) (W : World) : (Instr.slice t (.slice A n c) none (some (.int .i64 (k : Int))) none).run P W = .ok (.slice A k c) W := by
  rw [run_slice_h (P := P) (w := W) t A n c hu .i64 (k : Int) (by omega) (by omega), hs]
  have e : (if c = 0 then A else A.map (·.add (0 * sz))) = A := by
    split
    · rfl
    · cases A with
      | none => rfl
      | some a => simp [Addr.add]
  simp only [Result.andThen, sliced, Nat.sub_zero, Int.toNat_natCast]
  rw [e]

theorem slice_from (hu : P.underlying t = some (.slice (P.elem t))) (hs : ∀ W, (sizeOf (P.elem t)).run P W = .ok sz W) (A : Option Addr) (n c k : Nat) (hk : k ≤ n) (W : World) : (Instr.slice t (.slice A n c) (some (.int .i64 (k : Int))) none none).run P W = .ok (.slice (if c = k then A else A.map (·.add (k * sz))) (n - k) (c - k)) W := by
  rw [run_slice_l (P := P) (w := W) t A n c hu .i64 (k : Int) (by omega) (by omega), hs]
  simp only [Result.andThen, sliced, Int.toNat_natCast]

theorem slice_mid (hu : P.underlying t = some (.slice (P.elem t))) (hs : ∀ W, (sizeOf (P.elem t)).run P W = .ok sz W) (A : Option Addr) (n c j k : Nat) (hj : j ≤ k) (hk : k ≤ c) (W : World) : (Instr.slice t (.slice A n c) (some (.int .i64 (j : Int))) (some (.int .i64 (k : Int))) none).run P W = .ok (.slice (if c = j then A else A.map (·.add (j * sz))) (k - j) (c - j)) W := by
  rw [run_slice_lh (P := P) (w := W) t A n c hu .i64 .i64 (j : Int) (k : Int) (by omega) (by omega) (by omega), hs]
  simp only [Result.andThen, sliced, Int.toNat_natCast]
end

end Go.Proofs.Ytkpekdcglbaadaa.Kd
