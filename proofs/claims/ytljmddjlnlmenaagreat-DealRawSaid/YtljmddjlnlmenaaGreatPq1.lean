/- Kinds of things: how a thing of Lean's lies in cells of memory, whatever its depth; rows of such things; opening a law's arguments as such. Nothing here speaks of the program. · Texts in order, byte by byte; names: plain mathematics, nothing of the program. · Items: how one lies in memory; rows of them. · Rows of things that are filled, element by element: the statements' Own and Kept, whatever the things are. Nothing here speaks of the program. · Rows of the call's own, of things of any depth. Nothing here speaks of the program. · A block of slices, each of them a row of the call's own, apart from all others. Nothing here speaks of the program. · What the program says of slices of numbers, texts, and lists of numbers. · append(out, src...) at a step of a region that draws its order; texts that are appended so. · append(out, E{..}) at a step of a region that draws its order; a block of the call's own as a row. Nothing here speaks of the program. · A cell of a row of the call's own is written over, however the thing lies in its cells. Nothing here speaks of the program. · Structs of package api as kinds of things: api.Scope. · Structs of package api as kinds of things: api.Part, api.Tier, api.Promo. · What the program says of slices of promotions, of parts, of tiers. -/
import Derived.Deep.AppendLies
import Derived.Lib.Bytealg
import Derived.Test.YtljmddjlnlmenaaGreatPq0
set_option maxRecDepth 100000
set_option linter.unusedVariables false

section
namespace Go.Proofs.YtljmddjlnlmenaaGreat.Kd
open Go.ChangeShapes Go.WideShapes Go.ChangeAt Go.RowKit Go.Deep
open Mv (Only)
def Agree (F : Nat -> Prop) (w w' : World) : Prop := ∀ b, F b -> w'.heap[b]? = w.heap[b]?
section
variable {w w' w'' : World} {F G : Nat -> Prop} {B M : Nat}
theorem Agree.below (h : Below B w w') (hM : M <= B) : Agree (· < M) w w' := fun b hb => h.block b (Nat.lt_of_lt_of_le hb hM)
theorem Agree.alloc (o : Obj) (f : ∀ b, F b -> b < w.heap.size) : Agree F w (w.alloc o) := fun b hb => Below.heap_alloc w o b (f b hb)
theorem Agree.cell (h : Agree F w w') {g o : Nat} (hg : F g) : w'.cell? ⟨g, o, none⟩ = w.cell? ⟨g, o, none⟩ := World.cell?_of_block (h g hg)
end
structure Kind (α : Type) where
  size : Nat
  rep : World -> (Nat -> Prop) -> α -> List Value -> Prop
  len : ∀ {w F x cs}, rep w F x cs -> cs.length = size
  stay : ∀ {w w' F x cs}, Agree F w w' -> rep w F x cs -> rep w' F x cs
  more : ∀ {w F G x cs}, (∀ b, F b -> G b) -> rep w F x cs -> rep w G x cs
variable {α β : Type}
structure Row (K : Kind α) (w : World) (F : Nat -> Prop) (A : Option Addr) (n : Nat) (xs : List α) : Prop where
  len : xs.length = n
  each : ∀ (k : Nat) (x : α), xs[k]? = some x -> ∃ g o cs, A = some ⟨g, o, none⟩ /\ F g /\ g < w.heap.size /\ K.rep w F x cs /\ ∀ j v, cs[j]? = some v -> w.cell? ⟨g, o + k * K.size + j, none⟩ = some v
section
variable {K : Kind α} {w w' : World} {F G : Nat -> Prop} {A : Option Addr} {n c k : Nat} {xs : List α} {x : α}
theorem Row.nil (K : Kind α) (w : World) (F : Nat -> Prop) (A : Option Addr) : Row K w F A 0 [] := ⟨rfl, fun k x h => by simp at h⟩
theorem Row.stay (h : Row K w F A n xs) (a : Agree F w w') : Row K w' F A n xs := ⟨h.len, fun k x hk => by
  obtain ⟨g, o, cs, hA, hF, hl, hr, hc⟩ := h.each k x hk
  refine ⟨g, o, cs, hA, hF, ?_, K.stay a hr, fun j v hj => (a.cell hF).trans (hc j v hj)⟩
  have h1 := a g hF
  rw [Array.getElem?_eq_getElem hl] at h1
  exact (Array.getElem?_eq_some_iff.1 h1).1⟩
theorem Row.more (h : Row K w F A n xs) (f : ∀ b, F b -> G b) : Row K w G A n xs := ⟨h.len, fun k x hk => by
  obtain ⟨g, o, cs, hA, hF, hl, hr, hc⟩ := h.each k x hk
  exact ⟨g, o, cs, hA, f g hF, hl, K.more f hr, hc⟩⟩
theorem Row.below {B M : Nat} (h : Row K w (· < M) A n xs) (hb : Below B w w') (hM : M <= B) : Row K w' (· < M) A n xs := h.stay (Agree.below hb hM)
theorem Row.lift {B M : Nat} (h : Row K w (· < M) A n xs) (hM : M <= B) : Row K w (· < B) A n xs := h.more fun _ hb => Nat.lt_of_lt_of_le hb hM
theorem Row.get (h : Row K w F A n xs) (hk : k < n) : ∃ x, xs[k]? = some x := ⟨_, List.getElem?_eq_getElem (by rw [h.len]; exact hk)⟩
theorem Row.take (h : Row K w F A n xs) (hk : k <= n) : Row K w F A k (xs.take k) := ⟨by rw [List.length_take, h.len]; omega, fun j x hj => by
  rw [List.getElem?_take] at hj
  split at hj
  . exact h.each j x hj
  . cases hj⟩
theorem Row.drewN (h : Row K w F A n xs) (d : Nat) : Row K (w.drewN d) F A n xs := h.stay fun _ _ => rfl
end
def kInt : Kind Int where
  size := 1
  rep := fun _ _ z cs => cs = [.int .i64 z] /\ -9223372036854775808 <= z /\ z <= 9223372036854775807
  len := by rintro _ _ _ _ ⟨rfl, _⟩; rfl
  stay := fun _ h => h
  more := fun _ h => h
def kStr : Kind ByteArray where
  size := 1
  rep := fun _ _ s cs => cs = [.string s] /\ s.size <= maxLen
  len := by rintro _ _ _ _ ⟨rfl, _⟩; rfl
  stay := fun _ h => h
  more := fun _ h => h
def kFlag : Kind Bool where
  size := 1
  rep := fun _ _ b cs => cs = [.bool b]
  len := by rintro _ _ _ _ rfl; rfl
  stay := fun _ h => h
  more := fun _ h => h
def kPair (K : Kind α) (L : Kind β) : Kind (α × β) where
  size := K.size + L.size
  rep := fun w F x cs => ∃ a b, cs = a ++ b /\ K.rep w F x.1 a /\ L.rep w F x.2 b
  len := by rintro _ _ _ _ ⟨a, b, rfl, h, k⟩; rw [List.length_append, K.len h, L.len k]
  stay := by rintro _ _ _ _ _ ha ⟨a, b, rfl, h, k⟩; exact ⟨a, b, rfl, K.stay ha h, L.stay ha k⟩
  more := by rintro _ _ _ _ _ hf ⟨a, b, rfl, h, k⟩; exact ⟨a, b, rfl, K.more hf h, L.more hf k⟩
def kVia (K : Kind β) (f : α -> β) : Kind α where
  size := K.size
  rep := fun w F x cs => K.rep w F (f x) cs
  len := fun h => K.len h
  stay := fun ha h => K.stay ha h
  more := fun hf h => K.more hf h
def Fit (A : Option Addr) (n c : Nat) : Prop := (A = none -> n = 0 /\ c = 0) /\ n <= c /\ c <= 9223372036854775807
def kList (K : Kind α) : Kind (List α) where
  size := 1
  rep := fun w F xs cs => ∃ A n c, cs = [.slice A n c] /\ Row K w F A n xs /\ Fit A n c
  len := by rintro _ _ _ _ ⟨A, n, c, rfl, _⟩; rfl
  stay := by rintro _ _ _ _ _ ha ⟨A, n, c, rfl, h, k⟩; exact ⟨A, n, c, rfl, h.stay ha, k⟩
  more := by rintro _ _ _ _ _ hf ⟨A, n, c, rfl, h, k⟩; exact ⟨A, n, c, rfl, h.more hf, k⟩
structure Sl where
  A : Option Addr
  n : Nat
  c : Nat
structure Lst (K : Kind α) (w : World) (F : Nat -> Prop) (s : Sl) (xs : List α) : Prop where
  row : Row K w F s.A s.n xs
  fit : Fit s.A s.n s.c
def Reads (P : Program) (K : Kind α) (t : TypeId) : Prop :=
  P.cellsOf t = K.size /\ ∀ (H : Type) (enc : TypeId × Value -> H) (base : Nat) (spare : Nat -> Bool) (held : Bool) (w : World) (cs : List Value), cs.length = K.size -> Hk.Val enc P base spare held w t cs -> ∃ x, K.rep w (· < w.heap.size) x cs
def Fields (P : Program) (fs : Array Field) (j o : Nat) (K : Kind α) : Prop :=
  ∀ (H : Type) (enc : TypeId × Value -> H) (base : Nat) (spare : Nat -> Bool) (held : Bool) (w : World) (t : TypeId) (cs : List Value), P.underlying t = some (.struct fs) -> Hk.Val enc P base spare held w t cs -> o + K.size <= cs.length -> ∃ x, K.rep w (· < w.heap.size) x ((cs.drop o).take K.size)
section
variable {P : Program} {t e T : TypeId} {fs : Array Field} {j o : Nat} {K : Kind α} {L : Kind β}
theorem Reads.int (hu : P.underlying t = some (.int .i64)) (hc : P.cellsOf t = 1) : Reads P kInt t := ⟨hc, fun H enc base spare held w cs _ h => by
  obtain ⟨z, rfl, hwf⟩ := h.int hu
  exact ⟨z, rfl, bounds_i64 hwf⟩⟩
theorem Reads.str (hu : P.underlying t = some .string) (hc : P.cellsOf t = 1) : Reads P kStr t := ⟨hc, fun H enc base spare held w cs _ h => by
  obtain ⟨s, rfl, hs⟩ := h.str hu
  exact ⟨s, rfl, hs⟩⟩
theorem Reads.flag (hu : P.underlying t = some .bool) (hc : P.cellsOf t = 1) : Reads P kFlag t := ⟨hc, fun H enc base spare held w cs _ h => by
  obtain ⟨s, rfl⟩ := h.flag hu
  exact ⟨s, rfl⟩⟩
theorem row_of (hK : Reads P K e) {H : Type} {enc : TypeId × Value -> H} {base : Nat} {spare : Nat -> Bool} {held : Bool} {w : World} {A : Option Addr} {n : Nat}
    (hel : ∀ i, i < n -> ∃ b off, A = some ⟨b, off, none⟩ /\ b < w.heap.size /\ Hk.Lies enc P base spare held w b (off + i * P.cellsOf e) e) : ∃ xs, Row K w (· < w.heap.size) A n xs := by
  have h1 : ∀ i, i < n -> ∃ x : α, ∃ g o cs, A = some ⟨g, o, none⟩ /\ g < w.heap.size /\ g < w.heap.size /\ K.rep w (· < w.heap.size) x cs /\ ∀ j v, cs[j]? = some v -> w.cell? ⟨g, o + i * K.size + j, none⟩ = some v := fun i hi => by
    obtain ⟨b, off, hA, hb, cs, fuel, y, hl, hat, htr⟩ := hel i hi
    obtain ⟨x, hx⟩ := hK.2 H enc base spare held w cs (hl.trans hK.1) ⟨fuel, y, htr⟩
    refine ⟨x, b, off, cs, hA, hb, hb, hx, fun q v hq => ?_⟩
    have hq2 : q < P.cellsOf e := by have := (List.getElem?_eq_some_iff.1 hq).1; omega
    have := hat q hq2
    rw [hK.1] at this
    rw [this, hq]
  rcases Nat.eq_zero_or_pos n with rfl | hn
  . exact ⟨[], Row.nil _ _ _ _⟩
  . obtain ⟨x0, _⟩ := h1 0 hn
    haveI : Inhabited α := ⟨x0⟩
    obtain ⟨f, hf⟩ := Go.Deep.choose_lt (α := α) (n := n) h1
    refine ⟨(List.range n).map f, by simp, fun k x hk => ?_⟩
    have hkn : k < n := by
      have := (List.getElem?_eq_some_iff.1 hk).1
      simpa using this
    rw [List.getElem?_map, List.getElem?_range hkn] at hk
    obtain rfl : f k = x := by simpa using hk
    exact hf k hkn
theorem Reads.list (hu : P.underlying t = some (.slice e)) (hc : P.cellsOf t = 1) (hK : Reads P K e) (hpos : 0 < K.size) : Reads P (kList K) t := ⟨hc, fun H enc base spare held w cs _ h => by
  obtain ⟨fuel, x, htr⟩ := h
  have hcs : ∃ a n c, cs = [.slice a n c] := by
    rcases DataW.trod_slice hu htr with ⟨hv, _⟩ | ⟨a, len, cap, elems, rest, n, _, hv, _⟩
    . exact ⟨_, _, _, hv⟩
    . exact ⟨_, _, _, hv⟩
  obtain ⟨a, n, c, rfl⟩ := hcs
  obtain ⟨h1, h2, h3, h4, h5⟩ := Hk.Lies.elems hu (by rw [hK.1]; exact hpos) htr
  obtain ⟨xs, hxs⟩ := row_of hK h5
  exact ⟨xs, a, n, c, rfl, hxs, h4, h2, h3⟩⟩
theorem piece (hj : (fs[j]?).map (fun f => (f.offset, f.type)) = some (o, T)) (hK : Reads P K T) {H : Type} {enc : TypeId × Value -> H} {base : Nat} {spare : Nat -> Bool} {held : Bool} {w : World} {cs : List Value} (hu : P.underlying t = some (.struct fs)) (h : Hk.Val enc P base spare held w t cs) (hl : o + K.size <= cs.length) : ∃ x, K.rep w (· < w.heap.size) x ((cs.drop o).take K.size) := by
  cases hf : fs[j]? with
  | none => rw [hf] at hj; cases hj
  | some f =>
    rw [hf] at hj
    have h0 : (f.offset, f.type) = (o, T) := Option.some.inj hj
    injection h0 with h1 h2
    have h3 := h.field hu j f hf
    rw [h1, h2, hK.1] at h3
    exact hK.2 H enc base spare held w _ (by rw [List.length_take, List.length_drop]; omega) h3
theorem Fields.last (hj : (fs[j]?).map (fun f => (f.offset, f.type)) = some (o, T)) (hK : Reads P K T) : Fields P fs j o K := fun H enc base spare held w t cs hu h hl => piece hj hK hu h hl
theorem Fields.cons (hj : (fs[j]?).map (fun f => (f.offset, f.type)) = some (o, T)) (hK : Reads P K T) (hr : Fields P fs (j + 1) (o + K.size) L) : Fields P fs j o (kPair K L) := fun H enc base spare held w t cs hu h hl => by
  have hl' : o + (K.size + L.size) <= cs.length := hl
  obtain ⟨x, hx⟩ := piece hj hK hu h (by omega)
  obtain ⟨y, hy⟩ := hr H enc base spare held w t cs hu h (by omega)
  refine ⟨(x, y), _, _, ?_, hx, hy⟩
  show (cs.drop o).take (K.size + L.size) = _
  rw [List.take_add, List.drop_drop]
theorem Reads.struct (hu : P.underlying t = some (.struct fs)) (hc : P.cellsOf t = K.size) (hF : Fields P fs 0 0 K) : Reads P K t := ⟨hc, fun H enc base spare held w cs hl h => by
  obtain ⟨x, hx⟩ := hF H enc base spare held w t cs hu h (by omega)
  rw [List.drop_zero, List.take_of_length_le (by omega)] at hx
  exact ⟨x, hx⟩⟩
theorem Reads.via {f : α -> β} (g : β -> α) (hg : ∀ y, f (g y) = y) (h : Reads P L t) : Reads P (kVia L f) t := ⟨h.1, fun H enc base spare held w cs hl hv => by
  obtain ⟨y, hy⟩ := h.2 H enc base spare held w cs hl hv
  refine ⟨g y, ?_⟩
  show L.rep w _ (f (g y)) cs
  rw [hg]; exact hy⟩
theorem open_list (hK : Reads P K e) (hu : P.underlying t = some (.slice e)) (hpos : 0 < K.size) {H : Type} {enc : TypeId × Value -> H} {base : Nat} {spare : Nat -> Bool} {held : Bool} {w : World} {v : Value} {d : DataW H} {ps : List MemPlace} {r : Reach} {b0 : Nat} (hval : Value.okWide P w r b0 t v) (hd : DataW.Trod enc P w base spare held t v d ps) :
    ∃ A n c xs, v = .slice A n c /\ Row K w (· < w.heap.size) A n xs /\ Fit A n c := by
  obtain ⟨A, n, c, rfl, h1, h2, h3, h4, h5⟩ := Hk.open_any_slice hu (by rw [hK.1]; exact hpos) hval hd
  obtain ⟨xs, hxs⟩ := row_of hK h5
  exact ⟨A, n, c, xs, rfl, hxs, h4, h2, h3⟩
theorem open_struct (hK : Reads P K t) (hu : P.underlying t = some (.struct fs)) {H : Type} {enc : TypeId × Value -> H} {base : Nat} {spare : Nat -> Bool} {held : Bool} {w : World} {v : Value} {d : DataW H} {ps : List MemPlace} {r : Reach} {b0 : Nat} (hval : Value.okWide P w r b0 t v) (hd : DataW.Trod enc P w base spare held t v d ps) :
    ∃ cs x, v = .agg cs.toArray /\ K.rep w (· < w.heap.size) x cs := by
  simp only [Value.okWide, hu] at hval
  obtain ⟨cs, rfl, hsz, _⟩ := hval
  obtain ⟨x, hx⟩ := hK.2 H enc base spare held w cs.toList (by rw [Array.length_toList, hsz, hK.1]) (Hk.Val.of hd rfl)
  exact ⟨cs.toList, x, rfl, hx⟩
end
def Cells (K : Kind α) (w : World) (F : Nat -> Prop) : List α -> List Value -> Prop
  | [], cs => cs = []
  | x :: xs, cs => ∃ a b, cs = a ++ b /\ K.rep w F x a /\ Cells K w F xs b
section
variable {K : Kind α} {w w' : World} {F G : Nat -> Prop} {xs ys : List α} {cs ds : List Value}
theorem Cells.len : ∀ {xs : List α} {cs : List Value}, Cells K w F xs cs -> cs.length = xs.length * K.size
  | [], _, h => by cases h; simp
  | x :: xs, _, ⟨a, b, rfl, h, k⟩ => by rw [List.length_append, K.len h, Cells.len k, List.length_cons, Nat.add_mul]; omega
theorem Cells.stay (ag : Agree F w w') : ∀ {xs : List α} {cs : List Value}, Cells K w F xs cs -> Cells K w' F xs cs
  | [], _, h => h
  | x :: xs, _, ⟨a, b, e, h, k⟩ => ⟨a, b, e, K.stay ag h, Cells.stay ag k⟩
theorem Cells.more (f : ∀ b, F b -> G b) : ∀ {xs : List α} {cs : List Value}, Cells K w F xs cs -> Cells K w G xs cs
  | [], _, h => h
  | x :: xs, _, ⟨a, b, e, h, k⟩ => ⟨a, b, e, K.more f h, Cells.more f k⟩
theorem Cells.append : ∀ {xs : List α} {cs : List Value}, Cells K w F xs cs -> Cells K w F ys ds -> Cells K w F (xs ++ ys) (cs ++ ds)
  | [], _, h, k => by cases h; simpa using k
  | x :: xs, _, ⟨a, b, e, h, k⟩, k2 => ⟨a, b ++ ds, by rw [e, List.append_assoc], h, Cells.append k k2⟩
theorem Cells.one {x : α} (h : K.rep w F x cs) : Cells K w F [x] cs := ⟨cs, [], by simp, h, rfl⟩
theorem Cells.at : ∀ {xs : List α} {cs : List Value}, Cells K w F xs cs -> ∀ (k : Nat) (x : α), xs[k]? = some x -> ∃ a, K.rep w F x a /\ ∀ j v, a[j]? = some v -> cs[k * K.size + j]? = some v
  | [], _, _, k, x, hk => by simp at hk
  | y :: xs, _, ⟨a, b, rfl, h, r⟩, 0, x, hk => by
    obtain rfl : y = x := by simpa using hk
    exact ⟨a, h, fun j v hj => by rw [Nat.zero_mul, Nat.zero_add, List.getElem?_append_left (List.getElem?_eq_some_iff.1 hj).1]; exact hj⟩
  | y :: xs, _, ⟨a, b, rfl, h, r⟩, k + 1, x, hk => by
    obtain ⟨c, hc, hat⟩ := Cells.at r k x (by simpa using hk)
    refine ⟨c, hc, fun j v hj => ?_⟩
    have hl := K.len h
    rw [List.getElem?_append_right (by rw [hl, Nat.add_mul]; omega), hl]
    have e : (k + 1) * K.size + j - K.size = k * K.size + j := by rw [Nat.add_mul]; omega
    rw [e]; exact hat j v hj
theorem Cells.of_row {A : Option Addr} {n : Nat} (h : Row K w F A n xs) : ∃ cs, Cells K w F xs cs /\ (∀ a, A = some a -> ∀ j v, cs[j]? = some v -> w.cell? (a.add j) = some v) := by
  induction xs generalizing A n with
  | nil => exact ⟨[], rfl, fun a _ j v hj => by simp at hj⟩
  | cons x xs ih =>
    obtain ⟨g, o, a, rfl, hF, hl, hr, hc⟩ := h.each 0 x rfl
    have h1 : Row K w F (some ⟨g, o + K.size, none⟩) xs.length xs := ⟨rfl, fun k y hk => by
      obtain ⟨g', o', cs', hA, hF', hl', hr', hc'⟩ := h.each (k + 1) y (by simpa using hk)
      injection hA with hA
      injection hA with h1 h2
      subst h1 h2
      refine ⟨g, o + K.size, cs', rfl, hF', hl', hr', fun j v hj => ?_⟩
      have e : o + K.size + k * K.size + j = o + (k + 1) * K.size + j := by rw [Nat.add_mul]; omega
      rw [e]; exact hc' j v hj⟩
    obtain ⟨b, hb, hbc⟩ := ih h1
    refine ⟨a ++ b, ⟨a, b, rfl, hr, hb⟩, fun ad had j v hj => ?_⟩
    injection had with had
    subst had
    rw [Go.WideShapes.add_plain]
    have hla := K.len hr
    by_cases hj2 : j < a.length
    . rw [List.getElem?_append_left hj2] at hj
      have := hc j v hj
      rw [Nat.zero_mul, Nat.add_zero] at this
      exact this
    . rw [List.getElem?_append_right (by omega)] at hj
      have := hbc _ rfl _ v hj
      rw [Go.WideShapes.add_plain] at this
      have e : o + K.size + (j - a.length) = o + j := by omega
      rw [e] at this
      exact this
def Own (K : Kind α) (w : World) (B E : Nat) (F : Nat -> Prop) (v : Value) (n : Nat) (xs : List α) : Prop :=
  xs.length = n /\ ∃ cs, w.ownsRow B E K.size v n cs /\ Cells K w F xs cs
variable {B E n c : Nat} {v : Value} {A : Option Addr}
theorem Own.nil (K : Kind α) (w : World) (B E : Nat) (F : Nat -> Prop) : Own K w B E F (.slice none 0 0) 0 [] := ⟨rfl, [], World.ownsRow_nil _ _ _ _, rfl⟩
theorem Own.row (h : Own K w B E F (.slice A n c) n xs) (f : ∀ g, (Value.slice A n c).ownBlock = some g -> F g) : Row K w F A n xs := by
  obtain ⟨hl, cs, ho, hc⟩ := h
  refine ⟨hl, fun k x hk => ?_⟩
  have hkn : k < n := by have := (List.getElem?_eq_some_iff.1 hk).1; omega
  obtain ⟨g, cap, hv, hB, hlt⟩ := ho.form (by omega)
  injection hv with hA _ hcc
  subst hA hcc
  obtain ⟨a, ha, hat⟩ := hc.at k x hk
  refine ⟨g, 0, a, rfl, f g rfl, hlt, ha, fun j u hj => ?_⟩
  rw [Nat.zero_add]
  have hj2 := hat j u hj
  have h3 := ho.1
  rw [ho.cellAt _ (by have := (List.getElem?_eq_some_iff.1 hj2).1; omega)]
  exact hj2
theorem Own.stay (h : Own K w B E F v n xs) (ag : Agree F w w') (hb : ∀ g, v.ownBlock = some g -> w'.heap[g]? = w.heap[g]?) : Own K w' B E F v n xs := by
  obtain ⟨hl, cs, ho, hc⟩ := h
  refine ⟨hl, cs, ⟨ho.1, ?_⟩, hc.stay ag⟩
  rcases ho.2 with hn | ⟨g, cap, cur, rfl, hB, hg, rest⟩
  . exact .inl hn
  . exact .inr ⟨g, cap, cur, rfl, hB, (hb g rfl).trans hg, rest⟩
theorem Own.value (h : Own K w B E F v n xs) : ∃ A c, v = .slice A n c := by
  obtain ⟨_, cs, ho, _⟩ := h
  exact Mv.own_value ho
theorem Own.fit (h : Own K w B E F (.slice A n c) n xs) : Fit A n c := by
  obtain ⟨_, cs, ho, _⟩ := h
  exact ⟨Mv.own_none ho, Mv.own_cap ho⟩
theorem Own.more (h : Own K w B E F v n xs) (f : ∀ b, F b -> G b) : Own K w B E G v n xs := by
  obtain ⟨hl, cs, ho, hc⟩ := h
  exact ⟨hl, cs, ho, hc.more f⟩
end
section
variable {P : Program} {t : TypeId} {sz : Nat}
theorem slice_to (hu : P.underlying t = some (.slice (P.elem t))) (hs : ∀ W, (sizeOf (P.elem t)).run P W = .ok sz W) (A : Option Addr) (n c k : Nat) (hk : k <= c) (W : World) : (Instr.slice t (.slice A n c) none (some (.int .i64 (k : Int))) none).run P W = .ok (.slice A k c) W := by
  rw [run_slice_h (P := P) (w := W) t A n c hu .i64 (k : Int) (by omega) (by omega), hs]
  have e : (if c = 0 then A else A.map (·.add (0 * sz))) = A := by
    split
    . rfl
    . cases A with
      | none => rfl
      | some a => simp [Addr.add]
  simp only [Result.andThen, sliced, Nat.sub_zero, Int.toNat_natCast]
  rw [e]
end
end Go.Proofs.YtljmddjlnlmenaaGreat.Kd
end
section
namespace Go.Proofs.YtljmddjlnlmenaaGreat.Sr
open Go.RowKit
def lt (a b : ByteArray) : Bool := Op.bytesLess a.toList b.toList
theorem list_ext {a b : ByteArray} (h : a.toList = b.toList) : a = b := by
  rw [ByteArray.toList_eq, ByteArray.toList_eq] at h
  obtain ⟨⟨x⟩⟩ := a
  obtain ⟨⟨y⟩⟩ := b
  simpa using h
def same (a b : ByteArray) : Bool := a.toList == b.toList
theorem same_iff {a b : ByteArray} : same a b = true ↔ a = b := by
  unfold same
  rw [beq_iff_eq]
  exact ⟨list_ext, fun h => by rw [h]⟩
theorem same_refl (a : ByteArray) : same a a = true := same_iff.2 rfl
theorem same_ne {a b : ByteArray} (h : a ≠ b) : same a b = false := by
  cases hb : same a b with
  | false => rfl
  | true => exact absurd (same_iff.1 hb) h
theorem less_irrefl : ∀ l : List UInt8, Op.bytesLess l l = false
  | [] => rfl
  | a :: l => by
    unfold Op.bytesLess
    rw [less_irrefl l]
    simp [UInt8.lt_irrefl]
theorem less_trans : ∀ (l m n : List UInt8), Op.bytesLess l m = true -> Op.bytesLess m n = true -> Op.bytesLess l n = true
  | l, m, [], h, k => by cases m <;> simp [Op.bytesLess] at k
  | [], m, c :: n, h, k => rfl
  | a :: l, [], c :: n, h, k => by simp [Op.bytesLess] at h
  | a :: l, b :: m, c :: n, h, k => by
    unfold Op.bytesLess at *
    simp only [Bool.or_eq_true, decide_eq_true_eq, Bool.and_eq_true, beq_iff_eq] at *
    rcases h with h | ⟨rfl, h⟩
    . rcases k with k | ⟨rfl, k⟩
      . exact .inl (UInt8.lt_trans h k)
      . exact .inl h
    . rcases k with k | ⟨rfl, k⟩
      . exact .inl k
      . exact .inr ⟨rfl, less_trans l m n h k⟩
theorem less_total : ∀ (l m : List UInt8), Op.bytesLess l m = true \/ l = m \/ Op.bytesLess m l = true
  | [], [] => .inr (.inl rfl)
  | [], b :: m => .inl rfl
  | a :: l, [] => .inr (.inr rfl)
  | a :: l, b :: m => by
    unfold Op.bytesLess
    simp only [Bool.or_eq_true, decide_eq_true_eq, Bool.and_eq_true, beq_iff_eq]
    by_cases h : a = b
    . subst h
      rcases less_total l m with h | h | h
      . exact .inl (.inr ⟨rfl, h⟩)
      . exact .inr (.inl (by rw [h]))
      . exact .inr (.inr (.inr ⟨rfl, h⟩))
    . by_cases h2 : a < b
      . exact .inl (.inl h2)
      . exact .inr (.inr (.inl (UInt8.lt_of_le_of_ne (UInt8.not_lt.1 h2) (Ne.symm h))))
theorem lt_irrefl (a : ByteArray) : lt a a = false := less_irrefl _
theorem lt_trans {a b c : ByteArray} (h : lt a b = true) (k : lt b c = true) : lt a c = true := less_trans _ _ _ h k
theorem lt_total (a b : ByteArray) : lt a b = true \/ a = b \/ lt b a = true := by
  rcases less_total a.toList b.toList with h | h | h
  . exact .inl h
  . exact .inr (.inl (list_ext h))
  . exact .inr (.inr h)
theorem lt_ne {a b : ByteArray} (h : lt a b = true) : a ≠ b := by
  rintro rfl
  rw [lt_irrefl] at h
  cases h
theorem lt_asymm {a b : ByteArray} (h : lt a b = true) : lt b a = false := by
  cases hb : lt b a with
  | false => rfl
  | true => rw [<- lt_irrefl a]; exact (lt_trans h hb).symm ▸ rfl
theorem le_iff (a b : ByteArray) : (Op.bytesLess a.toList b.toList || a.toList == b.toList) = !lt b a := by
  show (lt a b || same a b) = _
  rcases lt_total a b with h | h | h
  . rw [h, lt_asymm h]; rfl
  . subst h
    rw [lt_irrefl, same_refl]; rfl
  . rw [h, lt_asymm h, Bool.false_or, same_ne (lt_ne h).symm]; rfl
def plain (z : Int) : Bool := (decide (97 <= z) && decide (z <= 122)) || (decide (48 <= z) && decide (z <= 57)) || (z == 45)
def nameL (l : List UInt8) : Bool := (l.all fun b => plain (b.toNat : Int)) && decide (1 <= l.length) && decide (l.length <= 12)
def name (s : ByteArray) : Bool := nameL s.data.toList
theorem name_long {s : ByteArray} (h : 12 < s.size) : name s = false := by
  unfold name nameL
  rw [By.size_list]
  simp
  omega
theorem name_none {s : ByteArray} (h : s.size < 1) : name s = false := by
  unfold name nameL
  rw [By.size_list]
  simp
  omega
theorem name_bad {s : ByteArray} {k : Nat} {b : UInt8} (hk : s.data.toList[k]? = some b) (h : plain (b.toNat : Int) = false) : name s = false := by
  unfold name nameL
  have : (s.data.toList.all fun (b : UInt8) => plain (b.toNat : Int)) = false := List.all_eq_false.2 ⟨b, List.mem_of_getElem? hk, by rw [h]; simp⟩
  rw [this]; rfl
theorem name_size {s : ByteArray} (h : ∀ (k : Nat) (b : UInt8), s.data.toList[k]? = some b -> plain (b.toNat : Int) = true) : name s = (decide (1 <= s.size) && decide (s.size <= 12)) := by
  unfold name nameL
  rw [By.size_list]
  have : (s.data.toList.all fun (b : UInt8) => plain (b.toNat : Int)) = true := List.all_eq_true.2 fun b hb => by
    obtain ⟨k, hk⟩ := List.mem_iff_getElem?.1 hb
    exact h k b hk
  rw [this, Bool.true_and]
end Go.Proofs.YtljmddjlnlmenaaGreat.Sr
end
section
namespace Go.Proofs.YtljmddjlnlmenaaGreat.It
open Go.ChangeShapes Go.WideShapes Go.ChangeAt Go.RowKit
open Kd (Kind Row Own Cells Reads Fields Fit Agree kInt kStr kFlag kPair kVia)
structure Itm where
  sku : ByteArray
  cat : ByteArray
  price : Int
  fin : Bool
instance : Inhabited Itm := ⟨⟨⟨#[]⟩, ⟨#[]⟩, 0, false⟩⟩
def Itm.enc (x : Itm) : List Value := [.string x.sku, .string x.cat, .int .i64 x.price, .bool x.fin]
structure Itm.ok (x : Itm) : Prop where
  sku : x.sku.size <= maxLen
  cat : x.cat.size <= maxLen
  low : -9223372036854775808 <= x.price
  top : x.price <= 9223372036854775807
def kItem : Kind Itm := kVia (kPair kStr (kPair kStr (kPair kInt kFlag))) fun x => (x.sku, x.cat, x.price, x.fin)
theorem item_rep {w : World} {F : Nat -> Prop} {x : Itm} {cs : List Value} : kItem.rep w F x cs ↔ cs = x.enc /\ x.ok := by
  constructor
  . rintro ⟨_, _, rfl, ⟨rfl, h1⟩, _, _, rfl, ⟨rfl, h2⟩, _, _, rfl, ⟨rfl, h3, h4⟩, rfl⟩
    exact ⟨rfl, h1, h2, h3, h4⟩
  . rintro ⟨rfl, h1, h2, h3, h4⟩
    exact ⟨_, _, rfl, ⟨rfl, h1⟩, _, _, rfl, ⟨rfl, h2⟩, _, _, rfl, ⟨rfl, h3, h4⟩, rfl⟩
section
variable {w w' : World} {F : Nat -> Prop} {A : Option Addr} {n c k : Nat} {xs : List Itm} {x : Itm}
theorem row_item (h : Row kItem w F A n xs) (hk : xs[k]? = some x) : ∃ g o, A = some ⟨g, o, none⟩ /\ F g /\ g < w.heap.size /\ x.ok /\ w.cell? ⟨g, o + k * 4, none⟩ = some (.string x.sku) /\ w.cell? ⟨g, o + k * 4 + 1, none⟩ = some (.string x.cat) /\ w.cell? ⟨g, o + k * 4 + 2, none⟩ = some (.int .i64 x.price) /\ w.cell? ⟨g, o + k * 4 + 3, none⟩ = some (.bool x.fin) := by
  obtain ⟨g, o, cs, hA, hF, hl, hr, hc⟩ := h.each k x hk
  obtain ⟨rfl, hok⟩ := item_rep.1 hr
  exact ⟨g, o, hA, hF, hl, hok, hc 0 _ rfl, hc 1 _ rfl, hc 2 _ rfl, hc 3 _ rfl⟩
theorem row_ok (h : Row kItem w F A n xs) (hk : xs[k]? = some x) : x.ok := by
  obtain ⟨_, _, _, _, _, hok, _⟩ := row_item h hk
  exact hok
end
end Go.Proofs.YtljmddjlnlmenaaGreat.It
end
section
namespace Go.Proofs.YtljmddjlnlmenaaGreat.Kd
open Go.ChangeShapes Go.WideShapes Go.ChangeAt Go.RowKit Go.Deep
open Mv (Only)
open Qu (Blk)
variable {α β : Type}
theorem blk_puts {g t : Nat} : ∀ (vs : List Value) (w : World) (o : Nat) (cur : Array Value), Blk w g t cur -> Blk (w.setCells g o vs) g t (Se.over cur.toList o vs).toArray
  | [], w, o, cur, h => by
    show Blk w g t cur.toList.toArray
    rw [Array.toArray_toList]; exact h
  | v :: r, w, o, cur, h => by
    have h1 := blk_puts r (w.setCell ⟨g, o, none⟩ v) (o + 1) (cur.setIfInBounds o v) (h.put o v)
    rw [Array.toList_setIfInBounds] at h1
    exact h1
theorem below_puts {B g : Nat} {u : World} (hg : B <= g) : ∀ (vs : List Value) (w : World) (o : Nat), Below B u w -> Below B u (w.setCells g o vs)
  | [], w, o, h => h
  | v :: r, w, o, h => below_puts hg r (w.setCell ⟨g, o, none⟩ v) (o + 1) (h.setCell hg v)
structure Filling (w wr : World) (g E size k : Nat) (L : List Value) : Prop where
  blk : ∃ cur : Array Value, Blk wr g E cur /\ cur.size = size /\ ∀ j, j < k -> cur[j]? = L[j]?
  low : w.heap.size <= g
  below : Below w.heap.size w wr
section
variable {w wr w' : World} {g E size k : Nat} {L vs : List Value}
theorem Filling.step (h : Filling w wr g E size k L) (hv : ∀ (j : Nat) (v : Value), vs[j]? = some v -> L[k + j]? = some v) (hk : k + vs.length <= size) : Filling w (wr.setCells g k vs) g E size (k + vs.length) L := by
  obtain ⟨⟨cur, hb, hs, hc⟩, hl, hw⟩ := h
  refine ⟨⟨_, blk_puts vs wr k cur hb, by rw [List.size_toArray, Se.over_length, Array.length_toList, hs], fun j hj => ?_⟩, hl, below_puts hl vs wr k hw⟩
  have hcl : cur.toList.length = size := by rw [Array.length_toList]; exact hs
  rw [List.getElem?_toArray, Se.over_at vs cur.toList k j (by omega)]
  by_cases h1 : k <= j /\ j < k + vs.length
  . rw [if_pos h1]
    obtain ⟨v, hv1⟩ : ∃ v, vs[j - k]? = some v := ⟨_, List.getElem?_eq_getElem (by omega)⟩
    rw [hv1]
    have := hv _ _ hv1
    rw [show k + (j - k) = j by omega] at this
    exact this.symm
  . rw [if_neg h1, Array.getElem?_toList]
    exact hc j (by omega)
theorem Filling.there (h : Filling w wr g E size k L) {j : Nat} (hj : j < size) : (∃ v, wr.cell? ⟨g, j, none⟩ = some v) /\ wr.frozen? ⟨g, j, none⟩ = false := by
  obtain ⟨⟨cur, hb, hs, _⟩, _, _⟩ := h
  refine ⟨⟨cur[j]'(by omega), ?_⟩, hb.frozen j⟩
  rw [hb.cell, Array.getElem?_eq_getElem (by omega)]
theorem Filling.row {K : Kind α} {F : Nat -> Prop} {xs : List α} {n : Nat} (h : Filling w wr g E (n * K.size) (n * K.size) L) (hx : xs.length = n) (hc : Cells K wr F xs L) (hF : F g) : Row K wr F (some ⟨g, 0, none⟩) n xs := by
  obtain ⟨⟨cur, hb, hs, hcur⟩, hl, hw⟩ := h
  refine ⟨hx, fun k x hk => ?_⟩
  obtain ⟨a, ha, hat⟩ := hc.at k x hk
  have hlen := hc.len
  refine ⟨g, 0, a, rfl, hF, hb.lt, ha, fun j v hj => ?_⟩
  have h1 := hat j v hj
  have h2 := (List.getElem?_eq_some_iff.1 h1).1
  rw [hlen, hx] at h2
  rw [Nat.zero_add, hb.cell, hcur _ h2]
  exact h1
theorem Filling.begin {n m c : Nat} {news : List Value} (hown : wr.ownsRow w.heap.size E m (.slice (some ⟨g, 0, none⟩) n c) n news) (hc : c * m = size) (hL : ∀ (j : Nat) (v : Value), news[j]? = some v -> L[j]? = some v) (hb : Below w.heap.size w wr) : Filling w wr g E size (n * m) L := by
  have hnl := hown.1
  rcases hown.2 with ⟨h0, _⟩ | ⟨g', cp, cur, hv, hg, hh, _, _, hsz, htk⟩
  . cases h0
  . cases hv
    refine ⟨⟨cur, ⟨hh⟩, by rw [hsz]; exact hc, fun j hj => ?_⟩, hg, hb⟩
    have e := congrArg (fun l : List Value => l[j]?) htk
    simp only [List.getElem?_take, if_pos hj] at e
    have hjn : j < news.length := by omega
    rw [<- Array.getElem?_toList, e, List.getElem?_eq_getElem hjn]
    exact (hL j _ (List.getElem?_eq_getElem hjn)).symm
end
def Owned (K : Kind α) (e : Ending) (w w' : World) (n : Nat) (xs : List α) (fill : α) : Prop :=
  ∃ g, e = .returned (.slice (some ⟨g, 0, none⟩) n (n + 3)) /\ w.heap.size <= g /\ g < w'.heap.size /\ Row K w' (· < w'.heap.size) (some ⟨g, 0, none⟩) (n + 3) (xs ++ [fill, fill, fill]) /\ Below w.heap.size w w'
theorem row_front {K : Kind α} {w : World} {F : Nat -> Prop} {A : Option Addr} {n m : Nat} {xs ys : List α} (h : Row K w F A (n + m) (xs ++ ys)) (hx : xs.length = n) : Row K w F A n xs := by
  have := h.take (k := n) (by omega)
  rw [<- hx, List.take_left] at this
  rw [<- hx]; exact this
theorem rows_get {K : Kind α} {w : World} {F G : Nat -> Prop} {A C : Option Addr} {n k : Nat} {xs ys : List α} (ha : Row K w F A n xs) (hc : Row K w G C n ys) (hk : k < n) : ∃ x y, xs[k]? = some x /\ ys[k]? = some y := by
  obtain ⟨x, hx⟩ := ha.get hk
  obtain ⟨y, hy⟩ := hc.get hk
  exact ⟨x, y, hx, hy⟩
def eqL (eq : α -> α -> Bool) : List α -> List α -> Bool
  | [], [] => true
  | x :: xs, y :: ys => eq x y && eqL eq xs ys
  | _, _ => false
theorem eqL_len {eq : α -> α -> Bool} : ∀ {xs ys : List α}, xs.length ≠ ys.length -> eqL eq xs ys = false
  | [], [], h => absurd rfl h
  | [], _ :: _, _ => rfl
  | _ :: _, [], _ => rfl
  | x :: xs, y :: ys, h => by
    unfold eqL
    rw [eqL_len (by simpa using h), Bool.and_false]
theorem eqL_no {eq : α -> α -> Bool} : ∀ {xs ys : List α} {k : Nat} {x y : α}, xs[k]? = some x -> ys[k]? = some y -> eq x y = false -> eqL eq xs ys = false
  | [], _, k, x, y, h, _, _ => by simp at h
  | _ :: _, [], k, x, y, _, h, _ => by simp at h
  | a :: xs, b :: ys, 0, x, y, h1, h2, h => by
    obtain rfl : a = x := by simpa using h1
    obtain rfl : b = y := by simpa using h2
    unfold eqL; rw [h]; rfl
  | a :: xs, b :: ys, k + 1, x, y, h1, h2, h => by
    unfold eqL
    rw [eqL_no (xs := xs) (ys := ys) (k := k) (by simpa using h1) (by simpa using h2) h, Bool.and_false]
theorem eqL_yes {eq : α -> α -> Bool} : ∀ {xs ys : List α}, xs.length = ys.length -> (∀ (k : Nat) (x y : α), xs[k]? = some x -> ys[k]? = some y -> eq x y = true) -> eqL eq xs ys = true
  | [], [], _, _ => rfl
  | [], _ :: _, h, _ => by simp at h
  | _ :: _, [], h, _ => by simp at h
  | a :: xs, b :: ys, h, hk => by
    unfold eqL
    rw [hk 0 a b rfl rfl, eqL_yes (by simpa using h) fun k x y hx hy => hk (k + 1) x y (by simpa using hx) (by simpa using hy)]
    rfl
theorem eqL_refl {eq : α -> α -> Bool} (h : ∀ x, eq x x = true) (xs : List α) : eqL eq xs xs = true := eqL_yes rfl fun k x y hx hy => by
  rw [hx] at hy; injection hy with hy; subst hy; exact h x
structure Two (K : Kind α) (w wr : World) (F : Nat -> Prop) (A C : Option Addr) (n m : Nat) (xs ys : List α) : Prop where
  a : Row K wr F A n xs
  c : Row K wr F C m ys
  below : Below w.heap.size w wr
theorem Two.on {K : Kind α} {w wr w' : World} {F : Nat -> Prop} {A C : Option Addr} {n m : Nat} {xs ys : List α} (h : Two K w wr F A C n m xs ys) (hF : ∀ b, F b -> b < w.heap.size) (hb : Below wr.heap.size wr w') : Two K w w' F A C n m xs ys :=
  ⟨h.a.stay fun b hb2 => hb.block b (Nat.lt_of_lt_of_le (hF b hb2) h.below.size), h.c.stay fun b hb2 => hb.block b (Nat.lt_of_lt_of_le (hF b hb2) h.below.size), Hk.andThen h.below hb⟩
theorem made_row {P : Program} {t e : TypeId} {z : Value} {S b : Nat} (ht : P.underlying t = some (.slice e)) (hi : (P.info? e).map (fun i => (i.zero, i.size, i.bytes)) = some (some z, S, b)) (n : Nat) (hn : b * (n + 3) <= 281474976710656) (hn2 : n <= 1000000000000) :
    ∃ M : Array Value, M.size = (n + 3) * S /\ (∀ W : World, (Instr.makeSlice t (.int .i64 0) (.int .i64 ((n : Int) + 3))).run P W = .ok (.slice (some ⟨W.heap.size, 0, none⟩) 0 (n + 3)) (W.alloc (.cells M e))) /\
      ∀ (W : World) (B : Nat), B <= W.heap.size -> (W.alloc (.cells M e)).ownsRow B e S (.slice (some ⟨W.heap.size, 0, none⟩) 0 (n + 3)) 0 [] := by
  obtain ⟨i0, hi0, hz0, hz1, hz2⟩ := info_parts hi
  refine ⟨madeCells z.cells ((n + 3) * S), by rw [size_madeCells], fun W => ?_, fun W B hB => World.ownsRow_made W _ (n + 3) hB (by unfold maxLen; omega) (by rw [size_madeCells])⟩
  have h2 : ((b * (n + 3) : Nat) : Int) <= 281474976710656 := by omega
  have h3 : (i0.bytes : Int) * ((n : Int) + 3) <= 281474976710656 := by rw [hz2]; rw [Int.natCast_mul] at h2; exact h2
  have hr := run_make (P := P) W t e i0 _ ht hi0 hz0 .i64 .i64 0 ((n : Int) + 3) (by omega) (by omega) h3 (by omega)
  rw [hz1] at hr
  have e : ((n : Int) + 3).toNat = n + 3 := by omega
  rw [e] at hr
  exact hr
theorem news_of {K : Kind α} {w w' : World} {M n : Nat} {A : Option Addr} {xs : List α} (h : Row K w (· < M) A n xs) (hb : Below M w w') : ∃ cs : List Value, cs.length = n * K.size /\ Cells K w (· < M) xs cs /\ ∀ ad, A = some ad -> ∀ (j : Nat) (u : Value), cs[j]? = some u -> w'.cell? (ad.add j) = some u := by
  obtain ⟨cs, hc, hat⟩ := Cells.of_row (h.below hb (Nat.le_refl _))
  have hc0 : Cells K w (· < M) xs cs := hc.stay fun b hb2 => (hb.block b hb2).symm
  exact ⟨cs, by rw [hc.len, h.len], hc0, hat⟩
section
variable {w0 u u' : World} {bx T S : Nat}
end
theorem row_blk {K : Kind α} {w : World} {F : Nat -> Prop} {g E n : Nat} {xs : List α} {cs : List Value} (h : Blk w g E cs.toArray) (hc : Cells K w F xs cs) (hn : xs.length = n) (hF : F g) : Row K w F (some ⟨g, 0, none⟩) n xs := ⟨hn, fun k x hk => by
  obtain ⟨a, ha, hat⟩ := hc.at k x hk
  refine ⟨g, 0, a, rfl, hF, h.lt, ha, fun j v hj => ?_⟩
  rw [Nat.zero_add, h.cell, List.getElem?_toArray]
  exact hat j v hj⟩
structure RowT (P : Program) (K : Kind α) (t e : TypeId) (z : Value) (S b : Nat) : Prop where
  ut : P.underlying t = some (.slice e)
  info : (P.info? e).map (fun i => (i.zero, i.size, i.bytes)) = some (some z, S, b)
  size : K.size = S
  zs : z.cells.size = S
  pos : 0 < S
  one : ∀ {w F x cs}, K.rep w F x cs -> ∀ u ∈ cs, u.oneCell' = true
section
variable {P : Program} {K : Kind α} {t e : TypeId} {z : Value} {S b : Nat}
theorem RowT.ones (R : RowT P K t e z S b) {w : World} {F : Nat -> Prop} : ∀ {xs : List α} {cs : List Value}, Cells K w F xs cs -> ∀ u ∈ cs, u.oneCell' = true
  | [], _, h, u, hu => by cases h; cases hu
  | x :: xs, _, ⟨a, b, rfl, ha, hb⟩, u, hu => by
    rcases List.mem_append.1 hu with h1 | h1
    . exact R.one ha u h1
    . exact R.ones hb u h1
theorem run_push (R : RowT P K t e z S b) {F : Nat -> Prop} {B n m c : Nat} {v : Value} {xs ys : List α} {news : List Value} {ad : Addr} (ty : TypeId) (w1 : World) (hO : Own K w1 B e F v n xs) (hy : Cells K w1 F ys news) (hm : ys.length = m) (hm0 : 0 < m) (hnews : ∀ (j : Nat) (u : Value), news[j]? = some u -> w1.cell? (ad.add j) = some u)
    (hn : (n + m) * b <= 140737488355328) (hn2 : n + m <= 1000000000000) (hB : B <= w1.heap.size) (hF : ∀ q, F q -> q < w1.heap.size /\ v.ownBlock ≠ some q) :
    ∃ g cap w', (Builtin.append_ #[t, t] ty #[v, .slice (some ad) m c]).run P w1 = .ok (.slice (some ⟨g, 0, none⟩) (n + m) cap) w' /\ Own K w' B e F (.slice (some ⟨g, 0, none⟩) (n + m) cap) (n + m) (xs ++ ys) /\ w1.grownBy w' v.ownBlock /\ (v.ownBlock = some g \/ g = w1.heap.size) := by
  obtain ⟨i0, hi0, hz0, hz1, hz2⟩ := info_parts R.info
  obtain ⟨hl, cs, ho, hc⟩ := hO
  obtain ⟨g, cap, w', hr, h2, h3, h4, h5⟩ := run_append_lies (P := P) w1 t ty B e i0 z S b R.ut hi0 hz0 hz1 hz2 R.zs R.pos v n cs (by rw [<- R.size]; exact ho) ad m c news (by rw [hy.len, hm, R.size]) hnews (R.ones hy) hm0 (by unfold maxLen; omega) hn hB _ rfl
  have ag : Agree F w1 w' := fun q hq => h3.block q (hF q hq).1 fun e => (hF q hq).2 e.symm
  exact ⟨g, cap, w', hr, ⟨by rw [List.length_append, hl, hm], cs ++ news, by rw [R.size]; exact h2, (hc.stay ag).append (hy.stay ag)⟩, h3, h4⟩
theorem wpList_push (R : RowT P K t e z S b) {W w1 : World} {F : Nat -> Prop} {B n : Nat} {v : Value} {xs : List α} {y : α} {cs : List Value} {ops : Array Oper} {rest : List Oper} {o : Oper} {a : Act} {Q : Exit -> Act -> World -> Prop} (free : o.guard = none) (s x : Operand)
    (is : o.op = .call { callee := .builtin .append, args := #[s, x], argTypes := #[t, t] }) (hw : w1 = W.alloc (.cells cs.toArray e)) (vs : a.eval s = v) (vx : a.eval x = .slice (some ⟨W.heap.size, 0, none⟩) 1 1) (hO : Own K W B e F v n xs) (hy : K.rep W F y cs)
    (hn : (n + 1) * b <= 140737488355328) (hn2 : n + 1 <= 1000000000000) (hB : B <= W.heap.size) (hF : ∀ q, F q -> q < W.heap.size /\ v.ownBlock ≠ some q)
    (go : ∀ g cap w', Own K w' B e F (.slice (some ⟨g, 0, none⟩) (n + 1) cap) (n + 1) (xs ++ [y]) -> W.grownBy w' v.ownBlock -> (v.ownBlock = some g \/ W.heap.size <= g) -> wpList P ops Q rest (a.put o.dst (.slice (some ⟨g, 0, none⟩) (n + 1) cap)) w') : wpList P ops Q (o :: rest) a w1 := by
  refine wpList_plain free fun k hk => ?_
  subst hw
  have agA : ∀ {G : Nat -> Prop}, (∀ q, G q -> q < W.heap.size) -> Agree G W (W.alloc (.cells cs.toArray e)) := fun f => Agree.alloc _ f
  have hO1 : Own K (W.alloc (.cells cs.toArray e)) B e F v n xs := hO.stay (agA fun q hq => (hF q hq).1) fun g hg => by
    obtain ⟨_, cs0, ho, _⟩ := hO
    exact Below.heap_alloc W _ g (ho.lt g hg).2
  have hsz : (W.alloc (.cells cs.toArray e)).heap.size = W.heap.size + 1 := by simp
  obtain ⟨g, cap, w', hr, h2, h3, h4⟩ := run_push (P := P) R (m := 1) (c := 1) o.type (W.alloc (.cells cs.toArray e)) hO1 (Cells.one (K.stay (agA fun q hq => (hF q hq).1) hy)) rfl (by omega) (ad := ⟨W.heap.size, 0, none⟩) (World.news_of_block (cs := cs.toArray) (t := e) (fr := (0, 0)) (heap_alloc_new W _)) hn hn2 (by omega) (fun q hq => ⟨by have := (hF q hq).1; omega, (hF q hq).2⟩)
  have h3' : W.grownBy w' v.ownBlock := ⟨h3.os, h3.tape, h3.output, by have := h3.size; omega, fun j hj hne => (h3.block j (by omega) hne).trans (Below.heap_alloc W _ j hj)⟩
  unfold Oper.wp execOp
  simp only [is, resolve, invoke, builtin, Sem.run_bind, Sem.run_pure, Result.andThen_ok, List.map_toArray, List.map_cons, List.map_nil, vs, vx, hr]
  exact hk _ _ (go g cap w' h2 h3' (h4.imp id fun e => by omega))
end
section
variable {P : Program} {K : Kind α} {t e : TypeId} {z : Value} {S b : Nat}
theorem Cells.conv {w : World} {F G : Nat -> Prop} (f : ∀ {x a}, K.rep w G x a -> K.rep w F x a) : ∀ {xs : List α} {cs : List Value}, Cells K w G xs cs -> Cells K w F xs cs
  | [], _, h => h
  | x :: xs, _, ⟨a, b, e, h, k⟩ => ⟨a, b, e, f h, Cells.conv f k⟩
theorem run_join (R : RowT P K t e z S b) {F G : Nat -> Prop} {B n m c : Nat} {v : Value} {xs ys : List α} {A : Option Addr} (ty : TypeId) (w1 : World) (hO : Own K w1 B e F v n xs) (hy : Row K w1 G A m ys) (hA : A = none -> m = 0 /\ c = 0) (hrep : ∀ {x a}, K.rep w1 G x a -> K.rep w1 F x a)
    (hn : (n + m) * b <= 140737488355328) (hn2 : n + m <= 1000000000000) (hB : B <= w1.heap.size) (hF : ∀ q, F q -> q < w1.heap.size /\ v.ownBlock ≠ some q) :
    ∃ v' w', (Builtin.append_ #[t, t] ty #[v, .slice A m c]).run P w1 = .ok v' w' /\ Own K w' B e F v' (n + m) (xs ++ ys) /\ w1.grownBy w' v.ownBlock /\ Mv.Fresh w1 v.ownBlock v'.ownBlock := by
  obtain ⟨i0, hi0, hz0, hz1, hz2⟩ := info_parts R.info
  obtain ⟨hl, cs, ho, hc⟩ := hO
  have ho' : w1.ownsRow B e S v n cs := by rw [<- R.size]; exact ho
  cases A with
  | none =>
    obtain ⟨rfl, rfl⟩ := hA rfl
    have hn : ys = [] := List.eq_nil_of_length_eq_zero hy.len
    subst hn
    exact ⟨v, w1, run_append_owned_none (P := P) (w := w1) B t ty e i0 S R.ut hi0 v n _ ho', ⟨by simpa using hl, cs, by simpa using ho, by simpa using hc⟩, World.grownBy.refl w1 _, Mv.Fresh.refl _ _⟩
  | some a =>
    obtain ⟨news, hyc, hat⟩ := Cells.of_row hy
    obtain ⟨v', w', hr, h2, h3, _, h5⟩ := run_append_own_at (P := P) w1 B t ty e i0 z S b R.ut hi0 hz0 hz1 hz2 R.zs R.pos v n cs ho' a m c news (by rw [hyc.len, hy.len, R.size]) (hat a rfl) (R.ones hyc) (by unfold maxLen; omega) hn hB
    have ag : Agree F w1 w' := fun q hq => h3.block q (hF q hq).1 fun e => (hF q hq).2 e.symm
    refine ⟨v', w', hr, ⟨by rw [List.length_append, hl, hy.len], cs ++ news, by rw [R.size]; exact h2, (hc.stay ag).append ((hyc.conv hrep).stay ag)⟩, h3, ?_⟩
    rcases h5 with h5 | h5
    . exact .inl h5
    . exact .inr ⟨_, h5, Nat.le_refl _⟩
theorem wpList_join (R : RowT P K t e z S b) {w1 : World} {F G : Nat -> Prop} {B n m c : Nat} {v : Value} {xs ys : List α} {A : Option Addr} {ops : Array Oper} {rest : List Oper} {o : Oper} {a : Act} {Q : Exit -> Act -> World -> Prop} (free : o.guard = none) (s x : Operand)
    (is : o.op = .call { callee := .builtin .append, args := #[s, x], argTypes := #[t, t] }) (vs : a.eval s = v) (vx : a.eval x = .slice A m c) (hO : Own K w1 B e F v n xs) (hy : Row K w1 G A m ys) (hA : A = none -> m = 0 /\ c = 0) (hrep : ∀ {x a}, K.rep w1 G x a -> K.rep w1 F x a)
    (hn : (n + m) * b <= 140737488355328) (hn2 : n + m <= 1000000000000) (hB : B <= w1.heap.size) (hF : ∀ q, F q -> q < w1.heap.size /\ v.ownBlock ≠ some q)
    (go : ∀ v' w', Own K w' B e F v' (n + m) (xs ++ ys) -> w1.grownBy w' v.ownBlock -> Mv.Fresh w1 v.ownBlock v'.ownBlock -> wpList P ops Q rest (a.put o.dst v') w') : wpList P ops Q (o :: rest) a w1 := by
  refine wpList_plain free fun k hk => ?_
  obtain ⟨v', w', hr, h2, h3, h4⟩ := run_join (P := P) R o.type w1 hO hy hA hrep hn hn2 hB hF
  unfold Oper.wp execOp
  simp only [is, resolve, invoke, builtin, Sem.run_bind, Sem.run_pure, Result.andThen_ok, List.map_toArray, List.map_cons, List.map_nil, vs, vx, hr]
  exact hk _ _ (go v' w' h2 h3 h4)
theorem Cells.put {w : World} {F : Nat -> Prop} {x x' : α} {a : List Value} {j : Nat} {u : Value} (hu : ∀ {a'}, K.rep w F x a' -> a' = a) (hj : j < K.size) (hx' : K.rep w F x' (a.set j u)) : ∀ {xs : List α} {cs : List Value} {k : Nat}, Cells K w F xs cs -> xs[k]? = some x -> Cells K w F (xs.set k x') (cs.set (k * K.size + j) u)
  | [], _, k, _, h => by simp at h
  | y :: xs, _, 0, ⟨a1, b1, rfl, h1, h2⟩, h => by
    obtain rfl : y = x := by simpa using h
    have hl := K.len h1
    obtain rfl := hu h1
    refine ⟨a1.set j u, b1, ?_, hx', h2⟩
    rw [Nat.zero_mul, Nat.zero_add, List.set_append_left _ _ (by omega)]
  | y :: xs, _, k + 1, ⟨a1, b1, rfl, h1, h2⟩, h => by
    have hl := K.len h1
    refine ⟨a1, b1.set (k * K.size + j) u, ?_, h1, Cells.put hu hj hx' h2 (by simpa using h)⟩
    rw [List.set_append_right _ _ (by rw [hl, Nat.add_mul]; omega), hl]
    congr 2
    rw [Nat.add_mul]; omega
theorem Own.put {w : World} {F : Nat -> Prop} {B E n c g k j : Nat} {xs : List α} {x x' : α} {a : List Value} {u : Value} (h : Own K w B E F (.slice (some ⟨g, 0, none⟩) n c) n xs) (hk : xs[k]? = some x) (hu : ∀ {a'}, K.rep w F x a' -> a' = a) (hj : j < K.size) (hx' : K.rep w F x' (a.set j u)) (hF : ∀ q, F q -> q ≠ g) :
    Own K (w.setCell ⟨g, k * K.size + j, none⟩ u) B E F (.slice (some ⟨g, 0, none⟩) n c) n (xs.set k x') /\ w.grownBy (w.setCell ⟨g, k * K.size + j, none⟩ u) (some g) := by
  obtain ⟨hl, cs, ho, hc⟩ := h
  obtain ⟨h1, h2⟩ := ho.stored (k * K.size + j) u
  refine ⟨⟨by rw [List.length_set]; exact hl, _, h1, (Cells.put hu hj hx' hc hk).stay fun q hq => ?_⟩, h2⟩
  exact Below.heap_setCell w ⟨g, _, none⟩ u q (hF q hq)
theorem over_piece {cs vs : List Value} {o : Nat} (h : o + vs.length <= cs.length) : Se.over cs o vs = cs.take o ++ vs ++ cs.drop (o + vs.length) := by
  apply List.ext_getElem?
  intro j
  rw [Se.over_at vs cs o j h]
  have h1 : (cs.take o).length = o := by rw [List.length_take]; omega
  by_cases hj : j < o
  . rw [if_neg (by omega), List.append_assoc, List.getElem?_append_left (by omega), List.getElem?_take, if_pos hj]
  . by_cases hj2 : j < o + vs.length
    . rw [if_pos ⟨by omega, hj2⟩, List.append_assoc, List.getElem?_append_right (by omega), List.getElem?_append_left (by omega), h1]
    . rw [if_neg (by omega), List.getElem?_append_right (by rw [List.length_append]; omega), List.length_append, h1, List.getElem?_drop]
      congr 1
      omega
theorem Own.cell {w : World} {F : Nat -> Prop} {B E n c g k j : Nat} {xs : List α} (h : Own K w B E F (.slice (some ⟨g, 0, none⟩) n c) n xs) (hk : k < n) (hj : j < K.size) : (∃ u, w.cell? ⟨g, k * K.size + j, none⟩ = some u) /\ w.frozen? ⟨g, k * K.size + j, none⟩ = false := by
  obtain ⟨hl, cs, ho, hc⟩ := h
  have h3 := ho.1
  have hlt : k * K.size + j < n * K.size := by
    calc k * K.size + j < k * K.size + K.size := by omega
      _ = (k + 1) * K.size := by rw [Nat.add_mul]; omega
      _ <= n * K.size := Nat.mul_le_mul_right _ hk
  refine ⟨⟨cs[k * K.size + j]'(by omega), ?_⟩, ho.frozenAt _⟩
  rw [ho.cellAt _ hlt, List.getElem?_eq_getElem (by omega)]
theorem Own.first {w : World} {F : Nat -> Prop} {B E n c : Nat} {A : Option Addr} {xs : List α} (h : Own K w B E F (.slice A n c) n xs) (hn : 0 < n) : ∃ g, A = some ⟨g, 0, none⟩ /\ B <= g /\ g < w.heap.size := by
  obtain ⟨_, cs, ho, _⟩ := h
  obtain ⟨g, cap, hv, h1, h2⟩ := ho.form hn
  injection hv with hA
  exact ⟨g, hA, h1, h2⟩
theorem Own.read {w : World} {B E n c : Nat} {A : Option Addr} {xs : List α} (h : Own K w B E (fun _ => False) (.slice A n c) n xs) : Row K w (· < w.heap.size) A n xs :=
  (h.more (G := (· < w.heap.size)) fun _ h => h.elim).row fun g hg => by
    obtain ⟨_, cs, ho, _⟩ := h
    exact (ho.lt g hg).2
theorem Own.later {w w' : World} {B E n : Nat} {v : Value} {xs : List α} (h : Own K w B E (fun _ => False) v n xs) (hb : Below w.heap.size w w') : Own K w' B E (fun _ => False) v n xs :=
  h.stay (fun _ h => h.elim) fun g hg => by
    obtain ⟨_, cs, ho, _⟩ := h
    exact hb.block g (ho.lt g hg).2
theorem Own.low {w : World} {F : Nat -> Prop} {B E n : Nat} {v : Value} {xs : List α} (h : Own K w B E F v n xs) : ∀ g, v.ownBlock = some g -> B <= g /\ g < w.heap.size := fun g hg => by
  obtain ⟨_, cs, ho, _⟩ := h
  exact ho.lt g hg
end
end Go.Proofs.YtljmddjlnlmenaaGreat.Kd
end
section
namespace Go.Proofs.YtljmddjlnlmenaaGreat.Kd
open Go.ChangeShapes Go.WideShapes Go.ChangeAt Go.RowKit Go.Deep
open Mv (Only)
open Qu (Blk)
variable {α β : Type}
def But (w : World) (v : Value) : Nat -> Prop := fun b => b < w.heap.size /\ v.ownBlock ≠ some b
def Deep (K : Kind α) (w : World) (B E : Nat) (v : Value) (n : Nat) (xs : List α) : Prop := Own K w B E (But w v) v n xs
section
variable {P : Program} {K : Kind α} {w w' : World} {B E n c : Nat} {v : Value} {A : Option Addr} {xs ys : List α} {x : α}
theorem Deep.nil (K : Kind α) (w : World) (B E : Nat) : Deep K w B E (.slice none 0 0) 0 [] := Own.nil _ _ _ _ _
theorem Deep.low (h : Deep K w B E v n xs) : ∀ g, v.ownBlock = some g -> B <= g /\ g < w.heap.size := Own.low h
theorem Deep.value (h : Deep K w B E v n xs) : ∃ A c, v = .slice A n c := Own.value h
theorem but_mono (hs : w.heap.size <= w'.heap.size) : ∀ b, But w v b -> But w' v b := fun b hb => ⟨Nat.lt_of_lt_of_le hb.1 hs, hb.2⟩
theorem Deep.later (h : Deep K w B E v n xs) (hb : Below w.heap.size w w') : Deep K w' B E v n xs :=
  (h.stay (fun b hb2 => hb.block b hb2.1) fun g hg => hb.block g (h.low g hg).2).more (but_mono hb.size)
theorem Deep.read (h : Deep K w B E (.slice A n c) n xs) : Row K w (· < w.heap.size) A n xs :=
  (h.more (G := (· < w.heap.size)) fun b hb => hb.1).row fun g hg => (h.low g hg).2
theorem wpList_grow {t e : TypeId} {z : Value} {S b : Nat} (R : RowT P K t e z S b) {W w1 : World} {cs : List Value} {ops : Array Oper} {rest : List Oper} {o : Oper} {a : Act} {Q : Exit -> Act -> World -> Prop} (free : o.guard = none) (s y : Operand)
    (is : o.op = .call { callee := .builtin .append, args := #[s, y], argTypes := #[t, t] }) (hw : w1 = W.alloc (.cells cs.toArray e)) (vs : a.eval s = v) (vx : a.eval y = .slice (some ⟨W.heap.size, 0, none⟩) 1 1) (hO : Deep K W B e v n xs) (hy : K.rep W (But W v) x cs)
    (hn : (n + 1) * b <= 140737488355328) (hn2 : n + 1 <= 1000000000000) (hB : B <= W.heap.size)
    (go : ∀ g cap w', Deep K w' B e (.slice (some ⟨g, 0, none⟩) (n + 1) cap) (n + 1) (xs ++ [x]) -> W.grownBy w' v.ownBlock -> (v.ownBlock = some g \/ W.heap.size <= g) -> wpList P ops Q rest (a.put o.dst (.slice (some ⟨g, 0, none⟩) (n + 1) cap)) w') : wpList P ops Q (o :: rest) a w1 := by
  refine wpList_push R free s y is hw vs vx hO hy hn hn2 hB (fun q hq => hq) fun g cap w' hown hg hf => go g cap w' (hown.more fun q hq => ⟨?_, ?_⟩) hg hf
  . exact Nat.lt_of_lt_of_le hq.1 hg.size
  . intro e2
    injection e2 with e2
    have e3 : g = q := e2
    subst e3
    rcases hf with h1 | h1
    . exact hq.2 h1
    . have := hq.1
      omega
end
section
variable {w : World} {F : Nat -> Prop} {A : Option Addr} {n k : Nat}
theorem row_str {xs : List ByteArray} {x : ByteArray} (h : Row kStr w F A n xs) (hk : xs[k]? = some x) : ∃ g o, A = some ⟨g, o, none⟩ /\ F g /\ g < w.heap.size /\ x.size <= maxLen /\ w.cell? ⟨g, o + k, none⟩ = some (.string x) := by
  obtain ⟨g, o, cs, hA, hF, hl, ⟨rfl, hr⟩, hc⟩ := h.each k x hk
  have e : kStr.size = 1 := rfl
  have h0 := hc 0 _ rfl
  rw [e, Nat.mul_one, Nat.add_zero] at h0
  exact ⟨g, o, hA, hF, hl, hr, h0⟩
theorem row_int {xs : List Int} {x : Int} (h : Row kInt w F A n xs) (hk : xs[k]? = some x) : ∃ g o, A = some ⟨g, o, none⟩ /\ F g /\ g < w.heap.size /\ (-9223372036854775808 <= x /\ x <= 9223372036854775807) /\ w.cell? ⟨g, o + k, none⟩ = some (.int .i64 x) := by
  obtain ⟨g, o, cs, hA, hF, hl, ⟨rfl, hr⟩, hc⟩ := h.each k x hk
  have e : kInt.size = 1 := rfl
  have h0 := hc 0 _ rfl
  rw [e, Nat.mul_one, Nat.add_zero] at h0
  exact ⟨g, o, hA, hF, hl, hr, h0⟩
theorem row_list {α : Type} {K : Kind α} {xs : List (List α)} {x : List α} (h : Row (kList K) w F A n xs) (hk : xs[k]? = some x) : ∃ g o, ∃ l : Sl, A = some ⟨g, o, none⟩ /\ F g /\ g < w.heap.size /\ Lst K w F l x /\ w.cell? ⟨g, o + k, none⟩ = some (.slice l.A l.n l.c) := by
  obtain ⟨g, o, cs, hA, hF, hl, ⟨A', n', c', rfl, hr, hf⟩, hc⟩ := h.each k x hk
  have e : (kList K).size = 1 := rfl
  have h0 := hc 0 _ rfl
  rw [e, Nat.mul_one, Nat.add_zero] at h0
  exact ⟨g, o, ⟨A', n', c'⟩, hA, hF, hl, ⟨hr, hf⟩, h0⟩
theorem Lst.stay {α : Type} {K : Kind α} {w' : World} {s : Sl} {xs : List α} (h : Lst K w F s xs) (a : Agree F w w') : Lst K w' F s xs := ⟨h.row.stay a, h.fit⟩
theorem Lst.more {α : Type} {K : Kind α} {G : Nat -> Prop} {s : Sl} {xs : List α} (h : Lst K w F s xs) (f : ∀ b, F b -> G b) : Lst K w G s xs := ⟨h.row.more f, h.fit⟩
theorem Lst.below {α : Type} {K : Kind α} {w' : World} {B M : Nat} {s : Sl} {xs : List α} (h : Lst K w (· < M) s xs) (hb : Below B w w') (hM : M <= B) : Lst K w' (· < M) s xs := h.stay (Agree.below hb hM)
end
theorem eqL_iff {eq : α -> α -> Bool} (h : ∀ {x y}, eq x y = true ↔ x = y) : ∀ {xs ys : List α}, eqL eq xs ys = true ↔ xs = ys
  | [], [] => by simp [eqL]
  | [], _ :: _ => by simp [eqL]
  | _ :: _, [] => by simp [eqL]
  | x :: xs, y :: ys => by
    unfold eqL
    rw [Bool.and_eq_true, h, eqL_iff h, List.cons.injEq]
end Go.Proofs.YtljmddjlnlmenaaGreat.Kd
end
section
namespace Go.Proofs.YtljmddjlnlmenaaGreat.Kd
open Go.ChangeShapes Go.WideShapes Go.ChangeAt Go.RowKit Go.Deep
open Mv (Only)
open Qu (Blk)
variable {α : Type}
section
variable {K : Kind α} {w w' : World} {B E T g : Nat} {N N' : Nat -> Prop} {vs : List Value} {ls : List (List α)} {i : Nat} {v : Value} {l : List α}
end
end Go.Proofs.YtljmddjlnlmenaaGreat.Kd
end
section
namespace Go.Proofs.YtljmddjlnlmenaaGreat.Ap
open Go.ChangeShapes Go.WideShapes Go.ChangeAt Go.RowKit
open Kd (Kind RowT kInt kStr kFlag kList)
theorem int_t : RowT Tryz.prog kInt 36 3 (.int .i64 0) 1 8 :=
  ⟨Tryz.underlying36, by kernel_rfl, rfl, rfl, by omega, fun h => by
    obtain ⟨rfl, _⟩ := h
    intro u hu
    simp only [List.mem_cons, List.not_mem_nil, or_false] at hu
    subst hu; rfl⟩
theorem ints_t : RowT Tryz.prog (kList kInt) 30 36 (.slice none 0 0) 1 24 :=
  ⟨Tryz.underlying30, by kernel_rfl, rfl, rfl, by omega, fun h => by
    obtain ⟨A, n, c, rfl, _⟩ := h
    intro u hu
    simp only [List.mem_cons, List.not_mem_nil, or_false] at hu
    subst hu; rfl⟩
end Go.Proofs.YtljmddjlnlmenaaGreat.Ap
end
section
namespace Go.Proofs.YtljmddjlnlmenaaGreat.Kd
open Go.ChangeShapes Go.WideShapes Go.ChangeAt Go.RowKit Go.Deep
open Mv (Only)
open Qu (Blk)
section
variable {α : Type} {P : Program} {K : Kind α} {t e : TypeId} {z : Value} {S b : Nat}
theorem step_join (R : RowT P K t e z S b) {w1 : World} {F G : Nat -> Prop} {B n m c : Nat} {v : Value} {xs ys : List α} {A : Option Addr} {ops : Array Oper} {o : Oper} {a : Act} {KK : Act -> World -> Prop} {Q : Exit -> Act -> World -> Prop} {E : Prop} (free : o.guard = none) (s x : Operand)
    (is : o.op = .call { callee := .builtin .append, args := #[s, x], argTypes := #[t, t] }) (vs : a.eval s = v) (vx : a.eval x = .slice A m c) (hO : Own K w1 B e F v n xs) (hy : Row K w1 G A m ys) (hA : A = none -> m = 0 /\ c = 0) (hrep : ∀ {x a}, K.rep w1 G x a -> K.rep w1 F x a)
    (hn : (n + m) * b <= 140737488355328) (hn2 : n + m <= 1000000000000) (hB : B <= w1.heap.size) (hF : ∀ q, F q -> q < w1.heap.size /\ v.ownBlock ≠ some q)
    (go : ∀ v' w', Own K w' B e F v' (n + m) (xs ++ ys) -> w1.grownBy w' v.ownBlock -> Mv.Fresh w1 v.ownBlock v'.ownBlock -> KK (a.put o.dst v') w') : if Region.wanted o (yielded ops a.tmps) = true then Oper.wp P o a w1 KK Q else E := by
  have hw : Region.wanted o (yielded ops a.tmps) = true := by simp [Region.wanted, free]
  rw [if_pos hw]
  obtain ⟨v', w', hr, h2, h3, h4⟩ := run_join (P := P) R o.type w1 hO hy hA hrep hn hn2 hB hF
  unfold Oper.wp execOp
  simp only [is, resolve, invoke, builtin, Sem.run_bind, Sem.run_pure, Result.andThen_ok, List.map_toArray, List.map_cons, List.map_nil, vs, vx, hr]
  exact go v' w' h2 h3 h4
end
section
variable {u w' : World} {B n c m : Nat} {A : Option Addr} {l : List ByteArray} {v : Value}
theorem below_alloc {w u : World} (h : Below w.heap.size w u) (o : Obj) : Below w.heap.size w (u.alloc o) := h.alloc h.size o
end
end Go.Proofs.YtljmddjlnlmenaaGreat.Kd
end
section
namespace Go.Proofs.YtljmddjlnlmenaaGreat.Kd
open Go.ChangeShapes Go.WideShapes Go.ChangeAt Go.RowKit Go.Deep
open Mv (Only)
open Qu (Blk)
section
variable {α : Type} {P : Program} {K : Kind α} {t e : TypeId} {z : Value} {S b : Nat}
theorem step_push (R : RowT P K t e z S b) {W w1 : World} {F : Nat -> Prop} {B n : Nat} {v : Value} {xs : List α} {y : α} {cs : List Value} {ops : Array Oper} {o : Oper} {a : Act} {KK : Act -> World -> Prop} {Q : Exit -> Act -> World -> Prop} {E : Prop} (free : o.guard = none) (s x : Operand)
    (is : o.op = .call { callee := .builtin .append, args := #[s, x], argTypes := #[t, t] }) (hw : w1 = W.alloc (.cells cs.toArray e)) (vs : a.eval s = v) (vx : a.eval x = .slice (some ⟨W.heap.size, 0, none⟩) 1 1) (hO : Own K W B e F v n xs) (hy : K.rep W F y cs)
    (hn : (n + 1) * b <= 140737488355328) (hn2 : n + 1 <= 1000000000000) (hB : B <= W.heap.size) (hF : ∀ q, F q -> q < W.heap.size /\ v.ownBlock ≠ some q)
    (go : ∀ g cap w', Own K w' B e F (.slice (some ⟨g, 0, none⟩) (n + 1) cap) (n + 1) (xs ++ [y]) -> W.grownBy w' v.ownBlock -> (v.ownBlock = some g \/ W.heap.size <= g) -> KK (a.put o.dst (.slice (some ⟨g, 0, none⟩) (n + 1) cap)) w') : if Region.wanted o (yielded ops a.tmps) = true then Oper.wp P o a w1 KK Q else E := by
  have hwd : Region.wanted o (yielded ops a.tmps) = true := by simp [Region.wanted, free]
  rw [if_pos hwd]
  subst hw
  have agA : ∀ {G : Nat -> Prop}, (∀ q, G q -> q < W.heap.size) -> Agree G W (W.alloc (.cells cs.toArray e)) := fun f => Agree.alloc _ f
  have hO1 : Own K (W.alloc (.cells cs.toArray e)) B e F v n xs := hO.stay (agA fun q hq => (hF q hq).1) fun g hg => by
    obtain ⟨_, cs0, ho, _⟩ := hO
    exact Below.heap_alloc W _ g (ho.lt g hg).2
  have hsz : (W.alloc (.cells cs.toArray e)).heap.size = W.heap.size + 1 := by simp
  obtain ⟨g, cap, w', hr, h2, h3, h4⟩ := run_push (P := P) R (m := 1) (c := 1) o.type (W.alloc (.cells cs.toArray e)) hO1 (Cells.one (K.stay (agA fun q hq => (hF q hq).1) hy)) rfl (by omega) (ad := ⟨W.heap.size, 0, none⟩) (World.news_of_block (cs := cs.toArray) (t := e) (fr := (0, 0)) (heap_alloc_new W _)) hn hn2 (by omega) (fun q hq => ⟨by have := (hF q hq).1; omega, (hF q hq).2⟩)
  have h3' : W.grownBy w' v.ownBlock := ⟨h3.os, h3.tape, h3.output, by have := h3.size; omega, fun j hj hne => (h3.block j (by omega) hne).trans (Below.heap_alloc W _ j hj)⟩
  unfold Oper.wp execOp
  simp only [is, resolve, invoke, builtin, Sem.run_bind, Sem.run_pure, Result.andThen_ok, List.map_toArray, List.map_cons, List.map_nil, vs, vx, hr]
  exact go g cap w' h2 h3' (h4.imp id fun e => by omega)
end
theorem own_blk {α : Type} {K : Kind α} {w : World} {B E g n c : Nat} {F : Nat -> Prop} {xs : List α} {cs : List Value} {cur : Array Value} (hb : Blk w g E cur) (hB : B <= g) (hn : xs.length = n) (hc : Cells K w F xs cs) (hcap : n <= c) (hc2 : c <= maxLen) (hcur : cur.size = c * K.size) (ht : cur.toList.take (n * K.size) = cs) : Own K w B E F (.slice (some ⟨g, 0, none⟩) n c) n xs :=
  ⟨hn, cs, ⟨by rw [hc.len, hn], .inr ⟨g, c, cur, rfl, hB, hb.here, hcap, hc2, hcur, ht⟩⟩, hc⟩
end Go.Proofs.YtljmddjlnlmenaaGreat.Kd
end
section
namespace Go.Proofs.YtljmddjlnlmenaaGreat.Kd
open Go.ChangeShapes Go.WideShapes Go.ChangeAt Go.RowKit Go.Deep
variable {α : Type} {K : Kind α}
end Go.Proofs.YtljmddjlnlmenaaGreat.Kd
end
section
namespace Go.Proofs.YtljmddjlnlmenaaGreat.Ap
open Go.ChangeShapes Go.WideShapes Go.ChangeAt Go.RowKit
open Kd (Kind Row Own Cells Reads Fields Fit Agree kInt kStr kFlag kPair kVia kList Sl Lst)
structure Scp where
  skus : List ByteArray
  cats : List ByteArray
instance : Inhabited Scp := ⟨⟨[], []⟩⟩
structure Scp.Lay where
  skus : Sl
  cats : Sl
def Scp.enc (x : Scp) (l : Scp.Lay) : List Value := [.slice l.skus.A l.skus.n l.skus.c, .slice l.cats.A l.cats.n l.cats.c]
structure Scp.Holds (w : World) (F : Nat -> Prop) (x : Scp) (l : Scp.Lay) : Prop where
  skus : Lst kStr w F l.skus x.skus
  cats : Lst kStr w F l.cats x.cats
def kScp : Kind Scp := kVia (kPair (kList kStr) (kList kStr)) fun x => (x.skus, x.cats)
theorem Scp_rep {w : World} {F : Nat -> Prop} {x : Scp} {cs : List Value} : kScp.rep w F x cs ↔ ∃ l : Scp.Lay, cs = x.enc l /\ Scp.Holds w F x l := by
  constructor
  . rintro ⟨_, _, rfl, ⟨Askus, nskus, cskus, rfl, rskus, tskus⟩, ⟨Acats, ncats, ccats, rfl, rcats, tcats⟩⟩
    exact ⟨⟨⟨Askus, nskus, cskus⟩, ⟨Acats, ncats, ccats⟩⟩, rfl, ⟨⟨rskus, tskus⟩, ⟨rcats, tcats⟩⟩⟩
  . rintro ⟨l, rfl, h⟩
    exact ⟨_, _, rfl, ⟨_, _, _, rfl, h.skus.row, h.skus.fit⟩, ⟨_, _, _, rfl, h.cats.row, h.cats.fit⟩⟩
theorem reads_Scp : Reads Tryz.prog kScp 24 :=
  Reads.via (fun y => ⟨y.1, y.2⟩) (fun _ => rfl) (Reads.struct Tryz.underlying24 (by kernel_rfl) (Fields.cons (by kernel_rfl) (Reads.list Tryz.underlying22 (by kernel_rfl) (Reads.str Tryz.underlying9 (by kernel_rfl)) (by decide)) (Fields.last (by kernel_rfl) (Reads.list Tryz.underlying22 (by kernel_rfl) (Reads.str Tryz.underlying9 (by kernel_rfl)) (by decide)))))
theorem row_Scp {w : World} {F : Nat -> Prop} {A : Option Addr} {n k : Nat} {xs : List Scp} {x : Scp} (h : Row kScp w F A n xs) (hk : xs[k]? = some x) : ∃ g o, ∃ l : Scp.Lay, A = some ⟨g, o, none⟩ /\ F g /\ g < w.heap.size /\ Scp.Holds w F x l /\ w.cell? ⟨g, o + k * 2, none⟩ = some (.slice l.skus.A l.skus.n l.skus.c) /\ w.cell? ⟨g, o + k * 2 + 1, none⟩ = some (.slice l.cats.A l.cats.n l.cats.c) := by
  obtain ⟨g, o, cs, hA, hF, hl, hr, hc⟩ := h.each k x hk
  obtain ⟨l, rfl, hok⟩ := Scp_rep.1 hr
  exact ⟨g, o, l, hA, hF, hl, hok, hc 0 _ rfl, hc 1 _ rfl⟩
end Go.Proofs.YtljmddjlnlmenaaGreat.Ap
end
section
namespace Go.Proofs.YtljmddjlnlmenaaGreat.Ap
open Go.ChangeShapes Go.WideShapes Go.ChangeAt Go.RowKit
open Kd (Kind Row Own Cells Reads Fields Fit Agree kInt kStr kFlag kPair kVia kList Sl Lst)
structure Prt where
  scope : Scp
  count : Int
instance : Inhabited Prt := ⟨⟨default, 0⟩⟩
structure Prt.Lay where
  scope : Scp.Lay
def Prt.enc (x : Prt) (l : Prt.Lay) : List Value := [.slice l.scope.skus.A l.scope.skus.n l.scope.skus.c, .slice l.scope.cats.A l.scope.cats.n l.scope.cats.c, .int .i64 x.count]
structure Prt.Holds (w : World) (F : Nat -> Prop) (x : Prt) (l : Prt.Lay) : Prop where
  scope : Scp.Holds w F x.scope l.scope
  count : -9223372036854775808 <= x.count /\ x.count <= 9223372036854775807
def kPrt : Kind Prt := kVia (kPair Ap.kScp kInt) fun x => (x.scope, x.count)
theorem Prt_rep {w : World} {F : Nat -> Prop} {x : Prt} {cs : List Value} : kPrt.rep w F x cs ↔ ∃ l : Prt.Lay, cs = x.enc l /\ Prt.Holds w F x l := by
  constructor
  . rintro ⟨_, _, rfl, hscope, ⟨rfl, hcount⟩⟩
    obtain ⟨lscope, rfl, gscope⟩ := Ap.Scp_rep.1 hscope
    exact ⟨⟨lscope⟩, rfl, ⟨gscope, hcount⟩⟩
  . rintro ⟨l, rfl, h⟩
    exact ⟨_, _, rfl, Ap.Scp_rep.2 ⟨_, rfl, h.scope⟩, ⟨rfl, h.count⟩⟩
theorem reads_Prt : Reads Tryz.prog kPrt 56 :=
  Reads.via (fun y => ⟨y.1, y.2⟩) (fun _ => rfl) (Reads.struct Tryz.underlying56 (by kernel_rfl) (Fields.cons (by kernel_rfl) Ap.reads_Scp (Fields.last (by kernel_rfl) (Reads.int Tryz.underlying3 (by kernel_rfl)))))
theorem row_Prt {w : World} {F : Nat -> Prop} {A : Option Addr} {n k : Nat} {xs : List Prt} {x : Prt} (h : Row kPrt w F A n xs) (hk : xs[k]? = some x) : ∃ g o, ∃ l : Prt.Lay, A = some ⟨g, o, none⟩ /\ F g /\ g < w.heap.size /\ Prt.Holds w F x l /\ w.cell? ⟨g, o + k * 3, none⟩ = some (.slice l.scope.skus.A l.scope.skus.n l.scope.skus.c) /\ w.cell? ⟨g, o + k * 3 + 1, none⟩ = some (.slice l.scope.cats.A l.scope.cats.n l.scope.cats.c) /\ w.cell? ⟨g, o + k * 3 + 2, none⟩ = some (.int .i64 x.count) := by
  obtain ⟨g, o, cs, hA, hF, hl, hr, hc⟩ := h.each k x hk
  obtain ⟨l, rfl, hok⟩ := Prt_rep.1 hr
  exact ⟨g, o, l, hA, hF, hl, hok, hc 0 _ rfl, hc 1 _ rfl, hc 2 _ rfl⟩
structure Tir where
  least : Int
  rate : Int
  amount : Int
instance : Inhabited Tir := ⟨⟨0, 0, 0⟩⟩
def Tir.enc (x : Tir) : List Value := [.int .i64 x.least, .int .i64 x.rate, .int .i64 x.amount]
structure Tir.ok (x : Tir) : Prop where
  least : -9223372036854775808 <= x.least /\ x.least <= 9223372036854775807
  rate : -9223372036854775808 <= x.rate /\ x.rate <= 9223372036854775807
  amount : -9223372036854775808 <= x.amount /\ x.amount <= 9223372036854775807
def kTir : Kind Tir := kVia (kPair kInt (kPair kInt kInt)) fun x => (x.least, x.rate, x.amount)
theorem Tir_rep {w : World} {F : Nat -> Prop} {x : Tir} {cs : List Value} : kTir.rep w F x cs ↔ cs = x.enc /\ x.ok := by
  constructor
  . rintro ⟨_, _, rfl, ⟨rfl, hleast⟩, ⟨_, _, rfl, ⟨rfl, hrate⟩, ⟨rfl, hamount⟩⟩⟩
    exact ⟨rfl, ⟨hleast, hrate, hamount⟩⟩
  . rintro ⟨rfl, h⟩
    exact ⟨_, _, rfl, ⟨rfl, h.least⟩, ⟨_, _, rfl, ⟨rfl, h.rate⟩, ⟨rfl, h.amount⟩⟩⟩
theorem reads_Tir : Reads Tryz.prog kTir 124 :=
  Reads.via (fun y => ⟨y.1, y.2.1, y.2.2⟩) (fun _ => rfl) (Reads.struct Tryz.underlying124 (by kernel_rfl) (Fields.cons (by kernel_rfl) (Reads.int Tryz.underlying2 (by kernel_rfl)) (Fields.cons (by kernel_rfl) (Reads.int Tryz.underlying2 (by kernel_rfl)) (Fields.last (by kernel_rfl) (Reads.int Tryz.underlying2 (by kernel_rfl))))))
theorem row_Tir {w : World} {F : Nat -> Prop} {A : Option Addr} {n k : Nat} {xs : List Tir} {x : Tir} (h : Row kTir w F A n xs) (hk : xs[k]? = some x) : ∃ g o, A = some ⟨g, o, none⟩ /\ F g /\ g < w.heap.size /\ x.ok /\ w.cell? ⟨g, o + k * 3, none⟩ = some (.int .i64 x.least) /\ w.cell? ⟨g, o + k * 3 + 1, none⟩ = some (.int .i64 x.rate) /\ w.cell? ⟨g, o + k * 3 + 2, none⟩ = some (.int .i64 x.amount) := by
  obtain ⟨g, o, cs, hA, hF, hl, hr, hc⟩ := h.each k x hk
  obtain ⟨rfl, hok⟩ := Tir_rep.1 hr
  exact ⟨g, o, hA, hF, hl, hok, hc 0 _ rfl, hc 1 _ rfl, hc 2 _ rfl⟩
structure Prm where
  id : ByteArray
  kind : Int
  priority : Int
  group : ByteArray
  code : ByteArray
  closes : Bool
  scope : Scp
  least : Int
  rate : Int
  amount : Int
  buy : Int
  get : Int
  parts : List Prt
  tiers : List Tir
instance : Inhabited Prm := ⟨⟨⟨#[]⟩, 0, 0, ⟨#[]⟩, ⟨#[]⟩, false, default, 0, 0, 0, 0, 0, [], []⟩⟩
structure Prm.Lay where
  scope : Scp.Lay
  parts : Sl
  tiers : Sl
def Prm.enc (x : Prm) (l : Prm.Lay) : List Value := [.string x.id, .int .i64 x.kind, .int .i64 x.priority, .string x.group, .string x.code, .bool x.closes, .slice l.scope.skus.A l.scope.skus.n l.scope.skus.c, .slice l.scope.cats.A l.scope.cats.n l.scope.cats.c, .int .i64 x.least, .int .i64 x.rate, .int .i64 x.amount, .int .i64 x.buy, .int .i64 x.get, .slice l.parts.A l.parts.n l.parts.c, .slice l.tiers.A l.tiers.n l.tiers.c]
structure Prm.Holds (w : World) (F : Nat -> Prop) (x : Prm) (l : Prm.Lay) : Prop where
  id : x.id.size <= maxLen
  kind : -9223372036854775808 <= x.kind /\ x.kind <= 9223372036854775807
  priority : -9223372036854775808 <= x.priority /\ x.priority <= 9223372036854775807
  group : x.group.size <= maxLen
  code : x.code.size <= maxLen
  scope : Scp.Holds w F x.scope l.scope
  least : -9223372036854775808 <= x.least /\ x.least <= 9223372036854775807
  rate : -9223372036854775808 <= x.rate /\ x.rate <= 9223372036854775807
  amount : -9223372036854775808 <= x.amount /\ x.amount <= 9223372036854775807
  buy : -9223372036854775808 <= x.buy /\ x.buy <= 9223372036854775807
  get : -9223372036854775808 <= x.get /\ x.get <= 9223372036854775807
  parts : Lst kPrt w F l.parts x.parts
  tiers : Lst kTir w F l.tiers x.tiers
def kPrm : Kind Prm := kVia (kPair kStr (kPair kInt (kPair kInt (kPair kStr (kPair kStr (kPair kFlag (kPair Ap.kScp (kPair kInt (kPair kInt (kPair kInt (kPair kInt (kPair kInt (kPair (kList kPrt) (kList kTir)))))))))))))) fun x => (x.id, x.kind, x.priority, x.group, x.code, x.closes, x.scope, x.least, x.rate, x.amount, x.buy, x.get, x.parts, x.tiers)
theorem Prm_rep {w : World} {F : Nat -> Prop} {x : Prm} {cs : List Value} : kPrm.rep w F x cs ↔ ∃ l : Prm.Lay, cs = x.enc l /\ Prm.Holds w F x l := by
  constructor
  . rintro ⟨_, _, rfl, ⟨rfl, hid⟩, ⟨_, _, rfl, ⟨rfl, hkind⟩, ⟨_, _, rfl, ⟨rfl, hpriority⟩, ⟨_, _, rfl, ⟨rfl, hgroup⟩, ⟨_, _, rfl, ⟨rfl, hcode⟩, ⟨_, _, rfl, rfl, ⟨_, _, rfl, hscope, ⟨_, _, rfl, ⟨rfl, hleast⟩, ⟨_, _, rfl, ⟨rfl, hrate⟩, ⟨_, _, rfl, ⟨rfl, hamount⟩, ⟨_, _, rfl, ⟨rfl, hbuy⟩, ⟨_, _, rfl, ⟨rfl, hget⟩, ⟨_, _, rfl, ⟨Aparts, nparts, cparts, rfl, rparts, tparts⟩, ⟨Atiers, ntiers, ctiers, rfl, rtiers, ttiers⟩⟩⟩⟩⟩⟩⟩⟩⟩⟩⟩⟩⟩⟩
    obtain ⟨lscope, rfl, gscope⟩ := Ap.Scp_rep.1 hscope
    exact ⟨⟨lscope, ⟨Aparts, nparts, cparts⟩, ⟨Atiers, ntiers, ctiers⟩⟩, rfl, ⟨hid, hkind, hpriority, hgroup, hcode, gscope, hleast, hrate, hamount, hbuy, hget, ⟨rparts, tparts⟩, ⟨rtiers, ttiers⟩⟩⟩
  . rintro ⟨l, rfl, h⟩
    exact ⟨_, _, rfl, ⟨rfl, h.id⟩, ⟨_, _, rfl, ⟨rfl, h.kind⟩, ⟨_, _, rfl, ⟨rfl, h.priority⟩, ⟨_, _, rfl, ⟨rfl, h.group⟩, ⟨_, _, rfl, ⟨rfl, h.code⟩, ⟨_, _, rfl, rfl, ⟨_, _, rfl, Ap.Scp_rep.2 ⟨_, rfl, h.scope⟩, ⟨_, _, rfl, ⟨rfl, h.least⟩, ⟨_, _, rfl, ⟨rfl, h.rate⟩, ⟨_, _, rfl, ⟨rfl, h.amount⟩, ⟨_, _, rfl, ⟨rfl, h.buy⟩, ⟨_, _, rfl, ⟨rfl, h.get⟩, ⟨_, _, rfl, ⟨_, _, _, rfl, h.parts.row, h.parts.fit⟩, ⟨_, _, _, rfl, h.tiers.row, h.tiers.fit⟩⟩⟩⟩⟩⟩⟩⟩⟩⟩⟩⟩⟩⟩
theorem reads_Prm : Reads Tryz.prog kPrm 28 :=
  Reads.via (fun y => ⟨y.1, y.2.1, y.2.2.1, y.2.2.2.1, y.2.2.2.2.1, y.2.2.2.2.2.1, y.2.2.2.2.2.2.1, y.2.2.2.2.2.2.2.1, y.2.2.2.2.2.2.2.2.1, y.2.2.2.2.2.2.2.2.2.1, y.2.2.2.2.2.2.2.2.2.2.1, y.2.2.2.2.2.2.2.2.2.2.2.1, y.2.2.2.2.2.2.2.2.2.2.2.2.1, y.2.2.2.2.2.2.2.2.2.2.2.2.2⟩) (fun _ => rfl) (Reads.struct Tryz.underlying28 (by kernel_rfl) (Fields.cons (by kernel_rfl) (Reads.str Tryz.underlying9 (by kernel_rfl)) (Fields.cons (by kernel_rfl) (Reads.int Tryz.underlying3 (by kernel_rfl)) (Fields.cons (by kernel_rfl) (Reads.int Tryz.underlying3 (by kernel_rfl)) (Fields.cons (by kernel_rfl) (Reads.str Tryz.underlying9 (by kernel_rfl)) (Fields.cons (by kernel_rfl) (Reads.str Tryz.underlying9 (by kernel_rfl)) (Fields.cons (by kernel_rfl) (Reads.flag Tryz.underlying4 (by kernel_rfl)) (Fields.cons (by kernel_rfl) Ap.reads_Scp (Fields.cons (by kernel_rfl) (Reads.int Tryz.underlying2 (by kernel_rfl)) (Fields.cons (by kernel_rfl) (Reads.int Tryz.underlying2 (by kernel_rfl)) (Fields.cons (by kernel_rfl) (Reads.int Tryz.underlying2 (by kernel_rfl)) (Fields.cons (by kernel_rfl) (Reads.int Tryz.underlying3 (by kernel_rfl)) (Fields.cons (by kernel_rfl) (Reads.int Tryz.underlying3 (by kernel_rfl)) (Fields.cons (by kernel_rfl) (Reads.list Tryz.underlying25 (by kernel_rfl) reads_Prt (by decide)) (Fields.last (by kernel_rfl) (Reads.list Tryz.underlying26 (by kernel_rfl) reads_Tir (by decide)))))))))))))))))
theorem row_Prm {w : World} {F : Nat -> Prop} {A : Option Addr} {n k : Nat} {xs : List Prm} {x : Prm} (h : Row kPrm w F A n xs) (hk : xs[k]? = some x) : ∃ g o, ∃ l : Prm.Lay, A = some ⟨g, o, none⟩ /\ F g /\ g < w.heap.size /\ Prm.Holds w F x l /\ w.cell? ⟨g, o + k * 15, none⟩ = some (.string x.id) /\ w.cell? ⟨g, o + k * 15 + 1, none⟩ = some (.int .i64 x.kind) /\ w.cell? ⟨g, o + k * 15 + 2, none⟩ = some (.int .i64 x.priority) /\ w.cell? ⟨g, o + k * 15 + 3, none⟩ = some (.string x.group) /\ w.cell? ⟨g, o + k * 15 + 4, none⟩ = some (.string x.code) /\ w.cell? ⟨g, o + k * 15 + 5, none⟩ = some (.bool x.closes) /\ w.cell? ⟨g, o + k * 15 + 6, none⟩ = some (.slice l.scope.skus.A l.scope.skus.n l.scope.skus.c) /\ w.cell? ⟨g, o + k * 15 + 7, none⟩ = some (.slice l.scope.cats.A l.scope.cats.n l.scope.cats.c) /\ w.cell? ⟨g, o + k * 15 + 8, none⟩ = some (.int .i64 x.least) /\ w.cell? ⟨g, o + k * 15 + 9, none⟩ = some (.int .i64 x.rate) /\ w.cell? ⟨g, o + k * 15 + 10, none⟩ = some (.int .i64 x.amount) /\ w.cell? ⟨g, o + k * 15 + 11, none⟩ = some (.int .i64 x.buy) /\ w.cell? ⟨g, o + k * 15 + 12, none⟩ = some (.int .i64 x.get) /\ w.cell? ⟨g, o + k * 15 + 13, none⟩ = some (.slice l.parts.A l.parts.n l.parts.c) /\ w.cell? ⟨g, o + k * 15 + 14, none⟩ = some (.slice l.tiers.A l.tiers.n l.tiers.c) := by
  obtain ⟨g, o, cs, hA, hF, hl, hr, hc⟩ := h.each k x hk
  obtain ⟨l, rfl, hok⟩ := Prm_rep.1 hr
  exact ⟨g, o, l, hA, hF, hl, hok, hc 0 _ rfl, hc 1 _ rfl, hc 2 _ rfl, hc 3 _ rfl, hc 4 _ rfl, hc 5 _ rfl, hc 6 _ rfl, hc 7 _ rfl, hc 8 _ rfl, hc 9 _ rfl, hc 10 _ rfl, hc 11 _ rfl, hc 12 _ rfl, hc 13 _ rfl, hc 14 _ rfl⟩
end Go.Proofs.YtljmddjlnlmenaaGreat.Ap
end
section
namespace Go.Proofs.YtljmddjlnlmenaaGreat.Ap
open Go.ChangeShapes Go.WideShapes Go.ChangeAt Go.RowKit
open Kd (Kind RowT kInt kStr kFlag kList)
end Go.Proofs.YtljmddjlnlmenaaGreat.Ap
end
