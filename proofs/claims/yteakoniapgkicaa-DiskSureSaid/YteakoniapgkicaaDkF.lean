/- The document's disk: Copy. -/
import Derived.Test.YteakoniapgkicaaDkN
import Derived.Deep.AppendLies
namespace Go.Proofs.Yteakoniapgkicaa.Dk
open Go.ChangeShapes Go.WideShapes Go.ChangeAt Go.RowKit
open Qu (Blk)
open Mv (Only)
open Se (All64 blanks Rows64 noughts noughts_len)
open By (cellsB cellsB_length cellsB_at)
set_option linter.unusedVariables false

theorem below_then {a b c : World} (h : Below a.heap.size a b) (k : Below b.heap.size b c) : Below a.heap.size a c := h.trans (k.mono h.size)

/-- A copy of a row of sectors, at a step of a region that draws. -/
theorem step_secs {w : World} {ops : Array Oper} {o : Oper} {a : Act} {K : Act → World → Prop} {Q : Exit → Act → World → Prop} {E : Prop} (free : o.guard = none) (s x : Operand)
    (is : o.op = .call { callee := .builtin .append, args := #[s, x], argTypes := #[54, 54] })
    (B BASE g n cap : Nat) (l : List (List UInt8)) (vs : a.eval s = .slice none 0 0) (vx : a.eval x = .slice (some ⟨g, 0, none⟩) n cap) (h : Rows64 w B 42 g n cap l) (n0 : 0 < n) (hn : n ≤ 1000000) (low : BASE ≤ w.heap.size)
    (go : ∀ g' cap' w', Rows64 w' BASE 42 g' n cap' l → Below w.heap.size w w' → g' = w.heap.size → g' < w'.heap.size → K (a.put o.dst (.slice (some ⟨g', 0, none⟩) n cap')) w') :
    if Region.wanted o (yielded ops a.tmps) = true then Oper.wp Try.prog o a w K Q else E := by
  obtain ⟨i0, hi0, hz0, hz1, hz2⟩ := info_parts info_sector
  refine step_append_lies w free s x _ is BASE 42 i0 _ 64 64 Try.underlying54 hi0 hz0 hz1 hz2 (by show (secCells noughts).size = 64; rw [secCells_size, noughts_len]) (by omega) (.slice none 0 0) 0 [] vs (World.ownsRow_nil _ _ _ _)
    ⟨g, 0, none⟩ n cap (cellsB l.flatten) vx h.2.1 (h.2.cells rfl) (By.cellsB_one _) n0 (by unfold maxLen; omega) (by omega) low w.heap.size rfl ?_
  intro g' cap' w' h1 h2 h3 h4
  simp only [Nat.zero_add, List.nil_append] at h1 ⊢
  refine go g' cap' w' ⟨h.1, h1⟩ ((Mv.Only.ofGrown h2 fun k hk => by cases hk).toBelow (S := fun _ => False) (Nat.le_refl _) (fun _ _ h => h)) ?_ h4
  rcases h3 with h3 | h3
  · cases h3
  · exact h3

/-- A copy of a row of flags. -/
theorem step_flags {w : World} {ops : Array Oper} {o : Oper} {a : Act} {K : Act → World → Prop} {Q : Exit → Act → World → Prop} {E : Prop} (free : o.guard = none) (s x : Operand)
    (is : o.op = .call { callee := .builtin .append, args := #[s, x], argTypes := #[49, 49] })
    (B BASE g n cap : Nat) (l : List Bool) (vs : a.eval s = .slice none 0 0) (vx : a.eval x = .slice (some ⟨g, 0, none⟩) n cap) (h : Bools w B g n cap l) (n0 : 0 < n) (hn : n ≤ 1000000) (low : BASE ≤ w.heap.size)
    (go : ∀ g' cap' w', Bools w' BASE g' n cap' l → Below w.heap.size w w' → g' = w.heap.size → g' < w'.heap.size → K (a.put o.dst (.slice (some ⟨g', 0, none⟩) n cap')) w') :
    if Region.wanted o (yielded ops a.tmps) = true then Oper.wp Try.prog o a w K Q else E := by
  obtain ⟨i0, hi0, hz0, hz1, hz2⟩ := info_parts info_bool
  refine step_append_lies w free s x _ is BASE 4 i0 _ 1 1 Try.underlying49 hi0 hz0 hz1 hz2 rfl (by omega) (.slice none 0 0) 0 [] vs (World.ownsRow_nil _ _ _ _)
    ⟨g, 0, none⟩ n cap (l.map Value.bool) vx h.1 (World.ownsRow.cells h rfl) (by intro u hu; obtain ⟨b, _, rfl⟩ := List.mem_map.1 hu; rfl) n0 (by unfold maxLen; omega) (by omega) low w.heap.size rfl ?_
  intro g' cap' w' h1 h2 h3 h4
  simp only [Nat.zero_add, List.nil_append] at h1 ⊢
  refine go g' cap' w' h1 ((Mv.Only.ofGrown h2 fun k hk => by cases hk).toBelow (S := fun _ => False) (Nat.le_refl _) (fun _ _ h => h)) ?_ h4
  rcases h3 with h3 | h3
  · cases h3
  · exact h3

/-- What Copy answers. -/
def CopyD (w : World) (d : DS) (e : Ending) (w' : World) : Prop := ∃ p : Place, e = .returned (.pointer (some ⟨p.x, 0, none⟩)) ∧ RefAt w' w.heap.size p d ∧ (∀ k, p.has k → w.heap.size ≤ k) ∧ Below w.heap.size w w'

/-- Three rows that were laid one behind the other, in whatever order, and a box: such a disk. -/
theorem copy_end {w W : World} {d : DS} (hd : d.Ok) {ga gb gc ca cb cc : Nat} (ha : Rows64 W w.heap.size 42 ga d.n ca d.now) (hb : Rows64 W w.heap.size 42 gb d.n cb d.sure) (hc : Bools W w.heap.size gc d.n cc d.loose)
    (hw : Below w.heap.size w W) (hne : ga ≠ gb) (g1 : w.heap.size ≤ ga) (g2 : w.heap.size ≤ gb) (g3 : w.heap.size ≤ gc) {off : Bool} (ho : d.off = off) {armed : Int} (hm : (d.armed : Int) = armed) :
    CopyD w d (.returned (.pointer (some ⟨W.heap.size, 0, none⟩))) (W.alloc (.cells #[.slice (some ⟨ga, 0, none⟩) d.n ca, .slice (some ⟨gb, 0, none⟩) d.n cb, .slice (some ⟨gc, 0, none⟩) d.n cc, .bool off, .int .i64 armed] 58)) := by
  subst ho hm
  have hal : Below W.heap.size W (W.alloc (.cells #[.slice (some ⟨ga, 0, none⟩) d.n ca, .slice (some ⟨gb, 0, none⟩) d.n cb, .slice (some ⟨gc, 0, none⟩) d.n cc, .bool d.off, .int .i64 (d.armed : Int)] 58)) := (Below.refl _ _).alloc (Nat.le_refl _) _
  have ho := Mv.Only.ofBelow hal fun _ => False
  refine ⟨⟨W.heap.size, ga, gb, gc, ca, cb, cc⟩, rfl, ⟨hd, hw.size, ⟨heap_alloc_new _ _⟩, ha.only ho fun h => h, hb.only ho fun h => h, Mv.own_only hc ho fun _ _ h => h, hne⟩, fun k hk => ?_, below_then hw hal⟩
  rcases hk with hk | hk | hk | hk <;> rw [hk] <;> dsimp only
  · exact hw.size
  · exact g1
  · exact g2
  · exact g3

/-- A fact of a row holds on, where new memory alone is made. -/
theorem rows_on {w w' : World} {B E g n cap : Nat} {l : List (List UInt8)} (h : Rows64 w B E g n cap l) (k : Below w.heap.size w w') : Rows64 w' B E g n cap l := h.only (Mv.Only.ofBelow k fun _ => False) fun h => h

theorem bools_on {w w' : World} {B g n cap : Nat} {l : List Bool} (h : Bools w B g n cap l) (k : Below w.heap.size w w') : Bools w' B g n cap l := Mv.own_only h (Mv.Only.ofBelow k fun _ => False) fun _ _ h => h

theorem keep_copy {w W : World} {p : Place} {d : DS} {off : Bool} {ar : Int} (hx : p.x < w.heap.size)
    (h : w.cell? ⟨p.x, 0, none⟩ = some (.slice (some ⟨p.a, 0, none⟩) d.n p.ca) ∧ w.cell? ⟨p.x, 1, none⟩ = some (.slice (some ⟨p.b, 0, none⟩) d.n p.cb) ∧ w.cell? ⟨p.x, 2, none⟩ = some (.slice (some ⟨p.c, 0, none⟩) d.n p.cc) ∧ w.cell? ⟨p.x, 3, none⟩ = some (.bool off) ∧ w.cell? ⟨p.x, 4, none⟩ = some (.int .i64 ar))
    (hb : Below w.heap.size w W) : W.cell? ⟨p.x, 0, none⟩ = some (.slice (some ⟨p.a, 0, none⟩) d.n p.ca) ∧ W.cell? ⟨p.x, 1, none⟩ = some (.slice (some ⟨p.b, 0, none⟩) d.n p.cb) ∧ W.cell? ⟨p.x, 2, none⟩ = some (.slice (some ⟨p.c, 0, none⟩) d.n p.cc) ∧ W.cell? ⟨p.x, 3, none⟩ = some (.bool off) ∧ W.cell? ⟨p.x, 4, none⟩ = some (.int .i64 ar) ∧ Below w.heap.size w W := by
  have e : ∀ k, W.cell? ⟨p.x, k, none⟩ = w.cell? ⟨p.x, k, none⟩ := fun k => hb.cell (p := ⟨p.x, k, none⟩) hx
  obtain ⟨h0, h1, h2, h3, h4⟩ := h
  exact ⟨(e 0).trans h0, (e 1).trans h1, (e 2).trans h2, (e 3).trans h3, (e 4).trans h4, hb⟩

theorem rcopy_any (w : World) (B : Nat) (p : Place) (d : DS) (h : RefAt w B p d) (n0 : 0 < d.n) (hn : d.n ≤ 1000000) :
    Calls Try.prog 12 #[.pointer (some ⟨p.x, 0, none⟩)] w (CopyD w d) := by
  have c0 := h.box.cell 0
  have c1 := h.box.cell 1
  have c2 := h.box.cell 2
  have c3 := h.box.cell 3
  have c4 := h.box.cell 4
  simp at c0 c1 c2 c3 c4
  have hx := h.box.lt
  have HR := Lib.hid h
  have hB0 := Below.refl w.heap.size w
  obtain ⟨off, hoff⟩ : ∃ o, d.off = o := ⟨_, rfl⟩
  obtain ⟨ar, har⟩ : ∃ o, (d.armed : Int) = o := ⟨_, rfl⟩
  rw [hoff] at c3
  rw [har] at c4
  have HE := Lib.hid (And.intro hoff har)
  have HC := Lib.hid (And.intro c0 (And.intro c1 (And.intro c2 (And.intro c3 c4))))
  clear c0 c1 c2 c3 c4
  clear h hoff har
  go_enter Try.func12, Try.ntmps12
  go_wp2_with fail
  go_region_held3 (fun w' => w'.cell? ⟨p.x, 0, none⟩ = some (.slice (some ⟨p.a, 0, none⟩) d.n p.ca) ∧ w'.cell? ⟨p.x, 1, none⟩ = some (.slice (some ⟨p.b, 0, none⟩) d.n p.cb) ∧ w'.cell? ⟨p.x, 2, none⟩ = some (.slice (some ⟨p.c, 0, none⟩) d.n p.cc) ∧ w'.cell? ⟨p.x, 3, none⟩ = some (.bool off) ∧ w'.cell? ⟨p.x, 4, none⟩ = some (.int .i64 ar) ∧ Below w.heap.size w w')
    (first
      | exact keep_copy hx HC.out hB0.drew
      | (go_split_ands; exact keep_copy hx HC.out (below_then (by assumption) kA))
      | (go_split_ands; exact keep_copy hx HC.out (below_then (by assumption) kB))
      | (go_split_ands; exact keep_copy hx HC.out (below_then (by assumption) kC))
      | (go_split_ands; exact keep_copy hx HC.out (Below.alloc (by assumption) (Below.size (by assumption)) _)))
    (first
      | ((refine step_secs (o := ⟨some 7, _, _, _, _, _⟩) rfl _ _ rfl B w.heap.size p.a d.n p.ca d.now rfl rfl ?_ n0 hn ?_ ?_); (next => (go_split_ands; exact rows_on HR.out.now (by assumption))); (next => (go_split_ands; exact Below.size (w := w) (by assumption))); (intro ga ca wa ha kA eA lA))
      | ((refine step_secs (o := ⟨some 12, _, _, _, _, _⟩) rfl _ _ rfl B w.heap.size p.b d.n p.cb d.sure rfl rfl ?_ n0 hn ?_ ?_); (next => (go_split_ands; exact rows_on HR.out.sure (by assumption))); (next => (go_split_ands; exact Below.size (w := w) (by assumption))); (intro gb cb wb hb kB eB lB))
      | ((refine step_flags (o := ⟨some 17, _, _, _, _, _⟩) rfl _ _ rfl B w.heap.size p.c d.n p.cc d.loose rfl rfl ?_ n0 hn ?_ ?_); (next => (go_split_ands; exact bools_on HR.out.loose (by assumption))); (next => (go_split_ands; exact Below.size (w := w) (by assumption))); (intro gc cc wc hc kC eC lC)))
  unfold Exit.then
  dsimp only
  go_wp2_with fail
  go_ret
  have h1 : Below w.heap.size w wa := below_then hB0.drew kA
  have h2 := below_then h1 kB
  have h3 := below_then h2 kC
  have s1 := h1.size
  have s2 := h2.size
  subst eA eB eC
  have s3 : w.heap.size < wa.heap.size := lA
  exact copy_end HR.out.ok (rows_on ha (below_then kB kC)) (rows_on hb kC) hc h3 (by show w.heap.size ≠ wa.heap.size; omega) (Nat.le_refl _) s1 s2 HE.out.1 HE.out.2

end Go.Proofs.Yteakoniapgkicaa.Dk
