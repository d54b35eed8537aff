/- Law 09: alike. -/
import Derived.Test.YtedgookkogpfbaaVqB
set_option maxRecDepth 100000
namespace Go.Proofs.Ytedgookkogpfbaa.Vq
open Go.ChangeShapes Go.WideShapes Go.ChangeAt Go.RowKit
open Qu (Blk)
open Mv (Only Fresh)
open By (Own8 Bys cellsB cellsB_length)
open Dk (DS dsNew crashD startD armD writeD writeE RefAt secCells)
open Dd (Lay At Tidy Pl)
open Jr (JS Recd JHas Fit newE blankJ openJ addE addDS addJ stopE needN blk_blk_ne own_own_ne ownBlock_any)
open Vt
open Vl (VA VAE OpenE BaseE RowsE VHas box_far)
open Vr (RV RVE ROpenE)
set_option linter.unusedVariables false

set_option maxHeartbeats 4000000 in
theorem alike_any {w wr : World} {o : Option (Nat × Array Value)} {q : Pl} {p : Dk.Place} {d1 d2 : DS} {x x2 : Nat} {v : VS} (h : St w wr o q p (Option.some (x, v)) (Option.some (x2, v)) d1 d2) :
    Calls Try.prog 26 #[.pointer (some ⟨x, 0, none⟩), .pointer (some ⟨x2, 0, none⟩)] wr fun e w' => e = .returned (.bool true) ∧ Below wr.heap.size wr w' := by
  obtain ⟨A, A2, h1, h2, h3, h4, h5⟩ := h.some
  obtain ⟨y, c, vs, hL⟩ := h3 x v rfl
  obtain ⟨y2, c2, vs2, hR⟩ := h4 x2 v rfl
  have hf := h.fit1 x v rfl
  have hlen : v.j.l.length ≤ 1000000 := by have := hf.fit.len; have := hf.fit.used; have := hf.fit.room; have := hf.fit.dn; omega
  have hdn := hf.fit.dn
  have hbs : ∀ b ∈ v.j.l, b.length ≤ 1000000000000 := fun b hb => by have := hf.fit.each b hb; have := hf.fit.room; omega
  have hone := hf.one
  obtain ⟨b0, hb0⟩ : ∃ b0, v.j.l[0]? = some b0 := ⟨_, List.getElem?_eq_getElem (by omega)⟩
  have hm0 : b0 ∈ v.j.l := List.mem_of_getElem? hb0
  have hb1 := hf.each b0 hm0
  have HC : Hid (∀ u, Below wr.heap.size wr u → u.cell? ⟨x2, 1, none⟩ = some (.pointer (some ⟨y2, 0, none⟩)) ∧ u.cell? ⟨x2, 2, none⟩ = some (.int .i64 (v.half : Int)) ∧ u.cell? ⟨y2, 6, none⟩ = some (.int .i64 (v.j.used : Int)) ∧ Below wr.heap.size wr u) := Lib.hid (fun u hu => by
    have hb := (hR.below hu).box
    have hj := (hR.below hu).jat.box
    exact ⟨hb.cell 1, hb.cell 2, by have := hj.cell 6; simpa using this, hu⟩)
  have HBA := Lib.hid (fun u (hu : Below wr.heap.size wr u) => Vl.base_any (hL.below hu) hb0 hb1 hlen hbs)
  have HRB := Lib.hid (fun u (hu : Below wr.heap.size wr u) => Vr.rbase_any (hR.below hu) hb0 hb1 (hbs b0 hm0) hlen)
  have HRE := Lib.hid (fun u (hu : Below wr.heap.size wr u) => Vl.records_any (hL.below hu) hone hlen hbs)
  have HRR := Lib.hid (fun u (hu : Below wr.heap.size wr u) => Vr.rrecs_any (hR.below hu) hone hlen)
  have HHA := Lib.hid (fun u (hu : Below wr.heap.size wr u) => Vl.half_any (hL.below hu))
  have HUS := Lib.hid (fun u (hu : Below wr.heap.size wr u) => Vl.used_any (hL.below hu))
  have hlt : v.j.l.tail.length ≤ 1000000 := by rw [List.length_tail]; omega
  generalize hT : b0.tail = T at *
  generalize hLT : v.j.l.tail = L at *
  have HBY : Hid (∀ (u : World) (A A' : Option Addr) (c c' : Nat), Bys u u.heap.size A T.length T → Bys u u.heap.size A' T.length T → Calls Try.prog 28 #[.slice A T.length c, .slice A' T.length c'] u fun e w' => e = .returned (.bool true) ∧ w' = u) := Lib.hid (fun u A A' c c' h h' => by
    have hh := By.bytes_any A A' T.length T.length c c' u.heap.size T T u h h'
    rw [beq_self_eq_true] at hh
    exact hh.mono fun e w' ⟨he, hd⟩ => ⟨he, hd.symm⟩)
  have HRW : Hid (∀ (u : World) (A A' : Option Addr) (c c' : Nat), Hr.Rws u u.heap.size A L.length L → Hr.Rws u u.heap.size A' L.length L → Calls Try.prog 30 #[.slice A L.length c, .slice A' L.length c'] u fun e w' => e = .returned (.bool true) ∧ Below u.heap.size u w') := Lib.hid (fun u A A' c c' h h' => by
    have hh := Hr.rows_any A A' L.length L.length c c' L L u.heap.size u h h' (by unfold maxLen; omega) (by unfold maxLen; omega)
    rw [beq_self_eq_true] at hh
    exact hh.mono fun e w' ⟨he, hd⟩ => ⟨he, hd.below _⟩)
  have z1 : ((v.half : Int) == (v.half : Int)) = true := beq_self_eq_true _
  have z2 : ((v.j.used : Int) == (v.j.used : Int)) = true := beq_self_eq_true _
  generalize (v.half : Int) = hf0 at *
  generalize (v.j.used : Int) = us0 at *
  clear h h1 h2 h3 h4 h5 hL hR hf hlen hbs hone hb0 hm0 hb1 hlt hT hLT hdn
  go_enter Try.func26, Try.ntmps26
  go_wp2_with fail
  go_region_held3 (fun u => u.cell? ⟨x2, 1, none⟩ = some (.pointer (some ⟨y2, 0, none⟩)) ∧ u.cell? ⟨x2, 2, none⟩ = some (.int .i64 hf0) ∧ u.cell? ⟨y2, 6, none⟩ = some (.int .i64 us0) ∧ Below wr.heap.size wr u)
    (first
      | exact HC.out _ (Below.refl _ _).drew
      | (go_split_ands; exact HC.out _ (Dk.below_then (by assumption) kq))
      | (go_split_ands; exact HC.out _ (Dk.below_then (by assumption) kr))
      | (go_split_ands; exact HC.out _ (Dk.below_then (by assumption) kw))
      | (go_split_ands; exact ⟨by assumption, by assumption, by assumption, by assumption⟩))
    (first
      | (go_at_call 29; ((with_reducible refine (HBA.out _ (by go_split_ands; assumption)).mono ?_); rintro r wq ⟨A', c', rfl, hy1, hc1, kq⟩))
      | (go_at_call 54; ((with_reducible refine (HRB.out _ (by go_split_ands; assumption)).mono ?_); rintro r w8 ⟨A'', c'', rfl, hy2, hc2, hw⟩; rw [hw]; clear hw w8))
      | (go_at_call 28; ((with_reducible refine (HBY.out wq A' A'' c' c'' hy1 hy2).mono ?_); rintro r w8 ⟨rfl, hw⟩; rw [hw]; clear hw w8))
      | (go_at_call 31; ((with_reducible refine (HRE.out _ (by go_split_ands; assumption)).mono ?_); rintro r wx ⟨A3, c3, rfl, hr1, hc3, kr⟩))
      | (go_at_call 55; ((with_reducible refine (HRR.out _ (by go_split_ands; assumption)).mono ?_); rintro r w8 ⟨A4, c4, rfl, hr2, hc4, hw⟩; rw [hw]; clear hw w8))
      | (go_at_call 30; ((with_reducible refine (HRW.out wx A3 A4 c3 c4 hr1 hr2).mono ?_); rintro r ww ⟨rfl, kw⟩))
      | (go_at_call 32; ((with_reducible refine (HHA.out _ (by go_split_ands; assumption)).mono ?_); rintro r w8 ⟨rfl, hw⟩; rw [hw]; clear hw w8))
      | (go_at_call 33; ((with_reducible refine (HUS.out _ (by go_split_ands; assumption)).mono ?_); rintro r w8 ⟨rfl, hw⟩; rw [hw]; clear hw w8)))
  unfold Exit.then
  dsimp only
  go_wp2_with fail
  go_ret
  exact ⟨rfl, Dk.below_then (Dk.below_then (Dk.below_then (Below.refl _ _).drew kq) kr) kw⟩

theorem ref_lower {w : World} {B B' : Nat} {p : Dk.Place} {d : DS} (h : RefAt w B p d) (hb : B' ≤ B) : RefAt w B' p d :=
  ⟨h.ok, Nat.le_trans hb h.base, h.box, ⟨h.now.1, Lf.own_lower h.now.2 hb⟩, ⟨h.sure.1, Lf.own_lower h.sure.2 hb⟩, Lf.own_lower h.loose hb, h.ne⟩

theorem ref_there {w : World} {B : Nat} {p : Dk.Place} {d : DS} (h : RefAt w B p d) : ∀ k, p.has k → k < w.heap.size := fun k hk => by
  rcases hk with rfl | rfl | rfl | rfl
  · exact h.box.lt
  · exact (h.now.2.lt p.a rfl).2
  · exact (h.sure.2.lt p.b rfl).2
  · exact (h.loose.lt p.c rfl).2

/-- Two new disks. -/
theorem st_new {w w1 w2 : World} {q : Pl} {p : Dk.Place} {n : Nat} (hq : At w1 w.heap.size q (dsNew n)) (hlo : ∀ k, q.has k → w.heap.size ≤ k) (hb : Below w.heap.size w w1) (hp : RefAt w2 w1.heap.size p (dsNew n)) (hlp : ∀ k, p.has k → w1.heap.size ≤ k) (hb2 : Below w1.heap.size w1 w2) (h1 : 1 ≤ n) (h2 : n ≤ 20000) : St w w2 none q p none none (dsNew n) (dsNew n) := by
  have hn := Vt.new_n n
  refine ⟨⟨none, none, Dk.at_below hq hb2, ref_lower hp hb.size, fun x v e => (by cases e), fun x v e => (by cases e), fun g e => (by cases e)⟩, fun x v e => (by cases e), fun x v e => (by cases e), hlo, fun k hk => Nat.le_trans hb.size (hlp k hk), fun k hk hk2 => ?_, hb.trans (hb2.mono hb.size), fun g cs e => (by cases e), by rw [hn]; exact ⟨h2, by omega, Nat.zero_le _⟩, by rw [hn]; exact ⟨h2, by omega, Nat.zero_le _⟩⟩
  have := hq.there k hk
  have := hlp k hk2
  omega

end Go.Proofs.Ytedgookkogpfbaa.Vq
