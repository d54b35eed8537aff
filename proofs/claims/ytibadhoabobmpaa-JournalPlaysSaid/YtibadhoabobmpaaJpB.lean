/- Law 08: alike; the steps that come in. -/
import Derived.Test.YtibadhoabobmpaaJpA
set_option maxRecDepth 100000
namespace Go.Proofs.Ytibadhoabobmpaa.Jp
open Go.ChangeShapes Go.WideShapes Go.ChangeAt Go.RowKit
open Qu (Blk)
open Mv (Only Fresh)
open By (Own8 Bys cellsB cellsB_length)
open Dk (DS dsNew crashD startD armD writeD writeE RefAt secCells)
open Dd (Lay At Tidy Pl)
open Jr (JS Recd JHas needN own_own_ne ownBlock_any newE blankJ openJ addE addDS addJ stopE Fit blk_blk_ne)
open Jl (Pair PairE RecE own_far_disk)
set_option linter.unusedVariables false

/-- The document's rows as the helpers read them. -/
theorem jr_rws {w : World} {B n c : Nat} {A : Option Addr} {vs : List Value} {l : List (List UInt8)} (h : Recd w B A n c vs l) : Hr.Rws w w.heap.size A n l := Jl.Recd.rws h

set_option maxHeartbeats 2000000 in
theorem alike_any {w wr : World} {g x y : Nat} {cs : Array Value} {q : Pl} {p : Dk.Place} {d1 d2 : DS} {j : JS} {A A2 : Option Addr} (h : Quad w wr g cs q p x y A A2 d1 j d2 j) :
    Calls Try.prog 29 #[.pointer (some ⟨x, 0, none⟩), .pointer (some ⟨y, 0, none⟩)] wr fun e w' => e = .returned (.bool true) ∧ Below wr.heap.size wr w' := by
  obtain ⟨Bd, Bj, Bp, B2, c, vs, c2, us, h1, h2, h3, h4, h5⟩ := h.some
  have hlen : j.l.length ≤ 1000000 := by have := h.fit.len; have := h.fit.used; have := h.fit.room; have := h.fit.dn; omega
  have HC : Hid (∀ u, Below wr.heap.size wr u → u.cell? ⟨y, 4, none⟩ = some (.slice A2 j.l.length c2) ∧ u.cell? ⟨y, 5, none⟩ = some (.int .u32 (j.begun : Int)) ∧ u.cell? ⟨y, 6, none⟩ = some (.int .i64 (j.used : Int)) ∧ Below wr.heap.size wr u) := Lib.hid (fun u hu => by
    have hb := (h3.below hu).box
    exact ⟨by have := hb.cell 4; simpa using this, by have := hb.cell 5; simpa using this, by have := hb.cell 6; simpa using this, hu⟩)
  have HRE := Lib.hid (fun u (hu : Below wr.heap.size wr u) => Jl.pair_records (h1.later hu))
  have HFI := Lib.hid (fun u (hu : Below wr.heap.size wr u) => Jl.first_any u x _ (h1.later hu).cells.1)
  have HUS := Lib.hid (fun u (hu : Below wr.heap.size wr u) => Jl.used_any u x _ (h1.later hu).cells.2)
  have HRW : Hid (∀ (u : World) (A' : Option Addr) (c' : Nat) (us' : List Value) (M : Nat), Below wr.heap.size wr u → Jl.Told u M A' j.l.length c' us' j.l → Calls Try.prog 32 #[.slice A' j.l.length c', .slice A2 j.l.length c2] u fun e w' => e = .returned (.bool true) ∧ Below u.heap.size u w') := Lib.hid (fun u A' c' us' M hu hT => by
    have hh := Hr.rows_any A' A2 j.l.length j.l.length c' c2 j.l j.l u.heap.size u (jr_rws hT.rows) (jr_rws (h3.below hu).rows) (by unfold maxLen; omega) (by unfold maxLen; omega)
    rw [beq_self_eq_true] at hh
    exact hh.mono fun e w' ⟨he, hd⟩ => ⟨he, hd.below _⟩)
  have c1 : ((j.begun : Int) == (j.begun : Int)) = true := beq_self_eq_true _
  have c3 : ((j.used : Int) == (j.used : Int)) = true := beq_self_eq_true _
  clear h h1 h2 h3 h4 h5 hlen
  generalize hL : j.l = L at *
  generalize (j.begun : Int) = bg at *
  generalize (j.used : Int) = us0 at *
  clear hL
  go_enter Try.func29, Try.ntmps29
  go_wp2_with fail
  go_region_held3 (fun u => u.cell? ⟨y, 4, none⟩ = some (.slice A2 L.length c2) ∧ u.cell? ⟨y, 5, none⟩ = some (.int .u32 bg) ∧ u.cell? ⟨y, 6, none⟩ = some (.int .i64 us0) ∧ Below wr.heap.size wr u)
    (first
      | exact HC.out _ (Below.refl _ _).drew
      | (go_split_ands; exact HC.out _ (Dk.below_then (by assumption) kq))
      | (go_split_ands; exact HC.out _ (Dk.below_then (by assumption) kw))
      | (go_split_ands; exact ⟨by assumption, by assumption, by assumption, by assumption⟩))
    (first
      | (go_at_call 31; ((with_reducible refine (HRE.out _ (by go_split_ands; assumption)).mono ?_); rintro r wq ⟨A', c', us', rfl, hTo, kq⟩))
      | (go_at_call 32; ((with_reducible refine (HRW.out wq A' c' us' _ (by go_split_ands; assumption) hTo).mono ?_); rintro r ww ⟨rfl, kw⟩))
      | (go_at_call 33; ((with_reducible refine (HFI.out _ (by go_split_ands; assumption)).mono ?_); rintro r w8 ⟨rfl, hw⟩; rw [hw]; clear hw w8))
      | (go_at_call 35; ((with_reducible refine (HUS.out _ (by go_split_ands; assumption)).mono ?_); rintro r w8 ⟨rfl, hw⟩; rw [hw]; clear hw w8)))
  unfold Exit.then
  dsimp only
  go_wp2_with fail
  go_ret
  exact ⟨rfl, Dk.below_then (Dk.below_then (Below.refl _ _).drew kq) kw⟩

/-! ### The steps that come in -/
structure Opr where
  kind : Int
  n : Int
  b : List UInt8
  Ab : Option Addr
  cb : Nat
  Ak : Option Addr
  kn : Nat
  ck : Nat
  kf : Nat → Int

instance : Inhabited Opr := ⟨⟨0, 0, [], none, 0, none, 0, 0, fun _ => 0⟩⟩

def Opr.cells (s : Opr) : Array Value := #[.int .i64 s.kind, .int .i64 s.n, .slice s.Ab s.b.length s.cb, .slice s.Ak s.kn s.ck]

structure OprOk (w : World) (s : Opr) : Prop where
  n1 : -9223372036854775808 ≤ s.n
  n2 : s.n ≤ 9223372036854775807
  bys : Bys w w.heap.size s.Ab s.b.length s.b
  none : s.Ab = none → s.b.length = 0 ∧ s.cb = 0
  bc : s.b.length ≤ s.cb
  cb : s.cb ≤ 9223372036854775807
  keep : Hl.Ints w w.heap.size s.Ak s.kn s.kf
  kfs : ∀ k, k < s.kn → -9223372036854775808 ≤ s.kf k ∧ s.kf k ≤ 9223372036854775807
  kn1 : s.kn ≤ 9223372036854775807

def Oprs (w : World) (A : Option Addr) (n : Nat) (o : Nat → Opr) : Prop := ∀ k, k < n → ∃ b off, A = some ⟨b, off, none⟩ ∧ b < w.heap.size ∧ (∀ j, j < 4 → w.cell? ⟨b, off + k * 4 + j, none⟩ = (o k).cells[j]?) ∧ OprOk w (o k)

theorem open_oprs {H : Type} {enc : TypeId × Value → H} {base b0 : Nat} {w : World} {spare : Nat → Bool} {held : Bool} {v : Value} {d : DataW H} {ps : List MemPlace} {r : Reach}
    (hval : Value.okWide Try.prog w r b0 22 v) (hd : DataW.Trod enc Try.prog w base spare held 22 v d ps) :
    ∃ A n c o, v = .slice A n c ∧ Oprs w A n o ∧ n ≤ 9223372036854775807 := by
  have hc : Try.prog.cellsOf 41 = 4 := by kernel_rfl
  obtain ⟨A, n, c, rfl, hn, _, _, hz, hel⟩ := Hk.open_any_slice Try.underlying22 (by rw [hc]; omega) hval hd
  obtain ⟨o, ho⟩ := Go.Deep.choose_lt (α := Opr) (n := n) (p := fun k s => ∃ b off, A = some ⟨b, off, none⟩ ∧ b < w.heap.size ∧ (∀ j, j < 4 → w.cell? ⟨b, off + k * 4 + j, none⟩ = s.cells[j]?) ∧ OprOk w s) (fun k hk => by
    obtain ⟨b, off, hA, hb, hl⟩ := hel k hk
    rw [hc] at hl
    obtain ⟨z0, h0, _⟩ := (hl.field Try.underlying41 0 _ rfl (of_decide_eq_true (by kernel_rfl))).int64 Try.underlying3 (by kernel_rfl)
    obtain ⟨z1, h1, hz1⟩ := (hl.field Try.underlying41 1 _ rfl (of_decide_eq_true (by kernel_rfl))).int64 Try.underlying3 (by kernel_rfl)
    obtain ⟨A2, n2, c2, l2, h2, hy2, hn2, hc2, hz2⟩ := (hl.field Try.underlying41 2 _ rfl (of_decide_eq_true (by kernel_rfl))).bytes Try.underlying38 Try.underlying5 (by kernel_rfl) (by kernel_rfl)
    obtain ⟨A3, n3, c3, f3, h3, hi3, hn3, hb3, hz3⟩ := (hl.field Try.underlying41 3 _ rfl (of_decide_eq_true (by kernel_rfl))).ints Try.underlying39 Try.underlying3 (by kernel_rfl) (by kernel_rfl)
    obtain rfl := hy2.len
    refine ⟨⟨z0, z1, l2, A2, c2, A3, n3, c3, f3⟩, b, off, hA, hb, fun j hj => ?_, ⟨hz1.1, hz1.2, hy2, hz2, hn2, hc2, hi3, hb3, hn3⟩⟩
    match j, hj with
    | 0, _ => exact h0
    | 1, _ => exact h1
    | 2, _ => exact h2
    | 3, _ => exact h3)
  exact ⟨A, n, c, o, rfl, ho, hn⟩

/-! ### Both, without a box -/
structure Base (w wr : World) (q : Pl) (p : Dk.Place) (x y : Nat) (A A2 : Option Addr) (d : DS) (j : JS) : Prop where
  some : ∃ Bd Bj Bp By c vs c2 us, Pair w wr x Bd Bj q A c vs j d ∧ RefAt wr Bp p d ∧ Jr.JAt wr By y p.x A2 c2 us j ∧ w.heap.size ≤ By ∧ (∀ g, (Value.slice A 0 0).ownBlock = some g → (Value.slice A2 0 0).ownBlock ≠ some g)
  fit : Fit d j
  lo : ∀ k, p.has k → w.heap.size ≤ k
  ap : ∀ k, q.has k → ¬ p.has k

section
variable {w wr w1 : World} {g x y : Nat} {cs : Array Value} {q : Pl} {p : Dk.Place} {d : DS} {j : JS} {A A2 : Option Addr}
theorem Base.below (h : Base w wr q p x y A A2 d j) : Below w.heap.size w wr := by
  obtain ⟨Bd, Bj, Bp, B2, c, vs, c2, us, h1, _⟩ := h.some
  exact h1.below

theorem Base.later (h : Base w wr q p x y A A2 d j) (k : Below wr.heap.size wr w1) : Base w w1 q p x y A A2 d j := by
  obtain ⟨Bd, Bj, Bp, B2, c, vs, c2, us, h1, h2, h3, h4, h5⟩ := h.some
  exact ⟨⟨Bd, Bj, Bp, B2, c, vs, c2, us, h1.later k, h2.below k, h3.below k, h4, h5⟩, h.fit, h.lo, h.ap⟩

theorem Base.box (h : Base w wr q p x y A A2 d j) (cs : Array Value) : Quad w (wr.alloc (.cells cs 41)) wr.heap.size cs q p x y A A2 d j d j := by
  obtain ⟨Bd, Bj, Bp, B2, c, vs, c2, us, h1, h2, h3, h4, h5⟩ := (h.later ((Below.refl wr.heap.size wr).alloc (Nat.le_refl _) (.cells cs 41))).some
  exact ⟨⟨Bd, Bj, Bp, B2, c, vs, c2, us, h1, h2, h3, h4, h5⟩, h.fit, h.lo, h.ap, Qu.Blk.new wr _ _, h.below.size⟩

theorem Quad.base (h : Quad w wr g cs q p x y A A2 d j d j) : Base w wr q p x y A A2 d j := ⟨h.some, h.fit, h.lo, h.ap⟩

theorem Quad.keep (h : Quad w wr g cs q p x y A A2 d j d j) (hb : Below wr.heap.size wr w1) : Base w w1 q p x y A A2 d j := (h.later hb).base
end

end Go.Proofs.Ytibadhoabobmpaa.Jp
