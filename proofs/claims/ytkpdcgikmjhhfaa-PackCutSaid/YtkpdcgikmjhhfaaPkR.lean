/- Contracts of package pack's Reader: what is left to read is a list of bytes, with the first fault. -/
import Derived.Test.YtkpdcgikmjhhfaaPkN
import Derived.LoopN
namespace Go.Proofs.Ytkpdcgikmjhhfaa.Pk
open Go.ChangeShapes Go.WideShapes Go.ChangeAt Go.RowKit
open Qu (Blk)
open Mv (Only one)
open By
set_option linter.unusedVariables false

/-- A reader at block q, its bytes in block r: l is left, e is the fault. -/
structure IsR (w : World) (q : Nat) (r : Option Nat) (l : List UInt8) (e : Int) : Prop where
  small : l.length ≤ 1000000000000
  ex : ∃ A n c, Blk w q 55 #[.slice A n c, .int .i64 e] ∧ Bys w q A n l ∧ n ≤ c ∧ ∀ a, A = some a → r = some a.block

def Did (w w' : World) (q : Nat) (r : Option Nat) (l : List UInt8) (e : Int) : Prop := IsR w' q r l e ∧ Only w w' (one q)

theorem IsR.only {w w' : World} {q : Nat} {r : Option Nat} {l : List UInt8} {e : Int} {S : Nat → Prop} (h : IsR w q r l e) (k : Only w w' S) (h1 : ¬ S q) (h2 : ∀ g, r = some g → ¬ S g) : IsR w' q r l e := by
  obtain ⟨hs, A, n, c, hB, hb, hc, hr⟩ := h
  exact ⟨hs, A, n, c, Mv.blk_only hB k h1, hb.only k (fun a ha _ => h2 _ (hr a ha)), hc, hr⟩

theorem IsR.below {w w' : World} {q : Nat} {r : Option Nat} {l : List UInt8} {e : Int} (h : IsR w q r l e) (hb : Below w.heap.size w w') : IsR w' q r l e :=
  h.only (Only.ofBelow hb fun _ => False) (fun h => h) (fun _ _ h => h)

theorem IsR.lt {w : World} {q : Nat} {r : Option Nat} {l : List UInt8} {e : Int} (h : IsR w q r l e) : q < w.heap.size := by
  obtain ⟨hs, A, n, c, hB, _⟩ := h
  exact hB.lt

theorem Did.drew {w w' : World} {q : Nat} {r : Option Nat} {l : List UInt8} {e : Int} (h : Did w w' q r l e) : Did w w'.drew q r l e := ⟨h.1.below ((Below.refl _ _).drew), h.2.drew⟩

theorem Did.toBelow {a b : World} {B q : Nat} {r : Option Nat} {l m : List UInt8} {e f : Int} (h : IsR a q r l e) (k : Did a b q r m f) (hB : B ≤ q) : Below B a b :=
  k.2.toBelow (by have := h.lt; omega) fun i hi hs => by have : i = q := hs; omega

theorem rerr_nil (w : World) : Calls Try.prog 22 #[.pointer none] w fun e w' => e = .returned (.int .i64 1) ∧ w = w' := by
  go_enter Try.func22, Try.ntmps22
  go_wp2
  go_ret
  exact ⟨rfl, rfl⟩

theorem rerr_any (q : Nat) (r : Option Nat) (l : List UInt8) (x : Int) (w : World) (h : IsR w q r l x) :
    Calls Try.prog 22 #[.pointer (some ⟨q, 0, none⟩)] w fun e w' => e = .returned (.int .i64 x) ∧ w = w' := by
  obtain ⟨hs, A, n, c, hB, _⟩ := h
  have c1 := hB.cell 1
  simp at c1
  clear hB
  go_enter Try.func22, Try.ntmps22
  go_wp2
  go_ret
  exact ⟨rfl, rfl⟩

/-- What End tells. -/
def endE (l : List UInt8) (x : Int) : Int := if x ≠ 0 then x else if 0 < l.length then 4 else 0

theorem rend_nil (w : World) : Calls Try.prog 23 #[.pointer none] w fun e w' => e = .returned (.int .i64 1) ∧ w = w' := by
  go_enter Try.func23, Try.ntmps23
  go_wp2_with fail
  refine (rerr_nil _).mono ?_
  rintro e w' ⟨rfl, rfl⟩
  go_wp2
  go_ret
  exact ⟨rfl, rfl⟩

theorem rend_any (q : Nat) (r : Option Nat) (l : List UInt8) (x : Int) (w : World) (h : IsR w q r l x) :
    Calls Try.prog 23 #[.pointer (some ⟨q, 0, none⟩)] w fun e w' => e = .returned (.int .i64 (endE l x)) ∧ w = w' := by
  have HE := Lib.hid (rerr_any q r l x w h)
  obtain ⟨hs, A, n, c, hB, hb, _⟩ := h
  have c0 := hB.cell 0
  simp at c0
  have HL := Lib.hid hb.len
  clear hB hb
  by_cases hx : x = 0
  · subst hx
    have HN := Lib.hid hs
    clear hs
    by_cases hn : 0 < n
    · have n1 : (0 : Int) < (n : Int) := by omega
      have HR : Hid (endE l 0 = 4) := Lib.hid (by unfold endE; rw [if_neg (by simp), if_pos (by have := HL.out; omega)])
      clear hn
      go_enter Try.func23, Try.ntmps23
      go_wp2_with fail
      refine HE.out.mono ?_
      rintro e w' ⟨rfl, rfl⟩
      go_wp2
      go_ret
      exact ⟨by rw [HR.out]; rfl, rfl⟩
    · have n1 : ¬ (0 : Int) < (n : Int) := by omega
      have n2 : n = 0 := by omega
      subst n2
      have HR : Hid (endE l 0 = 0) := Lib.hid (by unfold endE; rw [if_neg (by simp), if_neg (by have := HL.out; omega)])
      clear hn
      go_enter Try.func23, Try.ntmps23
      go_wp2_with fail
      refine HE.out.mono ?_
      rintro e w' ⟨rfl, rfl⟩
      go_wp2
      go_ret
      exact ⟨by rw [HR.out]; rfl, rfl⟩
  · have b1 : (x != 0) = true := by simpa using hx
    have HR : Hid (endE l x = x) := Lib.hid (by unfold endE; rw [if_pos hx])
    clear hx
    go_enter Try.func23, Try.ntmps23
    go_wp2_with fail
    refine HE.out.mono ?_
    rintro e w' ⟨rfl, rfl⟩
    go_wp2
    go_ret
    exact ⟨by rw [HR.out]; rfl, rfl⟩

def ReadOk (e : Ending) (w w' : World) (l : List UInt8) : Prop := ∃ q r, e = .returned (.pointer (some ⟨q, 0, none⟩)) ∧ IsR w' q r l 0 ∧ w.heap.size ≤ q ∧ (∀ k, r = some k → w.heap.size ≤ k ∧ k < q) ∧ Below w.heap.size w w'

theorem read_any (A : Option Addr) (n c M : Nat) (l : List UInt8) (w : World) (h : Bys w M A n l) (hA : A = none → n = 0 ∧ c = 0) (hn : n ≤ 1000000000000) :
    Calls Try.prog 18 #[.slice A n c] w fun e w' => ReadOk e w w' l := by
  have HC := Lib.hid (clone_any A n c M l w h hA hn)
  have HL := Lib.hid h.len
  clear h hA
  go_enter Try.func18, Try.ntmps18
  go_wp2_with fail
  refine HC.out.mono ?_
  rintro e w1 ⟨A', c', rfl, ho, hb⟩
  have HF : Hid (ReadOk (.returned (.pointer (some ⟨w1.heap.size, 0, none⟩))) w (w1.alloc (.cells #[.slice A' l.length c', .int .i64 0] 55)) l) := Lib.hid (by
    refine ⟨_, A'.map (·.block), rfl, ⟨by have := HL.out; omega, A', l.length, c', Blk.new _ _ _, ?_, (Mv.own_cap ho).1, fun a ha => by rw [ha]; rfl⟩, hb.size, fun k hk => ?_, hb.alloc hb.size _⟩
    · exact (Bys.own ho).below ((Below.refl _ _).alloc (Nat.le_refl _) _) (Nat.le_refl _)
    · cases hA' : A' with
      | none => rw [hA'] at hk; cases hk
      | some a =>
        rw [hA'] at hk ho
        simp at hk
        exact World.ownsRow.lt ho k (by rw [← hk]; rfl))
  clear ho hb
  go_wp2
  go_ret
  exact HF.out

theorem rnum_nil (a b : Int) (w : World) : Calls Try.prog 19 #[.pointer none, .int .i64 a, .int .i64 b] w fun e w' => e = .returned (.int .i64 0) ∧ w = w' := by
  go_enter Try.func19, Try.ntmps19
  go_wp2_with fail
  refine (rerr_nil _).mono ?_
  rintro e w' ⟨rfl, rfl⟩
  go_wp2
  go_ret
  exact ⟨rfl, rfl⟩

theorem rnum_fault (q : Nat) (r : Option Nat) (l : List UInt8) (x a b : Int) (w : World) (h : IsR w q r l x) (hx : x ≠ 0) :
    Calls Try.prog 19 #[.pointer (some ⟨q, 0, none⟩), .int .i64 a, .int .i64 b] w fun e w' => e = .returned (.int .i64 0) ∧ w = w' := by
  have HE := Lib.hid (rerr_any q r l x w h)
  have b1 : (x != 0) = true := by simpa using hx
  clear h hx
  go_enter Try.func19, Try.ntmps19
  go_wp2_with fail
  refine HE.out.mono ?_
  rintro e w' ⟨rfl, rfl⟩
  go_wp2
  go_ret
  exact ⟨rfl, rfl⟩

/-- A reader at block q, its number at block p, in the middle of reading. -/
structure Mid (w wx : World) (q p : Nat) (A : Option Addr) (n c : Nat) (l : List UInt8) (x a b s v : Int) : Prop where
  rd : Blk wx q 55 #[.slice A n c, .int .i64 x]
  nm : Nm wx p A n c a b s v
  bys : Bys wx q A n l
  on : Only w wx (one q)
  qp : q < w.heap.size
  pw : w.heap.size ≤ p

section
variable {w wx wy : World} {q p n c : Nat} {A : Option Addr} {l : List UInt8} {x y a b s v s' v' : Int} {r : Option Nat}
theorem Mid.call (h : Mid w wx q p A n c l x a b s v) (k : Nmd wx wy p A n c a b s' v') : Mid w wy q p A n c l x a b s' v' := by
  have hne : q ≠ p := by have := h.qp; have := h.pw; omega
  refine ⟨Mv.blk_only h.rd k.2 (fun e => hne e), k.1, h.bys.only k.2 (fun a' _ hlt e => ?_), ?_, h.qp, h.pw⟩
  · have e2 : a'.block = p := e
    have := h.qp; have := h.pw; omega
  · exact h.on.trans k.2 fun i hi e => by
      have e2 : i = p := e
      have := h.pw; omega

theorem Mid.put (h : Mid w wx q p A n c l x a b s v) : Mid w (wx.setCell ⟨q, 1, none⟩ (.int .i64 y)) q p A n c l y a b s v := by
  have hne : q ≠ p := by have := h.qp; have := h.pw; omega
  have ho : Only wx (wx.setCell ⟨q, 1, none⟩ (.int .i64 y)) (one q) := (Only.refl wx (one q)).put _ (fun _ => rfl)
  refine ⟨Blk.put h.rd 1 _, Mv.blk_only h.nm ho (fun e => hne e.symm), h.bys.only ho (fun a' _ hlt e => ?_), h.on.trans ho fun i _ e => e, h.qp, h.pw⟩
  have e2 : a'.block = q := e
  omega

theorem Mid.done (h : Mid w wx q p A n c l x a b s v) (hs : l.length ≤ 1000000000000) (hc : n ≤ c) (hr : ∀ a, A = some a → r = some a.block) : Did w wx q r l x :=
  ⟨⟨hs, A, n, c, h.rd, h.bys, hc, hr⟩, h.on⟩

theorem Mid.cut {k : Nat} (h : Mid w wx q p A n c l x a b s v) (hs : l.length ≤ 1000000000000) (hc : n ≤ c) (hk : k ≤ n) (hr : ∀ a, A = some a → r = some a.block) :
    Did w (wx.setCell ⟨q, 0, none⟩ (.slice (if c = k then A else A.map (·.add k)) (n - k) (c - k))) q r (l.drop k) x := by
  have ho : Only wx (wx.setCell ⟨q, 0, none⟩ (.slice (if c = k then A else A.map (·.add k)) (n - k) (c - k))) (one q) := (Only.refl wx (one q)).put _ (fun _ => rfl)
  refine ⟨⟨by rw [List.length_drop]; omega, _, n - k, c - k, Blk.put h.rd 0 _, ?_, by omega, fun a' ha => ?_⟩, h.on.trans ho fun i _ e => e⟩
  · exact (h.bys.only ho (fun a' _ hlt e => by have e2 : a'.block = q := e; omega)).drop hk hc
  · obtain ⟨a2, h2, h3⟩ := dropped_block a' ha
    rw [hr a2 h2, h3]
end

theorem num_meas {l : List UInt8} {a b : Int} (h : measE l ≠ 0) : numE l a b = measE l ∧ numV l a b = 0 ∧ numL l a b = l := by
  have e : numE l a b = measE l := by unfold numE; rw [if_pos h]
  refine ⟨e, ?_, ?_⟩
  · unfold numV; rw [if_neg (by rw [e]; exact h)]
  · unfold numL; rw [if_neg (by rw [e]; exact h)]

theorem num_long {l : List UInt8} {a b : Int} (h : measE l = 0) (h2 : longB l = true) : numE l a b = 4 ∧ numV l a b = 0 ∧ numL l a b = l := by
  have e : numE l a b = 4 := by unfold numE; rw [if_neg (by simp [h]), h2]; rfl
  refine ⟨e, ?_, ?_⟩
  · unfold numV; rw [if_neg (by omega)]
  · unfold numL; rw [if_neg (by omega)]

theorem num_out {l : List UInt8} {a b : Int} (h : measE l = 0) (h2 : longB l = false) : numE l a b = outE (valU (l.take (lead l + 1)) : Int) a b := by
  unfold numE outE
  rw [if_neg (by simp [h]), h2]
  rfl

theorem step_at0 (p : Nat) (W : World) : (Instr.index 58 (.agg #[Value.func (Fn.func 28) #[.pointer (some ⟨p, 0, none⟩)] #[], Value.func (Fn.func 29) #[.pointer (some ⟨p, 0, none⟩)] #[], Value.func (Fn.func 30) #[.pointer (some ⟨p, 0, none⟩)] #[]]) (.int .i64 0)).run Try.prog W = .ok (Value.func (Fn.func 28) #[.pointer (some ⟨p, 0, none⟩)] #[]) W := by kernel_rfl

theorem step_at1 (p : Nat) (W : World) : (Instr.index 58 (.agg #[Value.func (Fn.func 28) #[.pointer (some ⟨p, 0, none⟩)] #[], Value.func (Fn.func 29) #[.pointer (some ⟨p, 0, none⟩)] #[], Value.func (Fn.func 30) #[.pointer (some ⟨p, 0, none⟩)] #[]]) (.int .i64 1)).run Try.prog W = .ok (Value.func (Fn.func 29) #[.pointer (some ⟨p, 0, none⟩)] #[]) W := by kernel_rfl

theorem step_at2 (p : Nat) (W : World) : (Instr.index 58 (.agg #[Value.func (Fn.func 28) #[.pointer (some ⟨p, 0, none⟩)] #[], Value.func (Fn.func 29) #[.pointer (some ⟨p, 0, none⟩)] #[], Value.func (Fn.func 30) #[.pointer (some ⟨p, 0, none⟩)] #[]]) (.int .i64 2)).run Try.prog W = .ok (Value.func (Fn.func 30) #[.pointer (some ⟨p, 0, none⟩)] #[]) W := by kernel_rfl

set_option maxHeartbeats 4000000 in
theorem rnum_any (q : Nat) (r : Option Nat) (l : List UInt8) (a b : Int) (w : World) (h : IsR w q r l 0) :
    Calls Try.prog 19 #[.pointer (some ⟨q, 0, none⟩), .int .i64 a, .int .i64 b] w fun e w' => e = .returned (.int .i64 (numV l a b)) ∧ Did w w' q r (numL l a b) (numE l a b) := by
  have HE := Lib.hid (rerr_any q r l 0 w h)
  have hmf : ∀ (fn : Fn) (first cap : Array Value) (W : World), (Instr.makeFunc fn first cap).run Try.prog W = .ok (.func fn first cap) W := fun _ _ _ _ => rfl
  have x0 := step_at0 w.heap.size
  have x1 := step_at1 w.heap.size
  have x2 := step_at2 w.heap.size
  obtain ⟨hs, A, n, c, hB, hb, hc, hr⟩ := h
  have c0 := hB.cell 0
  simp at c0
  have hqn := hB.lt
  have H1 : Hid (Mid w (w.alloc (.cells #[.slice A n c, .int .i64 a, .int .i64 b, .int .i64 0, .int .i64 0] 57)) q w.heap.size A n c l 0 a b 0 0) := Lib.hid
    ⟨hB.alloc _, Blk.new _ _ _, hb.below (B := w.heap.size) ((Below.refl _ _).alloc (Nat.le_refl _) _) (by omega), (Only.refl _ _).alloc _, hqn, Nat.le_refl _⟩
  have HL := Lib.hid hb.len
  have hn : n ≤ 1000000000000 := by have := hb.len; omega
  have HS := Lib.hid hs
  have HC := Lib.hid hr
  clear hB hb hr hs
  go_enter Try.func19, Try.ntmps19
  go_wp2_with fail
  refine HE.out.mono ?_
  rintro e w' ⟨rfl, rfl⟩
  go_wp2_with fail
  refine wp_loop_rounds 4 ?_
  rw [rounds_succ]
  go_wp2_with fail
  refine (measure_any _ n c A l a b 0 0 _ H1.out.nm (H1.out.bys.more (Nat.le_of_lt hqn)) hc hn).mono ?_
  rintro e w2 ⟨rfl, hN⟩
  have H2 := Lib.hid (H1.out.call hN)
  clear hN H1 c0
  have c1 := H2.out.rd.cell 1
  have f1 := H2.out.rd.frozen 1
  simp at c1
  by_cases hm : measE l = 0
  · have HM := Lib.hid hm
    have b1 : (measE l != 0) = false := by simp [hm]
    have H3 : Hid (Mid w (w2.setCell ⟨q, 1, none⟩ (.int .i64 (measE l))) q w.heap.size A n c l (measE l) a b ((lead l : Int) + 1) 0) := Lib.hid (by
      have h3 := H2.out.put (y := measE l)
      unfold szOf at h3
      rw [if_pos hm] at h3
      exact h3)
    have hlead := measE_ok hm
    clear hm H2
    go_wp2_with fail
    rw [rounds_succ]
    go_wp2_with fail
    refine (shortest_any _ n c (lead l) A l a b 0 _ H3.out.nm (H3.out.bys.more (Nat.le_of_lt hqn)) hc (by have := HL.out; omega) hn).mono ?_
    rintro e w4 ⟨rfl, hN⟩
    have H4 := Lib.hid (H3.out.call hN)
    clear hN H3 c1 f1
    have c1 := H4.out.rd.cell 1
    have f1 := H4.out.rd.frozen 1
    simp at c1
    by_cases hlong : longB l = true
    · have e4 : longE l (lead l) = 4 := by unfold longE; unfold longB at hlong; rw [hlong]; rfl
      have H5 : Hid (Mid w (w4.setCell ⟨q, 1, none⟩ (.int .i64 4)) q w.heap.size A n c l 4 a b ((lead l : Int) + 1) 0) := Lib.hid (H4.out.put)
      have HN := Lib.hid (num_long (a := a) (b := b) HM.out hlong)
      clear hlong H4 hlead
      rw [e4]
      clear e4
      go_wp2
      go_ret
      obtain ⟨m1, m2, m3⟩ := HN.out
      exact ⟨by rw [m2]; rfl, by rw [m1, m3]; exact H5.out.done HS.out hc HC.out⟩
    · have hlong2 : longB l = false := by simpa using hlong
      have e4 : longE l (lead l) = 0 := by unfold longE; unfold longB at hlong2; rw [hlong2]; rfl
      have H5 : Hid (Mid w (w4.setCell ⟨q, 1, none⟩ (.int .i64 0)) q w.heap.size A n c l 0 a b (((lead l + 1 : Nat) : Int)) 0) := Lib.hid (H4.out.put)
      have HN := Lib.hid (num_out (a := a) (b := b) HM.out hlong2)
      clear hlong hlong2 H4
      rw [e4]
      clear e4
      go_wp2_with fail
      rw [rounds_succ]
      go_wp2_with fail
      refine (within_any _ n c (lead l + 1) A l a b _ H5.out.nm (H5.out.bys.more (Nat.le_of_lt hqn)) hc (by omega) (by omega) (by have := HL.out; omega) hn).mono ?_
      rintro e w6 ⟨rfl, hN⟩
      have H6 := Lib.hid (H5.out.call hN)
      clear hN H5 c1 f1
      have c1 := H6.out.rd.cell 1
      have f1 := H6.out.rd.frozen 1
      simp at c1
      by_cases ho : outE (valU (l.take (lead l + 1)) : Int) a b = 0
      · have H7 : Hid (Mid w (w6.setCell ⟨q, 1, none⟩ (.int .i64 0)) q w.heap.size A n c l 0 a b (((lead l + 1 : Nat) : Int)) (valU (l.take (lead l + 1)) : Int)) := Lib.hid (H6.out.put)
        have HV : Hid (numE l a b = 0 ∧ numV l a b = (valU (l.take (lead l + 1)) : Int) ∧ numL l a b = l.drop (lead l + 1)) := Lib.hid (by
          have e0 : numE l a b = 0 := by rw [HN.out, ho]
          refine ⟨e0, ?_, ?_⟩
          · unfold numV; rw [if_pos e0]
          · unfold numL; rw [if_pos e0])
        have q0 := H6.out.rd.cell 0
        have qf := H6.out.rd.frozen 0
        have p3 := H6.out.nm.cell 3
        have p4 := H6.out.nm.cell 4
        simp at q0 p3 p4
        have hne : q ≠ w.heap.size := by omega
        have hne2 : w.heap.size ≠ q := by omega
        have hsl : ∀ W : World, (Instr.slice 26 (.slice A n c) (some (.int .i64 ((lead l : Int) + 1))) none none).run Try.prog W = .ok (.slice (if c = lead l + 1 then A else A.map (·.add (lead l + 1))) (n - (lead l + 1)) (c - (lead l + 1))) W := fun W => by
          have := slice_from A n c (lead l + 1) (by have := HL.out; omega) W
          rw [show ((lead l + 1 : Nat) : Int) = (lead l : Int) + 1 by omega] at this
          exact this
        have HF := Lib.hid (H7.out.cut HS.out hc (show lead l + 1 ≤ n by have := HL.out; omega) HC.out)
        rw [ho]
        clear ho H6 H7 hlead hc
        generalize hA' : (if c = lead l + 1 then A else A.map (·.add (lead l + 1))) = A' at *
        generalize hn' : n - (lead l + 1) = n' at *
        generalize hc' : c - (lead l + 1) = c' at *
        clear hA' hn' hc'
        go_wp2_with fail
        rw [rounds_succ]
        go_wp2_with fail
        go_region
        all_goals
          go_wp2
          go_ret
          obtain ⟨m1, m2, m3⟩ := HV.out
          exact ⟨by rw [m2]; rfl, by rw [m1, m3]; exact HF.out.drew⟩
      · have b2 : (outE (valU (l.take (lead l + 1)) : Int) a b != 0) = true := by simpa using ho
        have H7 : Hid (Mid w (w6.setCell ⟨q, 1, none⟩ (.int .i64 (outE (valU (l.take (lead l + 1)) : Int) a b))) q w.heap.size A n c l (outE (valU (l.take (lead l + 1)) : Int) a b) a b (((lead l + 1 : Nat) : Int)) (valU (l.take (lead l + 1)) : Int)) := Lib.hid (H6.out.put)
        have HV : Hid (numE l a b = outE (valU (l.take (lead l + 1)) : Int) a b ∧ numV l a b = 0 ∧ numL l a b = l) := Lib.hid (by
          refine ⟨HN.out, ?_, ?_⟩
          · unfold numV; rw [if_neg (by rw [HN.out]; exact ho)]
          · unfold numL; rw [if_neg (by rw [HN.out]; exact ho)])
        clear ho H6
        go_wp2
        go_ret
        obtain ⟨m1, m2, m3⟩ := HV.out
        exact ⟨by rw [m2]; rfl, by rw [m1, m3]; exact H7.out.done HS.out hc HC.out⟩
  · have b1 : (measE l != 0) = true := by simpa using hm
    have HM := Lib.hid (num_meas (a := a) (b := b) hm)
    have HF := Lib.hid (H2.out.put (y := measE l))
    clear hm H2
    go_wp2
    go_ret
    obtain ⟨m1, m2, m3⟩ := HM.out
    exact ⟨by rw [m2]; rfl, by rw [m1, m3]; exact HF.out.done HS.out hc HC.out⟩

theorem rflag_nil (w : World) : Calls Try.prog 21 #[.pointer none] w fun e w' => e = .returned (.bool false) ∧ w = w' := by
  go_enter Try.func21, Try.ntmps21
  go_wp2_with fail
  refine (rnum_nil 0 1 _).mono ?_
  rintro e w' ⟨rfl, rfl⟩
  go_wp2
  go_ret
  exact ⟨rfl, rfl⟩

theorem rflag_fault (q : Nat) (r : Option Nat) (l : List UInt8) (x : Int) (w : World) (h : IsR w q r l x) (hx : x ≠ 0) : Calls Try.prog 21 #[.pointer (some ⟨q, 0, none⟩)] w fun e w' => e = .returned (.bool false) ∧ w = w' := by
  have HN := Lib.hid (rnum_fault q r l x 0 1 w h hx)
  clear h hx
  go_enter Try.func21, Try.ntmps21
  go_wp2_with fail
  refine HN.out.mono ?_
  rintro e w' ⟨rfl, rfl⟩
  go_wp2
  go_ret
  exact ⟨rfl, rfl⟩

theorem rflag_any (q : Nat) (r : Option Nat) (l : List UInt8) (w : World) (h : IsR w q r l 0) : Calls Try.prog 21 #[.pointer (some ⟨q, 0, none⟩)] w fun e w' => e = .returned (.bool (numV l 0 1 == 1)) ∧ Did w w' q r (numL l 0 1) (numE l 0 1) := by
  have HN := Lib.hid (rnum_any q r l 0 1 w h)
  clear h
  go_enter Try.func21, Try.ntmps21
  go_wp2_with fail
  refine HN.out.mono ?_
  rintro e w' ⟨rfl, hd⟩
  have HF := Lib.hid hd
  clear hd
  go_wp2
  go_ret
  exact ⟨rfl, HF.out⟩

theorem rtext_nil (m : Int) (w : World) : Calls Try.prog 20 #[.pointer none, .int .i64 m] w fun e w' => e = .returned (.string ⟨#[]⟩) ∧ w = w' := by
  go_enter Try.func20, Try.ntmps20
  go_wp2_with fail
  refine (rnum_nil 0 _ _).mono ?_
  rintro e w' ⟨rfl, rfl⟩
  go_wp2
  go_ret
  exact ⟨rfl, rfl⟩

theorem rtext_fault (q : Nat) (r : Option Nat) (l : List UInt8) (x m : Int) (w : World) (h : IsR w q r l x) (hx : x ≠ 0) : Calls Try.prog 20 #[.pointer (some ⟨q, 0, none⟩), .int .i64 m] w fun e w' => e = .returned (.string ⟨#[]⟩) ∧ w = w' := by
  have HN := Lib.hid (rnum_fault q r l x 0 m w h hx)
  clear h hx
  go_enter Try.func20, Try.ntmps20
  go_wp2_with fail
  refine HN.out.mono ?_
  rintro e w' ⟨rfl, rfl⟩
  go_wp2
  go_ret
  exact ⟨rfl, rfl⟩

theorem numV_pos (l : List UInt8) (m : Int) : 0 ≤ numV l 0 m := by
  unfold numV
  split <;> omega

theorem text_none {l : List UInt8} {m : Int} (h : numV l 0 m = 0) : textE l m = numE l 0 m ∧ textV l m = [] ∧ textL l m = numL l 0 m := by
  have e : textE l m = numE l 0 m := by
    unfold textE
    split
    · rfl
    · rw [h, if_neg (by omega)]
      omega
  refine ⟨e, ?_, ?_⟩
  · unfold textV
    rw [h]
    split <;> simp
  · unfold textL
    rw [h]
    split <;> simp

theorem num_ok {l : List UInt8} {m : Int} (h : numV l 0 m ≠ 0) : numE l 0 m = 0 := by
  by_cases e : numE l 0 m = 0
  · exact e
  · exfalso; apply h; unfold numV; rw [if_neg e]

theorem text_short {l : List UInt8} {m : Int} (h : numV l 0 m ≠ 0) (h2 : ((numL l 0 m).length : Int) < numV l 0 m) : textE l m = 3 ∧ textV l m = [] ∧ textL l m = numL l 0 m := by
  have e : textE l m = 3 := by
    unfold textE
    rw [if_neg (by simp [num_ok h]), if_pos h2]
  refine ⟨e, ?_, ?_⟩
  · unfold textV; rw [if_neg (by omega)]
  · unfold textL; rw [if_neg (by omega)]

theorem text_ok {l : List UInt8} {m : Int} (h : numV l 0 m ≠ 0) (h2 : ¬ ((numL l 0 m).length : Int) < numV l 0 m) : textE l m = 0 ∧ textV l m = (numL l 0 m).take (numV l 0 m).toNat ∧ textL l m = (numL l 0 m).drop (numV l 0 m).toNat := by
  have e : textE l m = 0 := by
    unfold textE
    rw [if_neg (by simp [num_ok h]), if_neg h2]
  refine ⟨e, ?_, ?_⟩
  · unfold textV; rw [if_pos e]
  · unfold textL; rw [if_pos e]

set_option maxHeartbeats 2000000 in
theorem rtext_any (q : Nat) (r : Option Nat) (l : List UInt8) (m : Int) (w : World) (h : IsR w q r l 0) :
    Calls Try.prog 20 #[.pointer (some ⟨q, 0, none⟩), .int .i64 m] w fun e w' => e = .returned (.string (strOf (textV l m))) ∧ Did w w' q r (textL l m) (textE l m) := by
  have HN := Lib.hid (rnum_any q r l 0 m w h)
  have hv0 := numV_pos l m
  clear h
  by_cases hv : numV l 0 m = 0
  · have HT := Lib.hid (text_none hv)
    have HV := Lib.hid hv
    clear hv hv0
    go_enter Try.func20, Try.ntmps20
    go_wp2_with fail
    refine HN.out.mono ?_
    rintro e w' ⟨rfl, hd⟩
    have HF := Lib.hid hd
    rw [HV.out]
    clear hd
    go_wp2
    go_ret
    obtain ⟨m1, m2, m3⟩ := HT.out
    exact ⟨by rw [m2]; rfl, by rw [m1, m3]; exact HF.out⟩
  · have HOK := Lib.hid (num_ok hv)
    obtain ⟨z, hz⟩ : ∃ z : Nat, numV l 0 m = (z : Int) := ⟨(numV l 0 m).toNat, by omega⟩
    have HZ := Lib.hid hz
    have z1 : ((z : Int) == 0) = false := beq_eq_false_iff_ne.2 (by omega)
    by_cases hs : ((numL l 0 m).length : Int) < numV l 0 m
    · have HT := Lib.hid (text_short hv hs)
      have HS := Lib.hid hs
      clear hv hs hz hv0
      go_enter Try.func20, Try.ntmps20
      go_wp2_with fail
      refine HN.out.mono ?_
      rintro e w1 ⟨rfl, ⟨hsm, A, n, c, hB, hb, hc, hr⟩, hO⟩
      have hb2 := hb.len
      have q0 := hB.cell 0
      have qf := hB.frozen 1
      have q1 := hB.cell 1
      simp at q0 q1
      have s1 : (n : Int) < (z : Int) := by have := HS.out; rw [HZ.out] at this; omega
      have s2 : decide (n < z) = true := by simp; omega
      have HF : Hid (Did w (w1.setCell ⟨q, 1, none⟩ (.int .i64 3)) q r (numL l 0 m) 3) := Lib.hid (by
        have ho : Only w1 (w1.setCell ⟨q, 1, none⟩ (.int .i64 3)) (one q) := (Only.refl w1 (one q)).put _ (fun _ => rfl)
        exact ⟨⟨hsm, A, n, c, Blk.put hB 1 _, hb.only ho (fun a' _ hlt e => by have e2 : a'.block = q := e; omega), hc, hr⟩, hO.trans ho fun i _ e => e⟩)
      rw [HZ.out]
      clear hb2 hB hb hr hO hsm
      go_wp2
      go_ret
      obtain ⟨m1, m2, m3⟩ := HT.out
      exact ⟨by rw [m2]; rfl, by rw [m1, m3]; exact HF.out⟩
    · have HT := Lib.hid (text_ok hv hs)
      have HS := Lib.hid hs
      clear hv hs hz hv0
      go_enter Try.func20, Try.ntmps20
      go_wp2_with fail
      refine HN.out.mono ?_
      rintro e w1 ⟨rfl, ⟨hsm, A, n, c, hB, hb, hc, hr⟩, hO⟩
      have hb2 := hb.len
      have q0 := hB.cell 0
      have qf := hB.frozen 0
      have q1 := hB.cell 1
      simp at q0 q1
      have zn : z ≤ n := by have := HS.out; rw [HZ.out] at this; omega
      have s1 : ¬ (n : Int) < (z : Int) := by omega
      have s2 : decide (n < z) = false := by simp; omega
      have hst := fun W => slice_to A n c z (by omega) W
      have hsf := fun W => slice_from A n c z zn W
      have htx := run_text (P := Try.prog) (c := c) 26 9 5 Try.underlying26 Try.underlying5 Try.underlying9 (hb.take zn)
      have HF : Hid (Did w (w1.setCell ⟨q, 0, none⟩ (.slice (if c = z then A else A.map (·.add z)) (n - z) (c - z))) q r ((numL l 0 m).drop z) 0) := Lib.hid (by
        have ho : Only w1 (w1.setCell ⟨q, 0, none⟩ (.slice (if c = z then A else A.map (·.add z)) (n - z) (c - z))) (one q) := (Only.refl w1 (one q)).put _ (fun _ => rfl)
        rw [HOK.out] at hB
        refine ⟨⟨by rw [List.length_drop]; omega, _, n - z, c - z, Blk.put hB 0 _, ?_, by omega, fun a' ha => ?_⟩, hO.trans ho fun i _ e => e⟩
        · exact (hb.only ho (fun a' _ hlt e => by have e2 : a'.block = q := e; omega)).drop zn hc
        · obtain ⟨a2, h2, h3⟩ := dropped_block a' ha
          rw [hr a2 h2, h3])
      rw [HZ.out]
      clear hb2 hB hb hr hO hsm hc
      generalize hA' : (if c = z then A else A.map (·.add z)) = A' at *
      generalize hn' : n - z = n' at *
      generalize hc' : c - z = c' at *
      clear hA' hn' hc'
      go_wp2
      go_ret
      obtain ⟨m1, m2, m3⟩ := HT.out
      rw [HZ.out] at m2 m3
      exact ⟨by rw [m2]; rfl, by rw [m1, m3]; exact HF.out⟩

end Go.Proofs.Ytkpdcgikmjhhfaa.Pk
