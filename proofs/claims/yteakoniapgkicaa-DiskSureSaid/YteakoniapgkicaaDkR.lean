/- The document's disk in memory; contracts of its Arm, hit, Read. -/
import Derived.Test.YteakoniapgkicaaDkM
import Derived.Test.YteakoniapgkicaaDkA
import Derived.Deep.RegionHeld3
import Derived.Deep.RegionLaw
namespace Go.Proofs.Yteakoniapgkicaa.Dk
open Go.ChangeShapes Go.WideShapes Go.ChangeAt Go.RowKit
open Qu (Blk)
open Mv (Only)
open Se (All64 blanks Rows64 noughts noughts_len)
open By (cellsB cellsB_length cellsB_at)
set_option linter.unusedVariables false

/-- A row of flags of the call's own. -/
def Bools (w : World) (B g n cap : Nat) (l : List Bool) : Prop := w.ownsRow B 4 1 (.slice (some ⟨g, 0, none⟩) n cap) n (l.map Value.bool)

/-- Where the parts of the document's disk lie. -/
structure Place where
  x : Nat
  a : Nat
  b : Nat
  c : Nat
  ca : Nat
  cb : Nat
  cc : Nat

/-- The document's disk d, at these places. -/
structure RefAt (w : World) (B : Nat) (p : Place) (d : DS) : Prop where
  ok : d.Ok
  base : B ≤ p.x
  box : Blk w p.x 58 #[.slice (some ⟨p.a, 0, none⟩) d.n p.ca, .slice (some ⟨p.b, 0, none⟩) d.n p.cb, .slice (some ⟨p.c, 0, none⟩) d.n p.cc, .bool d.off, .int .i64 (d.armed : Int)]
  now : Rows64 w B 42 p.a d.n p.ca d.now
  sure : Rows64 w B 42 p.b d.n p.cb d.sure
  loose : Bools w B p.c d.n p.cc d.loose
  ne : p.a ≠ p.b

/-- The blocks of it. -/
def Place.has (p : Place) : Nat → Prop := fun k => k = p.x ∨ k = p.a ∨ k = p.b ∨ k = p.c

section
variable {w w' : World} {B : Nat} {p : Place} {d : DS} {S : Nat → Prop}
theorem RefAt.only (h : RefAt w B p d) (k : Only w w' S) (hs : ∀ i, p.has i → ¬ S i) : RefAt w' B p d :=
  ⟨h.ok, h.base, Mv.blk_only h.box k (hs _ (.inl rfl)), h.now.only k (hs _ (.inr (.inl rfl))), h.sure.only k (hs _ (.inr (.inr (.inl rfl)))),
   Mv.own_only h.loose k fun g hg => by rw [Mv.ownBlock_some] at hg; injection hg with hg; subst hg; exact hs _ (.inr (.inr (.inr rfl))), h.ne⟩

theorem RefAt.below (h : RefAt w B p d) (hb : Below w.heap.size w w') : RefAt w' B p d :=
  h.only (Mv.Only.ofBelow hb fun _ => False) (fun _ _ h => h)

theorem RefAt.apart (h : RefAt w B p d) (n0 : 0 < d.n) : p.x ≠ p.a ∧ p.x ≠ p.b ∧ p.x ≠ p.c ∧ p.c ≠ p.a ∧ p.c ≠ p.b := by
  have h1 := Mv.own_blk_ne h.now.2 h.box (by omega)
  have h2 := Mv.own_blk_ne h.sure.2 h.box (by omega)
  have h3 := Mv.own_blk_ne h.loose h.box (by omega)
  have e1 : ∀ g, p.c = g → ∀ {E size n cap : Nat} {xs : List Value}, w.ownsRow B E size (.slice (some ⟨g, 0, none⟩) n cap) n xs → E = 4 := fun g hg E size n cap xs ho => by
    rcases ho.2 with ⟨h0, _⟩ | ⟨g1, cap1, cur1, hv1, _, hh1, _⟩
    · cases h0
    · rcases h.loose.2 with ⟨h0, _⟩ | ⟨g2, cap2, cur2, hv2, _, hh2, _⟩
      · cases h0
      · cases hv1
        cases hv2
        rw [hg] at hh2
        rw [hh1] at hh2
        injection hh2 with hh2
        injection hh2 with _ ht
  refine ⟨fun e => h1 p.a rfl e.symm, fun e => h2 p.b rfl e.symm, fun e => h3 p.c rfl e.symm, fun e => ?_, fun e => ?_⟩
  · have := e1 p.a e h.now.2
    omega
  · have := e1 p.b e h.sure.2
    omega
end

/-- What a store into the box turns. -/
theorem RefAt.setBox {w : World} {B : Nat} {p : Place} {d d' : DS} {w' : World} (h : RefAt w B p d) (n0 : 0 < d.n) (hb : Blk w' p.x 58 #[.slice (some ⟨p.a, 0, none⟩) d.n p.ca, .slice (some ⟨p.b, 0, none⟩) d.n p.cb, .slice (some ⟨p.c, 0, none⟩) d.n p.cc, .bool d'.off, .int .i64 (d'.armed : Int)])
    (ho : Only w w' (Mv.one p.x)) (e1 : d'.now = d.now) (e2 : d'.sure = d.sure) (e3 : d'.loose = d.loose) : RefAt w' B p d' ∧ Only w w' p.has := by
  obtain ⟨h1, h2, h3, _, _⟩ := h.apart n0
  have en : d'.n = d.n := by unfold DS.n; rw [e1]
  refine ⟨⟨⟨by rw [e1]; exact h.ok.now, by rw [e2]; exact h.ok.sure, by rw [e1, e2]; exact h.ok.len, by rw [e1, e3]; exact h.ok.lens⟩, h.base, by rw [en]; exact hb, ?_, ?_, ?_, h.ne⟩, ho.mono fun i _ e => .inl e⟩
  · rw [en, e1]; exact h.now.only ho fun e => h1 (show p.a = p.x from e).symm
  · rw [en, e2]; exact h.sure.only ho fun e => h2 (show p.b = p.x from e).symm
  · rw [en, e3]
    exact Mv.own_only h.loose ho fun g hg e => by
      rw [Mv.ownBlock_some] at hg
      injection hg with hg
      have e' : g = p.x := e
      omega

theorem rhit_any (w : World) (B : Nat) (p : Place) (d : DS) (h : RefAt w B p d) (n0 : 0 < d.n) (ha : d.armed ≤ 9223372036854775807) :
    Calls Try.prog 36 #[.pointer (some ⟨p.x, 0, none⟩)] w fun e w' => e = .returned (.bool (hitB d)) ∧ RefAt w' B p (tick d) ∧ Only w w' p.has := by
  have c4 := h.box.cell 4
  have f4 := h.box.frozen 4
  have c3 := h.box.cell 3
  have f3 := h.box.frozen 3
  simp at c4 c3
  have a0 : (0 : Int) ≤ (d.armed : Int) := by omega
  have a1 : (d.armed : Int) ≤ 9223372036854775807 := by omega
  by_cases h0 : d.armed = 0
  · have HR : Hid (hitB d = false ∧ RefAt w B p (tick d)) := Lib.hid (by
      refine ⟨by unfold hitB; rw [h0]; rfl, ?_⟩
      have e : tick d = d := by
        cases d
        simp only at h0
        subst h0
        simp [tick]
      rw [e]; exact h)
    have k0 : ¬ (0 : Int) < (d.armed : Int) := by omega
    have k1 : decide (0 < d.armed) = false := by simp; omega
    clear h h0
    go_enter Try.func36, Try.ntmps36
    go_wp2
    go_ret
    exact ⟨by rw [HR.out.1]; rfl, HR.out.2, Mv.Only.refl _ _⟩
  · have k0 : (0 : Int) < (d.armed : Int) := by omega
    have k1 : decide (0 < d.armed) = true := by simp; omega
    by_cases h1 : d.armed = 1
    · have HR : Hid (hitB d = true) := Lib.hid (by unfold hitB; rw [h1]; rfl)
      have HF : Hid (RefAt ((w.setCell ⟨p.x, 4, none⟩ (.int .i64 0)).setCell ⟨p.x, 3, none⟩ (.bool true)) B p (tick d) ∧ Only w ((w.setCell ⟨p.x, 4, none⟩ (.int .i64 0)).setCell ⟨p.x, 3, none⟩ (.bool true)) p.has) := Lib.hid (by
        refine h.setBox n0 ?_ (((Mv.Only.refl w (Mv.one p.x)).put _ fun _ => rfl).put _ fun _ => rfl) rfl rfl rfl
        have hb := (h.box.put 4 (.int .i64 0)).put 3 (.bool true)
        have e1 : (tick d).off = true := by unfold tick; simp [h1]
        have e2 : (tick d).armed = 0 := by unfold tick; simp [h1]
        rw [e1, e2]
        exact hb)
      have ka : (d.armed : Int) - 1 = 0 := by omega
      rw [h1] at c4
      clear h h0 h1
      go_enter Try.func36, Try.ntmps36
      go_wp2
      go_ret
      exact ⟨by rw [HR.out]; rfl, HF.out.1, HF.out.2⟩
    · have HR : Hid (hitB d = false) := Lib.hid (by unfold hitB; simpa using h1)
      have HF : Hid (RefAt (w.setCell ⟨p.x, 4, none⟩ (.int .i64 ((d.armed : Int) - 1))) B p (tick d) ∧ Only w (w.setCell ⟨p.x, 4, none⟩ (.int .i64 ((d.armed : Int) - 1))) p.has) := Lib.hid (by
        refine h.setBox n0 ?_ ((Mv.Only.refl w (Mv.one p.x)).put _ fun _ => rfl) rfl rfl rfl
        have hb := h.box.put 4 (.int .i64 ((d.armed : Int) - 1))
        have e1 : (tick d).off = d.off := by unfold tick; simp [h1]
        have e2 : (((tick d).armed : Nat) : Int) = (d.armed : Int) - 1 := by
          show ((d.armed - 1 : Nat) : Int) = _
          omega
        rw [e1, e2]
        exact hb)
      have ka : ((d.armed : Int) - 1 == 0) = false := beq_eq_false_iff_ne.2 (by omega)
      clear h h0 h1
      go_enter Try.func36, Try.ntmps36
      go_wp2
      go_ret
      exact ⟨by rw [HR.out]; rfl, HF.out.1, HF.out.2⟩

theorem rarm_any (w : World) (B : Nat) (p : Place) (d : DS) (m : Int) (h : RefAt w B p d) (n0 : 0 < d.n) (hm : m ≤ 9223372036854775807) :
    Calls Try.prog 28 #[.pointer (some ⟨p.x, 0, none⟩), .int .i64 m] w fun e w' => e = .returned (.tuple #[]) ∧ RefAt w' B p (armD d m) ∧ Only w w' p.has := by
  obtain ⟨x, hx⟩ : ∃ x : Nat, m.toNat = x := ⟨_, rfl⟩
  have hm1 : (if m < 0 then 0 else m) = (x : Int) := by split <;> omega
  have hm2 : (if 0 < m then m else 0) = (x : Int) := by split <;> omega
  have c4 := h.box.cell 4
  have f4 := h.box.frozen 4
  simp at c4
  have HF : Hid (RefAt (w.setCell ⟨p.x, 4, none⟩ (.int .i64 (x : Int))) B p (armD d m) ∧ Only w (w.setCell ⟨p.x, 4, none⟩ (.int .i64 (x : Int))) p.has) := Lib.hid (by
    refine h.setBox n0 ?_ ((Mv.Only.refl w (Mv.one p.x)).put _ fun _ => rfl) rfl rfl rfl
    have hb := h.box.put 4 (.int .i64 (x : Int))
    have e2 : (armD d m).armed = x := hx
    rw [e2]
    exact hb)
  clear h hx hm
  go_enter Try.func28, Try.ntmps28
  go_wp2
  go_end0
  exact ⟨rfl, HF.out.1, HF.out.2⟩

/-- As the walk meets it: a sector out of a row of them. -/
theorem load_row {ops : Array Oper} {rest : List Oper} {op : Oper} {a : Act} {w : World} {Q : Exit → Act → World → Prop} (free : op.guard = none) (x : Operand) (is : op.op = .load 42 x) {B E g n cap i : Nat} {l : List (List UInt8)} (vx : a.eval x = .pointer (some ⟨g, i * 64, none⟩)) (s : List UInt8) (h : Rows64 w B E g n cap l) (hi : l[i]? = some s)
    (go : wpList Try.prog ops Q rest (a.put op.dst (.agg (secCells s))) w) : wpList Try.prog ops Q (op :: rest) a w := by
  refine wpList_plain free fun K hK => ?_
  have hl := run_loadAt_mid (P := Try.prog) w g (i * 64) 42 (cellsB s) _ (h.range hi) Try.underlying42 rfl (by rw [size_sector, cellsB_length, h.1.at hi])
  unfold Oper.wp execOp
  simp only [is, vx, hl, Sem.run_bind, Sem.run_pure, Result.andThen_ok]
  exact hK _ _ go

theorem two_results {f : Func} {p u : Tmp} {T : TypeId} (hf : f.results = #[.cell p T, .tmp u]) (tmps : Array Value) (w : World) (g : Nat) (s : List UInt8) (v : Value) (hT : T = 42) (h : Sec w g s) (hp : tmps.getD p undef = .pointer (some ⟨g, 0, none⟩)) (hv : tmps.getD u undef = v) : (results f tmps).run Try.prog w = .ok (.tuple #[.agg (secCells s), v]) w := by
  subst hT
  have hl := run_loadVar_row (P := Try.prog) w g 42 42 (secCells s) (0, 0) _ h.2.here Try.underlying42 rfl (by rw [size_sector, secCells_size, h.1])
  rw [results_cell_tmp hf, hp, hv]
  simp only [asAddr, Sem.run_pure, Result.andThen_ok, hl]

set_option maxHeartbeats 1000000 in
theorem rread_any (w : World) (B : Nat) (p : Place) (d : DS) (i : Int) (h : RefAt w B p d) (n0 : 0 < d.n) (hn : d.n ≤ 1000000) :
    Calls Try.prog 31 #[.pointer (some ⟨p.x, 0, none⟩), .int .i64 i] w fun e w' => e = .returned (.tuple #[.agg (secCells (readV d i)), .int .i64 (readE d i)]) ∧ Below w.heap.size w w' := by
  have c0 := h.box.cell 0
  have c3 := h.box.cell 3
  simp at c0 c3
  have hx := h.box.lt
  have n1 : (d.n : Int) ≤ 1000000 := by omega
  cases ho : d.off with
  | true =>
    rw [ho] at c3
    have HE := Lib.hid (readE_down (i := i) ho)
    have HV : Hid (readV d i = noughts) := Lib.hid (by unfold readV; rw [HE.out, if_neg (by omega)])
    clear h ho
    go_enter Try.func31, Try.ntmps31
    go_wp2_with (first
      | (refine new_sec rfl rfl ?_; intro w1 hS1 hB1 hZ1; have d0 := (hB1.cell (p := ⟨p.x, 0, none⟩) hx).trans c0; have d3 := (hB1.cell (p := ⟨p.x, 3, none⟩) hx).trans c3; have HB := Lib.hid (And.intro hB1 hZ1); clear hB1 hZ1)
      | (refine zero_sec rfl rfl ?_)
      | (refine store_sec rfl _ _ rfl _ rfl _ rfl _ hS1 noughts_len ?_; intro w2 hS2 hG2))
    refine bodyPost_ret (two_results rfl _ w2 w.heap.size noughts (.int .i64 9) rfl hS2 rfl rfl) rfl ⟨by rw [HV.out, HE.out], ?_⟩
    exact HB.out.1.grown hG2 HB.out.1.size (fun k hk => by injection hk with hk; omega)
  | false =>
    rw [ho] at c3
    by_cases hr : 0 ≤ i ∧ i < (d.n : Int)
    · have HE := Lib.hid (readE_ok ho hr.1 hr.2)
      obtain ⟨k, hk⟩ : ∃ k : Nat, i = (k : Int) := ⟨i.toNat, by omega⟩
      subst hk
      have hkn : k < d.n := by omega
      obtain ⟨s, hs⟩ : ∃ s, d.now[k]? = some s := ⟨_, List.getElem?_eq_getElem hkn⟩
      have HV : Hid (readV d (k : Int) = s) := Lib.hid (by unfold readV; rw [HE.out, if_pos rfl, Int.toNat_natCast, List.getD, hs]; rfl)
      have hs64 := h.now.1.at hs
      have HR := Lib.hid h.now
      have HK := Lib.hid hs
      have hxa := (World.ownsRow.lt h.now.2 p.a rfl).2
      have k0 : (0 : Int) ≤ (k : Int) := by omega
      have k1 : (k : Int) < (d.n : Int) := by omega
      have k2 : decide (d.n ≤ k) = false := by simp; omega
      have k3 : ¬ (k : Int) < 0 := by omega
      clear h ho hr hs
      go_enter Try.func31, Try.ntmps31
      go_wp2_with (first
        | (refine new_sec rfl rfl ?_; intro w1 hS1 hB1 hZ1; have d0 := (hB1.cell (p := ⟨p.x, 0, none⟩) hx).trans c0; have d3 := (hB1.cell (p := ⟨p.x, 3, none⟩) hx).trans c3; have HN1 := Lib.hid (HR.out.only (Mv.Only.ofBelow hB1 fun _ => False) (fun h => h)); have HB := Lib.hid (And.intro hB1 hZ1); clear hB1 hZ1)
        | (refine load_row rfl _ rfl rfl s HN1.out HK.out ?_)
        | (refine store_sec rfl _ _ rfl _ rfl _ rfl _ hS1 hs64 ?_; intro w2 hS2 hG2))
      refine bodyPost_ret (two_results rfl _ w2 w.heap.size s (.int .i64 0) rfl hS2 rfl rfl) rfl ⟨by rw [HV.out, HE.out], ?_⟩
      exact HB.out.1.grown hG2 HB.out.1.size (fun k hk => by injection hk with hk; omega)
    · have HE := Lib.hid (readE_out (i := i) ho (by omega))
      have HV : Hid (readV d i = noughts) := Lib.hid (by unfold readV; rw [HE.out, if_neg (by omega)])
      by_cases hneg : i < 0
      · have i0 : decide (i < 0) = true := by simpa using hneg
        clear h ho hr
        go_enter Try.func31, Try.ntmps31
        go_wp2_with (first
          | (refine new_sec rfl rfl ?_; intro w1 hS1 hB1 hZ1; have d0 := (hB1.cell (p := ⟨p.x, 0, none⟩) hx).trans c0; have d3 := (hB1.cell (p := ⟨p.x, 3, none⟩) hx).trans c3; have HB := Lib.hid (And.intro hB1 hZ1); clear hB1 hZ1)
          | (refine zero_sec rfl rfl ?_)
          | (refine store_sec rfl _ _ rfl _ rfl _ rfl _ hS1 noughts_len ?_; intro w2 hS2 hG2))
        refine bodyPost_ret (two_results rfl _ w2 w.heap.size noughts (.int .i64 2) rfl hS2 rfl rfl) rfl ⟨by rw [HV.out, HE.out], ?_⟩
        exact HB.out.1.grown hG2 HB.out.1.size (fun k hk => by injection hk with hk; omega)
      · have i0 : ¬ i < 0 := hneg
        have i1 : (d.n : Int) ≤ i := by omega
        have i2 : decide ((d.n : Int) ≤ i) = true := by simpa using i1
        clear h ho hr hneg
        go_enter Try.func31, Try.ntmps31
        go_wp2_with (first
          | (refine new_sec rfl rfl ?_; intro w1 hS1 hB1 hZ1; have d0 := (hB1.cell (p := ⟨p.x, 0, none⟩) hx).trans c0; have d3 := (hB1.cell (p := ⟨p.x, 3, none⟩) hx).trans c3; have HB := Lib.hid (And.intro hB1 hZ1); clear hB1 hZ1)
          | (refine zero_sec rfl rfl ?_)
          | (refine store_sec rfl _ _ rfl _ rfl _ rfl _ hS1 noughts_len ?_; intro w2 hS2 hG2))
        refine bodyPost_ret (two_results rfl _ w2 w.heap.size noughts (.int .i64 2) rfl hS2 rfl rfl) rfl ⟨by rw [HV.out, HE.out], ?_⟩
        exact HB.out.1.grown hG2 HB.out.1.size (fun k hk => by injection hk with hk; omega)

/-- A sector is written over, and is loose. -/
theorem RefAt.write {w : World} {B : Nat} {p : Place} {d : DS} {k : Nat} {b : List UInt8} (h : RefAt w B p d) (n0 : 0 < d.n) (hk : k < d.n) (hb : b.length = 64) :
    RefAt ((w.setCells p.a (k * 64) (cellsB b)).setCell ⟨p.c, k, none⟩ (.bool true)) B p { d with now := d.now.set k b, loose := d.loose.set k true } ∧ Only w ((w.setCells p.a (k * 64) (cellsB b)).setCell ⟨p.c, k, none⟩ (.bool true)) p.has := by
  obtain ⟨h1, h2, h3, h4, h5⟩ := h.apart n0
  obtain ⟨hr, hg⟩ := h.now.put (s := b) hk hb
  have ho1 : Only w (w.setCells p.a (k * 64) (cellsB b)) (Mv.one p.a) := Mv.Only.ofGrown hg fun i hi => by injection hi with hi; exact hi.symm
  have hl1 : Bools (w.setCells p.a (k * 64) (cellsB b)) B p.c d.n p.cc d.loose := Mv.own_only h.loose ho1 fun g hg' e => by
    rw [Mv.ownBlock_some] at hg'
    injection hg' with hg'
    have e' : g = p.a := e
    omega
  obtain ⟨hl2, hg2⟩ := World.ownsRow.stored hl1 k (.bool true)
  have ho2 : Only (w.setCells p.a (k * 64) (cellsB b)) ((w.setCells p.a (k * 64) (cellsB b)).setCell ⟨p.c, k, none⟩ (.bool true)) (Mv.one p.c) := Mv.Only.ofGrown hg2 fun i hi => by injection hi with hi; exact hi.symm
  have en : ({ d with now := d.now.set k b, loose := d.loose.set k true } : DS).n = d.n := by unfold DS.n; simp
  have q1 : ∀ i j : Nat, i ≠ j → ¬ Mv.one j i := fun i j hij e => hij e
  refine ⟨⟨⟨h.ok.now.set hb k, h.ok.sure, by simp [h.ok.len], by simp [h.ok.lens]⟩, h.base, ?_, ?_, ?_, ?_, h.ne⟩, ?_⟩
  · rw [en]
    exact Mv.blk_only (Mv.blk_only h.box ho1 (q1 _ _ h1)) ho2 (q1 _ _ h3)
  · rw [en]
    exact hr.only ho2 (q1 _ _ (fun e => h4 e.symm))
  · rw [en]
    exact (h.sure.only ho1 (q1 _ _ (fun e => h.ne e.symm))).only ho2 (q1 _ _ (fun e => h5 e.symm))
  · rw [en]
    unfold Bools
    rw [List.map_set]
    exact hl2
  · exact (ho1.mono fun i _ e => .inr (.inl e)).trans ho2 fun i _ e => .inr (.inr (.inr e))

/-- The rules by which a drawn region reads and writes sectors. -/
theorem RefAt.rules {w : World} {B : Nat} {p : Place} {d : DS} {k : Nat} (h : RefAt w B p d) (n0 : 0 < d.n) (hk : k < d.n) (b : List UInt8) (hb : b.length = 64) :
    (Instr.storeAt 42 (.pointer (some ⟨p.a, k * 64, none⟩)) (.agg (secCells b))).run Try.prog w = .ok () (w.setCells p.a (k * 64) (cellsB b)) ∧ (∃ v, (w.setCells p.a (k * 64) (cellsB b)).cell? ⟨p.c, k, none⟩ = some (.bool v)) ∧ (w.setCells p.a (k * 64) (cellsB b)).frozen? ⟨p.c, k, none⟩ = false := by
  obtain ⟨h1, h2, h3, h4, h5⟩ := h.apart n0
  have hth := h.now.there hk
  refine ⟨run_storeAt_mid (P := Try.prog) w p.a (k * 64) 42 (secCells b) (by rw [secCells_size, hb]; exact hth) (by rw [size_sector, secCells_size, hb]) (all_oneCell_toArray (By.cellsB_one b)), ?_, ?_⟩
  · rw [World.cell?_setCells_out p.a (cellsB b) (k * 64) w ⟨p.c, k, none⟩ (fun e => absurd e h4)]
    have hl := h.loose.1
    rw [h.loose.cellAt k (by omega), List.getElem?_map, List.getElem?_eq_getElem (by rw [List.length_map] at hl; omega)]
    exact ⟨_, rfl⟩
  · rw [World.frozen?_setCells]
    exact h.loose.frozenAt k

end Go.Proofs.Yteakoniapgkicaa.Dk
