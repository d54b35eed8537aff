/- The document's disk: Sync. -/
import Derived.Test.YteakoniapgkicaaDkF
namespace Go.Proofs.Yteakoniapgkicaa.Dk
open Go.ChangeShapes Go.WideShapes Go.ChangeAt Go.RowKit
open Qu (Blk)
open Mv (Only)
open Se (All64 blanks Rows64 noughts noughts_len)
open By (cellsB cellsB_length cellsB_at)
set_option linter.unusedVariables false

/-- A sector of what was written is written over. -/
theorem RefAt.setNow {w : World} {B : Nat} {p : Place} {d : DS} {k : Nat} {b : List UInt8} (h : RefAt w B p d) (n0 : 0 < d.n) (hk : k < d.n) (hb : b.length = 64) :
    RefAt (w.setCells p.a (k * 64) (cellsB b)) B p { d with now := d.now.set k b } ∧ Only w (w.setCells p.a (k * 64) (cellsB b)) p.has := by
  obtain ⟨h1, h2, h3, h4, h5⟩ := h.apart n0
  obtain ⟨hr, hg⟩ := h.now.put (s := b) hk hb
  have ho : Only w (w.setCells p.a (k * 64) (cellsB b)) (Mv.one p.a) := Mv.Only.ofGrown hg fun i hi => by injection hi with hi; exact hi.symm
  have en : ({ d with now := d.now.set k b } : DS).n = d.n := by unfold DS.n; simp
  have q1 : ∀ i j : Nat, i ≠ j → ¬ Mv.one j i := fun i j hij e => hij e
  refine ⟨⟨⟨h.ok.now.set hb k, h.ok.sure, by simp [h.ok.len], by simp [h.ok.lens]⟩, h.base, ?_, ?_, ?_, ?_, h.ne⟩, ho.mono fun i _ e => .inr (.inl e)⟩
  · rw [en]; exact Mv.blk_only h.box ho (q1 _ _ h1)
  · rw [en]; exact hr
  · rw [en]; exact h.sure.only ho (q1 _ _ (fun e => h.ne e.symm))
  · rw [en]
    exact Mv.own_only h.loose ho fun g hg' e => by
      rw [Mv.ownBlock_some] at hg'
      injection hg' with hg'
      have e' : g = p.a := e
      omega

/-- A sector of what is sure is written over. -/
theorem RefAt.setSure {w : World} {B : Nat} {p : Place} {d : DS} {k : Nat} {b : List UInt8} (h : RefAt w B p d) (n0 : 0 < d.n) (hk : k < d.n) (hb : b.length = 64) :
    RefAt (w.setCells p.b (k * 64) (cellsB b)) B p { d with sure := d.sure.set k b } ∧ Only w (w.setCells p.b (k * 64) (cellsB b)) p.has := by
  obtain ⟨h1, h2, h3, h4, h5⟩ := h.apart n0
  obtain ⟨hr, hg⟩ := h.sure.put (s := b) hk hb
  have ho : Only w (w.setCells p.b (k * 64) (cellsB b)) (Mv.one p.b) := Mv.Only.ofGrown hg fun i hi => by injection hi with hi; exact hi.symm
  have q1 : ∀ i j : Nat, i ≠ j → ¬ Mv.one j i := fun i j hij e => hij e
  refine ⟨⟨⟨h.ok.now, h.ok.sure.set hb k, by simp [h.ok.len], h.ok.lens⟩, h.base, ?_, ?_, ?_, ?_, h.ne⟩, ho.mono fun i _ e => .inr (.inr (.inl e))⟩
  · exact Mv.blk_only h.box ho (q1 _ _ h2)
  · exact h.now.only ho (q1 _ _ h.ne)
  · exact hr
  · exact Mv.own_only h.loose ho fun g hg' e => by
      rw [Mv.ownBlock_some] at hg'
      injection hg' with hg'
      have e' : g = p.b := e
      omega

/-- A flag is set. -/
theorem RefAt.setLoose {w : World} {B : Nat} {p : Place} {d : DS} {k : Nat} (h : RefAt w B p d) (n0 : 0 < d.n) (hk : k < d.n) (v : Bool) :
    RefAt (w.setCell ⟨p.c, k, none⟩ (.bool v)) B p { d with loose := d.loose.set k v } ∧ Only w (w.setCell ⟨p.c, k, none⟩ (.bool v)) p.has := by
  obtain ⟨h1, h2, h3, h4, h5⟩ := h.apart n0
  obtain ⟨hl, hg⟩ := World.ownsRow.stored h.loose k (.bool v)
  have ho : Only w (w.setCell ⟨p.c, k, none⟩ (.bool v)) (Mv.one p.c) := Mv.Only.ofGrown hg fun i hi => by injection hi with hi; exact hi.symm
  have q1 : ∀ i j : Nat, i ≠ j → ¬ Mv.one j i := fun i j hij e => hij e
  refine ⟨⟨⟨h.ok.now, h.ok.sure, h.ok.len, by simp [h.ok.lens]⟩, h.base, ?_, ?_, ?_, ?_, h.ne⟩, ho.mono fun i _ e => .inr (.inr (.inr e))⟩
  · exact Mv.blk_only h.box ho (q1 _ _ h3)
  · exact h.now.only ho (q1 _ _ (fun e => h4 e.symm))
  · exact h.sure.only ho (q1 _ _ (fun e => h5 e.symm))
  · unfold Bools
    rw [List.map_set]
    exact hl

theorem RefAt.drew {w : World} {B : Nat} {p : Place} {d : DS} (h : RefAt w B p d) : RefAt w.drew B p d := h.only (S := fun _ => False) (Mv.Only.refl w _).drew (fun _ _ h => h)

/-- What a region that moves a sector from one row to another finds, in whatever order. -/
theorem keep3_drew {w : World} {x s t c k : Nat} {A0 A1 A2 : Value} {b : List UInt8}
    (h : w.cell? ⟨x, 0, none⟩ = some A0 ∧ w.cell? ⟨x, 1, none⟩ = some A1 ∧ w.cell? ⟨x, 2, none⟩ = some A2 ∧ w.rangeAt s (k * 64) (cellsB b) ∧ w.there t (k * 64) 64 ∧ w.cell? ⟨c, k, none⟩ = some (lies w ⟨c, k, none⟩) ∧ w.frozen? ⟨c, k, none⟩ = false) :
    w.drew.cell? ⟨x, 0, none⟩ = some A0 ∧ w.drew.cell? ⟨x, 1, none⟩ = some A1 ∧ w.drew.cell? ⟨x, 2, none⟩ = some A2 ∧ w.drew.rangeAt s (k * 64) (cellsB b) ∧ w.drew.there t (k * 64) 64 ∧ w.drew.cell? ⟨c, k, none⟩ = some (lies w.drew ⟨c, k, none⟩) ∧ w.drew.frozen? ⟨c, k, none⟩ = false := h

theorem keep3_sec {w : World} {x s t c k : Nat} {A0 A1 A2 : Value} {b : List UInt8} (vs : List Value) (h1 : x ≠ t) (h2 : c ≠ t) (h3 : s ≠ t)
    (h : w.cell? ⟨x, 0, none⟩ = some A0 ∧ w.cell? ⟨x, 1, none⟩ = some A1 ∧ w.cell? ⟨x, 2, none⟩ = some A2 ∧ w.rangeAt s (k * 64) (cellsB b) ∧ w.there t (k * 64) 64 ∧ w.cell? ⟨c, k, none⟩ = some (lies w ⟨c, k, none⟩) ∧ w.frozen? ⟨c, k, none⟩ = false) :
    (w.setCells t (k * 64) vs).cell? ⟨x, 0, none⟩ = some A0 ∧ (w.setCells t (k * 64) vs).cell? ⟨x, 1, none⟩ = some A1 ∧ (w.setCells t (k * 64) vs).cell? ⟨x, 2, none⟩ = some A2 ∧ (w.setCells t (k * 64) vs).rangeAt s (k * 64) (cellsB b) ∧ (w.setCells t (k * 64) vs).there t (k * 64) 64 ∧ (w.setCells t (k * 64) vs).cell? ⟨c, k, none⟩ = some (lies (w.setCells t (k * 64) vs) ⟨c, k, none⟩) ∧ (w.setCells t (k * 64) vs).frozen? ⟨c, k, none⟩ = false := by
  obtain ⟨q0, q1, q2, q3, q4, q5, q6⟩ := h
  have e : ∀ y : Addr, y.block ≠ t → (w.setCells t (k * 64) vs).cell? y = w.cell? y := fun y hy => World.cell?_setCells_out t vs (k * 64) w y (fun e => absurd e hy)
  exact ⟨(e _ h1).trans q0, (e _ h1).trans q1, (e _ h1).trans q2, World.rangeAt_setCells_apart q3 _ _ _ (.inl h3), World.there_setCells q4 _ _ _, lies_of ((e _ h2).trans q5), by rw [World.frozen?_setCells]; exact q6⟩

theorem keep3_flag {w : World} {x s t c k : Nat} {A0 A1 A2 : Value} {b : List UInt8} (v : Value) (h1 : x ≠ c) (h2 : t ≠ c) (h3 : s ≠ c)
    (h : w.cell? ⟨x, 0, none⟩ = some A0 ∧ w.cell? ⟨x, 1, none⟩ = some A1 ∧ w.cell? ⟨x, 2, none⟩ = some A2 ∧ w.rangeAt s (k * 64) (cellsB b) ∧ w.there t (k * 64) 64 ∧ w.cell? ⟨c, k, none⟩ = some (lies w ⟨c, k, none⟩) ∧ w.frozen? ⟨c, k, none⟩ = false) :
    (w.setCell ⟨c, k, none⟩ v).cell? ⟨x, 0, none⟩ = some A0 ∧ (w.setCell ⟨c, k, none⟩ v).cell? ⟨x, 1, none⟩ = some A1 ∧ (w.setCell ⟨c, k, none⟩ v).cell? ⟨x, 2, none⟩ = some A2 ∧ (w.setCell ⟨c, k, none⟩ v).rangeAt s (k * 64) (cellsB b) ∧ (w.setCell ⟨c, k, none⟩ v).there t (k * 64) 64 ∧ (w.setCell ⟨c, k, none⟩ v).cell? ⟨c, k, none⟩ = some (lies (w.setCell ⟨c, k, none⟩ v) ⟨c, k, none⟩) ∧ (w.setCell ⟨c, k, none⟩ v).frozen? ⟨c, k, none⟩ = false := by
  have e1 : w.setCell ⟨c, k, none⟩ v = w.setCells c k [v] := rfl
  rw [e1]
  obtain ⟨q0, q1, q2, q3, q4, q5, q6⟩ := h
  have e : ∀ y : Addr, y.block ≠ c → (w.setCells c k [v]).cell? y = w.cell? y := fun y hy => World.cell?_setCells_out c [v] k w y (fun e => absurd e hy)
  have hs := World.isSome_setCells c [v] k w ⟨c, k, none⟩ (by rw [q5]; rfl)
  obtain ⟨u, hu⟩ := Option.isSome_iff_exists.1 hs
  exact ⟨(e _ h1).trans q0, (e _ h1).trans q1, (e _ h1).trans q2, World.rangeAt_setCells_apart q3 _ _ _ (.inl h3), World.there_setCells q4 _ _ _, lies_of hu, by rw [World.frozen?_setCells]; exact q6⟩

/-- The flag of a place. -/
theorem RefAt.flag {w : World} {B : Nat} {p : Place} {d : DS} {k : Nat} (h : RefAt w B p d) (hk : k < d.n) : w.cell? ⟨p.c, k, none⟩ = some (.bool (d.loose.getD k false)) := by
  have hl := h.loose.1
  rw [h.loose.cellAt k (by omega), List.getElem?_map, List.getD]
  rw [List.getElem?_eq_getElem (by rw [List.length_map] at hl; omega)]
  rfl

/-! ### Sync -/
/-- The first k sectors are made sure. -/
def syncN (d : DS) : Nat → DS
  | 0 => d
  | k + 1 => { syncN d k with sure := (syncN d k).sure.set k (d.now.getD k []), loose := (syncN d k).loose.set k false }

theorem syncN_now (d : DS) : ∀ k, (syncN d k).now = d.now ∧ (syncN d k).off = d.off ∧ (syncN d k).armed = d.armed
  | 0 => ⟨rfl, rfl, rfl⟩
  | k + 1 => syncN_now d k

theorem syncN_sure {d : DS} (h : d.Ok) : ∀ k, k ≤ d.n → (syncN d k).sure = d.now.take k ++ d.sure.drop k ∧ (syncN d k).loose = List.replicate k false ++ d.loose.drop k
  | 0, _ => ⟨rfl, rfl⟩
  | k + 1, hk => by
    obtain ⟨h1, h2⟩ := syncN_sure h k (by omega)
    have l1 : d.now.length = d.n := rfl
    have l2 := h.len
    have l3 := h.lens
    obtain ⟨s, hs⟩ : ∃ s, d.now[k]? = some s := ⟨_, List.getElem?_eq_getElem (by omega)⟩
    have hg : d.now.getD k [] = s := by rw [List.getD, hs]; rfl
    refine ⟨?_, ?_⟩
    · show (syncN d k).sure.set k (d.now.getD k []) = _
      rw [h1, hg]
      apply List.ext_getElem?
      intro j
      rcases Nat.lt_trichotomy j k with hj | hj | hj
      · rw [List.getElem?_set_ne (by omega), List.getElem?_append_left (by rw [List.length_take]; omega), List.getElem?_append_left (by rw [List.length_take]; omega), List.getElem?_take, List.getElem?_take, if_pos hj, if_pos (by omega)]
      · subst hj
        rw [List.getElem?_set_self (by rw [List.length_append, List.length_take, List.length_drop]; omega), List.getElem?_append_left (by rw [List.length_take]; omega), List.getElem?_take, if_pos (by omega), hs]
      · rw [List.getElem?_set_ne (by omega), List.getElem?_append_right (by rw [List.length_take]; omega), List.getElem?_append_right (by rw [List.length_take]; omega), List.length_take, List.length_take, List.getElem?_drop, List.getElem?_drop]
        congr 1
        omega
    · show (syncN d k).loose.set k false = _
      rw [h2]
      apply List.ext_getElem?
      intro j
      rcases Nat.lt_trichotomy j k with hj | hj | hj
      · rw [List.getElem?_set_ne (by omega), List.getElem?_append_left (by rw [List.length_replicate]; omega), List.getElem?_append_left (by rw [List.length_replicate]; omega), List.getElem?_replicate, List.getElem?_replicate, if_pos hj, if_pos (by omega)]
      · subst hj
        rw [List.getElem?_set_self (by rw [List.length_append, List.length_replicate, List.length_drop]; omega), List.getElem?_append_left (by rw [List.length_replicate]; omega), List.getElem?_replicate, if_pos (by omega)]
      · rw [List.getElem?_set_ne (by omega), List.getElem?_append_right (by rw [List.length_replicate]; omega), List.getElem?_append_right (by rw [List.length_replicate]; omega), List.length_replicate, List.length_replicate, List.getElem?_drop, List.getElem?_drop]
        congr 1
        omega

theorem syncN_end {d : DS} (h : d.Ok) (ho : d.off = false) (hh : hitB d = false) : syncN (tick d) d.n = syncD d := by
  obtain ⟨h1, h2⟩ := syncN_sure (d := tick d) (tick_ok h) d.n (Nat.le_refl _)
  obtain ⟨h3, h4, h5⟩ := syncN_now (tick d) d.n
  unfold syncD
  rw [ho, if_neg (by simp), hh, if_neg (by simp)]
  have l1 : (tick d).now.take d.n = d.now := List.take_of_length_le (Nat.le_refl _)
  have l2 : (tick d).sure.drop d.n = [] := List.drop_eq_nil_of_le (by show d.sure.length ≤ _; rw [h.len]; exact Nat.le_refl _)
  have l3 : (tick d).loose.drop d.n = [] := List.drop_eq_nil_of_le (by show d.loose.length ≤ _; rw [h.lens]; exact Nat.le_refl _)
  rw [l1, l2, List.append_nil] at h1
  rw [l3, List.append_nil] at h2
  generalize syncN (tick d) d.n = e at *
  cases e
  simp only at h1 h2 h3 h4 h5
  subst h1 h2 h3 h4 h5
  rfl

theorem syncN_step {w : World} {B : Nat} {p : Place} {d : DS} {k : Nat} {s : List UInt8} (h : RefAt w B p (syncN d k)) (n0 : 0 < d.n) (hk : k < d.n) (hs : d.now[k]? = some s) :
    RefAt ((w.setCells p.b (k * 64) (cellsB s)).setCell ⟨p.c, k, none⟩ (.bool false)) B p (syncN d (k + 1)) ∧ Only w ((w.setCells p.b (k * 64) (cellsB s)).setCell ⟨p.c, k, none⟩ (.bool false)) p.has := by
  have hn : (syncN d k).n = d.n := by unfold DS.n; rw [(syncN_now d k).1]
  have hs2 : (syncN d k).now[k]? = some s := by rw [(syncN_now d k).1]; exact hs
  have hg : d.now.getD k [] = s := by rw [List.getD, hs]; rfl
  obtain ⟨h1, o1⟩ := h.setSure (by rw [hn]; exact n0) (by rw [hn]; exact hk) (h.now.1.at hs2)
  obtain ⟨h2, o2⟩ := h1.setLoose (k := k) (by show 0 < (syncN d k).n; rw [hn]; exact n0) (by show k < (syncN d k).n; rw [hn]; exact hk) false
  refine ⟨?_, o1.trans o2 fun i _ h => h⟩
  have e : syncN d (k + 1) = { { syncN d k with sure := (syncN d k).sure.set k s } with loose := (syncN d k).loose.set k false } := by
    show ({ syncN d k with sure := (syncN d k).sure.set k (d.now.getD k []), loose := (syncN d k).loose.set k false } : DS) = _
    rw [hg]
  rw [e]
  exact h2

set_option maxHeartbeats 2000000 in
theorem rsync_any (w : World) (B : Nat) (p : Place) (d : DS) (h : RefAt w B p d) (n0 : 0 < d.n) (hn : d.n ≤ 1000000) (ha : d.armed ≤ 9223372036854775807) :
    Calls Try.prog 27 #[.pointer (some ⟨p.x, 0, none⟩)] w fun e w' => e = .returned (.int .i64 (syncE d)) ∧ RefAt w' B p (syncD d) ∧ Only w w' p.has := by
  have c3 := h.box.cell 3
  simp at c3
  cases ho : d.off with
  | true =>
    rw [ho] at c3
    have HV : Hid (syncE d = 9 ∧ syncD d = d) := Lib.hid ⟨by unfold syncE; rw [ho]; rfl, by unfold syncD; rw [ho]; rfl⟩
    have HR := Lib.hid h
    clear h ho
    go_enter Try.func27, Try.ntmps27
    go_wp2_with fail
    go_ret
    exact ⟨by rw [HV.out.1]; rfl, by rw [HV.out.2]; exact HR.out, Mv.Only.refl _ _⟩
  | false =>
    rw [ho] at c3
    have HR := Lib.hid h
    have HO := Lib.hid ho
    have HK := Lib.hid h.ok
    clear h ho
    cases hh : hitB d with
    | true =>
      have HV : Hid (syncE d = 9 ∧ syncD d = tick d) := Lib.hid ⟨by unfold syncE; rw [HO.out, hh]; rfl, by unfold syncD; rw [HO.out, hh]; rfl⟩
      have HH := Lib.hid hh
      clear hh
      go_enter Try.func27, Try.ntmps27
      go_wp2_with (first
        | (refine (rhit_any w B p d HR.out n0 ha).mono ?_; rintro e w1 ⟨rfl, hr1, ho1⟩; have HR1 := Lib.hid (And.intro hr1 ho1); clear hr1 ho1; rw [HH.out]))
      go_ret
      exact ⟨by rw [HV.out.1]; rfl, by rw [HV.out.2]; exact HR1.out.1, HR1.out.2⟩
    | false =>
      have HV : Hid (syncE d = 0 ∧ syncN (tick d) d.n = syncD d) := Lib.hid ⟨by unfold syncE; rw [HO.out, hh]; rfl, syncN_end HK.out HO.out hh⟩
      have HH := Lib.hid hh
      clear hh
      go_enter Try.func27, Try.ntmps27
      go_wp2_with (first
        | (refine (rhit_any w B p d HR.out n0 ha).mono ?_; rintro e w1 ⟨rfl, hr1, ho1⟩; have HR1 := Lib.hid (And.intro hr1 ho1); clear hr1 ho1; rw [HH.out]))
      have en : (tick d).n = d.n := rfl
      go_loopw [3] (fun s3 wr => ∃ i : Nat, s3 = .int .i64 (i : Int) ∧ i ≤ d.n ∧ RefAt wr B p (syncN (tick d) i) ∧ Only w wr p.has) (fun s3 _ => d.n - (intOf s3).toNat)
      case atStart => exact ⟨0, rfl, by omega, HR1.out.1, HR1.out.2⟩
      case round =>
        clear HR HR1
        obtain ⟨i, rfl, hi, hR, hO⟩ := hrel
        have en2 : (syncN (tick d) i).n = d.n := by unfold DS.n; rw [(syncN_now (tick d) i).1]; rfl
        have c0 := hR.box.cell 0
        have c1 := hR.box.cell 1
        have c2 := hR.box.cell 2
        simp at c0 c1 c2
        rw [en2] at c0 c1 c2
        have i0 : (0 : Int) ≤ (i : Int) := by omega
        have n1 : (d.n : Int) ≤ 1000000 := by omega
        have HR := Lib.hid hR
        have HO2 := Lib.hid hO
        by_cases hlt : i < d.n
        · have i1 : (i : Int) < (d.n : Int) := by omega
          have i2 : decide (i < d.n) = true := by simp; omega
          obtain ⟨s, hs⟩ : ∃ s, d.now[i]? = some s := ⟨_, List.getElem?_eq_getElem hlt⟩
          have hs64 : s.length = 64 := HK.out.now.at hs
          have hs2 : (syncN (tick d) i).now[i]? = some s := by rw [(syncN_now (tick d) i).1]; exact hs
          have HA := Lib.hid (hR.apart (by rw [en2]; exact n0))
          have HNE := Lib.hid hR.ne
          have q3 : wr.rangeAt p.a (i * 64) (cellsB s) := hR.now.range hs2
          have q4 : wr.there p.b (i * 64) 64 := hR.sure.there (by rw [en2]; exact hlt)
          have q5 : wr.cell? ⟨p.c, i, none⟩ = some (lies wr ⟨p.c, i, none⟩) := lies_of (hR.flag (by rw [en2]; exact hlt))
          have q6 := hR.loose.frozenAt i
          have hu : Try.prog.underlying 42 = some (.array 64 5) := Try.underlying42
          have hcl : (cellsB s).length = 64 := by rw [cellsB_length, hs64]
          have hii : (Try.prog.info? 42).map (·.size) = some (cellsB s).length := by rw [size_sector, hcl]
          have hone : ∀ v ∈ cellsB s, v.oneCell' = true := By.cellsB_one s
          have HW : Hid (RefAt ((wr.drew.setCells p.b (i * 64) (cellsB s)).setCell ⟨p.c, i, none⟩ (.bool false)) B p (syncN (tick d) (i + 1)) ∧ Only w ((wr.drew.setCells p.b (i * 64) (cellsB s)).setCell ⟨p.c, i, none⟩ (.bool false)) p.has) := Lib.hid (by
            obtain ⟨o1, o2⟩ := syncN_step hR.drew n0 hlt hs
            exact ⟨o1, hO.drew.trans o2 fun i _ h => h⟩)
          clear hR hO hs hs2 en2 en hs64
          go_wp2_with fail
          go_region_held3 (fun w' => w'.cell? ⟨p.x, 0, none⟩ = some (.slice (some ⟨p.a, 0, none⟩) d.n p.ca) ∧ w'.cell? ⟨p.x, 1, none⟩ = some (.slice (some ⟨p.b, 0, none⟩) d.n p.cb) ∧ w'.cell? ⟨p.x, 2, none⟩ = some (.slice (some ⟨p.c, 0, none⟩) d.n p.cc) ∧ w'.rangeAt p.a (i * 64) (cellsB s) ∧ w'.there p.b (i * 64) 64 ∧ w'.cell? ⟨p.c, i, none⟩ = some (lies w' ⟨p.c, i, none⟩) ∧ w'.frozen? ⟨p.c, i, none⟩ = false)
            (first
              | assumption
              | (go_split_ands; exact keep3_drew ⟨by assumption, by assumption, by assumption, by assumption, by assumption, by assumption, by assumption⟩)
              | (go_split_ands; exact keep3_sec _ HA.out.2.1 HA.out.2.2.2.2 HNE.out ⟨by assumption, by assumption, by assumption, by assumption, by assumption, by assumption, by assumption⟩)
              | (go_split_ands; exact keep3_flag _ HA.out.2.2.1 (Ne.symm HA.out.2.2.2.2) (Ne.symm HA.out.2.2.2.1) ⟨by assumption, by assumption, by assumption, by assumption, by assumption, by assumption, by assumption⟩))
            (fail)
          go_wp2
          go_roundw
          case rel => exact ⟨i + 1, by go_num, by omega, HW.out.1, HW.out.2⟩
          case measure => simp [intOf]; omega
        · have hi64 : i = d.n := by omega
          have i1 : ¬ (i : Int) < (d.n : Int) := by omega
          have i2 : decide (i < d.n) = false := by simp; omega
          have HE : Hid (RefAt wr B p (syncD d)) := Lib.hid (by rw [← HV.out.2, ← hi64]; exact hR)
          clear hi64 hR en2 en
          go_wp2_with fail
          go_ret
          exact ⟨by rw [HV.out.1]; rfl, HE.out, HO2.out⟩

end Go.Proofs.Yteakoniapgkicaa.Dk
