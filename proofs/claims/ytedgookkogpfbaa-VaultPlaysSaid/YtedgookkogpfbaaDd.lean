/- The landed disk in memory. · The landed disk: what is refused, Len, Down, Arm, count, kept, Read, New. · The landed disk: Read, New, Write. · The landed disk: settle, Sync, Crash, Start, Fork; of nil; all its contracts. · What the statements of layer 6 ask with: awake, same, step. -/
import Derived.Test.YtedgookkogpfbaaDkY
import Derived.Laws.MakeOwn
import Derived.Lib.SliceRun
import Derived.Deep.AppendLies
import Derived.Test.YtedgookkogpfbaaBa
import Derived.Deep.CutBlock
import Derived.Deep.DeepCutAuto
set_option maxRecDepth 100000

section
namespace Go.Proofs.Ytedgookkogpfbaa.Dd
open Go.ChangeShapes Go.WideShapes Go.ChangeAt Go.RowKit
open Qu (Blk)
open Mv (Only)
open Se (All64 blanks Rows64 noughts noughts_len)
open By (cellsB cellsB_length cellsB_at)
open Dk (DS dsNew readE readV writeE writeD syncE syncD armD crashD startD secCells secCells_size size_sector Bools lies lies_of tick hitB crashN crashN_n crashN_len crashN_at mix mixS mixS_len keeps keeps_le rank rank_yes midD tick_ok)
set_option linter.unusedVariables false

/-- Where the parts of the landed disk lie. -/
structure Pl where
  x : Nat
  a : Nat
  b : Nat
  c : Nat
  ca : Nat
  cb : Nat
  cc : Nat

/-- The blocks of it. -/
def Pl.has (p : Pl) : Nat → Prop := fun k => k = p.x ∨ k = p.a ∨ k = p.b ∨ k = p.c

structure Lay (w : World) (B : Nat) (p : Pl) (d : DS) : Prop where
  ok : d.Ok
  base : B ≤ p.x
  box : Blk w p.x 63 #[.slice (some ⟨p.b, 0, none⟩) d.n p.cb, .slice (some ⟨p.a, 0, none⟩) d.n p.ca, .slice (some ⟨p.c, 0, none⟩) d.n p.cc, .bool d.off, .int .i64 (d.armed : Int)]
  now : Rows64 w B 43 p.a d.n p.ca d.now
  sure : Rows64 w B 43 p.b d.n p.cb d.sure
  loose : Bools w B p.c d.n p.cc d.loose
  ne : p.a ≠ p.b

section
variable {w w' : World} {B : Nat} {p : Pl} {d : DS} {S : Nat → Prop}
theorem Lay.only (h : Lay w B p d) (k : Only w w' S) (hs : ∀ i, p.has i → ¬ S i) : Lay w' B p d :=
  ⟨h.ok, h.base, Mv.blk_only h.box k (hs _ (.inl rfl)), h.now.only k (hs _ (.inr (.inl rfl))), h.sure.only k (hs _ (.inr (.inr (.inl rfl)))),
   Mv.own_only h.loose k fun g hg => by rw [Mv.ownBlock_some] at hg; injection hg with hg; subst hg; exact hs _ (.inr (.inr (.inr rfl))), h.ne⟩

theorem Lay.below (h : Lay w B p d) (hb : Below w.heap.size w w') : Lay w' B p d :=
  h.only (Mv.Only.ofBelow hb fun _ => False) (fun _ _ h => h)

theorem Lay.apart (h : Lay w B p d) (n0 : 0 < d.n) : p.x ≠ p.a ∧ p.x ≠ p.b ∧ p.x ≠ p.c ∧ p.c ≠ p.a ∧ p.c ≠ p.b := by
  have h1 := Mv.own_blk_ne h.now.2 h.box (by omega)
  have h2 := Mv.own_blk_ne h.sure.2 h.box (by omega)
  have h3 := Mv.own_blk_ne h.loose h.box (by omega)
  have e1 : ∀ g, p.c = g → ∀ {E size n cap : Nat} {xs : List Value}, w.ownsRow B E size (.slice (some ⟨g, 0, none⟩) n cap) n xs → E = 4 := fun g hg E size n cap xs ho => by
    rcases ho.2 with ⟨h0, _⟩ | ⟨g1, cap1, cur1, hv1, _, hh1, _⟩
    · cases h0
    · rcases h.loose.2 with ⟨h0, _⟩ | ⟨g2, cap2, cur2, hv2, _, hh2, _⟩
      · cases h0
      · cases hv1
        cases hv2
        rw [hg] at hh2
        rw [hh1] at hh2
        injection hh2 with hh2
        injection hh2 with _ ht
  refine ⟨fun e => h1 p.a rfl e.symm, fun e => h2 p.b rfl e.symm, fun e => h3 p.c rfl e.symm, fun e => ?_, fun e => ?_⟩
  · have := e1 p.a e h.now.2
    omega
  · have := e1 p.b e h.sure.2
    omega
end

theorem Lay.setBox {w : World} {B : Nat} {p : Pl} {d d' : DS} {w' : World} (h : Lay w B p d) (n0 : 0 < d.n) (hb : Blk w' p.x 63 #[.slice (some ⟨p.b, 0, none⟩) d.n p.cb, .slice (some ⟨p.a, 0, none⟩) d.n p.ca, .slice (some ⟨p.c, 0, none⟩) d.n p.cc, .bool d'.off, .int .i64 (d'.armed : Int)])
    (ho : Only w w' (Mv.one p.x)) (e1 : d'.now = d.now) (e2 : d'.sure = d.sure) (e3 : d'.loose = d.loose) : Lay w' B p d' ∧ Only w w' p.has := by
  obtain ⟨h1, h2, h3, _, _⟩ := h.apart n0
  have en : d'.n = d.n := by unfold DS.n; rw [e1]
  refine ⟨⟨⟨by rw [e1]; exact h.ok.now, by rw [e2]; exact h.ok.sure, by rw [e1, e2]; exact h.ok.len, by rw [e1, e3]; exact h.ok.lens⟩, h.base, by rw [en]; exact hb, ?_, ?_, ?_, h.ne⟩, ho.mono fun i _ e => .inl e⟩
  · rw [en, e1]; exact h.now.only ho fun e => h1 (show p.a = p.x from e).symm
  · rw [en, e2]; exact h.sure.only ho fun e => h2 (show p.b = p.x from e).symm
  · rw [en, e3]
    exact Mv.own_only h.loose ho fun g hg e => by
      rw [Mv.ownBlock_some] at hg
      injection hg with hg
      have e' : g = p.x := e
      omega

theorem Lay.write {w : World} {B : Nat} {p : Pl} {d : DS} {k : Nat} {b : List UInt8} (h : Lay w B p d) (n0 : 0 < d.n) (hk : k < d.n) (hb : b.length = 64) :
    Lay ((w.setCells p.a (k * 64) (cellsB b)).setCell ⟨p.c, k, none⟩ (.bool true)) B p { d with now := d.now.set k b, loose := d.loose.set k true } ∧ Only w ((w.setCells p.a (k * 64) (cellsB b)).setCell ⟨p.c, k, none⟩ (.bool true)) p.has := by
  obtain ⟨h1, h2, h3, h4, h5⟩ := h.apart n0
  obtain ⟨hr, hg⟩ := h.now.put (s := b) hk hb
  have ho1 : Only w (w.setCells p.a (k * 64) (cellsB b)) (Mv.one p.a) := Mv.Only.ofGrown hg fun i hi => by injection hi with hi; exact hi.symm
  have hl1 : Bools (w.setCells p.a (k * 64) (cellsB b)) B p.c d.n p.cc d.loose := Mv.own_only h.loose ho1 fun g hg' e => by
    rw [Mv.ownBlock_some] at hg'
    injection hg' with hg'
    have e' : g = p.a := e
    omega
  obtain ⟨hl2, hg2⟩ := World.ownsRow.stored hl1 k (.bool true)
  have ho2 : Only (w.setCells p.a (k * 64) (cellsB b)) ((w.setCells p.a (k * 64) (cellsB b)).setCell ⟨p.c, k, none⟩ (.bool true)) (Mv.one p.c) := Mv.Only.ofGrown hg2 fun i hi => by injection hi with hi; exact hi.symm
  have en : ({ d with now := d.now.set k b, loose := d.loose.set k true } : DS).n = d.n := by unfold DS.n; simp
  have q1 : ∀ i j : Nat, i ≠ j → ¬ Mv.one j i := fun i j hij e => hij e
  refine ⟨⟨⟨h.ok.now.set hb k, h.ok.sure, by simp [h.ok.len], by simp [h.ok.lens]⟩, h.base, ?_, ?_, ?_, ?_, h.ne⟩, ?_⟩
  · rw [en]
    exact Mv.blk_only (Mv.blk_only h.box ho1 (q1 _ _ h1)) ho2 (q1 _ _ h3)
  · rw [en]
    exact hr.only ho2 (q1 _ _ (fun e => h4 e.symm))
  · rw [en]
    exact (h.sure.only ho1 (q1 _ _ (fun e => h.ne e.symm))).only ho2 (q1 _ _ (fun e => h5 e.symm))
  · rw [en]
    unfold Bools
    rw [List.map_set]
    exact hl2
  · exact (ho1.mono fun i _ e => .inr (.inl e)).trans ho2 fun i _ e => .inr (.inr (.inr e))

theorem Lay.setNow {w : World} {B : Nat} {p : Pl} {d : DS} {k : Nat} {b : List UInt8} (h : Lay w B p d) (n0 : 0 < d.n) (hk : k < d.n) (hb : b.length = 64) :
    Lay (w.setCells p.a (k * 64) (cellsB b)) B p { d with now := d.now.set k b } ∧ Only w (w.setCells p.a (k * 64) (cellsB b)) p.has := by
  obtain ⟨h1, h2, h3, h4, h5⟩ := h.apart n0
  obtain ⟨hr, hg⟩ := h.now.put (s := b) hk hb
  have ho : Only w (w.setCells p.a (k * 64) (cellsB b)) (Mv.one p.a) := Mv.Only.ofGrown hg fun i hi => by injection hi with hi; exact hi.symm
  have en : ({ d with now := d.now.set k b } : DS).n = d.n := by unfold DS.n; simp
  have q1 : ∀ i j : Nat, i ≠ j → ¬ Mv.one j i := fun i j hij e => hij e
  refine ⟨⟨⟨h.ok.now.set hb k, h.ok.sure, by simp [h.ok.len], by simp [h.ok.lens]⟩, h.base, ?_, ?_, ?_, ?_, h.ne⟩, ho.mono fun i _ e => .inr (.inl e)⟩
  · rw [en]; exact Mv.blk_only h.box ho (q1 _ _ h1)
  · rw [en]; exact hr
  · rw [en]; exact h.sure.only ho (q1 _ _ (fun e => h.ne e.symm))
  · rw [en]
    exact Mv.own_only h.loose ho fun g hg' e => by
      rw [Mv.ownBlock_some] at hg'
      injection hg' with hg'
      have e' : g = p.a := e
      omega

theorem Lay.setSure {w : World} {B : Nat} {p : Pl} {d : DS} {k : Nat} {b : List UInt8} (h : Lay w B p d) (n0 : 0 < d.n) (hk : k < d.n) (hb : b.length = 64) :
    Lay (w.setCells p.b (k * 64) (cellsB b)) B p { d with sure := d.sure.set k b } ∧ Only w (w.setCells p.b (k * 64) (cellsB b)) p.has := by
  obtain ⟨h1, h2, h3, h4, h5⟩ := h.apart n0
  obtain ⟨hr, hg⟩ := h.sure.put (s := b) hk hb
  have ho : Only w (w.setCells p.b (k * 64) (cellsB b)) (Mv.one p.b) := Mv.Only.ofGrown hg fun i hi => by injection hi with hi; exact hi.symm
  have q1 : ∀ i j : Nat, i ≠ j → ¬ Mv.one j i := fun i j hij e => hij e
  refine ⟨⟨⟨h.ok.now, h.ok.sure.set hb k, by simp [h.ok.len], h.ok.lens⟩, h.base, ?_, ?_, ?_, ?_, h.ne⟩, ho.mono fun i _ e => .inr (.inr (.inl e))⟩
  · exact Mv.blk_only h.box ho (q1 _ _ h2)
  · exact h.now.only ho (q1 _ _ h.ne)
  · exact hr
  · exact Mv.own_only h.loose ho fun g hg' e => by
      rw [Mv.ownBlock_some] at hg'
      injection hg' with hg'
      have e' : g = p.b := e
      omega

theorem Lay.setLoose {w : World} {B : Nat} {p : Pl} {d : DS} {k : Nat} (h : Lay w B p d) (n0 : 0 < d.n) (hk : k < d.n) (v : Bool) :
    Lay (w.setCell ⟨p.c, k, none⟩ (.bool v)) B p { d with loose := d.loose.set k v } ∧ Only w (w.setCell ⟨p.c, k, none⟩ (.bool v)) p.has := by
  obtain ⟨h1, h2, h3, h4, h5⟩ := h.apart n0
  obtain ⟨hl, hg⟩ := World.ownsRow.stored h.loose k (.bool v)
  have ho : Only w (w.setCell ⟨p.c, k, none⟩ (.bool v)) (Mv.one p.c) := Mv.Only.ofGrown hg fun i hi => by injection hi with hi; exact hi.symm
  have q1 : ∀ i j : Nat, i ≠ j → ¬ Mv.one j i := fun i j hij e => hij e
  refine ⟨⟨⟨h.ok.now, h.ok.sure, h.ok.len, by simp [h.ok.lens]⟩, h.base, ?_, ?_, ?_, ?_, h.ne⟩, ho.mono fun i _ e => .inr (.inr (.inr e))⟩
  · exact Mv.blk_only h.box ho (q1 _ _ h3)
  · exact h.now.only ho (q1 _ _ (fun e => h4 e.symm))
  · exact h.sure.only ho (q1 _ _ (fun e => h5 e.symm))
  · unfold Bools
    rw [List.map_set]
    exact hl

theorem Lay.drew {w : World} {B : Nat} {p : Pl} {d : DS} (h : Lay w B p d) : Lay w.drew B p d := h.only (S := fun _ => False) (Mv.Only.refl w _).drew (fun _ _ h => h)

theorem Lay.flag {w : World} {B : Nat} {p : Pl} {d : DS} {k : Nat} (h : Lay w B p d) (hk : k < d.n) : w.cell? ⟨p.c, k, none⟩ = some (.bool (d.loose.getD k false)) := by
  have hl := h.loose.1
  rw [h.loose.cellAt k (by omega), List.getElem?_map, List.getD]
  rw [List.getElem?_eq_getElem (by rw [List.length_map] at hl; omega)]
  rfl

theorem Lay.from {w : World} {B : Nat} {p : Pl} {d : DS} (h : Lay w B p d) : ∀ k, p.has k → B ≤ k := fun k hk => by
  rcases hk with rfl | rfl | rfl | rfl
  · exact h.base
  · exact (World.ownsRow.lt h.now.2 p.a rfl).1
  · exact (World.ownsRow.lt h.sure.2 p.b rfl).1
  · exact (World.ownsRow.lt h.loose p.c rfl).1

theorem midD_done {w : World} {B : Nat} {p : Pl} {d : DS} {kn : Nat} {kf : Nat → Int} {i : Nat} (hok : d.Ok) (n0 : 0 < d.n) (hi : i < d.n) (hl : d.loose.getD i false = true) (h : Lay w B p (midD d kn kf i (keeps kn kf (rank d.loose i)))) :
    Lay ((w.setCells p.a (i * 64) (cellsB (mixS d kn kf i))).setCell ⟨p.c, i, none⟩ (.bool false)) B p (crashN d kn kf (i + 1)) ∧ Only w ((w.setCells p.a (i * 64) (cellsB (mixS d kn kf i))).setCell ⟨p.c, i, none⟩ (.bool false)) p.has := by
  have hn : (midD d kn kf i (keeps kn kf (rank d.loose i))).n = d.n := crashN_n kn kf i
  obtain ⟨h1, o1⟩ := h.setNow (k := i) (by rw [hn]; exact n0) (by rw [hn]; exact hi) (mixS_len kn kf hok hi)
  obtain ⟨h2, o2⟩ := h1.setLoose (k := i) (by unfold DS.n; rw [List.length_set]; exact Nat.lt_of_lt_of_eq n0 hn.symm) (by unfold DS.n; rw [List.length_set]; exact Nat.lt_of_lt_of_eq hi hn.symm) false
  refine ⟨?_, o1.trans o2 fun i _ h => h⟩
  have e : crashN d kn kf (i + 1) = { midD d kn kf i (keeps kn kf (rank d.loose i)) with now := (midD d kn kf i (keeps kn kf (rank d.loose i))).now.set i (mixS d kn kf i), loose := (midD d kn kf i (keeps kn kf (rank d.loose i))).loose.set i false } := by
    rw [crashN, if_pos hl]
    rfl
  rw [e]
  exact h2

/-! ### what is alike where it is not loose -/
/-- Where a sector is not loose, what was written last is sure. -/
def Tidy (d : DS) : Prop := ∀ i, d.loose.getD i false = false → d.now[i]? = d.sure[i]?

theorem tidy_new (n : Nat) : Tidy (dsNew n) := fun _ _ => rfl

theorem tidy_write {d : DS} {i : Int} {b : List UInt8} (h : Tidy d) (hok : d.Ok) : Tidy (writeD d i b) := by
  unfold writeD
  split
  · exact h
  · rename_i hr
    obtain ⟨r0, r1, _⟩ := Dk.inR_yes (d := d) (i := i) (Decidable.byContradiction fun e => hr e)
    obtain ⟨k, rfl⟩ : ∃ k : Nat, i = (k : Int) := ⟨i.toNat, by omega⟩
    have hk : k < d.loose.length := by rw [hok.lens]; show k < d.n; omega
    intro j hj
    rw [Int.toNat_natCast] at *
    have hj2 : (d.loose.set k true).getD j false = false := hj
    show (d.now.set k b)[j]? = d.sure[j]?
    by_cases e : k = j
    · subst e
      rw [List.getD, List.getElem?_set_self hk] at hj2
      cases hj2
    · rw [List.getElem?_set_ne e]
      rw [List.getD, List.getElem?_set_ne e] at hj2
      exact h j hj2

theorem tidy_crashN {d : DS} (kn : Nat) (kf : Nat → Int) (h : Tidy d) (hok : d.Ok) : Tidy (crashN d kn kf d.n) := by
  intro j hj
  rcases Nat.lt_or_ge j d.n with hlt | hge
  · obtain ⟨e1, e2, _⟩ := Dk.crashN_told (d := d) kn kf d.n j hlt (Nat.le_refl _) hok.lens hok.len
    rw [e1, e2]
    split
    · rfl
    · rename_i hl
      exact h j (by simpa using hl)
  · obtain ⟨e1, e2, _⟩ := crashN_at (d := d) kn kf d.n j hge
    have l0 : d.now.length = d.n := rfl
    have l1 := hok.len
    rw [e1, e2, List.getElem?_eq_none (by omega), List.getElem?_eq_none (by omega)]

theorem keeps_all (r : Nat) : keeps 1 (fun _ => 64) r = 64 := by simp [keeps]

theorem mix_all {a b : List UInt8} (ha : a.length = 64) (hb : b.length = 64) : mix a b 64 = a := by
  unfold mix
  rw [List.take_of_length_le (by omega), List.drop_eq_nil_of_le (by omega), List.append_nil]

/-- All is made sure by keeping all of each. -/
theorem sync_is {d : DS} (h : Tidy d) (hok : d.Ok) (ho : d.off = false) (hh : hitB d = false) : crashN (tick d) 1 (fun _ => 64) d.n = syncD d := by
  have l0 : d.now.length = d.n := rfl
  have l1 := hok.len
  have l2 := hok.lens
  have hm : ∀ j, j < d.n → some (mixS (tick d) 1 (fun _ => 64) j) = d.now[j]? := fun j hj => by
    unfold mixS
    rw [keeps_all]
    obtain ⟨a, ha⟩ : ∃ a, d.now[j]? = some a := ⟨_, List.getElem?_eq_getElem hj⟩
    obtain ⟨b, hb⟩ : ∃ b, d.sure[j]? = some b := ⟨_, List.getElem?_eq_getElem (by omega)⟩
    have e1 : (tick d).now.getD j [] = a := by show d.now.getD j [] = _; rw [List.getD, ha]; rfl
    have e2 : (tick d).sure.getD j [] = b := by show d.sure.getD j [] = _; rw [List.getD, hb]; rfl
    rw [e1, e2, mix_all (hok.now.at ha) (hok.sure.at hb), ha]
  have told := fun j (hj : j < d.n) => Dk.crashN_told (d := tick d) 1 (fun _ => 64) d.n j hj (Nat.le_refl _) l2 l1
  obtain ⟨n1, n2, n3⟩ := crashN_len (d := tick d) 1 (fun _ => 64) d.n
  obtain ⟨o1, o2⟩ := Dk.crashN_off (d := tick d) 1 (fun _ => 64) d.n
  have m1 : (tick d).now = d.now := rfl
  have m2 : (tick d).sure = d.sure := rfl
  have m3 : (tick d).loose = d.loose := rfl
  rw [m1] at n1
  rw [m2] at n2
  rw [m3] at n3
  have e1 : (crashN (tick d) 1 (fun _ => 64) d.n).now = d.now := by
    apply List.ext_getElem?
    intro j
    rcases Nat.lt_or_ge j d.n with hj | hj
    · rw [(told j hj).1]
      split
      · exact hm j hj
      · rfl
    · rw [List.getElem?_eq_none (by omega), List.getElem?_eq_none (by omega)]
  have e2 : (crashN (tick d) 1 (fun _ => 64) d.n).sure = d.now := by
    apply List.ext_getElem?
    intro j
    rcases Nat.lt_or_ge j d.n with hj | hj
    · rw [(told j hj).2.1]
      split
      · exact hm j hj
      · rename_i hl
        exact (h j (Bool.eq_false_iff.2 hl)).symm
    · rw [List.getElem?_eq_none (by omega), List.getElem?_eq_none (by omega)]
  have e3 : (crashN (tick d) 1 (fun _ => 64) d.n).loose = List.replicate d.n false := by
    apply List.ext_getElem?
    intro j
    rcases Nat.lt_or_ge j d.n with hj | hj
    · rw [(told j hj).2.2, List.getElem?_replicate, if_pos hj]
    · rw [List.getElem?_eq_none (by omega), List.getElem?_eq_none (by rw [List.length_replicate]; omega)]
  unfold syncD
  rw [ho, if_neg (by simp), hh, if_neg (by simp)]
  generalize crashN (tick d) 1 (fun _ => 64) d.n = e at *
  cases e
  simp only at e1 e2 e3 o1 o2
  subst e1 e2 e3 o1 o2
  rfl

theorem tidy_sync {d : DS} (h : Tidy d) : Tidy (syncD d) := by
  unfold syncD
  split
  · exact h
  · split
    · exact h
    · intro j _
      rfl

/-! ### the first bytes of a sector -/
theorem over_part {l : List (List UInt8)} {s : List UInt8} {i m : Nat} (h : All64 l) (hs : s.length = 64) (hi : i < l.length) (hm : m ≤ 64) : Se.over (cellsB l.flatten) (i * 64) (cellsB (s.take m)) = cellsB (l.set i (mix s (l.getD i []) m)).flatten := by
  have hg : l[i]? = some (l.getD i []) := by rw [List.getD, List.getElem?_eq_getElem hi]; rfl
  have hl64 : (l.getD i []).length = 64 := h.at hg
  have hx : (mix s (l.getD i []) m).length = 64 := Dk.mix_len hs hl64 hm
  have ht : (s.take m).length = m := by rw [List.length_take]; omega
  have hl := Se.flat_length h
  have hl2 := Se.flat_length (h.set hx i)
  apply List.ext_getElem?
  intro k
  rw [Se.over_at _ _ _ _ (by rw [cellsB_length, cellsB_length, hl, ht]; omega), cellsB_length, ht, cellsB_at, cellsB_at, cellsB_at]
  have e := Se.flat_at (h.set hx i) (k / 64) (k % 64) (by omega)
  have e0 := Se.flat_at h (k / 64) (k % 64) (by omega)
  have ek : k / 64 * 64 + k % 64 = k := by omega
  rw [ek] at e e0
  rw [e, e0]
  by_cases hk : i * 64 ≤ k ∧ k < i * 64 + m
  · rw [if_pos hk]
    have h1 : k / 64 = i := by omega
    rw [h1, List.getElem?_set_self hi, show k - i * 64 = k % 64 by omega]
    simp only [Option.getD_some]
    unfold mix
    rw [List.getElem?_append_left (by rw [ht]; omega)]
  · rw [if_neg hk]
    by_cases h1 : k / 64 = i
    · rw [h1, List.getElem?_set_self hi, hg]
      simp only [Option.getD_some]
      unfold mix
      rw [List.getElem?_append_right (by rw [ht]; omega), ht, List.getElem?_drop]
      congr 2
      omega
    · rw [List.getElem?_set_ne (fun e => h1 e.symm)]

theorem Rows64_part {w : World} {B E g n cap i m : Nat} {l : List (List UInt8)} {s : List UInt8} (h : Rows64 w B E g n cap l) (hi : i < n) (hs : s.length = 64) (hm : m ≤ 64) :
    Rows64 (w.setCells g (i * 64) (cellsB (s.take m))) B E g n cap (l.set i (mix s (l.getD i []) m)) ∧ w.grownBy (w.setCells g (i * 64) (cellsB (s.take m))) (some g) := by
  have hil : i < l.length := by rw [h.len]; exact hi
  have hg : l[i]? = some (l.getD i []) := by rw [List.getD, List.getElem?_eq_getElem hil]; rfl
  obtain ⟨h1, h2⟩ := Se.own_over (cellsB (s.take m)) _ w (i * 64) h.2
  rw [over_part h.1 hs hil hm] at h1
  exact ⟨⟨h.1.set (Dk.mix_len hs (h.1.at hg) hm) i, h1⟩, h2⟩

/-- The first bytes of a sector become sure. -/
theorem midD_part {w : World} {B : Nat} {p : Pl} {d : DS} {kn : Nat} {kf : Nat → Int} {i m : Nat} {s : List UInt8} (hok : d.Ok) (n0 : 0 < d.n) (hi : i < d.n) (hs : d.now[i]? = some s) (hm : m ≤ 64) (h : Lay w B p (crashN d kn kf i)) :
    Lay (w.setCells p.b (i * 64) (cellsB (s.take m))) B p (midD d kn kf i m) ∧ Only w (w.setCells p.b (i * 64) (cellsB (s.take m))) p.has := by
  have hn : (crashN d kn kf i).n = d.n := crashN_n kn kf i
  have hs64 := hok.now.at hs
  obtain ⟨h1, h2, h3, h4, h5⟩ := h.apart (by rw [hn]; exact n0)
  obtain ⟨hr, hg⟩ := Rows64_part (s := s) h.sure (by rw [hn]; exact hi) hs64 hm
  have ho : Only w (w.setCells p.b (i * 64) (cellsB (s.take m))) (Mv.one p.b) := Mv.Only.ofGrown hg fun i hi => by injection hi with hi; exact hi.symm
  have q1 : ∀ i j : Nat, i ≠ j → ¬ Mv.one j i := fun i j hij e => hij e
  have e : midD d kn kf i m = { crashN d kn kf i with sure := (crashN d kn kf i).sure.set i (mix s ((crashN d kn kf i).sure.getD i []) m) } := by
    unfold midD
    have e1 : d.now.getD i [] = s := by rw [List.getD, hs]; rfl
    have e2 : (crashN d kn kf i).sure.getD i [] = d.sure.getD i [] := by rw [List.getD, List.getD, (crashN_at (d := d) kn kf i i (Nat.le_refl _)).2.1]
    rw [e1, e2]
  rw [e]
  refine ⟨⟨⟨h.ok.now, hr.1, by simp only [List.length_set]; exact h.ok.len, h.ok.lens⟩, h.base, ?_, ?_, ?_, ?_, h.ne⟩, ho.mono fun i _ e => .inr (.inr (.inl e))⟩
  · exact Mv.blk_only h.box ho (q1 _ _ h2)
  · exact h.now.only ho (q1 _ _ h.ne)
  · exact hr
  · exact Mv.own_only h.loose ho fun g hg' e => by
      rw [Mv.ownBlock_some] at hg'
      injection hg' with hg'
      have e' : g = p.b := e
      omega

end Go.Proofs.Ytedgookkogpfbaa.Dd
end

section
namespace Go.Proofs.Ytedgookkogpfbaa.Dd
open Go.ChangeShapes Go.WideShapes Go.ChangeAt Go.RowKit
open Qu (Blk)
open Mv (Only)
open Se (All64 blanks Rows64 noughts noughts_len)
open By (cellsB cellsB_length cellsB_at)
open Dk (DS dsNew readE readV writeE writeD syncE syncD armD crashD startD secCells secCells_size size_sector Bools lies lies_of tick hitB crashN keeps keeps_le rank)
set_option linter.unusedVariables false

/-- The landed disk d, at these places. -/
structure At (w : World) (B : Nat) (q : Pl) (d : DS) : Prop where
  lay : Lay w B q d
  tidy : Tidy d

theorem At.ok {w : World} {B : Nat} {q : Pl} {d : DS} (h : At w B q d) : d.Ok := h.lay.ok

theorem At.only {w w' : World} {B : Nat} {q : Pl} {d : DS} {S : Nat → Prop} (h : At w B q d) (k : Only w w' S) (hs : ∀ i, q.has i → ¬ S i) : At w' B q d := ⟨h.lay.only k hs, h.tidy⟩

theorem At.from {w : World} {B : Nat} {q : Pl} {d : DS} (h : At w B q d) : ∀ k, q.has k → B ≤ k := h.lay.from

theorem At.there {w : World} {B : Nat} {q : Pl} {d : DS} (h : At w B q d) : ∀ k, q.has k → k < w.heap.size := fun k hk => by
  rcases hk with rfl | rfl | rfl | rfl
  · exact h.lay.box.lt
  · exact (World.ownsRow.lt h.lay.now.2 q.a rfl).2
  · exact (World.ownsRow.lt h.lay.sure.2 q.b rfl).2
  · exact (World.ownsRow.lt h.lay.loose q.c rfl).2

/-- The disk went on: what it is now, and where; nothing else has turned. -/
def Went (w : World) (B : Nat) (q : Pl) (d : DS) (w' : World) : Prop := ∃ q' : Pl, q'.x = q.x ∧ At w' B q' d ∧ Only w w' q.has ∧ ∀ k, q'.has k → q.has k ∨ w.heap.size ≤ k

theorem Went.of {w w' : World} {B : Nat} {q : Pl} {d : DS} (h : Lay w' B q d ∧ Only w w' q.has) (t : Tidy d) : Went w B q d w' := ⟨q, rfl, ⟨h.1, t⟩, h.2, fun _ hk => .inl hk⟩

theorem Went.refl {w : World} {B : Nat} {q : Pl} {d : DS} (h : At w B q d) : Went w B q d w := Went.of ⟨h.lay, Mv.Only.refl _ _⟩ h.tidy

def NewE (w : World) (n : Nat) (e : Ending) (w' : World) : Prop := ∃ q : Pl, e = .returned (.tuple #[.pointer (some ⟨q.x, 0, none⟩), .int .i64 0]) ∧ At w' w.heap.size q (dsNew n) ∧ (∀ k, q.has k → w.heap.size ≤ k) ∧ Below w.heap.size w w'

def ForkE (w : World) (d : DS) (e : Ending) (w' : World) : Prop := ∃ q : Pl, e = .returned (.pointer (some ⟨q.x, 0, none⟩)) ∧ At w' w.heap.size q d ∧ (∀ k, q.has k → w.heap.size ≤ k) ∧ Below w.heap.size w w'

section
variable (w : World) (B : Nat) (q : Pl) (d : DS)
theorem refused_any (x : Nat) (off : Bool) (c3 : w.cell? ⟨x, 3, none⟩ = some (.bool off)) : Calls Try.prog 67 #[.pointer (some ⟨x, 0, none⟩)] w fun e w' => e = .returned (.int .i64 (if off then 9 else 0)) ∧ w = w' := by
  cases off <;>
  · go_enter Try.func67, Try.ntmps67
    go_wp2
    go_ret
    exact ⟨rfl, rfl⟩

theorem refused_nil : Calls Try.prog 67 #[.pointer none] w fun e w' => e = .returned (.int .i64 1) ∧ w = w' := by
  go_enter Try.func67, Try.ntmps67
  go_wp2
  go_ret
  exact ⟨rfl, rfl⟩

theorem len_eq (x : Nat) (A : Option Addr) (n c : Nat) (c1 : w.cell? ⟨x, 1, none⟩ = some (.slice A n c)) (hn : n ≤ 1000000) : Calls Try.prog 34 #[.pointer (some ⟨x, 0, none⟩)] w fun e w' => e = .returned (.int .i64 (n : Int)) ∧ w = w' := by
  go_enter Try.func34, Try.ntmps34
  go_wp2
  go_ret
  exact ⟨rfl, rfl⟩

theorem down_eq (x : Nat) (off : Bool) (c3 : w.cell? ⟨x, 3, none⟩ = some (.bool off)) : Calls Try.prog 35 #[.pointer (some ⟨x, 0, none⟩)] w fun e w' => e = .returned (.bool off) ∧ w = w' := by
  go_enter Try.func35, Try.ntmps35
  go_wp2
  go_ret
  exact ⟨rfl, rfl⟩

theorem at_nil (i : Int) : Calls Try.prog 49 #[.pointer none, .int .i64 i] w fun e w' => e = .returned (.int .i64 1) ∧ w = w' := by
  have HC := Lib.hid (refused_nil w)
  go_enter Try.func49, Try.ntmps49
  go_wp2_with (first | (refine HC.out.mono ?_; rintro e w1 ⟨rfl, rfl⟩))
  go_ret
  exact ⟨rfl, rfl⟩

/-- Why nothing can be done at that place. -/
theorem at_any (i : Int) (h : Lay w B q d) (hn : d.n ≤ 1000000) : Calls Try.prog 49 #[.pointer (some ⟨q.x, 0, none⟩), .int .i64 i] w fun e w' => e = .returned (.int .i64 (readE d i)) ∧ w = w' := by
  have c1 := h.box.cell 1
  have c3 := h.box.cell 3
  simp at c1 c3
  have HL := Lib.hid (len_eq w q.x _ d.n _ c1 hn)
  have HC := Lib.hid (refused_any w q.x d.off c3)
  clear h c1 c3
  cases ho : d.off with
  | true =>
    rw [ho] at HC
    have HE := Lib.hid (Dk.readE_down (i := i) ho)
    clear ho
    go_enter Try.func49, Try.ntmps49
    go_wp2_with (first | (refine HC.out.mono ?_; rintro e w1 ⟨rfl, rfl⟩))
    go_ret
    exact ⟨by rw [HE.out]; rfl, rfl⟩
  | false =>
    rw [ho] at HC
    by_cases hneg : i < 0
    · have HE := Lib.hid (Dk.readE_out (i := i) ho (.inl hneg))
      have i0 : decide (i < 0) = true := by simpa using hneg
      clear ho
      go_enter Try.func49, Try.ntmps49
      go_wp2_with (first | (refine HC.out.mono ?_; rintro e w1 ⟨rfl, rfl⟩))
      go_ret
      exact ⟨by rw [HE.out]; rfl, rfl⟩
    · have i0 : decide (i < 0) = false := by simpa using hneg
      by_cases hge : (d.n : Int) ≤ i
      · have HE := Lib.hid (Dk.readE_out (i := i) ho (.inr hge))
        have i2 : decide ((d.n : Int) ≤ i) = true := by simpa using hge
        clear ho
        go_enter Try.func49, Try.ntmps49
        go_wp2_with (first | (refine HC.out.mono ?_; rintro e w1 ⟨rfl, rfl⟩) | (refine HL.out.mono ?_; rintro e w1 ⟨rfl, rfl⟩))
        go_ret
        exact ⟨by rw [HE.out]; rfl, rfl⟩
      · have HE := Lib.hid (Dk.readE_ok (i := i) ho (by omega) (by omega))
        have i2 : decide ((d.n : Int) ≤ i) = false := by simpa using hge
        clear ho
        go_enter Try.func49, Try.ntmps49
        go_wp2_with (first | (refine HC.out.mono ?_; rintro e w1 ⟨rfl, rfl⟩) | (refine HL.out.mono ?_; rintro e w1 ⟨rfl, rfl⟩))
        go_ret
        exact ⟨by rw [HE.out]; rfl, rfl⟩

/-- A call that would be done is counted: what is told. -/
def countE (d : DS) : Int := if hitB d then 9 else 0

/-- A call that would be done is counted. -/
theorem count_any (h : Lay w B q d) (ho : d.off = false) (n0 : 0 < d.n) (ha : d.armed ≤ 9223372036854775807) :
    Calls Try.prog 50 #[.pointer (some ⟨q.x, 0, none⟩)] w fun e w' => e = .returned (.int .i64 (countE d)) ∧ Lay w' B q (tick d) ∧ Only w w' q.has := by
  have c4 := h.box.cell 4
  have f4 := h.box.frozen 4
  have c3 := h.box.cell 3
  have f3 := h.box.frozen 3
  simp at c4 c3
  have a0 : (0 : Int) ≤ (d.armed : Int) := by omega
  have a1 : (d.armed : Int) ≤ 9223372036854775807 := by omega
  by_cases h0 : d.armed = 0
  · have HR : Hid (countE d = 0 ∧ Lay w B q (tick d)) := Lib.hid (by
      refine ⟨by unfold countE hitB; rw [h0]; rfl, ?_⟩
      have e : tick d = d := by
        cases d
        simp only at h0
        subst h0
        simp [tick]
      rw [e]; exact h)
    have k0 : ((d.armed : Int) == 0) = true := by rw [h0]; rfl
    clear h h0 ho
    go_enter Try.func50, Try.ntmps50
    go_wp2
    go_ret
    exact ⟨by rw [HR.out.1]; rfl, HR.out.2, Mv.Only.refl _ _⟩
  · have k0 : ((d.armed : Int) == 0) = false := beq_eq_false_iff_ne.2 (by omega)
    by_cases h1 : d.armed = 1
    · have HR : Hid (countE d = 9) := Lib.hid (by unfold countE hitB; rw [h1]; rfl)
      have HF : Hid (Lay ((w.setCell ⟨q.x, 4, none⟩ (.int .i64 ((d.armed : Int) - 1))).setCell ⟨q.x, 3, none⟩ (.bool true)) B q (tick d) ∧ Only w ((w.setCell ⟨q.x, 4, none⟩ (.int .i64 ((d.armed : Int) - 1))).setCell ⟨q.x, 3, none⟩ (.bool true)) q.has) := Lib.hid (by
        refine h.setBox n0 ?_ (((Mv.Only.refl w (Mv.one q.x)).put _ fun _ => rfl).put _ fun _ => rfl) rfl rfl rfl
        have hb := (h.box.put 4 (.int .i64 ((d.armed : Int) - 1))).put 3 (.bool true)
        have e1 : (tick d).off = true := by unfold tick; simp [h1]
        have e2 : (((tick d).armed : Nat) : Int) = (d.armed : Int) - 1 := by
          show ((d.armed - 1 : Nat) : Int) = _
          omega
        rw [e1, e2]
        exact hb)
      have k2 : ((d.armed : Int) - 1 == 0) = true := by rw [h1]; rfl
      have HC := Lib.hid (refused_any _ q.x true (((h.box.put 4 (.int .i64 ((d.armed : Int) - 1))).put 3 (.bool true)).cell 3))
      clear h h0 h1 ho
      go_enter Try.func50, Try.ntmps50
      go_wp2_with (first | (refine HC.out.mono ?_; rintro e w1 ⟨rfl, rfl⟩))
      go_ret
      exact ⟨by rw [HR.out]; rfl, HF.out.1, HF.out.2⟩
    · have HR : Hid (countE d = 0) := Lib.hid (by unfold countE hitB; rw [if_neg (by simpa using h1)])
      have HF : Hid (Lay ((w.setCell ⟨q.x, 4, none⟩ (.int .i64 ((d.armed : Int) - 1))).setCell ⟨q.x, 3, none⟩ (.bool false)) B q (tick d) ∧ Only w ((w.setCell ⟨q.x, 4, none⟩ (.int .i64 ((d.armed : Int) - 1))).setCell ⟨q.x, 3, none⟩ (.bool false)) q.has) := Lib.hid (by
        refine h.setBox n0 ?_ (((Mv.Only.refl w (Mv.one q.x)).put _ fun _ => rfl).put _ fun _ => rfl) rfl rfl rfl
        have hb := (h.box.put 4 (.int .i64 ((d.armed : Int) - 1))).put 3 (.bool false)
        have e1 : (tick d).off = false := by unfold tick; simp [h1, ho]
        have e2 : (((tick d).armed : Nat) : Int) = (d.armed : Int) - 1 := by
          show ((d.armed - 1 : Nat) : Int) = _
          omega
        rw [e1, e2]
        exact hb)
      have k2 : ((d.armed : Int) - 1 == 0) = false := beq_eq_false_iff_ne.2 (by omega)
      have HC := Lib.hid (refused_any _ q.x false (((h.box.put 4 (.int .i64 ((d.armed : Int) - 1))).put 3 (.bool false)).cell 3))
      clear h h0 h1 ho
      go_enter Try.func50, Try.ntmps50
      go_wp2_with (first | (refine HC.out.mono ?_; rintro e w1 ⟨rfl, rfl⟩))
      go_ret
      exact ⟨by rw [HR.out]; rfl, HF.out.1, HF.out.2⟩

theorem arm_lay (m : Int) (h : Lay w B q d) (n0 : 0 < d.n) (hm : m ≤ 9223372036854775807) : Calls Try.prog 16 #[.pointer (some ⟨q.x, 0, none⟩), .int .i64 m] w fun e w' => e = .returned (.tuple #[]) ∧ Lay w' B q (armD d m) ∧ Only w w' q.has := by
  obtain ⟨x, hx⟩ : ∃ x : Nat, m.toNat = x := ⟨_, rfl⟩
  have hm1 : (if m < 0 then 0 else m) = (x : Int) := by split <;> omega
  have hm2 : (if 0 < m then m else 0) = (x : Int) := by split <;> omega
  have c4 := h.box.cell 4
  have f4 := h.box.frozen 4
  simp at c4
  have HF : Hid (Lay (w.setCell ⟨q.x, 4, none⟩ (.int .i64 (x : Int))) B q (armD d m) ∧ Only w (w.setCell ⟨q.x, 4, none⟩ (.int .i64 (x : Int))) q.has) := Lib.hid (by
    refine h.setBox n0 ?_ ((Mv.Only.refl w (Mv.one q.x)).put _ fun _ => rfl) rfl rfl rfl
    have hb := h.box.put 4 (.int .i64 (x : Int))
    have e2 : (armD d m).armed = x := hx
    rw [e2]
    exact hb)
  clear h hx hm
  go_enter Try.func16, Try.ntmps16
  go_wp2
  go_end0
  exact ⟨rfl, HF.out.1, HF.out.2⟩

/-- How many bytes stay of the r-th loose sector. -/
theorem kept_any (A : Option Addr) (kn c M : Nat) (kf : Nat → Int) (r : Nat) (hA : Hl.Ints w M A kn kf) (hk : kn ≤ 1000000) (hkf : ∀ k, k < kn → -9223372036854775808 ≤ kf k ∧ kf k ≤ 9223372036854775807) (hr : r ≤ 1000000) :
    Calls Try.prog 68 #[.slice A kn c, .int .i64 (r : Int)] w fun e w' => e = .returned (.int .i64 (keeps kn kf r : Int)) ∧ w = w' := by
  obtain ⟨m, hm⟩ : ∃ m, keeps kn kf r = m := ⟨_, rfl⟩
  have hm64 : m ≤ 64 := by rw [← hm]; exact keeps_le _ _ _
  have HM := Lib.hid hm
  have r0 : (0 : Int) ≤ (r : Int) := by omega
  have r1 : (r : Int) ≤ 1000000 := by omega
  by_cases hk0 : kn = 0
  · have HZ : Hid (m = 0) := Lib.hid (by rw [← hm]; unfold keeps; rw [if_pos hk0])
    have k1 : ((kn : Int) == 0) = true := by rw [hk0]; rfl
    clear hm hk0 hA hkf
    go_enter Try.func68, Try.ntmps68
    go_wp2
    go_ret
    exact ⟨by rw [HM.out, HZ.out]; rfl, rfl⟩
  · have hkp : 0 < kn := by omega
    have k1 : ((kn : Int) == 0) = false := beq_eq_false_iff_ne.2 (by omega)
    have k2 : (0 : Int) < (kn : Int) := by omega
    obtain ⟨t, ht⟩ : ∃ t, r % kn = t := ⟨_, rfl⟩
    have htk : t < kn := by rw [← ht]; exact Nat.mod_lt _ hkp
    have hmod : (r : Int) % (kn : Int) = (t : Int) := by rw [← ht]; rfl
    have t0 : (0 : Int) ≤ (t : Int) := by omega
    have t1 : (t : Int) < (kn : Int) := by omega
    obtain ⟨g, o, rfl, hg, hcell⟩ := hA t htk
    obtain ⟨v1, v2⟩ := hkf t htk
    have hmv : m = min (kf t).toNat 64 := by rw [← hm]; unfold keeps; rw [if_neg hk0, ht]
    generalize kf t = v at *
    obtain ⟨x, hx⟩ : ∃ x : Nat, v.toNat = x := ⟨_, rfl⟩
    have hm1 : (if v < 0 then 0 else v) = (x : Int) := by split <;> omega
    have hm2 : (if 0 < v then v else 0) = (x : Int) := by split <;> omega
    have hx1 : (if (x : Int) < 64 then (x : Int) else 64) = (m : Int) := by rw [hmv, hx]; split <;> omega
    have hx2 : (if 64 < (x : Int) then 64 else (x : Int)) = (m : Int) := by rw [hmv, hx]; split <;> omega
    clear hm hmv hk0 ht hx hA hkf
    go_enter Try.func68, Try.ntmps68
    go_wp2
    go_ret
    exact ⟨by rw [HM.out]; rfl, rfl⟩
end

end Go.Proofs.Ytedgookkogpfbaa.Dd
end

section
namespace Go.Proofs.Ytedgookkogpfbaa.Dd
open Go.ChangeShapes Go.WideShapes Go.ChangeAt Go.RowKit
open Qu (Blk)
open Mv (Only)
open Se (All64 blanks Rows64 noughts noughts_len)
open By (cellsB cellsB_length cellsB_at)
open Dk (DS dsNew readE readV writeE writeD syncE syncD armD crashD startD secCells secCells_size size_sector Bools lies lies_of tick hitB crashN keeps keeps_le rank new_sec zero_sec store_sec box_sec load_row two_results make_secs make_flags four)
set_option linter.unusedVariables false

/-- What a region that writes a sector and its flag finds: two cells of the box, the bytes, the sector's place, the flag's. -/
theorem keepF_drew {w : World} {x f1 f2 a c g o k : Nat} {A C : Value} {b : List UInt8}
    (h : w.cell? ⟨x, f1, none⟩ = some A ∧ w.cell? ⟨x, f2, none⟩ = some C ∧ w.rangeAt g o (cellsB b) ∧ w.there a (k * 64) 64 ∧ w.cell? ⟨c, k, none⟩ = some (lies w ⟨c, k, none⟩) ∧ w.frozen? ⟨c, k, none⟩ = false) :
    w.drew.cell? ⟨x, f1, none⟩ = some A ∧ w.drew.cell? ⟨x, f2, none⟩ = some C ∧ w.drew.rangeAt g o (cellsB b) ∧ w.drew.there a (k * 64) 64 ∧ w.drew.cell? ⟨c, k, none⟩ = some (lies w.drew ⟨c, k, none⟩) ∧ w.drew.frozen? ⟨c, k, none⟩ = false := h

theorem keepF_sec {w : World} {x f1 f2 a c g o k : Nat} {A C : Value} {b : List UInt8} (vs : List Value) (h1 : x ≠ a) (h2 : c ≠ a) (h3 : g ≠ a)
    (h : w.cell? ⟨x, f1, none⟩ = some A ∧ w.cell? ⟨x, f2, none⟩ = some C ∧ w.rangeAt g o (cellsB b) ∧ w.there a (k * 64) 64 ∧ w.cell? ⟨c, k, none⟩ = some (lies w ⟨c, k, none⟩) ∧ w.frozen? ⟨c, k, none⟩ = false) :
    (w.setCells a (k * 64) vs).cell? ⟨x, f1, none⟩ = some A ∧ (w.setCells a (k * 64) vs).cell? ⟨x, f2, none⟩ = some C ∧ (w.setCells a (k * 64) vs).rangeAt g o (cellsB b) ∧ (w.setCells a (k * 64) vs).there a (k * 64) 64 ∧ (w.setCells a (k * 64) vs).cell? ⟨c, k, none⟩ = some (lies (w.setCells a (k * 64) vs) ⟨c, k, none⟩) ∧ (w.setCells a (k * 64) vs).frozen? ⟨c, k, none⟩ = false := by
  obtain ⟨q1, q2, q3, q4, q5, q6⟩ := h
  have e : ∀ y : Addr, y.block ≠ a → (w.setCells a (k * 64) vs).cell? y = w.cell? y := fun y hy => World.cell?_setCells_out a vs (k * 64) w y (fun e => absurd e hy)
  exact ⟨(e _ h1).trans q1, (e _ h1).trans q2, World.rangeAt_setCells_apart q3 _ _ _ (.inl h3), World.there_setCells q4 _ _ _, lies_of ((e _ h2).trans q5), by rw [World.frozen?_setCells]; exact q6⟩

theorem keepF_flag {w : World} {x f1 f2 a c g o k : Nat} {A C : Value} {b : List UInt8} (v : Value) (h1 : x ≠ c) (h2 : a ≠ c) (h3 : g ≠ c)
    (h : w.cell? ⟨x, f1, none⟩ = some A ∧ w.cell? ⟨x, f2, none⟩ = some C ∧ w.rangeAt g o (cellsB b) ∧ w.there a (k * 64) 64 ∧ w.cell? ⟨c, k, none⟩ = some (lies w ⟨c, k, none⟩) ∧ w.frozen? ⟨c, k, none⟩ = false) :
    (w.setCell ⟨c, k, none⟩ v).cell? ⟨x, f1, none⟩ = some A ∧ (w.setCell ⟨c, k, none⟩ v).cell? ⟨x, f2, none⟩ = some C ∧ (w.setCell ⟨c, k, none⟩ v).rangeAt g o (cellsB b) ∧ (w.setCell ⟨c, k, none⟩ v).there a (k * 64) 64 ∧ (w.setCell ⟨c, k, none⟩ v).cell? ⟨c, k, none⟩ = some (lies (w.setCell ⟨c, k, none⟩ v) ⟨c, k, none⟩) ∧ (w.setCell ⟨c, k, none⟩ v).frozen? ⟨c, k, none⟩ = false := by
  have e1 : w.setCell ⟨c, k, none⟩ v = w.setCells c k [v] := rfl
  rw [e1]
  obtain ⟨q1, q2, q3, q4, q5, q6⟩ := h
  have e : ∀ y : Addr, y.block ≠ c → (w.setCells c k [v]).cell? y = w.cell? y := fun y hy => World.cell?_setCells_out c [v] k w y (fun e => absurd e hy)
  have hs := World.isSome_setCells c [v] k w ⟨c, k, none⟩ (by rw [q5]; rfl)
  obtain ⟨u, hu⟩ := Option.isSome_iff_exists.1 hs
  exact ⟨(e _ h1).trans q1, (e _ h1).trans q2, World.rangeAt_setCells_apart q3 _ _ _ (.inl h3), World.there_setCells q4 _ _ _, lies_of hu, by rw [World.frozen?_setCells]; exact q6⟩

set_option maxHeartbeats 1000000 in
theorem read_lay (w : World) (B : Nat) (q : Pl) (d : DS) (i : Int) (h : Lay w B q d) (hn : d.n ≤ 1000000) :
    Calls Try.prog 59 #[.pointer (some ⟨q.x, 0, none⟩), .int .i64 i] w fun e w' => e = .returned (.tuple #[.agg (secCells (readV d i)), .int .i64 (readE d i)]) ∧ Below w.heap.size w w' := by
  have c1 := h.box.cell 1
  simp at c1
  have hx := h.box.lt
  have n1 : (d.n : Int) ≤ 1000000 := by omega
  have HR := Lib.hid h
  by_cases he : readE d i = 0
  · obtain ⟨r0, r1, ho⟩ := Dk.inR_yes he
    obtain ⟨k, rfl⟩ : ∃ k : Nat, i = (k : Int) := ⟨i.toNat, by omega⟩
    have hkn : k < d.n := by omega
    obtain ⟨s, hs⟩ : ∃ s, d.now[k]? = some s := ⟨_, List.getElem?_eq_getElem hkn⟩
    have HE := Lib.hid he
    have HV : Hid (readV d (k : Int) = s) := Lib.hid (by unfold readV; rw [HE.out, if_pos rfl, Int.toNat_natCast, List.getD, hs]; rfl)
    have hs64 := h.now.1.at hs
    have HK := Lib.hid hs
    clear h ho hs he
    go_enter Try.func59, Try.ntmps59
    go_wp2_with (first
      | (refine new_sec rfl rfl ?_; intro w1 hS1 hB1 hZ1; have d1 := (hB1.cell (p := ⟨q.x, 1, none⟩) hx).trans c1; have HL1 := Lib.hid (HR.out.below hB1); have HB := Lib.hid (And.intro hB1 hZ1); clear hB1 hZ1)
      | (refine (at_any w1 B q d (k : Int) HL1.out hn).mono ?_; rintro e w2 ⟨rfl, rfl⟩; rw [HE.out])
      | (refine load_row rfl _ rfl rfl s HL1.out.now HK.out ?_)
      | (refine store_sec rfl _ _ rfl _ rfl _ rfl _ hS1 hs64 ?_; intro w2 hS2 hG2))
    refine bodyPost_ret (two_results rfl _ w2 w.heap.size s (.int .i64 0) rfl hS2 rfl rfl) rfl ⟨by rw [HV.out, HE.out], ?_⟩
    exact HB.out.1.grown hG2 HB.out.1.size (fun k hk => by injection hk with hk; omega)
  · have HV : Hid (readV d i = noughts) := Lib.hid (by unfold readV; rw [if_neg he])
    obtain ⟨x, hxe⟩ : ∃ x, readE d i = x := ⟨_, rfl⟩
    have hx0 : ¬ x = 0 := by rw [← hxe]; exact he
    have hx1 : (x == 0) = false := beq_eq_false_iff_ne.2 hx0
    have HE := Lib.hid hxe
    clear h he hxe
    go_enter Try.func59, Try.ntmps59
    go_wp2_with (first
      | (refine new_sec rfl rfl ?_; intro w1 hS1 hB1 hZ1; have HL1 := Lib.hid (HR.out.below hB1); have HB := Lib.hid (And.intro hB1 hZ1); clear hB1 hZ1)
      | (refine (at_any w1 B q d i HL1.out hn).mono ?_; rintro e w2 ⟨rfl, rfl⟩; rw [HE.out])
      | (refine zero_sec rfl rfl ?_)
      | (refine store_sec rfl _ _ rfl _ rfl _ rfl _ hS1 noughts_len ?_; intro w2 hS2 hG2))
    refine bodyPost_ret (two_results rfl _ w2 w.heap.size noughts (.int .i64 x) rfl hS2 rfl rfl) rfl ⟨by rw [HV.out, HE.out], ?_⟩
    exact HB.out.1.grown hG2 HB.out.1.size (fun k hk => by injection hk with hk; omega)

/-! ### New -/
theorem Lay.fresh {w : World} {B : Nat} (n : Nat) (x a b c : Nat) (hn : n ≤ 1000000) (hB : B ≤ x ∧ B ≤ a ∧ B ≤ b ∧ B ≤ c) (hne : a ≠ b)
    (hx : w.heap[x]? = some (.cells #[.slice (some ⟨b, 0, none⟩) n n, .slice (some ⟨a, 0, none⟩) n n, .slice (some ⟨c, 0, none⟩) n n, .bool false, .int .i64 0] 63))
    (ha : w.heap[a]? = some (.cells (cellsB (blanks n).flatten).toArray 43)) (hb : w.heap[b]? = some (.cells (cellsB (blanks n).flatten).toArray 43))
    (hc : w.heap[c]? = some (.cells (Array.replicate n (.bool false)) 4)) : Lay w B ⟨x, a, b, c, n, n, n⟩ (dsNew n) := by
  have e0 : (dsNew n).n = n := by show (blanks n).length = n; simp [blanks]
  have el : (cellsB (blanks n).flatten).length = n * 64 := by rw [cellsB_length, Se.flat_length (Se.blanks_all n)]; simp [blanks]
  have hm : n ≤ maxLen := by unfold maxLen; omega
  have row : ∀ g, B ≤ g → w.heap[g]? = some (.cells (cellsB (blanks n).flatten).toArray 43) → Rows64 w B 43 g n n (blanks n) := fun g hBg hg =>
    ⟨Se.blanks_all n, el, .inr ⟨g, n, _, rfl, hBg, hg, Nat.le_refl _, hm, by simpa using el, by simp [← el]⟩⟩
  refine ⟨⟨Se.blanks_all n, Se.blanks_all n, rfl, by simp [dsNew, blanks]⟩, hB.1, ?_, ?_, ?_, ?_, hne⟩
  · rw [e0]; exact ⟨hx⟩
  · rw [e0]; exact row a hB.2.1 ha
  · rw [e0]; exact row b hB.2.2.1 hb
  · rw [e0]
    exact ⟨by simp [dsNew], .inr ⟨c, n, _, rfl, hB.2.2.2, hc, Nat.le_refl _, hm, by simp, by simp [dsNew]⟩⟩

theorem new_end {w W : World} {n : Nat} (q : Pl) (h : Lay W w.heap.size q (dsNew n)) (hp : ∀ k, q.has k → w.heap.size ≤ k) (hb : Below w.heap.size w W) : NewE w n (.returned (.tuple #[.pointer (some ⟨q.x, 0, none⟩), .int .i64 0])) W.drew :=
  ⟨q, rfl, ⟨h.drew, tidy_new n⟩, hp, ⟨hb.os, hb.tape, hb.output, hb.size, hb.block⟩⟩

theorem new_ok (w : World) (n : Nat) (h1 : 1 ≤ n) (h2 : n ≤ 20000) : Calls Try.prog 9 #[.int .i64 (n : Int)] w (NewE w n) := by
  have m1 := make_secs n (by omega)
  have m2 := make_flags n (by omega)
  have hn : n ≤ 1000000 := by omega
  have i1 : ¬ (n : Int) < 1 := by omega
  have i2 : ¬ (20000 : Int) < (n : Int) := by omega
  have i3 : decide ((n : Int) < 1) = false := by simp; omega
  have i4 : decide ((20000 : Int) < (n : Int)) = false := by simp; omega
  go_enter Try.func9, Try.ntmps9
  go_wp2_with fail
  go_region
  all_goals
    unfold Exit.then
    dsimp only
    go_wp2_with fail
    go_ret2
    obtain ⟨h0, h1, h2, h3, hb⟩ := four w _ _ _ _
    first
      | exact new_end ⟨w.heap.size + 1 + 1 + 1, w.heap.size, w.heap.size + 1, w.heap.size + 1 + 1, n, n, n⟩ (Lay.fresh n _ _ _ _ hn ⟨by omega, by omega, by omega, by omega⟩ (by omega) h3 h0 h1 h2) (fun k hk => by rcases hk with hk | hk | hk | hk <;> rw [hk] <;> dsimp only <;> omega) hb
      | exact new_end ⟨w.heap.size + 1 + 1 + 1, w.heap.size, w.heap.size + 1 + 1, w.heap.size + 1, n, n, n⟩ (Lay.fresh n _ _ _ _ hn ⟨by omega, by omega, by omega, by omega⟩ (by omega) h3 h0 h2 h1) (fun k hk => by rcases hk with hk | hk | hk | hk <;> rw [hk] <;> dsimp only <;> omega) hb
      | exact new_end ⟨w.heap.size + 1 + 1 + 1, w.heap.size + 1, w.heap.size, w.heap.size + 1 + 1, n, n, n⟩ (Lay.fresh n _ _ _ _ hn ⟨by omega, by omega, by omega, by omega⟩ (by omega) h3 h1 h0 h2) (fun k hk => by rcases hk with hk | hk | hk | hk <;> rw [hk] <;> dsimp only <;> omega) hb
      | exact new_end ⟨w.heap.size + 1 + 1 + 1, w.heap.size + 1, w.heap.size + 1 + 1, w.heap.size, n, n, n⟩ (Lay.fresh n _ _ _ _ hn ⟨by omega, by omega, by omega, by omega⟩ (by omega) h3 h1 h2 h0) (fun k hk => by rcases hk with hk | hk | hk | hk <;> rw [hk] <;> dsimp only <;> omega) hb
      | exact new_end ⟨w.heap.size + 1 + 1 + 1, w.heap.size + 1 + 1, w.heap.size, w.heap.size + 1, n, n, n⟩ (Lay.fresh n _ _ _ _ hn ⟨by omega, by omega, by omega, by omega⟩ (by omega) h3 h2 h0 h1) (fun k hk => by rcases hk with hk | hk | hk | hk <;> rw [hk] <;> dsimp only <;> omega) hb
      | exact new_end ⟨w.heap.size + 1 + 1 + 1, w.heap.size + 1 + 1, w.heap.size + 1, w.heap.size, n, n, n⟩ (Lay.fresh n _ _ _ _ hn ⟨by omega, by omega, by omega, by omega⟩ (by omega) h3 h2 h1 h0) (fun k hk => by rcases hk with hk | hk | hk | hk <;> rw [hk] <;> dsimp only <;> omega) hb

theorem new_bad (w : World) (n : Int) (h : n < 1 ∨ 20000 < n) : Calls Try.prog 9 #[.int .i64 n] w fun e w' => e = .returned (.tuple #[.pointer none, .int .i64 2]) ∧ Below w.heap.size w w' := by
  by_cases h1 : n < 1
  · have i3 : decide (n < 1) = true := by simpa using h1
    clear h
    go_enter Try.func9, Try.ntmps9
    go_wp2_with fail
    go_ret2
    exact ⟨rfl, Below.refl _ _⟩
  · have i3 : decide (n < 1) = false := by simpa using h1
    have h2 : 20000 < n := by omega
    have i4 : decide (20000 < n) = true := by simpa using h2
    clear h
    go_enter Try.func9, Try.ntmps9
    go_wp2_with fail
    go_ret2
    exact ⟨rfl, Below.refl _ _⟩

/-! ### Write -/
set_option maxHeartbeats 2000000 in
theorem write_lay (w : World) (B : Nat) (q : Pl) (d : DS) (i : Int) (b : List UInt8) (h : Lay w B q d) (n0 : 0 < d.n) (hn : d.n ≤ 1000000) (hb : b.length = 64) (ha : d.armed ≤ 9223372036854775807) :
    Calls Try.prog 18 #[.pointer (some ⟨q.x, 0, none⟩), .int .i64 i, .agg (secCells b)] w fun e w' => e = .returned (.int .i64 (writeE d i)) ∧ Lay w' B q (writeD d i b) ∧ Only w w' q.has := by
  have c1 := h.box.cell 1
  have c2 := h.box.cell 2
  simp at c1 c2
  have hx := h.box.lt
  have n1 : (d.n : Int) ≤ 1000000 := by omega
  have HR := Lib.hid h
  by_cases he : readE d i = 0
  · obtain ⟨r0, r1, ho⟩ := Dk.inR_yes he
    obtain ⟨k, rfl⟩ : ∃ k : Nat, i = (k : Int) := ⟨i.toNat, by omega⟩
    have hkn : k < d.n := by omega
    have HE := Lib.hid he
    have HO := Lib.hid ho
    have k0 : (0 : Int) ≤ (k : Int) := by omega
    have k1 : (k : Int) < (d.n : Int) := by omega
    have HA := Lib.hid (h.apart n0)
    have la := (World.ownsRow.lt h.now.2 q.a rfl).2
    have lc := (World.ownsRow.lt h.loose q.c rfl).2
    have HL := Lib.hid (And.intro la lc)
    clear h ho he la lc
    go_enter Try.func18, Try.ntmps18
    go_wp2_with (first
      | (refine box_sec rfl _ rfl _ rfl hb ?_; intro w1 hS1 hB1 hZ1; have d1 := (hB1.cell (p := ⟨q.x, 1, none⟩) hx).trans c1; have d2 := (hB1.cell (p := ⟨q.x, 2, none⟩) hx).trans c2; have HR1 := Lib.hid (HR.out.below hB1); have HB := Lib.hid (And.intro hB1 hZ1); have HS1 := Lib.hid hS1; clear hB1 hZ1 hS1 c1 c2)
      | (refine (at_any w1 B q d (k : Int) HR1.out hn).mono ?_; rintro e w2 ⟨rfl, rfl⟩; rw [HE.out]))
    obtain ⟨g, hg⟩ : ∃ g, w.heap.size = g := ⟨_, rfl⟩
    rw [hg] at HL HB HS1 ⊢
    clear hx
    have q3 := HS1.out.range
    have q4 : w1.there q.a (k * 64) 64 := HR1.out.now.there hkn
    have q5 : w1.cell? ⟨q.c, k, none⟩ = some (lies w1 ⟨q.c, k, none⟩) := lies_of (HR1.out.flag hkn)
    have q6 := HR1.out.loose.frozenAt k
    have hu : Try.prog.underlying 43 = some (.array 64 5) := Try.underlying43
    have hcl : (cellsB b).length = 64 := by rw [cellsB_length, hb]
    have hi : (Try.prog.info? 43).map (·.size) = some (cellsB b).length := by rw [size_sector, hcl]
    have hone : ∀ v ∈ cellsB b, v.oneCell' = true := By.cellsB_one b
    have HW : Hid (Lay ((w1.drew.setCells q.a (k * 64) (cellsB b)).setCell ⟨q.c, k, none⟩ (.bool true)) B q { d with now := d.now.set k b, loose := d.loose.set k true } ∧ Only w ((w1.drew.setCells q.a (k * 64) (cellsB b)).setCell ⟨q.c, k, none⟩ (.bool true)) q.has) := Lib.hid (by
      obtain ⟨o1, o2⟩ := HR1.out.drew.write n0 hkn hb
      exact ⟨o1, (((Mv.Only.ofBelow (by rw [hg]; exact HB.out.1) q.has)).drew).trans o2 fun i _ h => h⟩)
    have HV : Hid (writeE d (k : Int) = countE d ∧ writeD d (k : Int) b = tick { d with now := d.now.set k b, loose := d.loose.set k true }) := Lib.hid (by
      refine ⟨?_, ?_⟩
      · unfold writeE countE
        rw [HE.out, if_neg (fun h => h rfl)]
      · unfold writeD
        rw [HE.out, if_neg (fun h => h rfl), Int.toNat_natCast])
    clear HR HR1 hg
    go_region_held3 (fun w' => w'.cell? ⟨q.x, 1, none⟩ = some (.slice (some ⟨q.a, 0, none⟩) d.n q.ca) ∧ w'.cell? ⟨q.x, 2, none⟩ = some (.slice (some ⟨q.c, 0, none⟩) d.n q.cc) ∧ w'.rangeAt g 0 (cellsB b) ∧ w'.there q.a (k * 64) 64 ∧ w'.cell? ⟨q.c, k, none⟩ = some (lies w' ⟨q.c, k, none⟩) ∧ w'.frozen? ⟨q.c, k, none⟩ = false)
      (first
        | assumption
        | (go_split_ands; exact keepF_drew ⟨by assumption, by assumption, by assumption, by assumption, by assumption, by assumption⟩)
        | (go_split_ands; exact keepF_sec _ HA.out.1 HA.out.2.2.2.1 (by have := HL.out; omega) ⟨by assumption, by assumption, by assumption, by assumption, by assumption, by assumption⟩)
        | (go_split_ands; exact keepF_flag _ HA.out.2.2.1 (Ne.symm HA.out.2.2.2.1) (by have := HL.out; omega) ⟨by assumption, by assumption, by assumption, by assumption, by assumption, by assumption⟩))
      (fail)
    unfold Exit.then
    dsimp only
    go_wp2_with (first
      | (refine (count_any _ B q { d with now := d.now.set k b, loose := d.loose.set k true } HW.out.1 HO.out (by unfold DS.n; rw [List.length_set]; exact n0) ha).mono ?_; rintro e w3 ⟨rfl, hr3, ho3⟩; have HR3 := Lib.hid (And.intro hr3 ho3); clear hr3 ho3; have hh3 : countE { d with now := d.now.set k b, loose := d.loose.set k true } = countE d := rfl; rw [hh3]; clear hh3))
    go_ret
    exact ⟨by rw [HV.out.1]; rfl, by rw [HV.out.2]; exact HR3.out.1, HW.out.2.trans HR3.out.2 fun i _ h => h⟩
  · obtain ⟨x, hxe⟩ : ∃ x, readE d i = x := ⟨_, rfl⟩
    have hx0 : ¬ x = 0 := by rw [← hxe]; exact he
    have hx1 : (x == 0) = false := beq_eq_false_iff_ne.2 hx0
    have HE := Lib.hid hxe
    have HV : Hid (writeE d i = x ∧ writeD d i b = d) := Lib.hid ⟨by unfold writeE; rw [if_pos he, hxe], by unfold writeD; rw [if_pos he]⟩
    clear h he hxe
    go_enter Try.func18, Try.ntmps18
    go_wp2_with (first
      | (refine box_sec rfl _ rfl _ rfl hb ?_; intro w1 hS1 hB1 hZ1; have HR1 := Lib.hid (HR.out.below hB1); have HB := Lib.hid hB1; clear hB1 hZ1 hS1 c1 c2)
      | (refine (at_any w1 B q d i HR1.out hn).mono ?_; rintro e w2 ⟨rfl, rfl⟩; rw [HE.out]))
    go_ret
    exact ⟨by rw [HV.out.1]; rfl, by rw [HV.out.2]; exact HR1.out, Mv.Only.ofBelow HB.out _⟩

end Go.Proofs.Ytedgookkogpfbaa.Dd
end

section
namespace Go.Proofs.Ytedgookkogpfbaa.Dd
open Go.ChangeShapes Go.WideShapes Go.ChangeAt Go.RowKit
open Qu (Blk)
open Mv (Only)
open Se (All64 blanks Rows64 noughts noughts_len)
open By (cellsB cellsB_length cellsB_at)
open Dk (DS dsNew readE readV writeE writeD syncE syncD armD crashD startD secCells secCells_size size_sector Bools lies lies_of tick hitB crashN crashN_n crashN_at mixS mixS_len midD keeps keeps_le rank rank_le rank_yes rank_no new_sec zero_sec store_sec box_sec two_results info_sector info_bool below_then rows_on bools_on keep3_drew keep3_sec keep3_flag)
set_option linter.unusedVariables false

/-- The first bytes of a sector are copied, at a step of a region that draws. -/
theorem step_copy_sec {w : World} {ops : Array Oper} {o : Oper} {a : Act} {K : Act → World → Prop} {Q : Exit → Act → World → Prop} {E : Prop} (free : o.guard = none) (x y : Operand)
    (is : o.op = .call { callee := .builtin .copy, args := #[x, y], argTypes := #[37, 37] }) (b o1 c1 g o2 c2 m : Nat) (s : List UInt8) (vx : a.eval x = .slice (some ⟨b, o1, none⟩) m c1) (vy : a.eval y = .slice (some ⟨g, o2, none⟩) m c2)
    (hs : s.length = 64) (hm : m ≤ 64) (hr : w.rangeAt g o2 (cellsB s)) (ht : w.there b o1 64) (go : K (a.put o.dst (goInt m)) (w.setCells b o1 (cellsB (s.take m)))) :
    if Region.wanted o (yielded ops a.tmps) = true then Oper.wp Try.prog o a w K Q else E := by
  have hw : Region.wanted o (yielded ops a.tmps) = true := by simp [Region.wanted, free]
  rw [if_pos hw]
  have hl : (cellsB (s.take m)).length = m := by rw [cellsB_length, List.length_take]; omega
  have hrun := run_copy_cells (P := Try.prog) w 37 37 o.type 5 b o1 m c1 ⟨g, o2, none⟩ m c2 (cellsB (s.take m)) Try.underlying37 (by kernel_rfl) (by rw [hl]; exact (Nat.min_self m).symm)
    (fun j v hj => by
      have e : (⟨g, o2, none⟩ : Addr).add j = ⟨g, o2 + j, none⟩ := by unfold Addr.add; split <;> simp_all
      rw [e]
      refine hr j v ?_
      rw [cellsB_at] at hj ⊢
      rw [List.getElem?_take] at hj
      split at hj
      · exact hj
      · cases hj)
    (fun j hj => (ht j (by omega)).1) (fun j hj => (ht j (by omega)).2) (By.cellsB_one _)
  rw [hl] at hrun
  unfold Oper.wp
  simp [execOp, is, resolve, invoke, builtin, vx, vy, hrun, Result.andThen]
  exact go

/-- What a region that copies the first bytes of a sector finds. -/
theorem keepC_drew {w : World} {x f1 f2 s t k : Nat} {A0 A1 : Value} {b : List UInt8}
    (h : w.cell? ⟨x, f1, none⟩ = some A0 ∧ w.cell? ⟨x, f2, none⟩ = some A1 ∧ w.rangeAt s (k * 64) (cellsB b) ∧ w.there t (k * 64) 64) :
    w.drew.cell? ⟨x, f1, none⟩ = some A0 ∧ w.drew.cell? ⟨x, f2, none⟩ = some A1 ∧ w.drew.rangeAt s (k * 64) (cellsB b) ∧ w.drew.there t (k * 64) 64 := h

theorem keepC_copy {w : World} {x f1 f2 s t k : Nat} {A0 A1 : Value} {b : List UInt8} (vs : List Value) (h1 : x ≠ t) (h3 : s ≠ t)
    (h : w.cell? ⟨x, f1, none⟩ = some A0 ∧ w.cell? ⟨x, f2, none⟩ = some A1 ∧ w.rangeAt s (k * 64) (cellsB b) ∧ w.there t (k * 64) 64) :
    (w.setCells t (k * 64) vs).cell? ⟨x, f1, none⟩ = some A0 ∧ (w.setCells t (k * 64) vs).cell? ⟨x, f2, none⟩ = some A1 ∧ (w.setCells t (k * 64) vs).rangeAt s (k * 64) (cellsB b) ∧ (w.setCells t (k * 64) vs).there t (k * 64) 64 := by
  obtain ⟨q0, q1, q3, q4⟩ := h
  have e : ∀ y : Addr, y.block ≠ t → (w.setCells t (k * 64) vs).cell? y = w.cell? y := fun y hy => World.cell?_setCells_out t vs (k * 64) w y (fun e => absurd e hy)
  exact ⟨(e _ h1).trans q0, (e _ h1).trans q1, World.rangeAt_setCells_apart q3 _ _ _ (.inl h3), World.there_setCells q4 _ _ _⟩

set_option maxRecDepth 100000 in
set_option maxHeartbeats 4000000 in
theorem settle_any (w : World) (B : Nat) (q : Pl) (d : DS) (A : Option Addr) (kn c : Nat) (kf : Nat → Int) (h : Lay w B q d) (hA : Hl.Ints w w.heap.size A kn kf) (hd : ∀ a, A = some a → kn ≠ 0 → ¬ q.has a.block) (hk : kn ≤ 1000000) (hkf : ∀ k, k < kn → -9223372036854775808 ≤ kf k ∧ kf k ≤ 9223372036854775807) (n0 : 0 < d.n) (hn : d.n ≤ 1000000) :
    Calls Try.prog 52 #[.pointer (some ⟨q.x, 0, none⟩), .slice A kn c] w fun e w' => e = .returned (.tuple #[]) ∧ Lay w' B q (crashN d kn kf d.n) ∧ Only w w' q.has := by
  have c1 := h.box.cell 1
  simp at c1
  have HL := Lib.hid (len_eq w q.x _ d.n _ c1 hn)
  have HR0 := Lib.hid h
  have HI := Lib.hid hA
  have HD := Lib.hid hd
  have HF := Lib.hid hkf
  have HK := Lib.hid h.ok
  clear h hA hd hkf c1
  go_enter Try.func52, Try.ntmps52
  go_wp2_with (first | (refine HL.out.mono ?_; rintro e w1 ⟨rfl, rfl⟩))
  go_loopw [4, 9] (fun s4 s9 wr => ∃ i : Nat, s9 = .int .i64 (i : Int) ∧ i ≤ d.n ∧ s4 = .int .i64 (rank d.loose i : Int) ∧ Lay wr B q (crashN d kn kf i) ∧ Only w wr q.has) (fun _ s9 _ => d.n - (intOf s9).toNat)
  case atStart => exact ⟨0, rfl, by omega, rfl, HR0.out, Mv.Only.refl _ _⟩
  case round =>
    obtain ⟨i, rfl, hi, rfl, hR, hO⟩ := hrel
    have en2 : (crashN d kn kf i).n = d.n := crashN_n kn kf i
    have i0 : (0 : Int) ≤ (i : Int) := by omega
    have n1 : (d.n : Int) ≤ 1000000 := by omega
    have hrk := rank_le d.loose i
    have HR := Lib.hid hR
    have HO := Lib.hid hO
    have HN := Lib.hid en2
    by_cases hlt : i < d.n
    · have c0 := hR.box.cell 0
      have c1 := hR.box.cell 1
      have c2 := hR.box.cell 2
      simp at c0 c1 c2
      rw [en2] at c0 c1 c2
      have i1 : (i : Int) < (d.n : Int) := by omega
      have i2 : decide (i < d.n) = true := by simp; omega
      have c5 := hR.flag (k := i) (by rw [en2]; exact hlt)
      have hl2 : (crashN d kn kf i).loose.getD i false = d.loose.getD i false := by rw [List.getD, List.getD, (crashN_at (d := d) kn kf i i (Nat.le_refl _)).2.2]
      rw [hl2] at c5
      have HI2 : Hid (Hl.Ints wr w.heap.size A kn kf) := Lib.hid (fun k hk => by
        obtain ⟨g, o, hA, hg, hc⟩ := HI.out k hk
        exact ⟨g, o, hA, hg, (hO.cell hg (HD.out ⟨g, o, none⟩ hA (by omega))).trans hc⟩)
      clear hR en2 hl2 hO
      cases hfl : d.loose.getD i false with
      | false =>
        rw [hfl] at c5
        have HS : Hid (rank d.loose (i + 1) = rank d.loose i ∧ crashN d kn kf (i + 1) = crashN d kn kf i) := Lib.hid ⟨rank_no hfl, by rw [crashN, hfl, if_neg (by simp)]⟩
        clear hfl
        go_wp2_with fail
        go_roundw
        case rel => exact ⟨i + 1, by go_num, by omega, by rw [HS.out.1], by rw [HS.out.2]; exact HR.out, HO.out⟩
        case measure => simp [intOf]; omega
      | true =>
        rw [hfl] at c5
        have HS : Hid (rank d.loose (i + 1) = rank d.loose i + 1 ∧ d.loose.getD i false = true) := Lib.hid ⟨rank_yes hfl, hfl⟩
        clear hfl
        have HKp := Lib.hid (kept_any wr A kn c w.heap.size kf (rank d.loose i) HI2.out hk HF.out (by omega))
        obtain ⟨m, hm⟩ : ∃ m, keeps kn kf (rank d.loose i) = m := ⟨_, rfl⟩
        have hm64 : m ≤ 64 := by rw [← hm]; exact keeps_le _ _ _
        have HM := Lib.hid hm
        rw [hm] at HKp
        have r0 : (0 : Int) ≤ (rank d.loose i : Int) := by omega
        have r1 : (rank d.loose i : Int) ≤ 1000000 := by omega
        have m0 : (0 : Int) ≤ (m : Int) := by omega
        have m1 : (m : Int) ≤ 64 := by omega
        obtain ⟨s, hs⟩ : ∃ s, d.now[i]? = some s := ⟨_, List.getElem?_eq_getElem hlt⟩
        have hs64 : s.length = 64 := HK.out.now.at hs
        have q3 : wr.rangeAt q.a (i * 64) (cellsB s) := HR.out.now.range (by rw [(crashN_at (d := d) kn kf i i (Nat.le_refl _)).1]; exact hs)
        have q4 : wr.there q.b (i * 64) 64 := HR.out.sure.there (Nat.lt_of_lt_of_eq hlt HN.out.symm)
        have HA := Lib.hid (HR.out.apart (by rw [HN.out]; exact n0))
        have HNE := Lib.hid HR.out.ne
        have HW : Hid (Lay (wr.drew.setCells q.b (i * 64) (cellsB (s.take m))) B q (midD d kn kf i m) ∧ Only w (wr.drew.setCells q.b (i * 64) (cellsB (s.take m))) q.has) := Lib.hid (by
          obtain ⟨o1, o2⟩ := midD_part HK.out n0 hlt hs hm64 HR.out.drew
          exact ⟨o1, HO.out.drew.trans o2 fun i _ h => h⟩)
        clear hm hs
        go_wp2_with (first | (refine HKp.out.mono ?_; rintro e w1 ⟨rfl, rfl⟩))
        go_region_held3 (fun w' => w'.cell? ⟨q.x, 0, none⟩ = some (.slice (some ⟨q.b, 0, none⟩) d.n q.cb) ∧ w'.cell? ⟨q.x, 1, none⟩ = some (.slice (some ⟨q.a, 0, none⟩) d.n q.ca) ∧ w'.rangeAt q.a (i * 64) (cellsB s) ∧ w'.there q.b (i * 64) 64)
          (first
            | assumption
            | (go_split_ands; exact keepC_drew ⟨by assumption, by assumption, by assumption, by assumption⟩)
            | (go_split_ands; exact keepC_copy _ HA.out.2.1 HNE.out ⟨by assumption, by assumption, by assumption, by assumption⟩))
          (first
            | ((refine step_copy_sec (o := ⟨some 39, _, _, _, _, _⟩) rfl _ _ rfl q.b (i * 64) 64 q.a (i * 64) 64 m s ?_ ?_ hs64 hm64 ?_ ?_ ?_); (next => rfl); (next => rfl); (next => (go_split_ands; assumption)); (next => (go_split_ands; assumption))))
        unfold Exit.then
        dsimp only
        clear q3 q4 c0 c1 c2 c5
        generalize wr.drew.setCells q.b (i * 64) (cellsB (s.take m)) = wx at *
        obtain ⟨b, hb⟩ : ∃ b, mixS d kn kf i = b := ⟨_, rfl⟩
        have hb64 : b.length = 64 := by rw [← hb]; exact mixS_len kn kf HK.out hlt
        have hR2 : Lay wx B q (midD d kn kf i (keeps kn kf (rank d.loose i))) := by rw [HM.out]; exact HW.out.1
        have hn2 : (midD d kn kf i (keeps kn kf (rank d.loose i))).n = d.n := crashN_n kn kf i
        have hsu : (midD d kn kf i (keeps kn kf (rank d.loose i))).sure[i]? = some b := by
          show ((crashN d kn kf i).sure.set i _)[i]? = _
          rw [List.getElem?_set_self (by have := (Dk.crashN_len (d := d) kn kf i).2.1; have := HK.out.len; have e : d.now.length = d.n := rfl; omega), ← hb]
          rfl
        have c0 := hR2.box.cell 0
        have c1 := hR2.box.cell 1
        have c2 := hR2.box.cell 2
        simp at c0 c1 c2
        rw [hn2] at c0 c1 c2
        have q3 : wx.rangeAt q.b (i * 64) (cellsB b) := hR2.sure.range hsu
        have q4 : wx.there q.a (i * 64) 64 := hR2.now.there (Nat.lt_of_lt_of_eq hlt hn2.symm)
        have q5 : wx.cell? ⟨q.c, i, none⟩ = some (lies wx ⟨q.c, i, none⟩) := lies_of (hR2.flag (Nat.lt_of_lt_of_eq hlt hn2.symm))
        have q6 := hR2.loose.frozenAt i
        have hu : Try.prog.underlying 43 = some (.array 64 5) := Try.underlying43
        have hcl : (cellsB b).length = 64 := by rw [cellsB_length, hb64]
        have hii : (Try.prog.info? 43).map (·.size) = some (cellsB b).length := by rw [size_sector, hcl]
        have hone : ∀ v ∈ cellsB b, v.oneCell' = true := By.cellsB_one b
        have HX : Hid (Lay ((wx.drew.setCells q.a (i * 64) (cellsB b)).setCell ⟨q.c, i, none⟩ (.bool false)) B q (crashN d kn kf (i + 1)) ∧ Only w ((wx.drew.setCells q.a (i * 64) (cellsB b)).setCell ⟨q.c, i, none⟩ (.bool false)) q.has) := Lib.hid (by
          obtain ⟨o1, o2⟩ := midD_done HK.out n0 hlt HS.out.2 hR2.drew
          rw [hb] at o1 o2
          exact ⟨o1, HW.out.2.drew.trans o2 fun i _ h => h⟩)
        clear hb hR2 hsu hb64 hn2
        go_wp2_with fail
        go_region_held3 (fun w' => w'.cell? ⟨q.x, 0, none⟩ = some (.slice (some ⟨q.b, 0, none⟩) d.n q.cb) ∧ w'.cell? ⟨q.x, 1, none⟩ = some (.slice (some ⟨q.a, 0, none⟩) d.n q.ca) ∧ w'.cell? ⟨q.x, 2, none⟩ = some (.slice (some ⟨q.c, 0, none⟩) d.n q.cc) ∧ w'.rangeAt q.b (i * 64) (cellsB b) ∧ w'.there q.a (i * 64) 64 ∧ w'.cell? ⟨q.c, i, none⟩ = some (lies w' ⟨q.c, i, none⟩) ∧ w'.frozen? ⟨q.c, i, none⟩ = false)
          (first
            | assumption
            | (go_split_ands; exact keep3_drew ⟨by assumption, by assumption, by assumption, by assumption, by assumption, by assumption, by assumption⟩)
            | (go_split_ands; exact keep3_sec _ HA.out.1 HA.out.2.2.2.1 (Ne.symm HNE.out) ⟨by assumption, by assumption, by assumption, by assumption, by assumption, by assumption, by assumption⟩)
            | (go_split_ands; exact keep3_flag _ HA.out.2.2.1 (Ne.symm HA.out.2.2.2.1) (Ne.symm HA.out.2.2.2.2) ⟨by assumption, by assumption, by assumption, by assumption, by assumption, by assumption, by assumption⟩))
          (fail)
        go_wp2
        go_roundw
        case rel => exact ⟨i + 1, by go_num, by omega, by rw [HS.out.1]; go_num, HX.out.1, HX.out.2⟩
        case measure => simp [intOf]; omega
    · have hin : i = d.n := by omega
      have i1 : ¬ (i : Int) < (d.n : Int) := by omega
      have i2 : decide (i < d.n) = false := by simp; omega
      have HE : Hid (Lay wr B q (crashN d kn kf d.n)) := Lib.hid (by subst hin; exact hR)
      clear hin hR en2 hO
      go_wp2_with fail
      go_end0
      exact ⟨rfl, HE.out, HO.out⟩

/-- A slice of one number, new. -/
theorem ints_one (W : World) (v : Int) : Hl.Ints (W.alloc (.cells #[.int .i64 v] 3)) (W.alloc (.cells #[.int .i64 v] 3)).heap.size (some ⟨W.heap.size, 0, none⟩) 1 (fun _ => v) := fun k hk => by
  obtain rfl : k = 0 := by omega
  exact ⟨W.heap.size, 0, rfl, by simp, (Qu.Blk.new W 3 #[.int .i64 v]).cell 0⟩

/-- All that is loose is made sure. -/
theorem settle_lay (w : World) (B : Nat) (q : Pl) (d : DS) (h : Lay w B q d) (n0 : 0 < d.n) (hn : d.n ≤ 1000000) :
    Calls Try.prog 52 #[.pointer (some ⟨q.x, 0, none⟩), .slice (some ⟨w.heap.size, 0, none⟩) 1 1] (w.alloc (.cells #[.int .i64 64] 3)) fun e w' => e = .returned (.tuple #[]) ∧ Lay w' B q (crashN d 1 (fun _ => 64) d.n) ∧ Only w w' q.has := by
  have hb : Below w.heap.size w (w.alloc (.cells #[.int .i64 64] 3)) := (Below.refl _ _).alloc (Nat.le_refl _) _
  have hq : ∀ k, q.has k → k < w.heap.size := fun k hk => by
    rcases hk with rfl | rfl | rfl | rfl
    · exact h.box.lt
    · exact (World.ownsRow.lt h.now.2 q.a rfl).2
    · exact (World.ownsRow.lt h.sure.2 q.b rfl).2
    · exact (World.ownsRow.lt h.loose q.c rfl).2
  refine (settle_any _ B q d (some ⟨w.heap.size, 0, none⟩) 1 1 (fun _ => 64) (h.below hb) (ints_one w 64) (fun a ha _ hh => ?_) (by omega) (fun k hk => by omega) n0 hn).mono ?_
  · injection ha with ha
    subst ha
    have := hq _ hh
    simp at this
  · rintro e w' ⟨rfl, h1, h2⟩
    exact ⟨rfl, h1, (Mv.Only.ofBelow hb q.has).trans h2 fun _ _ h => h⟩

theorem crash_lay (w : World) (B : Nat) (q : Pl) (d : DS) (A : Option Addr) (kn c : Nat) (kf : Nat → Int) (h : Lay w B q d) (hA : Hl.Ints w w.heap.size A kn kf) (hd : ∀ a, A = some a → kn ≠ 0 → ¬ q.has a.block) (hk : kn ≤ 1000000) (hkf : ∀ k, k < kn → -9223372036854775808 ≤ kf k ∧ kf k ≤ 9223372036854775807) (n0 : 0 < d.n) (hn : d.n ≤ 1000000) :
    Calls Try.prog 20 #[.pointer (some ⟨q.x, 0, none⟩), .slice A kn c] w fun e w' => e = .returned (.tuple #[]) ∧ Lay w' B q (crashD d kn kf) ∧ Only w w' q.has := by
  have HC := Lib.hid (settle_any w B q d A kn c kf h hA hd hk hkf n0 hn)
  have en : (crashN d kn kf d.n).n = d.n := crashN_n kn kf d.n
  clear h hA hd hkf
  go_enter Try.func20, Try.ntmps20
  go_wp2_with (first | (refine HC.out.mono ?_; rintro e w1 ⟨rfl, hr, ho⟩; have e3 := hr.box.cell 3; have e4 := hr.box.cell 4; have f3 := hr.box.frozen 3; have f4 := hr.box.frozen 4; simp at e3 e4; have HF : Hid (Lay ((w1.setCell ⟨q.x, 3, none⟩ (.bool true)).setCell ⟨q.x, 4, none⟩ (.int .i64 0)) B q (crashD d kn kf) ∧ Only w1 ((w1.setCell ⟨q.x, 3, none⟩ (.bool true)).setCell ⟨q.x, 4, none⟩ (.int .i64 0)) q.has) := Lib.hid (hr.setBox (d' := crashD d kn kf) (by rw [en]; exact n0) ((hr.box.put 3 (.bool true)).put 4 (.int .i64 0)) (((Mv.Only.refl w1 (Mv.one q.x)).put _ fun _ => rfl).put _ fun _ => rfl) rfl rfl rfl); have HO := Lib.hid ho; clear hr ho))
  go_end0
  exact ⟨rfl, HF.out.1, HO.out.trans HF.out.2 fun _ _ h => h⟩

theorem start_lay (w : World) (B : Nat) (q : Pl) (d : DS) (h : Lay w B q d) (n0 : 0 < d.n) (hn : d.n ≤ 1000000) :
    Calls Try.prog 22 #[.pointer (some ⟨q.x, 0, none⟩)] w fun e w' => e = .returned (.tuple #[]) ∧ Lay w' B q (startD d) ∧ Only w w' q.has := by
  have c3 := h.box.cell 3
  simp at c3
  have HDn := Lib.hid (down_eq w q.x d.off c3)
  cases ho : d.off with
  | false =>
    rw [ho] at HDn
    have HV : Hid (startD d = d) := Lib.hid (by unfold startD; rw [ho]; rfl)
    have HR := Lib.hid h
    clear h ho c3
    go_enter Try.func22, Try.ntmps22
    go_wp2_with (first | (refine HDn.out.mono ?_; rintro e w1 ⟨rfl, rfl⟩))
    refine bodyPost_ret (results_none rfl _ _ _) rfl ?_
    exact ⟨rfl, by rw [HV.out]; exact HR.out, Mv.Only.refl _ _⟩
  | true =>
    rw [ho] at HDn
    have HV : Hid (startD d = { crashD d 0 (fun _ => 0) with off := false }) := Lib.hid (by unfold startD; rw [ho]; rfl)
    have HC := Lib.hid (settle_any w B q d none 0 0 (fun _ => 0) h (Dk.ints_nil w _) (fun a h _ => by cases h) (by omega) (fun k hk => by omega) n0 hn)
    have en : (crashN d 0 (fun _ => 0) d.n).n = d.n := crashN_n 0 _ d.n
    clear h ho c3
    go_enter Try.func22, Try.ntmps22
    go_wp2_with (first | (refine HDn.out.mono ?_; rintro e w1 ⟨rfl, rfl⟩) | (refine HC.out.mono ?_; rintro e w1 ⟨rfl, hr, ho⟩; have e3 := hr.box.cell 3; have e4 := hr.box.cell 4; have f3 := hr.box.frozen 3; have f4 := hr.box.frozen 4; simp at e3 e4; have HF : Hid (Lay ((w1.setCell ⟨q.x, 3, none⟩ (.bool false)).setCell ⟨q.x, 4, none⟩ (.int .i64 0)) B q { crashD d 0 (fun _ => 0) with off := false } ∧ Only w1 ((w1.setCell ⟨q.x, 3, none⟩ (.bool false)).setCell ⟨q.x, 4, none⟩ (.int .i64 0)) q.has) := Lib.hid (hr.setBox (d' := { crashD d 0 (fun _ => 0) with off := false }) (by rw [en]; exact n0) ((hr.box.put 3 (.bool false)).put 4 (.int .i64 0)) (((Mv.Only.refl w1 (Mv.one q.x)).put _ fun _ => rfl).put _ fun _ => rfl) rfl rfl rfl); have HO := Lib.hid ho; clear hr ho))
    go_end0
    exact ⟨rfl, by rw [HV.out]; exact HF.out.1, HO.out.trans HF.out.2 fun _ _ h => h⟩

theorem sync_lay (w : World) (B : Nat) (q : Pl) (d : DS) (h : Lay w B q d) (ht : Tidy d) (n0 : 0 < d.n) (hn : d.n ≤ 1000000) (ha : d.armed ≤ 9223372036854775807) :
    Calls Try.prog 83 #[.pointer (some ⟨q.x, 0, none⟩)] w fun e w' => e = .returned (.int .i64 (syncE d)) ∧ Lay w' B q (syncD d) ∧ Only w w' q.has := by
  have c3 := h.box.cell 3
  simp at c3
  have HRf := Lib.hid (refused_any w q.x d.off c3)
  have HR := Lib.hid h
  cases ho : d.off with
  | true =>
    rw [ho] at HRf
    have HV : Hid (syncE d = 9 ∧ syncD d = d) := Lib.hid ⟨by unfold syncE; rw [ho]; rfl, by unfold syncD; rw [ho]; rfl⟩
    clear h ho c3
    go_enter Try.func83, Try.ntmps83
    go_wp2_with (first | (refine HRf.out.mono ?_; rintro e w1 ⟨rfl, rfl⟩))
    go_ret
    exact ⟨by rw [HV.out.1]; rfl, by rw [HV.out.2]; exact HR.out, Mv.Only.refl _ _⟩
  | false =>
    rw [ho] at HRf
    have HC := Lib.hid (count_any w B q d h ho n0 ha)
    cases hh : hitB d with
    | true =>
      have HV : Hid (syncE d = 9 ∧ syncD d = tick d) := Lib.hid ⟨by unfold syncE; rw [ho, hh]; rfl, by unfold syncD; rw [ho, hh]; rfl⟩
      have HH : Hid (countE d = 9) := Lib.hid (by unfold countE; rw [hh]; rfl)
      clear h ho c3 hh
      go_enter Try.func83, Try.ntmps83
      go_wp2_with (first | (refine HRf.out.mono ?_; rintro e w1 ⟨rfl, rfl⟩) | (refine HC.out.mono ?_; rintro e w1 ⟨rfl, hr1, ho1⟩; have HR1 := Lib.hid (And.intro hr1 ho1); clear hr1 ho1; rw [HH.out]))
      go_ret
      exact ⟨by rw [HV.out.1]; rfl, by rw [HV.out.2]; exact HR1.out.1, HR1.out.2⟩
    | false =>
      have HV : Hid (syncE d = 0 ∧ crashN (tick d) 1 (fun _ => 64) (tick d).n = syncD d) := Lib.hid ⟨by unfold syncE; rw [ho, hh]; rfl, sync_is ht h.ok ho hh⟩
      have HH : Hid (countE d = 0) := Lib.hid (by unfold countE; rw [hh]; rfl)
      clear h ho c3 hh ht
      go_enter Try.func83, Try.ntmps83
      go_wp2_with (first
        | (refine HRf.out.mono ?_; rintro e w1 ⟨rfl, rfl⟩)
        | (refine HC.out.mono ?_; rintro e w1 ⟨rfl, hr1, ho1⟩; have HS := Lib.hid (settle_lay w1 B q (tick d) hr1 n0 hn); have HR1 := Lib.hid ho1; clear hr1 ho1; rw [HH.out])
        | (refine HS.out.mono ?_; rintro e w2 ⟨rfl, hr2, ho2⟩; have HR2 := Lib.hid (And.intro hr2 ho2); clear hr2 ho2))
      go_ret
      exact ⟨by rw [HV.out.1]; rfl, by rw [← HV.out.2]; exact HR2.out.1, HR1.out.trans HR2.out.2 fun _ _ h => h⟩

/-! ### Fork -/
/-- What a copy of a row of sectors is. -/
def Cloned (w : World) (n : Nat) (l : List (List UInt8)) (e : Ending) (w' : World) : Prop := ∃ g c, e = .returned (.slice (some ⟨g, 0, none⟩) n c) ∧ Rows64 w' w.heap.size 43 g n c l ∧ Below w.heap.size w w'

/-- What a copy of a row of flags is. -/
def ClonedF (w : World) (n : Nat) (l : List Bool) (e : Ending) (w' : World) : Prop := ∃ g c, e = .returned (.slice (some ⟨g, 0, none⟩) n c) ∧ Bools w' w.heap.size g n c l ∧ Below w.heap.size w w'

theorem keep5 {w W : World} {x : Nat} {A0 A1 A2 A3 A4 : Value} (hx : x < w.heap.size)
    (h : w.cell? ⟨x, 0, none⟩ = some A0 ∧ w.cell? ⟨x, 1, none⟩ = some A1 ∧ w.cell? ⟨x, 2, none⟩ = some A2 ∧ w.cell? ⟨x, 3, none⟩ = some A3 ∧ w.cell? ⟨x, 4, none⟩ = some A4)
    (hb : Below w.heap.size w W) : W.cell? ⟨x, 0, none⟩ = some A0 ∧ W.cell? ⟨x, 1, none⟩ = some A1 ∧ W.cell? ⟨x, 2, none⟩ = some A2 ∧ W.cell? ⟨x, 3, none⟩ = some A3 ∧ W.cell? ⟨x, 4, none⟩ = some A4 ∧ Below w.heap.size w W := by
  have e : ∀ k, W.cell? ⟨x, k, none⟩ = w.cell? ⟨x, k, none⟩ := fun k => hb.cell (p := ⟨x, k, none⟩) hx
  exact ⟨(e 0).trans h.1, (e 1).trans h.2.1, (e 2).trans h.2.2.1, (e 3).trans h.2.2.2.1, (e 4).trans h.2.2.2.2, hb⟩

theorem fork_end {w W : World} {d : DS} (hd : d.Ok) (ht : Tidy d) {ga gb gc ca cb cc : Nat} (ha : Rows64 W w.heap.size 43 ga d.n ca d.now) (hb : Rows64 W w.heap.size 43 gb d.n cb d.sure) (hc : Bools W w.heap.size gc d.n cc d.loose)
    (hw : Below w.heap.size w W) (hne : ga ≠ gb) (g1 : w.heap.size ≤ ga) (g2 : w.heap.size ≤ gb) (g3 : w.heap.size ≤ gc) {off : Bool} (ho : d.off = off) {armed : Int} (hm : (d.armed : Int) = armed) :
    ForkE w d (.returned (.pointer (some ⟨W.heap.size, 0, none⟩))) (W.alloc (.cells #[.slice (some ⟨gb, 0, none⟩) d.n cb, .slice (some ⟨ga, 0, none⟩) d.n ca, .slice (some ⟨gc, 0, none⟩) d.n cc, .bool off, .int .i64 armed] 63)) := by
  subst ho hm
  have hal : Below W.heap.size W (W.alloc (.cells #[.slice (some ⟨gb, 0, none⟩) d.n cb, .slice (some ⟨ga, 0, none⟩) d.n ca, .slice (some ⟨gc, 0, none⟩) d.n cc, .bool d.off, .int .i64 (d.armed : Int)] 63)) := (Below.refl _ _).alloc (Nat.le_refl _) _
  have ho := Mv.Only.ofBelow hal fun _ => False
  refine ⟨⟨W.heap.size, ga, gb, gc, ca, cb, cc⟩, rfl, ⟨⟨hd, hw.size, ⟨heap_alloc_new _ _⟩, ha.only ho fun h => h, hb.only ho fun h => h, Mv.own_only hc ho fun _ _ h => h, hne⟩, ht⟩, fun k hk => ?_, below_then hw hal⟩
  rcases hk with hk | hk | hk | hk <;> rw [hk] <;> dsimp only
  · exact hw.size
  · exact g1
  · exact g2
  · exact g3

theorem own_lower {w : World} {B B' E size n : Nat} {v : Value} {xs : List Value} (h : w.ownsRow B E size v n xs) (hb : B' ≤ B) : w.ownsRow B' E size v n xs := by
  refine ⟨h.1, ?_⟩
  rcases h.2 with h2 | ⟨g, cap, cur, hv, hg, rest⟩
  · exact .inl h2
  · exact .inr ⟨g, cap, cur, hv, Nat.le_trans hb hg, rest⟩

section
variable (w : World) (B : Nat) (q : Pl) (d : DS)
theorem len_any (h : At w B q d) (n0 : 0 < d.n) (hn : d.n ≤ 20000) : Calls Try.prog 34 #[.pointer (some ⟨q.x, 0, none⟩)] w fun e w' => e = .returned (.int .i64 (d.n : Int)) ∧ Below w.heap.size w w' := by
  have c1 := h.lay.box.cell 1
  simp at c1
  refine (len_eq w q.x _ d.n _ c1 (by omega)).mono ?_
  rintro e w' ⟨rfl, rfl⟩
  exact ⟨rfl, Below.refl _ _⟩

theorem down_any (h : At w B q d) (n0 : 0 < d.n) (hn : d.n ≤ 20000) : Calls Try.prog 35 #[.pointer (some ⟨q.x, 0, none⟩)] w fun e w' => e = .returned (.bool d.off) ∧ Below w.heap.size w w' := by
  have c3 := h.lay.box.cell 3
  simp at c3
  refine (down_eq w q.x d.off c3).mono ?_
  rintro e w' ⟨rfl, rfl⟩
  exact ⟨rfl, Below.refl _ _⟩

theorem read_any (i : Int) (h : At w B q d) (n0 : 0 < d.n) (hn : d.n ≤ 20000) : Calls Try.prog 59 #[.pointer (some ⟨q.x, 0, none⟩), .int .i64 i] w fun e w' => e = .returned (.tuple #[.agg (secCells (readV d i)), .int .i64 (readE d i)]) ∧ Below w.heap.size w w' := read_lay w B q d i h.lay (by omega)

theorem write_any (i : Int) (b : List UInt8) (h : At w B q d) (n0 : 0 < d.n) (hn : d.n ≤ 20000) (hb : b.length = 64) (ha : d.armed ≤ 9223372036854775807) : Calls Try.prog 18 #[.pointer (some ⟨q.x, 0, none⟩), .int .i64 i, .agg (secCells b)] w fun e w' => e = .returned (.int .i64 (writeE d i)) ∧ Went w B q (writeD d i b) w' := by
  refine (write_lay w B q d i b h.lay n0 (by omega) hb ha).mono ?_
  rintro e w' ⟨rfl, h1⟩
  exact ⟨rfl, Went.of h1 (tidy_write h.tidy h.ok)⟩

theorem sync_any (h : At w B q d) (n0 : 0 < d.n) (hn : d.n ≤ 20000) (ha : d.armed ≤ 9223372036854775807) : Calls Try.prog 83 #[.pointer (some ⟨q.x, 0, none⟩)] w fun e w' => e = .returned (.int .i64 (syncE d)) ∧ Went w B q (syncD d) w' := by
  refine (sync_lay w B q d h.lay h.tidy n0 (by omega) ha).mono ?_
  rintro e w' ⟨rfl, h1⟩
  exact ⟨rfl, Went.of h1 (tidy_sync h.tidy)⟩

theorem arm_any (m : Int) (h : At w B q d) (n0 : 0 < d.n) (hn : d.n ≤ 20000) (hm : m ≤ 9223372036854775807) : Calls Try.prog 16 #[.pointer (some ⟨q.x, 0, none⟩), .int .i64 m] w fun e w' => e = .returned (.tuple #[]) ∧ Went w B q (armD d m) w' := by
  refine (arm_lay w B q d m h.lay n0 hm).mono ?_
  rintro e w' ⟨rfl, h1⟩
  exact ⟨rfl, Went.of h1 h.tidy⟩

theorem tidy_crash (kn : Nat) (kf : Nat → Int) (h : At w B q d) : Tidy (crashD d kn kf) := tidy_crashN kn kf h.tidy h.ok

theorem crash_any (A : Option Addr) (kn c : Nat) (kf : Nat → Int) (h : At w B q d) (hA : Hl.Ints w w.heap.size A kn kf) (hd : ∀ a, A = some a → kn ≠ 0 → ¬ q.has a.block) (hk : kn ≤ 1000000) (hkf : ∀ k, k < kn → -9223372036854775808 ≤ kf k ∧ kf k ≤ 9223372036854775807) (n0 : 0 < d.n) (hn : d.n ≤ 20000) :
    Calls Try.prog 20 #[.pointer (some ⟨q.x, 0, none⟩), .slice A kn c] w fun e w' => e = .returned (.tuple #[]) ∧ Went w B q (crashD d kn kf) w' := by
  refine (crash_lay w B q d A kn c kf h.lay hA hd hk hkf n0 (by omega)).mono ?_
  rintro e w' ⟨rfl, h1⟩
  exact ⟨rfl, Went.of h1 (tidy_crash w B q d kn kf h)⟩

theorem start_any (h : At w B q d) (n0 : 0 < d.n) (hn : d.n ≤ 20000) : Calls Try.prog 22 #[.pointer (some ⟨q.x, 0, none⟩)] w fun e w' => e = .returned (.tuple #[]) ∧ Went w B q (startD d) w' := by
  refine (start_lay w B q d h.lay n0 (by omega)).mono ?_
  rintro e w' ⟨rfl, h1⟩
  refine ⟨rfl, Went.of h1 ?_⟩
  unfold startD
  split
  · exact tidy_crash w B q d 0 (fun _ => 0) h
  · exact h.tidy

/-! ### nil -/
theorem read_nil (i : Int) : Calls Try.prog 59 #[.pointer none, .int .i64 i] w fun e w' => e = .returned (.tuple #[.agg (secCells Se.noughts), .int .i64 1]) ∧ Below w.heap.size w w' := by
  have HN := Lib.hid fun W => at_nil W i
  go_enter Try.func59, Try.ntmps59
  go_wp2_with (first
    | (refine new_sec rfl rfl ?_; intro w1 hS1 hB1 hZ1; have HB := Lib.hid (And.intro hB1 hZ1); clear hB1 hZ1)
    | (refine (HN.out w1).mono ?_; rintro e w2 ⟨rfl, rfl⟩)
    | (refine zero_sec rfl rfl ?_)
    | (refine store_sec rfl _ _ rfl _ rfl _ rfl _ hS1 noughts_len ?_; intro w2 hS2 hG2))
  refine bodyPost_ret (two_results rfl _ w2 w.heap.size noughts (.int .i64 1) rfl hS2 rfl rfl) rfl ⟨rfl, ?_⟩
  exact HB.out.1.grown hG2 HB.out.1.size (fun k hk => by injection hk with hk; omega)

theorem write_nil (i : Int) (b : List UInt8) (hb : b.length = 64) : Calls Try.prog 18 #[.pointer none, .int .i64 i, .agg (secCells b)] w fun e w' => e = .returned (.int .i64 1) ∧ Below w.heap.size w w' := by
  have HN := Lib.hid fun W => at_nil W i
  go_enter Try.func18, Try.ntmps18
  go_wp2_with (first
    | (refine box_sec rfl _ rfl _ rfl hb ?_; intro w1 hS1 hB1 hZ1; have HB := Lib.hid hB1; clear hB1 hZ1 hS1)
    | (refine (HN.out w1).mono ?_; rintro e w2 ⟨rfl, rfl⟩))
  go_ret
  exact ⟨rfl, HB.out⟩

theorem sync_nil : Calls Try.prog 83 #[.pointer none] w fun e w' => e = .returned (.int .i64 1) ∧ Below w.heap.size w w' := by
  have HN := Lib.hid (refused_nil w)
  go_enter Try.func83, Try.ntmps83
  go_wp2_with (first | (refine HN.out.mono ?_; rintro e w2 ⟨rfl, rfl⟩))
  go_ret
  exact ⟨rfl, Below.refl _ _⟩

theorem arm_nil (m : Int) (hm : m ≤ 9223372036854775807) : Calls Try.prog 16 #[.pointer none, .int .i64 m] w fun e w' => e = .returned (.tuple #[]) ∧ Below w.heap.size w w' := by
  go_enter Try.func16, Try.ntmps16
  go_wp2_with fail
  refine bodyPost_ret (results_none rfl _ _ _) rfl ?_
  exact ⟨rfl, Below.refl _ _⟩

theorem crash_nil (A : Option Addr) (kn c : Nat) : Calls Try.prog 20 #[.pointer none, .slice A kn c] w fun e w' => e = .returned (.tuple #[]) ∧ Below w.heap.size w w' := by
  go_enter Try.func20, Try.ntmps20
  go_wp2_with fail
  refine bodyPost_ret (results_none rfl _ _ _) rfl ?_
  exact ⟨rfl, Below.refl _ _⟩

theorem down_nil : Calls Try.prog 35 #[.pointer none] w fun e w' => e = .returned (.bool false) ∧ Below w.heap.size w w' := by
  go_enter Try.func35, Try.ntmps35
  go_wp2_with fail
  go_ret
  exact ⟨rfl, Below.refl _ _⟩

theorem down_none : Calls Try.prog 35 #[.pointer none] w fun e w' => e = .returned (.bool false) ∧ w = w' := by
  go_enter Try.func35, Try.ntmps35
  go_wp2_with fail
  go_ret
  exact ⟨rfl, rfl⟩

theorem start_nil : Calls Try.prog 22 #[.pointer none] w fun e w' => e = .returned (.tuple #[]) ∧ Below w.heap.size w w' := by
  have HN := Lib.hid (down_none w)
  go_enter Try.func22, Try.ntmps22
  go_wp2_with (first | (refine HN.out.mono ?_; rintro e w2 ⟨rfl, rfl⟩))
  refine bodyPost_ret (results_none rfl _ _ _) rfl ?_
  exact ⟨rfl, Below.refl _ _⟩

theorem len_nil : Calls Try.prog 34 #[.pointer none] w fun e w' => e = .returned (.int .i64 0) ∧ Below w.heap.size w w' := by
  go_enter Try.func34, Try.ntmps34
  go_wp2_with fail
  go_ret
  exact ⟨rfl, Below.refl _ _⟩

end

end Go.Proofs.Ytedgookkogpfbaa.Dd
end

section
namespace Go.Proofs.Ytedgookkogpfbaa.Dk
open Go.ChangeShapes Go.WideShapes Go.ChangeAt Go.RowKit
open Qu (Blk)
open Mv (Only)
open Se (All64 blanks Rows64 noughts noughts_len)
open By (cellsB cellsB_length cellsB_at)
open Dd (Pl At Went)
set_option linter.unusedVariables false

theorem at_below {w w' : World} {B : Nat} {q : Pl} {d : DS} (h : At w B q d) (k : Below w.heap.size w w') : At w' B q d := h.only (Mv.Only.ofBelow k fun _ => False) (fun _ _ h => h)

theorem readV_len {d : DS} (h : d.Ok) (i : Int) : (readV d i).length = 64 := by
  unfold readV
  split
  · rename_i h0
    obtain ⟨h1, h2, _⟩ := inR_yes h0
    have hl : i.toNat < d.now.length := by unfold DS.n at h2; omega
    rw [List.getD, List.getElem?_eq_getElem hl]
    exact h.now _ (List.getElem_mem _)
  · exact noughts_len

theorem Sec.below {w w' : World} {g : Nat} {s : List UInt8} (h : Sec w g s) (k : Below w.heap.size w w') : Sec w' g s := ⟨h.1, Mv.blk_only h.2 (Mv.Only.ofBelow k fun _ => False) (fun h => h)⟩

theorem sec_far {w w' : World} {g k : Nat} {s : List UInt8} (h : Sec w g s) (hg : w.grownBy w' (some k)) (hk : g ≠ k) : Sec w' g s := ⟨h.1, h.2.grown hg fun e => hk (by injection e)⟩

theorem neq_same (s : List UInt8) (hs : s.length = 64) (w : World) : (binOp .neq 43 (.agg (secCells s)) (.agg (secCells s))).run Try.prog w = .ok (.bool false) w := by
  rw [neq_sector s s hs hs w]
  simp

/-- As the walk meets it: a sector is held against itself. -/
theorem neq_step {ops : Array Oper} {rest : List Oper} {op : Oper} {a : Act} {w : World} {Q : Exit → Act → World → Prop} (free : op.guard = none) (x y : Operand) (is : op.op = .binOp .neq 43 x y 43) (s : List UInt8) (vx : a.eval x = .agg (secCells s)) (vy : a.eval y = .agg (secCells s)) (hs : s.length = 64)
    (go : wpList Try.prog ops Q rest (a.put op.dst (.bool false)) w) : wpList Try.prog ops Q (op :: rest) a w := by
  refine wpList_plain free fun K hK => ?_
  have hg : Try.prog.eqGuardType Try.prog.depth 43 = false := by kernel_rfl
  unfold Oper.wp execOp
  simp only [is, vx, vy, Sem.run_bind, run_eqGuard_agg w .neq 43 x y _ _ hg, neq_same s hs w, Sem.run_pure, Result.andThen_ok]
  exact hK _ _ go

theorem keep_same {w W : World} {x : Nat} {A0 A3 : Value} (hx : x < w.heap.size) (h : w.cell? ⟨x, 0, none⟩ = some A0 ∧ w.cell? ⟨x, 3, none⟩ = some A3) (hb : Below w.heap.size w W) :
    W.cell? ⟨x, 0, none⟩ = some A0 ∧ W.cell? ⟨x, 3, none⟩ = some A3 ∧ Below w.heap.size w W :=
  ⟨(hb.cell (p := ⟨x, 0, none⟩) hx).trans h.1, (hb.cell (p := ⟨x, 3, none⟩) hx).trans h.2, hb⟩

end Go.Proofs.Ytedgookkogpfbaa.Dk
end
