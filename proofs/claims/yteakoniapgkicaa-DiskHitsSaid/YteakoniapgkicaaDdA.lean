/- The landed disk in memory. -/
import Derived.Test.YteakoniapgkicaaDkC
namespace Go.Proofs.Yteakoniapgkicaa.Dd
open Go.ChangeShapes Go.WideShapes Go.ChangeAt Go.RowKit
open Qu (Blk)
open Mv (Only)
open Se (All64 blanks Rows64 noughts noughts_len)
open By (cellsB cellsB_length cellsB_at)
open Dk (DS dsNew readE readV writeE writeD syncE syncD armD crashD startD secCells secCells_size size_sector Bools lies lies_of tick hitB crashN crashN_n crashN_len crashN_at mix mixS mixS_len keeps keeps_le rank rank_yes midD tick_ok)
set_option linter.unusedVariables false

/-- Where the parts of the landed disk lie. -/
structure Pl where
  x : Nat
  a : Nat
  b : Nat
  c : Nat
  ca : Nat
  cb : Nat
  cc : Nat

/-- The blocks of it. -/
def Pl.has (p : Pl) : Nat → Prop := fun k => k = p.x ∨ k = p.a ∨ k = p.b ∨ k = p.c

structure Lay (w : World) (B : Nat) (p : Pl) (d : DS) : Prop where
  ok : d.Ok
  base : B ≤ p.x
  box : Blk w p.x 56 #[.slice (some ⟨p.b, 0, none⟩) d.n p.cb, .slice (some ⟨p.a, 0, none⟩) d.n p.ca, .slice (some ⟨p.c, 0, none⟩) d.n p.cc, .bool d.off, .int .i64 (d.armed : Int)]
  now : Rows64 w B 42 p.a d.n p.ca d.now
  sure : Rows64 w B 42 p.b d.n p.cb d.sure
  loose : Bools w B p.c d.n p.cc d.loose
  ne : p.a ≠ p.b

section
variable {w w' : World} {B : Nat} {p : Pl} {d : DS} {S : Nat → Prop}
theorem Lay.only (h : Lay w B p d) (k : Only w w' S) (hs : ∀ i, p.has i → ¬ S i) : Lay w' B p d :=
  ⟨h.ok, h.base, Mv.blk_only h.box k (hs _ (.inl rfl)), h.now.only k (hs _ (.inr (.inl rfl))), h.sure.only k (hs _ (.inr (.inr (.inl rfl)))),
   Mv.own_only h.loose k fun g hg => by rw [Mv.ownBlock_some] at hg; injection hg with hg; subst hg; exact hs _ (.inr (.inr (.inr rfl))), h.ne⟩

theorem Lay.below (h : Lay w B p d) (hb : Below w.heap.size w w') : Lay w' B p d :=
  h.only (Mv.Only.ofBelow hb fun _ => False) (fun _ _ h => h)

theorem Lay.apart (h : Lay w B p d) (n0 : 0 < d.n) : p.x ≠ p.a ∧ p.x ≠ p.b ∧ p.x ≠ p.c ∧ p.c ≠ p.a ∧ p.c ≠ p.b := by
  have h1 := Mv.own_blk_ne h.now.2 h.box (by omega)
  have h2 := Mv.own_blk_ne h.sure.2 h.box (by omega)
  have h3 := Mv.own_blk_ne h.loose h.box (by omega)
  have e1 : ∀ g, p.c = g → ∀ {E size n cap : Nat} {xs : List Value}, w.ownsRow B E size (.slice (some ⟨g, 0, none⟩) n cap) n xs → E = 4 := fun g hg E size n cap xs ho => by
    rcases ho.2 with ⟨h0, _⟩ | ⟨g1, cap1, cur1, hv1, _, hh1, _⟩
    · cases h0
    · rcases h.loose.2 with ⟨h0, _⟩ | ⟨g2, cap2, cur2, hv2, _, hh2, _⟩
      · cases h0
      · cases hv1
        cases hv2
        rw [hg] at hh2
        rw [hh1] at hh2
        injection hh2 with hh2
        injection hh2 with _ ht
  refine ⟨fun e => h1 p.a rfl e.symm, fun e => h2 p.b rfl e.symm, fun e => h3 p.c rfl e.symm, fun e => ?_, fun e => ?_⟩
  · have := e1 p.a e h.now.2
    omega
  · have := e1 p.b e h.sure.2
    omega
end

theorem Lay.setBox {w : World} {B : Nat} {p : Pl} {d d' : DS} {w' : World} (h : Lay w B p d) (n0 : 0 < d.n) (hb : Blk w' p.x 56 #[.slice (some ⟨p.b, 0, none⟩) d.n p.cb, .slice (some ⟨p.a, 0, none⟩) d.n p.ca, .slice (some ⟨p.c, 0, none⟩) d.n p.cc, .bool d'.off, .int .i64 (d'.armed : Int)])
    (ho : Only w w' (Mv.one p.x)) (e1 : d'.now = d.now) (e2 : d'.sure = d.sure) (e3 : d'.loose = d.loose) : Lay w' B p d' ∧ Only w w' p.has := by
  obtain ⟨h1, h2, h3, _, _⟩ := h.apart n0
  have en : d'.n = d.n := by unfold DS.n; rw [e1]
  refine ⟨⟨⟨by rw [e1]; exact h.ok.now, by rw [e2]; exact h.ok.sure, by rw [e1, e2]; exact h.ok.len, by rw [e1, e3]; exact h.ok.lens⟩, h.base, by rw [en]; exact hb, ?_, ?_, ?_, h.ne⟩, ho.mono fun i _ e => .inl e⟩
  · rw [en, e1]; exact h.now.only ho fun e => h1 (show p.a = p.x from e).symm
  · rw [en, e2]; exact h.sure.only ho fun e => h2 (show p.b = p.x from e).symm
  · rw [en, e3]
    exact Mv.own_only h.loose ho fun g hg e => by
      rw [Mv.ownBlock_some] at hg
      injection hg with hg
      have e' : g = p.x := e
      omega

theorem Lay.write {w : World} {B : Nat} {p : Pl} {d : DS} {k : Nat} {b : List UInt8} (h : Lay w B p d) (n0 : 0 < d.n) (hk : k < d.n) (hb : b.length = 64) :
    Lay ((w.setCells p.a (k * 64) (cellsB b)).setCell ⟨p.c, k, none⟩ (.bool true)) B p { d with now := d.now.set k b, loose := d.loose.set k true } ∧ Only w ((w.setCells p.a (k * 64) (cellsB b)).setCell ⟨p.c, k, none⟩ (.bool true)) p.has := by
  obtain ⟨h1, h2, h3, h4, h5⟩ := h.apart n0
  obtain ⟨hr, hg⟩ := h.now.put (s := b) hk hb
  have ho1 : Only w (w.setCells p.a (k * 64) (cellsB b)) (Mv.one p.a) := Mv.Only.ofGrown hg fun i hi => by injection hi with hi; exact hi.symm
  have hl1 : Bools (w.setCells p.a (k * 64) (cellsB b)) B p.c d.n p.cc d.loose := Mv.own_only h.loose ho1 fun g hg' e => by
    rw [Mv.ownBlock_some] at hg'
    injection hg' with hg'
    have e' : g = p.a := e
    omega
  obtain ⟨hl2, hg2⟩ := World.ownsRow.stored hl1 k (.bool true)
  have ho2 : Only (w.setCells p.a (k * 64) (cellsB b)) ((w.setCells p.a (k * 64) (cellsB b)).setCell ⟨p.c, k, none⟩ (.bool true)) (Mv.one p.c) := Mv.Only.ofGrown hg2 fun i hi => by injection hi with hi; exact hi.symm
  have en : ({ d with now := d.now.set k b, loose := d.loose.set k true } : DS).n = d.n := by unfold DS.n; simp
  have q1 : ∀ i j : Nat, i ≠ j → ¬ Mv.one j i := fun i j hij e => hij e
  refine ⟨⟨⟨h.ok.now.set hb k, h.ok.sure, by simp [h.ok.len], by simp [h.ok.lens]⟩, h.base, ?_, ?_, ?_, ?_, h.ne⟩, ?_⟩
  · rw [en]
    exact Mv.blk_only (Mv.blk_only h.box ho1 (q1 _ _ h1)) ho2 (q1 _ _ h3)
  · rw [en]
    exact hr.only ho2 (q1 _ _ (fun e => h4 e.symm))
  · rw [en]
    exact (h.sure.only ho1 (q1 _ _ (fun e => h.ne e.symm))).only ho2 (q1 _ _ (fun e => h5 e.symm))
  · rw [en]
    unfold Bools
    rw [List.map_set]
    exact hl2
  · exact (ho1.mono fun i _ e => .inr (.inl e)).trans ho2 fun i _ e => .inr (.inr (.inr e))

theorem Lay.setNow {w : World} {B : Nat} {p : Pl} {d : DS} {k : Nat} {b : List UInt8} (h : Lay w B p d) (n0 : 0 < d.n) (hk : k < d.n) (hb : b.length = 64) :
    Lay (w.setCells p.a (k * 64) (cellsB b)) B p { d with now := d.now.set k b } ∧ Only w (w.setCells p.a (k * 64) (cellsB b)) p.has := by
  obtain ⟨h1, h2, h3, h4, h5⟩ := h.apart n0
  obtain ⟨hr, hg⟩ := h.now.put (s := b) hk hb
  have ho : Only w (w.setCells p.a (k * 64) (cellsB b)) (Mv.one p.a) := Mv.Only.ofGrown hg fun i hi => by injection hi with hi; exact hi.symm
  have en : ({ d with now := d.now.set k b } : DS).n = d.n := by unfold DS.n; simp
  have q1 : ∀ i j : Nat, i ≠ j → ¬ Mv.one j i := fun i j hij e => hij e
  refine ⟨⟨⟨h.ok.now.set hb k, h.ok.sure, by simp [h.ok.len], by simp [h.ok.lens]⟩, h.base, ?_, ?_, ?_, ?_, h.ne⟩, ho.mono fun i _ e => .inr (.inl e)⟩
  · rw [en]; exact Mv.blk_only h.box ho (q1 _ _ h1)
  · rw [en]; exact hr
  · rw [en]; exact h.sure.only ho (q1 _ _ (fun e => h.ne e.symm))
  · rw [en]
    exact Mv.own_only h.loose ho fun g hg' e => by
      rw [Mv.ownBlock_some] at hg'
      injection hg' with hg'
      have e' : g = p.a := e
      omega

theorem Lay.setSure {w : World} {B : Nat} {p : Pl} {d : DS} {k : Nat} {b : List UInt8} (h : Lay w B p d) (n0 : 0 < d.n) (hk : k < d.n) (hb : b.length = 64) :
    Lay (w.setCells p.b (k * 64) (cellsB b)) B p { d with sure := d.sure.set k b } ∧ Only w (w.setCells p.b (k * 64) (cellsB b)) p.has := by
  obtain ⟨h1, h2, h3, h4, h5⟩ := h.apart n0
  obtain ⟨hr, hg⟩ := h.sure.put (s := b) hk hb
  have ho : Only w (w.setCells p.b (k * 64) (cellsB b)) (Mv.one p.b) := Mv.Only.ofGrown hg fun i hi => by injection hi with hi; exact hi.symm
  have q1 : ∀ i j : Nat, i ≠ j → ¬ Mv.one j i := fun i j hij e => hij e
  refine ⟨⟨⟨h.ok.now, h.ok.sure.set hb k, by simp [h.ok.len], h.ok.lens⟩, h.base, ?_, ?_, ?_, ?_, h.ne⟩, ho.mono fun i _ e => .inr (.inr (.inl e))⟩
  · exact Mv.blk_only h.box ho (q1 _ _ h2)
  · exact h.now.only ho (q1 _ _ h.ne)
  · exact hr
  · exact Mv.own_only h.loose ho fun g hg' e => by
      rw [Mv.ownBlock_some] at hg'
      injection hg' with hg'
      have e' : g = p.b := e
      omega

theorem Lay.setLoose {w : World} {B : Nat} {p : Pl} {d : DS} {k : Nat} (h : Lay w B p d) (n0 : 0 < d.n) (hk : k < d.n) (v : Bool) :
    Lay (w.setCell ⟨p.c, k, none⟩ (.bool v)) B p { d with loose := d.loose.set k v } ∧ Only w (w.setCell ⟨p.c, k, none⟩ (.bool v)) p.has := by
  obtain ⟨h1, h2, h3, h4, h5⟩ := h.apart n0
  obtain ⟨hl, hg⟩ := World.ownsRow.stored h.loose k (.bool v)
  have ho : Only w (w.setCell ⟨p.c, k, none⟩ (.bool v)) (Mv.one p.c) := Mv.Only.ofGrown hg fun i hi => by injection hi with hi; exact hi.symm
  have q1 : ∀ i j : Nat, i ≠ j → ¬ Mv.one j i := fun i j hij e => hij e
  refine ⟨⟨⟨h.ok.now, h.ok.sure, h.ok.len, by simp [h.ok.lens]⟩, h.base, ?_, ?_, ?_, ?_, h.ne⟩, ho.mono fun i _ e => .inr (.inr (.inr e))⟩
  · exact Mv.blk_only h.box ho (q1 _ _ h3)
  · exact h.now.only ho (q1 _ _ (fun e => h4 e.symm))
  · exact h.sure.only ho (q1 _ _ (fun e => h5 e.symm))
  · unfold Bools
    rw [List.map_set]
    exact hl

theorem Lay.drew {w : World} {B : Nat} {p : Pl} {d : DS} (h : Lay w B p d) : Lay w.drew B p d := h.only (S := fun _ => False) (Mv.Only.refl w _).drew (fun _ _ h => h)

theorem Lay.flag {w : World} {B : Nat} {p : Pl} {d : DS} {k : Nat} (h : Lay w B p d) (hk : k < d.n) : w.cell? ⟨p.c, k, none⟩ = some (.bool (d.loose.getD k false)) := by
  have hl := h.loose.1
  rw [h.loose.cellAt k (by omega), List.getElem?_map, List.getD]
  rw [List.getElem?_eq_getElem (by rw [List.length_map] at hl; omega)]
  rfl

theorem Lay.from {w : World} {B : Nat} {p : Pl} {d : DS} (h : Lay w B p d) : ∀ k, p.has k → B ≤ k := fun k hk => by
  rcases hk with rfl | rfl | rfl | rfl
  · exact h.base
  · exact (World.ownsRow.lt h.now.2 p.a rfl).1
  · exact (World.ownsRow.lt h.sure.2 p.b rfl).1
  · exact (World.ownsRow.lt h.loose p.c rfl).1

theorem midD_done {w : World} {B : Nat} {p : Pl} {d : DS} {kn : Nat} {kf : Nat → Int} {i : Nat} (hok : d.Ok) (n0 : 0 < d.n) (hi : i < d.n) (hl : d.loose.getD i false = true) (h : Lay w B p (midD d kn kf i (keeps kn kf (rank d.loose i)))) :
    Lay ((w.setCells p.a (i * 64) (cellsB (mixS d kn kf i))).setCell ⟨p.c, i, none⟩ (.bool false)) B p (crashN d kn kf (i + 1)) ∧ Only w ((w.setCells p.a (i * 64) (cellsB (mixS d kn kf i))).setCell ⟨p.c, i, none⟩ (.bool false)) p.has := by
  have hn : (midD d kn kf i (keeps kn kf (rank d.loose i))).n = d.n := crashN_n kn kf i
  obtain ⟨h1, o1⟩ := h.setNow (k := i) (by rw [hn]; exact n0) (by rw [hn]; exact hi) (mixS_len kn kf hok hi)
  obtain ⟨h2, o2⟩ := h1.setLoose (k := i) (by unfold DS.n; rw [List.length_set]; exact Nat.lt_of_lt_of_eq n0 hn.symm) (by unfold DS.n; rw [List.length_set]; exact Nat.lt_of_lt_of_eq hi hn.symm) false
  refine ⟨?_, o1.trans o2 fun i _ h => h⟩
  have e : crashN d kn kf (i + 1) = { midD d kn kf i (keeps kn kf (rank d.loose i)) with now := (midD d kn kf i (keeps kn kf (rank d.loose i))).now.set i (mixS d kn kf i), loose := (midD d kn kf i (keeps kn kf (rank d.loose i))).loose.set i false } := by
    rw [crashN, if_pos hl]
    rfl
  rw [e]
  exact h2

/-! ### what is alike where it is not loose -/
/-- Where a sector is not loose, what was written last is sure. -/
def Tidy (d : DS) : Prop := ∀ i, d.loose.getD i false = false → d.now[i]? = d.sure[i]?

theorem tidy_new (n : Nat) : Tidy (dsNew n) := fun _ _ => rfl

theorem tidy_write {d : DS} {i : Int} {b : List UInt8} (h : Tidy d) (hok : d.Ok) : Tidy (writeD d i b) := by
  unfold writeD
  split
  · exact h
  · rename_i hr
    obtain ⟨r0, r1, _⟩ := Dk.inR_yes (d := d) (i := i) (Decidable.byContradiction fun e => hr e)
    obtain ⟨k, rfl⟩ : ∃ k : Nat, i = (k : Int) := ⟨i.toNat, by omega⟩
    have hk : k < d.loose.length := by rw [hok.lens]; show k < d.n; omega
    intro j hj
    rw [Int.toNat_natCast] at *
    have hj2 : (d.loose.set k true).getD j false = false := hj
    show (d.now.set k b)[j]? = d.sure[j]?
    by_cases e : k = j
    · subst e
      rw [List.getD, List.getElem?_set_self hk] at hj2
      cases hj2
    · rw [List.getElem?_set_ne e]
      rw [List.getD, List.getElem?_set_ne e] at hj2
      exact h j hj2

theorem tidy_crashN {d : DS} (kn : Nat) (kf : Nat → Int) (h : Tidy d) (hok : d.Ok) : Tidy (crashN d kn kf d.n) := by
  intro j hj
  rcases Nat.lt_or_ge j d.n with hlt | hge
  · obtain ⟨e1, e2, _⟩ := Dk.crashN_told (d := d) kn kf d.n j hlt (Nat.le_refl _) hok.lens hok.len
    rw [e1, e2]
    split
    · rfl
    · rename_i hl
      exact h j (by simpa using hl)
  · obtain ⟨e1, e2, _⟩ := crashN_at (d := d) kn kf d.n j hge
    have l0 : d.now.length = d.n := rfl
    have l1 := hok.len
    rw [e1, e2, List.getElem?_eq_none (by omega), List.getElem?_eq_none (by omega)]

theorem keeps_all (r : Nat) : keeps 1 (fun _ => 64) r = 64 := by simp [keeps]

theorem mix_all {a b : List UInt8} (ha : a.length = 64) (hb : b.length = 64) : mix a b 64 = a := by
  unfold mix
  rw [List.take_of_length_le (by omega), List.drop_eq_nil_of_le (by omega), List.append_nil]

/-- All is made sure by keeping all of each. -/
theorem sync_is {d : DS} (h : Tidy d) (hok : d.Ok) (ho : d.off = false) (hh : hitB d = false) : crashN (tick d) 1 (fun _ => 64) d.n = syncD d := by
  have l0 : d.now.length = d.n := rfl
  have l1 := hok.len
  have l2 := hok.lens
  have hm : ∀ j, j < d.n → some (mixS (tick d) 1 (fun _ => 64) j) = d.now[j]? := fun j hj => by
    unfold mixS
    rw [keeps_all]
    obtain ⟨a, ha⟩ : ∃ a, d.now[j]? = some a := ⟨_, List.getElem?_eq_getElem hj⟩
    obtain ⟨b, hb⟩ : ∃ b, d.sure[j]? = some b := ⟨_, List.getElem?_eq_getElem (by omega)⟩
    have e1 : (tick d).now.getD j [] = a := by show d.now.getD j [] = _; rw [List.getD, ha]; rfl
    have e2 : (tick d).sure.getD j [] = b := by show d.sure.getD j [] = _; rw [List.getD, hb]; rfl
    rw [e1, e2, mix_all (hok.now.at ha) (hok.sure.at hb), ha]
  have told := fun j (hj : j < d.n) => Dk.crashN_told (d := tick d) 1 (fun _ => 64) d.n j hj (Nat.le_refl _) l2 l1
  obtain ⟨n1, n2, n3⟩ := crashN_len (d := tick d) 1 (fun _ => 64) d.n
  obtain ⟨o1, o2⟩ := Dk.crashN_off (d := tick d) 1 (fun _ => 64) d.n
  have m1 : (tick d).now = d.now := rfl
  have m2 : (tick d).sure = d.sure := rfl
  have m3 : (tick d).loose = d.loose := rfl
  rw [m1] at n1
  rw [m2] at n2
  rw [m3] at n3
  have e1 : (crashN (tick d) 1 (fun _ => 64) d.n).now = d.now := by
    apply List.ext_getElem?
    intro j
    rcases Nat.lt_or_ge j d.n with hj | hj
    · rw [(told j hj).1]
      split
      · exact hm j hj
      · rfl
    · rw [List.getElem?_eq_none (by omega), List.getElem?_eq_none (by omega)]
  have e2 : (crashN (tick d) 1 (fun _ => 64) d.n).sure = d.now := by
    apply List.ext_getElem?
    intro j
    rcases Nat.lt_or_ge j d.n with hj | hj
    · rw [(told j hj).2.1]
      split
      · exact hm j hj
      · rename_i hl
        exact (h j (Bool.eq_false_iff.2 hl)).symm
    · rw [List.getElem?_eq_none (by omega), List.getElem?_eq_none (by omega)]
  have e3 : (crashN (tick d) 1 (fun _ => 64) d.n).loose = List.replicate d.n false := by
    apply List.ext_getElem?
    intro j
    rcases Nat.lt_or_ge j d.n with hj | hj
    · rw [(told j hj).2.2, List.getElem?_replicate, if_pos hj]
    · rw [List.getElem?_eq_none (by omega), List.getElem?_eq_none (by rw [List.length_replicate]; omega)]
  unfold syncD
  rw [ho, if_neg (by simp), hh, if_neg (by simp)]
  generalize crashN (tick d) 1 (fun _ => 64) d.n = e at *
  cases e
  simp only at e1 e2 e3 o1 o2
  subst e1 e2 e3 o1 o2
  rfl

theorem tidy_sync {d : DS} (h : Tidy d) : Tidy (syncD d) := by
  unfold syncD
  split
  · exact h
  · split
    · exact h
    · intro j _
      rfl

/-! ### the first bytes of a sector -/
theorem over_part {l : List (List UInt8)} {s : List UInt8} {i m : Nat} (h : All64 l) (hs : s.length = 64) (hi : i < l.length) (hm : m ≤ 64) : Se.over (cellsB l.flatten) (i * 64) (cellsB (s.take m)) = cellsB (l.set i (mix s (l.getD i []) m)).flatten := by
  have hg : l[i]? = some (l.getD i []) := by rw [List.getD, List.getElem?_eq_getElem hi]; rfl
  have hl64 : (l.getD i []).length = 64 := h.at hg
  have hx : (mix s (l.getD i []) m).length = 64 := Dk.mix_len hs hl64 hm
  have ht : (s.take m).length = m := by rw [List.length_take]; omega
  have hl := Se.flat_length h
  have hl2 := Se.flat_length (h.set hx i)
  apply List.ext_getElem?
  intro k
  rw [Se.over_at _ _ _ _ (by rw [cellsB_length, cellsB_length, hl, ht]; omega), cellsB_length, ht, cellsB_at, cellsB_at, cellsB_at]
  have e := Se.flat_at (h.set hx i) (k / 64) (k % 64) (by omega)
  have e0 := Se.flat_at h (k / 64) (k % 64) (by omega)
  have ek : k / 64 * 64 + k % 64 = k := by omega
  rw [ek] at e e0
  rw [e, e0]
  by_cases hk : i * 64 ≤ k ∧ k < i * 64 + m
  · rw [if_pos hk]
    have h1 : k / 64 = i := by omega
    rw [h1, List.getElem?_set_self hi, show k - i * 64 = k % 64 by omega]
    simp only [Option.getD_some]
    unfold mix
    rw [List.getElem?_append_left (by rw [ht]; omega)]
  · rw [if_neg hk]
    by_cases h1 : k / 64 = i
    · rw [h1, List.getElem?_set_self hi, hg]
      simp only [Option.getD_some]
      unfold mix
      rw [List.getElem?_append_right (by rw [ht]; omega), ht, List.getElem?_drop]
      congr 2
      omega
    · rw [List.getElem?_set_ne (fun e => h1 e.symm)]

theorem Rows64_part {w : World} {B E g n cap i m : Nat} {l : List (List UInt8)} {s : List UInt8} (h : Rows64 w B E g n cap l) (hi : i < n) (hs : s.length = 64) (hm : m ≤ 64) :
    Rows64 (w.setCells g (i * 64) (cellsB (s.take m))) B E g n cap (l.set i (mix s (l.getD i []) m)) ∧ w.grownBy (w.setCells g (i * 64) (cellsB (s.take m))) (some g) := by
  have hil : i < l.length := by rw [h.len]; exact hi
  have hg : l[i]? = some (l.getD i []) := by rw [List.getD, List.getElem?_eq_getElem hil]; rfl
  obtain ⟨h1, h2⟩ := Se.own_over (cellsB (s.take m)) _ w (i * 64) h.2
  rw [over_part h.1 hs hil hm] at h1
  exact ⟨⟨h.1.set (Dk.mix_len hs (h.1.at hg) hm) i, h1⟩, h2⟩

/-- The first bytes of a sector become sure. -/
theorem midD_part {w : World} {B : Nat} {p : Pl} {d : DS} {kn : Nat} {kf : Nat → Int} {i m : Nat} {s : List UInt8} (hok : d.Ok) (n0 : 0 < d.n) (hi : i < d.n) (hs : d.now[i]? = some s) (hm : m ≤ 64) (h : Lay w B p (crashN d kn kf i)) :
    Lay (w.setCells p.b (i * 64) (cellsB (s.take m))) B p (midD d kn kf i m) ∧ Only w (w.setCells p.b (i * 64) (cellsB (s.take m))) p.has := by
  have hn : (crashN d kn kf i).n = d.n := crashN_n kn kf i
  have hs64 := hok.now.at hs
  obtain ⟨h1, h2, h3, h4, h5⟩ := h.apart (by rw [hn]; exact n0)
  obtain ⟨hr, hg⟩ := Rows64_part (s := s) h.sure (by rw [hn]; exact hi) hs64 hm
  have ho : Only w (w.setCells p.b (i * 64) (cellsB (s.take m))) (Mv.one p.b) := Mv.Only.ofGrown hg fun i hi => by injection hi with hi; exact hi.symm
  have q1 : ∀ i j : Nat, i ≠ j → ¬ Mv.one j i := fun i j hij e => hij e
  have e : midD d kn kf i m = { crashN d kn kf i with sure := (crashN d kn kf i).sure.set i (mix s ((crashN d kn kf i).sure.getD i []) m) } := by
    unfold midD
    have e1 : d.now.getD i [] = s := by rw [List.getD, hs]; rfl
    have e2 : (crashN d kn kf i).sure.getD i [] = d.sure.getD i [] := by rw [List.getD, List.getD, (crashN_at (d := d) kn kf i i (Nat.le_refl _)).2.1]
    rw [e1, e2]
  rw [e]
  refine ⟨⟨⟨h.ok.now, hr.1, by simp only [List.length_set]; exact h.ok.len, h.ok.lens⟩, h.base, ?_, ?_, ?_, ?_, h.ne⟩, ho.mono fun i _ e => .inr (.inr (.inl e))⟩
  · exact Mv.blk_only h.box ho (q1 _ _ h2)
  · exact h.now.only ho (q1 _ _ h.ne)
  · exact hr
  · exact Mv.own_only h.loose ho fun g hg' e => by
      rw [Mv.ownBlock_some] at hg'
      injection hg' with hg'
      have e' : g = p.b := e
      omega

end Go.Proofs.Yteakoniapgkicaa.Dd
