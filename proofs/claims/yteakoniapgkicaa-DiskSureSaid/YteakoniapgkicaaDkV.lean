/- What is there behind a crash. -/
import Derived.Test.YteakoniapgkicaaDkQ
namespace Go.Proofs.Yteakoniapgkicaa.Dk
open Go.ChangeShapes Go.WideShapes Go.ChangeAt Go.RowKit
open Se (All64 blanks Rows64 noughts noughts_len)
open Dd (Pl At Went NewE ForkE)
set_option linter.unusedVariables false

/-- So many writes, one behind the other. -/
def writes (d : DS) (f : Nat → UInt8) : Nat → DS
  | 0 => d
  | k + 1 => writeD (writes d f k) (k : Int) (allOf (f k))

structure Wrote (d e : DS) (f : Nat → UInt8) (k : Nat) : Prop where
  off : e.off = false
  armed : e.armed = 0
  n : e.n = d.n
  sure : e.sure = d.sure
  now : ∀ j, e.now[j]? = if j < k then some (allOf (f j)) else d.now[j]?
  loose : ∀ j, e.loose[j]? = if j < k then some true else d.loose[j]?
  ok : e.Ok

theorem writes_told {d : DS} (hok : d.Ok) (ho : d.off = false) (ha : d.armed = 0) (f : Nat → UInt8) : ∀ k, k ≤ d.n → Wrote d (writes d f k) f k
  | 0, _ => ⟨ho, ha, rfl, rfl, fun j => by rw [if_neg (by omega)]; rfl, fun j => by rw [if_neg (by omega)]; rfl, hok⟩
  | k + 1, hk => by
    have h := writes_told hok ho ha f k (by omega)
    have hr := readE_ok (i := (k : Int)) h.off (by omega) (by rw [h.n]; omega)
    have hl1 : (writes d f k).now.length = d.n := h.n
    have hl2 : (writes d f k).loose.length = d.n := by rw [h.ok.lens]; exact hl1
    have e : writes d f (k + 1) = tick { writes d f k with now := (writes d f k).now.set k (allOf (f k)), loose := (writes d f k).loose.set k true } := by
      rw [writes]
      unfold writeD
      rw [hr, if_neg (by simp), Int.toNat_natCast]
    rw [e]
    have hok2 : ({ writes d f k with now := (writes d f k).now.set k (allOf (f k)), loose := (writes d f k).loose.set k true } : DS).Ok := ⟨h.ok.now.set (allOf_len _) k, h.ok.sure, by simp only [List.length_set]; exact h.ok.len, by simp only [List.length_set]; exact h.ok.lens⟩
    refine ⟨?_, ?_, ?_, h.sure, fun j => ?_, fun j => ?_, tick_ok hok2⟩
    · unfold tick
      simp only
      rw [h.off, h.armed]
      rfl
    · unfold tick
      simp only
      rw [h.armed]
    · unfold tick DS.n
      simp only [List.length_set]
      exact hl1
    · unfold tick
      simp only
      rcases Nat.lt_trichotomy j k with hj | hj | hj
      · rw [List.getElem?_set_ne (by omega), h.now, if_pos hj, if_pos (by omega)]
      · subst hj
        rw [List.getElem?_set_self (by omega), if_pos (by omega)]
      · rw [List.getElem?_set_ne (by omega), h.now, if_neg (by omega), if_neg (by omega)]
    · unfold tick
      simp only
      rcases Nat.lt_trichotomy j k with hj | hj | hj
      · rw [List.getElem?_set_ne (by omega), h.loose, if_pos hj, if_pos (by omega)]
      · subst hj
        rw [List.getElem?_set_self (by omega), if_pos (by omega)]
      · rw [List.getElem?_set_ne (by omega), h.loose, if_neg (by omega), if_neg (by omega)]

theorem dsNew_ok (n : Nat) : (dsNew n).Ok := ⟨Se.blanks_all n, Se.blanks_all n, rfl, by simp [dsNew, blanks]⟩

/-- What was sure of a sector. -/
def oldB (f : Nat → UInt8) (na i : Nat) : List UInt8 := if i < na then allOf (f i) else noughts

theorem oldB_len (f : Nat → UInt8) (na i : Nat) : (oldB f na i).length = 64 := by
  unfold oldB
  split
  · exact allOf_len _
  · exact noughts_len

/-- The first writes, made sure. -/
def firstD (f : Nat → UInt8) (na : Nat) : DS := syncD (writes (dsNew 24) f na)

theorem first_told (f : Nat → UInt8) (na : Nat) (hna : na ≤ 20) : (firstD f na).off = false ∧ (firstD f na).armed = 0 ∧ (firstD f na).n = 24 ∧ (∀ j, j < 24 → (firstD f na).now[j]? = some (oldB f na j)) ∧ (firstD f na).sure = (firstD f na).now ∧ (firstD f na).loose = List.replicate 24 false ∧ (firstD f na).Ok := by
  have h := writes_told (dsNew_ok 24) rfl rfl f na (by rw [dsNew_n]; omega)
  have hn : (writes (dsNew 24) f na).n = 24 := by rw [h.n, dsNew_n]
  have e : firstD f na = { tick (writes (dsNew 24) f na) with sure := (writes (dsNew 24) f na).now, loose := List.replicate (writes (dsNew 24) f na).n false } := by
    unfold firstD syncD hitB
    rw [h.off, h.armed, if_neg (by simp), if_neg (by simp)]
  rw [e]
  refine ⟨?_, ?_, hn, fun j hj => ?_, rfl, by rw [hn], ⟨h.ok.now, h.ok.now, rfl, ?_⟩⟩
  · unfold tick; simp only; rw [h.off, h.armed]; rfl
  · unfold tick; simp only; rw [h.armed]
  · unfold tick
    simp only
    rw [h.now]
    unfold oldB
    split
    · rfl
    · show (blanks 24)[j]? = _
      unfold blanks
      rw [List.getElem?_replicate, if_pos hj]
      rfl
  · simp only [List.length_replicate]
    rfl

/-- All of it. -/
def sureD (f g : Nat → UInt8) (na nb kn : Nat) (kf : Nat → Int) : DS := startD (crashD (writes (firstD f na) g nb) kn kf)

theorem rank_all {l : List Bool} {m : Nat} (h : ∀ j, j < m → l[j]? = some true) : ∀ i, i ≤ m → rank l i = i
  | 0, _ => rfl
  | i + 1, hi => by
    have h1 : l.getD i false = true := by rw [List.getD, h i (by omega)]; rfl
    rw [rank_yes h1, rank_all h i (by omega)]

/-- The sector that is told. -/
def toldB (f g : Nat → UInt8) (na nb kn : Nat) (kf : Nat → Int) (i : Nat) : List UInt8 := if i < nb then mix (allOf (g i)) (oldB f na i) (keeps kn kf i) else oldB f na i

theorem sure_told (f g : Nat → UInt8) (na nb kn : Nat) (kf : Nat → Int) (hna : na ≤ 20) (hnb : nb ≤ 20) (i : Nat) (hi : i < 20) :
    (sureD f g na nb kn kf).n = 24 ∧ readE (sureD f g na nb kn kf) (i : Int) = 0 ∧ readV (sureD f g na nb kn kf) (i : Int) = toldB f g na nb kn kf i := by
  obtain ⟨f1, f2, f3, f4, f5, f6, f7⟩ := first_told f na hna
  have h := writes_told f7 f1 f2 g nb (by rw [f3]; omega)
  have hn : (writes (firstD f na) g nb).n = 24 := by rw [h.n, f3]
  have hl := h.ok.len
  have hl2 := h.ok.lens
  have l0 : (writes (firstD f na) g nb).now.length = 24 := hn
  have n4 : (crashD (writes (firstD f na) g nb) kn kf).n = 24 := by show (crashN _ kn kf _).n = 24; rw [crashN_n]; exact hn
  have ok4 := crashD_ok kn kf h.ok
  have t4 := crashN_told (d := writes (firstD f na) g nb) kn kf (writes (firstD f na) g nb).n i (by omega) (Nat.le_refl _) (by rw [hl2]; rfl) (by rw [hl]; rfl)
  have lo4 : ∀ j, j < 24 → (crashD (writes (firstD f na) g nb) kn kf).loose[j]? = some false := fun j hj => (crashN_told (d := writes (firstD f na) g nb) kn kf (writes (firstD f na) g nb).n j (by omega) (Nat.le_refl _) (by rw [hl2]; rfl) (by rw [hl]; rfl)).2.2
  have e5 : sureD f g na nb kn kf = { crashD (crashD (writes (firstD f na) g nb) kn kf) 0 (fun _ => 0) with off := false } := by
    unfold sureD startD
    rw [if_pos (by rfl)]
  have n5 : (sureD f g na nb kn kf).n = 24 := by
    rw [e5]
    show (crashN _ 0 _ _).n = 24
    rw [crashN_n]
    exact n4
  have t5 := crashN_told (d := crashD (writes (firstD f na) g nb) kn kf) 0 (fun _ => 0) (crashD (writes (firstD f na) g nb) kn kf).n i (by omega) (Nat.le_refl _) (by rw [ok4.lens]; rfl) (by rw [ok4.len]; rfl)
  have hre : readE (sureD f g na nb kn kf) (i : Int) = 0 := readE_ok (by rw [e5]) (by omega) (by rw [n5]; omega)
  refine ⟨n5, hre, ?_⟩
  unfold readV
  rw [hre, if_pos rfl, Int.toNat_natCast]
  have e6 : (sureD f g na nb kn kf).now[i]? = (crashD (writes (firstD f na) g nb) kn kf).now[i]? := by
    rw [e5]
    show (crashN _ 0 _ _).now[i]? = _
    rw [t5.1, if_neg (by rw [List.getD, lo4 i (by omega)]; simp)]
  have e7 : (crashD (writes (firstD f na) g nb) kn kf).now[i]? = some (toldB f g na nb kn kf i) := by
    show (crashN _ kn kf _).now[i]? = _
    rw [t4.1]
    unfold toldB
    have hlo := h.loose i
    have hno := h.now i
    rw [f4 i (by omega)] at hno
    by_cases hib : i < nb
    · rw [if_pos hib] at hlo hno
      rw [if_pos (by rw [List.getD, hlo]; rfl), if_pos hib]
      have hrk : rank (writes (firstD f na) g nb).loose i = i := rank_all (m := nb) (fun j hj => by have := h.loose j; rw [if_pos hj] at this; exact this) i (by omega)
      unfold mixS
      rw [hrk, List.getD, hno, List.getD, h.sure, f5, f4 i (by omega)]
      rfl
    · rw [if_neg hib] at hlo hno
      rw [if_neg (by rw [List.getD, hlo, f6, List.getElem?_replicate, if_pos (by omega)]; simp), if_neg hib]
      exact hno
  rw [List.getD, e6, e7]
  rfl

/-- A byte of it. -/
theorem mix_at {a b : List UInt8} {k j : Nat} (ha : a.length = 64) (hb : b.length = 64) (hk : k ≤ 64) (hj : j < 64) : (mix a b k)[j]? = if j < k then a[j]? else b[j]? := by
  unfold mix
  split
  · rename_i h
    rw [List.getElem?_append_left (by rw [List.length_take]; omega), List.getElem?_take, if_pos h]
  · rename_i h
    rw [List.getElem?_append_right (by rw [List.length_take]; omega), List.length_take, List.getElem?_drop]
    congr 1
    omega

/-- A byte of a slice that came in. -/
theorem byte_in {w : World} {M n i : Nat} {A : Option Addr} {l : List UInt8} (h : By.Bys w M A n l) (hi : i < n) : ∃ g o, A = some ⟨g, o, none⟩ ∧ g < M ∧ w.cell? ⟨g, o + i, none⟩ = some (.int .u8 ((l.getD i 0).toNat : Int)) := by
  have hl := h.len
  obtain ⟨g, o, hA, hg, hc⟩ := h.cell i _ (List.getElem?_eq_getElem (by omega))
  exact ⟨g, o, hA, hg, by rw [hc, List.getD, List.getElem?_eq_getElem (by omega)]; rfl⟩

/-- What the last loop of DiskSure asks: byte by byte. -/
def Byte3 (O N T : List UInt8) (k : Nat) : Prop := O.length = 64 ∧ N.length = 64 ∧ T.length = 64 ∧ ∀ j, j < 64 → T[j]? = if j < k then N[j]? else O[j]?

theorem byte3_same (O : List UInt8) (h : O.length = 64) : Byte3 O O O 0 := ⟨h, h, h, fun j _ => by rw [if_neg (by omega)]⟩

theorem byte3_mix (O N : List UInt8) (k : Nat) (h : O.length = 64) (hN : N.length = 64) (hk : k ≤ 64) : Byte3 O N (mix N O k) k := ⟨h, hN, mix_len hN h hk, fun j hj => mix_at hN h hk hj⟩

/-- A store into a box of the call's own, that is not the disk's. -/
theorem solo_grown {w wr w1 : World} {x : Nat} {q : Pl} {B g : Nat} {d : DS} (h : Solo w wr x q B d) (hg : wr.grownBy w1 (some g)) (hw : w.heap.size ≤ g) (hq : ¬ q.has g) : Solo w w1 x q B d := by
  have ho := Mv.Only.ofGrown (S := Mv.one g) hg fun k hk => by injection hk with hk; exact hk.symm
  refine ⟨h.one.only ho fun i hi e => hq (by rw [← show i = g from e]; exact hi), h.lo, h.below.grown hg h.below.size (fun k hk => by injection hk with hk; omega), h.x⟩

end Go.Proofs.Yteakoniapgkicaa.Dk
