/- The document's disk: Crash. · Two sectors held against each other. -/
import Derived.Test.YtedgookkogpfbaaDkX
import Derived.Test.YtedgookkogpfbaaBa
import Derived.IntWalk
import Derived.Laws.StructEq
import Derived.ChangeKeysEq
set_option maxRecDepth 100000

section
namespace Go.Proofs.Ytedgookkogpfbaa.Dk
open Go.ChangeShapes Go.WideShapes Go.ChangeAt Go.RowKit
open Qu (Blk)
open Mv (Only)
open Se (All64 blanks Rows64 noughts noughts_len)
open By (cellsB cellsB_length cellsB_at)
set_option linter.unusedVariables false

theorem flat_set {l : List (List UInt8)} (h : All64 l) {i j : Nat} {s : List UInt8} {x : UInt8} (hi : l[i]? = some s) (hj : j < 64) : l.flatten.set (i * 64 + j) x = (l.set i (s.set j x)).flatten := by
  have hs := h.at hi
  have hil := (List.getElem?_eq_some_iff.1 hi).1
  have h2 : All64 (l.set i (s.set j x)) := h.set (by rw [List.length_set]; exact hs) i
  have hl := Se.flat_length h
  have hl2 := Se.flat_length h2
  apply List.ext_getElem?
  intro k
  have e := Se.flat_at h2 (k / 64) (k % 64) (by omega)
  have e0 := Se.flat_at h (k / 64) (k % 64) (by omega)
  have ek : k / 64 * 64 + k % 64 = k := by omega
  rw [ek] at e e0
  rw [e]
  by_cases hk : k = i * 64 + j
  · have h1 : k / 64 = i := by omega
    have h3 : k % 64 = j := by omega
    rw [h1, h3, List.getElem?_set_self hil, hk, List.getElem?_set_self (by omega)]
    simp only [Option.getD_some]
    rw [List.getElem?_set_self (by omega)]
  · rw [List.getElem?_set_ne (fun e => hk e.symm), e0]
    by_cases h1 : k / 64 = i
    · rw [h1, List.getElem?_set_self hil, hi]
      simp only [Option.getD_some]
      rw [List.getElem?_set_ne (by omega)]
    · rw [List.getElem?_set_ne (fun e => h1 e.symm)]

/-- A byte of a sector in a row of them. -/
theorem Rows64_byte {w : World} {B E g n cap i j : Nat} {l : List (List UInt8)} {s : List UInt8} (h : Rows64 w B E g n cap l) (hi : l[i]? = some s) (hj : j < 64) (x : UInt8) :
    Rows64 (w.setCell ⟨g, i * 64 + j, none⟩ (.int .u8 (x.toNat : Int))) B E g n cap (l.set i (s.set j x)) ∧ w.grownBy (w.setCell ⟨g, i * 64 + j, none⟩ (.int .u8 (x.toNat : Int))) (some g) := by
  obtain ⟨h1, h2⟩ := World.ownsRow.stored h.2 (i * 64 + j) (.int .u8 (x.toNat : Int))
  refine ⟨⟨h.1.set (by rw [List.length_set]; exact h.1.at hi) i, ?_⟩, h2⟩
  rw [← flat_set h.1 hi hj, By.cellsB_set]
  exact h1

theorem Rows64_cell {w : World} {B E g n cap i j : Nat} {l : List (List UInt8)} {s : List UInt8} (h : Rows64 w B E g n cap l) (hi : l[i]? = some s) (hj : j < 64) {x : UInt8} (hx : s[j]? = some x) : w.cell? ⟨g, i * 64 + j, none⟩ = some (.int .u8 (x.toNat : Int)) :=
  h.range hi j _ (by rw [cellsB_at, hx]; rfl)

/-- A byte of what is sure is written. -/
theorem RefAt.sureByte {w : World} {B : Nat} {p : Place} {d : DS} {i j : Nat} {s : List UInt8} (h : RefAt w B p d) (n0 : 0 < d.n) (hi : d.sure[i]? = some s) (hj : j < 64) (x : UInt8) :
    RefAt (w.setCell ⟨p.b, i * 64 + j, none⟩ (.int .u8 (x.toNat : Int))) B p { d with sure := d.sure.set i (s.set j x) } ∧ Only w (w.setCell ⟨p.b, i * 64 + j, none⟩ (.int .u8 (x.toNat : Int))) p.has := by
  obtain ⟨h1, h2, h3, h4, h5⟩ := h.apart n0
  obtain ⟨hr, hg⟩ := Rows64_byte h.sure hi hj x
  have ho : Only w (w.setCell ⟨p.b, i * 64 + j, none⟩ (.int .u8 (x.toNat : Int))) (Mv.one p.b) := Mv.Only.ofGrown hg fun i hi => by injection hi with hi; exact hi.symm
  have q1 : ∀ i j : Nat, i ≠ j → ¬ Mv.one j i := fun i j hij e => hij e
  refine ⟨⟨⟨h.ok.now, h.ok.sure.set (by rw [List.length_set]; exact h.ok.sure.at hi) i, by simp [h.ok.len], h.ok.lens⟩, h.base, ?_, ?_, ?_, ?_, h.ne⟩, ho.mono fun i _ e => .inr (.inr (.inl e))⟩
  · exact Mv.blk_only h.box ho (q1 _ _ h2)
  · exact h.now.only ho (q1 _ _ h.ne)
  · exact hr
  · exact Mv.own_only h.loose ho fun g hg' e => by
      rw [Mv.ownBlock_some] at hg'
      injection hg' with hg'
      have e' : g = p.b := e
      omega

theorem RefAt.from {w : World} {B : Nat} {p : Place} {d : DS} (h : RefAt w B p d) : ∀ k, p.has k → B ≤ k := fun k hk => by
  rcases hk with rfl | rfl | rfl | rfl
  · exact h.base
  · exact (World.ownsRow.lt h.now.2 p.a rfl).1
  · exact (World.ownsRow.lt h.sure.2 p.b rfl).1
  · exact (World.ownsRow.lt h.loose p.c rfl).1

/-- What a byte that is moved from one row to the other finds. -/
theorem keep2_drew {w : World} {x s t o : Nat} {A0 A1 V : Value}
    (h : w.cell? ⟨x, 0, none⟩ = some A0 ∧ w.cell? ⟨x, 1, none⟩ = some A1 ∧ w.cell? ⟨s, o, none⟩ = some V ∧ w.cell? ⟨t, o, none⟩ = some (lies w ⟨t, o, none⟩) ∧ w.frozen? ⟨t, o, none⟩ = false) :
    w.drew.cell? ⟨x, 0, none⟩ = some A0 ∧ w.drew.cell? ⟨x, 1, none⟩ = some A1 ∧ w.drew.cell? ⟨s, o, none⟩ = some V ∧ w.drew.cell? ⟨t, o, none⟩ = some (lies w.drew ⟨t, o, none⟩) ∧ w.drew.frozen? ⟨t, o, none⟩ = false := h

theorem keep2_store {w : World} {x s t o : Nat} {A0 A1 V : Value} (v : Value) (h1 : x ≠ t) (h2 : s ≠ t)
    (h : w.cell? ⟨x, 0, none⟩ = some A0 ∧ w.cell? ⟨x, 1, none⟩ = some A1 ∧ w.cell? ⟨s, o, none⟩ = some V ∧ w.cell? ⟨t, o, none⟩ = some (lies w ⟨t, o, none⟩) ∧ w.frozen? ⟨t, o, none⟩ = false) :
    (w.setCell ⟨t, o, none⟩ v).cell? ⟨x, 0, none⟩ = some A0 ∧ (w.setCell ⟨t, o, none⟩ v).cell? ⟨x, 1, none⟩ = some A1 ∧ (w.setCell ⟨t, o, none⟩ v).cell? ⟨s, o, none⟩ = some V ∧ (w.setCell ⟨t, o, none⟩ v).cell? ⟨t, o, none⟩ = some (lies (w.setCell ⟨t, o, none⟩ v) ⟨t, o, none⟩) ∧ (w.setCell ⟨t, o, none⟩ v).frozen? ⟨t, o, none⟩ = false := by
  have e1 : w.setCell ⟨t, o, none⟩ v = w.setCells t o [v] := rfl
  rw [e1]
  obtain ⟨q0, q1, q2, q5, q6⟩ := h
  have e : ∀ y : Addr, y.block ≠ t → (w.setCells t o [v]).cell? y = w.cell? y := fun y hy => World.cell?_setCells_out t [v] o w y (fun e => absurd e hy)
  have hs := World.isSome_setCells t [v] o w ⟨t, o, none⟩ (by rw [q5]; rfl)
  obtain ⟨u, hu⟩ := Option.isSome_iff_exists.1 hs
  exact ⟨(e _ h1).trans q0, (e _ h1).trans q1, (e _ h2).trans q2, lies_of hu, by rw [World.frozen?_setCells]; exact q6⟩

/-- The disk in the midst of a sector. -/
def midD (d : DS) (kn : Nat) (kf : Nat → Int) (i j : Nat) : DS := { crashN d kn kf i with sure := (crashN d kn kf i).sure.set i (mix (d.now.getD i []) (d.sure.getD i []) j) }

theorem midD_start {d : DS} (kn : Nat) (kf : Nat → Int) {i : Nat} (hi : i < d.n) (hl : d.sure.length = d.n) : midD d kn kf i 0 = crashN d kn kf i := by
  unfold midD
  rw [mix_zero]
  have h := (crashN_at (d := d) kn kf i i (Nat.le_refl _)).2.1
  have hg : d.sure[i]? = some (d.sure.getD i []) := by rw [List.getD, List.getElem?_eq_getElem (by omega)]; rfl
  have e : (crashN d kn kf i).sure.set i (d.sure.getD i []) = (crashN d kn kf i).sure := by
    apply List.ext_getElem?
    intro j
    by_cases hj : j = i
    · subst hj
      rw [List.getElem?_set_self (by have := (crashN_len (d := d) kn kf j).2.1; omega), h, hg]
    · rw [List.getElem?_set_ne (fun e => hj e.symm)]
  rw [e]

theorem midD_byte {w : World} {B : Nat} {p : Place} {d : DS} {kn : Nat} {kf : Nat → Int} {i j : Nat} {x : UInt8} (hok : d.Ok) (n0 : 0 < d.n) (hi : i < d.n) (hj : j < 64) (hx : (d.now.getD i [])[j]? = some x) (h : RefAt w B p (midD d kn kf i j)) :
    RefAt (w.setCell ⟨p.b, i * 64 + j, none⟩ (.int .u8 (x.toNat : Int))) B p (midD d kn kf i (j + 1)) ∧ Only w (w.setCell ⟨p.b, i * 64 + j, none⟩ (.int .u8 (x.toNat : Int))) p.has := by
  have l0 : d.now.length = d.n := rfl
  have l1 := hok.len
  have ha : (d.now.getD i []).length = 64 := by rw [List.getD, List.getElem?_eq_getElem (by omega)]; exact hok.now _ (List.getElem_mem _)
  have hb : (d.sure.getD i []).length = 64 := by rw [List.getD, List.getElem?_eq_getElem (by omega)]; exact hok.sure _ (List.getElem_mem _)
  have hs : (midD d kn kf i j).sure[i]? = some (mix (d.now.getD i []) (d.sure.getD i []) j) := by
    show ((crashN d kn kf i).sure.set i _)[i]? = _
    rw [List.getElem?_set_self (by have := (crashN_len (d := d) kn kf i).2.1; omega)]
  obtain ⟨h1, h2⟩ := h.sureByte (by show 0 < (crashN d kn kf i).n; rw [crashN_n]; exact n0) hs hj x
  refine ⟨?_, h2⟩
  have e : midD d kn kf i (j + 1) = { midD d kn kf i j with sure := (midD d kn kf i j).sure.set i ((mix (d.now.getD i []) (d.sure.getD i []) j).set j x) } := by
    have e2 : (midD d kn kf i j).sure.set i ((mix (d.now.getD i []) (d.sure.getD i []) j).set j x) = (crashN d kn kf i).sure.set i (mix (d.now.getD i []) (d.sure.getD i []) (j + 1)) := by
      show ((crashN d kn kf i).sure.set i (mix (d.now.getD i []) (d.sure.getD i []) j)).set i _ = _
      rw [mix_step ha hb hj hx, List.set_set]
    rw [e2]
    rfl
  rw [e]
  exact h1

theorem midD_done {w : World} {B : Nat} {p : Place} {d : DS} {kn : Nat} {kf : Nat → Int} {i : Nat} (hok : d.Ok) (n0 : 0 < d.n) (hi : i < d.n) (hl : d.loose.getD i false = true) (h : RefAt w B p (midD d kn kf i (keeps kn kf (rank d.loose i)))) :
    RefAt ((w.setCells p.a (i * 64) (cellsB (mixS d kn kf i))).setCell ⟨p.c, i, none⟩ (.bool false)) B p (crashN d kn kf (i + 1)) ∧ Only w ((w.setCells p.a (i * 64) (cellsB (mixS d kn kf i))).setCell ⟨p.c, i, none⟩ (.bool false)) p.has := by
  have hn : (midD d kn kf i (keeps kn kf (rank d.loose i))).n = d.n := crashN_n kn kf i
  obtain ⟨h1, o1⟩ := h.setNow (k := i) (by rw [hn]; exact n0) (by rw [hn]; exact hi) (mixS_len kn kf hok hi)
  obtain ⟨h2, o2⟩ := h1.setLoose (k := i) (by unfold DS.n; rw [List.length_set]; exact Nat.lt_of_lt_of_eq n0 hn.symm) (by unfold DS.n; rw [List.length_set]; exact Nat.lt_of_lt_of_eq hi hn.symm) false
  refine ⟨?_, o1.trans o2 fun i _ h => h⟩
  have e : crashN d kn kf (i + 1) = { midD d kn kf i (keeps kn kf (rank d.loose i)) with now := (midD d kn kf i (keeps kn kf (rank d.loose i))).now.set i (mixS d kn kf i), loose := (midD d kn kf i (keeps kn kf (rank d.loose i))).loose.set i false } := by
    rw [crashN, if_pos hl]
    rfl
  rw [e]
  exact h2

theorem rank_yes {l : List Bool} {i : Nat} (h : l.getD i false = true) : rank l (i + 1) = rank l i + 1 := by rw [rank, if_pos h]

theorem rank_no {l : List Bool} {i : Nat} (h : l.getD i false = false) : rank l (i + 1) = rank l i := by rw [rank, if_neg (by rw [h]; simp)]

theorem rank_le (l : List Bool) : ∀ i, rank l i ≤ i
  | 0 => Nat.le_refl _
  | i + 1 => by
    have := rank_le l i
    unfold rank
    split <;> omega

set_option maxRecDepth 100000 in
set_option maxHeartbeats 4000000 in
theorem rcrash_any (w : World) (B : Nat) (p : Place) (d : DS) (A : Option Addr) (kn c : Nat) (kf : Nat → Int) (h : RefAt w B p d) (hA : Hl.Ints w w.heap.size A kn kf) (hd : ∀ a, A = some a → kn ≠ 0 → ¬ p.has a.block) (hk : kn ≤ 1000000) (hkf : ∀ k, k < kn → -9223372036854775808 ≤ kf k ∧ kf k ≤ 9223372036854775807) (n0 : 0 < d.n) (hn : d.n ≤ 1000000) :
    Calls Try.prog 21 #[.pointer (some ⟨p.x, 0, none⟩), .slice A kn c] w fun e w' => e = .returned (.tuple #[]) ∧ RefAt w' B p (crashD d kn kf) ∧ Only w w' p.has := by
  have HR0 := Lib.hid h
  have HI := Lib.hid hA
  have HD := Lib.hid hd
  have HF := Lib.hid hkf
  have HK := Lib.hid h.ok
  clear h hA hd hkf
  go_enter Try.func21, Try.ntmps21
  go_wp2_with fail
  go_loopw [4, 5] (fun s4 s5 wr => ∃ i : Nat, s5 = .int .i64 (i : Int) ∧ i ≤ d.n ∧ s4 = .int .i64 (rank d.loose i : Int) ∧ RefAt wr B p (crashN d kn kf i) ∧ Only w wr p.has) (fun _ s5 _ => d.n - (intOf s5).toNat)
  case atStart => exact ⟨0, rfl, by omega, rfl, HR0.out, Mv.Only.refl _ _⟩
  case round =>
    obtain ⟨i, rfl, hi, rfl, hR, hO⟩ := hrel
    have en2 : (crashN d kn kf i).n = d.n := crashN_n kn kf i
    have c0 := hR.box.cell 0
    have c1 := hR.box.cell 1
    have c2 := hR.box.cell 2
    have c3 := hR.box.cell 3
    have c4 := hR.box.cell 4
    have f3 := hR.box.frozen 3
    have f4 := hR.box.frozen 4
    simp at c0 c1 c2 c3 c4
    rw [en2] at c0 c1 c2
    have i0 : (0 : Int) ≤ (i : Int) := by omega
    have n1 : (d.n : Int) ≤ 1000000 := by omega
    have hrk := rank_le d.loose i
    have HR := Lib.hid hR
    have HO := Lib.hid hO
    have HN := Lib.hid en2
    clear hO
    by_cases hlt : i < d.n
    · have i1 : (i : Int) < (d.n : Int) := by omega
      have i2 : decide (i < d.n) = true := by simp; omega
      have c5 := hR.flag (k := i) (by rw [en2]; exact hlt)
      have hl2 : (crashN d kn kf i).loose.getD i false = d.loose.getD i false := by rw [List.getD, List.getD, (crashN_at (d := d) kn kf i i (Nat.le_refl _)).2.2]
      rw [hl2] at c5
      clear hR en2 hl2
      cases hfl : d.loose.getD i false with
      | false =>
        rw [hfl] at c5
        have HS : Hid (rank d.loose (i + 1) = rank d.loose i ∧ crashN d kn kf (i + 1) = crashN d kn kf i) := Lib.hid ⟨rank_no hfl, by rw [crashN, hfl, if_neg (by simp)]⟩
        clear hfl
        go_wp2_with fail
        go_roundw
        case rel => exact ⟨i + 1, by go_num, by omega, by rw [HS.out.1], by rw [HS.out.2]; exact HR.out, HO.out⟩
        case measure => simp [intOf]; omega
      | true =>
        rw [hfl] at c5
        have HS : Hid (rank d.loose (i + 1) = rank d.loose i + 1 ∧ d.loose.getD i false = true) := Lib.hid ⟨rank_yes hfl, hfl⟩
        clear hfl
        obtain ⟨m, hm⟩ : ∃ m, keeps kn kf (rank d.loose i) = m := ⟨_, rfl⟩
        have hm64 : m ≤ 64 := by rw [← hm]; exact keeps_le _ _ _
        have HM := Lib.hid hm
        have r0 : (0 : Int) ≤ (rank d.loose i : Int) := by omega
        have r1 : (rank d.loose i : Int) ≤ 1000000 := by omega
        by_cases hk0 : kn = 0
        case' pos =>
          have m0 : m ≤ 0 := by rw [← hm]; unfold keeps; rw [if_pos hk0]; exact Nat.le_refl _
          have k1 : decide (0 < kn) = false := by simp; omega
          clear hm hk0
          go_wp2_with fail
        case' neg =>
          have hkp : 0 < kn := by omega
          have k1 : decide (0 < kn) = true := by simp; omega
          have k2 : (0 : Int) < (kn : Int) := by omega
          obtain ⟨t, ht⟩ : ∃ t, rank d.loose i % kn = t := ⟨_, rfl⟩
          have htk : t < kn := by rw [← ht]; exact Nat.mod_lt _ hkp
          have hmod : (rank d.loose i : Int) % (kn : Int) = (t : Int) := by rw [← ht]; rfl
          have t0 : (0 : Int) ≤ (t : Int) := by omega
          have t1 : (t : Int) < (kn : Int) := by omega
          obtain ⟨g, o, rfl, hg, hcell⟩ := HI.out t htk
          obtain ⟨v1, v2⟩ := HF.out t htk
          have hmv : m = min (kf t).toNat 64 := by rw [← hm]; unfold keeps; rw [if_neg hk0, ht]
          have hcell2 : wr.cell? ⟨g, o + t, none⟩ = some (.int .i64 (kf t)) := (HO.out.cell (World.block_lt_of_cell? w _ hcell) (HD.out ⟨g, o, none⟩ rfl hk0)).trans hcell
          generalize kf t = v at *
          obtain ⟨x, hx⟩ : ∃ x : Nat, v.toNat = x := ⟨_, rfl⟩
          have hm1 : (if v < 0 then 0 else v) = (x : Int) := by split <;> omega
          have hm2 : (if 0 < v then v else 0) = (x : Int) := by split <;> omega
          have hx1 : (if (x : Int) < 64 then (x : Int) else 64) = (m : Int) := by rw [hmv, hx]; split <;> omega
          have hx2 : (if 64 < (x : Int) then 64 else (x : Int)) = (m : Int) := by rw [hmv, hx]; split <;> omega
          clear hm hmv hk0 ht hcell hx
          go_wp2_with fail
          clear hm1 hm2 hx1 hx2 hmod v1 v2 hcell2
        all_goals
          obtain ⟨wo, rfl⟩ : ∃ wo : World, wo = wr := ⟨_, rfl⟩
          go_loopw [7] (fun s7 wj => ∃ j : Nat, s7 = .int .i64 (j : Int) ∧ j ≤ m ∧ RefAt wj B p (midD d kn kf i j) ∧ Only w wj p.has) (fun s7 _ => m - (intOf s7).toNat)
          case atStart => exact ⟨0, rfl, by omega, by rw [midD_start _ _ hlt HK.out.len]; exact HR.out, HO.out⟩
          case round =>
            clear c0 c1 c2 c3 c4 f3 f4 c5
            obtain ⟨j, rfl, hj, hR, hO⟩ := hrel
            have en2 : (midD d kn kf i j).n = d.n := crashN_n kn kf i
            have c0 := hR.box.cell 0
            have c1 := hR.box.cell 1
            have c2 := hR.box.cell 2
            simp at c0 c1 c2
            rw [en2] at c0 c1 c2
            have j0 : (0 : Int) ≤ (j : Int) := by omega
            have j1 : ¬ (j : Int) < 0 := by omega
            have HA := Lib.hid (hR.apart (by rw [en2]; exact n0))
            have HNE := Lib.hid hR.ne
            by_cases hjm : j < m
            · first
              | (exfalso; omega)
              | (have j2 : (j : Int) < (m : Int) := by omega
                 have j3 : decide (j < m) = true := by simp; omega
                 have j4 : (j : Int) < 64 := by omega
                 have l0 : d.now.length = d.n := rfl
                 have ha64 : (d.now.getD i []).length = 64 := by rw [List.getD, List.getElem?_eq_getElem (by omega)]; exact HK.out.now _ (List.getElem_mem _)
                 obtain ⟨x, hx⟩ : ∃ x, (d.now.getD i [])[j]? = some x := ⟨_, List.getElem?_eq_getElem (by omega)⟩
                 have hnow : (midD d kn kf i j).now[i]? = some (d.now.getD i []) := by
                   show (crashN d kn kf i).now[i]? = _
                   rw [(crashN_at (d := d) kn kf i i (Nat.le_refl _)).1, List.getD, List.getElem?_eq_getElem (by omega)]
                   rfl
                 have q3 := Rows64_cell hR.now hnow (show j < 64 by omega) hx
                 have q4 : wr.cell? ⟨p.b, i * 64 + j, none⟩ = some (lies wr ⟨p.b, i * 64 + j, none⟩) := by
                   obtain ⟨u, hu⟩ := Option.isSome_iff_exists.1 (hR.sure.there (i := i) (by rw [en2]; exact hlt) j (by omega)).1
                   exact lies_of hu
                 have q5 := (hR.sure.there (i := i) (by rw [en2]; exact hlt) j (by omega)).2
                 have HW : Hid (RefAt (wr.drew.setCell ⟨p.b, i * 64 + j, none⟩ (.int .u8 (x.toNat : Int))) B p (midD d kn kf i (j + 1)) ∧ Only w (wr.drew.setCell ⟨p.b, i * 64 + j, none⟩ (.int .u8 (x.toNat : Int))) p.has) := Lib.hid (by
                   obtain ⟨o1, o2⟩ := midD_byte HK.out n0 hlt (show j < 64 by omega) hx hR.drew
                   exact ⟨o1, hO.drew.trans o2 fun i _ h => h⟩)
                 clear hR hO hnow hx ha64 l0 en2
                 go_wp2_with fail
                 go_region_held3 (fun w' => w'.cell? ⟨p.x, 0, none⟩ = some (.slice (some ⟨p.a, 0, none⟩) d.n p.ca) ∧ w'.cell? ⟨p.x, 1, none⟩ = some (.slice (some ⟨p.b, 0, none⟩) d.n p.cb) ∧ w'.cell? ⟨p.a, i * 64 + j, none⟩ = some (.int .u8 (x.toNat : Int)) ∧ w'.cell? ⟨p.b, i * 64 + j, none⟩ = some (lies w' ⟨p.b, i * 64 + j, none⟩) ∧ w'.frozen? ⟨p.b, i * 64 + j, none⟩ = false)
                   (first
                     | assumption
                     | (go_split_ands; exact keep2_drew ⟨by assumption, by assumption, by assumption, by assumption, by assumption⟩)
                     | (go_split_ands; exact keep2_store _ HA.out.2.1 HNE.out ⟨by assumption, by assumption, by assumption, by assumption, by assumption⟩))
                   (fail)
                 go_wp2
                 go_roundw
                 case rel => exact ⟨j + 1, by go_num, by omega, HW.out.1, HW.out.2⟩
                 case measure => simp [intOf]; omega)
            · have hje : j = m := by omega
              have j2 : ¬ (j : Int) < (m : Int) := by omega
              have j3 : decide (j < m) = false := by simp; omega
              obtain ⟨b, hb⟩ : ∃ b, mixS d kn kf i = b := ⟨_, rfl⟩
              have hb64 : b.length = 64 := by rw [← hb]; exact mixS_len kn kf HK.out hlt
              have hR2 : RefAt wr B p (midD d kn kf i (keeps kn kf (rank d.loose i))) := by rw [HM.out, ← hje]; exact hR
              have hsu : (midD d kn kf i (keeps kn kf (rank d.loose i))).sure[i]? = some b := by
                show ((crashN d kn kf i).sure.set i _)[i]? = _
                rw [List.getElem?_set_self (by have := (crashN_len (d := d) kn kf i).2.1; have := HK.out.len; have e : d.now.length = d.n := rfl; omega), ← hb]
                rfl
              have q3 : wr.rangeAt p.b (i * 64) (cellsB b) := hR2.sure.range hsu
              have q4 : wr.there p.a (i * 64) 64 := hR2.now.there (Nat.lt_of_lt_of_eq hlt (crashN_n kn kf i).symm)
              have q5 : wr.cell? ⟨p.c, i, none⟩ = some (lies wr ⟨p.c, i, none⟩) := lies_of (hR2.flag (Nat.lt_of_lt_of_eq hlt (crashN_n kn kf i).symm))
              have q6 := hR2.loose.frozenAt i
              have hu : Try.prog.underlying 43 = some (.array 64 5) := Try.underlying43
              have hcl : (cellsB b).length = 64 := by rw [cellsB_length, hb64]
              have hii : (Try.prog.info? 43).map (·.size) = some (cellsB b).length := by rw [size_sector, hcl]
              have hone : ∀ v ∈ cellsB b, v.oneCell' = true := By.cellsB_one b
              have HW : Hid (RefAt ((wr.drew.setCells p.a (i * 64) (cellsB b)).setCell ⟨p.c, i, none⟩ (.bool false)) B p (crashN d kn kf (i + 1)) ∧ Only w ((wr.drew.setCells p.a (i * 64) (cellsB b)).setCell ⟨p.c, i, none⟩ (.bool false)) p.has) := Lib.hid (by
                obtain ⟨o1, o2⟩ := midD_done HK.out n0 hlt HS.out.2 hR2.drew
                rw [hb] at o1 o2
                exact ⟨o1, hO.drew.trans o2 fun i _ h => h⟩)
              clear hje hb hR hR2 hsu hb64 en2 hO
              go_wp2_with fail
              go_region_held3 (fun w' => w'.cell? ⟨p.x, 0, none⟩ = some (.slice (some ⟨p.a, 0, none⟩) d.n p.ca) ∧ w'.cell? ⟨p.x, 1, none⟩ = some (.slice (some ⟨p.b, 0, none⟩) d.n p.cb) ∧ w'.cell? ⟨p.x, 2, none⟩ = some (.slice (some ⟨p.c, 0, none⟩) d.n p.cc) ∧ w'.rangeAt p.b (i * 64) (cellsB b) ∧ w'.there p.a (i * 64) 64 ∧ w'.cell? ⟨p.c, i, none⟩ = some (lies w' ⟨p.c, i, none⟩) ∧ w'.frozen? ⟨p.c, i, none⟩ = false)
                (first
                  | assumption
                  | (go_split_ands; exact keep3_drew ⟨by assumption, by assumption, by assumption, by assumption, by assumption, by assumption, by assumption⟩)
                  | (go_split_ands; exact keep3_sec _ HA.out.1 HA.out.2.2.2.1 (Ne.symm HNE.out) ⟨by assumption, by assumption, by assumption, by assumption, by assumption, by assumption, by assumption⟩)
                  | (go_split_ands; exact keep3_flag _ HA.out.2.2.1 (Ne.symm HA.out.2.2.2.1) (Ne.symm HA.out.2.2.2.2) ⟨by assumption, by assumption, by assumption, by assumption, by assumption, by assumption, by assumption⟩))
                (fail)
              go_wp2
              go_roundw
              case rel => exact ⟨i + 1, by go_num, by omega, by rw [HS.out.1]; go_num, HW.out.1, HW.out.2⟩
              case measure => simp [intOf]; omega
    · have hin : i = d.n := by omega
      have i1 : ¬ (i : Int) < (d.n : Int) := by omega
      have i2 : decide (i < d.n) = false := by simp; omega
      have HF2 : Hid (RefAt ((wr.setCell ⟨p.x, 3, none⟩ (.bool true)).setCell ⟨p.x, 4, none⟩ (.int .i64 0)) B p (crashD d kn kf) ∧ Only wr ((wr.setCell ⟨p.x, 3, none⟩ (.bool true)).setCell ⟨p.x, 4, none⟩ (.int .i64 0)) p.has) := Lib.hid (by
        have hb := (hR.box.put 3 (.bool true)).put 4 (.int .i64 0)
        subst hin
        have hs := hR.setBox (d' := crashD d kn kf) (by rw [en2]; exact n0) hb (((Mv.Only.refl wr (Mv.one p.x)).put _ fun _ => rfl).put _ fun _ => rfl) rfl rfl rfl
        exact hs)
      clear hin hR en2
      go_wp2_with fail
      go_end0
      exact ⟨rfl, HF2.out.1, HO.out.trans HF2.out.2 fun _ _ h => h⟩

/-- A slice of no numbers. -/
theorem ints_nil (w : World) (M : Nat) : Hl.Ints w M none 0 (fun _ => 0) := fun k hk => by omega

theorem rstart_any (w : World) (B : Nat) (p : Place) (d : DS) (h : RefAt w B p d) (n0 : 0 < d.n) (hn : d.n ≤ 1000000) :
    Calls Try.prog 23 #[.pointer (some ⟨p.x, 0, none⟩)] w fun e w' => e = .returned (.tuple #[]) ∧ RefAt w' B p (startD d) ∧ Only w w' p.has := by
  have c3 := h.box.cell 3
  simp at c3
  cases ho : d.off with
  | false =>
    rw [ho] at c3
    have HV : Hid (startD d = d) := Lib.hid (by unfold startD; rw [ho]; rfl)
    have HR := Lib.hid h
    clear h ho
    go_enter Try.func23, Try.ntmps23
    go_wp2_with fail
    go_end0
    exact ⟨rfl, by rw [HV.out]; exact HR.out, Mv.Only.refl _ _⟩
  | true =>
    rw [ho] at c3
    have HV : Hid (startD d = { crashD d 0 (fun _ => 0) with off := false }) := Lib.hid (by unfold startD; rw [ho]; rfl)
    have HC := Lib.hid (rcrash_any w B p d none 0 0 (fun _ => 0) h (ints_nil w _) (fun a h _ => by cases h) (by omega) (fun k hk => by omega) n0 hn)
    clear h ho
    go_enter Try.func23, Try.ntmps23
    go_wp2_with fail
    refine HC.out.mono ?_
    rintro e w1 ⟨rfl, hr, ho⟩
    have e3 := hr.box.cell 3
    have f3 := hr.box.frozen 3
    simp at e3
    have en : (crashD d 0 (fun _ => 0)).n = d.n := crashN_n 0 _ d.n
    have HF : Hid (RefAt (w1.setCell ⟨p.x, 3, none⟩ (.bool false)) B p { crashD d 0 (fun _ => 0) with off := false } ∧ Only w1 (w1.setCell ⟨p.x, 3, none⟩ (.bool false)) p.has) := Lib.hid (by
      refine hr.setBox (by rw [en]; exact n0) ?_ ((Mv.Only.refl w1 (Mv.one p.x)).put _ fun _ => rfl) rfl rfl rfl
      exact hr.box.put 3 (.bool false))
    have HO := Lib.hid ho
    clear hr ho en c3
    go_wp2
    go_end0
    exact ⟨rfl, by rw [HV.out]; exact HF.out.1, HO.out.trans HF.out.2 fun _ _ h => h⟩

end Go.Proofs.Ytedgookkogpfbaa.Dk
end

section
namespace Go.Proofs.Ytedgookkogpfbaa.Dk
open Go.ChangeShapes Go.WideShapes Go.ChangeAt Go.RowKit
open Qu (Blk)
open Mv (Only)
open By (cellsB cellsB_length cellsB_at)
open Se (noughts noughts_len)
set_option linter.unusedVariables false

theorem part_byte (s : List UInt8) (k : Nat) (b : UInt8) (hk : s[k]? = some b) (w : World) : (part 5 (secCells s) (k * 1)).run Try.prog w = .ok (.int .u8 (b.toNat : Int)) w := by
  have h1 : (secCells s)[k]? = some (.int .u8 (b.toNat : Int)) := by rw [secCells_at, hk]; rfl
  have ha : (isAgg 5).run Try.prog w = .ok false w := by kernel_rfl
  unfold part
  simp [Sem.run_bind, ha, h1]

theorem eq_byte (d : Nat) (a b : UInt8) (w : World) : (Op.equalIn (d + 1) 5 (.int .u8 (a.toNat : Int)) (.int .u8 (b.toNat : Int))).run Try.prog w = .ok (a == b) w := by
  rw [run_equalIn_int (P := Try.prog) w d 5 .u8 .u8 _ _ Try.underlying5]
  congr 1
  rw [Bool.eq_iff_iff]
  simp only [beq_iff_eq]
  constructor
  · intro h
    apply UInt8.toNat_inj.1
    omega
  · intro h
    rw [h]

theorem eq_items (s t : List UInt8) (hs : s.length = 64) (ht : t.length = 64) (w : World) : ∀ (n k : Nat), k + n = 64 →
    (Op.eqItems 9999 5 1 (secCells s) (secCells t) (List.range' k n)).run Try.prog w = .ok (s.drop k == t.drop k) w
  | 0, k, h => by
    rw [List.drop_eq_nil_of_le (by omega), List.drop_eq_nil_of_le (by omega)]
    simp [Op.eqItems]
  | n + 1, k, h => by
    have hk : k < s.length := by omega
    have hk2 : k < t.length := by omega
    rw [List.range'_succ, List.drop_eq_getElem_cons hk, List.drop_eq_getElem_cons hk2]
    simp only [Op.eqItems, Sem.run_bind, part_byte s k _ (List.getElem?_eq_getElem hk), part_byte t k _ (List.getElem?_eq_getElem hk2), Result.andThen_ok, eq_byte 9998]
    cases he : (s[k] == t[k]) with
    | false =>
      have : (s[k] :: s.drop (k + 1) == t[k] :: t.drop (k + 1)) = false := by
        rw [List.cons_beq_cons, he]; rfl
      rw [this]
      simp
    | true =>
      have : (s[k] :: s.drop (k + 1) == t[k] :: t.drop (k + 1)) = (s.drop (k + 1) == t.drop (k + 1)) := by
        rw [List.cons_beq_cons, he]; rfl
      rw [this]
      simpa using eq_items s t hs ht w n (k + 1) (by omega)

theorem eq_sector (s t : List UInt8) (hs : s.length = 64) (ht : t.length = 64) (w : World) : (Op.equalIn 10000 43 (.agg (secCells s)) (.agg (secCells t))).run Try.prog w = .ok (s == t) w := by
  obtain ⟨i0, hi0, _⟩ := info_parts (show (Try.prog.info? 5).map (fun i => (i.zero, i.size, i.bytes)) = some (some (.int .u8 0), 1, 1) by kernel_rfl)
  have h := run_equalIn_array (P := Try.prog) w 9999 (secCells s) (secCells t) Try.underlying43 hi0
  have hc : Try.prog.cellsOf 5 = 1 := by kernel_rfl
  rw [hc, List.range_eq_range'] at h
  rw [h, eq_items s t hs ht w 64 0 rfl, List.drop_zero, List.drop_zero]

/-- As the walk meets it. -/
theorem neq_sector (s t : List UInt8) (hs : s.length = 64) (ht : t.length = 64) (w : World) : (binOp .neq 43 (.agg (secCells s)) (.agg (secCells t))).run Try.prog w = .ok (.bool (!(s == t))) w := by
  rw [run_neq_struct, eq_sector s t hs ht w]
  rfl

theorem eql_sector (s t : List UInt8) (hs : s.length = 64) (ht : t.length = 64) (w : World) : (binOp .eql 43 (.agg (secCells s)) (.agg (secCells t))).run Try.prog w = .ok (.bool (s == t)) w := by
  rw [run_eql_struct, eq_sector s t hs ht w]
  rfl

end Go.Proofs.Ytedgookkogpfbaa.Dk
end
