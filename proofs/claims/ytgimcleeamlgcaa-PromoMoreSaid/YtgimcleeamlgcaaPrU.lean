/- The document's Order: in which order promotions are tried. -/
import Derived.Test.YtgimcleeamlgcaaPmN
import Derived.Test.YtgimcleeamlgcaaScR
import Derived.Test.YtgimcleeamlgcaaPrA
import Derived.BigQuiet
import Derived.Deep.CutBlock
import Derived.Deep.DeepCutAuto
import Derived.Deep.RegionHeld3
set_option maxRecDepth 100000

set_option linter.unusedVariables false
namespace Go.Proofs.Ytgimcleeamlgcaa.Pm
open Go.ChangeShapes Go.WideShapes Go.ChangeAt Go.RowKit
open Ap (Scp Prt Tir Prm kPrm row_Prm)
open Kd (Row Own kStr kInt Cells row_int RowT)
open Pr (nth bef takenB orderTo aheadB layIn cutN nth_at orderTo_mem cut_at cut_le)
open Sc (hasB)

/-- Moved one on, from behind: so far. -/
structure Shift (out Y : List Nat) (k : Nat) : Prop where
  len : Y.length = out.length + 1
  low : ∀ j, j ≤ k → j < out.length → Y[j]? = out[j]?
  high : ∀ j, k < j → j ≤ out.length → Y[j]? = out[j - 1]?

theorem Shift.begin (out : List Nat) : Shift out (out ++ [0]) out.length :=
  ⟨by simp, fun j _ hj => List.getElem?_append_left hj, fun j h1 h2 => by omega⟩

theorem Shift.step {out Y : List Nat} {k x : Nat} (h : Shift out Y k) (hk : 0 < k) (hl : k ≤ out.length) (hx : out[k - 1]? = some x) : Shift out (Y.set k x) (k - 1) := by
  refine ⟨by rw [List.length_set]; exact h.len, fun j hj hj2 => ?_, fun j hj hj2 => ?_⟩
  · rw [List.getElem?_set_ne (by omega)]
    exact h.low j (by omega) hj2
  · rcases Nat.lt_or_ge k j with h1 | h1
    · rw [List.getElem?_set_ne (by omega)]
      exact h.high j h1 hj2
    · obtain rfl : j = k := by omega
      have := h.len
      rw [List.getElem?_set_self (by omega), hx]

theorem Shift.fin {out Y : List Nat} {a i : Nat} (h : Shift out Y a) (ha : a ≤ out.length) : Y.set a i = out.take a ++ i :: out.drop a := by
  have hl := h.len
  have ht : (out.take a).length = a := by rw [List.length_take]; omega
  refine List.ext_getElem? fun j => ?_
  rcases Nat.lt_trichotomy j a with h1 | h1 | h1
  · rw [List.getElem?_set_ne (by omega), h.low j (by omega) (by omega), List.getElem?_append_left (by omega), List.getElem?_take_of_lt h1]
  · subst h1
    rw [List.getElem?_set_self (by omega), List.getElem?_append_right (by omega), ht, Nat.sub_self]; rfl
  · rw [List.getElem?_set_ne (by omega), List.getElem?_append_right (by omega), ht]
    obtain ⟨q, hq⟩ : ∃ q, j - a = q + 1 := ⟨j - a - 1, by omega⟩
    rw [hq, List.getElem?_cons_succ, List.getElem?_drop]
    rcases Nat.lt_or_ge out.length j with h2 | h2
    · rw [List.getElem?_eq_none (by omega), List.getElem?_eq_none (by omega)]
    · rw [h.high j h1 h2]; congr 1; omega

theorem own_int_cell {w : World} {B E g n c k : Nat} {xs : List Int} {z : Int} (h : Own kInt w B E (fun _ => False) (.slice (some ⟨g, 0, none⟩) n c) n xs) (hk : xs[k]? = some z) : w.cell? ⟨g, k, none⟩ = some (.int .i64 z) := by
  obtain ⟨g2, o, e, _, _, _, hc⟩ := row_int h.read hk
  injection e with e
  injection e with e1 e2
  subst e1 e2
  rw [Nat.zero_add] at hc
  exact hc

theorem own_int_put {w : World} {B E g n c k : Nat} {xs : List Int} (h : Own kInt w B E (fun _ => False) (.slice (some ⟨g, 0, none⟩) n c) n xs) (hk : k < n) (z : Int) (hz : -9223372036854775808 ≤ z ∧ z ≤ 9223372036854775807) : Own kInt (w.setCell ⟨g, k, none⟩ (.int .i64 z)) B E (fun _ => False) (.slice (some ⟨g, 0, none⟩) n c) n (xs.set k z) ∧ w.grownBy (w.setCell ⟨g, k, none⟩ (.int .i64 z)) (some g) := by
  have h1 := h.puts (x' := z) (a' := [.int .i64 z]) hk ⟨rfl, hz⟩ (fun q hq => hq.elim)
  have e : k * kInt.size = k := by show k * 1 = k; omega
  rw [e] at h1
  exact h1

theorem own_int_frozen {w : World} {B E g n c k : Nat} {xs : List Int} (h : Own kInt w B E (fun _ => False) (.slice (some ⟨g, 0, none⟩) n c) n xs) (hk : k < n) : w.frozen? ⟨g, k, none⟩ = false := by
  have h1 := (h.cell (j := 0) hk (by decide)).2
  have e : k * kInt.size + 0 = k := by show k * 1 + 0 = k; omega
  rw [e] at h1
  exact h1

theorem ints_at {l : List Nat} {k x : Nat} (h : l[k]? = some x) : (ints l)[k]? = some (x : Int) := by unfold ints; rw [List.getElem?_map, h]; rfl

theorem ints_set (l : List Nat) (k x : Nat) : (ints l).set k (x : Int) = ints (l.set k x) := by unfold ints; rw [List.map_set]

/-- The order of the first so many, in memory. -/
structure Laid (w wr : World) (l : List Prm) (codes : List ByteArray) (v : Value) (i : Nat) : Prop where
  own : Own kInt wr w.heap.size 3 (fun _ => False) v (orderTo l codes i).length (ints (orderTo l codes i))
  below : Below w.heap.size w wr

theorem Laid.later {w wr w' : World} {l : List Prm} {codes : List ByteArray} {v : Value} {i : Nat} (h : Laid w wr l codes v i) (hb : Below wr.heap.size wr w') : Laid w w' l codes v i := ⟨h.own.later hb, h.below.trans (hb.mono h.below.size)⟩

theorem order_len (l : List Prm) (codes : List ByteArray) : ∀ k, (orderTo l codes k).length ≤ k
  | 0 => by simp [orderTo]
  | k + 1 => by
    have h := order_len l codes k
    unfold orderTo
    split
    · unfold layIn; rw [List.length_append, List.length_cons, List.length_take, List.length_drop]; omega
    · omega

/-- While the places move on. -/
def Moving (w wi : World) (g cap q : Nat) (out : List Nat) (k : Nat) : Prop := ∃ Y, Shift out Y k ∧ Own kInt wi w.heap.size 3 (fun _ => False) (.slice (some ⟨g, 0, none⟩) (q + 1) cap) (q + 1) (ints Y) ∧ Below w.heap.size w wi

set_option maxRecDepth 100000 in
set_option maxHeartbeats 4000000 in
theorem rorder_any (A : Option Addr) (n c : Nat) (l : List Prm) (Ac : Option Addr) (m cc : Nat) (codes : List ByteArray) (w : World) (h : Row kPrm w (· < w.heap.size) A n l) (hc : Row kStr w (· < w.heap.size) Ac m codes) (hn : n ≤ 100000000) (hm : m ≤ 100000000) :
    Calls Try.prog 18 #[.slice A n c, .slice Ac m cc] w fun e w' => ∃ v, e = .returned v ∧ Own kInt w' w.heap.size 3 (fun _ => False) v (orderTo l codes n).length (ints (orderTo l codes n)) ∧ Below w.heap.size w w' := by
  have HR := Lib.hid h
  have HC := Lib.hid hc
  have HM := Lib.hid hm
  have HL0 : Hid (Laid w w l codes (.slice none 0 0) 0) := Lib.hid ⟨Own.nil _ _ _ _ _, Below.refl _ _⟩
  clear h hc hm
  go_enter Try.func18, Try.ntmps18
  go_wp2
  go_loopw [5, 6] (fun s5 s6 wr => ∃ i : Nat, s6 = .int .i64 i ∧ i ≤ n ∧ Hid (Laid w wr l codes s5 i)) (fun _ s6 _ => n - (intOf s6).toNat)
  case atStart => exact ⟨0, rfl, by omega, HL0⟩
  case round =>
    clear HL0
    obtain ⟨i, rfl, hi, hL⟩ := hrel
    have i0 : (0 : Int) ≤ (i : Int) := by omega
    by_cases hlt : i < n
    · have i1 : (i : Int) < (n : Int) := by omega
      obtain ⟨p, hp⟩ := HR.out.get hlt
      obtain ⟨g, o, y, rfl, _, hgl, hh, c0, c1, c2, c3, c4, c5, c6, c7, c8, c9, c10, c11, c12, c13, c14⟩ := row_Prm HR.out hp
      have b4 : wr.cell? ⟨g, o + i * 15 + 4, none⟩ = some (.string p.code) := (hL.out.below.cell (p := ⟨g, _, none⟩) hgl).trans c4
      have HT := Lib.hid (show takenB l codes i = (p.code.toList.isEmpty || hasB codes p.code) by unfold takenB; rw [nth_at hp])
      have HP := Lib.hid (And.intro hp hgl)
      have hord : orderTo l codes (i + 1) = if takenB l codes i then layIn (fun x => aheadB (nth l i) (nth l x)) (orderTo l codes i) i else orderTo l codes i := rfl
      have HO := Lib.hid hord
      have HH := Lib.hid (fun W (hb : Below w.heap.size w W) => Sc.rhas_any Ac m cc codes p.code _ W (HC.out.below hb (Nat.le_refl _)) (by have := HM.out; omega))
      have HCs := Lib.hid (And.intro c0 (And.intro c1 (And.intro c2 (And.intro c3 (And.intro c4 (And.intro c5 (And.intro c6 (And.intro c7 (And.intro c8 (And.intro c9 (And.intro c10 (And.intro c11 (And.intro c12 (And.intro c13 c14))))))))))))))
      clear hp hgl hh hord c0 c1 c2 c3 c4 c5 c6 c7 c8 c9 c10 c11 c12 c13 c14
      obtain ⟨tb, htb⟩ : ∃ tb, takenB l codes i = tb := ⟨_, rfl⟩
      have HTB := Lib.hid htb
      clear htb
      go_upto_region 5 with (fail)
      go_cut [30] (fun s30 wx => s30 = .bool (!tb) ∧ wx = wr)
      case first =>
        cases e1 : p.code.toList.isEmpty with
        | true =>
          have HY : Hid (tb = true) := Lib.hid (by rw [← HTB.out, HT.out, e1]; rfl)
          have g1 : p.code.toList = [] := List.isEmpty_iff.1 e1
          clear e1
          go_wp2_with fail
          go_meet
          exact ⟨by rw [HY.out]; rfl, by trivial⟩
        | false =>
          have g1 : ¬ p.code.toList = [] := fun k => by rw [k] at e1; cases e1
          have HHx := Lib.hid (HH.out wr hL.out.below)
          obtain ⟨b, hb⟩ : ∃ b, hasB codes p.code = b := ⟨_, rfl⟩
          have HY : Hid (tb = b) := Lib.hid (by rw [← HTB.out, HT.out, e1, hb]; rfl)
          rw [hb] at HHx
          have HE := Lib.hid e1
          clear e1 hb
          go_wp2_with fail
          refine HHx.out.mono ?_
          rintro e w1 ⟨rfl, rfl⟩
          go_wp2_with fail
          go_meet
          exact ⟨by rw [HY.out, HE.out]; rfl, by trivial⟩
      case rest =>
      obtain ⟨rfl, rfl⟩ := hcut
      cases tb with
      | false =>
        have HL2 : Hid (Laid w wc l codes u5 (i + 1)) := Lib.hid (by
          have e9 : orderTo l codes (i + 1) = orderTo l codes i := by rw [HO.out, HTB.out]; rfl
          refine ⟨?_, hL.out.below⟩
          rw [e9]; exact hL.out.own)
        go_wp2
        go_roundw
        case rel => exact ⟨i + 1, by go_num, by omega, HL2⟩
        case measure => simp [intOf]; omega
      | true =>
        have hY := HTB
        obtain ⟨q, hq⟩ : ∃ q, (orderTo l codes i).length = q := ⟨_, rfl⟩
        have hql := order_len l codes i
        have hown := hL.out.own
        rw [hq] at hql hown
        obtain ⟨A5, c5, rfl⟩ := hown.value
        obtain ⟨a, ha⟩ : ∃ a, cutN (fun x => aheadB (nth l i) (nth l x)) (orderTo l codes i) = a := ⟨_, rfl⟩
        have haq : a ≤ q := by rw [← ha, ← hq]; exact cut_le _ _
        have HA := Lib.hid (And.intro ha hq)
        have HN : Hid (orderTo l codes (i + 1) = (orderTo l codes i).take a ++ i :: (orderTo l codes i).drop a) := Lib.hid (by rw [HO.out, hY.out, if_pos rfl]; unfold layIn; rw [ha])
        have HOw := Lib.hid (And.intro hown hL.out.below)
        clear hown ha hq b4 hL HT HO HH hY
        go_upto_block 2 with (fail)
        go_cut [7] (fun s7 wx => s7 = .int .i64 a ∧ Hid (Own kInt wx w.heap.size 3 (fun _ => False) (.slice A5 q c5) q (ints (orderTo l codes i)) ∧ Below w.heap.size w wx))
        case first =>
          go_wp2_with fail
          go_loopw [7] (fun s7 wx => ∃ k : Nat, s7 = .int .i64 k ∧ k ≤ q ∧ Hid ((∀ x ∈ (orderTo l codes i).drop k, aheadB (nth l i) (nth l x) = true) ∧ Own kInt wx w.heap.size 3 (fun _ => False) (.slice A5 q c5) q (ints (orderTo l codes i)) ∧ Below w.heap.size w wx)) (fun s7 _ => (intOf s7).toNat)
          case atStart => exact ⟨q, rfl, Nat.le_refl _, Lib.hid ⟨by rw [List.drop_of_length_le (by have := HA.out.2; omega)]; simp, HOw.out.1, HOw.out.2⟩⟩
          case round =>
            obtain ⟨k, rfl, hk, hK⟩ := hrel
            have k0 : (0 : Int) ≤ (k : Int) := by omega
            by_cases hk0 : k = 0
            · subst hk0
              have HZ : Hid (a = 0) := Lib.hid (by rw [← HA.out.1]; exact cut_at (Nat.zero_le _) hK.out.1 (fun x h0 => by omega))
              have t1 : ¬ (0 : Int) < ((0 : Nat) : Int) := by omega
              go_wp2_with fail
              go_quiet (fail)
              have HK2 := Lib.hid (And.intro (hK.out.2.1.later (Qu.below_draws (Below.refl _ _) nq)) (Qu.below_draws hK.out.2.2 nq))
              go_wp2_with fail
              go_meet
              exact ⟨by rw [HZ.out]; rfl, HK2⟩
            · have t1 : (0 : Int) < (k : Int) := by omega
              have t2 : 0 < k := by omega
              have hk1 : k - 1 < q := by omega
              obtain ⟨x, hx⟩ : ∃ x, (orderTo l codes i)[k - 1]? = some x := ⟨_, List.getElem?_eq_getElem (by have := HA.out.2; omega)⟩
              obtain ⟨g5, hA5, hg5, hg6⟩ := hK.out.2.1.first (by omega)
              subst hA5
              have hxi : x < i := ((orderTo_mem l codes x i).1 (List.mem_of_getElem? hx)).1
              have hxn : x < n := by omega
              obtain ⟨p2, hp2⟩ := HR.out.get hxn
              obtain ⟨g2, o2, y2, e2, _, _, hh2, d0, d1, d2, d3, d4, d5, d6, d7, d8, d9, d10, d11, d12, d13, d14⟩ := row_Prm HR.out hp2
              injection e2 with e2
              injection e2 with e3 e4
              subst e3 e4
              have hbel := hK.out.2.2
              have hgl := HP.out.2
              have f0 : ∀ u, Below wr.heap.size wr u → u.cell? ⟨g, o + i * 15, none⟩ = some (.string p.id) := fun u hu => ((hbel.trans (hu.mono hbel.size)).cell (p := ⟨g, _, none⟩) hgl).trans HCs.out.1
              have m0 : ∀ u, Below wr.heap.size wr u → u.cell? ⟨g, o + x * 15, none⟩ = some (.string p2.id) := fun u hu => ((hbel.trans (hu.mono hbel.size)).cell (p := ⟨g, _, none⟩) hgl).trans d0
              have f1 : ∀ u, Below wr.heap.size wr u → u.cell? ⟨g, o + i * 15 + 1, none⟩ = some (.int .i64 p.kind) := fun u hu => ((hbel.trans (hu.mono hbel.size)).cell (p := ⟨g, _, none⟩) hgl).trans HCs.out.2.1
              have m1 : ∀ u, Below wr.heap.size wr u → u.cell? ⟨g, o + x * 15 + 1, none⟩ = some (.int .i64 p2.kind) := fun u hu => ((hbel.trans (hu.mono hbel.size)).cell (p := ⟨g, _, none⟩) hgl).trans d1
              have f2 : ∀ u, Below wr.heap.size wr u → u.cell? ⟨g, o + i * 15 + 2, none⟩ = some (.int .i64 p.priority) := fun u hu => ((hbel.trans (hu.mono hbel.size)).cell (p := ⟨g, _, none⟩) hgl).trans HCs.out.2.2.1
              have m2 : ∀ u, Below wr.heap.size wr u → u.cell? ⟨g, o + x * 15 + 2, none⟩ = some (.int .i64 p2.priority) := fun u hu => ((hbel.trans (hu.mono hbel.size)).cell (p := ⟨g, _, none⟩) hgl).trans d2
              have f3 : ∀ u, Below wr.heap.size wr u → u.cell? ⟨g, o + i * 15 + 3, none⟩ = some (.string p.group) := fun u hu => ((hbel.trans (hu.mono hbel.size)).cell (p := ⟨g, _, none⟩) hgl).trans HCs.out.2.2.2.1
              have m3 : ∀ u, Below wr.heap.size wr u → u.cell? ⟨g, o + x * 15 + 3, none⟩ = some (.string p2.group) := fun u hu => ((hbel.trans (hu.mono hbel.size)).cell (p := ⟨g, _, none⟩) hgl).trans d3
              have f4 : ∀ u, Below wr.heap.size wr u → u.cell? ⟨g, o + i * 15 + 4, none⟩ = some (.string p.code) := fun u hu => ((hbel.trans (hu.mono hbel.size)).cell (p := ⟨g, _, none⟩) hgl).trans HCs.out.2.2.2.2.1
              have m4 : ∀ u, Below wr.heap.size wr u → u.cell? ⟨g, o + x * 15 + 4, none⟩ = some (.string p2.code) := fun u hu => ((hbel.trans (hu.mono hbel.size)).cell (p := ⟨g, _, none⟩) hgl).trans d4
              have f5 : ∀ u, Below wr.heap.size wr u → u.cell? ⟨g, o + i * 15 + 5, none⟩ = some (.bool p.closes) := fun u hu => ((hbel.trans (hu.mono hbel.size)).cell (p := ⟨g, _, none⟩) hgl).trans HCs.out.2.2.2.2.2.1
              have m5 : ∀ u, Below wr.heap.size wr u → u.cell? ⟨g, o + x * 15 + 5, none⟩ = some (.bool p2.closes) := fun u hu => ((hbel.trans (hu.mono hbel.size)).cell (p := ⟨g, _, none⟩) hgl).trans d5
              have f6 : ∀ u, Below wr.heap.size wr u → u.cell? ⟨g, o + i * 15 + 6, none⟩ = some (.slice y.scope.skus.A y.scope.skus.n y.scope.skus.c) := fun u hu => ((hbel.trans (hu.mono hbel.size)).cell (p := ⟨g, _, none⟩) hgl).trans HCs.out.2.2.2.2.2.2.1
              have m6 : ∀ u, Below wr.heap.size wr u → u.cell? ⟨g, o + x * 15 + 6, none⟩ = some (.slice y2.scope.skus.A y2.scope.skus.n y2.scope.skus.c) := fun u hu => ((hbel.trans (hu.mono hbel.size)).cell (p := ⟨g, _, none⟩) hgl).trans d6
              have f7 : ∀ u, Below wr.heap.size wr u → u.cell? ⟨g, o + i * 15 + 7, none⟩ = some (.slice y.scope.cats.A y.scope.cats.n y.scope.cats.c) := fun u hu => ((hbel.trans (hu.mono hbel.size)).cell (p := ⟨g, _, none⟩) hgl).trans HCs.out.2.2.2.2.2.2.2.1
              have m7 : ∀ u, Below wr.heap.size wr u → u.cell? ⟨g, o + x * 15 + 7, none⟩ = some (.slice y2.scope.cats.A y2.scope.cats.n y2.scope.cats.c) := fun u hu => ((hbel.trans (hu.mono hbel.size)).cell (p := ⟨g, _, none⟩) hgl).trans d7
              have f8 : ∀ u, Below wr.heap.size wr u → u.cell? ⟨g, o + i * 15 + 8, none⟩ = some (.int .i64 p.least) := fun u hu => ((hbel.trans (hu.mono hbel.size)).cell (p := ⟨g, _, none⟩) hgl).trans HCs.out.2.2.2.2.2.2.2.2.1
              have m8 : ∀ u, Below wr.heap.size wr u → u.cell? ⟨g, o + x * 15 + 8, none⟩ = some (.int .i64 p2.least) := fun u hu => ((hbel.trans (hu.mono hbel.size)).cell (p := ⟨g, _, none⟩) hgl).trans d8
              have f9 : ∀ u, Below wr.heap.size wr u → u.cell? ⟨g, o + i * 15 + 9, none⟩ = some (.int .i64 p.rate) := fun u hu => ((hbel.trans (hu.mono hbel.size)).cell (p := ⟨g, _, none⟩) hgl).trans HCs.out.2.2.2.2.2.2.2.2.2.1
              have m9 : ∀ u, Below wr.heap.size wr u → u.cell? ⟨g, o + x * 15 + 9, none⟩ = some (.int .i64 p2.rate) := fun u hu => ((hbel.trans (hu.mono hbel.size)).cell (p := ⟨g, _, none⟩) hgl).trans d9
              have f10 : ∀ u, Below wr.heap.size wr u → u.cell? ⟨g, o + i * 15 + 10, none⟩ = some (.int .i64 p.amount) := fun u hu => ((hbel.trans (hu.mono hbel.size)).cell (p := ⟨g, _, none⟩) hgl).trans HCs.out.2.2.2.2.2.2.2.2.2.2.1
              have m10 : ∀ u, Below wr.heap.size wr u → u.cell? ⟨g, o + x * 15 + 10, none⟩ = some (.int .i64 p2.amount) := fun u hu => ((hbel.trans (hu.mono hbel.size)).cell (p := ⟨g, _, none⟩) hgl).trans d10
              have f11 : ∀ u, Below wr.heap.size wr u → u.cell? ⟨g, o + i * 15 + 11, none⟩ = some (.int .i64 p.buy) := fun u hu => ((hbel.trans (hu.mono hbel.size)).cell (p := ⟨g, _, none⟩) hgl).trans HCs.out.2.2.2.2.2.2.2.2.2.2.2.1
              have m11 : ∀ u, Below wr.heap.size wr u → u.cell? ⟨g, o + x * 15 + 11, none⟩ = some (.int .i64 p2.buy) := fun u hu => ((hbel.trans (hu.mono hbel.size)).cell (p := ⟨g, _, none⟩) hgl).trans d11
              have f12 : ∀ u, Below wr.heap.size wr u → u.cell? ⟨g, o + i * 15 + 12, none⟩ = some (.int .i64 p.get) := fun u hu => ((hbel.trans (hu.mono hbel.size)).cell (p := ⟨g, _, none⟩) hgl).trans HCs.out.2.2.2.2.2.2.2.2.2.2.2.2.1
              have m12 : ∀ u, Below wr.heap.size wr u → u.cell? ⟨g, o + x * 15 + 12, none⟩ = some (.int .i64 p2.get) := fun u hu => ((hbel.trans (hu.mono hbel.size)).cell (p := ⟨g, _, none⟩) hgl).trans d12
              have f13 : ∀ u, Below wr.heap.size wr u → u.cell? ⟨g, o + i * 15 + 13, none⟩ = some (.slice y.parts.A y.parts.n y.parts.c) := fun u hu => ((hbel.trans (hu.mono hbel.size)).cell (p := ⟨g, _, none⟩) hgl).trans HCs.out.2.2.2.2.2.2.2.2.2.2.2.2.2.1
              have m13 : ∀ u, Below wr.heap.size wr u → u.cell? ⟨g, o + x * 15 + 13, none⟩ = some (.slice y2.parts.A y2.parts.n y2.parts.c) := fun u hu => ((hbel.trans (hu.mono hbel.size)).cell (p := ⟨g, _, none⟩) hgl).trans d13
              have f14 : ∀ u, Below wr.heap.size wr u → u.cell? ⟨g, o + i * 15 + 14, none⟩ = some (.slice y.tiers.A y.tiers.n y.tiers.c) := fun u hu => ((hbel.trans (hu.mono hbel.size)).cell (p := ⟨g, _, none⟩) hgl).trans HCs.out.2.2.2.2.2.2.2.2.2.2.2.2.2.2
              have m14 : ∀ u, Below wr.heap.size wr u → u.cell? ⟨g, o + x * 15 + 14, none⟩ = some (.slice y2.tiers.A y2.tiers.n y2.tiers.c) := fun u hu => ((hbel.trans (hu.mono hbel.size)).cell (p := ⟨g, _, none⟩) hgl).trans d14
              have x5 : ∀ u, Below wr.heap.size wr u → u.cell? ⟨g5, k - 1, none⟩ = some (.int .i64 (x : Int)) := fun u hu => (hu.cell (p := ⟨g5, _, none⟩) hg6).trans (own_int_cell hK.out.2.1 (ints_at hx))
              obtain ⟨z, hz⟩ : ∃ z, k - 1 = z := ⟨_, rfl⟩
              rw [hz] at x5
              have j1 : (z : Int) < (q : Int) := by omega
              have j2 : IntKind.i64.wrap ((k : Int) - 1) = (z : Int) := by rw [IntWalk.i64_in _ (by omega)]; omega
              have j3 : (0 : Int) ≤ (z : Int) := by omega
              have HZk := Lib.hid hz
              have j5 : (x : Int) < (n : Int) := by omega
              have j6 : (0 : Int) ≤ (x : Int) := by omega
              have HAH := Lib.hid (fun W => Pr.rahead_any p y p2 y2 W)
              obtain ⟨b, hb⟩ : ∃ b, aheadB p p2 = b := ⟨_, rfl⟩
              have HB : Hid (aheadB (nth l i) (nth l x) = b) := Lib.hid (by rw [nth_at HP.out.1, nth_at hp2, hb])
              simp only [hb] at HAH
              have HX := Lib.hid hx
              clear hz hb hx hxi hxn hp2 hh2 hg5 hg6 hbel hgl d0 d1 d2 d3 d4 d5 d6 d7 d8 d9 d10 d11 d12 d13 d14
              go_wp2_with fail
              go_region_held3 (fun u => Below wr.heap.size wr u)
                (first
                  | assumption
                  | exact (Below.refl _ _).drew
                  | exact Below.refl _ _)
                (first
                  | (go_at_call 50; with_reducible refine (HAH.out _).mono ?_; rintro e wb ⟨rfl, hb⟩; have hb := Hk.andThen (Below.refl _ _).drew hb))
              have HK2 := Lib.hid (And.intro (hK.out.2.1.later hb) (hK.out.2.2.trans (hb.mono hK.out.2.2.size)))
              clear hb x5 f0 m0 f1 m1 f2 m2 f3 m3 f4 m4 f5 m5 f6 m6 f7 m7 f8 m8 f9 m9 f10 m10 f11 m11 f12 m12 f13 m13 f14 m14
              cases b with
              | true =>
                have HK3 : Hid (∀ x ∈ (orderTo l codes i).drop (k - 1), aheadB (nth l i) (nth l x) = true) := Lib.hid fun z hz => by
                  rw [List.drop_eq_getElem_cons (by have := HA.out.2; omega)] at hz
                  have e9 : (orderTo l codes i)[k - 1]'(by have := HA.out.2; omega) = x := by
                    have := HX.out
                    rw [List.getElem?_eq_getElem (by have := HA.out.2; omega)] at this
                    injection this
                  rcases List.mem_cons.1 hz with h1 | h1
                  · rw [h1, e9]; exact HB.out
                  · rw [show k - 1 + 1 = k by omega] at h1
                    exact hK.out.1 z h1
                go_wp2
                go_roundw
                case rel =>
                  refine ⟨_, _, _, _, _, _, _, _, _, _, _, _, _, _, _, _, _, _, _, _, ?_, rfl⟩
                  exact ⟨z, by go_num, by have := HZk.out; omega, Lib.hid ⟨by rw [← HZk.out]; exact HK3.out, HK2.out.1, HK2.out.2⟩⟩
                case measure => (have := HZk.out; simp [intOf]; omega)
              | false =>
                have HZ : Hid (a = k) := Lib.hid (by
                  rw [← HA.out.1]
                  exact cut_at (by have := HA.out.2; omega) hK.out.1 (fun z _ hz => by
                    rw [HX.out] at hz; injection hz with hz; subst hz; exact HB.out))
                go_wp2_with fail
                go_meet
                exact ⟨by rw [HZ.out], HK2⟩
        case rest =>
          obtain ⟨rfl, hD⟩ := hcut
          have hsz := hD.out.2.size
          have HD2 := Lib.hid (hD.out.2)
          have hqm : q ≤ 100000000 := by omega
          have hnul : kInt.rep wc (fun _ => False) 0 [.int .i64 0] := ⟨rfl, by omega, by omega⟩
          clear HOw
          go_wp2_with ((at_builtin; refine Kd.wpList_push (W := wc) (F := fun _ => False) (B := w.heap.size) (n := q) (v := .slice A5 q c5) (xs := ints (orderTo l codes i)) (y := (0 : Int)) (cs := [.int .i64 0]) Ap.int_t rfl _ _ rfl rfl rfl rfl hD.out.1 hnul (by omega) (by omega) hsz (fun _ h => h.elim) ?_; intro g1 cap w' hown hgrow hfr))
          have HMv : Hid (Moving w w' g1 cap q (orderTo l codes i) q) := Lib.hid ⟨orderTo l codes i ++ [0], by
              have := Shift.begin (orderTo l codes i)
              rw [HA.out.2] at this
              exact this, by
              have e9 : ints (orderTo l codes i ++ [0]) = ints (orderTo l codes i) ++ [(0 : Int)] := by unfold ints; rw [List.map_append]; rfl
              rw [e9]; exact hown, HD2.out.grown hgrow hsz fun k hk => (hD.out.1.low k hk).1⟩
          have t9 : IntKind.i64.wrap (((q : Int) + 1) - 1) = (q : Int) := by rw [show ((q : Int) + 1) - 1 = (q : Int) by omega]; exact IntWalk.i64_in _ (by omega)
          clear hown hgrow hfr hD hnul hsz
          go_wp2
          go_loopw [8] (fun s8 wx => ∃ k : Nat, s8 = .int .i64 k ∧ a ≤ k ∧ k ≤ q ∧ Hid (Moving w wx g1 cap q (orderTo l codes i) k)) (fun s8 _ => (intOf s8).toNat)
          case atStart => exact ⟨q, St.num_eq (by omega), haq, Nat.le_refl _, HMv⟩
          case round =>
            clear HMv
            obtain ⟨k, rfl, hak, hkq, hMv⟩ := hrel
            obtain ⟨Y, hSh, hY, hbY⟩ := hMv.out
            have k0 : (0 : Int) ≤ (k : Int) := by omega
            by_cases hka : a < k
            · have t1 : (a : Int) < (k : Int) := by omega
              obtain ⟨x, hx⟩ : ∃ x, (orderTo l codes i)[k - 1]? = some x := ⟨_, List.getElem?_eq_getElem (by have := HA.out.2; omega)⟩
              have hxi : x < i := ((orderTo_mem l codes x i).1 (List.mem_of_getElem? hx)).1
              have hxY : Y[k - 1]? = some x := by rw [hSh.low (k - 1) (by omega) (by have := HA.out.2; omega)]; exact hx
              have b1 := own_int_cell hY (ints_at hxY)
              obtain ⟨x0, hx0⟩ : ∃ x0, Y[k]? = some x0 := ⟨_, List.getElem?_eq_getElem (by have := hSh.len; have := HA.out.2; omega)⟩
              have b2 := own_int_cell hY (ints_at hx0)
              have bz := own_int_frozen hY (k := k) (by omega)
              have j1 : (k : Int) - 1 < (q : Int) + 1 := by omega
              have j2 : IntKind.i64.wrap ((k : Int) - 1) = (k : Int) - 1 := IntWalk.i64_in _ (by omega)
              have j3 : (0 : Int) ≤ (k : Int) - 1 := by omega
              have j4 : ((k : Int) - 1).toNat = k - 1 := by omega
              have j5 : (k : Int) < (q : Int) + 1 := by omega
              have hput := own_int_put hY (k := k) (by omega) (x : Int) (by omega)
              have HMv2 : Hid (Moving w (wr.setCell ⟨g1, k, none⟩ (.int .i64 (x : Int))) g1 cap q (orderTo l codes i) (k - 1)) := Lib.hid ⟨Y.set k x, hSh.step (by omega) (by have := HA.out.2; omega) hx, by rw [← ints_set]; exact hput.1, hbY.grown hput.2 hbY.size fun b hb => by
                injection hb with hb; subst hb; exact (hY.low _ rfl).1⟩
              clear hput hSh hY hbY hMv hx hxY hx0 hxi
              go_wp2
              go_roundw
              case rel => exact ⟨k - 1, St.num_eq (by omega), by omega, by omega, HMv2⟩
              case measure => simp [intOf]; omega
            · obtain rfl : k = a := by omega
              have t1 : ¬ (k : Int) < (k : Int) := by omega
              obtain ⟨x0, hx0⟩ : ∃ x0, Y[k]? = some x0 := ⟨_, List.getElem?_eq_getElem (by have := hSh.len; have := HA.out.2; omega)⟩
              have b2 := own_int_cell hY (ints_at hx0)
              have bz := own_int_frozen hY (k := k) (by omega)
              have j5 : (k : Int) < (q : Int) + 1 := by omega
              have hput := own_int_put hY (k := k) (by omega) (i : Int) (by omega)
              have HL2 : Hid (Laid w (wr.setCell ⟨g1, k, none⟩ (.int .i64 (i : Int))) l codes (.slice (some ⟨g1, 0, none⟩) (q + 1) cap) (i + 1)) := Lib.hid (by
                have e8 : (orderTo l codes (i + 1)).length = q + 1 := by
                  have := HA.out.2
                  rw [HN.out, List.length_append, List.length_cons, List.length_take, List.length_drop]; omega
                refine ⟨?_, hbY.grown hput.2 hbY.size fun b hb => by
                  injection hb with hb; subst hb; exact (hY.low _ rfl).1⟩
                rw [e8, HN.out, ← hSh.fin (by have := HA.out.2; omega), ← ints_set]
                exact hput.1)
              clear hput hSh hY hbY hMv hx0
              go_wp2
              go_roundw
              case rel => exact ⟨i + 1, by go_num, by omega, HL2⟩
              case measure => simp [intOf]; omega
    · obtain rfl : i = n := by omega
      have i1 : ¬ (i : Int) < (i : Int) := by omega
      go_wp2
      go_ret
      exact ⟨_, rfl, hL.out.own, hL.out.below⟩

end Go.Proofs.Ytgimcleeamlgcaa.Pm
