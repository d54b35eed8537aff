/- Law 12's few, and its awake. -/
import Derived.Test.YtgimcleeamlgcaaPmL
import Derived.Test.YtgimcleeamlgcaaPmK
import Derived.Test.YtgimcleeamlgcaaHpA
set_option maxRecDepth 100000

set_option linter.unusedVariables false
namespace Go.Proofs.Ytgimcleeamlgcaa.Pm
open Go.ChangeShapes Go.WideShapes Go.ChangeAt Go.RowKit
open Ap (Scp Prt Tir Prm kPrm kPrt row_Prm row_Prt)
open Kd (Row Lst kStr kInt Own Cells Fit eqL)
open Pr (promoB PrmSmall PartsSmall orderTo nth)

/-- Lists that are not too long. -/
structure Few (p : Prm) : Prop where
  skus : p.scope.skus.length ≤ 40
  cats : p.scope.cats.length ≤ 40
  each : ∀ (k : Nat) (q : Prt), p.parts[k]? = some q → q.scope.skus.length ≤ 40 ∧ q.scope.cats.length ≤ 40
  parts : p.parts.length ≤ 20
  tiers : p.tiers.length ≤ 20

theorem Few.slight {p : Prm} (h : Few p) : Slight p :=
  ⟨by have := h.skus; omega, by have := h.cats; omega, fun k q hq => by have := h.each k q hq; omega, by have := h.parts; omega, by have := h.tiers; omega⟩

theorem nope {P : Prop} (h : false = true) : P := by cases h

/-- What few tells. -/
def Fewed (p : Prm) (w : World) (e : Ending) (w' : World) : Prop := ∃ b : Bool, e = .returned (.bool b) ∧ (b = true → Few p) ∧ Below w.heap.size w w'

set_option maxHeartbeats 4000000 in
theorem few_any (p : Prm) (l : Prm.Lay) (w : World) (h : Ap.Prm.Holds w (· < w.heap.size) p l) :
    Calls Try.prog 8 #[.agg #[.string p.id, .int .i64 p.kind, .int .i64 p.priority, .string p.group, .string p.code, .bool p.closes, .slice l.scope.skus.A l.scope.skus.n l.scope.skus.c, .slice l.scope.cats.A l.scope.cats.n l.scope.cats.c, .int .i64 p.least, .int .i64 p.rate, .int .i64 p.amount, .int .i64 p.buy, .int .i64 p.get, .slice l.parts.A l.parts.n l.parts.c, .slice l.tiers.A l.tiers.n l.tiers.c]] w fun e w' => Fewed p w e w' := by
  obtain ⟨w1, hw1⟩ : ∃ w1, w.alloc (.cells #[.string p.id, .int .i64 p.kind, .int .i64 p.priority, .string p.group, .string p.code, .bool p.closes, .slice l.scope.skus.A l.scope.skus.n l.scope.skus.c, .slice l.scope.cats.A l.scope.cats.n l.scope.cats.c, .int .i64 p.least, .int .i64 p.rate, .int .i64 p.amount, .int .i64 p.buy, .int .i64 p.get, .slice l.parts.A l.parts.n l.parts.c, .slice l.tiers.A l.tiers.n l.tiers.c] 28) = w1 := ⟨_, rfl⟩
  have hx : Qu.Blk w1 w.heap.size 28 #[.string p.id, .int .i64 p.kind, .int .i64 p.priority, .string p.group, .string p.code, .bool p.closes, .slice l.scope.skus.A l.scope.skus.n l.scope.skus.c, .slice l.scope.cats.A l.scope.cats.n l.scope.cats.c, .int .i64 p.least, .int .i64 p.rate, .int .i64 p.amount, .int .i64 p.buy, .int .i64 p.get, .slice l.parts.A l.parts.n l.parts.c, .slice l.tiers.A l.tiers.n l.tiers.c] := by rw [← hw1]; exact Qu.Blk.new w _ _
  have hb1 : Below w.heap.size w w1 := by rw [← hw1]; exact (Below.refl _ _).alloc (Nat.le_refl _) _
  have x6 := hx.cell 6
  have x7 := hx.cell 7
  have x13 := hx.cell 13
  have x14 := hx.cell 14
  have HB := Lib.hid hb1
  have hrow := h.parts.row.below hb1 (Nat.le_refl _)
  have hfit := h.parts.fit.2
  have HR := Lib.hid hrow
  have HL := Lib.hid (And.intro h.scope.skus.row.len (And.intro h.scope.cats.row.len (And.intro h.parts.row.len h.tiers.row.len)))
  obtain ⟨f1, f2⟩ := hfit
  obtain ⟨n, hn⟩ : ∃ n, l.parts.n = n := ⟨_, rfl⟩
  obtain ⟨t, ht⟩ : ∃ t, l.tiers.n = t := ⟨_, rfl⟩
  obtain ⟨a, ha⟩ : ∃ a, l.scope.skus.n = a := ⟨_, rfl⟩
  obtain ⟨c, hc⟩ : ∃ c, l.scope.cats.n = c := ⟨_, rfl⟩
  simp only [hn, ht, ha, hc] at hw1 x6 x7 x13 x14 HR HL f1 ⊢
  have hnb : n ≤ 9223372036854775807 := by omega
  clear hx hb1 h hrow f1 f2 hn ht ha hc
  go_enter Try.func8, Try.ntmps8
  go_wp2
  go_loopw [3] (fun s3 wr => ∃ k : Nat, s3 = .int .i64 k ∧ k ≤ n ∧ wr = w1 ∧ Hid (∀ (j : Nat) (q : Prt), j < k → p.parts[j]? = some q → q.scope.skus.length ≤ 40 ∧ q.scope.cats.length ≤ 40)) (fun s3 _ => n - (intOf s3).toNat)
  case atStart => exact ⟨0, rfl, Nat.zero_le _, rfl, Lib.hid fun j q hj => by omega⟩
  case round =>
    obtain ⟨k, rfl, hk, rfl, hM⟩ := hrel
    clear hw1
    have k0 : (0 : Int) ≤ (k : Int) := by omega
    by_cases hlt : k < n
    · have k1 : (k : Int) < (n : Int) := by omega
      obtain ⟨q, hq⟩ := HR.out.get hlt
      obtain ⟨g, o, y, he, _, hg, hh, a0, a1, a2⟩ := row_Prt HR.out hq
      simp only [he] at x13
      have HQ := Lib.hid (And.intro hq (And.intro hh.scope.skus.row.len hh.scope.cats.row.len))
      obtain ⟨s, hs⟩ : ∃ s, y.scope.skus.n = s := ⟨_, rfl⟩
      obtain ⟨d, hd⟩ : ∃ d, y.scope.cats.n = d := ⟨_, rfl⟩
      simp only [hs, hd] at a0 a1 HQ
      clear hq hh hs hd
      by_cases c1 : 40 < s
      · have d1 : (40 : Int) < (s : Int) := by omega
        go_wp2
        go_ret
        exact ⟨false, rfl, nope, HB.out⟩
      · have d1 : ¬ (40 : Int) < (s : Int) := by omega
        by_cases c2 : 40 < d
        · have d2 : (40 : Int) < (d : Int) := by omega
          go_wp2
          go_ret
          exact ⟨false, rfl, nope, HB.out⟩
        · have d2 : ¬ (40 : Int) < (d : Int) := by omega
          have HN : Hid (∀ (j : Nat) (u : Prt), j < k + 1 → p.parts[j]? = some u → u.scope.skus.length ≤ 40 ∧ u.scope.cats.length ≤ 40) := Lib.hid fun j u hj hu => by
            rcases Nat.lt_or_ge j k with h1 | h1
            · exact hM.out j u h1 hu
            · obtain rfl : j = k := by omega
              have hq := HQ.out.1
              rw [hq] at hu
              injection hu with hu
              subst hu
              have := HQ.out.2
              omega
          clear hM HQ
          go_wp2
          go_roundw
          case rel => exact ⟨k + 1, by go_num, by omega, by trivial, HN⟩
          case measure => simp [intOf]; omega
    · obtain rfl : k = n := by omega
      have k1 : ¬ (k : Int) < (k : Int) := by omega
      have HO : Hid (k ≤ 20 → t ≤ 20 → a ≤ 40 → c ≤ 40 → Few p) := Lib.hid fun h1 h2 h3 h4 => by
        obtain ⟨l1, l2, l3, l4⟩ := HL.out
        exact ⟨by omega, by omega, fun j q hq => hM.out j q (by have := (List.getElem?_eq_some_iff.1 hq).1; omega) hq, by omega, by omega⟩
      clear hM
      by_cases c1 : k ≤ 20
      · have d1 : (k : Int) ≤ 20 := by omega
        by_cases c2 : t ≤ 20
        · have d2 : (t : Int) ≤ 20 := by omega
          by_cases c3 : a ≤ 40
          · have d3 : (a : Int) ≤ 40 := by omega
            by_cases c4 : c ≤ 40
            · have d4 : (c : Int) ≤ 40 := by omega
              have HF := Lib.hid (HO.out c1 c2 c3 c4)
              go_wp2
              go_ret
              exact ⟨_, rfl, fun _ => HF.out, HB.out⟩
            · have d4 : ¬ (c : Int) ≤ 40 := by omega
              go_wp2
              go_ret
              exact ⟨false, by first | rfl | simp, nope, HB.out⟩
          · have d3 : ¬ (a : Int) ≤ 40 := by omega
            go_wp2
            go_ret
            exact ⟨false, by first | rfl | simp [c3], nope, HB.out⟩
        · have d2 : ¬ (t : Int) ≤ 20 := by omega
          go_wp2
          go_ret
          exact ⟨false, by first | rfl | simp [c2], nope, HB.out⟩
      · have d1 : ¬ (k : Int) ≤ 20 := by omega
        go_wp2
        go_ret
        exact ⟨false, by first | rfl | simp [c1], nope, HB.out⟩

end Go.Proofs.Ytgimcleeamlgcaa.Pm
