/- The document's Zone: the first zone of that name. · The landed Zone and Rate. · The landed rules: whether all of some asks say yes. -/
import Derived.Lib.SliceRun
import Derived.Test.YtfcmhgneijipgaaGreatPk1
import Derived.Test.YtfcmhgneijipgaaGreatPk21
import Derived.Test.YtfcmhgneijipgaaGreatPk7

section
set_option maxRecDepth 100000
set_option linter.unusedVariables false
namespace Go.Proofs.YtfcmhgneijipgaaGreat.Ru
open Go.ChangeShapes Go.WideShapes Go.ChangeAt Go.RowKit
open Ap (CtR Zon Txs kZon row_Zon)
open Kd (Row Lst Sl)
theorem two_zone {f : Func} {p u : Tmp} {T : TypeId} (hf : f.results = #[.cell p T, .tmp u]) (tmps : Array Value) (w : World) (g : Nat) (vs : Array Value) (v : Value) (hT : T = 41) (h : Qu.Blk w g 41 vs) (hz : vs.size = 4) (hp : tmps.getD p undef = .pointer (some ⟨g, 0, none⟩)) (hv : tmps.getD u undef = v) : (results f tmps).run Tryz.prog w = .ok (.tuple #[.agg vs, v]) w := by
  subst hT
  have hl := run_loadVar_row (P := Tryz.prog) w g 41 41 vs (0, 0) _ h.here Tryz.underlying41 rfl (by rw [hz]; kernel_rfl)
  rw [results_cell_tmp hf, hp, hv]
  simp only [asAddr, Sem.run_pure, Result.andThen_ok, hl]
def cellsZ (z : Zon) (l : Zon.Lay) : Array Value := #[.string z.name, .slice l.rates.A l.rates.n l.rates.c, .int .i64 z.rest, .int .i64 z.ship]
def ToldZ (w w' : World) (e : Ending) (o : Option Zon) : Prop :=
  Below w.heap.size w w' ∧ match o with
  | some z => ∃ l : Zon.Lay, Zon.Holds w (· < w.heap.size) z l ∧ e = .returned (.tuple #[.agg (cellsZ z l), .bool true])
  | none => e = .returned (.tuple #[.agg #[.string ⟨#[]⟩, .slice none 0 0, .int .i64 0, .int .i64 0], .bool false])
set_option maxHeartbeats 4000000 in
theorem rzone_any (t : Txs) (l : Txs.Lay) (s : ByteArray) (w : World) (h : Txs.Holds w (· < w.heap.size) t l) (hn : l.zones.n ≤ 1000000000000) :
    Calls Tryz.prog 22 #[.agg #[.bool t.incl, .bool t.byOrder, .int .i64 t.round, .slice l.zones.A l.zones.n l.zones.c], .string s] w fun e w' => ToldZ w w' e (zoneOf t.zones s) := by
  obtain ⟨W1, hW1⟩ : ∃ W1, w.alloc (.cells #[.bool t.incl, .bool t.byOrder, .int .i64 t.round, .slice l.zones.A l.zones.n l.zones.c] 26) = W1 := ⟨_, rfl⟩
  have hb1 : Below w.heap.size w W1 := by rw [← hW1]; exact (Below.refl _ _).alloc (Nat.le_refl _) _
  have hs1 : W1.heap.size = w.heap.size + 1 := by rw [← hW1]; simp
  have hbox : Qu.Blk W1 w.heap.size 26 #[.bool t.incl, .bool t.byOrder, .int .i64 t.round, .slice l.zones.A l.zones.n l.zones.c] := by rw [← hW1]; exact Qu.Blk.new w _ _
  obtain ⟨W2, hW2⟩ : ∃ W2, W1.alloc (.cells #[.string ⟨#[]⟩, .slice none 0 0, .int .i64 0, .int .i64 0] 41) = W2 := ⟨_, rfl⟩
  have hb2 : Below W1.heap.size W1 W2 := by rw [← hW2]; exact (Below.refl _ _).alloc (Nat.le_refl _) _
  have hs2 : W2.heap.size = w.heap.size + 2 := by rw [← hW2]; simp [hs1]
  have hbz : Qu.Blk W2 (w.heap.size + 1) 41 #[.string ⟨#[]⟩, .slice none 0 0, .int .i64 0, .int .i64 0] := by rw [← hW2, ← hs1]; exact Qu.Blk.new W1 _ _
  have hB : Below w.heap.size w W2 := hb1.trans (hb2.mono (by omega))
  have xf := hbz.frozen
  have z0 := hbz.cell 0
  have z1 := hbz.cell 1
  have z2 := hbz.cell 2
  have z3 := hbz.cell 3
  have x3 := (hbox.below hb2).cell 3
  have H0 := Lib.hid h.zones.row
  have HLn := Lib.hid h.zones.row.len
  have HB2 := Lib.hid (And.intro hB hbz)
  clear h hb1 hb2 hbox hbz hB
  generalize hl : l.zones = sl at *
  obtain ⟨A, n, c⟩ := sl
  go_enter Tryz.func22, Tryz.ntmps22
  go_wp2
  clear hW1 hW2
  clear hs1
  go_loopw [6] (fun s6 wr => ∃ k : Nat, s6 = .int .i64 k ∧ k ≤ n ∧ wr = W2 ∧ Hid (∀ (i : Nat) (x : Zon), i < k → t.zones[i]? = some x → Sr.same x.name s = false)) (fun s6 _ => n - (intOf s6).toNat)
  case atStart => exact ⟨0, rfl, by omega, by trivial, Lib.hid fun i x hi => by omega⟩
  case round =>
    obtain ⟨k, rfl, hk, rfl, hE⟩ := hrel
    have k0 : (0 : Int) ≤ (k : Int) := by omega
    by_cases hlt : k < n
    · have k1 : (k : Int) < (n : Int) := by omega
      obtain ⟨x, hx⟩ := H0.out.get hlt
      obtain ⟨g, o, lx, hA, _, hgl, hok, b0, b1, b2, b3⟩ := row_Zon H0.out hx
      subst hA
      have a0 := (HB2.out.1.cell (p := ⟨g, _, none⟩) hgl).trans b0
      have a1 := (HB2.out.1.cell (p := ⟨g, _, none⟩) hgl).trans b1
      have a2 := (HB2.out.1.cell (p := ⟨g, _, none⟩) hgl).trans b2
      have a3 := (HB2.out.1.cell (p := ⟨g, _, none⟩) hgl).trans b3
      have HX := Lib.hid hx
      have HO := Lib.hid hok
      have hs : (x.name.toList == s.toList) = Sr.same x.name s := rfl
      clear hx hok b0 b1 b2 b3
      cases hB : Sr.same x.name s with
      | true =>
        have HF : Hid (zoneOf t.zones s = some x) := Lib.hid (by unfold zoneOf; rw [find_at HX.out hB hE.out])
        rw [hB] at hs
        clear hB
        have hq : (w.heap.size : Nat) ≤ w.heap.size + 1 := by omega
        have HE5 : Hid (Below w.heap.size w ((((wr.setCell ⟨w.heap.size + 1, 0, none⟩ (.string x.name)).setCell ⟨w.heap.size + 1, 1, none⟩ (.slice lx.rates.A lx.rates.n lx.rates.c)).setCell ⟨w.heap.size + 1, 2, none⟩ (.int .i64 x.rest)).setCell ⟨w.heap.size + 1, 3, none⟩ (.int .i64 x.ship)) ∧ Qu.Blk ((((wr.setCell ⟨w.heap.size + 1, 0, none⟩ (.string x.name)).setCell ⟨w.heap.size + 1, 1, none⟩ (.slice lx.rates.A lx.rates.n lx.rates.c)).setCell ⟨w.heap.size + 1, 2, none⟩ (.int .i64 x.rest)).setCell ⟨w.heap.size + 1, 3, none⟩ (.int .i64 x.ship)) (w.heap.size + 1) 41 (cellsZ x lx)) :=
          Lib.hid ⟨(((HB2.out.1.setCell hq _).setCell hq _).setCell hq _).setCell hq _, (((HB2.out.2.put 0 (.string x.name)).put 1 (.slice lx.rates.A lx.rates.n lx.rates.c)).put 2 (.int .i64 x.rest)).put 3 (.int .i64 x.ship)⟩
        clear hq
        go_wp2
        all_goals
          refine bodyPost_ret (two_zone rfl _ _ (w.heap.size + 1) (cellsZ x lx) _ rfl HE5.out.2 rfl rfl rfl) rfl ?_
          unfold ToldZ
          rw [HF.out]
          exact ⟨HE5.out.1, lx, HO.out, rfl⟩
      | false =>
        have HE2 : Hid (∀ (i : Nat) (y : Zon), i < k + 1 → t.zones[i]? = some y → Sr.same y.name s = false) := Lib.hid fun i y hi hy => by
          rcases Nat.lt_or_ge i k with h1 | h1
          · exact hE.out i y h1 hy
          · obtain rfl : i = k := by omega
            rw [HX.out] at hy; injection hy with hy; subst hy; exact hB
        rw [hB] at hs
        clear hB
        go_wp2
        go_roundw
        case rel => exact ⟨k + 1, by go_num, by omega, by trivial, HE2⟩
        case measure => simp [intOf]; omega
    · obtain rfl : k = n := by omega
      have k1 : ¬ (k : Int) < (k : Int) := by omega
      have HF : Hid (zoneOf t.zones s = none) := Lib.hid (by
        unfold zoneOf
        rw [find_none fun i y hy => hE.out i y (by have := (List.getElem?_eq_some_iff.1 hy).1; have h2 := HLn.out; omega) hy])
      have hq : (w.heap.size : Nat) ≤ w.heap.size + 1 := by omega
      have HE5 : Hid (Below w.heap.size w ((((wr.setCell ⟨w.heap.size + 1, 0, none⟩ (.string ⟨#[]⟩)).setCell ⟨w.heap.size + 1, 1, none⟩ (.slice none 0 0)).setCell ⟨w.heap.size + 1, 2, none⟩ (.int .i64 0)).setCell ⟨w.heap.size + 1, 3, none⟩ (.int .i64 0)) ∧ Qu.Blk ((((wr.setCell ⟨w.heap.size + 1, 0, none⟩ (.string ⟨#[]⟩)).setCell ⟨w.heap.size + 1, 1, none⟩ (.slice none 0 0)).setCell ⟨w.heap.size + 1, 2, none⟩ (.int .i64 0)).setCell ⟨w.heap.size + 1, 3, none⟩ (.int .i64 0)) (w.heap.size + 1) 41 (cellsZ ⟨⟨#[]⟩, [], 0, 0⟩ ⟨⟨none, 0, 0⟩⟩)) :=
        Lib.hid ⟨(((HB2.out.1.setCell hq _).setCell hq _).setCell hq _).setCell hq _, (((HB2.out.2.put 0 (.string ⟨#[]⟩)).put 1 (.slice none 0 0)).put 2 (.int .i64 0)).put 3 (.int .i64 0)⟩
      clear hq
      go_wp2
      all_goals
        refine bodyPost_ret (two_zone rfl _ _ (w.heap.size + 1) (cellsZ ⟨⟨#[]⟩, [], 0, 0⟩ ⟨⟨none, 0, 0⟩⟩) _ rfl HE5.out.2 rfl rfl rfl) rfl ?_
        unfold ToldZ
        rw [HF.out]
        exact ⟨HE5.out.1, rfl⟩
end Go.Proofs.YtfcmhgneijipgaaGreat.Ru

end

section
set_option maxRecDepth 100000
set_option linter.unusedVariables false
namespace Go.Proofs.YtfcmhgneijipgaaGreat.Ru
open Go.ChangeShapes Go.WideShapes Go.ChangeAt Go.RowKit
open Ap (CtR Zon Txs kCtR kZon row_CtR row_Zon)
open Kd (Row Own Lst Sl Fit Agree kInt row_int)
theorem blk_far {w : World} {g q i t : Nat} {cs : Array Value} {u : Value} (h : Qu.Blk w g t cs) (hne : g ≠ q) : Qu.Blk (w.setCell ⟨q, i, none⟩ u) g t cs := h.as (Below.heap_setCell w ⟨q, i, none⟩ u g hne)
set_option maxHeartbeats 1000000 in
theorem cloneR_any (A : Option Addr) (n c : Nat) (xs : List CtR) (w : World) (h : Row kCtR w (· < w.heap.size) A n xs) (hf : Fit A n c) (hn : n ≤ 1000000000000) :
    Calls Tryz.prog 62 #[.slice A n c] w fun e w' => ∃ A' c', e = .returned (.slice A' n c') ∧ Own kCtR w' w.heap.size 53 (fun _ => False) (.slice A' n c') n xs ∧ Below w.heap.size w w' := by
  cases A with
  | none =>
    obtain ⟨rfl, rfl⟩ := hf.1 rfl
    have hl : xs = [] := List.eq_nil_of_length_eq_zero h.len
    subst hl
    have hnil := fun W => Lib.run_eql_slice_nil (P := Tryz.prog) W 39 53 none 0 0 0 0 Tryz.underlying39
    clear h hf
    go_enter Tryz.func62, Tryz.ntmps62
    go_wp2
    go_ret
    exact ⟨none, 0, rfl, Own.nil _ _ _ _ _, Below.refl _ _⟩
  | some a =>
    have hl := h.len
    subst hl
    have hnil := fun W => Lib.run_eql_slice_nil (P := Tryz.prog) W 39 53 (some a) xs.length c 0 0 Tryz.underlying39
    have HOW : Hid (Own kCtR (w.alloc (.cells #[] 53)) w.heap.size 53 (fun _ => False) (.slice (some ⟨w.heap.size, 0, none⟩) 0 0) 0 []) := Lib.hid ⟨rfl, [], World.ownsRow_made (base := w.heap.size) (e := 53) (size := 2) w #[] 0 (Nat.le_refl _) (by unfold maxLen; omega) rfl, rfl⟩
    have HR := Lib.hid (h.below (w' := w.alloc (.cells #[] 53)) (B := w.heap.size) ((Below.refl _ _).alloc (Nat.le_refl _) _) (Nat.le_refl _))
    have hlen : xs.length ≤ 1000000000000 := hn
    have HLn := Lib.hid hlen
    clear h hf
    go_enter Tryz.func62, Tryz.ntmps62
    go_wp2_with ((at_builtin; refine Kd.wpList_join (F := fun _ => False) (G := (· < w.heap.size)) (B := w.heap.size) (n := 0) (m := xs.length) (c := c) (v := .slice (some ⟨w.heap.size, 0, none⟩) 0 0) (xs := []) (ys := xs) (A := some a) Ap.CtR.row_t rfl _ _ rfl rfl rfl HOW.out HR.out (fun h => by cases h) (fun h => Ap.CtR_rep.2 (Ap.CtR_rep.1 h)) (by have := HLn.out; omega) (by have := HLn.out; omega) (by simp) (fun _ h => h.elim) ?_; intro v' w' hown hgrow hfr))
    rw [Nat.zero_add, List.nil_append] at hown
    obtain ⟨A', c', rfl⟩ := hown.value
    have HF : Hid (Own kCtR w' w.heap.size 53 (fun _ => False) (.slice A' xs.length c') xs.length xs ∧ Below w.heap.size w w') := Lib.hid
      ⟨hown, ((Below.refl _ _).alloc (Nat.le_refl _) _).grown hgrow (by simp) (fun k hk => by rw [Mv.ownBlock_some] at hk; injection hk with hk; omega)⟩
    clear hown hgrow hfr
    go_wp2
    go_ret
    exact ⟨A', c', rfl, HF.out.1, HF.out.2⟩
def ToldY (w w' : World) (e : Ending) (o : Option Zon) : Prop :=
  Below w.heap.size w w' ∧ match o with
  | some z => ∃ l : Zon.Lay, Zon.Holds w' (· < w'.heap.size) z l ∧ e = .returned (.tuple #[.agg (cellsZ z l), .bool true])
  | none => e = .returned (.tuple #[.agg #[.string ⟨#[]⟩, .slice none 0 0, .int .i64 0, .int .i64 0], .bool false])
set_option maxHeartbeats 4000000 in
theorem zone_any (t : Txs) (l : Txs.Lay) (s : ByteArray) (w : World) (h : Txs.Holds w (· < w.heap.size) t l) (hS : ZonesSmall t.zones) (hn : l.zones.n ≤ 1000000000000) :
    Calls Tryz.prog 21 #[.agg #[.bool t.incl, .bool t.byOrder, .int .i64 t.round, .slice l.zones.A l.zones.n l.zones.c], .string s] w fun e w' => ToldY w w' e (zoneOf t.zones s) := by
  obtain ⟨W1, hW1⟩ : ∃ W1, w.alloc (.cells #[.bool t.incl, .bool t.byOrder, .int .i64 t.round, .slice l.zones.A l.zones.n l.zones.c] 26) = W1 := ⟨_, rfl⟩
  have hb1 : Below w.heap.size w W1 := by rw [← hW1]; exact (Below.refl _ _).alloc (Nat.le_refl _) _
  have hs1 : W1.heap.size = w.heap.size + 1 := by rw [← hW1]; simp
  have hbox : Qu.Blk W1 w.heap.size 26 #[.bool t.incl, .bool t.byOrder, .int .i64 t.round, .slice l.zones.A l.zones.n l.zones.c] := by rw [← hW1]; exact Qu.Blk.new w _ _
  obtain ⟨W2, hW2⟩ : ∃ W2, W1.alloc (.cells #[.string ⟨#[]⟩, .slice none 0 0, .int .i64 0, .int .i64 0] 41) = W2 := ⟨_, rfl⟩
  have hb2 : Below W1.heap.size W1 W2 := by rw [← hW2]; exact (Below.refl _ _).alloc (Nat.le_refl _) _
  have hs2 : W2.heap.size = w.heap.size + 2 := by rw [← hW2]; simp [hs1]
  have hbz : Qu.Blk W2 (w.heap.size + 1) 41 #[.string ⟨#[]⟩, .slice none 0 0, .int .i64 0, .int .i64 0] := by rw [← hW2, ← hs1]; exact Qu.Blk.new W1 _ _
  have hB : Below w.heap.size w W2 := hb1.trans (hb2.mono (by omega))
  have x3 := (hbox.below hb2).cell 3
  have H0 := Lib.hid h.zones.row
  have HSm := Lib.hid hS
  have HLn := Lib.hid h.zones.row.len
  have HB2 := Lib.hid (And.intro hB hbz)
  have HS2 := Lib.hid hs2
  clear h hb1 hb2 hbox hbz hB hS
  generalize hl : l.zones = sl at *
  obtain ⟨A, n, c⟩ := sl
  go_enter Tryz.func21, Tryz.ntmps21
  go_wp2
  clear hW1 hW2 x3
  clear hs1 hs2
  go_loopw [11] (fun s6 wr => ∃ k : Nat, s6 = .int .i64 k ∧ k ≤ n ∧ Hid (Below W2.heap.size W2 wr) ∧ Hid (∀ (i : Nat) (x : Zon), i < k → t.zones[i]? = some x → Sr.same x.name s = false)) (fun s6 _ => n - (intOf s6).toNat)
  case atStart => exact ⟨0, rfl, by omega, Lib.hid (Below.refl _ _), Lib.hid fun i x hi => by omega⟩
  case round =>
    obtain ⟨k, rfl, hk, HW, hE⟩ := hrel
    have k0 : (0 : Int) ≤ (k : Int) := by omega
    have HBw := Lib.hid (HB2.out.1.trans (HW.out.mono (by have := HS2.out; omega)))
    have HRz := Lib.hid (HB2.out.2.below HW.out)
    have HSr : Hid (w.heap.size + 2 ≤ wr.heap.size) := Lib.hid (by have := HS2.out; have := HW.out.size; omega)
    by_cases hlt : k < n
    · have k1 : (k : Int) < (n : Int) := by omega
      obtain ⟨x, hx⟩ := H0.out.get hlt
      obtain ⟨g, o, lx, hA, _, hgl, hok, b0, b1, b2, b3⟩ := row_Zon H0.out hx
      subst hA
      have a0 := (HBw.out.cell (p := ⟨g, _, none⟩) hgl).trans b0
      have a1 := (HBw.out.cell (p := ⟨g, _, none⟩) hgl).trans b1
      have a2 := (HBw.out.cell (p := ⟨g, _, none⟩) hgl).trans b2
      have a3 := (HBw.out.cell (p := ⟨g, _, none⟩) hgl).trans b3
      obtain ⟨W3, hW3⟩ : ∃ W3, wr.alloc (.cells #[.string x.name, .slice lx.rates.A lx.rates.n lx.rates.c, .int .i64 x.rest, .int .i64 x.ship] 41) = W3 := ⟨_, rfl⟩
      have hb3 : Below wr.heap.size wr W3 := by rw [← hW3]; exact (Below.refl _ _).alloc (Nat.le_refl _) _
      have hbx : Qu.Blk W3 wr.heap.size 41 #[.string x.name, .slice lx.rates.A lx.rates.n lx.rates.c, .int .i64 x.rest, .int .i64 x.ship] := by rw [← hW3]; exact Qu.Blk.new wr _ _
      have y0 := hbx.cell 0
      have y1 := hbx.cell 1
      have HX := Lib.hid hx
      have HO := Lib.hid hok
      have HB3 := Lib.hid (And.intro hb3 hbx)
      have hs : (x.name.toList == s.toList) = Sr.same x.name s := rfl
      clear hx hok b0 b1 b2 b3 hb3 hbx hgl
      cases hB : Sr.same x.name s with
      | true =>
        have HF : Hid (zoneOf t.zones s = some x) := Lib.hid (by unfold zoneOf; rw [find_at HX.out hB hE.out])
        rw [hB] at hs
        clear hB
        have HC := Lib.hid (cloneR_any lx.rates.A lx.rates.n lx.rates.c x.rates W3 ((HO.out.rates.row.below (HBw.out.trans (HB3.out.1.mono HBw.out.size)) (Nat.le_refl _)).more fun b hb => Nat.lt_of_lt_of_le hb (Nat.le_trans HBw.out.size HB3.out.1.size)) HO.out.rates.fit (by have := HSm.out k x HX.out; have h2 := HO.out.rates.row.len; omega))
        go_wp2_with fail
        refine HC.out.mono ?_
        rintro e w5 ⟨A', c', rfl, hO, hb5⟩
        have hzb := HB3.out.2.below hb5
        have hrb := (HRz.out.below HB3.out.1).below hb5
        have y0 := hzb.cell 0
        have y1 := hzb.cell 1
        have y2 := hzb.cell 2
        have y3 := hzb.cell 3
        have yf := hzb.frozen
        have q0 := hrb.cell 0
        have q1 := hrb.cell 1
        have q2 := hrb.cell 2
        have q3 := hrb.cell 3
        have qf := hrb.frozen
        have hne : w.heap.size + 1 ≠ wr.heap.size := by have := HSr.out; omega
        have hq : (w.heap.size : Nat) ≤ w.heap.size + 1 := by omega
        have hq2 : (w.heap.size : Nat) ≤ wr.heap.size := by have := HSr.out; omega
        have hw5 : Below w.heap.size w w5 := HBw.out.trans ((HB3.out.1.trans (hb5.mono HB3.out.1.size)).mono HBw.out.size)
        obtain ⟨W6, hW6⟩ : ∃ W6, ((((w5.setCell ⟨wr.heap.size, 1, none⟩ (.slice A' lx.rates.n c')).setCell ⟨w.heap.size + 1, 0, none⟩ (.string x.name)).setCell ⟨w.heap.size + 1, 1, none⟩ (.slice A' lx.rates.n c')).setCell ⟨w.heap.size + 1, 2, none⟩ (.int .i64 x.rest)).setCell ⟨w.heap.size + 1, 3, none⟩ (.int .i64 x.ship) = W6 := ⟨_, rfl⟩
        have HE5 : Hid (Below w.heap.size w W6 ∧ Qu.Blk W6 (w.heap.size + 1) 41 (cellsZ x ⟨⟨A', lx.rates.n, c'⟩⟩) ∧ Zon.Holds W6 (· < W6.heap.size) x ⟨⟨A', lx.rates.n, c'⟩⟩) := Lib.hid (by
          rw [← hW6]
          refine ⟨Kd.below_set hq (Kd.below_set hq (Kd.below_set hq (Kd.below_set hq (Kd.below_set hq2 hw5)))), ((((blk_far hrb hne).put 0 (.string x.name)).put 1 (.slice A' lx.rates.n c')).put 2 (.int .i64 x.rest)).put 3 (.int .i64 x.ship), HO.out.name, ⟨?_, hO.fit⟩, HO.out.rest, HO.out.ship⟩
          refine (((hO.more (G := fun b => (Value.slice A' lx.rates.n c').ownBlock = some b) (fun _ h => h.elim)).row (fun b hb => hb)).stay (w' := _) (fun b hb => ?_)).more (fun b hb => ?_)
          · have h1 := (hO.low b hb).1
            have h2 := HSr.out
            have h3 := HB3.out.2.lt
            rw [Below.heap_setCell _ _ _ _ (by simp; omega), Below.heap_setCell _ _ _ _ (by simp; omega), Below.heap_setCell _ _ _ _ (by simp; omega), Below.heap_setCell _ _ _ _ (by simp; omega), Below.heap_setCell _ _ _ _ (by simp; omega)]
          · have h1 := (hO.low b hb).2
            simpa using h1)
        have HW6 := Lib.hid hW6
        clear hzb hrb hw5 hO hb5 hW6 hW3 hs
        go_wp2
        all_goals
          rw [HW6.out]
          refine bodyPost_ret (two_zone rfl _ _ (w.heap.size + 1) (cellsZ x ⟨⟨A', lx.rates.n, c'⟩⟩) _ rfl HE5.out.2.1 rfl rfl rfl) rfl ?_
          unfold ToldY
          rw [HF.out]
          exact ⟨HE5.out.1, _, HE5.out.2.2, rfl⟩
      | false =>
        have HE2 : Hid (∀ (i : Nat) (y : Zon), i < k + 1 → t.zones[i]? = some y → Sr.same y.name s = false) := Lib.hid fun i y hi hy => by
          rcases Nat.lt_or_ge i k with h1 | h1
          · exact hE.out i y h1 hy
          · obtain rfl : i = k := by omega
            rw [HX.out] at hy; injection hy with hy; subst hy; exact hB
        rw [hB] at hs
        have HW3 := Lib.hid (HW.out.trans (HB3.out.1.mono HW.out.size))
        clear hB
        go_wp2
        go_roundw
        case rel => exact ⟨k + 1, by go_num, by omega, HW3, HE2⟩
        case measure => simp [intOf]; omega
    · obtain rfl : k = n := by omega
      have k1 : ¬ (k : Int) < (k : Int) := by omega
      have HF : Hid (zoneOf t.zones s = none) := Lib.hid (by
        unfold zoneOf
        rw [find_none fun i y hy => hE.out i y (by have := (List.getElem?_eq_some_iff.1 hy).1; have h2 := HLn.out; omega) hy])
      have hq : (w.heap.size : Nat) ≤ w.heap.size + 1 := by omega
      have HE5 : Hid (Below w.heap.size w ((((wr.setCell ⟨w.heap.size + 1, 0, none⟩ (.string ⟨#[]⟩)).setCell ⟨w.heap.size + 1, 1, none⟩ (.slice none 0 0)).setCell ⟨w.heap.size + 1, 2, none⟩ (.int .i64 0)).setCell ⟨w.heap.size + 1, 3, none⟩ (.int .i64 0)) ∧ Qu.Blk ((((wr.setCell ⟨w.heap.size + 1, 0, none⟩ (.string ⟨#[]⟩)).setCell ⟨w.heap.size + 1, 1, none⟩ (.slice none 0 0)).setCell ⟨w.heap.size + 1, 2, none⟩ (.int .i64 0)).setCell ⟨w.heap.size + 1, 3, none⟩ (.int .i64 0)) (w.heap.size + 1) 41 (cellsZ ⟨⟨#[]⟩, [], 0, 0⟩ ⟨⟨none, 0, 0⟩⟩)) :=
        Lib.hid ⟨(((HBw.out.setCell hq _).setCell hq _).setCell hq _).setCell hq _, (((HRz.out.put 0 (.string ⟨#[]⟩)).put 1 (.slice none 0 0)).put 2 (.int .i64 0)).put 3 (.int .i64 0)⟩
      have z0 := HRz.out.cell 0
      have z1 := HRz.out.cell 1
      have z2 := HRz.out.cell 2
      have z3 := HRz.out.cell 3
      have zf := HRz.out.frozen
      clear hq
      go_wp2
      all_goals
        refine bodyPost_ret (two_zone rfl _ _ (w.heap.size + 1) (cellsZ ⟨⟨#[]⟩, [], 0, 0⟩ ⟨⟨none, 0, 0⟩⟩) _ rfl HE5.out.2 rfl rfl rfl) rfl ?_
        unfold ToldY
        rw [HF.out]
        exact ⟨HE5.out.1, rfl⟩
set_option maxHeartbeats 2000000 in
theorem rate_any (z : Zon) (l : Zon.Lay) (s : ByteArray) (w : World) (h : Zon.Holds w (· < w.heap.size) z l) (hn : l.rates.n ≤ 1000000000000) :
    Calls Tryz.prog 24 #[.agg #[.string z.name, .slice l.rates.A l.rates.n l.rates.c, .int .i64 z.rest, .int .i64 z.ship], .string s] w fun e w' => e = .returned (.int .i64 (rateOf z.rates s z.rest)) ∧ Below w.heap.size w w' := by
  obtain ⟨W1, hW1⟩ : ∃ W1, w.alloc (.cells #[.string z.name, .slice l.rates.A l.rates.n l.rates.c, .int .i64 z.rest, .int .i64 z.ship] 41) = W1 := ⟨_, rfl⟩
  have hb1 : Below w.heap.size w W1 := by rw [← hW1]; exact (Below.refl _ _).alloc (Nat.le_refl _) _
  have hbox : Qu.Blk W1 w.heap.size 41 #[.string z.name, .slice l.rates.A l.rates.n l.rates.c, .int .i64 z.rest, .int .i64 z.ship] := by rw [← hW1]; exact Qu.Blk.new w _ _
  have HH := Lib.hid (h.rates.row.below hb1 (Nat.le_refl _))
  have HB1 := Lib.hid hb1
  have HB0 := Lib.hid hb1
  have HBx := Lib.hid hbox
  have x1 := hbox.cell 1
  have x2 := hbox.cell 2
  have HLn := Lib.hid h.rates.row.len
  clear h hb1 hbox
  generalize hl : l.rates = sl at *
  obtain ⟨A, n, c⟩ := sl
  go_enter Tryz.func24, Tryz.ntmps24
  go_wp2
  clear hW1 x1 x2
  go_loopw [10] (fun s5 wr => ∃ k : Nat, s5 = .int .i64 k ∧ k ≤ n ∧ Hid (Below W1.heap.size W1 wr) ∧ Hid (∀ (i : Nat) (x : CtR), i < k → z.rates[i]? = some x → Sr.same x.cat s = false)) (fun s5 _ => n - (intOf s5).toNat)
  case atStart => exact ⟨0, rfl, by omega, Lib.hid (Below.refl _ _), Lib.hid fun i x hi => by omega⟩
  case round =>
    obtain ⟨k, rfl, hk, HW, hE⟩ := hrel
    have x1 := (HBx.out.below HW.out).cell 1
    have x2 := (HBx.out.below HW.out).cell 2
    have HB1 := Lib.hid (HB1.out.trans (HW.out.mono HB1.out.size))
    have k0 : (0 : Int) ≤ (k : Int) := by omega
    by_cases hlt : k < n
    · have k1 : (k : Int) < (n : Int) := by omega
      obtain ⟨x, hx⟩ := HH.out.get hlt
      obtain ⟨g, o, hA, _, _, hok, a0, a1⟩ := row_CtR (HH.out.below HW.out HB0.out.size) hx
      subst hA
      have HX := Lib.hid hx
      have hs : (x.cat.toList == s.toList) = Sr.same x.cat s := rfl
      obtain ⟨W3, hW3⟩ : ∃ W3, wr.alloc (.cells #[.string x.cat, .int .i64 x.rate] 53) = W3 := ⟨_, rfl⟩
      have hb3 : Below wr.heap.size wr W3 := by rw [← hW3]; exact (Below.refl _ _).alloc (Nat.le_refl _) _
      have hbx : Qu.Blk W3 wr.heap.size 53 #[.string x.cat, .int .i64 x.rate] := by rw [← hW3]; exact Qu.Blk.new wr _ _
      have y0 := hbx.cell 0
      have y1 := hbx.cell 1
      have HB3 := Lib.hid (HB1.out.trans (hb3.mono HB1.out.size))
      have HW3 := Lib.hid (HW.out.trans (hb3.mono HW.out.size))
      clear hx hok hb3 hbx
      cases hB : Sr.same x.cat s with
      | true =>
        have HF : Hid (rateOf z.rates s z.rest = x.rate) := Lib.hid (by unfold rateOf; rw [find_at HX.out hB hE.out]; rfl)
        rw [hB] at hs
        clear hB
        go_wp2
        go_ret
        exact ⟨by rw [HF.out]; rfl, HB3.out⟩
      | false =>
        have HE2 : Hid (∀ (i : Nat) (y : CtR), i < k + 1 → z.rates[i]? = some y → Sr.same y.cat s = false) := Lib.hid fun i y hi hy => by
          rcases Nat.lt_or_ge i k with h1 | h1
          · exact hE.out i y h1 hy
          · obtain rfl : i = k := by omega
            rw [HX.out] at hy; injection hy with hy; subst hy; exact hB
        rw [hB] at hs
        clear hB
        go_wp2
        go_roundw
        case rel => exact ⟨k + 1, by go_num, by omega, HW3, HE2⟩
        case measure => simp [intOf]; omega
    · obtain rfl : k = n := by omega
      have k1 : ¬ (k : Int) < (k : Int) := by omega
      have HF : Hid (rateOf z.rates s z.rest = z.rest) := Lib.hid (by
        unfold rateOf
        rw [find_none fun i y hy => hE.out i y (by have := (List.getElem?_eq_some_iff.1 hy).1; have h2 := HLn.out; omega) hy]; rfl)
      go_wp2
      go_ret
      exact ⟨by rw [HF.out]; rfl, HB1.out⟩
end Go.Proofs.YtfcmhgneijipgaaGreat.Ru

end

section
set_option maxRecDepth 100000
set_option linter.unusedVariables false
namespace Go.Proofs.YtfcmhgneijipgaaGreat.Ru
open Go.ChangeShapes Go.WideShapes Go.ChangeAt Go.RowKit
theorem run_call {P : Program} {f : FuncId} {fn : Func} (hf : P.funcs[f]? = some fn) (hn : (fn.name == "runtime.NumGoroutine") = false) (hb : fn.body.isNone = false) (args : Array Value) (W : World) : (callFunc f args).run P W = .ok (.enter f args) W := by
  have h1 : ¬ fn.name = "runtime.NumGoroutine" := by simpa using hn
  have h2 : ¬ fn.body = none := by intro e; rw [e] at hb; cases hb
  unfold callFunc
  simp [hf, h1, h2]
def Asks (w : World) (fs : List Value) (bs : List Bool) : Prop :=
  ∀ (k : Nat) (f : Value) (b : Bool), fs[k]? = some f → bs[k]? = some b → ∃ (fn : Nat) (caps : Array Value), f = .func (.func fn) #[] caps ∧ (∀ W : World, (callFunc fn caps).run Tryz.prog W = .ok (.enter fn caps) W) ∧ ∀ W, Below w.heap.size w W → Calls Tryz.prog fn caps W fun e w' => e = .returned (.bool b) ∧ Below W.heap.size W w'
theorem Asks.nil (w : World) : Asks w [] [] := fun k f b h => by simp at h
theorem Asks.cons {w : World} {fn : Nat} {caps : Array Value} {b : Bool} {fs : List Value} {bs : List Bool} (r : ∀ W : World, (callFunc fn caps).run Tryz.prog W = .ok (.enter fn caps) W) (h : ∀ W, Below w.heap.size w W → Calls Tryz.prog fn caps W fun e w' => e = .returned (.bool b) ∧ Below W.heap.size W w') (k : Asks w fs bs) : Asks w (.func (.func fn) #[] caps :: fs) (b :: bs)
  | 0, f, c, h1, h2 => by
    simp only [List.getElem?_cons_zero, Option.some.injEq] at h1 h2
    subst h1 h2
    exact ⟨fn, caps, rfl, r, h⟩
  | i + 1, f, c, h1, h2 => by
    simp only [List.getElem?_cons_succ] at h1 h2
    exact k i f c h1 h2
set_option maxHeartbeats 2000000 in
theorem fields_any (fs : List Value) (bs : List Bool) (g n : Nat) (w : World) (hb : Qu.Blk w g 35 fs.toArray) (hn : fs.length = n) (hl : bs.length = n) (hn2 : n ≤ 100) (H : Asks w fs bs) :
    Calls Tryz.prog 56 #[.slice (some ⟨g, 0, none⟩) n n] w fun e w' => e = .returned (.bool (bs.all id)) ∧ Below w.heap.size w w' := by
  have HH := Lib.hid H
  have HL := Lib.hid (And.intro hn hl)
  have HBk := Lib.hid hb
  clear H hn hl hb
  go_enter Tryz.func56, Tryz.ntmps56
  go_wp2
  go_loopw [7] (fun s9 wr => ∃ k : Nat, s9 = .int .i64 k ∧ k ≤ n ∧ Hid (Below w.heap.size w wr ∧ (bs.take k).all id = true)) (fun s9 _ => n - (intOf s9).toNat)
  case atStart => exact ⟨0, rfl, by omega, Lib.hid ⟨Below.refl _ _, by simp⟩⟩
  case round =>
    obtain ⟨k, rfl, hk, HU⟩ := hrel
    have k0 : (0 : Int) ≤ (k : Int) := by omega
    by_cases hlt : k < n
    · have k1 : (k : Int) < (n : Int) := by omega
      obtain ⟨f, hf⟩ : ∃ f, fs[k]? = some f := ⟨_, List.getElem?_eq_getElem (by have := HL.out.1; omega)⟩
      obtain ⟨b, hbk⟩ : ∃ b, bs[k]? = some b := ⟨_, List.getElem?_eq_getElem (by have := HL.out.2; omega)⟩
      obtain ⟨fn, caps, rfl, hr, hc⟩ := HH.out k f b hf hbk
      have a0 : wr.cell? ⟨g, k, none⟩ = some (.func (.func fn) #[] caps) := by
        rw [(HBk.out.below HU.out.1).cell k, List.getElem?_toArray]; exact hf
      have HC := Lib.hid (hc wr HU.out.1)
      have hall : (bs.take (k + 1)).all id = b := by
        rw [List.take_add_one, hbk, List.all_append, HU.out.2]; simp
      have HA := Lib.hid (And.intro hbk hall)
      clear hf hbk hc hall
      go_wp2_with fail
      clear hr
      refine HC.out.mono ?_
      rintro e w1 ⟨rfl, hb1⟩
      have HB1 := Lib.hid (HU.out.1.trans (hb1.mono HU.out.1.size))
      clear hb1 a0
      cases b with
      | true =>
        have HU2 := Lib.hid (And.intro HB1.out HA.out.2)
        go_wp2
        go_roundw
        case rel => exact ⟨k + 1, by go_num, by omega, HU2⟩
        case measure => simp [intOf]; omega
      | false =>
        have HG : Hid (bs.all id = false) := Lib.hid (List.all_eq_false.2 ⟨false, List.mem_of_getElem? HA.out.1, by simp⟩)
        go_wp2
        go_ret
        exact ⟨by rw [HG.out]; rfl, HB1.out⟩
    · have k1 : ¬ (k : Int) < (n : Int) := by omega
      have HG : Hid (bs.all id = true) := Lib.hid (by have := HU.out.2; rw [List.take_of_length_le (by have := HL.out.2; omega)] at this; exact this)
      go_wp2
      go_ret
      exact ⟨by rw [HG.out]; rfl, HU.out.1⟩
end Go.Proofs.YtfcmhgneijipgaaGreat.Ru

end
