/- The landed Take. -/
import Derived.Test.YtbicdmhmpmdoeaaLfF
namespace Go.Proofs.Ytbicdmhmpmdoeaa.Lf
open Go.ChangeShapes Go.WideShapes Go.ChangeAt Go.RowKit
open Qu (Blk)
open By (Bys cellsB cellsB_length cellsB_at)
open Se (over over_length over_at noughts noughts_len)
open Dk (Sec secCells secCells_size secCells_at size_sector)
set_option linter.unusedVariables false

/-- What Take tells of 64 bytes. -/
def Took (w w' : World) (e : Ending) (s : List UInt8) : Prop :=
  if takesB s then ∃ A c, e = .returned (.tuple #[.agg #[.int .u32 ((readB s).epoch : Int), .int .u32 ((readB s).number : Int), .bool (readB s).first, .bool (readB s).last, .slice A (readB s).data.length c], .bool true]) ∧ w'.ownsRow w.heap.size 5 1 (.slice A (readB s).data.length c) (readB s).data.length (cellsB (readB s).data) ∧ Below w.heap.size w w'
  else e = .returned (.tuple #[.agg #[.int .u32 0, .int .u32 0, .bool false, .bool false, .slice none 0 0], .bool false]) ∧ Below w.heap.size w w'

theorem two_leaf {f : Func} {p u : Tmp} {T : TypeId} (hf : f.results = #[.cell p T, .tmp u]) (tmps : Array Value) (w : World) (g : Nat) (vs : Array Value) (v : Value) (hT : T = 25) (h : Blk w g 25 vs) (hz : vs.size = 5) (hp : tmps.getD p undef = .pointer (some ⟨g, 0, none⟩)) (hv : tmps.getD u undef = v) : (results f tmps).run Try.prog w = .ok (.tuple #[.agg vs, v]) w := by
  subst hT
  have hl := run_loadVar_row (P := Try.prog) w g 25 25 vs (0, 0) _ h.here Try.underlying25 rfl (by rw [size_leaf, hz])
  rw [results_cell_tmp hf, hp, hv]
  simp only [asAddr, Sem.run_pure, Result.andThen_ok, hl]

/-- A leaf is read out of its box. -/
theorem load_leaf {ops : Array Oper} {rest : List Oper} {op : Oper} {a : Act} {w : World} {Q : Exit → Act → World → Prop} (free : op.guard = none) (x : Operand) (is : op.op = .load 25 x) (g : Nat) (vx : a.eval x = .pointer (some ⟨g, 0, none⟩)) (vs : Array Value) (h : Blk w g 25 vs) (hz : vs.size = 5)
    (go : wpList Try.prog ops Q rest (a.put op.dst (.agg vs)) w) : wpList Try.prog ops Q (op :: rest) a w := by
  refine wpList_plain free fun K hK => ?_
  have hl := run_loadVar_row (P := Try.prog) w g 25 25 vs (0, 0) _ h.here Try.underlying25 rfl (by rw [size_leaf, hz])
  unfold Oper.wp execOp
  simp only [is, vx, Instr.loadAt, Instr.sureAddr, hl, Sem.run_bind, Sem.run_pure, Result.andThen_ok]
  exact hK _ _ go

/-- A leaf of noughts. -/
def ZeroC : Array Value := #[.int .u32 0, .int .u32 0, .bool false, .bool false, .slice none 0 0]

theorem build_leaf (W : World) : (Instr.build 25 #[]).run Try.prog W = .ok (.agg ZeroC) W := by kernel_rfl

theorem ZeroC_one : ZeroC.all (·.oneCell') = true := by simp [ZeroC, Value.oneCell']

theorem zero_leaf {ops : Array Oper} {rest : List Oper} {op : Oper} {a : Act} {w : World} {Q : Exit → Act → World → Prop} (free : op.guard = none) (is : op.op = .build 25 #[])
    (go : wpList Try.prog ops Q rest (a.put op.dst (.agg ZeroC)) w) : wpList Try.prog ops Q (op :: rest) a w := by
  refine wpList_plain free fun K hK => ?_
  unfold Oper.wp execOp
  simp only [is, build_leaf, Sem.run_bind, Sem.run_pure, Result.andThen_ok, Array.map_empty]
  exact hK _ _ go

set_option maxHeartbeats 4000000 in
theorem take_any (w : World) (s : List UInt8) (hs : s.length = 64) :
    Calls Try.prog 16 #[.agg (secCells s)] w fun e w' => Took w w' e s := by
  obtain ⟨L, hL⟩ : ∃ L, readB s = L := ⟨_, rfl⟩
  have he : L.epoch < 2 ^ 32 := by rw [← hL]; exact read_epoch s hs
  have hn : L.number < 2 ^ 32 := by rw [← hL]; exact read_number s hs
  have HL := Lib.hid hL
  have HE := Lib.hid (And.intro he hn)
  have hsl := layV_len L
  have HT : Hid (takesB s = (rightB L && (layB L == s))) := Lib.hid (by unfold takesB; rw [hL])
  clear he hn hL
  go_enter Try.func16, Try.ntmps16
  go_wp2_with (first
    | (refine Dk.box_sec rfl _ rfl _ rfl hs ?_; intro w0 hS0 hB0 hZ0)
    | (refine new_leaf (w := w0) rfl rfl ?_; intro w1 hS1 hB1 hZ1)
    | ((with_reducible refine Dk.load_sec (w := w1) (op := ⟨some 7, _, _, _, _, _⟩) ?_ (.tmp 1) ?_ _ ?_ _ (Sec.below hS0 hB1) ?_); (next => rfl); (next => rfl); (next => rfl)))
  have H1 := Lib.hid (show Sec w1 w.heap.size s ∧ Leaf5 w1 (w.heap.size + 1) ∧ Below w.heap.size w w1 ∧ w.heap.size + 1 < w1.heap.size from ⟨Sec.below hS0 hB1, by rw [← hZ0]; exact hS1, hB0.trans (hB1.mono hB0.size), by omega⟩)
  clear hS0 hB0 hZ0 hS1 hB1 hZ1
  refine (read_any w1 s hs).mono ?_
  rintro e w2 ⟨A, c, rfl, hY, k2⟩
  rw [HL.out] at hY ⊢
  have H2 := Lib.hid (show Sec w2 w.heap.size s ∧ Leaf5 w2 (w.heap.size + 1) ∧ Below w.heap.size w w2 ∧ w.heap.size + 1 < w2.heap.size from ⟨Sec.below H1.out.1 k2, H1.out.2.1.below k2, H1.out.2.2.1.trans (k2.mono H1.out.2.2.1.size), by have := k2.size; have := H1.out.2.2.2; omega⟩)
  have HY := Lib.hid (own_lower hY (show w.heap.size + 2 ≤ w1.heap.size by have := H1.out.2.2.2; omega))
  clear hY k2 H1
  go_wp2_with (first
    | (refine new_leaf (w := w2) rfl rfl ?_; intro w3 hS3 hB3 hZ3)
    | (refine store_leaf (w := w3) rfl _ _ rfl _ rfl (LeafC L.epoch L.number L.first L.last A L.data.length c) rfl hS3 rfl (LeafC_one _ _ _ _ _ _ _) ?_; intro w4 hK4 hG4)
    | ((with_reducible refine load_leaf (w := w4) (op := ⟨some 10, _, _, _, _, _⟩) ?_ (.tmp 4) ?_ _ ?_ _ hK4 ?_ ?_); (next => rfl); (next => rfl); (next => rfl); (next => rfl)))
  obtain ⟨g4, hg4⟩ : ∃ g4, w2.heap.size = g4 := ⟨_, rfl⟩
  rw [hg4] at hK4 hG4 hS3
  have H4 := Lib.hid (show Sec w4 w.heap.size s ∧ Leaf5 w4 (w.heap.size + 1) ∧ Blk w4 g4 25 (LeafC L.epoch L.number L.first L.last A L.data.length c) ∧ Below w.heap.size w w4 ∧ w.heap.size + 1 < g4 from by
    have hl := H2.out.2.2.2
    obtain ⟨cs, hb5, hz5⟩ := H2.out.2.1.below hB3
    exact ⟨Sec.far (Sec.below H2.out.1 hB3) hG4 (by omega), ⟨cs, hb5.grown hG4 (fun e => by injection e with e; omega), hz5⟩, hK4, (H2.out.2.2.1.trans (hB3.mono H2.out.2.2.1.size)).grown hG4 (by have := hB3.size; have := H2.out.2.2.1.size; omega) (fun k hk => by injection hk with hk; omega), by omega⟩)
  have HY4 : Hid (w4.ownsRow (w.heap.size + 2) 5 1 (.slice A L.data.length c) L.data.length (cellsB L.data)) := Lib.hid (
    (Qu.row_below HY.out hB3).kept hG4 (by
      cases hv : (Value.slice A L.data.length c).ownBlock with
      | none => exact .inl rfl
      | some g =>
        refine .inr fun e => ?_
        have := (HY.out.lt g hv).2
        injection e with e
        omega))
  rw [hg4]
  clear hS3 hB3 hZ3 hK4 hG4 hg4 H2 HY
  refine (lay_any w4 L.epoch L.number L.data.length c L.first L.last A L.data (Bys.own HY4.out) HE.out.1 HE.out.2).mono ?_
  rintro e w5 ⟨rfl, k5⟩
  have eL : (⟨L.epoch, L.number, L.first, L.last, L.data⟩ : Leaf) = L := rfl
  rw [eL]
  have H5 := Lib.hid (show Sec w5 w.heap.size s ∧ Leaf5 w5 (w.heap.size + 1) ∧ Blk w5 g4 25 (LeafC L.epoch L.number L.first L.last A L.data.length c) ∧ Below w.heap.size w w5 ∧ w.heap.size + 1 < g4 ∧ w5.ownsRow (w.heap.size + 2) 5 1 (.slice A L.data.length c) L.data.length (cellsB L.data) from
    ⟨Sec.below H4.out.1 k5, H4.out.2.1.below k5, H4.out.2.2.1.below k5, H4.out.2.2.2.1.trans (k5.mono H4.out.2.2.2.1.size), H4.out.2.2.2.2, Qu.row_below HY4.out k5⟩)
  clear k5 H4 HY4 eL
  obtain ⟨V, hV⟩ : ∃ V, layV L = V := ⟨_, rfl⟩
  rw [hV] at hsl ⊢
  obtain ⟨R, hR⟩ : ∃ R, rightB L = R := ⟨_, rfl⟩
  have hE2 : layE L = if R then 0 else 2 := by rw [← hR]; rfl
  have hV2 : V = if R then layB L else noughts := by rw [← hV, ← hR]; rfl
  rw [hE2]
  clear hE2
  have HV := Lib.hid (And.intro hR hV2)
  clear hR hV2 hV
  cases R with
  | false =>
    go_wp2_with (first
      | (with_reducible refine Dk.new_sec (w := w5) (op := ⟨some 5, _, _, _, _, _⟩) rfl rfl ?_; intro w6 hS6 hB6 hZ6)
      | ((with_reducible refine Dk.store_sec (w := w6) (op := ⟨none, _, _, _, _, _⟩) ?_ (.tmp 5) (.tmp 12) ?_ _ ?_ V ?_ _ hS6 hsl ?_); (next => rfl); (next => rfl); (next => rfl); (next => rfl); intro w7 hS7 hG7)
      | (with_reducible refine zero_leaf (op := ⟨some 21, _, _, _, _, _⟩) rfl rfl ?_)
      | ((with_reducible refine store_leaf (w := w7) (op := ⟨none, _, _, _, _, _⟩) ?_ (.tmp 2) (.tmp 21) ?_ (w.heap.size + 1) ?_ ZeroC ?_ ((H5.out.2.1.below hB6).far hG7 (by have := H5.out.2.2.1.lt; have := H5.out.2.2.2.2.1; omega)) ?_ ZeroC_one ?_); (next => rfl); (next => rfl); (next => rfl); (next => rfl); (next => rfl); intro w8 hK8 hG8))
    refine bodyPost_ret (two_leaf rfl _ w8 (w.heap.size + 1) _ (.bool false) rfl hK8 rfl rfl rfl) rfl ?_
    have ht : takesB s = false := by rw [HT.out, HV.out.1]; rfl
    unfold Took
    rw [ht]
    refine ⟨rfl, ?_⟩
    have h6 := H5.out.2.2.2.1.trans (hB6.mono H5.out.2.2.2.1.size)
    exact (h6.grown hG7 h6.size (fun k hk => by injection hk with hk; have := H5.out.2.2.2.1.size; omega)).grown hG8 (by have := (h6.grown hG7 h6.size (fun k hk => by injection hk with hk; have := H5.out.2.2.2.1.size; omega)).size; exact this) (fun k hk => by injection hk with hk; omega)
  | true =>
    obtain ⟨b, hb⟩ : ∃ b, (!(V == s)) = b := ⟨_, rfl⟩
    have HB := Lib.hid hb
    clear hb
    cases b with
    | true =>
      go_wp2_with (first
        | (with_reducible refine Dk.new_sec (w := w5) (op := ⟨some 5, _, _, _, _, _⟩) rfl rfl ?_; intro w6 hS6 hB6 hZ6)
        | ((with_reducible refine Dk.store_sec (w := w6) (op := ⟨none, _, _, _, _, _⟩) ?_ (.tmp 5) (.tmp 12) ?_ _ ?_ V ?_ _ hS6 hsl ?_); (next => rfl); (next => rfl); (next => rfl); (next => rfl); intro w7 hS7 hG7)
        | ((with_reducible refine load_sec_w (w := w7) (op := ⟨some 17, _, _, _, _, _⟩) ?_ (.tmp 5) ?_ _ ?_ _ hS7 ?_); (next => rfl); (next => rfl); (next => rfl))
        | ((with_reducible refine load_sec_w (w := w7) (op := ⟨some 18, _, _, _, _, _⟩) ?_ (.tmp 1) ?_ _ ?_ _ (Sec.far (Sec.below H5.out.1 hB6) hG7 (by have := H5.out.2.2.1.lt; have := H5.out.2.2.2.2.1; omega)) ?_); (next => rfl); (next => rfl); (next => rfl))
        | ((with_reducible refine neq_sec_w (op := ⟨some 19, _, _, _, _, _⟩) ?_ (.tmp 17) (.tmp 18) ?_ _ _ ?_ ?_ hsl hs true HB.out ?_); (next => rfl); (next => rfl); (next => rfl); (next => rfl))
        | (with_reducible refine zero_leaf (op := ⟨some 21, _, _, _, _, _⟩) rfl rfl ?_)
        | ((with_reducible refine store_leaf (w := w7) (op := ⟨none, _, _, _, _, _⟩) ?_ (.tmp 2) (.tmp 21) ?_ (w.heap.size + 1) ?_ ZeroC ?_ ((H5.out.2.1.below hB6).far hG7 (by have := H5.out.2.2.1.lt; have := H5.out.2.2.2.2.1; omega)) ?_ ZeroC_one ?_); (next => rfl); (next => rfl); (next => rfl); (next => rfl); (next => rfl); intro w8 hK8 hG8))
      refine bodyPost_ret (two_leaf rfl _ w8 (w.heap.size + 1) _ (.bool false) rfl hK8 rfl rfl rfl) rfl ?_
      have ht : takesB s = false := by
        rw [HT.out, HV.out.1]
        have h1 := HB.out
        rw [HV.out.2] at h1
        simpa using h1
      unfold Took
      rw [ht]
      refine ⟨rfl, ?_⟩
      have h6 := H5.out.2.2.2.1.trans (hB6.mono H5.out.2.2.2.1.size)
      exact (h6.grown hG7 h6.size (fun k hk => by injection hk with hk; have := H5.out.2.2.2.1.size; omega)).grown hG8 (by have := (h6.grown hG7 h6.size (fun k hk => by injection hk with hk; have := H5.out.2.2.2.1.size; omega)).size; exact this) (fun k hk => by injection hk with hk; omega)
    | false =>
      go_wp2_with (first
        | (with_reducible refine Dk.new_sec (w := w5) (op := ⟨some 5, _, _, _, _, _⟩) rfl rfl ?_; intro w6 hS6 hB6 hZ6)
        | ((with_reducible refine Dk.store_sec (w := w6) (op := ⟨none, _, _, _, _, _⟩) ?_ (.tmp 5) (.tmp 12) ?_ _ ?_ V ?_ _ hS6 hsl ?_); (next => rfl); (next => rfl); (next => rfl); (next => rfl); intro w7 hS7 hG7)
        | ((with_reducible refine load_sec_w (w := w7) (op := ⟨some 17, _, _, _, _, _⟩) ?_ (.tmp 5) ?_ _ ?_ _ hS7 ?_); (next => rfl); (next => rfl); (next => rfl))
        | ((with_reducible refine load_sec_w (w := w7) (op := ⟨some 18, _, _, _, _, _⟩) ?_ (.tmp 1) ?_ _ ?_ _ (Sec.far (Sec.below H5.out.1 hB6) hG7 (by have := H5.out.2.2.1.lt; have := H5.out.2.2.2.2.1; omega)) ?_); (next => rfl); (next => rfl); (next => rfl))
        | ((with_reducible refine neq_sec_w (op := ⟨some 19, _, _, _, _, _⟩) ?_ (.tmp 17) (.tmp 18) ?_ _ _ ?_ ?_ hsl hs false HB.out ?_); (next => rfl); (next => rfl); (next => rfl); (next => rfl))
        | ((with_reducible refine load_leaf (w := w7) (op := ⟨some 22, _, _, _, _, _⟩) ?_ (.tmp 4) ?_ _ ?_ _ ((H5.out.2.2.1.below hB6).grown hG7 (fun e => by have := H5.out.2.2.1.lt; injection e with e; omega)) ?_ ?_); (next => rfl); (next => rfl); (next => rfl); (next => rfl))
        | ((with_reducible refine store_leaf (w := w7) (op := ⟨none, _, _, _, _, _⟩) ?_ (.tmp 2) (.tmp 22) ?_ (w.heap.size + 1) ?_ (LeafC L.epoch L.number L.first L.last A L.data.length c) ?_ ((H5.out.2.1.below hB6).far hG7 (by have := H5.out.2.2.1.lt; have := H5.out.2.2.2.2.1; omega)) ?_ (LeafC_one _ _ _ _ _ _ _) ?_); (next => rfl); (next => rfl); (next => rfl); (next => rfl); (next => rfl); intro w8 hK8 hG8))
      refine bodyPost_ret (two_leaf rfl _ w8 (w.heap.size + 1) _ (.bool true) rfl hK8 rfl rfl rfl) rfl ?_
      have ht : takesB s = true := by
        rw [HT.out, HV.out.1]
        have h1 := HB.out
        rw [HV.out.2] at h1
        simpa using h1
      unfold Took
      rw [ht, HL.out]
      have h6 := H5.out.2.2.2.1.trans (hB6.mono H5.out.2.2.2.1.size)
      have h7 := h6.grown hG7 h6.size (fun k hk => by injection hk with hk; have := H5.out.2.2.2.1.size; omega)
      have h8 : w7.ownsRow (w.heap.size + 2) 5 1 (.slice A L.data.length c) L.data.length (cellsB L.data) := (Qu.row_below H5.out.2.2.2.2.2 hB6).kept hG7 (by
        cases hv : (Value.slice A L.data.length c).ownBlock with
        | none => exact .inl rfl
        | some g =>
          refine .inr fun e => ?_
          have := (H5.out.2.2.2.2.2.lt g hv).2
          injection e with e
          omega)
      exact ⟨A, c, rfl, own_lower (own_far h8 hG8 (by omega)) (by omega), h7.grown hG8 h7.size (fun k hk => by injection hk with hk; omega)⟩

end Go.Proofs.Ytbicdmhmpmdoeaa.Lf
