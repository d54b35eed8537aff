/- The document's journal: record. -/
import Derived.Test.YtedgookkogpfbaaJrA
import Derived.Test.YtedgookkogpfbaaLfY
import Derived.Test.YtedgookkogpfbaaDkX
import Derived.Deep.CutBlock
import Derived.Test.YtedgookkogpfbaaLfX
import Derived.Deep.DeepCutAuto
set_option maxRecDepth 100000
namespace Go.Proofs.Ytedgookkogpfbaa.Jr
open Go.ChangeShapes Go.WideShapes Go.ChangeAt Go.RowKit
open Qu (Blk)
open Mv (Only)
open By (Own8 Bys cellsB cellsB_length)
open Dk (DS RefAt secCells secCells_size size_sector)
open Lf (Took LeafC LeafC_one step_new_leaf step_store_leaf Leaf5 own_lower own_far takesB readB)
open Se (Rows64)
set_option linter.unusedVariables false

/-- What Take tells, as cells. -/
def took (s : List UInt8) : Lf.Leaf := if takesB s then readB s else ⟨0, 0, false, false, []⟩

theorem took_cells {w w' : World} {e : Ending} {s : List UInt8} (h : Took w w' e s) : ∃ A c, e = .returned (.tuple #[.agg (LeafC (took s).epoch (took s).number (took s).first (took s).last A (took s).data.length c), .bool (takesB s)]) ∧ w'.ownsRow w.heap.size 5 1 (.slice A (took s).data.length c) (took s).data.length (cellsB (took s).data) ∧ Below w.heap.size w w' := by
  unfold Took at h
  unfold took
  cases ht : takesB s with
  | true =>
    rw [ht, if_pos rfl] at h
    obtain ⟨A, c, h1, h2, h3⟩ := h
    exact ⟨A, c, h1, h2, h3⟩
  | false =>
    rw [ht, if_neg (by simp)] at h
    exact ⟨none, 0, h.1, World.ownsRow_nil _ _ _ _, h.2⟩

/-- A sector out of a row of them is read, at a step of a region that draws. -/
theorem yields_row {ops : Array Oper} {S : World → Prop} {op : Oper} {a : Act} (hw : Region.wanted op (yielded ops a.tmps) = true) (x : Operand) (ho : op.op = .load 43 x)
    (g k : Nat) (hx : a.eval x = .pointer (some ⟨g, k * 64, none⟩)) (s : List UInt8) (hs : s.length = 64) (hS : ∀ w, S w → w.rangeAt g (k * 64) (cellsB s)) : YieldsIf Try.prog ops S op (.agg (secCells s)) a :=
  .inl ⟨hw, fun w hw' => by
    have hl := run_loadAt_mid (P := Try.prog) w g (k * 64) 43 (cellsB s) _ (hS w hw') Try.underlying43 rfl (by rw [size_sector, cellsB_length, hs])
    unfold execOp
    simp only [ho, hx, hl, Sem.run_bind, Sem.run_pure, Result.andThen_ok]
    rfl⟩

set_option maxHeartbeats 4000000 in
theorem rrecord_any (w : World) (B B' x c num least at_ : Nat) (A : Option Addr) (vs : List Value) (j : JS) (p : Dk.Place) (d : DS) (hJ : JAt w B x p.x A c vs j) (hD : RefAt w B' p d) (hn : d.n ≤ 1000000) (hr : j.o + j.n ≤ d.n) (hat : at_ ≤ j.n) (hnum : num < 2 ^ 32) (hl : least < 2 ^ 32)
    (S : Nat → List UInt8) (hS : ∀ i, S i = secs d (j.o + at_) i) (R : List UInt8 × Nat × Nat) (hR : recN S num least (j.n - at_) = R) :
    Calls Try.prog 64 #[.pointer (some ⟨x, 0, none⟩), .int .i64 (at_ : Int), .int .u32 (num : Int), .int .u32 (least : Int)] w fun r w' => ∃ A' c', r = .returned (.tuple #[.slice A' R.1.length c', .int .i64 (R.2.1 : Int), .int .u32 (R.2.2 : Int)]) ∧ Own8 w' w.heap.size (.slice A' R.1.length c') R.1 ∧ Below w.heap.size w w' := by
  have HC : Hid (∀ u, Below w.heap.size w u → u.cell? ⟨x, 0, none⟩ = some (.pointer (some ⟨p.x, 0, none⟩)) ∧ u.cell? ⟨x, 1, none⟩ = some (.int .i64 (j.o : Int)) ∧ u.cell? ⟨x, 2, none⟩ = some (.int .i64 (j.n : Int)) ∧ u.cell? ⟨p.x, 0, none⟩ = some (.slice (some ⟨p.a, 0, none⟩) d.n p.ca) ∧ ∀ (k : Nat) (s : List UInt8), d.now[k]? = some s → u.rangeAt p.a (k * 64) (cellsB s)) := Lib.hid (fun u hb => by
    have h1 := (hJ.below hb).box
    have h2 := hD.below hb
    have e0 := h1.cell 0
    have e1 := h1.cell 1
    have e2 := h1.cell 2
    have e3 := h2.box.cell 0
    exact ⟨e0, e1, e2, e3, fun k s hk => h2.now.range hk⟩)
  have H64 : Hid (∀ (k : Nat) (s : List UInt8), d.now[k]? = some s → s.length = 64) := Lib.hid (fun k s hk => hD.now.1.at hk)
  have n0 : (d.n : Int) ≤ 1000000 := by omega
  have a0 : (at_ : Int) ≤ (j.n : Int) := by omega
  have o0 : (j.o : Int) + (j.n : Int) ≤ (d.n : Int) := by omega
  have hlen : d.now.length = d.n := rfl
  have HN := Lib.hid hlen
  generalize d.n = dn at *
  generalize j.o = o at *
  generalize j.n = n at *
  have HR := Lib.hid hR
  have HS := Lib.hid hS
  have HT : Hid (at_ ≤ n ∧ o + n ≤ dn) := Lib.hid ⟨hat, hr⟩
  clear hJ hD hlen hR hS hat hr
  go_enter Try.func64, Try.ntmps64
  go_wp2
  go_loopw [11, 12, 13] (fun s e i wr => ∃ (k E : Nat) (b : List UInt8) (A1 : Option Addr) (c1 : Nat), i = .int .i64 (k : Int) ∧ e = .int .u32 (E : Int) ∧ s = .slice A1 b.length c1 ∧ at_ + k ≤ n ∧ recGo S num least (n - at_ - k) k b E = R ∧ Own8 wr w.heap.size (.slice A1 b.length c1) b ∧ Below w.heap.size w wr ∧ b.length ≤ 46 * k ∧ E < 2 ^ 32) (fun _ _ i _ => n - (intOf i).toNat)
  case atStart => exact ⟨0, 0, [], none, 0, rfl, rfl, rfl, by have := HT.out; omega, HR.out, Own8.nil _ _, Below.refl _ _, by simp, by omega⟩
  case round =>
    obtain ⟨k, E, b, A1, c1, rfl, rfl, rfl, hk, hG, hO, hB, hbl, hE⟩ := hrel
    obtain ⟨q0, q1, q2, q3, q4⟩ := HC.out wr hB
    by_cases hlt : at_ + k < n
    · have k1 : (at_ : Int) + (k : Int) < (n : Int) := by omega
      have k2 : decide (at_ + k < n) = true := by simpa using hlt
      obtain ⟨s, hs⟩ : ∃ s, d.now[o + at_ + k]? = some s := ⟨_, List.getElem?_eq_getElem (by have := HN.out; have := HT.out; omega)⟩
      have hSk : S k = s := by
        rw [HS.out]
        unfold secs
        rw [List.getD, hs]
        rfl
      have hs64 := H64.out _ s hs
      have HW : Hid (∀ u, Below wr.heap.size wr u → u.cell? ⟨x, 0, none⟩ = some (.pointer (some ⟨p.x, 0, none⟩)) ∧ u.cell? ⟨x, 1, none⟩ = some (.int .i64 (o : Int)) ∧ u.cell? ⟨p.x, 0, none⟩ = some (.slice (some ⟨p.a, 0, none⟩) dn p.ca) ∧ u.rangeAt p.a ((o + at_ + k) * 64) (cellsB s)) := Lib.hid (fun u hu => by
        obtain ⟨e0, e1, _, e3, e4⟩ := HC.out u (hB.trans (hu.mono hB.size))
        exact ⟨e0, e1, e3, e4 _ s hs⟩)
      have w1 : IntKind.i64.wrap ((o : Int) + (at_ : Int)) = (o : Int) + (at_ : Int) := IntWalk.i64_in _ (by have := HT.out; omega)
      have w2 : IntKind.i64.wrap ((o : Int) + (at_ : Int) + (k : Int)) = (o : Int) + (at_ : Int) + (k : Int) := IntWalk.i64_in _ (by have := HT.out; omega)
      have w3 : (0 : Int) ≤ (o : Int) + (at_ : Int) + (k : Int) := by omega
      have w4 : (o : Int) + (at_ : Int) + (k : Int) < (dn : Int) := by have := HT.out; omega
      have w5 : ((o : Int) + (at_ : Int) + (k : Int)).toNat = o + at_ + k := by omega
      have hu : Try.prog.underlying 43 = some (.array 64 5) := Try.underlying43
      have hi : (Try.prog.info? 43).map (·.size) = some (cellsB s).length := by rw [size_sector, cellsB_length, hs64]
      obtain ⟨L, hL⟩ : ∃ L, took s = L := ⟨_, rfl⟩
      obtain ⟨T, hT⟩ : ∃ T, takesB s = T := ⟨_, rfl⟩
      have HK : Hid (∀ W, Calls Try.prog 78 #[.agg (secCells s)] W fun e w' => ∃ A c, e = .returned (.tuple #[.agg (LeafC L.epoch L.number L.first L.last A L.data.length c), .bool T]) ∧ w'.ownsRow W.heap.size 5 1 (.slice A L.data.length c) L.data.length (cellsB L.data) ∧ Below W.heap.size W w') := Lib.hid (fun W => (Lf.rtake_any W s hs64).mono fun e w' h => by
        have := took_cells h
        rw [hL, hT] at this
        exact this)
      go_upto_region 6 with (fail)
      go_cut [14, 15] (fun pv qv wx => ∃ (g : Nat) (A2 : Option Addr) (c2 : Nat), pv = .pointer (some ⟨g, 0, none⟩) ∧ qv = .bool T ∧ Blk wx g 104 (LeafC L.epoch L.number L.first L.last A2 L.data.length c2) ∧ wx.ownsRow wr.heap.size 5 1 (.slice A2 L.data.length c2) L.data.length (cellsB L.data) ∧ Below wr.heap.size wr wx)
      case first =>
        refine wp_region_held_drew (S := fun u => Below wr.heap.size wr u) (by kernel_rfl) ((Below.refl _ _).drew) (fun h1 => ?_)
        refine wpAnyH_take (i := 0) (oi := ⟨some 27, _, _, _, _, _⟩) (v := .pointer (some ⟨x, 0, none⟩)) rfl (by kernel_rfl) (by kernel_rfl) (by kernel_rfl) (fun _ _ _ h => h) (Or.inl ⟨by rfl, fun wq hSw => ?_⟩) (by assumption) ?_
        · obtain ⟨e0, e1, e3, e4⟩ := HW.out wq hSw; go_simp
        try simp only [Act.put, List.setIfInBounds_toArray, List.set_cons_zero, List.set_cons_succ]
        refine wpAnyH_take (i := 1) (oi := ⟨some 28, _, _, _, _, _⟩) (v := .pointer (some ⟨x, 0, none⟩)) rfl (by kernel_rfl) (by kernel_rfl) (by kernel_rfl) (fun _ _ _ h => h) (Or.inl ⟨by rfl, fun wq hSw => ?_⟩) (by assumption) ?_
        · obtain ⟨e0, e1, e3, e4⟩ := HW.out wq hSw; go_simp
        try simp only [Act.put, List.setIfInBounds_toArray, List.set_cons_zero, List.set_cons_succ]
        refine wpAnyH_take (i := 2) (oi := ⟨some 29, _, _, _, _, _⟩) (v := .pointer (some ⟨x, 0, none⟩)) rfl (by kernel_rfl) (by kernel_rfl) (by kernel_rfl) (fun _ _ _ h => h) (Or.inl ⟨by rfl, fun wq hSw => ?_⟩) (by assumption) ?_
        · obtain ⟨e0, e1, e3, e4⟩ := HW.out wq hSw; go_simp
        try simp only [Act.put, List.setIfInBounds_toArray, List.set_cons_zero, List.set_cons_succ]
        refine wpAnyH_take (i := 3) (oi := ⟨some 30, _, _, _, _, _⟩) (v := .pointer (some ⟨p.x, 0, none⟩)) rfl (by kernel_rfl) (by kernel_rfl) (by kernel_rfl) (fun _ _ _ h => h) (Or.inl ⟨by rfl, fun wq hSw => ?_⟩) (by assumption) ?_
        · obtain ⟨e0, e1, e3, e4⟩ := HW.out wq hSw; go_simp
        try simp only [Act.put, List.setIfInBounds_toArray, List.set_cons_zero, List.set_cons_succ]
        refine wpAnyH_take (i := 4) (oi := ⟨some 31, _, _, _, _, _⟩) (v := .pointer (some ⟨p.x, 0, none⟩)) rfl (by kernel_rfl) (by kernel_rfl) (by kernel_rfl) (fun _ _ _ h => h) (Or.inl ⟨by rfl, fun wq hSw => ?_⟩) (by assumption) ?_
        · obtain ⟨e0, e1, e3, e4⟩ := HW.out wq hSw; go_simp
        try simp only [Act.put, List.setIfInBounds_toArray, List.set_cons_zero, List.set_cons_succ]
        refine wpAnyH_take (i := 5) (oi := ⟨some 32, _, _, _, _, _⟩) (v := .pointer (some ⟨p.x, 0, none⟩)) rfl (by kernel_rfl) (by kernel_rfl) (by kernel_rfl) (fun _ _ _ h => h) (Or.inl ⟨by rfl, fun wq hSw => ?_⟩) (by assumption) ?_
        · obtain ⟨e0, e1, e3, e4⟩ := HW.out wq hSw; go_simp
        try simp only [Act.put, List.setIfInBounds_toArray, List.set_cons_zero, List.set_cons_succ]
        refine wpAnyH_take (i := 6) (oi := ⟨some 33, _, _, _, _, _⟩) (v := .slice (some ⟨p.a, 0, none⟩) dn p.ca) rfl (by kernel_rfl) (by kernel_rfl) (by kernel_rfl) (fun _ _ _ h => h) (Or.inl ⟨by rfl, fun wq hSw => ?_⟩) (by assumption) ?_
        · obtain ⟨e0, e1, e3, e4⟩ := HW.out wq hSw; go_simp
        try simp only [Act.put, List.setIfInBounds_toArray, List.set_cons_zero, List.set_cons_succ]
        refine wpAnyH_take (i := 7) (oi := ⟨some 34, _, _, _, _, _⟩) (v := .pointer (some ⟨x, 0, none⟩)) rfl (by kernel_rfl) (by kernel_rfl) (by kernel_rfl) (fun _ _ _ h => h) (Or.inl ⟨by rfl, fun wq hSw => ?_⟩) (by assumption) ?_
        · obtain ⟨e0, e1, e3, e4⟩ := HW.out wq hSw; go_simp
        try simp only [Act.put, List.setIfInBounds_toArray, List.set_cons_zero, List.set_cons_succ]
        refine wpAnyH_take (i := 8) (oi := ⟨some 35, _, _, _, _, _⟩) (v := .pointer (some ⟨x, 0, none⟩)) rfl (by kernel_rfl) (by kernel_rfl) (by kernel_rfl) (fun _ _ _ h => h) (Or.inl ⟨by rfl, fun wq hSw => ?_⟩) (by assumption) ?_
        · obtain ⟨e0, e1, e3, e4⟩ := HW.out wq hSw; go_simp
        try simp only [Act.put, List.setIfInBounds_toArray, List.set_cons_zero, List.set_cons_succ]
        refine wpAnyH_take (i := 9) (oi := ⟨some 36, _, _, _, _, _⟩) (v := .pointer (some ⟨x, 1, none⟩)) rfl (by kernel_rfl) (by kernel_rfl) (by kernel_rfl) (fun _ _ _ h => h) (Or.inl ⟨by rfl, fun wq hSw => ?_⟩) (by assumption) ?_
        · obtain ⟨e0, e1, e3, e4⟩ := HW.out wq hSw; go_simp
        try simp only [Act.put, List.setIfInBounds_toArray, List.set_cons_zero, List.set_cons_succ]
        refine wpAnyH_take (i := 10) (oi := ⟨some 37, _, _, _, _, _⟩) (v := .int .i64 (o : Int)) rfl (by kernel_rfl) (by kernel_rfl) (by kernel_rfl) (fun _ _ _ h => h) (Or.inl ⟨by rfl, fun wq hSw => ?_⟩) (by assumption) ?_
        · obtain ⟨e0, e1, e3, e4⟩ := HW.out wq hSw; go_simp
        try simp only [Act.put, List.setIfInBounds_toArray, List.set_cons_zero, List.set_cons_succ]
        refine wpAnyH_take (i := 11) (oi := ⟨some 38, _, _, _, _, _⟩) (v := .int .i64 (at_ : Int)) rfl (by kernel_rfl) (by kernel_rfl) (by kernel_rfl) (fun _ _ _ h => h) (Or.inl ⟨by rfl, fun wq hSw => ?_⟩) (by assumption) ?_
        · obtain ⟨e0, e1, e3, e4⟩ := HW.out wq hSw; go_simp
        try simp only [Act.put, List.setIfInBounds_toArray, List.set_cons_zero, List.set_cons_succ]
        refine wpAnyH_take (i := 12) (oi := ⟨some 39, _, _, _, _, _⟩) (v := .int .i64 ((o : Int) + (at_ : Int))) rfl (by kernel_rfl) (by kernel_rfl) (by kernel_rfl) (fun _ _ _ h => h) (Or.inl ⟨by rfl, fun wq hSw => ?_⟩) (by assumption) ?_
        · obtain ⟨e0, e1, e3, e4⟩ := HW.out wq hSw; go_simp
        try simp only [Act.put, List.setIfInBounds_toArray, List.set_cons_zero, List.set_cons_succ]
        refine wpAnyH_take (i := 13) (oi := ⟨some 40, _, _, _, _, _⟩) (v := .int .i64 (k : Int)) rfl (by kernel_rfl) (by kernel_rfl) (by kernel_rfl) (fun _ _ _ h => h) (Or.inl ⟨by rfl, fun wq hSw => ?_⟩) (by assumption) ?_
        · obtain ⟨e0, e1, e3, e4⟩ := HW.out wq hSw; go_simp
        try simp only [Act.put, List.setIfInBounds_toArray, List.set_cons_zero, List.set_cons_succ]
        refine wpAnyH_take (i := 14) (oi := ⟨some 41, _, _, _, _, _⟩) (v := .int .i64 ((o : Int) + (at_ : Int) + (k : Int))) rfl (by kernel_rfl) (by kernel_rfl) (by kernel_rfl) (fun _ _ _ h => h) (Or.inl ⟨by rfl, fun wq hSw => ?_⟩) (by assumption) ?_
        · obtain ⟨e0, e1, e3, e4⟩ := HW.out wq hSw; go_simp
        try simp only [Act.put, List.setIfInBounds_toArray, List.set_cons_zero, List.set_cons_succ]
        refine wpAnyH_take (i := 15) (oi := ⟨some 42, _, _, _, _, _⟩) (v := .pointer (some ⟨p.a, (o + at_ + k) * 64, none⟩)) rfl (by kernel_rfl) (by kernel_rfl) (by kernel_rfl) (fun _ _ _ h => h) (Or.inl ⟨by rfl, fun wq hSw => ?_⟩) (by assumption) ?_
        · obtain ⟨e0, e1, e3, e4⟩ := HW.out wq hSw; go_simp
        try simp only [Act.put, List.setIfInBounds_toArray, List.set_cons_zero, List.set_cons_succ]
        refine wpAnyH_take (i := 16) (oi := ⟨some 43, _, _, _, _, _⟩) (v := .agg (secCells s)) rfl (by kernel_rfl) (by kernel_rfl) (by kernel_rfl) (fun _ _ _ h => h) (yields_row (by rfl) _ rfl p.a (o + at_ + k) rfl s hs64 (fun u h => (HW.out u h).2.2.2)) (by assumption) ?_
        try simp only [Act.put, List.setIfInBounds_toArray, List.set_cons_zero, List.set_cons_succ]
        refine wpAnyH_ready (rs := [17, 21]) (by kernel_rfl) (by simp) ?_
        refine AllReadyH.cons (o := ⟨some 44, _, _, _, _, _⟩) rfl (fun K hK => ?_) ?_
        ·
          go_simp
          refine (HK.out _).mono ?_
          rintro e wT ⟨A2, c2, rfl, oT, kT⟩
          go_wp2_with fail
          refine hK.out _ _ (h1.trans (kT.mono h1.size)) (fun h2 => ?_)
          clear hK K
          try simp only [Act.put, List.setIfInBounds_toArray, List.set_cons_zero, List.set_cons_succ]
          refine wpAnyH_take (i := 18) (oi := ⟨some 26, _, _, _, _, _⟩) (v := .tuple #[.agg (LeafC L.epoch L.number L.first L.last A2 L.data.length c2), .bool T]) rfl (by kernel_rfl) (by kernel_rfl) (by kernel_rfl) (fun _ _ _ h => h) (Or.inl ⟨by rfl, fun wq hSw => ?_⟩) (by assumption) ?_
          · go_simp
          try simp only [Act.put, List.setIfInBounds_toArray, List.set_cons_zero, List.set_cons_succ]
          refine wpAnyH_take (i := 19) (oi := ⟨some 45, _, _, _, _, _⟩) (v := .agg (LeafC L.epoch L.number L.first L.last A2 L.data.length c2)) rfl (by kernel_rfl) (by kernel_rfl) (by kernel_rfl) (fun _ _ _ h => h) (Or.inl ⟨by rfl, fun wq hSw => ?_⟩) (by assumption) ?_
          · go_simp
          try simp only [Act.put, List.setIfInBounds_toArray, List.set_cons_zero, List.set_cons_succ]
          refine wpAnyH_take (i := 20) (oi := ⟨some 46, _, _, _, _, _⟩) (v := .bool T) rfl (by kernel_rfl) (by kernel_rfl) (by kernel_rfl) (fun _ _ _ h => h) (Or.inl ⟨by rfl, fun wq hSw => ?_⟩) (by assumption) ?_
          · go_simp
          try simp only [Act.put, List.setIfInBounds_toArray, List.set_cons_zero, List.set_cons_succ]
          refine wpAnyH_ready (rs := [21]) (by kernel_rfl) (by simp) ?_
          refine AllReadyH.cons (o := ⟨some 14, _, _, _, _, _⟩) rfl (fun K hK => ?_) AllReadyH.nil
          refine step_new_leaf (w := wT) (by rfl) (by rfl) ?_
          intro wa qwa kwa zwa
          refine hK.out _ _ (h2.trans (kwa.mono h2.size)) (fun h3 => ?_)
          clear hK K
          try simp only [Act.put, List.setIfInBounds_toArray, List.set_cons_zero, List.set_cons_succ]
          refine wpAnyH_ready (rs := [22]) (by kernel_rfl) (by simp) ?_
          refine AllReadyH.cons (o := ⟨none, _, _, _, _, _⟩) rfl (fun K hK => ?_) AllReadyH.nil
          refine step_store_leaf (w := wa) (by rfl) (.tmp 14) (.tmp 45) (by rfl) wT.heap.size (by rfl) (LeafC L.epoch L.number L.first L.last A2 L.data.length c2) (by rfl) qwa rfl (LeafC_one _ _ _ _ _ _ _) ?_
          intro ws bs gs
          refine hK.out _ _ (h3.grown gs h3.size (fun k hk => by injection hk with hk; have := h2.size; omega)) (fun h4 => ?_)
          clear hK K
          simp only [Act.put]
          refine wpAnyH_take (i := 23) (oi := ⟨some 15, _, _, _, _, _⟩) (v := .bool T) rfl (by kernel_rfl) (by kernel_rfl) (by kernel_rfl) (fun _ _ _ h => h) (Or.inl ⟨by rfl, fun wq hSw => ?_⟩) (by assumption) ?_
          · go_simp
          try simp only [Act.put, List.setIfInBounds_toArray, List.set_cons_zero, List.set_cons_succ]
          refine wpAnyH_done (by kernel_rfl) ?_ _
          go_wp2_with fail
          go_meet
          refine ⟨wT.heap.size, A2, c2, rfl, rfl, bs, (Qu.row_below oT kwa).kept gs ?_, h4⟩
          cases hv : (Value.slice A2 L.data.length c2).ownBlock with
          | none => exact .inl rfl
          | some g =>
            refine .inr fun e => ?_
            have := (oT.lt g hv).2
            injection e with e
            omega
        refine AllReadyH.cons (o := ⟨some 14, _, _, _, _, _⟩) rfl (fun K hK => ?_) AllReadyH.nil
        refine step_new_leaf (w := wr.drew) (by rfl) (by rfl) ?_
        intro wa qwa kwa zwa
        refine hK.out _ _ (h1.trans (kwa.mono h1.size)) (fun h2 => ?_)
        clear hK K
        try simp only [Act.put, List.setIfInBounds_toArray, List.set_cons_zero, List.set_cons_succ]
        refine wpAnyH_ready (rs := [17]) (by kernel_rfl) (by simp) ?_
        refine AllReadyH.cons (o := ⟨some 44, _, _, _, _, _⟩) rfl (fun K hK => ?_) AllReadyH.nil
        go_simp
        refine (HK.out _).mono ?_
        rintro e wT ⟨A2, c2, rfl, oT, kT⟩
        go_wp2_with fail
        refine hK.out _ _ (h2.trans (kT.mono h2.size)) (fun h3 => ?_)
        clear hK K
        try simp only [Act.put, List.setIfInBounds_toArray, List.set_cons_zero, List.set_cons_succ]
        refine wpAnyH_take (i := 18) (oi := ⟨some 26, _, _, _, _, _⟩) (v := .tuple #[.agg (LeafC L.epoch L.number L.first L.last A2 L.data.length c2), .bool T]) rfl (by kernel_rfl) (by kernel_rfl) (by kernel_rfl) (fun _ _ _ h => h) (Or.inl ⟨by rfl, fun wq hSw => ?_⟩) (by assumption) ?_
        · go_simp
        try simp only [Act.put, List.setIfInBounds_toArray, List.set_cons_zero, List.set_cons_succ]
        refine wpAnyH_take (i := 19) (oi := ⟨some 45, _, _, _, _, _⟩) (v := .agg (LeafC L.epoch L.number L.first L.last A2 L.data.length c2)) rfl (by kernel_rfl) (by kernel_rfl) (by kernel_rfl) (fun _ _ _ h => h) (Or.inl ⟨by rfl, fun wq hSw => ?_⟩) (by assumption) ?_
        · go_simp
        try simp only [Act.put, List.setIfInBounds_toArray, List.set_cons_zero, List.set_cons_succ]
        refine wpAnyH_take (i := 20) (oi := ⟨some 46, _, _, _, _, _⟩) (v := .bool T) rfl (by kernel_rfl) (by kernel_rfl) (by kernel_rfl) (fun _ _ _ h => h) (Or.inl ⟨by rfl, fun wq hSw => ?_⟩) (by assumption) ?_
        · go_simp
        try simp only [Act.put, List.setIfInBounds_toArray, List.set_cons_zero, List.set_cons_succ]
        refine wpAnyH_ready (rs := [22]) (by kernel_rfl) (by simp) ?_
        refine AllReadyH.cons (o := ⟨none, _, _, _, _, _⟩) rfl (fun K hK => ?_) AllReadyH.nil
        refine step_store_leaf (w := wT) (by rfl) (.tmp 14) (.tmp 45) (by rfl) wr.drew.heap.size (by rfl) (LeafC L.epoch L.number L.first L.last A2 L.data.length c2) (by rfl) (Leaf5.below qwa kT) rfl (LeafC_one _ _ _ _ _ _ _) ?_
        intro ws bs gs
        refine hK.out _ _ (h3.grown gs h3.size (fun k hk => by injection hk with hk; have e9 : wr.drew.heap.size = wr.heap.size := rfl; omega)) (fun h4 => ?_)
        clear hK K
        simp only [Act.put]
        refine wpAnyH_take (i := 23) (oi := ⟨some 15, _, _, _, _, _⟩) (v := .bool T) rfl (by kernel_rfl) (by kernel_rfl) (by kernel_rfl) (fun _ _ _ h => h) (Or.inl ⟨by rfl, fun wq hSw => ?_⟩) (by assumption) ?_
        · go_simp
        try simp only [Act.put, List.setIfInBounds_toArray, List.set_cons_zero, List.set_cons_succ]
        refine wpAnyH_done (by kernel_rfl) ?_ _
        go_wp2_with fail
        go_meet
        have e9 : wr.drew.heap.size = wr.heap.size := rfl
        exact ⟨wr.drew.heap.size, A2, c2, rfl, rfl, bs, own_lower (own_far oT gs (by omega)) (by omega), h4⟩
      case rest =>
        obtain ⟨g, A2, c2, rfl, rfl, hb, ho, hkx⟩ := hcut
        obtain ⟨l0, l1, l2, l3, l4⟩ := Lf.box_cells hb
        have HX := Lib.hid (And.intro hb (And.intro ho hkx))
        have HBx := Lib.hid (hB.trans (hkx.mono hB.size))
        have HO := Lib.hid (hO.below hkx)
        have HV := Lib.hid (And.intro hL hT)
        have HSk := Lib.hid hSk
        have HG := Lib.hid hG
        have HBL := Lib.hid hbl
        have HLT := Lib.hid hlt
        have HE2 := Lib.hid hE
        have hf : n - at_ - k = n - at_ - (k + 1) + 1 := by omega
        have HF := Lib.hid hf
        have HSZ := Lib.hid (show w.heap.size ≤ wc.heap.size by have := hB.size; have := hkx.size; omega)
        have Le : L.epoch < 2 ^ 32 := by
          rw [← hL]
          unfold took
          split
          · exact Lf.read_epoch s hs64
          · show 0 < _; omega
        have Ln : L.number < 2 ^ 32 := by
          rw [← hL]
          unfold took
          split
          · exact Lf.read_number s hs64
          · show 0 < _; omega
        have Ld : L.data.length ≤ 46 := by
          rw [← hL]
          unfold took
          split
          · exact Lf.read_le s hs64
          · simp
        by_cases hg : goodL S num least E k = true
        · obtain ⟨i0, hi0, hz0, hz1, hz2⟩ := info_parts By.info_u8
          obtain ⟨g1, g2, g3, g4, g5⟩ := (good_iff E k).1 hg
          rw [hSk] at g1 g2 g3 g4 g5
          have hT2 : T = true := by rw [← hT]; exact g1
          have hl2 : readB s = L := by
            have := hL
            unfold took at this
            rwa [g1, if_pos rfl] at this
          rw [hl2] at g2 g3 g4 g5
          have HRE : Hid (R = if L.last = true then (b ++ L.data, k + 1, L.epoch) else recGo S num least (n - at_ - (k + 1)) (k + 1) (b ++ L.data) L.epoch) := Lib.hid (by
            have h := HG.out
            rw [HF.out] at h
            unfold recGo at h
            rw [if_pos hg, hSk, hl2] at h
            exact h.symm)
          have HNE : Hid (∀ (w' : World), wc.grownBy w' (Value.slice A1 b.length c1).ownBlock → Blk w' g 104 (LeafC L.epoch L.number L.first L.last A2 L.data.length c2)) := Lib.hid (fun w' hg' => hb.grown hg' (fun e => Mv.own_blk_ne HO.out hb (by decide) g e.symm rfl))
          have HY := Lib.hid (Bys.own ho)
          have HNN := Lib.hid (Mv.own_none ho)
          have hroom : b.length + L.data.length ≤ 140737488355328 := by omega
          have HRM := Lib.hid hroom
          have HBD := Lib.hid (show (b ++ L.data).length ≤ 46 * (k + 1) by rw [List.length_append]; omega)
          have HD := Lib.hid (show (b ++ L.data).length = b.length + L.data.length from List.length_append)
          clear hg hb ho hkx hO hB hL hT hSk hG hbl hlt hE hf hs64 hs HW q0 q1 q2 q3 q4 hl2 g1 hroom
          generalize hnn : L.number = nn at *
          generalize hee : L.epoch = le at *
          generalize hff : L.first = lf at *
          generalize hll : L.last = ll at *
          have HQ := Lib.hid (And.intro hnn (And.intro hee (And.intro hff hll)))
          have HLE := Lib.hid Le
          clear hnn hee hff hll
          have j0 : (0 : Int) ≤ (nn : Int) := by omega
          have j1 : (0 : Int) ≤ (le : Int) := by omega
          have c1' : ¬ (le : Int) < (least : Int) := by omega
          have c2' : decide (le < least) = false := by simp; omega
          have HKN := Lib.hid (show at_ + (k + 1) ≤ n by have := HLT.out; omega)
          subst hT2 g2
          by_cases k0 : k = 0
          · have e1 : lf = true := by rw [g3]; exact decide_eq_true k0
            clear g3 g4
            subst e1
            have kb : ((k : Int) == 0) = true := by rw [k0]; rfl
            have kc : ¬ (0 : Int) < (k : Int) := by omega
            have kd : decide (0 < k) = false := by simp; omega
            cases ll with
            | true =>
              rw [if_pos rfl] at HRE
              go_wp2_with ((at_builtin; refine By.wpList_append_bytes _ rfl _ _ 37 rfl w.heap.size 5 i0 Try.underlying37 hi0 hz0 hz1 hz2 (.slice A1 b.length c1) b.length b rfl HO.out wc.heap.size A2 L.data.length c2 L.data rfl HY.out HNN.out HRM.out HSZ.out ?_; intro v' w' hown hgrow hfr; obtain ⟨m0, m1, m2, m3, m4⟩ := Lf.box_cells (HNE.out w' hgrow); obtain ⟨A', c', rfl⟩ := Mv.own_value hown; have HFI := Lib.hid (show Own8 w' w.heap.size (.slice A' (b.length + L.data.length) c') (b ++ L.data) ∧ Below w.heap.size w w' from ⟨by unfold Own8; rw [HD.out]; exact hown, HBx.out.grown hgrow HSZ.out (fun g hg => (World.ownsRow.lt HO.out g hg).1)⟩); clear hown hgrow hfr l0 l1 l2 l3 l4))
              go_ret3
              exact ⟨A', c', by rw [HRE.out]; show _ = Ending.returned (.tuple #[.slice A' (b ++ L.data).length c', .int .i64 ((k + 1 : Nat) : Int), .int .u32 (le : Int)]); rw [HD.out, show ((k + 1 : Nat) : Int) = 1 by omega]; rfl, by rw [HRE.out]; show Own8 w' w.heap.size (.slice A' (b ++ L.data).length c') (b ++ L.data); rw [HD.out]; exact HFI.out.1, HFI.out.2⟩
            | false =>
              rw [if_neg (by simp)] at HRE
              go_wp2_with ((at_builtin; refine By.wpList_append_bytes _ rfl _ _ 37 rfl w.heap.size 5 i0 Try.underlying37 hi0 hz0 hz1 hz2 (.slice A1 b.length c1) b.length b rfl HO.out wc.heap.size A2 L.data.length c2 L.data rfl HY.out HNN.out HRM.out HSZ.out ?_; intro v' w' hown hgrow hfr; obtain ⟨m0, m1, m2, m3, m4⟩ := Lf.box_cells (HNE.out w' hgrow); obtain ⟨A', c', rfl⟩ := Mv.own_value hown; have HFI := Lib.hid (show Own8 w' w.heap.size (.slice A' (b.length + L.data.length) c') (b ++ L.data) ∧ Below w.heap.size w w' from ⟨by unfold Own8; rw [HD.out]; exact hown, HBx.out.grown hgrow HSZ.out (fun g hg => (World.ownsRow.lt HO.out g hg).1)⟩); clear hown hgrow hfr l0 l1 l2 l3 l4))
              go_roundw
              case rel => exact ⟨k + 1, le, b ++ L.data, A', c', by go_num, rfl, by rw [HD.out], HKN.out, HRE.out.symm, by rw [HD.out]; exact HFI.out.1, HFI.out.2, HBD.out, HLE.out⟩
              case measure => simp [intOf]; have := HLT.out; omega
          · have e1 : lf = false := by rw [g3]; exact decide_eq_false k0
            have e2 : le = E := g4.resolve_left k0
            clear g3 g4
            subst e1 e2
            have kb : ((k : Int) == 0) = false := beq_eq_false_iff_ne.2 (by omega)
            have kc : (0 : Int) < (k : Int) := by omega
            have kd : decide (0 < k) = true := by simp; omega
            cases ll with
            | true =>
              rw [if_pos rfl] at HRE
              go_wp2_with ((at_builtin; refine By.wpList_append_bytes _ rfl _ _ 37 rfl w.heap.size 5 i0 Try.underlying37 hi0 hz0 hz1 hz2 (.slice A1 b.length c1) b.length b rfl HO.out wc.heap.size A2 L.data.length c2 L.data rfl HY.out HNN.out HRM.out HSZ.out ?_; intro v' w' hown hgrow hfr; obtain ⟨m0, m1, m2, m3, m4⟩ := Lf.box_cells (HNE.out w' hgrow); obtain ⟨A', c', rfl⟩ := Mv.own_value hown; have HFI := Lib.hid (show Own8 w' w.heap.size (.slice A' (b.length + L.data.length) c') (b ++ L.data) ∧ Below w.heap.size w w' from ⟨by unfold Own8; rw [HD.out]; exact hown, HBx.out.grown hgrow HSZ.out (fun g hg => (World.ownsRow.lt HO.out g hg).1)⟩); clear hown hgrow hfr l0 l1 l2 l3 l4))
              go_ret3
              exact ⟨A', c', by rw [HRE.out]; show _ = Ending.returned (.tuple #[.slice A' (b ++ L.data).length c', .int .i64 ((k + 1 : Nat) : Int), .int .u32 (le : Int)]); rw [HD.out, show ((k + 1 : Nat) : Int) = (k : Int) + 1 by omega]; rfl, by rw [HRE.out]; show Own8 w' w.heap.size (.slice A' (b ++ L.data).length c') (b ++ L.data); rw [HD.out]; exact HFI.out.1, HFI.out.2⟩
            | false =>
              rw [if_neg (by simp)] at HRE
              go_wp2_with ((at_builtin; refine By.wpList_append_bytes _ rfl _ _ 37 rfl w.heap.size 5 i0 Try.underlying37 hi0 hz0 hz1 hz2 (.slice A1 b.length c1) b.length b rfl HO.out wc.heap.size A2 L.data.length c2 L.data rfl HY.out HNN.out HRM.out HSZ.out ?_; intro v' w' hown hgrow hfr; obtain ⟨m0, m1, m2, m3, m4⟩ := Lf.box_cells (HNE.out w' hgrow); obtain ⟨A', c', rfl⟩ := Mv.own_value hown; have HFI := Lib.hid (show Own8 w' w.heap.size (.slice A' (b.length + L.data.length) c') (b ++ L.data) ∧ Below w.heap.size w w' from ⟨by unfold Own8; rw [HD.out]; exact hown, HBx.out.grown hgrow HSZ.out (fun g hg => (World.ownsRow.lt HO.out g hg).1)⟩); clear hown hgrow hfr l0 l1 l2 l3 l4))
              go_roundw
              case rel => exact ⟨k + 1, le, b ++ L.data, A', c', by go_num, rfl, by rw [HD.out], HKN.out, HRE.out.symm, by rw [HD.out]; exact HFI.out.1, HFI.out.2, HBD.out, HLE.out⟩
              case measure => simp [intOf]; have := HLT.out; omega
        · have HN0 : Hid (R = ([], 0, 0)) := Lib.hid (by
            have h := HG.out
            rw [HF.out] at h
            unfold recGo at h
            rw [if_neg hg] at h
            exact h.symm)
          have hbad : T = false ∨ T = true ∧ (L.number ≠ num ∨ L.number = num ∧ (L.first ≠ decide (k = 0) ∨ L.first = decide (k = 0) ∧ ((k ≠ 0 ∧ L.epoch ≠ E) ∨ (k = 0 ∨ L.epoch = E) ∧ L.epoch < least))) := by
            cases hT2 : T with
            | false => exact .inl rfl
            | true =>
              right
              refine ⟨rfl, ?_⟩
              have ht : takesB s = true := by rw [HV.out.2, hT2]
              have hl2 : readB s = L := by
                have := HV.out.1
                unfold took at this
                rwa [ht, if_pos rfl] at this
              by_cases m1 : L.number = num
              · right
                refine ⟨m1, ?_⟩
                by_cases m2 : L.first = decide (k = 0)
                · right
                  refine ⟨m2, ?_⟩
                  by_cases m3 : k = 0 ∨ L.epoch = E
                  · right
                    refine ⟨m3, Nat.lt_of_not_le fun m4 => hg ?_⟩
                    rw [good_iff, HSk.out, hl2]
                    exact ⟨ht, m1, m2, m3, m4⟩
                  · left
                    exact ⟨fun h => m3 (.inl h), fun h => m3 (.inr h)⟩
                · exact .inl m2
              · exact .inl m1
          clear hg hb ho hkx hO hB hL hT hSk hG hbl hlt hE hf hs64 hs HW q0 q1 q2 q3 q4
          generalize hnn : L.number = nn at *
          generalize hee : L.epoch = le at *
          generalize hff : L.first = lf at *
          have HQ := Lib.hid (And.intro hnn (And.intro hee hff))
          clear hnn hee hff
          have j0 : (0 : Int) ≤ (nn : Int) := by omega
          have j1 : (0 : Int) ≤ (le : Int) := by omega
          rcases hbad with hT0 | ⟨hT1, hn | ⟨hn, hf | ⟨hf, ⟨hk0, he⟩ | ⟨hor, hle⟩⟩⟩⟩
          · subst hT0
            go_wp2
            go_ret3
            exact ⟨none, 0, by rw [HN0.out]; rfl, by rw [HN0.out]; exact Own8.nil _ _, HBx.out⟩
          · subst hT1
            have b1 : ((nn : Int) == (num : Int)) = false := beq_eq_false_iff_ne.2 (by omega)
            have b2 : ((nn : Int) != (num : Int)) = true := by rw [bne, b1]; rfl
            go_wp2
            go_ret3
            exact ⟨none, 0, by rw [HN0.out]; rfl, by rw [HN0.out]; exact Own8.nil _ _, HBx.out⟩
          · subst hT1 hn
            by_cases k0 : k = 0
            · have e1 : lf = false := by rw [decide_eq_true k0] at hf; simpa using hf
              subst e1 k0
              go_wp2
              go_ret3
              exact ⟨none, 0, by rw [HN0.out]; rfl, by rw [HN0.out]; exact Own8.nil _ _, HBx.out⟩
            · have e1 : lf = true := by rw [decide_eq_false k0] at hf; simpa using hf
              subst e1
              have kb : ((k : Int) == 0) = false := beq_eq_false_iff_ne.2 (by omega)
              go_wp2
              go_ret3
              exact ⟨none, 0, by rw [HN0.out]; rfl, by rw [HN0.out]; exact Own8.nil _ _, HBx.out⟩
          · subst hT1 hn
            have e1 : lf = false := by rw [hf]; exact decide_eq_false hk0
            clear hf
            subst e1
            have kb : ((k : Int) == 0) = false := beq_eq_false_iff_ne.2 (by omega)
            have kc : (0 : Int) < (k : Int) := by omega
            have kd : decide (0 < k) = true := by simp; omega
            have b1 : ((le : Int) == (E : Int)) = false := beq_eq_false_iff_ne.2 (by omega)
            have b2 : ((le : Int) != (E : Int)) = true := by rw [bne, b1]; rfl
            go_wp2
            go_ret3
            exact ⟨none, 0, by rw [HN0.out]; rfl, by rw [HN0.out]; exact Own8.nil _ _, HBx.out⟩
          · subst hT1 hn
            have c1 : (le : Int) < (least : Int) := by omega
            have c2 : decide (le < least) = true := by simpa using hle
            by_cases k0 : k = 0
            · have e1 : lf = true := by rw [hf]; exact decide_eq_true k0
              clear hf hor
              subst e1 k0
              go_wp2
              go_ret3
              exact ⟨none, 0, by rw [HN0.out]; rfl, by rw [HN0.out]; exact Own8.nil _ _, HBx.out⟩
            · have e1 : lf = false := by rw [hf]; exact decide_eq_false k0
              have e2 : le = E := hor.resolve_left k0
              clear hf hor
              subst e1 e2
              have kb : ((k : Int) == 0) = false := beq_eq_false_iff_ne.2 (by omega)
              have kc : (0 : Int) < (k : Int) := by omega
              have kd : decide (0 < k) = true := by simp; omega
              go_wp2
              go_ret3
              exact ⟨none, 0, by rw [HN0.out]; rfl, by rw [HN0.out]; exact Own8.nil _ _, HBx.out⟩
    · have k1 : ¬ (at_ : Int) + (k : Int) < (n : Int) := by omega
      have k2 : decide (at_ + k < n) = false := by simp; omega
      have HN0 : Hid (R = ([], 0, 0)) := Lib.hid (by
        rw [show n - at_ - k = 0 by omega] at hG
        exact hG.symm)
      have HBx := Lib.hid hB
      clear hG hlt hO hB
      go_wp2
      go_ret3
      exact ⟨none, 0, by rw [HN0.out]; rfl, by rw [HN0.out]; exact Own8.nil _ _, HBx.out⟩

end Go.Proofs.Ytedgookkogpfbaa.Jr
