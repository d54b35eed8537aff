/- The document's journal: Add. -/
import Derived.Test.YtedgookkogpfbaaJrD
import Derived.Test.YtedgookkogpfbaaDkX
import Derived.Test.YtedgookkogpfbaaLfX
import Derived.Test.YtedgookkogpfbaaLfY
import Derived.Test.YtedgookkogpfbaaJlF
set_option maxRecDepth 100000
namespace Go.Proofs.Ytedgookkogpfbaa.Jr
open Go.ChangeShapes Go.WideShapes Go.ChangeAt Go.RowKit
open Qu (Blk)
open Mv (Only Fresh)
open By (Own8 Bys cellsB cellsB_length)
open Dk (DS RefAt Sec secCells writeE writeD syncE syncD)
open Lf (LeafC layV layE own_lower)
open Jl (leaf_is write_nine sync_nine writeD_n' writeD_armed doneE moreJ)
set_option linter.unusedVariables false

/-- What Add answers and leaves: the disk, the journal; of the old blocks these two's alone have turned. -/
def RAddE (w : World) (B B' x : Nat) (p : Dk.Place) (A : Option Addr) (vs : List Value) (j : JS) (d : DS) (b : List UInt8) (e : Ending) (w' : World) : Prop :=
  e = .returned (.int .i64 (addE d j b)) ∧ RefAt w' B' p (addDS d j b) ∧ ∃ A' c' us, JAt w' B x p.x A' c' us (addJ d j b) ∧ Only w w' (fun i => p.has i ∨ JHas x A i) ∧ Fresh w (Value.slice A 0 0).ownBlock (Value.slice A' 0 0).ownBlock

section
variable {w w' : World} {B B' x c : Nat} {p : Dk.Place} {A : Option Addr} {vs : List Value} {j : JS} {d : DS} {b : List UInt8}

theorem rdone_die {W : World} (hs : stopE d j b = 0) (hE : doneE d j b = 9) (hJ : JAt W B x p.x A c vs j) (hD : RefAt W B' p (doneJ d j b).1) (hO : Only w W p.has) : RAddE w B B' x p A vs j d b (.returned (.int .i64 9)) (W.setCell ⟨x, 7, none⟩ (.bool true)) := by
  have h2 : (doneJ d j b).2 = false := by
    unfold doneE at hE
    cases h : (doneJ d j b).2 with
    | false => rfl
    | true => rw [h] at hE; exact absurd hE (by decide)
  have e1 : addE d j b = 9 := by unfold addE; rw [if_neg (by omega), h2]; rfl
  have e2 : addDS d j b = (doneJ d j b).1 := by unfold addDS; rw [if_neg (by omega)]
  have e3 : addJ d j b = { j with dead := true } := by unfold addJ; rw [e1, if_pos rfl]
  unfold RAddE
  rw [e1, e2, e3]
  exact ⟨rfl, hD.only hJ.die.2 (hJ.apart hD), A, c, vs, hJ.die.1, (hO.mono (fun i _ h => .inl h)).trans hJ.die.2 (fun i _ h => .inr h), .inl rfl⟩

theorem rdone_ok {W W3 : World} {A3 : Option Addr} {c3 : Nat} {us : List Value} (hs : stopE d j b = 0) (hE : doneE d j b = 0) (hD : RefAt W B' p (doneJ d j b).1) (hO : Only w W p.has) (hJ : JAt W B x p.x A c vs j)
    (hJ3 : JAt W3 B x p.x A3 c3 us (moreJ j b j.epoch)) (ho3 : Only W W3 (JHas x A)) (hf3 : Fresh W (Value.slice A 0 0).ownBlock (Value.slice A3 0 0).ownBlock) : RAddE w B B' x p A vs j d b (.returned (.int .i64 0)) W3 := by
  have h2 : (doneJ d j b).2 = true := by
    unfold doneE at hE
    cases h : (doneJ d j b).2 with
    | true => rfl
    | false => rw [h] at hE; exact absurd hE (by decide)
  have e1 : addE d j b = 0 := by unfold addE; rw [if_neg (by omega), h2]; rfl
  have e2 : addDS d j b = (doneJ d j b).1 := by unfold addDS; rw [if_neg (by omega)]
  have e3 : addJ d j b = moreJ j b j.epoch := by unfold addJ moreJ; rw [e1, if_neg (by decide), if_neg (by decide)]
  unfold RAddE
  rw [e1, e2, e3]
  refine ⟨rfl, hD.only ho3 (hJ.apart hD), A3, c3, _, hJ3, (hO.mono (fun i _ h => .inl h)).trans ho3 (fun i _ h => .inr h), ?_⟩
  rcases hf3 with h | ⟨k, h, hk⟩
  · exact .inl h
  · exact .inr ⟨k, h, Nat.le_trans hO.size hk⟩
end

set_option maxHeartbeats 8000000 in
theorem radd_go (w : World) (B B' x c cb : Nat) (A Ab : Option Addr) (vs : List Value) (j : JS) (p : Dk.Place) (d : DS) (b : List UInt8) (hJ : JAt w B x p.x A c vs j) (hD : RefAt w B' p d) (hu : j.used ≤ j.n) (hn : j.n ≤ 1000000) (hb : Bys w w.heap.size Ab b.length b) (hcb : b.length ≤ cb) (hcb2 : cb ≤ 9223372036854775807)
    (hfar : ∀ a, Ab = some a → ¬ p.has a.block) (hfx : ∀ a, Ab = some a → a.block ≠ x) (hs : stopE d j b = 0) (hl : j.l.length ≤ 1000000) (he1 : 1 ≤ j.epoch) (he2 : j.epoch < 2 ^ 32) (hdn : d.n ≤ 1000000) (hroom : j.o + j.n ≤ d.n) (hda : d.armed ≤ 9223372036854775807) :
    Calls Try.prog 45 #[.pointer (some ⟨x, 0, none⟩), .slice Ab b.length cb] w (RAddE w B B' x p A vs j d b) := by
  have HS := Lib.hid hs
  have e0 := hJ.box.cell 0
  have e2 := hJ.box.cell 2
  have e6 := hJ.box.cell 6
  have e7 := hJ.box.cell 7
  have f7 := hJ.box.frozen 7
  have d3 := hD.box.cell 3
  simp at e0 e2 e6 e7 d3
  have hst : stopE d j b = if j.dead || d.off then 9 else if b.length < 1 ∨ 400000 < b.length then 2 else if j.n - j.used < needN b.length then 6 else 0 := rfl
  rw [hs] at hst
  have hdead : j.dead = false := by
    cases hd : j.dead with
    | false => rfl
    | true => rw [hd, Bool.true_or, if_pos rfl] at hst; cases hst
  have hoff : d.off = false := by
    cases ho : d.off with
    | false => rfl
    | true => rw [ho, Bool.or_true, if_pos rfl] at hst; cases hst
  rw [hdead, hoff, Bool.or_false, if_neg (by simp)] at hst
  have h12 : ¬ (b.length < 1 ∨ 400000 < b.length) := fun h => by rw [if_pos h] at hst; cases hst
  rw [if_neg h12] at hst
  have h3 : ¬ j.n - j.used < needN b.length := fun h => by rw [if_pos h] at hst; cases hst
  rw [hdead] at e7
  rw [hoff] at d3
  have HN := Lib.hid (rneed_any (b.length : Int) w (by omega))
  have hnl := need_le b.length
  rw [Int.toNat_natCast] at HN
  obtain ⟨nd, hnd⟩ : ∃ nd, needN b.length = nd := ⟨_, rfl⟩
  rw [hnd] at HN h3 hnl
  have HND := Lib.hid hnd
  have b1 : ¬ (b.length : Int) < 1 := by omega
  have b2 : decide (b.length < 1) = false := decide_eq_false (by omega)
  have hb5 : nd ≤ j.n - j.used := by omega
  have b3 : ¬ (400000 : Int) < (b.length : Int) := by omega
  have b4 : decide (400000 < b.length) = false := decide_eq_false (by omega)
  have b5 : ¬ (j.n : Int) - (j.used : Int) < (nd : Int) := by omega
  have b6 : IntKind.i64.wrap ((j.n : Int) - (j.used : Int)) = (j.n : Int) - (j.used : Int) := IntWalk.i64_in _ (by omega)
  have HJ := Lib.hid hJ
  have HD := Lib.hid hD
  have HB := Lib.hid hb
  have HF := Lib.hid hfar
  have HFX := Lib.hid hfx
  have HBN := Lib.hid (show b.length ≤ 400000 ∧ 1 ≤ b.length ∧ nd ≤ b.length ∧ nd ≤ j.n - j.used ∧ 1 ≤ nd from by have := need_pos (k := b.length) (by omega); rw [hnd] at this; omega)
  have HDD := Lib.hid hdead
  clear hJ hD hst hs hdead hoff h12 hnd hb hfar hfx
  go_enter Try.func45, Try.ntmps45
  go_wp2_with (first | (refine HN.out.mono ?_; rintro e w2 ⟨rfl, hw⟩; rw [hw]; clear hw w2))
  go_region_held3 (fun u => u.cell? ⟨x, 2, none⟩ = some (.int .i64 (j.n : Int)) ∧ u.cell? ⟨x, 6, none⟩ = some (.int .i64 (j.used : Int)))
    (first
      | exact ⟨e2, e6⟩)
    (fail)
  unfold Exit.then
  dsimp only
  obtain ⟨w0, hw0⟩ : ∃ w0, w.drew = w0 := ⟨_, rfl⟩
  have HJ0 : Hid (JAt w0 B x p.x A c vs j ∧ RefAt w0 B' p d ∧ Bys w0 w0.heap.size Ab b.length b ∧ Only w w0 p.has) := Lib.hid (by rw [← hw0]; exact ⟨HJ.out.below (Below.refl _ _).drew, HD.out.below (Below.refl _ _).drew, HB.out.below (Below.refl _ _).drew (Nat.le_refl _), (Mv.Only.refl _ _).drew⟩)
  rw [hw0]
  clear e0 e2 e6 e7 f7 d3 b1 b2 b3 b4 b5 b6
  go_wp2_with fail
  go_loopw [6] (fun s wx => ∃ (k : Nat) (dk : DS), s = .int .i64 (k : Int) ∧ k ≤ nd ∧ RefAt wx B' p dk ∧ dk.n = d.n ∧ dk.armed ≤ d.armed ∧ JAt wx B x p.x A c vs j ∧ Bys wx wx.heap.size Ab b.length b ∧ Only w0 wx p.has ∧ writesD dk (j.o + j.used) (sectJ j b) (nd - k) k = writesD d (j.o + j.used) (sectJ j b) nd 0) (fun s _ => nd - (intOf s).toNat)
  case atStart => exact ⟨0, d, rfl, Nat.zero_le _, HJ0.out.2.1, rfl, Nat.le_refl _, HJ0.out.1, HJ0.out.2.2.1, Mv.Only.refl _ _, rfl⟩
  case round =>
    obtain ⟨k, dk, rfl, hk, hR, hRn, hRa, hJk, hBk, hO, hW⟩ := hrel
    by_cases hlt : k < nd
    · have k1 : (k : Int) < (nd : Int) := by omega
      have k2 : decide (k < nd) = true := by simpa using hlt
      have e3 := hJk.box.cell 3
      have e4 := hJk.box.cell 4
      simp at e3 e4
      have h46 : 46 * k < b.length := by
        have := HND.out
        exact need_last (by omega)
      obtain ⟨hi, hhi⟩ : ∃ hi, min (46 * k + 46) b.length = hi := ⟨_, rfl⟩
      have hh1 : hi ≤ b.length := by omega
      have hh2 : 46 * k ≤ hi := by omega
      obtain ⟨A2, hA2⟩ : ∃ A2, (if cb = 46 * k then Ab else Ab.map (·.add (46 * k))) = A2 := ⟨_, rfl⟩
      have hsm := fun W => By.slice_mid Ab b.length cb (46 * k) hi hh2 (by omega) W
      rw [hA2, show ((46 * k : Nat) : Int) = 46 * (k : Int) by omega] at hsm
      have hbm : Bys wr wr.heap.size A2 (hi - 46 * k) ((b.take hi).drop (46 * k)) := by
        have := By.Bys.mid hBk hh2 hh1 hcb
        rw [hA2] at this
        exact this
      have HBM := Lib.hid hbm
      have HBN2 := HBN.out
      have w1 : IntKind.i64.wrap (46 * (k : Int)) = 46 * (k : Int) := IntWalk.i64_in _ (by omega)
      have w2 : IntKind.i64.wrap (46 * (k : Int) + 46) = 46 * (k : Int) + 46 := IntWalk.i64_in _ (by omega)
      have w3 : IntKind.i64.wrap ((nd : Int) - 1) = (nd : Int) - 1 := IntWalk.i64_in _ (by omega)
      have w4 : IntKind.u32.wrap (j.l.length : Int) = (j.l.length : Int) := IntWalk.u32_in _ (by omega)
      have m1 : (if 46 * (k : Int) + 46 < (b.length : Int) then 46 * (k : Int) + 46 else (b.length : Int)) = (hi : Int) := by split <;> omega
      have m2 : (if (b.length : Int) < 46 * (k : Int) + 46 then (b.length : Int) else 46 * (k : Int) + 46) = (hi : Int) := by split <;> omega
      have HLT := Lib.hid (And.intro hlt (And.intro hhi (And.intro hh1 hh2)))
      have HWW := Lib.hid hW
      have HBK := Lib.hid (And.intro hBk (And.intro hRn hRa))
      have HR := Lib.hid (And.intro hR (And.intro hJk hO))
      have HHA := Lib.hid hA2
      clear hA2 hbm HBN2 hhi hh1 hh2 h46 hR hJk hO hBk hW
      go_upto_region 12 with (fail)
      obtain ⟨F, hF⟩ : ∃ F : Bool, ((k : Int) == 0) = F := ⟨_, rfl⟩
      obtain ⟨G, hG⟩ : ∃ G : Bool, ((k : Int) == (nd : Int) - 1) = G := ⟨_, rfl⟩
      have HFG := Lib.hid (And.intro hF hG)
      go_cut [7] (fun v wx => ∃ g, v = .pointer (some ⟨g, 0, none⟩) ∧ Blk wx g 104 (LeafC j.epoch j.l.length F G A2 (hi - 46 * k) (cb - 46 * k)) ∧ Below wr.heap.size wr wx)
      case first =>
        go_region_held3 (fun u => u.cell? ⟨x, 3, none⟩ = some (.int .u32 (j.epoch : Int)) ∧ u.cell? ⟨x, 4, none⟩ = some (.slice A j.l.length c) ∧ Below wr.heap.size wr u)
          (first
            | exact ⟨e3, e4, (Below.refl _ _).drew⟩
            | (go_split_ands; exact ⟨((Below.refl wr.heap.size wr).drew.alloc (Nat.le_refl _) _).cell (p := ⟨x, 3, none⟩) (HR.out.2.1.box.lt) |>.trans e3, ((Below.refl wr.heap.size wr).drew.alloc (Nat.le_refl _) _).cell (p := ⟨x, 4, none⟩) (HR.out.2.1.box.lt) |>.trans e4, (Below.refl wr.heap.size wr).drew.alloc (Nat.le_refl _) _⟩))
          (fail)
        all_goals
          unfold Exit.then
          dsimp only
          go_wp2_with fail
          go_meet
          refine ⟨wr.heap.size, rfl, ?_, (((Below.refl wr.heap.size wr).alloc (Nat.le_refl _) _)).drew⟩
          rw [← HFG.out.1, ← HFG.out.2]
          exact (Blk.new wr _ _).drew
      case rest =>
        obtain ⟨g, rfl, hg, hgb⟩ := hcut
        have hbc := HBM.out.below hgb (Nat.le_refl _)
        have HC := Lib.hid (And.intro (HR.out.2.1.below hgb) (And.intro (HR.out.1.below hgb) (HR.out.2.2.below hgb)))
        have HGB := Lib.hid hgb
        have HSC := Lib.hid hgb.size
        obtain ⟨V, hV⟩ : ∃ V, layV ⟨j.epoch, j.l.length, F, G, (b.take hi).drop (46 * k)⟩ = V := ⟨_, rfl⟩
        have hV64 : V.length = 64 := by rw [← hV]; exact Lf.layV_len _
        obtain ⟨VE, hVE⟩ : ∃ VE, layE ⟨j.epoch, j.l.length, F, G, (b.take hi).drop (46 * k)⟩ = VE := ⟨_, rfl⟩
        have hlay := Lf.rlayleaf_any wc j.epoch j.l.length (hi - 46 * k) (cb - 46 * k) F G A2 ((b.take hi).drop (46 * k)) (hbc.size) he2 (by omega)
        rw [hV, hVE] at hlay
        have HLAY := Lib.hid hlay
        have HV := Lib.hid (And.intro hV hVE)
        clear hlay hV hVE hbc hgb e3 e4 hsm
        go_wp2_with (first
          | ((with_reducible refine Lf.load_leaf (w := wc) (op := ⟨some 81, _, _, _, _, _⟩) ?_ (.tmp 7) ?_ _ ?_ _ hg ?_ ?_); (next => rfl); (next => rfl); (next => rfl); (next => rfl))
          | (go_at_call 65; refine HLAY.out.mono ?_; rintro en w5 ⟨rfl, k5⟩)
          | (with_reducible refine Dk.new_sec (w := w5) (op := ⟨some 8, _, _, _, _, _⟩) rfl rfl ?_; intro w6 hS6 hB6 hZ6)
          | ((with_reducible refine Dk.store_sec (w := w6) (op := ⟨none, _, _, _, _, _⟩) ?_ (.tmp 8) (.tmp 83) ?_ _ ?_ V ?_ _ hS6 hV64 ?_); (next => rfl); (next => rfl); (next => rfl); (next => rfl); intro w7 hS7 hG7))
        have hb7 : Below wc.heap.size wc w7 := (k5.trans (hB6.mono k5.size)).grown hG7 (by have := k5.size; have := hB6.size; omega) (fun q hq => by injection hq with hq; have := k5.size; omega)
        obtain ⟨g8, hg8⟩ : ∃ g8, w5.heap.size = g8 := ⟨_, rfl⟩
        rw [hg8] at hS7 ⊢
        have hgw : wc.heap.size ≤ g8 := by have := k5.size; omega
        have hJ7 := HC.out.1.below hb7
        have hR7 := HC.out.2.1.below hb7
        have q0 := hJ7.box.cell 0
        have q1 := hJ7.box.cell 1
        have q6 := hJ7.box.cell 6
        simp at q0 q1 q6
        have q8 : w7.rangeAt g8 0 (cellsB V) := hS7.range
        have hplt : ∀ i, p.has i → i < wc.heap.size := fun i hi => by
          rcases hi with hi | hi | hi | hi
          · rw [hi]; exact HC.out.2.1.box.lt
          · rw [hi]; exact (World.ownsRow.lt HC.out.2.1.now.2 p.a rfl).2
          · rw [hi]; exact (World.ownsRow.lt HC.out.2.1.sure.2 p.b rfl).2
          · rw [hi]; exact (World.ownsRow.lt HC.out.2.1.loose p.c rfl).2
        have hxp : ¬ p.has x := fun h => hJ7.apart hR7 x h (.inl rfl)
        have hgl := hS7.2.lt
        have hxl := hJ7.box.lt
        have HKP : Hid (∀ w', Only w7.drew w' p.has → w'.cell? ⟨x, 0, none⟩ = some (.pointer (some ⟨p.x, 0, none⟩)) ∧ w'.cell? ⟨x, 1, none⟩ = some (.int .i64 (j.o : Int)) ∧ w'.cell? ⟨x, 6, none⟩ = some (.int .i64 (j.used : Int)) ∧ w'.rangeAt g8 0 (cellsB V)) := Lib.hid (fun w' ho => ⟨(ho.cell hxl hxp).trans q0, (ho.cell hxl hxp).trans q1, (ho.cell hxl hxp).trans q6, fun i v hv => (ho.cell hgl (fun h => by have := hplt g8 h; omega)).trans (q8 i v hv)⟩)
        have HW := Lib.hid (Dk.rwrite_any w7.drew B' p dk ((j.o : Int) + (j.used : Int) + (k : Int)) V (hR7.below (Below.refl _ _).drew) (by have := HLT.out.1; have := HBN.out; omega) (by omega) hV64 (by omega))
        have HJ7 := Lib.hid (And.intro hJ7 (And.intro hR7 hb7))
        have v1 : IntKind.i64.wrap ((j.o : Int) + (j.used : Int)) = (j.o : Int) + (j.used : Int) := IntWalk.i64_in _ (by omega)
        have v2 : IntKind.i64.wrap ((j.o : Int) + (j.used : Int) + (k : Int)) = (j.o : Int) + (j.used : Int) + (k : Int) := IntWalk.i64_in _ (by have := HBN.out; omega)
        have hu : Try.prog.underlying 43 = some (.array 64 5) := Try.underlying43
        have hi : (Try.prog.info? 43).map (·.size) = some (cellsB V).length := by rw [Dk.size_sector, cellsB_length, hV64]
        obtain ⟨E, hE⟩ : ∃ E, Dk.writeE dk ((j.o : Int) + (j.used : Int) + (k : Int)) = E := ⟨_, rfl⟩
        rw [hE] at HW
        have HE := Lib.hid hE
        clear hE hJ7 hR7 hb7 hplt hxp hgl hxl hgw hS7 hG7 hS6 hB6 hZ6 k5 hg8 hg
        go_region_held3 (fun u => u.cell? ⟨x, 0, none⟩ = some (.pointer (some ⟨p.x, 0, none⟩)) ∧ u.cell? ⟨x, 1, none⟩ = some (.int .i64 (j.o : Int)) ∧ u.cell? ⟨x, 6, none⟩ = some (.int .i64 (j.used : Int)) ∧ u.rangeAt g8 0 (cellsB V))
          (first
            | exact ⟨q0, q1, q6, q8⟩
            | exact HKP.out _ o9)
          (first
            | (go_at_call 19; refine HW.out.mono ?_; rintro q w9 ⟨rfl, r9, o9⟩))
        unfold Exit.then
        dsimp only
        have hleaf := leaf_is (j := j) (by omega) HND.out HLT.out.1 HLT.out.2.1 HFG.out.1 HFG.out.2
        have HVS : Hid (V = sectJ j b k) := Lib.hid (by
          have hV := HV.out.1
          rw [hleaf] at hV
          rw [← hV]
          unfold layV
          rw [leaf_right (by rw [HND.out]; exact HLT.out.1) he1, if_pos rfl]
          rfl)
        have hcast : ((j.o + j.used + k : Nat) : Int) = (j.o : Int) + (j.used : Int) + (k : Int) := by omega
        have hE09 : E = 0 ∨ E = 9 := by
          rw [← HE.out, ← hcast]
          exact write_nine (by have := HBN.out; have := HLT.out.1; have := HBK.out.2.1; omega)
        have HEC := Lib.hid (And.intro HE.out hcast)
        obtain ⟨hj7, hr7, hb7⟩ := HJ7.out
        have hdr : Only w7 w9 p.has := ((Mv.Only.refl w7 p.has).drew).trans o9 (fun _ _ h => h)
        have hcO : Only w0 w7 p.has := (HC.out.2.2).below hb7
        have H9 := Lib.hid (show JAt w9 B x p.x A c vs j ∧ RefAt w9 B' p (writeD dk ((j.o : Int) + (j.used : Int) + (k : Int)) V) ∧ Only w0 w9 p.has from
          ⟨hj7.disk hr7 hdr, r9, hcO.trans hdr (fun _ _ h => h)⟩)
        have HB9 : Hid (Bys w9 w9.heap.size Ab b.length b) := Lib.hid ⟨HBK.out.1.len, fun i z hz => by
          obtain ⟨bb, oo, h1, h2, h3⟩ := HBK.out.1.cell i z hz
          have hbc : Below wr.heap.size wr w7 := HGB.out.trans (hb7.mono HGB.out.size)
          have h4 := Nat.lt_of_lt_of_le h2 hbc.size
          exact ⟨bb, oo, h1, Nat.lt_of_lt_of_le h4 hdr.size, ((hdr.cell h4 (HF.out _ h1)).trans (hbc.cell (p := ⟨bb, oo + i, none⟩) h2)).trans h3⟩⟩
        clear r9 o9 hj7 hr7 hb7 hdr hcO hleaf hcast HKP HW q0 q1 q6 q8
        rcases hE09 with hE0 | hE9
        · subst hE0
          go_wp2_with fail
          go_roundw
          case rel =>
            refine ⟨k + 1, writeD dk ((j.o : Int) + (j.used : Int) + (k : Int)) V, by go_num, by have := HLT.out.1; omega, H9.out.2.1, (writeD_n' _ _ _).trans HBK.out.2.1, Nat.le_trans (writeD_armed _ _ _) HBK.out.2.2, H9.out.1, HB9.out, H9.out.2.2, ?_⟩
            rw [← HWW.out, show nd - k = (nd - (k + 1)) + 1 by have := HLT.out.1; omega]
            show _ = (if writeE dk ((j.o + j.used + k : Nat) : Int) = 0 then _ else _)
            rw [HEC.out.2, HEC.out.1, if_pos rfl, HVS.out]
          case measure => simp [intOf]; have := HLT.out.1; omega
        · subst hE9
          have HDN : Hid (doneJ d j b = (writeD dk ((j.o : Int) + (j.used : Int) + (k : Int)) V, false)) := Lib.hid (by
            have e : writesD dk (j.o + j.used) (sectJ j b) ((nd - (k + 1)) + 1) k = (writeD dk ((j.o : Int) + (j.used : Int) + (k : Int)) V, false) := by
              unfold writesD
              rw [HEC.out.2, HEC.out.1, if_neg (by decide), HVS.out]
            unfold doneJ addD
            rw [HND.out, ← HWW.out, show nd - k = (nd - (k + 1)) + 1 by have := HLT.out.1; omega, e]
            rfl)
          have e7 := H9.out.1.box.cell 7
          have f7 := H9.out.1.box.frozen 7
          simp at e7
          have HFI := Lib.hid (rdone_die HS.out (show doneE d j b = 9 by unfold doneE; rw [HDN.out]; rfl) H9.out.1 (show RefAt w9 B' p (doneJ d j b).1 by rw [HDN.out]; exact H9.out.2.1) (HJ0.out.2.2.2.trans H9.out.2.2 (fun _ _ h => h)))
          go_wp2_with fail
          go_ret
          exact HFI.out
    · obtain rfl : k = nd := by omega
      have k1 : ¬ (k : Int) < (k : Int) := by omega
      have q0 := hJk.box.cell 0
      simp at q0
      have HBN2 := HBN.out
      have HSY := Lib.hid (Dk.rsync_any wr B' p dk hR (by omega) (by omega) (by omega))
      have HDN : Hid (doneJ d j b = (syncD dk, decide (syncE dk = 0))) := Lib.hid (by
        unfold doneJ addD
        rw [HND.out, ← hW, Nat.sub_self]
        rfl)
      have h09 := sync_nine dk
      obtain ⟨E, hE⟩ : ∃ E, syncE dk = E := ⟨_, rfl⟩
      have HRE : Hid (doneE d j b = E) := Lib.hid (by
        unfold doneE
        rw [HDN.out, ← hE]
        rcases h09 with h | h
        · rw [h]; rfl
        · rw [h]; rfl)
      rw [hE] at h09 HSY
      have HR := Lib.hid (And.intro hR (And.intro hJk (And.intro hO hBk)))
      clear hR hJk hO hBk hW HBN2 hlt hk hE
      go_wp2_with fail
      refine HSY.out.mono ?_
      rintro r9 w9 ⟨rfl, h9, o9⟩
      have hj9 := HR.out.2.1.disk HR.out.1 o9
      have H9 := Lib.hid (show JAt w9 B x p.x A c vs j ∧ RefAt w9 B' p (doneJ d j b).1 ∧ Only w w9 p.has ∧ Bys w9 w9.heap.size Ab b.length b from
        ⟨hj9, by rw [HDN.out]; exact h9, HJ0.out.2.2.2.trans (HR.out.2.2.1.trans o9 (fun _ _ h => h)) (fun _ _ h => h), ⟨HR.out.2.2.2.len, fun i z hz => by
          obtain ⟨bb, oo, h1, h2, h3⟩ := HR.out.2.2.2.cell i z hz
          exact ⟨bb, oo, h1, Nat.lt_of_lt_of_le h2 o9.size, (o9.cell h2 (HF.out _ h1)).trans h3⟩⟩⟩)
      have e7 := H9.out.1.box.cell 7
      have f7 := H9.out.1.box.frozen 7
      have e3 := H9.out.1.box.cell 3
      have e4 := H9.out.1.box.cell 4
      have e5 := H9.out.1.box.cell 5
      have f5 := H9.out.1.box.frozen 5
      simp at e7 e3 e4 e5
      clear h9 o9 hj9 q0
      rcases h09 with hE0 | hE9
      · subst hE0
        have l0 : (j.l.length : Int) ≤ 1000000 := by omega
        by_cases h0 : j.l.length = 0
        case' pos =>
          have b1 : ((j.l.length : Int) == 0) = true := by rw [h0]; rfl
          obtain ⟨W2, hW2⟩ : ∃ W2, W2 = w9.setCell ⟨x, 5, none⟩ (.int .u32 (j.epoch : Int)) := ⟨_, rfl⟩
          have HW2 : Hid (Blk W2 x 88 #[.pointer (some ⟨p.x, 0, none⟩), .int .i64 (j.o : Int), .int .i64 (j.n : Int), .int .u32 (j.epoch : Int), .slice A j.l.length c, .int .u32 ((moreJ j b j.epoch).begun : Int), .int .i64 (j.used : Int), .bool j.dead] ∧ Recd W2 B A j.l.length c vs j.l ∧ Bys W2 W2.heap.size Ab b.length b ∧ Only w9 W2 (JHas x A)) := Lib.hid (by
            rw [hW2, show (moreJ j b j.epoch).begun = j.epoch from if_pos h0]
            exact ⟨H9.out.1.box.put 5 _, H9.out.1.rows.put H9.out.1.box (by decide) (by decide), ⟨H9.out.2.2.2.len, fun i z hz => by
              obtain ⟨bb, oo, h1, h2, h3⟩ := H9.out.2.2.2.cell i z hz
              have ho := (Mv.Only.refl w9 (Mv.one x)).put (i := 5) (.int .u32 (j.epoch : Int)) (fun _ => rfl)
              exact ⟨bb, oo, h1, Nat.lt_of_lt_of_le h2 ho.size, (ho.cell h2 (fun hs => HFX.out _ h1 hs)).trans h3⟩⟩, (Mv.Only.refl _ _).put _ (fun _ => .inl rfl)⟩)
          have HWW := Lib.hid hW2
          clear h0 hW2
        case' neg =>
          have b1 : ((j.l.length : Int) == 0) = false := beq_eq_false_iff_ne.2 (by omega)
          obtain ⟨W2, hW2⟩ : ∃ W2, W2 = w9 := ⟨_, rfl⟩
          have HW2 : Hid (Blk W2 x 88 #[.pointer (some ⟨p.x, 0, none⟩), .int .i64 (j.o : Int), .int .i64 (j.n : Int), .int .u32 (j.epoch : Int), .slice A j.l.length c, .int .u32 ((moreJ j b j.epoch).begun : Int), .int .i64 (j.used : Int), .bool j.dead] ∧ Recd W2 B A j.l.length c vs j.l ∧ Bys W2 W2.heap.size Ab b.length b ∧ Only w9 W2 (JHas x A)) := Lib.hid (by
            rw [hW2, show (moreJ j b j.epoch).begun = j.begun from if_neg h0]
            exact ⟨H9.out.1.box, H9.out.1.rows, H9.out.2.2.2, Mv.Only.refl _ _⟩)
          have HWW := Lib.hid hW2
          clear h0 hW2
        all_goals
          go_upto_region 22 with (fail)
          rw [← HWW.out]
          clear e3 e4 e5 e7 f5 f7
          have r4 := HW2.out.1.cell 4
          simp at r4
          obtain ⟨i0, hi0, hz0, hz1, hz2⟩ := info_parts info_bytes
          have hBx := HW2.out.2.2.1.below (Below.refl _ _).drew (Nat.le_refl _)
          have hAb : Ab = none → b.length = 0 ∧ cb = 0 := fun h => by
            have hb1 := HBN.out.2.1
            obtain ⟨z, hz⟩ : ∃ z, b[0]? = some z := ⟨_, List.getElem?_eq_getElem (by omega)⟩
            obtain ⟨bb, oo, h1, _⟩ := hBx.cell 0 z hz
            rw [h] at h1
            cases h1
          have hb40 : b.length ≤ 1000000000000 := by have := HBN.out.1; omega
          have HB2 : Hid (B ≤ W2.heap.size) := Lib.hid (by have := HJ.out.base; have := HW2.out.1.lt; omega)
          have HK5 : Hid (∀ (w5 : World) (A5 : Option Addr) (c5 : Nat), Own8 w5 W2.heap.size (.slice A5 b.length c5) b → Below W2.drew.heap.size W2.drew w5 →
              Blk w5 x 88 #[.pointer (some ⟨p.x, 0, none⟩), .int .i64 (j.o : Int), .int .i64 (j.n : Int), .int .u32 (j.epoch : Int), .slice A j.l.length c, .int .u32 ((moreJ j b j.epoch).begun : Int), .int .i64 (j.used : Int), .bool j.dead] ∧ Recd w5 B A j.l.length c vs j.l ∧ Own8 w5 B (.slice A5 b.length c5) b ∧ Only w9 w5 (JHas x A) ∧
              (j.l.length + 1 ≤ maxLen ∧ (j.l.length + 1) * 24 ≤ 140737488355328 ∧ B ≤ (w5.alloc (.cells #[.slice A5 b.length c5] 37)).heap.size ∧ (w5.alloc (.cells #[.slice A5 b.length c5] 37)).heap.size = w5.heap.size + 1)) := Lib.hid (fun w5 A5 c5 h8 hb => by
            have hb5 : Below W2.heap.size W2 w5 := Qu.below_undrew hb
            have := HB2.out
            have := hb5.size
            exact ⟨HW2.out.1.below hb5, HW2.out.2.1.only (Mv.Only.ofBelow hb5 fun _ => False) (fun _ _ h => h), own_lower h8 HB2.out, HW2.out.2.2.2.below hb5, by unfold maxLen; omega, by omega, by simp; omega, by simp⟩)
          go_region_law (first
            | (refine Lf.step_append_none (by rfl) (.const (.slice none 0 0)) (.tmp 133) (by rfl) (by rfl) W2.heap.size Ab b.length cb b (by rfl) hBx hAb hb40 ?_; intro v5 w5 hown5 hb5; obtain ⟨A5, c5, rfl⟩ := Mv.own_value hown5; have H5 := Lib.hid (HK5.out w5 A5 c5 hown5 hb5); have s4 := H5.out.1.cell 4; have s4' := (H5.out.1.alloc (.cells #[.slice A5 b.length c5] 37)).cell 4; simp at s4 s4'; clear hown5 hb5)
            | (refine step_append_lies (w5.alloc (.cells #[.slice A5 b.length c5] 37)) (by rfl) (.tmp 132) (.tmp 135) 49 (by rfl) B 37 i0 _ 1 24 Try.underlying49 hi0 hz0 hz1 hz2 rfl (by omega) (.slice A j.l.length c) j.l.length vs (by rfl) (H5.out.2.1.own.alloc _) ⟨w5.heap.size, 0, none⟩ 1 1 [.slice A5 b.length c5] (by rfl) (by rfl) (World.news_of_block (cs := #[.slice A5 b.length c5]) (t := 37) (fr := (0, 0)) (heap_alloc_new w5 _)) (by simp [Value.oneCell']) (by omega) H5.out.2.2.2.2.1 H5.out.2.2.2.2.2.1 H5.out.2.2.2.2.2.2.1 (w5.heap.size + 1) H5.out.2.2.2.2.2.2.2 ?_; intro g cp w7 hown hgrow hat hlt; have hb7 := (H5.out.1.alloc (.cells #[.slice A5 b.length c5] 37)).grown hgrow (fun e => Mv.own_blk_ne H5.out.2.1.own H5.out.1 (by decide) x e.symm rfl); have y4 := hb7.cell 4; have y4f := hb7.frozen 4; simp at y4; have y6 := (hb7.put 4 (.slice (some ⟨g, 0, none⟩) (j.l.length + 1) cp)).cell 6; have y6f := (hb7.put 4 (.slice (some ⟨g, 0, none⟩) (j.l.length + 1) cp)).frozen 6; simp at y6; have HP := Lib.hid (And.intro (JAt.push (ob := .cells #[.slice A5 b.length c5] 37) (used' := j.used + k) HJ.out.base H5.out.1 H5.out.2.1 H5.out.2.2.1 hown hgrow) (And.intro hat hb7)); clear hown hgrow hat hlt hb7))
          all_goals
            have w6 : IntKind.i64.wrap ((j.used : Int) + (k : Int)) = (j.used : Int) + (k : Int) := IntWalk.i64_in _ (by have := HBN.out; omega)
            clear r4 s4 s4' hBx hAb y4 y4f
            go_wp2_with fail
            go_ret
            have e6 : ((j.used + k : Nat) : Int) = (j.used : Int) + (k : Int) := by omega
            obtain ⟨⟨hp1, hp2⟩, hat, _⟩ := HP.out
            rw [e6] at hp1 hp2
            have hMJ : (⟨j.o, j.n, j.epoch, j.l ++ [b], (moreJ j b j.epoch).begun, j.used + k, j.dead⟩ : JS) = moreJ j b j.epoch := by
              unfold moreJ
              rw [HND.out]
            rw [hMJ] at hp1
            refine rdone_ok HS.out HRE.out H9.out.2.1 H9.out.2.2.1 H9.out.1 hp1 (H5.out.2.2.2.1.trans hp2 (fun _ _ h => h)) ?_
            rcases hat with hat | hat
            · exact .inl ((ownBlock_any A 0 0 j.l.length c).trans hat).symm
            · exact .inr ⟨g, rfl, by have := H5.out.2.2.2.1.size; omega⟩
      · subst hE9
        have HFI := Lib.hid (rdone_die HS.out HRE.out H9.out.1 H9.out.2.1 H9.out.2.2.1)
        go_wp2_with fail
        go_ret
        exact HFI.out

end Go.Proofs.Ytedgookkogpfbaa.Jr
