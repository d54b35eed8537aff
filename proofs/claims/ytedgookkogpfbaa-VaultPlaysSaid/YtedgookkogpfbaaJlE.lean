/- The landed journal: Open; write. -/
import Derived.Test.YtedgookkogpfbaaJlO
import Derived.Test.YtedgookkogpfbaaLfY
import Derived.Deep.CutBlock
import Derived.Deep.DeepCutAuto
set_option maxRecDepth 100000
namespace Go.Proofs.Ytedgookkogpfbaa.Jl
open Go.ChangeShapes Go.WideShapes Go.ChangeAt Go.RowKit
open Qu (Blk)
open Mv (Only Fresh)
open By (Own8 Bys cellsB cellsB_length)
open Dk (DS Sec secCells writeE writeD syncE syncD)
open Dd (Lay At Tidy)
open Lf (own_lower own_far LeafC layV layE)
open Jr (JS Recd JHas needN need_le own_own_ne ownBlock_any blk_blk_ne newE blankJ openJ stopE addE addDS addJ sectJ doneJ writesD addD need_last)
set_option linter.unusedVariables false

/-! ### Open -/
theorem open_nil (o n : Int) (e : Nat) (w : World) :
    Calls Try.prog 38 #[.pointer none, .int .i64 o, .int .i64 n, .int .u32 (e : Int)] w fun r w' => r = .returned (.tuple #[.pointer none, .int .i64 1]) ∧ w' = w := by
  have HK := Lib.hid (new_nil o n e w)
  go_enter Try.func38, Try.ntmps38
  go_wp2_with (first | (refine HK.out.mono ?_; rintro e w2 ⟨rfl, rfl⟩))
  go_ret2
  exact ⟨rfl, rfl⟩

theorem open_bad (w : World) (B : Nat) (q : Dd.Pl) (d : DS) (o n : Int) (e : Nat) (h : Lay w B q d) (hn : d.n ≤ 1000000) (ho1 : -9223372036854775808 ≤ o) (ho : o ≤ 9223372036854775807) (hn1 : -9223372036854775808 ≤ n) (hn2 : n ≤ 9223372036854775807) (he : e < 2 ^ 32) (hE : newE d o n e ≠ 0) :
    Calls Try.prog 38 #[.pointer (some ⟨q.x, 0, none⟩), .int .i64 o, .int .i64 n, .int .u32 (e : Int)] w fun r w' => r = .returned (.tuple #[.pointer none, .int .i64 (newE d o n e)]) ∧ w' = w := by
  have HK := Lib.hid (new_bad w B q d o n e h hn ho1 ho hn1 hn2 he hE)
  generalize newE d o n e = E at *
  have b1 : (E == 0) = false := beq_eq_false_iff_ne.2 hE
  have b2 : (E != 0) = true := by rw [bne, b1]; rfl
  clear h hE
  go_enter Try.func38, Try.ntmps38
  go_wp2_with (first | (refine HK.out.mono ?_; rintro e w2 ⟨rfl, rfl⟩))
  go_ret2
  exact ⟨rfl, rfl⟩

theorem open_ok (w : World) (B : Nat) (q : Dd.Pl) (d : DS) (o n e : Nat) (h : Lay w B q d) (hn : d.n ≤ 1000000) (he : e < 2 ^ 32) (hE : newE d o n e = 0) :
    Calls Try.prog 38 #[.pointer (some ⟨q.x, 0, none⟩), .int .i64 (o : Int), .int .i64 (n : Int), .int .u32 (e : Int)] w fun r w' => ∃ x A c vs, r = .returned (.tuple #[.pointer (some ⟨x, 0, none⟩), .int .i64 0]) ∧ w.heap.size ≤ x ∧ JAt w' w.heap.size x q.x A c vs (openJ d o n e) ∧ Below w.heap.size w w' := by
  have HK := Lib.hid (new_ok w B q d o n e h hn he hE)
  have HH : Hid (o + n ≤ d.n ∧ d.off = false ∧ d.n ≤ 1000000) := Lib.hid (by
    unfold newE at hE
    split at hE
    · cases hE
    · refine ⟨by omega, ?_, hn⟩
      cases hd : d.off with
      | false => rfl
      | true => rw [hd] at hE; cases hE)
  have HD := Lib.hid h
  have HE2 := Lib.hid he
  clear h hE hn he
  go_enter Try.func38, Try.ntmps38
  go_wp2_with fail
  refine HK.out.mono ?_
  rintro r w2 ⟨x, rfl, hx, hJ, hB⟩
  have HF := Lib.hid (find_any w2 w.heap.size B x o n e q d hJ (HD.out.below hB) HH.out.2.1 HH.out.2.2 HH.out.1 HE2.out)
  have HX := Lib.hid (And.intro hx (And.intro hB hJ.box.lt))
  clear hx hJ hB
  go_wp2_with fail
  refine HF.out.mono ?_
  rintro r w3 ⟨rfl, A, c, vs, hJ, hFr, hO⟩
  have HR := Lib.hid (And.intro hJ hO)
  clear hJ hFr hO
  go_wp2_with fail
  go_ret2
  exact ⟨x, A, c, vs, rfl, HX.out.1, HR.out.1, HX.out.2.1.trans (Mv.Only.toBelow HR.out.2 HX.out.2.1.size (fun k hk hs => by have e : k = x := hs; have := HX.out.1; omega))⟩

/-! ### write -/
theorem write_nine {d : DS} {i : Nat} (hi : i < d.n) : writeE d (i : Int) = 0 ∨ writeE d (i : Int) = 9 := by
  unfold writeE
  cases ho : d.off with
  | true =>
    rw [Dk.readE_down ho, if_pos (by decide)]
    exact .inr rfl
  | false =>
    rw [Dk.readE_ok ho (by omega) (by omega), if_neg (fun h => h rfl)]
    split
    · exact .inr rfl
    · exact .inl rfl

theorem sync_nine (d : DS) : syncE d = 0 ∨ syncE d = 9 := by
  unfold syncE
  split
  · exact .inr rfl
  · exact .inl rfl

theorem writeD_n' (d : DS) (i : Int) (b : List UInt8) : (writeD d i b).n = d.n := by
  unfold writeD
  split
  · rfl
  · show (d.now.set i.toNat b).length = d.now.length
    rw [List.length_set]

/-- What write tells. -/
def doneE (d : DS) (j : JS) (b : List UInt8) : Int := if (doneJ d j b).2 then 0 else 9

theorem writeD_armed (d : DS) (i : Int) (b : List UInt8) : (writeD d i b).armed ≤ d.armed := by
  unfold writeD
  split
  · exact Nat.le_refl _
  · show d.armed - 1 ≤ d.armed
    omega

/-- The leaf that the loop lays is the record's. -/
theorem leaf_is {j : JS} {b : List UInt8} {k nd hi : Nat} (hl : j.l.length < 4294967296) (hnd : needN b.length = nd) (hk : k < nd) (hhi : min (46 * k + 46) b.length = hi) {F G : Bool} (hF : ((k : Int) == 0) = F) (hG : ((k : Int) == (nd : Int) - 1) = G) :
    (⟨j.epoch, j.l.length, F, G, (b.take hi).drop (46 * k)⟩ : Lf.Leaf) = Jr.leafN j.epoch (j.l.length % 4294967296) b k := by
  have h1 : F = decide (k = 0) := by rw [← hF, Bool.eq_iff_iff]; simp
  have h2 : G = decide (k + 1 = needN b.length) := by rw [← hG, Bool.eq_iff_iff, hnd]; simp; omega
  have h46 : 46 * k < b.length := need_last (by rw [hnd]; exact hk)
  have h3 : (b.take hi).drop (46 * k) = Lf.cut b (46 * k) (min 46 (b.length - 46 * k)) := by
    unfold Lf.cut
    first
      | (rw [List.drop_take]; congr 1; omega)
      | (congr 2; omega)
  unfold Jr.leafN
  rw [h1, h2, h3, Nat.mod_eq_of_lt hl]

theorem sec_below {w w' : World} {g : Nat} {s : List UInt8} (h : Sec w g s) (hb : Below w.heap.size w w') : Sec w' g s := ⟨h.1, h.2.below hb⟩

/-- A new sector, a sector that is stored, at a step of a region that draws. -/
theorem step_new_sec {ops : Array Oper} {o : Oper} {a : Act} {w : World} {K : Act → World → Prop} {Q : Exit → Act → World → Prop} {E : Prop} (free : o.guard = none) (is : o.op = .alloc 43)
    (go : ∀ w', Sec w' w.heap.size Se.noughts → Below w.heap.size w w' → w'.heap.size = w.heap.size + 1 → K (a.put o.dst (.pointer (some ⟨w.heap.size, 0, none⟩))) w') : if Region.wanted o (yielded ops a.tmps) = true then Oper.wp Try.prog o a w K Q else E := by
  have hw : Region.wanted o (yielded ops a.tmps) = true := by simp [Region.wanted, free]
  rw [if_pos hw]
  unfold Oper.wp execOp
  simp only [is, Dk.alloc_sec, Sem.run_bind, Sem.run_pure, Result.andThen_ok]
  exact go _ (Sec.new w _ Se.noughts_len) ((Below.refl _ _).alloc (Nat.le_refl _) _) (by simp)

theorem step_store_sec {ops : Array Oper} {o : Oper} {a : Act} {w : World} {K : Act → World → Prop} {Q : Exit → Act → World → Prop} {E : Prop} (free : o.guard = none) (x y : Operand) (is : o.op = .store 43 x y) (g : Nat) (vx : a.eval x = .pointer (some ⟨g, 0, none⟩)) (t : List UInt8) (vy : a.eval y = .agg (secCells t)) (s : List UInt8) (h : Sec w g s) (ht : t.length = 64)
    (go : ∀ w', Sec w' g t → w.grownBy w' (some g) → K (a.put o.dst undef) w') : if Region.wanted o (yielded ops a.tmps) = true then Oper.wp Try.prog o a w K Q else E := by
  have hw : Region.wanted o (yielded ops a.tmps) = true := by simp [Region.wanted, free]
  rw [if_pos hw]
  obtain ⟨h1, h2⟩ := h.put ht
  unfold Oper.wp execOp
  simp only [is, vx, vy, h.store ht, Sem.run_bind, Sem.run_pure, Result.andThen_ok]
  exact go _ h1 h2

set_option maxHeartbeats 4000000 in
theorem write_any (w : World) (B B' x c cb : Nat) (A Ab : Option Addr) (vs : List Value) (j : JS) (q : Dd.Pl) (d : DS) (b : List UInt8) (hJ : JAt w B x q.x A c vs j) (hD : At w B' q d) (hu : j.used ≤ j.n) (hn : j.n ≤ 1000000) (hb : Bys w w.heap.size Ab b.length b) (hcb : b.length ≤ cb) (hcb2 : cb ≤ 9223372036854775807)
    (hfar : ∀ a, Ab = some a → ¬ q.has a.block) (hlen : 1 ≤ b.length ∧ b.length ≤ 400000) (hnd : needN b.length ≤ j.n - j.used) (hl : j.l.length ≤ 1000000) (he1 : 1 ≤ j.epoch) (he2 : j.epoch < 2 ^ 32) (hdn : d.n ≤ 20000) (hroom : j.o + j.n ≤ d.n) (hda : d.armed ≤ 9223372036854775807) :
    Calls Try.prog 70 #[.pointer (some ⟨x, 0, none⟩), .slice Ab b.length cb] w fun e w' => e = .returned (.int .i64 (doneE d j b)) ∧ At w' B' q (doneJ d j b).1 ∧ Only w w' q.has := by
  have e1 := hJ.box.cell 1
  have e6 := hJ.box.cell 6
  simp at e1 e6
  have HND := need_any (b.length : Int) w.drew (by omega)
  rw [Int.toNat_natCast] at HND
  have hnl := need_le b.length
  obtain ⟨nd, hnd2⟩ : ∃ nd, needN b.length = nd := ⟨_, rfl⟩
  rw [hnd2] at HND hnd hnl
  have HN := Lib.hid HND
  have HN2 := Lib.hid hnd2
  have b6 : IntKind.i64.wrap ((j.o : Int) + (j.used : Int)) = (j.o : Int) + (j.used : Int) := IntWalk.i64_in _ (by omega)
  have b7 : IntKind.i64.wrap ((nd : Int) - 1) = (nd : Int) - 1 := IntWalk.i64_in _ (by omega)
  have b8 : IntKind.i64.wrap ((nd : Int) - 1 + 1) = (nd : Int) := by rw [IntWalk.i64_in _ (by omega)]; omega
  have b0 : (b.length : Int) ≤ 400000 := by omega
  have HJ := Lib.hid hJ
  have HD := Lib.hid hD
  have HB := Lib.hid hb
  have HF := Lib.hid hfar
  have HBN := Lib.hid (show b.length ≤ 400000 ∧ 1 ≤ b.length ∧ nd ≤ b.length ∧ nd ≤ j.n - j.used ∧ 1 ≤ nd from by have := Jr.need_pos hlen.1; omega)
  clear hJ hD hb hfar HND hnd2 hlen
  go_enter Try.func70, Try.ntmps70
  go_upto_region 1 with (fail)
  go_region_held3 (fun u => u.cell? ⟨x, 1, none⟩ = some (.int .i64 (j.o : Int)) ∧ u.cell? ⟨x, 6, none⟩ = some (.int .i64 (j.used : Int)))
    (first
      | exact ⟨e1, e6⟩)
    (first
      | (go_at_call 69; refine HN.out.mono ?_; rintro r w9 ⟨rfl, rfl⟩))
  unfold Exit.then
  dsimp only
  obtain ⟨w0, hw0⟩ : ∃ w0, w.drew = w0 := ⟨_, rfl⟩
  have HJ0 : Hid (JAt w0 B x q.x A c vs j ∧ At w0 B' q d ∧ Bys w0 w0.heap.size Ab b.length b ∧ Only w w0 q.has) := Lib.hid (by rw [← hw0]; exact ⟨HJ.out.below (Below.refl _ _).drew, ⟨HD.out.lay.below (Below.refl _ _).drew, HD.out.tidy⟩, HB.out.below (Below.refl _ _).drew (Nat.le_refl _), (Mv.Only.refl _ _).drew⟩)
  rw [hw0]
  clear e1 e6 b6 b7 hw0
  go_wp2_with fail
  clear b8
  go_loopw [26] (fun s wx => ∃ (k : Nat) (dk : DS), s = .int .i64 (k : Int) ∧ k ≤ nd ∧ At wx B' q dk ∧ dk.n = d.n ∧ dk.armed ≤ d.armed ∧ JAt wx B x q.x A c vs j ∧ Bys wx wx.heap.size Ab b.length b ∧ Only w0 wx q.has ∧ writesD dk (j.o + j.used) (sectJ j b) (nd - k) k = writesD d (j.o + j.used) (sectJ j b) nd 0) (fun s _ => nd - (intOf s).toNat)
  case atStart => exact ⟨0, d, rfl, Nat.zero_le _, HJ0.out.2.1, rfl, Nat.le_refl _, HJ0.out.1, HJ0.out.2.2.1, Mv.Only.refl _ _, rfl⟩
  case round =>
    obtain ⟨k, dk, rfl, hk, hR, hRn, hRa, hJk, hBk, hO, hW⟩ := hrel
    have k0 : (0 : Int) ≤ (k : Int) := by omega
    by_cases hlt : k < nd
    · have k1 : (k : Int) < (nd : Int) := by omega
      have h46 : 46 * k < b.length := need_last (by rw [HN2.out]; exact hlt)
      obtain ⟨hi, hhi⟩ : ∃ hi, min (46 * k + 46) b.length = hi := ⟨_, rfl⟩
      have hh1 : hi ≤ b.length := by omega
      have hh2 : 46 * k ≤ hi := by omega
      obtain ⟨A2, hA2⟩ : ∃ A2, (if cb = 46 * k then Ab else Ab.map (·.add (46 * k))) = A2 := ⟨_, rfl⟩
      have hsm := fun W => By.slice_mid Ab b.length cb (46 * k) hi hh2 (by omega) W
      rw [hA2, show ((46 * k : Nat) : Int) = (k : Int) * 46 by omega] at hsm
      have hbm : Bys wr wr.heap.size A2 (hi - 46 * k) ((b.take hi).drop (46 * k)) := by
        have := By.Bys.mid hBk hh2 hh1 hcb
        rw [hA2] at this
        exact this
      have HBM := Lib.hid hbm
      have HBN2 := HBN.out
      have w1 : IntKind.i64.wrap ((k : Int) * 46) = (k : Int) * 46 := IntWalk.i64_in _ (by omega)
      have w2 : IntKind.i64.wrap ((k : Int) + 1) = (k : Int) + 1 := IntWalk.i64_in _ (by omega)
      have w3 : IntKind.i64.wrap (((k : Int) + 1) * 46) = ((k : Int) + 1) * 46 := IntWalk.i64_in _ (by omega)
      have m1 : (if ((k : Int) + 1) * 46 < (b.length : Int) then ((k : Int) + 1) * 46 else (b.length : Int)) = (hi : Int) := by split <;> omega
      have m2 : (if (b.length : Int) < ((k : Int) + 1) * 46 then (b.length : Int) else ((k : Int) + 1) * 46) = (hi : Int) := by split <;> omega
      obtain ⟨F, hF⟩ : ∃ F : Bool, ((k : Int) == 0) = F := ⟨_, rfl⟩
      obtain ⟨G, hG⟩ : ∃ G : Bool, ((k : Int) == (nd : Int) - 1) = G := ⟨_, rfl⟩
      have HFG := Lib.hid (And.intro hF hG)
      obtain ⟨V, hV⟩ : ∃ V, layV ⟨j.epoch, j.l.length, F, G, (b.take hi).drop (46 * k)⟩ = V := ⟨_, rfl⟩
      have hV64 : V.length = 64 := by rw [← hV]; exact Lf.layV_len _
      obtain ⟨VE, hVE⟩ : ∃ VE, layE ⟨j.epoch, j.l.length, F, G, (b.take hi).drop (46 * k)⟩ = VE := ⟨_, rfl⟩
      have HV := Lib.hid (And.intro hV hVE)
      have HW : Hid (∀ u, Below wr.heap.size wr u → u.cell? ⟨x, 3, none⟩ = some (.int .u32 (j.epoch : Int)) ∧ u.cell? ⟨x, 4, none⟩ = some (.slice A j.l.length c)) := Lib.hid (fun u hu => by
        have h1 := (hJk.below hu).box
        exact ⟨h1.cell 3, h1.cell 4⟩)
      have HNX : Hid (∀ u, Below wr.heap.size wr u → Calls Try.prog 77 #[.pointer (some ⟨x, 0, none⟩)] u fun e w' => e = .returned (.int .u32 (j.l.length : Int)) ∧ w' = u) := Lib.hid (fun u hu => next_any u x j.l.length c A (HW.out u hu).2 hl)
      have HLY : Hid (∀ u, Below wr.heap.size wr u → Calls Try.prog 82 #[.agg (LeafC j.epoch j.l.length F G A2 (hi - 46 * k) (cb - 46 * k))] u fun en w' => en = .returned (.tuple #[.agg (secCells V), .int .i64 VE]) ∧ Below u.heap.size u w') := Lib.hid (fun u hu => by
        have := Lf.lay_any u j.epoch j.l.length (hi - 46 * k) (cb - 46 * k) F G A2 ((b.take hi).drop (46 * k)) ((hbm.below hu (Nat.le_refl _)).more hu.size) he2 (by omega)
        rw [hV, hVE] at this
        exact this)
      have HLT := Lib.hid (And.intro hlt (And.intro hhi (And.intro hh1 (And.intro hh2 h46))))
      have HR := Lib.hid (And.intro hR (And.intro hJk (And.intro hO (And.intro hBk (And.intro hRn hRa)))))
      have HWW := Lib.hid hW
      clear hA2 hbm HBN2 hhi hh1 hh2 h46 hR hJk hO hBk hW hV hVE
      go_upto_region 5 with (fail)
      go_cut [8, 9] (fun v8 v9 wx => ∃ g, v8 = .pointer (some ⟨g, 0, none⟩) ∧ v9 = .int .i64 VE ∧ Sec wx g V ∧ Below wr.heap.size wr wx ∧ wr.heap.size ≤ g)
      case first =>
        refine wp_region_held_drew (S := fun u => Below wr.heap.size wr u) (by kernel_rfl) ((Below.refl _ _).drew) (fun h1 => ?_)
        refine wpAnyH_take (i := 0) (oi := ⟨some 30, _, _, _, _, _⟩) (v := .pointer (some ⟨x, 0, none⟩)) rfl (by kernel_rfl) (by kernel_rfl) (by kernel_rfl) (fun _ _ _ h => h) (Or.inl ⟨by rfl, fun wq hSw => ?_⟩) (by assumption) ?_
        · obtain ⟨e3, e4⟩ := HW.out wq hSw; go_simp
        try simp only [Act.put, List.setIfInBounds_toArray, List.set_cons_zero, List.set_cons_succ]
        refine wpAnyH_take (i := 1) (oi := ⟨some 31, _, _, _, _, _⟩) (v := .pointer (some ⟨x, 0, none⟩)) rfl (by kernel_rfl) (by kernel_rfl) (by kernel_rfl) (fun _ _ _ h => h) (Or.inl ⟨by rfl, fun wq hSw => ?_⟩) (by assumption) ?_
        · obtain ⟨e3, e4⟩ := HW.out wq hSw; go_simp
        try simp only [Act.put, List.setIfInBounds_toArray, List.set_cons_zero, List.set_cons_succ]
        refine wpAnyH_take (i := 2) (oi := ⟨some 32, _, _, _, _, _⟩) (v := .pointer (some ⟨x, 3, none⟩)) rfl (by kernel_rfl) (by kernel_rfl) (by kernel_rfl) (fun _ _ _ h => h) (Or.inl ⟨by rfl, fun wq hSw => ?_⟩) (by assumption) ?_
        · obtain ⟨e3, e4⟩ := HW.out wq hSw; go_simp
        try simp only [Act.put, List.setIfInBounds_toArray, List.set_cons_zero, List.set_cons_succ]
        refine wpAnyH_take (i := 3) (oi := ⟨some 33, _, _, _, _, _⟩) (v := .int .u32 (j.epoch : Int)) rfl (by kernel_rfl) (by kernel_rfl) (by kernel_rfl) (fun _ _ _ h => h) (Or.inl ⟨by rfl, fun wq hSw => ?_⟩) (by assumption) ?_
        · obtain ⟨e3, e4⟩ := HW.out wq hSw; go_simp
        try simp only [Act.put, List.setIfInBounds_toArray, List.set_cons_zero, List.set_cons_succ]
        refine wpAnyH_take (i := 4) (oi := ⟨some 34, _, _, _, _, _⟩) (v := .pointer (some ⟨x, 0, none⟩)) rfl (by kernel_rfl) (by kernel_rfl) (by kernel_rfl) (fun _ _ _ h => h) (Or.inl ⟨by rfl, fun wq hSw => ?_⟩) (by assumption) ?_
        · obtain ⟨e3, e4⟩ := HW.out wq hSw; go_simp
        try simp only [Act.put, List.setIfInBounds_toArray, List.set_cons_zero, List.set_cons_succ]
        refine wpAnyH_take (i := 6) (oi := ⟨some 36, _, _, _, _, _⟩) (v := .int .i64 (k : Int)) rfl (by kernel_rfl) (by kernel_rfl) (by kernel_rfl) (fun _ _ _ h => h) (Or.inl ⟨by rfl, fun wq hSw => ?_⟩) (by assumption) ?_
        · obtain ⟨e3, e4⟩ := HW.out wq hSw; go_simp
        try simp only [Act.put, List.setIfInBounds_toArray, List.set_cons_zero, List.set_cons_succ]
        refine wpAnyH_take (i := 7) (oi := ⟨some 37, _, _, _, _, _⟩) (v := .bool F) rfl (by kernel_rfl) (by kernel_rfl) (by kernel_rfl) (fun _ _ _ h => h) (Or.inl ⟨by rfl, fun wq hSw => ?_⟩) (by assumption) ?_
        · obtain ⟨e3, e4⟩ := HW.out wq hSw; go_simp
        try simp only [Act.put, List.setIfInBounds_toArray, List.set_cons_zero, List.set_cons_succ]
        refine wpAnyH_take (i := 8) (oi := ⟨some 38, _, _, _, _, _⟩) (v := .int .i64 (k : Int)) rfl (by kernel_rfl) (by kernel_rfl) (by kernel_rfl) (fun _ _ _ h => h) (Or.inl ⟨by rfl, fun wq hSw => ?_⟩) (by assumption) ?_
        · obtain ⟨e3, e4⟩ := HW.out wq hSw; go_simp
        try simp only [Act.put, List.setIfInBounds_toArray, List.set_cons_zero, List.set_cons_succ]
        refine wpAnyH_take (i := 9) (oi := ⟨some 39, _, _, _, _, _⟩) (v := .int .i64 ((nd : Int) - 1)) rfl (by kernel_rfl) (by kernel_rfl) (by kernel_rfl) (fun _ _ _ h => h) (Or.inl ⟨by rfl, fun wq hSw => ?_⟩) (by assumption) ?_
        · obtain ⟨e3, e4⟩ := HW.out wq hSw; go_simp
        try simp only [Act.put, List.setIfInBounds_toArray, List.set_cons_zero, List.set_cons_succ]
        refine wpAnyH_take (i := 10) (oi := ⟨some 40, _, _, _, _, _⟩) (v := .bool G) rfl (by kernel_rfl) (by kernel_rfl) (by kernel_rfl) (fun _ _ _ h => h) (Or.inl ⟨by rfl, fun wq hSw => ?_⟩) (by assumption) ?_
        · obtain ⟨e3, e4⟩ := HW.out wq hSw; go_simp
        try simp only [Act.put, List.setIfInBounds_toArray, List.set_cons_zero, List.set_cons_succ]
        refine wpAnyH_take (i := 11) (oi := ⟨some 41, _, _, _, _, _⟩) (v := .slice Ab b.length cb) rfl (by kernel_rfl) (by kernel_rfl) (by kernel_rfl) (fun _ _ _ h => h) (Or.inl ⟨by rfl, fun wq hSw => ?_⟩) (by assumption) ?_
        · obtain ⟨e3, e4⟩ := HW.out wq hSw; go_simp
        try simp only [Act.put, List.setIfInBounds_toArray, List.set_cons_zero, List.set_cons_succ]
        refine wpAnyH_take (i := 12) (oi := ⟨some 42, _, _, _, _, _⟩) (v := .int .i64 (k : Int)) rfl (by kernel_rfl) (by kernel_rfl) (by kernel_rfl) (fun _ _ _ h => h) (Or.inl ⟨by rfl, fun wq hSw => ?_⟩) (by assumption) ?_
        · obtain ⟨e3, e4⟩ := HW.out wq hSw; go_simp
        try simp only [Act.put, List.setIfInBounds_toArray, List.set_cons_zero, List.set_cons_succ]
        refine wpAnyH_take (i := 13) (oi := ⟨some 43, _, _, _, _, _⟩) (v := .int .i64 ((k : Int) * 46)) rfl (by kernel_rfl) (by kernel_rfl) (by kernel_rfl) (fun _ _ _ h => h) (Or.inl ⟨by rfl, fun wq hSw => ?_⟩) (by assumption) ?_
        · obtain ⟨e3, e4⟩ := HW.out wq hSw; go_simp
        try simp only [Act.put, List.setIfInBounds_toArray, List.set_cons_zero, List.set_cons_succ]
        refine wpAnyH_take (i := 14) (oi := ⟨some 44, _, _, _, _, _⟩) (v := .int .i64 (k : Int)) rfl (by kernel_rfl) (by kernel_rfl) (by kernel_rfl) (fun _ _ _ h => h) (Or.inl ⟨by rfl, fun wq hSw => ?_⟩) (by assumption) ?_
        · obtain ⟨e3, e4⟩ := HW.out wq hSw; go_simp
        try simp only [Act.put, List.setIfInBounds_toArray, List.set_cons_zero, List.set_cons_succ]
        refine wpAnyH_take (i := 15) (oi := ⟨some 45, _, _, _, _, _⟩) (v := .int .i64 ((k : Int) + 1)) rfl (by kernel_rfl) (by kernel_rfl) (by kernel_rfl) (fun _ _ _ h => h) (Or.inl ⟨by rfl, fun wq hSw => ?_⟩) (by assumption) ?_
        · obtain ⟨e3, e4⟩ := HW.out wq hSw; go_simp
        try simp only [Act.put, List.setIfInBounds_toArray, List.set_cons_zero, List.set_cons_succ]
        refine wpAnyH_take (i := 16) (oi := ⟨some 46, _, _, _, _, _⟩) (v := .int .i64 (((k : Int) + 1) * 46)) rfl (by kernel_rfl) (by kernel_rfl) (by kernel_rfl) (fun _ _ _ h => h) (Or.inl ⟨by rfl, fun wq hSw => ?_⟩) (by assumption) ?_
        · obtain ⟨e3, e4⟩ := HW.out wq hSw; go_simp
        try simp only [Act.put, List.setIfInBounds_toArray, List.set_cons_zero, List.set_cons_succ]
        refine wpAnyH_take (i := 17) (oi := ⟨some 47, _, _, _, _, _⟩) (v := .slice Ab b.length cb) rfl (by kernel_rfl) (by kernel_rfl) (by kernel_rfl) (fun _ _ _ h => h) (Or.inl ⟨by rfl, fun wq hSw => ?_⟩) (by assumption) ?_
        · obtain ⟨e3, e4⟩ := HW.out wq hSw; go_simp
        try simp only [Act.put, List.setIfInBounds_toArray, List.set_cons_zero, List.set_cons_succ]
        refine wpAnyH_take (i := 18) (oi := ⟨some 48, _, _, _, _, _⟩) (v := .int .i64 (b.length : Int)) rfl (by kernel_rfl) (by kernel_rfl) (by kernel_rfl) (fun _ _ _ h => h) (Or.inl ⟨by rfl, fun wq hSw => ?_⟩) (by assumption) ?_
        · obtain ⟨e3, e4⟩ := HW.out wq hSw; go_simp
        try simp only [Act.put, List.setIfInBounds_toArray, List.set_cons_zero, List.set_cons_succ]
        refine wpAnyH_take (i := 19) (oi := ⟨some 49, _, _, _, _, _⟩) (v := .int .i64 (hi : Int)) rfl (by kernel_rfl) (by kernel_rfl) (by kernel_rfl) (fun _ _ _ h => h) (Or.inl ⟨by rfl, fun wq hSw => ?_⟩) (by assumption) ?_
        · obtain ⟨e3, e4⟩ := HW.out wq hSw; go_simp
        try simp only [Act.put, List.setIfInBounds_toArray, List.set_cons_zero, List.set_cons_succ]
        refine wpAnyH_take (i := 20) (oi := ⟨some 50, _, _, _, _, _⟩) (v := .slice A2 (hi - 46 * k) (cb - 46 * k)) rfl (by kernel_rfl) (by kernel_rfl) (by kernel_rfl) (fun _ _ _ h => h) (Or.inl ⟨by rfl, fun wq hSw => ?_⟩) (by assumption) ?_
        · obtain ⟨e3, e4⟩ := HW.out wq hSw; go_simp
        try simp only [Act.put, List.setIfInBounds_toArray, List.set_cons_zero, List.set_cons_succ]
        refine wpAnyH_ready (rs := [5, 26]) (by kernel_rfl) (by simp) ?_
        refine AllReadyH.cons (o := ⟨some 35, _, _, _, _, _⟩) rfl (fun K hK => ?_) ?_
        ·
          go_simp
          refine (HNX.out wr.drew h1).mono ?_
          rintro e wT ⟨rfl, hw⟩
          rw [hw]
          clear hw wT
          go_wp2_with fail
          refine hK.out _ _ h1 (fun h2 => ?_)
          clear hK K
          try simp only [Act.put, List.setIfInBounds_toArray, List.set_cons_zero, List.set_cons_succ]
          refine wpAnyH_take (i := 21) (oi := ⟨some 51, _, _, _, _, _⟩) (v := .agg (LeafC j.epoch j.l.length F G A2 (hi - 46 * k) (cb - 46 * k))) rfl (by kernel_rfl) (by kernel_rfl) (by kernel_rfl) (fun _ _ _ h => h) (Or.inl ⟨by rfl, fun wq hSw => ?_⟩) (by assumption) ?_
          · go_simp; rfl
          try simp only [Act.put, List.setIfInBounds_toArray, List.set_cons_zero, List.set_cons_succ]
          refine wpAnyH_ready (rs := [22, 26]) (by kernel_rfl) (by simp) ?_
          refine AllReadyH.cons (o := ⟨some 52, _, _, _, _, _⟩) rfl (fun K hK => ?_) ?_
          ·
            go_simp
            refine (HLY.out wr.drew h2).mono ?_
            rintro e wL ⟨rfl, kwL⟩
            go_wp2_with fail
            refine hK.out _ _ (h2.trans (kwL.mono h2.size)) (fun h3 => ?_)
            clear hK K
            try simp only [Act.put, List.setIfInBounds_toArray, List.set_cons_zero, List.set_cons_succ]
            refine wpAnyH_take (i := 23) (oi := ⟨some 29, _, _, _, _, _⟩) (v := .tuple #[.agg (secCells V), .int .i64 VE]) rfl (by kernel_rfl) (by kernel_rfl) (by kernel_rfl) (fun _ _ _ h => h) (Or.inl ⟨by rfl, fun wq hSw => ?_⟩) (by assumption) ?_
            · go_simp
            try simp only [Act.put, List.setIfInBounds_toArray, List.set_cons_zero, List.set_cons_succ]
            refine wpAnyH_take (i := 24) (oi := ⟨some 53, _, _, _, _, _⟩) (v := .agg (secCells V)) rfl (by kernel_rfl) (by kernel_rfl) (by kernel_rfl) (fun _ _ _ h => h) (Or.inl ⟨by rfl, fun wq hSw => ?_⟩) (by assumption) ?_
            · go_simp
            try simp only [Act.put, List.setIfInBounds_toArray, List.set_cons_zero, List.set_cons_succ]
            refine wpAnyH_take (i := 25) (oi := ⟨some 54, _, _, _, _, _⟩) (v := .int .i64 VE) rfl (by kernel_rfl) (by kernel_rfl) (by kernel_rfl) (fun _ _ _ h => h) (Or.inl ⟨by rfl, fun wq hSw => ?_⟩) (by assumption) ?_
            · go_simp
            try simp only [Act.put, List.setIfInBounds_toArray, List.set_cons_zero, List.set_cons_succ]
            refine wpAnyH_ready (rs := [26]) (by kernel_rfl) (by simp) ?_
            refine AllReadyH.cons (o := ⟨some 8, _, _, _, _, _⟩) rfl (fun K hK => ?_) AllReadyH.nil
            refine step_new_sec (w := wL) (by rfl) (by rfl) ?_
            intro wa qwa kwa zwa
            refine hK.out _ _ (h3.trans (kwa.mono h3.size)) (fun h4 => ?_)
            clear hK K
            try simp only [Act.put, List.setIfInBounds_toArray, List.set_cons_zero, List.set_cons_succ]
            refine wpAnyH_ready (rs := [27]) (by kernel_rfl) (by simp) ?_
            refine AllReadyH.cons (o := ⟨none, _, _, _, _, _⟩) rfl (fun K hK => ?_) AllReadyH.nil
            refine step_store_sec (w := wa) (by rfl) (.tmp 8) (.tmp 53) (by rfl) wL.heap.size (by rfl) V (by rfl) _ qwa hV64 ?_
            intro ws bs gs
            refine hK.out _ _ (h4.grown gs h4.size (fun k hk => by injection hk with hk; have := h3.size; omega)) (fun h5 => ?_)
            clear hK K
            simp only [Act.put]
            refine wpAnyH_take (i := 28) (oi := ⟨some 9, _, _, _, _, _⟩) (v := .int .i64 VE) rfl (by kernel_rfl) (by kernel_rfl) (by kernel_rfl) (fun _ _ _ h => h) (Or.inl ⟨by rfl, fun wq hSw => ?_⟩) (by assumption) ?_
            · go_simp
            try simp only [Act.put, List.setIfInBounds_toArray, List.set_cons_zero, List.set_cons_succ]
            refine wpAnyH_done (by kernel_rfl) ?_ _
            go_wp2_with fail
            go_meet
            exact ⟨wL.heap.size, rfl, rfl, bs, h5, by have := h3.size; omega⟩
          refine AllReadyH.cons (o := ⟨some 8, _, _, _, _, _⟩) rfl (fun K hK => ?_) AllReadyH.nil
          refine step_new_sec (w := wr.drew) (by rfl) (by rfl) ?_
          intro wa qwa kwa zwa
          refine hK.out _ _ (h2.trans (kwa.mono h2.size)) (fun h3 => ?_)
          clear hK K
          try simp only [Act.put, List.setIfInBounds_toArray, List.set_cons_zero, List.set_cons_succ]
          refine wpAnyH_ready (rs := [22]) (by kernel_rfl) (by simp) ?_
          refine AllReadyH.cons (o := ⟨some 52, _, _, _, _, _⟩) rfl (fun K hK => ?_) AllReadyH.nil
          go_simp
          refine (HLY.out wa h3).mono ?_
          rintro e wL ⟨rfl, kwL⟩
          go_wp2_with fail
          refine hK.out _ _ (h3.trans (kwL.mono h3.size)) (fun h4 => ?_)
          clear hK K
          try simp only [Act.put, List.setIfInBounds_toArray, List.set_cons_zero, List.set_cons_succ]
          refine wpAnyH_take (i := 23) (oi := ⟨some 29, _, _, _, _, _⟩) (v := .tuple #[.agg (secCells V), .int .i64 VE]) rfl (by kernel_rfl) (by kernel_rfl) (by kernel_rfl) (fun _ _ _ h => h) (Or.inl ⟨by rfl, fun wq hSw => ?_⟩) (by assumption) ?_
          · go_simp
          try simp only [Act.put, List.setIfInBounds_toArray, List.set_cons_zero, List.set_cons_succ]
          refine wpAnyH_take (i := 24) (oi := ⟨some 53, _, _, _, _, _⟩) (v := .agg (secCells V)) rfl (by kernel_rfl) (by kernel_rfl) (by kernel_rfl) (fun _ _ _ h => h) (Or.inl ⟨by rfl, fun wq hSw => ?_⟩) (by assumption) ?_
          · go_simp
          try simp only [Act.put, List.setIfInBounds_toArray, List.set_cons_zero, List.set_cons_succ]
          refine wpAnyH_take (i := 25) (oi := ⟨some 54, _, _, _, _, _⟩) (v := .int .i64 VE) rfl (by kernel_rfl) (by kernel_rfl) (by kernel_rfl) (fun _ _ _ h => h) (Or.inl ⟨by rfl, fun wq hSw => ?_⟩) (by assumption) ?_
          · go_simp
          try simp only [Act.put, List.setIfInBounds_toArray, List.set_cons_zero, List.set_cons_succ]
          refine wpAnyH_ready (rs := [27]) (by kernel_rfl) (by simp) ?_
          refine AllReadyH.cons (o := ⟨none, _, _, _, _, _⟩) rfl (fun K hK => ?_) AllReadyH.nil
          refine step_store_sec (w := wL) (by rfl) (.tmp 8) (.tmp 53) (by rfl) wr.drew.heap.size (by rfl) V (by rfl) _ (sec_below qwa kwL) hV64 ?_
          intro ws bs gs
          refine hK.out _ _ (h4.grown gs h4.size (fun k hk => by injection hk with hk; have e9 : wr.drew.heap.size = wr.heap.size := rfl; omega)) (fun h5 => ?_)
          clear hK K
          simp only [Act.put]
          refine wpAnyH_take (i := 28) (oi := ⟨some 9, _, _, _, _, _⟩) (v := .int .i64 VE) rfl (by kernel_rfl) (by kernel_rfl) (by kernel_rfl) (fun _ _ _ h => h) (Or.inl ⟨by rfl, fun wq hSw => ?_⟩) (by assumption) ?_
          · go_simp
          try simp only [Act.put, List.setIfInBounds_toArray, List.set_cons_zero, List.set_cons_succ]
          refine wpAnyH_done (by kernel_rfl) ?_ _
          go_wp2_with fail
          go_meet
          exact ⟨wr.drew.heap.size, rfl, rfl, bs, h5, by have e9 : wr.drew.heap.size = wr.heap.size := rfl; omega⟩
        refine AllReadyH.cons (o := ⟨some 8, _, _, _, _, _⟩) rfl (fun K hK => ?_) AllReadyH.nil
        refine step_new_sec (w := wr.drew) (by rfl) (by rfl) ?_
        intro wa qwa kwa zwa
        refine hK.out _ _ (h1.trans (kwa.mono h1.size)) (fun h2 => ?_)
        clear hK K
        try simp only [Act.put, List.setIfInBounds_toArray, List.set_cons_zero, List.set_cons_succ]
        refine wpAnyH_ready (rs := [5]) (by kernel_rfl) (by simp) ?_
        refine AllReadyH.cons (o := ⟨some 35, _, _, _, _, _⟩) rfl (fun K hK => ?_) AllReadyH.nil
        go_simp
        refine (HNX.out wa h2).mono ?_
        rintro e wT ⟨rfl, hw⟩
        rw [hw]
        clear hw wT
        go_wp2_with fail
        refine hK.out _ _ h2 (fun h3 => ?_)
        clear hK K
        try simp only [Act.put, List.setIfInBounds_toArray, List.set_cons_zero, List.set_cons_succ]
        refine wpAnyH_take (i := 21) (oi := ⟨some 51, _, _, _, _, _⟩) (v := .agg (LeafC j.epoch j.l.length F G A2 (hi - 46 * k) (cb - 46 * k))) rfl (by kernel_rfl) (by kernel_rfl) (by kernel_rfl) (fun _ _ _ h => h) (Or.inl ⟨by rfl, fun wq hSw => ?_⟩) (by assumption) ?_
        · go_simp; rfl
        try simp only [Act.put, List.setIfInBounds_toArray, List.set_cons_zero, List.set_cons_succ]
        refine wpAnyH_ready (rs := [22]) (by kernel_rfl) (by simp) ?_
        refine AllReadyH.cons (o := ⟨some 52, _, _, _, _, _⟩) rfl (fun K hK => ?_) AllReadyH.nil
        go_simp
        refine (HLY.out wa h3).mono ?_
        rintro e wL ⟨rfl, kwL⟩
        go_wp2_with fail
        refine hK.out _ _ (h3.trans (kwL.mono h3.size)) (fun h4 => ?_)
        clear hK K
        try simp only [Act.put, List.setIfInBounds_toArray, List.set_cons_zero, List.set_cons_succ]
        refine wpAnyH_take (i := 23) (oi := ⟨some 29, _, _, _, _, _⟩) (v := .tuple #[.agg (secCells V), .int .i64 VE]) rfl (by kernel_rfl) (by kernel_rfl) (by kernel_rfl) (fun _ _ _ h => h) (Or.inl ⟨by rfl, fun wq hSw => ?_⟩) (by assumption) ?_
        · go_simp
        try simp only [Act.put, List.setIfInBounds_toArray, List.set_cons_zero, List.set_cons_succ]
        refine wpAnyH_take (i := 24) (oi := ⟨some 53, _, _, _, _, _⟩) (v := .agg (secCells V)) rfl (by kernel_rfl) (by kernel_rfl) (by kernel_rfl) (fun _ _ _ h => h) (Or.inl ⟨by rfl, fun wq hSw => ?_⟩) (by assumption) ?_
        · go_simp
        try simp only [Act.put, List.setIfInBounds_toArray, List.set_cons_zero, List.set_cons_succ]
        refine wpAnyH_take (i := 25) (oi := ⟨some 54, _, _, _, _, _⟩) (v := .int .i64 VE) rfl (by kernel_rfl) (by kernel_rfl) (by kernel_rfl) (fun _ _ _ h => h) (Or.inl ⟨by rfl, fun wq hSw => ?_⟩) (by assumption) ?_
        · go_simp
        try simp only [Act.put, List.setIfInBounds_toArray, List.set_cons_zero, List.set_cons_succ]
        refine wpAnyH_ready (rs := [27]) (by kernel_rfl) (by simp) ?_
        refine AllReadyH.cons (o := ⟨none, _, _, _, _, _⟩) rfl (fun K hK => ?_) AllReadyH.nil
        refine step_store_sec (w := wL) (by rfl) (.tmp 8) (.tmp 53) (by rfl) wr.drew.heap.size (by rfl) V (by rfl) _ (sec_below qwa kwL) hV64 ?_
        intro ws bs gs
        refine hK.out _ _ (h4.grown gs h4.size (fun k hk => by injection hk with hk; have e9 : wr.drew.heap.size = wr.heap.size := rfl; omega)) (fun h5 => ?_)
        clear hK K
        simp only [Act.put]
        refine wpAnyH_take (i := 28) (oi := ⟨some 9, _, _, _, _, _⟩) (v := .int .i64 VE) rfl (by kernel_rfl) (by kernel_rfl) (by kernel_rfl) (fun _ _ _ h => h) (Or.inl ⟨by rfl, fun wq hSw => ?_⟩) (by assumption) ?_
        · go_simp
        try simp only [Act.put, List.setIfInBounds_toArray, List.set_cons_zero, List.set_cons_succ]
        refine wpAnyH_done (by kernel_rfl) ?_ _
        go_wp2_with fail
        go_meet
        exact ⟨wr.drew.heap.size, rfl, rfl, bs, h5, by have e9 : wr.drew.heap.size = wr.heap.size := rfl; omega⟩
      case rest =>
        obtain ⟨g, rfl, rfl, hS, hgb, hgs⟩ := hcut
        obtain ⟨hlt, hhi, hh1, hh2, h46⟩ := HLT.out
        obtain ⟨hR, hJk, hO, hBk, hRn, hRa⟩ := HR.out
        have hleaf := leaf_is (j := j) (by omega) HN2.out hlt hhi HFG.out.1 HFG.out.2
        have hright : Lf.rightB (Jr.leafN j.epoch (j.l.length % 4294967296) b k) = true := Jr.leaf_right (by rw [HN2.out]; exact hlt) he1
        obtain ⟨hV, hVE⟩ := HV.out
        rw [hleaf] at hV hVE
        have hVE0 : VE = 0 := by rw [← hVE]; unfold layE; rw [hright, if_pos rfl]
        have hVS : V = sectJ j b k := by rw [← hV]; unfold layV; rw [hright, if_pos rfl]; rfl
        have HVS := Lib.hid hVS
        subst hVE0
        have hJc := hJk.below hgb
        have hRc : At wc B' q dk := ⟨hR.lay.below hgb, hR.tidy⟩
        have q0 := hJc.box.cell 0
        simp at q0
        have q8 : wc.rangeAt g 0 (cellsB V) := hS.range
        have hplt : ∀ i, q.has i → i < wr.heap.size := hR.there
        have hxp : ¬ q.has x := fun h => hJc.apart hRc.lay x h (.inl rfl)
        have hxl := hJc.box.lt
        have hgl := hS.2.lt
        have HKP : Hid (∀ w', Only wc.drew w' q.has → w'.cell? ⟨x, 0, none⟩ = some (.pointer (some ⟨q.x, 0, none⟩)) ∧ w'.rangeAt g 0 (cellsB V)) := Lib.hid (fun w' ho => ⟨(ho.cell hxl hxp).trans q0, fun i v hv => (ho.cell hgl (fun h => by have := hplt g h; omega)).trans (q8 i v hv)⟩)
        have n0 : 0 < dk.n := by have := HBN.out; omega
        have HWR := Lib.hid (Dd.write_lay wc.drew B' q dk ((j.o : Int) + (j.used : Int) + (k : Int)) V (hRc.lay.below (Below.refl _ _).drew) n0 (by omega) hV64 (by omega))
        have HC := Lib.hid (And.intro hJc (And.intro hRc (And.intro (hBk.below hgb (Nat.le_refl _)) (hO.below hgb))))
        have HGS := Lib.hid hgb
        have v2 : IntKind.i64.wrap ((j.o : Int) + (j.used : Int) + (k : Int)) = (j.o : Int) + (j.used : Int) + (k : Int) := IntWalk.i64_in _ (by have := HBN.out; omega)
        have hu : Try.prog.underlying 43 = some (.array 64 5) := Try.underlying43
        have hi : (Try.prog.info? 43).map (·.size) = some (cellsB V).length := by rw [Dk.size_sector, cellsB_length, hV64]
        obtain ⟨E, hE⟩ : ∃ E, writeE dk ((j.o : Int) + (j.used : Int) + (k : Int)) = E := ⟨_, rfl⟩
        have hcast : ((j.o + j.used + k : Nat) : Int) = (j.o : Int) + (j.used : Int) + (k : Int) := by omega
        have hE09 : E = 0 ∨ E = 9 := by
          rw [← hE, ← hcast]
          exact write_nine (by have := HBN.out; omega)
        rw [hE] at HWR
        have HE := Lib.hid (And.intro hE hcast)
        clear hE hcast hJc hRc hplt hxp hgl hxl hS hgb hgs hR hJk hO hBk hRn hRa hleaf hright hV hVE hVS hhi hh1 hh2 h46 HLY HNX n0 w1 w2 w3 m1 m2 hsm
        go_upto_region 8 with (fail)
        go_region_held3 (fun u => u.cell? ⟨x, 0, none⟩ = some (.pointer (some ⟨q.x, 0, none⟩)) ∧ u.rangeAt g 0 (cellsB V))
          (first
            | exact ⟨q0, q8⟩
            | exact HKP.out _ o9)
          (first
            | (go_at_call 18; refine HWR.out.mono ?_; rintro r9 w9 ⟨rfl, r9', o9⟩))
        unfold Exit.then
        dsimp only
        obtain ⟨hcJ, hcR, hcB, hcO⟩ := HC.out
        have hdr : Only wc w9 q.has := ((Mv.Only.refl wc q.has).drew).trans o9 (fun _ _ h => h)
        have H9 := Lib.hid (show JAt w9 B x q.x A c vs j ∧ At w9 B' q (writeD dk ((j.o : Int) + (j.used : Int) + (k : Int)) V) ∧ Only w0 w9 q.has ∧ Only wc w9 q.has from
          ⟨hcJ.disk hcR.lay hdr, ⟨r9', Dd.tidy_write hcR.tidy hcR.ok⟩, hcO.trans hdr (fun _ _ h => h), hdr⟩)
        have HB9 : Hid (Bys w9 w9.heap.size Ab b.length b) := Lib.hid ⟨hcB.len, fun i z hz => by
          obtain ⟨bb, oo, h1, h2, h3⟩ := hcB.cell i z hz
          have h4 := Nat.lt_of_lt_of_le h2 HGS.out.size
          exact ⟨bb, oo, h1, Nat.lt_of_lt_of_le h4 hdr.size, (hdr.cell h4 (HF.out _ h1)).trans h3⟩⟩
        clear r9' o9 q0 q8 hcJ hcR hcB hcO hdr HKP HWR
        rcases hE09 with hE0 | hE9
        · subst hE0
          go_wp2_with fail
          go_roundw
          case rel =>
            refine ⟨k + 1, writeD dk ((j.o : Int) + (j.used : Int) + (k : Int)) V, by go_num, by have := HLT.out.1; omega, H9.out.2.1, (writeD_n' _ _ _).trans HR.out.2.2.2.2.1, Nat.le_trans (writeD_armed _ _ _) HR.out.2.2.2.2.2, H9.out.1, HB9.out, H9.out.2.2.1, ?_⟩
            rw [← HWW.out, show nd - k = (nd - (k + 1)) + 1 by have := HLT.out.1; omega]
            show _ = (if writeE dk ((j.o + j.used + k : Nat) : Int) = 0 then _ else _)
            rw [HE.out.2, HE.out.1, if_pos rfl, HVS.out]
          case measure => simp [intOf]; have := HLT.out.1; omega
        · subst hE9
          have HDN : Hid (doneJ d j b = (writeD dk ((j.o : Int) + (j.used : Int) + (k : Int)) V, false)) := Lib.hid (by
            have e : writesD dk (j.o + j.used) (sectJ j b) ((nd - (k + 1)) + 1) k = (writeD dk ((j.o : Int) + (j.used : Int) + (k : Int)) V, false) := by
              unfold writesD
              rw [HE.out.2, HE.out.1, if_neg (by decide), HVS.out]
            unfold doneJ addD
            rw [HN2.out, ← HWW.out, show nd - k = (nd - (k + 1)) + 1 by have := HLT.out.1; omega, e]
            rfl)
          go_wp2_with fail
          go_ret
          refine ⟨by unfold doneE; rw [HDN.out]; rfl, by rw [HDN.out]; exact H9.out.2.1, HJ0.out.2.2.2.trans H9.out.2.2.1 (fun _ _ h => h)⟩
    · obtain rfl : k = nd := by omega
      have k1 : ¬ (k : Int) < (k : Int) := by omega
      have q0 := hJk.box.cell 0
      simp at q0
      have HBN2 := HBN.out
      have HSY := Lib.hid (Dd.sync_lay wr B' q dk hR.lay hR.tidy (by omega) (by omega) (by omega))
      have HDN : Hid (doneJ d j b = (syncD dk, decide (syncE dk = 0))) := Lib.hid (by
        unfold doneJ addD
        rw [HN2.out, ← hW, Nat.sub_self]
        rfl)
      have h09 := sync_nine dk
      have HR := Lib.hid (And.intro hR hO)
      have HFI : Hid (∀ w', Lay w' B' q (syncD dk) → Only wr w' q.has → At w' B' q (doneJ d j b).1 ∧ Only w w' q.has) := Lib.hid (fun w' h1 h2 => by
        rw [HDN.out]
        exact ⟨⟨h1, Dd.tidy_sync HR.out.1.tidy⟩, HJ0.out.2.2.2.trans (HR.out.2.trans h2 (fun _ _ h => h)) (fun _ _ h => h)⟩)
      have HRE : Hid (doneE d j b = syncE dk) := Lib.hid (by
        unfold doneE
        rw [HDN.out]
        rcases h09 with h | h
        · rw [h]; rfl
        · rw [h]; rfl)
      clear hR hJk hO hBk hW h09 HBN2 hlt hk
      go_wp2_with fail
      refine HSY.out.mono ?_
      rintro r9 w9 ⟨rfl, h9, o9⟩
      have H9 := Lib.hid (HFI.out w9 h9 o9)
      clear h9 o9
      go_wp2_with fail
      go_ret
      exact ⟨by rw [HRE.out]; rfl, H9.out.1, H9.out.2⟩

end Go.Proofs.Ytedgookkogpfbaa.Jl
