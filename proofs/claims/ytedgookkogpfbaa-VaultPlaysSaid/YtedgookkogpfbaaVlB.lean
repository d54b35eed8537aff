/- The landed vault in memory: Add; the vault that is begun. -/
import Derived.Test.YtedgookkogpfbaaVlA
import Derived.Test.YtedgookkogpfbaaJlV
set_option maxRecDepth 100000
namespace Go.Proofs.Ytedgookkogpfbaa.Vl
open Go.ChangeShapes Go.WideShapes Go.ChangeAt Go.RowKit
open Qu (Blk)
open Mv (Only Fresh)
open By (Own8 Bys cellsB cellsB_length)
open Dk (DS)
open Dd (Lay At Tidy Pl)
open Jr (JS Recd JHas Fit newE blankJ openJ addE addDS addJ stopE needN blk_blk_ne own_own_ne ownBlock_any)
open Jl (RecE Told AddE own_far_disk)
open Vt
set_option linter.unusedVariables false

/-- An Add of the landed journal. -/
theorem jadd_any (w : World) (B B' x c cb : Nat) (A Ab : Option Addr) (vs : List Value) (j : JS) (q : Pl) (d : DS) (b : List UInt8) (hJ : Jl.JAt w B x q.x A c vs j) (hD : At w B' q d) (hf : Fit d j) (hb : Bys w w.heap.size Ab b.length b) (hcb : b.length ≤ cb) (hcb2 : cb ≤ 9223372036854775807) (hfar : ∀ a, Ab = some a → ¬ q.has a.block) (hlen : b.length ≤ 1000000000000) :
    Calls Try.prog 53 #[.pointer (some ⟨x, 0, none⟩), .slice Ab b.length cb] w (AddE w B B' x q A vs j d b) := by
  have h1 := hf.room
  have h2 := hf.dn
  have h3 := hf.used
  have h4 := hf.len
  exact Jl.add_any w B B' x c cb A Ab vs j q d b hJ hD h3 (by omega) hb hcb hcb2 hfar hlen (by omega) hf.e1 hf.e2 h2 h1 hf.armed

/-- An Add of no bytes, wherever they lie. -/
theorem jadd_empty (w : World) (B B' x c cb : Nat) (A Ab : Option Addr) (vs : List Value) (j : JS) (q : Pl) (d : DS) (hJ : Jl.JAt w B x q.x A c vs j) (hD : At w B' q d) :
    Calls Try.prog 53 #[.pointer (some ⟨x, 0, none⟩), .slice Ab 0 cb] w (AddE w B B' x q A vs j d []) := by
  have HJ := Lib.hid hJ
  have HD := Lib.hid hD
  have e0 := hJ.box.cell 0
  have e7 := hJ.box.cell 7
  have f7 := hJ.box.frozen 7
  have d3 := hD.lay.box.cell 3
  simp at e0 e7 d3
  have hst : stopE d j [] = if j.dead || d.off then 9 else 2 := rfl
  have HDo := Lib.hid (Dd.down_eq w q.x d.off d3)
  cases hd : j.dead with
  | true =>
    rw [hd] at e7 hst
    rw [Bool.true_or, if_pos rfl] at hst
    have HS := Lib.hid hst
    clear hst hd hJ hD
    go_enter Try.func53, Try.ntmps53
    go_wp2
    go_ret
    exact Jl.stop_die HJ.out HD.out HS.out
  | false =>
    rw [hd] at e7 hst
    rw [Bool.false_or] at hst
    cases ho : d.off with
    | true =>
      rw [ho] at d3 hst HDo
      rw [if_pos rfl] at hst
      have HS := Lib.hid hst
      clear hst hd ho hJ hD
      go_enter Try.func53, Try.ntmps53
      go_wp2_with (first | (refine HDo.out.mono ?_; rintro e w2 ⟨rfl, rfl⟩))
      go_ret
      exact Jl.stop_die HJ.out HD.out HS.out
    | false =>
      rw [ho] at d3 hst HDo
      rw [if_neg (by simp)] at hst
      have HS := Lib.hid hst
      clear hst hd ho hJ hD
      go_enter Try.func53, Try.ntmps53
      go_wp2_with (first | (refine HDo.out.mono ?_; rintro e w2 ⟨rfl, rfl⟩))
      go_ret
      have h := Jl.stop_keep HJ.out HD.out (show stopE d j [] ≠ 0 by rw [HS.out]; decide) (by rw [HS.out]; decide) (Below.refl _ _)
      rw [HS.out] at h
      exact h

/-- What a call of it answers and leaves. -/
def VAE (w : World) (B Bd x : Nat) (q : Pl) (y : Nat) (A : Option Addr) (d' : DS) (v' : VS) (E : Int) (e : Ending) (w' : World) : Prop :=
  e = .returned (.int .i64 E) ∧ At w' Bd q d' ∧ ∃ y' A' c' vs', VA w' B x y' q A' c' vs' v' ∧ Only w w' (fun i => q.has i ∨ VHas x y A i) ∧ (y' = y ∨ w.heap.size ≤ y') ∧ Fresh w (Value.slice A 0 0).ownBlock (Value.slice A' 0 0).ownBlock

section
variable {w w' : World} {B Bd x y c : Nat} {q : Pl} {A : Option Addr} {vs : List Value} {v : VS} {d : DS}

/-- A vault's box is none of a disk's. -/
theorem box_far {cs : Array Value} (hD : At w Bd q d) (hbx : Blk w x 80 cs) : ¬ q.has x := fun hi => by
  have hL := hD.lay
  rcases hi with hi | hi | hi | hi
  · exact blk_blk_ne hbx hL.box (by decide) hi
  · exact Mv.own_blk_ne hL.now.2 hbx (by decide) q.a rfl hi.symm
  · exact Mv.own_blk_ne hL.sure.2 hbx (by decide) q.b rfl hi.symm
  · exact Mv.own_blk_ne hL.loose hbx (by decide) q.c rfl hi.symm

theorem jat_far {cs : Array Value} {y' : Nat} {A' : Option Addr} {c' : Nat} {vs' : List Value} {j : JS} {B' z : Nat} (hJ : Jl.JAt w B' y' z A' c' vs' j) (hbx : Blk w x 80 cs) : ¬ JHas y' A' x := fun hi => by
  rcases hi with hi | hi
  · exact blk_blk_ne hbx hJ.box (by decide) hi
  · exact Mv.own_blk_ne hJ.rows.own hbx (by decide) x (by rw [← hi]; exact ownBlock_any _ _ _ _ _) rfl

theorem VA.apart (h : VA w B x y q A c vs v) (hD : At w Bd q d) : ¬ q.has x ∧ ¬ JHas y A x := by
  obtain ⟨ep, _, hb⟩ := h.box
  exact ⟨box_far hD hb, jat_far h.jat hb⟩

theorem VA.lt (h : VA w B x y q A c vs v) : x < w.heap.size ∧ y < w.heap.size := by
  obtain ⟨ep, _, hb⟩ := h.box
  exact ⟨hb.lt, h.jat.box.lt⟩

/-- A journal stays where a vault's box turns. -/
theorem jat_box {W : World} {q' : Nat} {j : JS} {cs : Array Value} (hJ : Jl.JAt w B y q' A c vs j) (hbx : Blk w x 80 cs) (ho : Only w W (Mv.one x)) : Jl.JAt W B y q' A c vs j := by
  refine ⟨hJ.base, Mv.blk_only hJ.box ho (fun hs => blk_blk_ne hJ.box hbx (by decide) hs), Mv.own_only hJ.rows.own ho (fun g hg hs => Mv.own_blk_ne hJ.rows.own hbx (by decide) g hg hs), hJ.rows.len, fun k u' hu => ?_⟩
  obtain ⟨z, z1, z2⟩ := hJ.rows.each k u' hu
  exact ⟨z, z1, Mv.own_only z2 ho (fun g hg hs => Mv.own_blk_ne z2 hbx (by decide) g hg hs)⟩

theorem at_box {W : World} {cs : Array Value} (hD : At w Bd q d) (hbx : Blk w x 80 cs) (ho : Only w W (Mv.one x)) : At W Bd q d :=
  hD.only ho (fun k hi hs => by
    have e : k = x := hs
    rw [e] at hi
    exact box_far hD hbx hi)

/-- A store into the vault's box. -/
theorem VA.put {W : World} {v' : VS} (h : VA w B x y q A c vs v) (hD : At w Bd q d) (ho : Only w W (Mv.one x)) (hj : v'.j = v.j)
    (hb : ∃ ep : Nat, (v'.dead = false → ep = v'.epoch) ∧ Blk W x 80 #[.pointer (some ⟨q.x, 0, none⟩), .int .i64 (v'.half : Int), .int .u32 (ep : Int), .pointer (some ⟨y, 0, none⟩), .bool v'.dead]) :
    VA W B x y q A c vs v' ∧ At W Bd q d ∧ Only w W (fun k => q.has k ∨ VHas x y A k) := by
  obtain ⟨ep, _, hbx⟩ := h.box
  refine ⟨⟨h.base, hb, ?_⟩, at_box hD hbx ho, ho.mono (fun k _ hs => .inr (.inl hs))⟩
  rw [hj]
  exact jat_box h.jat hbx ho

/-- A call told that power is off. -/
theorem VA.die (h : VA w B x y q A c vs v) (hD : At w Bd q d) : VA (w.setCell ⟨x, 4, none⟩ (.bool true)) B x y q A c vs { v with dead := true } ∧ At (w.setCell ⟨x, 4, none⟩ (.bool true)) Bd q d ∧ Only w (w.setCell ⟨x, 4, none⟩ (.bool true)) (fun k => q.has k ∨ VHas x y A k) := by
  obtain ⟨ep, _, hbx⟩ := h.box
  refine h.put (v' := { v with dead := true }) hD ((Mv.Only.refl w (Mv.one x)).put _ (fun _ => rfl)) rfl ⟨ep, fun e => (by cases e), ?_⟩
  have := hbx.put 4 (.bool true)
  simpa using this

set_option maxHeartbeats 1000000 in
theorem vadd_core {Ab : Option Addr} {cb : Nat} {b : List UInt8} (h : VA w B x y q A c vs v) (hD : At w Bd q d) (hA : Calls Try.prog 53 #[.pointer (some ⟨y, 0, none⟩), .slice Ab b.length cb] w (AddE w B Bd y q A vs v.j d b)) :
    Calls Try.prog 24 #[.pointer (some ⟨x, 0, none⟩), .slice Ab b.length cb] w (VAE w B Bd x q y A (vaddDS d v b) (vaddV d v b) (vaddE d v b)) := by
  by_cases hc : (v.dead || d.off) = true
  · have HE : Hid (vaddE d v b = 9 ∧ vaddDS d v b = d ∧ vaddV d v b = { v with dead := true }) := Lib.hid ⟨by unfold vaddE; rw [if_pos hc], by unfold vaddDS; rw [if_pos hc], by unfold vaddV; rw [if_pos hc]⟩
    have HP := Lib.hid (h.die hD)
    have HR := Lib.hid (refused_stop h hD hc)
    clear h hD hA hc
    go_enter Try.func24, Try.ntmps24
    go_wp2_with (first | (refine HR.out.mono ?_; rintro r w2 ⟨rfl, hw⟩; rw [hw]; clear hw w2))
    go_ret
    rw [HE.out.1, HE.out.2.1, HE.out.2.2]
    exact ⟨rfl, HP.out.2.1, y, A, c, vs, HP.out.1, HP.out.2.2, .inl rfl, .inl rfl⟩
  · have hc' : (v.dead || d.off) = false := by simpa using hc
    have hd : v.dead = false := by
      cases h1 : v.dead with
      | true => rw [h1] at hc'; cases hc'
      | false => rfl
    have HE : Hid (vaddE d v b = addE d v.j b ∧ vaddDS d v b = addDS d v.j b ∧ vaddV d v b = { v with j := addJ d v.j b, dead := decide (addE d v.j b = 9) }) := Lib.hid ⟨by unfold vaddE; rw [if_neg hc], by unfold vaddDS; rw [if_neg hc], by unfold vaddV; rw [if_neg hc]⟩
    have HR := Lib.hid (refused_go h hD hc')
    have HA := Lib.hid hA
    have HV := Lib.hid (And.intro h (And.intro hD hd))
    obtain ⟨ep, hep, hbx0⟩ := h.box
    have c3 := hbx0.cell 3
    simp at c3
    have HEP := Lib.hid (And.intro hep hbx0)
    clear h hD hA hc hc' hd hep hbx0
    go_enter Try.func24, Try.ntmps24
    go_wp2_with (first | (go_at_call 46; (with_reducible refine HR.out.mono ?_); rintro r w2 ⟨rfl, hw⟩; rw [hw]; clear hw w2))
    refine HA.out.mono ?_
    rintro r w1 ⟨rfl, hR, A', c', vs', hJ, hO, hF, _⟩
    obtain ⟨a1, a2⟩ := HV.out.1.apart HV.out.2.1
    have hbx := Mv.blk_only HEP.out.2 hO (fun hs => hs.elim a1 a2)
    have e4 := hbx.cell 4
    have f4 := hbx.frozen 4
    simp at e4
    rw [HV.out.2.2] at e4
    generalize hE9 : addE d v.j b = E at *
    have HT := Lib.hid (told_any w1 x false E e4 f4)
    have HR1 : Hid (VA w1 B x y q A' c' vs' { v with j := addJ d v.j b }) := Lib.hid ⟨HV.out.1.base, ⟨ep, HEP.out.1, hbx⟩, hJ⟩
    have HX := Lib.hid (And.intro hR (And.intro hO (And.intro hF hbx)))
    have HE9 := Lib.hid hE9
    clear hR hJ hO hF hbx a1 a2 c3 HA hE9 e4 f4
    go_wp2_with fail
    refine HT.out.mono ?_
    rintro r w2 ⟨rfl, hw⟩
    rw [hw]
    clear hw w2
    go_wp2_with fail
    go_ret
    obtain ⟨q1, q2, q3⟩ := HR1.out.put (v' := { v with j := addJ d v.j b, dead := decide (E = 9) }) HX.out.1 ((Mv.Only.refl w1 (Mv.one x)).put (.bool (false || E == 9)) (fun _ => rfl)) rfl ⟨ep, fun _ => HEP.out.1 HV.out.2.2, by
      exact HX.out.2.2.2.put 4 (.bool (false || E == 9))⟩
    rw [HE.out.1, HE.out.2.1, HE.out.2.2]
    refine ⟨rfl, q2, y, A', c', vs', q1, ?_, .inl rfl, HX.out.2.2.1⟩
    refine (HX.out.2.1.mono (fun i _ hs => hs.imp id .inr)).trans q3 fun i hi hs => ?_
    rcases hs with hs | hs | hs | hs
    · exact .inl hs
    · exact .inr (.inl hs)
    · exact .inr (.inr (.inl hs))
    · rcases HX.out.2.2.1 with g | ⟨k, g, hk⟩
      · exact .inr (.inr (.inr (by rw [← g]; exact hs)))
      · rw [g] at hs
        injection hs with hs
        omega

theorem vadd_any {Ab : Option Addr} {cb : Nat} {b : List UInt8} (h : VA w B x y q A c vs v) (hD : At w Bd q d) (hf : VFit d v) (hb : Bys w w.heap.size Ab b.length b) (hcb : b.length ≤ cb) (hcb2 : cb ≤ 9223372036854775807) (hlen : b.length ≤ 1000000000000) (hfar : ∀ a, Ab = some a → ¬ q.has a.block) :
    Calls Try.prog 24 #[.pointer (some ⟨x, 0, none⟩), .slice Ab b.length cb] w (VAE w B Bd x q y A (vaddDS d v b) (vaddV d v b) (vaddE d v b)) :=
  vadd_core h hD (jadd_any w B Bd y c cb A Ab vs v.j q d b h.jat hD hf.fit hb hcb hcb2 hfar hlen)

/-- .. of bytes that, if there are any, are no part of its disk. -/
theorem vadd_weak {Ab : Option Addr} {cb : Nat} {b : List UInt8} (h : VA w B x y q A c vs v) (hD : At w Bd q d) (hf : VFit d v) (hb : Bys w w.heap.size Ab b.length b) (hcb : b.length ≤ cb) (hcb2 : cb ≤ 9223372036854775807) (hlen : b.length ≤ 1000000000000) (hfar : ∀ a, Ab = some a → b.length ≠ 0 → ¬ q.has a.block) :
    Calls Try.prog 24 #[.pointer (some ⟨x, 0, none⟩), .slice Ab b.length cb] w (VAE w B Bd x q y A (vaddDS d v b) (vaddV d v b) (vaddE d v b)) := by
  by_cases h0 : b.length = 0
  · have hb0 : b = [] := List.eq_nil_of_length_eq_zero h0
    subst hb0
    exact vadd_core h hD (jadd_empty w B Bd y c cb A Ab vs v.j q d h.jat hD)
  · exact vadd_any h hD hf hb hcb hcb2 hlen (fun a ha => hfar a ha h0)

/-! ### The vault that is begun -/
theorem sectors_any (half H : Nat) (hD : At w Bd q d) (hn : d.n ≤ 20000) (hH : d.n / 2 = H) (h1 : half ≤ 1) :
    Calls Try.prog 37 #[.pointer (some ⟨q.x, 0, none⟩), .int .i64 (half : Int)] w fun e w' => e = .returned (.tuple #[.int .i64 ((half * H : Nat) : Int), .int .i64 (H : Int)]) ∧ w' = w := by
  have d1 := hD.lay.box.cell 1
  simp at d1
  have HL := Lib.hid (Dd.len_eq w q.x _ d.n _ d1 (by omega))
  have hq : ((d.n : Int).tdiv 2) = (H : Int) := by rw [Int.tdiv_eq_ediv_of_nonneg (by omega)]; omega
  have hq' : ((d.n : Int) / 2) = (H : Int) := by omega
  have hq2 : (d.n : Int) ≤ 20000 := by omega
  have hq3 : (H : Int) ≤ 20000 := by omega
  have hm : IntKind.i64.wrap ((half : Int) * (H : Int)) = ((half * H : Nat) : Int) := by
    have e : (half : Int) * (H : Int) = ((half * H : Nat) : Int) := by simp
    have hb : half * H ≤ H := by
      rcases Nat.le_one_iff_eq_zero_or_eq_one.1 h1 with e | e <;> rw [e] <;> simp
    rw [e, IntWalk.i64_in _ (by omega)]
  generalize d.n = dn at *
  clear hD hH h1
  go_enter Try.func37, Try.ntmps37
  go_wp2_with (first | (refine HL.out.mono ?_; rintro r w2 ⟨rfl, rfl⟩))
  go_ret2
  exact ⟨rfl, rfl⟩

/-- What begin answers and leaves. -/
def BeginE (w : World) (Bd : Nat) (q : Pl) (half H E : Nat) (b : List UInt8) (d : DS) (e : Ending) (w' : World) : Prop :=
  At w' Bd q (addDS d (blankJ (half * H) H E) (1 :: b)) ∧ Only w w' q.has ∧
  ((addE d (blankJ (half * H) H E) (1 :: b) ≠ 0 ∧ e = .returned (.tuple #[.pointer none, .int .i64 (addE d (blankJ (half * H) H E) (1 :: b))])) ∨
   (addE d (blankJ (half * H) H E) (1 :: b) = 0 ∧ ∃ x y A c vs, e = .returned (.tuple #[.pointer (some ⟨x, 0, none⟩), .int .i64 0]) ∧ VA w' w.heap.size x y q A c vs ⟨half, H, E, addJ d (blankJ (half * H) H E) (1 :: b), false⟩))

set_option maxHeartbeats 4000000 in
theorem begin_any (w : World) (half H E cb : Nat) (Ab : Option Addr) (b : List UInt8) (hD : At w Bd q d) (hn : d.n ≤ 20000) (ha : d.armed ≤ 9223372036854775807) (hoff : d.off = false) (hH : d.n / 2 = H) (hH2 : 2 ≤ H) (h1 : half ≤ 1) (hE1 : 1 ≤ E) (hE2 : E < 2 ^ 32) (hb : Bys w w.heap.size Ab b.length b) (hA0 : Ab = none → b.length = 0 ∧ cb = 0) (hlen : b.length ≤ 400000) :
    Calls Try.prog 41 #[.pointer (some ⟨q.x, 0, none⟩), .int .i64 (half : Int), .int .u32 (E : Int), .slice Ab b.length cb] w (BeginE w Bd q half H E b d) := by
  have HS := Lib.hid (sectors_any half H hD hn hH h1)
  obtain ⟨O, hO⟩ : ∃ O, half * H = O := ⟨_, rfl⟩
  have hOd : O + H ≤ d.n := by
    rw [← hO]
    rcases Nat.le_one_iff_eq_zero_or_eq_one.1 h1 with e | e
    · rw [e]; simp; omega
    · rw [e]; simp; omega
  rw [hO] at HS
  have hNE : newE d (O : Int) (H : Int) E = 0 := Jr.new_is hOd (by omega) hE1 hoff
  have HNF := Lib.hid (Fit.blank hNE hn hE2 ha)
  have HN := Lib.hid (Jl.new_ok w Bd q d O H E hD.lay (by omega) hE2 hNE)
  have HD := Lib.hid (And.intro hD hb)
  have HO := Lib.hid hO
  have HNUM := Lib.hid hlen
  clear hNE hO hOd hD hb hH hH2 h1 hE1 hE2 hoff ha hn
  generalize hbl : b.length = bl at *
  have HBLN := Lib.hid hbl
  clear hbl
  go_enter Try.func41, Try.ntmps41
  go_wp2_with (first | (go_at_call 37; (with_reducible refine HS.out.mono ?_); rintro r w2 ⟨rfl, hw⟩; rw [hw]; clear hw w2))
  refine HN.out.mono ?_
  rintro r wb ⟨y2, rfl, hy2, hJ2, kb⟩
  have HKW := Lib.hid (And.intro kb (And.intro hy2 hJ2))
  -- the new base's bytes
  obtain ⟨bb, hbb⟩ : ∃ bb : List UInt8, 1 :: b = bb := ⟨_, rfl⟩
  have hbl2 : 1 + bl = bb.length := by rw [← hbb, ← HBLN.out]; simp; omega
  have HBB := Lib.hid (And.intro hbb hbl2)
  obtain ⟨j0, hj0, hj1, hj2, hj3⟩ := info_parts By.info_u8
  have hby : Bys (wb.alloc (.cells #[.int .u8 1] 5)) (wb.alloc (.cells #[.int .u8 1] 5)).heap.size Ab bl b := (HD.out.2.below kb (Nat.le_refl _) |>.more kb.size).below (((Below.refl wb.heap.size wb).alloc (Nat.le_refl _) (.cells #[.int .u8 1] 5))) (Nat.le_refl _) |>.more (by simp)
  have hone : (wb.alloc (.cells #[.int .u8 1] 5)).ownsRow wb.heap.size 5 1 (.slice (some ⟨wb.heap.size, 0, none⟩) 1 1) 1 (cellsB [1]) := Jl.one_row wb wb.heap.size (Nat.le_refl _) 1
  have HAD : Hid (∀ (w6 : World) (v6 : Value), w6.ownsRow wb.heap.size 5 1 v6 (1 + bl) (cellsB ([1] ++ b)) → (wb.alloc (.cells #[.int .u8 1] 5)).grownBy w6 (some wb.heap.size) → ∃ A6 c6, v6 = .slice A6 bb.length c6 ∧ Calls Try.prog 53 #[.pointer (some ⟨y2, 0, none⟩), .slice A6 bb.length c6] w6 (AddE w6 w.heap.size Bd y2 q none [] (blankJ O H E) d bb) ∧ Below wb.heap.size wb w6) := Lib.hid (fun w6 v6 h6 hg => by
    have h8 : Own8 w6 wb.heap.size v6 bb := by
      have e : [1] ++ b = bb := hbb
      rw [e, hbl2] at h6
      exact h6
    obtain ⟨A6, c6, rfl⟩ := Mv.own_value h8
    have k6 : Below wb.heap.size wb w6 := ((Below.refl wb.heap.size wb).alloc (Nat.le_refl _) _).grown hg (by simp) (fun g hg => by injection hg with hg; omega)
    have hcap := Mv.own_cap h8
    have hJ6 : Jl.JAt w6 w.heap.size y2 q.x none 0 [] (blankJ O H E) := HKW.out.2.2.below k6
    have hD6 : At w6 Bd q d := Dk.at_below (Dk.at_below HD.out.1 HKW.out.1) k6
    exact ⟨A6, c6, rfl, jadd_any w6 w.heap.size Bd y2 0 c6 none A6 [] (blankJ O H E) q d bb hJ6 hD6 HNF.out (By.Own8.bys h8) hcap.1 hcap.2 (own_far_disk h8 hD6.lay) (by have := HNUM.out; omega), k6⟩)
  have HBY6 := Lib.hid (And.intro hby (And.intro hone (And.intro hj0 (And.intro hj1 (And.intro hj2 hj3)))))
  have HSZ : Hid (1 + bl ≤ 140737488355328 ∧ wb.heap.size ≤ (wb.alloc (.cells #[.int .u8 1] 5)).heap.size ∧ (Ab = none → bl = 0 ∧ cb = 0)) := Lib.hid ⟨by have := HNUM.out; omega, by simp, hA0⟩
  have bb1 : (bb.length : Int) ≤ 400001 := by have := HNUM.out; omega
  clear hbb hby hone hbl2 hj0 hj1 hj2 hj3 kb hy2 hJ2 HN HS hA0 hlen
  go_wp2_with (first
    | (at_builtin; ((with_reducible refine By.wpList_append_bytes (o := ⟨some 35, _, _, _, _, _⟩) (wb.alloc (.cells #[.int .u8 1] 5)) ?_ (.tmp 33) (.tmp 34) 37 ?_ wb.heap.size 5 j0 Try.underlying37 HBY6.out.2.2.1 HBY6.out.2.2.2.1 HBY6.out.2.2.2.2.1 HBY6.out.2.2.2.2.2 (.slice (some ⟨wb.heap.size, 0, none⟩) 1 1) 1 [1] ?_ HBY6.out.2.1 (wb.alloc (.cells #[.int .u8 1] 5)).heap.size Ab bl cb b ?_ HBY6.out.1 HSZ.out.2.2 HSZ.out.1 HSZ.out.2.1 ?_); (next => rfl); (next => rfl); (next => rfl); (next => rfl)); intro v6 w6 hown6 hgr6 hfr6; obtain ⟨A6, c6, rfl, hA6, hk6⟩ := HAD.out w6 v6 hown6 hgr6; have H6 := Lib.hid (And.intro hA6 hk6); clear hown6 hgr6 hfr6 hA6 hk6))
  refine H6.out.1.mono ?_
  rintro r w7 ⟨hr7, hD7, A7, c7, vs7, hJ7, hO7, hF7, _⟩
  obtain ⟨F, hF⟩ : ∃ F, addE d (blankJ O H E) bb = F := ⟨_, rfl⟩
  rw [hF] at hr7
  subst hr7
  have HFF := Lib.hid hF
  have hOall : Only w w7 q.has := by
    refine (((Mv.Only.ofBelow HKW.out.1 q.has).below H6.out.2)).trans hO7 fun i hi hs => ?_
    rcases hs with hs | hs | hs
    · exact hs
    · have := HKW.out.2.1
      omega
    · cases hs
  have H7 := Lib.hid (And.intro hD7 (And.intro hJ7 hOall))
  clear hD7 hJ7 hO7 hF7 hF hOall HAD HBY6 HSZ H6
  by_cases h0 : F = 0
  · subst h0
    go_wp2_with fail
    go_ret2
    unfold BeginE
    rw [HO.out, HBB.out.1, HFF.out]
    have k8 : Below w7.heap.size w7 (w7.alloc (.cells #[.pointer (some ⟨q.x, 0, none⟩), .int .i64 (half : Int), .int .u32 (E : Int), .pointer (some ⟨y2, 0, none⟩), .bool false] 80)) := (Below.refl _ _).alloc (Nat.le_refl _) _
    exact ⟨Dk.at_below H7.out.1 k8, H7.out.2.2.below k8, .inr ⟨rfl, w7.heap.size, y2, A7, c7, vs7, rfl, ⟨H7.out.2.2.size, ⟨E, fun _ => rfl, Qu.Blk.new w7 _ _⟩, H7.out.2.1.below k8⟩⟩⟩
  · have b1 : (F == 0) = false := beq_eq_false_iff_ne.2 h0
    have b2 : (F != 0) = true := by rw [bne, b1]; rfl
    have HNZ := Lib.hid h0
    clear h0
    go_wp2_with fail
    go_ret2
    unfold BeginE
    rw [HO.out, HBB.out.1, HFF.out]
    exact ⟨H7.out.1, H7.out.2.2, .inl ⟨HNZ.out, rfl⟩⟩
end

end Go.Proofs.Ytedgookkogpfbaa.Vl
