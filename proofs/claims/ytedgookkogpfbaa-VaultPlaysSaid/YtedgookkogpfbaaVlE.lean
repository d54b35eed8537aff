/- The landed vault in memory: Open. -/
import Derived.Test.YtedgookkogpfbaaVlD
set_option maxRecDepth 100000
namespace Go.Proofs.Ytedgookkogpfbaa.Vl
open Go.ChangeShapes Go.WideShapes Go.ChangeAt Go.RowKit
open Qu (Blk)
open Mv (Only Fresh)
open By (Own8 Bys cellsB cellsB_length)
open Dk (DS Sec secCells readE readV readE_ok)
open Dd (Lay At Tidy Pl)
open Jr (JS Recd JHas Fit newE blankJ openJ addE addDS addJ stopE needN blk_blk_ne own_own_ne ownBlock_any)
open Jl (RecE Told AddE own_far_disk jat_one lay_one)
open Vt
set_option linter.unusedVariables false

/-- What Open answers and leaves. -/
def OpenE (w : World) (Bd : Nat) (q : Pl) (d : DS) (e : Ending) (w' : World) : Prop :=
  At w' Bd q (vopenDS d) ∧ Only w w' q.has ∧ (vstopE d = 0 → vfound d = true → Below w.heap.size w w') ∧
  ((vopenE d ≠ 0 ∧ e = .returned (.tuple #[.pointer none, .int .i64 (vopenE d)])) ∨
   (vopenE d = 0 ∧ ∃ x y A c vs, e = .returned (.tuple #[.pointer (some ⟨x, 0, none⟩), .int .i64 0]) ∧ VA w' w.heap.size x y q A c vs (vopenV d)))

theorem open_nil (w : World) : Calls Try.prog 11 #[.pointer none] w fun e w' => e = .returned (.tuple #[.pointer none, .int .i64 1]) ∧ w' = w := by
  go_enter Try.func11, Try.ntmps11
  go_wp2
  go_ret2
  exact ⟨rfl, rfl⟩

section
variable {w w' : World} {B Bd x y c : Nat} {q : Pl} {A : Option Addr} {vs : List Value} {v : VS} {d : DS}

theorem open_stop (h : At w Bd q d) (hs : vstopE d ≠ 0) (hb : Below w.heap.size w w') : OpenE w Bd q d (.returned (.tuple #[.pointer none, .int .i64 (vstopE d)])) w' := by
  have e1 : vopenE d = vstopE d := by unfold vopenE; rw [if_pos hs]
  have e2 : vopenDS d = d := by unfold vopenDS; rw [if_pos hs]
  unfold OpenE
  rw [e1, e2]
  exact ⟨Dk.at_below h hb, Mv.Only.ofBelow hb _, fun h0 => absurd h0 hs, .inl ⟨hs, rfl⟩⟩

theorem jl_lower {B' z : Nat} {j : JS} (h : Jl.JAt w B y z A c vs j) (hb : B' ≤ B) : Jl.JAt w B' y z A c vs j :=
  ⟨Nat.le_trans hb h.base, h.box, Lf.own_lower h.rows.own hb, h.rows.len, fun i u hu => by
    obtain ⟨z, z1, z2⟩ := h.rows.each i u hu
    exact ⟨z, z1, Lf.own_lower z2 hb⟩⟩

set_option maxHeartbeats 8000000 in
theorem open_any (w : World) (Bd : Nat) (q : Pl) (d : DS) (h : At w Bd q d) (hn : d.n ≤ 20000) (ha : d.armed ≤ 9223372036854775807) (hT : topN d.now < 2 ^ 32) :
    Calls Try.prog 11 #[.pointer (some ⟨q.x, 0, none⟩)] w (OpenE w Bd q d) := by
  have d1 := h.lay.box.cell 1
  have d3 := h.lay.box.cell 3
  simp at d1 d3
  have HL := Lib.hid (Dd.len_eq w q.x _ d.n _ d1 (by omega))
  have HDn := Lib.hid (Dd.down_eq w q.x d.off d3)
  have hq2 : (d.n : Int) ≤ 20000 := by omega
  clear d1 d3
  by_cases h4 : d.n < 4
  · have es : vstopE d = 2 := by unfold vstopE; rw [if_pos (by omega)]
    have HFI := Lib.hid (open_stop h (by omega) (Below.refl w.heap.size w))
    rw [es] at HFI
    have l1 : (d.n : Int) < 4 := by omega
    have l2 : decide (d.n < 4) = true := decide_eq_true h4
    clear h hn ha hT h4 es HDn
    generalize d.n = dn at *
    go_enter Try.func11, Try.ntmps11
    go_wp2_with (first | (go_at_call 34; (with_reducible refine HL.out.mono ?_); rintro r w2 ⟨rfl, rfl⟩))
    go_ret2
    exact HFI.out
  have l1 : ¬ (d.n : Int) < 4 := by omega
  have l2 : decide (d.n < 4) = false := decide_eq_false h4
  have l3 : decide ((d.n : Int) < 4) = false := decide_eq_false l1
  obtain ⟨H, hH⟩ : ∃ H : Nat, d.n / 2 = H := ⟨_, rfl⟩
  have hH2 : 2 ≤ H := by omega
  have hH3 : H ≤ 10000 := by omega
  cases ho : d.off with
  | true =>
    have es : vstopE d = 9 := by unfold vstopE; rw [if_neg (by omega), ho]; rfl
    have HFI := Lib.hid (open_stop h (by omega) (Below.refl w.heap.size w))
    rw [es] at HFI
    rw [ho] at HDn
    clear h hn ha hT h4 es ho hH hH2 hH3
    generalize d.n = dn at *
    go_enter Try.func11, Try.ntmps11
    go_wp2_with (first | (go_at_call 34; (with_reducible refine HL.out.mono ?_); rintro r w2 ⟨rfl, rfl⟩) | (go_at_call 35; (with_reducible refine HDn.out.mono ?_); rintro r w2 ⟨rfl, rfl⟩))
    go_ret2
    exact HFI.out
  | false =>
  rw [ho] at HDn
  have HAB := Lib.hid (above_any h hn ho hT)
  obtain ⟨T, hTT⟩ : ∃ T, topN d.now = T := ⟨_, rfl⟩
  by_cases hm : T = 4294967295
  · have es : vstopE d = 6 := by unfold vstopE; rw [if_neg (by omega), ho, if_neg (by simp), if_pos (by omega)]
    have HFI := Lib.hid (fun (w' : World) (hb : Below w.heap.size w w') => open_stop h (by omega) hb)
    rw [es] at HFI
    have e1 : aboveE d = 6 := by unfold aboveE; rw [if_pos (by omega)]
    rw [e1] at HAB
    generalize aboveV d = av at *
    clear h hn ha hT h4 es ho hH hH2 hH3 hTT hm e1
    generalize d.n = dn at *
    go_enter Try.func11, Try.ntmps11
    go_wp2_with (first | (go_at_call 34; (with_reducible refine HL.out.mono ?_); rintro r w2 ⟨rfl, rfl⟩) | (go_at_call 35; (with_reducible refine HDn.out.mono ?_); rintro r w2 ⟨rfl, rfl⟩))
    refine HAB.out.mono ?_
    rintro r w3 ⟨rfl, k3⟩
    have HK3 := Lib.hid k3
    clear k3
    go_wp2_with fail
    go_ret2
    exact HFI.out _ HK3.out
  have hvs : vstopE d = 0 := by unfold vstopE; rw [if_neg (by omega), ho, if_neg (by simp), if_neg (by omega)]
  obtain ⟨E, hE⟩ : ∃ E, T + 1 = E := ⟨_, rfl⟩
  have hE1 : 1 ≤ E := by omega
  have hE32 : E < 2 ^ 32 := by omega
  have e1 : aboveE d = 0 := by unfold aboveE; rw [if_neg (by omega)]
  have e2 : aboveV d = E := by unfold aboveV; rw [if_neg (by omega)]; omega
  rw [e1, e2] at HAB
  obtain ⟨b1, hb1⟩ : ∃ b1, (openJ d 0 H E).begun = b1 := ⟨_, rfl⟩
  obtain ⟨b2, hb2⟩ : ∃ b2, (openJ d H H E).begun = b2 := ⟨_, rfl⟩
  have hpk : pickV d (d.n / 2) (topN d.now + 1) = if b1 < b2 then (1, openJ d H H E) else (0, openJ d 0 H E) := by
    unfold pickV
    rw [hH, hTT, hE, hb1, hb2]
  have hvf : vfound d = decide (b1 ≠ 0 ∨ b2 ≠ 0) := by
    unfold vfound
    rw [hpk]
    by_cases hlt : b1 < b2
    · rw [if_pos hlt]
      show decide ((openJ d H H E).begun ≠ 0) = _
      rw [hb2, decide_eq_true (show b2 ≠ 0 by omega), decide_eq_true (show b1 ≠ 0 ∨ b2 ≠ 0 by omega)]
    · rw [if_neg hlt]
      show decide ((openJ d 0 H E).begun ≠ 0) = _
      rw [hb1]
      by_cases hz : b1 = 0
      · rw [decide_eq_false (by omega), decide_eq_false (by omega)]
      · rw [decide_eq_true hz, decide_eq_true (.inl hz)]
  have HX0 : Hid (vopenE d = (if vfound d then 0 else addE d (blankJ 0 H E) [1]) ∧ vopenDS d = (if vfound d then d else addDS d (blankJ 0 H E) [1]) ∧ vopenV d = (if vfound d then ⟨(pickV d (d.n / 2) (topN d.now + 1)).1, H, E, (pickV d (d.n / 2) (topN d.now + 1)).2, false⟩ else ⟨0, H, E, addJ d (blankJ 0 H E) [1], false⟩)) := Lib.hid (by
    refine ⟨?_, ?_, ?_⟩
    · unfold vopenE
      rw [if_neg (by omega), hH, hTT, hE]
    · unfold vopenDS
      rw [if_neg (by omega), hH, hTT, hE]
    · unfold vopenV
      rw [hH, hTT, hE])
  have HD := Lib.hid h
  have HNE1 := Lib.hid (Jr.new_is (d := d) (o := 0) (n := H) (e := E) (by omega) (by omega) hE1 ho)
  have HNE2 := Lib.hid (Jr.new_is (d := d) (o := H) (n := H) (e := E) (by omega) (by omega) hE1 ho)
  have HS0 : Hid (∀ u, Below w.heap.size w u → Calls Try.prog 37 #[.pointer (some ⟨q.x, 0, none⟩), .int .i64 0] u fun e w' => e = .returned (.tuple #[.int .i64 0, .int .i64 (H : Int)]) ∧ w' = u) := Lib.hid (fun u hu => by
    have hh := sectors_any (w := u) (Bd := Bd) (q := q) (d := d) 0 H (Dk.at_below HD.out hu) hn hH (by omega)
    rw [Nat.zero_mul] at hh
    exact hh)
  have HS1 : Hid (∀ u, Below w.heap.size w u → Calls Try.prog 37 #[.pointer (some ⟨q.x, 0, none⟩), .int .i64 1] u fun e w' => e = .returned (.tuple #[.int .i64 (H : Int), .int .i64 (H : Int)]) ∧ w' = u) := Lib.hid (fun u hu => by
    have hh := sectors_any (w := u) (Bd := Bd) (q := q) (d := d) 1 H (Dk.at_below HD.out hu) hn hH (by omega)
    rw [Nat.one_mul] at hh
    exact hh)
  have HO0 : Hid (∀ u, Below w.heap.size w u → Calls Try.prog 38 #[.pointer (some ⟨q.x, 0, none⟩), .int .i64 0, .int .i64 (H : Int), .int .u32 (E : Int)] u fun r w' => ∃ x A c vs, r = .returned (.tuple #[.pointer (some ⟨x, 0, none⟩), .int .i64 0]) ∧ u.heap.size ≤ x ∧ Jl.JAt w' u.heap.size x q.x A c vs (openJ d 0 H E) ∧ Below u.heap.size u w') := Lib.hid (fun u hu => Jl.open_ok u Bd q d 0 H E (Dk.at_below HD.out hu).lay (by omega) hE32 HNE1.out)
  have HO1 : Hid (∀ u, Below w.heap.size w u → Calls Try.prog 38 #[.pointer (some ⟨q.x, 0, none⟩), .int .i64 (H : Int), .int .i64 (H : Int), .int .u32 (E : Int)] u fun r w' => ∃ x A c vs, r = .returned (.tuple #[.pointer (some ⟨x, 0, none⟩), .int .i64 0]) ∧ u.heap.size ≤ x ∧ Jl.JAt w' u.heap.size x q.x A c vs (openJ d H H E) ∧ Below u.heap.size u w') := Lib.hid (fun u hu => Jl.open_ok u Bd q d H H E (Dk.at_below HD.out hu).lay (by omega) hE32 HNE2.out)
  have HBG : Hid (∀ u, Below w.heap.size w u → Calls Try.prog 41 #[.pointer (some ⟨q.x, 0, none⟩), .int .i64 0, .int .u32 (E : Int), .slice none 0 0] u fun e w' => At w' Bd q (addDS d (blankJ 0 H E) [1]) ∧ Only u w' q.has ∧ ((addE d (blankJ 0 H E) [1] ≠ 0 ∧ e = .returned (.tuple #[.pointer none, .int .i64 (addE d (blankJ 0 H E) [1])])) ∨ (addE d (blankJ 0 H E) [1] = 0 ∧ ∃ x y A c vs, e = .returned (.tuple #[.pointer (some ⟨x, 0, none⟩), .int .i64 0]) ∧ VA w' u.heap.size x y q A c vs ⟨0, H, E, addJ d (blankJ 0 H E) [1], false⟩))) := Lib.hid (fun u hu => by
    have hh := begin_any (Bd := Bd) (q := q) (d := d) u 0 H E 0 none [] (Dk.at_below HD.out hu) hn ha ho hH hH2 (by omega) hE1 hE32 ⟨rfl, fun i z hz => by cases hz⟩ (fun _ => ⟨rfl, rfl⟩) (by show 0 ≤ _; omega)
    unfold BeginE at hh
    rw [Nat.zero_mul] at hh
    exact hh)
  have HG : Hid ((openJ d 0 H E).begun = b1 ∧ (openJ d H H E).begun = b2) := Lib.hid ⟨hb1, hb2⟩
  have HPK := Lib.hid hpk
  have HVF := Lib.hid hvf
  have HVS := Lib.hid hvs
  have hmf : ∀ (fn : Fn) (first cap : Array Value) (W : World), (Instr.makeFunc fn first cap).run Try.prog W = .ok (.func fn first cap) W := fun _ _ _ _ => rfl
  clear h hn ha hT h4 ho hH hH2 hH3 hTT hm hvs hE hE1 hE32 e1 e2 hb1 hb2 hpk hvf
  go_enter Try.func11, Try.ntmps11
  go_wp2_with (first | (go_at_call 34; (with_reducible refine HL.out.mono ?_); rintro r w2 ⟨rfl, rfl⟩) | (go_at_call 35; (with_reducible refine HDn.out.mono ?_); rintro r w2 ⟨rfl, rfl⟩))
  refine HAB.out.mono ?_
  rintro r w3 ⟨rfl, k3⟩
  have HK3 := Lib.hid k3
  clear k3 HAB HL HDn
  obtain ⟨W1, hW1⟩ : ∃ W1, W1 = w3.alloc (.cells #[.pointer none, .pointer none] 70) := ⟨_, rfl⟩
  have HW1 : Hid (W1 = w3.alloc (.cells #[.pointer none, .pointer none] 70) ∧ Below w.heap.size w W1 ∧ Blk W1 w3.heap.size 70 #[.pointer none, .pointer none]) := Lib.hid ⟨hW1, by rw [hW1]; exact HK3.out.alloc HK3.out.size _, by rw [hW1]; exact Qu.Blk.new w3 _ _⟩
  obtain ⟨g, hg⟩ : ∃ g, w3.heap.size = g := ⟨_, rfl⟩
  have HGG : Hid (w3.heap.size = g ∧ w.heap.size ≤ g) := Lib.hid ⟨hg, by rw [← hg]; exact HK3.out.size⟩
  clear hW1
  go_upto_region 11 with (fail)
  rw [← HW1.out.1]
  go_wp2_with fail
  refine wp_loop_rounds 3 ?_
  rw [rounds_succ]
  go_wp2_with (first | (go_at_call 37; (with_reducible refine (HS0.out W1 HW1.out.2.1).mono ?_); rintro r w2 ⟨rfl, hw⟩; rw [hw]; clear hw w2))
  refine (HO0.out W1 HW1.out.2.1).mono ?_
  rintro r w4 ⟨y1, A1, c1, vs1, rfl, hy1, hJ1, k4⟩
  have hb4 := HW1.out.2.2.below k4
  have g0 := hb4.cell 0
  have f0 := hb4.frozen 0
  simp at g0
  rw [hg] at hb4 g0 f0
  obtain ⟨W5, hW5⟩ : ∃ W5, W5 = w4.setCell ⟨g, 0, none⟩ (.pointer (some ⟨y1, 0, none⟩)) := ⟨_, rfl⟩
  have ho5 : Only w4 W5 (Mv.one g) := by rw [hW5]; exact (Mv.Only.refl w4 (Mv.one g)).put _ (fun _ => rfl)
  have H5 : Hid (W5 = w4.setCell ⟨g, 0, none⟩ (.pointer (some ⟨y1, 0, none⟩)) ∧ Below w.heap.size w W5 ∧ Jl.JAt W5 W1.heap.size y1 q.x A1 c1 vs1 (openJ d 0 H E) ∧ Blk W5 g 70 #[.pointer (some ⟨y1, 0, none⟩), .pointer none]) := Lib.hid ⟨hW5, (HW1.out.2.1.trans (k4.mono HW1.out.2.1.size)).trans (ho5.toBelow (by have := HW1.out.2.1.size; have := k4.size; omega) (fun k hk hs => by have e : k = g := hs; have := HGG.out.2; omega)), jat_one hJ1 hb4 (by decide) (by decide) (by decide) ho5, by rw [hW5]; have := hb4.put 0 (.pointer (some ⟨y1, 0, none⟩)); simpa using this⟩
  clear hW5 ho5 hb4 hJ1 k4 hy1 hg
  go_wp2_with fail
  rw [rounds_succ]
  go_upto_region 14 with fail
  rw [← H5.out.1]
  go_wp2_with (first | (go_at_call 37; (with_reducible refine (HS1.out W5 H5.out.2.1).mono ?_); rintro r w2 ⟨rfl, hw⟩; rw [hw]; clear hw w2))
  refine (HO1.out W5 H5.out.2.1).mono ?_
  rintro r w6 ⟨y2, A2, c2, vs2, rfl, hy2, hJ2, k6⟩
  clear g0 f0
  have hb6 := H5.out.2.2.2.below k6
  have g1 := hb6.cell 1
  have f1 := hb6.frozen 1
  simp at g1
  obtain ⟨W7, hW7⟩ : ∃ W7, W7 = w6.setCell ⟨g, 1, none⟩ (.pointer (some ⟨y2, 0, none⟩)) := ⟨_, rfl⟩
  have ho7 : Only w6 W7 (Mv.one g) := by rw [hW7]; exact (Mv.Only.refl w6 (Mv.one g)).put _ (fun _ => rfl)
  have H7 : Hid (W7 = w6.setCell ⟨g, 1, none⟩ (.pointer (some ⟨y2, 0, none⟩)) ∧ Below w.heap.size w W7 ∧ Jl.JAt W7 w.heap.size y1 q.x A1 c1 vs1 (openJ d 0 H E) ∧ Jl.JAt W7 w.heap.size y2 q.x A2 c2 vs2 (openJ d H H E) ∧ Blk W7 g 70 #[.pointer (some ⟨y1, 0, none⟩), .pointer (some ⟨y2, 0, none⟩)]) := Lib.hid ⟨hW7, (H5.out.2.1.trans (k6.mono H5.out.2.1.size)).trans (ho7.toBelow (by have := H5.out.2.1.size; have := k6.size; omega) (fun k hk hs => by have e : k = g := hs; have := HGG.out.2; omega)), jl_lower (jat_one (H5.out.2.2.1.below k6) hb6 (by decide) (by decide) (by decide) ho7) HW1.out.2.1.size, jl_lower (jat_one hJ2 hb6 (by decide) (by decide) (by decide) ho7) H5.out.2.1.size, by rw [hW7]; have := hb6.put 1 (.pointer (some ⟨y2, 0, none⟩)); simpa using this⟩
  clear hW7 ho7 hb6 hJ2 k6 hy2 HO0 HO1 HS0 HS1
  go_wp2_with fail
  rw [rounds_succ]
  go_upto_region 19 with fail
  rw [← H7.out.1]
  clear g1 f1
  have g0 := H7.out.2.2.2.2.cell 0
  have g1 := H7.out.2.2.2.2.cell 1
  simp at g0 g1
  -- both are asked
  have HCN : Hid (∀ u, Below W7.heap.size W7 u → ∀ gf : Nat, u.cell? ⟨gf, 0, none⟩ = some (.func (.func 40) #[.pointer (some ⟨y1, 0, none⟩)] #[]) → u.cell? ⟨gf, 1, none⟩ = some (.func (.func 40) #[.pointer (some ⟨y2, 0, none⟩)] #[]) → Calls Try.prog 39 #[.slice (some ⟨gf, 0, none⟩) 2 2] u fun e w' => e = .returned (.tuple #[.int .i64 (if b1 < b2 then 1 else 0), .bool (decide (b1 ≠ 0 ∨ b2 ≠ 0))]) ∧ w' = u) := Lib.hid (fun u hu gf q0 q1 => by
    have e1 := (H7.out.2.2.1.below hu).box.cell 5
    have e2 := (H7.out.2.2.2.1.below hu).box.cell 5
    rw [HG.out.1] at e1
    rw [HG.out.2] at e2
    exact counts_any gf y1 y2 b1 b2 q0 q1 e1 e2)
  obtain ⟨W8, hW8⟩ : ∃ W8, W8 = W7.alloc (.cells #[.func (.func 40) #[.pointer (some ⟨y1, 0, none⟩)] #[], .func (.func 40) #[.pointer (some ⟨y2, 0, none⟩)] #[]] 77) := ⟨_, rfl⟩
  have hb8 : Blk W8 W7.heap.size 77 #[.func (.func 40) #[.pointer (some ⟨y1, 0, none⟩)] #[], .func (.func 40) #[.pointer (some ⟨y2, 0, none⟩)] #[]] := by rw [hW8]; exact Qu.Blk.new W7 _ _
  have k8 : Below W7.heap.size W7 W8 := by rw [hW8]; exact (Below.refl _ _).alloc (Nat.le_refl _) _
  have HC8 := Lib.hid (HCN.out W8 k8 W7.heap.size (hb8.cell 0) (hb8.cell 1))
  have H8 : Hid (Below w.heap.size w W8 ∧ Jl.JAt W8 w.heap.size y1 q.x A1 c1 vs1 (openJ d 0 H E) ∧ Jl.JAt W8 w.heap.size y2 q.x A2 c2 vs2 (openJ d H H E) ∧ Blk W8 g 70 #[.pointer (some ⟨y1, 0, none⟩), .pointer (some ⟨y2, 0, none⟩)]) := Lib.hid ⟨H7.out.2.1.trans (k8.mono H7.out.2.1.size), H7.out.2.2.1.below k8, H7.out.2.2.2.1.below k8, H7.out.2.2.2.2.below k8⟩
  have HW8 := Lib.hid hW8
  clear hW8 hb8 k8 HCN
  go_wp2_with fail
  rw [← HW8.out]
  refine HC8.out.mono ?_
  rintro r w9 ⟨rfl, hw⟩
  rw [hw]
  clear hw w9 g0 g1 HC8 hmf
  have g0 := H8.out.2.2.2.cell 0
  have g1 := H8.out.2.2.2.cell 1
  simp at g0 g1
  by_cases hf : b1 ≠ 0 ∨ b2 ≠ 0
  · have hft : decide (b1 ≠ 0 ∨ b2 ≠ 0) = true := decide_eq_true hf
    have hvt : vfound d = true := by rw [HVF.out, hft]
    obtain ⟨x1, x2, x3⟩ := HX0.out
    rw [hvt, if_pos rfl] at x1 x2 x3
    rw [hft]
    by_cases hlt : b1 < b2
    · have HF : Hid (vopenE d = 0 ∧ vopenDS d = d ∧ vopenV d = ⟨1, H, E, openJ d H H E, false⟩) := Lib.hid ⟨x1, x2, by rw [x3, HPK.out, if_pos hlt]⟩
      rw [if_pos hlt]
      clear hf hft hvt x1 x2 x3 hlt
      go_wp2_with fail
      go_ret2
      have k9 : Below w.heap.size w (W8.alloc (.cells #[.pointer (some ⟨q.x, 0, none⟩), .int .i64 1, .int .u32 (E : Int), .pointer (some ⟨y2, 0, none⟩), .bool false] 80)) := H8.out.1.alloc H8.out.1.size _
      rw [OpenE, HF.out.1, HF.out.2.1, HF.out.2.2]
      exact ⟨Dk.at_below HD.out k9, Mv.Only.ofBelow k9 _, fun _ _ => k9, .inr ⟨rfl, W8.heap.size, y2, A2, c2, vs2, rfl, ⟨H8.out.1.size, ⟨E, fun _ => rfl, Qu.Blk.new W8 _ _⟩, H8.out.2.2.1.below ((Below.refl _ _).alloc (Nat.le_refl _) _)⟩⟩⟩
    · have HF : Hid (vopenE d = 0 ∧ vopenDS d = d ∧ vopenV d = ⟨0, H, E, openJ d 0 H E, false⟩) := Lib.hid ⟨x1, x2, by rw [x3, HPK.out, if_neg hlt]⟩
      rw [if_neg hlt]
      clear hf hft hvt x1 x2 x3 hlt
      go_wp2_with fail
      go_ret2
      have k9 : Below w.heap.size w (W8.alloc (.cells #[.pointer (some ⟨q.x, 0, none⟩), .int .i64 0, .int .u32 (E : Int), .pointer (some ⟨y1, 0, none⟩), .bool false] 80)) := H8.out.1.alloc H8.out.1.size _
      rw [OpenE, HF.out.1, HF.out.2.1, HF.out.2.2]
      exact ⟨Dk.at_below HD.out k9, Mv.Only.ofBelow k9 _, fun _ _ => k9, .inr ⟨rfl, W8.heap.size, y1, A1, c1, vs1, rfl, ⟨H8.out.1.size, ⟨E, fun _ => rfl, Qu.Blk.new W8 _ _⟩, H8.out.2.1.below ((Below.refl _ _).alloc (Nat.le_refl _) _)⟩⟩⟩
  · have hft : decide (b1 ≠ 0 ∨ b2 ≠ 0) = false := decide_eq_false hf
    have hvt : vfound d = false := by rw [HVF.out, hft]
    obtain ⟨x1, x2, x3⟩ := HX0.out
    rw [hvt, if_neg (by simp)] at x1 x2 x3
    rw [hft]
    have HF : Hid (vfound d = false ∧ vopenE d = addE d (blankJ 0 H E) [1] ∧ vopenDS d = addDS d (blankJ 0 H E) [1] ∧ vopenV d = ⟨0, H, E, addJ d (blankJ 0 H E) [1], false⟩) := Lib.hid ⟨hvt, x1, x2, x3⟩
    have HB8 := Lib.hid (HBG.out W8 H8.out.1)
    generalize (if b1 < b2 then (1 : Int) else 0) = R1 at *
    clear hf hft hvt x1 x2 x3 g0 g1 HBG
    go_wp2_with fail
    refine HB8.out.mono ?_
    rintro r w9 ⟨hD9, hO9, hR9⟩
    have H9 := Lib.hid (And.intro hD9 ((Mv.Only.ofBelow H8.out.1 q.has).trans hO9 (fun _ _ h => h)))
    rcases hR9 with ⟨h0, rfl⟩ | ⟨h0, x', y', A', c', vs', rfl, hV⟩
    · have HH0 := Lib.hid h0
      clear h0 hD9 hO9
      go_wp2_with fail
      go_ret2
      rw [OpenE, HF.out.1, HF.out.2.1, HF.out.2.2.1]
      exact ⟨H9.out.1, H9.out.2, fun _ hh => (by cases hh), .inl ⟨HH0.out, rfl⟩⟩
    · have HH0 := Lib.hid (And.intro h0 hV)
      clear h0 hD9 hO9 hV
      go_wp2_with fail
      go_ret2
      rw [OpenE, HF.out.1, HF.out.2.1, HF.out.2.2.1, HF.out.2.2.2]
      have hs := H8.out.1.size
      obtain ⟨hb, hx, hj⟩ := HH0.out.2
      exact ⟨H9.out.1, H9.out.2, fun _ hh => (by cases hh), .inr ⟨HH0.out.1, x', y', A', c', vs', rfl, ⟨by omega, hx, jl_lower hj hs⟩⟩⟩
end

end Go.Proofs.Ytedgookkogpfbaa.Vl
