/- The landed journal: leaves, find, Open. -/
import Derived.Test.YtedgookkogpfbaaJlP
set_option maxRecDepth 100000
namespace Go.Proofs.Ytedgookkogpfbaa.Jr
open Lf (Leaf layB readB takesB rightB right_iff)

theorem taken_right {s : List UInt8} (h : takesB s = true) : rightB (readB s) = true := by
  unfold takesB at h
  rw [Bool.and_eq_true] at h
  exact h.1

theorem rec_need {S : Nat → List UInt8} {number least : Nat} : ∀ f i b e, b.length = 46 * i → (recGo S number least f i b e).2.1 ≠ 0 → needN (recGo S number least f i b e).1.length = (recGo S number least f i b e).2.1 ∧ (recGo S number least f i b e).1.length ≤ 46 * (i + f)
  | 0, i, b, e, _, h => absurd rfl h
  | f + 1, i, b, e, hb, h => by
    unfold recGo at h ⊢
    by_cases hg : goodL S number least e i = true
    · rw [if_pos hg] at h ⊢
      have hr := (right_iff (l := readB (S i))).1 (taken_right ((good_iff e i).1 hg).1)
      by_cases hl : (readB (S i)).last = true
      · rw [if_pos hl]
        show needN (b ++ (readB (S i)).data).length = i + 1 ∧ (b ++ (readB (S i)).data).length ≤ _
        rw [List.length_append]
        unfold needN
        refine ⟨?_, by omega⟩
        rw [if_neg (by omega)]
        omega
      · rw [if_neg hl] at h ⊢
        have h46 : (readB (S i)).data.length = 46 := by
          rcases hr.2.2.2 with h1 | h1
          · exact absurd h1 hl
          · exact h1
        obtain ⟨h1, h2⟩ := rec_need f (i + 1) _ _ (by rw [List.length_append]; omega) h
        exact ⟨h1, by omega⟩
    · rw [if_neg hg] at h
      exact absurd rfl h

end Go.Proofs.Ytedgookkogpfbaa.Jr

namespace Go.Proofs.Ytedgookkogpfbaa.Jl
open Go.ChangeShapes Go.WideShapes Go.ChangeAt Go.RowKit
open Qu (Blk)
open Mv (Only Fresh)
open By (Own8 Bys cellsB cellsB_length)
open Dk (DS)
open Dd (Lay At Tidy)
open Lf (own_lower own_far)
open Jr (JS Recd JHas needN need_le own_own_ne ownBlock_any blk_blk_ne newE blankJ openJ rdJ Rd openN openGo nextR moreR open_at next_is next_le rec_need recN secs)
set_option linter.unusedVariables false

/-- What leaves answers. -/
def LeavesE (w : World) (a e x : Nat) (r : Ending) (w' : World) : Prop :=
  ∃ ga ge gd, r = .returned (.func (.func 84) #[] #[.pointer (some ⟨ga, 0, none⟩), .pointer (some ⟨ge, 0, none⟩), .pointer (some ⟨gd, 0, none⟩)]) ∧ Cap w' ga ge gd a e x ∧ w.heap.size ≤ ga ∧ Below w.heap.size w w'

theorem three (w : World) (o0 o1 o2 : Obj) : (((w.alloc o0).alloc o1).alloc o2).heap[w.heap.size]? = some o0 ∧ (((w.alloc o0).alloc o1).alloc o2).heap[w.heap.size + 1]? = some o1 ∧ (((w.alloc o0).alloc o1).alloc o2).heap[w.heap.size + 1 + 1]? = some o2 ∧ Below w.heap.size w (((w.alloc o0).alloc o1).alloc o2) := by
  refine ⟨?_, ?_, ?_, (((Below.refl _ _).alloc (Nat.le_refl _) _).alloc (by simp) _).alloc (by simp; omega) _⟩ <;> (have e : ∀ (w : World) o, (w.alloc o).heap = w.heap.push o := fun _ _ => rfl) <;> simp only [e, Array.getElem?_push, Array.size_push] <;> repeat (first | rw [if_neg (by omega)] | rw [if_pos trivial])

theorem leaves_any (w : World) (qx a n : Nat) (hn : a + n ≤ 1000000000) :
    Calls Try.prog 75 #[.pointer (some ⟨qx, 0, none⟩), .int .i64 (a : Int), .int .i64 (n : Int)] w (LeavesE w a (a + n) qx) := by
  have hmf : ∀ (fn : Fn) (first cap : Array Value) (w : World), (Instr.makeFunc fn first cap).run Try.prog w = .ok (.func fn first cap) w := fun _ _ _ _ => rfl
  have w1 : IntKind.i64.wrap ((a : Int) + (n : Int)) = (a : Int) + (n : Int) := IntWalk.i64_in _ (by omega)
  go_enter Try.func75, Try.ntmps75
  go_wp2_with fail
  go_ret
  obtain ⟨h1, h2, h3, h4⟩ := three w (.cells #[.pointer (some ⟨qx, 0, none⟩)] 24) (.cells #[.int .i64 (a : Int)] 3) (.cells #[.int .i64 ((a : Int) + (n : Int))] 3)
  exact ⟨w.heap.size + 1, w.heap.size + 1 + 1, w.heap.size, rfl, ⟨⟨h2⟩, ⟨by rw [Int.natCast_add]; exact h3⟩, ⟨h1⟩, by omega⟩, by omega, h4⟩

section
variable {w w' : World} {B B' x y c g t ga ge gd a e : Nat} {A : Option Addr} {vs : List Value} {j : JS} {cs : Array Value}

/-- A journal stays where another box has turned. -/
theorem jat_one (h : JAt w B x y A c vs j) (hb : Blk w g t cs) (h1 : t ≠ 99) (h2 : t ≠ 37) (h3 : t ≠ 5) (ho : Only w w' (Mv.one g)) : JAt w' B x y A c vs j :=
  ⟨h.base, Mv.blk_only h.box ho fun hs => blk_blk_ne hb h.box h1 (show x = g from hs).symm, Mv.own_only h.rows.own ho fun k hk hs => Mv.own_blk_ne h.rows.own hb (Ne.symm h2) k hk hs, h.rows.len, fun i v hv => by
    obtain ⟨z, z1, z2⟩ := h.rows.each i v hv
    exact ⟨z, z1, own_one z2 hb h3 ho⟩⟩

/-- What the closure captured stays where a journal has turned. -/
theorem cap_jhas (h : Cap w ga ge gd a e y) (hJ : JAt w B x y A c vs j) (ho : Only w w' (JHas x A)) : Cap w' ga ge gd a e y := by
  have f : ∀ {g t : Nat} {cs : Array Value}, Blk w g t cs → t ≠ 99 → t ≠ 37 → ¬ JHas x A g := fun hb h1 h2 hs => by
    rcases hs with rfl | hs
    · exact blk_blk_ne hb hJ.box h1 rfl
    · exact Mv.own_blk_ne hJ.rows.own hb (Ne.symm h2) _ (by rw [← hs]; exact ownBlock_any _ _ _ _ _) rfl
  exact ⟨Mv.blk_only h.at_ ho (f h.at_ (by decide) (by decide)), Mv.blk_only h.end_ ho (f h.end_ (by decide) (by decide)), Mv.blk_only h.disk ho (f h.disk (by decide) (by decide)), h.ne⟩
end

/-- What stands at each round of find. -/
structure Fnd (w wx : World) (B Bd x ga ge gd o n e : Nat) (q : Dd.Pl) (d : DS) (r : Rd) (ls : Nat) : Prop where
  used : r.used ≤ n
  len : r.l.length ≤ r.used
  ls2 : ls < 2 ^ 32
  l1 : 1 ≤ r.least
  ls1 : ls = r.least ∨ (ls = 0 ∧ r.least = 1)
  jat : ∃ A c vs, JAt wx B x q.x A c vs (rdJ o n e r) ∧ Fresh w none (Value.slice A 0 0).ownBlock
  cap : Cap wx ga ge gd (o + r.used) (o + n) q.x
  lay : Lay wx Bd q d
  only : Only w wx (Mv.one x)
  rest : openGo (secs d o) n (n - r.used) r = openN (secs d o) n

theorem Fnd.below {w wx wy : World} {B Bd x ga ge gd o n e : Nat} {q : Dd.Pl} {d : DS} {r : Rd} {ls : Nat} (h : Fnd w wx B Bd x ga ge gd o n e q d r ls) (hb : Below wx.heap.size wx wy) : Fnd w wy B Bd x ga ge gd o n e q d r ls :=
  ⟨h.used, h.len, h.ls2, h.l1, h.ls1, by obtain ⟨A, c, vs, h1, h2⟩ := h.jat; exact ⟨A, c, vs, h1.below hb, h2⟩, h.cap.below hb, h.lay.below hb, h.only.below hb, h.rest⟩

/-- What find leaves. -/
def FindE (w : World) (B x y : Nat) (j : JS) (w' : World) : Prop := ∃ A c vs, JAt w' B x y A c vs j ∧ Fresh w none (Value.slice A 0 0).ownBlock ∧ Only w w' (Mv.one x)

set_option maxHeartbeats 4000000 in
theorem find_any (w : World) (B Bd x o n e : Nat) (q : Dd.Pl) (d : DS) (hJ : JAt w B x q.x none 0 [] (blankJ o n e)) (hD : Lay w Bd q d) (hoff : d.off = false) (hn : d.n ≤ 1000000) (hr : o + n ≤ d.n) (he : e < 2 ^ 32) :
    Calls Try.prog 62 #[.pointer (some ⟨x, 0, none⟩)] w fun r w' => r = .returned (.tuple #[]) ∧ FindE w B x q.x (openJ d o n e) w' := by
  have hx := hJ.box.lt
  have HC : Hid (∀ u, Below w.heap.size w u → u.cell? ⟨x, 0, none⟩ = some (.pointer (some ⟨q.x, 0, none⟩)) ∧ u.cell? ⟨x, 1, none⟩ = some (.int .i64 (o : Int)) ∧ u.cell? ⟨x, 2, none⟩ = some (.int .i64 (n : Int))) := Lib.hid (fun u hb => by
    have h1 := (hJ.below hb).box
    exact ⟨h1.cell 0, h1.cell 1, h1.cell 2⟩)
  have HI := Lib.hid (And.intro hoff (And.intro hn hr))
  have HJ := Lib.hid hJ
  have HD := Lib.hid hD
  have HLV := Lib.hid fun W => leaves_any W q.x o n (by omega)
  clear hJ hD hoff hn hr
  go_enter Try.func62, Try.ntmps62
  go_upto_region 0 with (fail)
  go_region_held3 (fun u => (u.cell? ⟨x, 0, none⟩ = some (.pointer (some ⟨q.x, 0, none⟩)) ∧ u.cell? ⟨x, 1, none⟩ = some (.int .i64 (o : Int)) ∧ u.cell? ⟨x, 2, none⟩ = some (.int .i64 (n : Int))) ∧ Below w.heap.size w u)
    (first
      | exact ⟨HC.out _ (Below.refl _ _).drew, (Below.refl _ _).drew⟩
      | (go_split_ands; exact ⟨HC.out _ (Dk.below_then (by assumption) kq), Dk.below_then (by assumption) kq⟩))
    (first
      | (go_at_call 75; ((with_reducible refine (HLV.out _).mono ?_); rintro r wq ⟨ga, ge, gd, rfl, hcap, hga, kq⟩)))
  unfold Exit.then
  dsimp only
  have hbq : Below w.heap.size w wq := Qu.below_undrew kq
  have HGA := Lib.hid (show w.heap.size ≤ ga from hga)
  have HF0 : Hid (Fnd w wq B Bd x ga ge gd o n e q d Rd.none 0) := Lib.hid ⟨Nat.zero_le _, Nat.le_refl _, by omega, Nat.le_refl _, .inr ⟨rfl, rfl⟩, ⟨none, 0, [], HJ.out.below hbq, .inl rfl⟩, hcap, HD.out.below hbq, Mv.Only.ofBelow hbq _, rfl⟩
  clear hcap hga kq hbq
  go_wp2_with fail
  go_loopg [3] n (fun kx s3 wx => ∃ (r : Rd) (ls : Nat), s3 = .int .u32 (ls : Int) ∧ kx = n - r.used ∧ Fnd w wx B Bd x ga ge gd o n e q d r ls)
  case atStart => exact ⟨Rd.none, 0, rfl, rfl, HF0.out⟩
  case round =>
    clear HF0
    obtain ⟨r, ls, rfl, hkx, hF⟩ := hrel
    obtain ⟨A, c, vs, hJ, hFr⟩ := hF.jat
    have e4 : wr.cell? ⟨x, 4, none⟩ = some (.slice A r.l.length c) := hJ.box.cell 4
    have hus := hF.used
    have hln := hF.len
    obtain ⟨hoff, hn, hr⟩ := HI.out
    obtain ⟨R, hR⟩ : ∃ R, recN (secs d (o + r.used)) r.l.length 0 (n - r.used) = R := ⟨_, rfl⟩
    have hsec : (fun i => secs d o (r.used + i)) = secs d (o + r.used) := by
      funext i
      unfold secs
      rw [Nat.add_assoc]
    have HNEXT : Hid (nextR (secs d o) n r = if R.2.1 = 0 ∨ R.2.2 < ls then ([], 0, 0) else R) := Lib.hid (next_is n r ls hF.l1 hF.ls1 R (by rw [hsec, Nat.mod_eq_of_lt (by omega)]; exact hR))
    have HN := Lib.hid (next_any wr x r.l.length c A e4 (by omega))
    have HRC := Lib.hid (record_any wr Bd q d ga ge gd (o + r.used) (o + n) r.l.length hF.cap hF.lay hoff hn (by omega) hr (by omega) R (by rw [show o + n - (o + r.used) = n - r.used by omega]; exact hR))
    have hEp : R.2.2 < 2 ^ 32 := by rw [← hR]; exact Jr.rec_epoch _ _ _ _
    have HND : Hid (R.2.1 ≠ 0 → needN R.1.length = R.2.1 ∧ R.1.length ≤ 46 * (0 + (n - r.used))) := Lib.hid (fun h => by
      rw [← hR] at h ⊢
      exact rec_need _ _ _ _ rfl h)
    have HLE : Hid (R.2.1 ≤ n - r.used) := Lib.hid (by rw [← hR]; exact Jr.recN_le _)
    have HF := Lib.hid hF
    have HJR := Lib.hid (And.intro hJ hFr)
    have HKX := Lib.hid (And.intro hkx (And.intro hus hln))
    have HEP := Lib.hid hEp
    clear hF hJ hFr hkx e4 hR hsec hus hln hoff hn hr
    go_wp2_with fail
    refine HN.out.mono ?_
    rintro r2 w2 ⟨rfl, hw⟩
    rw [hw]
    clear hw w2
    go_wp2_with fail
    refine HRC.out.mono ?_
    rintro r2 w3 ⟨A', c', rfl, h8, hcap, hon⟩
    have H3 : Hid (JAt w3 B x q.x A c vs (rdJ o n e r) ∧ Lay w3 Bd q d ∧ Own8 w3 wr.heap.size (.slice A' R.1.length c') R.1 ∧ (R.2.1 ≠ 0 → Cap w3 ga ge gd (o + r.used + R.2.1) (o + n) q.x) ∧ Only w w3 (Mv.one x) ∧ wr.heap.size ≤ w3.heap.size) := Lib.hid
      ⟨jat_one HJR.out.1 HF.out.cap.at_ (by decide) (by decide) (by decide) hon, lay_one HF.out.lay HF.out.cap.at_ (by decide) (by decide) (by decide) hon, h8, hcap, HF.out.only.trans hon (fun i hi hs => by have e : i = ga := hs; have := HGA.out; omega), hon.size⟩
    clear h8 hcap hon
    by_cases hst : R.2.1 = 0 ∨ R.2.2 < ls
    · have HE : Hid (openJ d o n e = rdJ o n e r) := Lib.hid (by
        have hz : (nextR (secs d o) n r).2.1 = 0 := by rw [HNEXT.out, if_pos hst]
        have e1 : openN (secs d o) n = r := by
          rw [← HF.out.rest]
          cases n - r.used with
          | zero => rfl
          | succ f =>
            show (if (nextR (secs d o) n r).2.1 = 0 then r else _) = r
            rw [if_pos hz]
        unfold openJ
        rw [e1]
        rfl)
      have HO : Hid (FindE w B x q.x (openJ d o n e) w3) := Lib.hid (by rw [HE.out]; exact ⟨A, c, vs, H3.out.1, HJR.out.2, H3.out.2.2.2.2.1⟩)
      by_cases h0 : R.2.1 = 0
      · have b1 : (R.2.1 != 0) = false := by rw [h0]; rfl
        clear hst h0
        generalize R.2.1 = rk at *
        go_wp2
        refine bodyPost_ret (results_none rfl _ _ _) rfl ?_
        exact ⟨rfl, HO.out⟩
      · have b1 : (R.2.1 != 0) = true := by simpa using h0
        have h2 : R.2.2 < ls := hst.resolve_left h0
        have b2 : (R.2.2 : Int) < (ls : Int) := by omega
        have b3 : decide (R.2.2 < ls) = true := by simpa using h2
        clear hst h0 h2
        generalize R.2.1 = rk at *
        generalize R.2.2 = re at *
        go_wp2
        refine bodyPost_ret (results_none rfl _ _ _) rfl ?_
        exact ⟨rfl, HO.out⟩
    · have h0 : R.2.1 ≠ 0 := fun h => hst (.inl h)
      have h2 : ¬ R.2.2 < ls := fun h => hst (.inr h)
      have b1 : (R.2.1 != 0) = true := by simpa using h0
      have b2 : ¬ (R.2.2 : Int) < (ls : Int) := by omega
      have b3 : decide (R.2.2 < ls) = false := by simpa using h2
      obtain ⟨hnd, hrl⟩ := HND.out h0
      have hle := HLE.out
      obtain ⟨hkx, hus, hln⟩ := HKX.out
      have hdn := HI.out.2
      have HPT := Lib.hid (put_any w3 B x q.x c c' R.2.2 A A' vs (rdJ o n e r) R.1 H3.out.1 (own_lower H3.out.2.2.1 (by have := HJR.out.1.base; have := HJR.out.1.box.lt; omega)) (by show r.l.length ≤ _; omega) (by show r.used + _ ≤ _; omega) (by omega) hEp)
      have HM : Hid (openGo (secs d o) n (n - (r.used + R.2.1)) ⟨r.l ++ [R.1], if r.l.length = 0 then R.2.2 else r.begun, r.used + R.2.1, R.2.2⟩ = openN (secs d o) n) := Lib.hid (by
        have hnr : nextR (secs d o) n r = R := by rw [HNEXT.out, if_neg hst]
        rw [← HF.out.rest]
        obtain ⟨f, hf⟩ : ∃ f, n - r.used = f + 1 := ⟨n - r.used - 1, by omega⟩
        rw [hf]
        show _ = (if (nextR (secs d o) n r).2.1 = 0 then r else openGo (secs d o) n f (moreR (secs d o) n r))
        unfold moreR
        rw [hnr, if_neg h0]
        exact open_at _ _ (by show n - (r.used + R.2.1) ≤ _; omega) (by show n - (r.used + R.2.1) ≤ _; omega))
      have HMJ : Hid (moreJ (rdJ o n e r) R.1 R.2.2 = rdJ o n e ⟨r.l ++ [R.1], if r.l.length = 0 then R.2.2 else r.begun, r.used + R.2.1, R.2.2⟩) := Lib.hid (by
        unfold moreJ rdJ
        rw [hnd])
      have HK0 := Lib.hid h0
      have HE1 : Hid (1 ≤ R.2.2) := Lib.hid (by have := HF.out.l1; rcases HF.out.ls1 with h | h
                                                · omega
                                                · have hh : nextR (secs d o) n r = R := by rw [HNEXT.out, if_neg hst]
                                                  have h5 : (Jr.recN (fun i => secs d o (r.used + i)) (r.l.length % 4294967296) r.least (n - r.used)) = R := hh
                                                  rw [← h5] at h0 ⊢
                                                  obtain ⟨_, _, ht, he⟩ := Jr.rec_told _ h0
                                                  unfold Jr.recN
                                                  rw [he]
                                                  exact Jr.taken_epoch ht)
      clear hst h0 h2 hnd hrl hle hkx hus hln hdn hEp
      go_wp2_with fail
      refine HPT.out.mono ?_
      rintro r4 w4 ⟨rfl, A4, c4, hJ4, ho4, hf4⟩
      have H4 : Hid (Fnd w w4 B Bd x ga ge gd o n e q d ⟨r.l ++ [R.1], if r.l.length = 0 then R.2.2 else r.begun, r.used + R.2.1, R.2.2⟩ R.2.2) := Lib.hid (by
        rw [HMJ.out] at hJ4
        have hle := HLE.out
        have hk0 := HK0.out
        obtain ⟨hkx, hus, hln⟩ := HKX.out
        refine ⟨by show r.used + R.2.1 ≤ n; omega, by show (r.l ++ [R.1]).length ≤ r.used + R.2.1; simp; omega, HEP.out, HE1.out, .inl rfl, ⟨A4, c4, _, hJ4, HJR.out.2.trans hf4 H3.out.2.2.2.2.1.size⟩, ?_, H3.out.2.1.only ho4 (H3.out.1.apart H3.out.2.1), ?_, HM.out⟩
        · show Cap w4 ga ge gd (o + (r.used + R.2.1)) (o + n) q.x
          rw [← Nat.add_assoc]
          exact cap_jhas (H3.out.2.2.2.1 hk0) H3.out.1 ho4
        · refine H3.out.2.2.2.2.1.trans ho4 fun i hi hs => ?_
          rcases hs with hs | hs
          · exact hs
          · rcases HJR.out.2 with h | ⟨k, h, hk⟩
            · rw [h] at hs; cases hs
            · rw [h] at hs; injection hs with hs; omega)
      clear hJ4 ho4 hf4 b1 b2 b3
      go_wp2_with fail
      go_roundg (n - (r.used + R.2.1))
      case measure => have := HKX.out; have := HLE.out; have := HK0.out; omega
      case rel => exact ⟨_, R.2.2, rfl, rfl, H4.out⟩

end Go.Proofs.Ytedgookkogpfbaa.Jl
