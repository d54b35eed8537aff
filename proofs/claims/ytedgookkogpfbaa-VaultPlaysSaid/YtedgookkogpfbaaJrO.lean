/- The document's journal: Open. -/
import Derived.Test.YtedgookkogpfbaaJrR
set_option maxRecDepth 100000
namespace Go.Proofs.Ytedgookkogpfbaa.Jr
open Go.ChangeShapes Go.WideShapes Go.ChangeAt Go.RowKit
open Qu (Blk)
open Mv (Only)
open By (Own8 Bys cellsB cellsB_length)
open Dk (DS RefAt)
set_option linter.unusedVariables false

/-- Two rows of the call's own of unlike kinds lie in unlike blocks. -/
theorem own_own_ne {w : World} {B B' E E' z z' n n' : Nat} {v v' : Value} {xs xs' : List Value} (h : w.ownsRow B E z v n xs) (h' : w.ownsRow B' E' z' v' n' xs') (hne : E ≠ E') : ∀ g, v.ownBlock = some g → v'.ownBlock ≠ some g := fun g hg hg' => by
  rcases h.2 with ⟨h0, _⟩ | ⟨g1, cap1, cur1, hv1, _, hh1, _⟩
  · subst h0; cases hg
  · rcases h'.2 with ⟨h0, _⟩ | ⟨g2, cap2, cur2, hv2, _, hh2, _⟩
    · subst h0; cases hg'
    · subst hv1 hv2
      rw [Mv.ownBlock_some] at hg hg'
      injection hg with hg
      injection hg' with hg'
      subst hg
      subst hg'
      rw [hh1] at hh2
      injection hh2 with hh2
      injection hh2 with _ ht
      exact hne ht

/-- The blocks of a journal that a call may turn: its box, its row of rows. -/
def JHas (x : Nat) (A : Option Addr) : Nat → Prop := fun k => k = x ∨ (Value.slice A 0 0).ownBlock = some k

theorem ownBlock_any (A : Option Addr) (n c n' c' : Nat) : (Value.slice A n c).ownBlock = (Value.slice A n' c').ownBlock := by cases A <;> rfl

/-- A record more: what the append, and the two stores behind it, make of a journal. -/
theorem JAt.push {w2 w3 : World} {B x y o n epoch begun used used' c c3 : Nat} {dead : Bool} {l : List (List UInt8)} {b : List UInt8} {A A3 : Option Addr} {vs : List Value} {v : Value} {ob : Obj} (hbase : B ≤ x)
    (hb : Blk w2 x 88 #[.pointer (some ⟨y, 0, none⟩), .int .i64 (o : Int), .int .i64 (n : Int), .int .u32 (epoch : Int), .slice A l.length c, .int .u32 (begun : Int), .int .i64 (used : Int), .bool dead])
    (hr : Recd w2 B A l.length c vs l) (hv : Own8 w2 B v b)
    (own3 : w3.ownsRow B 37 1 (.slice A3 (l.length + 1) c3) (l.length + 1) (vs ++ [v])) (grow : (w2.alloc ob).grownBy w3 (Value.slice A l.length c).ownBlock) :
    JAt ((w3.setCell ⟨x, 4, none⟩ (.slice A3 (l.length + 1) c3)).setCell ⟨x, 6, none⟩ (.int .i64 (used' : Int))) B x y A3 c3 (vs ++ [v]) ⟨o, n, epoch, l ++ [b], begun, used', dead⟩ ∧
    Only w2 ((w3.setCell ⟨x, 4, none⟩ (.slice A3 (l.length + 1) c3)).setCell ⟨x, 6, none⟩ (.int .i64 (used' : Int))) (JHas x A) := by
  have hl : vs.length = l.length := by have := hr.own.1; omega
  have hx := hb.lt
  have ho1 : Only w2 (w2.alloc ob) (fun _ => False) := (Mv.Only.refl w2 _).alloc ob
  have hb1 : Blk (w2.alloc ob) x 88 _ := hb.alloc ob
  have hA1 := Qu.row_below hr.own ((Below.refl w2.heap.size w2).alloc (Nat.le_refl _) ob)
  have hne := Mv.own_blk_ne hA1 hb1 (by decide)
  have hb3 := hb1.grown grow (fun e => hne x e.symm rfl)
  have ho3 : Only w2 w3 (JHas x A) := (ho1.mono (fun _ _ h => h.elim)).trans (Mv.Only.ofGrown (S := JHas x A) grow (fun k hk => .inr (by rw [← hk]; exact ownBlock_any _ _ _ _ _))) (fun _ _ h => h)
  have hx3 := hb3.lt
  have ho4 : Only w2 ((w3.setCell ⟨x, 4, none⟩ (.slice A3 (l.length + 1) c3)).setCell ⟨x, 6, none⟩ (.int .i64 (used' : Int))) (JHas x A) := (ho3.put _ (fun _ => .inl rfl)).put _ (fun _ => .inl rfl)
  have hb5 := (hb3.put 4 (.slice A3 (l.length + 1) c3)).put 6 (.int .i64 (used' : Int))
  have hp : Only w3 ((w3.setCell ⟨x, 4, none⟩ (.slice A3 (l.length + 1) c3)).setCell ⟨x, 6, none⟩ (.int .i64 (used' : Int))) (Mv.one x) := ((Mv.Only.refl w3 (Mv.one x)).put _ (fun _ => rfl)).put _ (fun _ => rfl)
  have keep8 : ∀ (u : Value) (z : List UInt8), Own8 w2 B u z → Own8 ((w3.setCell ⟨x, 4, none⟩ (.slice A3 (l.length + 1) c3)).setCell ⟨x, 6, none⟩ (.int .i64 (used' : Int))) B u z := fun u z hu => by
    refine Mv.own_only hu ho4 fun g hg hs => ?_
    rcases hs with rfl | hs
    · exact Mv.own_blk_ne hu hb (by decide) g hg rfl
    · exact own_own_ne hu hr.own (by decide) g hg (by rw [← hs]; exact ownBlock_any _ _ _ _ _)
  refine ⟨⟨hbase, ?_, ?_, ?_, ?_⟩, ho4⟩
  · show Blk _ x _ #[.pointer (some ⟨y, 0, none⟩), .int .i64 (o : Int), .int .i64 (n : Int), .int .u32 (epoch : Int), .slice A3 (l ++ [b]).length c3, .int .u32 (begun : Int), .int .i64 (used' : Int), .bool dead]
    rw [show (l ++ [b]).length = l.length + 1 by simp]
    exact hb5
  · show World.ownsRow _ B _ 1 (.slice A3 (l ++ [b]).length c3) (l ++ [b]).length (vs ++ [v])
    rw [show (l ++ [b]).length = l.length + 1 by simp]
    exact Mv.own_only own3 hp fun g hg hs => Mv.own_blk_ne own3 hb3 (by decide) g hg hs
  · show (l ++ [b]).length = (l ++ [b]).length
    rfl
  · intro i u hu
    rcases Nat.lt_or_ge i l.length with hi | hi
    · rw [List.getElem?_append_left (by omega)] at hu
      obtain ⟨z, z1, z2⟩ := hr.each i u hu
      exact ⟨z, by show (l ++ [b])[i]? = _; rw [List.getElem?_append_left hi]; exact z1, keep8 u z z2⟩
    · rw [List.getElem?_append_right (by omega), hl] at hu
      rcases Nat.eq_zero_or_pos (i - l.length) with h0 | h0
      · rw [h0] at hu
        injection hu with hu
        subst hu
        refine ⟨b, ?_, keep8 v b hv⟩
        show (l ++ [b])[i]? = _
        rw [List.getElem?_append_right hi, h0]
        rfl
      · rw [List.getElem?_eq_none (by simp; omega)] at hu
        cases hu

theorem info_bytes : (Try.prog.info? 37).map (fun i => (i.zero, i.size, i.bytes)) = some (some (.slice none 0 0), 1, 24) := by kernel_rfl

theorem ropen_nil (o n : Int) (e : Nat) (w : World) :
    Calls Try.prog 43 #[.pointer none, .int .i64 o, .int .i64 n, .int .u32 (e : Int)] w fun r w' => r = .returned (.tuple #[.pointer none, .int .i64 1]) ∧ w' = w := by
  have HK := Lib.hid (rblank_nil o n e w)
  go_enter Try.func43, Try.ntmps43
  go_wp2_with (first | (refine HK.out.mono ?_; rintro e w2 ⟨rfl, rfl⟩))
  go_ret2
  exact ⟨rfl, rfl⟩

theorem ropen_bad (w : World) (B : Nat) (p : Dk.Place) (d : DS) (o n : Int) (e : Nat) (h : RefAt w B p d) (hn : d.n ≤ 1000000) (ho : o ≤ 9223372036854775807) (hn2 : n ≤ 9223372036854775807) (he : e < 2 ^ 32) (hE : newE d o n e ≠ 0) :
    Calls Try.prog 43 #[.pointer (some ⟨p.x, 0, none⟩), .int .i64 o, .int .i64 n, .int .u32 (e : Int)] w fun r w' => r = .returned (.tuple #[.pointer none, .int .i64 (newE d o n e)]) ∧ w' = w := by
  have HK := Lib.hid (rblank_bad w B p d o n e h hn ho hn2 he hE)
  generalize newE d o n e = E at *
  have b1 : (E == 0) = false := beq_eq_false_iff_ne.2 hE
  have b2 : (E != 0) = true := by rw [bne, b1]; rfl
  clear h hE
  go_enter Try.func43, Try.ntmps43
  go_wp2_with (first | (refine HK.out.mono ?_; rintro e w2 ⟨rfl, rfl⟩))
  go_ret2
  exact ⟨rfl, rfl⟩

theorem val4_short : ∀ l : List UInt8, l.length ≤ 4 → Lf.val4 l < 2 ^ 32
  | [], _ => by decide
  | [a], _ => by have := a.toNat_lt; unfold Lf.val4; simp only [List.foldl_cons, List.foldl_nil]; omega
  | [a, b], _ => by have := a.toNat_lt; have := b.toNat_lt; unfold Lf.val4; simp only [List.foldl_cons, List.foldl_nil]; omega
  | [a, b, c], _ => by have := a.toNat_lt; have := b.toNat_lt; have := c.toNat_lt; unfold Lf.val4; simp only [List.foldl_cons, List.foldl_nil]; omega
  | [a, b, c, d], _ => Lf.val4_lt rfl
  | a :: b :: c :: d :: e :: l, h => by simp at h

theorem epoch_short (s : List UInt8) : (Lf.readB s).epoch < 2 ^ 32 := val4_short _ (by unfold Lf.cut; rw [List.length_drop, List.length_take]; omega)

theorem recGo_epoch (S : Nat → List UInt8) (number least : Nat) : ∀ f i b e, (recGo S number least f i b e).2.2 < 2 ^ 32
  | 0, _, _, _ => by show 0 < 2 ^ 32; decide
  | f + 1, i, b, e => by
    unfold recGo
    split
    · split
      · exact epoch_short _
      · exact recGo_epoch S number least f _ _ _
    · show 0 < 2 ^ 32; decide

theorem rec_epoch (S : Nat → List UInt8) (number least cap : Nat) : (recN S number least cap).2.2 < 2 ^ 32 := recGo_epoch _ _ _ _ _ _ _

theorem Own8.put {w : World} {B x t i : Nat} {cs : Array Value} {v u : Value} {b : List UInt8} (h : Own8 w B v b) (hb : Blk w x t cs) (ht : 5 ≠ t) : Own8 (w.setCell ⟨x, i, none⟩ u) B v b :=
  Mv.own_only h ((Mv.Only.refl w (Mv.one x)).put u (fun _ => rfl)) fun g hg hs => Mv.own_blk_ne h hb ht g hg hs

theorem Recd.put {w : World} {B x t i n c : Nat} {A : Option Addr} {vs : List Value} {cs : Array Value} {u : Value} {l : List (List UInt8)} (h : Recd w B A n c vs l) (hb : Blk w x t cs) (ht : 5 ≠ t) (ht2 : 37 ≠ t) : Recd (w.setCell ⟨x, i, none⟩ u) B A n c vs l :=
  ⟨Mv.own_only h.own ((Mv.Only.refl w (Mv.one x)).put u (fun _ => rfl)) fun g hg hs => Mv.own_blk_ne h.own hb ht2 g hg hs, h.len, fun k v hv => by
    obtain ⟨z, z1, z2⟩ := h.each k v hv
    exact ⟨z, z1, Own8.put z2 hb ht⟩⟩

/-- What Open's loop has read so far. -/
def rdJ (o n e : Nat) (r : Rd) : JS := ⟨o, n, e, r.l, r.begun, r.used, false⟩

set_option maxHeartbeats 4000000 in
theorem ropen_ok (w : World) (B : Nat) (p : Dk.Place) (d : DS) (o n e : Nat) (h : RefAt w B p d) (hn : d.n ≤ 1000000) (he : e < 2 ^ 32) (hE : newE d o n e = 0) :
    Calls Try.prog 43 #[.pointer (some ⟨p.x, 0, none⟩), .int .i64 (o : Int), .int .i64 (n : Int), .int .u32 (e : Int)] w fun r w' => ∃ x A c vs, r = .returned (.tuple #[.pointer (some ⟨x, 0, none⟩), .int .i64 0]) ∧ w.heap.size ≤ x ∧ JAt w' w.heap.size x p.x A c vs (openJ d o n e) ∧ Below w.heap.size w w' := by
  have HK := Lib.hid (rblank_ok w B p d o n e h hn he hE)
  have hroom : o + n ≤ d.n := by
    unfold newE at hE
    split at hE
    · cases hE
    · omega
  have HD := Lib.hid h
  have HRM := Lib.hid (And.intro hroom hn)
  obtain ⟨i0, hi0, hz0, hz1, hz2⟩ := info_parts info_bytes
  clear h hE hroom
  go_enter Try.func43, Try.ntmps43
  go_wp2_with (first | (refine HK.out.mono ?_; rintro e w2 ⟨x, rfl, hx, hJ, hB⟩; have H2 := Lib.hid (And.intro hx (And.intro hJ hB)); clear hx hJ hB))
  go_loopg [12] n (fun kx s12 wx => ∃ (r : Rd) (A : Option Addr) (c : Nat) (vs : List Value), s12 = .int .u32 (r.least : Int) ∧ kx = n - r.used ∧ r.used ≤ n ∧ r.l.length ≤ r.used ∧ r.least < 2 ^ 32 ∧ JAt wx w.heap.size x p.x A c vs (rdJ o n e r) ∧ Below w.heap.size w wx ∧ openGo (secs d o) n (n - r.used) r = openN (secs d o) n)
  case atStart => exact ⟨Rd.none, none, 0, [], rfl, rfl, Nat.zero_le _, Nat.le_refl _, by show 1 < 2 ^ 32; omega, H2.out.2.1, H2.out.2.2, rfl⟩
  case round =>
    obtain ⟨r, A, c, vs, rfl, hkx, hu, hlu, hls, hJ, hB, hO⟩ := hrel
    obtain ⟨hrm, hdn⟩ := HRM.out
    obtain ⟨R, hR⟩ : ∃ R, nextR (secs d o) n r = R := ⟨_, rfl⟩
    have hle : R.2.1 ≤ n - r.used := by rw [← hR]; exact next_le _ _ _
    have hmod : r.l.length % 4294967296 = r.l.length := Nat.mod_eq_of_lt (by omega)
    have hEp : R.2.2 < 2 ^ 32 := by rw [← hR]; exact rec_epoch _ _ _ _
    have HKR : Hid (∀ W, Below wr.heap.size wr W → Calls Try.prog 64 #[.pointer (some ⟨x, 0, none⟩), .int .i64 (r.used : Int), .int .u32 (r.l.length : Int), .int .u32 (r.least : Int)] W fun q w' => ∃ A' c', q = .returned (.tuple #[.slice A' R.1.length c', .int .i64 (R.2.1 : Int), .int .u32 (R.2.2 : Int)]) ∧ Own8 w' W.heap.size (.slice A' R.1.length c') R.1 ∧ Below W.heap.size W w') := Lib.hid (fun W hW => by
      have := rrecord_any W w.heap.size B x c (r.l.length % 4294967296) r.least r.used A vs (rdJ o n e r) p d (hJ.below hW) ((HD.out.below hB).below hW) hdn hrm hu (by omega) hls (fun i => secs d o (r.used + i)) (fun i => by unfold secs; show d.now.getD (o + (r.used + i)) [] = d.now.getD (o + r.used + i) []; rw [Nat.add_assoc]) R hR
      rw [hmod] at this
      exact this)
    have HC : Hid (∀ u, Below wr.heap.size wr u → u.cell? ⟨x, 4, none⟩ = some (.slice A r.l.length c) ∧ u.cell? ⟨x, 5, none⟩ = some (.int .u32 (r.begun : Int)) ∧ u.cell? ⟨x, 6, none⟩ = some (.int .i64 (r.used : Int)) ∧ u.frozen? ⟨x, 4, none⟩ = false ∧ u.frozen? ⟨x, 5, none⟩ = false ∧ u.frozen? ⟨x, 6, none⟩ = false ∧ JAt u w.heap.size x p.x A c vs (rdJ o n e r)) := Lib.hid (fun u hb => by
      have hb' := (hJ.below hb).box
      exact ⟨hb'.cell 4, hb'.cell 5, hb'.cell 6, hb'.frozen 4, hb'.frozen 5, hb'.frozen 6, hJ.below hb⟩)
    have HO := Lib.hid hO
    have HR := Lib.hid hR
    have HB := Lib.hid hB
    have HX := Lib.hid (And.intro hkx (And.intro hu (And.intro hlu hle)))
    have w1 : IntKind.u32.wrap (r.l.length : Int) = (r.l.length : Int) := IntWalk.u32_in _ (by omega)
    have HEP := Lib.hid hEp
    have u0 : (r.l.length : Int) ≤ 1000000 := by omega
    have u1 : (r.used : Int) + (R.2.1 : Int) ≤ 1000000 := by omega
    have hlen : r.l.length ≤ 1000000 := by omega
    have HLN := Lib.hid hlen
    have HNX : Hid (openGo (secs d o) n (n - r.used) r = (if R.2.1 = 0 then r else openGo (secs d o) n (n - r.used) r)) := Lib.hid (by
      split
      · rename_i h0
        rw [← hR] at h0
        cases n - r.used with
        | zero => rfl
        | succ f => show (if (nextR (secs d o) n r).2.1 = 0 then r else _) = r; rw [if_pos h0]
      · rfl)
    clear hJ hB hO hR hkx hu hlu hls hmod hle
    go_upto_region 5 with (fail)
    go_region_held3 (fun u => u.cell? ⟨x, 6, none⟩ = some (.int .i64 (r.used : Int)) ∧ u.cell? ⟨x, 4, none⟩ = some (.slice A r.l.length c) ∧ Below wr.heap.size wr u)
      (first
        | exact ⟨(HC.out _ (Below.refl _ _).drew).2.2.1, (HC.out _ (Below.refl _ _).drew).1, (Below.refl _ _).drew⟩
        | (go_split_ands; exact ⟨(HC.out _ (Dk.below_then (by assumption) kq)).2.2.1, (HC.out _ (Dk.below_then (by assumption) kq)).1, Dk.below_then (by assumption) kq⟩))
      (first
        | (go_at_call 64; ((with_reducible refine (HKR.out _ (by go_split_ands; assumption)).mono ?_); rintro q wq ⟨A', c', rfl, o8, kq⟩)))
    unfold Exit.then
    dsimp only
    clear w1 hEp
    have hbq : Below wr.heap.size wr wq := Qu.below_undrew kq
    obtain ⟨q4, q5, q6, f4, f5, f6, hJq⟩ := HC.out wq hbq
    have hBq : Below w.heap.size w wq := HB.out.trans (hbq.mono HB.out.size)
    have HJ := Lib.hid hJq
    have HBQ := Lib.hid hBq
    have H8 := Lib.hid (show Own8 wq w.heap.size (.slice A' R.1.length c') R.1 from Lf.own_lower o8 (by have := HB.out.size; have e9 : wr.drew.heap.size = wr.heap.size := rfl; omega))
    clear hJq hBq o8 kq hbq
    by_cases hk : R.2.1 = 0
    · have b1 : ((R.2.1 : Int) == 0) = true := by rw [hk]; rfl
      have HE : Hid (openJ d o n e = rdJ o n e r) := Lib.hid (by
        have e1 : openN (secs d o) n = r := by rw [← HO.out, HNX.out, if_pos hk]
        unfold openJ
        rw [e1]
        rfl)
      clear hk
      generalize R.2.1 = rk at *
      go_wp2
      go_ret2
      exact ⟨x, A, c, vs, rfl, H2.out.1, by rw [HE.out]; exact HJ.out, HBQ.out⟩
    have b1 : ((R.2.1 : Int) == 0) = false := beq_eq_false_iff_ne.2 (by omega)
    have HM : Hid (openGo (secs d o) n (n - (r.used + R.2.1)) ⟨r.l ++ [R.1], if r.l.length = 0 then R.2.2 else r.begun, r.used + R.2.1, R.2.2⟩ = openN (secs d o) n) := Lib.hid (by
      obtain ⟨x1, x2, x3, x4⟩ := HX.out
      rw [← HO.out]
      obtain ⟨f, hf⟩ : ∃ f, n - r.used = f + 1 := ⟨n - r.used - 1, by omega⟩
      rw [hf]
      show _ = (if (nextR (secs d o) n r).2.1 = 0 then r else openGo (secs d o) n f (moreR (secs d o) n r))
      unfold moreR
      rw [HR.out, if_neg hk]
      exact open_at _ _ (by show n - (r.used + R.2.1) ≤ _; omega) (by show n - (r.used + R.2.1) ≤ _; omega))
    have HKP := Lib.hid (show 1 ≤ R.2.1 by omega)
    clear hk
    by_cases h0 : r.l.length = 0
    · have b0 : ((r.l.length : Int) == 0) = true := by rw [h0]; rfl
      have HMM := HM.out
      rw [if_pos h0] at HMM
      replace HMM := Lib.hid HMM
      obtain ⟨W2, hW2⟩ : ∃ W2, W2 = wq.setCell ⟨x, 5, none⟩ (.int .u32 (R.2.2 : Int)) := ⟨_, rfl⟩
      have HW2 : Hid (Blk W2 x 88 #[.pointer (some ⟨p.x, 0, none⟩), .int .i64 (o : Int), .int .i64 (n : Int), .int .u32 (e : Int), .slice A r.l.length c, .int .u32 (R.2.2 : Int), .int .i64 (r.used : Int), .bool false] ∧ Recd W2 w.heap.size A r.l.length c vs r.l ∧ Own8 W2 w.heap.size (.slice A' R.1.length c') R.1 ∧ Below w.heap.size w W2) := Lib.hid (by
        rw [hW2]
        exact ⟨HJ.out.box.put 5 _, HJ.out.rows.put HJ.out.box (by decide) (by decide), Own8.put H8.out HJ.out.box (by decide), HBQ.out.trans (Mv.Only.toBelow ((Mv.Only.refl wq (Mv.one x)).put _ (fun _ => rfl)) HBQ.out.size (fun k hk hs => by have e : k = x := hs; have := H2.out.1; omega))⟩)
      clear h0 HM
      go_upto_region 10 with (fail)
      rw [← hW2]
      have r4 := HW2.out.1.cell 4
      simp at r4
      clear q4 q5 q6 f4 f5 f6 hW2
      have HNE2 : Hid (some x ≠ (Value.slice A r.l.length c).ownBlock) := Lib.hid (fun e => Mv.own_blk_ne HW2.out.2.1.own HW2.out.1 (by decide) x e.symm rfl)
      have hone : ∀ u ∈ [Value.slice A' R.1.length c'], u.oneCell' = true := by simp [Value.oneCell']
      have HRA : Hid (r.l.length + 1 ≤ maxLen ∧ (r.l.length + 1) * 24 ≤ 140737488355328 ∧ w.heap.size ≤ (W2.alloc (.cells #[.slice A' R.1.length c'] 37)).heap.size ∧ (W2.alloc (.cells #[.slice A' R.1.length c'] 37)).heap.size = W2.heap.size + 1) := Lib.hid ⟨by have := HLN.out; unfold maxLen; omega, by have := HLN.out; omega, by have := HW2.out.2.2.2.size; simp; omega, by simp⟩
      go_wp2_with ((at_builtin; refine wpList_append_lies _ rfl _ _ 49 rfl w.heap.size 37 i0 _ 1 24 Try.underlying49 hi0 hz0 hz1 hz2 rfl (by omega) (.slice A r.l.length c) r.l.length vs rfl (HW2.out.2.1.own.alloc _) ⟨W2.heap.size, 0, none⟩ 1 1 [.slice A' R.1.length c'] rfl rfl (World.news_of_block (cs := #[.slice A' R.1.length c']) (t := 37) (fr := (0, 0)) (heap_alloc_new W2 _)) hone (by omega) HRA.out.1 HRA.out.2.1 HRA.out.2.2.1 (W2.heap.size + 1) HRA.out.2.2.2 ?_; intro g cp w4 hown hgrow hat hlt; have hb4 := (HW2.out.1.alloc (.cells #[.slice A' R.1.length c'] 37)).grown hgrow HNE2.out; have y6 := hb4.cell 6; have y4 := hb4.cell 4; have y4f := hb4.frozen 4; have y6f := hb4.frozen 6; simp at y6 y4; have HP := Lib.hid (JAt.push (ob := .cells #[.slice A' R.1.length c'] 37) (used' := r.used + R.2.1) H2.out.1 HW2.out.1 HW2.out.2.1 HW2.out.2.2.1 hown hgrow); clear hown hgrow hat hlt hb4))
      have HPP := HP.out
      clear HP
      go_roundg (n - (r.used + R.2.1))
      case measure => have := HX.out; have := HKP.out; omega
      case rel => exact ⟨⟨r.l ++ [R.1], R.2.2, r.used + R.2.1, R.2.2⟩, _, _, _, rfl, rfl, by have := HX.out; show r.used + R.2.1 ≤ n; omega, by have := HX.out; have := HKP.out; show (r.l ++ [R.1]).length ≤ r.used + R.2.1; simp; omega, HEP.out, HPP.1, (HW2.out.2.2.2.trans (Mv.Only.toBelow HPP.2 HW2.out.2.2.2.size (fun k hk hs => by rcases hs with rfl | hs; exact absurd H2.out.1 (by omega); exact absurd (HW2.out.2.1.own.lt k (by rw [← hs]; exact ownBlock_any _ _ _ _ _)).1 (by omega)))), HMM.out⟩
    · have b0 : ((r.l.length : Int) == 0) = false := beq_eq_false_iff_ne.2 (by omega)
      have HMM := HM.out
      rw [if_neg h0] at HMM
      replace HMM := Lib.hid HMM
      obtain ⟨W2, hW2⟩ : ∃ W2, W2 = wq := ⟨_, rfl⟩
      subst hW2
      have HW2 : Hid (Blk W2 x 88 #[.pointer (some ⟨p.x, 0, none⟩), .int .i64 (o : Int), .int .i64 (n : Int), .int .u32 (e : Int), .slice A r.l.length c, .int .u32 (r.begun : Int), .int .i64 (r.used : Int), .bool false] ∧ Recd W2 w.heap.size A r.l.length c vs r.l ∧ Own8 W2 w.heap.size (.slice A' R.1.length c') R.1 ∧ Below w.heap.size w W2) := Lib.hid (And.intro HJ.out.box (And.intro HJ.out.rows (And.intro H8.out HBQ.out)))
      clear h0 HM
      have HNE2 : Hid (some x ≠ (Value.slice A r.l.length c).ownBlock) := Lib.hid (fun e => Mv.own_blk_ne HW2.out.2.1.own HW2.out.1 (by decide) x e.symm rfl)
      have hone : ∀ u ∈ [Value.slice A' R.1.length c'], u.oneCell' = true := by simp [Value.oneCell']
      have HRA : Hid (r.l.length + 1 ≤ maxLen ∧ (r.l.length + 1) * 24 ≤ 140737488355328 ∧ w.heap.size ≤ (W2.alloc (.cells #[.slice A' R.1.length c'] 37)).heap.size ∧ (W2.alloc (.cells #[.slice A' R.1.length c'] 37)).heap.size = W2.heap.size + 1) := Lib.hid ⟨by have := HLN.out; unfold maxLen; omega, by have := HLN.out; omega, by have := HW2.out.2.2.2.size; simp; omega, by simp⟩
      go_wp2_with ((at_builtin; refine wpList_append_lies _ rfl _ _ 49 rfl w.heap.size 37 i0 _ 1 24 Try.underlying49 hi0 hz0 hz1 hz2 rfl (by omega) (.slice A r.l.length c) r.l.length vs rfl (HW2.out.2.1.own.alloc _) ⟨W2.heap.size, 0, none⟩ 1 1 [.slice A' R.1.length c'] rfl rfl (World.news_of_block (cs := #[.slice A' R.1.length c']) (t := 37) (fr := (0, 0)) (heap_alloc_new W2 _)) hone (by omega) HRA.out.1 HRA.out.2.1 HRA.out.2.2.1 (W2.heap.size + 1) HRA.out.2.2.2 ?_; intro g cp w4 hown hgrow hat hlt; have hb4 := (HW2.out.1.alloc (.cells #[.slice A' R.1.length c'] 37)).grown hgrow HNE2.out; have y6 := hb4.cell 6; have y4 := hb4.cell 4; have y4f := hb4.frozen 4; have y6f := hb4.frozen 6; simp at y6 y4; have HP := Lib.hid (JAt.push (ob := .cells #[.slice A' R.1.length c'] 37) (used' := r.used + R.2.1) H2.out.1 HW2.out.1 HW2.out.2.1 HW2.out.2.2.1 hown hgrow); clear hown hgrow hat hlt hb4))
      have HPP := HP.out
      clear HP
      go_roundg (n - (r.used + R.2.1))
      case measure => have := HX.out; have := HKP.out; omega
      case rel => exact ⟨⟨r.l ++ [R.1], r.begun, r.used + R.2.1, R.2.2⟩, _, _, _, rfl, rfl, by have := HX.out; show r.used + R.2.1 ≤ n; omega, by have := HX.out; have := HKP.out; show (r.l ++ [R.1]).length ≤ r.used + R.2.1; simp; omega, HEP.out, HPP.1, (HW2.out.2.2.2.trans (Mv.Only.toBelow HPP.2 HW2.out.2.2.2.size (fun k hk hs => by rcases hs with rfl | hs; exact absurd H2.out.1 (by omega); exact absurd (HW2.out.2.1.own.lt k (by rw [← hs]; exact ownBlock_any _ _ _ _ _)).1 (by omega)))), HMM.out⟩

end Go.Proofs.Ytedgookkogpfbaa.Jr
