/- Lists of rows of bytes as they come in; law 08's put. -/
import Derived.Test.YtedgookkogpfbaaJlL
import Derived.Test.YtedgookkogpfbaaBa
import Derived.Test.YtedgookkogpfbaaLfY
set_option maxRecDepth 100000
namespace Go.Proofs.Ytedgookkogpfbaa.Hk
open Go.ChangeShapes Go.WideShapes Go.ChangeAt Go.RowKit Go.Deep
set_option linter.unusedVariables false

section
variable {H : Type} {enc : TypeId × Value → H} {P : Program} {base : Nat} {spare : Nat → Bool} {held : Bool} {w : World} {b o : Nat} {t e : TypeId}

/-- A slice of bytes that lies at a place. -/
theorem Lies.bytes (h : Lies enc P base spare held w b o t) (hu : P.underlying t = some (.slice e)) (he : P.underlying e = some (.int .u8)) (hct : P.cellsOf t = 1) (hc : P.cellsOf e = 1) :
    ∃ A n c l, w.cell? ⟨b, o, none⟩ = some (.slice A n c) ∧ By.Bys w w.heap.size A n l ∧ n ≤ c ∧ c ≤ 9223372036854775807 ∧ (A = none → n = 0 ∧ c = 0) := by
  obtain ⟨A, n, c, h0, h1, h2, h3, h4, h5⟩ := h.slice hu hct (by omega)
  obtain ⟨f, hf⟩ := choose_lt (α := UInt8) (n := n) (p := fun k z => ∃ b off, A = some ⟨b, off, none⟩ ∧ b < w.heap.size ∧ w.cell? ⟨b, off + k, none⟩ = some (.int .u8 (z.toNat : Int))) (fun k hk => by
    obtain ⟨b, off, hA, hb, hl⟩ := h5 k hk
    rw [hc, Nat.mul_one] at hl
    obtain ⟨z, hz⟩ := hl.byte he hc
    exact ⟨z, b, off, hA, hb, hz⟩)
  refine ⟨A, n, c, (List.range n).map f, h0, ⟨by simp, fun k z hk => ?_⟩, h2, h3, h4⟩
  have hkn : k < n := by
    have := (List.getElem?_eq_some_iff.1 hk).1
    simpa using this
  rw [List.getElem?_map, List.getElem?_range hkn] at hk
  injection hk with hk
  obtain ⟨b, off, q1, q2, q3⟩ := hf k hkn
  rw [hk] at q3
  exact ⟨b, off, q1, q2, q3⟩
end

/-- A list of rows of bytes that came in. -/
def Rin (w : World) (A : Option Addr) (n : Nat) (f : Nat → List UInt8) : Prop :=
  ∀ k, k < n → ∃ b o A' c', A = some ⟨b, o, none⟩ ∧ b < w.heap.size ∧ w.cell? ⟨b, o + k, none⟩ = some (.slice A' (f k).length c') ∧ By.Bys w w.heap.size A' (f k).length (f k) ∧ (A' = none → (f k).length = 0 ∧ c' = 0) ∧ (f k).length ≤ c' ∧ c' ≤ 9223372036854775807

theorem open_rows_bytes {H : Type} {enc : TypeId × Value → H} {base b0 : Nat} {w : World} {spare : Nat → Bool} {held : Bool} {v : Value} {d : DataW H} {ps : List MemPlace} {r : Reach}
    (hval : Value.okWide Try.prog w r b0 49 v) (hd : DataW.Trod enc Try.prog w base spare held 49 v d ps) :
    ∃ A n c f, v = .slice A n c ∧ Rin w A n f ∧ n ≤ 9223372036854775807 := by
  have hc : Try.prog.cellsOf 37 = 1 := by kernel_rfl
  obtain ⟨A, n, c, rfl, hn, _, _, hz, hel⟩ := Hk.open_any_slice Try.underlying49 (by rw [hc]; omega) hval hd
  obtain ⟨f, hf⟩ := choose_lt (α := List UInt8) (n := n) (p := fun k l => ∃ b o A' c', A = some ⟨b, o, none⟩ ∧ b < w.heap.size ∧ w.cell? ⟨b, o + k, none⟩ = some (.slice A' l.length c') ∧ By.Bys w w.heap.size A' l.length l ∧ (A' = none → l.length = 0 ∧ c' = 0) ∧ l.length ≤ c' ∧ c' ≤ 9223372036854775807) (fun k hk => by
    obtain ⟨b, off, hA, hb, hl⟩ := hel k hk
    rw [hc, Nat.mul_one] at hl
    obtain ⟨A', m, c', l, h1, h2, h3, h4, h5⟩ := hl.bytes Try.underlying37 Try.underlying5 hc (by kernel_rfl)
    obtain rfl := h2.len
    exact ⟨l, b, off, A', c', hA, hb, h1, h2, h5, h3, h4⟩)
  exact ⟨A, n, c, f, rfl, hf, hn⟩

theorem Rin.below {w w' : World} {A : Option Addr} {n : Nat} {f : Nat → List UInt8} (h : Rin w A n f) (hb : Below w.heap.size w w') : Rin w' A n f := fun k hk => by
  obtain ⟨b, o, A', c', h1, h2, h3, h4, h5, h6, h7⟩ := h k hk
  exact ⟨b, o, A', c', h1, Nat.lt_of_lt_of_le h2 hb.size, (hb.cell (p := ⟨b, o + k, none⟩) h2).trans h3, (h4.below hb (Nat.le_refl _)).size, h5, h6, h7⟩

theorem Rin.rws {w : World} {A : Option Addr} {n : Nat} {f : Nat → List UInt8} (h : Rin w A n f) : Hr.Rws w w.heap.size A n ((List.range n).map f) := ⟨by simp, fun k l hk => by
  have hkn : k < n := by
    have := (List.getElem?_eq_some_iff.1 hk).1
    simpa using this
  rw [List.getElem?_map, List.getElem?_range hkn] at hk
  injection hk with hk
  subst hk
  obtain ⟨b, o, A', c', h1, h2, h3, h4, h5, h6, h7⟩ := h k hkn
  exact ⟨b, o, A', _, c', h1, h2, h3, h4⟩⟩

end Go.Proofs.Ytedgookkogpfbaa.Hk

namespace Go.Proofs.Ytedgookkogpfbaa.Jl
open Go.ChangeShapes Go.WideShapes Go.ChangeAt Go.RowKit
open Qu (Blk)
open Mv (Only Fresh)
open By (Own8 Bys cellsB cellsB_length)
open Dk (DS dsNew)
open Dd (Lay At Tidy)
open Lf (own_lower own_far)
open Hk (Rin)
open Jr (JS Recd JHas needN need_le own_own_ne ownBlock_any blk_blk_ne newE blankJ openJ stopE addE addDS addJ doneJ Fit calm_ok addJ_zero info_bytes)
set_option linter.unusedVariables false

/-! ### Rows more -/
theorem Recd.push {w2 w3 : World} {B c c3 : Nat} {l : List (List UInt8)} {b : List UInt8} {A A3 : Option Addr} {vs : List Value} {v : Value} {ob : Obj}
    (hr : Recd w2 B A l.length c vs l) (hv : Own8 w2 B v b)
    (own3 : w3.ownsRow B 37 1 (.slice A3 (l.length + 1) c3) (l.length + 1) (vs ++ [v])) (grow : (w2.alloc ob).grownBy w3 (Value.slice A l.length c).ownBlock) :
    Recd w3 B A3 (l ++ [b]).length c3 (vs ++ [v]) (l ++ [b]) ∧ Only w2 w3 (fun i => (Value.slice A 0 0).ownBlock = some i) := by
  have hl : vs.length = l.length := by have := hr.own.1; omega
  have ho1 : Only w2 (w2.alloc ob) (fun _ => False) := (Mv.Only.refl w2 _).alloc ob
  have ho3 : Only w2 w3 (fun i => (Value.slice A 0 0).ownBlock = some i) := (ho1.mono (fun _ _ h => h.elim)).trans (Mv.Only.ofGrown (S := fun i => (Value.slice A 0 0).ownBlock = some i) grow (fun k hk => by rw [← hk]; exact ownBlock_any _ _ _ _ _)) (fun _ _ h => h)
  have keep8 : ∀ (u : Value) (z : List UInt8), Own8 w2 B u z → Own8 w3 B u z := fun u z hu =>
    Mv.own_only hu ho3 fun g hg hs => own_own_ne hu hr.own (by decide) g hg (by rw [← hs]; exact ownBlock_any _ _ _ _ _)
  refine ⟨⟨?_, rfl, ?_⟩, ho3⟩
  · rw [show (l ++ [b]).length = l.length + 1 by simp]
    exact own3
  · intro i u hu
    rcases Nat.lt_or_ge i l.length with hi | hi
    · rw [List.getElem?_append_left (by omega)] at hu
      obtain ⟨z, z1, z2⟩ := hr.each i u hu
      exact ⟨z, by rw [List.getElem?_append_left hi]; exact z1, keep8 u z z2⟩
    · rw [List.getElem?_append_right (by omega), hl] at hu
      rcases Nat.eq_zero_or_pos (i - l.length) with h0 | h0
      · rw [h0] at hu
        injection hu with hu
        subst hu
        refine ⟨b, ?_, keep8 v b hv⟩
        rw [List.getElem?_append_right hi, h0]
        rfl
      · rw [List.getElem?_eq_none (by simp; omega)] at hu
        cases hu

/-- Bytes of the call's own are no part of a disk. -/
theorem own_far_disk {w : World} {B B' : Nat} {q : Dd.Pl} {d : DS} {A : Option Addr} {n c : Nat} {b : List UInt8} (h : Own8 w B (.slice A n c) b) (hD : Lay w B' q d) : ∀ a, A = some a → ¬ q.has a.block := fun a ha hi => by
  subst ha
  have hg : (Value.slice (some a) n c).ownBlock = some a.block := rfl
  rcases hi with hi | hi | hi | hi
  · exact Mv.own_blk_ne h hD.box (by decide) _ hg hi
  · exact own_own_ne h hD.now.2 (by decide) _ hg (by rw [hi]; rfl)
  · exact own_own_ne h hD.sure.2 (by decide) _ hg (by rw [hi]; rfl)
  · exact own_own_ne h hD.loose (by decide) _ hg (by rw [hi]; rfl)

/-- Rows beside a journal and its disk stay where these turn. -/
theorem Recd.beside {w w' : World} {B Bd Bj x n c c2 : Nat} {q : Dd.Pl} {A A2 : Option Addr} {vs us : List Value} {j : JS} {d : DS} {l : List (List UInt8)} (h : Recd w B A2 n c2 us l) (hD : Lay w Bd q d) (hJ : JAt w Bj x q.x A c vs j) (hO : Only w w' (fun i => q.has i ∨ JHas x A i))
    (hne : ∀ g, (Value.slice A2 0 0).ownBlock = some g → (Value.slice A 0 0).ownBlock ≠ some g) : Recd w' B A2 n c2 us l := by
  refine ⟨Mv.own_only h.own hO fun g hg hs => ?_, h.len, fun i v hv => ?_⟩
  · rcases hs with hs | hs | hs
    · rcases hs with hs | hs | hs | hs
      · exact Mv.own_blk_ne h.own hD.box (by decide) _ hg hs
      · exact own_own_ne h.own hD.now.2 (by decide) _ hg (by rw [hs]; rfl)
      · exact own_own_ne h.own hD.sure.2 (by decide) _ hg (by rw [hs]; rfl)
      · exact own_own_ne h.own hD.loose (by decide) _ hg (by rw [hs]; rfl)
    · exact Mv.own_blk_ne h.own hJ.box (by decide) _ hg hs
    · exact hne g (by rw [← hg]; exact ownBlock_any _ _ _ _ _) hs
  · obtain ⟨z, z1, z2⟩ := h.each i v hv
    refine ⟨z, z1, Mv.own_only z2 hO fun g hg hs => ?_⟩
    rcases hs with hs | hs | hs
    · rcases hs with hs | hs | hs | hs
      · exact Mv.own_blk_ne z2 hD.box (by decide) _ hg hs
      · exact own_own_ne z2 hD.now.2 (by decide) _ hg (by rw [hs]; rfl)
      · exact own_own_ne z2 hD.sure.2 (by decide) _ hg (by rw [hs]; rfl)
      · exact own_own_ne z2 hD.loose (by decide) _ hg (by rw [hs]; rfl)
    · exact Mv.own_blk_ne z2 hJ.box (by decide) _ hg hs
    · exact own_own_ne z2 hJ.rows.own (by decide) _ hg (by rw [← hs]; exact ownBlock_any _ _ _ _ _)

/-! ### Bytes behind bytes, in a region -/
theorem step_append_own {ops : Array Oper} {o : Oper} {a : Act} {w : World} {K : Act → World → Prop} {Q : Exit → Act → World → Prop} {E : Prop} (free : o.guard = none) (x y : Operand)
    (is : o.op = .call { callee := .builtin .append, args := #[x, y], argTypes := #[37, 37] }) (B : Nat) (v : Value) (l : List UInt8) (vx : a.eval x = v) (hown : Own8 w B v l) (M : Nat) (A : Option Addr) (m c : Nat) (d : List UInt8) (vy : a.eval y = .slice A m c) (hb : Bys w M A m d) (hA : A = none → m = 0 ∧ c = 0) (hm : l.length + m ≤ 1000000000000) (hB : B ≤ w.heap.size)
    (go : ∀ v' w', Own8 w' B v' (l ++ d) → w.grownBy w' v.ownBlock → Fresh w v.ownBlock v'.ownBlock → K (a.put o.dst v') w') : if Region.wanted o (yielded ops a.tmps) = true then Oper.wp Try.prog o a w K Q else E := by
  have hw : Region.wanted o (yielded ops a.tmps) = true := by simp [Region.wanted, free]
  rw [if_pos hw]
  obtain ⟨i0, hi0, hz0, hz1, hz2⟩ := info_parts By.info_u8
  obtain ⟨v', w', run, h2, h3, h4⟩ := By.run_append_bytes (P := Try.prog) w 37 o.type 5 B i0 Try.underlying37 hi0 hz0 hz1 hz2 v l.length l hown M A m c d hb hA (by omega) hB
  unfold Oper.wp execOp
  simp only [is, resolve, invoke, builtin, Sem.run_bind, Sem.run_pure, Result.andThen_ok, List.map_toArray, List.map_cons, List.map_nil, vx, vy, run]
  refine go _ _ ?_ h3 h4
  unfold Own8
  rw [List.length_append, hb.len]
  exact h2

theorem one_row (W : World) (B : Nat) (hB : B ≤ W.heap.size) (z : UInt8) : Own8 (W.alloc (.cells #[.int .u8 (z.toNat : Int)] 5)) B (.slice (some ⟨W.heap.size, 0, none⟩) 1 1) [z] :=
  ⟨rfl, .inr ⟨W.heap.size, 1, _, rfl, hB, heap_alloc_new W _, Nat.le_refl _, by unfold maxLen; omega, rfl, rfl⟩⟩

/-! ### put -/
/-- What put comes to. -/
structure PS where
  d : DS
  j : JS
  all : List (List UInt8)
  ok : Nat

def putN (f : Nat → List UInt8) : Nat → Nat → PS → PS
  | 0, _, s => s
  | k + 1, i, s =>
    if addE s.d s.j (1 :: (f i).take 200) = 0 then putN f k (i + 1) ⟨addDS s.d s.j (1 :: (f i).take 200), addJ s.d s.j (1 :: (f i).take 200), s.all ++ [1 :: (f i).take 200], s.ok + 1⟩
    else ⟨addDS s.d s.j (1 :: (f i).take 200), addJ s.d s.j (1 :: (f i).take 200), s.all ++ [1 :: (f i).take 200], s.ok⟩

/-- A journal, its disk, and rows beside. -/
structure Trio (w wr : World) (x Bd Bj : Nat) (q : Dd.Pl) (s : PS) (A2 : Option Addr) (c2 : Nat) : Prop where
  some : ∃ A c vs us, Pair w wr x Bd Bj q A c vs s.j s.d ∧ Recd wr w.heap.size A2 s.all.length c2 us s.all ∧ ∀ g, (Value.slice A2 0 0).ownBlock = some g → (Value.slice A 0 0).ownBlock ≠ some g

theorem Trio.later {w wr w1 : World} {x Bd Bj : Nat} {q : Dd.Pl} {s : PS} {A2 : Option Addr} {c2 : Nat} (h : Trio w wr x Bd Bj q s A2 c2) (k : Below wr.heap.size wr w1) : Trio w w1 x Bd Bj q s A2 c2 := by
  obtain ⟨A, c, vs, us, h1, h2, h3⟩ := h.some
  exact ⟨A, c, vs, us, h1.later k, h2.only (Mv.Only.ofBelow k fun _ => False) (fun _ _ h => h), h3⟩

/-- A row more beside a journal: all else stays. -/
theorem trio_push {w w5 w4 : World} {x Bd Bj g c c2 c3 : Nat} {q : Dd.Pl} {A A2 : Option Addr} {vs us : List Value} {j : JS} {d : DS} {l : List (List UInt8)} {y : List UInt8} {v : Value} {ob : Obj} (hP : Pair w w5 x Bd Bj q A c vs j d) (hR : Recd w5 w.heap.size A2 l.length c2 us l)
    (hne : ∀ g, (Value.slice A2 0 0).ownBlock = some g → (Value.slice A 0 0).ownBlock ≠ some g) (hv : Own8 w5 w.heap.size v y) (own3 : w4.ownsRow w.heap.size 37 1 (.slice (some ⟨g, 0, none⟩) (l.length + 1) c3) (l.length + 1) (us ++ [v])) (grow : (w5.alloc ob).grownBy w4 (Value.slice A2 l.length c2).ownBlock)
    (hat : (Value.slice A2 l.length c2).ownBlock = some g ∨ w5.heap.size ≤ g) : Pair w w4 x Bd Bj q A c vs j d ∧ Recd w4 w.heap.size (some ⟨g, 0, none⟩) (l ++ [y]).length c3 (us ++ [v]) (l ++ [y]) ∧ (∀ k, (Value.slice (some ⟨g, 0, none⟩) 0 0).ownBlock = some k → (Value.slice A 0 0).ownBlock ≠ some k) ∧ Own8 w4 w.heap.size v y := by
  obtain ⟨h1, h2⟩ := Recd.push hR hv own3 grow
  have hD := hP.disk.lay
  have hJ := hP.jat
  have low : ∀ k, (Value.slice A2 0 0).ownBlock = some k → w.heap.size ≤ k ∧ k < w5.heap.size := fun k hk => hR.own.lt k (by rw [← hk]; exact ownBlock_any _ _ _ _ _)
  have hq : ∀ i, q.has i → ¬ (Value.slice A2 0 0).ownBlock = some i := fun i hi hs => by
    have hg : (Value.slice A2 l.length c2).ownBlock = some i := by rw [← hs]; exact ownBlock_any _ _ _ _ _
    rcases hi with hi | hi | hi | hi
    · exact Mv.own_blk_ne hR.own hD.box (by decide) _ hg hi
    · exact own_own_ne hR.own hD.now.2 (by decide) _ hg (by rw [hi]; rfl)
    · exact own_own_ne hR.own hD.sure.2 (by decide) _ hg (by rw [hi]; rfl)
    · exact own_own_ne hR.own hD.loose (by decide) _ hg (by rw [hi]; rfl)
  refine ⟨⟨hP.disk.only h2 hq, ⟨hJ.base, Mv.blk_only hJ.box h2 (fun hs => Mv.own_blk_ne hR.own hJ.box (by decide) x (by rw [← hs]; exact ownBlock_any _ _ _ _ _) rfl), ⟨Mv.own_only hJ.rows.own h2 (fun g hg hs => hne g hs (by rw [← hg]; exact ownBlock_any _ _ _ _ _)), hJ.rows.len, fun i u hu => ?_⟩⟩, hP.lo, hP.base, hP.below.trans (h2.toBelow hP.below.size fun k hk hs => by have := low k hs; omega), hP.fit⟩, h1, fun k hk hA => ?_, ?_⟩
  · obtain ⟨z, z1, z2⟩ := hJ.rows.each i u hu
    exact ⟨z, z1, Mv.own_only z2 h2 fun g hg hs => own_own_ne z2 hR.own (by decide) g hg (by rw [← hs]; exact ownBlock_any _ _ _ _ _)⟩
  · have e : g = k := by rw [Mv.ownBlock_some] at hk; injection hk
    subst e
    rcases hat with hat | hat
    · exact hne g (by rw [← hat]; exact ownBlock_any _ _ _ _ _) hA
    · have := (hJ.rows.own.lt g (by rw [← hA]; exact ownBlock_any _ _ _ _ _)).2
      omega
  · exact Mv.own_only hv h2 fun g hg hs => own_own_ne hv hR.own (by decide) g hg (by rw [← hs]; exact ownBlock_any _ _ _ _ _)

/-- Behind an Add. -/
theorem trio_add {w w4 w6 : World} {x Bd Bj c c2 n : Nat} {q : Dd.Pl} {A A2 : Option Addr} {vs us : List Value} {j : JS} {d : DS} {l : List (List UInt8)} {y : List UInt8} {e : Ending} (hP : Pair w w4 x Bd Bj q A c vs j d) (hR : Recd w4 w.heap.size A2 l.length c2 us l)
    (hne : ∀ g, (Value.slice A2 0 0).ownBlock = some g → (Value.slice A 0 0).ownBlock ≠ some g) (hA : PairE w w4 x Bd Bj q A vs j d y e w6) : e = .returned (.int .i64 (addE d j y)) ∧ Trio w w6 x Bd Bj q ⟨addDS d j y, addJ d j y, l, n⟩ A2 c2 := by
  obtain ⟨he, A', c', vs', hP', hO, hF, _⟩ := hA
  refine ⟨he, A', c', vs', us, hP', Recd.beside hR hP.disk.lay hP.jat hO hne, fun g hg hg' => ?_⟩
  rcases hF with hF | ⟨k, hF, hk⟩
  · exact hne g hg (by rw [← hF]; exact hg')
  · rw [hF] at hg'
    injection hg' with hg'
    have := (hR.own.lt g (by rw [← hg]; exact ownBlock_any _ _ _ _ _)).2
    omega

theorem Trio.below {w wr : World} {x Bd Bj : Nat} {q : Dd.Pl} {s : PS} {A2 : Option Addr} {c2 : Nat} (h : Trio w wr x Bd Bj q s A2 c2) : Below w.heap.size w wr := by
  obtain ⟨A, c, vs, us, h1, _, _⟩ := h.some
  exact h1.below

def PutsE (w : World) (x Bd Bj : Nat) (q : Dd.Pl) (s : PS) (e : Ending) (w' : World) : Prop :=
  ∃ A2 c2, e = .returned (.tuple #[.slice A2 s.all.length c2, .int .i64 (s.ok : Int)]) ∧ Trio w w' x Bd Bj q s A2 c2

end Go.Proofs.Ytedgookkogpfbaa.Jl
