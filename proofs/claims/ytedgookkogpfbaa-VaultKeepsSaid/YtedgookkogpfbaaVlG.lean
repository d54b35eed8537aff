/- A landed vault beside data that is none of it; rows copied. -/
import Derived.Test.YtedgookkogpfbaaVlF
import Derived.Test.YtedgookkogpfbaaVtF
set_option maxRecDepth 100000
namespace Go.Proofs.Ytedgookkogpfbaa.Vl
open Go.ChangeShapes Go.WideShapes Go.ChangeAt Go.RowKit
open Qu (Blk)
open Mv (Only Fresh)
open By (Own8 Bys cellsB cellsB_length)
open Dk (DS dsNew crashD startD armD writeD writeE secCells)
open Dd (Lay At Tidy Pl)
open Jr (JS Recd JHas Fit newE blankJ openJ addE addDS addJ stopE needN blk_blk_ne own_own_ne ownBlock_any info_bytes)
open Jl (RecE Told AddE own_far_disk)
open Vt
set_option linter.unusedVariables false

/-- The vault v on the disk d; these blocks G are none of it. -/
structure VG (w wr : World) (x : Nat) (q : Pl) (v : VS) (d : DS) (G : Nat → Prop) : Prop where
  some : ∃ Bd y A c vs, At wr Bd q d ∧ VA wr w.heap.size x y q A c vs v ∧ ∀ k, G k → k < wr.heap.size ∧ ¬ (q.has k ∨ VHas x y A k)
  lo : ∀ k, q.has k → w.heap.size ≤ k
  below : Below w.heap.size w wr
  fit : VFit d v

/-- The disk alone; these blocks are none of it. -/
structure DG (w wr : World) (q : Pl) (d : DS) (G : Nat → Prop) : Prop where
  some : ∃ Bd, At wr Bd q d ∧ ∀ k, G k → k < wr.heap.size ∧ ¬ q.has k
  lo : ∀ k, q.has k → w.heap.size ≤ k
  below : Below w.heap.size w wr
  n : d.n ≤ 20000
  n0 : 0 < d.n
  armed : d.armed ≤ 9223372036854775807

section
variable {w wr w1 : World} {x : Nat} {q : Pl} {v : VS} {d d' : DS} {G : Nat → Prop}

theorem VP.vg (h : VP w wr x q v d) : VG w wr x q v d (fun _ => False) := by
  obtain ⟨Bd, y, A, c, vs, h1, h2⟩ := h.some
  exact ⟨⟨Bd, y, A, c, vs, h1, h2, fun k hk => hk.elim⟩, h.lo, h.below, h.fit⟩

theorem VG.vp (h : VG w wr x q v d G) : VP w wr x q v d := by
  obtain ⟨Bd, y, A, c, vs, h1, h2, _⟩ := h.some
  exact ⟨⟨Bd, y, A, c, vs, h1, h2⟩, h.lo, h.below, h.fit⟩

theorem VG.later (h : VG w wr x q v d G) (k : Below wr.heap.size wr w1) : VG w w1 x q v d G := by
  obtain ⟨Bd, y, A, c, vs, h1, h2, h3⟩ := h.some
  exact ⟨⟨Bd, y, A, c, vs, Dk.at_below h1 k, h2.below k, fun i hi => ⟨Nat.lt_of_lt_of_le (h3 i hi).1 k.size, (h3 i hi).2⟩⟩, h.lo, h.below.trans (k.mono h.below.size), h.fit⟩

theorem vhas_there {y c : Nat} {A : Option Addr} {vs : List Value} (h : VA wr w.heap.size x y q A c vs v) : ∀ k, VHas x y A k → k < wr.heap.size := fun k hk => by
  rcases hk with hk | hk | hk
  · rw [hk]; exact h.lt.1
  · rw [hk]; exact h.lt.2
  · exact (h.jat.rows.own.lt k (by rw [← hk]; exact ownBlock_any _ _ _ _ _)).2

/-- What is made now is none of it either. -/
theorem VG.widen (h : VG w wr x q v d G) (k : Below wr.heap.size wr w1) : VG w w1 x q v d (fun i => G i ∨ (wr.heap.size ≤ i ∧ i < w1.heap.size)) := by
  obtain ⟨Bd, y, A, c, vs, h1, h2, h3⟩ := h.some
  refine ⟨⟨Bd, y, A, c, vs, Dk.at_below h1 k, h2.below k, fun i hi => ?_⟩, h.lo, h.below.trans (k.mono h.below.size), h.fit⟩
  rcases hi with hi | ⟨hi, hi2⟩
  · exact ⟨Nat.lt_of_lt_of_le (h3 i hi).1 k.size, (h3 i hi).2⟩
  · refine ⟨hi2, fun hs => ?_⟩
    rcases hs with hs | hs
    · have := h1.there i hs; omega
    · have := vhas_there h2 i hs; omega

theorem VG.dg (h : VG w wr x q v d G) : DG w wr q d G := by
  obtain ⟨Bd, y, A, c, vs, h1, h2, h3⟩ := h.some
  exact ⟨⟨Bd, h1, fun k hk => ⟨(h3 k hk).1, fun hs => (h3 k hk).2 (.inl hs)⟩⟩, h.lo, h.below, h.fit.fit.dn, by have := h.fit.size; have := h.fit.n2; omega, h.fit.fit.armed⟩

theorem vg_vae {Bd y c : Nat} {A : Option Addr} {vs : List Value} {v' : VS} {E : Int} {e : Ending} (h : VG w wr x q v d G) (h2 : VA wr w.heap.size x y q A c vs v) (h3 : ∀ k, G k → k < wr.heap.size ∧ ¬ (q.has k ∨ VHas x y A k)) (hE : VAE wr w.heap.size Bd x q y A d' v' E e w1) (hf : VFit d' v') : e = .returned (.int .i64 E) ∧ VG w w1 x q v' d' G ∧ Only wr w1 (fun k => ¬ G k) := by
  obtain ⟨he, g1, y', A', c', vs', g2, g3, g4, g5⟩ := hE
  refine ⟨he, ⟨⟨Bd, y', A', c', vs', g1, g2, fun k hk => ⟨Nat.lt_of_lt_of_le (h3 k hk).1 g3.size, fun hs => ?_⟩⟩, h.lo, h.below.trans (g3.toBelow h.below.size fun k hk hs => ?_), hf⟩, g3.mono fun k _ hs hk => (h3 k hk).2 hs⟩
  · obtain ⟨a1, a2⟩ := h3 k hk
    rcases hs with hs | hs | hs | hs
    · exact a2 (.inl hs)
    · exact a2 (.inr (.inl hs))
    · rcases g4 with g4 | g4
      · exact a2 (.inr (.inr (.inl (hs.trans g4))))
      · omega
    · rcases g5 with g5 | ⟨i, g5, hi⟩
      · exact a2 (.inr (.inr (.inr (by rw [← g5]; exact hs))))
      · rw [g5] at hs
        injection hs with hs
        omega
  · rcases hs with hs | hs | hs | hs
    · have := h.lo k hs; omega
    · have := h2.base; omega
    · have := h2.jat.base; omega
    · have := (h2.jat.rows.own.lt k (by rw [← hs]; exact ownBlock_any _ _ _ _ _)).1
      omega

theorem vg_add (h : VG w wr x q v d G) {Ab : Option Addr} {cb : Nat} {b : List UInt8} (hb : Bys wr wr.heap.size Ab b.length b) (hcb : b.length ≤ cb) (hcb2 : cb ≤ 9223372036854775807) (hlen : b.length ≤ 1000000000000) (hfar : ∀ a, Ab = some a → ¬ q.has a.block) :
    Calls Try.prog 24 #[.pointer (some ⟨x, 0, none⟩), .slice Ab b.length cb] wr fun e w' => e = .returned (.int .i64 (vaddE d v b)) ∧ VG w w' x q (vaddV d v b) (vaddDS d v b) G ∧ Only wr w' (fun k => ¬ G k) := by
  obtain ⟨Bd, y, A, c, vs, h1, h2, h3⟩ := h.some
  exact (vadd_any h2 h1 h.fit hb hcb hcb2 hlen hfar).mono fun e w' hE => vg_vae h h2 h3 hE h.fit.add

theorem vg_comp (h : VG w wr x q v d G) {Ab : Option Addr} {cb : Nat} {b : List UInt8} (hb : Bys wr wr.heap.size Ab b.length b) (hA0 : Ab = none → b.length = 0 ∧ cb = 0) (hlen : b.length ≤ 1000000000000) :
    Calls Try.prog 14 #[.pointer (some ⟨x, 0, none⟩), .slice Ab b.length cb] wr fun e w' => e = .returned (.int .i64 (vcompE d v b)) ∧ VG w w' x q (vcompV d v b) (vcompDS d v b) G ∧ Only wr w' (fun k => ¬ G k) := by
  obtain ⟨Bd, y, A, c, vs, h1, h2, h3⟩ := h.some
  exact (vcomp_any h2 h1 h.fit hb hA0 hlen).mono fun e w' hE => vg_vae h h2 h3 hE h.fit.comp

theorem DG.later (h : DG w wr q d G) (k : Below wr.heap.size wr w1) : DG w w1 q d G := by
  obtain ⟨Bd, h1, h3⟩ := h.some
  exact ⟨⟨Bd, Dk.at_below h1 k, fun i hi => ⟨Nat.lt_of_lt_of_le (h3 i hi).1 k.size, (h3 i hi).2⟩⟩, h.lo, h.below.trans (k.mono h.below.size), h.n, h.n0, h.armed⟩

theorem dg_turn {Bd : Nat} (h : DG w wr q d G) (h3 : ∀ k, G k → k < wr.heap.size ∧ ¬ q.has k) (hD : At w1 Bd q d') (ho : Only wr w1 q.has) (hn : d'.n = d.n) (ha : d'.armed ≤ 9223372036854775807) : DG w w1 q d' G ∧ Only wr w1 (fun k => ¬ G k) :=
  ⟨⟨⟨Bd, hD, fun k hk => ⟨Nat.lt_of_lt_of_le (h3 k hk).1 ho.size, (h3 k hk).2⟩⟩, h.lo, h.below.trans (ho.toBelow h.below.size fun k hk hs => by have := h.lo k hs; omega), by rw [hn]; exact h.n, by rw [hn]; exact h.n0, ha⟩, ho.mono fun k _ hs hk => (h3 k hk).2 hs⟩

theorem dg_arm (h : DG w wr q d G) (m : Int) (hm : m ≤ 9223372036854775807) : Calls Try.prog 16 #[.pointer (some ⟨q.x, 0, none⟩), .int .i64 m] wr fun e w' => e = .returned (.tuple #[]) ∧ DG w w' q (armD d m) G ∧ Only wr w' (fun k => ¬ G k) := by
  obtain ⟨Bd, h1, h3⟩ := h.some
  refine (Jl.arm_at wr _ q d m h1 h.n0 hm).mono ?_
  rintro e w' ⟨rfl, hD, ho⟩
  exact ⟨rfl, dg_turn h h3 hD ho rfl (by show m.toNat ≤ _; omega)⟩

theorem dg_crash (h : DG w wr q d G) {A0 : Option Addr} {kn : Nat} {kf : Nat → Int} (kc : Nat) (hI : Hl.Ints wr wr.heap.size A0 kn kf) (hd : ∀ a, A0 = Option.some a → kn ≠ 0 → ¬ q.has a.block) (hs : kn ≤ 40) (hf : ∀ k, k < kn → -9223372036854775808 ≤ kf k ∧ kf k ≤ 9223372036854775807) : Calls Try.prog 20 #[.pointer (some ⟨q.x, 0, none⟩), .slice A0 kn kc] wr fun e w' => e = .returned (.tuple #[]) ∧ DG w w' q (crashD d kn kf) G ∧ Only wr w' (fun k => ¬ G k) := by
  obtain ⟨Bd, h1, h3⟩ := h.some
  refine (Jl.crash_at wr _ q d A0 kn kc kf h1 hI hd (by omega) hf h.n0 h.n).mono ?_
  rintro e w' ⟨rfl, hD, ho⟩
  exact ⟨rfl, dg_turn h h3 hD ho (Jr.crashD_n _ _ _).1 (by rw [(Jr.crashD_n _ _ _).2.1]; omega)⟩

theorem dg_start (h : DG w wr q d G) : Calls Try.prog 22 #[.pointer (some ⟨q.x, 0, none⟩)] wr fun e w' => e = .returned (.tuple #[]) ∧ DG w w' q (startD d) G ∧ Only wr w' (fun k => ¬ G k) := by
  obtain ⟨Bd, h1, h3⟩ := h.some
  refine (Jl.start_at wr _ q d h1 h.n0 h.n).mono ?_
  rintro e w' ⟨rfl, hD, ho⟩
  exact ⟨rfl, dg_turn h h3 hD ho (Jr.startD_n _).1 (by have := (Jr.startD_n d).2.1; have := h.armed; omega)⟩

theorem dg_open (h : DG w wr q d G) (hE : vopenE d = 0) (hF : vfound d = true) : Calls Try.prog 11 #[.pointer (some ⟨q.x, 0, none⟩)] wr fun r w' => ∃ x, r = .returned (.tuple #[.pointer (some ⟨x, 0, none⟩), .int .i64 0]) ∧ VG w w' x q (vopenV d) (vopenDS d) G ∧ Below wr.heap.size wr w' := by
  obtain ⟨Bd, h1, h3⟩ := h.some
  have ht := top_lt (at_ok h1)
  refine (open_any wr Bd q d h1 h.n h.armed ht).mono ?_
  rintro r w' ⟨g1, g2, g3, g4⟩
  rcases g4 with ⟨g4, _⟩ | ⟨_, x, y, A, c, vs, rfl, hV⟩
  · exact absurd hE g4
  · have hs : vstopE d = 0 := by
      unfold vopenE at hE
      by_cases hh : vstopE d ≠ 0
      · rw [if_pos hh] at hE; exact absurd hE hh
      · omega
    have hz := h.below.size
    obtain ⟨hb, hx, hj⟩ := hV
    refine ⟨x, rfl, ⟨⟨Bd, y, A, c, vs, g1, ⟨by omega, hx, jl_lower hj hz⟩, fun k hk => ⟨Nat.lt_of_lt_of_le (h3 k hk).1 g2.size, fun hs => ?_⟩⟩, h.lo, h.below.trans (g2.toBelow hz fun k hk hs => by have := h.lo k hs; omega), fit_open hE h.n h.armed ht⟩, g3 hs hF⟩
    have hl := (h3 k hk).1
    rcases hs with hs | hs | hs | hs
    · exact (h3 k hk).2 hs
    · omega
    · have := hj.base; omega
    · have := (hj.rows.own.lt k (by rw [← hs]; exact ownBlock_any _ _ _ _ _)).1
      omega
end

/-! ### Data -/
/-- Bytes of the call's own, among G. -/
def OB (w wr : World) (G : Nat → Prop) (v : Value) (l : List UInt8) : Prop := ∃ A c, v = .slice A l.length c ∧ Own8 wr w.heap.size v l ∧ ∀ g, v.ownBlock = some g → G g

/-- Rows of bytes of the call's own, among G. -/
def OR (w wr : World) (G : Nat → Prop) (v : Value) (ll : List (List UInt8)) : Prop := ∃ A c us, v = .slice A ll.length c ∧ Recd wr w.heap.size A ll.length c us ll ∧ (∀ g, v.ownBlock = some g → G g) ∧ ∀ (i : Nat) (u : Value), us[i]? = some u → ∀ g, u.ownBlock = some g → G g

section
variable {w wr w1 : World} {G G' : Nat → Prop} {v : Value} {l : List UInt8} {ll : List (List UInt8)}

theorem OB.only (h : OB w wr G v l) (k : Only wr w1 (fun k => ¬ G k)) : OB w w1 G v l := by
  obtain ⟨A, c, h1, h2, h3⟩ := h
  exact ⟨A, c, h1, Mv.own_only h2 k fun g hg hs => hs (h3 g hg), h3⟩

theorem OB.later (h : OB w wr G v l) (k : Below wr.heap.size wr w1) : OB w w1 G v l := h.only (Mv.Only.ofBelow k _)

theorem OB.more (h : OB w wr G v l) (hG : ∀ k, G k → G' k) : OB w wr G' v l := by
  obtain ⟨A, c, h1, h2, h3⟩ := h
  exact ⟨A, c, h1, h2, fun g hg => hG g (h3 g hg)⟩

theorem OB.nil : OB w wr G (.slice none 0 0) [] := ⟨none, 0, rfl, World.ownsRow_nil _ _ _ _, fun g hg => (by cases hg)⟩

theorem OR.only (h : OR w wr G v ll) (k : Only wr w1 (fun k => ¬ G k)) : OR w w1 G v ll := by
  obtain ⟨A, c, us, h1, h2, h3, h4⟩ := h
  refine ⟨A, c, us, h1, ⟨Mv.own_only h2.own k fun g hg hs => hs (h3 g (by rw [h1]; exact hg)), h2.len, fun i u hu => ?_⟩, h3, h4⟩
  obtain ⟨z, z1, z2⟩ := h2.each i u hu
  exact ⟨z, z1, Mv.own_only z2 k fun g hg hs => hs (h4 i u hu g hg)⟩

theorem OR.later (h : OR w wr G v ll) (k : Below wr.heap.size wr w1) : OR w w1 G v ll := h.only (Mv.Only.ofBelow k _)

theorem OR.more (h : OR w wr G v ll) (hG : ∀ k, G k → G' k) : OR w wr G' v ll := by
  obtain ⟨A, c, us, h1, h2, h3, h4⟩ := h
  exact ⟨A, c, us, h1, h2, fun g hg => hG g (h3 g hg), fun i u hu g hg => hG g (h4 i u hu g hg)⟩

theorem OR.nil : OR w wr G (.slice none 0 0) [] := ⟨none, 0, [], rfl, ⟨World.ownsRow_nil _ _ _ _, rfl, fun i u hu => (by simp at hu)⟩, fun g hg => (by cases hg), fun i u hu => (by simp at hu)⟩
end

/-- Rows are copied onto nil. -/
theorem wpList_copy_rows {ops : Array Oper} {rest : List Oper} {o : Oper} {a : Act} {w : World} {Q : Exit → Act → World → Prop} (free : o.guard = none) (s x : Operand)
    (is : o.op = .call { callee := .builtin .append, args := #[s, x], argTypes := #[49, 49] }) (B : Nat) (A : Option Addr) (n c : Nat) (us : List Value) (ll : List (List UInt8)) (hs : a.eval s = .slice none 0 0) (hx : a.eval x = .slice A n c) (hR : Recd w B A n c us ll) (hn : n ≤ 1000000) (hB : B ≤ w.heap.size)
    (go : ∀ A' c' w', Recd w' B A' n c' us ll → Below w.heap.size w w' → (∀ g, (Value.slice A' n c').ownBlock = some g → w.heap.size ≤ g) → wpList Try.prog ops Q rest (a.put o.dst (.slice A' n c')) w') : wpList Try.prog ops Q (o :: rest) a w := by
  refine wpList_plain free fun K hK => ?_
  obtain ⟨i0, hi0, hz0, hz1, hz2⟩ := info_parts info_bytes
  have hnil : w.ownsRow B 37 1 (.slice none 0 0) 0 [] := World.ownsRow_nil _ _ _ _
  have hlen := hR.own.1
  cases A with
  | none =>
    rcases hR.own.2 with ⟨hv, hn0⟩ | ⟨g, cap, cur, hv, _⟩
    · injection hv with _ hn1 hc1
      subst hn1 hc1
      have hrun := run_append_owned_none (P := Try.prog) (w := w) B 49 o.type 37 i0 1 Try.underlying49 hi0 (.slice none 0 0) 0 [] hnil
      unfold Oper.wp execOp
      simp only [is, resolve, invoke, builtin, Sem.run_bind, Sem.run_pure, Result.andThen_ok, List.map_toArray, List.map_cons, List.map_nil, hs, hx, hrun]
      exact hK _ _ (go none 0 w hR (Below.refl _ _) (fun g hg => by cases hg))
    · cases hv
  | some ad =>
    have hn1 : us.length = n * 1 := hlen
    have hones : ∀ u ∈ us, u.oneCell' = true := fun u hu => by
      obtain ⟨i, hi, rfl⟩ := List.getElem_of_mem hu
      obtain ⟨z, z1, z2⟩ := hR.each i _ (List.getElem?_eq_getElem hi)
      obtain ⟨A', c', e⟩ := Mv.own_value z2
      rw [e]
      rfl
    have hthere : ∀ j u, us[j]? = some u → w.cell? (ad.add j) = some u := fun j u hu => by
      rcases Nat.eq_zero_or_pos n with h0 | h0
      · subst h0
        have := (List.getElem?_eq_some_iff.1 hu).1
        omega
      · obtain ⟨g, cap, hv, hg, hgl⟩ := hR.own.form h0
        injection hv with hA _ hc
        injection hA with hA
        subst hA
        have hj : j < n * 1 := by have := (List.getElem?_eq_some_iff.1 hu).1; omega
        have := hR.own.cellAt j hj
        rw [hu] at this
        by_cases hj0 : j = 0
        · subst hj0
          simpa [Addr.add] using this
        · simp [Addr.add, hj0]
          simpa using this
    obtain ⟨v', w', hrun, h2, h3, h4, h5⟩ := run_append_own_at (P := Try.prog) w B 49 o.type 37 i0 _ 1 24 Try.underlying49 hi0 hz0 hz1 hz2 rfl (by omega) (.slice none 0 0) 0 [] hnil ad n c us hn1 hthere hones (by unfold maxLen; omega) (by omega) hB
    rw [Nat.zero_add, List.nil_append] at h2
    obtain ⟨A', c', rfl⟩ := Mv.own_value h2
    unfold Oper.wp execOp
    simp only [is, resolve, invoke, builtin, Sem.run_bind, Sem.run_pure, Result.andThen_ok, List.map_toArray, List.map_cons, List.map_nil, hs, hx, hrun]
    have hb : Below w.heap.size w w' := (Below.refl _ _).grown h3 (Nat.le_refl _) (fun g hg => by cases hg)
    refine hK _ _ (go A' c' w' ⟨h2, hR.len, fun i u hu => ?_⟩ hb (fun g hg => ?_))
    · obtain ⟨z, z1, z2⟩ := hR.each i u hu
      exact ⟨z, z1, Mv.own_only z2 (Mv.Only.ofBelow hb fun _ => False) (fun _ _ h => h)⟩
    · rcases h5 with h5 | h5
      · rw [h5] at hg; cases hg
      · rw [h5] at hg
        injection hg with hg
        omega

end Go.Proofs.Ytedgookkogpfbaa.Vl
