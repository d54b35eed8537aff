/- Deals: the landed newMaking (made by gen-newmaking16.py). -/
import Derived.Deep.CutBlock
import Derived.Deep.DeepCutAuto
import Derived.Deep.MidRow
import Derived.Test.YtljmddjlnlmenaaGreatPq26
set_option maxRecDepth 100000
set_option linter.unusedVariables false

namespace Go.Proofs.YtljmddjlnlmenaaGreat.Dl
open Go.ChangeShapes Go.WideShapes Go.ChangeAt Go.RowKit
open Ap (Unt Tir Prm Prt kUnt kTir kPrt row_Unt row_Tir row_Prt)
open Kd (Kind Row RowT kInt kFlag kList Lst row_int row_list)
open Ko (Out Told Told2 At row_on)
open Ct (nth nth_some netAt netsL sumL UnitsMay PlacesMay May mayB mayB_iff Far take_next lessU SumOk PlacesIn i64_t own_down told2_of)
theorem size_making : (Tryz.prog.info? 67).map (·.size) = some 18 := by kernel_rfl
theorem load_making {ops : Array Oper} {rest : List Oper} {op : Oper} {a : Act} {w : World} {Q : Exit -> Act -> World -> Prop} (free : op.guard = none) (x : Operand) (is : op.op = .load 67 x) (g : Nat) (vx : a.eval x = .pointer (some ⟨g, 0, none⟩)) (vs : Array Value) (h : Qu.Blk w g 67 vs) (hz : vs.size = 18)
    (go : wpList Tryz.prog ops Q rest (a.put op.dst (.agg vs)) w) : wpList Tryz.prog ops Q (op :: rest) a w := by
  refine wpList_plain free fun K hK => ?_
  have hl := run_loadVar_row (P := Tryz.prog) w g 67 67 vs (0, 0) _ h.here Tryz.underlying67 rfl (by rw [size_making, hz])
  unfold Oper.wp execOp
  simp only [is, vx, Instr.loadAt, Instr.sureAddr, hl, Sem.run_bind, Sem.run_pure, Result.andThen_ok]
  exact hK _ _ go
theorem alloc_making (W : World) : ∃ cs : Array Value, cs.size = 18 /\ (Instr.alloc 67 true (.tuple #[])).run Tryz.prog W = .ok (.pointer (some ⟨W.heap.size, 0, none⟩)) (W.alloc (.cells cs 67)) :=
  ⟨#[.string ⟨#[]⟩, .int .i64 0, .int .i64 0, .string ⟨#[]⟩, .string ⟨#[]⟩, .bool false, .slice none 0 0, .slice none 0 0, .int .i64 0, .int .i64 0, .int .i64 0, .int .i64 0, .int .i64 0, .slice none 0 0, .slice none 0 0, .slice none 0 0, .slice none 0 0, .slice none 0 0], rfl, by kernel_rfl⟩
theorem step_new_making {ops : Array Oper} {o : Oper} {a : Act} {w : World} {K : Act -> World -> Prop} {Q : Exit -> Act -> World -> Prop} {E : Prop} (free : o.guard = none) (is : o.op = .alloc 67)
    (go : ∀ (w' : World) (mb : Nat) (cs : Array Value), mb = w.heap.size -> cs.size = 18 -> Qu.Blk w' mb 67 cs -> Below w.heap.size w w' -> K (a.put o.dst (.pointer (some ⟨mb, 0, none⟩))) w') : if Region.wanted o (yielded ops a.tmps) = true then Oper.wp Tryz.prog o a w K Q else E := by
  have hw : Region.wanted o (yielded ops a.tmps) = true := by simp [Region.wanted, free]
  rw [if_pos hw]
  obtain ⟨cs, hs, hr⟩ := alloc_making w
  unfold Oper.wp execOp
  simp only [is, hr, Sem.run_bind, Sem.run_pure, Result.andThen_ok]
  exact go _ _ cs rfl hs (Qu.Blk.new _ _ _) ((Below.refl _ _).alloc (Nat.le_refl _) _)
theorem over_whole {cs vs : List Value} (h : cs.length = vs.length) : Se.over cs 0 vs = vs := by
  rw [Kd.over_piece (by omega), List.take_zero, List.nil_append, List.drop_of_length_le (by omega), List.append_nil]
theorem grown_puts {g : Nat} : ∀ (vs : List Value) (w : World) (o : Nat), w.grownBy (w.setCells g o vs) (some g)
  | [], w, o => World.grownBy.refl w _
  | v :: r, w, o => (Qu.turned_at w g o v).trans (grown_puts r (w.setCell ⟨g, o, none⟩ v) (o + 1))
theorem store_making {ops : Array Oper} {rest : List Oper} {op : Oper} {a : Act} {w : World} {Q : Exit -> Act -> World -> Prop} (free : op.guard = none) (x y : Operand) (is : op.op = .store 67 x y) (g : Nat) (vx : a.eval x = .pointer (some ⟨g, 0, none⟩)) (vs : Array Value) (vy : a.eval y = .agg vs) (cs : Array Value) (h : Qu.Blk w g 67 cs) (hc : cs.size = 18) (hv : vs.size = 18) (h1 : vs.all (·.oneCell') = true)
    (go : ∀ w', Qu.Blk w' g 67 vs -> w.grownBy w' (some g) -> wpList Tryz.prog ops Q rest (a.put op.dst undef) w') : wpList Tryz.prog ops Q (op :: rest) a w := by
  refine wpList_plain free fun K hK => ?_
  have hth : w.there g 0 vs.size := fun j hj => by
    refine ⟨?_, h.frozen _⟩
    rw [Nat.zero_add, h.cell j, Array.getElem?_eq_getElem (by omega)]
    rfl
  have q1 := Kd.blk_puts vs.toList w 0 cs h
  rw [over_whole (by simp [hc, hv])] at q1
  have q2 := grown_puts (g := g) vs.toList w 0
  have q0 := run_storeAt_mid (P := Tryz.prog) w g 0 67 vs hth (by rw [size_making, hv]) h1
  unfold Oper.wp execOp
  simp only [is, vx, vy, q0, Sem.run_bind, Sem.run_pure, Result.andThen_ok]
  exact hK _ _ (go _ (by simpa using q1) q2)
theorem step_store_making {ops : Array Oper} {o : Oper} {a : Act} {w : World} {K : Act -> World -> Prop} {Q : Exit -> Act -> World -> Prop} {E : Prop} (free : o.guard = none) (x y : Operand) (is : o.op = .store 67 x y) (g : Nat) (vx : a.eval x = .pointer (some ⟨g, 0, none⟩)) (vs : Array Value) (vy : a.eval y = .agg vs) (cs : Array Value) (h : Qu.Blk w g 67 cs) (hc : cs.size = 18) (hv : vs.size = 18) (h1 : vs.all (·.oneCell') = true)
    (go : ∀ w', Qu.Blk w' g 67 vs -> w.grownBy w' (some g) -> K (a.put o.dst undef) w') : if Region.wanted o (yielded ops a.tmps) = true then Oper.wp Tryz.prog o a w K Q else E := by
  have hw : Region.wanted o (yielded ops a.tmps) = true := by simp [Region.wanted, free]
  rw [if_pos hw]
  have hth : w.there g 0 vs.size := fun j hj => by
    refine ⟨?_, h.frozen _⟩
    rw [Nat.zero_add, h.cell j, Array.getElem?_eq_getElem (by omega)]
    rfl
  have q1 := Kd.blk_puts vs.toList w 0 cs h
  rw [over_whole (by simp [hc, hv])] at q1
  have q2 := grown_puts (g := g) vs.toList w 0
  have q0 := run_storeAt_mid (P := Tryz.prog) w g 0 67 vs hth (by rw [size_making, hv]) h1
  unfold Oper.wp execOp
  simp only [is, vx, vy, q0, Sem.run_bind, Sem.run_pure, Result.andThen_ok]
  exact go _ (by simpa using q1) q2
theorem own_far {α : Type} {K : Kind α} {w w' : World} {B E n mb t : Nat} {v : Value} {xs : List α} {cs : Array Value} (h : Kd.Own K w B E (fun _ => False) v n xs) (hb : Qu.Blk w mb t cs) (hne : E ≠ t) (hg : w.grownBy w' (some mb)) : Kd.Own K w' B E (fun _ => False) v n xs := by
  obtain ⟨hl2, cs2, ho2, hc2⟩ := h
  refine Kd.Own.stay ⟨hl2, cs2, ho2, hc2⟩ (fun _ h => h.elim) fun b hb2 => hg.block b (ho2.lt b hb2).2 ?_
  intro e
  injection e with e
  subst e
  exact Mv.own_blk_ne ho2 hb hne _ hb2 rfl
theorem made_a {w2 w7 w8 : World} {n mb : Nat} {M cs7 vs : Array Value} (hM2 : ∀ (W : World) (B : Nat), B <= W.heap.size -> Kd.Own kFlag (W.alloc (.cells M 4)) B 4 (fun _ => False) (.slice (some ⟨W.heap.size, 0, none⟩) n n) n (List.replicate n false)) (he : w2.heap.size <= mb) (hB7 : Qu.Blk w7 mb 67 cs7) (hb7 : Below (w2.alloc (.cells M 4)).drew.heap.size (w2.alloc (.cells M 4)).drew w7) (hK8 : Qu.Blk w8 mb 67 vs) (hg8 : w7.grownBy w8 (some mb)) :
    Hid (Kd.Own kFlag w8 w2.heap.size 4 (fun _ => False) (.slice (some ⟨w2.heap.size, 0, none⟩) n n) n (List.replicate n false) /\ Qu.Blk w8 mb 67 vs /\ Below w2.heap.size w2 w8 /\ w2.heap.size <= mb) := Lib.hid (by
  have e1 : (w2.alloc (.cells M 4)).heap.size = w2.heap.size + 1 := by simp
  have h1 := hM2 w2 w2.heap.size (Nat.le_refl _)
  have h2 := h1.later (w' := w7) (by exact ⟨hb7.os, hb7.tape, hb7.output, hb7.size, hb7.block⟩)
  have b1 : Below w2.heap.size w2 w7 := (((Below.refl _ _).alloc (Nat.le_refl _) _).drew).trans (hb7.mono (show w2.heap.size <= (w2.alloc (.cells M 4)).heap.size by rw [e1]; omega))
  exact ⟨own_far h2 hB7 (by decide) hg8, hK8, b1.grown hg8 b1.size (fun i hi => by injection hi with hi; omega), he⟩)
theorem made_b {w2 w7 w8 : World} {n mb : Nat} {M cs7 vs : Array Value} (hM2 : ∀ (W : World) (B : Nat), B <= W.heap.size -> Kd.Own kFlag (W.alloc (.cells M 4)) B 4 (fun _ => False) (.slice (some ⟨W.heap.size, 0, none⟩) n n) n (List.replicate n false)) (he : w2.heap.size <= mb) (hB7 : Qu.Blk w7 mb 67 cs7) (hb7 : Below w2.drew.heap.size w2.drew w7) (hK8 : Qu.Blk w8 mb 67 vs) (hg8 : (w7.alloc (.cells M 4)).grownBy w8 (some mb)) :
    Hid (Kd.Own kFlag w8 w2.heap.size 4 (fun _ => False) (.slice (some ⟨w7.heap.size, 0, none⟩) n n) n (List.replicate n false) /\ Qu.Blk w8 mb 67 vs /\ Below w2.heap.size w2 w8 /\ w2.heap.size <= mb) := Lib.hid (by
  have b0 : Below w2.heap.size w2 w7 := ((Below.refl w2.heap.size w2).drew).trans hb7
  have h1 := hM2 w7 w2.heap.size b0.size
  have b1 : Below w2.heap.size w2 (w7.alloc (.cells M 4)) := b0.alloc b0.size _
  exact ⟨own_far h1 (hB7.alloc _) (by decide) hg8, hK8, b1.grown hg8 b1.size (fun i hi => by injection hi with hi; omega), he⟩)
theorem isq_down {w : World} {B B' q : Nat} {r : Option Nat} {l : List Qu.Pt} (h : Qu.IsQ w B q r l) (hB : B' <= B) : Qu.IsQ w B' q r l := by
  obtain ⟨hs, v, a, hQ, hr, hh, hp⟩ := h
  refine ⟨hs, v, a, ⟨hQ.blk, ⟨hQ.own.1, ?_⟩, Nat.le_trans hB hQ.base⟩, hr, hh, hp⟩
  rcases hQ.own.2 with h2 | ⟨g, cap, cur, hv, hb, rest⟩
  . exact .inl h2
  . exact .inr ⟨g, cap, cur, hv, Nat.le_trans hB hb, rest⟩
theorem isq_low {w : World} {M B q : Nat} {r : Option Nat} {l : List Qu.Pt} (h : Qu.IsQ w M q r l) (hB : B <= M) : Qu.IsQ w M q r l /\ B <= q := ⟨h, Nat.le_trans hB h.base.1⟩
theorem Mkg.aside {w w' : World} {B mb t : Nat} {wv hv : Value} {qs : List (Nat × Option Nat)} {ls : List (List Int)} {h : List Bool} {cs : Array Value} (k : Mkg w B wv hv qs ls h) (hb : Qu.Blk w mb t cs) (ht : ¬ Stirs t) (ht2 : t ≠ 91) (hg : w.grownBy w' (some mb)) : Mkg w' B wv hv qs ls h := by
  have row : ∀ {α : Type} {K : Kind α} {E2 n2 : Nat} {v2 : Value} {ys : List α}, E2 ≠ t -> Kd.Own K w B E2 (fun _ => False) v2 n2 ys -> Kd.Own K w' B E2 (fun _ => False) v2 n2 ys := fun hne h2 => by
    obtain ⟨hl2, cs2, ho2, hc2⟩ := h2
    refine Kd.Own.stay ⟨hl2, cs2, ho2, hc2⟩ (fun _ h => h.elim) fun b hb2 => hg.block b (ho2.lt b hb2).2 ?_
    intro e
    injection e with e
    subst e
    exact Mv.own_blk_ne ho2 hb hne _ hb2 rfl
  refine ⟨k.len, fun i q r l h1 h2 => ?_, k.apart, row (fun e => ht (.inr (.inr e.symm))) k.had, row (fun e => ht2 e.symm) k.wait, k.few, k.inn⟩
  obtain ⟨L, hL, e⟩ := k.que i q r l h1 h2
  refine ⟨L, hL.grown hg ?_ ?_, e⟩
  . obtain ⟨_, v, a, hQ, _, _, _⟩ := hL
    intro e2
    injection e2 with e2
    subst e2
    have h3 := hQ.blk.here
    rw [hb.here] at h3
    injection h3 with h3
    injection h3 with _ h3
    exact ht (.inr (.inl h3))
  . obtain ⟨_, v, a, hQ, hr, _, _⟩ := hL
    right
    intro e2
    have := Qu.own_blk_ne hQ.own hb (fun e3 => ht (.inl e3.symm))
    rw [hr] at this
    exact this e2.symm
structure Mst (p : Prm) (l : Prm.Lay) (A : Option Addr) (n c : Nat) (us : List Unt) (parts : List (List Int)) (w2 wx : World) (mb g : Nat) (k : Nat) (wv : Value) (qs : List (Nat × Option Nat)) : Prop where
  mem : Mkg wx w2.heap.size wv (.slice (some ⟨g, 0, none⟩) n n) qs (starts us (parts.take k)) (List.replicate n false)
  blk : Qu.Blk wx mb 67 #[.string p.id, .int .i64 p.kind, .int .i64 p.priority, .string p.group, .string p.code, .bool p.closes, .slice l.scope.skus.A l.scope.skus.n l.scope.skus.c, .slice l.scope.cats.A l.scope.cats.n l.scope.cats.c, .int .i64 p.least, .int .i64 p.rate, .int .i64 p.amount, .int .i64 p.buy, .int .i64 p.get, .slice l.parts.A l.parts.n l.parts.c, .slice l.tiers.A l.tiers.n l.tiers.c, .slice A n c, wv, .slice (some ⟨g, 0, none⟩) n n]
  below : Below w2.heap.size w2 wx
  low : w2.heap.size <= mb
theorem Mst.later {p : Prm} {l : Prm.Lay} {A : Option Addr} {n c : Nat} {us : List Unt} {parts : List (List Int)} {w2 wx wy : World} {mb g k : Nat} {wv : Value} {qs : List (Nat × Option Nat)} (h : Mst p l A n c us parts w2 wx mb g k wv qs) (hb : Below wx.heap.size wx wy) : Mst p l A n c us parts w2 wy mb g k wv qs :=
  ⟨h.mem.later hb, h.blk.below hb, h.below.trans (hb.mono h.below.size), h.low⟩
theorem making_quiet : ¬ Stirs 67 /\ 67 ≠ 91 := by unfold Stirs; decide
theorem ho_grown {α : Type} {K : Kind α} {w w' : World} {B B2 E E2 n n2 size : Nat} {v v2 : Value} {xs : List α} {cs : List Value} (h : Kd.Own K w B E (fun _ => False) v n xs) (hr : w.ownsRow B2 E2 size v2 n2 cs) (hne : E ≠ E2) (hg : w.grownBy w' v2.ownBlock) : Kd.Own K w' B E (fun _ => False) v n xs := by
  obtain ⟨hl2, cs2, ho2, hc2⟩ := h
  refine Kd.Own.stay ⟨hl2, cs2, ho2, hc2⟩ (fun _ h => h.elim) fun b hb => hg.block b (ho2.lt b hb).2 ?_
  intro e
  rcases Qu.own_own_ne ho2 hr hne with a | a
  . rw [a] at hb; cases hb
  . exact a (by rw [hb, e])
theorem Mst.push {p : Prm} {l : Prm.Lay} {A : Option Addr} {n c : Nat} {us : List Unt} {parts : List (List Int)} {w2 wr wa w9 : World} {mb g k q g1 cap : Nat} {x : Value} {r : Option Nat} {qs : List (Nat × Option Nat)} {ms : List Int} (h : Mst p l A n c us parts w2 wa mb g k x qs) (h0 : Mst p l A n c us parts w2 wr mb g k x qs) (hn : parts[k]? = some ms /\ (dearL us ms).length <= 100000 /\ ∀ m ∈ dearL us ms, 0 <= m /\ m < (n : Int)) (hq : qs.length = k) (hI : Qu.IsQ wa wr.heap.size q r (dearP us ms) /\ wr.heap.size <= q) (hsz : wr.heap.size <= wa.heap.size)
    (hown : Kd.Own kPtr w9 w2.heap.size 91 (fun _ => False) (.slice (some ⟨g1, 0, none⟩) (k + 1) cap) (k + 1) (qs.map (·.1) ++ [q])) (hgrow : wa.grownBy w9 x.ownBlock) :
    Qu.Blk w9 mb 67 #[.string p.id, .int .i64 p.kind, .int .i64 p.priority, .string p.group, .string p.code, .bool p.closes, .slice l.scope.skus.A l.scope.skus.n l.scope.skus.c, .slice l.scope.cats.A l.scope.cats.n l.scope.cats.c, .int .i64 p.least, .int .i64 p.rate, .int .i64 p.amount, .int .i64 p.buy, .int .i64 p.get, .slice l.parts.A l.parts.n l.parts.c, .slice l.tiers.A l.tiers.n l.tiers.c, .slice A n c, x, .slice (some ⟨g, 0, none⟩) n n] /\ Below w2.heap.size w2 w9 /\ Mst p l A n c us parts w2 (w9.setCell ⟨mb, 16, none⟩ (.slice (some ⟨g1, 0, none⟩) (k + 1) cap)) mb g (k + 1) (.slice (some ⟨g1, 0, none⟩) (k + 1) cap) (qs ++ [(q, r)]) /\ Below w2.heap.size w2 (w9.setCell ⟨mb, 16, none⟩ (.slice (some ⟨g1, 0, none⟩) (k + 1) cap)) := by
  obtain ⟨hl, cs, hr, hc⟩ := h.mem.wait
  have hb9 : Qu.Blk w9 mb 67 #[.string p.id, .int .i64 p.kind, .int .i64 p.priority, .string p.group, .string p.code, .bool p.closes, .slice l.scope.skus.A l.scope.skus.n l.scope.skus.c, .slice l.scope.cats.A l.scope.cats.n l.scope.cats.c, .int .i64 p.least, .int .i64 p.rate, .int .i64 p.amount, .int .i64 p.buy, .int .i64 p.get, .slice l.parts.A l.parts.n l.parts.c, .slice l.tiers.A l.tiers.n l.tiers.c, .slice A n c, x, .slice (some ⟨g, 0, none⟩) n n] := h.blk.grown hgrow (Qu.own_blk_ne hr h.blk (by decide))
  have hlow : ∀ i, x.ownBlock = some i -> w2.heap.size <= i := fun i hi => (hr.lt i hi).1
  have hbel : Below w2.heap.size w2 w9 := h.below.grown hgrow h.below.size hlow
  have hkeep : ∀ (q2 : Nat) (r2 : Option Nat) (L : List Qu.Pt) (M : Nat), Qu.IsQ wa M q2 r2 L -> Qu.IsQ w9 M q2 r2 L := fun q2 r2 L M hL => by
    obtain ⟨a1, a2⟩ := hL.apart hr (by decide) (by decide)
    exact hL.grown hgrow a1 a2
  have hst : starts us (parts.take (k + 1)) = starts us (parts.take k) ++ [dearL us ms] := by
    unfold starts
    rw [take_next hn.1, List.map_append]; rfl
  have hlen := h.mem.len
  have hold : ∀ (i q2 : Nat) (r2 : Option Nat), qs[i]? = some (q2, r2) -> q2 < wr.heap.size /\ ∀ b, r2 = some b -> b < wr.heap.size := fun i q2 r2 hi => by
    have hil := (List.getElem?_eq_some_iff.1 hi).1
    obtain ⟨L, hL, _⟩ := h0.mem.que i q2 r2 _ hi (List.getElem?_eq_getElem (by rw [<- h0.mem.len]; exact hil))
    exact ⟨hL.base.2.1, fun b hb => (hL.base.2.2 b hb).2⟩
  have hnew : ∀ b, r = some b -> wr.heap.size <= b := fun b hb => (hI.1.base.2.2 b hb).1
  have hmem9 : Mkg w9 w2.heap.size (.slice (some ⟨g1, 0, none⟩) (k + 1) cap) (.slice (some ⟨g, 0, none⟩) n n) (qs ++ [(q, r)]) (starts us (parts.take (k + 1))) (List.replicate n false) := by
    rw [hst]
    refine ⟨by rw [List.length_append, List.length_append, hlen]; rfl, fun i q2 r2 l2 h1 h2 => ?_, fun i j q2 r2 q3 r3 hij h1 h2 => ?_, ?_, ?_, h.mem.few, fun l2 hl2 => ?_⟩
    . rcases Nat.lt_or_ge i qs.length with hi | hi
      . rw [List.getElem?_append_left hi] at h1
        rw [List.getElem?_append_left (by rw [<- hlen]; exact hi)] at h2
        obtain ⟨L, hL, e⟩ := h.mem.que i q2 r2 l2 h1 h2
        exact ⟨L, hkeep q2 r2 L _ hL, e⟩
      . rw [List.getElem?_append_right hi] at h1
        rw [List.getElem?_append_right (by rw [<- hlen]; exact hi)] at h2
        have hi0 : i - qs.length = 0 := by have := (List.getElem?_eq_some_iff.1 h1).1; simp at this; omega
        rw [hi0] at h1
        rw [<- hlen, hi0] at h2
        injection h1 with h1
        injection h1 with h1 h3
        injection h2 with h2
        subst h1 h3 h2
        exact ⟨dearP us ms, isq_down (hkeep q r _ _ hI.1) h0.below.size, rfl⟩
    . rcases Nat.lt_or_ge i qs.length with hi | hi
      . rw [List.getElem?_append_left hi] at h1
        rcases Nat.lt_or_ge j qs.length with hj | hj
        . rw [List.getElem?_append_left hj] at h2
          exact h.mem.apart i j q2 r2 q3 r3 hij h1 h2
        . rw [List.getElem?_append_right hj] at h2
          have hj0 : j - qs.length = 0 := by have := (List.getElem?_eq_some_iff.1 h2).1; simp at this; omega
          rw [hj0] at h2
          injection h2 with h2
          injection h2 with h2 h3
          subst h2 h3
          obtain ⟨o1, o2⟩ := hold i q2 r2 h1
          have := hI.2
          refine ⟨by omega, ?_⟩
          cases hr2 : r2 with
          | none => exact .inl rfl
          | some b =>
            right
            intro e
            have h5 := o2 b hr2
            have h6 := hnew b e.symm
            omega
      . rw [List.getElem?_append_right hi] at h1
        have hi0 : i - qs.length = 0 := by have := (List.getElem?_eq_some_iff.1 h1).1; simp at this; omega
        rw [hi0] at h1
        injection h1 with h1
        injection h1 with h1 h3
        subst h1 h3
        rcases Nat.lt_or_ge j qs.length with hj | hj
        . rw [List.getElem?_append_left hj] at h2
          obtain ⟨o1, o2⟩ := hold j q3 r3 h2
          have := hI.2
          refine ⟨by omega, ?_⟩
          cases hr2 : r with
          | none => exact .inl rfl
          | some b =>
            right
            intro e
            have h5 := hnew b hr2
            have h6 := o2 b e.symm
            omega
        . rw [List.getElem?_append_right hj] at h2
          have hj0 : j - qs.length = 0 := by have := (List.getElem?_eq_some_iff.1 h2).1; simp at this; omega
          omega
    . exact ho_grown h.mem.had hr (by decide) hgrow
    . rw [List.length_append, hq, List.map_append]; exact hown
    . rcases List.mem_append.1 hl2 with h3 | h3
      . exact h.mem.inn l2 h3
      . rw [List.mem_singleton.1 h3]
        exact ⟨hn.2.1, fun m hm => by rw [List.length_replicate]; exact hn.2.2 m hm⟩
  have hbs : Below w2.heap.size w2 (w9.setCell ⟨mb, 16, none⟩ (.slice (some ⟨g1, 0, none⟩) (k + 1) cap)) := hbel.setCell h.low _
  exact ⟨hb9, hbel, ⟨hmem9.aside hb9 making_quiet.1 making_quiet.2 (Qu.turned_at w9 mb 16 _), hb9.put 16 _, hbs, h.low⟩, hbs⟩
theorem results_making {f : Func} {t : Tmp} {T : TypeId} (hf : f.results = #[.cell t T]) (tmps : Array Value) (w : World) (g : Nat) (vs : Array Value) (hT : T = 67) (h : Qu.Blk w g 67 vs) (hv : vs.size = 18) (hp : tmps.getD t undef = .pointer (some ⟨g, 0, none⟩)) : (results f tmps).run Tryz.prog w = .ok (.agg vs) w := by
  subst hT
  exact results_cell_row hf tmps w g 67 vs (0, 0) _ hp h.here Tryz.underlying67 rfl (by rw [hv]; kernel_rfl)
def Made (e : Ending) (w w' : World) (p : Prm) (l : Prm.Lay) (A : Option Addr) (n c : Nat) (us : List Unt) (parts : List (List Int)) : Prop :=
  ∃ (Bm : Nat) (wv hv : Value) (qs : List (Nat × Option Nat)), e = .returned (.agg #[.string p.id, .int .i64 p.kind, .int .i64 p.priority, .string p.group, .string p.code, .bool p.closes, .slice l.scope.skus.A l.scope.skus.n l.scope.skus.c, .slice l.scope.cats.A l.scope.cats.n l.scope.cats.c, .int .i64 p.least, .int .i64 p.rate, .int .i64 p.amount, .int .i64 p.buy, .int .i64 p.get, .slice l.parts.A l.parts.n l.parts.c, .slice l.tiers.A l.tiers.n l.tiers.c, .slice A n c, wv, hv]) /\ Mkg w' Bm wv hv qs (starts us parts) (List.replicate us.length false) /\ w.heap.size <= Bm /\ Bm <= w'.heap.size /\ Below w.heap.size w w'
set_option maxHeartbeats 4000000 in
theorem newMaking_any (p : Prm) (l : Prm.Lay) (A : Option Addr) (n c : Nat) (us : List Unt) (B : Option Addr) (m d : Nat) (parts : List (List Int)) (w : World) (h : Row kUnt w (· < w.heap.size) A n us) (hum : UnitsMay us) (hg : Row (kList kInt) w (· < w.heap.size) B m parts) (hm : m <= 100) (hs : ∀ x ∈ parts, PlacesMay us x) :
    Calls Tryz.prog 37 #[.agg #[.string p.id, .int .i64 p.kind, .int .i64 p.priority, .string p.group, .string p.code, .bool p.closes, .slice l.scope.skus.A l.scope.skus.n l.scope.skus.c, .slice l.scope.cats.A l.scope.cats.n l.scope.cats.c, .int .i64 p.least, .int .i64 p.rate, .int .i64 p.amount, .int .i64 p.buy, .int .i64 p.get, .slice l.parts.A l.parts.n l.parts.c, .slice l.tiers.A l.tiers.n l.tiers.c], .slice A n c, .slice B m d] w fun e w' => Made e w w' p l A n c us parts := by
  obtain ⟨w1, hw1⟩ : ∃ w1, w.alloc (.cells #[.string p.id, .int .i64 p.kind, .int .i64 p.priority, .string p.group, .string p.code, .bool p.closes, .slice l.scope.skus.A l.scope.skus.n l.scope.skus.c, .slice l.scope.cats.A l.scope.cats.n l.scope.cats.c, .int .i64 p.least, .int .i64 p.rate, .int .i64 p.amount, .int .i64 p.buy, .int .i64 p.get, .slice l.parts.A l.parts.n l.parts.c, .slice l.tiers.A l.tiers.n l.tiers.c] 28) = w1 := ⟨_, rfl⟩
  have hb1 : Below w.heap.size w w1 := by rw [<- hw1]; exact (Below.refl _ _).alloc (Nat.le_refl _) _
  have hx : Qu.Blk w1 w.heap.size 28 #[.string p.id, .int .i64 p.kind, .int .i64 p.priority, .string p.group, .string p.code, .bool p.closes, .slice l.scope.skus.A l.scope.skus.n l.scope.skus.c, .slice l.scope.cats.A l.scope.cats.n l.scope.cats.c, .int .i64 p.least, .int .i64 p.rate, .int .i64 p.amount, .int .i64 p.buy, .int .i64 p.get, .slice l.parts.A l.parts.n l.parts.c, .slice l.tiers.A l.tiers.n l.tiers.c] := by rw [<- hw1]; exact Qu.Blk.new w _ _
  obtain ⟨w2, hw2⟩ : ∃ w2, w1.alloc (.cells #[.string ⟨#[]⟩, .int .i64 0, .int .i64 0, .string ⟨#[]⟩, .string ⟨#[]⟩, .bool false, .slice none 0 0, .slice none 0 0, .int .i64 0, .int .i64 0, .int .i64 0, .int .i64 0, .int .i64 0, .slice none 0 0, .slice none 0 0, .slice none 0 0, .slice none 0 0, .slice none 0 0] 67) = w2 := ⟨_, rfl⟩
  have hb2 : Below w1.heap.size w1 w2 := by rw [<- hw2]; exact (Below.refl _ _).alloc (Nat.le_refl _) _
  have hx2 := hx.below hb2
  have hz2 : Qu.Blk w2 w1.heap.size 67 #[.string ⟨#[]⟩, .int .i64 0, .int .i64 0, .string ⟨#[]⟩, .string ⟨#[]⟩, .bool false, .slice none 0 0, .slice none 0 0, .int .i64 0, .int .i64 0, .int .i64 0, .int .i64 0, .int .i64 0, .slice none 0 0, .slice none 0 0, .slice none 0 0, .slice none 0 0, .slice none 0 0] := by rw [<- hw2]; exact Qu.Blk.new w1 _ _
  have HZ2 := Lib.hid hz2
  have hB12 := hb1.trans (hb2.mono hb1.size)
  have HB12 := Lib.hid (And.intro hB12 hb1)
  have x0 : ∀ u, Below w2.heap.size w2 u -> u.cell? ⟨w.heap.size, 0, none⟩ = some (.string p.id) := fun u hu => (hx2.below hu).cell 0; have x1 : ∀ u, Below w2.heap.size w2 u -> u.cell? ⟨w.heap.size, 1, none⟩ = some (.int .i64 p.kind) := fun u hu => (hx2.below hu).cell 1; have x2 : ∀ u, Below w2.heap.size w2 u -> u.cell? ⟨w.heap.size, 2, none⟩ = some (.int .i64 p.priority) := fun u hu => (hx2.below hu).cell 2; have x3 : ∀ u, Below w2.heap.size w2 u -> u.cell? ⟨w.heap.size, 3, none⟩ = some (.string p.group) := fun u hu => (hx2.below hu).cell 3; have x4 : ∀ u, Below w2.heap.size w2 u -> u.cell? ⟨w.heap.size, 4, none⟩ = some (.string p.code) := fun u hu => (hx2.below hu).cell 4; have x5 : ∀ u, Below w2.heap.size w2 u -> u.cell? ⟨w.heap.size, 5, none⟩ = some (.bool p.closes) := fun u hu => (hx2.below hu).cell 5; have x6 : ∀ u, Below w2.heap.size w2 u -> u.cell? ⟨w.heap.size, 6, none⟩ = some (.slice l.scope.skus.A l.scope.skus.n l.scope.skus.c) := fun u hu => (hx2.below hu).cell 6; have x7 : ∀ u, Below w2.heap.size w2 u -> u.cell? ⟨w.heap.size, 7, none⟩ = some (.slice l.scope.cats.A l.scope.cats.n l.scope.cats.c) := fun u hu => (hx2.below hu).cell 7; have x8 : ∀ u, Below w2.heap.size w2 u -> u.cell? ⟨w.heap.size, 8, none⟩ = some (.int .i64 p.least) := fun u hu => (hx2.below hu).cell 8; have x9 : ∀ u, Below w2.heap.size w2 u -> u.cell? ⟨w.heap.size, 9, none⟩ = some (.int .i64 p.rate) := fun u hu => (hx2.below hu).cell 9; have x10 : ∀ u, Below w2.heap.size w2 u -> u.cell? ⟨w.heap.size, 10, none⟩ = some (.int .i64 p.amount) := fun u hu => (hx2.below hu).cell 10; have x11 : ∀ u, Below w2.heap.size w2 u -> u.cell? ⟨w.heap.size, 11, none⟩ = some (.int .i64 p.buy) := fun u hu => (hx2.below hu).cell 11; have x12 : ∀ u, Below w2.heap.size w2 u -> u.cell? ⟨w.heap.size, 12, none⟩ = some (.int .i64 p.get) := fun u hu => (hx2.below hu).cell 12; have x13 : ∀ u, Below w2.heap.size w2 u -> u.cell? ⟨w.heap.size, 13, none⟩ = some (.slice l.parts.A l.parts.n l.parts.c) := fun u hu => (hx2.below hu).cell 13; have x14 : ∀ u, Below w2.heap.size w2 u -> u.cell? ⟨w.heap.size, 14, none⟩ = some (.slice l.tiers.A l.tiers.n l.tiers.c) := fun u hu => (hx2.below hu).cell 14
  have hn5 : n <= 100000 := by rw [<- h.len]; exact hum.few
  obtain ⟨M, hM1, hM2⟩ := made_full flag_t (.bool false) rfl false (fun w F => rfl) n (by omega) (by omega)
  have HU := Lib.hid (row_on h hB12)
  have HG := Lib.hid (row_on hg hB12)
  have HLu := Lib.hid h.len
  have HLm := Lib.hid hg.len
  have HS := Lib.hid hs
  have hM2 := Lib.hid hM2
  have HUM := Lib.hid hum
  have HX2 := Lib.hid hx2
  clear h hum hg hs hb1 hb2 hx hx2 hz2 hB12
  go_enter Tryz.func37, Tryz.ntmps37
  go_upto_region 1 with (fail)
  go_cut [7] from 10 to 15 (fun s7 wx => ∃ g mb : Nat, s7 = .pointer (some ⟨mb, 0, none⟩) /\ Hid (Kd.Own kFlag wx w2.heap.size 4 (fun _ => False) (.slice (some ⟨g, 0, none⟩) n n) n (List.replicate n false) /\ Qu.Blk wx mb 67 #[.string p.id, .int .i64 p.kind, .int .i64 p.priority, .string p.group, .string p.code, .bool p.closes, .slice l.scope.skus.A l.scope.skus.n l.scope.skus.c, .slice l.scope.cats.A l.scope.cats.n l.scope.cats.c, .int .i64 p.least, .int .i64 p.rate, .int .i64 p.amount, .int .i64 p.buy, .int .i64 p.get, .slice l.parts.A l.parts.n l.parts.c, .slice l.tiers.A l.tiers.n l.tiers.c, .slice A n c, .slice none 0 0, .slice (some ⟨g, 0, none⟩) n n] /\ Below w2.heap.size w2 wx /\ w2.heap.size <= mb))
  case first =>
    refine wp_region_held_drew (S := fun u => Below w2.heap.size w2 u) (by kernel_rfl) ((Below.refl _ _).drew) (fun hS0 => ?_)
    refine pkT 0 10 hS0 ?_
    try simp only [Act.put, pkA, pkB, pkC]
    refine pkT 1 11 hS0 ?_
    try simp only [Act.put, pkA, pkB, pkC]
    refine pkT 2 12 hS0 ?_
    try simp only [Act.put, pkA, pkB, pkC]
    refine pkT 3 13 hS0 ?_
    try simp only [Act.put, pkA, pkB, pkC]
    refine wpAnyH_ready (rs := [4, 6]) (by kernel_rfl) (by simp) ?_
    refine AllReadyH.cons (o := ⟨some 14, _, _, _, _, _⟩) rfl (fun K hK => ?_) ?_
    ·
      go_simp
      refine hK.out _ _ ((Below.alloc hS0 (Below.size hS0) _)) (fun hS1 => ?_)
      clear hK K
      try simp only [Act.put, pkA, pkB, pkC]
      refine pkT 5 15 hS1 ?_
      try simp only [Act.put, pkA, pkB, pkC]
      refine wpAnyH_ready (rs := [6]) (by kernel_rfl) (by simp) ?_
      refine AllReadyH.cons (o := ⟨some 7, _, _, _, _, _⟩) rfl (fun K hK => ?_) AllReadyH.nil
      refine step_new_making (o := ⟨some 7, _, _, _, _, _⟩) rfl rfl ?_
      intro w7 mb7 cs7 e7 hc7 hB7 hb7
      have he7 : w2.heap.size <= mb7 := (by rw [e7]; exact Below.size hS1)
      have He7 := Lib.hid e7
      clear e7
      refine hK.out _ _ ((Below.trans hS1 (hb7.mono (Below.size hS1)))) (fun hS2 => ?_)
      clear hK K
      try simp only [Act.put, pkA, pkB, pkC]
      refine wpAnyH_ready (rs := [7]) (by kernel_rfl) (by simp) ?_
      refine AllReadyH.cons (o := ⟨none, _, _, _, _, _⟩) rfl (fun K hK => ?_) AllReadyH.nil
      refine step_store_making (o := ⟨none, _, _, _, _, _⟩) (free := rfl) (x := .tmp 7) (y := .tmp 15) (is := rfl) (vx := rfl) (vy := rfl) (h := by first | exact hB7 | exact hB7.alloc _) (hc := hc7) (hv := rfl) (h1 := by simp [Value.oneCell']) (go := ?_)
      intro w8 hK8 hg8
      refine hK.out _ _ ((Below.grown hS2 hg8 (Below.size hS2) (fun i hi => by injection hi with hi; omega))) (fun hS3 => ?_)
      clear hK K
      refine wpAnyH_done (by kernel_rfl) ?_ _
      go_wp2_with fail
      go_meet
      first | exact ⟨_, _, rfl, made_a hM2.out he7 hB7 hb7 hK8 hg8⟩ | exact ⟨_, _, rfl, made_b hM2.out he7 hB7 hb7 hK8 hg8⟩
    refine AllReadyH.cons (o := ⟨some 7, _, _, _, _, _⟩) rfl (fun K hK => ?_) AllReadyH.nil
    refine step_new_making (o := ⟨some 7, _, _, _, _, _⟩) rfl rfl ?_
    intro w7 mb7 cs7 e7 hc7 hB7 hb7
    have he7 : w2.heap.size <= mb7 := (by rw [e7]; exact Below.size hS0)
    have He7 := Lib.hid e7
    clear e7
    refine hK.out _ _ ((Below.trans hS0 (hb7.mono (Below.size hS0)))) (fun hS1 => ?_)
    clear hK K
    try simp only [Act.put, pkA, pkB, pkC]
    refine wpAnyH_ready (rs := [4]) (by kernel_rfl) (by simp) ?_
    refine AllReadyH.cons (o := ⟨some 14, _, _, _, _, _⟩) rfl (fun K hK => ?_) AllReadyH.nil
    go_simp
    refine hK.out _ _ ((Below.alloc hS1 (Below.size hS1) _)) (fun hS2 => ?_)
    clear hK K
    try simp only [Act.put, pkA, pkB, pkC]
    refine pkT 5 15 hS2 ?_
    try simp only [Act.put, pkA, pkB, pkC]
    refine wpAnyH_ready (rs := [7]) (by kernel_rfl) (by simp) ?_
    refine AllReadyH.cons (o := ⟨none, _, _, _, _, _⟩) rfl (fun K hK => ?_) AllReadyH.nil
    refine step_store_making (o := ⟨none, _, _, _, _, _⟩) (free := rfl) (x := .tmp 7) (y := .tmp 15) (is := rfl) (vx := rfl) (vy := rfl) (h := by first | exact hB7 | exact hB7.alloc _) (hc := hc7) (hv := rfl) (h1 := by simp [Value.oneCell']) (go := ?_)
    intro w8 hK8 hg8
    refine hK.out _ _ ((Below.grown hS2 hg8 (Below.size hS2) (fun i hi => by injection hi with hi; omega))) (fun hS3 => ?_)
    clear hK K
    refine wpAnyH_done (by kernel_rfl) ?_ _
    go_wp2_with fail
    go_meet
    first | exact ⟨_, _, rfl, made_a hM2.out he7 hB7 hb7 hK8 hg8⟩ | exact ⟨_, _, rfl, made_b hM2.out he7 hB7 hb7 hK8 hg8⟩
  case rest =>
    obtain ⟨g, mb, rfl, HC⟩ := hcut
    clear x0 x1 x2 x3 x4 x5 x6 x7 x8 x9 x10 x11 x12 x13 x14 hM1 hM2 hw1 hw2
    have HM0 : Hid (Mst p l A n c us parts w2 wc mb g 0 (.slice none 0 0) []) := Lib.hid ⟨⟨rfl, fun i q r l h => by simp at h, fun i j q r q' r' _ h => by simp at h, by rw [List.length_replicate]; exact HC.out.1, Kd.Own.nil _ _ _ _ _, by rw [List.length_replicate]; exact hn5, fun l hl => by rw [List.take_zero] at hl; cases hl⟩, HC.out.2.1, HC.out.2.2.1, HC.out.2.2.2⟩
    go_wp2_with fail
    go_loopw [18] (fun s18 wx => ∃ (k : Nat) (wv : Value) (qs : List (Nat × Option Nat)), s18 = .int .i64 k /\ k <= m /\ Hid (Mst p l A n c us parts w2 wx mb g k wv qs)) (fun s18 _ => m - (intOf s18).toNat)
    case atStart => exact ⟨0, _, [], rfl, by omega, HM0⟩
    case round =>
      clear HM0 HC
      obtain ⟨k, wv, qs, rfl, hk, HO⟩ := hrel
      have kk : (0 : Int) <= (k : Int) := by omega
      by_cases hlt : k < m
      . obtain ⟨ms, hms⟩ := HG.out.get hlt
        obtain ⟨g3, o3, lm, hB3, hg3, _, hlm, a0⟩ := row_list HG.out hms
        subst hB3
        have d0 : wr.cell? ⟨g3, o3 + k, none⟩ = some (.slice lm.A lm.n lm.c) := (HO.out.below.cell (p := ⟨g3, _, none⟩) hg3).trans a0
        have hpm := HS.out ms (List.mem_of_getElem? hms)
        have hml : lm.n <= 100000 := by rw [<- hlm.row.len]; exact Nat.le_trans hpm.few HUM.out.few
        have hmi : PlacesIn n ms := by rw [<- HLu.out]; exact hpm.in_
        have HWt := Lib.hid (fun (W : World) (hb : Below wr.heap.size wr W) => waiting_any A n c us lm.A lm.n lm.c ms W (row_on (row_on HU.out HO.out.below) hb) (row_on (row_on hlm.row HO.out.below) hb) hml hmi)
        have hql : qs.length = k := by
          have := HO.out.mem.len
          unfold starts at this
          rw [List.length_map, List.length_take, HLm.out] at this
          omega
        have HLq := Lib.hid hql
        have HNx : Hid (parts[k]? = some ms /\ (dearL us ms).length <= 100000 /\ ∀ x ∈ dearL us ms, 0 <= x /\ x < (n : Int)) := Lib.hid ⟨hms, by rw [dearL_length, hlm.row.len]; exact hml, fun x hx => by
          obtain ⟨i, hi⟩ := List.mem_iff_getElem?.1 ((dearL_perm us ms).mem_iff.1 hx)
          exact hmi i x hi⟩
        obtain ⟨C, e5, hv5⟩ := HO.out.mem.wait.value
        rw [hql] at hv5
        subst hv5
        have HWv : Hid (Kd.Own kPtr wr w2.heap.size 91 (fun _ => False) (.slice C k e5) k (qs.map (·.1))) := Lib.hid (by have := HO.out.mem.wait; rw [hql] at this; exact this)
        have y16 := HO.out.blk.cell 16
        have k1 : (k : Int) < (m : Int) := by omega
        clear hms a0 hg3 hlm hpm hml hmi hql
        go_wp2_with fail
        refine wp_region_held_drew (S := fun u => Below w2.heap.size w2 u) (by kernel_rfl) (HO.out.below.drew) (fun hS0 => ?_)
        refine pkT 0 22 hS0 ?_
        try simp only [Act.put, pkA, pkB, pkC]
        refine pkT 2 24 hS0 ?_
        try simp only [Act.put, pkA, pkB, pkC]
        refine pkT 3 25 hS0 ?_
        try simp only [Act.put, pkA, pkB, pkC]
        refine wpAnyH_ready (rs := [1, 4]) (by kernel_rfl) (by simp) ?_
        refine AllReadyH.cons (o := ⟨some 23, _, _, _, _, _⟩) rfl (fun K hK => ?_) ?_
        ·
          go_simp
          refine hK.out _ _ (hS0) (fun hS1 => ?_)
          clear hK K
          try simp only [Act.put, pkA, pkB, pkC]
          refine wpAnyH_ready (rs := [4]) (by kernel_rfl) (by simp) ?_
          refine AllReadyH.cons (o := ⟨some 26, _, _, _, _, _⟩) rfl (fun K hK => ?_) AllReadyH.nil
          go_simp
          refine (HWt.out _ (by exact (Below.refl wr.heap.size wr).drew)).mono ?_
          rintro e wa ⟨q, r, rfl, hq9, hba⟩
          have hyr : Below wr.heap.size wr wa := (Below.refl wr.heap.size wr).drew.trans hba
          have hOa := HO.out.later hyr
          have ya := hOa.blk.cell 16
          have yb := (hOa.blk.alloc (.cells #[.pointer (some ⟨q, 0, none⟩)] 91)).cell 16
          have HIn := Lib.hid (isq_low hq9 (Nat.le_refl _))
          go_wp2_with fail
          refine hK.out _ _ (hOa.below) (fun hS2 => ?_)
          clear hK K
          try simp only [Act.put, pkA, pkB, pkC]
          refine wpAnyH_ready (rs := [5]) (by kernel_rfl) (by simp) ?_
          refine AllReadyH.cons (o := ⟨some 27, _, _, _, _, _⟩) rfl (fun K hK => ?_) AllReadyH.nil
          go_simp
          refine hK.out _ _ ((Below.alloc hS2 (Below.size hS2) _)) (fun hS3 => ?_)
          clear hK K
          try simp only [Act.put, pkA, pkB, pkC]
          refine wpAnyH_ready (rs := [6]) (by kernel_rfl) (by simp) ?_
          refine AllReadyH.cons (o := ⟨some 28, _, _, _, _, _⟩) rfl (fun K hK => ?_) AllReadyH.nil
          refine Kd.step_push (o := ⟨some 28, _, _, _, _, _⟩) (W := wa) (F := fun _ => False) (B := w2.heap.size) (n := k) (v := .slice C k e5) (xs := qs.map (·.1)) (y := q) (cs := [.pointer (some ⟨q, 0, none⟩)]) ptr_t rfl (.tmp 23) (.tmp 27) rfl rfl rfl rfl (HWv.out.later hyr) rfl (by omega) (by omega) hOa.below.size (fun _ h => h.elim) ?_
          intro g1 cap w9 hown hgrow hfr
          have HP := Lib.hid (hOa.push HO.out (x := .slice C k e5) HNx.out HLq.out HIn.out hyr.size hown hgrow)
          have y9 := HP.out.1.cell 16
          have f9 := HP.out.1.frozen 16
          clear hown hgrow hfr
          refine hK.out _ _ (HP.out.2.1) (fun hS4 => ?_)
          clear hK K
          try simp only [Act.put, pkA, pkB, pkC]
          refine pkT 7 29 hS4 ?_
          try simp only [Act.put, pkA, pkB, pkC]
          refine wpAnyH_ready (rs := [8]) (by kernel_rfl) (by simp) ?_
          refine AllReadyH.cons (o := ⟨none, _, _, _, _, _⟩) rfl (fun K hK => ?_) AllReadyH.nil
          go_simp
          refine hK.out _ _ (HP.out.2.2.2) (fun hS5 => ?_)
          clear hK K
          try simp only [Act.put, pkA, pkB, pkC]
          refine wpAnyH_done (by kernel_rfl) ?_ _
          go_wp2_with fail
          go_roundw
          case rel => exact ⟨k + 1, _, _, by go_num, by omega, Lib.hid HP.out.2.2.1⟩
          case measure => simp [intOf]; omega
        refine AllReadyH.cons (o := ⟨some 26, _, _, _, _, _⟩) rfl (fun K hK => ?_) AllReadyH.nil
        go_simp
        refine (HWt.out _ (by exact (Below.refl wr.heap.size wr).drew)).mono ?_
        rintro e wa ⟨q, r, rfl, hq9, hba⟩
        have hyr : Below wr.heap.size wr wa := (Below.refl wr.heap.size wr).drew.trans hba
        have hOa := HO.out.later hyr
        have ya := hOa.blk.cell 16
        have yb := (hOa.blk.alloc (.cells #[.pointer (some ⟨q, 0, none⟩)] 91)).cell 16
        have HIn := Lib.hid (isq_low hq9 (Nat.le_refl _))
        go_wp2_with fail
        refine hK.out _ _ (hOa.below) (fun hS1 => ?_)
        clear hK K
        try simp only [Act.put, pkA, pkB, pkC]
        refine wpAnyH_ready (rs := [1, 5]) (by kernel_rfl) (by simp) ?_
        refine AllReadyH.cons (o := ⟨some 23, _, _, _, _, _⟩) rfl (fun K hK => ?_) ?_
        ·
          go_simp
          refine hK.out _ _ (hS1) (fun hS2 => ?_)
          clear hK K
          try simp only [Act.put, pkA, pkB, pkC]
          refine wpAnyH_ready (rs := [5]) (by kernel_rfl) (by simp) ?_
          refine AllReadyH.cons (o := ⟨some 27, _, _, _, _, _⟩) rfl (fun K hK => ?_) AllReadyH.nil
          go_simp
          refine hK.out _ _ ((Below.alloc hS2 (Below.size hS2) _)) (fun hS3 => ?_)
          clear hK K
          try simp only [Act.put, pkA, pkB, pkC]
          refine wpAnyH_ready (rs := [6]) (by kernel_rfl) (by simp) ?_
          refine AllReadyH.cons (o := ⟨some 28, _, _, _, _, _⟩) rfl (fun K hK => ?_) AllReadyH.nil
          refine Kd.step_push (o := ⟨some 28, _, _, _, _, _⟩) (W := wa) (F := fun _ => False) (B := w2.heap.size) (n := k) (v := .slice C k e5) (xs := qs.map (·.1)) (y := q) (cs := [.pointer (some ⟨q, 0, none⟩)]) ptr_t rfl (.tmp 23) (.tmp 27) rfl rfl rfl rfl (HWv.out.later hyr) rfl (by omega) (by omega) hOa.below.size (fun _ h => h.elim) ?_
          intro g1 cap w9 hown hgrow hfr
          have HP := Lib.hid (hOa.push HO.out (x := .slice C k e5) HNx.out HLq.out HIn.out hyr.size hown hgrow)
          have y9 := HP.out.1.cell 16
          have f9 := HP.out.1.frozen 16
          clear hown hgrow hfr
          refine hK.out _ _ (HP.out.2.1) (fun hS4 => ?_)
          clear hK K
          try simp only [Act.put, pkA, pkB, pkC]
          refine pkT 7 29 hS4 ?_
          try simp only [Act.put, pkA, pkB, pkC]
          refine wpAnyH_ready (rs := [8]) (by kernel_rfl) (by simp) ?_
          refine AllReadyH.cons (o := ⟨none, _, _, _, _, _⟩) rfl (fun K hK => ?_) AllReadyH.nil
          go_simp
          refine hK.out _ _ (HP.out.2.2.2) (fun hS5 => ?_)
          clear hK K
          try simp only [Act.put, pkA, pkB, pkC]
          refine wpAnyH_done (by kernel_rfl) ?_ _
          go_wp2_with fail
          go_roundw
          case rel => exact ⟨k + 1, _, _, by go_num, by omega, Lib.hid HP.out.2.2.1⟩
          case measure => simp [intOf]; omega
        refine AllReadyH.cons (o := ⟨some 27, _, _, _, _, _⟩) rfl (fun K hK => ?_) AllReadyH.nil
        go_simp
        refine hK.out _ _ ((Below.alloc hS1 (Below.size hS1) _)) (fun hS2 => ?_)
        clear hK K
        try simp only [Act.put, pkA, pkB, pkC]
        refine wpAnyH_ready (rs := [1]) (by kernel_rfl) (by simp) ?_
        refine AllReadyH.cons (o := ⟨some 23, _, _, _, _, _⟩) rfl (fun K hK => ?_) AllReadyH.nil
        go_simp
        refine hK.out _ _ (hS2) (fun hS3 => ?_)
        clear hK K
        try simp only [Act.put, pkA, pkB, pkC]
        refine wpAnyH_ready (rs := [6]) (by kernel_rfl) (by simp) ?_
        refine AllReadyH.cons (o := ⟨some 28, _, _, _, _, _⟩) rfl (fun K hK => ?_) AllReadyH.nil
        refine Kd.step_push (o := ⟨some 28, _, _, _, _, _⟩) (W := wa) (F := fun _ => False) (B := w2.heap.size) (n := k) (v := .slice C k e5) (xs := qs.map (·.1)) (y := q) (cs := [.pointer (some ⟨q, 0, none⟩)]) ptr_t rfl (.tmp 23) (.tmp 27) rfl rfl rfl rfl (HWv.out.later hyr) rfl (by omega) (by omega) hOa.below.size (fun _ h => h.elim) ?_
        intro g1 cap w9 hown hgrow hfr
        have HP := Lib.hid (hOa.push HO.out (x := .slice C k e5) HNx.out HLq.out HIn.out hyr.size hown hgrow)
        have y9 := HP.out.1.cell 16
        have f9 := HP.out.1.frozen 16
        clear hown hgrow hfr
        refine hK.out _ _ (HP.out.2.1) (fun hS4 => ?_)
        clear hK K
        try simp only [Act.put, pkA, pkB, pkC]
        refine pkT 7 29 hS4 ?_
        try simp only [Act.put, pkA, pkB, pkC]
        refine wpAnyH_ready (rs := [8]) (by kernel_rfl) (by simp) ?_
        refine AllReadyH.cons (o := ⟨none, _, _, _, _, _⟩) rfl (fun K hK => ?_) AllReadyH.nil
        go_simp
        refine hK.out _ _ (HP.out.2.2.2) (fun hS5 => ?_)
        clear hK K
        try simp only [Act.put, pkA, pkB, pkC]
        refine wpAnyH_done (by kernel_rfl) ?_ _
        go_wp2_with fail
        go_roundw
        case rel => exact ⟨k + 1, _, _, by go_num, by omega, Lib.hid HP.out.2.2.1⟩
        case measure => simp [intOf]; omega
      . have k1 : ¬ (k : Int) < (m : Int) := by omega
        obtain rfl : k = m := by omega
        have hfull : parts.take k = parts := List.take_of_length_le (by rw [HLm.out]; exact Nat.le_refl _)
        have hql : qs.length = k := by
          have := HO.out.mem.len
          unfold starts at this
          rw [List.length_map, List.length_take, HLm.out] at this
          omega
        obtain ⟨C, e5, hv5⟩ := HO.out.mem.wait.value
        rw [hql] at hv5
        subst hv5
        have hmem := HO.out.mem
        rw [hfull] at hmem
        have hmb := HO.out.blk
        have hz := HZ2.out.below HO.out.below
        have hlo := HB12.out.2.size
        obtain ⟨CV, hCV⟩ : ∃ CV : Array Value, #[.string p.id, .int .i64 p.kind, .int .i64 p.priority, .string p.group, .string p.code, .bool p.closes, .slice l.scope.skus.A l.scope.skus.n l.scope.skus.c, .slice l.scope.cats.A l.scope.cats.n l.scope.cats.c, .int .i64 p.least, .int .i64 p.rate, .int .i64 p.amount, .int .i64 p.buy, .int .i64 p.get, .slice l.parts.A l.parts.n l.parts.c, .slice l.tiers.A l.tiers.n l.tiers.c, .slice A n c, .slice C k e5, .slice (some ⟨g, 0, none⟩) n n] = CV := ⟨_, rfl⟩
        obtain ⟨CZ, hCZ⟩ : ∃ CZ : Array Value, #[.string ⟨#[]⟩, .int .i64 0, .int .i64 0, .string ⟨#[]⟩, .string ⟨#[]⟩, .bool false, .slice none 0 0, .slice none 0 0, .int .i64 0, .int .i64 0, .int .i64 0, .int .i64 0, .int .i64 0, .slice none 0 0, .slice none 0 0, .slice none 0 0, .slice none 0 0, .slice none 0 0] = CZ := ⟨_, rfl⟩
        have hs1 : CV.size = 18 := by rw [<- hCV]; rfl
        have hs2 : CV.all (·.oneCell') = true := by rw [<- hCV]; simp [Value.oneCell']
        have hs3 : CZ.size = 18 := by rw [<- hCZ]; rfl
        rw [hCV] at hmb
        rw [hCZ] at hz
        have HMb := Lib.hid hmb
        have HZb := Lib.hid hz
        have HE : Hid (∀ W9, wr.grownBy W9 (some w1.heap.size) -> Made (.returned (.agg CV)) w W9 p l A n c us parts) := Lib.hid fun W9 hgr => by
          rw [<- hCV]
          refine ⟨w2.heap.size, _, _, qs, rfl, ?_, HB12.out.1.size, ?_, ?_⟩
          . have := hmem.aside hz making_quiet.1 making_quiet.2 hgr
            rw [<- HLu.out] at this ⊢
            exact this
          . exact Nat.le_trans HO.out.below.size hgr.size
          . refine (HB12.out.1.trans (HO.out.below.mono HB12.out.1.size)).grown hgr ?_ ?_
            . have := HO.out.below.size; have := HB12.out.1.size; omega
            . intro i hi; injection hi with hi; omega
        have HS1 := Lib.hid hs1
        have HS2 := Lib.hid hs2
        have HS3 := Lib.hid hs3
        clear hmem hmb hz hfull hlo hql hCV hCZ hs1 hs2 hs3
        go_wp2_with (first
          | ((with_reducible refine load_making (w := wr) (op := ⟨some 31, _, _, _, _, _⟩) ?_ (.tmp 7) ?_ _ ?_ _ HMb.out HS1.out ?_); (next => rfl); (next => rfl); (next => rfl))
          | ((with_reducible refine store_making (w := wr) (op := ⟨none, _, _, _, _, _⟩) ?_ (.tmp 6) (.tmp 31) ?_ _ ?_ CV ?_ _ HZb.out HS3.out HS1.out HS2.out ?_); (next => rfl); (next => rfl); (next => rfl); (next => rfl); intro w9 hK9 hg9))
        refine bodyPost_ret (results_making rfl _ _ w1.heap.size _ rfl hK9 HS1.out rfl) rfl ?_
        exact HE.out w9 hg9
end Go.Proofs.YtljmddjlnlmenaaGreat.Dl
