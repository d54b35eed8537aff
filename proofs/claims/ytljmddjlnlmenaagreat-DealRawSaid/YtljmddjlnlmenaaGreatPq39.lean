/- Deals: two rows that grow beside each other: what the document's Bundle holds in memory while it notes a bundle. · Deals .. -/
import Derived.Test.YtljmddjlnlmenaaGreatPq27
import Derived.Test.YtljmddjlnlmenaaGreatPq36
import Derived.Test.YtljmddjlnlmenaaGreatPq38
set_option maxRecDepth 100000
set_option linter.unusedVariables false

section
namespace Go.Proofs.YtljmddjlnlmenaaGreat.Dl
open Go.ChangeShapes Go.WideShapes Go.ChangeAt Go.RowKit
open Kd (Kind Row RowT kInt kFlag row_int)
open Ko (Out Told row_on)
open Ct (i64_t)
structure Two (w4 u : World) (b Lg : List Int) (gb gx : Nat) (v11 : Value) (n : Nat) (hh : List Bool) (v12 v13 : Value) (L12 L13 : List Int) (m1 m2 : Option (Nat × Int)) : Prop where
  all : Out kInt 3 w4 u v12 L12
  offs : Out kInt 2 w4 u v13 L13
  used : Kd.Own kFlag u w4.heap.size 4 (fun _ => False) v11 n hh
  cb : ∀ (j : Nat) (x : Int), b[j]? = some x -> u.cell? ⟨gb, j, none⟩ = some (.int .i64 x)
  cx : ∀ (j : Nat) (x : Int), Lg[j]? = some x -> u.cell? ⟨gx, j, none⟩ = some (.int .i64 x)
  r1 : ∀ (g : Nat) (x : Int), m1 = some (g, x) -> Qu.Blk u g 3 #[.int .i64 x] /\ v12.ownBlock ≠ some g
  r2 : ∀ (g : Nat) (x : Int), m2 = some (g, x) -> Qu.Blk u g 2 #[.int .i64 x] /\ v13.ownBlock ≠ some g
  n12 : v12.ownBlock ≠ some gb
  n13 : v13.ownBlock ≠ some gx
  gbk : ∃ cs, Qu.Blk u gb 3 cs
  gxl : gx < u.heap.size
  x12 : v12.ownBlock ≠ some gx
  x11 : v11.ownBlock ≠ some gx
section
variable {w4 u u' : World} {b Lg : List Int} {gb gx n : Nat} {v11 v12 v13 v' : Value} {hh : List Bool} {L12 L13 : List Int} {m1 m2 : Option (Nat × Int)} {x : Int}
theorem Two.later (h : Two w4 u b Lg gb gx v11 n hh v12 v13 L12 L13 m1 m2) (hb : Below u.heap.size u u') : Two w4 u' b Lg gb gx v11 n hh v12 v13 L12 L13 m1 m2 := by
  obtain ⟨c1, k1⟩ := h.gbk
  exact ⟨h.all.later hb, h.offs.later hb, h.used.later hb, fun j x hj => (hb.cell (p := ⟨gb, _, none⟩) k1.lt).trans (h.cb j x hj), fun j x hj => (hb.cell (p := ⟨gx, _, none⟩) h.gxl).trans (h.cx j x hj),
    fun g x e => ⟨(h.r1 g x e).1.below hb, (h.r1 g x e).2⟩, fun g x e => ⟨(h.r2 g x e).1.below hb, (h.r2 g x e).2⟩, h.n12, h.n13, ⟨c1, k1.below hb⟩, Nat.lt_of_lt_of_le h.gxl hb.size, h.x12, h.x11⟩
theorem Two.new1 (h : Two w4 u b Lg gb gx v11 n hh v12 v13 L12 L13 none m2) (x : Int) : Two w4 (u.alloc (.cells #[.int .i64 x] 3)) b Lg gb gx v11 n hh v12 v13 L12 L13 (some (u.heap.size, x)) m2 := by
  have hb : Below u.heap.size u (u.alloc (.cells #[.int .i64 x] 3)) := (Below.refl _ _).alloc (Nat.le_refl _) _
  have h2 := h.later hb
  refine ⟨h2.all, h2.offs, h2.used, h2.cb, h2.cx, fun g y e => ?_, h2.r2, h2.n12, h2.n13, h2.gbk, h2.gxl, h2.x12, h2.x11⟩
  injection e with e
  injection e with e1 e2
  subst e1 e2
  exact ⟨Qu.Blk.new u _ _, fun e => by have := (h.all.own.low _ e).2; omega⟩
theorem Two.new2 (h : Two w4 u b Lg gb gx v11 n hh v12 v13 L12 L13 m1 none) (x : Int) : Two w4 (u.alloc (.cells #[.int .i64 x] 2)) b Lg gb gx v11 n hh v12 v13 L12 L13 m1 (some (u.heap.size, x)) := by
  have hb : Below u.heap.size u (u.alloc (.cells #[.int .i64 x] 2)) := (Below.refl _ _).alloc (Nat.le_refl _) _
  have h2 := h.later hb
  refine ⟨h2.all, h2.offs, h2.used, h2.cb, h2.cx, h2.r1, fun g y e => ?_, h2.n12, h2.n13, h2.gbk, h2.gxl, h2.x12, h2.x11⟩
  injection e with e
  injection e with e1 e2
  subst e1 e2
  exact ⟨Qu.Blk.new u _ _, fun e => by have := (h.offs.own.low _ e).2; omega⟩
theorem kinds_ne {α : Type} {K : Kind α} {B E m g t : Nat} {v : Value} {xs : List α} {cs : Array Value} (h : Kd.Own K u B E (fun _ => False) v m xs) (hb : Qu.Blk u g t cs) (hne : E ≠ t) : some g ≠ v.ownBlock := by
  obtain ⟨_, cs2, ho, _⟩ := h
  exact Qu.own_blk_ne ho hb hne
theorem row_news {g t : Nat} (h : Qu.Blk u g t #[.int .i64 x]) (hx : -9223372036854775808 <= x /\ x <= 9223372036854775807) : Row kInt u (· < u.heap.size) (some ⟨g, 0, none⟩) 1 [x] :=
  Kd.row_blk (cs := [.int .i64 x]) h ⟨[.int .i64 x], [], rfl, ⟨rfl, hx⟩, rfl⟩ rfl h.lt
theorem row_news_at {g g' t : Nat} (h : Qu.Blk u g t #[.int .i64 x]) (e : g = g') (hx : -9223372036854775808 <= x /\ x <= 9223372036854775807) : Row kInt u (· < u.heap.size) (some ⟨g', 0, none⟩) 1 [x] := by
  subst e
  exact row_news h hx
theorem Two.push1 {g L : Nat} {u3 : World} (h : Two w4 u b Lg gb gx v11 n hh v12 v13 L12 L13 (some (g, x)) m2) (e : L12.length = L) (hown : Kd.Own kInt u3 w4.heap.size 3 (fun _ => False) v' (L + 1) (L12 ++ [x])) (hg : u.grownBy u3 v12.ownBlock) (hf : Mv.Fresh u v12.ownBlock v'.ownBlock) : Two w4 u3 b Lg gb gx v11 n hh v' v13 (L12 ++ [x]) L13 none m2 := by
  obtain ⟨c1, k1⟩ := h.gbk
  have hall := h.all.push e hown hg
  have n1 : some gb ≠ v12.ownBlock := fun e => h.n12 e.symm
  have n2 : some gx ≠ v12.ownBlock := fun e => h.x12 e.symm
  refine ⟨hall, ⟨own_beside h.offs.own h.all.own (by decide) hg, hall.below⟩, own_beside h.used h.all.own (by decide) hg, fun j y hj => (World.cell?_of_block (hg.block gb k1.lt n1)).trans (h.cb j y hj), fun j y hj => (World.cell?_of_block (hg.block gx h.gxl n2)).trans (h.cx j y hj), fun _ _ e => (by cases e), fun g2 y e2 => ?_, ?_, h.n13, ⟨c1, k1.grown hg n1⟩, Nat.lt_of_lt_of_le h.gxl hg.size, ?_, h.x11⟩
  . obtain ⟨a1, a2⟩ := h.r2 g2 y e2
    exact ⟨a1.grown hg (kinds_ne h.all.own a1 (by decide)), a2⟩
  . intro e3
    rcases hf with h1 | ⟨k, h1, h2⟩
    . rw [h1] at e3; exact h.n12 e3
    . rw [h1] at e3
      injection e3 with e3
      have := k1.lt
      omega
  . intro e3
    rcases hf with h1 | ⟨k, h1, h2⟩
    . rw [h1] at e3; exact h.x12 e3
    . rw [h1] at e3
      injection e3 with e3
      have := h.gxl
      omega
theorem Two.push2 {g L : Nat} {u3 : World} (h : Two w4 u b Lg gb gx v11 n hh v12 v13 L12 L13 m1 (some (g, x))) (e : L13.length = L) (hown : Kd.Own kInt u3 w4.heap.size 2 (fun _ => False) v' (L + 1) (L13 ++ [x])) (hg : u.grownBy u3 v13.ownBlock) (hf : Mv.Fresh u v13.ownBlock v'.ownBlock) : Two w4 u3 b Lg gb gx v11 n hh v12 v' L12 (L13 ++ [x]) m1 none := by
  obtain ⟨c1, k1⟩ := h.gbk
  have hoff := h.offs.push e hown hg
  have n1 := kinds_ne h.offs.own k1 (by decide)
  have n2 : some gx ≠ v13.ownBlock := fun e => h.n13 e.symm
  refine ⟨⟨own_beside h.all.own h.offs.own (by decide) hg, hoff.below⟩, hoff, own_beside h.used h.offs.own (by decide) hg, fun j y hj => (World.cell?_of_block (hg.block gb k1.lt n1)).trans (h.cb j y hj), fun j y hj => (World.cell?_of_block (hg.block gx h.gxl n2)).trans (h.cx j y hj), fun g2 y e2 => ?_, fun _ _ e => (by cases e), h.n12, ?_, ⟨c1, k1.grown hg n1⟩, Nat.lt_of_lt_of_le h.gxl hg.size, h.x12, h.x11⟩
  . obtain ⟨a1, a2⟩ := h.r1 g2 y e2
    exact ⟨a1.grown hg (kinds_ne h.offs.own a1 (by decide)), a2⟩
  . intro e3
    rcases hf with h1 | ⟨k, h1, h2⟩
    . rw [h1] at e3; exact h.n13 e3
    . rw [h1] at e3
      injection e3 with e3
      have := h.gxl
      omega
theorem Two.flag {g c t : Nat} (h : Two w4 u b Lg gb gx (.slice (some ⟨g, 0, none⟩) n c) n hh v12 v13 L12 L13 none none) (ht : t < n) : Two w4 (u.setCell ⟨g, t, none⟩ (.bool true)) b Lg gb gx (.slice (some ⟨g, 0, none⟩) n c) n (take1 hh (t : Int)) v12 v13 L12 L13 none none := by
  obtain ⟨c1, k1⟩ := h.gbk
  obtain ⟨hset, hlow⟩ := flag_set h.used ht
  have hg := Qu.turned_at u g t (.bool true)
  have hb : Below w4.heap.size w4 (u.setCell ⟨g, t, none⟩ (.bool true)) := h.all.below.setCell hlow (.bool true)
  have n1 : some gb ≠ some g := kinds_ne h.used k1 (by decide)
  have n2 : some gx ≠ some g := fun e => h.x11 e.symm
  exact ⟨⟨own_beside h.all.own h.used (by decide) hg, hb⟩, ⟨own_beside h.offs.own h.used (by decide) hg, hb⟩, hset, fun j y hj => (World.cell?_of_block (hg.block gb k1.lt n1)).trans (h.cb j y hj), fun j y hj => (World.cell?_of_block (hg.block gx h.gxl n2)).trans (h.cx j y hj), fun _ _ e => (by cases e), fun _ _ e => (by cases e), h.n12, h.n13, ⟨c1, k1.grown hg n1⟩, Nat.lt_of_lt_of_le h.gxl hg.size, h.x12, h.x11⟩
def Keeps2 (u : World) (gb gx k : Nat) (x z : Int) : Prop := u.cell? ⟨gb, k, none⟩ = some (.int .i64 x) /\ u.cell? ⟨gx, k, none⟩ = some (.int .i64 z)
theorem Two.keeps {k : Nat} {z : Int} (h : Two w4 u b Lg gb gx v11 n hh v12 v13 L12 L13 m1 m2) (hb : b[k]? = some x) (hz : Lg[k]? = some z) : Keeps2 u gb gx k x z := ⟨h.cb k x hb, h.cx k z hz⟩
theorem gaveN_form {e : Ending} {w w' : World} {xs : List Int} {z : Int} (h : Sh.GaveN e w w' (xs, z)) : ∃ g c, e = .returned (.tuple #[.slice (some ⟨g, 0, none⟩) xs.length c, .int .i64 z]) /\ w.heap.size <= g /\ Hl.Ints w' w'.heap.size (some ⟨g, 0, none⟩) xs.length (Sh.nth xs) /\ Below w.heap.size w w' := by
  obtain ⟨⟨A, c, e1, hi, hb⟩, m, c2, e2⟩ := h
  subst e1
  injection e2 with e2
  injection e2 with e2
  have e3 : A = some ⟨w.heap.size, 0, none⟩ := by
    have := congrArg (fun a : Array Value => a[0]?) e2
    simp at this
    exact this.1
  subst e3
  exact ⟨w.heap.size, c, rfl, Nat.le_refl _, hi, hb⟩
end
theorem one_next {p : Ap.Prm} {us : List Ap.Unt} {Ss : List (List Int)} {h : List Bool} (ha : 0 <= p.amount) :
    (nextB p us Ss h = none -> Ct.sumL (Ct.netsL us (oneL p Ss h)) <= p.amount) /\ ∀ b Ss' h', nextB p us Ss h = some (b, Ss', h') -> oneL p Ss h = b := by
  unfold nextB oneL
  cases e : pickAll (counts p) Ss h with
  | none => exact ⟨fun _ => ha, fun b Ss' h' e => by cases e⟩
  | some r =>
    obtain ⟨a, S1, h1⟩ := r
    dsimp only
    split
    . rename_i hle
      exact ⟨fun _ => hle, fun b Ss' h' e => by cases e⟩
    . refine ⟨fun e => (by cases e), fun b Ss' h' e => ?_⟩
      injection e with e
      injection e with e1 _
theorem one_may {p : Ap.Prm} {us : List Ap.Unt} {Ss : List (List Int)} {h : List Bool} (hg : ∀ l ∈ Ss, ∀ m ∈ l, 0 <= m /\ ∃ u, us[m.toNat]? = some u /\ u.opn = true) : Ct.PlacesMay us (oneL p Ss h) := by
  unfold oneL
  cases e : pickAll (counts p) Ss h with
  | none => exact ⟨fun i m hm => by simp at hm, fun i a b hm => by simp at hm⟩
  | some r =>
    obtain ⟨a, S1, h1⟩ := r
    dsimp only
    obtain ⟨g1, g2, _, _⟩ := pickAll_got e
    exact srt_may ⟨fun m hm => by obtain ⟨l, hl, hm⟩ := g2 m hm; exact hg l hl m hm, g1.apart⟩
theorem leftN_le : ∀ h : List Bool, leftN h <= h.length
  | [] => Nat.le_refl _
  | b :: h => by
    have := leftN_le h
    simp only [leftN, List.length_cons]
    split <;> omega
theorem one_in {p : Ap.Prm} {Ss : List (List Int)} {h : List Bool} {q : Nat} (hin : ∀ S ∈ Ss, ∀ x ∈ S, 0 <= x /\ x < (q : Int)) : Ct.PlacesIn q (oneL p Ss h) /\ (oneL p Ss h).length <= h.length := by
  unfold oneL
  cases e : pickAll (counts p) Ss h with
  | none => exact ⟨fun i m hm => by simp at hm, Nat.zero_le _⟩
  | some r =>
    obtain ⟨a, S1, h1⟩ := r
    dsimp only
    obtain ⟨g1, g2, _, _⟩ := pickAll_got e
    refine ⟨fun i m hm => ?_, ?_⟩
    . obtain ⟨S, hS, hmS⟩ := g2 m ((srt_perm a).mem_iff.1 (List.mem_of_getElem? hm))
      exact hin S hS m hmS
    . rw [srt_length]
      have := g1.left
      have := leftN_le h
      omega
theorem takeAll_next {h : List Bool} {b : List Int} {k : Nat} {x : Int} (hx : b[k]? = some x) : (b.take (k + 1)).foldl take1 h = take1 ((b.take k).foldl take1 h) x := by
  rw [Ct.take_next hx, List.foldl_append]; rfl
theorem takeAll_length (h : List Bool) : ∀ b : List Int, (b.foldl take1 h).length = h.length := fun b => by
  induction b generalizing h with
  | nil => rfl
  | cons x b ih => rw [List.foldl_cons, ih, take1_length]
theorem takeAll_iff (x : Int) : ∀ (b : List Int) (h : List Bool), hadAt (b.foldl take1 h) x = true ↔ hadAt h x = true \/ ∃ m ∈ b, m.toNat = x.toNat
  | [], h => ⟨.inl, fun h => h.elim id fun ⟨_, h, _⟩ => by cases h⟩
  | m :: b, h => by
    rw [List.foldl_cons, takeAll_iff x b, take1_iff]
    constructor
    . rintro ((h1 | h1) | ⟨y, hy, h1⟩)
      . exact .inl h1
      . exact .inr ⟨m, List.mem_cons_self, h1⟩
      . exact .inr ⟨y, List.mem_cons_of_mem _ hy, h1⟩
    . rintro (h1 | ⟨y, hy, h1⟩)
      . exact .inl (.inl h1)
      . rcases List.mem_cons.1 hy with rfl | hy
        . exact .inl (.inr h1)
        . exact .inr ⟨y, hy, h1⟩
theorem takeAll_got {h h' : List Bool} {b : List Int} (g : Got h h' b) : b.foldl take1 h = h' :=
  same_had (by rw [takeAll_length, g.len]) fun x => by rw [takeAll_iff, g.now]
end Go.Proofs.YtljmddjlnlmenaaGreat.Dl

end

section
namespace Go.Proofs.YtljmddjlnlmenaaGreat.Dl
open Go.ChangeShapes Go.WideShapes Go.ChangeAt Go.RowKit
open Ap (Unt Tir Prm Prt kUnt kTir kPrt row_Unt row_Tir row_Prt)
open Kd (Kind Row RowT kInt kFlag kList Lst row_int row_list)
open Ko (Out Told Told2 At row_on)
open Ct (nth nth_some netAt netsL sumL UnitsMay PlacesMay May mayB mayB_iff Far take_next lessU SumOk PlacesIn i64_t own_down told2_of)
set_option maxHeartbeats 1000000 in
theorem rbundle_bad (p : Prm) (l : Prm.Lay) (A : Option Addr) (n c : Nat) (us : List Unt) (B : Option Addr) (m d : Nat) (parts : List (List Int)) (w : World) (hPr : ∀ W, Below w.heap.size w W -> Calls Tryz.prog 31 #[.agg #[.string p.id, .int .i64 p.kind, .int .i64 p.priority, .string p.group, .string p.code, .bool p.closes, .slice l.scope.skus.A l.scope.skus.n l.scope.skus.c, .slice l.scope.cats.A l.scope.cats.n l.scope.cats.c, .int .i64 p.least, .int .i64 p.rate, .int .i64 p.amount, .int .i64 p.buy, .int .i64 p.get, .slice l.parts.A l.parts.n l.parts.c, .slice l.tiers.A l.tiers.n l.tiers.c]] W fun e w' => e = .returned (.bool (Pr.promoB p)) /\ Below W.heap.size W w') (hpn : l.parts.n = p.parts.length) (h : Row kUnt w (· < w.heap.size) A n us) (hf : Kd.Fit A n c) (hg : Row (kList kInt) w (· < w.heap.size) B m parts) (hn : n <= 1000000000000) (hm : m <= 1000000000000) (hs : ∀ x ∈ parts, x.length <= 1000000000000) (hb : Pr.promoB p = false) :
    Calls Tryz.prog 14 #[.agg #[.string p.id, .int .i64 p.kind, .int .i64 p.priority, .string p.group, .string p.code, .bool p.closes, .slice l.scope.skus.A l.scope.skus.n l.scope.skus.c, .slice l.scope.cats.A l.scope.cats.n l.scope.cats.c, .int .i64 p.least, .int .i64 p.rate, .int .i64 p.amount, .int .i64 p.buy, .int .i64 p.get, .slice l.parts.A l.parts.n l.parts.c, .slice l.tiers.A l.tiers.n l.tiers.c], .slice A n c, .slice B m d] w fun e w' => Ko.Told2 kUnt 35 w e w' (bundleU p us parts).1 (bundleU p us parts).2 := by
  have HAp : Hid (bundleU p us parts = (us, 0)) := Lib.hid (by unfold bundleU bundleB; rw [hb]; rfl)
  rw [hb] at hPr
  obtain ⟨w1, hw1⟩ : ∃ w1, w.alloc (.cells #[.string p.id, .int .i64 p.kind, .int .i64 p.priority, .string p.group, .string p.code, .bool p.closes, .slice l.scope.skus.A l.scope.skus.n l.scope.skus.c, .slice l.scope.cats.A l.scope.cats.n l.scope.cats.c, .int .i64 p.least, .int .i64 p.rate, .int .i64 p.amount, .int .i64 p.buy, .int .i64 p.get, .slice l.parts.A l.parts.n l.parts.c, .slice l.tiers.A l.tiers.n l.tiers.c] 28) = w1 := ⟨_, rfl⟩
  have hb1 : Below w.heap.size w w1 := by rw [<- hw1]; exact (Below.refl _ _).alloc (Nat.le_refl _) _
  have hx : Qu.Blk w1 w.heap.size 28 #[.string p.id, .int .i64 p.kind, .int .i64 p.priority, .string p.group, .string p.code, .bool p.closes, .slice l.scope.skus.A l.scope.skus.n l.scope.skus.c, .slice l.scope.cats.A l.scope.cats.n l.scope.cats.c, .int .i64 p.least, .int .i64 p.rate, .int .i64 p.amount, .int .i64 p.buy, .int .i64 p.get, .slice l.parts.A l.parts.n l.parts.c, .slice l.tiers.A l.tiers.n l.tiers.c] := by rw [<- hw1]; exact Qu.Blk.new w _ _
  have HK := Lib.hid (And.intro hb1 (fun u (hu : Below w1.heap.size w1 u) => hx.below hu))
  have HR := Lib.hid (fun W (hb : Below w1.heap.size w1 W) => hPr W (hb1.trans (hb.mono hb1.size)))
  have HU := Lib.hid (row_on h hb1)
  have HFi := Lib.hid hf
  clear hPr h hf hg hm hb hb1 hx hs hpn
  go_enter Tryz.func14, Tryz.ntmps14
  go_wp2_with (first
    | (go_at_call 31; with_reducible refine (HR.out w5 HO5.out.2).mono ?_; rintro e w3 ⟨rfl, hb53⟩; clear y0 y1 y2 y3 y4 y5 y6 y7 y8 y9 y10 y11 y12 y13 y14; have hb3 := HO5.out.2.trans (hb53.mono HO5.out.2.size); have HO3 := Lib.hid (And.intro hb3 (HO5.out.1.later hb53)); clear hb3 hb53)
    | (at_builtin; refine Kd.wpList_join (o := ⟨some 20, _, _, _, _, _⟩) (F := fun _ => False) (G := (· < w1.heap.size)) (B := w1.heap.size) (n := 0) (m := n) (c := c) (v := .slice none 0 0) (xs := []) (ys := us) (A := A) Ap.Unt.row_t rfl _ _ rfl rfl rfl (Kd.Own.nil _ _ _ _ _) HU.out HFi.out.1 (fun h => Ap.Unt_rep.2 (Ap.Unt_rep.1 h)) (by omega) (by omega) (Nat.le_refl _) (fun _ h => h.elim) ?_; intro v5 w5 hown hgrow hfr; rw [Nat.zero_add, List.nil_append] at hown; have hb5 : Below w1.heap.size w1 w5 := (Below.refl _ _).grown hgrow (Nat.le_refl _) (fun q hq => by cases hq); obtain ⟨A5, c5, e5⟩ := hown.value; subst e5; have HO5 := Lib.hid (And.intro hown hb5); have hz5 := HK.out.2 w5 hb5; have y0 := hz5.cell 0; have y1 := hz5.cell 1; have y2 := hz5.cell 2; have y3 := hz5.cell 3; have y4 := hz5.cell 4; have y5 := hz5.cell 5; have y6 := hz5.cell 6; have y7 := hz5.cell 7; have y8 := hz5.cell 8; have y9 := hz5.cell 9; have y10 := hz5.cell 10; have y11 := hz5.cell 11; have y12 := hz5.cell 12; have y13 := hz5.cell 13; have y14 := hz5.cell 14; clear hown hgrow hfr hb5 hz5))
  refine bodyPost_ret (results_tmp2 rfl _ _ _) rfl ?_
  rw [HAp.out]
  have hs := HK.out.1.size
  exact told2_of (own_down HO3.out.2 hs) (HK.out.1.trans (HO3.out.1.mono hs)) 0
set_option maxHeartbeats 1000000 in
theorem rbundle_kind (p : Prm) (l : Prm.Lay) (A : Option Addr) (n c : Nat) (us : List Unt) (B : Option Addr) (m d : Nat) (parts : List (List Int)) (w : World) (hPr : ∀ W, Below w.heap.size w W -> Calls Tryz.prog 31 #[.agg #[.string p.id, .int .i64 p.kind, .int .i64 p.priority, .string p.group, .string p.code, .bool p.closes, .slice l.scope.skus.A l.scope.skus.n l.scope.skus.c, .slice l.scope.cats.A l.scope.cats.n l.scope.cats.c, .int .i64 p.least, .int .i64 p.rate, .int .i64 p.amount, .int .i64 p.buy, .int .i64 p.get, .slice l.parts.A l.parts.n l.parts.c, .slice l.tiers.A l.tiers.n l.tiers.c]] W fun e w' => e = .returned (.bool (Pr.promoB p)) /\ Below W.heap.size W w') (hpn : l.parts.n = p.parts.length) (h : Row kUnt w (· < w.heap.size) A n us) (hf : Kd.Fit A n c) (hg : Row (kList kInt) w (· < w.heap.size) B m parts) (hn : n <= 1000000000000) (hm : m <= 1000000000000) (hs : ∀ x ∈ parts, x.length <= 1000000000000) (hb : Pr.promoB p = true) (hk : p.kind ≠ 4) :
    Calls Tryz.prog 14 #[.agg #[.string p.id, .int .i64 p.kind, .int .i64 p.priority, .string p.group, .string p.code, .bool p.closes, .slice l.scope.skus.A l.scope.skus.n l.scope.skus.c, .slice l.scope.cats.A l.scope.cats.n l.scope.cats.c, .int .i64 p.least, .int .i64 p.rate, .int .i64 p.amount, .int .i64 p.buy, .int .i64 p.get, .slice l.parts.A l.parts.n l.parts.c, .slice l.tiers.A l.tiers.n l.tiers.c], .slice A n c, .slice B m d] w fun e w' => Ko.Told2 kUnt 35 w e w' (bundleU p us parts).1 (bundleU p us parts).2 := by
  have hkb : (p.kind == 4) = false := by rw [beq_eq_false_iff_ne]; exact hk
  have hkn : ¬ p.kind = 4 := hk
  have HAp : Hid (bundleU p us parts = (us, 0)) := Lib.hid (by unfold bundleU bundleB; rw [hb, hkb]; rfl)
  rw [hb] at hPr
  obtain ⟨w1, hw1⟩ : ∃ w1, w.alloc (.cells #[.string p.id, .int .i64 p.kind, .int .i64 p.priority, .string p.group, .string p.code, .bool p.closes, .slice l.scope.skus.A l.scope.skus.n l.scope.skus.c, .slice l.scope.cats.A l.scope.cats.n l.scope.cats.c, .int .i64 p.least, .int .i64 p.rate, .int .i64 p.amount, .int .i64 p.buy, .int .i64 p.get, .slice l.parts.A l.parts.n l.parts.c, .slice l.tiers.A l.tiers.n l.tiers.c] 28) = w1 := ⟨_, rfl⟩
  have hb1 : Below w.heap.size w w1 := by rw [<- hw1]; exact (Below.refl _ _).alloc (Nat.le_refl _) _
  have hx : Qu.Blk w1 w.heap.size 28 #[.string p.id, .int .i64 p.kind, .int .i64 p.priority, .string p.group, .string p.code, .bool p.closes, .slice l.scope.skus.A l.scope.skus.n l.scope.skus.c, .slice l.scope.cats.A l.scope.cats.n l.scope.cats.c, .int .i64 p.least, .int .i64 p.rate, .int .i64 p.amount, .int .i64 p.buy, .int .i64 p.get, .slice l.parts.A l.parts.n l.parts.c, .slice l.tiers.A l.tiers.n l.tiers.c] := by rw [<- hw1]; exact Qu.Blk.new w _ _
  have HK := Lib.hid (And.intro hb1 (fun u (hu : Below w1.heap.size w1 u) => hx.below hu))
  have HR := Lib.hid (fun W (hb : Below w1.heap.size w1 W) => hPr W (hb1.trans (hb.mono hb1.size)))
  have HU := Lib.hid (row_on h hb1)
  have HFi := Lib.hid hf
  clear hPr h hf hg hm hb hb1 hx hs hpn hk
  go_enter Tryz.func14, Tryz.ntmps14
  go_wp2_with (first
    | (go_at_call 31; with_reducible refine (HR.out w5 HO5.out.2).mono ?_; rintro e w3 ⟨rfl, hb53⟩; clear y0 y1 y2 y3 y4 y5 y6 y7 y8 y9 y10 y11 y12 y13 y14; have hb3 := HO5.out.2.trans (hb53.mono HO5.out.2.size); have HO3 := Lib.hid (And.intro hb3 (HO5.out.1.later hb53)); have y1 := (HK.out.2 w3 hb3).cell 1; clear hb3 hb53)
    | (at_builtin; refine Kd.wpList_join (o := ⟨some 20, _, _, _, _, _⟩) (F := fun _ => False) (G := (· < w1.heap.size)) (B := w1.heap.size) (n := 0) (m := n) (c := c) (v := .slice none 0 0) (xs := []) (ys := us) (A := A) Ap.Unt.row_t rfl _ _ rfl rfl rfl (Kd.Own.nil _ _ _ _ _) HU.out HFi.out.1 (fun h => Ap.Unt_rep.2 (Ap.Unt_rep.1 h)) (by omega) (by omega) (Nat.le_refl _) (fun _ h => h.elim) ?_; intro v5 w5 hown hgrow hfr; rw [Nat.zero_add, List.nil_append] at hown; have hb5 : Below w1.heap.size w1 w5 := (Below.refl _ _).grown hgrow (Nat.le_refl _) (fun q hq => by cases hq); obtain ⟨A5, c5, e5⟩ := hown.value; subst e5; have HO5 := Lib.hid (And.intro hown hb5); have hz5 := HK.out.2 w5 hb5; have y0 := hz5.cell 0; have y1 := hz5.cell 1; have y2 := hz5.cell 2; have y3 := hz5.cell 3; have y4 := hz5.cell 4; have y5 := hz5.cell 5; have y6 := hz5.cell 6; have y7 := hz5.cell 7; have y8 := hz5.cell 8; have y9 := hz5.cell 9; have y10 := hz5.cell 10; have y11 := hz5.cell 11; have y12 := hz5.cell 12; have y13 := hz5.cell 13; have y14 := hz5.cell 14; clear hown hgrow hfr hb5 hz5))
  refine bodyPost_ret (results_tmp2 rfl _ _ _) rfl ?_
  rw [HAp.out]
  have hs := HK.out.1.size
  exact told2_of (own_down HO3.out.2 hs) (HK.out.1.trans (HO3.out.1.mono hs)) 0
set_option maxHeartbeats 1000000 in
theorem rbundle_len (p : Prm) (l : Prm.Lay) (A : Option Addr) (n c : Nat) (us : List Unt) (B : Option Addr) (m d : Nat) (parts : List (List Int)) (w : World) (hPr : ∀ W, Below w.heap.size w W -> Calls Tryz.prog 31 #[.agg #[.string p.id, .int .i64 p.kind, .int .i64 p.priority, .string p.group, .string p.code, .bool p.closes, .slice l.scope.skus.A l.scope.skus.n l.scope.skus.c, .slice l.scope.cats.A l.scope.cats.n l.scope.cats.c, .int .i64 p.least, .int .i64 p.rate, .int .i64 p.amount, .int .i64 p.buy, .int .i64 p.get, .slice l.parts.A l.parts.n l.parts.c, .slice l.tiers.A l.tiers.n l.tiers.c]] W fun e w' => e = .returned (.bool (Pr.promoB p)) /\ Below W.heap.size W w') (hpn : l.parts.n = p.parts.length) (h : Row kUnt w (· < w.heap.size) A n us) (hf : Kd.Fit A n c) (hg : Row (kList kInt) w (· < w.heap.size) B m parts) (hn : n <= 1000000000000) (hm : m <= 1000000000000) (hs : ∀ x ∈ parts, x.length <= 1000000000000) (hb : Pr.promoB p = true) (hk : p.kind = 4) (hl : parts.length ≠ p.parts.length) :
    Calls Tryz.prog 14 #[.agg #[.string p.id, .int .i64 p.kind, .int .i64 p.priority, .string p.group, .string p.code, .bool p.closes, .slice l.scope.skus.A l.scope.skus.n l.scope.skus.c, .slice l.scope.cats.A l.scope.cats.n l.scope.cats.c, .int .i64 p.least, .int .i64 p.rate, .int .i64 p.amount, .int .i64 p.buy, .int .i64 p.get, .slice l.parts.A l.parts.n l.parts.c, .slice l.tiers.A l.tiers.n l.tiers.c], .slice A n c, .slice B m d] w fun e w' => Ko.Told2 kUnt 35 w e w' (bundleU p us parts).1 (bundleU p us parts).2 := by
  have HAp : Hid (bundleU p us parts = (us, 0)) := Lib.hid (by
    have e : (parts.length == p.parts.length) = false := by rw [beq_eq_false_iff_ne]; exact hl
    unfold bundleU bundleB; rw [e]; simp)
  rw [hb] at hPr
  have HKd := Lib.hid hk
  have hne : ((m : Int) == (l.parts.n : Int)) = false := by
    rw [beq_eq_false_iff_ne, <- hg.len, hpn]; omega
  obtain ⟨w1, hw1⟩ : ∃ w1, w.alloc (.cells #[.string p.id, .int .i64 p.kind, .int .i64 p.priority, .string p.group, .string p.code, .bool p.closes, .slice l.scope.skus.A l.scope.skus.n l.scope.skus.c, .slice l.scope.cats.A l.scope.cats.n l.scope.cats.c, .int .i64 p.least, .int .i64 p.rate, .int .i64 p.amount, .int .i64 p.buy, .int .i64 p.get, .slice l.parts.A l.parts.n l.parts.c, .slice l.tiers.A l.tiers.n l.tiers.c] 28) = w1 := ⟨_, rfl⟩
  have hb1 : Below w.heap.size w w1 := by rw [<- hw1]; exact (Below.refl _ _).alloc (Nat.le_refl _) _
  have hx : Qu.Blk w1 w.heap.size 28 #[.string p.id, .int .i64 p.kind, .int .i64 p.priority, .string p.group, .string p.code, .bool p.closes, .slice l.scope.skus.A l.scope.skus.n l.scope.skus.c, .slice l.scope.cats.A l.scope.cats.n l.scope.cats.c, .int .i64 p.least, .int .i64 p.rate, .int .i64 p.amount, .int .i64 p.buy, .int .i64 p.get, .slice l.parts.A l.parts.n l.parts.c, .slice l.tiers.A l.tiers.n l.tiers.c] := by rw [<- hw1]; exact Qu.Blk.new w _ _
  have HK := Lib.hid (And.intro hb1 (fun u (hu : Below w1.heap.size w1 u) => hx.below hu))
  have HR := Lib.hid (fun W (hb : Below w1.heap.size w1 W) => hPr W (hb1.trans (hb.mono hb1.size)))
  have HU := Lib.hid (row_on h hb1)
  have HFi := Lib.hid hf
  clear hPr h hf hg hm hb hb1 hx hs hpn hk hl
  go_enter Tryz.func14, Tryz.ntmps14
  go_wp2_with (first
    | (go_at_call 31; with_reducible refine (HR.out w5 HO5.out.2).mono ?_; rintro e w3 ⟨rfl, hb53⟩; clear y0 y1 y2 y3 y4 y5 y6 y7 y8 y9 y10 y11 y12 y13 y14; have hb3 := HO5.out.2.trans (hb53.mono HO5.out.2.size); have HO3 := Lib.hid (And.intro hb3 (HO5.out.1.later hb53)); have y1 := (HK.out.2 w3 hb3).cell 1; have y13 := (HK.out.2 w3 hb3).cell 13; rw [HKd.out] at y1; clear hb3 hb53)
    | (at_builtin; refine Kd.wpList_join (o := ⟨some 20, _, _, _, _, _⟩) (F := fun _ => False) (G := (· < w1.heap.size)) (B := w1.heap.size) (n := 0) (m := n) (c := c) (v := .slice none 0 0) (xs := []) (ys := us) (A := A) Ap.Unt.row_t rfl _ _ rfl rfl rfl (Kd.Own.nil _ _ _ _ _) HU.out HFi.out.1 (fun h => Ap.Unt_rep.2 (Ap.Unt_rep.1 h)) (by omega) (by omega) (Nat.le_refl _) (fun _ h => h.elim) ?_; intro v5 w5 hown hgrow hfr; rw [Nat.zero_add, List.nil_append] at hown; have hb5 : Below w1.heap.size w1 w5 := (Below.refl _ _).grown hgrow (Nat.le_refl _) (fun q hq => by cases hq); obtain ⟨A5, c5, e5⟩ := hown.value; subst e5; have HO5 := Lib.hid (And.intro hown hb5); have hz5 := HK.out.2 w5 hb5; have y0 := hz5.cell 0; have y1 := hz5.cell 1; have y2 := hz5.cell 2; have y3 := hz5.cell 3; have y4 := hz5.cell 4; have y5 := hz5.cell 5; have y6 := hz5.cell 6; have y7 := hz5.cell 7; have y8 := hz5.cell 8; have y9 := hz5.cell 9; have y10 := hz5.cell 10; have y11 := hz5.cell 11; have y12 := hz5.cell 12; have y13 := hz5.cell 13; have y14 := hz5.cell 14; clear hown hgrow hfr hb5 hz5))
  refine bodyPost_ret (results_tmp2 rfl _ _ _) rfl ?_
  rw [HAp.out]
  have hs := HK.out.1.size
  exact told2_of (own_down HO3.out.2 hs) (HK.out.1.trans (HO3.out.1.mono hs)) 0
structure Gst (w3 wx : World) (us : List Unt) (parts : List (List Int)) (v : Value) (k : Nat) : Prop where
  row : Kd.Deep (kList kInt) wx w3.heap.size 36 v k (starts us (parts.take k))
  below : Below w3.heap.size w3 wx
  may : ∀ x ∈ parts.take k, mayB us x = true
structure Rst (w4 wx : World) (p : Prm) (us : List Unt) (Ss : List (List Int)) (F : List Int × List Int) (g n f : Nat) (ls : List (List Int)) (h : List Bool) (v12 v13 : Value) (all os : List Int) : Prop where
  all_ : Out kInt 3 w4 wx v12 all
  offs : Out kInt 2 w4 wx v13 os
  used : Kd.Own kFlag wx w4.heap.size 4 (fun _ => False) (.slice (some ⟨g, 0, none⟩) n n) n h
  mak : Making us ls h all os
  fin : makeB p us f ls h all os = F
  left : leftN h < f
  skips : Skips h Ss ls
theorem own_blk {α : Type} {K : Kind α} {w : World} {B E n c g : Nat} {xs : List α} (h : Kd.Own K w B E (fun _ => False) (.slice (some ⟨g, 0, none⟩) n c) n xs) : ∃ cs, Qu.Blk w g E cs := by
  obtain ⟨_, cs, ho, _⟩ := h
  rcases ho.2 with ⟨h1, _⟩ | ⟨g2, cap, cur, h1, _, h2, _⟩
  . cases h1
  . injection h1 with h1
    injection h1 with h1
    injection h1 with h1
    subst h1
    exact ⟨cur, ⟨h2⟩⟩
theorem two_start {w4 wr w5 wb : World} {b Lg L12 L13 : List Int} {gb gx n nb c14 : Nat} {v11 v12 v13 : Value} {hh : List Bool} (ha : Out kInt 3 w4 wr v12 L12) (ho : Out kInt 2 w4 wr v13 L13) (hu : Kd.Own kFlag wr w4.heap.size 4 (fun _ => False) v11 n hh) (hb : Kd.Own kInt w5 wr.heap.size 3 (fun _ => False) (.slice (some ⟨gb, 0, none⟩) nb c14) nb b) (hgb : wr.heap.size <= gb) (h5 : Below w5.heap.size w5 wb) (hr : Below wr.heap.size wr wb) (hi : Hl.Ints wb wb.heap.size (some ⟨gx, 0, none⟩) Lg.length (Sh.nth Lg)) (hgx : wr.heap.size <= gx) (hne : 0 < Lg.length) : Two w4 wb b Lg gb gx v11 n hh v12 v13 L12 L13 none none := by
  obtain ⟨cs, hk⟩ := own_blk (hb.later h5)
  refine ⟨ha.later hr, ho.later hr, hu.later hr, fun j x hj => ?_, fun j x hj => ?_, fun _ _ e => (by cases e), fun _ _ e => (by cases e), fun e => ?_, fun e => ?_, ⟨cs, hk⟩, ?_, fun e => ?_, fun e => ?_⟩
  . obtain ⟨g, o, hA, _, _, _, hc⟩ := row_int (hb.later h5).read hj
    injection hA with hA
    injection hA with h1 h2
    subst h1 h2
    rw [Nat.zero_add] at hc
    exact hc
  . have hl := (List.getElem?_eq_some_iff.1 hj).1
    obtain ⟨g, o, hA, _, hc⟩ := hi j hl
    injection hA with hA
    injection hA with h1 h2
    subst h1 h2
    rw [Nat.zero_add] at hc
    have e2 : Sh.nth Lg j = x := by unfold Sh.nth; rw [List.getD_eq_getElem?_getD, hj]; rfl
    rw [e2] at hc
    exact hc
  . have := (ha.own.low _ e).2; omega
  . have := (ho.own.low _ e).2; omega
  . obtain ⟨g, o, hA, hlt, _⟩ := hi 0 hne
    injection hA with hA
    injection hA with h1 h2
    omega
  . have := (ha.own.low _ e).2; omega
  . have := (hu.low _ e).2; omega
end Go.Proofs.YtljmddjlnlmenaaGreat.Dl

end
