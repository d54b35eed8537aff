/- Deals: the landed making's next (made by gen-next16.py). · Deals: the landed partsMay (made by gen-making16.py). -/
import Derived.Test.YtljmddjlnlmenaaGreatPq25
set_option maxRecDepth 100000
set_option linter.unusedVariables false

section
namespace Go.Proofs.YtljmddjlnlmenaaGreat.Dl
open Go.ChangeShapes Go.WideShapes Go.ChangeAt Go.RowKit
open Ap (Unt Tir Prm Prt kUnt kTir kPrt row_Unt row_Tir row_Prt)
open Kd (Kind Row RowT kInt kFlag row_int)
open Ko (Out Told Told2 At row_on)
open Ct (nth nth_some netAt netsL sumL UnitsMay PlacesMay May mayB mayB_iff Far take_next lessU SumOk PlacesIn i64_t own_down told2_of)
theorem Mkg.grown {w w' : World} {B B' n E : Nat} {wv hv v : Value} {qs : List (Nat × Option Nat)} {ls : List (List Int)} {h : List Bool} {xs : List Int} (k : Mkg w B wv hv qs ls h) (ho : Kd.Own kInt w B' E (fun _ => False) v n xs) (hE : ¬ Stirs E) (hE2 : E ≠ 91) (hg : w.grownBy w' v.ownBlock) : Mkg w' B wv hv qs ls h := by
  obtain ⟨hl, cs, hr, hc⟩ := ho
  have row : ∀ {α : Type} {K : Kind α} {E2 n2 : Nat} {v2 : Value} {ys : List α}, E2 ≠ E -> Kd.Own K w B E2 (fun _ => False) v2 n2 ys -> Kd.Own K w' B E2 (fun _ => False) v2 n2 ys := fun hne h2 => by
    obtain ⟨hl2, cs2, ho2, hc2⟩ := h2
    refine Kd.Own.stay ⟨hl2, cs2, ho2, hc2⟩ (fun _ h => h.elim) fun b hb => hg.block b (ho2.lt b hb).2 ?_
    intro e
    rcases Qu.own_own_ne ho2 hr hne with a | a
    . rw [a] at hb; cases hb
    . exact a (by rw [hb, e])
  refine ⟨k.len, fun i q r l h1 h2 => ?_, k.apart, row (fun e => hE (.inr (.inr e.symm))) k.had, row (fun e => hE2 e.symm) k.wait, k.few, k.inn⟩
  obtain ⟨L, hL, e⟩ := k.que i q r l h1 h2
  obtain ⟨a1, a2⟩ := hL.apart hr (fun e => hE (.inl e.symm)) (fun e => hE (.inr (.inl e)))
  exact ⟨L, hL.grown hg a1 a2, e⟩
theorem Stir.grown {B : Nat} {a b c : World} {row : Option Nat} (h : Stir B a b) (hg : b.grownBy c row) (hr : ∀ i, row = some i -> a.heap.size <= i) (hB : B <= a.heap.size) : Stir B a c :=
  ⟨h.below.grown hg (Nat.le_trans hB h.only.size) fun i hi => Nat.le_trans hB (hr i hi), h.only.grown hg fun i hi hlt => absurd (hr i hi) (by omega)⟩
theorem int_quiet : ¬ Stirs 3 /\ 3 ≠ 91 := by unfold Stirs; decide
theorem i64_quiet : ¬ Stirs 2 /\ 2 ≠ 91 := by unfold Stirs; decide
def Nexts (e : Ending) (w w' : World) (B : Nat) (p : Prm) (us : List Unt) (wv hv : Value) (qs : List (Nat × Option Nat)) (ls : List (List Int)) (h : List Bool) : Prop :=
  Stir B w w' /\ match nextB p us ls h with
    | none => ∃ A m c, e = .returned (.tuple #[.slice A m c, .int .i64 0])
    | some (b, ls', h') => ∃ A c, e = .returned (.tuple #[.slice A b.length c, .int .i64 (sumL (netsL us b) - p.amount)]) /\ Kd.Own kInt w' w.heap.size 3 (fun _ => False) (.slice A b.length c) b.length b /\ Mkg w' B wv hv qs ls' h'
structure Nst (w1 wx : World) (B : Nat) (p : Prm) (wv hv : Value) (qs : List (Nat × Option Nat)) (ls : List (List Int)) (h : List Bool) (k : Nat) (v : Value) (acc : List Int) (done more : List (List Int)) (hh : List Bool) : Prop where
  mem : Mkg wx B wv hv qs (done ++ more) hh
  stir : Stir B w1 wx
  own : Kd.Own kInt wx w1.heap.size 3 (fun _ => False) v acc.length acc
  all : pickAll (counts p) ls h = rest acc done ((counts p).drop k) more hh
  dn : done.length = k
  few : acc.length <= 100 * k
structure Nin (w1 wx : World) (B : Nat) (p : Prm) (wv hv : Value) (qs : List (Nat × Option Nat)) (ls : List (List Int)) (h : List Bool) (k c : Nat) (v : Value) (acc : List Int) (done : List (List Int)) (cur : List Int) (more : List (List Int)) (hh : List Bool) : Prop where
  mem : Mkg wx B wv hv qs (done ++ cur :: more) hh
  stir : Stir B w1 wx
  own : Kd.Own kInt wx w1.heap.size 3 (fun _ => False) v acc.length acc
  all : pickAll (counts p) ls h = restIn acc done c cur ((counts p).drop (k + 1)) more hh
  dn : done.length = k
  few : acc.length + c <= 100 * (k + 1)
theorem Nin.later {w1 wx wy : World} {B : Nat} {p : Prm} {wv hv : Value} {qs : List (Nat × Option Nat)} {ls : List (List Int)} {h : List Bool} {k c : Nat} {v : Value} {acc : List Int} {done : List (List Int)} {cur : List Int} {more : List (List Int)} {hh : List Bool} (x : Nin w1 wx B p wv hv qs ls h k c v acc done cur more hh) (hb : Below wx.heap.size wx wy) (hB : B <= w1.heap.size) : Nin w1 wy B p wv hv qs ls h k c v acc done cur more hh :=
  ⟨x.mem.later hb, x.stir.trans (Stir.ofBelow hb (Nat.le_trans hB x.stir.only.size)), x.own.later hb, x.all, x.dn, x.few⟩
theorem Nin.push {w1 wx wy wz : World} {B : Nat} {p : Prm} {wv hv : Value} {qs : List (Nat × Option Nat)} {ls : List (List Int)} {h : List Bool} {k c L : Nat} {v v' : Value} {acc : List Int} {done : List (List Int)} {cur l' : List Int} {more : List (List Int)} {hh : List Bool} {m : Int} (x : Nin w1 wx B p wv hv qs ls h k (c + 1) v acc done cur more hh) (hB : B <= w1.heap.size) (hf : first hh cur = some (m, l')) (hs : Stir B wx wy) (hm : Mkg wy B wv hv qs ((done ++ cur :: more).set k l') (take1 hh m)) (e : acc.length = L)
    (hown : Kd.Own kInt wz w1.heap.size 3 (fun _ => False) v' (L + 1) (acc ++ [m])) (hgrow : wy.grownBy wz v.ownBlock) : Nin w1 wz B p wv hv qs ls h k c v' (acc ++ [m]) done l' more (take1 hh m) := by
  have h1 := own_stir x.own int_quiet.1 hs
  have h2 : (done ++ cur :: more).set k l' = done ++ l' :: more := by
    rw [List.set_append_right _ _ (by rw [x.dn]; exact Nat.le_refl _), x.dn, Nat.sub_self, List.set_cons_zero]
  rw [h2] at hm
  refine ⟨hm.grown h1 int_quiet.1 int_quiet.2 hgrow, (x.stir.trans hs).grown hgrow (fun i hi => (h1.low i hi).1) hB, ?_, ?_, x.dn, ?_⟩
  . rw [List.length_append, List.length_singleton, e]; exact hown
  . rw [x.all, restIn_some acc done c _ _ hf]
  . rw [List.length_append, List.length_singleton]; have := x.few; omega
set_option maxHeartbeats 4000000 in
theorem next_any (p : Prm) (l : Prm.Lay) (A : Option Addr) (n c : Nat) (us : List Unt) (B : Nat) (wv hv : Value) (qs : List (Nat × Option Nat)) (ls : List (List Int)) (h : List Bool) (w : World) (hB : B <= w.heap.size) (hk : Mkg w B wv hv qs ls h) (hP : Row kPrt w (· < B) l.parts.A l.parts.n p.parts) (hU : Row kUnt w (· < B) A n us) (hum : UnitsMay us) (hhl : h.length = us.length) (hq : qs.length = p.parts.length) (hp3 : p.parts.length <= 3) (hct : ∀ q ∈ p.parts, 1 <= q.count /\ q.count <= 100) (ham : 0 <= p.amount /\ p.amount <= 10000000000000) :
    Calls Tryz.prog 38 #[.agg #[.string p.id, .int .i64 p.kind, .int .i64 p.priority, .string p.group, .string p.code, .bool p.closes, .slice l.scope.skus.A l.scope.skus.n l.scope.skus.c, .slice l.scope.cats.A l.scope.cats.n l.scope.cats.c, .int .i64 p.least, .int .i64 p.rate, .int .i64 p.amount, .int .i64 p.buy, .int .i64 p.get, .slice l.parts.A l.parts.n l.parts.c, .slice l.tiers.A l.tiers.n l.tiers.c, .slice A n c, wv, hv]] w fun e w' => Nexts e w w' B p us wv hv qs ls h := by
  obtain ⟨w1, hw1⟩ : ∃ w1, w.alloc (.cells #[.string p.id, .int .i64 p.kind, .int .i64 p.priority, .string p.group, .string p.code, .bool p.closes, .slice l.scope.skus.A l.scope.skus.n l.scope.skus.c, .slice l.scope.cats.A l.scope.cats.n l.scope.cats.c, .int .i64 p.least, .int .i64 p.rate, .int .i64 p.amount, .int .i64 p.buy, .int .i64 p.get, .slice l.parts.A l.parts.n l.parts.c, .slice l.tiers.A l.tiers.n l.tiers.c, .slice A n c, wv, hv] 67) = w1 := ⟨_, rfl⟩
  have hb1 : Below w.heap.size w w1 := by rw [<- hw1]; exact (Below.refl _ _).alloc (Nat.le_refl _) _
  have hx : Qu.Blk w1 w.heap.size 67 #[.string p.id, .int .i64 p.kind, .int .i64 p.priority, .string p.group, .string p.code, .bool p.closes, .slice l.scope.skus.A l.scope.skus.n l.scope.skus.c, .slice l.scope.cats.A l.scope.cats.n l.scope.cats.c, .int .i64 p.least, .int .i64 p.rate, .int .i64 p.amount, .int .i64 p.buy, .int .i64 p.get, .slice l.parts.A l.parts.n l.parts.c, .slice l.tiers.A l.tiers.n l.tiers.c, .slice A n c, wv, hv] := by rw [<- hw1]; exact Qu.Blk.new w _ _
  have hB1 : B <= w1.heap.size := Nat.le_trans hB hb1.size
  have hlp := hP.len
  have x13 := hx.cell 13
  have HP := Lib.hid (hP.below (hb1.mono hB) (Nat.le_refl _))
  have HU := Lib.hid (hU.below (hb1.mono hB) (Nat.le_refl _))
  have HUM := Lib.hid hum
  have HC := Lib.hid hct
  have HLu := Lib.hid hU.len
  have HHl := Lib.hid hhl
  have HAm := Lib.hid ham
  have hql : qs.length = ls.length := hk.len
  have HK := Lib.hid (And.intro (Stir.ofBelow hb1 hB) (And.intro hx (And.intro hB1 hb1)))
  have hin0 := hk.inn
  have HIn := Lib.hid hin0
  have HN0 : Hid (Nst w1 w1 B p wv hv qs ls h 0 (.slice none 0 0) [] [] ls h) := Lib.hid ⟨hk.later hb1, Stir.refl _ _, Kd.Own.nil _ _ _ _ _, by rw [List.drop_zero, rest_start], rfl, by simp⟩
  have HQl := Lib.hid (And.intro hq hql)
  obtain ⟨np, hnp⟩ : ∃ np, l.parts.n = np := ⟨_, rfl⟩
  obtain ⟨A9, hA9⟩ : ∃ A9, l.parts.A = A9 := ⟨_, rfl⟩
  rw [hnp, hA9] at HP x13
  rw [hnp] at hlp
  have hnp3 : np <= 3 := by omega
  have HLp := Lib.hid hlp
  have HHd := Lib.hid hk.few
  clear hk hP hU hum hct hb1 hx hB1 hB hhl hq hql ham hin0 hp3 hlp hnp hA9
  go_enter Tryz.func38, Tryz.ntmps38
  go_wp2_with fail
  clear x13
  go_loopw [4, 13] (fun s4 s13 wx => ∃ (k : Nat) (acc : List Int) (done more : List (List Int)) (hh : List Bool), s13 = .int .i64 k /\ k <= np /\ Hid (Nst w1 wx B p wv hv qs ls h k s4 acc done more hh)) (fun _ s13 _ => np - (intOf s13).toNat)
  case atStart => exact ⟨0, [], [], ls, h, rfl, by omega, HN0⟩
  case round =>
    clear HN0 hw1
    obtain ⟨k, acc, done, more, hh, rfl, hk, HO⟩ := hrel
    have kk : (0 : Int) <= (k : Int) := by omega
    by_cases hlt : k < np
    . obtain ⟨pt9, hpt⟩ := HP.out.get hlt
      obtain ⟨g3, o3, l3, rfl, hg3, _, _, z0, z1, z2⟩ := row_Prt HP.out hpt
      have hct := HC.out pt9 (List.mem_of_getElem? hpt)
      obtain ⟨ct, hct2⟩ : ∃ ct : Nat, pt9.count = (ct : Int) := ⟨pt9.count.toNat, by omega⟩
      rw [hct2] at hct z2
      have hbw := HO.out.stir.below
      have d0 : wr.cell? ⟨g3, o3 + k * 3, none⟩ = some (.slice l3.scope.skus.A l3.scope.skus.n l3.scope.skus.c) := (hbw.cell (p := ⟨g3, _, none⟩) hg3).trans z0
      have d1 : wr.cell? ⟨g3, o3 + k * 3 + 1, none⟩ = some (.slice l3.scope.cats.A l3.scope.cats.n l3.scope.cats.c) := (hbw.cell (p := ⟨g3, _, none⟩) hg3).trans z1
      have d2 : wr.cell? ⟨g3, o3 + k * 3 + 2, none⟩ = some (.int .i64 (ct : Int)) := (hbw.cell (p := ⟨g3, _, none⟩) hg3).trans z2
      obtain ⟨W2, hW2⟩ : ∃ W2, wr.alloc (.cells #[.slice l3.scope.skus.A l3.scope.skus.n l3.scope.skus.c, .slice l3.scope.cats.A l3.scope.cats.n l3.scope.cats.c, .int .i64 (ct : Int)] 56) = W2 := ⟨_, rfl⟩
      have hb2 : Below wr.heap.size wr W2 := by rw [<- hW2]; exact (Below.refl _ _).alloc (Nat.le_refl _) _
      have hbx : Qu.Blk W2 wr.heap.size 56 #[.slice l3.scope.skus.A l3.scope.skus.n l3.scope.skus.c, .slice l3.scope.cats.A l3.scope.cats.n l3.scope.cats.c, .int .i64 (ct : Int)] := by rw [<- hW2]; exact Qu.Blk.new wr _ _
      have w2c := hbx.cell 2
      have hW2' := Lib.hid hW2
      -- the part's own list
      have hdm := HO.out.mem.len
      rw [List.length_append, HO.out.dn, HQl.out.1, HLp.out] at hdm
      obtain ⟨cur, more', hmore⟩ : ∃ cur more', more = cur :: more' := by
        cases more with
        | nil => simp at hdm; omega
        | cons a b => exact ⟨a, b, rfl⟩
      subst hmore
      have hcd : (counts p).drop k = ct :: (counts p).drop (k + 1) := by
        have hl : k < (counts p).length := by unfold counts; rw [List.length_map, HLp.out]; exact hlt
        rw [List.drop_eq_getElem_cons hl]
        have e9 : (counts p)[k]? = some ct := by
          unfold counts
          rw [List.getElem?_map, hpt]
          show some pt9.count.toNat = some ct
          rw [hct2, Int.toNat_natCast]
        rw [(List.getElem?_eq_some_iff.1 e9).2]
      have HI0 : Hid (Nin w1 W2 B p wv hv qs ls h k (ct - 0) u4 acc done cur more' hh) := Lib.hid ((show Nin w1 wr B p wv hv qs ls h k ct u4 acc done cur more' hh from ⟨HO.out.mem, HO.out.stir, HO.out.own, by rw [HO.out.all, hcd, rest_cons], HO.out.dn, by have := HO.out.few; omega⟩).later hb2 HK.out.2.2.1)
      have k1 : (k : Int) < (np : Int) := by omega
      have c0 : (0 : Int) <= (ct : Int) := by omega
      have hc100 : ct <= 100 := by omega
      clear z0 z1 z2 hpt hct hct2 hbw hb2 hbx hW2 hdm hcd hg3
      go_wp2_with fail
      rw [hW2'.out]
      go_wp2_with fail
      clear d0 d1 d2 w2c
      go_loopw [4, 20] (fun s4 s20 wx => ∃ (j : Nat) (acc2 : List Int) (cur2 : List Int) (hh2 : List Bool), s20 = .int .i64 j /\ j <= ct /\ Hid (Nin w1 wx B p wv hv qs ls h k (ct - j) s4 acc2 done cur2 more' hh2)) (fun _ s20 _ => ct - (intOf s20).toNat)
      case atStart => exact ⟨0, acc, cur, hh, rfl, by omega, HI0⟩
      case round =>
        clear HI0 HO
        obtain ⟨j, acc2, cur2, hh2, rfl, hj, HI⟩ := hrel
        have jj : (0 : Int) <= (j : Int) := by omega
        by_cases hjl : j < ct
        . obtain ⟨c9, hc9⟩ : ∃ c9, ct - j = c9 + 1 := ⟨ct - j - 1, by omega⟩
          have hI9 := HI.out
          rw [hc9] at hI9
          have hx := blk_stir HK.out.2.1 stirs_making HI.out.stir
          have x0 := hx.cell 0; have x1 := hx.cell 1; have x2 := hx.cell 2; have x3 := hx.cell 3; have x4 := hx.cell 4; have x5 := hx.cell 5; have x6 := hx.cell 6; have x7 := hx.cell 7; have x8 := hx.cell 8; have x9 := hx.cell 9; have x10 := hx.cell 10; have x11 := hx.cell 11; have x12 := hx.cell 12; have x13 := hx.cell 13; have x14 := hx.cell 14; have x15 := hx.cell 15; have x16 := hx.cell 16; have x17 := hx.cell 17
          have hql2 : k < qs.length := by rw [HQl.out.1, HLp.out]; exact hlt
          obtain ⟨⟨q, r⟩, hqr⟩ : ∃ z, qs[k]? = some z := ⟨_, List.getElem?_eq_getElem hql2⟩
          have hlr : (done ++ cur2 :: more')[k]? = some cur2 := by rw [List.getElem?_append_right (by rw [HI.out.dn]; exact Nat.le_refl _), HI.out.dn, Nat.sub_self]; rfl
          have HDr := Lib.hid (dearest_any p l A n c B wv hv qs (done ++ cur2 :: more') hh2 k q r cur2 wr (Nat.le_trans HK.out.2.2.1 HI.out.stir.only.size) HI.out.mem hqr hlr)
          have j1 : (j : Int) < (ct : Int) := by omega
          have HI9 := Lib.hid hI9
          clear hx hqr hlr hql2 hI9
          go_wp2_with fail
          refine HDr.out.mono ?_
          rintro e w3 hd
          unfold Dears at hd
          obtain ⟨hs3, hd⟩ := hd
          cases hf : first hh2 cur2 with
          | none =>
            rw [hf] at hd
            dsimp only at hd
            subst hd
            have HE : Hid (Nexts (.returned (.tuple #[.slice none 0 0, .int .i64 0])) w w3 B p us wv hv qs ls h) := Lib.hid (by
              unfold Nexts
              have hn : nextB p us ls h = none := by unfold nextB; rw [HI9.out.all, restIn_none acc2 done c9 _ _ hf]
              rw [hn]
              exact ⟨(HK.out.1.trans HI9.out.stir).trans hs3, none, 0, 0, rfl⟩)
            clear hf hs3 x0 x1 x2 x3 x4 x5 x6 x7 x8 x9 x10 x11 x12 x13 x14 x15 x16 x17
            go_wp2
            refine bodyPost_ret (results_tmp2 rfl _ _ _) rfl ?_
            exact HE.out
          | some z =>
            obtain ⟨m, l'⟩ := z
            rw [hf] at hd
            dsimp only at hd
            obtain ⟨rfl, hm3⟩ := hd
            obtain ⟨hfa, hfb, _, _⟩ := first_some hf
            have hmr := (HI.out.mem.inn cur2 (List.mem_append_right _ List.mem_cons_self)).2 m hfb
            have hfw := HI.out.mem.few
            have hmr2 : -9223372036854775808 <= m /\ m <= 9223372036854775807 := by omega
            have HMr := Lib.hid hmr2
            have hown0 := own_stir HI.out.own int_quiet.1 hs3
            obtain ⟨C, e5, hv5⟩ := hown0.value
            obtain ⟨La, hLa⟩ : ∃ La, acc2.length = La := ⟨_, rfl⟩
            rw [hLa] at hv5
            have hfa2 := HI.out.few
            have hLa3 : La <= 1000 := by omega
            have HLa := Lib.hid hLa
            subst hv5
            rw [hLa] at hown0
            have HOw := Lib.hid hown0
            have hlow : w1.heap.size <= w3.heap.size := Nat.le_trans HI.out.stir.only.size hs3.only.size
            have HS3 := Lib.hid (And.intro hf (And.intro hs3 hm3))
            clear hf hs3 hm3 hfa hfb hmr hfw hmr2 hLa hown0 hfa2 x0 x1 x2 x3 x4 x5 x6 x7 x8 x9 x10 x11 x12 x13 x14 x15 x16 x17
            go_wp2_with ((at_builtin; refine Kd.wpList_push (W := w3) (F := fun _ => False) (B := w1.heap.size) (n := La) (v := .slice C La e5) (xs := acc2) (y := m) (cs := [.int .i64 m]) Ap.int_t rfl _ _ rfl rfl rfl rfl HOw.out ⟨rfl, HMr.out⟩ (by omega) (by omega) hlow (fun _ h => h.elim) ?_; intro g5 cap w4 hown hgrow hfr; have HI4 := Lib.hid (HI9.out.push HK.out.2.2.1 HS3.out.1 HS3.out.2.1 HS3.out.2.2 HLa.out hown hgrow); clear hown hgrow hfr))
            go_roundw
            case rel => exact ⟨j + 1, _, _, _, by go_num, by omega, Lib.hid (by rw [show ct - (j + 1) = c9 by omega]; exact HI4.out)⟩
            case measure => simp [intOf]; omega
        . have j1 : ¬ (j : Int) < (ct : Int) := by omega
          obtain rfl : j = ct := by omega
          have HO2 : Hid (Nst w1 wr B p wv hv qs ls h (k + 1) u4 acc2 (done ++ [cur2]) more' hh2) := Lib.hid (by
            have hI := HI.out
            rw [Nat.sub_self] at hI
            exact ⟨by rw [List.append_assoc]; exact hI.mem, hI.stir, hI.own, by rw [hI.all, restIn_zero], by rw [List.length_append, List.length_singleton, hI.dn], by have := hI.few; omega⟩)
          go_wp2
          go_roundw
          case rel => exact ⟨k + 1, _, _, _, _, by go_num, by omega, HO2⟩
          case measure => simp [intOf]; omega
    . have k1 : ¬ (k : Int) < (np : Int) := by omega
      obtain rfl : k = np := by omega
      have hmore : more = [] := by
        have := HO.out.mem.len
        rw [List.length_append, HO.out.dn, HQl.out.1, HLp.out] at this
        exact List.eq_nil_of_length_eq_zero (by omega)
      subst hmore
      have hall := HO.out.all
      rw [List.drop_of_length_le (by unfold counts; rw [List.length_map, HLp.out]; exact Nat.le_refl _), rest_nil] at hall
      have hfa := HO.out.few
      obtain ⟨C, e5, hv5⟩ := HO.out.own.value
      obtain ⟨La, hLa⟩ : ∃ La, acc.length = La := ⟨_, rfl⟩
      rw [hLa] at hv5
      subst hv5
      have hown := HO.out.own
      rw [hLa] at hown
      have HSo := Lib.hid (sort_any C La e5 w1.heap.size acc wr hown (by omega))
      -- who was picked is in range
      obtain ⟨g1, g2, _, _⟩ := pickAll_got hall
      have hin : PlacesIn n (srt acc) := fun i m hm => by
        obtain ⟨z, hz, hmz⟩ := g2 m ((srt_perm acc).mem_iff.1 (List.mem_of_getElem? hm))
        have h9 := (HIn.out z hz).2 m hmz
        rw [HHl.out, HLu.out] at h9
        exact h9
      have hsl : (srt acc).length = La := by rw [srt_length]; exact hLa
      obtain ⟨b, hb⟩ : ∃ b, srt acc = b := ⟨_, rfl⟩
      have HOw := Lib.hid hown
      have HAll := Lib.hid hall
      have HBs := Lib.hid hb
      have HHin := Lib.hid hin
      rw [hb] at hsl
      have HSl := Lib.hid hsl
      have hx := blk_stir HK.out.2.1 stirs_making HO.out.stir
      have HX := Lib.hid hx
      have hLa3 : La <= 300 := by omega
      clear hall hown g1 g2 hin hsl hb hx hfa hLa
      go_wp2_with fail
      refine HSo.out.mono ?_
      rintro e w5 ⟨rfl, ho5, hg5⟩
      rw [HBs.out] at ho5
      have hm5 := HO.out.mem.grown HOw.out int_quiet.1 int_quiet.2 hg5
      rw [List.append_nil] at hm5
      have hs5 := HO.out.stir.grown hg5 (fun i hi => (HOw.out.low i hi).1) HK.out.2.2.1
      have hx5 := blk_stir HK.out.2.1 stirs_making hs5
      have c15 : ∀ u, Below w5.heap.size w5 u -> u.cell? ⟨w.heap.size, 15, none⟩ = some (.slice A n c) := fun u hu => (hx5.below hu).cell 15
      have c10 : ∀ u, Below w5.heap.size w5 u -> u.cell? ⟨w.heap.size, 10, none⟩ = some (.int .i64 p.amount) := fun u hu => (hx5.below hu).cell 10
      have hU5 : Row kUnt w5 (· < w5.heap.size) A n us := (HU.out.below hs5.below (Nat.le_refl _)).lift (Nat.le_trans HK.out.2.2.1 hs5.only.size)
      have hr5 := ho5.read
      have hbin : PlacesIn n b := by rw [<- HBs.out]; exact HHin.out
      have HNt1 := fun (W : World) (hb : Below w5.heap.size w5 W) => dnets_any A n c us C La e5 b W (row_on hU5 hb) (row_on hr5 hb) (by omega) hbin
      unfold Ko.Told at HNt1
      have hnl : (netsL us b).length = La := by unfold netsL; rw [List.length_map]; exact HSl.out
      have hnm := nets_most HUM.out (ds := b) (by rw [HSl.out]; omega)
      have hnt := hnm La
      rw [List.take_of_length_le (by rw [hnl]; exact Nat.le_refl _)] at hnt
      have HSu1 := fun (W : World) (A6 : Option Addr) (c6 : Nat) (hr : Row kInt W (· < W.heap.size) A6 La (netsL us b)) => dsum_any A6 La c6 (netsL us b) _ W hr (by omega) (fun k => by have := hnm k; omega)
      obtain ⟨S, hS⟩ : ∃ S, sumL (netsL us b) = S := ⟨_, rfl⟩
      simp only [hnl] at HNt1
      simp only [hS] at HSu1
      rw [hS] at hnt
      have HNt := Lib.hid HNt1
      have HSu := Lib.hid HSu1
      have ham := HAm.out
      obtain ⟨d, hd⟩ : ∃ d, S - p.amount = d := ⟨_, rfl⟩
      have wd : IntKind.i64.wrap (S - p.amount) = d := by rw [hd]; exact IntWalk.i64_in _ (by omega)
      obtain ⟨t, ht⟩ : ∃ t, max 0 d = t := ⟨_, rfl⟩
      have HE : Hid (Nexts (.returned (.tuple #[.slice C La e5, .int .i64 t])) w w5 B p us wv hv qs ls h /\ ∀ wb, Below w5.heap.size w5 wb -> Nexts (.returned (.tuple #[.slice C La e5, .int .i64 t])) w wb B p us wv hv qs ls h) := Lib.hid (by
        have key : ∀ wb, Below w5.heap.size w5 wb -> Nexts (.returned (.tuple #[.slice C La e5, .int .i64 t])) w wb B p us wv hv qs ls h := fun wb hbb => by
          unfold Nexts
          refine ⟨(HK.out.1.trans hs5).trans (Stir.ofBelow hbb (Nat.le_trans HK.out.2.2.1 hs5.only.size)), ?_⟩
          unfold nextB
          rw [HAll.out]
          dsimp only
          rw [HBs.out]
          by_cases hle : sumL (netsL us b) <= p.amount
          . rw [if_pos hle]
            refine ⟨C, La, e5, ?_⟩
            rw [show t = 0 by rw [<- ht]; omega]
          . rw [if_neg hle]
            refine ⟨C, e5, ?_, ?_, hm5.later hbb⟩
            . rw [HSl.out, show t = sumL (netsL us b) - p.amount by rw [<- ht, <- hd]; omega]
            . rw [HSl.out]
              exact own_down (ho5.later hbb) HK.out.2.2.2.size
        exact ⟨key w5 (Below.refl _ _), key⟩)
      clear ho5 hg5 hm5 hs5 hx5 hU5 hr5 hbin HNt1 hnl hnm hnt HSu1 hS ham hd
      go_wp2_with fail
      refine wp_region_held_drew (S := fun u => Below w5.heap.size w5 u) (by kernel_rfl) ((Below.refl _ _).drew) (fun hS0 => ?_)
      refine pkT 0 38 hS0 ?_
      try simp only [Act.put, pkA, pkB, pkC]
      refine pkT 1 39 hS0 ?_
      try simp only [Act.put, pkA, pkB, pkC]
      refine pkT 2 40 hS0 ?_
      try simp only [Act.put, pkA, pkB, pkC]
      refine pkT 3 41 hS0 ?_
      try simp only [Act.put, pkA, pkB, pkC]
      refine pkT 6 44 hS0 ?_
      try simp only [Act.put, pkA, pkB, pkC]
      refine pkT 7 45 hS0 ?_
      try simp only [Act.put, pkA, pkB, pkC]
      refine pkT 8 46 hS0 ?_
      try simp only [Act.put, pkA, pkB, pkC]
      refine wpAnyH_ready (rs := [4]) (by kernel_rfl) (by simp) ?_
      refine AllReadyH.cons (o := ⟨some 42, _, _, _, _, _⟩) rfl (fun K hK => ?_) AllReadyH.nil
      go_simp
      refine (HNt.out _ hS0).mono ?_
      rintro e wa ⟨A6, c6, rfl, ho6, hb6⟩
      have hya : Below w5.heap.size w5 wa := Below.trans hS0 (hb6.mono (Below.size hS0))
      go_wp2_with fail
      refine hK.out _ _ (hya) (fun hS1 => ?_)
      clear hK K
      try simp only [Act.put, pkA, pkB, pkC]
      refine wpAnyH_ready (rs := [5]) (by kernel_rfl) (by simp) ?_
      refine AllReadyH.cons (o := ⟨some 43, _, _, _, _, _⟩) rfl (fun K hK => ?_) AllReadyH.nil
      go_simp
      refine (HSu.out _ A6 c6 ho6.read).mono ?_
      rintro e wb ⟨rfl, hw⟩
      obtain rfl := hw
      go_wp2_with fail
      refine hK.out _ _ (hya) (fun hS2 => ?_)
      clear hK K
      try simp only [Act.put, pkA, pkB, pkC]
      refine pkT 9 47 hS2 ?_
      try simp only [Act.put, pkA, pkB, pkC]
      refine pkT 10 48 hS2 ?_
      try simp only [Act.put, pkA, pkB, pkC]
      refine pkT 11 2 hS2 ?_
      try simp only [Act.put, pkA, pkB, pkC]
      refine pkT 12 3 hS2 ?_
      try simp only [Act.put, pkA, pkB, pkC]
      refine wpAnyH_done (by kernel_rfl) ?_ _
      skip
      go_wp2_with fail
      refine bodyPost_ret (results_tmp2 rfl _ _ _) rfl ?_
      exact HE.out.2 _ hya
end Go.Proofs.YtljmddjlnlmenaaGreat.Dl

end

section
namespace Go.Proofs.YtljmddjlnlmenaaGreat.Dl
open Go.ChangeShapes Go.WideShapes Go.ChangeAt Go.RowKit
open Ap (Unt Tir Prm Prt kUnt kTir kPrt row_Unt row_Tir row_Prt)
open Kd (Kind Row RowT kInt kFlag kList Lst row_int row_list)
open Ko (Out Told Told2 At row_on)
open Ct (nth nth_some netAt netsL sumL UnitsMay PlacesMay May mayB mayB_iff Far take_next lessU SumOk PlacesIn i64_t own_down told2_of)
theorem all_next {α : Type} {f : α -> Bool} {xs : List α} {k : Nat} {x : α} (h : xs[k]? = some x) (ha : (xs.take k).all f = true) (hf : f x = true) : (xs.take (k + 1)).all f = true := by
  rw [take_next h, List.all_append, ha]
  simp [hf]
theorem all_bad {α : Type} {f : α -> Bool} {xs : List α} {x : α} (h : x ∈ xs) (hf : f x = false) : xs.all f = false := by
  rw [List.all_eq_false]
  exact ⟨x, h, by rw [hf]; decide⟩
theorem partsMay_any (p : Prm) (l : Prm.Lay) (A : Option Addr) (n c : Nat) (us : List Unt) (B : Option Addr) (m d : Nat) (parts : List (List Int)) (w : World) (hP : l.parts.n = p.parts.length) (h : Row kUnt w (· < w.heap.size) A n us) (hn : n <= 1000000000000) (hg : Row (kList kInt) w (· < w.heap.size) B m parts) (hm : m <= 1000000000000) (hs : ∀ x ∈ parts, x.length <= 1000000000000) :
    Calls Tryz.prog 36 #[.agg #[.string p.id, .int .i64 p.kind, .int .i64 p.priority, .string p.group, .string p.code, .bool p.closes, .slice l.scope.skus.A l.scope.skus.n l.scope.skus.c, .slice l.scope.cats.A l.scope.cats.n l.scope.cats.c, .int .i64 p.least, .int .i64 p.rate, .int .i64 p.amount, .int .i64 p.buy, .int .i64 p.get, .slice l.parts.A l.parts.n l.parts.c, .slice l.tiers.A l.tiers.n l.tiers.c], .slice A n c, .slice B m d] w fun e w' => e = .returned (.bool (parts.length == p.parts.length && parts.all (mayB us))) /\ Below w.heap.size w w' := by
  obtain ⟨w1, hw1⟩ : ∃ w1, w.alloc (.cells #[.string p.id, .int .i64 p.kind, .int .i64 p.priority, .string p.group, .string p.code, .bool p.closes, .slice l.scope.skus.A l.scope.skus.n l.scope.skus.c, .slice l.scope.cats.A l.scope.cats.n l.scope.cats.c, .int .i64 p.least, .int .i64 p.rate, .int .i64 p.amount, .int .i64 p.buy, .int .i64 p.get, .slice l.parts.A l.parts.n l.parts.c, .slice l.tiers.A l.tiers.n l.tiers.c] 28) = w1 := ⟨_, rfl⟩
  have hb1 : Below w.heap.size w w1 := by rw [<- hw1]; exact (Below.refl _ _).alloc (Nat.le_refl _) _
  have hx : Qu.Blk w1 w.heap.size 28 #[.string p.id, .int .i64 p.kind, .int .i64 p.priority, .string p.group, .string p.code, .bool p.closes, .slice l.scope.skus.A l.scope.skus.n l.scope.skus.c, .slice l.scope.cats.A l.scope.cats.n l.scope.cats.c, .int .i64 p.least, .int .i64 p.rate, .int .i64 p.amount, .int .i64 p.buy, .int .i64 p.get, .slice l.parts.A l.parts.n l.parts.c, .slice l.tiers.A l.tiers.n l.tiers.c] := by rw [<- hw1]; exact Qu.Blk.new w _ _
  have x13 := hx.cell 13
  obtain ⟨np, hnp⟩ : ∃ np, l.parts.n = np := ⟨_, rfl⟩
  rw [hnp] at x13 hP
  have HB1 := Lib.hid hb1
  have HU := Lib.hid (row_on h hb1)
  have HG := Lib.hid (row_on hg hb1)
  have HLm := Lib.hid hg.len
  have HS := Lib.hid hs
  have HP := Lib.hid hP
  clear h hg hb1 hx hnp hs hP
  by_cases hmn : m = np
  . subst hmn
    have he : ((m : Int) == (m : Int)) = true := by rw [beq_iff_eq]
    go_enter Tryz.func36, Tryz.ntmps36
    go_wp2_with fail
    clear x13 he
    go_loopw [17] (fun s17 wr => ∃ k : Nat, s17 = .int .i64 k /\ k <= m /\ Hid (Below w1.heap.size w1 wr /\ (parts.take k).all (mayB us) = true)) (fun s17 _ => m - (intOf s17).toNat)
    case atStart => exact ⟨0, rfl, by omega, Lib.hid ⟨Below.refl _ _, by rw [List.take_zero]; rfl⟩⟩
    case round =>
      clear hw1
      obtain ⟨k, rfl, hk, HO⟩ := hrel
      have kk : (0 : Int) <= (k : Int) := by omega
      by_cases hlt : k < m
      . obtain ⟨ms, hms⟩ := HG.out.get hlt
        obtain ⟨g, o, lm, rfl, hg, _, hlm, a0⟩ := row_list HG.out hms
        have c0 : wr.cell? ⟨g, o + k, none⟩ = some (.slice lm.A lm.n lm.c) := (HO.out.1.cell (p := ⟨g, _, none⟩) hg).trans a0
        have hmn2 : lm.n <= 1000000000000 := by rw [<- hlm.row.len]; exact HS.out ms (List.mem_of_getElem? hms)
        have HMa := Lib.hid (Ct.lmay_any A n c us lm.A lm.n lm.c ms wr (row_on HU.out HO.out.1) hn (row_on hlm.row HO.out.1) hmn2)
        have HMs := Lib.hid hms
        have k1 : (k : Int) < (m : Int) := by omega
        clear hms a0 hg hlm hmn2
        obtain ⟨z, hz⟩ : ∃ z, mayB us ms = z := ⟨_, rfl⟩
        rw [hz] at HMa
        have HZ := Lib.hid hz
        clear hz
        go_wp2_with fail
        refine HMa.out.mono ?_
        rintro e w2 ⟨rfl, hb2⟩
        have HB2 := Lib.hid (HO.out.1.trans (hb2.mono HO.out.1.size))
        clear hb2
        cases z with
        | true =>
          go_wp2
          go_roundw
          case rel => exact ⟨k + 1, by go_num, by omega, Lib.hid ⟨HB2.out, all_next HMs.out HO.out.2 HZ.out⟩⟩
          case measure => simp [intOf]; omega
        | false =>
          have HE : Hid ((parts.length == p.parts.length && parts.all (mayB us)) = false) := Lib.hid (by rw [all_bad (List.mem_of_getElem? HMs.out) HZ.out, Bool.and_false])
          go_wp2
          go_ret
          exact ⟨by rw [HE.out]; rfl, HB1.out.trans (HB2.out.mono HB1.out.size)⟩
      . have k1 : ¬ (k : Int) < (m : Int) := by omega
        obtain rfl : k = m := by omega
        have HE : Hid ((parts.length == p.parts.length && parts.all (mayB us)) = true) := Lib.hid (by
          have h2 := HO.out.2
          rw [List.take_of_length_le (by rw [HLm.out]; exact Nat.le_refl _)] at h2
          rw [h2, Bool.and_true, beq_iff_eq, HLm.out]; exact HP.out)
        go_wp2
        go_ret
        exact ⟨by rw [HE.out]; rfl, HB1.out.trans (HO.out.1.mono HB1.out.size)⟩
  . have he : ((m : Int) == (np : Int)) = false := by rw [beq_eq_false_iff_ne]; omega
    have HE : Hid ((parts.length == p.parts.length && parts.all (mayB us)) = false) := Lib.hid (by
      have : (parts.length == p.parts.length) = false := by rw [beq_eq_false_iff_ne, HLm.out, <- HP.out]; exact hmn
      rw [this, Bool.false_and])
    clear hmn
    go_enter Tryz.func36, Tryz.ntmps36
    go_wp2
    go_ret
    exact ⟨by rw [HE.out]; rfl, HB1.out⟩
end Go.Proofs.YtljmddjlnlmenaaGreat.Dl

end
