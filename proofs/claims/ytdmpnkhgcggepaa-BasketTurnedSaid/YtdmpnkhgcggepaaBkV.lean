/- Baskets: the landed Units. -/
import Derived.Test.YtdmpnkhgcggepaaBkU
set_option maxRecDepth 100000

set_option linter.unusedVariables false
namespace Go.Proofs.Ytdmpnkhgcggepaa.Bk
open Go.ChangeShapes Go.WideShapes Go.ChangeAt Go.RowKit Go.Shelf
open Ap (Lin Unt kLin kUnt row_Lin row_Unt)
open It (Itm kItem row_item)
open Kd (Kind Row Own)

attribute [local go_sem] Oper.semAt_some

/-- Units as units whose numbers are Go's. -/
theorem lift_ok : ∀ (l : List Unt), (∀ u ∈ l, u.ok) → ∃ zs : List UO, zs.map Subtype.val = l
  | [], _ => ⟨[], rfl⟩
  | u :: l, h => by
    obtain ⟨zs, hz⟩ := lift_ok l fun v hv => h v (List.mem_cons_of_mem _ hv)
    exact ⟨⟨u, h u List.mem_cons_self⟩ :: zs, by rw [List.map_cons, hz]⟩

theorem flat_ok : ∀ (i : Nat) (xs : List Lin), i + xs.length ≤ 1000000 → Fine xs → ∀ u ∈ flatU i xs, u.ok
  | _, [], _, _, u, hu => by cases hu
  | i, x :: xs, h, hf, u, hu => by
    obtain ⟨h1, h2⟩ := hf.cons
    have hx := fine_iff.1 h1
    simp only [List.length_cons] at h
    rcases List.mem_append.1 hu with h3 | h3
    · obtain rfl := (List.mem_replicate.1 h3).2
      exact ⟨by show -9223372036854775808 ≤ (i : Int) ∧ (i : Int) ≤ 9223372036854775807; omega, by show -9223372036854775808 ≤ x.price ∧ x.price ≤ 9223372036854775807; omega⟩
    · exact flat_ok (i + 1) xs (by omega) h2 u h3

/-- The cells of units. -/
def unitCells (pre : List UO) : List Value := pre.flatMap fun u => u.1.enc

theorem unitCells_snoc (pre : List UO) (u : UO) : unitCells (pre ++ [u]) = unitCells pre ++ u.1.enc := by simp [unitCells]

theorem cells_units {w : World} : ∀ (pre : List UO), Kd.Cells kUnt w (fun _ => False) (pre.map Subtype.val) (unitCells pre)
  | [] => rfl
  | u :: pre => ⟨u.1.enc, unitCells pre, by simp [unitCells], Ap.Unt_rep.2 ⟨rfl, u.2⟩, cells_units pre⟩

/-- A unit's box abides what is no cells. -/
theorem box_own (B : Nat) (t : TypeId) (cs : Array Value) : Own (fun (_ : Unit) W => W.heap[B]? = some (.cells cs t (0, 0))) := fun s X Y row hs hg hrow =>
  (hg.block B (Array.getElem?_eq_some_iff.1 hs).1 (fun e => by
    obtain ⟨o, ho, hc⟩ := hrow B e.symm
    rw [hs] at ho; cases ho; cases hc)).trans hs

set_option maxRecDepth 100000 in
set_option maxHeartbeats 4000000 in
theorem units_any (A : Option Addr) (n c : Nat) (xs : List Lin) (w : World) (h : Row kLin w (· < w.heap.size) A n xs) (hn : n ≤ 1000000000000) :
    Calls Try.prog 17 #[.slice A n c] w fun e w' => Told kUnt 37 w e w' (unitsL xs) := by
  have HQ := Lib.hid (add_every A n c xs w h hn)
  have HH := Lib.hid h
  have HL := Lib.hid h.len
  obtain ⟨u9, hu9⟩ : ∃ u9, sumU every xs = u9 := ⟨_, rfl⟩
  obtain ⟨v9, hv9⟩ : ∃ v9, sumG every xs = v9 := ⟨_, rfl⟩
  rw [hu9, hv9] at HQ
  clear h hv9
  by_cases hz : addE every xs = 0
  · have hM := may_iff.1 hz
    have hG : unitsL xs = flatU 0 xs := by unfold unitsL; exact if_pos hz
    have HG := Lib.hid hG
    have hK := flatU_length 0 hM.fine
    have hU : u9 = qsum xs := by rw [← hu9]; unfold sumU; rw [if_pos hz]
    obtain ⟨zs, hzs⟩ := lift_ok (flatU 0 xs) (flat_ok 0 xs (by have := hM.few; omega) hM.fine)
    obtain ⟨K, hKl⟩ : ∃ K, zs.length = K := ⟨_, rfl⟩
    have hK2 : u9 = (K : Int) := by rw [hU, ← hK, ← hzs, List.length_map, hKl]
    have hK3 : K ≤ 100000 := by have := hM.units; omega
    have hnn := hM.few
    rw [HL.out] at hnn
    subst hK2
    have HM := Lib.hid (And.intro hM (And.intro hzs hKl))
    rw [hz] at HQ
    obtain ⟨M, hM1, hM2⟩ := made_out Ap.Unt.row_t K (by omega) (by omega)
    have HM2 := Lib.hid hM2
    have HM1 := Lib.hid hM1
    clear hz hu9 hG hK hU hM hzs hKl hM1 hM2
    refine (callsIn_wide (n := 8)).1 ?_
    refine callsIn_of_wp_marks Try.func17 rfl trivial ?_
    simp only [Try.ntmps17, List.size_toArray, List.length_cons, List.length_nil, Nat.reduceAdd, Nat.reduceSub, Array.replicate_succ, Array.replicate_zero, List.push_toArray, List.append_toArray, List.nil_append, List.cons_append]
    gi_wp2_with ((refine ⟨trivial, ?_⟩; gi_at_call 28; refine (callsIn_wide.2 HQ.out).mono ?_; rintro e w2 ⟨rfl, hb2⟩; have hmk := HM1.out (w2.alloc (.cells #[.int .i64 (K : Int), .int .i64 v9] 53)) ))
    obtain ⟨W3, hW3⟩ : ∃ W3, w2.alloc (.cells #[.int .i64 (K : Int), .int .i64 v9] 53) = W3 := ⟨_, rfl⟩
    have hs3 : W3.heap.size = w2.heap.size + 1 := by rw [← hW3]; simp
    have hb3 : Below w.heap.size w W3 := by rw [← hW3]; exact hb2.alloc hb2.size _
    have hO := HM2.out w W3 hb3
    obtain ⟨v0, hv0⟩ : ∃ v0, Value.slice (some ⟨w2.heap.size + 1, 0, none⟩) 0 K = v0 := ⟨_, rfl⟩
    rw [hs3, hv0] at hO
    obtain ⟨W4, hW4⟩ : ∃ W4, W3.alloc (.cells M 37) = W4 := ⟨_, rfl⟩
    have hs4 : W4.heap.size = w2.heap.size + 1 + 1 := by rw [← hW4]; simp [hs3]
    rw [hW4] at hO
    obtain ⟨b5, hb5⟩ : ∃ b5, w2.heap.size + 1 + 1 = b5 := ⟨_, rfl⟩
    rw [hb5] at hs4
    have hB5 := Boxed.new W4 38 v0
    rw [hs4] at hB5
    obtain ⟨W5, hW5⟩ : ∃ W5, W4.alloc (.cells #[v0] 38) = W5 := ⟨_, rfl⟩
    have hs5 : W5.heap.size = b5 + 1 := by rw [← hW5]; simp [hs4]
    have hrow0 : W4.ownsRow w.heap.size 37 3 v0 0 [] := by
      obtain ⟨_, cs, h1, h2⟩ := hO.own
      obtain rfl : cs = [] := h2
      exact h1
    have hrow5 : W5.ownsRow w.heap.size 37 3 v0 0 [] := by rw [← hW5]; exact hrow0.alloc _
    have hb45 : Below w.heap.size w W5 := by rw [← hW5]; exact hO.below.alloc hO.below.size _
    rw [hW5] at hB5
    rw [hW3, hW4, hv0, hb5, hW5]
    have hbl : w.heap.size ≤ b5 := by have := hO.below.size; omega
    clear hmk hb2 hW3 hs3 hb3 hO hv0 hW4 hs4 hb5 hW5 hrow0 HM1 HM2 HQ
    obtain ⟨i0, hi, hz0, hz1, hz2⟩ := info_parts Ap.Unt.info_it
    refine ⟨trivial, (callsIn_wide.2 (each_any A n c W5)).mono ?_⟩
    rintro e w9 ⟨rfl, rfl⟩
    have bN := Boxed.new W5 23 (.slice A n c)
    rw [hs5] at bN
    have hs6 : (W5.alloc (.cells #[.slice A n c] 23)).heap.size = b5 + 2 := by simp [hs5]
    have hB6 := hB5.alloc (.cells #[.slice A n c] 23)
    have hrow6 := hrow5.alloc (.cells #[.slice A n c] 23)
    have hb6 : Below w.heap.size w (W5.alloc (.cells #[.slice A n c] 23)) := hb45.alloc hb45.size _
    obtain ⟨W6, hW6⟩ : ∃ W6, W5.alloc (.cells #[.slice A n c] 23) = W6 := ⟨_, rfl⟩
    simp only [hs5]
    rw [hW6] at bN hs6 hB6 hrow6 hb6 ⊢
    clear hW6 hB5 hrow5 hb45 hs5
    gi_wp2
    obtain ⟨g3, hg3⟩ : ∃ g3, w2.heap.size = g3 := ⟨_, rfl⟩
    simp only [hg3]
    clear hg3
    refine wpIn_rangeFunc_ownH (α := UO) rfl (by decide) (gf := 48) (lb := #[.pointer (some ⟨b5 + 1, 0, none⟩)]) rfl trivial (enters_of Try.func48 (by kernel_rfl) rfl)
      (each_stops Fence.wide (8 - 1) trivial rfl (by decide) (b5 + 1) w.heap.size A n c xs HM.out.1.fine hnn zs HM.out.2.1 W6 (by omega) (by omega) bN.cell (HH.out.below hb6 (Nat.le_refl _))) (fun h k => h.trans k) (stays_put (by omega)) (Below.refl _ _) (fun _ => rfl)
      (fun pre W => (∃ v, Boxed W b5 38 v ∧ W.ownsRow w.heap.size 37 3 v pre.length (unitCells pre) ∧ True) ∧ Below w.heap.size w W)
      (fun _ _ _ => False)
      (OwnFrom.and (Own.from (holdsRow_own w.heap.size b5 38 37 3 (fun pre => pre.length) unitCells (fun _ _ => True)) _) (ownFrom_below (Nat.le_refl _) (by omega)))
      (fun _ _ _ _ _ hs _ _ => hs)
      ⟨⟨v0, hB6, hrow6, trivial⟩, hb6⟩
      (fun x a' W => ∃ Bx, W.heap[Bx]? = some (.cells #[.int .i64 x.1.line, .int .i64 x.1.net, .bool x.1.opn] 37 (0, 0)) ∧ a' = { tmps := #[.slice A n c, undef, .slice none 0 0, .pointer (some ⟨g3, 0, none⟩), .int .i64 0, .pointer (some ⟨b5, 0, none⟩), .pointer (some ⟨Bx, 0, none⟩), .tuple #[.agg #[.int .i64 (K : Int), .int .i64 v9], .int .i64 0], .slice A n c, .tuple #[.agg #[.int .i64 (K : Int), .int .i64 v9], .int .i64 0], .agg #[.int .i64 (K : Int), .int .i64 v9], .int .i64 0, .int .i64 0, .bool false, .pointer (some ⟨g3, 0, none⟩), .int .i64 (K : Int), v0, .slice A n c, .func (.func 48) #[] #[.pointer (some ⟨b5 + 1, 0, none⟩)], .agg #[.int .i64 x.1.line, .int .i64 x.1.net, .bool x.1.opn], undef, undef, undef, undef, undef], defers := [] })
      (fun x a' _ X Y row hs hg hr => by obtain ⟨Bx, h2, h3⟩ := hs; exact ⟨Bx, box_own Bx 37 _ () X Y row h2 hg (fun r e => (hr r e).2), h3⟩)
      ?assign ?body ?done ?stop
    case assign =>
      rintro l pre x W Kq ⟨⟨v, hv, hrow, _⟩, hB⟩ hKq
      simp only [encU]
      gi_wp2
      refine hKq _ _ ((KeepsOthers.alloc _ _).from _) ⟨(Below.refl _ W).alloc hB.size _, fun b cs e => (Below.heap_alloc W _ b (Array.getElem?_eq_some_iff.1 e).1).trans e⟩ ⟨⟨v, hv.alloc _, hrow.alloc _, trivial⟩, hB.alloc hB.size _⟩ ⟨W.heap.size, heap_alloc_new W _, rfl⟩
    case body =>
      rintro l pre x a' W hl ⟨r, hr⟩ ⟨⟨v, hv, hrow, _⟩, hB⟩ ⟨Bx, bX, rfl⟩ hlt
      have hlt2 : pre.length < K := by rw [← HM.out.2.2]; exact hlt
      have cv := hv.cell
      have x0 := cell_of_row W Bx 0 _ _ _ bX
      have x1 := cell_of_row W Bx 1 _ _ _ bX
      have x2 := cell_of_row W Bx 2 _ _ _ bX
      have hB2 := hB.size
      clear hr
      gi_wp2_with (gi_at_builtin; refine wpListIn_append_own _ rfl _ _ 38 rfl w.heap.size 37 i0 (.agg #[.int .i64 0, .int .i64 0, .bool false]) 3 24 Try.underlying38 hi hz0 hz1 hz2 rfl (by decide) _ _ _ rfl (hrow.alloc _) ⟨W.heap.size, 0, none⟩ 1 1 [.int .i64 x.1.line, .int .i64 x.1.net, .bool x.1.opn] rfl rfl (World.news_of_block (cs := #[.int .i64 x.1.line, .int .i64 x.1.net, .bool x.1.opn]) (t := 37) (fr := (0, 0)) (heap_alloc_new W _)) (by simp [Value.oneCell']) (by unfold maxLen; omega) (by omega) (by simp; omega) ?_; intro v' w1 hown' hgrow _; obtain ⟨g', cap', rfl⟩ := ownsRow_succ hown'; obtain ⟨hv1, hv2, hr2, hk2, hb2⟩ := hv.appended (by decide) hrow hB2 hbl hown' hgrow; have hc1 := hv1.cell; have hf1 := hv1.frozen)
      refine ⟨hk2.from _, ⟨hb2, fun b cs e => ?_⟩, ⟨⟨_, hv2, ?_, trivial⟩, hB.trans hb2⟩⟩
      · have h1 : (W.alloc (.cells #[.int .i64 x.1.line, .int .i64 x.1.net, .bool x.1.opn] 37)).heap[b]? = some (.cells cs 28 (0, 0)) := (Below.heap_alloc W _ b (Array.getElem?_eq_some_iff.1 e).1).trans e
        have h2 : some b ≠ v.ownBlock := by
          rcases hrow.2 with ⟨rfl, _⟩ | ⟨g, cap, cur, rfl, _, hgb, _⟩
          · simp [Value.ownBlock]
          · intro e'
            obtain rfl : b = g := by simpa [Value.ownBlock] using e'
            rw [hgb] at e
            simp at e
        have h3 := (hgrow.block b (Array.getElem?_eq_some_iff.1 h1).1 h2).trans h1
        have h4 : b ≠ b5 := by
          rintro rfl
          rw [show W.heap[b]? = _ from hv] at e
          simp at e
        exact (Below.heap_setCell w1 _ _ b h4).trans h3
      · rw [List.length_append, List.length_singleton, unitCells_snoc]
        exact hr2
    case done =>
      rintro D ys W hD hys ⟨⟨v, hv, hrow, _⟩, hB⟩ hK
      have cv := hv.cell
      gi_wp2
      refine ⟨by simp, .inl ⟨_, _, rfl, run_takeDeferred hK, ?_⟩⟩
      have hrow2 := ownsRow_putObj hrow (.deferred none) hK rfl
      have hbel : Below w.heap.size w (W.putObj D (.deferred none)) := hB.trans (belowK_b (w := w) (Nat.le_refl _) W D _ _ (by omega) hK rfl rfl)
      refine ⟨_, results_tmp rfl _ _ _, ?_⟩
      rw [HG.out, ← hys]
      have hlen : (ys.map Subtype.val).length = ys.length := List.length_map ..
      have hO2 : Out kUnt 37 w (W.putObj D (.deferred none)) v (ys.map Subtype.val) := ⟨⟨rfl, unitCells ys, by rw [hlen]; exact hrow2, cells_units ys⟩, hbel⟩
      exact hO2.told
    case stop =>
      rintro D c pre W _ _ h _
      exact h.elim
  · have hG : unitsL xs = [] := by unfold unitsL; exact if_neg hz
    have HG := Lib.hid hG
    obtain ⟨e9, he9⟩ : ∃ e9, addE every xs = e9 := ⟨_, rfl⟩
    rw [he9] at HQ hz
    have b1 : (e9 == 0) = false := by rw [beq_eq_false_iff_ne]; exact hz
    have b2 : (e9 != 0) = true := by rw [bne, b1]; rfl
    clear he9 hz hG hu9
    go_enter Try.func17, Try.ntmps17
    go_wp2_with fail
    refine HQ.out.mono ?_
    rintro e w2 ⟨rfl, hb2⟩
    have HB2 := Lib.hid (hb2.trans ((Below.refl _ _).alloc (Nat.le_refl _) (.cells #[.int .i64 u9, .int .i64 v9] 53) |>.mono hb2.size))
    clear hb2
    go_wp2
    go_ret
    rw [HG.out]
    exact (Out.nil kUnt 37 HB2.out).told

end Go.Proofs.Ytdmpnkhgcggepaa.Bk
