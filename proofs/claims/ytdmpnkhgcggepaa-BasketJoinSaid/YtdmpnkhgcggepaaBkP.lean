/- Baskets: the statements' Lines, as a function of the lines that are drawn. -/
import Derived.Test.YtdmpnkhgcggepaaBkS
import Derived.Test.YtdmpnkhgcggepaaApHL
set_option maxRecDepth 100000

set_option linter.unusedVariables false
namespace Go.Proofs.Ytdmpnkhgcggepaa.Bk
open Go.ChangeShapes Go.WideShapes Go.ChangeAt Go.RowKit
open Ap (Lin Unt kLin kUnt row_Lin row_Unt)
open Kd (Kind Row Own)
open Py (modN modN_lt mod_any mod64_any skuS pickS pick_any sku_any)

def lineAt (x : Lin) : Lin := ⟨skuS (modN (pickS x.sku) 8), (modN x.qty 10 : Int), (modN x.price 4000 : Int)⟩

def linesOf (xs : List Lin) : List Lin := (xs.take 8).map lineAt

theorem linesOf_length (xs : List Lin) : (linesOf xs).length ≤ 8 := by unfold linesOf; rw [List.length_map, List.length_take]; omega

theorem line_fine (x : Lin) : 0 ≤ (lineAt x).qty ∧ (lineAt x).qty < 10 ∧ 0 ≤ (lineAt x).price ∧ (lineAt x).price < 4000 := by
  have h1 := modN_lt x.qty 10 (by omega)
  have h2 := modN_lt x.price 4000 (by omega)
  unfold lineAt
  dsimp only
  omega

theorem lineAt_ok (x : Lin) : (lineAt x).ok := by
  obtain ⟨a, b, c, d⟩ := line_fine x
  exact ⟨by show (skuS _).size ≤ maxLen; rw [show (skuS _).size = 1 from Py.chr_size _]; decide, by omega, by omega⟩

theorem linesOf_at {xs : List Lin} {k : Nat} {y : Lin} (h : (linesOf xs)[k]? = some y) : ∃ x, y = lineAt x := by
  unfold linesOf at h
  rw [List.getElem?_map] at h
  cases hx : (xs.take 8)[k]? with
  | none => rw [hx] at h; cases h
  | some x => rw [hx] at h; injection h with h; exact ⟨x, h.symm⟩

theorem lines_may (xs : List Lin) : May (linesOf xs) := by
  have hl := linesOf_length xs
  have hf : Fine (linesOf xs) := fun i y hy => by
    obtain ⟨x, rfl⟩ := linesOf_at hy
    have := line_fine x
    exact fine_iff.2 (by omega)
  have hb : ∀ (l : List Lin), (∀ y ∈ l, ∃ x, y = lineAt x) → qsum l ≤ 10 * (l.length : Int) ∧ gsum l ≤ 40000 * (l.length : Int) := by
    intro l
    induction l with
    | nil => intro _; simp [qsum, gsum]
    | cons y l ih =>
      intro h
      obtain ⟨x, rfl⟩ := h y List.mem_cons_self
      obtain ⟨h1, h2⟩ := ih fun z hz => h z (List.mem_cons_of_mem _ hz)
      obtain ⟨a, b, c, d⟩ := line_fine x
      have hp : (lineAt x).qty * (lineAt x).price ≤ 10 * 4000 := Int.mul_le_mul (by omega) (by omega) c (by omega)
      simp only [qsum, gsum, List.length_cons]
      omega
  have h := hb (linesOf xs) fun y hy => by
    obtain ⟨k, hk⟩ := List.mem_iff_getElem?.1 hy
    exact linesOf_at hk
  exact ⟨by omega, hf, by omega, by omega⟩

theorem row_lin_t : Kd.RowT Try.prog kLin 23 28 (.agg #[.string ⟨#[]⟩, .int .i64 0, .int .i64 0]) 3 32 := Ap.Lin.row_t

set_option maxHeartbeats 2000000 in
theorem lines_any (A : Option Addr) (n c : Nat) (xs : List Lin) (w : World) (h : Row kLin w (· < w.heap.size) A n xs) (hn : n ≤ 1000000000000) :
    Calls Try.prog 25 #[.slice A n c] w fun e w' => Told kLin 28 w e w' (linesOf xs) := by
  have HH := Lib.hid h
  have HL := Lib.hid h.len
  have HO0 := Lib.hid (Out.nil kLin 28 (Below.refl w.heap.size w))
  clear h
  go_enter Try.func25, Try.ntmps25
  go_wp2
  go_loopw [3, 4] (fun s3 s4 wr => ∃ k : Nat, s4 = .int .i64 k ∧ k ≤ n ∧ k ≤ 8 ∧ Hid (Out kLin 28 w wr s3 ((xs.take k).map lineAt))) (fun _ s4 _ => 8 - (intOf s4).toNat)
  case atStart => exact ⟨0, rfl, Nat.zero_le _, by omega, Lib.hid (by rw [List.take_zero]; exact HO0.out)⟩
  case round =>
    clear HO0
    obtain ⟨k, rfl, hk, hk8, HO⟩ := hrel
    have kk : (0 : Int) ≤ (k : Int) := by omega
    have hlen : ((xs.take k).map lineAt).length = k := by rw [List.length_map, List.length_take, HL.out]; omega
    have HLk := Lib.hid hlen
    by_cases hlt : k < n
    · have k1 : (k : Int) < (n : Int) := by omega
      by_cases h8 : k < 8
      · have k2 : (k : Int) < 8 := by omega
        obtain ⟨x, hx⟩ := HH.out.get hlt
        obtain ⟨g, o, rfl, hg, _, hok, a0, a1, a2⟩ := row_Lin HH.out hx
        have hgr : g < wr.heap.size := Nat.lt_of_lt_of_le hg HO.out.below.size
        have c0 : ∀ u, Below w.heap.size w u → u.cell? ⟨g, o + k * 3, none⟩ = some (.string x.sku) := fun u hu => (hu.cell (p := ⟨g, _, none⟩) hg).trans a0
        have c1 : ∀ u, Below w.heap.size w u → u.cell? ⟨g, o + k * 3 + 1, none⟩ = some (.int .i64 x.qty) := fun u hu => (hu.cell (p := ⟨g, _, none⟩) hg).trans a1
        have c2 : ∀ u, Below w.heap.size w u → u.cell? ⟨g, o + k * 3 + 2, none⟩ = some (.int .i64 x.price) := fun u hu => (hu.cell (p := ⟨g, _, none⟩) hg).trans a2
        obtain ⟨v1, hv1⟩ : ∃ v, pickS x.sku = v := ⟨_, rfl⟩
        obtain ⟨v2, hv2⟩ : ∃ v, modN x.qty 10 = v := ⟨_, rfl⟩
        obtain ⟨v3, hv3⟩ : ∃ v, modN x.price 4000 = v := ⟨_, rfl⟩
        obtain ⟨st, hst⟩ : ∃ s, skuS (modN v1 8) = s := ⟨_, rfl⟩
        have HA : Hid (lineAt x = ⟨st, (v2 : Int), (v3 : Int)⟩) := Lib.hid (by unfold lineAt; rw [hv1, hv2, hv3, hst])
        have H0 := Lib.hid (fun W => pick_any x.sku W hok.sku)
        have H1 := Lib.hid (fun W => sku_any v1 W)
        have H2 := Lib.hid (fun W => mod_any x.qty 10 W (by omega) (by omega))
        have H3 := Lib.hid (fun W => mod64_any x.price 4000 W (by omega) (by omega))
        simp only [hv1] at H0
        simp only [hst] at H1
        simp only [hv2] at H2
        simp only [hv3] at H3
        have HN : Hid ((xs.take (k + 1)).map lineAt = (xs.take k).map lineAt ++ [⟨st, (v2 : Int), (v3 : Int)⟩]) := Lib.hid (by rw [take_next hx, List.map_append, ← HA.out]; rfl)
        have HOk : Hid ((⟨st, (v2 : Int), (v3 : Int)⟩ : Lin).ok) := Lib.hid (by rw [← HA.out]; exact lineAt_ok x)
        obtain ⟨us, hus⟩ : ∃ us, (xs.take k).map lineAt = us := ⟨_, rfl⟩
        rw [hus] at HO hlen HN
        have HU := Lib.hid hus
        obtain ⟨B, d, hv⟩ := HO.out.own.value
        rw [hlen] at hv
        subst hv
        have hown0 : Hid (Own kLin wr w.heap.size 28 (fun _ => False) (.slice B k d) k us) := Lib.hid (by have := HO.out.own; rw [hlen] at this; exact this)
        have HLn := Lib.hid hlen
        have hlow := HO.out.below.size
        clear hx a0 a1 a2 hok hg hgr hv1 hv2 hv3 hst hus hlen HLk
        go_wp2_with fail
        go_region_held3 (fun u => Below w.heap.size w u)
          (first
            | assumption
            | (repeat (first | assumption | exact HO.out.below | refine Below.drew ?_ | refine Kd.below_alloc ?_ _)))
          (first
            | (go_at_call 43; with_reducible refine (H0.out _).mono ?_; rintro e wa ⟨rfl, rfl⟩)
            | (go_at_call 26; with_reducible refine (H2.out _).mono ?_; rintro e wb ⟨rfl, hw⟩; obtain rfl := hw.symm)
            | (go_at_call 27; with_reducible refine (H3.out _).mono ?_; rintro e wc ⟨rfl, hw⟩; obtain rfl := hw.symm)
            | (go_at_call 41; with_reducible refine (H1.out _).mono ?_; rintro e ws ⟨rfl, hsk⟩; have hbs : Below wr.heap.size wr ws := Hk.andThen (by (repeat (first | exact Below.refl _ _ | refine Below.drew ?_))) hsk; have hbw := hbs.size; have hbz : Below w.heap.size w ws := HO.out.below.trans (hbs.mono HO.out.below.size))
            | (refine Kd.step_push (o := ⟨some 37, _, _, _, _, _⟩) (W := ws) (F := fun _ => False) (B := w.heap.size) (n := k) (v := .slice B k d) (xs := us) (y := ⟨st, (v2 : Int), (v3 : Int)⟩) (cs := [.string st, .int .i64 (v2 : Int), .int .i64 (v3 : Int)]) row_lin_t rfl (.tmp 15) (.tmp 36) rfl rfl rfl rfl ?_ (Ap.Lin_rep.2 ⟨rfl, HOk.out⟩) (by omega) (by omega) (by omega) (fun _ h => h.elim) ?_; (next => exact hown0.out.later hbs); (intro g1 cap w9 hown hgrow hfr; have HP := Lib.hid ((HO.out.later hbs).push HLn.out hown hgrow); have hS9 : Below w.heap.size w w9 := HP.out.below)))
        all_goals
          clear hown hgrow hfr
          go_wp2_with fail
          go_roundw
          case rel => exact ⟨k + 1, by go_num, by omega, by omega, Lib.hid (by rw [HN.out]; exact HP.out)⟩
          case measure => simp [intOf]; omega
      · have k2 : ¬ (k : Int) < 8 := by omega
        have HB : Hid (linesOf xs = (xs.take k).map lineAt) := Lib.hid (by unfold linesOf; rw [show k = 8 by omega])
        go_wp2
        go_ret
        rw [HB.out]
        exact HO.out.told
    · have k1 : ¬ (k : Int) < (n : Int) := by omega
      have HB : Hid (linesOf xs = (xs.take k).map lineAt) := Lib.hid (by unfold linesOf; rw [List.take_of_length_le (by rw [HL.out]; omega), List.take_of_length_le (by rw [HL.out]; omega)])
      go_wp2
      go_ret
      rw [HB.out]
      exact HO.out.told

end Go.Proofs.Ytdmpnkhgcggepaa.Bk
