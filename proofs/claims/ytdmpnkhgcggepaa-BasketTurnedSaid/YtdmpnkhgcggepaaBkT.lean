/- Baskets: the document's Check and Items. -/
import Derived.Test.YtdmpnkhgcggepaaBkS
set_option maxRecDepth 100000

set_option linter.unusedVariables false
namespace Go.Proofs.Ytdmpnkhgcggepaa.Bk
open Go.ChangeShapes Go.WideShapes Go.ChangeAt Go.RowKit
open Ap (Lin Unt kLin kUnt row_Lin row_Unt)
open It (Itm kItem row_item)
open Kd (Kind Row Own)

theorem drawn_trans {a b c : World} (h : Hl.Drawn a b) (k : Hl.Drawn b c) : Hl.Drawn a c := by
  obtain ⟨d, rfl⟩ := k
  exact h.more d

theorem itemsL_next {its : List Itm} : ∀ {xs : List Lin} {k : Nat} {x : Lin} {i : Itm} {l : List Itm}, xs[k]? = some x → itemsL its (xs.take k) = some l → soldB its x.sku = true → its[(Gd.find x.sku its).toNat]? = some i → itemsL its (xs.take (k + 1)) = some (l ++ [i])
  | [], k, x, i, l, hx, _, _, _ => by simp at hx
  | y :: xs, 0, x, i, l, hx, hl, hs, hi => by
    simp only [List.getElem?_cons_zero, Option.some.injEq] at hx
    subst hx
    simp only [List.take_zero, itemsL, Option.some.injEq] at hl
    subst hl
    simp only [List.take_succ_cons, List.take_zero, itemsL, hs, hi, List.nil_append]
  | y :: xs, k + 1, x, i, l, hx, hl, hs, hi => by
    simp only [List.take_succ_cons, itemsL] at hl ⊢
    simp only [List.getElem?_cons_succ] at hx
    split at hl
    · rename_i a b l' h1 h2 h3
      injection hl with hl
      subst hl
      rw [itemsL_next hx h3 hs hi]
      rw [h1, h2]
      rfl
    · cases hl

theorem itemsL_bad {its : List Itm} : ∀ {xs : List Lin} {k : Nat} {x : Lin}, xs[k]? = some x → soldB its x.sku = false → itemsL its xs = none
  | [], k, x, hx, _ => by simp at hx
  | y :: xs, 0, x, hx, hs => by
    simp only [List.getElem?_cons_zero, Option.some.injEq] at hx
    subst hx
    unfold itemsL
    rw [hs]
    split
    · rename_i h1 h2 h3
      cases h2
    · rfl
  | y :: xs, k + 1, x, hx, hs => by
    simp only [List.getElem?_cons_succ] at hx
    unfold itemsL
    rw [itemsL_bad hx hs]
    split
    · rename_i h1 h2 h3
      cases h3
    · rfl

theorem itemsL_length {its : List Itm} : ∀ {xs : List Lin} {l : List Itm}, itemsL its xs = some l → l.length = xs.length
  | [], l, h => by simp only [itemsL, Option.some.injEq] at h; subst h; rfl
  | x :: xs, l, h => by
    unfold itemsL at h
    split at h
    · rename_i h1 h2 h3
      injection h with h
      subst h
      simp only [List.length_cons, itemsL_length h3]
    · cases h

theorem gotL_length (its : List Itm) (xs : List Lin) : (gotL its xs).length ≤ xs.length := by
  unfold gotL
  cases h : itemsL its xs with
  | none => simp
  | some l => simp [itemsL_length h]

theorem rcheck_any (A : Option Addr) (n c : Nat) (its : List Itm) (F : Nat → Prop) (B : Option Addr) (m d : Nat) (xs : List Lin) (G : Nat → Prop) (w : World) (hA : Row kItem w F A n its) (hn : n ≤ 1000000000000) (h : Row kLin w G B m xs) (hm : m ≤ 1000000000000) :
    Calls Try.prog 13 #[.slice A n c, .slice B m d] w fun e w' => e = .returned (.int .i64 (checkE its xs)) ∧ Hl.Drawn w w' := by
  have hlen := h.len
  by_cases hq : 1000 < m
  · have k1 : ¬ (m : Int) ≤ 1000 := by omega
    have k0 : (0 : Int) < (m : Int) := by omega
    have HE : Hid (checkE its xs = 6 ∧ mayE xs = 6) := Lib.hid ⟨addE_most (by omega), addE_most (by omega)⟩
    have HM := Lib.hid (may_any B m d xs G w h hm)
    rw [HE.out.2] at HM
    clear h hA hlen hq
    go_enter Try.func13, Try.ntmps13
    go_wp2
    go_loopw [5] (fun s5 wr => s5 = .int .i64 0 ∧ wr = w) (fun _ _ => 0)
    case atStart => exact ⟨rfl, rfl⟩
    case round =>
      obtain ⟨rfl, rfl⟩ := hrel
      go_wp2_with fail
      refine HM.out.mono ?_
      rintro e w9 ⟨rfl, hD⟩
      have HD := Lib.hid hD
      clear hD
      go_wp2_with fail
      go_ret
      exact ⟨by rw [HE.out.1]; rfl, HD.out⟩
  · have k5 : (m : Int) ≤ 1000 := by omega
    have hm2 : m ≤ 1000 := by omega
    have HH := Lib.hid h
    have HI := Lib.hid hA
    have HL := Lib.hid hlen
    clear h hA hlen hq
    go_enter Try.func13, Try.ntmps13
    go_wp2
    go_loopw [5] (fun s5 wr => ∃ k : Nat, s5 = .int .i64 k ∧ k ≤ m ∧ Hl.Drawn w wr ∧ Hid (UpTo (soldB its) xs k)) (fun s5 _ => m - (intOf s5).toNat)
    case atStart => exact ⟨0, rfl, by omega, ⟨0, rfl⟩, Lib.hid (UpTo.zero _ _)⟩
    case round =>
      obtain ⟨k, rfl, hk, hD, HU⟩ := hrel
      have kk : (0 : Int) ≤ (k : Int) := by omega
      by_cases hlt : k < m
      · obtain ⟨x, hx⟩ := HH.out.get hlt
        have HFi := Lib.hid (Gd.rfind_any A n c its x.sku F wr (HI.out.stay (by obtain ⟨q, rfl⟩ := hD; exact fun _ _ => rfl)) hn)
        obtain ⟨g, o, rfl, _, _, hok, a0, a1, a2⟩ := row_Lin HH.out hx
        have c0d : ∀ q, (w.drewN q).cell? ⟨g, o + k * 3, none⟩ = some (.string x.sku) := fun q => a0
        have c1d : ∀ q, (w.drewN q).cell? ⟨g, o + k * 3 + 1, none⟩ = some (.int .i64 x.qty) := fun q => a1
        have c2d : ∀ q, (w.drewN q).cell? ⟨g, o + k * 3 + 2, none⟩ = some (.int .i64 x.price) := fun q => a2
        have c0 : wr.cell? ⟨g, o + k * 3, none⟩ = some (.string x.sku) := by obtain ⟨q, rfl⟩ := hD; exact c0d q
        have HX := Lib.hid hx
        have k1 : (k : Int) < (m : Int) := by omega
        have N3 := Lib.hid (fun W => Py.rin_any x.price 1000000000 W)
        have HW : Hid (wrongB x = ((decide (x.qty < 0) || decide (100000 < x.qty)) || !(decide (0 ≤ x.price) && decide (x.price ≤ 1000000000)))) := Lib.hid (by rw [price_in, Bool.not_not]; rfl)
        have HD := Lib.hid hD
        obtain ⟨z, hz⟩ : ∃ z, Gd.find x.sku its = z := ⟨_, rfl⟩
        have hS : soldB its x.sku = decide (0 ≤ z) := by rw [← hz]; rfl
        rw [hz] at HFi
        have HS := Lib.hid hS
        clear a0 a1 a2 hx hok hD hz hS
        by_cases z0 : z < 0
        · have HB : Hid (checkE its xs = 7) := Lib.hid (by
            have e : soldB its x.sku = false := by rw [HS.out, decide_eq_false (by omega)]
            rw [show checkE its xs = addE (soldB its) xs from rfl, addE_wrong (by rw [HL.out]; omega) HU.out HX.out (.inl e), if_pos e])
          clear c0d c1d c2d
          go_wp2_with fail
          refine HFi.out.mono ?_
          rintro e w9 ⟨rfl, hD2⟩
          have HD2 := Lib.hid (drawn_trans HD.out hD2)
          clear hD2
          go_wp2_with fail
          go_ret
          exact ⟨by rw [HB.out]; rfl, HD2.out⟩
        · have HSo : Hid (soldB its x.sku = true) := Lib.hid (by rw [HS.out, decide_eq_true (by omega)])
          go_wp2_with fail
          refine HFi.out.mono ?_
          rintro e w9 ⟨rfl, hD2⟩
          have c1 : w9.cell? ⟨g, o + k * 3 + 1, none⟩ = some (.int .i64 x.qty) := by obtain ⟨q, rfl⟩ := drawn_trans HD.out hD2; exact c1d q
          have c2 : w9.cell? ⟨g, o + k * 3 + 2, none⟩ = some (.int .i64 x.price) := by obtain ⟨q, rfl⟩ := drawn_trans HD.out hD2; exact c2d q
          have HD2 := Lib.hid (drawn_trans HD.out hD2)
          clear hD2 c0 c0d c1d c2d
          by_cases b1 : x.qty < 0
          · have HB : Hid (checkE its xs = 2) := Lib.hid (by
              rw [show checkE its xs = addE (soldB its) xs from rfl, addE_wrong (by rw [HL.out]; omega) HU.out HX.out (.inr (by rw [HW.out, decide_eq_true b1]; rfl)), if_neg (by rw [HSo.out]; simp)])
            go_wp2_with fail
            go_ret
            exact ⟨by rw [HB.out]; rfl, HD2.out⟩
          · by_cases b2 : 100000 < x.qty
            · have HB : Hid (checkE its xs = 2) := Lib.hid (by
                rw [show checkE its xs = addE (soldB its) xs from rfl, addE_wrong (by rw [HL.out]; omega) HU.out HX.out (.inr (by rw [HW.out, decide_eq_true b2, Bool.or_true]; rfl)), if_neg (by rw [HSo.out]; simp)])
              go_wp2_with fail
              go_ret
              exact ⟨by rw [HB.out]; rfl, HD2.out⟩
            · cases n3 : (decide (0 ≤ x.price) && decide (x.price ≤ 1000000000)) with
              | false =>
                rw [n3] at N3
                have HB : Hid (checkE its xs = 2) := Lib.hid (by
                  rw [show checkE its xs = addE (soldB its) xs from rfl, addE_wrong (by rw [HL.out]; omega) HU.out HX.out (.inr (by rw [HW.out, n3]; simp)), if_neg (by rw [HSo.out]; simp)])
                clear n3
                go_wp2_with fail
                refine (N3.out _).mono ?_
                rintro e w9 ⟨rfl, rfl⟩
                go_wp2_with fail
                go_ret
                exact ⟨by rw [HB.out]; rfl, HD2.out⟩
              | true =>
                rw [n3] at N3
                have HN : Hid (UpTo (soldB its) xs (k + 1)) := Lib.hid (HU.out.next HX.out HSo.out (by rw [HW.out, n3, decide_eq_false b1, decide_eq_false b2]; rfl))
                clear n3
                go_wp2_with fail
                refine (N3.out _).mono ?_
                rintro e w9 ⟨rfl, rfl⟩
                go_wp2_with fail
                go_roundw
                case rel => exact ⟨k + 1, by go_num, by omega, HD2.out, HN⟩
                case measure => simp [intOf]; omega
      · have k1 : ¬ (k : Int) < (m : Int) := by omega
        obtain rfl : k = m := by omega
        have HT : Hid (checkE its xs = mayE xs) := Lib.hid (by
          have hf : Fine xs := UpTo.fine (sold := soldB its) (by rw [HL.out]; exact HU.out)
          rw [show checkE its xs = addE (soldB its) xs from rfl, show mayE xs = addE every xs from rfl, addE_range (by rw [HL.out]; omega) (by rw [HL.out]; exact HU.out), addE_range (by rw [HL.out]; omega) (fun i x _ hx => ⟨rfl, hf i x hx⟩)])
        have HM := Lib.hid (may_any B k d xs G wr (HH.out.stay (by obtain ⟨q, rfl⟩ := hD; exact fun _ _ => rfl)) hm)
        rw [← HT.out] at HM
        have HD := Lib.hid hD
        clear HU hD
        go_wp2_with fail
        refine HM.out.mono ?_
        rintro e w9 ⟨rfl, hD⟩
        have HD2 := Lib.hid (drawn_trans HD.out hD)
        clear hD
        go_wp2
        go_ret
        exact ⟨rfl, HD2.out⟩

set_option maxHeartbeats 1000000 in
theorem ritems_any (A : Option Addr) (n c : Nat) (its : List Itm) (B : Option Addr) (m d : Nat) (xs : List Lin) (w : World) (hA : Row kItem w (· < w.heap.size) A n its) (hn : n ≤ 1000000000000) (h : Row kLin w (· < w.heap.size) B m xs) (hm : m ≤ 1000000) :
    Calls Try.prog 21 #[.slice A n c, .slice B m d] w fun e w' => Told kItem 31 w e w' (gotL its xs) := by
  have HH := Lib.hid h
  have HI := Lib.hid hA
  have HL := Lib.hid h.len
  have HO0 := Lib.hid (Out.nil kItem 31 (Below.refl w.heap.size w))
  clear h hA
  go_enter Try.func21, Try.ntmps21
  go_wp2
  go_loopw [5, 6] (fun s5 s6 wr => ∃ (k : Nat) (l : List Itm), s6 = .int .i64 k ∧ k ≤ m ∧ Hid (itemsL its (xs.take k) = some l) ∧ Hid (Out kItem 31 w wr s5 l)) (fun _ s6 _ => m - (intOf s6).toNat)
  case atStart => exact ⟨0, [], rfl, by omega, Lib.hid (by rw [List.take_zero]; rfl), HO0⟩
  case round =>
    clear HO0
    obtain ⟨k, l, rfl, hk, HG, HO⟩ := hrel
    have kk : (0 : Int) ≤ (k : Int) := by omega
    by_cases hlt : k < m
    · obtain ⟨x, hx⟩ := HH.out.get hlt
      have HFi := Lib.hid (Gd.rfind_any A n c its x.sku _ wr (HI.out.below HO.out.below (Nat.le_refl _)) hn)
      obtain ⟨g, o, rfl, hg, _, hok, a0, _, _⟩ := row_Lin HH.out hx
      have c0 : wr.cell? ⟨g, o + k * 3, none⟩ = some (.string x.sku) := (HO.out.below.cell (p := ⟨g, _, none⟩) hg).trans a0
      have HX := Lib.hid hx
      have k1 : (k : Int) < (m : Int) := by omega
      obtain ⟨z, hz⟩ : ∃ z, Gd.find x.sku its = z := ⟨_, rfl⟩
      have hzi := Gd.find_in x.sku its
      have hS : soldB its x.sku = decide (0 ≤ z) := by rw [← hz]; rfl
      rw [hz] at HFi hzi
      have HS := Lib.hid (And.intro hS hz)
      have HLi := Lib.hid HI.out.len
      rw [HLi.out] at hzi
      obtain ⟨C, e5, hv⟩ := HO.out.own.value
      have hL : l.length = k := by rw [itemsL_length HG.out, List.length_take, HL.out]; omega
      have HLl := Lib.hid hL
      rw [hL] at hv
      subst hv
      by_cases z0 : z < 0
      · have HB : Hid (gotL its xs = []) := Lib.hid (by
          unfold gotL
          rw [itemsL_bad HX.out (by rw [HS.out.1, decide_eq_false (by omega)])]
          rfl)
        clear a0 hx hok hg hz hS hzi hL
        go_wp2_with fail
        refine HFi.out.mono ?_
        rintro e w9 ⟨rfl, hD2⟩
        have HW := Lib.hid (HO.out.below.trans (hD2.below w.heap.size))
        clear hD2
        go_wp2_with fail
        go_ret
        rw [HB.out]
        exact (Out.nil kItem 31 HW.out).told
      · obtain ⟨t, ht⟩ : ∃ t : Nat, z = (t : Int) := ⟨z.toNat, by omega⟩
        subst ht
        have htn : t < n := by omega
        obtain ⟨y, hy⟩ := HI.out.get htn
        obtain ⟨g2, o2, rfl, hg2, _, hoy, b0, b1, b2, b3⟩ := row_item HI.out hy
        have HN : Hid (itemsL its (xs.take (k + 1)) = some (l ++ [y])) := Lib.hid (itemsL_next HX.out HG.out (by rw [HS.out.1, decide_eq_true (by omega)]) (by rw [HS.out.2]; exact hy))
        have HY := Lib.hid (And.intro b0 (And.intro b1 (And.intro b2 (And.intro b3 (And.intro hg2 hoy)))))
        have t0 : (0 : Int) ≤ (t : Int) := by omega
        have t1 : (t : Int) < (n : Int) := by omega
        clear a0 hx hok hg hz hS hzi hL hy b0 b1 b2 b3 hg2 hoy
        go_wp2_with fail
        refine HFi.out.mono ?_
        rintro e w9 ⟨rfl, hD2⟩
        have HO2 := Lib.hid (HO.out.later (hD2.below _))
        have hlow := HO2.out.below.size
        have d0 : w9.cell? ⟨g2, o2 + t * 4, none⟩ = some (.string y.sku) := (HO2.out.below.cell (p := ⟨g2, _, none⟩) HY.out.2.2.2.2.1).trans HY.out.1
        have d1 : w9.cell? ⟨g2, o2 + t * 4 + 1, none⟩ = some (.string y.cat) := (HO2.out.below.cell (p := ⟨g2, _, none⟩) HY.out.2.2.2.2.1).trans HY.out.2.1
        have d2 : w9.cell? ⟨g2, o2 + t * 4 + 2, none⟩ = some (.int .i64 y.price) := (HO2.out.below.cell (p := ⟨g2, _, none⟩) HY.out.2.2.2.2.1).trans HY.out.2.2.1
        have d3 : w9.cell? ⟨g2, o2 + t * 4 + 3, none⟩ = some (.bool y.fin) := (HO2.out.below.cell (p := ⟨g2, _, none⟩) HY.out.2.2.2.2.1).trans HY.out.2.2.2.1
        have hown0 : Hid (Own kItem w9 w.heap.size 31 (fun _ => False) (.slice C k e5) k l) := Lib.hid (by have := HO2.out.own; rw [HLl.out] at this; exact this)
        have hrep : Hid (kItem.rep w9 (fun _ => False) y [.string y.sku, .string y.cat, .int .i64 y.price, .bool y.fin]) := Lib.hid (It.item_rep.2 ⟨rfl, HY.out.2.2.2.2.2⟩)
        clear hD2
        go_wp2_with ((at_builtin; refine Kd.wpList_push (W := w9) (F := fun _ => False) (B := w.heap.size) (n := k) (v := .slice C k e5) (xs := l) (y := y) (cs := [.string y.sku, .string y.cat, .int .i64 y.price, .bool y.fin]) Py.row_item_t rfl _ _ rfl rfl rfl rfl hown0.out hrep.out (by omega) (by omega) hlow (fun _ h => h.elim) ?_; intro g1 cap w' hown hgrow hfr; have HP := Lib.hid (HO2.out.push HLl.out hown hgrow); clear hown hgrow hfr))
        go_roundw
        case rel => exact ⟨k + 1, l ++ [y], by go_num, by omega, HN, HP⟩
        case measure => simp [intOf]; omega
    · have k1 : ¬ (k : Int) < (m : Int) := by omega
      obtain rfl : k = m := by omega
      have HB : Hid (gotL its xs = l) := Lib.hid (by
        have e : xs.take k = xs := List.take_of_length_le (by rw [HL.out]; omega)
        have h1 := HG.out
        rw [e] at h1
        unfold gotL
        rw [h1]; rfl)
      go_wp2
      go_ret
      rw [HB.out]
      exact HO.out.told

end Go.Proofs.Ytdmpnkhgcggepaa.Bk
