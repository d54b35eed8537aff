/- Cuts: the document's May. -/
import Derived.Test.YtljmddjlnlmenaaGreatPq6
set_option maxRecDepth 100000
set_option linter.unusedVariables false

namespace Go.Proofs.YtljmddjlnlmenaaGreat.Ct
open Go.ChangeShapes Go.WideShapes Go.ChangeAt Go.RowKit
open Ap (Unt Tir Prm kUnt kTir row_Unt row_Tir)
open Kd (Kind Row kInt row_int)
open Ko (Out Told At)
structure PUp (us : List Unt) (ms : List Int) (k : Nat) : Prop where
  at_ : ∀ (i : Nat) (m : Int), i < k -> ms[i]? = some m -> 0 <= m /\ ∃ u, us[m.toNat]? = some u /\ u.opn = true
  rise : ∀ (i : Nat) (a b : Int), i + 1 < k -> ms[i]? = some a -> ms[i + 1]? = some b -> a < b
theorem PUp.zero (us : List Unt) (ms : List Int) : PUp us ms 0 := ⟨fun i m h => by omega, fun i a b h => by omega⟩
theorem PUp.next {us : List Unt} {ms : List Int} {k t : Nat} {u : Unt} (h : PUp us ms k) (hx : ms[k]? = some (t : Int)) (hu : us[t]? = some u) (ho : u.opn = true) (hp : ∀ (z : Nat) (y : Int), k = z + 1 -> ms[z]? = some y -> y < (t : Int)) : PUp us ms (k + 1) :=
  ⟨fun i m hi hm => by
    rcases Nat.lt_or_ge i k with h1 | h1
    . exact h.at_ i m h1 hm
    . obtain rfl : i = k := by omega
      rw [hx] at hm; injection hm with hm; subst hm
      exact ⟨by omega, u, by rw [Int.toNat_natCast]; exact hu, ho⟩,
   fun i a b hi ha hb => by
    rcases Nat.lt_or_ge (i + 1) k with h1 | h1
    . exact h.rise i a b h1 ha hb
    . obtain rfl : k = i + 1 := by omega
      rw [hx] at hb; injection hb with hb; subst hb
      exact hp i a rfl ha⟩
theorem PUp.all {us : List Unt} {ms : List Int} (h : PUp us ms ms.length) : PlacesMay us ms :=
  ⟨fun i m hm => h.at_ i m (List.getElem?_eq_some_iff.1 hm).1 hm, fun i a b ha hb => h.rise i a b (List.getElem?_eq_some_iff.1 hb).1 ha hb⟩
inductive Next (us : List Unt) (ms : List Int) (n k : Nat) (x : Int) : Prop where
  | low (h : x < 0)
  | high (h0 : 0 <= x) (h : (n : Int) <= x)
  | shut (t : Nat) (u : Unt) (ht : x = (t : Int)) (hn : t < n) (hu : us[t]? = some u) (ho : u.opn = false)
  | first (t : Nat) (u : Unt) (ht : x = (t : Int)) (hn : t < n) (hu : us[t]? = some u) (ho : u.opn = true) (hk : k = 0)
  | after (t z : Nat) (u : Unt) (y : Int) (ht : x = (t : Int)) (hn : t < n) (hu : us[t]? = some u) (ho : u.opn = true) (hk : k = z + 1) (hy : ms[z]? = some y)
theorem next_of {us : List Unt} {ms : List Int} {n k : Nat} {x : Int} (hl : us.length = n) (hx : ms[k]? = some x) : Next us ms n k x := by
  by_cases h1 : x < 0
  . exact .low h1
  by_cases h2 : (n : Int) <= x
  . exact .high (by omega) h2
  obtain ⟨t, rfl⟩ : ∃ t : Nat, x = (t : Int) := ⟨x.toNat, by omega⟩
  have ht : t < n := by omega
  have hu : us[t]? = some us[t] := List.getElem?_eq_getElem (by omega)
  cases ho : (us[t]).opn with
  | false => exact .shut t _ rfl ht hu ho
  | true =>
    cases k with
    | zero => exact .first t _ rfl ht hu ho rfl
    | succ z =>
      have hz : z < ms.length := by have := (List.getElem?_eq_some_iff.1 hx).1; omega
      exact .after t z _ _ rfl ht hu ho rfl (List.getElem?_eq_getElem hz)
set_option maxHeartbeats 40000000 in
theorem may_any (A : Option Addr) (n c : Nat) (us : List Unt) (B : Option Addr) (m d : Nat) (ms : List Int) (F G : Nat -> Prop) (w : World) (h : Row kUnt w F A n us) (hn : n <= 1000000000000) (g : Row kInt w G B m ms) (hm : m <= 1000000000000) :
    Calls Tryz.prog 32 #[.slice A n c, .slice B m d] w fun e w' => e = .returned (.bool (mayB us ms)) /\ Hl.Drawn w w' := by
  have hlen := h.len
  by_cases hq : 100000 < n
  . have k1 : (100000 : Int) < (n : Int) := by omega
    have HE : Hid (mayB us ms = false) := Lib.hid (mayB_no fun hh => by have := hh.units.few; omega)
    clear h g hlen hq
    go_enter Tryz.func32, Tryz.ntmps32
    go_wp2
    go_ret
    exact ⟨by rw [HE.out]; rfl, ⟨0, rfl⟩⟩
  have k1 : ¬ (100000 : Int) < (n : Int) := by omega
  have hn5 : n <= 100000 := by omega
  have HU := Lib.hid h
  have HM := Lib.hid g
  have HL := Lib.hid hlen
  have HLm := Lib.hid g.len
  clear h g hlen hq
  go_enter Tryz.func32, Tryz.ntmps32
  go_wp2
  clear k1
  go_loopw [5, 6] (fun s5 s6 wr => ∃ k : Nat, s6 = .int .i64 k /\ s5 = .int .i64 (nsum (us.take k)) /\ k <= n /\ w = wr /\ Hid (Nets (us.take k) /\ nsum (us.take k) <= 10000000000000)) (fun _ s6 _ => n - (intOf s6).toNat)
  case atStart => exact ⟨0, rfl, rfl, by omega, rfl, Lib.hid ⟨fun k u hu => by simp at hu, by simp [nsum]⟩⟩
  case round =>
    obtain ⟨k, rfl, rfl, hk, hw, HS⟩ := hrel
    obtain rfl := hw
    have kk : (0 : Int) <= (k : Int) := by omega
    by_cases hlt : k < n
    . obtain ⟨u, hu⟩ := HU.out.get hlt
      obtain ⟨g, o, rfl, _, _, hok, _, a1, _⟩ := row_Unt HU.out hu
      have e1 := nsum_next hu
      have hs0 := HS.out.1.sum
      have hs1 := HS.out.2
      have HX := Lib.hid hu
      obtain ⟨p, hp⟩ : ∃ p, u.net = p := ⟨_, rfl⟩
      obtain ⟨S, hS⟩ : ∃ s, nsum (us.take k) = s := ⟨_, rfl⟩
      rw [hp] at a1 e1
      rw [hS] at e1 hs0 hs1
      have HP := Lib.hid (And.intro hp e1)
      have k1 : (k : Int) < (n : Int) := by omega
      simp only [hS]
      clear hu hok hp hS e1
      by_cases b1 : p < 0
      . have HE : Hid (mayB us ms = false) := Lib.hid (mayB_no fun hh => by have := hh.units.nets k u HX.out; rw [HP.out.1] at this; omega)
        go_wp2
        go_ret
        exact ⟨by rw [HE.out]; rfl, ⟨0, rfl⟩⟩
      by_cases b2 : 10000000000000 < p
      . have HE : Hid (mayB us ms = false) := Lib.hid (mayB_no fun hh => by have h1 := hh.units.nets.one HX.out; have h2 := hh.units.total; rw [HP.out.1] at h1; omega)
        go_wp2
        go_ret
        exact ⟨by rw [HE.out]; rfl, ⟨0, rfl⟩⟩
      obtain ⟨T, hT⟩ : ∃ t, S + p = t := ⟨_, rfl⟩
      have w1 : IntKind.i64.wrap (S + p) = T := by rw [hT]; exact IntWalk.i64_in _ (by omega)
      have HT : Hid (nsum (us.take (k + 1)) = T) := Lib.hid (by rw [HP.out.2, hT])
      have hT0 : 0 <= T := by omega
      clear hT
      by_cases b3 : 10000000000000 < T
      . have HE : Hid (mayB us ms = false) := Lib.hid (mayB_no fun hh => by have h1 := (hh.units.nets.part (k + 1)).2; have h2 := hh.units.total; rw [HT.out] at h1; omega)
        go_wp2
        go_ret
        exact ⟨by rw [HE.out]; rfl, ⟨0, rfl⟩⟩
      have HN : Hid (Nets (us.take (k + 1)) /\ nsum (us.take (k + 1)) <= 10000000000000) := Lib.hid ⟨fun i v hv => by
        rw [take_next HX.out] at hv
        rcases Nat.lt_or_ge i (us.take k).length with h1 | h1
        . rw [List.getElem?_append_left h1] at hv; exact HS.out.1 i v hv
        . rw [List.getElem?_append_right h1] at hv
          have : v = u := by
            have := List.mem_of_getElem? hv
            simpa using this
          subst this
          rw [HP.out.1]; omega, by rw [HT.out]; omega⟩
      go_wp2
      go_roundw
      case rel => exact ⟨k + 1, by go_num, by rw [HT.out], by omega, (by first | trivial | rfl), HN⟩
      case measure => simp [intOf]; omega
    . have k1 : ¬ (k : Int) < (n : Int) := by omega
      obtain rfl : k = n := by omega
      have HUm : Hid (UnitsMay us) := Lib.hid (by
        have e : us.take k = us := List.take_of_length_le (by rw [HL.out]; omega)
        have h1 := HS.out
        rw [e] at h1
        exact ⟨by rw [HL.out]; omega, h1.1, h1.2⟩)
      clear HS
      go_wp2
      clear k1
      go_loopw [7] (fun s7 wr => ∃ j : Nat, s7 = .int .i64 j /\ j <= m /\ Hl.Drawn w wr /\ Hid (PUp us ms j)) (fun s7 _ => m - (intOf s7).toNat)
      case atStart => exact ⟨0, rfl, by omega, ⟨0, rfl⟩, Lib.hid (PUp.zero _ _)⟩
      case round =>
        obtain ⟨j, rfl, hj, hD, HPu⟩ := hrel
        have jj : (0 : Int) <= (j : Int) := by omega
        by_cases hlt : j < m
        . obtain ⟨x, hx⟩ := HM.out.get hlt
          obtain ⟨g, o, rfl, _, _, _, a0⟩ := row_int HM.out hx
          have c0 : ∀ u, Hl.Drawn w u -> u.cell? ⟨g, o + j, none⟩ = some (.int .i64 x) := fun u hu => by obtain ⟨z, rfl⟩ := hu; exact a0
          have k1 : (j : Int) < (m : Int) := by omega
          have HX := Lib.hid hx
          have HNx := Lib.hid (next_of (n := k) HL.out hx)
          have HD := Lib.hid hD
          clear a0 hx hD
          rcases HNx.out with h | ⟨h0, h⟩ | ⟨t, u, rfl, ht, hu, ho⟩ | ⟨t, u, rfl, ht, hu, ho, hk0⟩ | ⟨t, z, u, y, rfl, ht, hu, ho, hk0, hy⟩
          . have HE : Hid (mayB us ms = false) := Lib.hid (mayB_no fun hh => by have := (hh.places.at_ j x HX.out).1; omega)
            have d1 : decide (x < 0) = true := decide_eq_true h
            clear HNx
            go_wp2_with fail
            refine wp_region_held_drew (S := fun u => Hl.Drawn w u) (by kernel_rfl) ((HD.out.more 1)) (fun hS0 => ?_)
            refine pkT 0 46 hS0 ?_
            try simp only [Act.put, pkA, pkB, pkC]
            refine pkT 1 47 hS0 ?_
            try simp only [Act.put, pkA, pkB, pkC]
            refine pkT 2 48 hS0 ?_
            try simp only [Act.put, pkA, pkB, pkC]
            refine pkT 3 49 hS0 ?_
            try simp only [Act.put, pkA, pkB, pkC]
            refine pkT 4 50 hS0 ?_
            try simp only [Act.put, pkA, pkB, pkC]
            refine pkT 5 51 hS0 ?_
            try simp only [Act.put, pkA, pkB, pkC]
            refine pkU 6 52 hS0 ?_
            try simp only [Act.put, pkA, pkB, pkC]
            refine pkU 7 53 hS0 ?_
            try simp only [Act.put, pkA, pkB, pkC]
            refine pkU 8 54 hS0 ?_
            try simp only [Act.put, pkA, pkB, pkC]
            refine pkU 9 55 hS0 ?_
            try simp only [Act.put, pkA, pkB, pkC]
            refine pkU 10 56 hS0 ?_
            try simp only [Act.put, pkA, pkB, pkC]
            refine pkU 11 57 hS0 ?_
            try simp only [Act.put, pkA, pkB, pkC]
            refine pkU 12 58 hS0 ?_
            try simp only [Act.put, pkA, pkB, pkC]
            refine pkT 13 59 hS0 ?_
            try simp only [Act.put, pkA, pkB, pkC]
            refine pkT 14 60 hS0 ?_
            try simp only [Act.put, pkA, pkB, pkC]
            refine pkU 15 61 hS0 ?_
            try simp only [Act.put, pkA, pkB, pkC]
            refine pkU 16 62 hS0 ?_
            try simp only [Act.put, pkA, pkB, pkC]
            refine pkU 17 63 hS0 ?_
            try simp only [Act.put, pkA, pkB, pkC]
            refine pkU 18 64 hS0 ?_
            try simp only [Act.put, pkA, pkB, pkC]
            refine pkU 19 65 hS0 ?_
            try simp only [Act.put, pkA, pkB, pkC]
            refine pkU 20 66 hS0 ?_
            try simp only [Act.put, pkA, pkB, pkC]
            refine pkU 21 67 hS0 ?_
            try simp only [Act.put, pkA, pkB, pkC]
            refine pkU 22 68 hS0 ?_
            try simp only [Act.put, pkA, pkB, pkC]
            refine pkU 23 69 hS0 ?_
            try simp only [Act.put, pkA, pkB, pkC]
            refine pkT 24 70 hS0 ?_
            try simp only [Act.put, pkA, pkB, pkC]
            refine pkT 25 71 hS0 ?_
            try simp only [Act.put, pkA, pkB, pkC]
            refine pkU 26 72 hS0 ?_
            try simp only [Act.put, pkA, pkB, pkC]
            refine pkU 27 73 hS0 ?_
            try simp only [Act.put, pkA, pkB, pkC]
            refine pkU 28 74 hS0 ?_
            try simp only [Act.put, pkA, pkB, pkC]
            refine pkU 29 75 hS0 ?_
            try simp only [Act.put, pkA, pkB, pkC]
            refine pkU 30 76 hS0 ?_
            try simp only [Act.put, pkA, pkB, pkC]
            refine pkU 31 77 hS0 ?_
            try simp only [Act.put, pkA, pkB, pkC]
            refine pkU 32 78 hS0 ?_
            try simp only [Act.put, pkA, pkB, pkC]
            refine pkU 33 79 hS0 ?_
            try simp only [Act.put, pkA, pkB, pkC]
            refine pkU 34 80 hS0 ?_
            try simp only [Act.put, pkA, pkB, pkC]
            refine pkU 35 81 hS0 ?_
            try simp only [Act.put, pkA, pkB, pkC]
            refine pkU 36 82 hS0 ?_
            try simp only [Act.put, pkA, pkB, pkC]
            refine pkU 37 83 hS0 ?_
            try simp only [Act.put, pkA, pkB, pkC]
            refine pkU 38 84 hS0 ?_
            try simp only [Act.put, pkA, pkB, pkC]
            refine pkU 39 85 hS0 ?_
            try simp only [Act.put, pkA, pkB, pkC]
            refine pkT 40 86 hS0 ?_
            try simp only [Act.put, pkA, pkB, pkC]
            refine wpAnyH_done (by kernel_rfl) ?_ _
            go_wp2_with fail
            go_ret
            exact ⟨by rw [HE.out]; rfl, hS0⟩
          . have HE : Hid (mayB us ms = false) := Lib.hid (mayB_no fun hh => by
              obtain ⟨_, u, hu, _⟩ := hh.places.at_ j x HX.out
              have := (List.getElem?_eq_some_iff.1 hu).1
              rw [HL.out] at this
              omega)
            have h00 : ¬ x < 0 := by omega
            have d1 : decide (x < 0) = false := decide_eq_false h00
            have d2 : decide ((k : Int) <= x) = true := decide_eq_true h
            clear HNx
            go_wp2_with fail
            refine wp_region_held_drew (S := fun u => Hl.Drawn w u) (by kernel_rfl) ((HD.out.more 1)) (fun hS0 => ?_)
            refine pkT 0 46 hS0 ?_
            try simp only [Act.put, pkA, pkB, pkC]
            refine pkT 1 47 hS0 ?_
            try simp only [Act.put, pkA, pkB, pkC]
            refine pkT 2 48 hS0 ?_
            try simp only [Act.put, pkA, pkB, pkC]
            refine pkT 3 49 hS0 ?_
            try simp only [Act.put, pkA, pkB, pkC]
            refine pkT 4 50 hS0 ?_
            try simp only [Act.put, pkA, pkB, pkC]
            refine pkT 5 51 hS0 ?_
            try simp only [Act.put, pkA, pkB, pkC]
            refine pkT 6 52 hS0 ?_
            try simp only [Act.put, pkA, pkB, pkC]
            refine pkT 7 53 hS0 ?_
            try simp only [Act.put, pkA, pkB, pkC]
            refine pkT 8 54 hS0 ?_
            try simp only [Act.put, pkA, pkB, pkC]
            refine pkT 9 55 hS0 ?_
            try simp only [Act.put, pkA, pkB, pkC]
            refine pkT 10 56 hS0 ?_
            try simp only [Act.put, pkA, pkB, pkC]
            refine pkT 11 57 hS0 ?_
            try simp only [Act.put, pkA, pkB, pkC]
            refine pkT 12 58 hS0 ?_
            try simp only [Act.put, pkA, pkB, pkC]
            refine pkT 13 59 hS0 ?_
            try simp only [Act.put, pkA, pkB, pkC]
            refine pkT 14 60 hS0 ?_
            try simp only [Act.put, pkA, pkB, pkC]
            refine pkU 15 61 hS0 ?_
            try simp only [Act.put, pkA, pkB, pkC]
            refine pkU 16 62 hS0 ?_
            try simp only [Act.put, pkA, pkB, pkC]
            refine pkU 17 63 hS0 ?_
            try simp only [Act.put, pkA, pkB, pkC]
            refine pkU 18 64 hS0 ?_
            try simp only [Act.put, pkA, pkB, pkC]
            refine pkU 19 65 hS0 ?_
            try simp only [Act.put, pkA, pkB, pkC]
            refine pkU 20 66 hS0 ?_
            try simp only [Act.put, pkA, pkB, pkC]
            refine pkU 21 67 hS0 ?_
            try simp only [Act.put, pkA, pkB, pkC]
            refine pkU 22 68 hS0 ?_
            try simp only [Act.put, pkA, pkB, pkC]
            refine pkU 23 69 hS0 ?_
            try simp only [Act.put, pkA, pkB, pkC]
            refine pkT 24 70 hS0 ?_
            try simp only [Act.put, pkA, pkB, pkC]
            refine pkT 25 71 hS0 ?_
            try simp only [Act.put, pkA, pkB, pkC]
            refine pkU 26 72 hS0 ?_
            try simp only [Act.put, pkA, pkB, pkC]
            refine pkU 27 73 hS0 ?_
            try simp only [Act.put, pkA, pkB, pkC]
            refine pkU 28 74 hS0 ?_
            try simp only [Act.put, pkA, pkB, pkC]
            refine pkU 29 75 hS0 ?_
            try simp only [Act.put, pkA, pkB, pkC]
            refine pkU 30 76 hS0 ?_
            try simp only [Act.put, pkA, pkB, pkC]
            refine pkU 31 77 hS0 ?_
            try simp only [Act.put, pkA, pkB, pkC]
            refine pkU 32 78 hS0 ?_
            try simp only [Act.put, pkA, pkB, pkC]
            refine pkU 33 79 hS0 ?_
            try simp only [Act.put, pkA, pkB, pkC]
            refine pkU 34 80 hS0 ?_
            try simp only [Act.put, pkA, pkB, pkC]
            refine pkU 35 81 hS0 ?_
            try simp only [Act.put, pkA, pkB, pkC]
            refine pkU 36 82 hS0 ?_
            try simp only [Act.put, pkA, pkB, pkC]
            refine pkU 37 83 hS0 ?_
            try simp only [Act.put, pkA, pkB, pkC]
            refine pkU 38 84 hS0 ?_
            try simp only [Act.put, pkA, pkB, pkC]
            refine pkU 39 85 hS0 ?_
            try simp only [Act.put, pkA, pkB, pkC]
            refine pkT 40 86 hS0 ?_
            try simp only [Act.put, pkA, pkB, pkC]
            refine wpAnyH_done (by kernel_rfl) ?_ _
            go_wp2_with fail
            go_ret
            exact ⟨by rw [HE.out]; rfl, hS0⟩
          . have HE : Hid (mayB us ms = false) := Lib.hid (mayB_no fun hh => by
              obtain ⟨_, v, hv, hvo⟩ := hh.places.at_ j _ HX.out
              rw [Int.toNat_natCast, hu] at hv; injection hv with hv; subst hv
              rw [ho] at hvo; cases hvo)
            obtain ⟨g2, o2, rfl, _, _, _, _, _, b2⟩ := row_Unt HU.out hu
            rw [ho] at b2
            have c2 : ∀ u, Hl.Drawn w u -> u.cell? ⟨g2, o2 + t * 3 + 2, none⟩ = some (.bool false) := fun u hu => by obtain ⟨z, rfl⟩ := hu; exact b2
            have t0 : (0 : Int) <= (t : Int) := by omega
            have t1 : (t : Int) < (k : Int) := by omega
            have h00 : ¬ (t : Int) < 0 := by omega
            have h01 : ¬ (k : Int) <= (t : Int) := by omega
            have d1 : decide ((t : Int) < 0) = false := decide_eq_false h00
            have d2 : decide ((k : Int) <= (t : Int)) = false := decide_eq_false h01
            have h03 : ¬ k <= t := by omega
            have d6 : decide (k <= t) = false := decide_eq_false h03
            clear HNx b2 hu ho
            go_wp2_with fail
            refine wp_region_held_drew (S := fun u => Hl.Drawn w u) (by kernel_rfl) ((HD.out.more 1)) (fun hS0 => ?_)
            refine pkT 0 46 hS0 ?_
            try simp only [Act.put, pkA, pkB, pkC]
            refine pkT 1 47 hS0 ?_
            try simp only [Act.put, pkA, pkB, pkC]
            refine pkT 2 48 hS0 ?_
            try simp only [Act.put, pkA, pkB, pkC]
            refine pkT 3 49 hS0 ?_
            try simp only [Act.put, pkA, pkB, pkC]
            refine pkT 4 50 hS0 ?_
            try simp only [Act.put, pkA, pkB, pkC]
            refine pkT 5 51 hS0 ?_
            try simp only [Act.put, pkA, pkB, pkC]
            refine pkT 6 52 hS0 ?_
            try simp only [Act.put, pkA, pkB, pkC]
            refine pkT 7 53 hS0 ?_
            try simp only [Act.put, pkA, pkB, pkC]
            refine pkT 8 54 hS0 ?_
            try simp only [Act.put, pkA, pkB, pkC]
            refine pkT 9 55 hS0 ?_
            try simp only [Act.put, pkA, pkB, pkC]
            refine pkT 10 56 hS0 ?_
            try simp only [Act.put, pkA, pkB, pkC]
            refine pkT 11 57 hS0 ?_
            try simp only [Act.put, pkA, pkB, pkC]
            refine pkT 12 58 hS0 ?_
            try simp only [Act.put, pkA, pkB, pkC]
            refine pkT 13 59 hS0 ?_
            try simp only [Act.put, pkA, pkB, pkC]
            refine pkT 14 60 hS0 ?_
            try simp only [Act.put, pkA, pkB, pkC]
            refine pkT 15 61 hS0 ?_
            try simp only [Act.put, pkA, pkB, pkC]
            refine pkT 16 62 hS0 ?_
            try simp only [Act.put, pkA, pkB, pkC]
            refine pkT 17 63 hS0 ?_
            try simp only [Act.put, pkA, pkB, pkC]
            refine pkT 18 64 hS0 ?_
            try simp only [Act.put, pkA, pkB, pkC]
            refine pkT 19 65 hS0 ?_
            try simp only [Act.put, pkA, pkB, pkC]
            refine pkT 20 66 hS0 ?_
            try simp only [Act.put, pkA, pkB, pkC]
            refine pkT 21 67 hS0 ?_
            try simp only [Act.put, pkA, pkB, pkC]
            refine pkT 22 68 hS0 ?_
            try simp only [Act.put, pkA, pkB, pkC]
            refine pkT 23 69 hS0 ?_
            try simp only [Act.put, pkA, pkB, pkC]
            refine pkT 24 70 hS0 ?_
            try simp only [Act.put, pkA, pkB, pkC]
            refine pkT 25 71 hS0 ?_
            try simp only [Act.put, pkA, pkB, pkC]
            refine pkU 26 72 hS0 ?_
            try simp only [Act.put, pkA, pkB, pkC]
            refine pkU 27 73 hS0 ?_
            try simp only [Act.put, pkA, pkB, pkC]
            refine pkU 28 74 hS0 ?_
            try simp only [Act.put, pkA, pkB, pkC]
            refine pkU 29 75 hS0 ?_
            try simp only [Act.put, pkA, pkB, pkC]
            refine pkU 30 76 hS0 ?_
            try simp only [Act.put, pkA, pkB, pkC]
            refine pkU 31 77 hS0 ?_
            try simp only [Act.put, pkA, pkB, pkC]
            refine pkU 32 78 hS0 ?_
            try simp only [Act.put, pkA, pkB, pkC]
            refine pkU 33 79 hS0 ?_
            try simp only [Act.put, pkA, pkB, pkC]
            refine pkU 34 80 hS0 ?_
            try simp only [Act.put, pkA, pkB, pkC]
            refine pkU 35 81 hS0 ?_
            try simp only [Act.put, pkA, pkB, pkC]
            refine pkU 36 82 hS0 ?_
            try simp only [Act.put, pkA, pkB, pkC]
            refine pkU 37 83 hS0 ?_
            try simp only [Act.put, pkA, pkB, pkC]
            refine pkU 38 84 hS0 ?_
            try simp only [Act.put, pkA, pkB, pkC]
            refine pkU 39 85 hS0 ?_
            try simp only [Act.put, pkA, pkB, pkC]
            refine pkT 40 86 hS0 ?_
            try simp only [Act.put, pkA, pkB, pkC]
            refine wpAnyH_done (by kernel_rfl) ?_ _
            go_wp2_with fail
            go_ret
            exact ⟨by rw [HE.out]; rfl, hS0⟩
          . have HN : Hid (PUp us ms (j + 1)) := Lib.hid (HPu.out.next HX.out hu ho fun z y e => by omega)
            obtain ⟨g2, o2, rfl, _, _, _, _, _, b2⟩ := row_Unt HU.out hu
            rw [ho] at b2
            have c2 : ∀ u, Hl.Drawn w u -> u.cell? ⟨g2, o2 + t * 3 + 2, none⟩ = some (.bool true) := fun u hu => by obtain ⟨z, rfl⟩ := hu; exact b2
            have t0 : (0 : Int) <= (t : Int) := by omega
            have t1 : (t : Int) < (k : Int) := by omega
            have h00 : ¬ (t : Int) < 0 := by omega
            have h01 : ¬ (k : Int) <= (t : Int) := by omega
            have d1 : decide ((t : Int) < 0) = false := decide_eq_false h00
            have d2 : decide ((k : Int) <= (t : Int)) = false := decide_eq_false h01
            have h03 : ¬ k <= t := by omega
            have d6 : decide (k <= t) = false := decide_eq_false h03
            have h02 : ¬ (0 : Int) < (j : Int) := by omega
            have d3 : decide ((0 : Int) < (j : Int)) = false := decide_eq_false h02
            have d4 : decide (0 < j) = false := decide_eq_false (by omega)
            clear HNx b2 hu ho hk0
            go_wp2_with fail
            refine wp_region_held_drew (S := fun u => Hl.Drawn w u) (by kernel_rfl) ((HD.out.more 1)) (fun hS0 => ?_)
            refine pkT 0 46 hS0 ?_
            try simp only [Act.put, pkA, pkB, pkC]
            refine pkT 1 47 hS0 ?_
            try simp only [Act.put, pkA, pkB, pkC]
            refine pkT 2 48 hS0 ?_
            try simp only [Act.put, pkA, pkB, pkC]
            refine pkT 3 49 hS0 ?_
            try simp only [Act.put, pkA, pkB, pkC]
            refine pkT 4 50 hS0 ?_
            try simp only [Act.put, pkA, pkB, pkC]
            refine pkT 5 51 hS0 ?_
            try simp only [Act.put, pkA, pkB, pkC]
            refine pkT 6 52 hS0 ?_
            try simp only [Act.put, pkA, pkB, pkC]
            refine pkT 7 53 hS0 ?_
            try simp only [Act.put, pkA, pkB, pkC]
            refine pkT 8 54 hS0 ?_
            try simp only [Act.put, pkA, pkB, pkC]
            refine pkT 9 55 hS0 ?_
            try simp only [Act.put, pkA, pkB, pkC]
            refine pkT 10 56 hS0 ?_
            try simp only [Act.put, pkA, pkB, pkC]
            refine pkT 11 57 hS0 ?_
            try simp only [Act.put, pkA, pkB, pkC]
            refine pkT 12 58 hS0 ?_
            try simp only [Act.put, pkA, pkB, pkC]
            refine pkT 13 59 hS0 ?_
            try simp only [Act.put, pkA, pkB, pkC]
            refine pkT 14 60 hS0 ?_
            try simp only [Act.put, pkA, pkB, pkC]
            refine pkT 15 61 hS0 ?_
            try simp only [Act.put, pkA, pkB, pkC]
            refine pkT 16 62 hS0 ?_
            try simp only [Act.put, pkA, pkB, pkC]
            refine pkT 17 63 hS0 ?_
            try simp only [Act.put, pkA, pkB, pkC]
            refine pkT 18 64 hS0 ?_
            try simp only [Act.put, pkA, pkB, pkC]
            refine pkT 19 65 hS0 ?_
            try simp only [Act.put, pkA, pkB, pkC]
            refine pkT 20 66 hS0 ?_
            try simp only [Act.put, pkA, pkB, pkC]
            refine pkT 21 67 hS0 ?_
            try simp only [Act.put, pkA, pkB, pkC]
            refine pkT 22 68 hS0 ?_
            try simp only [Act.put, pkA, pkB, pkC]
            refine pkT 23 69 hS0 ?_
            try simp only [Act.put, pkA, pkB, pkC]
            refine pkT 24 70 hS0 ?_
            try simp only [Act.put, pkA, pkB, pkC]
            refine pkT 25 71 hS0 ?_
            try simp only [Act.put, pkA, pkB, pkC]
            refine pkT 26 72 hS0 ?_
            try simp only [Act.put, pkA, pkB, pkC]
            refine pkT 27 73 hS0 ?_
            try simp only [Act.put, pkA, pkB, pkC]
            refine pkT 28 74 hS0 ?_
            try simp only [Act.put, pkA, pkB, pkC]
            refine pkU 29 75 hS0 ?_
            try simp only [Act.put, pkA, pkB, pkC]
            refine pkU 30 76 hS0 ?_
            try simp only [Act.put, pkA, pkB, pkC]
            refine pkU 31 77 hS0 ?_
            try simp only [Act.put, pkA, pkB, pkC]
            refine pkU 32 78 hS0 ?_
            try simp only [Act.put, pkA, pkB, pkC]
            refine pkU 33 79 hS0 ?_
            try simp only [Act.put, pkA, pkB, pkC]
            refine pkU 34 80 hS0 ?_
            try simp only [Act.put, pkA, pkB, pkC]
            refine pkU 35 81 hS0 ?_
            try simp only [Act.put, pkA, pkB, pkC]
            refine pkU 36 82 hS0 ?_
            try simp only [Act.put, pkA, pkB, pkC]
            refine pkU 37 83 hS0 ?_
            try simp only [Act.put, pkA, pkB, pkC]
            refine pkU 38 84 hS0 ?_
            try simp only [Act.put, pkA, pkB, pkC]
            refine pkT 39 85 hS0 ?_
            try simp only [Act.put, pkA, pkB, pkC]
            refine pkT 40 86 hS0 ?_
            try simp only [Act.put, pkA, pkB, pkC]
            refine wpAnyH_done (by kernel_rfl) ?_ _
            go_wp2_with fail
            go_roundw
            case rel => exact ⟨j + 1, by go_num, by omega, hS0, HN⟩
            case measure => simp [intOf]; omega
          . obtain ⟨g2, o2, rfl, _, _, _, _, _, b2⟩ := row_Unt HU.out hu
            rw [ho] at b2
            have c2 : ∀ u, Hl.Drawn w u -> u.cell? ⟨g2, o2 + t * 3 + 2, none⟩ = some (.bool true) := fun u hu => by obtain ⟨z, rfl⟩ := hu; exact b2
            obtain ⟨g3, o3, hg3, _, _, _, b3⟩ := row_int HM.out hy
            injection hg3 with hg3
            injection hg3 with hg3 ho3
            subst hg3 ho3
            have c3 : ∀ u, Hl.Drawn w u -> u.cell? ⟨g, o + z, none⟩ = some (.int .i64 y) := fun u hu => by obtain ⟨z, rfl⟩ := hu; exact b3
            have t0 : (0 : Int) <= (t : Int) := by omega
            have t1 : (t : Int) < (k : Int) := by omega
            have h00 : ¬ (t : Int) < 0 := by omega
            have h01 : ¬ (k : Int) <= (t : Int) := by omega
            have d1 : decide ((t : Int) < 0) = false := decide_eq_false h00
            have d2 : decide ((k : Int) <= (t : Int)) = false := decide_eq_false h01
            have h03 : ¬ k <= t := by omega
            have d6 : decide (k <= t) = false := decide_eq_false h03
            have h02 : (0 : Int) < (j : Int) := by omega
            have d3 : decide ((0 : Int) < (j : Int)) = true := decide_eq_true h02
            have d4 : decide (0 < j) = true := decide_eq_true (by omega)
            have wz : IntKind.i64.wrap ((j : Int) - 1) = (z : Int) := by rw [IntWalk.i64_in _ (by omega)]; omega
            have z0 : (0 : Int) <= (z : Int) := by omega
            have z1 : (z : Int) < (m : Int) := by omega
            have HY := Lib.hid (And.intro hy (And.intro hk0 (And.intro hu ho)))
            clear HNx b2 b3 hu ho hk0 hy
            by_cases hty : (t : Int) <= y
            . have HE : Hid (mayB us ms = false) := Lib.hid (mayB_no fun hh => by
                have := hh.places.rise z y (t : Int) HY.out.1 (by rw [<- HY.out.2.1]; exact HX.out)
                omega)
              have d5 : decide ((t : Int) <= y) = true := decide_eq_true hty
              go_wp2_with fail
              refine wp_region_held_drew (S := fun u => Hl.Drawn w u) (by kernel_rfl) ((HD.out.more 1)) (fun hS0 => ?_)
              refine pkT 0 46 hS0 ?_
              try simp only [Act.put, pkA, pkB, pkC]
              refine pkT 1 47 hS0 ?_
              try simp only [Act.put, pkA, pkB, pkC]
              refine pkT 2 48 hS0 ?_
              try simp only [Act.put, pkA, pkB, pkC]
              refine pkT 3 49 hS0 ?_
              try simp only [Act.put, pkA, pkB, pkC]
              refine pkT 4 50 hS0 ?_
              try simp only [Act.put, pkA, pkB, pkC]
              refine pkT 5 51 hS0 ?_
              try simp only [Act.put, pkA, pkB, pkC]
              refine pkT 6 52 hS0 ?_
              try simp only [Act.put, pkA, pkB, pkC]
              refine pkT 7 53 hS0 ?_
              try simp only [Act.put, pkA, pkB, pkC]
              refine pkT 8 54 hS0 ?_
              try simp only [Act.put, pkA, pkB, pkC]
              refine pkT 9 55 hS0 ?_
              try simp only [Act.put, pkA, pkB, pkC]
              refine pkT 10 56 hS0 ?_
              try simp only [Act.put, pkA, pkB, pkC]
              refine pkT 11 57 hS0 ?_
              try simp only [Act.put, pkA, pkB, pkC]
              refine pkT 12 58 hS0 ?_
              try simp only [Act.put, pkA, pkB, pkC]
              refine pkT 13 59 hS0 ?_
              try simp only [Act.put, pkA, pkB, pkC]
              refine pkT 14 60 hS0 ?_
              try simp only [Act.put, pkA, pkB, pkC]
              refine pkT 15 61 hS0 ?_
              try simp only [Act.put, pkA, pkB, pkC]
              refine pkT 16 62 hS0 ?_
              try simp only [Act.put, pkA, pkB, pkC]
              refine pkT 17 63 hS0 ?_
              try simp only [Act.put, pkA, pkB, pkC]
              refine pkT 18 64 hS0 ?_
              try simp only [Act.put, pkA, pkB, pkC]
              refine pkT 19 65 hS0 ?_
              try simp only [Act.put, pkA, pkB, pkC]
              refine pkT 20 66 hS0 ?_
              try simp only [Act.put, pkA, pkB, pkC]
              refine pkT 21 67 hS0 ?_
              try simp only [Act.put, pkA, pkB, pkC]
              refine pkT 22 68 hS0 ?_
              try simp only [Act.put, pkA, pkB, pkC]
              refine pkT 23 69 hS0 ?_
              try simp only [Act.put, pkA, pkB, pkC]
              refine pkT 24 70 hS0 ?_
              try simp only [Act.put, pkA, pkB, pkC]
              refine pkT 25 71 hS0 ?_
              try simp only [Act.put, pkA, pkB, pkC]
              refine pkT 26 72 hS0 ?_
              try simp only [Act.put, pkA, pkB, pkC]
              refine pkT 27 73 hS0 ?_
              try simp only [Act.put, pkA, pkB, pkC]
              refine pkT 28 74 hS0 ?_
              try simp only [Act.put, pkA, pkB, pkC]
              refine pkT 29 75 hS0 ?_
              try simp only [Act.put, pkA, pkB, pkC]
              refine pkT 30 76 hS0 ?_
              try simp only [Act.put, pkA, pkB, pkC]
              refine pkT 31 77 hS0 ?_
              try simp only [Act.put, pkA, pkB, pkC]
              refine pkT 32 78 hS0 ?_
              try simp only [Act.put, pkA, pkB, pkC]
              refine pkT 33 79 hS0 ?_
              try simp only [Act.put, pkA, pkB, pkC]
              refine pkT 34 80 hS0 ?_
              try simp only [Act.put, pkA, pkB, pkC]
              refine pkT 35 81 hS0 ?_
              try simp only [Act.put, pkA, pkB, pkC]
              refine pkT 36 82 hS0 ?_
              try simp only [Act.put, pkA, pkB, pkC]
              refine pkT 37 83 hS0 ?_
              try simp only [Act.put, pkA, pkB, pkC]
              refine pkT 38 84 hS0 ?_
              try simp only [Act.put, pkA, pkB, pkC]
              refine pkT 39 85 hS0 ?_
              try simp only [Act.put, pkA, pkB, pkC]
              refine pkT 40 86 hS0 ?_
              try simp only [Act.put, pkA, pkB, pkC]
              refine wpAnyH_done (by kernel_rfl) ?_ _
              go_wp2_with fail
              go_ret
              exact ⟨by rw [HE.out]; rfl, hS0⟩
            . have HN : Hid (PUp us ms (j + 1)) := Lib.hid (HPu.out.next HX.out HY.out.2.2.1 HY.out.2.2.2 fun z' y' e hy' => by
                have h1 := HY.out.2.1
                obtain rfl : z' = z := by omega
                rw [HY.out.1] at hy'; injection hy' with hy'; omega)
              have d5 : decide ((t : Int) <= y) = false := decide_eq_false hty
              go_wp2_with fail
              refine wp_region_held_drew (S := fun u => Hl.Drawn w u) (by kernel_rfl) ((HD.out.more 1)) (fun hS0 => ?_)
              refine pkT 0 46 hS0 ?_
              try simp only [Act.put, pkA, pkB, pkC]
              refine pkT 1 47 hS0 ?_
              try simp only [Act.put, pkA, pkB, pkC]
              refine pkT 2 48 hS0 ?_
              try simp only [Act.put, pkA, pkB, pkC]
              refine pkT 3 49 hS0 ?_
              try simp only [Act.put, pkA, pkB, pkC]
              refine pkT 4 50 hS0 ?_
              try simp only [Act.put, pkA, pkB, pkC]
              refine pkT 5 51 hS0 ?_
              try simp only [Act.put, pkA, pkB, pkC]
              refine pkT 6 52 hS0 ?_
              try simp only [Act.put, pkA, pkB, pkC]
              refine pkT 7 53 hS0 ?_
              try simp only [Act.put, pkA, pkB, pkC]
              refine pkT 8 54 hS0 ?_
              try simp only [Act.put, pkA, pkB, pkC]
              refine pkT 9 55 hS0 ?_
              try simp only [Act.put, pkA, pkB, pkC]
              refine pkT 10 56 hS0 ?_
              try simp only [Act.put, pkA, pkB, pkC]
              refine pkT 11 57 hS0 ?_
              try simp only [Act.put, pkA, pkB, pkC]
              refine pkT 12 58 hS0 ?_
              try simp only [Act.put, pkA, pkB, pkC]
              refine pkT 13 59 hS0 ?_
              try simp only [Act.put, pkA, pkB, pkC]
              refine pkT 14 60 hS0 ?_
              try simp only [Act.put, pkA, pkB, pkC]
              refine pkT 15 61 hS0 ?_
              try simp only [Act.put, pkA, pkB, pkC]
              refine pkT 16 62 hS0 ?_
              try simp only [Act.put, pkA, pkB, pkC]
              refine pkT 17 63 hS0 ?_
              try simp only [Act.put, pkA, pkB, pkC]
              refine pkT 18 64 hS0 ?_
              try simp only [Act.put, pkA, pkB, pkC]
              refine pkT 19 65 hS0 ?_
              try simp only [Act.put, pkA, pkB, pkC]
              refine pkT 20 66 hS0 ?_
              try simp only [Act.put, pkA, pkB, pkC]
              refine pkT 21 67 hS0 ?_
              try simp only [Act.put, pkA, pkB, pkC]
              refine pkT 22 68 hS0 ?_
              try simp only [Act.put, pkA, pkB, pkC]
              refine pkT 23 69 hS0 ?_
              try simp only [Act.put, pkA, pkB, pkC]
              refine pkT 24 70 hS0 ?_
              try simp only [Act.put, pkA, pkB, pkC]
              refine pkT 25 71 hS0 ?_
              try simp only [Act.put, pkA, pkB, pkC]
              refine pkT 26 72 hS0 ?_
              try simp only [Act.put, pkA, pkB, pkC]
              refine pkT 27 73 hS0 ?_
              try simp only [Act.put, pkA, pkB, pkC]
              refine pkT 28 74 hS0 ?_
              try simp only [Act.put, pkA, pkB, pkC]
              refine pkT 29 75 hS0 ?_
              try simp only [Act.put, pkA, pkB, pkC]
              refine pkT 30 76 hS0 ?_
              try simp only [Act.put, pkA, pkB, pkC]
              refine pkT 31 77 hS0 ?_
              try simp only [Act.put, pkA, pkB, pkC]
              refine pkT 32 78 hS0 ?_
              try simp only [Act.put, pkA, pkB, pkC]
              refine pkT 33 79 hS0 ?_
              try simp only [Act.put, pkA, pkB, pkC]
              refine pkT 34 80 hS0 ?_
              try simp only [Act.put, pkA, pkB, pkC]
              refine pkT 35 81 hS0 ?_
              try simp only [Act.put, pkA, pkB, pkC]
              refine pkT 36 82 hS0 ?_
              try simp only [Act.put, pkA, pkB, pkC]
              refine pkT 37 83 hS0 ?_
              try simp only [Act.put, pkA, pkB, pkC]
              refine pkT 38 84 hS0 ?_
              try simp only [Act.put, pkA, pkB, pkC]
              refine pkT 39 85 hS0 ?_
              try simp only [Act.put, pkA, pkB, pkC]
              refine pkT 40 86 hS0 ?_
              try simp only [Act.put, pkA, pkB, pkC]
              refine wpAnyH_done (by kernel_rfl) ?_ _
              go_wp2_with fail
              go_roundw
              case rel => exact ⟨j + 1, by go_num, by omega, hS0, HN⟩
              case measure => simp [intOf]; omega
        . have k1 : ¬ (j : Int) < (m : Int) := by omega
          obtain rfl : j = m := by omega
          have HE : Hid (mayB us ms = true) := Lib.hid (mayB_yes ⟨HUm.out, PUp.all (by rw [HLm.out]; exact HPu.out)⟩)
          go_wp2
          go_ret
          exact ⟨by rw [HE.out]; rfl, hD⟩
end Go.Proofs.YtljmddjlnlmenaaGreat.Ct
