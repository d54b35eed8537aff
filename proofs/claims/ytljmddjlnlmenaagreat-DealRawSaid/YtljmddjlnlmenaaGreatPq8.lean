/- Cuts: the statements' Units and Mine, as functions of what is drawn. -/
import Derived.Test.YtljmddjlnlmenaaGreatPq6
import Derived.Test.YtljmddjlnlmenaaGreatPq7
set_option maxRecDepth 100000
set_option linter.unusedVariables false

namespace Go.Proofs.YtljmddjlnlmenaaGreat.Ct
open Go.ChangeShapes Go.WideShapes Go.ChangeAt Go.RowKit
open Ap (Unt Tir Prm kUnt kTir row_Unt row_Tir)
open Kd (Kind Row kInt row_int)
open Ko (Out Told At)
open Py (modN modN_lt mod_any mod64_any)
def unitAt (i : Nat) (u : Unt) : Unt := ⟨(modN u.line 9 : Int), (modN u.net 3000 : Int), u.opn || (i % 3 == 0)⟩
def unitsFrom : Nat -> List Unt -> List Unt
  | _, [] => []
  | i, u :: us => unitAt i u :: unitsFrom (i + 1) us
def unitsOf (us : List Unt) : List Unt := unitsFrom 0 (us.take 60)
theorem unitsFrom_length : ∀ (i : Nat) (us : List Unt), (unitsFrom i us).length = us.length
  | _, [] => rfl
  | i, u :: us => by rw [unitsFrom, List.length_cons, List.length_cons, unitsFrom_length]
theorem unitsFrom_append : ∀ (i : Nat) (a b : List Unt), unitsFrom i (a ++ b) = unitsFrom i a ++ unitsFrom (i + a.length) b
  | i, [], b => rfl
  | i, u :: a, b => by
    show unitAt i u :: unitsFrom (i + 1) (a ++ b) = unitAt i u :: unitsFrom (i + 1) a ++ unitsFrom (i + (a.length + 1)) b
    rw [unitsFrom_append (i + 1) a b, show i + 1 + a.length = i + (a.length + 1) by omega]
    rfl
theorem unitsFrom_next {us : List Unt} {k : Nat} {u : Unt} (h : us[k]? = some u) : unitsFrom 0 (us.take (k + 1)) = unitsFrom 0 (us.take k) ++ [unitAt k u] := by
  have hl : (us.take k).length = k := by rw [List.length_take]; have := (List.getElem?_eq_some_iff.1 h).1; omega
  rw [take_next h, unitsFrom_append, hl, Nat.zero_add]; rfl
theorem unitsOf_length (us : List Unt) : (unitsOf us).length <= 60 := by unfold unitsOf; rw [unitsFrom_length, List.length_take]; omega
theorem unitsFrom_at : ∀ {i k : Nat} {us : List Unt} {v : Unt}, (unitsFrom i us)[k]? = some v -> ∃ u, us[k]? = some u /\ v = unitAt (i + k) u
  | i, k, [], v, h => by simp [unitsFrom] at h
  | i, 0, u :: us, v, h => by
    simp only [unitsFrom, List.getElem?_cons_zero, Option.some.injEq] at h
    exact ⟨u, rfl, h.symm⟩
  | i, k + 1, u :: us, v, h => by
    simp only [unitsFrom, List.getElem?_cons_succ] at h
    obtain ⟨x, hx, rfl⟩ := unitsFrom_at h
    exact ⟨x, hx, by rw [show i + 1 + k = i + (k + 1) by omega]⟩
theorem unitAt_fine (i : Nat) (u : Unt) : (0 <= (unitAt i u).line /\ (unitAt i u).line < 9) /\ 0 <= (unitAt i u).net /\ (unitAt i u).net < 3000 := by
  have h1 := modN_lt u.line 9 (by omega)
  have h2 := modN_lt u.net 3000 (by omega)
  unfold unitAt
  dsimp only
  omega
theorem unitAt_ok (i : Nat) (u : Unt) : (unitAt i u).ok := by
  have h := unitAt_fine i u
  exact ⟨by omega, by omega⟩
theorem nsum_most : ∀ {us : List Unt}, (∀ v ∈ us, 0 <= v.net /\ v.net < 3000) -> nsum us <= 3000 * (us.length : Int)
  | [], _ => by simp [nsum]
  | u :: us, h => by
    have h1 := h u List.mem_cons_self
    have h2 := nsum_most fun v hv => h v (List.mem_cons_of_mem _ hv)
    simp only [nsum, List.length_cons]; omega
theorem unitsOf_may (us : List Unt) : UnitsMay (unitsOf us) := by
  have hl := unitsOf_length us
  have he : ∀ (k : Nat) (v : Unt), (unitsOf us)[k]? = some v -> 0 <= v.net /\ v.net < 3000 := fun k v hv => by
    obtain ⟨u, _, rfl⟩ := unitsFrom_at hv
    exact (unitAt_fine _ u).2
  have h := nsum_most (us := unitsOf us) fun v hv => by
    obtain ⟨k, hk⟩ := List.mem_iff_getElem?.1 hv
    exact he k v hk
  exact ⟨by omega, fun k v hv => (he k v hv).1, by omega⟩
def mineB (bits : Int) (i : Nat) : Bool := bits / 2 ^ (i % 64) % 2 == 1
def mineFrom (bits : Int) : Nat -> List Unt -> List Int
  | _, [] => []
  | i, u :: us => if u.opn && mineB bits i then (i : Int) :: mineFrom bits (i + 1) us else mineFrom bits (i + 1) us
def mineL (bits : Int) (us : List Unt) : List Int := mineFrom bits 0 us
theorem mineFrom_append (bits : Int) : ∀ (i : Nat) (a b : List Unt), mineFrom bits i (a ++ b) = mineFrom bits i a ++ mineFrom bits (i + a.length) b
  | i, [], b => rfl
  | i, u :: a, b => by
    have h := mineFrom_append bits (i + 1) a b
    rw [show i + 1 + a.length = i + (u :: a).length by simp only [List.length_cons]; omega] at h
    simp only [List.cons_append, mineFrom, h]
    split <;> rfl
theorem mineFrom_next {bits : Int} {us : List Unt} {k : Nat} {u : Unt} (h : us[k]? = some u) : mineFrom bits 0 (us.take (k + 1)) = mineFrom bits 0 (us.take k) ++ (if u.opn && mineB bits k then [(k : Int)] else []) := by
  have hl : (us.take k).length = k := by rw [List.length_take]; have := (List.getElem?_eq_some_iff.1 h).1; omega
  rw [take_next h, mineFrom_append, hl, Nat.zero_add]
  simp only [mineFrom]
theorem mineFrom_length (bits : Int) : ∀ (i : Nat) (us : List Unt), (mineFrom bits i us).length <= us.length
  | _, [] => Nat.le_refl _
  | i, u :: us => by
    have := mineFrom_length bits (i + 1) us
    simp only [mineFrom]
    split
    . simp only [List.length_cons]; omega
    . simp only [List.length_cons]; omega
theorem mineFrom_at (bits : Int) : ∀ {i k : Nat} {us : List Unt} {m : Int}, (mineFrom bits i us)[k]? = some m -> ∃ t u, m = ((i + t : Nat) : Int) /\ us[t]? = some u /\ u.opn = true
  | i, k, [], m, h => by simp [mineFrom] at h
  | i, k, u :: us, m, h => by
    simp only [mineFrom] at h
    split at h
    . rename_i ho
      cases k with
      | zero =>
        simp only [List.getElem?_cons_zero, Option.some.injEq] at h
        exact ⟨0, u, h.symm, rfl, (Bool.and_eq_true _ _ ▸ ho).1⟩
      | succ k =>
        simp only [List.getElem?_cons_succ] at h
        obtain ⟨t, v, rfl, hv, hvo⟩ := mineFrom_at bits h
        exact ⟨t + 1, v, by congr 1; omega, hv, hvo⟩
    . obtain ⟨t, v, rfl, hv, hvo⟩ := mineFrom_at bits h
      exact ⟨t + 1, v, by congr 1; omega, hv, hvo⟩
theorem mineFrom_rise (bits : Int) : ∀ {i k : Nat} {us : List Unt} {a b : Int}, (mineFrom bits i us)[k]? = some a -> (mineFrom bits i us)[k + 1]? = some b -> a < b
  | i, k, [], a, b, h, _ => by simp [mineFrom] at h
  | i, k, u :: us, a, b, h, g => by
    simp only [mineFrom] at h g
    split at h
    . rename_i ho
      rw [if_pos ho] at g
      cases k with
      | zero =>
        simp only [List.getElem?_cons_zero, Option.some.injEq] at h
        simp only [Nat.zero_add, List.getElem?_cons_succ] at g
        obtain ⟨t, v, rfl, _, _⟩ := mineFrom_at bits g
        subst h
        omega
      | succ k =>
        simp only [List.getElem?_cons_succ] at h g
        exact mineFrom_rise bits h g
    . rename_i ho
      rw [if_neg ho] at g
      exact mineFrom_rise bits h g
theorem mine_may (bits : Int) (us : List Unt) : PlacesMay us (mineL bits us) :=
  ⟨fun i m hm => by
    obtain ⟨t, u, rfl, hu, ho⟩ := mineFrom_at bits hm
    rw [Nat.zero_add]
    exact ⟨by omega, u, by rw [Int.toNat_natCast]; exact hu, ho⟩, fun i a b ha hb => mineFrom_rise bits ha hb⟩
theorem place_ok {k : Nat} (h : k <= 100000) : -9223372036854775808 <= (k : Int) /\ (k : Int) <= 9223372036854775807 := by omega
theorem and1u (m : Int) : Go.bits BinOp.and IntKind.u64 m 1 = m % 2 := by
  have one : (BitVec.ofInt 64 1).toNat = 2 ^ 1 - 1 := by decide
  have low : (BitVec.ofInt 64 m &&& BitVec.ofInt 64 1).toNat = (m % ((2 ^ 64 : Nat) : Int)).toNat % 2 := by
    rw [BitVec.toNat_and, BitVec.toNat_ofInt, one, Nat.and_two_pow_sub_one_eq_mod]
  show IntKind.u64.wrap (((BitVec.ofInt 64 m &&& BitVec.ofInt 64 1).toNat : Nat) : Int) = m % 2
  rw [low, IntKind.wrap_u64]
  omega
theorem rem_64 (k r : Nat) (h : k % 64 = r) : (k : Int).tmod 64 = (r : Int) := by
  rw [Int.tmod_eq_emod_of_nonneg (Int.natCast_nonneg k), <- h]; rfl
theorem few_64 (r : Nat) (h : r < 64) : IntKind.i64.wrap (r : Int) = (r : Int) /\ wrap64 (r : Int) = (r : Int) /\ IntKind.u64.wrap (r : Int) = (r : Int) := by
  have h0 : (0 : Int) <= (r : Int) := Int.natCast_nonneg r
  have h1 : (r : Int) < 64 := Int.ofNat_lt.2 h
  refine ⟨IntWalk.i64_in _ (by omega), IntWalk.wrap64_in _ (by omega), ?_⟩
  rw [IntKind.wrap_u64]
  exact Int.emod_eq_of_lt h0 (by omega)
set_option maxHeartbeats 1000000 in
theorem mine_any (A : Option Addr) (n c : Nat) (us : List Unt) (bits : Int) (w : World) (h : Row kUnt w (· < w.heap.size) A n us) (hn : n <= 100000) (hb0 : 0 <= bits) (hb1 : bits < 18446744073709551616) :
    Calls Tryz.prog 20 #[.slice A n c, .int .u64 bits] w fun e w' => Ko.Told kInt 3 w e w' (mineL bits us) := by
  have HU := Lib.hid h
  have HL := Lib.hid h.len
  have HO0 := Lib.hid (Out.nil kInt 3 (Below.refl w.heap.size w))
  have HBt := Lib.hid (And.intro hb0 hb1)
  clear h hb0 hb1
  go_enter Tryz.func20, Tryz.ntmps20
  go_wp2
  go_loopw [5, 6] (fun s5 s6 wr => ∃ k : Nat, s6 = .int .i64 k /\ k <= n /\ Hid (Out kInt 3 w wr s5 (mineFrom bits 0 (us.take k)))) (fun _ s6 _ => n - (intOf s6).toNat)
  case atStart => exact ⟨0, rfl, by omega, Lib.hid (by rw [List.take_zero]; exact HO0.out)⟩
  case round =>
    clear HO0
    obtain ⟨k, rfl, hk, HO⟩ := hrel
    have kk : (0 : Int) <= (k : Int) := by omega
    by_cases hlt : k < n
    . obtain ⟨u, hu⟩ := HU.out.get hlt
      obtain ⟨g, o, rfl, hg, _, _, _, _, a2⟩ := row_Unt HU.out hu
      have c2 : wr.cell? ⟨g, o + k * 3 + 2, none⟩ = some (.bool u.opn) := (HO.out.below.cell (p := ⟨g, _, none⟩) hg).trans a2
      have HN := Lib.hid (mineFrom_next (bits := bits) hu)
      have k1 : (k : Int) < (n : Int) := by omega
      have hlen : (mineFrom bits 0 (us.take k)).length <= k := by have := mineFrom_length bits 0 (us.take k); rw [List.length_take] at this; omega
      obtain ⟨os, hos⟩ : ∃ os, mineFrom bits 0 (us.take k) = os := ⟨_, rfl⟩
      rw [hos] at HO hlen HN
      obtain ⟨q, hq⟩ : ∃ q, os.length = q := ⟨_, rfl⟩
      rw [hq] at hlen
      obtain ⟨C, e5, hv⟩ := HO.out.own.value
      rw [hq] at hv
      subst hv
      have hown0 : Hid (Kd.Own kInt wr w.heap.size 3 (fun _ => False) (.slice C q e5) q os) := Lib.hid (by have := HO.out.own; rw [hq] at this; exact this)
      have HLq := Lib.hid hq
      have hlow := HO.out.below.size
      obtain ⟨op, hop⟩ : ∃ b, u.opn = b := ⟨_, rfl⟩
      rw [hop] at c2 HN
      clear a2 hu hg hos hq hop
      cases op with
      | false =>
        have HN2 : Hid (mineFrom bits 0 (us.take (k + 1)) = os) := Lib.hid (by rw [HN.out]; simp)
        go_wp2
        go_roundw
        case rel => exact ⟨k + 1, by go_num, by omega, Lib.hid (by rw [HN2.out]; exact HO.out)⟩
        case measure => simp [intOf]; omega
      | true =>
        obtain ⟨r, hr⟩ : ∃ r, k % 64 = r := ⟨_, rfl⟩
        have hr64 : r < 64 := by rw [<- hr]; exact Nat.mod_lt _ (by decide)
        have w1 : (k : Int).tmod 64 = (r : Int) := rem_64 k r hr
        have Hw1 := Lib.hid w1
        have w2 : IntKind.i64.wrap (r : Int) = (r : Int) := (few_64 r hr64).1
        have w2' : wrap64 (r : Int) = (r : Int) := (few_64 r hr64).2.1
        have w3 : IntKind.u64.wrap (r : Int) = (r : Int) := (few_64 r hr64).2.2
        have r0 : (0 : Int) <= (r : Int) := Int.natCast_nonneg r
        have r1 : (r : Int) <= 64 := Int.ofNat_le.2 (Nat.le_of_lt hr64)
        obtain ⟨b, hb⟩ : ∃ b, bits / 2 ^ r = b := ⟨_, rfl⟩
        have hB : mineB bits k = (b % 2 == 1) := by unfold mineB; rw [hr, hb]
        have HB := Lib.hid hB
        have w5 : Go.bits BinOp.and IntKind.u64 b 1 = b % 2 := and1u b
        obtain ⟨x, hx⟩ : ∃ x, b % 2 = x := ⟨_, rfl⟩
        rw [hx] at w5 HB
        have hrep : Hid (kInt.rep wr (fun _ => False) (k : Int) [.int .i64 (k : Int)]) := Lib.hid ⟨rfl, place_ok (Nat.le_trans (Nat.le_of_lt hlt) hn)⟩
        have hq9 : (q + 1) * 8 <= 140737488355328 /\ q + 1 <= 1000000000000 := by have h1 := hlen; have h2 := hlt; have h3 := hn; clear HB w5 hx hb w1 w2 w2' w3 hr; omega
        clear hr hB hx w1
        have w1 : (k : Int).tmod 64 = (r : Int) := Hw1.out
        cases hx1 : (x == 1) with
        | false =>
          have HN2 : Hid (mineFrom bits 0 (us.take (k + 1)) = os) := Lib.hid (by rw [HN.out, HB.out, hx1]; simp)
          clear HN HB
          go_wp2
          go_roundw
          case rel => exact ⟨k + 1, by go_num, by omega, Lib.hid (by rw [HN2.out]; exact HO.out)⟩
          case measure => simp [intOf]; omega
        | true =>
          have HN2 : Hid (mineFrom bits 0 (us.take (k + 1)) = os ++ [(k : Int)]) := Lib.hid (by rw [HN.out, HB.out, hx1]; simp)
          clear HN HB
          go_wp2_with ((at_builtin; refine Kd.wpList_push (W := wr) (F := fun _ => False) (B := w.heap.size) (n := q) (v := .slice C q e5) (xs := os) (y := (k : Int)) (cs := [.int .i64 (k : Int)]) Ap.int_t rfl _ _ rfl rfl rfl rfl hown0.out hrep.out hq9.1 hq9.2 hlow (fun _ h => h.elim) ?_; intro g1 cap w' hown hgrow hfr; have HPu := Lib.hid (HO.out.push HLq.out hown hgrow); clear hown hgrow hfr))
          go_roundw
          case rel => exact ⟨k + 1, by go_num, by omega, Lib.hid (by rw [HN2.out]; exact HPu.out)⟩
          case measure => simp [intOf]; omega
    . have k1 : ¬ (k : Int) < (n : Int) := by omega
      obtain rfl : k = n := by omega
      have HE : Hid (mineFrom bits 0 (us.take k) = mineL bits us) := Lib.hid (by rw [List.take_of_length_le (by rw [HL.out]; omega)]; rfl)
      go_wp2
      go_ret
      rw [<- HE.out]
      exact HO.out.told
end Go.Proofs.YtljmddjlnlmenaaGreat.Ct
