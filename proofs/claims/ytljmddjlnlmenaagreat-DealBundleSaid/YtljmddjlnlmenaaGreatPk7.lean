/- Contracts of the statements' plain things: Mod, Mod64, Sku, Category, pick; the document's Name and in. · Cuts: the stat .. -/
import Derived.Laws.Concat
import Derived.Test.YtljmddjlnlmenaaGreatPk1
import Derived.Test.YtljmddjlnlmenaaGreatPk6
set_option maxRecDepth 100000
set_option linter.unusedVariables false

section
namespace Go.Proofs.YtljmddjlnlmenaaGreat.Py
open Go.ChangeShapes Go.WideShapes Go.ChangeAt Go.RowKit
def modN (a n : Int) : Nat := ((IntKind.u64.wrap a) % n).toNat
theorem modN_lt (a n : Int) (h : 1 <= n) : (modN a n : Int) < n := by
  unfold modN
  have h2 := Int.emod_nonneg (IntKind.u64.wrap a) (show n ≠ 0 by omega)
  have h3 := Int.emod_lt_of_pos (IntKind.u64.wrap a) (show 0 < n by omega)
  omega
theorem modN_of {a n : Int} (h0 : 0 <= a) (h1 : a < n) (h2 : n <= 9223372036854775807) : (modN a n : Int) = a := by
  unfold modN
  rw [IntKind.wrap_u64]
  have : a % 18446744073709551616 = a := Int.emod_eq_of_lt h0 (by omega)
  rw [this, Int.emod_eq_of_lt h0 h1]
  omega
theorem modN_num (k n : Nat) (h : k < n) (hn : n <= 9223372036854775807) : modN (k : Int) (n : Int) = k := by
  have := modN_of (a := (k : Int)) (n := (n : Int)) (by omega) (by omega) (by omega)
  omega
theorem mod_any (a n : Int) (w : World) (hn : 1 <= n) (hn1 : n <= 9223372036854775807) :
    Calls Tryz.prog 23 #[.int .i64 a, .int .i64 n] w fun e w' => e = .returned (.int .i64 (modN a n : Int)) /\ w' = w := by
  obtain ⟨t, t1, t2, t3, t4⟩ := By.umod_in a n hn hn1
  have hw : IntKind.u64.wrap n = n := by rw [IntKind.wrap_u64]; omega
  have hm : modN a n = t := by unfold modN; omega
  have n0 : n ≠ 0 := by omega
  rw [hm]
  clear hm
  go_enter Tryz.func23, Tryz.ntmps23
  go_wp2
  go_ret
  exact ⟨congrArg (fun z => Ending.returned (.int .i64 z)) t1, rfl⟩
theorem mod64_any (a n : Int) (w : World) (hn : 1 <= n) (hn1 : n <= 9223372036854775807) :
    Calls Tryz.prog 48 #[.int .i64 a, .int .i64 n] w fun e w' => e = .returned (.int .i64 (modN a n : Int)) /\ w' = w := by
  obtain ⟨t, t1, t2, t3, t4⟩ := By.umod_in a n hn hn1
  have hw : IntKind.u64.wrap n = n := by rw [IntKind.wrap_u64]; omega
  have hm : modN a n = t := by unfold modN; omega
  have n0 : n ≠ 0 := by omega
  rw [hm]
  clear hm
  go_enter Tryz.func48, Tryz.ntmps48
  go_wp2
  go_ret
  exact ⟨congrArg (fun z => Ending.returned (.int .i64 z)) t1, rfl⟩
def chr (c : Nat) : ByteArray := By.strOf [UInt8.ofNat c]
def skuS (k : Nat) : ByteArray := chr (97 + k)
def catS (k : Nat) : ByteArray := chr (120 + k)
theorem sku_any (a : Int) (w : World) : Calls Tryz.prog 105 #[.int .i64 a] w fun e w' => e = .returned (.string (skuS (modN a 8))) /\ Below w.heap.size w w' := by
  have HM := Lib.hid (mod_any a 8 w (by omega) (by omega))
  have ht := modN_lt a 8 (by omega)
  generalize hk : modN a 8 = t at HM ht ⊢
  have hr := fun W => By.run_text (P := Tryz.prog) (c := 1) 119 9 5 Tryz.underlying119 Tryz.underlying5 Tryz.underlying9 (By.Bys.made W 5 (97 + (t : Int)) (by omega) (by omega))
  have e : (97 + (t : Int)).toNat = 97 + t := by omega
  rw [e] at hr
  have es : By.strOf [UInt8.ofNat (97 + t)] = skuS t := rfl
  simp only [es] at hr
  clear es
  clear hk
  go_enter Tryz.func105, Tryz.ntmps105
  go_wp2_with fail
  refine HM.out.mono ?_
  rintro e w1 ⟨rfl, rfl⟩
  go_wp2
  go_ret
  exact ⟨rfl, (Below.refl _ _).alloc (Nat.le_refl _) _⟩
theorem category_any (a : Int) (w : World) : Calls Tryz.prog 106 #[.int .i64 a] w fun e w' => e = .returned (.string (catS (modN a 3))) /\ Below w.heap.size w w' := by
  have HM := Lib.hid (mod_any a 3 w (by omega) (by omega))
  have ht := modN_lt a 3 (by omega)
  generalize hk : modN a 3 = t at HM ht ⊢
  have hr := fun W => By.run_text (P := Tryz.prog) (c := 1) 119 9 5 Tryz.underlying119 Tryz.underlying5 Tryz.underlying9 (By.Bys.made W 5 (120 + (t : Int)) (by omega) (by omega))
  have e : (120 + (t : Int)).toNat = 120 + t := by omega
  rw [e] at hr
  have es : By.strOf [UInt8.ofNat (120 + t)] = catS t := rfl
  simp only [es] at hr
  clear es
  clear hk
  go_enter Tryz.func106, Tryz.ntmps106
  go_wp2_with fail
  refine HM.out.mono ?_
  rintro e w1 ⟨rfl, rfl⟩
  go_wp2
  go_ret
  exact ⟨rfl, (Below.refl _ _).alloc (Nat.le_refl _) _⟩
def pickTo (s : ByteArray) : Nat -> Int
  | 0 => (s.size : Int)
  | k + 1 => wrap64 (wrap64 (7 * pickTo s k) + By.at_ s.data.toList k)
def pickS (s : ByteArray) : Int := pickTo s (min s.size 8)
theorem index_in {s : ByteArray} {k : Nat} (hk : k < s.size) : s[k]? = some (s.data.toList.getD k 0) := by
  rw [ByteArray.getElem?_lt' s k hk]
  congr 1
  have : k < s.data.toList.length := by rw [By.size_list]; exact hk
  rw [List.getD, List.getElem?_eq_getElem this]
  rfl
theorem run_at (t : TypeId) (ht : Tryz.prog.underlying t = some .string) (s : ByteArray) (k : Nat) (hk : k < s.size) (W : World) : (Instr.index t (.string s) (.int .i64 (k : Int))).run Tryz.prog W = .ok (.int .u8 (By.at_ s.data.toList k)) W := by
  have h := index_in hk
  have hk0 : (0 : Int) <= (k : Int) := by omega
  rw [run_index_string W t s .i64 (k : Int) ht]
  have e : (s.data.toList.getD k 0) = s[k] := by
    have := ByteArray.getElem?_lt' s k hk
    rw [h] at this
    exact Option.some.inj this
  unfold By.at_
  rw [e]
  simp [hk]
theorem pick_any (s : ByteArray) (w : World) (hs : s.size <= maxLen) : Calls Tryz.prog 84 #[.string s] w fun e w' => e = .returned (.int .i64 (pickS s)) /\ w = w' := by
  unfold maxLen at hs
  have hA := fun k (hk : k < s.size) W => run_at 9 Tryz.underlying9 s k hk W
  have h0 : (s.size : Int) = pickTo s 0 := rfl
  have hp : ∀ k, pickTo s (k + 1) = wrap64 (wrap64 (7 * pickTo s k) + By.at_ s.data.toList k) := fun k => rfl
  have HP := Lib.hid hp
  have HA := Lib.hid hA
  have H0 := Lib.hid h0
  clear hA h0 hp
  go_enter Tryz.func84, Tryz.ntmps84
  go_wp2
  go_loopw [3, 4] (fun s3 s4 wr => ∃ k : Nat, s3 = .int .i64 (pickTo s k) /\ s4 = .int .i64 k /\ k <= s.size /\ k <= 8 /\ wr = w) (fun _ s4 _ => 8 - (intOf s4).toNat)
  case atStart => exact ⟨0, by rw [<- H0.out], rfl, by omega, by omega, by trivial⟩
  case round =>
    obtain ⟨k, rfl, rfl, hk, hk8, rfl⟩ := hrel
    by_cases h1 : k < s.size
    . have k1 : (k : Int) < (s.size : Int) := by omega
      by_cases h2 : k < 8
      . have k2 : (k : Int) < 8 := by omega
        have hi := HA.out k h1 wr
        have e := HP.out k
        have hb := By.at_in s.data.toList k
        generalize By.at_ s.data.toList k = b at hi e hb
        generalize hq : pickTo s k = q at e ⊢
        clear hq
        go_wp2
        go_roundw
        case rel => exact ⟨k + 1, by rw [e], by go_num, by omega, by omega, by trivial⟩
        case measure => simp [intOf]; omega
      . have k2 : ¬ (k : Int) < 8 := by omega
        have e : pickS s = pickTo s k := by unfold pickS; congr 1; omega
        have HE := Lib.hid e
        clear e
        go_wp2
        go_ret
        exact ⟨by rw [HE.out]; rfl, rfl⟩
    . have k1 : ¬ (k : Int) < (s.size : Int) := by omega
      have e : pickS s = pickTo s k := by unfold pickS; congr 1; omega
      have HE := Lib.hid e
      clear e
      go_wp2
      go_ret
      exact ⟨by rw [HE.out]; rfl, rfl⟩
theorem rin_any (x m : Int) (w : World) : Calls Tryz.prog 66 #[.int .i64 x, .int .i64 m] w fun e w' => e = .returned (.bool (decide (0 <= x) && decide (x <= m))) /\ w' = w := by
  cases h1 : decide (0 <= x) with
  | false =>
    go_enter Tryz.func66, Tryz.ntmps66
    go_wp2
    go_ret
    exact ⟨rfl, rfl⟩
  | true =>
    go_enter Tryz.func66, Tryz.ntmps66
    go_wp2
    go_ret
    exact ⟨rfl, rfl⟩
theorem plain_cases (z : Int) : (Sr.plain z = true /\ 97 <= z /\ z <= 122) \/ (Sr.plain z = true /\ z < 97 /\ 48 <= z /\ z <= 57) \/ (Sr.plain z = true /\ z < 48 /\ z = 45) \/ (Sr.plain z = false /\ 122 < z /\ z ≠ 45) \/ (Sr.plain z = false /\ 57 < z /\ z < 97 /\ z ≠ 45) \/ (Sr.plain z = false /\ z < 48 /\ z ≠ 45) := by
  unfold Sr.plain
  simp only [Bool.or_eq_true, Bool.and_eq_true, decide_eq_true_eq, beq_iff_eq, Bool.or_eq_false_iff, Bool.and_eq_false_iff, decide_eq_false_iff_not, beq_eq_false_iff_ne]
  omega
theorem byte_at {s : ByteArray} {k : Nat} (hk : k < s.size) : ∃ b : UInt8, s.data.toList[k]? = some b /\ By.at_ s.data.toList k = (b.toNat : Int) := by
  have hl : k < s.data.toList.length := by rw [By.size_list]; exact hk
  exact ⟨_, List.getElem?_eq_getElem hl, By.at_some (List.getElem?_eq_getElem hl)⟩
set_option maxHeartbeats 1000000 in
theorem rname_any (s : ByteArray) (w : World) (hs : s.size <= maxLen) : Calls Tryz.prog 64 #[.string s] w fun e w' => e = .returned (.bool (Sr.name s)) /\ w' = w := by
  unfold maxLen at hs
  have hA := fun k (hk : k < s.size) W => run_at 9 Tryz.underlying9 s k hk W
  have HA := Lib.hid hA
  clear hA
  go_enter Tryz.func64, Tryz.ntmps64
  go_wp2
  go_loopw [3] (fun s3 wr => ∃ k : Nat, s3 = .int .i64 k /\ k <= s.size /\ wr = w /\ ∀ (j : Nat) (b : UInt8), j < k -> s.data.toList[j]? = some b -> Sr.plain (b.toNat : Int) = true) (fun s3 _ => s.size - (intOf s3).toNat)
  case atStart => exact ⟨0, rfl, by omega, rfl, fun j b hj => by omega⟩
  case round =>
    obtain ⟨k, rfl, hk, rfl, hE⟩ := hrel
    have HE := Lib.hid hE
    clear hE
    by_cases h1 : k < s.size
    . have k1 : (k : Int) < (s.size : Int) := by omega
      have hi := HA.out k h1 wr
      obtain ⟨b, hb1, hb2⟩ := byte_at h1
      rw [hb2] at hi
      have HB := Lib.hid hb1
      have hbn := By.at_in s.data.toList k
      rw [hb2] at hbn
      clear hb1 hb2
      obtain ⟨z, hz⟩ : ∃ z : Int, (b.toNat : Int) = z := ⟨_, rfl⟩
      have HZ := Lib.hid hz
      rw [hz] at hi hbn
      clear hz
      obtain ⟨hp, c1, c2⟩ | ⟨hp, c1, c2, c3⟩ | ⟨hp, c1, c2⟩ | ⟨hp, c1, c2⟩ | ⟨hp, c1, c2, c3⟩ | ⟨hp, c1, c2⟩ := plain_cases z
      . have HP := Lib.hid hp
        clear hp
        go_wp2
        go_roundw
        case rel => exact ⟨k + 1, by go_num, by omega, by trivial, fun j b' hj hb' => by
          rcases Nat.lt_or_ge j k with h | h
          . exact HE.out j b' h hb'
          . obtain rfl : j = k := by omega
            rw [HB.out] at hb'
            injection hb' with hb'
            subst hb'
            rw [HZ.out]; exact HP.out⟩
        case measure => simp [intOf]; omega
      . have HP := Lib.hid hp
        have d1 : ¬ (97 : Int) <= z := by omega
        clear hp
        go_wp2
        go_roundw
        case rel => exact ⟨k + 1, by go_num, by omega, by trivial, fun j b' hj hb' => by
          rcases Nat.lt_or_ge j k with h | h
          . exact HE.out j b' h hb'
          . obtain rfl : j = k := by omega
            rw [HB.out] at hb'
            injection hb' with hb'
            subst hb'
            rw [HZ.out]; exact HP.out⟩
        case measure => simp [intOf]; omega
      . have HP := Lib.hid hp
        have d1 : ¬ (97 : Int) <= z := by omega
        have d2 : ¬ (48 : Int) <= z := by omega
        clear hp
        go_wp2
        go_roundw
        case rel => exact ⟨k + 1, by go_num, by omega, by trivial, fun j b' hj hb' => by
          rcases Nat.lt_or_ge j k with h | h
          . exact HE.out j b' h hb'
          . obtain rfl : j = k := by omega
            rw [HB.out] at hb'
            injection hb' with hb'
            subst hb'
            rw [HZ.out]; exact HP.out⟩
        case measure => simp [intOf]; omega
      . have HF := Lib.hid (Sr.name_bad HB.out (by rw [HZ.out]; exact hp))
        have d0 : (z == 45) = false := beq_eq_false_iff_ne.2 (by omega)
        have d1 : (97 : Int) <= z := by omega
        have d2 : ¬ z <= (122 : Int) := by omega
        have d3 : (48 : Int) <= z := by omega
        have d4 : ¬ z <= (57 : Int) := by omega
        clear hp
        go_wp2
        go_ret
        exact ⟨by rw [HF.out]; rfl, rfl⟩
      . have HF := Lib.hid (Sr.name_bad HB.out (by rw [HZ.out]; exact hp))
        have d0 : (z == 45) = false := beq_eq_false_iff_ne.2 (by omega)
        have d1 : ¬ (97 : Int) <= z := by omega
        have d3 : (48 : Int) <= z := by omega
        have d4 : ¬ z <= (57 : Int) := by omega
        clear hp
        go_wp2
        go_ret
        exact ⟨by rw [HF.out]; rfl, rfl⟩
      . have HF := Lib.hid (Sr.name_bad HB.out (by rw [HZ.out]; exact hp))
        have d0 : (z == 45) = false := beq_eq_false_iff_ne.2 (by omega)
        have d1 : ¬ (97 : Int) <= z := by omega
        have d3 : ¬ (48 : Int) <= z := by omega
        clear hp
        go_wp2
        go_ret
        exact ⟨by rw [HF.out]; rfl, rfl⟩
    . have k1 : ¬ (k : Int) < (s.size : Int) := by omega
      have HF : Hid (Sr.name s = (decide (1 <= s.size) && decide (s.size <= 12))) := Lib.hid (Sr.name_size fun j b hj => HE.out j b (by
        have := (List.getElem?_eq_some_iff.1 hj).1
        rw [By.size_list] at this
        omega) hj)
      by_cases c1 : 1 <= s.size
      . have c2 : (1 : Int) <= (s.size : Int) := by omega
        have c3 : decide ((s.size : Int) <= 12) = decide (s.size <= 12) := by congr 1; simp; omega
        have HG : Hid (Sr.name s = decide (s.size <= 12)) := Lib.hid (by rw [HF.out]; simp [c1])
        obtain ⟨b, hb⟩ : ∃ b, decide (s.size <= 12) = b := ⟨_, rfl⟩
        rw [hb] at c3
        have HB := Lib.hid hb
        clear hb
        go_wp2
        go_ret
        exact ⟨by rw [HG.out, HB.out]; first | rfl | (simp [c3]), rfl⟩
      . have c2 : ¬ (1 : Int) <= (s.size : Int) := by omega
        have HG : Hid (Sr.name s = false) := Lib.hid (by rw [HF.out]; simp [c1])
        go_wp2
        go_ret
        exact ⟨by rw [HG.out]; rfl, rfl⟩
end Go.Proofs.YtljmddjlnlmenaaGreat.Py

end

section
namespace Go.Proofs.YtljmddjlnlmenaaGreat.Ct
open Go.ChangeShapes Go.WideShapes Go.ChangeAt Go.RowKit
open Ap (Unt Tir Prm kUnt kTir row_Unt row_Tir)
open Kd (Kind Row kInt row_int)
open Ko (Out Told At)
open Py (modN modN_lt mod_any mod64_any)
def unitAt (i : Nat) (u : Unt) : Unt := ⟨(modN u.line 9 : Int), (modN u.net 3000 : Int), u.opn || (i % 3 == 0)⟩
def unitsFrom : Nat -> List Unt -> List Unt
  | _, [] => []
  | i, u :: us => unitAt i u :: unitsFrom (i + 1) us
def unitsOf (us : List Unt) : List Unt := unitsFrom 0 (us.take 60)
theorem unitsFrom_length : ∀ (i : Nat) (us : List Unt), (unitsFrom i us).length = us.length
  | _, [] => rfl
  | i, u :: us => by rw [unitsFrom, List.length_cons, List.length_cons, unitsFrom_length]
theorem unitsFrom_append : ∀ (i : Nat) (a b : List Unt), unitsFrom i (a ++ b) = unitsFrom i a ++ unitsFrom (i + a.length) b
  | i, [], b => rfl
  | i, u :: a, b => by
    show unitAt i u :: unitsFrom (i + 1) (a ++ b) = unitAt i u :: unitsFrom (i + 1) a ++ unitsFrom (i + (a.length + 1)) b
    rw [unitsFrom_append (i + 1) a b, show i + 1 + a.length = i + (a.length + 1) by omega]
    rfl
theorem unitsFrom_next {us : List Unt} {k : Nat} {u : Unt} (h : us[k]? = some u) : unitsFrom 0 (us.take (k + 1)) = unitsFrom 0 (us.take k) ++ [unitAt k u] := by
  have hl : (us.take k).length = k := by rw [List.length_take]; have := (List.getElem?_eq_some_iff.1 h).1; omega
  rw [take_next h, unitsFrom_append, hl, Nat.zero_add]; rfl
theorem unitsOf_length (us : List Unt) : (unitsOf us).length <= 60 := by unfold unitsOf; rw [unitsFrom_length, List.length_take]; omega
theorem unitsFrom_at : ∀ {i k : Nat} {us : List Unt} {v : Unt}, (unitsFrom i us)[k]? = some v -> ∃ u, us[k]? = some u /\ v = unitAt (i + k) u
  | i, k, [], v, h => by simp [unitsFrom] at h
  | i, 0, u :: us, v, h => by
    simp only [unitsFrom, List.getElem?_cons_zero, Option.some.injEq] at h
    exact ⟨u, rfl, h.symm⟩
  | i, k + 1, u :: us, v, h => by
    simp only [unitsFrom, List.getElem?_cons_succ] at h
    obtain ⟨x, hx, rfl⟩ := unitsFrom_at h
    exact ⟨x, hx, by rw [show i + 1 + k = i + (k + 1) by omega]⟩
theorem unitAt_fine (i : Nat) (u : Unt) : (0 <= (unitAt i u).line /\ (unitAt i u).line < 9) /\ 0 <= (unitAt i u).net /\ (unitAt i u).net < 3000 := by
  have h1 := modN_lt u.line 9 (by omega)
  have h2 := modN_lt u.net 3000 (by omega)
  unfold unitAt
  dsimp only
  omega
theorem unitAt_ok (i : Nat) (u : Unt) : (unitAt i u).ok := by
  have h := unitAt_fine i u
  exact ⟨by omega, by omega⟩
theorem nsum_most : ∀ {us : List Unt}, (∀ v ∈ us, 0 <= v.net /\ v.net < 3000) -> nsum us <= 3000 * (us.length : Int)
  | [], _ => by simp [nsum]
  | u :: us, h => by
    have h1 := h u List.mem_cons_self
    have h2 := nsum_most fun v hv => h v (List.mem_cons_of_mem _ hv)
    simp only [nsum, List.length_cons]; omega
theorem unitsOf_may (us : List Unt) : UnitsMay (unitsOf us) := by
  have hl := unitsOf_length us
  have he : ∀ (k : Nat) (v : Unt), (unitsOf us)[k]? = some v -> 0 <= v.net /\ v.net < 3000 := fun k v hv => by
    obtain ⟨u, _, rfl⟩ := unitsFrom_at hv
    exact (unitAt_fine _ u).2
  have h := nsum_most (us := unitsOf us) fun v hv => by
    obtain ⟨k, hk⟩ := List.mem_iff_getElem?.1 hv
    exact he k v hk
  exact ⟨by omega, fun k v hv => (he k v hv).1, by omega⟩
def mineB (bits : Int) (i : Nat) : Bool := bits / 2 ^ (i % 64) % 2 == 1
def mineFrom (bits : Int) : Nat -> List Unt -> List Int
  | _, [] => []
  | i, u :: us => if u.opn && mineB bits i then (i : Int) :: mineFrom bits (i + 1) us else mineFrom bits (i + 1) us
def mineL (bits : Int) (us : List Unt) : List Int := mineFrom bits 0 us
theorem mineFrom_append (bits : Int) : ∀ (i : Nat) (a b : List Unt), mineFrom bits i (a ++ b) = mineFrom bits i a ++ mineFrom bits (i + a.length) b
  | i, [], b => rfl
  | i, u :: a, b => by
    have h := mineFrom_append bits (i + 1) a b
    rw [show i + 1 + a.length = i + (u :: a).length by simp only [List.length_cons]; omega] at h
    simp only [List.cons_append, mineFrom, h]
    split <;> rfl
theorem mineFrom_next {bits : Int} {us : List Unt} {k : Nat} {u : Unt} (h : us[k]? = some u) : mineFrom bits 0 (us.take (k + 1)) = mineFrom bits 0 (us.take k) ++ (if u.opn && mineB bits k then [(k : Int)] else []) := by
  have hl : (us.take k).length = k := by rw [List.length_take]; have := (List.getElem?_eq_some_iff.1 h).1; omega
  rw [take_next h, mineFrom_append, hl, Nat.zero_add]
  simp only [mineFrom]
theorem mineFrom_length (bits : Int) : ∀ (i : Nat) (us : List Unt), (mineFrom bits i us).length <= us.length
  | _, [] => Nat.le_refl _
  | i, u :: us => by
    have := mineFrom_length bits (i + 1) us
    simp only [mineFrom]
    split
    . simp only [List.length_cons]; omega
    . simp only [List.length_cons]; omega
theorem mineFrom_at (bits : Int) : ∀ {i k : Nat} {us : List Unt} {m : Int}, (mineFrom bits i us)[k]? = some m -> ∃ t u, m = ((i + t : Nat) : Int) /\ us[t]? = some u /\ u.opn = true
  | i, k, [], m, h => by simp [mineFrom] at h
  | i, k, u :: us, m, h => by
    simp only [mineFrom] at h
    split at h
    . rename_i ho
      cases k with
      | zero =>
        simp only [List.getElem?_cons_zero, Option.some.injEq] at h
        exact ⟨0, u, h.symm, rfl, (Bool.and_eq_true _ _ ▸ ho).1⟩
      | succ k =>
        simp only [List.getElem?_cons_succ] at h
        obtain ⟨t, v, rfl, hv, hvo⟩ := mineFrom_at bits h
        exact ⟨t + 1, v, by congr 1; omega, hv, hvo⟩
    . obtain ⟨t, v, rfl, hv, hvo⟩ := mineFrom_at bits h
      exact ⟨t + 1, v, by congr 1; omega, hv, hvo⟩
theorem mineFrom_rise (bits : Int) : ∀ {i k : Nat} {us : List Unt} {a b : Int}, (mineFrom bits i us)[k]? = some a -> (mineFrom bits i us)[k + 1]? = some b -> a < b
  | i, k, [], a, b, h, _ => by simp [mineFrom] at h
  | i, k, u :: us, a, b, h, g => by
    simp only [mineFrom] at h g
    split at h
    . rename_i ho
      rw [if_pos ho] at g
      cases k with
      | zero =>
        simp only [List.getElem?_cons_zero, Option.some.injEq] at h
        simp only [Nat.zero_add, List.getElem?_cons_succ] at g
        obtain ⟨t, v, rfl, _, _⟩ := mineFrom_at bits g
        subst h
        omega
      | succ k =>
        simp only [List.getElem?_cons_succ] at h g
        exact mineFrom_rise bits h g
    . rename_i ho
      rw [if_neg ho] at g
      exact mineFrom_rise bits h g
theorem mine_may (bits : Int) (us : List Unt) : PlacesMay us (mineL bits us) :=
  ⟨fun i m hm => by
    obtain ⟨t, u, rfl, hu, ho⟩ := mineFrom_at bits hm
    rw [Nat.zero_add]
    exact ⟨by omega, u, by rw [Int.toNat_natCast]; exact hu, ho⟩, fun i a b ha hb => mineFrom_rise bits ha hb⟩
theorem place_ok {k : Nat} (h : k <= 100000) : -9223372036854775808 <= (k : Int) /\ (k : Int) <= 9223372036854775807 := by omega
theorem and1u (m : Int) : Go.bits BinOp.and IntKind.u64 m 1 = m % 2 := by
  have one : (BitVec.ofInt 64 1).toNat = 2 ^ 1 - 1 := by decide
  have low : (BitVec.ofInt 64 m &&& BitVec.ofInt 64 1).toNat = (m % ((2 ^ 64 : Nat) : Int)).toNat % 2 := by
    rw [BitVec.toNat_and, BitVec.toNat_ofInt, one, Nat.and_two_pow_sub_one_eq_mod]
  show IntKind.u64.wrap (((BitVec.ofInt 64 m &&& BitVec.ofInt 64 1).toNat : Nat) : Int) = m % 2
  rw [low, IntKind.wrap_u64]
  omega
theorem rem_64 (k r : Nat) (h : k % 64 = r) : (k : Int).tmod 64 = (r : Int) := by
  rw [Int.tmod_eq_emod_of_nonneg (Int.natCast_nonneg k), <- h]; rfl
theorem few_64 (r : Nat) (h : r < 64) : IntKind.i64.wrap (r : Int) = (r : Int) /\ wrap64 (r : Int) = (r : Int) /\ IntKind.u64.wrap (r : Int) = (r : Int) := by
  have h0 : (0 : Int) <= (r : Int) := Int.natCast_nonneg r
  have h1 : (r : Int) < 64 := Int.ofNat_lt.2 h
  refine ⟨IntWalk.i64_in _ (by omega), IntWalk.wrap64_in _ (by omega), ?_⟩
  rw [IntKind.wrap_u64]
  exact Int.emod_eq_of_lt h0 (by omega)
set_option maxHeartbeats 1000000 in
theorem mine_any (A : Option Addr) (n c : Nat) (us : List Unt) (bits : Int) (w : World) (h : Row kUnt w (· < w.heap.size) A n us) (hn : n <= 100000) (hb0 : 0 <= bits) (hb1 : bits < 18446744073709551616) :
    Calls Tryz.prog 20 #[.slice A n c, .int .u64 bits] w fun e w' => Ko.Told kInt 3 w e w' (mineL bits us) := by
  have HU := Lib.hid h
  have HL := Lib.hid h.len
  have HO0 := Lib.hid (Out.nil kInt 3 (Below.refl w.heap.size w))
  have HBt := Lib.hid (And.intro hb0 hb1)
  clear h hb0 hb1
  go_enter Tryz.func20, Tryz.ntmps20
  go_wp2
  go_loopw [5, 6] (fun s5 s6 wr => ∃ k : Nat, s6 = .int .i64 k /\ k <= n /\ Hid (Out kInt 3 w wr s5 (mineFrom bits 0 (us.take k)))) (fun _ s6 _ => n - (intOf s6).toNat)
  case atStart => exact ⟨0, rfl, by omega, Lib.hid (by rw [List.take_zero]; exact HO0.out)⟩
  case round =>
    clear HO0
    obtain ⟨k, rfl, hk, HO⟩ := hrel
    have kk : (0 : Int) <= (k : Int) := by omega
    by_cases hlt : k < n
    . obtain ⟨u, hu⟩ := HU.out.get hlt
      obtain ⟨g, o, rfl, hg, _, _, _, _, a2⟩ := row_Unt HU.out hu
      have c2 : wr.cell? ⟨g, o + k * 3 + 2, none⟩ = some (.bool u.opn) := (HO.out.below.cell (p := ⟨g, _, none⟩) hg).trans a2
      have HN := Lib.hid (mineFrom_next (bits := bits) hu)
      have k1 : (k : Int) < (n : Int) := by omega
      have hlen : (mineFrom bits 0 (us.take k)).length <= k := by have := mineFrom_length bits 0 (us.take k); rw [List.length_take] at this; omega
      obtain ⟨os, hos⟩ : ∃ os, mineFrom bits 0 (us.take k) = os := ⟨_, rfl⟩
      rw [hos] at HO hlen HN
      obtain ⟨q, hq⟩ : ∃ q, os.length = q := ⟨_, rfl⟩
      rw [hq] at hlen
      obtain ⟨C, e5, hv⟩ := HO.out.own.value
      rw [hq] at hv
      subst hv
      have hown0 : Hid (Kd.Own kInt wr w.heap.size 3 (fun _ => False) (.slice C q e5) q os) := Lib.hid (by have := HO.out.own; rw [hq] at this; exact this)
      have HLq := Lib.hid hq
      have hlow := HO.out.below.size
      obtain ⟨op, hop⟩ : ∃ b, u.opn = b := ⟨_, rfl⟩
      rw [hop] at c2 HN
      clear a2 hu hg hos hq hop
      cases op with
      | false =>
        have HN2 : Hid (mineFrom bits 0 (us.take (k + 1)) = os) := Lib.hid (by rw [HN.out]; simp)
        go_wp2
        go_roundw
        case rel => exact ⟨k + 1, by go_num, by omega, Lib.hid (by rw [HN2.out]; exact HO.out)⟩
        case measure => simp [intOf]; omega
      | true =>
        obtain ⟨r, hr⟩ : ∃ r, k % 64 = r := ⟨_, rfl⟩
        have hr64 : r < 64 := by rw [<- hr]; exact Nat.mod_lt _ (by decide)
        have w1 : (k : Int).tmod 64 = (r : Int) := rem_64 k r hr
        have Hw1 := Lib.hid w1
        have w2 : IntKind.i64.wrap (r : Int) = (r : Int) := (few_64 r hr64).1
        have w2' : wrap64 (r : Int) = (r : Int) := (few_64 r hr64).2.1
        have w3 : IntKind.u64.wrap (r : Int) = (r : Int) := (few_64 r hr64).2.2
        have r0 : (0 : Int) <= (r : Int) := Int.natCast_nonneg r
        have r1 : (r : Int) <= 64 := Int.ofNat_le.2 (Nat.le_of_lt hr64)
        obtain ⟨b, hb⟩ : ∃ b, bits / 2 ^ r = b := ⟨_, rfl⟩
        have hB : mineB bits k = (b % 2 == 1) := by unfold mineB; rw [hr, hb]
        have HB := Lib.hid hB
        have w5 : Go.bits BinOp.and IntKind.u64 b 1 = b % 2 := and1u b
        obtain ⟨x, hx⟩ : ∃ x, b % 2 = x := ⟨_, rfl⟩
        rw [hx] at w5 HB
        have hrep : Hid (kInt.rep wr (fun _ => False) (k : Int) [.int .i64 (k : Int)]) := Lib.hid ⟨rfl, place_ok (Nat.le_trans (Nat.le_of_lt hlt) hn)⟩
        have hq9 : (q + 1) * 8 <= 140737488355328 /\ q + 1 <= 1000000000000 := by have h1 := hlen; have h2 := hlt; have h3 := hn; clear HB w5 hx hb w1 w2 w2' w3 hr; omega
        clear hr hB hx w1
        have w1 : (k : Int).tmod 64 = (r : Int) := Hw1.out
        cases hx1 : (x == 1) with
        | false =>
          have HN2 : Hid (mineFrom bits 0 (us.take (k + 1)) = os) := Lib.hid (by rw [HN.out, HB.out, hx1]; simp)
          clear HN HB
          go_wp2
          go_roundw
          case rel => exact ⟨k + 1, by go_num, by omega, Lib.hid (by rw [HN2.out]; exact HO.out)⟩
          case measure => simp [intOf]; omega
        | true =>
          have HN2 : Hid (mineFrom bits 0 (us.take (k + 1)) = os ++ [(k : Int)]) := Lib.hid (by rw [HN.out, HB.out, hx1]; simp)
          clear HN HB
          go_wp2_with ((at_builtin; refine Kd.wpList_push (W := wr) (F := fun _ => False) (B := w.heap.size) (n := q) (v := .slice C q e5) (xs := os) (y := (k : Int)) (cs := [.int .i64 (k : Int)]) Ap.int_t rfl _ _ rfl rfl rfl rfl hown0.out hrep.out hq9.1 hq9.2 hlow (fun _ h => h.elim) ?_; intro g1 cap w' hown hgrow hfr; have HPu := Lib.hid (HO.out.push HLq.out hown hgrow); clear hown hgrow hfr))
          go_roundw
          case rel => exact ⟨k + 1, by go_num, by omega, Lib.hid (by rw [HN2.out]; exact HPu.out)⟩
          case measure => simp [intOf]; omega
    . have k1 : ¬ (k : Int) < (n : Int) := by omega
      obtain rfl : k = n := by omega
      have HE : Hid (mineFrom bits 0 (us.take k) = mineL bits us) := Lib.hid (by rw [List.take_of_length_le (by rw [HL.out]; omega)]; rfl)
      go_wp2
      go_ret
      rw [<- HE.out]
      exact HO.out.told
end Go.Proofs.YtljmddjlnlmenaaGreat.Ct

end
