/- Structs of package api as kinds of things: api.Line, api.Unit. · P11.1 as mathematics: names that rise, scopes, who has  .. -/
import Derived.BigQuiet
import Derived.Deep.QuietTactic
import Derived.Deep.RegionHeld3
import Derived.Laws.Bits64b
import Derived.Laws.EntriesVeiled
import Derived.Lib.Hide
import Derived.Lib.Mul64
import Derived.OpenShut
import Derived.ProofKit
import Derived.StillTactics
import Derived.WalkKit
import Derived.Test.YtljmddjlnlmenaaGreatPq0
import Derived.Test.YtljmddjlnlmenaaGreatPq1
import Derived.Test.YtljmddjlnlmenaaGreatRows
set_option maxRecDepth 100000
set_option linter.unusedVariables false

section
namespace Go.Proofs.YtljmddjlnlmenaaGreat.Ap
open Go.ChangeShapes Go.WideShapes Go.ChangeAt Go.RowKit
open Kd (Kind Row Own Cells Reads Fields Fit Agree kInt kStr kFlag kPair kVia kList Sl Lst)
structure Unt where
  line : Int
  net : Int
  opn : Bool
instance : Inhabited Unt := ⟨⟨0, 0, false⟩⟩
def Unt.enc (x : Unt) : List Value := [.int .i64 x.line, .int .i64 x.net, .bool x.opn]
structure Unt.ok (x : Unt) : Prop where
  line : -9223372036854775808 <= x.line /\ x.line <= 9223372036854775807
  net : -9223372036854775808 <= x.net /\ x.net <= 9223372036854775807
def kUnt : Kind Unt := kVia (kPair kInt (kPair kInt kFlag)) fun x => (x.line, x.net, x.opn)
theorem Unt_rep {w : World} {F : Nat -> Prop} {x : Unt} {cs : List Value} : kUnt.rep w F x cs ↔ cs = x.enc /\ x.ok := by
  constructor
  . rintro ⟨_, _, rfl, ⟨rfl, hline⟩, ⟨_, _, rfl, ⟨rfl, hnet⟩, rfl⟩⟩
    exact ⟨rfl, ⟨hline, hnet⟩⟩
  . rintro ⟨rfl, h⟩
    exact ⟨_, _, rfl, ⟨rfl, h.line⟩, ⟨_, _, rfl, ⟨rfl, h.net⟩, rfl⟩⟩
theorem reads_Unt : Reads Tryz.prog kUnt 35 :=
  Reads.via (fun y => ⟨y.1, y.2.1, y.2.2⟩) (fun _ => rfl) (Reads.struct Tryz.underlying35 (by kernel_rfl) (Fields.cons (by kernel_rfl) (Reads.int Tryz.underlying3 (by kernel_rfl)) (Fields.cons (by kernel_rfl) (Reads.int Tryz.underlying2 (by kernel_rfl)) (Fields.last (by kernel_rfl) (Reads.flag Tryz.underlying4 (by kernel_rfl))))))
theorem row_Unt {w : World} {F : Nat -> Prop} {A : Option Addr} {n k : Nat} {xs : List Unt} {x : Unt} (h : Row kUnt w F A n xs) (hk : xs[k]? = some x) : ∃ g o, A = some ⟨g, o, none⟩ /\ F g /\ g < w.heap.size /\ x.ok /\ w.cell? ⟨g, o + k * 3, none⟩ = some (.int .i64 x.line) /\ w.cell? ⟨g, o + k * 3 + 1, none⟩ = some (.int .i64 x.net) /\ w.cell? ⟨g, o + k * 3 + 2, none⟩ = some (.bool x.opn) := by
  obtain ⟨g, o, cs, hA, hF, hl, hr, hc⟩ := h.each k x hk
  obtain ⟨rfl, hok⟩ := Unt_rep.1 hr
  exact ⟨g, o, hA, hF, hl, hok, hc 0 _ rfl, hc 1 _ rfl, hc 2 _ rfl⟩
end Go.Proofs.YtljmddjlnlmenaaGreat.Ap

end

section
namespace Go.Proofs.YtljmddjlnlmenaaGreat.Sc
open Ap (Scp)
open It (Itm)
def Rise (l : List ByteArray) : Prop := ∀ (i : Nat) (a b : ByteArray), l[i]? = some a -> l[i + 1]? = some b -> Sr.lt a b = true
structure Names (l : List ByteArray) (m : Int) : Prop where
  few : (l.length : Int) <= m
  each : ∀ (i : Nat) (a : ByteArray), l[i]? = some a -> Sr.name a = true
  rise : Rise l
noncomputable def namesB (l : List ByteArray) (m : Int) : Bool := @decide (Names l m) (Classical.propDecidable _)
theorem namesB_yes {l : List ByteArray} {m : Int} (h : Names l m) : namesB l m = true := by unfold namesB; exact @decide_eq_true _ (Classical.propDecidable _) h
theorem namesB_no {l : List ByteArray} {m : Int} (h : ¬ Names l m) : namesB l m = false := by unfold namesB; exact @decide_eq_false _ (Classical.propDecidable _) h
structure UpTo (l : List ByteArray) (k : Nat) : Prop where
  each : ∀ (i : Nat) (a : ByteArray), i < k -> l[i]? = some a -> Sr.name a = true
  rise : ∀ (i : Nat) (a b : ByteArray), i + 1 < k -> l[i]? = some a -> l[i + 1]? = some b -> Sr.lt a b = true
theorem UpTo.next {l : List ByteArray} {k : Nat} {a : ByteArray} (h : UpTo l k) (ha : l[k]? = some a) (hn : Sr.name a = true) (hr : ∀ b, 0 < k -> l[k - 1]? = some b -> Sr.lt b a = true) : UpTo l (k + 1) :=
  ⟨fun i b hlt hb => by
    rcases Nat.lt_or_ge i k with h1 | h1
    . exact h.each i b h1 hb
    . obtain rfl : i = k := by omega
      rw [ha] at hb; injection hb with hb; subst hb; exact hn,
   fun i b c hlt hb hc => by
    rcases Nat.lt_or_ge (i + 1) k with h1 | h1
    . exact h.rise i b c h1 hb hc
    . obtain rfl : k = i + 1 := by omega
      rw [ha] at hc; injection hc with hc; subst hc
      exact hr b (by omega) hb⟩
theorem UpTo.names {l : List ByteArray} {m : Int} (h : UpTo l l.length) : namesB l m = decide ((l.length : Int) <= m) := by
  by_cases h5 : (l.length : Int) <= m
  . rw [decide_eq_true h5]
    exact namesB_yes ⟨h5, fun i a ha => h.each i a (List.getElem?_eq_some_iff.1 ha).1 ha, fun i a b ha hb => h.rise i a b (List.getElem?_eq_some_iff.1 hb).1 ha hb⟩
  . rw [decide_eq_false h5]
    exact namesB_no fun g => h5 g.few
theorem bad_name {l : List ByteArray} {m : Int} {k : Nat} {a : ByteArray} (ha : l[k]? = some a) (h : Sr.name a = false) : namesB l m = false := namesB_no fun g => by
  rw [g.each k a ha] at h; cases h
theorem bad_step {l : List ByteArray} {m : Int} {k : Nat} {a b : ByteArray} (ha : l[k]? = some a) (hb : l[k - 1]? = some b) (hk : 0 < k) (h : Sr.lt b a = false) : namesB l m = false := namesB_no fun g => by
  rw [g.rise (k - 1) b a hb (by rw [show k - 1 + 1 = k by omega]; exact ha)] at h; cases h
noncomputable def scopeB (s : Scp) : Bool := namesB s.skus 20 && namesB s.cats 20
end Go.Proofs.YtljmddjlnlmenaaGreat.Sc

end

section
namespace Go.Proofs.YtljmddjlnlmenaaGreat.Pr
open Ap (Scp Prt Tir Prm)
open Sc (namesB scopeB)
def inB (x m : Int) : Bool := decide (0 <= x) && decide (x <= m)
noncomputable def partB (p : Prt) : Bool := scopeB p.scope && decide (1 <= p.count) && decide (p.count <= 100)
noncomputable def partsB (l : List Prt) : Bool := l.all partB && decide (1 <= l.length) && decide (l.length <= 3)
theorem partsB_no {l : List Prt} {k : Nat} {p : Prt} (hk : l[k]? = some p) (h : partB p = false) : partsB l = false := by
  unfold partsB
  rw [List.all_eq_false.2 ⟨p, List.mem_of_getElem? hk, by simp [h]⟩]
  rfl
theorem partsB_end {l : List Prt} (h : ∀ (k : Nat) (p : Prt), l[k]? = some p -> partB p = true) : partsB l = (decide (1 <= l.length) && decide (l.length <= 3)) := by
  unfold partsB
  rw [List.all_eq_true.2 fun p hp => by
    obtain ⟨k, hk, e⟩ := List.mem_iff_getElem.1 hp
    exact h k p (by rw [<- e]; exact List.getElem?_eq_getElem _)]
  rfl
def tierB (t : Tir) : Bool := inB t.least 10000000000000 && inB t.rate 10000 && inB t.amount 10000000000000 && !(t.rate == 0 && t.amount == 0)
structure Tiers (l : List Tir) : Prop where
  each : ∀ (i : Nat) (t : Tir), l[i]? = some t -> tierB t = true
  rise : ∀ (i : Nat) (a b : Tir), l[i]? = some a -> l[i + 1]? = some b -> a.least < b.least
  some_ : 1 <= l.length
  few : l.length <= 6
noncomputable def tiersB (l : List Tir) : Bool := @decide (Tiers l) (Classical.propDecidable _)
theorem tiersB_yes {l : List Tir} (h : Tiers l) : tiersB l = true := by unfold tiersB; exact @decide_eq_true _ (Classical.propDecidable _) h
theorem tiersB_no {l : List Tir} (h : ¬ Tiers l) : tiersB l = false := by unfold tiersB; exact @decide_eq_false _ (Classical.propDecidable _) h
structure TUp (l : List Tir) (k : Nat) : Prop where
  each : ∀ (i : Nat) (t : Tir), i < k -> l[i]? = some t -> tierB t = true
  rise : ∀ (i : Nat) (a b : Tir), i + 1 < k -> l[i]? = some a -> l[i + 1]? = some b -> a.least < b.least
theorem TUp.next {l : List Tir} {k : Nat} {t : Tir} (h : TUp l k) (ht : l[k]? = some t) (hb : tierB t = true) (hr : ∀ b, 0 < k -> l[k - 1]? = some b -> b.least < t.least) : TUp l (k + 1) :=
  ⟨fun i b hlt hb2 => by
    rcases Nat.lt_or_ge i k with h1 | h1
    . exact h.each i b h1 hb2
    . obtain rfl : i = k := by omega
      rw [ht] at hb2; injection hb2 with hb2; subst hb2; exact hb,
   fun i b c hlt hb2 hc => by
    rcases Nat.lt_or_ge (i + 1) k with h1 | h1
    . exact h.rise i b c h1 hb2 hc
    . obtain rfl : k = i + 1 := by omega
      rw [ht] at hc; injection hc with hc; subst hc
      exact hr b (by omega) hb2⟩
theorem TUp.all {l : List Tir} (h : TUp l l.length) : tiersB l = (decide (1 <= l.length) && decide (l.length <= 6)) := by
  by_cases h1 : 1 <= l.length
  . by_cases h2 : l.length <= 6
    . rw [decide_eq_true h1, decide_eq_true h2]
      exact tiersB_yes ⟨fun i t ht => h.each i t (List.getElem?_eq_some_iff.1 ht).1 ht, fun i a b ha hb => h.rise i a b (List.getElem?_eq_some_iff.1 hb).1 ha hb, h1, h2⟩
    . rw [decide_eq_false h2, Bool.and_false]
      exact tiersB_no fun g => h2 g.few
  . rw [decide_eq_false h1]
    exact tiersB_no fun g => h1 g.some_
theorem tier_bad {l : List Tir} {k : Nat} {t : Tir} (ht : l[k]? = some t) (h : tierB t = false) : tiersB l = false := tiersB_no fun g => by
  rw [g.each k t ht] at h; cases h
theorem tier_step {l : List Tir} {k : Nat} {t b : Tir} (ht : l[k]? = some t) (hb : l[k - 1]? = some b) (hk : 0 < k) (h : t.least <= b.least) : tiersB l = false := tiersB_no fun g => by
  have := g.rise (k - 1) b t hb (by rw [show k - 1 + 1 = k by omega]; exact ht)
  omega
def blankB (s : ByteArray) : Bool := s.toList.isEmpty || Sr.name s
noncomputable def headB (p : Prm) : Bool := Sr.name p.id && decide (1 <= p.kind) && decide (p.kind <= 7) && decide (0 <= p.priority) && decide (p.priority <= 1000) && blankB p.group && blankB p.code && scopeB p.scope && inB p.least 10000000000000
def noParts (p : Prm) : Bool := p.parts.length == 0
def noTiers (p : Prm) : Bool := p.tiers.length == 0
def noBuy (p : Prm) : Bool := p.buy == 0 && p.get == 0
def allB (p : Prm) : Bool := (p.scope.skus.length == 0) && (p.scope.cats.length == 0)
def someB (p : Prm) : Bool := decide (1 <= p.rate) && decide (p.rate <= 10000)
noncomputable def kindB (p : Prm) : Bool :=
  if p.kind = 1 then someB p && p.amount == 0 && noBuy p && noParts p && noTiers p
  else if p.kind = 2 then p.rate == 0 && decide (1 <= p.amount) && decide (p.amount <= 1000000000) && noBuy p && noParts p && noTiers p
  else if p.kind = 3 then someB p && p.amount == 0 && decide (1 <= p.buy) && decide (p.buy <= 100) && decide (1 <= p.get) && decide (p.get <= 100) && noParts p && noTiers p
  else if p.kind = 4 then p.rate == 0 && inB p.amount 10000000000000 && noBuy p && partsB p.parts && noTiers p && allB p
  else if p.kind = 7 then someB p && p.amount == 0 && noBuy p && noParts p && noTiers p && allB p && !p.closes
  else p.rate == 0 && p.amount == 0 && noBuy p && noParts p && tiersB p.tiers
noncomputable def promoB (p : Prm) : Bool := headB p && kindB p
end Go.Proofs.YtljmddjlnlmenaaGreat.Pr

end

section
namespace Go.Proofs.YtljmddjlnlmenaaGreat.Mn
open Go.ChangeShapes Go.WideShapes Go.ChangeAt Go.RowKit
theorem right_yes (x : Int) (w : World) (h0 : 0 <= x) (h1 : x <= 100000000000000) :
    Calls Tryz.prog 73 #[.int .i64 x] w fun e w' => e = .returned (.bool true) /\ w = w' := by
  go_enter Tryz.func73, Tryz.ntmps73
  go_wp2
  go_ret
  exact ⟨rfl, rfl⟩
theorem right_no (x : Int) (w : World) (h : x < 0 \/ 100000000000000 < x) :
    Calls Tryz.prog 73 #[.int .i64 x] w fun e w' => e = .returned (.bool false) /\ w = w' := by
  rcases h with h | h
  . go_enter Tryz.func73, Tryz.ntmps73
    go_wp2
    go_ret
    exact ⟨rfl, rfl⟩
  . have hd : decide (x <= 100000000000000) = false := by simp; omega
    go_enter Tryz.func73, Tryz.ntmps73
    go_wp2
    go_ret
    exact ⟨rfl, rfl⟩
theorem ranged_yes (x : Int) (w : World) (h0 : 0 <= x) (h1 : x <= 100000000000000) :
    Calls Tryz.prog 115 #[.int .i64 x] w fun e w' => e = .returned (.tuple #[.int .i64 x, .int .i64 0]) /\ w = w' := by
  go_enter Tryz.func115, Tryz.ntmps115
  go_wp2_with (go_at_call 73; refine (right_yes _ _ h0 h1).mono ?_; rintro e w' ⟨rfl, rfl⟩)
  go_ret2
  exact ⟨rfl, rfl⟩
theorem ranged_no (x : Int) (w : World) (h : x < 0 \/ 100000000000000 < x) :
    Calls Tryz.prog 115 #[.int .i64 x] w fun e w' => e = .returned (.tuple #[.int .i64 0, .int .i64 5]) /\ w = w' := by
  go_enter Tryz.func115, Tryz.ntmps115
  go_wp2_with (go_at_call 73; refine (right_no _ _ h).mono ?_; rintro e w' ⟨rfl, rfl⟩)
  go_ret2
  exact ⟨rfl, rfl⟩
def rnd (way q r d : Int) : Int := if way = 0 then q else if way = 2 /\ 2 * r = d then q + q % 2 else if d <= 2 * r then q + 1 else q
theorem down_any (q r d : Int) (w : World) :
    Calls Tryz.prog 111 #[.agg #[.int .i64 q, .int .i64 r, .int .i64 d]] w fun e w' => e = .returned (.int .i64 (rnd 0 q r d)) /\ Below w.heap.size w w' := by
  have hr : q = rnd 0 q r d := by simp [rnd]
  have HR := Lib.hid hr; clear hr
  go_enter Tryz.func111, Tryz.ntmps111
  go_wp2
  go_ret
  exact ⟨congrArg (fun q => Ending.returned (.int .i64 q)) HR.out, (Below.refl _ _).alloc (Nat.le_refl _) _⟩
theorem halfUp_any (q r d : Int) (w : World) (h0 : 0 <= r) (h1 : r <= 100000000000000) (hq0 : 0 <= q) (hq : q <= 100000000000000) :
    Calls Tryz.prog 112 #[.agg #[.int .i64 q, .int .i64 r, .int .i64 d]] w fun e w' => e = .returned (.int .i64 (rnd 1 q r d)) /\ Below w.heap.size w w' := by
  by_cases h : d <= 2 * r
  . have hr : q + 1 = rnd 1 q r d := by simp [rnd, h]
    have HR := Lib.hid hr; clear hr
    go_enter Tryz.func112, Tryz.ntmps112
    go_wp2
    go_ret
    exact ⟨congrArg (fun q => Ending.returned (.int .i64 q)) HR.out, (Below.refl _ _).alloc (Nat.le_refl _) _⟩
  . have hr : q = rnd 1 q r d := by simp [rnd, h]
    have HR := Lib.hid hr; clear hr
    go_enter Tryz.func112, Tryz.ntmps112
    go_wp2
    go_ret
    exact ⟨congrArg (fun q => Ending.returned (.int .i64 q)) HR.out, (Below.refl _ _).alloc (Nat.le_refl _) _⟩
theorem halfEven_any (q r d : Int) (w : World) (h0 : 0 <= r) (h1 : r <= 100000000000000) (hq0 : 0 <= q) (hq : q <= 100000000000000) :
    Calls Tryz.prog 113 #[.agg #[.int .i64 q, .int .i64 r, .int .i64 d]] w fun e w' => e = .returned (.int .i64 (rnd 2 q r d)) /\ Below w.heap.size w w' := by
  by_cases h : 2 * r = d
  . have hr : q + q % 2 = rnd 2 q r d := by simp [rnd, h]
    have HR := Lib.hid hr; clear hr
    have hb : (2 * r == d) = true := by simp [h]
    clear h
    go_enter Tryz.func113, Tryz.ntmps113
    go_wp2
    go_ret
    exact ⟨congrArg (fun q => Ending.returned (.int .i64 q)) HR.out, (Below.refl _ _).alloc (Nat.le_refl _) _⟩
  . have hr : rnd 1 q r d = rnd 2 q r d := by simp [rnd, h]
    have HR := Lib.hid hr; clear hr
    have hb : (2 * r == d) = false := by simp [h]
    clear h
    go_enter Tryz.func113, Tryz.ntmps113
    go_wp2_with (go_at_call 112; refine (halfUp_any _ _ _ _ h0 h1 hq0 hq).mono ?_; rintro e w' ⟨rfl, hb1⟩)
    go_ret
    exact ⟨congrArg (fun q => Ending.returned (.int .i64 q)) HR.out, ((Below.refl _ _).alloc (Nat.le_refl _) _).trans (hb1.mono (by simp))⟩
theorem and32 (a : Nat) (ha : a < 18446744073709551616) : bits .and .u64 (a : Int) 4294967295 = ((a % 4294967296 : Nat) : Int) :=
  (bits_and_u64_nat a 4294967295 ha (by omega)).trans (congrArg Nat.cast (Nat.and_two_pow_sub_one_eq_mod a 32))
theorem castDiv (a : Nat) : (a : Int) / 4294967296 = ((a / 4294967296 : Nat) : Int) := by omega
theorem castMul (a b : Nat) : (a : Int) * (b : Int) = ((a * b : Nat) : Int) := (Int.natCast_mul a b).symm
theorem castAdd (a b : Nat) : (a : Int) + (b : Int) = ((a + b : Nat) : Int) := (Int.natCast_add a b).symm
theorem fits (a : Nat) (ha : a < 18446744073709551616) : IntKind.u64.wrap (a : Int) = (a : Int) := by rw [IntKind.wrap_u64]; omega
theorem goesRound (a : Nat) : IntKind.u64.wrap (a : Int) = ((a % 18446744073709551616 : Nat) : Int) := by rw [IntKind.wrap_u64]; omega
set_option maxHeartbeats 1000000 in
theorem mul64_nat (x y : Nat) (hx : x < 18446744073709551616) (hy : y < 18446744073709551616) (w : World) :
    Calls Tryz.prog 127 #[.int .u64 x, .int .u64 y] w fun e w' => e = .returned (.tuple #[.int .u64 ((x * y / 18446744073709551616 : Nat) : Int), .int .u64 ((x * y % 18446744073709551616 : Nat) : Int)]) /\ w = w' := by
  obtain ⟨k0, kt, kw, kh⟩ := Lib.mul64_hi x y hx hy
  have m11 := Lib.half_mul_le (a := x / 4294967296) (b := y / 4294967296) (by omega) (by omega)
  have m10 := Lib.half_mul_le (a := x / 4294967296) (b := y % 4294967296) (by omega) (by omega)
  have m01 := Lib.half_mul_le (a := x % 4294967296) (b := y / 4294967296) (by omega) (by omega)
  have f11 := fits (x / 4294967296 * (y / 4294967296)) (by omega)
  have f10 := fits (x / 4294967296 * (y % 4294967296)) (by omega)
  have f01 := fits (x % 4294967296 * (y / 4294967296)) (by omega)
  have f1 := fits (x / 4294967296 * (y / 4294967296) + (x / 4294967296 * (y % 4294967296) + x % 4294967296 * (y % 4294967296) / 4294967296) / 4294967296) (by omega)
  have f2 := fits (x / 4294967296 * (y / 4294967296) + (x / 4294967296 * (y % 4294967296) + x % 4294967296 * (y % 4294967296) / 4294967296) / 4294967296 + ((x / 4294967296 * (y % 4294967296) + x % 4294967296 * (y % 4294967296) / 4294967296) % 4294967296 + x % 4294967296 * (y / 4294967296)) / 4294967296) (by omega)
  have F := Lib.hid (And.intro f11 (And.intro f10 (And.intro f01 (And.intro f1 f2)))); clear f11 f10 f01 f1 f2
  have KH := Lib.hid kh; clear kh
  go_enter Tryz.func127, Tryz.ntmps127
  go_wp2
  obtain ⟨f11, f10, f01, f1, f2⟩ := F.out
  simp only [and32 x hx, and32 y hy, castDiv, castMul, castAdd, fits _ k0, f10, fits _ kt, and32 _ kt, f01, fits _ kw, f11, f1, f2, goesRound (x * y)]
  rw [KH.out]
  go_ret2
  exact ⟨rfl, rfl⟩
theorem belowDrewN (B : Nat) (w : World) (n : Nat) : Below B w (w.drewN n) := ⟨rfl, rfl, rfl, Nat.le_refl _, fun _ _ => rfl⟩
def DivSaid (hi lo y : Int) : Prop := ∀ w : World, Calls Tryz.prog 128 #[.int .u64 hi, .int .u64 lo, .int .u64 y] w fun e w' => e = .returned (.tuple #[.int .u64 ((hi * 18446744073709551616 + lo) / y), .int .u64 ((hi * 18446744073709551616 + lo) % y)]) /\ Below w.heap.size w w'
theorem div64_zero (x y : Int) (h0 : 0 <= x) (h1 : x < 18446744073709551616) (g0 : 1 <= y) (g1 : y <= 100000000000000) : DivSaid 0 x y := by
  intro w
  have hb : (y == 0) = false := by simp; omega
  have e : (0 : Int) * 18446744073709551616 + x = x := by omega
  rw [e]
  clear e
  go_enter Tryz.func128, Tryz.ntmps128
  go_wp2
  go_quiet (fail)
  go_wp2
  go_ret2
  exact ⟨rfl, belowDrewN _ _ _⟩
end Go.Proofs.YtljmddjlnlmenaaGreat.Mn

end

section
namespace Go.Proofs.YtljmddjlnlmenaaGreat.Mn
open Go.ChangeShapes Go.WideShapes Go.ChangeAt Go.RowKit
def MulGives (x y hi lo : Int) : Prop := ∀ w : World, Calls Tryz.prog 127 #[.int .u64 x, .int .u64 y] w fun e w' => e = .returned (.tuple #[.int .u64 hi, .int .u64 lo]) /\ w = w'
def DivGives (hi lo d q r : Int) : Prop := ∀ w : World, Calls Tryz.prog 128 #[.int .u64 hi, .int .u64 lo, .int .u64 d] w fun e w' => e = .returned (.tuple #[.int .u64 q, .int .u64 r]) /\ Below w.heap.size w w'
theorem divide_ok (x y d hi lo q r : Int) (w : World) (h0 : 0 <= x) (h1 : x <= 100000000000000) (g0 : 0 <= y) (g1 : y <= 100000000000000) (d0 : 1 <= d) (d1 : d <= 100000000000000)
    (hM : MulGives x y hi lo) (hD : DivGives hi lo d q r) (k1 : hi < d) (q0 : 0 <= q) (q1 : q <= 100000000000000) (r0 : 0 <= r) (r1 : r < d) :
    Calls Tryz.prog 114 #[.int .i64 x, .int .i64 y, .int .i64 d] w fun e w' => e = .returned (.tuple #[.agg #[.int .i64 q, .int .i64 r, .int .i64 d], .bool true]) /\ Below w.heap.size w w' := by
  go_enter Tryz.func114, Tryz.ntmps114
  go_wp2_with fail
  refine (hM _).mono ?_
  rintro e w' ⟨rfl, rfl⟩
  go_wp2_with fail
  refine (hD _).mono ?_
  rintro e w' ⟨rfl, hb⟩
  have hz := hb.size
  have hc : ∀ o, w'.cell? ⟨w.heap.size, o, none⟩ = (w.alloc (.cells #[.int .i64 0, .int .i64 0, .int .i64 0] 156)).cell? ⟨w.heap.size, o, none⟩ := fun o => hb.cell (p := ⟨w.heap.size, o, none⟩) (by simp)
  have hf : ∀ o, w'.frozen? ⟨w.heap.size, o, none⟩ = (w.alloc (.cells #[.int .i64 0, .int .i64 0, .int .i64 0] 156)).frozen? ⟨w.heap.size, o, none⟩ := fun o => hb.frozen (p := ⟨w.heap.size, o, none⟩) (by simp)
  go_wp2
  exact bodyPost_ret (v := .tuple #[.agg #[.int .i64 q, .int .i64 r, .int .i64 d], .bool true]) (by simp [results, Tryz.results114, go_sem, hc]) rfl
    ⟨rfl, ((((((Below.refl _ _).alloc (Nat.le_refl _) _).trans (hb.mono (by simp))).setCell (Nat.le_refl _) _).setCell (Nat.le_refl _) _).setCell (Nat.le_refl _) _)⟩
theorem divide_high (x y d hi lo : Int) (w : World) (h0 : 0 <= x) (h1 : x <= 100000000000000) (g0 : 0 <= y) (g1 : y <= 100000000000000) (d0 : 1 <= d) (d1 : d <= 100000000000000)
    (hM : MulGives x y hi lo) (k1 : d <= hi) :
    Calls Tryz.prog 114 #[.int .i64 x, .int .i64 y, .int .i64 d] w fun e w' => e = .returned (.tuple #[.agg #[.int .i64 0, .int .i64 0, .int .i64 0], .bool false]) /\ Below w.heap.size w w' := by
  go_enter Tryz.func114, Tryz.ntmps114
  go_wp2_with fail
  refine (hM _).mono ?_
  rintro e w' ⟨rfl, rfl⟩
  go_wp2
  exact bodyPost_ret (v := .tuple #[.agg #[.int .i64 0, .int .i64 0, .int .i64 0], .bool false]) (by simp [results, Tryz.results114, go_sem]) rfl
    ⟨rfl, (Below.refl _ _).alloc (Nat.le_refl _) _⟩
theorem divide_over (x y d hi lo q r : Int) (w : World) (h0 : 0 <= x) (h1 : x <= 100000000000000) (g0 : 0 <= y) (g1 : y <= 100000000000000) (d0 : 1 <= d) (d1 : d <= 100000000000000)
    (hM : MulGives x y hi lo) (hD : DivGives hi lo d q r) (k1 : hi < d) (q1 : 100000000000000 < q) :
    Calls Tryz.prog 114 #[.int .i64 x, .int .i64 y, .int .i64 d] w fun e w' => e = .returned (.tuple #[.agg #[.int .i64 0, .int .i64 0, .int .i64 0], .bool false]) /\ Below w.heap.size w w' := by
  go_enter Tryz.func114, Tryz.ntmps114
  go_wp2_with fail
  refine (hM _).mono ?_
  rintro e w' ⟨rfl, rfl⟩
  go_wp2_with fail
  refine (hD _).mono ?_
  rintro e w' ⟨rfl, hb⟩
  have hz := hb.size
  have hc : ∀ o, w'.cell? ⟨w.heap.size, o, none⟩ = (w.alloc (.cells #[.int .i64 0, .int .i64 0, .int .i64 0] 156)).cell? ⟨w.heap.size, o, none⟩ := fun o => hb.cell (p := ⟨w.heap.size, o, none⟩) (by simp)
  have hf : ∀ o, w'.frozen? ⟨w.heap.size, o, none⟩ = (w.alloc (.cells #[.int .i64 0, .int .i64 0, .int .i64 0] 156)).frozen? ⟨w.heap.size, o, none⟩ := fun o => hb.frozen (p := ⟨w.heap.size, o, none⟩) (by simp)
  go_wp2
  exact bodyPost_ret (v := .tuple #[.agg #[.int .i64 0, .int .i64 0, .int .i64 0], .bool false]) (by simp [results, Tryz.results114, go_sem, hc]) rfl
    ⟨rfl, ((((((Below.refl _ _).alloc (Nat.le_refl _) _).trans (hb.mono (by simp))).setCell (Nat.le_refl _) _).setCell (Nat.le_refl _) _).setCell (Nat.le_refl _) _)⟩
theorem times_x (x y d way : Int) (w : World) (h : x < 0 \/ 100000000000000 < x) :
    Calls Tryz.prog 97 #[.int .i64 x, .int .i64 y, .int .i64 d, .int .i64 way] w fun e w' => e = .returned (.tuple #[.int .i64 0, .int .i64 2]) /\ Below w.heap.size w w' := by
  go_enter Tryz.func97, Tryz.ntmps97
  go_wp2_with fail
  refine (right_no _ _ h).mono ?_
  rintro e w' ⟨rfl, rfl⟩
  go_wp2_with fail
  go_ret2
  exact ⟨rfl, ((Below.refl _ _).alloc (Nat.le_refl _) _)⟩
theorem times_way0 (q r d : Int) (e5 v : Int) (x y : Int) (w : World) (h0 : 0 <= x) (h1 : x <= 100000000000000) (g0 : 0 <= y) (g1 : y <= 100000000000000) (d0 : 1 <= d) (d1 : d <= 100000000000000)
    (HV : Hid (∀ w, Calls Tryz.prog 114 #[.int .i64 x, .int .i64 y, .int .i64 d] w fun e w' => e = .returned (.tuple #[.agg #[.int .i64 q, .int .i64 r, .int .i64 d], .bool true]) /\ Below w.heap.size w w'))
    (HW : Hid (∀ w, Calls Tryz.prog 111 #[.agg #[.int .i64 q, .int .i64 r, .int .i64 d]] w fun e w' => e = .returned (.int .i64 (rnd 0 q r d)) /\ Below w.heap.size w w'))
    (HR : Hid (∀ w, Calls Tryz.prog 115 #[.int .i64 (rnd 0 q r d)] w fun e w' => e = .returned (.tuple #[.int .i64 v, .int .i64 e5]) /\ w = w')) :
    Calls Tryz.prog 97 #[.int .i64 x, .int .i64 y, .int .i64 d, .int .i64 0] w fun e w' => e = .returned (.tuple #[.int .i64 v, .int .i64 e5]) /\ Below w.heap.size w w' := by
  go_enter Tryz.func97, Tryz.ntmps97
  go_wp2_with fail
  refine (right_yes _ _ h0 h1).mono ?_
  rintro e w' ⟨rfl, rfl⟩
  go_wp2_with fail
  refine (right_yes _ _ g0 g1).mono ?_
  rintro e w' ⟨rfl, rfl⟩
  go_wp2_with fail
  refine (HV.out _).mono ?_
  rintro e w' ⟨rfl, hb⟩
  have hz := hb.size
  have hz0 : w.heap.size + 1 <= w'.heap.size := by simpa using hz
  have hc : ∀ o, w'.cell? ⟨w.heap.size, o, none⟩ = (w.alloc (.cells #[.func (.func 111) #[] #[], .func (.func 112) #[] #[], .func (.func 113) #[] #[]] 157)).cell? ⟨w.heap.size, o, none⟩ := fun o => hb.cell (p := ⟨w.heap.size, o, none⟩) (by simp)
  have hA : (w'.alloc (.cells #[.int .i64 q, .int .i64 r, .int .i64 d] 156)).cell? ⟨w.heap.size, 0, none⟩ = some (.func (.func 111) #[] #[]) := by
    rw [World.cell?_alloc_old _ _ _ (by simp; omega), hc]
    simp [go_sem]
  have hB : ∀ o, (w'.alloc (.cells #[.int .i64 q, .int .i64 r, .int .i64 d] 156)).cell? ⟨w'.heap.size, o, none⟩ = #[Value.int .i64 q, .int .i64 r, .int .i64 d][o]? := fun o => by simp [go_sem]
  have hb1 : Below w.heap.size w (w'.alloc (.cells #[.int .i64 q, .int .i64 r, .int .i64 d] 156)) := (((Below.refl _ _).alloc (Nat.le_refl _) _).trans (hb.mono (by simp))).alloc (by omega) _
  have hB0 := hB 0
  have hB1 := hB 1
  have hB2 := hB 2
  clear hB hc
  go_wp2_with fail
  have hW : w'.heap.size + 1 = (w'.alloc (.cells #[.int .i64 q, .int .i64 r, .int .i64 d] 156)).heap.size := by simp
  generalize (w'.alloc (.cells #[.int .i64 q, .int .i64 r, .int .i64 d] 156)) = W at *
  have hW1 : w'.heap.size < W.heap.size := by omega
  have hW0 : w.heap.size < W.heap.size := by omega
  generalize w'.heap.size = B at *
  clear hW hz hz0 hb
  go_region_held3 (fun u => u.cell? ⟨w.heap.size, 0, none⟩ = some (.func (.func 111) #[] #[]) /\ u.cell? ⟨B, 0, none⟩ = some (.int .i64 q) /\ u.cell? ⟨B, 1, none⟩ = some (.int .i64 r) /\ u.cell? ⟨B, 2, none⟩ = some (.int .i64 d))
    (first
      | go_keep
      | (go_split_ands
         refine ⟨?_, ?_, ?_, ?_⟩ <;> (rw [hb3.cell (by simp; omega)]; assumption)))
    (first
      | (go_at_call 111; refine (HW.out _).mono ?_; rintro e w3 ⟨rfl, hb3⟩)
      | (go_at_call 115; refine (HR.out _).mono ?_; rintro e w4 ⟨rfl, rfl⟩))
  go_wp2
  go_ret2
  exact ⟨rfl, hb1.drew.trans (hb3.mono hb1.size)⟩
theorem times_way1 (q r d : Int) (e5 v : Int) (x y : Int) (w : World) (h0 : 0 <= x) (h1 : x <= 100000000000000) (g0 : 0 <= y) (g1 : y <= 100000000000000) (d0 : 1 <= d) (d1 : d <= 100000000000000)
    (HV : Hid (∀ w, Calls Tryz.prog 114 #[.int .i64 x, .int .i64 y, .int .i64 d] w fun e w' => e = .returned (.tuple #[.agg #[.int .i64 q, .int .i64 r, .int .i64 d], .bool true]) /\ Below w.heap.size w w'))
    (HW : Hid (∀ w, Calls Tryz.prog 112 #[.agg #[.int .i64 q, .int .i64 r, .int .i64 d]] w fun e w' => e = .returned (.int .i64 (rnd 1 q r d)) /\ Below w.heap.size w w'))
    (HR : Hid (∀ w, Calls Tryz.prog 115 #[.int .i64 (rnd 1 q r d)] w fun e w' => e = .returned (.tuple #[.int .i64 v, .int .i64 e5]) /\ w = w')) :
    Calls Tryz.prog 97 #[.int .i64 x, .int .i64 y, .int .i64 d, .int .i64 1] w fun e w' => e = .returned (.tuple #[.int .i64 v, .int .i64 e5]) /\ Below w.heap.size w w' := by
  go_enter Tryz.func97, Tryz.ntmps97
  go_wp2_with fail
  refine (right_yes _ _ h0 h1).mono ?_
  rintro e w' ⟨rfl, rfl⟩
  go_wp2_with fail
  refine (right_yes _ _ g0 g1).mono ?_
  rintro e w' ⟨rfl, rfl⟩
  go_wp2_with fail
  refine (HV.out _).mono ?_
  rintro e w' ⟨rfl, hb⟩
  have hz := hb.size
  have hz0 : w.heap.size + 1 <= w'.heap.size := by simpa using hz
  have hc : ∀ o, w'.cell? ⟨w.heap.size, o, none⟩ = (w.alloc (.cells #[.func (.func 111) #[] #[], .func (.func 112) #[] #[], .func (.func 113) #[] #[]] 157)).cell? ⟨w.heap.size, o, none⟩ := fun o => hb.cell (p := ⟨w.heap.size, o, none⟩) (by simp)
  have hA : (w'.alloc (.cells #[.int .i64 q, .int .i64 r, .int .i64 d] 156)).cell? ⟨w.heap.size, 1, none⟩ = some (.func (.func 112) #[] #[]) := by
    rw [World.cell?_alloc_old _ _ _ (by simp; omega), hc]
    simp [go_sem]
  have hB : ∀ o, (w'.alloc (.cells #[.int .i64 q, .int .i64 r, .int .i64 d] 156)).cell? ⟨w'.heap.size, o, none⟩ = #[Value.int .i64 q, .int .i64 r, .int .i64 d][o]? := fun o => by simp [go_sem]
  have hb1 : Below w.heap.size w (w'.alloc (.cells #[.int .i64 q, .int .i64 r, .int .i64 d] 156)) := (((Below.refl _ _).alloc (Nat.le_refl _) _).trans (hb.mono (by simp))).alloc (by omega) _
  have hB0 := hB 0
  have hB1 := hB 1
  have hB2 := hB 2
  clear hB hc
  go_wp2_with fail
  have hW : w'.heap.size + 1 = (w'.alloc (.cells #[.int .i64 q, .int .i64 r, .int .i64 d] 156)).heap.size := by simp
  generalize (w'.alloc (.cells #[.int .i64 q, .int .i64 r, .int .i64 d] 156)) = W at *
  have hW1 : w'.heap.size < W.heap.size := by omega
  have hW0 : w.heap.size < W.heap.size := by omega
  generalize w'.heap.size = B at *
  clear hW hz hz0 hb
  go_region_held3 (fun u => u.cell? ⟨w.heap.size, 1, none⟩ = some (.func (.func 112) #[] #[]) /\ u.cell? ⟨B, 0, none⟩ = some (.int .i64 q) /\ u.cell? ⟨B, 1, none⟩ = some (.int .i64 r) /\ u.cell? ⟨B, 2, none⟩ = some (.int .i64 d))
    (first
      | go_keep
      | (go_split_ands
         refine ⟨?_, ?_, ?_, ?_⟩ <;> (rw [hb3.cell (by simp; omega)]; assumption)))
    (first
      | (go_at_call 112; refine (HW.out _).mono ?_; rintro e w3 ⟨rfl, hb3⟩)
      | (go_at_call 115; refine (HR.out _).mono ?_; rintro e w4 ⟨rfl, rfl⟩))
  go_wp2
  go_ret2
  exact ⟨rfl, hb1.drew.trans (hb3.mono hb1.size)⟩
theorem times_way2 (q r d : Int) (e5 v : Int) (x y : Int) (w : World) (h0 : 0 <= x) (h1 : x <= 100000000000000) (g0 : 0 <= y) (g1 : y <= 100000000000000) (d0 : 1 <= d) (d1 : d <= 100000000000000)
    (HV : Hid (∀ w, Calls Tryz.prog 114 #[.int .i64 x, .int .i64 y, .int .i64 d] w fun e w' => e = .returned (.tuple #[.agg #[.int .i64 q, .int .i64 r, .int .i64 d], .bool true]) /\ Below w.heap.size w w'))
    (HW : Hid (∀ w, Calls Tryz.prog 113 #[.agg #[.int .i64 q, .int .i64 r, .int .i64 d]] w fun e w' => e = .returned (.int .i64 (rnd 2 q r d)) /\ Below w.heap.size w w'))
    (HR : Hid (∀ w, Calls Tryz.prog 115 #[.int .i64 (rnd 2 q r d)] w fun e w' => e = .returned (.tuple #[.int .i64 v, .int .i64 e5]) /\ w = w')) :
    Calls Tryz.prog 97 #[.int .i64 x, .int .i64 y, .int .i64 d, .int .i64 2] w fun e w' => e = .returned (.tuple #[.int .i64 v, .int .i64 e5]) /\ Below w.heap.size w w' := by
  go_enter Tryz.func97, Tryz.ntmps97
  go_wp2_with fail
  refine (right_yes _ _ h0 h1).mono ?_
  rintro e w' ⟨rfl, rfl⟩
  go_wp2_with fail
  refine (right_yes _ _ g0 g1).mono ?_
  rintro e w' ⟨rfl, rfl⟩
  go_wp2_with fail
  refine (HV.out _).mono ?_
  rintro e w' ⟨rfl, hb⟩
  have hz := hb.size
  have hz0 : w.heap.size + 1 <= w'.heap.size := by simpa using hz
  have hc : ∀ o, w'.cell? ⟨w.heap.size, o, none⟩ = (w.alloc (.cells #[.func (.func 111) #[] #[], .func (.func 112) #[] #[], .func (.func 113) #[] #[]] 157)).cell? ⟨w.heap.size, o, none⟩ := fun o => hb.cell (p := ⟨w.heap.size, o, none⟩) (by simp)
  have hA : (w'.alloc (.cells #[.int .i64 q, .int .i64 r, .int .i64 d] 156)).cell? ⟨w.heap.size, 2, none⟩ = some (.func (.func 113) #[] #[]) := by
    rw [World.cell?_alloc_old _ _ _ (by simp; omega), hc]
    simp [go_sem]
  have hB : ∀ o, (w'.alloc (.cells #[.int .i64 q, .int .i64 r, .int .i64 d] 156)).cell? ⟨w'.heap.size, o, none⟩ = #[Value.int .i64 q, .int .i64 r, .int .i64 d][o]? := fun o => by simp [go_sem]
  have hb1 : Below w.heap.size w (w'.alloc (.cells #[.int .i64 q, .int .i64 r, .int .i64 d] 156)) := (((Below.refl _ _).alloc (Nat.le_refl _) _).trans (hb.mono (by simp))).alloc (by omega) _
  have hB0 := hB 0
  have hB1 := hB 1
  have hB2 := hB 2
  clear hB hc
  go_wp2_with fail
  have hW : w'.heap.size + 1 = (w'.alloc (.cells #[.int .i64 q, .int .i64 r, .int .i64 d] 156)).heap.size := by simp
  generalize (w'.alloc (.cells #[.int .i64 q, .int .i64 r, .int .i64 d] 156)) = W at *
  have hW1 : w'.heap.size < W.heap.size := by omega
  have hW0 : w.heap.size < W.heap.size := by omega
  generalize w'.heap.size = B at *
  clear hW hz hz0 hb
  go_region_held3 (fun u => u.cell? ⟨w.heap.size, 2, none⟩ = some (.func (.func 113) #[] #[]) /\ u.cell? ⟨B, 0, none⟩ = some (.int .i64 q) /\ u.cell? ⟨B, 1, none⟩ = some (.int .i64 r) /\ u.cell? ⟨B, 2, none⟩ = some (.int .i64 d))
    (first
      | go_keep
      | (go_split_ands
         refine ⟨?_, ?_, ?_, ?_⟩ <;> (rw [hb3.cell (by simp; omega)]; assumption)))
    (first
      | (go_at_call 113; refine (HW.out _).mono ?_; rintro e w3 ⟨rfl, hb3⟩)
      | (go_at_call 115; refine (HR.out _).mono ?_; rintro e w4 ⟨rfl, rfl⟩))
  go_wp2
  go_ret2
  exact ⟨rfl, hb1.drew.trans (hb3.mono hb1.size)⟩
end Go.Proofs.YtljmddjlnlmenaaGreat.Mn

end
