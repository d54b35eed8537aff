/- The landed brought: the places of the promotions that codes bring. -/
import Derived.Test.YtgimcleeamlgcaaPmS
import Derived.Test.YtgimcleeamlgcaaKa
import Derived.Deep.LoopGhost
import Derived.Deep.CutBlock
import Derived.Deep.DeepCutAuto
set_option maxRecDepth 100000

set_option linter.unusedVariables false
namespace Go.Proofs.Ytgimcleeamlgcaa.Pm
open Go.ChangeShapes Go.WideShapes Go.ChangeAt Go.RowKit
open Ap (Scp Prt Tir Prm kPrm row_Prm)
open Kd (Row Own kStr kInt row_str)
open Mv (Only)
open Pr (nth bef takenB)
open Sc (hasB)

/-- The places of the first k that are brought, rising. -/
def places (l : List Prm) (codes : List ByteArray) (k : Nat) : List Nat := (List.range k).filter (takenB l codes)

theorem places_more (l : List Prm) (codes : List ByteArray) (k : Nat) : places l codes (k + 1) = if takenB l codes k then places l codes k ++ [k] else places l codes k := by
  unfold places
  rw [List.range_succ, List.filter_append]
  cases h : takenB l codes k <;> simp [h]

theorem places_mem {l : List Prm} {codes : List ByteArray} {k i : Nat} : i ∈ places l codes k ↔ i < k ∧ takenB l codes i = true := by
  unfold places
  rw [List.mem_filter, List.mem_range]

theorem places_len (l : List Prm) (codes : List ByteArray) (k : Nat) : (places l codes k).length ≤ k := by
  unfold places
  have := List.length_filter_le (takenB l codes) (List.range k)
  simpa using this

def ints (l : List Nat) : List Int := l.map fun (i : Nat) => (i : Int)

def none_ : ByteArray := ⟨#[]⟩

theorem none_has (codes : List ByteArray) (s : ByteArray) : hasB ([none_] ++ codes) s = (s.toList.isEmpty || hasB codes s) := by
  unfold hasB
  rw [List.any_append]
  congr 1
  have e : none_.toList = [] := by rw [ByteArray.toList_eq]; rfl
  have h : Sr.same none_ s = s.toList.isEmpty := by
    unfold Sr.same
    rw [e]
    cases s.toList <;> rfl
  simp [h]

theorem look_set {w : World} {b : Nat} {l : List ByteArray} (h : SetAt w b l) {s : ByteArray} (hs : s.size ≤ maxLen) : (Instr.lookup 78 (.map (some b)) (.string s) true).run Try.prog w = .ok (.tuple #[.agg #[], .bool (hasB l s)]) w := by
  obtain ⟨v, ps, h1, h2⟩ := World.ownsMap.look_ok h string_keys Try.underlying78 (unit_zero w) unitElem_mk (Go.WideMaps.keyOf_string_mk Try.underlying9 hs)
  obtain ⟨rfl, _⟩ := unitElem_inv h2
  have e := set_has l s
  unfold lit at e
  rw [e] at h1
  exact h1

/-- Where the second loop stands. -/
structure Bring (w wr : World) (b : Nat) (l : List Prm) (codes : List ByteArray) (v : Value) (k : Nat) : Prop where
  set : SetAt wr b ([none_] ++ codes)
  own : Own kInt wr w.heap.size 3 (fun _ => False) v (places l codes k).length (ints (places l codes k))
  below : Below w.heap.size w wr

/-- A set is no row. -/
theorem set_own {w : World} {b B E n : Nat} {l : List ByteArray} {α : Type} {K : Kd.Kind α} {F : Nat → Prop} {v : Value} {xs : List α} (h : SetAt w b l) (hO : Own K w B E F v n xs) (e : v.ownBlock = some b) : False := by
  obtain ⟨es, clock, hb, _⟩ := h
  obtain ⟨_, cs, ho, _⟩ := hO
  rcases ho.2 with ⟨rfl, _⟩ | ⟨g, cap, cur, rfl, _, hh, _⟩
  · cases e
  · have e2 : g = b := by injection e
    subst e2
    rw [hb] at hh
    injection hh with hh
    cases hh

theorem Bring.skip {w wr w' : World} {b : Nat} {l : List Prm} {codes : List ByteArray} {v : Value} {k : Nat} (h : Bring w wr b l codes v k) (he : places l codes (k + 1) = if false = true then places l codes k ++ [k] else places l codes k) (hb : Below wr.heap.size wr w') : Bring w w' b l codes v (k + 1) := by
  rw [if_neg (by simp)] at he
  refine ⟨h.set.below hb, ?_, h.below.trans (hb.mono h.below.size)⟩
  rw [he]
  exact h.own.later hb

def Brought (w : World) (l : List Prm) (codes : List ByteArray) (n : Nat) (e : Ending) (w' : World) : Prop := ∃ v, e = .returned v ∧ Own kInt w' w.heap.size 3 (fun _ => False) v (places l codes n).length (ints (places l codes n)) ∧ Below w.heap.size w w'

set_option maxHeartbeats 2000000 in
theorem brought_any (A : Option Addr) (n c : Nat) (l : List Prm) (Ac : Option Addr) (m cc : Nat) (codes : List ByteArray) (w : World) (h : Row kPrm w (· < w.heap.size) A n l) (hc : Row kStr w (· < w.heap.size) Ac m codes) (hn : n ≤ 1000000000) (hm : m ≤ 1000000000) :
    Calls Try.prog 44 #[.slice A n c, .slice Ac m cc] w fun e w' => Brought w l codes n e w' := by
  have HR := Lib.hid h
  have HC := Lib.hid hc
  have hmk := make_set
  obtain ⟨w2, hrun, hset, hgrow⟩ := (SetAt.made w).put (by simp) (s := none_) (by unfold none_ maxLen; decide)
  have HS0 : Hid (SetAt w2 w.heap.size ([none_] ++ codes.take 0) ∧ Below w.heap.size w w2) := Lib.hid ⟨by simpa using hset, ((Below.refl w.heap.size w).alloc (Nat.le_refl _) _).grown hgrow (by simp) (fun k hk => by injection hk with hk; omega)⟩
  unfold none_ at hrun
  clear h hc hset hgrow
  go_enter Try.func44, Try.ntmps44
  go_wp2
  clear hrun hmk
  go_loopw [21] (fun s21 wr => ∃ k : Nat, s21 = .int .i64 k ∧ k ≤ m ∧ Hid (SetAt wr w.heap.size ([none_] ++ codes.take k) ∧ Below w.heap.size w wr)) (fun s21 _ => m - (intOf s21).toNat)
  case atStart => exact ⟨0, rfl, Nat.zero_le _, HS0⟩
  case round =>
    obtain ⟨k, rfl, hk, HS⟩ := hrel
    clear HS0
    by_cases hlt : k < m
    · obtain ⟨s, hs⟩ := HC.out.get hlt
      obtain ⟨g, o, rfl, hg, _, hsz, c0⟩ := row_str (HC.out.below HS.out.2 (Nat.le_refl _)) hs
      have hlen : ([none_] ++ codes.take k).length < 1000000000000 := by simp; omega
      obtain ⟨w3, hrun, hset, hgrow⟩ := HS.out.1.put hlen hsz
      have HN : Hid (SetAt w3 w.heap.size ([none_] ++ codes.take (k + 1)) ∧ Below w.heap.size w w3) := Lib.hid ⟨by rw [List.take_add_one, hs, ← List.append_assoc]; exact hset, HS.out.2.grown hgrow HS.out.2.size (fun k hk => by injection hk with hk; omega)⟩
      have k1 : (k : Int) < (m : Int) := by omega
      have k0 : (0 : Int) ≤ (k : Int) := by omega
      clear hset hgrow hs hlen
      go_wp2
      go_roundw
      case rel => exact ⟨k + 1, by go_num, by omega, HN⟩
      case measure => simp [intOf]; omega
    · obtain rfl : k = m := by omega
      have k1 : ¬ (k : Int) < (k : Int) := by omega
      have HB0 : Hid (Bring w wr w.heap.size l codes (.slice none 0 0) 0) := Lib.hid ⟨by have := HS.out.1; rw [List.take_of_length_le (by have := HC.out.len; omega)] at this; exact this, by unfold places ints; exact Own.nil _ _ _ _ _, HS.out.2⟩
      clear HS
      go_wp2
      go_loopw [8, 31] (fun s8 s31 wx => ∃ q : Nat, s31 = .int .i64 q ∧ q ≤ n ∧ Hid (Bring w wx w.heap.size l codes s8 q)) (fun _ s31 _ => n - (intOf s31).toNat)
      case atStart => exact ⟨0, rfl, Nat.zero_le _, HB0⟩
      case round =>
        obtain ⟨q, rfl, hq, HB⟩ := hrel
        clear HB0 k1
        by_cases hlt : q < n
        · obtain ⟨p, hp⟩ := HR.out.get hlt
          obtain ⟨g, o, y, rfl, hg, hgl, hh, c0, c1, c2, c3, c4, c5, c6, c7, c8, c9, c10, c11, c12, c13, c14⟩ := row_Prm (HR.out.below HB.out.below (Nat.le_refl _)) hp
          have k1 : (q : Int) < (n : Int) := by omega
          have k0 : (0 : Int) ≤ (q : Int) := by omega
          obtain ⟨W1, hW1⟩ : ∃ W1, wr.alloc (.cells #[.string p.id, .int .i64 p.kind, .int .i64 p.priority, .string p.group, .string p.code, .bool p.closes, .slice y.scope.skus.A y.scope.skus.n y.scope.skus.c, .slice y.scope.cats.A y.scope.cats.n y.scope.cats.c, .int .i64 p.least, .int .i64 p.rate, .int .i64 p.amount, .int .i64 p.buy, .int .i64 p.get, .slice y.parts.A y.parts.n y.parts.c, .slice y.tiers.A y.tiers.n y.tiers.c] 28) = W1 := ⟨_, rfl⟩
          have hb1 : Below wr.heap.size wr W1 := by rw [← hW1]; exact (Below.refl _ _).alloc (Nat.le_refl _) _
          have hx : Qu.Blk W1 wr.heap.size 28 #[.string p.id, .int .i64 p.kind, .int .i64 p.priority, .string p.group, .string p.code, .bool p.closes, .slice y.scope.skus.A y.scope.skus.n y.scope.skus.c, .slice y.scope.cats.A y.scope.cats.n y.scope.cats.c, .int .i64 p.least, .int .i64 p.rate, .int .i64 p.amount, .int .i64 p.buy, .int .i64 p.get, .slice y.parts.A y.parts.n y.parts.c, .slice y.tiers.A y.tiers.n y.tiers.c] := by rw [← hW1]; exact Qu.Blk.new wr _ _
          have x4 := hx.cell 4
          have hset := HB.out.set.below hb1
          obtain ⟨tb, htb⟩ : ∃ tb, takenB l codes q = tb := ⟨_, rfl⟩
          have hlook : (Instr.lookup 78 (.map (some w.heap.size)) (.string p.code) true).run Try.prog W1 = .ok (.tuple #[.agg #[], .bool tb]) W1 := by
            rw [look_set hset hh.code, none_has]
            unfold takenB at htb
            rw [Pr.nth_at hp] at htb
            rw [htb]
          have hp1 := places_more l codes q
          rw [htb] at hp1
          have HP := Lib.hid hp1
          have HBB := Lib.hid hb1
          have hqn : (places l codes q).length ≤ 1000000000 := by have := places_len l codes q; omega
          clear hp hh hset hx hp1 htb hb1
          cases tb with
          | false =>
            have HN : Hid (Bring w (W1.alloc (.cells #[] 79)) w.heap.size l codes u8 (q + 1)) := Lib.hid (HB.out.skip HP.out (HBB.out.alloc (by have := HBB.out.size; omega) _))
            go_wp2
            go_roundw
            case rel => exact ⟨q + 1, by go_num, by omega, HN⟩
            case measure => simp [intOf]; omega
          | true =>
            obtain ⟨W2, hW2⟩ : ∃ W2, W1.alloc (.cells #[] 79) = W2 := ⟨_, rfl⟩
            have hb2 : Below wr.heap.size wr W2 := by rw [← hW2]; exact HBB.out.alloc (by have := HBB.out.size; omega) _
            have HOW := Lib.hid (And.intro (HB.out.own.later hb2) (And.intro (HB.out.below.trans (hb2.mono HB.out.below.size)) (HB.out.set.below hb2)))
            have HB2 := Lib.hid hb2
            clear hb2
            go_wp2_with ((at_builtin; refine Kd.wpList_push (W := W2) (F := fun _ => False) (B := w.heap.size) (n := (places l codes q).length) (v := u8) (xs := ints (places l codes q)) (y := (q : Int)) (cs := [.int .i64 (q : Int)]) Ap.int_t rfl _ _ rfl rfl rfl rfl HOW.out.1 ⟨rfl, by omega, by omega⟩ (by omega) (by omega) HOW.out.2.1.size (fun _ h => h.elim) ?_; intro g1 cap w' hown hgrow hfr))
            have HN : Hid (Bring w w' w.heap.size l codes (.slice (some ⟨g1, 0, none⟩) ((places l codes q).length + 1) cap) (q + 1)) := Lib.hid (by
              refine ⟨HOW.out.2.2.kept hgrow (fun e => ?_), ?_, HOW.out.2.1.grown hgrow HOW.out.2.1.size fun k hk => (HOW.out.1.low k hk).1⟩
              · exact set_own HOW.out.2.2 HOW.out.1 e.symm
              · rw [HP.out]
                simp only [if_true, ints, List.map_append, List.length_append, List.map_cons, List.map_nil, List.length_cons, List.length_nil]
                exact hown)
            clear hown hgrow hfr
            go_wp2
            go_roundw
            case rel => exact ⟨q + 1, by go_num, by omega, HN⟩
            case measure => simp [intOf]; omega
        · obtain rfl : q = n := by omega
          have k1 : ¬ (q : Int) < (q : Int) := by omega
          have HO : Hid (Brought w l codes q (.returned u8) wr) := Lib.hid ⟨u8, rfl, HB.out.own, HB.out.below⟩
          clear HB
          go_wp2
          go_ret
          exact HO.out

end Go.Proofs.Ytgimcleeamlgcaa.Pm
