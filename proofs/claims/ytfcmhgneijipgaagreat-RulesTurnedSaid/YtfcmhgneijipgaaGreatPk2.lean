/- Structs of package api as kinds of things: api.CatRate, api.Zone, api.Tax, api.Ship, api.Policy, api.Rules. · P10.1 as mathematics: which lists of items may be, where a text stands in one: nothing of the program. · P11.1 as mathematics: names that rise, scopes, who has what: nothing of the program. · P12.1 as mathematics: parts, tiers, a promotion that may be: nothing of the program. · P13.1 as mathematics: rates, zones, tax, kinds of tenders; nothing of the program. -/
import Derived.Test.YtfcmhgneijipgaaGreatPk1

section
set_option maxRecDepth 100000
set_option linter.unusedVariables false
namespace Go.Proofs.YtfcmhgneijipgaaGreat.Ap
open Go.ChangeShapes Go.WideShapes Go.ChangeAt Go.RowKit
open Kd (Kind Row Own Cells Reads Fields Fit Agree kInt kStr kFlag kPair kVia kList Sl Lst)
structure CtR where
  cat : ByteArray
  rate : Int
instance : Inhabited CtR := ⟨⟨⟨#[]⟩, 0⟩⟩
def CtR.enc (x : CtR) : List Value := [.string x.cat, .int .i64 x.rate]
structure CtR.ok (x : CtR) : Prop where
  cat : x.cat.size ≤ maxLen
  rate : -9223372036854775808 ≤ x.rate ∧ x.rate ≤ 9223372036854775807
def kCtR : Kind CtR := kVia (kPair kStr kInt) fun x => (x.cat, x.rate)
theorem CtR_rep {w : World} {F : Nat → Prop} {x : CtR} {cs : List Value} : kCtR.rep w F x cs ↔ cs = x.enc ∧ x.ok := by
  constructor
  · rintro ⟨_, _, rfl, ⟨rfl, hcat⟩, ⟨rfl, hrate⟩⟩
    exact ⟨rfl, ⟨hcat, hrate⟩⟩
  · rintro ⟨rfl, h⟩
    exact ⟨_, _, rfl, ⟨rfl, h.cat⟩, ⟨rfl, h.rate⟩⟩
theorem reads_CtR : Reads Tryz.prog kCtR 53 :=
  Reads.via (fun y => ⟨y.1, y.2⟩) (fun _ => rfl) (Reads.struct Tryz.underlying53 (by kernel_rfl) (Fields.cons (by kernel_rfl) (Reads.str Tryz.underlying9 (by kernel_rfl)) (Fields.last (by kernel_rfl) (Reads.int Tryz.underlying2 (by kernel_rfl)))))
theorem row_CtR {w : World} {F : Nat → Prop} {A : Option Addr} {n k : Nat} {xs : List CtR} {x : CtR} (h : Row kCtR w F A n xs) (hk : xs[k]? = some x) : ∃ g o, A = some ⟨g, o, none⟩ ∧ F g ∧ g < w.heap.size ∧ x.ok ∧ w.cell? ⟨g, o + k * 2, none⟩ = some (.string x.cat) ∧ w.cell? ⟨g, o + k * 2 + 1, none⟩ = some (.int .i64 x.rate) := by
  obtain ⟨g, o, cs, hA, hF, hl, hr, hc⟩ := h.each k x hk
  obtain ⟨rfl, hok⟩ := CtR_rep.1 hr
  exact ⟨g, o, hA, hF, hl, hok, hc 0 _ rfl, hc 1 _ rfl⟩
structure Zon where
  name : ByteArray
  rates : List CtR
  rest : Int
  ship : Int
instance : Inhabited Zon := ⟨⟨⟨#[]⟩, [], 0, 0⟩⟩
structure Zon.Lay where
  rates : Sl
def Zon.enc (x : Zon) (l : Zon.Lay) : List Value := [.string x.name, .slice l.rates.A l.rates.n l.rates.c, .int .i64 x.rest, .int .i64 x.ship]
structure Zon.Holds (w : World) (F : Nat → Prop) (x : Zon) (l : Zon.Lay) : Prop where
  name : x.name.size ≤ maxLen
  rates : Lst kCtR w F l.rates x.rates
  rest : -9223372036854775808 ≤ x.rest ∧ x.rest ≤ 9223372036854775807
  ship : -9223372036854775808 ≤ x.ship ∧ x.ship ≤ 9223372036854775807
def kZon : Kind Zon := kVia (kPair kStr (kPair (kList kCtR) (kPair kInt kInt))) fun x => (x.name, x.rates, x.rest, x.ship)
theorem size_Zon : kZon.size = 4 := rfl
theorem Zon_rep {w : World} {F : Nat → Prop} {x : Zon} {cs : List Value} : kZon.rep w F x cs ↔ ∃ l : Zon.Lay, cs = x.enc l ∧ Zon.Holds w F x l := by
  constructor
  · rintro ⟨_, _, rfl, ⟨rfl, hname⟩, ⟨_, _, rfl, ⟨Arates, nrates, crates, rfl, rrates, trates⟩, ⟨_, _, rfl, ⟨rfl, hrest⟩, ⟨rfl, hship⟩⟩⟩⟩
    exact ⟨⟨⟨Arates, nrates, crates⟩⟩, rfl, ⟨hname, ⟨rrates, trates⟩, hrest, hship⟩⟩
  · rintro ⟨l, rfl, h⟩
    exact ⟨_, _, rfl, ⟨rfl, h.name⟩, ⟨_, _, rfl, ⟨_, _, _, rfl, h.rates.row, h.rates.fit⟩, ⟨_, _, rfl, ⟨rfl, h.rest⟩, ⟨rfl, h.ship⟩⟩⟩⟩
theorem reads_Zon : Reads Tryz.prog kZon 41 :=
  Reads.via (fun y => ⟨y.1, y.2.1, y.2.2.1, y.2.2.2⟩) (fun _ => rfl) (Reads.struct Tryz.underlying41 (by kernel_rfl) (Fields.cons (by kernel_rfl) (Reads.str Tryz.underlying9 (by kernel_rfl)) (Fields.cons (by kernel_rfl) (Reads.list Tryz.underlying39 (by kernel_rfl) reads_CtR (by decide)) (Fields.cons (by kernel_rfl) (Reads.int Tryz.underlying2 (by kernel_rfl)) (Fields.last (by kernel_rfl) (Reads.int Tryz.underlying2 (by kernel_rfl)))))))
theorem row_Zon {w : World} {F : Nat → Prop} {A : Option Addr} {n k : Nat} {xs : List Zon} {x : Zon} (h : Row kZon w F A n xs) (hk : xs[k]? = some x) : ∃ g o, ∃ l : Zon.Lay, A = some ⟨g, o, none⟩ ∧ F g ∧ g < w.heap.size ∧ Zon.Holds w F x l ∧ w.cell? ⟨g, o + k * 4, none⟩ = some (.string x.name) ∧ w.cell? ⟨g, o + k * 4 + 1, none⟩ = some (.slice l.rates.A l.rates.n l.rates.c) ∧ w.cell? ⟨g, o + k * 4 + 2, none⟩ = some (.int .i64 x.rest) ∧ w.cell? ⟨g, o + k * 4 + 3, none⟩ = some (.int .i64 x.ship) := by
  obtain ⟨g, o, cs, hA, hF, hl, hr, hc⟩ := h.each k x hk
  obtain ⟨l, rfl, hok⟩ := Zon_rep.1 hr
  exact ⟨g, o, l, hA, hF, hl, hok, hc 0 _ rfl, hc 1 _ rfl, hc 2 _ rfl, hc 3 _ rfl⟩
structure Txs where
  incl : Bool
  byOrder : Bool
  round : Int
  zones : List Zon
instance : Inhabited Txs := ⟨⟨false, false, 0, []⟩⟩
structure Txs.Lay where
  zones : Sl
def Txs.enc (x : Txs) (l : Txs.Lay) : List Value := [.bool x.incl, .bool x.byOrder, .int .i64 x.round, .slice l.zones.A l.zones.n l.zones.c]
structure Txs.Holds (w : World) (F : Nat → Prop) (x : Txs) (l : Txs.Lay) : Prop where
  round : -9223372036854775808 ≤ x.round ∧ x.round ≤ 9223372036854775807
  zones : Lst kZon w F l.zones x.zones
def kTxs : Kind Txs := kVia (kPair kFlag (kPair kFlag (kPair kInt (kList kZon)))) fun x => (x.incl, x.byOrder, x.round, x.zones)
theorem Txs_rep {w : World} {F : Nat → Prop} {x : Txs} {cs : List Value} : kTxs.rep w F x cs ↔ ∃ l : Txs.Lay, cs = x.enc l ∧ Txs.Holds w F x l := by
  constructor
  · rintro ⟨_, _, rfl, rfl, ⟨_, _, rfl, rfl, ⟨_, _, rfl, ⟨rfl, hround⟩, ⟨Azones, nzones, czones, rfl, rzones, tzones⟩⟩⟩⟩
    exact ⟨⟨⟨Azones, nzones, czones⟩⟩, rfl, ⟨hround, ⟨rzones, tzones⟩⟩⟩
  · rintro ⟨l, rfl, h⟩
    exact ⟨_, _, rfl, rfl, ⟨_, _, rfl, rfl, ⟨_, _, rfl, ⟨rfl, h.round⟩, ⟨_, _, _, rfl, h.zones.row, h.zones.fit⟩⟩⟩⟩
theorem reads_Txs : Reads Tryz.prog kTxs 26 :=
  Reads.via (fun y => ⟨y.1, y.2.1, y.2.2.1, y.2.2.2⟩) (fun _ => rfl) (Reads.struct Tryz.underlying26 (by kernel_rfl) (Fields.cons (by kernel_rfl) (Reads.flag Tryz.underlying4 (by kernel_rfl)) (Fields.cons (by kernel_rfl) (Reads.flag Tryz.underlying4 (by kernel_rfl)) (Fields.cons (by kernel_rfl) (Reads.int Tryz.underlying3 (by kernel_rfl)) (Fields.last (by kernel_rfl) (Reads.list Tryz.underlying24 (by kernel_rfl) reads_Zon (by decide)))))))
structure Shp where
  fee : Int
  free : Int
instance : Inhabited Shp := ⟨⟨0, 0⟩⟩
def Shp.enc (x : Shp) : List Value := [.int .i64 x.fee, .int .i64 x.free]
structure Shp.ok (x : Shp) : Prop where
  fee : -9223372036854775808 ≤ x.fee ∧ x.fee ≤ 9223372036854775807
  free : -9223372036854775808 ≤ x.free ∧ x.free ≤ 9223372036854775807
def kShp : Kind Shp := kVia (kPair kInt kInt) fun x => (x.fee, x.free)
theorem Shp_rep {w : World} {F : Nat → Prop} {x : Shp} {cs : List Value} : kShp.rep w F x cs ↔ cs = x.enc ∧ x.ok := by
  constructor
  · rintro ⟨_, _, rfl, ⟨rfl, hfee⟩, ⟨rfl, hfree⟩⟩
    exact ⟨rfl, ⟨hfee, hfree⟩⟩
  · rintro ⟨rfl, h⟩
    exact ⟨_, _, rfl, ⟨rfl, h.fee⟩, ⟨rfl, h.free⟩⟩
theorem reads_Shp : Reads Tryz.prog kShp 28 :=
  Reads.via (fun y => ⟨y.1, y.2⟩) (fun _ => rfl) (Reads.struct Tryz.underlying28 (by kernel_rfl) (Fields.cons (by kernel_rfl) (Reads.int Tryz.underlying2 (by kernel_rfl)) (Fields.last (by kernel_rfl) (Reads.int Tryz.underlying2 (by kernel_rfl)))))
structure Pol where
  window : Int
  grace : Int
  mode : Int
  restock : Int
  order : List Int
  credit : List Int
instance : Inhabited Pol := ⟨⟨0, 0, 0, 0, [], []⟩⟩
structure Pol.Lay where
  order : Sl
  credit : Sl
def Pol.enc (x : Pol) (l : Pol.Lay) : List Value := [.int .i64 x.window, .int .i64 x.grace, .int .i64 x.mode, .int .i64 x.restock, .slice l.order.A l.order.n l.order.c, .slice l.credit.A l.credit.n l.credit.c]
structure Pol.Holds (w : World) (F : Nat → Prop) (x : Pol) (l : Pol.Lay) : Prop where
  window : -9223372036854775808 ≤ x.window ∧ x.window ≤ 9223372036854775807
  grace : -9223372036854775808 ≤ x.grace ∧ x.grace ≤ 9223372036854775807
  mode : -9223372036854775808 ≤ x.mode ∧ x.mode ≤ 9223372036854775807
  restock : -9223372036854775808 ≤ x.restock ∧ x.restock ≤ 9223372036854775807
  order : Lst kInt w F l.order x.order
  credit : Lst kInt w F l.credit x.credit
def kPol : Kind Pol := kVia (kPair kInt (kPair kInt (kPair kInt (kPair kInt (kPair (kList kInt) (kList kInt)))))) fun x => (x.window, x.grace, x.mode, x.restock, x.order, x.credit)
theorem Pol_rep {w : World} {F : Nat → Prop} {x : Pol} {cs : List Value} : kPol.rep w F x cs ↔ ∃ l : Pol.Lay, cs = x.enc l ∧ Pol.Holds w F x l := by
  constructor
  · rintro ⟨_, _, rfl, ⟨rfl, hwindow⟩, ⟨_, _, rfl, ⟨rfl, hgrace⟩, ⟨_, _, rfl, ⟨rfl, hmode⟩, ⟨_, _, rfl, ⟨rfl, hrestock⟩, ⟨_, _, rfl, ⟨Aorder, norder, corder, rfl, rorder, torder⟩, ⟨Acredit, ncredit, ccredit, rfl, rcredit, tcredit⟩⟩⟩⟩⟩⟩
    exact ⟨⟨⟨Aorder, norder, corder⟩, ⟨Acredit, ncredit, ccredit⟩⟩, rfl, ⟨hwindow, hgrace, hmode, hrestock, ⟨rorder, torder⟩, ⟨rcredit, tcredit⟩⟩⟩
  · rintro ⟨l, rfl, h⟩
    exact ⟨_, _, rfl, ⟨rfl, h.window⟩, ⟨_, _, rfl, ⟨rfl, h.grace⟩, ⟨_, _, rfl, ⟨rfl, h.mode⟩, ⟨_, _, rfl, ⟨rfl, h.restock⟩, ⟨_, _, rfl, ⟨_, _, _, rfl, h.order.row, h.order.fit⟩, ⟨_, _, _, rfl, h.credit.row, h.credit.fit⟩⟩⟩⟩⟩⟩
theorem reads_Pol : Reads Tryz.prog kPol 31 :=
  Reads.via (fun y => ⟨y.1, y.2.1, y.2.2.1, y.2.2.2.1, y.2.2.2.2.1, y.2.2.2.2.2⟩) (fun _ => rfl) (Reads.struct Tryz.underlying31 (by kernel_rfl) (Fields.cons (by kernel_rfl) (Reads.int Tryz.underlying3 (by kernel_rfl)) (Fields.cons (by kernel_rfl) (Reads.int Tryz.underlying3 (by kernel_rfl)) (Fields.cons (by kernel_rfl) (Reads.int Tryz.underlying3 (by kernel_rfl)) (Fields.cons (by kernel_rfl) (Reads.int Tryz.underlying2 (by kernel_rfl)) (Fields.cons (by kernel_rfl) (Reads.list Tryz.underlying29 (by kernel_rfl) (Reads.int Tryz.underlying3 (by kernel_rfl)) (by decide)) (Fields.last (by kernel_rfl) (Reads.list Tryz.underlying29 (by kernel_rfl) (Reads.int Tryz.underlying3 (by kernel_rfl)) (by decide)))))))))
structure Rls where
  items : List It.Itm
  promos : List Prm
  tax : Txs
  ship : Shp
  policy : Pol
instance : Inhabited Rls := ⟨⟨[], [], default, default, default⟩⟩
structure Rls.Lay where
  items : Sl
  promos : Sl
  tax : Txs.Lay
  policy : Pol.Lay
def Rls.enc (x : Rls) (l : Rls.Lay) : List Value := [.slice l.items.A l.items.n l.items.c, .slice l.promos.A l.promos.n l.promos.c, .bool x.tax.incl, .bool x.tax.byOrder, .int .i64 x.tax.round, .slice l.tax.zones.A l.tax.zones.n l.tax.zones.c, .int .i64 x.ship.fee, .int .i64 x.ship.free, .int .i64 x.policy.window, .int .i64 x.policy.grace, .int .i64 x.policy.mode, .int .i64 x.policy.restock, .slice l.policy.order.A l.policy.order.n l.policy.order.c, .slice l.policy.credit.A l.policy.credit.n l.policy.credit.c]
structure Rls.Holds (w : World) (F : Nat → Prop) (x : Rls) (l : Rls.Lay) : Prop where
  items : Lst It.kItem w F l.items x.items
  promos : Lst Ap.kPrm w F l.promos x.promos
  tax : Txs.Holds w F x.tax l.tax
  ship : Shp.ok x.ship
  policy : Pol.Holds w F x.policy l.policy
def kRls : Kind Rls := kVia (kPair (kList It.kItem) (kPair (kList Ap.kPrm) (kPair kTxs (kPair kShp kPol)))) fun x => (x.items, x.promos, x.tax, x.ship, x.policy)
theorem Rls_rep {w : World} {F : Nat → Prop} {x : Rls} {cs : List Value} : kRls.rep w F x cs ↔ ∃ l : Rls.Lay, cs = x.enc l ∧ Rls.Holds w F x l := by
  constructor
  · rintro ⟨_, _, rfl, ⟨Aitems, nitems, citems, rfl, ritems, titems⟩, ⟨_, _, rfl, ⟨Apromos, npromos, cpromos, rfl, rpromos, tpromos⟩, ⟨_, _, rfl, htax, ⟨_, _, rfl, hship, hpolicy⟩⟩⟩⟩
    obtain ⟨ltax, rfl, gtax⟩ := Txs_rep.1 htax
    obtain ⟨rfl, gship⟩ := Shp_rep.1 hship
    obtain ⟨lpolicy, rfl, gpolicy⟩ := Pol_rep.1 hpolicy
    exact ⟨⟨⟨Aitems, nitems, citems⟩, ⟨Apromos, npromos, cpromos⟩, ltax, lpolicy⟩, rfl, ⟨⟨ritems, titems⟩, ⟨rpromos, tpromos⟩, gtax, gship, gpolicy⟩⟩
  · rintro ⟨l, rfl, h⟩
    exact ⟨_, _, rfl, ⟨_, _, _, rfl, h.items.row, h.items.fit⟩, ⟨_, _, rfl, ⟨_, _, _, rfl, h.promos.row, h.promos.fit⟩, ⟨_, _, rfl, Txs_rep.2 ⟨_, rfl, h.tax⟩, ⟨_, _, rfl, Shp_rep.2 ⟨rfl, h.ship⟩, Pol_rep.2 ⟨_, rfl, h.policy⟩⟩⟩⟩⟩
theorem reads_Rls : Reads Tryz.prog kRls 33 :=
  Reads.via (fun y => ⟨y.1, y.2.1, y.2.2.1, y.2.2.2.1, y.2.2.2.2⟩) (fun _ => rfl) (Reads.struct Tryz.underlying33 (by kernel_rfl) (Fields.cons (by kernel_rfl) (Reads.list Tryz.underlying22 (by kernel_rfl) It.reads_item (by decide)) (Fields.cons (by kernel_rfl) (Reads.list Tryz.underlying23 (by kernel_rfl) Ap.reads_Prm (by decide)) (Fields.cons (by kernel_rfl) reads_Txs (Fields.cons (by kernel_rfl) reads_Shp (Fields.last (by kernel_rfl) reads_Pol))))))
end Go.Proofs.YtfcmhgneijipgaaGreat.Ap

end

section
set_option maxRecDepth 100000
set_option linter.unusedVariables false
namespace Go.Proofs.YtfcmhgneijipgaaGreat.Gd
open It (Itm)
def itemB (x : Itm) : Bool := Sr.name x.sku && Sr.name x.cat && (decide (0 ≤ x.price) && decide (x.price ≤ 1000000000))
def Rise (xs : List Itm) : Prop := ∀ (i : Nat) (x y : Itm), xs[i]? = some x → xs[i + 1]? = some y → Sr.lt x.sku y.sku = true
structure Good (xs : List Itm) : Prop where
  few : xs.length ≤ 500
  rise : Rise xs
  each : ∀ (i : Nat) (x : Itm), xs[i]? = some x → itemB x = true
noncomputable def goodB (xs : List Itm) : Bool := @decide (Good xs) (Classical.propDecidable _)
theorem goodB_yes {xs : List Itm} (h : Good xs) : goodB xs = true := by unfold goodB; exact @decide_eq_true _ (Classical.propDecidable _) h
theorem goodB_no {xs : List Itm} (h : ¬ Good xs) : goodB xs = false := by unfold goodB; exact @decide_eq_false _ (Classical.propDecidable _) h
end Go.Proofs.YtfcmhgneijipgaaGreat.Gd

end

section
set_option maxRecDepth 100000
set_option linter.unusedVariables false
namespace Go.Proofs.YtfcmhgneijipgaaGreat.Sc
open Ap (Scp)
open It (Itm)
def Rise (l : List ByteArray) : Prop := ∀ (i : Nat) (a b : ByteArray), l[i]? = some a → l[i + 1]? = some b → Sr.lt a b = true
structure Names (l : List ByteArray) (m : Int) : Prop where
  few : (l.length : Int) ≤ m
  each : ∀ (i : Nat) (a : ByteArray), l[i]? = some a → Sr.name a = true
  rise : Rise l
noncomputable def namesB (l : List ByteArray) (m : Int) : Bool := @decide (Names l m) (Classical.propDecidable _)
theorem namesB_yes {l : List ByteArray} {m : Int} (h : Names l m) : namesB l m = true := by unfold namesB; exact @decide_eq_true _ (Classical.propDecidable _) h
theorem namesB_no {l : List ByteArray} {m : Int} (h : ¬ Names l m) : namesB l m = false := by unfold namesB; exact @decide_eq_false _ (Classical.propDecidable _) h
structure UpTo (l : List ByteArray) (k : Nat) : Prop where
  each : ∀ (i : Nat) (a : ByteArray), i < k → l[i]? = some a → Sr.name a = true
  rise : ∀ (i : Nat) (a b : ByteArray), i + 1 < k → l[i]? = some a → l[i + 1]? = some b → Sr.lt a b = true
theorem UpTo.next {l : List ByteArray} {k : Nat} {a : ByteArray} (h : UpTo l k) (ha : l[k]? = some a) (hn : Sr.name a = true) (hr : ∀ b, 0 < k → l[k - 1]? = some b → Sr.lt b a = true) : UpTo l (k + 1) :=
  ⟨fun i b hlt hb => by
    rcases Nat.lt_or_ge i k with h1 | h1
    · exact h.each i b h1 hb
    · obtain rfl : i = k := by omega
      rw [ha] at hb; injection hb with hb; subst hb; exact hn,
   fun i b c hlt hb hc => by
    rcases Nat.lt_or_ge (i + 1) k with h1 | h1
    · exact h.rise i b c h1 hb hc
    · obtain rfl : k = i + 1 := by omega
      rw [ha] at hc; injection hc with hc; subst hc
      exact hr b (by omega) hb⟩
theorem UpTo.names {l : List ByteArray} {m : Int} (h : UpTo l l.length) : namesB l m = decide ((l.length : Int) ≤ m) := by
  by_cases h5 : (l.length : Int) ≤ m
  · rw [decide_eq_true h5]
    exact namesB_yes ⟨h5, fun i a ha => h.each i a (List.getElem?_eq_some_iff.1 ha).1 ha, fun i a b ha hb => h.rise i a b (List.getElem?_eq_some_iff.1 hb).1 ha hb⟩
  · rw [decide_eq_false h5]
    exact namesB_no fun g => h5 g.few
theorem bad_name {l : List ByteArray} {m : Int} {k : Nat} {a : ByteArray} (ha : l[k]? = some a) (h : Sr.name a = false) : namesB l m = false := namesB_no fun g => by
  rw [g.each k a ha] at h; cases h
theorem bad_step {l : List ByteArray} {m : Int} {k : Nat} {a b : ByteArray} (ha : l[k]? = some a) (hb : l[k - 1]? = some b) (hk : 0 < k) (h : Sr.lt b a = false) : namesB l m = false := namesB_no fun g => by
  rw [g.rise (k - 1) b a hb (by rw [show k - 1 + 1 = k by omega]; exact ha)] at h; cases h
def hasB (l : List ByteArray) (s : ByteArray) : Bool := l.any fun a => Sr.same a s
theorem hasB_iff {l : List ByteArray} {s : ByteArray} : hasB l s = true ↔ s ∈ l := by
  unfold hasB
  rw [List.any_eq_true]
  constructor
  · rintro ⟨a, ha, hs⟩
    rw [← Sr.same_iff.1 hs]; exact ha
  · intro h
    exact ⟨s, h, Sr.same_refl s⟩
noncomputable def scopeB (s : Scp) : Bool := namesB s.skus 20 && namesB s.cats 20
end Go.Proofs.YtfcmhgneijipgaaGreat.Sc

end

section
set_option maxRecDepth 100000
set_option linter.unusedVariables false
namespace Go.Proofs.YtfcmhgneijipgaaGreat.Pr
open Ap (Scp Prt Tir Prm)
open Sc (namesB scopeB)
def inB (x m : Int) : Bool := decide (0 ≤ x) && decide (x ≤ m)
/-! ### Parts -/
noncomputable def partB (p : Prt) : Bool := scopeB p.scope && decide (1 ≤ p.count) && decide (p.count ≤ 100)
noncomputable def partsB (l : List Prt) : Bool := l.all partB && decide (1 ≤ l.length) && decide (l.length ≤ 3)
theorem partsB_no {l : List Prt} {k : Nat} {p : Prt} (hk : l[k]? = some p) (h : partB p = false) : partsB l = false := by
  unfold partsB
  rw [List.all_eq_false.2 ⟨p, List.mem_of_getElem? hk, by simp [h]⟩]
  rfl
theorem partsB_end {l : List Prt} (h : ∀ (k : Nat) (p : Prt), l[k]? = some p → partB p = true) : partsB l = (decide (1 ≤ l.length) && decide (l.length ≤ 3)) := by
  unfold partsB
  rw [List.all_eq_true.2 fun p hp => by
    obtain ⟨k, hk, e⟩ := List.mem_iff_getElem.1 hp
    exact h k p (by rw [← e]; exact List.getElem?_eq_getElem _)]
  rfl
/-! ### Tiers -/
def tierB (t : Tir) : Bool := inB t.least 10000000000000 && inB t.rate 10000 && inB t.amount 10000000000000 && !(t.rate == 0 && t.amount == 0)
structure Tiers (l : List Tir) : Prop where
  each : ∀ (i : Nat) (t : Tir), l[i]? = some t → tierB t = true
  rise : ∀ (i : Nat) (a b : Tir), l[i]? = some a → l[i + 1]? = some b → a.least < b.least
  some_ : 1 ≤ l.length
  few : l.length ≤ 6
noncomputable def tiersB (l : List Tir) : Bool := @decide (Tiers l) (Classical.propDecidable _)
theorem tiersB_yes {l : List Tir} (h : Tiers l) : tiersB l = true := by unfold tiersB; exact @decide_eq_true _ (Classical.propDecidable _) h
theorem tiersB_no {l : List Tir} (h : ¬ Tiers l) : tiersB l = false := by unfold tiersB; exact @decide_eq_false _ (Classical.propDecidable _) h
structure TUp (l : List Tir) (k : Nat) : Prop where
  each : ∀ (i : Nat) (t : Tir), i < k → l[i]? = some t → tierB t = true
  rise : ∀ (i : Nat) (a b : Tir), i + 1 < k → l[i]? = some a → l[i + 1]? = some b → a.least < b.least
theorem TUp.next {l : List Tir} {k : Nat} {t : Tir} (h : TUp l k) (ht : l[k]? = some t) (hb : tierB t = true) (hr : ∀ b, 0 < k → l[k - 1]? = some b → b.least < t.least) : TUp l (k + 1) :=
  ⟨fun i b hlt hb2 => by
    rcases Nat.lt_or_ge i k with h1 | h1
    · exact h.each i b h1 hb2
    · obtain rfl : i = k := by omega
      rw [ht] at hb2; injection hb2 with hb2; subst hb2; exact hb,
   fun i b c hlt hb2 hc => by
    rcases Nat.lt_or_ge (i + 1) k with h1 | h1
    · exact h.rise i b c h1 hb2 hc
    · obtain rfl : k = i + 1 := by omega
      rw [ht] at hc; injection hc with hc; subst hc
      exact hr b (by omega) hb2⟩
theorem TUp.all {l : List Tir} (h : TUp l l.length) : tiersB l = (decide (1 ≤ l.length) && decide (l.length ≤ 6)) := by
  by_cases h1 : 1 ≤ l.length
  · by_cases h2 : l.length ≤ 6
    · rw [decide_eq_true h1, decide_eq_true h2]
      exact tiersB_yes ⟨fun i t ht => h.each i t (List.getElem?_eq_some_iff.1 ht).1 ht, fun i a b ha hb => h.rise i a b (List.getElem?_eq_some_iff.1 hb).1 ha hb, h1, h2⟩
    · rw [decide_eq_false h2, Bool.and_false]
      exact tiersB_no fun g => h2 g.few
  · rw [decide_eq_false h1]
    exact tiersB_no fun g => h1 g.some_
theorem tier_bad {l : List Tir} {k : Nat} {t : Tir} (ht : l[k]? = some t) (h : tierB t = false) : tiersB l = false := tiersB_no fun g => by
  rw [g.each k t ht] at h; cases h
theorem tier_step {l : List Tir} {k : Nat} {t b : Tir} (ht : l[k]? = some t) (hb : l[k - 1]? = some b) (hk : 0 < k) (h : t.least ≤ b.least) : tiersB l = false := tiersB_no fun g => by
  have := g.rise (k - 1) b t hb (by rw [show k - 1 + 1 = k by omega]; exact ht)
  omega
/-! ### A promotion -/
def blankB (s : ByteArray) : Bool := s.toList.isEmpty || Sr.name s
noncomputable def headB (p : Prm) : Bool := Sr.name p.id && decide (1 ≤ p.kind) && decide (p.kind ≤ 7) && decide (0 ≤ p.priority) && decide (p.priority ≤ 1000) && blankB p.group && blankB p.code && scopeB p.scope && inB p.least 10000000000000
def noParts (p : Prm) : Bool := p.parts.length == 0
def noTiers (p : Prm) : Bool := p.tiers.length == 0
def noBuy (p : Prm) : Bool := p.buy == 0 && p.get == 0
def allB (p : Prm) : Bool := (p.scope.skus.length == 0) && (p.scope.cats.length == 0)
def someB (p : Prm) : Bool := decide (1 ≤ p.rate) && decide (p.rate ≤ 10000)
noncomputable def kindB (p : Prm) : Bool :=
  if p.kind = 1 then someB p && p.amount == 0 && noBuy p && noParts p && noTiers p
  else if p.kind = 2 then p.rate == 0 && decide (1 ≤ p.amount) && decide (p.amount ≤ 1000000000) && noBuy p && noParts p && noTiers p
  else if p.kind = 3 then someB p && p.amount == 0 && decide (1 ≤ p.buy) && decide (p.buy ≤ 100) && decide (1 ≤ p.get) && decide (p.get ≤ 100) && noParts p && noTiers p
  else if p.kind = 4 then p.rate == 0 && inB p.amount 10000000000000 && noBuy p && partsB p.parts && noTiers p && allB p
  else if p.kind = 7 then someB p && p.amount == 0 && noBuy p && noParts p && noTiers p && allB p && !p.closes
  else p.rate == 0 && p.amount == 0 && noBuy p && noParts p && tiersB p.tiers
noncomputable def promoB (p : Prm) : Bool := headB p && kindB p
end Go.Proofs.YtfcmhgneijipgaaGreat.Pr

end

section
set_option maxRecDepth 100000
set_option linter.unusedVariables false
namespace Go.Proofs.YtfcmhgneijipgaaGreat.Ru
open Go.ChangeShapes Go.WideShapes Go.ChangeAt Go.RowKit
open Ap (CtR Zon Txs Shp Pol Rls)
def inB (x m : Int) : Bool := decide (0 ≤ x) && decide (x ≤ m)
theorem inB_iff {x m : Int} : inB x m = true ↔ 0 ≤ x ∧ x ≤ m := by unfold inB; rw [Bool.and_eq_true, decide_eq_true_iff, decide_eq_true_iff]
/-! ### A zone's rates -/
def rateB (x : CtR) : Bool := Sr.name x.cat && inB x.rate 10000
structure Rates (l : List CtR) : Prop where
  each : ∀ (i : Nat) (x : CtR), l[i]? = some x → rateB x = true
  rise : ∀ (i : Nat) (x y : CtR), l[i]? = some x → l[i + 1]? = some y → Sr.lt x.cat y.cat = true
  few : l.length ≤ 40
noncomputable def ratesB (l : List CtR) : Bool := @decide (Rates l) (Classical.propDecidable _)
theorem ratesB_yes {l : List CtR} (h : Rates l) : ratesB l = true := by unfold ratesB; exact @decide_eq_true _ (Classical.propDecidable _) h
theorem ratesB_no {l : List CtR} (h : ¬ Rates l) : ratesB l = false := by unfold ratesB; exact @decide_eq_false _ (Classical.propDecidable _) h
structure RUp (l : List CtR) (k : Nat) : Prop where
  each : ∀ (i : Nat) (x : CtR), i < k → l[i]? = some x → rateB x = true
  rise : ∀ (i : Nat) (x y : CtR), i + 1 < k → l[i]? = some x → l[i + 1]? = some y → Sr.lt x.cat y.cat = true
theorem RUp.begin (l : List CtR) : RUp l 0 := ⟨fun i x hi => by omega, fun i x y hi => by omega⟩
theorem RUp.next {l : List CtR} {k : Nat} {x : CtR} (h : RUp l k) (hx : l[k]? = some x) (hb : rateB x = true) (hr : ∀ y, 0 < k → l[k - 1]? = some y → Sr.lt y.cat x.cat = true) : RUp l (k + 1) :=
  ⟨fun i y hi hy => by
    rcases Nat.lt_or_ge i k with h1 | h1
    · exact h.each i y h1 hy
    · obtain rfl : i = k := by omega
      rw [hx] at hy; injection hy with hy; subst hy; exact hb,
   fun i y z hi hy hz => by
    rcases Nat.lt_or_ge (i + 1) k with h1 | h1
    · exact h.rise i y z h1 hy hz
    · obtain rfl : k = i + 1 := by omega
      rw [hx] at hz; injection hz with hz; subst hz
      exact hr y (by omega) hy⟩
theorem RUp.all {l : List CtR} (h : RUp l l.length) : ratesB l = decide (l.length ≤ 40) := by
  by_cases h4 : l.length ≤ 40
  · rw [decide_eq_true h4]
    exact ratesB_yes ⟨fun i x hx => h.each i x (List.getElem?_eq_some_iff.1 hx).1 hx, fun i x y hx hy => h.rise i x y (List.getElem?_eq_some_iff.1 hy).1 hx hy, h4⟩
  · rw [decide_eq_false h4]
    exact ratesB_no fun g => h4 g.few
theorem rate_bad {l : List CtR} {k : Nat} {x : CtR} (hx : l[k]? = some x) (h : rateB x = false) : ratesB l = false := ratesB_no fun g => by
  have := g.each k x hx
  rw [h] at this; cases this
theorem rate_step {l : List CtR} {k : Nat} {x y : CtR} (hx : l[k]? = some x) (hy : l[k - 1]? = some y) (hk : 0 < k) (h : Sr.lt y.cat x.cat = false) : ratesB l = false := ratesB_no fun g => by
  have := g.rise (k - 1) y x hy (by rw [show k - 1 + 1 = k by omega]; exact hx)
  rw [h] at this; cases this
noncomputable def zoneB (z : Zon) : Bool := ratesB z.rates && inB z.rest 10000 && inB z.ship 10000
/-! ### Zones -/
noncomputable def zonB (z : Zon) : Bool := Sr.name z.name && zoneB z
structure Zones (l : List Zon) : Prop where
  each : ∀ (i : Nat) (x : Zon), l[i]? = some x → zonB x = true
  rise : ∀ (i : Nat) (x y : Zon), l[i]? = some x → l[i + 1]? = some y → Sr.lt x.name y.name = true
  few : l.length ≤ 20
noncomputable def zonesB (l : List Zon) : Bool := @decide (Zones l) (Classical.propDecidable _)
theorem zonesB_yes {l : List Zon} (h : Zones l) : zonesB l = true := by unfold zonesB; exact @decide_eq_true _ (Classical.propDecidable _) h
theorem zonesB_no {l : List Zon} (h : ¬ Zones l) : zonesB l = false := by unfold zonesB; exact @decide_eq_false _ (Classical.propDecidable _) h
structure ZUp (l : List Zon) (k : Nat) : Prop where
  each : ∀ (i : Nat) (x : Zon), i < k → l[i]? = some x → zonB x = true
  rise : ∀ (i : Nat) (x y : Zon), i + 1 < k → l[i]? = some x → l[i + 1]? = some y → Sr.lt x.name y.name = true
theorem ZUp.begin (l : List Zon) : ZUp l 0 := ⟨fun i x hi => by omega, fun i x y hi => by omega⟩
theorem ZUp.next {l : List Zon} {k : Nat} {x : Zon} (h : ZUp l k) (hx : l[k]? = some x) (hb : zonB x = true) (hr : ∀ y, 0 < k → l[k - 1]? = some y → Sr.lt y.name x.name = true) : ZUp l (k + 1) :=
  ⟨fun i y hi hy => by
    rcases Nat.lt_or_ge i k with h1 | h1
    · exact h.each i y h1 hy
    · obtain rfl : i = k := by omega
      rw [hx] at hy; injection hy with hy; subst hy; exact hb,
   fun i y z hi hy hz => by
    rcases Nat.lt_or_ge (i + 1) k with h1 | h1
    · exact h.rise i y z h1 hy hz
    · obtain rfl : k = i + 1 := by omega
      rw [hx] at hz; injection hz with hz; subst hz
      exact hr y (by omega) hy⟩
theorem ZUp.all {l : List Zon} (h : ZUp l l.length) : zonesB l = decide (l.length ≤ 20) := by
  by_cases h4 : l.length ≤ 20
  · rw [decide_eq_true h4]
    exact zonesB_yes ⟨fun i x hx => h.each i x (List.getElem?_eq_some_iff.1 hx).1 hx, fun i x y hx hy => h.rise i x y (List.getElem?_eq_some_iff.1 hy).1 hx hy, h4⟩
  · rw [decide_eq_false h4]
    exact zonesB_no fun g => h4 g.few
theorem zone_bad {l : List Zon} {k : Nat} {x : Zon} (hx : l[k]? = some x) (h : zonB x = false) : zonesB l = false := zonesB_no fun g => by
  have := g.each k x hx
  rw [h] at this; cases this
theorem zone_step {l : List Zon} {k : Nat} {x y : Zon} (hx : l[k]? = some x) (hy : l[k - 1]? = some y) (hk : 0 < k) (h : Sr.lt y.name x.name = false) : zonesB l = false := zonesB_no fun g => by
  have := g.rise (k - 1) y x hy (by rw [show k - 1 + 1 = k by omega]; exact hx)
  rw [h] at this; cases this
noncomputable def taxB (t : Txs) : Bool := zonesB t.zones && (decide (0 ≤ t.round) && decide (t.round ≤ 2))
/-! ### Kinds of tenders -/
structure Kinds (l : List Int) : Prop where
  each : ∀ (i : Nat) (x : Int), l[i]? = some x → 1 ≤ x ∧ x ≤ 9
  apart : ∀ (i j : Nat) (x y : Int), i < j → l[i]? = some x → l[j]? = some y → x ≠ y
noncomputable def kindsB (l : List Int) : Bool := @decide (Kinds l) (Classical.propDecidable _)
theorem kindsB_yes {l : List Int} (h : Kinds l) : kindsB l = true := by unfold kindsB; exact @decide_eq_true _ (Classical.propDecidable _) h
theorem kindsB_no {l : List Int} (h : ¬ Kinds l) : kindsB l = false := by unfold kindsB; exact @decide_eq_false _ (Classical.propDecidable _) h
structure KUp (l : List Int) (k : Nat) : Prop where
  each : ∀ (i : Nat) (x : Int), i < k → l[i]? = some x → 1 ≤ x ∧ x ≤ 9
  apart : ∀ (i j : Nat) (x y : Int), i < j → j < k → l[i]? = some x → l[j]? = some y → x ≠ y
theorem KUp.begin (l : List Int) : KUp l 0 := ⟨fun i x hi => by omega, fun i j x y _ hj => by omega⟩
theorem KUp.next {l : List Int} {k : Nat} {x : Int} (h : KUp l k) (hx : l[k]? = some x) (hb : 1 ≤ x ∧ x ≤ 9) (ha : ∀ (i : Nat) (y : Int), i < k → l[i]? = some y → y ≠ x) : KUp l (k + 1) :=
  ⟨fun i y hi hy => by
    rcases Nat.lt_or_ge i k with h1 | h1
    · exact h.each i y h1 hy
    · obtain rfl : i = k := by omega
      rw [hx] at hy; injection hy with hy; subst hy; exact hb,
   fun i j a b hij hj h1 h2 => by
    rcases Nat.lt_or_ge j k with h3 | h3
    · exact h.apart i j a b hij h3 h1 h2
    · obtain rfl : j = k := by omega
      rw [hx] at h2; injection h2 with h2; subst h2; exact ha i a hij h1⟩
theorem KUp.all {l : List Int} (h : KUp l l.length) : kindsB l = true :=
  kindsB_yes ⟨fun i x hx => h.each i x (List.getElem?_eq_some_iff.1 hx).1 hx, fun i j x y hij hx hy => h.apart i j x y hij (List.getElem?_eq_some_iff.1 hy).1 hx hy⟩
/-! ### Which zone, which rate -/
def zoneOf (l : List Zon) (s : ByteArray) : Option Zon := l.find? fun z => Sr.same z.name s
def rateOf (l : List CtR) (s : ByteArray) (rest : Int) : Int := ((l.find? fun x => Sr.same x.cat s).map CtR.rate).getD rest
theorem find_at {α : Type} {p : α → Bool} {l : List α} {k : Nat} {x : α} (hx : l[k]? = some x) (hp : p x = true) (hb : ∀ (i : Nat) (y : α), i < k → l[i]? = some y → p y = false) : l.find? p = some x := by
  obtain ⟨hk, rfl⟩ := List.getElem?_eq_some_iff.1 hx
  exact List.find?_eq_some_iff_getElem.2 ⟨hp, k, hk, rfl, fun j hj => by rw [hb j _ hj (List.getElem?_eq_getElem (by omega))]; rfl⟩
theorem find_none {α : Type} {p : α → Bool} {l : List α} (hb : ∀ (i : Nat) (y : α), l[i]? = some y → p y = false) : l.find? p = none := by
  rw [List.find?_eq_none]
  intro x hx
  obtain ⟨i, hi, e⟩ := List.mem_iff_getElem.1 hx
  rw [hb i x (by rw [List.getElem?_eq_getElem hi, e])]
  simp
end Go.Proofs.YtfcmhgneijipgaaGreat.Ru

end
