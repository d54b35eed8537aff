/- Law 06's steps as they come in; four disks beside each other. -/
import Derived.Test.YteakoniapgkicaaDkK
import Derived.Test.YteakoniapgkicaaKitF
namespace Go.Proofs.Yteakoniapgkicaa.Dk
open Go.ChangeShapes Go.WideShapes Go.ChangeAt Go.RowKit
open Qu (Blk)
open Mv (Only)
open Se (All64 blanks Rows64 noughts noughts_len)
open By (cellsB cellsB_length cellsB_at)
open Dd (Pl At Went NewE ForkE)
set_option linter.unusedVariables false

theorem dsNew_n (n : Nat) : (dsNew n).n = n := by show (blanks n).length = n; simp [blanks]

/-- A step that came in. -/
structure Opr where
  kind : Int
  at_ : Int
  c : UInt8
  A : Option Addr
  kn : Nat
  cap : Nat
  kf : Nat → Int

instance : Inhabited Opr := ⟨⟨0, 0, 0, none, 0, 0, fun _ => 0⟩⟩

def Opr.cells (s : Opr) : Array Value := #[.int .i64 s.kind, .int .i64 s.at_, .int .u8 (s.c.toNat : Int), .slice s.A s.kn s.cap]

structure OprOk (w : World) (s : Opr) : Prop where
  at1 : -9223372036854775808 ≤ s.at_
  at2 : s.at_ ≤ 9223372036854775807
  keep : Hl.Ints w w.heap.size s.A s.kn s.kf
  kfs : ∀ k, k < s.kn → -9223372036854775808 ≤ s.kf k ∧ s.kf k ≤ 9223372036854775807
  none : s.A = none → s.kn = 0
  kn1 : s.kn ≤ 9223372036854775807
  there : ∀ a, s.A = some a → s.kn ≠ 0 → a.block < w.heap.size

/-- So many steps. -/
def Oprs (w : World) (A : Option Addr) (n : Nat) (o : Nat → Opr) : Prop := ∀ k, k < n → ∃ b off, A = some ⟨b, off, none⟩ ∧ b < w.heap.size ∧ (∀ j, j < 4 → w.cell? ⟨b, off + k * 4 + j, none⟩ = (o k).cells[j]?) ∧ OprOk w (o k)

theorem open_oprs {H : Type} {enc : TypeId × Value → H} {base b0 : Nat} {w : World} {spare : Nat → Bool} {held : Bool} {v : Value} {d : DataW H} {ps : List MemPlace} {r : Reach}
    (hval : Value.okWide Try.prog w r b0 22 v) (hd : DataW.Trod enc Try.prog w base spare held 22 v d ps) :
    ∃ A n c o, v = .slice A n c ∧ Oprs w A n o ∧ n ≤ 9223372036854775807 := by
  have hc : Try.prog.cellsOf 35 = 4 := by kernel_rfl
  obtain ⟨A, n, c, rfl, hn, _, _, hz, hel⟩ := Hk.open_any_slice Try.underlying22 (by rw [hc]; omega) hval hd
  obtain ⟨o, ho⟩ := Go.Deep.choose_lt (α := Opr) (n := n) (p := fun k s => ∃ b off, A = some ⟨b, off, none⟩ ∧ b < w.heap.size ∧ (∀ j, j < 4 → w.cell? ⟨b, off + k * 4 + j, none⟩ = s.cells[j]?) ∧ OprOk w s) (fun k hk => by
    obtain ⟨b, off, hA, hb, hl⟩ := hel k hk
    rw [hc] at hl
    obtain ⟨z0, h0, _⟩ := (hl.field Try.underlying35 0 _ rfl (of_decide_eq_true (by kernel_rfl))).int64 Try.underlying3 (by kernel_rfl)
    obtain ⟨z1, h1, hz1⟩ := (hl.field Try.underlying35 1 _ rfl (of_decide_eq_true (by kernel_rfl))).int64 Try.underlying3 (by kernel_rfl)
    obtain ⟨z2, h2⟩ := (hl.field Try.underlying35 2 _ rfl (of_decide_eq_true (by kernel_rfl))).byte Try.underlying5 (by kernel_rfl)
    obtain ⟨A3, n3, c3, f3, h3, hi3, hn3, hb3, hz3⟩ := (hl.field Try.underlying35 3 _ rfl (of_decide_eq_true (by kernel_rfl))).ints Try.underlying33 Try.underlying3 (by kernel_rfl) (by kernel_rfl)
    refine ⟨⟨z0, z1, z2, A3, n3, c3, f3⟩, b, off, hA, hb, fun j hj => ?_, ⟨hz1.1, hz1.2, hi3, hb3, fun h => (hz3 h).1, hn3, fun a ha hn0 => ?_⟩⟩
    · match j, hj with
      | 0, _ => exact h0
      | 1, _ => exact h1
      | 2, _ => exact h2
      | 3, _ => exact h3
    · obtain ⟨b', off', hA', hb', _⟩ := hi3 0 (by show 0 < n3; have : n3 ≠ 0 := hn0; omega)
      rw [show A3 = some a from ha] at hA'
      injection hA' with hA'
      rw [hA']
      exact hb')
  exact ⟨A, n, c, o, rfl, ho, hn⟩

/-- Two pairs of disks, each alike; the first pair goes on. -/
structure Play (w wr : World) (n x : Nat) (q : Pl) (p : Place) (q2 : Pl) (p2 : Place) (B C B2 C2 : Nat) (d e : DS) : Prop where
  one : At wr B q d
  two : RefAt wr C p d
  one2 : At wr B2 q2 e
  two2 : RefAt wr C2 p2 e
  ap : ∀ k, q.has k → ¬ p.has k
  a1 : ∀ k, q2.has k → ¬ q.has k ∧ ¬ p.has k
  a2 : ∀ k, p2.has k → ¬ q.has k ∧ ¬ p.has k
  lo : ∀ k, q.has k ∨ p.has k → w.heap.size ≤ k
  below : Below w.heap.size w wr
  dn : d.n = n
  en : e.n = n
  armed : d.armed ≤ 9223372036854775807
  x : q.x = x

/-- One pair alone. -/
structure Lone (w wr : World) (n x : Nat) (q : Pl) (p : Place) (B C : Nat) (d : DS) : Prop where
  one : At wr B q d
  two : RefAt wr C p d
  ap : ∀ k, q.has k → ¬ p.has k
  lo : ∀ k, q.has k ∨ p.has k → w.heap.size ≤ k
  below : Below w.heap.size w wr
  dn : d.n = n
  armed : d.armed ≤ 9223372036854775807
  x : q.x = x

section
variable {w wr w1 w2 : World} {n x : Nat} {q : Pl} {p : Place} {q2 : Pl} {p2 : Place} {B C B2 C2 : Nat} {d e : DS}

theorem Play.later (h : Play w wr n x q p q2 p2 B C B2 C2 d e) (k : Below wr.heap.size wr w1) : Play w w1 n x q p q2 p2 B C B2 C2 d e :=
  ⟨at_below h.one k, h.two.below k, at_below h.one2 k, h.two2.below k, h.ap, h.a1, h.a2, h.lo, h.below.trans (k.mono h.below.size), h.dn, h.en, h.armed, h.x⟩

/-- A store above all of them (into a box of the loop's own). -/
theorem Lone.fit (h : Lone w wr n x q p B C d) {at_ : Int} {A : Option Addr} {kn : Nat} {kf : Nat → Int} (n0 : 0 < n) (hn : n ≤ 20000) (hat : -9223372036854775808 ≤ at_ ∧ at_ ≤ 9223372036854775807) (hA : Hl.Ints w w.heap.size A kn kf) (hl : ∀ a, A = some a → kn ≠ 0 → a.block < w.heap.size) (hk : kn ≤ 1000000) (hkf : ∀ k, k < kn → -9223372036854775808 ≤ kf k ∧ kf k ≤ 9223372036854775807) : Fit wr B C q p d at_ A kn kf :=
  ⟨h.one, h.two, h.ap, by rw [h.dn]; exact n0, by rw [h.dn]; exact hn, h.armed, hat.1, hat.2, keep_below hA h.below, fun a ha hz => by
    have h1 := hl a ha hz
    exact ⟨fun hh => by have := h.lo _ (.inl hh); omega, fun hh => by have := h.lo _ (.inr hh); omega⟩, hk, hkf⟩

theorem Play.stepped (h : Play w wr n x q p q2 p2 B C B2 C2 d e) {d' : DS} (hb : Both wr B C q p d' w2) (hn : d'.n = d.n) (ha : d'.armed ≤ 9223372036854775807) : ∃ q' : Pl, Play w w2 n x q' p q2 p2 B C B2 C2 d' e := by
  obtain ⟨q', hx, h1, h2, ho, hap, hq⟩ := hb
  refine ⟨q', h1, h2, h.one2.only ho fun i hi hh => ?_, h.two2.only ho fun i hi hh => ?_, hap, fun k hk => ?_, fun k hk => ?_, fun k hk => ?_, h.below.trans (ho.toBelow h.below.size fun k hk hh => ?_), by rw [hn]; exact h.dn, h.en, ha, by rw [hx]; exact h.x⟩
  · have := h.a1 i hi
    exact hh.elim this.1 this.2
  · have := h.a2 i hi
    exact hh.elim this.1 this.2
  · have h3 := h.a1 k hk
    refine ⟨fun hh => ?_, h3.2⟩
    rcases hq k hh with h4 | h4
    · exact h3.1 h4
    · have := h.one2.there k hk; omega
  · have h3 := h.a2 k hk
    refine ⟨fun hh => ?_, h3.2⟩
    rcases hq k hh with h4 | h4
    · exact h3.1 h4
    · have := h.two2.there k hk; omega
  · rcases hk with hk | hk
    · rcases hq k hk with h4 | h4
      · exact h.lo k (.inl h4)
      · have := h.below.size; omega
    · exact h.lo k (.inr hk)
  · have := h.lo k hh
    omega

theorem Play.lone (h : Play w wr n x q p q2 p2 B C B2 C2 d e) : Lone w wr n x q p B C d := ⟨h.one, h.two, h.ap, h.lo, h.below, h.dn, h.armed, h.x⟩

theorem Lone.later (h : Lone w wr n x q p B C d) (k : Below wr.heap.size wr w1) : Lone w w1 n x q p B C d :=
  ⟨at_below h.one k, h.two.below k, h.ap, h.lo, h.below.trans (k.mono h.below.size), h.dn, h.armed, h.x⟩

/-- The elder pair is a new one, alike. -/
theorem Lone.forked (h : Lone w wr n x q p B C d) {q3 : Pl} {p3 : Place} (h3 : At w1 wr.heap.size q3 d) (hq : ∀ k, q3.has k → wr.heap.size ≤ k) (k1 : Below wr.heap.size wr w1) (h4 : RefAt w2 w1.heap.size p3 d) (hp : ∀ k, p3.has k → w1.heap.size ≤ k) (k2 : Below w1.heap.size w1 w2) : Play w w2 n x q p q3 p3 B C wr.heap.size w1.heap.size d d := by
  have hL := h.later (below_then k1 k2)
  have s1 := k1.size
  refine ⟨hL.one, hL.two, at_below h3 k2, h4, h.ap, fun k hk => ⟨fun hh => ?_, fun hh => ?_⟩, fun k hk => ⟨fun hh => ?_, fun hh => ?_⟩, h.lo, hL.below, h.dn, h.dn, h.armed, h.x⟩
  · have := hq k hk; have := h.one.there k hh; omega
  · have := hq k hk; have := h.two.there k hh; omega
  · have := hp k hk; have := h.one.there k hh; omega
  · have := hp k hk; have := h.two.there k hh; omega

theorem start_lone {w3 : World} (hq : At w1 w.heap.size q (dsNew n)) (hlo : ∀ k, q.has k → w.heap.size ≤ k) (hb : Below w.heap.size w w1) (k2 : Below w1.heap.size w1 w2) (hp : RefAt w3 w2.heap.size p (dsNew n)) (hlp : ∀ k, p.has k → w2.heap.size ≤ k) (k3 : Below w2.heap.size w2 w3) (hn : (dsNew n).n = n) : Lone w w3 n q.x q p w.heap.size w2.heap.size (dsNew n) := by
  have h2 := at_below hq k2
  have hb2 := below_then hb k2
  refine ⟨at_below h2 k3, hp, fun k hk hh => ?_, fun k hk => ?_, below_then hb2 k3, hn, by show 0 ≤ _; omega, rfl⟩
  · have := hlp k hh; have := h2.there k hk; omega
  · rcases hk with hk | hk
    · exact hlo k hk
    · have := hlp k hk; have := hb2.size; omega
end

/-- A step, as the loops ask it. -/
theorem step_in {w wr W : World} {n x : Nat} {q : Pl} {p : Place} {B C : Nat} {d : DS} {o : Opr} (h : Lone w wr n x q p B C d) (n0 : 0 < n) (hn : n ≤ 20000) (ok : OprOk w o) (h40 : o.kn ≤ 40) (k : Below wr.heap.size wr W) (at_ : Int) (hat : -9223372036854775808 ≤ at_ ∧ at_ ≤ 9223372036854775807) {px : Nat} (hpx : p.x = px) :
    Calls Try.prog 13 #[.pointer (some ⟨x, 0, none⟩), .pointer (some ⟨px, 0, none⟩), .agg #[.int .i64 o.kind, .int .i64 at_, .int .u8 (o.c.toNat : Int), .slice o.A o.kn o.cap]] W (StepE W B C q p (stepD d (IntKind.u64.wrap o.kind % 6).toNat at_ o.c o.kn o.kf)) := by
  have hs := step_any W B C q p d o.kind at_ o.c o.A o.kn o.cap o.kf ((h.later k).fit n0 hn hat ok.keep ok.there (by omega) ok.kfs)
  rw [h.x, hpx] at hs
  exact hs

theorem same_in {w wr : World} {n x : Nat} {q : Pl} {p : Place} {B C : Nat} {d : DS} (h : Lone w wr n x q p B C d) (n0 : 0 < n) (hn : n ≤ 20000) {px : Nat} (hpx : p.x = px) :
    Calls Try.prog 14 #[.pointer (some ⟨x, 0, none⟩), .pointer (some ⟨px, 0, none⟩)] wr fun e w' => e = .returned (.bool true) ∧ Below wr.heap.size wr w' := by
  have hs := same_any wr B C q p d h.one h.two (by rw [h.dn]; exact n0) (by rw [h.dn]; exact hn)
  rw [h.x, hpx] at hs
  exact hs

theorem fork_in {w wr : World} {n x : Nat} {q : Pl} {p : Place} {B C : Nat} {d : DS} (h : Lone w wr n x q p B C d) (n0 : 0 < n) (hn : n ≤ 20000) : Calls Try.prog 11 #[.pointer (some ⟨x, 0, none⟩)] wr (ForkE wr d) := by
  have hs := Dd.fork_any wr B q d h.one (by rw [h.dn]; exact n0) (by rw [h.dn]; exact hn)
  rw [h.x] at hs
  exact hs

theorem copy_in {w wr : World} {n x : Nat} {q : Pl} {p : Place} {B C : Nat} {d : DS} (h : Lone w wr n x q p B C d) (n0 : 0 < n) (hn : n ≤ 20000) {px : Nat} (hpx : p.x = px) : Calls Try.prog 12 #[.pointer (some ⟨px, 0, none⟩)] wr (CopyD wr d) := by
  have hs := rcopy_any wr C p d h.two (by rw [h.dn]; exact n0) (by rw [h.dn]; omega)
  rw [hpx] at hs
  exact hs

/-- What is no disk's is as it was. -/
theorem both_cell {w w' : World} {B C : Nat} {q : Pl} {p : Place} {d' : DS} (h : Both w B C q p d' w') {k j : Nat} (hk : k < w.heap.size) (h1 : ¬ q.has k) (h2 : ¬ p.has k) : w'.cell? ⟨k, j, none⟩ = w.cell? ⟨k, j, none⟩ := by
  obtain ⟨q', hx, ha, hr, ho, _, _⟩ := h
  exact ho.cell hk fun hh => hh.elim h1 h2

/-- The new pair goes on, the elder one stays. -/
theorem Lone.forked_back {w wr w1 w2 : World} {n x : Nat} {q : Pl} {p : Place} {B C : Nat} {d : DS} (h : Lone w wr n x q p B C d) {q3 : Pl} {p3 : Place} (h3 : At w1 wr.heap.size q3 d) (hq : ∀ k, q3.has k → wr.heap.size ≤ k) (k1 : Below wr.heap.size wr w1) (h4 : RefAt w2 w1.heap.size p3 d) (hp : ∀ k, p3.has k → w1.heap.size ≤ k) (k2 : Below w1.heap.size w1 w2) : Play w w2 n q3.x q3 p3 q p wr.heap.size w1.heap.size B C d d := by
  have hL := h.later (below_then k1 k2)
  have s0 := h.below.size
  have s1 := k1.size
  refine ⟨at_below h3 k2, h4, hL.one, hL.two, fun k hk hh => ?_, fun k hk => ⟨fun hh => ?_, fun hh => ?_⟩, fun k hk => ⟨fun hh => ?_, fun hh => ?_⟩, fun k hk => ?_, hL.below, h.dn, h.dn, h.armed, rfl⟩
  · have := h3.there k hk; have := hp k hh; omega
  · have := hq k hh; have := h.one.there k hk; omega
  · have := hp k hh; have := h.one.there k hk; omega
  · have := hq k hh; have := h.two.there k hk; omega
  · have := hp k hh; have := h.two.there k hk; omega
  · rcases hk with hk | hk
    · have := hq k hk; omega
    · have := hp k hk; omega

theorem same_elder {w wr : World} {n x : Nat} {q : Pl} {p : Place} {q2 : Pl} {p2 : Place} {B C B2 C2 : Nat} {d e : DS} (h : Play w wr n x q p q2 p2 B C B2 C2 d e) (n0 : 0 < n) (hn : n ≤ 20000) {x2 px : Nat} (hx : q2.x = x2) (hpx : p2.x = px) :
    Calls Try.prog 14 #[.pointer (some ⟨x2, 0, none⟩), .pointer (some ⟨px, 0, none⟩)] wr fun e w' => e = .returned (.bool true) ∧ Below wr.heap.size wr w' := by
  have hs := same_any wr B2 C2 q2 p2 e h.one2 h.two2 (by rw [h.en]; exact n0) (by rw [h.en]; exact hn)
  rw [hx, hpx] at hs
  exact hs

theorem Lone.stepped {w wr w2 : World} {n x : Nat} {q : Pl} {p : Place} {B C : Nat} {d d' : DS} (h : Lone w wr n x q p B C d) (hb : Both wr B C q p d' w2) (hn : d'.n = d.n) (ha : d'.armed ≤ 9223372036854775807) : ∃ q' : Pl, Lone w w2 n x q' p B C d' := by
  obtain ⟨q', hx, h1, h2, ho, hap, hq⟩ := hb
  refine ⟨q', h1, h2, hap, fun k hk => ?_, h.below.trans (ho.toBelow h.below.size fun k hk hh => ?_), by rw [hn]; exact h.dn, ha, by rw [hx]; exact h.x⟩
  · rcases hk with hk | hk
    · rcases hq k hk with h4 | h4
      · exact h.lo k (.inl h4)
      · have := h.below.size; omega
    · exact h.lo k (.inr hk)
  · have := h.lo k hh
    omega

/-- What holds at each round, of one pair; of the new pair, the elder one fixed. -/
structure At1 (w wr : World) (n x : Nat) (px : Nat) : Prop where
  lone : ∃ (q : Pl) (p : Place) (B C : Nat) (d : DS), Lone w wr n x q p B C d ∧ p.x = px

structure At2 (w wr : World) (n x px : Nat) (q2 : Pl) (p2 : Place) (B2 C2 : Nat) (e : DS) : Prop where
  play : ∃ (q : Pl) (p : Place) (B C : Nat) (d : DS), Play w wr n x q p q2 p2 B C B2 C2 d e ∧ p.x = px

/-- What holds at each round. -/
structure At3 (w wr : World) (n : Nat) (x : Nat) (i : Nat) (v8 v9 : Value) (px : Nat) : Prop where
  play : ∃ (q : Pl) (p : Place) (q2 : Pl) (p2 : Place) (B C B2 C2 : Nat) (d e : DS), Play w wr n x q p q2 p2 B C B2 C2 d e ∧ p.x = px ∧ v8 = .pointer (some ⟨q2.x, 0, none⟩) ∧ v9 = .pointer (some ⟨p2.x, 0, none⟩)

end Go.Proofs.Yteakoniapgkicaa.Dk
