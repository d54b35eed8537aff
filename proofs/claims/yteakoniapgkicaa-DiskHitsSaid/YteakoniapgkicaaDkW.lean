/- The document's disk: Write. -/
import Derived.Test.YteakoniapgkicaaDkR
namespace Go.Proofs.Yteakoniapgkicaa.Dk
open Go.ChangeShapes Go.WideShapes Go.ChangeAt Go.RowKit
open Qu (Blk)
open Mv (Only)
open Se (All64 blanks Rows64 noughts noughts_len)
open By (cellsB cellsB_length cellsB_at)
set_option linter.unusedVariables false

/-- What lies in a cell. -/
def lies (w : World) (a : Addr) : Value := (w.cell? a).getD undef

theorem lies_of {w : World} {a : Addr} {v : Value} (h : w.cell? a = some v) : w.cell? a = some (lies w a) := by unfold lies; rw [h]; rfl

/-- What Write's two stores find: the box's two rows, the bytes that came in, the sector's place, the flag's. -/
theorem keep_drew {w : World} {x a c g k : Nat} {A C : Value} {b : List UInt8}
    (h : w.cell? ⟨x, 0, none⟩ = some A ∧ w.cell? ⟨x, 2, none⟩ = some C ∧ w.rangeAt g 0 (cellsB b) ∧ w.there a (k * 64) 64 ∧ w.cell? ⟨c, k, none⟩ = some (lies w ⟨c, k, none⟩) ∧ w.frozen? ⟨c, k, none⟩ = false) :
    w.drew.cell? ⟨x, 0, none⟩ = some A ∧ w.drew.cell? ⟨x, 2, none⟩ = some C ∧ w.drew.rangeAt g 0 (cellsB b) ∧ w.drew.there a (k * 64) 64 ∧ w.drew.cell? ⟨c, k, none⟩ = some (lies w.drew ⟨c, k, none⟩) ∧ w.drew.frozen? ⟨c, k, none⟩ = false := h

theorem keep_sec {w : World} {x a c g k : Nat} {A C : Value} {b : List UInt8} (vs : List Value) (h1 : x ≠ a) (h2 : c ≠ a) (h3 : g ≠ a)
    (h : w.cell? ⟨x, 0, none⟩ = some A ∧ w.cell? ⟨x, 2, none⟩ = some C ∧ w.rangeAt g 0 (cellsB b) ∧ w.there a (k * 64) 64 ∧ w.cell? ⟨c, k, none⟩ = some (lies w ⟨c, k, none⟩) ∧ w.frozen? ⟨c, k, none⟩ = false) :
    (w.setCells a (k * 64) vs).cell? ⟨x, 0, none⟩ = some A ∧ (w.setCells a (k * 64) vs).cell? ⟨x, 2, none⟩ = some C ∧ (w.setCells a (k * 64) vs).rangeAt g 0 (cellsB b) ∧ (w.setCells a (k * 64) vs).there a (k * 64) 64 ∧ (w.setCells a (k * 64) vs).cell? ⟨c, k, none⟩ = some (lies (w.setCells a (k * 64) vs) ⟨c, k, none⟩) ∧ (w.setCells a (k * 64) vs).frozen? ⟨c, k, none⟩ = false := by
  obtain ⟨q1, q2, q3, q4, q5, q6⟩ := h
  have e : ∀ y : Addr, y.block ≠ a → (w.setCells a (k * 64) vs).cell? y = w.cell? y := fun y hy => World.cell?_setCells_out a vs (k * 64) w y (fun e => absurd e hy)
  exact ⟨(e _ h1).trans q1, (e _ h1).trans q2, World.rangeAt_setCells_apart q3 _ _ _ (.inl h3), World.there_setCells q4 _ _ _, lies_of ((e _ h2).trans q5), by rw [World.frozen?_setCells]; exact q6⟩

theorem keep_flag {w : World} {x a c g k : Nat} {A C : Value} {b : List UInt8} (v : Value) (h1 : x ≠ c) (h2 : a ≠ c) (h3 : g ≠ c)
    (h : w.cell? ⟨x, 0, none⟩ = some A ∧ w.cell? ⟨x, 2, none⟩ = some C ∧ w.rangeAt g 0 (cellsB b) ∧ w.there a (k * 64) 64 ∧ w.cell? ⟨c, k, none⟩ = some (lies w ⟨c, k, none⟩) ∧ w.frozen? ⟨c, k, none⟩ = false) :
    (w.setCell ⟨c, k, none⟩ v).cell? ⟨x, 0, none⟩ = some A ∧ (w.setCell ⟨c, k, none⟩ v).cell? ⟨x, 2, none⟩ = some C ∧ (w.setCell ⟨c, k, none⟩ v).rangeAt g 0 (cellsB b) ∧ (w.setCell ⟨c, k, none⟩ v).there a (k * 64) 64 ∧ (w.setCell ⟨c, k, none⟩ v).cell? ⟨c, k, none⟩ = some (lies (w.setCell ⟨c, k, none⟩ v) ⟨c, k, none⟩) ∧ (w.setCell ⟨c, k, none⟩ v).frozen? ⟨c, k, none⟩ = false := by
  have e1 : w.setCell ⟨c, k, none⟩ v = w.setCells c k [v] := rfl
  rw [e1]
  obtain ⟨q1, q2, q3, q4, q5, q6⟩ := h
  have e : ∀ y : Addr, y.block ≠ c → (w.setCells c k [v]).cell? y = w.cell? y := fun y hy => World.cell?_setCells_out c [v] k w y (fun e => absurd e hy)
  have hs := World.isSome_setCells c [v] k w ⟨c, k, none⟩ (by rw [q5]; rfl)
  obtain ⟨u, hu⟩ := Option.isSome_iff_exists.1 hs
  exact ⟨(e _ h1).trans q1, (e _ h1).trans q2, World.rangeAt_setCells_apart q3 _ _ _ (.inl h3), World.there_setCells q4 _ _ _, lies_of hu, by rw [World.frozen?_setCells]; exact q6⟩

set_option maxHeartbeats 2000000 in
theorem rwrite_any (w : World) (B : Nat) (p : Place) (d : DS) (i : Int) (b : List UInt8) (h : RefAt w B p d) (n0 : 0 < d.n) (hn : d.n ≤ 1000000) (hb : b.length = 64) (ha : d.armed ≤ 9223372036854775807) :
    Calls Try.prog 26 #[.pointer (some ⟨p.x, 0, none⟩), .int .i64 i, .agg (secCells b)] w fun e w' => e = .returned (.int .i64 (writeE d i)) ∧ RefAt w' B p (writeD d i b) ∧ Only w w' p.has := by
  have c0 := h.box.cell 0
  have c2 := h.box.cell 2
  have c3 := h.box.cell 3
  simp at c0 c2 c3
  have hx := h.box.lt
  have n1 : (d.n : Int) ≤ 1000000 := by omega
  cases ho : d.off with
  | true =>
    rw [ho] at c3
    have HE := Lib.hid (readE_down (i := i) ho)
    have HV : Hid (writeE d i = 9 ∧ writeD d i b = d) := Lib.hid ⟨by unfold writeE; rw [HE.out, if_pos (by decide)], by unfold writeD; rw [HE.out, if_pos (by decide)]⟩
    have HR := Lib.hid h
    clear h ho
    go_enter Try.func26, Try.ntmps26
    go_wp2_with (first
      | (refine box_sec rfl _ rfl _ rfl hb ?_; intro w1 hS1 hB1 hZ1; have d0 := (hB1.cell (p := ⟨p.x, 0, none⟩) hx).trans c0; have d3 := (hB1.cell (p := ⟨p.x, 3, none⟩) hx).trans c3; have HB := Lib.hid (And.intro (HR.out.below hB1) hB1); clear hB1 hZ1 hS1 c0 c2 c3))
    go_ret
    exact ⟨by rw [HV.out.1]; rfl, by rw [HV.out.2]; exact HB.out.1, Mv.Only.ofBelow HB.out.2 _⟩
  | false =>
    rw [ho] at c3
    by_cases hr : 0 ≤ i ∧ i < (d.n : Int)
    · have HE := Lib.hid (readE_ok ho hr.1 hr.2)
      obtain ⟨k, hk⟩ : ∃ k : Nat, i = (k : Int) := ⟨i.toNat, by omega⟩
      subst hk
      have hkn : k < d.n := by omega
      have HR := Lib.hid h
      have k0 : (0 : Int) ≤ (k : Int) := by omega
      have k1 : (k : Int) < (d.n : Int) := by omega
      have k2 : decide (d.n ≤ k) = false := by simp; omega
      have k3 : ¬ (k : Int) < 0 := by omega
      have HA := Lib.hid (h.apart n0)
      have la := (World.ownsRow.lt h.now.2 p.a rfl).2
      have lc := (World.ownsRow.lt h.loose p.c rfl).2
      have HL := Lib.hid (And.intro la lc)
      clear h ho hr la lc
      go_enter Try.func26, Try.ntmps26
      go_wp2_with (first
        | (refine box_sec rfl _ rfl _ rfl hb ?_; intro w1 hS1 hB1 hZ1; have d0 := (hB1.cell (p := ⟨p.x, 0, none⟩) hx).trans c0; have d2 := (hB1.cell (p := ⟨p.x, 2, none⟩) hx).trans c2; have d3 := (hB1.cell (p := ⟨p.x, 3, none⟩) hx).trans c3; have HR1 := Lib.hid (HR.out.below hB1); have HB := Lib.hid (And.intro hB1 hZ1); have HS1 := Lib.hid hS1; clear hB1 hZ1 hS1 c0 c2 c3))
      obtain ⟨g, hg⟩ : ∃ g, w.heap.size = g := ⟨_, rfl⟩
      rw [hg] at HL HB HS1 ⊢
      clear hx
      have q3 := HS1.out.range
      have q4 : w1.there p.a (k * 64) 64 := HR1.out.now.there hkn
      have q5 : w1.cell? ⟨p.c, k, none⟩ = some (lies w1 ⟨p.c, k, none⟩) := by
        have hl := HR1.out.loose.1
        refine lies_of (v := .bool (d.loose.getD k false)) ?_
        rw [HR1.out.loose.cellAt k (by omega), List.getElem?_map, List.getD]
        rw [List.getElem?_eq_getElem (by rw [List.length_map] at hl; omega)]
        rfl
      have q6 := HR1.out.loose.frozenAt k
      have hu : Try.prog.underlying 42 = some (.array 64 5) := Try.underlying42
      have hcl : (cellsB b).length = 64 := by rw [cellsB_length, hb]
      have hi : (Try.prog.info? 42).map (·.size) = some (cellsB b).length := by rw [size_sector, hcl]
      have hone : ∀ v ∈ cellsB b, v.oneCell' = true := By.cellsB_one b
      have HW : Hid (RefAt ((w1.drew.setCells p.a (k * 64) (cellsB b)).setCell ⟨p.c, k, none⟩ (.bool true)) B p { d with now := d.now.set k b, loose := d.loose.set k true } ∧ Only w ((w1.drew.setCells p.a (k * 64) (cellsB b)).setCell ⟨p.c, k, none⟩ (.bool true)) p.has) := Lib.hid (by
        have hd1 : RefAt w1.drew B p d := HR1.out.only (S := fun _ => False) (Mv.Only.refl w1 _).drew (fun _ _ h => h)
        obtain ⟨o1, o2⟩ := hd1.write n0 hkn hb
        exact ⟨o1, (((Mv.Only.ofBelow (by rw [hg]; exact HB.out.1) p.has)).drew).trans o2 fun i _ h => h⟩)
      have HV : Hid (writeE d (k : Int) = (if hitB d then 9 else 0) ∧ writeD d (k : Int) b = tick { d with now := d.now.set k b, loose := d.loose.set k true }) := Lib.hid (by
        refine ⟨?_, ?_⟩
        · unfold writeE
          rw [HE.out, if_neg (fun h => h rfl)]
        · unfold writeD
          rw [HE.out, if_neg (fun h => h rfl), Int.toNat_natCast])
      obtain ⟨hh, hhe⟩ : ∃ hh : Bool, hitB d = hh := ⟨_, rfl⟩
      have HH := Lib.hid hhe
      clear hhe HR HR1 hg
      go_region_held3 (fun w' => w'.cell? ⟨p.x, 0, none⟩ = some (.slice (some ⟨p.a, 0, none⟩) d.n p.ca) ∧ w'.cell? ⟨p.x, 2, none⟩ = some (.slice (some ⟨p.c, 0, none⟩) d.n p.cc) ∧ w'.rangeAt g 0 (cellsB b) ∧ w'.there p.a (k * 64) 64 ∧ w'.cell? ⟨p.c, k, none⟩ = some (lies w' ⟨p.c, k, none⟩) ∧ w'.frozen? ⟨p.c, k, none⟩ = false)
        (first
          | assumption
          | (go_split_ands; exact keep_drew ⟨by assumption, by assumption, by assumption, by assumption, by assumption, by assumption⟩)
          | (go_split_ands; exact keep_sec _ HA.out.1 HA.out.2.2.2.1 (by have := HL.out; omega) ⟨by assumption, by assumption, by assumption, by assumption, by assumption, by assumption⟩)
          | (go_split_ands; exact keep_flag _ HA.out.2.2.1 (Ne.symm HA.out.2.2.2.1) (by have := HL.out; omega) ⟨by assumption, by assumption, by assumption, by assumption, by assumption, by assumption⟩))
        (fail)
      unfold Exit.then
      dsimp only
      cases hh <;>
        go_wp2_with (first
          | (refine (rhit_any _ B p { d with now := d.now.set k b, loose := d.loose.set k true } HW.out.1 (by unfold DS.n; rw [List.length_set]; exact n0) ha).mono ?_; rintro e w3 ⟨rfl, hr3, ho3⟩; have HR3 := Lib.hid (And.intro hr3 ho3); clear hr3 ho3; have hh3 : hitB { d with now := d.now.set k b, loose := d.loose.set k true } = hitB d := rfl; rw [hh3, HH.out]; clear hh3))
      all_goals
        go_ret
        refine ⟨by rw [HV.out.1, HH.out]; rfl, by rw [HV.out.2]; exact HR3.out.1, HW.out.2.trans HR3.out.2 fun i _ h => h⟩
    · have HE := Lib.hid (readE_out (i := i) ho (by omega))
      by_cases hneg : i < 0
      · have i0 : decide (i < 0) = true := by simpa using hneg
        have HV : Hid (writeE d i = 2 ∧ writeD d i b = d) := Lib.hid ⟨by unfold writeE; rw [HE.out, if_pos (by decide)], by unfold writeD; rw [HE.out, if_pos (by decide)]⟩
        have HR := Lib.hid h
        clear h ho hr
        go_enter Try.func26, Try.ntmps26
        go_wp2_with (first
          | (refine box_sec rfl _ rfl _ rfl hb ?_; intro w1 hS1 hB1 hZ1; have d0 := (hB1.cell (p := ⟨p.x, 0, none⟩) hx).trans c0; have d3 := (hB1.cell (p := ⟨p.x, 3, none⟩) hx).trans c3; have HB := Lib.hid (And.intro (HR.out.below hB1) hB1); clear hB1 hZ1 hS1 c0 c2 c3))
        go_ret
        exact ⟨by rw [HV.out.1]; rfl, by rw [HV.out.2]; exact HB.out.1, Mv.Only.ofBelow HB.out.2 _⟩
      · have i0 : decide (i < 0) = false := by simpa using hneg
        have i1 : (d.n : Int) ≤ i := by omega
        have i2 : decide ((d.n : Int) ≤ i) = true := by simpa using i1
        have HV : Hid (writeE d i = 2 ∧ writeD d i b = d) := Lib.hid ⟨by unfold writeE; rw [HE.out, if_pos (by decide)], by unfold writeD; rw [HE.out, if_pos (by decide)]⟩
        have HR := Lib.hid h
        clear h ho hr hneg
        go_enter Try.func26, Try.ntmps26
        go_wp2_with (first
          | (refine box_sec rfl _ rfl _ rfl hb ?_; intro w1 hS1 hB1 hZ1; have d0 := (hB1.cell (p := ⟨p.x, 0, none⟩) hx).trans c0; have d3 := (hB1.cell (p := ⟨p.x, 3, none⟩) hx).trans c3; have HB := Lib.hid (And.intro (HR.out.below hB1) hB1); clear hB1 hZ1 hS1 c0 c2 c3))
        go_ret
        exact ⟨by rw [HV.out.1]; rfl, by rw [HV.out.2]; exact HB.out.1, Mv.Only.ofBelow HB.out.2 _⟩

end Go.Proofs.Yteakoniapgkicaa.Dk
