/- The landed disk: Read, New, Write. -/
import Derived.Test.YteakoniapgkicaaDdB
namespace Go.Proofs.Yteakoniapgkicaa.Dd
open Go.ChangeShapes Go.WideShapes Go.ChangeAt Go.RowKit
open Qu (Blk)
open Mv (Only)
open Se (All64 blanks Rows64 noughts noughts_len)
open By (cellsB cellsB_length cellsB_at)
open Dk (DS dsNew readE readV writeE writeD syncE syncD armD crashD startD secCells secCells_size size_sector Bools lies lies_of tick hitB crashN keeps keeps_le rank new_sec zero_sec store_sec box_sec load_row two_results make_secs make_flags four)
set_option linter.unusedVariables false

/-- What a region that writes a sector and its flag finds: two cells of the box, the bytes, the sector's place, the flag's. -/
theorem keepF_drew {w : World} {x f1 f2 a c g o k : Nat} {A C : Value} {b : List UInt8}
    (h : w.cell? ⟨x, f1, none⟩ = some A ∧ w.cell? ⟨x, f2, none⟩ = some C ∧ w.rangeAt g o (cellsB b) ∧ w.there a (k * 64) 64 ∧ w.cell? ⟨c, k, none⟩ = some (lies w ⟨c, k, none⟩) ∧ w.frozen? ⟨c, k, none⟩ = false) :
    w.drew.cell? ⟨x, f1, none⟩ = some A ∧ w.drew.cell? ⟨x, f2, none⟩ = some C ∧ w.drew.rangeAt g o (cellsB b) ∧ w.drew.there a (k * 64) 64 ∧ w.drew.cell? ⟨c, k, none⟩ = some (lies w.drew ⟨c, k, none⟩) ∧ w.drew.frozen? ⟨c, k, none⟩ = false := h

theorem keepF_sec {w : World} {x f1 f2 a c g o k : Nat} {A C : Value} {b : List UInt8} (vs : List Value) (h1 : x ≠ a) (h2 : c ≠ a) (h3 : g ≠ a)
    (h : w.cell? ⟨x, f1, none⟩ = some A ∧ w.cell? ⟨x, f2, none⟩ = some C ∧ w.rangeAt g o (cellsB b) ∧ w.there a (k * 64) 64 ∧ w.cell? ⟨c, k, none⟩ = some (lies w ⟨c, k, none⟩) ∧ w.frozen? ⟨c, k, none⟩ = false) :
    (w.setCells a (k * 64) vs).cell? ⟨x, f1, none⟩ = some A ∧ (w.setCells a (k * 64) vs).cell? ⟨x, f2, none⟩ = some C ∧ (w.setCells a (k * 64) vs).rangeAt g o (cellsB b) ∧ (w.setCells a (k * 64) vs).there a (k * 64) 64 ∧ (w.setCells a (k * 64) vs).cell? ⟨c, k, none⟩ = some (lies (w.setCells a (k * 64) vs) ⟨c, k, none⟩) ∧ (w.setCells a (k * 64) vs).frozen? ⟨c, k, none⟩ = false := by
  obtain ⟨q1, q2, q3, q4, q5, q6⟩ := h
  have e : ∀ y : Addr, y.block ≠ a → (w.setCells a (k * 64) vs).cell? y = w.cell? y := fun y hy => World.cell?_setCells_out a vs (k * 64) w y (fun e => absurd e hy)
  exact ⟨(e _ h1).trans q1, (e _ h1).trans q2, World.rangeAt_setCells_apart q3 _ _ _ (.inl h3), World.there_setCells q4 _ _ _, lies_of ((e _ h2).trans q5), by rw [World.frozen?_setCells]; exact q6⟩

theorem keepF_flag {w : World} {x f1 f2 a c g o k : Nat} {A C : Value} {b : List UInt8} (v : Value) (h1 : x ≠ c) (h2 : a ≠ c) (h3 : g ≠ c)
    (h : w.cell? ⟨x, f1, none⟩ = some A ∧ w.cell? ⟨x, f2, none⟩ = some C ∧ w.rangeAt g o (cellsB b) ∧ w.there a (k * 64) 64 ∧ w.cell? ⟨c, k, none⟩ = some (lies w ⟨c, k, none⟩) ∧ w.frozen? ⟨c, k, none⟩ = false) :
    (w.setCell ⟨c, k, none⟩ v).cell? ⟨x, f1, none⟩ = some A ∧ (w.setCell ⟨c, k, none⟩ v).cell? ⟨x, f2, none⟩ = some C ∧ (w.setCell ⟨c, k, none⟩ v).rangeAt g o (cellsB b) ∧ (w.setCell ⟨c, k, none⟩ v).there a (k * 64) 64 ∧ (w.setCell ⟨c, k, none⟩ v).cell? ⟨c, k, none⟩ = some (lies (w.setCell ⟨c, k, none⟩ v) ⟨c, k, none⟩) ∧ (w.setCell ⟨c, k, none⟩ v).frozen? ⟨c, k, none⟩ = false := by
  have e1 : w.setCell ⟨c, k, none⟩ v = w.setCells c k [v] := rfl
  rw [e1]
  obtain ⟨q1, q2, q3, q4, q5, q6⟩ := h
  have e : ∀ y : Addr, y.block ≠ c → (w.setCells c k [v]).cell? y = w.cell? y := fun y hy => World.cell?_setCells_out c [v] k w y (fun e => absurd e hy)
  have hs := World.isSome_setCells c [v] k w ⟨c, k, none⟩ (by rw [q5]; rfl)
  obtain ⟨u, hu⟩ := Option.isSome_iff_exists.1 hs
  exact ⟨(e _ h1).trans q1, (e _ h1).trans q2, World.rangeAt_setCells_apart q3 _ _ _ (.inl h3), World.there_setCells q4 _ _ _, lies_of hu, by rw [World.frozen?_setCells]; exact q6⟩

set_option maxHeartbeats 1000000 in
theorem read_lay (w : World) (B : Nat) (q : Pl) (d : DS) (i : Int) (h : Lay w B q d) (hn : d.n ≤ 1000000) :
    Calls Try.prog 20 #[.pointer (some ⟨q.x, 0, none⟩), .int .i64 i] w fun e w' => e = .returned (.tuple #[.agg (secCells (readV d i)), .int .i64 (readE d i)]) ∧ Below w.heap.size w w' := by
  have c1 := h.box.cell 1
  simp at c1
  have hx := h.box.lt
  have n1 : (d.n : Int) ≤ 1000000 := by omega
  have HR := Lib.hid h
  by_cases he : readE d i = 0
  · obtain ⟨r0, r1, ho⟩ := Dk.inR_yes he
    obtain ⟨k, rfl⟩ : ∃ k : Nat, i = (k : Int) := ⟨i.toNat, by omega⟩
    have hkn : k < d.n := by omega
    obtain ⟨s, hs⟩ : ∃ s, d.now[k]? = some s := ⟨_, List.getElem?_eq_getElem hkn⟩
    have HE := Lib.hid he
    have HV : Hid (readV d (k : Int) = s) := Lib.hid (by unfold readV; rw [HE.out, if_pos rfl, Int.toNat_natCast, List.getD, hs]; rfl)
    have hs64 := h.now.1.at hs
    have HK := Lib.hid hs
    clear h ho hs he
    go_enter Try.func20, Try.ntmps20
    go_wp2_with (first
      | (refine new_sec rfl rfl ?_; intro w1 hS1 hB1 hZ1; have d1 := (hB1.cell (p := ⟨q.x, 1, none⟩) hx).trans c1; have HL1 := Lib.hid (HR.out.below hB1); have HB := Lib.hid (And.intro hB1 hZ1); clear hB1 hZ1)
      | (refine (at_any w1 B q d (k : Int) HL1.out hn).mono ?_; rintro e w2 ⟨rfl, rfl⟩; rw [HE.out])
      | (refine load_row rfl _ rfl rfl s HL1.out.now HK.out ?_)
      | (refine store_sec rfl _ _ rfl _ rfl _ rfl _ hS1 hs64 ?_; intro w2 hS2 hG2))
    refine bodyPost_ret (two_results rfl _ w2 w.heap.size s (.int .i64 0) rfl hS2 rfl rfl) rfl ⟨by rw [HV.out, HE.out], ?_⟩
    exact HB.out.1.grown hG2 HB.out.1.size (fun k hk => by injection hk with hk; omega)
  · have HV : Hid (readV d i = noughts) := Lib.hid (by unfold readV; rw [if_neg he])
    obtain ⟨x, hxe⟩ : ∃ x, readE d i = x := ⟨_, rfl⟩
    have hx0 : ¬ x = 0 := by rw [← hxe]; exact he
    have hx1 : (x == 0) = false := beq_eq_false_iff_ne.2 hx0
    have HE := Lib.hid hxe
    clear h he hxe
    go_enter Try.func20, Try.ntmps20
    go_wp2_with (first
      | (refine new_sec rfl rfl ?_; intro w1 hS1 hB1 hZ1; have HL1 := Lib.hid (HR.out.below hB1); have HB := Lib.hid (And.intro hB1 hZ1); clear hB1 hZ1)
      | (refine (at_any w1 B q d i HL1.out hn).mono ?_; rintro e w2 ⟨rfl, rfl⟩; rw [HE.out])
      | (refine zero_sec rfl rfl ?_)
      | (refine store_sec rfl _ _ rfl _ rfl _ rfl _ hS1 noughts_len ?_; intro w2 hS2 hG2))
    refine bodyPost_ret (two_results rfl _ w2 w.heap.size noughts (.int .i64 x) rfl hS2 rfl rfl) rfl ⟨by rw [HV.out, HE.out], ?_⟩
    exact HB.out.1.grown hG2 HB.out.1.size (fun k hk => by injection hk with hk; omega)

/-! ### New -/
theorem Lay.fresh {w : World} {B : Nat} (n : Nat) (x a b c : Nat) (hn : n ≤ 1000000) (hB : B ≤ x ∧ B ≤ a ∧ B ≤ b ∧ B ≤ c) (hne : a ≠ b)
    (hx : w.heap[x]? = some (.cells #[.slice (some ⟨b, 0, none⟩) n n, .slice (some ⟨a, 0, none⟩) n n, .slice (some ⟨c, 0, none⟩) n n, .bool false, .int .i64 0] 56))
    (ha : w.heap[a]? = some (.cells (cellsB (blanks n).flatten).toArray 42)) (hb : w.heap[b]? = some (.cells (cellsB (blanks n).flatten).toArray 42))
    (hc : w.heap[c]? = some (.cells (Array.replicate n (.bool false)) 4)) : Lay w B ⟨x, a, b, c, n, n, n⟩ (dsNew n) := by
  have e0 : (dsNew n).n = n := by show (blanks n).length = n; simp [blanks]
  have el : (cellsB (blanks n).flatten).length = n * 64 := by rw [cellsB_length, Se.flat_length (Se.blanks_all n)]; simp [blanks]
  have hm : n ≤ maxLen := by unfold maxLen; omega
  have row : ∀ g, B ≤ g → w.heap[g]? = some (.cells (cellsB (blanks n).flatten).toArray 42) → Rows64 w B 42 g n n (blanks n) := fun g hBg hg =>
    ⟨Se.blanks_all n, el, .inr ⟨g, n, _, rfl, hBg, hg, Nat.le_refl _, hm, by simpa using el, by simp [← el]⟩⟩
  refine ⟨⟨Se.blanks_all n, Se.blanks_all n, rfl, by simp [dsNew, blanks]⟩, hB.1, ?_, ?_, ?_, ?_, hne⟩
  · rw [e0]; exact ⟨hx⟩
  · rw [e0]; exact row a hB.2.1 ha
  · rw [e0]; exact row b hB.2.2.1 hb
  · rw [e0]
    exact ⟨by simp [dsNew], .inr ⟨c, n, _, rfl, hB.2.2.2, hc, Nat.le_refl _, hm, by simp, by simp [dsNew]⟩⟩

theorem new_end {w W : World} {n : Nat} (q : Pl) (h : Lay W w.heap.size q (dsNew n)) (hp : ∀ k, q.has k → w.heap.size ≤ k) (hb : Below w.heap.size w W) : NewE w n (.returned (.tuple #[.pointer (some ⟨q.x, 0, none⟩), .int .i64 0])) W.drew :=
  ⟨q, rfl, ⟨h.drew, tidy_new n⟩, hp, ⟨hb.os, hb.tape, hb.output, hb.size, hb.block⟩⟩

theorem new_ok (w : World) (n : Nat) (h1 : 1 ≤ n) (h2 : n ≤ 20000) : Calls Try.prog 8 #[.int .i64 (n : Int)] w (NewE w n) := by
  have m1 := make_secs n (by omega)
  have m2 := make_flags n (by omega)
  have hn : n ≤ 1000000 := by omega
  have i1 : ¬ (n : Int) < 1 := by omega
  have i2 : ¬ (20000 : Int) < (n : Int) := by omega
  have i3 : decide ((n : Int) < 1) = false := by simp; omega
  have i4 : decide ((20000 : Int) < (n : Int)) = false := by simp; omega
  go_enter Try.func8, Try.ntmps8
  go_wp2_with fail
  go_region
  all_goals
    unfold Exit.then
    dsimp only
    go_wp2_with fail
    go_ret2
    obtain ⟨h0, h1, h2, h3, hb⟩ := four w _ _ _ _
    first
      | exact new_end ⟨w.heap.size + 1 + 1 + 1, w.heap.size, w.heap.size + 1, w.heap.size + 1 + 1, n, n, n⟩ (Lay.fresh n _ _ _ _ hn ⟨by omega, by omega, by omega, by omega⟩ (by omega) h3 h0 h1 h2) (fun k hk => by rcases hk with hk | hk | hk | hk <;> rw [hk] <;> dsimp only <;> omega) hb
      | exact new_end ⟨w.heap.size + 1 + 1 + 1, w.heap.size, w.heap.size + 1 + 1, w.heap.size + 1, n, n, n⟩ (Lay.fresh n _ _ _ _ hn ⟨by omega, by omega, by omega, by omega⟩ (by omega) h3 h0 h2 h1) (fun k hk => by rcases hk with hk | hk | hk | hk <;> rw [hk] <;> dsimp only <;> omega) hb
      | exact new_end ⟨w.heap.size + 1 + 1 + 1, w.heap.size + 1, w.heap.size, w.heap.size + 1 + 1, n, n, n⟩ (Lay.fresh n _ _ _ _ hn ⟨by omega, by omega, by omega, by omega⟩ (by omega) h3 h1 h0 h2) (fun k hk => by rcases hk with hk | hk | hk | hk <;> rw [hk] <;> dsimp only <;> omega) hb
      | exact new_end ⟨w.heap.size + 1 + 1 + 1, w.heap.size + 1, w.heap.size + 1 + 1, w.heap.size, n, n, n⟩ (Lay.fresh n _ _ _ _ hn ⟨by omega, by omega, by omega, by omega⟩ (by omega) h3 h1 h2 h0) (fun k hk => by rcases hk with hk | hk | hk | hk <;> rw [hk] <;> dsimp only <;> omega) hb
      | exact new_end ⟨w.heap.size + 1 + 1 + 1, w.heap.size + 1 + 1, w.heap.size, w.heap.size + 1, n, n, n⟩ (Lay.fresh n _ _ _ _ hn ⟨by omega, by omega, by omega, by omega⟩ (by omega) h3 h2 h0 h1) (fun k hk => by rcases hk with hk | hk | hk | hk <;> rw [hk] <;> dsimp only <;> omega) hb
      | exact new_end ⟨w.heap.size + 1 + 1 + 1, w.heap.size + 1 + 1, w.heap.size + 1, w.heap.size, n, n, n⟩ (Lay.fresh n _ _ _ _ hn ⟨by omega, by omega, by omega, by omega⟩ (by omega) h3 h2 h1 h0) (fun k hk => by rcases hk with hk | hk | hk | hk <;> rw [hk] <;> dsimp only <;> omega) hb

theorem new_bad (w : World) (n : Int) (h : n < 1 ∨ 20000 < n) : Calls Try.prog 8 #[.int .i64 n] w fun e w' => e = .returned (.tuple #[.pointer none, .int .i64 2]) ∧ Below w.heap.size w w' := by
  by_cases h1 : n < 1
  · have i3 : decide (n < 1) = true := by simpa using h1
    clear h
    go_enter Try.func8, Try.ntmps8
    go_wp2_with fail
    go_ret2
    exact ⟨rfl, Below.refl _ _⟩
  · have i3 : decide (n < 1) = false := by simpa using h1
    have h2 : 20000 < n := by omega
    have i4 : decide (20000 < n) = true := by simpa using h2
    clear h
    go_enter Try.func8, Try.ntmps8
    go_wp2_with fail
    go_ret2
    exact ⟨rfl, Below.refl _ _⟩

/-! ### Write -/
set_option maxHeartbeats 2000000 in
theorem write_lay (w : World) (B : Nat) (q : Pl) (d : DS) (i : Int) (b : List UInt8) (h : Lay w B q d) (n0 : 0 < d.n) (hn : d.n ≤ 1000000) (hb : b.length = 64) (ha : d.armed ≤ 9223372036854775807) :
    Calls Try.prog 15 #[.pointer (some ⟨q.x, 0, none⟩), .int .i64 i, .agg (secCells b)] w fun e w' => e = .returned (.int .i64 (writeE d i)) ∧ Lay w' B q (writeD d i b) ∧ Only w w' q.has := by
  have c1 := h.box.cell 1
  have c2 := h.box.cell 2
  simp at c1 c2
  have hx := h.box.lt
  have n1 : (d.n : Int) ≤ 1000000 := by omega
  have HR := Lib.hid h
  by_cases he : readE d i = 0
  · obtain ⟨r0, r1, ho⟩ := Dk.inR_yes he
    obtain ⟨k, rfl⟩ : ∃ k : Nat, i = (k : Int) := ⟨i.toNat, by omega⟩
    have hkn : k < d.n := by omega
    have HE := Lib.hid he
    have HO := Lib.hid ho
    have k0 : (0 : Int) ≤ (k : Int) := by omega
    have k1 : (k : Int) < (d.n : Int) := by omega
    have HA := Lib.hid (h.apart n0)
    have la := (World.ownsRow.lt h.now.2 q.a rfl).2
    have lc := (World.ownsRow.lt h.loose q.c rfl).2
    have HL := Lib.hid (And.intro la lc)
    clear h ho he la lc
    go_enter Try.func15, Try.ntmps15
    go_wp2_with (first
      | (refine box_sec rfl _ rfl _ rfl hb ?_; intro w1 hS1 hB1 hZ1; have d1 := (hB1.cell (p := ⟨q.x, 1, none⟩) hx).trans c1; have d2 := (hB1.cell (p := ⟨q.x, 2, none⟩) hx).trans c2; have HR1 := Lib.hid (HR.out.below hB1); have HB := Lib.hid (And.intro hB1 hZ1); have HS1 := Lib.hid hS1; clear hB1 hZ1 hS1 c1 c2)
      | (refine (at_any w1 B q d (k : Int) HR1.out hn).mono ?_; rintro e w2 ⟨rfl, rfl⟩; rw [HE.out]))
    obtain ⟨g, hg⟩ : ∃ g, w.heap.size = g := ⟨_, rfl⟩
    rw [hg] at HL HB HS1 ⊢
    clear hx
    have q3 := HS1.out.range
    have q4 : w1.there q.a (k * 64) 64 := HR1.out.now.there hkn
    have q5 : w1.cell? ⟨q.c, k, none⟩ = some (lies w1 ⟨q.c, k, none⟩) := lies_of (HR1.out.flag hkn)
    have q6 := HR1.out.loose.frozenAt k
    have hu : Try.prog.underlying 42 = some (.array 64 5) := Try.underlying42
    have hcl : (cellsB b).length = 64 := by rw [cellsB_length, hb]
    have hi : (Try.prog.info? 42).map (·.size) = some (cellsB b).length := by rw [size_sector, hcl]
    have hone : ∀ v ∈ cellsB b, v.oneCell' = true := By.cellsB_one b
    have HW : Hid (Lay ((w1.drew.setCells q.a (k * 64) (cellsB b)).setCell ⟨q.c, k, none⟩ (.bool true)) B q { d with now := d.now.set k b, loose := d.loose.set k true } ∧ Only w ((w1.drew.setCells q.a (k * 64) (cellsB b)).setCell ⟨q.c, k, none⟩ (.bool true)) q.has) := Lib.hid (by
      obtain ⟨o1, o2⟩ := HR1.out.drew.write n0 hkn hb
      exact ⟨o1, (((Mv.Only.ofBelow (by rw [hg]; exact HB.out.1) q.has)).drew).trans o2 fun i _ h => h⟩)
    have HV : Hid (writeE d (k : Int) = countE d ∧ writeD d (k : Int) b = tick { d with now := d.now.set k b, loose := d.loose.set k true }) := Lib.hid (by
      refine ⟨?_, ?_⟩
      · unfold writeE countE
        rw [HE.out, if_neg (fun h => h rfl)]
      · unfold writeD
        rw [HE.out, if_neg (fun h => h rfl), Int.toNat_natCast])
    clear HR HR1 hg
    go_region_held3 (fun w' => w'.cell? ⟨q.x, 1, none⟩ = some (.slice (some ⟨q.a, 0, none⟩) d.n q.ca) ∧ w'.cell? ⟨q.x, 2, none⟩ = some (.slice (some ⟨q.c, 0, none⟩) d.n q.cc) ∧ w'.rangeAt g 0 (cellsB b) ∧ w'.there q.a (k * 64) 64 ∧ w'.cell? ⟨q.c, k, none⟩ = some (lies w' ⟨q.c, k, none⟩) ∧ w'.frozen? ⟨q.c, k, none⟩ = false)
      (first
        | assumption
        | (go_split_ands; exact keepF_drew ⟨by assumption, by assumption, by assumption, by assumption, by assumption, by assumption⟩)
        | (go_split_ands; exact keepF_sec _ HA.out.1 HA.out.2.2.2.1 (by have := HL.out; omega) ⟨by assumption, by assumption, by assumption, by assumption, by assumption, by assumption⟩)
        | (go_split_ands; exact keepF_flag _ HA.out.2.2.1 (Ne.symm HA.out.2.2.2.1) (by have := HL.out; omega) ⟨by assumption, by assumption, by assumption, by assumption, by assumption, by assumption⟩))
      (fail)
    unfold Exit.then
    dsimp only
    go_wp2_with (first
      | (refine (count_any _ B q { d with now := d.now.set k b, loose := d.loose.set k true } HW.out.1 HO.out (by unfold DS.n; rw [List.length_set]; exact n0) ha).mono ?_; rintro e w3 ⟨rfl, hr3, ho3⟩; have HR3 := Lib.hid (And.intro hr3 ho3); clear hr3 ho3; have hh3 : countE { d with now := d.now.set k b, loose := d.loose.set k true } = countE d := rfl; rw [hh3]; clear hh3))
    go_ret
    exact ⟨by rw [HV.out.1]; rfl, by rw [HV.out.2]; exact HR3.out.1, HW.out.2.trans HR3.out.2 fun i _ h => h⟩
  · obtain ⟨x, hxe⟩ : ∃ x, readE d i = x := ⟨_, rfl⟩
    have hx0 : ¬ x = 0 := by rw [← hxe]; exact he
    have hx1 : (x == 0) = false := beq_eq_false_iff_ne.2 hx0
    have HE := Lib.hid hxe
    have HV : Hid (writeE d i = x ∧ writeD d i b = d) := Lib.hid ⟨by unfold writeE; rw [if_pos he, hxe], by unfold writeD; rw [if_pos he]⟩
    clear h he hxe
    go_enter Try.func15, Try.ntmps15
    go_wp2_with (first
      | (refine box_sec rfl _ rfl _ rfl hb ?_; intro w1 hS1 hB1 hZ1; have HR1 := Lib.hid (HR.out.below hB1); have HB := Lib.hid hB1; clear hB1 hZ1 hS1 c1 c2)
      | (refine (at_any w1 B q d i HR1.out hn).mono ?_; rintro e w2 ⟨rfl, rfl⟩; rw [HE.out]))
    go_ret
    exact ⟨by rw [HV.out.1]; rfl, by rw [HV.out.2]; exact HR1.out, Mv.Only.ofBelow HB.out _⟩

end Go.Proofs.Yteakoniapgkicaa.Dd
