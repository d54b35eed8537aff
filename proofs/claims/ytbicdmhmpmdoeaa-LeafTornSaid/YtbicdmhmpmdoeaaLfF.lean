/- The landed read and Take. -/
import Derived.Test.YtbicdmhmpmdoeaaLfE
namespace Go.Proofs.Ytbicdmhmpmdoeaa.Lf
open Go.ChangeShapes Go.WideShapes Go.ChangeAt Go.RowKit
open Qu (Blk)
open By (Bys cellsB cellsB_length cellsB_at)
open Se (over over_length over_at noughts noughts_len)
open Dk (Sec secCells secCells_size secCells_at size_sector)
set_option linter.unusedVariables false

theorem size_leaf : (Try.prog.info? 25).map (·.size) = some 5 := by kernel_rfl

/-- A box of a leaf, whatever lies in it. -/
def Leaf5 (w : World) (g : Nat) : Prop := ∃ cs : Array Value, Blk w g 25 cs ∧ cs.size = 5

theorem Leaf5.below {w w' : World} {g : Nat} (h : Leaf5 w g) (hb : Below w.heap.size w w') : Leaf5 w' g := by
  obtain ⟨cs, h1, h2⟩ := h
  exact ⟨cs, h1.below hb, h2⟩

theorem Leaf5.drew {w : World} {g : Nat} (h : Leaf5 w g) : Leaf5 w.drew g := by
  obtain ⟨cs, h1, h2⟩ := h
  exact ⟨cs, h1.drew, h2⟩

theorem Leaf5.far {w w' : World} {g k : Nat} (h : Leaf5 w g) (hg : w.grownBy w' (some k)) (hne : g ≠ k) : Leaf5 w' g := by
  obtain ⟨cs, h1, h2⟩ := h
  exact ⟨cs, h1.grown hg (fun e => hne (by injection e)), h2⟩

theorem leaf_cells (cs : List Value) (vs : List Value) (h : cs.length = 5) (h2 : vs.length = 5) : over cs 0 vs = vs := by
  apply List.ext_getElem?
  intro k
  rw [over_at _ _ _ _ (by omega)]
  by_cases hk : k < 5
  · rw [if_pos (by omega), Nat.sub_zero]
  · rw [if_neg (by omega), List.getElem?_eq_none (by omega), List.getElem?_eq_none (by omega)]

/-- A leaf is stored in its box. -/
theorem Leaf5.store {w : World} {g : Nat} {vs : Array Value} (h : Leaf5 w g) (hv : vs.size = 5) (h1 : vs.all (·.oneCell') = true) :
    (Instr.storeAt 25 (.pointer (some ⟨g, 0, none⟩)) (.agg vs)).run Try.prog w = .ok () (w.setCells g 0 vs.toList) ∧ Blk (w.setCells g 0 vs.toList) g 25 vs ∧ w.grownBy (w.setCells g 0 vs.toList) (some g) := by
  obtain ⟨cs, hb, hs⟩ := h
  have hth : w.there g 0 vs.size := fun j hj => by
    refine ⟨?_, hb.frozen _⟩
    rw [Nat.zero_add, hb.cell j, Array.getElem?_eq_getElem (by omega)]
    rfl
  obtain ⟨q1, q2⟩ := Dk.setCells_blk vs.toList 0 w g _ _ hb
  rw [leaf_cells _ _ (by simpa using hs) (by simpa using hv)] at q1
  exact ⟨run_storeAt_mid (P := Try.prog) w g 0 25 vs hth (by rw [size_leaf, hv]) h1, by simpa using q1, q2⟩

theorem store_leaf {ops : Array Oper} {rest : List Oper} {op : Oper} {a : Act} {w : World} {Q : Exit → Act → World → Prop} (free : op.guard = none) (x y : Operand) (is : op.op = .store 25 x y) (g : Nat) (vx : a.eval x = .pointer (some ⟨g, 0, none⟩)) (vs : Array Value) (vy : a.eval y = .agg vs) (h : Leaf5 w g) (hv : vs.size = 5) (h1 : vs.all (·.oneCell') = true)
    (go : ∀ w', Blk w' g 25 vs → w.grownBy w' (some g) → wpList Try.prog ops Q rest (a.put op.dst undef) w') : wpList Try.prog ops Q (op :: rest) a w := by
  refine wpList_plain free fun K hK => ?_
  obtain ⟨q0, q1, q2⟩ := h.store hv h1
  unfold Oper.wp execOp
  simp only [is, vx, vy, q0, Sem.run_bind, Sem.run_pure, Result.andThen_ok]
  exact hK _ _ (go _ q1 q2)

theorem step_store_leaf {ops : Array Oper} {o : Oper} {a : Act} {w : World} {K : Act → World → Prop} {Q : Exit → Act → World → Prop} {E : Prop} (free : o.guard = none) (x y : Operand) (is : o.op = .store 25 x y) (g : Nat) (vx : a.eval x = .pointer (some ⟨g, 0, none⟩)) (vs : Array Value) (vy : a.eval y = .agg vs) (h : Leaf5 w g) (hv : vs.size = 5) (h1 : vs.all (·.oneCell') = true)
    (go : ∀ w', Blk w' g 25 vs → w.grownBy w' (some g) → K (a.put o.dst undef) w') : if Region.wanted o (yielded ops a.tmps) = true then Oper.wp Try.prog o a w K Q else E := by
  have hw : Region.wanted o (yielded ops a.tmps) = true := by simp [Region.wanted, free]
  rw [if_pos hw]
  obtain ⟨q0, q1, q2⟩ := h.store hv h1
  unfold Oper.wp execOp
  simp only [is, vx, vy, q0, Sem.run_bind, Sem.run_pure, Result.andThen_ok]
  exact go _ q1 q2

theorem LeafC_one (e n : Nat) (f l : Bool) (A : Option Addr) (m c : Nat) : (LeafC e n f l A m c).all (·.oneCell') = true := by simp [LeafC, Value.oneCell']

/-- A new box of a leaf. -/
theorem alloc_leaf (W : World) : ∃ cs : Array Value, cs.size = 5 ∧ (Instr.alloc 25 true (.tuple #[])).run Try.prog W = .ok (.pointer (some ⟨W.heap.size, 0, none⟩)) (W.alloc (.cells cs 25)) :=
  ⟨#[.int .u32 0, .int .u32 0, .bool false, .bool false, .slice none 0 0], rfl, by kernel_rfl⟩

theorem new_leaf {ops : Array Oper} {rest : List Oper} {op : Oper} {a : Act} {w : World} {Q : Exit → Act → World → Prop} (free : op.guard = none) (is : op.op = .alloc 25)
    (go : ∀ w', Leaf5 w' w.heap.size → Below w.heap.size w w' → w'.heap.size = w.heap.size + 1 → wpList Try.prog ops Q rest (a.put op.dst (.pointer (some ⟨w.heap.size, 0, none⟩))) w') : wpList Try.prog ops Q (op :: rest) a w := by
  refine wpList_plain free fun K hK => ?_
  obtain ⟨cs, hs, hr⟩ := alloc_leaf w
  unfold Oper.wp execOp
  simp only [is, hr, Sem.run_bind, Sem.run_pure, Result.andThen_ok]
  exact hK _ _ (go _ ⟨cs, Blk.new _ _ _, hs⟩ ((Below.refl _ _).alloc (Nat.le_refl _) _) (by simp))

theorem step_new_leaf {ops : Array Oper} {o : Oper} {a : Act} {w : World} {K : Act → World → Prop} {Q : Exit → Act → World → Prop} {E : Prop} (free : o.guard = none) (is : o.op = .alloc 25)
    (go : ∀ w', Leaf5 w' w.heap.size → Below w.heap.size w w' → w'.heap.size = w.heap.size + 1 → K (a.put o.dst (.pointer (some ⟨w.heap.size, 0, none⟩))) w') : if Region.wanted o (yielded ops a.tmps) = true then Oper.wp Try.prog o a w K Q else E := by
  have hw : Region.wanted o (yielded ops a.tmps) = true := by simp [Region.wanted, free]
  rw [if_pos hw]
  obtain ⟨cs, hs, hr⟩ := alloc_leaf w
  unfold Oper.wp execOp
  simp only [is, hr, Sem.run_bind, Sem.run_pure, Result.andThen_ok]
  exact go _ ⟨cs, Blk.new _ _ _, hs⟩ ((Below.refl _ _).alloc (Nat.le_refl _) _) (by simp)

/-- Bytes are appended onto nothing, at a step of a region that draws. -/
theorem step_append_none {ops : Array Oper} {o : Oper} {a : Act} {w : World} {K : Act → World → Prop} {Q : Exit → Act → World → Prop} {E : Prop} (free : o.guard = none) (x y : Operand)
    (is : o.op = .call { callee := .builtin .append, args := #[x, y], argTypes := #[23, 23] }) (vx : a.eval x = .slice none 0 0) (M : Nat) (A : Option Addr) (m c : Nat) (d : List UInt8) (vy : a.eval y = .slice A m c) (hb : Bys w M A m d) (hA : A = none → m = 0 ∧ c = 0) (hm : m ≤ 1000000000000)
    (go : ∀ v' w', w'.ownsRow w.heap.size 5 1 v' m (cellsB d) → Below w.heap.size w w' → K (a.put o.dst v') w') : if Region.wanted o (yielded ops a.tmps) = true then Oper.wp Try.prog o a w K Q else E := by
  have hw : Region.wanted o (yielded ops a.tmps) = true := by simp [Region.wanted, free]
  rw [if_pos hw]
  obtain ⟨i0, hi0, hz0, hz1, hz2⟩ := info_parts By.info_u8
  obtain ⟨v', w', run, h2, h3, h4⟩ := By.run_append_bytes (P := Try.prog) w 23 o.type 5 w.heap.size i0 Try.underlying23 hi0 hz0 hz1 hz2 (.slice none 0 0) 0 [] (World.ownsRow_nil _ _ _ _) M A m c d hb hA (by omega) (Nat.le_refl _)
  rw [Nat.zero_add, List.nil_append] at h2
  unfold Oper.wp execOp
  simp only [is, resolve, invoke, builtin, Sem.run_bind, Sem.run_pure, Result.andThen_ok, List.map_toArray, List.map_cons, List.map_nil, vx, vy, run]
  exact go _ _ h2 ((Below.refl w.heap.size w).grown h3 (Nat.le_refl _) (fun g hg => by cases hg))

/-! ### The bits of the flags -/
theorem and_two : ∀ y : Nat, y < 256 → y &&& 2 = 2 * (y / 2 % 2) := by decide +kernel

theorem flag_one (y : Nat) (h : y < 256) : ∃ n : Nat, bits .and .u8 (y : Int) 1 = (n : Int) ∧ ((n : Int) != 0) = (y % 2 == 1) ∧ ((n : Int) == 1) = (y % 2 == 1) := by
  refine ⟨y % 2, ?_, ?_, ?_⟩
  · have := u8_and_nat y 1 h (by omega)
    rw [Nat.and_one_is_mod] at this
    exact this
  · rcases Nat.mod_two_eq_zero_or_one y with e | e <;> rw [e] <;> rfl
  · rcases Nat.mod_two_eq_zero_or_one y with e | e <;> rw [e] <;> rfl

theorem flag_two (y : Nat) (h : y < 256) : ∃ n : Nat, bits .and .u8 (y : Int) 2 = (n : Int) ∧ ((n : Int) != 0) = (y / 2 % 2 == 1) ∧ ((n : Int) == 2) = (y / 2 % 2 == 1) := by
  refine ⟨2 * (y / 2 % 2), ?_, ?_, ?_⟩
  · have := u8_and_nat y 2 h (by omega)
    rw [and_two y h] at this
    exact this
  · rcases Nat.mod_two_eq_zero_or_one (y / 2) with e | e <;> rw [e] <;> rfl
  · rcases Nat.mod_two_eq_zero_or_one (y / 2) with e | e <;> rw [e] <;> rfl

/-- A leaf is told: its data lie in memory. -/
def Told (w w' : World) (e : Ending) (L : Leaf) : Prop :=
  ∃ A c, e = .returned (.agg #[.int .u32 (L.epoch : Int), .int .u32 (L.number : Int), .bool L.first, .bool L.last, .slice A L.data.length c]) ∧ w'.ownsRow w.heap.size 5 1 (.slice A L.data.length c) L.data.length (cellsB L.data) ∧ Below w.heap.size w w'

theorem own_lower {w : World} {B B' E size n : Nat} {v : Value} {xs : List Value} (h : w.ownsRow B E size v n xs) (hb : B' ≤ B) : w.ownsRow B' E size v n xs := by
  refine ⟨h.1, ?_⟩
  rcases h.2 with h2 | ⟨g, cap, cur, hv, hg, rest⟩
  · exact .inl h2
  · exact .inr ⟨g, cap, cur, hv, Nat.le_trans hb hg, rest⟩

/-- A row of one's own, where a block below it is turned. -/
theorem own_far {w w' : World} {B E size n k : Nat} {v : Value} {xs : List Value} (h : w.ownsRow B E size v n xs) (hg : w.grownBy w' (some k)) (hk : k < B) : w'.ownsRow B E size v n xs :=
  h.kept hg (by
    cases hv : v.ownBlock with
    | none => exact .inl rfl
    | some g =>
      refine .inr fun e => ?_
      have := (h.lt g hv).1
      injection e with e
      omega)

theorem results_leaf {f : Func} {p : Tmp} {T : TypeId} (hf : f.results = #[.cell p T]) (tmps : Array Value) (w : World) (g : Nat) (vs : Array Value) (hT : T = 25) (h : Blk w g 25 vs) (hv : vs.size = 5) (hp : tmps.getD p undef = .pointer (some ⟨g, 0, none⟩)) : (results f tmps).run Try.prog w = .ok (.agg vs) w := by
  subst hT
  exact results_cell_row hf tmps w g 25 vs (0, 0) _ hp h.here Try.underlying25 rfl (by rw [size_leaf, hv])

set_option maxHeartbeats 4000000 in
theorem read_any (w : World) (s : List UInt8) (hs : s.length = 64) :
    Calls Try.prog 30 #[.agg (secCells s)] w fun e w' => Told w w' e (readB s) := by
  obtain ⟨b9, hb9⟩ : ∃ b, s[9]? = some b := ⟨_, List.getElem?_eq_getElem (by omega)⟩
  obtain ⟨b8, hb8⟩ : ∃ b, s[8]? = some b := ⟨_, List.getElem?_eq_getElem (by omega)⟩
  have l9 := b9.toNat_lt
  have l8 := b8.toNat_lt
  obtain ⟨N, hN⟩ : ∃ N, min b9.toNat 46 = N := ⟨_, rfl⟩
  have hN1 : N ≤ 46 := by omega
  have HRD : Hid (readB s = ⟨val4 (cut s 0 4), val4 (cut s 4 4), b8.toNat % 2 == 1, b8.toNat / 2 % 2 == 1, cut s 10 N⟩) := Lib.hid (by
    unfold readB
    rw [List.getD, hb8, List.getD, hb9]
    show (⟨_, _, b8.toNat % 2 == 1, b8.toNat / 2 % 2 == 1, cut s 10 (min b9.toNat 46)⟩ : Leaf) = _
    rw [hN])
  have HC : Hid ((cut s 10 N).length = N) := Lib.hid (cut_len (by omega))
  have HK0 : Hid (∀ W, Sec W w.heap.size s → Calls Try.prog 32 #[.agg (secCells s), .int .i64 0] W fun e w' => e = .returned (.int .u32 (val4 (cut s 0 4) : Int)) ∧ Below W.heap.size W w') := Lib.hid (fun W _ => number_any W 0 s hs (by omega))
  have HK1 : Hid (∀ W, Sec W w.heap.size s → Calls Try.prog 32 #[.agg (secCells s), .int .i64 4] W fun e w' => e = .returned (.int .u32 (val4 (cut s 4 4) : Int)) ∧ Below W.heap.size W w') := Lib.hid (fun W _ => number_any W 4 s hs (by omega))
  have HK2 : Hid (∀ W, Sec W w.heap.size s → Calls Try.prog 36 #[.slice (some ⟨w.heap.size, 10, none⟩) N 54] W fun e w' => ∃ A c, e = .returned (.slice A N c) ∧ w'.ownsRow W.heap.size 5 1 (.slice A N c) N (cellsB (cut s 10 N)) ∧ Below W.heap.size W w') :=
    Lib.hid (fun W hW => (By.clone_any (some ⟨w.heap.size, 10, none⟩) N 54 W.heap.size (cut s 10 N) W (part_bys hW (by omega)) (by simp) (by omega)).mono fun e w' h => by
      obtain ⟨A, c, h1, h2, h3⟩ := By.Rowed.n h HC.out
      exact ⟨A, c, h1, h2, h3⟩)
  have HS := Lib.hid hs
  have HB : Hid (∀ W, Sec W w.heap.size s → W.cell? ⟨w.heap.size, 9, none⟩ = some (.int .u8 (b9.toNat : Int)) ∧ W.cell? ⟨w.heap.size, 8, none⟩ = some (.int .u8 (b8.toNat : Int))) := Lib.hid (fun W h => ⟨by rw [h.2.cell, secCells_at, hb9]; rfl, by rw [h.2.cell, secCells_at, hb8]; rfl⟩)
  obtain ⟨x0, hx0⟩ : ∃ x, val4 (cut s 0 4) = x := ⟨_, rfl⟩
  obtain ⟨x1, hx1⟩ : ∃ x, val4 (cut s 4 4) = x := ⟨_, rfl⟩
  obtain ⟨D, hD⟩ : ∃ D, cut s 10 N = D := ⟨_, rfl⟩
  rw [hx0, hx1, hD] at HRD
  rw [hx0] at HK0
  rw [hx1] at HK1
  rw [hD] at HK2
  rw [hD] at HC
  obtain ⟨n1, p1, p3, p4⟩ := flag_one b8.toNat l8
  obtain ⟨n2, r1, r3, r4⟩ := flag_two b8.toNat l8
  obtain ⟨F, hF⟩ : ∃ F, (b8.toNat % 2 == 1) = F := ⟨_, rfl⟩
  obtain ⟨G, hG⟩ : ∃ G, (b8.toNat / 2 % 2 == 1) = G := ⟨_, rfl⟩
  rw [hF, hG] at HRD
  rw [hF] at p3
  rw [hG] at r3
  have m1 : (if (b9.toNat : Int) < 46 then (b9.toNat : Int) else 46) = (N : Int) := by split <;> omega
  have m2 : (if (46 : Int) < (b9.toNat : Int) then 46 else (b9.toNat : Int)) = (N : Int) := by split <;> omega
  have m3 : (if 46 < b9.toNat then 46 else (b9.toNat : Int)) = (N : Int) := by split <;> omega
  have hsl := fun W => part_lh w.heap.size 10 (10 + N) 10 (10 + (N : Int)) rfl (by omega) (by omega) (by omega) (by omega) W
  rw [Nat.add_sub_cancel_left] at hsl
  have n0 : (0 : Int) ≤ (N : Int) := by omega
  have n46 : (N : Int) ≤ 46 := by omega
  clear hN hx0 hx1 hD hF hG p4 r4 hb8 hb9
  generalize b8.toNat = y8 at *
  generalize b9.toNat = y9 at *
  go_enter Try.func30, Try.ntmps30
  go_wp2_with (first
    | (refine Dk.box_sec rfl _ rfl _ rfl hs ?_; intro w0 hS0 hB0 hZ0)
    | (refine new_leaf (w := w0) rfl rfl ?_; intro w1 hS1 hB1 hZ1; obtain ⟨c9, c8⟩ := HB.out w1 (Sec.below hS0 hB1)))
  have H1 := Lib.hid (show Sec w1.drew w.heap.size s ∧ Leaf5 w1.drew (w.heap.size + 1) ∧ Below w.heap.size w w1.drew from ⟨Sec_drew (Sec.below hS0 hB1), by rw [← hZ0]; exact hS1.drew, (hB0.trans (hB1.mono hB0.size)).drew⟩)
  clear hS0 hB0 hZ0 hS1 hB1 hZ1 c9 c8
  clear m1 m2 m3 l8 l9
  refine wp_region_held_drew (S := fun u => Sec u w.heap.size s ∧ Leaf5 u (w.heap.size + 1) ∧ Below w.heap.size w u) (by kernel_rfl) H1.out (fun hHeld => ?_)
  refine wpAnyH_take (i := 0) (oi := ⟨some 8, _, _, _, _, _⟩) (v := .agg (secCells s)) rfl (by kernel_rfl) (by kernel_rfl) (by kernel_rfl) (fun _ _ _ h => h) (yields_sec (by rfl) _ rfl w.heap.size rfl s (fun _ h => h.1)) (by assumption) ?_
  simp only [Act.put, List.setIfInBounds_toArray, List.set_cons_zero, List.set_cons_succ]
  refine wpAnyH_take (i := 2) (oi := ⟨some 10, _, _, _, _, _⟩) (v := .agg (secCells s)) rfl (by kernel_rfl) (by kernel_rfl) (by kernel_rfl) (fun _ _ _ h => h) (yields_sec (by rfl) _ rfl w.heap.size rfl s (fun _ h => h.1)) (by assumption) ?_
  simp only [Act.put, List.setIfInBounds_toArray, List.set_cons_zero, List.set_cons_succ]
  refine wpAnyH_take (i := 4) (oi := ⟨some 12, _, _, _, _, _⟩) (v := .pointer (some ⟨w.heap.size, 8, none⟩)) rfl (by kernel_rfl) (by kernel_rfl) (by kernel_rfl) (fun _ _ _ h => h) (Or.inl ⟨by rfl, fun wq hSw => ?_⟩) (by assumption) ?_
  · go_simp
  simp only [Act.put, List.setIfInBounds_toArray, List.set_cons_zero, List.set_cons_succ]
  refine wpAnyH_take (i := 5) (oi := ⟨some 13, _, _, _, _, _⟩) (v := .int .u8 (y8 : Int)) rfl (by kernel_rfl) (by kernel_rfl) (by kernel_rfl) (fun _ _ _ h => h) (Or.inl ⟨by rfl, fun wq hSw => ?_⟩) (by assumption) ?_
  · obtain ⟨c9, c8⟩ := HB.out wq hSw.1; go_simp
  simp only [Act.put, List.setIfInBounds_toArray, List.set_cons_zero, List.set_cons_succ]
  refine wpAnyH_take (i := 6) (oi := ⟨some 14, _, _, _, _, _⟩) (v := .int .u8 (n1 : Int)) rfl (by kernel_rfl) (by kernel_rfl) (by kernel_rfl) (fun _ _ _ h => h) (Or.inl ⟨by rfl, fun wq hSw => ?_⟩) (by assumption) ?_
  · go_simp
  simp only [Act.put, List.setIfInBounds_toArray, List.set_cons_zero, List.set_cons_succ]
  refine wpAnyH_take (i := 7) (oi := ⟨some 15, _, _, _, _, _⟩) (v := .bool F) rfl (by kernel_rfl) (by kernel_rfl) (by kernel_rfl) (fun _ _ _ h => h) (Or.inl ⟨by rfl, fun wq hSw => ?_⟩) (by assumption) ?_
  · go_simp
  simp only [Act.put, List.setIfInBounds_toArray, List.set_cons_zero, List.set_cons_succ]
  refine wpAnyH_take (i := 8) (oi := ⟨some 16, _, _, _, _, _⟩) (v := .pointer (some ⟨w.heap.size, 8, none⟩)) rfl (by kernel_rfl) (by kernel_rfl) (by kernel_rfl) (fun _ _ _ h => h) (Or.inl ⟨by rfl, fun wq hSw => ?_⟩) (by assumption) ?_
  · go_simp
  simp only [Act.put, List.setIfInBounds_toArray, List.set_cons_zero, List.set_cons_succ]
  refine wpAnyH_take (i := 9) (oi := ⟨some 17, _, _, _, _, _⟩) (v := .int .u8 (y8 : Int)) rfl (by kernel_rfl) (by kernel_rfl) (by kernel_rfl) (fun _ _ _ h => h) (Or.inl ⟨by rfl, fun wq hSw => ?_⟩) (by assumption) ?_
  · obtain ⟨c9, c8⟩ := HB.out wq hSw.1; go_simp
  simp only [Act.put, List.setIfInBounds_toArray, List.set_cons_zero, List.set_cons_succ]
  refine wpAnyH_take (i := 10) (oi := ⟨some 18, _, _, _, _, _⟩) (v := .int .u8 (n2 : Int)) rfl (by kernel_rfl) (by kernel_rfl) (by kernel_rfl) (fun _ _ _ h => h) (Or.inl ⟨by rfl, fun wq hSw => ?_⟩) (by assumption) ?_
  · go_simp
  simp only [Act.put, List.setIfInBounds_toArray, List.set_cons_zero, List.set_cons_succ]
  refine wpAnyH_take (i := 11) (oi := ⟨some 19, _, _, _, _, _⟩) (v := .bool G) rfl (by kernel_rfl) (by kernel_rfl) (by kernel_rfl) (fun _ _ _ h => h) (Or.inl ⟨by rfl, fun wq hSw => ?_⟩) (by assumption) ?_
  · go_simp
  simp only [Act.put, List.setIfInBounds_toArray, List.set_cons_zero, List.set_cons_succ]
  refine wpAnyH_take (i := 12) (oi := ⟨some 20, _, _, _, _, _⟩) (v := .int .i64 (N : Int)) rfl (by kernel_rfl) (by kernel_rfl) (by kernel_rfl) (fun _ _ _ h => h) (Or.inl ⟨by rfl, fun wq hSw => ?_⟩) (by assumption) ?_
  · go_simp
  simp only [Act.put, List.setIfInBounds_toArray, List.set_cons_zero, List.set_cons_succ]
  refine wpAnyH_take (i := 13) (oi := ⟨some 21, _, _, _, _, _⟩) (v := .int .i64 (10 + (N : Int))) rfl (by kernel_rfl) (by kernel_rfl) (by kernel_rfl) (fun _ _ _ h => h) (Or.inl ⟨by rfl, fun wq hSw => ?_⟩) (by assumption) ?_
  · (go_simp; exact IntWalk.i64_in _ (by omega))
  simp only [Act.put, List.setIfInBounds_toArray, List.set_cons_zero, List.set_cons_succ]
  refine wpAnyH_take (i := 14) (oi := ⟨some 22, _, _, _, _, _⟩) (v := .slice (some ⟨w.heap.size, 10, none⟩) N 54) rfl (by kernel_rfl) (by kernel_rfl) (by kernel_rfl) (fun _ _ _ h => h) (Or.inl ⟨by rfl, fun wq hSw => ?_⟩) (by assumption) ?_
  · go_simp
  simp only [Act.put, List.setIfInBounds_toArray, List.set_cons_zero, List.set_cons_succ]
  refine wpAnyH_ready (rs := [1]) (by kernel_rfl) (by simp) ?_
  refine AllReadyH.cons (o := ⟨some 9, _, _, _, _, _⟩) rfl (fun K hK => ?_) AllReadyH.nil
  go_simp
  refine (HK0.out _ hHeld.1).mono ?_
  rintro e w2 ⟨rfl, k2⟩
  go_wp2_with fail
  refine hK.out _ _ ⟨Sec.below hHeld.1 k2, hHeld.2.1.below k2, hHeld.2.2.trans (k2.mono hHeld.2.2.size)⟩ (fun h2 => ?_)
  clear hK K
  try simp only [Act.put, List.setIfInBounds_toArray, List.set_cons_zero, List.set_cons_succ]
  refine wpAnyH_ready (rs := [3]) (by kernel_rfl) (by simp) ?_
  refine AllReadyH.cons (o := ⟨some 11, _, _, _, _, _⟩) rfl (fun K hK => ?_) AllReadyH.nil
  go_simp
  refine (HK1.out _ h2.1).mono ?_
  rintro e w3 ⟨rfl, k3⟩
  go_wp2_with fail
  refine hK.out _ _ ⟨Sec.below h2.1 k3, h2.2.1.below k3, h2.2.2.trans (k3.mono h2.2.2.size)⟩ (fun h3 => ?_)
  clear hK K
  try simp only [Act.put, List.setIfInBounds_toArray, List.set_cons_zero, List.set_cons_succ]
  refine wpAnyH_ready (rs := [15]) (by kernel_rfl) (by simp) ?_
  refine AllReadyH.cons (o := ⟨some 23, _, _, _, _, _⟩) rfl (fun K hK => ?_) AllReadyH.nil
  go_simp
  refine (HK2.out _ h3.1).mono ?_
  rintro e w4 ⟨A, c, rfl, hY, k4⟩
  go_wp2_with fail
  refine hK.out _ _ ⟨Sec.below h3.1 k4, h3.2.1.below k4, h3.2.2.trans (k4.mono h3.2.2.size)⟩ (fun h4 => ?_)
  clear hK K
  try simp only [Act.put, List.setIfInBounds_toArray, List.set_cons_zero, List.set_cons_succ]
  refine wpAnyH_take (i := 16) (oi := ⟨some 24, _, _, _, _, _⟩) (v := .agg (LeafC x0 x1 F G A N c)) rfl (by kernel_rfl) (by kernel_rfl) (by kernel_rfl) (fun _ _ _ h => h) (Or.inl ⟨by rfl, fun wq hSw => ?_⟩) (by assumption) ?_
  · (go_simp; try rfl)
  simp only [Act.put, List.setIfInBounds_toArray, List.set_cons_zero, List.set_cons_succ]
  refine wpAnyH_ready (rs := [17]) (by kernel_rfl) (by simp) ?_
  refine AllReadyH.cons (o := ⟨none, _, _, _, _, _⟩) rfl (fun K hK => ?_) AllReadyH.nil
  refine step_store_leaf (by rfl) (.tmp 2) (.tmp 24) (by rfl) (w.heap.size + 1) (by rfl) (LeafC x0 x1 F G A N c) (by rfl) h4.2.1 rfl (LeafC_one _ _ _ _ _ _ _) ?_
  intro w5 hK5 hG5
  refine hK.out _ _ ⟨Sec.far h4.1 hG5 (by omega), ⟨_, hK5, rfl⟩, h4.2.2.grown hG5 h4.2.2.size (fun k hk => by injection hk with hk; omega)⟩ (fun h5 => ?_)
  clear hK K
  simp only [Act.put]
  refine wpAnyH_done (by kernel_rfl) ?_ _
  unfold Exit.then
  dsimp only
  go_wp2_with fail
  refine bodyPost_ret (results_leaf rfl _ w5 (w.heap.size + 1) _ rfl hK5 rfl rfl) rfl ?_
  have hYW : w5.ownsRow w.heap.size 5 1 (.slice A N c) N (cellsB D) := by
    obtain ⟨cs3, hb3, _⟩ := h3.2.1
    have hl3 := hb3.lt
    exact own_lower (own_far hY hG5 hl3) (by omega)
  refine ⟨A, c, ?_, ?_, h5.2.2⟩
  · rw [HRD.out]
    show _ = Ending.returned (.agg #[.int .u32 (x0 : Int), .int .u32 (x1 : Int), .bool F, .bool G, .slice A D.length c])
    rw [HC.out]
    rfl
  · rw [HRD.out]
    show w5.ownsRow w.heap.size 5 1 (.slice A D.length c) D.length (cellsB D)
    rw [HC.out]
    exact hYW

end Go.Proofs.Ytbicdmhmpmdoeaa.Lf
