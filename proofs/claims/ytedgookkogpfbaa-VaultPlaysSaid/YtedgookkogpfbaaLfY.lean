/- The landed read and Take. · The landed Take. · The document's Take. · What the statements of layer 7 ask with: near, two leaves held against each other, awake. -/
import Derived.Test.YtedgookkogpfbaaLfX
import Derived.Test.YtedgookkogpfbaaBa
set_option maxRecDepth 100000

section
namespace Go.Proofs.Ytedgookkogpfbaa.Lf
open Go.ChangeShapes Go.WideShapes Go.ChangeAt Go.RowKit
open Qu (Blk)
open By (Bys cellsB cellsB_length cellsB_at)
open Se (over over_length over_at noughts noughts_len)
open Dk (Sec secCells secCells_size secCells_at size_sector)
set_option linter.unusedVariables false

theorem size_leaf : (Try.prog.info? 104).map (·.size) = some 5 := by kernel_rfl

/-- A box of a leaf, whatever lies in it. -/
def Leaf5 (w : World) (g : Nat) : Prop := ∃ cs : Array Value, Blk w g 104 cs ∧ cs.size = 5

theorem Leaf5.below {w w' : World} {g : Nat} (h : Leaf5 w g) (hb : Below w.heap.size w w') : Leaf5 w' g := by
  obtain ⟨cs, h1, h2⟩ := h
  exact ⟨cs, h1.below hb, h2⟩

theorem Leaf5.drew {w : World} {g : Nat} (h : Leaf5 w g) : Leaf5 w.drew g := by
  obtain ⟨cs, h1, h2⟩ := h
  exact ⟨cs, h1.drew, h2⟩

theorem Leaf5.far {w w' : World} {g k : Nat} (h : Leaf5 w g) (hg : w.grownBy w' (some k)) (hne : g ≠ k) : Leaf5 w' g := by
  obtain ⟨cs, h1, h2⟩ := h
  exact ⟨cs, h1.grown hg (fun e => hne (by injection e)), h2⟩

theorem leaf_cells (cs : List Value) (vs : List Value) (h : cs.length = 5) (h2 : vs.length = 5) : over cs 0 vs = vs := by
  apply List.ext_getElem?
  intro k
  rw [over_at _ _ _ _ (by omega)]
  by_cases hk : k < 5
  · rw [if_pos (by omega), Nat.sub_zero]
  · rw [if_neg (by omega), List.getElem?_eq_none (by omega), List.getElem?_eq_none (by omega)]

/-- A leaf is stored in its box. -/
theorem Leaf5.store {w : World} {g : Nat} {vs : Array Value} (h : Leaf5 w g) (hv : vs.size = 5) (h1 : vs.all (·.oneCell') = true) :
    (Instr.storeAt 104 (.pointer (some ⟨g, 0, none⟩)) (.agg vs)).run Try.prog w = .ok () (w.setCells g 0 vs.toList) ∧ Blk (w.setCells g 0 vs.toList) g 104 vs ∧ w.grownBy (w.setCells g 0 vs.toList) (some g) := by
  obtain ⟨cs, hb, hs⟩ := h
  have hth : w.there g 0 vs.size := fun j hj => by
    refine ⟨?_, hb.frozen _⟩
    rw [Nat.zero_add, hb.cell j, Array.getElem?_eq_getElem (by omega)]
    rfl
  obtain ⟨q1, q2⟩ := Dk.setCells_blk vs.toList 0 w g _ _ hb
  rw [leaf_cells _ _ (by simpa using hs) (by simpa using hv)] at q1
  exact ⟨run_storeAt_mid (P := Try.prog) w g 0 104 vs hth (by rw [size_leaf, hv]) h1, by simpa using q1, q2⟩

theorem store_leaf {ops : Array Oper} {rest : List Oper} {op : Oper} {a : Act} {w : World} {Q : Exit → Act → World → Prop} (free : op.guard = none) (x y : Operand) (is : op.op = .store 104 x y) (g : Nat) (vx : a.eval x = .pointer (some ⟨g, 0, none⟩)) (vs : Array Value) (vy : a.eval y = .agg vs) (h : Leaf5 w g) (hv : vs.size = 5) (h1 : vs.all (·.oneCell') = true)
    (go : ∀ w', Blk w' g 104 vs → w.grownBy w' (some g) → wpList Try.prog ops Q rest (a.put op.dst undef) w') : wpList Try.prog ops Q (op :: rest) a w := by
  refine wpList_plain free fun K hK => ?_
  obtain ⟨q0, q1, q2⟩ := h.store hv h1
  unfold Oper.wp execOp
  simp only [is, vx, vy, q0, Sem.run_bind, Sem.run_pure, Result.andThen_ok]
  exact hK _ _ (go _ q1 q2)

theorem step_store_leaf {ops : Array Oper} {o : Oper} {a : Act} {w : World} {K : Act → World → Prop} {Q : Exit → Act → World → Prop} {E : Prop} (free : o.guard = none) (x y : Operand) (is : o.op = .store 104 x y) (g : Nat) (vx : a.eval x = .pointer (some ⟨g, 0, none⟩)) (vs : Array Value) (vy : a.eval y = .agg vs) (h : Leaf5 w g) (hv : vs.size = 5) (h1 : vs.all (·.oneCell') = true)
    (go : ∀ w', Blk w' g 104 vs → w.grownBy w' (some g) → K (a.put o.dst undef) w') : if Region.wanted o (yielded ops a.tmps) = true then Oper.wp Try.prog o a w K Q else E := by
  have hw : Region.wanted o (yielded ops a.tmps) = true := by simp [Region.wanted, free]
  rw [if_pos hw]
  obtain ⟨q0, q1, q2⟩ := h.store hv h1
  unfold Oper.wp execOp
  simp only [is, vx, vy, q0, Sem.run_bind, Sem.run_pure, Result.andThen_ok]
  exact go _ q1 q2

theorem LeafC_one (e n : Nat) (f l : Bool) (A : Option Addr) (m c : Nat) : (LeafC e n f l A m c).all (·.oneCell') = true := by simp [LeafC, Value.oneCell']

/-- A new box of a leaf. -/
theorem alloc_leaf (W : World) : ∃ cs : Array Value, cs.size = 5 ∧ (Instr.alloc 104 true (.tuple #[])).run Try.prog W = .ok (.pointer (some ⟨W.heap.size, 0, none⟩)) (W.alloc (.cells cs 104)) :=
  ⟨#[.int .u32 0, .int .u32 0, .bool false, .bool false, .slice none 0 0], rfl, by kernel_rfl⟩

theorem new_leaf {ops : Array Oper} {rest : List Oper} {op : Oper} {a : Act} {w : World} {Q : Exit → Act → World → Prop} (free : op.guard = none) (is : op.op = .alloc 104)
    (go : ∀ w', Leaf5 w' w.heap.size → Below w.heap.size w w' → w'.heap.size = w.heap.size + 1 → wpList Try.prog ops Q rest (a.put op.dst (.pointer (some ⟨w.heap.size, 0, none⟩))) w') : wpList Try.prog ops Q (op :: rest) a w := by
  refine wpList_plain free fun K hK => ?_
  obtain ⟨cs, hs, hr⟩ := alloc_leaf w
  unfold Oper.wp execOp
  simp only [is, hr, Sem.run_bind, Sem.run_pure, Result.andThen_ok]
  exact hK _ _ (go _ ⟨cs, Blk.new _ _ _, hs⟩ ((Below.refl _ _).alloc (Nat.le_refl _) _) (by simp))

theorem step_new_leaf {ops : Array Oper} {o : Oper} {a : Act} {w : World} {K : Act → World → Prop} {Q : Exit → Act → World → Prop} {E : Prop} (free : o.guard = none) (is : o.op = .alloc 104)
    (go : ∀ w', Leaf5 w' w.heap.size → Below w.heap.size w w' → w'.heap.size = w.heap.size + 1 → K (a.put o.dst (.pointer (some ⟨w.heap.size, 0, none⟩))) w') : if Region.wanted o (yielded ops a.tmps) = true then Oper.wp Try.prog o a w K Q else E := by
  have hw : Region.wanted o (yielded ops a.tmps) = true := by simp [Region.wanted, free]
  rw [if_pos hw]
  obtain ⟨cs, hs, hr⟩ := alloc_leaf w
  unfold Oper.wp execOp
  simp only [is, hr, Sem.run_bind, Sem.run_pure, Result.andThen_ok]
  exact go _ ⟨cs, Blk.new _ _ _, hs⟩ ((Below.refl _ _).alloc (Nat.le_refl _) _) (by simp)

/-- Bytes are appended onto nothing, at a step of a region that draws. -/
theorem step_append_none {ops : Array Oper} {o : Oper} {a : Act} {w : World} {K : Act → World → Prop} {Q : Exit → Act → World → Prop} {E : Prop} (free : o.guard = none) (x y : Operand)
    (is : o.op = .call { callee := .builtin .append, args := #[x, y], argTypes := #[37, 37] }) (vx : a.eval x = .slice none 0 0) (M : Nat) (A : Option Addr) (m c : Nat) (d : List UInt8) (vy : a.eval y = .slice A m c) (hb : Bys w M A m d) (hA : A = none → m = 0 ∧ c = 0) (hm : m ≤ 1000000000000)
    (go : ∀ v' w', w'.ownsRow w.heap.size 5 1 v' m (cellsB d) → Below w.heap.size w w' → K (a.put o.dst v') w') : if Region.wanted o (yielded ops a.tmps) = true then Oper.wp Try.prog o a w K Q else E := by
  have hw : Region.wanted o (yielded ops a.tmps) = true := by simp [Region.wanted, free]
  rw [if_pos hw]
  obtain ⟨i0, hi0, hz0, hz1, hz2⟩ := info_parts By.info_u8
  obtain ⟨v', w', run, h2, h3, h4⟩ := By.run_append_bytes (P := Try.prog) w 37 o.type 5 w.heap.size i0 Try.underlying37 hi0 hz0 hz1 hz2 (.slice none 0 0) 0 [] (World.ownsRow_nil _ _ _ _) M A m c d hb hA (by omega) (Nat.le_refl _)
  rw [Nat.zero_add, List.nil_append] at h2
  unfold Oper.wp execOp
  simp only [is, resolve, invoke, builtin, Sem.run_bind, Sem.run_pure, Result.andThen_ok, List.map_toArray, List.map_cons, List.map_nil, vx, vy, run]
  exact go _ _ h2 ((Below.refl w.heap.size w).grown h3 (Nat.le_refl _) (fun g hg => by cases hg))

/-! ### The bits of the flags -/
theorem and_two : ∀ y : Nat, y < 256 → y &&& 2 = 2 * (y / 2 % 2) := by decide +kernel

theorem flag_one (y : Nat) (h : y < 256) : ∃ n : Nat, bits .and .u8 (y : Int) 1 = (n : Int) ∧ ((n : Int) != 0) = (y % 2 == 1) ∧ ((n : Int) == 1) = (y % 2 == 1) := by
  refine ⟨y % 2, ?_, ?_, ?_⟩
  · have := u8_and_nat y 1 h (by omega)
    rw [Nat.and_one_is_mod] at this
    exact this
  · rcases Nat.mod_two_eq_zero_or_one y with e | e <;> rw [e] <;> rfl
  · rcases Nat.mod_two_eq_zero_or_one y with e | e <;> rw [e] <;> rfl

theorem flag_two (y : Nat) (h : y < 256) : ∃ n : Nat, bits .and .u8 (y : Int) 2 = (n : Int) ∧ ((n : Int) != 0) = (y / 2 % 2 == 1) ∧ ((n : Int) == 2) = (y / 2 % 2 == 1) := by
  refine ⟨2 * (y / 2 % 2), ?_, ?_, ?_⟩
  · have := u8_and_nat y 2 h (by omega)
    rw [and_two y h] at this
    exact this
  · rcases Nat.mod_two_eq_zero_or_one (y / 2) with e | e <;> rw [e] <;> rfl
  · rcases Nat.mod_two_eq_zero_or_one (y / 2) with e | e <;> rw [e] <;> rfl

/-- A leaf is told: its data lie in memory. -/
def Told (w w' : World) (e : Ending) (L : Leaf) : Prop :=
  ∃ A c, e = .returned (.agg #[.int .u32 (L.epoch : Int), .int .u32 (L.number : Int), .bool L.first, .bool L.last, .slice A L.data.length c]) ∧ w'.ownsRow w.heap.size 5 1 (.slice A L.data.length c) L.data.length (cellsB L.data) ∧ Below w.heap.size w w'

theorem own_lower {w : World} {B B' E size n : Nat} {v : Value} {xs : List Value} (h : w.ownsRow B E size v n xs) (hb : B' ≤ B) : w.ownsRow B' E size v n xs := by
  refine ⟨h.1, ?_⟩
  rcases h.2 with h2 | ⟨g, cap, cur, hv, hg, rest⟩
  · exact .inl h2
  · exact .inr ⟨g, cap, cur, hv, Nat.le_trans hb hg, rest⟩

/-- A row of one's own, where a block below it is turned. -/
theorem own_far {w w' : World} {B E size n k : Nat} {v : Value} {xs : List Value} (h : w.ownsRow B E size v n xs) (hg : w.grownBy w' (some k)) (hk : k < B) : w'.ownsRow B E size v n xs :=
  h.kept hg (by
    cases hv : v.ownBlock with
    | none => exact .inl rfl
    | some g =>
      refine .inr fun e => ?_
      have := (h.lt g hv).1
      injection e with e
      omega)

theorem results_leaf {f : Func} {p : Tmp} {T : TypeId} (hf : f.results = #[.cell p T]) (tmps : Array Value) (w : World) (g : Nat) (vs : Array Value) (hT : T = 104) (h : Blk w g 104 vs) (hv : vs.size = 5) (hp : tmps.getD p undef = .pointer (some ⟨g, 0, none⟩)) : (results f tmps).run Try.prog w = .ok (.agg vs) w := by
  subst hT
  exact results_cell_row hf tmps w g 104 vs (0, 0) _ hp h.here Try.underlying104 rfl (by rw [size_leaf, hv])

set_option maxHeartbeats 4000000 in
theorem read_any (w : World) (s : List UInt8) (hs : s.length = 64) :
    Calls Try.prog 91 #[.agg (secCells s)] w fun e w' => Told w w' e (readB s) := by
  obtain ⟨b9, hb9⟩ : ∃ b, s[9]? = some b := ⟨_, List.getElem?_eq_getElem (by omega)⟩
  obtain ⟨b8, hb8⟩ : ∃ b, s[8]? = some b := ⟨_, List.getElem?_eq_getElem (by omega)⟩
  have l9 := b9.toNat_lt
  have l8 := b8.toNat_lt
  obtain ⟨N, hN⟩ : ∃ N, min b9.toNat 46 = N := ⟨_, rfl⟩
  have hN1 : N ≤ 46 := by omega
  have HRD : Hid (readB s = ⟨val4 (cut s 0 4), val4 (cut s 4 4), b8.toNat % 2 == 1, b8.toNat / 2 % 2 == 1, cut s 10 N⟩) := Lib.hid (by
    unfold readB
    rw [List.getD, hb8, List.getD, hb9]
    show (⟨_, _, b8.toNat % 2 == 1, b8.toNat / 2 % 2 == 1, cut s 10 (min b9.toNat 46)⟩ : Leaf) = _
    rw [hN])
  have HC : Hid ((cut s 10 N).length = N) := Lib.hid (cut_len (by omega))
  have HK0 : Hid (∀ W, Sec W w.heap.size s → Calls Try.prog 74 #[.agg (secCells s), .int .i64 0] W fun e w' => e = .returned (.int .u32 (val4 (cut s 0 4) : Int)) ∧ Below W.heap.size W w') := Lib.hid (fun W _ => number_any W 0 s hs (by omega))
  have HK1 : Hid (∀ W, Sec W w.heap.size s → Calls Try.prog 74 #[.agg (secCells s), .int .i64 4] W fun e w' => e = .returned (.int .u32 (val4 (cut s 4 4) : Int)) ∧ Below W.heap.size W w') := Lib.hid (fun W _ => number_any W 4 s hs (by omega))
  have HK2 : Hid (∀ W, Sec W w.heap.size s → Calls Try.prog 72 #[.slice (some ⟨w.heap.size, 10, none⟩) N 54] W fun e w' => ∃ A c, e = .returned (.slice A N c) ∧ w'.ownsRow W.heap.size 5 1 (.slice A N c) N (cellsB (cut s 10 N)) ∧ Below W.heap.size W w') :=
    Lib.hid (fun W hW => (By.clone_any (some ⟨w.heap.size, 10, none⟩) N 54 W.heap.size (cut s 10 N) W (part_bys hW (by omega)) (by simp) (by omega)).mono fun e w' h => by
      obtain ⟨A, c, h1, h2, h3⟩ := By.Rowed.n h HC.out
      exact ⟨A, c, h1, h2, h3⟩)
  have HS := Lib.hid hs
  have HB : Hid (∀ W, Sec W w.heap.size s → W.cell? ⟨w.heap.size, 9, none⟩ = some (.int .u8 (b9.toNat : Int)) ∧ W.cell? ⟨w.heap.size, 8, none⟩ = some (.int .u8 (b8.toNat : Int))) := Lib.hid (fun W h => ⟨by rw [h.2.cell, secCells_at, hb9]; rfl, by rw [h.2.cell, secCells_at, hb8]; rfl⟩)
  obtain ⟨x0, hx0⟩ : ∃ x, val4 (cut s 0 4) = x := ⟨_, rfl⟩
  obtain ⟨x1, hx1⟩ : ∃ x, val4 (cut s 4 4) = x := ⟨_, rfl⟩
  obtain ⟨D, hD⟩ : ∃ D, cut s 10 N = D := ⟨_, rfl⟩
  rw [hx0, hx1, hD] at HRD
  rw [hx0] at HK0
  rw [hx1] at HK1
  rw [hD] at HK2
  rw [hD] at HC
  obtain ⟨n1, p1, p3, p4⟩ := flag_one b8.toNat l8
  obtain ⟨n2, r1, r3, r4⟩ := flag_two b8.toNat l8
  obtain ⟨F, hF⟩ : ∃ F, (b8.toNat % 2 == 1) = F := ⟨_, rfl⟩
  obtain ⟨G, hG⟩ : ∃ G, (b8.toNat / 2 % 2 == 1) = G := ⟨_, rfl⟩
  rw [hF, hG] at HRD
  rw [hF] at p3
  rw [hG] at r3
  have m1 : (if (b9.toNat : Int) < 46 then (b9.toNat : Int) else 46) = (N : Int) := by split <;> omega
  have m2 : (if (46 : Int) < (b9.toNat : Int) then 46 else (b9.toNat : Int)) = (N : Int) := by split <;> omega
  have m3 : (if 46 < b9.toNat then 46 else (b9.toNat : Int)) = (N : Int) := by split <;> omega
  have hsl := fun W => part_lh w.heap.size 10 (10 + N) 10 (10 + (N : Int)) rfl (by omega) (by omega) (by omega) (by omega) W
  rw [Nat.add_sub_cancel_left] at hsl
  have n0 : (0 : Int) ≤ (N : Int) := by omega
  have n46 : (N : Int) ≤ 46 := by omega
  clear hN hx0 hx1 hD hF hG p4 r4 hb8 hb9
  generalize b8.toNat = y8 at *
  generalize b9.toNat = y9 at *
  go_enter Try.func91, Try.ntmps91
  go_wp2_with (first
    | (refine Dk.box_sec rfl _ rfl _ rfl hs ?_; intro w0 hS0 hB0 hZ0)
    | (refine new_leaf (w := w0) rfl rfl ?_; intro w1 hS1 hB1 hZ1; obtain ⟨c9, c8⟩ := HB.out w1 (Sec.below hS0 hB1)))
  have H1 := Lib.hid (show Sec w1.drew w.heap.size s ∧ Leaf5 w1.drew (w.heap.size + 1) ∧ Below w.heap.size w w1.drew from ⟨Sec_drew (Sec.below hS0 hB1), by rw [← hZ0]; exact hS1.drew, (hB0.trans (hB1.mono hB0.size)).drew⟩)
  clear hS0 hB0 hZ0 hS1 hB1 hZ1 c9 c8
  clear m1 m2 m3 l8 l9
  refine wp_region_held_drew (S := fun u => Sec u w.heap.size s ∧ Leaf5 u (w.heap.size + 1) ∧ Below w.heap.size w u) (by kernel_rfl) H1.out (fun hHeld => ?_)
  refine wpAnyH_take (i := 0) (oi := ⟨some 8, _, _, _, _, _⟩) (v := .agg (secCells s)) rfl (by kernel_rfl) (by kernel_rfl) (by kernel_rfl) (fun _ _ _ h => h) (yields_sec (by rfl) _ rfl w.heap.size rfl s (fun _ h => h.1)) (by assumption) ?_
  simp only [Act.put, List.setIfInBounds_toArray, List.set_cons_zero, List.set_cons_succ]
  refine wpAnyH_take (i := 2) (oi := ⟨some 10, _, _, _, _, _⟩) (v := .agg (secCells s)) rfl (by kernel_rfl) (by kernel_rfl) (by kernel_rfl) (fun _ _ _ h => h) (yields_sec (by rfl) _ rfl w.heap.size rfl s (fun _ h => h.1)) (by assumption) ?_
  simp only [Act.put, List.setIfInBounds_toArray, List.set_cons_zero, List.set_cons_succ]
  refine wpAnyH_take (i := 4) (oi := ⟨some 12, _, _, _, _, _⟩) (v := .pointer (some ⟨w.heap.size, 8, none⟩)) rfl (by kernel_rfl) (by kernel_rfl) (by kernel_rfl) (fun _ _ _ h => h) (Or.inl ⟨by rfl, fun wq hSw => ?_⟩) (by assumption) ?_
  · go_simp
  simp only [Act.put, List.setIfInBounds_toArray, List.set_cons_zero, List.set_cons_succ]
  refine wpAnyH_take (i := 5) (oi := ⟨some 13, _, _, _, _, _⟩) (v := .int .u8 (y8 : Int)) rfl (by kernel_rfl) (by kernel_rfl) (by kernel_rfl) (fun _ _ _ h => h) (Or.inl ⟨by rfl, fun wq hSw => ?_⟩) (by assumption) ?_
  · obtain ⟨c9, c8⟩ := HB.out wq hSw.1; go_simp
  simp only [Act.put, List.setIfInBounds_toArray, List.set_cons_zero, List.set_cons_succ]
  refine wpAnyH_take (i := 6) (oi := ⟨some 14, _, _, _, _, _⟩) (v := .int .u8 (n1 : Int)) rfl (by kernel_rfl) (by kernel_rfl) (by kernel_rfl) (fun _ _ _ h => h) (Or.inl ⟨by rfl, fun wq hSw => ?_⟩) (by assumption) ?_
  · go_simp
  simp only [Act.put, List.setIfInBounds_toArray, List.set_cons_zero, List.set_cons_succ]
  refine wpAnyH_take (i := 7) (oi := ⟨some 15, _, _, _, _, _⟩) (v := .bool F) rfl (by kernel_rfl) (by kernel_rfl) (by kernel_rfl) (fun _ _ _ h => h) (Or.inl ⟨by rfl, fun wq hSw => ?_⟩) (by assumption) ?_
  · go_simp
  simp only [Act.put, List.setIfInBounds_toArray, List.set_cons_zero, List.set_cons_succ]
  refine wpAnyH_take (i := 8) (oi := ⟨some 16, _, _, _, _, _⟩) (v := .pointer (some ⟨w.heap.size, 8, none⟩)) rfl (by kernel_rfl) (by kernel_rfl) (by kernel_rfl) (fun _ _ _ h => h) (Or.inl ⟨by rfl, fun wq hSw => ?_⟩) (by assumption) ?_
  · go_simp
  simp only [Act.put, List.setIfInBounds_toArray, List.set_cons_zero, List.set_cons_succ]
  refine wpAnyH_take (i := 9) (oi := ⟨some 17, _, _, _, _, _⟩) (v := .int .u8 (y8 : Int)) rfl (by kernel_rfl) (by kernel_rfl) (by kernel_rfl) (fun _ _ _ h => h) (Or.inl ⟨by rfl, fun wq hSw => ?_⟩) (by assumption) ?_
  · obtain ⟨c9, c8⟩ := HB.out wq hSw.1; go_simp
  simp only [Act.put, List.setIfInBounds_toArray, List.set_cons_zero, List.set_cons_succ]
  refine wpAnyH_take (i := 10) (oi := ⟨some 18, _, _, _, _, _⟩) (v := .int .u8 (n2 : Int)) rfl (by kernel_rfl) (by kernel_rfl) (by kernel_rfl) (fun _ _ _ h => h) (Or.inl ⟨by rfl, fun wq hSw => ?_⟩) (by assumption) ?_
  · go_simp
  simp only [Act.put, List.setIfInBounds_toArray, List.set_cons_zero, List.set_cons_succ]
  refine wpAnyH_take (i := 11) (oi := ⟨some 19, _, _, _, _, _⟩) (v := .bool G) rfl (by kernel_rfl) (by kernel_rfl) (by kernel_rfl) (fun _ _ _ h => h) (Or.inl ⟨by rfl, fun wq hSw => ?_⟩) (by assumption) ?_
  · go_simp
  simp only [Act.put, List.setIfInBounds_toArray, List.set_cons_zero, List.set_cons_succ]
  refine wpAnyH_take (i := 12) (oi := ⟨some 20, _, _, _, _, _⟩) (v := .int .i64 (N : Int)) rfl (by kernel_rfl) (by kernel_rfl) (by kernel_rfl) (fun _ _ _ h => h) (Or.inl ⟨by rfl, fun wq hSw => ?_⟩) (by assumption) ?_
  · go_simp
  simp only [Act.put, List.setIfInBounds_toArray, List.set_cons_zero, List.set_cons_succ]
  refine wpAnyH_take (i := 13) (oi := ⟨some 21, _, _, _, _, _⟩) (v := .int .i64 (10 + (N : Int))) rfl (by kernel_rfl) (by kernel_rfl) (by kernel_rfl) (fun _ _ _ h => h) (Or.inl ⟨by rfl, fun wq hSw => ?_⟩) (by assumption) ?_
  · (go_simp; exact IntWalk.i64_in _ (by omega))
  simp only [Act.put, List.setIfInBounds_toArray, List.set_cons_zero, List.set_cons_succ]
  refine wpAnyH_take (i := 14) (oi := ⟨some 22, _, _, _, _, _⟩) (v := .slice (some ⟨w.heap.size, 10, none⟩) N 54) rfl (by kernel_rfl) (by kernel_rfl) (by kernel_rfl) (fun _ _ _ h => h) (Or.inl ⟨by rfl, fun wq hSw => ?_⟩) (by assumption) ?_
  · go_simp
  simp only [Act.put, List.setIfInBounds_toArray, List.set_cons_zero, List.set_cons_succ]
  refine wpAnyH_ready (rs := [1]) (by kernel_rfl) (by simp) ?_
  refine AllReadyH.cons (o := ⟨some 9, _, _, _, _, _⟩) rfl (fun K hK => ?_) AllReadyH.nil
  go_simp
  refine (HK0.out _ hHeld.1).mono ?_
  rintro e w2 ⟨rfl, k2⟩
  go_wp2_with fail
  refine hK.out _ _ ⟨Sec.below hHeld.1 k2, hHeld.2.1.below k2, hHeld.2.2.trans (k2.mono hHeld.2.2.size)⟩ (fun h2 => ?_)
  clear hK K
  try simp only [Act.put, List.setIfInBounds_toArray, List.set_cons_zero, List.set_cons_succ]
  refine wpAnyH_ready (rs := [3]) (by kernel_rfl) (by simp) ?_
  refine AllReadyH.cons (o := ⟨some 11, _, _, _, _, _⟩) rfl (fun K hK => ?_) AllReadyH.nil
  go_simp
  refine (HK1.out _ h2.1).mono ?_
  rintro e w3 ⟨rfl, k3⟩
  go_wp2_with fail
  refine hK.out _ _ ⟨Sec.below h2.1 k3, h2.2.1.below k3, h2.2.2.trans (k3.mono h2.2.2.size)⟩ (fun h3 => ?_)
  clear hK K
  try simp only [Act.put, List.setIfInBounds_toArray, List.set_cons_zero, List.set_cons_succ]
  refine wpAnyH_ready (rs := [15]) (by kernel_rfl) (by simp) ?_
  refine AllReadyH.cons (o := ⟨some 23, _, _, _, _, _⟩) rfl (fun K hK => ?_) AllReadyH.nil
  go_simp
  refine (HK2.out _ h3.1).mono ?_
  rintro e w4 ⟨A, c, rfl, hY, k4⟩
  go_wp2_with fail
  refine hK.out _ _ ⟨Sec.below h3.1 k4, h3.2.1.below k4, h3.2.2.trans (k4.mono h3.2.2.size)⟩ (fun h4 => ?_)
  clear hK K
  try simp only [Act.put, List.setIfInBounds_toArray, List.set_cons_zero, List.set_cons_succ]
  refine wpAnyH_take (i := 16) (oi := ⟨some 24, _, _, _, _, _⟩) (v := .agg (LeafC x0 x1 F G A N c)) rfl (by kernel_rfl) (by kernel_rfl) (by kernel_rfl) (fun _ _ _ h => h) (Or.inl ⟨by rfl, fun wq hSw => ?_⟩) (by assumption) ?_
  · (go_simp; try rfl)
  simp only [Act.put, List.setIfInBounds_toArray, List.set_cons_zero, List.set_cons_succ]
  refine wpAnyH_ready (rs := [17]) (by kernel_rfl) (by simp) ?_
  refine AllReadyH.cons (o := ⟨none, _, _, _, _, _⟩) rfl (fun K hK => ?_) AllReadyH.nil
  refine step_store_leaf (by rfl) (.tmp 2) (.tmp 24) (by rfl) (w.heap.size + 1) (by rfl) (LeafC x0 x1 F G A N c) (by rfl) h4.2.1 rfl (LeafC_one _ _ _ _ _ _ _) ?_
  intro w5 hK5 hG5
  refine hK.out _ _ ⟨Sec.far h4.1 hG5 (by omega), ⟨_, hK5, rfl⟩, h4.2.2.grown hG5 h4.2.2.size (fun k hk => by injection hk with hk; omega)⟩ (fun h5 => ?_)
  clear hK K
  simp only [Act.put]
  refine wpAnyH_done (by kernel_rfl) ?_ _
  unfold Exit.then
  dsimp only
  go_wp2_with fail
  refine bodyPost_ret (results_leaf rfl _ w5 (w.heap.size + 1) _ rfl hK5 rfl rfl) rfl ?_
  have hYW : w5.ownsRow w.heap.size 5 1 (.slice A N c) N (cellsB D) := by
    obtain ⟨cs3, hb3, _⟩ := h3.2.1
    have hl3 := hb3.lt
    exact own_lower (own_far hY hG5 hl3) (by omega)
  refine ⟨A, c, ?_, ?_, h5.2.2⟩
  · rw [HRD.out]
    show _ = Ending.returned (.agg #[.int .u32 (x0 : Int), .int .u32 (x1 : Int), .bool F, .bool G, .slice A D.length c])
    rw [HC.out]
    rfl
  · rw [HRD.out]
    show w5.ownsRow w.heap.size 5 1 (.slice A D.length c) D.length (cellsB D)
    rw [HC.out]
    exact hYW

end Go.Proofs.Ytedgookkogpfbaa.Lf
end

section
namespace Go.Proofs.Ytedgookkogpfbaa.Lf
open Go.ChangeShapes Go.WideShapes Go.ChangeAt Go.RowKit
open Qu (Blk)
open By (Bys cellsB cellsB_length cellsB_at)
open Se (over over_length over_at noughts noughts_len)
open Dk (Sec secCells secCells_size secCells_at size_sector)
set_option linter.unusedVariables false

/-- What Take tells of 64 bytes. -/
def Took (w w' : World) (e : Ending) (s : List UInt8) : Prop :=
  if takesB s then ∃ A c, e = .returned (.tuple #[.agg #[.int .u32 ((readB s).epoch : Int), .int .u32 ((readB s).number : Int), .bool (readB s).first, .bool (readB s).last, .slice A (readB s).data.length c], .bool true]) ∧ w'.ownsRow w.heap.size 5 1 (.slice A (readB s).data.length c) (readB s).data.length (cellsB (readB s).data) ∧ Below w.heap.size w w'
  else e = .returned (.tuple #[.agg #[.int .u32 0, .int .u32 0, .bool false, .bool false, .slice none 0 0], .bool false]) ∧ Below w.heap.size w w'

theorem two_leaf {f : Func} {p u : Tmp} {T : TypeId} (hf : f.results = #[.cell p T, .tmp u]) (tmps : Array Value) (w : World) (g : Nat) (vs : Array Value) (v : Value) (hT : T = 104) (h : Blk w g 104 vs) (hz : vs.size = 5) (hp : tmps.getD p undef = .pointer (some ⟨g, 0, none⟩)) (hv : tmps.getD u undef = v) : (results f tmps).run Try.prog w = .ok (.tuple #[.agg vs, v]) w := by
  subst hT
  have hl := run_loadVar_row (P := Try.prog) w g 104 104 vs (0, 0) _ h.here Try.underlying104 rfl (by rw [size_leaf, hz])
  rw [results_cell_tmp hf, hp, hv]
  simp only [asAddr, Sem.run_pure, Result.andThen_ok, hl]

/-- A leaf is read out of its box. -/
theorem load_leaf {ops : Array Oper} {rest : List Oper} {op : Oper} {a : Act} {w : World} {Q : Exit → Act → World → Prop} (free : op.guard = none) (x : Operand) (is : op.op = .load 104 x) (g : Nat) (vx : a.eval x = .pointer (some ⟨g, 0, none⟩)) (vs : Array Value) (h : Blk w g 104 vs) (hz : vs.size = 5)
    (go : wpList Try.prog ops Q rest (a.put op.dst (.agg vs)) w) : wpList Try.prog ops Q (op :: rest) a w := by
  refine wpList_plain free fun K hK => ?_
  have hl := run_loadVar_row (P := Try.prog) w g 104 104 vs (0, 0) _ h.here Try.underlying104 rfl (by rw [size_leaf, hz])
  unfold Oper.wp execOp
  simp only [is, vx, Instr.loadAt, Instr.sureAddr, hl, Sem.run_bind, Sem.run_pure, Result.andThen_ok]
  exact hK _ _ go

/-- A leaf of noughts. -/
def ZeroC : Array Value := #[.int .u32 0, .int .u32 0, .bool false, .bool false, .slice none 0 0]

theorem build_leaf (W : World) : (Instr.build 104 #[]).run Try.prog W = .ok (.agg ZeroC) W := by kernel_rfl

theorem ZeroC_one : ZeroC.all (·.oneCell') = true := by simp [ZeroC, Value.oneCell']

theorem zero_leaf {ops : Array Oper} {rest : List Oper} {op : Oper} {a : Act} {w : World} {Q : Exit → Act → World → Prop} (free : op.guard = none) (is : op.op = .build 104 #[])
    (go : wpList Try.prog ops Q rest (a.put op.dst (.agg ZeroC)) w) : wpList Try.prog ops Q (op :: rest) a w := by
  refine wpList_plain free fun K hK => ?_
  unfold Oper.wp execOp
  simp only [is, build_leaf, Sem.run_bind, Sem.run_pure, Result.andThen_ok, Array.map_empty]
  exact hK _ _ go

set_option maxHeartbeats 4000000 in
theorem take_any (w : World) (s : List UInt8) (hs : s.length = 64) :
    Calls Try.prog 85 #[.agg (secCells s)] w fun e w' => Took w w' e s := by
  obtain ⟨L, hL⟩ : ∃ L, readB s = L := ⟨_, rfl⟩
  have he : L.epoch < 2 ^ 32 := by rw [← hL]; exact read_epoch s hs
  have hn : L.number < 2 ^ 32 := by rw [← hL]; exact read_number s hs
  have HL := Lib.hid hL
  have HE := Lib.hid (And.intro he hn)
  have hsl := layV_len L
  have HT : Hid (takesB s = (rightB L && (layB L == s))) := Lib.hid (by unfold takesB; rw [hL])
  clear he hn hL
  go_enter Try.func85, Try.ntmps85
  go_wp2_with (first
    | (refine Dk.box_sec rfl _ rfl _ rfl hs ?_; intro w0 hS0 hB0 hZ0)
    | (refine new_leaf (w := w0) rfl rfl ?_; intro w1 hS1 hB1 hZ1)
    | ((with_reducible refine Dk.load_sec (w := w1) (op := ⟨some 7, _, _, _, _, _⟩) ?_ (.tmp 1) ?_ _ ?_ _ (Sec.below hS0 hB1) ?_); (next => rfl); (next => rfl); (next => rfl)))
  have H1 := Lib.hid (show Sec w1 w.heap.size s ∧ Leaf5 w1 (w.heap.size + 1) ∧ Below w.heap.size w w1 ∧ w.heap.size + 1 < w1.heap.size from ⟨Sec.below hS0 hB1, by rw [← hZ0]; exact hS1, hB0.trans (hB1.mono hB0.size), by omega⟩)
  clear hS0 hB0 hZ0 hS1 hB1 hZ1
  refine (read_any w1 s hs).mono ?_
  rintro e w2 ⟨A, c, rfl, hY, k2⟩
  rw [HL.out] at hY ⊢
  have H2 := Lib.hid (show Sec w2 w.heap.size s ∧ Leaf5 w2 (w.heap.size + 1) ∧ Below w.heap.size w w2 ∧ w.heap.size + 1 < w2.heap.size from ⟨Sec.below H1.out.1 k2, H1.out.2.1.below k2, H1.out.2.2.1.trans (k2.mono H1.out.2.2.1.size), by have := k2.size; have := H1.out.2.2.2; omega⟩)
  have HY := Lib.hid (own_lower hY (show w.heap.size + 2 ≤ w1.heap.size by have := H1.out.2.2.2; omega))
  clear hY k2 H1
  go_wp2_with (first
    | (refine new_leaf (w := w2) rfl rfl ?_; intro w3 hS3 hB3 hZ3)
    | (refine store_leaf (w := w3) rfl _ _ rfl _ rfl (LeafC L.epoch L.number L.first L.last A L.data.length c) rfl hS3 rfl (LeafC_one _ _ _ _ _ _ _) ?_; intro w4 hK4 hG4)
    | ((with_reducible refine load_leaf (w := w4) (op := ⟨some 10, _, _, _, _, _⟩) ?_ (.tmp 4) ?_ _ ?_ _ hK4 ?_ ?_); (next => rfl); (next => rfl); (next => rfl); (next => rfl)))
  obtain ⟨g4, hg4⟩ : ∃ g4, w2.heap.size = g4 := ⟨_, rfl⟩
  rw [hg4] at hK4 hG4 hS3
  have H4 := Lib.hid (show Sec w4 w.heap.size s ∧ Leaf5 w4 (w.heap.size + 1) ∧ Blk w4 g4 104 (LeafC L.epoch L.number L.first L.last A L.data.length c) ∧ Below w.heap.size w w4 ∧ w.heap.size + 1 < g4 from by
    have hl := H2.out.2.2.2
    obtain ⟨cs, hb5, hz5⟩ := H2.out.2.1.below hB3
    exact ⟨Sec.far (Sec.below H2.out.1 hB3) hG4 (by omega), ⟨cs, hb5.grown hG4 (fun e => by injection e with e; omega), hz5⟩, hK4, (H2.out.2.2.1.trans (hB3.mono H2.out.2.2.1.size)).grown hG4 (by have := hB3.size; have := H2.out.2.2.1.size; omega) (fun k hk => by injection hk with hk; omega), by omega⟩)
  have HY4 : Hid (w4.ownsRow (w.heap.size + 2) 5 1 (.slice A L.data.length c) L.data.length (cellsB L.data)) := Lib.hid (
    (Qu.row_below HY.out hB3).kept hG4 (by
      cases hv : (Value.slice A L.data.length c).ownBlock with
      | none => exact .inl rfl
      | some g =>
        refine .inr fun e => ?_
        have := (HY.out.lt g hv).2
        injection e with e
        omega))
  rw [hg4]
  clear hS3 hB3 hZ3 hK4 hG4 hg4 H2 HY
  refine (lay_any w4 L.epoch L.number L.data.length c L.first L.last A L.data (Bys.own HY4.out) HE.out.1 HE.out.2).mono ?_
  rintro e w5 ⟨rfl, k5⟩
  have eL : (⟨L.epoch, L.number, L.first, L.last, L.data⟩ : Leaf) = L := rfl
  rw [eL]
  have H5 := Lib.hid (show Sec w5 w.heap.size s ∧ Leaf5 w5 (w.heap.size + 1) ∧ Blk w5 g4 104 (LeafC L.epoch L.number L.first L.last A L.data.length c) ∧ Below w.heap.size w w5 ∧ w.heap.size + 1 < g4 ∧ w5.ownsRow (w.heap.size + 2) 5 1 (.slice A L.data.length c) L.data.length (cellsB L.data) from
    ⟨Sec.below H4.out.1 k5, H4.out.2.1.below k5, H4.out.2.2.1.below k5, H4.out.2.2.2.1.trans (k5.mono H4.out.2.2.2.1.size), H4.out.2.2.2.2, Qu.row_below HY4.out k5⟩)
  clear k5 H4 HY4 eL
  obtain ⟨V, hV⟩ : ∃ V, layV L = V := ⟨_, rfl⟩
  rw [hV] at hsl ⊢
  obtain ⟨R, hR⟩ : ∃ R, rightB L = R := ⟨_, rfl⟩
  have hE2 : layE L = if R then 0 else 2 := by rw [← hR]; rfl
  have hV2 : V = if R then layB L else noughts := by rw [← hV, ← hR]; rfl
  rw [hE2]
  clear hE2
  have HV := Lib.hid (And.intro hR hV2)
  clear hR hV2 hV
  cases R with
  | false =>
    go_wp2_with (first
      | (with_reducible refine Dk.new_sec (w := w5) (op := ⟨some 5, _, _, _, _, _⟩) rfl rfl ?_; intro w6 hS6 hB6 hZ6)
      | ((with_reducible refine Dk.store_sec (w := w6) (op := ⟨none, _, _, _, _, _⟩) ?_ (.tmp 5) (.tmp 12) ?_ _ ?_ V ?_ _ hS6 hsl ?_); (next => rfl); (next => rfl); (next => rfl); (next => rfl); intro w7 hS7 hG7)
      | (with_reducible refine zero_leaf (op := ⟨some 21, _, _, _, _, _⟩) rfl rfl ?_)
      | ((with_reducible refine store_leaf (w := w7) (op := ⟨none, _, _, _, _, _⟩) ?_ (.tmp 2) (.tmp 21) ?_ (w.heap.size + 1) ?_ ZeroC ?_ ((H5.out.2.1.below hB6).far hG7 (by have := H5.out.2.2.1.lt; have := H5.out.2.2.2.2.1; omega)) ?_ ZeroC_one ?_); (next => rfl); (next => rfl); (next => rfl); (next => rfl); (next => rfl); intro w8 hK8 hG8))
    refine bodyPost_ret (two_leaf rfl _ w8 (w.heap.size + 1) _ (.bool false) rfl hK8 rfl rfl rfl) rfl ?_
    have ht : takesB s = false := by rw [HT.out, HV.out.1]; rfl
    unfold Took
    rw [ht]
    refine ⟨rfl, ?_⟩
    have h6 := H5.out.2.2.2.1.trans (hB6.mono H5.out.2.2.2.1.size)
    exact (h6.grown hG7 h6.size (fun k hk => by injection hk with hk; have := H5.out.2.2.2.1.size; omega)).grown hG8 (by have := (h6.grown hG7 h6.size (fun k hk => by injection hk with hk; have := H5.out.2.2.2.1.size; omega)).size; exact this) (fun k hk => by injection hk with hk; omega)
  | true =>
    obtain ⟨b, hb⟩ : ∃ b, (!(V == s)) = b := ⟨_, rfl⟩
    have HB := Lib.hid hb
    clear hb
    cases b with
    | true =>
      go_wp2_with (first
        | (with_reducible refine Dk.new_sec (w := w5) (op := ⟨some 5, _, _, _, _, _⟩) rfl rfl ?_; intro w6 hS6 hB6 hZ6)
        | ((with_reducible refine Dk.store_sec (w := w6) (op := ⟨none, _, _, _, _, _⟩) ?_ (.tmp 5) (.tmp 12) ?_ _ ?_ V ?_ _ hS6 hsl ?_); (next => rfl); (next => rfl); (next => rfl); (next => rfl); intro w7 hS7 hG7)
        | ((with_reducible refine load_sec_w (w := w7) (op := ⟨some 17, _, _, _, _, _⟩) ?_ (.tmp 5) ?_ _ ?_ _ hS7 ?_); (next => rfl); (next => rfl); (next => rfl))
        | ((with_reducible refine load_sec_w (w := w7) (op := ⟨some 18, _, _, _, _, _⟩) ?_ (.tmp 1) ?_ _ ?_ _ (Sec.far (Sec.below H5.out.1 hB6) hG7 (by have := H5.out.2.2.1.lt; have := H5.out.2.2.2.2.1; omega)) ?_); (next => rfl); (next => rfl); (next => rfl))
        | ((with_reducible refine neq_sec_w (op := ⟨some 19, _, _, _, _, _⟩) ?_ (.tmp 17) (.tmp 18) ?_ _ _ ?_ ?_ hsl hs true HB.out ?_); (next => rfl); (next => rfl); (next => rfl); (next => rfl))
        | (with_reducible refine zero_leaf (op := ⟨some 21, _, _, _, _, _⟩) rfl rfl ?_)
        | ((with_reducible refine store_leaf (w := w7) (op := ⟨none, _, _, _, _, _⟩) ?_ (.tmp 2) (.tmp 21) ?_ (w.heap.size + 1) ?_ ZeroC ?_ ((H5.out.2.1.below hB6).far hG7 (by have := H5.out.2.2.1.lt; have := H5.out.2.2.2.2.1; omega)) ?_ ZeroC_one ?_); (next => rfl); (next => rfl); (next => rfl); (next => rfl); (next => rfl); intro w8 hK8 hG8))
      refine bodyPost_ret (two_leaf rfl _ w8 (w.heap.size + 1) _ (.bool false) rfl hK8 rfl rfl rfl) rfl ?_
      have ht : takesB s = false := by
        rw [HT.out, HV.out.1]
        have h1 := HB.out
        rw [HV.out.2] at h1
        simpa using h1
      unfold Took
      rw [ht]
      refine ⟨rfl, ?_⟩
      have h6 := H5.out.2.2.2.1.trans (hB6.mono H5.out.2.2.2.1.size)
      exact (h6.grown hG7 h6.size (fun k hk => by injection hk with hk; have := H5.out.2.2.2.1.size; omega)).grown hG8 (by have := (h6.grown hG7 h6.size (fun k hk => by injection hk with hk; have := H5.out.2.2.2.1.size; omega)).size; exact this) (fun k hk => by injection hk with hk; omega)
    | false =>
      go_wp2_with (first
        | (with_reducible refine Dk.new_sec (w := w5) (op := ⟨some 5, _, _, _, _, _⟩) rfl rfl ?_; intro w6 hS6 hB6 hZ6)
        | ((with_reducible refine Dk.store_sec (w := w6) (op := ⟨none, _, _, _, _, _⟩) ?_ (.tmp 5) (.tmp 12) ?_ _ ?_ V ?_ _ hS6 hsl ?_); (next => rfl); (next => rfl); (next => rfl); (next => rfl); intro w7 hS7 hG7)
        | ((with_reducible refine load_sec_w (w := w7) (op := ⟨some 17, _, _, _, _, _⟩) ?_ (.tmp 5) ?_ _ ?_ _ hS7 ?_); (next => rfl); (next => rfl); (next => rfl))
        | ((with_reducible refine load_sec_w (w := w7) (op := ⟨some 18, _, _, _, _, _⟩) ?_ (.tmp 1) ?_ _ ?_ _ (Sec.far (Sec.below H5.out.1 hB6) hG7 (by have := H5.out.2.2.1.lt; have := H5.out.2.2.2.2.1; omega)) ?_); (next => rfl); (next => rfl); (next => rfl))
        | ((with_reducible refine neq_sec_w (op := ⟨some 19, _, _, _, _, _⟩) ?_ (.tmp 17) (.tmp 18) ?_ _ _ ?_ ?_ hsl hs false HB.out ?_); (next => rfl); (next => rfl); (next => rfl); (next => rfl))
        | ((with_reducible refine load_leaf (w := w7) (op := ⟨some 22, _, _, _, _, _⟩) ?_ (.tmp 4) ?_ _ ?_ _ ((H5.out.2.2.1.below hB6).grown hG7 (fun e => by have := H5.out.2.2.1.lt; injection e with e; omega)) ?_ ?_); (next => rfl); (next => rfl); (next => rfl); (next => rfl))
        | ((with_reducible refine store_leaf (w := w7) (op := ⟨none, _, _, _, _, _⟩) ?_ (.tmp 2) (.tmp 22) ?_ (w.heap.size + 1) ?_ (LeafC L.epoch L.number L.first L.last A L.data.length c) ?_ ((H5.out.2.1.below hB6).far hG7 (by have := H5.out.2.2.1.lt; have := H5.out.2.2.2.2.1; omega)) ?_ (LeafC_one _ _ _ _ _ _ _) ?_); (next => rfl); (next => rfl); (next => rfl); (next => rfl); (next => rfl); intro w8 hK8 hG8))
      refine bodyPost_ret (two_leaf rfl _ w8 (w.heap.size + 1) _ (.bool true) rfl hK8 rfl rfl rfl) rfl ?_
      have ht : takesB s = true := by
        rw [HT.out, HV.out.1]
        have h1 := HB.out
        rw [HV.out.2] at h1
        simpa using h1
      unfold Took
      rw [ht, HL.out]
      have h6 := H5.out.2.2.2.1.trans (hB6.mono H5.out.2.2.2.1.size)
      have h7 := h6.grown hG7 h6.size (fun k hk => by injection hk with hk; have := H5.out.2.2.2.1.size; omega)
      have h8 : w7.ownsRow (w.heap.size + 2) 5 1 (.slice A L.data.length c) L.data.length (cellsB L.data) := (Qu.row_below H5.out.2.2.2.2.2 hB6).kept hG7 (by
        cases hv : (Value.slice A L.data.length c).ownBlock with
        | none => exact .inl rfl
        | some g =>
          refine .inr fun e => ?_
          have := (H5.out.2.2.2.2.2.lt g hv).2
          injection e with e
          omega)
      exact ⟨A, c, rfl, own_lower (own_far h8 hG8 (by omega)) (by omega), h7.grown hG8 h7.size (fun k hk => by injection hk with hk; omega)⟩

end Go.Proofs.Ytedgookkogpfbaa.Lf
end

section
namespace Go.Proofs.Ytedgookkogpfbaa.Lf
open Go.ChangeShapes Go.WideShapes Go.ChangeAt Go.RowKit
open Qu (Blk)
open By (Bys cellsB cellsB_length cellsB_at)
open Se (over over_length over_at noughts noughts_len)
open Dk (Sec secCells secCells_size secCells_at size_sector)
set_option linter.unusedVariables false

set_option maxHeartbeats 4000000 in
theorem rtake_any (w : World) (s : List UInt8) (hs : s.length = 64) :
    Calls Try.prog 78 #[.agg (secCells s)] w fun e w' => Took w w' e s := by
  obtain ⟨b9, hb9⟩ : ∃ b, s[9]? = some b := ⟨_, List.getElem?_eq_getElem (by omega)⟩
  obtain ⟨b8, hb8⟩ : ∃ b, s[8]? = some b := ⟨_, List.getElem?_eq_getElem (by omega)⟩
  have l9 := b9.toNat_lt
  have l8 := b8.toNat_lt
  have h9 : (s.getD 9 0).toNat = b9.toNat := by rw [List.getD, hb9]; rfl
  by_cases hbig : 46 < b9.toNat
  · have ht := takes_count hs (by rw [h9]; exact hbig)
    have HT := Lib.hid ht
    have HB : Hid (∀ W, Sec W w.heap.size s → W.cell? ⟨w.heap.size, 9, none⟩ = some (.int .u8 (b9.toNat : Int))) := Lib.hid (fun W h => by rw [h.2.cell, secCells_at, hb9]; rfl)
    clear h9 hb8 hb9 l8 ht b8
    generalize b9.toNat = y9 at *
    have y0 : (46 : Int) < (y9 : Int) := by omega
    have y1 : (y9 : Int) ≤ 255 := by omega
    go_enter Try.func78, Try.ntmps78
    go_wp2_with (first
      | (with_reducible refine Dk.box_sec (op := ⟨some 1, _, _, _, _, _⟩) rfl _ rfl _ rfl hs ?_; intro w0 hS0 hB0 hZ0)
      | (with_reducible refine new_leaf (w := w0) (op := ⟨some 2, _, _, _, _, _⟩) rfl rfl ?_; intro w1 hS1 hB1 hZ1; rw [hZ0] at hS1; have c9 := HB.out w1 (Sec.below hS0 hB1))
      | (with_reducible refine zero_leaf (op := ⟨some 13, _, _, _, _, _⟩) rfl rfl ?_)
      | ((with_reducible refine store_leaf (w := w1) (op := ⟨none, _, _, _, _, _⟩) ?_ (.tmp 2) (.tmp 13) ?_ _ ?_ ZeroC ?_ hS1 ?_ ZeroC_one ?_); (next => rfl); (next => rfl); (next => rfl); (next => rfl); (next => rfl); intro w2 hK2 hG2))
    refine bodyPost_ret (two_leaf rfl _ w2 (w.heap.size + 1) _ (.bool false) rfl hK2 rfl rfl rfl) rfl ?_
    unfold Took
    rw [HT.out]
    exact ⟨rfl, (hB0.trans (hB1.mono hB0.size)).grown hG2 (hB0.trans (hB1.mono hB0.size)).size (fun k hk => by injection hk with hk; omega)⟩
  · obtain ⟨L, hL⟩ : ∃ L, readB s = L := ⟨_, rfl⟩
    have he : L.epoch < 2 ^ 32 := by rw [← hL]; exact read_epoch s hs
    have hn : L.number < 2 ^ 32 := by rw [← hL]; exact read_number s hs
    have hL2 : L = ⟨val4 (cut s 0 4), val4 (cut s 4 4), b8.toNat % 2 == 1, b8.toNat / 2 % 2 == 1, cut s 10 b9.toNat⟩ := by
      rw [← hL]
      unfold readB
      rw [h9, List.getD, hb8, Nat.min_eq_left (by omega)]
      rfl
    have HE := Lib.hid (And.intro he hn)
    have HT : Hid (takesB s = (rightB L && (layB L == s)) ∧ readB s = L) := Lib.hid ⟨by unfold takesB; rw [hL], hL⟩
    have HL2 := Lib.hid hL2
    have hdl : L.data.length = b9.toNat := by rw [hL2]; exact cut_len (by omega)
    have HDL := Lib.hid hdl
    have HB : Hid (∀ W, Sec W w.heap.size s → W.cell? ⟨w.heap.size, 9, none⟩ = some (.int .u8 (b9.toNat : Int)) ∧ W.cell? ⟨w.heap.size, 8, none⟩ = some (.int .u8 (b8.toNat : Int))) := Lib.hid (fun W h => ⟨by rw [h.2.cell, secCells_at, hb9]; rfl, by rw [h.2.cell, secCells_at, hb8]; rfl⟩)
    obtain ⟨n1, p1, p3, p4⟩ := flag_one b8.toNat l8
    obtain ⟨n2, r1, r3, r4⟩ := flag_two b8.toNat l8
    clear h9 hb8 hb9 hL hL2 he hn hdl
    generalize b8.toNat = y8 at *
    generalize b9.toNat = y9 at *
    have y0 : ¬ (46 : Int) < (y9 : Int) := by omega
    have y1 : (y9 : Int) ≤ 46 := by omega
    have y2 : (0 : Int) ≤ (y9 : Int) := by omega
    have hsa := fun W => part_all w.heap.size W
    have hsl := fun W => part_lh w.heap.size 10 (10 + y9) 10 (10 + (y9 : Int)) rfl (by omega) (by omega) (by omega) (by omega) W
    rw [Nat.add_sub_cancel_left] at hsl
    go_enter Try.func78, Try.ntmps78
    go_wp2_with (first
      | (with_reducible refine Dk.box_sec (op := ⟨some 1, _, _, _, _, _⟩) rfl _ rfl _ rfl hs ?_; intro w0 hS0 hB0 hZ0)
      | (with_reducible refine new_leaf (w := w0) (op := ⟨some 2, _, _, _, _, _⟩) rfl rfl ?_; intro w1 hS1 hB1 hZ1; rw [hZ0] at hS1; obtain ⟨c9, c8⟩ := HB.out w1 (Sec.below hS0 hB1)))
    have H1 := Lib.hid (show Sec w1.drew w.heap.size s ∧ Below w.heap.size w w1.drew ∧ Leaf5 w1.drew (w.heap.size + 1) from ⟨Sec_drew (Sec.below hS0 hB1), (hB0.trans (hB1.mono hB0.size)).drew, hS1.drew⟩)
    have hw1 : w.heap.size + 1 < w1.heap.size := by omega
    have hwd : w.heap.size + 1 < w1.drew.heap.size := hw1
    have HF : Hid (∀ (wx : World) (B g5 c : Nat) (A : Option Addr), Blk wx g5 104 (LeafC (val4 (cut s 0 4)) (val4 (cut s 4 4)) (y8 % 2 == 1) (y8 / 2 % 2 == 1) A y9 c) → wx.ownsRow B 5 1 (.slice A y9 c) y9 (cellsB (cut s 10 y9)) → w.heap.size + 2 ≤ B →
        Blk wx g5 104 (LeafC L.epoch L.number L.first L.last A L.data.length c) ∧ wx.ownsRow (w.heap.size + 2) 5 1 (.slice A L.data.length c) L.data.length (cellsB L.data)) := Lib.hid (fun wx B g5 c A hb ho hB => by
      rw [HDL.out]
      have e := HL2.out
      have e0 : L.epoch = val4 (cut s 0 4) := by rw [e]
      have e1 : L.number = val4 (cut s 4 4) := by rw [e]
      have e2 : L.first = (y8 % 2 == 1) := by rw [e]
      have e3 : L.last = (y8 / 2 % 2 == 1) := by rw [e]
      have e4 : L.data = cut s 10 y9 := by rw [e]
      rw [e0, e1, e2, e3, e4]
      exact ⟨hb, own_lower ho hB⟩)
    have HK0 : Hid (∀ W, Sec W w.heap.size s → Calls Try.prog 63 #[.slice (some ⟨w.heap.size, 0, none⟩) 64 64, .int .i64 0] W fun e w' => e = .returned (.int .u32 (val4 (cut s 0 4) : Int)) ∧ W = w') := Lib.hid (fun W h => rfour_any W w.heap.size 0 s h (by omega))
    have HK1 : Hid (∀ W, Sec W w.heap.size s → Calls Try.prog 63 #[.slice (some ⟨w.heap.size, 0, none⟩) 64 64, .int .i64 4] W fun e w' => e = .returned (.int .u32 (val4 (cut s 4 4) : Int)) ∧ W = w') := Lib.hid (fun W h => rfour_any W w.heap.size 4 s h (by omega))
    clear hS0 hB0 hZ0 hS1 hB1 hZ1 c8 c9 l8 l9 hbig
    go_cut [5] (fun v wx => ∃ g5 A c, v = .pointer (some ⟨g5, 0, none⟩) ∧ Sec wx w.heap.size s ∧ Below w.heap.size w wx ∧ Leaf5 wx (w.heap.size + 1) ∧ Blk wx g5 104 (LeafC L.epoch L.number L.first L.last A L.data.length c) ∧ w.heap.size + 1 < g5 ∧ wx.ownsRow (w.heap.size + 2) 5 1 (.slice A L.data.length c) L.data.length (cellsB L.data))
    case first =>
      refine wp_region_held_drew (S := fun u => Sec u w.heap.size s ∧ Below w.heap.size w u ∧ Leaf5 u (w.heap.size + 1)) (by kernel_rfl) H1.out (fun h1 => ?_)
      refine wpAnyH_take (i := 0) (oi := ⟨some 14, _, _, _, _, _⟩) (v := .slice (some ⟨w.heap.size, 0, none⟩) 64 64) rfl (by kernel_rfl) (by kernel_rfl) (by kernel_rfl) (fun _ _ _ h => h) (Or.inl ⟨by rfl, fun wq hSw => ?_⟩) (by assumption) ?_
      · go_simp
      try simp only [Act.put, List.setIfInBounds_toArray, List.set_cons_zero, List.set_cons_succ]
      refine wpAnyH_take (i := 2) (oi := ⟨some 16, _, _, _, _, _⟩) (v := .slice (some ⟨w.heap.size, 0, none⟩) 64 64) rfl (by kernel_rfl) (by kernel_rfl) (by kernel_rfl) (fun _ _ _ h => h) (Or.inl ⟨by rfl, fun wq hSw => ?_⟩) (by assumption) ?_
      · go_simp
      try simp only [Act.put, List.setIfInBounds_toArray, List.set_cons_zero, List.set_cons_succ]
      refine wpAnyH_take (i := 4) (oi := ⟨some 18, _, _, _, _, _⟩) (v := .pointer (some ⟨w.heap.size, 8, none⟩)) rfl (by kernel_rfl) (by kernel_rfl) (by kernel_rfl) (fun _ _ _ h => h) (Or.inl ⟨by rfl, fun wq hSw => ?_⟩) (by assumption) ?_
      · go_simp
      try simp only [Act.put, List.setIfInBounds_toArray, List.set_cons_zero, List.set_cons_succ]
      refine wpAnyH_take (i := 5) (oi := ⟨some 19, _, _, _, _, _⟩) (v := .int .u8 (y8 : Int)) rfl (by kernel_rfl) (by kernel_rfl) (by kernel_rfl) (fun _ _ _ h => h) (Or.inl ⟨by rfl, fun wq hSw => ?_⟩) (by assumption) ?_
      · obtain ⟨c9, c8⟩ := HB.out wq hSw.1; go_simp
      try simp only [Act.put, List.setIfInBounds_toArray, List.set_cons_zero, List.set_cons_succ]
      refine wpAnyH_take (i := 6) (oi := ⟨some 20, _, _, _, _, _⟩) (v := .int .u8 (n1 : Int)) rfl (by kernel_rfl) (by kernel_rfl) (by kernel_rfl) (fun _ _ _ h => h) (Or.inl ⟨by rfl, fun wq hSw => ?_⟩) (by assumption) ?_
      · go_simp
      try simp only [Act.put, List.setIfInBounds_toArray, List.set_cons_zero, List.set_cons_succ]
      refine wpAnyH_take (i := 7) (oi := ⟨some 21, _, _, _, _, _⟩) (v := .bool (y8 % 2 == 1)) rfl (by kernel_rfl) (by kernel_rfl) (by kernel_rfl) (fun _ _ _ h => h) (Or.inl ⟨by rfl, fun wq hSw => ?_⟩) (by assumption) ?_
      · (go_simp; try exact p4)
      try simp only [Act.put, List.setIfInBounds_toArray, List.set_cons_zero, List.set_cons_succ]
      refine wpAnyH_take (i := 8) (oi := ⟨some 22, _, _, _, _, _⟩) (v := .pointer (some ⟨w.heap.size, 8, none⟩)) rfl (by kernel_rfl) (by kernel_rfl) (by kernel_rfl) (fun _ _ _ h => h) (Or.inl ⟨by rfl, fun wq hSw => ?_⟩) (by assumption) ?_
      · go_simp
      try simp only [Act.put, List.setIfInBounds_toArray, List.set_cons_zero, List.set_cons_succ]
      refine wpAnyH_take (i := 9) (oi := ⟨some 23, _, _, _, _, _⟩) (v := .int .u8 (y8 : Int)) rfl (by kernel_rfl) (by kernel_rfl) (by kernel_rfl) (fun _ _ _ h => h) (Or.inl ⟨by rfl, fun wq hSw => ?_⟩) (by assumption) ?_
      · obtain ⟨c9, c8⟩ := HB.out wq hSw.1; go_simp
      try simp only [Act.put, List.setIfInBounds_toArray, List.set_cons_zero, List.set_cons_succ]
      refine wpAnyH_take (i := 10) (oi := ⟨some 24, _, _, _, _, _⟩) (v := .int .u8 (n2 : Int)) rfl (by kernel_rfl) (by kernel_rfl) (by kernel_rfl) (fun _ _ _ h => h) (Or.inl ⟨by rfl, fun wq hSw => ?_⟩) (by assumption) ?_
      · go_simp
      try simp only [Act.put, List.setIfInBounds_toArray, List.set_cons_zero, List.set_cons_succ]
      refine wpAnyH_take (i := 11) (oi := ⟨some 25, _, _, _, _, _⟩) (v := .bool (y8 / 2 % 2 == 1)) rfl (by kernel_rfl) (by kernel_rfl) (by kernel_rfl) (fun _ _ _ h => h) (Or.inl ⟨by rfl, fun wq hSw => ?_⟩) (by assumption) ?_
      · (go_simp; try exact r4)
      try simp only [Act.put, List.setIfInBounds_toArray, List.set_cons_zero, List.set_cons_succ]
      refine wpAnyH_take (i := 12) (oi := ⟨some 26, _, _, _, _, _⟩) (v := .int .i64 (y9 : Int)) rfl (by kernel_rfl) (by kernel_rfl) (by kernel_rfl) (fun _ _ _ h => h) (Or.inl ⟨by rfl, fun wq hSw => ?_⟩) (by assumption) ?_
      · go_simp
      try simp only [Act.put, List.setIfInBounds_toArray, List.set_cons_zero, List.set_cons_succ]
      refine wpAnyH_take (i := 13) (oi := ⟨some 27, _, _, _, _, _⟩) (v := .int .i64 (10 + (y9 : Int))) rfl (by kernel_rfl) (by kernel_rfl) (by kernel_rfl) (fun _ _ _ h => h) (Or.inl ⟨by rfl, fun wq hSw => ?_⟩) (by assumption) ?_
      · (go_simp; exact IntWalk.i64_in _ (by omega))
      try simp only [Act.put, List.setIfInBounds_toArray, List.set_cons_zero, List.set_cons_succ]
      refine wpAnyH_take (i := 14) (oi := ⟨some 28, _, _, _, _, _⟩) (v := .slice (some ⟨w.heap.size, 10, none⟩) y9 54) rfl (by kernel_rfl) (by kernel_rfl) (by kernel_rfl) (fun _ _ _ h => h) (Or.inl ⟨by rfl, fun wq hSw => ?_⟩) (by assumption) ?_
      · go_simp
      try simp only [Act.put, List.setIfInBounds_toArray, List.set_cons_zero, List.set_cons_succ]
      refine wpAnyH_ready (rs := [1,17]) (by kernel_rfl) (by simp) ?_
      refine AllReadyH.cons (o := ⟨some 15, _, _, _, _, _⟩) rfl (fun K hK => ?_) ?_
      ·
        go_simp
        refine (HK0.out _ h1.1).mono ?_
        rintro e wz ⟨rfl, rfl⟩
        go_wp2_with fail
        refine hK.out _ _ h1 (fun h2 => ?_)
        clear hK K
        try simp only [Act.put, List.setIfInBounds_toArray, List.set_cons_zero, List.set_cons_succ]
        refine wpAnyH_ready (rs := [3,17]) (by kernel_rfl) (by simp) ?_
        refine AllReadyH.cons (o := ⟨some 17, _, _, _, _, _⟩) rfl (fun K hK => ?_) ?_
        ·
          go_simp
          refine (HK1.out _ h2.1).mono ?_
          rintro e wz ⟨rfl, rfl⟩
          go_wp2_with fail
          refine hK.out _ _ h2 (fun h3 => ?_)
          clear hK K
          try simp only [Act.put, List.setIfInBounds_toArray, List.set_cons_zero, List.set_cons_succ]
          refine wpAnyH_ready (rs := [15,17]) (by kernel_rfl) (by simp) ?_
          refine AllReadyH.cons (o := ⟨some 29, _, _, _, _, _⟩) rfl (fun K hK => ?_) ?_
          ·
            refine step_append_none (w := w1.drew) (by rfl) (.const (.slice none 0 0)) (.tmp 28) (by rfl) (by rfl) w1.drew.heap.size (some ⟨w.heap.size, 10, none⟩) y9 54 (cut s 10 y9) (by rfl) (part_bys h3.1 (by omega)) (by simp) (by omega) ?_
            intro vq wp owp kwp
            obtain ⟨A, c, rfl⟩ := Mv.own_value owp
            refine hK.out _ _ ⟨Sec.below h3.1 kwp, h3.2.1.trans (kwp.mono h3.2.1.size), h3.2.2.below kwp⟩ (fun h4 => ?_)
            clear hK K
            try simp only [Act.put, List.setIfInBounds_toArray, List.set_cons_zero, List.set_cons_succ]
            refine wpAnyH_take (i := 16) (oi := ⟨some 30, _, _, _, _, _⟩) (v := .agg (LeafC (val4 (cut s 0 4)) (val4 (cut s 4 4)) (y8 % 2 == 1) (y8 / 2 % 2 == 1) A y9 c)) rfl (by kernel_rfl) (by kernel_rfl) (by kernel_rfl) (fun _ _ _ h => h) (Or.inl ⟨by rfl, fun wq hSw => ?_⟩) (by assumption) ?_
            · (go_simp; try rfl)
            try simp only [Act.put, List.setIfInBounds_toArray, List.set_cons_zero, List.set_cons_succ]
            refine wpAnyH_ready (rs := [17]) (by kernel_rfl) (by simp) ?_
            refine AllReadyH.cons (o := ⟨some 5, _, _, _, _, _⟩) rfl (fun K hK => ?_) AllReadyH.nil
            have hwp : w.heap.size + 1 < wp.heap.size := by have := kwp.size; omega
            refine step_new_leaf (w := wp) (by rfl) (by rfl) ?_
            intro wa qwa kwa zwa
            refine hK.out _ _ ⟨Sec.below h4.1 kwa, h4.2.1.trans (kwa.mono h4.2.1.size), h4.2.2.below kwa⟩ (fun h5 => ?_)
            clear hK K
            try simp only [Act.put, List.setIfInBounds_toArray, List.set_cons_zero, List.set_cons_succ]
            refine wpAnyH_ready (rs := [18]) (by kernel_rfl) (by simp) ?_
            refine AllReadyH.cons (o := ⟨none, _, _, _, _, _⟩) rfl (fun K hK => ?_) AllReadyH.nil
            refine step_store_leaf (w := wa) (by rfl) (.tmp 5) (.tmp 30) (by rfl) wp.heap.size (by rfl) (LeafC (val4 (cut s 0 4)) (val4 (cut s 4 4)) (y8 % 2 == 1) (y8 / 2 % 2 == 1) A y9 c) (by rfl) qwa rfl (LeafC_one _ _ _ _ _ _ _) ?_
            intro ws bs gs
            refine hK.out _ _ ⟨Sec.far h5.1 gs (by omega), h5.2.1.grown gs h5.2.1.size (fun k hk => by injection hk with hk; omega), h5.2.2.far gs (by omega)⟩ (fun h6 => ?_)
            clear hK K
            refine wpAnyH_done (by kernel_rfl) ?_ _
            go_wp2_with fail
            go_meet
            obtain ⟨f1, f2⟩ := HF.out ws w1.drew.heap.size wp.heap.size c A bs (((Qu.row_below owp kwa)).kept gs (by
              cases hv : (Value.slice A y9 c).ownBlock with
              | none => exact .inl rfl
              | some g =>
                refine .inr fun e => ?_
                have := (owp.lt g hv).2
                injection e with e
                omega)) (by omega)
            exact ⟨wp.heap.size, A, c, rfl, h6.1, h6.2.1, h6.2.2, f1, hwp, f2⟩
          refine AllReadyH.cons (o := ⟨some 5, _, _, _, _, _⟩) rfl (fun K hK => ?_) AllReadyH.nil
          refine step_new_leaf (w := w1.drew) (by rfl) (by rfl) ?_
          intro wa qwa kwa zwa
          refine hK.out _ _ ⟨Sec.below h3.1 kwa, h3.2.1.trans (kwa.mono h3.2.1.size), h3.2.2.below kwa⟩ (fun h4 => ?_)
          clear hK K
          try simp only [Act.put, List.setIfInBounds_toArray, List.set_cons_zero, List.set_cons_succ]
          refine wpAnyH_ready (rs := [15]) (by kernel_rfl) (by simp) ?_
          refine AllReadyH.cons (o := ⟨some 29, _, _, _, _, _⟩) rfl (fun K hK => ?_) AllReadyH.nil
          refine step_append_none (w := wa) (by rfl) (.const (.slice none 0 0)) (.tmp 28) (by rfl) (by rfl) wa.heap.size (some ⟨w.heap.size, 10, none⟩) y9 54 (cut s 10 y9) (by rfl) (part_bys h4.1 (by omega)) (by simp) (by omega) ?_
          intro vq wp owp kwp
          obtain ⟨A, c, rfl⟩ := Mv.own_value owp
          refine hK.out _ _ ⟨Sec.below h4.1 kwp, h4.2.1.trans (kwp.mono h4.2.1.size), h4.2.2.below kwp⟩ (fun h5 => ?_)
          clear hK K
          try simp only [Act.put, List.setIfInBounds_toArray, List.set_cons_zero, List.set_cons_succ]
          refine wpAnyH_take (i := 16) (oi := ⟨some 30, _, _, _, _, _⟩) (v := .agg (LeafC (val4 (cut s 0 4)) (val4 (cut s 4 4)) (y8 % 2 == 1) (y8 / 2 % 2 == 1) A y9 c)) rfl (by kernel_rfl) (by kernel_rfl) (by kernel_rfl) (fun _ _ _ h => h) (Or.inl ⟨by rfl, fun wq hSw => ?_⟩) (by assumption) ?_
          · (go_simp; try rfl)
          try simp only [Act.put, List.setIfInBounds_toArray, List.set_cons_zero, List.set_cons_succ]
          refine wpAnyH_ready (rs := [18]) (by kernel_rfl) (by simp) ?_
          refine AllReadyH.cons (o := ⟨none, _, _, _, _, _⟩) rfl (fun K hK => ?_) AllReadyH.nil
          refine step_store_leaf (w := wp) (by rfl) (.tmp 5) (.tmp 30) (by rfl) w1.drew.heap.size (by rfl) (LeafC (val4 (cut s 0 4)) (val4 (cut s 4 4)) (y8 % 2 == 1) (y8 / 2 % 2 == 1) A y9 c) (by rfl) (qwa.below kwp) rfl (LeafC_one _ _ _ _ _ _ _) ?_
          intro ws bs gs
          refine hK.out _ _ ⟨Sec.far h5.1 gs (by omega), h5.2.1.grown gs h5.2.1.size (fun k hk => by injection hk with hk; omega), h5.2.2.far gs (by omega)⟩ (fun h6 => ?_)
          clear hK K
          refine wpAnyH_done (by kernel_rfl) ?_ _
          go_wp2_with fail
          go_meet
          obtain ⟨f1, f2⟩ := HF.out ws wa.heap.size w1.drew.heap.size c A bs (own_far owp gs (by omega)) (by omega)
          exact ⟨w1.heap.size, A, c, rfl, h6.1, h6.2.1, h6.2.2, f1, hw1, f2⟩
        refine AllReadyH.cons (o := ⟨some 5, _, _, _, _, _⟩) rfl (fun K hK => ?_) AllReadyH.nil
        refine step_new_leaf (w := w1.drew) (by rfl) (by rfl) ?_
        intro wa qwa kwa zwa
        refine hK.out _ _ ⟨Sec.below h2.1 kwa, h2.2.1.trans (kwa.mono h2.2.1.size), h2.2.2.below kwa⟩ (fun h3 => ?_)
        clear hK K
        try simp only [Act.put, List.setIfInBounds_toArray, List.set_cons_zero, List.set_cons_succ]
        refine wpAnyH_ready (rs := [3]) (by kernel_rfl) (by simp) ?_
        refine AllReadyH.cons (o := ⟨some 17, _, _, _, _, _⟩) rfl (fun K hK => ?_) AllReadyH.nil
        go_simp
        refine (HK1.out _ h3.1).mono ?_
        rintro e wz ⟨rfl, rfl⟩
        go_wp2_with fail
        refine hK.out _ _ h3 (fun h4 => ?_)
        clear hK K
        try simp only [Act.put, List.setIfInBounds_toArray, List.set_cons_zero, List.set_cons_succ]
        refine wpAnyH_ready (rs := [15]) (by kernel_rfl) (by simp) ?_
        refine AllReadyH.cons (o := ⟨some 29, _, _, _, _, _⟩) rfl (fun K hK => ?_) AllReadyH.nil
        refine step_append_none (w := wa) (by rfl) (.const (.slice none 0 0)) (.tmp 28) (by rfl) (by rfl) wa.heap.size (some ⟨w.heap.size, 10, none⟩) y9 54 (cut s 10 y9) (by rfl) (part_bys h4.1 (by omega)) (by simp) (by omega) ?_
        intro vq wp owp kwp
        obtain ⟨A, c, rfl⟩ := Mv.own_value owp
        refine hK.out _ _ ⟨Sec.below h4.1 kwp, h4.2.1.trans (kwp.mono h4.2.1.size), h4.2.2.below kwp⟩ (fun h5 => ?_)
        clear hK K
        try simp only [Act.put, List.setIfInBounds_toArray, List.set_cons_zero, List.set_cons_succ]
        refine wpAnyH_take (i := 16) (oi := ⟨some 30, _, _, _, _, _⟩) (v := .agg (LeafC (val4 (cut s 0 4)) (val4 (cut s 4 4)) (y8 % 2 == 1) (y8 / 2 % 2 == 1) A y9 c)) rfl (by kernel_rfl) (by kernel_rfl) (by kernel_rfl) (fun _ _ _ h => h) (Or.inl ⟨by rfl, fun wq hSw => ?_⟩) (by assumption) ?_
        · (go_simp; try rfl)
        try simp only [Act.put, List.setIfInBounds_toArray, List.set_cons_zero, List.set_cons_succ]
        refine wpAnyH_ready (rs := [18]) (by kernel_rfl) (by simp) ?_
        refine AllReadyH.cons (o := ⟨none, _, _, _, _, _⟩) rfl (fun K hK => ?_) AllReadyH.nil
        refine step_store_leaf (w := wp) (by rfl) (.tmp 5) (.tmp 30) (by rfl) w1.drew.heap.size (by rfl) (LeafC (val4 (cut s 0 4)) (val4 (cut s 4 4)) (y8 % 2 == 1) (y8 / 2 % 2 == 1) A y9 c) (by rfl) (qwa.below kwp) rfl (LeafC_one _ _ _ _ _ _ _) ?_
        intro ws bs gs
        refine hK.out _ _ ⟨Sec.far h5.1 gs (by omega), h5.2.1.grown gs h5.2.1.size (fun k hk => by injection hk with hk; omega), h5.2.2.far gs (by omega)⟩ (fun h6 => ?_)
        clear hK K
        refine wpAnyH_done (by kernel_rfl) ?_ _
        go_wp2_with fail
        go_meet
        obtain ⟨f1, f2⟩ := HF.out ws wa.heap.size w1.drew.heap.size c A bs (own_far owp gs (by omega)) (by omega)
        exact ⟨w1.heap.size, A, c, rfl, h6.1, h6.2.1, h6.2.2, f1, hw1, f2⟩
      refine AllReadyH.cons (o := ⟨some 5, _, _, _, _, _⟩) rfl (fun K hK => ?_) AllReadyH.nil
      refine step_new_leaf (w := w1.drew) (by rfl) (by rfl) ?_
      intro wa qwa kwa zwa
      refine hK.out _ _ ⟨Sec.below h1.1 kwa, h1.2.1.trans (kwa.mono h1.2.1.size), h1.2.2.below kwa⟩ (fun h2 => ?_)
      clear hK K
      try simp only [Act.put, List.setIfInBounds_toArray, List.set_cons_zero, List.set_cons_succ]
      refine wpAnyH_ready (rs := [1]) (by kernel_rfl) (by simp) ?_
      refine AllReadyH.cons (o := ⟨some 15, _, _, _, _, _⟩) rfl (fun K hK => ?_) AllReadyH.nil
      go_simp
      refine (HK0.out _ h2.1).mono ?_
      rintro e wz ⟨rfl, rfl⟩
      go_wp2_with fail
      refine hK.out _ _ h2 (fun h3 => ?_)
      clear hK K
      try simp only [Act.put, List.setIfInBounds_toArray, List.set_cons_zero, List.set_cons_succ]
      refine wpAnyH_ready (rs := [3]) (by kernel_rfl) (by simp) ?_
      refine AllReadyH.cons (o := ⟨some 17, _, _, _, _, _⟩) rfl (fun K hK => ?_) AllReadyH.nil
      go_simp
      refine (HK1.out _ h3.1).mono ?_
      rintro e wz ⟨rfl, rfl⟩
      go_wp2_with fail
      refine hK.out _ _ h3 (fun h4 => ?_)
      clear hK K
      try simp only [Act.put, List.setIfInBounds_toArray, List.set_cons_zero, List.set_cons_succ]
      refine wpAnyH_ready (rs := [15]) (by kernel_rfl) (by simp) ?_
      refine AllReadyH.cons (o := ⟨some 29, _, _, _, _, _⟩) rfl (fun K hK => ?_) AllReadyH.nil
      refine step_append_none (w := wa) (by rfl) (.const (.slice none 0 0)) (.tmp 28) (by rfl) (by rfl) wa.heap.size (some ⟨w.heap.size, 10, none⟩) y9 54 (cut s 10 y9) (by rfl) (part_bys h4.1 (by omega)) (by simp) (by omega) ?_
      intro vq wp owp kwp
      obtain ⟨A, c, rfl⟩ := Mv.own_value owp
      refine hK.out _ _ ⟨Sec.below h4.1 kwp, h4.2.1.trans (kwp.mono h4.2.1.size), h4.2.2.below kwp⟩ (fun h5 => ?_)
      clear hK K
      try simp only [Act.put, List.setIfInBounds_toArray, List.set_cons_zero, List.set_cons_succ]
      refine wpAnyH_take (i := 16) (oi := ⟨some 30, _, _, _, _, _⟩) (v := .agg (LeafC (val4 (cut s 0 4)) (val4 (cut s 4 4)) (y8 % 2 == 1) (y8 / 2 % 2 == 1) A y9 c)) rfl (by kernel_rfl) (by kernel_rfl) (by kernel_rfl) (fun _ _ _ h => h) (Or.inl ⟨by rfl, fun wq hSw => ?_⟩) (by assumption) ?_
      · (go_simp; try rfl)
      try simp only [Act.put, List.setIfInBounds_toArray, List.set_cons_zero, List.set_cons_succ]
      refine wpAnyH_ready (rs := [18]) (by kernel_rfl) (by simp) ?_
      refine AllReadyH.cons (o := ⟨none, _, _, _, _, _⟩) rfl (fun K hK => ?_) AllReadyH.nil
      refine step_store_leaf (w := wp) (by rfl) (.tmp 5) (.tmp 30) (by rfl) w1.drew.heap.size (by rfl) (LeafC (val4 (cut s 0 4)) (val4 (cut s 4 4)) (y8 % 2 == 1) (y8 / 2 % 2 == 1) A y9 c) (by rfl) (qwa.below kwp) rfl (LeafC_one _ _ _ _ _ _ _) ?_
      intro ws bs gs
      refine hK.out _ _ ⟨Sec.far h5.1 gs (by omega), h5.2.1.grown gs h5.2.1.size (fun k hk => by injection hk with hk; omega), h5.2.2.far gs (by omega)⟩ (fun h6 => ?_)
      clear hK K
      refine wpAnyH_done (by kernel_rfl) ?_ _
      go_wp2_with fail
      go_meet
      obtain ⟨f1, f2⟩ := HF.out ws wa.heap.size w1.drew.heap.size c A bs (own_far owp gs (by omega)) (by omega)
      exact ⟨w1.heap.size, A, c, rfl, h6.1, h6.2.1, h6.2.2, f1, hw1, f2⟩
    case rest =>
      obtain ⟨g5, A, c, rfl, q1, q2, q3, q4, q5, q6⟩ := hcut
      have H4 := Lib.hid (show Sec wc w.heap.size s ∧ Leaf5 wc (w.heap.size + 1) ∧ Blk wc g5 104 (LeafC L.epoch L.number L.first L.last A L.data.length c) ∧ Below w.heap.size w wc ∧ w.heap.size + 1 < g5 ∧ wc.ownsRow (w.heap.size + 2) 5 1 (.slice A L.data.length c) L.data.length (cellsB L.data) from ⟨q1, q3, q4, q2, q5, q6⟩)
      have hsl := layV_len L
      clear q1 q2 q3 q5 q6 HF HK0 HK1 HB H1 hw1 hwd HL2 HDL
      go_wp2_with (first
        | ((with_reducible refine load_leaf (w := wc) (op := ⟨some 32, _, _, _, _, _⟩) ?_ (.tmp 5) ?_ _ ?_ _ q4 ?_ ?_); (next => rfl); (next => rfl); (next => rfl); (next => rfl)))
      clear q4
      refine (rlayleaf_any wc L.epoch L.number L.data.length c L.first L.last A L.data (Bys.own H4.out.2.2.2.2.2) HE.out.1 HE.out.2).mono ?_
      rintro e w5 ⟨rfl, k5⟩
      have eL : (⟨L.epoch, L.number, L.first, L.last, L.data⟩ : Leaf) = L := rfl
      rw [eL]
      have H5 := Lib.hid (show Sec w5 w.heap.size s ∧ Leaf5 w5 (w.heap.size + 1) ∧ Blk w5 g5 104 (LeafC L.epoch L.number L.first L.last A L.data.length c) ∧ Below w.heap.size w w5 ∧ w.heap.size + 1 < g5 ∧ w5.ownsRow (w.heap.size + 2) 5 1 (.slice A L.data.length c) L.data.length (cellsB L.data) from
        ⟨Sec.below H4.out.1 k5, H4.out.2.1.below k5, H4.out.2.2.1.below k5, H4.out.2.2.2.1.trans (k5.mono H4.out.2.2.2.1.size), H4.out.2.2.2.2.1, Qu.row_below H4.out.2.2.2.2.2 k5⟩)
      clear k5 H4 eL
      obtain ⟨V, hV⟩ : ∃ V, layV L = V := ⟨_, rfl⟩
      rw [hV] at hsl ⊢
      obtain ⟨R, hR⟩ : ∃ R, rightB L = R := ⟨_, rfl⟩
      have hE2 : layE L = if R then 0 else 2 := by rw [← hR]; rfl
      have hV2 : V = if R then layB L else noughts := by rw [← hV, ← hR]; rfl
      rw [hE2]
      clear hE2
      have HV := Lib.hid (And.intro hR hV2)
      clear hR hV2 hV
      cases R with
      | false =>
        go_wp2_with (first
          | (with_reducible refine Dk.new_sec (w := w5) (op := ⟨some 6, _, _, _, _, _⟩) rfl rfl ?_; intro w6 hS6 hB6 hZ6)
          | ((with_reducible refine Dk.store_sec (w := w6) (op := ⟨none, _, _, _, _, _⟩) ?_ (.tmp 6) (.tmp 34) ?_ _ ?_ V ?_ _ hS6 hsl ?_); (next => rfl); (next => rfl); (next => rfl); (next => rfl); intro w7 hS7 hG7)
          | (with_reducible refine zero_leaf (op := ⟨some 43, _, _, _, _, _⟩) rfl rfl ?_)
          | ((with_reducible refine store_leaf (w := w7) (op := ⟨none, _, _, _, _, _⟩) ?_ (.tmp 2) (.tmp 43) ?_ (w.heap.size + 1) ?_ ZeroC ?_ ((H5.out.2.1.below hB6).far hG7 (by have := H5.out.2.2.1.lt; have := H5.out.2.2.2.2.1; omega)) ?_ ZeroC_one ?_); (next => rfl); (next => rfl); (next => rfl); (next => rfl); (next => rfl); intro w8 hK8 hG8))
        refine bodyPost_ret (two_leaf rfl _ w8 (w.heap.size + 1) _ (.bool false) rfl hK8 rfl rfl rfl) rfl ?_
        have ht : takesB s = false := by rw [HT.out.1, HV.out.1]; rfl
        unfold Took
        rw [ht]
        refine ⟨rfl, ?_⟩
        have h6 := H5.out.2.2.2.1.trans (hB6.mono H5.out.2.2.2.1.size)
        exact (h6.grown hG7 h6.size (fun k hk => by injection hk with hk; have := H5.out.2.2.2.1.size; omega)).grown hG8 (by have := (h6.grown hG7 h6.size (fun k hk => by injection hk with hk; have := H5.out.2.2.2.1.size; omega)).size; exact this) (fun k hk => by injection hk with hk; omega)
      | true =>
        obtain ⟨b, hb⟩ : ∃ b, (!(V == s)) = b := ⟨_, rfl⟩
        have HB := Lib.hid hb
        clear hb
        cases b with
        | true =>
          go_wp2_with (first
            | (with_reducible refine Dk.new_sec (w := w5) (op := ⟨some 6, _, _, _, _, _⟩) rfl rfl ?_; intro w6 hS6 hB6 hZ6)
            | ((with_reducible refine Dk.store_sec (w := w6) (op := ⟨none, _, _, _, _, _⟩) ?_ (.tmp 6) (.tmp 34) ?_ _ ?_ V ?_ _ hS6 hsl ?_); (next => rfl); (next => rfl); (next => rfl); (next => rfl); intro w7 hS7 hG7)
            | ((with_reducible refine load_sec_w (w := w7) (op := ⟨some 39, _, _, _, _, _⟩) ?_ (.tmp 6) ?_ _ ?_ _ hS7 ?_); (next => rfl); (next => rfl); (next => rfl))
            | ((with_reducible refine load_sec_w (w := w7) (op := ⟨some 40, _, _, _, _, _⟩) ?_ (.tmp 1) ?_ _ ?_ _ (Sec.far (Sec.below H5.out.1 hB6) hG7 (by have := H5.out.2.2.1.lt; have := H5.out.2.2.2.2.1; omega)) ?_); (next => rfl); (next => rfl); (next => rfl))
            | ((with_reducible refine neq_sec_w (op := ⟨some 41, _, _, _, _, _⟩) ?_ (.tmp 39) (.tmp 40) ?_ _ _ ?_ ?_ hsl hs true HB.out ?_); (next => rfl); (next => rfl); (next => rfl); (next => rfl))
            | (with_reducible refine zero_leaf (op := ⟨some 43, _, _, _, _, _⟩) rfl rfl ?_)
            | ((with_reducible refine store_leaf (w := w7) (op := ⟨none, _, _, _, _, _⟩) ?_ (.tmp 2) (.tmp 43) ?_ (w.heap.size + 1) ?_ ZeroC ?_ ((H5.out.2.1.below hB6).far hG7 (by have := H5.out.2.2.1.lt; have := H5.out.2.2.2.2.1; omega)) ?_ ZeroC_one ?_); (next => rfl); (next => rfl); (next => rfl); (next => rfl); (next => rfl); intro w8 hK8 hG8))
          refine bodyPost_ret (two_leaf rfl _ w8 (w.heap.size + 1) _ (.bool false) rfl hK8 rfl rfl rfl) rfl ?_
          have ht : takesB s = false := by
            rw [HT.out.1, HV.out.1]
            have h1 := HB.out
            rw [HV.out.2] at h1
            simpa using h1
          unfold Took
          rw [ht]
          refine ⟨rfl, ?_⟩
          have h6 := H5.out.2.2.2.1.trans (hB6.mono H5.out.2.2.2.1.size)
          exact (h6.grown hG7 h6.size (fun k hk => by injection hk with hk; have := H5.out.2.2.2.1.size; omega)).grown hG8 (by have := (h6.grown hG7 h6.size (fun k hk => by injection hk with hk; have := H5.out.2.2.2.1.size; omega)).size; exact this) (fun k hk => by injection hk with hk; omega)
        | false =>
          go_wp2_with (first
            | (with_reducible refine Dk.new_sec (w := w5) (op := ⟨some 6, _, _, _, _, _⟩) rfl rfl ?_; intro w6 hS6 hB6 hZ6)
            | ((with_reducible refine Dk.store_sec (w := w6) (op := ⟨none, _, _, _, _, _⟩) ?_ (.tmp 6) (.tmp 34) ?_ _ ?_ V ?_ _ hS6 hsl ?_); (next => rfl); (next => rfl); (next => rfl); (next => rfl); intro w7 hS7 hG7)
            | ((with_reducible refine load_sec_w (w := w7) (op := ⟨some 39, _, _, _, _, _⟩) ?_ (.tmp 6) ?_ _ ?_ _ hS7 ?_); (next => rfl); (next => rfl); (next => rfl))
            | ((with_reducible refine load_sec_w (w := w7) (op := ⟨some 40, _, _, _, _, _⟩) ?_ (.tmp 1) ?_ _ ?_ _ (Sec.far (Sec.below H5.out.1 hB6) hG7 (by have := H5.out.2.2.1.lt; have := H5.out.2.2.2.2.1; omega)) ?_); (next => rfl); (next => rfl); (next => rfl))
            | ((with_reducible refine neq_sec_w (op := ⟨some 41, _, _, _, _, _⟩) ?_ (.tmp 39) (.tmp 40) ?_ _ _ ?_ ?_ hsl hs false HB.out ?_); (next => rfl); (next => rfl); (next => rfl); (next => rfl))
            | ((with_reducible refine load_leaf (w := w7) (op := ⟨some 44, _, _, _, _, _⟩) ?_ (.tmp 5) ?_ _ ?_ _ ((H5.out.2.2.1.below hB6).grown hG7 (fun e => by have := H5.out.2.2.1.lt; injection e with e; omega)) ?_ ?_); (next => rfl); (next => rfl); (next => rfl); (next => rfl))
            | ((with_reducible refine store_leaf (w := w7) (op := ⟨none, _, _, _, _, _⟩) ?_ (.tmp 2) (.tmp 44) ?_ (w.heap.size + 1) ?_ (LeafC L.epoch L.number L.first L.last A L.data.length c) ?_ ((H5.out.2.1.below hB6).far hG7 (by have := H5.out.2.2.1.lt; have := H5.out.2.2.2.2.1; omega)) ?_ (LeafC_one _ _ _ _ _ _ _) ?_); (next => rfl); (next => rfl); (next => rfl); (next => rfl); (next => rfl); intro w8 hK8 hG8))
          refine bodyPost_ret (two_leaf rfl _ w8 (w.heap.size + 1) _ (.bool true) rfl hK8 rfl rfl rfl) rfl ?_
          have ht : takesB s = true := by
            rw [HT.out.1, HV.out.1]
            have h1 := HB.out
            rw [HV.out.2] at h1
            simpa using h1
          unfold Took
          rw [ht, HT.out.2]
          have h6 := H5.out.2.2.2.1.trans (hB6.mono H5.out.2.2.2.1.size)
          have h7 := h6.grown hG7 h6.size (fun k hk => by injection hk with hk; have := H5.out.2.2.2.1.size; omega)
          have h8 : w7.ownsRow (w.heap.size + 2) 5 1 (.slice A L.data.length c) L.data.length (cellsB L.data) := (Qu.row_below H5.out.2.2.2.2.2 hB6).kept hG7 (by
            cases hv : (Value.slice A L.data.length c).ownBlock with
            | none => exact .inl rfl
            | some g =>
              refine .inr fun e => ?_
              have := (H5.out.2.2.2.2.2.lt g hv).2
              injection e with e
              omega)
          exact ⟨A, c, rfl, own_lower (own_far h8 hG8 (by omega)) (by omega), h7.grown hG8 h7.size (fun k hk => by injection hk with hk; omega)⟩

end Go.Proofs.Ytedgookkogpfbaa.Lf
end

section
namespace Go.Proofs.Ytedgookkogpfbaa.Lf
open Go.ChangeShapes Go.WideShapes Go.ChangeAt Go.RowKit
open Qu (Blk)
open By (Bys cellsB cellsB_length cellsB_at)
open Se (over over_length over_at noughts noughts_len)
open Dk (Sec secCells secCells_size secCells_at size_sector)
set_option linter.unusedVariables false

/-- So many bytes a leaf near to a raw one has. -/
def nearN (n : Nat) (l : Bool) : Nat := if l then 1 + n % 46 else 46

theorem nearN_in (n : Nat) (l : Bool) : 1 ≤ nearN n l ∧ nearN n l ≤ 46 := by
  unfold nearN
  split <;> omega

/-- The leaf near to a raw one. -/
def nearL (L : Leaf) : Leaf := ⟨max L.epoch 1, L.number, L.first, L.last, (L.data.take 46 ++ List.replicate 46 0).take (nearN L.number L.last)⟩

theorem nearL_len (L : Leaf) : (nearL L).data.length = nearN L.number L.last := by
  have := nearN_in L.number L.last
  show ((L.data.take 46 ++ List.replicate 46 0).take (nearN L.number L.last)).length = _
  rw [List.length_take, List.length_append, List.length_replicate]
  omega

theorem near_right (L : Leaf) : rightB (nearL L) = true := by
  have h := nearN_in L.number L.last
  rw [right_iff, nearL_len]
  refine ⟨?_, h.1, h.2, ?_⟩
  · show max L.epoch 1 ≠ 0
    omega
  · show L.last = true ∨ _
    unfold nearN
    cases L.last
    · exact .inr rfl
    · exact .inl rfl

/-- A leaf near to a raw one is told. -/
def Neared (w w' : World) (en : Ending) (L : Leaf) : Prop :=
  ∃ A c, en = .returned (.agg #[.int .u32 ((nearL L).epoch : Int), .int .u32 ((nearL L).number : Int), .bool (nearL L).first, .bool (nearL L).last, .slice A (nearL L).data.length c]) ∧ Bys w' w'.heap.size A (nearL L).data.length (nearL L).data ∧ (A = none → (nearL L).data.length = 0 ∧ c = 0) ∧ (nearL L).data.length ≤ c ∧ (∀ a, A = some a → w.heap.size ≤ a.block) ∧ Below w.heap.size w w'

theorem near_end {w w5 w6 : World} {e n E K N c2 : Nat} {f l : Bool} {A2 : Option Addr} {d : List UInt8} (hE : max e 1 = E) (hN : nearN n l = N) (hNK : N ≤ K + 46) (hcap : K + 46 ≤ c2) (hb : Below w.heap.size w w5)
    (ho : w5.ownsRow (w.heap.size + 2) 5 1 (.slice A2 (K + 46) c2) (K + 46) (cellsB (d.take 46 ++ List.replicate 46 0))) (hG : w5.grownBy w6 (some (w.heap.size + 1))) :
    Neared w w6 (.returned (.agg (LeafC E n f l A2 N c2))) ⟨e, n, f, l, d⟩ := by
  have hl := nearL_len ⟨e, n, f, l, d⟩
  have hl2 : (nearL ⟨e, n, f, l, d⟩).data.length = N := by rw [hl]; exact hN
  have ho2 := own_far ho hG (by omega)
  have hby : Bys w6 w6.heap.size A2 N (nearL ⟨e, n, f, l, d⟩).data := by
    have h := (Bys.own ho2).take (k := N) hNK
    have e2 : (nearL ⟨e, n, f, l, d⟩).data = (d.take 46 ++ List.replicate 46 0).take N := by
      show (d.take 46 ++ List.replicate 46 0).take (nearN n l) = _
      rw [hN]
    rw [e2]
    exact h
  have hNi := nearN_in n l
  refine ⟨A2, c2, ?_, by rw [hl2]; exact hby, ?_, by rw [hl2]; omega, fun a ha => by have := (ho2.lt a.block (by rw [ha]; rfl)).1; omega, hb.grown hG hb.size (fun k hk => by injection hk with hk; omega)⟩
  · rw [hl2]
    have e3 : ((nearL ⟨e, n, f, l, d⟩).epoch : Int) = (E : Int) := by rw [← hE]; rfl
    rw [e3]
    rfl
  · intro h
    have := Mv.own_none ho2 h
    omega

def one : Leaf := ⟨1, 0, true, true, [97]⟩

theorem one_bytes : (layB one)[3]? = some 1 ∧ (layB one)[8]? = some 3 ∧ (layB one)[10]? = some 97 ∧ (layB one)[63]? = some 1 := by decide +kernel

theorem one_right : rightB one = true := by decide

theorem one_takes : takesB (layB one) = true ∧ readB (layB one) = one := ⟨takes_lay one one_right (by decide) (by decide), read_lay one (by decide) (by decide) (by decide)⟩

/-- What Take tells, as a leaf. -/
def tookL (s : List UInt8) : Leaf := if takesB s then readB s else ⟨0, 0, false, false, []⟩

theorem took_as {w w' : World} {e : Ending} {s : List UInt8} (h : Took w w' e s) : ∃ A c, e = .returned (.tuple #[.agg #[.int .u32 ((tookL s).epoch : Int), .int .u32 ((tookL s).number : Int), .bool (tookL s).first, .bool (tookL s).last, .slice A (tookL s).data.length c], .bool (takesB s)]) ∧ Bys w' w'.heap.size A (tookL s).data.length (tookL s).data ∧ Below w.heap.size w w' := by
  unfold Took at h
  unfold tookL
  cases ht : takesB s with
  | true =>
    rw [ht, if_pos rfl] at h
    obtain ⟨A, c, h1, h2, h3⟩ := h
    exact ⟨A, c, h1, Bys.own h2, h3⟩
  | false =>
    rw [ht, if_neg (by simp)] at h
    exact ⟨none, 0, h.1, Bys.nil _ _ _, h.2⟩

end Go.Proofs.Ytedgookkogpfbaa.Lf
end
