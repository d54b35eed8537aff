/- The landed Right's last part, of a kind's method each. (made by wip/gen-right.py) -/
import Derived.Test.YtljmddjlnlmenaaGreatPq18
set_option maxRecDepth 100000
set_option linter.unusedVariables false

namespace Go.Proofs.YtljmddjlnlmenaaGreat.Pm
open Go.ChangeShapes Go.WideShapes Go.ChangeAt Go.RowKit
open Ap (Scp Prt Tir Prm kPrt kTir row_Prt row_Tir)
open Kd (Row Lst)
set_option maxRecDepth 100000 in
set_option maxHeartbeats 8000000 in
theorem rest_partsRight (m hv : Int) (hb rb z : Bool) (p : Prm) (l : Prm.Lay) (w wc : World) (g4 g5 : Nat) (u0 u1 u2 u3 u6 u7 u8 u9 u10 u11 u12 u13 u14 u15 u16 u17 u18 u19 u20 u21 u22 u23 u24 u25 u26 u27 u28 u29 u30 u31 u32 u33 u34 u35 u36 u37 u38 u39 u40 u41 u42 : Value) (hAs : Asked w wc p l g4 g5 53 m)
    (hH : ∀ W, Below w.heap.size w W -> Calls Tryz.prog 55 #[.agg #[.string p.id, .int .i64 p.kind, .int .i64 p.priority, .string p.group, .string p.code, .bool p.closes, .slice l.scope.skus.A l.scope.skus.n l.scope.skus.c, .slice l.scope.cats.A l.scope.cats.n l.scope.cats.c, .int .i64 p.least, .int .i64 p.rate, .int .i64 p.amount, .int .i64 p.buy, .int .i64 p.get, .slice l.parts.A l.parts.n l.parts.c, .slice l.tiers.A l.tiers.n l.tiers.c]] W fun e w' => e = .returned (.bool hb) /\ Below W.heap.size W w')
    (hF : ∀ W, Below w.heap.size w W -> Calls Tryz.prog 53 #[.agg #[.string p.id, .int .i64 p.kind, .int .i64 p.priority, .string p.group, .string p.code, .bool p.closes, .slice l.scope.skus.A l.scope.skus.n l.scope.skus.c, .slice l.scope.cats.A l.scope.cats.n l.scope.cats.c, .int .i64 p.least, .int .i64 p.rate, .int .i64 p.amount, .int .i64 p.buy, .int .i64 p.get, .slice l.parts.A l.parts.n l.parts.c, .slice l.tiers.A l.tiers.n l.tiers.c]] W fun e w' => e = .returned (.bool rb) /\ Below W.heap.size W w')
    (hA : ∀ W, Below w.heap.size w W -> Calls Tryz.prog 56 #[.agg #[.string p.id, .int .i64 p.kind, .int .i64 p.priority, .string p.group, .string p.code, .bool p.closes, .slice l.scope.skus.A l.scope.skus.n l.scope.skus.c, .slice l.scope.cats.A l.scope.cats.n l.scope.cats.c, .int .i64 p.least, .int .i64 p.rate, .int .i64 p.amount, .int .i64 p.buy, .int .i64 p.get, .slice l.parts.A l.parts.n l.parts.c, .slice l.tiers.A l.tiers.n l.tiers.c]] W fun e w' => e = .returned (.int .i64 hv) /\ Below W.heap.size W w')
    (hz : (bits .andNot .i64 hv m == 0) = z) : Code.wp Tryz.prog tailR (bodyPost Tryz.prog Tryz.f25 fun e w' => e = .returned (.bool (hb && rb && z)) /\ Below w.heap.size w w') ⟨#[u0, u1, u2, u3, .pointer (some ⟨g4, 0, none⟩), .pointer (some ⟨g5, 0, none⟩), u6, u7, u8, u9, u10, u11, u12, u13, u14, u15, u16, u17, u18, u19, u20, u21, u22, u23, u24, u25, u26, u27, u28, u29, u30, u31, u32, u33, u34, u35, u36, u37, u38, u39, u40, u41, u42], []⟩ wc := by
  conv => arg 2; whnf
  have HAs := Lib.hid hAs
  have HH := Lib.hid hH
  have HFn := Lib.hid hF
  have HHs := Lib.hid hA
  have HZ := Lib.hid hz
  clear hH hF hA hz hAs
  have x0 : ∀ u, Below wc.heap.size wc u -> u.cell? ⟨g4, 0, none⟩ = _ := fun u hu => (HAs.out.x.below hu).cell 0
  have x1 : ∀ u, Below wc.heap.size wc u -> u.cell? ⟨g4, 1, none⟩ = _ := fun u hu => (HAs.out.x.below hu).cell 1
  have x2 : ∀ u, Below wc.heap.size wc u -> u.cell? ⟨g4, 2, none⟩ = _ := fun u hu => (HAs.out.x.below hu).cell 2
  have x3 : ∀ u, Below wc.heap.size wc u -> u.cell? ⟨g4, 3, none⟩ = _ := fun u hu => (HAs.out.x.below hu).cell 3
  have x4 : ∀ u, Below wc.heap.size wc u -> u.cell? ⟨g4, 4, none⟩ = _ := fun u hu => (HAs.out.x.below hu).cell 4
  have x5 : ∀ u, Below wc.heap.size wc u -> u.cell? ⟨g4, 5, none⟩ = _ := fun u hu => (HAs.out.x.below hu).cell 5
  have x6 : ∀ u, Below wc.heap.size wc u -> u.cell? ⟨g4, 6, none⟩ = _ := fun u hu => (HAs.out.x.below hu).cell 6
  have x7 : ∀ u, Below wc.heap.size wc u -> u.cell? ⟨g4, 7, none⟩ = _ := fun u hu => (HAs.out.x.below hu).cell 7
  have x8 : ∀ u, Below wc.heap.size wc u -> u.cell? ⟨g4, 8, none⟩ = _ := fun u hu => (HAs.out.x.below hu).cell 8
  have x9 : ∀ u, Below wc.heap.size wc u -> u.cell? ⟨g4, 9, none⟩ = _ := fun u hu => (HAs.out.x.below hu).cell 9
  have x10 : ∀ u, Below wc.heap.size wc u -> u.cell? ⟨g4, 10, none⟩ = _ := fun u hu => (HAs.out.x.below hu).cell 10
  have x11 : ∀ u, Below wc.heap.size wc u -> u.cell? ⟨g4, 11, none⟩ = _ := fun u hu => (HAs.out.x.below hu).cell 11
  have x12 : ∀ u, Below wc.heap.size wc u -> u.cell? ⟨g4, 12, none⟩ = _ := fun u hu => (HAs.out.x.below hu).cell 12
  have x13 : ∀ u, Below wc.heap.size wc u -> u.cell? ⟨g4, 13, none⟩ = _ := fun u hu => (HAs.out.x.below hu).cell 13
  have x14 : ∀ u, Below wc.heap.size wc u -> u.cell? ⟨g4, 14, none⟩ = _ := fun u hu => (HAs.out.x.below hu).cell 14
  have y0 : ∀ u, Below wc.heap.size wc u -> u.cell? ⟨g5, 0, none⟩ = some (.func (.func 53) #[] #[]) := fun u hu => (HAs.out.k.below hu).cell 0
  have y1 : ∀ u, Below wc.heap.size wc u -> u.cell? ⟨g5, 1, none⟩ = some (.int .i64 m) := fun u hu => (HAs.out.k.below hu).cell 1
  cases hb with
  | false =>
    go_wp2_with fail
    refine wp_region_held_drew (S := fun u => Below wc.heap.size wc u) (by kernel_rfl) ((Below.refl _ _).drew) (fun hS0 => ?_)
    refine pkT 0 27 hS0 ?_
    try simp only [Act.put, pkA, pkB, pkC]
    refine wpAnyH_ready (rs := [1]) (by kernel_rfl) (by simp) ?_
    refine AllReadyH.cons (o := ⟨some 28, _, _, _, _, _⟩) rfl (fun K hK => ?_) AllReadyH.nil
    go_simp
    refine (HH.out _ (Hk.andThen HAs.out.below hS0)).mono ?_
    rintro e w3 ⟨rfl, hb3⟩
    go_wp2_with fail
    refine hK.out _ _ (Hk.andThen hS0 hb3) (fun hS1 => ?_)
    clear hK K
    try simp only [Act.put, pkA, pkB, pkC]
    refine pkT 2 29 hS1 ?_
    try simp only [Act.put, pkA, pkB, pkC]
    refine pkU 3 30 hS1 ?_
    try simp only [Act.put, pkA, pkB, pkC]
    refine pkU 4 31 hS1 ?_
    try simp only [Act.put, pkA, pkB, pkC]
    refine pkU 5 32 hS1 ?_
    try simp only [Act.put, pkA, pkB, pkC]
    refine pkU 6 33 hS1 ?_
    try simp only [Act.put, pkA, pkB, pkC]
    refine pkT 7 34 hS1 ?_
    try simp only [Act.put, pkA, pkB, pkC]
    refine pkT 8 35 hS1 ?_
    try simp only [Act.put, pkA, pkB, pkC]
    refine pkU 9 36 hS1 ?_
    try simp only [Act.put, pkA, pkB, pkC]
    refine pkU 10 37 hS1 ?_
    try simp only [Act.put, pkA, pkB, pkC]
    refine pkU 11 38 hS1 ?_
    try simp only [Act.put, pkA, pkB, pkC]
    refine pkU 12 39 hS1 ?_
    try simp only [Act.put, pkA, pkB, pkC]
    refine pkU 13 40 hS1 ?_
    try simp only [Act.put, pkA, pkB, pkC]
    refine pkU 14 41 hS1 ?_
    try simp only [Act.put, pkA, pkB, pkC]
    refine pkT 15 42 hS1 ?_
    try simp only [Act.put, pkA, pkB, pkC]
    refine pkT 16 2 hS1 ?_
    try simp only [Act.put, pkA, pkB, pkC]
    refine wpAnyH_done (by kernel_rfl) ?_ _
    have HO := Lib.hid (Hk.andThen HAs.out.below hS1)
    clear hS0
    go_wp2_with fail
    go_ret
    exact ⟨rfl, HO.out⟩
  | true =>
    cases rb with
    | false =>
      go_wp2_with fail
      refine wp_region_held_drew (S := fun u => Below wc.heap.size wc u) (by kernel_rfl) ((Below.refl _ _).drew) (fun hS0 => ?_)
      refine pkT 0 27 hS0 ?_
      try simp only [Act.put, pkA, pkB, pkC]
      refine wpAnyH_ready (rs := [1]) (by kernel_rfl) (by simp) ?_
      refine AllReadyH.cons (o := ⟨some 28, _, _, _, _, _⟩) rfl (fun K hK => ?_) AllReadyH.nil
      go_simp
      refine (HH.out _ (Hk.andThen HAs.out.below hS0)).mono ?_
      rintro e w3 ⟨rfl, hb3⟩
      go_wp2_with fail
      refine hK.out _ _ (Hk.andThen hS0 hb3) (fun hS1 => ?_)
      clear hK K
      try simp only [Act.put, pkA, pkB, pkC]
      refine pkT 2 29 hS1 ?_
      try simp only [Act.put, pkA, pkB, pkC]
      refine pkT 3 30 hS1 ?_
      try simp only [Act.put, pkA, pkB, pkC]
      refine pkT 4 31 hS1 ?_
      try simp only [Act.put, pkA, pkB, pkC]
      refine pkT 5 32 hS1 ?_
      try simp only [Act.put, pkA, pkB, pkC]
      refine wpAnyH_ready (rs := [6]) (by kernel_rfl) (by simp) ?_
      refine AllReadyH.cons (o := ⟨some 33, _, _, _, _, _⟩) rfl (fun K hK => ?_) AllReadyH.nil
      go_simp
      refine (HFn.out _ (Hk.andThen HAs.out.below hS1)).mono ?_
      rintro e w4 ⟨rfl, hb4⟩
      go_wp2_with fail
      refine hK.out _ _ (Hk.andThen hS1 hb4) (fun hS2 => ?_)
      clear hK K
      try simp only [Act.put, pkA, pkB, pkC]
      refine pkT 7 34 hS2 ?_
      try simp only [Act.put, pkA, pkB, pkC]
      refine pkT 8 35 hS2 ?_
      try simp only [Act.put, pkA, pkB, pkC]
      refine pkU 9 36 hS2 ?_
      try simp only [Act.put, pkA, pkB, pkC]
      refine pkU 10 37 hS2 ?_
      try simp only [Act.put, pkA, pkB, pkC]
      refine pkU 11 38 hS2 ?_
      try simp only [Act.put, pkA, pkB, pkC]
      refine pkU 12 39 hS2 ?_
      try simp only [Act.put, pkA, pkB, pkC]
      refine pkU 13 40 hS2 ?_
      try simp only [Act.put, pkA, pkB, pkC]
      refine pkU 14 41 hS2 ?_
      try simp only [Act.put, pkA, pkB, pkC]
      refine pkT 15 42 hS2 ?_
      try simp only [Act.put, pkA, pkB, pkC]
      refine pkT 16 2 hS2 ?_
      try simp only [Act.put, pkA, pkB, pkC]
      refine wpAnyH_done (by kernel_rfl) ?_ _
      have HO := Lib.hid (Hk.andThen HAs.out.below hS2)
      clear hS0
      go_wp2_with fail
      go_ret
      exact ⟨rfl, HO.out⟩
    | true =>
      have hz := HZ.out
      go_wp2_with fail
      refine wp_region_held_drew (S := fun u => Below wc.heap.size wc u) (by kernel_rfl) ((Below.refl _ _).drew) (fun hS0 => ?_)
      refine pkT 0 27 hS0 ?_
      try simp only [Act.put, pkA, pkB, pkC]
      refine wpAnyH_ready (rs := [1]) (by kernel_rfl) (by simp) ?_
      refine AllReadyH.cons (o := ⟨some 28, _, _, _, _, _⟩) rfl (fun K hK => ?_) AllReadyH.nil
      go_simp
      refine (HH.out _ (Hk.andThen HAs.out.below hS0)).mono ?_
      rintro e w3 ⟨rfl, hb3⟩
      go_wp2_with fail
      refine hK.out _ _ (Hk.andThen hS0 hb3) (fun hS1 => ?_)
      clear hK K
      try simp only [Act.put, pkA, pkB, pkC]
      refine pkT 2 29 hS1 ?_
      try simp only [Act.put, pkA, pkB, pkC]
      refine pkT 3 30 hS1 ?_
      try simp only [Act.put, pkA, pkB, pkC]
      refine pkT 4 31 hS1 ?_
      try simp only [Act.put, pkA, pkB, pkC]
      refine pkT 5 32 hS1 ?_
      try simp only [Act.put, pkA, pkB, pkC]
      refine wpAnyH_ready (rs := [6]) (by kernel_rfl) (by simp) ?_
      refine AllReadyH.cons (o := ⟨some 33, _, _, _, _, _⟩) rfl (fun K hK => ?_) AllReadyH.nil
      go_simp
      refine (HFn.out _ (Hk.andThen HAs.out.below hS1)).mono ?_
      rintro e w4 ⟨rfl, hb4⟩
      go_wp2_with fail
      refine hK.out _ _ (Hk.andThen hS1 hb4) (fun hS2 => ?_)
      clear hK K
      try simp only [Act.put, pkA, pkB, pkC]
      refine pkT 7 34 hS2 ?_
      try simp only [Act.put, pkA, pkB, pkC]
      refine pkT 8 35 hS2 ?_
      try simp only [Act.put, pkA, pkB, pkC]
      refine pkT 9 36 hS2 ?_
      try simp only [Act.put, pkA, pkB, pkC]
      refine pkT 11 38 hS2 ?_
      try simp only [Act.put, pkA, pkB, pkC]
      refine pkT 12 39 hS2 ?_
      try simp only [Act.put, pkA, pkB, pkC]
      refine wpAnyH_ready (rs := [10]) (by kernel_rfl) (by simp) ?_
      refine AllReadyH.cons (o := ⟨some 37, _, _, _, _, _⟩) rfl (fun K hK => ?_) AllReadyH.nil
      go_simp
      refine (HHs.out _ (Hk.andThen HAs.out.below hS2)).mono ?_
      rintro e w5 ⟨rfl, hb5⟩
      go_wp2_with fail
      refine hK.out _ _ (Hk.andThen hS2 hb5) (fun hS3 => ?_)
      clear hK K
      try simp only [Act.put, pkA, pkB, pkC]
      refine pkT 13 40 hS3 ?_
      try simp only [Act.put, pkA, pkB, pkC]
      refine pkT 14 41 hS3 ?_
      try simp only [Act.put, pkA, pkB, pkC]
      refine pkT 15 42 hS3 ?_
      try simp only [Act.put, pkA, pkB, pkC]
      refine pkT 16 2 hS3 ?_
      try simp only [Act.put, pkA, pkB, pkC]
      refine wpAnyH_done (by kernel_rfl) ?_ _
      have HO := Lib.hid (Hk.andThen HAs.out.below hS3)
      clear hS0
      go_wp2_with fail
      go_ret
      exact ⟨rfl, HO.out⟩
set_option maxRecDepth 100000 in
set_option maxHeartbeats 8000000 in
theorem rest_tiersRight (m hv : Int) (hb rb z : Bool) (p : Prm) (l : Prm.Lay) (w wc : World) (g4 g5 : Nat) (u0 u1 u2 u3 u6 u7 u8 u9 u10 u11 u12 u13 u14 u15 u16 u17 u18 u19 u20 u21 u22 u23 u24 u25 u26 u27 u28 u29 u30 u31 u32 u33 u34 u35 u36 u37 u38 u39 u40 u41 u42 : Value) (hAs : Asked w wc p l g4 g5 54 m)
    (hH : ∀ W, Below w.heap.size w W -> Calls Tryz.prog 55 #[.agg #[.string p.id, .int .i64 p.kind, .int .i64 p.priority, .string p.group, .string p.code, .bool p.closes, .slice l.scope.skus.A l.scope.skus.n l.scope.skus.c, .slice l.scope.cats.A l.scope.cats.n l.scope.cats.c, .int .i64 p.least, .int .i64 p.rate, .int .i64 p.amount, .int .i64 p.buy, .int .i64 p.get, .slice l.parts.A l.parts.n l.parts.c, .slice l.tiers.A l.tiers.n l.tiers.c]] W fun e w' => e = .returned (.bool hb) /\ Below W.heap.size W w')
    (hF : ∀ W, Below w.heap.size w W -> Calls Tryz.prog 54 #[.agg #[.string p.id, .int .i64 p.kind, .int .i64 p.priority, .string p.group, .string p.code, .bool p.closes, .slice l.scope.skus.A l.scope.skus.n l.scope.skus.c, .slice l.scope.cats.A l.scope.cats.n l.scope.cats.c, .int .i64 p.least, .int .i64 p.rate, .int .i64 p.amount, .int .i64 p.buy, .int .i64 p.get, .slice l.parts.A l.parts.n l.parts.c, .slice l.tiers.A l.tiers.n l.tiers.c]] W fun e w' => e = .returned (.bool rb) /\ Below W.heap.size W w')
    (hA : ∀ W, Below w.heap.size w W -> Calls Tryz.prog 56 #[.agg #[.string p.id, .int .i64 p.kind, .int .i64 p.priority, .string p.group, .string p.code, .bool p.closes, .slice l.scope.skus.A l.scope.skus.n l.scope.skus.c, .slice l.scope.cats.A l.scope.cats.n l.scope.cats.c, .int .i64 p.least, .int .i64 p.rate, .int .i64 p.amount, .int .i64 p.buy, .int .i64 p.get, .slice l.parts.A l.parts.n l.parts.c, .slice l.tiers.A l.tiers.n l.tiers.c]] W fun e w' => e = .returned (.int .i64 hv) /\ Below W.heap.size W w')
    (hz : (bits .andNot .i64 hv m == 0) = z) : Code.wp Tryz.prog tailR (bodyPost Tryz.prog Tryz.f25 fun e w' => e = .returned (.bool (hb && rb && z)) /\ Below w.heap.size w w') ⟨#[u0, u1, u2, u3, .pointer (some ⟨g4, 0, none⟩), .pointer (some ⟨g5, 0, none⟩), u6, u7, u8, u9, u10, u11, u12, u13, u14, u15, u16, u17, u18, u19, u20, u21, u22, u23, u24, u25, u26, u27, u28, u29, u30, u31, u32, u33, u34, u35, u36, u37, u38, u39, u40, u41, u42], []⟩ wc := by
  conv => arg 2; whnf
  have HAs := Lib.hid hAs
  have HH := Lib.hid hH
  have HFn := Lib.hid hF
  have HHs := Lib.hid hA
  have HZ := Lib.hid hz
  clear hH hF hA hz hAs
  have x0 : ∀ u, Below wc.heap.size wc u -> u.cell? ⟨g4, 0, none⟩ = _ := fun u hu => (HAs.out.x.below hu).cell 0
  have x1 : ∀ u, Below wc.heap.size wc u -> u.cell? ⟨g4, 1, none⟩ = _ := fun u hu => (HAs.out.x.below hu).cell 1
  have x2 : ∀ u, Below wc.heap.size wc u -> u.cell? ⟨g4, 2, none⟩ = _ := fun u hu => (HAs.out.x.below hu).cell 2
  have x3 : ∀ u, Below wc.heap.size wc u -> u.cell? ⟨g4, 3, none⟩ = _ := fun u hu => (HAs.out.x.below hu).cell 3
  have x4 : ∀ u, Below wc.heap.size wc u -> u.cell? ⟨g4, 4, none⟩ = _ := fun u hu => (HAs.out.x.below hu).cell 4
  have x5 : ∀ u, Below wc.heap.size wc u -> u.cell? ⟨g4, 5, none⟩ = _ := fun u hu => (HAs.out.x.below hu).cell 5
  have x6 : ∀ u, Below wc.heap.size wc u -> u.cell? ⟨g4, 6, none⟩ = _ := fun u hu => (HAs.out.x.below hu).cell 6
  have x7 : ∀ u, Below wc.heap.size wc u -> u.cell? ⟨g4, 7, none⟩ = _ := fun u hu => (HAs.out.x.below hu).cell 7
  have x8 : ∀ u, Below wc.heap.size wc u -> u.cell? ⟨g4, 8, none⟩ = _ := fun u hu => (HAs.out.x.below hu).cell 8
  have x9 : ∀ u, Below wc.heap.size wc u -> u.cell? ⟨g4, 9, none⟩ = _ := fun u hu => (HAs.out.x.below hu).cell 9
  have x10 : ∀ u, Below wc.heap.size wc u -> u.cell? ⟨g4, 10, none⟩ = _ := fun u hu => (HAs.out.x.below hu).cell 10
  have x11 : ∀ u, Below wc.heap.size wc u -> u.cell? ⟨g4, 11, none⟩ = _ := fun u hu => (HAs.out.x.below hu).cell 11
  have x12 : ∀ u, Below wc.heap.size wc u -> u.cell? ⟨g4, 12, none⟩ = _ := fun u hu => (HAs.out.x.below hu).cell 12
  have x13 : ∀ u, Below wc.heap.size wc u -> u.cell? ⟨g4, 13, none⟩ = _ := fun u hu => (HAs.out.x.below hu).cell 13
  have x14 : ∀ u, Below wc.heap.size wc u -> u.cell? ⟨g4, 14, none⟩ = _ := fun u hu => (HAs.out.x.below hu).cell 14
  have y0 : ∀ u, Below wc.heap.size wc u -> u.cell? ⟨g5, 0, none⟩ = some (.func (.func 54) #[] #[]) := fun u hu => (HAs.out.k.below hu).cell 0
  have y1 : ∀ u, Below wc.heap.size wc u -> u.cell? ⟨g5, 1, none⟩ = some (.int .i64 m) := fun u hu => (HAs.out.k.below hu).cell 1
  cases hb with
  | false =>
    go_wp2_with fail
    refine wp_region_held_drew (S := fun u => Below wc.heap.size wc u) (by kernel_rfl) ((Below.refl _ _).drew) (fun hS0 => ?_)
    refine pkT 0 27 hS0 ?_
    try simp only [Act.put, pkA, pkB, pkC]
    refine wpAnyH_ready (rs := [1]) (by kernel_rfl) (by simp) ?_
    refine AllReadyH.cons (o := ⟨some 28, _, _, _, _, _⟩) rfl (fun K hK => ?_) AllReadyH.nil
    go_simp
    refine (HH.out _ (Hk.andThen HAs.out.below hS0)).mono ?_
    rintro e w3 ⟨rfl, hb3⟩
    go_wp2_with fail
    refine hK.out _ _ (Hk.andThen hS0 hb3) (fun hS1 => ?_)
    clear hK K
    try simp only [Act.put, pkA, pkB, pkC]
    refine pkT 2 29 hS1 ?_
    try simp only [Act.put, pkA, pkB, pkC]
    refine pkU 3 30 hS1 ?_
    try simp only [Act.put, pkA, pkB, pkC]
    refine pkU 4 31 hS1 ?_
    try simp only [Act.put, pkA, pkB, pkC]
    refine pkU 5 32 hS1 ?_
    try simp only [Act.put, pkA, pkB, pkC]
    refine pkU 6 33 hS1 ?_
    try simp only [Act.put, pkA, pkB, pkC]
    refine pkT 7 34 hS1 ?_
    try simp only [Act.put, pkA, pkB, pkC]
    refine pkT 8 35 hS1 ?_
    try simp only [Act.put, pkA, pkB, pkC]
    refine pkU 9 36 hS1 ?_
    try simp only [Act.put, pkA, pkB, pkC]
    refine pkU 10 37 hS1 ?_
    try simp only [Act.put, pkA, pkB, pkC]
    refine pkU 11 38 hS1 ?_
    try simp only [Act.put, pkA, pkB, pkC]
    refine pkU 12 39 hS1 ?_
    try simp only [Act.put, pkA, pkB, pkC]
    refine pkU 13 40 hS1 ?_
    try simp only [Act.put, pkA, pkB, pkC]
    refine pkU 14 41 hS1 ?_
    try simp only [Act.put, pkA, pkB, pkC]
    refine pkT 15 42 hS1 ?_
    try simp only [Act.put, pkA, pkB, pkC]
    refine pkT 16 2 hS1 ?_
    try simp only [Act.put, pkA, pkB, pkC]
    refine wpAnyH_done (by kernel_rfl) ?_ _
    have HO := Lib.hid (Hk.andThen HAs.out.below hS1)
    clear hS0
    go_wp2_with fail
    go_ret
    exact ⟨rfl, HO.out⟩
  | true =>
    cases rb with
    | false =>
      go_wp2_with fail
      refine wp_region_held_drew (S := fun u => Below wc.heap.size wc u) (by kernel_rfl) ((Below.refl _ _).drew) (fun hS0 => ?_)
      refine pkT 0 27 hS0 ?_
      try simp only [Act.put, pkA, pkB, pkC]
      refine wpAnyH_ready (rs := [1]) (by kernel_rfl) (by simp) ?_
      refine AllReadyH.cons (o := ⟨some 28, _, _, _, _, _⟩) rfl (fun K hK => ?_) AllReadyH.nil
      go_simp
      refine (HH.out _ (Hk.andThen HAs.out.below hS0)).mono ?_
      rintro e w3 ⟨rfl, hb3⟩
      go_wp2_with fail
      refine hK.out _ _ (Hk.andThen hS0 hb3) (fun hS1 => ?_)
      clear hK K
      try simp only [Act.put, pkA, pkB, pkC]
      refine pkT 2 29 hS1 ?_
      try simp only [Act.put, pkA, pkB, pkC]
      refine pkT 3 30 hS1 ?_
      try simp only [Act.put, pkA, pkB, pkC]
      refine pkT 4 31 hS1 ?_
      try simp only [Act.put, pkA, pkB, pkC]
      refine pkT 5 32 hS1 ?_
      try simp only [Act.put, pkA, pkB, pkC]
      refine wpAnyH_ready (rs := [6]) (by kernel_rfl) (by simp) ?_
      refine AllReadyH.cons (o := ⟨some 33, _, _, _, _, _⟩) rfl (fun K hK => ?_) AllReadyH.nil
      go_simp
      refine (HFn.out _ (Hk.andThen HAs.out.below hS1)).mono ?_
      rintro e w4 ⟨rfl, hb4⟩
      go_wp2_with fail
      refine hK.out _ _ (Hk.andThen hS1 hb4) (fun hS2 => ?_)
      clear hK K
      try simp only [Act.put, pkA, pkB, pkC]
      refine pkT 7 34 hS2 ?_
      try simp only [Act.put, pkA, pkB, pkC]
      refine pkT 8 35 hS2 ?_
      try simp only [Act.put, pkA, pkB, pkC]
      refine pkU 9 36 hS2 ?_
      try simp only [Act.put, pkA, pkB, pkC]
      refine pkU 10 37 hS2 ?_
      try simp only [Act.put, pkA, pkB, pkC]
      refine pkU 11 38 hS2 ?_
      try simp only [Act.put, pkA, pkB, pkC]
      refine pkU 12 39 hS2 ?_
      try simp only [Act.put, pkA, pkB, pkC]
      refine pkU 13 40 hS2 ?_
      try simp only [Act.put, pkA, pkB, pkC]
      refine pkU 14 41 hS2 ?_
      try simp only [Act.put, pkA, pkB, pkC]
      refine pkT 15 42 hS2 ?_
      try simp only [Act.put, pkA, pkB, pkC]
      refine pkT 16 2 hS2 ?_
      try simp only [Act.put, pkA, pkB, pkC]
      refine wpAnyH_done (by kernel_rfl) ?_ _
      have HO := Lib.hid (Hk.andThen HAs.out.below hS2)
      clear hS0
      go_wp2_with fail
      go_ret
      exact ⟨rfl, HO.out⟩
    | true =>
      have hz := HZ.out
      go_wp2_with fail
      refine wp_region_held_drew (S := fun u => Below wc.heap.size wc u) (by kernel_rfl) ((Below.refl _ _).drew) (fun hS0 => ?_)
      refine pkT 0 27 hS0 ?_
      try simp only [Act.put, pkA, pkB, pkC]
      refine wpAnyH_ready (rs := [1]) (by kernel_rfl) (by simp) ?_
      refine AllReadyH.cons (o := ⟨some 28, _, _, _, _, _⟩) rfl (fun K hK => ?_) AllReadyH.nil
      go_simp
      refine (HH.out _ (Hk.andThen HAs.out.below hS0)).mono ?_
      rintro e w3 ⟨rfl, hb3⟩
      go_wp2_with fail
      refine hK.out _ _ (Hk.andThen hS0 hb3) (fun hS1 => ?_)
      clear hK K
      try simp only [Act.put, pkA, pkB, pkC]
      refine pkT 2 29 hS1 ?_
      try simp only [Act.put, pkA, pkB, pkC]
      refine pkT 3 30 hS1 ?_
      try simp only [Act.put, pkA, pkB, pkC]
      refine pkT 4 31 hS1 ?_
      try simp only [Act.put, pkA, pkB, pkC]
      refine pkT 5 32 hS1 ?_
      try simp only [Act.put, pkA, pkB, pkC]
      refine wpAnyH_ready (rs := [6]) (by kernel_rfl) (by simp) ?_
      refine AllReadyH.cons (o := ⟨some 33, _, _, _, _, _⟩) rfl (fun K hK => ?_) AllReadyH.nil
      go_simp
      refine (HFn.out _ (Hk.andThen HAs.out.below hS1)).mono ?_
      rintro e w4 ⟨rfl, hb4⟩
      go_wp2_with fail
      refine hK.out _ _ (Hk.andThen hS1 hb4) (fun hS2 => ?_)
      clear hK K
      try simp only [Act.put, pkA, pkB, pkC]
      refine pkT 7 34 hS2 ?_
      try simp only [Act.put, pkA, pkB, pkC]
      refine pkT 8 35 hS2 ?_
      try simp only [Act.put, pkA, pkB, pkC]
      refine pkT 9 36 hS2 ?_
      try simp only [Act.put, pkA, pkB, pkC]
      refine pkT 11 38 hS2 ?_
      try simp only [Act.put, pkA, pkB, pkC]
      refine pkT 12 39 hS2 ?_
      try simp only [Act.put, pkA, pkB, pkC]
      refine wpAnyH_ready (rs := [10]) (by kernel_rfl) (by simp) ?_
      refine AllReadyH.cons (o := ⟨some 37, _, _, _, _, _⟩) rfl (fun K hK => ?_) AllReadyH.nil
      go_simp
      refine (HHs.out _ (Hk.andThen HAs.out.below hS2)).mono ?_
      rintro e w5 ⟨rfl, hb5⟩
      go_wp2_with fail
      refine hK.out _ _ (Hk.andThen hS2 hb5) (fun hS3 => ?_)
      clear hK K
      try simp only [Act.put, pkA, pkB, pkC]
      refine pkT 13 40 hS3 ?_
      try simp only [Act.put, pkA, pkB, pkC]
      refine pkT 14 41 hS3 ?_
      try simp only [Act.put, pkA, pkB, pkC]
      refine pkT 15 42 hS3 ?_
      try simp only [Act.put, pkA, pkB, pkC]
      refine pkT 16 2 hS3 ?_
      try simp only [Act.put, pkA, pkB, pkC]
      refine wpAnyH_done (by kernel_rfl) ?_ _
      have HO := Lib.hid (Hk.andThen HAs.out.below hS3)
      clear hS0
      go_wp2_with fail
      go_ret
      exact ⟨rfl, HO.out⟩
end Go.Proofs.YtljmddjlnlmenaaGreat.Pm
