/- The document's Promo, from where it asks the kind: a theorem a kind. -/
import Derived.Test.YtljmddjlnlmenaaGreatPq16
set_option maxRecDepth 100000
set_option linter.unusedVariables false

namespace Go.Proofs.YtljmddjlnlmenaaGreat.Pr
open Go.ChangeShapes Go.WideShapes Go.ChangeAt Go.RowKit
open Ap (Scp Prt Tir Prm kPrt kTir kPrm row_Prt row_Tir row_Prm)
open Kd (Row Fit Lst Sl kStr kInt kList row_str)
noncomputable def tail : Code := match Tryz.f31.body with
  | some (.seq _ (.seq _ (.seq _ (.seq _ (.seq _ c))))) => c
  | _ => .skip
structure Known (p : Prm) (l : Prm.Lay) (w wc : World) (b3 b4 b5 b6 b7 b8 b9 : Bool) : Prop where
  head : promoB p = kindB p
  v3 : b3 = (p.rate == 0)
  v4 : b4 = (p.amount == 0)
  v5 : b5 = noBuy p
  v6 : b6 = noParts p
  v7 : b7 = noTiers p
  v8 : b8 = allB p
  v9 : b9 = someB p
  box : Qu.Blk wc w.heap.size 28 #[.string p.id, .int .i64 p.kind, .int .i64 p.priority, .string p.group, .string p.code, .bool p.closes, .slice l.scope.skus.A l.scope.skus.n l.scope.skus.c, .slice l.scope.cats.A l.scope.cats.n l.scope.cats.c, .int .i64 p.least, .int .i64 p.rate, .int .i64 p.amount, .int .i64 p.buy, .int .i64 p.get, .slice l.parts.A l.parts.n l.parts.c, .slice l.tiers.A l.tiers.n l.tiers.c]
  below : Below w.heap.size w wc
  holds : Prm.Holds w (· < w.heap.size) p l
  small : PartsSmall p.parts
  np : l.parts.n <= 1000000000000
  nt : l.tiers.n <= 1000000000000
set_option maxRecDepth 1000000 in
set_option maxHeartbeats 4000000 in
theorem kind_1 (p : Prm) (l : Prm.Lay) (w wc : World) (b3 b4 b5 b6 b7 b8 b9 : Bool) (u10 u11 u12 u13 u14 u15 u16 u17 u18 u19 u20 u21 u22 u23 u24 u25 u26 u27 u28 u29 u30 u31 u32 u33 u34 u35 u36 u37 u38 u39 u40 u41 u42 u43 u44 u45 u46 u47 u48 u49 u50 u51 u52 u53 u54 u55 u56 u57 u58 u59 u60 u61 u62 u63 u64 u65 u66 u67 u68 u69 u70 u71 u72 u73 u74 u75 u76 u77 u78 u79 u80 u81 u82 u83 u84 u85 u86 u87 u88 u89 u90 u91 u92 u93 u94 u95 u96 u97 u98 u99 u100 u101 u102 u103 u104 u105 u106 u107 u108 u109 u110 u111 u112 u113 u114 u115 u116 u117 u118 u119 u120 u121 u122 u123 u124 u125 u126 u127 u128 u129 u130 u131 u132 u133 u134 u135 u136 u137 u138 u139 u140 u141 u142 u143 u144 u145 u146 u147 u148 u149 u150 u151 u152 u153 u154 u155 u156 u157 u158 u159 u160 u161 u162 u163 u164 u165 u166 u167 u168 u169 u170 u171 u172 u173 u174 u175 u176 u177 u178 u179 u180 u181 u182 u183 u184 u185 u186 u187 u188 u189 u190 u191 u192 u193 u194 u195 u196 u197 u198 u199 u200 u201 u202 u203 u204 u205 u206 u207 u208 u209 u210 u211 u212 u213 u214 u215 u216 u217 u218 u219 u220 u221 u222 u223 u224 u225 u226 u227 u228 u229 u230 u231 u232 u233 u234 u235 u236 u237 u238 u239 u240 : Value) (h : Known p l w wc b3 b4 b5 b6 b7 b8 b9) (hk : p.kind = 1) :
    Code.wp Tryz.prog tail (bodyPost Tryz.prog Tryz.f31 fun e w' => e = .returned (.bool (promoB p)) /\ Below w.heap.size w w') ⟨#[.agg #[.string p.id, .int .i64 p.kind, .int .i64 p.priority, .string p.group, .string p.code, .bool p.closes, .slice l.scope.skus.A l.scope.skus.n l.scope.skus.c, .slice l.scope.cats.A l.scope.cats.n l.scope.cats.c, .int .i64 p.least, .int .i64 p.rate, .int .i64 p.amount, .int .i64 p.buy, .int .i64 p.get, .slice l.parts.A l.parts.n l.parts.c, .slice l.tiers.A l.tiers.n l.tiers.c], .pointer (some ⟨w.heap.size, 0, none⟩), .bool false, .bool b3, .bool b4, .bool b5, .bool b6, .bool b7, .bool b8, .bool b9, u10, u11, u12, u13, u14, u15, u16, u17, u18, u19, u20, u21, u22, u23, u24, u25, u26, u27, u28, u29, u30, u31, u32, u33, u34, u35, u36, u37, u38, u39, u40, u41, u42, u43, u44, u45, u46, u47, u48, u49, u50, u51, u52, u53, u54, u55, u56, u57, u58, u59, u60, u61, u62, u63, u64, u65, u66, u67, u68, u69, u70, u71, u72, u73, u74, u75, u76, u77, u78, u79, u80, u81, u82, u83, u84, u85, u86, u87, u88, u89, u90, u91, u92, u93, u94, u95, u96, u97, u98, u99, u100, u101, u102, u103, u104, u105, u106, u107, u108, u109, u110, u111, u112, u113, u114, u115, u116, u117, u118, u119, u120, u121, u122, u123, u124, u125, u126, u127, u128, u129, u130, u131, u132, u133, u134, u135, u136, u137, u138, u139, u140, u141, u142, u143, u144, u145, u146, u147, u148, u149, u150, u151, u152, u153, u154, u155, u156, u157, u158, u159, u160, u161, u162, u163, u164, u165, u166, u167, u168, u169, u170, u171, u172, u173, u174, u175, u176, u177, u178, u179, u180, u181, u182, u183, u184, u185, u186, u187, u188, u189, u190, u191, u192, u193, u194, u195, u196, u197, u198, u199, u200, u201, u202, u203, u204, u205, u206, u207, u208, u209, u210, u211, u212, u213, u214, u215, u216, u217, u218, u219, u220, u221, u222, u223, u224, u225, u226, u227, u228, u229, u230, u231, u232, u233, u234, u235, u236, u237, u238, u239, u240], []⟩ wc := by
  conv => arg 2; whnf
  have hW := Lib.hid (And.intro h.box h.below)
  have y1 := hW.out.1.cell 1
  have y5 := hW.out.1.cell 5
  have y10 := hW.out.1.cell 10
  have y11 := hW.out.1.cell 11
  have y12 := hW.out.1.cell 12
  have y13 := hW.out.1.cell 13
  have y14 := hW.out.1.cell 14
  have q1 : (p.kind == 1) = true := beq_iff_eq.2 hk
  have HK : Hid (promoB p = (b9 && b4 && b5 && b6 && b7)) := Lib.hid (by
    rw [h.head]
    obtain ⟨_, rfl, rfl, rfl, rfl, rfl, rfl, rfl, _, _, _, _, _, _⟩ := h
    unfold kindB
    rw [if_pos hk])
  clear h hk
  cases b9 with
  | false =>
    have HG : Hid (promoB p = false) := Lib.hid (by rw [HK.out]; rfl)
    go_wp2
    go_ret
    exact ⟨by rw [HG.out]; rfl, hW.out.2⟩
  | true =>
    cases b4 with
    | false =>
      have HG : Hid (promoB p = false) := Lib.hid (by rw [HK.out]; rfl)
      go_wp2
      go_ret
      exact ⟨by rw [HG.out]; rfl, hW.out.2⟩
    | true =>
      cases b5 with
      | false =>
        have HG : Hid (promoB p = false) := Lib.hid (by rw [HK.out]; rfl)
        go_wp2
        go_ret
        exact ⟨by rw [HG.out]; rfl, hW.out.2⟩
      | true =>
        cases b6 with
        | false =>
          have HG : Hid (promoB p = false) := Lib.hid (by rw [HK.out]; rfl)
          go_wp2
          go_ret
          exact ⟨by rw [HG.out]; rfl, hW.out.2⟩
        | true =>
          cases b7 with
          | false =>
            have HG : Hid (promoB p = false) := Lib.hid (by rw [HK.out]; rfl)
            go_wp2
            go_ret
            exact ⟨by rw [HG.out]; rfl, hW.out.2⟩
          | true =>
            have HG : Hid (promoB p = true) := Lib.hid (by rw [HK.out]; rfl)
            go_wp2
            go_ret
            exact ⟨by rw [HG.out]; rfl, hW.out.2⟩
set_option maxRecDepth 1000000 in
set_option maxHeartbeats 4000000 in
theorem kind_2 (p : Prm) (l : Prm.Lay) (w wc : World) (b3 b4 b5 b6 b7 b8 b9 : Bool) (u10 u11 u12 u13 u14 u15 u16 u17 u18 u19 u20 u21 u22 u23 u24 u25 u26 u27 u28 u29 u30 u31 u32 u33 u34 u35 u36 u37 u38 u39 u40 u41 u42 u43 u44 u45 u46 u47 u48 u49 u50 u51 u52 u53 u54 u55 u56 u57 u58 u59 u60 u61 u62 u63 u64 u65 u66 u67 u68 u69 u70 u71 u72 u73 u74 u75 u76 u77 u78 u79 u80 u81 u82 u83 u84 u85 u86 u87 u88 u89 u90 u91 u92 u93 u94 u95 u96 u97 u98 u99 u100 u101 u102 u103 u104 u105 u106 u107 u108 u109 u110 u111 u112 u113 u114 u115 u116 u117 u118 u119 u120 u121 u122 u123 u124 u125 u126 u127 u128 u129 u130 u131 u132 u133 u134 u135 u136 u137 u138 u139 u140 u141 u142 u143 u144 u145 u146 u147 u148 u149 u150 u151 u152 u153 u154 u155 u156 u157 u158 u159 u160 u161 u162 u163 u164 u165 u166 u167 u168 u169 u170 u171 u172 u173 u174 u175 u176 u177 u178 u179 u180 u181 u182 u183 u184 u185 u186 u187 u188 u189 u190 u191 u192 u193 u194 u195 u196 u197 u198 u199 u200 u201 u202 u203 u204 u205 u206 u207 u208 u209 u210 u211 u212 u213 u214 u215 u216 u217 u218 u219 u220 u221 u222 u223 u224 u225 u226 u227 u228 u229 u230 u231 u232 u233 u234 u235 u236 u237 u238 u239 u240 : Value) (h : Known p l w wc b3 b4 b5 b6 b7 b8 b9) (hk : p.kind = 2) :
    Code.wp Tryz.prog tail (bodyPost Tryz.prog Tryz.f31 fun e w' => e = .returned (.bool (promoB p)) /\ Below w.heap.size w w') ⟨#[.agg #[.string p.id, .int .i64 p.kind, .int .i64 p.priority, .string p.group, .string p.code, .bool p.closes, .slice l.scope.skus.A l.scope.skus.n l.scope.skus.c, .slice l.scope.cats.A l.scope.cats.n l.scope.cats.c, .int .i64 p.least, .int .i64 p.rate, .int .i64 p.amount, .int .i64 p.buy, .int .i64 p.get, .slice l.parts.A l.parts.n l.parts.c, .slice l.tiers.A l.tiers.n l.tiers.c], .pointer (some ⟨w.heap.size, 0, none⟩), .bool false, .bool b3, .bool b4, .bool b5, .bool b6, .bool b7, .bool b8, .bool b9, u10, u11, u12, u13, u14, u15, u16, u17, u18, u19, u20, u21, u22, u23, u24, u25, u26, u27, u28, u29, u30, u31, u32, u33, u34, u35, u36, u37, u38, u39, u40, u41, u42, u43, u44, u45, u46, u47, u48, u49, u50, u51, u52, u53, u54, u55, u56, u57, u58, u59, u60, u61, u62, u63, u64, u65, u66, u67, u68, u69, u70, u71, u72, u73, u74, u75, u76, u77, u78, u79, u80, u81, u82, u83, u84, u85, u86, u87, u88, u89, u90, u91, u92, u93, u94, u95, u96, u97, u98, u99, u100, u101, u102, u103, u104, u105, u106, u107, u108, u109, u110, u111, u112, u113, u114, u115, u116, u117, u118, u119, u120, u121, u122, u123, u124, u125, u126, u127, u128, u129, u130, u131, u132, u133, u134, u135, u136, u137, u138, u139, u140, u141, u142, u143, u144, u145, u146, u147, u148, u149, u150, u151, u152, u153, u154, u155, u156, u157, u158, u159, u160, u161, u162, u163, u164, u165, u166, u167, u168, u169, u170, u171, u172, u173, u174, u175, u176, u177, u178, u179, u180, u181, u182, u183, u184, u185, u186, u187, u188, u189, u190, u191, u192, u193, u194, u195, u196, u197, u198, u199, u200, u201, u202, u203, u204, u205, u206, u207, u208, u209, u210, u211, u212, u213, u214, u215, u216, u217, u218, u219, u220, u221, u222, u223, u224, u225, u226, u227, u228, u229, u230, u231, u232, u233, u234, u235, u236, u237, u238, u239, u240], []⟩ wc := by
  conv => arg 2; whnf
  have hW := Lib.hid (And.intro h.box h.below)
  have y1 := hW.out.1.cell 1
  have y5 := hW.out.1.cell 5
  have y10 := hW.out.1.cell 10
  have y11 := hW.out.1.cell 11
  have y12 := hW.out.1.cell 12
  have y13 := hW.out.1.cell 13
  have y14 := hW.out.1.cell 14
  have q1 : (p.kind == 1) = false := beq_eq_false_iff_ne.2 (by omega)
  have q2 : (p.kind == 2) = true := beq_iff_eq.2 hk
  have HK : Hid (promoB p = (b3 && decide (1 <= p.amount) && decide (p.amount <= 1000000000) && b5 && b6 && b7)) := Lib.hid (by
    rw [h.head]
    obtain ⟨_, rfl, rfl, rfl, rfl, rfl, rfl, rfl, _, _, _, _, _, _⟩ := h
    unfold kindB
    rw [if_neg (show ¬ p.kind = 1 by omega)]
    rw [if_pos hk])
  clear h hk
  cases b3 with
  | false =>
    have HG : Hid (promoB p = false) := Lib.hid (by rw [HK.out]; rfl)
    go_wp2
    go_ret
    exact ⟨by rw [HG.out]; rfl, hW.out.2⟩
  | true =>
    cases k0 : decide (1 <= p.amount) with
    | false =>
      have HG : Hid (promoB p = false) := Lib.hid (by rw [HK.out, k0]; rfl)
      go_wp2
      go_ret
      exact ⟨by rw [HG.out]; rfl, hW.out.2⟩
    | true =>
      cases k1 : decide (p.amount <= 1000000000) with
      | false =>
        have HG : Hid (promoB p = false) := Lib.hid (by rw [HK.out, k0, k1]; rfl)
        go_wp2
        go_ret
        exact ⟨by rw [HG.out]; rfl, hW.out.2⟩
      | true =>
        cases b5 with
        | false =>
          have HG : Hid (promoB p = false) := Lib.hid (by rw [HK.out, k0, k1]; rfl)
          go_wp2
          go_ret
          exact ⟨by rw [HG.out]; rfl, hW.out.2⟩
        | true =>
          cases b6 with
          | false =>
            have HG : Hid (promoB p = false) := Lib.hid (by rw [HK.out, k0, k1]; rfl)
            go_wp2
            go_ret
            exact ⟨by rw [HG.out]; rfl, hW.out.2⟩
          | true =>
            cases b7 with
            | false =>
              have HG : Hid (promoB p = false) := Lib.hid (by rw [HK.out, k0, k1]; rfl)
              go_wp2
              go_ret
              exact ⟨by rw [HG.out]; rfl, hW.out.2⟩
            | true =>
              have HG : Hid (promoB p = true) := Lib.hid (by rw [HK.out, k0, k1]; rfl)
              go_wp2
              go_ret
              exact ⟨by rw [HG.out]; rfl, hW.out.2⟩
set_option maxRecDepth 1000000 in
set_option maxHeartbeats 4000000 in
theorem kind_3 (p : Prm) (l : Prm.Lay) (w wc : World) (b3 b4 b5 b6 b7 b8 b9 : Bool) (u10 u11 u12 u13 u14 u15 u16 u17 u18 u19 u20 u21 u22 u23 u24 u25 u26 u27 u28 u29 u30 u31 u32 u33 u34 u35 u36 u37 u38 u39 u40 u41 u42 u43 u44 u45 u46 u47 u48 u49 u50 u51 u52 u53 u54 u55 u56 u57 u58 u59 u60 u61 u62 u63 u64 u65 u66 u67 u68 u69 u70 u71 u72 u73 u74 u75 u76 u77 u78 u79 u80 u81 u82 u83 u84 u85 u86 u87 u88 u89 u90 u91 u92 u93 u94 u95 u96 u97 u98 u99 u100 u101 u102 u103 u104 u105 u106 u107 u108 u109 u110 u111 u112 u113 u114 u115 u116 u117 u118 u119 u120 u121 u122 u123 u124 u125 u126 u127 u128 u129 u130 u131 u132 u133 u134 u135 u136 u137 u138 u139 u140 u141 u142 u143 u144 u145 u146 u147 u148 u149 u150 u151 u152 u153 u154 u155 u156 u157 u158 u159 u160 u161 u162 u163 u164 u165 u166 u167 u168 u169 u170 u171 u172 u173 u174 u175 u176 u177 u178 u179 u180 u181 u182 u183 u184 u185 u186 u187 u188 u189 u190 u191 u192 u193 u194 u195 u196 u197 u198 u199 u200 u201 u202 u203 u204 u205 u206 u207 u208 u209 u210 u211 u212 u213 u214 u215 u216 u217 u218 u219 u220 u221 u222 u223 u224 u225 u226 u227 u228 u229 u230 u231 u232 u233 u234 u235 u236 u237 u238 u239 u240 : Value) (h : Known p l w wc b3 b4 b5 b6 b7 b8 b9) (hk : p.kind = 3) :
    Code.wp Tryz.prog tail (bodyPost Tryz.prog Tryz.f31 fun e w' => e = .returned (.bool (promoB p)) /\ Below w.heap.size w w') ⟨#[.agg #[.string p.id, .int .i64 p.kind, .int .i64 p.priority, .string p.group, .string p.code, .bool p.closes, .slice l.scope.skus.A l.scope.skus.n l.scope.skus.c, .slice l.scope.cats.A l.scope.cats.n l.scope.cats.c, .int .i64 p.least, .int .i64 p.rate, .int .i64 p.amount, .int .i64 p.buy, .int .i64 p.get, .slice l.parts.A l.parts.n l.parts.c, .slice l.tiers.A l.tiers.n l.tiers.c], .pointer (some ⟨w.heap.size, 0, none⟩), .bool false, .bool b3, .bool b4, .bool b5, .bool b6, .bool b7, .bool b8, .bool b9, u10, u11, u12, u13, u14, u15, u16, u17, u18, u19, u20, u21, u22, u23, u24, u25, u26, u27, u28, u29, u30, u31, u32, u33, u34, u35, u36, u37, u38, u39, u40, u41, u42, u43, u44, u45, u46, u47, u48, u49, u50, u51, u52, u53, u54, u55, u56, u57, u58, u59, u60, u61, u62, u63, u64, u65, u66, u67, u68, u69, u70, u71, u72, u73, u74, u75, u76, u77, u78, u79, u80, u81, u82, u83, u84, u85, u86, u87, u88, u89, u90, u91, u92, u93, u94, u95, u96, u97, u98, u99, u100, u101, u102, u103, u104, u105, u106, u107, u108, u109, u110, u111, u112, u113, u114, u115, u116, u117, u118, u119, u120, u121, u122, u123, u124, u125, u126, u127, u128, u129, u130, u131, u132, u133, u134, u135, u136, u137, u138, u139, u140, u141, u142, u143, u144, u145, u146, u147, u148, u149, u150, u151, u152, u153, u154, u155, u156, u157, u158, u159, u160, u161, u162, u163, u164, u165, u166, u167, u168, u169, u170, u171, u172, u173, u174, u175, u176, u177, u178, u179, u180, u181, u182, u183, u184, u185, u186, u187, u188, u189, u190, u191, u192, u193, u194, u195, u196, u197, u198, u199, u200, u201, u202, u203, u204, u205, u206, u207, u208, u209, u210, u211, u212, u213, u214, u215, u216, u217, u218, u219, u220, u221, u222, u223, u224, u225, u226, u227, u228, u229, u230, u231, u232, u233, u234, u235, u236, u237, u238, u239, u240], []⟩ wc := by
  conv => arg 2; whnf
  have hW := Lib.hid (And.intro h.box h.below)
  have y1 := hW.out.1.cell 1
  have y5 := hW.out.1.cell 5
  have y10 := hW.out.1.cell 10
  have y11 := hW.out.1.cell 11
  have y12 := hW.out.1.cell 12
  have y13 := hW.out.1.cell 13
  have y14 := hW.out.1.cell 14
  have q1 : (p.kind == 1) = false := beq_eq_false_iff_ne.2 (by omega)
  have q2 : (p.kind == 2) = false := beq_eq_false_iff_ne.2 (by omega)
  have q3 : (p.kind == 3) = true := beq_iff_eq.2 hk
  have HK : Hid (promoB p = (b9 && b4 && decide (1 <= p.buy) && decide (p.buy <= 100) && decide (1 <= p.get) && decide (p.get <= 100) && b6 && b7)) := Lib.hid (by
    rw [h.head]
    obtain ⟨_, rfl, rfl, rfl, rfl, rfl, rfl, rfl, _, _, _, _, _, _⟩ := h
    unfold kindB
    rw [if_neg (show ¬ p.kind = 1 by omega)]
    rw [if_neg (show ¬ p.kind = 2 by omega)]
    rw [if_pos hk])
  clear h hk
  cases b9 with
  | false =>
    have HG : Hid (promoB p = false) := Lib.hid (by rw [HK.out]; rfl)
    go_wp2
    go_ret
    exact ⟨by rw [HG.out]; rfl, hW.out.2⟩
  | true =>
    cases b4 with
    | false =>
      have HG : Hid (promoB p = false) := Lib.hid (by rw [HK.out]; rfl)
      go_wp2
      go_ret
      exact ⟨by rw [HG.out]; rfl, hW.out.2⟩
    | true =>
      cases k0 : decide (1 <= p.buy) with
      | false =>
        have HG : Hid (promoB p = false) := Lib.hid (by rw [HK.out, k0]; rfl)
        go_wp2
        go_ret
        exact ⟨by rw [HG.out]; rfl, hW.out.2⟩
      | true =>
        cases k1 : decide (p.buy <= 100) with
        | false =>
          have HG : Hid (promoB p = false) := Lib.hid (by rw [HK.out, k0, k1]; rfl)
          go_wp2
          go_ret
          exact ⟨by rw [HG.out]; rfl, hW.out.2⟩
        | true =>
          cases k2 : decide (1 <= p.get) with
          | false =>
            have HG : Hid (promoB p = false) := Lib.hid (by rw [HK.out, k0, k1, k2]; rfl)
            go_wp2
            go_ret
            exact ⟨by rw [HG.out]; rfl, hW.out.2⟩
          | true =>
            cases k3 : decide (p.get <= 100) with
            | false =>
              have HG : Hid (promoB p = false) := Lib.hid (by rw [HK.out, k0, k1, k2, k3]; rfl)
              go_wp2
              go_ret
              exact ⟨by rw [HG.out]; rfl, hW.out.2⟩
            | true =>
              cases b6 with
              | false =>
                have HG : Hid (promoB p = false) := Lib.hid (by rw [HK.out, k0, k1, k2, k3]; rfl)
                go_wp2
                go_ret
                exact ⟨by rw [HG.out]; rfl, hW.out.2⟩
              | true =>
                cases b7 with
                | false =>
                  have HG : Hid (promoB p = false) := Lib.hid (by rw [HK.out, k0, k1, k2, k3]; rfl)
                  go_wp2
                  go_ret
                  exact ⟨by rw [HG.out]; rfl, hW.out.2⟩
                | true =>
                  have HG : Hid (promoB p = true) := Lib.hid (by rw [HK.out, k0, k1, k2, k3]; rfl)
                  go_wp2
                  go_ret
                  exact ⟨by rw [HG.out]; rfl, hW.out.2⟩
set_option maxRecDepth 1000000 in
set_option maxHeartbeats 4000000 in
theorem kind_4 (p : Prm) (l : Prm.Lay) (w wc : World) (b3 b4 b5 b6 b7 b8 b9 : Bool) (u10 u11 u12 u13 u14 u15 u16 u17 u18 u19 u20 u21 u22 u23 u24 u25 u26 u27 u28 u29 u30 u31 u32 u33 u34 u35 u36 u37 u38 u39 u40 u41 u42 u43 u44 u45 u46 u47 u48 u49 u50 u51 u52 u53 u54 u55 u56 u57 u58 u59 u60 u61 u62 u63 u64 u65 u66 u67 u68 u69 u70 u71 u72 u73 u74 u75 u76 u77 u78 u79 u80 u81 u82 u83 u84 u85 u86 u87 u88 u89 u90 u91 u92 u93 u94 u95 u96 u97 u98 u99 u100 u101 u102 u103 u104 u105 u106 u107 u108 u109 u110 u111 u112 u113 u114 u115 u116 u117 u118 u119 u120 u121 u122 u123 u124 u125 u126 u127 u128 u129 u130 u131 u132 u133 u134 u135 u136 u137 u138 u139 u140 u141 u142 u143 u144 u145 u146 u147 u148 u149 u150 u151 u152 u153 u154 u155 u156 u157 u158 u159 u160 u161 u162 u163 u164 u165 u166 u167 u168 u169 u170 u171 u172 u173 u174 u175 u176 u177 u178 u179 u180 u181 u182 u183 u184 u185 u186 u187 u188 u189 u190 u191 u192 u193 u194 u195 u196 u197 u198 u199 u200 u201 u202 u203 u204 u205 u206 u207 u208 u209 u210 u211 u212 u213 u214 u215 u216 u217 u218 u219 u220 u221 u222 u223 u224 u225 u226 u227 u228 u229 u230 u231 u232 u233 u234 u235 u236 u237 u238 u239 u240 : Value) (h : Known p l w wc b3 b4 b5 b6 b7 b8 b9) (hk : p.kind = 4) :
    Code.wp Tryz.prog tail (bodyPost Tryz.prog Tryz.f31 fun e w' => e = .returned (.bool (promoB p)) /\ Below w.heap.size w w') ⟨#[.agg #[.string p.id, .int .i64 p.kind, .int .i64 p.priority, .string p.group, .string p.code, .bool p.closes, .slice l.scope.skus.A l.scope.skus.n l.scope.skus.c, .slice l.scope.cats.A l.scope.cats.n l.scope.cats.c, .int .i64 p.least, .int .i64 p.rate, .int .i64 p.amount, .int .i64 p.buy, .int .i64 p.get, .slice l.parts.A l.parts.n l.parts.c, .slice l.tiers.A l.tiers.n l.tiers.c], .pointer (some ⟨w.heap.size, 0, none⟩), .bool false, .bool b3, .bool b4, .bool b5, .bool b6, .bool b7, .bool b8, .bool b9, u10, u11, u12, u13, u14, u15, u16, u17, u18, u19, u20, u21, u22, u23, u24, u25, u26, u27, u28, u29, u30, u31, u32, u33, u34, u35, u36, u37, u38, u39, u40, u41, u42, u43, u44, u45, u46, u47, u48, u49, u50, u51, u52, u53, u54, u55, u56, u57, u58, u59, u60, u61, u62, u63, u64, u65, u66, u67, u68, u69, u70, u71, u72, u73, u74, u75, u76, u77, u78, u79, u80, u81, u82, u83, u84, u85, u86, u87, u88, u89, u90, u91, u92, u93, u94, u95, u96, u97, u98, u99, u100, u101, u102, u103, u104, u105, u106, u107, u108, u109, u110, u111, u112, u113, u114, u115, u116, u117, u118, u119, u120, u121, u122, u123, u124, u125, u126, u127, u128, u129, u130, u131, u132, u133, u134, u135, u136, u137, u138, u139, u140, u141, u142, u143, u144, u145, u146, u147, u148, u149, u150, u151, u152, u153, u154, u155, u156, u157, u158, u159, u160, u161, u162, u163, u164, u165, u166, u167, u168, u169, u170, u171, u172, u173, u174, u175, u176, u177, u178, u179, u180, u181, u182, u183, u184, u185, u186, u187, u188, u189, u190, u191, u192, u193, u194, u195, u196, u197, u198, u199, u200, u201, u202, u203, u204, u205, u206, u207, u208, u209, u210, u211, u212, u213, u214, u215, u216, u217, u218, u219, u220, u221, u222, u223, u224, u225, u226, u227, u228, u229, u230, u231, u232, u233, u234, u235, u236, u237, u238, u239, u240], []⟩ wc := by
  conv => arg 2; whnf
  have hW := Lib.hid (And.intro h.box h.below)
  have y1 := hW.out.1.cell 1
  have y5 := hW.out.1.cell 5
  have y10 := hW.out.1.cell 10
  have y11 := hW.out.1.cell 11
  have y12 := hW.out.1.cell 12
  have y13 := hW.out.1.cell 13
  have y14 := hW.out.1.cell 14
  have HP := Lib.hid (rparts_any l.parts.A l.parts.n l.parts.c p.parts wc ((h.holds.parts.row.below h.below (Nat.le_refl _)).more fun b hb => Nat.lt_of_lt_of_le hb h.below.size) h.small h.np)
  have hI : ∀ W, Calls Tryz.prog 66 #[.int .i64 p.amount, .int .i64 10000000000000] W fun e w' => e = .returned (.bool (inB p.amount 10000000000000)) /\ w' = W := fun W => Py.rin_any p.amount 10000000000000 W
  have HI := Lib.hid hI
  clear hI
  have q1 : (p.kind == 1) = false := beq_eq_false_iff_ne.2 (by omega)
  have q2 : (p.kind == 2) = false := beq_eq_false_iff_ne.2 (by omega)
  have q3 : (p.kind == 3) = false := beq_eq_false_iff_ne.2 (by omega)
  have q4 : (p.kind == 4) = true := beq_iff_eq.2 hk
  have HK : Hid (promoB p = (b3 && inB p.amount 10000000000000 && b5 && partsB p.parts && b7 && b8)) := Lib.hid (by
    rw [h.head]
    obtain ⟨_, rfl, rfl, rfl, rfl, rfl, rfl, rfl, _, _, _, _, _, _⟩ := h
    unfold kindB
    rw [if_neg (show ¬ p.kind = 1 by omega)]
    rw [if_neg (show ¬ p.kind = 2 by omega)]
    rw [if_neg (show ¬ p.kind = 3 by omega)]
    rw [if_pos hk])
  clear h hk
  cases b3 with
  | false =>
    have HG : Hid (promoB p = false) := Lib.hid (by rw [HK.out]; rfl)
    go_wp2
    go_ret
    exact ⟨by rw [HG.out]; rfl, hW.out.2⟩
  | true =>
    cases k0 : inB p.amount 10000000000000 with
    | false =>
      simp only [k0] at HI
      have HG : Hid (promoB p = false) := Lib.hid (by rw [HK.out, k0]; rfl)
      go_wp2_with fail
      refine (HI.out _).mono ?_
      rintro e v1 ⟨rfl, rfl⟩
      go_wp2
      go_ret
      exact ⟨by rw [HG.out]; rfl, hW.out.2⟩
    | true =>
      simp only [k0] at HI
      cases b5 with
      | false =>
        have HG : Hid (promoB p = false) := Lib.hid (by rw [HK.out, k0]; rfl)
        go_wp2_with fail
        refine (HI.out _).mono ?_
        rintro e v1 ⟨rfl, rfl⟩
        go_wp2
        go_ret
        exact ⟨by rw [HG.out]; rfl, hW.out.2⟩
      | true =>
        cases k1 : partsB p.parts with
        | false =>
          simp only [k1] at HP
          have HG : Hid (promoB p = false) := Lib.hid (by rw [HK.out, k0, k1]; rfl)
          go_wp2_with fail
          refine (HI.out _).mono ?_
          rintro e v1 ⟨rfl, rfl⟩
          go_wp2_with fail
          refine HP.out.mono ?_
          rintro e u1 ⟨rfl, hb9⟩
          have HB9 := Lib.hid (hW.out.2.trans (hb9.mono hW.out.2.size))
          clear hb9
          go_wp2
          go_ret
          exact ⟨by rw [HG.out]; rfl, HB9.out⟩
        | true =>
          simp only [k1] at HP
          cases b7 with
          | false =>
            have HG : Hid (promoB p = false) := Lib.hid (by rw [HK.out, k0, k1]; rfl)
            go_wp2_with fail
            refine (HI.out _).mono ?_
            rintro e v1 ⟨rfl, rfl⟩
            go_wp2_with fail
            refine HP.out.mono ?_
            rintro e u1 ⟨rfl, hb9⟩
            have HB9 := Lib.hid (hW.out.2.trans (hb9.mono hW.out.2.size))
            clear hb9
            go_wp2
            go_ret
            exact ⟨by rw [HG.out]; rfl, HB9.out⟩
          | true =>
            cases b8 with
            | false =>
              have HG : Hid (promoB p = false) := Lib.hid (by rw [HK.out, k0, k1]; rfl)
              go_wp2_with fail
              refine (HI.out _).mono ?_
              rintro e v1 ⟨rfl, rfl⟩
              go_wp2_with fail
              refine HP.out.mono ?_
              rintro e u1 ⟨rfl, hb9⟩
              have HB9 := Lib.hid (hW.out.2.trans (hb9.mono hW.out.2.size))
              clear hb9
              go_wp2
              go_ret
              exact ⟨by rw [HG.out]; rfl, HB9.out⟩
            | true =>
              have HG : Hid (promoB p = true) := Lib.hid (by rw [HK.out, k0, k1]; rfl)
              go_wp2_with fail
              refine (HI.out _).mono ?_
              rintro e v1 ⟨rfl, rfl⟩
              go_wp2_with fail
              refine HP.out.mono ?_
              rintro e u1 ⟨rfl, hb9⟩
              have HB9 := Lib.hid (hW.out.2.trans (hb9.mono hW.out.2.size))
              clear hb9
              go_wp2
              go_ret
              exact ⟨by rw [HG.out]; rfl, HB9.out⟩
set_option maxRecDepth 1000000 in
set_option maxHeartbeats 4000000 in
theorem kind_7 (p : Prm) (l : Prm.Lay) (w wc : World) (b3 b4 b5 b6 b7 b8 b9 : Bool) (u10 u11 u12 u13 u14 u15 u16 u17 u18 u19 u20 u21 u22 u23 u24 u25 u26 u27 u28 u29 u30 u31 u32 u33 u34 u35 u36 u37 u38 u39 u40 u41 u42 u43 u44 u45 u46 u47 u48 u49 u50 u51 u52 u53 u54 u55 u56 u57 u58 u59 u60 u61 u62 u63 u64 u65 u66 u67 u68 u69 u70 u71 u72 u73 u74 u75 u76 u77 u78 u79 u80 u81 u82 u83 u84 u85 u86 u87 u88 u89 u90 u91 u92 u93 u94 u95 u96 u97 u98 u99 u100 u101 u102 u103 u104 u105 u106 u107 u108 u109 u110 u111 u112 u113 u114 u115 u116 u117 u118 u119 u120 u121 u122 u123 u124 u125 u126 u127 u128 u129 u130 u131 u132 u133 u134 u135 u136 u137 u138 u139 u140 u141 u142 u143 u144 u145 u146 u147 u148 u149 u150 u151 u152 u153 u154 u155 u156 u157 u158 u159 u160 u161 u162 u163 u164 u165 u166 u167 u168 u169 u170 u171 u172 u173 u174 u175 u176 u177 u178 u179 u180 u181 u182 u183 u184 u185 u186 u187 u188 u189 u190 u191 u192 u193 u194 u195 u196 u197 u198 u199 u200 u201 u202 u203 u204 u205 u206 u207 u208 u209 u210 u211 u212 u213 u214 u215 u216 u217 u218 u219 u220 u221 u222 u223 u224 u225 u226 u227 u228 u229 u230 u231 u232 u233 u234 u235 u236 u237 u238 u239 u240 : Value) (h : Known p l w wc b3 b4 b5 b6 b7 b8 b9) (hk : p.kind = 7) :
    Code.wp Tryz.prog tail (bodyPost Tryz.prog Tryz.f31 fun e w' => e = .returned (.bool (promoB p)) /\ Below w.heap.size w w') ⟨#[.agg #[.string p.id, .int .i64 p.kind, .int .i64 p.priority, .string p.group, .string p.code, .bool p.closes, .slice l.scope.skus.A l.scope.skus.n l.scope.skus.c, .slice l.scope.cats.A l.scope.cats.n l.scope.cats.c, .int .i64 p.least, .int .i64 p.rate, .int .i64 p.amount, .int .i64 p.buy, .int .i64 p.get, .slice l.parts.A l.parts.n l.parts.c, .slice l.tiers.A l.tiers.n l.tiers.c], .pointer (some ⟨w.heap.size, 0, none⟩), .bool false, .bool b3, .bool b4, .bool b5, .bool b6, .bool b7, .bool b8, .bool b9, u10, u11, u12, u13, u14, u15, u16, u17, u18, u19, u20, u21, u22, u23, u24, u25, u26, u27, u28, u29, u30, u31, u32, u33, u34, u35, u36, u37, u38, u39, u40, u41, u42, u43, u44, u45, u46, u47, u48, u49, u50, u51, u52, u53, u54, u55, u56, u57, u58, u59, u60, u61, u62, u63, u64, u65, u66, u67, u68, u69, u70, u71, u72, u73, u74, u75, u76, u77, u78, u79, u80, u81, u82, u83, u84, u85, u86, u87, u88, u89, u90, u91, u92, u93, u94, u95, u96, u97, u98, u99, u100, u101, u102, u103, u104, u105, u106, u107, u108, u109, u110, u111, u112, u113, u114, u115, u116, u117, u118, u119, u120, u121, u122, u123, u124, u125, u126, u127, u128, u129, u130, u131, u132, u133, u134, u135, u136, u137, u138, u139, u140, u141, u142, u143, u144, u145, u146, u147, u148, u149, u150, u151, u152, u153, u154, u155, u156, u157, u158, u159, u160, u161, u162, u163, u164, u165, u166, u167, u168, u169, u170, u171, u172, u173, u174, u175, u176, u177, u178, u179, u180, u181, u182, u183, u184, u185, u186, u187, u188, u189, u190, u191, u192, u193, u194, u195, u196, u197, u198, u199, u200, u201, u202, u203, u204, u205, u206, u207, u208, u209, u210, u211, u212, u213, u214, u215, u216, u217, u218, u219, u220, u221, u222, u223, u224, u225, u226, u227, u228, u229, u230, u231, u232, u233, u234, u235, u236, u237, u238, u239, u240], []⟩ wc := by
  conv => arg 2; whnf
  have hW := Lib.hid (And.intro h.box h.below)
  have y1 := hW.out.1.cell 1
  have y5 := hW.out.1.cell 5
  have y10 := hW.out.1.cell 10
  have y11 := hW.out.1.cell 11
  have y12 := hW.out.1.cell 12
  have y13 := hW.out.1.cell 13
  have y14 := hW.out.1.cell 14
  have q1 : (p.kind == 1) = false := beq_eq_false_iff_ne.2 (by omega)
  have q2 : (p.kind == 2) = false := beq_eq_false_iff_ne.2 (by omega)
  have q3 : (p.kind == 3) = false := beq_eq_false_iff_ne.2 (by omega)
  have q4 : (p.kind == 4) = false := beq_eq_false_iff_ne.2 (by omega)
  have q7 : (p.kind == 7) = true := beq_iff_eq.2 hk
  have HK : Hid (promoB p = (b9 && b4 && b5 && b6 && b7 && b8 && !p.closes)) := Lib.hid (by
    rw [h.head]
    obtain ⟨_, rfl, rfl, rfl, rfl, rfl, rfl, rfl, _, _, _, _, _, _⟩ := h
    unfold kindB
    rw [if_neg (show ¬ p.kind = 1 by omega)]
    rw [if_neg (show ¬ p.kind = 2 by omega)]
    rw [if_neg (show ¬ p.kind = 3 by omega)]
    rw [if_neg (show ¬ p.kind = 4 by omega)]
    rw [if_pos hk])
  clear h hk
  cases b9 with
  | false =>
    have HG : Hid (promoB p = false) := Lib.hid (by rw [HK.out]; rfl)
    go_wp2
    go_ret
    exact ⟨by rw [HG.out]; rfl, hW.out.2⟩
  | true =>
    cases b4 with
    | false =>
      have HG : Hid (promoB p = false) := Lib.hid (by rw [HK.out]; rfl)
      go_wp2
      go_ret
      exact ⟨by rw [HG.out]; rfl, hW.out.2⟩
    | true =>
      cases b5 with
      | false =>
        have HG : Hid (promoB p = false) := Lib.hid (by rw [HK.out]; rfl)
        go_wp2
        go_ret
        exact ⟨by rw [HG.out]; rfl, hW.out.2⟩
      | true =>
        cases b6 with
        | false =>
          have HG : Hid (promoB p = false) := Lib.hid (by rw [HK.out]; rfl)
          go_wp2
          go_ret
          exact ⟨by rw [HG.out]; rfl, hW.out.2⟩
        | true =>
          cases b7 with
          | false =>
            have HG : Hid (promoB p = false) := Lib.hid (by rw [HK.out]; rfl)
            go_wp2
            go_ret
            exact ⟨by rw [HG.out]; rfl, hW.out.2⟩
          | true =>
            cases b8 with
            | false =>
              have HG : Hid (promoB p = false) := Lib.hid (by rw [HK.out]; rfl)
              go_wp2
              go_ret
              exact ⟨by rw [HG.out]; rfl, hW.out.2⟩
            | true =>
              cases k0 : p.closes with
              | true =>
                have HG : Hid (promoB p = false) := Lib.hid (by rw [HK.out, k0]; rfl)
                go_wp2
                go_ret
                exact ⟨by rw [HG.out]; rfl, hW.out.2⟩
              | false =>
                have HG : Hid (promoB p = true) := Lib.hid (by rw [HK.out, k0]; rfl)
                go_wp2
                go_ret
                exact ⟨by rw [HG.out]; rfl, hW.out.2⟩
set_option maxRecDepth 1000000 in
set_option maxHeartbeats 4000000 in
theorem kind_0 (p : Prm) (l : Prm.Lay) (w wc : World) (b3 b4 b5 b6 b7 b8 b9 : Bool) (u10 u11 u12 u13 u14 u15 u16 u17 u18 u19 u20 u21 u22 u23 u24 u25 u26 u27 u28 u29 u30 u31 u32 u33 u34 u35 u36 u37 u38 u39 u40 u41 u42 u43 u44 u45 u46 u47 u48 u49 u50 u51 u52 u53 u54 u55 u56 u57 u58 u59 u60 u61 u62 u63 u64 u65 u66 u67 u68 u69 u70 u71 u72 u73 u74 u75 u76 u77 u78 u79 u80 u81 u82 u83 u84 u85 u86 u87 u88 u89 u90 u91 u92 u93 u94 u95 u96 u97 u98 u99 u100 u101 u102 u103 u104 u105 u106 u107 u108 u109 u110 u111 u112 u113 u114 u115 u116 u117 u118 u119 u120 u121 u122 u123 u124 u125 u126 u127 u128 u129 u130 u131 u132 u133 u134 u135 u136 u137 u138 u139 u140 u141 u142 u143 u144 u145 u146 u147 u148 u149 u150 u151 u152 u153 u154 u155 u156 u157 u158 u159 u160 u161 u162 u163 u164 u165 u166 u167 u168 u169 u170 u171 u172 u173 u174 u175 u176 u177 u178 u179 u180 u181 u182 u183 u184 u185 u186 u187 u188 u189 u190 u191 u192 u193 u194 u195 u196 u197 u198 u199 u200 u201 u202 u203 u204 u205 u206 u207 u208 u209 u210 u211 u212 u213 u214 u215 u216 u217 u218 u219 u220 u221 u222 u223 u224 u225 u226 u227 u228 u229 u230 u231 u232 u233 u234 u235 u236 u237 u238 u239 u240 : Value) (h : Known p l w wc b3 b4 b5 b6 b7 b8 b9) (hk : p.kind ≠ 1 /\ p.kind ≠ 2 /\ p.kind ≠ 3 /\ p.kind ≠ 4 /\ p.kind ≠ 7) :
    Code.wp Tryz.prog tail (bodyPost Tryz.prog Tryz.f31 fun e w' => e = .returned (.bool (promoB p)) /\ Below w.heap.size w w') ⟨#[.agg #[.string p.id, .int .i64 p.kind, .int .i64 p.priority, .string p.group, .string p.code, .bool p.closes, .slice l.scope.skus.A l.scope.skus.n l.scope.skus.c, .slice l.scope.cats.A l.scope.cats.n l.scope.cats.c, .int .i64 p.least, .int .i64 p.rate, .int .i64 p.amount, .int .i64 p.buy, .int .i64 p.get, .slice l.parts.A l.parts.n l.parts.c, .slice l.tiers.A l.tiers.n l.tiers.c], .pointer (some ⟨w.heap.size, 0, none⟩), .bool false, .bool b3, .bool b4, .bool b5, .bool b6, .bool b7, .bool b8, .bool b9, u10, u11, u12, u13, u14, u15, u16, u17, u18, u19, u20, u21, u22, u23, u24, u25, u26, u27, u28, u29, u30, u31, u32, u33, u34, u35, u36, u37, u38, u39, u40, u41, u42, u43, u44, u45, u46, u47, u48, u49, u50, u51, u52, u53, u54, u55, u56, u57, u58, u59, u60, u61, u62, u63, u64, u65, u66, u67, u68, u69, u70, u71, u72, u73, u74, u75, u76, u77, u78, u79, u80, u81, u82, u83, u84, u85, u86, u87, u88, u89, u90, u91, u92, u93, u94, u95, u96, u97, u98, u99, u100, u101, u102, u103, u104, u105, u106, u107, u108, u109, u110, u111, u112, u113, u114, u115, u116, u117, u118, u119, u120, u121, u122, u123, u124, u125, u126, u127, u128, u129, u130, u131, u132, u133, u134, u135, u136, u137, u138, u139, u140, u141, u142, u143, u144, u145, u146, u147, u148, u149, u150, u151, u152, u153, u154, u155, u156, u157, u158, u159, u160, u161, u162, u163, u164, u165, u166, u167, u168, u169, u170, u171, u172, u173, u174, u175, u176, u177, u178, u179, u180, u181, u182, u183, u184, u185, u186, u187, u188, u189, u190, u191, u192, u193, u194, u195, u196, u197, u198, u199, u200, u201, u202, u203, u204, u205, u206, u207, u208, u209, u210, u211, u212, u213, u214, u215, u216, u217, u218, u219, u220, u221, u222, u223, u224, u225, u226, u227, u228, u229, u230, u231, u232, u233, u234, u235, u236, u237, u238, u239, u240], []⟩ wc := by
  conv => arg 2; whnf
  have hW := Lib.hid (And.intro h.box h.below)
  have y1 := hW.out.1.cell 1
  have y5 := hW.out.1.cell 5
  have y10 := hW.out.1.cell 10
  have y11 := hW.out.1.cell 11
  have y12 := hW.out.1.cell 12
  have y13 := hW.out.1.cell 13
  have y14 := hW.out.1.cell 14
  have HT := Lib.hid (rtiers_any l.tiers.A l.tiers.n l.tiers.c p.tiers wc ((h.holds.tiers.row.below h.below (Nat.le_refl _)).more fun b hb => Nat.lt_of_lt_of_le hb h.below.size) h.nt)
  have q1 : (p.kind == 1) = false := beq_eq_false_iff_ne.2 (by omega)
  have q2 : (p.kind == 2) = false := beq_eq_false_iff_ne.2 (by omega)
  have q3 : (p.kind == 3) = false := beq_eq_false_iff_ne.2 (by omega)
  have q4 : (p.kind == 4) = false := beq_eq_false_iff_ne.2 (by omega)
  have q7 : (p.kind == 7) = false := beq_eq_false_iff_ne.2 (by omega)
  have HK : Hid (promoB p = (b3 && b4 && b5 && b6 && tiersB p.tiers)) := Lib.hid (by
    rw [h.head]
    obtain ⟨_, rfl, rfl, rfl, rfl, rfl, rfl, rfl, _, _, _, _, _, _⟩ := h
    unfold kindB
    rw [if_neg (show ¬ p.kind = 1 by omega)]
    rw [if_neg (show ¬ p.kind = 2 by omega)]
    rw [if_neg (show ¬ p.kind = 3 by omega)]
    rw [if_neg (show ¬ p.kind = 4 by omega)]
    rw [if_neg (show ¬ p.kind = 7 by omega)])
  clear h hk
  cases b3 with
  | false =>
    have HG : Hid (promoB p = false) := Lib.hid (by rw [HK.out]; rfl)
    go_wp2
    go_ret
    exact ⟨by rw [HG.out]; rfl, hW.out.2⟩
  | true =>
    cases b4 with
    | false =>
      have HG : Hid (promoB p = false) := Lib.hid (by rw [HK.out]; rfl)
      go_wp2
      go_ret
      exact ⟨by rw [HG.out]; rfl, hW.out.2⟩
    | true =>
      cases b5 with
      | false =>
        have HG : Hid (promoB p = false) := Lib.hid (by rw [HK.out]; rfl)
        go_wp2
        go_ret
        exact ⟨by rw [HG.out]; rfl, hW.out.2⟩
      | true =>
        cases b6 with
        | false =>
          have HG : Hid (promoB p = false) := Lib.hid (by rw [HK.out]; rfl)
          go_wp2
          go_ret
          exact ⟨by rw [HG.out]; rfl, hW.out.2⟩
        | true =>
          cases k0 : tiersB p.tiers with
          | false =>
            simp only [k0] at HT
            have HG : Hid (promoB p = false) := Lib.hid (by rw [HK.out, k0]; rfl)
            go_wp2_with fail
            refine HT.out.mono ?_
            rintro e u1 ⟨rfl, hb9⟩
            have HB9 := Lib.hid (hW.out.2.trans (hb9.mono hW.out.2.size))
            clear hb9
            go_wp2
            go_ret
            exact ⟨by rw [HG.out]; rfl, HB9.out⟩
          | true =>
            simp only [k0] at HT
            have HG : Hid (promoB p = true) := Lib.hid (by rw [HK.out, k0]; rfl)
            go_wp2_with fail
            refine HT.out.mono ?_
            rintro e u1 ⟨rfl, hb9⟩
            have HB9 := Lib.hid (hW.out.2.trans (hb9.mono hW.out.2.size))
            clear hb9
            go_wp2
            go_ret
            exact ⟨by rw [HG.out]; rfl, HB9.out⟩
end Go.Proofs.YtljmddjlnlmenaaGreat.Pr
