/- The document's Promo, from its flags on. (made by wip/gen-rpromo.py) -/
import Derived.Test.YtgimcleeamlgcaaPrK
import Derived.Test.YtgimcleeamlgcaaPrS
import Derived.Deep.CutBlock
import Derived.Deep.DeepCutAuto
set_option maxRecDepth 100000

set_option linter.unusedVariables false
namespace Go.Proofs.Ytgimcleeamlgcaa.Pr
open Go.ChangeShapes Go.WideShapes Go.ChangeAt Go.RowKit
open Ap (Scp Prt Tir Prm kPrt kTir kPrm row_Prt row_Tir row_Prm)
open Kd (Row Fit Lst Sl kStr kInt kList row_str)

set_option maxRecDepth 1000000 in
set_option maxHeartbeats 8000000 in
theorem kinds_any (p : Prm) (l : Prm.Lay) (w wc : World) (b3 b4 b5 b6 b7 b8 b9 : Bool) (u10 u11 u12 u13 u14 u15 u16 u17 u18 u19 u20 u21 u22 u23 u24 u25 u26 u27 u28 u29 u30 u31 u32 u33 u34 u35 u36 u37 u38 u39 u40 u41 u42 u43 u44 u45 u46 u47 u48 u49 u50 u51 u52 u53 u54 u55 u56 u57 u58 u59 u60 u61 u62 u63 u64 u65 u66 u67 u68 u69 u70 u71 u72 u73 u74 u75 u76 u77 u78 u79 u80 u81 u82 u83 u84 u85 u86 u87 u88 u89 u90 u91 u92 u93 u94 u95 u96 u97 u98 u99 u100 u101 u102 u103 u104 u105 u106 u107 u108 u109 u110 u111 u112 u113 u114 u115 u116 u117 u118 u119 u120 u121 u122 u123 u124 u125 u126 u127 u128 u129 u130 u131 u132 u133 u134 u135 u136 u137 u138 u139 u140 u141 u142 u143 u144 u145 u146 u147 u148 u149 u150 u151 u152 u153 u154 u155 u156 u157 u158 u159 u160 u161 u162 u163 u164 u165 u166 u167 u168 u169 u170 u171 u172 u173 u174 u175 u176 u177 u178 u179 u180 u181 u182 u183 u184 u185 u186 u187 u188 u189 u190 u191 u192 u193 u194 u195 u196 u197 u198 u199 u200 u201 u202 u203 u204 u205 u206 u207 u208 u209 u210 u211 u212 u213 u214 u215 u216 u217 u218 u219 u220 u221 u222 u223 u224 u225 u226 u227 u228 u229 u230 u231 u232 u233 u234 u235 u236 u237 u238 u239 u240 : Value) (h : Known p l w wc b3 b4 b5 b6 b7 b8 b9) :
    Code.wp Try.prog tail (bodyPost Try.prog Try.f12 fun e w' => e = .returned (.bool (promoB p)) ∧ Below w.heap.size w w') ⟨#[.agg #[.string p.id, .int .i64 p.kind, .int .i64 p.priority, .string p.group, .string p.code, .bool p.closes, .slice l.scope.skus.A l.scope.skus.n l.scope.skus.c, .slice l.scope.cats.A l.scope.cats.n l.scope.cats.c, .int .i64 p.least, .int .i64 p.rate, .int .i64 p.amount, .int .i64 p.buy, .int .i64 p.get, .slice l.parts.A l.parts.n l.parts.c, .slice l.tiers.A l.tiers.n l.tiers.c], .pointer (some ⟨w.heap.size, 0, none⟩), .bool false, .bool b3, .bool b4, .bool b5, .bool b6, .bool b7, .bool b8, .bool b9, u10, u11, u12, u13, u14, u15, u16, u17, u18, u19, u20, u21, u22, u23, u24, u25, u26, u27, u28, u29, u30, u31, u32, u33, u34, u35, u36, u37, u38, u39, u40, u41, u42, u43, u44, u45, u46, u47, u48, u49, u50, u51, u52, u53, u54, u55, u56, u57, u58, u59, u60, u61, u62, u63, u64, u65, u66, u67, u68, u69, u70, u71, u72, u73, u74, u75, u76, u77, u78, u79, u80, u81, u82, u83, u84, u85, u86, u87, u88, u89, u90, u91, u92, u93, u94, u95, u96, u97, u98, u99, u100, u101, u102, u103, u104, u105, u106, u107, u108, u109, u110, u111, u112, u113, u114, u115, u116, u117, u118, u119, u120, u121, u122, u123, u124, u125, u126, u127, u128, u129, u130, u131, u132, u133, u134, u135, u136, u137, u138, u139, u140, u141, u142, u143, u144, u145, u146, u147, u148, u149, u150, u151, u152, u153, u154, u155, u156, u157, u158, u159, u160, u161, u162, u163, u164, u165, u166, u167, u168, u169, u170, u171, u172, u173, u174, u175, u176, u177, u178, u179, u180, u181, u182, u183, u184, u185, u186, u187, u188, u189, u190, u191, u192, u193, u194, u195, u196, u197, u198, u199, u200, u201, u202, u203, u204, u205, u206, u207, u208, u209, u210, u211, u212, u213, u214, u215, u216, u217, u218, u219, u220, u221, u222, u223, u224, u225, u226, u227, u228, u229, u230, u231, u232, u233, u234, u235, u236, u237, u238, u239, u240], []⟩ wc := by
  by_cases e1 : p.kind = 1
  · exact kind_1 p l w wc b3 b4 b5 b6 b7 b8 b9 u10 u11 u12 u13 u14 u15 u16 u17 u18 u19 u20 u21 u22 u23 u24 u25 u26 u27 u28 u29 u30 u31 u32 u33 u34 u35 u36 u37 u38 u39 u40 u41 u42 u43 u44 u45 u46 u47 u48 u49 u50 u51 u52 u53 u54 u55 u56 u57 u58 u59 u60 u61 u62 u63 u64 u65 u66 u67 u68 u69 u70 u71 u72 u73 u74 u75 u76 u77 u78 u79 u80 u81 u82 u83 u84 u85 u86 u87 u88 u89 u90 u91 u92 u93 u94 u95 u96 u97 u98 u99 u100 u101 u102 u103 u104 u105 u106 u107 u108 u109 u110 u111 u112 u113 u114 u115 u116 u117 u118 u119 u120 u121 u122 u123 u124 u125 u126 u127 u128 u129 u130 u131 u132 u133 u134 u135 u136 u137 u138 u139 u140 u141 u142 u143 u144 u145 u146 u147 u148 u149 u150 u151 u152 u153 u154 u155 u156 u157 u158 u159 u160 u161 u162 u163 u164 u165 u166 u167 u168 u169 u170 u171 u172 u173 u174 u175 u176 u177 u178 u179 u180 u181 u182 u183 u184 u185 u186 u187 u188 u189 u190 u191 u192 u193 u194 u195 u196 u197 u198 u199 u200 u201 u202 u203 u204 u205 u206 u207 u208 u209 u210 u211 u212 u213 u214 u215 u216 u217 u218 u219 u220 u221 u222 u223 u224 u225 u226 u227 u228 u229 u230 u231 u232 u233 u234 u235 u236 u237 u238 u239 u240 h e1
  by_cases e2 : p.kind = 2
  · exact kind_2 p l w wc b3 b4 b5 b6 b7 b8 b9 u10 u11 u12 u13 u14 u15 u16 u17 u18 u19 u20 u21 u22 u23 u24 u25 u26 u27 u28 u29 u30 u31 u32 u33 u34 u35 u36 u37 u38 u39 u40 u41 u42 u43 u44 u45 u46 u47 u48 u49 u50 u51 u52 u53 u54 u55 u56 u57 u58 u59 u60 u61 u62 u63 u64 u65 u66 u67 u68 u69 u70 u71 u72 u73 u74 u75 u76 u77 u78 u79 u80 u81 u82 u83 u84 u85 u86 u87 u88 u89 u90 u91 u92 u93 u94 u95 u96 u97 u98 u99 u100 u101 u102 u103 u104 u105 u106 u107 u108 u109 u110 u111 u112 u113 u114 u115 u116 u117 u118 u119 u120 u121 u122 u123 u124 u125 u126 u127 u128 u129 u130 u131 u132 u133 u134 u135 u136 u137 u138 u139 u140 u141 u142 u143 u144 u145 u146 u147 u148 u149 u150 u151 u152 u153 u154 u155 u156 u157 u158 u159 u160 u161 u162 u163 u164 u165 u166 u167 u168 u169 u170 u171 u172 u173 u174 u175 u176 u177 u178 u179 u180 u181 u182 u183 u184 u185 u186 u187 u188 u189 u190 u191 u192 u193 u194 u195 u196 u197 u198 u199 u200 u201 u202 u203 u204 u205 u206 u207 u208 u209 u210 u211 u212 u213 u214 u215 u216 u217 u218 u219 u220 u221 u222 u223 u224 u225 u226 u227 u228 u229 u230 u231 u232 u233 u234 u235 u236 u237 u238 u239 u240 h e2
  by_cases e3 : p.kind = 3
  · exact kind_3 p l w wc b3 b4 b5 b6 b7 b8 b9 u10 u11 u12 u13 u14 u15 u16 u17 u18 u19 u20 u21 u22 u23 u24 u25 u26 u27 u28 u29 u30 u31 u32 u33 u34 u35 u36 u37 u38 u39 u40 u41 u42 u43 u44 u45 u46 u47 u48 u49 u50 u51 u52 u53 u54 u55 u56 u57 u58 u59 u60 u61 u62 u63 u64 u65 u66 u67 u68 u69 u70 u71 u72 u73 u74 u75 u76 u77 u78 u79 u80 u81 u82 u83 u84 u85 u86 u87 u88 u89 u90 u91 u92 u93 u94 u95 u96 u97 u98 u99 u100 u101 u102 u103 u104 u105 u106 u107 u108 u109 u110 u111 u112 u113 u114 u115 u116 u117 u118 u119 u120 u121 u122 u123 u124 u125 u126 u127 u128 u129 u130 u131 u132 u133 u134 u135 u136 u137 u138 u139 u140 u141 u142 u143 u144 u145 u146 u147 u148 u149 u150 u151 u152 u153 u154 u155 u156 u157 u158 u159 u160 u161 u162 u163 u164 u165 u166 u167 u168 u169 u170 u171 u172 u173 u174 u175 u176 u177 u178 u179 u180 u181 u182 u183 u184 u185 u186 u187 u188 u189 u190 u191 u192 u193 u194 u195 u196 u197 u198 u199 u200 u201 u202 u203 u204 u205 u206 u207 u208 u209 u210 u211 u212 u213 u214 u215 u216 u217 u218 u219 u220 u221 u222 u223 u224 u225 u226 u227 u228 u229 u230 u231 u232 u233 u234 u235 u236 u237 u238 u239 u240 h e3
  by_cases e4 : p.kind = 4
  · exact kind_4 p l w wc b3 b4 b5 b6 b7 b8 b9 u10 u11 u12 u13 u14 u15 u16 u17 u18 u19 u20 u21 u22 u23 u24 u25 u26 u27 u28 u29 u30 u31 u32 u33 u34 u35 u36 u37 u38 u39 u40 u41 u42 u43 u44 u45 u46 u47 u48 u49 u50 u51 u52 u53 u54 u55 u56 u57 u58 u59 u60 u61 u62 u63 u64 u65 u66 u67 u68 u69 u70 u71 u72 u73 u74 u75 u76 u77 u78 u79 u80 u81 u82 u83 u84 u85 u86 u87 u88 u89 u90 u91 u92 u93 u94 u95 u96 u97 u98 u99 u100 u101 u102 u103 u104 u105 u106 u107 u108 u109 u110 u111 u112 u113 u114 u115 u116 u117 u118 u119 u120 u121 u122 u123 u124 u125 u126 u127 u128 u129 u130 u131 u132 u133 u134 u135 u136 u137 u138 u139 u140 u141 u142 u143 u144 u145 u146 u147 u148 u149 u150 u151 u152 u153 u154 u155 u156 u157 u158 u159 u160 u161 u162 u163 u164 u165 u166 u167 u168 u169 u170 u171 u172 u173 u174 u175 u176 u177 u178 u179 u180 u181 u182 u183 u184 u185 u186 u187 u188 u189 u190 u191 u192 u193 u194 u195 u196 u197 u198 u199 u200 u201 u202 u203 u204 u205 u206 u207 u208 u209 u210 u211 u212 u213 u214 u215 u216 u217 u218 u219 u220 u221 u222 u223 u224 u225 u226 u227 u228 u229 u230 u231 u232 u233 u234 u235 u236 u237 u238 u239 u240 h e4
  by_cases e7 : p.kind = 7
  · exact kind_7 p l w wc b3 b4 b5 b6 b7 b8 b9 u10 u11 u12 u13 u14 u15 u16 u17 u18 u19 u20 u21 u22 u23 u24 u25 u26 u27 u28 u29 u30 u31 u32 u33 u34 u35 u36 u37 u38 u39 u40 u41 u42 u43 u44 u45 u46 u47 u48 u49 u50 u51 u52 u53 u54 u55 u56 u57 u58 u59 u60 u61 u62 u63 u64 u65 u66 u67 u68 u69 u70 u71 u72 u73 u74 u75 u76 u77 u78 u79 u80 u81 u82 u83 u84 u85 u86 u87 u88 u89 u90 u91 u92 u93 u94 u95 u96 u97 u98 u99 u100 u101 u102 u103 u104 u105 u106 u107 u108 u109 u110 u111 u112 u113 u114 u115 u116 u117 u118 u119 u120 u121 u122 u123 u124 u125 u126 u127 u128 u129 u130 u131 u132 u133 u134 u135 u136 u137 u138 u139 u140 u141 u142 u143 u144 u145 u146 u147 u148 u149 u150 u151 u152 u153 u154 u155 u156 u157 u158 u159 u160 u161 u162 u163 u164 u165 u166 u167 u168 u169 u170 u171 u172 u173 u174 u175 u176 u177 u178 u179 u180 u181 u182 u183 u184 u185 u186 u187 u188 u189 u190 u191 u192 u193 u194 u195 u196 u197 u198 u199 u200 u201 u202 u203 u204 u205 u206 u207 u208 u209 u210 u211 u212 u213 u214 u215 u216 u217 u218 u219 u220 u221 u222 u223 u224 u225 u226 u227 u228 u229 u230 u231 u232 u233 u234 u235 u236 u237 u238 u239 u240 h e7
  exact kind_0 p l w wc b3 b4 b5 b6 b7 b8 b9 u10 u11 u12 u13 u14 u15 u16 u17 u18 u19 u20 u21 u22 u23 u24 u25 u26 u27 u28 u29 u30 u31 u32 u33 u34 u35 u36 u37 u38 u39 u40 u41 u42 u43 u44 u45 u46 u47 u48 u49 u50 u51 u52 u53 u54 u55 u56 u57 u58 u59 u60 u61 u62 u63 u64 u65 u66 u67 u68 u69 u70 u71 u72 u73 u74 u75 u76 u77 u78 u79 u80 u81 u82 u83 u84 u85 u86 u87 u88 u89 u90 u91 u92 u93 u94 u95 u96 u97 u98 u99 u100 u101 u102 u103 u104 u105 u106 u107 u108 u109 u110 u111 u112 u113 u114 u115 u116 u117 u118 u119 u120 u121 u122 u123 u124 u125 u126 u127 u128 u129 u130 u131 u132 u133 u134 u135 u136 u137 u138 u139 u140 u141 u142 u143 u144 u145 u146 u147 u148 u149 u150 u151 u152 u153 u154 u155 u156 u157 u158 u159 u160 u161 u162 u163 u164 u165 u166 u167 u168 u169 u170 u171 u172 u173 u174 u175 u176 u177 u178 u179 u180 u181 u182 u183 u184 u185 u186 u187 u188 u189 u190 u191 u192 u193 u194 u195 u196 u197 u198 u199 u200 u201 u202 u203 u204 u205 u206 u207 u208 u209 u210 u211 u212 u213 u214 u215 u216 u217 u218 u219 u220 u221 u222 u223 u224 u225 u226 u227 u228 u229 u230 u231 u232 u233 u234 u235 u236 u237 u238 u239 u240 h ⟨e1, e2, e3, e4, e7⟩

/-- The function's text from there on. -/
noncomputable def tail5 : Code := match Try.f12.body with
  | some (.seq _ (.seq _ (.seq _ (.seq _ c)))) => c
  | _ => .skip

set_option maxRecDepth 1000000 in
set_option maxHeartbeats 8000000 in
theorem at5 (p : Prm) (l : Prm.Lay) (w wc : World) (b3 b4 b5 b6 b7 b8 : Bool) (u9 u10 u11 u12 u13 u14 u15 u16 u17 u18 u19 u20 u21 u22 u23 u24 u25 u26 u27 u28 u29 u30 u31 u32 u33 u34 u35 u36 u37 u38 u39 u40 u41 u42 u43 u44 u45 u46 u47 u48 u49 u50 u51 u52 u53 u54 u55 u56 u57 u58 u59 u60 u61 u62 u63 u64 u65 u66 u67 u68 u69 u70 u71 u72 u73 u74 u75 u76 u77 u78 u79 u80 u81 u82 u83 u84 u85 u86 u87 u88 u89 u90 u91 u92 u93 u94 u95 u96 u97 u98 u99 u100 u101 u102 u103 u104 u105 u106 u107 u108 u109 u110 u111 u112 u113 u114 u115 u116 u117 u118 u119 u120 u121 u122 u123 u124 u125 u126 u127 u128 u129 u130 u131 u132 u133 u134 u135 u136 u137 u138 u139 u140 u141 u142 u143 u144 u145 u146 u147 u148 u149 u150 u151 u152 u153 u154 u155 u156 u157 u158 u159 u160 u161 u162 u163 u164 u165 u166 u167 u168 u169 u170 u171 u172 u173 u174 u175 u176 u177 u178 u179 u180 u181 u182 u183 u184 u185 u186 u187 u188 u189 u190 u191 u192 u193 u194 u195 u196 u197 u198 u199 u200 u201 u202 u203 u204 u205 u206 u207 u208 u209 u210 u211 u212 u213 u214 u215 u216 u217 u218 u219 u220 u221 u222 u223 u224 u225 u226 u227 u228 u229 u230 u231 u232 u233 u234 u235 u236 u237 u238 u239 u240 : Value) (v3 : b3 = (p.rate == 0)) (v4 : b4 = (p.amount == 0)) (v5 : b5 = noBuy p) (v6 : b6 = noParts p) (v7 : b7 = noTiers p) (v8 : b8 = allB p) (hp : promoB p = kindB p) (hbox : Qu.Blk wc w.heap.size 28 #[.string p.id, .int .i64 p.kind, .int .i64 p.priority, .string p.group, .string p.code, .bool p.closes, .slice l.scope.skus.A l.scope.skus.n l.scope.skus.c, .slice l.scope.cats.A l.scope.cats.n l.scope.cats.c, .int .i64 p.least, .int .i64 p.rate, .int .i64 p.amount, .int .i64 p.buy, .int .i64 p.get, .slice l.parts.A l.parts.n l.parts.c, .slice l.tiers.A l.tiers.n l.tiers.c]) (hbel : Below w.heap.size w wc) (hh : Prm.Holds w (· < w.heap.size) p l) (hS : PrmSmall p l) :
    Code.wp Try.prog tail5 (bodyPost Try.prog Try.f12 fun e w' => e = .returned (.bool (promoB p)) ∧ Below w.heap.size w w') ⟨#[.agg #[.string p.id, .int .i64 p.kind, .int .i64 p.priority, .string p.group, .string p.code, .bool p.closes, .slice l.scope.skus.A l.scope.skus.n l.scope.skus.c, .slice l.scope.cats.A l.scope.cats.n l.scope.cats.c, .int .i64 p.least, .int .i64 p.rate, .int .i64 p.amount, .int .i64 p.buy, .int .i64 p.get, .slice l.parts.A l.parts.n l.parts.c, .slice l.tiers.A l.tiers.n l.tiers.c], .pointer (some ⟨w.heap.size, 0, none⟩), .bool false, .bool b3, .bool b4, .bool b5, .bool b6, .bool b7, .bool b8, u9, u10, u11, u12, u13, u14, u15, u16, u17, u18, u19, u20, u21, u22, u23, u24, u25, u26, u27, u28, u29, u30, u31, u32, u33, u34, u35, u36, u37, u38, u39, u40, u41, u42, u43, u44, u45, u46, u47, u48, u49, u50, u51, u52, u53, u54, u55, u56, u57, u58, u59, u60, u61, u62, u63, u64, u65, u66, u67, u68, u69, u70, u71, u72, u73, u74, u75, u76, u77, u78, u79, u80, u81, u82, u83, u84, u85, u86, u87, u88, u89, u90, u91, u92, u93, u94, u95, u96, u97, u98, u99, u100, u101, u102, u103, u104, u105, u106, u107, u108, u109, u110, u111, u112, u113, u114, u115, u116, u117, u118, u119, u120, u121, u122, u123, u124, u125, u126, u127, u128, u129, u130, u131, u132, u133, u134, u135, u136, u137, u138, u139, u140, u141, u142, u143, u144, u145, u146, u147, u148, u149, u150, u151, u152, u153, u154, u155, u156, u157, u158, u159, u160, u161, u162, u163, u164, u165, u166, u167, u168, u169, u170, u171, u172, u173, u174, u175, u176, u177, u178, u179, u180, u181, u182, u183, u184, u185, u186, u187, u188, u189, u190, u191, u192, u193, u194, u195, u196, u197, u198, u199, u200, u201, u202, u203, u204, u205, u206, u207, u208, u209, u210, u211, u212, u213, u214, u215, u216, u217, u218, u219, u220, u221, u222, u223, u224, u225, u226, u227, u228, u229, u230, u231, u232, u233, u234, u235, u236, u237, u238, u239, u240], []⟩ wc := by
  conv => arg 2; whnf
  try dsimp only
  have HV := Lib.hid (And.intro v3 (And.intro v4 (And.intro v5 (And.intro v6 (And.intro v7 v8)))))
  have HH := Lib.hid (And.intro hp (And.intro hh hS))
  have hC4 := Lib.hid (And.intro hbox hbel)
  have y9 := hbox.cell 9
  clear v3 v4 v5 v6 v7 v8 hp hh hS hbox hbel
  go_upto_region 5 with (fail)
  go_cut [9] (fun s9 wx => ∃ b9 : Bool, s9 = .bool b9 ∧ Hid (b9 = someB p ∧ Qu.Blk wx w.heap.size 28 #[.string p.id, .int .i64 p.kind, .int .i64 p.priority, .string p.group, .string p.code, .bool p.closes, .slice l.scope.skus.A l.scope.skus.n l.scope.skus.c, .slice l.scope.cats.A l.scope.cats.n l.scope.cats.c, .int .i64 p.least, .int .i64 p.rate, .int .i64 p.amount, .int .i64 p.buy, .int .i64 p.get, .slice l.parts.A l.parts.n l.parts.c, .slice l.tiers.A l.tiers.n l.tiers.c] ∧ Below w.heap.size w wx))
  case first =>
    cases e5 : decide (1 ≤ p.rate) with
    | false =>
      have H5 : Hid (false = someB p) := Lib.hid (by unfold someB; rw [e5]; rfl)
      go_wp2_with fail
      go_meet
      exact ⟨_, rfl, Lib.hid ⟨H5.out, hC4.out⟩⟩
    | true =>
      have H5 : Hid (decide (p.rate ≤ 10000) = someB p) := Lib.hid (by unfold someB; rw [e5]; rfl)
      go_wp2_with fail
      go_meet
      exact ⟨_, rfl, Lib.hid ⟨H5.out, hC4.out⟩⟩
  case rest =>
    obtain ⟨b9, rfl, hC5⟩ := hcut
    apply_assumption
    exact kinds_any p l w wc b3 b4 b5 b6 b7 b8 b9 _ _ _ _ _ _ _ _ _ _ _ _ _ _ _ _ _ _ _ _ _ _ _ _ _ _ _ _ _ _ _ _ _ _ _ _ _ _ _ _ _ _ _ _ _ _ _ _ _ _ _ _ _ _ _ _ _ _ _ _ _ _ _ _ _ _ _ _ _ _ _ _ _ _ _ _ _ _ _ _ _ _ _ _ _ _ _ _ _ _ _ _ _ _ _ _ _ _ _ _ _ _ _ _ _ _ _ _ _ _ _ _ _ _ _ _ _ _ _ _ _ _ _ _ _ _ _ _ _ _ _ _ _ _ _ _ _ _ _ _ _ _ _ _ _ _ _ _ _ _ _ _ _ _ _ _ _ _ _ _ _ _ _ _ _ _ _ _ _ _ _ _ _ _ _ _ _ _ _ _ _ _ _ _ _ _ _ _ _ _ _ _ _ _ _ _ _ _ _ _ _ _ _ _ _ _ _ _ _ _ _ _ _ _ _ _ _ _ _ _ _ _ _ _ _ _ _ _ _ _ _ (Known.mk HH.out.1 HV.out.1 HV.out.2.1 HV.out.2.2.1 HV.out.2.2.2.1 HV.out.2.2.2.2.1 HV.out.2.2.2.2.2 hC5.out.1 hC5.out.2.1 hC5.out.2.2 HH.out.2.1 HH.out.2.2.parts HH.out.2.2.np HH.out.2.2.nt)

/-- The function's text from there on. -/
noncomputable def tail4 : Code := match Try.f12.body with
  | some (.seq _ (.seq _ (.seq _ c))) => c
  | _ => .skip

set_option maxRecDepth 1000000 in
set_option maxHeartbeats 8000000 in
theorem at4 (p : Prm) (l : Prm.Lay) (w wc : World) (b3 b4 b5 b6 b7 : Bool) (u8 u9 u10 u11 u12 u13 u14 u15 u16 u17 u18 u19 u20 u21 u22 u23 u24 u25 u26 u27 u28 u29 u30 u31 u32 u33 u34 u35 u36 u37 u38 u39 u40 u41 u42 u43 u44 u45 u46 u47 u48 u49 u50 u51 u52 u53 u54 u55 u56 u57 u58 u59 u60 u61 u62 u63 u64 u65 u66 u67 u68 u69 u70 u71 u72 u73 u74 u75 u76 u77 u78 u79 u80 u81 u82 u83 u84 u85 u86 u87 u88 u89 u90 u91 u92 u93 u94 u95 u96 u97 u98 u99 u100 u101 u102 u103 u104 u105 u106 u107 u108 u109 u110 u111 u112 u113 u114 u115 u116 u117 u118 u119 u120 u121 u122 u123 u124 u125 u126 u127 u128 u129 u130 u131 u132 u133 u134 u135 u136 u137 u138 u139 u140 u141 u142 u143 u144 u145 u146 u147 u148 u149 u150 u151 u152 u153 u154 u155 u156 u157 u158 u159 u160 u161 u162 u163 u164 u165 u166 u167 u168 u169 u170 u171 u172 u173 u174 u175 u176 u177 u178 u179 u180 u181 u182 u183 u184 u185 u186 u187 u188 u189 u190 u191 u192 u193 u194 u195 u196 u197 u198 u199 u200 u201 u202 u203 u204 u205 u206 u207 u208 u209 u210 u211 u212 u213 u214 u215 u216 u217 u218 u219 u220 u221 u222 u223 u224 u225 u226 u227 u228 u229 u230 u231 u232 u233 u234 u235 u236 u237 u238 u239 u240 : Value) (v3 : b3 = (p.rate == 0)) (v4 : b4 = (p.amount == 0)) (v5 : b5 = noBuy p) (v6 : b6 = noParts p) (v7 : b7 = noTiers p) (hp : promoB p = kindB p) (hbox : Qu.Blk wc w.heap.size 28 #[.string p.id, .int .i64 p.kind, .int .i64 p.priority, .string p.group, .string p.code, .bool p.closes, .slice l.scope.skus.A l.scope.skus.n l.scope.skus.c, .slice l.scope.cats.A l.scope.cats.n l.scope.cats.c, .int .i64 p.least, .int .i64 p.rate, .int .i64 p.amount, .int .i64 p.buy, .int .i64 p.get, .slice l.parts.A l.parts.n l.parts.c, .slice l.tiers.A l.tiers.n l.tiers.c]) (hbel : Below w.heap.size w wc) (hh : Prm.Holds w (· < w.heap.size) p l) (hS : PrmSmall p l) :
    Code.wp Try.prog tail4 (bodyPost Try.prog Try.f12 fun e w' => e = .returned (.bool (promoB p)) ∧ Below w.heap.size w w') ⟨#[.agg #[.string p.id, .int .i64 p.kind, .int .i64 p.priority, .string p.group, .string p.code, .bool p.closes, .slice l.scope.skus.A l.scope.skus.n l.scope.skus.c, .slice l.scope.cats.A l.scope.cats.n l.scope.cats.c, .int .i64 p.least, .int .i64 p.rate, .int .i64 p.amount, .int .i64 p.buy, .int .i64 p.get, .slice l.parts.A l.parts.n l.parts.c, .slice l.tiers.A l.tiers.n l.tiers.c], .pointer (some ⟨w.heap.size, 0, none⟩), .bool false, .bool b3, .bool b4, .bool b5, .bool b6, .bool b7, u8, u9, u10, u11, u12, u13, u14, u15, u16, u17, u18, u19, u20, u21, u22, u23, u24, u25, u26, u27, u28, u29, u30, u31, u32, u33, u34, u35, u36, u37, u38, u39, u40, u41, u42, u43, u44, u45, u46, u47, u48, u49, u50, u51, u52, u53, u54, u55, u56, u57, u58, u59, u60, u61, u62, u63, u64, u65, u66, u67, u68, u69, u70, u71, u72, u73, u74, u75, u76, u77, u78, u79, u80, u81, u82, u83, u84, u85, u86, u87, u88, u89, u90, u91, u92, u93, u94, u95, u96, u97, u98, u99, u100, u101, u102, u103, u104, u105, u106, u107, u108, u109, u110, u111, u112, u113, u114, u115, u116, u117, u118, u119, u120, u121, u122, u123, u124, u125, u126, u127, u128, u129, u130, u131, u132, u133, u134, u135, u136, u137, u138, u139, u140, u141, u142, u143, u144, u145, u146, u147, u148, u149, u150, u151, u152, u153, u154, u155, u156, u157, u158, u159, u160, u161, u162, u163, u164, u165, u166, u167, u168, u169, u170, u171, u172, u173, u174, u175, u176, u177, u178, u179, u180, u181, u182, u183, u184, u185, u186, u187, u188, u189, u190, u191, u192, u193, u194, u195, u196, u197, u198, u199, u200, u201, u202, u203, u204, u205, u206, u207, u208, u209, u210, u211, u212, u213, u214, u215, u216, u217, u218, u219, u220, u221, u222, u223, u224, u225, u226, u227, u228, u229, u230, u231, u232, u233, u234, u235, u236, u237, u238, u239, u240], []⟩ wc := by
  conv => arg 2; whnf
  try dsimp only
  have HV := Lib.hid (And.intro v3 (And.intro v4 (And.intro v5 (And.intro v6 v7))))
  have HH := Lib.hid (And.intro hp (And.intro hh hS))
  have hC3 := Lib.hid (And.intro hbox hbel)
  have y6 := hbox.cell 6
  have y7 := hbox.cell 7
  have z6 := nat_zero l.scope.skus.n
  have z7 := nat_zero l.scope.cats.n
  clear v3 v4 v5 v6 v7 hp hh hS hbox hbel
  go_upto_region 4 with (fail)
  go_cut [8] (fun s8 wx => ∃ b8 : Bool, s8 = .bool b8 ∧ Hid (b8 = allB p ∧ Qu.Blk wx w.heap.size 28 #[.string p.id, .int .i64 p.kind, .int .i64 p.priority, .string p.group, .string p.code, .bool p.closes, .slice l.scope.skus.A l.scope.skus.n l.scope.skus.c, .slice l.scope.cats.A l.scope.cats.n l.scope.cats.c, .int .i64 p.least, .int .i64 p.rate, .int .i64 p.amount, .int .i64 p.buy, .int .i64 p.get, .slice l.parts.A l.parts.n l.parts.c, .slice l.tiers.A l.tiers.n l.tiers.c] ∧ Below w.heap.size w wx))
  case first =>
    have H6 : Hid (allB p = ((l.scope.skus.n == 0) && (l.scope.cats.n == 0))) := Lib.hid (by unfold allB; rw [HH.out.2.1.scope.skus.row.len, HH.out.2.1.scope.cats.row.len])
    cases e5 : (l.scope.skus.n == 0) with
    | false =>
      rw [e5] at z6 H6
      clear e5
      go_wp2_with fail
      go_meet
      exact ⟨_, rfl, Lib.hid ⟨by rw [H6.out]; rfl, hC3.out⟩⟩
    | true =>
      rw [e5] at z6 H6
      clear e5
      go_wp2_with fail
      go_meet
      exact ⟨_, rfl, Lib.hid ⟨by rw [H6.out]; rfl, hC3.out⟩⟩
  case rest =>
    obtain ⟨b8, rfl, hC4⟩ := hcut
    apply_assumption
    exact at5 p l w wc b3 b4 b5 b6 b7 b8 _ _ _ _ _ _ _ _ _ _ _ _ _ _ _ _ _ _ _ _ _ _ _ _ _ _ _ _ _ _ _ _ _ _ _ _ _ _ _ _ _ _ _ _ _ _ _ _ _ _ _ _ _ _ _ _ _ _ _ _ _ _ _ _ _ _ _ _ _ _ _ _ _ _ _ _ _ _ _ _ _ _ _ _ _ _ _ _ _ _ _ _ _ _ _ _ _ _ _ _ _ _ _ _ _ _ _ _ _ _ _ _ _ _ _ _ _ _ _ _ _ _ _ _ _ _ _ _ _ _ _ _ _ _ _ _ _ _ _ _ _ _ _ _ _ _ _ _ _ _ _ _ _ _ _ _ _ _ _ _ _ _ _ _ _ _ _ _ _ _ _ _ _ _ _ _ _ _ _ _ _ _ _ _ _ _ _ _ _ _ _ _ _ _ _ _ _ _ _ _ _ _ _ _ _ _ _ _ _ _ _ _ _ _ _ _ _ _ _ _ _ _ _ _ _ _ _ _ _ _ _ _ HV.out.1 HV.out.2.1 HV.out.2.2.1 HV.out.2.2.2.1 HV.out.2.2.2.2 hC4.out.1 HH.out.1 hC4.out.2.1 hC4.out.2.2 HH.out.2.1 HH.out.2.2

/-- The function's text from there on. -/
noncomputable def tail3 : Code := match Try.f12.body with
  | some (.seq _ (.seq _ c)) => c
  | _ => .skip

set_option maxRecDepth 1000000 in
set_option maxHeartbeats 8000000 in
theorem at3 (p : Prm) (l : Prm.Lay) (w wc : World) (u3 u4 u5 u6 u7 u8 u9 u10 u11 u12 u13 u14 u15 u16 u17 u18 u19 u20 u21 u22 u23 u24 u25 u26 u27 u28 u29 u30 u31 u32 u33 u34 u35 u36 u37 u38 u39 u40 u41 u42 u43 u44 u45 u46 u47 u48 u49 u50 u51 u52 u53 u54 u55 u56 u57 u58 u59 u60 u61 u62 u63 u64 u65 u66 u67 u68 u69 u70 u71 u72 u73 u74 u75 u76 u77 u78 u79 u80 u81 u82 u83 u84 u85 u86 u87 u88 u89 u90 u91 u92 u93 u94 u95 u96 u97 u98 u99 u100 u101 u102 u103 u104 u105 u106 u107 u108 u109 u110 u111 u112 u113 u114 u115 u116 u117 u118 u119 u120 u121 u122 u123 u124 u125 u126 u127 u128 u129 u130 u131 u132 u133 u134 u135 u136 u137 u138 u139 u140 u141 u142 u143 u144 u145 u146 u147 u148 u149 u150 u151 u152 u153 u154 u155 u156 u157 u158 u159 u160 u161 u162 u163 u164 u165 u166 u167 u168 u169 u170 u171 u172 u173 u174 u175 u176 u177 u178 u179 u180 u181 u182 u183 u184 u185 u186 u187 u188 u189 u190 u191 u192 u193 u194 u195 u196 u197 u198 u199 u200 u201 u202 u203 u204 u205 u206 u207 u208 u209 u210 u211 u212 u213 u214 u215 u216 u217 u218 u219 u220 u221 u222 u223 u224 u225 u226 u227 u228 u229 u230 u231 u232 u233 u234 u235 u236 u237 u238 u239 u240 : Value) (hp : promoB p = kindB p) (hbox : Qu.Blk wc w.heap.size 28 #[.string p.id, .int .i64 p.kind, .int .i64 p.priority, .string p.group, .string p.code, .bool p.closes, .slice l.scope.skus.A l.scope.skus.n l.scope.skus.c, .slice l.scope.cats.A l.scope.cats.n l.scope.cats.c, .int .i64 p.least, .int .i64 p.rate, .int .i64 p.amount, .int .i64 p.buy, .int .i64 p.get, .slice l.parts.A l.parts.n l.parts.c, .slice l.tiers.A l.tiers.n l.tiers.c]) (hbel : Below w.heap.size w wc) (hh : Prm.Holds w (· < w.heap.size) p l) (hS : PrmSmall p l) :
    Code.wp Try.prog tail3 (bodyPost Try.prog Try.f12 fun e w' => e = .returned (.bool (promoB p)) ∧ Below w.heap.size w w') ⟨#[.agg #[.string p.id, .int .i64 p.kind, .int .i64 p.priority, .string p.group, .string p.code, .bool p.closes, .slice l.scope.skus.A l.scope.skus.n l.scope.skus.c, .slice l.scope.cats.A l.scope.cats.n l.scope.cats.c, .int .i64 p.least, .int .i64 p.rate, .int .i64 p.amount, .int .i64 p.buy, .int .i64 p.get, .slice l.parts.A l.parts.n l.parts.c, .slice l.tiers.A l.tiers.n l.tiers.c], .pointer (some ⟨w.heap.size, 0, none⟩), .bool false, u3, u4, u5, u6, u7, u8, u9, u10, u11, u12, u13, u14, u15, u16, u17, u18, u19, u20, u21, u22, u23, u24, u25, u26, u27, u28, u29, u30, u31, u32, u33, u34, u35, u36, u37, u38, u39, u40, u41, u42, u43, u44, u45, u46, u47, u48, u49, u50, u51, u52, u53, u54, u55, u56, u57, u58, u59, u60, u61, u62, u63, u64, u65, u66, u67, u68, u69, u70, u71, u72, u73, u74, u75, u76, u77, u78, u79, u80, u81, u82, u83, u84, u85, u86, u87, u88, u89, u90, u91, u92, u93, u94, u95, u96, u97, u98, u99, u100, u101, u102, u103, u104, u105, u106, u107, u108, u109, u110, u111, u112, u113, u114, u115, u116, u117, u118, u119, u120, u121, u122, u123, u124, u125, u126, u127, u128, u129, u130, u131, u132, u133, u134, u135, u136, u137, u138, u139, u140, u141, u142, u143, u144, u145, u146, u147, u148, u149, u150, u151, u152, u153, u154, u155, u156, u157, u158, u159, u160, u161, u162, u163, u164, u165, u166, u167, u168, u169, u170, u171, u172, u173, u174, u175, u176, u177, u178, u179, u180, u181, u182, u183, u184, u185, u186, u187, u188, u189, u190, u191, u192, u193, u194, u195, u196, u197, u198, u199, u200, u201, u202, u203, u204, u205, u206, u207, u208, u209, u210, u211, u212, u213, u214, u215, u216, u217, u218, u219, u220, u221, u222, u223, u224, u225, u226, u227, u228, u229, u230, u231, u232, u233, u234, u235, u236, u237, u238, u239, u240], []⟩ wc := by
  conv => arg 2; whnf
  try dsimp only
  have HH := Lib.hid (And.intro hp (And.intro hh hS))
  have hC2 := Lib.hid (And.intro hbox hbel)
  have y9 := hbox.cell 9
  have y10 := hbox.cell 10
  have y11 := hbox.cell 11
  have y12 := hbox.cell 12
  have y13 := hbox.cell 13
  have y14 := hbox.cell 14
  have z6 := nat_zero l.parts.n
  have z7 := nat_zero l.tiers.n
  clear hp hh hS hbox hbel
  go_upto_region 3 with (fail)
  go_cut [3, 4, 5, 6, 7] (fun s3 s4 s5 s6 s7 wx => ∃ b3 b4 b5 b6 b7 : Bool, s3 = .bool b3 ∧ s4 = .bool b4 ∧ s5 = .bool b5 ∧ s6 = .bool b6 ∧ s7 = .bool b7 ∧ Hid ((b3 = (p.rate == 0) ∧ b4 = (p.amount == 0) ∧ b5 = noBuy p ∧ b6 = noParts p ∧ b7 = noTiers p) ∧ Qu.Blk wx w.heap.size 28 #[.string p.id, .int .i64 p.kind, .int .i64 p.priority, .string p.group, .string p.code, .bool p.closes, .slice l.scope.skus.A l.scope.skus.n l.scope.skus.c, .slice l.scope.cats.A l.scope.cats.n l.scope.cats.c, .int .i64 p.least, .int .i64 p.rate, .int .i64 p.amount, .int .i64 p.buy, .int .i64 p.get, .slice l.parts.A l.parts.n l.parts.c, .slice l.tiers.A l.tiers.n l.tiers.c] ∧ Below w.heap.size w wx))
  case first =>
    have H6 : Hid (((l.parts.n == 0) = noParts p) ∧ ((l.tiers.n == 0) = noTiers p)) := Lib.hid ⟨by unfold noParts; rw [HH.out.2.1.parts.row.len], by unfold noTiers; rw [HH.out.2.1.tiers.row.len]⟩
    cases e5 : (p.buy == 0) with
    | false =>
      have H5 : Hid (false = noBuy p) := Lib.hid (by unfold noBuy; rw [e5]; rfl)
      go_wp2_with fail
      go_quiet (fail)
      go_wp2_with fail
      go_meet
      exact ⟨_, _, _, _, _, rfl, rfl, rfl, rfl, rfl, Lib.hid ⟨⟨rfl, rfl, H5.out, H6.out.1, H6.out.2⟩, hC2.out.1.as rfl, Qu.below_draws hC2.out.2 _⟩⟩
    | true =>
      have H5 : Hid ((p.get == 0) = noBuy p) := Lib.hid (by unfold noBuy; rw [e5]; rfl)
      go_wp2_with fail
      go_quiet (fail)
      go_wp2_with fail
      go_meet
      exact ⟨_, _, _, _, _, rfl, rfl, rfl, rfl, rfl, Lib.hid ⟨⟨rfl, rfl, H5.out, H6.out.1, H6.out.2⟩, hC2.out.1.as rfl, Qu.below_draws hC2.out.2 _⟩⟩
  case rest =>
    obtain ⟨b3, b4, b5, b6, b7, rfl, rfl, rfl, rfl, rfl, hC3⟩ := hcut
    apply_assumption
    exact at4 p l w wc b3 b4 b5 b6 b7 _ _ _ _ _ _ _ _ _ _ _ _ _ _ _ _ _ _ _ _ _ _ _ _ _ _ _ _ _ _ _ _ _ _ _ _ _ _ _ _ _ _ _ _ _ _ _ _ _ _ _ _ _ _ _ _ _ _ _ _ _ _ _ _ _ _ _ _ _ _ _ _ _ _ _ _ _ _ _ _ _ _ _ _ _ _ _ _ _ _ _ _ _ _ _ _ _ _ _ _ _ _ _ _ _ _ _ _ _ _ _ _ _ _ _ _ _ _ _ _ _ _ _ _ _ _ _ _ _ _ _ _ _ _ _ _ _ _ _ _ _ _ _ _ _ _ _ _ _ _ _ _ _ _ _ _ _ _ _ _ _ _ _ _ _ _ _ _ _ _ _ _ _ _ _ _ _ _ _ _ _ _ _ _ _ _ _ _ _ _ _ _ _ _ _ _ _ _ _ _ _ _ _ _ _ _ _ _ _ _ _ _ _ _ _ _ _ _ _ _ _ _ _ _ _ _ _ _ _ _ _ _ _ hC3.out.1.1 hC3.out.1.2.1 hC3.out.1.2.2.1 hC3.out.1.2.2.2.1 hC3.out.1.2.2.2.2 HH.out.1 hC3.out.2.1 hC3.out.2.2 HH.out.2.1 HH.out.2.2

end Go.Proofs.Ytgimcleeamlgcaa.Pr
