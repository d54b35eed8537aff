/- Cuts: the document's Apply of any promotion (made by gen-cut15.py). -/
import Derived.Test.YtacmoanhbkipfaaGreatPk17
import Derived.Test.YtacmoanhbkipfaaGreatPk27
import Derived.Test.YtacmoanhbkipfaaGreatPk30

set_option maxRecDepth 100000
set_option linter.unusedVariables false
namespace Go.Proofs.YtacmoanhbkipfaaGreat.Ct
open Go.ChangeShapes Go.WideShapes Go.ChangeAt Go.RowKit
open Ap (Unt Tir Prm kUnt kTir row_Unt row_Tir)
open Kd (Kind Row kInt row_int)
open Ko (Out Told Told2 At row_on)
theorem rapply_any (p : Prm) (l : Prm.Lay) (A : Option Addr) (n c : Nat) (us : List Unt) (B : Option Addr) (m d : Nat) (ms : List Int) (w : World) (hp : Ap.Prm.Holds w (· < w.heap.size) p l) (hS : Pr.PrmSmall p l) (h : Row kUnt w (· < w.heap.size) A n us) (hf : Kd.Fit A n c) (hg : Row kInt w (· < w.heap.size) B m ms) (hn : n ≤ 1000000000000) (hm : m ≤ 1000000000000) :
    Calls Tryz.prog 10 #[.agg #[.string p.id, .int .i64 p.kind, .int .i64 p.priority, .string p.group, .string p.code, .bool p.closes, .slice l.scope.skus.A l.scope.skus.n l.scope.skus.c, .slice l.scope.cats.A l.scope.cats.n l.scope.cats.c, .int .i64 p.least, .int .i64 p.rate, .int .i64 p.amount, .int .i64 p.buy, .int .i64 p.get, .slice l.parts.A l.parts.n l.parts.c, .slice l.tiers.A l.tiers.n l.tiers.c], .slice A n c, .slice B m d] w fun e w' => Ko.Told2 kUnt 35 w e w' (applyU p us ms).1 (applyU p us ms).2 :=
  apply_of p l A n c us B m d ms w (fun W hb => Pr.rpromo_any p l W (Pr.holds_later hp hb) hS) hp.tiers.row hS.nt h hf hg hn hm
end Go.Proofs.YtacmoanhbkipfaaGreat.Ct
