/- Helpers of all the seats' proofs: nothing here speaks of the program. -/
import Derived.WalkKit
import Derived.ProofKit
import Derived.OpenShut
import Derived.Lib.Hide
namespace Go.Proofs.Ytbicdmhmpmdoeaa.Hk
open Go.ChangeShapes Go.WideShapes Go.ChangeAt Go.RowKit

/-- Two calls, one behind the other. -/
theorem andThen {u v w : World} (h : Below u.heap.size u v) (k : Below v.heap.size v w) : Below u.heap.size u w := h.trans (k.mono h.size)

section
variable {H : Type} {enc : TypeId × Value → H} {P : Program}
/-- The row's last step, where of the old memory all is as it was, and of the new one nothing is asked. -/
theorem closeRow {f : Func} {s : ChangeSpec} {apart fresh handsOn again : Bool} {W W' : World} {args : Array Value} {v : Value} {ds gs : List (DataW H)} {met pa pv : List MemPlace}
    (hW : DataW.Whole enc P f.params.toList s.vars apart W args.toList ds gs met) (hb : Below W.heap.size W W') (split : met = pa ++ pv)
    (out : ∀ (b : Nat) (sp : Nat → Bool) (hd : Bool), DataW.TrodAll enc P W' b sp hd f.resultTypes.toList (v.resultList f.resultTypes.size) (s.fn H (ds ++ gs)).results [])
    (ins : ∀ sp : Nat → Bool, (∀ p ∈ met, sp p.block = true) → DataW.TrodAll enc P W' 0 sp true f.params.toList args.toList (s.fn H (ds ++ gs)).args pa)
    (vars : ∀ sp : Nat → Bool, (∀ p ∈ met, sp p.block = true) → DataW.TrodVars enc P W' sp s.vars (s.fn H (ds ++ gs)).vars pv)
    (wide : ∀ (j : Nat) (t : TypeId) (r : Value), f.resultTypes[j]? = some t → (v.resultList f.resultTypes.size)[j]? = some r → Value.okWide P W' .any 0 t r) :
    s.post enc P f apart fresh handsOn again W args v W' := by
  have old : ∀ p ∈ met, p.block < W.heap.size := fun p hp => hW.lt p hp
  have sure : ∀ p ∈ met, (fun b => decide (b < W.heap.size)) p.block = true := fun p hp => decide_eq_true (old p hp)
  have ever : ∀ p ∈ met, (fun _ : Nat => true) p.block = true := fun _ _ => rfl
  subst split
  obtain ⟨q1, q2, q3, q4, q5, ice, lone⟩ := id hW
  refine ⟨ds, gs, pa ++ pv, [], pa, pv, hW, out _ _ _, ins _ sure, vars _ sure, World.keptBut_mono (fun p hp => ⟨hp, Or.inr (List.mem_append.mp hp)⟩) (hb.frame (· ∈ pa ++ pv)), fun _ => ⟨wide, _, _, ([] ++ pa) ++ pv, ⟨[] ++ pa, pv, trodAll_append (ins _ ever) (out _ _ _), vars _ ever, rfl, ?_, ?_⟩, ?_⟩⟩
  · intro b o hp
    have hp' : MemPlace.cell b o ∈ pa ++ pv := hp
    exact (hb.frozen (p := ⟨b, o, Option.none⟩) (old _ hp')).trans (ice b o hp')
  · exact lone
  · exact fun p hp _ => hp
end

end Go.Proofs.Ytbicdmhmpmdoeaa.Hk
