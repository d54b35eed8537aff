/- A vault's state: Open, Add, Compact as numbers and lists; that it stays sound. -/
import Derived.Test.YtedgookkogpfbaaVtO
set_option maxRecDepth 100000
set_option linter.unusedVariables false
namespace Go.Proofs.Ytedgookkogpfbaa.Vt
open Lf (Leaf layB readB takesB markN cut cut_at val4 be4)
open Dk (DS mix mixS crashD startD armD dsNew keeps)
open Jr

/-- A vault: which half counts, how many sectors one has, its epoch, its journal, whether a call told that power is off. -/
structure VS where
  half : Nat
  n : Nat
  epoch : Nat
  j : JS
  dead : Bool

def pickV (d : DS) (n e : Nat) : Nat × JS := if (openJ d 0 n e).begun < (openJ d n n e).begun then (1, openJ d n n e) else (0, openJ d 0 n e)

def vstopE (d : DS) : Int := if d.n / 2 < 2 then 2 else if d.off then 9 else if topN d.now = 4294967295 then 6 else 0

def vfound (d : DS) : Bool := decide ((pickV d (d.n / 2) (topN d.now + 1)).2.begun ≠ 0)

def vopenE (d : DS) : Int := if vstopE d ≠ 0 then vstopE d else if vfound d then 0 else addE d (blankJ 0 (d.n / 2) (topN d.now + 1)) [1]

def vopenDS (d : DS) : DS := if vstopE d ≠ 0 then d else if vfound d then d else addDS d (blankJ 0 (d.n / 2) (topN d.now + 1)) [1]

def vopenV (d : DS) : VS := if vfound d then ⟨(pickV d (d.n / 2) (topN d.now + 1)).1, d.n / 2, topN d.now + 1, (pickV d (d.n / 2) (topN d.now + 1)).2, false⟩ else ⟨0, d.n / 2, topN d.now + 1, addJ d (blankJ 0 (d.n / 2) (topN d.now + 1)) [1], false⟩

def vaddE (d : DS) (v : VS) (b : List UInt8) : Int := if v.dead || d.off then 9 else addE d v.j b

def vaddDS (d : DS) (v : VS) (b : List UInt8) : DS := if v.dead || d.off then d else addDS d v.j b

def vaddV (d : DS) (v : VS) (b : List UInt8) : VS := if v.dead || d.off then { v with dead := true } else { v with j := addJ d v.j b, dead := decide (addE d v.j b = 9) }

/-- Why a Compact writes nothing, if so. -/
def cstopE (d : DS) (v : VS) (base : List UInt8) : Int := if v.dead || d.off then 9 else if 400000 ≤ base.length then 2 else if v.epoch = 4294967295 ∨ v.n < needN (base.length + 1) then 6 else 0

def newHalf (v : VS) : JS := blankJ (v.n - v.n * v.half) v.n (v.epoch + 1)

def vcompE (d : DS) (v : VS) (base : List UInt8) : Int := if cstopE d v base ≠ 0 then cstopE d v base else if addE d (newHalf v) (1 :: base) = 0 then 0 else 9

def vcompDS (d : DS) (v : VS) (base : List UInt8) : DS := if cstopE d v base ≠ 0 then d else addDS d (newHalf v) (1 :: base)

def vcompV (d : DS) (v : VS) (base : List UInt8) : VS :=
  if cstopE d v base = 9 then { v with dead := true } else if cstopE d v base ≠ 0 then v else
  if addE d (newHalf v) (1 :: base) = 0 then ⟨1 - v.half, v.n, v.epoch + 1, addJ d (newHalf v) (1 :: base), false⟩ else { v with epoch := v.epoch + 1, dead := true }

/-! ### It stays sound -/
structure VLive (d : DS) (v : VS) (recs : Recs) (eb : Nat) (b0 : List UInt8) : Prop where
  inv : VInv d v.half v.n v.epoch recs eb b0
  j : v.j = ⟨v.half * v.n, v.n, v.epoch, recs.map (·.1), eb, total recs, false⟩
  alive : v.dead = false

/-- The three ways an Add of a journal ends. -/
theorem add_three {d : DS} {j : JS} {b : List UInt8} (ok : d.Ok) (dry : ∀ i, d.loose.getD i false = false) (on : d.off = false) (alive : j.dead = false) (hr : j.o + j.n ≤ d.n) (hu : j.used ≤ j.n) (h1 : 1 ≤ b.length) (h2 : b.length ≤ 400000) :
    (addE d j b = 0 ∧ needN b.length ≤ j.n - j.used ∧ (addDS d j b).Ok ∧ (∀ i, (addDS d j b).loose.getD i false = false) ∧ (addDS d j b).sure = (addDS d j b).now ∧ (addDS d j b).off = false ∧ (addDS d j b).n = d.n ∧ ∀ i, secs (addDS d j b) 0 i = if j.o + j.used ≤ i ∧ i < j.o + j.used + needN b.length then sectJ j b (i - (j.o + j.used)) else secs d 0 i) ∨
    (addE d j b = 6 ∧ addDS d j b = d ∧ addJ d j b = j ∧ j.n - j.used < needN b.length) ∨
    (addE d j b = 9 ∧ addJ d j b = { j with dead := true } ∧ ∃ w, w ≤ needN b.length ∧ needN b.length ≤ j.n - j.used ∧ Under d (addDS d j b) (j.o + j.used) (sectJ j b) w) := by
  by_cases hroom : needN b.length ≤ j.n - j.used
  · have hs : stopE d j b = 0 := by
      unfold stopE
      rw [alive, on, if_neg (by simp), if_neg (by omega), if_neg (by omega)]
    have e1 : addDS d j b = (addD d (j.o + j.used) (sectJ j b) (needN b.length)).1 := by unfold addDS; rw [if_neg (by omega)]; rfl
    have e2 : addE d j b = if (addD d (j.o + j.used) (sectJ j b) (needN b.length)).2 then 0 else 9 := by unfold addE; rw [if_neg (by omega)]; rfl
    have U := add_under (d := d) (at_ := j.o + j.used) (k := needN b.length) (f := sectJ j b) ok dry on (by omega) (fun i _ => Lf.layB_len _)
    cases hk : (addD d (j.o + j.used) (sectJ j b) (needN b.length)).2 with
    | true =>
      left
      obtain ⟨d1, u, k1, k2, k3, k4⟩ := U.1 hk
      rw [e2, hk, e1]
      have hn2 : (addD d (j.o + j.used) (sectJ j b) (needN b.length)).1.n = d.n := by show List.length _ = _; rw [k1]; exact u.n
      refine ⟨rfl, hroom, ⟨by rw [k1]; exact u.ok.now, by rw [k2]; exact u.ok.now, by rw [k1, k2], by rw [k1, k3, List.length_replicate]; rfl⟩, fun i => ?_, by rw [k1, k2], k4, hn2, fun i => ?_⟩
      · rw [k3, List.getD, List.getElem?_replicate]
        split <;> rfl
      · unfold secs
        rw [k1, List.getD, u.now, Nat.zero_add]
        by_cases hc : j.o + j.used ≤ i ∧ i < j.o + j.used + needN b.length
        · rw [if_pos hc, if_pos hc]
          rfl
        · rw [if_neg hc, if_neg hc]
          rfl
    | false =>
      right
      right
      obtain ⟨w, w1, w2, _⟩ := U.2 hk
      have e9 : addE d j b = 9 := by rw [e2, hk]; rfl
      exact ⟨e9, by unfold addJ; rw [if_pos e9], w, w1, hroom, by rw [e1]; exact w2⟩
  · right
    left
    obtain ⟨q1, q2, q3⟩ := calm_full (d := d) (j := j) (b := b) on alive h1 h2 (by omega)
    exact ⟨q1, q2, q3, by omega⟩

section
variable {d : DS} {v : VS} {recs : Recs} {eb : Nat} {b0 b : List UInt8}

theorem VLive.sect (h : VLive d v recs eb b0) (b : List UInt8) : sectJ v.j b = fun i => layB (leafN v.epoch recs.length b i) := by
  funext i
  unfold sectJ
  rw [h.j]
  show layB (leafN v.epoch ((recs.map (·.1)).length % 4294967296) b i) = _
  rw [List.length_map, Nat.mod_eq_of_lt (by have := h.inv.len; omega)]

theorem VLive.add (h : VLive d v recs eb b0) (h1 : 1 ≤ b.length) (h2 : b.length ≤ 400000) :
    (vaddE d v b = 0 ∧ VLive (vaddDS d v b) (vaddV d v b) (recs ++ [(b, v.epoch)]) eb b0) ∨
    (vaddE d v b = 6 ∧ vaddDS d v b = d ∧ vaddV d v b = v ∧ v.n - total recs < needN b.length) ∨
    (vaddE d v b = 9 ∧ (v.epoch ≤ 249 → ∀ kn kf, ∃ recs', (recs' = recs ∨ recs' = recs ++ [(b, v.epoch)]) ∧ VInv (startD (crashD (vaddDS d v b) kn kf)) v.half v.n (v.epoch + 1) recs' eb b0)) := by
  have hv := h.inv
  have hr := hv.room
  have hj := h.j
  have ho : v.j.o = v.half * v.n := by rw [hj]
  have hn : v.j.n = v.n := by rw [hj]
  have hu : v.j.used = total recs := by rw [hj]
  have hcond : (v.dead || d.off) = false := by rw [h.alive, hv.on]; rfl
  have e1 : vaddE d v b = addE d v.j b := by unfold vaddE; rw [hcond]; rfl
  have e2 : vaddDS d v b = addDS d v.j b := by unfold vaddDS; rw [hcond]; rfl
  have e3 : vaddV d v b = { v with j := addJ d v.j b, dead := decide (addE d v.j b = 9) } := by unfold vaddV; rw [hcond]; rfl
  have hs := h.sect b
  rcases add_three (d := d) (j := v.j) (b := b) hv.ok hv.dry hv.on (by rw [hj]) (by rw [ho, hn]; omega) (by rw [hu, hn]; exact hv.fits) h1 h2 with ⟨g0, g1, g2, g3, g4, g5, g6, g7⟩ | ⟨g0, g1, g2, g3⟩ | ⟨g0, g1, w, g2, g3, g4⟩
  · left
    rw [hn, hu] at g1
    rw [e1, e2, e3, g0]
    refine ⟨rfl, ⟨hv.add h1 g1 g2 g3 g4 g5 g6 fun i => ?_, ?_, rfl⟩⟩
    · rw [g7 i, ho, hu, hs]
    · show addJ d v.j b = _
      rw [addJ_zero g0, hj]
      obtain ⟨t, ht⟩ := hv.head
      have hl : (recs.map (·.1)).length ≠ 0 := by rw [ht]; simp
      show (⟨_, _, _, recs.map (·.1) ++ [b], if (recs.map (·.1)).length = 0 then _ else eb, total recs + needN b.length, _⟩ : JS) = _
      rw [if_neg hl, total_more, List.map_append]
      rfl
  · right
    left
    rw [hn, hu] at g3
    refine ⟨by rw [e1, g0], by rw [e2, g1], ?_, g3⟩
    rw [e3, g2, g0]
    have hd := h.alive
    cases v
    simp at hd
    simp [hd]
  · right
    right
    rw [hn, hu] at g3
    refine ⟨by rw [e1, g0], fun he kn kf => ?_⟩
    rw [ho, hu, hs] at g4
    obtain ⟨q1, q2, q3, q4, q5, kk, q6, q7⟩ := crash_under hv.eq g4 kn kf
    rw [e2]
    exact hv.torn kk q6 h1 g3 g2 he q1 q2 q3 q4 q5 q7

theorem VLive.half_o (h : VLive d v recs eb b0) : v.n - v.n * v.half = (1 - v.half) * v.n := by
  have := h.inv.h1
  rcases Nat.le_one_iff_eq_zero_or_eq_one.1 this with e | e
  · rw [e]; simp
  · rw [e]; simp

theorem VLive.comp (h : VLive d v recs eb b0) {base : List UInt8} (h2 : base.length < 400000) (he : v.epoch ≤ 248) :
    (vcompE d v base = 0 ∧ needN (base.length + 1) ≤ v.n ∧ VLive (vcompDS d v base) (vcompV d v base) [(1 :: base, v.epoch + 1)] (v.epoch + 1) (1 :: base) ∧ (vcompV d v base).half = 1 - v.half ∧ (vcompV d v base).n = v.n ∧ (vcompV d v base).epoch = v.epoch + 1) ∨
    (vcompE d v base = 6 ∧ vcompDS d v base = d ∧ vcompV d v base = v ∧ v.n < needN (base.length + 1)) ∨
    (vcompE d v base = 9 ∧ ∀ kn kf, VInv (startD (crashD (vcompDS d v base) kn kf)) v.half v.n (v.epoch + 2) recs eb b0 ∨ VInv (startD (crashD (vcompDS d v base) kn kf)) (1 - v.half) v.n (v.epoch + 1) [(1 :: base, v.epoch + 1)] (v.epoch + 1) (1 :: base)) := by
  have hv := h.inv
  have hr := hv.room
  have hcond : (v.dead || d.off) = false := by rw [h.alive, hv.on]; rfl
  have hb : (1 :: base).length = base.length + 1 := rfl
  by_cases hroom : needN (base.length + 1) ≤ v.n
  · have hs : cstopE d v base = 0 := by
      unfold cstopE
      rw [hcond, if_neg (by simp), if_neg (by omega), if_neg (by omega)]
    have e1 : vcompE d v base = if addE d (newHalf v) (1 :: base) = 0 then 0 else 9 := by unfold vcompE; rw [if_neg (by omega)]
    have e2 : vcompDS d v base = addDS d (newHalf v) (1 :: base) := by unfold vcompDS; rw [if_neg (by omega)]
    have e3 : vcompV d v base = if addE d (newHalf v) (1 :: base) = 0 then ⟨1 - v.half, v.n, v.epoch + 1, addJ d (newHalf v) (1 :: base), false⟩ else { v with epoch := v.epoch + 1, dead := true } := by unfold vcompV; rw [if_neg (by omega), if_neg (by omega)]
    have ho : (newHalf v).o + (newHalf v).used = (1 - v.half) * v.n := by show v.n - v.n * v.half + 0 = _; rw [h.half_o]; omega
    have hsec : sectJ (newHalf v) (1 :: base) = fun i => layB (leafN (v.epoch + 1) 0 (1 :: base) i) := by funext i; unfold sectJ newHalf blankJ; rfl
    rcases add_three (d := d) (j := newHalf v) (b := 1 :: base) hv.ok hv.dry hv.on rfl (by show v.n - v.n * v.half + v.n ≤ d.n; rw [h.half_o]; omega) (Nat.zero_le _) (by omega) (by omega) with ⟨g0, g1, g2, g3, g4, g5, g6, g7⟩ | ⟨g0, g1, g2, g3⟩ | ⟨g0, g1, w, g2, g3, g4⟩
    · left
      rw [e1, e2, e3, if_pos g0, if_pos g0]
      rw [ho, hsec] at g7
      have inv : VInv (addDS d (newHalf v) (1 :: base)) (1 - v.half) v.n (v.epoch + 1) [(1 :: base, v.epoch + 1)] (v.epoch + 1) (1 :: base) := by
        rcases hv.comp (d' := addDS d (newHalf v) (1 :: base)) (b := 1 :: base) (w := needN (1 :: base).length) (fun _ => 64) (fun _ => Nat.le_refl _) (by omega) hroom (Nat.le_refl _) he g2 g3 g4 g5 g6 (fun i => by
          rw [g7 i]
          by_cases hc : (1 - v.half) * v.n ≤ i ∧ i < (1 - v.half) * v.n + needN (1 :: base).length
          · rw [if_pos hc, if_pos hc]
            unfold mix
            rw [List.take_of_length_le (Nat.le_of_eq (Lf.layB_len _)), List.drop_eq_nil_of_le (by rw [(hv.marks i (by have : needN (1 :: base).length = needN (base.length + 1) := rfl; omega)).len]; exact Nat.le_refl _), List.append_nil]
          · rw [if_neg hc, if_neg hc]) with ⟨hn, _⟩ | hy
        · exact absurd (fun i hi => by
            rw [secs_zero, g7, if_pos (by omega), show (1 - v.half) * v.n + i - (1 - v.half) * v.n = i by omega]) hn
        · exact hy
      refine ⟨rfl, hroom, ⟨inv, ?_, rfl⟩, rfl, rfl, rfl⟩
      show addJ d (newHalf v) (1 :: base) = _
      rw [addJ_zero g0]
      show (⟨v.n - v.n * v.half, v.n, v.epoch + 1, [] ++ [1 :: base], if ([] : List (List UInt8)).length = 0 then v.epoch + 1 else 0, 0 + needN (1 :: base).length, false⟩ : JS) = ⟨(1 - v.half) * v.n, v.n, v.epoch + 1, [1 :: base], v.epoch + 1, needN (1 :: base).length + 0, false⟩
      rw [h.half_o, Nat.zero_add, Nat.add_zero]
      rfl
    · exact absurd hroom (by have : (newHalf v).n - (newHalf v).used = v.n := rfl; have : needN (1 :: base).length = needN (base.length + 1) := rfl; omega)
    · right
      right
      rw [e1, e2, if_neg (by omega)]
      refine ⟨rfl, fun kn kf => ?_⟩
      rw [ho, hsec] at g4
      obtain ⟨q1, q2, q3, q4, q5, kk, q6, q7⟩ := crash_under hv.eq g4 kn kf
      rcases hv.comp (b := 1 :: base) kk q6 (by omega) hroom g2 he q1 q2 q3 q4 q5 q7 with ⟨_, hy⟩ | hy
      · exact .inl hy
      · exact .inr hy
  · right
    left
    have hs : cstopE d v base = 6 := by
      unfold cstopE
      rw [hcond, if_neg (by simp), if_neg (by omega), if_pos (by omega)]
    exact ⟨by unfold vcompE; rw [hs, if_pos (by decide)], by unfold vcompDS; rw [hs, if_pos (by decide)], by unfold vcompV; rw [hs, if_neg (by decide), if_pos (by decide)], by omega⟩
end

/-! ### Opened -/
theorem VInv.reopen {d : DS} {h n e eb : Nat} {recs : Recs} {b0 : List UInt8} (v : VInv d h n e recs eb b0) (ht : e ≤ 249) : vopenE d = 0 ∧ vopenDS d = d ∧ VLive d (vopenV d) recs eb b0 ∧ (vopenV d).half = h ∧ (vopenV d).n = n ∧ (vopenV d).epoch ≤ e + 1 := by
  have htop := v.topLe
  have hsz := v.size
  have hn2 := v.n2
  have hep := v.epochs
  have hs : vstopE d = 0 := by
    unfold vstopE
    rw [if_neg (by omega), v.on, if_neg (by simp), if_neg (by omega)]
  have hop := v.open_
  have hoth := v.other
  have hj : ∀ E, openJ d (h * n) n E = ⟨h * n, n, E, recs.map (·.1), eb, total recs, false⟩ := fun E => by unfold openJ; rw [hop]
  have hp : ∀ E, pickV d n E = (h, openJ d (h * n) n E) := fun E => by
    rcases Nat.le_one_iff_eq_zero_or_eq_one.1 v.h1 with rfl | rfl
    · have q := hj E
      rw [Nat.zero_mul] at q ⊢
      rw [show (1 - 0) * n = n by omega] at hoth
      unfold pickV
      rw [if_neg ?_]
      rw [q]
      show ¬ eb < (openN (secs d n) n).begun
      omega
    · have q := hj E
      rw [Nat.one_mul] at q ⊢
      rw [show (1 - 1) * n = 0 by omega] at hoth
      unfold pickV
      rw [if_pos ?_]
      rw [q]
      exact hoth
  have hf : vfound d = true := by
    unfold vfound
    rw [hsz, hp, hj]
    exact decide_eq_true (show eb ≠ 0 by omega)
  refine ⟨by unfold vopenE; rw [if_neg (by omega), hf]; rfl, by unfold vopenDS; rw [if_neg (by omega), hf]; rfl, ?_⟩
  have hV : vopenV d = ⟨h, n, topN d.now + 1, ⟨h * n, n, topN d.now + 1, recs.map (·.1), eb, total recs, false⟩, false⟩ := by
    unfold vopenV
    rw [hf, hsz, hp, hj]
    rfl
  rw [hV]
  exact ⟨⟨v.at_top (by omega), rfl, rfl⟩, rfl, rfl, by show topN d.now + 1 ≤ e + 1; omega⟩

end Go.Proofs.Ytedgookkogpfbaa.Vt
