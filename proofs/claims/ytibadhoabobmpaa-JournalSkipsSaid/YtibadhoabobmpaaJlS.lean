/- Records put on a disk that is not armed; what is opened behind them. -/
import Derived.Test.YtibadhoabobmpaaJlV
set_option maxRecDepth 100000
namespace Go.Proofs.Ytibadhoabobmpaa.Jl
open Dk (DS dsNew)
open Jr (JS Recs Rd Run Stand Rise Low total lastE begunOf secs needN newE blankJ openJ addE addDS addJ doneJ stopE sectJ leafN addJ_zero total_more rise_more stand_more stand_same open_stand openN Under)
open Lf (layB readB takesB)
set_option linter.unusedVariables false

structure Calm (d : DS) (j : JS) (recs : Recs) (e m : Nat) : Prop where
  ok : d.Ok
  dry : ∀ i, d.loose.getD i false = false
  on : d.off = false
  armed : d.armed = 0
  n : d.n = 90
  jo : j.o = 0
  jn : j.n = 90
  epoch : j.epoch = e
  l : j.l = recs.map (·.1)
  used : j.used = total recs
  alive : j.dead = false
  stand : Stand (secs d 0) 0 0 recs
  rise : Rise e 1 recs
  five : total recs ≤ 5 * recs.length
  all : ∀ r ∈ recs, r.2 = e
  low : ∀ i, total recs ≤ i → i < 90 → Low m (secs d 0 i)

theorem lastE_all {e : Nat} : ∀ (recs : Recs) (least : Nat), (∀ r ∈ recs, r.2 = e) → least ≤ e → lastE least recs ≤ e ∧ (recs ≠ [] → lastE least recs = e)
  | [], _, _, h => ⟨h, fun h => absurd rfl h⟩
  | r :: t, least, h, _ => by
    have hr : r.2 = e := h r (List.mem_cons_self ..)
    have ih := lastE_all t r.2 (fun x hx => h x (List.mem_cons_of_mem _ hx)) (by omega)
    refine ⟨ih.1, fun _ => ?_⟩
    cases t with
    | nil => exact hr
    | cons a b => exact ih.2 (by simp)

/-- An Add of it. -/
theorem Calm.add {d : DS} {j : JS} {recs : Recs} {e m : Nat} {b : List UInt8} (h : Calm d j recs e m) (he : 1 ≤ e) (he2 : e ≤ 254) (hb : 1 ≤ b.length) (hb2 : b.length ≤ 201) (hr : recs.length < 10) : addE d j b = 0 ∧ Calm (addDS d j b) (addJ d j b) (recs ++ [(b, e)]) e m := by
  have h5 := h.five
  have hn5 : needN b.length ≤ 5 := by unfold needN; split <;> omega
  have hp := Jr.need_pos hb
  have hs : stopE d j b = 0 := by
    unfold stopE
    rw [h.alive, h.on, if_neg (by simp), if_neg (by omega), if_neg (by rw [h.jn, h.used]; omega)]
  have hll : j.l.length = recs.length := by rw [h.l, List.length_map]
  obtain ⟨q1, q2, q3⟩ := Jr.add_calm (f := sectJ j b) (k := needN b.length) (at_ := j.o + j.used) h.on h.armed (by rw [h.n, h.jo, h.used]; omega)
  have e1 : addE d j b = 0 := by unfold addE; rw [if_neg (by omega)]; unfold doneJ; rw [q1]; rfl
  have e2 : addDS d j b = (Jr.addD d (j.o + j.used) (sectJ j b) (needN b.length)).1 := by unfold addDS; rw [if_neg (by omega)]; rfl
  have hf : sectJ j b = fun i => layB (leafN e recs.length b i) := by
    funext i
    unfold sectJ
    rw [h.epoch, hll, Nat.mod_eq_of_lt (by omega)]
  have hat : j.o + j.used = total recs := by rw [h.jo, h.used, Nat.zero_add]
  rw [hf, hat] at q1 q2 q3 e2
  obtain ⟨d1, u, k1, k2, k3, k4⟩ := (Jr.add_under (d := d) (at_ := total recs) (k := needN b.length) (f := fun i => layB (leafN e recs.length b i)) h.ok h.dry h.on (by rw [h.n]; omega) (fun j _ => Lf.layB_len _)).1 q1
  refine ⟨e1, ?_⟩
  rw [e2, addJ_zero e1]
  generalize (Jr.addD d (total recs) (fun i => layB (leafN e recs.length b i)) (needN b.length)).1 = d2 at k1 k2 k3 k4 q2 q3 ⊢
  have T : ∀ i, secs d2 0 i = if total recs ≤ i ∧ i < total recs + needN b.length then layB (leafN e recs.length b (i - total recs)) else secs d 0 i := fun i => by
    unfold secs
    rw [k1, List.getD, u.now, Nat.zero_add]
    by_cases hc : total recs ≤ i ∧ i < total recs + needN b.length
    · rw [if_pos hc, if_pos hc]
      rfl
    · rw [if_neg hc, if_neg hc]
      rfl
  have hn2 : d2.n = d.n := by show d2.now.length = _; rw [k1]; exact u.n
  have ht : total (recs ++ [(b, e)]) = total recs + needN b.length := total_more b e recs
  refine ⟨⟨by rw [k1]; exact u.ok.now, by rw [k2]; exact u.ok.now, by rw [k1, k2], by rw [k1, k3, List.length_replicate]; rfl⟩, fun i => ?_, k4, q3, by rw [hn2]; exact h.n, h.jo, h.jn, h.epoch, by show j.l ++ [b] = _; rw [h.l, List.map_append]; rfl, by show j.used + _ = _; rw [ht, h.used], h.alive, ?_, rise_more hb he (Nat.le_refl _) recs 1 h.rise (lastE_all recs 1 h.all he).1, by rw [ht, List.length_append]; show _ ≤ 5 * (recs.length + 1); omega, fun r hr => ?_, fun i h1 h2 => ?_⟩
  · rw [k3, List.getD, List.getElem?_replicate]
    split <;> rfl
  · exact stand_more recs 0 0 (stand_same recs 0 0 h.stand fun i h1 h2 => by rw [T i, if_neg (by omega)]) fun i hi => by rw [Nat.zero_add, Nat.zero_add, T, if_pos (by omega), Nat.add_sub_cancel_left]
  · rcases List.mem_append.1 hr with hr | hr
    · exact h.all r hr
    · have : r = (b, e) := by simpa using hr
      rw [this]
  · rw [ht] at h1
    rw [T i, if_neg (by omega)]
    exact h.low i (by omega) h2

theorem calm_put (f : Nat → List UInt8) {e m : Nat} (he : 1 ≤ e) (he2 : e ≤ 254) : ∀ (k i : Nat) (s : PS) (recs : Recs), Calm s.d s.j recs e m → s.all = s.j.l → s.ok = s.all.length → recs.length + k ≤ 10 →
    ∃ recs', Calm (putN f k i s).d (putN f k i s).j recs' e m ∧ recs'.length = recs.length + k ∧ (putN f k i s).all = recs'.map (·.1) ∧ (putN f k i s).ok = recs'.length
  | 0, i, s, recs, h, ha, hk, _ => ⟨recs, h, rfl, by show s.all = _; rw [ha, h.l], by show s.ok = _; rw [hk, ha, h.l, List.length_map]⟩
  | k + 1, i, s, recs, h, ha, hk, hl => by
    obtain ⟨h0, h1⟩ := h.add (b := 1 :: (f i).take 200) he he2 (by simp) (by simp; omega) (by omega)
    have e0 := addJ_zero h0
    obtain ⟨recs', g1, g2, g3, g4⟩ := calm_put f he he2 k (i + 1) ⟨addDS s.d s.j (1 :: (f i).take 200), addJ s.d s.j (1 :: (f i).take 200), s.all ++ [1 :: (f i).take 200], s.ok + 1⟩ (recs ++ [(1 :: (f i).take 200, e)]) h1 (by
      show s.all ++ _ = (addJ s.d s.j (1 :: (f i).take 200)).l
      rw [e0, ha]) (by
      show s.ok + 1 = (s.all ++ [_]).length
      rw [hk]
      simp) (by simp; omega)
    have hp : putN f (k + 1) i s = putN f k (i + 1) ⟨addDS s.d s.j (1 :: (f i).take 200), addJ s.d s.j (1 :: (f i).take 200), s.all ++ [1 :: (f i).take 200], s.ok + 1⟩ := by
      show (if addE s.d s.j (1 :: (f i).take 200) = 0 then _ else _) = _
      rw [if_pos h0]
    rw [hp]
    exact ⟨recs', g1, by rw [g2]; simp; omega, g3, g4⟩

/-- What is opened. -/
theorem Calm.open_ {d : DS} {j : JS} {recs : Recs} {e m : Nat} (h : Calm d j recs e m) (he : e < 2 ^ 32) (hl : recs.length ≤ 10) (hm : m ≤ lastE 1 recs) (E : Nat) : openJ d 0 90 E = ⟨0, 90, E, recs.map (·.1), begunOf [] 0 recs, total recs, false⟩ := by
  have h5 := h.five
  have := open_stand (S := secs d 0) (n := 90) (top := e) he recs Rd.none 90 (by show 90 - 0 ≤ 90; omega) h.stand h.rise (by show 0 + total recs ≤ 90; omega) (by show 0 + recs.length < 2 ^ 32; omega)
    (by
      show ∀ k E, k < 90 - (0 + total recs) → ¬ Run (fun i => secs d 0 (0 + total recs + i)) (0 + recs.length) (lastE 1 recs) 0 k E
      rw [Nat.zero_add, Nat.zero_add]
      intro k E hk hR
      have t := hR.each 0 (Nat.le_refl _) hR.le
      have t1 : takesB (secs d 0 (total recs + 0)) = true := t.1
      have t2 : (readB (secs d 0 (total recs + 0))).epoch = E := t.2.2.2
      have := Jr.low_epoch (h.low (total recs + 0) (by omega) (by omega)) t1
      have := hR.least
      omega)
  have e1 : openN (secs d 0) 90 = ⟨recs.map (·.1), begunOf [] 0 recs, total recs, lastE 1 recs⟩ := by
    unfold openN
    rw [this]
    show Rd.mk ([] ++ recs.map (·.1)) _ (0 + total recs) _ = _
    rw [List.nil_append, Nat.zero_add]
    rfl
  unfold openJ
  rw [e1]

theorem stand_low {S : Nat → List UInt8} {top : Nat} (ht : top ≤ 254) : ∀ (recs : Recs) (at_ mm least : Nat), Stand S at_ mm recs → Rise top least recs → ∀ i, at_ ≤ i → i < at_ + total recs → Low (top + 1) (S i)
  | [], at_, _, _, _, _, i, h1, h2 => by
    have : i < at_ + 0 := h2
    omega
  | r :: t, at_, mm, least, hs, hr, i, h1, h2 => by
    have h2' : i < at_ + (needN r.1.length + total t) := h2
    by_cases hc : i < at_ + needN r.1.length
    · have h3 := hs.1 (i - at_) (by omega)
      rw [show at_ + (i - at_) = i by omega] at h3
      rw [h3]
      have hd : (leafN r.2 mm r.1 (i - at_)).data.length ≤ 46 := by rw [Jr.leaf_len (by omega)]; omega
      have hle : r.2 ≤ top := hr.2.2.2.1
      exact (Jr.lay_low (leafN r.2 mm r.1 (i - at_)) hd (by show r.2 ≤ 255; omega)).mono (by show r.2 + 1 ≤ top + 1; omega)
    · exact stand_low ht t (at_ + needN r.1.length) (mm + 1) r.2 hs.2 hr.2.2.2.2 i (by omega) (by omega)

theorem calm_new (e m : Nat) (hm : 1 ≤ m) : Calm (dsNew 90) (blankJ 0 90 e) [] e m := by
  refine ⟨⟨Se.blanks_all 90, Se.blanks_all 90, rfl, by show (List.replicate 90 false).length = (Se.blanks 90).length; simp [Se.blanks]⟩, fun i => ?_, rfl, rfl, dsNew_n 90, rfl, rfl, rfl, rfl, rfl, rfl, trivial, trivial, Nat.le_refl _, fun r hr => (by cases hr), fun i h1 h2 => ?_⟩
  · show (List.replicate 90 false).getD i false = false
    rw [List.getD, List.getElem?_replicate]
    split <;> rfl
  · have hs : secs (dsNew 90) 0 i = Se.noughts := by
      show (Se.blanks 90).getD (0 + i) [] = _
      rw [List.getD, Se.blanks, List.getElem?_replicate, if_pos (by omega)]
      rfl
    rw [hs]
    exact Jr.low_noughts hm

/-- A journal begun anew over it. -/
theorem Calm.anew {d : DS} {j : JS} {recs : Recs} {e m : Nat} (h : Calm d j recs e m) (he : e ≤ 254) (hm : m ≤ e + 1) : Calm d (blankJ 0 90 (e + 1)) [] (e + 1) (e + 1) :=
  ⟨h.ok, h.dry, h.on, h.armed, h.n, rfl, rfl, rfl, rfl, rfl, rfl, trivial, trivial, Nat.le_refl _, (fun r hr => by cases hr), fun i h1 h2 => by
    rcases Nat.lt_or_ge i (total recs) with hi | hi
    · exact stand_low he recs 0 0 1 h.stand h.rise i (by omega) (by omega)
    · exact (h.low i hi h2).mono hm⟩

end Go.Proofs.Ytibadhoabobmpaa.Jl
