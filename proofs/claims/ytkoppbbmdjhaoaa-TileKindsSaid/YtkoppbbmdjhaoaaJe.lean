/-
  What is proved: tile.find's answers, as answers that calls may take.
-/
import Derived.Test.YtkoppbbmdjhaoaaJd
namespace Go.Proofs.Ytkoppbbmdjhaoaa
open Go.RowKit
set_option linter.unusedSimpArgs false

theorem call_fn {n : Nat} {hd : Hnd} {f : FuncId} {fn : Func} {cap : Array Value} {args : List Value} {H : AH} (hF : tabF Try.prog f = some fn) (hh : hd (.func (.func f) #[] cap) args H = none) :
    evCall (tabT Try.prog) (tabF Try.prog) 300 kpT hd (n + 1) (.func (.func f) #[] cap) args H = evFn (tabT Try.prog) (evCall (tabT Try.prog) (tabF Try.prog) 300 kpT hd n) 300 kpT f fn (args ++ cap.toList) H := by
  rw [evCall_succ, hh]
  simp only [hF]

theorem call_yield {n : Nat} {hd : Hnd} {l : Nat} {args : List Value} {H : AH} (hh : hd (.func (.yield l) #[] #[]) args H = none) :
    evCall (tabT Try.prog) (tabF Try.prog) 300 kpT hd (n + 1) (.func (.yield l) #[] #[]) args H = evRound (tabT Try.prog) (evCall (tabT Try.prog) (tabF Try.prog) 300 kpT hd n) 300 kpT l args H := by
  rw [evCall_succ, hh]

theorem call_hd {n : Nat} {hd : Hnd} {fv : Value} {args : List Value} {H : AH} {r : Value × AH} (h : hd fv args H = some r) : evCall (tabT Try.prog) (tabF Try.prog) 300 kpT hd (n + 1) fv args H = some r := by
  rw [evCall_succ, h]

theorem idxBad_all (g : Nat → Int) : ∀ (m i : Nat), ¬ 0 ≤ idxBad g m i → ∀ j, i ≤ j → j < i + m → 1 ≤ g j ∧ g j ≤ 9
  | 0, i, _, j, h1, h2 => by omega
  | m + 1, i, h, j, h1, h2 => by
    rw [idxBad] at h
    split at h
    · rename_i hb
      by_cases hj : j = i
      · subst hj
        exact btw_iff.1 hb
      · exact idxBad_all g m (i + 1) h j (by omega) (by omega)
    · exact absurd (Int.natCast_nonneg i) h

theorem firstE_step {B : Nat → Bool} {E : Nat → Int} {m i : Nat} (h : firstE B E (m + 1) i = 0) (he : E i ≠ 0) : B i = true ∧ firstE B E m (i + 1) = 0 := by
  rw [firstE] at h
  split at h
  · exact ⟨‹_›, h⟩
  · exact absurd h he

theorem small_of_err {s : SV} (h : s.err = 0) : s.Small := by
  obtain ⟨_, h⟩ := firstE_step (m := 11) (i := 0) h (by simp [ruleE])
  obtain ⟨c1, h⟩ := firstE_step (m := 10) (i := 1) h (by simp [ruleE])
  obtain ⟨c2, h⟩ := firstE_step (m := 9) (i := 2) h (by simp [ruleE])
  obtain ⟨c3, h⟩ := firstE_step (m := 8) (i := 3) h (by simp [ruleE])
  obtain ⟨c4, h⟩ := firstE_step (m := 7) (i := 4) h (by simp [ruleE])
  obtain ⟨c5, _⟩ := firstE_step (m := 6) (i := 5) h (by simp [ruleE])
  simp only [ruleB] at c1 c2 c3 c4 c5
  have b3 := btw_iff.1 c3
  have b4 := btw_iff.1 c4
  have b5 := btw_iff.1 c5
  have b1 : (s.n : Int) ≤ 3 := by simpa using c1
  refine ⟨by omega, fun i hi => ?_, b3, b4, b5⟩
  have b2 : anyBad s.g s.n = false := by simpa using c2
  have b2' : ¬ 0 ≤ idxBad s.g s.n 0 := by simpa [anyBad] using b2
  exact idxBad_all s.g s.n 0 b2' i (by omega) (by omega)

set_option maxRecDepth 10000 in
set_option maxHeartbeats 8000000 in
theorem kinds87_ev (call : Value → List Value → AH → Option (Value × AH)) (s : SV) (H : AH) : evFn (tabT Try.prog) call 300 kpT 87 Try.f87 [s.val] H = some (.func (.func 111) #[] #[.pointer (some ⟨H.next, 0, none⟩)], pushB H (.cells false s.boxL)) := by
  simp only [evFn, Try.f87, SV.val, SV.boxL]
  simp [ec_skip, ec_label, ek_reg, ek_draw, ek_seq, ec_cond, ek_block, ec_loop, ec_exit, ec_ret, ek_nil, ek_op, opK_some, regK_some, seqK_normal, seqK_exit, seqK_ret, blockK_normal, blockK_exit, blockK_ret, evOp, vOp, hOp, aWanted, aY, boolOf, opd, putT, closedV, undef, aBin, intOp, sameK, mapO, joinR, hasAddr, pushB, aAlloc, Value.cells, T3, T4, T22, FA24_0, FA24_1, FA24_2, FA24_3, FA24_4, FA24_5, FA24_6, FA24_7, FA24_8, LD3, LD4, LD22, LD27, LDr, LD24, LEN22, IA22, cellAt, lookB, Nat.beq_eq, takeCells, getT, setT, finF, takeM, resV, getT_set, setT_length, cleaned]

def aOk (s : SV) : Option Value := some (.bool s.ok)
def aKinds (s : SV) : Option Value := some (.int .i64 s.kinds)

theorem ok80 : AnsOK (runH L4) 80 (ans1 aOk) := ans1_ok fun s v h => by
  cases h
  refine ⟨rfl, fun _ _ => ?_⟩
  obtain ⟨H', h⟩ := valid_ev (inH L4) L4_17 s
  exact ⟨H', runH_fn F80 rfl h⟩
theorem ok20 : AnsOK (runH L4) 20 (ans1 aKinds) := ans1_ok fun s v h => by
  cases h
  refine ⟨rfl, fun _ _ => ?_⟩
  obtain ⟨H', h⟩ := rkinds_ev (inH L4) L4_18 L4_79 s
  exact ⟨H', runH_fn F20 rfl h⟩

def M7 : Hnd := orH (canH 80 (ans1 aOk)) (orH (canH 20 (ans1 aKinds)) (orH (canH 15 (ans1 aLong)) L4))
theorem M7_ok : CallOK Try.prog M7 := orH_ok (canH_ok (runH_ok L4_ok) ok80) (orH_ok (canH_ok (runH_ok L4_ok) ok20) (orH_ok (canH_ok (runH_ok L4_ok) ok15) L4_ok))

theorem M7_80 (s : SV) (H : AH) (h0 : lookB H.bs 0 = some (.ints s.g)) (h1 : lookB H.bs 1 = some (.ints s.h)) : inH M7 (.func (.func 80) #[] #[]) [s.val] H = some (.bool s.ok, H) := inH_hd (orH_l (canH_set h0 h1))
theorem M7_20 (s : SV) (H : AH) (h0 : lookB H.bs 0 = some (.ints s.g)) (h1 : lookB H.bs 1 = some (.ints s.h)) : inH M7 (.func (.func 20) #[] #[]) [s.val] H = some (.int .i64 s.kinds, H) := inH_hd (orH_r (canH_other rfl) (orH_l (canH_set h0 h1)))
theorem M7_18 (s : SV) (H : AH) (h0 : lookB H.bs 0 = some (.ints s.g)) (h1 : lookB H.bs 1 = some (.ints s.h)) : inH M7 (.func (.func 18) #[] #[]) [s.val] H = some (.int .i64 s.err, H) :=
  inH_hd (orH_r (canH_other rfl) (orH_r (canH_other rfl) (orH_r (canH_other rfl) (orH_r (canH_other rfl) (orH_l (canH_set h0 h1))))))

theorem M7_cl (f : FuncId) (x : Value) (cap args : List Value) (H : AH) : M7 (.func (.func f) #[] ⟨x :: cap⟩) args H = none := rfl
theorem M7_y (l : Nat) (args : List Value) (H : AH) : M7 (.func (.yield l) #[] #[]) args H = none := rfl
theorem M7_87 (args : List Value) (H : AH) : M7 (.func (.func 87) #[] #[]) args H = none := rfl

theorem find_start (s : SV) (kind : Int) (h : s.err = 0) : inH M7 (.func (.func 111) #[] #[.pointer (some ⟨6, 0, none⟩)]) [.func (.yield 8) #[] #[]] (startF s kind) = some (.tuple #[], rowsR (MrF s kind) (HDF s kind) (hitF kind) s.rows 0 0) := by
  unfold inH
  rw [call_fn F111 (M7_cl _ _ _ _ _)]
  refine kinds_ev _ s (small_of_err h) (startF s kind) (MrF s kind) (HDF s kind) (hitF kind) (fun c m => ?_) (fun c m => ?_) rfl rfl (fun su q c m hq hc hcq => ?_)
  · simp [MrF, MF, lookB, Nat.beq_eq]
  · simp [MrF, MF, lookB, Nat.beq_eq]
  · unfold cl112
    rw [call_fn F112 (M7_cl _ _ _ _ _)]
    refine row_ev _ (MrF s kind) (HDF s kind su q) (hitF kind su q) su q c m (fun c m => ?_) (fun c m => ?_) (fun c m c' => ?_) (fun c r m => ?_) hq hc hcq
    · simp [MrF, MF, lookB, Nat.beq_eq]
    · simp [MrF, MF, lookB, Nat.beq_eq]
    · simp [MrF, MF, setB, Nat.beq_eq]
    · rw [call_yield (M7_y _ _ _)]
      have := yield_find (evCall (tabT Try.prog) (tabF Try.prog) 300 kpT M7 5) s kind c su r q m
      simp only [MrF, HDF, hitF]
      rw [this]
      by_cases hc : c = kind
      · simp [hc]
      · simp [hc]

def ansFind : List Value → AH → Option Value
  | [v, .int .i64 kind], H => match seeSet v H with
    | some s => some (findV (s.find kind))
    | none => none
  | _, _ => none

theorem findV_closed (x : Option (Int × Int × Int)) : closedV 5 (findV x) = true := by
  cases x <;> rfl

theorem ok84 : AnsOK (runH M7) 84 ansFind := by
  intro cargs Hc v hv
  unfold ansFind at hv
  split at hv
  · rename_i kind
    split at hv
    · rename_i s hs
      obtain ⟨rfl, rfl⟩ := seeSet_spec hs
      cases hv
      refine ⟨findV_closed _, fun _ => ?_⟩
      obtain ⟨H', h⟩ := find_ev (inH M7) s kind (fun H h0 h1 => M7_80 s H h0 h1) (fun H _ _ => by unfold inH; rw [call_fn F87 (M7_87 _ _)]; exact kinds87_ev _ s H) (find_start s kind)
      exact ⟨H', runH_fn F84 rfl h⟩
    · cases hv
  · cases hv

theorem canH_si {f : FuncId} {ans : List Value → AH → Option Value} {s : SV} {k : Int} {H : AH} (h0 : lookB H.bs 0 = some (.ints s.g)) (h1 : lookB H.bs 1 = some (.ints s.h)) :
    canH f ans (.func (.func f) #[] #[]) [s.val, .int .i64 k] H = (ans [s.val, .int .i64 k] s.hp).map (·, H) := by
  simp [canH, canon, canonL, canonV, idOf, idxOf, SV.val, canonB, h0, h1, SV.hp]
  generalize ans _ _ = x
  cases x <;> rfl

end Go.Proofs.Ytkoppbbmdjhaoaa
