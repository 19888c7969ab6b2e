/-
  What is proved: find, Place and After, as answers that calls may take.
-/
import Derived.Test.YtdbpemmhkfbegaaXe
import Derived.Test.YtdbpemmhkfbegaaXa
namespace Go.Proofs.Ytdbpemmhkfbegaa
open Go.RowKit
set_option linter.unusedSimpArgs false
set_option linter.unusedVariables false

theorem FV : tabF Try.prog 37 = some Try.f37 := by kernel_rfl
theorem FP : tabF Try.prog 7 = some Try.f7 := by kernel_rfl
theorem FA : tabF Try.prog 18 = some Try.f18 := by kernel_rfl
theorem kgV : (kpT 37, gcT 37) = (false, true) := by kernel_rfl
theorem kgK : (kpT 38, gcT 38) = (false, false) := by kernel_rfl
theorem call_fn {n : Nat} {hd : Hnd} {f : FuncId} {fn : Func} {cap : Array Value} {args : List Value} {H : AH} (hF : tabF Try.prog f = some fn) (hh : hd (.func (.func f) #[] cap) args H = none) :
    evCall (tabT Try.prog) (tabF Try.prog) 300 kpT hd (n + 1) (.func (.func f) #[] cap) args H = evFn (tabT Try.prog) (evCall (tabT Try.prog) (tabF Try.prog) 300 kpT hd n) 300 kpT f fn (args ++ cap.toList) H := by
  conv => lhs; unfold evCall
  simp only [hh, hF]
  rw [twT_no rfl]
theorem call_yield {n : Nat} {hd : Hnd} {l : Nat} {args : List Value} {H : AH} (hh : hd (.func (.yield l) #[] #[]) args H = none) :
    evCall (tabT Try.prog) (tabF Try.prog) 300 kpT hd (n + 1) (.func (.yield l) #[] #[]) args H = evRound (tabT Try.prog) (evCall (tabT Try.prog) (tabF Try.prog) 300 kpT hd n) 300 kpT l args H := by
  conv => lhs; unfold evCall
  simp only [hh]
set_option maxRecDepth 10000 in
set_option maxHeartbeats 8000000 in
theorem valid_ev (call : Value → List Value → AH → Option (Value × AH)) (h17 : ∀ (s : SV) (H : AH), lookB H.bs 0 = some (.ints s.g) → lookB H.bs 1 = some (.ints s.h) → call (.func (.func 56) #[] #[]) [s.val] H = some (.int .i64 s.err, H)) (s : SV) : ∃ H', evFn (tabT Try.prog) call 300 kpT 37 Try.f37 [s.val] s.hp = some (.bool s.ok, H') := by
  have kp := kgV
  simp only [Prod.mk.injEq] at kp
  obtain ⟨kp1, kp2⟩ := kp
  have h := h17 s
  simp only [SV.val] at h
  simp only [evFn, Try.f37, SV.val, SV.hp, SV.ok]
  simp [ec_skip, ec_label, ek_reg, ek_draw, ek_seq, ec_cond, ek_block, ec_loop, ec_exit, ec_ret, ec_scope, ek_nil, ek_op, opK_some, regK_some, seqK_normal, seqK_exit, seqK_ret, blockK_normal, blockK_exit, blockK_ret, evOp, vOp, hOpB, hOpU, hOp, hOpT, aAppendG_tab, aWanted, aYielded, opd, putT, closedV, aBin, intOp, sameK, mapO, joinR, hasAddr, boundOf, pushB, aAlloc, Value.cells, lookB, setB, Nat.beq_eq, tm_n_set, tm_get_set, tm_of_n, tm_of_get, tm_tr_set, tm_tr_of, cellV, putF, appR_eq, takeR_eq, dropR_eq, setR_eq, getR_eq, ↓C75, ↓C76, ↓C77, ↓C79, ↓C17, ↓C18, ↓C22, ↓C71, FA24_0, FA24_1, FA24_2, FA24_3, FA24_4, FA24_5, FA24_6, FA24_7, FA24_8, LD3, LD4, LD22, LD27, LDr, LD24, LEN22, IA22, tkc, cellAt, h, finF, takeM, resV, cleanedG, kp1, kp2, below]
set_option maxRecDepth 10000 in
set_option maxHeartbeats 8000000 in
theorem kinds87_ev (call : Value → List Value → AH → Option (Value × AH)) (s : SV) (H : AH) : evFn (tabT Try.prog) call 300 kpT 38 Try.f38 [s.val] H = some (.func (.func 57) #[] #[.pointer (some ⟨H.next, 0, none⟩)], pushB H (.cells false s.boxL)) := by
  have kp := kgK
  simp only [Prod.mk.injEq] at kp
  obtain ⟨kp1, kp2⟩ := kp
  simp only [evFn, Try.f38, SV.val, SV.boxL]
  simp [ec_skip, ec_label, ek_reg, ek_draw, ek_seq, ec_cond, ek_block, ec_loop, ec_exit, ec_ret, ec_scope, ek_nil, ek_op, opK_some, regK_some, seqK_normal, seqK_exit, seqK_ret, blockK_normal, blockK_exit, blockK_ret, evOp, vOp, hOpB, hOpU, hOp, hOpT, aAppendG_tab, aWanted, aYielded, opd, putT, closedV, aBin, intOp, sameK, mapO, joinR, hasAddr, boundOf, pushB, aAlloc, Value.cells, lookB, setB, Nat.beq_eq, tm_n_set, tm_get_set, tm_of_n, tm_of_get, tm_tr_set, tm_tr_of, cellV, putF, appR_eq, takeR_eq, dropR_eq, setR_eq, getR_eq, ↓C75, ↓C76, ↓C77, ↓C79, ↓C17, ↓C18, ↓C22, ↓C71, FA24_0, FA24_1, FA24_2, FA24_3, FA24_4, FA24_5, FA24_6, FA24_7, FA24_8, LD3, LD4, LD22, LD27, LDr, LD24, LEN22, IA22, tkc, cellAt, finF, takeM, resV, cleanedG, kp1, kp2]
noncomputable def aOk (s : SV) : Option Value := some (.bool s.ok)
theorem ok80 : AnsOK (runH L4) 37 (ans1 aOk) := ans1_ok fun s v h => by
  cases h
  refine ⟨rfl, fun _ _ => ?_⟩
  obtain ⟨H', h⟩ := valid_ev (inH L4) L4_17 s
  exact ⟨H', runH_fn FV rfl h⟩
noncomputable def M7 : Hnd := orH (canH 37 (ans1 aOk)) L4
theorem M7_ok : CallOK Try.prog M7 := orH_ok (canH_ok (runH_ok L4_ok) ok80) L4_ok
theorem M7_80 (s : SV) (H : AH) (h0 : lookB H.bs 0 = some (.ints s.g)) (h1 : lookB H.bs 1 = some (.ints s.h)) : inH M7 (.func (.func 37) #[] #[]) [s.val] H = some (.bool s.ok, H) := inH_hd (orH_l (canH_set h0 h1))
theorem M7_cl (f : FuncId) (x : Value) (cap args : List Value) (H : AH) : M7 (.func (.func f) #[] ⟨x :: cap⟩) args H = none := rfl
theorem M7_y (l : Nat) (args : List Value) (H : AH) : M7 (.func (.yield l) #[] #[]) args H = none := rfl
theorem M7_87 (args : List Value) (H : AH) : M7 (.func (.func 38) #[] #[]) args H = none := rfl
theorem find_start (s : SV) (kind : Int) (h : s.err = 0) : inH M7 (.func (.func 57) #[] #[.pointer (some ⟨6, 0, none⟩)]) [.func (.yield 8) #[] #[]] (startF s kind) = some (.tuple #[], rowsR (MrF s kind) (HDF s kind) (hitF kind) s.rows 0 0) := by
  unfold inH
  rw [call_fn F111 (M7_cl _ _ _ _ _)]
  refine kinds_ev _ s (small_of_err h) (startF s kind) (MrF s kind) (HDF s kind) (hitF kind) (fun c m => ?_) (fun c m => ?_) rfl rfl (fun su q c m hq hc hcq => ?_)
  · simp [MrF, MF1, lookB, Nat.beq_eq]
  · simp [MrF, MF1, lookB, Nat.beq_eq]
  · unfold cl112
    rw [call_fn F112 (M7_cl _ _ _ _ _)]
    refine row_ev _ (MrF s kind) (HDF s kind su q) (hitF kind su q) su q c m (fun c m => ?_) (fun c m => ?_) (fun c m c' => ?_) (fun c r m => ?_) hq hc hcq
    · simp [MrF, MF1, lookB, Nat.beq_eq]
    · simp [MrF, MF1, lookB, Nat.beq_eq]
    · simp [MrF, MF1, setB, Nat.beq_eq]
    · rw [call_yield (M7_y _ _ _)]
      have := yield_find (evCall (tabT Try.prog) (tabF Try.prog) 300 kpT M7 5) s kind c su r q m
      simp only [MrF, HDF, hitF]
      rw [this]
      by_cases hc : c = kind
      · simp [hc]
      · simp [hc]

noncomputable def ansFind : List Value → AH → Option Value
  | [v, .int .i64 kind], H => match seeSet v H with
    | some s => some (findV (s.find kind))
    | none => none
  | _, _ => none

theorem findV_closed (x : Option (Int × Int × Int)) : closedV 5 (findV x) = true := by
  cases x <;> rfl

theorem ok84 : AnsOK (runH M7) 28 ansFind := by
  intro cargs Hc v hv
  unfold ansFind at hv
  split at hv
  · rename_i kind
    split at hv
    · rename_i s hs
      obtain ⟨rfl, rfl⟩ := seeSet_spec hs
      cases hv
      refine ⟨findV_closed _, fun _ => ?_⟩
      obtain ⟨H', h⟩ := find_ev (inH M7) s kind (fun H h0 h1 => M7_80 s H h0 h1) (fun H _ _ => by unfold inH; rw [call_fn F87 (M7_87 _ _)]; exact kinds87_ev _ s H) (find_start s kind)
      exact ⟨H', runH_fn F84 rfl h⟩
    · cases hv
  · cases hv

theorem canH_si {f : FuncId} {ans : List Value → AH → Option Value} {s : SV} {k : Int} {H : AH} (h0 : lookB H.bs 0 = some (.ints s.g)) (h1 : lookB H.bs 1 = some (.ints s.h)) :
    canH f ans (.func (.func f) #[] #[]) [s.val, .int .i64 k] H = (ans [s.val, .int .i64 k] s.hp).map (·, H) := by
  simp [canH, canon, canonL, canonV, idOf, idxOf, SV.val, canonB, h0, h1, SV.hp]
  generalize ans _ _ = x
  cases x <;> rfl

noncomputable def F1 : Hnd := orH (canH 28 ansFind) M7
theorem F1_ok : CallOK Try.prog F1 := orH_ok (canH_ok (runH_ok M7_ok) ok84) M7_ok
theorem F1_find (s : SV) (k : Int) (H : AH) (h0 : lookB H.bs 0 = some (.ints s.g)) (h1 : lookB H.bs 1 = some (.ints s.h)) : inH F1 (.func (.func 28) #[] #[]) [s.val, .int .i64 k] H = some (findV (s.find k), H) := by
  refine inH_hd (orH_l ?_)
  rw [canH_si h0 h1]
  have e : seeSet s.val s.hp = some s := by cases s; rfl
  simp only [ansFind, e, Option.map_some]
noncomputable def ansPl : SV → List Value → Option Value
  | s, [.int .i64 k] => some (placeT (s.find k))
  | _, _ => none
noncomputable def ansAf : SV → List Value → Option Value
  | s, [.int .i64 k] => some (.int .i64 (s.aft k))
  | _, _ => none
theorem setP_ok : CallOK Try.prog (setH 7 ansPl) := setH_ok (runH_ok F1_ok) fun s rest v _ _ hv => by
  unfold ansPl at hv
  split at hv
  · rename_i k
    cases hv
    obtain ⟨H', h⟩ := place_ev (inH F1) s k (fun H h0 h1 => F1_find s k H h0 h1)
    exact ⟨by cases s.find k <;> rfl, H', runH_fn FP rfl h⟩
  · cases hv
theorem setA_ok : CallOK Try.prog (setH 18 ansAf) := setH_ok (runH_ok F1_ok) fun s rest v _ _ hv => by
  unfold ansAf at hv
  split at hv
  · rename_i k
    cases hv
    obtain ⟨H', h⟩ := after_ev (inH F1) s k (fun H h0 h1 => F1_find s k H h0 h1)
    exact ⟨rfl, H', runH_fn FA rfl h⟩
  · cases hv

end Go.Proofs.Ytdbpemmhkfbegaa
