/-
  What is proved: the body of the law TileTurns answers true: with short lists by what both Mirrors and both Swaps answer, with long ones at once.
-/
import Derived.Test.YtkoppbbmdjhaoaaJk
namespace Go.Proofs.Ytkoppbbmdjhaoaa
open Go.RowKit
set_option linter.unusedSimpArgs false

theorem F5 : tabF Try.prog 5 = some Try.f5 := by kernel_rfl

def ansMir : List Value → AH → Option Value
  | [v, .int .i64 kind], H => match seeSet v H with
    | some s => some (.int .i64 (s.mir kind))
    | none => none
  | _, _ => none
def ansSwp : List Value → AH → Option Value
  | [v, .int .i64 kind, .int .i64 a, .int .i64 b], H => match seeSet v H with
    | some s => some (.int .i64 (s.swp kind a b))
    | none => none
  | _, _ => none

theorem ansMir_ok {call0 : Hnd} {f : FuncId} (h : ∀ (s : SV) (k : Int), ∃ H', call0 (.func (.func f) #[] #[]) [s.val, .int .i64 k] s.hp = some (.int .i64 (s.mir k), H')) : AnsOK call0 f ansMir := by
  intro cargs Hc v hv
  unfold ansMir at hv
  split at hv
  · split at hv
    · rename_i s hs
      obtain ⟨rfl, rfl⟩ := seeSet_spec hs
      cases hv
      exact ⟨rfl, fun _ => h _ _⟩
    · cases hv
  · cases hv
theorem ansSwp_ok {call0 : Hnd} {f : FuncId} (h : ∀ (s : SV) (k a b : Int), ∃ H', call0 (.func (.func f) #[] #[]) [s.val, .int .i64 k, .int .i64 a, .int .i64 b] s.hp = some (.int .i64 (s.swp k a b), H')) : AnsOK call0 f ansSwp := by
  intro cargs Hc v hv
  unfold ansSwp at hv
  split at hv
  · split at hv
    · rename_i s hs
      obtain ⟨rfl, rfl⟩ := seeSet_spec hs
      cases hv
      exact ⟨rfl, fun _ => h _ _ _ _⟩
    · cases hv
  · cases hv

theorem ok39 : AnsOK (runH M8) 39 ansMir := ansMir_ok fun s k => by
  obtain ⟨H', h⟩ := mirror_ev (inH M8) s k (fun H => M8_84 s k H)
  exact ⟨H', runH_fn F39 rfl h⟩
theorem ok40 : AnsOK (runH M8) 40 ansMir := ansMir_ok fun s k => by
  obtain ⟨H', h⟩ := rmirror_ev (inH M8) s k (fun H => M8_27 s k H)
  exact ⟨H', runH_fn F40 rfl h⟩
theorem ok41 : AnsOK (runH M8) 41 ansSwp := ansSwp_ok fun s k a b => by
  obtain ⟨H', h⟩ := swap_ev (inH M8) s k a b (fun H => M8_84 s k H) M8_72 (fun x y he H => M8_89 s x y he H)
  exact ⟨H', runH_fn F41 rfl h⟩
theorem ok42 : AnsOK (runH M9) 42 ansSwp := ansSwp_ok fun s k a b => by
  obtain ⟨H', h⟩ := rswap_ev (inH M9) s k a b (fun H => M9_27 s k H) M9_78 (fun j he hj H => M9_90 s j he hj H)
  exact ⟨H', runH_fn F42 rfl h⟩

def M10 : Hnd := orH (canH 39 ansMir) (orH (canH 40 ansMir) (orH (canH 41 ansSwp) (orH (canH 42 ansSwp) M8)))
theorem M10_ok : CallOK Try.prog M10 :=
  have h := runH_ok M8_ok
  orH_ok (canH_ok h ok39) (orH_ok (canH_ok h ok40) (orH_ok (canH_ok h ok41) (orH_ok (canH_ok (runH_ok M9_ok) ok42) M8_ok)))

theorem M10_39 (s : SV) (k : Int) (H : AH) (h0 : lookB H.bs 0 = some (.ints s.g)) (h1 : lookB H.bs 1 = some (.ints s.h)) : inH M10 (.func (.func 39) #[] #[]) [s.val, .int .i64 k] H = some (.int .i64 (s.mir k), H) :=
  inH_hd (orH_l (by rw [canH_si h0 h1]; rfl))
theorem M10_40 (s : SV) (k : Int) (H : AH) (h0 : lookB H.bs 0 = some (.ints s.g)) (h1 : lookB H.bs 1 = some (.ints s.h)) : inH M10 (.func (.func 40) #[] #[]) [s.val, .int .i64 k] H = some (.int .i64 (s.mir k), H) :=
  inH_hd (orH_r (canH_other rfl) (orH_l (by rw [canH_si h0 h1]; rfl)))
theorem M10_41 (s : SV) (k a b : Int) (H : AH) (h0 : lookB H.bs 0 = some (.ints s.g)) (h1 : lookB H.bs 1 = some (.ints s.h)) : inH M10 (.func (.func 41) #[] #[]) [s.val, .int .i64 k, .int .i64 a, .int .i64 b] H = some (.int .i64 (s.swp k a b), H) :=
  inH_hd (orH_r (canH_other rfl) (orH_r (canH_other rfl) (orH_l (by rw [canH_siii h0 h1]; rfl))))
theorem M10_42 (s : SV) (k a b : Int) (H : AH) (h0 : lookB H.bs 0 = some (.ints s.g)) (h1 : lookB H.bs 1 = some (.ints s.h)) : inH M10 (.func (.func 42) #[] #[]) [s.val, .int .i64 k, .int .i64 a, .int .i64 b] H = some (.int .i64 (s.swp k a b), H) :=
  inH_hd (orH_r (canH_other rfl) (orH_r (canH_other rfl) (orH_r (canH_other rfl) (orH_l (by rw [canH_siii h0 h1]; rfl)))))
theorem M10_25 (H : AH) : inH M10 (.func (.func 25) #[] #[]) [] H = some (.bool true, H) :=
  inH_hd (orH_r (canH_other rfl) (orH_r (canH_other rfl) (orH_r (canH_other rfl) (orH_r (canH_other rfl) (orH_r (canH_other rfl) (orH_r (canH_other rfl) (orH_r (canH_other rfl) (orH_l rfl))))))))
theorem M10_15 (s : SV) (H : AH) (h0 : lookB H.bs 0 = some (.ints s.g)) (h1 : lookB H.bs 1 = some (.ints s.h)) : inH M10 (.func (.func 15) #[] #[]) [s.val] H = some (.bool s.long, H) :=
  inH_hd (orH_r (canH_other rfl) (orH_r (canH_other rfl) (orH_r (canH_other rfl) (orH_r (canH_other rfl) (orH_r (canH_other rfl) (orH_r (canH_other rfl) (orH_r (canH_other rfl) (orH_r (canH_other rfl) (orH_r (canH_other rfl) (orH_r (canH_other rfl) (orH_l (canH_set h0 h1))))))))))))

def P5 (s : SV) (x : List DR × Nat) : Prop := x.2 = 3 ∧ wheap s.bx.bs x.1 = s.bx.bs ∧ ∀ tm, tv tm all1 x.1 8 = .bool true

set_option maxRecDepth 10000 in
set_option maxHeartbeats 8000000 in
theorem turns_ev (s : SV) (kind a b : Int) (hl : s.long = false) : ∃ H', evFn (tabT Try.prog) (inH M10) 300 kpT 5 Try.f5 [s.val, .int .i64 kind, .int .i64 a, .int .i64 b] s.hp = some (.bool true, H') := by
  have h15 := M10_15 s
  have h39 := M10_39 s kind
  have h40 := M10_40 s kind
  have h41 := M10_41 s kind a b
  have h42 := M10_42 s kind a b
  have h25 := M10_25
  rw [hl] at h15
  simp only [SV.val] at h15 h39 h40 h41 h42
  simp only [evFn, Try.f5, SV.val, SV.hp]
  simp [ec_skip, ec_label, ek_reg, ek_draw, ek_seq, ec_cond, ek_block, ec_loop, ec_exit, ec_ret, ek_nil, ek_op, opK_some, regK_some, seqK_normal, seqK_exit, seqK_ret, blockK_normal, blockK_exit, blockK_ret, evOp, vOp, hOp, aWanted, aY, boolOf, opd, putT, closedV, undef, aBin, intOp, sameK, mapO, joinR, hasAddr, pushB, aAlloc, Value.cells, T3, T4, T22, FA24_0, FA24_1, FA24_2, FA24_3, FA24_4, FA24_5, FA24_6, FA24_7, FA24_8, LD3, LD4, LD22, LD27, LDr, LD24, LEN22, IA22, cellAt, lookB, Nat.beq_eq, takeCells, getT, setT, h15]
  generalize hX : evDraw _ _ _ _ _ = X
  obtain ⟨⟨rs, nx⟩, rfl, hnx, hwh, htv⟩ := evDraw_ex (Pq := P5 s) hX (by kernel_rfl) (by simp [decrK]) (by
    clear hX
    generalize befs _ = M
    simp [mapO, drRun, drOp, looks, guardT, tmpsOf, Op.operands, Call.operands, wantedR, gOf, natMem, tv, all1, roB, news, newOnes, decr, evOp, vOp, hOp, opd, closedV, undef, aBin, intOp, sameK, opdO, FA24_0, FA24_1, FA24_2, FA24_3, FA24_4, FA24_5, FA24_8, LD3, LD22, LD24, LDr, IA22, cellAt, lookB, Nat.beq_eq, T3, T4, T22, takeCells, getT, h39, h40, h41, h42, h25]
    exact ⟨by simp [dynOK, b02, b12], rfl, by simp [SV.bx, wheap, news], fun tm => by simp [tv, all1]⟩)
  simp [ec_skip, ec_label, ek_reg, ek_draw, ek_seq, ec_cond, ek_block, ec_loop, ec_exit, ec_ret, ek_nil, ek_op, opK_some, regK_some, seqK_normal, seqK_exit, seqK_ret, blockK_normal, blockK_exit, blockK_ret, evOp, vOp, hOp, aWanted, aY, boolOf, opd, putT, closedV, undef, aBin, intOp, sameK, mapO, joinR, hasAddr, pushB, aAlloc, Value.cells, T3, T4, T22, FA24_0, FA24_1, FA24_2, FA24_3, FA24_4, FA24_5, FA24_6, FA24_7, FA24_8, LD3, LD4, LD22, LD27, LDr, LD24, LEN22, IA22, cellAt, lookB, Nat.beq_eq, takeCells, finF, takeM, resV, getT_set, setT_length, getT_fin, fin_length, htv]

set_option maxRecDepth 10000 in
set_option maxHeartbeats 8000000 in
theorem long_evC (call : Value → List Value → AH → Option (Value × AH)) (s : SV) (c : ABlk) : evFn (tabT Try.prog) call 300 kpT 15 Try.f15 [s.val] ⟨3, [(2, c)]⟩ = some (.bool s.long, ⟨4, [(2, c)]⟩) := by
  simp only [evFn, Try.f15, SV.val, SV.long]
  by_cases c1 : 20 < (s.n : Int)
  · have c1' : ¬ (s.n : Int) ≤ 20 := by omega
    simp [ec_skip, ec_label, ek_reg, ek_draw, ek_seq, ec_cond, ek_block, ec_loop, ec_exit, ec_ret, ek_nil, ek_op, opK_some, regK_some, seqK_normal, seqK_exit, seqK_ret, blockK_normal, blockK_exit, blockK_ret, evOp, vOp, hOp, aWanted, aY, boolOf, opd, putT, closedV, undef, aBin, intOp, sameK, mapO, joinR, hasAddr, pushB, aAlloc, Value.cells, T3, T4, T22, FA24_0, FA24_1, FA24_2, FA24_3, FA24_4, FA24_5, FA24_6, FA24_7, FA24_8, LD3, LD4, LD22, LD27, LDr, LD24, LEN22, IA22, cellAt, lookB, Nat.beq_eq, takeCells, finF, takeM, resV, getT_set, setT_length, getT, setT, below, cleaned, kpT, c1, c1']
  · have c1' : (s.n : Int) ≤ 20 := by omega
    simp [ec_skip, ec_label, ek_reg, ek_draw, ek_seq, ec_cond, ek_block, ec_loop, ec_exit, ec_ret, ek_nil, ek_op, opK_some, regK_some, seqK_normal, seqK_exit, seqK_ret, blockK_normal, blockK_exit, blockK_ret, evOp, vOp, hOp, aWanted, aY, boolOf, opd, putT, closedV, undef, aBin, intOp, sameK, mapO, joinR, hasAddr, pushB, aAlloc, Value.cells, T3, T4, T22, FA24_0, FA24_1, FA24_2, FA24_3, FA24_4, FA24_5, FA24_6, FA24_7, FA24_8, LD3, LD4, LD22, LD27, LDr, LD24, LEN22, IA22, cellAt, lookB, Nat.beq_eq, takeCells, finF, takeM, resV, getT_set, setT_length, getT, setT, below, cleaned, kpT, c1, c1']

theorem noH_15C (s : SV) (c : ABlk) : inH noH (.func (.func 15) #[] #[]) [s.val] ⟨3, [(2, c)]⟩ = some (.bool s.long, ⟨4, [(2, c)]⟩) := by
  unfold inH
  rw [evCall_succ]
  simp only [noH, F15]
  exact long_evC _ s c

set_option maxRecDepth 10000 in
set_option maxHeartbeats 8000000 in
theorem turnsL_ev (s : SV) (kind a b : Int) (hl : s.long = true) : ∃ H', evFn (tabT Try.prog) (inH noH) 300 kpT 5 Try.f5 [s.val, .int .i64 kind, .int .i64 a, .int .i64 b] ⟨2, []⟩ = some (.bool true, H') := by
  have h15 := noH_15C s
  rw [hl] at h15
  simp only [SV.val] at h15
  simp only [evFn, Try.f5, SV.val]
  simp [ec_skip, ec_label, ek_reg, ek_draw, ek_seq, ec_cond, ek_block, ec_loop, ec_exit, ec_ret, ek_nil, ek_op, opK_some, regK_some, seqK_normal, seqK_exit, seqK_ret, blockK_normal, blockK_exit, blockK_ret, evOp, vOp, hOp, aWanted, aY, boolOf, opd, putT, closedV, undef, aBin, intOp, sameK, mapO, joinR, hasAddr, pushB, aAlloc, Value.cells, T3, T4, T22, FA24_0, FA24_1, FA24_2, FA24_3, FA24_4, FA24_5, FA24_6, FA24_7, FA24_8, LD3, LD4, LD22, LD27, LDr, LD24, LEN22, IA22, cellAt, lookB, Nat.beq_eq, takeCells, finF, takeM, resV, getT_set, setT_length, getT, setT, h15]

end Go.Proofs.Ytkoppbbmdjhaoaa
