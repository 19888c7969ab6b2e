/-
  What is proved: what the two generators answer: a word, and a number below another one.
-/
import Derived.Test.YtbgknpcbldnabaaWa
namespace Go.Proofs.Ytbgknpcbldnabaa
open Go.RowKit
set_option linter.unusedSimpArgs false
set_option linter.unusedVariables false

theorem Nnext : ((tabT Try.prog) 68).map (fun z => (z.ex.nat 42, z.ex.mnz 42)) = some (none, none) := by kernel_rfl
theorem Cnext (call : Value → List Value → AH → Option (Value × AH)) {tm : Tm} {i : Nat} {H : AH} {d : Option Tmp} {t : TypeId} {p : String} {a : Array Edge} {gd : Option (Nat × Bool)} : evOp (tabT Try.prog) call ⟨d, .call ⟨.value (.func 42), #[.tmp i], #[68]⟩, t, p, a, gd⟩ (opd tm) H = call (.func (.func 42) #[] #[]) [tm.get i] H :=
  evOp_evO.trans (eo_call1 rfl rfl Nnext)
theorem Ndraw : ((tabT Try.prog) 40).map (fun z => z.ex.nat 31) = some none := by kernel_rfl
theorem Cdraw (call : Value → List Value → AH → Option (Value × AH)) {tm : Tm} {i j : Nat} {H : AH} {d : Option Tmp} {t : TypeId} {p : String} {a : Array Edge} {gd : Option (Nat × Bool)} : evOp (tabT Try.prog) call ⟨d, .call ⟨.value (.func 31), #[.tmp i, .tmp j], #[40, 3]⟩, t, p, a, gd⟩ (opd tm) H = call (.func (.func 31) #[] #[]) [tm.get i, tm.get j] H :=
  evOp_evO.trans (eo_call2n rfl rfl rfl Ndraw)
theorem Nword : ((tabT Try.prog) 25).map (fun z => (z.ex.nat 33, z.ex.mnz 33)) = some (none, none) := by kernel_rfl
theorem Cword (call : Value → List Value → AH → Option (Value × AH)) {tm : Tm} {i : Nat} {H : AH} {d : Option Tmp} {t : TypeId} {p : String} {a : Array Edge} {gd : Option (Nat × Bool)} : evOp (tabT Try.prog) call ⟨d, .call ⟨.value (.func 33), #[.tmp i], #[25]⟩, t, p, a, gd⟩ (opd tm) H = call (.func (.func 33) #[] #[]) [tm.get i] H :=
  evOp_evO.trans (eo_call1 rfl rfl Nword)
theorem Nrdraw : ((tabT Try.prog) 25).map (fun z => z.ex.nat 17) = some none := by kernel_rfl
theorem Crdraw (call : Value → List Value → AH → Option (Value × AH)) {tm : Tm} {i j : Nat} {H : AH} {d : Option Tmp} {t : TypeId} {p : String} {a : Array Edge} {gd : Option (Nat × Bool)} : evOp (tabT Try.prog) call ⟨d, .call ⟨.value (.func 17), #[.tmp i, .tmp j], #[25, 3]⟩, t, p, a, gd⟩ (opd tm) H = call (.func (.func 17) #[] #[]) [tm.get i, tm.get j] H :=
  evOp_evO.trans (eo_call2n rfl rfl rfl Nrdraw)
theorem LD40 (H : AH) (i off : Nat) : aLoad (tabT Try.prog) H 40 (.pointer (some ⟨i, off, none⟩)) = cellAt H.bs i off := ldc (by kernel_rfl) H i off
theorem ST40 (H : AH) (i off : Nat) (v : Value) : aStore (tabT Try.prog) H 40 (.pointer (some ⟨i, off, none⟩)) v = match lookB H.bs i with
    | some (.cells false cs) => if Nat.beq v.cells.toList.length 1 && Nat.ble (off + v.cells.toList.length) cs.length && v.cells.toList.all cellV then some { H with bs := setB H.bs i (.cells false (putF cs off v.cells.toList)) } else none
    | _ => none := sti (by kernel_rfl) H i off v
theorem ST3 (H : AH) (i off : Nat) (v : Value) : aStore (tabT Try.prog) H 3 (.pointer (some ⟨i, off, none⟩)) v = match lookB H.bs i with
    | some (.cells false cs) => if Nat.beq v.cells.toList.length 1 && Nat.ble (off + v.cells.toList.length) cs.length && v.cells.toList.all cellV then some { H with bs := setB H.bs i (.cells false (putF cs off v.cells.toList)) } else none
    | _ => none := sti (by kernel_rfl) H i off v
theorem CV3_25 (call : Value → List Value → AH → Option (Value × AH)) {tm : Tm} {j : Nat} {H : AH} {d : Option Tmp} {t : TypeId} {p : String} {a : Array Edge} {gd : Option (Nat × Bool)} : evOp (tabT Try.prog) call ⟨d, .convert 3 25 (.tmp j), t, p, a, gd⟩ (opd tm) H = match tm.get j with | .int _ n => some (.int .u64 (wrapI .u64 n), H) | _ => evO (tabT Try.prog) call (.convert 3 25 (.tmp j)) (opd tm) H := by
  rw [evOp_evO]
  split
  · rename_i kk n h
    refine evO_v ?_
    rw [cvt (k := .u64) (by kernel_rfl) (by kernel_rfl)]
    simp only [opd_tmp, h]
  · rfl
theorem CV25_3 (call : Value → List Value → AH → Option (Value × AH)) {tm : Tm} {j : Nat} {H : AH} {d : Option Tmp} {t : TypeId} {p : String} {a : Array Edge} {gd : Option (Nat × Bool)} : evOp (tabT Try.prog) call ⟨d, .convert 25 3 (.tmp j), t, p, a, gd⟩ (opd tm) H = match tm.get j with | .int _ n => some (.int .i64 (wrapI .i64 n), H) | _ => evO (tabT Try.prog) call (.convert 25 3 (.tmp j)) (opd tm) H := by
  rw [evOp_evO]
  split
  · rename_i kk n h
    refine evO_v ?_
    rw [cvt (k := .i64) (by kernel_rfl) (by kernel_rfl)]
    simp only [opd_tmp, h]
  · rfl
theorem kp42 : (kpT 42, gcT 42) = (true, false) := by kernel_rfl
theorem kp31 : (kpT 31, gcT 31) = (true, false) := by kernel_rfl
theorem kp33 : (kpT 33, gcT 33) = (false, false) := by kernel_rfl
theorem kp17 : (kpT 17, gcT 17) = (false, false) := by kernel_rfl

theorem putF1 (u v : Value) : putF [u] 0 [v] = [v] := rfl
noncomputable def wB (x : Int) : ABlk := .cells false [.int .u64 x]
set_option maxRecDepth 10000 in
set_option maxHeartbeats 8000000 in
theorem next_ev (call : Value → List Value → AH → Option (Value × AH)) (p N : Nat) (bs : List (Nat × ABlk)) (x : Int) (h : lookB bs p = some (wB x)) :
    evFn (tabT Try.prog) call 300 kpT 42 Try.f42 [.pointer (some ⟨p, 0, none⟩)] ⟨N, bs⟩ = some (.int .u64 (wd (stepW x)), ⟨N, setB bs p (wB (stepW x))⟩) := by
  have kp := kp42
  simp only [Prod.mk.injEq] at kp
  obtain ⟨kp1, kp2⟩ := kp
  have sh := SH33 (stepW x)
  simp only [stepW] at sh
  unfold wB at h
  simp only [evFn, Try.f42]
  simp [ec_skip, ec_label, ek_reg, ek_draw, ek_seq, ec_cond, ek_block, ec_loop, ec_exit, ec_ret, ec_scope, ek_nil, ek_op, opK_some, regK_some, seqK_normal, seqK_exit, seqK_ret, blockK_normal, blockK_exit, blockK_ret, evOp, vOp, hOpB, hOpU, hOp, hOpT, aAppendG_tab, aWanted, aYielded, opd, putT, closedV, aBin, intOp, sameK, mapO, joinR, hasAddr, boundOf, pushB, aAlloc, Value.cells, lookB, setB, Nat.beq_eq, tm_n_set, tm_get_set, tm_of_n, tm_of_get, tm_tr_set, tm_tr_of, cellV, putF, appR_eq, takeR_eq, dropR_eq, setR_eq, getR_eq, ↓C75, ↓C76, ↓C77, ↓C79, ↓C17, ↓C18, ↓C22, ↓C71, FA24_0, FA24_1, FA24_2, FA24_3, FA24_4, FA24_5, FA24_6, FA24_7, FA24_8, LD3, LD4, LD22, LD27, LDr, LD24, LEN22, IA22, tkc, cellAt, LD40, ST40, h, lookB_setB, sh, wB, stepW, finF, takeM, resV, cleanedG, hasAddr, kp1, kp2]
set_option maxRecDepth 10000 in
set_option maxHeartbeats 8000000 in
theorem word_ev (call : Value → List Value → AH → Option (Value × AH)) (H : AH) (x : Int) :
    evFn (tabT Try.prog) call 300 kpT 33 Try.f33 [.int .u64 x] H = some (.tuple #[.int .i64 (wd (stepW x)), .int .u64 (stepW x)], ⟨H.next, below H.next H.bs⟩) := by
  have kp := kp33
  simp only [Prod.mk.injEq] at kp
  obtain ⟨kp1, kp2⟩ := kp
  have sh := SH33 (stepW x)
  have wi := wdI x
  simp only [stepW] at sh wi
  simp only [evFn, Try.f33]
  simp [ec_skip, ec_label, ek_reg, ek_draw, ek_seq, ec_cond, ek_block, ec_loop, ec_exit, ec_ret, ec_scope, ek_nil, ek_op, opK_some, regK_some, seqK_normal, seqK_exit, seqK_ret, blockK_normal, blockK_exit, blockK_ret, evOp, vOp, hOpB, hOpU, hOp, hOpT, aAppendG_tab, aWanted, aYielded, opd, putT, closedV, aBin, intOp, sameK, mapO, joinR, hasAddr, boundOf, pushB, aAlloc, Value.cells, lookB, setB, Nat.beq_eq, tm_n_set, tm_get_set, tm_of_n, tm_of_get, tm_tr_set, tm_tr_of, cellV, putF, appR_eq, takeR_eq, dropR_eq, setR_eq, getR_eq, ↓C75, ↓C76, ↓C77, ↓C79, ↓C17, ↓C18, ↓C22, ↓C71, FA24_0, FA24_1, FA24_2, FA24_3, FA24_4, FA24_5, FA24_6, FA24_7, FA24_8, LD3, LD4, LD22, LD27, LDr, LD24, LEN22, IA22, tkc, cellAt, ↓CV25_3, sh, wi, stepW, finF, takeM, resV, cleanedG, hasAddr, kp1, kp2]

/-! ### a number below n -/
noncomputable def IDr (p N : Nat) (bs : List (Nat × ABlk)) (x : Int) (n : Nat) (m : Nat) (A : AF) (H : AH) : Prop := ∃ k : Nat, k + m = 2 ∧ A.tm.n = 22 ∧ A.marks = [] ∧ A.tm.get 6 = .int .u64 (wd (it (k + 1) x)) ∧ A.tm.get 5 = .int .u64 (n : Int) ∧ A.tm.get 0 = .pointer (some ⟨p, 0, none⟩) ∧ H = ⟨N, setB bs p (wB (it (k + 1) x))⟩ ∧ ∀ j, 1 ≤ j → j ≤ k → ¬ wd (it j x) < lim n
noncomputable def QDr (p N : Nat) (bs : List (Nat × ABlk)) (x : Int) (n : Nat) (y : AX) (A' : AF) (H : AH) : Prop := y = .exit 0 ∧ A'.tm.n = 22 ∧ A'.marks = [] ∧ A'.tm.get 6 = .int .u64 (wd (nxs n x)) ∧ A'.tm.get 5 = .int .u64 (n : Int) ∧ H = ⟨N, setB bs p (wB (nxs n x))⟩
set_option maxRecDepth 10000 in
set_option maxHeartbeats 8000000 in
theorem draw_ev (call : Value → List Value → AH → Option (Value × AH)) (p N : Nat) (bs : List (Nat × ABlk)) (x : Int) (n : Nat) (h1 : 1 ≤ n) (h2 : n ≤ 144) (h : lookB bs p = some (wB x))
    (hnext : ∀ (bs : List (Nat × ABlk)) (y : Int), lookB bs p = some (wB y) → call (.func (.func 42) #[] #[]) [.pointer (some ⟨p, 0, none⟩)] ⟨N, bs⟩ = some (.int .u64 (wd (stepW y)), ⟨N, setB bs p (wB (stepW y))⟩)) :
    evFn (tabT Try.prog) call 300 kpT 31 Try.f31 [.pointer (some ⟨p, 0, none⟩), .int .i64 (n : Int)] ⟨N, bs⟩ = some (.int .i64 (drw n x : Int), ⟨N, setB bs p (wB (nxs n x))⟩) := by
  have kp := kp31
  simp only [Prod.mk.injEq] at kp
  obtain ⟨kp1, kp2⟩ := kp
  have wu := wrapU h2
  have lp := limP h1 h2
  have n0 : ¬ (n : Int) = 0 := by omega
  have nz : ¬ n = 0 := by omega
  have hn := hnext bs x h
  simp only [evFn, Try.f31]
  simp [ec_skip, ec_label, ek_reg, ek_draw, ek_seq, ec_cond, ek_block, ec_loop, ec_exit, ec_ret, ec_scope, ek_nil, ek_op, opK_some, regK_some, seqK_normal, seqK_exit, seqK_ret, blockK_normal, blockK_exit, blockK_ret, evOp, vOp, hOpB, hOpU, hOp, hOpT, aAppendG_tab, aWanted, aYielded, opd, putT, closedV, aBin, intOp, sameK, mapO, joinR, hasAddr, boundOf, pushB, aAlloc, Value.cells, lookB, setB, Nat.beq_eq, tm_n_set, tm_get_set, tm_of_n, tm_of_get, tm_tr_set, tm_tr_of, cellV, putF, appR_eq, takeR_eq, dropR_eq, setR_eq, getR_eq, ↓C75, ↓C76, ↓C77, ↓C79, ↓C17, ↓C18, ↓C22, ↓C71, FA24_0, FA24_1, FA24_2, FA24_3, FA24_4, FA24_5, FA24_6, FA24_7, FA24_8, LD3, LD4, LD22, LD27, LDr, LD24, LEN22, IA22, tkc, cellAt, ↓Cnext, ↓CV3_25, wu, hn]
  generalize hr : evLoop _ _ _ _ = r
  obtain ⟨y, A', H', rfl, rfl, hl, hmk, g6, g5, rfl⟩ := loop_go (Q := QDr p N bs x n) hr (IDr p N bs x n) 2 (by omega) ⟨0, by omega, rfl, rfl, rfl, rfl, rfl, rfl, fun j a b => by omega⟩ (by
    clear hr
    rintro m A H' ⟨k, hkm, hl, hmk, g6, g5, g0, rfl, hrej⟩
    simp only [runC]
    by_cases hacc : wd (it (k + 1) x) < lim n
    · have e := nxs_it (n := n) (x := x) (k := k) (by omega) hacc hrej
      have hge : ¬ lim n ≤ wd (it (k + 1) x) := by omega
      simp [ec_skip, ec_label, ek_reg, ek_draw, ek_seq, ec_cond, ek_block, ec_loop, ec_exit, ec_ret, ec_scope, ek_nil, ek_op, opK_some, regK_some, seqK_normal, seqK_exit, seqK_ret, blockK_normal, blockK_exit, blockK_ret, evOp, vOp, hOpB, hOpU, hOp, hOpT, aAppendG_tab, aWanted, aYielded, opd, putT, closedV, aBin, intOp, sameK, mapO, joinR, hasAddr, boundOf, pushB, aAlloc, Value.cells, lookB, setB, Nat.beq_eq, tm_n_set, tm_get_set, tm_of_n, tm_of_get, tm_tr_set, tm_tr_of, cellV, putF, appR_eq, takeR_eq, dropR_eq, setR_eq, getR_eq, ↓C75, ↓C76, ↓C77, ↓C79, ↓C17, ↓C18, ↓C22, ↓C71, FA24_0, FA24_1, FA24_2, FA24_3, FA24_4, FA24_5, FA24_6, FA24_7, FA24_8, LD3, LD4, LD22, LD27, LDr, LD24, LEN22, IA22, tkc, cellAt, hl, hmk, g6, g5, g0, lp, n0, nz, hge]
      refine .inr ⟨by simp, rfl, by simp [tm_n_set, hl], rfl, by simp [tm_get_set, tm_n_set, hl, g6, e], by simp [tm_get_set, tm_n_set, hl, g5], by simp [e]⟩
    · cases m with
      | zero =>
        obtain rfl : k = 2 := by omega
        exact absurd (it3_lt h1 h2 x (hrej 1 (by omega) (by omega)) (hrej 2 (by omega) (by omega))) hacc
      | succ m =>
        have hge : lim n ≤ wd (it (k + 1) x) := by omega
        have hn2 := hnext (setB bs p (wB (it (k + 1) x))) (it (k + 1) x) (by simp [lookB_setB, h])
        rw [setB_setB] at hn2
        simp [ec_skip, ec_label, ek_reg, ek_draw, ek_seq, ec_cond, ek_block, ec_loop, ec_exit, ec_ret, ec_scope, ek_nil, ek_op, opK_some, regK_some, seqK_normal, seqK_exit, seqK_ret, blockK_normal, blockK_exit, blockK_ret, evOp, vOp, hOpB, hOpU, hOp, hOpT, aAppendG_tab, aWanted, aYielded, opd, putT, closedV, aBin, intOp, sameK, mapO, joinR, hasAddr, boundOf, pushB, aAlloc, Value.cells, lookB, setB, Nat.beq_eq, tm_n_set, tm_get_set, tm_of_n, tm_of_get, tm_tr_set, tm_tr_of, cellV, putF, appR_eq, takeR_eq, dropR_eq, setR_eq, getR_eq, ↓C75, ↓C76, ↓C77, ↓C79, ↓C17, ↓C18, ↓C22, ↓C71, FA24_0, FA24_1, FA24_2, FA24_3, FA24_4, FA24_5, FA24_6, FA24_7, FA24_8, LD3, LD4, LD22, LD27, LDr, LD24, LEN22, IA22, tkc, cellAt, ↓Cnext, hl, hmk, g6, g5, g0, lp, n0, nz, hge, hn2]
        refine .inl ⟨rfl, m, rfl, k + 1, by omega, ?_⟩
        simp [tm_get_set, tm_n_set, hl, g5, g0, hmk, it]
        intro j a b
        by_cases hj : j = k + 1
        · subst hj; simpa using hacc
        · simpa using hrej j a (by omega))
  have dq := drw_eq h1 h2 x
  have wq : wrapI .i64 (drw n x : Int) = drw n x := by
    have := drw_lt h1 x
    exact wrapI_small (by omega) (by omega)
  simp [ec_skip, ec_label, ek_reg, ek_draw, ek_seq, ec_cond, ek_block, ec_loop, ec_exit, ec_ret, ec_scope, ek_nil, ek_op, opK_some, regK_some, seqK_normal, seqK_exit, seqK_ret, blockK_normal, blockK_exit, blockK_ret, evOp, vOp, hOpB, hOpU, hOp, hOpT, aAppendG_tab, aWanted, aYielded, opd, putT, closedV, aBin, intOp, sameK, mapO, joinR, hasAddr, boundOf, pushB, aAlloc, Value.cells, lookB, setB, Nat.beq_eq, tm_n_set, tm_get_set, tm_of_n, tm_of_get, tm_tr_set, tm_tr_of, cellV, putF, appR_eq, takeR_eq, dropR_eq, setR_eq, getR_eq, ↓C75, ↓C76, ↓C77, ↓C79, ↓C17, ↓C18, ↓C22, ↓C71, FA24_0, FA24_1, FA24_2, FA24_3, FA24_4, FA24_5, FA24_6, FA24_7, FA24_8, LD3, LD4, LD22, LD27, LDr, LD24, LEN22, IA22, tkc, cellAt, ↓CV25_3, hl, hmk, g6, g5, n0, nz, dq, wq, finF, takeM, resV, cleanedG, hasAddr, kp1, kp2]

end Go.Proofs.Ytbgknpcbldnabaa
