/-
  What is proved: errors of bags and faces; Equal and sameFaces say that lists with the same cells are equal.
-/
import Derived.Test.YtbpknklnalnihaaTp
namespace Go.Proofs.Ytbpknklnalnihaa
open Go.RowKit
set_option linter.unusedSimpArgs false
set_option linter.unusedVariables false


/-- What an error leaves. -/
def ErrEnd (e : Int) (N : Nat) (bs : List (Nat × ABlk)) (r : Option (Value × AH)) : Prop := ∃ H', r = some (.tuple #[.slice none 0 0, .int .i64 e], H') ∧ N ≤ H'.next ∧ ∀ j, j < N → lookB H'.bs j = lookB bs j
theorem err_end {e : Int} {N : Nat} {bs : List (Nat × ABlk)} (k : ABlk) : ErrEnd e N bs (some (.tuple #[.slice none 0 0, .int .i64 e], ⟨N + 1, below N ((N, k) :: bs)⟩)) :=
  ⟨_, rfl, by show N ≤ N + 1; omega, fun j hj => by
    show lookB (below N ((N, k) :: bs)) j = _
    rw [look_below _ _ _ hj]
    have : ¬ j = N := by omega
    simp [lookB, Nat.beq_eq, this]⟩

set_option maxRecDepth 10000 in
set_option maxHeartbeats 8000000 in
theorem bag_err (call : Value → List Value → AH → Option (Value × AH)) (s : SV) (t : Nat → Int) (n N : Nat) (bs : List (Nat × ABlk)) (hz : s.ct t n ≠ 0) (H0 : lookB bs 0 = some (.ints s.g)) (H1 : lookB bs 1 = some (.ints s.h)) (H2 : lookB bs 2 = some (.ints t)) (hN : 3 ≤ N) (hct : ∀ (H : AH), lookB H.bs 0 = some (.ints s.g) → lookB H.bs 1 = some (.ints s.h) → lookB H.bs 2 = some (.ints t) → call (.func (.func 12) #[] #[]) [s.val, sl2 n] H = some (.int .i64 (s.ct t n), H)) : ErrEnd (s.ct t n) N bs (evFn (tabT Try.prog) call 300 kpT 5 Try.f5 [s.val, sl2 n] ⟨N, bs⟩) := by
  have n0 : ¬ 0 = N := by omega
  have n1 : ¬ 1 = N := by omega
  have n2 : ¬ 2 = N := by omega
  have m0 : ¬ N = 0 := by omega
  have m1 : ¬ N = 1 := by omega
  have m2 : ¬ N = 2 := by omega
  have kp := kp5
  simp only [Prod.mk.injEq] at kp
  obtain ⟨kp1, kp2⟩ := kp
  have c : (s.ct t n != 0) = true := by simpa using hz
  simp only [SV.val, sl2] at hct
  simp only [evFn, Try.f5, SV.val, sl2]
  simp [ec_skip, ec_label, ek_reg, ek_draw, ek_seq, ec_cond, ek_block, ec_loop, ec_exit, ec_ret, ec_scope, ek_nil, ek_op, opK_some, regK_some, seqK_normal, seqK_exit, seqK_ret, blockK_normal, blockK_exit, blockK_ret, evOp, vOp, hOpB, hOpU, hOp, hOpT, aWanted, aYielded, opd, putT, closedV, aBin, intOp, sameK, mapO, joinR, hasAddr, boundOf, pushB, aAlloc, Value.cells, lookB, setB, Nat.beq_eq, tm_n_set, tm_get_set, tm_of_n, tm_of_get, tm_tr_set, tm_tr_of, cellV, putF, appR_eq, takeR_eq, dropR_eq, setR_eq, getR_eq, ↓C75, ↓C76, ↓C77, ↓C79, ↓C17, ↓C18, ↓C22, ↓C71, FA24_0, FA24_1, FA24_2, FA24_3, FA24_4, FA24_5, FA24_6, FA24_7, FA24_8, LD3, LD4, LD22, LD27, LDr, LD24, LEN22, IA22, tkc, cellAt, SV.cs, ↓Crct, ↓Cct, H0, H1, H2, n0, n1, n2, m0, m1, m2, hct, c, hz, finF, takeM, resV, cleanedG, hasAddr, kp1, kp2]
  exact err_end _

set_option maxRecDepth 10000 in
set_option maxHeartbeats 8000000 in
theorem faces_err (call : Value → List Value → AH → Option (Value × AH)) (s : SV) (t : Nat → Int) (n N : Nat) (bs : List (Nat × ABlk)) (hz : s.ct t n ≠ 0) (H0 : lookB bs 0 = some (.ints s.g)) (H1 : lookB bs 1 = some (.ints s.h)) (H2 : lookB bs 2 = some (.ints t)) (hN : 3 ≤ N) (hct : ∀ (H : AH), lookB H.bs 0 = some (.ints s.g) → lookB H.bs 1 = some (.ints s.h) → lookB H.bs 2 = some (.ints t) → call (.func (.func 12) #[] #[]) [s.val, sl2 n] H = some (.int .i64 (s.ct t n), H)) : ErrEnd (s.ct t n) N bs (evFn (tabT Try.prog) call 300 kpT 7 Try.f7 [s.val, sl2 n] ⟨N, bs⟩) := by
  have n0 : ¬ 0 = N := by omega
  have n1 : ¬ 1 = N := by omega
  have n2 : ¬ 2 = N := by omega
  have m0 : ¬ N = 0 := by omega
  have m1 : ¬ N = 1 := by omega
  have m2 : ¬ N = 2 := by omega
  have kp := kp7
  simp only [Prod.mk.injEq] at kp
  obtain ⟨kp1, kp2⟩ := kp
  have c : (s.ct t n != 0) = true := by simpa using hz
  simp only [SV.val, sl2] at hct
  simp only [evFn, Try.f7, SV.val, sl2]
  simp [ec_skip, ec_label, ek_reg, ek_draw, ek_seq, ec_cond, ek_block, ec_loop, ec_exit, ec_ret, ec_scope, ek_nil, ek_op, opK_some, regK_some, seqK_normal, seqK_exit, seqK_ret, blockK_normal, blockK_exit, blockK_ret, evOp, vOp, hOpB, hOpU, hOp, hOpT, aWanted, aYielded, opd, putT, closedV, aBin, intOp, sameK, mapO, joinR, hasAddr, boundOf, pushB, aAlloc, Value.cells, lookB, setB, Nat.beq_eq, tm_n_set, tm_get_set, tm_of_n, tm_of_get, tm_tr_set, tm_tr_of, cellV, putF, appR_eq, takeR_eq, dropR_eq, setR_eq, getR_eq, ↓C75, ↓C76, ↓C77, ↓C79, ↓C17, ↓C18, ↓C22, ↓C71, FA24_0, FA24_1, FA24_2, FA24_3, FA24_4, FA24_5, FA24_6, FA24_7, FA24_8, LD3, LD4, LD22, LD27, LDr, LD24, LEN22, IA22, tkc, cellAt, SV.cs, ↓Crct, ↓Cct, H0, H1, H2, n0, n1, n2, m0, m1, m2, hct, c, hz, finF, takeM, resV, cleanedG, hasAddr, kp1, kp2]
  exact err_end _

set_option maxRecDepth 10000 in
set_option maxHeartbeats 8000000 in
theorem rbag_err (call : Value → List Value → AH → Option (Value × AH)) (s : SV) (t : Nat → Int) (n N : Nat) (bs : List (Nat × ABlk)) (hz : s.ct t n ≠ 0) (H0 : lookB bs 0 = some (.ints s.g)) (H1 : lookB bs 1 = some (.ints s.h)) (H2 : lookB bs 2 = some (.ints t)) (hN : 3 ≤ N) (hct : ∀ (H : AH), lookB H.bs 0 = some (.ints s.g) → lookB H.bs 1 = some (.ints s.h) → lookB H.bs 2 = some (.ints t) → call (.func (.func 16) #[] #[]) [s.val, sl2 n] H = some (.int .i64 (tErr s t n 0), H)) (h15 : ∀ (H : AH), lookB H.bs 0 = some (.ints s.g) → lookB H.bs 1 = some (.ints s.h) → call (.func (.func 15) #[] #[]) [s.val] H = some (.int .i64 s.err, H)) : ErrEnd (s.ct t n) N bs (evFn (tabT Try.prog) call 300 kpT 6 Try.f6 [s.val, sl2 n] ⟨N, bs⟩) := by
  have n0 : ¬ 0 = N := by omega
  have n1 : ¬ 1 = N := by omega
  have n2 : ¬ 2 = N := by omega
  have m0 : ¬ N = 0 := by omega
  have m1 : ¬ N = 1 := by omega
  have m2 : ¬ N = 2 := by omega
  have kp := kp6
  simp only [Prod.mk.injEq] at kp
  obtain ⟨kp1, kp2⟩ := kp
  simp only [SV.val, sl2] at hct h15
  simp only [evFn, Try.f6, SV.val, sl2]
  by_cases c1 : s.err = 0
  · have e : s.ct t n = tErr s t n 0 := by simp [SV.ct, c1]
    rw [e] at hz
    rw [e]
    rw [c1] at h15
    have c : (tErr s t n 0 != 0) = true := by simpa using hz
    simp [ec_skip, ec_label, ek_reg, ek_draw, ek_seq, ec_cond, ek_block, ec_loop, ec_exit, ec_ret, ec_scope, ek_nil, ek_op, opK_some, regK_some, seqK_normal, seqK_exit, seqK_ret, blockK_normal, blockK_exit, blockK_ret, evOp, vOp, hOpB, hOpU, hOp, hOpT, aWanted, aYielded, opd, putT, closedV, aBin, intOp, sameK, mapO, joinR, hasAddr, boundOf, pushB, aAlloc, Value.cells, lookB, setB, Nat.beq_eq, tm_n_set, tm_get_set, tm_of_n, tm_of_get, tm_tr_set, tm_tr_of, cellV, putF, appR_eq, takeR_eq, dropR_eq, setR_eq, getR_eq, ↓C75, ↓C76, ↓C77, ↓C79, ↓C17, ↓C18, ↓C22, ↓C71, FA24_0, FA24_1, FA24_2, FA24_3, FA24_4, FA24_5, FA24_6, FA24_7, FA24_8, LD3, LD4, LD22, LD27, LDr, LD24, LEN22, IA22, tkc, cellAt, SV.cs, ↓Crct, ↓Cct, H0, H1, H2, n0, n1, n2, m0, m1, m2, hct, h15, c, hz, finF, takeM, resV, cleanedG, hasAddr, kp1, kp2]
    exact err_end _
  · have e : s.ct t n = s.err := by simp [SV.ct, c1]
    rw [e]
    have c : (s.err != 0) = true := by simpa using c1
    have c' : (s.err == 0) = false := by simpa using c1
    simp [ec_skip, ec_label, ek_reg, ek_draw, ek_seq, ec_cond, ek_block, ec_loop, ec_exit, ec_ret, ec_scope, ek_nil, ek_op, opK_some, regK_some, seqK_normal, seqK_exit, seqK_ret, blockK_normal, blockK_exit, blockK_ret, evOp, vOp, hOpB, hOpU, hOp, hOpT, aWanted, aYielded, opd, putT, closedV, aBin, intOp, sameK, mapO, joinR, hasAddr, boundOf, pushB, aAlloc, Value.cells, lookB, setB, Nat.beq_eq, tm_n_set, tm_get_set, tm_of_n, tm_of_get, tm_tr_set, tm_tr_of, cellV, putF, appR_eq, takeR_eq, dropR_eq, setR_eq, getR_eq, ↓C75, ↓C76, ↓C77, ↓C79, ↓C17, ↓C18, ↓C22, ↓C71, FA24_0, FA24_1, FA24_2, FA24_3, FA24_4, FA24_5, FA24_6, FA24_7, FA24_8, LD3, LD4, LD22, LD27, LDr, LD24, LEN22, IA22, tkc, cellAt, SV.cs, ↓Crct, ↓Cct, H0, H1, H2, n0, n1, n2, m0, m1, m2, hct, h15, c, c', c1, finF, takeM, resV, cleanedG, hasAddr, kp1, kp2]
    exact err_end _

set_option maxRecDepth 10000 in
set_option maxHeartbeats 8000000 in
theorem rfaces_err (call : Value → List Value → AH → Option (Value × AH)) (s : SV) (t : Nat → Int) (n N : Nat) (bs : List (Nat × ABlk)) (hz : s.ct t n ≠ 0) (H0 : lookB bs 0 = some (.ints s.g)) (H1 : lookB bs 1 = some (.ints s.h)) (H2 : lookB bs 2 = some (.ints t)) (hN : 3 ≤ N) (hct : ∀ (H : AH), lookB H.bs 0 = some (.ints s.g) → lookB H.bs 1 = some (.ints s.h) → lookB H.bs 2 = some (.ints t) → call (.func (.func 16) #[] #[]) [s.val, sl2 n] H = some (.int .i64 (tErr s t n 0), H)) (h15 : ∀ (H : AH), lookB H.bs 0 = some (.ints s.g) → lookB H.bs 1 = some (.ints s.h) → call (.func (.func 15) #[] #[]) [s.val] H = some (.int .i64 s.err, H)) : ErrEnd (s.ct t n) N bs (evFn (tabT Try.prog) call 300 kpT 8 Try.f8 [s.val, sl2 n] ⟨N, bs⟩) := by
  have n0 : ¬ 0 = N := by omega
  have n1 : ¬ 1 = N := by omega
  have n2 : ¬ 2 = N := by omega
  have m0 : ¬ N = 0 := by omega
  have m1 : ¬ N = 1 := by omega
  have m2 : ¬ N = 2 := by omega
  have kp := kp8
  simp only [Prod.mk.injEq] at kp
  obtain ⟨kp1, kp2⟩ := kp
  simp only [SV.val, sl2] at hct h15
  simp only [evFn, Try.f8, SV.val, sl2]
  by_cases c1 : s.err = 0
  · have e : s.ct t n = tErr s t n 0 := by simp [SV.ct, c1]
    rw [e] at hz
    rw [e]
    rw [c1] at h15
    have c : (tErr s t n 0 != 0) = true := by simpa using hz
    simp [ec_skip, ec_label, ek_reg, ek_draw, ek_seq, ec_cond, ek_block, ec_loop, ec_exit, ec_ret, ec_scope, ek_nil, ek_op, opK_some, regK_some, seqK_normal, seqK_exit, seqK_ret, blockK_normal, blockK_exit, blockK_ret, evOp, vOp, hOpB, hOpU, hOp, hOpT, aWanted, aYielded, opd, putT, closedV, aBin, intOp, sameK, mapO, joinR, hasAddr, boundOf, pushB, aAlloc, Value.cells, lookB, setB, Nat.beq_eq, tm_n_set, tm_get_set, tm_of_n, tm_of_get, tm_tr_set, tm_tr_of, cellV, putF, appR_eq, takeR_eq, dropR_eq, setR_eq, getR_eq, ↓C75, ↓C76, ↓C77, ↓C79, ↓C17, ↓C18, ↓C22, ↓C71, FA24_0, FA24_1, FA24_2, FA24_3, FA24_4, FA24_5, FA24_6, FA24_7, FA24_8, LD3, LD4, LD22, LD27, LDr, LD24, LEN22, IA22, tkc, cellAt, SV.cs, ↓Crct, ↓Cct, H0, H1, H2, n0, n1, n2, m0, m1, m2, hct, h15, c, hz, finF, takeM, resV, cleanedG, hasAddr, kp1, kp2]
    exact err_end _
  · have e : s.ct t n = s.err := by simp [SV.ct, c1]
    rw [e]
    have c : (s.err != 0) = true := by simpa using c1
    have c' : (s.err == 0) = false := by simpa using c1
    simp [ec_skip, ec_label, ek_reg, ek_draw, ek_seq, ec_cond, ek_block, ec_loop, ec_exit, ec_ret, ec_scope, ek_nil, ek_op, opK_some, regK_some, seqK_normal, seqK_exit, seqK_ret, blockK_normal, blockK_exit, blockK_ret, evOp, vOp, hOpB, hOpU, hOp, hOpT, aWanted, aYielded, opd, putT, closedV, aBin, intOp, sameK, mapO, joinR, hasAddr, boundOf, pushB, aAlloc, Value.cells, lookB, setB, Nat.beq_eq, tm_n_set, tm_get_set, tm_of_n, tm_of_get, tm_tr_set, tm_tr_of, cellV, putF, appR_eq, takeR_eq, dropR_eq, setR_eq, getR_eq, ↓C75, ↓C76, ↓C77, ↓C79, ↓C17, ↓C18, ↓C22, ↓C71, FA24_0, FA24_1, FA24_2, FA24_3, FA24_4, FA24_5, FA24_6, FA24_7, FA24_8, LD3, LD4, LD22, LD27, LDr, LD24, LEN22, IA22, tkc, cellAt, SV.cs, ↓Crct, ↓Cct, H0, H1, H2, n0, n1, n2, m0, m1, m2, hct, h15, c, c', c1, finF, takeM, resV, cleanedG, hasAddr, kp1, kp2]
    exact err_end _

noncomputable def SV.long (s : SV) : Bool := decide (20 < s.n) || decide (60 < s.k)
theorem kp9 : kpT 9 = false := by kernel_rfl
theorem kp10 : kpT 10 = false := by kernel_rfl
noncomputable def I9 (u v : Value) (k : Nat) (H0 : AH) (m : Nat) (A : AF) (H : AH) : Prop := ∃ (i : Nat), i + m = k ∧ A.tm.n = 26 ∧ A.marks = [] ∧ A.tm.get 5 = .int .i64 (i : Int) ∧ A.tm.get 0 = u ∧ A.tm.get 1 = v ∧ H = H0
noncomputable def Q9 (H0 : AH) (y : AX) (A' : AF) (H : AH) : Prop := y = .exit 0 ∧ A'.tm.n = 26 ∧ A'.marks = [] ∧ H = H0
set_option maxRecDepth 10000 in
set_option maxHeartbeats 8000000 in
theorem equal_ev (call : Value → List Value → AH → Option (Value × AH)) {a b k : Nat} {g : Nat → Int} {H : AH} (hk : k ≤ 200) (hM : MI H) (ha : lookB H.bs a = some (.cells false (intsL g k))) (hb : lookB H.bs b = some (.cells false (intsL g k))) :
    ∃ H', evFn (tabT Try.prog) call 300 kpT 9 Try.f9 [.slice (some ⟨a, 0, none⟩) k 1, .slice (some ⟨b, 0, none⟩) k 1] H = some (.bool true, H') ∧ H.next ≤ H'.next ∧ (∀ j, j < H.next → lookB H'.bs j = lookB H.bs j) ∧ MI H' := by
  have kp := kp9
  have ra := lookB_roB_cells _ _ _ _ ha hM.1
  have rb := lookB_roB_cells _ _ _ _ hb hM.1
  have nw := newOnes_ro H.bs H.next hM.2
  simp only [evFn, Try.f9]
  simp [ec_skip, ec_label, ek_reg, ek_draw, ek_seq, ec_cond, ek_block, ec_loop, ec_exit, ec_ret, ec_scope, ek_nil, ek_op, opK_some, regK_some, seqK_normal, seqK_exit, seqK_ret, blockK_normal, blockK_exit, blockK_ret, evOp, vOp, hOpB, hOpU, hOp, hOpT, aWanted, aYielded, opd, putT, closedV, aBin, intOp, sameK, mapO, joinR, hasAddr, boundOf, pushB, aAlloc, Value.cells, lookB, setB, Nat.beq_eq, tm_n_set, tm_get_set, tm_of_n, tm_of_get, tm_tr_set, tm_tr_of, cellV, putF, appR_eq, takeR_eq, dropR_eq, setR_eq, getR_eq, ↓C75, ↓C76, ↓C77, ↓C79, ↓C17, ↓C18, ↓C22, ↓C71, FA24_0, FA24_1, FA24_2, FA24_3, FA24_4, FA24_5, FA24_6, FA24_7, FA24_8, LD3, LD4, LD22, LD27, LDr, LD24, LEN22, IA22, tkc, cellAt]
  generalize hr : evLoop _ _ _ _ = r
  obtain ⟨y, A', H', rfl, rfl, hl, hmk, rfl⟩ := loop_go (Q := Q9 H) hr (I9 (.slice (some ⟨a, 0, none⟩) k 1) (.slice (some ⟨b, 0, none⟩) k 1) k H) k (by omega) ⟨0, by omega, rfl, rfl, rfl, rfl, rfl, rfl⟩ (by
    clear hr
    rintro m A H' ⟨i, him, hl, hmk, h5, h0, h1, rfl⟩
    simp only [runC]
    cases m with
    | zero =>
      have hi : ¬ i < k := by omega
      simp [ec_skip, ec_label, ek_reg, ek_draw, ek_seq, ec_cond, ek_block, ec_loop, ec_exit, ec_ret, ec_scope, ek_nil, ek_op, opK_some, regK_some, seqK_normal, seqK_exit, seqK_ret, blockK_normal, blockK_exit, blockK_ret, evOp, vOp, hOpB, hOpU, hOp, hOpT, aWanted, aYielded, opd, putT, closedV, aBin, intOp, sameK, mapO, joinR, hasAddr, boundOf, pushB, aAlloc, Value.cells, lookB, setB, Nat.beq_eq, tm_n_set, tm_get_set, tm_of_n, tm_of_get, tm_tr_set, tm_tr_of, cellV, putF, appR_eq, takeR_eq, dropR_eq, setR_eq, getR_eq, ↓C75, ↓C76, ↓C77, ↓C79, ↓C17, ↓C18, ↓C22, ↓C71, FA24_0, FA24_1, FA24_2, FA24_3, FA24_4, FA24_5, FA24_6, FA24_7, FA24_8, LD3, LD4, LD22, LD27, LDr, LD24, LEN22, IA22, tkc, cellAt, hl, hmk, h5, h0, h1, hi]
      exact .inr ⟨by simp, rfl, by simp [tm_n_set, hl], rfl, rfl⟩
    | succ m =>
      have hi : i < k := by omega
      have hw : wrapI .i64 ((i : Int) + 1) = ((i + 1 : Nat) : Int) := by rw [wrapI_small (by omega) (by omega)]; rfl
      have pa := IX22p a k i hi
      have pb := IX22p b k i hi
      have pc := intsL_at g k i hi
      simp [ec_skip, ec_label, ek_reg, ek_draw, ek_seq, ec_cond, ek_block, ec_loop, ec_exit, ec_ret, ec_scope, ek_nil, ek_op, opK_some, regK_some, seqK_normal, seqK_exit, seqK_ret, blockK_normal, blockK_exit, blockK_ret, evOp, vOp, hOpB, hOpU, hOp, hOpT, aWanted, aYielded, opd, putT, closedV, aBin, intOp, sameK, mapO, joinR, hasAddr, boundOf, pushB, aAlloc, Value.cells, lookB, setB, Nat.beq_eq, tm_n_set, tm_get_set, tm_of_n, tm_of_get, tm_tr_set, tm_tr_of, cellV, putF, appR_eq, takeR_eq, dropR_eq, setR_eq, getR_eq, ↓C75, ↓C76, ↓C77, ↓C79, ↓C17, ↓C18, ↓C22, ↓C71, FA24_0, FA24_1, FA24_2, FA24_3, FA24_4, FA24_5, FA24_6, FA24_7, FA24_8, LD3, LD4, LD22, LD27, LDr, LD24, LEN22, IA22, tkc, cellAt, hl, hmk, h5, h0, h1, hi]
      generalize hX : evDrawX _ _ _ _ _ = X
      obtain ⟨tm, rfl, hn', t25, t5, t0, t1⟩ := draw_ro (Pt := fun tm => tm.get 25 = .bool false ∧ tm.get 5 = .int .i64 (i : Int) ∧ tm.get 0 = .slice (some ⟨a, 0, none⟩) k 1 ∧ tm.get 1 = .slice (some ⟨b, 0, none⟩) k 1) hX (by kernel_rfl) hM.1 (by
        clear hX
        generalize befs _ = M
        generalize intsL g k = L at *
        simp [mapO, drRun, drOp, dr3, looks, guardT, tmpsOf, Op.operands, Call.operands, wantedR, gOf, finT, natMem, isNil, writesF, evOp, vOp, hOpB, hOpU, hOp, hOpT, opd, closedV, aBin, intOp, sameK, opdO, boundOf, undef, lookB, Nat.beq_eq, tm_n_set, tm_get_set, tm_of_n, tm_of_get, tm_tr_set, tm_tr_of, b02, b12, b32, ↓G75, W75, ↓G76, W76, ↓G77, W77, ↓G79, W79, ↓G17, W17, ↓G18, W18, ↓G22, W22, ↓G71, W71, tv, all1, roB, roK, news, newOnes, decr, tkc, cellAt, LD3, LD4, LD22, LD27, LDr, LD24, LEN22, IA22, hl, h5, h0, h1, pa, pb, pc, ra, rb, nw, Nat.ble_eq]
        refine ⟨by simp [dynOK, b02, b12, b32], by simp [wheap, news, b02, b12, b32]⟩)
      clear hX
      simp [tm_n_set, hl] at hn'
      simp [ec_skip, ec_label, ek_reg, ek_draw, ek_seq, ec_cond, ek_block, ec_loop, ec_exit, ec_ret, ec_scope, ek_nil, ek_op, opK_some, regK_some, seqK_normal, seqK_exit, seqK_ret, blockK_normal, blockK_exit, blockK_ret, evOp, vOp, hOpB, hOpU, hOp, hOpT, aWanted, aYielded, opd, putT, closedV, aBin, intOp, sameK, mapO, joinR, hasAddr, boundOf, pushB, aAlloc, Value.cells, lookB, setB, Nat.beq_eq, tm_n_set, tm_get_set, tm_of_n, tm_of_get, tm_tr_set, tm_tr_of, cellV, putF, appR_eq, takeR_eq, dropR_eq, setR_eq, getR_eq, ↓C75, ↓C76, ↓C77, ↓C79, ↓C17, ↓C18, ↓C22, ↓C71, FA24_0, FA24_1, FA24_2, FA24_3, FA24_4, FA24_5, FA24_6, FA24_7, FA24_8, LD3, LD4, LD22, LD27, LDr, LD24, LEN22, IA22, tkc, cellAt, hmk, hn', t25, t5, t0, t1]
      refine ⟨_, _, _, ⟨rfl, rfl, rfl⟩, .inl ⟨rfl, m, rfl, i + 1, by omega, ?_⟩⟩
      simp [tm_get_set, tm_n_set, hn', t5, t0, t1, hw])
  simp [ec_skip, ec_label, ek_reg, ek_draw, ek_seq, ec_cond, ek_block, ec_loop, ec_exit, ec_ret, ec_scope, ek_nil, ek_op, opK_some, regK_some, seqK_normal, seqK_exit, seqK_ret, blockK_normal, blockK_exit, blockK_ret, evOp, vOp, hOpB, hOpU, hOp, hOpT, aWanted, aYielded, opd, putT, closedV, aBin, intOp, sameK, mapO, joinR, hasAddr, boundOf, pushB, aAlloc, Value.cells, lookB, setB, Nat.beq_eq, tm_n_set, tm_get_set, tm_of_n, tm_of_get, tm_tr_set, tm_tr_of, cellV, putF, appR_eq, takeR_eq, dropR_eq, setR_eq, getR_eq, ↓C75, ↓C76, ↓C77, ↓C79, ↓C17, ↓C18, ↓C22, ↓C71, FA24_0, FA24_1, FA24_2, FA24_3, FA24_4, FA24_5, FA24_6, FA24_7, FA24_8, LD3, LD4, LD22, LD27, LDr, LD24, LEN22, IA22, tkc, cellAt, hl, hmk, finF, takeM, resV, cleanedG, hasAddr, kp]
  exact ⟨fun j hj => look_below _ _ _ hj, hM.sub (below_sub _ _) (Nat.le_refl _)⟩
set_option maxRecDepth 10000 in
set_option maxHeartbeats 8000000 in
theorem equal_nil (call : Value → List Value → AH → Option (Value × AH)) {H : AH} :
    ∃ H', evFn (tabT Try.prog) call 300 kpT 9 Try.f9 [.slice none 0 0, .slice none 0 0] H = some (.bool true, H') ∧ H.next ≤ H'.next ∧ ∀ j, j < H.next → lookB H'.bs j = lookB H.bs j := by
  have kp := kp9
  simp only [evFn, Try.f9]
  simp [ec_skip, ec_label, ek_reg, ek_draw, ek_seq, ec_cond, ek_block, ec_loop, ec_exit, ec_ret, ec_scope, ek_nil, ek_op, opK_some, regK_some, seqK_normal, seqK_exit, seqK_ret, blockK_normal, blockK_exit, blockK_ret, evOp, vOp, hOpB, hOpU, hOp, hOpT, aWanted, aYielded, opd, putT, closedV, aBin, intOp, sameK, mapO, joinR, hasAddr, boundOf, pushB, aAlloc, Value.cells, lookB, setB, Nat.beq_eq, tm_n_set, tm_get_set, tm_of_n, tm_of_get, tm_tr_set, tm_tr_of, cellV, putF, appR_eq, takeR_eq, dropR_eq, setR_eq, getR_eq, ↓C75, ↓C76, ↓C77, ↓C79, ↓C17, ↓C18, ↓C22, ↓C71, FA24_0, FA24_1, FA24_2, FA24_3, FA24_4, FA24_5, FA24_6, FA24_7, FA24_8, LD3, LD4, LD22, LD27, LDr, LD24, LEN22, IA22, tkc, cellAt]
  generalize hr : evLoop _ _ _ _ = r
  obtain ⟨y, A', H', rfl, rfl, hl, hmk, rfl⟩ := loop_go (Q := Q9 H) hr (I9 (.slice none 0 0) (.slice none 0 0) 0 H) 0 (by omega) ⟨0, by omega, rfl, rfl, rfl, rfl, rfl, rfl⟩ (by
    clear hr
    rintro m A H' ⟨i, him, hl, hmk, h5, h0, h1, rfl⟩
    obtain rfl : m = 0 := by omega
    obtain rfl : i = 0 := by omega
    simp only [runC]
    simp [ec_skip, ec_label, ek_reg, ek_draw, ek_seq, ec_cond, ek_block, ec_loop, ec_exit, ec_ret, ec_scope, ek_nil, ek_op, opK_some, regK_some, seqK_normal, seqK_exit, seqK_ret, blockK_normal, blockK_exit, blockK_ret, evOp, vOp, hOpB, hOpU, hOp, hOpT, aWanted, aYielded, opd, putT, closedV, aBin, intOp, sameK, mapO, joinR, hasAddr, boundOf, pushB, aAlloc, Value.cells, lookB, setB, Nat.beq_eq, tm_n_set, tm_get_set, tm_of_n, tm_of_get, tm_tr_set, tm_tr_of, cellV, putF, appR_eq, takeR_eq, dropR_eq, setR_eq, getR_eq, ↓C75, ↓C76, ↓C77, ↓C79, ↓C17, ↓C18, ↓C22, ↓C71, FA24_0, FA24_1, FA24_2, FA24_3, FA24_4, FA24_5, FA24_6, FA24_7, FA24_8, LD3, LD4, LD22, LD27, LDr, LD24, LEN22, IA22, tkc, cellAt, hl, hmk, h5, h0, h1]
    exact .inr ⟨by simp, rfl, by simp [tm_n_set, hl], rfl, rfl⟩)
  simp [ec_skip, ec_label, ek_reg, ek_draw, ek_seq, ec_cond, ek_block, ec_loop, ec_exit, ec_ret, ec_scope, ek_nil, ek_op, opK_some, regK_some, seqK_normal, seqK_exit, seqK_ret, blockK_normal, blockK_exit, blockK_ret, evOp, vOp, hOpB, hOpU, hOp, hOpT, aWanted, aYielded, opd, putT, closedV, aBin, intOp, sameK, mapO, joinR, hasAddr, boundOf, pushB, aAlloc, Value.cells, lookB, setB, Nat.beq_eq, tm_n_set, tm_get_set, tm_of_n, tm_of_get, tm_tr_set, tm_tr_of, cellV, putF, appR_eq, takeR_eq, dropR_eq, setR_eq, getR_eq, ↓C75, ↓C76, ↓C77, ↓C79, ↓C17, ↓C18, ↓C22, ↓C71, FA24_0, FA24_1, FA24_2, FA24_3, FA24_4, FA24_5, FA24_6, FA24_7, FA24_8, LD3, LD4, LD22, LD27, LDr, LD24, LEN22, IA22, tkc, cellAt, hl, hmk, finF, takeM, resV, cleanedG, hasAddr, kp]
  exact fun j hj => look_below _ _ _ hj

end Go.Proofs.Ytbpknklnalnihaa
