/-
  What is proved: the bag that the program makes of tiles.
-/
import Derived.Test.YtbpknklnalnihaaTk
namespace Go.Proofs.Ytbpknklnalnihaa
open Go.RowKit
set_option linter.unusedSimpArgs false
set_option linter.unusedVariables false


noncomputable def hpB (s : SV) (t : Nat → Int) (k : Nat) (N : Nat) (bs : List (Nat × ABlk)) (i : Nat) : AH := ⟨N + 2, (N + 1, .cells false (bagC s t k i)) :: (N, .cells false s.cs) :: bs⟩
noncomputable def bagV (N k : Nat) : Value := .slice (some ⟨N + 1, 0, none⟩) k 1
noncomputable def I5 (s : SV) (t : Nat → Int) (n k N : Nat) (bs : List (Nat × ABlk)) (m : Nat) (A : AF) (H : AH) : Prop := ∃ (i : Nat), i + m = n ∧ A.tm.n = 42 ∧ A.marks = [] ∧ A.tm.get 22 = .int .i64 (i : Int) ∧ A.tm.get 21 = .int .i64 (n : Int) ∧ A.tm.get 20 = .slice (some ⟨2, 0, some 1⟩) n 0 ∧ A.tm.get 2 = .pointer (some ⟨N, 0, none⟩) ∧ A.tm.get 7 = .slice (some ⟨N + 1, 0, none⟩) k 1 ∧ H = hpB s t k N bs i
noncomputable def Q5 (s : SV) (t : Nat → Int) (n k N : Nat) (bs : List (Nat × ABlk)) (y : AX) (A' : AF) (H : AH) : Prop := y = .exit 0 ∧ A'.tm.n = 42 ∧ A'.marks = [] ∧ A'.tm.get 7 = .slice (some ⟨N + 1, 0, none⟩) k 1 ∧ H = hpB s t k N bs n
theorem kp5 : (kpT 5, gcT 5) = (false, false) := by kernel_rfl
theorem FD39_0 (a : Int) (b : Bool) : aField (tabT Try.prog) 39 (faceV a b) 0 = some (.int .i64 a) := FD84_0 a b

set_option maxRecDepth 10000 in
set_option maxHeartbeats 8000000 in
theorem bag_ev (call : Value → List Value → AH → Option (Value × AH)) (s : SV) (t : Nat → Int) (n k N : Nat) (bs : List (Nat × ABlk)) (hn : n ≤ 200) (he : s.err = 0) (ht : tErr s t n 0 = 0) (hk : s.plain = (k : Int)) (H0 : lookB bs 0 = some (.ints s.g)) (H1 : lookB bs 1 = some (.ints s.h)) (H2 : lookB bs 2 = some (.ints t)) (hN : 3 ≤ N)
    (hct : ∀ (H : AH), lookB H.bs 0 = some (.ints s.g) → lookB H.bs 1 = some (.ints s.h) → lookB H.bs 2 = some (.ints t) → call (.func (.func 12) #[] #[]) [s.val, sl2 n] H = some (.int .i64 (s.ct t n), H)) (h13 : ∀ (H : AH), lookB H.bs 0 = some (.ints s.g) → lookB H.bs 1 = some (.ints s.h) → call (.func (.func 13) #[] #[]) [s.val] H = some (.int .i64 s.plain, H)) (h14 : ∀ (x : Int) (H : AH), s.inB x = true → lookB H.bs 0 = some (.ints s.g) → lookB H.bs 1 = some (.ints s.h) → call (.func (.func 14) #[] #[]) [s.val, .int .i64 x] H = some (faceV (s.faceK x) (s.faceR x), H)) :
    evFn (tabT Try.prog) call 300 kpT 5 Try.f5 [s.val, sl2 n] ⟨N, bs⟩ = some (.tuple #[bagV N k, .int .i64 0], hpB s t k N bs n) := by
  have hc0 : s.ct t n = 0 := by simp [SV.ct, he, ht]
  rw [hc0] at hct
  have hp := (size_bounds he).2.1
  have hmk0 := fun H => MK22 H k (by omega)
  have n0 : ¬ 0 = N := by omega
  have n1 : ¬ 1 = N := by omega
  have n2 : ¬ 2 = N := by omega
  have m0 : ¬ N = 0 := by omega
  have m1 : ¬ N = 1 := by omega
  have m2 : ¬ N = 2 := by omega
  have kp := kp5
  simp only [Prod.mk.injEq] at kp
  obtain ⟨kp1, kp2⟩ := kp
  simp only [SV.val, sl2, hk] at hct h13 h14
  simp only [evFn, Try.f5, SV.val, sl2, bagV]
  simp [ec_skip, ec_label, ek_reg, ek_draw, ek_seq, ec_cond, ek_block, ec_loop, ec_exit, ec_ret, ec_scope, ek_nil, ek_op, opK_some, regK_some, seqK_normal, seqK_exit, seqK_ret, blockK_normal, blockK_exit, blockK_ret, evOp, vOp, hOpB, hOpU, hOp, hOpT, aWanted, aYielded, opd, putT, closedV, aBin, intOp, sameK, mapO, joinR, hasAddr, boundOf, pushB, aAlloc, Value.cells, lookB, setB, Nat.beq_eq, tm_n_set, tm_get_set, tm_of_n, tm_of_get, tm_tr_set, tm_tr_of, cellV, putF, appR_eq, takeR_eq, dropR_eq, setR_eq, getR_eq, ↓C75, ↓C76, ↓C77, ↓C79, ↓C17, ↓C18, ↓C22, ↓C71, FA24_0, FA24_1, FA24_2, FA24_3, FA24_4, FA24_5, FA24_6, FA24_7, FA24_8, LD3, LD4, LD22, LD27, LDr, LD24, LEN22, IA22, tkc, cellAt, SV.cs, hpB, ↓Cface, ↓Cct, ST3, MK22, MKT22, H0, H1, H2, n0, n1, n2, m0, m1, m2, hct, h13, hmk0]
  generalize hr : evLoop _ _ _ _ = r
  obtain ⟨y, A', H', rfl, rfl, hl, hmk, h7, rfl⟩ := loop_go (Q := Q5 s t n k N bs) hr (I5 s t n k N bs) n (by omega) ⟨0, by omega, rfl, rfl, rfl, rfl, rfl, rfl, rfl, rfl⟩ (by
    clear hr
    rintro m A H ⟨i, him, hl, hmk, h22, h21, h20, h2, h7, rfl⟩
    simp only [runC]
    cases m with
    | zero =>
      have hi : ¬ i < n := by omega
      obtain rfl : i = n := by omega
      simp [ec_skip, ec_label, ek_reg, ek_draw, ek_seq, ec_cond, ek_block, ec_loop, ec_exit, ec_ret, ec_scope, ek_nil, ek_op, opK_some, regK_some, seqK_normal, seqK_exit, seqK_ret, blockK_normal, blockK_exit, blockK_ret, evOp, vOp, hOpB, hOpU, hOp, hOpT, aWanted, aYielded, opd, putT, closedV, aBin, intOp, sameK, mapO, joinR, hasAddr, boundOf, pushB, aAlloc, Value.cells, lookB, setB, Nat.beq_eq, tm_n_set, tm_get_set, tm_of_n, tm_of_get, tm_tr_set, tm_tr_of, cellV, putF, appR_eq, takeR_eq, dropR_eq, setR_eq, getR_eq, ↓C75, ↓C76, ↓C77, ↓C79, ↓C17, ↓C18, ↓C22, ↓C71, FA24_0, FA24_1, FA24_2, FA24_3, FA24_4, FA24_5, FA24_6, FA24_7, FA24_8, LD3, LD4, LD22, LD27, LDr, LD24, LEN22, IA22, tkc, cellAt, SV.cs, hpB, ↓Cface, ↓Cct, ST3, MK22, MKT22, H0, H1, H2, n0, n1, n2, m0, m1, m2, hl, hmk, h22, h21, h20, h2, h7]
      exact .inr ⟨by simp, rfl, by simp [tm_n_set, hl], rfl, by simp [tm_get_set, tm_n_set, hl, h7], rfl⟩
    | succ m =>
      have hi : i < n := by omega
      have hw : wrapI .i64 ((i : Int) + 1) = ((i + 1 : Nat) : Int) := by rw [wrapI_small (by omega) (by omega)]; rfl
      have hb := tErr_in ht i (by omega) (by omega)
      obtain ⟨e1, e2⟩ := kindOf_in hb
      have h14' := fun (H : AH) => h14 (t i) H hb
      obtain ⟨q, hq⟩ : ∃ q : Nat, s.faceK (t i) = (q : Int) := ⟨(s.faceK (t i)).toNat, by omega⟩
      rw [hq] at e1 h14'
      have hcb := cntK_bnd s t i q
      by_cases c : q < k
      · have hix := IX22p (N + 1) k q c
        have hat := bagC_at s t k i q c
        have hset := bagC_set s t k i q c e1
        have hlen := bagC_len s t k i
        have hw2 : wrapI .i64 (cntK s t i q + 1) = cntK s t i q + 1 := wrapI_small (by omega) (by omega)
        have hbl : Nat.ble (q + 1) k = true := by rw [Nat.ble_eq]; omega
        simp [ec_skip, ec_label, ek_reg, ek_draw, ek_seq, ec_cond, ek_block, ec_loop, ec_exit, ec_ret, ec_scope, ek_nil, ek_op, opK_some, regK_some, seqK_normal, seqK_exit, seqK_ret, blockK_normal, blockK_exit, blockK_ret, evOp, vOp, hOpB, hOpU, hOp, hOpT, aWanted, aYielded, opd, putT, closedV, aBin, intOp, sameK, mapO, joinR, hasAddr, boundOf, pushB, aAlloc, Value.cells, lookB, setB, Nat.beq_eq, tm_n_set, tm_get_set, tm_of_n, tm_of_get, tm_tr_set, tm_tr_of, cellV, putF, appR_eq, takeR_eq, dropR_eq, setR_eq, getR_eq, ↓C75, ↓C76, ↓C77, ↓C79, ↓C17, ↓C18, ↓C22, ↓C71, FA24_0, FA24_1, FA24_2, FA24_3, FA24_4, FA24_5, FA24_6, FA24_7, FA24_8, LD3, LD4, LD22, LD27, LDr, LD24, LEN22, IA22, tkc, cellAt, SV.cs, hpB, ↓Cface, ↓Cct, ST3, MK22, MKT22, H0, H1, H2, n0, n1, n2, m0, m1, m2, hl, hmk, h22, h21, h20, h2, h7, hi, h14', FD39_0, c, hix, bagC_get, hw2, hlen, hbl, hset]
        refine .inl ⟨rfl, m, rfl, i + 1, by omega, ?_⟩
        simp [hpB, SV.cs, tm_get_set, tm_n_set, hl, h22, h21, h20, h2, h7, hw]
      · have hsame := bagC_same s t k i (by omega)
        simp [ec_skip, ec_label, ek_reg, ek_draw, ek_seq, ec_cond, ek_block, ec_loop, ec_exit, ec_ret, ec_scope, ek_nil, ek_op, opK_some, regK_some, seqK_normal, seqK_exit, seqK_ret, blockK_normal, blockK_exit, blockK_ret, evOp, vOp, hOpB, hOpU, hOp, hOpT, aWanted, aYielded, opd, putT, closedV, aBin, intOp, sameK, mapO, joinR, hasAddr, boundOf, pushB, aAlloc, Value.cells, lookB, setB, Nat.beq_eq, tm_n_set, tm_get_set, tm_of_n, tm_of_get, tm_tr_set, tm_tr_of, cellV, putF, appR_eq, takeR_eq, dropR_eq, setR_eq, getR_eq, ↓C75, ↓C76, ↓C77, ↓C79, ↓C17, ↓C18, ↓C22, ↓C71, FA24_0, FA24_1, FA24_2, FA24_3, FA24_4, FA24_5, FA24_6, FA24_7, FA24_8, LD3, LD4, LD22, LD27, LDr, LD24, LEN22, IA22, tkc, cellAt, SV.cs, hpB, ↓Cface, ↓Cct, ST3, MK22, MKT22, H0, H1, H2, n0, n1, n2, m0, m1, m2, hl, hmk, h22, h21, h20, h2, h7, hi, h14', FD39_0, c]
        refine .inl ⟨rfl, m, rfl, i + 1, by omega, ?_⟩
        simp [hpB, SV.cs, tm_get_set, tm_n_set, hl, h22, h21, h20, h2, h7, hw, hsame])
  simp [ec_skip, ec_label, ek_reg, ek_draw, ek_seq, ec_cond, ek_block, ec_loop, ec_exit, ec_ret, ec_scope, ek_nil, ek_op, opK_some, regK_some, seqK_normal, seqK_exit, seqK_ret, blockK_normal, blockK_exit, blockK_ret, evOp, vOp, hOpB, hOpU, hOp, hOpT, aWanted, aYielded, opd, putT, closedV, aBin, intOp, sameK, mapO, joinR, hasAddr, boundOf, pushB, aAlloc, Value.cells, lookB, setB, Nat.beq_eq, tm_n_set, tm_get_set, tm_of_n, tm_of_get, tm_tr_set, tm_tr_of, cellV, putF, appR_eq, takeR_eq, dropR_eq, setR_eq, getR_eq, ↓C75, ↓C76, ↓C77, ↓C79, ↓C17, ↓C18, ↓C22, ↓C71, FA24_0, FA24_1, FA24_2, FA24_3, FA24_4, FA24_5, FA24_6, FA24_7, FA24_8, LD3, LD4, LD22, LD27, LDr, LD24, LEN22, IA22, tkc, cellAt, hl, hmk, h7, finF, takeM, resV, cleanedG, hasAddr, kp1, kp2, hpB, SV.cs]

end Go.Proofs.Ytbpknklnalnihaa
