/-
  What is proved: sameFaces says that lists with the same cells are equal; long.
-/
import Derived.Test.YtbpknklnalnihaaTq
namespace Go.Proofs.Ytbpknklnalnihaa
open Go.RowKit
set_option linter.unusedSimpArgs false
set_option linter.unusedVariables false


theorem IX29 (i k q : Nat) (h : q < k) : aIndexAddr (tabT Try.prog) 29 (.slice (some ⟨i, 0, none⟩) k 2) (.int .i64 (q : Int)) = some (.pointer (some ⟨i, q * 2, none⟩)) := by
  rw [ixa (e := 39) (z := 2) (by kernel_rfl) (by kernel_rfl) i 0 k 2 q h]
  simp
theorem LEN29 (a : Option Addr) (n z : Nat) : aLen (tabT Try.prog) 29 (.slice a n z) = some (.int .i64 n) := lens (e := 39) (by kernel_rfl) a n z
theorem LD39 (H : AH) (i off : Nat) : aLoad (tabT Try.prog) H 39 (.pointer (some ⟨i, off, none⟩)) = match lookB H.bs i with | some (.cells _ cs) => (takeCells cs off 2).map (fun l => .agg l.toArray) | _ => none := lda (by kernel_rfl) H i off
theorem faceC_at (s : SV) (t : Nat → Int) : ∀ (k i : Nat), i < k → takeCells (faceC s t k) (i * 2) 2 = some [.int .i64 (s.kindOf (t i)), .bool (s.redOf (t i))]
  | 0, i, h => by omega
  | k + 1, i, h => by
    have hl := faceC_len s t k
    rw [tkc, faceC]
    rcases Nat.lt_or_ge i k with hi | hi
    · have ih := faceC_at s t k i hi
      rw [tkc] at ih
      rw [if_pos (by simp [hl]; omega)] at ih
      rw [if_pos (by simp [hl]; omega)]
      rw [List.drop_append_of_le_length (by omega), List.take_append_of_le_length (by simp [hl]; omega)]
      exact ih
    · obtain rfl : i = k := by omega
      rw [if_pos (by simp [hl])]
      rw [List.drop_append, List.drop_of_length_le (by omega)]
      simp [hl]
theorem neqF0 (a c : Int) (b d : Bool) : aBin (tabT Try.prog) .neq 39 (.agg #[.int .i64 a, .bool b]) (.agg #[.int .i64 c, .bool d]) = (match (match (some (a == c) : Option Bool) with | some true => (match (some (b == d) : Option Bool) with | some true => some true | some false => some false | none => none) | some false => some false | none => none) with | some r => some (Value.bool (!r)) | none => none) := by
  kernel_rfl
theorem neqF (a : Int) (b : Bool) : aBin (tabT Try.prog) .neq 39 (.agg #[.int .i64 a, .bool b]) (.agg #[.int .i64 a, .bool b]) = some (.bool false) := by
  rw [neqF0]; simp

noncomputable def I10 (u v : Value) (k : Nat) (H0 : AH) (m : Nat) (A : AF) (H : AH) : Prop := ∃ (i : Nat), i + m = k ∧ A.tm.n = 32 ∧ A.marks = [] ∧ A.tm.get 5 = .int .i64 (i : Int) ∧ A.tm.get 0 = u ∧ A.tm.get 1 = v ∧ H = H0
noncomputable def Q10 (u v : Value) (H0 : AH) (y : AX) (A' : AF) (H : AH) : Prop := y = .exit 0 ∧ A'.tm.n = 32 ∧ A'.marks = [] ∧ A'.tm.get 0 = u ∧ A'.tm.get 1 = v ∧ H = H0
set_option maxRecDepth 10000 in
set_option maxHeartbeats 8000000 in
theorem sameFaces_ev (call : Value → List Value → AH → Option (Value × AH)) {a b k : Nat} {s : SV} {t : Nat → Int} {H : AH} (hk : k ≤ 200) (hM : MI H) (ha : lookB H.bs a = some (.cells false (faceC s t k))) (hb : lookB H.bs b = some (.cells false (faceC s t k))) :
    ∃ H', evFn (tabT Try.prog) call 300 kpT 10 Try.f10 [.slice (some ⟨a, 0, none⟩) k 2, .slice (some ⟨b, 0, none⟩) k 2] H = some (.bool true, H') := by
  have kp := kp10
  have ra := lookB_roB_cells _ _ _ _ ha hM.1
  have rb := lookB_roB_cells _ _ _ _ hb hM.1
  have nw := newOnes_ro H.bs H.next hM.2
  simp only [evFn, Try.f10]
  simp [ec_skip, ec_label, ek_reg, ek_draw, ek_seq, ec_cond, ek_block, ec_loop, ec_exit, ec_ret, ec_scope, ek_nil, ek_op, opK_some, regK_some, seqK_normal, seqK_exit, seqK_ret, blockK_normal, blockK_exit, blockK_ret, evOp, vOp, hOpB, hOpU, hOp, hOpT, aWanted, aYielded, opd, putT, closedV, aBin, intOp, sameK, mapO, joinR, hasAddr, boundOf, pushB, aAlloc, Value.cells, lookB, setB, Nat.beq_eq, tm_n_set, tm_get_set, tm_of_n, tm_of_get, tm_tr_set, tm_tr_of, cellV, putF, appR_eq, takeR_eq, dropR_eq, setR_eq, getR_eq, ↓C75, ↓C76, ↓C77, ↓C79, ↓C17, ↓C18, ↓C22, ↓C71, FA24_0, FA24_1, FA24_2, FA24_3, FA24_4, FA24_5, FA24_6, FA24_7, FA24_8, LD3, LD4, LD22, LD27, LDr, LD24, LEN22, IA22, tkc, cellAt, LEN29]
  generalize hr : evLoop _ _ _ _ = r
  obtain ⟨y, A', H', rfl, rfl, hl, hmk, h0, h1, rfl⟩ := loop_go (Q := Q10 (.slice (some ⟨a, 0, none⟩) k 2) (.slice (some ⟨b, 0, none⟩) k 2) H) hr (I10 (.slice (some ⟨a, 0, none⟩) k 2) (.slice (some ⟨b, 0, none⟩) k 2) k H) k (by omega) ⟨0, by omega, rfl, rfl, rfl, rfl, rfl, rfl⟩ (by
    clear hr
    rintro m A H' ⟨i, him, hl, hmk, h5, h0, h1, rfl⟩
    simp only [runC]
    cases m with
    | zero =>
      have hi : ¬ i < k := by omega
      simp [ec_skip, ec_label, ek_reg, ek_draw, ek_seq, ec_cond, ek_block, ec_loop, ec_exit, ec_ret, ec_scope, ek_nil, ek_op, opK_some, regK_some, seqK_normal, seqK_exit, seqK_ret, blockK_normal, blockK_exit, blockK_ret, evOp, vOp, hOpB, hOpU, hOp, hOpT, aWanted, aYielded, opd, putT, closedV, aBin, intOp, sameK, mapO, joinR, hasAddr, boundOf, pushB, aAlloc, Value.cells, lookB, setB, Nat.beq_eq, tm_n_set, tm_get_set, tm_of_n, tm_of_get, tm_tr_set, tm_tr_of, cellV, putF, appR_eq, takeR_eq, dropR_eq, setR_eq, getR_eq, ↓C75, ↓C76, ↓C77, ↓C79, ↓C17, ↓C18, ↓C22, ↓C71, FA24_0, FA24_1, FA24_2, FA24_3, FA24_4, FA24_5, FA24_6, FA24_7, FA24_8, LD3, LD4, LD22, LD27, LDr, LD24, LEN22, IA22, tkc, cellAt, LEN29, hl, hmk, h5, h0, h1, hi]
      exact .inr ⟨by simp, rfl, by simp [tm_n_set, hl], rfl, by simp [tm_get_set, tm_n_set, hl, h0], by simp [tm_get_set, tm_n_set, hl, h1], rfl⟩
    | succ m =>
      have hi : i < k := by omega
      have hw : wrapI .i64 ((i : Int) + 1) = ((i + 1 : Nat) : Int) := by rw [wrapI_small (by omega) (by omega)]; rfl
      have pa := IX29 a k i hi
      have pb := IX29 b k i hi
      have pc := faceC_at s t k i hi
      simp [ec_skip, ec_label, ek_reg, ek_draw, ek_seq, ec_cond, ek_block, ec_loop, ec_exit, ec_ret, ec_scope, ek_nil, ek_op, opK_some, regK_some, seqK_normal, seqK_exit, seqK_ret, blockK_normal, blockK_exit, blockK_ret, evOp, vOp, hOpB, hOpU, hOp, hOpT, aWanted, aYielded, opd, putT, closedV, aBin, intOp, sameK, mapO, joinR, hasAddr, boundOf, pushB, aAlloc, Value.cells, lookB, setB, Nat.beq_eq, tm_n_set, tm_get_set, tm_of_n, tm_of_get, tm_tr_set, tm_tr_of, cellV, putF, appR_eq, takeR_eq, dropR_eq, setR_eq, getR_eq, ↓C75, ↓C76, ↓C77, ↓C79, ↓C17, ↓C18, ↓C22, ↓C71, FA24_0, FA24_1, FA24_2, FA24_3, FA24_4, FA24_5, FA24_6, FA24_7, FA24_8, LD3, LD4, LD22, LD27, LDr, LD24, LEN22, IA22, tkc, cellAt, LEN29, hl, hmk, h5, h0, h1, hi]
      generalize hX : evDrawX _ _ _ _ _ = X
      obtain ⟨tm, rfl, hn', t26, t5, t0, t1⟩ := draw_ro (Pt := fun tm => tm.get 26 = .bool false ∧ tm.get 5 = .int .i64 (i : Int) ∧ tm.get 0 = .slice (some ⟨a, 0, none⟩) k 2 ∧ tm.get 1 = .slice (some ⟨b, 0, none⟩) k 2) hX (by kernel_rfl) hM.1 (by
        clear hX
        generalize befs _ = M
        generalize faceC s t k = L at *
        simp [mapO, drRun, drOp, dr3, looks, guardT, tmpsOf, Op.operands, Call.operands, wantedR, gOf, finT, natMem, isNil, writesF, evOp, vOp, hOpB, hOpU, hOp, hOpT, opd, closedV, intOp, sameK, opdO, boundOf, undef, lookB, Nat.beq_eq, tm_n_set, tm_get_set, tm_of_n, tm_of_get, tm_tr_set, tm_tr_of, b02, b12, b32, ↓G75, W75, ↓G76, W76, ↓G77, W77, ↓G79, W79, ↓G17, W17, ↓G18, W18, ↓G22, W22, ↓G71, W71, tv, all1, roB, roK, news, newOnes, decr, cellAt, LD3, LD4, LD22, LD27, LDr, LD24, LEN22, IA22, LD39, neqF, hl, h5, h0, h1, pa, pb, pc, ra, rb, nw, Nat.ble_eq]
        refine ⟨by simp [dynOK, b02, b12, b32], by simp [wheap, news, b02, b12, b32]⟩)
      clear hX
      simp [tm_n_set, hl] at hn'
      simp [ec_skip, ec_label, ek_reg, ek_draw, ek_seq, ec_cond, ek_block, ec_loop, ec_exit, ec_ret, ec_scope, ek_nil, ek_op, opK_some, regK_some, seqK_normal, seqK_exit, seqK_ret, blockK_normal, blockK_exit, blockK_ret, evOp, vOp, hOpB, hOpU, hOp, hOpT, aWanted, aYielded, opd, putT, closedV, aBin, intOp, sameK, mapO, joinR, hasAddr, boundOf, pushB, aAlloc, Value.cells, lookB, setB, Nat.beq_eq, tm_n_set, tm_get_set, tm_of_n, tm_of_get, tm_tr_set, tm_tr_of, cellV, putF, appR_eq, takeR_eq, dropR_eq, setR_eq, getR_eq, ↓C75, ↓C76, ↓C77, ↓C79, ↓C17, ↓C18, ↓C22, ↓C71, FA24_0, FA24_1, FA24_2, FA24_3, FA24_4, FA24_5, FA24_6, FA24_7, FA24_8, LD3, LD4, LD22, LD27, LDr, LD24, LEN22, IA22, tkc, cellAt, hmk, hn', t26, t5, t0, t1]
      refine ⟨_, _, _, ⟨rfl, rfl, rfl⟩, .inl ⟨rfl, m, rfl, i + 1, by omega, ?_⟩⟩
      simp [tm_get_set, tm_n_set, hn', t5, t0, t1, hw])
  simp [ec_skip, ec_label, ek_reg, ek_draw, ek_seq, ec_cond, ek_block, ec_loop, ec_exit, ec_ret, ec_scope, ek_nil, ek_op, opK_some, regK_some, seqK_normal, seqK_exit, seqK_ret, blockK_normal, blockK_exit, blockK_ret, evOp, vOp, hOpB, hOpU, hOp, hOpT, aWanted, aYielded, opd, putT, closedV, aBin, intOp, sameK, mapO, joinR, hasAddr, boundOf, pushB, aAlloc, Value.cells, lookB, setB, Nat.beq_eq, tm_n_set, tm_get_set, tm_of_n, tm_of_get, tm_tr_set, tm_tr_of, cellV, putF, appR_eq, takeR_eq, dropR_eq, setR_eq, getR_eq, ↓C75, ↓C76, ↓C77, ↓C79, ↓C17, ↓C18, ↓C22, ↓C71, FA24_0, FA24_1, FA24_2, FA24_3, FA24_4, FA24_5, FA24_6, FA24_7, FA24_8, LD3, LD4, LD22, LD27, LDr, LD24, LEN22, IA22, tkc, cellAt, LEN29, hl, hmk, h0, h1, finF, takeM, resV, cleanedG, hasAddr, kp]
set_option maxRecDepth 10000 in
set_option maxHeartbeats 8000000 in
theorem sameFaces_nil (call : Value → List Value → AH → Option (Value × AH)) {H : AH} :
    ∃ H', evFn (tabT Try.prog) call 300 kpT 10 Try.f10 [.slice none 0 0, .slice none 0 0] H = some (.bool true, H') := by
  have kp := kp10
  simp only [evFn, Try.f10]
  simp [ec_skip, ec_label, ek_reg, ek_draw, ek_seq, ec_cond, ek_block, ec_loop, ec_exit, ec_ret, ec_scope, ek_nil, ek_op, opK_some, regK_some, seqK_normal, seqK_exit, seqK_ret, blockK_normal, blockK_exit, blockK_ret, evOp, vOp, hOpB, hOpU, hOp, hOpT, aWanted, aYielded, opd, putT, closedV, aBin, intOp, sameK, mapO, joinR, hasAddr, boundOf, pushB, aAlloc, Value.cells, lookB, setB, Nat.beq_eq, tm_n_set, tm_get_set, tm_of_n, tm_of_get, tm_tr_set, tm_tr_of, cellV, putF, appR_eq, takeR_eq, dropR_eq, setR_eq, getR_eq, ↓C75, ↓C76, ↓C77, ↓C79, ↓C17, ↓C18, ↓C22, ↓C71, FA24_0, FA24_1, FA24_2, FA24_3, FA24_4, FA24_5, FA24_6, FA24_7, FA24_8, LD3, LD4, LD22, LD27, LDr, LD24, LEN22, IA22, tkc, cellAt, LEN29]
  generalize hr : evLoop _ _ _ _ = r
  obtain ⟨y, A', H', rfl, rfl, hl, hmk, h0, h1, rfl⟩ := loop_go (Q := Q10 (.slice none 0 0) (.slice none 0 0) H) hr (I10 (.slice none 0 0) (.slice none 0 0) 0 H) 0 (by omega) ⟨0, by omega, rfl, rfl, rfl, rfl, rfl, rfl⟩ (by
    clear hr
    rintro m A H' ⟨i, him, hl, hmk, h5, h0, h1, rfl⟩
    obtain rfl : m = 0 := by omega
    obtain rfl : i = 0 := by omega
    simp only [runC]
    simp [ec_skip, ec_label, ek_reg, ek_draw, ek_seq, ec_cond, ek_block, ec_loop, ec_exit, ec_ret, ec_scope, ek_nil, ek_op, opK_some, regK_some, seqK_normal, seqK_exit, seqK_ret, blockK_normal, blockK_exit, blockK_ret, evOp, vOp, hOpB, hOpU, hOp, hOpT, aWanted, aYielded, opd, putT, closedV, aBin, intOp, sameK, mapO, joinR, hasAddr, boundOf, pushB, aAlloc, Value.cells, lookB, setB, Nat.beq_eq, tm_n_set, tm_get_set, tm_of_n, tm_of_get, tm_tr_set, tm_tr_of, cellV, putF, appR_eq, takeR_eq, dropR_eq, setR_eq, getR_eq, ↓C75, ↓C76, ↓C77, ↓C79, ↓C17, ↓C18, ↓C22, ↓C71, FA24_0, FA24_1, FA24_2, FA24_3, FA24_4, FA24_5, FA24_6, FA24_7, FA24_8, LD3, LD4, LD22, LD27, LDr, LD24, LEN22, IA22, tkc, cellAt, LEN29, hl, hmk, h5, h0, h1]
    exact .inr ⟨by simp, rfl, by simp [tm_n_set, hl], rfl, by simp [tm_get_set, tm_n_set, hl, h0], by simp [tm_get_set, tm_n_set, hl, h1], rfl⟩)
  simp [ec_skip, ec_label, ek_reg, ek_draw, ek_seq, ec_cond, ek_block, ec_loop, ec_exit, ec_ret, ec_scope, ek_nil, ek_op, opK_some, regK_some, seqK_normal, seqK_exit, seqK_ret, blockK_normal, blockK_exit, blockK_ret, evOp, vOp, hOpB, hOpU, hOp, hOpT, aWanted, aYielded, opd, putT, closedV, aBin, intOp, sameK, mapO, joinR, hasAddr, boundOf, pushB, aAlloc, Value.cells, lookB, setB, Nat.beq_eq, tm_n_set, tm_get_set, tm_of_n, tm_of_get, tm_tr_set, tm_tr_of, cellV, putF, appR_eq, takeR_eq, dropR_eq, setR_eq, getR_eq, ↓C75, ↓C76, ↓C77, ↓C79, ↓C17, ↓C18, ↓C22, ↓C71, FA24_0, FA24_1, FA24_2, FA24_3, FA24_4, FA24_5, FA24_6, FA24_7, FA24_8, LD3, LD4, LD22, LD27, LDr, LD24, LEN22, IA22, tkc, cellAt, LEN29, hl, hmk, h0, h1, finF, takeM, resV, cleanedG, hasAddr, kp]

theorem F4 : tabF Try.prog 4 = some Try.f4 := by kernel_rfl
theorem kp4 : kpT 4 = false := by kernel_rfl
set_option maxRecDepth 10000 in
set_option maxHeartbeats 8000000 in
theorem long_any (call : Value → List Value → AH → Option (Value × AH)) (s : SV) (H : AH) : ∃ H', evFn (tabT Try.prog) call 300 kpT 4 Try.f4 [s.val] H = some (.bool s.long, H') := by
  simp only [evFn, Try.f4, SV.val, SV.long]
  by_cases c : 20 < s.n
  · have c' : (20 : Int) < s.n := by omega
    simp [ec_skip, ec_label, ek_reg, ek_draw, ek_seq, ec_cond, ek_block, ec_loop, ec_exit, ec_ret, ec_scope, ek_nil, ek_op, opK_some, regK_some, seqK_normal, seqK_exit, seqK_ret, blockK_normal, blockK_exit, blockK_ret, evOp, vOp, hOpB, hOpU, hOp, hOpT, aWanted, aYielded, opd, putT, closedV, aBin, intOp, sameK, mapO, joinR, hasAddr, boundOf, pushB, aAlloc, Value.cells, lookB, setB, Nat.beq_eq, tm_n_set, tm_get_set, tm_of_n, tm_of_get, tm_tr_set, tm_tr_of, cellV, putF, appR_eq, takeR_eq, dropR_eq, setR_eq, getR_eq, ↓C75, ↓C76, ↓C77, ↓C79, ↓C17, ↓C18, ↓C22, ↓C71, FA24_0, FA24_1, FA24_2, FA24_3, FA24_4, FA24_5, FA24_6, FA24_7, FA24_8, LD3, LD4, LD22, LD27, LDr, LD24, LEN22, IA22, tkc, cellAt, finF, takeM, resV, c, c']
  · have c' : ¬ (20 : Int) < s.n := by omega
    by_cases d : 60 < s.k
    · have d' : (60 : Int) < s.k := by omega
      simp [ec_skip, ec_label, ek_reg, ek_draw, ek_seq, ec_cond, ek_block, ec_loop, ec_exit, ec_ret, ec_scope, ek_nil, ek_op, opK_some, regK_some, seqK_normal, seqK_exit, seqK_ret, blockK_normal, blockK_exit, blockK_ret, evOp, vOp, hOpB, hOpU, hOp, hOpT, aWanted, aYielded, opd, putT, closedV, aBin, intOp, sameK, mapO, joinR, hasAddr, boundOf, pushB, aAlloc, Value.cells, lookB, setB, Nat.beq_eq, tm_n_set, tm_get_set, tm_of_n, tm_of_get, tm_tr_set, tm_tr_of, cellV, putF, appR_eq, takeR_eq, dropR_eq, setR_eq, getR_eq, ↓C75, ↓C76, ↓C77, ↓C79, ↓C17, ↓C18, ↓C22, ↓C71, FA24_0, FA24_1, FA24_2, FA24_3, FA24_4, FA24_5, FA24_6, FA24_7, FA24_8, LD3, LD4, LD22, LD27, LDr, LD24, LEN22, IA22, tkc, cellAt, finF, takeM, resV, c, c', d, d']
    · have d' : ¬ (60 : Int) < s.k := by omega
      simp [ec_skip, ec_label, ek_reg, ek_draw, ek_seq, ec_cond, ek_block, ec_loop, ec_exit, ec_ret, ec_scope, ek_nil, ek_op, opK_some, regK_some, seqK_normal, seqK_exit, seqK_ret, blockK_normal, blockK_exit, blockK_ret, evOp, vOp, hOpB, hOpU, hOp, hOpT, aWanted, aYielded, opd, putT, closedV, aBin, intOp, sameK, mapO, joinR, hasAddr, boundOf, pushB, aAlloc, Value.cells, lookB, setB, Nat.beq_eq, tm_n_set, tm_get_set, tm_of_n, tm_of_get, tm_tr_set, tm_tr_of, cellV, putF, appR_eq, takeR_eq, dropR_eq, setR_eq, getR_eq, ↓C75, ↓C76, ↓C77, ↓C79, ↓C17, ↓C18, ↓C22, ↓C71, FA24_0, FA24_1, FA24_2, FA24_3, FA24_4, FA24_5, FA24_6, FA24_7, FA24_8, LD3, LD4, LD22, LD27, LDr, LD24, LEN22, IA22, tkc, cellAt, finF, takeM, resV, c, c', d, d']

end Go.Proofs.Ytbpknklnalnihaa
