/-
  What is proved: Equal on equal lists, as an answer; long.
-/
import Derived.Test.YtbgknpcbldnabaaWh
namespace Go.Proofs.Ytbgknpcbldnabaa
open Go.RowKit
set_option linter.unusedSimpArgs false
set_option linter.unusedVariables false

theorem below_sub : ∀ (n : Nat) (bs : List (Nat × ABlk)), (below n bs).Sublist bs
  | _, [] => List.Sublist.slnil
  | n, (j, k) :: r => by
    simp only [below]
    split
    · exact (below_sub n r).cons_cons _
    · exact (below_sub n r).cons _
theorem look_below (n : Nat) : ∀ (bs : List (Nat × ABlk)) (i : Nat), i < n → lookB (below n bs) i = lookB bs i
  | [], _, _ => rfl
  | (j, k) :: r, i, h => by
    simp only [below]
    split
    · simp only [lookB, look_below n r i h]
    · rename_i hb
      have : ¬ i = j := by
        rintro rfl
        exact hb (by simpa [Nat.blt_eq] using h)
      simp only [lookB, Nat.beq_eq, this, if_false, look_below n r i h]

noncomputable def SV.long (s : SV) : Bool := decide (20 < s.n) || decide (60 < s.k)
theorem kp6 : kpT 6 = false := by kernel_rfl
noncomputable def I6e (u v : Value) (k : Nat) (H0 : AH) (m : Nat) (A : AF) (H : AH) : Prop := ∃ (i : Nat), i + m = k ∧ A.tm.n = 26 ∧ A.marks = [] ∧ A.tm.get 5 = .int .i64 (i : Int) ∧ A.tm.get 0 = u ∧ A.tm.get 1 = v ∧ H = H0
noncomputable def Q6e (H0 : AH) (y : AX) (A' : AF) (H : AH) : Prop := y = .exit 0 ∧ A'.tm.n = 26 ∧ A'.marks = [] ∧ H = H0
set_option maxRecDepth 10000 in
set_option maxHeartbeats 8000000 in
theorem equal_ev (call : Value → List Value → AH → Option (Value × AH)) {a b k : Nat} {g : Nat → Int} {H : AH} (hk : k ≤ 200) (hM : MI H) {ro ro2 : Bool} (ha : lookB H.bs a = some (.cells ro (intsL g k))) (hb : lookB H.bs b = some (.cells ro2 (intsL g k))) :
    ∃ H', evFn (tabT Try.prog) call 300 kpT 6 Try.f6 [.slice (some ⟨a, 0, none⟩) k 1, .slice (some ⟨b, 0, none⟩) k 1] H = some (.bool true, H') ∧ H.next ≤ H'.next ∧ (∀ j, j < H.next → lookB H'.bs j = lookB H.bs j) ∧ MI H' := by
  have kp := kp6
  have ra := lookB_roB_cells _ _ _ _ ha hM.1
  have rb := lookB_roB_cells _ _ _ _ hb hM.1
  have nw := newOnes_ro H.bs H.next hM.2
  simp only [evFn, Try.f6]
  simp [ec_skip, ec_label, ek_reg, ek_draw, ek_seq, ec_cond, ek_block, ec_loop, ec_exit, ec_ret, ec_scope, ek_nil, ek_op, opK_some, regK_some, seqK_normal, seqK_exit, seqK_ret, blockK_normal, blockK_exit, blockK_ret, evOp, vOp, hOpB, hOpU, hOp, hOpT, aAppendG_tab, aWanted, aYielded, opd, putT, closedV, aBin, intOp, sameK, mapO, joinR, hasAddr, boundOf, pushB, aAlloc, Value.cells, lookB, setB, Nat.beq_eq, tm_n_set, tm_get_set, tm_of_n, tm_of_get, tm_tr_set, tm_tr_of, cellV, putF, appR_eq, takeR_eq, dropR_eq, setR_eq, getR_eq, ↓C75, ↓C76, ↓C77, ↓C79, ↓C17, ↓C18, ↓C22, ↓C71, FA24_0, FA24_1, FA24_2, FA24_3, FA24_4, FA24_5, FA24_6, FA24_7, FA24_8, LD3, LD4, LD22, LD27, LDr, LD24, LEN22, IA22, tkc, cellAt]
  generalize hr : evLoop _ _ _ _ = r
  obtain ⟨y, A', H', rfl, rfl, hl, hmk, rfl⟩ := loop_go (Q := Q6e H) hr (I6e (.slice (some ⟨a, 0, none⟩) k 1) (.slice (some ⟨b, 0, none⟩) k 1) k H) k (by omega) ⟨0, by omega, rfl, rfl, rfl, rfl, rfl, rfl⟩ (by
    clear hr
    rintro m A H' ⟨i, him, hl, hmk, h5, h0, h1, rfl⟩
    simp only [runC]
    cases m with
    | zero =>
      have hi : ¬ i < k := by omega
      simp [ec_skip, ec_label, ek_reg, ek_draw, ek_seq, ec_cond, ek_block, ec_loop, ec_exit, ec_ret, ec_scope, ek_nil, ek_op, opK_some, regK_some, seqK_normal, seqK_exit, seqK_ret, blockK_normal, blockK_exit, blockK_ret, evOp, vOp, hOpB, hOpU, hOp, hOpT, aAppendG_tab, aWanted, aYielded, opd, putT, closedV, aBin, intOp, sameK, mapO, joinR, hasAddr, boundOf, pushB, aAlloc, Value.cells, lookB, setB, Nat.beq_eq, tm_n_set, tm_get_set, tm_of_n, tm_of_get, tm_tr_set, tm_tr_of, cellV, putF, appR_eq, takeR_eq, dropR_eq, setR_eq, getR_eq, ↓C75, ↓C76, ↓C77, ↓C79, ↓C17, ↓C18, ↓C22, ↓C71, FA24_0, FA24_1, FA24_2, FA24_3, FA24_4, FA24_5, FA24_6, FA24_7, FA24_8, LD3, LD4, LD22, LD27, LDr, LD24, LEN22, IA22, tkc, cellAt, hl, hmk, h5, h0, h1, hi]
      exact .inr ⟨by simp, rfl, by simp [tm_n_set, hl], rfl, rfl⟩
    | succ m =>
      have hi : i < k := by omega
      have hw : wrapI .i64 ((i : Int) + 1) = ((i + 1 : Nat) : Int) := by rw [wrapI_small (by omega) (by omega)]; rfl
      have pa := IX22 a k i hi
      have pb := IX22 b k i hi
      have pc := intsL_at g k i hi
      simp [ec_skip, ec_label, ek_reg, ek_draw, ek_seq, ec_cond, ek_block, ec_loop, ec_exit, ec_ret, ec_scope, ek_nil, ek_op, opK_some, regK_some, seqK_normal, seqK_exit, seqK_ret, blockK_normal, blockK_exit, blockK_ret, evOp, vOp, hOpB, hOpU, hOp, hOpT, aAppendG_tab, aWanted, aYielded, opd, putT, closedV, aBin, intOp, sameK, mapO, joinR, hasAddr, boundOf, pushB, aAlloc, Value.cells, lookB, setB, Nat.beq_eq, tm_n_set, tm_get_set, tm_of_n, tm_of_get, tm_tr_set, tm_tr_of, cellV, putF, appR_eq, takeR_eq, dropR_eq, setR_eq, getR_eq, ↓C75, ↓C76, ↓C77, ↓C79, ↓C17, ↓C18, ↓C22, ↓C71, FA24_0, FA24_1, FA24_2, FA24_3, FA24_4, FA24_5, FA24_6, FA24_7, FA24_8, LD3, LD4, LD22, LD27, LDr, LD24, LEN22, IA22, tkc, cellAt, hl, hmk, h5, h0, h1, hi]
      generalize hX : evDrawX _ _ _ _ _ = X
      obtain ⟨tm, rfl, hn', t25, t5, t0, t1⟩ := draw_ro (Pt := fun tm => tm.get 25 = .bool false ∧ tm.get 5 = .int .i64 (i : Int) ∧ tm.get 0 = .slice (some ⟨a, 0, none⟩) k 1 ∧ tm.get 1 = .slice (some ⟨b, 0, none⟩) k 1) hX (by kernel_rfl) hM.1 (by
        clear hX
        generalize befs _ = M
        generalize intsL g k = L at *
        simp [mapO, drRun, drOp, dr3, looks, guardT, tmpsOf, Op.operands, Call.operands, wantedR, gOf, finT, natMem, isNil, writesF, evOp, vOp, hOpB, hOpU, hOp, hOpT, aAppendG_tab, opd, closedV, aBin, intOp, sameK, opdO, boundOf, undef, lookB, Nat.beq_eq, tm_n_set, tm_get_set, tm_of_n, tm_of_get, tm_tr_set, tm_tr_of, b02, b12, b32, ↓G75, W75, ↓G76, W76, ↓G77, W77, ↓G79, W79, ↓G17, W17, ↓G18, W18, ↓G22, W22, ↓G71, W71, tv, all1, roB, roK, news, newOnes, decr, tkc, cellAt, LD3, LD4, LD22, LD27, LDr, LD24, LEN22, IA22, hl, h5, h0, h1, pa, pb, pc, ra, rb, nw, Nat.ble_eq]
        refine ⟨by simp [dynOK, b02, b12, b32], by simp [wheap, news, b02, b12, b32]⟩)
      clear hX
      simp [tm_n_set, hl] at hn'
      simp [ec_skip, ec_label, ek_reg, ek_draw, ek_seq, ec_cond, ek_block, ec_loop, ec_exit, ec_ret, ec_scope, ek_nil, ek_op, opK_some, regK_some, seqK_normal, seqK_exit, seqK_ret, blockK_normal, blockK_exit, blockK_ret, evOp, vOp, hOpB, hOpU, hOp, hOpT, aAppendG_tab, aWanted, aYielded, opd, putT, closedV, aBin, intOp, sameK, mapO, joinR, hasAddr, boundOf, pushB, aAlloc, Value.cells, lookB, setB, Nat.beq_eq, tm_n_set, tm_get_set, tm_of_n, tm_of_get, tm_tr_set, tm_tr_of, cellV, putF, appR_eq, takeR_eq, dropR_eq, setR_eq, getR_eq, ↓C75, ↓C76, ↓C77, ↓C79, ↓C17, ↓C18, ↓C22, ↓C71, FA24_0, FA24_1, FA24_2, FA24_3, FA24_4, FA24_5, FA24_6, FA24_7, FA24_8, LD3, LD4, LD22, LD27, LDr, LD24, LEN22, IA22, tkc, cellAt, hmk, hn', t25, t5, t0, t1]
      refine ⟨_, _, _, ⟨rfl, rfl, rfl⟩, .inl ⟨rfl, m, rfl, i + 1, by omega, ?_⟩⟩
      simp [tm_get_set, tm_n_set, hn', t5, t0, t1, hw])
  simp [ec_skip, ec_label, ek_reg, ek_draw, ek_seq, ec_cond, ek_block, ec_loop, ec_exit, ec_ret, ec_scope, ek_nil, ek_op, opK_some, regK_some, seqK_normal, seqK_exit, seqK_ret, blockK_normal, blockK_exit, blockK_ret, evOp, vOp, hOpB, hOpU, hOp, hOpT, aAppendG_tab, aWanted, aYielded, opd, putT, closedV, aBin, intOp, sameK, mapO, joinR, hasAddr, boundOf, pushB, aAlloc, Value.cells, lookB, setB, Nat.beq_eq, tm_n_set, tm_get_set, tm_of_n, tm_of_get, tm_tr_set, tm_tr_of, cellV, putF, appR_eq, takeR_eq, dropR_eq, setR_eq, getR_eq, ↓C75, ↓C76, ↓C77, ↓C79, ↓C17, ↓C18, ↓C22, ↓C71, FA24_0, FA24_1, FA24_2, FA24_3, FA24_4, FA24_5, FA24_6, FA24_7, FA24_8, LD3, LD4, LD22, LD27, LDr, LD24, LEN22, IA22, tkc, cellAt, hl, hmk, finF, takeM, resV, cleanedG, hasAddr, kp]
  exact ⟨fun j hj => look_below _ _ _ hj, hM.sub (below_sub _ _) (Nat.le_refl _)⟩
set_option maxRecDepth 10000 in
set_option maxHeartbeats 8000000 in
theorem equal_nil (call : Value → List Value → AH → Option (Value × AH)) {H : AH} :
    ∃ H', evFn (tabT Try.prog) call 300 kpT 6 Try.f6 [.slice none 0 0, .slice none 0 0] H = some (.bool true, H') ∧ H.next ≤ H'.next ∧ ∀ j, j < H.next → lookB H'.bs j = lookB H.bs j := by
  have kp := kp6
  simp only [evFn, Try.f6]
  simp [ec_skip, ec_label, ek_reg, ek_draw, ek_seq, ec_cond, ek_block, ec_loop, ec_exit, ec_ret, ec_scope, ek_nil, ek_op, opK_some, regK_some, seqK_normal, seqK_exit, seqK_ret, blockK_normal, blockK_exit, blockK_ret, evOp, vOp, hOpB, hOpU, hOp, hOpT, aAppendG_tab, aWanted, aYielded, opd, putT, closedV, aBin, intOp, sameK, mapO, joinR, hasAddr, boundOf, pushB, aAlloc, Value.cells, lookB, setB, Nat.beq_eq, tm_n_set, tm_get_set, tm_of_n, tm_of_get, tm_tr_set, tm_tr_of, cellV, putF, appR_eq, takeR_eq, dropR_eq, setR_eq, getR_eq, ↓C75, ↓C76, ↓C77, ↓C79, ↓C17, ↓C18, ↓C22, ↓C71, FA24_0, FA24_1, FA24_2, FA24_3, FA24_4, FA24_5, FA24_6, FA24_7, FA24_8, LD3, LD4, LD22, LD27, LDr, LD24, LEN22, IA22, tkc, cellAt]
  generalize hr : evLoop _ _ _ _ = r
  obtain ⟨y, A', H', rfl, rfl, hl, hmk, rfl⟩ := loop_go (Q := Q6e H) hr (I6e (.slice none 0 0) (.slice none 0 0) 0 H) 0 (by omega) ⟨0, by omega, rfl, rfl, rfl, rfl, rfl, rfl⟩ (by
    clear hr
    rintro m A H' ⟨i, him, hl, hmk, h5, h0, h1, rfl⟩
    obtain rfl : m = 0 := by omega
    obtain rfl : i = 0 := by omega
    simp only [runC]
    simp [ec_skip, ec_label, ek_reg, ek_draw, ek_seq, ec_cond, ek_block, ec_loop, ec_exit, ec_ret, ec_scope, ek_nil, ek_op, opK_some, regK_some, seqK_normal, seqK_exit, seqK_ret, blockK_normal, blockK_exit, blockK_ret, evOp, vOp, hOpB, hOpU, hOp, hOpT, aAppendG_tab, aWanted, aYielded, opd, putT, closedV, aBin, intOp, sameK, mapO, joinR, hasAddr, boundOf, pushB, aAlloc, Value.cells, lookB, setB, Nat.beq_eq, tm_n_set, tm_get_set, tm_of_n, tm_of_get, tm_tr_set, tm_tr_of, cellV, putF, appR_eq, takeR_eq, dropR_eq, setR_eq, getR_eq, ↓C75, ↓C76, ↓C77, ↓C79, ↓C17, ↓C18, ↓C22, ↓C71, FA24_0, FA24_1, FA24_2, FA24_3, FA24_4, FA24_5, FA24_6, FA24_7, FA24_8, LD3, LD4, LD22, LD27, LDr, LD24, LEN22, IA22, tkc, cellAt, hl, hmk, h5, h0, h1]
    exact .inr ⟨by simp, rfl, by simp [tm_n_set, hl], rfl, rfl⟩)
  simp [ec_skip, ec_label, ek_reg, ek_draw, ek_seq, ec_cond, ek_block, ec_loop, ec_exit, ec_ret, ec_scope, ek_nil, ek_op, opK_some, regK_some, seqK_normal, seqK_exit, seqK_ret, blockK_normal, blockK_exit, blockK_ret, evOp, vOp, hOpB, hOpU, hOp, hOpT, aAppendG_tab, aWanted, aYielded, opd, putT, closedV, aBin, intOp, sameK, mapO, joinR, hasAddr, boundOf, pushB, aAlloc, Value.cells, lookB, setB, Nat.beq_eq, tm_n_set, tm_get_set, tm_of_n, tm_of_get, tm_tr_set, tm_tr_of, cellV, putF, appR_eq, takeR_eq, dropR_eq, setR_eq, getR_eq, ↓C75, ↓C76, ↓C77, ↓C79, ↓C17, ↓C18, ↓C22, ↓C71, FA24_0, FA24_1, FA24_2, FA24_3, FA24_4, FA24_5, FA24_6, FA24_7, FA24_8, LD3, LD4, LD22, LD27, LDr, LD24, LEN22, IA22, tkc, cellAt, hl, hmk, finF, takeM, resV, cleanedG, hasAddr, kp]
  exact fun j hj => look_below _ _ _ hj

open Classical in
noncomputable def ansEq : List Value → AH → Option Value
  | [.slice none 0 0, .slice none 0 0], ⟨0, []⟩ => some (.bool true)
  | [.slice (some ⟨0, 0, none⟩) n 1, .slice (some ⟨1, 0, none⟩) m 1], ⟨2, [(1, .cells true L2), (0, .cells true L1)]⟩ => if n = m ∧ n ≤ 200 ∧ L1 = intsL (gi L1) n ∧ L2 = intsL (gi L1) n then some (.bool true) else none
  | _, _ => none
theorem F6n : tabF Try.prog 6 = some Try.f6 := by kernel_rfl
theorem okEq : AnsOK (runH noH) 6 ansEq := by
  intro cargs Hc v hv
  unfold ansEq at hv
  split at hv
  · cases hv
    refine ⟨rfl, fun _ => ?_⟩
    obtain ⟨H', h, _⟩ := equal_nil (inH noH) (H := ⟨0, []⟩)
    exact ⟨H', runH_fn F6n rfl h⟩
  · rename_i n m L2 L1
    split at hv
    · rename_i hc
      obtain ⟨rfl, hn, h1, h2⟩ := hc
      cases hv
      refine ⟨rfl, fun _ => ?_⟩
      have hM : MI ⟨2, [(1, .cells true L2), (0, .cells true L1)]⟩ := ⟨by simp [decrK, Nat.blt_eq], by simp⟩
      obtain ⟨H', h, _⟩ := equal_ev (inH noH) (a := 0) (b := 1) (k := n) (g := gi L1) (ro := true) (ro2 := true) hn hM (by simp only [lookB]; rw [← h1]; rfl) (by simp only [lookB]; rw [← h2]; rfl)
      exact ⟨H', runH_fn F6n rfl h⟩
    · cases hv
  · cases hv
noncomputable def EQ : Hnd := canH 6 ansEq
theorem EQ_ok : CallOK Try.prog EQ := canH_ok (runH_ok noH_ok) okEq
theorem gi_ints (W : Nat → Int) (n k : Nat) (h : k < n) : gi (intsL W n) k = W k := by
  unfold gi
  rw [intsL_at W n k h]
theorem EQ_nil (H : AH) : EQ (.func (.func 6) #[] #[]) [.slice none 0 0, .slice none 0 0] H = some (.bool true, H) := by
  simp [EQ, canH, canon, canonL, canonV, canonB, ansEq]
theorem EQ_two (W : Nat → Int) (n a b : Nat) (H : AH) {ro ro2 : Bool} (hn : n ≤ 200) (hab : ¬ b = a) (ha : lookB H.bs a = some (.cells ro (intsL W n))) (hb : lookB H.bs b = some (.cells ro2 (intsL W n))) : EQ (.func (.func 6) #[] #[]) [.slice (some ⟨a, 0, none⟩) n 1, .slice (some ⟨b, 0, none⟩) n 1] H = some (.bool true, H) := by
  have hc := okC_closed (intsL_ok W n)
  have hg : intsL W n = intsL (gi (intsL W n)) n := intsL_congr fun k hk => (gi_ints W n k hk).symm
  have hab2 : ¬ a = b := fun h => hab h.symm
  generalize intsL W n = L at *
  simp only [EQ, canH]
  simp [canon, canonL, canonV, idOf, idxOf, canonB, ha, hb, hab, hab2, hc, Nat.beq_eq]
  simp only [ansEq]
  rw [if_pos ⟨rfl, hn, hg, hg⟩]
theorem F5n : tabF Try.prog 5 = some Try.f5 := by kernel_rfl
set_option maxRecDepth 10000 in
set_option maxHeartbeats 8000000 in
theorem long_any (call : Value → List Value → AH → Option (Value × AH)) (s : SV) (H : AH) : ∃ H', evFn (tabT Try.prog) call 300 kpT 5 Try.f5 [s.val] H = some (.bool s.long, H') := by
  simp only [evFn, Try.f5, SV.val, SV.long]
  by_cases c : 20 < s.n
  · have c' : (20 : Int) < s.n := by omega
    simp [ec_skip, ec_label, ek_reg, ek_draw, ek_seq, ec_cond, ek_block, ec_loop, ec_exit, ec_ret, ec_scope, ek_nil, ek_op, opK_some, regK_some, seqK_normal, seqK_exit, seqK_ret, blockK_normal, blockK_exit, blockK_ret, evOp, vOp, hOpB, hOpU, hOp, hOpT, aAppendG_tab, aWanted, aYielded, opd, putT, closedV, aBin, intOp, sameK, mapO, joinR, hasAddr, boundOf, pushB, aAlloc, Value.cells, lookB, setB, Nat.beq_eq, tm_n_set, tm_get_set, tm_of_n, tm_of_get, tm_tr_set, tm_tr_of, cellV, putF, appR_eq, takeR_eq, dropR_eq, setR_eq, getR_eq, ↓C75, ↓C76, ↓C77, ↓C79, ↓C17, ↓C18, ↓C22, ↓C71, FA24_0, FA24_1, FA24_2, FA24_3, FA24_4, FA24_5, FA24_6, FA24_7, FA24_8, LD3, LD4, LD22, LD27, LDr, LD24, LEN22, IA22, tkc, cellAt, finF, takeM, resV, c, c']
  · have c' : ¬ (20 : Int) < s.n := by omega
    by_cases d : 60 < s.k
    · have d' : (60 : Int) < s.k := by omega
      simp [ec_skip, ec_label, ek_reg, ek_draw, ek_seq, ec_cond, ek_block, ec_loop, ec_exit, ec_ret, ec_scope, ek_nil, ek_op, opK_some, regK_some, seqK_normal, seqK_exit, seqK_ret, blockK_normal, blockK_exit, blockK_ret, evOp, vOp, hOpB, hOpU, hOp, hOpT, aAppendG_tab, aWanted, aYielded, opd, putT, closedV, aBin, intOp, sameK, mapO, joinR, hasAddr, boundOf, pushB, aAlloc, Value.cells, lookB, setB, Nat.beq_eq, tm_n_set, tm_get_set, tm_of_n, tm_of_get, tm_tr_set, tm_tr_of, cellV, putF, appR_eq, takeR_eq, dropR_eq, setR_eq, getR_eq, ↓C75, ↓C76, ↓C77, ↓C79, ↓C17, ↓C18, ↓C22, ↓C71, FA24_0, FA24_1, FA24_2, FA24_3, FA24_4, FA24_5, FA24_6, FA24_7, FA24_8, LD3, LD4, LD22, LD27, LDr, LD24, LEN22, IA22, tkc, cellAt, finF, takeM, resV, c, c', d, d']
    · have d' : ¬ (60 : Int) < s.k := by omega
      simp [ec_skip, ec_label, ek_reg, ek_draw, ek_seq, ec_cond, ek_block, ec_loop, ec_exit, ec_ret, ec_scope, ek_nil, ek_op, opK_some, regK_some, seqK_normal, seqK_exit, seqK_ret, blockK_normal, blockK_exit, blockK_ret, evOp, vOp, hOpB, hOpU, hOp, hOpT, aAppendG_tab, aWanted, aYielded, opd, putT, closedV, aBin, intOp, sameK, mapO, joinR, hasAddr, boundOf, pushB, aAlloc, Value.cells, lookB, setB, Nat.beq_eq, tm_n_set, tm_get_set, tm_of_n, tm_of_get, tm_tr_set, tm_tr_of, cellV, putF, appR_eq, takeR_eq, dropR_eq, setR_eq, getR_eq, ↓C75, ↓C76, ↓C77, ↓C79, ↓C17, ↓C18, ↓C22, ↓C71, FA24_0, FA24_1, FA24_2, FA24_3, FA24_4, FA24_5, FA24_6, FA24_7, FA24_8, LD3, LD4, LD22, LD27, LDr, LD24, LEN22, IA22, tkc, cellAt, finF, takeM, resV, c, c', d, d']

end Go.Proofs.Ytbgknpcbldnabaa
