/-
  What is proved: the faces that the document makes of tiles.
-/
import Derived.Test.YtbpknklnalnihaaTo
namespace Go.Proofs.Ytbpknklnalnihaa
open Go.RowKit
set_option linter.unusedSimpArgs false
set_option linter.unusedVariables false


theorem b03 : Nat.beq 0 3 = false := rfl
theorem b13 : Nat.beq 1 3 = false := rfl
theorem b23 : Nat.beq 2 3 = false := rfl
theorem look_none : ∀ (bs : List (Nat × ABlk)) (i : Nat), (∀ p ∈ bs, p.1 < i) → lookB (roB bs) i = none
  | [], _, _ => rfl
  | (j, k) :: r, i, h => by
    have ih := look_none r i fun p hp => h p (List.mem_cons_of_mem _ hp)
    have hj : ¬ i = j := by have := h (j, k) List.mem_cons_self; simp only at this; omega
    simp only [roB]
    split
    · simp only [lookB, Nat.beq_eq, hj, if_false, ih]
    · exact ih
theorem newOnes_ro : ∀ (bs : List (Nat × ABlk)) (i : Nat), (∀ p ∈ bs, p.1 < i) → newOnes i (roB bs) = []
  | [], _, _ => rfl
  | (j, k) :: r, i, h => by
    have ih := newOnes_ro r i fun p hp => h p (List.mem_cons_of_mem _ hp)
    have hj : ¬ i ≤ j := by have := h (j, k) List.mem_cons_self; simp only at this; omega
    simp only [roB]
    split
    · simp [newOnes, Nat.ble_eq, hj]
    · exact ih
theorem hasR_ro : ∀ bs : List (Nat × ABlk), hasR (roB bs) = false
  | [] => rfl
  | (j, k) :: r => by
    have ih := hasR_ro r
    cases k <;> simp [roB, roK, hasR, ih]
theorem app_ro1 {nx : Nat} {b1 : List (Nat × ABlk)} (hM : MI ⟨nx, b1⟩) (v : Value) : aAppend (tabT Try.prog) ⟨nx + 1, roB b1⟩ 29 v (.slice (some ⟨nx, 0, none⟩) 1 2) = none := by
  have h := look_none b1 nx hM.2
  rw [AP29]
  simp only [sliceLen, srcCells, h]
  split <;> simp_all
theorem app_ro2 {nx b i : Nat} {b1 : List (Nat × ABlk)} {cs : List Value} (hb : b < nx) (hl : lookB (roB b1) b = some (.cells true cs)) (k : Int) (r : Bool) : aAppend (tabT Try.prog) ⟨nx + 1, (nx, .cells true [.int .i64 k, .bool r]) :: roB b1⟩ 29 (.slice (some ⟨b, 0, none⟩) i 2) (.slice (some ⟨nx, 0, none⟩) 1 2) = none := by
  have e : ¬ b = nx := by omega
  rw [AP29]
  simp [sliceLen, srcCells, dstCells, lookB, Nat.beq_eq, e, hl]
theorem app_ro3 {nx : Nat} {b1 : List (Nat × ABlk)} (k : Int) (r : Bool) : aAppend (tabT Try.prog) ⟨nx + 1, (nx, .cells true [.int .i64 k, .bool r]) :: roB b1⟩ 29 (.slice none 0 0) (.slice (some ⟨nx, 0, none⟩) 1 2) = some (.slice (some ⟨nx + 1, 0, none⟩) 1 2, ⟨nx + 2, (nx + 1, .cells false [.int .i64 k, .bool r]) :: (nx, .cells true [.int .i64 k, .bool r]) :: roB b1⟩) := by
  have tn : takeCells [Value.int .i64 k, .bool r] 0 2 = some [.int .i64 k, .bool r] := rfl
  rw [AP29]
  simp [sliceLen, srcCells, dstCells, lookB, tn, cellV]
noncomputable def I8 (s : SV) (t : Nat → Int) (n N : Nat) (bs : List (Nat × ABlk)) (m : Nat) (A : AF) (H : AH) : Prop := ∃ (i : Nat) (v : Value), i + m = n ∧ A.tm.n = 42 ∧ A.marks = [] ∧ A.tm.get 8 = .int .i64 (i : Int) ∧ A.tm.get 1 = .slice (some ⟨2, 0, some 1⟩) n 0 ∧ A.tm.get 2 = .pointer (some ⟨N, 0, none⟩) ∧ A.tm.get 7 = v ∧ FI s t N H v i ∧ Kept s N bs H
noncomputable def Q8 (s : SV) (t : Nat → Int) (n N : Nat) (bs : List (Nat × ABlk)) (y : AX) (A' : AF) (H : AH) : Prop := y = .exit 0 ∧ A'.tm.n = 42 ∧ A'.marks = [] ∧ ∃ v, A'.tm.get 7 = v ∧ FI s t N H v n ∧ Kept s N bs H
theorem kp8 : (kpT 8, gcT 8) = (false, false) := by kernel_rfl

set_option maxRecDepth 10000 in
set_option maxHeartbeats 8000000 in
theorem rfaces_ev (call : Value → List Value → AH → Option (Value × AH)) (s : SV) (t : Nat → Int) (n N : Nat) (bs : List (Nat × ABlk)) (hn : n ≤ 200) (he : s.err = 0) (ht : tErr s t n 0 = 0) (H0 : lookB bs 0 = some (.ints s.g)) (H1 : lookB bs 1 = some (.ints s.h)) (H2 : lookB bs 2 = some (.ints t)) (hN : 3 ≤ N) (hM : MI ⟨N, bs⟩)
    (hct : ∀ (H : AH), lookB H.bs 0 = some (.ints s.g) → lookB H.bs 1 = some (.ints s.h) → lookB H.bs 2 = some (.ints t) → call (.func (.func 16) #[] #[]) [s.val, sl2 n] H = some (.int .i64 (tErr s t n 0), H)) (h15 : ∀ (H : AH), lookB H.bs 0 = some (.ints s.g) → lookB H.bs 1 = some (.ints s.h) → call (.func (.func 15) #[] #[]) [s.val] H = some (.int .i64 s.err, H)) (h18 : ∀ (x : Int) (H : AH), lookB H.bs 0 = some (.ints s.g) → lookB H.bs 1 = some (.ints s.h) → call (.func (.func 18) #[] #[]) [s.val, .int .i64 x] H = some (.int .i64 (s.kindOf x), H)) (h19 : ∀ (x : Int) (H : AH), lookB H.bs 0 = some (.ints s.g) → lookB H.bs 1 = some (.ints s.h) → call (.func (.func 19) #[] #[]) [s.val, .int .i64 x] H = some (.bool (s.redOf x), H)) :
    FaceEnd s t n N bs (evFn (tabT Try.prog) call 300 kpT 8 Try.f8 [s.val, sl2 n] ⟨N, bs⟩) := by
  rw [ht] at hct
  rw [he] at h15
  have n0 : ¬ 0 = N := by omega
  have n1 : ¬ 1 = N := by omega
  have n2 : ¬ 2 = N := by omega
  have m0 : ¬ N = 0 := by omega
  have m1 : ¬ N = 1 := by omega
  have m2 : ¬ N = 2 := by omega
  have kp := kp8
  simp only [Prod.mk.injEq] at kp
  obtain ⟨kp1, kp2⟩ := kp
  simp only [SV.val, sl2] at hct h15 h18 h19
  simp only [evFn, Try.f8, SV.val, sl2]
  simp [ec_skip, ec_label, ek_reg, ek_draw, ek_seq, ec_cond, ek_block, ec_loop, ec_exit, ec_ret, ec_scope, ek_nil, ek_op, opK_some, regK_some, seqK_normal, seqK_exit, seqK_ret, blockK_normal, blockK_exit, blockK_ret, evOp, vOp, hOpB, hOpU, hOp, hOpT, aWanted, aYielded, opd, putT, closedV, aBin, intOp, sameK, mapO, joinR, hasAddr, boundOf, pushB, aAlloc, Value.cells, lookB, setB, Nat.beq_eq, tm_n_set, tm_get_set, tm_of_n, tm_of_get, tm_tr_set, tm_tr_of, cellV, putF, appR_eq, takeR_eq, dropR_eq, setR_eq, getR_eq, ↓C75, ↓C76, ↓C77, ↓C79, ↓C17, ↓C18, ↓C22, ↓C71, FA24_0, FA24_1, FA24_2, FA24_3, FA24_4, FA24_5, FA24_6, FA24_7, FA24_8, LD3, LD4, LD22, LD27, LDr, LD24, LEN22, IA22, tkc, cellAt, SV.cs, faceV, partsO, BS29, APT29, ↓Crct, H0, H1, H2, n0, n1, n2, m0, m1, m2, hct, h15]
  generalize hr : evLoop _ _ _ _ = r
  obtain ⟨y, A', H', rfl, rfl, hl, hmk, v, h7, hF, hK⟩ := loop_go (Q := Q8 s t n N bs) hr (I8 s t n N bs) n (by omega) ⟨0, _, by omega, rfl, rfl, rfl, rfl, rfl, rfl, .inl ⟨rfl, rfl⟩, hM.push _, by show N < N + 1; omega, by simp [lookB, SV.cs], fun j hj => by simp [lookB, Nat.beq_eq, Nat.ne_of_lt hj]⟩ (by
    clear hr
    rintro m A ⟨nx, b1⟩ ⟨i, v, him, hl, hmk, h8, h1, h2, h7, hF, hK⟩
    simp only [runC]
    cases m with
    | zero =>
      have hi : ¬ i < n := by omega
      obtain rfl : i = n := by omega
      simp [ec_skip, ec_label, ek_reg, ek_draw, ek_seq, ec_cond, ek_block, ec_loop, ec_exit, ec_ret, ec_scope, ek_nil, ek_op, opK_some, regK_some, seqK_normal, seqK_exit, seqK_ret, blockK_normal, blockK_exit, blockK_ret, evOp, vOp, hOpB, hOpU, hOp, hOpT, aWanted, aYielded, opd, putT, closedV, aBin, intOp, sameK, mapO, joinR, hasAddr, boundOf, pushB, aAlloc, Value.cells, lookB, setB, Nat.beq_eq, tm_n_set, tm_get_set, tm_of_n, tm_of_get, tm_tr_set, tm_tr_of, cellV, putF, appR_eq, takeR_eq, dropR_eq, setR_eq, getR_eq, ↓C75, ↓C76, ↓C77, ↓C79, ↓C17, ↓C18, ↓C22, ↓C71, FA24_0, FA24_1, FA24_2, FA24_3, FA24_4, FA24_5, FA24_6, FA24_7, FA24_8, LD3, LD4, LD22, LD27, LDr, LD24, LEN22, IA22, tkc, cellAt, SV.cs, faceV, partsO, BS29, APT29, ↓Crct, H0, H1, H2, n0, n1, n2, m0, m1, m2, hl, hmk, h8, h1, h2, h7]
      exact .inr ⟨by simp, rfl, by simp [tm_n_set, hl], rfl, v, by simp [tm_get_set, tm_n_set, hl, h7], hF, hK⟩
    | succ m =>
      have hi : i < n := by omega
      have hw : wrapI .i64 ((i : Int) + 1) = ((i + 1 : Nat) : Int) := by rw [wrapI_small (by omega) (by omega)]; rfl
      have h18' := fun (H : AH) => h18 (t i) H
      have h19' := fun (H : AH) => h19 (t i) H
      obtain ⟨bs2, hs, hk, hz, hap⟩ := app_face hF (by omega)
      have hK' := hK
      obtain ⟨hM1, hnx, LN, hj⟩ := hK'
      have L0 := lookB_roB_ints _ _ _ ((hj 0 (by omega)).trans H0) hM1.1
      have L1 := lookB_roB_ints _ _ _ ((hj 1 (by omega)).trans H1) hM1.1
      have L2 := lookB_roB_ints _ _ _ ((hj 2 (by omega)).trans H2) hM1.1
      have LN := lookB_roB_cells _ _ _ _ LN hM1.1
      have hst := hK.step hs hk (faceC s t (i + 1)) [.int .i64 (s.kindOf (t i)), .bool (s.redOf (t i))]
      have hfs := FI.step (s := s) (t := t) (N := N) (H := ⟨nx, b1⟩) (i := i) (bs2 := bs2) hnx [.int .i64 (s.kindOf (t i)), .bool (s.redOf (t i))]
      have hap' := hap (s.kindOf (t i)) (s.redOf (t i))
      have hfc : faceC s t i ++ [.int .i64 (s.kindOf (t i)), .bool (s.redOf (t i))] = faceC s t (i + 1) := by rw [faceC]
      have ap1 := app_ro1 hM1
      have nle : ¬ nx + 1 ≤ nx := by omega
      have nw := newOnes_ro b1 nx hM1.2
      simp only at hap' L0 L1 L2 LN hnx hst hfs
      simp [ec_skip, ec_label, ek_reg, ek_draw, ek_seq, ec_cond, ek_block, ec_loop, ec_exit, ec_ret, ec_scope, ek_nil, ek_op, opK_some, regK_some, seqK_normal, seqK_exit, seqK_ret, blockK_normal, blockK_exit, blockK_ret, evOp, vOp, hOpB, hOpU, hOp, hOpT, aWanted, aYielded, opd, putT, closedV, aBin, intOp, sameK, mapO, joinR, hasAddr, boundOf, pushB, aAlloc, Value.cells, lookB, setB, Nat.beq_eq, tm_n_set, tm_get_set, tm_of_n, tm_of_get, tm_tr_set, tm_tr_of, cellV, putF, appR_eq, takeR_eq, dropR_eq, setR_eq, getR_eq, ↓C75, ↓C76, ↓C77, ↓C79, ↓C17, ↓C18, ↓C22, ↓C71, FA24_0, FA24_1, FA24_2, FA24_3, FA24_4, FA24_5, FA24_6, FA24_7, FA24_8, LD3, LD4, LD22, LD27, LDr, LD24, LEN22, IA22, tkc, cellAt, SV.cs, faceV, partsO, BS29, APT29, ↓Crct, H0, H1, H2, n0, n1, n2, m0, m1, m2, hl, hmk, h8, h1, h2, h7, hi]
      generalize hX : evDrawX _ _ _ _ _ = X
      obtain ⟨tm, rfl, hn', t7, t8, t1, t2⟩ := draw_any (H' := ⟨nx + 2, (nx + 1, .cells false (faceC s t (i + 1))) :: (nx, .cells false [.int .i64 (s.kindOf (t i)), .bool (s.redOf (t i))]) :: bs2⟩) (Pt := fun tm => tm.get 7 = .slice (some ⟨nx + 1, 0, none⟩) (i + 1) 2 ∧ tm.get 8 = .int .i64 (i : Int) ∧ tm.get 1 = .slice (some ⟨2, 0, some 1⟩) n 0 ∧ tm.get 2 = .pointer (some ⟨N, 0, none⟩)) hX (by kernel_rfl) hM1.1 (by
        clear hX
        generalize hMM : befs _ = M
        have mk : (M[15]?.getD 0).testBit 14 = true := by rw [← hMM]; kernel_rfl
        have o1 : ordB M 15 1 = true := by rw [← hMM]; kernel_rfl
        have o5 : ordB M 15 5 = true := by rw [← hMM]; kernel_rfl
        have o6 : ordB M 15 6 = true := by rw [← hMM]; kernel_rfl
        have o7 : ordB M 15 7 = true := by rw [← hMM]; kernel_rfl
        have o11 : ordB M 15 11 = true := by rw [← hMM]; kernel_rfl
        have o12 : ordB M 15 12 = true := by rw [← hMM]; kernel_rfl
        have o14 : ordB M 15 14 = true := by rw [← hMM]; kernel_rfl
        clear hMM
        rcases hF with ⟨h0, rfl⟩ | ⟨h0, b, rfl, hb1, hb2, hlb⟩
        · have hz' := hz h0
          simp only at hz'
          have ap3 := app_ro3 (nx := nx) (b1 := b1) (s.kindOf (t i)) (s.redOf (t i))
          simp [mapO, drRun, drOp, dr3, looks, guardT, tmpsOf, Op.operands, Call.operands, wantedR, gOf, finT, natMem, isNil, writesF, evOp, vOp, hOpB, hOpU, hOp, hOpT, opd, closedV, aBin, intOp, sameK, opdO, boundOf, undef, lookB, Nat.beq_eq, tm_n_set, tm_get_set, tm_of_n, tm_of_get, tm_tr_set, tm_tr_of, b02, b12, b32, ↓G75, W75, ↓G76, W76, ↓G77, W77, ↓G79, W79, ↓G17, W17, ↓G18, W18, ↓G22, W22, ↓G71, W71, tv, all1, roB, roK, news, newOnes, decr, tkc, cellAt, LD3, LD4, LD22, LD27, LDr, LD24, LEN22, IA22, ↓Gkind, ↓Gred, Wkind, Wred, partsO, BS29, BD84, APT29, SV.cs, pushB, hl, h8, h1, h2, h7, hi, h18', h19', L0, L1, L2, LN, nw, ap1, ap3, mk, nle, Nat.ble_eq, Nat.blt_eq, decr, ABlk.rw, hasR, hasR_ro]
          refine ⟨_, _, ⟨rfl, rfl⟩, by simp [dynOK, b02, b12, b32, b03, b13, b23, o1, o5, o6, o7, o11, o12, o14, hl, Nat.blt_eq, Nat.beq_eq], by simp [wheap, news, b02, b12, b32, Nat.beq_eq, all1, faceC, h0, hz'], by simp [finT, tm_get_set, tm_n_set, hl, h8, h1, h2, h0]⟩
        · have LB := lookB_roB_cells _ _ _ _ hlb hM1.1
          have ap2 := app_ro2 (i := i) hb2 LB (s.kindOf (t i)) (s.redOf (t i))
          rw [hfc] at hap'
          simp [mapO, drRun, drOp, dr3, looks, guardT, tmpsOf, Op.operands, Call.operands, wantedR, gOf, finT, natMem, isNil, writesF, evOp, vOp, hOpB, hOpU, hOp, hOpT, opd, closedV, aBin, intOp, sameK, opdO, boundOf, undef, lookB, Nat.beq_eq, tm_n_set, tm_get_set, tm_of_n, tm_of_get, tm_tr_set, tm_tr_of, b02, b12, b32, ↓G75, W75, ↓G76, W76, ↓G77, W77, ↓G79, W79, ↓G17, W17, ↓G18, W18, ↓G22, W22, ↓G71, W71, tv, all1, roB, roK, news, newOnes, decr, tkc, cellAt, LD3, LD4, LD22, LD27, LDr, LD24, LEN22, IA22, ↓Gkind, ↓Gred, Wkind, Wred, partsO, BS29, BD84, APT29, SV.cs, pushB, hl, h8, h1, h2, h7, hi, h18', h19', L0, L1, L2, LN, nw, ap1, ap2, hap', mk, wheap, Nat.ble_eq, Nat.blt_eq, decr, ABlk.rw, hasR, hasR_ro]
          refine ⟨_, _, ⟨rfl, rfl⟩, by simp [dynOK, b02, b12, b32, b03, b13, b23, o1, o5, o6, o7, o11, o12, o14, hl, Nat.blt_eq, Nat.beq_eq], by simp [wheap, news, b02, b12, b32, Nat.beq_eq, all1], by simp [finT, tm_get_set, tm_n_set, hl, h8, h1, h2]⟩)
      clear hX
      simp [tm_n_set, hl] at hn'
      simp [ec_skip, ec_label, ek_reg, ek_draw, ek_seq, ec_cond, ek_block, ec_loop, ec_exit, ec_ret, ec_scope, ek_nil, ek_op, opK_some, regK_some, seqK_normal, seqK_exit, seqK_ret, blockK_normal, blockK_exit, blockK_ret, evOp, vOp, hOpB, hOpU, hOp, hOpT, aWanted, aYielded, opd, putT, closedV, aBin, intOp, sameK, mapO, joinR, hasAddr, boundOf, pushB, aAlloc, Value.cells, lookB, setB, Nat.beq_eq, tm_n_set, tm_get_set, tm_of_n, tm_of_get, tm_tr_set, tm_tr_of, cellV, putF, appR_eq, takeR_eq, dropR_eq, setR_eq, getR_eq, ↓C75, ↓C76, ↓C77, ↓C79, ↓C17, ↓C18, ↓C22, ↓C71, FA24_0, FA24_1, FA24_2, FA24_3, FA24_4, FA24_5, FA24_6, FA24_7, FA24_8, LD3, LD4, LD22, LD27, LDr, LD24, LEN22, IA22, tkc, cellAt, SV.cs, faceV, partsO, BS29, APT29, ↓Crct, H0, H1, H2, n0, n1, n2, m0, m1, m2, hmk, hn', t7, t8, t1, t2]
      refine ⟨_, _, _, ⟨rfl, rfl, rfl⟩, .inl ⟨rfl, m, rfl, i + 1, .slice (some ⟨nx + 1, 0, none⟩) (i + 1) 2, by omega, ?_, rfl, ?_, ?_, ?_, ?_, hfs, hst⟩⟩
      all_goals simp [tm_get_set, tm_n_set, hn', t7, t8, t1, t2, hw])
  simp [ec_skip, ec_label, ek_reg, ek_draw, ek_seq, ec_cond, ek_block, ec_loop, ec_exit, ec_ret, ec_scope, ek_nil, ek_op, opK_some, regK_some, seqK_normal, seqK_exit, seqK_ret, blockK_normal, blockK_exit, blockK_ret, evOp, vOp, hOpB, hOpU, hOp, hOpT, aWanted, aYielded, opd, putT, closedV, aBin, intOp, sameK, mapO, joinR, hasAddr, boundOf, pushB, aAlloc, Value.cells, lookB, setB, Nat.beq_eq, tm_n_set, tm_get_set, tm_of_n, tm_of_get, tm_tr_set, tm_tr_of, cellV, putF, appR_eq, takeR_eq, dropR_eq, setR_eq, getR_eq, ↓C75, ↓C76, ↓C77, ↓C79, ↓C17, ↓C18, ↓C22, ↓C71, FA24_0, FA24_1, FA24_2, FA24_3, FA24_4, FA24_5, FA24_6, FA24_7, FA24_8, LD3, LD4, LD22, LD27, LDr, LD24, LEN22, IA22, tkc, cellAt, hl, hmk, h7, finF, takeM, resV, kp1, kp2]
  have q := face_end hF hK
  have e : hasAddr 4 (.tuple #[v, .int .i64 0]) = hasAddr 3 v := by simp [hasAddr]
  rw [e] at q
  exact q

end Go.Proofs.Ytbpknklnalnihaa
