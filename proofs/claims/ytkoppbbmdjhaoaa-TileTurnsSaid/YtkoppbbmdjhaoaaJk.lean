/-
  What is proved: the document's own Swap answers as tile.Swap does.
-/
import Derived.Test.YtkoppbbmdjhaoaaJj
namespace Go.Proofs.Ytkoppbbmdjhaoaa
open Go.RowKit
set_option linter.unusedSimpArgs false

def P42 (s : SV) (R : Bool) (x : List DR × Nat) : Prop := x.2 = 3 ∧ wheap s.bx.bs x.1 = s.bx.bs ∧ ∀ tm, tv tm all1 x.1 47 = .bool R ∧ tv tm all1 x.1 1 = getT tm 1 ∧ tv tm all1 x.1 2 = getT tm 2 ∧ tv tm all1 x.1 3 = getT tm 3 ∧ tv tm all1 x.1 4 = getT tm 4 ∧ tv tm all1 x.1 9 = getT tm 9 ∧ tv tm all1 x.1 10 = getT tm 10

set_option maxRecDepth 10000 in
set_option maxHeartbeats 8000000 in
theorem rswap_ev (call : Value → List Value → AH → Option (Value × AH)) (s : SV) (kind a b : Int) (hf : ∀ (H : AH), lookB H.bs 0 = some (.ints s.g) → lookB H.bs 1 = some (.ints s.h) → call (.func (.func 27) #[] #[]) [s.val, .int .i64 kind] H = some (placeT (s.find kind), H))
    (hb : ∀ (n l m : Int) (H : AH), call (.func (.func 78) #[] #[]) [.int .i64 n, .int .i64 l, .int .i64 m] H = some (.bool (btw n l m), H))
    (ha : ∀ (j : Nat), s.err = 0 → j < s.n → ∀ (H : AH), lookB H.bs 0 = some (.ints s.g) → lookB H.bs 1 = some (.ints s.h) → call (.func (.func 90) #[] #[]) [s.val, .int .i64 (j : Int)] H = some (.int .i64 (firstN s.g j), H)) :
    ∃ H', evFn (tabT Try.prog) call 300 kpT 42 Try.f42 [s.val, .int .i64 kind, .int .i64 a, .int .i64 b] s.hp = some (.int .i64 (s.swp kind a b), H') := by
  unfold SV.swp
  cases hx : s.find kind with
  | none =>
    rw [hx] at hf
    simp only [SV.val, placeT] at hf
    simp only [evFn, Try.f42, SV.val, SV.hp]
    simp [ec_skip, ec_label, ek_reg, ek_draw, ek_seq, ec_cond, ek_block, ec_loop, ec_exit, ec_ret, ek_nil, ek_op, opK_some, regK_some, seqK_normal, seqK_exit, seqK_ret, blockK_normal, blockK_exit, blockK_ret, evOp, vOp, hOp, aWanted, aY, boolOf, opd, putT, closedV, undef, aBin, intOp, sameK, mapO, joinR, hasAddr, pushB, aAlloc, Value.cells, T3, T4, T22, FA24_0, FA24_1, FA24_2, FA24_3, FA24_4, FA24_5, FA24_6, FA24_7, FA24_8, LD3, LD4, LD22, LD27, LDr, LD24, LEN22, IA22, cellAt, lookB, Nat.beq_eq, takeCells, finF, takeM, resV, getT_set, setT_length, getT, setT, hf]
  | some x =>
    obtain ⟨su, r, q⟩ := x
    obtain ⟨he, r0, rq, _, hsu⟩ := find_spec hx
    have hs := small_of_err he
    have hn3 := hs.n
    rw [hx] at hf
    simp only [SV.val, placeT] at hf
    have hat := fun j hj => ha j he hj
    simp only [SV.val] at hat
    have c4 : (su == -4) = false := by
      simp only [beq_eq_false_iff_ne]
      rcases hsu with h | ⟨i, hi, h, hq⟩ <;> omega
    have r9 : q ≤ 9 ∨ su < 0 := by
      rcases hsu with h | ⟨i, hi, h, hq⟩
      · exact .inr (by omega)
      · exact .inl (by rw [hq]; exact (hs.g i hi).2)
    simp only [evFn, Try.f42, SV.val, SV.hp]
    simp [ec_skip, ec_label, ek_reg, ek_draw, ek_seq, ec_cond, ek_block, ec_loop, ec_exit, ec_ret, ek_nil, ek_op, opK_some, regK_some, seqK_normal, seqK_exit, seqK_ret, blockK_normal, blockK_exit, blockK_ret, evOp, vOp, hOp, aWanted, aY, boolOf, opd, putT, closedV, undef, aBin, intOp, sameK, mapO, joinR, hasAddr, pushB, aAlloc, Value.cells, T3, T4, T22, FA24_0, FA24_1, FA24_2, FA24_3, FA24_4, FA24_5, FA24_6, FA24_7, FA24_8, LD3, LD4, LD22, LD27, LDr, LD24, LEN22, IA22, cellAt, lookB, Nat.beq_eq, takeCells, getT, setT, hf, c4]
    generalize hX : evDraw _ _ _ _ _ = X
    cases ca : btw a 0 (wrapI .i64 ((s.n : Int) - 1)) with
    | false =>
      obtain ⟨⟨rs, nx⟩, rfl, hnx, hwh, htv⟩ := evDraw_ex (Pq := P42 s true) hX (by kernel_rfl) (by simp [decrK]) (by
        clear hX
        generalize befs _ = M
        simp [mapO, drRun, drOp, looks, guardT, tmpsOf, Op.operands, Call.operands, wantedR, gOf, natMem, tv, all1, roB, news, newOnes, decr, evOp, vOp, hOp, opd, closedV, undef, aBin, intOp, sameK, opdO, FA24_0, FA24_1, FA24_2, FA24_3, FA24_4, FA24_5, FA24_8, LD3, LD22, LD24, LDr, IA22, cellAt, lookB, Nat.beq_eq, T3, T4, T22, takeCells, aLen, getT, hb, ca]
        exact ⟨by simp [dynOK, b02, b12], rfl, by simp [SV.bx, wheap, news], fun tm => by simp [tv, all1]⟩)
      simp [ec_skip, ec_label, ek_reg, ek_draw, ek_seq, ec_cond, ek_block, ec_loop, ec_exit, ec_ret, ek_nil, ek_op, opK_some, regK_some, seqK_normal, seqK_exit, seqK_ret, blockK_normal, blockK_exit, blockK_ret, evOp, vOp, hOp, aWanted, aY, boolOf, opd, putT, closedV, undef, aBin, intOp, sameK, mapO, joinR, hasAddr, pushB, aAlloc, Value.cells, T3, T4, T22, FA24_0, FA24_1, FA24_2, FA24_3, FA24_4, FA24_5, FA24_6, FA24_7, FA24_8, LD3, LD4, LD22, LD27, LDr, LD24, LEN22, IA22, cellAt, lookB, Nat.beq_eq, takeCells, finF, takeM, resV, getT_set, setT_length, getT_fin, fin_length, htv, SV.noSwap, ca, getT]
    | true =>
      cases cb : btw b 0 (wrapI .i64 ((s.n : Int) - 1)) with
      | false =>
        obtain ⟨⟨rs, nx⟩, rfl, hnx, hwh, htv⟩ := evDraw_ex (Pq := P42 s true) hX (by kernel_rfl) (by simp [decrK]) (by
          clear hX
          generalize befs _ = M
          simp [mapO, drRun, drOp, looks, guardT, tmpsOf, Op.operands, Call.operands, wantedR, gOf, natMem, tv, all1, roB, news, newOnes, decr, evOp, vOp, hOp, opd, closedV, undef, aBin, intOp, sameK, opdO, FA24_0, FA24_1, FA24_2, FA24_3, FA24_4, FA24_5, FA24_8, LD3, LD22, LD24, LDr, IA22, cellAt, lookB, Nat.beq_eq, T3, T4, T22, takeCells, aLen, getT, hb, ca, cb]
          exact ⟨by simp [dynOK, b02, b12], rfl, by simp [SV.bx, wheap, news], fun tm => by simp [tv, all1]⟩)
        simp [ec_skip, ec_label, ek_reg, ek_draw, ek_seq, ec_cond, ek_block, ec_loop, ec_exit, ec_ret, ek_nil, ek_op, opK_some, regK_some, seqK_normal, seqK_exit, seqK_ret, blockK_normal, blockK_exit, blockK_ret, evOp, vOp, hOp, aWanted, aY, boolOf, opd, putT, closedV, undef, aBin, intOp, sameK, mapO, joinR, hasAddr, pushB, aAlloc, Value.cells, T3, T4, T22, FA24_0, FA24_1, FA24_2, FA24_3, FA24_4, FA24_5, FA24_6, FA24_7, FA24_8, LD3, LD4, LD22, LD27, LDr, LD24, LEN22, IA22, cellAt, lookB, Nat.beq_eq, takeCells, finF, takeM, resV, getT_set, setT_length, getT_fin, fin_length, htv, SV.noSwap, ca, cb, getT]
      | true =>
        have ca' := btw_iff.1 ca
        have cb' := btw_iff.1 cb
        rw [wrapI_small (by omega) (by omega)] at ca' cb'
        obtain ⟨ja, rfl⟩ : ∃ j : Nat, a = j := ⟨a.toNat, by omega⟩
        obtain ⟨jb, rfl⟩ : ∃ j : Nat, b = j := ⟨b.toNat, by omega⟩
        have hja : ja < s.n := by omega
        have hjb : jb < s.n := by omega
        obtain ⟨⟨rs, nx⟩, rfl, hnx, hwh, htv⟩ := evDraw_ex (Pq := P42 s (s.g ja != s.g jb)) hX (by kernel_rfl) (by simp [decrK]) (by
          clear hX
          generalize befs _ = M
          simp [mapO, drRun, drOp, looks, guardT, tmpsOf, Op.operands, Call.operands, wantedR, gOf, natMem, tv, all1, roB, news, newOnes, decr, evOp, vOp, hOp, opd, closedV, undef, aBin, intOp, sameK, opdO, FA24_0, FA24_1, FA24_2, FA24_3, FA24_4, FA24_5, FA24_8, LD3, LD22, LD24, LDr, IA22, cellAt, lookB, Nat.beq_eq, T3, T4, T22, takeCells, aLen, getT, hb, ca, cb, hja, hjb]
          exact ⟨by simp [dynOK, b02, b12], rfl, by simp [SV.bx, wheap, news], fun tm => by simp [tv, all1]⟩)
        simp only at hnx hwh htv
        subst hnx
        simp only [SV.bx] at hwh
        cases cg : (s.g ja != s.g jb) with
        | true =>
          rw [cg] at htv
          simp [ec_skip, ec_label, ek_reg, ek_draw, ek_seq, ec_cond, ek_block, ec_loop, ec_exit, ec_ret, ek_nil, ek_op, opK_some, regK_some, seqK_normal, seqK_exit, seqK_ret, blockK_normal, blockK_exit, blockK_ret, evOp, vOp, hOp, aWanted, aY, boolOf, opd, putT, closedV, undef, aBin, intOp, sameK, mapO, joinR, hasAddr, pushB, aAlloc, Value.cells, T3, T4, T22, FA24_0, FA24_1, FA24_2, FA24_3, FA24_4, FA24_5, FA24_6, FA24_7, FA24_8, LD3, LD4, LD22, LD27, LDr, LD24, LEN22, IA22, cellAt, lookB, Nat.beq_eq, takeCells, finF, takeM, resV, getT_set, setT_length, getT_fin, fin_length, htv, SV.noSwap, ca, cb, cg, getT]
        | false =>
          rw [cg] at htv
          by_cases e1 : su = (ja : Int)
          · have h := hat jb hjb
            obtain ⟨f1, f2⟩ := firstN_small hs jb (by omega)
            have hw : wrapI .i64 (firstN s.g jb + r) = firstN s.g jb + r := wrapI_small (by omega) (by omega)
            subst e1
            simp [ec_skip, ec_label, ek_reg, ek_draw, ek_seq, ec_cond, ek_block, ec_loop, ec_exit, ec_ret, ek_nil, ek_op, opK_some, regK_some, seqK_normal, seqK_exit, seqK_ret, blockK_normal, blockK_exit, blockK_ret, evOp, vOp, hOp, aWanted, aY, boolOf, opd, putT, closedV, undef, aBin, intOp, sameK, mapO, joinR, hasAddr, pushB, aAlloc, Value.cells, T3, T4, T22, FA24_0, FA24_1, FA24_2, FA24_3, FA24_4, FA24_5, FA24_6, FA24_7, FA24_8, LD3, LD4, LD22, LD27, LDr, LD24, LEN22, IA22, cellAt, lookB, Nat.beq_eq, takeCells, finF, takeM, resV, getT_set, setT_length, getT_fin, fin_length, htv, hwh, SV.noSwap, ca, cb, cg, getT, h, hw]
          · have e1' : (su == (ja : Int)) = false := by simpa using e1
            by_cases e2 : su = (jb : Int)
            · have h := hat ja hja
              obtain ⟨f1, f2⟩ := firstN_small hs ja (by omega)
              have hw : wrapI .i64 (firstN s.g ja + r) = firstN s.g ja + r := wrapI_small (by omega) (by omega)
              subst e2
              simp [ec_skip, ec_label, ek_reg, ek_draw, ek_seq, ec_cond, ek_block, ec_loop, ec_exit, ec_ret, ek_nil, ek_op, opK_some, regK_some, seqK_normal, seqK_exit, seqK_ret, blockK_normal, blockK_exit, blockK_ret, evOp, vOp, hOp, aWanted, aY, boolOf, opd, putT, closedV, undef, aBin, intOp, sameK, mapO, joinR, hasAddr, pushB, aAlloc, Value.cells, T3, T4, T22, FA24_0, FA24_1, FA24_2, FA24_3, FA24_4, FA24_5, FA24_6, FA24_7, FA24_8, LD3, LD4, LD22, LD27, LDr, LD24, LEN22, IA22, cellAt, lookB, Nat.beq_eq, takeCells, finF, takeM, resV, getT_set, setT_length, getT_fin, fin_length, htv, hwh, SV.noSwap, ca, cb, cg, getT, e1, e1', h, hw]
            · have e2' : (su == (jb : Int)) = false := by simpa using e2
              simp [ec_skip, ec_label, ek_reg, ek_draw, ek_seq, ec_cond, ek_block, ec_loop, ec_exit, ec_ret, ek_nil, ek_op, opK_some, regK_some, seqK_normal, seqK_exit, seqK_ret, blockK_normal, blockK_exit, blockK_ret, evOp, vOp, hOp, aWanted, aY, boolOf, opd, putT, closedV, undef, aBin, intOp, sameK, mapO, joinR, hasAddr, pushB, aAlloc, Value.cells, T3, T4, T22, FA24_0, FA24_1, FA24_2, FA24_3, FA24_4, FA24_5, FA24_6, FA24_7, FA24_8, LD3, LD4, LD22, LD27, LDr, LD24, LEN22, IA22, cellAt, lookB, Nat.beq_eq, takeCells, finF, takeM, resV, getT_set, setT_length, getT_fin, fin_length, htv, hwh, SV.noSwap, ca, cb, cg, getT, e1, e1', e2, e2']

end Go.Proofs.Ytkoppbbmdjhaoaa
