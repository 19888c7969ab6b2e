/-
  What is proved: what tile.Check answers, for every set with lists of at most 200 numbers.
-/
import Derived.Test.YtdbpemmhkfbegaaTc
namespace Go.Proofs.Ytdbpemmhkfbegaa
open Go.RowKit
set_option linter.unusedSimpArgs false
set_option linter.unusedVariables false


/-- The list of Check's rules, by whether each holds and by its error. -/
noncomputable def arrL (B : Nat → Bool) (E : Nat → Int) : Value := .agg ⟨[.bool (B 0), .int .i64 (E 0), .bool (B 1), .int .i64 (E 1), .bool (B 2), .int .i64 (E 2), .bool (B 3), .int .i64 (E 3), .bool (B 4), .int .i64 (E 4), .bool (B 5), .int .i64 (E 5), .bool (B 6), .int .i64 (E 6), .bool (B 7), .int .i64 (E 7), .bool (B 8), .int .i64 (E 8), .bool (B 9), .int .i64 (E 9), .bool (B 10), .int .i64 (E 10), .bool (B 11), .int .i64 (E 11)]⟩

theorem IX77_0 (B : Nat → Bool) (E : Nat → Int) : aIndex (tabT Try.prog) 89 (arrL B E) (.int .i64 ((0 : Nat) : Int)) = some (.agg #[.bool (B 0), .int .i64 (E 0)]) := by kernel_rfl
theorem IX77_1 (B : Nat → Bool) (E : Nat → Int) : aIndex (tabT Try.prog) 89 (arrL B E) (.int .i64 ((1 : Nat) : Int)) = some (.agg #[.bool (B 1), .int .i64 (E 1)]) := by kernel_rfl
theorem IX77_2 (B : Nat → Bool) (E : Nat → Int) : aIndex (tabT Try.prog) 89 (arrL B E) (.int .i64 ((2 : Nat) : Int)) = some (.agg #[.bool (B 2), .int .i64 (E 2)]) := by kernel_rfl
theorem IX77_3 (B : Nat → Bool) (E : Nat → Int) : aIndex (tabT Try.prog) 89 (arrL B E) (.int .i64 ((3 : Nat) : Int)) = some (.agg #[.bool (B 3), .int .i64 (E 3)]) := by kernel_rfl
theorem IX77_4 (B : Nat → Bool) (E : Nat → Int) : aIndex (tabT Try.prog) 89 (arrL B E) (.int .i64 ((4 : Nat) : Int)) = some (.agg #[.bool (B 4), .int .i64 (E 4)]) := by kernel_rfl
theorem IX77_5 (B : Nat → Bool) (E : Nat → Int) : aIndex (tabT Try.prog) 89 (arrL B E) (.int .i64 ((5 : Nat) : Int)) = some (.agg #[.bool (B 5), .int .i64 (E 5)]) := by kernel_rfl
theorem IX77_6 (B : Nat → Bool) (E : Nat → Int) : aIndex (tabT Try.prog) 89 (arrL B E) (.int .i64 ((6 : Nat) : Int)) = some (.agg #[.bool (B 6), .int .i64 (E 6)]) := by kernel_rfl
theorem IX77_7 (B : Nat → Bool) (E : Nat → Int) : aIndex (tabT Try.prog) 89 (arrL B E) (.int .i64 ((7 : Nat) : Int)) = some (.agg #[.bool (B 7), .int .i64 (E 7)]) := by kernel_rfl
theorem IX77_8 (B : Nat → Bool) (E : Nat → Int) : aIndex (tabT Try.prog) 89 (arrL B E) (.int .i64 ((8 : Nat) : Int)) = some (.agg #[.bool (B 8), .int .i64 (E 8)]) := by kernel_rfl
theorem IX77_9 (B : Nat → Bool) (E : Nat → Int) : aIndex (tabT Try.prog) 89 (arrL B E) (.int .i64 ((9 : Nat) : Int)) = some (.agg #[.bool (B 9), .int .i64 (E 9)]) := by kernel_rfl
theorem IX77_10 (B : Nat → Bool) (E : Nat → Int) : aIndex (tabT Try.prog) 89 (arrL B E) (.int .i64 ((10 : Nat) : Int)) = some (.agg #[.bool (B 10), .int .i64 (E 10)]) := by kernel_rfl
theorem IX77_11 (B : Nat → Bool) (E : Nat → Int) : aIndex (tabT Try.prog) 89 (arrL B E) (.int .i64 ((11 : Nat) : Int)) = some (.agg #[.bool (B 11), .int .i64 (E 11)]) := by kernel_rfl

theorem IX77 (B : Nat → Bool) (E : Nat → Int) (i : Nat) (h : i < 12) : aIndex (tabT Try.prog) 89 (arrL B E) (.int .i64 (i : Int)) = some (.agg #[.bool (B i), .int .i64 (E i)]) := by
  obtain rfl | rfl | rfl | rfl | rfl | rfl | rfl | rfl | rfl | rfl | rfl | rfl : i = 0 ∨ i = 1 ∨ i = 2 ∨ i = 3 ∨ i = 4 ∨ i = 5 ∨ i = 6 ∨ i = 7 ∨ i = 8 ∨ i = 9 ∨ i = 10 ∨ i = 11 := by omega
  · exact IX77_0 B E
  · exact IX77_1 B E
  · exact IX77_2 B E
  · exact IX77_3 B E
  · exact IX77_4 B E
  · exact IX77_5 B E
  · exact IX77_6 B E
  · exact IX77_7 B E
  · exact IX77_8 B E
  · exact IX77_9 B E
  · exact IX77_10 B E
  · exact IX77_11 B E

theorem FA74_0 (i off : Nat) : aFieldAddr (tabT Try.prog) 87 (.pointer (some ⟨i, off, none⟩)) 0 = some (.pointer (some ⟨i, off + 0, none⟩)) := by kernel_rfl
theorem FA74_1 (i off : Nat) : aFieldAddr (tabT Try.prog) 87 (.pointer (some ⟨i, off, none⟩)) 1 = some (.pointer (some ⟨i, off + 1, none⟩)) := by kernel_rfl
theorem ST74 (H : AH) (i off : Nat) (v : Value) : aStore (tabT Try.prog) H 87 (.pointer (some ⟨i, off, none⟩)) v = match lookB H.bs i with
    | some (.cells false cs) => if Nat.beq v.cells.toList.length 2 && Nat.ble (off + v.cells.toList.length) cs.length && v.cells.toList.all cellV then some { H with bs := setB H.bs i (.cells false (putF cs off v.cells.toList)) } else none
    | _ => none := sti (by kernel_rfl) H i off v
theorem AL74 {call : Value → List Value → AH → Option (Value × AH)} {g : Operand → Option Value} {H : AH} {d : Option Tmp} {t : TypeId} {p : String} {a : Array Edge} {gd : Option (Nat × Bool)} : evOp (tabT Try.prog) call ⟨d, .alloc 87, t, p, a, gd⟩ g H = some (.pointer (some ⟨H.next, 0, none⟩), ⟨H.next + 1, (H.next, .cells false [.bool false, .int .i64 0]) :: H.bs⟩) :=
  evOp_evO.trans (eo_alloc (cs := [.bool false, .int .i64 0]) (by kernel_rfl))

/-- The first rule's error that does not hold, from the i-th rule on. -/
noncomputable def firstE (B : Nat → Bool) (E : Nat → Int) : Nat → Nat → Int
  | 0, _ => 0
  | m + 1, i => if B i then firstE B E m (i + 1) else E i

noncomputable def I17 (B : Nat → Bool) (E : Nat → Int) (m : Nat) (A : AF) (_ : AH) : Prop := ∃ (i : Nat), i + m = 12 ∧ firstE B E m i = firstE B E 12 0 ∧ A.tm.n = 79 ∧ A.marks = [] ∧ A.tm.get 69 = arrL B E ∧ A.tm.get 70 = .int .i64 (i : Int)
noncomputable def Q17 (B : Nat → Bool) (E : Nat → Int) (x : AX) (A' : AF) (_ : AH) : Prop := A'.tm.n = 79 ∧ A'.marks = [] ∧ ((x = .exit 0 ∧ firstE B E 12 0 = 0) ∨ (x = .ret ∧ A'.tm.get 2 = .int .i64 (firstE B E 12 0)))

noncomputable def ruleB (s : SV) : Nat → Bool
  | 0 => btw s.p 3 4
  | 1 => decide ((s.n : Int) ≤ 3)
  | 2 => !anyBad s.g s.n
  | 3 => btw s.w 0 4
  | 4 => btw s.d 0 3
  | 5 => btw s.f 0 8
  | 6 => btw s.c 1 4
  | 7 => btw s.m 1 4
  | 8 => btw s.de 0 20
  | 9 => decide (s.plain ≥ 1)
  | 10 => s.reds == 0
  | _ => decide (s.size ≥ wrapI .i64 (wrapI .i64 (wrapI .i64 (s.p * s.full) + 1) + s.de))

noncomputable def ruleE (s : SV) : Nat → Int
  | 1 => 8
  | 9 => 6
  | 10 => s.reds
  | 11 => 6
  | _ => 2

/-- What Check says. -/
noncomputable def SV.err (s : SV) : Int := firstE (ruleB s) (ruleE s) 12 0

theorem L3_71 (s : SV) (H : AH) (h0 : lookB H.bs 0 = some (.ints s.g)) (h1 : lookB H.bs 1 = some (.ints s.h)) : inH L3 (.func (.func 67) #[] #[]) [s.val] H = some (.int .i64 s.reds, H) :=
  inH_hd (orH_l (orH_l (orH_r rfl (orH_r (canH_other rfl) (orH_l (canH_set h0 h1))))))

set_option maxRecDepth 10000 in
set_option maxHeartbeats 4000000 in
theorem check_ev (s : SV) : ∃ H', evFn (tabT Try.prog) (inH L3) 300 kpT 56 Try.f56 [s.val] s.hp = some (.int .i64 s.err, H') := by
  have hp' := L3_71 s
  simp only [SV.val] at hp'
  simp only [evFn, Try.f56, SV.val, SV.hp]
  simp [ec_skip, ec_label, ek_reg, ek_draw, ek_seq, ec_cond, ek_block, ec_loop, ec_exit, ec_ret, ec_scope, ek_nil, ek_op, opK_some, regK_some, seqK_normal, seqK_exit, seqK_ret, blockK_normal, blockK_exit, blockK_ret, evOp, vOp, hOpB, hOpU, hOp, hOpT, aAppendG_tab, aWanted, aYielded, opd, putT, closedV, aBin, intOp, sameK, mapO, joinR, hasAddr, boundOf, pushB, aAlloc, Value.cells, lookB, setB, Nat.beq_eq, tm_n_set, tm_get_set, tm_of_n, tm_of_get, tm_tr_set, tm_tr_of, cellV, putF, appR_eq, takeR_eq, dropR_eq, setR_eq, getR_eq, ↓C75, ↓C76, ↓C77, ↓C79, ↓C17, ↓C18, ↓C22, ↓C71, FA24_0, FA24_1, FA24_2, FA24_3, FA24_4, FA24_5, FA24_6, FA24_7, FA24_8, LD3, LD4, LD22, LD27, LDr, LD24, LEN22, IA22, tkc, cellAt, hp']
  generalize hX : evDrawX _ _ _ _ _ = X
  have hpr : X.map (fun r => (r.1.tm.n, r.1.marks, aLoad (tabT Try.prog) r.2 89 (r.1.tm.get 4))) = some (79, [], some (arrL (ruleB s) (ruleE s))) := by
    rw [← hX]
    kernel_rfl
  clear hX hp'
  simp only [Option.map_eq_some_iff, Prod.mk.injEq] at hpr
  obtain ⟨⟨A1, H1⟩, rfl, hl, hmk, hld⟩ := hpr
  simp only at hl hmk hld
  simp [ec_skip, ec_label, ek_reg, ek_draw, ek_seq, ec_cond, ek_block, ec_loop, ec_exit, ec_ret, ec_scope, ek_nil, ek_op, opK_some, regK_some, seqK_normal, seqK_exit, seqK_ret, blockK_normal, blockK_exit, blockK_ret, evOp, vOp, hOpB, hOpU, hOp, hOpT, aAppendG_tab, aWanted, aYielded, opd, putT, closedV, aBin, intOp, sameK, mapO, joinR, hasAddr, boundOf, pushB, aAlloc, Value.cells, lookB, setB, Nat.beq_eq, tm_n_set, tm_get_set, tm_of_n, tm_of_get, tm_tr_set, tm_tr_of, cellV, putF, appR_eq, takeR_eq, dropR_eq, setR_eq, getR_eq, ↓C75, ↓C76, ↓C77, ↓C79, ↓C17, ↓C18, ↓C22, ↓C71, FA24_0, FA24_1, FA24_2, FA24_3, FA24_4, FA24_5, FA24_6, FA24_7, FA24_8, LD3, LD4, LD22, LD27, LDr, LD24, LEN22, IA22, tkc, cellAt, hl, hmk, hld]
  generalize hr : evLoop _ _ _ _ = r
  obtain ⟨x, A', H', rfl, hl, hmk, hx⟩ := loop_go (Q := Q17 (ruleB s) (ruleE s)) hr (I17 (ruleB s) (ruleE s)) 12 (by omega) ⟨0, by omega, rfl, by simp [tm_n_set, hl], by simp [hmk], by simp [tm_get_set, tm_n_set, hl], by simp [tm_get_set, tm_n_set, hl]⟩ (by
      clear hr
      rintro m A H ⟨i, him, hres, hl, hmk, h69, h70⟩
      simp only [runC]
      cases m with
      | zero =>
        have hi : ¬ (i : Int) < 12 := by omega
        rw [firstE] at hres
        simp [ec_skip, ec_label, ek_reg, ek_draw, ek_seq, ec_cond, ek_block, ec_loop, ec_exit, ec_ret, ec_scope, ek_nil, ek_op, opK_some, regK_some, seqK_normal, seqK_exit, seqK_ret, blockK_normal, blockK_exit, blockK_ret, evOp, vOp, hOpB, hOpU, hOp, hOpT, aAppendG_tab, aWanted, aYielded, opd, putT, closedV, aBin, intOp, sameK, mapO, joinR, hasAddr, boundOf, pushB, aAlloc, Value.cells, lookB, setB, Nat.beq_eq, tm_n_set, tm_get_set, tm_of_n, tm_of_get, tm_tr_set, tm_tr_of, cellV, putF, appR_eq, takeR_eq, dropR_eq, setR_eq, getR_eq, ↓C75, ↓C76, ↓C77, ↓C79, ↓C17, ↓C18, ↓C22, ↓C71, FA24_0, FA24_1, FA24_2, FA24_3, FA24_4, FA24_5, FA24_6, FA24_7, FA24_8, LD3, LD4, LD22, LD27, LDr, LD24, LEN22, IA22, tkc, cellAt, hl, hmk, h69, h70, hi]
        exact .inr ⟨by simp, by simp [tm_n_set, hl], rfl, .inl ⟨rfl, hres.symm⟩⟩
      | succ m =>
        have hi : (i : Int) < 12 := by omega
        have hix := IX77 (ruleB s) (ruleE s) i (by omega)
        have hw : wrapI .i64 ((i : Int) + 1) = ((i + 1 : Nat) : Int) := by rw [wrapI_small (by omega) (by omega)]; rfl
        rw [firstE] at hres
        cases c1 : ruleB s i with
        | true =>
          simp only [c1, if_true] at hres
          simp only [c1] at hix
          simp [ec_skip, ec_label, ek_reg, ek_draw, ek_seq, ec_cond, ek_block, ec_loop, ec_exit, ec_ret, ec_scope, ek_nil, ek_op, opK_some, regK_some, seqK_normal, seqK_exit, seqK_ret, blockK_normal, blockK_exit, blockK_ret, evOp, vOp, hOpB, hOpU, hOp, hOpT, aAppendG_tab, aWanted, aYielded, opd, putT, closedV, aBin, intOp, sameK, mapO, joinR, hasAddr, boundOf, pushB, aAlloc, Value.cells, lookB, setB, Nat.beq_eq, tm_n_set, tm_get_set, tm_of_n, tm_of_get, tm_tr_set, tm_tr_of, cellV, putF, appR_eq, takeR_eq, dropR_eq, setR_eq, getR_eq, ↓C75, ↓C76, ↓C77, ↓C79, ↓C17, ↓C18, ↓C22, ↓C71, FA24_0, FA24_1, FA24_2, FA24_3, FA24_4, FA24_5, FA24_6, FA24_7, FA24_8, LD3, LD4, LD22, LD27, LDr, LD24, LEN22, IA22, tkc, cellAt, ↓AL74, ST74, FA74_0, FA74_1, hl, hmk, h69, h70, hi, hix]
          refine .inl ⟨rfl, m, rfl, i + 1, by omega, hres, ?_⟩
          simp [tm_get_set, tm_n_set, hl, h69, h70, hw]
        | false =>
          simp only [c1, Bool.false_eq_true, if_false] at hres
          simp only [c1] at hix
          simp [ec_skip, ec_label, ek_reg, ek_draw, ek_seq, ec_cond, ek_block, ec_loop, ec_exit, ec_ret, ec_scope, ek_nil, ek_op, opK_some, regK_some, seqK_normal, seqK_exit, seqK_ret, blockK_normal, blockK_exit, blockK_ret, evOp, vOp, hOpB, hOpU, hOp, hOpT, aAppendG_tab, aWanted, aYielded, opd, putT, closedV, aBin, intOp, sameK, mapO, joinR, hasAddr, boundOf, pushB, aAlloc, Value.cells, lookB, setB, Nat.beq_eq, tm_n_set, tm_get_set, tm_of_n, tm_of_get, tm_tr_set, tm_tr_of, cellV, putF, appR_eq, takeR_eq, dropR_eq, setR_eq, getR_eq, ↓C75, ↓C76, ↓C77, ↓C79, ↓C17, ↓C18, ↓C22, ↓C71, FA24_0, FA24_1, FA24_2, FA24_3, FA24_4, FA24_5, FA24_6, FA24_7, FA24_8, LD3, LD4, LD22, LD27, LDr, LD24, LEN22, IA22, tkc, cellAt, ↓AL74, ST74, FA74_0, FA74_1, hl, hmk, h69, h70, hi, hix]
          exact .inr ⟨by simp, by simp [tm_n_set, hl], rfl, .inr ⟨rfl, by simp [tm_get_set, tm_n_set, hl, hres]⟩⟩)
  rcases hx with ⟨rfl, hx⟩ | ⟨rfl, hx⟩
  · simp [ec_skip, ec_label, ek_reg, ek_draw, ek_seq, ec_cond, ek_block, ec_loop, ec_exit, ec_ret, ec_scope, ek_nil, ek_op, opK_some, regK_some, seqK_normal, seqK_exit, seqK_ret, blockK_normal, blockK_exit, blockK_ret, evOp, vOp, hOpB, hOpU, hOp, hOpT, aAppendG_tab, aWanted, aYielded, opd, putT, closedV, aBin, intOp, sameK, mapO, joinR, hasAddr, boundOf, pushB, aAlloc, Value.cells, lookB, setB, Nat.beq_eq, tm_n_set, tm_get_set, tm_of_n, tm_of_get, tm_tr_set, tm_tr_of, cellV, putF, appR_eq, takeR_eq, dropR_eq, setR_eq, getR_eq, ↓C75, ↓C76, ↓C77, ↓C79, ↓C17, ↓C18, ↓C22, ↓C71, FA24_0, FA24_1, FA24_2, FA24_3, FA24_4, FA24_5, FA24_6, FA24_7, FA24_8, LD3, LD4, LD22, LD27, LDr, LD24, LEN22, IA22, tkc, cellAt, finF, takeM, resV, hl, hmk, hx, SV.err]
  · simp [ec_skip, ec_label, ek_reg, ek_draw, ek_seq, ec_cond, ek_block, ec_loop, ec_exit, ec_ret, ec_scope, ek_nil, ek_op, opK_some, regK_some, seqK_normal, seqK_exit, seqK_ret, blockK_normal, blockK_exit, blockK_ret, evOp, vOp, hOpB, hOpU, hOp, hOpT, aAppendG_tab, aWanted, aYielded, opd, putT, closedV, aBin, intOp, sameK, mapO, joinR, hasAddr, boundOf, pushB, aAlloc, Value.cells, lookB, setB, Nat.beq_eq, tm_n_set, tm_get_set, tm_of_n, tm_of_get, tm_tr_set, tm_tr_of, cellV, putF, appR_eq, takeR_eq, dropR_eq, setR_eq, getR_eq, ↓C75, ↓C76, ↓C77, ↓C79, ↓C17, ↓C18, ↓C22, ↓C71, FA24_0, FA24_1, FA24_2, FA24_3, FA24_4, FA24_5, FA24_6, FA24_7, FA24_8, LD3, LD4, LD22, LD27, LDr, LD24, LEN22, IA22, tkc, cellAt, finF, takeM, resV, hl, hmk, hx, SV.err]


end Go.Proofs.Ytdbpemmhkfbegaa
