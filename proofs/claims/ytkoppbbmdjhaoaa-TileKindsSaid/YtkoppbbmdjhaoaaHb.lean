/-
  What is proved: what tile.Check answers, for every set with lists of at most 200 numbers.
-/
import Derived.Test.YtkoppbbmdjhaoaaHa
namespace Go.Proofs.Ytkoppbbmdjhaoaa
open Go.RowKit
set_option linter.unusedSimpArgs false

/-- The list of Check's rules, by whether each holds and by its error. -/
def arrL (B : Nat → Bool) (E : Nat → Int) : Value := .agg ⟨[.bool (B 0), .int .i64 (E 0), .bool (B 1), .int .i64 (E 1), .bool (B 2), .int .i64 (E 2), .bool (B 3), .int .i64 (E 3), .bool (B 4), .int .i64 (E 4), .bool (B 5), .int .i64 (E 5), .bool (B 6), .int .i64 (E 6), .bool (B 7), .int .i64 (E 7), .bool (B 8), .int .i64 (E 8), .bool (B 9), .int .i64 (E 9), .bool (B 10), .int .i64 (E 10), .bool (B 11), .int .i64 (E 11)]⟩

theorem IX77_0 (B : Nat → Bool) (E : Nat → Int) : aIndex (tabT Try.prog) 77 (arrL B E) (.int .i64 ((0 : Nat) : Int)) = some (.agg #[.bool (B 0), .int .i64 (E 0)]) := by kernel_rfl
theorem IX77_1 (B : Nat → Bool) (E : Nat → Int) : aIndex (tabT Try.prog) 77 (arrL B E) (.int .i64 ((1 : Nat) : Int)) = some (.agg #[.bool (B 1), .int .i64 (E 1)]) := by kernel_rfl
theorem IX77_2 (B : Nat → Bool) (E : Nat → Int) : aIndex (tabT Try.prog) 77 (arrL B E) (.int .i64 ((2 : Nat) : Int)) = some (.agg #[.bool (B 2), .int .i64 (E 2)]) := by kernel_rfl
theorem IX77_3 (B : Nat → Bool) (E : Nat → Int) : aIndex (tabT Try.prog) 77 (arrL B E) (.int .i64 ((3 : Nat) : Int)) = some (.agg #[.bool (B 3), .int .i64 (E 3)]) := by kernel_rfl
theorem IX77_4 (B : Nat → Bool) (E : Nat → Int) : aIndex (tabT Try.prog) 77 (arrL B E) (.int .i64 ((4 : Nat) : Int)) = some (.agg #[.bool (B 4), .int .i64 (E 4)]) := by kernel_rfl
theorem IX77_5 (B : Nat → Bool) (E : Nat → Int) : aIndex (tabT Try.prog) 77 (arrL B E) (.int .i64 ((5 : Nat) : Int)) = some (.agg #[.bool (B 5), .int .i64 (E 5)]) := by kernel_rfl
theorem IX77_6 (B : Nat → Bool) (E : Nat → Int) : aIndex (tabT Try.prog) 77 (arrL B E) (.int .i64 ((6 : Nat) : Int)) = some (.agg #[.bool (B 6), .int .i64 (E 6)]) := by kernel_rfl
theorem IX77_7 (B : Nat → Bool) (E : Nat → Int) : aIndex (tabT Try.prog) 77 (arrL B E) (.int .i64 ((7 : Nat) : Int)) = some (.agg #[.bool (B 7), .int .i64 (E 7)]) := by kernel_rfl
theorem IX77_8 (B : Nat → Bool) (E : Nat → Int) : aIndex (tabT Try.prog) 77 (arrL B E) (.int .i64 ((8 : Nat) : Int)) = some (.agg #[.bool (B 8), .int .i64 (E 8)]) := by kernel_rfl
theorem IX77_9 (B : Nat → Bool) (E : Nat → Int) : aIndex (tabT Try.prog) 77 (arrL B E) (.int .i64 ((9 : Nat) : Int)) = some (.agg #[.bool (B 9), .int .i64 (E 9)]) := by kernel_rfl
theorem IX77_10 (B : Nat → Bool) (E : Nat → Int) : aIndex (tabT Try.prog) 77 (arrL B E) (.int .i64 ((10 : Nat) : Int)) = some (.agg #[.bool (B 10), .int .i64 (E 10)]) := by kernel_rfl
theorem IX77_11 (B : Nat → Bool) (E : Nat → Int) : aIndex (tabT Try.prog) 77 (arrL B E) (.int .i64 ((11 : Nat) : Int)) = some (.agg #[.bool (B 11), .int .i64 (E 11)]) := by kernel_rfl

theorem IX77 (B : Nat → Bool) (E : Nat → Int) (i : Nat) (h : i < 12) : aIndex (tabT Try.prog) 77 (arrL B E) (.int .i64 (i : Int)) = some (.agg #[.bool (B i), .int .i64 (E i)]) := by
  obtain rfl | rfl | rfl | rfl | rfl | rfl | rfl | rfl | rfl | rfl | rfl | rfl : i = 0 ∨ i = 1 ∨ i = 2 ∨ i = 3 ∨ i = 4 ∨ i = 5 ∨ i = 6 ∨ i = 7 ∨ i = 8 ∨ i = 9 ∨ i = 10 ∨ i = 11 := by omega
  · exact IX77_0 B E
  · exact IX77_1 B E
  · exact IX77_2 B E
  · exact IX77_3 B E
  · exact IX77_4 B E
  · exact IX77_5 B E
  · exact IX77_6 B E
  · exact IX77_7 B E
  · exact IX77_8 B E
  · exact IX77_9 B E
  · exact IX77_10 B E
  · exact IX77_11 B E

theorem A74 : (tabT Try.prog 74).map (fun y => (y.zero.cells.toList, y.size)) = some ([.bool false, .int .i64 0], 2) := by kernel_rfl
theorem FA74_0 (i off : Nat) : aFieldAddr (tabT Try.prog) 74 (.pointer (some ⟨i, off, none⟩)) 0 = some (.pointer (some ⟨i, off + 0, none⟩)) := by kernel_rfl
theorem FA74_1 (i off : Nat) : aFieldAddr (tabT Try.prog) 74 (.pointer (some ⟨i, off, none⟩)) 1 = some (.pointer (some ⟨i, off + 1, none⟩)) := by kernel_rfl
theorem Z74 : (tabT Try.prog 74).map (fun y => (y.size, y.zero)) = some (2, .agg #[.bool false, .int .i64 0]) := by kernel_rfl
theorem T74 : ∃ b d, tabT Try.prog 74 = some ⟨2, b, .agg #[.bool false, .int .i64 0], d⟩ := by
  have h := Z74
  cases ht : tabT Try.prog 74 with
  | none => rw [ht] at h; cases h
  | some y =>
    rw [ht] at h
    cases y
    simp only [Option.map_some, Option.some.injEq, Prod.mk.injEq] at h
    obtain ⟨rfl, rfl⟩ := h
    exact ⟨_, _, rfl⟩
theorem ST74 (i : Nat) (x y : Value) (b : Bool) (e : Int) (bs : List (Nat × ABlk)) : aStore (tabT Try.prog) ⟨i + 1, (i, .cells false [x, y]) :: bs⟩ 74 (.pointer (some ⟨i, 0, none⟩)) (.agg #[.bool b, .int .i64 e]) = some ⟨i + 1, (i, .cells false [.bool b, .int .i64 e]) :: bs⟩ := by
  have h := A74
  cases ht : tabT Try.prog 74 with
  | none => rw [ht] at h; cases h
  | some y =>
    rw [ht] at h
    simp only [Option.map_some, Option.some.injEq, Prod.mk.injEq] at h
    simp [aStore, ht, lookB, h.2, Value.cells, cellV, setB, putCells]

/-- The first rule's error that does not hold, from the i-th rule on. -/
def firstE (B : Nat → Bool) (E : Nat → Int) : Nat → Nat → Int
  | 0, _ => 0
  | m + 1, i => if B i then firstE B E m (i + 1) else E i

def I17 (B : Nat → Bool) (E : Nat → Int) (m : Nat) (A : AF) (_ : AH) : Prop := ∃ (i : Nat), i + m = 12 ∧ firstE B E m i = firstE B E 12 0 ∧ A.tm.length = 79 ∧ A.marks = [] ∧ getT A.tm 69 = arrL B E ∧ getT A.tm 70 = .int .i64 (i : Int)
def Q17 (B : Nat → Bool) (E : Nat → Int) (x : AX) (A' : AF) (_ : AH) : Prop := A'.tm.length = 79 ∧ A'.marks = [] ∧ ((x = .exit 0 ∧ firstE B E 12 0 = 0) ∨ (x = .ret ∧ getT A'.tm 2 = .int .i64 (firstE B E 12 0)))

def ruleB (s : SV) : Nat → Bool
  | 0 => btw s.p 3 4
  | 1 => decide ((s.n : Int) ≤ 3)
  | 2 => !anyBad s.g s.n
  | 3 => btw s.w 0 4
  | 4 => btw s.d 0 3
  | 5 => btw s.f 0 8
  | 6 => btw s.c 1 4
  | 7 => btw s.m 1 4
  | 8 => btw s.de 0 20
  | 9 => decide (s.plain ≥ 1)
  | 10 => s.reds == 0
  | _ => decide (s.size ≥ wrapI .i64 (wrapI .i64 (wrapI .i64 (s.p * s.full) + 1) + s.de))

def ruleE (s : SV) : Nat → Int
  | 1 => 8
  | 9 => 6
  | 10 => s.reds
  | 11 => 6
  | _ => 2

/-- What Check says. -/
def SV.err (s : SV) : Int := firstE (ruleB s) (ruleE s) 12 0

theorem L3_71 (s : SV) (H : AH) (h0 : lookB H.bs 0 = some (.ints s.g)) (h1 : lookB H.bs 1 = some (.ints s.h)) : inH L3 (.func (.func 71) #[] #[]) [s.val] H = some (.int .i64 s.reds, H) :=
  inH_hd (orH_l (orH_l (orH_r rfl (orH_r (canH_other rfl) (orH_l (canH_set h0 h1))))))

set_option maxRecDepth 10000 in
set_option maxHeartbeats 4000000 in
theorem check_ev (s : SV) : ∃ H', evFn (tabT Try.prog) (inH L3) 300 kpT 17 Try.f17 [s.val] s.hp = some (.int .i64 s.err, H') := by
  obtain ⟨_, _, t74⟩ := T74
  have hp' := L3_71 s
  simp only [SV.val] at hp'
  simp only [evFn, Try.f17, SV.val, SV.hp]
  simp [ec_skip, ec_label, ec_reg, ec_draw, ec_seq, ec_cond, ec_block, ec_loop, ec_exit, ec_ret, evSeq, evOp, vOp, hOp, aWanted, aYielded, opd, putT, closedV, undef, aBin, intOp, sameK, mapO, joinR, hasAddr, pushB, aAlloc, Value.cells, T3, T4, T22, FA24_0, FA24_1, FA24_2, FA24_3, FA24_4, FA24_5, FA24_6, FA24_7, FA24_8, LD3, LD4, LD22, LD27, LDr, LD24, LEN22, IA22, cellAt, lookB, Nat.beq_eq, getT, setT, takeCells, hp']
  generalize hX : evDraw _ _ _ _ _ = X
  have hpr : X.map (fun r => (r.1.tm.length, r.1.marks, aLoad (tabT Try.prog) r.2 77 (getT r.1.tm 4))) = some (79, [], some (arrL (ruleB s) (ruleE s))) := by
    rw [← hX]
    kernel_rfl
  clear hX hp'
  simp only [Option.map_eq_some_iff, Prod.mk.injEq] at hpr
  obtain ⟨⟨A1, H1⟩, rfl, hl, hmk, hld⟩ := hpr
  simp only at hl hmk hld
  simp [ec_skip, ec_label, ec_reg, ec_draw, ec_seq, ec_cond, ec_block, ec_loop, ec_exit, ec_ret, evSeq, evOp, vOp, hOp, aWanted, aYielded, opd, putT, closedV, undef, aBin, intOp, sameK, mapO, joinR, hasAddr, pushB, aAlloc, Value.cells, T3, T4, T22, FA24_0, FA24_1, FA24_2, FA24_3, FA24_4, FA24_5, FA24_6, FA24_7, FA24_8, LD3, LD4, LD22, LD27, LDr, LD24, LEN22, IA22, cellAt, lookB, Nat.beq_eq, getT_set, setT_length, hl, hmk, hld]
  generalize hr : evLoop _ _ _ _ = r
  obtain ⟨x, A', H', rfl, hl, hmk, hx⟩ := loop_go (Q := Q17 (ruleB s) (ruleE s)) hr (I17 (ruleB s) (ruleE s)) 12 (by omega) ⟨0, by omega, rfl, by simp [setT_length, hl], by simp [hmk], by simp [getT_set, setT_length, hl], by simp [getT_set, setT_length, hl]⟩ (by
      clear hr
      rintro m A H ⟨i, him, hres, hl, hmk, h69, h70⟩
      simp only [runC]
      cases m with
      | zero =>
        have hi : ¬ (i : Int) < 12 := by omega
        rw [firstE] at hres
        simp [ec_skip, ec_label, ec_reg, ec_draw, ec_seq, ec_cond, ec_block, ec_loop, ec_exit, ec_ret, evSeq, evOp, vOp, hOp, aWanted, aYielded, opd, putT, closedV, undef, aBin, intOp, sameK, mapO, joinR, hasAddr, pushB, aAlloc, Value.cells, T3, T4, T22, FA24_0, FA24_1, FA24_2, FA24_3, FA24_4, FA24_5, FA24_6, FA24_7, FA24_8, LD3, LD4, LD22, LD27, LDr, LD24, LEN22, IA22, cellAt, lookB, Nat.beq_eq, getT_set, setT_length, hl, hmk, h69, h70, hi]
        exact .inr ⟨by simp, by simp [setT_length, hl], rfl, .inl ⟨rfl, hres.symm⟩⟩
      | succ m =>
        have hi : (i : Int) < 12 := by omega
        have hix := IX77 (ruleB s) (ruleE s) i (by omega)
        have hw : wrapI .i64 ((i : Int) + 1) = ((i + 1 : Nat) : Int) := by rw [wrapI_small (by omega) (by omega)]; rfl
        rw [firstE] at hres
        cases c1 : ruleB s i with
        | true =>
          simp only [c1, if_true] at hres
          simp only [c1] at hix
          simp [ec_skip, ec_label, ec_reg, ec_draw, ec_seq, ec_cond, ec_block, ec_loop, ec_exit, ec_ret, evSeq, evOp, vOp, hOp, aWanted, aYielded, opd, putT, closedV, undef, aBin, intOp, sameK, mapO, joinR, hasAddr, pushB, aAlloc, Value.cells, T3, T4, T22, FA24_0, FA24_1, FA24_2, FA24_3, FA24_4, FA24_5, FA24_6, FA24_7, FA24_8, LD3, LD4, LD22, LD27, LDr, LD24, LEN22, IA22, cellAt, lookB, Nat.beq_eq, t74, ST74, FA74_0, FA74_1, getT_set, setT_length, hl, hmk, h69, h70, hi, hix]
          refine .inl ⟨rfl, m, rfl, i + 1, by omega, hres, ?_⟩
          simp [getT_set, setT_length, hl, h69, h70, hw]
        | false =>
          simp only [c1, Bool.false_eq_true, if_false] at hres
          simp only [c1] at hix
          simp [ec_skip, ec_label, ec_reg, ec_draw, ec_seq, ec_cond, ec_block, ec_loop, ec_exit, ec_ret, evSeq, evOp, vOp, hOp, aWanted, aYielded, opd, putT, closedV, undef, aBin, intOp, sameK, mapO, joinR, hasAddr, pushB, aAlloc, Value.cells, T3, T4, T22, FA24_0, FA24_1, FA24_2, FA24_3, FA24_4, FA24_5, FA24_6, FA24_7, FA24_8, LD3, LD4, LD22, LD27, LDr, LD24, LEN22, IA22, cellAt, lookB, Nat.beq_eq, t74, ST74, FA74_0, FA74_1, getT_set, setT_length, hl, hmk, h69, h70, hi, hix]
          exact .inr ⟨by simp, by simp [setT_length, hl], rfl, .inr ⟨rfl, by simp [getT_set, setT_length, hl, hres]⟩⟩)
  rcases hx with ⟨rfl, hx⟩ | ⟨rfl, hx⟩
  · simp [ec_skip, ec_label, ec_reg, ec_draw, ec_seq, ec_cond, ec_block, ec_loop, ec_exit, ec_ret, evSeq, evOp, vOp, hOp, aWanted, aYielded, opd, putT, closedV, undef, aBin, intOp, sameK, mapO, joinR, hasAddr, pushB, aAlloc, Value.cells, T3, T4, T22, FA24_0, FA24_1, FA24_2, FA24_3, FA24_4, FA24_5, FA24_6, FA24_7, FA24_8, LD3, LD4, LD22, LD27, LDr, LD24, LEN22, IA22, cellAt, lookB, Nat.beq_eq, finF, takeM, resV, getT_set, setT_length, hl, hmk, hx, SV.err]
  · simp [ec_skip, ec_label, ec_reg, ec_draw, ec_seq, ec_cond, ec_block, ec_loop, ec_exit, ec_ret, evSeq, evOp, vOp, hOp, aWanted, aYielded, opd, putT, closedV, undef, aBin, intOp, sameK, mapO, joinR, hasAddr, pushB, aAlloc, Value.cells, T3, T4, T22, FA24_0, FA24_1, FA24_2, FA24_3, FA24_4, FA24_5, FA24_6, FA24_7, FA24_8, LD3, LD4, LD22, LD27, LDr, LD24, LEN22, IA22, cellAt, lookB, Nat.beq_eq, finF, takeM, resV, getT_set, setT_length, hl, hmk, hx, SV.err]

end Go.Proofs.Ytkoppbbmdjhaoaa
