/-
  What is proved: what tile.Cut and the document's own Cut answer, for every set, dealer and dice: the same.
-/
import Derived.Test.YtkoppbbmdjhaoaaHe
namespace Go.Proofs.Ytkoppbbmdjhaoaa
open Go.RowKit
set_option linter.unusedSimpArgs false

theorem cerr_zero {v : DV} (h : v.cerr = 0) : v.s.err = 0 ∧ v.s.p ≠ 0 ∧ v.s.size ≠ 0 ∧ (v.q : Int) ≠ 0 ∧ (v.q : Int) ≤ 4 ∧ btw v.dl 0 (wrapI .i64 (v.s.p - 1)) = true ∧ dieBad v.z v.q 0 = false := by
  unfold DV.cerr at h
  split at h
  · rename_i he
    obtain ⟨h1, _, _, _, h2⟩ := err_zero he
    split at h
    · rename_i hb
      split at h
      · cases h
      · rename_i hq
        split at h
        · cases h
        · split at h
          · cases h
          · rename_i hd
            exact ⟨he, by omega, by omega, hq, by omega, hb, by simpa using hd⟩
    · cases h
  · rename_i hn
    exact absurd h hn

def I54 (v : DV) (m : Nat) (A : AF) (H : AH) : Prop := ∃ (i : Nat) (acc : Int), i + m = v.q ∧ sumG v.z m i acc = v.sum ∧ A.tm.length = 51 ∧ A.marks = [] ∧ getT A.tm 23 = .int .i64 (i : Int) ∧ getT A.tm 22 = .int .i64 v.q ∧ getT A.tm 21 = .slice (some ⟨2, 0, some 1⟩) v.q 0 ∧ getT A.tm 9 = .int .i64 acc ∧ getT A.tm 1 = .int .i64 v.dl ∧ getT A.tm 3 = .pointer (some ⟨3, 0, none⟩) ∧ H = v.bx
def Q54 (v : DV) (x : AX) (A' : AF) (H : AH) : Prop := x = .exit 0 ∧ A'.tm.length = 51 ∧ A'.marks = [] ∧ H = v.bx ∧ getT A'.tm 9 = .int .i64 v.sum ∧ getT A'.tm 1 = .int .i64 v.dl ∧ getT A'.tm 3 = .pointer (some ⟨3, 0, none⟩)

set_option maxRecDepth 10000 in
set_option maxHeartbeats 8000000 in
theorem cut_ev (call : Value → List Value → AH → Option (Value × AH)) (hc : ∀ (v : DV) (H : AH), lookB H.bs 0 = some (.ints v.s.g) → lookB H.bs 1 = some (.ints v.s.h) → lookB H.bs 2 = some (.ints v.z) → call (.func (.func 102) #[] #[]) v.args H = some (.int .i64 v.cerr, H)) (hz : ∀ (s : SV) (H : AH), lookB H.bs 0 = some (.ints s.g) → lookB H.bs 1 = some (.ints s.h) → call (.func (.func 76) #[] #[]) [s.val] H = some (.int .i64 s.size, H)) (v : DV) (hq : v.q ≤ 200) : ∃ H', evFn (tabT Try.prog) call 300 kpT 54 Try.f54 v.args v.hp = some (v.cut, H') := by
  have hc' := hc v
  have hz' := hz v.s
  simp only [SV.val, DV.args] at hc' hz'
  simp only [evFn, Try.f54, DV.args, SV.val, DV.hp]
  by_cases c1 : v.cerr = 0
  rotate_left
  · have c1' : (v.cerr != 0) = true := by simpa using c1
    simp [ec_skip, ec_label, ek_reg, ek_draw, ek_seq, ec_cond, ek_block, ec_loop, ec_exit, ec_ret, ek_nil, ek_op, opK_some, regK_some, seqK_normal, seqK_exit, seqK_ret, blockK_normal, blockK_exit, blockK_ret, evOp, vOp, hOp, aWanted, aY, boolOf, opd, putT, closedV, undef, aBin, intOp, sameK, mapO, joinR, hasAddr, pushB, aAlloc, Value.cells, T3, T4, T22, FA24_0, FA24_1, FA24_2, FA24_3, FA24_4, FA24_5, FA24_6, FA24_7, FA24_8, LD3, LD4, LD22, LD27, LDr, LD24, LEN22, IA22, cellAt, lookB, Nat.beq_eq, takeCells, getT, setT, finF, takeM, resV, getT_set, setT_length, hc', c1, c1', DV.cut]
  obtain ⟨_, hp0, hs0, _⟩ := cerr_zero c1
  simp [ec_skip, ec_label, ek_reg, ek_draw, ek_seq, ec_cond, ek_block, ec_loop, ec_exit, ec_ret, ek_nil, ek_op, opK_some, regK_some, seqK_normal, seqK_exit, seqK_ret, blockK_normal, blockK_exit, blockK_ret, evOp, vOp, hOp, aWanted, aY, boolOf, opd, putT, closedV, undef, aBin, intOp, sameK, mapO, joinR, hasAddr, pushB, aAlloc, Value.cells, T3, T4, T22, FA24_0, FA24_1, FA24_2, FA24_3, FA24_4, FA24_5, FA24_6, FA24_7, FA24_8, LD3, LD4, LD22, LD27, LDr, LD24, LEN22, IA22, cellAt, lookB, Nat.beq_eq, takeCells, getT, setT, finF, takeM, resV, getT_set, setT_length, hc', c1]
  generalize hr : evLoop _ _ _ _ = r
  obtain ⟨x, A', H', rfl, rfl, hl, hmk, rfl, h9, h1, h3⟩ := loop_go (Q := Q54 v) hr (I54 v) v.q (by omega) ⟨0, 0, by omega, rfl, rfl, rfl, rfl, rfl, rfl, rfl, rfl, rfl, rfl⟩ (by
      clear hr
      rintro m A H ⟨i, acc, him, hsum, hl, hmk, h23, h22, h21, h9, h1, h3, rfl⟩
      simp only [runC]
      cases m with
      | zero =>
        have hi : ¬ i < v.q := by omega
        simp only [sumG] at hsum
        simp [ec_skip, ec_label, ek_reg, ek_draw, ek_seq, ec_cond, ek_block, ec_loop, ec_exit, ec_ret, ek_nil, ek_op, opK_some, regK_some, seqK_normal, seqK_exit, seqK_ret, blockK_normal, blockK_exit, blockK_ret, evOp, vOp, hOp, aWanted, aY, boolOf, opd, putT, closedV, undef, aBin, intOp, sameK, mapO, joinR, hasAddr, pushB, aAlloc, Value.cells, T3, T4, T22, FA24_0, FA24_1, FA24_2, FA24_3, FA24_4, FA24_5, FA24_6, FA24_7, FA24_8, LD3, LD4, LD22, LD27, LDr, LD24, LEN22, IA22, cellAt, lookB, Nat.beq_eq, takeCells, DV.bx, getT_set, setT_length, hl, hmk, h23, h22, h21, h9, hi]
        exact .inr ⟨by simp, rfl, by simp [setT_length, hl], rfl, rfl, by simp [getT_set, setT_length, hl, h9, hsum], by simp [getT_set, setT_length, hl, h1], by simp [getT_set, setT_length, hl, h3]⟩
      | succ m =>
        have hi : i < v.q := by omega
        have hw : wrapI .i64 ((i : Int) + 1) = ((i + 1 : Nat) : Int) := by rw [wrapI_small (by omega) (by omega)]; rfl
        simp [ec_skip, ec_label, ek_reg, ek_draw, ek_seq, ec_cond, ek_block, ec_loop, ec_exit, ec_ret, ek_nil, ek_op, opK_some, regK_some, seqK_normal, seqK_exit, seqK_ret, blockK_normal, blockK_exit, blockK_ret, evOp, vOp, hOp, aWanted, aY, boolOf, opd, putT, closedV, undef, aBin, intOp, sameK, mapO, joinR, hasAddr, pushB, aAlloc, Value.cells, T3, T4, T22, FA24_0, FA24_1, FA24_2, FA24_3, FA24_4, FA24_5, FA24_6, FA24_7, FA24_8, LD3, LD4, LD22, LD27, LDr, LD24, LEN22, IA22, cellAt, lookB, Nat.beq_eq, takeCells, DV.bx, getT_set, setT_length, hl, hmk, h23, h22, h21, h9, hi]
        refine .inl ⟨rfl, m, rfl, i + 1, wrapI .i64 (acc + v.z i), by omega, hsum, ?_⟩
        simp [DV.bx, getT_set, setT_length, hl, h23, h22, h21, h9, h1, h3, hw])
  clear hr
  simp [ec_skip, ec_label, ek_reg, ek_draw, ek_seq, ec_cond, ek_block, ec_loop, ec_exit, ec_ret, ek_nil, ek_op, opK_some, regK_some, seqK_normal, seqK_exit, seqK_ret, blockK_normal, blockK_exit, blockK_ret, evOp, vOp, hOp, aWanted, aY, boolOf, opd, putT, closedV, undef, aBin, intOp, sameK, mapO, joinR, hasAddr, pushB, aAlloc, Value.cells, T3, T4, T22, FA24_0, FA24_1, FA24_2, FA24_3, FA24_4, FA24_5, FA24_6, FA24_7, FA24_8, LD3, LD4, LD22, LD27, LDr, LD24, LEN22, IA22, cellAt, lookB, Nat.beq_eq, takeCells, DV.bx, finF, takeM, resV, getT_set, setT_length, hl, hmk, h9, h1, h3, hz', hp0, hs0, c1, DV.cut, DV.cval]

def I55 (v : DV) (m : Nat) (A : AF) (H : AH) : Prop := ∃ (i : Nat) (acc : Int), i + m = v.q ∧ sumG v.z m i acc = v.sum ∧ dieBad v.z m i = dieBad v.z v.q 0 ∧ A.tm.length = 68 ∧ A.marks = [] ∧ getT A.tm 10 = .int .i64 (i : Int) ∧ getT A.tm 2 = .slice (some ⟨2, 0, some 1⟩) v.q 0 ∧ getT A.tm 9 = .int .i64 acc ∧ getT A.tm 1 = .int .i64 v.dl ∧ getT A.tm 3 = .pointer (some ⟨3, 0, none⟩) ∧ H = v.bx
def Q55 (v : DV) (x : AX) (A' : AF) (H : AH) : Prop := A'.tm.length = 68 ∧ A'.marks = [] ∧ H = v.bx ∧ ((x = .exit 0 ∧ dieBad v.z v.q 0 = false ∧ getT A'.tm 9 = .int .i64 v.sum ∧ getT A'.tm 1 = .int .i64 v.dl ∧ getT A'.tm 3 = .pointer (some ⟨3, 0, none⟩)) ∨ (x = .ret ∧ dieBad v.z v.q 0 = true ∧ getT A'.tm 6 = .int .i64 0 ∧ getT A'.tm 7 = .int .i64 2))

def P55 (v : DV) (r : List DR × Nat) : Prop := r.2 = 4 ∧ wheap v.bx.bs r.1 = v.bx.bs ∧ ∀ tm, tv tm all1 r.1 11 = .int .i64 v.s.size ∧ tv tm all1 r.1 12 = .int .i64 ((wrapI .i64 (wrapI .i64 (v.dl + v.sum) - 1)).tmod v.s.p) ∧ tv tm all1 r.1 9 = getT tm 9 ∧ tv tm all1 r.1 3 = getT tm 3

set_option maxRecDepth 10000 in
set_option maxHeartbeats 8000000 in
theorem rcut_ev (call : Value → List Value → AH → Option (Value × AH)) (hc : ∀ (s : SV) (H : AH), lookB H.bs 0 = some (.ints s.g) → lookB H.bs 1 = some (.ints s.h) → call (.func (.func 18) #[] #[]) [s.val] H = some (.int .i64 s.err, H)) (hz : ∀ (s : SV) (H : AH), lookB H.bs 0 = some (.ints s.g) → lookB H.bs 1 = some (.ints s.h) → call (.func (.func 22) #[] #[]) [s.val] H = some (.int .i64 s.rsize, H)) (hb : ∀ (n l m : Int) (H : AH), call (.func (.func 78) #[] #[]) [.int .i64 n, .int .i64 l, .int .i64 m] H = some (.bool (btw n l m), H)) (v : DV) (hq : v.q ≤ 200) : ∃ H', evFn (tabT Try.prog) call 300 kpT 55 Try.f55 v.args v.hp = some (v.cut, H') := by
  have hc' := hc v.s
  have hz' := hz v.s
  simp only [SV.val] at hc' hz'
  simp only [evFn, Try.f55, DV.args, SV.val, DV.hp]
  by_cases c1 : v.s.err = 0
  rotate_left
  · have c1' : (v.s.err != 0) = true := by simpa using c1
    simp [ec_skip, ec_label, ek_reg, ek_draw, ek_seq, ec_cond, ek_block, ec_loop, ec_exit, ec_ret, ek_nil, ek_op, opK_some, regK_some, seqK_normal, seqK_exit, seqK_ret, blockK_normal, blockK_exit, blockK_ret, evOp, vOp, hOp, aWanted, aY, boolOf, opd, putT, closedV, undef, aBin, intOp, sameK, mapO, joinR, hasAddr, pushB, aAlloc, Value.cells, T3, T4, T22, FA24_0, FA24_1, FA24_2, FA24_3, FA24_4, FA24_5, FA24_6, FA24_7, FA24_8, LD3, LD4, LD22, LD27, LDr, LD24, LEN22, IA22, cellAt, lookB, Nat.beq_eq, takeCells, getT, setT, finF, takeM, resV, getT_set, setT_length, hc', c1, c1', DV.cut, DV.cerr]
  obtain ⟨hp34, _, _, _, hs0⟩ := err_zero c1
  have hp0 : v.s.p ≠ 0 := by omega
  have hs0' : v.s.size ≠ 0 := by omega
  have hrs : v.s.rsize = v.s.size := by simp [SV.rsize, c1]
  rw [hrs] at hz'
  cases c2 : btw v.dl 0 (wrapI .i64 (v.s.p - 1)) with
  | false => simp [ec_skip, ec_label, ek_reg, ek_draw, ek_seq, ec_cond, ek_block, ec_loop, ec_exit, ec_ret, ek_nil, ek_op, opK_some, regK_some, seqK_normal, seqK_exit, seqK_ret, blockK_normal, blockK_exit, blockK_ret, evOp, vOp, hOp, aWanted, aY, boolOf, opd, putT, closedV, undef, aBin, intOp, sameK, mapO, joinR, hasAddr, pushB, aAlloc, Value.cells, T3, T4, T22, FA24_0, FA24_1, FA24_2, FA24_3, FA24_4, FA24_5, FA24_6, FA24_7, FA24_8, LD3, LD4, LD22, LD27, LDr, LD24, LEN22, IA22, cellAt, lookB, Nat.beq_eq, takeCells, getT, setT, finF, takeM, resV, getT_set, setT_length, hc', hb, c1, c2, DV.cut, DV.cerr]
  | true =>
  by_cases c3 : (v.q : Int) = 0
  · have c3' : v.q = 0 := by omega
    simp [ec_skip, ec_label, ek_reg, ek_draw, ek_seq, ec_cond, ek_block, ec_loop, ec_exit, ec_ret, ek_nil, ek_op, opK_some, regK_some, seqK_normal, seqK_exit, seqK_ret, blockK_normal, blockK_exit, blockK_ret, evOp, vOp, hOp, aWanted, aY, boolOf, opd, putT, closedV, undef, aBin, intOp, sameK, mapO, joinR, hasAddr, pushB, aAlloc, Value.cells, T3, T4, T22, FA24_0, FA24_1, FA24_2, FA24_3, FA24_4, FA24_5, FA24_6, FA24_7, FA24_8, LD3, LD4, LD22, LD27, LDr, LD24, LEN22, IA22, cellAt, lookB, Nat.beq_eq, takeCells, getT, setT, finF, takeM, resV, getT_set, setT_length, hc', hb, c1, c2, c3', DV.cut, DV.cerr]
  have c3' : ¬ v.q = 0 := by omega
  have c3b : ((v.q : Int) == 0) = false := by simpa using c3'
  by_cases c4 : 4 < (v.q : Int)
  · have c4' : 4 < v.q := by omega
    have c4b : ¬ (v.q : Int) ≤ 4 := by omega
    simp [ec_skip, ec_label, ek_reg, ek_draw, ek_seq, ec_cond, ek_block, ec_loop, ec_exit, ec_ret, ek_nil, ek_op, opK_some, regK_some, seqK_normal, seqK_exit, seqK_ret, blockK_normal, blockK_exit, blockK_ret, evOp, vOp, hOp, aWanted, aY, boolOf, opd, putT, closedV, undef, aBin, intOp, sameK, mapO, joinR, hasAddr, pushB, aAlloc, Value.cells, T3, T4, T22, FA24_0, FA24_1, FA24_2, FA24_3, FA24_4, FA24_5, FA24_6, FA24_7, FA24_8, LD3, LD4, LD22, LD27, LDr, LD24, LEN22, IA22, cellAt, lookB, Nat.beq_eq, takeCells, getT, setT, finF, takeM, resV, getT_set, setT_length, hc', hb, c1, c2, c3', c3b, c4', c4b, c4, DV.cut, DV.cerr]
  have c4' : ¬ 4 < v.q := by omega
  have c4b : (v.q : Int) ≤ 4 := by omega
  simp [ec_skip, ec_label, ek_reg, ek_draw, ek_seq, ec_cond, ek_block, ec_loop, ec_exit, ec_ret, ek_nil, ek_op, opK_some, regK_some, seqK_normal, seqK_exit, seqK_ret, blockK_normal, blockK_exit, blockK_ret, evOp, vOp, hOp, aWanted, aY, boolOf, opd, putT, closedV, undef, aBin, intOp, sameK, mapO, joinR, hasAddr, pushB, aAlloc, Value.cells, T3, T4, T22, FA24_0, FA24_1, FA24_2, FA24_3, FA24_4, FA24_5, FA24_6, FA24_7, FA24_8, LD3, LD4, LD22, LD27, LDr, LD24, LEN22, IA22, cellAt, lookB, Nat.beq_eq, takeCells, getT, setT, finF, takeM, resV, getT_set, setT_length, hc', hb, c1, c2, c3', c3b, c4', c4b, c4]
  generalize hr : evLoop _ _ _ _ = r
  obtain ⟨x, A', H', rfl, hl, hmk, rfl, hx⟩ := loop_go (Q := Q55 v) hr (I55 v) v.q (by omega) ⟨0, 0, by omega, rfl, rfl, rfl, rfl, rfl, rfl, rfl, rfl, rfl, rfl⟩ (by
      clear hr
      rintro m A H ⟨i, acc, him, hsum, hres, hl, hmk, h10, h2, h9, h1, h3, rfl⟩
      simp only [runC]
      cases m with
      | zero =>
        have hi : ¬ i < v.q := by omega
        simp only [sumG] at hsum
        rw [dieBad] at hres
        simp [ec_skip, ec_label, ek_reg, ek_draw, ek_seq, ec_cond, ek_block, ec_loop, ec_exit, ec_ret, ek_nil, ek_op, opK_some, regK_some, seqK_normal, seqK_exit, seqK_ret, blockK_normal, blockK_exit, blockK_ret, evOp, vOp, hOp, aWanted, aY, boolOf, opd, putT, closedV, undef, aBin, intOp, sameK, mapO, joinR, hasAddr, pushB, aAlloc, Value.cells, T3, T4, T22, FA24_0, FA24_1, FA24_2, FA24_3, FA24_4, FA24_5, FA24_6, FA24_7, FA24_8, LD3, LD4, LD22, LD27, LDr, LD24, LEN22, IA22, cellAt, lookB, Nat.beq_eq, takeCells, DV.bx, getT_set, setT_length, hl, hmk, h10, h2, h9, hi]
        exact .inr ⟨by simp, by simp [setT_length, hl], rfl, rfl, .inl ⟨rfl, hres.symm, by simp [getT_set, setT_length, hl, h9, hsum], by simp [getT_set, setT_length, hl, h1], by simp [getT_set, setT_length, hl, h3]⟩⟩
      | succ m =>
        have hi : i < v.q := by omega
        have hw : wrapI .i64 ((i : Int) + 1) = ((i + 1 : Nat) : Int) := by rw [wrapI_small (by omega) (by omega)]; rfl
        rw [dieBad] at hres
        cases d1 : btw (v.z i) 1 6 with
        | true =>
          simp only [d1, if_true] at hres
          simp [ec_skip, ec_label, ek_reg, ek_draw, ek_seq, ec_cond, ek_block, ec_loop, ec_exit, ec_ret, ek_nil, ek_op, opK_some, regK_some, seqK_normal, seqK_exit, seqK_ret, blockK_normal, blockK_exit, blockK_ret, evOp, vOp, hOp, aWanted, aY, boolOf, opd, putT, closedV, undef, aBin, intOp, sameK, mapO, joinR, hasAddr, pushB, aAlloc, Value.cells, T3, T4, T22, FA24_0, FA24_1, FA24_2, FA24_3, FA24_4, FA24_5, FA24_6, FA24_7, FA24_8, LD3, LD4, LD22, LD27, LDr, LD24, LEN22, IA22, cellAt, lookB, Nat.beq_eq, takeCells, DV.bx, getT_set, setT_length, hl, hmk, h10, h2, h9, hi, hb, d1]
          refine .inl ⟨rfl, m, rfl, i + 1, wrapI .i64 (acc + v.z i), by omega, hsum, hres, ?_⟩
          simp [DV.bx, getT_set, setT_length, hl, h10, h2, h9, h1, h3, hw]
        | false =>
          simp only [d1, Bool.false_eq_true, if_false] at hres
          simp [ec_skip, ec_label, ek_reg, ek_draw, ek_seq, ec_cond, ek_block, ec_loop, ec_exit, ec_ret, ek_nil, ek_op, opK_some, regK_some, seqK_normal, seqK_exit, seqK_ret, blockK_normal, blockK_exit, blockK_ret, evOp, vOp, hOp, aWanted, aY, boolOf, opd, putT, closedV, undef, aBin, intOp, sameK, mapO, joinR, hasAddr, pushB, aAlloc, Value.cells, T3, T4, T22, FA24_0, FA24_1, FA24_2, FA24_3, FA24_4, FA24_5, FA24_6, FA24_7, FA24_8, LD3, LD4, LD22, LD27, LDr, LD24, LEN22, IA22, cellAt, lookB, Nat.beq_eq, takeCells, DV.bx, getT_set, setT_length, hl, hmk, h10, h2, h9, hi, hb, d1]
          exact .inr ⟨by simp, by simp [setT_length, hl], rfl, rfl, .inr ⟨rfl, hres.symm, by simp [getT_set, setT_length, hl], by simp [getT_set, setT_length, hl]⟩⟩)
  clear hr
  rcases hx with ⟨rfl, c5, h9, h1, h3⟩ | ⟨rfl, c5, h6, h7⟩
  rotate_left
  · simp [ec_skip, ec_label, ek_reg, ek_draw, ek_seq, ec_cond, ek_block, ec_loop, ec_exit, ec_ret, ek_nil, ek_op, opK_some, regK_some, seqK_normal, seqK_exit, seqK_ret, blockK_normal, blockK_exit, blockK_ret, evOp, vOp, hOp, aWanted, aY, boolOf, opd, putT, closedV, undef, aBin, intOp, sameK, mapO, joinR, hasAddr, pushB, aAlloc, Value.cells, T3, T4, T22, FA24_0, FA24_1, FA24_2, FA24_3, FA24_4, FA24_5, FA24_6, FA24_7, FA24_8, LD3, LD4, LD22, LD27, LDr, LD24, LEN22, IA22, cellAt, lookB, Nat.beq_eq, takeCells, finF, takeM, resV, getT_set, setT_length, hl, hmk, h6, h7, c1, c2, c3', c3b, c4', c4b, c4, c5, DV.cut, DV.cerr]
  simp [ec_skip, ec_label, ek_reg, ek_draw, ek_seq, ec_cond, ek_block, ec_loop, ec_exit, ec_ret, ek_nil, ek_op, opK_some, regK_some, seqK_normal, seqK_exit, seqK_ret, blockK_normal, blockK_exit, blockK_ret, evOp, vOp, hOp, aWanted, aY, boolOf, opd, putT, closedV, undef, aBin, intOp, sameK, mapO, joinR, hasAddr, pushB, aAlloc, Value.cells, T3, T4, T22, FA24_0, FA24_1, FA24_2, FA24_3, FA24_4, FA24_5, FA24_6, FA24_7, FA24_8, LD3, LD4, LD22, LD27, LDr, LD24, LEN22, IA22, cellAt, lookB, Nat.beq_eq, takeCells, DV.bx, finF, takeM, resV, getT_set, setT_length, hl, hmk, h9, h1, h3]
  generalize hX : evDraw _ _ _ _ _ = X
  obtain ⟨⟨rs, nx⟩, rfl, hnx, hwh, htv⟩ := evDraw_ex (Pq := P55 v) hX (by kernel_rfl) (by simp [decrK]) (by
    clear hX
    generalize befs _ = M
    simp [mapO, drRun, drOp, looks, guardT, tmpsOf, Op.operands, Call.operands, wantedR, gOf, natMem, tv, all1, roB, news, newOnes, decr, evOp, vOp, hOp, opd, closedV, undef, aBin, intOp, sameK, opdO, FA24_0, FA24_4, FA24_5, FA24_8, LD3, LD22, LD24, LDr, IA22, cellAt, lookB, Nat.beq_eq, T3, T4, T22, takeCells, hz', h9, h1, h3, hp0]
    exact ⟨by simp [dynOK, b02, b12, hl], rfl, by simp [DV.bx, wheap, news], fun tm => by simp [tv, all1]⟩)
  simp only at hnx hwh htv
  subst hnx
  simp only [DV.bx] at hwh
  simp [ec_skip, ec_label, ek_reg, ek_draw, ek_seq, ec_cond, ek_block, ec_loop, ec_exit, ec_ret, ek_nil, ek_op, opK_some, regK_some, seqK_normal, seqK_exit, seqK_ret, blockK_normal, blockK_exit, blockK_ret, evOp, vOp, hOp, aWanted, aY, boolOf, opd, putT, closedV, undef, aBin, intOp, sameK, mapO, joinR, hasAddr, pushB, aAlloc, Value.cells, T3, T4, T22, FA24_0, FA24_1, FA24_2, FA24_3, FA24_4, FA24_5, FA24_6, FA24_7, FA24_8, LD3, LD4, LD22, LD27, LDr, LD24, LEN22, IA22, cellAt, lookB, Nat.beq_eq, takeCells, finF, takeM, resV, getT_set, setT_length, getT_fin, fin_length, htv, hl, hmk, h9, h1, h3, hwh, hp0, hs0', c1, c2, c3', c3b, c4', c4b, c4, c5, DV.cut, DV.cerr, DV.cval]

end Go.Proofs.Ytkoppbbmdjhaoaa
