/-
  What is proved: what tile.Cut and the document's own Cut answer, for every set, dealer and dice.
-/
import Derived.Test.YtkoppbbmdjhaoaaHd
namespace Go.Proofs.Ytkoppbbmdjhaoaa
open Go.RowKit
set_option linter.unusedSimpArgs false

theorem F15 : tabF Try.prog 15 = some Try.f15 := by kernel_rfl
theorem F22 : tabF Try.prog 22 = some Try.f22 := by kernel_rfl
theorem F54 : tabF Try.prog 54 = some Try.f54 := by kernel_rfl
theorem F55 : tabF Try.prog 55 = some Try.f55 := by kernel_rfl
theorem F102 : tabF Try.prog 102 = some Try.f102 := by kernel_rfl
theorem F10 : tabF Try.prog 10 = some Try.f10 := by kernel_rfl
theorem F25 : tabF Try.prog 25 = some Try.f25 := by kernel_rfl

def SV.long (s : SV) : Bool := decide (20 < (s.n : Int)) || decide (60 < (s.k : Int))

set_option maxRecDepth 10000 in
set_option maxHeartbeats 8000000 in
theorem long_ev (call : Value → List Value → AH → Option (Value × AH)) (s : SV) : ∃ H', evFn (tabT Try.prog) call 300 kpT 15 Try.f15 [s.val] s.hp = some (.bool s.long, H') := by
  simp only [evFn, Try.f15, SV.val, SV.hp, SV.long]
  by_cases c1 : 20 < (s.n : Int)
  · have c1' : ¬ (s.n : Int) ≤ 20 := by omega
    simp [ec_skip, ec_label, ek_reg, ek_draw, ek_seq, ec_cond, ek_block, ec_loop, ec_exit, ec_ret, ek_nil, ek_op, opK_some, regK_some, seqK_normal, seqK_exit, seqK_ret, blockK_normal, blockK_exit, blockK_ret, evOp, vOp, hOp, aWanted, aY, boolOf, opd, putT, closedV, undef, aBin, intOp, sameK, mapO, joinR, hasAddr, pushB, aAlloc, Value.cells, T3, T4, T22, FA24_0, FA24_1, FA24_2, FA24_3, FA24_4, FA24_5, FA24_6, FA24_7, FA24_8, LD3, LD4, LD22, LD27, LDr, LD24, LEN22, IA22, cellAt, lookB, Nat.beq_eq, takeCells, getT, setT, finF, takeM, resV, getT_set, setT_length, c1, c1']
  · have c1' : (s.n : Int) ≤ 20 := by omega
    simp [ec_skip, ec_label, ek_reg, ek_draw, ek_seq, ec_cond, ek_block, ec_loop, ec_exit, ec_ret, ek_nil, ek_op, opK_some, regK_some, seqK_normal, seqK_exit, seqK_ret, blockK_normal, blockK_exit, blockK_ret, evOp, vOp, hOp, aWanted, aY, boolOf, opd, putT, closedV, undef, aBin, intOp, sameK, mapO, joinR, hasAddr, pushB, aAlloc, Value.cells, T3, T4, T22, FA24_0, FA24_1, FA24_2, FA24_3, FA24_4, FA24_5, FA24_6, FA24_7, FA24_8, LD3, LD4, LD22, LD27, LDr, LD24, LEN22, IA22, cellAt, lookB, Nat.beq_eq, takeCells, getT, setT, finF, takeM, resV, getT_set, setT_length, c1, c1']

def SV.rsize (s : SV) : Int := if s.err = 0 then s.size else 0

def P22c (s : SV) (r : List DR × Nat) : Prop := r.2 = 3 ∧ wheap s.bx.bs r.1 = s.bx.bs ∧ ∀ tm, tv tm all1 r.1 2 = .int .i64 s.size

set_option maxRecDepth 10000 in
set_option maxHeartbeats 8000000 in
theorem rsize_ev (call : Value → List Value → AH → Option (Value × AH)) (hc : ∀ (s : SV) (H : AH), lookB H.bs 0 = some (.ints s.g) → lookB H.bs 1 = some (.ints s.h) → call (.func (.func 18) #[] #[]) [s.val] H = some (.int .i64 s.err, H)) (hp : ∀ (s : SV) (H : AH), lookB H.bs 0 = some (.ints s.g) → lookB H.bs 1 = some (.ints s.h) → call (.func (.func 79) #[] #[]) [s.val] H = some (.int .i64 s.plain, H)) (s : SV) : ∃ H', evFn (tabT Try.prog) call 300 kpT 22 Try.f22 [s.val] s.hp = some (.int .i64 s.rsize, H') := by
  have hc' := hc s
  have hp' := hp s
  simp only [SV.val] at hc' hp'
  simp only [evFn, Try.f22, SV.val, SV.hp, SV.rsize]
  by_cases c1 : s.err = 0
  · simp [ec_skip, ec_label, ek_reg, ek_draw, ek_seq, ec_cond, ek_block, ec_loop, ec_exit, ec_ret, ek_nil, ek_op, opK_some, regK_some, seqK_normal, seqK_exit, seqK_ret, blockK_normal, blockK_exit, blockK_ret, evOp, vOp, hOp, aWanted, aY, boolOf, opd, putT, closedV, undef, aBin, intOp, sameK, mapO, joinR, hasAddr, pushB, aAlloc, Value.cells, T3, T4, T22, FA24_0, FA24_1, FA24_2, FA24_3, FA24_4, FA24_5, FA24_6, FA24_7, FA24_8, LD3, LD4, LD22, LD27, LDr, LD24, LEN22, IA22, cellAt, lookB, Nat.beq_eq, takeCells, getT, setT, finF, takeM, resV, getT_set, setT_length, hc', c1]
    generalize hX : evDraw _ _ _ _ _ = X
    obtain ⟨⟨rs, nx⟩, rfl, hnx, hwh, htv⟩ := evDraw_ex (Pq := P22c s) hX (by kernel_rfl) (by simp [decrK]) (by
      clear hX
      generalize befs _ = M
      simp [mapO, drRun, drOp, looks, guardT, tmpsOf, Op.operands, Call.operands, wantedR, gOf, natMem, tv, all1, roB, news, newOnes, decr, evOp, vOp, hOp, opd, closedV, undef, aBin, intOp, sameK, opdO, FA24_0, FA24_4, FA24_5, FA24_8, LD3, LD22, LD24, LDr, IA22, cellAt, lookB, Nat.beq_eq, T3, T4, T22, takeCells, getT, hp']
      exact ⟨by simp [dynOK, b02, b12], rfl, by simp [SV.bx, wheap, news], fun tm => by simp [tv, all1, SV.size]⟩)
    simp [ec_skip, ec_label, ek_reg, ek_draw, ek_seq, ec_cond, ek_block, ec_loop, ec_exit, ec_ret, ek_nil, ek_op, opK_some, regK_some, seqK_normal, seqK_exit, seqK_ret, blockK_normal, blockK_exit, blockK_ret, evOp, vOp, hOp, aWanted, aY, boolOf, opd, putT, closedV, undef, aBin, intOp, sameK, mapO, joinR, hasAddr, pushB, aAlloc, Value.cells, T3, T4, T22, FA24_0, FA24_1, FA24_2, FA24_3, FA24_4, FA24_5, FA24_6, FA24_7, FA24_8, LD3, LD4, LD22, LD27, LDr, LD24, LEN22, IA22, cellAt, lookB, Nat.beq_eq, takeCells, finF, takeM, resV, getT_set, setT_length, getT_fin, fin_length, htv]
  · have c1' : (s.err != 0) = true := by simpa using c1
    simp [ec_skip, ec_label, ek_reg, ek_draw, ek_seq, ec_cond, ek_block, ec_loop, ec_exit, ec_ret, ek_nil, ek_op, opK_some, regK_some, seqK_normal, seqK_exit, seqK_ret, blockK_normal, blockK_exit, blockK_ret, evOp, vOp, hOp, aWanted, aY, boolOf, opd, putT, closedV, undef, aBin, intOp, sameK, mapO, joinR, hasAddr, pushB, aAlloc, Value.cells, T3, T4, T22, FA24_0, FA24_1, FA24_2, FA24_3, FA24_4, FA24_5, FA24_6, FA24_7, FA24_8, LD3, LD4, LD22, LD27, LDr, LD24, LEN22, IA22, cellAt, lookB, Nat.beq_eq, takeCells, getT, setT, finF, takeM, resV, getT_set, setT_length, hc', c1, c1']

/-- A set, a dealer and dice. -/
structure DV where
  s : SV
  dl : Int
  q : Nat
  z : Nat → Int

def DV.args (v : DV) : List Value := [v.s.val, .int .i64 v.dl, .slice (some ⟨2, 0, some 1⟩) v.q 0]
def DV.hp (v : DV) : AH := ⟨3, [(2, .ints v.z), (1, .ints v.s.h), (0, .ints v.s.g)]⟩
def DV.bx (v : DV) : AH := ⟨4, [(3, .cells false [.int .i64 v.s.p, .slice (some ⟨0, 0, some 1⟩) v.s.n 0, .int .i64 v.s.w, .int .i64 v.s.d, .int .i64 v.s.f, .int .i64 v.s.c, .int .i64 v.s.m, .int .i64 v.s.de, .slice (some ⟨1, 0, some 1⟩) v.s.k 0]), (2, .ints v.z), (1, .ints v.s.h), (0, .ints v.s.g)]⟩

def dieBad (z : Nat → Int) : Nat → Nat → Bool
  | 0, _ => false
  | m + 1, i => if btw (z i) 1 6 then dieBad z m (i + 1) else true

def DV.cerr (v : DV) : Int :=
  if v.s.err = 0 then if btw v.dl 0 (wrapI .i64 (v.s.p - 1)) then if (v.q : Int) = 0 then 6 else if 4 < (v.q : Int) then 8 else if dieBad v.z v.q 0 then 2 else 0 else 2 else v.s.err

def DV.sum (v : DV) : Int := sumG v.z v.q 0 0
def DV.cval (v : DV) : Int := (wrapI .i64 (wrapI .i64 ((wrapI .i64 (v.s.size * (wrapI .i64 (wrapI .i64 (v.dl + v.sum) - 1)).tmod v.s.p)).tdiv v.s.p) + wrapI .i64 (2 * v.sum))).tmod v.s.size
def DV.cut (v : DV) : Value := if v.cerr = 0 then .tuple #[.int .i64 v.cval, .int .i64 0] else .tuple #[.int .i64 0, .int .i64 v.cerr]

def I102 (v : DV) (m : Nat) (A : AF) (H : AH) : Prop := ∃ (i : Nat), i + m = v.q ∧ dieBad v.z m i = dieBad v.z v.q 0 ∧ A.tm.length = 37 ∧ A.marks = [] ∧ getT A.tm 29 = .int .i64 (i : Int) ∧ getT A.tm 28 = .int .i64 v.q ∧ getT A.tm 27 = .slice (some ⟨2, 0, some 1⟩) v.q 0 ∧ H = v.bx
def Q102 (v : DV) (x : AX) (A' : AF) (H : AH) : Prop := A'.tm.length = 37 ∧ A'.marks = [] ∧ H = v.bx ∧ ((x = .exit 0 ∧ dieBad v.z v.q 0 = false) ∨ (x = .ret ∧ dieBad v.z v.q 0 = true ∧ getT A'.tm 6 = .int .i64 2))

set_option maxRecDepth 10000 in
set_option maxHeartbeats 8000000 in
theorem checkCut_ev (call : Value → List Value → AH → Option (Value × AH)) (hc : ∀ (s : SV) (H : AH), lookB H.bs 0 = some (.ints s.g) → lookB H.bs 1 = some (.ints s.h) → call (.func (.func 17) #[] #[]) [s.val] H = some (.int .i64 s.err, H)) (hb : ∀ (n l m : Int) (H : AH), call (.func (.func 72) #[] #[]) [.int .i64 n, .int .i64 l, .int .i64 m] H = some (.bool (btw n l m), H)) (v : DV) (hq : v.q ≤ 200) : ∃ H', evFn (tabT Try.prog) call 300 kpT 102 Try.f102 v.args v.hp = some (.int .i64 v.cerr, H') := by
  have hc' := hc v.s
  simp only [SV.val] at hc'
  simp only [evFn, Try.f102, DV.args, SV.val, DV.hp]
  by_cases c1 : v.s.err = 0
  rotate_left
  · have c1' : (v.s.err != 0) = true := by simpa using c1
    simp [ec_skip, ec_label, ek_reg, ek_draw, ek_seq, ec_cond, ek_block, ec_loop, ec_exit, ec_ret, ek_nil, ek_op, opK_some, regK_some, seqK_normal, seqK_exit, seqK_ret, blockK_normal, blockK_exit, blockK_ret, evOp, vOp, hOp, aWanted, aY, boolOf, opd, putT, closedV, undef, aBin, intOp, sameK, mapO, joinR, hasAddr, pushB, aAlloc, Value.cells, T3, T4, T22, FA24_0, FA24_1, FA24_2, FA24_3, FA24_4, FA24_5, FA24_6, FA24_7, FA24_8, LD3, LD4, LD22, LD27, LDr, LD24, LEN22, IA22, cellAt, lookB, Nat.beq_eq, takeCells, getT, setT, finF, takeM, resV, getT_set, setT_length, hc', c1, c1', DV.cerr]
  cases c2 : btw v.dl 0 (wrapI .i64 (v.s.p - 1)) with
  | false => simp [ec_skip, ec_label, ek_reg, ek_draw, ek_seq, ec_cond, ek_block, ec_loop, ec_exit, ec_ret, ek_nil, ek_op, opK_some, regK_some, seqK_normal, seqK_exit, seqK_ret, blockK_normal, blockK_exit, blockK_ret, evOp, vOp, hOp, aWanted, aY, boolOf, opd, putT, closedV, undef, aBin, intOp, sameK, mapO, joinR, hasAddr, pushB, aAlloc, Value.cells, T3, T4, T22, FA24_0, FA24_1, FA24_2, FA24_3, FA24_4, FA24_5, FA24_6, FA24_7, FA24_8, LD3, LD4, LD22, LD27, LDr, LD24, LEN22, IA22, cellAt, lookB, Nat.beq_eq, takeCells, getT, setT, finF, takeM, resV, getT_set, setT_length, hc', hb, c1, c2, DV.cerr]
  | true =>
  by_cases c3 : (v.q : Int) = 0
  · have c3' : v.q = 0 := by omega
    simp [ec_skip, ec_label, ek_reg, ek_draw, ek_seq, ec_cond, ek_block, ec_loop, ec_exit, ec_ret, ek_nil, ek_op, opK_some, regK_some, seqK_normal, seqK_exit, seqK_ret, blockK_normal, blockK_exit, blockK_ret, evOp, vOp, hOp, aWanted, aY, boolOf, opd, putT, closedV, undef, aBin, intOp, sameK, mapO, joinR, hasAddr, pushB, aAlloc, Value.cells, T3, T4, T22, FA24_0, FA24_1, FA24_2, FA24_3, FA24_4, FA24_5, FA24_6, FA24_7, FA24_8, LD3, LD4, LD22, LD27, LDr, LD24, LEN22, IA22, cellAt, lookB, Nat.beq_eq, takeCells, getT, setT, finF, takeM, resV, getT_set, setT_length, hc', hb, c1, c2, c3', DV.cerr]
  have c3' : ¬ v.q = 0 := by omega
  have c3b : ((v.q : Int) == 0) = false := by simpa using c3'
  by_cases c4 : 4 < (v.q : Int)
  · have c4' : 4 < v.q := by omega
    have c4b : ¬ (v.q : Int) ≤ 4 := by omega
    simp [ec_skip, ec_label, ek_reg, ek_draw, ek_seq, ec_cond, ek_block, ec_loop, ec_exit, ec_ret, ek_nil, ek_op, opK_some, regK_some, seqK_normal, seqK_exit, seqK_ret, blockK_normal, blockK_exit, blockK_ret, evOp, vOp, hOp, aWanted, aY, boolOf, opd, putT, closedV, undef, aBin, intOp, sameK, mapO, joinR, hasAddr, pushB, aAlloc, Value.cells, T3, T4, T22, FA24_0, FA24_1, FA24_2, FA24_3, FA24_4, FA24_5, FA24_6, FA24_7, FA24_8, LD3, LD4, LD22, LD27, LDr, LD24, LEN22, IA22, cellAt, lookB, Nat.beq_eq, takeCells, getT, setT, finF, takeM, resV, getT_set, setT_length, hc', hb, c1, c2, c3', c3b, c4', c4b, c4, DV.cerr]
  have c4' : ¬ 4 < v.q := by omega
  have c4b : (v.q : Int) ≤ 4 := by omega
  simp [ec_skip, ec_label, ek_reg, ek_draw, ek_seq, ec_cond, ek_block, ec_loop, ec_exit, ec_ret, ek_nil, ek_op, opK_some, regK_some, seqK_normal, seqK_exit, seqK_ret, blockK_normal, blockK_exit, blockK_ret, evOp, vOp, hOp, aWanted, aY, boolOf, opd, putT, closedV, undef, aBin, intOp, sameK, mapO, joinR, hasAddr, pushB, aAlloc, Value.cells, T3, T4, T22, FA24_0, FA24_1, FA24_2, FA24_3, FA24_4, FA24_5, FA24_6, FA24_7, FA24_8, LD3, LD4, LD22, LD27, LDr, LD24, LEN22, IA22, cellAt, lookB, Nat.beq_eq, takeCells, getT, setT, finF, takeM, resV, getT_set, setT_length, hc', hb, c1, c2, c3', c3b, c4', c4b, c4]
  generalize hr : evLoop _ _ _ _ = r
  obtain ⟨x, A', H', rfl, hl, hmk, rfl, hx⟩ := loop_go (Q := Q102 v) hr (I102 v) v.q (by omega) ⟨0, by omega, rfl, rfl, rfl, rfl, rfl, rfl, rfl⟩ (by
      clear hr
      rintro m A H ⟨i, him, hres, hl, hmk, h29, h28, h27, rfl⟩
      simp only [runC]
      cases m with
      | zero =>
        have hi : ¬ i < v.q := by omega
        rw [dieBad] at hres
        simp [ec_skip, ec_label, ek_reg, ek_draw, ek_seq, ec_cond, ek_block, ec_loop, ec_exit, ec_ret, ek_nil, ek_op, opK_some, regK_some, seqK_normal, seqK_exit, seqK_ret, blockK_normal, blockK_exit, blockK_ret, evOp, vOp, hOp, aWanted, aY, boolOf, opd, putT, closedV, undef, aBin, intOp, sameK, mapO, joinR, hasAddr, pushB, aAlloc, Value.cells, T3, T4, T22, FA24_0, FA24_1, FA24_2, FA24_3, FA24_4, FA24_5, FA24_6, FA24_7, FA24_8, LD3, LD4, LD22, LD27, LDr, LD24, LEN22, IA22, cellAt, lookB, Nat.beq_eq, takeCells, DV.bx, getT_set, setT_length, hl, hmk, h29, h28, h27, hi]
        exact .inr ⟨by simp, by simp [setT_length, hl], rfl, rfl, .inl ⟨rfl, hres.symm⟩⟩
      | succ m =>
        have hi : i < v.q := by omega
        have hw : wrapI .i64 ((i : Int) + 1) = ((i + 1 : Nat) : Int) := by rw [wrapI_small (by omega) (by omega)]; rfl
        rw [dieBad] at hres
        cases d1 : btw (v.z i) 1 6 with
        | true =>
          simp only [d1, if_true] at hres
          simp [ec_skip, ec_label, ek_reg, ek_draw, ek_seq, ec_cond, ek_block, ec_loop, ec_exit, ec_ret, ek_nil, ek_op, opK_some, regK_some, seqK_normal, seqK_exit, seqK_ret, blockK_normal, blockK_exit, blockK_ret, evOp, vOp, hOp, aWanted, aY, boolOf, opd, putT, closedV, undef, aBin, intOp, sameK, mapO, joinR, hasAddr, pushB, aAlloc, Value.cells, T3, T4, T22, FA24_0, FA24_1, FA24_2, FA24_3, FA24_4, FA24_5, FA24_6, FA24_7, FA24_8, LD3, LD4, LD22, LD27, LDr, LD24, LEN22, IA22, cellAt, lookB, Nat.beq_eq, takeCells, DV.bx, getT_set, setT_length, hl, hmk, h29, h28, h27, hi, hb, d1]
          refine .inl ⟨rfl, m, rfl, i + 1, by omega, hres, ?_⟩
          simp [DV.bx, getT_set, setT_length, hl, h29, h28, h27, hw]
        | false =>
          simp only [d1, Bool.false_eq_true, if_false] at hres
          simp [ec_skip, ec_label, ek_reg, ek_draw, ek_seq, ec_cond, ek_block, ec_loop, ec_exit, ec_ret, ek_nil, ek_op, opK_some, regK_some, seqK_normal, seqK_exit, seqK_ret, blockK_normal, blockK_exit, blockK_ret, evOp, vOp, hOp, aWanted, aY, boolOf, opd, putT, closedV, undef, aBin, intOp, sameK, mapO, joinR, hasAddr, pushB, aAlloc, Value.cells, T3, T4, T22, FA24_0, FA24_1, FA24_2, FA24_3, FA24_4, FA24_5, FA24_6, FA24_7, FA24_8, LD3, LD4, LD22, LD27, LDr, LD24, LEN22, IA22, cellAt, lookB, Nat.beq_eq, takeCells, DV.bx, getT_set, setT_length, hl, hmk, h29, h28, h27, hi, hb, d1]
          exact .inr ⟨by simp, by simp [setT_length, hl], rfl, rfl, .inr ⟨rfl, hres.symm, by simp [getT_set, setT_length, hl]⟩⟩)
  rcases hx with ⟨rfl, c5⟩ | ⟨rfl, c5, h6⟩
  · simp [ec_skip, ec_label, ek_reg, ek_draw, ek_seq, ec_cond, ek_block, ec_loop, ec_exit, ec_ret, ek_nil, ek_op, opK_some, regK_some, seqK_normal, seqK_exit, seqK_ret, blockK_normal, blockK_exit, blockK_ret, evOp, vOp, hOp, aWanted, aY, boolOf, opd, putT, closedV, undef, aBin, intOp, sameK, mapO, joinR, hasAddr, pushB, aAlloc, Value.cells, T3, T4, T22, FA24_0, FA24_1, FA24_2, FA24_3, FA24_4, FA24_5, FA24_6, FA24_7, FA24_8, LD3, LD4, LD22, LD27, LDr, LD24, LEN22, IA22, cellAt, lookB, Nat.beq_eq, takeCells, finF, takeM, resV, getT_set, setT_length, hl, hmk, c1, c2, c3', c3b, c4', c4b, c4, c5, DV.cerr]
  · simp [ec_skip, ec_label, ek_reg, ek_draw, ek_seq, ec_cond, ek_block, ec_loop, ec_exit, ec_ret, ek_nil, ek_op, opK_some, regK_some, seqK_normal, seqK_exit, seqK_ret, blockK_normal, blockK_exit, blockK_ret, evOp, vOp, hOp, aWanted, aY, boolOf, opd, putT, closedV, undef, aBin, intOp, sameK, mapO, joinR, hasAddr, pushB, aAlloc, Value.cells, T3, T4, T22, FA24_0, FA24_1, FA24_2, FA24_3, FA24_4, FA24_5, FA24_6, FA24_7, FA24_8, LD3, LD4, LD22, LD27, LDr, LD24, LEN22, IA22, cellAt, lookB, Nat.beq_eq, takeCells, finF, takeM, resV, getT_set, setT_length, hl, hmk, h6, c1, c2, c3', c3b, c4', c4b, c4, c5, DV.cerr]

end Go.Proofs.Ytkoppbbmdjhaoaa
