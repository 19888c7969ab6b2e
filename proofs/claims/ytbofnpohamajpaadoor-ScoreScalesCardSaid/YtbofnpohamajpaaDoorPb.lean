/-
  What is proved: what both functions CheckScale answer of every scale, told by a list of cells.
-/
import Derived.Test.YtbofnpohamajpaaDoorPa
namespace Go.Proofs.YtbofnpohamajpaaDoor
open Go.RowKit
set_option linter.unusedSimpArgs false
set_option linter.unusedVariables false

theorem wrapI_one : wrapI .i64 1 = 1 := wrapI_small (by omega) (by omega)
def bad (cs : List Value) (i : Nat) : Bool := !(btw (gi cs (i * 2)) 1 1000 && btw (gi cs (i * 2 + 1)) 0 1000000)
def ord (cs : List Value) (i : Nat) : Bool := decide (0 < i) && (decide (gi cs (i * 2) ≤ gi cs ((i - 1) * 2)) || decide (gi cs (i * 2 + 1) < gi cs ((i - 1) * 2 + 1)))
/-- The first error of the limits from i on. -/
def scan (cs : List Value) : Nat → Nat → Int
  | 0, _ => 0
  | m + 1, i => if bad cs i then 2 else if ord cs i then 11 else scan cs m (i + 1)
/-- The first error of a scale. -/
def scErr (b r : Int) (n : Nat) (cs : List Value) : Int := if btw b 0 1000 && btw r 1 10000 then if 12 < n then 8 else scan cs n 0 else 2

theorem NAT7 : ((tabT Tryd.prog) 25).map (fun z => (z.ex.nat 12, z.ex.mnz 12)) = some (none, none) := by kernel_rfl

def scV (b : Int) (d : Bool) (u : Value) (r : Int) : Value := .agg ⟨[.int .i64 b, .bool d, u, .int .i64 r]⟩

def I7 (b : Int) (d : Bool) (u : Value) (r : Int) (n : Nat) (cs : List Value) (m : Nat) (A : AF) (H : AH) : Prop := ∃ (i : Nat), i + m = n ∧ scan cs m i = scan cs n 0 ∧ A.tm.n = 64 ∧ A.marks = [] ∧ A.tm.get 22 = .int .i64 (i : Int) ∧ A.tm.get 21 = .int .i64 n ∧ A.tm.get 20 = u ∧ A.tm.get 1 = .pointer (some ⟨1, 0, none⟩) ∧ lookB H.bs 0 = some (.cells true cs) ∧ lookB H.bs 1 = some (.cells false [.int .i64 b, .bool d, u, .int .i64 r]) ∧ MI H
def Q7 (n : Nat) (cs : List Value) (x : AX) (A' : AF) (H : AH) : Prop := A'.tm.n = 64 ∧ A'.marks = [] ∧ ((x = .exit 0 ∧ scan cs n 0 = 0) ∨ (x = .ret ∧ A'.tm.get 2 = .int .i64 (scan cs n 0)))

set_option maxRecDepth 10000 in
set_option maxHeartbeats 8000000 in
theorem check7_ev (call : Value → List Value → AH → Option (Value × AH)) (hb : BtwOK call 22) {b : Int} {d : Bool} {u : Value} {n : Nat} {r : Int} {cs : List Value} (hcs : okC cs (2 * n) = true)
    (hlen : aLen (tabT Tryd.prog) 23 u = some (.int .i64 n)) (hix : ∀ k : Nat, k < n → aIndexAddr (tabT Tryd.prog) 23 u (.int .i64 (k : Int)) = some (.pointer (some ⟨0, k * 2, none⟩))) :
    ∃ H', evFn (tabT Tryd.prog) call 300 kpT 12 Tryd.f12 [scV b d u r] ⟨1, [(0, .cells true cs)]⟩ = some (.int .i64 (scErr b r n cs), H') := by
  unfold BtwOK at hb
  simp only [evFn, Tryd.f12, scV, scErr]
  cases e1 : btw b 0 1000 with
  | false => simp [ec_skip, ec_label, ek_reg, ek_draw, ek_seq, ec_cond, ek_block, ec_loop, ec_exit, ec_ret, ec_scope, ek_nil, ek_op, opK_some, regK_some, seqK_normal, seqK_exit, seqK_ret, blockK_normal, blockK_exit, blockK_ret, evOp, vOp, hOpB, hOpU, hOp, hOpT, aWanted, aYielded, opd, putT, closedV, aBin, intOp, sameK, mapO, joinR, hasAddr, boundOf, pushB, aAlloc, Value.cells, lookB, setB, Nat.beq_eq, tm_n_set, tm_get_set, tm_of_n, tm_of_get, tm_tr_set, tm_tr_of, cellV, putF, appR_eq, takeR_eq, dropR_eq, setR_eq, getR_eq, LD3, LD4, LD22, LD24, LD33, FA24_0, FA24_1, FA24_2, FA24_3, FA33_0, FA33_1, LEN22, ST33, ↓AL33, finF, takeM, resV, hb, e1]
  | true =>
  cases e2 : btw r 1 10000 with
  | false => simp [ec_skip, ec_label, ek_reg, ek_draw, ek_seq, ec_cond, ek_block, ec_loop, ec_exit, ec_ret, ec_scope, ek_nil, ek_op, opK_some, regK_some, seqK_normal, seqK_exit, seqK_ret, blockK_normal, blockK_exit, blockK_ret, evOp, vOp, hOpB, hOpU, hOp, hOpT, aWanted, aYielded, opd, putT, closedV, aBin, intOp, sameK, mapO, joinR, hasAddr, boundOf, pushB, aAlloc, Value.cells, lookB, setB, Nat.beq_eq, tm_n_set, tm_get_set, tm_of_n, tm_of_get, tm_tr_set, tm_tr_of, cellV, putF, appR_eq, takeR_eq, dropR_eq, setR_eq, getR_eq, LD3, LD4, LD22, LD24, LD33, FA24_0, FA24_1, FA24_2, FA24_3, FA33_0, FA33_1, LEN22, ST33, ↓AL33, finF, takeM, resV, hb, e1, e2]
  | true =>
  by_cases e3 : 12 < n
  · have e3' : (12 : Int) < n := by omega
    simp [ec_skip, ec_label, ek_reg, ek_draw, ek_seq, ec_cond, ek_block, ec_loop, ec_exit, ec_ret, ec_scope, ek_nil, ek_op, opK_some, regK_some, seqK_normal, seqK_exit, seqK_ret, blockK_normal, blockK_exit, blockK_ret, evOp, vOp, hOpB, hOpU, hOp, hOpT, aWanted, aYielded, opd, putT, closedV, aBin, intOp, sameK, mapO, joinR, hasAddr, boundOf, pushB, aAlloc, Value.cells, lookB, setB, Nat.beq_eq, tm_n_set, tm_get_set, tm_of_n, tm_of_get, tm_tr_set, tm_tr_of, cellV, putF, appR_eq, takeR_eq, dropR_eq, setR_eq, getR_eq, LD3, LD4, LD22, LD24, LD33, FA24_0, FA24_1, FA24_2, FA24_3, FA33_0, FA33_1, LEN22, ST33, ↓AL33, finF, takeM, resV, hb, e1, e2, hlen, e3, e3']
  have e3' : ¬ (12 : Int) < n := by omega
  simp [ec_skip, ec_label, ek_reg, ek_draw, ek_seq, ec_cond, ek_block, ec_loop, ec_exit, ec_ret, ec_scope, ek_nil, ek_op, opK_some, regK_some, seqK_normal, seqK_exit, seqK_ret, blockK_normal, blockK_exit, blockK_ret, evOp, vOp, hOpB, hOpU, hOp, hOpT, aWanted, aYielded, opd, putT, closedV, aBin, intOp, sameK, mapO, joinR, hasAddr, boundOf, pushB, aAlloc, Value.cells, lookB, setB, Nat.beq_eq, tm_n_set, tm_get_set, tm_of_n, tm_of_get, tm_tr_set, tm_tr_of, cellV, putF, appR_eq, takeR_eq, dropR_eq, setR_eq, getR_eq, LD3, LD4, LD22, LD24, LD33, FA24_0, FA24_1, FA24_2, FA24_3, FA33_0, FA33_1, LEN22, ST33, ↓AL33, hb, e1, e2, hlen, e3, e3']
  generalize hr : evLoop _ _ _ _ = rr
  obtain ⟨x, A', H', rfl, hl, hmk, hx⟩ := loop_go (Q := Q7 n cs) hr (I7 b d u r n cs) n (by omega) (by
      clear hr
      refine ⟨0, by omega, rfl, by simp [tm_n_set, tm_of_n], rfl, ?_⟩
      simp [tm_get_set, tm_n_set, tm_of_n, tm_of_get, lookB, MI, decrK, Nat.blt_eq, Nat.beq_eq]) (by
      clear hr
      rintro m A H ⟨i, him, hsc, hl, hmk, hc, h21, h20, h1, H0, H1, hM⟩
      simp only [runC]
      cases m with
      | zero =>
        have hi : ¬ i < n := by omega
        rw [scan] at hsc
        simp [ec_skip, ec_label, ek_reg, ek_draw, ek_seq, ec_cond, ek_block, ec_loop, ec_exit, ec_ret, ec_scope, ek_nil, ek_op, opK_some, regK_some, seqK_normal, seqK_exit, seqK_ret, blockK_normal, blockK_exit, blockK_ret, evOp, vOp, hOpB, hOpU, hOp, hOpT, aWanted, aYielded, opd, putT, closedV, aBin, intOp, sameK, mapO, joinR, hasAddr, boundOf, pushB, aAlloc, Value.cells, lookB, setB, Nat.beq_eq, tm_n_set, tm_get_set, tm_of_n, tm_of_get, tm_tr_set, tm_tr_of, cellV, putF, appR_eq, takeR_eq, dropR_eq, setR_eq, getR_eq, LD3, LD4, LD22, LD24, LD33, FA24_0, FA24_1, FA24_2, FA24_3, FA33_0, FA33_1, LEN22, ST33, ↓AL33, hl, hmk, hc, h21, h20, h1, H0, H1, hlen, hi]
        exact .inr ⟨by simp, by simp [tm_n_set, hl], rfl, .inl ⟨rfl, hsc.symm⟩⟩
      | succ m =>
        have hi : i < n := by omega
        have hw : wrapI .i64 ((i : Int) + 1) = ((i + 1 : Nat) : Int) := by rw [wrapI_small (by omega) (by omega)]; rfl
        have p := hix i hi
        have c0 := okC_at hcs (j := i * 2) (by omega)
        have c1 := okC_at hcs (j := i * 2 + 1) (by omega)
        have c2 := okC_take2 hcs (j := i * 2) (by omega)
        have n0 : ¬ 0 = H.next := by have := lookB_lt hM H0; omega
        have n1 : ¬ 1 = H.next := by have := lookB_lt hM H1; omega
        have R0 := lookB_roB_cells _ _ _ _ H0 hM.1
        have R1 := lookB_roB_cells _ _ _ _ H1 hM.1
        rw [scan] at hsc
        unfold bad at hsc
        cases b1 : btw (gi cs (i * 2)) 1 1000 with
        | false =>
          simp [b1] at hsc
          simp [ec_skip, ec_label, ek_reg, ek_draw, ek_seq, ec_cond, ek_block, ec_loop, ec_exit, ec_ret, ec_scope, ek_nil, ek_op, opK_some, regK_some, seqK_normal, seqK_exit, seqK_ret, blockK_normal, blockK_exit, blockK_ret, evOp, vOp, hOpB, hOpU, hOp, hOpT, aWanted, aYielded, opd, putT, closedV, aBin, intOp, sameK, mapO, joinR, hasAddr, boundOf, pushB, aAlloc, Value.cells, lookB, setB, Nat.beq_eq, tm_n_set, tm_get_set, tm_of_n, tm_of_get, tm_tr_set, tm_tr_of, cellV, putF, appR_eq, takeR_eq, dropR_eq, setR_eq, getR_eq, LD3, LD4, LD22, LD24, LD33, FA24_0, FA24_1, FA24_2, FA24_3, FA33_0, FA33_1, LEN22, ST33, ↓AL33, hl, hmk, hc, h21, h20, h1, H0, H1, hlen, hi, p, c0, c1, c2, n0, n1, hb, b1]
          exact .inr ⟨by simp, by simp [tm_n_set, hl], rfl, .inr ⟨rfl, by simp [tm_get_set, tm_n_set, hl, hsc]⟩⟩
        | true =>
        cases b2 : btw (gi cs (i * 2 + 1)) 0 1000000 with
        | false =>
          simp [b1, b2] at hsc
          simp [ec_skip, ec_label, ek_reg, ek_draw, ek_seq, ec_cond, ek_block, ec_loop, ec_exit, ec_ret, ec_scope, ek_nil, ek_op, opK_some, regK_some, seqK_normal, seqK_exit, seqK_ret, blockK_normal, blockK_exit, blockK_ret, evOp, vOp, hOpB, hOpU, hOp, hOpT, aWanted, aYielded, opd, putT, closedV, aBin, intOp, sameK, mapO, joinR, hasAddr, boundOf, pushB, aAlloc, Value.cells, lookB, setB, Nat.beq_eq, tm_n_set, tm_get_set, tm_of_n, tm_of_get, tm_tr_set, tm_tr_of, cellV, putF, appR_eq, takeR_eq, dropR_eq, setR_eq, getR_eq, LD3, LD4, LD22, LD24, LD33, FA24_0, FA24_1, FA24_2, FA24_3, FA33_0, FA33_1, LEN22, ST33, ↓AL33, hl, hmk, hc, h21, h20, h1, H0, H1, hlen, hi, p, c0, c1, c2, n0, n1, hb, b1, b2]
          exact .inr ⟨by simp, by simp [tm_n_set, hl], rfl, .inr ⟨rfl, by simp [tm_get_set, tm_n_set, hl, hsc]⟩⟩
        | true =>
          simp [b1, b2] at hsc
          simp [ec_skip, ec_label, ek_reg, ek_draw, ek_seq, ec_cond, ek_block, ec_loop, ec_exit, ec_ret, ec_scope, ek_nil, ek_op, opK_some, regK_some, seqK_normal, seqK_exit, seqK_ret, blockK_normal, blockK_exit, blockK_ret, evOp, vOp, hOpB, hOpU, hOp, hOpT, aWanted, aYielded, opd, putT, closedV, aBin, intOp, sameK, mapO, joinR, hasAddr, boundOf, pushB, aAlloc, Value.cells, lookB, setB, Nat.beq_eq, tm_n_set, tm_get_set, tm_of_n, tm_of_get, tm_tr_set, tm_tr_of, cellV, putF, appR_eq, takeR_eq, dropR_eq, setR_eq, getR_eq, LD3, LD4, LD22, LD24, LD33, FA24_0, FA24_1, FA24_2, FA24_3, FA33_0, FA33_1, LEN22, ST33, ↓AL33, hl, hmk, hc, h21, h20, h1, H0, H1, hlen, hi, p, c0, c1, c2, n0, n1, hb, b1, b2]
          generalize hX : evDrawX _ _ _ _ _ = X
          have hmm : ¬ (H.next + 1 ≤ H.next) := by omega
          by_cases hz : 0 < i
          · have hz' : (0 : Int) < i := by omega
            have hw1 : wrapI .i64 ((i : Int) - 1) = ((i - 1 : Nat) : Int) := by rw [wrapI_small (by omega) (by omega)]; omega
            have q := hix (i - 1) (by omega)
            have d0 := okC_at hcs (j := (i - 1) * 2) (by omega)
            have d1 := okC_at hcs (j := (i - 1) * 2 + 1) (by omega)
            by_cases hle : gi cs (i * 2) ≤ gi cs ((i - 1) * 2)
            · have hle' : ¬ gi cs ((i - 1) * 2) < gi cs (i * 2) := by omega
              obtain ⟨tm, rfl, hn, t62, t22, t21, t20, t1⟩ := draw_ro (Pt := fun tm => tm.get 62 = .bool (ord cs i) ∧ tm.get 22 = A.tm.get 22 ∧ tm.get 21 = A.tm.get 21 ∧ tm.get 20 = A.tm.get 20 ∧ tm.get 1 = A.tm.get 1) hX (by kernel_rfl) (hM.push _).1 (by
                clear hX
                generalize befs _ = M
                simp [mapO, drRun, drOp, dr3, looks, guardT, tmpsOf, Op.operands, Call.operands, wantedR, gOf, finT, natMem, isNil, writesF, evOp, vOp, hOpB, hOpU, hOp, hOpT, opd, closedV, aBin, intOp, sameK, opdO, boundOf, undef, lookB, Nat.beq_eq, tm_n_set, tm_get_set, tm_of_n, tm_of_get, tm_tr_set, tm_tr_of, b02, b12, b32, roB, roK, newOnes, LD3, LD4, LD22, LD24, LD33, FA24_0, FA24_1, FA24_2, FA24_3, FA33_0, FA33_1, LEN22, ST33, ↓AL33, hl, hc, h21, h20, h1, R0, R1, n0, n1, p, c0, c1, hmm, hz, hz', hw1, q, d0, d1, hle, hle']
                refine ⟨by simp [dynOK, b02, b12, b32], by simp [wheap, news, b02, b12, b32], by simp [ord, hz, hle]⟩)
              clear hX
              simp [tm_n_set, hl] at hn
              cases ho : ord cs i with
              | true =>
                simp [ho] at hsc
                rw [ho] at t62
                simp [ec_skip, ec_label, ek_reg, ek_draw, ek_seq, ec_cond, ek_block, ec_loop, ec_exit, ec_ret, ec_scope, ek_nil, ek_op, opK_some, regK_some, seqK_normal, seqK_exit, seqK_ret, blockK_normal, blockK_exit, blockK_ret, evOp, vOp, hOpB, hOpU, hOp, hOpT, aWanted, aYielded, opd, putT, closedV, aBin, intOp, sameK, mapO, joinR, hasAddr, boundOf, pushB, aAlloc, Value.cells, lookB, setB, Nat.beq_eq, tm_n_set, tm_get_set, tm_of_n, tm_of_get, tm_tr_set, tm_tr_of, cellV, putF, appR_eq, takeR_eq, dropR_eq, setR_eq, getR_eq, LD3, LD4, LD22, LD24, LD33, FA24_0, FA24_1, FA24_2, FA24_3, FA33_0, FA33_1, LEN22, ST33, ↓AL33, hmk, hc, h21, h20, h1, hn, t62, t22, t21, t20, t1, H0, H1, n0, n1]
                exact ⟨_, _, _, ⟨rfl, rfl, rfl⟩, .inr ⟨by simp, by simp [tm_n_set, hn], rfl, .inr ⟨rfl, by simp [tm_get_set, tm_n_set, hn, hsc]⟩⟩⟩
              | false =>
                simp [ho] at hsc
                rw [ho] at t62
                simp [ec_skip, ec_label, ek_reg, ek_draw, ek_seq, ec_cond, ek_block, ec_loop, ec_exit, ec_ret, ec_scope, ek_nil, ek_op, opK_some, regK_some, seqK_normal, seqK_exit, seqK_ret, blockK_normal, blockK_exit, blockK_ret, evOp, vOp, hOpB, hOpU, hOp, hOpT, aWanted, aYielded, opd, putT, closedV, aBin, intOp, sameK, mapO, joinR, hasAddr, boundOf, pushB, aAlloc, Value.cells, lookB, setB, Nat.beq_eq, tm_n_set, tm_get_set, tm_of_n, tm_of_get, tm_tr_set, tm_tr_of, cellV, putF, appR_eq, takeR_eq, dropR_eq, setR_eq, getR_eq, LD3, LD4, LD22, LD24, LD33, FA24_0, FA24_1, FA24_2, FA24_3, FA33_0, FA33_1, LEN22, ST33, ↓AL33, hmk, hc, h21, h20, h1, hn, t62, t22, t21, t20, t1, H0, H1, n0, n1]
                refine ⟨_, _, _, ⟨rfl, rfl, rfl⟩, .inl ⟨rfl, m, rfl, i + 1, by omega, hsc, ?_⟩⟩
                simp [tm_get_set, tm_n_set, hn, hc, h21, h20, h1, t22, t21, t20, t1, hw, wrapI_one, lookB, Nat.beq_eq, n0, n1, H0, H1]
                exact hM.push _

            · have hle' : gi cs ((i - 1) * 2) < gi cs (i * 2) := by omega
              obtain ⟨tm, rfl, hn, t62, t22, t21, t20, t1⟩ := draw_ro (Pt := fun tm => tm.get 62 = .bool (ord cs i) ∧ tm.get 22 = A.tm.get 22 ∧ tm.get 21 = A.tm.get 21 ∧ tm.get 20 = A.tm.get 20 ∧ tm.get 1 = A.tm.get 1) hX (by kernel_rfl) (hM.push _).1 (by
                clear hX
                generalize befs _ = M
                simp [mapO, drRun, drOp, dr3, looks, guardT, tmpsOf, Op.operands, Call.operands, wantedR, gOf, finT, natMem, isNil, writesF, evOp, vOp, hOpB, hOpU, hOp, hOpT, opd, closedV, aBin, intOp, sameK, opdO, boundOf, undef, lookB, Nat.beq_eq, tm_n_set, tm_get_set, tm_of_n, tm_of_get, tm_tr_set, tm_tr_of, b02, b12, b32, roB, roK, newOnes, LD3, LD4, LD22, LD24, LD33, FA24_0, FA24_1, FA24_2, FA24_3, FA33_0, FA33_1, LEN22, ST33, ↓AL33, hl, hc, h21, h20, h1, R0, R1, n0, n1, p, c0, c1, hmm, hz, hz', hw1, q, d0, d1, hle, hle']
                refine ⟨by simp [dynOK, b02, b12, b32], by simp [wheap, news, b02, b12, b32], by simp [ord, hz, hle]⟩)
              clear hX
              simp [tm_n_set, hl] at hn
              cases ho : ord cs i with
              | true =>
                simp [ho] at hsc
                rw [ho] at t62
                simp [ec_skip, ec_label, ek_reg, ek_draw, ek_seq, ec_cond, ek_block, ec_loop, ec_exit, ec_ret, ec_scope, ek_nil, ek_op, opK_some, regK_some, seqK_normal, seqK_exit, seqK_ret, blockK_normal, blockK_exit, blockK_ret, evOp, vOp, hOpB, hOpU, hOp, hOpT, aWanted, aYielded, opd, putT, closedV, aBin, intOp, sameK, mapO, joinR, hasAddr, boundOf, pushB, aAlloc, Value.cells, lookB, setB, Nat.beq_eq, tm_n_set, tm_get_set, tm_of_n, tm_of_get, tm_tr_set, tm_tr_of, cellV, putF, appR_eq, takeR_eq, dropR_eq, setR_eq, getR_eq, LD3, LD4, LD22, LD24, LD33, FA24_0, FA24_1, FA24_2, FA24_3, FA33_0, FA33_1, LEN22, ST33, ↓AL33, hmk, hc, h21, h20, h1, hn, t62, t22, t21, t20, t1, H0, H1, n0, n1]
                exact ⟨_, _, _, ⟨rfl, rfl, rfl⟩, .inr ⟨by simp, by simp [tm_n_set, hn], rfl, .inr ⟨rfl, by simp [tm_get_set, tm_n_set, hn, hsc]⟩⟩⟩
              | false =>
                simp [ho] at hsc
                rw [ho] at t62
                simp [ec_skip, ec_label, ek_reg, ek_draw, ek_seq, ec_cond, ek_block, ec_loop, ec_exit, ec_ret, ec_scope, ek_nil, ek_op, opK_some, regK_some, seqK_normal, seqK_exit, seqK_ret, blockK_normal, blockK_exit, blockK_ret, evOp, vOp, hOpB, hOpU, hOp, hOpT, aWanted, aYielded, opd, putT, closedV, aBin, intOp, sameK, mapO, joinR, hasAddr, boundOf, pushB, aAlloc, Value.cells, lookB, setB, Nat.beq_eq, tm_n_set, tm_get_set, tm_of_n, tm_of_get, tm_tr_set, tm_tr_of, cellV, putF, appR_eq, takeR_eq, dropR_eq, setR_eq, getR_eq, LD3, LD4, LD22, LD24, LD33, FA24_0, FA24_1, FA24_2, FA24_3, FA33_0, FA33_1, LEN22, ST33, ↓AL33, hmk, hc, h21, h20, h1, hn, t62, t22, t21, t20, t1, H0, H1, n0, n1]
                refine ⟨_, _, _, ⟨rfl, rfl, rfl⟩, .inl ⟨rfl, m, rfl, i + 1, by omega, hsc, ?_⟩⟩
                simp [tm_get_set, tm_n_set, hn, hc, h21, h20, h1, t22, t21, t20, t1, hw, wrapI_one, lookB, Nat.beq_eq, n0, n1, H0, H1]
                exact hM.push _

          · obtain rfl : i = 0 := by omega
            obtain ⟨tm, rfl, hn, t62, t22, t21, t20, t1⟩ := draw_ro (Pt := fun tm => tm.get 62 = .bool (ord cs 0) ∧ tm.get 22 = A.tm.get 22 ∧ tm.get 21 = A.tm.get 21 ∧ tm.get 20 = A.tm.get 20 ∧ tm.get 1 = A.tm.get 1) hX (by kernel_rfl) (hM.push _).1 (by
              clear hX
              generalize befs _ = M
              simp [mapO, drRun, drOp, dr3, looks, guardT, tmpsOf, Op.operands, Call.operands, wantedR, gOf, finT, natMem, isNil, writesF, evOp, vOp, hOpB, hOpU, hOp, hOpT, opd, closedV, aBin, intOp, sameK, opdO, boundOf, undef, lookB, Nat.beq_eq, tm_n_set, tm_get_set, tm_of_n, tm_of_get, tm_tr_set, tm_tr_of, b02, b12, b32, roB, roK, newOnes, LD3, LD4, LD22, LD24, LD33, FA24_0, FA24_1, FA24_2, FA24_3, FA33_0, FA33_1, LEN22, ST33, ↓AL33, hl, hc, h21, h20, h1, R0, R1, n0, n1, p, c0, c1, hmm]
              refine ⟨by simp [dynOK, b02, b12, b32], by simp [wheap, news, b02, b12, b32], by simp [ord]⟩)
            clear hX
            simp [tm_n_set, hl] at hn
            cases ho : ord cs 0 with
            | true =>
              simp [ho] at hsc
              rw [ho] at t62
              simp [ec_skip, ec_label, ek_reg, ek_draw, ek_seq, ec_cond, ek_block, ec_loop, ec_exit, ec_ret, ec_scope, ek_nil, ek_op, opK_some, regK_some, seqK_normal, seqK_exit, seqK_ret, blockK_normal, blockK_exit, blockK_ret, evOp, vOp, hOpB, hOpU, hOp, hOpT, aWanted, aYielded, opd, putT, closedV, aBin, intOp, sameK, mapO, joinR, hasAddr, boundOf, pushB, aAlloc, Value.cells, lookB, setB, Nat.beq_eq, tm_n_set, tm_get_set, tm_of_n, tm_of_get, tm_tr_set, tm_tr_of, cellV, putF, appR_eq, takeR_eq, dropR_eq, setR_eq, getR_eq, LD3, LD4, LD22, LD24, LD33, FA24_0, FA24_1, FA24_2, FA24_3, FA33_0, FA33_1, LEN22, ST33, ↓AL33, hmk, hc, h21, h20, h1, hn, t62, t22, t21, t20, t1, H0, H1, n0, n1]
              exact ⟨_, _, _, ⟨rfl, rfl, rfl⟩, .inr ⟨by simp, by simp [tm_n_set, hn], rfl, .inr ⟨rfl, by simp [tm_get_set, tm_n_set, hn, hsc]⟩⟩⟩
            | false =>
              simp [ho] at hsc
              rw [ho] at t62
              simp [ec_skip, ec_label, ek_reg, ek_draw, ek_seq, ec_cond, ek_block, ec_loop, ec_exit, ec_ret, ec_scope, ek_nil, ek_op, opK_some, regK_some, seqK_normal, seqK_exit, seqK_ret, blockK_normal, blockK_exit, blockK_ret, evOp, vOp, hOpB, hOpU, hOp, hOpT, aWanted, aYielded, opd, putT, closedV, aBin, intOp, sameK, mapO, joinR, hasAddr, boundOf, pushB, aAlloc, Value.cells, lookB, setB, Nat.beq_eq, tm_n_set, tm_get_set, tm_of_n, tm_of_get, tm_tr_set, tm_tr_of, cellV, putF, appR_eq, takeR_eq, dropR_eq, setR_eq, getR_eq, LD3, LD4, LD22, LD24, LD33, FA24_0, FA24_1, FA24_2, FA24_3, FA33_0, FA33_1, LEN22, ST33, ↓AL33, hmk, hc, h21, h20, h1, hn, t62, t22, t21, t20, t1, H0, H1, n0, n1]
              refine ⟨_, _, _, ⟨rfl, rfl, rfl⟩, .inl ⟨rfl, m, rfl, 1, by omega, hsc, ?_⟩⟩
              simp [tm_get_set, tm_n_set, hn, hc, h21, h20, h1, t22, t21, t20, t1, hw, wrapI_one, lookB, Nat.beq_eq, n0, n1, H0, H1]
              exact hM.push _

)
  rcases hx with ⟨rfl, hz⟩ | ⟨rfl, hz⟩
  · simp [ec_skip, ec_label, ek_reg, ek_draw, ek_seq, ec_cond, ek_block, ec_loop, ec_exit, ec_ret, ec_scope, ek_nil, ek_op, opK_some, regK_some, seqK_normal, seqK_exit, seqK_ret, blockK_normal, blockK_exit, blockK_ret, evOp, vOp, hOpB, hOpU, hOp, hOpT, aWanted, aYielded, opd, putT, closedV, aBin, intOp, sameK, mapO, joinR, hasAddr, boundOf, pushB, aAlloc, Value.cells, lookB, setB, Nat.beq_eq, tm_n_set, tm_get_set, tm_of_n, tm_of_get, tm_tr_set, tm_tr_of, cellV, putF, appR_eq, takeR_eq, dropR_eq, setR_eq, getR_eq, LD3, LD4, LD22, LD24, LD33, FA24_0, FA24_1, FA24_2, FA24_3, FA33_0, FA33_1, LEN22, ST33, ↓AL33, finF, takeM, resV, hl, hmk, hz]
  · simp [ec_skip, ec_label, ek_reg, ek_draw, ek_seq, ec_cond, ek_block, ec_loop, ec_exit, ec_ret, ec_scope, ek_nil, ek_op, opK_some, regK_some, seqK_normal, seqK_exit, seqK_ret, blockK_normal, blockK_exit, blockK_ret, evOp, vOp, hOpB, hOpU, hOp, hOpT, aWanted, aYielded, opd, putT, closedV, aBin, intOp, sameK, mapO, joinR, hasAddr, boundOf, pushB, aAlloc, Value.cells, lookB, setB, Nat.beq_eq, tm_n_set, tm_get_set, tm_of_n, tm_of_get, tm_tr_set, tm_tr_of, cellV, putF, appR_eq, takeR_eq, dropR_eq, setR_eq, getR_eq, LD3, LD4, LD22, LD24, LD33, FA24_0, FA24_1, FA24_2, FA24_3, FA33_0, FA33_1, LEN22, ST33, ↓AL33, finF, takeM, resV, hl, hmk, hz]


end Go.Proofs.YtbofnpohamajpaaDoor
