/-
  What is proved: what the document's own Points answers of every scale, every number of minor points and every value.
-/
import Derived.Test.YtlinnmehicbomaaDoorPd
namespace Go.Proofs.YtlinnmehicbomaaDoor
open Go.RowKit
set_option linter.unusedSimpArgs false
set_option linter.unusedVariables false

/-- The points of the last limit that a value reaches. -/
def refOut (cs : List Value) (v : Int) : Nat → Nat → Int → Int
  | 0, _, x => x
  | m + 1, i, x => refOut cs v m (i + 1) (if gi cs (i * 2) ≤ v then gi cs (i * 2 + 1) else x)
/-- A number doubled so often, but no further than to a greatest one. -/
def dblF (v most : Int) : Nat → Int → Int → Int
  | 0, _, n => n
  | m + 1, i, n => if i < v ∧ n < most ∧ 0 < n then dblF v most m (i + 1) (2 * n) else n

theorem NAT11 : ((tabT Tryd.prog) 24).map (fun z => (z.ex.nat 11, z.ex.mnz 11)) = some (none, none) := by kernel_rfl
theorem CALL11 (call : Value → List Value → AH → Option (Value × AH)) {tm : Tm} {k : Nat} {H : AH} {d : Option Tmp} {t : TypeId} {p : String} {a : Array Edge} {gd : Option (Nat × Bool)} : evOp (tabT Tryd.prog) call ⟨d, .call ⟨.value (.func 11), #[.tmp k], #[24]⟩, t, p, a, gd⟩ (opd tm) H = call (.func (.func 11) #[] #[]) [tm.get k] H :=
  evOp_evO.trans (eo_call1 rfl rfl NAT11)

/-- The code of f5's second loop. -/
def I5b (v most n0 : Int) (m : Nat) (A : AF) (H : AH) : Prop := ∃ (i : Nat) (n : Int), i + m = 20 ∧ 0 ≤ n ∧ (n ≤ 0 ∨ 1000000 ≤ n * 2 ^ m) ∧ dblF v most m i n = dblF v most 20 0 n0 ∧ A.tm.n = 95 ∧ A.marks = [] ∧ A.tm.get 11 = .int .i64 (i : Int) ∧ A.tm.get 10 = .int .i64 n ∧ A.tm.get 2 = .int .i64 v ∧ A.tm.get 7 = .int .i64 most
def Q5b (v most n0 : Int) (x : AX) (A' : AF) (H : AH) : Prop := x = .exit 2 ∧ A'.tm.n = 95 ∧ A'.marks = [] ∧ A'.tm.get 10 = .int .i64 (dblF v most 20 0 n0) ∧ A'.tm.get 7 = .int .i64 most

theorem dbl_end {v most : Int} {m : Nat} {i n : Int} (h : ¬ (i < v ∧ n < most ∧ 0 < n)) : dblF v most m i n = n := by
  cases m with
  | zero => rfl
  | succ m => rw [dblF, if_neg h]
theorem wrapI_two {n : Int} (h0 : 0 ≤ n) (h1 : n < 1000000) : wrapI .i64 (2 * n) = 2 * n := wrapI_small (by omega) (by omega)

def I5a (v mi : Int) (n : Nat) (cs : List Value) (x0 : AH) (m : Nat) (A : AF) (H : AH) : Prop := ∃ (i : Nat) (x : Int), i + m = n ∧ refOut cs v m i x = refOut cs v n 0 (-1) ∧ A.tm.n = 95 ∧ A.marks = [] ∧ A.tm.get 9 = .int .i64 (i : Int) ∧ A.tm.get 8 = .int .i64 x ∧ A.tm.get 1 = .int .i64 mi ∧ A.tm.get 2 = .int .i64 v ∧ A.tm.get 3 = .pointer (some ⟨1, 0, none⟩) ∧ H = x0
def Q5a (v mi : Int) (n : Nat) (cs : List Value) (x0 : AH) (x : AX) (A' : AF) (H : AH) : Prop := x = .exit 0 ∧ A'.tm.n = 95 ∧ A'.marks = [] ∧ A'.tm.get 8 = .int .i64 (refOut cs v n 0 (-1)) ∧ A'.tm.get 1 = .int .i64 mi ∧ A'.tm.get 2 = .int .i64 v ∧ A'.tm.get 3 = .pointer (some ⟨1, 0, none⟩) ∧ H = x0

/-- The document's points: e the scale's error. -/
noncomputable def refPts (e : Int) (b : Int) (d : Bool) (n : Nat) (cs : List Value) (mi v : Int) : Int :=
  if e = 0 ∧ ¬ mi < 0 ∧ ¬ 1000 < mi ∧ ¬ v < 0 ∧ ¬ 1073741824 < v then
    if 0 < n ∧ 0 ≤ refOut cs v n 0 (-1) then refOut cs v n 0 (-1)
    else if d then (if (if 0 < n then gi cs 1 else 1000000) < dblF v (if 0 < n then gi cs 1 else 1000000) 20 0 (wrapI .i64 (b * mi)) then (if 0 < n then gi cs 1 else 1000000) else dblF v (if 0 < n then gi cs 1 else 1000000) 20 0 (wrapI .i64 (b * mi)))
    else (if (if 0 < n then gi cs 1 else 1000000) < wrapI .i64 (wrapI .i64 (b * mi) * v) then (if 0 < n then gi cs 1 else 1000000) else wrapI .i64 (wrapI .i64 (b * mi) * v))
  else 0

set_option maxRecDepth 10000 in
set_option maxHeartbeats 8000000 in
theorem refPoints_core (call : Value → List Value → AH → Option (Value × AH)) {b : Int} {d : Bool} {u : Value} {n : Nat} {r mi v : Int} {cs : List Value} (hn : n ≤ 200) (hcs : okC cs (2 * n) = true)
    (hlen : aLen (tabT Tryd.prog) 22 u = some (.int .i64 n)) (hix : ∀ k : Nat, k < n → aIndexAddr (tabT Tryd.prog) 22 u (.int .i64 (k : Int)) = some (.pointer (some ⟨0, k * 2, none⟩)))
    {e : Int} (hC : ∀ H : AH, lookB H.bs 0 = some (.cells true cs) → call (.func (.func 11) #[] #[]) [.agg ⟨[.int .i64 b, .bool d, u, .int .i64 r]⟩] H = some (.int .i64 e, H))
    (hok : e = 0 → 0 ≤ b ∧ b ≤ 1000 ∧ (0 < n → 0 ≤ gi cs 1 ∧ gi cs 1 ≤ 1000000)) :
    ∃ H', evFn (tabT Tryd.prog) call 300 kpT 5 Tryd.f5 [.agg ⟨[.int .i64 b, .bool d, u, .int .i64 r]⟩, .int .i64 mi, .int .i64 v] ⟨1, [(0, .cells true cs)]⟩ = some (.int .i64 (refPts e b d n cs mi v), H') := by
  simp only [evFn, Tryd.f5, refPts]
  by_cases e1 : e = 0
  rotate_left
  · have e1' : (e != 0) = true := by simpa using e1
    simp [ec_skip, ec_label, ek_reg, ek_draw, ek_seq, ec_cond, ek_block, ec_loop, ec_exit, ec_ret, ec_scope, ek_nil, ek_op, opK_some, regK_some, seqK_normal, seqK_exit, seqK_ret, blockK_normal, blockK_exit, blockK_ret, evOp, vOp, hOpB, hOpU, hOp, hOpT, aWanted, aYielded, opd, putT, closedV, aBin, intOp, sameK, mapO, joinR, hasAddr, boundOf, pushB, aAlloc, Value.cells, lookB, setB, Nat.beq_eq, tm_n_set, tm_get_set, tm_of_n, tm_of_get, tm_tr_set, tm_tr_of, cellV, putF, appR_eq, takeR_eq, dropR_eq, setR_eq, getR_eq, LD3, LD4, LD22, LD24, LD33, FA24_0, FA24_1, FA24_2, FA24_3, FA33_0, FA33_1, LEN22, ST33, ↓AL33, ↓CALL11, tkc, finF, takeM, resV, hC, e1, e1']
  subst e1
  obtain ⟨hb0, hb1, hm⟩ := hok rfl
  by_cases e2 : mi < 0
  · simp [ec_skip, ec_label, ek_reg, ek_draw, ek_seq, ec_cond, ek_block, ec_loop, ec_exit, ec_ret, ec_scope, ek_nil, ek_op, opK_some, regK_some, seqK_normal, seqK_exit, seqK_ret, blockK_normal, blockK_exit, blockK_ret, evOp, vOp, hOpB, hOpU, hOp, hOpT, aWanted, aYielded, opd, putT, closedV, aBin, intOp, sameK, mapO, joinR, hasAddr, boundOf, pushB, aAlloc, Value.cells, lookB, setB, Nat.beq_eq, tm_n_set, tm_get_set, tm_of_n, tm_of_get, tm_tr_set, tm_tr_of, cellV, putF, appR_eq, takeR_eq, dropR_eq, setR_eq, getR_eq, LD3, LD4, LD22, LD24, LD33, FA24_0, FA24_1, FA24_2, FA24_3, FA33_0, FA33_1, LEN22, ST33, ↓AL33, ↓CALL11, tkc, finF, takeM, resV, hC, e2]
  by_cases e3 : 1000 < mi
  · simp [ec_skip, ec_label, ek_reg, ek_draw, ek_seq, ec_cond, ek_block, ec_loop, ec_exit, ec_ret, ec_scope, ek_nil, ek_op, opK_some, regK_some, seqK_normal, seqK_exit, seqK_ret, blockK_normal, blockK_exit, blockK_ret, evOp, vOp, hOpB, hOpU, hOp, hOpT, aWanted, aYielded, opd, putT, closedV, aBin, intOp, sameK, mapO, joinR, hasAddr, boundOf, pushB, aAlloc, Value.cells, lookB, setB, Nat.beq_eq, tm_n_set, tm_get_set, tm_of_n, tm_of_get, tm_tr_set, tm_tr_of, cellV, putF, appR_eq, takeR_eq, dropR_eq, setR_eq, getR_eq, LD3, LD4, LD22, LD24, LD33, FA24_0, FA24_1, FA24_2, FA24_3, FA33_0, FA33_1, LEN22, ST33, ↓AL33, ↓CALL11, tkc, finF, takeM, resV, hC, e2, e3]
  by_cases e4 : v < 0
  · simp [ec_skip, ec_label, ek_reg, ek_draw, ek_seq, ec_cond, ek_block, ec_loop, ec_exit, ec_ret, ec_scope, ek_nil, ek_op, opK_some, regK_some, seqK_normal, seqK_exit, seqK_ret, blockK_normal, blockK_exit, blockK_ret, evOp, vOp, hOpB, hOpU, hOp, hOpT, aWanted, aYielded, opd, putT, closedV, aBin, intOp, sameK, mapO, joinR, hasAddr, boundOf, pushB, aAlloc, Value.cells, lookB, setB, Nat.beq_eq, tm_n_set, tm_get_set, tm_of_n, tm_of_get, tm_tr_set, tm_tr_of, cellV, putF, appR_eq, takeR_eq, dropR_eq, setR_eq, getR_eq, LD3, LD4, LD22, LD24, LD33, FA24_0, FA24_1, FA24_2, FA24_3, FA33_0, FA33_1, LEN22, ST33, ↓AL33, ↓CALL11, tkc, finF, takeM, resV, hC, e2, e3, e4]
  by_cases e5 : 1073741824 < v
  · simp [ec_skip, ec_label, ek_reg, ek_draw, ek_seq, ec_cond, ek_block, ec_loop, ec_exit, ec_ret, ec_scope, ek_nil, ek_op, opK_some, regK_some, seqK_normal, seqK_exit, seqK_ret, blockK_normal, blockK_exit, blockK_ret, evOp, vOp, hOpB, hOpU, hOp, hOpT, aWanted, aYielded, opd, putT, closedV, aBin, intOp, sameK, mapO, joinR, hasAddr, boundOf, pushB, aAlloc, Value.cells, lookB, setB, Nat.beq_eq, tm_n_set, tm_get_set, tm_of_n, tm_of_get, tm_tr_set, tm_tr_of, cellV, putF, appR_eq, takeR_eq, dropR_eq, setR_eq, getR_eq, LD3, LD4, LD22, LD24, LD33, FA24_0, FA24_1, FA24_2, FA24_3, FA33_0, FA33_1, LEN22, ST33, ↓AL33, ↓CALL11, tkc, finF, takeM, resV, hC, e2, e3, e4, e5]
  have hbmI : 0 ≤ b * mi ∧ b * mi ≤ 1000000 := by
    refine ⟨Int.mul_nonneg hb0 (by omega), ?_⟩
    calc b * mi ≤ 1000 * mi := Int.mul_le_mul_of_nonneg_right hb1 (by omega)
      _ ≤ 1000 * 1000 := by omega
      _ = 1000000 := rfl
  have hbmw : wrapI .i64 (b * mi) = b * mi := wrapI_small (by omega) (by omega)
  have hbm : 0 ≤ wrapI .i64 (b * mi) ∧ wrapI .i64 (b * mi) ≤ 1000000 := by rw [hbmw]; exact hbmI
  by_cases e6 : 0 < n
  · have e6' : (0 : Int) < n := by omega
    have hm := hm e6
    simp [ec_skip, ec_label, ek_reg, ek_draw, ek_seq, ec_cond, ek_block, ec_loop, ec_exit, ec_ret, ec_scope, ek_nil, ek_op, opK_some, regK_some, seqK_normal, seqK_exit, seqK_ret, blockK_normal, blockK_exit, blockK_ret, evOp, vOp, hOpB, hOpU, hOp, hOpT, aWanted, aYielded, opd, putT, closedV, aBin, intOp, sameK, mapO, joinR, hasAddr, boundOf, pushB, aAlloc, Value.cells, lookB, setB, Nat.beq_eq, tm_n_set, tm_get_set, tm_of_n, tm_of_get, tm_tr_set, tm_tr_of, cellV, putF, appR_eq, takeR_eq, dropR_eq, setR_eq, getR_eq, LD3, LD4, LD22, LD24, LD33, FA24_0, FA24_1, FA24_2, FA24_3, FA33_0, FA33_1, LEN22, ST33, ↓AL33, ↓CALL11, tkc, hC, e2, e3, e4, e5, hlen, e6, e6']
    generalize hr : evLoop _ _ _ _ = rr
    obtain ⟨x1, A1, H1, rfl, rfl, hl, hmk, g8, g1, g2, g3, rfl⟩ := loop_go (Q := Q5a v mi n cs ⟨2, [(1, .cells false [.int .i64 b, .bool d, u, .int .i64 r]), (0, .cells true cs)]⟩) hr (I5a v mi n cs ⟨2, [(1, .cells false [.int .i64 b, .bool d, u, .int .i64 r]), (0, .cells true cs)]⟩) n (by omega) (by
        clear hr
        refine ⟨0, -1, by omega, rfl, by simp [tm_n_set, tm_of_n], rfl, ?_⟩
        simp [tm_get_set, tm_n_set, tm_of_n, tm_of_get]) (by
        clear hr
        rintro m A H ⟨i, x, him, hsc, hl, hmk, h9, h8, h1, h2, h3, rfl⟩
        simp only [runC]
        cases m with
        | zero =>
          have hi : ¬ i < n := by omega
          rw [refOut] at hsc
          simp [ec_skip, ec_label, ek_reg, ek_draw, ek_seq, ec_cond, ek_block, ec_loop, ec_exit, ec_ret, ec_scope, ek_nil, ek_op, opK_some, regK_some, seqK_normal, seqK_exit, seqK_ret, blockK_normal, blockK_exit, blockK_ret, evOp, vOp, hOpB, hOpU, hOp, hOpT, aWanted, aYielded, opd, putT, closedV, aBin, intOp, sameK, mapO, joinR, hasAddr, boundOf, pushB, aAlloc, Value.cells, lookB, setB, Nat.beq_eq, tm_n_set, tm_get_set, tm_of_n, tm_of_get, tm_tr_set, tm_tr_of, cellV, putF, appR_eq, takeR_eq, dropR_eq, setR_eq, getR_eq, LD3, LD4, LD22, LD24, LD33, FA24_0, FA24_1, FA24_2, FA24_3, FA33_0, FA33_1, LEN22, ST33, ↓AL33, ↓CALL11, tkc, hl, hmk, h9, h8, h1, h2, h3, hlen, hi]
          exact .inr ⟨by simp, rfl, by simp [tm_n_set, hl], rfl, by simp [tm_get_set, tm_n_set, hl, h8, hsc], by simp [tm_get_set, tm_n_set, hl, h1], by simp [tm_get_set, tm_n_set, hl, h2], by simp [tm_get_set, tm_n_set, hl, h3], rfl⟩
        | succ m =>
          have hi : i < n := by omega
          have hw : wrapI .i64 ((i : Int) + 1) = ((i + 1 : Nat) : Int) := by rw [wrapI_small (by omega) (by omega)]; rfl
          have p := hix i hi
          have c0 := okC_at hcs (j := i * 2) (by omega)
          have c1 := okC_at hcs (j := i * 2 + 1) (by omega)
          rw [refOut] at hsc
          by_cases hle : gi cs (i * 2) ≤ v
          · simp [hle] at hsc
            simp [ec_skip, ec_label, ek_reg, ek_draw, ek_seq, ec_cond, ek_block, ec_loop, ec_exit, ec_ret, ec_scope, ek_nil, ek_op, opK_some, regK_some, seqK_normal, seqK_exit, seqK_ret, blockK_normal, blockK_exit, blockK_ret, evOp, vOp, hOpB, hOpU, hOp, hOpT, aWanted, aYielded, opd, putT, closedV, aBin, intOp, sameK, mapO, joinR, hasAddr, boundOf, pushB, aAlloc, Value.cells, lookB, setB, Nat.beq_eq, tm_n_set, tm_get_set, tm_of_n, tm_of_get, tm_tr_set, tm_tr_of, cellV, putF, appR_eq, takeR_eq, dropR_eq, setR_eq, getR_eq, LD3, LD4, LD22, LD24, LD33, FA24_0, FA24_1, FA24_2, FA24_3, FA33_0, FA33_1, LEN22, ST33, ↓AL33, ↓CALL11, tkc, hl, hmk, h9, h8, h1, h2, h3, hlen, hi, p, c0, c1, hle]
            refine .inl ⟨rfl, m, rfl, i + 1, gi cs (i * 2 + 1), by omega, hsc, ?_⟩
            simp [tm_get_set, tm_n_set, hl, h9, h8, h1, h2, h3, hw]
          · simp [hle] at hsc
            simp [ec_skip, ec_label, ek_reg, ek_draw, ek_seq, ec_cond, ek_block, ec_loop, ec_exit, ec_ret, ec_scope, ek_nil, ek_op, opK_some, regK_some, seqK_normal, seqK_exit, seqK_ret, blockK_normal, blockK_exit, blockK_ret, evOp, vOp, hOpB, hOpU, hOp, hOpT, aWanted, aYielded, opd, putT, closedV, aBin, intOp, sameK, mapO, joinR, hasAddr, boundOf, pushB, aAlloc, Value.cells, lookB, setB, Nat.beq_eq, tm_n_set, tm_get_set, tm_of_n, tm_of_get, tm_tr_set, tm_tr_of, cellV, putF, appR_eq, takeR_eq, dropR_eq, setR_eq, getR_eq, LD3, LD4, LD22, LD24, LD33, FA24_0, FA24_1, FA24_2, FA24_3, FA33_0, FA33_1, LEN22, ST33, ↓AL33, ↓CALL11, tkc, hl, hmk, h9, h8, h1, h2, h3, hlen, hi, p, c0, c1, hle]
            refine .inl ⟨rfl, m, rfl, i + 1, x, by omega, hsc, ?_⟩
            simp [tm_get_set, tm_n_set, hl, h9, h8, h1, h2, h3, hw])
    have p := hix 0 e6
    have c1 := okC_at hcs (j := 1) (by omega)
    simp only [Nat.zero_mul] at p
    have p' : aIndexAddr (tabT Tryd.prog) 22 u (.int .i64 0) = some (.pointer (some ⟨0, 0, none⟩)) := p
    by_cases e7 : 0 ≤ refOut cs v n 0 (-1)
    · simp [ec_skip, ec_label, ek_reg, ek_draw, ek_seq, ec_cond, ek_block, ec_loop, ec_exit, ec_ret, ec_scope, ek_nil, ek_op, opK_some, regK_some, seqK_normal, seqK_exit, seqK_ret, blockK_normal, blockK_exit, blockK_ret, evOp, vOp, hOpB, hOpU, hOp, hOpT, aWanted, aYielded, opd, putT, closedV, aBin, intOp, sameK, mapO, joinR, hasAddr, boundOf, pushB, aAlloc, Value.cells, lookB, setB, Nat.beq_eq, tm_n_set, tm_get_set, tm_of_n, tm_of_get, tm_tr_set, tm_tr_of, cellV, putF, appR_eq, takeR_eq, dropR_eq, setR_eq, getR_eq, LD3, LD4, LD22, LD24, LD33, FA24_0, FA24_1, FA24_2, FA24_3, FA33_0, FA33_1, LEN22, ST33, ↓AL33, ↓CALL11, tkc, finF, takeM, resV, hl, hmk, g8, g1, g2, g3, e7]
    · cases d with
      | false => simp [ec_skip, ec_label, ek_reg, ek_draw, ek_seq, ec_cond, ek_block, ec_loop, ec_exit, ec_ret, ec_scope, ek_nil, ek_op, opK_some, regK_some, seqK_normal, seqK_exit, seqK_ret, blockK_normal, blockK_exit, blockK_ret, evOp, vOp, hOpB, hOpU, hOp, hOpT, aWanted, aYielded, opd, putT, closedV, aBin, intOp, sameK, mapO, joinR, hasAddr, boundOf, pushB, aAlloc, Value.cells, lookB, setB, Nat.beq_eq, tm_n_set, tm_get_set, tm_of_n, tm_of_get, tm_tr_set, tm_tr_of, cellV, putF, appR_eq, takeR_eq, dropR_eq, setR_eq, getR_eq, LD3, LD4, LD22, LD24, LD33, FA24_0, FA24_1, FA24_2, FA24_3, FA33_0, FA33_1, LEN22, ST33, ↓AL33, ↓CALL11, tkc, finF, takeM, resV, hl, hmk, g8, g1, g2, g3, e7, p', c1]
      | true =>
        simp [ec_skip, ec_label, ek_reg, ek_draw, ek_seq, ec_cond, ek_block, ec_loop, ec_exit, ec_ret, ec_scope, ek_nil, ek_op, opK_some, regK_some, seqK_normal, seqK_exit, seqK_ret, blockK_normal, blockK_exit, blockK_ret, evOp, vOp, hOpB, hOpU, hOp, hOpT, aWanted, aYielded, opd, putT, closedV, aBin, intOp, sameK, mapO, joinR, hasAddr, boundOf, pushB, aAlloc, Value.cells, lookB, setB, Nat.beq_eq, tm_n_set, tm_get_set, tm_of_n, tm_of_get, tm_tr_set, tm_tr_of, cellV, putF, appR_eq, takeR_eq, dropR_eq, setR_eq, getR_eq, LD3, LD4, LD22, LD24, LD33, FA24_0, FA24_1, FA24_2, FA24_3, FA33_0, FA33_1, LEN22, ST33, ↓AL33, ↓CALL11, tkc, hl, hmk, g8, g1, g2, g3, e7, p', c1]
        generalize hr2 : evLoop _ _ _ _ = rr2
        obtain ⟨x2, A2, H2, rfl, rfl, hl2, hmk2, g10, g7⟩ := loop_go (Q := Q5b v (gi cs 1) (wrapI .i64 (b * mi))) hr2 (I5b v (gi cs 1) (wrapI .i64 (b * mi))) 20 (by omega) (by
            clear hr2
            refine ⟨0, wrapI .i64 (b * mi), by omega, hbm.1, by omega, rfl, by simp [tm_n_set, tm_of_n, hl], rfl, ?_⟩
            simp [tm_get_set, tm_n_set, tm_of_n, tm_of_get, hl, g1, g2, g3]) (by
            clear hr2
            rintro m A H ⟨i, q, him, hq0, hqm, hdb, hl, hmk, h11, h10, h2, h7⟩
            simp only [runC]
            by_cases cA : (i : Int) < v
            · by_cases cB : q < gi cs 1
              · by_cases cC : 0 < q
                · cases m with
                  | zero => exfalso; simp at hqm; omega
                  | succ m =>
                    have hw : wrapI .i64 ((i : Int) + 1) = ((i + 1 : Nat) : Int) := by rw [wrapI_small (by omega) (by omega)]; rfl
                    have hw2 := wrapI_two hq0 (by omega)
                    simp [ec_skip, ec_label, ek_reg, ek_draw, ek_seq, ec_cond, ek_block, ec_loop, ec_exit, ec_ret, ec_scope, ek_nil, ek_op, opK_some, regK_some, seqK_normal, seqK_exit, seqK_ret, blockK_normal, blockK_exit, blockK_ret, evOp, vOp, hOpB, hOpU, hOp, hOpT, aWanted, aYielded, opd, putT, closedV, aBin, intOp, sameK, mapO, joinR, hasAddr, boundOf, pushB, aAlloc, Value.cells, lookB, setB, Nat.beq_eq, tm_n_set, tm_get_set, tm_of_n, tm_of_get, tm_tr_set, tm_tr_of, cellV, putF, appR_eq, takeR_eq, dropR_eq, setR_eq, getR_eq, LD3, LD4, LD22, LD24, LD33, FA24_0, FA24_1, FA24_2, FA24_3, FA33_0, FA33_1, LEN22, ST33, ↓AL33, ↓CALL11, tkc, hl, hmk, h11, h10, h2, h7, cA, cB, cC]
                    rw [dblF, if_pos ⟨cA, cB, cC⟩] at hdb
                    refine .inl ⟨rfl, m, rfl, i + 1, 2 * q, by omega, by omega, ?_, by simpa using hdb, ?_⟩
                    · rcases hqm with hqm | hqm
                      · omega
                      · right; rw [Int.pow_succ] at hqm; rw [show 2 * q * 2 ^ m = q * (2 ^ m * 2) by rw [Int.mul_comm (2 ^ m) 2, ← Int.mul_assoc, Int.mul_comm q 2]]; exact hqm
                    · simp [tm_get_set, tm_n_set, hl, h11, h10, h2, h7, hw, hw2]
                · rw [dbl_end (by omega)] at hdb
                  simp [ec_skip, ec_label, ek_reg, ek_draw, ek_seq, ec_cond, ek_block, ec_loop, ec_exit, ec_ret, ec_scope, ek_nil, ek_op, opK_some, regK_some, seqK_normal, seqK_exit, seqK_ret, blockK_normal, blockK_exit, blockK_ret, evOp, vOp, hOpB, hOpU, hOp, hOpT, aWanted, aYielded, opd, putT, closedV, aBin, intOp, sameK, mapO, joinR, hasAddr, boundOf, pushB, aAlloc, Value.cells, lookB, setB, Nat.beq_eq, tm_n_set, tm_get_set, tm_of_n, tm_of_get, tm_tr_set, tm_tr_of, cellV, putF, appR_eq, takeR_eq, dropR_eq, setR_eq, getR_eq, LD3, LD4, LD22, LD24, LD33, FA24_0, FA24_1, FA24_2, FA24_3, FA33_0, FA33_1, LEN22, ST33, ↓AL33, ↓CALL11, tkc, hl, hmk, h11, h10, h2, h7, cA, cB, cC]
                  exact .inr ⟨by simp, rfl, by simp [tm_n_set, hl], rfl, by simp [tm_get_set, tm_n_set, hl, h10, hdb], by simp [tm_get_set, tm_n_set, hl, h7]⟩
              · rw [dbl_end (by omega)] at hdb
                simp [ec_skip, ec_label, ek_reg, ek_draw, ek_seq, ec_cond, ek_block, ec_loop, ec_exit, ec_ret, ec_scope, ek_nil, ek_op, opK_some, regK_some, seqK_normal, seqK_exit, seqK_ret, blockK_normal, blockK_exit, blockK_ret, evOp, vOp, hOpB, hOpU, hOp, hOpT, aWanted, aYielded, opd, putT, closedV, aBin, intOp, sameK, mapO, joinR, hasAddr, boundOf, pushB, aAlloc, Value.cells, lookB, setB, Nat.beq_eq, tm_n_set, tm_get_set, tm_of_n, tm_of_get, tm_tr_set, tm_tr_of, cellV, putF, appR_eq, takeR_eq, dropR_eq, setR_eq, getR_eq, LD3, LD4, LD22, LD24, LD33, FA24_0, FA24_1, FA24_2, FA24_3, FA33_0, FA33_1, LEN22, ST33, ↓AL33, ↓CALL11, tkc, hl, hmk, h11, h10, h2, h7, cA, cB]
                exact .inr ⟨by simp, rfl, by simp [tm_n_set, hl], rfl, by simp [tm_get_set, tm_n_set, hl, h10, hdb], by simp [tm_get_set, tm_n_set, hl, h7]⟩
            · rw [dbl_end (by omega)] at hdb
              simp [ec_skip, ec_label, ek_reg, ek_draw, ek_seq, ec_cond, ek_block, ec_loop, ec_exit, ec_ret, ec_scope, ek_nil, ek_op, opK_some, regK_some, seqK_normal, seqK_exit, seqK_ret, blockK_normal, blockK_exit, blockK_ret, evOp, vOp, hOpB, hOpU, hOp, hOpT, aWanted, aYielded, opd, putT, closedV, aBin, intOp, sameK, mapO, joinR, hasAddr, boundOf, pushB, aAlloc, Value.cells, lookB, setB, Nat.beq_eq, tm_n_set, tm_get_set, tm_of_n, tm_of_get, tm_tr_set, tm_tr_of, cellV, putF, appR_eq, takeR_eq, dropR_eq, setR_eq, getR_eq, LD3, LD4, LD22, LD24, LD33, FA24_0, FA24_1, FA24_2, FA24_3, FA33_0, FA33_1, LEN22, ST33, ↓AL33, ↓CALL11, tkc, hl, hmk, h11, h10, h2, h7, cA]
              exact .inr ⟨by simp, rfl, by simp [tm_n_set, hl], rfl, by simp [tm_get_set, tm_n_set, hl, h10, hdb], by simp [tm_get_set, tm_n_set, hl, h7]⟩)
        simp [ec_skip, ec_label, ek_reg, ek_draw, ek_seq, ec_cond, ek_block, ec_loop, ec_exit, ec_ret, ec_scope, ek_nil, ek_op, opK_some, regK_some, seqK_normal, seqK_exit, seqK_ret, blockK_normal, blockK_exit, blockK_ret, evOp, vOp, hOpB, hOpU, hOp, hOpT, aWanted, aYielded, opd, putT, closedV, aBin, intOp, sameK, mapO, joinR, hasAddr, boundOf, pushB, aAlloc, Value.cells, lookB, setB, Nat.beq_eq, tm_n_set, tm_get_set, tm_of_n, tm_of_get, tm_tr_set, tm_tr_of, cellV, putF, appR_eq, takeR_eq, dropR_eq, setR_eq, getR_eq, LD3, LD4, LD22, LD24, LD33, FA24_0, FA24_1, FA24_2, FA24_3, FA33_0, FA33_1, LEN22, ST33, ↓AL33, ↓CALL11, tkc, finF, takeM, resV, hl2, hmk2, g10, g7]

  · obtain rfl : n = 0 := by omega
    cases d with
    | false => simp [ec_skip, ec_label, ek_reg, ek_draw, ek_seq, ec_cond, ek_block, ec_loop, ec_exit, ec_ret, ec_scope, ek_nil, ek_op, opK_some, regK_some, seqK_normal, seqK_exit, seqK_ret, blockK_normal, blockK_exit, blockK_ret, evOp, vOp, hOpB, hOpU, hOp, hOpT, aWanted, aYielded, opd, putT, closedV, aBin, intOp, sameK, mapO, joinR, hasAddr, boundOf, pushB, aAlloc, Value.cells, lookB, setB, Nat.beq_eq, tm_n_set, tm_get_set, tm_of_n, tm_of_get, tm_tr_set, tm_tr_of, cellV, putF, appR_eq, takeR_eq, dropR_eq, setR_eq, getR_eq, LD3, LD4, LD22, LD24, LD33, FA24_0, FA24_1, FA24_2, FA24_3, FA33_0, FA33_1, LEN22, ST33, ↓AL33, ↓CALL11, tkc, finF, takeM, resV, hC, e2, e3, e4, e5, hlen]
    | true =>
      simp [ec_skip, ec_label, ek_reg, ek_draw, ek_seq, ec_cond, ek_block, ec_loop, ec_exit, ec_ret, ec_scope, ek_nil, ek_op, opK_some, regK_some, seqK_normal, seqK_exit, seqK_ret, blockK_normal, blockK_exit, blockK_ret, evOp, vOp, hOpB, hOpU, hOp, hOpT, aWanted, aYielded, opd, putT, closedV, aBin, intOp, sameK, mapO, joinR, hasAddr, boundOf, pushB, aAlloc, Value.cells, lookB, setB, Nat.beq_eq, tm_n_set, tm_get_set, tm_of_n, tm_of_get, tm_tr_set, tm_tr_of, cellV, putF, appR_eq, takeR_eq, dropR_eq, setR_eq, getR_eq, LD3, LD4, LD22, LD24, LD33, FA24_0, FA24_1, FA24_2, FA24_3, FA33_0, FA33_1, LEN22, ST33, ↓AL33, ↓CALL11, tkc, hC, e2, e3, e4, e5, hlen]
      generalize hr2 : evLoop _ _ _ _ = rr2
      obtain ⟨x2, A2, H2, rfl, rfl, hl2, hmk2, g10, g7⟩ := loop_go (Q := Q5b v (1000000) (wrapI .i64 (b * mi))) hr2 (I5b v (1000000) (wrapI .i64 (b * mi))) 20 (by omega) (by
          clear hr2
          refine ⟨0, wrapI .i64 (b * mi), by omega, hbm.1, by omega, rfl, by simp [tm_n_set, tm_of_n], rfl, ?_⟩
          simp [tm_get_set, tm_n_set, tm_of_n, tm_of_get]) (by
          clear hr2
          rintro m A H ⟨i, q, him, hq0, hqm, hdb, hl, hmk, h11, h10, h2, h7⟩
          simp only [runC]
          by_cases cA : (i : Int) < v
          · by_cases cB : q < 1000000
            · by_cases cC : 0 < q
              · cases m with
                | zero => exfalso; simp at hqm; omega
                | succ m =>
                  have hw : wrapI .i64 ((i : Int) + 1) = ((i + 1 : Nat) : Int) := by rw [wrapI_small (by omega) (by omega)]; rfl
                  have hw2 := wrapI_two hq0 (by omega)
                  simp [ec_skip, ec_label, ek_reg, ek_draw, ek_seq, ec_cond, ek_block, ec_loop, ec_exit, ec_ret, ec_scope, ek_nil, ek_op, opK_some, regK_some, seqK_normal, seqK_exit, seqK_ret, blockK_normal, blockK_exit, blockK_ret, evOp, vOp, hOpB, hOpU, hOp, hOpT, aWanted, aYielded, opd, putT, closedV, aBin, intOp, sameK, mapO, joinR, hasAddr, boundOf, pushB, aAlloc, Value.cells, lookB, setB, Nat.beq_eq, tm_n_set, tm_get_set, tm_of_n, tm_of_get, tm_tr_set, tm_tr_of, cellV, putF, appR_eq, takeR_eq, dropR_eq, setR_eq, getR_eq, LD3, LD4, LD22, LD24, LD33, FA24_0, FA24_1, FA24_2, FA24_3, FA33_0, FA33_1, LEN22, ST33, ↓AL33, ↓CALL11, tkc, hl, hmk, h11, h10, h2, h7, cA, cB, cC]
                  rw [dblF, if_pos ⟨cA, cB, cC⟩] at hdb
                  refine .inl ⟨rfl, m, rfl, i + 1, 2 * q, by omega, by omega, ?_, by simpa using hdb, ?_⟩
                  · rcases hqm with hqm | hqm
                    · omega
                    · right; rw [Int.pow_succ] at hqm; rw [show 2 * q * 2 ^ m = q * (2 ^ m * 2) by rw [Int.mul_comm (2 ^ m) 2, ← Int.mul_assoc, Int.mul_comm q 2]]; exact hqm
                  · simp [tm_get_set, tm_n_set, hl, h11, h10, h2, h7, hw, hw2]
              · rw [dbl_end (by omega)] at hdb
                simp [ec_skip, ec_label, ek_reg, ek_draw, ek_seq, ec_cond, ek_block, ec_loop, ec_exit, ec_ret, ec_scope, ek_nil, ek_op, opK_some, regK_some, seqK_normal, seqK_exit, seqK_ret, blockK_normal, blockK_exit, blockK_ret, evOp, vOp, hOpB, hOpU, hOp, hOpT, aWanted, aYielded, opd, putT, closedV, aBin, intOp, sameK, mapO, joinR, hasAddr, boundOf, pushB, aAlloc, Value.cells, lookB, setB, Nat.beq_eq, tm_n_set, tm_get_set, tm_of_n, tm_of_get, tm_tr_set, tm_tr_of, cellV, putF, appR_eq, takeR_eq, dropR_eq, setR_eq, getR_eq, LD3, LD4, LD22, LD24, LD33, FA24_0, FA24_1, FA24_2, FA24_3, FA33_0, FA33_1, LEN22, ST33, ↓AL33, ↓CALL11, tkc, hl, hmk, h11, h10, h2, h7, cA, cB, cC]
                exact .inr ⟨by simp, rfl, by simp [tm_n_set, hl], rfl, by simp [tm_get_set, tm_n_set, hl, h10, hdb], by simp [tm_get_set, tm_n_set, hl, h7]⟩
            · rw [dbl_end (by omega)] at hdb
              simp [ec_skip, ec_label, ek_reg, ek_draw, ek_seq, ec_cond, ek_block, ec_loop, ec_exit, ec_ret, ec_scope, ek_nil, ek_op, opK_some, regK_some, seqK_normal, seqK_exit, seqK_ret, blockK_normal, blockK_exit, blockK_ret, evOp, vOp, hOpB, hOpU, hOp, hOpT, aWanted, aYielded, opd, putT, closedV, aBin, intOp, sameK, mapO, joinR, hasAddr, boundOf, pushB, aAlloc, Value.cells, lookB, setB, Nat.beq_eq, tm_n_set, tm_get_set, tm_of_n, tm_of_get, tm_tr_set, tm_tr_of, cellV, putF, appR_eq, takeR_eq, dropR_eq, setR_eq, getR_eq, LD3, LD4, LD22, LD24, LD33, FA24_0, FA24_1, FA24_2, FA24_3, FA33_0, FA33_1, LEN22, ST33, ↓AL33, ↓CALL11, tkc, hl, hmk, h11, h10, h2, h7, cA, cB]
              exact .inr ⟨by simp, rfl, by simp [tm_n_set, hl], rfl, by simp [tm_get_set, tm_n_set, hl, h10, hdb], by simp [tm_get_set, tm_n_set, hl, h7]⟩
          · rw [dbl_end (by omega)] at hdb
            simp [ec_skip, ec_label, ek_reg, ek_draw, ek_seq, ec_cond, ek_block, ec_loop, ec_exit, ec_ret, ec_scope, ek_nil, ek_op, opK_some, regK_some, seqK_normal, seqK_exit, seqK_ret, blockK_normal, blockK_exit, blockK_ret, evOp, vOp, hOpB, hOpU, hOp, hOpT, aWanted, aYielded, opd, putT, closedV, aBin, intOp, sameK, mapO, joinR, hasAddr, boundOf, pushB, aAlloc, Value.cells, lookB, setB, Nat.beq_eq, tm_n_set, tm_get_set, tm_of_n, tm_of_get, tm_tr_set, tm_tr_of, cellV, putF, appR_eq, takeR_eq, dropR_eq, setR_eq, getR_eq, LD3, LD4, LD22, LD24, LD33, FA24_0, FA24_1, FA24_2, FA24_3, FA33_0, FA33_1, LEN22, ST33, ↓AL33, ↓CALL11, tkc, hl, hmk, h11, h10, h2, h7, cA]
            exact .inr ⟨by simp, rfl, by simp [tm_n_set, hl], rfl, by simp [tm_get_set, tm_n_set, hl, h10, hdb], by simp [tm_get_set, tm_n_set, hl, h7]⟩)
      simp [ec_skip, ec_label, ek_reg, ek_draw, ek_seq, ec_cond, ek_block, ec_loop, ec_exit, ec_ret, ec_scope, ek_nil, ek_op, opK_some, regK_some, seqK_normal, seqK_exit, seqK_ret, blockK_normal, blockK_exit, blockK_ret, evOp, vOp, hOpB, hOpU, hOp, hOpT, aWanted, aYielded, opd, putT, closedV, aBin, intOp, sameK, mapO, joinR, hasAddr, boundOf, pushB, aAlloc, Value.cells, lookB, setB, Nat.beq_eq, tm_n_set, tm_get_set, tm_of_n, tm_of_get, tm_tr_set, tm_tr_of, cellV, putF, appR_eq, takeR_eq, dropR_eq, setR_eq, getR_eq, LD3, LD4, LD22, LD24, LD33, FA24_0, FA24_1, FA24_2, FA24_3, FA33_0, FA33_1, LEN22, ST33, ↓AL33, ↓CALL11, tkc, finF, takeM, resV, hl2, hmk2, g10, g7]


end Go.Proofs.YtlinnmehicbomaaDoor
