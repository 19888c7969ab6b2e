/-
  What is proved: what the kit's source answers: NewSource, Below, Range, Odds, and Into.
-/
import Derived.Test.YtbofnpohamajpaaDoorPd
import Derived.Test.YtbofnpohamajpaaDoorSu
namespace Go.Proofs.YtbofnpohamajpaaDoor
open Go.RowKit
set_option linter.unusedSimpArgs false
set_option linter.unusedVariables false

theorem LD37 (H : AH) (i off : Nat) : aLoad (tabT Tryd.prog) H 37 (.pointer (some ⟨i, off, none⟩)) = match lookB H.bs i with | some (.cells _ cs) => cs[off]? | _ => none := ldc (by kernel_rfl) H i off
theorem FA39_0 (i off : Nat) : aFieldAddr (tabT Tryd.prog) 39 (.pointer (some ⟨i, off, none⟩)) 0 = some (.pointer (some ⟨i, off + 0, none⟩)) := by kernel_rfl
theorem LENI (a : Option Addr) (n z : Nat) : aLen (tabT Tryd.prog) 22 (.slice a n z) = some (.int .i64 n) := lens (e := 3) (by kernel_rfl) a n z
theorem ST37 (H : AH) (i off : Nat) (v : Value) : aStore (tabT Tryd.prog) H 37 (.pointer (some ⟨i, off, none⟩)) v = match lookB H.bs i with
    | some (.cells false cs) => if Nat.beq v.cells.toList.length 1 && Nat.ble (off + v.cells.toList.length) cs.length && v.cells.toList.all cellV then some { H with bs := setB H.bs i (.cells false (putF cs off v.cells.toList)) } else none
    | _ => none := sti (by kernel_rfl) H i off v
theorem ST23 (H : AH) (i off : Nat) (v : Value) : aStore (tabT Tryd.prog) H 23 (.pointer (some ⟨i, off, none⟩)) v = match lookB H.bs i with
    | some (.cells false cs) => if Nat.beq v.cells.toList.length 1 && Nat.ble (off + v.cells.toList.length) cs.length && v.cells.toList.all cellV then some { H with bs := setB H.bs i (.cells false (putF cs off v.cells.toList)) } else none
    | _ => none := sti (by kernel_rfl) H i off v
theorem ST25 (H : AH) (i off : Nat) (v : Value) : aStore (tabT Tryd.prog) H 25 (.pointer (some ⟨i, off, none⟩)) v = match lookB H.bs i with
    | some (.cells false cs) => if Nat.beq v.cells.toList.length 4 && Nat.ble (off + v.cells.toList.length) cs.length && v.cells.toList.all cellV then some { H with bs := setB H.bs i (.cells false (putF cs off v.cells.toList)) } else none
    | _ => none := sti (by kernel_rfl) H i off v
theorem AL25 {call : Value → List Value → AH → Option (Value × AH)} {g : Operand → Option Value} {H : AH} {d : Option Tmp} {t : TypeId} {p : String} {a : Array Edge} {gd : Option (Nat × Bool)} : evOp (tabT Tryd.prog) call ⟨d, .alloc 25, t, p, a, gd⟩ g H = some (.pointer (some ⟨H.next, 0, none⟩), ⟨H.next + 1, (H.next, .cells false [.int .i64 0, .bool false, .slice none 0 0, .int .i64 0]) :: H.bs⟩) :=
  evOp_evO.trans (eo_alloc (cs := [.int .i64 0, .bool false, .slice none 0 0, .int .i64 0]) (by kernel_rfl))
theorem CV3_37 {g : Operand → Option Value} {x : Operand} : vOp (tabT Tryd.prog) g (.convert 3 37 x) = match g x with | some (.int _ n) => some (.int .u64 (wrapI .u64 n)) | _ => none := cvt (by kernel_rfl) (by kernel_rfl)
theorem CV37_3 {g : Operand → Option Value} {x : Operand} : vOp (tabT Tryd.prog) g (.convert 37 3 x) = match g x with | some (.int _ n) => some (.int .i64 (wrapI .i64 n)) | _ => none := cvt (by kernel_rfl) (by kernel_rfl)
theorem T3e : ∃ s b z ex, (tabT Tryd.prog) 3 = some ⟨s, b, z, .int .i64, ex⟩ := tdesc (by kernel_rfl)
theorem T37e : ∃ s b z ex, (tabT Tryd.prog) 37 = some ⟨s, b, z, .int .u64, ex⟩ := tdesc (by kernel_rfl)
theorem kp11 : kpT 11 = true := by kernel_rfl
theorem kp9 : kpT 9 = true := by kernel_rfl
theorem kp10 : kpT 10 = true := by kernel_rfl
theorem gc11 : gcT 11 = false := by kernel_rfl
theorem gc9 : gcT 9 = false := by kernel_rfl
theorem gc10 : gcT 10 = false := by kernel_rfl
theorem gc4 : gcT 4 = false := by kernel_rfl
theorem gc5 : gcT 5 = false := by kernel_rfl
theorem b23 : Nat.beq 2 3 = false := rfl
theorem b03 : Nat.beq 0 3 = false := rfl
theorem b64 : IntKind.u64.bits = 64 := rfl

/-- A source's number and its next state. -/
def BelOK (call : Value → List Value → AH → Option (Value × AH)) (f : FuncId) : Prop := ∀ (i : Nat) (n x : Int) (H : AH), 1 ≤ n → n ≤ 4611686018427387904 → MI H → lookB H.bs i = some (.cells false [.int .u64 x]) →
  call (.func (.func f) #[] #[]) [.pointer (some ⟨i, 0, none⟩), .int .i64 n] H = some (.int .i64 (belX x n), ⟨H.next, setB H.bs i (.cells false [.int .u64 (nxtX x)])⟩)

set_option maxRecDepth 10000 in
set_option maxHeartbeats 8000000 in
theorem below_ev (call : Value → List Value → AH → Option (Value × AH)) (L : Nat) {i : Nat} {n x : Int} {H : AH} (h1 : 1 ≤ n) (h2 : n ≤ 4611686018427387904) (hM : MI H) (hi : lookB H.bs i = some (.cells false [.int .u64 x])) :
    evFn (tabT Tryd.prog) call L kpT 11 Tryd.f11 [.pointer (some ⟨i, 0, none⟩), .int .i64 n] H = some (.int .i64 (belX x n), ⟨H.next, setB H.bs i (.cells false [.int .u64 (nxtX x)])⟩) := by
  obtain ⟨_, _, _, _, t3⟩ := T3e
  obtain ⟨_, _, _, _, t37⟩ := T37e
  have c1 : ¬ n < 1 := by omega
  have hw : ¬ wrapI .u64 n = 0 := by simp only [wrapI]; omega
  have hM' := hM.set i (.cells false [.int .u64 (nxtX x)])
  have hl : lookB (setB H.bs i (.cells false [.int .u64 (nxtX x)])) i = some (.cells false [.int .u64 (nxtX x)]) := by simp [lookB_setB, hi]
  have R := lookB_roB_cells _ _ _ _ hl hM'.1
  have hnew := hM'.new
  simp only [nxtX] at R hnew hl
  simp only [evFn, Tryd.f11]
  simp [ec_skip, ec_label, ek_reg, ek_draw, ek_seq, ec_cond, ek_block, ec_loop, ec_exit, ec_ret, ec_scope, ek_nil, ek_op, opK_some, regK_some, seqK_normal, seqK_exit, seqK_ret, blockK_normal, blockK_exit, blockK_ret, evOp, vOp, hOpB, hOpU, hOp, hOpT, aWanted, aYielded, opd, putT, closedV, aBin, intOp, sameK, mapO, joinR, hasAddr, boundOf, pushB, aAlloc, Value.cells, lookB, setB, Nat.beq_eq, tm_n_set, tm_get_set, tm_of_n, tm_of_get, tm_tr_set, tm_tr_of, cellV, putF, appR_eq, takeR_eq, dropR_eq, setR_eq, getR_eq, LD3, LD4, LD22, LD24, LD33, LD37, FA24_0, FA24_1, FA24_2, FA24_3, FA33_0, FA33_1, FA39_0, LEN22, LENI, ST33, ST37, ST23, ST25, ↓AL33, ↓AL25, t3, t37, lookB_setB, shOp, b64, hi, c1]
  generalize hX : evDrawX _ _ _ _ _ = X
  obtain ⟨tm, rfl, hnn, t4⟩ := draw_ro (Pt := fun tm => tm.get 4 = .int .i64 (belX x n)) hX (by kernel_rfl) hM'.1 (by
    clear hX
    generalize befs _ = M
    simp [mapO, drRun, drOp, dr3, looks, guardT, tmpsOf, Op.operands, Call.operands, wantedR, gOf, finT, natMem, isNil, writesF, evOp, vOp, hOpB, hOpU, hOp, hOpT, opd, closedV, aBin, intOp, sameK, opdO, boundOf, undef, lookB, Nat.beq_eq, tm_n_set, tm_get_set, tm_of_n, tm_of_get, tm_tr_set, tm_tr_of, b02, b12, b32, roB, roK, newOnes, LD3, LD4, LD22, LD24, LD33, LD37, FA24_0, FA24_1, FA24_2, FA24_3, FA33_0, FA33_1, FA39_0, LEN22, LENI, ST33, ST37, ST23, ST25, ↓AL33, ↓AL25, t3, t37, shOp, b64, R, hnew, hw]
    refine ⟨by simp [dynOK, b02, b12, b32], by simp [wheap, news, b02, b12, b32], by simp [belX, nxtX, c1]⟩)
  clear hX
  simp [ec_skip, ec_label, ek_reg, ek_draw, ek_seq, ec_cond, ek_block, ec_loop, ec_exit, ec_ret, ec_scope, ek_nil, ek_op, opK_some, regK_some, seqK_normal, seqK_exit, seqK_ret, blockK_normal, blockK_exit, blockK_ret, evOp, vOp, hOpB, hOpU, hOp, hOpT, aWanted, aYielded, opd, putT, closedV, aBin, intOp, sameK, mapO, joinR, hasAddr, boundOf, pushB, aAlloc, Value.cells, lookB, setB, Nat.beq_eq, tm_n_set, tm_get_set, tm_of_n, tm_of_get, tm_tr_set, tm_tr_of, cellV, putF, appR_eq, takeR_eq, dropR_eq, setR_eq, getR_eq, LD3, LD4, LD22, LD24, LD33, LD37, FA24_0, FA24_1, FA24_2, FA24_3, FA33_0, FA33_1, FA39_0, LEN22, LENI, ST33, ST37, ST23, ST25, ↓AL33, ↓AL25, t3, t37, lookB_setB, shOp, b64, finF, takeM, resV, cleanedG, kp11, gc11, t4, nxtX]

def RanOK (call : Value → List Value → AH → Option (Value × AH)) (f : FuncId) : Prop := ∀ (i : Nat) (lo hi x : Int) (H : AH), 0 ≤ lo → lo ≤ hi → hi ≤ 1000000 → MI H → lookB H.bs i = some (.cells false [.int .u64 x]) →
  call (.func (.func f) #[] #[]) [.pointer (some ⟨i, 0, none⟩), .int .i64 lo, .int .i64 hi] H = some (.int .i64 (lo + belX x (hi - lo + 1)), ⟨H.next, setB H.bs i (.cells false [.int .u64 (nxtX x)])⟩)
def OddOK (call : Value → List Value → AH → Option (Value × AH)) (f : FuncId) : Prop := ∀ (i : Nat) (n x : Int) (H : AH), 1 ≤ n → n ≤ 1000000 → MI H → lookB H.bs i = some (.cells false [.int .u64 x]) →
  call (.func (.func f) #[] #[]) [.pointer (some ⟨i, 0, none⟩), .int .i64 n] H = some (.bool (belX x n == 0), ⟨H.next, setB H.bs i (.cells false [.int .u64 (nxtX x)])⟩)

set_option maxRecDepth 10000 in
set_option maxHeartbeats 8000000 in
theorem range_ev (call : Value → List Value → AH → Option (Value × AH)) (hB : BelOK call 11) (L : Nat) {i : Nat} {lo hi x : Int} {H : AH} (h0 : 0 ≤ lo) (h1 : lo ≤ hi) (h2 : hi ≤ 1000000) (hM : MI H) (hi' : lookB H.bs i = some (.cells false [.int .u64 x])) :
    evFn (tabT Tryd.prog) call L kpT 9 Tryd.f9 [.pointer (some ⟨i, 0, none⟩), .int .i64 lo, .int .i64 hi] H = some (.int .i64 (lo + belX x (hi - lo + 1)), ⟨H.next, setB H.bs i (.cells false [.int .u64 (nxtX x)])⟩) := by
  have w1 : wrapI .i64 (hi - lo) = hi - lo := wrapI_small (by omega) (by omega)
  have w2 : wrapI .i64 (hi - lo + 1) = hi - lo + 1 := wrapI_small (by omega) (by omega)
  have hb := belX_range x (hi - lo + 1) (by omega) (by omega)
  have w3 : wrapI .i64 (lo + belX x (hi - lo + 1)) = lo + belX x (hi - lo + 1) := wrapI_small (by omega) (by omega)
  have hc := hB i (hi - lo + 1) x H (by omega) (by omega) hM hi'
  simp only [evFn, Tryd.f9]
  simp [ec_skip, ec_label, ek_reg, ek_draw, ek_seq, ec_cond, ek_block, ec_loop, ec_exit, ec_ret, ec_scope, ek_nil, ek_op, opK_some, regK_some, seqK_normal, seqK_exit, seqK_ret, blockK_normal, blockK_exit, blockK_ret, evOp, vOp, hOpB, hOpU, hOp, hOpT, aWanted, aYielded, opd, putT, closedV, aBin, intOp, sameK, mapO, joinR, hasAddr, boundOf, pushB, aAlloc, Value.cells, lookB, setB, Nat.beq_eq, tm_n_set, tm_get_set, tm_of_n, tm_of_get, tm_tr_set, tm_tr_of, cellV, putF, appR_eq, takeR_eq, dropR_eq, setR_eq, getR_eq, LD3, LD4, LD22, LD24, LD33, LD37, FA24_0, FA24_1, FA24_2, FA24_3, FA33_0, FA33_1, FA39_0, LEN22, LENI, ST33, ST37, ST23, ST25, ↓AL33, ↓AL25, lookB_setB, shOp, b64, finF, takeM, resV, w1, w2, w3, hc, cleanedG, kp9, gc9]

set_option maxRecDepth 10000 in
set_option maxHeartbeats 8000000 in
theorem odds_ev (call : Value → List Value → AH → Option (Value × AH)) (hB : BelOK call 11) (L : Nat) {i : Nat} {n x : Int} {H : AH} (h1 : 1 ≤ n) (h2 : n ≤ 1000000) (hM : MI H) (hi' : lookB H.bs i = some (.cells false [.int .u64 x])) :
    evFn (tabT Tryd.prog) call L kpT 10 Tryd.f10 [.pointer (some ⟨i, 0, none⟩), .int .i64 n] H = some (.bool (belX x n == 0), ⟨H.next, setB H.bs i (.cells false [.int .u64 (nxtX x)])⟩) := by
  have hc := hB i n x H h1 (by omega) hM hi'
  simp only [evFn, Tryd.f10]
  simp [ec_skip, ec_label, ek_reg, ek_draw, ek_seq, ec_cond, ek_block, ec_loop, ec_exit, ec_ret, ec_scope, ek_nil, ek_op, opK_some, regK_some, seqK_normal, seqK_exit, seqK_ret, blockK_normal, blockK_exit, blockK_ret, evOp, vOp, hOpB, hOpU, hOp, hOpT, aWanted, aYielded, opd, putT, closedV, aBin, intOp, sameK, mapO, joinR, hasAddr, boundOf, pushB, aAlloc, Value.cells, lookB, setB, Nat.beq_eq, tm_n_set, tm_get_set, tm_of_n, tm_of_get, tm_tr_set, tm_tr_of, cellV, putF, appR_eq, takeR_eq, dropR_eq, setR_eq, getR_eq, LD3, LD4, LD22, LD24, LD33, LD37, FA24_0, FA24_1, FA24_2, FA24_3, FA33_0, FA33_1, FA39_0, LEN22, LENI, ST33, ST37, ST23, ST25, ↓AL33, ↓AL25, lookB_setB, shOp, b64, finF, takeM, resV, hc, cleanedG, kp10, gc10]

/-- A number brought below another one. -/
noncomputable def intoX (n m : Int) : Int := if n.tmod m < 0 then wrapI .i64 (n.tmod m + m) else n.tmod m
theorem intoX_range (n m : Int) (h1 : 1 ≤ m) (h2 : m ≤ 1000000) : 0 ≤ intoX n m ∧ intoX n m < m := by
  unfold intoX
  have h3 : n.tmod m < m := Int.tmod_lt_of_pos n (by omega)
  have h4 : -m < n.tmod m := by
    have := Int.tmod_lt_of_pos (-n) (show 0 < m by omega)
    rw [Int.neg_tmod] at this
    omega
  split
  · rw [wrapI_small (by omega) (by omega)]; omega
  · omega
set_option maxRecDepth 10000 in
set_option maxHeartbeats 8000000 in
theorem into_ev (call : Value → List Value → AH → Option (Value × AH)) {n m : Int} {H : AH} (h : ¬ m = 0) : ∃ H', evFn (tabT Tryd.prog) call 300 kpT 6 Tryd.f6 [.int .i64 n, .int .i64 m] H = some (.int .i64 (intoX n m), H') := by
  simp only [evFn, Tryd.f6, intoX]
  by_cases c : n.tmod m < 0
  · simp [ec_skip, ec_label, ek_reg, ek_draw, ek_seq, ec_cond, ek_block, ec_loop, ec_exit, ec_ret, ec_scope, ek_nil, ek_op, opK_some, regK_some, seqK_normal, seqK_exit, seqK_ret, blockK_normal, blockK_exit, blockK_ret, evOp, vOp, hOpB, hOpU, hOp, hOpT, aWanted, aYielded, opd, putT, closedV, aBin, intOp, sameK, mapO, joinR, hasAddr, boundOf, pushB, aAlloc, Value.cells, lookB, setB, Nat.beq_eq, tm_n_set, tm_get_set, tm_of_n, tm_of_get, tm_tr_set, tm_tr_of, cellV, putF, appR_eq, takeR_eq, dropR_eq, setR_eq, getR_eq, LD3, LD4, LD22, LD24, LD33, LD37, FA24_0, FA24_1, FA24_2, FA24_3, FA33_0, FA33_1, FA39_0, LEN22, LENI, ST33, ST37, ST23, ST25, ↓AL33, ↓AL25, lookB_setB, shOp, b64, finF, takeM, resV, h, c]
  · simp [ec_skip, ec_label, ek_reg, ek_draw, ek_seq, ec_cond, ek_block, ec_loop, ec_exit, ec_ret, ec_scope, ek_nil, ek_op, opK_some, regK_some, seqK_normal, seqK_exit, seqK_ret, blockK_normal, blockK_exit, blockK_ret, evOp, vOp, hOpB, hOpU, hOp, hOpT, aWanted, aYielded, opd, putT, closedV, aBin, intOp, sameK, mapO, joinR, hasAddr, boundOf, pushB, aAlloc, Value.cells, lookB, setB, Nat.beq_eq, tm_n_set, tm_get_set, tm_of_n, tm_of_get, tm_tr_set, tm_tr_of, cellV, putF, appR_eq, takeR_eq, dropR_eq, setR_eq, getR_eq, LD3, LD4, LD22, LD24, LD33, LD37, FA24_0, FA24_1, FA24_2, FA24_3, FA33_0, FA33_1, FA39_0, LEN22, LENI, ST33, ST37, ST23, ST25, ↓AL33, ↓AL25, lookB_setB, shOp, b64, finF, takeM, resV, h, c]

/-- The memory with a source in block 1. -/
def HS (cs : List Value) (x : Int) : AH := ⟨2, [(1, .cells false [.int .u64 x]), (0, .cells true cs)]⟩
theorem BD39 (c : Int) : aBuild (tabT Tryd.prog) 39 [(0, .int .u64 c)] = some (.agg #[.int .u64 c]) := by kernel_rfl
def I5 (u : Value) (n : Nat) (cs : List Value) (m : Nat) (A : AF) (H : AH) : Prop := ∃ (i : Nat) (x : Int), i + m = n ∧ A.tm.n = 41 ∧ A.marks = [] ∧ A.tm.get 4 = .int .i64 (i : Int) ∧ A.tm.get 0 = u ∧ A.tm.get 3 = .pointer (some ⟨1, 0, none⟩) ∧ H = HS cs x
def Q5 (cs : List Value) (x : AX) (A' : AF) (H : AH) : Prop := x = .exit 0 ∧ A'.tm.n = 41 ∧ A'.marks = [] ∧ A'.tm.get 3 = .pointer (some ⟨1, 0, none⟩) ∧ ∃ y, H = HS cs y

set_option maxRecDepth 10000 in
set_option maxHeartbeats 8000000 in
theorem newSource_ev (call : Value → List Value → AH → Option (Value × AH)) {L : Nat} {u : Value} {n : Nat} {cs : List Value} (hL : n < L) (hn : n ≤ 9223372036854775807) (hcs : okC cs n = true)
    (hlen : aLen (tabT Tryd.prog) 22 u = some (.int .i64 n)) (hix : ∀ k : Nat, k < n → aIndexAddr (tabT Tryd.prog) 22 u (.int .i64 (k : Int)) = some (.pointer (some ⟨0, k, none⟩))) :
    ∃ x, evFn (tabT Tryd.prog) call L kpT 5 Tryd.f5 [u] ⟨1, [(0, .cells true cs)]⟩ = some (.pointer (some ⟨1, 0, none⟩), HS cs x) := by
  obtain ⟨_, _, _, _, t3⟩ := T3e
  obtain ⟨_, _, _, _, t37⟩ := T37e
  simp only [evFn, Tryd.f5]
  simp [ec_skip, ec_label, ek_reg, ek_draw, ek_seq, ec_cond, ek_block, ec_loop, ec_exit, ec_ret, ec_scope, ek_nil, ek_op, opK_some, regK_some, seqK_normal, seqK_exit, seqK_ret, blockK_normal, blockK_exit, blockK_ret, evOp, vOp, hOpB, hOpU, hOp, hOpT, aWanted, aYielded, opd, putT, closedV, aBin, intOp, sameK, mapO, joinR, hasAddr, boundOf, pushB, aAlloc, Value.cells, lookB, setB, Nat.beq_eq, tm_n_set, tm_get_set, tm_of_n, tm_of_get, tm_tr_set, tm_tr_of, cellV, putF, appR_eq, takeR_eq, dropR_eq, setR_eq, getR_eq, LD3, LD4, LD22, LD24, LD33, LD37, FA24_0, FA24_1, FA24_2, FA24_3, FA33_0, FA33_1, FA39_0, LEN22, LENI, ST33, ST37, ST23, ST25, ↓AL33, ↓AL25, t3, t37, lookB_setB, shOp, b64, partsO, BD39]
  generalize hr : evLoop _ _ _ _ = rr
  obtain ⟨x, A', H', rfl, rfl, hl, hmk, h3, y, rfl⟩ := loop_go (Q := Q5 cs) hr (I5 u n cs) n hL (by
      clear hr
      refine ⟨0, 2685821657736338717, by omega, by simp [tm_n_set, tm_of_n], rfl, ?_⟩
      simp [tm_get_set, tm_n_set, tm_of_n, tm_of_get, HS]) (by
      clear hr
      rintro m A H ⟨i, x, him, hl, hmk, h4, h0, h3, rfl⟩
      simp only [runC, HS]
      cases m with
      | zero =>
        have hi : ¬ i < n := by omega
        simp [ec_skip, ec_label, ek_reg, ek_draw, ek_seq, ec_cond, ek_block, ec_loop, ec_exit, ec_ret, ec_scope, ek_nil, ek_op, opK_some, regK_some, seqK_normal, seqK_exit, seqK_ret, blockK_normal, blockK_exit, blockK_ret, evOp, vOp, hOpB, hOpU, hOp, hOpT, aWanted, aYielded, opd, putT, closedV, aBin, intOp, sameK, mapO, joinR, hasAddr, boundOf, pushB, aAlloc, Value.cells, lookB, setB, Nat.beq_eq, tm_n_set, tm_get_set, tm_of_n, tm_of_get, tm_tr_set, tm_tr_of, cellV, putF, appR_eq, takeR_eq, dropR_eq, setR_eq, getR_eq, LD3, LD4, LD22, LD24, LD33, LD37, FA24_0, FA24_1, FA24_2, FA24_3, FA33_0, FA33_1, FA39_0, LEN22, LENI, ST33, ST37, ST23, ST25, ↓AL33, ↓AL25, t3, t37, lookB_setB, shOp, b64, hl, hmk, h4, h0, h3, hlen, hi]
        exact .inr ⟨by simp, rfl, by simp [tm_n_set, hl], rfl, by simp [tm_get_set, tm_n_set, hl, h3], x, rfl⟩
      | succ m =>
        have hi : i < n := by omega
        have hw : wrapI .i64 ((i : Int) + 1) = ((i + 1 : Nat) : Int) := by rw [wrapI_small (by omega) (by omega)]; rfl
        have p := hix i hi
        have c0 := okC_at hcs (j := i) (by omega)
        simp [ec_skip, ec_label, ek_reg, ek_draw, ek_seq, ec_cond, ek_block, ec_loop, ec_exit, ec_ret, ec_scope, ek_nil, ek_op, opK_some, regK_some, seqK_normal, seqK_exit, seqK_ret, blockK_normal, blockK_exit, blockK_ret, evOp, vOp, hOpB, hOpU, hOp, hOpT, aWanted, aYielded, opd, putT, closedV, aBin, intOp, sameK, mapO, joinR, hasAddr, boundOf, pushB, aAlloc, Value.cells, lookB, setB, Nat.beq_eq, tm_n_set, tm_get_set, tm_of_n, tm_of_get, tm_tr_set, tm_tr_of, cellV, putF, appR_eq, takeR_eq, dropR_eq, setR_eq, getR_eq, LD3, LD4, LD22, LD24, LD33, LD37, FA24_0, FA24_1, FA24_2, FA24_3, FA33_0, FA33_1, FA39_0, LEN22, LENI, ST33, ST37, ST23, ST25, ↓AL33, ↓AL25, t3, t37, lookB_setB, shOp, b64, hl, hmk, h4, h0, h3, hlen, hi]
        generalize hX : evDrawX _ _ _ _ _ = X
        obtain ⟨tma, rfl, tman, tma4, tma0, tma3⟩ := draw_any (H' := HS cs (wrapI .u64 (bits .xor .u64 x (wrapI .u64 (gi cs i)) * 11400714819323198485))) (Pt := fun tm => tm.get 4 = .int .i64 (i : Int) ∧ tm.get 0 = u ∧ tm.get 3 = .pointer (some ⟨1, 0, none⟩)) hX (by kernel_rfl) (by simp [decrK, Nat.blt_eq]) (by
          clear hX
          generalize hM : befs _ = M
          have o1 : ordB M 14 4 = true := by rw [← hM]; kernel_rfl
          have o2 : ordB M 14 8 = true := by rw [← hM]; kernel_rfl
          clear hM
          simp [mapO, drRun, drOp, dr3, looks, guardT, tmpsOf, Op.operands, Call.operands, wantedR, gOf, finT, natMem, isNil, writesF, evOp, vOp, hOpB, hOpU, hOp, hOpT, opd, closedV, aBin, intOp, sameK, opdO, boundOf, undef, lookB, Nat.beq_eq, tm_n_set, tm_get_set, tm_of_n, tm_of_get, tm_tr_set, tm_tr_of, b02, b12, b32, roB, roK, newOnes, LD3, LD4, LD22, LD24, LD33, LD37, FA24_0, FA24_1, FA24_2, FA24_3, FA33_0, FA33_1, FA39_0, LEN22, LENI, ST33, ST37, ST23, ST25, ↓AL33, ↓AL25, t3, t37, shOp, b64, wheap, news, Value.cells, cellV, putF, setB, appR_eq, takeR_eq, dropR_eq, setR_eq, hl, h4, h0, h3, p, c0]
          refine ⟨_, _, ⟨rfl, rfl⟩, by simp [dynOK, b02, b12, b32, b23, b03, o1, o2, Nat.blt_eq, Nat.beq_eq], by simp [wheap, news, b02, b12, b32, HS], by simp [finT, tm_get_set, tm_n_set, hl, h4, h0, h3]⟩)
        clear hX
        simp [tm_n_set, hl] at tman
        simp only [HS]
        simp [ec_skip, ec_label, ek_reg, ek_draw, ek_seq, ec_cond, ek_block, ec_loop, ec_exit, ec_ret, ec_scope, ek_nil, ek_op, opK_some, regK_some, seqK_normal, seqK_exit, seqK_ret, blockK_normal, blockK_exit, blockK_ret, evOp, vOp, hOpB, hOpU, hOp, hOpT, aWanted, aYielded, opd, putT, closedV, aBin, intOp, sameK, mapO, joinR, hasAddr, boundOf, pushB, aAlloc, Value.cells, lookB, setB, Nat.beq_eq, tm_n_set, tm_get_set, tm_of_n, tm_of_get, tm_tr_set, tm_tr_of, cellV, putF, appR_eq, takeR_eq, dropR_eq, setR_eq, getR_eq, LD3, LD4, LD22, LD24, LD33, LD37, FA24_0, FA24_1, FA24_2, FA24_3, FA33_0, FA33_1, FA39_0, LEN22, LENI, ST33, ST37, ST23, ST25, ↓AL33, ↓AL25, t3, t37, lookB_setB, shOp, b64, hmk, tman, tma4, tma0, tma3]
        generalize hX : evDrawX _ _ _ _ _ = X
        obtain ⟨tmb, rfl, tmbn, tmb4, tmb0, tmb3⟩ := draw_any (H' := HS cs (bits .xor .u64 (wrapI .u64 (bits .xor .u64 x (wrapI .u64 (gi cs i)) * 11400714819323198485)) ((wrapI .u64 (bits .xor .u64 x (wrapI .u64 (gi cs i)) * 11400714819323198485)).fdiv 536870912))) (Pt := fun tm => tm.get 4 = .int .i64 (i : Int) ∧ tm.get 0 = u ∧ tm.get 3 = .pointer (some ⟨1, 0, none⟩)) hX (by kernel_rfl) (by simp [decrK, Nat.blt_eq]) (by
          clear hX
          generalize hM : befs _ = M
          have o1 : ordB M 13 4 = true := by rw [← hM]; kernel_rfl
          have o2 : ordB M 13 8 = true := by rw [← hM]; kernel_rfl
          clear hM
          simp [mapO, drRun, drOp, dr3, looks, guardT, tmpsOf, Op.operands, Call.operands, wantedR, gOf, finT, natMem, isNil, writesF, evOp, vOp, hOpB, hOpU, hOp, hOpT, opd, closedV, aBin, intOp, sameK, opdO, boundOf, undef, lookB, Nat.beq_eq, tm_n_set, tm_get_set, tm_of_n, tm_of_get, tm_tr_set, tm_tr_of, b02, b12, b32, roB, roK, newOnes, LD3, LD4, LD22, LD24, LD33, LD37, FA24_0, FA24_1, FA24_2, FA24_3, FA33_0, FA33_1, FA39_0, LEN22, LENI, ST33, ST37, ST23, ST25, ↓AL33, ↓AL25, t3, t37, shOp, b64, wheap, news, Value.cells, cellV, putF, setB, appR_eq, takeR_eq, dropR_eq, setR_eq, tman, tma4, tma0, tma3, p, c0]
          refine ⟨_, _, ⟨rfl, rfl⟩, by simp [dynOK, b02, b12, b32, b23, b03, o1, o2, Nat.blt_eq, Nat.beq_eq], by simp [wheap, news, b02, b12, b32, HS], by simp [finT, tm_get_set, tm_n_set, tman, tma4, tma0, tma3]⟩)
        clear hX
        simp [tm_n_set, tman] at tmbn
        simp only [HS]
        simp [ec_skip, ec_label, ek_reg, ek_draw, ek_seq, ec_cond, ek_block, ec_loop, ec_exit, ec_ret, ec_scope, ek_nil, ek_op, opK_some, regK_some, seqK_normal, seqK_exit, seqK_ret, blockK_normal, blockK_exit, blockK_ret, evOp, vOp, hOpB, hOpU, hOp, hOpT, aWanted, aYielded, opd, putT, closedV, aBin, intOp, sameK, mapO, joinR, hasAddr, boundOf, pushB, aAlloc, Value.cells, lookB, setB, Nat.beq_eq, tm_n_set, tm_get_set, tm_of_n, tm_of_get, tm_tr_set, tm_tr_of, cellV, putF, appR_eq, takeR_eq, dropR_eq, setR_eq, getR_eq, LD3, LD4, LD22, LD24, LD33, LD37, FA24_0, FA24_1, FA24_2, FA24_3, FA33_0, FA33_1, FA39_0, LEN22, LENI, ST33, ST37, ST23, ST25, ↓AL33, ↓AL25, t3, t37, lookB_setB, shOp, b64, hmk, tmbn, tmb4, tmb0, tmb3]
        refine ⟨_, _, _, ⟨rfl, rfl, rfl⟩, .inl ⟨rfl, m, rfl, i + 1, _, by omega, by simp [tm_n_set, tmbn], rfl, ?_, ?_, ?_, rfl⟩⟩
        · simp [tm_get_set, tm_n_set, tmbn, tmb4, hw]
        · simp [tm_get_set, tm_n_set, tmbn, tmb0]
        · simp [tm_get_set, tm_n_set, tmbn, tmb3])
  simp [ec_skip, ec_label, ek_reg, ek_draw, ek_seq, ec_cond, ek_block, ec_loop, ec_exit, ec_ret, ec_scope, ek_nil, ek_op, opK_some, regK_some, seqK_normal, seqK_exit, seqK_ret, blockK_normal, blockK_exit, blockK_ret, evOp, vOp, hOpB, hOpU, hOp, hOpT, aWanted, aYielded, opd, putT, closedV, aBin, intOp, sameK, mapO, joinR, hasAddr, boundOf, pushB, aAlloc, Value.cells, lookB, setB, Nat.beq_eq, tm_n_set, tm_get_set, tm_of_n, tm_of_get, tm_tr_set, tm_tr_of, cellV, putF, appR_eq, takeR_eq, dropR_eq, setR_eq, getR_eq, LD3, LD4, LD22, LD24, LD33, LD37, FA24_0, FA24_1, FA24_2, FA24_3, FA33_0, FA33_1, FA39_0, LEN22, LENI, ST33, ST37, ST23, ST25, ↓AL33, ↓AL25, t3, t37, lookB_setB, shOp, b64, finF, takeM, resV, hl, hmk, h3, cleanedG, gc5, HS, hasAddr]

end Go.Proofs.YtbofnpohamajpaaDoor
