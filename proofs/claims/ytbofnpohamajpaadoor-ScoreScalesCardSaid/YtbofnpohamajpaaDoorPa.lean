/-
  What is proved: what the functions between answer, and facts of the types that scales are made of.
-/
import Derived.Test.YtbofnpohamajpaaDoorEvR
import Derived.Test.YtbofnpohamajpaaDoorSk
namespace Go.Proofs.YtbofnpohamajpaaDoor
open Go.RowKit
set_option linter.unusedSimpArgs false
set_option linter.unusedVariables false

theorem b02 : Nat.beq 0 2 = false := rfl
theorem b12 : Nat.beq 1 2 = false := rfl
theorem b32 : Nat.beq 3 2 = false := rfl
theorem LD3 (H : AH) (i off : Nat) : aLoad (tabT Tryd.prog) H 3 (.pointer (some ⟨i, off, none⟩)) = match lookB H.bs i with | some (.cells _ cs) => cs[off]? | _ => none := ldc (by kernel_rfl) H i off
theorem LD4 (H : AH) (i off : Nat) : aLoad (tabT Tryd.prog) H 4 (.pointer (some ⟨i, off, none⟩)) = match lookB H.bs i with | some (.cells _ cs) => cs[off]? | _ => none := ldc (by kernel_rfl) H i off
theorem LD22 (H : AH) (i off : Nat) : aLoad (tabT Tryd.prog) H 23 (.pointer (some ⟨i, off, none⟩)) = match lookB H.bs i with | some (.cells _ cs) => cs[off]? | _ => none := ldc (by kernel_rfl) H i off
theorem LD24 (H : AH) (i off : Nat) : aLoad (tabT Tryd.prog) H 25 (.pointer (some ⟨i, off, none⟩)) = match lookB H.bs i with | some (.cells _ cs) => (takeCells cs off 4).map (fun l => .agg l.toArray) | _ => none := lda (by kernel_rfl) H i off
theorem LD33 (H : AH) (i off : Nat) : aLoad (tabT Tryd.prog) H 32 (.pointer (some ⟨i, off, none⟩)) = match lookB H.bs i with | some (.cells _ cs) => (takeCells cs off 2).map (fun l => .agg l.toArray) | _ => none := lda (by kernel_rfl) H i off
theorem FA24_0 (i off : Nat) : aFieldAddr (tabT Tryd.prog) 25 (.pointer (some ⟨i, off, none⟩)) 0 = some (.pointer (some ⟨i, off + 0, none⟩)) := by kernel_rfl
theorem FA24_1 (i off : Nat) : aFieldAddr (tabT Tryd.prog) 25 (.pointer (some ⟨i, off, none⟩)) 1 = some (.pointer (some ⟨i, off + 1, none⟩)) := by kernel_rfl
theorem FA24_2 (i off : Nat) : aFieldAddr (tabT Tryd.prog) 25 (.pointer (some ⟨i, off, none⟩)) 2 = some (.pointer (some ⟨i, off + 2, none⟩)) := by kernel_rfl
theorem FA24_3 (i off : Nat) : aFieldAddr (tabT Tryd.prog) 25 (.pointer (some ⟨i, off, none⟩)) 3 = some (.pointer (some ⟨i, off + 3, none⟩)) := by kernel_rfl
theorem FA33_0 (i off : Nat) : aFieldAddr (tabT Tryd.prog) 32 (.pointer (some ⟨i, off, none⟩)) 0 = some (.pointer (some ⟨i, off + 0, none⟩)) := by kernel_rfl
theorem FA33_1 (i off : Nat) : aFieldAddr (tabT Tryd.prog) 32 (.pointer (some ⟨i, off, none⟩)) 1 = some (.pointer (some ⟨i, off + 1, none⟩)) := by kernel_rfl
theorem LEN22 (a : Option Addr) (n z : Nat) : aLen (tabT Tryd.prog) 23 (.slice a n z) = some (.int .i64 n) := lens (e := 32) (by kernel_rfl) a n z
theorem IX22 (i off n sz k : Nat) (h : k < n) : aIndexAddr (tabT Tryd.prog) 23 (.slice (some ⟨i, off, none⟩) n sz) (.int .i64 (k : Int)) = some (.pointer (some ⟨i, off + k * 2, none⟩)) := ixa (e := 32) (by kernel_rfl) (by kernel_rfl) i off n sz k h
theorem ST33 (H : AH) (i off : Nat) (v : Value) : aStore (tabT Tryd.prog) H 32 (.pointer (some ⟨i, off, none⟩)) v = match lookB H.bs i with
    | some (.cells false cs) => if Nat.beq v.cells.toList.length 2 && Nat.ble (off + v.cells.toList.length) cs.length && v.cells.toList.all cellV then some { H with bs := setB H.bs i (.cells false (putF cs off v.cells.toList)) } else none
    | _ => none := sti (by kernel_rfl) H i off v
theorem AL33 {call : Value → List Value → AH → Option (Value × AH)} {g : Operand → Option Value} {H : AH} {d : Option Tmp} {t : TypeId} {p : String} {a : Array Edge} {gd : Option (Nat × Bool)} : evOp (tabT Tryd.prog) call ⟨d, .alloc 32, t, p, a, gd⟩ g H = some (.pointer (some ⟨H.next, 0, none⟩), ⟨H.next + 1, (H.next, .cells false [.int .i64 0, .int .i64 0]) :: H.bs⟩) :=
  evOp_evO.trans (eo_alloc (cs := [.int .i64 0, .int .i64 0]) (by kernel_rfl))

def BtwOK (call : Value → List Value → AH → Option (Value × AH)) (f : FuncId) : Prop := ∀ (n a b : Int) (H : AH), call (.func (.func f) #[] #[]) [.int .i64 n, .int .i64 a, .int .i64 b] H = some (.bool (btw n a b), H)

set_option maxRecDepth 10000 in
set_option maxHeartbeats 8000000 in
theorem btw8_ev (call : Value → List Value → AH → Option (Value × AH)) (n a b : Int) (H : AH) : ∃ H', evFn (tabT Tryd.prog) call 300 kpT 13 Tryd.f13 [.int .i64 n, .int .i64 a, .int .i64 b] H = some (.bool (btw n a b), H') := by
  simp only [evFn, Tryd.f13, btw]
  by_cases h1 : a ≤ n
  · simp [ec_skip, ec_label, ek_reg, ek_draw, ek_seq, ec_cond, ek_block, ec_loop, ec_exit, ec_ret, ec_scope, ek_nil, ek_op, opK_some, regK_some, seqK_normal, seqK_exit, seqK_ret, blockK_normal, blockK_exit, blockK_ret, evOp, vOp, hOpB, hOpU, hOp, hOpT, aWanted, aYielded, opd, putT, closedV, aBin, intOp, sameK, mapO, joinR, hasAddr, boundOf, pushB, aAlloc, Value.cells, lookB, setB, Nat.beq_eq, tm_n_set, tm_get_set, tm_of_n, tm_of_get, tm_tr_set, tm_tr_of, cellV, putF, finF, takeM, resV, h1]
  · simp [ec_skip, ec_label, ek_reg, ek_draw, ek_seq, ec_cond, ek_block, ec_loop, ec_exit, ec_ret, ec_scope, ek_nil, ek_op, opK_some, regK_some, seqK_normal, seqK_exit, seqK_ret, blockK_normal, blockK_exit, blockK_ret, evOp, vOp, hOpB, hOpU, hOp, hOpT, aWanted, aYielded, opd, putT, closedV, aBin, intOp, sameK, mapO, joinR, hasAddr, boundOf, pushB, aAlloc, Value.cells, lookB, setB, Nat.beq_eq, tm_n_set, tm_get_set, tm_of_n, tm_of_get, tm_tr_set, tm_tr_of, cellV, putF, finF, takeM, resV, h1]

set_option maxRecDepth 10000 in
set_option maxHeartbeats 8000000 in
theorem btw18_ev (call : Value → List Value → AH → Option (Value × AH)) (n a b : Int) (H : AH) : ∃ H', evFn (tabT Tryd.prog) call 300 kpT 22 Tryd.f22 [.int .i64 n, .int .i64 a, .int .i64 b] H = some (.bool (btw n a b), H') := by
  simp only [evFn, Tryd.f22, btw]
  by_cases h1 : a ≤ n
  · simp [ec_skip, ec_label, ek_reg, ek_draw, ek_seq, ec_cond, ek_block, ec_loop, ec_exit, ec_ret, ec_scope, ek_nil, ek_op, opK_some, regK_some, seqK_normal, seqK_exit, seqK_ret, blockK_normal, blockK_exit, blockK_ret, evOp, vOp, hOpB, hOpU, hOp, hOpT, aWanted, aYielded, opd, putT, closedV, aBin, intOp, sameK, mapO, joinR, hasAddr, boundOf, pushB, aAlloc, Value.cells, lookB, setB, Nat.beq_eq, tm_n_set, tm_get_set, tm_of_n, tm_of_get, tm_tr_set, tm_tr_of, cellV, putF, finF, takeM, resV, h1]
  · simp [ec_skip, ec_label, ek_reg, ek_draw, ek_seq, ec_cond, ek_block, ec_loop, ec_exit, ec_ret, ec_scope, ek_nil, ek_op, opK_some, regK_some, seqK_normal, seqK_exit, seqK_ret, blockK_normal, blockK_exit, blockK_ret, evOp, vOp, hOpB, hOpU, hOp, hOpT, aWanted, aYielded, opd, putT, closedV, aBin, intOp, sameK, mapO, joinR, hasAddr, boundOf, pushB, aAlloc, Value.cells, lookB, setB, Nat.beq_eq, tm_n_set, tm_get_set, tm_of_n, tm_of_get, tm_tr_set, tm_tr_of, cellV, putF, finF, takeM, resV, h1]


end Go.Proofs.YtbofnpohamajpaaDoor
