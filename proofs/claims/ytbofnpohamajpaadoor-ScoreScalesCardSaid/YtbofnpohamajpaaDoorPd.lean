/-
  What is proved: what Points answers of every scale, every number of minor points and every value.
-/
import Derived.Test.YtbofnpohamajpaaDoorPc
namespace Go.Proofs.YtbofnpohamajpaaDoor
open Go.RowKit
set_option linter.unusedSimpArgs false
set_option linter.unusedVariables false

theorem reach_le (cs : List Value) (v : Int) : ∀ m i, reach cs v m i ≤ i + m
  | 0, i => Nat.le_refl _
  | m + 1, i => by
    rw [reach]
    split
    · have := reach_le cs v m (i + 1); omega
    · omega

/-- The points of a value: e the scale's error, k the limits reached, q the points by the base. -/
def ptsOf (e : Int) (k : Nat) (q : Int) (n : Nat) (cs : List Value) (mi v : Int) : Int :=
  if e = 0 ∧ btw mi 0 1000 = true ∧ btw v 0 1073741824 = true then
    if 0 < k then gi cs ((k - 1) * 2 + 1)
    else if 0 < n then (if gi cs 1 < (if 1000000 < q then 1000000 else q) then gi cs 1 else (if 1000000 < q then 1000000 else q))
    else (if 1000000 < q then 1000000 else q)
  else 0
noncomputable def pts (b : Int) (d : Bool) (r : Int) (n : Nat) (cs : List Value) (mi v : Int) : Int := ptsOf (scErr b r n cs) (reach cs v n 0) (unl b d mi v) n cs mi v

theorem CALL7 (call : Value → List Value → AH → Option (Value × AH)) {tm : Tm} {k : Nat} {H : AH} {d : Option Tmp} {t : TypeId} {p : String} {a : Array Edge} {gd : Option (Nat × Bool)} : evOp (tabT Tryd.prog) call ⟨d, .call ⟨.value (.func 12), #[.tmp k], #[25]⟩, t, p, a, gd⟩ (opd tm) H = call (.func (.func 12) #[] #[]) [tm.get k] H :=
  evOp_evO.trans (eo_call1 rfl rfl NAT7)

theorem NAT9 : ((tabT Tryd.prog) 23).map (fun z => z.ex.nat 14) = some none := by kernel_rfl
theorem CALL9 (call : Value → List Value → AH → Option (Value × AH)) {tm : Tm} {j k : Nat} {H : AH} {d : Option Tmp} {t : TypeId} {p : String} {a : Array Edge} {gd : Option (Nat × Bool)} : evOp (tabT Tryd.prog) call ⟨d, .call ⟨.value (.func 14), #[.tmp j, .tmp k], #[23, 3]⟩, t, p, a, gd⟩ (opd tm) H = call (.func (.func 14) #[] #[]) [tm.get j, tm.get k] H :=
  evOp_evO.trans (eo_call2n rfl rfl rfl NAT9)

set_option maxRecDepth 10000 in
set_option maxHeartbeats 8000000 in
theorem points4_core (call : Value → List Value → AH → Option (Value × AH)) {b : Int} {d : Bool} {u : Value} {n : Nat} {r mi v : Int} {cs : List Value} (hn : n ≤ 200) (hcs : okC cs (2 * n) = true)
    (hlen : aLen (tabT Tryd.prog) 23 u = some (.int .i64 n)) (hix : ∀ k : Nat, k < n → aIndexAddr (tabT Tryd.prog) 23 u (.int .i64 (k : Int)) = some (.pointer (some ⟨0, k * 2, none⟩)))
    (hb : BtwOK call 13) {e q : Int} {k : Nat} (hle : k ≤ n)
    (hC : ∀ H : AH, lookB H.bs 0 = some (.cells true cs) → call (.func (.func 12) #[] #[]) [.agg ⟨[.int .i64 b, .bool d, u, .int .i64 r]⟩] H = some (.int .i64 e, H))
    (hR : ∀ H : AH, lookB H.bs 0 = some (.cells true cs) → call (.func (.func 14) #[] #[]) [u, .int .i64 v] H = some (.int .i64 k, H))
    (hU : 0 ≤ v → ∀ H : AH, lookB H.bs 0 = some (.cells true cs) → call (.func (.func 15) #[] #[]) [.agg ⟨[.int .i64 b, .bool d, u, .int .i64 r]⟩, .int .i64 mi, .int .i64 v] H = some (.int .i64 q, H)) :
    ∃ H', evFn (tabT Tryd.prog) call 300 kpT 7 Tryd.f7 [.agg ⟨[.int .i64 b, .bool d, u, .int .i64 r]⟩, .int .i64 mi, .int .i64 v] ⟨1, [(0, .cells true cs)]⟩ = some (.int .i64 (ptsOf e k q n cs mi v), H') := by
  unfold BtwOK at hb
  simp only [evFn, Tryd.f7, ptsOf]
  by_cases e1 : e = 0
  rotate_left
  · have e1' : (e != 0) = true := by simpa using e1
    simp [ec_skip, ec_label, ek_reg, ek_draw, ek_seq, ec_cond, ek_block, ec_loop, ec_exit, ec_ret, ec_scope, ek_nil, ek_op, opK_some, regK_some, seqK_normal, seqK_exit, seqK_ret, blockK_normal, blockK_exit, blockK_ret, evOp, vOp, hOpB, hOpU, hOp, hOpT, aWanted, aYielded, opd, putT, closedV, aBin, intOp, sameK, mapO, joinR, hasAddr, boundOf, pushB, aAlloc, Value.cells, lookB, setB, Nat.beq_eq, tm_n_set, tm_get_set, tm_of_n, tm_of_get, tm_tr_set, tm_tr_of, cellV, putF, appR_eq, takeR_eq, dropR_eq, setR_eq, getR_eq, LD3, LD4, LD22, LD24, LD33, FA24_0, FA24_1, FA24_2, FA24_3, FA33_0, FA33_1, LEN22, ST33, ↓AL33, ↓CALL7, ↓CALL9, finF, takeM, resV, tkc, hb, hC, e1, e1']
  subst e1
  cases e2 : btw mi 0 1000 with
  | false => simp [ec_skip, ec_label, ek_reg, ek_draw, ek_seq, ec_cond, ek_block, ec_loop, ec_exit, ec_ret, ec_scope, ek_nil, ek_op, opK_some, regK_some, seqK_normal, seqK_exit, seqK_ret, blockK_normal, blockK_exit, blockK_ret, evOp, vOp, hOpB, hOpU, hOp, hOpT, aWanted, aYielded, opd, putT, closedV, aBin, intOp, sameK, mapO, joinR, hasAddr, boundOf, pushB, aAlloc, Value.cells, lookB, setB, Nat.beq_eq, tm_n_set, tm_get_set, tm_of_n, tm_of_get, tm_tr_set, tm_tr_of, cellV, putF, appR_eq, takeR_eq, dropR_eq, setR_eq, getR_eq, LD3, LD4, LD22, LD24, LD33, FA24_0, FA24_1, FA24_2, FA24_3, FA33_0, FA33_1, LEN22, ST33, ↓AL33, ↓CALL7, ↓CALL9, finF, takeM, resV, tkc, hb, hC, e2]
  | true =>
  cases e3 : btw v 0 1073741824 with
  | false => simp [ec_skip, ec_label, ek_reg, ek_draw, ek_seq, ec_cond, ek_block, ec_loop, ec_exit, ec_ret, ec_scope, ek_nil, ek_op, opK_some, regK_some, seqK_normal, seqK_exit, seqK_ret, blockK_normal, blockK_exit, blockK_ret, evOp, vOp, hOpB, hOpU, hOp, hOpT, aWanted, aYielded, opd, putT, closedV, aBin, intOp, sameK, mapO, joinR, hasAddr, boundOf, pushB, aAlloc, Value.cells, lookB, setB, Nat.beq_eq, tm_n_set, tm_get_set, tm_of_n, tm_of_get, tm_tr_set, tm_tr_of, cellV, putF, appR_eq, takeR_eq, dropR_eq, setR_eq, getR_eq, LD3, LD4, LD22, LD24, LD33, FA24_0, FA24_1, FA24_2, FA24_3, FA33_0, FA33_1, LEN22, ST33, ↓AL33, ↓CALL7, ↓CALL9, finF, takeM, resV, tkc, hb, hC, e2, e3]
  | true =>
  have hv : 0 ≤ v := by simp only [btw, Bool.and_eq_true, decide_eq_true_eq] at e3; exact e3.1
  have hU' := hU hv
  clear hU
  rcases Nat.eq_zero_or_pos k with e40 | e4
  rotate_left
  · have e4' : (0 : Int) < k := by omega
    have hw1 : wrapI .i64 ((k : Int) - 1) = ((k - 1 : Nat) : Int) := by rw [wrapI_small (by omega) (by omega)]; omega
    have p := hix (k - 1) (by omega)
    have c1 := okC_at hcs (j := (k - 1) * 2 + 1) (by omega)
    simp [ec_skip, ec_label, ek_reg, ek_draw, ek_seq, ec_cond, ek_block, ec_loop, ec_exit, ec_ret, ec_scope, ek_nil, ek_op, opK_some, regK_some, seqK_normal, seqK_exit, seqK_ret, blockK_normal, blockK_exit, blockK_ret, evOp, vOp, hOpB, hOpU, hOp, hOpT, aWanted, aYielded, opd, putT, closedV, aBin, intOp, sameK, mapO, joinR, hasAddr, boundOf, pushB, aAlloc, Value.cells, lookB, setB, Nat.beq_eq, tm_n_set, tm_get_set, tm_of_n, tm_of_get, tm_tr_set, tm_tr_of, cellV, putF, appR_eq, takeR_eq, dropR_eq, setR_eq, getR_eq, LD3, LD4, LD22, LD24, LD33, FA24_0, FA24_1, FA24_2, FA24_3, FA33_0, FA33_1, LEN22, ST33, ↓AL33, ↓CALL7, ↓CALL9, finF, takeM, resV, tkc, hb, hC, hR, e2, e3, e4, e4', hw1, p, c1]
  · subst e40
    by_cases e5 : 0 < n
    · have e5' : (0 : Int) < n := by omega
      have p := hix 0 e5
      have c1 := okC_at hcs (j := 1) (by omega)
      simp only [Nat.zero_mul] at p
      have p' : aIndexAddr (tabT Tryd.prog) 23 u (.int .i64 0) = some (.pointer (some ⟨0, 0, none⟩)) := p
      simp [ec_skip, ec_label, ek_reg, ek_draw, ek_seq, ec_cond, ek_block, ec_loop, ec_exit, ec_ret, ec_scope, ek_nil, ek_op, opK_some, regK_some, seqK_normal, seqK_exit, seqK_ret, blockK_normal, blockK_exit, blockK_ret, evOp, vOp, hOpB, hOpU, hOp, hOpT, aWanted, aYielded, opd, putT, closedV, aBin, intOp, sameK, mapO, joinR, hasAddr, boundOf, pushB, aAlloc, Value.cells, lookB, setB, Nat.beq_eq, tm_n_set, tm_get_set, tm_of_n, tm_of_get, tm_tr_set, tm_tr_of, cellV, putF, appR_eq, takeR_eq, dropR_eq, setR_eq, getR_eq, LD3, LD4, LD22, LD24, LD33, FA24_0, FA24_1, FA24_2, FA24_3, FA33_0, FA33_1, LEN22, ST33, ↓AL33, ↓CALL7, ↓CALL9, finF, takeM, resV, tkc, hb, hC, hR, hU', hlen, e2, e3, e5, e5', p', c1]
    · obtain rfl : n = 0 := by omega
      simp [ec_skip, ec_label, ek_reg, ek_draw, ek_seq, ec_cond, ek_block, ec_loop, ec_exit, ec_ret, ec_scope, ek_nil, ek_op, opK_some, regK_some, seqK_normal, seqK_exit, seqK_ret, blockK_normal, blockK_exit, blockK_ret, evOp, vOp, hOpB, hOpU, hOp, hOpT, aWanted, aYielded, opd, putT, closedV, aBin, intOp, sameK, mapO, joinR, hasAddr, boundOf, pushB, aAlloc, Value.cells, lookB, setB, Nat.beq_eq, tm_n_set, tm_get_set, tm_of_n, tm_of_get, tm_tr_set, tm_tr_of, cellV, putF, appR_eq, takeR_eq, dropR_eq, setR_eq, getR_eq, LD3, LD4, LD22, LD24, LD33, FA24_0, FA24_1, FA24_2, FA24_3, FA33_0, FA33_1, LEN22, ST33, ↓AL33, ↓CALL7, ↓CALL9, finF, takeM, resV, tkc, hb, hC, hR, hU', hlen, e2, e3]

theorem points4_ev (call : Value → List Value → AH → Option (Value × AH)) {b : Int} {d : Bool} {u : Value} {n : Nat} {r mi v : Int} {cs : List Value} (hn : n ≤ 200) (hcs : okC cs (2 * n) = true)
    (hlen : aLen (tabT Tryd.prog) 23 u = some (.int .i64 n)) (hix : ∀ k : Nat, k < n → aIndexAddr (tabT Tryd.prog) 23 u (.int .i64 (k : Int)) = some (.pointer (some ⟨0, k * 2, none⟩)))
    (hb : BtwOK call 13)
    (hC : ∀ H : AH, lookB H.bs 0 = some (.cells true cs) → call (.func (.func 12) #[] #[]) [scV b d u r] H = some (.int .i64 (scErr b r n cs), H))
    (hR : ∀ H : AH, lookB H.bs 0 = some (.cells true cs) → call (.func (.func 14) #[] #[]) [u, .int .i64 v] H = some (.int .i64 (reach cs v n 0 : Nat), H))
    (hU : 0 ≤ v → ∀ H : AH, lookB H.bs 0 = some (.cells true cs) → call (.func (.func 15) #[] #[]) [scV b d u r, .int .i64 mi, .int .i64 v] H = some (.int .i64 (unl b d mi v), H)) :
    ∃ H', evFn (tabT Tryd.prog) call 300 kpT 7 Tryd.f7 [scV b d u r, .int .i64 mi, .int .i64 v] ⟨1, [(0, .cells true cs)]⟩ = some (.int .i64 (pts b d r n cs mi v), H') :=
  points4_core call hn hcs hlen hix hb (by have := reach_le cs v n 0; omega) hC hR hU

end Go.Proofs.YtbofnpohamajpaaDoor
