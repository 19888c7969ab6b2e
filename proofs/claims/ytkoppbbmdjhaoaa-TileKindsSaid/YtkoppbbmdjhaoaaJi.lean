/-
  What is proved: what tile.Mirror and the document's own Mirror answer for every set and every number.
-/
import Derived.Test.YtkoppbbmdjhaoaaJh
namespace Go.Proofs.Ytkoppbbmdjhaoaa
open Go.RowKit
set_option linter.unusedSimpArgs false

theorem F39 : tabF Try.prog 39 = some Try.f39 := by kernel_rfl
theorem F40 : tabF Try.prog 40 = some Try.f40 := by kernel_rfl

def ansPlace : List Value → AH → Option Value
  | [v, .int .i64 kind], H => match seeSet v H with
    | some s => some (placeT (s.find kind))
    | none => none
  | _, _ => none

theorem placeT_closed (x : Option (Int × Int × Int)) : closedV 5 (placeT x) = true := by
  cases x <;> rfl

theorem ok27 : AnsOK (runH M7) 27 ansPlace := by
  intro cargs Hc v hv
  unfold ansPlace at hv
  split at hv
  · rename_i kind
    split at hv
    · rename_i s hs
      obtain ⟨rfl, rfl⟩ := seeSet_spec hs
      cases hv
      refine ⟨placeT_closed _, fun _ => ?_⟩
      obtain ⟨H', h⟩ := rplace_ev (inH M7) M7_20 M7_18 s kind
      exact ⟨H', runH_fn F27 rfl h⟩
    · cases hv
  · cases hv

def M8 : Hnd := orH (canH 84 ansFind) (orH (canH 89 ansAt) (orH (canH 27 ansPlace) (orH (canH 25 ansTrue) M7)))
theorem M8_ok : CallOK Try.prog M8 :=
  have h := runH_ok M7_ok
  orH_ok (canH_ok h ok84) (orH_ok (canH_ok h ok89) (orH_ok (canH_ok h ok27) (orH_ok (canH_ok (evCall_sound (tabT_ok _) (tabF_ok _) mixed 300 kpT memCF_ok 13) ok25) M7_ok)))

theorem seeSet_val (s : SV) : seeSet s.val s.hp = some s := rfl

theorem M8_84 (s : SV) (k : Int) (H : AH) (h0 : lookB H.bs 0 = some (.ints s.g)) (h1 : lookB H.bs 1 = some (.ints s.h)) : inH M8 (.func (.func 84) #[] #[]) [s.val, .int .i64 k] H = some (findV (s.find k), H) :=
  inH_hd (orH_l (by rw [canH_si h0 h1]; rfl))
theorem M8_27 (s : SV) (k : Int) (H : AH) (h0 : lookB H.bs 0 = some (.ints s.g)) (h1 : lookB H.bs 1 = some (.ints s.h)) : inH M8 (.func (.func 27) #[] #[]) [s.val, .int .i64 k] H = some (placeT (s.find k), H) :=
  inH_hd (orH_r (canH_other rfl) (orH_r (canH_other rfl) (orH_l (by rw [canH_si h0 h1]; rfl))))
theorem M8_89 (s : SV) (a b : Int) (he : s.err = 0) (H : AH) (h0 : lookB H.bs 0 = some (.ints s.g)) (h1 : lookB H.bs 1 = some (.ints s.h)) : inH M8 (.func (.func 89) #[] #[]) [s.val, .int .i64 a, .int .i64 b] H = some (atV (atRows s.rows 0 a b), H) :=
  inH_hd (orH_r (canH_other rfl) (orH_l (by
    rw [canH_sii h0 h1]
    simp only [ansAt, seeSet_val, if_pos he]
    rfl)))
theorem M8_25 (H : AH) : inH M8 (.func (.func 25) #[] #[]) [] H = some (.bool true, H) :=
  inH_hd (orH_r (canH_other rfl) (orH_r (canH_other rfl) (orH_r (canH_other rfl) (orH_l rfl))))
theorem M8_15 (s : SV) (H : AH) (h0 : lookB H.bs 0 = some (.ints s.g)) (h1 : lookB H.bs 1 = some (.ints s.h)) : inH M8 (.func (.func 15) #[] #[]) [s.val] H = some (.bool s.long, H) :=
  inH_hd (orH_r (canH_other rfl) (orH_r (canH_other rfl) (orH_r (canH_other rfl) (orH_r (canH_other rfl) (orH_r (canH_other rfl) (orH_r (canH_other rfl) (orH_l (canH_set h0 h1))))))))
theorem M8_72 (n l m : Int) (H : AH) : inH M8 (.func (.func 72) #[] #[]) [.int .i64 n, .int .i64 l, .int .i64 m] H = some (.bool (btw n l m), H) := inH_hd rfl
theorem M8_78 (n l m : Int) (H : AH) : inH M8 (.func (.func 78) #[] #[]) [.int .i64 n, .int .i64 l, .int .i64 m] H = some (.bool (btw n l m), H) := inH_hd rfl

theorem findRows_spec : ∀ (l : List (Int × Nat)) (c kind su r q : Int), findRows l c kind = some (su, r, q) → ∃ q' : Nat, (su, q') ∈ l ∧ q = q' ∧ 0 ≤ r ∧ r < q ∧ c ≤ kind
  | [], c, kind, su, r, q, h => by cases h
  | (su', q') :: l, c, kind, su, r, q, h => by
    simp only [findRows] at h
    split at h
    · cases h
      exact ⟨q', List.mem_cons_self, rfl, by omega, by omega, by omega⟩
    · obtain ⟨p, h1, h2, h3, h4, h5⟩ := findRows_spec l (c + q') kind su r q h
      exact ⟨p, List.mem_cons_of_mem _ h1, h2, h3, h4, by omega⟩

theorem suitRows_mem {g : Nat → Int} : ∀ (k i : Nat) (su : Int) (q : Nat), (su, q) ∈ suitRows g k i → ∃ j : Nat, i ≤ j ∧ j < i + k ∧ su = j ∧ q = (g j).toNat
  | 0, i, su, q, h => by cases h
  | k + 1, i, su, q, h => by
    simp only [suitRows, List.mem_cons, Prod.mk.injEq] at h
    rcases h with ⟨rfl, rfl⟩ | h
    · exact ⟨i, by omega, by omega, rfl, rfl⟩
    · obtain ⟨j, h1, h2, h3, h4⟩ := suitRows_mem k (i + 1) su q h
      exact ⟨j, by omega, by omega, h3, h4⟩

/-- What a found place is like. -/
theorem find_spec {s : SV} {kind su r q : Int} (h : s.find kind = some (su, r, q)) : s.err = 0 ∧ 0 ≤ r ∧ r < q ∧ 0 ≤ kind ∧ ((su = -1 ∨ su = -2 ∨ su = -3) ∨ ∃ i : Nat, i < s.n ∧ su = i ∧ q = s.g i) := by
  unfold SV.find at h
  split at h
  · rename_i he
    have hs := small_of_err he
    obtain ⟨q', h1, h2, h3, h4, h5⟩ := findRows_spec _ _ _ _ _ _ h
    refine ⟨he, h3, h4, h5, ?_⟩
    unfold SV.rows at h1
    rcases List.mem_append.1 h1 with h1 | h1
    · obtain ⟨j, j1, j2, j3, j4⟩ := suitRows_mem _ _ _ _ h1
      have := hs.g j (by omega)
      exact .inr ⟨j, by omega, j3, by omega⟩
    · simp only [SV.tail, List.mem_cons, Prod.mk.injEq, List.not_mem_nil, or_false] at h1
      rcases h1 with ⟨e, _⟩ | ⟨e, _⟩ | ⟨e, _⟩
      · exact .inl (.inl e)
      · exact .inl (.inr (.inl e))
      · exact .inl (.inr (.inr e))
  · cases h

/-- What both Mirrors answer. -/
def SV.mir (s : SV) (kind : Int) : Int :=
  match s.find kind with
  | none => -1
  | some (su, r, q) => if su < 0 then kind else wrapI .i64 (wrapI .i64 (wrapI .i64 (wrapI .i64 (kind - r) + q) - 1) - r)

set_option maxRecDepth 10000 in
set_option maxHeartbeats 8000000 in
theorem mirror_ev (call : Value → List Value → AH → Option (Value × AH)) (s : SV) (kind : Int) (hf : ∀ (H : AH), lookB H.bs 0 = some (.ints s.g) → lookB H.bs 1 = some (.ints s.h) → call (.func (.func 84) #[] #[]) [s.val, .int .i64 kind] H = some (findV (s.find kind), H)) :
    ∃ H', evFn (tabT Try.prog) call 300 kpT 39 Try.f39 [s.val, .int .i64 kind] s.hp = some (.int .i64 (s.mir kind), H') := by
  obtain ⟨_, _, hd80, t80⟩ := T80
  unfold SV.mir
  cases hx : s.find kind with
  | none =>
    rw [hx] at hf
    simp only [SV.val, findV, placeV] at hf
    simp only [evFn, Try.f39, SV.val, SV.hp]
    simp [ec_skip, ec_label, ek_reg, ek_draw, ek_seq, ec_cond, ek_block, ec_loop, ec_exit, ec_ret, ek_nil, ek_op, opK_some, regK_some, seqK_normal, seqK_exit, seqK_ret, blockK_normal, blockK_exit, blockK_ret, evOp, vOp, hOp, aWanted, aY, boolOf, opd, putT, closedV, undef, aBin, intOp, sameK, mapO, joinR, hasAddr, pushB, aAlloc, Value.cells, T3, T4, T22, FA24_0, FA24_1, FA24_2, FA24_3, FA24_4, FA24_5, FA24_6, FA24_7, FA24_8, LD3, LD4, LD22, LD27, LDr, LD24, LEN22, IA22, cellAt, lookB, Nat.beq_eq, takeCells, finF, takeM, resV, getT_set, setT_length, getT, setT, t80, hf, ST80, setB, putCells]
  | some x =>
    obtain ⟨su, r, q⟩ := x
    rw [hx] at hf
    simp only [SV.val, findV, placeV] at hf
    simp only [evFn, Try.f39, SV.val, SV.hp]
    by_cases c1 : su < 0
    · simp [ec_skip, ec_label, ek_reg, ek_draw, ek_seq, ec_cond, ek_block, ec_loop, ec_exit, ec_ret, ek_nil, ek_op, opK_some, regK_some, seqK_normal, seqK_exit, seqK_ret, blockK_normal, blockK_exit, blockK_ret, evOp, vOp, hOp, aWanted, aY, boolOf, opd, putT, closedV, undef, aBin, intOp, sameK, mapO, joinR, hasAddr, pushB, aAlloc, Value.cells, T3, T4, T22, FA24_0, FA24_1, FA24_2, FA24_3, FA24_4, FA24_5, FA24_6, FA24_7, FA24_8, LD3, LD4, LD22, LD27, LDr, LD24, LEN22, IA22, cellAt, lookB, Nat.beq_eq, takeCells, finF, takeM, resV, getT_set, setT_length, getT, setT, t80, hf, ST80, setB, putCells, FA80_0, FA80_1, FA80_2, c1]
    · simp [ec_skip, ec_label, ek_reg, ek_draw, ek_seq, ec_cond, ek_block, ec_loop, ec_exit, ec_ret, ek_nil, ek_op, opK_some, regK_some, seqK_normal, seqK_exit, seqK_ret, blockK_normal, blockK_exit, blockK_ret, evOp, vOp, hOp, aWanted, aY, boolOf, opd, putT, closedV, undef, aBin, intOp, sameK, mapO, joinR, hasAddr, pushB, aAlloc, Value.cells, T3, T4, T22, FA24_0, FA24_1, FA24_2, FA24_3, FA24_4, FA24_5, FA24_6, FA24_7, FA24_8, LD3, LD4, LD22, LD27, LDr, LD24, LEN22, IA22, cellAt, lookB, Nat.beq_eq, takeCells, finF, takeM, resV, getT_set, setT_length, getT, setT, t80, hf, ST80, setB, putCells, FA80_0, FA80_1, FA80_2, c1]

set_option maxRecDepth 10000 in
set_option maxHeartbeats 8000000 in
theorem rmirror_ev (call : Value → List Value → AH → Option (Value × AH)) (s : SV) (kind : Int) (hf : ∀ (H : AH), lookB H.bs 0 = some (.ints s.g) → lookB H.bs 1 = some (.ints s.h) → call (.func (.func 27) #[] #[]) [s.val, .int .i64 kind] H = some (placeT (s.find kind), H)) :
    ∃ H', evFn (tabT Try.prog) call 300 kpT 40 Try.f40 [s.val, .int .i64 kind] s.hp = some (.int .i64 (s.mir kind), H') := by
  unfold SV.mir
  cases hx : s.find kind with
  | none =>
    rw [hx] at hf
    simp only [SV.val, placeT] at hf
    simp only [evFn, Try.f40, SV.val, SV.hp]
    simp [ec_skip, ec_label, ek_reg, ek_draw, ek_seq, ec_cond, ek_block, ec_loop, ec_exit, ec_ret, ek_nil, ek_op, opK_some, regK_some, seqK_normal, seqK_exit, seqK_ret, blockK_normal, blockK_exit, blockK_ret, evOp, vOp, hOp, aWanted, aY, boolOf, opd, putT, closedV, undef, aBin, intOp, sameK, mapO, joinR, hasAddr, pushB, aAlloc, Value.cells, T3, T4, T22, FA24_0, FA24_1, FA24_2, FA24_3, FA24_4, FA24_5, FA24_6, FA24_7, FA24_8, LD3, LD4, LD22, LD27, LDr, LD24, LEN22, IA22, cellAt, lookB, Nat.beq_eq, takeCells, finF, takeM, resV, getT_set, setT_length, getT, setT, hf]
  | some x =>
    obtain ⟨su, r, q⟩ := x
    obtain ⟨_, _, _, _, hsu⟩ := find_spec hx
    rw [hx] at hf
    simp only [SV.val, placeT] at hf
    simp only [evFn, Try.f40, SV.val, SV.hp]
    rcases hsu with hsu | ⟨i, hi, rfl, rfl⟩
    · have c1 : su < 0 := by omega
      have c2 : (su == -4) = false := by simp only [beq_eq_false_iff_ne]; omega
      simp [ec_skip, ec_label, ek_reg, ek_draw, ek_seq, ec_cond, ek_block, ec_loop, ec_exit, ec_ret, ek_nil, ek_op, opK_some, regK_some, seqK_normal, seqK_exit, seqK_ret, blockK_normal, blockK_exit, blockK_ret, evOp, vOp, hOp, aWanted, aY, boolOf, opd, putT, closedV, undef, aBin, intOp, sameK, mapO, joinR, hasAddr, pushB, aAlloc, Value.cells, T3, T4, T22, FA24_0, FA24_1, FA24_2, FA24_3, FA24_4, FA24_5, FA24_6, FA24_7, FA24_8, LD3, LD4, LD22, LD27, LDr, LD24, LEN22, IA22, cellAt, lookB, Nat.beq_eq, takeCells, finF, takeM, resV, getT_set, setT_length, getT, setT, hf, c1, c2]
    · have c1 : ¬ (i : Int) < 0 := by omega
      have c2 : ((i : Int) == -4) = false := by simp only [beq_eq_false_iff_ne]; omega
      simp [ec_skip, ec_label, ek_reg, ek_draw, ek_seq, ec_cond, ek_block, ec_loop, ec_exit, ec_ret, ek_nil, ek_op, opK_some, regK_some, seqK_normal, seqK_exit, seqK_ret, blockK_normal, blockK_exit, blockK_ret, evOp, vOp, hOp, aWanted, aY, boolOf, opd, putT, closedV, undef, aBin, intOp, sameK, mapO, joinR, hasAddr, pushB, aAlloc, Value.cells, T3, T4, T22, FA24_0, FA24_1, FA24_2, FA24_3, FA24_4, FA24_5, FA24_6, FA24_7, FA24_8, LD3, LD4, LD22, LD27, LDr, LD24, LEN22, IA22, cellAt, lookB, Nat.beq_eq, takeCells, finF, takeM, resV, getT_set, setT_length, getT, setT, hf, c1, c2, hi]

end Go.Proofs.Ytkoppbbmdjhaoaa
