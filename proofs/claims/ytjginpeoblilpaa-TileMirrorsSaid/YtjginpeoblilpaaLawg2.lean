/-
  What is proved: what tile.Mirror answers for every set and every number. what tile.Runs answers for every set and every number. what tile.Swap answers for every set and all numbers. a set whose lists lie in cells, related to a set that is told by functions; calls that answer a list in one new block for such a set. what tile.kinds comes to for a loop's body that always goes on: every row in its order, whatever the memory is that the body keeps. one round of the loop in tile.Orphans, and what tile.Orphans answers for every set: a list in new memory. what tile.Orphans answers for every set: a list in new memory, made row by row; as answers that calls may take; which kinds are in it. mirrors and swaps undo themselves, keep runs, the kind after, and orphans: for all numbers. the body of the law on mirrors and swaps, by what its calls answer. the opening of the laws over sets that are made of numbers: which memory there is behind NewSource and SetOf, for any known answers of other calls. the law's body ends with true for every list of numbers, every kind and all suits. a list of pairs of integers, as a row's argument reads it, is related to a known list of cells (nothing of the program). a list of integers of any length, as a row's argument reads it, is related to a known list of cells (nothing of the program).
-/
import Derived.Test.YtjginpeoblilpaaLawg1
import Derived.Test.YtjginpeoblilpaaM1j
import Derived.Test.YtjginpeoblilpaaLawg0
import Derived.OpenShut
import Derived.HandedShaped
namespace Go.Proofs.Ytjginpeoblilpaa
open Go.RowKit
set_option linter.unusedSimpArgs false
set_option linter.unusedVariables false

section
set_option linter.unusedSimpArgs false
set_option linter.unusedVariables false

/-- What Mirror answers. -/
noncomputable def SV.mir (s : SV) (kind : Int) : Int :=
  match s.find kind with
  | none => -1
  | some (su, r, q) => if su < 0 then kind else kind - r + q - 1 - r
theorem FMi : tabF Try.prog 44 = some Try.f44 := by kernel_rfl
theorem kgM : kpT 44 = false := by kernel_rfl
set_option maxRecDepth 10000 in
set_option maxHeartbeats 8000000 in
theorem mirror_ev (call : Value → List Value → AH → Option (Value × AH)) (s : SV) (kind : Int) (hf : ∀ (H : AH), lookB H.bs 0 = some (.ints s.g) → lookB H.bs 1 = some (.ints s.h) → call (.func (.func 49) #[] #[]) [s.val, .int .i64 kind] H = some (findV (s.find kind), H)) :
    ∃ H', evFn (tabT Try.prog) call 300 kpT 44 Try.f44 [s.val, .int .i64 kind] s.hp = some (.int .i64 (s.mir kind), H') := by
  have kp := kgM
  unfold SV.mir
  cases hx : s.find kind with
  | none =>
    rw [hx] at hf
    simp only [SV.val, findV, placeV] at hf
    simp only [evFn, Try.f44, SV.val, SV.hp]
    simp [ec_skip, ec_label, ek_reg, ek_draw, ek_seq, ec_cond, ek_block, ec_loop, ec_exit, ec_ret, ec_scope, ek_nil, ek_op, opK_some, regK_some, seqK_normal, seqK_exit, seqK_ret, blockK_normal, blockK_exit, blockK_ret, evOp, vOp, hOpB, hOpU, hOp, hOpT, aAppendG_tab, aWanted, aYielded, opd, putT, closedV, aBin, intOp, sameK, mapO, joinR, hasAddr, boundOf, pushB, aAlloc, Value.cells, lookB, setB, Nat.beq_eq, tm_n_set, tm_get_set, tm_of_n, tm_of_get, tm_tr_set, tm_tr_of, cellV, putF, appR_eq, takeR_eq, dropR_eq, setR_eq, getR_eq, ↓C75, ↓C76, ↓C77, ↓C79, ↓C17, ↓C18, ↓C22, ↓C71, FA24_0, FA24_1, FA24_2, FA24_3, FA24_4, FA24_5, FA24_6, FA24_7, FA24_8, LD3, LD4, LD22, LD27, LDr, LD24, LEN22, IA22, tkc, cellAt, ↓Cfind, hf, ↓AL43, ST43, finF, takeM, resV, cleanedG, kp, below]
  | some x =>
    obtain ⟨su, r, q⟩ := x
    obtain ⟨_, r0, rq, k0, _⟩ := find_spec hx
    obtain ⟨_, q9, k42, rk, _⟩ := find_many hx
    rw [hx] at hf
    simp only [SV.val, findV, placeV] at hf
    have w1 : wrapI .i64 (kind - r) = kind - r := wrapI_small (by omega) (by omega)
    have w2 : wrapI .i64 (kind - r + q) = kind - r + q := wrapI_small (by omega) (by omega)
    have w3 : wrapI .i64 (kind - r + q - 1) = kind - r + q - 1 := wrapI_small (by omega) (by omega)
    have w4 : wrapI .i64 (kind - r + q - 1 - r) = kind - r + q - 1 - r := wrapI_small (by omega) (by omega)
    simp only [evFn, Try.f44, SV.val, SV.hp]
    by_cases c : su < 0
    · simp [ec_skip, ec_label, ek_reg, ek_draw, ek_seq, ec_cond, ek_block, ec_loop, ec_exit, ec_ret, ec_scope, ek_nil, ek_op, opK_some, regK_some, seqK_normal, seqK_exit, seqK_ret, blockK_normal, blockK_exit, blockK_ret, evOp, vOp, hOpB, hOpU, hOp, hOpT, aAppendG_tab, aWanted, aYielded, opd, putT, closedV, aBin, intOp, sameK, mapO, joinR, hasAddr, boundOf, pushB, aAlloc, Value.cells, lookB, setB, Nat.beq_eq, tm_n_set, tm_get_set, tm_of_n, tm_of_get, tm_tr_set, tm_tr_of, cellV, putF, appR_eq, takeR_eq, dropR_eq, setR_eq, getR_eq, ↓C75, ↓C76, ↓C77, ↓C79, ↓C17, ↓C18, ↓C22, ↓C71, FA24_0, FA24_1, FA24_2, FA24_3, FA24_4, FA24_5, FA24_6, FA24_7, FA24_8, LD3, LD4, LD22, LD27, LDr, LD24, LEN22, IA22, tkc, cellAt, ↓Cfind, hf, ↓AL43, ST43, FP0, FP1, FP2, c, finF, takeM, resV, cleanedG, kp, below]
    · simp [ec_skip, ec_label, ek_reg, ek_draw, ek_seq, ec_cond, ek_block, ec_loop, ec_exit, ec_ret, ec_scope, ek_nil, ek_op, opK_some, regK_some, seqK_normal, seqK_exit, seqK_ret, blockK_normal, blockK_exit, blockK_ret, evOp, vOp, hOpB, hOpU, hOp, hOpT, aAppendG_tab, aWanted, aYielded, opd, putT, closedV, aBin, intOp, sameK, mapO, joinR, hasAddr, boundOf, pushB, aAlloc, Value.cells, lookB, setB, Nat.beq_eq, tm_n_set, tm_get_set, tm_of_n, tm_of_get, tm_tr_set, tm_tr_of, cellV, putF, appR_eq, takeR_eq, dropR_eq, setR_eq, getR_eq, ↓C75, ↓C76, ↓C77, ↓C79, ↓C17, ↓C18, ↓C22, ↓C71, FA24_0, FA24_1, FA24_2, FA24_3, FA24_4, FA24_5, FA24_6, FA24_7, FA24_8, LD3, LD4, LD22, LD27, LDr, LD24, LEN22, IA22, tkc, cellAt, ↓Cfind, hf, ↓AL43, ST43, FP0, FP1, FP2, c, w1, w2, w3, w4, finF, takeM, resV, cleanedG, kp, below]
noncomputable def ansMi : SV → List Value → Option Value
  | s, [.int .i64 k] => some (.int .i64 (s.mir k))
  | _, _ => none
theorem setM_ok : CallOK Try.prog (setH 44 ansMi) := setH_ok (runH_ok F1_ok) fun s rest v _ _ hv => by
  unfold ansMi at hv
  split at hv
  · rename_i k
    cases hv
    obtain ⟨H', h⟩ := mirror_ev (inH F1) s k (fun H h0 h1 => F1_find s k H h0 h1)
    exact ⟨rfl, H', runH_fn FMi rfl h⟩
  · cases hv

end

section
set_option linter.unusedSimpArgs false
set_option linter.unusedVariables false

/-- What Runs answers. -/
noncomputable def SV.runs (s : SV) (kind : Int) : Bool :=
  match s.find kind with
  | none => false
  | some (su, r, q) => decide (0 ≤ su) && decide (r + 2 < q)
theorem FRu : tabF Try.prog 20 = some Try.f20 := by kernel_rfl
theorem kgR : kpT 20 = false := by kernel_rfl
set_option maxRecDepth 10000 in
set_option maxHeartbeats 8000000 in
theorem runs_ev (call : Value → List Value → AH → Option (Value × AH)) (s : SV) (kind : Int) (hf : ∀ (H : AH), lookB H.bs 0 = some (.ints s.g) → lookB H.bs 1 = some (.ints s.h) → call (.func (.func 49) #[] #[]) [s.val, .int .i64 kind] H = some (findV (s.find kind), H)) :
    ∃ H', evFn (tabT Try.prog) call 300 kpT 20 Try.f20 [s.val, .int .i64 kind] s.hp = some (.bool (s.runs kind), H') := by
  have kp := kgR
  unfold SV.runs
  cases hx : s.find kind with
  | none =>
    rw [hx] at hf
    simp only [SV.val, findV, placeV] at hf
    simp only [evFn, Try.f20, SV.val, SV.hp]
    simp [ec_skip, ec_label, ek_reg, ek_draw, ek_seq, ec_cond, ek_block, ec_loop, ec_exit, ec_ret, ec_scope, ek_nil, ek_op, opK_some, regK_some, seqK_normal, seqK_exit, seqK_ret, blockK_normal, blockK_exit, blockK_ret, evOp, vOp, hOpB, hOpU, hOp, hOpT, aAppendG_tab, aWanted, aYielded, opd, putT, closedV, aBin, intOp, sameK, mapO, joinR, hasAddr, boundOf, pushB, aAlloc, Value.cells, lookB, setB, Nat.beq_eq, tm_n_set, tm_get_set, tm_of_n, tm_of_get, tm_tr_set, tm_tr_of, cellV, putF, appR_eq, takeR_eq, dropR_eq, setR_eq, getR_eq, ↓C75, ↓C76, ↓C77, ↓C79, ↓C17, ↓C18, ↓C22, ↓C71, FA24_0, FA24_1, FA24_2, FA24_3, FA24_4, FA24_5, FA24_6, FA24_7, FA24_8, LD3, LD4, LD22, LD27, LDr, LD24, LEN22, IA22, tkc, cellAt, ↓Cfind, hf, ↓AL43, ST43, FP0, FP1, FP2, finF, takeM, resV, cleanedG, kp, below]
  | some x =>
    obtain ⟨su, r, q⟩ := x
    obtain ⟨_, r0, rq, k0, _⟩ := find_spec hx
    obtain ⟨_, q9, k42, rk, _⟩ := find_many hx
    rw [hx] at hf
    simp only [SV.val, findV, placeV] at hf
    have w1 : wrapI .i64 (r + 2) = r + 2 := wrapI_small (by omega) (by omega)
    simp only [evFn, Try.f20, SV.val, SV.hp]
    by_cases c : 0 ≤ su
    · simp [ec_skip, ec_label, ek_reg, ek_draw, ek_seq, ec_cond, ek_block, ec_loop, ec_exit, ec_ret, ec_scope, ek_nil, ek_op, opK_some, regK_some, seqK_normal, seqK_exit, seqK_ret, blockK_normal, blockK_exit, blockK_ret, evOp, vOp, hOpB, hOpU, hOp, hOpT, aAppendG_tab, aWanted, aYielded, opd, putT, closedV, aBin, intOp, sameK, mapO, joinR, hasAddr, boundOf, pushB, aAlloc, Value.cells, lookB, setB, Nat.beq_eq, tm_n_set, tm_get_set, tm_of_n, tm_of_get, tm_tr_set, tm_tr_of, cellV, putF, appR_eq, takeR_eq, dropR_eq, setR_eq, getR_eq, ↓C75, ↓C76, ↓C77, ↓C79, ↓C17, ↓C18, ↓C22, ↓C71, FA24_0, FA24_1, FA24_2, FA24_3, FA24_4, FA24_5, FA24_6, FA24_7, FA24_8, LD3, LD4, LD22, LD27, LDr, LD24, LEN22, IA22, tkc, cellAt, ↓Cfind, hf, ↓AL43, ST43, FP0, FP1, FP2, c, w1, finF, takeM, resV, cleanedG, kp, below]
    · simp [ec_skip, ec_label, ek_reg, ek_draw, ek_seq, ec_cond, ek_block, ec_loop, ec_exit, ec_ret, ec_scope, ek_nil, ek_op, opK_some, regK_some, seqK_normal, seqK_exit, seqK_ret, blockK_normal, blockK_exit, blockK_ret, evOp, vOp, hOpB, hOpU, hOp, hOpT, aAppendG_tab, aWanted, aYielded, opd, putT, closedV, aBin, intOp, sameK, mapO, joinR, hasAddr, boundOf, pushB, aAlloc, Value.cells, lookB, setB, Nat.beq_eq, tm_n_set, tm_get_set, tm_of_n, tm_of_get, tm_tr_set, tm_tr_of, cellV, putF, appR_eq, takeR_eq, dropR_eq, setR_eq, getR_eq, ↓C75, ↓C76, ↓C77, ↓C79, ↓C17, ↓C18, ↓C22, ↓C71, FA24_0, FA24_1, FA24_2, FA24_3, FA24_4, FA24_5, FA24_6, FA24_7, FA24_8, LD3, LD4, LD22, LD27, LDr, LD24, LEN22, IA22, tkc, cellAt, ↓Cfind, hf, ↓AL43, ST43, FP0, FP1, FP2, c, w1, finF, takeM, resV, cleanedG, kp, below]
noncomputable def ansRu : SV → List Value → Option Value
  | s, [.int .i64 k] => some (.bool (s.runs k))
  | _, _ => none
theorem setR_ok : CallOK Try.prog (setH 20 ansRu) := setH_ok (runH_ok F1_ok) fun s rest v _ _ hv => by
  unfold ansRu at hv
  split at hv
  · rename_i k
    cases hv
    obtain ⟨H', h⟩ := runs_ev (inH F1) s k (fun H h0 h1 => F1_find s k H h0 h1)
    exact ⟨rfl, H', runH_fn FRu rfl h⟩
  · cases hv

end

section
set_option linter.unusedSimpArgs false
set_option linter.unusedVariables false

noncomputable def firstN (g : Nat → Int) : Nat → Int
  | 0 => 0
  | j + 1 => firstN g j + g j

theorem firstN_small {s : SV} (hs : s.Small) : ∀ j, j ≤ s.n → 0 ≤ firstN s.g j ∧ firstN s.g j ≤ 9 * j
  | 0, _ => by simp [firstN]
  | j + 1, h => by
    obtain ⟨h1, h2⟩ := firstN_small hs j (by omega)
    obtain ⟨b1, b2⟩ := hs.g j (by omega)
    simp only [firstN]
    omega

theorem atRows_suit {g : Nat → Int} {tail : List (Int × Nat)} {j : Nat} {rk : Int} (h0 : 0 ≤ rk) (h1 : rk < g j) : ∀ (k i : Nat), (∀ x, x < i + k → 1 ≤ g x) → i ≤ j → j < i + k →
    atRows (suitRows g k i ++ tail) (firstN g i) j rk = some (firstN g j + rk)
  | 0, i, _, h2, h3 => by omega
  | k + 1, i, hg, h2, h3 => by
    have hgi := hg i (by omega)
    have q1 : ((g i).toNat : Int) = g i := by omega
    simp only [suitRows, List.cons_append, atRows]
    by_cases hij : i = j
    · subst hij
      rw [if_pos ⟨rfl, h0, by omega⟩]
    · rw [if_neg (fun hh => hij (by omega))]
      have := atRows_suit (tail := tail) h0 h1 k (i + 1) (fun x hx => hg x (by omega)) (by omega) (by omega)
      rw [firstN] at this
      rw [q1]
      exact this

theorem at_suit {s : SV} (hs : s.Small) {j : Nat} {rk : Int} (hj : j < s.n) (h0 : 0 ≤ rk) (h1 : rk < s.g j) : atRows s.rows 0 j rk = some (firstN s.g j + rk) := by
  have := atRows_suit (g := s.g) (tail := s.tail) h0 h1 s.n 0 (fun x hx => (hs.g x (by omega)).1) (by omega) (by omega)
  exact this

theorem eo_call4 {T : TypeId → Option TI} {call : Value → List Value → AH → Option (Value × AH)} {g : Operand → Option Value} {H : AH} {f : FuncId} {ts : Array TypeId} {x y z r : Operand} {u v w q : Value} (hf : g (.func f) = some (.func (.func f) #[] #[])) (hx : g x = some u) (hy : g y = some v) (hz : g z = some w) (hr : g r = some q) :
    evO T call (.call ⟨.value (.func f), #[x, y, z, r], ts⟩) g H = call (.func (.func f) #[] #[]) [u, v, w, q] H := by
  simp [evO, evOp, vOp, hOpB, hOpU, hOp, hOpT, hf, hx, hy, hz, hr, mapO, boundOf]
theorem Cbt (call : Value → List Value → AH → Option (Value × AH)) {tm : Tm} {i k : Nat} {H : AH} {d : Option Tmp} {t : TypeId} {p : String} {a : Array Edge} {gd : Option (Nat × Bool)} : evOp (tabT Try.prog) call ⟨d, .call ⟨.value (.func 52), #[.tmp i, .const (.int .i64 0), .tmp k], #[3, 3, 3]⟩, t, p, a, gd⟩ (opd tm) H = call (.func (.func 52) #[] #[]) [tm.get i, .int .i64 0, tm.get k] H :=
  evOp_evO.trans (eo_call3 rfl rfl rfl rfl)
theorem Gbt (call : Value → List Value → AH → Option (Value × AH)) {tm : Tm} {rs : List DR} {ts : List Nat} {i k : Nat} {H : AH} {d : Option Tmp} {t : TypeId} {p : String} {a : Array Edge} {gd : Option (Nat × Bool)} (hi : natMem ts i = true) (hk : natMem ts k = true) : evOp (tabT Try.prog) call ⟨d, .call ⟨.value (.func 52), #[.tmp i, .const (.int .i64 0), .tmp k], #[3, 3, 3]⟩, t, p, a, gd⟩ (gOf tm rs ts) H = call (.func (.func 52) #[] #[]) [(finT tm rs).get i, .int .i64 0, (finT tm rs).get k] H :=
  evOp_evO.trans (eo_call3 rfl (by simp only [gOf, hi, if_true]) rfl (by simp only [gOf, hk, if_true]))
theorem Wbt : wrT 52 = false := by kernel_rfl
theorem Cat (call : Value → List Value → AH → Option (Value × AH)) {tm : Tm} {i j k : Nat} {H : AH} {d : Option Tmp} {t : TypeId} {p : String} {a : Array Edge} {gd : Option (Nat × Bool)} : evOp (tabT Try.prog) call ⟨d, .call ⟨.value (.func 69), #[.tmp i, .tmp j, .tmp k], #[24, 3, 3]⟩, t, p, a, gd⟩ (opd tm) H = call (.func (.func 69) #[] #[]) [tm.get i, tm.get j, tm.get k] H :=
  evOp_evO.trans (eo_call3 rfl rfl rfl rfl)

/-- Whether two suits cannot be swapped. -/
noncomputable def SV.noSwap (s : SV) (a b : Int) : Bool := !btw a 0 (s.n - 1) || !btw b 0 (s.n - 1) || s.g a.toNat != s.g b.toNat
/-- What Swap answers. -/
noncomputable def SV.swp (s : SV) (kind a b : Int) : Int :=
  match s.find kind with
  | none => -1
  | some (su, r, _) => if s.noSwap a b then kind else if su = a then firstN s.g b.toNat + r else if su = b then firstN s.g a.toNat + r else kind
theorem FSw : tabF Try.prog 45 = some Try.f45 := by kernel_rfl
theorem kgS : kpT 45 = false := by kernel_rfl
set_option maxRecDepth 10000 in
set_option maxHeartbeats 8000000 in
theorem swap_ev (call : Value → List Value → AH → Option (Value × AH)) (s : SV) (kind a b : Int) (hf : ∀ (H : AH), lookB H.bs 0 = some (.ints s.g) → lookB H.bs 1 = some (.ints s.h) → call (.func (.func 49) #[] #[]) [s.val, .int .i64 kind] H = some (findV (s.find kind), H))
    (hb : ∀ (n l m : Int) (H : AH), call (.func (.func 52) #[] #[]) [.int .i64 n, .int .i64 l, .int .i64 m] H = some (.bool (btw n l m), H))
    (ha : ∀ (x y : Int), s.err = 0 → ∀ (H : AH), lookB H.bs 0 = some (.ints s.g) → lookB H.bs 1 = some (.ints s.h) → call (.func (.func 69) #[] #[]) [s.val, .int .i64 x, .int .i64 y] H = some (atV (atRows s.rows 0 x y), H)) :
    ∃ H', evFn (tabT Try.prog) call 300 kpT 45 Try.f45 [s.val, .int .i64 kind, .int .i64 a, .int .i64 b] s.hp = some (.int .i64 (s.swp kind a b), H') := by
  have kp := kgS
  unfold SV.swp
  cases hx : s.find kind with
  | none =>
    rw [hx] at hf
    simp only [SV.val, findV, placeV] at hf
    simp only [evFn, Try.f45, SV.val, SV.hp]
    simp [ec_skip, ec_label, ek_reg, ek_draw, ek_seq, ec_cond, ek_block, ec_loop, ec_exit, ec_ret, ec_scope, ek_nil, ek_op, opK_some, regK_some, seqK_normal, seqK_exit, seqK_ret, blockK_normal, blockK_exit, blockK_ret, evOp, vOp, hOpB, hOpU, hOp, hOpT, aAppendG_tab, aWanted, aYielded, opd, putT, closedV, aBin, intOp, sameK, mapO, joinR, hasAddr, boundOf, pushB, aAlloc, Value.cells, lookB, setB, Nat.beq_eq, tm_n_set, tm_get_set, tm_of_n, tm_of_get, tm_tr_set, tm_tr_of, cellV, putF, appR_eq, takeR_eq, dropR_eq, setR_eq, getR_eq, ↓C75, ↓C76, ↓C77, ↓C79, ↓C17, ↓C18, ↓C22, ↓C71, FA24_0, FA24_1, FA24_2, FA24_3, FA24_4, FA24_5, FA24_6, FA24_7, FA24_8, LD3, LD4, LD22, LD27, LDr, LD24, LEN22, IA22, tkc, cellAt, ↓Cfind, hf, ↓AL43, ST43, finF, takeM, resV, cleanedG, kp, below]
  | some x =>
    obtain ⟨su, r, q⟩ := x
    obtain ⟨he, r0, rq, _, hsu⟩ := find_spec hx
    have hs := small_of_err he
    have hn3 := hs.n
    have wn : wrapI .i64 ((s.n : Int) - 1) = (s.n : Int) - 1 := wrapI_small (by omega) (by omega)
    rw [hx] at hf
    simp only [SV.val, findV, placeV] at hf
    have hat := fun x y => ha x y he
    simp only [SV.val] at hat
    simp only [evFn, Try.f45, SV.val, SV.hp]
    simp [ec_skip, ec_label, ek_reg, ek_draw, ek_seq, ec_cond, ek_block, ec_loop, ec_exit, ec_ret, ec_scope, ek_nil, ek_op, opK_some, regK_some, seqK_normal, seqK_exit, seqK_ret, blockK_normal, blockK_exit, blockK_ret, evOp, vOp, hOpB, hOpU, hOp, hOpT, aAppendG_tab, aWanted, aYielded, opd, putT, closedV, aBin, intOp, sameK, mapO, joinR, hasAddr, boundOf, pushB, aAlloc, Value.cells, lookB, setB, Nat.beq_eq, tm_n_set, tm_get_set, tm_of_n, tm_of_get, tm_tr_set, tm_tr_of, cellV, putF, appR_eq, takeR_eq, dropR_eq, setR_eq, getR_eq, ↓C75, ↓C76, ↓C77, ↓C79, ↓C17, ↓C18, ↓C22, ↓C71, FA24_0, FA24_1, FA24_2, FA24_3, FA24_4, FA24_5, FA24_6, FA24_7, FA24_8, LD3, LD4, LD22, LD27, LDr, LD24, LEN22, IA22, tkc, cellAt, ↓Cfind, hf, ↓AL43, ST43, wn]
    generalize hX : evDrawX _ _ _ _ _ = X
    cases ca : btw a 0 ((s.n : Int) - 1) with
    | false =>
      obtain ⟨tm, rfl, hl, t1, t2, t3, t4, t9, t46⟩ := draw_ro (Pt := fun tm => tm.get 1 = .int .i64 kind ∧ tm.get 2 = .int .i64 a ∧ tm.get 3 = .int .i64 b ∧ tm.get 4 = .pointer (some ⟨2, 0, none⟩) ∧ tm.get 9 = .pointer (some ⟨3, 0, none⟩) ∧ tm.get 46 = .bool (true)) hX (by kernel_rfl) (by simp [decrK]) (by
        clear hX
        generalize befs _ = M
        simp [mapO, drRun, drOp, dr3, looks, guardT, tmpsOf, Op.operands, Call.operands, wantedR, gOf, finT, natMem, isNil, writesF, evOp, vOp, hOpB, hOpU, hOp, hOpT, aAppendG_tab, opd, closedV, aBin, intOp, sameK, opdO, boundOf, undef, lookB, Nat.beq_eq, tm_n_set, tm_get_set, tm_of_n, tm_of_get, tm_tr_set, tm_tr_of, b02, b12, b32, ↓G75, W75, ↓G76, W76, ↓G77, W77, ↓G79, W79, ↓G17, W17, ↓G18, W18, ↓G22, W22, ↓G71, W71, tv, all1, roB, roK, news, newOnes, decr, tkc, cellAt, LD3, LD4, LD22, LD27, LDr, LD24, LEN22, IA22, FA24_0, FA24_1, FA24_2, FA24_3, FA24_4, FA24_5, FA24_6, FA24_7, FA24_8, ↓Gbt, Wbt, hb, ca]
        refine ⟨by simp [dynOK, b02, b12, b32, Nat.blt_eq, tm_n_set, tm_of_n], by simp [wheap, news, b02, b12, b32]⟩)
      clear hX
      simp [tm_n_set, tm_of_n] at hl
      simp [ec_skip, ec_label, ek_reg, ek_draw, ek_seq, ec_cond, ek_block, ec_loop, ec_exit, ec_ret, ec_scope, ek_nil, ek_op, opK_some, regK_some, seqK_normal, seqK_exit, seqK_ret, blockK_normal, blockK_exit, blockK_ret, evOp, vOp, hOpB, hOpU, hOp, hOpT, aAppendG_tab, aWanted, aYielded, opd, putT, closedV, aBin, intOp, sameK, mapO, joinR, hasAddr, boundOf, pushB, aAlloc, Value.cells, lookB, setB, Nat.beq_eq, tm_n_set, tm_get_set, tm_of_n, tm_of_get, tm_tr_set, tm_tr_of, cellV, putF, appR_eq, takeR_eq, dropR_eq, setR_eq, getR_eq, ↓C75, ↓C76, ↓C77, ↓C79, ↓C17, ↓C18, ↓C22, ↓C71, FA24_0, FA24_1, FA24_2, FA24_3, FA24_4, FA24_5, FA24_6, FA24_7, FA24_8, LD3, LD4, LD22, LD27, LDr, LD24, LEN22, IA22, tkc, cellAt, hl, t1, t2, t3, t4, t9, t46, SV.noSwap, ca, finF, takeM, resV, cleanedG, kp, below]
    | true =>
      cases cb : btw b 0 ((s.n : Int) - 1) with
      | false =>
        obtain ⟨tm, rfl, hl, t1, t2, t3, t4, t9, t46⟩ := draw_ro (Pt := fun tm => tm.get 1 = .int .i64 kind ∧ tm.get 2 = .int .i64 a ∧ tm.get 3 = .int .i64 b ∧ tm.get 4 = .pointer (some ⟨2, 0, none⟩) ∧ tm.get 9 = .pointer (some ⟨3, 0, none⟩) ∧ tm.get 46 = .bool (true)) hX (by kernel_rfl) (by simp [decrK]) (by
          clear hX
          generalize befs _ = M
          simp [mapO, drRun, drOp, dr3, looks, guardT, tmpsOf, Op.operands, Call.operands, wantedR, gOf, finT, natMem, isNil, writesF, evOp, vOp, hOpB, hOpU, hOp, hOpT, aAppendG_tab, opd, closedV, aBin, intOp, sameK, opdO, boundOf, undef, lookB, Nat.beq_eq, tm_n_set, tm_get_set, tm_of_n, tm_of_get, tm_tr_set, tm_tr_of, b02, b12, b32, ↓G75, W75, ↓G76, W76, ↓G77, W77, ↓G79, W79, ↓G17, W17, ↓G18, W18, ↓G22, W22, ↓G71, W71, tv, all1, roB, roK, news, newOnes, decr, tkc, cellAt, LD3, LD4, LD22, LD27, LDr, LD24, LEN22, IA22, FA24_0, FA24_1, FA24_2, FA24_3, FA24_4, FA24_5, FA24_6, FA24_7, FA24_8, ↓Gbt, Wbt, hb, ca, cb]
          refine ⟨by simp [dynOK, b02, b12, b32, Nat.blt_eq, tm_n_set, tm_of_n], by simp [wheap, news, b02, b12, b32]⟩)
        clear hX
        simp [tm_n_set, tm_of_n] at hl
        simp [ec_skip, ec_label, ek_reg, ek_draw, ek_seq, ec_cond, ek_block, ec_loop, ec_exit, ec_ret, ec_scope, ek_nil, ek_op, opK_some, regK_some, seqK_normal, seqK_exit, seqK_ret, blockK_normal, blockK_exit, blockK_ret, evOp, vOp, hOpB, hOpU, hOp, hOpT, aAppendG_tab, aWanted, aYielded, opd, putT, closedV, aBin, intOp, sameK, mapO, joinR, hasAddr, boundOf, pushB, aAlloc, Value.cells, lookB, setB, Nat.beq_eq, tm_n_set, tm_get_set, tm_of_n, tm_of_get, tm_tr_set, tm_tr_of, cellV, putF, appR_eq, takeR_eq, dropR_eq, setR_eq, getR_eq, ↓C75, ↓C76, ↓C77, ↓C79, ↓C17, ↓C18, ↓C22, ↓C71, FA24_0, FA24_1, FA24_2, FA24_3, FA24_4, FA24_5, FA24_6, FA24_7, FA24_8, LD3, LD4, LD22, LD27, LDr, LD24, LEN22, IA22, tkc, cellAt, hl, t1, t2, t3, t4, t9, t46, SV.noSwap, ca, cb, finF, takeM, resV, cleanedG, kp, below]
      | true =>
        have ca' := btw_iff.1 ca
        have cb' := btw_iff.1 cb
        obtain ⟨ja, rfl⟩ : ∃ j : Nat, a = j := ⟨a.toNat, by omega⟩
        obtain ⟨jb, rfl⟩ : ∃ j : Nat, b = j := ⟨b.toNat, by omega⟩
        have hja : ja < s.n := by omega
        have hjb : jb < s.n := by omega
        obtain ⟨tm, rfl, hl, t1, t2, t3, t4, t9, t46⟩ := draw_ro (Pt := fun tm => tm.get 1 = .int .i64 kind ∧ tm.get 2 = .int .i64 ja ∧ tm.get 3 = .int .i64 jb ∧ tm.get 4 = .pointer (some ⟨2, 0, none⟩) ∧ tm.get 9 = .pointer (some ⟨3, 0, none⟩) ∧ tm.get 46 = .bool (s.g ja != s.g jb)) hX (by kernel_rfl) (by simp [decrK]) (by
          clear hX
          generalize befs _ = M
          simp [mapO, drRun, drOp, dr3, looks, guardT, tmpsOf, Op.operands, Call.operands, wantedR, gOf, finT, natMem, isNil, writesF, evOp, vOp, hOpB, hOpU, hOp, hOpT, aAppendG_tab, opd, closedV, aBin, intOp, sameK, opdO, boundOf, undef, lookB, Nat.beq_eq, tm_n_set, tm_get_set, tm_of_n, tm_of_get, tm_tr_set, tm_tr_of, b02, b12, b32, ↓G75, W75, ↓G76, W76, ↓G77, W77, ↓G79, W79, ↓G17, W17, ↓G18, W18, ↓G22, W22, ↓G71, W71, tv, all1, roB, roK, news, newOnes, decr, tkc, cellAt, LD3, LD4, LD22, LD27, LDr, LD24, LEN22, IA22, FA24_0, FA24_1, FA24_2, FA24_3, FA24_4, FA24_5, FA24_6, FA24_7, FA24_8, ↓Gbt, Wbt, hb, ca, cb, hja, hjb]
          refine ⟨by simp [dynOK, b02, b12, b32, Nat.blt_eq, tm_n_set, tm_of_n], by simp [wheap, news, b02, b12, b32]⟩)
        clear hX
        simp [tm_n_set, tm_of_n] at hl
        cases cg : (s.g ja != s.g jb) with
        | true =>
          rw [cg] at t46
          simp [ec_skip, ec_label, ek_reg, ek_draw, ek_seq, ec_cond, ek_block, ec_loop, ec_exit, ec_ret, ec_scope, ek_nil, ek_op, opK_some, regK_some, seqK_normal, seqK_exit, seqK_ret, blockK_normal, blockK_exit, blockK_ret, evOp, vOp, hOpB, hOpU, hOp, hOpT, aAppendG_tab, aWanted, aYielded, opd, putT, closedV, aBin, intOp, sameK, mapO, joinR, hasAddr, boundOf, pushB, aAlloc, Value.cells, lookB, setB, Nat.beq_eq, tm_n_set, tm_get_set, tm_of_n, tm_of_get, tm_tr_set, tm_tr_of, cellV, putF, appR_eq, takeR_eq, dropR_eq, setR_eq, getR_eq, ↓C75, ↓C76, ↓C77, ↓C79, ↓C17, ↓C18, ↓C22, ↓C71, FA24_0, FA24_1, FA24_2, FA24_3, FA24_4, FA24_5, FA24_6, FA24_7, FA24_8, LD3, LD4, LD22, LD27, LDr, LD24, LEN22, IA22, tkc, cellAt, hl, t1, t2, t3, t4, t9, t46, SV.noSwap, ca, cb, cg, finF, takeM, resV, cleanedG, kp, below]
        | false =>
          have cgg : s.g ja = s.g jb := by simpa using cg
          rw [cg] at t46
          by_cases e1 : su = (ja : Int)
          · have hq : r < s.g jb := by
              rcases hsu with h | ⟨i, hi, h, hq⟩
              · omega
              · have : i = ja := by omega
                subst this
                omega
            have h := hat jb r
            rw [at_suit hs hjb r0 hq] at h
            simp only [atV] at h
            subst e1
            simp [ec_skip, ec_label, ek_reg, ek_draw, ek_seq, ec_cond, ek_block, ec_loop, ec_exit, ec_ret, ec_scope, ek_nil, ek_op, opK_some, regK_some, seqK_normal, seqK_exit, seqK_ret, blockK_normal, blockK_exit, blockK_ret, evOp, vOp, hOpB, hOpU, hOp, hOpT, aAppendG_tab, aWanted, aYielded, opd, putT, closedV, aBin, intOp, sameK, mapO, joinR, hasAddr, boundOf, pushB, aAlloc, Value.cells, lookB, setB, Nat.beq_eq, tm_n_set, tm_get_set, tm_of_n, tm_of_get, tm_tr_set, tm_tr_of, cellV, putF, appR_eq, takeR_eq, dropR_eq, setR_eq, getR_eq, ↓C75, ↓C76, ↓C77, ↓C79, ↓C17, ↓C18, ↓C22, ↓C71, FA24_0, FA24_1, FA24_2, FA24_3, FA24_4, FA24_5, FA24_6, FA24_7, FA24_8, LD3, LD4, LD22, LD27, LDr, LD24, LEN22, IA22, tkc, cellAt, hl, t1, t2, t3, t4, t9, t46, FP0, FP1, ↓Cat, SV.noSwap, ca, cb, cg, h, finF, takeM, resV, cleanedG, kp, below]
          · have e1' : (su == (ja : Int)) = false := by simpa using e1
            by_cases e2 : su = (jb : Int)
            · have hq : r < s.g ja := by
                rcases hsu with h | ⟨i, hi, h, hq⟩
                · omega
                · have : i = jb := by omega
                  subst this
                  omega
              have h := hat ja r
              rw [at_suit hs hja r0 hq] at h
              simp only [atV] at h
              subst e2
              simp [ec_skip, ec_label, ek_reg, ek_draw, ek_seq, ec_cond, ek_block, ec_loop, ec_exit, ec_ret, ec_scope, ek_nil, ek_op, opK_some, regK_some, seqK_normal, seqK_exit, seqK_ret, blockK_normal, blockK_exit, blockK_ret, evOp, vOp, hOpB, hOpU, hOp, hOpT, aAppendG_tab, aWanted, aYielded, opd, putT, closedV, aBin, intOp, sameK, mapO, joinR, hasAddr, boundOf, pushB, aAlloc, Value.cells, lookB, setB, Nat.beq_eq, tm_n_set, tm_get_set, tm_of_n, tm_of_get, tm_tr_set, tm_tr_of, cellV, putF, appR_eq, takeR_eq, dropR_eq, setR_eq, getR_eq, ↓C75, ↓C76, ↓C77, ↓C79, ↓C17, ↓C18, ↓C22, ↓C71, FA24_0, FA24_1, FA24_2, FA24_3, FA24_4, FA24_5, FA24_6, FA24_7, FA24_8, LD3, LD4, LD22, LD27, LDr, LD24, LEN22, IA22, tkc, cellAt, hl, t1, t2, t3, t4, t9, t46, FP0, FP1, ↓Cat, SV.noSwap, ca, cb, cg, e1, e1', h, finF, takeM, resV, cleanedG, kp, below]
            · have e2' : (su == (jb : Int)) = false := by simpa using e2
              simp [ec_skip, ec_label, ek_reg, ek_draw, ek_seq, ec_cond, ek_block, ec_loop, ec_exit, ec_ret, ec_scope, ek_nil, ek_op, opK_some, regK_some, seqK_normal, seqK_exit, seqK_ret, blockK_normal, blockK_exit, blockK_ret, evOp, vOp, hOpB, hOpU, hOp, hOpT, aAppendG_tab, aWanted, aYielded, opd, putT, closedV, aBin, intOp, sameK, mapO, joinR, hasAddr, boundOf, pushB, aAlloc, Value.cells, lookB, setB, Nat.beq_eq, tm_n_set, tm_get_set, tm_of_n, tm_of_get, tm_tr_set, tm_tr_of, cellV, putF, appR_eq, takeR_eq, dropR_eq, setR_eq, getR_eq, ↓C75, ↓C76, ↓C77, ↓C79, ↓C17, ↓C18, ↓C22, ↓C71, FA24_0, FA24_1, FA24_2, FA24_3, FA24_4, FA24_5, FA24_6, FA24_7, FA24_8, LD3, LD4, LD22, LD27, LDr, LD24, LEN22, IA22, tkc, cellAt, hl, t1, t2, t3, t4, t9, t46, FP0, FP1, SV.noSwap, ca, cb, cg, e1, e1', e2, e2', finF, takeM, resV, cleanedG, kp, below]
noncomputable def F2 : Hnd := orH (canH 69 ansAt) F1
theorem F2_ok : CallOK Try.prog F2 := orH_ok (canH_ok (runH_ok M7_ok) ok89) F1_ok
theorem F2_find (s : SV) (k : Int) (H : AH) (h0 : lookB H.bs 0 = some (.ints s.g)) (h1 : lookB H.bs 1 = some (.ints s.h)) : inH F2 (.func (.func 49) #[] #[]) [s.val, .int .i64 k] H = some (findV (s.find k), H) := by
  refine inH_hd (orH_r (canH_other rfl) (orH_l ?_))
  rw [canH_si h0 h1]
  have e : seeSet s.val s.hp = some s := by cases s; rfl
  simp only [ansFind, e, Option.map_some]
theorem F2_at (s : SV) (a b : Int) (he : s.err = 0) (H : AH) (h0 : lookB H.bs 0 = some (.ints s.g)) (h1 : lookB H.bs 1 = some (.ints s.h)) : inH F2 (.func (.func 69) #[] #[]) [s.val, .int .i64 a, .int .i64 b] H = some (atV (atRows s.rows 0 a b), H) :=
  inH_hd (orH_l (by
    rw [canH_sii h0 h1]
    have e : seeSet s.val s.hp = some s := by cases s; rfl
    simp only [ansAt, e, if_pos he]
    rfl))
theorem F2_bt (n l m : Int) (H : AH) : inH F2 (.func (.func 52) #[] #[]) [.int .i64 n, .int .i64 l, .int .i64 m] H = some (.bool (btw n l m), H) := inH_hd rfl
noncomputable def ansSw : SV → List Value → Option Value
  | s, [.int .i64 k, .int .i64 a, .int .i64 b] => some (.int .i64 (s.swp k a b))
  | _, _ => none
theorem setS_ok : CallOK Try.prog (setH 45 ansSw) := setH_ok (runH_ok F2_ok) fun s rest v _ _ hv => by
  unfold ansSw at hv
  split at hv
  · rename_i k a b
    cases hv
    obtain ⟨H', h⟩ := swap_ev (inH F2) s k a b (fun H h0 h1 => F2_find s k H h0 h1) F2_bt (fun x y he H h0 h1 => F2_at s x y he H h0 h1)
    exact ⟨rfl, H', runH_fn FSw rfl h⟩
  · cases hv

end

section
set_option linter.unusedSimpArgs false
set_option linter.unusedVariables false

theorem set_rel {v0 : Value} {rest : List Value} {H : AH} {s : SV} (hs : seeC v0 H.bs = some s) (hrest : rest.all (closedV 3) = true) {B : Nat} {ρ : BMap} {w : World} {args' : Array Value} (hargs : LRel ρ (v0 :: rest) args') (hH : HRel B ρ H.bs w) :
    s.n ≤ 200 ∧ s.k ≤ 200 ∧ ∃ ρ2 : BMap, LRel ρ2 (s.val :: rest) args' ∧ HRel w.heap.size ρ2 s.hp.bs w ∧ ∀ q, 2 ≤ q → ρ2 q = none := by
  unfold seeC at hs
  split at hs
  · rename_i p a n0 z wi d fl c m de u8
    split at hs
    · rename_i n g k hh h1 h8
      split at hs
      · rename_i hb
        simp only [Bool.and_eq_true, Nat.ble_eq] at hb
        cases hs
        rcases seeL_spec h1 with ⟨e1, _⟩ | ⟨a1, ro1, cs1, e1, l1, c1, rfl⟩
        · cases e1
        cases e1
        refine ⟨hb.1, hb.2, ?_⟩
        -- the first argument
        have hsz : args'.size = rest.length + 1 := by have := hargs.1; simp at this; omega
        have h0 := hargs.2 0 _ _ rfl (Array.getElem?_eq_getElem (show 0 < args'.size by omega))
        generalize hu0 : args'[0] = u0 at h0
        cases h0 with
        | agg hs0 hc0 =>
          rename_i cc
          have hcs : cc.size = 9 := by rw [← hs0]; rfl
          have get : ∀ (j : Nat) (hj : j < 9) (y : Value), (#[Value.int .i64 p, .slice (some ⟨a1, 0, none⟩) n0 1, .int .i64 wi, .int .i64 d, .int .i64 fl, .int .i64 c, .int .i64 m, .int .i64 de, u8] : Array Value)[j]? = some y → VRel ρ y (cc[j]'(by omega)) := fun j hj y hy => hc0 j y _ hy (Array.getElem?_eq_getElem (by omega))
          obtain ⟨b, o, cap, e1, hcap, hbl, ccs, ty, fz, hb1, hcells⟩ := list_rel hH l1 c1 (get 1 (by omega) _ rfl)
          -- the second list
          have second : ∃ x8 : Nat × Nat × Nat, (∀ ρ2 : BMap, ρ2 1 = some x8 → VRel ρ2 (.slice (some ⟨1, 0, some 1⟩) k 0) (cc[8]'(by omega))) ∧ ∀ ρ2 : BMap, BRel ρ2 w.heap.size w x8 (.ints hh) := by
            have h8r := get 8 (by omega) _ rfl
            rcases seeL_spec h8 with ⟨rfl, rfl⟩ | ⟨a8, ro8, cs8, rfl, l8, c8, rfl⟩
            · refine ⟨(b, o, 0), fun ρ2 _ => ?_, fun ρ2 => ⟨hbl, ccs, ty, fz, hb1, fun j hj => absurd hj (Nat.not_lt_zero _), Nat.zero_le _⟩⟩
              generalize cc[8]'(by omega) = q at h8r
              cases h8r with
              | snil => exact .rnil
            · obtain ⟨b', o', cap', e8, hcap', hbl', ccs', ty', fz', hb', hcells'⟩ := list_rel hH l8 c8 h8r
              refine ⟨(b', o', k), fun ρ2 h2 => ?_, fun ρ2 => ⟨hbl', ccs', ty', fz', hb', hcells', hb.2⟩⟩
              rw [e8]
              exact .rsl h2 hcap' (Nat.le_refl _)
          obtain ⟨x8, r8, b8⟩ := second
          let ρ2 : BMap := fun i => match i with
            | 0 => some (b, o, n0)
            | 1 => some x8
            | _ => none
          let s : SV := ⟨p, n0, gi cs1, wi, d, fl, c, m, de, k, hh⟩
          have hrel : HRel w.heap.size ρ2 s.hp.bs w := by
            have one : ∀ i q, lookB s.hp.bs i = some q → q.rw = false ∧ ∃ x, ρ2 i = some x ∧ BRel ρ2 w.heap.size w x q := by
              intro i q hq
              match i with
              | 0 => cases hq; exact ⟨rfl, _, rfl, hbl, ccs, ty, fz, hb1, hcells, hb.1⟩
              | 1 => cases hq; exact ⟨rfl, _, rfl, b8 _⟩
              | i + 2 => simp [s, SV.hp, lookB, Nat.beq_eq] at hq
            refine ⟨Nat.le_refl _, fun i q hq => (one i q hq).2, fun i j ki kj xi xj hi hj hki => ?_, hH.glob.of hH.hB fun _ _ => rfl⟩
            rw [(one i ki hi).1] at hki
            cases hki
          have hargs2 : LRel ρ2 (s.val :: rest) args' := by
            refine ⟨by simpa using hargs.1, fun jj yy yy' hy hy' => ?_⟩
            rcases jj with _ | jj
            · cases hy
              rw [Array.getElem?_eq_getElem (show 0 < args'.size by omega), hu0] at hy'
              cases hy'
              refine .agg hs0 fun j y y' hy hy' => ?_
              have hj : j < 9 := by
                have := (Array.getElem?_eq_some_iff.1 hy).1
                exact this
              rw [Array.getElem?_eq_getElem (show j < cc.size by omega)] at hy'
              cases hy'
              match j with
              | 0 => cases hy; have := get 0 (by omega) _ rfl; generalize cc[0]'(by omega) = q at this ⊢; cases this; exact .int _ _
              | 1 => cases hy; rw [e1]; exact .rsl rfl hcap (Nat.le_refl _)
              | 2 => cases hy; have := get 2 (by omega) _ rfl; generalize cc[2]'(by omega) = q at this ⊢; cases this; exact .int _ _
              | 3 => cases hy; have := get 3 (by omega) _ rfl; generalize cc[3]'(by omega) = q at this ⊢; cases this; exact .int _ _
              | 4 => cases hy; have := get 4 (by omega) _ rfl; generalize cc[4]'(by omega) = q at this ⊢; cases this; exact .int _ _
              | 5 => cases hy; have := get 5 (by omega) _ rfl; generalize cc[5]'(by omega) = q at this ⊢; cases this; exact .int _ _
              | 6 => cases hy; have := get 6 (by omega) _ rfl; generalize cc[6]'(by omega) = q at this ⊢; cases this; exact .int _ _
              | 7 => cases hy; have := get 7 (by omega) _ rfl; generalize cc[7]'(by omega) = q at this ⊢; cases this; exact .int _ _
              | 8 => cases hy; exact r8 _ rfl
              | j + 9 => omega
            · have hr1 := hargs.2 (jj + 1) yy yy' hy hy'
              have hcl := List.all_eq_true.1 hrest yy (List.mem_of_getElem? (l := rest) (i := jj) (by simpa using hy))
              have := closedV_eq 3 yy yy' hcl hr1
              subst this
              exact closedV_rel _ 3 _ hcl
          exact ⟨ρ2, hargs2, hrel, fun q q1 => by
            match q with
            | 0 => omega
            | 1 => omega
            | q + 2 => rfl⟩
      · cases hs
    · cases hs
  · cases hs


noncomputable def intsV (l : List Int) : List Value := l.map fun n => Value.int .i64 n

/-- A list of integers that lies in the block b; nil if it is empty. -/
noncomputable def lstV (b : Nat) (l : List Int) : Value := match l with
  | [] => .slice none 0 0
  | _ :: _ => .slice (some ⟨b, 0, none⟩) l.length 1

noncomputable def lstM (H : AH) (l : List Int) : AH := match l with
  | [] => H
  | _ :: _ => ⟨H.next + 1, (H.next, .cells false (intsV l)) :: H.bs⟩

/-- Calls with a set in cells and closed values, that answer a list in one new block. -/
noncomputable def setLH (f : FuncId) (ans : SV → List Value → Option (List Int)) : Value → List Value → AH → Option (Value × AH) := fun fv args H =>
  match fv, args with
  | .func (.func f') ⟨[]⟩ ⟨[]⟩, v :: rest =>
    if Nat.beq f' f && rest.all (closedV 3) then
      match seeC v H.bs with
      | some s => match ans s rest with
        | some l => some (lstV H.next l, lstM H l)
        | none => none
      | none => none
    else none
  | _, _ => none
theorem intsV_get {l : List Int} {j : Nat} {v : Value} (h : (intsV l)[j]? = some v) : ∃ n : Int, v = .int .i64 n := by
  unfold intsV at h
  rw [List.getElem?_map] at h
  cases hj : l[j]? with
  | none => rw [hj] at h; cases h
  | some n => rw [hj] at h; cases h; exact ⟨n, rfl⟩
theorem setLH_ok {P : Program} {call0 : Value → List Value → AH → Option (Value × AH)} (hC : CallOK P call0) {f : FuncId} {ans : SV → List Value → Option (List Int)}
    (ha : ∀ s rest l, s.n ≤ 200 → s.k ≤ 200 → ans s rest = some l → ∃ b H', call0 (.func (.func f) #[] #[]) (s.val :: rest) s.hp = some (lstV b l, H') ∧ (l ≠ [] → lookB H'.bs b = some (.cells false (intsV l)))) : CallOK P (setLH f ans) := by
  intro fv args H vf Hf h
  unfold setLH at h
  split at h
  · rename_i f' v0 rest
    split at h
    · rename_i hf
      simp only [Bool.and_eq_true] at hf
      obtain ⟨hf, hrest⟩ := hf
      split at h
      · rename_i s hs
        split at h
        · rename_i l hl0
          cases h
          have hff : f' = f := Nat.eq_of_beq_eq_true hf
          subst hff
          refine ⟨by cases l <;> simp [lstM], fun B ρ w fv' args' hfv hargs hH hfr => ?_⟩
          obtain ⟨hn, hk, ρ2, hca, hrel, hno⟩ := set_rel hs hrest hargs hH
          obtain ⟨b, H', hcall, hb⟩ := ha _ _ _ hn hk hl0
          have hfree : Free ρ2 s.hp.next H'.next := fun q q1 _ => hno q q1
          obtain ⟨_, sst⟩ := hC _ _ _ _ _ hcall
          obtain ⟨fn, cap, n, fr, e0, i1, i2, i3⟩ := sst w.heap.size ρ2 w (.func (.func f') #[] #[]) args' (.func rfl (fun j v v' hv => by simp at hv)) hca hrel hfree
          cases e0
          cases hfv with
          | func hs _ =>
            have hc' := Array.eq_empty_of_size_eq_zero hs.symm
            subst hc'
            refine ⟨.func f', #[], n, fr, rfl, i1, i2, fun c cs => ?_⟩
            obtain ⟨ρ', w', u, st, hu, hp⟩ := i3 c cs
            have hkeep := hH.keep hp.below
            cases l with
            | nil =>
              simp only [lstV] at hu
              cases hu
              exact ⟨ρ, w', _, st, .snil, Ext.refl ρ, fun _ _ => rfl, hkeep, hp.below.mono hH.hB⟩
            | cons a t =>
              have hblk := hb (by simp)
              obtain ⟨x, hx, hr⟩ := hp.rel.blk b _ hblk
              have hnone : ρ H.next = none := hfr H.next (Nat.le_refl _) (by simp [lstM])
              let ρf : BMap := fun j => if j = H.next then some x else ρ j
              have hext : Ext ρ ρf := fun i y hy => by
                have : i ≠ H.next := fun e => by rw [e, hnone] at hy; cases hy
                simp [ρf, this, hy]
              have hnew : ρf H.next = some x := by simp [ρf]
              obtain ⟨conc, ty, fz, c1, c2, c3, c4⟩ := hr
              simp only [Bool.false_eq_true, if_false] at c3
              have hbl : BRel ρf B w' x (.cells false (intsV (a :: t))) := by
                refine ⟨conc, ty, fz, c1, fun j v hv => ?_, ?_, c4⟩
                · obtain ⟨z, hz, hzr⟩ := c2 j v hv
                  obtain ⟨m, rfl⟩ := intsV_get hv
                  cases hzr
                  exact ⟨_, hz, .int _ _⟩
                · simp only [Bool.false_eq_true, if_false]
                  exact ⟨Nat.le_trans hH.hB c3.1, c3.2⟩
              have look : ∀ i k, lookB (lstM H (a :: t)).bs i = some k → (i = H.next ∧ k = .cells false (intsV (a :: t))) ∨ (i ≠ H.next ∧ lookB H.bs i = some k) := by
                intro i k hk
                simp only [lstM, lookB] at hk
                split at hk
                · rename_i e
                  cases hk
                  exact .inl ⟨Nat.eq_of_beq_eq_true e, rfl⟩
                · rename_i e
                  exact .inr ⟨fun e' => e (by rw [e']; exact Nat.beq_refl _), hk⟩
              have hv : VRel ρf (lstV H.next (a :: t)) u := by
                simp only [lstV] at hu ⊢
                cases hu with
                | slice hρ hl ht =>
                  rw [hx] at hρ
                  cases hρ
                  exact .slice hnew hl ht
              refine ⟨ρf, w', u, st, hv, hext, fun i hi => ?_, ⟨hkeep.hB, fun i k hk => ?_, fun i j ki kj xi xj hi hj hki hkj hxi hxj heq => ?_, hkeep.glob⟩, hp.below.mono hH.hB⟩
              · have : i ≠ H.next := by
                  simp only [lstM] at hi
                  omega
                simp [ρf, this]
              · rcases look i k hk with ⟨rfl, rfl⟩ | ⟨_, h5⟩
                · exact ⟨x, hnew, hbl⟩
                · obtain ⟨y, hy, hr'⟩ := hkeep.blk i k h5
                  exact ⟨y, hext _ _ hy, hr'.ext hext⟩
              · have old : ∀ i k y, i ≠ H.next → lookB H.bs i = some k → ρf i = some y → ρ i = some y ∧ y.1 < w.heap.size := fun i k y hne hk hy => by
                  obtain ⟨z, hz, hr'⟩ := hH.blk i k hk
                  rw [hext _ _ hz] at hy; cases hy
                  exact ⟨hz, hr'.lt⟩
                rcases look i ki hi with ⟨e1, _⟩ | ⟨n1, h5⟩
                · rcases look j kj hj with ⟨e2, _⟩ | ⟨n2, h6⟩
                  · exact .inl (by rw [e1, e2])
                  · have := (old j kj xj n2 h6 hxj).2
                    rw [e1, hnew] at hxi
                    cases hxi
                    omega
                · rcases look j kj hj with ⟨e2, _⟩ | ⟨n2, h6⟩
                  · have := (old i ki xi n1 h5 hxi).2
                    rw [e2, hnew] at hxj
                    cases hxj
                    omega
                  · exact hH.inj i j ki kj xi xj h5 h6 hki hkj (old i ki xi n1 h5 hxi).1 (old j kj xj n2 h6 hxj).1 heq
        · cases h
      · cases h
    · cases h
  · cases h
theorem setLH_go {f : FuncId} {ans : SV → List Value → Option (List Int)} {b : List (Nat × ABlk)} {s : SV} {v0 : Value} {M : Nat} {rest : List Value} {l : List Int} (h : seeC v0 b = some s) (hr : rest.all (closedV 3) = true) (ha : ans s rest = some l) : setLH f ans (.func (.func f) #[] #[]) (v0 :: rest) ⟨M, b⟩ = some (lstV M l, lstM ⟨M, b⟩ l) := by
  show (if Nat.beq f f && rest.all (closedV 3) then match seeC v0 b with
      | some s => match ans s rest with
        | some l => some (lstV M l, lstM ⟨M, b⟩ l)
        | none => none
      | none => none
    else none) = _
  rw [h]
  simp only [ha, hr, Nat.beq_refl, Bool.and_self, if_true]
theorem setH_goL {f : FuncId} {ans : SV → List Value → Option Value} {b : List (Nat × ABlk)} {s : SV} {v0 : Value} {M : Nat} {rest : List Value} {r : Value} (h : seeC v0 b = some s) (hr : rest.all (closedV 3) = true) (ha : ans s rest = some r) : setH f ans (.func (.func f) #[] #[]) (v0 :: rest) ⟨M, b⟩ = some (r, ⟨M, b⟩) := by
  show (if Nat.beq f f && rest.all (closedV 3) then match seeC v0 b with
      | some s => match ans s rest with
        | some r => some (r, (⟨M, b⟩ : AH))
        | none => none
      | none => none
    else none) = _
  rw [h]
  simp only [ha, hr, Nat.beq_refl, Bool.and_self, if_true]

end

section
set_option linter.unusedSimpArgs false
set_option linter.unusedVariables false


section
variable {X : Type}

noncomputable def rowX (st : Int → Int → X → X) : Nat → Int → Int → X → X
  | 0, _, _, x => x
  | k + 1, r, c, x => rowX st k (r + 1) (c + 1) (st r c x)

noncomputable def rowsX (st : Int → Nat → Int → Int → X → X) : List (Int × Nat) → Int → X → X
  | [], _, x => x
  | (su, q) :: l, c, x => rowsX st l (c + q) (rowX (st su q) q 0 c x)

/-- What a body that always goes on keeps true of the memory. -/
structure Keeps (Inv Mid : Int → X → AH → Prop) : Prop where
  y : ∀ c x H, Inv c x H → lookB H.bs 7 = some (.cells false [.func (.yield 6) #[] #[]])
  c : ∀ c x H, Inv c x H → lookB H.bs 8 = some (.cells false [.int .i64 c])
  m : ∀ c x H, Mid c x H → lookB H.bs 8 = some (.cells false [.int .i64 c])
  s : ∀ c x H, Mid c x H → Inv (c + 1) x { H with bs := setB H.bs 8 (.cells false [.int .i64 (c + 1)]) }

noncomputable def IX112 (Inv : Int → X → AH → Prop) (st : Int → Int → X → X) (R : X) (C su q : Int) (k : Nat) (A : AF) (H : AH) : Prop :=
  ∃ (i c : Int) (x : X), i + k = q ∧ 0 ≤ i ∧ q ≤ 200 ∧ 0 ≤ c ∧ c + k ≤ 100000 ∧ c + k = C ∧ rowX st k i c x = R ∧ Inv c x H ∧ A.tm.n = 23 ∧ A.marks = [] ∧ A.tm.get 0 = .int .i64 su ∧ A.tm.get 1 = .int .i64 q ∧ A.tm.get 2 = .pointer (some ⟨7, 0, none⟩) ∧ A.tm.get 3 = .pointer (some ⟨8, 0, none⟩) ∧ A.tm.get 8 = .int .i64 q ∧ A.tm.get 9 = .int .i64 i
noncomputable def QX112 (Inv : Int → X → AH → Prop) (R : X) (C : Int) (z : AX) (A' : AF) (H : AH) : Prop := z = .exit 0 ∧ A'.tm.n = 23 ∧ A'.marks = [] ∧ Inv C R H

set_option maxRecDepth 10000 in
set_option maxHeartbeats 8000000 in
theorem rowP_ev (call : Value → List Value → AH → Option (Value × AH)) {Inv Mid : Int → X → AH → Prop} (hK : Keeps Inv Mid) (st : Int → Int → X → X) (su : Int) (q : Nat) (c : Int) (x : X) (H : AH)
    (hy : ∀ (c r : Int) (x : X) (H : AH), 0 ≤ r → r < q → 0 ≤ c → c < 100000 → Inv c x H → ∃ H', call (.func (.yield 6) #[] #[]) [.int .i64 c, placeV su r q] H = some (.bool true, H') ∧ Mid c (st r c x) H')
    (hq : q ≤ 200) (hc0 : 0 ≤ c) (hcq : c + q ≤ 100000) (hI : Inv c x H) :
    ∃ H', evFn (tabT Try.prog) call 300 kpT 87 Try.f87 [.int .i64 su, .int .i64 q, .pointer (some ⟨7, 0, none⟩), .pointer (some ⟨8, 0, none⟩)] H = some (.bool true, H') ∧ Inv (c + q) (rowX st q 0 c x) H' := by
  have kp := kg58
  simp only [Prod.mk.injEq] at kp
  obtain ⟨kp1, kp2⟩ := kp
  simp only [evFn, Try.f87]
  simp [ec_skip, ec_label, ek_reg, ek_draw, ek_seq, ec_cond, ek_block, ec_loop, ec_exit, ec_ret, ec_scope, ek_nil, ek_op, opK_some, regK_some, seqK_normal, seqK_exit, seqK_ret, blockK_normal, blockK_exit, blockK_ret, evOp, vOp, hOpB, hOpU, hOp, hOpT, aAppendG_tab, aWanted, aYielded, opd, putT, closedV, aBin, intOp, sameK, mapO, joinR, hasAddr, boundOf, pushB, aAlloc, Value.cells, lookB, setB, Nat.beq_eq, tm_n_set, tm_get_set, tm_of_n, tm_of_get, tm_tr_set, tm_tr_of, cellV, putF, appR_eq, takeR_eq, dropR_eq, setR_eq, getR_eq, ↓C75, ↓C76, ↓C77, ↓C79, ↓C17, ↓C18, ↓C22, ↓C71, FA24_0, FA24_1, FA24_2, FA24_3, FA24_4, FA24_5, FA24_6, FA24_7, FA24_8, LD3, LD4, LD22, LD27, LDr, LD24, LEN22, IA22, tkc, cellAt]
  generalize hr : evLoop _ _ _ _ = r
  obtain ⟨z, A', H', rfl, rfl, hl, hmk, hz⟩ := loop_go (Q := QX112 Inv (rowX st q 0 c x) (c + q)) hr (IX112 Inv st (rowX st q 0 c x) (c + q) su q) q (by omega) ⟨0, c, x, by omega, by omega, by omega, hc0, hcq, rfl, rfl, hI, rfl, rfl, rfl, rfl, rfl, rfl, rfl, rfl⟩ (by
      clear hr hI
      rintro k A H ⟨i, c, x, him, hi0, hq1, hc0, hck, hC, hres, hI, hl, hmk, g0, g1, g2, g3, g8, g9⟩
      simp only [runC]
      cases k with
      | zero =>
        have hi : ¬ i < (q : Int) := by omega
        simp only [rowX] at hres
        have hC' := hC
        simp only [Int.natCast_zero, Int.add_zero] at hC'
        simp [ec_skip, ec_label, ek_reg, ek_draw, ek_seq, ec_cond, ek_block, ec_loop, ec_exit, ec_ret, ec_scope, ek_nil, ek_op, opK_some, regK_some, seqK_normal, seqK_exit, seqK_ret, blockK_normal, blockK_exit, blockK_ret, evOp, vOp, hOpB, hOpU, hOp, hOpT, aAppendG_tab, aWanted, aYielded, opd, putT, closedV, aBin, intOp, sameK, mapO, joinR, hasAddr, boundOf, pushB, aAlloc, Value.cells, lookB, setB, Nat.beq_eq, tm_n_set, tm_get_set, tm_of_n, tm_of_get, tm_tr_set, tm_tr_of, cellV, putF, appR_eq, takeR_eq, dropR_eq, setR_eq, getR_eq, ↓C75, ↓C76, ↓C77, ↓C79, ↓C17, ↓C18, ↓C22, ↓C71, FA24_0, FA24_1, FA24_2, FA24_3, FA24_4, FA24_5, FA24_6, FA24_7, FA24_8, LD3, LD4, LD22, LD27, LDr, LD24, LEN22, IA22, tkc, cellAt, hl, hmk, g0, g1, g2, g3, g8, g9, hi]
        exact .inr ⟨by simp, rfl, by simp [tm_n_set, hl], rfl, by rw [← hC', ← hres]; exact hI⟩
      | succ k =>
        have hi : i < (q : Int) := by omega
        have hw : wrapI .i64 (i + 1) = i + 1 := wrapI_small (by omega) (by omega)
        have hwc : wrapI .i64 (c + 1) = c + 1 := wrapI_small (by omega) (by omega)
        obtain ⟨H2, hy', hI2⟩ := hy c i x H hi0 hi hc0 (by omega) hI
        have h9 := hK.y c x H hI
        have h10 := hK.c c x H hI
        have h10' := hK.m c _ H2 hI2
        have hI3 := hK.s c _ H2 hI2
        have hst := ST3 H2 8 0 (c + 1) [.int .i64 c] h10' (by simp)
        simp only [List.set_cons_zero] at hst
        simp only [placeV] at hy'
        simp only [rowX] at hres
        simp [ec_skip, ec_label, ek_reg, ek_draw, ek_seq, ec_cond, ek_block, ec_loop, ec_exit, ec_ret, ec_scope, ek_nil, ek_op, opK_some, regK_some, seqK_normal, seqK_exit, seqK_ret, blockK_normal, blockK_exit, blockK_ret, evOp, vOp, hOpB, hOpU, hOp, hOpT, aAppendG_tab, aWanted, aYielded, opd, putT, closedV, aBin, intOp, sameK, mapO, joinR, hasAddr, boundOf, pushB, aAlloc, Value.cells, lookB, setB, Nat.beq_eq, tm_n_set, tm_get_set, tm_of_n, tm_of_get, tm_tr_set, tm_tr_of, cellV, putF, appR_eq, takeR_eq, dropR_eq, setR_eq, getR_eq, ↓C75, ↓C76, ↓C77, ↓C79, ↓C17, ↓C18, ↓C22, ↓C71, FA24_0, FA24_1, FA24_2, FA24_3, FA24_4, FA24_5, FA24_6, FA24_7, FA24_8, LD3, LD4, LD22, LD27, LDr, LD24, LEN22, IA22, tkc, cellAt, LD122, partsO, BD80, hl, hmk, g0, g1, g2, g3, g8, g9, hi, h9, h10, h10', hy', hst, hwc]
        refine .inl ⟨rfl, k, rfl, i + 1, c + 1, st i c x, by omega, by omega, hq1, by omega, by omega, by omega, hres, hI3, ?_⟩
        simp [tm_get_set, tm_n_set, hl, g0, g1, g2, g3, g8, g9, hw])
  simp [ec_skip, ec_label, ek_reg, ek_draw, ek_seq, ec_cond, ek_block, ec_loop, ec_exit, ec_ret, ec_scope, ek_nil, ek_op, opK_some, regK_some, seqK_normal, seqK_exit, seqK_ret, blockK_normal, blockK_exit, blockK_ret, evOp, vOp, hOpB, hOpU, hOp, hOpT, aAppendG_tab, aWanted, aYielded, opd, putT, closedV, aBin, intOp, sameK, mapO, joinR, hasAddr, boundOf, pushB, aAlloc, Value.cells, lookB, setB, Nat.beq_eq, tm_n_set, tm_get_set, tm_of_n, tm_of_get, tm_tr_set, tm_tr_of, cellV, putF, appR_eq, takeR_eq, dropR_eq, setR_eq, getR_eq, ↓C75, ↓C76, ↓C77, ↓C79, ↓C17, ↓C18, ↓C22, ↓C71, FA24_0, FA24_1, FA24_2, FA24_3, FA24_4, FA24_5, FA24_6, FA24_7, FA24_8, LD3, LD4, LD22, LD27, LDr, LD24, LEN22, IA22, tkc, cellAt, finF, takeM, resV, cleanedG, kp1, kp2, hl, hmk, cleaned, kpT]
  exact hz

noncomputable def clX : Value := (.func (.func 87) #[] #[.pointer (some ⟨7, 0, none⟩), .pointer (some ⟨8, 0, none⟩)])

noncomputable def IX111 (s : SV) (Inv : Int → X → AH → Prop) (st : Int → Nat → Int → Int → X → X) (R : X) (k : Nat) (A : AF) (H : AH) : Prop :=
  ∃ (i : Nat) (c : Int) (x : X), i + k = s.n ∧ 0 ≤ c ∧ c ≤ 9 * i ∧ rowsX st (suitRows s.g k i ++ s.tail) c x = R ∧ Inv c x H ∧ A.tm.n = 38 ∧ A.marks = [] ∧ A.tm.get 1 = .pointer (some ⟨4, 0, none⟩) ∧ A.tm.get 4 = clX ∧ A.tm.get 9 = .slice (some ⟨0, 0, some 1⟩) s.n 0 ∧ A.tm.get 10 = .int .i64 s.n ∧ A.tm.get 11 = .int .i64 (i : Int)
noncomputable def QX111 (s : SV) (Inv : Int → X → AH → Prop) (st : Int → Nat → Int → Int → X → X) (R : X) (z : AX) (A' : AF) (H : AH) : Prop :=
  A'.tm.n = 38 ∧ A'.marks = [] ∧ z = .exit 0 ∧ A'.tm.get 1 = .pointer (some ⟨4, 0, none⟩) ∧ A'.tm.get 4 = clX ∧ ∃ (c : Int) (x : X), 0 ≤ c ∧ c ≤ 27 ∧ Inv c x H ∧ rowsX st s.tail c x = R

set_option maxRecDepth 10000 in
set_option maxHeartbeats 8000000 in
theorem kindsP_ev (call : Value → List Value → AH → Option (Value × AH)) (s : SV) (hs : s.Small) (H0 : AH) {Inv : Int → X → AH → Prop} (st : Int → Nat → Int → Int → X → X) (x0 : X)
    (h6 : ∀ c x H, Inv c x H → lookB H.bs 4 = some (.cells false s.boxL)) (h0 : ∀ c x H, Inv c x H → lookB H.bs 0 = some (.ints s.g)) (hb : lookB H0.bs 4 = some (.cells false s.boxL))
    (hn : H0.next = 7) (hM : Inv 0 x0 ⟨9, (8, .cells false [.int .i64 0]) :: (7, .cells false [.func (.yield 6) #[] #[]]) :: H0.bs⟩)
    (hrow : ∀ (su : Int) (q : Nat) (c : Int) (x : X) (H : AH), (su, q) ∈ s.rows → q ≤ 200 → 0 ≤ c → c + q ≤ 100000 → Inv c x H → ∃ H', call clX [.int .i64 su, .int .i64 q] H = some (.bool true, H') ∧ Inv (c + q) (rowX (st su q) q 0 c x) H') :
    ∃ C H', evFn (tabT Try.prog) call 300 kpT 86 Try.f86 [.func (.yield 6) #[] #[], .pointer (some ⟨4, 0, none⟩)] H0 = some (.tuple #[], H') ∧ Inv C (rowsX st s.rows 0 x0) H' := by
  obtain ⟨nx, bs⟩ := H0
  simp only at hn hM hb
  subst hn
  have hst0 := ST3top 9 8 0 0 ((7, .cells false [.func (.yield 6) #[] #[]]) :: bs)
  simp only [clX] at hrow
  simp only [SV.boxL] at h6 hb
  have kp := kg57
  simp only [Prod.mk.injEq] at kp
  obtain ⟨kp1, kp2⟩ := kp
  simp only [evFn, Try.f86]
  simp [ec_skip, ec_label, ek_reg, ek_draw, ek_seq, ec_cond, ek_block, ec_loop, ec_exit, ec_ret, ec_scope, ek_nil, ek_op, opK_some, regK_some, seqK_normal, seqK_exit, seqK_ret, blockK_normal, blockK_exit, blockK_ret, evOp, vOp, hOpB, hOpU, hOp, hOpT, aAppendG_tab, aWanted, aYielded, opd, putT, closedV, aBin, intOp, sameK, mapO, joinR, hasAddr, boundOf, pushB, aAlloc, Value.cells, lookB, setB, Nat.beq_eq, tm_n_set, tm_get_set, tm_of_n, tm_of_get, tm_tr_set, tm_tr_of, cellV, putF, appR_eq, takeR_eq, dropR_eq, setR_eq, getR_eq, ↓C75, ↓C76, ↓C77, ↓C79, ↓C17, ↓C18, ↓C22, ↓C71, FA24_0, FA24_1, FA24_2, FA24_3, FA24_4, FA24_5, FA24_6, FA24_7, FA24_8, LD3, LD4, LD22, LD27, LDr, LD24, LEN22, IA22, tkc, cellAt, ↓AL3, hst0, hb]
  generalize hr : evLoop _ _ _ _ = r
  obtain ⟨z, A', H', rfl, hl, hmk, rfl, g1, g4, c, x, hc0, hc9, hI, hz⟩ := loop_go (Q := QX111 s Inv st (rowsX st s.rows 0 x0)) hr (IX111 s Inv st (rowsX st s.rows 0 x0)) s.n (by have := hs.n; omega) ⟨0, 0, x0, by omega, by omega, by omega, rfl, hM, rfl, rfl, rfl, rfl, rfl, rfl, rfl⟩ (by
      clear hr
      rintro k A H ⟨i, c, x, him, hc0, hc9, hres, hI, hl, hmk, g1, g4, g9, g10, g11⟩
      simp only [runC]
      cases k with
      | zero =>
        have hi : ¬ i < s.n := by omega
        simp only [suitRows, List.nil_append] at hres
        simp [ec_skip, ec_label, ek_reg, ek_draw, ek_seq, ec_cond, ek_block, ec_loop, ec_exit, ec_ret, ec_scope, ek_nil, ek_op, opK_some, regK_some, seqK_normal, seqK_exit, seqK_ret, blockK_normal, blockK_exit, blockK_ret, evOp, vOp, hOpB, hOpU, hOp, hOpT, aAppendG_tab, aWanted, aYielded, opd, putT, closedV, aBin, intOp, sameK, mapO, joinR, hasAddr, boundOf, pushB, aAlloc, Value.cells, lookB, setB, Nat.beq_eq, tm_n_set, tm_get_set, tm_of_n, tm_of_get, tm_tr_set, tm_tr_of, cellV, putF, appR_eq, takeR_eq, dropR_eq, setR_eq, getR_eq, ↓C75, ↓C76, ↓C77, ↓C79, ↓C17, ↓C18, ↓C22, ↓C71, FA24_0, FA24_1, FA24_2, FA24_3, FA24_4, FA24_5, FA24_6, FA24_7, FA24_8, LD3, LD4, LD22, LD27, LDr, LD24, LEN22, IA22, tkc, cellAt, hl, hmk, g1, g4, g9, g10, g11, hi]
        exact .inr ⟨by simp, by simp [tm_n_set, hl], rfl, rfl, by simp [tm_get_set, tm_n_set, hl, g1], by simp [tm_get_set, tm_n_set, hl, g4], c, x, hc0, by have := hs.n; omega, hI, hres⟩
      | succ k =>
        have hi : i < s.n := by omega
        have hw : wrapI .i64 ((i : Int) + 1) = ((i + 1 : Nat) : Int) := by rw [wrapI_small (by have := hs.n; omega) (by have := hs.n; omega)]; rfl
        obtain ⟨b1, b2⟩ := hs.g i hi
        have hq : ((s.g i).toNat : Int) = s.g i := by omega
        have hn3 := hs.n
        have h0' := h0 c x H hI
        simp only [clX] at g4
        have hmem : ((i : Int), (s.g i).toNat) ∈ s.rows := by
          have key : ∀ (k j : Nat), j ≤ i → i < j + k → ((i : Int), (s.g i).toNat) ∈ suitRows s.g k j := by
            intro k
            induction k with
            | zero => intro j h1 h2; omega
            | succ k ih =>
              intro j h1 h2
              simp only [suitRows]
              by_cases e : j = i
              · subst e; exact List.mem_cons_self
              · exact List.mem_cons_of_mem _ (ih (j + 1) (by omega) (by omega))
          exact List.mem_append_left _ (key s.n 0 (by omega) (by omega))
        obtain ⟨H2, hr', hI2⟩ := hrow (i : Int) (s.g i).toNat c x H hmem (by omega) hc0 (by omega) hI
        rw [hq] at hr'
        simp only [suitRows, List.cons_append, rowsX] at hres
        simp [ec_skip, ec_label, ek_reg, ek_draw, ek_seq, ec_cond, ek_block, ec_loop, ec_exit, ec_ret, ec_scope, ek_nil, ek_op, opK_some, regK_some, seqK_normal, seqK_exit, seqK_ret, blockK_normal, blockK_exit, blockK_ret, evOp, vOp, hOpB, hOpU, hOp, hOpT, aAppendG_tab, aWanted, aYielded, opd, putT, closedV, aBin, intOp, sameK, mapO, joinR, hasAddr, boundOf, pushB, aAlloc, Value.cells, lookB, setB, Nat.beq_eq, tm_n_set, tm_get_set, tm_of_n, tm_of_get, tm_tr_set, tm_tr_of, cellV, putF, appR_eq, takeR_eq, dropR_eq, setR_eq, getR_eq, ↓C75, ↓C76, ↓C77, ↓C79, ↓C17, ↓C18, ↓C22, ↓C71, FA24_0, FA24_1, FA24_2, FA24_3, FA24_4, FA24_5, FA24_6, FA24_7, FA24_8, LD3, LD4, LD22, LD27, LDr, LD24, LEN22, IA22, tkc, cellAt, hl, hmk, g1, g4, g9, g10, g11, hi, h0', hr']
        refine .inl ⟨rfl, k, rfl, i + 1, c + (s.g i).toNat, _, by omega, by omega, by omega, hres, hI2, ?_⟩
        simp [tm_get_set, tm_n_set, hl, g1, g4, g9, g10, g11, hw, clX])
  obtain ⟨w1, w2⟩ := hs.w
  obtain ⟨d1, d2⟩ := hs.d
  obtain ⟨f1, f2⟩ := hs.f
  have qw : ((s.w).toNat : Int) = s.w := by omega
  have qd : ((s.d).toNat : Int) = s.d := by omega
  have qf : ((s.f).toNat : Int) = s.f := by omega
  have hb1 := h6 c x H' hI
  simp only [clX] at g4
  obtain ⟨Ha, ra, hIa⟩ := hrow (-1) s.w.toNat c x H' (List.mem_append_right _ (by simp [SV.tail])) (by omega) hc0 (by omega) hI
  have hb2 := h6 _ _ Ha hIa
  obtain ⟨Hb, rb, hIb⟩ := hrow (-2) s.d.toNat _ _ Ha (List.mem_append_right _ (by simp [SV.tail])) (by omega) (by omega) (by omega) hIa
  have hb3 := h6 _ _ Hb hIb
  obtain ⟨Hc, rc, hIc⟩ := hrow (-3) s.f.toNat _ _ Hb (List.mem_append_right _ (by simp [SV.tail])) (by omega) (by omega) (by omega) hIb
  simp only [SV.tail, rowsX] at hz
  rw [hz] at hIc
  rw [qw] at ra
  rw [qd] at rb
  rw [qf] at rc
  refine ⟨_, Hc, ?_, hIc⟩
  simp [ec_skip, ec_label, ek_reg, ek_draw, ek_seq, ec_cond, ek_block, ec_loop, ec_exit, ec_ret, ec_scope, ek_nil, ek_op, opK_some, regK_some, seqK_normal, seqK_exit, seqK_ret, blockK_normal, blockK_exit, blockK_ret, evOp, vOp, hOpB, hOpU, hOp, hOpT, aAppendG_tab, aWanted, aYielded, opd, putT, closedV, aBin, intOp, sameK, mapO, joinR, hasAddr, boundOf, pushB, aAlloc, Value.cells, lookB, setB, Nat.beq_eq, tm_n_set, tm_get_set, tm_of_n, tm_of_get, tm_tr_set, tm_tr_of, cellV, putF, appR_eq, takeR_eq, dropR_eq, setR_eq, getR_eq, ↓C75, ↓C76, ↓C77, ↓C79, ↓C17, ↓C18, ↓C22, ↓C71, FA24_0, FA24_1, FA24_2, FA24_3, FA24_4, FA24_5, FA24_6, FA24_7, FA24_8, LD3, LD4, LD22, LD27, LDr, LD24, LEN22, IA22, tkc, cellAt, finF, takeM, resV, cleanedG, kp1, kp2, hl, hmk, g1, g4, hb1, hb2, hb3, ra, rb, rc, cleaned, kpT]
  intro hh
  have := kp1
  unfold kpT at this
  rw [this] at hh
  cases hh

end


end

section
set_option linter.unusedSimpArgs false
set_option linter.unusedVariables false

theorem kgO : (kpT 23, gcT 23) = (true, false) := by kernel_rfl
theorem FOr : tabF Try.prog 23 = some Try.f23 := by kernel_rfl
theorem AL22 (call : Value → List Value → AH → Option (Value × AH)) {g : Operand → Option Value} {H : AH} {d : Option Tmp} {t : TypeId} {p : String} {a : Array Edge} {gd : Option (Nat × Bool)} : evOp (tabT Try.prog) call ⟨d, .alloc 22, t, p, a, gd⟩ g H = some (.pointer (some ⟨H.next, 0, none⟩), ⟨H.next + 1, (H.next, .cells false [.slice none 0 0]) :: H.bs⟩) :=
  evOp_evO.trans (eo_alloc (cs := [.slice none 0 0]) (by kernel_rfl))
theorem intsV_len (l : List Int) : (intsV l).length = l.length := by simp [intsV]
theorem intsV_closed (l : List Int) : (intsV l).all cellV = true := by simp [intsV, List.all_eq_true, cellV]
theorem tk_all (cs : List Value) (n : Nat) (h : cs.length = n) : takeCells cs 0 n = some cs := by
  unfold takeCells
  rw [takeK_eq, dropR_eq, if_pos (by simp; omega)]
  simp only [List.drop_zero]
  rw [List.take_of_length_le (by omega)]
/-- The list that a loop has made so far, in a block from lo on. -/
def HasB (lo : Nat) (H : AH) (v : Value) (l : List Int) : Prop := ∃ b, v = lstV b l ∧ (l ≠ [] → lo ≤ b ∧ b < H.next ∧ lookB H.bs b = some (.cells false (intsV l)))

theorem app_hasB {lo nx : Nat} {bs : List (Nat × ABlk)} {v : Value} {l : List Int} (h : HasB lo ⟨nx, bs⟩ v l) (hl : l.length ≤ 100000) (h3 : lo ≤ nx) (k : Int) : ∃ v' bs',
    aAppend (tabT Try.prog) ⟨nx + 1, (nx, .cells false [.int .i64 k]) :: bs⟩ 22 v (.slice (some ⟨nx, 0, none⟩) 1 1) = some (v', ⟨nx + 2, bs'⟩) ∧ HasB lo ⟨nx + 2, bs'⟩ v' (l ++ [k]) ∧ ∀ i, i < lo → lookB bs' i = lookB bs i := by
  have tn : ∀ k : Int, takeCells [Value.int .i64 k] 0 1 = some [.int .i64 k] := fun _ => rfl
  obtain ⟨b, rfl, hb⟩ := h
  cases l with
  | nil =>
    refine ⟨.slice (some ⟨nx + 1, 0, none⟩) 1 1, (nx + 1, .cells false (intsV [k])) :: (nx, .cells false [.int .i64 k]) :: bs, ?_, ⟨nx + 1, rfl, fun _ => ⟨by omega, by simp, by simp [lookB]⟩⟩, fun i hi => ?_⟩
    · rw [AP22]
      simp [lstV, sliceLen, srcCells, dstCells, lookB, tn, cellV, intsV]
    · have e1 : ¬ i = nx + 1 := by omega
      have e2 : ¬ i = nx := by omega
      simp [lookB, Nat.beq_eq, e1, e2]
  | cons a t =>
    obtain ⟨b3, bn, hbl⟩ := hb (by simp)
    simp only at bn hbl
    have hne : ¬ b = nx := by omega
    have hne' : ¬ nx = b := by omega
    have ht := tk_all (intsV (a :: t)) (a :: t).length (intsV_len _)
    have c1 : ((a :: t).length + 1) * 8 ≤ 1000000000000 := by omega
    have c2 : (a :: t).length ≤ 999999999999 := by omega
    refine ⟨.slice (some ⟨nx + 1, 0, none⟩) ((a :: t).length + 1) 1, (nx + 1, .cells false (intsV ((a :: t) ++ [k]))) :: (nx, .cells false [.int .i64 k]) :: dropB bs b, ?_, ⟨nx + 1, by simp [lstV], fun _ => ⟨by omega, by simp, by simp [lookB]⟩⟩, fun i hi => ?_⟩
    · have hv : lstV b (a :: t) = .slice (some ⟨b, 0, none⟩) (a :: t).length 1 := rfl
      have hi : intsV ((a :: t) ++ [k]) = intsV (a :: t) ++ [.int .i64 k] := by simp [intsV]
      rw [AP22, hv, hi]
      generalize intsV (a :: t) = L at *
      generalize (a :: t).length = n at *
      simp [sliceLen, srcCells, dstCells, lookB, cellV, hne, hne', hbl, ht, tn, c1, c2, dropB, Nat.beq_eq]
    · have e1 : ¬ i = nx + 1 := by omega
      have e2 : ¬ i = nx := by omega
      have e3 : ¬ i = b := by omega
      simp [lookB, Nat.beq_eq, e1, e2, lookB_dropB, e3]
theorem ST22v (H : AH) (i : Nat) {lo : Nat} {H' : AH} {v : Value} {l : List Int} (h : HasB lo H' v l) : aStore (tabT Try.prog) H 22 (.pointer (some ⟨i, 0, none⟩)) v =
    (match lookB H.bs i with
    | some (.cells false cs) => if Nat.ble 1 cs.length then some { H with bs := setB H.bs i (.cells false (putF cs 0 [v])) } else none
    | _ => none) := by
  obtain ⟨b, rfl, _⟩ := h
  rw [ST22]
  cases l <;> simp [Value.cells, cellV, lstV] <;> rfl

theorem HasB.of {lo : Nat} {H H' : AH} {v : Value} {l : List Int} (h : HasB lo H v l) (hn : H.next ≤ H'.next) (hb : ∀ i, lo ≤ i → i < H.next → lookB H'.bs i = lookB H.bs i) : HasB lo H' v l := by
  obtain ⟨b, e, hb'⟩ := h
  refine ⟨b, e, fun hne => ?_⟩
  obtain ⟨q1, q2, q3⟩ := hb' hne
  exact ⟨q1, by omega, by rw [hb b q1 q2]; exact q3⟩

noncomputable def codeOA : Code := ((Try.f23.body.bind rfOf).getD (.skip, .skip)).1
noncomputable def codeOB : Code := ((Try.f23.body.bind rfOf).getD (.skip, .skip)).2

/-- The temporaries of Orphans when its loop begins. -/
noncomputable def tmO (s : SV) : Tm := ((((((((Tm.of [s.val] 48).set 1 (.pointer (some ⟨2, 0, none⟩))).set 2 (.slice none 0 0)).set 8 s.val).set 9 (.bool true)).set 10 (.bool false)).set 3 (.pointer (some ⟨3, 0, none⟩))).set 11 s.val).set 12 (.func (.func 86) #[] #[.pointer (some ⟨4, 0, none⟩)])
noncomputable def loopO (s : SV) : ABlk := .loop .ready none 23 (tmO s) [13, 14] codeOA codeOB

structure InO (s : SV) (c : Int) (l : List Int) (H : AH) : Prop where
  nx : 9 ≤ H.next
  b0 : lookB H.bs 0 = some (.ints s.g)
  b1 : lookB H.bs 1 = some (.ints s.h)
  b2 : lookB H.bs 2 = some (.cells false s.boxL)
  b3 : ∃ v, lookB H.bs 3 = some (.cells false [v]) ∧ HasB 9 H v l
  b4 : lookB H.bs 4 = some (.cells false s.boxL)
  b5 : lookB H.bs 5 = some .defd
  b6 : lookB H.bs 6 = some (loopO s)
  b7 : lookB H.bs 7 = some (.cells false [.func (.yield 6) #[] #[]])
  b8 : lookB H.bs 8 = some (.cells false [.int .i64 c])

noncomputable def InvO (s : SV) (c : Int) (l : List Int) (H : AH) : Prop := InO s c l H ∧ (l.length : Int) ≤ c
noncomputable def MidO (s : SV) (c : Int) (l : List Int) (H : AH) : Prop := InO s c l H ∧ (l.length : Int) ≤ c + 1

theorem keepsO (s : SV) : Keeps (InvO s) (MidO s) := by
  refine ⟨fun c x H h => h.1.b7, fun c x H h => h.1.b8, fun c x H h => h.1.b8, fun c x H h => ⟨?_, by have := h.2; omega⟩⟩
  obtain ⟨⟨nx, b0, b1, b2, ⟨v, b3, hv⟩, b4, b5, b6, b7, b8⟩, _⟩ := h
  refine ⟨nx, ?_, ?_, ?_, ⟨v, ?_, ?_⟩, ?_, ?_, ?_, ?_, ?_⟩
  · simpa [lookB_setB] using b0
  · simpa [lookB_setB] using b1
  · simpa [lookB_setB] using b2
  · simpa [lookB_setB] using b3
  · obtain ⟨b, e, hb⟩ := hv
    refine ⟨b, e, fun hne => ?_⟩
    obtain ⟨q1, q2, q3⟩ := hb hne
    refine ⟨q1, q2, ?_⟩
    rw [lookB_setB, if_neg (by omega)]
    exact q3
  · simpa [lookB_setB] using b4
  · simpa [lookB_setB] using b5
  · simpa [lookB_setB] using b6
  · simpa [lookB_setB] using b7
  · simp [lookB_setB, b8]

/-- Whether a place is an orphan's. -/
noncomputable def orphP (su r q : Int) : Bool := decide (su = -1) || decide (su = -2) || (decide (0 ≤ su) && (decide (r = 0) || decide (r = q - 1)))
noncomputable def stO (su : Int) (q : Nat) (r c : Int) (l : List Int) : List Int := if orphP su r q then l ++ [c] else l

set_option maxRecDepth 10000 in
set_option maxHeartbeats 8000000 in
theorem yield_orph (call : Value → List Value → AH → Option (Value × AH)) (s : SV) (c su r : Int) (q : Nat) (l : List Int) (H : AH) (hr0 : 0 ≤ r) (hrq : r < q) (hq : q ≤ 200) (hc0 : 0 ≤ c) (hc1 : c < 100000) (hI : InvO s c l H) :
    ∃ H', evRound (tabT Try.prog) call 300 kpT 6 [.int .i64 c, placeV su r q] H = some (.bool true, H') ∧ MidO s c (stO su q r c l) H' := by
  have kp := kgO
  simp only [Prod.mk.injEq] at kp
  obtain ⟨kp1, kp2⟩ := kp
  obtain ⟨nx, bs⟩ := H
  obtain ⟨⟨hnx, b0, b1, b2, ⟨v, b3, hv⟩, b4, b5, b6, b7, b8⟩, hlc⟩ := hI
  simp only at hnx b0 b1 b2 b3 b4 b5 b6 b7 b8
  have n0 : ¬ 0 = nx := by omega
  have n1 : ¬ 1 = nx := by omega
  have n2 : ¬ 2 = nx := by omega
  have n3 : ¬ 3 = nx := by omega
  have n4 : ¬ 4 = nx := by omega
  have n5 : ¬ 5 = nx := by omega
  have n6 : ¬ 6 = nx := by omega
  have n7 : ¬ 7 = nx := by omega
  have n8 : ¬ 8 = nx := by omega
  have w1 : wrapI .i64 ((q : Int) - 1) = q - 1 := wrapI_small (by omega) (by omega)
  have lift : ∀ {v : Value} {l : List Int} {k x : ABlk}, HasB 9 ⟨nx, bs⟩ v l → HasB 9 ⟨nx + 1, (nx, k) :: setB bs 6 x⟩ v l := by
    rintro v l k x ⟨b, e, hb⟩
    refine ⟨b, e, fun hne => ?_⟩
    obtain ⟨q1, q2, q3⟩ := hb hne
    simp only at q2 q3
    refine ⟨q1, by simp only; omega, ?_⟩
    simp only [lookB]
    rw [if_neg (by rw [Nat.beq_eq]; omega), lookB_setB, if_neg (by omega)]
    exact q3
  simp only [loopO, tmO, codeOA, codeOB, Try.f23, Option.bind_some, rfOf, Option.getD_some, SV.val, undef] at b6
  simp only [SV.boxL] at b2 b4
  by_cases d1 : su = -1
  · subst d1
    have hp : orphP (-1) r q = true := by simp [orphP, orphP]
    have hv1 := lift (k := .cells false [.int .i64 (-1), .int .i64 r, .int .i64 q]) (x := .loop .busy none 23 (tmO s) [13, 14] codeOA codeOB) hv
    obtain ⟨v', bs', happ, hv', hlow⟩ := app_hasB hv1 (by omega) (by omega) c
    have hst := fun H => ST22v H 3 hv'
    have m0 := hlow 0 (by omega)
    have m1 := hlow 1 (by omega)
    have m2 := hlow 2 (by omega)
    have m3 := hlow 3 (by omega)
    have m4 := hlow 4 (by omega)
    have m5 := hlow 5 (by omega)
    have m6 := hlow 6 (by omega)
    have m7 := hlow 7 (by omega)
    have m8 := hlow 8 (by omega)
    simp only [loopO, tmO, codeOA, codeOB, Try.f23, Option.bind_some, rfOf, Option.getD_some, placeV, SV.val, undef, List.replicate, List.cons_append, List.nil_append] at happ m6
    simp [lookB, Nat.beq_eq, lookB_setB, n0, n1, n2, n3, n4, n5, n6, n7, n8, b0, b1, b2, b3, b4, b5, b6, b7, b8] at m0 m1 m2 m3 m4 m5 m6 m7 m8
    simp only [stO, hp, if_true]
    simp only [evRound, b6, loopO, tmO, codeOA, codeOB, Try.f23, Option.bind_some, rfOf, Option.getD_some, placeV, SV.val, undef]
    simp [ec_skip, ec_label, ek_reg, ek_draw, ek_seq, ec_cond, ek_block, ec_loop, ec_exit, ec_ret, ec_scope, ek_nil, ek_op, opK_some, regK_some, seqK_normal, seqK_exit, seqK_ret, blockK_normal, blockK_exit, blockK_ret, evOp, vOp, hOpB, hOpU, hOp, hOpT, aAppendG_tab, aWanted, aYielded, opd, putT, closedV, aBin, intOp, sameK, mapO, joinR, hasAddr, boundOf, pushB, aAlloc, Value.cells, lookB, setB, Nat.beq_eq, tm_n_set, tm_get_set, tm_of_n, tm_of_get, tm_tr_set, tm_tr_of, cellV, putF, appR_eq, takeR_eq, dropR_eq, setR_eq, getR_eq, ↓C75, ↓C76, ↓C77, ↓C79, ↓C17, ↓C18, ↓C22, ↓C71, FA24_0, FA24_1, FA24_2, FA24_3, FA24_4, FA24_5, FA24_6, FA24_7, FA24_8, LD3, LD4, LD22, LD27, LDr, LD24, LEN22, IA22, tkc, cellAt, undef, setArgs, endOf, setB, lookB_setB, ST43, LD43, ↓AL43, cleaned, kp1, APT22, BS22, partsO, FP0, FP1, FP2, b0, b1, b2, b3, b4, b5, b6, b7, b8, happ, hst, m3, m6, orphP, n0, n1, n2, n3, n4, n5, n6, n7, n8]
    refine ⟨⟨by simp only; omega, by simp [lookB, Nat.beq_eq, lookB_setB, n0, n1, n2, n3, n4, n5, n6, n7, n8, m0, m1, m2, m3, m4, m5, m6, m7, m8], by simp [lookB, Nat.beq_eq, lookB_setB, n0, n1, n2, n3, n4, n5, n6, n7, n8, m0, m1, m2, m3, m4, m5, m6, m7, m8], by simp [lookB, Nat.beq_eq, lookB_setB, n0, n1, n2, n3, n4, n5, n6, n7, n8, m0, m1, m2, m3, m4, m5, m6, m7, m8, SV.boxL], ⟨_, by simp [lookB, Nat.beq_eq, lookB_setB, n0, n1, n2, n3, n4, n5, n6, n7, n8, m0, m1, m2, m3, m4, m5, m6, m7, m8], (HasB.of hv' (by simp) fun i h9 hlt => by
      have e3 : ¬ i = 3 := by omega
      have e6 : ¬ i = 6 := by omega
      simp [lookB, Nat.beq_eq, lookB_setB, e3, e6])⟩, by simp [lookB, Nat.beq_eq, lookB_setB, n0, n1, n2, n3, n4, n5, n6, n7, n8, m0, m1, m2, m3, m4, m5, m6, m7, m8, SV.boxL], by simp [lookB, Nat.beq_eq, lookB_setB, n0, n1, n2, n3, n4, n5, n6, n7, n8, m0, m1, m2, m3, m4, m5, m6, m7, m8], ?_, by simp [lookB, Nat.beq_eq, lookB_setB, n0, n1, n2, n3, n4, n5, n6, n7, n8, m0, m1, m2, m3, m4, m5, m6, m7, m8], by simp [lookB, Nat.beq_eq, lookB_setB, n0, n1, n2, n3, n4, n5, n6, n7, n8, m0, m1, m2, m3, m4, m5, m6, m7, m8]⟩, by first | omega | (simp; omega)⟩
    simp [lookB, Nat.beq_eq, lookB_setB, n0, n1, n2, n3, n4, n5, n6, n7, n8, m0, m1, m2, m3, m4, m5, m6, m7, m8]
    rfl


  have d1' : (su == -1) = false := by simpa using d1
  by_cases d2 : su = -2
  · subst d2
    have hp : orphP (-2) r q = true := by simp [orphP, d1]
    have hv1 := lift (k := .cells false [.int .i64 (-2), .int .i64 r, .int .i64 q]) (x := .loop .busy none 23 (tmO s) [13, 14] codeOA codeOB) hv
    obtain ⟨v', bs', happ, hv', hlow⟩ := app_hasB hv1 (by omega) (by omega) c
    have hst := fun H => ST22v H 3 hv'
    have m0 := hlow 0 (by omega)
    have m1 := hlow 1 (by omega)
    have m2 := hlow 2 (by omega)
    have m3 := hlow 3 (by omega)
    have m4 := hlow 4 (by omega)
    have m5 := hlow 5 (by omega)
    have m6 := hlow 6 (by omega)
    have m7 := hlow 7 (by omega)
    have m8 := hlow 8 (by omega)
    simp only [loopO, tmO, codeOA, codeOB, Try.f23, Option.bind_some, rfOf, Option.getD_some, placeV, SV.val, undef, List.replicate, List.cons_append, List.nil_append] at happ m6
    simp [lookB, Nat.beq_eq, lookB_setB, n0, n1, n2, n3, n4, n5, n6, n7, n8, b0, b1, b2, b3, b4, b5, b6, b7, b8] at m0 m1 m2 m3 m4 m5 m6 m7 m8
    simp only [stO, hp, if_true]
    simp only [evRound, b6, loopO, tmO, codeOA, codeOB, Try.f23, Option.bind_some, rfOf, Option.getD_some, placeV, SV.val, undef]
    simp [ec_skip, ec_label, ek_reg, ek_draw, ek_seq, ec_cond, ek_block, ec_loop, ec_exit, ec_ret, ec_scope, ek_nil, ek_op, opK_some, regK_some, seqK_normal, seqK_exit, seqK_ret, blockK_normal, blockK_exit, blockK_ret, evOp, vOp, hOpB, hOpU, hOp, hOpT, aAppendG_tab, aWanted, aYielded, opd, putT, closedV, aBin, intOp, sameK, mapO, joinR, hasAddr, boundOf, pushB, aAlloc, Value.cells, lookB, setB, Nat.beq_eq, tm_n_set, tm_get_set, tm_of_n, tm_of_get, tm_tr_set, tm_tr_of, cellV, putF, appR_eq, takeR_eq, dropR_eq, setR_eq, getR_eq, ↓C75, ↓C76, ↓C77, ↓C79, ↓C17, ↓C18, ↓C22, ↓C71, FA24_0, FA24_1, FA24_2, FA24_3, FA24_4, FA24_5, FA24_6, FA24_7, FA24_8, LD3, LD4, LD22, LD27, LDr, LD24, LEN22, IA22, tkc, cellAt, undef, setArgs, endOf, setB, lookB_setB, ST43, LD43, ↓AL43, cleaned, kp1, APT22, BS22, partsO, FP0, FP1, FP2, b0, b1, b2, b3, b4, b5, b6, b7, b8, happ, hst, m3, m6, d1, n0, n1, n2, n3, n4, n5, n6, n7, n8]
    refine ⟨⟨by simp only; omega, by simp [lookB, Nat.beq_eq, lookB_setB, n0, n1, n2, n3, n4, n5, n6, n7, n8, m0, m1, m2, m3, m4, m5, m6, m7, m8], by simp [lookB, Nat.beq_eq, lookB_setB, n0, n1, n2, n3, n4, n5, n6, n7, n8, m0, m1, m2, m3, m4, m5, m6, m7, m8], by simp [lookB, Nat.beq_eq, lookB_setB, n0, n1, n2, n3, n4, n5, n6, n7, n8, m0, m1, m2, m3, m4, m5, m6, m7, m8, SV.boxL], ⟨_, by simp [lookB, Nat.beq_eq, lookB_setB, n0, n1, n2, n3, n4, n5, n6, n7, n8, m0, m1, m2, m3, m4, m5, m6, m7, m8], (HasB.of hv' (by simp) fun i h9 hlt => by
      have e3 : ¬ i = 3 := by omega
      have e6 : ¬ i = 6 := by omega
      simp [lookB, Nat.beq_eq, lookB_setB, e3, e6])⟩, by simp [lookB, Nat.beq_eq, lookB_setB, n0, n1, n2, n3, n4, n5, n6, n7, n8, m0, m1, m2, m3, m4, m5, m6, m7, m8, SV.boxL], by simp [lookB, Nat.beq_eq, lookB_setB, n0, n1, n2, n3, n4, n5, n6, n7, n8, m0, m1, m2, m3, m4, m5, m6, m7, m8], ?_, by simp [lookB, Nat.beq_eq, lookB_setB, n0, n1, n2, n3, n4, n5, n6, n7, n8, m0, m1, m2, m3, m4, m5, m6, m7, m8], by simp [lookB, Nat.beq_eq, lookB_setB, n0, n1, n2, n3, n4, n5, n6, n7, n8, m0, m1, m2, m3, m4, m5, m6, m7, m8]⟩, by first | omega | (simp; omega)⟩
    simp [lookB, Nat.beq_eq, lookB_setB, n0, n1, n2, n3, n4, n5, n6, n7, n8, m0, m1, m2, m3, m4, m5, m6, m7, m8]
    rfl


  have d2' : (su == -2) = false := by simpa using d2
  by_cases d3 : su < 0
  · have d3' : ¬ 0 ≤ su := by omega
    have hp : orphP su r q = false := by simp [orphP, d1, d1', d2, d2', d3, d3']
    simp only [stO, hp, Bool.false_eq_true, if_false]
    simp only [evRound, b6, loopO, tmO, codeOA, codeOB, Try.f23, Option.bind_some, rfOf, Option.getD_some, placeV, SV.val, undef]
    simp [ec_skip, ec_label, ek_reg, ek_draw, ek_seq, ec_cond, ek_block, ec_loop, ec_exit, ec_ret, ec_scope, ek_nil, ek_op, opK_some, regK_some, seqK_normal, seqK_exit, seqK_ret, blockK_normal, blockK_exit, blockK_ret, evOp, vOp, hOpB, hOpU, hOp, hOpT, aAppendG_tab, aWanted, aYielded, opd, putT, closedV, aBin, intOp, sameK, mapO, joinR, hasAddr, boundOf, pushB, aAlloc, Value.cells, lookB, setB, Nat.beq_eq, tm_n_set, tm_get_set, tm_of_n, tm_of_get, tm_tr_set, tm_tr_of, cellV, putF, appR_eq, takeR_eq, dropR_eq, setR_eq, getR_eq, ↓C75, ↓C76, ↓C77, ↓C79, ↓C17, ↓C18, ↓C22, ↓C71, FA24_0, FA24_1, FA24_2, FA24_3, FA24_4, FA24_5, FA24_6, FA24_7, FA24_8, LD3, LD4, LD22, LD27, LDr, LD24, LEN22, IA22, tkc, cellAt, undef, setArgs, endOf, setB, lookB_setB, ST43, LD43, ↓AL43, cleaned, kp1, APT22, BS22, partsO, FP0, FP1, FP2, b0, b1, b2, b3, b4, b5, b6, b7, b8, d1, d1', d2, d2', d3, d3', n0, n1, n2, n3, n4, n5, n6, n7, n8]
    refine ⟨⟨by simp only; omega, by simp [lookB, Nat.beq_eq, lookB_setB, n0, n1, n2, n3, n4, n5, n6, n7, n8, b0, b1, b2, b3, b4, b5, b6, b7, b8], by simp [lookB, Nat.beq_eq, lookB_setB, n0, n1, n2, n3, n4, n5, n6, n7, n8, b0, b1, b2, b3, b4, b5, b6, b7, b8], by simp [lookB, Nat.beq_eq, lookB_setB, n0, n1, n2, n3, n4, n5, n6, n7, n8, b0, b1, b2, b3, b4, b5, b6, b7, b8, SV.boxL], ⟨_, by simp [lookB, Nat.beq_eq, lookB_setB, n0, n1, n2, n3, n4, n5, n6, n7, n8, b0, b1, b2, b3, b4, b5, b6, b7, b8], (HasB.of hv (by simp) fun i h9 hlt => by
      have hlt' : i < nx := hlt
      have e1 : ¬ i = nx := by omega
      have e3 : ¬ i = 3 := by omega
      have e6 : ¬ i = 6 := by omega
      simp [lookB, Nat.beq_eq, lookB_setB, e1, e3, e6])⟩, by simp [lookB, Nat.beq_eq, lookB_setB, n0, n1, n2, n3, n4, n5, n6, n7, n8, b0, b1, b2, b3, b4, b5, b6, b7, b8, SV.boxL], by simp [lookB, Nat.beq_eq, lookB_setB, n0, n1, n2, n3, n4, n5, n6, n7, n8, b0, b1, b2, b3, b4, b5, b6, b7, b8], ?_, by simp [lookB, Nat.beq_eq, lookB_setB, n0, n1, n2, n3, n4, n5, n6, n7, n8, b0, b1, b2, b3, b4, b5, b6, b7, b8], by simp [lookB, Nat.beq_eq, lookB_setB, n0, n1, n2, n3, n4, n5, n6, n7, n8, b0, b1, b2, b3, b4, b5, b6, b7, b8]⟩, by first | omega | (simp; omega)⟩
    simp [lookB, Nat.beq_eq, lookB_setB, n0, n1, n2, n3, n4, n5, n6, n7, n8, b0, b1, b2, b3, b4, b5, b6, b7, b8]
    rfl


  have d3' : 0 ≤ su := by omega
  by_cases d4 : r = 0
  · subst d4
    have hp : orphP su 0 q = true := by simp [orphP, d1, d1', d2, d2', d3']
    have hv1 := lift (k := .cells false [.int .i64 su, .int .i64 0, .int .i64 q]) (x := .loop .busy none 23 (tmO s) [13, 14] codeOA codeOB) hv
    obtain ⟨v', bs', happ, hv', hlow⟩ := app_hasB hv1 (by omega) (by omega) c
    have hst := fun H => ST22v H 3 hv'
    have m0 := hlow 0 (by omega)
    have m1 := hlow 1 (by omega)
    have m2 := hlow 2 (by omega)
    have m3 := hlow 3 (by omega)
    have m4 := hlow 4 (by omega)
    have m5 := hlow 5 (by omega)
    have m6 := hlow 6 (by omega)
    have m7 := hlow 7 (by omega)
    have m8 := hlow 8 (by omega)
    simp only [loopO, tmO, codeOA, codeOB, Try.f23, Option.bind_some, rfOf, Option.getD_some, placeV, SV.val, undef, List.replicate, List.cons_append, List.nil_append] at happ m6
    simp [lookB, Nat.beq_eq, lookB_setB, n0, n1, n2, n3, n4, n5, n6, n7, n8, b0, b1, b2, b3, b4, b5, b6, b7, b8] at m0 m1 m2 m3 m4 m5 m6 m7 m8
    simp only [stO, hp, if_true]
    simp only [evRound, b6, loopO, tmO, codeOA, codeOB, Try.f23, Option.bind_some, rfOf, Option.getD_some, placeV, SV.val, undef]
    simp [ec_skip, ec_label, ek_reg, ek_draw, ek_seq, ec_cond, ek_block, ec_loop, ec_exit, ec_ret, ec_scope, ek_nil, ek_op, opK_some, regK_some, seqK_normal, seqK_exit, seqK_ret, blockK_normal, blockK_exit, blockK_ret, evOp, vOp, hOpB, hOpU, hOp, hOpT, aAppendG_tab, aWanted, aYielded, opd, putT, closedV, aBin, intOp, sameK, mapO, joinR, hasAddr, boundOf, pushB, aAlloc, Value.cells, lookB, setB, Nat.beq_eq, tm_n_set, tm_get_set, tm_of_n, tm_of_get, tm_tr_set, tm_tr_of, cellV, putF, appR_eq, takeR_eq, dropR_eq, setR_eq, getR_eq, ↓C75, ↓C76, ↓C77, ↓C79, ↓C17, ↓C18, ↓C22, ↓C71, FA24_0, FA24_1, FA24_2, FA24_3, FA24_4, FA24_5, FA24_6, FA24_7, FA24_8, LD3, LD4, LD22, LD27, LDr, LD24, LEN22, IA22, tkc, cellAt, undef, setArgs, endOf, setB, lookB_setB, ST43, LD43, ↓AL43, cleaned, kp1, APT22, BS22, partsO, FP0, FP1, FP2, b0, b1, b2, b3, b4, b5, b6, b7, b8, happ, hst, m3, m6, d1, d1', d2, d2', d3', n0, n1, n2, n3, n4, n5, n6, n7, n8]
    refine ⟨⟨by simp only; omega, by simp [lookB, Nat.beq_eq, lookB_setB, n0, n1, n2, n3, n4, n5, n6, n7, n8, m0, m1, m2, m3, m4, m5, m6, m7, m8], by simp [lookB, Nat.beq_eq, lookB_setB, n0, n1, n2, n3, n4, n5, n6, n7, n8, m0, m1, m2, m3, m4, m5, m6, m7, m8], by simp [lookB, Nat.beq_eq, lookB_setB, n0, n1, n2, n3, n4, n5, n6, n7, n8, m0, m1, m2, m3, m4, m5, m6, m7, m8, SV.boxL], ⟨_, by simp [lookB, Nat.beq_eq, lookB_setB, n0, n1, n2, n3, n4, n5, n6, n7, n8, m0, m1, m2, m3, m4, m5, m6, m7, m8], (HasB.of hv' (by simp) fun i h9 hlt => by
      have e3 : ¬ i = 3 := by omega
      have e6 : ¬ i = 6 := by omega
      simp [lookB, Nat.beq_eq, lookB_setB, e3, e6])⟩, by simp [lookB, Nat.beq_eq, lookB_setB, n0, n1, n2, n3, n4, n5, n6, n7, n8, m0, m1, m2, m3, m4, m5, m6, m7, m8, SV.boxL], by simp [lookB, Nat.beq_eq, lookB_setB, n0, n1, n2, n3, n4, n5, n6, n7, n8, m0, m1, m2, m3, m4, m5, m6, m7, m8], ?_, by simp [lookB, Nat.beq_eq, lookB_setB, n0, n1, n2, n3, n4, n5, n6, n7, n8, m0, m1, m2, m3, m4, m5, m6, m7, m8], by simp [lookB, Nat.beq_eq, lookB_setB, n0, n1, n2, n3, n4, n5, n6, n7, n8, m0, m1, m2, m3, m4, m5, m6, m7, m8]⟩, by first | omega | (simp; omega)⟩
    simp [lookB, Nat.beq_eq, lookB_setB, n0, n1, n2, n3, n4, n5, n6, n7, n8, m0, m1, m2, m3, m4, m5, m6, m7, m8]
    rfl


  have d4' : (r == 0) = false := by simpa using d4
  by_cases d5 : r = (q : Int) - 1
  · subst d5
    have hp : orphP su ((q : Int) - 1) q = true := by simp [orphP, d1, d1', d2, d2', d3', d4, d4', w1]
    have hv1 := lift (k := .cells false [.int .i64 su, .int .i64 ((q : Int) - 1), .int .i64 q]) (x := .loop .busy none 23 (tmO s) [13, 14] codeOA codeOB) hv
    obtain ⟨v', bs', happ, hv', hlow⟩ := app_hasB hv1 (by omega) (by omega) c
    have hst := fun H => ST22v H 3 hv'
    have m0 := hlow 0 (by omega)
    have m1 := hlow 1 (by omega)
    have m2 := hlow 2 (by omega)
    have m3 := hlow 3 (by omega)
    have m4 := hlow 4 (by omega)
    have m5 := hlow 5 (by omega)
    have m6 := hlow 6 (by omega)
    have m7 := hlow 7 (by omega)
    have m8 := hlow 8 (by omega)
    simp only [loopO, tmO, codeOA, codeOB, Try.f23, Option.bind_some, rfOf, Option.getD_some, placeV, SV.val, undef, List.replicate, List.cons_append, List.nil_append] at happ m6
    simp [lookB, Nat.beq_eq, lookB_setB, n0, n1, n2, n3, n4, n5, n6, n7, n8, b0, b1, b2, b3, b4, b5, b6, b7, b8] at m0 m1 m2 m3 m4 m5 m6 m7 m8
    simp only [stO, hp, if_true]
    simp only [evRound, b6, loopO, tmO, codeOA, codeOB, Try.f23, Option.bind_some, rfOf, Option.getD_some, placeV, SV.val, undef]
    simp [ec_skip, ec_label, ek_reg, ek_draw, ek_seq, ec_cond, ek_block, ec_loop, ec_exit, ec_ret, ec_scope, ek_nil, ek_op, opK_some, regK_some, seqK_normal, seqK_exit, seqK_ret, blockK_normal, blockK_exit, blockK_ret, evOp, vOp, hOpB, hOpU, hOp, hOpT, aAppendG_tab, aWanted, aYielded, opd, putT, closedV, aBin, intOp, sameK, mapO, joinR, hasAddr, boundOf, pushB, aAlloc, Value.cells, lookB, setB, Nat.beq_eq, tm_n_set, tm_get_set, tm_of_n, tm_of_get, tm_tr_set, tm_tr_of, cellV, putF, appR_eq, takeR_eq, dropR_eq, setR_eq, getR_eq, ↓C75, ↓C76, ↓C77, ↓C79, ↓C17, ↓C18, ↓C22, ↓C71, FA24_0, FA24_1, FA24_2, FA24_3, FA24_4, FA24_5, FA24_6, FA24_7, FA24_8, LD3, LD4, LD22, LD27, LDr, LD24, LEN22, IA22, tkc, cellAt, undef, setArgs, endOf, setB, lookB_setB, ST43, LD43, ↓AL43, cleaned, kp1, APT22, BS22, partsO, FP0, FP1, FP2, b0, b1, b2, b3, b4, b5, b6, b7, b8, happ, hst, m3, m6, d1, d1', d2, d2', d3', d4, d4', w1, n0, n1, n2, n3, n4, n5, n6, n7, n8]
    refine ⟨⟨by simp only; omega, by simp [lookB, Nat.beq_eq, lookB_setB, n0, n1, n2, n3, n4, n5, n6, n7, n8, m0, m1, m2, m3, m4, m5, m6, m7, m8], by simp [lookB, Nat.beq_eq, lookB_setB, n0, n1, n2, n3, n4, n5, n6, n7, n8, m0, m1, m2, m3, m4, m5, m6, m7, m8], by simp [lookB, Nat.beq_eq, lookB_setB, n0, n1, n2, n3, n4, n5, n6, n7, n8, m0, m1, m2, m3, m4, m5, m6, m7, m8, SV.boxL], ⟨_, by simp [lookB, Nat.beq_eq, lookB_setB, n0, n1, n2, n3, n4, n5, n6, n7, n8, m0, m1, m2, m3, m4, m5, m6, m7, m8], (HasB.of hv' (by simp) fun i h9 hlt => by
      have e3 : ¬ i = 3 := by omega
      have e6 : ¬ i = 6 := by omega
      simp [lookB, Nat.beq_eq, lookB_setB, e3, e6])⟩, by simp [lookB, Nat.beq_eq, lookB_setB, n0, n1, n2, n3, n4, n5, n6, n7, n8, m0, m1, m2, m3, m4, m5, m6, m7, m8, SV.boxL], by simp [lookB, Nat.beq_eq, lookB_setB, n0, n1, n2, n3, n4, n5, n6, n7, n8, m0, m1, m2, m3, m4, m5, m6, m7, m8], ?_, by simp [lookB, Nat.beq_eq, lookB_setB, n0, n1, n2, n3, n4, n5, n6, n7, n8, m0, m1, m2, m3, m4, m5, m6, m7, m8], by simp [lookB, Nat.beq_eq, lookB_setB, n0, n1, n2, n3, n4, n5, n6, n7, n8, m0, m1, m2, m3, m4, m5, m6, m7, m8]⟩, by first | omega | (simp; omega)⟩
    simp [lookB, Nat.beq_eq, lookB_setB, n0, n1, n2, n3, n4, n5, n6, n7, n8, m0, m1, m2, m3, m4, m5, m6, m7, m8]
    rfl


  · have d5' : (r == (q : Int) - 1) = false := by simpa using d5
    have hp : orphP su r q = false := by simp [orphP, d1, d1', d2, d2', d3', d4, d4', d5, d5', w1]
    simp only [stO, hp, Bool.false_eq_true, if_false]
    simp only [evRound, b6, loopO, tmO, codeOA, codeOB, Try.f23, Option.bind_some, rfOf, Option.getD_some, placeV, SV.val, undef]
    simp [ec_skip, ec_label, ek_reg, ek_draw, ek_seq, ec_cond, ek_block, ec_loop, ec_exit, ec_ret, ec_scope, ek_nil, ek_op, opK_some, regK_some, seqK_normal, seqK_exit, seqK_ret, blockK_normal, blockK_exit, blockK_ret, evOp, vOp, hOpB, hOpU, hOp, hOpT, aAppendG_tab, aWanted, aYielded, opd, putT, closedV, aBin, intOp, sameK, mapO, joinR, hasAddr, boundOf, pushB, aAlloc, Value.cells, lookB, setB, Nat.beq_eq, tm_n_set, tm_get_set, tm_of_n, tm_of_get, tm_tr_set, tm_tr_of, cellV, putF, appR_eq, takeR_eq, dropR_eq, setR_eq, getR_eq, ↓C75, ↓C76, ↓C77, ↓C79, ↓C17, ↓C18, ↓C22, ↓C71, FA24_0, FA24_1, FA24_2, FA24_3, FA24_4, FA24_5, FA24_6, FA24_7, FA24_8, LD3, LD4, LD22, LD27, LDr, LD24, LEN22, IA22, tkc, cellAt, undef, setArgs, endOf, setB, lookB_setB, ST43, LD43, ↓AL43, cleaned, kp1, APT22, BS22, partsO, FP0, FP1, FP2, b0, b1, b2, b3, b4, b5, b6, b7, b8, d1, d1', d2, d2', d3', d4, d4', d5, d5', w1, n0, n1, n2, n3, n4, n5, n6, n7, n8]
    refine ⟨⟨by simp only; omega, by simp [lookB, Nat.beq_eq, lookB_setB, n0, n1, n2, n3, n4, n5, n6, n7, n8, b0, b1, b2, b3, b4, b5, b6, b7, b8], by simp [lookB, Nat.beq_eq, lookB_setB, n0, n1, n2, n3, n4, n5, n6, n7, n8, b0, b1, b2, b3, b4, b5, b6, b7, b8], by simp [lookB, Nat.beq_eq, lookB_setB, n0, n1, n2, n3, n4, n5, n6, n7, n8, b0, b1, b2, b3, b4, b5, b6, b7, b8, SV.boxL], ⟨_, by simp [lookB, Nat.beq_eq, lookB_setB, n0, n1, n2, n3, n4, n5, n6, n7, n8, b0, b1, b2, b3, b4, b5, b6, b7, b8], (HasB.of hv (by simp) fun i h9 hlt => by
      have hlt' : i < nx := hlt
      have e1 : ¬ i = nx := by omega
      have e3 : ¬ i = 3 := by omega
      have e6 : ¬ i = 6 := by omega
      simp [lookB, Nat.beq_eq, lookB_setB, e1, e3, e6])⟩, by simp [lookB, Nat.beq_eq, lookB_setB, n0, n1, n2, n3, n4, n5, n6, n7, n8, b0, b1, b2, b3, b4, b5, b6, b7, b8, SV.boxL], by simp [lookB, Nat.beq_eq, lookB_setB, n0, n1, n2, n3, n4, n5, n6, n7, n8, b0, b1, b2, b3, b4, b5, b6, b7, b8], ?_, by simp [lookB, Nat.beq_eq, lookB_setB, n0, n1, n2, n3, n4, n5, n6, n7, n8, b0, b1, b2, b3, b4, b5, b6, b7, b8], by simp [lookB, Nat.beq_eq, lookB_setB, n0, n1, n2, n3, n4, n5, n6, n7, n8, b0, b1, b2, b3, b4, b5, b6, b7, b8]⟩, by first | omega | (simp; omega)⟩
    simp [lookB, Nat.beq_eq, lookB_setB, n0, n1, n2, n3, n4, n5, n6, n7, n8, b0, b1, b2, b3, b4, b5, b6, b7, b8]
    rfl




end

section
set_option linter.unusedSimpArgs false
set_option linter.unusedVariables false

/-- The memory when the loop of Orphans begins. -/
noncomputable def startO (s : SV) : AH := ⟨7, [(6, loopO s), (5, .defd), (4, .cells false s.boxL), (3, .cells false [.slice none 0 0]), (2, .cells false s.boxL), (1, .ints s.h), (0, .ints s.g)]⟩

noncomputable def SV.torphs (s : SV) : List Int := if s.err = 0 then rowsX stO s.rows 0 [] else []

theorem inv_start (s : SV) : InvO s 0 [] ⟨9, (8, .cells false [.int .i64 0]) :: (7, .cells false [.func (.yield 6) #[] #[]]) :: (startO s).bs⟩ := by
  refine ⟨⟨by simp, rfl, rfl, rfl, ⟨_, rfl, 0, rfl, fun h => absurd rfl h⟩, rfl, rfl, rfl, rfl, rfl⟩, by simp⟩

/-- The call of the closure of kinds with the loop of Orphans. -/
theorem kinds_orph (s : SV) (h : s.err = 0) : ∃ C H', inH M7 (.func (.func 86) #[] #[.pointer (some ⟨4, 0, none⟩)]) [.func (.yield 6) #[] #[]] (startO s) = some (.tuple #[], H') ∧ InvO s C (rowsX stO s.rows 0 []) H' := by
  have hs := small_of_err h
  unfold inH
  rw [call_fn F111 (M7_cl _ _ _ _ _)]
  refine kindsP_ev _ s hs (startO s) stO [] (fun c x H h => h.1.b4) (fun c x H h => h.1.b0) rfl rfl (inv_start s) ?_
  intro su q c x H hmem hq hc hcq hI
  unfold clX
  rw [call_fn F112 (M7_cl _ _ _ _ _)]
  refine rowP_ev _ (keepsO s) (stO su q) su q c x H ?_ hq hc hcq hI
  intro c r x H hr0 hrq hc0 hc1 hI
  rw [call_yield (M7_y _ _ _)]
  exact yield_orph _ s c su r q x H hr0 hrq hq hc0 hc1 hI

set_option maxRecDepth 10000 in
set_option maxHeartbeats 8000000 in
theorem torph_ev (call : Value → List Value → AH → Option (Value × AH)) (s : SV)
    (hv : ∀ (H : AH), lookB H.bs 0 = some (.ints s.g) → lookB H.bs 1 = some (.ints s.h) → call (.func (.func 57) #[] #[]) [s.val] H = some (.bool s.ok, H))
    (h87 : ∀ (H : AH), lookB H.bs 0 = some (.ints s.g) → lookB H.bs 1 = some (.ints s.h) → call (.func (.func 58) #[] #[]) [s.val] H = some (.func (.func 86) #[] #[.pointer (some ⟨H.next, 0, none⟩)], pushB H (.cells false s.boxL)))
    (h111 : s.err = 0 → ∃ C H', call (.func (.func 86) #[] #[.pointer (some ⟨4, 0, none⟩)]) [.func (.yield 6) #[] #[]] (startO s) = some (.tuple #[], H') ∧ InvO s C (rowsX stO s.rows 0 []) H') :
    ∃ b H', evFn (tabT Try.prog) call 300 kpT 23 Try.f23 [s.val] s.hp = some (lstV b s.torphs, H') ∧ (s.torphs ≠ [] → lookB H'.bs b = some (.cells false (intsV s.torphs))) := by
  have kp := kgO
  simp only [Prod.mk.injEq] at kp
  obtain ⟨kp1, kp2⟩ := kp
  by_cases c1 : s.err = 0
  · have c1' : s.ok = true := by simp [SV.ok, c1]
    obtain ⟨C, ⟨nx, bs⟩, h, ⟨hnx, b0, b1, b2, ⟨v, b3, ⟨b, e, hb⟩⟩, b4, b5, b6, b7, b8⟩, _⟩ := h111 c1
    simp only at hnx b0 b1 b2 b3 b4 b5 b6 b7 b8
    have hL : s.torphs = rowsX stO s.rows 0 [] := by unfold SV.torphs; rw [if_pos c1]
    rw [hL]
    simp only [startO, loopO, tmO, codeOA, codeOB, Try.f23, Option.bind_some, rfOf, Option.getD_some, placeV, SV.val, undef, List.replicate, List.cons_append, List.nil_append, SV.boxL] at h b6
    simp only [SV.val, SV.boxL] at hv h87
    simp only [evFn, Try.f23, SV.val, SV.hp]
    refine ⟨b, ⟨nx, dropB (dropB bs 6) 5⟩, ?_, fun hne => ?_⟩
    · simp [ec_skip, ec_label, ek_reg, ek_draw, ek_seq, ec_cond, ek_block, ec_loop, ec_exit, ec_ret, ec_scope, ek_nil, ek_op, opK_some, regK_some, seqK_normal, seqK_exit, seqK_ret, blockK_normal, blockK_exit, blockK_ret, evOp, vOp, hOpB, hOpU, hOp, hOpT, aAppendG_tab, aWanted, aYielded, opd, putT, closedV, aBin, intOp, sameK, mapO, joinR, hasAddr, boundOf, pushB, aAlloc, Value.cells, lookB, setB, Nat.beq_eq, tm_n_set, tm_get_set, tm_of_n, tm_of_get, tm_tr_set, tm_tr_of, cellV, putF, appR_eq, takeR_eq, dropR_eq, setR_eq, getR_eq, ↓C75, ↓C76, ↓C77, ↓C79, ↓C17, ↓C18, ↓C22, ↓C71, FA24_0, FA24_1, FA24_2, FA24_3, FA24_4, FA24_5, FA24_6, FA24_7, FA24_8, LD3, LD4, LD22, LD27, LDr, LD24, LEN22, IA22, tkc, cellAt, ↓AL22, ↓Cvalid, ↓Ckinds, hv, h87, c1', ec_range, evRange, h, finF, takeM, resV, cleanedG, kp1, kp2, b3, b5, b6, lookB_dropB, dropB, cleaned]
      exact e
    · obtain ⟨q1, q2, q3⟩ := hb hne
      rw [lookB_dropB, if_neg (by omega), lookB_dropB, if_neg (by omega)]
      exact q3
  · have c1' : s.ok = false := by simp [SV.ok, c1]
    have hL : s.torphs = [] := by unfold SV.torphs; rw [if_neg c1]
    rw [hL]
    simp only [SV.val, SV.boxL] at hv h87
    simp only [evFn, Try.f23, SV.val, SV.hp, lstV]
    simp [ec_skip, ec_label, ek_reg, ek_draw, ek_seq, ec_cond, ek_block, ec_loop, ec_exit, ec_ret, ec_scope, ek_nil, ek_op, opK_some, regK_some, seqK_normal, seqK_exit, seqK_ret, blockK_normal, blockK_exit, blockK_ret, evOp, vOp, hOpB, hOpU, hOp, hOpT, aAppendG_tab, aWanted, aYielded, opd, putT, closedV, aBin, intOp, sameK, mapO, joinR, hasAddr, boundOf, pushB, aAlloc, Value.cells, lookB, setB, Nat.beq_eq, tm_n_set, tm_get_set, tm_of_n, tm_of_get, tm_tr_set, tm_tr_of, cellV, putF, appR_eq, takeR_eq, dropR_eq, setR_eq, getR_eq, ↓C75, ↓C76, ↓C77, ↓C79, ↓C17, ↓C18, ↓C22, ↓C71, FA24_0, FA24_1, FA24_2, FA24_3, FA24_4, FA24_5, FA24_6, FA24_7, FA24_8, LD3, LD4, LD22, LD27, LDr, LD24, LEN22, IA22, tkc, cellAt, ↓AL22, ↓Cvalid, ↓Ckinds, hv, h87, c1', finF, takeM, resV, cleanedG, kp1, kp2, cleaned]


noncomputable def ansOr : SV → List Value → Option (List Int)
  | s, [] => some s.torphs
  | _, _ => none
theorem setO_ok : CallOK Try.prog (setLH 23 ansOr) := setLH_ok (runH_ok M7_ok) fun s rest l _ _ hv => by
  unfold ansOr at hv
  split at hv
  · cases hv
    obtain ⟨b, H', h, hb⟩ := torph_ev (inH M7) s (fun H h0 h1 => M7_80 s H h0 h1) (fun H _ _ => by unfold inH; rw [call_fn F87 (M7_87 _ _)]; exact kinds87_ev _ s H) (kinds_orph s)
    exact ⟨b, H', runH_fn FOr rfl h, hb⟩
  · cases hv
theorem mem_rowX (su : Int) (q : Nat) (x : Int) : ∀ (k : Nat) (r c : Int) (l : List Int), x ∈ rowX (stO su q) k r c l ↔ x ∈ l ∨ (c ≤ x ∧ x < c + k ∧ orphP su (r + (x - c)) q = true)
  | 0, r, c, l => by
    simp only [rowX]
    constructor
    · exact .inl
    · rintro (h | ⟨h1, h2, _⟩)
      · exact h
      · omega
  | k + 1, r, c, l => by
    simp only [rowX]
    rw [mem_rowX su q x k (r + 1) (c + 1)]
    have e : r + 1 + (x - (c + 1)) = r + (x - c) := by omega
    rw [e]
    unfold stO
    by_cases h : orphP su r q = true
    · rw [if_pos h]
      simp only [List.mem_append, List.mem_singleton]
      constructor
      · rintro ((h1 | rfl) | ⟨h1, h2, h3⟩)
        · exact .inl h1
        · exact .inr ⟨by omega, by omega, by rw [show r + (x - x) = r by omega]; exact h⟩
        · exact .inr ⟨by omega, by omega, h3⟩
      · rintro (h1 | ⟨h1, h2, h3⟩)
        · exact .inl (.inl h1)
        · by_cases hx : x = c
          · exact .inl (.inr hx)
          · exact .inr ⟨by omega, by omega, h3⟩
    · rw [if_neg h]
      constructor
      · rintro (h1 | ⟨h1, h2, h3⟩)
        · exact .inl h1
        · exact .inr ⟨by omega, by omega, h3⟩
      · rintro (h1 | ⟨h1, h2, h3⟩)
        · exact .inl h1
        · by_cases hx : x = c
          · subst hx
            rw [show r + (x - x) = r by omega] at h3
            exact absurd h3 h
          · exact .inr ⟨by omega, by omega, h3⟩
theorem rowsX_old (x : Int) : ∀ (l : List (Int × Nat)) (c : Int) (a : List Int), x < c → (x ∈ rowsX stO l c a ↔ x ∈ a)
  | [], c, a, _ => by simp [rowsX]
  | (su, q) :: l, c, a, h => by
    simp only [rowsX]
    rw [rowsX_old x l _ _ (by omega), mem_rowX]
    constructor
    · rintro (h1 | ⟨h1, _⟩)
      · exact h1
      · omega
    · exact .inl
theorem mem_rowsX (x su r q : Int) : ∀ (l : List (Int × Nat)) (c : Int) (a : List Int), findRows l c x = some (su, r, q) → x ∉ a → (x ∈ rowsX stO l c a ↔ orphP su r q = true)
  | [], c, a, h, _ => by cases h
  | (su', q') :: l, c, a, h, ha => by
    simp only [findRows] at h
    simp only [rowsX]
    split at h
    · rename_i hc
      cases h
      rw [rowsX_old x l _ _ (by omega), mem_rowX]
      have e : (0 : Int) + (x - c) = x - c := by omega
      rw [e]
      constructor
      · rintro (h1 | ⟨_, _, h3⟩)
        · exact absurd h1 ha
        · exact h3
      · exact fun h3 => .inr ⟨by omega, by omega, h3⟩
    · rename_i hc
      have hl := findRows_low l _ _ _ _ _ h
      refine mem_rowsX x su r q l _ _ h fun h1 => ?_
      rw [mem_rowX] at h1
      rcases h1 with h1 | ⟨h1, h2, _⟩
      · exact ha h1
      · omega
/-- Which kinds are orphans. -/
theorem mem_torphs {s : SV} {x su r q : Int} (h : s.find x = some (su, r, q)) : x ∈ s.torphs ↔ orphP su r q = true := by
  have he := (find_spec h).1
  unfold SV.find at h
  rw [if_pos he] at h
  unfold SV.torphs
  rw [if_pos he]
  exact mem_rowsX x su r q s.rows 0 [] h (by simp)

end

section
set_option linter.unusedSimpArgs false
set_option linter.unusedVariables false

theorem firstN_mono {g : Nat → Int} {n : Nat} (hg : ∀ x, x < n → 1 ≤ g x) : ∀ (j i : Nat), i < j → j ≤ n → firstN g i + g i ≤ firstN g j
  | 0, i, h, _ => by omega
  | j + 1, i, h, hn => by
    simp only [firstN]
    have := hg j (by omega)
    by_cases e : i = j
    · subst e; omega
    · have := firstN_mono hg j i (by omega) (by omega)
      omega
theorem findRows_suit {g : Nat → Int} {tail : List (Int × Nat)} {n j : Nat} {rk : Int} (hg : ∀ x, x < n → 1 ≤ g x) (hj : j < n) (h0 : 0 ≤ rk) (h1 : rk < g j) : ∀ (k i : Nat), i + k = n → i ≤ j →
    findRows (suitRows g k i ++ tail) (firstN g i) (firstN g j + rk) = some ((j : Int), rk, g j)
  | 0, i, h2, h3 => by omega
  | k + 1, i, h2, h3 => by
    have hgi := hg i (by omega)
    have q1 : ((g i).toNat : Int) = g i := by omega
    simp only [suitRows, List.cons_append, findRows]
    by_cases hij : i = j
    · subst hij
      rw [if_pos ⟨by omega, by omega⟩]
      simp only [Option.some.injEq, Prod.mk.injEq, true_and]
      omega
    · have := firstN_mono hg j i (by omega) (by omega)
      rw [if_neg (by omega)]
      have := findRows_suit (tail := tail) hg hj h0 h1 k (i + 1) (by omega) (by omega)
      rw [firstN] at this
      rw [q1]
      exact this
theorem find_first {s : SV} (he : s.err = 0) {j : Nat} {rk : Int} (hj : j < s.n) (h0 : 0 ≤ rk) (h1 : rk < s.g j) : s.find (firstN s.g j + rk) = some ((j : Int), rk, s.g j) := by
  have hs := small_of_err he
  unfold SV.find
  rw [if_pos he]
  exact findRows_suit (n := s.n) (fun x hx => (hs.g x (by omega)).1) hj h0 h1 s.n 0 (by omega) (by omega)
theorem findRows_neg : ∀ (l : List (Int × Nat)) (c kind su r q : Int), (∀ p ∈ l, p.1 < 0) → findRows l c kind = some (su, r, q) → su < 0
  | [], c, kind, su, r, q, _, h => by cases h
  | (su', q') :: l, c, kind, su, r, q, hl, h => by
    simp only [findRows] at h
    split at h
    · cases h
      exact hl _ List.mem_cons_self
    · exact findRows_neg l _ _ _ _ _ (fun p hp => hl p (List.mem_cons_of_mem _ hp)) h
theorem findRows_first {g : Nat → Int} {tail : List (Int × Nat)} {n : Nat} (ht : ∀ p ∈ tail, p.1 < 0) (hg : ∀ x, x < n → 1 ≤ g x) {kind r q : Int} {j : Nat} : ∀ (k i : Nat), i + k = n →
    findRows (suitRows g k i ++ tail) (firstN g i) kind = some ((j : Int), r, q) → kind = firstN g j + r
  | 0, i, h2, h => by
    have := findRows_neg _ _ _ _ _ _ ht h
    omega
  | k + 1, i, h2, h => by
    have hgi := hg i (by omega)
    have q1 : ((g i).toNat : Int) = g i := by omega
    simp only [suitRows, List.cons_append, findRows] at h
    split at h
    · simp only [Option.some.injEq, Prod.mk.injEq] at h
      obtain ⟨a, b, _⟩ := h
      have : i = j := by omega
      subst this
      omega
    · rw [q1] at h
      exact findRows_first ht hg k (i + 1) (by omega) h
theorem kind_first {s : SV} {k r q : Int} {j : Nat} (h : s.find k = some ((j : Int), r, q)) : k = firstN s.g j + r := by
  have he := (find_spec h).1
  have hs := small_of_err he
  unfold SV.find at h
  rw [if_pos he] at h
  exact findRows_first (n := s.n) (by simp [SV.tail]) (fun x hx => (hs.g x (by omega)).1) s.n 0 (by omega) h
theorem find_suit {s : SV} {k r q : Int} {j : Nat} (h : s.find k = some ((j : Int), r, q)) : j < s.n ∧ q = s.g j := by
  obtain ⟨_, _, _, _, h1 | ⟨i, hi, h1, h2⟩⟩ := find_spec h
  · omega
  · have : i = j := by omega
    subst this
    exact ⟨hi, h2⟩
/-- Where a suit is after a swap. -/
noncomputable def SV.sw (s : SV) (a b su : Int) : Int := if s.noSwap a b then su else if su = a then b else if su = b then a else su
theorem noSwap_no {s : SV} {a b : Int} (h : s.noSwap a b = false) : ∃ ja jb : Nat, a = ja ∧ b = jb ∧ ja < s.n ∧ jb < s.n ∧ s.g ja = s.g jb := by
  unfold SV.noSwap at h
  simp only [Bool.or_eq_false_iff, Bool.not_eq_false', bne_eq_false_iff_eq] at h
  obtain ⟨⟨h1, h2⟩, h3⟩ := h
  have ca := btw_iff.1 h1
  have cb := btw_iff.1 h2
  exact ⟨a.toNat, b.toNat, by omega, by omega, by omega, by omega, h3⟩
/-- A swapped kind: its place, and how far it is. -/
theorem swap_place {s : SV} {k su r q a b : Int} (h : s.find k = some (su, r, q)) : s.find (s.swp k a b) = some (s.sw a b su, r, q) := by
  obtain ⟨he, r0, rq, _, hsu⟩ := find_spec h
  unfold SV.swp SV.sw
  rw [h]
  simp only
  cases hn : s.noSwap a b with
  | true => simp only [if_true, h]
  | false =>
    simp only [Bool.false_eq_true, if_false]
    obtain ⟨ja, jb, rfl, rfl, h1, h2, hg⟩ := noSwap_no hn
    split
    · rename_i e
      subst e
      obtain ⟨_, hq⟩ := find_suit h
      rw [show ((jb : Nat) : Int).toNat = jb by omega, find_first he h2 r0 (by omega), hq, hg]
    · split
      · rename_i e1 e2
        subst e2
        obtain ⟨_, hq⟩ := find_suit h
        rw [show ((ja : Nat) : Int).toNat = ja by omega, find_first he h1 r0 (by omega), hq, hg]
      · exact h
theorem swap_back {s : SV} {k su r q a b : Int} (h : s.find k = some (su, r, q)) : s.swp (s.swp k a b) a b = k := by
  have hp := swap_place (a := a) (b := b) h
  obtain ⟨he, r0, rq, _, hsu⟩ := find_spec h
  rw [show s.swp (s.swp k a b) a b = (match s.find (s.swp k a b) with
    | none => -1
    | some (su, r, _) => if s.noSwap a b then s.swp k a b else if su = a then firstN s.g b.toNat + r else if su = b then firstN s.g a.toNat + r else s.swp k a b) from rfl, hp]
  simp only
  cases hn : s.noSwap a b with
  | true => simp only [if_true, SV.swp, h, hn]
  | false =>
    simp only [Bool.false_eq_true, if_false, SV.swp, h, hn, SV.sw]
    obtain ⟨ja, jb, rfl, rfl, h1, h2, hg⟩ := noSwap_no hn
    by_cases e1 : su = (ja : Int)
    · subst e1
      have hk := kind_first h
      by_cases e3 : ja = jb
      · subst e3; simp; omega
      · have e4 : ¬ (jb : Int) = (ja : Int) := by omega
        simp [e4]; omega
    · by_cases e2 : su = (jb : Int)
      · subst e2
        have hk := kind_first h
        simp [e1]; omega
      · simp [e1, e2]
theorem aft_of {s : SV} {k su r q : Int} (h : s.find k = some (su, r, q)) : s.aft k = k - r + (if r = q - 1 then 0 else r + 1) ∧ s.find (s.aft k) = some (su, (if r = q - 1 then 0 else r + 1), q) := by
  obtain ⟨he, r0, rq, _, hsu⟩ := find_spec h
  have e : s.aft k = k - r + (if r = q - 1 then 0 else r + 1) := by
    unfold SV.aft
    rw [h]
    show (if r = q - 1 then k - r else k + 1) = _
    split <;> omega
  refine ⟨e, ?_⟩
  rw [e]
  exact find_row h (by split <;> omega) (by split <;> omega)
theorem swap_aft {s : SV} {k su r q a b : Int} (h : s.find k = some (su, r, q)) : s.aft (s.swp k a b) = s.swp (s.aft k) a b := by
  obtain ⟨e1, f1⟩ := aft_of h
  obtain ⟨e2, _⟩ := aft_of (swap_place (a := a) (b := b) h)
  rw [e2]
  generalize (if r = q - 1 then (0 : Int) else r + 1) = z at *
  conv => rhs; unfold SV.swp
  rw [f1]
  simp only [SV.swp, h]
  cases hn : s.noSwap a b with
  | true => simp only [if_true]; omega
  | false =>
    simp only [Bool.false_eq_true, if_false]
    split
    · omega
    · split <;> omega
theorem sw_neg {s : SV} {a b su : Int} : 0 ≤ s.sw a b su ↔ 0 ≤ su := by
  unfold SV.sw
  cases hn : s.noSwap a b with
  | true => simp
  | false =>
    obtain ⟨ja, jb, rfl, rfl, h1, h2, hg⟩ := noSwap_no hn
    simp only [Bool.false_eq_true, if_false]
    split
    · omega
    · split <;> omega
theorem sw_eq {s : SV} {a b su : Int} (h : su < 0) : s.sw a b su = su := by
  unfold SV.sw
  cases hn : s.noSwap a b with
  | true => simp
  | false =>
    obtain ⟨ja, jb, rfl, rfl, h1, h2, hg⟩ := noSwap_no hn
    simp only [Bool.false_eq_true, if_false]
    rw [if_neg (by omega), if_neg (by omega)]
theorem swap_runs {s : SV} {k su r q a b : Int} (h : s.find k = some (su, r, q)) : s.runs (s.swp k a b) = s.runs k := by
  unfold SV.runs
  rw [swap_place h, h]
  simp only [sw_neg]
theorem orph_nn {su r q : Int} (h : 0 ≤ su) : orphP su r q = (decide (r = 0) || decide (r = q - 1)) := by
  unfold orphP
  rw [decide_eq_false (show ¬ su = -1 by omega), decide_eq_false (show ¬ su = -2 by omega), decide_eq_true h]
  simp
theorem swap_orph {s : SV} {k su r q a b : Int} (h : s.find k = some (su, r, q)) : s.swp k a b ∈ s.torphs ↔ k ∈ s.torphs := by
  rw [mem_torphs (swap_place h), mem_torphs h]
  by_cases c : su < 0
  · rw [sw_eq c]
  · rw [orph_nn (sw_neg.2 (by omega)), orph_nn (by omega)]
theorem mir_of {s : SV} {k su r q : Int} (h : s.find k = some (su, r, q)) : (su < 0 ∧ s.mir k = k) ∨ (0 ≤ su ∧ s.mir k = k - r + (q - 1 - r) ∧ s.find (s.mir k) = some (su, q - 1 - r, q)) := by
  obtain ⟨he, r0, rq, _, hsu⟩ := find_spec h
  unfold SV.mir
  rw [h]
  simp only
  by_cases c : su < 0
  · exact .inl ⟨c, by rw [if_pos c]⟩
  · rw [if_neg c]
    refine .inr ⟨by omega, by omega, ?_⟩
    rw [show k - r + q - 1 - r = k - r + (q - 1 - r) by omega]
    exact find_row h (by omega) (by omega)
theorem mir_mir {s : SV} {k su r q : Int} (h : s.find k = some (su, r, q)) : s.mir (s.mir k) = k := by
  rcases mir_of h with ⟨c, e⟩ | ⟨c, e, f⟩
  · rw [e, e]
  · rcases mir_of f with ⟨c', _⟩ | ⟨_, e', _⟩
    · omega
    · rw [e', e]; omega
theorem mir_orph {s : SV} {k su r q : Int} (h : s.find k = some (su, r, q)) : s.mir k ∈ s.torphs ↔ k ∈ s.torphs := by
  rcases mir_of h with ⟨c, e⟩ | ⟨c, e, f⟩
  · rw [e]
  · rw [mem_torphs f, mem_torphs h, orph_nn c, orph_nn c]
    simp only [Bool.or_eq_true, decide_eq_true_eq]
    omega
theorem mir_runs {s : SV} {k su r q : Int} (h : s.find k = some (su, r, q)) (hr : s.runs k = true) : s.runs (s.mir (k + 2)) = true ∧ s.mir (k + 2) + 2 = s.mir k := by
  obtain ⟨he, r0, rq, _, hsu⟩ := find_spec h
  unfold SV.runs at hr
  rw [h] at hr
  simp only [Bool.and_eq_true, decide_eq_true_eq] at hr
  obtain ⟨c, c2⟩ := hr
  have f2 := find_row h (j := r + 2) (by omega) c2
  rw [show k - r + (r + 2) = k + 2 by omega] at f2
  rcases mir_of f2 with ⟨c', _⟩ | ⟨_, e', f'⟩
  · omega
  · rcases mir_of h with ⟨c'', _⟩ | ⟨_, e'', _⟩
    · omega
    · refine ⟨?_, by omega⟩
      unfold SV.runs
      rw [f']
      simp only [Bool.and_eq_true, decide_eq_true_eq]
      omega

end

section
set_option linter.unusedSimpArgs false
set_option linter.unusedVariables false

theorem Nmir : ((tabT Try.prog) 24).map (fun z => z.ex.nat 44) = some none := by kernel_rfl
theorem Cmir (call : Value → List Value → AH → Option (Value × AH)) {tm : Tm} {i j : Nat} {H : AH} {d : Option Tmp} {t : TypeId} {p : String} {a : Array Edge} {gd : Option (Nat × Bool)} : evOp (tabT Try.prog) call ⟨d, .call ⟨.value (.func 44), #[.tmp i, .tmp j], #[24, 3]⟩, t, p, a, gd⟩ (opd tm) H = call (.func (.func 44) #[] #[]) [tm.get i, tm.get j] H :=
  evOp_evO.trans (eo_call2n rfl rfl rfl Nmir)
theorem Gmir (call : Value → List Value → AH → Option (Value × AH)) {tm : Tm} {rs : List DR} {ts : List Nat} {i j : Nat} {H : AH} {d : Option Tmp} {t : TypeId} {p : String} {a : Array Edge} {gd : Option (Nat × Bool)} (hi : natMem ts i = true) (hj : natMem ts j = true) : evOp (tabT Try.prog) call ⟨d, .call ⟨.value (.func 44), #[.tmp i, .tmp j], #[24, 3]⟩, t, p, a, gd⟩ (gOf tm rs ts) H = call (.func (.func 44) #[] #[]) [(finT tm rs).get i, (finT tm rs).get j] H :=
  evOp_evO.trans (eo_call2n rfl (by simp only [gOf, hi, if_true]) (by simp only [gOf, hj, if_true]) Nmir)
theorem Wmir : wrT 44 = false := by kernel_rfl
theorem Cswp (call : Value → List Value → AH → Option (Value × AH)) {tm : Tm} {i j k l : Nat} {H : AH} {d : Option Tmp} {t : TypeId} {p : String} {a : Array Edge} {gd : Option (Nat × Bool)} : evOp (tabT Try.prog) call ⟨d, .call ⟨.value (.func 45), #[.tmp i, .tmp j, .tmp k, .tmp l], #[24, 3, 3, 3]⟩, t, p, a, gd⟩ (opd tm) H = call (.func (.func 45) #[] #[]) [tm.get i, tm.get j, tm.get k, tm.get l] H :=
  evOp_evO.trans (eo_call4 rfl rfl rfl rfl rfl)
theorem Gswp (call : Value → List Value → AH → Option (Value × AH)) {tm : Tm} {rs : List DR} {ts : List Nat} {i j k l : Nat} {H : AH} {d : Option Tmp} {t : TypeId} {p : String} {a : Array Edge} {gd : Option (Nat × Bool)} (hi : natMem ts i = true) (hj : natMem ts j = true) (hk : natMem ts k = true) (hl : natMem ts l = true) : evOp (tabT Try.prog) call ⟨d, .call ⟨.value (.func 45), #[.tmp i, .tmp j, .tmp k, .tmp l], #[24, 3, 3, 3]⟩, t, p, a, gd⟩ (gOf tm rs ts) H = call (.func (.func 45) #[] #[]) [(finT tm rs).get i, (finT tm rs).get j, (finT tm rs).get k, (finT tm rs).get l] H :=
  evOp_evO.trans (eo_call4 rfl (by simp only [gOf, hi, if_true]) (by simp only [gOf, hj, if_true]) (by simp only [gOf, hk, if_true]) (by simp only [gOf, hl, if_true]))
theorem Wswp : wrT 45 = false := by kernel_rfl
theorem Naft : ((tabT Try.prog) 24).map (fun z => z.ex.nat 25) = some none := by kernel_rfl
theorem Caft (call : Value → List Value → AH → Option (Value × AH)) {tm : Tm} {i j : Nat} {H : AH} {d : Option Tmp} {t : TypeId} {p : String} {a : Array Edge} {gd : Option (Nat × Bool)} : evOp (tabT Try.prog) call ⟨d, .call ⟨.value (.func 25), #[.tmp i, .tmp j], #[24, 3]⟩, t, p, a, gd⟩ (opd tm) H = call (.func (.func 25) #[] #[]) [tm.get i, tm.get j] H :=
  evOp_evO.trans (eo_call2n rfl rfl rfl Naft)
theorem Gaft (call : Value → List Value → AH → Option (Value × AH)) {tm : Tm} {rs : List DR} {ts : List Nat} {i j : Nat} {H : AH} {d : Option Tmp} {t : TypeId} {p : String} {a : Array Edge} {gd : Option (Nat × Bool)} (hi : natMem ts i = true) (hj : natMem ts j = true) : evOp (tabT Try.prog) call ⟨d, .call ⟨.value (.func 25), #[.tmp i, .tmp j], #[24, 3]⟩, t, p, a, gd⟩ (gOf tm rs ts) H = call (.func (.func 25) #[] #[]) [(finT tm rs).get i, (finT tm rs).get j] H :=
  evOp_evO.trans (eo_call2n rfl (by simp only [gOf, hi, if_true]) (by simp only [gOf, hj, if_true]) Naft)
theorem Waft : wrT 25 = false := by kernel_rfl
theorem Nrun : ((tabT Try.prog) 24).map (fun z => z.ex.nat 20) = some none := by kernel_rfl
theorem Crun (call : Value → List Value → AH → Option (Value × AH)) {tm : Tm} {i j : Nat} {H : AH} {d : Option Tmp} {t : TypeId} {p : String} {a : Array Edge} {gd : Option (Nat × Bool)} : evOp (tabT Try.prog) call ⟨d, .call ⟨.value (.func 20), #[.tmp i, .tmp j], #[24, 3]⟩, t, p, a, gd⟩ (opd tm) H = call (.func (.func 20) #[] #[]) [tm.get i, tm.get j] H :=
  evOp_evO.trans (eo_call2n rfl rfl rfl Nrun)
theorem Grun (call : Value → List Value → AH → Option (Value × AH)) {tm : Tm} {rs : List DR} {ts : List Nat} {i j : Nat} {H : AH} {d : Option Tmp} {t : TypeId} {p : String} {a : Array Edge} {gd : Option (Nat × Bool)} (hi : natMem ts i = true) (hj : natMem ts j = true) : evOp (tabT Try.prog) call ⟨d, .call ⟨.value (.func 20), #[.tmp i, .tmp j], #[24, 3]⟩, t, p, a, gd⟩ (gOf tm rs ts) H = call (.func (.func 20) #[] #[]) [(finT tm rs).get i, (finT tm rs).get j] H :=
  evOp_evO.trans (eo_call2n rfl (by simp only [gOf, hi, if_true]) (by simp only [gOf, hj, if_true]) Nrun)
theorem Wrun : wrT 20 = false := by kernel_rfl
theorem Norp : ((tabT Try.prog) 24).map (fun z => (z.ex.nat 23, z.ex.mnz 23)) = some (none, none) := by kernel_rfl
theorem Corp (call : Value → List Value → AH → Option (Value × AH)) {tm : Tm} {i : Nat} {H : AH} {d : Option Tmp} {t : TypeId} {p : String} {a : Array Edge} {gd : Option (Nat × Bool)} : evOp (tabT Try.prog) call ⟨d, .call ⟨.value (.func 23), #[.tmp i], #[24]⟩, t, p, a, gd⟩ (opd tm) H = call (.func (.func 23) #[] #[]) [tm.get i] H :=
  evOp_evO.trans (eo_call1 rfl rfl Norp)
theorem Nin : ((tabT Try.prog) 22).map (fun z => z.ex.nat 46) = some none := by kernel_rfl
theorem Cin (call : Value → List Value → AH → Option (Value × AH)) {tm : Tm} {i j : Nat} {H : AH} {d : Option Tmp} {t : TypeId} {p : String} {a : Array Edge} {gd : Option (Nat × Bool)} : evOp (tabT Try.prog) call ⟨d, .call ⟨.value (.func 46), #[.tmp i, .tmp j], #[22, 3]⟩, t, p, a, gd⟩ (opd tm) H = call (.func (.func 46) #[] #[]) [tm.get i, tm.get j] H :=
  evOp_evO.trans (eo_call2n rfl rfl rfl Nin)
theorem Ninto3 : ((tabT Try.prog) 3).map (fun z => z.ex.nat 42) = some none := by kernel_rfl
theorem Cinto3 (call : Value → List Value → AH → Option (Value × AH)) {tm : Tm} {i : Nat} {H : AH} {d : Option Tmp} {t : TypeId} {p : String} {a : Array Edge} {gd : Option (Nat × Bool)} : evOp (tabT Try.prog) call ⟨d, .call ⟨.value (.func 42), #[.tmp i, .const (.int .i64 3)], #[3, 3]⟩, t, p, a, gd⟩ (opd tm) H = call (.func (.func 42) #[] #[]) [tm.get i, .int .i64 3] H :=
  evOp_evO.trans (eo_call2n rfl rfl rfl Ninto3)
theorem kgLM : kpT 9 = false := by kernel_rfl
/-- What the calls with a set in cells answer. -/
structure SetCalls (call : Value → List Value → AH → Option (Value × AH)) (s : SV) (A : Value) : Prop where
  mir : ∀ (M : Nat) (b : List (Nat × ABlk)) (j : Int), seeC A b = some s → call (.func (.func 44) #[] #[]) [A, .int .i64 j] ⟨M, b⟩ = some (.int .i64 (s.mir j), ⟨M, b⟩)
  swp : ∀ (M : Nat) (b : List (Nat × ABlk)) (j x y : Int), seeC A b = some s → call (.func (.func 45) #[] #[]) [A, .int .i64 j, .int .i64 x, .int .i64 y] ⟨M, b⟩ = some (.int .i64 (s.swp j x y), ⟨M, b⟩)
  aft : ∀ (M : Nat) (b : List (Nat × ABlk)) (j : Int), seeC A b = some s → call (.func (.func 25) #[] #[]) [A, .int .i64 j] ⟨M, b⟩ = some (.int .i64 (s.aft j), ⟨M, b⟩)
  run : ∀ (M : Nat) (b : List (Nat × ABlk)) (j : Int), seeC A b = some s → call (.func (.func 20) #[] #[]) [A, .int .i64 j] ⟨M, b⟩ = some (.bool (s.runs j), ⟨M, b⟩)
set_option maxRecDepth 10000 in
set_option maxHeartbeats 8000000 in
theorem mirrors_core {L : Nat} (call : Value → List Value → AH → Option (Value × AH)) (N0 N1 p M : Nat) (bs0 bs1 b1 : List (Nat × ABlk)) (u : Value) (kind a b : Int) (s : SV) (u1 u8 : Value)
    (hNS : call (.func (.func 37) #[] #[]) [u] ⟨N0, bs0⟩ = some (.pointer (some ⟨p, 0, none⟩), ⟨N1, bs1⟩))
    (hSO : call (.func (.func 36) #[] #[]) [.pointer (some ⟨p, 0, none⟩)] ⟨N1, bs1⟩ = some (.agg #[.int .i64 s.p, u1, .int .i64 s.w, .int .i64 s.d, .int .i64 s.f, .int .i64 s.c, .int .i64 s.m, .int .i64 s.de, u8], ⟨M, b1⟩))
    (hM : MI ⟨M, b1⟩) (f1 : FL N1 ⟨M, b1⟩ u1 s.n s.g) (f8 : FL N1 ⟨M, b1⟩ u8 s.k s.h) (he : s.err = 0)
    (hPl : ∀ (M : Nat) (b2 : List (Nat × ABlk)) (s : SV) (u1 u8 : Value), MI ⟨M, b2⟩ → Lst b2 u1 s.n s.g → s.n ≤ 200 → call (.func (.func 43) #[] #[]) [.agg #[.int .i64 s.p, u1, .int .i64 s.w, .int .i64 s.d, .int .i64 s.f, .int .i64 s.c, .int .i64 s.m, .int .i64 s.de, u8]] ⟨M, b2⟩ = some (.int .i64 (PV s), ⟨M + 1, b2⟩))
    (hInto : ∀ (x y : Int) (H : AH), ¬ y = 0 → call (.func (.func 42) #[] #[]) [.int .i64 x, .int .i64 y] H = some (.int .i64 (intoX x y), H))
    (hS : SetCalls call s (.agg #[.int .i64 s.p, u1, .int .i64 s.w, .int .i64 s.d, .int .i64 s.f, .int .i64 s.c, .int .i64 s.m, .int .i64 s.de, u8])) (see : seeC (.agg #[.int .i64 s.p, u1, .int .i64 s.w, .int .i64 s.d, .int .i64 s.f, .int .i64 s.c, .int .i64 s.m, .int .i64 s.de, u8]) ((M, .cells false [.int .i64 s.p, u1, .int .i64 s.w, .int .i64 s.d, .int .i64 s.f, .int .i64 s.c, .int .i64 s.m, .int .i64 s.de, u8]) :: b1) = some s) (seeR : seeC (.agg #[.int .i64 s.p, u1, .int .i64 s.w, .int .i64 s.d, .int .i64 s.f, .int .i64 s.c, .int .i64 s.m, .int .i64 s.de, u8]) ((M, .cells true [.int .i64 s.p, u1, .int .i64 s.w, .int .i64 s.d, .int .i64 s.f, .int .i64 s.c, .int .i64 s.m, .int .i64 s.de, u8]) :: roB b1) = some s)
    (v : Value) (H2 : AH) (hO : call (.func (.func 23) #[] #[]) [.agg #[.int .i64 s.p, u1, .int .i64 s.w, .int .i64 s.d, .int .i64 s.f, .int .i64 s.c, .int .i64 s.m, .int .i64 s.de, u8]] ⟨M + 2, (M, .cells false [.int .i64 s.p, u1, .int .i64 s.w, .int .i64 s.d, .int .i64 s.f, .int .i64 s.c, .int .i64 s.m, .int .i64 s.de, u8]) :: b1⟩ = some (v, H2)) (hv : cellV v = true)
    (hIn : ∀ x : Int, call (.func (.func 46) #[] #[]) [v, .int .i64 x] H2 = some (.bool (decide (x ∈ s.torphs)), H2))
    (hAw : ∃ H', call (.func (.func 27) #[] #[]) [] H2 = some (.bool true, H')) :
    ∃ H', evFn (tabT Try.prog) call (L + 300) kpT 9 Try.f9 [u, .int .i64 kind, .int .i64 a, .int .i64 b] ⟨N0, bs0⟩ = some (.bool true, H') := by
  have kp := kgLM
  have hT4 : ((tabT Try.prog) 4).map (·.desc) = some .bool := by kernel_rfl
  obtain ⟨_, _, _, _, tt4⟩ := tdesc hT4
  clear hT4
  have hs := small_of_err he
  have hpv := PV_plain hs
  have hpos := plain_pos he
  obtain ⟨p0, p1, _⟩ := plain_small hs
  have hff := hs.f
  have hn3 := hs.n
  have k0 := intoX_range kind (PV s + s.f) (by omega) (by omega)
  obtain ⟨su, r, q, hf⟩ := find_some he k0.1 (by omega)
  obtain ⟨_, r0, rq, _, hcase⟩ := find_spec hf
  obtain ⟨hq, _, k42, _, _⟩ := find_many hf
  have v1 := f1.cv
  have v8 := f8.cv
  have wpf : wrapI .i64 (PV s + s.f) = PV s + s.f := wrapI_small (by omega) (by omega)
  have nz : ¬ PV s + s.f = 0 := by omega
  have hin := fun H => hInto kind (PV s + s.f) H nz
  have hia := fun x H => hInto x 3 H (by decide)
  have hM1 : MI ⟨M + 1, (M, .cells false [.int .i64 s.p, u1, .int .i64 s.w, .int .i64 s.d, .int .i64 s.f, .int .i64 s.c, .int .i64 s.m, .int .i64 s.de, u8]) :: b1⟩ := hM.push _
  have l1 : Lst b1 u1 s.n s.g := f1.lst
  have cp := hPl (M + 1) (roB ((M, .cells false [.int .i64 s.p, u1, .int .i64 s.w, .int .i64 s.d, .int .i64 s.f, .int .i64 s.c, .int .i64 s.m, .int .i64 s.de, u8]) :: b1)) s u1 u8 hM1.ro ((l1.push hM.2 _).ro hM1.1) (by omega)
  have nw := newOnes_ro b1 (M + 1) (fun q hq => Nat.lt_succ_of_lt (hM.2 q hq))
  have nw2 := newOnes_ro b1 (M + 2) (fun q hq => Nat.lt_succ_of_lt (Nat.lt_succ_of_lt (hM.2 q hq)))
  have nle1 : ¬ M + 1 ≤ M := by omega
  have nle2 : ¬ M + 2 ≤ M := by omega
  simp only [roB, roK] at cp
  simp only [evFn, Try.f9]
  simp [ec_skip, ec_label, ek_reg, ek_draw, ek_seq, ec_cond, ek_block, ec_loop, ec_exit, ec_ret, ec_scope, ek_nil, ek_op, opK_some, regK_some, seqK_normal, seqK_exit, seqK_ret, blockK_normal, blockK_exit, blockK_ret, evOp, vOp, hOpB, hOpU, hOp, hOpT, aAppendG_tab, aWanted, aYielded, opd, putT, closedV, aBin, intOp, sameK, mapO, joinR, hasAddr, boundOf, pushB, aAlloc, Value.cells, lookB, setB, Nat.beq_eq, tm_n_set, tm_get_set, tm_of_n, tm_of_get, tm_tr_set, tm_tr_of, putF, appR_eq, takeR_eq, dropR_eq, setR_eq, getR_eq, ↓C75, ↓C76, ↓C77, ↓C79, ↓C17, ↓C18, ↓C22, ↓C71, FA24_0, FA24_1, FA24_2, FA24_3, FA24_4, FA24_5, FA24_6, FA24_7, FA24_8, LD3, LD4, LD22, LD27, LDr, LD24, LEN22, IA22, tkc, cellAt, ↓Cnews, hNS, ↓Csetof, hSO, ↓AL24, ST24, v1, v8, cvI]
  generalize hX : evDrawX _ _ _ _ _ = X
  obtain ⟨tm, rfl, hl, t2, t3, t8, t9, t10⟩ := draw_any (H' := ⟨M + 2, (M, .cells false [.int .i64 s.p, u1, .int .i64 s.w, .int .i64 s.d, .int .i64 s.f, .int .i64 s.c, .int .i64 s.m, .int .i64 s.de, u8]) :: b1⟩) (Pt := fun tm => tm.get 2 = .int .i64 a ∧ tm.get 3 = .int .i64 b ∧ tm.get 8 = .bool false ∧ tm.get 9 = .pointer (some ⟨M, 0, none⟩) ∧ tm.get 10 = .int .i64 (intoX kind (PV s + s.f))) hX (by kernel_rfl) hM1.1 (by
    clear hX
    generalize befs _ = MM
    simp [mapO, drRun, drOp, dr3, looks, guardT, tmpsOf, Op.operands, Call.operands, wantedR, gOf, finT, natMem, isNil, writesF, evOp, vOp, hOpB, hOpU, hOp, hOpT, aAppendG_tab, opd, closedV, aBin, intOp, sameK, opdO, boundOf, undef, lookB, Nat.beq_eq, tm_n_set, tm_get_set, tm_of_n, tm_of_get, tm_tr_set, tm_tr_of, b02, b12, b32, ↓G75, W75, ↓G76, W76, ↓G77, W77, ↓G79, W79, ↓G17, W17, ↓G18, W18, ↓G22, W22, ↓G71, W71, tv, all1, roB, roK, news, newOnes, decr, tkc, cellAt, LD3, LD4, LD22, LD27, LDr, LD24, LEN22, IA22, FA24_0, FA24_1, FA24_2, FA24_3, FA24_4, FA24_5, FA24_6, FA24_7, FA24_8, hasR, hasR_ro, ↓Gpl, Wpl, ↓Ginto, Winto, cp, hin, wpf, nw, nw2, nle1, nle2, wheap, Nat.ble_eq, Nat.blt_eq]
    refine ⟨_, _, ⟨rfl, rfl⟩, ?_, ?_, ?_⟩
    · simp [dynOK, b02, b12, b32, b03, b13, b23, Nat.blt_eq, Nat.beq_eq, tm_n_set, tm_of_n]
    · simp [wheap, news, b02, b12, b32, Nat.beq_eq, all1]
    · simp [finT, tm_get_set, tm_n_set, tm_of_n, tm_of_get])
  clear hX
  simp [tm_n_set, tm_of_n] at hl
  generalize hk : intoX kind (PV s + s.f) = k at *
  generalize ha : intoX a 3 = a' at *
  generalize hb : intoX b 3 = b' at *
  -- what the calls answer
  have d2 : decrK ((M, .cells false [.int .i64 s.p, u1, .int .i64 s.w, .int .i64 s.d, .int .i64 s.f, .int .i64 s.c, .int .i64 s.m, .int .i64 s.de, u8]) :: b1) = true := hM1.1
  have mi : ∀ j, _ := fun j => hS.mir (M + 2) _ j seeR
  have sw : ∀ j, _ := fun j => hS.swp (M + 2) _ j a' b' seeR
  have af : ∀ j, _ := fun j => hS.aft (M + 2) _ j seeR
  have ru : ∀ j, _ := fun j => hS.run (M + 2) _ j seeR
  have ru0 := hS.run (M + 2) _ k see
  have hla : intoX a 3 = a' := ha
  have hlb : intoX b 3 = b' := hb
  have e1 := mir_mir hf
  have e2 := swap_back (a := a') (b := b') hf
  have e3 := swap_aft (a := a') (b := b') hf
  have e4 := swap_runs (a := a') (b := b') hf
  have e5 := mir_orph hf
  have e6 := swap_orph (a := a') (b := b') hf
  have mi1 := mi k
  have mi2 := mi (s.mir k)
  rw [e1] at mi2
  have sw1 := sw k
  have sw2 := sw (s.swp k a' b')
  rw [e2] at sw2
  have sw3 := sw (s.aft k)
  have af1 := af k
  have af2 := af (s.swp k a' b')
  rw [e3] at af2
  have ru1 := ru (s.swp k a' b')
  rw [e4] at ru1
  have wk2 : wrapI .i64 (k + 2) = k + 2 := wrapI_small (by omega) (by omega)
  have i1 := hIn (s.mir k)
  have i2 := hIn (s.swp k a' b')
  have i3 := hIn k
  rw [show decide (s.mir k ∈ s.torphs) = decide (k ∈ s.torphs) from decide_eq_decide.2 e5] at i1
  rw [show decide (s.swp k a' b' ∈ s.torphs) = decide (k ∈ s.torphs) from decide_eq_decide.2 e6] at i2
  have mr : s.runs k = true → s.runs (s.mir (k + 2)) = true ∧ s.mir (k + 2) + 2 = s.mir k := mir_runs hf
  have mk2 := mi (k + 2)
  have ru2 := ru (s.mir (k + 2))
  have hm0 : -1000000 ≤ s.mir k ∧ s.mir k ≤ 1000000 := by
    rcases mir_of hf with ⟨_, e⟩ | ⟨_, e, _⟩
    · rw [e]; omega
    · rw [e]
      obtain ⟨_, q9, _⟩ := find_many hf
      omega
  generalize s.mir (k + 2) = m2 at *
  generalize s.mir k = m at *
  generalize s.swp (s.aft k) a' b' = z at *
  generalize s.swp k a' b' = w at *
  generalize s.aft k = af0 at *
  generalize s.runs k = R at *
  generalize decide (k ∈ s.torphs) = O at *
  clear mi sw af ru e1 e2 e3 e4 e5 e6
  obtain ⟨Ha, hAw⟩ := hAw
  simp [ec_skip, ec_label, ek_reg, ek_draw, ek_seq, ec_cond, ek_block, ec_loop, ec_exit, ec_ret, ec_scope, ek_nil, ek_op, opK_some, regK_some, seqK_normal, seqK_exit, seqK_ret, blockK_normal, blockK_exit, blockK_ret, evOp, vOp, hOpB, hOpU, hOp, hOpT, aAppendG_tab, aWanted, aYielded, opd, putT, closedV, aBin, intOp, sameK, mapO, joinR, hasAddr, boundOf, pushB, aAlloc, Value.cells, lookB, setB, Nat.beq_eq, tm_n_set, tm_get_set, tm_of_n, tm_of_get, tm_tr_set, tm_tr_of, cellV, putF, appR_eq, takeR_eq, dropR_eq, setR_eq, getR_eq, ↓C75, ↓C76, ↓C77, ↓C79, ↓C17, ↓C18, ↓C22, ↓C71, FA24_0, FA24_1, FA24_2, FA24_3, FA24_4, FA24_5, FA24_6, FA24_7, FA24_8, LD3, LD4, LD22, LD27, LDr, LD24, LEN22, IA22, tkc, cellAt, hl, t2, t3, t8, t9, t10, ↓Cinto3, hia, ha, hb]
  generalize hX : evDrawX _ _ _ _ _ = X
  obtain ⟨tm2, rfl, hl2, t2', t3', t8', t9', t10', t11', t12'⟩ := draw_ro (Pt := fun tm => tm.get 2 = .int .i64 a' ∧ tm.get 3 = .int .i64 b' ∧ tm.get 8 = .bool false ∧ tm.get 9 = .pointer (some ⟨M, 0, none⟩) ∧ tm.get 10 = .int .i64 k ∧ tm.get 11 = .int .i64 m ∧ tm.get 12 = .int .i64 w) hX (by kernel_rfl) d2 (by
    clear hX
    generalize befs _ = MM
    simp [mapO, drRun, drOp, dr3, looks, guardT, tmpsOf, Op.operands, Call.operands, wantedR, gOf, finT, natMem, isNil, writesF, evOp, vOp, hOpB, hOpU, hOp, hOpT, aAppendG_tab, opd, closedV, aBin, intOp, sameK, opdO, boundOf, undef, lookB, Nat.beq_eq, tm_n_set, tm_get_set, tm_of_n, tm_of_get, tm_tr_set, tm_tr_of, b02, b12, b32, ↓G75, W75, ↓G76, W76, ↓G77, W77, ↓G79, W79, ↓G17, W17, ↓G18, W18, ↓G22, W22, ↓G71, W71, tv, all1, roB, roK, news, newOnes, decr, tkc, cellAt, LD3, LD4, LD22, LD27, LDr, LD24, LEN22, IA22, FA24_0, FA24_1, FA24_2, FA24_3, FA24_4, FA24_5, FA24_6, FA24_7, FA24_8, hasR, hasR_ro, ↓Gmir, Wmir, ↓Gswp, Wswp, ↓Gaft, Waft, ↓Grun, Wrun, hl, t2, t3, t8, t9, t10, mi1, sw1, nw, nw2, nle1, nle2, wheap, Nat.ble_eq, Nat.blt_eq]
    simp [dynOK, b03, b13, b23, b02, b12, b32, b03, b13, b23, Nat.blt_eq, Nat.beq_eq, tm_n_set, tm_of_n, hl])
  clear hX
  simp [tm_n_set, tm_of_n, hl] at hl2
  simp [ec_skip, ec_label, ek_reg, ek_draw, ek_seq, ec_cond, ek_block, ec_loop, ec_exit, ec_ret, ec_scope, ek_nil, ek_op, opK_some, regK_some, seqK_normal, seqK_exit, seqK_ret, blockK_normal, blockK_exit, blockK_ret, evOp, vOp, hOpB, hOpU, hOp, hOpT, aAppendG_tab, aWanted, aYielded, opd, putT, closedV, aBin, intOp, sameK, mapO, joinR, hasAddr, boundOf, pushB, aAlloc, Value.cells, lookB, setB, Nat.beq_eq, tm_n_set, tm_get_set, tm_of_n, tm_of_get, tm_tr_set, tm_tr_of, cellV, putF, appR_eq, takeR_eq, dropR_eq, setR_eq, getR_eq, ↓C75, ↓C76, ↓C77, ↓C79, ↓C17, ↓C18, ↓C22, ↓C71, FA24_0, FA24_1, FA24_2, FA24_3, FA24_4, FA24_5, FA24_6, FA24_7, FA24_8, LD3, LD4, LD22, LD27, LDr, LD24, LEN22, IA22, tkc, cellAt, hl2, t2', t3', t8', t9', t10', t11', t12']
  generalize hX : evDrawX _ _ _ _ _ = X
  obtain ⟨tm3, rfl, hl3, u2, u3, u8', u9, u10, u11, u12, u63⟩ := draw_ro (Pt := fun tm => tm.get 2 = .int .i64 a' ∧ tm.get 3 = .int .i64 b' ∧ tm.get 8 = .bool false ∧ tm.get 9 = .pointer (some ⟨M, 0, none⟩) ∧ tm.get 10 = .int .i64 k ∧ tm.get 11 = .int .i64 m ∧ tm.get 12 = .int .i64 w ∧ tm.get 63 = .bool false) hX (by kernel_rfl) d2 (by
    clear hX
    generalize befs _ = MM
    simp [mapO, drRun, drOp, dr3, looks, guardT, tmpsOf, Op.operands, Call.operands, wantedR, gOf, finT, natMem, isNil, writesF, evOp, vOp, hOpB, hOpU, hOp, hOpT, aAppendG_tab, opd, closedV, aBin, intOp, sameK, opdO, boundOf, undef, lookB, Nat.beq_eq, tm_n_set, tm_get_set, tm_of_n, tm_of_get, tm_tr_set, tm_tr_of, b02, b12, b32, ↓G75, W75, ↓G76, W76, ↓G77, W77, ↓G79, W79, ↓G17, W17, ↓G18, W18, ↓G22, W22, ↓G71, W71, tv, all1, roB, roK, news, newOnes, decr, tkc, cellAt, LD3, LD4, LD22, LD27, LDr, LD24, LEN22, IA22, FA24_0, FA24_1, FA24_2, FA24_3, FA24_4, FA24_5, FA24_6, FA24_7, FA24_8, hasR, hasR_ro, ↓Gmir, Wmir, ↓Gswp, Wswp, ↓Gaft, Waft, ↓Grun, Wrun, hl2, t2', t3', t8', t9', t10', t11', t12', mi2, sw2, af1, af2, sw3, nw, nw2, nle1, nle2, wheap, Nat.ble_eq, Nat.blt_eq]
    simp [dynOK, b03, b13, b23, b02, b12, b32, b03, b13, b23, Nat.blt_eq, Nat.beq_eq, tm_n_set, tm_of_n, hl2])
  clear hX
  simp [tm_n_set, hl2] at hl3
  simp [ec_skip, ec_label, ek_reg, ek_draw, ek_seq, ec_cond, ek_block, ec_loop, ec_exit, ec_ret, ec_scope, ek_nil, ek_op, opK_some, regK_some, seqK_normal, seqK_exit, seqK_ret, blockK_normal, blockK_exit, blockK_ret, evOp, vOp, hOpB, hOpU, hOp, hOpT, aAppendG_tab, aWanted, aYielded, opd, putT, closedV, aBin, intOp, sameK, mapO, joinR, hasAddr, boundOf, pushB, aAlloc, Value.cells, lookB, setB, Nat.beq_eq, tm_n_set, tm_get_set, tm_of_n, tm_of_get, tm_tr_set, tm_tr_of, cellV, putF, appR_eq, takeR_eq, dropR_eq, setR_eq, getR_eq, ↓C75, ↓C76, ↓C77, ↓C79, ↓C17, ↓C18, ↓C22, ↓C71, FA24_0, FA24_1, FA24_2, FA24_3, FA24_4, FA24_5, FA24_6, FA24_7, FA24_8, LD3, LD4, LD22, LD27, LDr, LD24, LEN22, IA22, tkc, cellAt, hl3, u2, u3, u8', u9, u10, u11, u12, u63, ↓Crun, ru0]
  generalize hX : evDrawX _ _ _ _ _ = X
  obtain ⟨tm4, rfl, hl4, w9, w10, w11, w12, w92⟩ : ∃ tm', X = some (⟨tm', []⟩, ⟨M + 2, (M, .cells false [.int .i64 s.p, u1, .int .i64 s.w, .int .i64 s.d, .int .i64 s.f, .int .i64 s.c, .int .i64 s.m, .int .i64 s.de, u8]) :: b1⟩) ∧ tm'.n = 114 ∧ tm'.get 9 = .pointer (some ⟨M, 0, none⟩) ∧ tm'.get 10 = .int .i64 k ∧ tm'.get 11 = .int .i64 m ∧ tm'.get 12 = .int .i64 w ∧ tm'.get 92 = .bool false := by
    cases R with
    | false =>
      obtain ⟨tm4, e, h1, h2⟩ := draw_ro (Pt := fun tm => tm.get 9 = .pointer (some ⟨M, 0, none⟩) ∧ tm.get 10 = .int .i64 k ∧ tm.get 11 = .int .i64 m ∧ tm.get 12 = .int .i64 w ∧ tm.get 92 = .bool false) hX (by kernel_rfl) d2 (by
        clear hX
        generalize befs _ = MM
        simp [mapO, drRun, drOp, dr3, looks, guardT, tmpsOf, Op.operands, Call.operands, wantedR, gOf, finT, natMem, isNil, writesF, evOp, vOp, hOpB, hOpU, hOp, hOpT, aAppendG_tab, opd, closedV, aBin, intOp, sameK, opdO, boundOf, undef, lookB, Nat.beq_eq, tm_n_set, tm_get_set, tm_of_n, tm_of_get, tm_tr_set, tm_tr_of, b02, b12, b32, ↓G75, W75, ↓G76, W76, ↓G77, W77, ↓G79, W79, ↓G17, W17, ↓G18, W18, ↓G22, W22, ↓G71, W71, tv, all1, roB, roK, news, newOnes, decr, tkc, cellAt, LD3, LD4, LD22, LD27, LDr, LD24, LEN22, IA22, FA24_0, FA24_1, FA24_2, FA24_3, FA24_4, FA24_5, FA24_6, FA24_7, FA24_8, hasR, hasR_ro, ↓Gmir, Wmir, ↓Gswp, Wswp, ↓Gaft, Waft, ↓Grun, Wrun, hl3, u2, u3, u8', u9, u10, u11, u12, tt4, ru1, nw, nw2, nle1, nle2, wheap, Nat.ble_eq, Nat.blt_eq]
        simp [dynOK, b03, b13, b23, b02, b12, b32, b03, b13, b23, Nat.blt_eq, Nat.beq_eq, tm_n_set, tm_of_n, hl3])
      simp [tm_n_set, hl3] at h1
      exact ⟨tm4, e, h1, h2⟩
    | true =>
      obtain ⟨g1, g2⟩ := mr rfl
      have wm2 : wrapI .i64 (m2 + 2) = m := by rw [wrapI_small (by omega) (by omega)]; exact g2
      rw [g1] at ru2
      obtain ⟨tm4, e, h1, h2⟩ := draw_ro (Pt := fun tm => tm.get 9 = .pointer (some ⟨M, 0, none⟩) ∧ tm.get 10 = .int .i64 k ∧ tm.get 11 = .int .i64 m ∧ tm.get 12 = .int .i64 w ∧ tm.get 92 = .bool false) hX (by kernel_rfl) d2 (by
        clear hX
        generalize befs _ = MM
        simp [mapO, drRun, drOp, dr3, looks, guardT, tmpsOf, Op.operands, Call.operands, wantedR, gOf, finT, natMem, isNil, writesF, evOp, vOp, hOpB, hOpU, hOp, hOpT, aAppendG_tab, opd, closedV, aBin, intOp, sameK, opdO, boundOf, undef, lookB, Nat.beq_eq, tm_n_set, tm_get_set, tm_of_n, tm_of_get, tm_tr_set, tm_tr_of, b02, b12, b32, ↓G75, W75, ↓G76, W76, ↓G77, W77, ↓G79, W79, ↓G17, W17, ↓G18, W18, ↓G22, W22, ↓G71, W71, tv, all1, roB, roK, news, newOnes, decr, tkc, cellAt, LD3, LD4, LD22, LD27, LDr, LD24, LEN22, IA22, FA24_0, FA24_1, FA24_2, FA24_3, FA24_4, FA24_5, FA24_6, FA24_7, FA24_8, hasR, hasR_ro, ↓Gmir, Wmir, ↓Gswp, Wswp, ↓Gaft, Waft, ↓Grun, Wrun, hl3, u2, u3, u8', u9, u10, u11, u12, tt4, ru1, ru2, mk2, wk2, wm2, nw, nw2, nle1, nle2, wheap, Nat.ble_eq, Nat.blt_eq]
        simp [dynOK, b03, b13, b23, b02, b12, b32, b03, b13, b23, Nat.blt_eq, Nat.beq_eq, tm_n_set, tm_of_n, hl3])
      simp [tm_n_set, hl3] at h1
      exact ⟨tm4, e, h1, h2⟩
  clear hX
  cases O <;> simp [ec_skip, ec_label, ek_reg, ek_draw, ek_seq, ec_cond, ek_block, ec_loop, ec_exit, ec_ret, ec_scope, ek_nil, ek_op, opK_some, regK_some, seqK_normal, seqK_exit, seqK_ret, blockK_normal, blockK_exit, blockK_ret, evOp, vOp, hOpB, hOpU, hOp, hOpT, aAppendG_tab, aWanted, aYielded, opd, putT, closedV, aBin, intOp, sameK, mapO, joinR, hasAddr, boundOf, pushB, aAlloc, Value.cells, lookB, setB, Nat.beq_eq, tm_n_set, tm_get_set, tm_of_n, tm_of_get, tm_tr_set, tm_tr_of, putF, appR_eq, takeR_eq, dropR_eq, setR_eq, getR_eq, ↓C75, ↓C76, ↓C77, ↓C79, ↓C17, ↓C18, ↓C22, ↓C71, FA24_0, FA24_1, FA24_2, FA24_3, FA24_4, FA24_5, FA24_6, FA24_7, FA24_8, LD3, LD4, LD22, LD27, LDr, LD24, LEN22, IA22, tkc, cellAt, hl4, w9, w10, w11, w12, w92, tt4, ↓Corp, hO, hv, ↓Cin, i1, i2, i3, ↓Cawake, hAw, finF, takeM, resV, cleanedG, kp, below]

end

section
set_option linter.unusedSimpArgs false
set_option linter.unusedVariables false

noncomputable def ansI : List Value → AH → Option Value
  | [.int .i64 n, .int .i64 m], _ => if m = 0 then none else some (.int .i64 (intoX n m))
  | _, _ => none
theorem FI : tabF Try.prog 42 = some Try.f42 := by kernel_rfl
theorem okI : AnsOK (runH noH) 42 ansI := by
  intro cargs Hc v h
  unfold ansI at h
  split at h
  · split at h
    · cases h
    · rename_i hm
      cases h
      refine ⟨rfl, fun _ => ?_⟩
      obtain ⟨H', h⟩ := into_ev (L := 0) (inH noH) (H := Hc) hm
      exact ⟨H', runH_fn FI rfl h⟩
  · cases h
theorem canI (n m : Int) (H : AH) (h : ¬ m = 0) : canH 42 ansI (.func (.func 42) #[] #[]) [.int .i64 n, .int .i64 m] H = some (.int .i64 (intoX n m), H) := by
  simp [canH, canon, canonL, canonV, canonB, ansI, Nat.beq_eq, h]
theorem seeC_of {b : List (Nat × ABlk)} {s : SV} {u1 u8 : Value} (l1 : Lst b u1 s.n s.g) (h1 : 1 ≤ s.n) (l8 : Lst b u8 s.k s.h) (h8 : u8 = .slice none 0 0 → s.h = fun _ => 0) (hn : s.n ≤ 200) (hk : s.k ≤ 200) : seeC (.agg ⟨[.int .i64 s.p, u1, .int .i64 s.w, .int .i64 s.d, .int .i64 s.f, .int .i64 s.c, .int .i64 s.m, .int .i64 s.de, u8]⟩) b = some s := by
  rcases l1 with ⟨_, h⟩ | ⟨a, ro, cs, rfl, h2, h3, h4⟩
  · omega
  · have e1 : seeL b (.slice (some ⟨a, 0, none⟩) s.n 1) = some (s.n, s.g) := by simp only [seeL, h2, h3, if_true, h4]
    have e8 : seeL b u8 = some (s.k, s.h) := by
      rcases l8 with ⟨rfl, h⟩ | ⟨a, ro, cs, rfl, h2, h3, h4⟩
      · rw [h, h8 rfl]; rfl
      · simp only [seeL, h2, h3, if_true, h4]
    unfold seeC
    simp only [e1, e8]
    simp [hn, hk, Nat.ble_eq]
theorem setH_other {f g : FuncId} {ans : SV → List Value → Option Value} {args : List Value} {H : AH} (h : Nat.beq g f = false) : setH f ans (.func (.func g) #[] #[]) args H = none := by
  cases args with
  | nil => rfl
  | cons v r => simp [setH, h]
theorem setLH_other {f g : FuncId} {ans : SV → List Value → Option (List Int)} {args : List Value} {H : AH} (h : Nat.beq g f = false) : setLH f ans (.func (.func g) #[] #[]) args H = none := by
  cases args with
  | nil => rfl
  | cons v r => simp [setLH, h]
/-- The functions that are run in place. -/
def SrcFree (hd : Hnd) : Prop := ∀ f, f ∈ [95, 79, 77, 37, 78, 60, 36, 43, 82, 46] → ∀ args H, hd (.func (.func f) #[] #[]) args H = none
noncomputable def E (hd : Hnd) (L n : Nat) : Hnd := evCall (tabT Try.prog) (tabF Try.prog) (L + 300) kpT hd n
theorem FFB : tabF Try.prog 95 = some Try.f95 := by kernel_rfl
theorem FFR : tabF Try.prog 79 = some Try.f79 := by kernel_rfl
theorem FFO : tabF Try.prog 77 = some Try.f77 := by kernel_rfl
theorem FFN : tabF Try.prog 37 = some Try.f37 := by kernel_rfl
theorem FFL : tabF Try.prog 78 = some Try.f78 := by kernel_rfl
theorem FFG : tabF Try.prog 60 = some Try.f60 := by kernel_rfl
theorem FFS : tabF Try.prog 36 = some Try.f36 := by kernel_rfl
theorem FFP : tabF Try.prog 43 = some Try.f43 := by kernel_rfl
theorem FFT : tabF Try.prog 82 = some Try.f82 := by kernel_rfl
theorem FFI : tabF Try.prog 46 = some Try.f46 := by kernel_rfl
theorem bel_at {hd : Hnd} (hfr : SrcFree hd) (L n p N : Nat) (bs : List (Nat × ABlk)) (x : Int) (m : Nat) (h1 : 1 ≤ m) (h2 : m ≤ 1000) (hM : MI ⟨N, bs⟩) (h : lookB bs p = some (sB x)) : E hd L (n + 1) (.func (.func 95) #[] #[]) [.pointer (some ⟨p, 0, none⟩), .int .i64 (m : Int)] ⟨N, bs⟩ = some (.int .i64 (belV x m), ⟨N, setB bs p (sB (stB x))⟩) :=
  (evCall_fn FFB (hfr _ (by simp) _ _)).trans (below_ev _ p N bs x m h1 h2 hM h)
theorem src_at {hd : Hnd} (hfr : SrcFree hd) (L n p : Nat) : SrcOK (E hd L (n + 1 + 1)) p where
  bel N bs x m h1 h2 hM h := bel_at hfr L (n + 1) p N bs x m h1 h2 hM h
  ran N bs x lo hi h1 h2 hM h := (evCall_fn FFR (hfr _ (by simp) _ _)).trans (range_ev _ p N bs x lo hi h1 h2 fun m a b => bel_at hfr L n p N bs x m a b hM h)
  odd N bs x m h1 h2 hM h := (evCall_fn FFO (hfr _ (by simp) _ _)).trans (odds_ev _ p N bs x m h1 h2 fun m a b => bel_at hfr L n p N bs x m a b hM h)
theorem plain_at {hd : Hnd} (hfr : SrcFree hd) (L n M : Nat) (b2 : List (Nat × ABlk)) (s : SV) (u1 u8 : Value) (hM : MI ⟨M, b2⟩) (hu : Lst b2 u1 s.n s.g) (hn : s.n ≤ 200) : E hd L (n + 1 + 1) (.func (.func 43) #[] #[]) [.agg #[.int .i64 s.p, u1, .int .i64 s.w, .int .i64 s.d, .int .i64 s.f, .int .i64 s.c, .int .i64 s.m, .int .i64 s.de, u8]] ⟨M, b2⟩ = some (.int .i64 (PV s), ⟨M + 1, b2⟩) :=
  (evCall_fn FFP (hfr _ (by simp) _ _)).trans (plainC_ev _ M b2 hM hu fun N bs hM hu => (evCall_fn FFT (hfr _ (by simp) _ _)).trans (total_ev _ N bs hn hM hu))
theorem lit_at {hd : Hnd} (hfr : SrcFree hd) (L n p M : Nat) (b : List (Nat × ABlk)) (y : Int) (me : Nat) (hme : me = 1 ∨ me = 2) (hM : MI ⟨M, b⟩) (h : lookB b p = some (sB y)) : LitEnd M p (me : Int) b (E hd L (n + 1 + 1 + 1) (.func (.func 78) #[] #[]) [.pointer (some ⟨p, 0, none⟩), .int .i64 (me : Int)] ⟨M, b⟩) := by
  have e : E hd L (n + 1 + 1 + 1) (.func (.func 78) #[] #[]) [.pointer (some ⟨p, 0, none⟩), .int .i64 (me : Int)] ⟨M, b⟩ = _ := evCall_fn FFL (hfr _ (by simp) _ _)
  rw [e]
  exact little_ev _ p M b y me hme hM h (src_at hfr L n p) (plain_at hfr L n)
theorem set_at {hd : Hnd} (hfr : SrcFree hd) (L n p N : Nat) (bs : List (Nat × ABlk)) (x : Int) (hM : MI ⟨N, bs⟩) (h : lookB bs p = some (sB x)) : SetEnd N p bs (E hd L (n + 1 + 1 + 1 + 1) (.func (.func 36) #[] #[]) [.pointer (some ⟨p, 0, none⟩)] ⟨N, bs⟩) := by
  have e : E hd L (n + 1 + 1 + 1 + 1) (.func (.func 36) #[] #[]) [.pointer (some ⟨p, 0, none⟩)] ⟨N, bs⟩ = _ := evCall_fn FFS (hfr _ (by simp) _ _)
  rw [e]
  exact setof_ev _ p N bs x hM h (src_at hfr L (n + 1) p) (fun M b => (evCall_fn FFG (hfr _ (by simp) _ _)).trans (big_ev _ M b)) (lit_at hfr L n p)
theorem err_nil {s : SV} (he : s.err = 0) (hk : s.k = 0) : ({ s with h := fun _ => 0 } : SV).err = 0 := by
  obtain ⟨p, n, g, w, d, f, c, m, de, k, h⟩ := s
  simp only at hk
  subst hk
  exact he
theorem in_at {hd : Hnd} (hfr : SrcFree hd) (L k N : Nat) (bs : List (Nat × ABlk)) {u : Value} {n : Nat} {g : Nat → Int} (x : Int) (hn : n ≤ 200) (hM : MI ⟨N, bs⟩) (hu : Lst bs u n g) : E hd L (k + 1) (.func (.func 46) #[] #[]) [u, .int .i64 x] ⟨N, bs⟩ = some (.bool (memG g n 0 x), ⟨N, bs⟩) :=
  (evCall_fn FFI (hfr _ (by simp) _ _)).trans (in_ev _ N bs x hn hM hu)
/-- What there is behind NewSource and SetOf. -/
structure Opened (hd : Hnd) (n : Nat) (ks : List Value) (u : Value) (x : Int) (s : SV) (u1 u8 : Value) (M : Nat) (b1 : List (Nat × ABlk)) : Prop where
  ns : E hd n 8 (.func (.func 37) #[] #[]) [u] ⟨1, [(0, .cells true ks)]⟩ = some (.pointer (some ⟨1, 0, none⟩), HS ks x)
  so : E hd n 8 (.func (.func 36) #[] #[]) [.pointer (some ⟨1, 0, none⟩)] (HS ks x) = some (.agg #[.int .i64 s.p, u1, .int .i64 s.w, .int .i64 s.d, .int .i64 s.f, .int .i64 s.c, .int .i64 s.m, .int .i64 s.de, u8], ⟨M, b1⟩)
  mi : MI ⟨M, b1⟩
  nx : 2 ≤ M
  f1 : FL 2 ⟨M, b1⟩ u1 s.n s.g
  f8 : FL 2 ⟨M, b1⟩ u8 s.k s.h
  err : s.err = 0
  z8 : u8 = .slice none 0 0 → s.h = fun _ => 0
  n1 : 1 ≤ s.n
  k2 : s.k ≤ 200
theorem Opened.see {hd : Hnd} {n : Nat} {ks : List Value} {u : Value} {x : Int} {s : SV} {u1 u8 : Value} {M : Nat} {b1 : List (Nat × ABlk)} (h : Opened hd n ks u x s u1 u8 M b1) {b : List (Nat × ABlk)} (l1 : Lst b u1 s.n s.g) (l8 : Lst b u8 s.k s.h) : seeC (.agg #[.int .i64 s.p, u1, .int .i64 s.w, .int .i64 s.d, .int .i64 s.f, .int .i64 s.c, .int .i64 s.m, .int .i64 s.de, u8]) b = some s := by
  have hs3 := (small_of_err h.err).n
  exact seeC_of l1 h.n1 l8 h.z8 (by omega) h.k2
theorem open_set {hd : Hnd} (hfr : SrcFree hd) (n : Nat) (hn : n ≤ 9223372036854775807) {ks : List Value} (hks : okC ks n = true) {u : Value}
    (hlen : aLen (tabT Try.prog) 22 u = some (.int .i64 n)) (hix : ∀ k : Nat, k < n → aIndexAddr (tabT Try.prog) 22 u (.int .i64 (k : Int)) = some (.pointer (some ⟨0, k, none⟩))) :
    ∃ x s u1 u8 M b1, Opened hd n ks u x s u1 u8 M b1 := by
  obtain ⟨x, hx⟩ := newSource_ev (L := n + 300) (E hd n 7) (by omega) hn hks hlen hix
  have hNS : E hd n 8 (.func (.func 37) #[] #[]) [u] ⟨1, [(0, .cells true ks)]⟩ = some (.pointer (some ⟨1, 0, none⟩), HS ks x) := (evCall_fn FFN (hfr _ (by simp) _ _)).trans hx
  have hM0 : MI ⟨2, [(1, .cells false [.int .u64 x]), (0, .cells true ks)]⟩ := ⟨rfl, fun p hp => by
    simp only [List.mem_cons, List.not_mem_nil, or_false] at hp
    rcases hp with rfl | rfl
    · show 1 < 2; omega
    · show 0 < 2; omega⟩
  obtain ⟨s0, u1, u8, ⟨M, b1⟩, hSO, hM, hnx, _, f1, f80, he0, hk, h1⟩ := set_at hfr n 4 1 2 [(1, .cells false [.int .u64 x]), (0, .cells true ks)] x hM0 rfl
  obtain ⟨s, hs, he, f8, h8⟩ : ∃ s : SV, (.agg #[.int .i64 s.p, u1, .int .i64 s.w, .int .i64 s.d, .int .i64 s.f, .int .i64 s.c, .int .i64 s.m, .int .i64 s.de, u8] = (.agg #[.int .i64 s0.p, u1, .int .i64 s0.w, .int .i64 s0.d, .int .i64 s0.f, .int .i64 s0.c, .int .i64 s0.m, .int .i64 s0.de, u8] : Value) ∧ s.n = s0.n ∧ s.g = s0.g ∧ s.k = s0.k) ∧ s.err = 0 ∧ FL 2 ⟨M, b1⟩ u8 s.k s.h ∧ (u8 = .slice none 0 0 → s.h = fun _ => 0) := by
    by_cases hu : u8 = .slice none 0 0
    · have hk0 : s0.k = 0 := by
        rcases f80 with ⟨_, h⟩ | ⟨a, cs, h, _⟩
        · exact h
        · rw [hu] at h; cases h
      exact ⟨{ s0 with h := fun _ => 0 }, ⟨rfl, rfl, rfl, rfl⟩, err_nil he0 hk0, .inl ⟨hu, hk0⟩, fun _ => rfl⟩
    · exact ⟨s0, ⟨rfl, rfl, rfl, rfl⟩, he0, f80, fun h => absurd h hu⟩
  obtain ⟨ha, hn0, hg0, hk0⟩ := hs
  rw [← ha] at hSO
  rw [← hn0, ← hg0] at f1
  exact ⟨x, s, u1, u8, M, b1, hNS, hSO, hM, hnx, f1, f8, he, h8, by omega, by omega⟩

end

section
set_option linter.unusedSimpArgs false
set_option linter.unusedVariables false

noncomputable def RB : Hnd := orH (canH 42 ansI) (orH (setH 44 ansMi) (orH (setH 45 ansSw) (orH (setH 25 ansAf) (orH (setH 20 ansRu) (orH (setLH 23 ansOr) (memoF m4x0L))))))
theorem RB_ok : CallOK Try.prog RB := orH_ok (canH_ok (runH_ok noH_ok) okI) (orH_ok setM_ok (orH_ok setS_ok (orH_ok setA_ok (orH_ok setR_ok (orH_ok setO_ok m4x0L_ok)))))
theorem awakeM (H : AH) : memoF m4x0L (.func (.func 27) #[] #[]) [] H = some (.bool true, H) := by
  cases H
  kernel_rfl
theorem RB_free : SrcFree RB := by
  intro f hf args H
  simp only [List.mem_cons, List.not_mem_nil, or_false] at hf
  rcases hf with rfl | rfl | rfl | rfl | rfl | rfl | rfl | rfl | rfl | rfl <;> exact orH_r (canH_other rfl) (orH_r (setH_other rfl) (orH_r (setH_other rfl) (orH_r (setH_other rfl) (orH_r (setH_other rfl) (orH_r (setLH_other rfl) rfl)))))
theorem FLaw : tabF Try.prog 9 = some Try.f9 := by kernel_rfl
theorem lst_torphs {b : List (Nat × ABlk)} {N : Nat} {l : List Int} (h : l ≠ [] → lookB b N = some (.cells false (intsV l))) : Lst b (lstV N l) l.length (gi (intsV l)) := by
  cases l with
  | nil => exact .inl ⟨rfl, rfl⟩
  | cons a t =>
    refine .inr ⟨N, false, intsV (a :: t), rfl, h (by simp), ?_, rfl⟩
    simp only [okC, Bool.and_eq_true, List.all_eq_true]
    refine ⟨by simp [intsV], fun v hv => ?_⟩
    simp only [intsV, List.mem_map] at hv
    obtain ⟨n, _, rfl⟩ := hv
    rfl
theorem memG_list (l : List Int) (x : Int) : memG (gi (intsV l)) l.length 0 x = decide (x ∈ l) := by
  have h : memG (gi (intsV l)) l.length 0 x = true ↔ x ∈ l := by
    rw [memG_mem]
    constructor
    · rintro ⟨j, _, hj, he⟩
      have hj' : j < l.length := by omega
      have : gi (intsV l) j = l[j] := by simp [gi, intsV, hj']
      rw [← he, this]
      exact List.getElem_mem hj'
    · intro hx
      obtain ⟨j, hj, he⟩ := List.getElem_of_mem hx
      exact ⟨j, by omega, by omega, by simp [gi, intsV, hj, he]⟩
  cases hm : memG (gi (intsV l)) l.length 0 x with
  | true => rw [decide_eq_true (h.1 hm)]
  | false => rw [decide_eq_false (fun hx => by rw [h.2 hx] at hm; cases hm)]
theorem len_rowX (su : Int) (q : Nat) : ∀ (k : Nat) (r c : Int) (l : List Int), (rowX (stO su q) k r c l).length ≤ l.length + k
  | 0, r, c, l => by simp [rowX]
  | k + 1, r, c, l => by
    simp only [rowX]
    have := len_rowX su q k (r + 1) (c + 1) (stO su q r c l)
    have h : (stO su q r c l).length ≤ l.length + 1 := by unfold stO; split <;> simp
    omega
theorem len_rowsX : ∀ (l : List (Int × Nat)) (c : Int) (a : List Int), ((rowsX stO l c a).length : Int) ≤ a.length + (l.map (fun p => (p.2 : Int))).sum
  | [], c, a => by simp [rowsX]
  | (su, q) :: l, c, a => by
    simp only [rowsX, List.map_cons, List.sum_cons]
    have h1 := len_rowsX l (c + q) (rowX (stO su q) q 0 c a)
    have h2 := len_rowX su q q 0 c a
    omega
theorem torphs_len {s : SV} (he : s.err = 0) : s.torphs.length ≤ 200 := by
  have hs := small_of_err he
  obtain ⟨p0, p1, _⟩ := plain_small hs
  have hpv := PV_plain hs
  obtain ⟨w1, w2⟩ := hs.w
  obtain ⟨d1, d2⟩ := hs.d
  obtain ⟨f1, f2⟩ := hs.f
  have hn := hs.n
  have e := suitRows_sum s.g s.n 0 0 (fun j _ hj => hs.g j (by omega)) (by omega) (by omega)
  have hq : ((s.rows).map (fun p => (p.2 : Int))).sum ≤ 100 := by
    unfold SV.rows SV.tail
    simp only [List.map_append, List.sum_append, List.map_cons, List.map_nil, List.sum_cons, List.sum_nil]
    have key : ∀ k i : Nat, i + k ≤ s.n → ((suitRows s.g k i).map (fun p => (p.2 : Int))).sum ≤ 9 * k := by
      intro k
      induction k with
      | zero => intro i _; simp [suitRows]
      | succ k ih =>
        intro i hi
        simp only [suitRows, List.map_cons, List.sum_cons]
        have := hs.g i (by omega)
        have := ih (i + 1) (by omega)
        omega
    have := key s.n 0 (by omega)
    omega
  have := len_rowsX s.rows 0 []
  unfold SV.torphs
  rw [if_pos he]
  simp only [List.length_nil] at this
  omega
theorem body_ev (n : Nat) (hn : n ≤ 9223372036854775807) {ks : List Value} (hks : okC ks n = true) {u : Value}
    (hlen : aLen (tabT Try.prog) 22 u = some (.int .i64 n)) (hix : ∀ k : Nat, k < n → aIndexAddr (tabT Try.prog) 22 u (.int .i64 (k : Int)) = some (.pointer (some ⟨0, k, none⟩))) (kind a b : Int) :
    ∃ H', evFn (tabT Try.prog) (E RB n 8) (n + 300) kpT 9 Try.f9 [u, .int .i64 kind, .int .i64 a, .int .i64 b] ⟨1, [(0, .cells true ks)]⟩ = some (.bool true, H') := by
  obtain ⟨x, s, u1, u8, M, b1, h⟩ := open_set RB_free n hn hks hlen hix
  have hM1 : MI ⟨M + 1, (M, .cells false [.int .i64 s.p, u1, .int .i64 s.w, .int .i64 s.d, .int .i64 s.f, .int .i64 s.c, .int .i64 s.m, .int .i64 s.de, u8]) :: b1⟩ := h.mi.push _
  have l1 : Lst ((M, .cells false [.int .i64 s.p, u1, .int .i64 s.w, .int .i64 s.d, .int .i64 s.f, .int .i64 s.c, .int .i64 s.m, .int .i64 s.de, u8]) :: b1) u1 s.n s.g := h.f1.lst.push h.mi.2 _
  have l8 : Lst ((M, .cells false [.int .i64 s.p, u1, .int .i64 s.w, .int .i64 s.d, .int .i64 s.f, .int .i64 s.c, .int .i64 s.m, .int .i64 s.de, u8]) :: b1) u8 s.k s.h := h.f8.lst.push h.mi.2 _
  have see := h.see l1 l8
  have seeR := h.see (l1.ro hM1.1) (l8.ro hM1.1)
  have hM2 : MI (lstM ⟨M + 2, (M, .cells false [.int .i64 s.p, u1, .int .i64 s.w, .int .i64 s.d, .int .i64 s.f, .int .i64 s.c, .int .i64 s.m, .int .i64 s.de, u8]) :: b1⟩ s.torphs) := by
    have hm : MI ⟨M + 2, (M, .cells false [.int .i64 s.p, u1, .int .i64 s.w, .int .i64 s.d, .int .i64 s.f, .int .i64 s.c, .int .i64 s.m, .int .i64 s.de, u8]) :: b1⟩ := ⟨hM1.1, fun q hq => Nat.lt_succ_of_lt (hM1.2 q hq)⟩
    generalize s.torphs = l
    cases l with
    | nil => exact hm
    | cons a t => exact hm.push _
  have hlk : s.torphs ≠ [] → lookB (lstM ⟨M + 2, (M, .cells false [.int .i64 s.p, u1, .int .i64 s.w, .int .i64 s.d, .int .i64 s.f, .int .i64 s.c, .int .i64 s.m, .int .i64 s.de, u8]) :: b1⟩ s.torphs).bs (M + 2) = some (.cells false (intsV s.torphs)) := by
    intro hne
    generalize s.torphs = l at *
    cases l with
    | nil => exact absurd rfl hne
    | cons a t => simp [lstM, lookB]
  refine mirrors_core (L := n) (E RB n 8) 1 2 1 M _ _ b1 u kind a b s u1 u8 h.ns h.so h.mi h.f1 h.f8 h.err (plain_at RB_free n 6) (fun x y H h => evCall_hd (orH_l (canI x y H h)))
    ⟨fun M b j hs => evCall_hd (orH_r (canH_other rfl) (orH_l (setH_goL hs rfl rfl))),
     fun M b j x y hs => evCall_hd (orH_r (canH_other rfl) (orH_r (setH_other rfl) (orH_l (setH_goL hs rfl rfl)))),
     fun M b j hs => evCall_hd (orH_r (canH_other rfl) (orH_r (setH_other rfl) (orH_r (setH_other rfl) (orH_l (setH_goL hs rfl rfl))))),
     fun M b j hs => evCall_hd (orH_r (canH_other rfl) (orH_r (setH_other rfl) (orH_r (setH_other rfl) (orH_r (setH_other rfl) (orH_l (setH_goL hs rfl rfl))))))⟩
    see seeR (lstV (M + 2) s.torphs) (lstM ⟨M + 2, (M, .cells false [.int .i64 s.p, u1, .int .i64 s.w, .int .i64 s.d, .int .i64 s.f, .int .i64 s.c, .int .i64 s.m, .int .i64 s.de, u8]) :: b1⟩ s.torphs)
    (evCall_hd (orH_r (canH_other rfl) (orH_r (setH_other rfl) (orH_r (setH_other rfl) (orH_r (setH_other rfl) (orH_r (setH_other rfl) (orH_l (setLH_go see rfl rfl))))))))
    (by cases s.torphs <;> rfl)
    (fun x => ?_)
    ⟨_, evCall_hd (orH_r (canH_other rfl) (orH_r (setH_other rfl) (orH_r (setH_other rfl) (orH_r (setH_other rfl) (orH_r (setH_other rfl) (orH_r (setLH_other rfl) (awakeM _)))))))⟩
  have := in_at RB_free n 7 _ _ x (torphs_len h.err) hM2 (lst_torphs hlk)
  rw [memG_list] at this
  exact this

end

section
open Go.RowKit Go.ChangeShapes Go.WideShapes
set_option linter.unusedSimpArgs false
set_option linter.unusedVariables false

/-- A list of pairs of integers as it lies in a world. -/
def PL (w : World) (u : Value) (n : Nat) (g : Nat → Int) : Prop :=
  (n = 0 ∧ (u = .slice none 0 0 ∨ ∃ a cap, u = .slice (some a) 0 cap)) ∨
  (0 < n ∧ ∃ (b o cap : Nat) (e : TypeId) (fz : Nat × Nat) (ccs : Array Value), u = .slice (some ⟨b, o, none⟩) n cap ∧ n ≤ cap ∧ w.heap[b]? = some (.cells ccs e fz) ∧ ∀ j : Nat, j < 2 * n → ccs[o + j]? = some (.int .i64 (g j)))

theorem cell_spot {w : World} {a : Addr} {v : Value} (h : w.cell? a = some v) : a.spot = none ∧ ∃ c e fz, w.heap[a.block]? = some (.cells c e fz) ∧ c[a.off]? = some v := by
  unfold World.cell? at h
  split at h
  · rename_i c e fz hc
    split at h
    · cases h
    · rename_i hs
      exact ⟨by simpa using hs, c, e, fz, hc, h⟩
  · cases h

theorem cells_at {w : World} {base : Nat} {a : Addr} {n : Nat} {l : List Value} (h : w.cells? base a n = some l) (i : Nat) (hi : i < n) : w.cell? (a.add i) = l[i]? := by
  unfold World.cells? at h
  split at h
  · have := mapM_some_get h i i (by simp [hi])
    simpa using this
  · cases h

theorem take1 {l : List Value} {k : Nat} {a : Value} (h : (l.drop k).take 1 = [a]) : l[k]? = some a := by
  have := congrArg (fun (q : List Value) => q[0]?) h
  simpa using this

theorem add_add (a : Addr) (x y : Nat) (hx : x = 0 → a.spot = none) (h : a.spot = none) : (a.add x).add y = a.add (x + y) := by
  obtain ⟨b, o, sp⟩ := a
  simp only at h
  subst h
  simp [addr_add, Nat.add_assoc]

theorem pairs_open {H : Type} {enc : TypeId × Value → H} {P : Program} {w : World} {fuel : Nat} {t e ft : TypeId} {fs : Array Field} {f0 f1 : Field} {cs : List Value} {x : DataW H × List MemPlace}
    (ht : P.underlying t = some (.slice e)) (he : P.underlying e = some (.struct fs)) (hc : P.cellsOf e = 2)
    (h0 : fs[0]? = some f0) (t0 : f0.type = ft) (o0 : f0.offset = 0) (h1 : fs[1]? = some f1) (t1 : f1.type = ft) (o1 : f1.offset = 1)
    (hf : P.underlying ft = some (.int .i64)) (hcf : P.cellsOf ft = 1)
    (h : DataW.trod enc P w 0 (fun _ => true) true fuel t cs = some x) : ∃ (u : Value) (n : Nat) (g : Nat → Int), cs = [u] ∧ PL w u n g := by
  rcases DataW.trod_slice ht h with ⟨rfl, _⟩ | ⟨a, len, cap, elems, rest, m, _, rfl, _, _, hl, _, hlen, hel, _, _⟩
  · exact ⟨_, 0, fun _ => 0, rfl, .inl ⟨rfl, .inl rfl⟩⟩
  · by_cases hz : len = 0
    · subst hz
      exact ⟨_, 0, fun _ => 0, rfl, .inl ⟨rfl, .inr ⟨a, cap, rfl⟩⟩⟩
    · have each : ∀ i, i < len → ∃ z0 z1, w.cell? ((a.add (i * 2)).add 0) = some (.int .i64 z0) ∧ w.cell? ((a.add (i * 2)).add 1) = some (.int .i64 z1) := by
        intro i hi
        have h2 := hel i hi
        rw [hc, List.getElem?_eq_getElem (by omega), Option.bind_eq_some_iff] at h2
        obtain ⟨cs', hcs, hy⟩ := h2
        obtain ⟨xs, k, _, _, hcl, hxs, hall⟩ := DataW.trod_struct he hy
        have hs0 : 0 < fs.size := (Array.getElem?_eq_some_iff.1 h0).1
        have hs1 : 1 < fs.size := (Array.getElem?_eq_some_iff.1 h1).1
        have g0 := hall 0 f0 h0
        have g1 := hall 1 f1 h1
        rw [t0, o0, hcf, List.getElem?_eq_getElem (by omega)] at g0
        rw [t1, o1, hcf, List.getElem?_eq_getElem (by omega)] at g1
        obtain ⟨z0, e0, _⟩ := DataW.trod_int hf g0
        obtain ⟨z1, e1, _⟩ := DataW.trod_int hf g1
        refine ⟨z0, z1, ?_, ?_⟩
        · rw [cells_at hcs 0 (by omega)]; exact take1 e0
        · rw [cells_at hcs 1 (by omega)]; exact take1 e1
      have hsp : a.spot = none := by
        obtain ⟨z0, _, hz0, _⟩ := each 0 (by omega)
        have : (a.add (0 * 2)).add 0 = a := by simp [Addr.add]
        rw [this] at hz0
        exact (cell_spot hz0).1
      obtain ⟨b, o, sp⟩ := a
      simp only at hsp
      subst hsp
      have all : ∀ j, j < 2 * len → ∃ z, w.cell? ⟨b, o + j, none⟩ = some (.int .i64 z) := by
        intro j hj
        obtain ⟨z0, z1, e0, e1⟩ := each (j / 2) (by omega)
        simp only [addr_add, Nat.add_zero] at e0 e1
        rcases Nat.mod_two_eq_zero_or_one j with hm | hm
        · exact ⟨z0, by rw [show o + j = o + j / 2 * 2 by omega]; exact e0⟩
        · exact ⟨z1, by rw [show o + j = o + j / 2 * 2 + 1 by omega]; exact e1⟩
      obtain ⟨z, hz0⟩ := all 0 (by omega)
      obtain ⟨_, c, ty, fz, hb, _⟩ := cell_spot hz0
      simp only at hb
      have all2 : ∀ j, ∃ z, j < 2 * len → c[o + j]? = some (.int .i64 z) := by
        intro j
        by_cases hj : j < 2 * len
        · obtain ⟨z, hz⟩ := all j hj
          obtain ⟨_, c', e2, fz2, hb2, hv⟩ := cell_spot hz
          simp only at hb2 hv
          rw [hb] at hb2
          cases hb2
          exact ⟨z, fun _ => hv⟩
        · exact ⟨0, fun h => absurd h hj⟩
      refine ⟨_, len, fun j => Classical.choose (all2 j), rfl, .inr ⟨by omega, b, o, cap, ty, fz, c, rfl, hl, hb, fun j hj => Classical.choose_spec (all2 j) hj⟩⟩

/-- A list of pairs as the runs take it: of length 0, or with cells. -/
def limV : Nat → Value
  | 0 => .slice (some ⟨0, 0, some 1⟩) 0 0
  | n + 1 => .slice (some ⟨0, 0, none⟩) (n + 1) 2

theorem PL.rel {w : World} {u : Value} {n : Nat} {g : Nat → Int} (h : PL w u n g) (h0 : ∃ c e fz, w.heap[0]? = some (.cells c e fz)) : ∃ x : Nat × Nat × Nat,
    (∀ (ρ : BMap), ρ 0 = some x → VRel ρ (limV n) u) ∧ (∀ (ρ : BMap), BRel ρ w.heap.size w x (.cells true (intsL g (2 * n)))) := by
  have lt : ∀ k o, w.heap[k]? = some o → k < w.heap.size := fun k o ho => (Array.getElem?_eq_some_iff.1 ho).1
  rcases h with ⟨rfl, hu⟩ | ⟨hn, b, o, cap, e, fz, ccs, rfl, hl, hb, hc⟩
  · obtain ⟨c, e, fz, hc⟩ := h0
    refine ⟨(0, 0, 0), fun ρ _ => ?_, fun ρ => ⟨c, e, fz, hc, fun j v hv => by simp [intsL] at hv, ?_, by simp [intsL]⟩⟩
    · rcases hu with rfl | ⟨a, cap, rfl⟩
      · exact .rnil
      · exact .rnone
    · simpa using lt _ _ hc
  · obtain ⟨m, rfl⟩ : ∃ m, n = m + 1 := ⟨n - 1, by omega⟩
    refine ⟨(b, o, cap * 2), fun ρ hi => ?_, fun ρ => ⟨ccs, e, fz, hb, fun j v hv => ?_, ?_, by rw [intsL_len]; show 2 * (m + 1) ≤ cap * 2; omega⟩⟩
    · exact VRel.slice (off := 0) hi hl (by omega)
    · have hj : j < 2 * (m + 1) := by
        have := (List.getElem?_eq_some_iff.1 hv).1
        rwa [intsL_len] at this
      rw [intsL_at _ _ _ hj] at hv
      cases hv
      exact ⟨_, hc j hj, .int _ _⟩
    · simpa using lt _ _ hb

end

section
open Go.RowKit Go.ChangeShapes Go.WideShapes
set_option linter.unusedSimpArgs false
set_option linter.unusedVariables false

/-- A list of integers as it lies in a world. -/
def IL (w : World) (u : Value) (n : Nat) (g : Nat → Int) : Prop :=
  (n = 0 ∧ (u = .slice none 0 0 ∨ ∃ a cap, u = .slice (some a) 0 cap)) ∨
  (0 < n ∧ ∃ (b o cap : Nat) (e : TypeId) (fz : Nat × Nat) (ccs : Array Value), u = .slice (some ⟨b, o, none⟩) n cap ∧ n ≤ cap ∧ cap ≤ maxLen ∧ w.heap[b]? = some (.cells ccs e fz) ∧ ∀ j : Nat, j < n → ccs[o + j]? = some (.int .i64 (g j)))

theorem ints_open {H : Type} {enc : TypeId × Value → H} {P : Program} {w : World} {fuel : Nat} {t e : TypeId} {cs : List Value} {x : DataW H × List MemPlace} (ht : P.underlying t = some (.slice e)) (he : P.underlying e = some (.int .i64)) (hc : P.cellsOf e = 1)
    (h : DataW.trod enc P w 0 (fun _ => true) true fuel t cs = some x) : ∃ (u : Value) (n : Nat) (g : Nat → Int), cs = [u] ∧ IL w u n g := by
  rcases open_ints ht he hc h with ⟨rfl, _⟩ | ⟨a, len, cap, zs, rfl, _, hl, hmx, hz, _, hcell, _⟩
  · exact ⟨_, 0, fun _ => 0, rfl, .inl ⟨rfl, .inl rfl⟩⟩
  · have hz' : zs.length = cap := by simpa using hz
    refine ⟨_, len, fun j => zs.getD j 0, rfl, ?_⟩
    by_cases h0 : len = 0
    · subst h0
      exact .inl ⟨rfl, .inr ⟨a, cap, rfl⟩⟩
    · have hfirst := hcell 0 (by omega)
      have ha0 : a.add 0 = a := by simp [Addr.add]
      rw [ha0] at hfirst
      obtain ⟨hs, c, e', fz, hb, _⟩ := cell_spot hfirst
      obtain ⟨b, o, sp⟩ := a
      simp only at hs hb
      subst hs
      refine .inr ⟨by omega, b, o, cap, e', fz, c, rfl, hl, hmx, hb, fun j hj => ?_⟩
      have hj' := hcell j (by omega)
      rw [addr_add] at hj'
      obtain ⟨_, c', e2, fz2, hb2, hv⟩ := cell_spot hj'
      simp only at hb2 hv
      rw [hb] at hb2
      cases hb2
      exact hv

/-- A list of integers as the runs take it, of block 0. -/
def intV : Nat → Value
  | 0 => .slice (some ⟨0, 0, some 1⟩) 0 0
  | n + 1 => .slice (some ⟨0, 0, none⟩) (n + 1) 1

theorem IL.max {w : World} {u : Value} {n : Nat} {g : Nat → Int} (h : IL w u n g) : n ≤ maxLen := by
  rcases h with ⟨rfl, _⟩ | ⟨_, _, _, _, _, _, _, _, h1, h2, _⟩
  · exact Nat.zero_le _
  · exact Nat.le_trans h1 h2

theorem IL.rel {w : World} {u : Value} {n : Nat} {g : Nat → Int} (h : IL w u n g) (h0 : ∃ c e fz, w.heap[0]? = some (.cells c e fz)) : ∃ x : Nat × Nat × Nat,
    (∀ (ρ : BMap), ρ 0 = some x → VRel ρ (intV n) u) ∧ (∀ (ρ : BMap), BRel ρ w.heap.size w x (.cells true (intsL g n))) := by
  have lt : ∀ k o, w.heap[k]? = some o → k < w.heap.size := fun k o ho => (Array.getElem?_eq_some_iff.1 ho).1
  rcases h with ⟨rfl, hu⟩ | ⟨hn, b, o, cap, e, fz, ccs, rfl, hl, _, hb, hc⟩
  · obtain ⟨c, e, fz, hc⟩ := h0
    refine ⟨(0, 0, 0), fun ρ _ => ?_, fun ρ => ⟨c, e, fz, hc, fun j v hv => by simp [intsL] at hv, ?_, by simp [intsL]⟩⟩
    · rcases hu with rfl | ⟨a, cap, rfl⟩
      · exact .rnil
      · exact .rnone
    · simpa using lt _ _ hc
  · obtain ⟨m, rfl⟩ : ∃ m, n = m + 1 := ⟨n - 1, by omega⟩
    refine ⟨(b, o, cap * 1), fun ρ hi => ?_, fun ρ => ⟨ccs, e, fz, hb, fun j v hv => ?_, ?_, by rw [intsL_len]; show m + 1 ≤ cap * 1; omega⟩⟩
    · exact VRel.slice (off := 0) hi hl (by omega)
    · have hj : j < m + 1 := by
        have := (List.getElem?_eq_some_iff.1 hv).1
        rwa [intsL_len] at this
      rw [intsL_at _ _ _ hj] at hv
      cases hv
      exact ⟨_, hc j hj, .int _ _⟩
    · simpa using lt _ _ hb

end

end Go.Proofs.Ytjginpeoblilpaa
