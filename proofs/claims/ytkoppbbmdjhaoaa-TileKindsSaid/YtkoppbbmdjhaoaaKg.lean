/-
  What is proved: what tile.face, and both Kind and Red, answer for every set and every number.
-/
import Derived.Test.YtkoppbbmdjhaoaaKf
namespace Go.Proofs.Ytkoppbbmdjhaoaa
open Go.RowKit
set_option linter.unusedSimpArgs false

theorem F85 : tabF Try.prog 85 = some Try.f85 := by kernel_rfl
theorem F28 : tabF Try.prog 28 = some Try.f28 := by kernel_rfl
theorem F29 : tabF Try.prog 29 = some Try.f29 := by kernel_rfl
theorem F30 : tabF Try.prog 30 = some Try.f30 := by kernel_rfl
theorem F31 : tabF Try.prog 31 = some Try.f31 := by kernel_rfl

theorem Z84 : (tabT Try.prog 84).map (fun y => (y.size, y.zero)) = some (2, .agg #[.int .i64 0, .bool false]) := by kernel_rfl
theorem G84 : (tabT Try.prog 84).map (fun y => aggD y.desc) = some true := by kernel_rfl
theorem T84 : ∃ b d, aggD d = true ∧ tabT Try.prog 84 = some ⟨2, b, .agg #[.int .i64 0, .bool false], d⟩ := by
  have h := Z84
  have h2 := G84
  cases ht : tabT Try.prog 84 with
  | none => rw [ht] at h; cases h
  | some y =>
    rw [ht] at h h2
    cases y
    simp only [Option.map_some, Option.some.injEq, Prod.mk.injEq] at h h2
    obtain ⟨rfl, rfl⟩ := h
    exact ⟨_, _, h2, rfl⟩
theorem ST84 (H : AH) (i : Nat) (a : Int) (b : Bool) : aStore (tabT Try.prog) H 84 (.pointer (some ⟨i, 0, none⟩)) (.agg #[.int .i64 a, .bool b]) =
    (match lookB H.bs i with
    | some (.cells false cs) => if Nat.ble 2 cs.length then some { H with bs := setB H.bs i (.cells false (putCells cs 0 [.int .i64 a, .bool b])) } else none
    | _ => none) := by
  obtain ⟨_, _, _, ht⟩ := T84
  simp only [aStore, ht]
  cases hl : lookB H.bs i with
  | none => rfl
  | some k =>
    cases k with
    | cells ro cs => cases ro <;> simp [Value.cells, cellV]
    | _ => rfl
theorem LD84 (H : AH) (i : Nat) : aLoad (tabT Try.prog) H 84 (.pointer (some ⟨i, 0, none⟩)) =
    (match lookB H.bs i with
    | some (.cells _ cs) => (takeCells cs 0 2).map (fun l => .agg l.toArray)
    | _ => none) := by
  obtain ⟨_, _, hd, ht⟩ := T84
  simp only [aLoad, ht, hd, if_true]
  cases hl : lookB H.bs i with
  | none => rfl
  | some k => cases k <;> simp [hd]
theorem BD84 (a : Int) (b : Bool) : aBuild (tabT Try.prog) 84 [(0, .int .i64 a), (1, .bool b)] = some (.agg #[.int .i64 a, .bool b]) := by kernel_rfl
theorem BD84k (a : Int) : aBuild (tabT Try.prog) 84 [(0, .int .i64 a)] = some (.agg #[.int .i64 a, .bool false]) := by kernel_rfl
theorem FD84_0 (a : Int) (b : Bool) : aField (tabT Try.prog) 84 (.agg #[.int .i64 a, .bool b]) 0 = some (.int .i64 a) := by kernel_rfl
theorem FD84_1 (a : Int) (b : Bool) : aField (tabT Try.prog) 84 (.agg #[.int .i64 a, .bool b]) 1 = some (.bool b) := by kernel_rfl

/-- The number of the face of a tile, and whether it is red. -/
def SV.faceK (s : SV) (t : Int) : Int := if s.plain * s.c ≤ t then s.plain + (t - s.plain * s.c) else t.tdiv s.c
def SV.faceR (s : SV) (t : Int) : Bool := !decide (s.plain * s.c ≤ t) && (decide (t.tmod s.c = 0) && hasG s.h s.k (t.tdiv s.c))
def SV.inB (s : SV) (t : Int) : Bool := decide (0 ≤ t) && decide (t < s.rsize)
def SV.kindOf (s : SV) (t : Int) : Int := if s.inB t then s.faceK t else -1
def SV.redOf (s : SV) (t : Int) : Bool := s.inB t && s.faceR t
def faceV (k : Int) (r : Bool) : Value := .agg #[.int .i64 k, .bool r]

structure SV.Tile (s : SV) (t : Int) : Prop where
  c : 1 ≤ s.c ∧ s.c ≤ 4
  p : 0 ≤ s.plain ∧ s.plain ≤ 34
  a : 0 ≤ s.plain * s.c ∧ s.plain * s.c ≤ 136
  z : s.size = s.plain * s.c + s.f ∧ 0 ≤ s.f ∧ s.f ≤ 8
  t : 0 ≤ t ∧ t < s.size

theorem size_bounds {s : SV} (h : s.err = 0) : (1 ≤ s.c ∧ s.c ≤ 4) ∧ (0 ≤ s.plain ∧ s.plain ≤ 34) ∧ (0 ≤ s.plain * s.c ∧ s.plain * s.c ≤ 136) ∧ (s.size = s.plain * s.c + s.f ∧ 0 ≤ s.f ∧ s.f ≤ 8) := by
  have hs := small_of_err h
  obtain ⟨p0, p1, _⟩ := plain_small hs
  have hf := hs.f
  have hc : 1 ≤ s.c ∧ s.c ≤ 4 := by
    obtain ⟨_, h⟩ := firstE_step (m := 11) (i := 0) h (by simp [ruleE])
    obtain ⟨_, h⟩ := firstE_step (m := 10) (i := 1) h (by simp [ruleE])
    obtain ⟨_, h⟩ := firstE_step (m := 9) (i := 2) h (by simp [ruleE])
    obtain ⟨_, h⟩ := firstE_step (m := 8) (i := 3) h (by simp [ruleE])
    obtain ⟨_, h⟩ := firstE_step (m := 7) (i := 4) h (by simp [ruleE])
    obtain ⟨_, h⟩ := firstE_step (m := 6) (i := 5) h (by simp [ruleE])
    obtain ⟨c6, _⟩ := firstE_step (m := 5) (i := 6) h (by simp [ruleE])
    simp only [ruleB] at c6
    exact btw_iff.1 c6
  have ha : 0 ≤ s.plain * s.c ∧ s.plain * s.c ≤ 136 := by
    rcases (by omega : s.c = 1 ∨ s.c = 2 ∨ s.c = 3 ∨ s.c = 4) with e | e | e | e <;> rw [e] <;> omega
  refine ⟨hc, ⟨p0, p1⟩, ha, ?_, hf⟩
  unfold SV.size
  rw [wrapI_small (n := s.plain * s.c) (by omega) (by omega), wrapI_small (by omega) (by omega)]

theorem rsize_bounds (s : SV) : 0 ≤ s.rsize ∧ s.rsize ≤ 144 := by
  unfold SV.rsize
  split
  · rename_i h
    obtain ⟨_, _, ha, hz, hf⟩ := size_bounds h
    omega
  · omega

theorem tile_of {s : SV} {t : Int} (h : s.inB t = true) : s.err = 0 ∧ s.Tile t := by
  simp only [SV.inB, Bool.and_eq_true, decide_eq_true_eq] at h
  obtain ⟨h0, h1⟩ := h
  unfold SV.rsize at h1
  split at h1
  · rename_i he
    obtain ⟨hc, hp, ha, hz⟩ := size_bounds he
    exact ⟨he, hc, hp, ha, hz, h0, h1⟩
  · omega

theorem btw_inB (s : SV) (t : Int) : btw t 0 (wrapI .i64 (s.rsize - 1)) = s.inB t := by
  have hb := rsize_bounds s
  rw [wrapI_small (by omega) (by omega)]
  unfold btw SV.inB
  by_cases c : t ≤ s.rsize - 1
  · have c' : t < s.rsize := by omega
    simp [c, c']
  · have c' : ¬ t < s.rsize := by omega
    simp [c, c']

theorem tdiv_small {t c : Int} (h0 : 0 ≤ t) (h1 : t < 1000) (hc : 1 ≤ c) : wrapI .i64 (t.tdiv c) = t.tdiv c ∧ 0 ≤ t.tdiv c := by
  have a : 0 ≤ t.tdiv c := Int.tdiv_nonneg h0 (by omega)
  have b : t.tdiv c ≤ t := Int.tdiv_le_self _ h0
  exact ⟨wrapI_small (by omega) (by omega), a⟩

set_option maxRecDepth 10000 in
set_option maxHeartbeats 8000000 in
theorem face_ev (call : Value → List Value → AH → Option (Value × AH)) (s : SV) (t : Int) (h75 : ∀ (H : AH), lookB H.bs 0 = some (.ints s.g) → lookB H.bs 1 = some (.ints s.h) → call (.func (.func 75) #[] #[]) [s.val] H = some (.int .i64 s.plain, H)) (h110 : ∀ (i n : Nat) (g : Nat → Int) (x : Int) (H : AH), lookB H.bs i = some (.ints g) → call (.func (.func 110) #[] #[]) [.slice (some ⟨i, 0, some 1⟩) n 0, .int .i64 x] H = some (.bool (hasG g n x), H)) (hT : s.Tile t) :
    ∃ H', evFn (tabT Try.prog) call 300 kpT 85 Try.f85 [s.val, .int .i64 t] s.hp = some (faceV (s.faceK t) (s.faceR t), H') := by
  obtain ⟨_, _, hd84, t84⟩ := T84
  obtain ⟨hc, hp, ha, hz, ht⟩ := hT
  obtain ⟨w4, _⟩ := tdiv_small (c := s.c) (t := t) (by omega) (by omega) hc.1
  have w1 : wrapI .i64 (s.plain * s.c) = s.plain * s.c := wrapI_small (by omega) (by omega)
  have w2 : wrapI .i64 (t - s.plain * s.c) = t - s.plain * s.c := wrapI_small (by omega) (by omega)
  have w3 : wrapI .i64 (s.plain + (t - s.plain * s.c)) = s.plain + (t - s.plain * s.c) := wrapI_small (by omega) (by omega)
  have c0 : ¬ s.c = 0 := by omega
  have h110' := fun x H => h110 1 s.k s.h x H
  unfold SV.faceK SV.faceR faceV
  simp only [SV.val] at h75
  by_cases c1 : s.plain * s.c ≤ t
  · have c1' : ¬ t < s.plain * s.c := by omega
    simp only [evFn, Try.f85, SV.val, SV.hp]
    simp [ec_skip, ec_label, ek_reg, ek_draw, ek_seq, ec_cond, ek_block, ec_loop, ec_exit, ec_ret, ek_nil, ek_op, opK_some, regK_some, seqK_normal, seqK_exit, seqK_ret, blockK_normal, blockK_exit, blockK_ret, evOp, vOp, hOp, aWanted, aY, boolOf, opd, putT, closedV, undef, aBin, intOp, sameK, mapO, joinR, hasAddr, pushB, aAlloc, Value.cells, T3, T4, T22, FA24_0, FA24_1, FA24_2, FA24_3, FA24_4, FA24_5, FA24_6, FA24_7, FA24_8, LD3, LD4, LD22, LD27, LDr, LD24, LEN22, IA22, cellAt, lookB, Nat.beq_eq, takeCells, finF, takeM, resV, getT_set, setT_length, getT, setT, h75, h110', t84, ST84, LD84, BD84, BD84k, partsO, setB, putCells, w1, w2, w3, w4, c0, c1, c1', cellV, hasAddr]
  · have c1' : t < s.plain * s.c := by omega
    by_cases c2 : t.tmod s.c = 0
    · have c2' : (t.tmod s.c == 0) = true := by simpa using c2
      simp only [evFn, Try.f85, SV.val, SV.hp]
      simp [ec_skip, ec_label, ek_reg, ek_draw, ek_seq, ec_cond, ek_block, ec_loop, ec_exit, ec_ret, ek_nil, ek_op, opK_some, regK_some, seqK_normal, seqK_exit, seqK_ret, blockK_normal, blockK_exit, blockK_ret, evOp, vOp, hOp, aWanted, aY, boolOf, opd, putT, closedV, undef, aBin, intOp, sameK, mapO, joinR, hasAddr, pushB, aAlloc, Value.cells, T3, T4, T22, FA24_0, FA24_1, FA24_2, FA24_3, FA24_4, FA24_5, FA24_6, FA24_7, FA24_8, LD3, LD4, LD22, LD27, LDr, LD24, LEN22, IA22, cellAt, lookB, Nat.beq_eq, takeCells, finF, takeM, resV, getT_set, setT_length, getT, setT, h75, h110', t84, ST84, LD84, BD84, BD84k, partsO, setB, putCells, w1, w2, w3, w4, c0, c1, c1', c2, c2', cellV, hasAddr]
    · have c2' : (t.tmod s.c == 0) = false := by simpa using c2
      simp only [evFn, Try.f85, SV.val, SV.hp]
      simp [ec_skip, ec_label, ek_reg, ek_draw, ek_seq, ec_cond, ek_block, ec_loop, ec_exit, ec_ret, ek_nil, ek_op, opK_some, regK_some, seqK_normal, seqK_exit, seqK_ret, blockK_normal, blockK_exit, blockK_ret, evOp, vOp, hOp, aWanted, aY, boolOf, opd, putT, closedV, undef, aBin, intOp, sameK, mapO, joinR, hasAddr, pushB, aAlloc, Value.cells, T3, T4, T22, FA24_0, FA24_1, FA24_2, FA24_3, FA24_4, FA24_5, FA24_6, FA24_7, FA24_8, LD3, LD4, LD22, LD27, LDr, LD24, LEN22, IA22, cellAt, lookB, Nat.beq_eq, takeCells, finF, takeM, resV, getT_set, setT_length, getT, setT, h75, h110', t84, ST84, LD84, BD84, BD84k, partsO, setB, putCells, w1, w2, w3, w4, c0, c1, c1', c2, c2', cellV, hasAddr]

set_option maxRecDepth 10000 in
set_option maxHeartbeats 8000000 in
theorem kind_ev (call : Value → List Value → AH → Option (Value × AH)) (s : SV) (t : Int) (h21 : ∀ (H : AH), lookB H.bs 0 = some (.ints s.g) → lookB H.bs 1 = some (.ints s.h) → call (.func (.func 21) #[] #[]) [s.val] H = some (.int .i64 s.rsize, H)) (h72 : ∀ (n l m : Int) (H : AH), call (.func (.func 72) #[] #[]) [.int .i64 n, .int .i64 l, .int .i64 m] H = some (.bool (btw n l m), H)) (h85 : ∀ (H : AH), s.inB t = true → lookB H.bs 0 = some (.ints s.g) → lookB H.bs 1 = some (.ints s.h) → call (.func (.func 85) #[] #[]) [s.val, .int .i64 t] H = some (faceV (s.faceK t) (s.faceR t), H)) :
    ∃ H', evFn (tabT Try.prog) call 300 kpT 28 Try.f28 [s.val, .int .i64 t] s.hp = some (.int .i64 (s.kindOf t), H') := by
  unfold SV.kindOf
  simp only [SV.val, faceV] at h21 h85
  cases hb : s.inB t with
  | true =>
    have h85' := fun H => h85 H hb
    simp only [evFn, Try.f28, SV.val, SV.hp]
    simp [ec_skip, ec_label, ek_reg, ek_draw, ek_seq, ec_cond, ek_block, ec_loop, ec_exit, ec_ret, ek_nil, ek_op, opK_some, regK_some, seqK_normal, seqK_exit, seqK_ret, blockK_normal, blockK_exit, blockK_ret, evOp, vOp, hOp, aWanted, aY, boolOf, opd, putT, closedV, undef, aBin, intOp, sameK, mapO, joinR, hasAddr, pushB, aAlloc, Value.cells, T3, T4, T22, FA24_0, FA24_1, FA24_2, FA24_3, FA24_4, FA24_5, FA24_6, FA24_7, FA24_8, LD3, LD4, LD22, LD27, LDr, LD24, LEN22, IA22, cellAt, lookB, Nat.beq_eq, takeCells, finF, takeM, resV, getT_set, setT_length, getT, setT, h21, h72, btw_inB, hb, h85', FD84_0, FD84_1]
  | false =>
    simp only [evFn, Try.f28, SV.val, SV.hp]
    simp [ec_skip, ec_label, ek_reg, ek_draw, ek_seq, ec_cond, ek_block, ec_loop, ec_exit, ec_ret, ek_nil, ek_op, opK_some, regK_some, seqK_normal, seqK_exit, seqK_ret, blockK_normal, blockK_exit, blockK_ret, evOp, vOp, hOp, aWanted, aY, boolOf, opd, putT, closedV, undef, aBin, intOp, sameK, mapO, joinR, hasAddr, pushB, aAlloc, Value.cells, T3, T4, T22, FA24_0, FA24_1, FA24_2, FA24_3, FA24_4, FA24_5, FA24_6, FA24_7, FA24_8, LD3, LD4, LD22, LD27, LDr, LD24, LEN22, IA22, cellAt, lookB, Nat.beq_eq, takeCells, finF, takeM, resV, getT_set, setT_length, getT, setT, h21, h72, btw_inB, hb, FD84_0, FD84_1]

set_option maxRecDepth 10000 in
set_option maxHeartbeats 8000000 in
theorem red_ev (call : Value → List Value → AH → Option (Value × AH)) (s : SV) (t : Int) (h21 : ∀ (H : AH), lookB H.bs 0 = some (.ints s.g) → lookB H.bs 1 = some (.ints s.h) → call (.func (.func 21) #[] #[]) [s.val] H = some (.int .i64 s.rsize, H)) (h72 : ∀ (n l m : Int) (H : AH), call (.func (.func 72) #[] #[]) [.int .i64 n, .int .i64 l, .int .i64 m] H = some (.bool (btw n l m), H)) (h85 : ∀ (H : AH), s.inB t = true → lookB H.bs 0 = some (.ints s.g) → lookB H.bs 1 = some (.ints s.h) → call (.func (.func 85) #[] #[]) [s.val, .int .i64 t] H = some (faceV (s.faceK t) (s.faceR t), H)) :
    ∃ H', evFn (tabT Try.prog) call 300 kpT 30 Try.f30 [s.val, .int .i64 t] s.hp = some (.bool (s.redOf t), H') := by
  unfold SV.redOf
  simp only [SV.val, faceV] at h21 h85
  cases hb : s.inB t with
  | true =>
    have h85' := fun H => h85 H hb
    simp only [evFn, Try.f30, SV.val, SV.hp]
    simp [ec_skip, ec_label, ek_reg, ek_draw, ek_seq, ec_cond, ek_block, ec_loop, ec_exit, ec_ret, ek_nil, ek_op, opK_some, regK_some, seqK_normal, seqK_exit, seqK_ret, blockK_normal, blockK_exit, blockK_ret, evOp, vOp, hOp, aWanted, aY, boolOf, opd, putT, closedV, undef, aBin, intOp, sameK, mapO, joinR, hasAddr, pushB, aAlloc, Value.cells, T3, T4, T22, FA24_0, FA24_1, FA24_2, FA24_3, FA24_4, FA24_5, FA24_6, FA24_7, FA24_8, LD3, LD4, LD22, LD27, LDr, LD24, LEN22, IA22, cellAt, lookB, Nat.beq_eq, takeCells, finF, takeM, resV, getT_set, setT_length, getT, setT, h21, h72, btw_inB, hb, h85', FD84_0, FD84_1]
  | false =>
    simp only [evFn, Try.f30, SV.val, SV.hp]
    simp [ec_skip, ec_label, ek_reg, ek_draw, ek_seq, ec_cond, ek_block, ec_loop, ec_exit, ec_ret, ek_nil, ek_op, opK_some, regK_some, seqK_normal, seqK_exit, seqK_ret, blockK_normal, blockK_exit, blockK_ret, evOp, vOp, hOp, aWanted, aY, boolOf, opd, putT, closedV, undef, aBin, intOp, sameK, mapO, joinR, hasAddr, pushB, aAlloc, Value.cells, T3, T4, T22, FA24_0, FA24_1, FA24_2, FA24_3, FA24_4, FA24_5, FA24_6, FA24_7, FA24_8, LD3, LD4, LD22, LD27, LDr, LD24, LEN22, IA22, cellAt, lookB, Nat.beq_eq, takeCells, finF, takeM, resV, getT_set, setT_length, getT, setT, h21, h72, btw_inB, hb, FD84_0, FD84_1]

set_option maxRecDepth 10000 in
set_option maxHeartbeats 8000000 in
theorem rkind_ev (call : Value → List Value → AH → Option (Value × AH)) (s : SV) (t : Int) (h22 : ∀ (H : AH), lookB H.bs 0 = some (.ints s.g) → lookB H.bs 1 = some (.ints s.h) → call (.func (.func 22) #[] #[]) [s.val] H = some (.int .i64 s.rsize, H)) (h79 : ∀ (H : AH), lookB H.bs 0 = some (.ints s.g) → lookB H.bs 1 = some (.ints s.h) → call (.func (.func 79) #[] #[]) [s.val] H = some (.int .i64 s.plain, H)) :
    ∃ H', evFn (tabT Try.prog) call 300 kpT 29 Try.f29 [s.val, .int .i64 t] s.hp = some (.int .i64 (s.kindOf t), H') := by
  unfold SV.kindOf
  simp only [SV.val] at h22 h79
  by_cases c0 : t < 0
  · have hb : s.inB t = false := by simp [SV.inB]; omega
    simp only [evFn, Try.f29, SV.val, SV.hp]
    simp [ec_skip, ec_label, ek_reg, ek_draw, ek_seq, ec_cond, ek_block, ec_loop, ec_exit, ec_ret, ek_nil, ek_op, opK_some, regK_some, seqK_normal, seqK_exit, seqK_ret, blockK_normal, blockK_exit, blockK_ret, evOp, vOp, hOp, aWanted, aY, boolOf, opd, putT, closedV, undef, aBin, intOp, sameK, mapO, joinR, hasAddr, pushB, aAlloc, Value.cells, T3, T4, T22, FA24_0, FA24_1, FA24_2, FA24_3, FA24_4, FA24_5, FA24_6, FA24_7, FA24_8, LD3, LD4, LD22, LD27, LDr, LD24, LEN22, IA22, cellAt, lookB, Nat.beq_eq, takeCells, finF, takeM, resV, getT_set, setT_length, getT, setT, h22, c0, hb]
  have c0' : 0 ≤ t := by omega
  by_cases c1 : s.rsize ≤ t
  · have hb : s.inB t = false := by simp [SV.inB]; omega
    simp only [evFn, Try.f29, SV.val, SV.hp]
    simp [ec_skip, ec_label, ek_reg, ek_draw, ek_seq, ec_cond, ek_block, ec_loop, ec_exit, ec_ret, ek_nil, ek_op, opK_some, regK_some, seqK_normal, seqK_exit, seqK_ret, blockK_normal, blockK_exit, blockK_ret, evOp, vOp, hOp, aWanted, aY, boolOf, opd, putT, closedV, undef, aBin, intOp, sameK, mapO, joinR, hasAddr, pushB, aAlloc, Value.cells, T3, T4, T22, FA24_0, FA24_1, FA24_2, FA24_3, FA24_4, FA24_5, FA24_6, FA24_7, FA24_8, LD3, LD4, LD22, LD27, LDr, LD24, LEN22, IA22, cellAt, lookB, Nat.beq_eq, takeCells, finF, takeM, resV, getT_set, setT_length, getT, setT, h22, c0, c0', c1, hb]
  have c1' : t < s.rsize := by omega
  have hb : s.inB t = true := by simp [SV.inB]; omega
  obtain ⟨_, hc, hp, ha, hz, ht⟩ := tile_of hb
  obtain ⟨w4, _⟩ := tdiv_small (c := s.c) (t := t) (by omega) (by omega) hc.1
  have w1 : wrapI .i64 (s.plain * s.c) = s.plain * s.c := wrapI_small (by omega) (by omega)
  have w2 : wrapI .i64 (s.plain + t) = s.plain + t := wrapI_small (by omega) (by omega)
  have w3 : wrapI .i64 (s.plain + t - s.plain * s.c) = s.plain + (t - s.plain * s.c) := by rw [wrapI_small (by omega) (by omega)]; omega
  have d0 : ¬ s.c = 0 := by omega
  unfold SV.faceK
  by_cases c2 : s.plain * s.c ≤ t
  · simp only [evFn, Try.f29, SV.val, SV.hp]
    simp [ec_skip, ec_label, ek_reg, ek_draw, ek_seq, ec_cond, ek_block, ec_loop, ec_exit, ec_ret, ek_nil, ek_op, opK_some, regK_some, seqK_normal, seqK_exit, seqK_ret, blockK_normal, blockK_exit, blockK_ret, evOp, vOp, hOp, aWanted, aY, boolOf, opd, putT, closedV, undef, aBin, intOp, sameK, mapO, joinR, hasAddr, pushB, aAlloc, Value.cells, T3, T4, T22, FA24_0, FA24_1, FA24_2, FA24_3, FA24_4, FA24_5, FA24_6, FA24_7, FA24_8, LD3, LD4, LD22, LD27, LDr, LD24, LEN22, IA22, cellAt, lookB, Nat.beq_eq, takeCells, finF, takeM, resV, getT_set, setT_length, getT, setT, h22, h79, c0, c0', c1, c1', hb, w1, w2, w3, w4, d0, c2]
  · have c2' : t < s.plain * s.c := by omega
    simp only [evFn, Try.f29, SV.val, SV.hp]
    simp [ec_skip, ec_label, ek_reg, ek_draw, ek_seq, ec_cond, ek_block, ec_loop, ec_exit, ec_ret, ek_nil, ek_op, opK_some, regK_some, seqK_normal, seqK_exit, seqK_ret, blockK_normal, blockK_exit, blockK_ret, evOp, vOp, hOp, aWanted, aY, boolOf, opd, putT, closedV, undef, aBin, intOp, sameK, mapO, joinR, hasAddr, pushB, aAlloc, Value.cells, T3, T4, T22, FA24_0, FA24_1, FA24_2, FA24_3, FA24_4, FA24_5, FA24_6, FA24_7, FA24_8, LD3, LD4, LD22, LD27, LDr, LD24, LEN22, IA22, cellAt, lookB, Nat.beq_eq, takeCells, finF, takeM, resV, getT_set, setT_length, getT, setT, h22, h79, c0, c0', c1, c1', hb, w1, w2, w3, w4, d0, c2, c2']

set_option maxRecDepth 10000 in
set_option maxHeartbeats 8000000 in
theorem rred_ev (call : Value → List Value → AH → Option (Value × AH)) (s : SV) (t : Int) (h29 : ∀ (H : AH), lookB H.bs 0 = some (.ints s.g) → lookB H.bs 1 = some (.ints s.h) → call (.func (.func 29) #[] #[]) [s.val, .int .i64 t] H = some (.int .i64 (s.kindOf t), H)) (h79 : ∀ (H : AH), lookB H.bs 0 = some (.ints s.g) → lookB H.bs 1 = some (.ints s.h) → call (.func (.func 79) #[] #[]) [s.val] H = some (.int .i64 s.plain, H)) (h86 : ∀ (i n : Nat) (g : Nat → Int) (x : Int) (H : AH), lookB H.bs i = some (.ints g) → call (.func (.func 86) #[] #[]) [.slice (some ⟨i, 0, some 1⟩) n 0, .int .i64 x] H = some (.bool (hasG g n x), H)) :
    ∃ H', evFn (tabT Try.prog) call 300 kpT 31 Try.f31 [s.val, .int .i64 t] s.hp = some (.bool (s.redOf t), H') := by
  have h86' := fun x H => h86 1 s.k s.h x H
  simp only [SV.val] at h29 h79
  unfold SV.redOf
  cases hb : s.inB t with
  | false =>
    have hk : s.kindOf t = -1 := by simp [SV.kindOf, hb]
    simp only [hk] at h29
    simp only [evFn, Try.f31, SV.val, SV.hp]
    simp [ec_skip, ec_label, ek_reg, ek_draw, ek_seq, ec_cond, ek_block, ec_loop, ec_exit, ec_ret, ek_nil, ek_op, opK_some, regK_some, seqK_normal, seqK_exit, seqK_ret, blockK_normal, blockK_exit, blockK_ret, evOp, vOp, hOp, aWanted, aY, boolOf, opd, putT, closedV, undef, aBin, intOp, sameK, mapO, joinR, hasAddr, pushB, aAlloc, Value.cells, T3, T4, T22, FA24_0, FA24_1, FA24_2, FA24_3, FA24_4, FA24_5, FA24_6, FA24_7, FA24_8, LD3, LD4, LD22, LD27, LDr, LD24, LEN22, IA22, cellAt, lookB, Nat.beq_eq, takeCells, finF, takeM, resV, getT_set, setT_length, getT, setT, h29, h79]
  | true =>
    obtain ⟨_, hc, hp, ha, hz, ht⟩ := tile_of hb
    obtain ⟨w4, k0⟩ := tdiv_small (c := s.c) (t := t) (by omega) (by omega) hc.1
    have d0 : ¬ s.c = 0 := by omega
    by_cases c2 : s.plain * s.c ≤ t
    · have hk : s.kindOf t = s.plain + (t - s.plain * s.c) := by simp [SV.kindOf, hb, SV.faceK, c2]
      have e1 : 0 ≤ s.plain + (t - s.plain * s.c) := by omega
      have e2 : ¬ s.plain + (t - s.plain * s.c) < s.plain := by omega
      have hr : s.faceR t = false := by simp [SV.faceR, c2]
      simp only [hk] at h29
      simp only [evFn, Try.f31, SV.val, SV.hp, hr]
      generalize s.plain + (t - s.plain * s.c) = z at *
      simp [ec_skip, ec_label, ek_reg, ek_draw, ek_seq, ec_cond, ek_block, ec_loop, ec_exit, ec_ret, ek_nil, ek_op, opK_some, regK_some, seqK_normal, seqK_exit, seqK_ret, blockK_normal, blockK_exit, blockK_ret, evOp, vOp, hOp, aWanted, aY, boolOf, opd, putT, closedV, undef, aBin, intOp, sameK, mapO, joinR, hasAddr, pushB, aAlloc, Value.cells, T3, T4, T22, FA24_0, FA24_1, FA24_2, FA24_3, FA24_4, FA24_5, FA24_6, FA24_7, FA24_8, LD3, LD4, LD22, LD27, LDr, LD24, LEN22, IA22, cellAt, lookB, Nat.beq_eq, takeCells, finF, takeM, resV, getT_set, setT_length, getT, setT, h29, h79, e1, e2]
    · have hk : s.kindOf t = t.tdiv s.c := by simp [SV.kindOf, hb, SV.faceK, c2]
      have e2 : t.tdiv s.c < s.plain := by
        have h1 : t < s.plain * s.c := by omega
        have h2 := Int.mul_tdiv_add_tmod t s.c
        have h3 : 0 ≤ t.tmod s.c := Int.tmod_nonneg _ (by omega)
        have h4 : s.c * t.tdiv s.c < s.c * s.plain := by
          have : s.plain * s.c = s.c * s.plain := Int.mul_comm _ _
          omega
        exact Int.lt_of_mul_lt_mul_left h4 (by omega)
      have hr : s.faceR t = (decide (t.tmod s.c = 0) && hasG s.h s.k (t.tdiv s.c)) := by simp [SV.faceR, c2]
      simp only [hk] at h29
      rw [hr]
      by_cases c3 : t.tmod s.c = 0
      · have c3' : (t.tmod s.c == 0) = true := by simpa using c3
        simp only [evFn, Try.f31, SV.val, SV.hp]
        simp [ec_skip, ec_label, ek_reg, ek_draw, ek_seq, ec_cond, ek_block, ec_loop, ec_exit, ec_ret, ek_nil, ek_op, opK_some, regK_some, seqK_normal, seqK_exit, seqK_ret, blockK_normal, blockK_exit, blockK_ret, evOp, vOp, hOp, aWanted, aY, boolOf, opd, putT, closedV, undef, aBin, intOp, sameK, mapO, joinR, hasAddr, pushB, aAlloc, Value.cells, T3, T4, T22, FA24_0, FA24_1, FA24_2, FA24_3, FA24_4, FA24_5, FA24_6, FA24_7, FA24_8, LD3, LD4, LD22, LD27, LDr, LD24, LEN22, IA22, cellAt, lookB, Nat.beq_eq, takeCells, finF, takeM, resV, getT_set, setT_length, getT, setT, h29, h79, k0, e2, d0, c3, c3', h86']
      · have c3' : (t.tmod s.c == 0) = false := by simpa using c3
        simp only [evFn, Try.f31, SV.val, SV.hp]
        simp [ec_skip, ec_label, ek_reg, ek_draw, ek_seq, ec_cond, ek_block, ec_loop, ec_exit, ec_ret, ek_nil, ek_op, opK_some, regK_some, seqK_normal, seqK_exit, seqK_ret, blockK_normal, blockK_exit, blockK_ret, evOp, vOp, hOp, aWanted, aY, boolOf, opd, putT, closedV, undef, aBin, intOp, sameK, mapO, joinR, hasAddr, pushB, aAlloc, Value.cells, T3, T4, T22, FA24_0, FA24_1, FA24_2, FA24_3, FA24_4, FA24_5, FA24_6, FA24_7, FA24_8, LD3, LD4, LD22, LD27, LDr, LD24, LEN22, IA22, cellAt, lookB, Nat.beq_eq, takeCells, finF, takeM, resV, getT_set, setT_length, getT, setT, h29, h79, k0, e2, d0, c3, c3', h86']

end Go.Proofs.Ytkoppbbmdjhaoaa
