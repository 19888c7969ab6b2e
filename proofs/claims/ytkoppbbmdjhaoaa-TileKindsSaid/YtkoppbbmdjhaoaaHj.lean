/-
  What is proved: what Kinds, Size and valid answer for every set, and whether a list has a number (slices.Index, slices.Contains, the document's own Has).
-/
import Derived.Test.YtkoppbbmdjhaoaaHg
namespace Go.Proofs.Ytkoppbbmdjhaoaa
open Go.RowKit
set_option linter.unusedSimpArgs false

theorem F80 : tabF Try.prog 80 = some Try.f80 := by kernel_rfl
theorem F19 : tabF Try.prog 19 = some Try.f19 := by kernel_rfl
theorem F21 : tabF Try.prog 21 = some Try.f21 := by kernel_rfl
theorem F20 : tabF Try.prog 20 = some Try.f20 := by kernel_rfl
theorem F119 : tabF Try.prog 119 = some Try.f119 := by kernel_rfl
theorem F110 : tabF Try.prog 110 = some Try.f110 := by kernel_rfl
theorem F86 : tabF Try.prog 86 = some Try.f86 := by kernel_rfl

def SV.ok (s : SV) : Bool := s.err == 0
def SV.kinds (s : SV) : Int := if s.err = 0 then s.plain else 0

set_option maxRecDepth 10000 in
set_option maxHeartbeats 8000000 in
theorem valid_ev (call : Value → List Value → AH → Option (Value × AH)) (hc : ∀ (s : SV) (H : AH), lookB H.bs 0 = some (.ints s.g) → lookB H.bs 1 = some (.ints s.h) → call (.func (.func 17) #[] #[]) [s.val] H = some (.int .i64 s.err, H)) (s : SV) : ∃ H', evFn (tabT Try.prog) call 300 kpT 80 Try.f80 [s.val] s.hp = some (.bool s.ok, H') := by
  have hc' := hc s
  simp only [SV.val] at hc'
  simp only [evFn, Try.f80, SV.val, SV.hp, SV.ok]
  simp [ec_skip, ec_label, ek_reg, ek_draw, ek_seq, ec_cond, ek_block, ec_loop, ec_exit, ec_ret, ek_nil, ek_op, opK_some, regK_some, seqK_normal, seqK_exit, seqK_ret, blockK_normal, blockK_exit, blockK_ret, evOp, vOp, hOp, aWanted, aY, boolOf, opd, putT, closedV, undef, aBin, intOp, sameK, mapO, joinR, hasAddr, pushB, aAlloc, Value.cells, T3, T4, T22, FA24_0, FA24_1, FA24_2, FA24_3, FA24_4, FA24_5, FA24_6, FA24_7, FA24_8, LD3, LD4, LD22, LD27, LDr, LD24, LEN22, IA22, cellAt, lookB, Nat.beq_eq, takeCells, getT, setT, finF, takeM, resV, getT_set, setT_length, hc']

set_option maxRecDepth 10000 in
set_option maxHeartbeats 8000000 in
theorem tkinds_ev (call : Value → List Value → AH → Option (Value × AH)) (hc : ∀ (s : SV) (H : AH), lookB H.bs 0 = some (.ints s.g) → lookB H.bs 1 = some (.ints s.h) → call (.func (.func 80) #[] #[]) [s.val] H = some (.bool s.ok, H)) (hp : ∀ (s : SV) (H : AH), lookB H.bs 0 = some (.ints s.g) → lookB H.bs 1 = some (.ints s.h) → call (.func (.func 75) #[] #[]) [s.val] H = some (.int .i64 s.plain, H)) (s : SV) : ∃ H', evFn (tabT Try.prog) call 300 kpT 19 Try.f19 [s.val] s.hp = some (.int .i64 s.kinds, H') := by
  have hc' := hc s
  have hp' := hp s
  simp only [SV.val] at hc' hp'
  simp only [evFn, Try.f19, SV.val, SV.hp, SV.kinds, SV.rsize]
  by_cases c1 : s.err = 0
  · have c1' : s.ok = true := by simp [SV.ok, c1]
    simp [ec_skip, ec_label, ek_reg, ek_draw, ek_seq, ec_cond, ek_block, ec_loop, ec_exit, ec_ret, ek_nil, ek_op, opK_some, regK_some, seqK_normal, seqK_exit, seqK_ret, blockK_normal, blockK_exit, blockK_ret, evOp, vOp, hOp, aWanted, aY, boolOf, opd, putT, closedV, undef, aBin, intOp, sameK, mapO, joinR, hasAddr, pushB, aAlloc, Value.cells, T3, T4, T22, FA24_0, FA24_1, FA24_2, FA24_3, FA24_4, FA24_5, FA24_6, FA24_7, FA24_8, LD3, LD4, LD22, LD27, LDr, LD24, LEN22, IA22, cellAt, lookB, Nat.beq_eq, takeCells, getT, setT, finF, takeM, resV, getT_set, setT_length, hc', hp', c1, c1']
  · have c1' : s.ok = false := by simp [SV.ok, c1]
    simp [ec_skip, ec_label, ek_reg, ek_draw, ek_seq, ec_cond, ek_block, ec_loop, ec_exit, ec_ret, ek_nil, ek_op, opK_some, regK_some, seqK_normal, seqK_exit, seqK_ret, blockK_normal, blockK_exit, blockK_ret, evOp, vOp, hOp, aWanted, aY, boolOf, opd, putT, closedV, undef, aBin, intOp, sameK, mapO, joinR, hasAddr, pushB, aAlloc, Value.cells, T3, T4, T22, FA24_0, FA24_1, FA24_2, FA24_3, FA24_4, FA24_5, FA24_6, FA24_7, FA24_8, LD3, LD4, LD22, LD27, LDr, LD24, LEN22, IA22, cellAt, lookB, Nat.beq_eq, takeCells, getT, setT, finF, takeM, resV, getT_set, setT_length, hc', c1, c1']

set_option maxRecDepth 10000 in
set_option maxHeartbeats 8000000 in
theorem tsize_ev (call : Value → List Value → AH → Option (Value × AH)) (hc : ∀ (s : SV) (H : AH), lookB H.bs 0 = some (.ints s.g) → lookB H.bs 1 = some (.ints s.h) → call (.func (.func 80) #[] #[]) [s.val] H = some (.bool s.ok, H)) (hp : ∀ (s : SV) (H : AH), lookB H.bs 0 = some (.ints s.g) → lookB H.bs 1 = some (.ints s.h) → call (.func (.func 76) #[] #[]) [s.val] H = some (.int .i64 s.size, H)) (s : SV) : ∃ H', evFn (tabT Try.prog) call 300 kpT 21 Try.f21 [s.val] s.hp = some (.int .i64 s.rsize, H') := by
  have hc' := hc s
  have hp' := hp s
  simp only [SV.val] at hc' hp'
  simp only [evFn, Try.f21, SV.val, SV.hp, SV.kinds, SV.rsize]
  by_cases c1 : s.err = 0
  · have c1' : s.ok = true := by simp [SV.ok, c1]
    simp [ec_skip, ec_label, ek_reg, ek_draw, ek_seq, ec_cond, ek_block, ec_loop, ec_exit, ec_ret, ek_nil, ek_op, opK_some, regK_some, seqK_normal, seqK_exit, seqK_ret, blockK_normal, blockK_exit, blockK_ret, evOp, vOp, hOp, aWanted, aY, boolOf, opd, putT, closedV, undef, aBin, intOp, sameK, mapO, joinR, hasAddr, pushB, aAlloc, Value.cells, T3, T4, T22, FA24_0, FA24_1, FA24_2, FA24_3, FA24_4, FA24_5, FA24_6, FA24_7, FA24_8, LD3, LD4, LD22, LD27, LDr, LD24, LEN22, IA22, cellAt, lookB, Nat.beq_eq, takeCells, getT, setT, finF, takeM, resV, getT_set, setT_length, hc', hp', c1, c1']
  · have c1' : s.ok = false := by simp [SV.ok, c1]
    simp [ec_skip, ec_label, ek_reg, ek_draw, ek_seq, ec_cond, ek_block, ec_loop, ec_exit, ec_ret, ek_nil, ek_op, opK_some, regK_some, seqK_normal, seqK_exit, seqK_ret, blockK_normal, blockK_exit, blockK_ret, evOp, vOp, hOp, aWanted, aY, boolOf, opd, putT, closedV, undef, aBin, intOp, sameK, mapO, joinR, hasAddr, pushB, aAlloc, Value.cells, T3, T4, T22, FA24_0, FA24_1, FA24_2, FA24_3, FA24_4, FA24_5, FA24_6, FA24_7, FA24_8, LD3, LD4, LD22, LD27, LDr, LD24, LEN22, IA22, cellAt, lookB, Nat.beq_eq, takeCells, getT, setT, finF, takeM, resV, getT_set, setT_length, hc', c1, c1']

set_option maxRecDepth 10000 in
set_option maxHeartbeats 8000000 in
theorem rkinds_ev (call : Value → List Value → AH → Option (Value × AH)) (hc : ∀ (s : SV) (H : AH), lookB H.bs 0 = some (.ints s.g) → lookB H.bs 1 = some (.ints s.h) → call (.func (.func 18) #[] #[]) [s.val] H = some (.int .i64 s.err, H)) (hp : ∀ (s : SV) (H : AH), lookB H.bs 0 = some (.ints s.g) → lookB H.bs 1 = some (.ints s.h) → call (.func (.func 79) #[] #[]) [s.val] H = some (.int .i64 s.plain, H)) (s : SV) : ∃ H', evFn (tabT Try.prog) call 300 kpT 20 Try.f20 [s.val] s.hp = some (.int .i64 s.kinds, H') := by
  have hc' := hc s
  have hp' := hp s
  simp only [SV.val] at hc' hp'
  simp only [evFn, Try.f20, SV.val, SV.hp, SV.kinds]
  by_cases c1 : s.err = 0
  · simp [ec_skip, ec_label, ek_reg, ek_draw, ek_seq, ec_cond, ek_block, ec_loop, ec_exit, ec_ret, ek_nil, ek_op, opK_some, regK_some, seqK_normal, seqK_exit, seqK_ret, blockK_normal, blockK_exit, blockK_ret, evOp, vOp, hOp, aWanted, aY, boolOf, opd, putT, closedV, undef, aBin, intOp, sameK, mapO, joinR, hasAddr, pushB, aAlloc, Value.cells, T3, T4, T22, FA24_0, FA24_1, FA24_2, FA24_3, FA24_4, FA24_5, FA24_6, FA24_7, FA24_8, LD3, LD4, LD22, LD27, LDr, LD24, LEN22, IA22, cellAt, lookB, Nat.beq_eq, takeCells, getT, setT, finF, takeM, resV, getT_set, setT_length, hc', hp', c1]
  · have c1' : (s.err != 0) = true := by simpa using c1
    simp [ec_skip, ec_label, ek_reg, ek_draw, ek_seq, ec_cond, ek_block, ec_loop, ec_exit, ec_ret, ek_nil, ek_op, opK_some, regK_some, seqK_normal, seqK_exit, seqK_ret, blockK_normal, blockK_exit, blockK_ret, evOp, vOp, hOp, aWanted, aY, boolOf, opd, putT, closedV, undef, aBin, intOp, sameK, mapO, joinR, hasAddr, pushB, aAlloc, Value.cells, T3, T4, T22, FA24_0, FA24_1, FA24_2, FA24_3, FA24_4, FA24_5, FA24_6, FA24_7, FA24_8, LD3, LD4, LD22, LD27, LDr, LD24, LEN22, IA22, cellAt, lookB, Nat.beq_eq, takeCells, getT, setT, finF, takeM, resV, getT_set, setT_length, hc', c1, c1']

/-- Where a number first lies in a list. -/
def idxOfG (g : Nat → Int) (x : Int) : Nat → Nat → Int
  | 0, _ => -1
  | m + 1, i => if x = g i then i else idxOfG g x m (i + 1)

def I119 (g : Nat → Int) (n : Nat) (x : Int) (m : Nat) (A : AF) (H : AH) : Prop := ∃ (i : Nat), i + m = n ∧ idxOfG g x m i = idxOfG g x n 0 ∧ A.tm.length = 19 ∧ A.marks = [] ∧ getT A.tm 8 = .int .i64 (i : Int) ∧ getT A.tm 7 = .int .i64 n ∧ getT A.tm 0 = .slice (some ⟨0, 0, some 1⟩) n 0 ∧ getT A.tm 1 = .int .i64 x ∧ H = hp1 g
def Q119 (g : Nat → Int) (n : Nat) (x : Int) (y : AX) (A' : AF) (_ : AH) : Prop := A'.tm.length = 19 ∧ A'.marks = [] ∧ ((y = .exit 0 ∧ idxOfG g x n 0 = -1) ∨ (y = .ret ∧ getT A'.tm 4 = .int .i64 (idxOfG g x n 0)))

set_option maxRecDepth 10000 in
set_option maxHeartbeats 8000000 in
theorem index_ev (call : Value → List Value → AH → Option (Value × AH)) (g : Nat → Int) (n : Nat) (x : Int) (hk : n ≤ 200) : ∃ H', evFn (tabT Try.prog) call 300 kpT 119 Try.f119 [sl1 n, .int .i64 x] (hp1 g) = some (.int .i64 (idxOfG g x n 0), H') := by
  simp only [evFn, Try.f119, hp1, sl1]
  simp [ec_skip, ec_label, ek_reg, ek_draw, ek_seq, ec_cond, ek_block, ec_loop, ec_exit, ec_ret, ek_nil, ek_op, opK_some, regK_some, seqK_normal, seqK_exit, seqK_ret, blockK_normal, blockK_exit, blockK_ret, evOp, vOp, hOp, aWanted, aY, boolOf, opd, putT, closedV, undef, aBin, intOp, sameK, mapO, joinR, hasAddr, pushB, aAlloc, Value.cells, T3, T4, T22, FA24_0, FA24_1, FA24_2, FA24_3, FA24_4, FA24_5, FA24_6, FA24_7, FA24_8, LD3, LD4, LD22, LD27, LDr, LD24, LEN22, IA22, cellAt, lookB, Nat.beq_eq, takeCells, getT, setT]
  generalize hr : evLoop _ _ _ _ = r
  obtain ⟨y, A', H', rfl, hl, hmk, hx⟩ := loop_go (Q := Q119 g n x) hr (I119 g n x) n (by omega) ⟨0, by omega, rfl, rfl, rfl, rfl, rfl, rfl, rfl, rfl⟩ (by
      clear hr
      rintro m A H ⟨i, him, hres, hl, hmk, h8, h7, h0, h1, rfl⟩
      simp only [runC]
      cases m with
      | zero =>
        have hi : ¬ i < n := by omega
        rw [idxOfG] at hres
        simp [ec_skip, ec_label, ek_reg, ek_draw, ek_seq, ec_cond, ek_block, ec_loop, ec_exit, ec_ret, ek_nil, ek_op, opK_some, regK_some, seqK_normal, seqK_exit, seqK_ret, blockK_normal, blockK_exit, blockK_ret, evOp, vOp, hOp, aWanted, aY, boolOf, opd, putT, closedV, undef, aBin, intOp, sameK, mapO, joinR, hasAddr, pushB, aAlloc, Value.cells, T3, T4, T22, FA24_0, FA24_1, FA24_2, FA24_3, FA24_4, FA24_5, FA24_6, FA24_7, FA24_8, LD3, LD4, LD22, LD27, LDr, LD24, LEN22, IA22, cellAt, lookB, Nat.beq_eq, takeCells, hp1, getT_set, setT_length, hl, hmk, h8, h7, h0, h1, hi]
        exact .inr ⟨by simp, by simp [setT_length, hl], rfl, .inl ⟨rfl, hres.symm⟩⟩
      | succ m =>
        have hi : i < n := by omega
        have hw : wrapI .i64 ((i : Int) + 1) = ((i + 1 : Nat) : Int) := by rw [wrapI_small (by omega) (by omega)]; rfl
        rw [idxOfG] at hres
        by_cases c1 : x = g i
        · have c1' : (x == g i) = true := by simpa using c1
          simp only [c1, if_true] at hres
          simp [ec_skip, ec_label, ek_reg, ek_draw, ek_seq, ec_cond, ek_block, ec_loop, ec_exit, ec_ret, ek_nil, ek_op, opK_some, regK_some, seqK_normal, seqK_exit, seqK_ret, blockK_normal, blockK_exit, blockK_ret, evOp, vOp, hOp, aWanted, aY, boolOf, opd, putT, closedV, undef, aBin, intOp, sameK, mapO, joinR, hasAddr, pushB, aAlloc, Value.cells, T3, T4, T22, FA24_0, FA24_1, FA24_2, FA24_3, FA24_4, FA24_5, FA24_6, FA24_7, FA24_8, LD3, LD4, LD22, LD27, LDr, LD24, LEN22, IA22, cellAt, lookB, Nat.beq_eq, takeCells, hp1, getT_set, setT_length, hl, hmk, h8, h7, h0, h1, hi, c1']
          exact .inr ⟨by simp, by simp [setT_length, hl], rfl, .inr ⟨rfl, by simp [getT_set, setT_length, hl, c1, hres]⟩⟩
        · have c1' : (x == g i) = false := by simpa using c1
          simp only [c1, if_false] at hres
          simp [ec_skip, ec_label, ek_reg, ek_draw, ek_seq, ec_cond, ek_block, ec_loop, ec_exit, ec_ret, ek_nil, ek_op, opK_some, regK_some, seqK_normal, seqK_exit, seqK_ret, blockK_normal, blockK_exit, blockK_ret, evOp, vOp, hOp, aWanted, aY, boolOf, opd, putT, closedV, undef, aBin, intOp, sameK, mapO, joinR, hasAddr, pushB, aAlloc, Value.cells, T3, T4, T22, FA24_0, FA24_1, FA24_2, FA24_3, FA24_4, FA24_5, FA24_6, FA24_7, FA24_8, LD3, LD4, LD22, LD27, LDr, LD24, LEN22, IA22, cellAt, lookB, Nat.beq_eq, takeCells, hp1, getT_set, setT_length, hl, hmk, h8, h7, h0, h1, hi, c1']
          refine .inl ⟨rfl, m, rfl, i + 1, by omega, hres, ?_⟩
          simp [hp1, getT_set, setT_length, hl, h8, h7, h0, h1, hw])
  rcases hx with ⟨rfl, hx⟩ | ⟨rfl, hx⟩
  · simp [ec_skip, ec_label, ek_reg, ek_draw, ek_seq, ec_cond, ek_block, ec_loop, ec_exit, ec_ret, ek_nil, ek_op, opK_some, regK_some, seqK_normal, seqK_exit, seqK_ret, blockK_normal, blockK_exit, blockK_ret, evOp, vOp, hOp, aWanted, aY, boolOf, opd, putT, closedV, undef, aBin, intOp, sameK, mapO, joinR, hasAddr, pushB, aAlloc, Value.cells, T3, T4, T22, FA24_0, FA24_1, FA24_2, FA24_3, FA24_4, FA24_5, FA24_6, FA24_7, FA24_8, LD3, LD4, LD22, LD27, LDr, LD24, LEN22, IA22, cellAt, lookB, Nat.beq_eq, takeCells, finF, takeM, resV, getT_set, setT_length, hl, hmk, hx]
  · simp [ec_skip, ec_label, ek_reg, ek_draw, ek_seq, ec_cond, ek_block, ec_loop, ec_exit, ec_ret, ek_nil, ek_op, opK_some, regK_some, seqK_normal, seqK_exit, seqK_ret, blockK_normal, blockK_exit, blockK_ret, evOp, vOp, hOp, aWanted, aY, boolOf, opd, putT, closedV, undef, aBin, intOp, sameK, mapO, joinR, hasAddr, pushB, aAlloc, Value.cells, T3, T4, T22, FA24_0, FA24_1, FA24_2, FA24_3, FA24_4, FA24_5, FA24_6, FA24_7, FA24_8, LD3, LD4, LD22, LD27, LDr, LD24, LEN22, IA22, cellAt, lookB, Nat.beq_eq, takeCells, finF, takeM, resV, getT_set, setT_length, hl, hmk, hx]

def hasG (g : Nat → Int) (n : Nat) (x : Int) : Bool := decide (0 ≤ idxOfG g x n 0)

set_option maxRecDepth 10000 in
set_option maxHeartbeats 8000000 in
theorem contains_ev (call : Value → List Value → AH → Option (Value × AH)) (hb : ∀ (g : Nat → Int) (n : Nat) (x : Int) (H : AH), lookB H.bs 0 = some (.ints g) → call (.func (.func 119) #[] #[]) [sl1 n, .int .i64 x] H = some (.int .i64 (idxOfG g x n 0), H)) (g : Nat → Int) (n : Nat) (x : Int) : ∃ H', evFn (tabT Try.prog) call 300 kpT 110 Try.f110 [sl1 n, .int .i64 x] (hp1 g) = some (.bool (hasG g n x), H') := by
  have hb' := hb g n x
  simp only [sl1] at hb'
  simp only [evFn, Try.f110, hp1, sl1, hasG]
  simp [ec_skip, ec_label, ek_reg, ek_draw, ek_seq, ec_cond, ek_block, ec_loop, ec_exit, ec_ret, ek_nil, ek_op, opK_some, regK_some, seqK_normal, seqK_exit, seqK_ret, blockK_normal, blockK_exit, blockK_ret, evOp, vOp, hOp, aWanted, aY, boolOf, opd, putT, closedV, undef, aBin, intOp, sameK, mapO, joinR, hasAddr, pushB, aAlloc, Value.cells, T3, T4, T22, FA24_0, FA24_1, FA24_2, FA24_3, FA24_4, FA24_5, FA24_6, FA24_7, FA24_8, LD3, LD4, LD22, LD27, LDr, LD24, LEN22, IA22, cellAt, lookB, Nat.beq_eq, takeCells, getT, setT, finF, takeM, resV, getT_set, setT_length, hb']

theorem idxOfG_nat (g : Nat → Int) (x : Int) : ∀ m i, idxOfG g x m i = -1 ∨ 0 ≤ idxOfG g x m i
  | 0, _ => .inl rfl
  | m + 1, i => by
    rw [idxOfG]
    split
    · exact .inr (by omega)
    · exact idxOfG_nat g x m (i + 1)

def I86 (g : Nat → Int) (n : Nat) (x : Int) (m : Nat) (A : AF) (H : AH) : Prop := ∃ (i : Nat), i + m = n ∧ idxOfG g x m i = idxOfG g x n 0 ∧ A.tm.length = 18 ∧ A.marks = [] ∧ getT A.tm 5 = .int .i64 (i : Int) ∧ getT A.tm 0 = .slice (some ⟨0, 0, some 1⟩) n 0 ∧ getT A.tm 1 = .int .i64 x ∧ H = hp1 g
def Q86 (g : Nat → Int) (n : Nat) (x : Int) (y : AX) (A' : AF) (_ : AH) : Prop := A'.tm.length = 18 ∧ A'.marks = [] ∧ ((y = .exit 0 ∧ hasG g n x = false) ∨ (y = .ret ∧ hasG g n x = true ∧ getT A'.tm 4 = .bool true))

set_option maxRecDepth 10000 in
set_option maxHeartbeats 8000000 in
theorem has_ev (call : Value → List Value → AH → Option (Value × AH)) (g : Nat → Int) (n : Nat) (x : Int) (hk : n ≤ 200) : ∃ H', evFn (tabT Try.prog) call 300 kpT 86 Try.f86 [sl1 n, .int .i64 x] (hp1 g) = some (.bool (hasG g n x), H') := by
  simp only [evFn, Try.f86, hp1, sl1]
  simp [ec_skip, ec_label, ek_reg, ek_draw, ek_seq, ec_cond, ek_block, ec_loop, ec_exit, ec_ret, ek_nil, ek_op, opK_some, regK_some, seqK_normal, seqK_exit, seqK_ret, blockK_normal, blockK_exit, blockK_ret, evOp, vOp, hOp, aWanted, aY, boolOf, opd, putT, closedV, undef, aBin, intOp, sameK, mapO, joinR, hasAddr, pushB, aAlloc, Value.cells, T3, T4, T22, FA24_0, FA24_1, FA24_2, FA24_3, FA24_4, FA24_5, FA24_6, FA24_7, FA24_8, LD3, LD4, LD22, LD27, LDr, LD24, LEN22, IA22, cellAt, lookB, Nat.beq_eq, takeCells, getT, setT]
  generalize hr : evLoop _ _ _ _ = r
  obtain ⟨y, A', H', rfl, hl, hmk, hx⟩ := loop_go (Q := Q86 g n x) hr (I86 g n x) n (by omega) ⟨0, by omega, rfl, rfl, rfl, rfl, rfl, rfl, rfl⟩ (by
      clear hr
      rintro m A H ⟨i, him, hres, hl, hmk, h5, h0, h1, rfl⟩
      simp only [runC]
      cases m with
      | zero =>
        have hi : ¬ i < n := by omega
        rw [idxOfG] at hres
        simp [ec_skip, ec_label, ek_reg, ek_draw, ek_seq, ec_cond, ek_block, ec_loop, ec_exit, ec_ret, ek_nil, ek_op, opK_some, regK_some, seqK_normal, seqK_exit, seqK_ret, blockK_normal, blockK_exit, blockK_ret, evOp, vOp, hOp, aWanted, aY, boolOf, opd, putT, closedV, undef, aBin, intOp, sameK, mapO, joinR, hasAddr, pushB, aAlloc, Value.cells, T3, T4, T22, FA24_0, FA24_1, FA24_2, FA24_3, FA24_4, FA24_5, FA24_6, FA24_7, FA24_8, LD3, LD4, LD22, LD27, LDr, LD24, LEN22, IA22, cellAt, lookB, Nat.beq_eq, takeCells, hp1, getT_set, setT_length, hl, hmk, h5, h0, h1, hi]
        exact .inr ⟨by simp, by simp [setT_length, hl], rfl, .inl ⟨rfl, by simp [hasG, ← hres]⟩⟩
      | succ m =>
        have hi : i < n := by omega
        have hw : wrapI .i64 ((i : Int) + 1) = ((i + 1 : Nat) : Int) := by rw [wrapI_small (by omega) (by omega)]; rfl
        rw [idxOfG] at hres
        by_cases c1 : x = g i
        · have c1' : (g i == x) = true := by simpa using c1.symm
          rw [if_pos c1] at hres
          simp [ec_skip, ec_label, ek_reg, ek_draw, ek_seq, ec_cond, ek_block, ec_loop, ec_exit, ec_ret, ek_nil, ek_op, opK_some, regK_some, seqK_normal, seqK_exit, seqK_ret, blockK_normal, blockK_exit, blockK_ret, evOp, vOp, hOp, aWanted, aY, boolOf, opd, putT, closedV, undef, aBin, intOp, sameK, mapO, joinR, hasAddr, pushB, aAlloc, Value.cells, T3, T4, T22, FA24_0, FA24_1, FA24_2, FA24_3, FA24_4, FA24_5, FA24_6, FA24_7, FA24_8, LD3, LD4, LD22, LD27, LDr, LD24, LEN22, IA22, cellAt, lookB, Nat.beq_eq, takeCells, hp1, getT_set, setT_length, hl, hmk, h5, h0, h1, hi, c1']
          exact .inr ⟨by simp, by simp [setT_length, hl], rfl, .inr ⟨rfl, by simp [hasG, ← hres], by simp [getT_set, setT_length, hl]⟩⟩
        · have c1' : (g i == x) = false := by simpa using fun e => c1 (Eq.symm e)
          rw [if_neg c1] at hres
          simp [ec_skip, ec_label, ek_reg, ek_draw, ek_seq, ec_cond, ek_block, ec_loop, ec_exit, ec_ret, ek_nil, ek_op, opK_some, regK_some, seqK_normal, seqK_exit, seqK_ret, blockK_normal, blockK_exit, blockK_ret, evOp, vOp, hOp, aWanted, aY, boolOf, opd, putT, closedV, undef, aBin, intOp, sameK, mapO, joinR, hasAddr, pushB, aAlloc, Value.cells, T3, T4, T22, FA24_0, FA24_1, FA24_2, FA24_3, FA24_4, FA24_5, FA24_6, FA24_7, FA24_8, LD3, LD4, LD22, LD27, LDr, LD24, LEN22, IA22, cellAt, lookB, Nat.beq_eq, takeCells, hp1, getT_set, setT_length, hl, hmk, h5, h0, h1, hi, c1']
          refine .inl ⟨rfl, m, rfl, i + 1, by omega, hres, ?_⟩
          simp [hp1, getT_set, setT_length, hl, h5, h0, h1, hw])
  rcases hx with ⟨rfl, hx⟩ | ⟨rfl, hx, h4⟩
  · simp [ec_skip, ec_label, ek_reg, ek_draw, ek_seq, ec_cond, ek_block, ec_loop, ec_exit, ec_ret, ek_nil, ek_op, opK_some, regK_some, seqK_normal, seqK_exit, seqK_ret, blockK_normal, blockK_exit, blockK_ret, evOp, vOp, hOp, aWanted, aY, boolOf, opd, putT, closedV, undef, aBin, intOp, sameK, mapO, joinR, hasAddr, pushB, aAlloc, Value.cells, T3, T4, T22, FA24_0, FA24_1, FA24_2, FA24_3, FA24_4, FA24_5, FA24_6, FA24_7, FA24_8, LD3, LD4, LD22, LD27, LDr, LD24, LEN22, IA22, cellAt, lookB, Nat.beq_eq, takeCells, finF, takeM, resV, getT_set, setT_length, hl, hmk, hx]
  · simp [ec_skip, ec_label, ek_reg, ek_draw, ek_seq, ec_cond, ek_block, ec_loop, ec_exit, ec_ret, ek_nil, ek_op, opK_some, regK_some, seqK_normal, seqK_exit, seqK_ret, blockK_normal, blockK_exit, blockK_ret, evOp, vOp, hOp, aWanted, aY, boolOf, opd, putT, closedV, undef, aBin, intOp, sameK, mapO, joinR, hasAddr, pushB, aAlloc, Value.cells, T3, T4, T22, FA24_0, FA24_1, FA24_2, FA24_3, FA24_4, FA24_5, FA24_6, FA24_7, FA24_8, LD3, LD4, LD22, LD27, LDr, LD24, LEN22, IA22, cellAt, lookB, Nat.beq_eq, takeCells, finF, takeM, resV, getT_set, setT_length, hl, hmk, hx, h4]

end Go.Proofs.Ytkoppbbmdjhaoaa
