/-
  What is proved: as the texts before, for a loop whose blocks lie one place higher (that of tile.at).
-/
import Derived.Test.YtkoppbbmdjhaoaaJe
namespace Go.Proofs.Ytkoppbbmdjhaoaa
open Go.RowKit
set_option linter.unusedSimpArgs false

def I112t (Mr : Int → Nat → AH) (HD : Int → Int → Nat → AH) (hit : Int → Int → Bool) (R : Value × AH) (su q : Int) (k : Nat) (A : AF) (H : AH) : Prop :=
  ∃ (i c : Int) (m : Nat), i + k = q ∧ 0 ≤ i ∧ q ≤ 200 ∧ 0 ≤ c ∧ c + k ≤ 100000 ∧ rowR Mr HD hit k i c m = R ∧ H = Mr c m ∧ A.tm.length = 23 ∧ A.marks = [] ∧ getT A.tm 0 = .int .i64 su ∧ getT A.tm 1 = .int .i64 q ∧ getT A.tm 2 = .pointer (some ⟨10, 0, none⟩) ∧ getT A.tm 3 = .pointer (some ⟨11, 0, none⟩) ∧ getT A.tm 8 = .int .i64 q ∧ getT A.tm 9 = .int .i64 i
def Q112t (R : Value × AH) (z : AX) (A' : AF) (H : AH) : Prop := A'.tm.length = 23 ∧ A'.marks = [] ∧ H = R.2 ∧ ((z = .exit 0 ∧ R.1 = .bool true) ∨ (z = .ret ∧ R.1 = .bool false ∧ getT A'.tm 6 = .bool false))

set_option maxRecDepth 10000 in
set_option maxHeartbeats 8000000 in
theorem row_evt (call : Value → List Value → AH → Option (Value × AH)) (Mr : Int → Nat → AH) (HD : Int → Int → Nat → AH) (hit : Int → Int → Bool) (su : Int) (q : Nat) (c : Int) (m : Nat)
    (h9 : ∀ c m, lookB (Mr c m).bs 10 = some (.cells false [.func (.yield 9) #[] #[]])) (h10 : ∀ c m, lookB (Mr c m).bs 11 = some (.cells false [.int .i64 c]))
    (hset : ∀ c m c', ({ Mr c m with bs := setB (Mr c m).bs 11 (.cells false [.int .i64 c']) } : AH) = Mr c' m)
    (hy : ∀ (c r : Int) (m : Nat), call (.func (.yield 9) #[] #[]) [.int .i64 c, placeV su r q] (Mr c m) = if hit c r then some (.bool false, HD c r m) else some (.bool true, Mr c (m + 1)))
    (hq : q ≤ 200) (hc0 : 0 ≤ c) (hcq : c + q ≤ 100000) :
    evFn (tabT Try.prog) call 300 kpT 112 Try.f112 [.int .i64 su, .int .i64 q, .pointer (some ⟨10, 0, none⟩), .pointer (some ⟨11, 0, none⟩)] (Mr c m) = some (rowR Mr HD hit q 0 c m) := by
  simp only [evFn, Try.f112]
  simp [ec_skip, ec_label, ek_reg, ek_draw, ek_seq, ec_cond, ek_block, ec_loop, ec_exit, ec_ret, ek_nil, ek_op, opK_some, regK_some, seqK_normal, seqK_exit, seqK_ret, blockK_normal, blockK_exit, blockK_ret, evOp, vOp, hOp, aWanted, aY, boolOf, opd, putT, closedV, undef, aBin, intOp, sameK, mapO, joinR, hasAddr, pushB, aAlloc, Value.cells, T3, T4, T22, FA24_0, FA24_1, FA24_2, FA24_3, FA24_4, FA24_5, FA24_6, FA24_7, FA24_8, LD3, LD4, LD22, LD27, LDr, LD24, LEN22, IA22, cellAt, lookB, Nat.beq_eq, takeCells, getT, setT]
  generalize hr : evLoop _ _ _ _ = r
  obtain ⟨z, A', H', rfl, hl, hmk, rfl, hz⟩ := loop_go (Q := Q112t (rowR Mr HD hit q 0 c m)) hr (I112t Mr HD hit (rowR Mr HD hit q 0 c m) su q) q (by omega) ⟨0, c, m, by omega, by omega, by omega, hc0, hcq, rfl, rfl, rfl, rfl, rfl, rfl, rfl, rfl, rfl, rfl⟩ (by
      clear hr
      rintro k A H ⟨i, c, m, him, hi0, hq1, hc0, hck, hres, rfl, hl, hmk, g0, g1, g2, g3, g8, g9⟩
      simp only [runC]
      cases k with
      | zero =>
        have hi : ¬ i < (q : Int) := by omega
        simp only [rowR] at hres
        simp [ec_skip, ec_label, ek_reg, ek_draw, ek_seq, ec_cond, ek_block, ec_loop, ec_exit, ec_ret, ek_nil, ek_op, opK_some, regK_some, seqK_normal, seqK_exit, seqK_ret, blockK_normal, blockK_exit, blockK_ret, evOp, vOp, hOp, aWanted, aY, boolOf, opd, putT, closedV, undef, aBin, intOp, sameK, mapO, joinR, hasAddr, pushB, aAlloc, Value.cells, T3, T4, T22, FA24_0, FA24_1, FA24_2, FA24_3, FA24_4, FA24_5, FA24_6, FA24_7, FA24_8, LD3, LD4, LD22, LD27, LDr, LD24, LEN22, IA22, cellAt, lookB, Nat.beq_eq, takeCells, getT_set, setT_length, hl, hmk, g0, g1, g2, g3, g8, g9, hi]
        exact .inr ⟨by simp, by simp [setT_length, hl], rfl, by rw [← hres], .inl ⟨rfl, by rw [← hres]⟩⟩
      | succ k =>
        have hi : i < (q : Int) := by omega
        have hw : wrapI .i64 (i + 1) = i + 1 := wrapI_small (by omega) (by omega)
        have hwc : wrapI .i64 (c + 1) = c + 1 := wrapI_small (by omega) (by omega)
        have hst := fun n => ST3 (Mr c (m + 1)) 11 0 n [.int .i64 c] (h10 c (m + 1)) (by simp)
        simp only [List.set_cons_zero, hset] at hst
        have hy' := hy c i m
        simp only [placeV] at hy'
        cases hh : hit c i with
        | true =>
          rw [hh, if_pos rfl] at hy'
          simp only [rowR, hh, if_true] at hres
          simp [ec_skip, ec_label, ek_reg, ek_draw, ek_seq, ec_cond, ek_block, ec_loop, ec_exit, ec_ret, ek_nil, ek_op, opK_some, regK_some, seqK_normal, seqK_exit, seqK_ret, blockK_normal, blockK_exit, blockK_ret, evOp, vOp, hOp, aWanted, aY, boolOf, opd, putT, closedV, undef, aBin, intOp, sameK, mapO, joinR, hasAddr, pushB, aAlloc, Value.cells, T3, T4, T22, FA24_0, FA24_1, FA24_2, FA24_3, FA24_4, FA24_5, FA24_6, FA24_7, FA24_8, LD3, LD4, LD22, LD27, LDr, LD24, LEN22, IA22, cellAt, lookB, Nat.beq_eq, takeCells, LD122, partsO, BD80, getT_set, setT_length, hl, hmk, g0, g1, g2, g3, g8, g9, hi, h9, h10, hy']
          exact .inr ⟨by simp, by simp [setT_length, hl], rfl, by rw [← hres], .inr ⟨rfl, by rw [← hres], by simp [getT_set, setT_length, hl]⟩⟩
        | false =>
          rw [hh, if_neg (by simp)] at hy'
          simp only [rowR, hh, Bool.false_eq_true, if_false] at hres
          simp [ec_skip, ec_label, ek_reg, ek_draw, ek_seq, ec_cond, ek_block, ec_loop, ec_exit, ec_ret, ek_nil, ek_op, opK_some, regK_some, seqK_normal, seqK_exit, seqK_ret, blockK_normal, blockK_exit, blockK_ret, evOp, vOp, hOp, aWanted, aY, boolOf, opd, putT, closedV, undef, aBin, intOp, sameK, mapO, joinR, hasAddr, pushB, aAlloc, Value.cells, T3, T4, T22, FA24_0, FA24_1, FA24_2, FA24_3, FA24_4, FA24_5, FA24_6, FA24_7, FA24_8, LD3, LD4, LD22, LD27, LDr, LD24, LEN22, IA22, cellAt, lookB, Nat.beq_eq, takeCells, LD122, partsO, BD80, getT_set, setT_length, hl, hmk, g0, g1, g2, g3, g8, g9, hi, h9, h10, hy', hst, hwc]
          refine .inl ⟨rfl, k, rfl, i + 1, c + 1, m + 1, by omega, by omega, hq1, by omega, by omega, hres, rfl, ?_⟩
          simp [getT_set, setT_length, hl, g0, g1, g2, g3, g8, g9, hw])
  rcases hz with ⟨rfl, hz⟩ | ⟨rfl, hz, h6⟩
  · simp [ec_skip, ec_label, ek_reg, ek_draw, ek_seq, ec_cond, ek_block, ec_loop, ec_exit, ec_ret, ek_nil, ek_op, opK_some, regK_some, seqK_normal, seqK_exit, seqK_ret, blockK_normal, blockK_exit, blockK_ret, evOp, vOp, hOp, aWanted, aY, boolOf, opd, putT, closedV, undef, aBin, intOp, sameK, mapO, joinR, hasAddr, pushB, aAlloc, Value.cells, T3, T4, T22, FA24_0, FA24_1, FA24_2, FA24_3, FA24_4, FA24_5, FA24_6, FA24_7, FA24_8, LD3, LD4, LD22, LD27, LDr, LD24, LEN22, IA22, cellAt, lookB, Nat.beq_eq, takeCells, finF, takeM, resV, getT_set, setT_length, hl, hmk, cleaned, kpT]
    generalize rowR Mr HD hit q 0 c m = R at hz ⊢
    obtain ⟨a, b⟩ := R
    simp only at hz
    rw [hz]
  · simp [ec_skip, ec_label, ek_reg, ek_draw, ek_seq, ec_cond, ek_block, ec_loop, ec_exit, ec_ret, ek_nil, ek_op, opK_some, regK_some, seqK_normal, seqK_exit, seqK_ret, blockK_normal, blockK_exit, blockK_ret, evOp, vOp, hOp, aWanted, aY, boolOf, opd, putT, closedV, undef, aBin, intOp, sameK, mapO, joinR, hasAddr, pushB, aAlloc, Value.cells, T3, T4, T22, FA24_0, FA24_1, FA24_2, FA24_3, FA24_4, FA24_5, FA24_6, FA24_7, FA24_8, LD3, LD4, LD22, LD27, LDr, LD24, LEN22, IA22, cellAt, lookB, Nat.beq_eq, takeCells, finF, takeM, resV, getT_set, setT_length, hl, hmk, h6, cleaned, kpT]
    generalize rowR Mr HD hit q 0 c m = R at hz ⊢
    obtain ⟨a, b⟩ := R
    simp only at hz
    rw [hz]


def cl112t : Value := (.func (.func 112) #[] #[.pointer (some ⟨10, 0, none⟩), .pointer (some ⟨11, 0, none⟩)])

def I111t (s : SV) (Mr : Int → Nat → AH) (HD : Int → Nat → Int → Int → Nat → AH) (hit : Int → Nat → Int → Int → Bool) (R : AH) (k : Nat) (A : AF) (H : AH) : Prop :=
  ∃ (i : Nat) (c : Int) (m : Nat), i + k = s.n ∧ 0 ≤ c ∧ c ≤ 9 * i ∧ rowsR Mr HD hit (suitRows s.g k i ++ s.tail) c m = R ∧ H = Mr c m ∧ A.tm.length = 38 ∧ A.marks = [] ∧ getT A.tm 1 = .pointer (some ⟨7, 0, none⟩) ∧ getT A.tm 4 = cl112t ∧ getT A.tm 9 = .slice (some ⟨0, 0, some 1⟩) s.n 0 ∧ getT A.tm 10 = .int .i64 s.n ∧ getT A.tm 11 = .int .i64 (i : Int)
def Q111t (s : SV) (Mr : Int → Nat → AH) (HD : Int → Nat → Int → Int → Nat → AH) (hit : Int → Nat → Int → Int → Bool) (R : AH) (z : AX) (A' : AF) (H : AH) : Prop :=
  A'.tm.length = 38 ∧ A'.marks = [] ∧ ((z = .exit 0 ∧ getT A'.tm 1 = .pointer (some ⟨7, 0, none⟩) ∧ getT A'.tm 4 = cl112t ∧ ∃ (c : Int) (m : Nat), 0 ≤ c ∧ c ≤ 27 ∧ H = Mr c m ∧ rowsR Mr HD hit s.tail c m = R) ∨ (z = .ret ∧ H = R))

set_option maxRecDepth 10000 in
set_option maxHeartbeats 8000000 in
theorem kinds_evt (call : Value → List Value → AH → Option (Value × AH)) (s : SV) (hs : s.Small) (H0 : AH) (Mr : Int → Nat → AH) (HD : Int → Nat → Int → Int → Nat → AH) (hit : Int → Nat → Int → Int → Bool)
    (h6 : ∀ c m, lookB (Mr c m).bs 7 = some (.cells false s.boxL)) (h0 : ∀ c m, lookB (Mr c m).bs 0 = some (.ints s.g))
    (hn : H0.next = 10) (hM : Mr 0 0 = ⟨12, (11, .cells false [.int .i64 0]) :: (10, .cells false [.func (.yield 9) #[] #[]]) :: H0.bs⟩)
    (hrow : ∀ (su : Int) (q : Nat) (c : Int) (m : Nat), q ≤ 200 → 0 ≤ c → c + q ≤ 100000 → call cl112t [.int .i64 su, .int .i64 q] (Mr c m) = some (rowR Mr (HD su q) (hit su q) q 0 c m)) :
    evFn (tabT Try.prog) call 300 kpT 111 Try.f111 [.func (.yield 9) #[] #[], .pointer (some ⟨7, 0, none⟩)] H0 = some (.tuple #[], rowsR Mr HD hit s.rows 0 0) := by
  obtain ⟨nx, bs⟩ := H0
  simp only at hn hM
  subst hn
  have T3z : (tabT Try.prog 3).map (fun y => y.zero.cells.toList) = some [.int .i64 0] := by rw [T3]; rfl
  have hM0 : lookB bs 7 = some (.cells false s.boxL) := by
    have := h6 0 0
    rw [hM] at this
    simpa [lookB, Nat.beq_eq] using this
  have hst0 : aStore (tabT Try.prog) (Mr 0 0) 3 (.pointer (some ⟨11, 0, none⟩)) (.int .i64 0) = some (Mr 0 0) := by rw [hM]; exact ST3top _ _ _ _ _
  simp only [cl112t] at hrow
  simp only [SV.boxL] at h6 hM0
  simp only [evFn, Try.f111]
  simp [ec_skip, ec_label, ek_reg, ek_draw, ek_seq, ec_cond, ek_block, ec_loop, ec_exit, ec_ret, ek_nil, ek_op, opK_some, regK_some, seqK_normal, seqK_exit, seqK_ret, blockK_normal, blockK_exit, blockK_ret, evOp, vOp, hOp, aWanted, aY, boolOf, opd, putT, closedV, undef, aBin, intOp, sameK, mapO, joinR, hasAddr, pushB, aAlloc, Value.cells, T3, T4, T22, FA24_0, FA24_1, FA24_2, FA24_3, FA24_4, FA24_5, FA24_6, FA24_7, FA24_8, LD3, LD4, LD22, LD27, LDr, LD24, LEN22, IA22, cellAt, lookB, Nat.beq_eq, takeCells, getT, setT, hst0, h6, ← hM]
  generalize hr : evLoop _ _ _ _ = r
  obtain ⟨z, A', H', rfl, hl, hmk, hz⟩ := loop_go (Q := Q111t s Mr HD hit (rowsR Mr HD hit s.rows 0 0)) hr (I111t s Mr HD hit (rowsR Mr HD hit s.rows 0 0)) s.n (by have := hs.n; omega) ⟨0, 0, 0, by omega, by omega, by omega, rfl, rfl, rfl, rfl, rfl, rfl, rfl, rfl, rfl⟩ (by
      clear hr
      rintro k A H ⟨i, c, m, him, hc0, hc9, hres, rfl, hl, hmk, g1, g4, g9, g10, g11⟩
      simp only [runC]
      cases k with
      | zero =>
        have hi : ¬ i < s.n := by omega
        simp only [suitRows, List.nil_append] at hres
        simp [ec_skip, ec_label, ek_reg, ek_draw, ek_seq, ec_cond, ek_block, ec_loop, ec_exit, ec_ret, ek_nil, ek_op, opK_some, regK_some, seqK_normal, seqK_exit, seqK_ret, blockK_normal, blockK_exit, blockK_ret, evOp, vOp, hOp, aWanted, aY, boolOf, opd, putT, closedV, undef, aBin, intOp, sameK, mapO, joinR, hasAddr, pushB, aAlloc, Value.cells, T3, T4, T22, FA24_0, FA24_1, FA24_2, FA24_3, FA24_4, FA24_5, FA24_6, FA24_7, FA24_8, LD3, LD4, LD22, LD27, LDr, LD24, LEN22, IA22, cellAt, lookB, Nat.beq_eq, takeCells, getT_set, setT_length, hl, hmk, g1, g4, g9, g10, g11, hi]
        exact .inr ⟨by simp, by simp [setT_length, hl], rfl, .inl ⟨rfl, by simp [getT_set, setT_length, hl, g1], by simp [getT_set, setT_length, hl, g4], c, m, hc0, by have := hs.n; omega, rfl, hres⟩⟩
      | succ k =>
        have hi : i < s.n := by omega
        have hw : wrapI .i64 ((i : Int) + 1) = ((i + 1 : Nat) : Int) := by rw [wrapI_small (by have := hs.n; omega) (by have := hs.n; omega)]; rfl
        obtain ⟨b1, b2⟩ := hs.g i hi
        have hq : ((s.g i).toNat : Int) = s.g i := by omega
        have hn3 := hs.n
        simp only [cl112t] at g4
        have hr' := hrow (i : Int) (s.g i).toNat c m (by omega) hc0 (by omega)
        rw [hq] at hr'
        simp only [suitRows, List.cons_append, rowsR] at hres
        rcases rowR_cases Mr (HD (i : Int) (s.g i).toNat) (hit (i : Int) (s.g i).toNat) (s.g i).toNat 0 c m with ⟨Hx, hx⟩ | hx
        · rw [hx] at hr' hres
          simp only at hres
          simp [ec_skip, ec_label, ek_reg, ek_draw, ek_seq, ec_cond, ek_block, ec_loop, ec_exit, ec_ret, ek_nil, ek_op, opK_some, regK_some, seqK_normal, seqK_exit, seqK_ret, blockK_normal, blockK_exit, blockK_ret, evOp, vOp, hOp, aWanted, aY, boolOf, opd, putT, closedV, undef, aBin, intOp, sameK, mapO, joinR, hasAddr, pushB, aAlloc, Value.cells, T3, T4, T22, FA24_0, FA24_1, FA24_2, FA24_3, FA24_4, FA24_5, FA24_6, FA24_7, FA24_8, LD3, LD4, LD22, LD27, LDr, LD24, LEN22, IA22, cellAt, lookB, Nat.beq_eq, takeCells, getT_set, setT_length, hl, hmk, g1, g4, g9, g10, g11, hi, h0, hr']
          exact .inr ⟨by simp, by simp [setT_length, hl], rfl, .inr ⟨rfl, hres⟩⟩
        · rw [hx] at hr' hres
          simp only at hres
          have hmax : max (s.g i) 0 = s.g i := by omega
          simp [ec_skip, ec_label, ek_reg, ek_draw, ek_seq, ec_cond, ek_block, ec_loop, ec_exit, ec_ret, ek_nil, ek_op, opK_some, regK_some, seqK_normal, seqK_exit, seqK_ret, blockK_normal, blockK_exit, blockK_ret, evOp, vOp, hOp, aWanted, aY, boolOf, opd, putT, closedV, undef, aBin, intOp, sameK, mapO, joinR, hasAddr, pushB, aAlloc, Value.cells, T3, T4, T22, FA24_0, FA24_1, FA24_2, FA24_3, FA24_4, FA24_5, FA24_6, FA24_7, FA24_8, LD3, LD4, LD22, LD27, LDr, LD24, LEN22, IA22, cellAt, lookB, Nat.beq_eq, takeCells, getT_set, setT_length, hl, hmk, g1, g4, g9, g10, g11, hi, h0, hr', hmax]
          refine .inl ⟨rfl, k, rfl, i + 1, c + (s.g i).toNat, m + (s.g i).toNat, by omega, by omega, by omega, hres, by rw [hq], ?_⟩
          simp [getT_set, setT_length, hl, g1, g4, g9, g10, g11, hw, cl112t])
  rcases hz with ⟨rfl, g1, g4, c, m, hc0, hc9, rfl, hz⟩ | ⟨rfl, hz⟩
  · obtain ⟨w1, w2⟩ := hs.w
    obtain ⟨d1, d2⟩ := hs.d
    obtain ⟨f1, f2⟩ := hs.f
    have qw : ((s.w).toNat : Int) = s.w := by omega
    have qd : ((s.d).toNat : Int) = s.d := by omega
    have qf : ((s.f).toNat : Int) = s.f := by omega
    simp only [cl112t] at g4
    have rw_ := hrow (-1) s.w.toNat c m (by omega) hc0 (by omega)
    rw [qw] at rw_
    simp only [SV.tail, rowsR] at hz
    rcases rowR_cases Mr (HD (-1) s.w.toNat) (hit (-1) s.w.toNat) s.w.toNat 0 c m with ⟨Hx, hx⟩ | hx
    · rw [hx] at rw_ hz
      simp only at hz
      simp [ec_skip, ec_label, ek_reg, ek_draw, ek_seq, ec_cond, ek_block, ec_loop, ec_exit, ec_ret, ek_nil, ek_op, opK_some, regK_some, seqK_normal, seqK_exit, seqK_ret, blockK_normal, blockK_exit, blockK_ret, evOp, vOp, hOp, aWanted, aY, boolOf, opd, putT, closedV, undef, aBin, intOp, sameK, mapO, joinR, hasAddr, pushB, aAlloc, Value.cells, T3, T4, T22, FA24_0, FA24_1, FA24_2, FA24_3, FA24_4, FA24_5, FA24_6, FA24_7, FA24_8, LD3, LD4, LD22, LD27, LDr, LD24, LEN22, IA22, cellAt, lookB, Nat.beq_eq, takeCells, finF, takeM, resV, getT_set, setT_length, hl, hmk, g1, g4, h6, rw_, cleaned, kpT, hz]
    · rw [hx] at rw_ hz
      simp only at hz
      have rd := hrow (-2) s.d.toNat (c + s.w.toNat) (m + s.w.toNat) (by omega) (by omega) (by omega)
      rw [qd] at rd
      rcases rowR_cases Mr (HD (-2) s.d.toNat) (hit (-2) s.d.toNat) s.d.toNat 0 (c + s.w.toNat) (m + s.w.toNat) with ⟨Hx, hx⟩ | hx
      · rw [hx] at rd hz
        simp only at hz
        rw [qw] at rd rw_
        simp [ec_skip, ec_label, ek_reg, ek_draw, ek_seq, ec_cond, ek_block, ec_loop, ec_exit, ec_ret, ek_nil, ek_op, opK_some, regK_some, seqK_normal, seqK_exit, seqK_ret, blockK_normal, blockK_exit, blockK_ret, evOp, vOp, hOp, aWanted, aY, boolOf, opd, putT, closedV, undef, aBin, intOp, sameK, mapO, joinR, hasAddr, pushB, aAlloc, Value.cells, T3, T4, T22, FA24_0, FA24_1, FA24_2, FA24_3, FA24_4, FA24_5, FA24_6, FA24_7, FA24_8, LD3, LD4, LD22, LD27, LDr, LD24, LEN22, IA22, cellAt, lookB, Nat.beq_eq, takeCells, finF, takeM, resV, getT_set, setT_length, hl, hmk, g1, g4, h6, rw_, rd, cleaned, kpT, hz]
      · rw [hx] at rd hz
        simp only at hz
        have rf := hrow (-3) s.f.toNat (c + s.w.toNat + s.d.toNat) (m + s.w.toNat + s.d.toNat) (by omega) (by omega) (by omega)
        rw [qf] at rf
        rcases rowR_cases Mr (HD (-3) s.f.toNat) (hit (-3) s.f.toNat) s.f.toNat 0 (c + s.w.toNat + s.d.toNat) (m + s.w.toNat + s.d.toNat) with ⟨Hx, hx⟩ | hx
        · rw [hx] at rf hz
          simp only at hz
          rw [qw] at rd rw_ rf
          rw [qd] at rd rf
          simp [ec_skip, ec_label, ek_reg, ek_draw, ek_seq, ec_cond, ek_block, ec_loop, ec_exit, ec_ret, ek_nil, ek_op, opK_some, regK_some, seqK_normal, seqK_exit, seqK_ret, blockK_normal, blockK_exit, blockK_ret, evOp, vOp, hOp, aWanted, aY, boolOf, opd, putT, closedV, undef, aBin, intOp, sameK, mapO, joinR, hasAddr, pushB, aAlloc, Value.cells, T3, T4, T22, FA24_0, FA24_1, FA24_2, FA24_3, FA24_4, FA24_5, FA24_6, FA24_7, FA24_8, LD3, LD4, LD22, LD27, LDr, LD24, LEN22, IA22, cellAt, lookB, Nat.beq_eq, takeCells, finF, takeM, resV, getT_set, setT_length, hl, hmk, g1, g4, h6, rw_, rd, rf, cleaned, kpT, hz]
        · rw [hx] at rf hz
          simp only at hz
          rw [qw] at rd rw_ rf
          rw [qd] at rd rf
          simp [ec_skip, ec_label, ek_reg, ek_draw, ek_seq, ec_cond, ek_block, ec_loop, ec_exit, ec_ret, ek_nil, ek_op, opK_some, regK_some, seqK_normal, seqK_exit, seqK_ret, blockK_normal, blockK_exit, blockK_ret, evOp, vOp, hOp, aWanted, aY, boolOf, opd, putT, closedV, undef, aBin, intOp, sameK, mapO, joinR, hasAddr, pushB, aAlloc, Value.cells, T3, T4, T22, FA24_0, FA24_1, FA24_2, FA24_3, FA24_4, FA24_5, FA24_6, FA24_7, FA24_8, LD3, LD4, LD22, LD27, LDr, LD24, LEN22, IA22, cellAt, lookB, Nat.beq_eq, takeCells, finF, takeM, resV, getT_set, setT_length, hl, hmk, g1, g4, h6, rw_, rd, rf, cleaned, kpT, ← hz, qw, qd, qf]
  · subst hz
    simp [ec_skip, ec_label, ek_reg, ek_draw, ek_seq, ec_cond, ek_block, ec_loop, ec_exit, ec_ret, ek_nil, ek_op, opK_some, regK_some, seqK_normal, seqK_exit, seqK_ret, blockK_normal, blockK_exit, blockK_ret, evOp, vOp, hOp, aWanted, aY, boolOf, opd, putT, closedV, undef, aBin, intOp, sameK, mapO, joinR, hasAddr, pushB, aAlloc, Value.cells, T3, T4, T22, FA24_0, FA24_1, FA24_2, FA24_3, FA24_4, FA24_5, FA24_6, FA24_7, FA24_8, LD3, LD4, LD22, LD27, LDr, LD24, LEN22, IA22, cellAt, lookB, Nat.beq_eq, takeCells, finF, takeM, resV, getT_set, setT_length, hl, hmk, cleaned, kpT]


end Go.Proofs.Ytkoppbbmdjhaoaa
