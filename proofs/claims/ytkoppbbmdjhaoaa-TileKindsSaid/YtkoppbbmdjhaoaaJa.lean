/-
  What is proved: what the closure in tile.kinds that yields the kinds of one suit (or of the winds, dragons, flowers) comes to, whatever the loop's body does with them.
-/
import Derived.Test.YtkoppbbmdjhaoaaHj
namespace Go.Proofs.Ytkoppbbmdjhaoaa
open Go.RowKit
set_option linter.unusedSimpArgs false

theorem F84 : tabF Try.prog 84 = some Try.f84 := by kernel_rfl
theorem F87 : tabF Try.prog 87 = some Try.f87 := by kernel_rfl
theorem F111 : tabF Try.prog 111 = some Try.f111 := by kernel_rfl
theorem F112 : tabF Try.prog 112 = some Try.f112 := by kernel_rfl

theorem LDg {t : TypeId} (h : (tabT Try.prog t).map (fun y => aggD y.desc) = some false) (H : AH) (i off : Nat) : aLoad (tabT Try.prog) H t (.pointer (some ⟨i, off, none⟩)) = cellAt H.bs i off := by
  cases ht : tabT Try.prog t with
  | none => rw [ht] at h; cases h
  | some y =>
    rw [ht] at h
    simp only [Option.map_some, Option.some.injEq] at h
    simp only [aLoad, ht, cellAt]
    cases hl : lookB H.bs i with
    | none => rfl
    | some k => cases k <;> simp [h]
theorem LD122 (H : AH) (i off : Nat) : aLoad (tabT Try.prog) H 122 (.pointer (some ⟨i, off, none⟩)) = cellAt H.bs i off := LDg (by kernel_rfl) H i off
theorem BD80 (a b c : Int) : aBuild (tabT Try.prog) 80 [(0, .int .i64 a), (1, .int .i64 b), (2, .int .i64 c)] = some (.agg #[.int .i64 a, .int .i64 b, .int .i64 c]) := by kernel_rfl
theorem ST3 (H : AH) (i off : Nat) (n : Int) (cs : List Value) (h : lookB H.bs i = some (.cells false cs)) (hl : off < cs.length) : aStore (tabT Try.prog) H 3 (.pointer (some ⟨i, off, none⟩)) (.int .i64 n) = some { H with bs := setB H.bs i (.cells false (cs.set off (.int .i64 n))) } := by
  have h1 : Nat.ble (off + 1) cs.length = true := by rw [Nat.ble_eq]; omega
  simp [aStore, T3, h, Value.cells, cellV, putCells, h1, Nat.beq_eq]

/-- A kind, as the rows yield it: which row, which rank of how many. -/
def placeV (su r q : Int) : Value := .agg #[.int .i64 su, .int .i64 r, .int .i64 q]

def rowR (Mr : Int → Nat → AH) (HD : Int → Int → Nat → AH) (hit : Int → Int → Bool) : Nat → Int → Int → Nat → Value × AH
  | 0, _, c, m => (.bool true, Mr c m)
  | k + 1, i, c, m => if hit c i then (.bool false, HD c i m) else rowR Mr HD hit k (i + 1) (c + 1) (m + 1)

def I112 (Mr : Int → Nat → AH) (HD : Int → Int → Nat → AH) (hit : Int → Int → Bool) (R : Value × AH) (su q : Int) (k : Nat) (A : AF) (H : AH) : Prop :=
  ∃ (i c : Int) (m : Nat), i + k = q ∧ 0 ≤ i ∧ q ≤ 200 ∧ 0 ≤ c ∧ c + k ≤ 100000 ∧ rowR Mr HD hit k i c m = R ∧ H = Mr c m ∧ A.tm.length = 23 ∧ A.marks = [] ∧ getT A.tm 0 = .int .i64 su ∧ getT A.tm 1 = .int .i64 q ∧ getT A.tm 2 = .pointer (some ⟨9, 0, none⟩) ∧ getT A.tm 3 = .pointer (some ⟨10, 0, none⟩) ∧ getT A.tm 8 = .int .i64 q ∧ getT A.tm 9 = .int .i64 i
def Q112 (R : Value × AH) (z : AX) (A' : AF) (H : AH) : Prop := A'.tm.length = 23 ∧ A'.marks = [] ∧ H = R.2 ∧ ((z = .exit 0 ∧ R.1 = .bool true) ∨ (z = .ret ∧ R.1 = .bool false ∧ getT A'.tm 6 = .bool false))

set_option maxRecDepth 10000 in
set_option maxHeartbeats 8000000 in
theorem row_ev (call : Value → List Value → AH → Option (Value × AH)) (Mr : Int → Nat → AH) (HD : Int → Int → Nat → AH) (hit : Int → Int → Bool) (su : Int) (q : Nat) (c : Int) (m : Nat)
    (h9 : ∀ c m, lookB (Mr c m).bs 9 = some (.cells false [.func (.yield 8) #[] #[]])) (h10 : ∀ c m, lookB (Mr c m).bs 10 = some (.cells false [.int .i64 c]))
    (hset : ∀ c m c', ({ Mr c m with bs := setB (Mr c m).bs 10 (.cells false [.int .i64 c']) } : AH) = Mr c' m)
    (hy : ∀ (c r : Int) (m : Nat), call (.func (.yield 8) #[] #[]) [.int .i64 c, placeV su r q] (Mr c m) = if hit c r then some (.bool false, HD c r m) else some (.bool true, Mr c (m + 1)))
    (hq : q ≤ 200) (hc0 : 0 ≤ c) (hcq : c + q ≤ 100000) :
    evFn (tabT Try.prog) call 300 kpT 112 Try.f112 [.int .i64 su, .int .i64 q, .pointer (some ⟨9, 0, none⟩), .pointer (some ⟨10, 0, none⟩)] (Mr c m) = some (rowR Mr HD hit q 0 c m) := by
  simp only [evFn, Try.f112]
  simp [ec_skip, ec_label, ek_reg, ek_draw, ek_seq, ec_cond, ek_block, ec_loop, ec_exit, ec_ret, ek_nil, ek_op, opK_some, regK_some, seqK_normal, seqK_exit, seqK_ret, blockK_normal, blockK_exit, blockK_ret, evOp, vOp, hOp, aWanted, aY, boolOf, opd, putT, closedV, undef, aBin, intOp, sameK, mapO, joinR, hasAddr, pushB, aAlloc, Value.cells, T3, T4, T22, FA24_0, FA24_1, FA24_2, FA24_3, FA24_4, FA24_5, FA24_6, FA24_7, FA24_8, LD3, LD4, LD22, LD27, LDr, LD24, LEN22, IA22, cellAt, lookB, Nat.beq_eq, takeCells, getT, setT]
  generalize hr : evLoop _ _ _ _ = r
  obtain ⟨z, A', H', rfl, hl, hmk, rfl, hz⟩ := loop_go (Q := Q112 (rowR Mr HD hit q 0 c m)) hr (I112 Mr HD hit (rowR Mr HD hit q 0 c m) su q) q (by omega) ⟨0, c, m, by omega, by omega, by omega, hc0, hcq, rfl, rfl, rfl, rfl, rfl, rfl, rfl, rfl, rfl, rfl⟩ (by
      clear hr
      rintro k A H ⟨i, c, m, him, hi0, hq1, hc0, hck, hres, rfl, hl, hmk, g0, g1, g2, g3, g8, g9⟩
      simp only [runC]
      cases k with
      | zero =>
        have hi : ¬ i < (q : Int) := by omega
        simp only [rowR] at hres
        simp [ec_skip, ec_label, ek_reg, ek_draw, ek_seq, ec_cond, ek_block, ec_loop, ec_exit, ec_ret, ek_nil, ek_op, opK_some, regK_some, seqK_normal, seqK_exit, seqK_ret, blockK_normal, blockK_exit, blockK_ret, evOp, vOp, hOp, aWanted, aY, boolOf, opd, putT, closedV, undef, aBin, intOp, sameK, mapO, joinR, hasAddr, pushB, aAlloc, Value.cells, T3, T4, T22, FA24_0, FA24_1, FA24_2, FA24_3, FA24_4, FA24_5, FA24_6, FA24_7, FA24_8, LD3, LD4, LD22, LD27, LDr, LD24, LEN22, IA22, cellAt, lookB, Nat.beq_eq, takeCells, getT_set, setT_length, hl, hmk, g0, g1, g2, g3, g8, g9, hi]
        exact .inr ⟨by simp, by simp [setT_length, hl], rfl, by rw [← hres], .inl ⟨rfl, by rw [← hres]⟩⟩
      | succ k =>
        have hi : i < (q : Int) := by omega
        have hw : wrapI .i64 (i + 1) = i + 1 := wrapI_small (by omega) (by omega)
        have hwc : wrapI .i64 (c + 1) = c + 1 := wrapI_small (by omega) (by omega)
        have hst := fun n => ST3 (Mr c (m + 1)) 10 0 n [.int .i64 c] (h10 c (m + 1)) (by simp)
        simp only [List.set_cons_zero, hset] at hst
        have hy' := hy c i m
        simp only [placeV] at hy'
        cases hh : hit c i with
        | true =>
          rw [hh, if_pos rfl] at hy'
          simp only [rowR, hh, if_true] at hres
          simp [ec_skip, ec_label, ek_reg, ek_draw, ek_seq, ec_cond, ek_block, ec_loop, ec_exit, ec_ret, ek_nil, ek_op, opK_some, regK_some, seqK_normal, seqK_exit, seqK_ret, blockK_normal, blockK_exit, blockK_ret, evOp, vOp, hOp, aWanted, aY, boolOf, opd, putT, closedV, undef, aBin, intOp, sameK, mapO, joinR, hasAddr, pushB, aAlloc, Value.cells, T3, T4, T22, FA24_0, FA24_1, FA24_2, FA24_3, FA24_4, FA24_5, FA24_6, FA24_7, FA24_8, LD3, LD4, LD22, LD27, LDr, LD24, LEN22, IA22, cellAt, lookB, Nat.beq_eq, takeCells, LD122, partsO, BD80, getT_set, setT_length, hl, hmk, g0, g1, g2, g3, g8, g9, hi, h9, h10, hy']
          exact .inr ⟨by simp, by simp [setT_length, hl], rfl, by rw [← hres], .inr ⟨rfl, by rw [← hres], by simp [getT_set, setT_length, hl]⟩⟩
        | false =>
          rw [hh, if_neg (by simp)] at hy'
          simp only [rowR, hh, Bool.false_eq_true, if_false] at hres
          simp [ec_skip, ec_label, ek_reg, ek_draw, ek_seq, ec_cond, ek_block, ec_loop, ec_exit, ec_ret, ek_nil, ek_op, opK_some, regK_some, seqK_normal, seqK_exit, seqK_ret, blockK_normal, blockK_exit, blockK_ret, evOp, vOp, hOp, aWanted, aY, boolOf, opd, putT, closedV, undef, aBin, intOp, sameK, mapO, joinR, hasAddr, pushB, aAlloc, Value.cells, T3, T4, T22, FA24_0, FA24_1, FA24_2, FA24_3, FA24_4, FA24_5, FA24_6, FA24_7, FA24_8, LD3, LD4, LD22, LD27, LDr, LD24, LEN22, IA22, cellAt, lookB, Nat.beq_eq, takeCells, LD122, partsO, BD80, getT_set, setT_length, hl, hmk, g0, g1, g2, g3, g8, g9, hi, h9, h10, hy', hst, hwc]
          refine .inl ⟨rfl, k, rfl, i + 1, c + 1, m + 1, by omega, by omega, hq1, by omega, by omega, hres, rfl, ?_⟩
          simp [getT_set, setT_length, hl, g0, g1, g2, g3, g8, g9, hw])
  rcases hz with ⟨rfl, hz⟩ | ⟨rfl, hz, h6⟩
  · simp [ec_skip, ec_label, ek_reg, ek_draw, ek_seq, ec_cond, ek_block, ec_loop, ec_exit, ec_ret, ek_nil, ek_op, opK_some, regK_some, seqK_normal, seqK_exit, seqK_ret, blockK_normal, blockK_exit, blockK_ret, evOp, vOp, hOp, aWanted, aY, boolOf, opd, putT, closedV, undef, aBin, intOp, sameK, mapO, joinR, hasAddr, pushB, aAlloc, Value.cells, T3, T4, T22, FA24_0, FA24_1, FA24_2, FA24_3, FA24_4, FA24_5, FA24_6, FA24_7, FA24_8, LD3, LD4, LD22, LD27, LDr, LD24, LEN22, IA22, cellAt, lookB, Nat.beq_eq, takeCells, finF, takeM, resV, getT_set, setT_length, hl, hmk, cleaned, kpT]
    generalize rowR Mr HD hit q 0 c m = R at hz ⊢
    obtain ⟨a, b⟩ := R
    simp only at hz
    rw [hz]
  · simp [ec_skip, ec_label, ek_reg, ek_draw, ek_seq, ec_cond, ek_block, ec_loop, ec_exit, ec_ret, ek_nil, ek_op, opK_some, regK_some, seqK_normal, seqK_exit, seqK_ret, blockK_normal, blockK_exit, blockK_ret, evOp, vOp, hOp, aWanted, aY, boolOf, opd, putT, closedV, undef, aBin, intOp, sameK, mapO, joinR, hasAddr, pushB, aAlloc, Value.cells, T3, T4, T22, FA24_0, FA24_1, FA24_2, FA24_3, FA24_4, FA24_5, FA24_6, FA24_7, FA24_8, LD3, LD4, LD22, LD27, LDr, LD24, LEN22, IA22, cellAt, lookB, Nat.beq_eq, takeCells, finF, takeM, resV, getT_set, setT_length, hl, hmk, h6, cleaned, kpT]
    generalize rowR Mr HD hit q 0 c m = R at hz ⊢
    obtain ⟨a, b⟩ := R
    simp only at hz
    rw [hz]

end Go.Proofs.Ytkoppbbmdjhaoaa
