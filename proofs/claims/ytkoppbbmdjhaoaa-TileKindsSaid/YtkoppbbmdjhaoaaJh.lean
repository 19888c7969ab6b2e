/-
  What is proved: what the document's own Place answers for every set and every number: the row that find names.
-/
import Derived.Test.YtkoppbbmdjhaoaaJg
namespace Go.Proofs.Ytkoppbbmdjhaoaa
open Go.RowKit
set_option linter.unusedSimpArgs false

theorem F27 : tabF Try.prog 27 = some Try.f27 := by kernel_rfl

theorem plain_small {s : SV} (h : s.Small) : 0 ≤ s.plain ∧ s.plain ≤ 34 ∧ wrapI .i64 (s.w + s.d) = s.w + s.d := by
  obtain ⟨hn, hg, hw, hd, hf⟩ := h
  have e0 : wrapI .i64 (s.w + s.d) = s.w + s.d := wrapI_small (by omega) (by omega)
  refine ⟨?_, ?_, e0⟩ <;> unfold SV.plain <;> rw [e0]
  all_goals
    generalize hnn : s.n = n at hn hg
    match n, hn, hg with
    | 0, _, _ => simp only [sumG]; omega
    | 1, _, hg =>
      have a0 := hg 0 (by omega)
      simp only [sumG, Nat.zero_add, Nat.reduceAdd]
      rw [wrapI_small (by omega) (by omega)]; omega
    | 2, _, hg =>
      have a0 := hg 0 (by omega)
      have a1 := hg 1 (by omega)
      simp only [sumG, Nat.zero_add, Nat.reduceAdd]
      rw [wrapI_small (n := s.w + s.d + s.g 0) (by omega) (by omega), wrapI_small (by omega) (by omega)]; omega
    | 3, _, hg =>
      have a0 := hg 0 (by omega)
      have a1 := hg 1 (by omega)
      have a2 := hg 2 (by omega)
      simp only [sumG, Nat.zero_add, Nat.reduceAdd]
      rw [wrapI_small (n := s.w + s.d + s.g 0) (by omega) (by omega), wrapI_small (n := s.w + s.d + s.g 0 + s.g 1) (by omega) (by omega), wrapI_small (by omega) (by omega)]; omega
    | n + 4, h4, _ => exact absurd h4 (by omega)

def placeT (x : Option (Int × Int × Int)) : Value :=
  match x with
  | some (su, r, _) => .tuple #[.int .i64 su, .int .i64 r]
  | none => .tuple #[.int .i64 (-4), .int .i64 0]

def P27 (s : SV) (R : Bool) (r : List DR × Nat) : Prop := r.2 = 3 ∧ wheap s.bx.bs r.1 = s.bx.bs ∧ ∀ tm, tv tm all1 r.1 23 = .bool R ∧ tv tm all1 r.1 1 = getT tm 1 ∧ tv tm all1 r.1 2 = getT tm 2
def P27b (s : SV) (x : Int) (r : List DR × Nat) : Prop := r.2 = 3 ∧ wheap s.bx.bs r.1 = s.bx.bs ∧ ∀ tm, tv tm all1 r.1 4 = .int .i64 (-3) ∧ tv tm all1 r.1 5 = .int .i64 x

def I27 (s : SV) (kind : Int) (k : Nat) (A : AF) (H : AH) : Prop :=
  ∃ (i : Nat) (c : Int), i + k = s.n ∧ 0 ≤ c ∧ c ≤ 9 * i ∧ c ≤ kind ∧ findRows (suitRows s.g k i ++ s.tail) c kind = s.find kind ∧ sumG s.g k i (s.w + s.d + c) = s.plain ∧ H = s.bx ∧
    A.tm.length = 66 ∧ A.marks = [] ∧ getT A.tm 2 = .pointer (some ⟨2, 0, none⟩) ∧ getT A.tm 6 = .int .i64 (kind - c) ∧ getT A.tm 7 = .int .i64 (i : Int)
def Q27 (s : SV) (kind : Int) (z : AX) (A' : AF) (H : AH) : Prop :=
  A'.tm.length = 66 ∧ A'.marks = [] ∧ H = s.bx ∧ ((z = .exit 0 ∧ getT A'.tm 2 = .pointer (some ⟨2, 0, none⟩) ∧ ∃ c : Int, 0 ≤ c ∧ c ≤ 27 ∧ c ≤ kind ∧ findRows s.tail c kind = s.find kind ∧ s.w + s.d + c = s.plain ∧ getT A'.tm 6 = .int .i64 (kind - c)) ∨
    (z = .ret ∧ ∃ su r q, s.find kind = some (su, r, q) ∧ getT A'.tm 4 = .int .i64 su ∧ getT A'.tm 5 = .int .i64 r))

theorem find_none {s : SV} {kind : Int} (h : kind < 0 ∨ (s.err = 0 → s.plain + s.f ≤ kind)) : s.find kind = none := by
  unfold SV.find
  by_cases he : s.err = 0
  · rw [if_pos he]
    have hs := small_of_err he
    obtain ⟨p0, p1, e0⟩ := plain_small hs
    have key : ∀ (k i : Nat) (c : Int), i + k = s.n → 0 ≤ c → c ≤ 9 * i → sumG s.g k i (s.w + s.d + c) = s.plain → findRows (suitRows s.g k i ++ s.tail) c kind = none := by
      intro k
      induction k with
      | zero =>
        intro i c hi hc hc9 hsum
        obtain ⟨w1, w2⟩ := hs.w
        obtain ⟨d1, d2⟩ := hs.d
        obtain ⟨f1, f2⟩ := hs.f
        have hn := hs.n
        simp only [sumG] at hsum
        simp only [suitRows, List.nil_append, SV.tail, findRows]
        have q1 : ((s.w).toNat : Int) = s.w := by omega
        have q2 : ((s.d).toNat : Int) = s.d := by omega
        have q3 : ((s.f).toNat : Int) = s.f := by omega
        rw [q1, q2, q3]
        rcases h with h | h
        · rw [if_neg (by omega), if_neg (by omega), if_neg (by omega)]
        · have := h he
          rw [if_neg (by omega), if_neg (by omega), if_neg (by omega)]
      | succ k ih =>
        intro i c hi hc hc9 hsum
        have hn := hs.n
        obtain ⟨b1, b2⟩ := hs.g i (by omega)
        obtain ⟨w1, w2⟩ := hs.w
        obtain ⟨d1, d2⟩ := hs.d
        have q1 : ((s.g i).toNat : Int) = s.g i := by omega
        simp only [sumG] at hsum
        rw [wrapI_small (by omega) (by omega)] at hsum
        simp only [suitRows, List.cons_append, findRows]
        rw [q1]
        have hmono : ∀ (k i : Nat) (a : Int), i + k = s.n → 0 ≤ a → a ≤ 7 + 9 * i → a ≤ sumG s.g k i a := by
          intro k
          induction k with
          | zero => intro i a _ _ _; simp [sumG]
          | succ k ihk =>
            intro i a hi ha ha9
            obtain ⟨b1, b2⟩ := hs.g i (by omega)
            simp only [sumG]
            rw [wrapI_small (by omega) (by omega)]
            have := ihk (i + 1) (a + s.g i) (by omega) (by omega) (by omega)
            omega
        have hm := hmono k (i + 1) (s.w + s.d + c + s.g i) (by omega) (by omega) (by omega)
        rw [hsum] at hm
        obtain ⟨f1, f2⟩ := hs.f
        have hno : ¬ (c ≤ kind ∧ kind < c + s.g i) := by
          rcases h with h | h
          · omega
          · have := h he
            omega
        rw [if_neg hno]
        exact ih (i + 1) (c + s.g i) (by omega) (by omega) (by omega) (by rw [← hsum]; congr 1; omega)
    exact key s.n 0 0 (by omega) (by omega) (by omega) (by rw [Int.add_zero]; show sumG s.g s.n 0 (s.w + s.d) = s.plain; rw [SV.plain, e0])
  · rw [if_neg he]

set_option maxRecDepth 10000 in
set_option maxHeartbeats 8000000 in
theorem rplace_ev (call : Value → List Value → AH → Option (Value × AH)) (h20 : ∀ (s : SV) (H : AH), lookB H.bs 0 = some (.ints s.g) → lookB H.bs 1 = some (.ints s.h) → call (.func (.func 20) #[] #[]) [s.val] H = some (.int .i64 s.kinds, H))
    (h18 : ∀ (s : SV) (H : AH), lookB H.bs 0 = some (.ints s.g) → lookB H.bs 1 = some (.ints s.h) → call (.func (.func 18) #[] #[]) [s.val] H = some (.int .i64 s.err, H)) (s : SV) (kind : Int) :
    ∃ H', evFn (tabT Try.prog) call 300 kpT 27 Try.f27 [s.val, .int .i64 kind] s.hp = some (placeT (s.find kind), H') := by
  have h20' := h20 s
  have h18' := h18 s
  simp only [SV.val] at h20' h18'
  simp only [evFn, Try.f27, SV.val, SV.hp]
  simp [ec_skip, ec_label, ek_reg, ek_draw, ek_seq, ec_cond, ek_block, ec_loop, ec_exit, ec_ret, ek_nil, ek_op, opK_some, regK_some, seqK_normal, seqK_exit, seqK_ret, blockK_normal, blockK_exit, blockK_ret, evOp, vOp, hOp, aWanted, aY, boolOf, opd, putT, closedV, undef, aBin, intOp, sameK, mapO, joinR, hasAddr, pushB, aAlloc, Value.cells, T3, T4, T22, FA24_0, FA24_1, FA24_2, FA24_3, FA24_4, FA24_5, FA24_6, FA24_7, FA24_8, LD3, LD4, LD22, LD27, LDr, LD24, LEN22, IA22, cellAt, lookB, Nat.beq_eq, takeCells, getT, setT]
  generalize hX : evDraw _ _ _ _ _ = X
  by_cases c0 : kind < 0
  · have hf := find_none (s := s) (kind := kind) (.inl c0)
    obtain ⟨⟨rs, nx⟩, rfl, hnx, hwh, htv⟩ := evDraw_ex (Pq := P27 s true) hX (by kernel_rfl) (by simp [decrK]) (by
      clear hX
      generalize befs _ = M
      simp [mapO, drRun, drOp, looks, guardT, tmpsOf, Op.operands, Call.operands, wantedR, gOf, natMem, tv, all1, roB, news, newOnes, decr, evOp, vOp, hOp, opd, closedV, undef, aBin, intOp, sameK, opdO, FA24_0, FA24_1, FA24_2, FA24_3, FA24_4, FA24_5, FA24_8, LD3, LD22, LD24, LDr, IA22, cellAt, lookB, Nat.beq_eq, T3, T4, T22, takeCells, getT, h20', h18', c0]
      exact ⟨by simp [dynOK, b02, b12], rfl, by simp [SV.bx, wheap, news], fun tm => by simp [tv, all1]⟩)
    simp [ec_skip, ec_label, ek_reg, ek_draw, ek_seq, ec_cond, ek_block, ec_loop, ec_exit, ec_ret, ek_nil, ek_op, opK_some, regK_some, seqK_normal, seqK_exit, seqK_ret, blockK_normal, blockK_exit, blockK_ret, evOp, vOp, hOp, aWanted, aY, boolOf, opd, putT, closedV, undef, aBin, intOp, sameK, mapO, joinR, hasAddr, pushB, aAlloc, Value.cells, T3, T4, T22, FA24_0, FA24_1, FA24_2, FA24_3, FA24_4, FA24_5, FA24_6, FA24_7, FA24_8, LD3, LD4, LD22, LD27, LDr, LD24, LEN22, IA22, cellAt, lookB, Nat.beq_eq, takeCells, finF, takeM, resV, getT_set, setT_length, getT_fin, fin_length, htv, hf, placeT]
  have c0' : ¬ kind < 0 := c0
  have c0'' : 0 ≤ kind := by omega
  by_cases c2 : wrapI .i64 (s.kinds + s.f) ≤ kind
  · have hf := find_none (s := s) (kind := kind) (.inr fun he => by
      have hs := small_of_err he
      obtain ⟨p0, p1, _⟩ := plain_small hs
      have hff := hs.f
      rw [SV.kinds, if_pos he, wrapI_small (by omega) (by omega)] at c2
      exact c2)
    obtain ⟨⟨rs, nx⟩, rfl, hnx, hwh, htv⟩ := evDraw_ex (Pq := P27 s true) hX (by kernel_rfl) (by simp [decrK]) (by
      clear hX
      generalize befs _ = M
      simp [mapO, drRun, drOp, looks, guardT, tmpsOf, Op.operands, Call.operands, wantedR, gOf, natMem, tv, all1, roB, news, newOnes, decr, evOp, vOp, hOp, opd, closedV, undef, aBin, intOp, sameK, opdO, FA24_0, FA24_1, FA24_2, FA24_3, FA24_4, FA24_5, FA24_8, LD3, LD22, LD24, LDr, IA22, cellAt, lookB, Nat.beq_eq, T3, T4, T22, takeCells, getT, h20', h18', c0', c0'', c2]
      exact ⟨by simp [dynOK, b02, b12], rfl, by simp [SV.bx, wheap, news], fun tm => by simp [tv, all1]⟩)
    simp [ec_skip, ec_label, ek_reg, ek_draw, ek_seq, ec_cond, ek_block, ec_loop, ec_exit, ec_ret, ek_nil, ek_op, opK_some, regK_some, seqK_normal, seqK_exit, seqK_ret, blockK_normal, blockK_exit, blockK_ret, evOp, vOp, hOp, aWanted, aY, boolOf, opd, putT, closedV, undef, aBin, intOp, sameK, mapO, joinR, hasAddr, pushB, aAlloc, Value.cells, T3, T4, T22, FA24_0, FA24_1, FA24_2, FA24_3, FA24_4, FA24_5, FA24_6, FA24_7, FA24_8, LD3, LD4, LD22, LD27, LDr, LD24, LEN22, IA22, cellAt, lookB, Nat.beq_eq, takeCells, finF, takeM, resV, getT_set, setT_length, getT_fin, fin_length, htv, hf, placeT]
  have c2' : ¬ wrapI .i64 (s.kinds + s.f) ≤ kind := c2
  have c2'' : kind < wrapI .i64 (s.kinds + s.f) := by omega
  by_cases c3 : s.err = 0
  rotate_left
  · have hf : s.find kind = none := by unfold SV.find; rw [if_neg c3]
    have c3' : (s.err != 0) = true := by simpa using c3
    obtain ⟨⟨rs, nx⟩, rfl, hnx, hwh, htv⟩ := evDraw_ex (Pq := P27 s true) hX (by kernel_rfl) (by simp [decrK]) (by
      clear hX
      generalize befs _ = M
      simp [mapO, drRun, drOp, looks, guardT, tmpsOf, Op.operands, Call.operands, wantedR, gOf, natMem, tv, all1, roB, news, newOnes, decr, evOp, vOp, hOp, opd, closedV, undef, aBin, intOp, sameK, opdO, FA24_0, FA24_1, FA24_2, FA24_3, FA24_4, FA24_5, FA24_8, LD3, LD22, LD24, LDr, IA22, cellAt, lookB, Nat.beq_eq, T3, T4, T22, takeCells, T27, getT, h20', h18', c0', c0'', c2', c2'', c3, c3']
      exact ⟨by simp [dynOK, b02, b12], rfl, by simp [SV.bx, wheap, news], fun tm => by simp [tv, all1]⟩)
    simp [ec_skip, ec_label, ek_reg, ek_draw, ek_seq, ec_cond, ek_block, ec_loop, ec_exit, ec_ret, ek_nil, ek_op, opK_some, regK_some, seqK_normal, seqK_exit, seqK_ret, blockK_normal, blockK_exit, blockK_ret, evOp, vOp, hOp, aWanted, aY, boolOf, opd, putT, closedV, undef, aBin, intOp, sameK, mapO, joinR, hasAddr, pushB, aAlloc, Value.cells, T3, T4, T22, FA24_0, FA24_1, FA24_2, FA24_3, FA24_4, FA24_5, FA24_6, FA24_7, FA24_8, LD3, LD4, LD22, LD27, LDr, LD24, LEN22, IA22, cellAt, lookB, Nat.beq_eq, takeCells, finF, takeM, resV, getT_set, setT_length, getT_fin, fin_length, htv, hf, placeT]
  have hs := small_of_err c3
  obtain ⟨p0, p1, e0⟩ := plain_small hs
  obtain ⟨f1, f2⟩ := hs.f
  obtain ⟨w1, w2⟩ := hs.w
  obtain ⟨d1, d2⟩ := hs.d
  have hn3 := hs.n
  have hkk : kind < s.plain + s.f := by
    rw [SV.kinds, if_pos c3, wrapI_small (by omega) (by omega)] at c2''
    exact c2''
  have c3' : (s.err != 0) = false := by simpa using c3
  obtain ⟨⟨rs, nx⟩, rfl, hnx, hwh, htv⟩ := evDraw_ex (Pq := P27 s false) hX (by kernel_rfl) (by simp [decrK]) (by
    clear hX
    generalize befs _ = M
    simp [mapO, drRun, drOp, looks, guardT, tmpsOf, Op.operands, Call.operands, wantedR, gOf, natMem, tv, all1, roB, news, newOnes, decr, evOp, vOp, hOp, opd, closedV, undef, aBin, intOp, sameK, opdO, FA24_0, FA24_1, FA24_2, FA24_3, FA24_4, FA24_5, FA24_8, LD3, LD22, LD24, LDr, IA22, cellAt, lookB, Nat.beq_eq, T3, T4, T22, takeCells, T27, getT, h20', h18', c0', c0'', c2', c2'', c3, c3']
    exact ⟨by simp [dynOK, b02, b12], rfl, by simp [SV.bx, wheap, news], fun tm => by simp [tv, all1]⟩)
  simp only at hnx hwh htv
  subst hnx
  simp only [SV.bx] at hwh
  simp [ec_skip, ec_label, ek_reg, ek_draw, ek_seq, ec_cond, ek_block, ec_loop, ec_exit, ec_ret, ek_nil, ek_op, opK_some, regK_some, seqK_normal, seqK_exit, seqK_ret, blockK_normal, blockK_exit, blockK_ret, evOp, vOp, hOp, aWanted, aY, boolOf, opd, putT, closedV, undef, aBin, intOp, sameK, mapO, joinR, hasAddr, pushB, aAlloc, Value.cells, T3, T4, T22, FA24_0, FA24_1, FA24_2, FA24_3, FA24_4, FA24_5, FA24_6, FA24_7, FA24_8, LD3, LD4, LD22, LD27, LDr, LD24, LEN22, IA22, cellAt, lookB, Nat.beq_eq, takeCells, getT_set, setT_length, getT_fin, fin_length, htv, hwh]
  generalize hr : evLoop _ _ _ _ = r
  obtain ⟨z, A', H', rfl, hl, hmk, rfl, hz⟩ := loop_go (Q := Q27 s kind) hr (I27 s kind) s.n (by omega) ⟨0, 0, by omega, by omega, by omega, c0'', by rw [SV.find, if_pos c3]; rfl, by rw [Int.add_zero, SV.plain, e0], by simp [SV.bx], by simp [setT_length, fin_length], by simp, by simp [getT_set, setT_length, getT_fin, fin_length, htv, getT], by simp [getT_set, setT_length, getT_fin, fin_length, htv, getT], by simp [getT_set, setT_length, getT_fin, fin_length, htv, getT]⟩ (by
      clear hr hX htv hwh
      rintro k A H ⟨i, c, him, hc0, hc9, hck, hfi, hsum, rfl, hl, hmk, g2, g6, g7⟩
      simp only [runC, SV.bx]
      cases k with
      | zero =>
        have hi : ¬ i < s.n := by omega
        simp only [suitRows, List.nil_append] at hfi
        simp only [sumG] at hsum
        simp [ec_skip, ec_label, ek_reg, ek_draw, ek_seq, ec_cond, ek_block, ec_loop, ec_exit, ec_ret, ek_nil, ek_op, opK_some, regK_some, seqK_normal, seqK_exit, seqK_ret, blockK_normal, blockK_exit, blockK_ret, evOp, vOp, hOp, aWanted, aY, boolOf, opd, putT, closedV, undef, aBin, intOp, sameK, mapO, joinR, hasAddr, pushB, aAlloc, Value.cells, T3, T4, T22, FA24_0, FA24_1, FA24_2, FA24_3, FA24_4, FA24_5, FA24_6, FA24_7, FA24_8, LD3, LD4, LD22, LD27, LDr, LD24, LEN22, IA22, cellAt, lookB, Nat.beq_eq, takeCells, getT_set, setT_length, hl, hmk, g2, g6, g7, hi]
        exact .inr ⟨by simp, by simp [setT_length, hl], rfl, by simp [SV.bx], .inl ⟨rfl, by simp [getT_set, setT_length, hl, g2], c, hc0, by omega, hck, hfi, hsum, by simp [getT_set, setT_length, hl, g6]⟩⟩
      | succ k =>
        have hi : i < s.n := by omega
        have hw : wrapI .i64 ((i : Int) + 1) = ((i + 1 : Nat) : Int) := by rw [wrapI_small (by omega) (by omega)]; rfl
        obtain ⟨b1, b2⟩ := hs.g i hi
        have q1 : ((s.g i).toNat : Int) = s.g i := by omega
        simp only [sumG] at hsum
        rw [wrapI_small (by omega) (by omega)] at hsum
        simp only [suitRows, List.cons_append, findRows] at hfi
        rw [q1] at hfi
        by_cases hh : kind - c < s.g i
        · rw [if_pos (by omega)] at hfi
          simp [ec_skip, ec_label, ek_reg, ek_draw, ek_seq, ec_cond, ek_block, ec_loop, ec_exit, ec_ret, ek_nil, ek_op, opK_some, regK_some, seqK_normal, seqK_exit, seqK_ret, blockK_normal, blockK_exit, blockK_ret, evOp, vOp, hOp, aWanted, aY, boolOf, opd, putT, closedV, undef, aBin, intOp, sameK, mapO, joinR, hasAddr, pushB, aAlloc, Value.cells, T3, T4, T22, FA24_0, FA24_1, FA24_2, FA24_3, FA24_4, FA24_5, FA24_6, FA24_7, FA24_8, LD3, LD4, LD22, LD27, LDr, LD24, LEN22, IA22, cellAt, lookB, Nat.beq_eq, takeCells, getT_set, setT_length, hl, hmk, g2, g6, g7, hi, hh]
          exact .inr ⟨by simp, by simp [setT_length, hl], rfl, by simp [SV.bx], .inr ⟨rfl, _, _, _, hfi.symm, by simp [getT_set, setT_length, hl], by simp [getT_set, setT_length, hl]⟩⟩
        · rw [if_neg (by omega)] at hfi
          have hwk : wrapI .i64 (kind - c - s.g i) = kind - (c + s.g i) := by rw [wrapI_small (by omega) (by omega)]; omega
          simp [ec_skip, ec_label, ek_reg, ek_draw, ek_seq, ec_cond, ek_block, ec_loop, ec_exit, ec_ret, ek_nil, ek_op, opK_some, regK_some, seqK_normal, seqK_exit, seqK_ret, blockK_normal, blockK_exit, blockK_ret, evOp, vOp, hOp, aWanted, aY, boolOf, opd, putT, closedV, undef, aBin, intOp, sameK, mapO, joinR, hasAddr, pushB, aAlloc, Value.cells, T3, T4, T22, FA24_0, FA24_1, FA24_2, FA24_3, FA24_4, FA24_5, FA24_6, FA24_7, FA24_8, LD3, LD4, LD22, LD27, LDr, LD24, LEN22, IA22, cellAt, lookB, Nat.beq_eq, takeCells, getT_set, setT_length, hl, hmk, g2, g6, g7, hi, hh]
          refine .inl ⟨rfl, k, rfl, i + 1, c + s.g i, by omega, by omega, by omega, by omega, hfi, by rw [← hsum]; congr 1; omega, by simp [SV.bx], ?_⟩
          simp [getT_set, setT_length, hl, g2, g6, g7, hw, hwk])
  rcases hz with ⟨rfl, g2, c, hc0, hc9, hck, hfi, hsum, g6⟩ | ⟨rfl, su, r, q, hfi, g4, g5⟩
  rotate_left
  · simp [ec_skip, ec_label, ek_reg, ek_draw, ek_seq, ec_cond, ek_block, ec_loop, ec_exit, ec_ret, ek_nil, ek_op, opK_some, regK_some, seqK_normal, seqK_exit, seqK_ret, blockK_normal, blockK_exit, blockK_ret, evOp, vOp, hOp, aWanted, aY, boolOf, opd, putT, closedV, undef, aBin, intOp, sameK, mapO, joinR, hasAddr, pushB, aAlloc, Value.cells, T3, T4, T22, FA24_0, FA24_1, FA24_2, FA24_3, FA24_4, FA24_5, FA24_6, FA24_7, FA24_8, LD3, LD4, LD22, LD27, LDr, LD24, LEN22, IA22, cellAt, lookB, Nat.beq_eq, takeCells, finF, takeM, resV, getT_set, setT_length, hl, hmk, g4, g5, hfi, placeT]
  have qw : ((s.w).toNat : Int) = s.w := by omega
  have qd : ((s.d).toNat : Int) = s.d := by omega
  have qf : ((s.f).toNat : Int) = s.f := by omega
  simp only [SV.tail, findRows] at hfi
  rw [qw, qd, qf] at hfi
  by_cases k1 : kind - c < s.w
  · rw [if_pos (by omega)] at hfi
    simp [ec_skip, ec_label, ek_reg, ek_draw, ek_seq, ec_cond, ek_block, ec_loop, ec_exit, ec_ret, ek_nil, ek_op, opK_some, regK_some, seqK_normal, seqK_exit, seqK_ret, blockK_normal, blockK_exit, blockK_ret, evOp, vOp, hOp, aWanted, aY, boolOf, opd, putT, closedV, undef, aBin, intOp, sameK, mapO, joinR, hasAddr, pushB, aAlloc, Value.cells, T3, T4, T22, FA24_0, FA24_1, FA24_2, FA24_3, FA24_4, FA24_5, FA24_6, FA24_7, FA24_8, LD3, LD4, LD22, LD27, LDr, LD24, LEN22, IA22, cellAt, lookB, Nat.beq_eq, takeCells, finF, takeM, resV, getT_set, setT_length, SV.bx, hl, hmk, g2, g6, k1, ← hfi, placeT]
  rw [if_neg (by omega)] at hfi
  have hw1 : wrapI .i64 (kind - c - s.w) = kind - (c + s.w) := by rw [wrapI_small (by omega) (by omega)]; omega
  by_cases k2 : kind - (c + s.w) < s.d
  · rw [if_pos (by omega)] at hfi
    simp [ec_skip, ec_label, ek_reg, ek_draw, ek_seq, ec_cond, ek_block, ec_loop, ec_exit, ec_ret, ek_nil, ek_op, opK_some, regK_some, seqK_normal, seqK_exit, seqK_ret, blockK_normal, blockK_exit, blockK_ret, evOp, vOp, hOp, aWanted, aY, boolOf, opd, putT, closedV, undef, aBin, intOp, sameK, mapO, joinR, hasAddr, pushB, aAlloc, Value.cells, T3, T4, T22, FA24_0, FA24_1, FA24_2, FA24_3, FA24_4, FA24_5, FA24_6, FA24_7, FA24_8, LD3, LD4, LD22, LD27, LDr, LD24, LEN22, IA22, cellAt, lookB, Nat.beq_eq, takeCells, finF, takeM, resV, getT_set, setT_length, SV.bx, hl, hmk, g2, g6, k1, hw1, k2, ← hfi, placeT]
  rw [if_neg (by omega), if_pos (by omega)] at hfi
  have hw2 : wrapI .i64 (kind - (c + s.w) - s.d) = kind - (c + s.w + s.d) := by rw [wrapI_small (by omega) (by omega)]; omega
  simp [ec_skip, ec_label, ek_reg, ek_draw, ek_seq, ec_cond, ek_block, ec_loop, ec_exit, ec_ret, ek_nil, ek_op, opK_some, regK_some, seqK_normal, seqK_exit, seqK_ret, blockK_normal, blockK_exit, blockK_ret, evOp, vOp, hOp, aWanted, aY, boolOf, opd, putT, closedV, undef, aBin, intOp, sameK, mapO, joinR, hasAddr, pushB, aAlloc, Value.cells, T3, T4, T22, FA24_0, FA24_1, FA24_2, FA24_3, FA24_4, FA24_5, FA24_6, FA24_7, FA24_8, LD3, LD4, LD22, LD27, LDr, LD24, LEN22, IA22, cellAt, lookB, Nat.beq_eq, takeCells, getT_set, setT_length, SV.bx, hl, hmk, g2, g6, k1, hw1, k2]
  clear hX
  generalize hX : evDraw _ _ _ _ _ = X
  obtain ⟨⟨rs2, nx2⟩, rfl, hnx2, hwh2, htv2⟩ := evDraw_ex (Pq := P27b s (kind - (c + s.w + s.d))) hX (by kernel_rfl) (by simp [decrK]) (by
    clear hX
    generalize befs _ = M
    simp [mapO, drRun, drOp, looks, guardT, tmpsOf, Op.operands, Call.operands, wantedR, gOf, natMem, tv, all1, roB, news, newOnes, decr, evOp, vOp, hOp, opd, closedV, undef, aBin, intOp, sameK, opdO, FA24_0, FA24_1, FA24_2, FA24_3, FA24_4, FA24_5, FA24_8, LD3, LD22, LD24, LDr, IA22, cellAt, lookB, Nat.beq_eq, T3, T4, T22, takeCells, getT_set, setT_length, hl, g2, g6, hw2]
    exact ⟨by simp [dynOK, b02, b12, setT_length, hl], rfl, by simp [SV.bx, wheap, news], fun tm => by simp [tv, all1]⟩)
  simp [ec_skip, ec_label, ek_reg, ek_draw, ek_seq, ec_cond, ek_block, ec_loop, ec_exit, ec_ret, ek_nil, ek_op, opK_some, regK_some, seqK_normal, seqK_exit, seqK_ret, blockK_normal, blockK_exit, blockK_ret, evOp, vOp, hOp, aWanted, aY, boolOf, opd, putT, closedV, undef, aBin, intOp, sameK, mapO, joinR, hasAddr, pushB, aAlloc, Value.cells, T3, T4, T22, FA24_0, FA24_1, FA24_2, FA24_3, FA24_4, FA24_5, FA24_6, FA24_7, FA24_8, LD3, LD4, LD22, LD27, LDr, LD24, LEN22, IA22, cellAt, lookB, Nat.beq_eq, takeCells, finF, takeM, resV, getT_set, setT_length, getT_fin, fin_length, htv2, hl, hmk, ← hfi, placeT]

end Go.Proofs.Ytkoppbbmdjhaoaa
