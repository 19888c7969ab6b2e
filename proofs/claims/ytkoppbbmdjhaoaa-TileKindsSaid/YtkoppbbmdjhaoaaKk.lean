/-
  What is proved: what tile.kinds comes to for a loop's body that always goes on: every row in its order, whatever the memory is that the body keeps.
-/
import Derived.Test.YtkoppbbmdjhaoaaKj
namespace Go.Proofs.Ytkoppbbmdjhaoaa
open Go.RowKit
set_option linter.unusedSimpArgs false

section
variable {X : Type}

def rowX (st : Int → Int → X → X) : Nat → Int → Int → X → X
  | 0, _, _, x => x
  | k + 1, r, c, x => rowX st k (r + 1) (c + 1) (st r c x)

def rowsX (st : Int → Nat → Int → Int → X → X) : List (Int × Nat) → Int → X → X
  | [], _, x => x
  | (su, q) :: l, c, x => rowsX st l (c + q) (rowX (st su q) q 0 c x)

/-- What a body that always goes on keeps true of the memory. -/
structure Keeps (Inv Mid : Int → X → AH → Prop) : Prop where
  y : ∀ c x H, Inv c x H → lookB H.bs 7 = some (.cells false [.func (.yield 6) #[] #[]])
  c : ∀ c x H, Inv c x H → lookB H.bs 8 = some (.cells false [.int .i64 c])
  m : ∀ c x H, Mid c x H → lookB H.bs 8 = some (.cells false [.int .i64 c])
  s : ∀ c x H, Mid c x H → Inv (c + 1) x { H with bs := setB H.bs 8 (.cells false [.int .i64 (c + 1)]) }

def IX112 (Inv : Int → X → AH → Prop) (st : Int → Int → X → X) (R : X) (C su q : Int) (k : Nat) (A : AF) (H : AH) : Prop :=
  ∃ (i c : Int) (x : X), i + k = q ∧ 0 ≤ i ∧ q ≤ 200 ∧ 0 ≤ c ∧ c + k ≤ 100000 ∧ c + k = C ∧ rowX st k i c x = R ∧ Inv c x H ∧ A.tm.length = 23 ∧ A.marks = [] ∧ getT A.tm 0 = .int .i64 su ∧ getT A.tm 1 = .int .i64 q ∧ getT A.tm 2 = .pointer (some ⟨7, 0, none⟩) ∧ getT A.tm 3 = .pointer (some ⟨8, 0, none⟩) ∧ getT A.tm 8 = .int .i64 q ∧ getT A.tm 9 = .int .i64 i
def QX112 (Inv : Int → X → AH → Prop) (R : X) (C : Int) (z : AX) (A' : AF) (H : AH) : Prop := z = .exit 0 ∧ A'.tm.length = 23 ∧ A'.marks = [] ∧ Inv C R H

set_option maxRecDepth 10000 in
set_option maxHeartbeats 8000000 in
theorem rowP_ev (call : Value → List Value → AH → Option (Value × AH)) {Inv Mid : Int → X → AH → Prop} (hK : Keeps Inv Mid) (st : Int → Int → X → X) (su : Int) (q : Nat) (c : Int) (x : X) (H : AH)
    (hy : ∀ (c r : Int) (x : X) (H : AH), 0 ≤ r → r < q → 0 ≤ c → c < 100000 → Inv c x H → ∃ H', call (.func (.yield 6) #[] #[]) [.int .i64 c, placeV su r q] H = some (.bool true, H') ∧ Mid c (st r c x) H')
    (hq : q ≤ 200) (hc0 : 0 ≤ c) (hcq : c + q ≤ 100000) (hI : Inv c x H) :
    ∃ H', evFn (tabT Try.prog) call 300 kpT 112 Try.f112 [.int .i64 su, .int .i64 q, .pointer (some ⟨7, 0, none⟩), .pointer (some ⟨8, 0, none⟩)] H = some (.bool true, H') ∧ Inv (c + q) (rowX st q 0 c x) H' := by
  simp only [evFn, Try.f112]
  simp [ec_skip, ec_label, ek_reg, ek_draw, ek_seq, ec_cond, ek_block, ec_loop, ec_exit, ec_ret, ek_nil, ek_op, opK_some, regK_some, seqK_normal, seqK_exit, seqK_ret, blockK_normal, blockK_exit, blockK_ret, evOp, vOp, hOp, aWanted, aY, boolOf, opd, putT, closedV, undef, aBin, intOp, sameK, mapO, joinR, hasAddr, pushB, aAlloc, Value.cells, T3, T4, T22, FA24_0, FA24_1, FA24_2, FA24_3, FA24_4, FA24_5, FA24_6, FA24_7, FA24_8, LD3, LD4, LD22, LD27, LDr, LD24, LEN22, IA22, cellAt, lookB, Nat.beq_eq, takeCells, getT, setT]
  generalize hr : evLoop _ _ _ _ = r
  obtain ⟨z, A', H', rfl, rfl, hl, hmk, hz⟩ := loop_go (Q := QX112 Inv (rowX st q 0 c x) (c + q)) hr (IX112 Inv st (rowX st q 0 c x) (c + q) su q) q (by omega) ⟨0, c, x, by omega, by omega, by omega, hc0, hcq, rfl, rfl, hI, rfl, rfl, rfl, rfl, rfl, rfl, rfl, rfl⟩ (by
      clear hr hI
      rintro k A H ⟨i, c, x, him, hi0, hq1, hc0, hck, hC, hres, hI, hl, hmk, g0, g1, g2, g3, g8, g9⟩
      simp only [runC]
      cases k with
      | zero =>
        have hi : ¬ i < (q : Int) := by omega
        simp only [rowX] at hres
        have hC' := hC
        simp only [Int.natCast_zero, Int.add_zero] at hC'
        simp [ec_skip, ec_label, ek_reg, ek_draw, ek_seq, ec_cond, ek_block, ec_loop, ec_exit, ec_ret, ek_nil, ek_op, opK_some, regK_some, seqK_normal, seqK_exit, seqK_ret, blockK_normal, blockK_exit, blockK_ret, evOp, vOp, hOp, aWanted, aY, boolOf, opd, putT, closedV, undef, aBin, intOp, sameK, mapO, joinR, hasAddr, pushB, aAlloc, Value.cells, T3, T4, T22, FA24_0, FA24_1, FA24_2, FA24_3, FA24_4, FA24_5, FA24_6, FA24_7, FA24_8, LD3, LD4, LD22, LD27, LDr, LD24, LEN22, IA22, cellAt, lookB, Nat.beq_eq, takeCells, getT_set, setT_length, hl, hmk, g0, g1, g2, g3, g8, g9, hi]
        exact .inr ⟨by simp, rfl, by simp [setT_length, hl], rfl, by rw [← hC', ← hres]; exact hI⟩
      | succ k =>
        have hi : i < (q : Int) := by omega
        have hw : wrapI .i64 (i + 1) = i + 1 := wrapI_small (by omega) (by omega)
        have hwc : wrapI .i64 (c + 1) = c + 1 := wrapI_small (by omega) (by omega)
        obtain ⟨H2, hy', hI2⟩ := hy c i x H hi0 hi hc0 (by omega) hI
        have h9 := hK.y c x H hI
        have h10 := hK.c c x H hI
        have h10' := hK.m c _ H2 hI2
        have hI3 := hK.s c _ H2 hI2
        have hst := ST3 H2 8 0 (c + 1) [.int .i64 c] h10' (by simp)
        simp only [List.set_cons_zero] at hst
        simp only [placeV] at hy'
        simp only [rowX] at hres
        simp [ec_skip, ec_label, ek_reg, ek_draw, ek_seq, ec_cond, ek_block, ec_loop, ec_exit, ec_ret, ek_nil, ek_op, opK_some, regK_some, seqK_normal, seqK_exit, seqK_ret, blockK_normal, blockK_exit, blockK_ret, evOp, vOp, hOp, aWanted, aY, boolOf, opd, putT, closedV, undef, aBin, intOp, sameK, mapO, joinR, hasAddr, pushB, aAlloc, Value.cells, T3, T4, T22, FA24_0, FA24_1, FA24_2, FA24_3, FA24_4, FA24_5, FA24_6, FA24_7, FA24_8, LD3, LD4, LD22, LD27, LDr, LD24, LEN22, IA22, cellAt, lookB, Nat.beq_eq, takeCells, LD122, partsO, BD80, getT_set, setT_length, hl, hmk, g0, g1, g2, g3, g8, g9, hi, h9, h10, h10', hy', hst, hwc]
        refine .inl ⟨rfl, k, rfl, i + 1, c + 1, st i c x, by omega, by omega, hq1, by omega, by omega, by omega, hres, hI3, ?_⟩
        simp [getT_set, setT_length, hl, g0, g1, g2, g3, g8, g9, hw])
  simp [ec_skip, ec_label, ek_reg, ek_draw, ek_seq, ec_cond, ek_block, ec_loop, ec_exit, ec_ret, ek_nil, ek_op, opK_some, regK_some, seqK_normal, seqK_exit, seqK_ret, blockK_normal, blockK_exit, blockK_ret, evOp, vOp, hOp, aWanted, aY, boolOf, opd, putT, closedV, undef, aBin, intOp, sameK, mapO, joinR, hasAddr, pushB, aAlloc, Value.cells, T3, T4, T22, FA24_0, FA24_1, FA24_2, FA24_3, FA24_4, FA24_5, FA24_6, FA24_7, FA24_8, LD3, LD4, LD22, LD27, LDr, LD24, LEN22, IA22, cellAt, lookB, Nat.beq_eq, takeCells, finF, takeM, resV, getT_set, setT_length, hl, hmk, cleaned, kpT]
  exact hz

def clX : Value := (.func (.func 112) #[] #[.pointer (some ⟨7, 0, none⟩), .pointer (some ⟨8, 0, none⟩)])

def IX111 (s : SV) (Inv : Int → X → AH → Prop) (st : Int → Nat → Int → Int → X → X) (R : X) (k : Nat) (A : AF) (H : AH) : Prop :=
  ∃ (i : Nat) (c : Int) (x : X), i + k = s.n ∧ 0 ≤ c ∧ c ≤ 9 * i ∧ rowsX st (suitRows s.g k i ++ s.tail) c x = R ∧ Inv c x H ∧ A.tm.length = 38 ∧ A.marks = [] ∧ getT A.tm 1 = .pointer (some ⟨4, 0, none⟩) ∧ getT A.tm 4 = clX ∧ getT A.tm 9 = .slice (some ⟨0, 0, some 1⟩) s.n 0 ∧ getT A.tm 10 = .int .i64 s.n ∧ getT A.tm 11 = .int .i64 (i : Int)
def QX111 (s : SV) (Inv : Int → X → AH → Prop) (st : Int → Nat → Int → Int → X → X) (R : X) (z : AX) (A' : AF) (H : AH) : Prop :=
  A'.tm.length = 38 ∧ A'.marks = [] ∧ z = .exit 0 ∧ getT A'.tm 1 = .pointer (some ⟨4, 0, none⟩) ∧ getT A'.tm 4 = clX ∧ ∃ (c : Int) (x : X), 0 ≤ c ∧ c ≤ 27 ∧ Inv c x H ∧ rowsX st s.tail c x = R

set_option maxRecDepth 10000 in
set_option maxHeartbeats 8000000 in
theorem kindsP_ev (call : Value → List Value → AH → Option (Value × AH)) (s : SV) (hs : s.Small) (H0 : AH) {Inv : Int → X → AH → Prop} (st : Int → Nat → Int → Int → X → X) (x0 : X)
    (h6 : ∀ c x H, Inv c x H → lookB H.bs 4 = some (.cells false s.boxL)) (h0 : ∀ c x H, Inv c x H → lookB H.bs 0 = some (.ints s.g)) (hb : lookB H0.bs 4 = some (.cells false s.boxL))
    (hn : H0.next = 7) (hM : Inv 0 x0 ⟨9, (8, .cells false [.int .i64 0]) :: (7, .cells false [.func (.yield 6) #[] #[]]) :: H0.bs⟩)
    (hrow : ∀ (su : Int) (q : Nat) (c : Int) (x : X) (H : AH), (su, q) ∈ s.rows → q ≤ 200 → 0 ≤ c → c + q ≤ 100000 → Inv c x H → ∃ H', call clX [.int .i64 su, .int .i64 q] H = some (.bool true, H') ∧ Inv (c + q) (rowX (st su q) q 0 c x) H') :
    ∃ C H', evFn (tabT Try.prog) call 300 kpT 111 Try.f111 [.func (.yield 6) #[] #[], .pointer (some ⟨4, 0, none⟩)] H0 = some (.tuple #[], H') ∧ Inv C (rowsX st s.rows 0 x0) H' := by
  obtain ⟨nx, bs⟩ := H0
  simp only at hn hM hb
  subst hn
  have hst0 := ST3top 9 8 0 0 ((7, .cells false [.func (.yield 6) #[] #[]]) :: bs)
  simp only [clX] at hrow
  simp only [SV.boxL] at h6 hb
  simp only [evFn, Try.f111]
  simp [ec_skip, ec_label, ek_reg, ek_draw, ek_seq, ec_cond, ek_block, ec_loop, ec_exit, ec_ret, ek_nil, ek_op, opK_some, regK_some, seqK_normal, seqK_exit, seqK_ret, blockK_normal, blockK_exit, blockK_ret, evOp, vOp, hOp, aWanted, aY, boolOf, opd, putT, closedV, undef, aBin, intOp, sameK, mapO, joinR, hasAddr, pushB, aAlloc, Value.cells, T3, T4, T22, FA24_0, FA24_1, FA24_2, FA24_3, FA24_4, FA24_5, FA24_6, FA24_7, FA24_8, LD3, LD4, LD22, LD27, LDr, LD24, LEN22, IA22, cellAt, lookB, Nat.beq_eq, takeCells, getT, setT, hst0, hb]
  generalize hr : evLoop _ _ _ _ = r
  obtain ⟨z, A', H', rfl, hl, hmk, rfl, g1, g4, c, x, hc0, hc9, hI, hz⟩ := loop_go (Q := QX111 s Inv st (rowsX st s.rows 0 x0)) hr (IX111 s Inv st (rowsX st s.rows 0 x0)) s.n (by have := hs.n; omega) ⟨0, 0, x0, by omega, by omega, by omega, rfl, hM, rfl, rfl, rfl, rfl, rfl, rfl, rfl⟩ (by
      clear hr
      rintro k A H ⟨i, c, x, him, hc0, hc9, hres, hI, hl, hmk, g1, g4, g9, g10, g11⟩
      simp only [runC]
      cases k with
      | zero =>
        have hi : ¬ i < s.n := by omega
        simp only [suitRows, List.nil_append] at hres
        simp [ec_skip, ec_label, ek_reg, ek_draw, ek_seq, ec_cond, ek_block, ec_loop, ec_exit, ec_ret, ek_nil, ek_op, opK_some, regK_some, seqK_normal, seqK_exit, seqK_ret, blockK_normal, blockK_exit, blockK_ret, evOp, vOp, hOp, aWanted, aY, boolOf, opd, putT, closedV, undef, aBin, intOp, sameK, mapO, joinR, hasAddr, pushB, aAlloc, Value.cells, T3, T4, T22, FA24_0, FA24_1, FA24_2, FA24_3, FA24_4, FA24_5, FA24_6, FA24_7, FA24_8, LD3, LD4, LD22, LD27, LDr, LD24, LEN22, IA22, cellAt, lookB, Nat.beq_eq, takeCells, getT_set, setT_length, hl, hmk, g1, g4, g9, g10, g11, hi]
        exact .inr ⟨by simp, by simp [setT_length, hl], rfl, rfl, by simp [getT_set, setT_length, hl, g1], by simp [getT_set, setT_length, hl, g4], c, x, hc0, by have := hs.n; omega, hI, hres⟩
      | succ k =>
        have hi : i < s.n := by omega
        have hw : wrapI .i64 ((i : Int) + 1) = ((i + 1 : Nat) : Int) := by rw [wrapI_small (by have := hs.n; omega) (by have := hs.n; omega)]; rfl
        obtain ⟨b1, b2⟩ := hs.g i hi
        have hq : ((s.g i).toNat : Int) = s.g i := by omega
        have hn3 := hs.n
        have h0' := h0 c x H hI
        simp only [clX] at g4
        have hmem : ((i : Int), (s.g i).toNat) ∈ s.rows := by
          have key : ∀ (k j : Nat), j ≤ i → i < j + k → ((i : Int), (s.g i).toNat) ∈ suitRows s.g k j := by
            intro k
            induction k with
            | zero => intro j h1 h2; omega
            | succ k ih =>
              intro j h1 h2
              simp only [suitRows]
              by_cases e : j = i
              · subst e; exact List.mem_cons_self
              · exact List.mem_cons_of_mem _ (ih (j + 1) (by omega) (by omega))
          exact List.mem_append_left _ (key s.n 0 (by omega) (by omega))
        obtain ⟨H2, hr', hI2⟩ := hrow (i : Int) (s.g i).toNat c x H hmem (by omega) hc0 (by omega) hI
        rw [hq] at hr'
        simp only [suitRows, List.cons_append, rowsX] at hres
        simp [ec_skip, ec_label, ek_reg, ek_draw, ek_seq, ec_cond, ek_block, ec_loop, ec_exit, ec_ret, ek_nil, ek_op, opK_some, regK_some, seqK_normal, seqK_exit, seqK_ret, blockK_normal, blockK_exit, blockK_ret, evOp, vOp, hOp, aWanted, aY, boolOf, opd, putT, closedV, undef, aBin, intOp, sameK, mapO, joinR, hasAddr, pushB, aAlloc, Value.cells, T3, T4, T22, FA24_0, FA24_1, FA24_2, FA24_3, FA24_4, FA24_5, FA24_6, FA24_7, FA24_8, LD3, LD4, LD22, LD27, LDr, LD24, LEN22, IA22, cellAt, lookB, Nat.beq_eq, takeCells, getT_set, setT_length, hl, hmk, g1, g4, g9, g10, g11, hi, h0', hr']
        refine .inl ⟨rfl, k, rfl, i + 1, c + (s.g i).toNat, _, by omega, by omega, by omega, hres, hI2, ?_⟩
        simp [getT_set, setT_length, hl, g1, g4, g9, g10, g11, hw, clX])
  obtain ⟨w1, w2⟩ := hs.w
  obtain ⟨d1, d2⟩ := hs.d
  obtain ⟨f1, f2⟩ := hs.f
  have qw : ((s.w).toNat : Int) = s.w := by omega
  have qd : ((s.d).toNat : Int) = s.d := by omega
  have qf : ((s.f).toNat : Int) = s.f := by omega
  have hb1 := h6 c x H' hI
  simp only [clX] at g4
  obtain ⟨Ha, ra, hIa⟩ := hrow (-1) s.w.toNat c x H' (List.mem_append_right _ (by simp [SV.tail])) (by omega) hc0 (by omega) hI
  have hb2 := h6 _ _ Ha hIa
  obtain ⟨Hb, rb, hIb⟩ := hrow (-2) s.d.toNat _ _ Ha (List.mem_append_right _ (by simp [SV.tail])) (by omega) (by omega) (by omega) hIa
  have hb3 := h6 _ _ Hb hIb
  obtain ⟨Hc, rc, hIc⟩ := hrow (-3) s.f.toNat _ _ Hb (List.mem_append_right _ (by simp [SV.tail])) (by omega) (by omega) (by omega) hIb
  simp only [SV.tail, rowsX] at hz
  rw [hz] at hIc
  rw [qw] at ra
  rw [qd] at rb
  rw [qf] at rc
  refine ⟨_, Hc, ?_, hIc⟩
  simp [ec_skip, ec_label, ek_reg, ek_draw, ek_seq, ec_cond, ek_block, ec_loop, ec_exit, ec_ret, ek_nil, ek_op, opK_some, regK_some, seqK_normal, seqK_exit, seqK_ret, blockK_normal, blockK_exit, blockK_ret, evOp, vOp, hOp, aWanted, aY, boolOf, opd, putT, closedV, undef, aBin, intOp, sameK, mapO, joinR, hasAddr, pushB, aAlloc, Value.cells, T3, T4, T22, FA24_0, FA24_1, FA24_2, FA24_3, FA24_4, FA24_5, FA24_6, FA24_7, FA24_8, LD3, LD4, LD22, LD27, LDr, LD24, LEN22, IA22, cellAt, lookB, Nat.beq_eq, takeCells, finF, takeM, resV, getT_set, setT_length, hl, hmk, g1, g4, hb1, hb2, hb3, ra, rb, rc, cleaned, kpT]

end

end Go.Proofs.Ytkoppbbmdjhaoaa
