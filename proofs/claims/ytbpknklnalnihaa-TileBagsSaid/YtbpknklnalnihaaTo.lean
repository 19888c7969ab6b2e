/-
  What is proved: the faces that the program makes of tiles.
-/
import Derived.Test.YtbpknklnalnihaaTn
namespace Go.Proofs.Ytbpknklnalnihaa
open Go.RowKit
set_option linter.unusedSimpArgs false
set_option linter.unusedVariables false


/-- What is kept of a memory whose next number was N, with a set in block N. -/
noncomputable def Kept (s : SV) (N : Nat) (bs : List (Nat × ABlk)) (H : AH) : Prop := MI H ∧ N < H.next ∧ lookB H.bs N = some (.cells false s.cs) ∧ ∀ j, j < N → lookB H.bs j = lookB bs j
theorem Kept.step {s : SV} {N : Nat} {bs : List (Nat × ABlk)} {H : AH} (h : Kept s N bs H) {bs2 : List (Nat × ABlk)} (hs : bs2.Sublist H.bs) (hk : ∀ j, j ≤ N → lookB bs2 j = lookB H.bs j) (c1 c2 : List Value) : Kept s N bs ⟨H.next + 2, (H.next + 1, .cells false c1) :: (H.next, .cells false c2) :: bs2⟩ := by
  obtain ⟨hM, hn, hN, hj⟩ := h
  refine ⟨(((hM.sub hs (Nat.le_refl _)).push (.cells false c2)).push (.cells false c1)), by show N < H.next + 2; omega, ?_, fun j hjN => ?_⟩
  · have e1 : ¬ N = H.next := by omega
    have e2 : ¬ N = H.next + 1 := by omega
    simp only [lookB, Nat.beq_eq, e1, e2, if_false]
    rw [hk N (Nat.le_refl _), hN]
  · have e1 : ¬ j = H.next := by omega
    have e2 : ¬ j = H.next + 1 := by omega
    simp only [lookB, Nat.beq_eq, e1, e2, if_false]
    rw [hk j (by omega), hj j hjN]
theorem FI.step {s : SV} {t : Nat → Int} {N : Nat} {H : AH} {i : Nat} (hn : N < H.next) {bs2 : List (Nat × ABlk)} (c2 : List Value) : FI s t N ⟨H.next + 2, (H.next + 1, .cells false (faceC s t (i + 1))) :: (H.next, .cells false c2) :: bs2⟩ (.slice (some ⟨H.next + 1, 0, none⟩) (i + 1) 2) (i + 1) :=
  .inr ⟨by omega, H.next + 1, rfl, by omega, by show H.next + 1 < H.next + 2; omega, by simp [lookB]⟩
noncomputable def I7 (s : SV) (t : Nat → Int) (n N : Nat) (bs : List (Nat × ABlk)) (m : Nat) (A : AF) (H : AH) : Prop := ∃ (i : Nat) (v : Value), i + m = n ∧ A.tm.n = 30 ∧ A.marks = [] ∧ A.tm.get 18 = .int .i64 (i : Int) ∧ A.tm.get 17 = .int .i64 (n : Int) ∧ A.tm.get 16 = .slice (some ⟨2, 0, some 1⟩) n 0 ∧ A.tm.get 2 = .pointer (some ⟨N, 0, none⟩) ∧ A.tm.get 7 = v ∧ FI s t N H v i ∧ Kept s N bs H
noncomputable def Q7 (s : SV) (t : Nat → Int) (n N : Nat) (bs : List (Nat × ABlk)) (y : AX) (A' : AF) (H : AH) : Prop := y = .exit 0 ∧ A'.tm.n = 30 ∧ A'.marks = [] ∧ ∃ v, A'.tm.get 7 = v ∧ FI s t N H v n ∧ Kept s N bs H
theorem kp7 : (kpT 7, gcT 7) = (false, false) := by kernel_rfl
/-- What both functions of faces leave. -/
noncomputable def FaceEnd (s : SV) (t : Nat → Int) (n N : Nat) (bs : List (Nat × ABlk)) (r : Option (Value × AH)) : Prop := ∃ v H', r = some (.tuple #[v, .int .i64 0], H') ∧ MI H' ∧ N < H'.next ∧ (∀ j, j < N → lookB H'.bs j = lookB bs j) ∧ FI s t N H' v n

theorem face_end {s : SV} {t : Nat → Int} {n N : Nat} {bs : List (Nat × ABlk)} {H : AH} {v : Value} (h : FI s t N H v n) (hK : Kept s N bs H) : FaceEnd s t n N bs (some (.tuple #[v, .int .i64 0], cleanedG false (hasAddr 4 (.tuple #[v, .int .i64 0])) N (.tuple #[v, .int .i64 0]) H)) := by
  obtain ⟨hM, hn, hN, hj⟩ := hK
  rcases h with ⟨rfl, rfl⟩ | ⟨h0, b, rfl, hb1, hb2, hl⟩
  · refine ⟨_, _, rfl, ?_, ?_, ?_, .inl ⟨rfl, rfl⟩⟩
    · simp [cleanedG, hasAddr]
      exact hM.sub (below_sub _ _) (Nat.le_refl _)
    · simpa [cleanedG, hasAddr] using hn
    · intro j hjN
      simp [cleanedG, hasAddr]
      rw [look_below _ _ _ hjN, hj j hjN]
  · refine ⟨_, _, rfl, ?_, ?_, ?_, .inr ⟨h0, b, rfl, hb1, ?_, ?_⟩⟩
    · simpa [cleanedG, hasAddr] using hM
    · simpa [cleanedG, hasAddr] using hn
    · simpa [cleanedG, hasAddr] using hj
    · simpa [cleanedG, hasAddr] using hb2
    · simpa [cleanedG, hasAddr] using hl

theorem redOf_in {s : SV} {x : Int} (h : s.inB x = true) : s.redOf x = s.faceR x := by simp [SV.redOf, h]

set_option maxRecDepth 10000 in
set_option maxHeartbeats 8000000 in
theorem faces_ev (call : Value → List Value → AH → Option (Value × AH)) (s : SV) (t : Nat → Int) (n N : Nat) (bs : List (Nat × ABlk)) (hn : n ≤ 200) (he : s.err = 0) (ht : tErr s t n 0 = 0) (H0 : lookB bs 0 = some (.ints s.g)) (H1 : lookB bs 1 = some (.ints s.h)) (H2 : lookB bs 2 = some (.ints t)) (hN : 3 ≤ N) (hM : MI ⟨N, bs⟩)
    (hct : ∀ (H : AH), lookB H.bs 0 = some (.ints s.g) → lookB H.bs 1 = some (.ints s.h) → lookB H.bs 2 = some (.ints t) → call (.func (.func 12) #[] #[]) [s.val, sl2 n] H = some (.int .i64 (s.ct t n), H)) (h14 : ∀ (x : Int) (H : AH), s.inB x = true → lookB H.bs 0 = some (.ints s.g) → lookB H.bs 1 = some (.ints s.h) → call (.func (.func 14) #[] #[]) [s.val, .int .i64 x] H = some (faceV (s.faceK x) (s.faceR x), H)) :
    FaceEnd s t n N bs (evFn (tabT Try.prog) call 300 kpT 7 Try.f7 [s.val, sl2 n] ⟨N, bs⟩) := by
  have hc0 : s.ct t n = 0 := by simp [SV.ct, he, ht]
  rw [hc0] at hct
  have n0 : ¬ 0 = N := by omega
  have n1 : ¬ 1 = N := by omega
  have n2 : ¬ 2 = N := by omega
  have m0 : ¬ N = 0 := by omega
  have m1 : ¬ N = 1 := by omega
  have m2 : ¬ N = 2 := by omega
  have kp := kp7
  simp only [Prod.mk.injEq] at kp
  obtain ⟨kp1, kp2⟩ := kp
  simp only [SV.val, sl2, faceV] at hct h14
  simp only [evFn, Try.f7, SV.val, sl2]
  simp [ec_skip, ec_label, ek_reg, ek_draw, ek_seq, ec_cond, ek_block, ec_loop, ec_exit, ec_ret, ec_scope, ek_nil, ek_op, opK_some, regK_some, seqK_normal, seqK_exit, seqK_ret, blockK_normal, blockK_exit, blockK_ret, evOp, vOp, hOpB, hOpU, hOp, hOpT, aWanted, aYielded, opd, putT, closedV, aBin, intOp, sameK, mapO, joinR, hasAddr, boundOf, pushB, aAlloc, Value.cells, lookB, setB, Nat.beq_eq, tm_n_set, tm_get_set, tm_of_n, tm_of_get, tm_tr_set, tm_tr_of, cellV, putF, appR_eq, takeR_eq, dropR_eq, setR_eq, getR_eq, ↓C75, ↓C76, ↓C77, ↓C79, ↓C17, ↓C18, ↓C22, ↓C71, FA24_0, FA24_1, FA24_2, FA24_3, FA24_4, FA24_5, FA24_6, FA24_7, FA24_8, LD3, LD4, LD22, LD27, LDr, LD24, LEN22, IA22, tkc, cellAt, SV.cs, faceV, partsO, BS29, APT29, ↓Cface, ↓Cct, H0, H1, H2, n0, n1, n2, m0, m1, m2, hct]
  generalize hr : evLoop _ _ _ _ = r
  obtain ⟨y, A', H', rfl, rfl, hl, hmk, v, h7, hF, hK⟩ := loop_go (Q := Q7 s t n N bs) hr (I7 s t n N bs) n (by omega) ⟨0, _, by omega, rfl, rfl, rfl, rfl, rfl, rfl, rfl, .inl ⟨rfl, rfl⟩, hM.push _, by show N < N + 1; omega, by simp [lookB, SV.cs], fun j hj => by simp [lookB, Nat.beq_eq, Nat.ne_of_lt hj]⟩ (by
    clear hr
    rintro m A ⟨nx, b1⟩ ⟨i, v, him, hl, hmk, h18, h17, h16, h2, h7, hF, hK⟩
    simp only [runC]
    cases m with
    | zero =>
      have hi : ¬ i < n := by omega
      obtain rfl : i = n := by omega
      simp [ec_skip, ec_label, ek_reg, ek_draw, ek_seq, ec_cond, ek_block, ec_loop, ec_exit, ec_ret, ec_scope, ek_nil, ek_op, opK_some, regK_some, seqK_normal, seqK_exit, seqK_ret, blockK_normal, blockK_exit, blockK_ret, evOp, vOp, hOpB, hOpU, hOp, hOpT, aWanted, aYielded, opd, putT, closedV, aBin, intOp, sameK, mapO, joinR, hasAddr, boundOf, pushB, aAlloc, Value.cells, lookB, setB, Nat.beq_eq, tm_n_set, tm_get_set, tm_of_n, tm_of_get, tm_tr_set, tm_tr_of, cellV, putF, appR_eq, takeR_eq, dropR_eq, setR_eq, getR_eq, ↓C75, ↓C76, ↓C77, ↓C79, ↓C17, ↓C18, ↓C22, ↓C71, FA24_0, FA24_1, FA24_2, FA24_3, FA24_4, FA24_5, FA24_6, FA24_7, FA24_8, LD3, LD4, LD22, LD27, LDr, LD24, LEN22, IA22, tkc, cellAt, SV.cs, faceV, partsO, BS29, APT29, ↓Cface, ↓Cct, H0, H1, H2, n0, n1, n2, m0, m1, m2, hl, hmk, h18, h17, h16, h2, h7]
      exact .inr ⟨by simp, rfl, by simp [tm_n_set, hl], rfl, v, by simp [tm_get_set, tm_n_set, hl, h7], hF, hK⟩
    | succ m =>
      have hi : i < n := by omega
      have hw : wrapI .i64 ((i : Int) + 1) = ((i + 1 : Nat) : Int) := by rw [wrapI_small (by omega) (by omega)]; rfl
      have hb := tErr_in ht i (by omega) (by omega)
      obtain ⟨e1, e2⟩ := kindOf_in hb
      have e3 := redOf_in hb
      have h14' := fun (H : AH) => h14 (t i) H hb
      obtain ⟨bs2, hs, hk, hz, hap⟩ := app_face hF (by omega)
      have hK' := hK
      obtain ⟨hM1, hnx, LN, hj⟩ := hK'
      have L0 := (hj 0 (by omega)).trans H0
      have L1 := (hj 1 (by omega)).trans H1
      have L2 := (hj 2 (by omega)).trans H2
      have hst := hK.step hs hk (faceC s t (i + 1)) [.int .i64 (s.faceK (t i)), .bool (s.faceR (t i))]
      have hfs := FI.step (s := s) (t := t) (N := N) (H := ⟨nx, b1⟩) (i := i) (bs2 := bs2) hnx [.int .i64 (s.faceK (t i)), .bool (s.faceR (t i))]
      have hap' := hap (s.faceK (t i)) (s.faceR (t i))
      have hfc : faceC s t i ++ [.int .i64 (s.faceK (t i)), .bool (s.faceR (t i))] = faceC s t (i + 1) := by rw [faceC, e1, e3]
      rw [hfc] at hap'
      simp only at hap' L0 L1 L2 LN hnx hst hfs
      have x0 : ¬ 0 = nx := by omega
      have x1 : ¬ 1 = nx := by omega
      have x2 : ¬ 2 = nx := by omega
      have x3 : ¬ N = nx := by omega
      simp [ec_skip, ec_label, ek_reg, ek_draw, ek_seq, ec_cond, ek_block, ec_loop, ec_exit, ec_ret, ec_scope, ek_nil, ek_op, opK_some, regK_some, seqK_normal, seqK_exit, seqK_ret, blockK_normal, blockK_exit, blockK_ret, evOp, vOp, hOpB, hOpU, hOp, hOpT, aWanted, aYielded, opd, putT, closedV, aBin, intOp, sameK, mapO, joinR, hasAddr, boundOf, pushB, aAlloc, Value.cells, lookB, setB, Nat.beq_eq, tm_n_set, tm_get_set, tm_of_n, tm_of_get, tm_tr_set, tm_tr_of, cellV, putF, appR_eq, takeR_eq, dropR_eq, setR_eq, getR_eq, ↓C75, ↓C76, ↓C77, ↓C79, ↓C17, ↓C18, ↓C22, ↓C71, FA24_0, FA24_1, FA24_2, FA24_3, FA24_4, FA24_5, FA24_6, FA24_7, FA24_8, LD3, LD4, LD22, LD27, LDr, LD24, LEN22, IA22, tkc, cellAt, SV.cs, faceV, partsO, BS29, APT29, ↓Cface, ↓Cct, H0, H1, H2, n0, n1, n2, m0, m1, m2, hl, hmk, h18, h17, h16, h2, h7, hi, L0, L1, L2, LN, h14', hap', x0, x1, x2, x3]
      refine .inl ⟨rfl, m, rfl, i + 1, .slice (some ⟨nx + 1, 0, none⟩) (i + 1) 2, by omega, ?_, rfl, ?_, ?_, ?_, ?_, ?_, hfs, hst⟩
      all_goals simp [tm_get_set, tm_n_set, hl, h18, h17, h16, h2, h7, hw])
  simp [ec_skip, ec_label, ek_reg, ek_draw, ek_seq, ec_cond, ek_block, ec_loop, ec_exit, ec_ret, ec_scope, ek_nil, ek_op, opK_some, regK_some, seqK_normal, seqK_exit, seqK_ret, blockK_normal, blockK_exit, blockK_ret, evOp, vOp, hOpB, hOpU, hOp, hOpT, aWanted, aYielded, opd, putT, closedV, aBin, intOp, sameK, mapO, joinR, hasAddr, boundOf, pushB, aAlloc, Value.cells, lookB, setB, Nat.beq_eq, tm_n_set, tm_get_set, tm_of_n, tm_of_get, tm_tr_set, tm_tr_of, cellV, putF, appR_eq, takeR_eq, dropR_eq, setR_eq, getR_eq, ↓C75, ↓C76, ↓C77, ↓C79, ↓C17, ↓C18, ↓C22, ↓C71, FA24_0, FA24_1, FA24_2, FA24_3, FA24_4, FA24_5, FA24_6, FA24_7, FA24_8, LD3, LD4, LD22, LD27, LDr, LD24, LEN22, IA22, tkc, cellAt, hl, hmk, h7, finF, takeM, resV, kp1, kp2]
  have q := face_end hF hK
  have e : hasAddr 4 (.tuple #[v, .int .i64 0]) = hasAddr 3 v := by simp [hasAddr]
  rw [e] at q
  exact q

end Go.Proofs.Ytbpknklnalnihaa
