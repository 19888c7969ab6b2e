/-
  What is proved: the sets that the source makes, and that they are valid.
-/
import Derived.Test.YtdbpemmhkfbegaaXw
namespace Go.Proofs.Ytdbpemmhkfbegaa
open Go.RowKit
set_option linter.unusedSimpArgs false
set_option linter.unusedVariables false

theorem redsG_zero (h : Nat → Int) (last : Int) : ∀ (m i : Nat) (b : Int), (∀ j, i ≤ j → j < i + m → 0 ≤ h j ∧ h j ≤ last) → (∀ j, i ≤ j → j + 1 < i + m → h j < h (j + 1)) → (0 < m → b < h i) → redsG h last m i b = 0
  | 0, _, _, _, _, _ => rfl
  | m + 1, i, b, h1, h2, h3 => by
    have a := h1 i (Nat.le_refl _) (by omega)
    have c := h3 (by omega)
    rw [redsG, if_pos (btw_iff.2 a), if_neg (by omega)]
    exact redsG_zero h last m (i + 1) (h i) (fun j x y => h1 j (by omega) (by omega)) (fun j x y => h2 j (by omega) (by omega)) (fun hm => h2 i (Nat.le_refl _) (by omega))
theorem plain_PV {me : Int} {s : SV} (hB : LB me s) (h1 : 1 ≤ s.n) : s.plain = PV s := by
  have hn := hB.n
  have g0 := hB.g 0 (by omega)
  have hw := hB.w
  have hd := hB.d
  have a0 : wrapI .i64 (s.w + s.d) = s.w + s.d := wrapI_small (by omega) (by omega)
  obtain ⟨S, hPV, _, _⟩ := PV_bd hB h1
  rcases (show s.n = 1 ∨ s.n = 2 by omega) with h | h
  · have a1 : wrapI .i64 (0 + s.g 0) = s.g 0 := (wrapI_small (by omega) (by omega)).trans (by omega)
    have a2 : wrapI .i64 (s.g 0 + s.w) = s.g 0 + s.w := wrapI_small (by omega) (by omega)
    have a3 : wrapI .i64 (s.g 0 + s.w + s.d) = s.g 0 + s.w + s.d := wrapI_small (by omega) (by omega)
    have a4 : wrapI .i64 (s.w + s.d + s.g 0) = s.w + s.d + s.g 0 := wrapI_small (by omega) (by omega)
    unfold PV SV.plain
    rw [h]
    simp only [sumG]
    rw [a0, a1, a2, a3, a4]
    omega
  · have g1 := hB.g 1 (by omega)
    have g1' : 3 ≤ s.g (0 + 1) ∧ s.g (0 + 1) ≤ 5 := g1
    have e1 : s.g (0 + 1) = s.g 1 := rfl
    have a1 : wrapI .i64 (0 + s.g 0) = s.g 0 := (wrapI_small (by omega) (by omega)).trans (by omega)
    have a5 : wrapI .i64 (s.g 0 + s.g 1) = s.g 0 + s.g 1 := wrapI_small (by omega) (by omega)
    have a2 : wrapI .i64 (s.g 0 + s.g 1 + s.w) = s.g 0 + s.g 1 + s.w := wrapI_small (by omega) (by omega)
    have a3 : wrapI .i64 (s.g 0 + s.g 1 + s.w + s.d) = s.g 0 + s.g 1 + s.w + s.d := wrapI_small (by omega) (by omega)
    have a4 : wrapI .i64 (s.w + s.d + s.g 0) = s.w + s.d + s.g 0 := wrapI_small (by omega) (by omega)
    have a6 : wrapI .i64 (s.w + s.d + s.g 0 + s.g 1) = s.w + s.d + s.g 0 + s.g 1 := wrapI_small (by omega) (by omega)
    unfold PV SV.plain
    rw [h]
    simp only [sumG, e1]
    rw [a0, a1, a5, a2, a3, a4, a6]
    omega
theorem little_valid {me : Int} {s : SV} {P : Nat} (hme : 1 ≤ me ∧ me ≤ 2) (hB : LB me s) (hR : RD s P) (hP : PV s = (P : Int)) (h1 : 1 ≤ s.n) (hle : 3 * (3 * me + 1) + 1 + s.de ≤ PV s * s.c + s.f) : s.err = 0 := by
  have hpl := plain_PV hB h1
  obtain ⟨S, hPV, hS1, hS2⟩ := PV_bd hB h1
  have hn := hB.n
  have hw := hB.w
  have hd := hB.d
  have hf := hB.f
  have hc := hB.c
  have hde := hB.de
  have hp := hB.p
  have hm := hB.m
  have b0 : ruleB s 0 = true := btw_iff.2 (by omega)
  have b1 : ruleB s 1 = true := decide_eq_true (by omega)
  have b2 : ruleB s 2 = true := by
    have i0 := hB.g 0 (by omega)
    have t0 : btw (s.g 0) 1 9 = true := btw_iff.2 (by omega)
    rcases (show s.n = 1 ∨ s.n = 2 by omega) with h | h
    · simp [ruleB, anyBad, h, idxBad, t0]
    · have i1 := hB.g 1 (by omega)
      have t1 : btw (s.g 1) 1 9 = true := btw_iff.2 (by omega)
      simp [ruleB, anyBad, h, idxBad, t0, t1]
  have b3 : ruleB s 3 = true := btw_iff.2 (by omega)
  have b4 : ruleB s 4 = true := btw_iff.2 (by omega)
  have b5 : ruleB s 5 = true := btw_iff.2 (by omega)
  have b6 : ruleB s 6 = true := btw_iff.2 (by omega)
  have b7 : ruleB s 7 = true := btw_iff.2 (by omega)
  have b8 : ruleB s 8 = true := btw_iff.2 (by omega)
  have b9 : ruleB s 9 = true := decide_eq_true (by omega)
  have b10 : ruleB s 10 = true := by
    have e : s.reds = 0 := by
      have w0 : wrapI .i64 (s.plain - 1) = s.plain - 1 := wrapI_small (by omega) (by omega)
      unfold SV.reds
      rw [w0]
      exact redsG_zero _ _ _ _ _ (fun j _ hj => by have := hR.bd j (by omega); omega) (fun j _ hj => hR.up j (by omega)) (fun hk => by have := hR.bd 0 hk; omega)
    simp [ruleB, e]
  have b11 : ruleB s 11 = true := by
    have hpc : 0 ≤ PV s * s.c ∧ PV s * s.c ≤ 68 := by
      rcases (show s.c = 2 ∨ s.c = 3 ∨ s.c = 4 by omega) with h | h | h <;> rw [h] <;> omega
    have v1 : wrapI .i64 (3 * s.m) = 3 * s.m := wrapI_small (by omega) (by omega)
    have v2 : wrapI .i64 (3 * s.m + 1) = 3 * s.m + 1 := wrapI_small (by omega) (by omega)
    have v3 : wrapI .i64 (s.p * (3 * s.m + 1)) = 3 * (3 * s.m + 1) := by rw [hp]; exact wrapI_small (by omega) (by omega)
    have v4 : wrapI .i64 (3 * (3 * s.m + 1) + 1) = 3 * (3 * s.m + 1) + 1 := wrapI_small (by omega) (by omega)
    have v5 : wrapI .i64 (3 * (3 * s.m + 1) + 1 + s.de) = 3 * (3 * s.m + 1) + 1 + s.de := wrapI_small (by omega) (by omega)
    have v6 : wrapI .i64 (s.plain * s.c) = PV s * s.c := by rw [hpl]; exact wrapI_small (by omega) (by omega)
    have v7 : wrapI .i64 (PV s * s.c + s.f) = PV s * s.c + s.f := wrapI_small (by omega) (by omega)
    show decide (s.size ≥ wrapI .i64 (wrapI .i64 (wrapI .i64 (s.p * s.full) + 1) + s.de)) = true
    unfold SV.size SV.full
    rw [v1, v2, v3, v4, v5, v6, v7]
    exact decide_eq_true (by rw [hm]; omega)
  simp [SV.err, firstE, b0, b1, b2, b3, b4, b5, b6, b7, b8, b9, b10, b11]
noncomputable def bigS : SV := ⟨4, 3, gi [.int .i64 9, .int .i64 9, .int .i64 9], 4, 3, 0, 4, 4, 14, 3, gi [.int .i64 4, .int .i64 13, .int .i64 22]⟩
theorem big_valid : bigS.err = 0 := by
  kernel_rfl
/-- What SetOf leaves. -/
def SetEnd (N p : Nat) (bs : List (Nat × ABlk)) (r : Option (Value × AH)) : Prop := ∃ (s : SV) (u1 u8 : Value) (H' : AH), r = some (.agg #[.int .i64 s.p, u1, .int .i64 s.w, .int .i64 s.d, .int .i64 s.f, .int .i64 s.c, .int .i64 s.m, .int .i64 s.de, u8], H') ∧ MI H' ∧ N ≤ H'.next ∧ (∀ j, j < N → j ≠ p → lookB H'.bs j = lookB bs j) ∧ FL N H' u1 s.n s.g ∧ FL N H' u8 s.k s.h ∧ s.err = 0 ∧ s.k ≤ 200 ∧ 1 ≤ s.n
theorem kpb : kpT 40 = false := by kernel_rfl
theorem gcb : gcT 40 = false := by kernel_rfl
theorem kps : kpT 21 = false := by kernel_rfl
theorem gcs : gcT 21 = false := by kernel_rfl
theorem BS3 (H : AH) (a b c : Int) : aBuildSlice (tabT Try.prog) H 22 3 [(0, .int .i64 a), (1, .int .i64 b), (2, .int .i64 c)] = some (.slice (some ⟨H.next, 0, none⟩) 3 1, pushB H (.cells false [.int .i64 a, .int .i64 b, .int .i64 c])) := by kernel_rfl
theorem BDb (u v : Option Addr) (n k : Nat) : aBuild (tabT Try.prog) 24 [(0, .int .i64 4), (1, .slice u n 1), (2, .int .i64 4), (3, .int .i64 3), (5, .int .i64 4), (6, .int .i64 4), (7, .int .i64 14), (8, .slice v k 1)] = some (.agg #[.int .i64 4, .slice u n 1, .int .i64 4, .int .i64 3, .int .i64 0, .int .i64 4, .int .i64 4, .int .i64 14, .slice v k 1]) := by kernel_rfl
set_option maxRecDepth 10000 in
set_option maxHeartbeats 8000000 in
theorem big_ev {L : Nat} (call : Value → List Value → AH → Option (Value × AH)) (M : Nat) (b : List (Nat × ABlk)) : evFn (tabT Try.prog) call (L + 300) kpT 40 Try.f40 [] ⟨M, b⟩ = some (.agg #[.int .i64 4, .slice (some ⟨M + 1, 0, none⟩) 3 1, .int .i64 4, .int .i64 3, .int .i64 0, .int .i64 4, .int .i64 4, .int .i64 14, .slice (some ⟨M + 2, 0, none⟩) 3 1], ⟨M + 3, (M + 2, .cells false [.int .i64 4, .int .i64 13, .int .i64 22]) :: (M + 1, .cells false [.int .i64 9, .int .i64 9, .int .i64 9]) :: (M, .cells false [.int .i64 4, .slice (some ⟨M + 1, 0, none⟩) 3 1, .int .i64 4, .int .i64 3, .int .i64 0, .int .i64 4, .int .i64 4, .int .i64 14, .slice (some ⟨M + 2, 0, none⟩) 3 1]) :: b⟩) := by
  have kp := kpb
  have gc := gcb
  have mm : ¬ M = M + 1 + 1 := by omega
  simp only [evFn, Try.f40]
  simp [ec_skip, ec_label, ek_reg, ek_draw, ek_seq, ec_cond, ek_block, ec_loop, ec_exit, ec_ret, ec_scope, ek_nil, ek_op, opK_some, regK_some, seqK_normal, seqK_exit, seqK_ret, blockK_normal, blockK_exit, blockK_ret, evOp, vOp, hOpB, hOpU, hOp, hOpT, aAppendG_tab, aWanted, aYielded, opd, putT, closedV, aBin, intOp, sameK, mapO, joinR, hasAddr, boundOf, pushB, aAlloc, Value.cells, lookB, setB, Nat.beq_eq, tm_n_set, tm_get_set, tm_of_n, tm_of_get, tm_tr_set, tm_tr_of, cellV, putF, appR_eq, takeR_eq, dropR_eq, setR_eq, getR_eq, ↓C75, ↓C76, ↓C77, ↓C79, ↓C17, ↓C18, ↓C22, ↓C71, FA24_0, FA24_1, FA24_2, FA24_3, FA24_4, FA24_5, FA24_6, FA24_7, FA24_8, LD3, LD4, LD22, LD27, LDr, LD24, LEN22, IA22, tkc, cellAt, ↓AL24, BS3, BDb, partsO, ST24, finF, takeM, resV, cleanedG, kp, gc, mm]
theorem Cbig (call : Value → List Value → AH → Option (Value × AH)) {tm : Tm} {H : AH} {d : Option Tmp} {t : TypeId} {p : String} {a : Array Edge} {gd : Option (Nat × Bool)} : evOp (tabT Try.prog) call ⟨d, .call ⟨.value (.func 40), #[], #[]⟩, t, p, a, gd⟩ (opd tm) H = call (.func (.func 40) #[] #[]) [] H :=
  evOp_evO.trans (eo_call0 rfl)
theorem Nlit : ((tabT Try.prog) 35).map (fun z => z.ex.nat 48) = some none := by kernel_rfl
theorem Clit (call : Value → List Value → AH → Option (Value × AH)) {tm : Tm} {i j : Nat} {H : AH} {d : Option Tmp} {t : TypeId} {p : String} {a : Array Edge} {gd : Option (Nat × Bool)} : evOp (tabT Try.prog) call ⟨d, .call ⟨.value (.func 48), #[.tmp i, .tmp j], #[35, 3]⟩, t, p, a, gd⟩ (opd tm) H = call (.func (.func 48) #[] #[]) [tm.get i, tm.get j] H :=
  evOp_evO.trans (eo_call2n rfl rfl rfl Nlit)
theorem FL.cv {lo n : Nat} {H : AH} {u : Value} {g : Nat → Int} (h : FL lo H u n g) : cellV u = true := by
  rcases h with ⟨rfl, rfl⟩ | ⟨a, cs, rfl, _⟩ <;> rfl
theorem set_end {N p : Nat} {bs b0 : List (Nat × ABlk)} {s : SV} {u1 u8 : Value} {H : AH} (hM : MI H) (hn : N + 1 ≤ H.next) (hold : ∀ j, j < N + 1 → j ≠ p → lookB H.bs j = lookB b0 j) (h0 : ∀ j, j < N → j ≠ p → lookB b0 j = lookB bs j) (h1 : FL (N + 1) H u1 s.n s.g) (h8 : FL (N + 1) H u8 s.k s.h) (he : s.err = 0) (hk2 : s.k ≤ 200) (hn2 : 1 ≤ s.n) (v : ABlk) : SetEnd N p bs (some (.agg #[.int .i64 s.p, u1, .int .i64 s.w, .int .i64 s.d, .int .i64 s.f, .int .i64 s.c, .int .i64 s.m, .int .i64 s.de, u8], ⟨H.next, setB H.bs N v⟩)) := by
  have e : ∀ j, j ≠ N → lookB (setB H.bs N v) j = lookB H.bs j := fun j hj => by rw [lookB_setB, if_neg hj]
  have f1 : FL (N + 1) ⟨H.next, setB H.bs N v⟩ u1 s.n s.g := h1.mono (Nat.le_refl _) fun a _ h2 _ => e a (by omega)
  have f8 : FL (N + 1) ⟨H.next, setB H.bs N v⟩ u8 s.k s.h := h8.mono (Nat.le_refl _) fun a _ h2 _ => e a (by omega)
  exact ⟨s, u1, u8, _, rfl, hM.set _ _, by show N ≤ H.next; omega, fun j a b => (e j (by omega)).trans ((hold j (by omega) b).trans (h0 j a b)), f1.weak (by omega), f8.weak (by omega), he, hk2, hn2⟩
set_option maxRecDepth 10000 in
set_option maxHeartbeats 8000000 in
theorem setof_ev {L : Nat} (call : Value → List Value → AH → Option (Value × AH)) (p N : Nat) (bs : List (Nat × ABlk)) (x : Int) (hM : MI ⟨N, bs⟩) (hp : lookB bs p = some (sB x)) (hS : SrcOK call p)
    (hbig : ∀ (M : Nat) (b : List (Nat × ABlk)), call (.func (.func 40) #[] #[]) [] ⟨M, b⟩ = some (.agg #[.int .i64 4, .slice (some ⟨M + 1, 0, none⟩) 3 1, .int .i64 4, .int .i64 3, .int .i64 0, .int .i64 4, .int .i64 4, .int .i64 14, .slice (some ⟨M + 2, 0, none⟩) 3 1], ⟨M + 3, (M + 2, .cells false [.int .i64 4, .int .i64 13, .int .i64 22]) :: (M + 1, .cells false [.int .i64 9, .int .i64 9, .int .i64 9]) :: (M, .cells false [.int .i64 4, .slice (some ⟨M + 1, 0, none⟩) 3 1, .int .i64 4, .int .i64 3, .int .i64 0, .int .i64 4, .int .i64 4, .int .i64 14, .slice (some ⟨M + 2, 0, none⟩) 3 1]) :: b⟩))
    (hlit : ∀ (M : Nat) (b : List (Nat × ABlk)) (y : Int) (me : Nat), me = 1 ∨ me = 2 → MI ⟨M, b⟩ → lookB b p = some (sB y) → LitEnd M p (me : Int) b (call (.func (.func 48) #[] #[]) [.pointer (some ⟨p, 0, none⟩), .int .i64 (me : Int)] ⟨M, b⟩)) :
    SetEnd N p bs (evFn (tabT Try.prog) call (L + 300) kpT 21 Try.f21 [.pointer (some ⟨p, 0, none⟩)] ⟨N, bs⟩) := by
  have kp := kps
  have gc := gcs
  have hpN : p < N := hM.2 _ (lookB_mem hp)
  have n1 : ¬ p = N := by omega
  have hZ : MI ⟨N + 1, (N, .cells false [.int .i64 0, .slice none 0 0, .int .i64 0, .int .i64 0, .int .i64 0, .int .i64 0, .int .i64 0, .int .i64 0, .slice none 0 0]) :: bs⟩ := hM.push _
  have lk : ∀ y, lookB ((N, ABlk.cells false [.int .i64 0, .slice none 0 0, .int .i64 0, .int .i64 0, .int .i64 0, .int .i64 0, .int .i64 0, .int .i64 0, .slice none 0 0]) :: setB bs p (sB y)) p = some (sB y) := fun y => by
    simp only [lookB, beq_ne n1, Bool.false_eq_true, if_false]
    rw [lookB_setB, if_pos rfl, hp]; rfl
  have mk : ∀ y, MI ⟨N + 1, (N, .cells false [.int .i64 0, .slice none 0 0, .int .i64 0, .int .i64 0, .int .i64 0, .int .i64 0, .int .i64 0, .int .i64 0, .slice none 0 0]) :: setB bs p (sB y)⟩ := fun y => (hM.set p (sB y)).push _
  have up : ∀ y y', setB ((N, ABlk.cells false [.int .i64 0, .slice none 0 0, .int .i64 0, .int .i64 0, .int .i64 0, .int .i64 0, .int .i64 0, .int .i64 0, .slice none 0 0]) :: setB bs p (sB y)) p (sB y') = (N, ABlk.cells false [.int .i64 0, .slice none 0 0, .int .i64 0, .int .i64 0, .int .i64 0, .int .i64 0, .int .i64 0, .int .i64 0, .slice none 0 0]) :: setB bs p (sB y') := fun y y' => by
    simp only [setB, beq_ne n1, Bool.false_eq_true, if_false, setB_setB]
  have c1 : call (.func (.func 47) #[] #[]) [.pointer (some ⟨p, 0, none⟩), .int .i64 6] ⟨N + 1, (N, .cells false [.int .i64 0, .slice none 0 0, .int .i64 0, .int .i64 0, .int .i64 0, .int .i64 0, .int .i64 0, .int .i64 0, .slice none 0 0]) :: bs⟩ = some (.bool (oddV x 6), ⟨N + 1, (N, .cells false [.int .i64 0, .slice none 0 0, .int .i64 0, .int .i64 0, .int .i64 0, .int .i64 0, .int .i64 0, .int .i64 0, .slice none 0 0]) :: setB bs p (sB (stB x))⟩) := by
    have := hS.odd (N + 1) ((N, .cells false [.int .i64 0, .slice none 0 0, .int .i64 0, .int .i64 0, .int .i64 0, .int .i64 0, .int .i64 0, .int .i64 0, .slice none 0 0]) :: bs) x 6 (by omega) (by omega) hZ (by simp only [lookB, beq_ne n1, Bool.false_eq_true, if_false]; exact hp)
    simp only [setB, beq_ne n1, Bool.false_eq_true, if_false] at this
    exact this
  have c2 : ∀ y, call (.func (.func 49) #[] #[]) [.pointer (some ⟨p, 0, none⟩), .int .i64 1, .int .i64 2] ⟨N + 1, (N, .cells false [.int .i64 0, .slice none 0 0, .int .i64 0, .int .i64 0, .int .i64 0, .int .i64 0, .int .i64 0, .int .i64 0, .slice none 0 0]) :: setB bs p (sB y)⟩ = some (.int .i64 (rngV y 1 2), ⟨N + 1, (N, .cells false [.int .i64 0, .slice none 0 0, .int .i64 0, .int .i64 0, .int .i64 0, .int .i64 0, .int .i64 0, .int .i64 0, .slice none 0 0]) :: setB bs p (sB (stB y))⟩) := fun y => by
    have := hS.ran (N + 1) _ y 1 2 (by omega) (by omega) (mk y) (lk y)
    rw [up] at this
    exact this
  simp only [evFn, Try.f21]
  by_cases ho : oddV x 6 = true
  · have hb := hbig (N + 1) ((N, .cells false [.int .i64 0, .slice none 0 0, .int .i64 0, .int .i64 0, .int .i64 0, .int .i64 0, .int .i64 0, .int .i64 0, .slice none 0 0]) :: setB bs p (sB (stB x)))
    have q1 : ¬ N = N + 1 + 2 := by omega
    have q2 : ¬ N = N + 1 + 1 := by omega
    have q3 : ¬ N = N + 1 := by omega
    simp [ec_skip, ec_label, ek_reg, ek_draw, ek_seq, ec_cond, ek_block, ec_loop, ec_exit, ec_ret, ec_scope, ek_nil, ek_op, opK_some, regK_some, seqK_normal, seqK_exit, seqK_ret, blockK_normal, blockK_exit, blockK_ret, evOp, vOp, hOpB, hOpU, hOp, hOpT, aAppendG_tab, aWanted, aYielded, opd, putT, closedV, aBin, intOp, sameK, mapO, joinR, hasAddr, boundOf, pushB, aAlloc, Value.cells, lookB, setB, Nat.beq_eq, tm_n_set, tm_get_set, tm_of_n, tm_of_get, tm_tr_set, tm_tr_of, cellV, putF, appR_eq, takeR_eq, dropR_eq, setR_eq, getR_eq, ↓C75, ↓C76, ↓C77, ↓C79, ↓C17, ↓C18, ↓C22, ↓C71, FA24_0, FA24_1, FA24_2, FA24_3, FA24_4, FA24_5, FA24_6, FA24_7, FA24_8, LD3, LD4, LD22, LD27, LDr, LD24, LEN22, IA22, tkc, cellAt, ↓AL24, ↓Godd, c1, ho, ↓Cbig, hb, ST24, finF, takeM, resV, cleanedG, kp, gc, q1, q2, q3]
    have mE : MI ⟨N + 1 + 3, (N + 1 + 2, .cells false [.int .i64 4, .int .i64 13, .int .i64 22]) :: (N + 1 + 1, .cells false [.int .i64 9, .int .i64 9, .int .i64 9]) :: (N + 1, .cells false [.int .i64 4, .slice (some ⟨N + 1 + 1, 0, none⟩) 3 1, .int .i64 4, .int .i64 3, .int .i64 0, .int .i64 4, .int .i64 4, .int .i64 14, .slice (some ⟨N + 1 + 2, 0, none⟩) 3 1]) :: (N, .cells false [.int .i64 0, .slice none 0 0, .int .i64 0, .int .i64 0, .int .i64 0, .int .i64 0, .int .i64 0, .int .i64 0, .slice none 0 0]) :: setB bs p (sB (stB x))⟩ := (((mk (stB x)).push _).push _).push _
    have r1 : ¬ N + 1 + 1 = N + 1 + 2 := by omega
    have fin := set_end (N := N) (p := p) (bs := bs) (b0 := (N, .cells false [.int .i64 0, .slice none 0 0, .int .i64 0, .int .i64 0, .int .i64 0, .int .i64 0, .int .i64 0, .int .i64 0, .slice none 0 0]) :: setB bs p (sB (stB x))) (s := bigS) (u1 := .slice (some ⟨N + 1 + 1, 0, none⟩) 3 1) (u8 := .slice (some ⟨N + 1 + 2, 0, none⟩) 3 1) mE (by show N + 1 ≤ N + 1 + 3; omega) (fun j hj hjp => by
        have a1 : ¬ j = N + 1 + 2 := by omega
        have a2 : ¬ j = N + 1 + 1 := by omega
        have a3 : ¬ j = N + 1 := by omega
        simp only [lookB, beq_ne a1, beq_ne a2, beq_ne a3, Bool.false_eq_true, if_false]) (fun j hj hjp => by
        have a1 : ¬ j = N := by omega
        simp only [lookB, beq_ne a1, Bool.false_eq_true, if_false, lookB_setB, if_neg hjp]) (.inr ⟨N + 1 + 1, [.int .i64 9, .int .i64 9, .int .i64 9], rfl, by omega, by show N + 1 + 1 < N + 1 + 3; omega, by simp only [lookB, beq_ne r1, Nat.beq_refl, Bool.false_eq_true, if_false, if_true], rfl, rfl, by decide⟩) (.inr ⟨N + 1 + 2, [.int .i64 4, .int .i64 13, .int .i64 22], rfl, by omega, by show N + 1 + 2 < N + 1 + 3; omega, by simp only [lookB, Nat.beq_refl, if_true], rfl, rfl, by decide⟩) big_valid (by decide) (by decide) (.cells false [.int .i64 4, .slice (some ⟨N + 1 + 1, 0, none⟩) 3 1, .int .i64 4, .int .i64 3, .int .i64 0, .int .i64 4, .int .i64 4, .int .i64 14, .slice (some ⟨N + 1 + 2, 0, none⟩) 3 1])
    simp only [setB, beq_ne q1, beq_ne q2, beq_ne q3, Nat.beq_refl, Bool.false_eq_true, if_false, if_true] at fin
    exact fin
  · obtain ⟨me, hme, hme2⟩ : ∃ me : Nat, rngV (stB x) 1 2 = (me : Int) ∧ (me = 1 ∨ me = 2) := by
      have := rngV_bd (stB x) (lo := 1) (hi := 2) (by omega) (by omega)
      exact ⟨(rngV (stB x) 1 2).toNat, by omega, by omega⟩
    obtain ⟨s, y, u1, u8, P, H', hr, hMI, hnx, hsrc, hold, h1, h8, hB, hR, hP, hn, hle⟩ := hlit (N + 1) ((N, .cells false [.int .i64 0, .slice none 0 0, .int .i64 0, .int .i64 0, .int .i64 0, .int .i64 0, .int .i64 0, .int .i64 0, .slice none 0 0]) :: setB bs p (sB (stB (stB x)))) (stB (stB x)) me hme2 (mk _) (lk _)
    have hz : lookB H'.bs N = some (.cells false [.int .i64 0, .slice none 0 0, .int .i64 0, .int .i64 0, .int .i64 0, .int .i64 0, .int .i64 0, .int .i64 0, .slice none 0 0]) := (hold N (by omega) (by omega)).trans (by simp [lookB])
    have c2p := c2 (stB x)
    rw [hme] at c2p
    have v1 := h1.cv
    have v8 := h8.cv
    have he := little_valid (by omega) hB hR hP hn hle
    have hk2 : s.k ≤ 200 := by
      have a1 := hR.le
      obtain ⟨S, a2, a3, a4⟩ := PV_bd hB hn
      have := hB.n
      have := hB.w
      have := hB.d
      omega
    have hfin := set_end (N := N) (p := p) (bs := bs) hMI hnx hold (fun j hj hjp => by
        have a1 : ¬ j = N := by omega
        simp only [lookB, beq_ne a1, Bool.false_eq_true, if_false, lookB_setB, if_neg hjp]) h1 h8 he hk2 hn
    rcases h1 with ⟨_, h⟩ | ⟨a3, cs3, rfl, g1, g2, g3, g4, g5, g6⟩
    · omega
    · rcases h8 with ⟨rfl, h8k⟩ | ⟨a8, cs8, rfl, f1, f2, f3, f4, f5, f6⟩
      · simp [ec_skip, ec_label, ek_reg, ek_draw, ek_seq, ec_cond, ek_block, ec_loop, ec_exit, ec_ret, ec_scope, ek_nil, ek_op, opK_some, regK_some, seqK_normal, seqK_exit, seqK_ret, blockK_normal, blockK_exit, blockK_ret, evOp, vOp, hOpB, hOpU, hOp, hOpT, aAppendG_tab, aWanted, aYielded, opd, putT, closedV, aBin, intOp, sameK, mapO, joinR, hasAddr, boundOf, pushB, aAlloc, Value.cells, lookB, setB, Nat.beq_eq, tm_n_set, tm_get_set, tm_of_n, tm_of_get, tm_tr_set, tm_tr_of, cellV, putF, appR_eq, takeR_eq, dropR_eq, setR_eq, getR_eq, ↓C75, ↓C76, ↓C77, ↓C79, ↓C17, ↓C18, ↓C22, ↓C71, FA24_0, FA24_1, FA24_2, FA24_3, FA24_4, FA24_5, FA24_6, FA24_7, FA24_8, LD3, LD4, LD22, LD27, LDr, LD24, LEN22, IA22, tkc, cellAt, ↓AL24, ↓Godd, ↓Cran, ↓Clit, c1, c2p, ho, hr, hz, ST24, finF, takeM, resV, cleanedG, kp, gc, lookB_setB]
        exact hfin _
      · simp [ec_skip, ec_label, ek_reg, ek_draw, ek_seq, ec_cond, ek_block, ec_loop, ec_exit, ec_ret, ec_scope, ek_nil, ek_op, opK_some, regK_some, seqK_normal, seqK_exit, seqK_ret, blockK_normal, blockK_exit, blockK_ret, evOp, vOp, hOpB, hOpU, hOp, hOpT, aAppendG_tab, aWanted, aYielded, opd, putT, closedV, aBin, intOp, sameK, mapO, joinR, hasAddr, boundOf, pushB, aAlloc, Value.cells, lookB, setB, Nat.beq_eq, tm_n_set, tm_get_set, tm_of_n, tm_of_get, tm_tr_set, tm_tr_of, cellV, putF, appR_eq, takeR_eq, dropR_eq, setR_eq, getR_eq, ↓C75, ↓C76, ↓C77, ↓C79, ↓C17, ↓C18, ↓C22, ↓C71, FA24_0, FA24_1, FA24_2, FA24_3, FA24_4, FA24_5, FA24_6, FA24_7, FA24_8, LD3, LD4, LD22, LD27, LDr, LD24, LEN22, IA22, tkc, cellAt, ↓AL24, ↓Godd, ↓Cran, ↓Clit, c1, c2p, ho, hr, hz, ST24, finF, takeM, resV, cleanedG, kp, gc, lookB_setB]
        exact hfin _

end Go.Proofs.Ytdbpemmhkfbegaa
