/-
  What is proved: the sets that the source makes, and that they are valid. calls of the laws over sets that are made of numbers; what sparrowkit.In answers for a list in cells. the two loops of the law on bags: each kind is there as often as the set says, and the red faces are counted. what tile.kinds comes to for a loop's body that always goes on: every row in its order, whatever the memory is that the body keeps. one round of the loop in tile.Orphans, and what tile.Orphans answers for every set: a list in new memory. the hands while a wall is dealt: where they lie in memory, and what a step changes. the inner loop of tile.Deal: each seat takes some tiles. the outer loop of tile.Deal: rounds of four tiles and of one, until the hands are full. what tile.Deal answers for a valid set, a wall of all its tiles, a cut and a dealer: hands, live and dead wall in new memory. Equal on equal lists, as an answer. sameHands on the same hands. the last loop of the law on shifts. hands dealt from another dealer on: arithmetic. the body of the law on shifts, by what its calls answer. the opening of the laws over sets that are made of numbers: which memory there is behind NewSource and SetOf, for any known answers of other calls. the law's body ends with true for every list of numbers, every seed, cut and dealers. a list of pairs of integers, as a row's argument reads it, is related to a known list of cells (nothing of the program). a list of integers of any length, as a row's argument reads it, is related to a known list of cells (nothing of the program).
-/
import Derived.Test.YtjginpeoblilpaaLawSg1
import Derived.Test.YtjginpeoblilpaaLawSg0
import Derived.Test.YtjginpeoblilpaaM1j
import Derived.OpenShut
import Derived.HandedShaped
namespace Go.Proofs.Ytjginpeoblilpaa
open Go.RowKit
set_option linter.unusedSimpArgs false
set_option linter.unusedVariables false

section
set_option linter.unusedSimpArgs false
set_option linter.unusedVariables false

theorem redsG_zero (h : Nat → Int) (last : Int) : ∀ (m i : Nat) (b : Int), (∀ j, i ≤ j → j < i + m → 0 ≤ h j ∧ h j ≤ last) → (∀ j, i ≤ j → j + 1 < i + m → h j < h (j + 1)) → (0 < m → b < h i) → redsG h last m i b = 0
  | 0, _, _, _, _, _ => rfl
  | m + 1, i, b, h1, h2, h3 => by
    have a := h1 i (Nat.le_refl _) (by omega)
    have c := h3 (by omega)
    rw [redsG, if_pos (btw_iff.2 a), if_neg (by omega)]
    exact redsG_zero h last m (i + 1) (h i) (fun j x y => h1 j (by omega) (by omega)) (fun j x y => h2 j (by omega) (by omega)) (fun hm => h2 i (Nat.le_refl _) (by omega))
theorem plain_PV {me : Int} {s : SV} (hB : LB me s) (h1 : 1 ≤ s.n) : s.plain = PV s := by
  have hn := hB.n
  have g0 := hB.g 0 (by omega)
  have hw := hB.w
  have hd := hB.d
  have a0 : wrapI .i64 (s.w + s.d) = s.w + s.d := wrapI_small (by omega) (by omega)
  obtain ⟨S, hPV, _, _⟩ := PV_bd hB h1
  rcases (show s.n = 1 ∨ s.n = 2 by omega) with h | h
  · have a1 : wrapI .i64 (0 + s.g 0) = s.g 0 := (wrapI_small (by omega) (by omega)).trans (by omega)
    have a2 : wrapI .i64 (s.g 0 + s.w) = s.g 0 + s.w := wrapI_small (by omega) (by omega)
    have a3 : wrapI .i64 (s.g 0 + s.w + s.d) = s.g 0 + s.w + s.d := wrapI_small (by omega) (by omega)
    have a4 : wrapI .i64 (s.w + s.d + s.g 0) = s.w + s.d + s.g 0 := wrapI_small (by omega) (by omega)
    unfold PV SV.plain
    rw [h]
    simp only [sumG]
    rw [a0, a1, a2, a3, a4]
    omega
  · have g1 := hB.g 1 (by omega)
    have g1' : 3 ≤ s.g (0 + 1) ∧ s.g (0 + 1) ≤ 5 := g1
    have e1 : s.g (0 + 1) = s.g 1 := rfl
    have a1 : wrapI .i64 (0 + s.g 0) = s.g 0 := (wrapI_small (by omega) (by omega)).trans (by omega)
    have a5 : wrapI .i64 (s.g 0 + s.g 1) = s.g 0 + s.g 1 := wrapI_small (by omega) (by omega)
    have a2 : wrapI .i64 (s.g 0 + s.g 1 + s.w) = s.g 0 + s.g 1 + s.w := wrapI_small (by omega) (by omega)
    have a3 : wrapI .i64 (s.g 0 + s.g 1 + s.w + s.d) = s.g 0 + s.g 1 + s.w + s.d := wrapI_small (by omega) (by omega)
    have a4 : wrapI .i64 (s.w + s.d + s.g 0) = s.w + s.d + s.g 0 := wrapI_small (by omega) (by omega)
    have a6 : wrapI .i64 (s.w + s.d + s.g 0 + s.g 1) = s.w + s.d + s.g 0 + s.g 1 := wrapI_small (by omega) (by omega)
    unfold PV SV.plain
    rw [h]
    simp only [sumG, e1]
    rw [a0, a1, a5, a2, a3, a4, a6]
    omega
theorem little_valid {me : Int} {s : SV} {P : Nat} (hme : 1 ≤ me ∧ me ≤ 2) (hB : LB me s) (hR : RD s P) (hP : PV s = (P : Int)) (h1 : 1 ≤ s.n) (hle : 3 * (3 * me + 1) + 1 + s.de ≤ PV s * s.c + s.f) : s.err = 0 := by
  have hpl := plain_PV hB h1
  obtain ⟨S, hPV, hS1, hS2⟩ := PV_bd hB h1
  have hn := hB.n
  have hw := hB.w
  have hd := hB.d
  have hf := hB.f
  have hc := hB.c
  have hde := hB.de
  have hp := hB.p
  have hm := hB.m
  have b0 : ruleB s 0 = true := btw_iff.2 (by omega)
  have b1 : ruleB s 1 = true := decide_eq_true (by omega)
  have b2 : ruleB s 2 = true := by
    have i0 := hB.g 0 (by omega)
    have t0 : btw (s.g 0) 1 9 = true := btw_iff.2 (by omega)
    rcases (show s.n = 1 ∨ s.n = 2 by omega) with h | h
    · simp [ruleB, anyBad, h, idxBad, t0]
    · have i1 := hB.g 1 (by omega)
      have t1 : btw (s.g 1) 1 9 = true := btw_iff.2 (by omega)
      simp [ruleB, anyBad, h, idxBad, t0, t1]
  have b3 : ruleB s 3 = true := btw_iff.2 (by omega)
  have b4 : ruleB s 4 = true := btw_iff.2 (by omega)
  have b5 : ruleB s 5 = true := btw_iff.2 (by omega)
  have b6 : ruleB s 6 = true := btw_iff.2 (by omega)
  have b7 : ruleB s 7 = true := btw_iff.2 (by omega)
  have b8 : ruleB s 8 = true := btw_iff.2 (by omega)
  have b9 : ruleB s 9 = true := decide_eq_true (by omega)
  have b10 : ruleB s 10 = true := by
    have e : s.reds = 0 := by
      have w0 : wrapI .i64 (s.plain - 1) = s.plain - 1 := wrapI_small (by omega) (by omega)
      unfold SV.reds
      rw [w0]
      exact redsG_zero _ _ _ _ _ (fun j _ hj => by have := hR.bd j (by omega); omega) (fun j _ hj => hR.up j (by omega)) (fun hk => by have := hR.bd 0 hk; omega)
    simp [ruleB, e]
  have b11 : ruleB s 11 = true := by
    have hpc : 0 ≤ PV s * s.c ∧ PV s * s.c ≤ 68 := by
      rcases (show s.c = 2 ∨ s.c = 3 ∨ s.c = 4 by omega) with h | h | h <;> rw [h] <;> omega
    have v1 : wrapI .i64 (3 * s.m) = 3 * s.m := wrapI_small (by omega) (by omega)
    have v2 : wrapI .i64 (3 * s.m + 1) = 3 * s.m + 1 := wrapI_small (by omega) (by omega)
    have v3 : wrapI .i64 (s.p * (3 * s.m + 1)) = 3 * (3 * s.m + 1) := by rw [hp]; exact wrapI_small (by omega) (by omega)
    have v4 : wrapI .i64 (3 * (3 * s.m + 1) + 1) = 3 * (3 * s.m + 1) + 1 := wrapI_small (by omega) (by omega)
    have v5 : wrapI .i64 (3 * (3 * s.m + 1) + 1 + s.de) = 3 * (3 * s.m + 1) + 1 + s.de := wrapI_small (by omega) (by omega)
    have v6 : wrapI .i64 (s.plain * s.c) = PV s * s.c := by rw [hpl]; exact wrapI_small (by omega) (by omega)
    have v7 : wrapI .i64 (PV s * s.c + s.f) = PV s * s.c + s.f := wrapI_small (by omega) (by omega)
    show decide (s.size ≥ wrapI .i64 (wrapI .i64 (wrapI .i64 (s.p * s.full) + 1) + s.de)) = true
    unfold SV.size SV.full
    rw [v1, v2, v3, v4, v5, v6, v7]
    exact decide_eq_true (by rw [hm]; omega)
  simp [SV.err, firstE, b0, b1, b2, b3, b4, b5, b6, b7, b8, b9, b10, b11]
noncomputable def bigS : SV := ⟨4, 3, gi [.int .i64 9, .int .i64 9, .int .i64 9], 4, 3, 0, 4, 4, 14, 3, gi [.int .i64 4, .int .i64 13, .int .i64 22]⟩
theorem big_valid : bigS.err = 0 := by
  kernel_rfl
/-- What SetOf leaves. -/
def SetEnd (N p : Nat) (bs : List (Nat × ABlk)) (r : Option (Value × AH)) : Prop := ∃ (s : SV) (u1 u8 : Value) (H' : AH), r = some (.agg #[.int .i64 s.p, u1, .int .i64 s.w, .int .i64 s.d, .int .i64 s.f, .int .i64 s.c, .int .i64 s.m, .int .i64 s.de, u8], H') ∧ MI H' ∧ N ≤ H'.next ∧ (∀ j, j < N → j ≠ p → lookB H'.bs j = lookB bs j) ∧ FL N H' u1 s.n s.g ∧ FL N H' u8 s.k s.h ∧ s.err = 0 ∧ s.k ≤ 200 ∧ 1 ≤ s.n
theorem kpb : kpT 60 = false := by kernel_rfl
theorem gcb : gcT 60 = false := by kernel_rfl
theorem kps : kpT 36 = false := by kernel_rfl
theorem gcs : gcT 36 = false := by kernel_rfl
theorem BS3 (H : AH) (a b c : Int) : aBuildSlice (tabT Try.prog) H 22 3 [(0, .int .i64 a), (1, .int .i64 b), (2, .int .i64 c)] = some (.slice (some ⟨H.next, 0, none⟩) 3 1, pushB H (.cells false [.int .i64 a, .int .i64 b, .int .i64 c])) := by kernel_rfl
theorem BDb (u v : Option Addr) (n k : Nat) : aBuild (tabT Try.prog) 24 [(0, .int .i64 4), (1, .slice u n 1), (2, .int .i64 4), (3, .int .i64 3), (5, .int .i64 4), (6, .int .i64 4), (7, .int .i64 14), (8, .slice v k 1)] = some (.agg #[.int .i64 4, .slice u n 1, .int .i64 4, .int .i64 3, .int .i64 0, .int .i64 4, .int .i64 4, .int .i64 14, .slice v k 1]) := by kernel_rfl
set_option maxRecDepth 10000 in
set_option maxHeartbeats 8000000 in
theorem big_ev {L : Nat} (call : Value → List Value → AH → Option (Value × AH)) (M : Nat) (b : List (Nat × ABlk)) : evFn (tabT Try.prog) call (L + 300) kpT 60 Try.f60 [] ⟨M, b⟩ = some (.agg #[.int .i64 4, .slice (some ⟨M + 1, 0, none⟩) 3 1, .int .i64 4, .int .i64 3, .int .i64 0, .int .i64 4, .int .i64 4, .int .i64 14, .slice (some ⟨M + 2, 0, none⟩) 3 1], ⟨M + 3, (M + 2, .cells false [.int .i64 4, .int .i64 13, .int .i64 22]) :: (M + 1, .cells false [.int .i64 9, .int .i64 9, .int .i64 9]) :: (M, .cells false [.int .i64 4, .slice (some ⟨M + 1, 0, none⟩) 3 1, .int .i64 4, .int .i64 3, .int .i64 0, .int .i64 4, .int .i64 4, .int .i64 14, .slice (some ⟨M + 2, 0, none⟩) 3 1]) :: b⟩) := by
  have kp := kpb
  have gc := gcb
  have mm : ¬ M = M + 1 + 1 := by omega
  simp only [evFn, Try.f60]
  simp [ec_skip, ec_label, ek_reg, ek_draw, ek_seq, ec_cond, ek_block, ec_loop, ec_exit, ec_ret, ec_scope, ek_nil, ek_op, opK_some, regK_some, seqK_normal, seqK_exit, seqK_ret, blockK_normal, blockK_exit, blockK_ret, evOp, vOp, hOpB, hOpU, hOp, hOpT, aAppendG_tab, aWanted, aYielded, opd, putT, closedV, aBin, intOp, sameK, mapO, joinR, hasAddr, boundOf, pushB, aAlloc, Value.cells, lookB, setB, Nat.beq_eq, tm_n_set, tm_get_set, tm_of_n, tm_of_get, tm_tr_set, tm_tr_of, cellV, putF, appR_eq, takeR_eq, dropR_eq, setR_eq, getR_eq, ↓C75, ↓C76, ↓C77, ↓C79, ↓C17, ↓C18, ↓C22, ↓C71, FA24_0, FA24_1, FA24_2, FA24_3, FA24_4, FA24_5, FA24_6, FA24_7, FA24_8, LD3, LD4, LD22, LD27, LDr, LD24, LEN22, IA22, tkc, cellAt, ↓AL24, BS3, BDb, partsO, ST24, finF, takeM, resV, cleanedG, kp, gc, mm]
theorem Cbig (call : Value → List Value → AH → Option (Value × AH)) {tm : Tm} {H : AH} {d : Option Tmp} {t : TypeId} {p : String} {a : Array Edge} {gd : Option (Nat × Bool)} : evOp (tabT Try.prog) call ⟨d, .call ⟨.value (.func 60), #[], #[]⟩, t, p, a, gd⟩ (opd tm) H = call (.func (.func 60) #[] #[]) [] H :=
  evOp_evO.trans (eo_call0 rfl)
theorem Nlit : ((tabT Try.prog) 50).map (fun z => z.ex.nat 78) = some none := by kernel_rfl
theorem Clit (call : Value → List Value → AH → Option (Value × AH)) {tm : Tm} {i j : Nat} {H : AH} {d : Option Tmp} {t : TypeId} {p : String} {a : Array Edge} {gd : Option (Nat × Bool)} : evOp (tabT Try.prog) call ⟨d, .call ⟨.value (.func 78), #[.tmp i, .tmp j], #[50, 3]⟩, t, p, a, gd⟩ (opd tm) H = call (.func (.func 78) #[] #[]) [tm.get i, tm.get j] H :=
  evOp_evO.trans (eo_call2n rfl rfl rfl Nlit)
theorem FL.cv {lo n : Nat} {H : AH} {u : Value} {g : Nat → Int} (h : FL lo H u n g) : cellV u = true := by
  rcases h with ⟨rfl, rfl⟩ | ⟨a, cs, rfl, _⟩ <;> rfl
theorem set_end {N p : Nat} {bs b0 : List (Nat × ABlk)} {s : SV} {u1 u8 : Value} {H : AH} (hM : MI H) (hn : N + 1 ≤ H.next) (hold : ∀ j, j < N + 1 → j ≠ p → lookB H.bs j = lookB b0 j) (h0 : ∀ j, j < N → j ≠ p → lookB b0 j = lookB bs j) (h1 : FL (N + 1) H u1 s.n s.g) (h8 : FL (N + 1) H u8 s.k s.h) (he : s.err = 0) (hk2 : s.k ≤ 200) (hn2 : 1 ≤ s.n) (v : ABlk) : SetEnd N p bs (some (.agg #[.int .i64 s.p, u1, .int .i64 s.w, .int .i64 s.d, .int .i64 s.f, .int .i64 s.c, .int .i64 s.m, .int .i64 s.de, u8], ⟨H.next, setB H.bs N v⟩)) := by
  have e : ∀ j, j ≠ N → lookB (setB H.bs N v) j = lookB H.bs j := fun j hj => by rw [lookB_setB, if_neg hj]
  have f1 : FL (N + 1) ⟨H.next, setB H.bs N v⟩ u1 s.n s.g := h1.mono (Nat.le_refl _) fun a _ h2 _ => e a (by omega)
  have f8 : FL (N + 1) ⟨H.next, setB H.bs N v⟩ u8 s.k s.h := h8.mono (Nat.le_refl _) fun a _ h2 _ => e a (by omega)
  exact ⟨s, u1, u8, _, rfl, hM.set _ _, by show N ≤ H.next; omega, fun j a b => (e j (by omega)).trans ((hold j (by omega) b).trans (h0 j a b)), f1.weak (by omega), f8.weak (by omega), he, hk2, hn2⟩
set_option maxRecDepth 10000 in
set_option maxHeartbeats 8000000 in
theorem setof_ev {L : Nat} (call : Value → List Value → AH → Option (Value × AH)) (p N : Nat) (bs : List (Nat × ABlk)) (x : Int) (hM : MI ⟨N, bs⟩) (hp : lookB bs p = some (sB x)) (hS : SrcOK call p)
    (hbig : ∀ (M : Nat) (b : List (Nat × ABlk)), call (.func (.func 60) #[] #[]) [] ⟨M, b⟩ = some (.agg #[.int .i64 4, .slice (some ⟨M + 1, 0, none⟩) 3 1, .int .i64 4, .int .i64 3, .int .i64 0, .int .i64 4, .int .i64 4, .int .i64 14, .slice (some ⟨M + 2, 0, none⟩) 3 1], ⟨M + 3, (M + 2, .cells false [.int .i64 4, .int .i64 13, .int .i64 22]) :: (M + 1, .cells false [.int .i64 9, .int .i64 9, .int .i64 9]) :: (M, .cells false [.int .i64 4, .slice (some ⟨M + 1, 0, none⟩) 3 1, .int .i64 4, .int .i64 3, .int .i64 0, .int .i64 4, .int .i64 4, .int .i64 14, .slice (some ⟨M + 2, 0, none⟩) 3 1]) :: b⟩))
    (hlit : ∀ (M : Nat) (b : List (Nat × ABlk)) (y : Int) (me : Nat), me = 1 ∨ me = 2 → MI ⟨M, b⟩ → lookB b p = some (sB y) → LitEnd M p (me : Int) b (call (.func (.func 78) #[] #[]) [.pointer (some ⟨p, 0, none⟩), .int .i64 (me : Int)] ⟨M, b⟩)) :
    SetEnd N p bs (evFn (tabT Try.prog) call (L + 300) kpT 36 Try.f36 [.pointer (some ⟨p, 0, none⟩)] ⟨N, bs⟩) := by
  have kp := kps
  have gc := gcs
  have hpN : p < N := hM.2 _ (lookB_mem hp)
  have n1 : ¬ p = N := by omega
  have hZ : MI ⟨N + 1, (N, .cells false [.int .i64 0, .slice none 0 0, .int .i64 0, .int .i64 0, .int .i64 0, .int .i64 0, .int .i64 0, .int .i64 0, .slice none 0 0]) :: bs⟩ := hM.push _
  have lk : ∀ y, lookB ((N, ABlk.cells false [.int .i64 0, .slice none 0 0, .int .i64 0, .int .i64 0, .int .i64 0, .int .i64 0, .int .i64 0, .int .i64 0, .slice none 0 0]) :: setB bs p (sB y)) p = some (sB y) := fun y => by
    simp only [lookB, beq_ne n1, Bool.false_eq_true, if_false]
    rw [lookB_setB, if_pos rfl, hp]; rfl
  have mk : ∀ y, MI ⟨N + 1, (N, .cells false [.int .i64 0, .slice none 0 0, .int .i64 0, .int .i64 0, .int .i64 0, .int .i64 0, .int .i64 0, .int .i64 0, .slice none 0 0]) :: setB bs p (sB y)⟩ := fun y => (hM.set p (sB y)).push _
  have up : ∀ y y', setB ((N, ABlk.cells false [.int .i64 0, .slice none 0 0, .int .i64 0, .int .i64 0, .int .i64 0, .int .i64 0, .int .i64 0, .int .i64 0, .slice none 0 0]) :: setB bs p (sB y)) p (sB y') = (N, ABlk.cells false [.int .i64 0, .slice none 0 0, .int .i64 0, .int .i64 0, .int .i64 0, .int .i64 0, .int .i64 0, .int .i64 0, .slice none 0 0]) :: setB bs p (sB y') := fun y y' => by
    simp only [setB, beq_ne n1, Bool.false_eq_true, if_false, setB_setB]
  have c1 : call (.func (.func 77) #[] #[]) [.pointer (some ⟨p, 0, none⟩), .int .i64 6] ⟨N + 1, (N, .cells false [.int .i64 0, .slice none 0 0, .int .i64 0, .int .i64 0, .int .i64 0, .int .i64 0, .int .i64 0, .int .i64 0, .slice none 0 0]) :: bs⟩ = some (.bool (oddV x 6), ⟨N + 1, (N, .cells false [.int .i64 0, .slice none 0 0, .int .i64 0, .int .i64 0, .int .i64 0, .int .i64 0, .int .i64 0, .int .i64 0, .slice none 0 0]) :: setB bs p (sB (stB x))⟩) := by
    have := hS.odd (N + 1) ((N, .cells false [.int .i64 0, .slice none 0 0, .int .i64 0, .int .i64 0, .int .i64 0, .int .i64 0, .int .i64 0, .int .i64 0, .slice none 0 0]) :: bs) x 6 (by omega) (by omega) hZ (by simp only [lookB, beq_ne n1, Bool.false_eq_true, if_false]; exact hp)
    simp only [setB, beq_ne n1, Bool.false_eq_true, if_false] at this
    exact this
  have c2 : ∀ y, call (.func (.func 79) #[] #[]) [.pointer (some ⟨p, 0, none⟩), .int .i64 1, .int .i64 2] ⟨N + 1, (N, .cells false [.int .i64 0, .slice none 0 0, .int .i64 0, .int .i64 0, .int .i64 0, .int .i64 0, .int .i64 0, .int .i64 0, .slice none 0 0]) :: setB bs p (sB y)⟩ = some (.int .i64 (rngV y 1 2), ⟨N + 1, (N, .cells false [.int .i64 0, .slice none 0 0, .int .i64 0, .int .i64 0, .int .i64 0, .int .i64 0, .int .i64 0, .int .i64 0, .slice none 0 0]) :: setB bs p (sB (stB y))⟩) := fun y => by
    have := hS.ran (N + 1) _ y 1 2 (by omega) (by omega) (mk y) (lk y)
    rw [up] at this
    exact this
  simp only [evFn, Try.f36]
  by_cases ho : oddV x 6 = true
  · have hb := hbig (N + 1) ((N, .cells false [.int .i64 0, .slice none 0 0, .int .i64 0, .int .i64 0, .int .i64 0, .int .i64 0, .int .i64 0, .int .i64 0, .slice none 0 0]) :: setB bs p (sB (stB x)))
    have q1 : ¬ N = N + 1 + 2 := by omega
    have q2 : ¬ N = N + 1 + 1 := by omega
    have q3 : ¬ N = N + 1 := by omega
    simp [ec_skip, ec_label, ek_reg, ek_draw, ek_seq, ec_cond, ek_block, ec_loop, ec_exit, ec_ret, ec_scope, ek_nil, ek_op, opK_some, regK_some, seqK_normal, seqK_exit, seqK_ret, blockK_normal, blockK_exit, blockK_ret, evOp, vOp, hOpB, hOpU, hOp, hOpT, aAppendG_tab, aWanted, aYielded, opd, putT, closedV, aBin, intOp, sameK, mapO, joinR, hasAddr, boundOf, pushB, aAlloc, Value.cells, lookB, setB, Nat.beq_eq, tm_n_set, tm_get_set, tm_of_n, tm_of_get, tm_tr_set, tm_tr_of, cellV, putF, appR_eq, takeR_eq, dropR_eq, setR_eq, getR_eq, ↓C75, ↓C76, ↓C77, ↓C79, ↓C17, ↓C18, ↓C22, ↓C71, FA24_0, FA24_1, FA24_2, FA24_3, FA24_4, FA24_5, FA24_6, FA24_7, FA24_8, LD3, LD4, LD22, LD27, LDr, LD24, LEN22, IA22, tkc, cellAt, ↓AL24, ↓Godd, c1, ho, ↓Cbig, hb, ST24, finF, takeM, resV, cleanedG, kp, gc, q1, q2, q3]
    have mE : MI ⟨N + 1 + 3, (N + 1 + 2, .cells false [.int .i64 4, .int .i64 13, .int .i64 22]) :: (N + 1 + 1, .cells false [.int .i64 9, .int .i64 9, .int .i64 9]) :: (N + 1, .cells false [.int .i64 4, .slice (some ⟨N + 1 + 1, 0, none⟩) 3 1, .int .i64 4, .int .i64 3, .int .i64 0, .int .i64 4, .int .i64 4, .int .i64 14, .slice (some ⟨N + 1 + 2, 0, none⟩) 3 1]) :: (N, .cells false [.int .i64 0, .slice none 0 0, .int .i64 0, .int .i64 0, .int .i64 0, .int .i64 0, .int .i64 0, .int .i64 0, .slice none 0 0]) :: setB bs p (sB (stB x))⟩ := (((mk (stB x)).push _).push _).push _
    have r1 : ¬ N + 1 + 1 = N + 1 + 2 := by omega
    have fin := set_end (N := N) (p := p) (bs := bs) (b0 := (N, .cells false [.int .i64 0, .slice none 0 0, .int .i64 0, .int .i64 0, .int .i64 0, .int .i64 0, .int .i64 0, .int .i64 0, .slice none 0 0]) :: setB bs p (sB (stB x))) (s := bigS) (u1 := .slice (some ⟨N + 1 + 1, 0, none⟩) 3 1) (u8 := .slice (some ⟨N + 1 + 2, 0, none⟩) 3 1) mE (by show N + 1 ≤ N + 1 + 3; omega) (fun j hj hjp => by
        have a1 : ¬ j = N + 1 + 2 := by omega
        have a2 : ¬ j = N + 1 + 1 := by omega
        have a3 : ¬ j = N + 1 := by omega
        simp only [lookB, beq_ne a1, beq_ne a2, beq_ne a3, Bool.false_eq_true, if_false]) (fun j hj hjp => by
        have a1 : ¬ j = N := by omega
        simp only [lookB, beq_ne a1, Bool.false_eq_true, if_false, lookB_setB, if_neg hjp]) (.inr ⟨N + 1 + 1, [.int .i64 9, .int .i64 9, .int .i64 9], rfl, by omega, by show N + 1 + 1 < N + 1 + 3; omega, by simp only [lookB, beq_ne r1, Nat.beq_refl, Bool.false_eq_true, if_false, if_true], rfl, rfl, by decide⟩) (.inr ⟨N + 1 + 2, [.int .i64 4, .int .i64 13, .int .i64 22], rfl, by omega, by show N + 1 + 2 < N + 1 + 3; omega, by simp only [lookB, Nat.beq_refl, if_true], rfl, rfl, by decide⟩) big_valid (by decide) (by decide) (.cells false [.int .i64 4, .slice (some ⟨N + 1 + 1, 0, none⟩) 3 1, .int .i64 4, .int .i64 3, .int .i64 0, .int .i64 4, .int .i64 4, .int .i64 14, .slice (some ⟨N + 1 + 2, 0, none⟩) 3 1])
    simp only [setB, beq_ne q1, beq_ne q2, beq_ne q3, Nat.beq_refl, Bool.false_eq_true, if_false, if_true] at fin
    exact fin
  · obtain ⟨me, hme, hme2⟩ : ∃ me : Nat, rngV (stB x) 1 2 = (me : Int) ∧ (me = 1 ∨ me = 2) := by
      have := rngV_bd (stB x) (lo := 1) (hi := 2) (by omega) (by omega)
      exact ⟨(rngV (stB x) 1 2).toNat, by omega, by omega⟩
    obtain ⟨s, y, u1, u8, P, H', hr, hMI, hnx, hsrc, hold, h1, h8, hB, hR, hP, hn, hle⟩ := hlit (N + 1) ((N, .cells false [.int .i64 0, .slice none 0 0, .int .i64 0, .int .i64 0, .int .i64 0, .int .i64 0, .int .i64 0, .int .i64 0, .slice none 0 0]) :: setB bs p (sB (stB (stB x)))) (stB (stB x)) me hme2 (mk _) (lk _)
    have hz : lookB H'.bs N = some (.cells false [.int .i64 0, .slice none 0 0, .int .i64 0, .int .i64 0, .int .i64 0, .int .i64 0, .int .i64 0, .int .i64 0, .slice none 0 0]) := (hold N (by omega) (by omega)).trans (by simp [lookB])
    have c2p := c2 (stB x)
    rw [hme] at c2p
    have v1 := h1.cv
    have v8 := h8.cv
    have he := little_valid (by omega) hB hR hP hn hle
    have hk2 : s.k ≤ 200 := by
      have a1 := hR.le
      obtain ⟨S, a2, a3, a4⟩ := PV_bd hB hn
      have := hB.n
      have := hB.w
      have := hB.d
      omega
    have hfin := set_end (N := N) (p := p) (bs := bs) hMI hnx hold (fun j hj hjp => by
        have a1 : ¬ j = N := by omega
        simp only [lookB, beq_ne a1, Bool.false_eq_true, if_false, lookB_setB, if_neg hjp]) h1 h8 he hk2 hn
    rcases h1 with ⟨_, h⟩ | ⟨a3, cs3, rfl, g1, g2, g3, g4, g5, g6⟩
    · omega
    · rcases h8 with ⟨rfl, h8k⟩ | ⟨a8, cs8, rfl, f1, f2, f3, f4, f5, f6⟩
      · simp [ec_skip, ec_label, ek_reg, ek_draw, ek_seq, ec_cond, ek_block, ec_loop, ec_exit, ec_ret, ec_scope, ek_nil, ek_op, opK_some, regK_some, seqK_normal, seqK_exit, seqK_ret, blockK_normal, blockK_exit, blockK_ret, evOp, vOp, hOpB, hOpU, hOp, hOpT, aAppendG_tab, aWanted, aYielded, opd, putT, closedV, aBin, intOp, sameK, mapO, joinR, hasAddr, boundOf, pushB, aAlloc, Value.cells, lookB, setB, Nat.beq_eq, tm_n_set, tm_get_set, tm_of_n, tm_of_get, tm_tr_set, tm_tr_of, cellV, putF, appR_eq, takeR_eq, dropR_eq, setR_eq, getR_eq, ↓C75, ↓C76, ↓C77, ↓C79, ↓C17, ↓C18, ↓C22, ↓C71, FA24_0, FA24_1, FA24_2, FA24_3, FA24_4, FA24_5, FA24_6, FA24_7, FA24_8, LD3, LD4, LD22, LD27, LDr, LD24, LEN22, IA22, tkc, cellAt, ↓AL24, ↓Godd, ↓Cran, ↓Clit, c1, c2p, ho, hr, hz, ST24, finF, takeM, resV, cleanedG, kp, gc, lookB_setB]
        exact hfin _
      · simp [ec_skip, ec_label, ek_reg, ek_draw, ek_seq, ec_cond, ek_block, ec_loop, ec_exit, ec_ret, ec_scope, ek_nil, ek_op, opK_some, regK_some, seqK_normal, seqK_exit, seqK_ret, blockK_normal, blockK_exit, blockK_ret, evOp, vOp, hOpB, hOpU, hOp, hOpT, aAppendG_tab, aWanted, aYielded, opd, putT, closedV, aBin, intOp, sameK, mapO, joinR, hasAddr, boundOf, pushB, aAlloc, Value.cells, lookB, setB, Nat.beq_eq, tm_n_set, tm_get_set, tm_of_n, tm_of_get, tm_tr_set, tm_tr_of, cellV, putF, appR_eq, takeR_eq, dropR_eq, setR_eq, getR_eq, ↓C75, ↓C76, ↓C77, ↓C79, ↓C17, ↓C18, ↓C22, ↓C71, FA24_0, FA24_1, FA24_2, FA24_3, FA24_4, FA24_5, FA24_6, FA24_7, FA24_8, LD3, LD4, LD22, LD27, LDr, LD24, LEN22, IA22, tkc, cellAt, ↓AL24, ↓Godd, ↓Cran, ↓Clit, c1, c2p, ho, hr, hz, ST24, finF, takeM, resV, cleanedG, kp, gc, lookB_setB]
        exact hfin _


end

section
set_option linter.unusedSimpArgs false
set_option linter.unusedVariables false

theorem Nsetof : ((tabT Try.prog) 50).map (fun z => (z.ex.nat 36, z.ex.mnz 36)) = some (none, none) := by kernel_rfl
theorem Csetof (call : Value → List Value → AH → Option (Value × AH)) {tm : Tm} {i : Nat} {H : AH} {d : Option Tmp} {t : TypeId} {p : String} {a : Array Edge} {gd : Option (Nat × Bool)} : evOp (tabT Try.prog) call ⟨d, .call ⟨.value (.func 36), #[.tmp i], #[50]⟩, t, p, a, gd⟩ (opd tm) H = call (.func (.func 36) #[] #[]) [tm.get i] H :=
  evOp_evO.trans (eo_call1 rfl rfl Nsetof)
theorem Nnews : ((tabT Try.prog) 22).map (fun z => (z.ex.nat 37, z.ex.mnz 37)) = some (none, none) := by kernel_rfl
theorem Cnews (call : Value → List Value → AH → Option (Value × AH)) {tm : Tm} {i : Nat} {H : AH} {d : Option Tmp} {t : TypeId} {p : String} {a : Array Edge} {gd : Option (Nat × Bool)} : evOp (tabT Try.prog) call ⟨d, .call ⟨.value (.func 37), #[.tmp i], #[22]⟩, t, p, a, gd⟩ (opd tm) H = call (.func (.func 37) #[] #[]) [tm.get i] H :=
  evOp_evO.trans (eo_call1 rfl rfl Nnews)
theorem Cawake (call : Value → List Value → AH → Option (Value × AH)) {tm : Tm} {H : AH} {d : Option Tmp} {t : TypeId} {p : String} {a : Array Edge} {gd : Option (Nat × Bool)} : evOp (tabT Try.prog) call ⟨d, .call ⟨.value (.func 27), #[], #[]⟩, t, p, a, gd⟩ (opd tm) H = call (.func (.func 27) #[] #[]) [] H :=
  evOp_evO.trans (eo_call0 rfl)
theorem cvI (k : IntKind) (n : Int) : cellV (.int k n) = true := rfl
theorem IX22 (i n k : Nat) (h : k < n) : aIndexAddr (tabT Try.prog) 22 (.slice (some ⟨i, 0, none⟩) n 1) (.int .i64 (k : Int)) = some (.pointer (some ⟨i, k, none⟩)) := by
  rw [ixa (e := 3) (z := 1) (by kernel_rfl) (by kernel_rfl) i 0 n 1 k h]
  simp
end

section
set_option linter.unusedSimpArgs false
set_option linter.unusedVariables false

theorem slc {T : TypeId → Option TI} {t e : TypeId} {z : Nat} (h1 : (T t).map (·.desc) = some (.slice e)) (h2 : (T e).map (·.size) = some z) (i n : Nat) (k : Nat) (h : k ≤ n) : aSlice T t (.slice (some ⟨i, 0, none⟩) n z) none (some (.int .i64 (k : Int))) = some (.slice (some ⟨i, 0, none⟩) k z) ∧
    aSlice T t (.slice (some ⟨i, 0, none⟩) n z) (some (.int .i64 (k : Int))) none = some (if k = 0 then .slice (some ⟨i, 0, none⟩) n z else if k = n then .slice (some ⟨0, 0, some 0⟩) 0 z else .slice (some ⟨i, k * z, none⟩) (n - k) z) := by
  obtain ⟨_, _, _, _, ht⟩ := tdesc h1
  cases he : T e with
  | none => rw [he] at h2; cases h2
  | some y =>
    rw [he] at h2
    simp only [Option.map_some, Option.some.injEq] at h2
    have b0 : bnd (some (.int .i64 (k : Int))) n = some k := rfl
    have b1 : bnd (some (.int .i64 (k : Int))) 0 = some k := rfl
    have b2 : bnd none 0 = some 0 := rfl
    have b3 : bnd none n = some n := rfl
    have c1 : Nat.ble k n = true := by rw [Nat.ble_eq]; exact h
    have c2 : Nat.ble n n = true := by rw [Nat.ble_eq]; exact Nat.le_refl _
    have c3 : Nat.ble 0 k = true := by rw [Nat.ble_eq]; exact Nat.zero_le _
    simp only [aSlice, ht, he, h2, b0, b1, b2, b3, c1, c2, c3, Nat.beq_refl, Bool.and_self, if_true]
    refine ⟨trivial, ?_⟩
    by_cases e1 : k = 0
    · subst e1
      simp
    · by_cases e2 : k = n
      · subst e2
        have : Nat.beq k 0 = false := by cases hb : Nat.beq k 0 with | false => rfl | true => exact absurd (Nat.eq_of_beq_eq_true hb) e1
        simp [e1, this]
      · have x1 : Nat.beq k 0 = false := by cases hb : Nat.beq k 0 with | false => rfl | true => exact absurd (Nat.eq_of_beq_eq_true hb) e1
        have x2 : Nat.beq n k = false := by cases hb : Nat.beq n k with | false => rfl | true => exact absurd (Nat.eq_of_beq_eq_true hb).symm e2
        simp [e1, e2, x1, x2]
theorem SLa (i n k : Nat) (h : k ≤ n) : aSlice (tabT Try.prog) 22 (.slice (some ⟨i, 0, none⟩) n 1) none (some (.int .i64 (k : Int))) = some (.slice (some ⟨i, 0, none⟩) k 1) := (slc (e := 3) (by kernel_rfl) (by kernel_rfl) i n k h).1
theorem SLb (i n k : Nat) (h : k ≤ n) : aSlice (tabT Try.prog) 22 (.slice (some ⟨i, 0, none⟩) n 1) (some (.int .i64 (k : Int))) none = some (if k = 0 then .slice (some ⟨i, 0, none⟩) n 1 else if k = n then .slice (some ⟨0, 0, some 0⟩) 0 1 else .slice (some ⟨i, k * 1, none⟩) (n - k) 1) := (slc (e := 3) (by kernel_rfl) (by kernel_rfl) i n k h).2
def loopsA : Code → List Code
  | .seq x y => loopsA x ++ loopsA y
  | .block _ c => loopsA c
  | .loop c => [c]
  | _ => []
end

section
set_option linter.unusedSimpArgs false
set_option linter.unusedVariables false


section
variable {X : Type}

/-- What a body that always goes on keeps true of the memory. -/
structure Keeps (Inv Mid : Int → X → AH → Prop) : Prop where
  y : ∀ c x H, Inv c x H → lookB H.bs 7 = some (.cells false [.func (.yield 6) #[] #[]])
  c : ∀ c x H, Inv c x H → lookB H.bs 8 = some (.cells false [.int .i64 c])
  m : ∀ c x H, Mid c x H → lookB H.bs 8 = some (.cells false [.int .i64 c])
  s : ∀ c x H, Mid c x H → Inv (c + 1) x { H with bs := setB H.bs 8 (.cells false [.int .i64 (c + 1)]) }

end



end

section
set_option linter.unusedSimpArgs false
set_option linter.unusedVariables false

theorem intsV_len (l : List Int) : (intsV l).length = l.length := by simp [intsV]
theorem tk_all (cs : List Value) (n : Nat) (h : cs.length = n) : takeCells cs 0 n = some cs := by
  unfold takeCells
  rw [takeK_eq, dropR_eq, if_pos (by simp; omega)]
  simp only [List.drop_zero]
  rw [List.take_of_length_le (by omega)]
/-- The list that a loop has made so far, in a block from lo on. -/
def HasB (lo : Nat) (H : AH) (v : Value) (l : List Int) : Prop := ∃ b, v = lstV b l ∧ (l ≠ [] → lo ≤ b ∧ b < H.next ∧ lookB H.bs b = some (.cells false (intsV l)))

theorem HasB.of {lo : Nat} {H H' : AH} {v : Value} {l : List Int} (h : HasB lo H v l) (hn : H.next ≤ H'.next) (hb : ∀ i, lo ≤ i → i < H.next → lookB H'.bs i = lookB H.bs i) : HasB lo H' v l := by
  obtain ⟨b, e, hb'⟩ := h
  refine ⟨b, e, fun hne => ?_⟩
  obtain ⟨q1, q2, q3⟩ := hb' hne
  exact ⟨q1, by omega, by rw [hb b q1 q2]; exact q3⟩

noncomputable def codeOA : Code := ((Try.f23.body.bind rfOf).getD (.skip, .skip)).1
noncomputable def codeOB : Code := ((Try.f23.body.bind rfOf).getD (.skip, .skip)).2

/-- The temporaries of Orphans when its loop begins. -/
noncomputable def tmO (s : SV) : Tm := ((((((((Tm.of [s.val] 48).set 1 (.pointer (some ⟨2, 0, none⟩))).set 2 (.slice none 0 0)).set 8 s.val).set 9 (.bool true)).set 10 (.bool false)).set 3 (.pointer (some ⟨3, 0, none⟩))).set 11 s.val).set 12 (.func (.func 86) #[] #[.pointer (some ⟨4, 0, none⟩)])
noncomputable def loopO (s : SV) : ABlk := .loop .ready none 23 (tmO s) [13, 14] codeOA codeOB

structure InO (s : SV) (c : Int) (l : List Int) (H : AH) : Prop where
  nx : 9 ≤ H.next
  b0 : lookB H.bs 0 = some (.ints s.g)
  b1 : lookB H.bs 1 = some (.ints s.h)
  b2 : lookB H.bs 2 = some (.cells false s.boxL)
  b3 : ∃ v, lookB H.bs 3 = some (.cells false [v]) ∧ HasB 9 H v l
  b4 : lookB H.bs 4 = some (.cells false s.boxL)
  b5 : lookB H.bs 5 = some .defd
  b6 : lookB H.bs 6 = some (loopO s)
  b7 : lookB H.bs 7 = some (.cells false [.func (.yield 6) #[] #[]])
  b8 : lookB H.bs 8 = some (.cells false [.int .i64 c])

end

section
set_option linter.unusedSimpArgs false
set_option linter.unusedVariables false

theorem slc2 {T : TypeId → Option TI} {t e : TypeId} {z : Nat} (h1 : (T t).map (·.desc) = some (.slice e)) (h2 : (T e).map (·.size) = some z) (i n lo k : Nat) (hk : 1 ≤ k) (h : lo + k ≤ n) : aSlice T t (.slice (some ⟨i, 0, none⟩) n z) (some (.int .i64 (lo : Int))) (some (.int .i64 ((lo + k : Nat) : Int))) = some (.slice (some ⟨i, lo * z, none⟩) k z) := by
  obtain ⟨_, _, _, _, ht⟩ := tdesc h1
  cases he : T e with
  | none => rw [he] at h2; cases h2
  | some y =>
    rw [he] at h2
    simp only [Option.map_some, Option.some.injEq] at h2
    have b0 : bnd (some (.int .i64 ((lo + k : Nat) : Int))) n = some (lo + k) := rfl
    have b1 : bnd (some (.int .i64 (lo : Int))) 0 = some lo := rfl
    have c1 : Nat.ble lo (lo + k) = true := by rw [Nat.ble_eq]; omega
    have c2 : Nat.ble (lo + k) n = true := by rw [Nat.ble_eq]; exact h
    simp only [aSlice, ht, he, h2, b0, b1, c1, c2, Nat.beq_refl, Bool.and_self, if_true]
    by_cases e1 : lo = 0
    · subst e1
      simp
    · have x1 : Nat.beq lo 0 = false := by cases hb : Nat.beq lo 0 with | false => rfl | true => exact absurd (Nat.eq_of_beq_eq_true hb) e1
      have x2 : Nat.beq (lo + k) lo = false := by cases hb : Nat.beq (lo + k) lo with | false => rfl | true => exact absurd (Nat.eq_of_beq_eq_true hb) (by omega)
      simp [x1, x2]
theorem SLc (i n lo k : Nat) (hk : 1 ≤ k) (h : lo + k ≤ n) : aSlice (tabT Try.prog) 22 (.slice (some ⟨i, 0, none⟩) n 1) (some (.int .i64 (lo : Int))) (some (.int .i64 ((lo + k : Nat) : Int))) = some (.slice (some ⟨i, lo, none⟩) k 1) := by
  have := slc2 (T := (tabT Try.prog)) (t := 22) (e := 3) (z := 1) (by kernel_rfl) (by kernel_rfl) i n lo k hk h
  rw [Nat.mul_one] at this
  exact this
/-- A part of a list of numbers. -/
def partL (T : Nat → Int) (off k : Nat) : List Int := (List.range k).map fun j => T (off + j)
theorem partL_len (T : Nat → Int) (off k : Nat) : (partL T off k).length = k := by simp [partL]
theorem intsV_partL (T : Nat → Int) (off k : Nat) : intsV (partL T off k) = intsL (fun j => T (off + j)) k := by simp [intsV, partL, intsL]
theorem intsV_app (a b : List Int) : intsV (a ++ b) = intsV a ++ intsV b := by simp [intsV]
theorem intsV_cell (l : List Int) : (intsV l).all cellV = true := by
  simp only [List.all_eq_true, intsV, List.mem_map]
  rintro v ⟨j, _, rfl⟩
  rfl
theorem src_part {bs : List (Nat × ABlk)} {tb n lo k : Nat} {ro : Bool} {T : Nat → Int} (h : lookB bs tb = some (.cells ro (intsL T n))) (hk : lo + k ≤ n) : srcCells bs (.slice (some ⟨tb, lo, none⟩) k 1) 1 = some (intsV (partL T lo k)) := by
  have tk := ints_part T n lo k hk
  rw [intsV_partL]
  simp [srcCells, h, tk]
/-- A part of a list behind an empty list. -/
theorem apA {nx tb n lo k : Nat} {B : List (Nat × ABlk)} {ro : Bool} {T : Nat → Int} (h : lookB B tb = some (.cells ro (intsL T n))) (hk1 : 1 ≤ k) (hk2 : k ≤ 200) (hk : lo + k ≤ n) :
    aAppend (tabT Try.prog) ⟨nx, B⟩ 22 (.slice none 0 0) (.slice (some ⟨tb, lo, none⟩) k 1) = some (.slice (some ⟨nx, 0, none⟩) k 1, ⟨nx + 1, (nx, .cells false (intsV (partL T lo k))) :: B⟩) := by
  have src := src_part h hk
  have cl := intsV_cell (partL T lo k)
  obtain ⟨k, rfl⟩ : ∃ m, k = m + 1 := ⟨k - 1, by omega⟩
  have c1 : (k + 1) * 8 ≤ 1000000000000 := by omega
  have c2 : k + 1 ≤ 1000000000000 := by omega
  have c3 : k ≤ 999999999999 := by omega
  rw [AP22]
  generalize intsV (partL T lo (k + 1)) = X at *
  simp [sliceLen, src, dstCells, cl, c1, c2, c3, Nat.ble_eq]
/-- A part of a list behind a list in a block of its own. -/
theorem apB {nx tb n lo k b : Nat} {B : List (Nat × ABlk)} {ro : Bool} {T : Nat → Int} {l : List Int} (h : lookB B tb = some (.cells ro (intsL T n))) (hb : lookB B b = some (.cells false (intsV l))) (hl : l.length ≤ 200) (hk1 : 1 ≤ k) (hk2 : k ≤ 200) (hk : lo + k ≤ n) :
    aAppend (tabT Try.prog) ⟨nx, B⟩ 22 (.slice (some ⟨b, 0, none⟩) l.length 1) (.slice (some ⟨tb, lo, none⟩) k 1) = some (.slice (some ⟨nx, 0, none⟩) (l.length + k) 1, ⟨nx + 1, (nx, .cells false (intsV (l ++ partL T lo k))) :: dropB B b⟩) := by
  have src := src_part h hk
  have cl := intsV_cell (partL T lo k)
  obtain ⟨k, rfl⟩ : ∃ m, k = m + 1 := ⟨k - 1, by omega⟩
  have ht := tk_all (intsV l) l.length (intsV_len _)
  have c1 : (l.length + (k + 1)) * 8 ≤ 1000000000000 := by omega
  have c2 : l.length + (k + 1) ≤ 1000000000000 := by omega
  rw [AP22, intsV_app]
  generalize intsV (partL T lo (k + 1)) = X at *
  generalize intsV l = Y at *
  generalize l.length = m at *
  simp [sliceLen, src, dstCells, hb, ht, cl, c1, c2, Nat.ble_eq]
theorem apB_ro {nx tb n lo k b m : Nat} {B : List (Nat × ABlk)} {cs : List Value} {T : Nat → Int} (h : lookB B tb = some (.cells true (intsL T n))) (hb : lookB B b = some (.cells true cs)) (hk1 : 1 ≤ k) (hk : lo + k ≤ n) :
    aAppend (tabT Try.prog) ⟨nx, B⟩ 22 (.slice (some ⟨b, 0, none⟩) m 1) (.slice (some ⟨tb, lo, none⟩) k 1) = none := by
  have src := src_part h hk
  obtain ⟨k, rfl⟩ : ∃ m, k = m + 1 := ⟨k - 1, by omega⟩
  rw [AP22]
  generalize intsV (partL T lo (k + 1)) = X at *
  simp [sliceLen, src, dstCells, hb]
def updN (f : Nat → Nat) (i v : Nat) : Nat → Nat := fun k => if k = i then v else f k
def updL (f : Nat → List Int) (i : Nat) (v : List Int) : Nat → List Int := fun k => if k = i then v else f k
/-- The hands as values. -/
noncomputable def hvL (bf : Nat → Nat) (hs : Nat → List Int) (P : Nat) : List Value := (List.range P).map fun j => lstV (bf j) (hs j)
theorem hvL_len (bf : Nat → Nat) (hs : Nat → List Int) (P : Nat) : (hvL bf hs P).length = P := by simp [hvL]
theorem hvL_at (bf : Nat → Nat) (hs : Nat → List Int) {P j : Nat} (h : j < P) : (hvL bf hs P)[j]? = some (lstV (bf j) (hs j)) := by simp [hvL, h]
theorem hvL_set (bf : Nat → Nat) (hs : Nat → List Int) (P σ b : Nat) (l : List Int) : (hvL bf hs P).set σ (lstV b l) = hvL (updN bf σ b) (updL hs σ l) P := by
  apply List.ext_getElem?
  intro k
  rw [List.getElem?_set, hvL_len]
  by_cases hk : k < P
  · rw [hvL_at _ _ hk, hvL_at _ _ hk]
    by_cases e : σ = k
    · subst e; simp [updN, updL, hk]
    · have : ¬ k = σ := fun h => e h.symm
      simp [updN, updL, e, this]
  · rw [List.getElem?_eq_none (by rw [hvL_len]; omega), List.getElem?_eq_none (by rw [hvL_len]; omega)]
    split
    · rename_i e; subst e; rw [if_neg hk]
    · rfl
/-- The memory while hands are dealt. -/
structure DI (N tb hb n P : Nat) (bs : List (Nat × ABlk)) (cells : List Value) (T : Nat → Int) (H : AH) (bf : Nat → Nat) (hs : Nat → List Int) : Prop where
  mi : MI H
  nt : N < tb
  th : tb < hb
  hx : hb < H.next
  box : lookB H.bs N = some (.cells false cells)
  til : lookB H.bs tb = some (.cells false (intsL T n))
  han : lookB H.bs hb = some (.cells false (hvL bf hs P))
  old : ∀ j, j < N → lookB H.bs j = lookB bs j
  lst : ∀ j, j < P → hs j ≠ [] → hb < bf j ∧ bf j < H.next ∧ lookB H.bs (bf j) = some (.cells false (intsV (hs j)))
  dis : ∀ i j, i < P → j < P → i ≠ j → hs i ≠ [] → hs j ≠ [] → bf i ≠ bf j
theorem DI.step {N tb hb n P : Nat} {bs : List (Nat × ABlk)} {cells : List Value} {T : Nat → Int} {H : AH} {bf : Nat → Nat} {hs : Nat → List Int} (h : DI N tb hb n P bs cells T H bf hs) {σ : Nat} (hσ : σ < P) {l : List Int} {B' : List (Nat × ABlk)} (hsub : B'.Sublist H.bs) (hB : ∀ j, (hs σ ≠ [] → j ≠ bf σ) → lookB B' j = lookB H.bs j) :
    DI N tb hb n P bs cells T ⟨H.next + 1, (H.next, .cells false (intsV l)) :: setB B' hb (.cells false (hvL (updN bf σ H.next) (updL hs σ l) P))⟩ (updN bf σ H.next) (updL hs σ l) := by
  have nb : ∀ j, j ≤ hb → lookB B' j = lookB H.bs j := fun j hj => hB j fun hne e => by
    have := (h.lst σ hσ hne).1
    omega
  have lk : ∀ j, j ≠ H.next → j ≠ hb → lookB ((H.next, ABlk.cells false (intsV l)) :: setB B' hb (.cells false (hvL (updN bf σ H.next) (updL hs σ l) P))) j = lookB B' j := fun j h1 h2 => by
    simp only [lookB]
    rw [if_neg (by rw [Nat.beq_eq]; omega), lookB_setB, if_neg h2]
  have m1 : MI ⟨H.next, setB B' hb (.cells false (hvL (updN bf σ H.next) (updL hs σ l) P))⟩ := (MI.sub h.mi hsub (Nat.le_refl _)).set _ _
  have a1 := h.nt
  have a2 := h.th
  have a3 := h.hx
  refine ⟨m1.push _, h.nt, h.th, by show hb < H.next + 1; omega, ?_, ?_, ?_, fun j hj => ?_, fun j hj hne => ?_, fun i j hi hj hij h1 h2 => ?_⟩
  · show lookB _ N = _
    rw [lk N (by omega) (by omega), nb N (by omega)]; exact h.box
  · show lookB _ tb = _
    rw [lk tb (by omega) (by omega), nb tb (by omega)]; exact h.til
  · show lookB _ hb = _
    simp only [lookB]
    rw [if_neg (by rw [Nat.beq_eq]; omega), lookB_setB, if_pos rfl, nb hb (Nat.le_refl _), h.han]
    rfl
  · show lookB _ j = _
    rw [lk j (by omega) (by omega), nb j (by omega)]; exact h.old j hj
  · by_cases e : j = σ
    · subst e
      have e1 : updN bf j H.next j = H.next := by simp [updN]
      have e2 : updL hs j l j = l := by simp [updL]
      rw [e1, e2]
      refine ⟨h.hx, by show H.next < H.next + 1; omega, ?_⟩
      show lookB _ H.next = _
      simp only [lookB]
      rw [if_pos (Nat.beq_refl _)]
    · have e1 : updN bf σ H.next j = bf j := by simp [updN, e]
      have e2 : updL hs σ l j = hs j := by simp [updL, e]
      rw [e2] at hne
      rw [e1, e2]
      obtain ⟨b1, b2, b3⟩ := h.lst j hj hne
      refine ⟨b1, by show bf j < H.next + 1; omega, ?_⟩
      show lookB _ (bf j) = _
      rw [lk (bf j) (by omega) (by omega), hB (bf j) fun hne2 e3 => h.dis j σ hj hσ e hne hne2 e3]
      exact b3
  · by_cases e : i = σ
    · subst e
      have e1 : updN bf i H.next i = H.next := by simp [updN]
      have e3 : ¬ j = i := fun hh => hij hh.symm
      have e4 : updN bf i H.next j = bf j := by simp [updN, e3]
      have e5 : updL hs i l j = hs j := by simp [updL, e3]
      rw [e5] at h2
      rw [e1, e4]
      have := (h.lst j hj h2).2.1
      omega
    · have e1 : updN bf σ H.next i = bf i := by simp [updN, e]
      have e2 : updL hs σ l i = hs i := by simp [updL, e]
      rw [e2] at h1
      rw [e1]
      by_cases e3 : j = σ
      · subst e3
        have e4 : updN bf j H.next j = H.next := by simp [updN]
        rw [e4]
        have := (h.lst i hi h1).2.1
        omega
      · have e4 : updN bf σ H.next j = bf j := by simp [updN, e3]
        have e5 : updL hs σ l j = hs j := by simp [updL, e3]
        rw [e5] at h2
        rw [e4]
        exact h.dis i j hi hj hij h1 h2


end

section
set_option linter.unusedSimpArgs false
set_option linter.unusedVariables false

theorem IXh (i n k : Nat) (h : k < n) : aIndexAddr (tabT Try.prog) 43 (.slice (some ⟨i, 0, none⟩) n 1) (.int .i64 (k : Int)) = some (.pointer (some ⟨i, k, none⟩)) := by
  rw [ixa (e := 22) (z := 1) (by kernel_rfl) (by kernel_rfl) i 0 n 1 k h]
  simp
theorem lstV_ne {l : List Int} (h : l ≠ []) {b : Nat} : lstV b l = .slice (some ⟨b, 0, none⟩) l.length 1 := by
  cases l with
  | nil => exact absurd rfl h
  | cons a t => rfl
theorem partL_ne {T : Nat → Int} {off k : Nat} (h : 1 ≤ k) : partL T off k ≠ [] := fun e => by
  have := partL_len T off k
  rw [e] at this
  simp only [List.length_nil] at this
  omega
noncomputable def lcD : Code := ((Try.f33.body.map loopsA).getD []).getD 0 .skip
noncomputable def lcDi : Code := (loopsA lcD).getD 0 .skip
/-- What the seats take, one after another. -/
def rndH (T : Nat → Int) (d P k : Nat) : Nat → Nat → Nat → (Nat → List Int) → (Nat → List Int)
  | 0, _, _, hs => hs
  | m + 1, i, tk, hs => rndH T d P k m (i + 1) (tk + k) (updL hs ((d + i) % P) (hs ((d + i) % P) ++ partL T tk k))
def TDd (N tb hb n P d : Nat) (has k : Int) (A : AF) : Prop := A.tm.n = 94 ∧ A.marks = [] ∧ A.tm.get 3 = .int .i64 (d : Int) ∧ A.tm.get 4 = .pointer (some ⟨N, 0, none⟩) ∧ A.tm.get 8 = .slice (some ⟨hb, 0, none⟩) P 1 ∧ A.tm.get 12 = .slice (some ⟨tb, 0, none⟩) n 1 ∧ A.tm.get 14 = .int .i64 has ∧ A.tm.get 15 = .int .i64 k
def IDi (N tb hb n P d k : Nat) (has : Int) (bs : List (Nat × ABlk)) (cells : List Value) (T : Nat → Int) (R : Nat → List Int) (tkE : Nat) (m : Nat) (A : AF) (H : AH) : Prop := ∃ (i tk : Nat) (bf : Nat → Nat) (hs : Nat → List Int), i + m = P ∧ tk + m * k = tkE ∧ rndH T d P k m i tk hs = R ∧ DI N tb hb n P bs cells T H bf hs ∧ (∀ j, (hs j).length ≤ tk) ∧ TDd N tb hb n P d has k A ∧ A.tm.get 48 = .int .i64 (P : Int) ∧ A.tm.get 49 = .int .i64 (i : Int) ∧ A.tm.get 13 = .int .i64 (tk : Int)
def QDi (N tb hb n P d k : Nat) (has : Int) (bs : List (Nat × ABlk)) (cells : List Value) (T : Nat → Int) (R : Nat → List Int) (tkE : Nat) (y : AX) (A : AF) (H : AH) : Prop := y = .exit 2 ∧ ∃ bf, DI N tb hb n P bs cells T H bf R ∧ (∀ j, (R j).length ≤ tkE) ∧ TDd N tb hb n P d has k A ∧ A.tm.get 13 = .int .i64 (tkE : Int)
set_option maxRecDepth 10000 in
set_option maxHeartbeats 8000000 in
theorem deal_in {L : Nat} (call : Value → List Value → AH → Option (Value × AH)) (N tb hb n P d k tk0 tkE : Nat) (has : Int) (bs : List (Nat × ABlk)) (s : SV) (u1 u8 : Value) (T : Nat → Int) (hs0 : Nat → List Int) (bf0 : Nat → Nat) (hP : 3 ≤ P ∧ P ≤ 4) (hsp : s.p = P) (hk : 1 ≤ k ∧ k ≤ 4) (hd : d < P) (hE : tkE = tk0 + P * k) (hEn : tkE ≤ n) (hn : n ≤ 144)
    (H : AH) (h : DI N tb hb n P bs [.int .i64 s.p, u1, .int .i64 s.w, .int .i64 s.d, .int .i64 s.f, .int .i64 s.c, .int .i64 s.m, .int .i64 s.de, u8] T H bf0 hs0) (hlen0 : ∀ j, (hs0 j).length ≤ tk0) (A : AF) (hT : TDd N tb hb n P d has k A) (h48 : A.tm.get 48 = .int .i64 (P : Int)) (h49 : A.tm.get 49 = .int .i64 0) (h13 : A.tm.get 13 = .int .i64 (tk0 : Int)) :
    ∃ y A' H', evLoop (runC (tabT Try.prog) call (L + 300) 33 none lcDi) (L + 300) A H = some (y, A', H') ∧ QDi N tb hb n P d k has bs [.int .i64 s.p, u1, .int .i64 s.w, .int .i64 s.d, .int .i64 s.f, .int .i64 s.c, .int .i64 s.m, .int .i64 s.de, u8] T (rndH T d P k P 0 tk0 hs0) tkE y A' H' := by
  generalize hR : rndH T d P k P 0 tk0 hs0 = R
  generalize hr : evLoop _ _ _ _ = r'
  refine loop_go (Q := QDi N tb hb n P d k has bs [.int .i64 s.p, u1, .int .i64 s.w, .int .i64 s.d, .int .i64 s.f, .int .i64 s.c, .int .i64 s.m, .int .i64 s.de, u8] T R tkE) hr (IDi N tb hb n P d k has bs [.int .i64 s.p, u1, .int .i64 s.w, .int .i64 s.d, .int .i64 s.f, .int .i64 s.c, .int .i64 s.m, .int .i64 s.de, u8] T R tkE) P (by omega) ⟨0, tk0, bf0, hs0, by omega, by omega, hR, h, hlen0, hT, h48, h49, h13⟩ ?_
  clear hr hT h48 h49 h13 h hR hlen0 hE
  rintro m A ⟨nx, b1⟩ ⟨i, tk, bf, hs, him, htk, hres, hI, hlen1, ⟨hl, hmk, t3, t4, t8, t12, t14, t15⟩, t48, t49, t13⟩
  simp only [lcDi, lcD, Try.f33, Option.map_some, loopsA, List.nil_append, List.append_nil, List.cons_append, Option.getD_some, List.getD_cons_zero, runC]
  cases m with
  | zero =>
    have hi : ¬ i < P := by omega
    have e : tk = tkE := by omega
    subst e
    simp only [rndH] at hres
    subst hres
    simp [ec_skip, ec_label, ek_reg, ek_draw, ek_seq, ec_cond, ek_block, ec_loop, ec_exit, ec_ret, ec_scope, ek_nil, ek_op, opK_some, regK_some, seqK_normal, seqK_exit, seqK_ret, blockK_normal, blockK_exit, blockK_ret, evOp, vOp, hOpB, hOpU, hOp, hOpT, aAppendG_tab, aWanted, aYielded, opd, putT, closedV, aBin, intOp, sameK, mapO, joinR, hasAddr, boundOf, pushB, aAlloc, Value.cells, lookB, setB, Nat.beq_eq, tm_n_set, tm_get_set, tm_of_n, tm_of_get, tm_tr_set, tm_tr_of, cellV, putF, appR_eq, takeR_eq, dropR_eq, setR_eq, getR_eq, ↓C75, ↓C76, ↓C77, ↓C79, ↓C17, ↓C18, ↓C22, ↓C71, FA24_0, FA24_1, FA24_2, FA24_3, FA24_4, FA24_5, FA24_6, FA24_7, FA24_8, LD3, LD4, LD22, LD27, LDr, LD24, LEN22, IA22, tkc, cellAt, hl, hmk, t3, t4, t8, t12, t14, t15, t13, t48, t49, hi]
    exact .inr ⟨by simp, rfl, bf, hI, hlen1, ⟨by simp [tm_n_set, hl], by first | rfl | simp [hmk], by simp [tm_get_set, tm_n_set, hl, t3], by simp [tm_get_set, tm_n_set, hl, t4], by simp [tm_get_set, tm_n_set, hl, t8], by simp [tm_get_set, tm_n_set, hl, t12], by simp [tm_get_set, tm_n_set, hl, t14], by simp [tm_get_set, tm_n_set, hl, t15]⟩, by simp [tm_get_set, tm_n_set, hl, t13]⟩
  | succ m =>
    have hi : i < P := by omega
    have hmk2 : (m + 1) * k = m * k + k := Nat.succ_mul m k
    have htn : tk + k ≤ n := by
      have : 0 ≤ m * k := Nat.zero_le _
      omega
    obtain ⟨σ, hσe⟩ : ∃ σ, σ = (d + i) % P := ⟨_, rfl⟩
    have hσ : σ < P := by rw [hσe]; exact Nat.mod_lt _ (by omega)
    simp only [rndH, ← hσe] at hres
    have w1 : wrapI .i64 ((d : Int) + (i : Int)) = (d : Int) + (i : Int) := wrapI_small (by omega) (by omega)
    have w2 : wrapI .i64 ((i : Int) + 1) = ((i + 1 : Nat) : Int) := by rw [wrapI_small (by omega) (by omega)]; rfl
    have w3 : wrapI .i64 ((tk : Int) + (k : Int)) = (tk : Int) + (k : Int) := wrapI_small (by omega) (by omega)
    have p0n : ¬ P = 0 := by omega
    have p0 : ¬ (P : Int) = 0 := by omega
    have p0' : ((P : Int) == 0) = false := beq_eq_false_iff_ne.2 p0
    have rm : ((d : Int) + (i : Int)).tmod (P : Int) = (σ : Int) := by rw [hσe, ← Int.natCast_add]; exact (Int.ofNat_tmod (d + i) P).symm
    have rmw : wrapI .i64 (σ : Int) = (σ : Int) := wrapI_small (by omega) (by omega)
    have hD : decrK b1 = true := hI.mi.1
    have nw := newOnes_ro b1 nx hI.mi.2
    have lbx := hI.box
    have lan := hI.han
    have lanR := lookB_roB_cells b1 hb _ _ hI.han hD
    have til := hI.til
    have tilR := lookB_roB_cells b1 tb _ _ hI.til hD
    have hixh := IXh hb P σ hσ
    have hat := hvL_at bf hs hσ
    have hlen := hvL_len bf hs P
    have hget : ∀ h2 : σ < (hvL bf hs P).length, (hvL bf hs P)[σ] = lstV (bf σ) (hs σ) := fun h2 => by
      rw [List.getElem?_eq_getElem h2] at hat
      exact Option.some.inj hat
    have slc1 := SLc tb n tk k hk.1 htn
    rw [Int.natCast_add] at slc1
    have nle : ¬ nx + 1 ≤ nx := by omega
    have own : ∀ cs : List Value, (ABlk.cells false cs).own = true := fun _ => rfl
    have a1 := hI.nt
    have a2 := hI.th
    have a3 : hb < nx := hI.hx
    have nhb : ¬ hb = nx := by omega
    have nhb2 : ¬ nx = hb := by omega
    have hσ1 : σ + 1 ≤ P := hσ
    simp only at lbx lan til
    rw [hsp] at lbx
    simp [ec_skip, ec_label, ek_reg, ek_draw, ek_seq, ec_cond, ek_block, ec_loop, ec_exit, ec_ret, ec_scope, ek_nil, ek_op, opK_some, regK_some, seqK_normal, seqK_exit, seqK_ret, blockK_normal, blockK_exit, blockK_ret, evOp, vOp, hOpB, hOpU, hOp, hOpT, aAppendG_tab, aWanted, aYielded, opd, putT, closedV, aBin, intOp, sameK, mapO, joinR, hasAddr, boundOf, pushB, aAlloc, Value.cells, lookB, setB, Nat.beq_eq, tm_n_set, tm_get_set, tm_of_n, tm_of_get, tm_tr_set, tm_tr_of, cellV, putF, appR_eq, takeR_eq, dropR_eq, setR_eq, getR_eq, ↓C75, ↓C76, ↓C77, ↓C79, ↓C17, ↓C18, ↓C22, ↓C71, FA24_0, FA24_1, FA24_2, FA24_3, FA24_4, FA24_5, FA24_6, FA24_7, FA24_8, LD3, LD4, LD22, LD27, LDr, LD24, LEN22, IA22, tkc, cellAt, hl, hmk, t3, t4, t8, t12, t14, t15, t13, t48, t49, hi, w1, lbx, p0n, rm, rmw]
    generalize hX : evDrawX _ _ _ _ _ = X
    by_cases hne : hs σ = []
    · rw [hne] at hat hget
      simp only [lstV] at hat hget
      have hap := apA (nx := nx) til hk.1 (by omega) htn
      have hapR := apA (nx := nx) tilR hk.1 (by omega) htn
      obtain ⟨tm, rfl, hl2, v3, v4, v8, v12, v14, v15, v48, v49, v13⟩ := draw_any (H' := ⟨nx + 1, (nx, .cells false (intsV (partL T tk k))) :: setB b1 hb (.cells false ((hvL bf hs P).set σ (.slice (some ⟨nx, 0, none⟩) k 1)))⟩) (Pt := fun tm => tm.get 3 = .int .i64 (d : Int) ∧ tm.get 4 = .pointer (some ⟨N, 0, none⟩) ∧ tm.get 8 = .slice (some ⟨hb, 0, none⟩) P 1 ∧ tm.get 12 = .slice (some ⟨tb, 0, none⟩) n 1 ∧ tm.get 14 = .int .i64 has ∧ tm.get 15 = .int .i64 (k : Int) ∧ tm.get 48 = .int .i64 (P : Int) ∧ tm.get 49 = .int .i64 (i : Int) ∧ tm.get 13 = .int .i64 (tk : Int)) hX (by kernel_rfl) hD (by
        clear hX
        generalize hMM : befs _ = MM
        have o1 : ordB MM 12 14 = true := by rw [← hMM]; kernel_rfl
        have o2 : ordB MM 14 12 = true := by rw [← hMM]; kernel_rfl
        have o3 : ordB MM 14 5 = true := by rw [← hMM]; kernel_rfl
        have o4 : ordB MM 5 14 = true := by rw [← hMM]; kernel_rfl
        have o5 : ordB MM 12 5 = true := by rw [← hMM]; kernel_rfl
        have o6 : ordB MM 5 12 = true := by rw [← hMM]; kernel_rfl
        clear hMM
        simp [mapO, drRun, drOp, dr3, looks, guardT, tmpsOf, Op.operands, Call.operands, wantedR, gOf, finT, natMem, isNil, writesF, evOp, vOp, hOpB, hOpU, hOp, hOpT, aAppendG_tab, opd, closedV, aBin, intOp, sameK, opdO, boundOf, undef, lookB, Nat.beq_eq, tm_n_set, tm_get_set, tm_of_n, tm_of_get, tm_tr_set, tm_tr_of, b02, b12, b32, ↓G75, W75, ↓G76, W76, ↓G77, W77, ↓G79, W79, ↓G17, W17, ↓G18, W18, ↓G22, W22, ↓G71, W71, tv, all1, roB, roK, news, newOnes, decr, tkc, cellAt, LD3, LD4, LD22, LD27, LDr, LD24, LEN22, IA22, FA24_0, FA24_1, FA24_2, FA24_3, FA24_4, FA24_5, FA24_6, FA24_7, FA24_8, hasR, hasR_ro, partsO, APT22, pushB, ST22, hl, t3, t4, t8, t12, t14, t15, t13, t48, t49, hixh, lan, lanR, hat, hget, hlen, hσ, slc1, w3, nw, nle, own, nhb, nhb2, hσ1, hap, hapR, wheap, Nat.ble_eq, Nat.blt_eq, putF, setR_eq, Value.cells, cellV]
        refine ⟨_, _, ⟨rfl, rfl⟩, ?_, ?_, ?_⟩
        · simp [dynOK, rdSame, evOp, vOp, hOpB, hOpU, hOp, hOpT, mapO, opd, gOf, natMem, finT, tm_get_set, tm_n_set, LD22, cellAt, roB, roK, lookB, lan, lanR, hat, hget, hlen, hD, eqR, o1, o2, o3, o4, o5, o6, b02, b12, b32, b03, b13, b23, nhb, nhb2, hD, Nat.blt_eq, Nat.ble_eq, Nat.beq_eq, hl, hasR, hasR_ro]
        · simp [wheap, news, b02, b12, b32, Nat.beq_eq, all1, setB, setR_eq, nhb, nhb2]
        · simp [finT, tm_get_set, tm_n_set, hl, t3, t4, t8, t12, t14, t15, t13, t48, t49])
      clear hX
      simp [tm_n_set, hl] at hl2
      have hst := hI.step hσ (l := hs σ ++ partL T tk k) (B' := b1) (List.Sublist.refl _) (fun j _ => rfl)
      have hpl : hs σ ++ partL T tk k = partL T tk k := by rw [hne]; rfl
      have hlv : (.slice (some ⟨nx, 0, none⟩) k 1 : Value) = lstV nx (hs σ ++ partL T tk k) := by
        rw [hpl, lstV_ne (partL_ne hk.1), partL_len]
      simp only [← hvL_set, ← hlv] at hst
      have e9 : intsV (hs σ ++ partL T tk k) = intsV (partL T tk k) := by rw [hpl]
      rw [e9] at hst
      simp [ec_skip, ec_label, ek_reg, ek_draw, ek_seq, ec_cond, ek_block, ec_loop, ec_exit, ec_ret, ec_scope, ek_nil, ek_op, opK_some, regK_some, seqK_normal, seqK_exit, seqK_ret, blockK_normal, blockK_exit, blockK_ret, evOp, vOp, hOpB, hOpU, hOp, hOpT, aAppendG_tab, aWanted, aYielded, opd, putT, closedV, aBin, intOp, sameK, mapO, joinR, hasAddr, boundOf, pushB, aAlloc, Value.cells, lookB, setB, Nat.beq_eq, tm_n_set, tm_get_set, tm_of_n, tm_of_get, tm_tr_set, tm_tr_of, cellV, putF, appR_eq, takeR_eq, dropR_eq, setR_eq, getR_eq, ↓C75, ↓C76, ↓C77, ↓C79, ↓C17, ↓C18, ↓C22, ↓C71, FA24_0, FA24_1, FA24_2, FA24_3, FA24_4, FA24_5, FA24_6, FA24_7, FA24_8, LD3, LD4, LD22, LD27, LDr, LD24, LEN22, IA22, tkc, cellAt, hl2, v3, v4, v8, v12, v14, v15, v48, v49, v13]
      refine ⟨_, _, _, ⟨rfl, rfl, rfl⟩, .inl ⟨rfl, m, rfl, i + 1, tk + k, _, _, by omega, by omega, hres, hst, fun j => ?_, ⟨by simp [tm_n_set, hl2], rfl, by simp [tm_get_set, tm_n_set, hl2, v3], by simp [tm_get_set, tm_n_set, hl2, v4], by simp [tm_get_set, tm_n_set, hl2, v8], by simp [tm_get_set, tm_n_set, hl2, v12], by simp [tm_get_set, tm_n_set, hl2, v14], by simp [tm_get_set, tm_n_set, hl2, v15]⟩, by simp [tm_get_set, tm_n_set, hl2, v48], by simp [tm_get_set, tm_n_set, hl2, w2], by simp [tm_get_set, tm_n_set, hl2, w3]⟩⟩
      unfold updL
      split
      · rw [List.length_append, partL_len]
        have := hlen1 σ
        omega
      · have := hlen1 j
        omega
    · obtain ⟨q1, q2, q3⟩ := hI.lst σ hσ hne
      simp only at q2 q3
      have q4 := lookB_roB_cells b1 (bf σ) _ _ q3 hD
      have hl1 := hlen1 σ
      have hlv0 : lstV (bf σ) (hs σ) = .slice (some ⟨bf σ, 0, none⟩) (hs σ).length 1 := lstV_ne hne
      rw [hlv0] at hat hget
      have hap := apB (nx := nx) til q3 (by omega) hk.1 (by omega) htn
      have hapR := apB_ro (nx := nx) (m := (hs σ).length) tilR q4 hk.1 htn
      have hne1 : ¬ bf σ = nx := by omega
      have hne2 : ¬ nx = bf σ := by omega
      have hne3 : ¬ hb = bf σ := by omega
      have hD2 : decrK (dropB b1 (bf σ)) = true := (MI.sub hI.mi (dropB_sub b1 (bf σ)) (Nat.le_refl _)).1
      have lanB : lookB (dropB b1 (bf σ)) hb = some (.cells false (hvL bf hs P)) := by rw [lookB_dropB, if_neg hne3]; exact lan
      obtain ⟨tm, rfl, hl2, v3, v4, v8, v12, v14, v15, v48, v49, v13⟩ := draw_any (H' := ⟨nx + 1, (nx, .cells false (intsV (hs σ ++ partL T tk k))) :: setB (dropB b1 (bf σ)) hb (.cells false ((hvL bf hs P).set σ (.slice (some ⟨nx, 0, none⟩) ((hs σ).length + k) 1)))⟩) (Pt := fun tm => tm.get 3 = .int .i64 (d : Int) ∧ tm.get 4 = .pointer (some ⟨N, 0, none⟩) ∧ tm.get 8 = .slice (some ⟨hb, 0, none⟩) P 1 ∧ tm.get 12 = .slice (some ⟨tb, 0, none⟩) n 1 ∧ tm.get 14 = .int .i64 has ∧ tm.get 15 = .int .i64 (k : Int) ∧ tm.get 48 = .int .i64 (P : Int) ∧ tm.get 49 = .int .i64 (i : Int) ∧ tm.get 13 = .int .i64 (tk : Int)) hX (by kernel_rfl) hD (by
        clear hX
        generalize hMM : befs _ = MM
        have o1 : ordB MM 12 14 = true := by rw [← hMM]; kernel_rfl
        have o2 : ordB MM 14 12 = true := by rw [← hMM]; kernel_rfl
        have o3 : ordB MM 14 5 = true := by rw [← hMM]; kernel_rfl
        have o4 : ordB MM 5 14 = true := by rw [← hMM]; kernel_rfl
        have o5 : ordB MM 12 5 = true := by rw [← hMM]; kernel_rfl
        have o6 : ordB MM 5 12 = true := by rw [← hMM]; kernel_rfl
        clear hMM
        simp [mapO, drRun, drOp, dr3, looks, guardT, tmpsOf, Op.operands, Call.operands, wantedR, gOf, finT, natMem, isNil, writesF, evOp, vOp, hOpB, hOpU, hOp, hOpT, aAppendG_tab, opd, closedV, aBin, intOp, sameK, opdO, boundOf, undef, lookB, Nat.beq_eq, tm_n_set, tm_get_set, tm_of_n, tm_of_get, tm_tr_set, tm_tr_of, b02, b12, b32, ↓G75, W75, ↓G76, W76, ↓G77, W77, ↓G79, W79, ↓G17, W17, ↓G18, W18, ↓G22, W22, ↓G71, W71, tv, all1, roB, roK, news, newOnes, decr, tkc, cellAt, LD3, LD4, LD22, LD27, LDr, LD24, LEN22, IA22, FA24_0, FA24_1, FA24_2, FA24_3, FA24_4, FA24_5, FA24_6, FA24_7, FA24_8, hasR, hasR_ro, partsO, APT22, pushB, ST22, hl, t3, t4, t8, t12, t14, t15, t13, t48, t49, hixh, lan, lanR, hat, hget, hlen, hσ, slc1, w3, nw, nle, own, nhb, nhb2, hσ1, hap, hapR, hne1, hne2, hne3, lanB, q3, q4, wheap, Nat.ble_eq, Nat.blt_eq, putF, setR_eq, Value.cells, cellV]
        refine ⟨_, _, ⟨rfl, rfl⟩, ?_, ?_, ?_⟩
        · simp [dynOK, rdSame, evOp, vOp, hOpB, hOpU, hOp, hOpT, mapO, opd, gOf, natMem, finT, tm_get_set, tm_n_set, LD22, cellAt, roB, roK, lookB, lan, lanR, hat, hget, hlen, hD, eqR, o1, o2, o3, o4, o5, o6, b02, b12, b32, b03, b13, b23, nhb, nhb2, hD2, lanB, Nat.blt_eq, Nat.ble_eq, Nat.beq_eq, hl, hasR, hasR_ro]
        · simp [wheap, news, b02, b12, b32, Nat.beq_eq, all1, setB, setR_eq, nhb, nhb2]
        · simp [finT, tm_get_set, tm_n_set, hl, t3, t4, t8, t12, t14, t15, t13, t48, t49])
      clear hX
      simp [tm_n_set, hl] at hl2
      have hst := hI.step hσ (l := hs σ ++ partL T tk k) (B' := dropB b1 (bf σ)) (dropB_sub _ _) (fun j hj => by rw [lookB_dropB, if_neg (hj hne)])
      have hlv : (.slice (some ⟨nx, 0, none⟩) ((hs σ).length + k) 1 : Value) = lstV nx (hs σ ++ partL T tk k) := by
        rw [lstV_ne (fun e => hne (List.append_eq_nil_iff.1 e).1), List.length_append, partL_len]
      simp only [← hvL_set, ← hlv] at hst
      simp [ec_skip, ec_label, ek_reg, ek_draw, ek_seq, ec_cond, ek_block, ec_loop, ec_exit, ec_ret, ec_scope, ek_nil, ek_op, opK_some, regK_some, seqK_normal, seqK_exit, seqK_ret, blockK_normal, blockK_exit, blockK_ret, evOp, vOp, hOpB, hOpU, hOp, hOpT, aAppendG_tab, aWanted, aYielded, opd, putT, closedV, aBin, intOp, sameK, mapO, joinR, hasAddr, boundOf, pushB, aAlloc, Value.cells, lookB, setB, Nat.beq_eq, tm_n_set, tm_get_set, tm_of_n, tm_of_get, tm_tr_set, tm_tr_of, cellV, putF, appR_eq, takeR_eq, dropR_eq, setR_eq, getR_eq, ↓C75, ↓C76, ↓C77, ↓C79, ↓C17, ↓C18, ↓C22, ↓C71, FA24_0, FA24_1, FA24_2, FA24_3, FA24_4, FA24_5, FA24_6, FA24_7, FA24_8, LD3, LD4, LD22, LD27, LDr, LD24, LEN22, IA22, tkc, cellAt, hl2, v3, v4, v8, v12, v14, v15, v48, v49, v13]
      refine ⟨_, _, _, ⟨rfl, rfl, rfl⟩, .inl ⟨rfl, m, rfl, i + 1, tk + k, _, _, by omega, by omega, hres, hst, fun j => ?_, ⟨by simp [tm_n_set, hl2], rfl, by simp [tm_get_set, tm_n_set, hl2, v3], by simp [tm_get_set, tm_n_set, hl2, v4], by simp [tm_get_set, tm_n_set, hl2, v8], by simp [tm_get_set, tm_n_set, hl2, v12], by simp [tm_get_set, tm_n_set, hl2, v14], by simp [tm_get_set, tm_n_set, hl2, v15]⟩, by simp [tm_get_set, tm_n_set, hl2, v48], by simp [tm_get_set, tm_n_set, hl2, w2], by simp [tm_get_set, tm_n_set, hl2, w3]⟩⟩
      unfold updL
      split
      · rw [List.length_append, partL_len]
        have := hlen1 σ
        omega
      · have := hlen1 j
        omega


end

section
set_option linter.unusedSimpArgs false
set_option linter.unusedVariables false

theorem NfullA : ((tabT Try.prog) 24).map (fun z => (z.ex.nat 74, z.ex.mnz 74)) = some (none, none) := by kernel_rfl
theorem CfullA (call : Value → List Value → AH → Option (Value × AH)) {tm : Tm} {i : Nat} {H : AH} {d : Option Tmp} {t : TypeId} {p : String} {a : Array Edge} {gd : Option (Nat × Bool)} : evOp (tabT Try.prog) call ⟨d, .call ⟨.value (.func 74), #[.tmp i], #[24]⟩, t, p, a, gd⟩ (opd tm) H = call (.func (.func 74) #[] #[]) [tm.get i] H :=
  evOp_evO.trans (eo_call1 rfl rfl NfullA)
def stp (F has : Nat) : Nat := if 4 ≤ F - has then 4 else 1
theorem stp_pos (F has : Nat) : 1 ≤ stp F has ∧ stp F has ≤ 4 := by unfold stp; split <;> omega
theorem stp_le {F has : Nat} (h : has < F) : has + stp F has ≤ F := by unfold stp; split <;> omega
/-- All rounds. -/
def dealH (T : Nat → Int) (d P F : Nat) (has : Nat) (hs : Nat → List Int) : Nat → List Int :=
  if h : has < F then dealH T d P F (has + stp F has) (rndH T d P (stp F has) P 0 (P * has) hs) else hs
termination_by F - has
decreasing_by have := stp_pos F has; omega
def TOd (N tb hb n P d : Nat) (A : AF) : Prop := A.tm.n = 94 ∧ A.marks = [] ∧ A.tm.get 3 = .int .i64 (d : Int) ∧ A.tm.get 4 = .pointer (some ⟨N, 0, none⟩) ∧ A.tm.get 8 = .slice (some ⟨hb, 0, none⟩) P 1 ∧ A.tm.get 12 = .slice (some ⟨tb, 0, none⟩) n 1
def IDo (N tb hb n P d F : Nat) (bs : List (Nat × ABlk)) (cells : List Value) (T : Nat → Int) (R : Nat → List Int) (m : Nat) (A : AF) (H : AH) : Prop := ∃ (has : Nat) (bf : Nat → Nat) (hs : Nat → List Int), has ≤ F ∧ F - has ≤ m ∧ dealH T d P F has hs = R ∧ DI N tb hb n P bs cells T H bf hs ∧ (∀ j, (hs j).length ≤ P * has) ∧ TOd N tb hb n P d A ∧ A.tm.get 14 = .int .i64 (has : Int) ∧ A.tm.get 13 = .int .i64 ((P * has : Nat) : Int)
def QDo (N tb hb n P d F : Nat) (bs : List (Nat × ABlk)) (cells : List Value) (T : Nat → Int) (R : Nat → List Int) (y : AX) (A : AF) (H : AH) : Prop := y = .exit 0 ∧ ∃ bf, DI N tb hb n P bs cells T H bf R ∧ (∀ j, (R j).length ≤ P * F) ∧ TOd N tb hb n P d A ∧ A.tm.get 13 = .int .i64 ((P * F : Nat) : Int)
set_option maxRecDepth 10000 in
set_option maxHeartbeats 8000000 in
theorem deal_out {L : Nat} (call : Value → List Value → AH → Option (Value × AH)) (N tb hb n P d F : Nat) (bs : List (Nat × ABlk)) (s : SV) (u1 u8 : Value) (T : Nat → Int) (hs0 : Nat → List Int) (bf0 : Nat → Nat) (hP : 3 ≤ P ∧ P ≤ 4) (hsp : s.p = P) (hF : F ≤ 13) (hd : d < P) (hEn : P * F ≤ n) (hn : n ≤ 144)
    (hfull : ∀ H : AH, (∀ j, j < N → lookB H.bs j = lookB bs j) → call (.func (.func 74) #[] #[]) [.agg #[.int .i64 s.p, u1, .int .i64 s.w, .int .i64 s.d, .int .i64 s.f, .int .i64 s.c, .int .i64 s.m, .int .i64 s.de, u8]] H = some (.int .i64 (F : Int), H))
    (H : AH) (h : DI N tb hb n P bs [.int .i64 s.p, u1, .int .i64 s.w, .int .i64 s.d, .int .i64 s.f, .int .i64 s.c, .int .i64 s.m, .int .i64 s.de, u8] T H bf0 hs0) (hlen0 : ∀ j, hs0 j = []) (A : AF) (hT : TOd N tb hb n P d A) (h14 : A.tm.get 14 = .int .i64 0) (h13 : A.tm.get 13 = .int .i64 0) :
    ∃ y A' H', evLoop (runC (tabT Try.prog) call (L + 300) 33 none lcD) (L + 300) A H = some (y, A', H') ∧ QDo N tb hb n P d F bs [.int .i64 s.p, u1, .int .i64 s.w, .int .i64 s.d, .int .i64 s.f, .int .i64 s.c, .int .i64 s.m, .int .i64 s.de, u8] T (dealH T d P F 0 hs0) y A' H' := by
  generalize hR : dealH T d P F 0 hs0 = R
  generalize hr : evLoop _ _ _ _ = r'
  refine loop_go (Q := QDo N tb hb n P d F bs [.int .i64 s.p, u1, .int .i64 s.w, .int .i64 s.d, .int .i64 s.f, .int .i64 s.c, .int .i64 s.m, .int .i64 s.de, u8] T R) hr (IDo N tb hb n P d F bs [.int .i64 s.p, u1, .int .i64 s.w, .int .i64 s.d, .int .i64 s.f, .int .i64 s.c, .int .i64 s.m, .int .i64 s.de, u8] T R) F (by omega) ⟨0, bf0, hs0, by omega, by omega, hR, h, fun j => by rw [hlen0 j]; exact Nat.zero_le _, hT, h14, by rw [h13]; simp⟩ ?_
  clear hr hT h14 h13 h hR hlen0
  rintro m A H ⟨has, bf, hs, hF1, hm, hres, hI, hlen1, ⟨hl, hmk, t3, t4, t8, t12⟩, t14, t13⟩
  have lbx := hI.box
  have hfl := hfull H hI.old
  by_cases hlt : has < F
  · rw [dealH, dif_pos hlt] at hres
    obtain ⟨m, rfl⟩ : ∃ k, m = k + 1 := ⟨m - 1, by omega⟩
    have hs1 := stp_pos F has
    have hs2 := stp_le hlt
    have w4 : wrapI .i64 ((F : Int) - (has : Int)) = (F : Int) - (has : Int) := wrapI_small (by omega) (by omega)
    have hPk : P * (has + stp F has) = P * has + P * stp F has := Nat.mul_add P has _
    have hle : P * (has + stp F has) ≤ P * F := Nat.mul_le_mul_left _ hs2
    have RLI : ∀ (A1 : AF) (r' : Option (AX × AF × AH)), evLoop (runC (tabT Try.prog) call (L + 300) 33 none lcDi) (L + 300) A1 H = r' → TDd N tb hb n P d (has : Int) ((stp F has : Nat) : Int) A1 → A1.tm.get 48 = .int .i64 (P : Int) → A1.tm.get 49 = .int .i64 0 → A1.tm.get 13 = .int .i64 ((P * has : Nat) : Int) → ∃ y A' H', r' = some (y, A', H') ∧ QDi N tb hb n P d (stp F has) (has : Int) bs [.int .i64 s.p, u1, .int .i64 s.w, .int .i64 s.d, .int .i64 s.f, .int .i64 s.c, .int .i64 s.m, .int .i64 s.de, u8] T (rndH T d P (stp F has) P 0 (P * has) hs) (P * (has + stp F has)) y A' H' := fun A1 r' e a b c g => by
      rw [← e]
      exact deal_in call N tb hb n P d (stp F has) (P * has) (P * (has + stp F has)) has bs s u1 u8 T hs bf hP hsp hs1 hd hPk (by omega) hn H hI hlen1 A1 a b c g
    simp only [lcDi, lcD, Try.f33, Option.map_some, loopsA, List.nil_append, List.append_nil, List.cons_append, Option.getD_some, List.getD_cons_zero] at RLI
    have hw14 : wrapI .i64 ((has : Int) + ((stp F has : Nat) : Int)) = ((has + stp F has : Nat) : Int) := by rw [wrapI_small (by omega) (by omega)]; rfl
    generalize hst : stp F has = k at *
    simp only [lcD, Try.f33, Option.map_some, loopsA, List.nil_append, List.append_nil, List.cons_append, Option.getD_some, List.getD_cons_zero, runC]
    by_cases c4 : 4 ≤ F - has
    · have e : k = 4 := by rw [← hst]; unfold stp; rw [if_pos c4]
      have hc4 : (4 : Int) ≤ (F : Int) - (has : Int) := by omega
      subst e
      simp [ec_skip, ec_label, ek_reg, ek_draw, ek_seq, ec_cond, ek_block, ec_loop, ec_exit, ec_ret, ec_scope, ek_nil, ek_op, opK_some, regK_some, seqK_normal, seqK_exit, seqK_ret, blockK_normal, blockK_exit, blockK_ret, evOp, vOp, hOpB, hOpU, hOp, hOpT, aAppendG_tab, aWanted, aYielded, opd, putT, closedV, aBin, intOp, sameK, mapO, joinR, hasAddr, boundOf, pushB, aAlloc, Value.cells, lookB, setB, Nat.beq_eq, tm_n_set, tm_get_set, tm_of_n, tm_of_get, tm_tr_set, tm_tr_of, cellV, putF, appR_eq, takeR_eq, dropR_eq, setR_eq, getR_eq, ↓C75, ↓C76, ↓C77, ↓C79, ↓C17, ↓C18, ↓C22, ↓C71, FA24_0, FA24_1, FA24_2, FA24_3, FA24_4, FA24_5, FA24_6, FA24_7, FA24_8, LD3, LD4, LD22, LD27, LDr, LD24, LEN22, IA22, tkc, cellAt, hl, hmk, t3, t4, t8, t12, t14, t13, lbx, ↓CfullA, hfl, hlt, hc4, w4]
      generalize hr : evLoop _ _ _ _ = r'
      obtain ⟨y, A2, H2, rfl, rfl, bf2, hI2, hlen2, ⟨hl2, hmk2, v3, v4, v8, v12, v14, v15⟩, v13⟩ := RLI _ _ hr ⟨by simp [tm_n_set, hl], by simp [hmk], by simp [tm_get_set, tm_n_set, hl, t3], by simp [tm_get_set, tm_n_set, hl, t4], by simp [tm_get_set, tm_n_set, hl, t8], by simp [tm_get_set, tm_n_set, hl, t12], by simp [tm_get_set, tm_n_set, hl, t14], by simp [tm_get_set, tm_n_set, hl]⟩ (by simp [tm_get_set, tm_n_set, hl, hsp]) (by simp [tm_get_set, tm_n_set, hl]) (by simp [tm_get_set, tm_n_set, hl, t13])
      clear hr RLI
      simp [ec_skip, ec_label, ek_reg, ek_draw, ek_seq, ec_cond, ek_block, ec_loop, ec_exit, ec_ret, ec_scope, ek_nil, ek_op, opK_some, regK_some, seqK_normal, seqK_exit, seqK_ret, blockK_normal, blockK_exit, blockK_ret, evOp, vOp, hOpB, hOpU, hOp, hOpT, aAppendG_tab, aWanted, aYielded, opd, putT, closedV, aBin, intOp, sameK, mapO, joinR, hasAddr, boundOf, pushB, aAlloc, Value.cells, lookB, setB, Nat.beq_eq, tm_n_set, tm_get_set, tm_of_n, tm_of_get, tm_tr_set, tm_tr_of, cellV, putF, appR_eq, takeR_eq, dropR_eq, setR_eq, getR_eq, ↓C75, ↓C76, ↓C77, ↓C79, ↓C17, ↓C18, ↓C22, ↓C71, FA24_0, FA24_1, FA24_2, FA24_3, FA24_4, FA24_5, FA24_6, FA24_7, FA24_8, LD3, LD4, LD22, LD27, LDr, LD24, LEN22, IA22, tkc, cellAt, hl2, hmk2, v3, v4, v8, v12, v14, v15, v13]
      refine ⟨_, _, _, ⟨rfl, rfl, rfl⟩, .inl ⟨rfl, m, rfl, has + 4, bf2, _, by omega, by omega, hres, hI2, hlen2, ⟨by simp [tm_n_set, hl2], by simp [hmk2], by simp [tm_get_set, tm_n_set, hl2, v3], by simp [tm_get_set, tm_n_set, hl2, v4], by simp [tm_get_set, tm_n_set, hl2, v8], by simp [tm_get_set, tm_n_set, hl2, v12]⟩, by simpa [tm_get_set, tm_n_set, hl2] using hw14, by simp [tm_get_set, tm_n_set, hl2, v13]⟩⟩
    · have e : k = 1 := by rw [← hst]; unfold stp; rw [if_neg c4]
      have hc4 : ¬ (4 : Int) ≤ (F : Int) - (has : Int) := by omega
      subst e
      simp [ec_skip, ec_label, ek_reg, ek_draw, ek_seq, ec_cond, ek_block, ec_loop, ec_exit, ec_ret, ec_scope, ek_nil, ek_op, opK_some, regK_some, seqK_normal, seqK_exit, seqK_ret, blockK_normal, blockK_exit, blockK_ret, evOp, vOp, hOpB, hOpU, hOp, hOpT, aAppendG_tab, aWanted, aYielded, opd, putT, closedV, aBin, intOp, sameK, mapO, joinR, hasAddr, boundOf, pushB, aAlloc, Value.cells, lookB, setB, Nat.beq_eq, tm_n_set, tm_get_set, tm_of_n, tm_of_get, tm_tr_set, tm_tr_of, cellV, putF, appR_eq, takeR_eq, dropR_eq, setR_eq, getR_eq, ↓C75, ↓C76, ↓C77, ↓C79, ↓C17, ↓C18, ↓C22, ↓C71, FA24_0, FA24_1, FA24_2, FA24_3, FA24_4, FA24_5, FA24_6, FA24_7, FA24_8, LD3, LD4, LD22, LD27, LDr, LD24, LEN22, IA22, tkc, cellAt, hl, hmk, t3, t4, t8, t12, t14, t13, lbx, ↓CfullA, hfl, hlt, hc4, w4]
      generalize hr : evLoop _ _ _ _ = r'
      obtain ⟨y, A2, H2, rfl, rfl, bf2, hI2, hlen2, ⟨hl2, hmk2, v3, v4, v8, v12, v14, v15⟩, v13⟩ := RLI _ _ hr ⟨by simp [tm_n_set, hl], by simp [hmk], by simp [tm_get_set, tm_n_set, hl, t3], by simp [tm_get_set, tm_n_set, hl, t4], by simp [tm_get_set, tm_n_set, hl, t8], by simp [tm_get_set, tm_n_set, hl, t12], by simp [tm_get_set, tm_n_set, hl, t14], by simp [tm_get_set, tm_n_set, hl]⟩ (by simp [tm_get_set, tm_n_set, hl, hsp]) (by simp [tm_get_set, tm_n_set, hl]) (by simp [tm_get_set, tm_n_set, hl, t13])
      clear hr RLI
      simp [ec_skip, ec_label, ek_reg, ek_draw, ek_seq, ec_cond, ek_block, ec_loop, ec_exit, ec_ret, ec_scope, ek_nil, ek_op, opK_some, regK_some, seqK_normal, seqK_exit, seqK_ret, blockK_normal, blockK_exit, blockK_ret, evOp, vOp, hOpB, hOpU, hOp, hOpT, aAppendG_tab, aWanted, aYielded, opd, putT, closedV, aBin, intOp, sameK, mapO, joinR, hasAddr, boundOf, pushB, aAlloc, Value.cells, lookB, setB, Nat.beq_eq, tm_n_set, tm_get_set, tm_of_n, tm_of_get, tm_tr_set, tm_tr_of, cellV, putF, appR_eq, takeR_eq, dropR_eq, setR_eq, getR_eq, ↓C75, ↓C76, ↓C77, ↓C79, ↓C17, ↓C18, ↓C22, ↓C71, FA24_0, FA24_1, FA24_2, FA24_3, FA24_4, FA24_5, FA24_6, FA24_7, FA24_8, LD3, LD4, LD22, LD27, LDr, LD24, LEN22, IA22, tkc, cellAt, hl2, hmk2, v3, v4, v8, v12, v14, v15, v13]
      refine ⟨_, _, _, ⟨rfl, rfl, rfl⟩, .inl ⟨rfl, m, rfl, has + 1, bf2, _, by omega, by omega, hres, hI2, hlen2, ⟨by simp [tm_n_set, hl2], by simp [hmk2], by simp [tm_get_set, tm_n_set, hl2, v3], by simp [tm_get_set, tm_n_set, hl2, v4], by simp [tm_get_set, tm_n_set, hl2, v8], by simp [tm_get_set, tm_n_set, hl2, v12]⟩, by simpa [tm_get_set, tm_n_set, hl2] using hw14, by simp [tm_get_set, tm_n_set, hl2, v13]⟩⟩
  · rw [dealH, dif_neg hlt] at hres
    subst hres
    have e : has = F := by omega
    subst e
    simp only [lcD, Try.f33, Option.map_some, loopsA, List.nil_append, List.append_nil, List.cons_append, Option.getD_some, List.getD_cons_zero, runC]
    simp [ec_skip, ec_label, ek_reg, ek_draw, ek_seq, ec_cond, ek_block, ec_loop, ec_exit, ec_ret, ec_scope, ek_nil, ek_op, opK_some, regK_some, seqK_normal, seqK_exit, seqK_ret, blockK_normal, blockK_exit, blockK_ret, evOp, vOp, hOpB, hOpU, hOp, hOpT, aAppendG_tab, aWanted, aYielded, opd, putT, closedV, aBin, intOp, sameK, mapO, joinR, hasAddr, boundOf, pushB, aAlloc, Value.cells, lookB, setB, Nat.beq_eq, tm_n_set, tm_get_set, tm_of_n, tm_of_get, tm_tr_set, tm_tr_of, cellV, putF, appR_eq, takeR_eq, dropR_eq, setR_eq, getR_eq, ↓C75, ↓C76, ↓C77, ↓C79, ↓C17, ↓C18, ↓C22, ↓C71, FA24_0, FA24_1, FA24_2, FA24_3, FA24_4, FA24_5, FA24_6, FA24_7, FA24_8, LD3, LD4, LD22, LD27, LDr, LD24, LEN22, IA22, tkc, cellAt, hl, hmk, t3, t4, t8, t12, t14, t13, lbx, ↓CfullA, hfl, hlt]
    exact .inr ⟨by simp, rfl, bf, hI, hlen1, ⟨by simp [tm_n_set, hl], by simp [hmk], by simp [tm_get_set, tm_n_set, hl, t3], by simp [tm_get_set, tm_n_set, hl, t4], by simp [tm_get_set, tm_n_set, hl, t8], by simp [tm_get_set, tm_n_set, hl, t12]⟩, by simp [tm_get_set, tm_n_set, hl, t13]⟩


end

section
set_option linter.unusedSimpArgs false
set_option linter.unusedVariables false

theorem Ccd (call : Value → List Value → AH → Option (Value × AH)) {tm : Tm} {i j k l : Nat} {H : AH} {d : Option Tmp} {t : TypeId} {p : String} {a : Array Edge} {gd : Option (Nat × Bool)} : evOp (tabT Try.prog) call ⟨d, .call ⟨.value (.func 72), #[.tmp i, .tmp j, .tmp k, .tmp l], #[24, 22, 3, 3]⟩, t, p, a, gd⟩ (opd tm) H = call (.func (.func 72) #[] #[]) [tm.get i, tm.get j, tm.get k, tm.get l] H :=
  evOp_evO.trans (eo_call4 rfl rfl rfl rfl rfl)
theorem Ncop : ((tabT Try.prog) 22).map (fun z => (z.ex.nat 73, z.ex.mnz 73)) = some (none, none) := by kernel_rfl
theorem Gcop (call : Value → List Value → AH → Option (Value × AH)) {tm : Tm} {rs : List DR} {ts : List Nat} {i : Nat} {H : AH} {d : Option Tmp} {t : TypeId} {p : String} {a : Array Edge} {gd : Option (Nat × Bool)} (hi : natMem ts i = true) : evOp (tabT Try.prog) call ⟨d, .call ⟨.value (.func 73), #[.tmp i], #[22]⟩, t, p, a, gd⟩ (gOf tm rs ts) H = call (.func (.func 73) #[] #[]) [(finT tm rs).get i] H :=
  evOp_evO.trans (eo_call1 rfl (by simp only [gOf, hi, if_true]) Ncop)
theorem Wcop : wrT 73 = false := by kernel_rfl
theorem FDeal : tabF Try.prog 33 = some Try.f33 := by kernel_rfl
theorem kpDeal : (kpT 33, gcT 33) = (false, false) := by kernel_rfl
/-- A wall that begins at the cut. -/
def rotF (w : Nat → Int) (n c : Nat) : Nat → Int := fun j => if j < n - c then w (c + j) else w (j - (n - c))
theorem ints_rot (w : Nat → Int) (n c : Nat) (h : c ≤ n) : intsL (fun j => w (c + j)) (n - c) ++ intsL (fun j => w (0 + j)) c = intsL (rotF w n c) n := by
  apply List.ext_getElem?
  intro k
  by_cases h1 : k < n - c
  · rw [List.getElem?_append_left (by rw [intsL_len]; exact h1), intsL_at _ _ _ h1, intsL_at _ _ _ (show k < n by omega)]
    simp [rotF, h1]
  · rw [List.getElem?_append_right (by rw [intsL_len]; omega), intsL_len]
    by_cases h2 : k < n
    · rw [intsL_at _ _ _ (show k - (n - c) < c by omega), intsL_at _ _ _ h2]
      simp [rotF, h1]
    · rw [List.getElem?_eq_none (by rw [intsL_len]; omega), List.getElem?_eq_none (by rw [intsL_len]; omega)]
theorem ints_rot0 (w : Nat → Int) (n : Nat) : intsL (fun j => w (0 + j)) n = intsL (rotF w n 0) n := by
  apply List.ext_getElem?
  intro k
  by_cases h1 : k < n
  · rw [intsL_at _ _ _ h1, intsL_at _ _ _ h1]
    simp [rotF, h1]
  · rw [List.getElem?_eq_none (by rw [intsL_len]; omega), List.getElem?_eq_none (by rw [intsL_len]; omega)]
theorem dropB_none : ∀ (bs : List (Nat × ABlk)) (i : Nat), (∀ p ∈ bs, p.1 < i) → dropB bs i = bs
  | [], _, _ => rfl
  | (j, k) :: r, i, h => by
    have h1 := h (j, k) List.mem_cons_self
    simp only at h1
    simp only [dropB]
    rw [if_neg (by rw [Nat.beq_eq]; omega), dropB_none r i fun p hp => h p (List.mem_cons_of_mem _ hp)]
def noHs : Nat → List Int := fun _ => []
theorem MKh (H : AH) (P : Nat) (hP : 3 ≤ P ∧ P ≤ 4) : aMake (tabT Try.prog) H 43 (.int .i64 (P : Int)) (.int .i64 (P : Int)) = some (.slice (some ⟨H.next, 0, none⟩) P 1, pushB H (.cells false (hvL (fun _ => 0) noHs P))) := by
  rcases (by omega : P = 3 ∨ P = 4) with rfl | rfl
  · kernel_rfl
  · kernel_rfl
set_option maxRecDepth 100000 in
theorem MKTh (H : AH) (x y : Value) : aMakeT (tabT Try.prog) H 43 x y = none := by
  have h3 : ((tabT Try.prog) 22).map (fun y => y.desc) = some (.slice 3) := by kernel_rfl
  obtain ⟨_, _, _, _, ht⟩ := tdesc (T := (tabT Try.prog)) (t := 43) (d := .slice 22) (by kernel_rfl)
  obtain ⟨_, _, _, _, he⟩ := tdesc h3
  simp only [aMakeT, ht, he]
  cases natV x <;> cases natV y <;> rfl
/-- The end of a deal: where hands, live and dead wall lie. -/
def DealEnd (N n P de E : Nat) (bs : List (Nat × ABlk)) (T : Nat → Int) (R : Nat → List Int) (r : Option (Value × AH)) : Prop := ∃ (hb lb : Nat) (bf : Nat → Nat) (dv : Value) (H : AH), r = some (.tuple #[.slice (some ⟨hb, 0, none⟩) P 1, .slice (some ⟨lb, 0, none⟩) (n - de - E) 1, dv, .int .i64 0], H) ∧ MI H ∧ N < hb ∧ hb < lb ∧ lb < H.next ∧ (∀ j, j < N → lookB H.bs j = lookB bs j) ∧
  lookB H.bs hb = some (.cells false (hvL bf R P)) ∧ (∀ j, j < P → R j ≠ [] → hb < bf j ∧ bf j < H.next ∧ lookB H.bs (bf j) = some (.cells false (intsV (R j)))) ∧
  lookB H.bs lb = some (.cells false (intsL (fun j => T (E + j)) (n - de - E))) ∧
  ((de = 0 ∧ dv = .slice none 0 0) ∨ (0 < de ∧ ∃ db, dv = .slice (some ⟨db, 0, none⟩) de 1 ∧ hb < db ∧ db < H.next ∧ lookB H.bs db = some (.cells false (intsL (fun j => T (n - de + j)) de))))
set_option maxRecDepth 10000 in
set_option maxHeartbeats 8000000 in
theorem deal_ev {L : Nat} (call : Value → List Value → AH → Option (Value × AH)) (N a n P c d F de : Nat) (ro : Bool) (bs : List (Nat × ABlk)) (s : SV) (u1 u8 : Value) (w : Nat → Int) (hM : MI ⟨N, bs⟩) (hw : lookB bs a = some (.cells ro (intsL w n))) (v1 : cellV u1 = true) (v8 : cellV u8 = true)
    (hP : 3 ≤ P ∧ P ≤ 4) (hsp : s.p = P) (hde : s.de = de) (hF : F ≤ 13) (hd : d < P) (hc : c < n) (hn : n ≤ 144) (hsz : P * F + 1 + de ≤ n)
    (hcd : call (.func (.func 72) #[] #[]) [.agg #[.int .i64 s.p, u1, .int .i64 s.w, .int .i64 s.d, .int .i64 s.f, .int .i64 s.c, .int .i64 s.m, .int .i64 s.de, u8], .slice (some ⟨a, 0, none⟩) n 1, .int .i64 (c : Int), .int .i64 (d : Int)] ⟨N + 1, (N, .cells false [.int .i64 s.p, u1, .int .i64 s.w, .int .i64 s.d, .int .i64 s.f, .int .i64 s.c, .int .i64 s.m, .int .i64 s.de, u8]) :: bs⟩ = some (.int .i64 0, ⟨N + 1, (N, .cells false [.int .i64 s.p, u1, .int .i64 s.w, .int .i64 s.d, .int .i64 s.f, .int .i64 s.c, .int .i64 s.m, .int .i64 s.de, u8]) :: bs⟩))
    (hfull : ∀ H : AH, (∀ j, j < N → lookB H.bs j = lookB bs j) → call (.func (.func 74) #[] #[]) [.agg #[.int .i64 s.p, u1, .int .i64 s.w, .int .i64 s.d, .int .i64 s.f, .int .i64 s.c, .int .i64 s.m, .int .i64 s.de, u8]] H = some (.int .i64 (F : Int), H))
    (hcop : ∀ (M : Nat) (b : List (Nat × ABlk)) (x off m k : Nat) (r : Bool) (g : Nat → Int), off + m ≤ k → k ≤ 144 → 1 ≤ m → lookB b x = some (.cells r (intsL g k)) → call (.func (.func 73) #[] #[]) [.slice (some ⟨x, off, none⟩) m 1] ⟨M, b⟩ = some (.slice (some ⟨M, 0, none⟩) m 1, ⟨M + 1, (M, .cells false (intsL (fun j => g (off + j)) m)) :: b⟩))
    (hcop0 : ∀ (M : Nat) (b : List (Nat × ABlk)), MI ⟨M, b⟩ → call (.func (.func 73) #[] #[]) [.slice (some ⟨0, 0, some 0⟩) 0 1] ⟨M, b⟩ = some (.slice none 0 0, ⟨M, b⟩)) :
    DealEnd N n P de (P * F) bs (rotF w n c) (dealH (rotF w n c) d P F 0 noHs) (evFn (tabT Try.prog) call (L + 300) kpT 33 Try.f33 [.agg #[.int .i64 s.p, u1, .int .i64 s.w, .int .i64 s.d, .int .i64 s.f, .int .i64 s.c, .int .i64 s.m, .int .i64 s.de, u8], .slice (some ⟨a, 0, none⟩) n 1, .int .i64 (c : Int), .int .i64 (d : Int)] ⟨N, bs⟩) := by
  have kp := kpDeal
  simp only [Prod.mk.injEq] at kp
  obtain ⟨kp1, kp2⟩ := kp
  have own : ∀ cs : List Value, (ABlk.cells false cs).own = true := fun _ => rfl
  have hM1 : MI ⟨N + 1, (N, .cells false [.int .i64 s.p, u1, .int .i64 s.w, .int .i64 s.d, .int .i64 s.f, .int .i64 s.c, .int .i64 s.m, .int .i64 s.de, u8]) :: bs⟩ := hM.push _
  have aN : a < N := hM.2 _ (lookB_mem hw)
  have hD1 : decrK ((N, .cells false [.int .i64 s.p, u1, .int .i64 s.w, .int .i64 s.d, .int .i64 s.f, .int .i64 s.c, .int .i64 s.m, .int .i64 s.de, u8]) :: bs) = true := hM1.1
  have wR : lookB (roB ((N, .cells false [.int .i64 s.p, u1, .int .i64 s.w, .int .i64 s.d, .int .i64 s.f, .int .i64 s.c, .int .i64 s.m, .int .i64 s.de, u8]) :: bs)) a = some (.cells true (intsL w n)) := lookB_roB_cells _ _ ro _ (by simp only [lookB]; rw [if_neg (by rw [Nat.beq_eq]; omega)]; exact hw) hM1.1
  have naN : ¬ a = N := by omega
  have naN1 : ¬ a = N + 1 := by omega
  have nle1 : ¬ N + 1 ≤ N := by omega
  have nle2 : ¬ N + 2 ≤ N := by omega
  have nwB := newOnes_ro bs (N + 1) (fun q hq => Nat.lt_succ_of_lt (hM.2 q hq))
  have c1 := hcop (N + 1) (roB ((N, .cells false [.int .i64 s.p, u1, .int .i64 s.w, .int .i64 s.d, .int .i64 s.f, .int .i64 s.c, .int .i64 s.m, .int .i64 s.de, u8]) :: bs)) a c (n - c) n true w (by omega) hn (by omega) wR
  simp only [roB, roK] at c1 wR
  simp only [evFn, Try.f33]
  simp [ec_skip, ec_label, ek_reg, ek_draw, ek_seq, ec_cond, ek_block, ec_loop, ec_exit, ec_ret, ec_scope, ek_nil, ek_op, opK_some, regK_some, seqK_normal, seqK_exit, seqK_ret, blockK_normal, blockK_exit, blockK_ret, evOp, vOp, hOpB, hOpU, hOp, hOpT, aAppendG_tab, aWanted, aYielded, opd, putT, closedV, aBin, intOp, sameK, mapO, joinR, hasAddr, boundOf, pushB, aAlloc, Value.cells, lookB, setB, Nat.beq_eq, tm_n_set, tm_get_set, tm_of_n, tm_of_get, tm_tr_set, tm_tr_of, putF, appR_eq, takeR_eq, dropR_eq, setR_eq, getR_eq, ↓C75, ↓C76, ↓C77, ↓C79, ↓C17, ↓C18, ↓C22, ↓C71, FA24_0, FA24_1, FA24_2, FA24_3, FA24_4, FA24_5, FA24_6, FA24_7, FA24_8, LD3, LD4, LD22, LD27, LDr, LD24, LEN22, IA22, tkc, cellAt, v1, v8, cvI, ↓Ccd, hcd]
  generalize hX : evDrawX _ _ _ _ _ = X
  have four : ∃ tm tb, X = some (⟨tm, []⟩, ⟨tb + 1, (tb, .cells false (intsL (rotF w n c) n)) :: (N, .cells false [.int .i64 s.p, u1, .int .i64 s.w, .int .i64 s.d, .int .i64 s.f, .int .i64 s.c, .int .i64 s.m, .int .i64 s.de, u8]) :: bs⟩) ∧ N < tb ∧ tm.n = 94 ∧ tm.get 3 = .int .i64 (d : Int) ∧ tm.get 4 = .pointer (some ⟨N, 0, none⟩) ∧ tm.get 12 = .slice (some ⟨tb, 0, none⟩) n 1 := by
    by_cases c0 : c = 0
    · subst c0
      have sl1 := SLb a n 0 (by omega)
      have sl2 := SLa a n 0 (by omega)
      simp only [if_true, Int.natCast_zero] at sl1 sl2
      rw [Nat.sub_zero, ints_rot0] at c1
      obtain ⟨tm, e, hl, t3, t4, t12⟩ := draw_any (H' := ⟨N + 1 + 1, (N + 1, .cells false (intsL (rotF w n 0) n)) :: (N, .cells false [.int .i64 s.p, u1, .int .i64 s.w, .int .i64 s.d, .int .i64 s.f, .int .i64 s.c, .int .i64 s.m, .int .i64 s.de, u8]) :: bs⟩) (Pt := fun tm => tm.get 3 = .int .i64 (d : Int) ∧ tm.get 4 = .pointer (some ⟨N, 0, none⟩) ∧ tm.get 12 = .slice (some ⟨N + 1, 0, none⟩) n 1) hX (by kernel_rfl) hM1.1 (by
        clear hX
        generalize hMM : befs _ = MM
        have o1 : ordB MM 3 7 = true := by rw [← hMM]; kernel_rfl
        have o2 : ordB MM 7 3 = true := by rw [← hMM]; kernel_rfl
        clear hMM
        simp [mapO, drRun, drOp, dr3, looks, guardT, tmpsOf, Op.operands, Call.operands, wantedR, gOf, finT, natMem, isNil, writesF, evOp, vOp, hOpB, hOpU, hOp, hOpT, aAppendG_tab, opd, closedV, aBin, intOp, sameK, opdO, boundOf, undef, lookB, Nat.beq_eq, tm_n_set, tm_get_set, tm_of_n, tm_of_get, tm_tr_set, tm_tr_of, b02, b12, b32, ↓G75, W75, ↓G76, W76, ↓G77, W77, ↓G79, W79, ↓G17, W17, ↓G18, W18, ↓G22, W22, ↓G71, W71, tv, all1, roB, roK, news, newOnes, decr, tkc, cellAt, LD3, LD4, LD22, LD27, LDr, LD24, LEN22, IA22, FA24_0, FA24_1, FA24_2, FA24_3, FA24_4, FA24_5, FA24_6, FA24_7, FA24_8, hasR, hasR_ro, ↓Gcop, Wcop, partsO, sl1, sl2, c1, AP22, APT22, sliceLen, nwB, nle1, nle2, own, wheap, Nat.ble_eq, Nat.blt_eq]
        refine ⟨_, _, ⟨rfl, rfl⟩, ?_, ?_, ?_⟩
        · simp [dynOK, rdSame, evOp, vOp, hOpB, hOpU, hOp, hOpT, aAppendG_tab, mapO, opd, gOf, natMem, finT, tm_get_set, tm_n_set, tm_of_n, tm_of_get, cellAt, roB, roK, lookB, partsO, AP22, APT22, sliceLen, eqR, hD1, o1, o2, b02, b12, b32, b03, b13, b23, Nat.blt_eq, Nat.ble_eq, Nat.beq_eq, hasR, hasR_ro]
        · simp [wheap, news, b02, b12, b32, b03, b13, b23, Nat.beq_eq, all1]
        · simp [finT, tm_get_set, tm_n_set, tm_of_n, tm_of_get])
      simp [tm_n_set, tm_of_n] at hl
      exact ⟨tm, N + 1, e, by omega, hl, t3, t4, t12⟩
    · have sl1 := SLb a n c (by omega)
      have sl2 := SLa a n c (by omega)
      rw [if_neg c0, if_neg (by omega), Nat.mul_one] at sl1
      have src := src_part (bs := (N + 1, .cells true (intsL (fun j => w (c + j)) (n - c))) :: (N, .cells true [.int .i64 s.p, u1, .int .i64 s.w, .int .i64 s.d, .int .i64 s.f, .int .i64 s.c, .int .i64 s.m, .int .i64 s.de, u8]) :: roB bs) (tb := a) (n := n) (lo := 0) (k := c) (ro := true) (T := w) (by simp only [lookB]; rw [if_neg (by rw [Nat.beq_eq]; omega)]; exact wR) (by omega)
      have w0 : lookB ((N + 1, .cells false (intsL (fun j => w (c + j)) (n - c))) :: (N, .cells false [.int .i64 s.p, u1, .int .i64 s.w, .int .i64 s.d, .int .i64 s.f, .int .i64 s.c, .int .i64 s.m, .int .i64 s.de, u8]) :: bs) a = some (.cells ro (intsL w n)) := by simp only [lookB]; rw [if_neg (by rw [Nat.beq_eq]; omega), if_neg (by rw [Nat.beq_eq]; omega)]; exact hw
      have ap1 : aAppend (tabT Try.prog) ⟨N + 1 + 1, (N + 1, .cells true (intsL (fun j => w (c + j)) (n - c))) :: (N, .cells true [.int .i64 s.p, u1, .int .i64 s.w, .int .i64 s.d, .int .i64 s.f, .int .i64 s.c, .int .i64 s.m, .int .i64 s.de, u8]) :: roB bs⟩ 22 (.slice (some ⟨N + 1, 0, none⟩) (n - c) 1) (.slice (some ⟨a, 0, none⟩) c 1) = none :=
        apB_ro (T := w) (n := n) (lo := 0) (by simp only [lookB]; rw [if_neg (by rw [Nat.beq_eq]; omega)]; exact wR) (by simp [lookB]; rfl) (by omega) (by omega)
      have ap2 : aAppend (tabT Try.prog) ⟨N + 1 + 1, (N, .cells true [.int .i64 s.p, u1, .int .i64 s.w, .int .i64 s.d, .int .i64 s.f, .int .i64 s.c, .int .i64 s.m, .int .i64 s.de, u8]) :: roB bs⟩ 22 (.slice (some ⟨N + 1, 0, none⟩) (n - c) 1) (.slice (some ⟨a, 0, none⟩) c 1) = none := by
        obtain ⟨m, rfl⟩ : ∃ m, c = m + 1 := ⟨c - 1, by omega⟩
        have s2 := src_part (k := m + 1) (lo := 0) wR (by omega)
        have ln : lookB ((N, .cells true [.int .i64 s.p, u1, .int .i64 s.w, .int .i64 s.d, .int .i64 s.f, .int .i64 s.c, .int .i64 s.m, .int .i64 s.de, u8]) :: roB bs) (N + 1) = none := by
          simp only [lookB]
          rw [if_neg (by rw [Nat.beq_eq]; omega)]
          exact look_none bs (N + 1) (fun q hq => Nat.lt_succ_of_lt (hM.2 q hq))
        rw [AP22]
        generalize intsV (partL w 0 (m + 1)) = X at *
        simp only [sliceLen, s2, dstCells, ln]
      have ap3 : aAppend (tabT Try.prog) ⟨N + 1 + 1, (N + 1, .cells false (intsL (fun j => w (c + j)) (n - c))) :: (N, .cells false [.int .i64 s.p, u1, .int .i64 s.w, .int .i64 s.d, .int .i64 s.f, .int .i64 s.c, .int .i64 s.m, .int .i64 s.de, u8]) :: bs⟩ 22 (.slice (some ⟨N + 1, 0, none⟩) (n - c) 1) (.slice (some ⟨a, 0, none⟩) c 1) = some (.slice (some ⟨N + 2, 0, none⟩) n 1, ⟨N + 3, (N + 2, .cells false (intsL (rotF w n c) n)) :: (N, .cells false [.int .i64 s.p, u1, .int .i64 s.w, .int .i64 s.d, .int .i64 s.f, .int .i64 s.c, .int .i64 s.m, .int .i64 s.de, u8]) :: bs⟩) := by
        have e1 : intsL (fun j => w (c + j)) (n - c) = intsV (partL w c (n - c)) := (intsV_partL w c (n - c)).symm
        have e2 : (partL w c (n - c)).length = n - c := partL_len _ _ _
        have := apB (nx := N + 1 + 1) (b := N + 1) (l := partL w c (n - c)) (lo := 0) (k := c) w0 (by simp [lookB, e1]) (by omega) (by omega) (by omega) (by omega)
        rw [e2, intsV_app, intsV_partL, intsV_partL, ints_rot w n c (by omega)] at this
        have e3 : n - c + c = n := by omega
        have e4 : dropB ((N + 1, .cells false (intsL (fun j => w (c + j)) (n - c))) :: (N, .cells false [.int .i64 s.p, u1, .int .i64 s.w, .int .i64 s.d, .int .i64 s.f, .int .i64 s.c, .int .i64 s.m, .int .i64 s.de, u8]) :: bs) (N + 1) = (N, .cells false [.int .i64 s.p, u1, .int .i64 s.w, .int .i64 s.d, .int .i64 s.f, .int .i64 s.c, .int .i64 s.m, .int .i64 s.de, u8]) :: bs := by
          simp only [dropB]
          rw [if_pos (Nat.beq_refl _), if_neg (by rw [Nat.beq_eq]; omega), dropB_none bs (N + 1) (fun q hq => Nat.lt_succ_of_lt (hM.2 q hq))]
        rw [e3, e4] at this
        exact this
      obtain ⟨tm, e, hl, t3, t4, t12⟩ := draw_any (H' := ⟨N + 2 + 1, (N + 2, .cells false (intsL (rotF w n c) n)) :: (N, .cells false [.int .i64 s.p, u1, .int .i64 s.w, .int .i64 s.d, .int .i64 s.f, .int .i64 s.c, .int .i64 s.m, .int .i64 s.de, u8]) :: bs⟩) (Pt := fun tm => tm.get 3 = .int .i64 (d : Int) ∧ tm.get 4 = .pointer (some ⟨N, 0, none⟩) ∧ tm.get 12 = .slice (some ⟨N + 2, 0, none⟩) n 1) hX (by kernel_rfl) hM1.1 (by
        clear hX
        generalize hMM : befs _ = MM
        have o1 : ordB MM 3 7 = true := by rw [← hMM]; kernel_rfl
        have o2 : ordB MM 7 3 = true := by rw [← hMM]; kernel_rfl
        have o3 : (MM[7]?.getD 0).testBit 3 = true := by rw [← hMM]; kernel_rfl
        clear hMM
        simp [mapO, drRun, drOp, dr3, looks, guardT, tmpsOf, Op.operands, Call.operands, wantedR, gOf, finT, natMem, isNil, writesF, evOp, vOp, hOpB, hOpU, hOp, hOpT, aAppendG_tab, opd, closedV, aBin, intOp, sameK, opdO, boundOf, undef, lookB, Nat.beq_eq, tm_n_set, tm_get_set, tm_of_n, tm_of_get, tm_tr_set, tm_tr_of, b02, b12, b32, ↓G75, W75, ↓G76, W76, ↓G77, W77, ↓G79, W79, ↓G17, W17, ↓G18, W18, ↓G22, W22, ↓G71, W71, tv, all1, roB, roK, news, newOnes, decr, tkc, cellAt, LD3, LD4, LD22, LD27, LDr, LD24, LEN22, IA22, FA24_0, FA24_1, FA24_2, FA24_3, FA24_4, FA24_5, FA24_6, FA24_7, FA24_8, hasR, hasR_ro, ↓Gcop, Wcop, partsO, sl1, sl2, c1, o3, ap1, ap2, ap3, APT22, sliceLen, nwB, nle1, nle2, own, wheap, Nat.ble_eq, Nat.blt_eq]
        refine ⟨_, _, ⟨rfl, rfl⟩, ?_, ?_, ?_⟩
        · simp [dynOK, rdSame, evOp, vOp, hOpB, hOpU, hOp, hOpT, aAppendG_tab, mapO, opd, gOf, natMem, finT, tm_get_set, tm_n_set, tm_of_n, tm_of_get, cellAt, roB, roK, lookB, partsO, APT22, sliceLen, eqR, hD1, o1, o2, o3, b02, b12, b32, b03, b13, b23, Nat.blt_eq, Nat.ble_eq, Nat.beq_eq, hasR, hasR_ro]
        · simp [wheap, news, b02, b12, b32, b03, b13, b23, Nat.beq_eq, all1]
        · simp [finT, tm_get_set, tm_n_set, tm_of_n, tm_of_get])
      simp [tm_n_set, tm_of_n] at hl
      exact ⟨tm, N + 2, e, by omega, hl, t3, t4, t12⟩
  obtain ⟨tm, tb, rfl, htb, hl, t3, t4, t12⟩ := four
  clear hX c1
  have hmk := fun H => MKh H P hP
  rw [← hsp] at hmk
  have nN : ¬ N = tb := by omega
  have nN2 : ¬ tb = N := by omega
  have B1e : MI ⟨tb + 1, (tb, .cells false (intsL (rotF w n c) n)) :: (N, .cells false [.int .i64 s.p, u1, .int .i64 s.w, .int .i64 s.d, .int .i64 s.f, .int .i64 s.c, .int .i64 s.m, .int .i64 s.de, u8]) :: bs⟩ := by
    have h0 : MI ⟨tb, (N, .cells false [.int .i64 s.p, u1, .int .i64 s.w, .int .i64 s.d, .int .i64 s.f, .int .i64 s.c, .int .i64 s.m, .int .i64 s.de, u8]) :: bs⟩ := ⟨hM1.1, fun q hq => Nat.lt_of_lt_of_le (hM1.2 q hq) (by show N + 1 ≤ tb; omega)⟩
    exact h0.push _
  have hI0 : DI N tb (tb + 1) n P bs [.int .i64 s.p, u1, .int .i64 s.w, .int .i64 s.d, .int .i64 s.f, .int .i64 s.c, .int .i64 s.m, .int .i64 s.de, u8] (rotF w n c) ⟨tb + 2, (tb + 1, .cells false (hvL (fun _ => 0) noHs P)) :: (tb, .cells false (intsL (rotF w n c) n)) :: (N, .cells false [.int .i64 s.p, u1, .int .i64 s.w, .int .i64 s.d, .int .i64 s.f, .int .i64 s.c, .int .i64 s.m, .int .i64 s.de, u8]) :: bs⟩ (fun _ => 0) noHs := by
    refine ⟨B1e.push _, htb, by omega, by show tb + 1 < tb + 2; omega, ?_, ?_, ?_, fun j hj => ?_, fun j _ hne => absurd rfl hne, fun i j _ _ _ hne _ => absurd rfl hne⟩
    · simp only [lookB]
      rw [if_neg (by rw [Nat.beq_eq]; omega), if_neg (by rw [Nat.beq_eq]; omega), if_pos (Nat.beq_refl _)]
    · simp only [lookB]
      rw [if_neg (by rw [Nat.beq_eq]; omega), if_pos (Nat.beq_refl _)]
    · simp only [lookB]
      rw [if_pos (Nat.beq_refl _)]
    · simp only [lookB]
      rw [if_neg (by rw [Nat.beq_eq]; omega), if_neg (by rw [Nat.beq_eq]; omega), if_neg (by rw [Nat.beq_eq]; omega)]
  have RLO : ∀ (A1 : AF) (r' : Option (AX × AF × AH)), evLoop (runC (tabT Try.prog) call (L + 300) 33 none lcD) (L + 300) A1 ⟨tb + 2, (tb + 1, .cells false (hvL (fun _ => 0) noHs P)) :: (tb, .cells false (intsL (rotF w n c) n)) :: (N, .cells false [.int .i64 s.p, u1, .int .i64 s.w, .int .i64 s.d, .int .i64 s.f, .int .i64 s.c, .int .i64 s.m, .int .i64 s.de, u8]) :: bs⟩ = r' → TOd N tb (tb + 1) n P d A1 → A1.tm.get 14 = .int .i64 0 → A1.tm.get 13 = .int .i64 0 → ∃ y A' H', r' = some (y, A', H') ∧ QDo N tb (tb + 1) n P d F bs [.int .i64 s.p, u1, .int .i64 s.w, .int .i64 s.d, .int .i64 s.f, .int .i64 s.c, .int .i64 s.m, .int .i64 s.de, u8] (rotF w n c) (dealH (rotF w n c) d P F 0 noHs) y A' H' := fun A1 r' e x y z => by
    rw [← e]
    exact deal_out call N tb (tb + 1) n P d F bs s u1 u8 (rotF w n c) noHs (fun _ => 0) hP hsp hF hd (by omega) hn hfull _ hI0 (fun _ => rfl) A1 x y z
  simp only [lcD, Try.f33, Option.map_some, loopsA, List.nil_append, List.append_nil, List.cons_append, Option.getD_some, List.getD_cons_zero] at RLO
  simp [ec_skip, ec_label, ek_reg, ek_draw, ek_seq, ec_cond, ek_block, ec_loop, ec_exit, ec_ret, ec_scope, ek_nil, ek_op, opK_some, regK_some, seqK_normal, seqK_exit, seqK_ret, blockK_normal, blockK_exit, blockK_ret, evOp, vOp, hOpB, hOpU, hOp, hOpT, aAppendG_tab, aWanted, aYielded, opd, putT, closedV, aBin, intOp, sameK, mapO, joinR, hasAddr, boundOf, pushB, aAlloc, Value.cells, lookB, setB, Nat.beq_eq, tm_n_set, tm_get_set, tm_of_n, tm_of_get, tm_tr_set, tm_tr_of, cellV, putF, appR_eq, takeR_eq, dropR_eq, setR_eq, getR_eq, ↓C75, ↓C76, ↓C77, ↓C79, ↓C17, ↓C18, ↓C22, ↓C71, FA24_0, FA24_1, FA24_2, FA24_3, FA24_4, FA24_5, FA24_6, FA24_7, FA24_8, LD3, LD4, LD22, LD27, LDr, LD24, LEN22, IA22, tkc, cellAt, hl, t3, t4, t12, nN, nN2, hmk, MKTh]
  generalize hr : evLoop _ _ _ _ = r'
  obtain ⟨y, A2, ⟨nx, b2⟩, rfl, rfl, bf, hI, hlenR, ⟨hl2, hmk2, q3, q4, q8, q12⟩, q13⟩ := RLO _ _ hr ⟨by simp [tm_n_set, hl], rfl, by simp [tm_get_set, tm_n_set, hl, t3], by simp [tm_get_set, tm_n_set, hl, t4], by simp [tm_get_set, tm_n_set, hl, hsp], by simp [tm_get_set, tm_n_set, hl, t12]⟩ (by simp [tm_get_set, tm_n_set, hl]) (by simp [tm_get_set, tm_n_set, hl])
  clear hr RLO
  have lbx := hI.box
  have til := hI.til
  have hD2 : decrK b2 = true := hI.mi.1
  have tilR := lookB_roB_cells b2 tb _ _ hI.til hD2
  have hnx : tb + 1 < nx := hI.hx
  simp only at lbx til
  generalize hE : P * F = E at *
  have we : wrapI .i64 ((n : Int) - (de : Int)) = (n : Int) - (de : Int) := wrapI_small (by omega) (by omega)
  obtain ⟨en, hen⟩ : ∃ en, en = n - de := ⟨_, rfl⟩
  have hen2 : (n : Int) - (de : Int) = (en : Int) := by omega
  rw [hen2] at we
  have nw := newOnes_ro b2 nx hI.mi.2
  have nw1 := newOnes_ro b2 (nx + 1) (fun q hq => Nat.lt_succ_of_lt (hI.mi.2 q hq))
  have slL := SLc tb n E (en - E) (by omega) (by omega)
  have hEe : E + (en - E) = en := by omega
  rw [hEe] at slL
  have slD := SLb tb n en (by omega)
  rw [if_neg (by omega), Nat.mul_one] at slD
  have cL := hcop nx (roB b2) tb E (en - E) n true (rotF w n c) (by omega) hn (by omega) tilR
  simp [ec_skip, ec_label, ek_reg, ek_draw, ek_seq, ec_cond, ek_block, ec_loop, ec_exit, ec_ret, ec_scope, ek_nil, ek_op, opK_some, regK_some, seqK_normal, seqK_exit, seqK_ret, blockK_normal, blockK_exit, blockK_ret, evOp, vOp, hOpB, hOpU, hOp, hOpT, aAppendG_tab, aWanted, aYielded, opd, putT, closedV, aBin, intOp, sameK, mapO, joinR, hasAddr, boundOf, pushB, aAlloc, Value.cells, lookB, setB, Nat.beq_eq, tm_n_set, tm_get_set, tm_of_n, tm_of_get, tm_tr_set, tm_tr_of, cellV, putF, appR_eq, takeR_eq, dropR_eq, setR_eq, getR_eq, ↓C75, ↓C76, ↓C77, ↓C79, ↓C17, ↓C18, ↓C22, ↓C71, FA24_0, FA24_1, FA24_2, FA24_3, FA24_4, FA24_5, FA24_6, FA24_7, FA24_8, LD3, LD4, LD22, LD27, LDr, LD24, LEN22, IA22, tkc, cellAt, hl2, hmk2, q3, q4, q8, q12, q13, lbx, hde, hen2, we]
  generalize hX : evDrawX _ _ _ _ _ = X
  have nle1' : ¬ nx + 1 ≤ nx := by omega
  clear nle1 nle2
  have nle1 : ¬ nx + 1 ≤ nx := by omega
  have nle2 : ¬ nx + 2 ≤ nx := by omega
  have m1 : MI ⟨nx + 1, (nx, .cells false (intsL (fun j => rotF w n c (E + j)) (en - E))) :: b2⟩ := hI.mi.push _
  have enE : n - de - E = en - E := by rw [hen]
  unfold DealEnd
  rw [enE, ← hen]
  have lk1 : ∀ j, j < nx → lookB ((nx, ABlk.cells false (intsL (fun j => rotF w n c (E + j)) (en - E))) :: b2) j = lookB b2 j := fun j hj => by
    simp only [lookB]
    rw [if_neg (by rw [Nat.beq_eq]; omega)]
  by_cases d0 : de = 0
  · have e1 : en = n := by omega
    rw [if_pos e1] at slD
    have cD := hcop0 (nx + 1) (roB b2) ⟨hI.mi.ro.1, fun q hq => Nat.lt_succ_of_lt (hI.mi.ro.2 q hq)⟩
    obtain ⟨tm5, rfl, hl5, r8, r9, r10, r11⟩ := draw_any (H' := ⟨nx + 1, (nx, .cells false (intsL (fun j => rotF w n c (E + j)) (en - E))) :: b2⟩) (Pt := fun tm => tm.get 8 = .slice (some ⟨tb + 1, 0, none⟩) P 1 ∧ tm.get 9 = .slice (some ⟨nx, 0, none⟩) (en - E) 1 ∧ tm.get 10 = .slice none 0 0 ∧ tm.get 11 = .int .i64 0) hX (by kernel_rfl) hD2 (by
      clear hX
      generalize hMM : befs _ = MM
      have o1 : ordB MM 5 9 = true := by rw [← hMM]; kernel_rfl
      have o2 : ordB MM 9 5 = true := by rw [← hMM]; kernel_rfl
      clear hMM
      simp [mapO, drRun, drOp, dr3, looks, guardT, tmpsOf, Op.operands, Call.operands, wantedR, gOf, finT, natMem, isNil, writesF, evOp, vOp, hOpB, hOpU, hOp, hOpT, aAppendG_tab, opd, closedV, aBin, intOp, sameK, opdO, boundOf, undef, lookB, Nat.beq_eq, tm_n_set, tm_get_set, tm_of_n, tm_of_get, tm_tr_set, tm_tr_of, b02, b12, b32, ↓G75, W75, ↓G76, W76, ↓G77, W77, ↓G79, W79, ↓G17, W17, ↓G18, W18, ↓G22, W22, ↓G71, W71, tv, all1, roB, roK, news, newOnes, decr, tkc, cellAt, LD3, LD4, LD22, LD27, LDr, LD24, LEN22, IA22, FA24_0, FA24_1, FA24_2, FA24_3, FA24_4, FA24_5, FA24_6, FA24_7, FA24_8, hasR, hasR_ro, ↓Gcop, Wcop, partsO, hl2, q3, q4, q8, q12, q13, slL, slD, cL, cD, nw, nw1, nle1, nle2, own, wheap, Nat.ble_eq, Nat.blt_eq]
      refine ⟨_, _, ⟨rfl, rfl⟩, ?_, ?_, ?_⟩
      · simp [dynOK, rdSame, evOp, vOp, hOpB, hOpU, hOp, hOpT, aAppendG_tab, mapO, opd, gOf, natMem, finT, tm_get_set, tm_n_set, tm_of_n, tm_of_get, cellAt, roB, roK, lookB, partsO, eqR, hD2, hl2, o1, o2, b02, b12, b32, b03, b13, b23, Nat.blt_eq, Nat.ble_eq, Nat.beq_eq, hasR, hasR_ro, ↓Gcop, cD]
      · simp [wheap, news, b02, b12, b32, b03, b13, b23, Nat.beq_eq, all1]
      · simp [finT, tm_get_set, tm_n_set, hl2, q8, q12, q13])
    clear hX
    simp [tm_n_set, hl2] at hl5
    refine ⟨tb + 1, nx, bf, .slice none 0 0, ⟨nx + 1, (nx, .cells false (intsL (fun j => rotF w n c (E + j)) (en - E))) :: b2⟩, ?_, m1, by omega, by omega, by show nx < nx + 1; omega, fun j hj => ?_, ?_, fun j hj hne => ?_, by simp only [lookB]; rw [if_pos (Nat.beq_refl _)], .inl ⟨d0, rfl⟩⟩
    · simp [ec_skip, ec_label, ek_reg, ek_draw, ek_seq, ec_cond, ek_block, ec_loop, ec_exit, ec_ret, ec_scope, ek_nil, ek_op, opK_some, regK_some, seqK_normal, seqK_exit, seqK_ret, blockK_normal, blockK_exit, blockK_ret, evOp, vOp, hOpB, hOpU, hOp, hOpT, aAppendG_tab, aWanted, aYielded, opd, putT, closedV, aBin, intOp, sameK, mapO, joinR, hasAddr, boundOf, pushB, aAlloc, Value.cells, lookB, setB, Nat.beq_eq, tm_n_set, tm_get_set, tm_of_n, tm_of_get, tm_tr_set, tm_tr_of, cellV, putF, appR_eq, takeR_eq, dropR_eq, setR_eq, getR_eq, ↓C75, ↓C76, ↓C77, ↓C79, ↓C17, ↓C18, ↓C22, ↓C71, FA24_0, FA24_1, FA24_2, FA24_3, FA24_4, FA24_5, FA24_6, FA24_7, FA24_8, LD3, LD4, LD22, LD27, LDr, LD24, LEN22, IA22, tkc, cellAt, hl5, r8, r9, r10, r11, finF, takeM, resV, cleanedG, hasAddr, kp1, kp2]
    · show lookB _ j = _
      rw [lk1 j (by omega)]; exact hI.old j hj
    · show lookB _ (tb + 1) = _
      rw [lk1 (tb + 1) (by omega)]; exact hI.han
    · obtain ⟨x1, x2, x3⟩ := hI.lst j hj hne
      simp only at x2 x3
      refine ⟨x1, by show bf j < nx + 1; omega, ?_⟩
      show lookB _ (bf j) = _
      rw [lk1 (bf j) x2]; exact x3
  · rw [if_neg (by omega)] at slD
    have cE := hcop (nx + 1) (roB b2) tb en (n - en) n true (rotF w n c) (by omega) hn (by omega) tilR
    have cD := hcop (nx + 1) ((nx, .cells true (intsL (fun j => rotF w n c (E + j)) (en - E))) :: roB b2) tb en (n - en) n true (rotF w n c) (by omega) hn (by omega) (by simp only [lookB]; rw [if_neg (by rw [Nat.beq_eq]; omega)]; exact tilR)
    have m2 : MI ⟨nx + 1 + 1, (nx + 1, .cells false (intsL (fun j => rotF w n c (en + j)) (n - en))) :: (nx, .cells false (intsL (fun j => rotF w n c (E + j)) (en - E))) :: b2⟩ := m1.push _
    have lk2 : ∀ j, j < nx → lookB ((nx + 1, ABlk.cells false (intsL (fun j => rotF w n c (en + j)) (n - en))) :: (nx, ABlk.cells false (intsL (fun j => rotF w n c (E + j)) (en - E))) :: b2) j = lookB b2 j := fun j hj => by
      simp only [lookB]
      rw [if_neg (by rw [Nat.beq_eq]; omega), if_neg (by rw [Nat.beq_eq]; omega)]
    have dn : n - en = de := by omega
    obtain ⟨tm5, rfl, hl5, r8, r9, r10, r11⟩ := draw_any (H' := ⟨nx + 1 + 1, (nx + 1, .cells false (intsL (fun j => rotF w n c (en + j)) (n - en))) :: (nx, .cells false (intsL (fun j => rotF w n c (E + j)) (en - E))) :: b2⟩) (Pt := fun tm => tm.get 8 = .slice (some ⟨tb + 1, 0, none⟩) P 1 ∧ tm.get 9 = .slice (some ⟨nx, 0, none⟩) (en - E) 1 ∧ tm.get 10 = .slice (some ⟨nx + 1, 0, none⟩) (n - en) 1 ∧ tm.get 11 = .int .i64 0) hX (by kernel_rfl) hD2 (by
      clear hX
      generalize hMM : befs _ = MM
      have o1 : ordB MM 5 9 = true := by rw [← hMM]; kernel_rfl
      have o2 : ordB MM 9 5 = true := by rw [← hMM]; kernel_rfl
      have o3 : (MM[9]?.getD 0).testBit 5 = true := by rw [← hMM]; kernel_rfl
      clear hMM
      simp [mapO, drRun, drOp, dr3, looks, guardT, tmpsOf, Op.operands, Call.operands, wantedR, gOf, finT, natMem, isNil, writesF, evOp, vOp, hOpB, hOpU, hOp, hOpT, aAppendG_tab, opd, closedV, aBin, intOp, sameK, opdO, boundOf, undef, lookB, Nat.beq_eq, tm_n_set, tm_get_set, tm_of_n, tm_of_get, tm_tr_set, tm_tr_of, b02, b12, b32, ↓G75, W75, ↓G76, W76, ↓G77, W77, ↓G79, W79, ↓G17, W17, ↓G18, W18, ↓G22, W22, ↓G71, W71, tv, all1, roB, roK, news, newOnes, decr, tkc, cellAt, LD3, LD4, LD22, LD27, LDr, LD24, LEN22, IA22, FA24_0, FA24_1, FA24_2, FA24_3, FA24_4, FA24_5, FA24_6, FA24_7, FA24_8, hasR, hasR_ro, ↓Gcop, Wcop, partsO, hl2, q3, q4, q8, q12, q13, slL, slD, cL, cD, cE, o3, nw, nw1, nle1, nle2, own, wheap, Nat.ble_eq, Nat.blt_eq]
      refine ⟨_, _, ⟨rfl, rfl⟩, ?_, ?_, ?_⟩
      · simp [dynOK, rdSame, evOp, vOp, hOpB, hOpU, hOp, hOpT, aAppendG_tab, mapO, opd, gOf, natMem, finT, tm_get_set, tm_n_set, tm_of_n, tm_of_get, cellAt, roB, roK, lookB, partsO, eqR, hD2, hl2, o1, o2, o3, b02, b12, b32, b03, b13, b23, Nat.blt_eq, Nat.ble_eq, Nat.beq_eq, hasR, hasR_ro, ↓Gcop, cL, cD, cE]
      · simp [wheap, news, b02, b12, b32, b03, b13, b23, Nat.beq_eq, all1]
      · simp [finT, tm_get_set, tm_n_set, hl2, q8, q12, q13])
    clear hX
    simp [tm_n_set, hl2] at hl5
    refine ⟨tb + 1, nx, bf, .slice (some ⟨nx + 1, 0, none⟩) (n - en) 1, ⟨nx + 1 + 1, (nx + 1, .cells false (intsL (fun j => rotF w n c (en + j)) (n - en))) :: (nx, .cells false (intsL (fun j => rotF w n c (E + j)) (en - E))) :: b2⟩, ?_, m2, by omega, by omega, by show nx < nx + 1 + 1; omega, fun j hj => ?_, ?_, fun j hj hne => ?_, ?_, .inr ⟨by omega, nx + 1, by rw [dn], by omega, by show nx + 1 < nx + 1 + 1; omega, ?_⟩⟩
    · simp [ec_skip, ec_label, ek_reg, ek_draw, ek_seq, ec_cond, ek_block, ec_loop, ec_exit, ec_ret, ec_scope, ek_nil, ek_op, opK_some, regK_some, seqK_normal, seqK_exit, seqK_ret, blockK_normal, blockK_exit, blockK_ret, evOp, vOp, hOpB, hOpU, hOp, hOpT, aAppendG_tab, aWanted, aYielded, opd, putT, closedV, aBin, intOp, sameK, mapO, joinR, hasAddr, boundOf, pushB, aAlloc, Value.cells, lookB, setB, Nat.beq_eq, tm_n_set, tm_get_set, tm_of_n, tm_of_get, tm_tr_set, tm_tr_of, cellV, putF, appR_eq, takeR_eq, dropR_eq, setR_eq, getR_eq, ↓C75, ↓C76, ↓C77, ↓C79, ↓C17, ↓C18, ↓C22, ↓C71, FA24_0, FA24_1, FA24_2, FA24_3, FA24_4, FA24_5, FA24_6, FA24_7, FA24_8, LD3, LD4, LD22, LD27, LDr, LD24, LEN22, IA22, tkc, cellAt, hl5, r8, r9, r10, r11, finF, takeM, resV, cleanedG, hasAddr, kp1, kp2]
    · show lookB _ j = _
      rw [lk2 j (by omega)]; exact hI.old j hj
    · show lookB _ (tb + 1) = _
      rw [lk2 (tb + 1) (by omega)]; exact hI.han
    · obtain ⟨x1, x2, x3⟩ := hI.lst j hj hne
      simp only at x2 x3
      refine ⟨x1, by show bf j < nx + 1 + 1; omega, ?_⟩
      show lookB _ (bf j) = _
      rw [lk2 (bf j) x2]; exact x3
    · show lookB _ nx = _
      simp only [lookB]
      rw [if_neg (by rw [Nat.beq_eq]; omega), if_pos (Nat.beq_refl _)]
    · show lookB _ (nx + 1) = _
      simp only [lookB]
      rw [if_pos (Nat.beq_refl _), dn]


end

section
set_option linter.unusedSimpArgs false
set_option linter.unusedVariables false

theorem intsL_congr {f g : Nat → Int} {n : Nat} (h : ∀ k, k < n → f k = g k) : intsL f n = intsL g n := by
  unfold intsL
  refine List.map_congr_left fun j hj => ?_
  rw [h j (List.mem_range.1 hj)]
theorem kp6 : kpT 22 = false := by kernel_rfl
noncomputable def I6e (u v : Value) (k : Nat) (H0 : AH) (m : Nat) (A : AF) (H : AH) : Prop := ∃ (i : Nat), i + m = k ∧ A.tm.n = 26 ∧ A.marks = [] ∧ A.tm.get 5 = .int .i64 (i : Int) ∧ A.tm.get 0 = u ∧ A.tm.get 1 = v ∧ H = H0
noncomputable def Q6e (H0 : AH) (y : AX) (A' : AF) (H : AH) : Prop := y = .exit 0 ∧ A'.tm.n = 26 ∧ A'.marks = [] ∧ H = H0
set_option maxRecDepth 10000 in
set_option maxHeartbeats 8000000 in
theorem equal_ev {L : Nat} (call : Value → List Value → AH → Option (Value × AH)) {a b k : Nat} {g : Nat → Int} {H : AH} (hk : k ≤ 200) (hM : MI H) {ro ro2 : Bool} (ha : lookB H.bs a = some (.cells ro (intsL g k))) (hb : lookB H.bs b = some (.cells ro2 (intsL g k))) :
    ∃ H', evFn (tabT Try.prog) call (L + 300) kpT 22 Try.f22 [.slice (some ⟨a, 0, none⟩) k 1, .slice (some ⟨b, 0, none⟩) k 1] H = some (.bool true, H') ∧ H.next ≤ H'.next ∧ (∀ j, j < H.next → lookB H'.bs j = lookB H.bs j) ∧ MI H' := by
  have kp := kp6
  have ra := lookB_roB_cells _ _ _ _ ha hM.1
  have rb := lookB_roB_cells _ _ _ _ hb hM.1
  have nw := newOnes_ro H.bs H.next hM.2
  simp only [evFn, Try.f22]
  simp [ec_skip, ec_label, ek_reg, ek_draw, ek_seq, ec_cond, ek_block, ec_loop, ec_exit, ec_ret, ec_scope, ek_nil, ek_op, opK_some, regK_some, seqK_normal, seqK_exit, seqK_ret, blockK_normal, blockK_exit, blockK_ret, evOp, vOp, hOpB, hOpU, hOp, hOpT, aAppendG_tab, aWanted, aYielded, opd, putT, closedV, aBin, intOp, sameK, mapO, joinR, hasAddr, boundOf, pushB, aAlloc, Value.cells, lookB, setB, Nat.beq_eq, tm_n_set, tm_get_set, tm_of_n, tm_of_get, tm_tr_set, tm_tr_of, cellV, putF, appR_eq, takeR_eq, dropR_eq, setR_eq, getR_eq, ↓C75, ↓C76, ↓C77, ↓C79, ↓C17, ↓C18, ↓C22, ↓C71, FA24_0, FA24_1, FA24_2, FA24_3, FA24_4, FA24_5, FA24_6, FA24_7, FA24_8, LD3, LD4, LD22, LD27, LDr, LD24, LEN22, IA22, tkc, cellAt]
  generalize hr : evLoop _ _ _ _ = r
  obtain ⟨y, A', H', rfl, rfl, hl, hmk, rfl⟩ := loop_go (Q := Q6e H) hr (I6e (.slice (some ⟨a, 0, none⟩) k 1) (.slice (some ⟨b, 0, none⟩) k 1) k H) k (by omega) ⟨0, by omega, rfl, rfl, rfl, rfl, rfl, rfl⟩ (by
    clear hr
    rintro m A H' ⟨i, him, hl, hmk, h5, h0, h1, rfl⟩
    simp only [runC]
    cases m with
    | zero =>
      have hi : ¬ i < k := by omega
      simp [ec_skip, ec_label, ek_reg, ek_draw, ek_seq, ec_cond, ek_block, ec_loop, ec_exit, ec_ret, ec_scope, ek_nil, ek_op, opK_some, regK_some, seqK_normal, seqK_exit, seqK_ret, blockK_normal, blockK_exit, blockK_ret, evOp, vOp, hOpB, hOpU, hOp, hOpT, aAppendG_tab, aWanted, aYielded, opd, putT, closedV, aBin, intOp, sameK, mapO, joinR, hasAddr, boundOf, pushB, aAlloc, Value.cells, lookB, setB, Nat.beq_eq, tm_n_set, tm_get_set, tm_of_n, tm_of_get, tm_tr_set, tm_tr_of, cellV, putF, appR_eq, takeR_eq, dropR_eq, setR_eq, getR_eq, ↓C75, ↓C76, ↓C77, ↓C79, ↓C17, ↓C18, ↓C22, ↓C71, FA24_0, FA24_1, FA24_2, FA24_3, FA24_4, FA24_5, FA24_6, FA24_7, FA24_8, LD3, LD4, LD22, LD27, LDr, LD24, LEN22, IA22, tkc, cellAt, hl, hmk, h5, h0, h1, hi]
      exact .inr ⟨by simp, rfl, by simp [tm_n_set, hl], rfl, rfl⟩
    | succ m =>
      have hi : i < k := by omega
      have hw : wrapI .i64 ((i : Int) + 1) = ((i + 1 : Nat) : Int) := by rw [wrapI_small (by omega) (by omega)]; rfl
      have pa := IX22 a k i hi
      have pb := IX22 b k i hi
      have pc := intsL_at g k i hi
      simp [ec_skip, ec_label, ek_reg, ek_draw, ek_seq, ec_cond, ek_block, ec_loop, ec_exit, ec_ret, ec_scope, ek_nil, ek_op, opK_some, regK_some, seqK_normal, seqK_exit, seqK_ret, blockK_normal, blockK_exit, blockK_ret, evOp, vOp, hOpB, hOpU, hOp, hOpT, aAppendG_tab, aWanted, aYielded, opd, putT, closedV, aBin, intOp, sameK, mapO, joinR, hasAddr, boundOf, pushB, aAlloc, Value.cells, lookB, setB, Nat.beq_eq, tm_n_set, tm_get_set, tm_of_n, tm_of_get, tm_tr_set, tm_tr_of, cellV, putF, appR_eq, takeR_eq, dropR_eq, setR_eq, getR_eq, ↓C75, ↓C76, ↓C77, ↓C79, ↓C17, ↓C18, ↓C22, ↓C71, FA24_0, FA24_1, FA24_2, FA24_3, FA24_4, FA24_5, FA24_6, FA24_7, FA24_8, LD3, LD4, LD22, LD27, LDr, LD24, LEN22, IA22, tkc, cellAt, hl, hmk, h5, h0, h1, hi]
      generalize hX : evDrawX _ _ _ _ _ = X
      obtain ⟨tm, rfl, hn', t25, t5, t0, t1⟩ := draw_ro (Pt := fun tm => tm.get 25 = .bool false ∧ tm.get 5 = .int .i64 (i : Int) ∧ tm.get 0 = .slice (some ⟨a, 0, none⟩) k 1 ∧ tm.get 1 = .slice (some ⟨b, 0, none⟩) k 1) hX (by kernel_rfl) hM.1 (by
        clear hX
        generalize befs _ = M
        generalize intsL g k = L at *
        simp [mapO, drRun, drOp, dr3, looks, guardT, tmpsOf, Op.operands, Call.operands, wantedR, gOf, finT, natMem, isNil, writesF, evOp, vOp, hOpB, hOpU, hOp, hOpT, aAppendG_tab, opd, closedV, aBin, intOp, sameK, opdO, boundOf, undef, lookB, Nat.beq_eq, tm_n_set, tm_get_set, tm_of_n, tm_of_get, tm_tr_set, tm_tr_of, b02, b12, b32, ↓G75, W75, ↓G76, W76, ↓G77, W77, ↓G79, W79, ↓G17, W17, ↓G18, W18, ↓G22, W22, ↓G71, W71, tv, all1, roB, roK, news, newOnes, decr, tkc, cellAt, LD3, LD4, LD22, LD27, LDr, LD24, LEN22, IA22, hl, h5, h0, h1, pa, pb, pc, ra, rb, nw, Nat.ble_eq]
        refine ⟨by simp [dynOK, b02, b12, b32], by simp [wheap, news, b02, b12, b32]⟩)
      clear hX
      simp [tm_n_set, hl] at hn'
      simp [ec_skip, ec_label, ek_reg, ek_draw, ek_seq, ec_cond, ek_block, ec_loop, ec_exit, ec_ret, ec_scope, ek_nil, ek_op, opK_some, regK_some, seqK_normal, seqK_exit, seqK_ret, blockK_normal, blockK_exit, blockK_ret, evOp, vOp, hOpB, hOpU, hOp, hOpT, aAppendG_tab, aWanted, aYielded, opd, putT, closedV, aBin, intOp, sameK, mapO, joinR, hasAddr, boundOf, pushB, aAlloc, Value.cells, lookB, setB, Nat.beq_eq, tm_n_set, tm_get_set, tm_of_n, tm_of_get, tm_tr_set, tm_tr_of, cellV, putF, appR_eq, takeR_eq, dropR_eq, setR_eq, getR_eq, ↓C75, ↓C76, ↓C77, ↓C79, ↓C17, ↓C18, ↓C22, ↓C71, FA24_0, FA24_1, FA24_2, FA24_3, FA24_4, FA24_5, FA24_6, FA24_7, FA24_8, LD3, LD4, LD22, LD27, LDr, LD24, LEN22, IA22, tkc, cellAt, hmk, hn', t25, t5, t0, t1]
      refine ⟨_, _, _, ⟨rfl, rfl, rfl⟩, .inl ⟨rfl, m, rfl, i + 1, by omega, ?_⟩⟩
      simp [tm_get_set, tm_n_set, hn', t5, t0, t1, hw])
  simp [ec_skip, ec_label, ek_reg, ek_draw, ek_seq, ec_cond, ek_block, ec_loop, ec_exit, ec_ret, ec_scope, ek_nil, ek_op, opK_some, regK_some, seqK_normal, seqK_exit, seqK_ret, blockK_normal, blockK_exit, blockK_ret, evOp, vOp, hOpB, hOpU, hOp, hOpT, aAppendG_tab, aWanted, aYielded, opd, putT, closedV, aBin, intOp, sameK, mapO, joinR, hasAddr, boundOf, pushB, aAlloc, Value.cells, lookB, setB, Nat.beq_eq, tm_n_set, tm_get_set, tm_of_n, tm_of_get, tm_tr_set, tm_tr_of, cellV, putF, appR_eq, takeR_eq, dropR_eq, setR_eq, getR_eq, ↓C75, ↓C76, ↓C77, ↓C79, ↓C17, ↓C18, ↓C22, ↓C71, FA24_0, FA24_1, FA24_2, FA24_3, FA24_4, FA24_5, FA24_6, FA24_7, FA24_8, LD3, LD4, LD22, LD27, LDr, LD24, LEN22, IA22, tkc, cellAt, hl, hmk, finF, takeM, resV, cleanedG, hasAddr, kp]
  exact ⟨fun j hj => look_below _ _ _ hj, hM.sub (below_sub _ _) (Nat.le_refl _)⟩
set_option maxRecDepth 10000 in
set_option maxHeartbeats 8000000 in
theorem equal_nil {L : Nat} (call : Value → List Value → AH → Option (Value × AH)) {H : AH} :
    ∃ H', evFn (tabT Try.prog) call (L + 300) kpT 22 Try.f22 [.slice none 0 0, .slice none 0 0] H = some (.bool true, H') ∧ H.next ≤ H'.next ∧ ∀ j, j < H.next → lookB H'.bs j = lookB H.bs j := by
  have kp := kp6
  simp only [evFn, Try.f22]
  simp [ec_skip, ec_label, ek_reg, ek_draw, ek_seq, ec_cond, ek_block, ec_loop, ec_exit, ec_ret, ec_scope, ek_nil, ek_op, opK_some, regK_some, seqK_normal, seqK_exit, seqK_ret, blockK_normal, blockK_exit, blockK_ret, evOp, vOp, hOpB, hOpU, hOp, hOpT, aAppendG_tab, aWanted, aYielded, opd, putT, closedV, aBin, intOp, sameK, mapO, joinR, hasAddr, boundOf, pushB, aAlloc, Value.cells, lookB, setB, Nat.beq_eq, tm_n_set, tm_get_set, tm_of_n, tm_of_get, tm_tr_set, tm_tr_of, cellV, putF, appR_eq, takeR_eq, dropR_eq, setR_eq, getR_eq, ↓C75, ↓C76, ↓C77, ↓C79, ↓C17, ↓C18, ↓C22, ↓C71, FA24_0, FA24_1, FA24_2, FA24_3, FA24_4, FA24_5, FA24_6, FA24_7, FA24_8, LD3, LD4, LD22, LD27, LDr, LD24, LEN22, IA22, tkc, cellAt]
  generalize hr : evLoop _ _ _ _ = r
  obtain ⟨y, A', H', rfl, rfl, hl, hmk, rfl⟩ := loop_go (Q := Q6e H) hr (I6e (.slice none 0 0) (.slice none 0 0) 0 H) 0 (by omega) ⟨0, by omega, rfl, rfl, rfl, rfl, rfl, rfl⟩ (by
    clear hr
    rintro m A H' ⟨i, him, hl, hmk, h5, h0, h1, rfl⟩
    obtain rfl : m = 0 := by omega
    obtain rfl : i = 0 := by omega
    simp only [runC]
    simp [ec_skip, ec_label, ek_reg, ek_draw, ek_seq, ec_cond, ek_block, ec_loop, ec_exit, ec_ret, ec_scope, ek_nil, ek_op, opK_some, regK_some, seqK_normal, seqK_exit, seqK_ret, blockK_normal, blockK_exit, blockK_ret, evOp, vOp, hOpB, hOpU, hOp, hOpT, aAppendG_tab, aWanted, aYielded, opd, putT, closedV, aBin, intOp, sameK, mapO, joinR, hasAddr, boundOf, pushB, aAlloc, Value.cells, lookB, setB, Nat.beq_eq, tm_n_set, tm_get_set, tm_of_n, tm_of_get, tm_tr_set, tm_tr_of, cellV, putF, appR_eq, takeR_eq, dropR_eq, setR_eq, getR_eq, ↓C75, ↓C76, ↓C77, ↓C79, ↓C17, ↓C18, ↓C22, ↓C71, FA24_0, FA24_1, FA24_2, FA24_3, FA24_4, FA24_5, FA24_6, FA24_7, FA24_8, LD3, LD4, LD22, LD27, LDr, LD24, LEN22, IA22, tkc, cellAt, hl, hmk, h5, h0, h1]
    exact .inr ⟨by simp, rfl, by simp [tm_n_set, hl], rfl, rfl⟩)
  simp [ec_skip, ec_label, ek_reg, ek_draw, ek_seq, ec_cond, ek_block, ec_loop, ec_exit, ec_ret, ec_scope, ek_nil, ek_op, opK_some, regK_some, seqK_normal, seqK_exit, seqK_ret, blockK_normal, blockK_exit, blockK_ret, evOp, vOp, hOpB, hOpU, hOp, hOpT, aAppendG_tab, aWanted, aYielded, opd, putT, closedV, aBin, intOp, sameK, mapO, joinR, hasAddr, boundOf, pushB, aAlloc, Value.cells, lookB, setB, Nat.beq_eq, tm_n_set, tm_get_set, tm_of_n, tm_of_get, tm_tr_set, tm_tr_of, cellV, putF, appR_eq, takeR_eq, dropR_eq, setR_eq, getR_eq, ↓C75, ↓C76, ↓C77, ↓C79, ↓C17, ↓C18, ↓C22, ↓C71, FA24_0, FA24_1, FA24_2, FA24_3, FA24_4, FA24_5, FA24_6, FA24_7, FA24_8, LD3, LD4, LD22, LD27, LDr, LD24, LEN22, IA22, tkc, cellAt, hl, hmk, finF, takeM, resV, cleanedG, hasAddr, kp]
  exact fun j hj => look_below _ _ _ hj

open Classical in
noncomputable def ansEq : List Value → AH → Option Value
  | [.slice none 0 0, .slice none 0 0], ⟨0, []⟩ => some (.bool true)
  | [.slice (some ⟨0, 0, none⟩) n 1, .slice (some ⟨1, 0, none⟩) m 1], ⟨2, [(1, .cells true L2), (0, .cells true L1)]⟩ => if n = m ∧ n ≤ 200 ∧ L1 = intsL (gi L1) n ∧ L2 = intsL (gi L1) n then some (.bool true) else none
  | _, _ => none
theorem F6n : tabF Try.prog 22 = some Try.f22 := by kernel_rfl
theorem okEq : AnsOK (runH noH) 22 ansEq := by
  intro cargs Hc v hv
  unfold ansEq at hv
  split at hv
  · cases hv
    refine ⟨rfl, fun _ => ?_⟩
    obtain ⟨H', h, _⟩ := equal_nil (inH noH) (H := ⟨0, []⟩)
    exact ⟨H', runH_fn F6n rfl h⟩
  · rename_i n m L2 L1
    split at hv
    · rename_i hc
      obtain ⟨rfl, hn, h1, h2⟩ := hc
      cases hv
      refine ⟨rfl, fun _ => ?_⟩
      have hM : MI ⟨2, [(1, .cells true L2), (0, .cells true L1)]⟩ := ⟨by simp [decrK, Nat.blt_eq], by simp⟩
      obtain ⟨H', h, _⟩ := equal_ev (inH noH) (a := 0) (b := 1) (k := n) (g := gi L1) (ro := true) (ro2 := true) hn hM (by simp only [lookB]; rw [← h1]; rfl) (by simp only [lookB]; rw [← h2]; rfl)
      exact ⟨H', runH_fn F6n rfl h⟩
    · cases hv
  · cases hv
noncomputable def EQ : Hnd := canH 22 ansEq
theorem EQ_ok : CallOK Try.prog EQ := canH_ok (runH_ok noH_ok) okEq
theorem gi_ints (W : Nat → Int) (n k : Nat) (h : k < n) : gi (intsL W n) k = W k := by
  unfold gi
  rw [intsL_at W n k h]
theorem EQ_nil (H : AH) : EQ (.func (.func 22) #[] #[]) [.slice none 0 0, .slice none 0 0] H = some (.bool true, H) := by
  simp [EQ, canH, canon, canonL, canonV, canonB, ansEq]
theorem EQ_two (W : Nat → Int) (n a b : Nat) (H : AH) {ro ro2 : Bool} (hn : n ≤ 200) (hab : ¬ b = a) (ha : lookB H.bs a = some (.cells ro (intsL W n))) (hb : lookB H.bs b = some (.cells ro2 (intsL W n))) : EQ (.func (.func 22) #[] #[]) [.slice (some ⟨a, 0, none⟩) n 1, .slice (some ⟨b, 0, none⟩) n 1] H = some (.bool true, H) := by
  have hc := okC_closed (intsL_ok W n)
  have hg : intsL W n = intsL (gi (intsL W n)) n := intsL_congr fun k hk => (gi_ints W n k hk).symm
  have hab2 : ¬ a = b := fun h => hab h.symm
  generalize intsL W n = L at *
  simp only [EQ, canH]
  simp [canon, canonL, canonV, idOf, idxOf, canonB, ha, hb, hab, hab2, hc, Nat.beq_eq]
  simp only [ansEq]
  rw [if_pos ⟨rfl, hn, hg, hg⟩]

/-- A list of integers as a function. -/
def fnL (l : List Int) : Nat → Int := fun i => (l[i]?).getD 0
theorem intsV_fnL (l : List Int) : intsV l = intsL (fnL l) l.length := by
  apply List.ext_getElem?
  intro k
  by_cases hk : k < l.length
  · rw [intsL_at _ _ _ hk]
    simp [intsV, fnL, hk]
  · rw [List.getElem?_eq_none (by simp [intsV]; omega), List.getElem?_eq_none (by rw [intsL_len]; omega)]
theorem EQ_lst (l : List Int) (a b : Nat) (H : AH) {ro ro2 : Bool} (hn : l.length ≤ 200) (hab : l ≠ [] → ¬ b = a) (ha : l ≠ [] → lookB H.bs a = some (.cells ro (intsV l))) (hb : l ≠ [] → lookB H.bs b = some (.cells ro2 (intsV l))) : EQ (.func (.func 22) #[] #[]) [lstV a l, lstV b l] H = some (.bool true, H) := by
  cases l with
  | nil => exact EQ_nil H
  | cons x r =>
    have hne : x :: r ≠ [] := by simp
    rw [intsV_fnL] at ha hb
    exact EQ_two (fnL (x :: r)) (x :: r).length a b H hn (hab hne) (ha hne) (hb hne)


end

section
set_option linter.unusedSimpArgs false
set_option linter.unusedVariables false

theorem NeqA : ((tabT Try.prog) 22).map (fun z => z.ex.nat 22) = some none := by kernel_rfl
theorem CeqA (call : Value → List Value → AH → Option (Value × AH)) {tm : Tm} {i j : Nat} {H : AH} {d : Option Tmp} {t : TypeId} {p : String} {a : Array Edge} {gd : Option (Nat × Bool)} : evOp (tabT Try.prog) call ⟨d, .call ⟨.value (.func 22), #[.tmp i, .tmp j], #[22, 22]⟩, t, p, a, gd⟩ (opd tm) H = call (.func (.func 22) #[] #[]) [tm.get i, tm.get j] H :=
  evOp_evO.trans (eo_call2n rfl rfl rfl NeqA)
theorem GeqA (call : Value → List Value → AH → Option (Value × AH)) {tm : Tm} {rs : List DR} {ts : List Nat} {i j : Nat} {H : AH} {d : Option Tmp} {t : TypeId} {p : String} {a : Array Edge} {gd : Option (Nat × Bool)} (hi : natMem ts i = true) (hj : natMem ts j = true) : evOp (tabT Try.prog) call ⟨d, .call ⟨.value (.func 22), #[.tmp i, .tmp j], #[22, 22]⟩, t, p, a, gd⟩ (gOf tm rs ts) H = call (.func (.func 22) #[] #[]) [(finT tm rs).get i, (finT tm rs).get j] H :=
  evOp_evO.trans (eo_call2n rfl (by simp only [gOf, hi, if_true]) (by simp only [gOf, hj, if_true]) NeqA)
theorem WeqA : wrT 22 = false := by kernel_rfl
theorem LENh (i n : Nat) : aLen (tabT Try.prog) 43 (.slice (some ⟨i, 0, none⟩) n 1) = some (.int .i64 n) := by
  kernel_rfl
theorem kpSH : (kpT 35, gcT 35) = (false, false) := by kernel_rfl
noncomputable def ISH (ha hb P : Nat) (H0 : AH) (m : Nat) (A : AF) (H : AH) : Prop := ∃ (i : Nat), i + m = P ∧ A.tm.n = 33 ∧ A.marks = [] ∧ A.tm.get 5 = .int .i64 (i : Int) ∧ A.tm.get 0 = .slice (some ⟨ha, 0, none⟩) P 1 ∧ A.tm.get 1 = .slice (some ⟨hb, 0, none⟩) P 1 ∧ H = H0
noncomputable def QSH (ha hb P : Nat) (H0 : AH) (y : AX) (A' : AF) (H : AH) : Prop := y = .exit 0 ∧ A'.tm.n = 33 ∧ A'.marks = [] ∧ A'.tm.get 0 = .slice (some ⟨ha, 0, none⟩) P 1 ∧ A'.tm.get 1 = .slice (some ⟨hb, 0, none⟩) P 1 ∧ H = H0
set_option maxRecDepth 10000 in
set_option maxHeartbeats 8000000 in
theorem same_ev {L : Nat} (call : Value → List Value → AH → Option (Value × AH)) {ha hb P nx : Nat} {b : List (Nat × ABlk)} (hP : P ≤ 4) (hM : MI ⟨nx, b⟩) {b1 b2 : Nat → Nat} {R : Nat → List Int} {r1 r2 : Bool} (hA : lookB b ha = some (.cells r1 (hvL b1 R P))) (hB : lookB b hb = some (.cells r2 (hvL b2 R P)))
    (hE : ∀ j, j < P → call (.func (.func 22) #[] #[]) [lstV (b1 j) (R j), lstV (b2 j) (R j)] ⟨nx, roB b⟩ = some (.bool true, ⟨nx, roB b⟩)) :
    ∃ H', evFn (tabT Try.prog) call (L + 300) kpT 35 Try.f35 [.slice (some ⟨ha, 0, none⟩) P 1, .slice (some ⟨hb, 0, none⟩) P 1] ⟨nx, b⟩ = some (.bool true, H') ∧ nx ≤ H'.next ∧ (∀ j, j < nx → lookB H'.bs j = lookB b j) ∧ MI H' := by
  have kp := kpSH
  simp only [Prod.mk.injEq] at kp
  obtain ⟨kp1, kp2⟩ := kp
  have hD : decrK b = true := hM.1
  have ra := lookB_roB_cells _ _ _ _ hA hD
  have rb := lookB_roB_cells _ _ _ _ hB hD
  have nw := newOnes_ro b nx hM.2
  simp only [evFn, Try.f35]
  simp [ec_skip, ec_label, ek_reg, ek_draw, ek_seq, ec_cond, ek_block, ec_loop, ec_exit, ec_ret, ec_scope, ek_nil, ek_op, opK_some, regK_some, seqK_normal, seqK_exit, seqK_ret, blockK_normal, blockK_exit, blockK_ret, evOp, vOp, hOpB, hOpU, hOp, hOpT, aAppendG_tab, aWanted, aYielded, opd, putT, closedV, aBin, intOp, sameK, mapO, joinR, hasAddr, boundOf, pushB, aAlloc, Value.cells, lookB, setB, Nat.beq_eq, tm_n_set, tm_get_set, tm_of_n, tm_of_get, tm_tr_set, tm_tr_of, cellV, putF, appR_eq, takeR_eq, dropR_eq, setR_eq, getR_eq, ↓C75, ↓C76, ↓C77, ↓C79, ↓C17, ↓C18, ↓C22, ↓C71, FA24_0, FA24_1, FA24_2, FA24_3, FA24_4, FA24_5, FA24_6, FA24_7, FA24_8, LD3, LD4, LD22, LD27, LDr, LD24, LEN22, IA22, tkc, cellAt, ↓LENh]
  generalize hr : evLoop _ _ _ _ = r
  obtain ⟨y, A', H', rfl, rfl, hl, hmk, t0, t1, rfl⟩ := loop_go (Q := QSH ha hb P ⟨nx, b⟩) hr (ISH ha hb P ⟨nx, b⟩) P (by omega) ⟨0, by omega, rfl, rfl, rfl, rfl, rfl, rfl⟩ (by
    clear hr
    rintro m A H' ⟨i, him, hl, hmk, h5, h0, h1, rfl⟩
    simp only [runC]
    cases m with
    | zero =>
      have hi : ¬ i < P := by omega
      simp [ec_skip, ec_label, ek_reg, ek_draw, ek_seq, ec_cond, ek_block, ec_loop, ec_exit, ec_ret, ec_scope, ek_nil, ek_op, opK_some, regK_some, seqK_normal, seqK_exit, seqK_ret, blockK_normal, blockK_exit, blockK_ret, evOp, vOp, hOpB, hOpU, hOp, hOpT, aAppendG_tab, aWanted, aYielded, opd, putT, closedV, aBin, intOp, sameK, mapO, joinR, hasAddr, boundOf, pushB, aAlloc, Value.cells, lookB, setB, Nat.beq_eq, tm_n_set, tm_get_set, tm_of_n, tm_of_get, tm_tr_set, tm_tr_of, cellV, putF, appR_eq, takeR_eq, dropR_eq, setR_eq, getR_eq, ↓C75, ↓C76, ↓C77, ↓C79, ↓C17, ↓C18, ↓C22, ↓C71, FA24_0, FA24_1, FA24_2, FA24_3, FA24_4, FA24_5, FA24_6, FA24_7, FA24_8, LD3, LD4, LD22, LD27, LDr, LD24, LEN22, IA22, tkc, cellAt, LENh, hl, hmk, h5, h0, h1, hi, undef]
      exact .inr ⟨by simp, rfl, by simp [tm_n_set, hl], rfl, by simp [tm_get_set, tm_n_set, hl, h0], by simp [tm_get_set, tm_n_set, hl, h1], rfl⟩
    | succ m =>
      have hi : i < P := by omega
      have hw : wrapI .i64 ((i : Int) + 1) = ((i + 1 : Nat) : Int) := by rw [wrapI_small (by omega) (by omega)]; rfl
      have pa := IXh ha P i hi
      have pb := IXh hb P i hi
      have l1 := hvL_at b1 R hi
      have l2 := hvL_at b2 R hi
      have n1 := hvL_len b1 R P
      have n2 := hvL_len b2 R P
      have hq := hE i hi
      simp [ec_skip, ec_label, ek_reg, ek_draw, ek_seq, ec_cond, ek_block, ec_loop, ec_exit, ec_ret, ec_scope, ek_nil, ek_op, opK_some, regK_some, seqK_normal, seqK_exit, seqK_ret, blockK_normal, blockK_exit, blockK_ret, evOp, vOp, hOpB, hOpU, hOp, hOpT, aAppendG_tab, aWanted, aYielded, opd, putT, closedV, aBin, intOp, sameK, mapO, joinR, hasAddr, boundOf, pushB, aAlloc, Value.cells, lookB, setB, Nat.beq_eq, tm_n_set, tm_get_set, tm_of_n, tm_of_get, tm_tr_set, tm_tr_of, cellV, putF, appR_eq, takeR_eq, dropR_eq, setR_eq, getR_eq, ↓C75, ↓C76, ↓C77, ↓C79, ↓C17, ↓C18, ↓C22, ↓C71, FA24_0, FA24_1, FA24_2, FA24_3, FA24_4, FA24_5, FA24_6, FA24_7, FA24_8, LD3, LD4, LD22, LD27, LDr, LD24, LEN22, IA22, tkc, cellAt, LENh, hl, hmk, h5, h0, h1, hi, undef]
      generalize hX : evDrawX _ _ _ _ _ = X
      obtain ⟨tm, rfl, hn', t27, t5, t0, t1⟩ := draw_ro (Pt := fun tm => tm.get 27 = .bool false ∧ tm.get 5 = .int .i64 (i : Int) ∧ tm.get 0 = .slice (some ⟨ha, 0, none⟩) P 1 ∧ tm.get 1 = .slice (some ⟨hb, 0, none⟩) P 1) hX (by kernel_rfl) hM.1 (by
        clear hX
        generalize befs _ = M
        generalize hvL b1 R P = L1 at *
        generalize hvL b2 R P = L2 at *
        have g1 : ∀ h : i < L1.length, L1[i] = lstV (b1 i) (R i) := fun h => by
          rw [List.getElem?_eq_getElem h] at l1; exact Option.some.inj l1
        have g2 : ∀ h : i < L2.length, L2[i] = lstV (b2 i) (R i) := fun h => by
          rw [List.getElem?_eq_getElem h] at l2; exact Option.some.inj l2
        simp [mapO, drRun, drOp, dr3, looks, guardT, tmpsOf, Op.operands, Call.operands, wantedR, gOf, finT, natMem, isNil, writesF, evOp, vOp, hOpB, hOpU, hOp, hOpT, aAppendG_tab, opd, closedV, aBin, intOp, sameK, opdO, boundOf, undef, lookB, Nat.beq_eq, tm_n_set, tm_get_set, tm_of_n, tm_of_get, tm_tr_set, tm_tr_of, b02, b12, b32, ↓G75, W75, ↓G76, W76, ↓G77, W77, ↓G79, W79, ↓G17, W17, ↓G18, W18, ↓G22, W22, ↓G71, W71, tv, all1, roB, roK, news, newOnes, decr, tkc, cellAt, LD3, LD4, LD22, LD27, LDr, LD24, LEN22, IA22, ↓GeqA, WeqA, hl, h5, h0, h1, pa, pb, l1, l2, g1, g2, n1, n2, hi, ra, rb, nw, hq, Nat.ble_eq]
        refine ⟨by simp [dynOK, b02, b12, b32, b03, b13, b23], by simp [wheap, news, b02, b12, b32, b03, b13, b23]⟩)
      clear hX
      simp [tm_n_set, hl] at hn'
      simp [ec_skip, ec_label, ek_reg, ek_draw, ek_seq, ec_cond, ek_block, ec_loop, ec_exit, ec_ret, ec_scope, ek_nil, ek_op, opK_some, regK_some, seqK_normal, seqK_exit, seqK_ret, blockK_normal, blockK_exit, blockK_ret, evOp, vOp, hOpB, hOpU, hOp, hOpT, aAppendG_tab, aWanted, aYielded, opd, putT, closedV, aBin, intOp, sameK, mapO, joinR, hasAddr, boundOf, pushB, aAlloc, Value.cells, lookB, setB, Nat.beq_eq, tm_n_set, tm_get_set, tm_of_n, tm_of_get, tm_tr_set, tm_tr_of, cellV, putF, appR_eq, takeR_eq, dropR_eq, setR_eq, getR_eq, ↓C75, ↓C76, ↓C77, ↓C79, ↓C17, ↓C18, ↓C22, ↓C71, FA24_0, FA24_1, FA24_2, FA24_3, FA24_4, FA24_5, FA24_6, FA24_7, FA24_8, LD3, LD4, LD22, LD27, LDr, LD24, LEN22, IA22, tkc, cellAt, hmk, hn', t27, t5, t0, t1]
      refine ⟨_, _, _, ⟨rfl, rfl, rfl⟩, .inl ⟨rfl, m, rfl, i + 1, by omega, ?_⟩⟩
      simp [tm_get_set, tm_n_set, hn', t5, t0, t1, hw])
  simp [ec_skip, ec_label, ek_reg, ek_draw, ek_seq, ec_cond, ek_block, ec_loop, ec_exit, ec_ret, ec_scope, ek_nil, ek_op, opK_some, regK_some, seqK_normal, seqK_exit, seqK_ret, blockK_normal, blockK_exit, blockK_ret, evOp, vOp, hOpB, hOpU, hOp, hOpT, aAppendG_tab, aWanted, aYielded, opd, putT, closedV, aBin, intOp, sameK, mapO, joinR, hasAddr, boundOf, pushB, aAlloc, Value.cells, lookB, setB, Nat.beq_eq, tm_n_set, tm_get_set, tm_of_n, tm_of_get, tm_tr_set, tm_tr_of, cellV, putF, appR_eq, takeR_eq, dropR_eq, setR_eq, getR_eq, ↓C75, ↓C76, ↓C77, ↓C79, ↓C17, ↓C18, ↓C22, ↓C71, FA24_0, FA24_1, FA24_2, FA24_3, FA24_4, FA24_5, FA24_6, FA24_7, FA24_8, LD3, LD4, LD22, LD27, LDr, LD24, LEN22, IA22, tkc, cellAt, LENh, hl, hmk, t0, t1, finF, takeM, resV, cleanedG, hasAddr, kp1, kp2]
  exact ⟨fun j hj => look_below _ _ _ hj, hM.sub (below_sub _ _) (Nat.le_refl _)⟩


end

section
set_option linter.unusedSimpArgs false
set_option linter.unusedVariables false

noncomputable def lcS : Code := ((Try.f11.body.map loopsA).getD []).getD 0 .skip
def TSh (M ha hc P d o : Nat) (A : AF) : Prop := A.tm.n = 155 ∧ A.marks = [] ∧ A.tm.get 3 = .int .i64 (d : Int) ∧ A.tm.get 4 = .int .i64 (o : Int) ∧ A.tm.get 11 = .pointer (some ⟨M, 0, none⟩) ∧ A.tm.get 14 = .slice (some ⟨ha, 0, none⟩) P 1 ∧ A.tm.get 22 = .slice (some ⟨hc, 0, none⟩) P 1
noncomputable def IShf (M ha hc P d o : Nat) (H0 : AH) (m : Nat) (A : AF) (H : AH) : Prop := ∃ (i : Nat), i + m = P ∧ TSh M ha hc P d o A ∧ A.tm.get 26 = .int .i64 (i : Int) ∧ H = H0
noncomputable def QShf (H0 : AH) (y : AX) (A' : AF) (H : AH) : Prop := y = .exit 0 ∧ A'.tm.n = 155 ∧ A'.marks = [] ∧ H = H0
set_option maxRecDepth 10000 in
set_option maxHeartbeats 8000000 in
theorem shift_loop {L : Nat} (call : Value → List Value → AH → Option (Value × AH)) {M ha hc P d o nx : Nat} {b : List (Nat × ABlk)} (s : SV) (u1 u8 : Value) (hP : 3 ≤ P ∧ P ≤ 4) (hsp : s.p = P) (hd : d < P) (ho : o < P) (hM : MI ⟨nx, b⟩) (hbox : lookB b M = some (.cells false [.int .i64 s.p, u1, .int .i64 s.w, .int .i64 s.d, .int .i64 s.f, .int .i64 s.c, .int .i64 s.m, .int .i64 s.de, u8])) {b1 b3 : Nat → Nat} {R1 R3 : Nat → List Int} (hA : lookB b ha = some (.cells false (hvL b1 R1 P))) (hC : lookB b hc = some (.cells false (hvL b3 R3 P)))
    (hE : ∀ i, i < P → call (.func (.func 22) #[] #[]) [lstV (b1 ((d + i) % P)) (R1 ((d + i) % P)), lstV (b3 ((o + i) % P)) (R3 ((o + i) % P))] ⟨nx, roB b⟩ = some (.bool true, ⟨nx, roB b⟩))
    (A : AF) (hT : TSh M ha hc P d o A) (h26 : A.tm.get 26 = .int .i64 0) :
    ∃ y A' H', evLoop (runC (tabT Try.prog) call (L + 300) 11 none lcS) (L + 300) A ⟨nx, b⟩ = some (y, A', H') ∧ QShf ⟨nx, b⟩ y A' H' := by
  have hD : decrK b = true := hM.1
  have ra := lookB_roB_cells _ _ _ _ hA hD
  have rc := lookB_roB_cells _ _ _ _ hC hD
  have rx := lookB_roB_cells _ _ _ _ hbox hD
  have nw := newOnes_ro b nx hM.2
  rw [hsp] at rx hbox
  generalize hr : evLoop _ _ _ _ = r'
  refine loop_go (Q := QShf ⟨nx, b⟩) hr (IShf M ha hc P d o ⟨nx, b⟩) P (by omega) ⟨0, by omega, hT, h26, rfl⟩ ?_
  clear hr hT h26
  rintro m A H' ⟨i, him, ⟨hl, hmk, t3, t4, t11, t14, t22⟩, t26, rfl⟩
  simp only [lcS, Try.f11, Option.map_some, loopsA, List.nil_append, List.append_nil, List.cons_append, Option.getD_some, List.getD_cons_zero, runC]
  cases m with
  | zero =>
    have hi : ¬ i < P := by omega
    simp [ec_skip, ec_label, ek_reg, ek_draw, ek_seq, ec_cond, ek_block, ec_loop, ec_exit, ec_ret, ec_scope, ek_nil, ek_op, opK_some, regK_some, seqK_normal, seqK_exit, seqK_ret, blockK_normal, blockK_exit, blockK_ret, evOp, vOp, hOpB, hOpU, hOp, hOpT, aAppendG_tab, aWanted, aYielded, opd, putT, closedV, aBin, intOp, sameK, mapO, joinR, hasAddr, boundOf, pushB, aAlloc, Value.cells, lookB, setB, Nat.beq_eq, tm_n_set, tm_get_set, tm_of_n, tm_of_get, tm_tr_set, tm_tr_of, cellV, putF, appR_eq, takeR_eq, dropR_eq, setR_eq, getR_eq, ↓C75, ↓C76, ↓C77, ↓C79, ↓C17, ↓C18, ↓C22, ↓C71, FA24_0, FA24_1, FA24_2, FA24_3, FA24_4, FA24_5, FA24_6, FA24_7, FA24_8, LD3, LD4, LD22, LD27, LDr, LD24, LEN22, IA22, tkc, cellAt, hl, hmk, t3, t4, t11, t14, t22, t26, hi, hbox]
    exact .inr ⟨by simp, rfl, by simp [tm_n_set, hl], rfl, rfl⟩
  | succ m =>
    have hi : i < P := by omega
    have w2 : wrapI .i64 ((i : Int) + 1) = ((i + 1 : Nat) : Int) := by rw [wrapI_small (by omega) (by omega)]; rfl
    have p0n : ¬ P = 0 := by omega
    obtain ⟨σ, hσe⟩ : ∃ σ, σ = (d + i) % P := ⟨_, rfl⟩
    have hσ : σ < P := by rw [hσe]; exact Nat.mod_lt _ (by omega)
    obtain ⟨τ, hτe⟩ : ∃ τ, τ = (o + i) % P := ⟨_, rfl⟩
    have hτ : τ < P := by rw [hτe]; exact Nat.mod_lt _ (by omega)
    have wd : wrapI .i64 ((d : Int) + (i : Int)) = (d : Int) + (i : Int) := wrapI_small (by omega) (by omega)
    have wo : wrapI .i64 ((o : Int) + (i : Int)) = (o : Int) + (i : Int) := wrapI_small (by omega) (by omega)
    have rmd : ((d : Int) + (i : Int)).tmod (P : Int) = (σ : Int) := by rw [hσe, ← Int.natCast_add]; exact (Int.ofNat_tmod (d + i) P).symm
    have rmo : ((o : Int) + (i : Int)).tmod (P : Int) = (τ : Int) := by rw [hτe, ← Int.natCast_add]; exact (Int.ofNat_tmod (o + i) P).symm
    have rmw : wrapI .i64 (σ : Int) = (σ : Int) := wrapI_small (by omega) (by omega)
    have rmv : wrapI .i64 (τ : Int) = (τ : Int) := wrapI_small (by omega) (by omega)
    have hq := hE i hi
    rw [← hσe, ← hτe] at hq
    have pa := IXh ha P σ hσ
    have pb := IXh hc P τ hτ
    have l1 := hvL_at b1 R1 hσ
    have l2 := hvL_at b3 R3 hτ
    have n1 := hvL_len b1 R1 P
    have n2 := hvL_len b3 R3 P
    simp [ec_skip, ec_label, ek_reg, ek_draw, ek_seq, ec_cond, ek_block, ec_loop, ec_exit, ec_ret, ec_scope, ek_nil, ek_op, opK_some, regK_some, seqK_normal, seqK_exit, seqK_ret, blockK_normal, blockK_exit, blockK_ret, evOp, vOp, hOpB, hOpU, hOp, hOpT, aAppendG_tab, aWanted, aYielded, opd, putT, closedV, aBin, intOp, sameK, mapO, joinR, hasAddr, boundOf, pushB, aAlloc, Value.cells, lookB, setB, Nat.beq_eq, tm_n_set, tm_get_set, tm_of_n, tm_of_get, tm_tr_set, tm_tr_of, cellV, putF, appR_eq, takeR_eq, dropR_eq, setR_eq, getR_eq, ↓C75, ↓C76, ↓C77, ↓C79, ↓C17, ↓C18, ↓C22, ↓C71, FA24_0, FA24_1, FA24_2, FA24_3, FA24_4, FA24_5, FA24_6, FA24_7, FA24_8, LD3, LD4, LD22, LD27, LDr, LD24, LEN22, IA22, tkc, cellAt, hl, hmk, t3, t4, t11, t14, t22, t26, hi, hbox]
    generalize hX : evDrawX _ _ _ _ _ = X
    obtain ⟨tm, rfl, hn', t153, v26, v3, v4, v11, v14, v22⟩ := draw_ro (Pt := fun tm => tm.get 153 = .bool false ∧ tm.get 26 = .int .i64 (i : Int) ∧ tm.get 3 = .int .i64 (d : Int) ∧ tm.get 4 = .int .i64 (o : Int) ∧ tm.get 11 = .pointer (some ⟨M, 0, none⟩) ∧ tm.get 14 = .slice (some ⟨ha, 0, none⟩) P 1 ∧ tm.get 22 = .slice (some ⟨hc, 0, none⟩) P 1) hX (by kernel_rfl) hM.1 (by
      clear hX
      generalize befs _ = MM
      generalize hvL b1 R1 P = L1 at *
      generalize hvL b3 R3 P = L2 at *
      have g1 : ∀ h : σ < L1.length, L1[σ] = lstV (b1 σ) (R1 σ) := fun h => by
        rw [List.getElem?_eq_getElem h] at l1; exact Option.some.inj l1
      have g2 : ∀ h : τ < L2.length, L2[τ] = lstV (b3 τ) (R3 τ) := fun h => by
        rw [List.getElem?_eq_getElem h] at l2; exact Option.some.inj l2
      simp [mapO, drRun, drOp, dr3, looks, guardT, tmpsOf, Op.operands, Call.operands, wantedR, gOf, finT, natMem, isNil, writesF, evOp, vOp, hOpB, hOpU, hOp, hOpT, aAppendG_tab, opd, closedV, aBin, intOp, sameK, opdO, boundOf, undef, lookB, Nat.beq_eq, tm_n_set, tm_get_set, tm_of_n, tm_of_get, tm_tr_set, tm_tr_of, b02, b12, b32, ↓G75, W75, ↓G76, W76, ↓G77, W77, ↓G79, W79, ↓G17, W17, ↓G18, W18, ↓G22, W22, ↓G71, W71, tv, all1, roB, roK, news, newOnes, decr, tkc, cellAt, LD3, LD4, LD22, LD27, LDr, LD24, LEN22, IA22, FA24_0, FA24_1, FA24_2, FA24_3, FA24_4, FA24_5, FA24_6, FA24_7, FA24_8, hasR, hasR_ro, ↓GeqA, WeqA, hl, t3, t4, t11, t14, t22, t26, pa, pb, l1, l2, g1, g2, n1, n2, hi, hσ, hτ, ra, rc, rx, nw, hq, wd, wo, p0n, rmd, rmo, rmw, rmv, Nat.ble_eq]
      refine ⟨by simp [dynOK, b02, b12, b32, b03, b13, b23], by simp [wheap, news, b02, b12, b32, b03, b13, b23]⟩)
    clear hX
    simp [tm_n_set, hl] at hn'
    simp [ec_skip, ec_label, ek_reg, ek_draw, ek_seq, ec_cond, ek_block, ec_loop, ec_exit, ec_ret, ec_scope, ek_nil, ek_op, opK_some, regK_some, seqK_normal, seqK_exit, seqK_ret, blockK_normal, blockK_exit, blockK_ret, evOp, vOp, hOpB, hOpU, hOp, hOpT, aAppendG_tab, aWanted, aYielded, opd, putT, closedV, aBin, intOp, sameK, mapO, joinR, hasAddr, boundOf, pushB, aAlloc, Value.cells, lookB, setB, Nat.beq_eq, tm_n_set, tm_get_set, tm_of_n, tm_of_get, tm_tr_set, tm_tr_of, cellV, putF, appR_eq, takeR_eq, dropR_eq, setR_eq, getR_eq, ↓C75, ↓C76, ↓C77, ↓C79, ↓C17, ↓C18, ↓C22, ↓C71, FA24_0, FA24_1, FA24_2, FA24_3, FA24_4, FA24_5, FA24_6, FA24_7, FA24_8, LD3, LD4, LD22, LD27, LDr, LD24, LEN22, IA22, tkc, cellAt, hmk, hn', t153, v26, v3, v4, v11, v14, v22]
    refine ⟨_, _, _, ⟨rfl, rfl, rfl⟩, .inl ⟨rfl, m, rfl, i + 1, by omega, ⟨by simp [tm_n_set, hn'], by first | rfl | simp [hmk], by simp [tm_get_set, tm_n_set, hn', v3], by simp [tm_get_set, tm_n_set, hn', v4], by simp [tm_get_set, tm_n_set, hn', v11], by simp [tm_get_set, tm_n_set, hn', v14], by simp [tm_get_set, tm_n_set, hn', v22]⟩, by simp [tm_get_set, tm_n_set, hn', v26, w2], rfl⟩⟩


end

section
set_option linter.unusedSimpArgs false
set_option linter.unusedVariables false

theorem Lst.keep {bs bs2 : List (Nat × ABlk)} {u : Value} {n : Nat} {g : Nat → Int} (h : Lst bs u n g) {N : Nat} (hb : ∀ p ∈ bs, p.1 < N) (hk : ∀ j, j < N → lookB bs2 j = lookB bs j) : Lst bs2 u n g := by
  rcases h with h | ⟨a, ro, cs, h1, h2, h3, h4⟩
  · exact .inl h
  · have : a < N := hb _ (lookB_mem h2)
    exact .inr ⟨a, ro, cs, h1, by rw [hk a this]; exact h2, h3, h4⟩
theorem partL_congr {T T' : Nat → Int} {n tk k : Nat} (hT : ∀ j, j < n → T j = T' j) (h : tk + k ≤ n) : partL T tk k = partL T' tk k := by
  unfold partL
  refine List.map_congr_left fun j hj => ?_
  have := List.mem_range.1 hj
  rw [hT (tk + j) (by omega)]
theorem rndH_congr {T T' : Nat → Int} {n : Nat} (hT : ∀ j, j < n → T j = T' j) (d P k : Nat) : ∀ (m i tk : Nat) (hs : Nat → List Int), tk + m * k ≤ n → rndH T d P k m i tk hs = rndH T' d P k m i tk hs
  | 0, _, _, _, _ => rfl
  | m + 1, i, tk, hs, h => by
    have e : (m + 1) * k = m * k + k := Nat.succ_mul m k
    simp only [rndH]
    rw [partL_congr hT (by omega), rndH_congr hT d P k m (i + 1) (tk + k) _ (by omega)]
theorem dealH_go {T : Nat → Int} {d P F has : Nat} {hs : Nat → List Int} (h : has < F) : dealH T d P F has hs = dealH T d P F (has + stp F has) (rndH T d P (stp F has) P 0 (P * has) hs) := by
  rw [dealH, dif_pos h]
theorem dealH_end {T : Nat → Int} {d P F has : Nat} {hs : Nat → List Int} (h : ¬ has < F) : dealH T d P F has hs = hs := by
  rw [dealH, dif_neg h]
theorem dealH_congr {T T' : Nat → Int} {n : Nat} (hT : ∀ j, j < n → T j = T' j) (d P F : Nat) (hn : P * F ≤ n) : ∀ (m has : Nat) (hs : Nat → List Int), F - has ≤ m → dealH T d P F has hs = dealH T' d P F has hs
  | 0, has, hs, h => by
    have h1 : ¬ has < F := by omega
    rw [dealH_end h1, dealH_end h1]
  | m + 1, has, hs, h => by
    by_cases h1 : has < F
    · have hs1 := stp_pos F has
      have hs2 := stp_le h1
      have hPk : P * (has + stp F has) = P * has + P * stp F has := Nat.mul_add P has _
      have hle : P * (has + stp F has) ≤ P * F := Nat.mul_le_mul_left _ hs2
      rw [dealH_go h1, dealH_go h1, rndH_congr hT d P _ P 0 (P * has) hs (by omega), dealH_congr hT d P F hn m _ _ (by omega)]
    · rw [dealH_end h1, dealH_end h1]
theorem mod_one {P d i j : Nat} (hP : 3 ≤ P ∧ P ≤ 4) (hd : d < P) (hi : i < P) (hj : j < P) (h : (d + i) % P = (d + j) % P) : i = j := by
  rcases (by omega : P = 3 ∨ P = 4) with rfl | rfl <;> omega
/-- Two rows of hands, each from its dealer on. -/
def Shf (d o P : Nat) (hs hs' : Nat → List Int) : Prop := ∀ i, i < P → hs ((d + i) % P) = hs' ((o + i) % P)
theorem rndH_shf (T : Nat → Int) {d o P : Nat} (hP : 3 ≤ P ∧ P ≤ 4) (hd : d < P) (ho : o < P) (k : Nat) : ∀ (m i tk : Nat) (hs hs' : Nat → List Int), i + m ≤ P → Shf d o P hs hs' → Shf d o P (rndH T d P k m i tk hs) (rndH T o P k m i tk hs')
  | 0, _, _, _, _, _, h => h
  | m + 1, i, tk, hs, hs', hi, h => by
    simp only [rndH]
    refine rndH_shf T hP hd ho k m (i + 1) (tk + k) _ _ (by omega) fun j hj => ?_
    have hiP : i < P := by omega
    unfold updL
    by_cases e : j = i
    · subst e
      rw [if_pos rfl, if_pos rfl, h j hj]
    · rw [if_neg fun x => e (mod_one hP hd hj hiP x), if_neg fun x => e (mod_one hP ho hj hiP x)]
      exact h j hj
theorem dealH_shf (T : Nat → Int) {d o P : Nat} (hP : 3 ≤ P ∧ P ≤ 4) (hd : d < P) (ho : o < P) (F : Nat) : ∀ (m has : Nat) (hs hs' : Nat → List Int), F - has ≤ m → Shf d o P hs hs' → Shf d o P (dealH T d P F has hs) (dealH T o P F has hs')
  | 0, has, hs, hs', h, hq => by
    have h1 : ¬ has < F := by omega
    rw [dealH_end h1, dealH_end h1]
    exact hq
  | m + 1, has, hs, hs', h, hq => by
    by_cases h1 : has < F
    · have hs1 := stp_pos F has
      rw [dealH_go h1, dealH_go h1]
      exact dealH_shf T hP hd ho F m _ _ _ (by omega) (rndH_shf T hP hd ho _ P 0 _ _ _ (by omega) hq)
    · rw [dealH_end h1, dealH_end h1]
      exact hq
theorem rndH_len (T : Nat → Int) (d P k : Nat) : ∀ (m i tk : Nat) (hs : Nat → List Int) (B : Nat), (∀ j, (hs j).length ≤ B) → ∀ j, (rndH T d P k m i tk hs j).length ≤ B + m * k
  | 0, _, _, _, B, h, j => by simpa [rndH] using h j
  | m + 1, i, tk, hs, B, h, j => by
    have e : (m + 1) * k = m * k + k := Nat.succ_mul m k
    simp only [rndH]
    have := rndH_len T d P k m (i + 1) (tk + k) (updL hs ((d + i) % P) (hs ((d + i) % P) ++ partL T tk k)) (B + k) (fun j => by
      unfold updL
      split
      · rw [List.length_append, partL_len]
        have := h ((d + i) % P)
        omega
      · have := h j
        omega) j
    omega
theorem dealH_len (T : Nat → Int) (d P F : Nat) : ∀ (m has : Nat) (hs : Nat → List Int), F - has ≤ m → (∀ j, (hs j).length ≤ P * has) → has ≤ F → ∀ j, (dealH T d P F has hs j).length ≤ P * F
  | 0, has, hs, h, hq, hF, j => by
    have h1 : ¬ has < F := by omega
    have e : has = F := by omega
    rw [dealH_end h1, ← e]
    exact hq j
  | m + 1, has, hs, h, hq, hF, j => by
    by_cases h1 : has < F
    · have hs1 := stp_pos F has
      have hs2 := stp_le h1
      have hPk : P * (has + stp F has) = P * has + P * stp F has := Nat.mul_add P has _
      rw [dealH_go h1]
      exact dealH_len T d P F m _ _ (by omega) (fun j => by rw [hPk]; exact rndH_len T d P _ P 0 _ hs _ hq j) hs2 j
    · have e : has = F := by omega
      rw [dealH_end h1, ← e]
      exact hq j
theorem rot_zero (g : Nat → Int) {n j : Nat} (h : j < n) : rotF g n 0 j = g j := by
  unfold rotF
  rw [if_pos (by omega), Nat.zero_add]


end

section
set_option linter.unusedSimpArgs false
set_option linter.unusedVariables false

theorem NwallS : ((tabT Try.prog) 24).map (fun z => z.ex.nat 39) = some none := by kernel_rfl
theorem CwallS (call : Value → List Value → AH → Option (Value × AH)) {tm : Tm} {i j : Nat} {H : AH} {d : Option Tmp} {t : TypeId} {p : String} {a : Array Edge} {gd : Option (Nat × Bool)} : evOp (tabT Try.prog) call ⟨d, .call ⟨.value (.func 39), #[.tmp i, .tmp j], #[24, 48]⟩, t, p, a, gd⟩ (opd tm) H = call (.func (.func 39) #[] #[]) [tm.get i, tm.get j] H :=
  evOp_evO.trans (eo_call2n rfl rfl rfl NwallS)
theorem NintoS : ((tabT Try.prog) 3).map (fun z => z.ex.nat 42) = some none := by kernel_rfl
theorem GintoS (call : Value → List Value → AH → Option (Value × AH)) {tm : Tm} {rs : List DR} {ts : List Nat} {i j : Nat} {H : AH} {d : Option Tmp} {t : TypeId} {p : String} {a : Array Edge} {gd : Option (Nat × Bool)} (hi : natMem ts i = true) (hj : natMem ts j = true) : evOp (tabT Try.prog) call ⟨d, .call ⟨.value (.func 42), #[.tmp i, .tmp j], #[3, 3]⟩, t, p, a, gd⟩ (gOf tm rs ts) H = call (.func (.func 42) #[] #[]) [(finT tm rs).get i, (finT tm rs).get j] H :=
  evOp_evO.trans (eo_call2n rfl (by simp only [gOf, hi, if_true]) (by simp only [gOf, hj, if_true]) NintoS)
theorem WintoS : wrT 42 = false := by kernel_rfl
theorem NsameS : ((tabT Try.prog) 43).map (fun z => z.ex.nat 35) = some none := by kernel_rfl
theorem CsameS (call : Value → List Value → AH → Option (Value × AH)) {tm : Tm} {i j : Nat} {H : AH} {d : Option Tmp} {t : TypeId} {p : String} {a : Array Edge} {gd : Option (Nat × Bool)} : evOp (tabT Try.prog) call ⟨d, .call ⟨.value (.func 35), #[.tmp i, .tmp j], #[43, 43]⟩, t, p, a, gd⟩ (opd tm) H = call (.func (.func 35) #[] #[]) [tm.get i, tm.get j] H :=
  evOp_evO.trans (eo_call2n rfl rfl rfl NsameS)
theorem CdealS (call : Value → List Value → AH → Option (Value × AH)) {tm : Tm} {i j k l : Nat} {H : AH} {d : Option Tmp} {t : TypeId} {p : String} {a : Array Edge} {gd : Option (Nat × Bool)} : evOp (tabT Try.prog) call ⟨d, .call ⟨.value (.func 33), #[.tmp i, .tmp j, .tmp k, .tmp l], #[24, 22, 3, 3]⟩, t, p, a, gd⟩ (opd tm) H = call (.func (.func 33) #[] #[]) [tm.get i, tm.get j, tm.get k, tm.get l] H :=
  evOp_evO.trans (eo_call4 rfl rfl rfl rfl rfl)
theorem CdealZ (call : Value → List Value → AH → Option (Value × AH)) {tm : Tm} {i j l : Nat} {H : AH} {d : Option Tmp} {t : TypeId} {p : String} {a : Array Edge} {gd : Option (Nat × Bool)} : evOp (tabT Try.prog) call ⟨d, .call ⟨.value (.func 33), #[.tmp i, .tmp j, .const (.int .i64 0), .tmp l], #[24, 22, 3, 3]⟩, t, p, a, gd⟩ (opd tm) H = call (.func (.func 33) #[] #[]) [tm.get i, tm.get j, .int .i64 0, tm.get l] H :=
  evOp_evO.trans (eo_call4 rfl rfl rfl rfl rfl)
theorem kgSh : kpT 11 = false := by kernel_rfl
theorem BS0 (H : AH) : aBuildSlice (tabT Try.prog) H 22 0 [] = some (.slice (some ⟨H.next, 0, none⟩) 0 1, pushB H (.cells false [])) := by kernel_rfl
theorem ap0 (H : AH) (a b : Option Addr) (m z y : Nat) : aAppend (tabT Try.prog) H 22 (.slice a m z) (.slice b 0 y) = some (.slice a m z, H) := by rw [AP22]; rfl
theorem apE_ro {q b a lo k m z : Nat} {B : List (Nat × ABlk)} (hk : 1 ≤ k) (hb : lookB B b = none ∨ ∃ cs, lookB B b = some (.cells true cs)) : aAppend (tabT Try.prog) ⟨q, B⟩ 22 (.slice (some ⟨b, 0, none⟩) m 1) (.slice (some ⟨a, lo, none⟩) k z) = none := by
  obtain ⟨k, rfl⟩ : ∃ j, k = j + 1 := ⟨k - 1, by omega⟩
  have hd : dstCells B (.slice (some ⟨b, 0, none⟩) m 1) 1 = none := by
    rcases hb with hb | ⟨cs, hb⟩ <;> simp [dstCells, hb]
  rw [AP22]
  simp only [sliceLen, hd]
  generalize srcCells _ _ _ = X
  cases X <;> rfl
theorem dead_lst {T : Nat → Int} {n de hb nx : Nat} {dv : Value} {bs : List (Nat × ABlk)} (h : (de = 0 ∧ dv = .slice none 0 0) ∨ (0 < de ∧ ∃ db, dv = .slice (some ⟨db, 0, none⟩) de 1 ∧ hb < db ∧ db < nx ∧ lookB bs db = some (.cells false (intsL (fun j => T (n - de + j)) de)))) :
    ∃ db, dv = lstV db (partL T (n - de) de) ∧ (partL T (n - de) de ≠ [] → hb < db ∧ db < nx ∧ lookB bs db = some (.cells false (intsV (partL T (n - de) de)))) := by
  rcases h with ⟨rfl, rfl⟩ | ⟨h0, db, rfl, h1, h2, h3⟩
  · exact ⟨0, rfl, fun h => absurd rfl h⟩
  · refine ⟨db, ?_, fun _ => ⟨h1, h2, ?_⟩⟩
    · rw [lstV_ne (partL_ne h0), partL_len]
    · rw [intsV_partL]; exact h3
set_option maxRecDepth 10000 in
set_option maxHeartbeats 8000000 in
theorem shifts_core {L : Nat} (call : Value → List Value → AH → Option (Value × AH)) (N0 N1 p M : Nat) (bs0 bs1 b1 : List (Nat × ABlk)) (u : Value) (sd k2 k3 k4 : Int) (s : SV) (u1 u8 : Value) (n P K D O F de : Nat) (w : Nat → Int)
    (hNS : call (.func (.func 37) #[] #[]) [u] ⟨N0, bs0⟩ = some (.pointer (some ⟨p, 0, none⟩), ⟨N1, bs1⟩))
    (hSO : call (.func (.func 36) #[] #[]) [.pointer (some ⟨p, 0, none⟩)] ⟨N1, bs1⟩ = some (.agg #[.int .i64 s.p, u1, .int .i64 s.w, .int .i64 s.d, .int .i64 s.f, .int .i64 s.c, .int .i64 s.m, .int .i64 s.de, u8], ⟨M, b1⟩))
    (hM : MI ⟨M, b1⟩) (f1 : FL N1 ⟨M, b1⟩ u1 s.n s.g) (f8 : FL N1 ⟨M, b1⟩ u8 s.k s.h) (hn1 : 1 ≤ n) (hn2 : n ≤ 144) (hK : K < n) (hP : 3 ≤ P ∧ P ≤ 4) (hsp : s.p = P) (hD : D < P) (hO : O < P) (hsz : P * F + 1 + de ≤ n)
    (hW : call (.func (.func 39) #[] #[]) [.agg #[.int .i64 s.p, u1, .int .i64 s.w, .int .i64 s.d, .int .i64 s.f, .int .i64 s.c, .int .i64 s.m, .int .i64 s.de, u8], .int .u64 sd] ⟨M + 1, (M, .cells false [.int .i64 s.p, u1, .int .i64 s.w, .int .i64 s.d, .int .i64 s.f, .int .i64 s.c, .int .i64 s.m, .int .i64 s.de, u8]) :: b1⟩ = some (.slice (some ⟨M + 1, 0, none⟩) n 1, ⟨M + 2, (M + 1, .cells false (intsL w n)) :: (M, .cells false [.int .i64 s.p, u1, .int .i64 s.w, .int .i64 s.d, .int .i64 s.f, .int .i64 s.c, .int .i64 s.m, .int .i64 s.de, u8]) :: b1⟩))
    (hI2 : ∀ H : AH, call (.func (.func 42) #[] #[]) [.int .i64 k2, .int .i64 (n : Int)] H = some (.int .i64 (K : Int), H))
    (hI3 : ∀ H : AH, call (.func (.func 42) #[] #[]) [.int .i64 k3, .int .i64 (P : Int)] H = some (.int .i64 (D : Int), H))
    (hI4 : ∀ H : AH, call (.func (.func 42) #[] #[]) [.int .i64 k4, .int .i64 (P : Int)] H = some (.int .i64 (O : Int), H))
    (hDl : ∀ (N a c d : Nat) (bs : List (Nat × ABlk)) (g : Nat → Int), (g = w ∨ g = rotF w n K) → MI ⟨N, bs⟩ → (∀ j, j < M + 1 → lookB bs j = lookB ((M, .cells false [.int .i64 s.p, u1, .int .i64 s.w, .int .i64 s.d, .int .i64 s.f, .int .i64 s.c, .int .i64 s.m, .int .i64 s.de, u8]) :: b1) j) → lookB bs a = some (.cells false (intsL g n)) → c < n → d < P → DealEnd N n P de (P * F) bs (rotF g n c) (dealH (rotF g n c) d P F 0 noHs) (call (.func (.func 33) #[] #[]) [.agg #[.int .i64 s.p, u1, .int .i64 s.w, .int .i64 s.d, .int .i64 s.f, .int .i64 s.c, .int .i64 s.m, .int .i64 s.de, u8], .slice (some ⟨a, 0, none⟩) n 1, .int .i64 (c : Int), .int .i64 (d : Int)] ⟨N, bs⟩))
    (hSame : ∀ (nx : Nat) (b : List (Nat × ABlk)) (ha hb : Nat) (c1 c2 : Nat → Nat) (R : Nat → List Int), MI ⟨nx, b⟩ → lookB b ha = some (.cells false (hvL c1 R P)) → lookB b hb = some (.cells false (hvL c2 R P)) → (∀ j, (R j).length ≤ 200) → (∀ j, j < P → R j ≠ [] → ¬ c2 j = c1 j ∧ lookB b (c1 j) = some (.cells false (intsV (R j))) ∧ lookB b (c2 j) = some (.cells false (intsV (R j)))) →
      ∃ H', call (.func (.func 35) #[] #[]) [.slice (some ⟨ha, 0, none⟩) P 1, .slice (some ⟨hb, 0, none⟩) P 1] ⟨nx, b⟩ = some (.bool true, H') ∧ nx ≤ H'.next ∧ (∀ j, j < nx → lookB H'.bs j = lookB b j) ∧ MI H')
    (hEq : ∀ (l : List Int) (a b : Nat) (H : AH) (ro ro2 : Bool), l.length ≤ 200 → (l ≠ [] → ¬ b = a) → (l ≠ [] → lookB H.bs a = some (.cells ro (intsV l))) → (l ≠ [] → lookB H.bs b = some (.cells ro2 (intsV l))) → call (.func (.func 22) #[] #[]) [lstV a l, lstV b l] H = some (.bool true, H))
    (hAw : ∀ H, ∃ H', call (.func (.func 27) #[] #[]) [] H = some (.bool true, H')) :
    ∃ H', evFn (tabT Try.prog) call (L + 300) kpT 11 Try.f11 [u, .int .u64 sd, .int .i64 k2, .int .i64 k3, .int .i64 k4] ⟨N0, bs0⟩ = some (.bool true, H') := by
  have kp := kgSh
  have own : ∀ cs : List Value, (ABlk.cells false cs).own = true := fun _ => rfl
  have v1 := f1.cv
  have v8 := f8.cv
  have hM1 : MI ⟨M + 1, (M, .cells false [.int .i64 s.p, u1, .int .i64 s.w, .int .i64 s.d, .int .i64 s.f, .int .i64 s.c, .int .i64 s.m, .int .i64 s.de, u8]) :: b1⟩ := hM.push _
  have hM2 : MI ⟨M + 2, (M + 1, .cells false (intsL w n)) :: (M, .cells false [.int .i64 s.p, u1, .int .i64 s.w, .int .i64 s.d, .int .i64 s.f, .int .i64 s.c, .int .i64 s.m, .int .i64 s.de, u8]) :: b1⟩ := hM1.push _
  have nw2 := newOnes_ro b1 (M + 2) (fun q hq => Nat.lt_of_lt_of_le (hM.2 q hq) (by show M ≤ M + 2; omega))
  have n0 : ¬ n = 0 := by omega
  have n0' : ¬ (n : Int) = 0 := by omega
  have bn : ((n : Int) == 0) = false := beq_eq_false_iff_ne.2 n0'
  have nle1 : ¬ M + 2 ≤ M := by omega
  have wt := (show decrK ((M + 1, .cells false (intsL w n)) :: (M, .cells false [.int .i64 s.p, u1, .int .i64 s.w, .int .i64 s.d, .int .i64 s.f, .int .i64 s.c, .int .i64 s.m, .int .i64 s.de, u8]) :: b1) = true from hM2.1)
  simp only [evFn, Try.f11]
  simp [ec_skip, ec_label, ek_reg, ek_draw, ek_seq, ec_cond, ek_block, ec_loop, ec_exit, ec_ret, ec_scope, ek_nil, ek_op, opK_some, regK_some, seqK_normal, seqK_exit, seqK_ret, blockK_normal, blockK_exit, blockK_ret, evOp, vOp, hOpB, hOpU, hOp, hOpT, aAppendG_tab, aWanted, aYielded, opd, putT, closedV, aBin, intOp, sameK, mapO, joinR, hasAddr, boundOf, pushB, aAlloc, Value.cells, lookB, setB, Nat.beq_eq, tm_n_set, tm_get_set, tm_of_n, tm_of_get, tm_tr_set, tm_tr_of, putF, appR_eq, takeR_eq, dropR_eq, setR_eq, getR_eq, ↓C75, ↓C76, ↓C77, ↓C79, ↓C17, ↓C18, ↓C22, ↓C71, FA24_0, FA24_1, FA24_2, FA24_3, FA24_4, FA24_5, FA24_6, FA24_7, FA24_8, LD3, LD4, LD22, LD27, LDr, LD24, LEN22, IA22, tkc, cellAt, ↓Cnews, hNS, ↓Csetof, hSO, ↓AL24, ST24, v1, v8, cvI, ↓CwallS, hW, n0, n0', bn]
  generalize hX : evDrawX _ _ _ _ _ = X
  obtain ⟨tm, rfl, hl, t2, t3, t4, t11, t12⟩ := draw_ro (Pt := fun tm => tm.get 2 = .int .i64 (K : Int) ∧ tm.get 3 = .int .i64 (D : Int) ∧ tm.get 4 = .int .i64 (O : Int) ∧ tm.get 11 = .pointer (some ⟨M, 0, none⟩) ∧ tm.get 12 = .slice (some ⟨M + 1, 0, none⟩) n 1) hX (by kernel_rfl) hM2.1 (by
    clear hX
    generalize befs _ = MM
    simp [mapO, drRun, drOp, dr3, looks, guardT, tmpsOf, Op.operands, Call.operands, wantedR, gOf, finT, natMem, isNil, writesF, evOp, vOp, hOpB, hOpU, hOp, hOpT, aAppendG_tab, opd, closedV, aBin, intOp, sameK, opdO, boundOf, undef, lookB, Nat.beq_eq, tm_n_set, tm_get_set, tm_of_n, tm_of_get, tm_tr_set, tm_tr_of, b02, b12, b32, ↓G75, W75, ↓G76, W76, ↓G77, W77, ↓G79, W79, ↓G17, W17, ↓G18, W18, ↓G22, W22, ↓G71, W71, tv, all1, roB, roK, news, newOnes, decr, tkc, cellAt, LD3, LD4, LD22, LD27, LDr, LD24, LEN22, IA22, FA24_0, FA24_1, FA24_2, FA24_3, FA24_4, FA24_5, FA24_6, FA24_7, FA24_8, hasR, hasR_ro, ↓GintoS, WintoS, hI2, hI3, hI4, hsp, nw2, nle1, Nat.ble_eq, Nat.blt_eq]
    refine ⟨by simp [dynOK, b02, b12, b32, b03, b13, b23], by simp [wheap, news, b02, b12, b32, b03, b13, b23]⟩)
  clear hX
  simp [tm_n_set, tm_of_n] at hl
  simp [ec_skip, ec_label, ek_reg, ek_draw, ek_seq, ec_cond, ek_block, ec_loop, ec_exit, ec_ret, ec_scope, ek_nil, ek_op, opK_some, regK_some, seqK_normal, seqK_exit, seqK_ret, blockK_normal, blockK_exit, blockK_ret, evOp, vOp, hOpB, hOpU, hOp, hOpT, aAppendG_tab, aWanted, aYielded, opd, putT, closedV, aBin, intOp, sameK, mapO, joinR, hasAddr, boundOf, pushB, aAlloc, Value.cells, lookB, setB, Nat.beq_eq, tm_n_set, tm_get_set, tm_of_n, tm_of_get, tm_tr_set, tm_tr_of, cellV, putF, appR_eq, takeR_eq, dropR_eq, setR_eq, getR_eq, ↓C75, ↓C76, ↓C77, ↓C79, ↓C17, ↓C18, ↓C22, ↓C71, FA24_0, FA24_1, FA24_2, FA24_3, FA24_4, FA24_5, FA24_6, FA24_7, FA24_8, LD3, LD4, LD22, LD27, LDr, LD24, LEN22, IA22, tkc, cellAt, hl, t2, t3, t4, t11, t12]
  generalize hX : evDrawX _ _ _ _ _ = X
  have six : ∃ tm vb, X = some (⟨tm, []⟩, ⟨vb + 1, (vb, .cells false (intsL (rotF w n K) n)) :: (M + 1, .cells false (intsL w n)) :: (M, .cells false [.int .i64 s.p, u1, .int .i64 s.w, .int .i64 s.d, .int .i64 s.f, .int .i64 s.c, .int .i64 s.m, .int .i64 s.de, u8]) :: b1⟩) ∧ M + 2 ≤ vb ∧ tm.n = 155 ∧ tm.get 2 = .int .i64 (K : Int) ∧ tm.get 3 = .int .i64 (D : Int) ∧ tm.get 4 = .int .i64 (O : Int) ∧ tm.get 11 = .pointer (some ⟨M, 0, none⟩) ∧ tm.get 12 = .slice (some ⟨M + 1, 0, none⟩) n 1 ∧ tm.get 13 = .slice (some ⟨vb, 0, none⟩) n 1 := by
    have w0 : lookB ((M + 1, .cells false (intsL w n)) :: (M, .cells false [.int .i64 s.p, u1, .int .i64 s.w, .int .i64 s.d, .int .i64 s.f, .int .i64 s.c, .int .i64 s.m, .int .i64 s.de, u8]) :: b1) (M + 1) = some (.cells false (intsL w n)) := by simp [lookB]
    have dk2 : ∀ cs, decrK ((M + 2, ABlk.cells false cs) :: (M + 1, .cells false (intsL w n)) :: (M, .cells false [.int .i64 s.p, u1, .int .i64 s.w, .int .i64 s.d, .int .i64 s.f, .int .i64 s.c, .int .i64 s.m, .int .i64 s.de, u8]) :: b1) = true := fun cs => (hM2.push (.cells false cs)).1
    have hM3 : MI ⟨M + 3, (M + 1, .cells false (intsL w n)) :: (M, .cells false [.int .i64 s.p, u1, .int .i64 s.w, .int .i64 s.d, .int .i64 s.f, .int .i64 s.c, .int .i64 s.m, .int .i64 s.de, u8]) :: b1⟩ := ⟨hM2.1, fun q hq => Nat.lt_succ_of_lt (hM2.2 q hq)⟩
    have hM4 : MI ⟨M + 4, (M + 1, .cells false (intsL w n)) :: (M, .cells false [.int .i64 s.p, u1, .int .i64 s.w, .int .i64 s.d, .int .i64 s.f, .int .i64 s.c, .int .i64 s.m, .int .i64 s.de, u8]) :: b1⟩ := ⟨hM2.1, fun q hq => Nat.lt_succ_of_lt (hM3.2 q hq)⟩
    have dk3 : ∀ cs, decrK ((M + 3, ABlk.cells false cs) :: (M + 1, .cells false (intsL w n)) :: (M, .cells false [.int .i64 s.p, u1, .int .i64 s.w, .int .i64 s.d, .int .i64 s.f, .int .i64 s.c, .int .i64 s.m, .int .i64 s.de, u8]) :: b1) = true := fun cs => (hM3.push (.cells false cs)).1
    have dk4 : ∀ cs, decrK ((M + 4, ABlk.cells false cs) :: (M + 1, .cells false (intsL w n)) :: (M, .cells false [.int .i64 s.p, u1, .int .i64 s.w, .int .i64 s.d, .int .i64 s.f, .int .i64 s.c, .int .i64 s.m, .int .i64 s.de, u8]) :: b1) = true := fun cs => (hM4.push (.cells false cs)).1
    have ln : ∀ x, M + 1 < x → lookB ((M + 1, .cells true (intsL w n)) :: (M, .cells true [.int .i64 s.p, u1, .int .i64 s.w, .int .i64 s.d, .int .i64 s.f, .int .i64 s.c, .int .i64 s.m, .int .i64 s.de, u8]) :: roB b1) x = none := fun x hx => by
      simp only [lookB]
      rw [if_neg (by rw [Nat.beq_eq]; omega), if_neg (by rw [Nat.beq_eq]; omega)]
      exact look_none b1 x (fun q hq => Nat.lt_trans (hM.2 q hq) (by show M < x; omega))
    have ln2 := ln (M + 2) (by omega)
    have db : ∀ x cs, M + 1 < x → dropB ((x, ABlk.cells false cs) :: (M + 1, .cells false (intsL w n)) :: (M, .cells false [.int .i64 s.p, u1, .int .i64 s.w, .int .i64 s.d, .int .i64 s.f, .int .i64 s.c, .int .i64 s.m, .int .i64 s.de, u8]) :: b1) x = (M + 1, .cells false (intsL w n)) :: (M, .cells false [.int .i64 s.p, u1, .int .i64 s.w, .int .i64 s.d, .int .i64 s.f, .int .i64 s.c, .int .i64 s.m, .int .i64 s.de, u8]) :: b1 := fun x cs hx => by
      simp only [dropB]
      rw [if_pos (Nat.beq_refl _), if_neg (by rw [Nat.beq_eq]; omega), if_neg (by rw [Nat.beq_eq]; omega), dropB_none b1 x (fun q hq => Nat.lt_trans (hM.2 q hq) (by show M < x; omega))]
    have db2 := db (M + 2) [] (by omega)
    have sla := SLa (M + 1) n K (by omega)
    have slb := SLb (M + 1) n K (by omega)
    have wr : lookB (roB ((M + 1, .cells false (intsL w n)) :: (M, .cells false [.int .i64 s.p, u1, .int .i64 s.w, .int .i64 s.d, .int .i64 s.f, .int .i64 s.c, .int .i64 s.m, .int .i64 s.de, u8]) :: b1)) (M + 1) = some (.cells true (intsL w n)) := lookB_roB_cells _ _ _ _ w0 hM2.1
    simp only [roB, roK] at wr
    by_cases k0 : K = 0
    · subst k0
      simp only [if_true, Int.natCast_zero] at sla slb
      have ap1 : ∀ q r, aAppend (tabT Try.prog) ⟨q, (M + 2, .cells true []) :: (M + 1, .cells true (intsL w n)) :: (M, .cells true [.int .i64 s.p, u1, .int .i64 s.w, .int .i64 s.d, .int .i64 s.f, .int .i64 s.c, .int .i64 s.m, .int .i64 s.de, u8]) :: roB b1⟩ 22 (.slice (some ⟨M + 2, 0, none⟩) 0 1) (.slice (some ⟨M + 1, 0, none⟩) n r) = none := fun q r => apE_ro hn1 (.inr ⟨_, by simp [lookB]; rfl⟩)
      have ap2 : ∀ q r, aAppend (tabT Try.prog) ⟨q, (M + 1, .cells true (intsL w n)) :: (M, .cells true [.int .i64 s.p, u1, .int .i64 s.w, .int .i64 s.d, .int .i64 s.f, .int .i64 s.c, .int .i64 s.m, .int .i64 s.de, u8]) :: roB b1⟩ 22 (.slice (some ⟨M + 2, 0, none⟩) 0 1) (.slice (some ⟨M + 1, 0, none⟩) n r) = none := fun q r => apE_ro hn1 (.inl ln2)
      have ap3 : aAppend (tabT Try.prog) ⟨M + 2 + 1, (M + 2, .cells false []) :: (M + 1, .cells false (intsL w n)) :: (M, .cells false [.int .i64 s.p, u1, .int .i64 s.w, .int .i64 s.d, .int .i64 s.f, .int .i64 s.c, .int .i64 s.m, .int .i64 s.de, u8]) :: b1⟩ 22 (.slice (some ⟨M + 2, 0, none⟩) 0 1) (.slice (some ⟨M + 1, 0, none⟩) n 1) = some (.slice (some ⟨M + 3, 0, none⟩) n 1, ⟨M + 4, (M + 3, .cells false (intsL (rotF w n 0) n)) :: (M + 1, .cells false (intsL w n)) :: (M, .cells false [.int .i64 s.p, u1, .int .i64 s.w, .int .i64 s.d, .int .i64 s.f, .int .i64 s.c, .int .i64 s.m, .int .i64 s.de, u8]) :: b1⟩) := by
        have := apB (nx := M + 2 + 1) (b := M + 2) (l := []) (tb := M + 1) (lo := 0) (k := n) (n := n) (T := w) (ro := false) (B := (M + 2, .cells false []) :: (M + 1, .cells false (intsL w n)) :: (M, .cells false [.int .i64 s.p, u1, .int .i64 s.w, .int .i64 s.d, .int .i64 s.f, .int .i64 s.c, .int .i64 s.m, .int .i64 s.de, u8]) :: b1) (by simp [lookB, Nat.beq_eq]) (by simp [lookB, intsV]) (by simp) (by omega) (by omega) (by omega)
        rw [List.nil_append, intsV_partL, ints_rot0, List.length_nil, Nat.zero_add, db2] at this
        exact this
      obtain ⟨tm, e, hl', q2, q3, q4, q11, q12, q13⟩ := draw_any (H' := ⟨M + 3 + 1, (M + 3, .cells false (intsL (rotF w n 0) n)) :: (M + 1, .cells false (intsL w n)) :: (M, .cells false [.int .i64 s.p, u1, .int .i64 s.w, .int .i64 s.d, .int .i64 s.f, .int .i64 s.c, .int .i64 s.m, .int .i64 s.de, u8]) :: b1⟩) (Pt := fun tm => tm.get 2 = .int .i64 0 ∧ tm.get 3 = .int .i64 (D : Int) ∧ tm.get 4 = .int .i64 (O : Int) ∧ tm.get 11 = .pointer (some ⟨M, 0, none⟩) ∧ tm.get 12 = .slice (some ⟨M + 1, 0, none⟩) n 1 ∧ tm.get 13 = .slice (some ⟨M + 3, 0, none⟩) n 1) hX (by kernel_rfl) hM2.1 (by
        clear hX
        generalize hMM : befs _ = MM
        have o1 : ordB MM 0 4 = true := by rw [← hMM]; kernel_rfl
        have o2 : ordB MM 4 0 = true := by rw [← hMM]; kernel_rfl
        have o3 : ordB MM 0 8 = true := by rw [← hMM]; kernel_rfl
        have o4 : ordB MM 8 0 = true := by rw [← hMM]; kernel_rfl
        have o5 : ordB MM 4 8 = true := by rw [← hMM]; kernel_rfl
        have o6 : ordB MM 8 4 = true := by rw [← hMM]; kernel_rfl
        have o7 : (MM[4]?.getD 0).testBit 0 = true := by rw [← hMM]; kernel_rfl
        have o8 : (MM[8]?.getD 0).testBit 4 = true := by rw [← hMM]; kernel_rfl
        clear hMM
        simp [mapO, drRun, drOp, dr3, looks, guardT, tmpsOf, Op.operands, Call.operands, wantedR, gOf, finT, natMem, isNil, writesF, evOp, vOp, hOpB, hOpU, hOp, hOpT, aAppendG_tab, opd, closedV, aBin, intOp, sameK, opdO, boundOf, undef, lookB, Nat.beq_eq, tm_n_set, tm_get_set, tm_of_n, tm_of_get, tm_tr_set, tm_tr_of, b02, b12, b32, ↓G75, W75, ↓G76, W76, ↓G77, W77, ↓G79, W79, ↓G17, W17, ↓G18, W18, ↓G22, W22, ↓G71, W71, tv, all1, roB, roK, news, newOnes, decr, tkc, cellAt, LD3, LD4, LD22, LD27, LDr, LD24, LEN22, IA22, FA24_0, FA24_1, FA24_2, FA24_3, FA24_4, FA24_5, FA24_6, FA24_7, FA24_8, hasR, hasR_ro, partsO, hl, t2, t3, t4, t11, t12, BS0, pushB, sla, slb, o1, o2, o3, o4, o5, o6, o7, o8, rdSame, eqR, wt, dk2, dk3, dk4, ap0, ap1, ap2, ap3, APT22, sliceLen, nw2, nle1, own, wheap, Nat.ble_eq, Nat.blt_eq]
        refine ⟨_, _, ⟨rfl, rfl⟩, ?_, ?_, ?_⟩
        · simp [dynOK, rdSame, evOp, vOp, hOpB, hOpU, hOp, hOpT, aAppendG_tab, mapO, opd, gOf, natMem, finT, tm_get_set, tm_n_set, tm_of_n, tm_of_get, cellAt, roB, roK, lookB, partsO, ap0, APT22, sliceLen, eqR, wt, dk2, dk3, dk4, hl, o1, o2, o3, o4, o5, o6, o7, o8, b02, b12, b32, b03, b13, b23, Nat.blt_eq, Nat.ble_eq, Nat.beq_eq, hasR, hasR_ro]
        · simp [wheap, news, b02, b12, b32, b03, b13, b23, Nat.beq_eq, all1]
        · simp [finT, tm_get_set, tm_n_set, tm_of_n, tm_of_get, hl, t2, t3, t4, t11, t12])
      simp [tm_n_set, hl] at hl'
      exact ⟨tm, M + 3, e, by omega, hl', q2, q3, q4, q11, q12, q13⟩
    · have e1 : ¬ K = n := by omega
      rw [if_neg k0, if_neg e1, Nat.mul_one] at slb
      have k1 : 1 ≤ K := by omega
      have nk : 1 ≤ n - K := by omega
      have e2 : (partL w K (n - K)).length = n - K := partL_len _ _ _
      have e3 : n - K + K = n := by omega
      have ap1 : ∀ q r, aAppend (tabT Try.prog) ⟨q, (M + 2, .cells true []) :: (M + 1, .cells true (intsL w n)) :: (M, .cells true [.int .i64 s.p, u1, .int .i64 s.w, .int .i64 s.d, .int .i64 s.f, .int .i64 s.c, .int .i64 s.m, .int .i64 s.de, u8]) :: roB b1⟩ 22 (.slice (some ⟨M + 2, 0, none⟩) 0 1) (.slice (some ⟨M + 1, K, none⟩) (n - K) r) = none := fun q r => apE_ro nk (.inr ⟨_, by simp [lookB]; rfl⟩)
      have ap2 : ∀ q r, aAppend (tabT Try.prog) ⟨q, (M + 1, .cells true (intsL w n)) :: (M, .cells true [.int .i64 s.p, u1, .int .i64 s.w, .int .i64 s.d, .int .i64 s.f, .int .i64 s.c, .int .i64 s.m, .int .i64 s.de, u8]) :: roB b1⟩ 22 (.slice (some ⟨M + 2, 0, none⟩) 0 1) (.slice (some ⟨M + 1, K, none⟩) (n - K) r) = none := fun q r => apE_ro nk (.inl ln2)
      have ap3 : aAppend (tabT Try.prog) ⟨M + 2 + 1, (M + 2, .cells false []) :: (M + 1, .cells false (intsL w n)) :: (M, .cells false [.int .i64 s.p, u1, .int .i64 s.w, .int .i64 s.d, .int .i64 s.f, .int .i64 s.c, .int .i64 s.m, .int .i64 s.de, u8]) :: b1⟩ 22 (.slice (some ⟨M + 2, 0, none⟩) 0 1) (.slice (some ⟨M + 1, K, none⟩) (n - K) 1) = some (.slice (some ⟨M + 3, 0, none⟩) (n - K) 1, ⟨M + 4, (M + 3, .cells false (intsL (fun j => w (K + j)) (n - K))) :: (M + 1, .cells false (intsL w n)) :: (M, .cells false [.int .i64 s.p, u1, .int .i64 s.w, .int .i64 s.d, .int .i64 s.f, .int .i64 s.c, .int .i64 s.m, .int .i64 s.de, u8]) :: b1⟩) := by
        have := apB (nx := M + 2 + 1) (b := M + 2) (l := []) (tb := M + 1) (lo := K) (k := n - K) (n := n) (T := w) (ro := false) (B := (M + 2, .cells false []) :: (M + 1, .cells false (intsL w n)) :: (M, .cells false [.int .i64 s.p, u1, .int .i64 s.w, .int .i64 s.d, .int .i64 s.f, .int .i64 s.c, .int .i64 s.m, .int .i64 s.de, u8]) :: b1) (by simp [lookB, Nat.beq_eq]) (by simp [lookB, intsV]) (by simp) (by omega) (by omega) (by omega)
        rw [List.nil_append, intsV_partL, List.length_nil, Nat.zero_add, db2] at this
        exact this
      have ap4 : ∀ q cs r, aAppend (tabT Try.prog) ⟨q, (M + 3, .cells true cs) :: (M + 1, .cells true (intsL w n)) :: (M, .cells true [.int .i64 s.p, u1, .int .i64 s.w, .int .i64 s.d, .int .i64 s.f, .int .i64 s.c, .int .i64 s.m, .int .i64 s.de, u8]) :: roB b1⟩ 22 (.slice (some ⟨M + 3, 0, none⟩) (n - K) 1) (.slice (some ⟨M + 1, 0, none⟩) K r) = none := fun q cs r => apE_ro k1 (.inr ⟨_, by simp [lookB]; rfl⟩)
      have ap5 : ∀ q r, aAppend (tabT Try.prog) ⟨q, (M + 1, .cells true (intsL w n)) :: (M, .cells true [.int .i64 s.p, u1, .int .i64 s.w, .int .i64 s.d, .int .i64 s.f, .int .i64 s.c, .int .i64 s.m, .int .i64 s.de, u8]) :: roB b1⟩ 22 (.slice (some ⟨M + 3, 0, none⟩) (n - K) 1) (.slice (some ⟨M + 1, 0, none⟩) K r) = none := fun q r => apE_ro k1 (.inl (ln (M + 3) (by omega)))
      have ap6 : aAppend (tabT Try.prog) ⟨M + 4, (M + 3, .cells false (intsL (fun j => w (K + j)) (n - K))) :: (M + 1, .cells false (intsL w n)) :: (M, .cells false [.int .i64 s.p, u1, .int .i64 s.w, .int .i64 s.d, .int .i64 s.f, .int .i64 s.c, .int .i64 s.m, .int .i64 s.de, u8]) :: b1⟩ 22 (.slice (some ⟨M + 3, 0, none⟩) (n - K) 1) (.slice (some ⟨M + 1, 0, none⟩) K 1) = some (.slice (some ⟨M + 4, 0, none⟩) n 1, ⟨M + 5, (M + 4, .cells false (intsL (rotF w n K) n)) :: (M + 1, .cells false (intsL w n)) :: (M, .cells false [.int .i64 s.p, u1, .int .i64 s.w, .int .i64 s.d, .int .i64 s.f, .int .i64 s.c, .int .i64 s.m, .int .i64 s.de, u8]) :: b1⟩) := by
        have e4 : intsL (fun j => w (K + j)) (n - K) = intsV (partL w K (n - K)) := (intsV_partL w K (n - K)).symm
        have := apB (nx := M + 4) (b := M + 3) (l := partL w K (n - K)) (tb := M + 1) (lo := 0) (k := K) (n := n) (T := w) (ro := false) (B := (M + 3, .cells false (intsL (fun j => w (K + j)) (n - K))) :: (M + 1, .cells false (intsL w n)) :: (M, .cells false [.int .i64 s.p, u1, .int .i64 s.w, .int .i64 s.d, .int .i64 s.f, .int .i64 s.c, .int .i64 s.m, .int .i64 s.de, u8]) :: b1) (by simp [lookB, Nat.beq_eq]) (by simp [lookB, e4]) (by omega) (by omega) (by omega) (by omega)
        rw [e2, intsV_app, intsV_partL, intsV_partL, ints_rot w n K (by omega), e3, db (M + 3) _ (by omega)] at this
        exact this
      obtain ⟨tm, e, hl', q2, q3, q4, q11, q12, q13⟩ := draw_any (H' := ⟨M + 4 + 1, (M + 4, .cells false (intsL (rotF w n K) n)) :: (M + 1, .cells false (intsL w n)) :: (M, .cells false [.int .i64 s.p, u1, .int .i64 s.w, .int .i64 s.d, .int .i64 s.f, .int .i64 s.c, .int .i64 s.m, .int .i64 s.de, u8]) :: b1⟩) (Pt := fun tm => tm.get 2 = .int .i64 (K : Int) ∧ tm.get 3 = .int .i64 (D : Int) ∧ tm.get 4 = .int .i64 (O : Int) ∧ tm.get 11 = .pointer (some ⟨M, 0, none⟩) ∧ tm.get 12 = .slice (some ⟨M + 1, 0, none⟩) n 1 ∧ tm.get 13 = .slice (some ⟨M + 4, 0, none⟩) n 1) hX (by kernel_rfl) hM2.1 (by
        clear hX
        generalize hMM : befs _ = MM
        have o1 : ordB MM 0 4 = true := by rw [← hMM]; kernel_rfl
        have o2 : ordB MM 4 0 = true := by rw [← hMM]; kernel_rfl
        have o3 : ordB MM 0 8 = true := by rw [← hMM]; kernel_rfl
        have o4 : ordB MM 8 0 = true := by rw [← hMM]; kernel_rfl
        have o5 : ordB MM 4 8 = true := by rw [← hMM]; kernel_rfl
        have o6 : ordB MM 8 4 = true := by rw [← hMM]; kernel_rfl
        have o7 : (MM[4]?.getD 0).testBit 0 = true := by rw [← hMM]; kernel_rfl
        have o8 : (MM[8]?.getD 0).testBit 4 = true := by rw [← hMM]; kernel_rfl
        clear hMM
        simp [mapO, drRun, drOp, dr3, looks, guardT, tmpsOf, Op.operands, Call.operands, wantedR, gOf, finT, natMem, isNil, writesF, evOp, vOp, hOpB, hOpU, hOp, hOpT, aAppendG_tab, opd, closedV, aBin, intOp, sameK, opdO, boundOf, undef, lookB, Nat.beq_eq, tm_n_set, tm_get_set, tm_of_n, tm_of_get, tm_tr_set, tm_tr_of, b02, b12, b32, ↓G75, W75, ↓G76, W76, ↓G77, W77, ↓G79, W79, ↓G17, W17, ↓G18, W18, ↓G22, W22, ↓G71, W71, tv, all1, roB, roK, news, newOnes, decr, tkc, cellAt, LD3, LD4, LD22, LD27, LDr, LD24, LEN22, IA22, FA24_0, FA24_1, FA24_2, FA24_3, FA24_4, FA24_5, FA24_6, FA24_7, FA24_8, hasR, hasR_ro, partsO, hl, t2, t3, t4, t11, t12, BS0, pushB, sla, slb, o1, o2, o3, o4, o5, o6, o7, o8, rdSame, eqR, wt, dk2, dk3, dk4, ap1, ap2, ap3, ap4, ap5, ap6,  APT22, sliceLen, nw2, nle1, own, wheap, Nat.ble_eq, Nat.blt_eq]
        refine ⟨_, _, ⟨rfl, rfl⟩, ?_, ?_, ?_⟩
        · simp [dynOK, rdSame, evOp, vOp, hOpB, hOpU, hOp, hOpT, aAppendG_tab, mapO, opd, gOf, natMem, finT, tm_get_set, tm_n_set, tm_of_n, tm_of_get, cellAt, roB, roK, lookB, partsO, APT22, sliceLen, eqR, wt, dk2, dk3, dk4, hl, o1, o2, o3, o4, o5, o6, o7, o8, b02, b12, b32, b03, b13, b23, Nat.blt_eq, Nat.ble_eq, Nat.beq_eq, hasR, hasR_ro]
        · simp [wheap, news, b02, b12, b32, b03, b13, b23, Nat.beq_eq, all1]
        · simp [finT, tm_get_set, tm_n_set, tm_of_n, tm_of_get, hl, t2, t3, t4, t11, t12])
      simp [tm_n_set, hl] at hl'
      exact ⟨tm, M + 4, e, by omega, hl', q2, q3, q4, q11, q12, q13⟩
  obtain ⟨tm2, vb, rfl, hvb, hl2, v2, v3, v4, v11, v12, v13⟩ := six
  clear hX
  obtain ⟨T1, hT1⟩ : ∃ T1, T1 = rotF w n K := ⟨_, rfl⟩
  have mV : MI ⟨vb + 1, (vb, .cells false (intsL (rotF w n K) n)) :: (M + 1, .cells false (intsL w n)) :: (M, .cells false [.int .i64 s.p, u1, .int .i64 s.w, .int .i64 s.d, .int .i64 s.f, .int .i64 s.c, .int .i64 s.m, .int .i64 s.de, u8]) :: b1⟩ := by
    have : MI ⟨vb, (M + 1, .cells false (intsL w n)) :: (M, .cells false [.int .i64 s.p, u1, .int .i64 s.w, .int .i64 s.d, .int .i64 s.f, .int .i64 s.c, .int .i64 s.m, .int .i64 s.de, u8]) :: b1⟩ := ⟨hM2.1, fun q hq => Nat.lt_of_lt_of_le (hM2.2 q hq) hvb⟩
    exact this.push _
  have nvb : ¬ M = vb := by omega
  have kV : ∀ j, j < M + 1 → lookB ((vb, .cells false (intsL (rotF w n K) n)) :: (M + 1, .cells false (intsL w n)) :: (M, .cells false [.int .i64 s.p, u1, .int .i64 s.w, .int .i64 s.d, .int .i64 s.f, .int .i64 s.c, .int .i64 s.m, .int .i64 s.de, u8]) :: b1) j = lookB ((M, .cells false [.int .i64 s.p, u1, .int .i64 s.w, .int .i64 s.d, .int .i64 s.f, .int .i64 s.c, .int .i64 s.m, .int .i64 s.de, u8]) :: b1) j := fun j hj => by
    simp only [lookB]
    rw [if_neg (by rw [Nat.beq_eq]; omega), if_neg (by rw [Nat.beq_eq]; omega)]
  have wV : lookB ((vb, .cells false (intsL (rotF w n K) n)) :: (M + 1, .cells false (intsL w n)) :: (M, .cells false [.int .i64 s.p, u1, .int .i64 s.w, .int .i64 s.d, .int .i64 s.f, .int .i64 s.c, .int .i64 s.m, .int .i64 s.de, u8]) :: b1) (M + 1) = some (.cells false (intsL w n)) := by
    simp only [lookB]
    rw [if_neg (by rw [Nat.beq_eq]; omega), if_pos (Nat.beq_refl _)]
  have vV : lookB ((vb, .cells false (intsL (rotF w n K) n)) :: (M + 1, .cells false (intsL w n)) :: (M, .cells false [.int .i64 s.p, u1, .int .i64 s.w, .int .i64 s.d, .int .i64 s.f, .int .i64 s.c, .int .i64 s.m, .int .i64 s.de, u8]) :: b1) vb = some (.cells false (intsL (rotF w n K) n)) := by
    simp only [lookB]
    rw [if_pos (Nat.beq_refl _)]
  have hPF : P * F ≤ n := by omega
  obtain ⟨E, hE⟩ : ∃ E, E = P * F := ⟨_, rfl⟩
  rw [← hE] at hDl hsz
  obtain ⟨hb1, lb1, bf1, dv1, ⟨x1, C1⟩, e1, m1, a1, b1', c1, k1, h1, l1, w1, d1⟩ := hDl (vb + 1) (M + 1) K D _ w (.inl rfl) mV kV wV hK hD
  simp only at c1 k1 h1 l1 w1 d1
  obtain ⟨hb2, lb2, bf2, dv2, ⟨x2, C2⟩, e2, m2, a2, b2', c2, k2', h2, l2, w2, d2⟩ := hDl x1 vb 0 D C1 (rotF w n K) (.inr rfl) m1 (fun j hj => (k1 j (by omega)).trans (kV j hj)) ((k1 vb (by omega)).trans vV) (by omega) hD
  simp only at c2 k2' h2 l2 w2 d2
  obtain ⟨hb3, lb3, bf3, dv3, ⟨x3, C3⟩, e3, m3, a3, b3', c3, k3', h3, l3, w3, d3⟩ := hDl x2 (M + 1) K O C2 w (.inl rfl) m2 (fun j hj => (k2' j (by omega)).trans ((k1 j (by omega)).trans (kV j hj))) ((k2' (M + 1) (by omega)).trans ((k1 (M + 1) (by omega)).trans wV)) hK hO
  simp only at c3 k3' h3 l3 w3 d3
  have hT : ∀ j, j < n → rotF (rotF w n K) n 0 j = rotF w n K j := fun j hj => rot_zero _ hj
  rw [dealH_congr hT D P F hPF F 0 noHs (by omega)] at h2 l2
  obtain ⟨db1, hdv1, dd1⟩ := dead_lst d1
  obtain ⟨db2, hdv2, dd2⟩ := dead_lst d2
  clear d1 d2
  subst hdv1 hdv2
  rw [partL_congr hT (by omega)] at dd2 e2
  have hw2 : intsL (fun j => rotF (rotF w n K) n 0 (E + j)) (n - de - E) = intsL (fun j => rotF w n K (E + j)) (n - de - E) := by
    rw [← intsV_partL, ← intsV_partL, partL_congr hT (by omega)]
  rw [hw2] at w2
  have hsh := dealH_shf (rotF w n K) hP hD hO F F 0 noHs noHs (by omega) (fun _ _ => rfl)
  have ln1 : ∀ d j, (dealH (rotF w n K) d P F 0 noHs j).length ≤ 200 := fun d j => by
    have := dealH_len (rotF w n K) d P F F 0 noHs (by omega) (fun _ => Nat.zero_le _) (Nat.zero_le _) j
    omega
  rw [← hT1] at *
  obtain ⟨R1, hR1⟩ : ∃ R, R = dealH T1 D P F 0 noHs := ⟨_, rfl⟩
  obtain ⟨R3, hR3⟩ : ∃ R, R = dealH T1 O P F 0 noHs := ⟨_, rfl⟩
  have ln3 := ln1 O
  replace ln1 := ln1 D
  rw [← hR1] at h1 l1 h2 l2 hsh ln1
  rw [← hR3] at h3 l3 hsh ln3
  have K31 : ∀ j, j < x1 → lookB C3 j = lookB C1 j := fun j hj => (k3' j (by omega)).trans (k2' j hj)
  obtain ⟨⟨x4, C4⟩, e4, a4, k4', m4⟩ := hSame x3 C3 hb1 hb2 bf1 bf2 R1 m3 ((K31 hb1 (by omega)).trans h1) ((k3' hb2 (by omega)).trans h2) ln1 (fun j hj hne => by
    obtain ⟨y1, y2, y3⟩ := l1 j hj hne
    obtain ⟨z1, z2, z3⟩ := l2 j hj hne
    exact ⟨by omega, (K31 _ y2).trans y3, (k3' _ z2).trans z3⟩)
  simp only at a4 k4'
  have K41 : ∀ j, j < x1 → lookB C4 j = lookB C1 j := fun j hj => (k4' j (by omega)).trans (K31 j hj)
  have K42 : ∀ j, j < x2 → lookB C4 j = lookB C2 j := fun j hj => (k4' j (by omega)).trans (k3' j hj)
  have K43 : ∀ j, j < x3 → lookB C4 j = lookB C3 j := fun j hj => k4' j hj
  have lv1 : (.slice (some ⟨lb1, 0, none⟩) (n - de - E) 1 : Value) = lstV lb1 (partL T1 E (n - de - E)) := by rw [lstV_ne (partL_ne (by omega)), partL_len]
  have lv2 : (.slice (some ⟨lb2, 0, none⟩) (n - de - E) 1 : Value) = lstV lb2 (partL T1 E (n - de - E)) := by rw [lstV_ne (partL_ne (by omega)), partL_len]
  have q1 := hEq (partL T1 E (n - de - E)) lb1 lb2 ⟨x4, C4⟩ false false (by rw [partL_len]; omega) (fun _ => by omega) (fun _ => by rw [intsV_partL]; exact (K41 lb1 (by omega)).trans w1) (fun _ => by rw [intsV_partL]; exact (K42 lb2 (by omega)).trans w2)
  have q2 := hEq (partL T1 (n - de) de) db1 db2 ⟨x4, C4⟩ false false (by rw [partL_len]; omega) (fun hne => by
    have := dd1 hne
    have := dd2 hne
    omega) (fun hne => (K41 db1 (dd1 hne).2.1).trans (dd1 hne).2.2) (fun hne => (K42 db2 (dd2 hne).2.1).trans (dd2 hne).2.2)
  rw [← lv1, ← lv2] at q1
  have bx0 : lookB ((M, .cells false [.int .i64 s.p, u1, .int .i64 s.w, .int .i64 s.d, .int .i64 s.f, .int .i64 s.c, .int .i64 s.m, .int .i64 s.de, u8]) :: b1) M = some (.cells false [.int .i64 s.p, u1, .int .i64 s.w, .int .i64 s.d, .int .i64 s.f, .int .i64 s.c, .int .i64 s.m, .int .i64 s.de, u8]) := by simp [lookB]
  have bx1 : lookB C1 M = some (.cells false [.int .i64 s.p, u1, .int .i64 s.w, .int .i64 s.d, .int .i64 s.f, .int .i64 s.c, .int .i64 s.m, .int .i64 s.de, u8]) := (k1 M (by omega)).trans ((kV M (by omega)).trans bx0)
  have bx2 : lookB C2 M = some (.cells false [.int .i64 s.p, u1, .int .i64 s.w, .int .i64 s.d, .int .i64 s.f, .int .i64 s.c, .int .i64 s.m, .int .i64 s.de, u8]) := (k2' M (by omega)).trans bx1
  have bx4 : lookB C4 M = some (.cells false [.int .i64 s.p, u1, .int .i64 s.w, .int .i64 s.d, .int .i64 s.f, .int .i64 s.c, .int .i64 s.m, .int .i64 s.de, u8]) := (K41 M (by omega)).trans bx1
  have RL : ∀ (A : AF) (r' : Option (AX × AF × AH)), evLoop (runC (tabT Try.prog) call (L + 300) 11 none lcS) (L + 300) A ⟨x4, C4⟩ = r' → TSh M hb1 hb3 P D O A → A.tm.get 26 = .int .i64 0 → ∃ y A' H', r' = some (y, A', H') ∧ QShf ⟨x4, C4⟩ y A' H' := fun A r' h a b => by
    rw [← h]
    have hD4 : decrK C4 = true := m4.1
    refine shift_loop call s u1 u8 hP hsp hD hO m4 bx4 (b1 := bf1) (b3 := bf3) (R1 := R1) (R3 := R3) ((K41 hb1 (by omega)).trans h1) ((K43 hb3 (by omega)).trans h3) (fun i hi => ?_) A a b
    have hσ : (D + i) % P < P := Nat.mod_lt _ (by omega)
    have hτ : (O + i) % P < P := Nat.mod_lt _ (by omega)
    have he := hsh i hi
    rw [he]
    exact hEq _ _ _ ⟨x4, roB C4⟩ true true (ln3 _) (fun hne => by
      have y := l1 _ hσ (by rw [he]; exact hne)
      have z := l3 _ hτ hne
      omega) (fun hne => by
      obtain ⟨y1, y2, y3⟩ := l1 _ hσ (by rw [he]; exact hne)
      rw [he] at y3
      exact lookB_roB_cells _ _ _ _ ((K41 _ y2).trans y3) hD4) (fun hne => by
      obtain ⟨z1, z2, z3⟩ := l3 _ hτ hne
      exact lookB_roB_cells _ _ _ _ ((K43 _ z2).trans z3) hD4)
  simp only [lcS, Try.f11, Option.map_some, loopsA, List.nil_append, List.append_nil, List.cons_append, Option.getD_some, List.getD_cons_zero] at RL
  obtain ⟨Ha, hAw⟩ := hAw ⟨x4, C4⟩
  rw [hsp] at bx4
  simp only [Int.natCast_zero] at e2
  simp [ec_skip, ec_label, ek_reg, ek_draw, ek_seq, ec_cond, ek_block, ec_loop, ec_exit, ec_ret, ec_scope, ek_nil, ek_op, opK_some, regK_some, seqK_normal, seqK_exit, seqK_ret, blockK_normal, blockK_exit, blockK_ret, evOp, vOp, hOpB, hOpU, hOp, hOpT, aAppendG_tab, aWanted, aYielded, opd, putT, closedV, aBin, intOp, sameK, mapO, joinR, hasAddr, boundOf, pushB, aAlloc, Value.cells, lookB, setB, Nat.beq_eq, tm_n_set, tm_get_set, tm_of_n, tm_of_get, tm_tr_set, tm_tr_of, cellV, putF, appR_eq, takeR_eq, dropR_eq, setR_eq, getR_eq, ↓C75, ↓C76, ↓C77, ↓C79, ↓C17, ↓C18, ↓C22, ↓C71, FA24_0, FA24_1, FA24_2, FA24_3, FA24_4, FA24_5, FA24_6, FA24_7, FA24_8, LD3, LD4, LD22, LD27, LDr, LD24, LEN22, IA22, tkc, cellAt, hl2, v2, v3, v4, v11, v12, v13, nvb, ↓CdealS, ↓CdealZ, e1, e2, e3, ↓CsameS, e4, ↓CeqA, q1, q2, LENh, bx1, bx2, bx4, undef]
  generalize hr : evLoop _ _ _ _ = r'
  obtain ⟨y, A', H', rfl, rfl, hl3, hmk3, rfl⟩ := RL _ _ hr ⟨by simp [tm_n_set, hl2], rfl, by simp [tm_get_set, tm_n_set, hl2, v3], by simp [tm_get_set, tm_n_set, hl2, v4], by simp [tm_get_set, tm_n_set, hl2, v11], by simp [tm_get_set, tm_n_set, hl2], by simp [tm_get_set, tm_n_set, hl2]⟩ (by simp [tm_get_set, tm_n_set, hl2])
  clear hr RL
  simp [ec_skip, ec_label, ek_reg, ek_draw, ek_seq, ec_cond, ek_block, ec_loop, ec_exit, ec_ret, ec_scope, ek_nil, ek_op, opK_some, regK_some, seqK_normal, seqK_exit, seqK_ret, blockK_normal, blockK_exit, blockK_ret, evOp, vOp, hOpB, hOpU, hOp, hOpT, aAppendG_tab, aWanted, aYielded, opd, putT, closedV, aBin, intOp, sameK, mapO, joinR, hasAddr, boundOf, pushB, aAlloc, Value.cells, lookB, setB, Nat.beq_eq, tm_n_set, tm_get_set, tm_of_n, tm_of_get, tm_tr_set, tm_tr_of, cellV, putF, appR_eq, takeR_eq, dropR_eq, setR_eq, getR_eq, ↓C75, ↓C76, ↓C77, ↓C79, ↓C17, ↓C18, ↓C22, ↓C71, FA24_0, FA24_1, FA24_2, FA24_3, FA24_4, FA24_5, FA24_6, FA24_7, FA24_8, LD3, LD4, LD22, LD27, LDr, LD24, LEN22, IA22, tkc, cellAt, hl3, hmk3, ↓Cawake, hAw, finF, takeM, resV, cleanedG, kp, below]


end

section
set_option linter.unusedSimpArgs false
set_option linter.unusedVariables false

noncomputable def ansI : List Value → AH → Option Value
  | [.int .i64 n, .int .i64 m], _ => if m = 0 then none else some (.int .i64 (intoX n m))
  | _, _ => none
theorem FIo : tabF Try.prog 42 = some Try.f42 := by kernel_rfl
theorem okI : AnsOK (runH noH) 42 ansI := by
  intro cargs Hc v h
  unfold ansI at h
  split at h
  · split at h
    · cases h
    · rename_i hm
      cases h
      refine ⟨rfl, fun _ => ?_⟩
      obtain ⟨H', h⟩ := into_ev (L := 0) (inH noH) (H := Hc) hm
      exact ⟨H', runH_fn FIo rfl h⟩
  · cases h
theorem canI (n m : Int) (H : AH) (h : ¬ m = 0) : canH 42 ansI (.func (.func 42) #[] #[]) [.int .i64 n, .int .i64 m] H = some (.int .i64 (intoX n m), H) := by
  simp [canH, canon, canonL, canonV, canonB, ansI, Nat.beq_eq, h]
theorem seeC_of {b : List (Nat × ABlk)} {s : SV} {u1 u8 : Value} (l1 : Lst b u1 s.n s.g) (h1 : 1 ≤ s.n) (l8 : Lst b u8 s.k s.h) (h8 : u8 = .slice none 0 0 → s.h = fun _ => 0) (hn : s.n ≤ 200) (hk : s.k ≤ 200) : seeC (.agg ⟨[.int .i64 s.p, u1, .int .i64 s.w, .int .i64 s.d, .int .i64 s.f, .int .i64 s.c, .int .i64 s.m, .int .i64 s.de, u8]⟩) b = some s := by
  rcases l1 with ⟨_, h⟩ | ⟨a, ro, cs, rfl, h2, h3, h4⟩
  · omega
  · have e1 : seeL b (.slice (some ⟨a, 0, none⟩) s.n 1) = some (s.n, s.g) := by simp only [seeL, h2, h3, if_true, h4]
    have e8 : seeL b u8 = some (s.k, s.h) := by
      rcases l8 with ⟨rfl, h⟩ | ⟨a, ro, cs, rfl, h2, h3, h4⟩
      · rw [h, h8 rfl]; rfl
      · simp only [seeL, h2, h3, if_true, h4]
    unfold seeC
    simp only [e1, e8]
    simp [hn, hk, Nat.ble_eq]
theorem setH_other {f g : FuncId} {ans : SV → List Value → Option Value} {args : List Value} {H : AH} (h : Nat.beq g f = false) : setH f ans (.func (.func g) #[] #[]) args H = none := by
  cases args with
  | nil => rfl
  | cons v r => simp [setH, h]
theorem setLH_other {f g : FuncId} {ans : SV → List Value → Option (List Int)} {args : List Value} {H : AH} (h : Nat.beq g f = false) : setLH f ans (.func (.func g) #[] #[]) args H = none := by
  cases args with
  | nil => rfl
  | cons v r => simp [setLH, h]
/-- The functions that are run in place. -/
def SrcFree (hd : Hnd) : Prop := ∀ f, f ∈ [95, 79, 77, 37, 78, 60, 36, 43, 82, 46] → ∀ args H, hd (.func (.func f) #[] #[]) args H = none
noncomputable def E (hd : Hnd) (L n : Nat) : Hnd := evCall (tabT Try.prog) (tabF Try.prog) (L + 300) kpT hd n
theorem FFB : tabF Try.prog 95 = some Try.f95 := by kernel_rfl
theorem FFR : tabF Try.prog 79 = some Try.f79 := by kernel_rfl
theorem FFO : tabF Try.prog 77 = some Try.f77 := by kernel_rfl
theorem FFN : tabF Try.prog 37 = some Try.f37 := by kernel_rfl
theorem FFL : tabF Try.prog 78 = some Try.f78 := by kernel_rfl
theorem FFG : tabF Try.prog 60 = some Try.f60 := by kernel_rfl
theorem FFS : tabF Try.prog 36 = some Try.f36 := by kernel_rfl
theorem FFP : tabF Try.prog 43 = some Try.f43 := by kernel_rfl
theorem FFT : tabF Try.prog 82 = some Try.f82 := by kernel_rfl
theorem bel_at {hd : Hnd} (hfr : SrcFree hd) (L n p N : Nat) (bs : List (Nat × ABlk)) (x : Int) (m : Nat) (h1 : 1 ≤ m) (h2 : m ≤ 1000) (hM : MI ⟨N, bs⟩) (h : lookB bs p = some (sB x)) : E hd L (n + 1) (.func (.func 95) #[] #[]) [.pointer (some ⟨p, 0, none⟩), .int .i64 (m : Int)] ⟨N, bs⟩ = some (.int .i64 (belV x m), ⟨N, setB bs p (sB (stB x))⟩) :=
  (evCall_fn FFB (hfr _ (by simp) _ _)).trans (below_ev _ p N bs x m h1 h2 hM h)
theorem src_at {hd : Hnd} (hfr : SrcFree hd) (L n p : Nat) : SrcOK (E hd L (n + 1 + 1)) p where
  bel N bs x m h1 h2 hM h := bel_at hfr L (n + 1) p N bs x m h1 h2 hM h
  ran N bs x lo hi h1 h2 hM h := (evCall_fn FFR (hfr _ (by simp) _ _)).trans (range_ev _ p N bs x lo hi h1 h2 fun m a b => bel_at hfr L n p N bs x m a b hM h)
  odd N bs x m h1 h2 hM h := (evCall_fn FFO (hfr _ (by simp) _ _)).trans (odds_ev _ p N bs x m h1 h2 fun m a b => bel_at hfr L n p N bs x m a b hM h)
theorem plain_at {hd : Hnd} (hfr : SrcFree hd) (L n M : Nat) (b2 : List (Nat × ABlk)) (s : SV) (u1 u8 : Value) (hM : MI ⟨M, b2⟩) (hu : Lst b2 u1 s.n s.g) (hn : s.n ≤ 200) : E hd L (n + 1 + 1) (.func (.func 43) #[] #[]) [.agg #[.int .i64 s.p, u1, .int .i64 s.w, .int .i64 s.d, .int .i64 s.f, .int .i64 s.c, .int .i64 s.m, .int .i64 s.de, u8]] ⟨M, b2⟩ = some (.int .i64 (PV s), ⟨M + 1, b2⟩) :=
  (evCall_fn FFP (hfr _ (by simp) _ _)).trans (plainC_ev _ M b2 hM hu fun N bs hM hu => (evCall_fn FFT (hfr _ (by simp) _ _)).trans (total_ev _ N bs hn hM hu))
theorem lit_at {hd : Hnd} (hfr : SrcFree hd) (L n p M : Nat) (b : List (Nat × ABlk)) (y : Int) (me : Nat) (hme : me = 1 ∨ me = 2) (hM : MI ⟨M, b⟩) (h : lookB b p = some (sB y)) : LitEnd M p (me : Int) b (E hd L (n + 1 + 1 + 1) (.func (.func 78) #[] #[]) [.pointer (some ⟨p, 0, none⟩), .int .i64 (me : Int)] ⟨M, b⟩) := by
  have e : E hd L (n + 1 + 1 + 1) (.func (.func 78) #[] #[]) [.pointer (some ⟨p, 0, none⟩), .int .i64 (me : Int)] ⟨M, b⟩ = _ := evCall_fn FFL (hfr _ (by simp) _ _)
  rw [e]
  exact little_ev _ p M b y me hme hM h (src_at hfr L n p) (plain_at hfr L n)
theorem set_at {hd : Hnd} (hfr : SrcFree hd) (L n p N : Nat) (bs : List (Nat × ABlk)) (x : Int) (hM : MI ⟨N, bs⟩) (h : lookB bs p = some (sB x)) : SetEnd N p bs (E hd L (n + 1 + 1 + 1 + 1) (.func (.func 36) #[] #[]) [.pointer (some ⟨p, 0, none⟩)] ⟨N, bs⟩) := by
  have e : E hd L (n + 1 + 1 + 1 + 1) (.func (.func 36) #[] #[]) [.pointer (some ⟨p, 0, none⟩)] ⟨N, bs⟩ = _ := evCall_fn FFS (hfr _ (by simp) _ _)
  rw [e]
  exact setof_ev _ p N bs x hM h (src_at hfr L (n + 1) p) (fun M b => (evCall_fn FFG (hfr _ (by simp) _ _)).trans (big_ev _ M b)) (lit_at hfr L n p)
theorem err_nil {s : SV} (he : s.err = 0) (hk : s.k = 0) : ({ s with h := fun _ => 0 } : SV).err = 0 := by
  obtain ⟨p, n, g, w, d, f, c, m, de, k, h⟩ := s
  simp only at hk
  subst hk
  exact he
/-- What there is behind NewSource and SetOf. -/
structure Opened (hd : Hnd) (n : Nat) (ks : List Value) (u : Value) (x : Int) (s : SV) (u1 u8 : Value) (M : Nat) (b1 : List (Nat × ABlk)) : Prop where
  ns : E hd n 8 (.func (.func 37) #[] #[]) [u] ⟨1, [(0, .cells true ks)]⟩ = some (.pointer (some ⟨1, 0, none⟩), HS ks x)
  so : E hd n 8 (.func (.func 36) #[] #[]) [.pointer (some ⟨1, 0, none⟩)] (HS ks x) = some (.agg #[.int .i64 s.p, u1, .int .i64 s.w, .int .i64 s.d, .int .i64 s.f, .int .i64 s.c, .int .i64 s.m, .int .i64 s.de, u8], ⟨M, b1⟩)
  mi : MI ⟨M, b1⟩
  nx : 2 ≤ M
  f1 : FL 2 ⟨M, b1⟩ u1 s.n s.g
  f8 : FL 2 ⟨M, b1⟩ u8 s.k s.h
  err : s.err = 0
  z8 : u8 = .slice none 0 0 → s.h = fun _ => 0
  n1 : 1 ≤ s.n
  k2 : s.k ≤ 200
theorem Opened.see {hd : Hnd} {n : Nat} {ks : List Value} {u : Value} {x : Int} {s : SV} {u1 u8 : Value} {M : Nat} {b1 : List (Nat × ABlk)} (h : Opened hd n ks u x s u1 u8 M b1) {b : List (Nat × ABlk)} (l1 : Lst b u1 s.n s.g) (l8 : Lst b u8 s.k s.h) : seeC (.agg #[.int .i64 s.p, u1, .int .i64 s.w, .int .i64 s.d, .int .i64 s.f, .int .i64 s.c, .int .i64 s.m, .int .i64 s.de, u8]) b = some s := by
  have hs3 := (small_of_err h.err).n
  exact seeC_of l1 h.n1 l8 h.z8 (by omega) h.k2
theorem open_set {hd : Hnd} (hfr : SrcFree hd) (n : Nat) (hn : n ≤ 9223372036854775807) {ks : List Value} (hks : okC ks n = true) {u : Value}
    (hlen : aLen (tabT Try.prog) 22 u = some (.int .i64 n)) (hix : ∀ k : Nat, k < n → aIndexAddr (tabT Try.prog) 22 u (.int .i64 (k : Int)) = some (.pointer (some ⟨0, k, none⟩))) :
    ∃ x s u1 u8 M b1, Opened hd n ks u x s u1 u8 M b1 := by
  obtain ⟨x, hx⟩ := newSource_ev (L := n + 300) (E hd n 7) (by omega) hn hks hlen hix
  have hNS : E hd n 8 (.func (.func 37) #[] #[]) [u] ⟨1, [(0, .cells true ks)]⟩ = some (.pointer (some ⟨1, 0, none⟩), HS ks x) := (evCall_fn FFN (hfr _ (by simp) _ _)).trans hx
  have hM0 : MI ⟨2, [(1, .cells false [.int .u64 x]), (0, .cells true ks)]⟩ := ⟨rfl, fun p hp => by
    simp only [List.mem_cons, List.not_mem_nil, or_false] at hp
    rcases hp with rfl | rfl
    · show 1 < 2; omega
    · show 0 < 2; omega⟩
  obtain ⟨s0, u1, u8, ⟨M, b1⟩, hSO, hM, hnx, _, f1, f80, he0, hk, h1⟩ := set_at hfr n 4 1 2 [(1, .cells false [.int .u64 x]), (0, .cells true ks)] x hM0 rfl
  obtain ⟨s, hs, he, f8, h8⟩ : ∃ s : SV, (.agg #[.int .i64 s.p, u1, .int .i64 s.w, .int .i64 s.d, .int .i64 s.f, .int .i64 s.c, .int .i64 s.m, .int .i64 s.de, u8] = (.agg #[.int .i64 s0.p, u1, .int .i64 s0.w, .int .i64 s0.d, .int .i64 s0.f, .int .i64 s0.c, .int .i64 s0.m, .int .i64 s0.de, u8] : Value) ∧ s.n = s0.n ∧ s.g = s0.g ∧ s.k = s0.k) ∧ s.err = 0 ∧ FL 2 ⟨M, b1⟩ u8 s.k s.h ∧ (u8 = .slice none 0 0 → s.h = fun _ => 0) := by
    by_cases hu : u8 = .slice none 0 0
    · have hk0 : s0.k = 0 := by
        rcases f80 with ⟨_, h⟩ | ⟨a, cs, h, _⟩
        · exact h
        · rw [hu] at h; cases h
      exact ⟨{ s0 with h := fun _ => 0 }, ⟨rfl, rfl, rfl, rfl⟩, err_nil he0 hk0, .inl ⟨hu, hk0⟩, fun _ => rfl⟩
    · exact ⟨s0, ⟨rfl, rfl, rfl, rfl⟩, he0, f80, fun h => absurd h hu⟩
  obtain ⟨ha, hn0, hg0, hk0⟩ := hs
  rw [← ha] at hSO
  rw [← hn0, ← hg0] at f1
  exact ⟨x, s, u1, u8, M, b1, hNS, hSO, hM, hnx, f1, f8, he, h8, by omega, by omega⟩


end

section
set_option linter.unusedSimpArgs false
set_option linter.unusedVariables false


noncomputable def RB : Hnd := orH (canH 42 ansI) (orH (setLH 39 ansWall) (orH (setTCH 72 ansCd) (orH (setH 74 ansFull) (orH EQ (memoF m4x0L)))))
theorem RB_ok : CallOK Try.prog RB := orH_ok (canH_ok (runH_ok noH_ok) okI) (orH_ok setWall_ok (orH_ok setCd_ok (orH_ok setFull_ok (orH_ok EQ_ok m4x0L_ok))))
theorem awakeM (H : AH) : memoF m4x0L (.func (.func 27) #[] #[]) [] H = some (.bool true, H) := by
  cases H
  kernel_rfl
theorem EQ_other {g : FuncId} {args : List Value} {H : AH} (h : Nat.beq g 22 = false) : EQ (.func (.func g) #[] #[]) args H = none := canH_other h
theorem RB_free : SrcFree RB := by
  intro f hf args H
  simp only [List.mem_cons, List.not_mem_nil, or_false] at hf
  rcases hf with rfl | rfl | rfl | rfl | rfl | rfl | rfl | rfl | rfl | rfl <;> exact orH_r (canH_other rfl) (orH_r (setLH_other rfl) (orH_r (setTCH_other rfl) (orH_r (setH_other rfl) (orH_r (EQ_other rfl) rfl))))
theorem FLaw : tabF Try.prog 11 = some Try.f11 := by kernel_rfl
theorem FSame : tabF Try.prog 35 = some Try.f35 := by kernel_rfl
theorem tErr_zero {s : SV} {t : Nat → Int} : ∀ (m i : Nat), (∀ j, i ≤ j → j < i + m → s.inB (t j) = true ∧ hasG t j (t j) = false) → tErr s t m i = 0
  | 0, _, _ => rfl
  | m + 1, i, h => by
    obtain ⟨h1, h2⟩ := h i (Nat.le_refl _) (by omega)
    simp only [tErr, h1, h2, Bool.true_eq_false, Bool.false_eq_true, if_false]
    exact tErr_zero m (i + 1) fun j a b => h j (by omega) (by omega)
/-- A part of a wall has no error. -/
theorem part_ok {s : SV} (he : s.err = 0) {w : Nat → Int} {n : Nat} (hn : n = s.rsize.toNat) (hp : Perm w n) {t : Nat → Int} {K m : Nat} (hK : K + m ≤ n) (ht : ∀ j, j < m → t j = w (K + j)) : tErr s t m 0 = 0 := by
  have hr := rsize_of he
  refine tErr_zero m 0 fun j _ hj => ⟨?_, ?_⟩
  · rw [ht j (by omega)]
    obtain ⟨a, b⟩ := hp.range (i := K + j) (by omega)
    exact inB_of he a (by omega)
  · cases hh : hasG t j (t j) with
    | false => rfl
    | true =>
      obtain ⟨i, hi, e⟩ := (hasG_iff t j (t j)).1 hh
      rw [ht j (by omega), ht i (by omega)] at e
      exact absurd e.symm (hp.inj (by omega) (by omega))
theorem lst_ne {l : List Int} (h : l ≠ []) (b : Nat) (H : AH) : lstV b l = .slice (some ⟨b, 0, none⟩) l.length 1 ∧ lstM H l = ⟨H.next + 1, (H.next, .cells false (intsV l)) :: H.bs⟩ := by
  cases l with
  | nil => exact absurd rfl h
  | cons a t => exact ⟨rfl, rfl⟩
theorem okC_ints (g : Nat → Int) (n : Nat) : okC (intsL g n) (intsL g n).length = true := by
  simp only [okC, Bool.and_eq_true, List.all_eq_true]
  refine ⟨by simp, fun v hv => ?_⟩
  simp only [intsL, List.mem_map] at hv
  obtain ⟨j, _, rfl⟩ := hv
  rfl
theorem seeT_of {bs : List (Nat × ABlk)} {a off m n : Nat} {ro : Bool} {g : Nat → Int} (h : lookB bs a = some (.cells ro (intsL g n))) (hm : off + m ≤ n) : seeT bs (.slice (some ⟨a, off, none⟩) m 1) = some (m, fun j => gi (intsL g n) (off + j)) := by
  have h1 : Nat.ble (off + m) (intsL g n).length = true := by rw [Nat.ble_eq, intsL_len]; exact hm
  simp only [seeT, h, okC_ints, h1, Bool.and_self, if_true]
theorem perm_rot {w : Nat → Int} {n K : Nat} (hK : K ≤ n) (h : Perm w n) : Perm (rotF w n K) n := fun p => by
  rw [← h p]
  have a := cntP_split (p := p) (f := w) K (n - K)
  have b := cntP_split (p := p) (f := rotF w n K) (n - K) K
  rw [show K + (n - K) = n by omega] at a
  rw [show n - K + K = n by omega] at b
  have e1 : cntP p (rotF w n K) (n - K) = cntP p (fun i => w (K + i)) (n - K) := cntP_ext _ fun i hi => by
    simp only [rotF]
    rw [if_pos hi]
  have e2 : cntP p (fun i => rotF w n K (n - K + i)) K = cntP p w K := cntP_ext _ fun i hi => by
    simp only [rotF]
    rw [if_neg (by omega), show n - K + i - (n - K) = i by omega]
  omega
theorem cd_zero {s : SV} (he : s.err = 0) {t : Nat → Int} {n c d P : Nat} (hn : n = s.rsize.toNat) (hsp : s.p = P) (hc : c < n) (hd : d < P) (ht : tErr s t n 0 = 0) : s.cd t n c d = 0 := by
  have hr := rsize_of he
  have hrb := rsize_bounds s
  unfold SV.cd
  rw [if_pos he, if_pos ⟨by omega, ht⟩, if_pos ⟨btw_iff.2 ⟨by omega, by omega⟩, btw_iff.2 ⟨by omega, by omega⟩⟩]
set_option maxRecDepth 10000 in
set_option maxHeartbeats 8000000 in
theorem body_ev (l : Nat) (hl : l ≤ 9223372036854775807) {ks : List Value} (hks : okC ks l = true) {u : Value}
    (hlen : aLen (tabT Try.prog) 22 u = some (.int .i64 l)) (hix : ∀ k : Nat, k < l → aIndexAddr (tabT Try.prog) 22 u (.int .i64 (k : Int)) = some (.pointer (some ⟨0, k, none⟩))) (sd k2 k3 k4 : Int) :
    ∃ H', evFn (tabT Try.prog) (E RB l 8) (l + 300) kpT 11 Try.f11 [u, .int .u64 sd, .int .i64 k2, .int .i64 k3, .int .i64 k4] ⟨1, [(0, .cells true ks)]⟩ = some (.bool true, H') := by
  obtain ⟨x, s, u1, u8, M, b1, h⟩ := open_set RB_free l hl hks hlen hix
  have he := h.err
  obtain ⟨⟨p1, p2⟩, ⟨m1, m2⟩, ⟨de1, de2⟩, hsz⟩ := rules_of he
  have hfull := full_of he
  have hr := rsize_of he
  have hrb := rsize_bounds s
  have hpf : 0 ≤ s.p * s.full := Int.mul_nonneg (by omega) (by omega)
  obtain ⟨n, hn⟩ : ∃ n, n = s.rsize.toNat := ⟨_, rfl⟩
  obtain ⟨P, hP⟩ : ∃ P : Nat, s.p = P := ⟨s.p.toNat, by omega⟩
  obtain ⟨F, hF⟩ : ∃ F : Nat, s.full = F := ⟨s.full.toNat, by omega⟩
  obtain ⟨de, hde⟩ : ∃ de : Nat, s.de = de := ⟨s.de.toNat, by omega⟩
  have hns : (n : Int) = s.size := by omega
  have hsz' : P * F + 1 + de ≤ n := by
    rw [hP, hF, hde, ← hns] at hsz
    have : ((P * F : Nat) : Int) = (P : Int) * (F : Int) := Int.natCast_mul P F
    omega
  have hn1 : 1 ≤ n := by omega
  have hn2 : n ≤ 144 := by omega
  have hP34 : 3 ≤ P ∧ P ≤ 4 := by omega
  obtain ⟨w, hw⟩ : ∃ w, w = wallF n sd := ⟨_, rfl⟩
  have hperm : Perm w n := by rw [hw]; exact perm_wall hn1 sd
  have i2 := intoX_range k2 (n : Int) (by omega) (by omega)
  have i3 := intoX_range k3 (P : Int) (by omega) (by omega)
  have i4 := intoX_range k4 (P : Int) (by omega) (by omega)
  obtain ⟨K, hKe⟩ : ∃ K : Nat, (K : Int) = intoX k2 (n : Int) := ⟨(intoX k2 (n : Int)).toNat, by omega⟩
  obtain ⟨D, hDe⟩ : ∃ D : Nat, (D : Int) = intoX k3 (P : Int) := ⟨(intoX k3 (P : Int)).toNat, by omega⟩
  obtain ⟨O, hOe⟩ : ∃ O : Nat, (O : Int) = intoX k4 (P : Int) := ⟨(intoX k4 (P : Int)).toNat, by omega⟩
  have v1 := h.f1.cv
  have v8 := h.f8.cv
  have x0 : Lst ((M, .cells false [.int .i64 s.p, u1, .int .i64 s.w, .int .i64 s.d, .int .i64 s.f, .int .i64 s.c, .int .i64 s.m, .int .i64 s.de, u8]) :: b1) u1 s.n s.g := h.f1.lst.push h.mi.2 _
  have y0 : Lst ((M, .cells false [.int .i64 s.p, u1, .int .i64 s.w, .int .i64 s.d, .int .i64 s.f, .int .i64 s.c, .int .i64 s.m, .int .i64 s.de, u8]) :: b1) u8 s.k s.h := h.f8.lst.push h.mi.2 _
  have hwl : wallL s sd = wl n w := by rw [hw]; unfold wallL; rw [← hn]
  have hwne : wallL s sd ≠ [] := fun e => by
    have := wl_len n w
    rw [← hwl, e] at this
    simp only [List.length_nil] at this
    omega
  have eW : E RB l 8 (.func (.func 39) #[] #[]) [.agg #[.int .i64 s.p, u1, .int .i64 s.w, .int .i64 s.d, .int .i64 s.f, .int .i64 s.c, .int .i64 s.m, .int .i64 s.de, u8], .int .u64 sd] ⟨M + 1, (M, .cells false [.int .i64 s.p, u1, .int .i64 s.w, .int .i64 s.d, .int .i64 s.f, .int .i64 s.c, .int .i64 s.m, .int .i64 s.de, u8]) :: b1⟩ = some (.slice (some ⟨M + 1, 0, none⟩) n 1, ⟨M + 2, (M + 1, .cells false (intsL w n)) :: (M, .cells false [.int .i64 s.p, u1, .int .i64 s.w, .int .i64 s.d, .int .i64 s.f, .int .i64 s.c, .int .i64 s.m, .int .i64 s.de, u8]) :: b1⟩) := by
    refine evCall_hd (orH_r (canH_other rfl) (orH_l ?_))
    rw [setLH_go (h.see x0 y0) rfl rfl, (lst_ne hwne _ ⟨M + 1, (M, .cells false [.int .i64 s.p, u1, .int .i64 s.w, .int .i64 s.d, .int .i64 s.f, .int .i64 s.c, .int .i64 s.m, .int .i64 s.de, u8]) :: b1⟩).1, (lst_ne hwne 0 ⟨M + 1, (M, .cells false [.int .i64 s.p, u1, .int .i64 s.w, .int .i64 s.d, .int .i64 s.f, .int .i64 s.c, .int .i64 s.m, .int .i64 s.de, u8]) :: b1⟩).2, hwl, wl_len, intsV_wl]
  have hPl := perm_rot (K := K) (by omega) hperm
  refine shifts_core (L := l) (E RB l 8) 1 2 1 M _ _ b1 u sd k2 k3 k4 s u1 u8 n P K D O F de w h.ns h.so h.mi h.f1 h.f8 hn1 hn2 (by omega) hP34 hP (by omega) (by omega) hsz' eW
    (fun H => by rw [hKe]; exact evCall_hd (orH_l (canI _ _ H (by omega)))) (fun H => by rw [hDe]; exact evCall_hd (orH_l (canI _ _ H (by omega)))) (fun H => by rw [hOe]; exact evCall_hd (orH_l (canI _ _ H (by omega)))) ?_ ?_ ?_
    (fun H => ⟨H, evCall_hd (orH_r (canH_other rfl) (orH_r (setLH_other rfl) (orH_r (setTCH_other rfl) (orH_r (setH_other rfl) (orH_r (EQ_other rfl) (awakeM _))))))⟩)
  · intro N a c d bs g hg hM hk ha hc hd
    have hpg : Perm g n := by rcases hg with rfl | rfl <;> assumption
    have kb : ∀ (b : List (Nat × ABlk)), (∀ j, j < M + 1 → lookB b j = lookB ((M, .cells false [.int .i64 s.p, u1, .int .i64 s.w, .int .i64 s.d, .int .i64 s.f, .int .i64 s.c, .int .i64 s.m, .int .i64 s.de, u8]) :: b1) j) → seeC (.agg #[.int .i64 s.p, u1, .int .i64 s.w, .int .i64 s.d, .int .i64 s.f, .int .i64 s.c, .int .i64 s.m, .int .i64 s.de, u8]) b = some s := fun b hb => h.see (Lst.keep x0 (h.mi.push _).2 hb) (Lst.keep y0 (h.mi.push _).2 hb)
    have hsee := kb bs hk
    have aN : a < N := hM.2 _ (lookB_mem ha)
    have MN : M < N := by
      have := hk M (by omega)
      simp only [lookB] at this
      rw [if_pos (Nat.beq_refl _)] at this
      exact hM.2 _ (lookB_mem this)
    have ht : ∀ j, j < n → (fun j => gi (intsL g n) (0 + j)) j = g (0 + j) := fun j hj => by
      show gi (intsL g n) (0 + j) = g (0 + j)
      rw [Nat.zero_add]
      exact gi_ints g n j hj
    have hte := part_ok he hn hpg (by omega) ht
    have hEq : E RB l 8 (.func (.func 33) #[] #[]) [.agg #[.int .i64 s.p, u1, .int .i64 s.w, .int .i64 s.d, .int .i64 s.f, .int .i64 s.c, .int .i64 s.m, .int .i64 s.de, u8], .slice (some ⟨a, 0, none⟩) n 1, .int .i64 (c : Int), .int .i64 (d : Int)] ⟨N, bs⟩ = _ := evCall_fn FDeal (orH_r (canH_other rfl) (orH_r (setLH_other rfl) (orH_r (setTCH_other rfl) (orH_r (setH_other rfl) (orH_r (EQ_other rfl) rfl)))))
    rw [hEq]
    refine deal_ev (L := l) (E RB l 7) N a n P c d F de false bs s u1 u8 g hM ha v1 v8 hP34 hP hde (by omega) hd hc hn2 hsz' ?_ ?_ ?_ ?_
    · have hb2 : ∀ j, j < M + 1 → lookB ((N, .cells false [.int .i64 s.p, u1, .int .i64 s.w, .int .i64 s.d, .int .i64 s.f, .int .i64 s.c, .int .i64 s.m, .int .i64 s.de, u8]) :: bs) j = lookB ((M, .cells false [.int .i64 s.p, u1, .int .i64 s.w, .int .i64 s.d, .int .i64 s.f, .int .i64 s.c, .int .i64 s.m, .int .i64 s.de, u8]) :: b1) j := fun j hj => by
        rw [← hk j hj]
        simp only [lookB]
        rw [if_neg (by rw [Nat.beq_eq]; omega)]
      have ha2 : lookB ((N, .cells false [.int .i64 s.p, u1, .int .i64 s.w, .int .i64 s.d, .int .i64 s.f, .int .i64 s.c, .int .i64 s.m, .int .i64 s.de, u8]) :: bs) a = some (.cells false (intsL g n)) := by
        simp only [lookB]
        rw [if_neg (by rw [Nat.beq_eq]; omega)]
        exact ha
      refine evCall_hd (orH_r (canH_other rfl) (orH_r (setLH_other rfl) (orH_l ?_)))
      refine setTCH_go (kb _ hb2) (seeT_of ha2 (by omega)) (by omega) rfl ?_
      show some (Value.int .i64 (s.cd _ n c d)) = _
      rw [cd_zero he hn hP hc hd hte]
    · intro H hH
      have hb2 : ∀ j, j < M + 1 → lookB H.bs j = lookB ((M, .cells false [.int .i64 s.p, u1, .int .i64 s.w, .int .i64 s.d, .int .i64 s.f, .int .i64 s.c, .int .i64 s.m, .int .i64 s.de, u8]) :: b1) j := fun j hj => (hH j (by omega)).trans (hk j hj)
      refine evCall_hd (orH_r (canH_other rfl) (orH_r (setLH_other rfl) (orH_r (setTCH_other rfl) (orH_l ?_))))
      cases H
      refine setH_goL (kb _ hb2) rfl ?_
      show some (Value.int .i64 s.full) = _
      rw [hF]
    · intro M2 b x2 off m k r g2 h1 h2 h3 h4
      have hEc : E RB l 7 (.func (.func 73) #[] #[]) [.slice (some ⟨x2, off, none⟩) m 1] ⟨M2, b⟩ = _ := evCall_fn FCop (orH_r (canH_other rfl) (orH_r (setLH_other rfl) (orH_r (setTCH_other rfl) (orH_r (setH_other rfl) (orH_r (EQ_other rfl) rfl)))))
      rw [hEc]
      rcases copied_ev2 (L := l) (E RB l 6) M2 b x2 off m k r g2 h1 (by omega) h4 with e | e
      · have m0 : ¬ m = 0 := by omega
        simp only [newV, newM, m0, if_false] at e
        exact e
      · omega
    · intro M2 b hM2
      have hEc : E RB l 7 (.func (.func 73) #[] #[]) [.slice (some ⟨0, 0, some 0⟩) 0 1] ⟨M2, b⟩ = _ := evCall_fn FCop (orH_r (canH_other rfl) (orH_r (setLH_other rfl) (orH_r (setTCH_other rfl) (orH_r (setH_other rfl) (orH_r (EQ_other rfl) rfl)))))
      rw [hEc]
      exact copied_ev0 (L := l) (E RB l 6) M2 b hM2.2 _ _
  · intro nx b ha hb c1 c2 R hM hA hB hR hl2
    have hEs : E RB l 8 (.func (.func 35) #[] #[]) [.slice (some ⟨ha, 0, none⟩) P 1, .slice (some ⟨hb, 0, none⟩) P 1] ⟨nx, b⟩ = _ := evCall_fn FSame (orH_r (canH_other rfl) (orH_r (setLH_other rfl) (orH_r (setTCH_other rfl) (orH_r (setH_other rfl) (orH_r (EQ_other rfl) rfl)))))
    rw [hEs]
    refine same_ev (L := l) (E RB l 7) (by omega) hM hA hB fun j hj => ?_
    refine evCall_hd (orH_r (canH_other rfl) (orH_r (setLH_other rfl) (orH_r (setTCH_other rfl) (orH_r (setH_other rfl) (orH_l ?_)))))
    exact EQ_lst (R j) _ _ ⟨nx, roB b⟩ (ro := true) (ro2 := true) (hR j) (fun hne => (hl2 j hj hne).1) (fun hne => lookB_roB_cells _ _ _ _ (hl2 j hj hne).2.1 hM.1) (fun hne => lookB_roB_cells _ _ _ _ (hl2 j hj hne).2.2 hM.1)
  · intro li a b H r1 r2 h1 h2 h3 h4
    exact evCall_hd (orH_r (canH_other rfl) (orH_r (setLH_other rfl) (orH_r (setTCH_other rfl) (orH_r (setH_other rfl) (orH_l (EQ_lst li a b H h1 h2 h3 h4))))))


end

section
open Go.RowKit Go.ChangeShapes Go.WideShapes
set_option linter.unusedSimpArgs false
set_option linter.unusedVariables false

/-- A list of pairs of integers as it lies in a world. -/
def PL (w : World) (u : Value) (n : Nat) (g : Nat → Int) : Prop :=
  (n = 0 ∧ (u = .slice none 0 0 ∨ ∃ a cap, u = .slice (some a) 0 cap)) ∨
  (0 < n ∧ ∃ (b o cap : Nat) (e : TypeId) (fz : Nat × Nat) (ccs : Array Value), u = .slice (some ⟨b, o, none⟩) n cap ∧ n ≤ cap ∧ w.heap[b]? = some (.cells ccs e fz) ∧ ∀ j : Nat, j < 2 * n → ccs[o + j]? = some (.int .i64 (g j)))

theorem cell_spot {w : World} {a : Addr} {v : Value} (h : w.cell? a = some v) : a.spot = none ∧ ∃ c e fz, w.heap[a.block]? = some (.cells c e fz) ∧ c[a.off]? = some v := by
  unfold World.cell? at h
  split at h
  · rename_i c e fz hc
    split at h
    · cases h
    · rename_i hs
      exact ⟨by simpa using hs, c, e, fz, hc, h⟩
  · cases h

/-- A list of pairs as the runs take it: of length 0, or with cells. -/
def limV : Nat → Value
  | 0 => .slice (some ⟨0, 0, some 1⟩) 0 0
  | n + 1 => .slice (some ⟨0, 0, none⟩) (n + 1) 2

theorem PL.rel {w : World} {u : Value} {n : Nat} {g : Nat → Int} (h : PL w u n g) (h0 : ∃ c e fz, w.heap[0]? = some (.cells c e fz)) : ∃ x : Nat × Nat × Nat,
    (∀ (ρ : BMap), ρ 0 = some x → VRel ρ (limV n) u) ∧ (∀ (ρ : BMap), BRel ρ w.heap.size w x (.cells true (intsL g (2 * n)))) := by
  have lt : ∀ k o, w.heap[k]? = some o → k < w.heap.size := fun k o ho => (Array.getElem?_eq_some_iff.1 ho).1
  rcases h with ⟨rfl, hu⟩ | ⟨hn, b, o, cap, e, fz, ccs, rfl, hl, hb, hc⟩
  · obtain ⟨c, e, fz, hc⟩ := h0
    refine ⟨(0, 0, 0), fun ρ _ => ?_, fun ρ => ⟨c, e, fz, hc, fun j v hv => by simp [intsL] at hv, ?_, by simp [intsL]⟩⟩
    · rcases hu with rfl | ⟨a, cap, rfl⟩
      · exact .rnil
      · exact .rnone
    · simpa using lt _ _ hc
  · obtain ⟨m, rfl⟩ : ∃ m, n = m + 1 := ⟨n - 1, by omega⟩
    refine ⟨(b, o, cap * 2), fun ρ hi => ?_, fun ρ => ⟨ccs, e, fz, hb, fun j v hv => ?_, ?_, by rw [intsL_len]; show 2 * (m + 1) ≤ cap * 2; omega⟩⟩
    · exact VRel.slice (off := 0) hi hl (by omega)
    · have hj : j < 2 * (m + 1) := by
        have := (List.getElem?_eq_some_iff.1 hv).1
        rwa [intsL_len] at this
      rw [intsL_at _ _ _ hj] at hv
      cases hv
      exact ⟨_, hc j hj, .int _ _⟩
    · simpa using lt _ _ hb


end

section
open Go.RowKit Go.ChangeShapes Go.WideShapes
set_option linter.unusedSimpArgs false
set_option linter.unusedVariables false

/-- A list of integers as it lies in a world. -/
def IL (w : World) (u : Value) (n : Nat) (g : Nat → Int) : Prop :=
  (n = 0 ∧ (u = .slice none 0 0 ∨ ∃ a cap, u = .slice (some a) 0 cap)) ∨
  (0 < n ∧ ∃ (b o cap : Nat) (e : TypeId) (fz : Nat × Nat) (ccs : Array Value), u = .slice (some ⟨b, o, none⟩) n cap ∧ n ≤ cap ∧ cap ≤ maxLen ∧ w.heap[b]? = some (.cells ccs e fz) ∧ ∀ j : Nat, j < n → ccs[o + j]? = some (.int .i64 (g j)))

theorem ints_open {H : Type} {enc : TypeId × Value → H} {P : Program} {w : World} {fuel : Nat} {t e : TypeId} {cs : List Value} {x : DataW H × List MemPlace} (ht : P.underlying t = some (.slice e)) (he : P.underlying e = some (.int .i64)) (hc : P.cellsOf e = 1)
    (h : DataW.trod enc P w 0 (fun _ => true) true fuel t cs = some x) : ∃ (u : Value) (n : Nat) (g : Nat → Int), cs = [u] ∧ IL w u n g := by
  rcases open_ints ht he hc h with ⟨rfl, _⟩ | ⟨a, len, cap, zs, rfl, _, hl, hmx, hz, _, hcell, _⟩
  · exact ⟨_, 0, fun _ => 0, rfl, .inl ⟨rfl, .inl rfl⟩⟩
  · have hz' : zs.length = cap := by simpa using hz
    refine ⟨_, len, fun j => zs.getD j 0, rfl, ?_⟩
    by_cases h0 : len = 0
    · subst h0
      exact .inl ⟨rfl, .inr ⟨a, cap, rfl⟩⟩
    · have hfirst := hcell 0 (by omega)
      have ha0 : a.add 0 = a := by simp [Addr.add]
      rw [ha0] at hfirst
      obtain ⟨hs, c, e', fz, hb, _⟩ := cell_spot hfirst
      obtain ⟨b, o, sp⟩ := a
      simp only at hs hb
      subst hs
      refine .inr ⟨by omega, b, o, cap, e', fz, c, rfl, hl, hmx, hb, fun j hj => ?_⟩
      have hj' := hcell j (by omega)
      rw [addr_add] at hj'
      obtain ⟨_, c', e2, fz2, hb2, hv⟩ := cell_spot hj'
      simp only at hb2 hv
      rw [hb] at hb2
      cases hb2
      exact hv

/-- A list of integers as the runs take it, of block 0. -/
def intV : Nat → Value
  | 0 => .slice (some ⟨0, 0, some 1⟩) 0 0
  | n + 1 => .slice (some ⟨0, 0, none⟩) (n + 1) 1

theorem IL.max {w : World} {u : Value} {n : Nat} {g : Nat → Int} (h : IL w u n g) : n ≤ maxLen := by
  rcases h with ⟨rfl, _⟩ | ⟨_, _, _, _, _, _, _, _, h1, h2, _⟩
  · exact Nat.zero_le _
  · exact Nat.le_trans h1 h2

theorem IL.rel {w : World} {u : Value} {n : Nat} {g : Nat → Int} (h : IL w u n g) (h0 : ∃ c e fz, w.heap[0]? = some (.cells c e fz)) : ∃ x : Nat × Nat × Nat,
    (∀ (ρ : BMap), ρ 0 = some x → VRel ρ (intV n) u) ∧ (∀ (ρ : BMap), BRel ρ w.heap.size w x (.cells true (intsL g n))) := by
  have lt : ∀ k o, w.heap[k]? = some o → k < w.heap.size := fun k o ho => (Array.getElem?_eq_some_iff.1 ho).1
  rcases h with ⟨rfl, hu⟩ | ⟨hn, b, o, cap, e, fz, ccs, rfl, hl, _, hb, hc⟩
  · obtain ⟨c, e, fz, hc⟩ := h0
    refine ⟨(0, 0, 0), fun ρ _ => ?_, fun ρ => ⟨c, e, fz, hc, fun j v hv => by simp [intsL] at hv, ?_, by simp [intsL]⟩⟩
    · rcases hu with rfl | ⟨a, cap, rfl⟩
      · exact .rnil
      · exact .rnone
    · simpa using lt _ _ hc
  · obtain ⟨m, rfl⟩ : ∃ m, n = m + 1 := ⟨n - 1, by omega⟩
    refine ⟨(b, o, cap * 1), fun ρ hi => ?_, fun ρ => ⟨ccs, e, fz, hb, fun j v hv => ?_, ?_, by rw [intsL_len]; show m + 1 ≤ cap * 1; omega⟩⟩
    · exact VRel.slice (off := 0) hi hl (by omega)
    · have hj : j < m + 1 := by
        have := (List.getElem?_eq_some_iff.1 hv).1
        rwa [intsL_len] at this
      rw [intsL_at _ _ _ hj] at hv
      cases hv
      exact ⟨_, hc j hj, .int _ _⟩
    · simpa using lt _ _ hb


end

end Go.Proofs.Ytjginpeoblilpaa
