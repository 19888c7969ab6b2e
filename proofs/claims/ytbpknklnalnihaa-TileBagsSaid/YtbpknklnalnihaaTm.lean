/-
  What is proved: the bag that the document makes of tiles.
-/
import Derived.Test.YtbpknklnalnihaaTl
namespace Go.Proofs.Ytbpknklnalnihaa
open Go.RowKit
set_option linter.unusedSimpArgs false
set_option linter.unusedVariables false


theorem Nkinds : ((tabT Try.prog) 24).map (fun z => (z.ex.nat 17, z.ex.mnz 17)) = some (none, none) := by kernel_rfl
theorem Ckinds (call : Value → List Value → AH → Option (Value × AH)) {tm : Tm} {k : Nat} {H : AH} {d : Option Tmp} {t : TypeId} {p : String} {a : Array Edge} {gd : Option (Nat × Bool)} : evOp (tabT Try.prog) call ⟨d, .call ⟨.value (.func 17), #[.tmp k], #[24]⟩, t, p, a, gd⟩ (opd tm) H = call (.func (.func 17) #[] #[]) [tm.get k] H :=
  evOp_evO.trans (eo_call1 rfl rfl Nkinds)
theorem lookB_roB_ints : ∀ (bs : List (Nat × ABlk)) (i : Nat) (g : Nat → Int), lookB bs i = some (.ints g) → decrK bs = true → lookB (roB bs) i = some (.ints g)
  | [], i, g, h, _ => by cases h
  | (j, k) :: r, i, g, h, hd => by
    have hd' : decrK r = true := by
      cases r with
      | nil => rfl
      | cons q r =>
        obtain ⟨a, b⟩ := q
        simp only [decrK, Bool.and_eq_true] at hd
        exact hd.2
    simp only [lookB] at h
    split at h
    · rename_i hb
      cases h
      simp only [roB, roK, lookB, hb, if_true]
    · rename_i hb
      have ih := lookB_roB_ints r i g h hd'
      simp only [roB]
      split
      · simp only [lookB, hb, Bool.false_eq_true, if_false, ih]
      · exact ih

noncomputable def I6 (s : SV) (t : Nat → Int) (n k N : Nat) (bs : List (Nat × ABlk)) (m : Nat) (A : AF) (H : AH) : Prop := ∃ (i : Nat), i + m = n ∧ A.tm.n = 46 ∧ A.marks = [] ∧ A.tm.get 8 = .int .i64 (i : Int) ∧ A.tm.get 1 = .slice (some ⟨2, 0, some 1⟩) n 0 ∧ A.tm.get 2 = .pointer (some ⟨N, 0, none⟩) ∧ A.tm.get 7 = .slice (some ⟨N + 1, 0, none⟩) k 1 ∧ H = hpB s t k N bs i
noncomputable def Q6 (s : SV) (t : Nat → Int) (n k N : Nat) (bs : List (Nat × ABlk)) (y : AX) (A' : AF) (H : AH) : Prop := y = .exit 0 ∧ A'.tm.n = 46 ∧ A'.marks = [] ∧ A'.tm.get 7 = .slice (some ⟨N + 1, 0, none⟩) k 1 ∧ H = hpB s t k N bs n
theorem kp6 : (kpT 6, gcT 6) = (false, false) := by kernel_rfl

set_option maxRecDepth 10000 in
set_option maxHeartbeats 8000000 in
theorem rbag_ev (call : Value → List Value → AH → Option (Value × AH)) (s : SV) (t : Nat → Int) (n k N : Nat) (bs : List (Nat × ABlk)) (hn : n ≤ 200) (he : s.err = 0) (ht : tErr s t n 0 = 0) (hk : s.plain = (k : Int)) (H0 : lookB bs 0 = some (.ints s.g)) (H1 : lookB bs 1 = some (.ints s.h)) (H2 : lookB bs 2 = some (.ints t)) (hN : 3 ≤ N) (hM : MI ⟨N, bs⟩)
    (hct : ∀ (H : AH), lookB H.bs 0 = some (.ints s.g) → lookB H.bs 1 = some (.ints s.h) → lookB H.bs 2 = some (.ints t) → call (.func (.func 16) #[] #[]) [s.val, sl2 n] H = some (.int .i64 (tErr s t n 0), H)) (h15 : ∀ (H : AH), lookB H.bs 0 = some (.ints s.g) → lookB H.bs 1 = some (.ints s.h) → call (.func (.func 15) #[] #[]) [s.val] H = some (.int .i64 s.err, H)) (h17 : ∀ (H : AH), lookB H.bs 0 = some (.ints s.g) → lookB H.bs 1 = some (.ints s.h) → call (.func (.func 17) #[] #[]) [s.val] H = some (.int .i64 s.kinds, H)) (h18 : ∀ (x : Int) (H : AH), lookB H.bs 0 = some (.ints s.g) → lookB H.bs 1 = some (.ints s.h) → call (.func (.func 18) #[] #[]) [s.val, .int .i64 x] H = some (.int .i64 (s.kindOf x), H)) :
    evFn (tabT Try.prog) call 300 kpT 6 Try.f6 [s.val, sl2 n] ⟨N, bs⟩ = some (.tuple #[bagV N k, .int .i64 0], hpB s t k N bs n) := by
  rw [ht] at hct
  rw [he] at h15
  have hkk : s.kinds = (k : Int) := by simp [SV.kinds, he, hk]
  have hp := (size_bounds he).2.1
  have hmk0 := fun H => MK22 H k (by omega)
  have n0 : ¬ 0 = N := by omega
  have n1 : ¬ 1 = N := by omega
  have n2 : ¬ 2 = N := by omega
  have m0 : ¬ N = 0 := by omega
  have m1 : ¬ N = 1 := by omega
  have m2 : ¬ N = 2 := by omega
  have kp := kp6
  simp only [Prod.mk.injEq] at kp
  obtain ⟨kp1, kp2⟩ := kp
  have R0 := lookB_roB_ints _ _ _ H0 hM.1
  have R1 := lookB_roB_ints _ _ _ H1 hM.1
  have R2 := lookB_roB_ints _ _ _ H2 hM.1
  have hD := fun (i : Nat) => ((hM.push (.cells false s.cs)).push (.cells false (bagC s t k i))).1
  simp only [SV.val, sl2, hkk] at hct h15 h17 h18
  simp only [evFn, Try.f6, SV.val, sl2, bagV]
  simp [ec_skip, ec_label, ek_reg, ek_draw, ek_seq, ec_cond, ek_block, ec_loop, ec_exit, ec_ret, ec_scope, ek_nil, ek_op, opK_some, regK_some, seqK_normal, seqK_exit, seqK_ret, blockK_normal, blockK_exit, blockK_ret, evOp, vOp, hOpB, hOpU, hOp, hOpT, aWanted, aYielded, opd, putT, closedV, aBin, intOp, sameK, mapO, joinR, hasAddr, boundOf, pushB, aAlloc, Value.cells, lookB, setB, Nat.beq_eq, tm_n_set, tm_get_set, tm_of_n, tm_of_get, tm_tr_set, tm_tr_of, cellV, putF, appR_eq, takeR_eq, dropR_eq, setR_eq, getR_eq, ↓C75, ↓C76, ↓C77, ↓C79, ↓C17, ↓C18, ↓C22, ↓C71, FA24_0, FA24_1, FA24_2, FA24_3, FA24_4, FA24_5, FA24_6, FA24_7, FA24_8, LD3, LD4, LD22, LD27, LDr, LD24, LEN22, IA22, tkc, cellAt, SV.cs, hpB, ↓Ckind, ↓Crct, ↓Ckinds, ST3, MK22, MKT22, H0, H1, H2, n0, n1, n2, m0, m1, m2, hct, h15, h17, hmk0]
  generalize hr : evLoop _ _ _ _ = r
  obtain ⟨y, A', H', rfl, rfl, hl, hmk, h7, rfl⟩ := loop_go (Q := Q6 s t n k N bs) hr (I6 s t n k N bs) n (by omega) ⟨0, by omega, rfl, rfl, rfl, rfl, rfl, rfl, rfl⟩ (by
    clear hr
    rintro m A H ⟨i, him, hl, hmk, h8, h1, h2, h7, rfl⟩
    simp only [runC]
    cases m with
    | zero =>
      have hi : ¬ i < n := by omega
      obtain rfl : i = n := by omega
      simp [ec_skip, ec_label, ek_reg, ek_draw, ek_seq, ec_cond, ek_block, ec_loop, ec_exit, ec_ret, ec_scope, ek_nil, ek_op, opK_some, regK_some, seqK_normal, seqK_exit, seqK_ret, blockK_normal, blockK_exit, blockK_ret, evOp, vOp, hOpB, hOpU, hOp, hOpT, aWanted, aYielded, opd, putT, closedV, aBin, intOp, sameK, mapO, joinR, hasAddr, boundOf, pushB, aAlloc, Value.cells, lookB, setB, Nat.beq_eq, tm_n_set, tm_get_set, tm_of_n, tm_of_get, tm_tr_set, tm_tr_of, cellV, putF, appR_eq, takeR_eq, dropR_eq, setR_eq, getR_eq, ↓C75, ↓C76, ↓C77, ↓C79, ↓C17, ↓C18, ↓C22, ↓C71, FA24_0, FA24_1, FA24_2, FA24_3, FA24_4, FA24_5, FA24_6, FA24_7, FA24_8, LD3, LD4, LD22, LD27, LDr, LD24, LEN22, IA22, tkc, cellAt, SV.cs, hpB, ↓Ckind, ↓Crct, ↓Ckinds, ST3, MK22, MKT22, H0, H1, H2, n0, n1, n2, m0, m1, m2, hl, hmk, h8, h1, h2, h7]
      exact .inr ⟨by simp, rfl, by simp [tm_n_set, hl], rfl, by simp [tm_get_set, tm_n_set, hl, h7], rfl⟩
    | succ m =>
      have hi : i < n := by omega
      have hw : wrapI .i64 ((i : Int) + 1) = ((i + 1 : Nat) : Int) := by rw [wrapI_small (by omega) (by omega)]; rfl
      have hb := tErr_in ht i (by omega) (by omega)
      obtain ⟨e1, e2⟩ := kindOf_in hb
      obtain ⟨q, hq⟩ : ∃ q : Nat, s.kindOf (t i) = (q : Int) := ⟨(s.kindOf (t i)).toNat, by omega⟩
      have h18' := fun (H : AH) => h18 (t i) H
      rw [hq] at h18'
      have hcb := cntK_bnd s t i q
      simp [ec_skip, ec_label, ek_reg, ek_draw, ek_seq, ec_cond, ek_block, ec_loop, ec_exit, ec_ret, ec_scope, ek_nil, ek_op, opK_some, regK_some, seqK_normal, seqK_exit, seqK_ret, blockK_normal, blockK_exit, blockK_ret, evOp, vOp, hOpB, hOpU, hOp, hOpT, aWanted, aYielded, opd, putT, closedV, aBin, intOp, sameK, mapO, joinR, hasAddr, boundOf, pushB, aAlloc, Value.cells, lookB, setB, Nat.beq_eq, tm_n_set, tm_get_set, tm_of_n, tm_of_get, tm_tr_set, tm_tr_of, cellV, putF, appR_eq, takeR_eq, dropR_eq, setR_eq, getR_eq, ↓C75, ↓C76, ↓C77, ↓C79, ↓C17, ↓C18, ↓C22, ↓C71, FA24_0, FA24_1, FA24_2, FA24_3, FA24_4, FA24_5, FA24_6, FA24_7, FA24_8, LD3, LD4, LD22, LD27, LDr, LD24, LEN22, IA22, tkc, cellAt, SV.cs, hpB, ↓Ckind, ↓Crct, ↓Ckinds, ST3, MK22, MKT22, H0, H1, H2, n0, n1, n2, m0, m1, m2, hl, hmk, h8, h1, h2, h7, hi]
      generalize hX : evDrawX _ _ _ _ _ = X
      obtain ⟨tm, rfl, hn', t9, t8, t1, t2, t7⟩ := draw_ro (Pt := fun tm => tm.get 9 = .int .i64 (q : Int) ∧ tm.get 8 = .int .i64 (i : Int) ∧ tm.get 1 = .slice (some ⟨2, 0, some 1⟩) n 0 ∧ tm.get 2 = .pointer (some ⟨N, 0, none⟩) ∧ tm.get 7 = .slice (some ⟨N + 1, 0, none⟩) k 1) hX (by kernel_rfl) (hD i) (by
        clear hX
        generalize befs _ = M
        simp [mapO, drRun, drOp, dr3, looks, guardT, tmpsOf, Op.operands, Call.operands, wantedR, gOf, finT, natMem, isNil, writesF, evOp, vOp, hOpB, hOpU, hOp, hOpT, opd, closedV, aBin, intOp, sameK, opdO, boundOf, undef, lookB, Nat.beq_eq, tm_n_set, tm_get_set, tm_of_n, tm_of_get, tm_tr_set, tm_tr_of, b02, b12, b32, ↓G75, W75, ↓G76, W76, ↓G77, W77, ↓G79, W79, ↓G17, W17, ↓G18, W18, ↓G22, W22, ↓G71, W71, tv, all1, roB, roK, news, newOnes, decr, tkc, cellAt, LD3, LD4, LD22, LD27, LDr, LD24, LEN22, IA22, ↓Gkind, Wkind, SV.cs, hl, h8, h1, h2, h7, hi, h18', R0, R1, R2, n0, n1, n2, m0, m1, m2, Nat.ble_eq, hasR]
        refine ⟨by simp [dynOK, b02, b12, b32], by simp [wheap, news, b02, b12, b32]⟩)
      clear hX
      simp [tm_n_set, hl] at hn'
      by_cases c : q < k
      · have hix := IX22p (N + 1) k q c
        have hset := bagC_set s t k i q c hq
        have hlen := bagC_len s t k i
        have hw2 : wrapI .i64 (cntK s t i q + 1) = cntK s t i q + 1 := wrapI_small (by omega) (by omega)
        have hbl : Nat.ble (q + 1) k = true := by rw [Nat.ble_eq]; omega
        simp [ec_skip, ec_label, ek_reg, ek_draw, ek_seq, ec_cond, ek_block, ec_loop, ec_exit, ec_ret, ec_scope, ek_nil, ek_op, opK_some, regK_some, seqK_normal, seqK_exit, seqK_ret, blockK_normal, blockK_exit, blockK_ret, evOp, vOp, hOpB, hOpU, hOp, hOpT, aWanted, aYielded, opd, putT, closedV, aBin, intOp, sameK, mapO, joinR, hasAddr, boundOf, pushB, aAlloc, Value.cells, lookB, setB, Nat.beq_eq, tm_n_set, tm_get_set, tm_of_n, tm_of_get, tm_tr_set, tm_tr_of, cellV, putF, appR_eq, takeR_eq, dropR_eq, setR_eq, getR_eq, ↓C75, ↓C76, ↓C77, ↓C79, ↓C17, ↓C18, ↓C22, ↓C71, FA24_0, FA24_1, FA24_2, FA24_3, FA24_4, FA24_5, FA24_6, FA24_7, FA24_8, LD3, LD4, LD22, LD27, LDr, LD24, LEN22, IA22, tkc, cellAt, SV.cs, hpB, ↓Ckind, ↓Crct, ↓Ckinds, ST3, MK22, MKT22, H0, H1, H2, n0, n1, n2, m0, m1, m2, hmk, hn', t9, t8, t1, t2, t7, c, hix, bagC_get, hw2, hlen, hbl, hset]
        refine ⟨_, _, _, ⟨rfl, rfl, rfl⟩, .inl ⟨rfl, m, rfl, i + 1, by omega, ?_⟩⟩
        simp [hpB, SV.cs, tm_get_set, tm_n_set, hmk, hn', t9, t8, t1, t2, t7, hw]
      · have hsame := bagC_same s t k i (by omega)
        simp [ec_skip, ec_label, ek_reg, ek_draw, ek_seq, ec_cond, ek_block, ec_loop, ec_exit, ec_ret, ec_scope, ek_nil, ek_op, opK_some, regK_some, seqK_normal, seqK_exit, seqK_ret, blockK_normal, blockK_exit, blockK_ret, evOp, vOp, hOpB, hOpU, hOp, hOpT, aWanted, aYielded, opd, putT, closedV, aBin, intOp, sameK, mapO, joinR, hasAddr, boundOf, pushB, aAlloc, Value.cells, lookB, setB, Nat.beq_eq, tm_n_set, tm_get_set, tm_of_n, tm_of_get, tm_tr_set, tm_tr_of, cellV, putF, appR_eq, takeR_eq, dropR_eq, setR_eq, getR_eq, ↓C75, ↓C76, ↓C77, ↓C79, ↓C17, ↓C18, ↓C22, ↓C71, FA24_0, FA24_1, FA24_2, FA24_3, FA24_4, FA24_5, FA24_6, FA24_7, FA24_8, LD3, LD4, LD22, LD27, LDr, LD24, LEN22, IA22, tkc, cellAt, SV.cs, hpB, ↓Ckind, ↓Crct, ↓Ckinds, ST3, MK22, MKT22, H0, H1, H2, n0, n1, n2, m0, m1, m2, hmk, hn', t9, t8, t1, t2, t7, c]
        refine ⟨_, _, _, ⟨rfl, rfl, rfl⟩, .inl ⟨rfl, m, rfl, i + 1, by omega, ?_⟩⟩
        simp [hpB, SV.cs, tm_get_set, tm_n_set, hmk, hn', t9, t8, t1, t2, t7, hw, hsame])
  simp [ec_skip, ec_label, ek_reg, ek_draw, ek_seq, ec_cond, ek_block, ec_loop, ec_exit, ec_ret, ec_scope, ek_nil, ek_op, opK_some, regK_some, seqK_normal, seqK_exit, seqK_ret, blockK_normal, blockK_exit, blockK_ret, evOp, vOp, hOpB, hOpU, hOp, hOpT, aWanted, aYielded, opd, putT, closedV, aBin, intOp, sameK, mapO, joinR, hasAddr, boundOf, pushB, aAlloc, Value.cells, lookB, setB, Nat.beq_eq, tm_n_set, tm_get_set, tm_of_n, tm_of_get, tm_tr_set, tm_tr_of, cellV, putF, appR_eq, takeR_eq, dropR_eq, setR_eq, getR_eq, ↓C75, ↓C76, ↓C77, ↓C79, ↓C17, ↓C18, ↓C22, ↓C71, FA24_0, FA24_1, FA24_2, FA24_3, FA24_4, FA24_5, FA24_6, FA24_7, FA24_8, LD3, LD4, LD22, LD27, LDr, LD24, LEN22, IA22, tkc, cellAt, hl, hmk, h7, finF, takeM, resV, cleanedG, hasAddr, kp1, kp2, hpB, SV.cs]

end Go.Proofs.Ytbpknklnalnihaa
