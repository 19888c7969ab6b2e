/-
  What is proved: the errors of tiles: checkTiles of the document, which looks for each tile among those before it.
-/
import Derived.Test.YtbpknklnalnihaaTi
namespace Go.Proofs.Ytbpknklnalnihaa
open Go.RowKit
set_option linter.unusedSimpArgs false
set_option linter.unusedVariables false

theorem Nface : ((tabT Try.prog) 24).map (fun z => z.ex.nat 14) = some none := by kernel_rfl
theorem Wface : wrT 14 = false := by kernel_rfl
theorem Cface (call : Value → List Value → AH → Option (Value × AH)) {tm : Tm} {j k : Nat} {H : AH} {d : Option Tmp} {t : TypeId} {p : String} {a : Array Edge} {gd : Option (Nat × Bool)} : evOp (tabT Try.prog) call ⟨d, .call ⟨.value (.func 14), #[.tmp j, .tmp k], #[24, 3]⟩, t, p, a, gd⟩ (opd tm) H = call (.func (.func 14) #[] #[]) [tm.get j, tm.get k] H :=
  evOp_evO.trans (eo_call2n rfl rfl rfl Nface)
theorem Gface (call : Value → List Value → AH → Option (Value × AH)) {tm : Tm} {rs : List DR} {ts : List Nat} {j k : Nat} {H : AH} {d : Option Tmp} {t : TypeId} {p : String} {a : Array Edge} {gd : Option (Nat × Bool)} (hj : natMem ts j = true) (hk : natMem ts k = true) : evOp (tabT Try.prog) call ⟨d, .call ⟨.value (.func 14), #[.tmp j, .tmp k], #[24, 3]⟩, t, p, a, gd⟩ (gOf tm rs ts) H = call (.func (.func 14) #[] #[]) [(finT tm rs).get j, (finT tm rs).get k] H :=
  evOp_evO.trans (eo_call2n rfl (by simp only [gOf, hj, if_true]) (by simp only [gOf, hk, if_true]) Nface)
theorem Nkind : ((tabT Try.prog) 24).map (fun z => z.ex.nat 18) = some none := by kernel_rfl
theorem Wkind : wrT 18 = false := by kernel_rfl
theorem Ckind (call : Value → List Value → AH → Option (Value × AH)) {tm : Tm} {j k : Nat} {H : AH} {d : Option Tmp} {t : TypeId} {p : String} {a : Array Edge} {gd : Option (Nat × Bool)} : evOp (tabT Try.prog) call ⟨d, .call ⟨.value (.func 18), #[.tmp j, .tmp k], #[24, 3]⟩, t, p, a, gd⟩ (opd tm) H = call (.func (.func 18) #[] #[]) [tm.get j, tm.get k] H :=
  evOp_evO.trans (eo_call2n rfl rfl rfl Nkind)
theorem Gkind (call : Value → List Value → AH → Option (Value × AH)) {tm : Tm} {rs : List DR} {ts : List Nat} {j k : Nat} {H : AH} {d : Option Tmp} {t : TypeId} {p : String} {a : Array Edge} {gd : Option (Nat × Bool)} (hj : natMem ts j = true) (hk : natMem ts k = true) : evOp (tabT Try.prog) call ⟨d, .call ⟨.value (.func 18), #[.tmp j, .tmp k], #[24, 3]⟩, t, p, a, gd⟩ (gOf tm rs ts) H = call (.func (.func 18) #[] #[]) [(finT tm rs).get j, (finT tm rs).get k] H :=
  evOp_evO.trans (eo_call2n rfl (by simp only [gOf, hj, if_true]) (by simp only [gOf, hk, if_true]) Nkind)
theorem Nred : ((tabT Try.prog) 24).map (fun z => z.ex.nat 19) = some none := by kernel_rfl
theorem Wred : wrT 19 = false := by kernel_rfl
theorem Cred (call : Value → List Value → AH → Option (Value × AH)) {tm : Tm} {j k : Nat} {H : AH} {d : Option Tmp} {t : TypeId} {p : String} {a : Array Edge} {gd : Option (Nat × Bool)} : evOp (tabT Try.prog) call ⟨d, .call ⟨.value (.func 19), #[.tmp j, .tmp k], #[24, 3]⟩, t, p, a, gd⟩ (opd tm) H = call (.func (.func 19) #[] #[]) [tm.get j, tm.get k] H :=
  evOp_evO.trans (eo_call2n rfl rfl rfl Nred)
theorem Gred (call : Value → List Value → AH → Option (Value × AH)) {tm : Tm} {rs : List DR} {ts : List Nat} {j k : Nat} {H : AH} {d : Option Tmp} {t : TypeId} {p : String} {a : Array Edge} {gd : Option (Nat × Bool)} (hj : natMem ts j = true) (hk : natMem ts k = true) : evOp (tabT Try.prog) call ⟨d, .call ⟨.value (.func 19), #[.tmp j, .tmp k], #[24, 3]⟩, t, p, a, gd⟩ (gOf tm rs ts) H = call (.func (.func 19) #[] #[]) [(finT tm rs).get j, (finT tm rs).get k] H :=
  evOp_evO.trans (eo_call2n rfl (by simp only [gOf, hj, if_true]) (by simp only [gOf, hk, if_true]) Nred)
theorem Nhas : ((tabT Try.prog) 22).map (fun z => z.ex.nat 35) = some none := by kernel_rfl
theorem Whas : wrT 35 = false := by kernel_rfl
theorem Chas (call : Value → List Value → AH → Option (Value × AH)) {tm : Tm} {j k : Nat} {H : AH} {d : Option Tmp} {t : TypeId} {p : String} {a : Array Edge} {gd : Option (Nat × Bool)} : evOp (tabT Try.prog) call ⟨d, .call ⟨.value (.func 35), #[.tmp j, .tmp k], #[22, 3]⟩, t, p, a, gd⟩ (opd tm) H = call (.func (.func 35) #[] #[]) [tm.get j, tm.get k] H :=
  evOp_evO.trans (eo_call2n rfl rfl rfl Nhas)
theorem Ghas (call : Value → List Value → AH → Option (Value × AH)) {tm : Tm} {rs : List DR} {ts : List Nat} {j k : Nat} {H : AH} {d : Option Tmp} {t : TypeId} {p : String} {a : Array Edge} {gd : Option (Nat × Bool)} (hj : natMem ts j = true) (hk : natMem ts k = true) : evOp (tabT Try.prog) call ⟨d, .call ⟨.value (.func 35), #[.tmp j, .tmp k], #[22, 3]⟩, t, p, a, gd⟩ (gOf tm rs ts) H = call (.func (.func 35) #[] #[]) [(finT tm rs).get j, (finT tm rs).get k] H :=
  evOp_evO.trans (eo_call2n rfl (by simp only [gOf, hj, if_true]) (by simp only [gOf, hk, if_true]) Nhas)
theorem Nct : ((tabT Try.prog) 24).map (fun z => z.ex.nat 12) = some none := by kernel_rfl
theorem Wct : wrT 12 = false := by kernel_rfl
theorem Cct (call : Value → List Value → AH → Option (Value × AH)) {tm : Tm} {j k : Nat} {H : AH} {d : Option Tmp} {t : TypeId} {p : String} {a : Array Edge} {gd : Option (Nat × Bool)} : evOp (tabT Try.prog) call ⟨d, .call ⟨.value (.func 12), #[.tmp j, .tmp k], #[24, 22]⟩, t, p, a, gd⟩ (opd tm) H = call (.func (.func 12) #[] #[]) [tm.get j, tm.get k] H :=
  evOp_evO.trans (eo_call2n rfl rfl rfl Nct)
theorem Gct (call : Value → List Value → AH → Option (Value × AH)) {tm : Tm} {rs : List DR} {ts : List Nat} {j k : Nat} {H : AH} {d : Option Tmp} {t : TypeId} {p : String} {a : Array Edge} {gd : Option (Nat × Bool)} (hj : natMem ts j = true) (hk : natMem ts k = true) : evOp (tabT Try.prog) call ⟨d, .call ⟨.value (.func 12), #[.tmp j, .tmp k], #[24, 22]⟩, t, p, a, gd⟩ (gOf tm rs ts) H = call (.func (.func 12) #[] #[]) [(finT tm rs).get j, (finT tm rs).get k] H :=
  evOp_evO.trans (eo_call2n rfl (by simp only [gOf, hj, if_true]) (by simp only [gOf, hk, if_true]) Nct)
theorem Nrct : ((tabT Try.prog) 24).map (fun z => z.ex.nat 16) = some none := by kernel_rfl
theorem Wrct : wrT 16 = false := by kernel_rfl
theorem Crct (call : Value → List Value → AH → Option (Value × AH)) {tm : Tm} {j k : Nat} {H : AH} {d : Option Tmp} {t : TypeId} {p : String} {a : Array Edge} {gd : Option (Nat × Bool)} : evOp (tabT Try.prog) call ⟨d, .call ⟨.value (.func 16), #[.tmp j, .tmp k], #[24, 22]⟩, t, p, a, gd⟩ (opd tm) H = call (.func (.func 16) #[] #[]) [tm.get j, tm.get k] H :=
  evOp_evO.trans (eo_call2n rfl rfl rfl Nrct)
theorem Grct (call : Value → List Value → AH → Option (Value × AH)) {tm : Tm} {rs : List DR} {ts : List Nat} {j k : Nat} {H : AH} {d : Option Tmp} {t : TypeId} {p : String} {a : Array Edge} {gd : Option (Nat × Bool)} (hj : natMem ts j = true) (hk : natMem ts k = true) : evOp (tabT Try.prog) call ⟨d, .call ⟨.value (.func 16), #[.tmp j, .tmp k], #[24, 22]⟩, t, p, a, gd⟩ (gOf tm rs ts) H = call (.func (.func 16) #[] #[]) [(finT tm rs).get j, (finT tm rs).get k] H :=
  evOp_evO.trans (eo_call2n rfl (by simp only [gOf, hj, if_true]) (by simp only [gOf, hk, if_true]) Nrct)

theorem slints {T : TypeId → Option TI} {t e : TypeId} {z : Nat} (h1 : (T t).map (·.desc) = some (.slice e)) (h2 : (T e).map (·.size) = some z) (i n k : Nat) (h : k ≤ n) : aSlice T t (.slice (some ⟨i, 0, some 1⟩) n 0) none (some (.int .i64 (k : Int))) = some (.slice (some ⟨i, 0, some 1⟩) k 0) := by
  obtain ⟨_, _, _, _, ht⟩ := tdesc h1
  cases he : T e with
  | none => rw [he] at h2; cases h2
  | some q =>
    have hb : Nat.ble k n = true := by simpa [Nat.ble_eq] using h
    simp [aSlice, bnd, natV, ht, he, hb]
theorem SL22 (i n k : Nat) (h : k ≤ n) : aSlice (tabT Try.prog) 22 (.slice (some ⟨i, 0, some 1⟩) n 0) none (some (.int .i64 (k : Int))) = some (.slice (some ⟨i, 0, some 1⟩) k 0) := slints (e := 3) (z := 1) (by kernel_rfl) (by kernel_rfl) i n k h

theorem kindOf_neg (s : SV) (x : Int) : decide (s.kindOf x < 0) = !s.inB x := by
  unfold SV.kindOf
  cases hb : s.inB x with
  | false => simp
  | true =>
    obtain ⟨_, hc, hp, ha, hz, ht⟩ := tile_of hb
    have := (tdiv_small (c := s.c) (t := x) (by omega) (by omega) hc.1).2
    simp only [if_true, SV.faceK, Bool.not_true, decide_eq_false_iff_not]
    split <;> omega
noncomputable def hpD (s : SV) (t : Nat → Int) : AH := ⟨4, [(3, .cells false s.cs), (2, .ints t), (1, .ints s.h), (0, .ints s.g)]⟩
noncomputable def I16 (s : SV) (t : Nat → Int) (n : Nat) (m : Nat) (A : AF) (H : AH) : Prop := ∃ (i : Nat), i + m = n ∧ tErr s t m i = tErr s t n 0 ∧ A.tm.n = 27 ∧ A.marks = [] ∧ A.tm.get 5 = .int .i64 (i : Int) ∧ A.tm.get 1 = sl2 n ∧ A.tm.get 2 = .pointer (some ⟨3, 0, none⟩) ∧ H = hpD s t
noncomputable def Q16 (s : SV) (t : Nat → Int) (n : Nat) (y : AX) (A' : AF) (_ : AH) : Prop := A'.tm.n = 27 ∧ A'.marks = [] ∧ ((y = .exit 0 ∧ tErr s t n 0 = 0) ∨ (y = .ret ∧ A'.tm.get 4 = .int .i64 (tErr s t n 0)))

set_option maxRecDepth 10000 in
set_option maxHeartbeats 8000000 in
theorem rct_ev (call : Value → List Value → AH → Option (Value × AH)) (s : SV) (t : Nat → Int) (n : Nat) (hn : n ≤ 200) (h18 : ∀ (x : Int) (H : AH), lookB H.bs 0 = some (.ints s.g) → lookB H.bs 1 = some (.ints s.h) → call (.func (.func 18) #[] #[]) [s.val, .int .i64 x] H = some (.int .i64 (s.kindOf x), H)) (h35 : ∀ (i n : Nat) (g : Nat → Int) (x : Int) (H : AH), lookB H.bs i = some (.ints g) → call (.func (.func 35) #[] #[]) [.slice (some ⟨i, 0, some 1⟩) n 0, .int .i64 x] H = some (.bool (hasG g n x), H)) : ∃ H', evFn (tabT Try.prog) call 300 kpT 16 Try.f16 [s.val, sl2 n] (hpT s t) = some (.int .i64 (tErr s t n 0), H') := by
  simp only [SV.val] at h18
  have h35' := fun (k : Nat) (x : Int) (H : AH) => h35 2 k t x H
  simp only [evFn, Try.f16, SV.val, hpT, sl2]
  simp [ec_skip, ec_label, ek_reg, ek_draw, ek_seq, ec_cond, ek_block, ec_loop, ec_exit, ec_ret, ec_scope, ek_nil, ek_op, opK_some, regK_some, seqK_normal, seqK_exit, seqK_ret, blockK_normal, blockK_exit, blockK_ret, evOp, vOp, hOpB, hOpU, hOp, hOpT, aWanted, aYielded, opd, putT, closedV, aBin, intOp, sameK, mapO, joinR, hasAddr, boundOf, pushB, aAlloc, Value.cells, lookB, setB, Nat.beq_eq, tm_n_set, tm_get_set, tm_of_n, tm_of_get, tm_tr_set, tm_tr_of, cellV, putF, appR_eq, takeR_eq, dropR_eq, setR_eq, getR_eq, ↓C75, ↓C76, ↓C77, ↓C79, ↓C17, ↓C18, ↓C22, ↓C71, FA24_0, FA24_1, FA24_2, FA24_3, FA24_4, FA24_5, FA24_6, FA24_7, FA24_8, LD3, LD4, LD22, LD27, LDr, LD24, LEN22, IA22, tkc, cellAt, SV.cs, hpD, sl2, ↓Ckind, ↓Chas]
  generalize hr : evLoop _ _ _ _ = r
  obtain ⟨y, A', H', rfl, hl, hmk, hx⟩ := loop_go (Q := Q16 s t n) hr (I16 s t n) n (by omega) ⟨0, by omega, rfl, rfl, rfl, rfl, rfl, rfl, rfl⟩ (by
    clear hr
    rintro m A H ⟨i, him, hres, hl, hmk, h5, h1, h2, rfl⟩
    simp only [runC]
    cases m with
    | zero =>
      have hi : ¬ i < n := by omega
      rw [tErr] at hres
      simp [ec_skip, ec_label, ek_reg, ek_draw, ek_seq, ec_cond, ek_block, ec_loop, ec_exit, ec_ret, ec_scope, ek_nil, ek_op, opK_some, regK_some, seqK_normal, seqK_exit, seqK_ret, blockK_normal, blockK_exit, blockK_ret, evOp, vOp, hOpB, hOpU, hOp, hOpT, aWanted, aYielded, opd, putT, closedV, aBin, intOp, sameK, mapO, joinR, hasAddr, boundOf, pushB, aAlloc, Value.cells, lookB, setB, Nat.beq_eq, tm_n_set, tm_get_set, tm_of_n, tm_of_get, tm_tr_set, tm_tr_of, cellV, putF, appR_eq, takeR_eq, dropR_eq, setR_eq, getR_eq, ↓C75, ↓C76, ↓C77, ↓C79, ↓C17, ↓C18, ↓C22, ↓C71, FA24_0, FA24_1, FA24_2, FA24_3, FA24_4, FA24_5, FA24_6, FA24_7, FA24_8, LD3, LD4, LD22, LD27, LDr, LD24, LEN22, IA22, tkc, cellAt, SV.cs, hpD, sl2, ↓Ckind, ↓Chas, hl, hmk, h5, h1, h2, hi]
      exact .inr ⟨by simp, by simp [tm_n_set, hl], rfl, .inl ⟨rfl, hres.symm⟩⟩
    | succ m =>
      have hi : i < n := by omega
      have hw : wrapI .i64 ((i : Int) + 1) = ((i + 1 : Nat) : Int) := by rw [wrapI_small (by omega) (by omega)]; rfl
      have hsl := SL22 2 n i (by omega)
      have hk := kindOf_neg s (t i)
      rw [tErr] at hres
      simp [ec_skip, ec_label, ek_reg, ek_draw, ek_seq, ec_cond, ek_block, ec_loop, ec_exit, ec_ret, ec_scope, ek_nil, ek_op, opK_some, regK_some, seqK_normal, seqK_exit, seqK_ret, blockK_normal, blockK_exit, blockK_ret, evOp, vOp, hOpB, hOpU, hOp, hOpT, aWanted, aYielded, opd, putT, closedV, aBin, intOp, sameK, mapO, joinR, hasAddr, boundOf, pushB, aAlloc, Value.cells, lookB, setB, Nat.beq_eq, tm_n_set, tm_get_set, tm_of_n, tm_of_get, tm_tr_set, tm_tr_of, cellV, putF, appR_eq, takeR_eq, dropR_eq, setR_eq, getR_eq, ↓C75, ↓C76, ↓C77, ↓C79, ↓C17, ↓C18, ↓C22, ↓C71, FA24_0, FA24_1, FA24_2, FA24_3, FA24_4, FA24_5, FA24_6, FA24_7, FA24_8, LD3, LD4, LD22, LD27, LDr, LD24, LEN22, IA22, tkc, cellAt, SV.cs, hpD, sl2, ↓Ckind, ↓Chas, hl, hmk, h5, h1, h2, hi]
      generalize hX : evDrawX _ _ _ _ _ = X
      obtain ⟨tm, rfl, hn', t18, t5, t1, t2⟩ := draw_ro (Pt := fun tm => tm.get 18 = .bool (!s.inB (t i)) ∧ tm.get 5 = .int .i64 (i : Int) ∧ tm.get 1 = .slice (some ⟨2, 0, some 1⟩) n 0 ∧ tm.get 2 = .pointer (some ⟨3, 0, none⟩)) hX (by kernel_rfl) (by simp [decrK, Nat.blt_eq]) (by
        clear hX
        generalize befs _ = M
        simp [mapO, drRun, drOp, dr3, looks, guardT, tmpsOf, Op.operands, Call.operands, wantedR, gOf, finT, natMem, isNil, writesF, evOp, vOp, hOpB, hOpU, hOp, hOpT, opd, closedV, aBin, intOp, sameK, opdO, boundOf, undef, lookB, Nat.beq_eq, tm_n_set, tm_get_set, tm_of_n, tm_of_get, tm_tr_set, tm_tr_of, b02, b12, b32, ↓G75, W75, ↓G76, W76, ↓G77, W77, ↓G79, W79, ↓G17, W17, ↓G18, W18, ↓G22, W22, ↓G71, W71, tv, all1, roB, roK, news, newOnes, decr, tkc, cellAt, LD3, LD4, LD22, LD27, LDr, LD24, LEN22, IA22, ↓Gkind, ↓Ghas, Wkind, Whas, SV.cs, sl2, hl, h5, h1, h2, hi, h18, hk, Nat.ble_eq, hasR]
        refine ⟨by simp [dynOK, b02, b12, b32], by simp [wheap, news, b02, b12, b32]⟩)
      clear hX
      simp [tm_n_set, hl] at hn'
      cases c2 : s.inB (t i) with
      | false =>
        rw [if_pos c2] at hres
        rw [c2] at t18
        simp [ec_skip, ec_label, ek_reg, ek_draw, ek_seq, ec_cond, ek_block, ec_loop, ec_exit, ec_ret, ec_scope, ek_nil, ek_op, opK_some, regK_some, seqK_normal, seqK_exit, seqK_ret, blockK_normal, blockK_exit, blockK_ret, evOp, vOp, hOpB, hOpU, hOp, hOpT, aWanted, aYielded, opd, putT, closedV, aBin, intOp, sameK, mapO, joinR, hasAddr, boundOf, pushB, aAlloc, Value.cells, lookB, setB, Nat.beq_eq, tm_n_set, tm_get_set, tm_of_n, tm_of_get, tm_tr_set, tm_tr_of, cellV, putF, appR_eq, takeR_eq, dropR_eq, setR_eq, getR_eq, ↓C75, ↓C76, ↓C77, ↓C79, ↓C17, ↓C18, ↓C22, ↓C71, FA24_0, FA24_1, FA24_2, FA24_3, FA24_4, FA24_5, FA24_6, FA24_7, FA24_8, LD3, LD4, LD22, LD27, LDr, LD24, LEN22, IA22, tkc, cellAt, SV.cs, hpD, sl2, ↓Ckind, ↓Chas, hmk, hn', t18, t5, t1, t2]
        exact ⟨_, _, _, ⟨rfl, rfl, rfl⟩, .inr ⟨by simp, by simp [tm_n_set, hn'], rfl, .inr ⟨rfl, by simp [tm_get_set, tm_n_set, hn', ← hres]⟩⟩⟩
      | true =>
        rw [if_neg (by simp [c2])] at hres
        rw [c2] at t18
        simp [ec_skip, ec_label, ek_reg, ek_draw, ek_seq, ec_cond, ek_block, ec_loop, ec_exit, ec_ret, ec_scope, ek_nil, ek_op, opK_some, regK_some, seqK_normal, seqK_exit, seqK_ret, blockK_normal, blockK_exit, blockK_ret, evOp, vOp, hOpB, hOpU, hOp, hOpT, aWanted, aYielded, opd, putT, closedV, aBin, intOp, sameK, mapO, joinR, hasAddr, boundOf, pushB, aAlloc, Value.cells, lookB, setB, Nat.beq_eq, tm_n_set, tm_get_set, tm_of_n, tm_of_get, tm_tr_set, tm_tr_of, cellV, putF, appR_eq, takeR_eq, dropR_eq, setR_eq, getR_eq, ↓C75, ↓C76, ↓C77, ↓C79, ↓C17, ↓C18, ↓C22, ↓C71, FA24_0, FA24_1, FA24_2, FA24_3, FA24_4, FA24_5, FA24_6, FA24_7, FA24_8, LD3, LD4, LD22, LD27, LDr, LD24, LEN22, IA22, tkc, cellAt, SV.cs, hpD, sl2, ↓Ckind, ↓Chas, hmk, hn', t18, t5, t1, t2]
        generalize hX : evDrawX _ _ _ _ _ = X
        obtain ⟨tm, rfl, hn2, t26, u5, u1, u2⟩ := draw_ro (Pt := fun tm => tm.get 26 = .bool (hasG t i (t i)) ∧ tm.get 5 = .int .i64 (i : Int) ∧ tm.get 1 = .slice (some ⟨2, 0, some 1⟩) n 0 ∧ tm.get 2 = .pointer (some ⟨3, 0, none⟩)) hX (by kernel_rfl) (by simp [decrK, Nat.blt_eq]) (by
          clear hX
          generalize befs _ = M
          simp [mapO, drRun, drOp, dr3, looks, guardT, tmpsOf, Op.operands, Call.operands, wantedR, gOf, finT, natMem, isNil, writesF, evOp, vOp, hOpB, hOpU, hOp, hOpT, opd, closedV, aBin, intOp, sameK, opdO, boundOf, undef, lookB, Nat.beq_eq, tm_n_set, tm_get_set, tm_of_n, tm_of_get, tm_tr_set, tm_tr_of, b02, b12, b32, ↓G75, W75, ↓G76, W76, ↓G77, W77, ↓G79, W79, ↓G17, W17, ↓G18, W18, ↓G22, W22, ↓G71, W71, tv, all1, roB, roK, news, newOnes, decr, tkc, cellAt, LD3, LD4, LD22, LD27, LDr, LD24, LEN22, IA22, ↓Gkind, ↓Ghas, Wkind, Whas, SV.cs, sl2, hn', t5, t1, t2, hi, hsl, h35', Nat.ble_eq, hasR]
          refine ⟨by simp [dynOK, b02, b12, b32], by simp [wheap, news, b02, b12, b32]⟩)
        clear hX
        simp [tm_n_set, hn'] at hn2
        cases c3 : hasG t i (t i) with
        | true =>
          rw [if_pos c3] at hres
          rw [c3] at t26
          simp [ec_skip, ec_label, ek_reg, ek_draw, ek_seq, ec_cond, ek_block, ec_loop, ec_exit, ec_ret, ec_scope, ek_nil, ek_op, opK_some, regK_some, seqK_normal, seqK_exit, seqK_ret, blockK_normal, blockK_exit, blockK_ret, evOp, vOp, hOpB, hOpU, hOp, hOpT, aWanted, aYielded, opd, putT, closedV, aBin, intOp, sameK, mapO, joinR, hasAddr, boundOf, pushB, aAlloc, Value.cells, lookB, setB, Nat.beq_eq, tm_n_set, tm_get_set, tm_of_n, tm_of_get, tm_tr_set, tm_tr_of, cellV, putF, appR_eq, takeR_eq, dropR_eq, setR_eq, getR_eq, ↓C75, ↓C76, ↓C77, ↓C79, ↓C17, ↓C18, ↓C22, ↓C71, FA24_0, FA24_1, FA24_2, FA24_3, FA24_4, FA24_5, FA24_6, FA24_7, FA24_8, LD3, LD4, LD22, LD27, LDr, LD24, LEN22, IA22, tkc, cellAt, SV.cs, hpD, sl2, ↓Ckind, ↓Chas, hmk, hn2, t26, u5, u1, u2]
          exact ⟨_, _, _, ⟨rfl, rfl, rfl⟩, .inr ⟨by simp, by simp [tm_n_set, hn2], rfl, .inr ⟨rfl, by simp [tm_get_set, tm_n_set, hn2, ← hres]⟩⟩⟩
        | false =>
          rw [if_neg (by simp [c3])] at hres
          rw [c3] at t26
          simp [ec_skip, ec_label, ek_reg, ek_draw, ek_seq, ec_cond, ek_block, ec_loop, ec_exit, ec_ret, ec_scope, ek_nil, ek_op, opK_some, regK_some, seqK_normal, seqK_exit, seqK_ret, blockK_normal, blockK_exit, blockK_ret, evOp, vOp, hOpB, hOpU, hOp, hOpT, aWanted, aYielded, opd, putT, closedV, aBin, intOp, sameK, mapO, joinR, hasAddr, boundOf, pushB, aAlloc, Value.cells, lookB, setB, Nat.beq_eq, tm_n_set, tm_get_set, tm_of_n, tm_of_get, tm_tr_set, tm_tr_of, cellV, putF, appR_eq, takeR_eq, dropR_eq, setR_eq, getR_eq, ↓C75, ↓C76, ↓C77, ↓C79, ↓C17, ↓C18, ↓C22, ↓C71, FA24_0, FA24_1, FA24_2, FA24_3, FA24_4, FA24_5, FA24_6, FA24_7, FA24_8, LD3, LD4, LD22, LD27, LDr, LD24, LEN22, IA22, tkc, cellAt, SV.cs, hpD, sl2, ↓Ckind, ↓Chas, hmk, hn2, t26, u5, u1, u2]
          refine ⟨_, _, _, ⟨rfl, rfl, rfl⟩, .inl ⟨rfl, m, rfl, i + 1, by omega, hres, ?_⟩⟩
          simp [hpD, SV.cs, sl2, tm_get_set, tm_n_set, hn2, u5, u1, u2, hw])
  rcases hx with ⟨rfl, hx⟩ | ⟨rfl, hx⟩
  · simp [ec_skip, ec_label, ek_reg, ek_draw, ek_seq, ec_cond, ek_block, ec_loop, ec_exit, ec_ret, ec_scope, ek_nil, ek_op, opK_some, regK_some, seqK_normal, seqK_exit, seqK_ret, blockK_normal, blockK_exit, blockK_ret, evOp, vOp, hOpB, hOpU, hOp, hOpT, aWanted, aYielded, opd, putT, closedV, aBin, intOp, sameK, mapO, joinR, hasAddr, boundOf, pushB, aAlloc, Value.cells, lookB, setB, Nat.beq_eq, tm_n_set, tm_get_set, tm_of_n, tm_of_get, tm_tr_set, tm_tr_of, cellV, putF, appR_eq, takeR_eq, dropR_eq, setR_eq, getR_eq, ↓C75, ↓C76, ↓C77, ↓C79, ↓C17, ↓C18, ↓C22, ↓C71, FA24_0, FA24_1, FA24_2, FA24_3, FA24_4, FA24_5, FA24_6, FA24_7, FA24_8, LD3, LD4, LD22, LD27, LDr, LD24, LEN22, IA22, tkc, cellAt, hl, hmk, hx, finF, takeM, resV]
  · simp [ec_skip, ec_label, ek_reg, ek_draw, ek_seq, ec_cond, ek_block, ec_loop, ec_exit, ec_ret, ec_scope, ek_nil, ek_op, opK_some, regK_some, seqK_normal, seqK_exit, seqK_ret, blockK_normal, blockK_exit, blockK_ret, evOp, vOp, hOpB, hOpU, hOp, hOpT, aWanted, aYielded, opd, putT, closedV, aBin, intOp, sameK, mapO, joinR, hasAddr, boundOf, pushB, aAlloc, Value.cells, lookB, setB, Nat.beq_eq, tm_n_set, tm_get_set, tm_of_n, tm_of_get, tm_tr_set, tm_tr_of, cellV, putF, appR_eq, takeR_eq, dropR_eq, setR_eq, getR_eq, ↓C75, ↓C76, ↓C77, ↓C79, ↓C17, ↓C18, ↓C22, ↓C71, FA24_0, FA24_1, FA24_2, FA24_3, FA24_4, FA24_5, FA24_6, FA24_7, FA24_8, LD3, LD4, LD22, LD27, LDr, LD24, LEN22, IA22, tkc, cellAt, hl, hmk, hx, finF, takeM, resV]

end Go.Proofs.Ytbpknklnalnihaa
