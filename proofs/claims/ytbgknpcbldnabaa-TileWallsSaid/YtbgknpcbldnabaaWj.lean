/-
  What is proved: the body of TileWalls, for every set and every seed.
-/
import Derived.Test.YtbgknpcbldnabaaWi
import Derived.Test.YtbgknpcbldnabaaM1j
namespace Go.Proofs.Ytbgknpcbldnabaa
open Go.RowKit
set_option linter.unusedSimpArgs false
set_option linter.unusedVariables false


noncomputable def aLong (s : SV) : Option Value := some (.bool s.long)
theorem ok5 : AnsOK (runH noH) 5 (ans1 aLong) := ans1_ok fun s v h => by
  cases h
  refine ⟨rfl, fun _ _ => ?_⟩
  obtain ⟨H', h⟩ := long_any (inH noH) s s.hp
  exact ⟨H', runH_fn F5n rfl h⟩
noncomputable def RB : Hnd := orH (canH 5 (ans1 aLong)) (orH V3 (orH EQ (memoF m4x0L)))
theorem RB_ok : CallOK Try.prog RB := orH_ok (canH_ok (runH_ok noH_ok) ok5) (orH_ok V3_ok (orH_ok EQ_ok m4x0L_ok))
theorem awake9 (H : AH) : memoF m4x0L (.func (.func 9) #[] #[]) [] H = some (.bool true, H) := by
  cases H
  kernel_rfl
theorem RB_5 (s : SV) (H : AH) (h0 : lookB H.bs 0 = some (.ints s.g)) (h1 : lookB H.bs 1 = some (.ints s.h)) : RB (.func (.func 5) #[] #[]) [s.val] H = some (.bool s.long, H) := orH_l (canH_set h0 h1)
theorem RB_7 (s : SV) (x : Int) (H : AH) (h0 : lookB H.bs 0 = some (.ints s.g)) (h1 : lookB H.bs 1 = some (.ints s.h)) : RB (.func (.func 7) #[] #[]) [s.val, .int .u64 x] H = some (lstV H.next (wallL s x), lstM H (wallL s x)) := orH_r (canH_other rfl) (orH_l (V3_7 s x H h0 h1))
theorem RB_8 (s : SV) (x : Int) (H : AH) (h0 : lookB H.bs 0 = some (.ints s.g)) (h1 : lookB H.bs 1 = some (.ints s.h)) : RB (.func (.func 8) #[] #[]) [s.val, .int .u64 x] H = some (lstV H.next (wallL s x), lstM H (wallL s x)) := orH_r (canH_other rfl) (orH_l (V3_8 s x H h0 h1))
theorem V3_none6 (args : List Value) (H : AH) : V3 (.func (.func 6) #[] #[]) args H = none := by rfl
theorem V3_none9 (args : List Value) (H : AH) : V3 (.func (.func 9) #[] #[]) args H = none := by rfl
theorem RB_6n (H : AH) : RB (.func (.func 6) #[] #[]) [.slice none 0 0, .slice none 0 0] H = some (.bool true, H) := orH_r (canH_other rfl) (orH_r (V3_none6 _ _) (orH_l (EQ_nil H)))
theorem RB_6 (W : Nat → Int) (n a b : Nat) (H : AH) {ro ro2 : Bool} (hn : n ≤ 200) (hab : ¬ b = a) (ha : lookB H.bs a = some (.cells ro (intsL W n))) (hb : lookB H.bs b = some (.cells ro2 (intsL W n))) : RB (.func (.func 6) #[] #[]) [.slice (some ⟨a, 0, none⟩) n 1, .slice (some ⟨b, 0, none⟩) n 1] H = some (.bool true, H) := orH_r (canH_other rfl) (orH_r (V3_none6 _ _) (orH_l (EQ_two W n a b H hn hab ha hb)))
theorem RB_9 (H : AH) : RB (.func (.func 9) #[] #[]) [] H = some (.bool true, H) := orH_r (canH_other rfl) (orH_r (V3_none9 _ _) (orH_r (canH_other rfl) (awake9 H)))
theorem F3n : tabF Try.prog 3 = some Try.f3 := by kernel_rfl
theorem kp3 : (kpT 3, gcT 3) = (false, true) := by kernel_rfl
def callF : Unit := ()
theorem Nl5 : ((tabT Try.prog) 24).map (fun z => (z.ex.nat 5, z.ex.mnz 5)) = some (none, none) := by kernel_rfl
theorem Cl5 (call : Value → List Value → AH → Option (Value × AH)) {tm : Tm} {k : Nat} {H : AH} {d : Option Tmp} {t : TypeId} {p : String} {a : Array Edge} {gd : Option (Nat × Bool)} : evOp (tabT Try.prog) call ⟨d, .call ⟨.value (.func 5), #[.tmp k], #[24]⟩, t, p, a, gd⟩ (opd tm) H = call (.func (.func 5) #[] #[]) [tm.get k] H :=
  evOp_evO.trans (eo_call1 rfl rfl Nl5)
set_option maxRecDepth 10000 in
set_option maxHeartbeats 8000000 in
theorem body_long (call : Value → List Value → AH → Option (Value × AH)) (s : SV) (x : Int) {H0 H1 : AH} (h5 : call (.func (.func 5) #[] #[]) [s.val] ⟨H0.next + 1, (H0.next, .cells false s.cs) :: H0.bs⟩ = some (.bool true, H1)) :
    ∃ H', evFn (tabT Try.prog) call 300 kpT 3 Try.f3 [s.val, .int .u64 x] H0 = some (.bool true, H') := by
  simp only [SV.val, SV.cs] at h5
  simp only [evFn, Try.f3, SV.val]
  simp [ec_skip, ec_label, ek_reg, ek_draw, ek_seq, ec_cond, ek_block, ec_loop, ec_exit, ec_ret, ec_scope, ek_nil, ek_op, opK_some, regK_some, seqK_normal, seqK_exit, seqK_ret, blockK_normal, blockK_exit, blockK_ret, evOp, vOp, hOpB, hOpU, hOp, hOpT, aAppendG_tab, aWanted, aYielded, opd, putT, closedV, aBin, intOp, sameK, mapO, joinR, hasAddr, boundOf, pushB, aAlloc, Value.cells, lookB, setB, Nat.beq_eq, tm_n_set, tm_get_set, tm_of_n, tm_of_get, tm_tr_set, tm_tr_of, cellV, putF, appR_eq, takeR_eq, dropR_eq, setR_eq, getR_eq, ↓C75, ↓C76, ↓C77, ↓C79, ↓C17, ↓C18, ↓C22, ↓C71, FA24_0, FA24_1, FA24_2, FA24_3, FA24_4, FA24_5, FA24_6, FA24_7, FA24_8, LD3, LD4, LD22, LD27, LDr, LD24, LEN22, IA22, tkc, cellAt, ↓Cl5, SV.cs, h5, finF, takeM, resV]
theorem Ng7 : ((tabT Try.prog) 24).map (fun z => z.ex.nat 7) = some none := by kernel_rfl
theorem G7x (call : Value → List Value → AH → Option (Value × AH)) {tm : Tm} {rs : List DR} {ts : List Nat} {j k : Nat} {H : AH} {d : Option Tmp} {t : TypeId} {p : String} {a : Array Edge} {gd : Option (Nat × Bool)} (hj : natMem ts j = true) (hk : natMem ts k = true) : evOp (tabT Try.prog) call ⟨d, .call ⟨.value (.func 7), #[.tmp j, .tmp k], #[24, 25]⟩, t, p, a, gd⟩ (gOf tm rs ts) H = call (.func (.func 7) #[] #[]) [(finT tm rs).get j, (finT tm rs).get k] H :=
  evOp_evO.trans (eo_call2n rfl (by simp only [gOf, hj, if_true]) (by simp only [gOf, hk, if_true]) Ng7)
theorem W7x : wrT 7 = false := by kernel_rfl
theorem Ng8 : ((tabT Try.prog) 24).map (fun z => z.ex.nat 8) = some none := by kernel_rfl
theorem G8x (call : Value → List Value → AH → Option (Value × AH)) {tm : Tm} {rs : List DR} {ts : List Nat} {j k : Nat} {H : AH} {d : Option Tmp} {t : TypeId} {p : String} {a : Array Edge} {gd : Option (Nat × Bool)} (hj : natMem ts j = true) (hk : natMem ts k = true) : evOp (tabT Try.prog) call ⟨d, .call ⟨.value (.func 8), #[.tmp j, .tmp k], #[24, 25]⟩, t, p, a, gd⟩ (gOf tm rs ts) H = call (.func (.func 8) #[] #[]) [(finT tm rs).get j, (finT tm rs).get k] H :=
  evOp_evO.trans (eo_call2n rfl (by simp only [gOf, hj, if_true]) (by simp only [gOf, hk, if_true]) Ng8)
theorem W8x : wrT 8 = false := by kernel_rfl
theorem Ng6 : ((tabT Try.prog) 22).map (fun z => z.ex.nat 6) = some none := by kernel_rfl
theorem G6x (call : Value → List Value → AH → Option (Value × AH)) {tm : Tm} {rs : List DR} {ts : List Nat} {j k : Nat} {H : AH} {d : Option Tmp} {t : TypeId} {p : String} {a : Array Edge} {gd : Option (Nat × Bool)} (hj : natMem ts j = true) (hk : natMem ts k = true) : evOp (tabT Try.prog) call ⟨d, .call ⟨.value (.func 6), #[.tmp j, .tmp k], #[22, 22]⟩, t, p, a, gd⟩ (gOf tm rs ts) H = call (.func (.func 6) #[] #[]) [(finT tm rs).get j, (finT tm rs).get k] H :=
  evOp_evO.trans (eo_call2n rfl (by simp only [gOf, hj, if_true]) (by simp only [gOf, hk, if_true]) Ng6)
theorem W6x : wrT 6 = true := by kernel_rfl
theorem W9x : wrT 9 = false := by kernel_rfl

set_option maxRecDepth 10000 in
set_option maxHeartbeats 8000000 in
theorem body_ev (s : SV) (x : Int) (hl : s.long = false) : ∃ H', evFn (tabT Try.prog) (inH RB) 300 kpT 3 Try.f3 [s.val, .int .u64 x] s.hp = some (.bool true, H') := by
  have h5 : inH RB (.func (.func 5) #[] #[]) [s.val] ⟨3, [(2, .cells false s.cs), (1, .ints s.h), (0, .ints s.g)]⟩ = some (.bool false, ⟨3, [(2, .cells false s.cs), (1, .ints s.h), (0, .ints s.g)]⟩) := by
    rw [inH_hd (RB_5 s _ rfl rfl), hl]
  have kp := kp3
  simp only [Prod.mk.injEq] at kp
  obtain ⟨kp1, kp2⟩ := kp
  have h7 := fun (H : AH) h0 h1 => inH_hd (RB_7 s x H h0 h1)
  have h8 := fun (H : AH) h0 h1 => inH_hd (RB_8 s x H h0 h1)
  have h9 := fun (H : AH) => inH_hd (RB_9 H)
  have hbd := rsize_bounds s
  obtain ⟨n, hn⟩ : ∃ n : Nat, s.rsize = (n : Int) := ⟨s.rsize.toNat, by omega⟩
  have hw : wallL s x = wl n (wallF n x) := by
    unfold wallL; rw [hn]; rfl
  simp only [hw, lstV_wl, lstM_wl] at h7 h8
  simp only [SV.val, SV.cs] at h5 h7 h8
  simp only [evFn, Try.f3, SV.val, SV.hp]
  simp [ec_skip, ec_label, ek_reg, ek_draw, ek_seq, ec_cond, ek_block, ec_loop, ec_exit, ec_ret, ec_scope, ek_nil, ek_op, opK_some, regK_some, seqK_normal, seqK_exit, seqK_ret, blockK_normal, blockK_exit, blockK_ret, evOp, vOp, hOpB, hOpU, hOp, hOpT, aAppendG_tab, aWanted, aYielded, opd, putT, closedV, aBin, intOp, sameK, mapO, joinR, hasAddr, boundOf, pushB, aAlloc, Value.cells, lookB, setB, Nat.beq_eq, tm_n_set, tm_get_set, tm_of_n, tm_of_get, tm_tr_set, tm_tr_of, cellV, putF, appR_eq, takeR_eq, dropR_eq, setR_eq, getR_eq, ↓C75, ↓C76, ↓C77, ↓C79, ↓C17, ↓C18, ↓C22, ↓C71, FA24_0, FA24_1, FA24_2, FA24_3, FA24_4, FA24_5, FA24_6, FA24_7, FA24_8, LD3, LD4, LD22, LD27, LDr, LD24, LEN22, IA22, tkc, cellAt, ↓Cl5, SV.cs, h5]
  generalize hX : evDrawX _ _ _ _ _ = X
  cases n with
  | zero =>
    simp only [cpV, cpH] at h7 h8
    have e7 := h7 ⟨3, [(2, .cells true s.cs), (1, .ints s.h), (0, .ints s.g)]⟩ rfl rfl
    have e8 := h8 ⟨3, [(2, .cells true s.cs), (1, .ints s.h), (0, .ints s.g)]⟩ rfl rfl
    have e6 := inH_hd (RB_6n ⟨3, [(2, .cells false s.cs), (1, .ints s.h), (0, .ints s.g)]⟩)
    simp only [SV.cs] at e6 e7 e8
    obtain ⟨tm, rfl, hn', t4⟩ := draw_any (H' := ⟨3, [(2, .cells false s.cs), (1, .ints s.h), (0, .ints s.g)]⟩) (Pt := fun tm => tm.get 4 = .bool true) hX (by kernel_rfl) (by kernel_rfl) (by
      clear hX
      generalize hMM : befs _ = M
      have o0 : ordB M 6 0 = true := by rw [← hMM]; kernel_rfl
      have o2 : ordB M 6 2 = true := by rw [← hMM]; kernel_rfl
      have o5 : ordB M 6 5 = true := by rw [← hMM]; kernel_rfl
      have o3 : ordB M 6 3 = true := by rw [← hMM]; kernel_rfl
      clear hMM
      simp [mapO, drRun, drOp, dr3, looks, guardT, tmpsOf, Op.operands, Call.operands, wantedR, gOf, finT, natMem, isNil, writesF, evOp, vOp, hOpB, hOpU, hOp, hOpT, aAppendG_tab, opd, closedV, aBin, intOp, sameK, opdO, boundOf, undef, lookB, Nat.beq_eq, tm_n_set, tm_get_set, tm_of_n, tm_of_get, tm_tr_set, tm_tr_of, b02, b12, b32, ↓G75, W75, ↓G76, W76, ↓G77, W77, ↓G79, W79, ↓G17, W17, ↓G18, W18, ↓G22, W22, ↓G71, W71, tv, all1, roB, roK, news, newOnes, decr, tkc, cellAt, LD3, LD4, LD22, LD27, LDr, LD24, LEN22, IA22, ↓G7x, ↓G8x, ↓G6x, W7x, W8x, W6x, W9x, e6, e7, e8, h9, hasR, SV.cs, wheap, all1, rdSame, eqR, decrK, Nat.ble_eq, Nat.blt_eq]
      refine ⟨_, _, ⟨rfl, rfl⟩, by simp [dynOK, rdSame, eqR, decrK, h9, hasR, roB, roK, gOf, evOp, vOp, hOpB, hOpU, hOp, hOpT, mapO, opd, boundOf, W9x, b02, b12, b32, b03, b13, b23, o0, o2, o3, o5, Nat.blt_eq, Nat.ble_eq, Nat.beq_eq], by simp [wheap, news, b02, b12, b32, Nat.beq_eq, all1, SV.cs], by simp [finT, tm_get_set, tm_n_set, tm_of_get, tm_of_n]⟩)
    simp [tm_n_set] at hn'
    simp [ec_skip, ec_label, ek_reg, ek_draw, ek_seq, ec_cond, ek_block, ec_loop, ec_exit, ec_ret, ec_scope, ek_nil, ek_op, opK_some, regK_some, seqK_normal, seqK_exit, seqK_ret, blockK_normal, blockK_exit, blockK_ret, evOp, vOp, hOpB, hOpU, hOp, hOpT, aAppendG_tab, aWanted, aYielded, opd, putT, closedV, aBin, intOp, sameK, mapO, joinR, hasAddr, boundOf, pushB, aAlloc, Value.cells, lookB, setB, Nat.beq_eq, tm_n_set, tm_get_set, tm_of_n, tm_of_get, tm_tr_set, tm_tr_of, cellV, putF, appR_eq, takeR_eq, dropR_eq, setR_eq, getR_eq, ↓C75, ↓C76, ↓C77, ↓C79, ↓C17, ↓C18, ↓C22, ↓C71, FA24_0, FA24_1, FA24_2, FA24_3, FA24_4, FA24_5, FA24_6, FA24_7, FA24_8, LD3, LD4, LD22, LD27, LDr, LD24, LEN22, IA22, tkc, cellAt, hn', t4, finF, takeM, resV]
  | succ n =>
    have hn2 : n + 1 ≤ 200 := by omega
    simp only [cpV, cpH] at h7 h8
    have e7 := h7 ⟨3, [(2, .cells true s.cs), (1, .ints s.h), (0, .ints s.g)]⟩ rfl rfl
    have e8 := h8 ⟨4, [(2, .cells true s.cs), (1, .ints s.h), (0, .ints s.g)]⟩ rfl rfl
    have e8b := h8 ⟨4, [(3, .cells true (intsL (wallF (n + 1) x) (n + 1))), (2, .cells true s.cs), (1, .ints s.h), (0, .ints s.g)]⟩ rfl rfl
    have e6 := inH_hd (RB_6 (wallF (n + 1) x) (n + 1) 3 4 ⟨5, [(4, .cells false (intsL (wallF (n + 1) x) (n + 1))), (3, .cells false (intsL (wallF (n + 1) x) (n + 1))), (2, .cells false s.cs), (1, .ints s.h), (0, .ints s.g)]⟩ (ro := false) (ro2 := false) hn2 (by omega) rfl rfl)
    simp only [SV.cs] at e6 e7 e8 e8b
    generalize intsL (wallF (n + 1) x) (n + 1) = L at *
    obtain ⟨tm, rfl, hn', t4⟩ := draw_any (H' := ⟨5, [(4, .cells false L), (3, .cells false L), (2, .cells false s.cs), (1, .ints s.h), (0, .ints s.g)]⟩) (Pt := fun tm => tm.get 4 = .bool true) hX (by kernel_rfl) (by kernel_rfl) (by
      clear hX
      generalize hMM : befs _ = M
      have o2 : ordB M 6 2 = true := by rw [← hMM]; kernel_rfl
      have o5 : ordB M 6 5 = true := by rw [← hMM]; kernel_rfl
      have o0 : ordB M 6 0 = true := by rw [← hMM]; kernel_rfl
      have o3 : ordB M 6 3 = true := by rw [← hMM]; kernel_rfl
      have k52 : (M[5]?.getD 0).testBit 2 = true := by rw [← hMM]; kernel_rfl
      have k62 : (M[6]?.getD 0).testBit 2 = true := by rw [← hMM]; kernel_rfl
      have k65 : (M[6]?.getD 0).testBit 5 = true := by rw [← hMM]; kernel_rfl
      have k82 : (M[8]?.getD 0).testBit 2 = true := by rw [← hMM]; kernel_rfl
      have k85 : (M[8]?.getD 0).testBit 5 = true := by rw [← hMM]; kernel_rfl
      clear hMM
      simp [mapO, drRun, drOp, dr3, looks, guardT, tmpsOf, Op.operands, Call.operands, wantedR, gOf, finT, natMem, isNil, writesF, evOp, vOp, hOpB, hOpU, hOp, hOpT, aAppendG_tab, opd, closedV, aBin, intOp, sameK, opdO, boundOf, undef, lookB, Nat.beq_eq, tm_n_set, tm_get_set, tm_of_n, tm_of_get, tm_tr_set, tm_tr_of, b02, b12, b32, ↓G75, W75, ↓G76, W76, ↓G77, W77, ↓G79, W79, ↓G17, W17, ↓G18, W18, ↓G22, W22, ↓G71, W71, tv, all1, roB, roK, news, newOnes, decr, tkc, cellAt, LD3, LD4, LD22, LD27, LDr, LD24, LEN22, IA22, ↓G7x, ↓G8x, ↓G6x, W7x, W8x, W6x, W9x, e6, e7, e8, e8b, h9, k52, k62, k65, k82, k85, hasR, decr, ABlk.rw, ABlk.own, ABlk.isFro, SV.cs, wheap, all1, rdSame, eqR, decrK, Nat.ble_eq, Nat.blt_eq]
      refine ⟨_, _, ⟨rfl, rfl⟩, by simp [dynOK, rdSame, eqR, decrK, h9, hasR, roB, roK, gOf, evOp, vOp, hOpB, hOpU, hOp, hOpT, mapO, opd, boundOf, W9x, b02, b12, b32, b03, b13, b23, o0, o2, o3, o5, Nat.blt_eq, Nat.ble_eq, Nat.beq_eq], by simp [wheap, news, b02, b12, b32, Nat.beq_eq, all1, SV.cs], by simp [finT, tm_get_set, tm_n_set, tm_of_get, tm_of_n]⟩)
    simp [tm_n_set] at hn'
    simp [ec_skip, ec_label, ek_reg, ek_draw, ek_seq, ec_cond, ek_block, ec_loop, ec_exit, ec_ret, ec_scope, ek_nil, ek_op, opK_some, regK_some, seqK_normal, seqK_exit, seqK_ret, blockK_normal, blockK_exit, blockK_ret, evOp, vOp, hOpB, hOpU, hOp, hOpT, aAppendG_tab, aWanted, aYielded, opd, putT, closedV, aBin, intOp, sameK, mapO, joinR, hasAddr, boundOf, pushB, aAlloc, Value.cells, lookB, setB, Nat.beq_eq, tm_n_set, tm_get_set, tm_of_n, tm_of_get, tm_tr_set, tm_tr_of, cellV, putF, appR_eq, takeR_eq, dropR_eq, setR_eq, getR_eq, ↓C75, ↓C76, ↓C77, ↓C79, ↓C17, ↓C18, ↓C22, ↓C71, FA24_0, FA24_1, FA24_2, FA24_3, FA24_4, FA24_5, FA24_6, FA24_7, FA24_8, LD3, LD4, LD22, LD27, LDr, LD24, LEN22, IA22, tkc, cellAt, hn', t4, finF, takeM, resV]

end Go.Proofs.Ytbgknpcbldnabaa
