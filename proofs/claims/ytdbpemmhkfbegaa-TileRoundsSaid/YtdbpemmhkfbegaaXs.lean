/-
  What is proved: the source of numbers: a number below another one, between two, and odds.
-/
import Derived.Test.YtdbpemmhkfbegaaTg
namespace Go.Proofs.Ytdbpemmhkfbegaa
open Go.RowKit
set_option linter.unusedSimpArgs false
set_option linter.unusedVariables false

theorem b03 : Nat.beq 0 3 = false := rfl
theorem b13 : Nat.beq 1 3 = false := rfl
theorem b23 : Nat.beq 2 3 = false := rfl
theorem look_none : ∀ (bs : List (Nat × ABlk)) (i : Nat), (∀ p ∈ bs, p.1 < i) → lookB (roB bs) i = none
  | [], _, _ => rfl
  | (j, k) :: r, i, h => by
    have ih := look_none r i fun p hp => h p (List.mem_cons_of_mem _ hp)
    have hj : ¬ i = j := by have := h (j, k) List.mem_cons_self; simp only at this; omega
    simp only [roB]
    split
    · simp only [lookB, Nat.beq_eq, hj, if_false, ih]
    · exact ih
theorem newOnes_ro : ∀ (bs : List (Nat × ABlk)) (i : Nat), (∀ p ∈ bs, p.1 < i) → newOnes i (roB bs) = []
  | [], _, _ => rfl
  | (j, k) :: r, i, h => by
    have ih := newOnes_ro r i fun p hp => h p (List.mem_cons_of_mem _ hp)
    have hj : ¬ i ≤ j := by have := h (j, k) List.mem_cons_self; simp only at this; omega
    simp only [roB]
    split
    · simp [newOnes, Nat.ble_eq, hj]
    · exact ih
theorem hasR_ro : ∀ bs : List (Nat × ABlk), hasR (roB bs) = false
  | [] => rfl
  | (j, k) :: r => by
    have ih := hasR_ro r
    cases k <;> simp [roB, roK, hasR, ih]
theorem Nbelow : ((tabT Try.prog) 35).map (fun z => z.ex.nat 65) = some none := by kernel_rfl
theorem Cbelow (call : Value → List Value → AH → Option (Value × AH)) {tm : Tm} {i j : Nat} {H : AH} {d : Option Tmp} {t : TypeId} {p : String} {a : Array Edge} {gd : Option (Nat × Bool)} : evOp (tabT Try.prog) call ⟨d, .call ⟨.value (.func 65), #[.tmp i, .tmp j], #[35, 3]⟩, t, p, a, gd⟩ (opd tm) H = call (.func (.func 65) #[] #[]) [tm.get i, tm.get j] H :=
  evOp_evO.trans (eo_call2n rfl rfl rfl Nbelow)
theorem Crange (call : Value → List Value → AH → Option (Value × AH)) {tm : Tm} {i j k : Nat} {H : AH} {d : Option Tmp} {t : TypeId} {p : String} {a : Array Edge} {gd : Option (Nat × Bool)} : evOp (tabT Try.prog) call ⟨d, .call ⟨.value (.func 49), #[.tmp i, .tmp j, .tmp k], #[35, 3, 3]⟩, t, p, a, gd⟩ (opd tm) H = call (.func (.func 49) #[] #[]) [tm.get i, tm.get j, tm.get k] H :=
  evOp_evO.trans (eo_call3 rfl rfl rfl rfl)
theorem Nodds : ((tabT Try.prog) 35).map (fun z => z.ex.nat 47) = some none := by kernel_rfl
theorem Codds (call : Value → List Value → AH → Option (Value × AH)) {tm : Tm} {i j : Nat} {H : AH} {d : Option Tmp} {t : TypeId} {p : String} {a : Array Edge} {gd : Option (Nat × Bool)} : evOp (tabT Try.prog) call ⟨d, .call ⟨.value (.func 47), #[.tmp i, .tmp j], #[35, 3]⟩, t, p, a, gd⟩ (opd tm) H = call (.func (.func 47) #[] #[]) [tm.get i, tm.get j] H :=
  evOp_evO.trans (eo_call2n rfl rfl rfl Nodds)
theorem LDu (H : AH) (i off : Nat) : aLoad (tabT Try.prog) H 65 (.pointer (some ⟨i, off, none⟩)) = cellAt H.bs i off := ldc (by kernel_rfl) H i off
theorem STu (H : AH) (i off : Nat) (v : Value) : aStore (tabT Try.prog) H 65 (.pointer (some ⟨i, off, none⟩)) v = match lookB H.bs i with
    | some (.cells false cs) => if Nat.beq v.cells.toList.length 1 && Nat.ble (off + v.cells.toList.length) cs.length && v.cells.toList.all cellV then some { H with bs := setB H.bs i (.cells false (putF cs off v.cells.toList)) } else none
    | _ => none := sti (by kernel_rfl) H i off v
theorem CVi (call : Value → List Value → AH → Option (Value × AH)) {tm : Tm} {j : Nat} {H : AH} {d : Option Tmp} {t : TypeId} {p : String} {a : Array Edge} {gd : Option (Nat × Bool)} : evOp (tabT Try.prog) call ⟨d, .convert 3 65 (.tmp j), t, p, a, gd⟩ (opd tm) H = match tm.get j with | .int _ n => some (.int .u64 (wrapI .u64 n), H) | _ => evO (tabT Try.prog) call (.convert 3 65 (.tmp j)) (opd tm) H := by
  rw [evOp_evO]
  split
  · rename_i kk n h
    refine evO_v ?_
    rw [cvt (k := .u64) (by kernel_rfl) (by kernel_rfl)]
    simp only [opd_tmp, h]
  · rfl
theorem CViv {g : Operand → Option Value} {x : Operand} : vOp (tabT Try.prog) g (.convert 3 65 x) = match g x with | some (.int _ n) => some (.int .u64 (wrapI .u64 n)) | _ => none := cvt (by kernel_rfl) (by kernel_rfl)
theorem CVu (call : Value → List Value → AH → Option (Value × AH)) {tm : Tm} {j : Nat} {H : AH} {d : Option Tmp} {t : TypeId} {p : String} {a : Array Edge} {gd : Option (Nat × Bool)} : evOp (tabT Try.prog) call ⟨d, .convert 65 3 (.tmp j), t, p, a, gd⟩ (opd tm) H = match tm.get j with | .int _ n => some (.int .i64 (wrapI .i64 n), H) | _ => evO (tabT Try.prog) call (.convert 65 3 (.tmp j)) (opd tm) H := by
  rw [evOp_evO]
  split
  · rename_i kk n h
    refine evO_v ?_
    rw [cvt (k := .i64) (by kernel_rfl) (by kernel_rfl)]
    simp only [opd_tmp, h]
  · rfl
theorem CVuv {g : Operand → Option Value} {x : Operand} : vOp (tabT Try.prog) g (.convert 65 3 x) = match g x with | some (.int _ n) => some (.int .i64 (wrapI .i64 n)) | _ => none := cvt (by kernel_rfl) (by kernel_rfl)
theorem FAs (i : Nat) : aFieldAddr (tabT Try.prog) 69 (.pointer (some ⟨i, 0, none⟩)) 0 = some (.pointer (some ⟨i, 0, none⟩)) := by kernel_rfl
theorem kp65 : (kpT 65, gcT 65) = (true, false) := by kernel_rfl
theorem kp49 : (kpT 49, gcT 49) = (true, false) := by kernel_rfl
theorem kp47 : (kpT 47, gcT 47) = (true, false) := by kernel_rfl

noncomputable def sB (x : Int) : ABlk := .cells false [.int .u64 x]
noncomputable def stB (x : Int) : Int := wrapI .u64 (wrapI .u64 (x * 15074714826142052245) + 7146057691288625177)
noncomputable def rawB (x : Int) : Int := (bits .xor .u64 x (x.fdiv 2147483648)).fdiv 1048576
noncomputable def belV (x : Int) (n : Nat) : Int := wrapI .i64 ((rawB (stB x)).tmod n)
theorem bits_bd (op : BinOp) (a b : Int) : 0 ≤ bits op .u64 a b ∧ bits op .u64 a b < 18446744073709551616 := by
  simp only [bits, IntKind.wrap, IntKind.signed, IntKind.bits]
  simp
  omega
theorem raw_bd (x : Int) : 0 ≤ rawB x ∧ rawB x < 18446744073709551616 := by
  have h := bits_bd .xor x (x.fdiv 2147483648)
  unfold rawB
  rw [Int.fdiv_eq_ediv_of_nonneg _ (by omega)]
  omega
theorem belV_bd (x : Int) {n : Nat} (h1 : 1 ≤ n) (h2 : n ≤ 1000) : 0 ≤ belV x n ∧ belV x n < n := by
  have h := raw_bd (stB x)
  have ht : (rawB (stB x)).tmod n = rawB (stB x) % n := Int.tmod_eq_emod_of_nonneg h.1
  have hm0 := Int.emod_nonneg (rawB (stB x)) (show (n : Int) ≠ 0 by omega)
  have hm1 := Int.emod_lt_of_pos (rawB (stB x)) (show (0 : Int) < n by omega)
  unfold belV
  rw [ht, wrapI_small (by omega) (by omega)]
  omega
theorem wrapUn {n : Nat} (h : n ≤ 1000) : wrapI .u64 (n : Int) = n := by simp only [wrapI]; omega
theorem SH31 (x : Int) : shOp .shr .u64 x 31 = some (.int .u64 (x.fdiv 2147483648)) := by
  simp [shOp, IntKind.bits]
theorem SH20 (x : Int) : shOp .shr .u64 x 20 = some (.int .u64 (x.fdiv 1048576)) := by
  simp [shOp, IntKind.bits]
set_option maxRecDepth 10000 in
set_option maxHeartbeats 8000000 in
theorem below_ev {L : Nat} (call : Value → List Value → AH → Option (Value × AH)) (p N : Nat) (bs : List (Nat × ABlk)) (x : Int) (n : Nat) (h1 : 1 ≤ n) (h2 : n ≤ 1000) (hM : MI ⟨N, bs⟩) (h : lookB bs p = some (sB x)) :
    evFn (tabT Try.prog) call (L + 300) kpT 65 Try.f65 [.pointer (some ⟨p, 0, none⟩), .int .i64 (n : Int)] ⟨N, bs⟩ = some (.int .i64 (belV x n), ⟨N, setB bs p (sB (stB x))⟩) := by
  have kp := kp65
  simp only [Prod.mk.injEq] at kp
  obtain ⟨kp1, kp2⟩ := kp
  have wu := wrapUn h2
  have n0 : ¬ (n : Int) = 0 := by omega
  have nz : ¬ n = 0 := by omega
  have n1 : ¬ (n : Int) < 1 := by omega
  have n1' : ¬ n < 1 := by omega
  unfold sB at h
  simp only [evFn, Try.f65]
  simp [ec_skip, ec_label, ek_reg, ek_draw, ek_seq, ec_cond, ek_block, ec_loop, ec_exit, ec_ret, ec_scope, ek_nil, ek_op, opK_some, regK_some, seqK_normal, seqK_exit, seqK_ret, blockK_normal, blockK_exit, blockK_ret, evOp, vOp, hOpB, hOpU, hOp, hOpT, aAppendG_tab, aWanted, aYielded, opd, putT, closedV, aBin, intOp, sameK, mapO, joinR, hasAddr, boundOf, pushB, aAlloc, Value.cells, lookB, setB, Nat.beq_eq, tm_n_set, tm_get_set, tm_of_n, tm_of_get, tm_tr_set, tm_tr_of, cellV, putF, appR_eq, takeR_eq, dropR_eq, setR_eq, getR_eq, ↓C75, ↓C76, ↓C77, ↓C79, ↓C17, ↓C18, ↓C22, ↓C71, FA24_0, FA24_1, FA24_2, FA24_3, FA24_4, FA24_5, FA24_6, FA24_7, FA24_8, LD3, LD4, LD22, LD27, LDr, LD24, LEN22, IA22, tkc, cellAt, FAs, LDu, STu, h, lookB_setB, n1, n1']
  have h3 : ((tabT Try.prog) 3).map (·.desc) = some (.int .i64) := by kernel_rfl
  have h65 : ((tabT Try.prog) 65).map (·.desc) = some (.int .u64) := by kernel_rfl
  obtain ⟨_, _, _, _, t3⟩ := tdesc h3
  obtain ⟨_, _, _, _, t65⟩ := tdesc h65
  clear h3 h65
  generalize hX : evDrawX _ _ _ _ _ = X
  have hl2 : lookB (setB bs p (.cells false [.int .u64 (stB x)])) p = some (.cells false [.int .u64 (stB x)]) := by rw [lookB_setB, if_pos rfl, h]; rfl
  have hd2 : decrK (setB bs p (.cells false [.int .u64 (stB x)])) = true := (hM.set p _).1
  have rb := lookB_roB_cells _ _ _ _ hl2 hd2
  have nw := newOnes_ro _ N (hM.set p (.cells false [.int .u64 (stB x)])).2
  have s31 := SH31 (stB x)
  have s20 := SH20 (bits .xor .u64 (stB x) ((stB x).fdiv 2147483648))
  simp only [stB] at hl2 hd2 rb nw s31 s20
  obtain ⟨tm, rfl, hn', t4⟩ := draw_ro (Pt := fun tm => tm.get 4 = .int .i64 (belV x n)) hX (by kernel_rfl) hd2 (by
    clear hX
    generalize befs _ = M
    simp [mapO, drRun, drOp, dr3, looks, guardT, tmpsOf, Op.operands, Call.operands, wantedR, gOf, finT, natMem, isNil, writesF, evOp, vOp, hOpB, hOpU, hOp, hOpT, aAppendG_tab, opd, closedV, aBin, intOp, sameK, opdO, boundOf, undef, lookB, Nat.beq_eq, tm_n_set, tm_get_set, tm_of_n, tm_of_get, tm_tr_set, tm_tr_of, b02, b12, b32, ↓G75, W75, ↓G76, W76, ↓G77, W77, ↓G79, W79, ↓G17, W17, ↓G18, W18, ↓G22, W22, ↓G71, W71, tv, all1, roB, roK, news, newOnes, decr, tkc, cellAt, LD3, LD4, LD22, LD27, LDr, LD24, LEN22, IA22, FAs, LDu, t3, t65, rb, nw, s31, s20, wu, n0, nz, tm_of_n, tm_of_get, belV, rawB, stB]
    refine ⟨by simp [dynOK, b02, b12, b32, Nat.blt_eq, tm_n_set, tm_of_n], by simp [wheap, news, b02, b12, b32]⟩)
  simp [tm_n_set] at hn'
  simp [ec_skip, ec_label, ek_reg, ek_draw, ek_seq, ec_cond, ek_block, ec_loop, ec_exit, ec_ret, ec_scope, ek_nil, ek_op, opK_some, regK_some, seqK_normal, seqK_exit, seqK_ret, blockK_normal, blockK_exit, blockK_ret, evOp, vOp, hOpB, hOpU, hOp, hOpT, aAppendG_tab, aWanted, aYielded, opd, putT, closedV, aBin, intOp, sameK, mapO, joinR, hasAddr, boundOf, pushB, aAlloc, Value.cells, lookB, setB, Nat.beq_eq, tm_n_set, tm_get_set, tm_of_n, tm_of_get, tm_tr_set, tm_tr_of, cellV, putF, appR_eq, takeR_eq, dropR_eq, setR_eq, getR_eq, ↓C75, ↓C76, ↓C77, ↓C79, ↓C17, ↓C18, ↓C22, ↓C71, FA24_0, FA24_1, FA24_2, FA24_3, FA24_4, FA24_5, FA24_6, FA24_7, FA24_8, LD3, LD4, LD22, LD27, LDr, LD24, LEN22, IA22, tkc, cellAt, hn', t4, sB, stB, finF, takeM, resV, cleanedG, hasAddr, kp1, kp2]

noncomputable def rngV (x : Int) (lo hi : Nat) : Int := (lo : Int) + belV x (hi - lo + 1)
theorem rngV_bd (x : Int) {lo hi : Nat} (h1 : lo ≤ hi) (h2 : hi ≤ 900) : (lo : Int) ≤ rngV x lo hi ∧ rngV x lo hi ≤ hi := by
  have := belV_bd x (n := hi - lo + 1) (by omega) (by omega)
  unfold rngV
  omega
set_option maxRecDepth 10000 in
set_option maxHeartbeats 8000000 in
theorem range_ev {L : Nat} (call : Value → List Value → AH → Option (Value × AH)) (p N : Nat) (bs : List (Nat × ABlk)) (x : Int) (lo hi : Nat) (h1 : lo ≤ hi) (h2 : hi ≤ 900)
    (hb : ∀ n : Nat, 1 ≤ n → n ≤ 1000 → call (.func (.func 65) #[] #[]) [.pointer (some ⟨p, 0, none⟩), .int .i64 (n : Int)] ⟨N, bs⟩ = some (.int .i64 (belV x n), ⟨N, setB bs p (sB (stB x))⟩)) :
    evFn (tabT Try.prog) call (L + 300) kpT 49 Try.f49 [.pointer (some ⟨p, 0, none⟩), .int .i64 (lo : Int), .int .i64 (hi : Int)] ⟨N, bs⟩ = some (.int .i64 (rngV x lo hi), ⟨N, setB bs p (sB (stB x))⟩) := by
  have kp := kp49
  simp only [Prod.mk.injEq] at kp
  obtain ⟨kp1, kp2⟩ := kp
  have hb' := hb (hi - lo + 1) (by omega) (by omega)
  have e1 : wrapI .i64 ((hi : Int) - lo) = (hi : Int) - lo := wrapI_small (by omega) (by omega)
  have e2 : wrapI .i64 ((hi : Int) - lo + 1) = (hi : Int) - lo + 1 := wrapI_small (by omega) (by omega)
  have e3 : ((hi - lo + 1 : Nat) : Int) = (hi : Int) - lo + 1 := by omega
  have hbd := belV_bd x (n := hi - lo + 1) (by omega) (by omega)
  have e4 : wrapI .i64 ((lo : Int) + belV x (hi - lo + 1)) = (lo : Int) + belV x (hi - lo + 1) := wrapI_small (by omega) (by omega)
  rw [e3] at hb'
  simp only [evFn, Try.f49]
  simp [ec_skip, ec_label, ek_reg, ek_draw, ek_seq, ec_cond, ek_block, ec_loop, ec_exit, ec_ret, ec_scope, ek_nil, ek_op, opK_some, regK_some, seqK_normal, seqK_exit, seqK_ret, blockK_normal, blockK_exit, blockK_ret, evOp, vOp, hOpB, hOpU, hOp, hOpT, aAppendG_tab, aWanted, aYielded, opd, putT, closedV, aBin, intOp, sameK, mapO, joinR, hasAddr, boundOf, pushB, aAlloc, Value.cells, lookB, setB, Nat.beq_eq, tm_n_set, tm_get_set, tm_of_n, tm_of_get, tm_tr_set, tm_tr_of, cellV, putF, appR_eq, takeR_eq, dropR_eq, setR_eq, getR_eq, ↓C75, ↓C76, ↓C77, ↓C79, ↓C17, ↓C18, ↓C22, ↓C71, FA24_0, FA24_1, FA24_2, FA24_3, FA24_4, FA24_5, FA24_6, FA24_7, FA24_8, LD3, LD4, LD22, LD27, LDr, LD24, LEN22, IA22, tkc, cellAt, ↓Cbelow, e1, e2, e4, hb', rngV, finF, takeM, resV, cleanedG, hasAddr, kp1, kp2]
noncomputable def oddV (x : Int) (n : Nat) : Bool := belV x n == 0
set_option maxRecDepth 10000 in
set_option maxHeartbeats 8000000 in
theorem odds_ev {L : Nat} (call : Value → List Value → AH → Option (Value × AH)) (p N : Nat) (bs : List (Nat × ABlk)) (x : Int) (n : Nat) (h1 : 1 ≤ n) (h2 : n ≤ 1000)
    (hb : ∀ n : Nat, 1 ≤ n → n ≤ 1000 → call (.func (.func 65) #[] #[]) [.pointer (some ⟨p, 0, none⟩), .int .i64 (n : Int)] ⟨N, bs⟩ = some (.int .i64 (belV x n), ⟨N, setB bs p (sB (stB x))⟩)) :
    evFn (tabT Try.prog) call (L + 300) kpT 47 Try.f47 [.pointer (some ⟨p, 0, none⟩), .int .i64 (n : Int)] ⟨N, bs⟩ = some (.bool (oddV x n), ⟨N, setB bs p (sB (stB x))⟩) := by
  have kp := kp47
  simp only [Prod.mk.injEq] at kp
  obtain ⟨kp1, kp2⟩ := kp
  have hb' := hb n h1 h2
  simp only [evFn, Try.f47]
  simp [ec_skip, ec_label, ek_reg, ek_draw, ek_seq, ec_cond, ek_block, ec_loop, ec_exit, ec_ret, ec_scope, ek_nil, ek_op, opK_some, regK_some, seqK_normal, seqK_exit, seqK_ret, blockK_normal, blockK_exit, blockK_ret, evOp, vOp, hOpB, hOpU, hOp, hOpT, aAppendG_tab, aWanted, aYielded, opd, putT, closedV, aBin, intOp, sameK, mapO, joinR, hasAddr, boundOf, pushB, aAlloc, Value.cells, lookB, setB, Nat.beq_eq, tm_n_set, tm_get_set, tm_of_n, tm_of_get, tm_tr_set, tm_tr_of, cellV, putF, appR_eq, takeR_eq, dropR_eq, setR_eq, getR_eq, ↓C75, ↓C76, ↓C77, ↓C79, ↓C17, ↓C18, ↓C22, ↓C71, FA24_0, FA24_1, FA24_2, FA24_3, FA24_4, FA24_5, FA24_6, FA24_7, FA24_8, LD3, LD4, LD22, LD27, LDr, LD24, LEN22, IA22, tkc, cellAt, ↓Cbelow, hb', oddV, finF, takeM, resV, cleanedG, hasAddr, kp1, kp2]

end Go.Proofs.Ytdbpemmhkfbegaa
