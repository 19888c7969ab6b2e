/-
  What is proved: whether a set is valid, and its size; copies of lists; the wall that the program makes.
-/
import Derived.Test.YtbgknpcbldnabaaWd
namespace Go.Proofs.Ytbgknpcbldnabaa
open Go.RowKit
set_option linter.unusedSimpArgs false
set_option linter.unusedVariables false

theorem Nsize : ((tabT Try.prog) 24).map (fun z => (z.ex.nat 13, z.ex.mnz 13)) = some (none, none) := by kernel_rfl
theorem Csize (call : Value → List Value → AH → Option (Value × AH)) {tm : Tm} {i : Nat} {H : AH} {d : Option Tmp} {t : TypeId} {p : String} {a : Array Edge} {gd : Option (Nat × Bool)} : evOp (tabT Try.prog) call ⟨d, .call ⟨.value (.func 13), #[.tmp i], #[24]⟩, t, p, a, gd⟩ (opd tm) H = call (.func (.func 13) #[] #[]) [tm.get i] H :=
  evOp_evO.trans (eo_call1 rfl rfl Nsize)
theorem Nvalid : ((tabT Try.prog) 24).map (fun z => (z.ex.nat 29, z.ex.mnz 29)) = some (none, none) := by kernel_rfl
theorem Cvalid (call : Value → List Value → AH → Option (Value × AH)) {tm : Tm} {i : Nat} {H : AH} {d : Option Tmp} {t : TypeId} {p : String} {a : Array Edge} {gd : Option (Nat × Bool)} : evOp (tabT Try.prog) call ⟨d, .call ⟨.value (.func 29), #[.tmp i], #[24]⟩, t, p, a, gd⟩ (opd tm) H = call (.func (.func 29) #[] #[]) [tm.get i] H :=
  evOp_evO.trans (eo_call1 rfl rfl Nvalid)
theorem Npsize : ((tabT Try.prog) 24).map (fun z => (z.ex.nat 30, z.ex.mnz 30)) = some (none, none) := by kernel_rfl
theorem Cpsize (call : Value → List Value → AH → Option (Value × AH)) {tm : Tm} {i : Nat} {H : AH} {d : Option Tmp} {t : TypeId} {p : String} {a : Array Edge} {gd : Option (Nat × Bool)} : evOp (tabT Try.prog) call ⟨d, .call ⟨.value (.func 30), #[.tmp i], #[24]⟩, t, p, a, gd⟩ (opd tm) H = call (.func (.func 30) #[] #[]) [tm.get i] H :=
  evOp_evO.trans (eo_call1 rfl rfl Npsize)
theorem Nrsize : ((tabT Try.prog) 24).map (fun z => (z.ex.nat 16, z.ex.mnz 16)) = some (none, none) := by kernel_rfl
theorem Crsize (call : Value → List Value → AH → Option (Value × AH)) {tm : Tm} {i : Nat} {H : AH} {d : Option Tmp} {t : TypeId} {p : String} {a : Array Edge} {gd : Option (Nat × Bool)} : evOp (tabT Try.prog) call ⟨d, .call ⟨.value (.func 16), #[.tmp i], #[24]⟩, t, p, a, gd⟩ (opd tm) H = call (.func (.func 16) #[] #[]) [tm.get i] H :=
  evOp_evO.trans (eo_call1 rfl rfl Nrsize)
theorem Cshuf (call : Value → List Value → AH → Option (Value × AH)) {tm : Tm} {i j k : Nat} {H : AH} {d : Option Tmp} {t : TypeId} {p : String} {a : Array Edge} {gd : Option (Nat × Bool)} : evOp (tabT Try.prog) call ⟨d, .call ⟨.value (.func 14), #[.tmp i, .tmp j, .tmp k], #[38, 3, 40]⟩, t, p, a, gd⟩ (opd tm) H = call (.func (.func 14) #[] #[]) [tm.get i, tm.get j, tm.get k] H :=
  evOp_evO.trans (eo_call3 rfl rfl rfl rfl)
theorem Ncopied : ((tabT Try.prog) 22).map (fun z => (z.ex.nat 15, z.ex.mnz 15)) = some (none, none) := by kernel_rfl
theorem Ccopied (call : Value → List Value → AH → Option (Value × AH)) {tm : Tm} {i : Nat} {H : AH} {d : Option Tmp} {t : TypeId} {p : String} {a : Array Edge} {gd : Option (Nat × Bool)} : evOp (tabT Try.prog) call ⟨d, .call ⟨.value (.func 15), #[.tmp i], #[22]⟩, t, p, a, gd⟩ (opd tm) H = call (.func (.func 15) #[] #[]) [tm.get i] H :=
  evOp_evO.trans (eo_call1 rfl rfl Ncopied)
theorem kp7 : kpT 7 = false := by kernel_rfl
theorem kp8 : kpT 8 = false := by kernel_rfl
theorem kp13 : kpT 13 = false := by kernel_rfl
theorem kp29 : kpT 29 = false := by kernel_rfl
theorem kp15 : kpT 15 = false := by kernel_rfl
theorem gc7 : gcT 7 = false := by kernel_rfl
theorem gc15 : gcT 15 = false := by kernel_rfl
theorem gc8 : gcT 8 = false := by kernel_rfl
theorem F7n : tabF Try.prog 7 = some Try.f7 := by kernel_rfl
theorem F8n : tabF Try.prog 8 = some Try.f8 := by kernel_rfl
theorem F13n : tabF Try.prog 13 = some Try.f13 := by kernel_rfl
theorem F29n : tabF Try.prog 29 = some Try.f29 := by kernel_rfl
theorem F16n : tabF Try.prog 16 = some Try.f16 := by kernel_rfl
theorem F15n : tabF Try.prog 15 = some Try.f15 := by kernel_rfl
theorem F14n : tabF Try.prog 14 = some Try.f14 := by kernel_rfl

noncomputable def SV.cs (s : SV) : List Value := [.int .i64 s.p, .slice (some ⟨0, 0, some 1⟩) s.n 0, .int .i64 s.w, .int .i64 s.d, .int .i64 s.f, .int .i64 s.c, .int .i64 s.m, .int .i64 s.de, .slice (some ⟨1, 0, some 1⟩) s.k 0]
set_option maxRecDepth 10000 in
set_option maxHeartbeats 8000000 in
theorem valid_ev (call : Value → List Value → AH → Option (Value × AH)) (s : SV) (hc : ∀ (H : AH), lookB H.bs 0 = some (.ints s.g) → lookB H.bs 1 = some (.ints s.h) → call (.func (.func 34) #[] #[]) [s.val] H = some (.int .i64 s.err, H)) :
    ∃ H', evFn (tabT Try.prog) call 300 kpT 29 Try.f29 [s.val] s.hp = some (.bool (decide (s.err = 0)), H') := by
  have kp := kp29
  simp only [SV.val, SV.hp] at hc
  simp only [evFn, Try.f29, SV.val, SV.hp]
  simp [ec_skip, ec_label, ek_reg, ek_draw, ek_seq, ec_cond, ek_block, ec_loop, ec_exit, ec_ret, ec_scope, ek_nil, ek_op, opK_some, regK_some, seqK_normal, seqK_exit, seqK_ret, blockK_normal, blockK_exit, blockK_ret, evOp, vOp, hOpB, hOpU, hOp, hOpT, aAppendG_tab, aWanted, aYielded, opd, putT, closedV, aBin, intOp, sameK, mapO, joinR, hasAddr, boundOf, pushB, aAlloc, Value.cells, lookB, setB, Nat.beq_eq, tm_n_set, tm_get_set, tm_of_n, tm_of_get, tm_tr_set, tm_tr_of, cellV, putF, appR_eq, takeR_eq, dropR_eq, setR_eq, getR_eq, ↓C75, ↓C76, ↓C77, ↓C79, ↓C17, ↓C18, ↓C22, ↓C71, FA24_0, FA24_1, FA24_2, FA24_3, FA24_4, FA24_5, FA24_6, FA24_7, FA24_8, LD3, LD4, LD22, LD27, LDr, LD24, LEN22, IA22, tkc, cellAt, SV.cs, hc, finF, takeM, resV, kp]
  by_cases he : s.err = 0 <;> simp [he]
noncomputable def aValid (s : SV) : Option Value := some (.bool (decide (s.err = 0)))
noncomputable def aRsize (s : SV) : Option Value := some (.int .i64 s.rsize)
theorem ok29 : AnsOK (runH L4) 29 (ans1 aValid) := ans1_ok fun s v h => by
  cases h
  refine ⟨rfl, fun _ _ => ?_⟩
  obtain ⟨H', h⟩ := valid_ev (inH L4) s (fun H h0 h1 => L4_17 s H h0 h1)
  exact ⟨H', runH_fn F29n rfl h⟩
theorem ok16 : AnsOK (runH L4) 16 (ans1 aRsize) := ans1_ok fun s v h => by
  cases h
  refine ⟨rfl, fun _ _ => ?_⟩
  obtain ⟨H', h⟩ := rsize_ev (inH L4) (fun s H h0 h1 => L4_18 s H h0 h1) (fun s H h0 h1 => L4_79 s H h0 h1) s
  exact ⟨H', runH_fn F16n rfl h⟩
noncomputable def V0 : Hnd := orH (canH 29 (ans1 aValid)) L4
theorem V0_ok : CallOK Try.prog V0 := orH_ok (canH_ok (runH_ok L4_ok) ok29) L4_ok
theorem V0_29 (s : SV) (H : AH) (h0 : lookB H.bs 0 = some (.ints s.g)) (h1 : lookB H.bs 1 = some (.ints s.h)) : inH V0 (.func (.func 29) #[] #[]) [s.val] H = some (.bool (decide (s.err = 0)), H) := inH_hd (orH_l (canH_set h0 h1))
theorem V0_30 (s : SV) (H : AH) (h0 : lookB H.bs 0 = some (.ints s.g)) (h1 : lookB H.bs 1 = some (.ints s.h)) : inH V0 (.func (.func 30) #[] #[]) [s.val] H = some (.int .i64 s.size, H) := inH_hd (orH_r (canH_other rfl) (orH_r (canH_other rfl) (orH_r (canH_other rfl) (orH_l (orH_l (orH_r rfl (orH_r (canH_other rfl) (orH_r (canH_other rfl) (canH_set h0 h1)))))))))
set_option maxRecDepth 10000 in
set_option maxHeartbeats 8000000 in
theorem psize_ev (call : Value → List Value → AH → Option (Value × AH)) (s : SV) (hv : ∀ (H : AH), lookB H.bs 0 = some (.ints s.g) → lookB H.bs 1 = some (.ints s.h) → call (.func (.func 29) #[] #[]) [s.val] H = some (.bool (decide (s.err = 0)), H))
    (hz : ∀ (H : AH), lookB H.bs 0 = some (.ints s.g) → lookB H.bs 1 = some (.ints s.h) → call (.func (.func 30) #[] #[]) [s.val] H = some (.int .i64 s.size, H)) :
    ∃ H', evFn (tabT Try.prog) call 300 kpT 13 Try.f13 [s.val] s.hp = some (.int .i64 s.rsize, H') := by
  have kp := kp13
  simp only [SV.val, SV.hp] at hv hz
  simp only [evFn, Try.f13, SV.val, SV.hp]
  by_cases he : s.err = 0
  · simp [ec_skip, ec_label, ek_reg, ek_draw, ek_seq, ec_cond, ek_block, ec_loop, ec_exit, ec_ret, ec_scope, ek_nil, ek_op, opK_some, regK_some, seqK_normal, seqK_exit, seqK_ret, blockK_normal, blockK_exit, blockK_ret, evOp, vOp, hOpB, hOpU, hOp, hOpT, aAppendG_tab, aWanted, aYielded, opd, putT, closedV, aBin, intOp, sameK, mapO, joinR, hasAddr, boundOf, pushB, aAlloc, Value.cells, lookB, setB, Nat.beq_eq, tm_n_set, tm_get_set, tm_of_n, tm_of_get, tm_tr_set, tm_tr_of, cellV, putF, appR_eq, takeR_eq, dropR_eq, setR_eq, getR_eq, ↓C75, ↓C76, ↓C77, ↓C79, ↓C17, ↓C18, ↓C22, ↓C71, FA24_0, FA24_1, FA24_2, FA24_3, FA24_4, FA24_5, FA24_6, FA24_7, FA24_8, LD3, LD4, LD22, LD27, LDr, LD24, LEN22, IA22, tkc, cellAt, ↓Cvalid, ↓Cpsize, SV.cs, hv, hz, he, SV.rsize, finF, takeM, resV, kp]
  · simp [ec_skip, ec_label, ek_reg, ek_draw, ek_seq, ec_cond, ek_block, ec_loop, ec_exit, ec_ret, ec_scope, ek_nil, ek_op, opK_some, regK_some, seqK_normal, seqK_exit, seqK_ret, blockK_normal, blockK_exit, blockK_ret, evOp, vOp, hOpB, hOpU, hOp, hOpT, aAppendG_tab, aWanted, aYielded, opd, putT, closedV, aBin, intOp, sameK, mapO, joinR, hasAddr, boundOf, pushB, aAlloc, Value.cells, lookB, setB, Nat.beq_eq, tm_n_set, tm_get_set, tm_of_n, tm_of_get, tm_tr_set, tm_tr_of, cellV, putF, appR_eq, takeR_eq, dropR_eq, setR_eq, getR_eq, ↓C75, ↓C76, ↓C77, ↓C79, ↓C17, ↓C18, ↓C22, ↓C71, FA24_0, FA24_1, FA24_2, FA24_3, FA24_4, FA24_5, FA24_6, FA24_7, FA24_8, LD3, LD4, LD22, LD27, LDr, LD24, LEN22, IA22, tkc, cellAt, ↓Cvalid, ↓Cpsize, SV.cs, hv, hz, he, SV.rsize, finF, takeM, resV, kp]
theorem ok13 : AnsOK (runH V0) 13 (ans1 aRsize) := ans1_ok fun s v h => by
  cases h
  refine ⟨rfl, fun _ _ => ?_⟩
  obtain ⟨H', h⟩ := psize_ev (inH V0) s (V0_29 s) (V0_30 s)
  exact ⟨H', runH_fn F13n rfl h⟩
noncomputable def V1 : Hnd := orH (canH 13 (ans1 aRsize)) (orH (canH 16 (ans1 aRsize)) V0)
theorem V1_ok : CallOK Try.prog V1 := orH_ok (canH_ok (runH_ok V0_ok) ok13) (orH_ok (canH_ok (runH_ok L4_ok) ok16) V0_ok)
theorem V1_13 (s : SV) (H : AH) (h0 : lookB H.bs 0 = some (.ints s.g)) (h1 : lookB H.bs 1 = some (.ints s.h)) : V1 (.func (.func 13) #[] #[]) [s.val] H = some (.int .i64 s.rsize, H) := orH_l (canH_set h0 h1)
theorem V1_16 (s : SV) (H : AH) (h0 : lookB H.bs 0 = some (.ints s.g)) (h1 : lookB H.bs 1 = some (.ints s.h)) : V1 (.func (.func 16) #[] #[]) [s.val] H = some (.int .i64 s.rsize, H) := orH_r (canH_other rfl) (orH_l (canH_set h0 h1))

end Go.Proofs.Ytbgknpcbldnabaa
