/-
  What is proved: the body of TileBags, by what its calls answer.
-/
import Derived.Test.YtbpknklnalnihaaTr
namespace Go.Proofs.Ytbpknklnalnihaa
open Go.RowKit
set_option linter.unusedSimpArgs false
set_option linter.unusedVariables false

theorem Nb5 : ((tabT Try.prog) 24).map (fun z => z.ex.nat 5) = some none := by kernel_rfl
theorem Cb5 (call : Value → List Value → AH → Option (Value × AH)) {tm : Tm} {j k : Nat} {H : AH} {d : Option Tmp} {t : TypeId} {p : String} {a : Array Edge} {gd : Option (Nat × Bool)} : evOp (tabT Try.prog) call ⟨d, .call ⟨.value (.func 5), #[.tmp j, .tmp k], #[24, 22]⟩, t, p, a, gd⟩ (opd tm) H = call (.func (.func 5) #[] #[]) [tm.get j, tm.get k] H :=
  evOp_evO.trans (eo_call2n rfl rfl rfl Nb5)
theorem Nb6 : ((tabT Try.prog) 24).map (fun z => z.ex.nat 6) = some none := by kernel_rfl
theorem Cb6 (call : Value → List Value → AH → Option (Value × AH)) {tm : Tm} {j k : Nat} {H : AH} {d : Option Tmp} {t : TypeId} {p : String} {a : Array Edge} {gd : Option (Nat × Bool)} : evOp (tabT Try.prog) call ⟨d, .call ⟨.value (.func 6), #[.tmp j, .tmp k], #[24, 22]⟩, t, p, a, gd⟩ (opd tm) H = call (.func (.func 6) #[] #[]) [tm.get j, tm.get k] H :=
  evOp_evO.trans (eo_call2n rfl rfl rfl Nb6)
theorem Nb7 : ((tabT Try.prog) 24).map (fun z => z.ex.nat 7) = some none := by kernel_rfl
theorem Cb7 (call : Value → List Value → AH → Option (Value × AH)) {tm : Tm} {j k : Nat} {H : AH} {d : Option Tmp} {t : TypeId} {p : String} {a : Array Edge} {gd : Option (Nat × Bool)} : evOp (tabT Try.prog) call ⟨d, .call ⟨.value (.func 7), #[.tmp j, .tmp k], #[24, 22]⟩, t, p, a, gd⟩ (opd tm) H = call (.func (.func 7) #[] #[]) [tm.get j, tm.get k] H :=
  evOp_evO.trans (eo_call2n rfl rfl rfl Nb7)
theorem Nb8 : ((tabT Try.prog) 24).map (fun z => z.ex.nat 8) = some none := by kernel_rfl
theorem Cb8 (call : Value → List Value → AH → Option (Value × AH)) {tm : Tm} {j k : Nat} {H : AH} {d : Option Tmp} {t : TypeId} {p : String} {a : Array Edge} {gd : Option (Nat × Bool)} : evOp (tabT Try.prog) call ⟨d, .call ⟨.value (.func 8), #[.tmp j, .tmp k], #[24, 22]⟩, t, p, a, gd⟩ (opd tm) H = call (.func (.func 8) #[] #[]) [tm.get j, tm.get k] H :=
  evOp_evO.trans (eo_call2n rfl rfl rfl Nb8)
theorem Nb9 : ((tabT Try.prog) 22).map (fun z => z.ex.nat 9) = some none := by kernel_rfl
theorem Cb9 (call : Value → List Value → AH → Option (Value × AH)) {tm : Tm} {j k : Nat} {H : AH} {d : Option Tmp} {t : TypeId} {p : String} {a : Array Edge} {gd : Option (Nat × Bool)} : evOp (tabT Try.prog) call ⟨d, .call ⟨.value (.func 9), #[.tmp j, .tmp k], #[22, 22]⟩, t, p, a, gd⟩ (opd tm) H = call (.func (.func 9) #[] #[]) [tm.get j, tm.get k] H :=
  evOp_evO.trans (eo_call2n rfl rfl rfl Nb9)
theorem Nb10 : ((tabT Try.prog) 29).map (fun z => z.ex.nat 10) = some none := by kernel_rfl
theorem Cb10 (call : Value → List Value → AH → Option (Value × AH)) {tm : Tm} {j k : Nat} {H : AH} {d : Option Tmp} {t : TypeId} {p : String} {a : Array Edge} {gd : Option (Nat × Bool)} : evOp (tabT Try.prog) call ⟨d, .call ⟨.value (.func 10), #[.tmp j, .tmp k], #[29, 29]⟩, t, p, a, gd⟩ (opd tm) H = call (.func (.func 10) #[] #[]) [tm.get j, tm.get k] H :=
  evOp_evO.trans (eo_call2n rfl rfl rfl Nb10)
theorem Nb4 : ((tabT Try.prog) 24).map (fun z => (z.ex.nat 4, z.ex.mnz 4)) = some (none, none) := by kernel_rfl
theorem Cb4 (call : Value → List Value → AH → Option (Value × AH)) {tm : Tm} {k : Nat} {H : AH} {d : Option Tmp} {t : TypeId} {p : String} {a : Array Edge} {gd : Option (Nat × Bool)} : evOp (tabT Try.prog) call ⟨d, .call ⟨.value (.func 4), #[.tmp k], #[24]⟩, t, p, a, gd⟩ (opd tm) H = call (.func (.func 4) #[] #[]) [tm.get k] H :=
  evOp_evO.trans (eo_call1 rfl rfl Nb4)
/-- The memory of the body. -/
noncomputable def MB (s : SV) (t : Nat → Int) : AH := ⟨4, [(3, .cells false s.cs), (2, .ints t), (1, .ints s.h), (0, .ints s.g)]⟩
set_option maxRecDepth 10000 in
set_option maxHeartbeats 8000000 in
theorem body_core (call : Value → List Value → AH → Option (Value × AH)) (s : SV) (t : Nat → Int) (n : Nat) (hl : s.long = false) (hn : n ≤ 200) {a b v w : Value} {e f : Int} {H1 H2 H3 H4 H5 H6 : AH}
    (h4 : ∀ (H : AH), lookB H.bs 0 = some (.ints s.g) → lookB H.bs 1 = some (.ints s.h) → call (.func (.func 4) #[] #[]) [s.val] H = some (.bool s.long, H))
    (e5 : call (.func (.func 5) #[] #[]) [s.val, sl2 n] (MB s t) = some (.tuple #[a, .int .i64 e], H1)) (l1 : lookB H1.bs 3 = some (.cells false s.cs))
    (e6 : call (.func (.func 6) #[] #[]) [s.val, sl2 n] H1 = some (.tuple #[b, .int .i64 e], H2)) (l2 : lookB H2.bs 3 = some (.cells false s.cs))
    (e7 : call (.func (.func 7) #[] #[]) [s.val, sl2 n] H2 = some (.tuple #[v, .int .i64 f], H3)) (l3 : lookB H3.bs 3 = some (.cells false s.cs))
    (e8 : call (.func (.func 8) #[] #[]) [s.val, sl2 n] H3 = some (.tuple #[w, .int .i64 f], H4))
    (e9 : call (.func (.func 9) #[] #[]) [a, b] H4 = some (.bool true, H5)) (e10 : call (.func (.func 10) #[] #[]) [v, w] H5 = some (.bool true, H6))
    (e11 : ∀ H : AH, call (.func (.func 11) #[] #[]) [] H = some (.bool true, H)) :
    ∃ H', evFn (tabT Try.prog) call 300 kpT 3 Try.f3 [s.val, sl2 n] (hpT s t) = some (.bool true, H') := by
  have hn' : ¬ (200 : Int) < n := by omega
  simp only [SV.val, sl2, MB, SV.cs, hl] at h4 e5 e6 e7 e8 l1 l2 l3
  simp only [evFn, Try.f3, SV.val, sl2, hpT]
  simp [ec_skip, ec_label, ek_reg, ek_draw, ek_seq, ec_cond, ek_block, ec_loop, ec_exit, ec_ret, ec_scope, ek_nil, ek_op, opK_some, regK_some, seqK_normal, seqK_exit, seqK_ret, blockK_normal, blockK_exit, blockK_ret, evOp, vOp, hOpB, hOpU, hOp, hOpT, aWanted, aYielded, opd, putT, closedV, aBin, intOp, sameK, mapO, joinR, hasAddr, boundOf, pushB, aAlloc, Value.cells, lookB, setB, Nat.beq_eq, tm_n_set, tm_get_set, tm_of_n, tm_of_get, tm_tr_set, tm_tr_of, cellV, putF, appR_eq, takeR_eq, dropR_eq, setR_eq, getR_eq, ↓C75, ↓C76, ↓C77, ↓C79, ↓C17, ↓C18, ↓C22, ↓C71, FA24_0, FA24_1, FA24_2, FA24_3, FA24_4, FA24_5, FA24_6, FA24_7, FA24_8, LD3, LD4, LD22, LD27, LDr, LD24, LEN22, IA22, tkc, cellAt, SV.cs, ↓Cb4, ↓Cb5, ↓Cb6, ↓Cb7, ↓Cb8, ↓Cb9, ↓Cb10, finF, takeM, resV, hn', h4, e5, e6, e7, e8, e9, e10, e11, l1, l2, l3]
set_option maxRecDepth 10000 in
set_option maxHeartbeats 8000000 in
theorem body_long (call : Value → List Value → AH → Option (Value × AH)) (s : SV) (n : Nat) {H1 : AH} (h4 : call (.func (.func 4) #[] #[]) [s.val] ⟨4, [(3, .cells false s.cs)]⟩ = some (.bool s.long, H1)) (hl : s.long = true ∨ 200 < n) :
    ∃ H', evFn (tabT Try.prog) call 300 kpT 3 Try.f3 [s.val, sl2 n] ⟨3, []⟩ = some (.bool true, H') := by
  simp only [SV.val, SV.cs] at h4
  simp only [evFn, Try.f3, SV.val, sl2]
  cases hs : s.long with
  | true =>
    rw [hs] at h4
    simp [ec_skip, ec_label, ek_reg, ek_draw, ek_seq, ec_cond, ek_block, ec_loop, ec_exit, ec_ret, ec_scope, ek_nil, ek_op, opK_some, regK_some, seqK_normal, seqK_exit, seqK_ret, blockK_normal, blockK_exit, blockK_ret, evOp, vOp, hOpB, hOpU, hOp, hOpT, aWanted, aYielded, opd, putT, closedV, aBin, intOp, sameK, mapO, joinR, hasAddr, boundOf, pushB, aAlloc, Value.cells, lookB, setB, Nat.beq_eq, tm_n_set, tm_get_set, tm_of_n, tm_of_get, tm_tr_set, tm_tr_of, cellV, putF, appR_eq, takeR_eq, dropR_eq, setR_eq, getR_eq, ↓C75, ↓C76, ↓C77, ↓C79, ↓C17, ↓C18, ↓C22, ↓C71, FA24_0, FA24_1, FA24_2, FA24_3, FA24_4, FA24_5, FA24_6, FA24_7, FA24_8, LD3, LD4, LD22, LD27, LDr, LD24, LEN22, IA22, tkc, cellAt, SV.cs, ↓Cb4, finF, takeM, resV, h4]
  | false =>
    have hn : 200 < n := by
      rcases hl with h | h
      · rw [hs] at h; cases h
      · exact h
    have hn' : (200 : Int) < n := by omega
    rw [hs] at h4
    simp [ec_skip, ec_label, ek_reg, ek_draw, ek_seq, ec_cond, ek_block, ec_loop, ec_exit, ec_ret, ec_scope, ek_nil, ek_op, opK_some, regK_some, seqK_normal, seqK_exit, seqK_ret, blockK_normal, blockK_exit, blockK_ret, evOp, vOp, hOpB, hOpU, hOp, hOpT, aWanted, aYielded, opd, putT, closedV, aBin, intOp, sameK, mapO, joinR, hasAddr, boundOf, pushB, aAlloc, Value.cells, lookB, setB, Nat.beq_eq, tm_n_set, tm_get_set, tm_of_n, tm_of_get, tm_tr_set, tm_tr_of, cellV, putF, appR_eq, takeR_eq, dropR_eq, setR_eq, getR_eq, ↓C75, ↓C76, ↓C77, ↓C79, ↓C17, ↓C18, ↓C22, ↓C71, FA24_0, FA24_1, FA24_2, FA24_3, FA24_4, FA24_5, FA24_6, FA24_7, FA24_8, LD3, LD4, LD22, LD27, LDr, LD24, LEN22, IA22, tkc, cellAt, SV.cs, ↓Cb4, finF, takeM, resV, h4, hn, hn']

end Go.Proofs.Ytbpknklnalnihaa
