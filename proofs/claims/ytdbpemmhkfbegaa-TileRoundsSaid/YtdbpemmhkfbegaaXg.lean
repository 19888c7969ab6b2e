/-
  What is proved: the body of the law, by what its calls answer.
-/
import Derived.Test.YtdbpemmhkfbegaaXf
import Derived.Test.YtdbpemmhkfbegaaXy
namespace Go.Proofs.Ytdbpemmhkfbegaa
open Go.RowKit
set_option linter.unusedSimpArgs false
set_option linter.unusedVariables false

theorem Nplace : ((tabT Try.prog) 24).map (fun z => z.ex.nat 7) = some none := by kernel_rfl
theorem Cplace (call : Value → List Value → AH → Option (Value × AH)) {tm : Tm} {i j : Nat} {H : AH} {d : Option Tmp} {t : TypeId} {p : String} {a : Array Edge} {gd : Option (Nat × Bool)} : evOp (tabT Try.prog) call ⟨d, .call ⟨.value (.func 7), #[.tmp i, .tmp j], #[24, 3]⟩, t, p, a, gd⟩ (opd tm) H = call (.func (.func 7) #[] #[]) [tm.get i, tm.get j] H :=
  evOp_evO.trans (eo_call2n rfl rfl rfl Nplace)
theorem Nafter : ((tabT Try.prog) 24).map (fun z => z.ex.nat 18) = some none := by kernel_rfl
theorem Cafter (call : Value → List Value → AH → Option (Value × AH)) {tm : Tm} {i j : Nat} {H : AH} {d : Option Tmp} {t : TypeId} {p : String} {a : Array Edge} {gd : Option (Nat × Bool)} : evOp (tabT Try.prog) call ⟨d, .call ⟨.value (.func 18), #[.tmp i, .tmp j], #[24, 3]⟩, t, p, a, gd⟩ (opd tm) H = call (.func (.func 18) #[] #[]) [tm.get i, tm.get j] H :=
  evOp_evO.trans (eo_call2n rfl rfl rfl Nafter)
theorem Nsetof : ((tabT Try.prog) 35).map (fun z => (z.ex.nat 21, z.ex.mnz 21)) = some (none, none) := by kernel_rfl
theorem Csetof (call : Value → List Value → AH → Option (Value × AH)) {tm : Tm} {i : Nat} {H : AH} {d : Option Tmp} {t : TypeId} {p : String} {a : Array Edge} {gd : Option (Nat × Bool)} : evOp (tabT Try.prog) call ⟨d, .call ⟨.value (.func 21), #[.tmp i], #[35]⟩, t, p, a, gd⟩ (opd tm) H = call (.func (.func 21) #[] #[]) [tm.get i] H :=
  evOp_evO.trans (eo_call1 rfl rfl Nsetof)
theorem Nnews : ((tabT Try.prog) 22).map (fun z => (z.ex.nat 22, z.ex.mnz 22)) = some (none, none) := by kernel_rfl
theorem Cnews (call : Value → List Value → AH → Option (Value × AH)) {tm : Tm} {i : Nat} {H : AH} {d : Option Tmp} {t : TypeId} {p : String} {a : Array Edge} {gd : Option (Nat × Bool)} : evOp (tabT Try.prog) call ⟨d, .call ⟨.value (.func 22), #[.tmp i], #[22]⟩, t, p, a, gd⟩ (opd tm) H = call (.func (.func 22) #[] #[]) [tm.get i] H :=
  evOp_evO.trans (eo_call1 rfl rfl Nnews)
theorem Cawake (call : Value → List Value → AH → Option (Value × AH)) {tm : Tm} {H : AH} {d : Option Tmp} {t : TypeId} {p : String} {a : Array Edge} {gd : Option (Nat × Bool)} : evOp (tabT Try.prog) call ⟨d, .call ⟨.value (.func 20), #[], #[]⟩, t, p, a, gd⟩ (opd tm) H = call (.func (.func 20) #[] #[]) [] H :=
  evOp_evO.trans (eo_call0 rfl)
theorem Ninto : ((tabT Try.prog) 3).map (fun z => z.ex.nat 23) = some none := by kernel_rfl
theorem Ginto (call : Value → List Value → AH → Option (Value × AH)) {tm : Tm} {rs : List DR} {ts : List Nat} {j k : Nat} {H : AH} {d : Option Tmp} {t : TypeId} {p : String} {a : Array Edge} {gd : Option (Nat × Bool)} (hj : natMem ts j = true) (hk : natMem ts k = true) : evOp (tabT Try.prog) call ⟨d, .call ⟨.value (.func 23), #[.tmp j, .tmp k], #[3, 3]⟩, t, p, a, gd⟩ (gOf tm rs ts) H = call (.func (.func 23) #[] #[]) [(finT tm rs).get j, (finT tm rs).get k] H :=
  evOp_evO.trans (eo_call2n rfl (by simp only [gOf, hj, if_true]) (by simp only [gOf, hk, if_true]) Ninto)
theorem Winto : wrT 23 = false := by kernel_rfl
theorem kgL : kpT 4 = false := by kernel_rfl
theorem cvI (k : IntKind) (n : Int) : cellV (.int k n) = true := rfl
theorem IX22 (i n k : Nat) (h : k < n) : aIndexAddr (tabT Try.prog) 22 (.slice (some ⟨i, 0, none⟩) n 1) (.int .i64 (k : Int)) = some (.pointer (some ⟨i, k, none⟩)) := by
  rw [ixa (e := 3) (z := 1) (by kernel_rfl) (by kernel_rfl) i 0 n 1 k h]
  simp
def loops : Code → List Code
  | .seq x y => loops x ++ loops y
  | .block _ c => loops c
  | .loop c => [c]
  | _ => []
noncomputable def lcode : Code := ((Try.f4.body.map loops).getD []).getD 0 .skip
/-- The temporaries in the loop. -/
def TG (M : Nat) (k su q : Int) (A : AF) : Prop := A.tm.n = 85 ∧ A.marks = [] ∧ A.tm.get 5 = .pointer (some ⟨M, 0, none⟩) ∧ A.tm.get 6 = .int .i64 k ∧ A.tm.get 7 = .int .i64 su ∧ A.tm.get 9 = .int .i64 q
def IG (M : Nat) (k su r q : Int) (H0 : AH) (m : Nat) (A : AF) (H : AH) : Prop := ∃ i : Int, 1 ≤ i ∧ i + m = q + 1 ∧ TG M k su q A ∧ A.tm.get 10 = .int .i64 (k - r + (r + i - 1) % q) ∧ A.tm.get 11 = .int .i64 i ∧ H = H0
def QG (M : Nat) (k su q : Int) (H0 : AH) (y : AX) (A : AF) (H : AH) : Prop := y = .exit 1 ∧ TG M k su q A ∧ H = H0
set_option maxRecDepth 10000 in
set_option maxHeartbeats 8000000 in
theorem round_loop {L : Nat} (call : Value → List Value → AH → Option (Value × AH)) (M M' : Nat) (b : List (Nat × ABlk)) (s : SV) (u1 u8 : Value) (hM' : M + 1 ≤ M') (hL : lookB b M = some (.cells false [.int .i64 s.p, u1, .int .i64 s.w, .int .i64 s.d, .int .i64 s.f, .int .i64 s.c, .int .i64 s.m, .int .i64 s.de, u8]))
    (hPlace : ∀ (M' : Nat) (j : Int), M + 1 ≤ M' → call (.func (.func 7) #[] #[]) [.agg #[.int .i64 s.p, u1, .int .i64 s.w, .int .i64 s.d, .int .i64 s.f, .int .i64 s.c, .int .i64 s.m, .int .i64 s.de, u8], .int .i64 j] ⟨M', b⟩ = some (placeT (s.find j), ⟨M', b⟩))
    (hAfter : ∀ (M' : Nat) (j : Int), M + 1 ≤ M' → call (.func (.func 18) #[] #[]) [.agg #[.int .i64 s.p, u1, .int .i64 s.w, .int .i64 s.d, .int .i64 s.f, .int .i64 s.c, .int .i64 s.m, .int .i64 s.de, u8], .int .i64 j] ⟨M', b⟩ = some (.int .i64 (s.aft j), ⟨M', b⟩))
    {k su r q : Int} (hf : s.find k = some (su, r, q)) (A : AF) (hT : TG M k su q A) (h10 : A.tm.get 10 = .int .i64 k) (h11 : A.tm.get 11 = .int .i64 1) :
    ∃ y A' H', evLoop (runC (tabT Try.prog) call (L + 300) 4 none lcode) (L + 300) A ⟨M', b⟩ = some (y, A', H') ∧ QG M k su q ⟨M', b⟩ y A' H' := by
  obtain ⟨_, r0, rq, k0, _⟩ := find_spec hf
  obtain ⟨_, q9, k42, rk, _⟩ := find_many hf
  have hT4 : ((tabT Try.prog) 4).map (·.desc) = some .bool := by kernel_rfl
  obtain ⟨_, _, _, _, tt4⟩ := tdesc hT4
  clear hT4
  generalize hr : evLoop _ _ _ _ = r'
  refine loop_go (Q := QG M k su q ⟨M', b⟩) hr (IG M k su r q ⟨M', b⟩) q.toNat (by omega) ⟨1, by omega, by omega, hT, ?_, h11, rfl⟩ ?_
  · rw [h10]
    have e : (r + 1 - 1) % q = r := by rw [show r + 1 - 1 = r by omega]; exact Int.emod_eq_of_lt r0 rq
    rw [e]
    congr 1
    omega
  · clear hr hT h10 h11
    rintro m A H ⟨i, hi1, him, ⟨hl, hmk, t5, t6, t7, t9⟩, t10, t11, rfl⟩
    simp only [lcode, Try.f4, Option.map_some, loops, List.nil_append, List.append_nil, List.cons_append, Option.getD_some, List.getD_cons_zero, runC]
    cases m with
    | zero =>
      have hn : ¬ i ≤ q := by omega
      simp [ec_skip, ec_label, ek_reg, ek_draw, ek_seq, ec_cond, ek_block, ec_loop, ec_exit, ec_ret, ec_scope, ek_nil, ek_op, opK_some, regK_some, seqK_normal, seqK_exit, seqK_ret, blockK_normal, blockK_exit, blockK_ret, evOp, vOp, hOpB, hOpU, hOp, hOpT, aAppendG_tab, aWanted, aYielded, opd, putT, closedV, aBin, intOp, sameK, mapO, joinR, hasAddr, boundOf, pushB, aAlloc, Value.cells, lookB, setB, Nat.beq_eq, tm_n_set, tm_get_set, tm_of_n, tm_of_get, tm_tr_set, tm_tr_of, cellV, putF, appR_eq, takeR_eq, dropR_eq, setR_eq, getR_eq, ↓C75, ↓C76, ↓C77, ↓C79, ↓C17, ↓C18, ↓C22, ↓C71, FA24_0, FA24_1, FA24_2, FA24_3, FA24_4, FA24_5, FA24_6, FA24_7, FA24_8, LD3, LD4, LD22, LD27, LDr, LD24, LEN22, IA22, tkc, cellAt, hl, hmk, t5, t6, t7, t9, t10, t11, hn]
      exact .inr ⟨by simp, rfl, ⟨by simp [tm_n_set, hl], by simp [hmk], by simp [tm_get_set, tm_n_set, hl, t5], by simp [tm_get_set, tm_n_set, hl, t6], by simp [tm_get_set, tm_n_set, hl, t7], by simp [tm_get_set, tm_n_set, hl, t9]⟩, rfl⟩
    | succ m =>
      have hn : i ≤ q := by omega
      obtain ⟨a1, a2, a3⟩ := aft_row hf hi1 hn
      have cA := hAfter M' (k - r + (r + i - 1) % q) hM'
      rw [a1] at cA
      have cP := hPlace M' (k - r + (r + i) % q) hM'
      rw [a2] at cP
      simp only [placeT] at cP
      have hw : wrapI .i64 (i + 1) = i + 1 := wrapI_small (by omega) (by omega)
      have fin : ∀ tm : Tm, tm.n = 85 → tm.get 5 = .pointer (some ⟨M, 0, none⟩) → tm.get 6 = .int .i64 k → tm.get 7 = .int .i64 su → tm.get 9 = .int .i64 q → tm.get 10 = .int .i64 (k - r + (r + i) % q) → tm.get 11 = .int .i64 (i + 1) → LStep (IG M k su r q ⟨M', b⟩) (QG M k su q ⟨M', b⟩) (m + 1) (.normal, ⟨tm, []⟩, ⟨M', b⟩) := fun tm g1 g2 g3 g4 g5 g6 g7 => .inl ⟨rfl, m, rfl, i + 1, by omega, by omega, ⟨g1, rfl, g2, g3, g4, g5⟩, by rw [g6, show r + (i + 1) - 1 = r + i by omega], g7, rfl⟩
      by_cases c : i = q
      · have a4 : k - r + (r + i) % q = k := a3.2 c
        rw [a4] at cA cP fin
        subst c
        simp [ec_skip, ec_label, ek_reg, ek_draw, ek_seq, ec_cond, ek_block, ec_loop, ec_exit, ec_ret, ec_scope, ek_nil, ek_op, opK_some, regK_some, seqK_normal, seqK_exit, seqK_ret, blockK_normal, blockK_exit, blockK_ret, evOp, vOp, hOpB, hOpU, hOp, hOpT, aAppendG_tab, aWanted, aYielded, opd, putT, closedV, aBin, intOp, sameK, mapO, joinR, hasAddr, boundOf, pushB, aAlloc, Value.cells, lookB, setB, Nat.beq_eq, tm_n_set, tm_get_set, tm_of_n, tm_of_get, tm_tr_set, tm_tr_of, cellV, putF, appR_eq, takeR_eq, dropR_eq, setR_eq, getR_eq, ↓C75, ↓C76, ↓C77, ↓C79, ↓C17, ↓C18, ↓C22, ↓C71, FA24_0, FA24_1, FA24_2, FA24_3, FA24_4, FA24_5, FA24_6, FA24_7, FA24_8, LD3, LD4, LD22, LD27, LDr, LD24, LEN22, IA22, tkc, cellAt, hl, hmk, t5, t6, t7, t9, t10, t11, hL, ↓Cafter, ↓Cplace, cA, cP, hw, tt4]
        apply fin <;> simp [tm_get_set, tm_n_set, hl, t5, t6, t7, t9]
      · have a4 : ¬ k - r + (r + i) % q = k := fun h => c (a3.1 h)
        generalize k - r + (r + i) % q = z at *
        have b4 : (z == k) = false := beq_eq_false_iff_ne.2 a4
        have b5 : (i == q) = false := beq_eq_false_iff_ne.2 c
        simp [ec_skip, ec_label, ek_reg, ek_draw, ek_seq, ec_cond, ek_block, ec_loop, ec_exit, ec_ret, ec_scope, ek_nil, ek_op, opK_some, regK_some, seqK_normal, seqK_exit, seqK_ret, blockK_normal, blockK_exit, blockK_ret, evOp, vOp, hOpB, hOpU, hOp, hOpT, aAppendG_tab, aWanted, aYielded, opd, putT, closedV, aBin, intOp, sameK, mapO, joinR, hasAddr, boundOf, pushB, aAlloc, Value.cells, lookB, setB, Nat.beq_eq, tm_n_set, tm_get_set, tm_of_n, tm_of_get, tm_tr_set, tm_tr_of, cellV, putF, appR_eq, takeR_eq, dropR_eq, setR_eq, getR_eq, ↓C75, ↓C76, ↓C77, ↓C79, ↓C17, ↓C18, ↓C22, ↓C71, FA24_0, FA24_1, FA24_2, FA24_3, FA24_4, FA24_5, FA24_6, FA24_7, FA24_8, LD3, LD4, LD22, LD27, LDr, LD24, LEN22, IA22, tkc, cellAt, hl, hmk, t5, t6, t7, t9, t10, t11, hn, hL, ↓Cafter, ↓Cplace, cA, cP, a4, c, b4, b5, hw, tt4]
        apply fin <;> simp [tm_get_set, tm_n_set, hl, t5, t6, t7, t9]
theorem PV_plain {s : SV} (hs : s.Small) : PV s = s.plain := by
  obtain ⟨p0, p1, e0⟩ := plain_small hs
  obtain ⟨w1, w2⟩ := hs.w
  obtain ⟨d1, d2⟩ := hs.d
  have hn := hs.n
  have e := suitRows_sum s.g s.n 0 (s.w + s.d) (fun j _ hj => hs.g j (by omega)) (by omega) (by omega)
  have e' := suitRows_sum s.g s.n 0 0 (fun j _ hj => hs.g j (by omega)) (by omega) (by omega)
  have hp : s.plain = s.w + s.d + ((suitRows s.g s.n 0).map (fun p => (p.2 : Int))).sum := by
    unfold SV.plain
    rw [e0, e]
  unfold PV
  rw [e', wrapI_small (n := 0 + _ + s.w) (by omega) (by omega), wrapI_small (by omega) (by omega)]
  omega
theorem plain_pos {s : SV} (h : s.err = 0) : 1 ≤ s.plain := by
  obtain ⟨_, h⟩ := firstE_step (m := 11) (i := 0) h (by simp [ruleE])
  obtain ⟨_, h⟩ := firstE_step (m := 10) (i := 1) h (by simp [ruleE])
  obtain ⟨_, h⟩ := firstE_step (m := 9) (i := 2) h (by simp [ruleE])
  obtain ⟨_, h⟩ := firstE_step (m := 8) (i := 3) h (by simp [ruleE])
  obtain ⟨_, h⟩ := firstE_step (m := 7) (i := 4) h (by simp [ruleE])
  obtain ⟨_, h⟩ := firstE_step (m := 6) (i := 5) h (by simp [ruleE])
  obtain ⟨_, h⟩ := firstE_step (m := 5) (i := 6) h (by simp [ruleE])
  obtain ⟨_, h⟩ := firstE_step (m := 4) (i := 7) h (by simp [ruleE])
  obtain ⟨_, h⟩ := firstE_step (m := 3) (i := 8) h (by simp [ruleE])
  obtain ⟨c, _⟩ := firstE_step (m := 2) (i := 9) h (by simp [ruleE])
  simpa [ruleB] using c
set_option maxRecDepth 10000 in
set_option maxHeartbeats 8000000 in
theorem body_core {L : Nat} (call : Value → List Value → AH → Option (Value × AH)) (N0 N1 p M : Nat) (bs0 bs1 b1 : List (Nat × ABlk)) (u : Value) (kind : Int) (s : SV) (u1 u8 : Value)
    (hNS : call (.func (.func 22) #[] #[]) [u] ⟨N0, bs0⟩ = some (.pointer (some ⟨p, 0, none⟩), ⟨N1, bs1⟩))
    (hSO : call (.func (.func 21) #[] #[]) [.pointer (some ⟨p, 0, none⟩)] ⟨N1, bs1⟩ = some (.agg #[.int .i64 s.p, u1, .int .i64 s.w, .int .i64 s.d, .int .i64 s.f, .int .i64 s.c, .int .i64 s.m, .int .i64 s.de, u8], ⟨M, b1⟩))
    (hM : MI ⟨M, b1⟩) (f1 : FL N1 ⟨M, b1⟩ u1 s.n s.g) (f8 : FL N1 ⟨M, b1⟩ u8 s.k s.h) (he : s.err = 0)
    (hPl : ∀ (M : Nat) (b2 : List (Nat × ABlk)) (s : SV) (u1 u8 : Value), MI ⟨M, b2⟩ → Lst b2 u1 s.n s.g → s.n ≤ 200 → call (.func (.func 24) #[] #[]) [.agg #[.int .i64 s.p, u1, .int .i64 s.w, .int .i64 s.d, .int .i64 s.f, .int .i64 s.c, .int .i64 s.m, .int .i64 s.de, u8]] ⟨M, b2⟩ = some (.int .i64 (PV s), ⟨M + 1, b2⟩))
    (hInto : ∀ (x y : Int) (H : AH), ¬ y = 0 → call (.func (.func 23) #[] #[]) [.int .i64 x, .int .i64 y] H = some (.int .i64 (intoX x y), H))
    (hPlace : ∀ (M' : Nat) (j : Int), M + 1 ≤ M' → call (.func (.func 7) #[] #[]) [.agg #[.int .i64 s.p, u1, .int .i64 s.w, .int .i64 s.d, .int .i64 s.f, .int .i64 s.c, .int .i64 s.m, .int .i64 s.de, u8], .int .i64 j] ⟨M', (M, .cells false [.int .i64 s.p, u1, .int .i64 s.w, .int .i64 s.d, .int .i64 s.f, .int .i64 s.c, .int .i64 s.m, .int .i64 s.de, u8]) :: b1⟩ = some (placeT (s.find j), ⟨M', (M, .cells false [.int .i64 s.p, u1, .int .i64 s.w, .int .i64 s.d, .int .i64 s.f, .int .i64 s.c, .int .i64 s.m, .int .i64 s.de, u8]) :: b1⟩))
    (hAfter : ∀ (M' : Nat) (j : Int), M + 1 ≤ M' → call (.func (.func 18) #[] #[]) [.agg #[.int .i64 s.p, u1, .int .i64 s.w, .int .i64 s.d, .int .i64 s.f, .int .i64 s.c, .int .i64 s.m, .int .i64 s.de, u8], .int .i64 j] ⟨M', (M, .cells false [.int .i64 s.p, u1, .int .i64 s.w, .int .i64 s.d, .int .i64 s.f, .int .i64 s.c, .int .i64 s.m, .int .i64 s.de, u8]) :: b1⟩ = some (.int .i64 (s.aft j), ⟨M', (M, .cells false [.int .i64 s.p, u1, .int .i64 s.w, .int .i64 s.d, .int .i64 s.f, .int .i64 s.c, .int .i64 s.m, .int .i64 s.de, u8]) :: b1⟩))
    (hAw : ∀ H : AH, ∃ H', call (.func (.func 20) #[] #[]) [] H = some (.bool true, H')) :
    ∃ H', evFn (tabT Try.prog) call (L + 300) kpT 4 Try.f4 [u, .int .i64 kind] ⟨N0, bs0⟩ = some (.bool true, H') := by
  have kp := kgL
  have hs := small_of_err he
  have hpv := PV_plain hs
  have hpos := plain_pos he
  obtain ⟨p0, p1, _⟩ := plain_small hs
  have hff := hs.f
  have hn3 := hs.n
  have k0 := intoX_range kind (PV s + s.f) (by omega) (by omega)
  obtain ⟨su, r, q, hf⟩ := find_some he k0.1 (by omega)
  obtain ⟨_, r0, rq, _, hcase⟩ := find_spec hf
  obtain ⟨hq, _, _, _, _⟩ := find_many hf
  have v1 := f1.cv
  have v8 := f8.cv
  have wpf : wrapI .i64 (PV s + s.f) = PV s + s.f := wrapI_small (by omega) (by omega)
  have nz : ¬ PV s + s.f = 0 := by omega
  have hin := fun H => hInto kind (PV s + s.f) H nz
  have hM1 : MI ⟨M + 1, (M, .cells false [.int .i64 s.p, u1, .int .i64 s.w, .int .i64 s.d, .int .i64 s.f, .int .i64 s.c, .int .i64 s.m, .int .i64 s.de, u8]) :: b1⟩ := hM.push _
  have l1 : Lst b1 u1 s.n s.g := f1.lst
  have cp := hPl (M + 1) (roB ((M, .cells false [.int .i64 s.p, u1, .int .i64 s.w, .int .i64 s.d, .int .i64 s.f, .int .i64 s.c, .int .i64 s.m, .int .i64 s.de, u8]) :: b1)) s u1 u8 hM1.ro ((l1.push hM.2 _).ro hM1.1) (by omega)
  have nw := newOnes_ro b1 (M + 1) (fun q hq => Nat.lt_succ_of_lt (hM.2 q hq))
  have nw2 := newOnes_ro b1 (M + 2) (fun q hq => Nat.lt_succ_of_lt (Nat.lt_succ_of_lt (hM.2 q hq)))
  have nle1 : ¬ M + 1 ≤ M := by omega
  have nle2 : ¬ M + 2 ≤ M := by omega
  simp only [roB, roK] at cp
  have cP := hPlace (M + 2) (intoX kind (PV s + s.f)) (by omega)
  rw [hf] at cP
  simp only [placeT] at cP
  obtain ⟨Ha, ea⟩ := hAw ⟨M + 2, (M, .cells false [.int .i64 s.p, u1, .int .i64 s.w, .int .i64 s.d, .int .i64 s.f, .int .i64 s.c, .int .i64 s.m, .int .i64 s.de, u8]) :: b1⟩
  simp only [evFn, Try.f4]
  simp [ec_skip, ec_label, ek_reg, ek_draw, ek_seq, ec_cond, ek_block, ec_loop, ec_exit, ec_ret, ec_scope, ek_nil, ek_op, opK_some, regK_some, seqK_normal, seqK_exit, seqK_ret, blockK_normal, blockK_exit, blockK_ret, evOp, vOp, hOpB, hOpU, hOp, hOpT, aAppendG_tab, aWanted, aYielded, opd, putT, closedV, aBin, intOp, sameK, mapO, joinR, hasAddr, boundOf, pushB, aAlloc, Value.cells, lookB, setB, Nat.beq_eq, tm_n_set, tm_get_set, tm_of_n, tm_of_get, tm_tr_set, tm_tr_of, putF, appR_eq, takeR_eq, dropR_eq, setR_eq, getR_eq, ↓C75, ↓C76, ↓C77, ↓C79, ↓C17, ↓C18, ↓C22, ↓C71, FA24_0, FA24_1, FA24_2, FA24_3, FA24_4, FA24_5, FA24_6, FA24_7, FA24_8, LD3, LD4, LD22, LD27, LDr, LD24, LEN22, IA22, tkc, cellAt, ↓Cnews, hNS, ↓Csetof, hSO, ↓AL24, ST24, v1, v8, cvI]
  generalize hX : evDrawX _ _ _ _ _ = X
  obtain ⟨tm, rfl, hl, t4, t5, t6⟩ := draw_any (H' := ⟨M + 2, (M, .cells false [.int .i64 s.p, u1, .int .i64 s.w, .int .i64 s.d, .int .i64 s.f, .int .i64 s.c, .int .i64 s.m, .int .i64 s.de, u8]) :: b1⟩) (Pt := fun tm => tm.get 4 = .bool false ∧ tm.get 5 = .pointer (some ⟨M, 0, none⟩) ∧ tm.get 6 = .int .i64 (intoX kind (PV s + s.f))) hX (by kernel_rfl) hM1.1 (by
    clear hX
    generalize befs _ = MM
    simp [mapO, drRun, drOp, dr3, looks, guardT, tmpsOf, Op.operands, Call.operands, wantedR, gOf, finT, natMem, isNil, writesF, evOp, vOp, hOpB, hOpU, hOp, hOpT, aAppendG_tab, opd, closedV, aBin, intOp, sameK, opdO, boundOf, undef, lookB, Nat.beq_eq, tm_n_set, tm_get_set, tm_of_n, tm_of_get, tm_tr_set, tm_tr_of, b02, b12, b32, ↓G75, W75, ↓G76, W76, ↓G77, W77, ↓G79, W79, ↓G17, W17, ↓G18, W18, ↓G22, W22, ↓G71, W71, tv, all1, roB, roK, news, newOnes, decr, tkc, cellAt, LD3, LD4, LD22, LD27, LDr, LD24, LEN22, IA22, FA24_0, FA24_1, FA24_2, FA24_3, FA24_4, FA24_5, FA24_6, FA24_7, FA24_8, hasR, hasR_ro, ↓Gpl, Wpl, ↓Ginto, Winto, cp, hin, wpf, nw, nw2, nle1, nle2, wheap, Nat.ble_eq, Nat.blt_eq]
    refine ⟨_, _, ⟨rfl, rfl⟩, ?_, ?_, ?_⟩
    · simp [dynOK, b02, b12, b32, b03, b13, b23, Nat.blt_eq, Nat.beq_eq, tm_n_set, tm_of_n]
    · simp [wheap, news, b02, b12, b32, Nat.beq_eq, all1]
    · simp [finT, tm_get_set, tm_n_set, tm_of_n, tm_of_get])
  clear hX
  simp [tm_n_set, tm_of_n] at hl
  have RL : ∀ (A : AF) (r' : Option (AX × AF × AH)), evLoop (runC (tabT Try.prog) call (L + 300) 4 none lcode) (L + 300) A ⟨M + 2, (M, .cells false [.int .i64 s.p, u1, .int .i64 s.w, .int .i64 s.d, .int .i64 s.f, .int .i64 s.c, .int .i64 s.m, .int .i64 s.de, u8]) :: b1⟩ = r' → TG M (intoX kind (PV s + s.f)) su q A → A.tm.get 10 = .int .i64 (intoX kind (PV s + s.f)) → A.tm.get 11 = .int .i64 1 → ∃ y A' H', r' = some (y, A', H') ∧ QG M (intoX kind (PV s + s.f)) su q ⟨M + 2, (M, .cells false [.int .i64 s.p, u1, .int .i64 s.w, .int .i64 s.d, .int .i64 s.f, .int .i64 s.c, .int .i64 s.m, .int .i64 s.de, u8]) :: b1⟩ y A' H' := fun A r' h a b c => by
    rw [← h]
    exact round_loop call M (M + 2) _ s u1 u8 (by omega) (by simp [lookB]) hPlace hAfter hf A a b c
  simp only [lcode, Try.f4, Option.map_some, loops, List.nil_append, List.append_nil, List.cons_append, Option.getD_some, List.getD_cons_zero] at RL
  rcases hcase with (rfl | rfl | rfl) | ⟨i, hi, rfl, hqi⟩
  · obtain rfl : q = s.w := by rw [hq]; simp [SV.many]
    simp [ec_skip, ec_label, ek_reg, ek_draw, ek_seq, ec_cond, ek_block, ec_loop, ec_exit, ec_ret, ec_scope, ek_nil, ek_op, opK_some, regK_some, seqK_normal, seqK_exit, seqK_ret, blockK_normal, blockK_exit, blockK_ret, evOp, vOp, hOpB, hOpU, hOp, hOpT, aAppendG_tab, aWanted, aYielded, opd, putT, closedV, aBin, intOp, sameK, mapO, joinR, hasAddr, boundOf, pushB, aAlloc, Value.cells, lookB, setB, Nat.beq_eq, tm_n_set, tm_get_set, tm_of_n, tm_of_get, tm_tr_set, tm_tr_of, cellV, putF, appR_eq, takeR_eq, dropR_eq, setR_eq, getR_eq, ↓C75, ↓C76, ↓C77, ↓C79, ↓C17, ↓C18, ↓C22, ↓C71, FA24_0, FA24_1, FA24_2, FA24_3, FA24_4, FA24_5, FA24_6, FA24_7, FA24_8, LD3, LD4, LD22, LD27, LDr, LD24, LEN22, IA22, tkc, cellAt, hl, t4, t5, t6, cP, ↓Cplace]
    generalize hr : evLoop _ _ _ _ = r'
    obtain ⟨y, A', H', rfl, rfl, ⟨hl2, hmk2, _, _, _, _⟩, rfl⟩ := RL _ _ hr ⟨by simp [tm_n_set, hl], rfl, by simp [tm_get_set, tm_n_set, hl, t5], by simp [tm_get_set, tm_n_set, hl, t6], by simp [tm_get_set, tm_n_set, hl], by simp [tm_get_set, tm_n_set, hl]⟩ (by simp [tm_get_set, tm_n_set, hl]) (by simp [tm_get_set, tm_n_set, hl])
    clear hr
    simp [ec_skip, ec_label, ek_reg, ek_draw, ek_seq, ec_cond, ek_block, ec_loop, ec_exit, ec_ret, ec_scope, ek_nil, ek_op, opK_some, regK_some, seqK_normal, seqK_exit, seqK_ret, blockK_normal, blockK_exit, blockK_ret, evOp, vOp, hOpB, hOpU, hOp, hOpT, aAppendG_tab, aWanted, aYielded, opd, putT, closedV, aBin, intOp, sameK, mapO, joinR, hasAddr, boundOf, pushB, aAlloc, Value.cells, lookB, setB, Nat.beq_eq, tm_n_set, tm_get_set, tm_of_n, tm_of_get, tm_tr_set, tm_tr_of, cellV, putF, appR_eq, takeR_eq, dropR_eq, setR_eq, getR_eq, ↓C75, ↓C76, ↓C77, ↓C79, ↓C17, ↓C18, ↓C22, ↓C71, FA24_0, FA24_1, FA24_2, FA24_3, FA24_4, FA24_5, FA24_6, FA24_7, FA24_8, LD3, LD4, LD22, LD27, LDr, LD24, LEN22, IA22, tkc, cellAt, hl2, hmk2, ↓Cawake, ea, finF, takeM, resV, cleanedG, kp, below]
  · obtain rfl : q = s.d := by rw [hq]; simp [SV.many]
    simp [ec_skip, ec_label, ek_reg, ek_draw, ek_seq, ec_cond, ek_block, ec_loop, ec_exit, ec_ret, ec_scope, ek_nil, ek_op, opK_some, regK_some, seqK_normal, seqK_exit, seqK_ret, blockK_normal, blockK_exit, blockK_ret, evOp, vOp, hOpB, hOpU, hOp, hOpT, aAppendG_tab, aWanted, aYielded, opd, putT, closedV, aBin, intOp, sameK, mapO, joinR, hasAddr, boundOf, pushB, aAlloc, Value.cells, lookB, setB, Nat.beq_eq, tm_n_set, tm_get_set, tm_of_n, tm_of_get, tm_tr_set, tm_tr_of, cellV, putF, appR_eq, takeR_eq, dropR_eq, setR_eq, getR_eq, ↓C75, ↓C76, ↓C77, ↓C79, ↓C17, ↓C18, ↓C22, ↓C71, FA24_0, FA24_1, FA24_2, FA24_3, FA24_4, FA24_5, FA24_6, FA24_7, FA24_8, LD3, LD4, LD22, LD27, LDr, LD24, LEN22, IA22, tkc, cellAt, hl, t4, t5, t6, cP, ↓Cplace]
    generalize hr : evLoop _ _ _ _ = r'
    obtain ⟨y, A', H', rfl, rfl, ⟨hl2, hmk2, _, _, _, _⟩, rfl⟩ := RL _ _ hr ⟨by simp [tm_n_set, hl], rfl, by simp [tm_get_set, tm_n_set, hl, t5], by simp [tm_get_set, tm_n_set, hl, t6], by simp [tm_get_set, tm_n_set, hl], by simp [tm_get_set, tm_n_set, hl]⟩ (by simp [tm_get_set, tm_n_set, hl]) (by simp [tm_get_set, tm_n_set, hl])
    clear hr
    simp [ec_skip, ec_label, ek_reg, ek_draw, ek_seq, ec_cond, ek_block, ec_loop, ec_exit, ec_ret, ec_scope, ek_nil, ek_op, opK_some, regK_some, seqK_normal, seqK_exit, seqK_ret, blockK_normal, blockK_exit, blockK_ret, evOp, vOp, hOpB, hOpU, hOp, hOpT, aAppendG_tab, aWanted, aYielded, opd, putT, closedV, aBin, intOp, sameK, mapO, joinR, hasAddr, boundOf, pushB, aAlloc, Value.cells, lookB, setB, Nat.beq_eq, tm_n_set, tm_get_set, tm_of_n, tm_of_get, tm_tr_set, tm_tr_of, cellV, putF, appR_eq, takeR_eq, dropR_eq, setR_eq, getR_eq, ↓C75, ↓C76, ↓C77, ↓C79, ↓C17, ↓C18, ↓C22, ↓C71, FA24_0, FA24_1, FA24_2, FA24_3, FA24_4, FA24_5, FA24_6, FA24_7, FA24_8, LD3, LD4, LD22, LD27, LDr, LD24, LEN22, IA22, tkc, cellAt, hl2, hmk2, ↓Cawake, ea, finF, takeM, resV, cleanedG, kp, below]
  · obtain rfl : q = s.f := by rw [hq]; simp [SV.many]
    simp [ec_skip, ec_label, ek_reg, ek_draw, ek_seq, ec_cond, ek_block, ec_loop, ec_exit, ec_ret, ec_scope, ek_nil, ek_op, opK_some, regK_some, seqK_normal, seqK_exit, seqK_ret, blockK_normal, blockK_exit, blockK_ret, evOp, vOp, hOpB, hOpU, hOp, hOpT, aAppendG_tab, aWanted, aYielded, opd, putT, closedV, aBin, intOp, sameK, mapO, joinR, hasAddr, boundOf, pushB, aAlloc, Value.cells, lookB, setB, Nat.beq_eq, tm_n_set, tm_get_set, tm_of_n, tm_of_get, tm_tr_set, tm_tr_of, cellV, putF, appR_eq, takeR_eq, dropR_eq, setR_eq, getR_eq, ↓C75, ↓C76, ↓C77, ↓C79, ↓C17, ↓C18, ↓C22, ↓C71, FA24_0, FA24_1, FA24_2, FA24_3, FA24_4, FA24_5, FA24_6, FA24_7, FA24_8, LD3, LD4, LD22, LD27, LDr, LD24, LEN22, IA22, tkc, cellAt, hl, t4, t5, t6, cP, ↓Cplace]
    generalize hr : evLoop _ _ _ _ = r'
    obtain ⟨y, A', H', rfl, rfl, ⟨hl2, hmk2, _, _, _, _⟩, rfl⟩ := RL _ _ hr ⟨by simp [tm_n_set, hl], rfl, by simp [tm_get_set, tm_n_set, hl, t5], by simp [tm_get_set, tm_n_set, hl, t6], by simp [tm_get_set, tm_n_set, hl], by simp [tm_get_set, tm_n_set, hl]⟩ (by simp [tm_get_set, tm_n_set, hl]) (by simp [tm_get_set, tm_n_set, hl])
    clear hr
    simp [ec_skip, ec_label, ek_reg, ek_draw, ek_seq, ec_cond, ek_block, ec_loop, ec_exit, ec_ret, ec_scope, ek_nil, ek_op, opK_some, regK_some, seqK_normal, seqK_exit, seqK_ret, blockK_normal, blockK_exit, blockK_ret, evOp, vOp, hOpB, hOpU, hOp, hOpT, aAppendG_tab, aWanted, aYielded, opd, putT, closedV, aBin, intOp, sameK, mapO, joinR, hasAddr, boundOf, pushB, aAlloc, Value.cells, lookB, setB, Nat.beq_eq, tm_n_set, tm_get_set, tm_of_n, tm_of_get, tm_tr_set, tm_tr_of, cellV, putF, appR_eq, takeR_eq, dropR_eq, setR_eq, getR_eq, ↓C75, ↓C76, ↓C77, ↓C79, ↓C17, ↓C18, ↓C22, ↓C71, FA24_0, FA24_1, FA24_2, FA24_3, FA24_4, FA24_5, FA24_6, FA24_7, FA24_8, LD3, LD4, LD22, LD27, LDr, LD24, LEN22, IA22, tkc, cellAt, hl2, hmk2, ↓Cawake, ea, finF, takeM, resV, cleanedG, kp, below]
  · obtain rfl : q = s.g i := hqi
    rcases f1 with ⟨_, h0⟩ | ⟨a, cs, rfl, g1, g2, g3, g4, g5, g6⟩
    · omega
    · have c1 : ¬ (i : Int) = -1 := by omega
      have c2 : ¬ (i : Int) = -2 := by omega
      have c3 : ¬ (i : Int) = -3 := by omega
      have b1p : ((i : Int) == -1) = false := beq_eq_false_iff_ne.2 c1
      have b2p : ((i : Int) == -2) = false := beq_eq_false_iff_ne.2 c2
      have b3p : ((i : Int) == -3) = false := beq_eq_false_iff_ne.2 c3
      have c4 : ¬ (i : Int) < 0 := by omega
      have c5 : ¬ (s.n : Int) ≤ (i : Int) := by omega
      have c6 : ¬ s.n ≤ i := by omega
      have ix := IX22 a s.n i hi
      have ga : ¬ a = M := by have : a < M := g2; omega
      have gc := okC_at g4 hi
      rw [← g5] at gc
      simp only at g3
      simp [ec_skip, ec_label, ek_reg, ek_draw, ek_seq, ec_cond, ek_block, ec_loop, ec_exit, ec_ret, ec_scope, ek_nil, ek_op, opK_some, regK_some, seqK_normal, seqK_exit, seqK_ret, blockK_normal, blockK_exit, blockK_ret, evOp, vOp, hOpB, hOpU, hOp, hOpT, aAppendG_tab, aWanted, aYielded, opd, putT, closedV, aBin, intOp, sameK, mapO, joinR, hasAddr, boundOf, pushB, aAlloc, Value.cells, lookB, setB, Nat.beq_eq, tm_n_set, tm_get_set, tm_of_n, tm_of_get, tm_tr_set, tm_tr_of, cellV, putF, appR_eq, takeR_eq, dropR_eq, setR_eq, getR_eq, ↓C75, ↓C76, ↓C77, ↓C79, ↓C17, ↓C18, ↓C22, ↓C71, FA24_0, FA24_1, FA24_2, FA24_3, FA24_4, FA24_5, FA24_6, FA24_7, FA24_8, LD3, LD4, LD22, LD27, LDr, LD24, LEN22, IA22, tkc, cellAt, hl, t4, t5, t6, cP, ↓Cplace, c1, c2, c3, b1p, b2p, b3p, c4, c5, c6, ix, ga, g3, gc]
      generalize hr : evLoop _ _ _ _ = r'
      obtain ⟨y, A', H', rfl, rfl, ⟨hl2, hmk2, _, _, _, _⟩, rfl⟩ := RL _ _ hr ⟨by simp [tm_n_set, hl], rfl, by simp [tm_get_set, tm_n_set, hl, t5], by simp [tm_get_set, tm_n_set, hl, t6], by simp [tm_get_set, tm_n_set, hl], by simp [tm_get_set, tm_n_set, hl]⟩ (by simp [tm_get_set, tm_n_set, hl]) (by simp [tm_get_set, tm_n_set, hl])
      clear hr
      simp [ec_skip, ec_label, ek_reg, ek_draw, ek_seq, ec_cond, ek_block, ec_loop, ec_exit, ec_ret, ec_scope, ek_nil, ek_op, opK_some, regK_some, seqK_normal, seqK_exit, seqK_ret, blockK_normal, blockK_exit, blockK_ret, evOp, vOp, hOpB, hOpU, hOp, hOpT, aAppendG_tab, aWanted, aYielded, opd, putT, closedV, aBin, intOp, sameK, mapO, joinR, hasAddr, boundOf, pushB, aAlloc, Value.cells, lookB, setB, Nat.beq_eq, tm_n_set, tm_get_set, tm_of_n, tm_of_get, tm_tr_set, tm_tr_of, cellV, putF, appR_eq, takeR_eq, dropR_eq, setR_eq, getR_eq, ↓C75, ↓C76, ↓C77, ↓C79, ↓C17, ↓C18, ↓C22, ↓C71, FA24_0, FA24_1, FA24_2, FA24_3, FA24_4, FA24_5, FA24_6, FA24_7, FA24_8, LD3, LD4, LD22, LD27, LDr, LD24, LEN22, IA22, tkc, cellAt, hl2, hmk2, ↓Cawake, ea, finF, takeM, resV, cleanedG, kp, below]

end Go.Proofs.Ytdbpemmhkfbegaa
