/-
  What is proved: how many plain kinds a set has whose lists lie in cells.
-/
import Derived.Test.YtdbpemmhkfbegaaXa
import Derived.Test.YtdbpemmhkfbegaaXt
namespace Go.Proofs.Ytdbpemmhkfbegaa
open Go.RowKit
set_option linter.unusedSimpArgs false
set_option linter.unusedVariables false

theorem Ntotal : ((tabT Try.prog) 22).map (fun z => (z.ex.nat 50, z.ex.mnz 50)) = some (none, none) := by kernel_rfl
theorem Ctotal (call : Value → List Value → AH → Option (Value × AH)) {tm : Tm} {i : Nat} {H : AH} {d : Option Tmp} {t : TypeId} {p : String} {a : Array Edge} {gd : Option (Nat × Bool)} : evOp (tabT Try.prog) call ⟨d, .call ⟨.value (.func 50), #[.tmp i], #[22]⟩, t, p, a, gd⟩ (opd tm) H = call (.func (.func 50) #[] #[]) [tm.get i] H :=
  evOp_evO.trans (eo_call1 rfl rfl Ntotal)
theorem kpt : kpT 50 = false := by kernel_rfl
theorem kpp : kpT 24 = false := by kernel_rfl
theorem Gtot (call : Value → List Value → AH → Option (Value × AH)) {tm : Tm} {rs : List DR} {ts : List Nat} {k : Nat} {H : AH} {d : Option Tmp} {t : TypeId} {p : String} {a : Array Edge} {gd : Option (Nat × Bool)} (h : natMem ts k = true) : evOp (tabT Try.prog) call ⟨d, .call ⟨.value (.func 50), #[.tmp k], #[22]⟩, t, p, a, gd⟩ (gOf tm rs ts) H = call (.func (.func 50) #[] #[]) [(finT tm rs).get k] H :=
  evOp_evO.trans (eo_call1 rfl (by simp only [gOf, h, if_true]) Ntotal)
theorem Wtot : wrT 50 = false := by kernel_rfl

/-- A list of integers in cells, or nil. -/
def Lst (bs : List (Nat × ABlk)) (u : Value) (n : Nat) (g : Nat → Int) : Prop := (u = .slice none 0 0 ∧ n = 0) ∨ ∃ a ro cs, u = .slice (some ⟨a, 0, none⟩) n 1 ∧ lookB bs a = some (.cells ro cs) ∧ okC cs n = true ∧ g = gi cs
theorem Lst.len {bs : List (Nat × ABlk)} {u : Value} {n : Nat} {g : Nat → Int} (h : Lst bs u n g) : ∃ a z, u = .slice a n z := by
  rcases h with ⟨rfl, rfl⟩ | ⟨a, _, _, rfl, _⟩
  · exact ⟨_, _, rfl⟩
  · exact ⟨_, _, rfl⟩
theorem Lst.ro {bs : List (Nat × ABlk)} {u : Value} {n : Nat} {g : Nat → Int} (h : Lst bs u n g) (hd : decrK bs = true) : Lst (roB bs) u n g := by
  rcases h with h | ⟨a, ro, cs, h1, h2, h3, h4⟩
  · exact .inl h
  · exact .inr ⟨a, true, cs, h1, lookB_roB_cells _ _ _ _ h2 hd, h3, h4⟩
theorem Lst.push {bs : List (Nat × ABlk)} {u : Value} {n : Nat} {g : Nat → Int} (h : Lst bs u n g) {N : Nat} (hb : ∀ p ∈ bs, p.1 < N) (k : ABlk) : Lst ((N, k) :: bs) u n g := by
  rcases h with h | ⟨a, ro, cs, h1, h2, h3, h4⟩
  · exact .inl h
  · have : a < N := hb _ (lookB_mem h2)
    exact .inr ⟨a, ro, cs, h1, by simp only [lookB, beq_ne (show ¬ a = N by omega), Bool.false_eq_true, if_false]; exact h2, h3, h4⟩
theorem roB_ids : ∀ bs : List (Nat × ABlk), ((roB bs).map (·.1)).Sublist (bs.map (·.1))
  | [] => List.Sublist.slnil
  | (i, k) :: r => by
    simp only [roB]
    split
    · exact (roB_ids r).cons_cons _
    · exact (roB_ids r).cons _
theorem decrK_pw2 : ∀ bs : List (Nat × ABlk), decrK bs = true ↔ List.Pairwise (fun a b : Nat => b < a) (bs.map (·.1))
  | [] => by simp [decrK]
  | [p] => by simp [decrK]
  | (i, k) :: (j, q) :: r => by
    have ih := decrK_pw2 ((j, q) :: r)
    simp only [decrK, Bool.and_eq_true]
    rw [ih]
    simp only [List.map_cons, List.pairwise_cons]
    constructor
    · rintro ⟨h1, h2, h3⟩
      have h1' : j < i := by simpa [Nat.blt_eq] using h1
      refine ⟨fun x hx => ?_, h2, h3⟩
      rcases List.mem_cons.1 hx with rfl | hx
      · exact h1'
      · exact Nat.lt_trans (h2 x hx) h1'
    · rintro ⟨h1, h2, h3⟩
      exact ⟨by simpa [Nat.blt_eq] using h1 j List.mem_cons_self, h2, h3⟩
theorem MI.ro {H : AH} (h : MI H) : MI ⟨H.next, roB H.bs⟩ := by
  refine ⟨(decrK_pw2 _).2 (((decrK_pw2 _).1 h.1).sublist (roB_ids H.bs)), fun p hp => ?_⟩
  have hm : p.1 ∈ H.bs.map (·.1) := (roB_ids H.bs).subset (List.mem_map.2 ⟨p, hp, rfl⟩)
  obtain ⟨q, hq, e⟩ := List.mem_map.1 hm
  rw [← e]
  exact h.2 q hq
theorem below_all (n : Nat) : ∀ bs : List (Nat × ABlk), (∀ p ∈ bs, p.1 < n) → below n bs = bs
  | [], _ => rfl
  | (i, k) :: r, h => by
    have hi : Nat.blt i n = true := by simpa [Nat.blt_eq] using h (i, k) List.mem_cons_self
    simp only [below, hi, if_true, below_all n r fun p hp => h p (List.mem_cons_of_mem _ hp)]

noncomputable def IT (u : Value) (g : Nat → Int) (n : Nat) (R : Int) (H0 : AH) (m : Nat) (A : AF) (H : AH) : Prop := ∃ (i : Nat) (acc : Int), i + m = n ∧ sumG g m i acc = R ∧ A.tm.n = 18 ∧ A.marks = [] ∧ A.tm.get 4 = .int .i64 (i : Int) ∧ A.tm.get 3 = .int .i64 acc ∧ A.tm.get 0 = u ∧ H = H0
noncomputable def QT (R : Int) (H0 : AH) (y : AX) (A : AF) (H : AH) : Prop := y = .exit 0 ∧ A.tm.n = 18 ∧ A.marks = [] ∧ A.tm.get 3 = .int .i64 R ∧ H = H0
set_option maxRecDepth 10000 in
set_option maxHeartbeats 8000000 in
theorem total_ev {L : Nat} (call : Value → List Value → AH → Option (Value × AH)) (N : Nat) (bs : List (Nat × ABlk)) {u : Value} {n : Nat} {g : Nat → Int} (hn : n ≤ 200) (hM : MI ⟨N, bs⟩) (hu : Lst bs u n g) :
    evFn (tabT Try.prog) call (L + 300) kpT 50 Try.f50 [u] ⟨N, bs⟩ = some (.int .i64 (sumG g n 0 0), ⟨N, bs⟩) := by
  have kp := kpt
  have hbl := below_all N bs hM.2
  simp only [evFn, Try.f50]
  simp [ec_skip, ec_label, ek_reg, ek_draw, ek_seq, ec_cond, ek_block, ec_loop, ec_exit, ec_ret, ec_scope, ek_nil, ek_op, opK_some, regK_some, seqK_normal, seqK_exit, seqK_ret, blockK_normal, blockK_exit, blockK_ret, evOp, vOp, hOpB, hOpU, hOp, hOpT, aAppendG_tab, aWanted, aYielded, opd, putT, closedV, aBin, intOp, sameK, mapO, joinR, hasAddr, boundOf, pushB, aAlloc, Value.cells, lookB, setB, Nat.beq_eq, tm_n_set, tm_get_set, tm_of_n, tm_of_get, tm_tr_set, tm_tr_of, cellV, putF, appR_eq, takeR_eq, dropR_eq, setR_eq, getR_eq, ↓C75, ↓C76, ↓C77, ↓C79, ↓C17, ↓C18, ↓C22, ↓C71, FA24_0, FA24_1, FA24_2, FA24_3, FA24_4, FA24_5, FA24_6, FA24_7, FA24_8, LD3, LD4, LD22, LD27, LDr, LD24, LEN22, IA22, tkc, cellAt]
  generalize hr : evLoop _ _ _ _ = r
  obtain ⟨y, A', H', rfl, rfl, hl, hmk, g3, rfl⟩ := loop_go (Q := QT (sumG g n 0 0) ⟨N, bs⟩) hr (IT u g n (sumG g n 0 0) ⟨N, bs⟩) n (by omega) ⟨0, 0, by omega, rfl, rfl, rfl, rfl, rfl, rfl, rfl⟩ (by
    clear hr
    rintro m A H' ⟨i, acc, him, hsum, hl, hmk, g4, g3, g0, rfl⟩
    obtain ⟨a0, z0, hv⟩ := hu.len
    simp only [runC]
    cases m with
    | zero =>
      have hi : ¬ i < n := by omega
      subst hv
      simp only [sumG] at hsum
      simp [ec_skip, ec_label, ek_reg, ek_draw, ek_seq, ec_cond, ek_block, ec_loop, ec_exit, ec_ret, ec_scope, ek_nil, ek_op, opK_some, regK_some, seqK_normal, seqK_exit, seqK_ret, blockK_normal, blockK_exit, blockK_ret, evOp, vOp, hOpB, hOpU, hOp, hOpT, aAppendG_tab, aWanted, aYielded, opd, putT, closedV, aBin, intOp, sameK, mapO, joinR, hasAddr, boundOf, pushB, aAlloc, Value.cells, lookB, setB, Nat.beq_eq, tm_n_set, tm_get_set, tm_of_n, tm_of_get, tm_tr_set, tm_tr_of, cellV, putF, appR_eq, takeR_eq, dropR_eq, setR_eq, getR_eq, ↓C75, ↓C76, ↓C77, ↓C79, ↓C17, ↓C18, ↓C22, ↓C71, FA24_0, FA24_1, FA24_2, FA24_3, FA24_4, FA24_5, FA24_6, FA24_7, FA24_8, LD3, LD4, LD22, LD27, LDr, LD24, LEN22, IA22, tkc, cellAt, hl, hmk, g4, g3, g0, hi]
      exact .inr ⟨by simp, rfl, by simp [tm_n_set, hl], rfl, by simp [tm_get_set, tm_n_set, hl, g3, hsum], rfl⟩
    | succ m =>
      have hi : i < n := by omega
      have hw : wrapI .i64 ((i : Int) + 1) = ((i + 1 : Nat) : Int) := by rw [wrapI_small (by omega) (by omega)]; rfl
      rcases hu with ⟨_, h0⟩ | ⟨a, ro, cs, h1, h2, h3, rfl⟩
      · omega
      · subst h1
        have ix : aIndexAddr (tabT Try.prog) 22 (.slice (some ⟨a, 0, none⟩) n 1) (.int .i64 (i : Int)) = some (.pointer (some ⟨a, i, none⟩)) := by
          rw [ixa (e := 3) (z := 1) (by kernel_rfl) (by kernel_rfl) a 0 n 1 i hi]; simp
        have hc := okC_at h3 hi
        rw [sumG] at hsum
        simp [ec_skip, ec_label, ek_reg, ek_draw, ek_seq, ec_cond, ek_block, ec_loop, ec_exit, ec_ret, ec_scope, ek_nil, ek_op, opK_some, regK_some, seqK_normal, seqK_exit, seqK_ret, blockK_normal, blockK_exit, blockK_ret, evOp, vOp, hOpB, hOpU, hOp, hOpT, aAppendG_tab, aWanted, aYielded, opd, putT, closedV, aBin, intOp, sameK, mapO, joinR, hasAddr, boundOf, pushB, aAlloc, Value.cells, lookB, setB, Nat.beq_eq, tm_n_set, tm_get_set, tm_of_n, tm_of_get, tm_tr_set, tm_tr_of, cellV, putF, appR_eq, takeR_eq, dropR_eq, setR_eq, getR_eq, ↓C75, ↓C76, ↓C77, ↓C79, ↓C17, ↓C18, ↓C22, ↓C71, FA24_0, FA24_1, FA24_2, FA24_3, FA24_4, FA24_5, FA24_6, FA24_7, FA24_8, LD3, LD4, LD22, LD27, LDr, LD24, LEN22, IA22, tkc, cellAt, hl, hmk, g4, g3, g0, hi, ix, h2, hc]
        refine .inl ⟨rfl, m, rfl, i + 1, wrapI .i64 (acc + gi cs i), by omega, hsum, ?_⟩
        simp [tm_get_set, tm_n_set, hl, hmk, g0, hw])
  simp [ec_skip, ec_label, ek_reg, ek_draw, ek_seq, ec_cond, ek_block, ec_loop, ec_exit, ec_ret, ec_scope, ek_nil, ek_op, opK_some, regK_some, seqK_normal, seqK_exit, seqK_ret, blockK_normal, blockK_exit, blockK_ret, evOp, vOp, hOpB, hOpU, hOp, hOpT, aAppendG_tab, aWanted, aYielded, opd, putT, closedV, aBin, intOp, sameK, mapO, joinR, hasAddr, boundOf, pushB, aAlloc, Value.cells, lookB, setB, Nat.beq_eq, tm_n_set, tm_get_set, tm_of_n, tm_of_get, tm_tr_set, tm_tr_of, cellV, putF, appR_eq, takeR_eq, dropR_eq, setR_eq, getR_eq, ↓C75, ↓C76, ↓C77, ↓C79, ↓C17, ↓C18, ↓C22, ↓C71, FA24_0, FA24_1, FA24_2, FA24_3, FA24_4, FA24_5, FA24_6, FA24_7, FA24_8, LD3, LD4, LD22, LD27, LDr, LD24, LEN22, IA22, tkc, cellAt, hl, hmk, g3, finF, takeM, resV, cleanedG, hasAddr, kp, hbl]

/-- A set as a value, its lists wherever they lie. -/
def setCV (p : Int) (u1 : Value) (w d f c m de : Int) (u8 : Value) : Value := .agg ⟨[.int .i64 p, u1, .int .i64 w, .int .i64 d, .int .i64 f, .int .i64 c, .int .i64 m, .int .i64 de, u8]⟩
set_option maxRecDepth 10000 in
set_option maxHeartbeats 8000000 in
theorem plainC_ev {L : Nat} (call : Value → List Value → AH → Option (Value × AH)) (N : Nat) (bs : List (Nat × ABlk)) {p w d f c m de : Int} {u1 u8 : Value} {n : Nat} {g : Nat → Int} (hM : MI ⟨N, bs⟩) (hu : Lst bs u1 n g)
    (htot : ∀ (N : Nat) (bs : List (Nat × ABlk)), MI ⟨N, bs⟩ → Lst bs u1 n g → call (.func (.func 50) #[] #[]) [u1] ⟨N, bs⟩ = some (.int .i64 (sumG g n 0 0), ⟨N, bs⟩)) :
    evFn (tabT Try.prog) call (L + 300) kpT 24 Try.f24 [setCV p u1 w d f c m de u8] ⟨N, bs⟩ = some (.int .i64 (wrapI .i64 (wrapI .i64 (sumG g n 0 0 + w) + d)), ⟨N + 1, bs⟩) := by
  have kp := kpp
  have hbl := below_all N bs hM.2
  have nn : ¬ N < N := Nat.lt_irrefl N
  have nle : ¬ N + 1 ≤ N := by omega
  have hM1 := hM.push (.cells false [.int .i64 p, u1, .int .i64 w, .int .i64 d, .int .i64 f, .int .i64 c, .int .i64 m, .int .i64 de, u8])
  have hr1 := hM1.ro
  have nw := newOnes_ro _ (N + 1) hM1.2
  have ht := htot (N + 1) (roB ((N, .cells false [.int .i64 p, u1, .int .i64 w, .int .i64 d, .int .i64 f, .int .i64 c, .int .i64 m, .int .i64 de, u8]) :: bs)) hr1 ((hu.push hM.2 _).ro hM1.1)
  simp only [roB, roK] at ht nw
  simp only [evFn, Try.f24, setCV]
  simp [ec_skip, ec_label, ek_reg, ek_draw, ek_seq, ec_cond, ek_block, ec_loop, ec_exit, ec_ret, ec_scope, ek_nil, ek_op, opK_some, regK_some, seqK_normal, seqK_exit, seqK_ret, blockK_normal, blockK_exit, blockK_ret, evOp, vOp, hOpB, hOpU, hOp, hOpT, aAppendG_tab, aWanted, aYielded, opd, putT, closedV, aBin, intOp, sameK, mapO, joinR, hasAddr, boundOf, pushB, aAlloc, Value.cells, lookB, setB, Nat.beq_eq, tm_n_set, tm_get_set, tm_of_n, tm_of_get, tm_tr_set, tm_tr_of, cellV, putF, appR_eq, takeR_eq, dropR_eq, setR_eq, getR_eq, ↓C75, ↓C76, ↓C77, ↓C79, ↓C17, ↓C18, ↓C22, ↓C71, FA24_0, FA24_1, FA24_2, FA24_3, FA24_4, FA24_5, FA24_6, FA24_7, FA24_8, LD3, LD4, LD22, LD27, LDr, LD24, LEN22, IA22, tkc, cellAt]
  generalize hX : evDrawX _ _ _ _ _ = X
  obtain ⟨tm, rfl, hn', t2⟩ := draw_ro (Pt := fun tm => tm.get 2 = .int .i64 (wrapI .i64 (wrapI .i64 (sumG g n 0 0 + w) + d))) hX (by kernel_rfl) hM1.1 (by
    clear hX
    generalize befs _ = M
    simp [mapO, drRun, drOp, dr3, looks, guardT, tmpsOf, Op.operands, Call.operands, wantedR, gOf, finT, natMem, isNil, writesF, evOp, vOp, hOpB, hOpU, hOp, hOpT, aAppendG_tab, opd, closedV, aBin, intOp, sameK, opdO, boundOf, undef, lookB, Nat.beq_eq, tm_n_set, tm_get_set, tm_of_n, tm_of_get, tm_tr_set, tm_tr_of, b02, b12, b32, ↓G75, W75, ↓G76, W76, ↓G77, W77, ↓G79, W79, ↓G17, W17, ↓G18, W18, ↓G22, W22, ↓G71, W71, tv, all1, roB, roK, news, newOnes, decr, tkc, cellAt, LD3, LD4, LD22, LD27, LDr, LD24, LEN22, IA22, FA24_0, FA24_1, FA24_2, FA24_3, FA24_4, FA24_5, FA24_6, FA24_7, FA24_8, hasR, hasR_ro, ↓Gtot, Wtot, ht, nle, Nat.ble_eq, tm_of_n, tm_of_get]
    refine ⟨by simp [dynOK, b02, b12, b32, Nat.blt_eq, tm_n_set, tm_of_n], by simp [wheap, news, b02, b12, b32]⟩)
  simp [tm_n_set] at hn'
  simp [ec_skip, ec_label, ek_reg, ek_draw, ek_seq, ec_cond, ek_block, ec_loop, ec_exit, ec_ret, ec_scope, ek_nil, ek_op, opK_some, regK_some, seqK_normal, seqK_exit, seqK_ret, blockK_normal, blockK_exit, blockK_ret, evOp, vOp, hOpB, hOpU, hOp, hOpT, aAppendG_tab, aWanted, aYielded, opd, putT, closedV, aBin, intOp, sameK, mapO, joinR, hasAddr, boundOf, pushB, aAlloc, Value.cells, lookB, setB, Nat.beq_eq, tm_n_set, tm_get_set, tm_of_n, tm_of_get, tm_tr_set, tm_tr_of, cellV, putF, appR_eq, takeR_eq, dropR_eq, setR_eq, getR_eq, ↓C75, ↓C76, ↓C77, ↓C79, ↓C17, ↓C18, ↓C22, ↓C71, FA24_0, FA24_1, FA24_2, FA24_3, FA24_4, FA24_5, FA24_6, FA24_7, FA24_8, LD3, LD4, LD22, LD27, LDr, LD24, LEN22, IA22, tkc, cellAt, hn', t2, finF, takeM, resV, cleanedG, hasAddr, kp, below, nn, hbl, Nat.blt_eq]

end Go.Proofs.Ytdbpemmhkfbegaa
