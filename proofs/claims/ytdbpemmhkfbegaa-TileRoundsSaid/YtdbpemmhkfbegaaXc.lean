/-
  What is proved: what the closure that yields all kinds of a set comes to, whatever the loop's body does with them.
-/
import Derived.Test.YtdbpemmhkfbegaaXb
namespace Go.Proofs.Ytdbpemmhkfbegaa
open Go.RowKit
set_option linter.unusedSimpArgs false
set_option linter.unusedVariables false


theorem AL3 {call : Value → List Value → AH → Option (Value × AH)} {g : Operand → Option Value} {H : AH} {d : Option Tmp} {t : TypeId} {p : String} {a : Array Edge} {gd : Option (Nat × Bool)} : evOp (tabT Try.prog) call ⟨d, .alloc 3, t, p, a, gd⟩ g H = some (.pointer (some ⟨H.next, 0, none⟩), ⟨H.next + 1, (H.next, .cells false [.int .i64 0]) :: H.bs⟩) :=
  evOp_evO.trans (eo_alloc (cs := [.int .i64 0]) (by kernel_rfl))
theorem kg57 : (kpT 57, gcT 57) = (true, false) := by kernel_rfl
theorem rowR_cases (Mr : Int → Nat → AH) (HD : Int → Int → Nat → AH) (hit : Int → Int → Bool) : ∀ (k : Nat) (i c : Int) (m : Nat), (∃ H, rowR Mr HD hit k i c m = (.bool false, H)) ∨ rowR Mr HD hit k i c m = (.bool true, Mr (c + k) (m + k))
  | 0, i, c, m => .inr (by simp [rowR])
  | k + 1, i, c, m => by
    simp only [rowR]
    split
    · exact .inl ⟨_, rfl⟩
    · rcases rowR_cases Mr HD hit k (i + 1) (c + 1) (m + 1) with h | h
      · exact .inl h
      · refine .inr ?_
        rw [h, show c + 1 + (k : Int) = c + ((k + 1 : Nat) : Int) by omega, show m + 1 + k = m + (k + 1) by omega]

noncomputable def rowsR (Mr : Int → Nat → AH) (HD : Int → Nat → Int → Int → Nat → AH) (hit : Int → Nat → Int → Int → Bool) : List (Int × Nat) → Int → Nat → AH
  | [], c, m => Mr c m
  | (su, q) :: r, c, m => match rowR Mr (HD su q) (hit su q) q 0 c m with
    | (.bool false, H) => H
    | _ => rowsR Mr HD hit r (c + q) (m + q)

noncomputable def suitRows (g : Nat → Int) : Nat → Nat → List (Int × Nat)
  | 0, _ => []
  | k + 1, i => ((i : Int), (g i).toNat) :: suitRows g k (i + 1)

noncomputable def SV.tail (s : SV) : List (Int × Nat) := [(-1, s.w.toNat), (-2, s.d.toNat), (-3, s.f.toNat)]
noncomputable def SV.rows (s : SV) : List (Int × Nat) := suitRows s.g s.n 0 ++ s.tail
noncomputable def SV.boxL (s : SV) : List Value := [.int .i64 s.p, .slice (some ⟨0, 0, some 1⟩) s.n 0, .int .i64 s.w, .int .i64 s.d, .int .i64 s.f, .int .i64 s.c, .int .i64 s.m, .int .i64 s.de, .slice (some ⟨1, 0, some 1⟩) s.k 0]

noncomputable def cl112 : Value := (.func (.func 58) #[] #[.pointer (some ⟨9, 0, none⟩), .pointer (some ⟨10, 0, none⟩)])

theorem ST3top (nx i : Nat) (a n : Int) (r : List (Nat × ABlk)) : aStore (tabT Try.prog) ⟨nx, (i, .cells false [.int .i64 a]) :: r⟩ 3 (.pointer (some ⟨i, 0, none⟩)) (.int .i64 n) = some ⟨nx, (i, .cells false [.int .i64 n]) :: r⟩ := by
  rw [ST3 _ i 0 n [.int .i64 a] (by simp [lookB]) (by simp)]
  simp [setB]


noncomputable def I111 (s : SV) (Mr : Int → Nat → AH) (HD : Int → Nat → Int → Int → Nat → AH) (hit : Int → Nat → Int → Int → Bool) (R : AH) (k : Nat) (A : AF) (H : AH) : Prop :=
  ∃ (i : Nat) (c : Int) (m : Nat), i + k = s.n ∧ 0 ≤ c ∧ c ≤ 9 * i ∧ rowsR Mr HD hit (suitRows s.g k i ++ s.tail) c m = R ∧ H = Mr c m ∧ A.tm.n = 38 ∧ A.marks = [] ∧ A.tm.get 1 = .pointer (some ⟨6, 0, none⟩) ∧ A.tm.get 4 = cl112 ∧ A.tm.get 9 = .slice (some ⟨0, 0, some 1⟩) s.n 0 ∧ A.tm.get 10 = .int .i64 s.n ∧ A.tm.get 11 = .int .i64 (i : Int)
noncomputable def Q111 (s : SV) (Mr : Int → Nat → AH) (HD : Int → Nat → Int → Int → Nat → AH) (hit : Int → Nat → Int → Int → Bool) (R : AH) (z : AX) (A' : AF) (H : AH) : Prop :=
  A'.tm.n = 38 ∧ A'.marks = [] ∧ ((z = .exit 0 ∧ A'.tm.get 1 = .pointer (some ⟨6, 0, none⟩) ∧ A'.tm.get 4 = cl112 ∧ ∃ (c : Int) (m : Nat), 0 ≤ c ∧ c ≤ 27 ∧ H = Mr c m ∧ rowsR Mr HD hit s.tail c m = R) ∨ (z = .ret ∧ H = R))

set_option maxRecDepth 10000 in
set_option maxHeartbeats 8000000 in
theorem kinds_ev (call : Value → List Value → AH → Option (Value × AH)) (s : SV) (hs : s.Small) (H0 : AH) (Mr : Int → Nat → AH) (HD : Int → Nat → Int → Int → Nat → AH) (hit : Int → Nat → Int → Int → Bool)
    (h6 : ∀ c m, lookB (Mr c m).bs 6 = some (.cells false s.boxL)) (h0 : ∀ c m, lookB (Mr c m).bs 0 = some (.ints s.g))
    (hn : H0.next = 9) (hM : Mr 0 0 = ⟨11, (10, .cells false [.int .i64 0]) :: (9, .cells false [.func (.yield 8) #[] #[]]) :: H0.bs⟩)
    (hrow : ∀ (su : Int) (q : Nat) (c : Int) (m : Nat), q ≤ 200 → 0 ≤ c → c + q ≤ 100000 → call cl112 [.int .i64 su, .int .i64 q] (Mr c m) = some (rowR Mr (HD su q) (hit su q) q 0 c m)) :
    evFn (tabT Try.prog) call 300 kpT 57 Try.f57 [.func (.yield 8) #[] #[], .pointer (some ⟨6, 0, none⟩)] H0 = some (.tuple #[], rowsR Mr HD hit s.rows 0 0) := by
  obtain ⟨nx, bs⟩ := H0
  simp only at hn hM
  subst hn
  have hM0 : lookB bs 6 = some (.cells false s.boxL) := by
    have := h6 0 0
    rw [hM] at this
    simpa [lookB, Nat.beq_eq] using this
  have hst0 : aStore (tabT Try.prog) (Mr 0 0) 3 (.pointer (some ⟨10, 0, none⟩)) (.int .i64 0) = some (Mr 0 0) := by rw [hM]; exact ST3top _ _ _ _ _
  simp only [cl112] at hrow
  simp only [SV.boxL] at h6 hM0
  have kp := kg57
  simp only [Prod.mk.injEq] at kp
  obtain ⟨kp1, kp2⟩ := kp
  simp only [evFn, Try.f57]
  simp [ec_skip, ec_label, ek_reg, ek_draw, ek_seq, ec_cond, ek_block, ec_loop, ec_exit, ec_ret, ec_scope, ek_nil, ek_op, opK_some, regK_some, seqK_normal, seqK_exit, seqK_ret, blockK_normal, blockK_exit, blockK_ret, evOp, vOp, hOpB, hOpU, hOp, hOpT, aAppendG_tab, aWanted, aYielded, opd, putT, closedV, aBin, intOp, sameK, mapO, joinR, hasAddr, boundOf, pushB, aAlloc, Value.cells, lookB, setB, Nat.beq_eq, tm_n_set, tm_get_set, tm_of_n, tm_of_get, tm_tr_set, tm_tr_of, cellV, putF, appR_eq, takeR_eq, dropR_eq, setR_eq, getR_eq, ↓C75, ↓C76, ↓C77, ↓C79, ↓C17, ↓C18, ↓C22, ↓C71, FA24_0, FA24_1, FA24_2, FA24_3, FA24_4, FA24_5, FA24_6, FA24_7, FA24_8, LD3, LD4, LD22, LD27, LDr, LD24, LEN22, IA22, tkc, cellAt, ↓AL3, hst0, h6, ← hM]
  generalize hr : evLoop _ _ _ _ = r
  obtain ⟨z, A', H', rfl, hl, hmk, hz⟩ := loop_go (Q := Q111 s Mr HD hit (rowsR Mr HD hit s.rows 0 0)) hr (I111 s Mr HD hit (rowsR Mr HD hit s.rows 0 0)) s.n (by have := hs.n; omega) ⟨0, 0, 0, by omega, by omega, by omega, rfl, rfl, rfl, rfl, rfl, rfl, rfl, rfl, rfl⟩ (by
      clear hr
      rintro k A H ⟨i, c, m, him, hc0, hc9, hres, rfl, hl, hmk, g1, g4, g9, g10, g11⟩
      simp only [runC]
      cases k with
      | zero =>
        have hi : ¬ i < s.n := by omega
        simp only [suitRows, List.nil_append] at hres
        simp [ec_skip, ec_label, ek_reg, ek_draw, ek_seq, ec_cond, ek_block, ec_loop, ec_exit, ec_ret, ec_scope, ek_nil, ek_op, opK_some, regK_some, seqK_normal, seqK_exit, seqK_ret, blockK_normal, blockK_exit, blockK_ret, evOp, vOp, hOpB, hOpU, hOp, hOpT, aAppendG_tab, aWanted, aYielded, opd, putT, closedV, aBin, intOp, sameK, mapO, joinR, hasAddr, boundOf, pushB, aAlloc, Value.cells, lookB, setB, Nat.beq_eq, tm_n_set, tm_get_set, tm_of_n, tm_of_get, tm_tr_set, tm_tr_of, cellV, putF, appR_eq, takeR_eq, dropR_eq, setR_eq, getR_eq, ↓C75, ↓C76, ↓C77, ↓C79, ↓C17, ↓C18, ↓C22, ↓C71, FA24_0, FA24_1, FA24_2, FA24_3, FA24_4, FA24_5, FA24_6, FA24_7, FA24_8, LD3, LD4, LD22, LD27, LDr, LD24, LEN22, IA22, tkc, cellAt, hl, hmk, g1, g4, g9, g10, g11, hi]
        exact .inr ⟨by simp, by simp [tm_n_set, hl], rfl, .inl ⟨rfl, by simp [tm_get_set, tm_n_set, hl, g1], by simp [tm_get_set, tm_n_set, hl, g4], c, m, hc0, by have := hs.n; omega, rfl, hres⟩⟩
      | succ k =>
        have hi : i < s.n := by omega
        have hw : wrapI .i64 ((i : Int) + 1) = ((i + 1 : Nat) : Int) := by rw [wrapI_small (by have := hs.n; omega) (by have := hs.n; omega)]; rfl
        obtain ⟨b1, b2⟩ := hs.g i hi
        have hq : ((s.g i).toNat : Int) = s.g i := by omega
        have hn3 := hs.n
        simp only [cl112] at g4
        have hr' := hrow (i : Int) (s.g i).toNat c m (by omega) hc0 (by omega)
        rw [hq] at hr'
        simp only [suitRows, List.cons_append, rowsR] at hres
        rcases rowR_cases Mr (HD (i : Int) (s.g i).toNat) (hit (i : Int) (s.g i).toNat) (s.g i).toNat 0 c m with ⟨Hx, hx⟩ | hx
        · rw [hx] at hr' hres
          simp only at hres
          simp [ec_skip, ec_label, ek_reg, ek_draw, ek_seq, ec_cond, ek_block, ec_loop, ec_exit, ec_ret, ec_scope, ek_nil, ek_op, opK_some, regK_some, seqK_normal, seqK_exit, seqK_ret, blockK_normal, blockK_exit, blockK_ret, evOp, vOp, hOpB, hOpU, hOp, hOpT, aAppendG_tab, aWanted, aYielded, opd, putT, closedV, aBin, intOp, sameK, mapO, joinR, hasAddr, boundOf, pushB, aAlloc, Value.cells, lookB, setB, Nat.beq_eq, tm_n_set, tm_get_set, tm_of_n, tm_of_get, tm_tr_set, tm_tr_of, cellV, putF, appR_eq, takeR_eq, dropR_eq, setR_eq, getR_eq, ↓C75, ↓C76, ↓C77, ↓C79, ↓C17, ↓C18, ↓C22, ↓C71, FA24_0, FA24_1, FA24_2, FA24_3, FA24_4, FA24_5, FA24_6, FA24_7, FA24_8, LD3, LD4, LD22, LD27, LDr, LD24, LEN22, IA22, tkc, cellAt, hl, hmk, g1, g4, g9, g10, g11, hi, h0, hr']
          exact .inr ⟨by simp, by simp [tm_n_set, hl], rfl, .inr ⟨rfl, hres⟩⟩
        · rw [hx] at hr' hres
          simp only at hres
          have hmax : max (s.g i) 0 = s.g i := by omega
          simp [ec_skip, ec_label, ek_reg, ek_draw, ek_seq, ec_cond, ek_block, ec_loop, ec_exit, ec_ret, ec_scope, ek_nil, ek_op, opK_some, regK_some, seqK_normal, seqK_exit, seqK_ret, blockK_normal, blockK_exit, blockK_ret, evOp, vOp, hOpB, hOpU, hOp, hOpT, aAppendG_tab, aWanted, aYielded, opd, putT, closedV, aBin, intOp, sameK, mapO, joinR, hasAddr, boundOf, pushB, aAlloc, Value.cells, lookB, setB, Nat.beq_eq, tm_n_set, tm_get_set, tm_of_n, tm_of_get, tm_tr_set, tm_tr_of, cellV, putF, appR_eq, takeR_eq, dropR_eq, setR_eq, getR_eq, ↓C75, ↓C76, ↓C77, ↓C79, ↓C17, ↓C18, ↓C22, ↓C71, FA24_0, FA24_1, FA24_2, FA24_3, FA24_4, FA24_5, FA24_6, FA24_7, FA24_8, LD3, LD4, LD22, LD27, LDr, LD24, LEN22, IA22, tkc, cellAt, hl, hmk, g1, g4, g9, g10, g11, hi, h0, hr', hmax]
          refine .inl ⟨rfl, k, rfl, i + 1, c + (s.g i).toNat, m + (s.g i).toNat, by omega, by omega, by omega, hres, by rw [hq], ?_⟩
          simp [tm_get_set, tm_n_set, hl, g1, g4, g9, g10, g11, hw, cl112])
  rcases hz with ⟨rfl, g1, g4, c, m, hc0, hc9, rfl, hz⟩ | ⟨rfl, hz⟩
  · obtain ⟨w1, w2⟩ := hs.w
    obtain ⟨d1, d2⟩ := hs.d
    obtain ⟨f1, f2⟩ := hs.f
    have qw : ((s.w).toNat : Int) = s.w := by omega
    have qd : ((s.d).toNat : Int) = s.d := by omega
    have qf : ((s.f).toNat : Int) = s.f := by omega
    simp only [cl112] at g4
    have rw_ := hrow (-1) s.w.toNat c m (by omega) hc0 (by omega)
    rw [qw] at rw_
    simp only [SV.tail, rowsR] at hz
    rcases rowR_cases Mr (HD (-1) s.w.toNat) (hit (-1) s.w.toNat) s.w.toNat 0 c m with ⟨Hx, hx⟩ | hx
    · rw [hx] at rw_ hz
      simp only at hz
      simp [ec_skip, ec_label, ek_reg, ek_draw, ek_seq, ec_cond, ek_block, ec_loop, ec_exit, ec_ret, ec_scope, ek_nil, ek_op, opK_some, regK_some, seqK_normal, seqK_exit, seqK_ret, blockK_normal, blockK_exit, blockK_ret, evOp, vOp, hOpB, hOpU, hOp, hOpT, aAppendG_tab, aWanted, aYielded, opd, putT, closedV, aBin, intOp, sameK, mapO, joinR, hasAddr, boundOf, pushB, aAlloc, Value.cells, lookB, setB, Nat.beq_eq, tm_n_set, tm_get_set, tm_of_n, tm_of_get, tm_tr_set, tm_tr_of, cellV, putF, appR_eq, takeR_eq, dropR_eq, setR_eq, getR_eq, ↓C75, ↓C76, ↓C77, ↓C79, ↓C17, ↓C18, ↓C22, ↓C71, FA24_0, FA24_1, FA24_2, FA24_3, FA24_4, FA24_5, FA24_6, FA24_7, FA24_8, LD3, LD4, LD22, LD27, LDr, LD24, LEN22, IA22, tkc, cellAt, finF, takeM, resV, hl, hmk, g1, g4, h6, rw_, cleanedG, kp1, kp2, hz]
    · rw [hx] at rw_ hz
      simp only at hz
      have rd := hrow (-2) s.d.toNat (c + s.w.toNat) (m + s.w.toNat) (by omega) (by omega) (by omega)
      rw [qd] at rd
      rcases rowR_cases Mr (HD (-2) s.d.toNat) (hit (-2) s.d.toNat) s.d.toNat 0 (c + s.w.toNat) (m + s.w.toNat) with ⟨Hx, hx⟩ | hx
      · rw [hx] at rd hz
        simp only at hz
        rw [qw] at rd rw_
        simp [ec_skip, ec_label, ek_reg, ek_draw, ek_seq, ec_cond, ek_block, ec_loop, ec_exit, ec_ret, ec_scope, ek_nil, ek_op, opK_some, regK_some, seqK_normal, seqK_exit, seqK_ret, blockK_normal, blockK_exit, blockK_ret, evOp, vOp, hOpB, hOpU, hOp, hOpT, aAppendG_tab, aWanted, aYielded, opd, putT, closedV, aBin, intOp, sameK, mapO, joinR, hasAddr, boundOf, pushB, aAlloc, Value.cells, lookB, setB, Nat.beq_eq, tm_n_set, tm_get_set, tm_of_n, tm_of_get, tm_tr_set, tm_tr_of, cellV, putF, appR_eq, takeR_eq, dropR_eq, setR_eq, getR_eq, ↓C75, ↓C76, ↓C77, ↓C79, ↓C17, ↓C18, ↓C22, ↓C71, FA24_0, FA24_1, FA24_2, FA24_3, FA24_4, FA24_5, FA24_6, FA24_7, FA24_8, LD3, LD4, LD22, LD27, LDr, LD24, LEN22, IA22, tkc, cellAt, finF, takeM, resV, hl, hmk, g1, g4, h6, rw_, rd, cleanedG, kp1, kp2, hz]
      · rw [hx] at rd hz
        simp only at hz
        have rf := hrow (-3) s.f.toNat (c + s.w.toNat + s.d.toNat) (m + s.w.toNat + s.d.toNat) (by omega) (by omega) (by omega)
        rw [qf] at rf
        rcases rowR_cases Mr (HD (-3) s.f.toNat) (hit (-3) s.f.toNat) s.f.toNat 0 (c + s.w.toNat + s.d.toNat) (m + s.w.toNat + s.d.toNat) with ⟨Hx, hx⟩ | hx
        · rw [hx] at rf hz
          simp only at hz
          rw [qw] at rd rw_ rf
          rw [qd] at rd rf
          simp [ec_skip, ec_label, ek_reg, ek_draw, ek_seq, ec_cond, ek_block, ec_loop, ec_exit, ec_ret, ec_scope, ek_nil, ek_op, opK_some, regK_some, seqK_normal, seqK_exit, seqK_ret, blockK_normal, blockK_exit, blockK_ret, evOp, vOp, hOpB, hOpU, hOp, hOpT, aAppendG_tab, aWanted, aYielded, opd, putT, closedV, aBin, intOp, sameK, mapO, joinR, hasAddr, boundOf, pushB, aAlloc, Value.cells, lookB, setB, Nat.beq_eq, tm_n_set, tm_get_set, tm_of_n, tm_of_get, tm_tr_set, tm_tr_of, cellV, putF, appR_eq, takeR_eq, dropR_eq, setR_eq, getR_eq, ↓C75, ↓C76, ↓C77, ↓C79, ↓C17, ↓C18, ↓C22, ↓C71, FA24_0, FA24_1, FA24_2, FA24_3, FA24_4, FA24_5, FA24_6, FA24_7, FA24_8, LD3, LD4, LD22, LD27, LDr, LD24, LEN22, IA22, tkc, cellAt, finF, takeM, resV, hl, hmk, g1, g4, h6, rw_, rd, rf, cleanedG, kp1, kp2, hz]
        · rw [hx] at rf hz
          simp only at hz
          rw [qw] at rd rw_ rf
          rw [qd] at rd rf
          simp [ec_skip, ec_label, ek_reg, ek_draw, ek_seq, ec_cond, ek_block, ec_loop, ec_exit, ec_ret, ec_scope, ek_nil, ek_op, opK_some, regK_some, seqK_normal, seqK_exit, seqK_ret, blockK_normal, blockK_exit, blockK_ret, evOp, vOp, hOpB, hOpU, hOp, hOpT, aAppendG_tab, aWanted, aYielded, opd, putT, closedV, aBin, intOp, sameK, mapO, joinR, hasAddr, boundOf, pushB, aAlloc, Value.cells, lookB, setB, Nat.beq_eq, tm_n_set, tm_get_set, tm_of_n, tm_of_get, tm_tr_set, tm_tr_of, cellV, putF, appR_eq, takeR_eq, dropR_eq, setR_eq, getR_eq, ↓C75, ↓C76, ↓C77, ↓C79, ↓C17, ↓C18, ↓C22, ↓C71, FA24_0, FA24_1, FA24_2, FA24_3, FA24_4, FA24_5, FA24_6, FA24_7, FA24_8, LD3, LD4, LD22, LD27, LDr, LD24, LEN22, IA22, tkc, cellAt, finF, takeM, resV, hl, hmk, g1, g4, h6, rw_, rd, rf, cleanedG, kp1, kp2, ← hz, qw, qd, qf]
  · subst hz
    simp [ec_skip, ec_label, ek_reg, ek_draw, ek_seq, ec_cond, ek_block, ec_loop, ec_exit, ec_ret, ec_scope, ek_nil, ek_op, opK_some, regK_some, seqK_normal, seqK_exit, seqK_ret, blockK_normal, blockK_exit, blockK_ret, evOp, vOp, hOpB, hOpU, hOp, hOpT, aAppendG_tab, aWanted, aYielded, opd, putT, closedV, aBin, intOp, sameK, mapO, joinR, hasAddr, boundOf, pushB, aAlloc, Value.cells, lookB, setB, Nat.beq_eq, tm_n_set, tm_get_set, tm_of_n, tm_of_get, tm_tr_set, tm_tr_of, cellV, putF, appR_eq, takeR_eq, dropR_eq, setR_eq, getR_eq, ↓C75, ↓C76, ↓C77, ↓C79, ↓C17, ↓C18, ↓C22, ↓C71, FA24_0, FA24_1, FA24_2, FA24_3, FA24_4, FA24_5, FA24_6, FA24_7, FA24_8, LD3, LD4, LD22, LD27, LDr, LD24, LEN22, IA22, tkc, cellAt, finF, takeM, resV, hl, hmk, cleanedG, kp1, kp2]


end Go.Proofs.Ytdbpemmhkfbegaa
