/-
  What is proved: the program's shuffle of an array of 144 integers.
-/
import Derived.Test.YtbgknpcbldnabaaWc
namespace Go.Proofs.Ytbgknpcbldnabaa
open Go.RowKit
set_option linter.unusedSimpArgs false
set_option linter.unusedVariables false


theorem ixr {T : TypeId → Option TI} {t e : TypeId} {len : Nat} (h1 : (T t).map (·.desc) = some (.array len e)) (h2 : (T e).map (·.size) = some 1) (i k : Nat) (h : k < len) : aIndexAddr T t (.pointer (some ⟨i, 0, none⟩)) (.int .i64 (k : Int)) = some (.pointer (some ⟨i, k, none⟩)) := by
  obtain ⟨_, _, _, _, ht⟩ := tdesc h1
  cases he : T e with
  | none => rw [he] at h2; cases h2
  | some q =>
    rw [he] at h2
    simp only [Option.map_some, Option.some.injEq] at h2
    have hb : Nat.blt k len = true := by simpa [Nat.blt_eq] using h
    simp [aIndexAddr, natV, ht, he, h2, hb]
theorem IX38 (i k : Nat) (h : k < 144) : aIndexAddr (tabT Try.prog) 38 (.pointer (some ⟨i, 0, none⟩)) (.int .i64 (k : Int)) = some (.pointer (some ⟨i, k, none⟩)) := ixr (e := 3) (by kernel_rfl) (by kernel_rfl) i k h
theorem LD38 (H : AH) (i off : Nat) : aLoad (tabT Try.prog) H 38 (.pointer (some ⟨i, off, none⟩)) = match lookB H.bs i with | some (.cells _ cs) => (takeCells cs off 144).map (fun l => .agg l.toArray) | _ => none := lda (by kernel_rfl) H i off
theorem AL38 {call : Value → List Value → AH → Option (Value × AH)} {g : Operand → Option Value} {H : AH} {d : Option Tmp} {t : TypeId} {p : String} {a : Array Edge} {gd : Option (Nat × Bool)} : evOp (tabT Try.prog) call ⟨d, .alloc 38, t, p, a, gd⟩ g H = some (.pointer (some ⟨H.next, 0, none⟩), ⟨H.next + 1, (H.next, .cells false (intsL (fun _ => 0) 144)) :: H.bs⟩) :=
  evOp_evO.trans (eo_alloc (cs := intsL (fun _ => 0) 144) (by kernel_rfl))
theorem intsL_all (f : Nat → Int) (n : Nat) : (intsL f n).all cellV = true := by
  simp [intsL, cellV]
theorem putF_all {cs l : List Value} (h : l.length = cs.length) : putF cs 0 l = l := by
  rw [putF_eq (by omega)]
  apply List.ext_getElem?
  intro k
  rw [putCells_get _ _ _ _ (by omega)]
  by_cases hk : k < l.length
  · rw [if_pos (by omega), Nat.sub_zero]
  · rw [if_neg (by omega), List.getElem?_eq_none (by omega), List.getElem?_eq_none (by omega)]
theorem ST38 {H : AH} {i : Nat} {f0 : Nat → Int} (h : lookB H.bs i = some (.cells false (intsL f0 144))) (f : Nat → Int) : aStore (tabT Try.prog) H 38 (.pointer (some ⟨i, 0, none⟩)) (.agg ⟨intsL f 144⟩) = some { H with bs := setB H.bs i (.cells false (intsL f 144)) } := by
  rw [sti (z := 144) (by kernel_rfl)]
  simp only [h, Value.cells]
  have hl := intsL_len f 144
  have h0 := intsL_len f0 144
  have ha := intsL_all f 144
  generalize intsL f 144 = L at *
  generalize intsL f0 144 = L0 at *
  rw [putF_all (by omega)]
  simp [hl, h0, ha]
theorem tk144 (f : Nat → Int) : takeCells (intsL f 144) 0 144 = some (intsL f 144) := by
  rw [tkc]
  have hl := intsL_len f 144
  generalize intsL f 144 = L at *
  simp [hl, List.take_of_length_le]

theorem below_all (n : Nat) : ∀ bs : List (Nat × ABlk), (∀ p ∈ bs, p.1 < n) → below n bs = bs
  | [], _ => rfl
  | (i, k) :: r, h => by
    have hi : Nat.blt i n = true := by simpa [Nat.blt_eq] using h (i, k) List.mem_cons_self
    simp only [below, hi, if_true, below_all n r fun p hp => h p (List.mem_cons_of_mem _ hp)]
theorem hasAddr_ints (f : Nat → Int) (n d : Nat) : hasAddr (d + 2) (.agg ⟨intsL f n⟩) = false := by
  simp [hasAddr, intsL]

/-- The memory in a shuffle. -/
noncomputable def memS (N : Nat) (bs : List (Nat × ABlk)) (f : Nat → Int) (x : Int) : AH := ⟨N + 3, (N + 2, .cells false (intsL (fun _ => 0) 144)) :: (N + 1, .cells false [.int .u64 x]) :: (N, .cells false (intsL f 144)) :: bs⟩
noncomputable def IS (N : Nat) (bs : List (Nat × ABlk)) (r : (Nat → Int) × Int) (m : Nat) (A : AF) (H : AH) : Prop := ∃ (j : Int) (f : Nat → Int) (x : Int), shF m f x = r ∧ m ≤ 143 ∧ (m = 0 → j ≤ 0) ∧ (0 < m → j = (m : Int)) ∧ A.tm.n = 29 ∧ A.marks = [] ∧ A.tm.get 7 = .int .i64 j ∧ A.tm.get 3 = .pointer (some ⟨N, 0, none⟩) ∧ A.tm.get 5 = .pointer (some ⟨N + 1, 0, none⟩) ∧ A.tm.get 6 = .pointer (some ⟨N + 2, 0, none⟩) ∧ H = memS N bs f x
noncomputable def QS (N : Nat) (bs : List (Nat × ABlk)) (r : (Nat → Int) × Int) (y : AX) (A : AF) (H : AH) : Prop := y = .exit 0 ∧ A.tm.n = 29 ∧ A.marks = [] ∧ A.tm.get 3 = .pointer (some ⟨N, 0, none⟩) ∧ A.tm.get 6 = .pointer (some ⟨N + 2, 0, none⟩) ∧ H = memS N bs r.1 r.2
theorem swap_list (f : Nat → Int) (i j : Nat) : ((intsL f 144).set i (.int .i64 (f j))).set j (.int .i64 (f i)) = intsL (swp f i j) 144 := by
  rw [intsL_set, intsL_set]; rfl
theorem b23 : Nat.beq 2 3 = false := rfl
theorem b03 : Nat.beq 0 3 = false := rfl
theorem b13 : Nat.beq 1 3 = false := rfl
set_option maxRecDepth 10000 in
set_option maxHeartbeats 8000000 in
theorem shuffled_ev (call : Value → List Value → AH → Option (Value × AH)) (N : Nat) (bs : List (Nat × ABlk)) (f : Nat → Int) (n : Nat) (x : Int) (hn : n ≤ 144) (hd : decrK bs = true) (hb : ∀ p ∈ bs, p.1 < N)
    (hdraw : ∀ (f : Nat → Int) (n : Nat) (y : Int), 1 ≤ n → n ≤ 144 → call (.func (.func 31) #[] #[]) [.pointer (some ⟨N + 1, 0, none⟩), .int .i64 (n : Int)] (memS N bs f y) = some (.int .i64 (drw n y : Int), memS N bs f (nxs n y))) :
    evFn (tabT Try.prog) call 300 kpT 14 Try.f14 [.agg ⟨intsL f 144⟩, .int .i64 (n : Int), .int .u64 x] ⟨N, bs⟩ = some (.agg ⟨intsL (shF (n - 1) f x).1 144⟩, ⟨N + 3, bs⟩) := by
  have kp := kp14
  simp only [Prod.mk.injEq] at kp
  obtain ⟨kp1, kp2⟩ := kp
  have w1 : wrapI .i64 ((n : Int) - 1) = (n : Int) - 1 := wrapI_small (by omega) (by omega)
  simp only [evFn, Try.f14]
  simp [ec_skip, ec_label, ek_reg, ek_draw, ek_seq, ec_cond, ek_block, ec_loop, ec_exit, ec_ret, ec_scope, ek_nil, ek_op, opK_some, regK_some, seqK_normal, seqK_exit, seqK_ret, blockK_normal, blockK_exit, blockK_ret, evOp, vOp, hOpB, hOpU, hOp, hOpT, aAppendG_tab, aWanted, aYielded, opd, putT, closedV, aBin, intOp, sameK, mapO, joinR, hasAddr, boundOf, pushB, aAlloc, Value.cells, lookB, setB, Nat.beq_eq, tm_n_set, tm_get_set, tm_of_n, tm_of_get, tm_tr_set, tm_tr_of, cellV, putF, appR_eq, takeR_eq, dropR_eq, setR_eq, getR_eq, ↓C75, ↓C76, ↓C77, ↓C79, ↓C17, ↓C18, ↓C22, ↓C71, FA24_0, FA24_1, FA24_2, FA24_3, FA24_4, FA24_5, FA24_6, FA24_7, FA24_8, LD3, LD4, LD22, LD27, LDr, LD24, LEN22, IA22, tkc, cellAt, ↓AL38, w1]
  generalize hr : evLoop _ _ _ _ = r
  obtain ⟨y, A', H', rfl, rfl, hl, hmk, g3, g6, rfl⟩ := loop_go (Q := QS N bs (shF (n - 1) f x)) hr (IS N bs (shF (n - 1) f x)) (n - 1) (by omega) ⟨(n : Int) - 1, f, x, rfl, by omega, fun h => by omega, fun h => by omega, rfl, rfl, rfl, rfl, rfl, rfl, rfl⟩ (by
    clear hr
    rintro m A H' ⟨j, f, x, hs, hm, hj0, hj1, hl, hmk, g7, g3, g5, g6, rfl⟩
    simp only [runC]
    cases m with
    | zero =>
      have hj : ¬ 0 < j := by have := hj0 rfl; omega
      simp [ec_skip, ec_label, ek_reg, ek_draw, ek_seq, ec_cond, ek_block, ec_loop, ec_exit, ec_ret, ec_scope, ek_nil, ek_op, opK_some, regK_some, seqK_normal, seqK_exit, seqK_ret, blockK_normal, blockK_exit, blockK_ret, evOp, vOp, hOpB, hOpU, hOp, hOpT, aAppendG_tab, aWanted, aYielded, opd, putT, closedV, aBin, intOp, sameK, mapO, joinR, hasAddr, boundOf, pushB, aAlloc, Value.cells, lookB, setB, Nat.beq_eq, tm_n_set, tm_get_set, tm_of_n, tm_of_get, tm_tr_set, tm_tr_of, cellV, putF, appR_eq, takeR_eq, dropR_eq, setR_eq, getR_eq, ↓C75, ↓C76, ↓C77, ↓C79, ↓C17, ↓C18, ↓C22, ↓C71, FA24_0, FA24_1, FA24_2, FA24_3, FA24_4, FA24_5, FA24_6, FA24_7, FA24_8, LD3, LD4, LD22, LD27, LDr, LD24, LEN22, IA22, tkc, cellAt, hl, hmk, g7, g3, g5, g6, hj]
      refine .inr ⟨by simp, rfl, by simp [tm_n_set, hl], rfl, by simp [tm_get_set, tm_n_set, hl, g3], by simp [tm_get_set, tm_n_set, hl, g6], ?_⟩
      rw [← hs]; rfl
    | succ m =>
      obtain ⟨i, hi⟩ : ∃ i, i = m + 1 := ⟨_, rfl⟩
      obtain rfl : j = (i : Int) := by have := hj1 (by omega); omega
      have hj : 0 < (i : Int) := by omega
      have hjn : 0 < i := by omega
      have w2 : wrapI .i64 ((i : Int) + 1) = (i : Int) + 1 := wrapI_small (by omega) (by omega)
      have w3 : wrapI .i64 ((i : Int) - 1) = ((m : Nat) : Int) := by rw [wrapI_small (by omega) (by omega)]; omega
      have hdr := hdraw f (i + 1) x (by omega) (by omega)
      have dl := drw_lt (n := i + 1) (by omega) x
      obtain ⟨q, hq⟩ : ∃ q, q = drw (i + 1) x := ⟨_, rfl⟩
      rw [← hq, show ((i + 1 : Nat) : Int) = (i : Int) + 1 by omega] at hdr
      rw [← hq] at dl
      clear hj0 hj1
      have ixi := IX38 N i (by omega)
      have ixq := IX38 N q (by omega)
      simp only [memS] at hdr
      simp [ec_skip, ec_label, ek_reg, ek_draw, ek_seq, ec_cond, ek_block, ec_loop, ec_exit, ec_ret, ec_scope, ek_nil, ek_op, opK_some, regK_some, seqK_normal, seqK_exit, seqK_ret, blockK_normal, blockK_exit, blockK_ret, evOp, vOp, hOpB, hOpU, hOp, hOpT, aAppendG_tab, aWanted, aYielded, opd, putT, closedV, aBin, intOp, sameK, mapO, joinR, hasAddr, boundOf, pushB, aAlloc, Value.cells, lookB, setB, Nat.beq_eq, tm_n_set, tm_get_set, tm_of_n, tm_of_get, tm_tr_set, tm_tr_of, cellV, putF, appR_eq, takeR_eq, dropR_eq, setR_eq, getR_eq, ↓C75, ↓C76, ↓C77, ↓C79, ↓C17, ↓C18, ↓C22, ↓C71, FA24_0, FA24_1, FA24_2, FA24_3, FA24_4, FA24_5, FA24_6, FA24_7, FA24_8, LD3, LD4, LD22, LD27, LDr, LD24, LEN22, IA22, tkc, cellAt, ↓Cdraw, hl, hmk, g7, g3, g5, g6, hj, hjn, w2, hdr, memS]
      generalize hX : evDrawX _ _ _ _ _ = X
      have hM : decrK ((N + 2, ABlk.cells false (intsL (fun _ => 0) 144)) :: (N + 1, ABlk.cells false [Value.int .u64 (nxs (i + 1) x)]) :: (N, ABlk.cells false (intsL f 144)) :: bs) = true := (((MI.push (H := ⟨N, bs⟩) ⟨hd, hb⟩ _).push _).push _).1
      obtain ⟨tm, rfl, hn', u7, u3, u5, u6⟩ := draw_any (H' := memS N bs (swp f i q) (nxs (i + 1) x)) (Pt := fun tm => tm.get 7 = .int .i64 (i : Int) ∧ tm.get 3 = .pointer (some ⟨N, 0, none⟩) ∧ tm.get 5 = .pointer (some ⟨N + 1, 0, none⟩) ∧ tm.get 6 = .pointer (some ⟨N + 2, 0, none⟩)) hX (by kernel_rfl) hM (by
        clear hX
        generalize hMM : befs _ = M
        have o1 : ordB M 9 4 = true := by rw [← hMM]; kernel_rfl
        have o2 : ordB M 9 7 = true := by rw [← hMM]; kernel_rfl
        have o3 : ordB M 11 4 = true := by rw [← hMM]; kernel_rfl
        have o4 : ordB M 11 7 = true := by rw [← hMM]; kernel_rfl
        have o5 : ordB M 9 11 = true := by rw [← hMM]; kernel_rfl
        have o6 : ordB M 11 9 = true := by rw [← hMM]; kernel_rfl
        clear hMM
        have c1 := intsL_at f 144 i (by omega)
        have c2 := intsL_at f 144 q (by omega)
        have cl := intsL_len f 144
        have sw := swap_list f i q
        simp only [memS]
        rw [← sw]
        generalize intsL f 144 = L at c1 c2 cl ⊢
        generalize intsL (fun _ => 0) 144 = Z at ⊢
        clear sw
        have st1 : aStore (tabT Try.prog) ⟨N + 3, (N + 2, ABlk.cells false Z) :: (N + 1, ABlk.cells false [Value.int .u64 (nxs (i + 1) x)]) :: (N, ABlk.cells false L) :: bs⟩ 3 (.pointer (some ⟨N, i, none⟩)) (.int .i64 (f q)) = some ⟨N + 3, (N + 2, ABlk.cells false Z) :: (N + 1, ABlk.cells false [Value.int .u64 (nxs (i + 1) x)]) :: (N, ABlk.cells false (L.set i (.int .i64 (f q)))) :: bs⟩ := by
          have h : i < 144 := by omega
          rw [ST3]; simp [lookB, setB, putF, Value.cells, cl, cellV, setR_eq, Nat.beq_eq, Nat.ble_eq, h]; omega
        have st2 : aStore (tabT Try.prog) ⟨N + 3, (N + 2, ABlk.cells false Z) :: (N + 1, ABlk.cells false [Value.int .u64 (nxs (i + 1) x)]) :: (N, ABlk.cells false (L.set i (.int .i64 (f q)))) :: bs⟩ 3 (.pointer (some ⟨N, q, none⟩)) (.int .i64 (f i)) = some ⟨N + 3, (N + 2, ABlk.cells false Z) :: (N + 1, ABlk.cells false [Value.int .u64 (nxs (i + 1) x)]) :: (N, ABlk.cells false ((L.set i (.int .i64 (f q))).set q (.int .i64 (f i)))) :: bs⟩ := by
          have h : q < 144 := by omega
          rw [ST3]; simp [lookB, setB, putF, Value.cells, cl, cellV, setR_eq, Nat.beq_eq, Nat.ble_eq, h]; omega
        simp [mapO, drRun, drOp, dr3, looks, guardT, tmpsOf, Op.operands, Call.operands, wantedR, gOf, finT, natMem, isNil, writesF, evOp, vOp, hOpB, hOpU, hOp, hOpT, aAppendG_tab, opd, closedV, aBin, intOp, sameK, opdO, boundOf, undef, lookB, Nat.beq_eq, tm_n_set, tm_get_set, tm_of_n, tm_of_get, tm_tr_set, tm_tr_of, b02, b12, b32, ↓G75, W75, ↓G76, W76, ↓G77, W77, ↓G79, W79, ↓G17, W17, ↓G18, W18, ↓G22, W22, ↓G71, W71, tv, all1, roB, roK, news, newOnes, decr, tkc, cellAt, LD3, LD4, LD22, LD27, LDr, LD24, LEN22, IA22, hl, g7, g3, g5, g6, ixi, ixq, c1, c2, st1, st2, Nat.ble_eq, Nat.blt_eq, wheap, all1, tv]
        refine ⟨_, _, ⟨rfl, rfl⟩, by simp [dynOK, b02, b12, b32, b03, b13, b23, o1, o2, o3, o4, o5, o6, hl, Nat.blt_eq, Nat.beq_eq], by simp [wheap, news, b02, b12, b32, Nat.beq_eq, all1], by simp [finT, tm_get_set, tm_n_set, hl, g7, g3, g5, g6]⟩)
      clear hX
      simp [tm_n_set, hl] at hn'
      simp [ec_skip, ec_label, ek_reg, ek_draw, ek_seq, ec_cond, ek_block, ec_loop, ec_exit, ec_ret, ec_scope, ek_nil, ek_op, opK_some, regK_some, seqK_normal, seqK_exit, seqK_ret, blockK_normal, blockK_exit, blockK_ret, evOp, vOp, hOpB, hOpU, hOp, hOpT, aAppendG_tab, aWanted, aYielded, opd, putT, closedV, aBin, intOp, sameK, mapO, joinR, hasAddr, boundOf, pushB, aAlloc, Value.cells, lookB, setB, Nat.beq_eq, tm_n_set, tm_get_set, tm_of_n, tm_of_get, tm_tr_set, tm_tr_of, cellV, putF, appR_eq, takeR_eq, dropR_eq, setR_eq, getR_eq, ↓C75, ↓C76, ↓C77, ↓C79, ↓C17, ↓C18, ↓C22, ↓C71, FA24_0, FA24_1, FA24_2, FA24_3, FA24_4, FA24_5, FA24_6, FA24_7, FA24_8, LD3, LD4, LD22, LD27, LDr, LD24, LEN22, IA22, tkc, cellAt, hl, hmk, hn', u7, u3, u5, u6]
      refine ⟨_, _, _, ⟨rfl, rfl, rfl⟩, .inl ⟨rfl, m, rfl, (m : Int), swp f i q, nxs (i + 1) x, ?_, by omega, fun h => by omega, fun h => rfl, ?_, ?_, ?_, ?_, ?_, ?_, ?_⟩⟩
      · rw [← hs, hi, hq, hi]; rfl
      all_goals simp [tm_get_set, tm_n_set, hn', u7, u3, u5, u6, w3, memS, hmk])
  have t1 := intsL_len (shF (n - 1) f x).1 144
  have t2 : List.take 144 (intsL (shF (n - 1) f x).1 144) = intsL (shF (n - 1) f x).1 144 := List.take_of_length_le (by rw [t1]; omega)
  have st := ST38 (H := memS N bs (shF (n - 1) f x).1 (shF (n - 1) f x).2) (i := N + 2) (f0 := fun _ => 0) (by simp [memS, lookB]) (shF (n - 1) f x).1
  simp only [memS] at st
  have ha := hasAddr_ints (shF (n - 1) f x).1 144 2
  have hbl := below_all N bs hb
  have n1 : ¬ N + 1 < N := by omega
  have n2 : ¬ N + 2 < N := by omega
  simp [ec_skip, ec_label, ek_reg, ek_draw, ek_seq, ec_cond, ek_block, ec_loop, ec_exit, ec_ret, ec_scope, ek_nil, ek_op, opK_some, regK_some, seqK_normal, seqK_exit, seqK_ret, blockK_normal, blockK_exit, blockK_ret, evOp, vOp, hOpB, hOpU, hOp, hOpT, aAppendG_tab, aWanted, aYielded, opd, putT, closedV, aBin, intOp, sameK, mapO, joinR, hasAddr, boundOf, pushB, aAlloc, Value.cells, lookB, setB, Nat.beq_eq, tm_n_set, tm_get_set, tm_of_n, tm_of_get, tm_tr_set, tm_tr_of, cellV, putF, appR_eq, takeR_eq, dropR_eq, setR_eq, getR_eq, ↓C75, ↓C76, ↓C77, ↓C79, ↓C17, ↓C18, ↓C22, ↓C71, FA24_0, FA24_1, FA24_2, FA24_3, FA24_4, FA24_5, FA24_6, FA24_7, FA24_8, LD3, LD4, LD22, LD27, LDr, LD24, LEN22, IA22, tkc, cellAt, hl, hmk, g3, g6, memS, LD38, t1, t2, st, finF, takeM, resV, cleanedG, ha, below, hbl, n1, n2, Nat.blt_eq, kp1, kp2]

end Go.Proofs.Ytbgknpcbldnabaa
