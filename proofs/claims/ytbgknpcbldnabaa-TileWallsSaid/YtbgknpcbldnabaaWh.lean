/-
  What is proved: the wall that the document's own answer makes.
-/
import Derived.Test.YtbgknpcbldnabaaWg
namespace Go.Proofs.Ytbgknpcbldnabaa
open Go.RowKit
set_option linter.unusedSimpArgs false
set_option linter.unusedVariables false

theorem decrK_pw : ∀ bs : List (Nat × ABlk), decrK bs = true ↔ List.Pairwise (fun p q => q.1 < p.1) bs
  | [] => by simp [decrK]
  | [p] => by simp [decrK]
  | (i, k) :: (j, q) :: r => by
    have ih := decrK_pw ((j, q) :: r)
    simp only [decrK, Bool.and_eq_true]
    rw [ih, List.pairwise_cons (a := (i, k))]
    constructor
    · rintro ⟨h1, h2⟩
      have h1' : j < i := by simpa [Nat.blt_eq] using h1
      refine ⟨fun x hx => ?_, h2⟩
      rcases List.mem_cons.1 hx with rfl | hx
      · exact h1'
      · exact Nat.lt_trans ((List.pairwise_cons.1 h2).1 x hx) h1'
    · rintro ⟨h1, h2⟩
      exact ⟨by simpa [Nat.blt_eq] using h1 (j, q) List.mem_cons_self, h2⟩
theorem MI.sub {H : AH} (h : MI H) {bs : List (Nat × ABlk)} {nx : Nat} (hs : bs.Sublist H.bs) (hn : H.next ≤ nx) : MI ⟨nx, bs⟩ :=
  ⟨(decrK_pw _).2 (((decrK_pw _).1 h.1).sublist hs), fun p hp => Nat.lt_of_lt_of_le (h.2 p (hs.subset hp)) hn⟩
theorem dropB_sub : ∀ (bs : List (Nat × ABlk)) (i : Nat), (dropB bs i).Sublist bs
  | [], _ => List.Sublist.slnil
  | (j, k) :: r, i => by
    simp only [dropB]
    split
    · exact (dropB_sub r i).cons _
    · exact (dropB_sub r i).cons_cons _
theorem look_none : ∀ (bs : List (Nat × ABlk)) (i : Nat), (∀ p ∈ bs, p.1 < i) → lookB (roB bs) i = none
  | [], _, _ => rfl
  | (j, k) :: r, i, h => by
    have ih := look_none r i fun p hp => h p (List.mem_cons_of_mem _ hp)
    have hj : ¬ i = j := by have := h (j, k) List.mem_cons_self; simp only at this; omega
    simp only [roB]
    split
    · simp only [lookB, Nat.beq_eq, hj, if_false, ih]
    · exact ih
theorem newOnes_ro : ∀ (bs : List (Nat × ABlk)) (i : Nat), (∀ p ∈ bs, p.1 < i) → newOnes i (roB bs) = []
  | [], _, _ => rfl
  | (j, k) :: r, i, h => by
    have ih := newOnes_ro r i fun p hp => h p (List.mem_cons_of_mem _ hp)
    have hj : ¬ i ≤ j := by have := h (j, k) List.mem_cons_self; simp only at this; omega
    simp only [roB]
    split
    · simp [newOnes, Nat.ble_eq, hj]
    · exact ih
theorem hasR_ro : ∀ bs : List (Nat × ABlk), hasR (roB bs) = false
  | [] => rfl
  | (j, k) :: r => by
    have ih := hasR_ro r
    cases k <;> simp [roB, roK, hasR, ih]

theorem BS22 (H : AH) (a : Int) : aBuildSlice (tabT Try.prog) H 22 1 [(0, .int .i64 a)] = some (.slice (some ⟨H.next, 0, none⟩) 1 1, pushB H (.cells false [.int .i64 a])) := by kernel_rfl
theorem IX22 (i n k : Nat) (h : k < n) : aIndexAddr (tabT Try.prog) 22 (.slice (some ⟨i, 0, none⟩) n 1) (.int .i64 (k : Int)) = some (.pointer (some ⟨i, k, none⟩)) := by
  rw [ixa (e := 3) (z := 1) (by kernel_rfl) (by kernel_rfl) i 0 n 1 k h]
  simp
theorem intsL_succ (f : Nat → Int) (n : Nat) : intsL f (n + 1) = intsL f n ++ [.int .i64 (f n)] := by
  simp [intsL, List.range_succ]
theorem intsL_congr {f g : Nat → Int} {n : Nat} (h : ∀ k, k < n → f k = g k) : intsL f n = intsL g n := by
  unfold intsL
  apply List.map_congr_left
  intro k hk
  rw [h k (List.mem_range.1 hk)]
theorem intsL_set2 (f : Nat → Int) (n i j : Nat) : ((intsL f n).set i (.int .i64 (f j))).set j (.int .i64 (f i)) = intsL (swp f i j) n := by
  rw [intsL_set, intsL_set]; rfl
def idn (k : Nat) : Int := (k : Int)
/-- A list of the first numbers. -/
def FN1 (bs : List (Nat × ABlk)) (nx : Nat) (v : Value) (f : Nat → Int) (i : Nat) : Prop := (i = 0 ∧ v = .slice none 0 0) ∨ (0 < i ∧ ∃ b, v = .slice (some ⟨b, 0, none⟩) i 1 ∧ 2 < b ∧ b < nx ∧ lookB bs b = some (.cells false (intsL f i)))
theorem app_int {bs : List (Nat × ABlk)} {nx i : Nat} {v : Value} (hM : MI ⟨nx, bs⟩) (h : FN1 bs nx v idn i) (hi : i ≤ 200) : ∃ bs2, bs2.Sublist bs ∧ (∀ j, j ≤ 2 → lookB bs2 j = lookB bs j) ∧
    aAppend (tabT Try.prog) ⟨nx + 1, (nx, .cells false [.int .i64 (i : Int)]) :: bs⟩ 22 v (.slice (some ⟨nx, 0, none⟩) 1 1) = some (.slice (some ⟨nx + 1, 0, none⟩) (i + 1) 1, ⟨nx + 2, (nx + 1, .cells false (intsL idn (i + 1))) :: (nx, .cells false [.int .i64 (i : Int)]) :: bs2⟩) := by
  have tn : takeCells [Value.int .i64 (i : Int)] 0 1 = some [.int .i64 (i : Int)] := rfl
  rcases h with ⟨rfl, rfl⟩ | ⟨h0, b, rfl, hNb, hb, hl⟩
  · refine ⟨bs, List.Sublist.refl _, fun _ _ => rfl, ?_⟩
    rw [AP22, intsL_succ]
    simp [sliceLen, srcCells, dstCells, lookB, tkc, cellV, intsL, idn]
  · refine ⟨dropB bs b, dropB_sub _ _, fun j hj => ?_, ?_⟩
    · rw [lookB_dropB, if_neg (by omega)]
    · have hne : ¬ b = nx := by omega
      have hne' : ¬ nx = b := by omega
      have hlen := intsL_len idn i
      have ht : takeCells (intsL idn i) 0 i = some (intsL idn i) := by
        rw [tkc]
        simp [hlen]
        rw [List.take_of_length_le (by omega)]
      have c1 : (i + 1) * 8 ≤ 1000000000000 := by omega
      have c2 : i ≤ 999999999999 := by omega
      rw [AP22, intsL_succ]
      generalize intsL idn i = L at *
      simp [sliceLen, srcCells, dstCells, lookB, cellV, hne, hne', hl, ht, tn, c1, c2, dropB, Nat.beq_eq, idn]

/-- What stays in the memory. -/
def KW (s : SV) (H : AH) : Prop := MI H ∧ 2 < H.next ∧ lookB H.bs 0 = some (.ints s.g) ∧ lookB H.bs 1 = some (.ints s.h) ∧ lookB H.bs 2 = some (.cells false s.cs)
noncomputable def IA (s : SV) (n : Nat) (x : Int) (m : Nat) (A : AF) (H : AH) : Prop := ∃ (i : Nat) (v : Value), i + m = n ∧ A.tm.n = 52 ∧ A.marks = [] ∧ A.tm.get 6 = .int .i64 (i : Int) ∧ A.tm.get 5 = v ∧ A.tm.get 2 = .pointer (some ⟨2, 0, none⟩) ∧ A.tm.get 1 = .int .u64 x ∧ FN1 H.bs H.next v idn i ∧ KW s H
noncomputable def QA (s : SV) (n : Nat) (x : Int) (y : AX) (A : AF) (H : AH) : Prop := y = .exit 0 ∧ A.tm.n = 52 ∧ A.marks = [] ∧ ∃ v, A.tm.get 5 = v ∧ A.tm.get 1 = .int .u64 x ∧ FN1 H.bs H.next v idn n ∧ KW s H
noncomputable def IB (s : SV) (n : Nat) (v : Value) (r : (Nat → Int) × Int) (m : Nat) (A : AF) (H : AH) : Prop := ∃ (j : Int) (f : Nat → Int) (x : Int), shF m f x = r ∧ m + 1 ≤ n + 1 ∧ (0 < m → m < n) ∧ (m = 0 → j ≤ 0) ∧ (0 < m → j = (m : Int)) ∧ A.tm.n = 52 ∧ A.marks = [] ∧ A.tm.get 8 = .int .i64 j ∧ A.tm.get 7 = .int .u64 x ∧ A.tm.get 5 = v ∧ FN1 H.bs H.next v f n ∧ KW s H
noncomputable def QB (s : SV) (n : Nat) (v : Value) (r : (Nat → Int) × Int) (y : AX) (A : AF) (H : AH) : Prop := y = .exit 2 ∧ A.tm.n = 52 ∧ A.marks = [] ∧ A.tm.get 5 = v ∧ FN1 H.bs H.next v r.1 n ∧ KW s H
set_option maxRecDepth 10000 in
set_option maxHeartbeats 8000000 in
theorem rwall_ev (call : Value → List Value → AH → Option (Value × AH)) (s : SV) (x : Int) (n : Nat) (hn : n ≤ 144) (hr : s.rsize = (n : Int))
    (hsize : ∀ (H : AH), lookB H.bs 0 = some (.ints s.g) → lookB H.bs 1 = some (.ints s.h) → call (.func (.func 16) #[] #[]) [s.val] H = some (.int .i64 s.rsize, H))
    (hdraw : ∀ (x : Int) (n : Nat) (H : AH), 1 ≤ n → n ≤ 144 → call (.func (.func 17) #[] #[]) [.int .u64 x, .int .i64 (n : Int)] H = some (.tuple #[.int .i64 (drw n x : Int), .int .u64 (nxs n x)], H)) :
    ∃ b H', evFn (tabT Try.prog) call 300 kpT 8 Try.f8 [s.val, .int .u64 x] s.hp = some (cpV b n, H') ∧ (n ≠ 0 → lookB H'.bs b = some (.cells false (intsL (wallF n x) n))) := by
  have kp := kp8
  have gc := gc8
  rw [hr] at hsize
  simp only [SV.val] at hsize
  simp only [evFn, Try.f8, SV.val, SV.hp]
  simp [ec_skip, ec_label, ek_reg, ek_draw, ek_seq, ec_cond, ek_block, ec_loop, ec_exit, ec_ret, ec_scope, ek_nil, ek_op, opK_some, regK_some, seqK_normal, seqK_exit, seqK_ret, blockK_normal, blockK_exit, blockK_ret, evOp, vOp, hOpB, hOpU, hOp, hOpT, aAppendG_tab, aWanted, aYielded, opd, putT, closedV, aBin, intOp, sameK, mapO, joinR, hasAddr, boundOf, pushB, aAlloc, Value.cells, lookB, setB, Nat.beq_eq, tm_n_set, tm_get_set, tm_of_n, tm_of_get, tm_tr_set, tm_tr_of, cellV, putF, appR_eq, takeR_eq, dropR_eq, setR_eq, getR_eq, ↓C75, ↓C76, ↓C77, ↓C79, ↓C17, ↓C18, ↓C22, ↓C71, FA24_0, FA24_1, FA24_2, FA24_3, FA24_4, FA24_5, FA24_6, FA24_7, FA24_8, LD3, LD4, LD22, LD27, LDr, LD24, LEN22, IA22, tkc, cellAt]
  generalize hr : evLoop _ _ _ _ = r
  obtain ⟨y, A', H', rfl, rfl, hl, hmk, v, g5, g1, hF, hK⟩ := loop_go (Q := QA s n x) hr (IA s n x) n (by omega) ⟨0, .slice none 0 0, by omega, rfl, rfl, rfl, rfl, rfl, rfl, .inl ⟨rfl, rfl⟩, (hp_MI s).push _, by show 2 < 3; omega, rfl, rfl, rfl⟩ (by
    clear hr
    rintro m A ⟨nx, b1⟩ ⟨i, v, him, hl, hmk, g6, g5, g2, g1, hF, hK⟩
    simp only [runC]
    have hK' := hK
    obtain ⟨hM, hnx, L0, L1, L2⟩ := hK'
    simp only at hnx L0 L1 L2 hF
    have hz := hsize ⟨nx, b1⟩ L0 L1
    cases m with
    | zero =>
      have hi : ¬ i < n := by omega
      obtain rfl : i = n := by omega
      simp [ec_skip, ec_label, ek_reg, ek_draw, ek_seq, ec_cond, ek_block, ec_loop, ec_exit, ec_ret, ec_scope, ek_nil, ek_op, opK_some, regK_some, seqK_normal, seqK_exit, seqK_ret, blockK_normal, blockK_exit, blockK_ret, evOp, vOp, hOpB, hOpU, hOp, hOpT, aAppendG_tab, aWanted, aYielded, opd, putT, closedV, aBin, intOp, sameK, mapO, joinR, hasAddr, boundOf, pushB, aAlloc, Value.cells, lookB, setB, Nat.beq_eq, tm_n_set, tm_get_set, tm_of_n, tm_of_get, tm_tr_set, tm_tr_of, cellV, putF, appR_eq, takeR_eq, dropR_eq, setR_eq, getR_eq, ↓C75, ↓C76, ↓C77, ↓C79, ↓C17, ↓C18, ↓C22, ↓C71, FA24_0, FA24_1, FA24_2, FA24_3, FA24_4, FA24_5, FA24_6, FA24_7, FA24_8, LD3, LD4, LD22, LD27, LDr, LD24, LEN22, IA22, tkc, cellAt, ↓Crsize, SV.cs, L2, hl, hmk, g6, g5, g2, g1, hz]
      exact .inr ⟨by simp, rfl, by simp [tm_n_set, hl], rfl, v, by simp [tm_get_set, tm_n_set, hl, g5], by simp [tm_get_set, tm_n_set, hl, g1], hF, hK⟩
    | succ m =>
      have hi : i < n := by omega
      have hw : wrapI .i64 ((i : Int) + 1) = ((i + 1 : Nat) : Int) := by rw [wrapI_small (by omega) (by omega)]; rfl
      obtain ⟨bs2, hs, hk, hap⟩ := app_int hM hF (by omega)
      simp [ec_skip, ec_label, ek_reg, ek_draw, ek_seq, ec_cond, ek_block, ec_loop, ec_exit, ec_ret, ec_scope, ek_nil, ek_op, opK_some, regK_some, seqK_normal, seqK_exit, seqK_ret, blockK_normal, blockK_exit, blockK_ret, evOp, vOp, hOpB, hOpU, hOp, hOpT, aAppendG_tab, aWanted, aYielded, opd, putT, closedV, aBin, intOp, sameK, mapO, joinR, hasAddr, boundOf, pushB, aAlloc, Value.cells, lookB, setB, Nat.beq_eq, tm_n_set, tm_get_set, tm_of_n, tm_of_get, tm_tr_set, tm_tr_of, cellV, putF, appR_eq, takeR_eq, dropR_eq, setR_eq, getR_eq, ↓C75, ↓C76, ↓C77, ↓C79, ↓C17, ↓C18, ↓C22, ↓C71, FA24_0, FA24_1, FA24_2, FA24_3, FA24_4, FA24_5, FA24_6, FA24_7, FA24_8, LD3, LD4, LD22, LD27, LDr, LD24, LEN22, IA22, tkc, cellAt, ↓Crsize, SV.cs, L2, hl, hmk, g6, g5, g2, g1, hz, hi, BS22, APT22, partsO, hap]
      refine .inl ⟨rfl, m, rfl, i + 1, .slice (some ⟨nx + 1, 0, none⟩) (i + 1) 1, by omega, ?_, rfl, ?_, ?_, ?_, ?_, .inr ⟨by omega, nx + 1, rfl, by omega, by show nx + 1 < nx + 2; omega, by simp [lookB]⟩, ?_⟩
      rotate_right
      · have hM2 : MI ⟨nx, bs2⟩ := hM.sub hs (Nat.le_refl _)
        refine ⟨(hM2.push _).push _, by show 2 < nx + 2; omega, ?_, ?_, ?_⟩
        · show lookB ((nx + 1, _) :: (nx, _) :: bs2) 0 = _
          simp only [lookB, beq_ne (show ¬ 0 = nx + 1 by omega), beq_ne (show ¬ 0 = nx by omega), Bool.false_eq_true, if_false]
          rw [hk 0 (by omega), L0]
        · show lookB ((nx + 1, _) :: (nx, _) :: bs2) 1 = _
          simp only [lookB, beq_ne (show ¬ 1 = nx + 1 by omega), beq_ne (show ¬ 1 = nx by omega), Bool.false_eq_true, if_false]
          rw [hk 1 (by omega), L1]
        · show lookB ((nx + 1, _) :: (nx, _) :: bs2) 2 = _
          simp only [lookB, beq_ne (show ¬ 2 = nx + 1 by omega), beq_ne (show ¬ 2 = nx by omega), Bool.false_eq_true, if_false]
          rw [hk 2 (by omega), L2]
      all_goals simp [tm_get_set, tm_n_set, hl, g2, g1, hw])
  obtain ⟨a, z, hv⟩ : ∃ a z, v = .slice a n z := by
    rcases hF with ⟨h0, rfl⟩ | ⟨_, b, rfl, _⟩
    · exact ⟨_, 0, by rw [h0]⟩
    · exact ⟨_, _, rfl⟩
  subst hv
  obtain ⟨nx, b1⟩ := H'
  have hF2 : FN1 b1 nx (.slice a n z) (idf n) n := by
    rcases hF with h | ⟨h0, b, h1, h2, h3, h4⟩
    · exact .inl h
    · refine .inr ⟨h0, b, h1, h2, h3, ?_⟩
      have e : intsL idn n = intsL (idf n) n := intsL_congr fun k hk => by unfold idf idn; rw [if_pos hk]
      rw [← e]; exact h4
  clear hF
  have w1 : wrapI .i64 ((n : Int) - 1) = (n : Int) - 1 := wrapI_small (by omega) (by omega)
  simp [ec_skip, ec_label, ek_reg, ek_draw, ek_seq, ec_cond, ek_block, ec_loop, ec_exit, ec_ret, ec_scope, ek_nil, ek_op, opK_some, regK_some, seqK_normal, seqK_exit, seqK_ret, blockK_normal, blockK_exit, blockK_ret, evOp, vOp, hOpB, hOpU, hOp, hOpT, aAppendG_tab, aWanted, aYielded, opd, putT, closedV, aBin, intOp, sameK, mapO, joinR, hasAddr, boundOf, pushB, aAlloc, Value.cells, lookB, setB, Nat.beq_eq, tm_n_set, tm_get_set, tm_of_n, tm_of_get, tm_tr_set, tm_tr_of, cellV, putF, appR_eq, takeR_eq, dropR_eq, setR_eq, getR_eq, ↓C75, ↓C76, ↓C77, ↓C79, ↓C17, ↓C18, ↓C22, ↓C71, FA24_0, FA24_1, FA24_2, FA24_3, FA24_4, FA24_5, FA24_6, FA24_7, FA24_8, LD3, LD4, LD22, LD27, LDr, LD24, LEN22, IA22, tkc, cellAt, hl, hmk, g5, g1, LEN22, w1]
  generalize hr2 : evLoop _ _ _ _ = r2
  obtain ⟨y2, A2, H2, rfl, rfl, hl2, hmk2, u5, hF3, hK3⟩ := loop_go (Q := QB s n (.slice a n z) (shF (n - 1) (idf n) x)) hr2 (IB s n (.slice a n z) (shF (n - 1) (idf n) x)) (n - 1) (by omega)
    ⟨(n : Int) - 1, idf n, x, rfl, by omega, fun h => by omega, fun h => by omega, fun h => by omega, by simp [tm_n_set, hl], rfl, by simp [tm_get_set, tm_n_set, hl], by simp [tm_get_set, tm_n_set, hl, g1], by simp [tm_get_set, tm_n_set, hl, g5], hF2, hK⟩ (by
    clear hr2
    rintro m A ⟨nx, b1⟩ ⟨j, f, x, hs, _, hmn, hj0, hj1, hl, hmk, g8, g7, g5, hF, hK⟩
    simp only [runC]
    cases m with
    | zero =>
      have hj : ¬ 1 ≤ j := by have := hj0 rfl; omega
      simp [ec_skip, ec_label, ek_reg, ek_draw, ek_seq, ec_cond, ek_block, ec_loop, ec_exit, ec_ret, ec_scope, ek_nil, ek_op, opK_some, regK_some, seqK_normal, seqK_exit, seqK_ret, blockK_normal, blockK_exit, blockK_ret, evOp, vOp, hOpB, hOpU, hOp, hOpT, aAppendG_tab, aWanted, aYielded, opd, putT, closedV, aBin, intOp, sameK, mapO, joinR, hasAddr, boundOf, pushB, aAlloc, Value.cells, lookB, setB, Nat.beq_eq, tm_n_set, tm_get_set, tm_of_n, tm_of_get, tm_tr_set, tm_tr_of, cellV, putF, appR_eq, takeR_eq, dropR_eq, setR_eq, getR_eq, ↓C75, ↓C76, ↓C77, ↓C79, ↓C17, ↓C18, ↓C22, ↓C71, FA24_0, FA24_1, FA24_2, FA24_3, FA24_4, FA24_5, FA24_6, FA24_7, FA24_8, LD3, LD4, LD22, LD27, LDr, LD24, LEN22, IA22, tkc, cellAt, hl, hmk, g8, g7, g5, hj]
      refine .inr ⟨by simp, rfl, by simp [tm_n_set, hl], rfl, by simp [tm_get_set, tm_n_set, hl, g5], ?_, hK⟩
      rw [← hs]; exact hF
    | succ m =>
      obtain ⟨i, hi⟩ : ∃ i, i = m + 1 := ⟨_, rfl⟩
      obtain rfl : j = (i : Int) := by have := hj1 (by omega); omega
      have hin : i < n := by have := hmn (by omega); omega
      have hj : 1 ≤ (i : Int) := by omega
      have hjn : 1 ≤ i := by omega
      have hjz : 0 < i := by omega
      have w2 : wrapI .i64 ((i : Int) + 1) = (i : Int) + 1 := wrapI_small (by omega) (by omega)
      have w3 : wrapI .i64 ((i : Int) - 1) = ((m : Nat) : Int) := by rw [wrapI_small (by omega) (by omega)]; omega
      have hdr := hdraw x (i + 1) ⟨nx, b1⟩ (by omega) (by omega)
      have dl := drw_lt (n := i + 1) (by omega) x
      obtain ⟨q, hq⟩ : ∃ q, q = drw (i + 1) x := ⟨_, rfl⟩
      rw [← hq, show ((i + 1 : Nat) : Int) = (i : Int) + 1 by omega] at hdr
      rw [← hq] at dl
      rcases hF with ⟨h0, _⟩ | ⟨h0, b, hv, hb2, hbn, hlb⟩
      · omega
      cases hv
      obtain ⟨hM, hnx, L0, L1, L2⟩ := hK
      simp only at hnx L0 L1 L2 hlb hbn
      have ixi := IX22 b n i hin
      have ixq := IX22 b n q (by omega)
      simp [ec_skip, ec_label, ek_reg, ek_draw, ek_seq, ec_cond, ek_block, ec_loop, ec_exit, ec_ret, ec_scope, ek_nil, ek_op, opK_some, regK_some, seqK_normal, seqK_exit, seqK_ret, blockK_normal, blockK_exit, blockK_ret, evOp, vOp, hOpB, hOpU, hOp, hOpT, aAppendG_tab, aWanted, aYielded, opd, putT, closedV, aBin, intOp, sameK, mapO, joinR, hasAddr, boundOf, pushB, aAlloc, Value.cells, lookB, setB, Nat.beq_eq, tm_n_set, tm_get_set, tm_of_n, tm_of_get, tm_tr_set, tm_tr_of, cellV, putF, appR_eq, takeR_eq, dropR_eq, setR_eq, getR_eq, ↓C75, ↓C76, ↓C77, ↓C79, ↓C17, ↓C18, ↓C22, ↓C71, FA24_0, FA24_1, FA24_2, FA24_3, FA24_4, FA24_5, FA24_6, FA24_7, FA24_8, LD3, LD4, LD22, LD27, LDr, LD24, LEN22, IA22, tkc, cellAt, ↓Crdraw, hl, hmk, g8, g7, g5, hj, hjn, hjz, w2, hdr]
      generalize hX : evDrawX _ _ _ _ _ = X
      obtain ⟨tm, rfl, hn', u8, u5, u7⟩ := draw_any (H' := ⟨nx, setB b1 b (.cells false (intsL (swp f i q) n))⟩) (Pt := fun tm => tm.get 8 = .int .i64 (i : Int) ∧ tm.get 5 = .slice (some ⟨b, 0, none⟩) n 1 ∧ tm.get 7 = .int .u64 (nxs (i + 1) x)) hX (by kernel_rfl) hM.1 (by
        clear hX
        generalize hMM : befs _ = M
        have o1 : ordB M 13 7 = true := by rw [← hMM]; kernel_rfl
        have o2 : ordB M 13 11 = true := by rw [← hMM]; kernel_rfl
        have o3 : ordB M 15 7 = true := by rw [← hMM]; kernel_rfl
        have o4 : ordB M 15 11 = true := by rw [← hMM]; kernel_rfl
        have o5 : ordB M 13 15 = true := by rw [← hMM]; kernel_rfl
        have o6 : ordB M 15 13 = true := by rw [← hMM]; kernel_rfl
        clear hMM
        have c1 := intsL_at f n i hin
        have c2 := intsL_at f n q (by omega)
        have cl := intsL_len f n
        have sw := intsL_set2 f n i q
        have rb := lookB_roB_cells _ _ _ _ hlb hM.1
        have nw := newOnes_ro b1 nx hM.2
        rw [← sw]
        generalize intsL f n = L at c1 c2 cl hlb rb ⊢
        clear sw
        have st1 : aStore (tabT Try.prog) ⟨nx, b1⟩ 3 (.pointer (some ⟨b, i, none⟩)) (.int .i64 (f q)) = some ⟨nx, setB b1 b (.cells false (L.set i (.int .i64 (f q))))⟩ := by
          rw [ST3]; simp [hlb, putF, Value.cells, cl, cellV, setR_eq, Nat.ble_eq]; omega
        have st2 : aStore (tabT Try.prog) ⟨nx, setB b1 b (.cells false (L.set i (.int .i64 (f q))))⟩ 3 (.pointer (some ⟨b, q, none⟩)) (.int .i64 (f i)) = some ⟨nx, setB b1 b (.cells false ((L.set i (.int .i64 (f q))).set q (.int .i64 (f i))))⟩ := by
          rw [ST3]; simp [lookB_setB, hlb, putF, Value.cells, cl, cellV, setR_eq, Nat.ble_eq, setB_setB]; omega
        simp [mapO, drRun, drOp, dr3, looks, guardT, tmpsOf, Op.operands, Call.operands, wantedR, gOf, finT, natMem, isNil, writesF, evOp, vOp, hOpB, hOpU, hOp, hOpT, aAppendG_tab, opd, closedV, aBin, intOp, sameK, opdO, boundOf, undef, lookB, Nat.beq_eq, tm_n_set, tm_get_set, tm_of_n, tm_of_get, tm_tr_set, tm_tr_of, b02, b12, b32, ↓G75, W75, ↓G76, W76, ↓G77, W77, ↓G79, W79, ↓G17, W17, ↓G18, W18, ↓G22, W22, ↓G71, W71, tv, all1, roB, roK, news, newOnes, decr, tkc, cellAt, LD3, LD4, LD22, LD27, LDr, LD24, LEN22, IA22, hl, g8, g7, g5, ixi, ixq, c1, c2, st1, st2, hlb, rb, nw, Nat.ble_eq, Nat.blt_eq, wheap, all1, tv]
        refine ⟨_, _, ⟨rfl, rfl⟩, by simp [dynOK, b02, b12, b32, b03, b13, b23, o1, o2, o3, o4, o5, o6, hl, Nat.blt_eq, Nat.beq_eq], by simp [wheap, news, b02, b12, b32, Nat.beq_eq, all1], by simp [finT, tm_get_set, tm_n_set, hl, g8, g7, g5]⟩)
      clear hX
      simp [tm_n_set, hl] at hn'
      simp [ec_skip, ec_label, ek_reg, ek_draw, ek_seq, ec_cond, ek_block, ec_loop, ec_exit, ec_ret, ec_scope, ek_nil, ek_op, opK_some, regK_some, seqK_normal, seqK_exit, seqK_ret, blockK_normal, blockK_exit, blockK_ret, evOp, vOp, hOpB, hOpU, hOp, hOpT, aAppendG_tab, aWanted, aYielded, opd, putT, closedV, aBin, intOp, sameK, mapO, joinR, hasAddr, boundOf, pushB, aAlloc, Value.cells, lookB, setB, Nat.beq_eq, tm_n_set, tm_get_set, tm_of_n, tm_of_get, tm_tr_set, tm_tr_of, cellV, putF, appR_eq, takeR_eq, dropR_eq, setR_eq, getR_eq, ↓C75, ↓C76, ↓C77, ↓C79, ↓C17, ↓C18, ↓C22, ↓C71, FA24_0, FA24_1, FA24_2, FA24_3, FA24_4, FA24_5, FA24_6, FA24_7, FA24_8, LD3, LD4, LD22, LD27, LDr, LD24, LEN22, IA22, tkc, cellAt, hl, hmk, hn', u8, u5, u7]
      refine ⟨_, _, _, ⟨rfl, rfl, rfl⟩, .inl ⟨rfl, m, rfl, (m : Int), swp f i q, nxs (i + 1) x, ?_, by omega, fun h => by omega, fun h => by omega, fun h => rfl, ?_, ?_, ?_, ?_, ?_, .inr ⟨h0, b, rfl, hb2, hbn, ?_⟩, hM.set b _, hnx, ?_, ?_, ?_⟩⟩
      · rw [← hs, hi, hq, hi]; rfl
      all_goals first
        | (rw [lookB_setB, if_neg (by omega)]; assumption)
        | (show lookB (setB b1 b _) b = _; rw [lookB_setB, if_pos rfl, hlb]; rfl)
        | simp [tm_get_set, tm_n_set, hn', u8, u5, u7, w3, hmk])
  rcases hF3 with ⟨h0, hv⟩ | ⟨h0, b, hv, _, _, hlb⟩
  · cases hv
    refine ⟨0, ⟨H2.next, below 2 H2.bs⟩, ?_, fun h => absurd rfl h⟩
    simp [ec_skip, ec_label, ek_reg, ek_draw, ek_seq, ec_cond, ek_block, ec_loop, ec_exit, ec_ret, ec_scope, ek_nil, ek_op, opK_some, regK_some, seqK_normal, seqK_exit, seqK_ret, blockK_normal, blockK_exit, blockK_ret, evOp, vOp, hOpB, hOpU, hOp, hOpT, aAppendG_tab, aWanted, aYielded, opd, putT, closedV, aBin, intOp, sameK, mapO, joinR, hasAddr, boundOf, pushB, aAlloc, Value.cells, lookB, setB, Nat.beq_eq, tm_n_set, tm_get_set, tm_of_n, tm_of_get, tm_tr_set, tm_tr_of, cellV, putF, appR_eq, takeR_eq, dropR_eq, setR_eq, getR_eq, ↓C75, ↓C76, ↓C77, ↓C79, ↓C17, ↓C18, ↓C22, ↓C71, FA24_0, FA24_1, FA24_2, FA24_3, FA24_4, FA24_5, FA24_6, FA24_7, FA24_8, LD3, LD4, LD22, LD27, LDr, LD24, LEN22, IA22, tkc, cellAt, hl2, hmk2, u5, cpV, finF, takeM, resV, cleanedG, hasAddr, kp, gc]
  · cases hv
    refine ⟨b, H2, ?_, fun _ => hlb⟩
    obtain ⟨k, rfl⟩ : ∃ k, n = k + 1 := ⟨n - 1, by omega⟩
    simp [ec_skip, ec_label, ek_reg, ek_draw, ek_seq, ec_cond, ek_block, ec_loop, ec_exit, ec_ret, ec_scope, ek_nil, ek_op, opK_some, regK_some, seqK_normal, seqK_exit, seqK_ret, blockK_normal, blockK_exit, blockK_ret, evOp, vOp, hOpB, hOpU, hOp, hOpT, aAppendG_tab, aWanted, aYielded, opd, putT, closedV, aBin, intOp, sameK, mapO, joinR, hasAddr, boundOf, pushB, aAlloc, Value.cells, lookB, setB, Nat.beq_eq, tm_n_set, tm_get_set, tm_of_n, tm_of_get, tm_tr_set, tm_tr_of, cellV, putF, appR_eq, takeR_eq, dropR_eq, setR_eq, getR_eq, ↓C75, ↓C76, ↓C77, ↓C79, ↓C17, ↓C18, ↓C22, ↓C71, FA24_0, FA24_1, FA24_2, FA24_3, FA24_4, FA24_5, FA24_6, FA24_7, FA24_8, LD3, LD4, LD22, LD27, LDr, LD24, LEN22, IA22, tkc, cellAt, hl2, hmk2, u5, cpV, finF, takeM, resV, cleanedG, hasAddr, kp, gc]

/-! ### as an answer -/
noncomputable def ansWord : List Value → AH → Option Value
  | [.int .u64 y], _ => some (.tuple #[.int .i64 (wd (stepW y)), .int .u64 (stepW y)])
  | _, _ => none
noncomputable def ansDraw : List Value → AH → Option Value
  | [.int .u64 x, .int .i64 n], _ => if 1 ≤ n ∧ n ≤ 144 then some (.tuple #[.int .i64 (drw n.toNat x : Int), .int .u64 (nxs n.toNat x)]) else none
  | _, _ => none
theorem F33n : tabF Try.prog 33 = some Try.f33 := by kernel_rfl
theorem F17n : tabF Try.prog 17 = some Try.f17 := by kernel_rfl
theorem ok33 : AnsOK (runH noH) 33 ansWord := by
  intro cargs Hc v hv
  unfold ansWord at hv
  split at hv
  · cases hv
    exact ⟨by simp [closedV], fun _ => ⟨_, runH_fn F33n rfl (word_ev (inH noH) Hc _)⟩⟩
  · cases hv
noncomputable def D0 : Hnd := canH 33 ansWord
theorem D0_ok : CallOK Try.prog D0 := canH_ok (runH_ok noH_ok) ok33
theorem D0_33 (y : Int) (H : AH) : D0 (.func (.func 33) #[] #[]) [.int .u64 y] H = some (.tuple #[.int .i64 (wd (stepW y)), .int .u64 (stepW y)], H) := by
  simp [D0, canH, canon, canonL, canonV, canonB, ansWord]
theorem okDraw : AnsOK (runH D0) 17 ansDraw := by
  intro cargs Hc v hv
  unfold ansDraw at hv
  split at hv
  · rename_i x n
    split at hv
    · rename_i hn
      cases hv
      refine ⟨by simp [closedV], fun _ => ?_⟩
      obtain ⟨k, rfl⟩ : ∃ k : Nat, n = (k : Int) := ⟨n.toNat, by omega⟩
      obtain ⟨H', h⟩ := rdraw_ev (inH D0) x k (by omega) (by omega) Hc (fun y => inH_hd (D0_33 y Hc))
      exact ⟨H', runH_fn F17n rfl h⟩
    · cases hv
  · cases hv
noncomputable def V2 : Hnd := orH (canH 17 ansDraw) V1
theorem V2_ok : CallOK Try.prog V2 := orH_ok (canH_ok (runH_ok D0_ok) okDraw) V1_ok
theorem V2_17 (x : Int) (n : Nat) (H : AH) (h1 : 1 ≤ n) (h2 : n ≤ 144) : V2 (.func (.func 17) #[] #[]) [.int .u64 x, .int .i64 (n : Int)] H = some (.tuple #[.int .i64 (drw n x : Int), .int .u64 (nxs n x)], H) := by
  refine orH_l ?_
  have c1 : (1 : Int) ≤ n := by omega
  have c2 : (n : Int) ≤ 144 := by omega
  have c3 : 1 ≤ n := h1
  have c4 : n ≤ 144 := h2
  simp [canH, canon, canonL, canonV, canonB, ansDraw, c1, c2, c3, c4]
theorem V2_none8 (args : List Value) (H : AH) : V2 (.func (.func 8) #[] #[]) args H = none := by rfl
theorem ok8 : LstOK (runH V2) 8 (ansSW wallL) := ansSW_ok fun s x _ _ => by
  have hb := rsize_bounds s
  obtain ⟨n, hn⟩ : ∃ n : Nat, s.rsize = (n : Int) := ⟨s.rsize.toNat, by omega⟩
  have hn2 : n ≤ 144 := by omega
  have hw : wallL s x = wl n (wallF n x) := by
    unfold wallL; rw [hn]; rfl
  obtain ⟨b, H', h, hl⟩ := rwall_ev (inH V2) s x n hn2 hn (fun H h0 h1 => inH_hd (orH_r (canH_other rfl) (V1_16 s H h0 h1))) (fun x n H h1 h2 => inH_hd (V2_17 x n H h1 h2))
  refine ⟨b, H', by rw [hw, lstV_wl]; exact runH_fn F8n (V2_none8 _ _) h, fun hne => ?_⟩
  rw [hw, intsV_wl]
  rw [hw] at hne
  refine hl fun h0 => ?_
  subst h0
  exact hne rfl
/-- Both walls as answers. -/
noncomputable def V3 : Hnd := orH (lstH 7 (ansSW wallL)) (lstH 8 (ansSW wallL))
theorem V3_ok : CallOK Try.prog V3 := orH_ok (lstH_ok (runH_ok V1_ok) ok7) (lstH_ok (runH_ok V2_ok) ok8)
theorem V3_7 (s : SV) (x : Int) (H : AH) (h0 : lookB H.bs 0 = some (.ints s.g)) (h1 : lookB H.bs 1 = some (.ints s.h)) : V3 (.func (.func 7) #[] #[]) [s.val, .int .u64 x] H = some (lstV H.next (wallL s x), lstM H (wallL s x)) := orH_l (lstH_sw h0 h1)
theorem V3_8 (s : SV) (x : Int) (H : AH) (h0 : lookB H.bs 0 = some (.ints s.g)) (h1 : lookB H.bs 1 = some (.ints s.h)) : V3 (.func (.func 8) #[] #[]) [s.val, .int .u64 x] H = some (lstV H.next (wallL s x), lstM H (wallL s x)) := orH_r (lstH_other rfl) (lstH_sw h0 h1)

end Go.Proofs.Ytbgknpcbldnabaa
