/-
  What is proved: copies of lists; the wall that the program makes.
-/
import Derived.Test.YtbgknpcbldnabaaWe
namespace Go.Proofs.Ytbgknpcbldnabaa
open Go.RowKit
set_option linter.unusedSimpArgs false
set_option linter.unusedVariables false

theorem apr {T : TypeId → Option TI} {t e : TypeId} {z b : Nat} (h1 : (T t).map (·.desc) = some (.slice e)) (h2 : (T e).map (fun y => (y.size, y.bytes)) = some (z, b)) (H : AH) (s x : Value) :
    aAppend T H t s x = match sliceLen x, sliceLen s with
    | some 0, some _ => some (s, H)
    | some (m + 1), some _ => (match srcCells H.bs x z, dstCells H.bs s z with
      | some news, some (olds, n, bs') =>
        if Nat.ble ((n + (m + 1)) * b) 1000000000000 && Nat.ble (n + (m + 1)) 1000000000000 && news.all cellV then
          some (.slice (some ⟨H.next, 0, none⟩) (n + (m + 1)) z, { next := H.next + 1, bs := (H.next, .cells false (olds ++ news)) :: bs' })
        else none
      | _, _ => none)
    | _, _ => none := by
  obtain ⟨_, _, _, _, ht⟩ := tdesc h1
  cases he : T e with
  | none => rw [he] at h2; cases h2
  | some y =>
    rw [he] at h2
    simp only [Option.map_some, Option.some.injEq, Prod.mk.injEq] at h2
    obtain ⟨rfl, rfl⟩ := h2
    simp only [aAppend, ht, he]
    cases sliceLen x with
    | none => rfl
    | some m => cases m <;> cases sliceLen s <;> rfl

theorem AP22 (H : AH) (s x : Value) : aAppend (tabT Try.prog) H 22 s x = match sliceLen x, sliceLen s with
    | some 0, some _ => some (s, H)
    | some (m + 1), some _ => (match srcCells H.bs x 1, dstCells H.bs s 1 with
      | some news, some (olds, n, bs') =>
        if Nat.ble ((n + (m + 1)) * 8) 1000000000000 && Nat.ble (n + (m + 1)) 1000000000000 && news.all cellV then
          some (.slice (some ⟨H.next, 0, none⟩) (n + (m + 1)) 1, { next := H.next + 1, bs := (H.next, .cells false (olds ++ news)) :: bs' })
        else none
      | _, _ => none)
    | _, _ => none := apr (e := 3) (by kernel_rfl) (by kernel_rfl) H s x
theorem APT22 (H : AH) (u v : Value) : aAppendT (tabT Try.prog) H 22 22 u v = none := by kernel_rfl
theorem intsL_take (f : Nat → Int) (n m : Nat) (h : m ≤ n) : (intsL f n).take m = intsL f m := by
  apply List.ext_getElem?
  intro k
  rw [List.getElem?_take]
  by_cases hk : k < m
  · rw [if_pos hk, intsL_at _ _ _ hk, intsL_at _ _ _ (by omega)]
  · rw [if_neg hk, List.getElem?_eq_none (by rw [intsL_len]; omega)]
theorem tkn (f : Nat → Int) (m : Nat) (h : m ≤ 144) : takeCells (intsL f 144) 0 m = some (intsL f m) := by
  rw [tkc, List.drop_zero, if_pos (by rw [intsL_len]; omega), intsL_take f 144 m h]
theorem src22 {bs : List (Nat × ABlk)} {b : Nat} {f : Nat → Int} {ro : Bool} (h : lookB bs b = some (.cells ro (intsL f 144))) (m : Nat) (hm : m ≤ 144) : srcCells bs (.slice (some ⟨b, 0, none⟩) m 1) 1 = some (intsL f m) := by
  have := tkn f m hm
  simp [srcCells, h, this]
/-- What is left of a copy of the first n. -/
def cpV (N : Nat) : Nat → Value
  | 0 => .slice none 0 0
  | n + 1 => .slice (some ⟨N, 0, none⟩) (n + 1) 1
noncomputable def cpH (N : Nat) (bs : List (Nat × ABlk)) (f : Nat → Int) : Nat → AH
  | 0 => ⟨N, bs⟩
  | n + 1 => ⟨N + 1, (N, .cells false (intsL f (n + 1))) :: bs⟩
set_option maxRecDepth 10000 in
set_option maxHeartbeats 8000000 in
theorem copied_ev (call : Value → List Value → AH → Option (Value × AH)) (N b n : Nat) (bs : List (Nat × ABlk)) (f : Nat → Int) (hn : n ≤ 144) (hb : ∀ p ∈ bs, p.1 < N) (h : lookB bs b = some (.cells false (intsL f 144))) :
    evFn (tabT Try.prog) call 300 kpT 15 Try.f15 [.slice (some ⟨b, 0, none⟩) n 1] ⟨N, bs⟩ = some (cpV N n, cpH N bs f n) := by
  have kp := kp15
  have gc := gc15
  have src := src22 h n hn
  have hbl := below_all N bs hb
  have al := intsL_all f n
  simp only [evFn, Try.f15]
  cases n with
  | zero =>
    simp [ec_skip, ec_label, ek_reg, ek_draw, ek_seq, ec_cond, ek_block, ec_loop, ec_exit, ec_ret, ec_scope, ek_nil, ek_op, opK_some, regK_some, seqK_normal, seqK_exit, seqK_ret, blockK_normal, blockK_exit, blockK_ret, evOp, vOp, hOpB, hOpU, hOp, hOpT, aAppendG_tab, aWanted, aYielded, opd, putT, closedV, aBin, intOp, sameK, mapO, joinR, hasAddr, boundOf, pushB, aAlloc, Value.cells, lookB, setB, Nat.beq_eq, tm_n_set, tm_get_set, tm_of_n, tm_of_get, tm_tr_set, tm_tr_of, cellV, putF, appR_eq, takeR_eq, dropR_eq, setR_eq, getR_eq, ↓C75, ↓C76, ↓C77, ↓C79, ↓C17, ↓C18, ↓C22, ↓C71, FA24_0, FA24_1, FA24_2, FA24_3, FA24_4, FA24_5, FA24_6, FA24_7, FA24_8, LD3, LD4, LD22, LD27, LDr, LD24, LEN22, IA22, tkc, cellAt, AP22, APT22, sliceLen, hbl, cpV, cpH, finF, takeM, resV, cleanedG, hasAddr, kp, gc]
  | succ m =>
    have hm : m ≤ 1000 := by omega
    have h1 : (m + 1) * 8 ≤ 1000000000000 := by omega
    have h2 : m + 1 ≤ 1000000000000 := by omega
    have h3 : m ≤ 999999999999 := by omega
    simp only [cpV, cpH]
    generalize intsL f (m + 1) = L at *
    simp [ec_skip, ec_label, ek_reg, ek_draw, ek_seq, ec_cond, ek_block, ec_loop, ec_exit, ec_ret, ec_scope, ek_nil, ek_op, opK_some, regK_some, seqK_normal, seqK_exit, seqK_ret, blockK_normal, blockK_exit, blockK_ret, evOp, vOp, hOpB, hOpU, hOp, hOpT, aAppendG_tab, aWanted, aYielded, opd, putT, closedV, aBin, intOp, sameK, mapO, joinR, hasAddr, boundOf, pushB, aAlloc, Value.cells, lookB, setB, Nat.beq_eq, tm_n_set, tm_get_set, tm_of_n, tm_of_get, tm_tr_set, tm_tr_of, cellV, putF, appR_eq, takeR_eq, dropR_eq, setR_eq, getR_eq, ↓C75, ↓C76, ↓C77, ↓C79, ↓C17, ↓C18, ↓C22, ↓C71, FA24_0, FA24_1, FA24_2, FA24_3, FA24_4, FA24_5, FA24_6, FA24_7, FA24_8, LD3, LD4, LD22, LD27, LDr, LD24, LEN22, IA22, tkc, cellAt, AP22, APT22, sliceLen, dstCells, src, al, h1, h2, h3, Nat.ble_eq, cpV, cpH, finF, takeM, resV, cleanedG, hasAddr, kp, gc]

theorem SA38 {H : AH} {i n : Nat} {cs : List Value} {ro : Bool} (h : lookB H.bs i = some (.cells ro cs)) (hl : cs.length = 144) (hn : n ≤ 144) : aSliceArr (tabT Try.prog) H 38 (.pointer (some ⟨i, 0, none⟩)) none (some (.int .i64 (n : Int))) = some (.slice (some ⟨i, 0, none⟩) n 1) := by
  have h1 : ((tabT Try.prog) 38).map (·.desc) = some (.array 144 3) := by kernel_rfl
  have h2 : ((tabT Try.prog) 3).map (·.size) = some 1 := by kernel_rfl
  obtain ⟨_, _, _, _, ht⟩ := tdesc h1
  cases he : (tabT Try.prog) 3 with
  | none => rw [he] at h2; cases h2
  | some q =>
    rw [he] at h2
    simp only [Option.map_some, Option.some.injEq] at h2
    simp [aSliceArr, bnd, natV, ht, he, h2, h, hl, hn, Nat.ble_eq]

theorem AS38 (a : Addr) (l h : Option Value) : aSlice (tabT Try.prog) 38 (.pointer (some a)) l h = none := by kernel_rfl

/-! ### the wall -/
noncomputable def idf (i : Nat) : Nat → Int := fun k => if k < i then (k : Int) else 0
theorem idf_step (i : Nat) : upd (idf i) i (i : Int) = idf (i + 1) := by
  funext k
  unfold upd idf
  by_cases h : k = i
  · subst h; rw [if_pos rfl, if_pos (by omega)]
  · rw [if_neg h]
    by_cases h2 : k < i
    · rw [if_pos h2, if_pos (by omega)]
    · rw [if_neg h2, if_neg (by omega)]
theorem idf_zero : idf 0 = fun _ => 0 := by
  funext k
  unfold idf
  rw [if_neg (by omega)]
noncomputable def IW (s : SV) (n N : Nat) (bs : List (Nat × ABlk)) (x : Int) (m : Nat) (A : AF) (H : AH) : Prop := ∃ i : Nat, i + m = n ∧ A.tm.n = 25 ∧ A.marks = [] ∧ A.tm.get 11 = .int .i64 (i : Int) ∧ A.tm.get 10 = .int .i64 (n : Int) ∧ A.tm.get 5 = .int .i64 (n : Int) ∧ A.tm.get 6 = .pointer (some ⟨N + 1, 0, none⟩) ∧ A.tm.get 1 = .int .u64 x ∧ H = ⟨N + 2, (N + 1, .cells false (intsL (idf i) 144)) :: (N, .cells false s.cs) :: bs⟩
noncomputable def QW (s : SV) (n N : Nat) (bs : List (Nat × ABlk)) (x : Int) (y : AX) (A : AF) (H : AH) : Prop := y = .exit 0 ∧ A.tm.n = 25 ∧ A.marks = [] ∧ A.tm.get 5 = .int .i64 (n : Int) ∧ A.tm.get 6 = .pointer (some ⟨N + 1, 0, none⟩) ∧ A.tm.get 1 = .int .u64 x ∧ H = ⟨N + 2, (N + 1, .cells false (intsL (idf n) 144)) :: (N, .cells false s.cs) :: bs⟩
/-- The tiles of a wall, by their places. -/
noncomputable def wallF (n : Nat) (x : Int) : Nat → Int := (shF (n - 1) (idf n) x).1
noncomputable def wallH (s : SV) (N : Nat) (bs : List (Nat × ABlk)) (W : Nat → Int) : Nat → AH
  | 0 => ⟨N + 5, bs⟩
  | n + 1 => ⟨N + 6, (N + 5, .cells false (intsL W (n + 1))) :: (N + 1, .cells false (intsL W 144)) :: (N, .cells false s.cs) :: bs⟩
set_option maxRecDepth 10000 in
set_option maxHeartbeats 8000000 in
theorem wall_ev (call : Value → List Value → AH → Option (Value × AH)) (s : SV) (x : Int) (n N : Nat) (bs : List (Nat × ABlk)) (hn : n ≤ 144) (hr : s.rsize = (n : Int)) (hM : MI ⟨N, bs⟩) (H0 : lookB bs 0 = some (.ints s.g)) (H1 : lookB bs 1 = some (.ints s.h)) (hN : 2 ≤ N)
    (hsize : ∀ (H : AH), lookB H.bs 0 = some (.ints s.g) → lookB H.bs 1 = some (.ints s.h) → call (.func (.func 13) #[] #[]) [s.val] H = some (.int .i64 s.rsize, H))
    (hshuf : ∀ (f : Nat → Int) (N : Nat) (bs : List (Nat × ABlk)), MI ⟨N, bs⟩ → call (.func (.func 14) #[] #[]) [.agg ⟨intsL f 144⟩, .int .i64 (n : Int), .int .u64 x] ⟨N, bs⟩ = some (.agg ⟨intsL (shF (n - 1) f x).1 144⟩, ⟨N + 3, bs⟩))
    (hcop : ∀ (N b : Nat) (bs : List (Nat × ABlk)) (f : Nat → Int), (∀ p ∈ bs, p.1 < N) → lookB bs b = some (.cells false (intsL f 144)) → call (.func (.func 15) #[] #[]) [.slice (some ⟨b, 0, none⟩) n 1] ⟨N, bs⟩ = some (cpV N n, cpH N bs f n)) :
    evFn (tabT Try.prog) call 300 kpT 7 Try.f7 [s.val, .int .u64 x] ⟨N, bs⟩ = some (cpV (N + 5) n, wallH s N bs (wallF n x) n) := by
  have kp := kp7
  have gc := gc7
  have n0 : ¬ 0 = N := by omega
  have n1 : ¬ 1 = N := by omega
  rw [hr] at hsize
  simp only [SV.val] at hsize
  have hsz := hsize ⟨N + 1, (N, .cells false s.cs) :: bs⟩ (by simp [lookB, Nat.beq_eq, n0, H0]) (by simp [lookB, Nat.beq_eq, n1, H1])
  simp only [SV.cs] at hsz
  simp only [evFn, Try.f7, SV.val]
  simp [ec_skip, ec_label, ek_reg, ek_draw, ek_seq, ec_cond, ek_block, ec_loop, ec_exit, ec_ret, ec_scope, ek_nil, ek_op, opK_some, regK_some, seqK_normal, seqK_exit, seqK_ret, blockK_normal, blockK_exit, blockK_ret, evOp, vOp, hOpB, hOpU, hOp, hOpT, aAppendG_tab, aWanted, aYielded, opd, putT, closedV, aBin, intOp, sameK, mapO, joinR, hasAddr, boundOf, pushB, aAlloc, Value.cells, lookB, setB, Nat.beq_eq, tm_n_set, tm_get_set, tm_of_n, tm_of_get, tm_tr_set, tm_tr_of, cellV, putF, appR_eq, takeR_eq, dropR_eq, setR_eq, getR_eq, ↓C75, ↓C76, ↓C77, ↓C79, ↓C17, ↓C18, ↓C22, ↓C71, FA24_0, FA24_1, FA24_2, FA24_3, FA24_4, FA24_5, FA24_6, FA24_7, FA24_8, LD3, LD4, LD22, LD27, LDr, LD24, LEN22, IA22, tkc, cellAt, ↓Csize, hsz, ↓AL38]
  generalize hr : evLoop _ _ _ _ = r
  obtain ⟨y, A', H', rfl, rfl, hl, hmk, g5, g6, g1, rfl⟩ := loop_go (Q := QW s n N bs x) hr (IW s n N bs x) n (by omega) ⟨0, by omega, rfl, rfl, rfl, rfl, rfl, rfl, rfl, by rw [idf_zero]; rfl⟩ (by
    clear hr
    rintro m A H' ⟨i, him, hl, hmk, g11, g10, g5, g6, g1, rfl⟩
    simp only [runC]
    cases m with
    | zero =>
      have hi : ¬ i < n := by omega
      obtain rfl : i = n := by omega
      simp [ec_skip, ec_label, ek_reg, ek_draw, ek_seq, ec_cond, ek_block, ec_loop, ec_exit, ec_ret, ec_scope, ek_nil, ek_op, opK_some, regK_some, seqK_normal, seqK_exit, seqK_ret, blockK_normal, blockK_exit, blockK_ret, evOp, vOp, hOpB, hOpU, hOp, hOpT, aAppendG_tab, aWanted, aYielded, opd, putT, closedV, aBin, intOp, sameK, mapO, joinR, hasAddr, boundOf, pushB, aAlloc, Value.cells, lookB, setB, Nat.beq_eq, tm_n_set, tm_get_set, tm_of_n, tm_of_get, tm_tr_set, tm_tr_of, cellV, putF, appR_eq, takeR_eq, dropR_eq, setR_eq, getR_eq, ↓C75, ↓C76, ↓C77, ↓C79, ↓C17, ↓C18, ↓C22, ↓C71, FA24_0, FA24_1, FA24_2, FA24_3, FA24_4, FA24_5, FA24_6, FA24_7, FA24_8, LD3, LD4, LD22, LD27, LDr, LD24, LEN22, IA22, tkc, cellAt, hl, hmk, g11, g10, g5, g6, g1]
      exact .inr ⟨by simp, rfl, by simp [tm_n_set, hl], rfl, by simp [tm_get_set, tm_n_set, hl, g5], by simp [tm_get_set, tm_n_set, hl, g6], by simp [tm_get_set, tm_n_set, hl, g1], rfl⟩
    | succ m =>
      have hi : i < n := by omega
      have hw : wrapI .i64 ((i : Int) + 1) = ((i + 1 : Nat) : Int) := by rw [wrapI_small (by omega) (by omega)]; rfl
      have ixi := IX38 (N + 1) i (by omega)
      have il := intsL_len (idf i) 144
      have is := intsL_set (idf i) 144 i (i : Int)
      rw [idf_step] at is
      have hi143 : i ≤ 143 := by omega
      generalize intsL (idf i) 144 = L at il is ⊢
      simp [ec_skip, ec_label, ek_reg, ek_draw, ek_seq, ec_cond, ek_block, ec_loop, ec_exit, ec_ret, ec_scope, ek_nil, ek_op, opK_some, regK_some, seqK_normal, seqK_exit, seqK_ret, blockK_normal, blockK_exit, blockK_ret, evOp, vOp, hOpB, hOpU, hOp, hOpT, aAppendG_tab, aWanted, aYielded, opd, putT, closedV, aBin, intOp, sameK, mapO, joinR, hasAddr, boundOf, pushB, aAlloc, Value.cells, lookB, setB, Nat.beq_eq, tm_n_set, tm_get_set, tm_of_n, tm_of_get, tm_tr_set, tm_tr_of, cellV, putF, appR_eq, takeR_eq, dropR_eq, setR_eq, getR_eq, ↓C75, ↓C76, ↓C77, ↓C79, ↓C17, ↓C18, ↓C22, ↓C71, FA24_0, FA24_1, FA24_2, FA24_3, FA24_4, FA24_5, FA24_6, FA24_7, FA24_8, LD3, LD4, LD22, LD27, LDr, LD24, LEN22, IA22, tkc, cellAt, hl, hmk, g11, g10, g5, g6, g1, hi, ixi, ST3, il, is, hi143, Nat.ble_eq]
      refine .inl ⟨rfl, m, rfl, i + 1, by omega, ?_⟩
      simp [tm_get_set, tm_n_set, hl, hmk, g10, g5, g6, g1, hw])
  have tl := intsL_len (idf n) 144
  have tt : List.take 144 (intsL (idf n) 144) = intsL (idf n) 144 := List.take_of_length_le (by rw [tl]; omega)
  have hs := hshuf (idf n) (N + 2) ((N + 1, .cells false (intsL (idf n) 144)) :: (N, .cells false s.cs) :: bs) ((hM.push _).push _)
  have st := ST38 (H := ⟨N + 5, (N + 1, .cells false (intsL (idf n) 144)) :: (N, .cells false s.cs) :: bs⟩) (i := N + 1) (f0 := idf n) (by simp [lookB]) (shF (n - 1) (idf n) x).1
  have hM5 : ∀ p ∈ (N + 1, ABlk.cells false (intsL (shF (n - 1) (idf n) x).1 144)) :: (N, .cells false s.cs) :: bs, p.1 < N + 5 := fun p hp => by
    have h2 : p.1 < N + 2 := ((hM.push (.cells false s.cs)).push (.cells false (intsL (shF (n - 1) (idf n) x).1 144))).2 p hp
    omega
  have hc := hcop (N + 5) (N + 1) ((N + 1, .cells false (intsL (shF (n - 1) (idf n) x).1 144)) :: (N, .cells false s.cs) :: bs) (shF (n - 1) (idf n) x).1 hM5 (by simp [lookB])
  have sl := SA38 (H := ⟨N + 5, (N + 1, .cells false (intsL (shF (n - 1) (idf n) x).1 144)) :: (N, .cells false s.cs) :: bs⟩) (i := N + 1) (n := n) (ro := false) (by simp [lookB]) (intsL_len (shF (n - 1) (idf n) x).1 144) hn
  have hbl := below_all N bs hM.2
  have q0 : ¬ N + 1 < N := by omega
  simp only [wallF]
  generalize (shF (n - 1) (idf n) x).1 = W at *
  simp [ec_skip, ec_label, ek_reg, ek_draw, ek_seq, ec_cond, ek_block, ec_loop, ec_exit, ec_ret, ec_scope, ek_nil, ek_op, opK_some, regK_some, seqK_normal, seqK_exit, seqK_ret, blockK_normal, blockK_exit, blockK_ret, evOp, vOp, hOpB, hOpU, hOp, hOpT, aAppendG_tab, aWanted, aYielded, opd, putT, closedV, aBin, intOp, sameK, mapO, joinR, hasAddr, boundOf, pushB, aAlloc, Value.cells, lookB, setB, Nat.beq_eq, tm_n_set, tm_get_set, tm_of_n, tm_of_get, tm_tr_set, tm_tr_of, cellV, putF, appR_eq, takeR_eq, dropR_eq, setR_eq, getR_eq, ↓C75, ↓C76, ↓C77, ↓C79, ↓C17, ↓C18, ↓C22, ↓C71, FA24_0, FA24_1, FA24_2, FA24_3, FA24_4, FA24_5, FA24_6, FA24_7, FA24_8, LD3, LD4, LD22, LD27, LDr, LD24, LEN22, IA22, tkc, cellAt, hl, hmk, g5, g6, g1, LD38, tl, tt, ↓Cshuf, hs, st, sl, opdO, AS38, ↓Ccopied, hc, finF, takeM, resV, cleanedG, kp, gc]
  cases n with
  | zero => simp [cpV, cpH, wallH, hasAddr, below, hbl, q0, Nat.blt_eq]
  | succ k => simp [cpV, cpH, wallH, hasAddr]

end Go.Proofs.Ytbgknpcbldnabaa
