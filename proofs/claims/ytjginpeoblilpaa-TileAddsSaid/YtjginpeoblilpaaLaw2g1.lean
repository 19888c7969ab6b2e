/-
  What is proved: how many plain kinds a set has whose lists lie in cells. what the small sets of the source keep of the memory: lists that grow. the words of a seed: what the program's generator and the document's own draw, in numbers; no three words in a row are refused. what the two generators answer: a word, and a number below another one. what the document's own draw answers; the program's shuffle of an array. the program's shuffle of an array of 144 integers. Contains, Has, Size, Kinds, face, Kind and Red of TileBags' seat, as answers that calls may take. the errors of tiles: checkTiles of the program, where a row of truths tells which tiles were seen. what the closure in tile.kinds that yields the kinds of one suit comes to, whatever the loop's body does with them. what the closure that yields all kinds of a set comes to, whatever the loop's body does with them. what tile.find answers for every set and every number. whether a set is valid, and its size; copies of lists; the wall that the program makes. copies of lists; the wall that the program makes. as the closures of tile.kinds, for a loop whose blocks lie one place higher (that of tile.at). what tile.Place and tile.After answer for every set and every number. find, Place and After, as answers that calls may take.
-/
import Derived.Test.YtjginpeoblilpaaLaw2g0
namespace Go.Proofs.Ytjginpeoblilpaa
open Go.RowKit
set_option linter.unusedSimpArgs false
set_option linter.unusedVariables false

section
set_option linter.unusedSimpArgs false
set_option linter.unusedVariables false

theorem Ntotal : ((tabT Try.prog) 22).map (fun z => (z.ex.nat 82, z.ex.mnz 82)) = some (none, none) := by kernel_rfl
theorem Ctotal (call : Value → List Value → AH → Option (Value × AH)) {tm : Tm} {i : Nat} {H : AH} {d : Option Tmp} {t : TypeId} {p : String} {a : Array Edge} {gd : Option (Nat × Bool)} : evOp (tabT Try.prog) call ⟨d, .call ⟨.value (.func 82), #[.tmp i], #[22]⟩, t, p, a, gd⟩ (opd tm) H = call (.func (.func 82) #[] #[]) [tm.get i] H :=
  evOp_evO.trans (eo_call1 rfl rfl Ntotal)
theorem kpt : kpT 82 = false := by kernel_rfl
theorem kpp : kpT 43 = false := by kernel_rfl
theorem Gtot (call : Value → List Value → AH → Option (Value × AH)) {tm : Tm} {rs : List DR} {ts : List Nat} {k : Nat} {H : AH} {d : Option Tmp} {t : TypeId} {p : String} {a : Array Edge} {gd : Option (Nat × Bool)} (h : natMem ts k = true) : evOp (tabT Try.prog) call ⟨d, .call ⟨.value (.func 82), #[.tmp k], #[22]⟩, t, p, a, gd⟩ (gOf tm rs ts) H = call (.func (.func 82) #[] #[]) [(finT tm rs).get k] H :=
  evOp_evO.trans (eo_call1 rfl (by simp only [gOf, h, if_true]) Ntotal)
theorem Wtot : wrT 82 = false := by kernel_rfl

/-- A list of integers in cells, or nil. -/
def Lst (bs : List (Nat × ABlk)) (u : Value) (n : Nat) (g : Nat → Int) : Prop := (u = .slice none 0 0 ∧ n = 0) ∨ ∃ a ro cs, u = .slice (some ⟨a, 0, none⟩) n 1 ∧ lookB bs a = some (.cells ro cs) ∧ okC cs n = true ∧ g = gi cs
theorem Lst.len {bs : List (Nat × ABlk)} {u : Value} {n : Nat} {g : Nat → Int} (h : Lst bs u n g) : ∃ a z, u = .slice a n z := by
  rcases h with ⟨rfl, rfl⟩ | ⟨a, _, _, rfl, _⟩
  · exact ⟨_, _, rfl⟩
  · exact ⟨_, _, rfl⟩
theorem Lst.ro {bs : List (Nat × ABlk)} {u : Value} {n : Nat} {g : Nat → Int} (h : Lst bs u n g) (hd : decrK bs = true) : Lst (roB bs) u n g := by
  rcases h with h | ⟨a, ro, cs, h1, h2, h3, h4⟩
  · exact .inl h
  · exact .inr ⟨a, true, cs, h1, lookB_roB_cells _ _ _ _ h2 hd, h3, h4⟩
theorem Lst.push {bs : List (Nat × ABlk)} {u : Value} {n : Nat} {g : Nat → Int} (h : Lst bs u n g) {N : Nat} (hb : ∀ p ∈ bs, p.1 < N) (k : ABlk) : Lst ((N, k) :: bs) u n g := by
  rcases h with h | ⟨a, ro, cs, h1, h2, h3, h4⟩
  · exact .inl h
  · have : a < N := hb _ (lookB_mem h2)
    exact .inr ⟨a, ro, cs, h1, by simp only [lookB, beq_ne (show ¬ a = N by omega), Bool.false_eq_true, if_false]; exact h2, h3, h4⟩
theorem roB_ids : ∀ bs : List (Nat × ABlk), ((roB bs).map (·.1)).Sublist (bs.map (·.1))
  | [] => List.Sublist.slnil
  | (i, k) :: r => by
    simp only [roB]
    split
    · exact (roB_ids r).cons_cons _
    · exact (roB_ids r).cons _
theorem decrK_pw2 : ∀ bs : List (Nat × ABlk), decrK bs = true ↔ List.Pairwise (fun a b : Nat => b < a) (bs.map (·.1))
  | [] => by simp [decrK]
  | [p] => by simp [decrK]
  | (i, k) :: (j, q) :: r => by
    have ih := decrK_pw2 ((j, q) :: r)
    simp only [decrK, Bool.and_eq_true]
    rw [ih]
    simp only [List.map_cons, List.pairwise_cons]
    constructor
    · rintro ⟨h1, h2, h3⟩
      have h1' : j < i := by simpa [Nat.blt_eq] using h1
      refine ⟨fun x hx => ?_, h2, h3⟩
      rcases List.mem_cons.1 hx with rfl | hx
      · exact h1'
      · exact Nat.lt_trans (h2 x hx) h1'
    · rintro ⟨h1, h2, h3⟩
      exact ⟨by simpa [Nat.blt_eq] using h1 j List.mem_cons_self, h2, h3⟩
theorem MI.ro {H : AH} (h : MI H) : MI ⟨H.next, roB H.bs⟩ := by
  refine ⟨(decrK_pw2 _).2 (((decrK_pw2 _).1 h.1).sublist (roB_ids H.bs)), fun p hp => ?_⟩
  have hm : p.1 ∈ H.bs.map (·.1) := (roB_ids H.bs).subset (List.mem_map.2 ⟨p, hp, rfl⟩)
  obtain ⟨q, hq, e⟩ := List.mem_map.1 hm
  rw [← e]
  exact h.2 q hq
theorem below_all (n : Nat) : ∀ bs : List (Nat × ABlk), (∀ p ∈ bs, p.1 < n) → below n bs = bs
  | [], _ => rfl
  | (i, k) :: r, h => by
    have hi : Nat.blt i n = true := by simpa [Nat.blt_eq] using h (i, k) List.mem_cons_self
    simp only [below, hi, if_true, below_all n r fun p hp => h p (List.mem_cons_of_mem _ hp)]

noncomputable def IT (u : Value) (g : Nat → Int) (n : Nat) (R : Int) (H0 : AH) (m : Nat) (A : AF) (H : AH) : Prop := ∃ (i : Nat) (acc : Int), i + m = n ∧ sumG g m i acc = R ∧ A.tm.n = 18 ∧ A.marks = [] ∧ A.tm.get 4 = .int .i64 (i : Int) ∧ A.tm.get 3 = .int .i64 acc ∧ A.tm.get 0 = u ∧ H = H0
noncomputable def QT (R : Int) (H0 : AH) (y : AX) (A : AF) (H : AH) : Prop := y = .exit 0 ∧ A.tm.n = 18 ∧ A.marks = [] ∧ A.tm.get 3 = .int .i64 R ∧ H = H0
set_option maxRecDepth 10000 in
set_option maxHeartbeats 8000000 in
theorem total_ev {L : Nat} (call : Value → List Value → AH → Option (Value × AH)) (N : Nat) (bs : List (Nat × ABlk)) {u : Value} {n : Nat} {g : Nat → Int} (hn : n ≤ 200) (hM : MI ⟨N, bs⟩) (hu : Lst bs u n g) :
    evFn (tabT Try.prog) call (L + 300) kpT 82 Try.f82 [u] ⟨N, bs⟩ = some (.int .i64 (sumG g n 0 0), ⟨N, bs⟩) := by
  have kp := kpt
  have hbl := below_all N bs hM.2
  simp only [evFn, Try.f82]
  simp [ec_skip, ec_label, ek_reg, ek_draw, ek_seq, ec_cond, ek_block, ec_loop, ec_exit, ec_ret, ec_scope, ek_nil, ek_op, opK_some, regK_some, seqK_normal, seqK_exit, seqK_ret, blockK_normal, blockK_exit, blockK_ret, evOp, vOp, hOpB, hOpU, hOp, hOpT, aAppendG_tab, aWanted, aYielded, opd, putT, closedV, aBin, intOp, sameK, mapO, joinR, hasAddr, boundOf, pushB, aAlloc, Value.cells, lookB, setB, Nat.beq_eq, tm_n_set, tm_get_set, tm_of_n, tm_of_get, tm_tr_set, tm_tr_of, cellV, putF, appR_eq, takeR_eq, dropR_eq, setR_eq, getR_eq, ↓C75, ↓C76, ↓C77, ↓C79, ↓C17, ↓C18, ↓C22, ↓C71, FA24_0, FA24_1, FA24_2, FA24_3, FA24_4, FA24_5, FA24_6, FA24_7, FA24_8, LD3, LD4, LD22, LD27, LDr, LD24, LEN22, IA22, tkc, cellAt]
  generalize hr : evLoop _ _ _ _ = r
  obtain ⟨y, A', H', rfl, rfl, hl, hmk, g3, rfl⟩ := loop_go (Q := QT (sumG g n 0 0) ⟨N, bs⟩) hr (IT u g n (sumG g n 0 0) ⟨N, bs⟩) n (by omega) ⟨0, 0, by omega, rfl, rfl, rfl, rfl, rfl, rfl, rfl⟩ (by
    clear hr
    rintro m A H' ⟨i, acc, him, hsum, hl, hmk, g4, g3, g0, rfl⟩
    obtain ⟨a0, z0, hv⟩ := hu.len
    simp only [runC]
    cases m with
    | zero =>
      have hi : ¬ i < n := by omega
      subst hv
      simp only [sumG] at hsum
      simp [ec_skip, ec_label, ek_reg, ek_draw, ek_seq, ec_cond, ek_block, ec_loop, ec_exit, ec_ret, ec_scope, ek_nil, ek_op, opK_some, regK_some, seqK_normal, seqK_exit, seqK_ret, blockK_normal, blockK_exit, blockK_ret, evOp, vOp, hOpB, hOpU, hOp, hOpT, aAppendG_tab, aWanted, aYielded, opd, putT, closedV, aBin, intOp, sameK, mapO, joinR, hasAddr, boundOf, pushB, aAlloc, Value.cells, lookB, setB, Nat.beq_eq, tm_n_set, tm_get_set, tm_of_n, tm_of_get, tm_tr_set, tm_tr_of, cellV, putF, appR_eq, takeR_eq, dropR_eq, setR_eq, getR_eq, ↓C75, ↓C76, ↓C77, ↓C79, ↓C17, ↓C18, ↓C22, ↓C71, FA24_0, FA24_1, FA24_2, FA24_3, FA24_4, FA24_5, FA24_6, FA24_7, FA24_8, LD3, LD4, LD22, LD27, LDr, LD24, LEN22, IA22, tkc, cellAt, hl, hmk, g4, g3, g0, hi]
      exact .inr ⟨by simp, rfl, by simp [tm_n_set, hl], rfl, by simp [tm_get_set, tm_n_set, hl, g3, hsum], rfl⟩
    | succ m =>
      have hi : i < n := by omega
      have hw : wrapI .i64 ((i : Int) + 1) = ((i + 1 : Nat) : Int) := by rw [wrapI_small (by omega) (by omega)]; rfl
      rcases hu with ⟨_, h0⟩ | ⟨a, ro, cs, h1, h2, h3, rfl⟩
      · omega
      · subst h1
        have ix : aIndexAddr (tabT Try.prog) 22 (.slice (some ⟨a, 0, none⟩) n 1) (.int .i64 (i : Int)) = some (.pointer (some ⟨a, i, none⟩)) := by
          rw [ixa (e := 3) (z := 1) (by kernel_rfl) (by kernel_rfl) a 0 n 1 i hi]; simp
        have hc := okC_at h3 hi
        rw [sumG] at hsum
        simp [ec_skip, ec_label, ek_reg, ek_draw, ek_seq, ec_cond, ek_block, ec_loop, ec_exit, ec_ret, ec_scope, ek_nil, ek_op, opK_some, regK_some, seqK_normal, seqK_exit, seqK_ret, blockK_normal, blockK_exit, blockK_ret, evOp, vOp, hOpB, hOpU, hOp, hOpT, aAppendG_tab, aWanted, aYielded, opd, putT, closedV, aBin, intOp, sameK, mapO, joinR, hasAddr, boundOf, pushB, aAlloc, Value.cells, lookB, setB, Nat.beq_eq, tm_n_set, tm_get_set, tm_of_n, tm_of_get, tm_tr_set, tm_tr_of, cellV, putF, appR_eq, takeR_eq, dropR_eq, setR_eq, getR_eq, ↓C75, ↓C76, ↓C77, ↓C79, ↓C17, ↓C18, ↓C22, ↓C71, FA24_0, FA24_1, FA24_2, FA24_3, FA24_4, FA24_5, FA24_6, FA24_7, FA24_8, LD3, LD4, LD22, LD27, LDr, LD24, LEN22, IA22, tkc, cellAt, hl, hmk, g4, g3, g0, hi, ix, h2, hc]
        refine .inl ⟨rfl, m, rfl, i + 1, wrapI .i64 (acc + gi cs i), by omega, hsum, ?_⟩
        simp [tm_get_set, tm_n_set, hl, hmk, g0, hw])
  simp [ec_skip, ec_label, ek_reg, ek_draw, ek_seq, ec_cond, ek_block, ec_loop, ec_exit, ec_ret, ec_scope, ek_nil, ek_op, opK_some, regK_some, seqK_normal, seqK_exit, seqK_ret, blockK_normal, blockK_exit, blockK_ret, evOp, vOp, hOpB, hOpU, hOp, hOpT, aAppendG_tab, aWanted, aYielded, opd, putT, closedV, aBin, intOp, sameK, mapO, joinR, hasAddr, boundOf, pushB, aAlloc, Value.cells, lookB, setB, Nat.beq_eq, tm_n_set, tm_get_set, tm_of_n, tm_of_get, tm_tr_set, tm_tr_of, cellV, putF, appR_eq, takeR_eq, dropR_eq, setR_eq, getR_eq, ↓C75, ↓C76, ↓C77, ↓C79, ↓C17, ↓C18, ↓C22, ↓C71, FA24_0, FA24_1, FA24_2, FA24_3, FA24_4, FA24_5, FA24_6, FA24_7, FA24_8, LD3, LD4, LD22, LD27, LDr, LD24, LEN22, IA22, tkc, cellAt, hl, hmk, g3, finF, takeM, resV, cleanedG, hasAddr, kp, hbl]

/-- A set as a value, its lists wherever they lie. -/
def setCV (p : Int) (u1 : Value) (w d f c m de : Int) (u8 : Value) : Value := .agg ⟨[.int .i64 p, u1, .int .i64 w, .int .i64 d, .int .i64 f, .int .i64 c, .int .i64 m, .int .i64 de, u8]⟩
set_option maxRecDepth 10000 in
set_option maxHeartbeats 8000000 in
theorem plainC_ev {L : Nat} (call : Value → List Value → AH → Option (Value × AH)) (N : Nat) (bs : List (Nat × ABlk)) {p w d f c m de : Int} {u1 u8 : Value} {n : Nat} {g : Nat → Int} (hM : MI ⟨N, bs⟩) (hu : Lst bs u1 n g)
    (htot : ∀ (N : Nat) (bs : List (Nat × ABlk)), MI ⟨N, bs⟩ → Lst bs u1 n g → call (.func (.func 82) #[] #[]) [u1] ⟨N, bs⟩ = some (.int .i64 (sumG g n 0 0), ⟨N, bs⟩)) :
    evFn (tabT Try.prog) call (L + 300) kpT 43 Try.f43 [setCV p u1 w d f c m de u8] ⟨N, bs⟩ = some (.int .i64 (wrapI .i64 (wrapI .i64 (sumG g n 0 0 + w) + d)), ⟨N + 1, bs⟩) := by
  have kp := kpp
  have hbl := below_all N bs hM.2
  have nn : ¬ N < N := Nat.lt_irrefl N
  have nle : ¬ N + 1 ≤ N := by omega
  have hM1 := hM.push (.cells false [.int .i64 p, u1, .int .i64 w, .int .i64 d, .int .i64 f, .int .i64 c, .int .i64 m, .int .i64 de, u8])
  have hr1 := hM1.ro
  have nw := newOnes_ro _ (N + 1) hM1.2
  have ht := htot (N + 1) (roB ((N, .cells false [.int .i64 p, u1, .int .i64 w, .int .i64 d, .int .i64 f, .int .i64 c, .int .i64 m, .int .i64 de, u8]) :: bs)) hr1 ((hu.push hM.2 _).ro hM1.1)
  simp only [roB, roK] at ht nw
  simp only [evFn, Try.f43, setCV]
  simp [ec_skip, ec_label, ek_reg, ek_draw, ek_seq, ec_cond, ek_block, ec_loop, ec_exit, ec_ret, ec_scope, ek_nil, ek_op, opK_some, regK_some, seqK_normal, seqK_exit, seqK_ret, blockK_normal, blockK_exit, blockK_ret, evOp, vOp, hOpB, hOpU, hOp, hOpT, aAppendG_tab, aWanted, aYielded, opd, putT, closedV, aBin, intOp, sameK, mapO, joinR, hasAddr, boundOf, pushB, aAlloc, Value.cells, lookB, setB, Nat.beq_eq, tm_n_set, tm_get_set, tm_of_n, tm_of_get, tm_tr_set, tm_tr_of, cellV, putF, appR_eq, takeR_eq, dropR_eq, setR_eq, getR_eq, ↓C75, ↓C76, ↓C77, ↓C79, ↓C17, ↓C18, ↓C22, ↓C71, FA24_0, FA24_1, FA24_2, FA24_3, FA24_4, FA24_5, FA24_6, FA24_7, FA24_8, LD3, LD4, LD22, LD27, LDr, LD24, LEN22, IA22, tkc, cellAt]
  generalize hX : evDrawX _ _ _ _ _ = X
  obtain ⟨tm, rfl, hn', t2⟩ := draw_ro (Pt := fun tm => tm.get 2 = .int .i64 (wrapI .i64 (wrapI .i64 (sumG g n 0 0 + w) + d))) hX (by kernel_rfl) hM1.1 (by
    clear hX
    generalize befs _ = M
    simp [mapO, drRun, drOp, dr3, looks, guardT, tmpsOf, Op.operands, Call.operands, wantedR, gOf, finT, natMem, isNil, writesF, evOp, vOp, hOpB, hOpU, hOp, hOpT, aAppendG_tab, opd, closedV, aBin, intOp, sameK, opdO, boundOf, undef, lookB, Nat.beq_eq, tm_n_set, tm_get_set, tm_of_n, tm_of_get, tm_tr_set, tm_tr_of, b02, b12, b32, ↓G75, W75, ↓G76, W76, ↓G77, W77, ↓G79, W79, ↓G17, W17, ↓G18, W18, ↓G22, W22, ↓G71, W71, tv, all1, roB, roK, news, newOnes, decr, tkc, cellAt, LD3, LD4, LD22, LD27, LDr, LD24, LEN22, IA22, FA24_0, FA24_1, FA24_2, FA24_3, FA24_4, FA24_5, FA24_6, FA24_7, FA24_8, hasR, hasR_ro, ↓Gtot, Wtot, ht, nle, Nat.ble_eq, tm_of_n, tm_of_get]
    refine ⟨by simp [dynOK, b02, b12, b32, Nat.blt_eq, tm_n_set, tm_of_n], by simp [wheap, news, b02, b12, b32]⟩)
  simp [tm_n_set] at hn'
  simp [ec_skip, ec_label, ek_reg, ek_draw, ek_seq, ec_cond, ek_block, ec_loop, ec_exit, ec_ret, ec_scope, ek_nil, ek_op, opK_some, regK_some, seqK_normal, seqK_exit, seqK_ret, blockK_normal, blockK_exit, blockK_ret, evOp, vOp, hOpB, hOpU, hOp, hOpT, aAppendG_tab, aWanted, aYielded, opd, putT, closedV, aBin, intOp, sameK, mapO, joinR, hasAddr, boundOf, pushB, aAlloc, Value.cells, lookB, setB, Nat.beq_eq, tm_n_set, tm_get_set, tm_of_n, tm_of_get, tm_tr_set, tm_tr_of, cellV, putF, appR_eq, takeR_eq, dropR_eq, setR_eq, getR_eq, ↓C75, ↓C76, ↓C77, ↓C79, ↓C17, ↓C18, ↓C22, ↓C71, FA24_0, FA24_1, FA24_2, FA24_3, FA24_4, FA24_5, FA24_6, FA24_7, FA24_8, LD3, LD4, LD22, LD27, LDr, LD24, LEN22, IA22, tkc, cellAt, hn', t2, finF, takeM, resV, cleanedG, hasAddr, kp, below, nn, hbl, Nat.blt_eq]

end

section
set_option linter.unusedSimpArgs false
set_option linter.unusedVariables false

theorem decrK_pw : ∀ bs : List (Nat × ABlk), decrK bs = true ↔ List.Pairwise (fun p q => q.1 < p.1) bs
  | [] => by simp [decrK]
  | [p] => by simp [decrK]
  | (i, k) :: (j, q) :: r => by
    have ih := decrK_pw ((j, q) :: r)
    simp only [decrK, Bool.and_eq_true]
    rw [ih, List.pairwise_cons (a := (i, k))]
    constructor
    · rintro ⟨h1, h2⟩
      have h1' : j < i := by simpa [Nat.blt_eq] using h1
      refine ⟨fun x hx => ?_, h2⟩
      rcases List.mem_cons.1 hx with rfl | hx
      · exact h1'
      · exact Nat.lt_trans ((List.pairwise_cons.1 h2).1 x hx) h1'
    · rintro ⟨h1, h2⟩
      exact ⟨by simpa [Nat.blt_eq] using h1 (j, q) List.mem_cons_self, h2⟩
theorem MI.sub {H : AH} (h : MI H) {bs : List (Nat × ABlk)} {nx : Nat} (hs : bs.Sublist H.bs) (hn : H.next ≤ nx) : MI ⟨nx, bs⟩ :=
  ⟨(decrK_pw _).2 (((decrK_pw _).1 h.1).sublist hs), fun p hp => Nat.lt_of_lt_of_le (h.2 p (hs.subset hp)) hn⟩
theorem dropB_sub : ∀ (bs : List (Nat × ABlk)) (i : Nat), (dropB bs i).Sublist bs
  | [], _ => List.Sublist.slnil
  | (j, k) :: r, i => by
    simp only [dropB]
    split
    · exact (dropB_sub r i).cons _
    · exact (dropB_sub r i).cons_cons _
theorem apr {T : TypeId → Option TI} {t e : TypeId} {z b : Nat} (h1 : (T t).map (·.desc) = some (.slice e)) (h2 : (T e).map (fun y => (y.size, y.bytes)) = some (z, b)) (H : AH) (s x : Value) :
    aAppend T H t s x = match sliceLen x, sliceLen s with
    | some 0, some _ => some (s, H)
    | some (m + 1), some _ => (match srcCells H.bs x z, dstCells H.bs s z with
      | some news, some (olds, n, bs') =>
        if Nat.ble ((n + (m + 1)) * b) 1000000000000 && Nat.ble (n + (m + 1)) 1000000000000 && news.all cellV then
          some (.slice (some ⟨H.next, 0, none⟩) (n + (m + 1)) z, { next := H.next + 1, bs := (H.next, .cells false (olds ++ news)) :: bs' })
        else none
      | _, _ => none)
    | _, _ => none := by
  obtain ⟨_, _, _, _, ht⟩ := tdesc h1
  cases he : T e with
  | none => rw [he] at h2; cases h2
  | some y =>
    rw [he] at h2
    simp only [Option.map_some, Option.some.injEq, Prod.mk.injEq] at h2
    obtain ⟨rfl, rfl⟩ := h2
    simp only [aAppend, ht, he]
    cases sliceLen x with
    | none => rfl
    | some m => cases m <;> cases sliceLen s <;> rfl

theorem AP22 (H : AH) (s x : Value) : aAppend (tabT Try.prog) H 22 s x = match sliceLen x, sliceLen s with
    | some 0, some _ => some (s, H)
    | some (m + 1), some _ => (match srcCells H.bs x 1, dstCells H.bs s 1 with
      | some news, some (olds, n, bs') =>
        if Nat.ble ((n + (m + 1)) * 8) 1000000000000 && Nat.ble (n + (m + 1)) 1000000000000 && news.all cellV then
          some (.slice (some ⟨H.next, 0, none⟩) (n + (m + 1)) 1, { next := H.next + 1, bs := (H.next, .cells false (olds ++ news)) :: bs' })
        else none
      | _, _ => none)
    | _, _ => none := apr (e := 3) (by kernel_rfl) (by kernel_rfl) H s x
theorem APT22 (H : AH) (u v : Value) : aAppendT (tabT Try.prog) H 22 22 u v = none := by kernel_rfl
theorem BS22 (H : AH) (a : Int) : aBuildSlice (tabT Try.prog) H 22 1 [(0, .int .i64 a)] = some (.slice (some ⟨H.next, 0, none⟩) 1 1, pushB H (.cells false [.int .i64 a])) := by kernel_rfl
theorem setB_setB (i : Nat) (k k' : ABlk) : ∀ bs : List (Nat × ABlk), setB (setB bs i k) i k' = setB bs i k'
  | [] => rfl
  | (j, q) :: r => by
    simp only [setB]
    split
    · rename_i h; simp only [setB, h, if_true]
    · rename_i h; simp only [setB, h, Bool.false_eq_true, if_false, setB_setB i k k' r]
/-- A list in a block of its own, behind the set. -/
def FL (lo : Nat) (H : AH) (u : Value) (n : Nat) (g : Nat → Int) : Prop := (u = .slice none 0 0 ∧ n = 0) ∨ ∃ a cs, u = .slice (some ⟨a, 0, none⟩) n 1 ∧ lo < a ∧ a < H.next ∧ lookB H.bs a = some (.cells false cs) ∧ okC cs n = true ∧ g = gi cs ∧ 0 < n
/-- The memory while a small set is made. -/
structure KL (N p : Nat) (bs : List (Nat × ABlk)) (H : AH) (x : Int) (s : SV) (u1 u8 : Value) : Prop where
  mi : MI H
  nx : N + 1 < H.next
  pn : p < N
  src : lookB H.bs p = some (sB x)
  set : lookB H.bs (N + 1) = some (.cells false [.int .i64 s.p, u1, .int .i64 s.w, .int .i64 s.d, .int .i64 s.f, .int .i64 s.c, .int .i64 s.m, .int .i64 s.de, u8])
  res : lookB H.bs N = some (.cells false [.int .i64 0, .slice none 0 0, .int .i64 0, .int .i64 0, .int .i64 0, .int .i64 0, .int .i64 0, .int .i64 0, .slice none 0 0])
  old : ∀ j, j < N → j ≠ p → lookB H.bs j = lookB bs j
  l1 : FL (N + 1) H u1 s.n s.g
  l8 : FL (N + 1) H u8 s.k s.h
  dis : ∀ a b n k, u1 = .slice (some ⟨a, 0, none⟩) n 1 → u8 = .slice (some ⟨b, 0, none⟩) k 1 → a ≠ b
theorem FL.mono {lo : Nat} {H H' : AH} {u : Value} {n : Nat} {g : Nat → Int} (h : FL lo H u n g) (hn : H.next ≤ H'.next) (hl : ∀ a, u = .slice (some ⟨a, 0, none⟩) n 1 → lo < a → a < H.next → lookB H'.bs a = lookB H.bs a) : FL lo H' u n g := by
  rcases h with h | ⟨a, cs, h1, h2, h3, h4, h5⟩
  · exact .inl h
  · exact .inr ⟨a, cs, h1, h2, by omega, (hl a h1 h2 h3).trans h4, h5⟩
theorem KL.step {N p : Nat} {bs : List (Nat × ABlk)} {H : AH} {x y : Int} {s : SV} {u1 u8 : Value} (h : KL N p bs H x s u1 u8) : KL N p bs ⟨H.next, setB H.bs p (sB y)⟩ y s u1 u8 := by
  have hp := h.pn
  have e : ∀ j, j ≠ p → lookB (setB H.bs p (sB y)) j = lookB H.bs j := fun j hj => by rw [lookB_setB, if_neg hj]
  exact ⟨h.mi.set _ _, h.nx, h.pn, by rw [lookB_setB, if_pos rfl, h.src]; rfl, (e _ (by omega)).trans h.set, (e _ (by omega)).trans h.res, fun j h1 h2 => (e j h2).trans (h.old j h1 h2), h.l1.mono (Nat.le_refl _) fun a _ h2 _ => e a (by omega), h.l8.mono (Nat.le_refl _) fun a _ h2 _ => e a (by omega), h.dis⟩
theorem app_fl {lo n : Nat} {H : AH} {u : Value} {g : Nat → Int} (hM : MI H) (h : FL lo H u n g) (hn : n ≤ 200) : ∃ bs2, bs2.Sublist H.bs ∧ (∀ j, (∀ a, u = .slice (some ⟨a, 0, none⟩) n 1 → j ≠ a) → lookB bs2 j = lookB H.bs j) ∧ ∀ k : Int, ∃ cs, okC cs (n + 1) = true ∧ (∀ i, i < n → gi cs i = g i) ∧ gi cs n = k ∧
    aAppend (tabT Try.prog) ⟨H.next + 1, (H.next, .cells false [.int .i64 k]) :: H.bs⟩ 22 u (.slice (some ⟨H.next, 0, none⟩) 1 1) = some (.slice (some ⟨H.next + 1, 0, none⟩) (n + 1) 1, ⟨H.next + 2, (H.next + 1, .cells false cs) :: (H.next, .cells false [.int .i64 k]) :: bs2⟩) := by
  have tn : ∀ k : Int, takeCells [Value.int .i64 k] 0 1 = some [.int .i64 k] := fun _ => rfl
  rcases h with ⟨rfl, rfl⟩ | ⟨b, cs, rfl, hNb, hb, hl, hok, rfl, h0⟩
  · refine ⟨H.bs, List.Sublist.refl _, fun _ _ => rfl, fun k => ⟨[.int .i64 k], rfl, fun i hi => by omega, rfl, ?_⟩⟩
    rw [AP22]
    simp [sliceLen, srcCells, dstCells, lookB, tn, cellV]
  · refine ⟨dropB H.bs b, dropB_sub _ _, fun j hj => ?_, fun k => ⟨cs ++ [.int .i64 k], ?_, ?_, ?_, ?_⟩⟩
    · rw [lookB_dropB, if_neg (hj b rfl)]
    · have := okC_len hok
      simp only [okC, Bool.and_eq_true] at hok ⊢
      refine ⟨by simp [this], by simp [List.all_append, hok.2, isI]⟩
    · intro i hi
      have := okC_len hok
      unfold gi
      rw [List.getElem?_append_left (by omega)]
    · have := okC_len hok
      unfold gi
      rw [List.getElem?_append_right (by omega)]
      simp [this]
    · have hne : ¬ b = H.next := by omega
      have hne' : ¬ H.next = b := by omega
      have hlen := okC_len hok
      have ht : takeCells cs 0 n = some cs := by
        unfold takeCells
        rw [takeK_eq, dropR_eq, if_pos (by simp; omega)]
        simp only [List.drop_zero]
        rw [List.take_of_length_le (by omega)]
      have c1 : (n + 1) * 8 ≤ 1000000000000 := by omega
      have c2 : n ≤ 999999999999 := by omega
      rw [AP22]
      simp [sliceLen, srcCells, dstCells, lookB, cellV, hne, hne', hl, ht, tn, c1, c2, dropB, Nat.beq_eq]
/-- The list of suits grows. -/
theorem KL.app1 {N p : Nat} {bs : List (Nat × ABlk)} {H : AH} {x : Int} {s : SV} {u1 u8 : Value} (h : KL N p bs H x s u1 u8) (hn : s.n ≤ 200) : ∃ bs2, bs2.Sublist H.bs ∧ lookB bs2 (N + 1) = lookB H.bs (N + 1) ∧ lookB bs2 p = lookB H.bs p ∧ ∀ k : Int, ∃ cs, (∀ i, i < s.n → gi cs i = s.g i) ∧ gi cs s.n = k ∧
    aAppend (tabT Try.prog) ⟨H.next + 1, (H.next, .cells false [.int .i64 k]) :: H.bs⟩ 22 u1 (.slice (some ⟨H.next, 0, none⟩) 1 1) = some (.slice (some ⟨H.next + 1, 0, none⟩) (s.n + 1) 1, ⟨H.next + 2, (H.next + 1, .cells false cs) :: (H.next, .cells false [.int .i64 k]) :: bs2⟩) ∧
    KL N p bs ⟨H.next + 2, (H.next + 1, .cells false cs) :: (H.next, .cells false [.int .i64 k]) :: setB bs2 (N + 1) (.cells false [.int .i64 s.p, .slice (some ⟨H.next + 1, 0, none⟩) (s.n + 1) 1, .int .i64 s.w, .int .i64 s.d, .int .i64 s.f, .int .i64 s.c, .int .i64 s.m, .int .i64 s.de, u8])⟩ x { s with n := s.n + 1, g := gi cs } (.slice (some ⟨H.next + 1, 0, none⟩) (s.n + 1) 1) u8 := by
  have hp := h.pn
  have hx := h.nx
  obtain ⟨bs2, hs, hl, hap⟩ := app_fl h.mi h.l1 hn
  have out : ∀ j, j ≤ N + 1 → lookB bs2 j = lookB H.bs j := fun j hj => hl j fun a ha => by
    rcases h.l1 with ⟨e, _⟩ | ⟨b, cs, e, h2, _⟩
    · rw [e] at ha; cases ha
    · rw [e] at ha; cases ha; omega
  have M2 : MI ⟨H.next, bs2⟩ := h.mi.sub hs (Nat.le_refl _)
  refine ⟨bs2, hs, out _ (Nat.le_refl _), out _ (by omega), fun k => ?_⟩
  obtain ⟨cs, hok, hg, hk, e⟩ := hap k
  refine ⟨cs, hg, hk, e, ?_⟩
  have lk : ∀ j v, j < H.next → lookB ((H.next + 1, ABlk.cells false cs) :: (H.next, .cells false [.int .i64 k]) :: setB bs2 (N + 1) v) j = lookB (setB bs2 (N + 1) v) j := fun j v hj => by
    simp only [lookB, beq_ne (show ¬ j = H.next + 1 by omega), beq_ne (show ¬ j = H.next by omega), Bool.false_eq_true, if_false]
  have l2 : ∀ j v, j ≠ N + 1 → lookB (setB bs2 (N + 1) v) j = lookB bs2 j := fun j v hj => by rw [lookB_setB, if_neg hj]
  exact {
    mi := ((M2.set _ _).push _).push _
    nx := by show N + 1 < H.next + 2; omega
    pn := hp
    src := ((lk p _ (by omega)).trans (l2 p _ (by omega))).trans ((out p (by omega)).trans h.src)
    set := by
      show lookB ((H.next + 1, ABlk.cells false cs) :: (H.next, .cells false [.int .i64 k]) :: setB bs2 (N + 1) _) (N + 1) = _
      rw [lk (N + 1) _ (by omega), lookB_setB, if_pos rfl, out (N + 1) (Nat.le_refl _), h.set]; rfl
    res := ((lk N _ (by omega)).trans (l2 N _ (by omega))).trans ((out N (by omega)).trans h.res)
    old := fun j h1 h2 => ((lk j _ (by omega)).trans (l2 j _ (by omega))).trans ((out j (by omega)).trans (h.old j h1 h2))
    l1 := .inr ⟨H.next + 1, cs, rfl, by omega, by show H.next + 1 < H.next + 2; omega, by simp [lookB], hok, rfl, by show 0 < s.n + 1; omega⟩
    l8 := h.l8.mono (by show H.next ≤ H.next + 2; omega) fun a ha h2 h3 => (lk a _ h3).trans ((l2 a _ (by omega)).trans (hl a fun b hb => (h.dis b a _ _ hb ha).symm))
    dis := fun a b n k e1 e2 => by
      cases e1
      rcases h.l8 with ⟨e, _⟩ | ⟨b', cs', e, _, h3, _⟩
      · rw [e] at e2; cases e2
      · rw [e] at e2; cases e2; omega }
/-- The list of reds grows. -/
theorem KL.app8 {N p : Nat} {bs : List (Nat × ABlk)} {H : AH} {x : Int} {s : SV} {u1 u8 : Value} (h : KL N p bs H x s u1 u8) (hn : s.k ≤ 200) : ∃ bs2, bs2.Sublist H.bs ∧ lookB bs2 (N + 1) = lookB H.bs (N + 1) ∧ lookB bs2 p = lookB H.bs p ∧ ∀ k : Int, ∃ cs, (∀ i, i < s.k → gi cs i = s.h i) ∧ gi cs s.k = k ∧
    aAppend (tabT Try.prog) ⟨H.next + 1, (H.next, .cells false [.int .i64 k]) :: H.bs⟩ 22 u8 (.slice (some ⟨H.next, 0, none⟩) 1 1) = some (.slice (some ⟨H.next + 1, 0, none⟩) (s.k + 1) 1, ⟨H.next + 2, (H.next + 1, .cells false cs) :: (H.next, .cells false [.int .i64 k]) :: bs2⟩) ∧
    KL N p bs ⟨H.next + 2, (H.next + 1, .cells false cs) :: (H.next, .cells false [.int .i64 k]) :: setB bs2 (N + 1) (.cells false [.int .i64 s.p, u1, .int .i64 s.w, .int .i64 s.d, .int .i64 s.f, .int .i64 s.c, .int .i64 s.m, .int .i64 s.de, .slice (some ⟨H.next + 1, 0, none⟩) (s.k + 1) 1])⟩ x { s with k := s.k + 1, h := gi cs } u1 (.slice (some ⟨H.next + 1, 0, none⟩) (s.k + 1) 1) := by
  have hp := h.pn
  have hx := h.nx
  obtain ⟨bs2, hs, hl, hap⟩ := app_fl h.mi h.l8 hn
  have out : ∀ j, j ≤ N + 1 → lookB bs2 j = lookB H.bs j := fun j hj => hl j fun a ha => by
    rcases h.l8 with ⟨e, _⟩ | ⟨b, cs, e, h2, _⟩
    · rw [e] at ha; cases ha
    · rw [e] at ha; cases ha; omega
  have M2 : MI ⟨H.next, bs2⟩ := h.mi.sub hs (Nat.le_refl _)
  refine ⟨bs2, hs, out _ (Nat.le_refl _), out _ (by omega), fun k => ?_⟩
  obtain ⟨cs, hok, hg, hk, e⟩ := hap k
  refine ⟨cs, hg, hk, e, ?_⟩
  have lk : ∀ j v, j < H.next → lookB ((H.next + 1, ABlk.cells false cs) :: (H.next, .cells false [.int .i64 k]) :: setB bs2 (N + 1) v) j = lookB (setB bs2 (N + 1) v) j := fun j v hj => by
    simp only [lookB, beq_ne (show ¬ j = H.next + 1 by omega), beq_ne (show ¬ j = H.next by omega), Bool.false_eq_true, if_false]
  have l2 : ∀ j v, j ≠ N + 1 → lookB (setB bs2 (N + 1) v) j = lookB bs2 j := fun j v hj => by rw [lookB_setB, if_neg hj]
  exact {
    mi := ((M2.set _ _).push _).push _
    nx := by show N + 1 < H.next + 2; omega
    pn := hp
    src := ((lk p _ (by omega)).trans (l2 p _ (by omega))).trans ((out p (by omega)).trans h.src)
    set := by
      show lookB ((H.next + 1, ABlk.cells false cs) :: (H.next, .cells false [.int .i64 k]) :: setB bs2 (N + 1) _) (N + 1) = _
      rw [lk (N + 1) _ (by omega), lookB_setB, if_pos rfl, out (N + 1) (Nat.le_refl _), h.set]; rfl
    res := ((lk N _ (by omega)).trans (l2 N _ (by omega))).trans ((out N (by omega)).trans h.res)
    old := fun j h1 h2 => ((lk j _ (by omega)).trans (l2 j _ (by omega))).trans ((out j (by omega)).trans (h.old j h1 h2))
    l8 := .inr ⟨H.next + 1, cs, rfl, by omega, by show H.next + 1 < H.next + 2; omega, by simp [lookB], hok, rfl, by show 0 < s.k + 1; omega⟩
    l1 := h.l1.mono (by show H.next ≤ H.next + 2; omega) fun a ha h2 h3 => (lk a _ h3).trans ((l2 a _ (by omega)).trans (hl a fun b hb => h.dis a b _ _ ha hb))
    dis := fun a b n k e1 e2 => by
      cases e2
      rcases h.l1 with ⟨e, _⟩ | ⟨b', cs', e, _, h3, _⟩
      · rw [e] at e1; cases e1
      · rw [e] at e1; cases e1; omega }
theorem FL.lst {lo : Nat} {H : AH} {u : Value} {n : Nat} {g : Nat → Int} (h : FL lo H u n g) : Lst H.bs u n g := by
  rcases h with h | ⟨a, cs, h1, _, _, h4, h5, h6, _⟩
  · exact .inl h
  · exact .inr ⟨a, false, cs, h1, h4, h5, h6⟩
theorem KL.up {N p : Nat} {bs : List (Nat × ABlk)} {H : AH} {x : Int} {s : SV} {u1 u8 : Value} (h : KL N p bs H x s u1 u8) {nx : Nat} (hn : H.next ≤ nx) : KL N p bs ⟨nx, H.bs⟩ x s u1 u8 :=
  ⟨⟨h.mi.1, fun q hq => Nat.lt_of_lt_of_le (h.mi.2 q hq) hn⟩, Nat.lt_of_lt_of_le h.nx hn, h.pn, h.src, h.set, h.res, h.old, h.l1.mono hn fun _ _ _ _ => rfl, h.l8.mono hn fun _ _ _ _ => rfl, h.dis⟩
theorem KL.put {N p : Nat} {bs : List (Nat × ABlk)} {H : AH} {x : Int} {s : SV} {u1 u8 : Value} (h : KL N p bs H x s u1 u8) (s' : SV) (hn : s'.n = s.n) (hg : s'.g = s.g) (hk : s'.k = s.k) (hh : s'.h = s.h) : KL N p bs ⟨H.next, setB H.bs (N + 1) (.cells false [.int .i64 s'.p, u1, .int .i64 s'.w, .int .i64 s'.d, .int .i64 s'.f, .int .i64 s'.c, .int .i64 s'.m, .int .i64 s'.de, u8])⟩ x s' u1 u8 := by
  have hp := h.pn
  have e : ∀ j v, j ≠ N + 1 → lookB (setB H.bs (N + 1) v) j = lookB H.bs j := fun j v hj => by rw [lookB_setB, if_neg hj]
  exact ⟨h.mi.set _ _, h.nx, h.pn, (e _ _ (by omega)).trans h.src, by rw [lookB_setB, if_pos rfl, h.set]; rfl, (e _ _ (by omega)).trans h.res, fun j h1 h2 => (e j _ (by omega)).trans (h.old j h1 h2), by rw [hn, hg]; exact h.l1.mono (Nat.le_refl _) fun a _ h2 _ => e a _ (by omega), by rw [hk, hh]; exact h.l8.mono (Nat.le_refl _) fun a _ h2 _ => e a _ (by omega), h.dis⟩

end

section
set_option linter.unusedSimpArgs false
set_option linter.unusedVariables false

theorem no3 (x0 x1 x2 : Int) (h0 : 18446742845348904960 ≤ x0) (g0 : x0 < 18446744073709551616) (e1 : x1 = (6364136223846793005 * x0 + 1442695040888963407) % 18446744073709551616) (e2 : x2 = (6364136223846793005 * x1 + 1442695040888963407) % 18446744073709551616) (h1 : 18446742845348904960 ≤ x1) (h2 : 18446742845348904960 ≤ x2) : False := by
  have g1 : x1 < 18446744073709551616 := by omega
  have g2 : x2 < 18446744073709551616 := by omega
  obtain ⟨q0, hq0⟩ : ∃ q0 : Int, x1 = 6364136223846793005 * x0 + 1442695040888963407 - 18446744073709551616 * q0 := ⟨(6364136223846793005 * x0 + 1442695040888963407) / 18446744073709551616, by omega⟩
  obtain ⟨q1, hq1⟩ : ∃ q1 : Int, x2 = 6364136223846793005 * x1 + 1442695040888963407 - 18446744073709551616 * q1 := ⟨(6364136223846793005 * x1 + 1442695040888963407) / 18446744073709551616, by omega⟩
  have key : 3213406 * x0 + (-241617) * x1 + 4015367 * x2 = 18446744073709551616 * (8816261374873124290545556 * x0 - (25554342576739025687866218) * q0 - 4015367 * q1) + 36867123308639087180773214175753986042160095 := by omega
  clear e1 e2 hq0 hq1
  have lo : 128890269655543859021611008 ≤ 3213406 * x0 + (-241617) * x1 + 4015367 * x2 := by clear key; omega
  have hi : 3213406 * x0 + (-241617) * x1 + 4015367 * x2 ≤ 128890278831876950194126848 := by clear key; omega
  generalize (8816261374873124290545556 * x0 - (25554342576739025687866218) * q0 - 4015367 * q1) = t at key
  generalize 3213406 * x0 + (-241617) * x1 + 4015367 * x2 = z at key lo hi
  clear h0 g0 h1 h2 g1 g2
  omega

noncomputable def stepW (x : Int) : Int := wrapI .u64 (wrapI .u64 (x * 6364136223846793005) + 1442695040888963407)
theorem stepW_eq (x : Int) : stepW x = (6364136223846793005 * x + 1442695040888963407) % 18446744073709551616 := by
  simp only [stepW, wrapI]; omega
theorem stepW_bd (x : Int) : 0 ≤ stepW x ∧ stepW x < 18446744073709551616 := by
  rw [stepW_eq]; omega
noncomputable def wd (x : Int) : Int := x.fdiv 8589934592
theorem wd_eq (x : Int) : wd x = x / 8589934592 := Int.fdiv_eq_ediv_of_nonneg x (by omega)
theorem wd_bd (x : Int) : 0 ≤ wd (stepW x) ∧ wd (stepW x) < 2147483648 := by
  have := stepW_bd x
  rw [wd_eq]; omega
noncomputable def lim (n : Nat) : Int := 2147483648 - 2147483648 % (n : Int)
noncomputable def it : Nat → Int → Int
  | 0, x => x
  | k + 1, x => stepW (it k x)
noncomputable def nxs (n : Nat) (x : Int) : Int := if wd (it 1 x) < lim n then it 1 x else if wd (it 2 x) < lim n then it 2 x else it 3 x
theorem lim_bd {n : Nat} (h1 : 1 ≤ n) (h2 : n ≤ 144) : 2147483505 ≤ lim n ∧ lim n ≤ 2147483648 := by
  have h := Int.emod_lt_of_pos 2147483648 (show (0 : Int) < n by omega)
  have h0 := Int.emod_nonneg 2147483648 (show (n : Int) ≠ 0 by omega)
  unfold lim; omega
theorem it3_lt {n : Nat} (h1 : 1 ≤ n) (h2 : n ≤ 144) (x : Int) (a1 : ¬ wd (it 1 x) < lim n) (a2 : ¬ wd (it 2 x) < lim n) : wd (it 3 x) < lim n := by
  have hl := lim_bd h1 h2
  have b1 := stepW_bd x
  have b2 := stepW_bd (it 1 x)
  have b3 := stepW_bd (it 2 x)
  rcases Int.lt_or_le (wd (it 3 x)) (lim n) with h | h
  · exact h
  · exfalso
    simp only [it] at *
    rw [wd_eq] at a1 a2 h
    exact no3 (stepW x) (stepW (stepW x)) (stepW (stepW (stepW x))) (by omega) b1.2 (stepW_eq _) (stepW_eq _) (by omega) (by omega)
theorem nxs_lt {n : Nat} (h1 : 1 ≤ n) (h2 : n ≤ 144) (x : Int) : wd (nxs n x) < lim n := by
  unfold nxs
  split
  · assumption
  · split
    · assumption
    · exact it3_lt h1 h2 x (by assumption) (by assumption)
theorem nxs_it {n k : Nat} {x : Int} (hk : k ≤ 2) (ha : wd (it (k + 1) x) < lim n) (hb : ∀ j, 1 ≤ j → j ≤ k → ¬ wd (it j x) < lim n) : it (k + 1) x = nxs n x := by
  unfold nxs
  match k with
  | 0 => rw [if_pos ha]
  | 1 => rw [if_neg (hb 1 (by omega) (by omega)), if_pos ha]
  | 2 => rw [if_neg (hb 1 (by omega) (by omega)), if_neg (hb 2 (by omega) (by omega))]
  | k + 3 => omega
/-- The number that is drawn. -/
noncomputable def drw (n : Nat) (x : Int) : Nat := (wd (nxs n x)).toNat % n
theorem nxs_bd (n : Nat) (x : Int) : 0 ≤ wd (nxs n x) ∧ wd (nxs n x) < 2147483648 := by
  unfold nxs
  split
  · exact wd_bd _
  · split
    · exact wd_bd _
    · exact wd_bd _
theorem drw_lt {n : Nat} (h : 1 ≤ n) (x : Int) : drw n x < n := Nat.mod_lt _ h
theorem drw_eq {n : Nat} (h1 : 1 ≤ n) (h2 : n ≤ 144) (x : Int) : (wd (nxs n x)).tmod n = (drw n x : Int) := by
  have h := nxs_bd n x
  have : wd (nxs n x) = ((wd (nxs n x)).toNat : Int) := by omega
  rw [this]
  unfold drw
  rw [← Int.ofNat_tmod]
theorem wrapU {n : Nat} (h : n ≤ 144) : wrapI .u64 (n : Int) = n := by simp only [wrapI]; omega
theorem tmodL (n : Nat) : (2147483648 : Int).tmod n = 2147483648 % (n : Int) := Int.tmod_eq_emod_of_nonneg (by omega)
theorem limP {n : Nat} (h1 : 1 ≤ n) (h2 : n ≤ 144) : wrapI .u64 (2147483648 - (2147483648 : Int).tmod n) = lim n := by
  have := lim_bd h1 h2
  rw [tmodL]
  unfold lim at *
  simp only [wrapI]; omega
theorem limR {n : Nat} (h1 : 1 ≤ n) (h2 : n ≤ 144) : wrapI .i64 (wrapI .i64 ((2147483648 : Int).tdiv n) * n) = lim n := by
  have hb := lim_bd h1 h2
  have e : (2147483648 : Int).tdiv n = 2147483648 / (n : Int) := Int.tdiv_eq_ediv_of_nonneg (by omega)
  have hd := Int.emod_add_mul_ediv 2147483648 (n : Int)
  have q0 : (0 : Int) ≤ 2147483648 / (n : Int) := Int.ediv_nonneg (by omega) (by omega)
  have q1 : 2147483648 / (n : Int) ≤ 2147483648 := Int.ediv_le_self _ (by omega)
  have e2 : 2147483648 / (n : Int) * n = lim n := by
    unfold lim
    rw [Int.mul_comm]; omega
  have w1 : wrapI .i64 (2147483648 / (n : Int)) = 2147483648 / (n : Int) := wrapI_small (by omega) (by omega)
  rw [e, w1, e2, wrapI_small (by omega) (by omega)]
theorem SH33 (x : Int) : shOp .shr .u64 x 33 = some (.int .u64 (wd x)) := by
  simp [shOp, IntKind.bits, wd]
theorem wdI (x : Int) : wrapI .i64 (wd (stepW x)) = wd (stepW x) := by
  have := wd_bd x
  exact wrapI_small (by omega) (by omega)


end

section
set_option linter.unusedSimpArgs false
set_option linter.unusedVariables false

theorem Nnext : ((tabT Try.prog) 123).map (fun z => (z.ex.nat 100, z.ex.mnz 100)) = some (none, none) := by kernel_rfl
theorem Cnext (call : Value → List Value → AH → Option (Value × AH)) {tm : Tm} {i : Nat} {H : AH} {d : Option Tmp} {t : TypeId} {p : String} {a : Array Edge} {gd : Option (Nat × Bool)} : evOp (tabT Try.prog) call ⟨d, .call ⟨.value (.func 100), #[.tmp i], #[123]⟩, t, p, a, gd⟩ (opd tm) H = call (.func (.func 100) #[] #[]) [tm.get i] H :=
  evOp_evO.trans (eo_call1 rfl rfl Nnext)
theorem Ndraw : ((tabT Try.prog) 108).map (fun z => z.ex.nat 96) = some none := by kernel_rfl
theorem Cdraw (call : Value → List Value → AH → Option (Value × AH)) {tm : Tm} {i j : Nat} {H : AH} {d : Option Tmp} {t : TypeId} {p : String} {a : Array Edge} {gd : Option (Nat × Bool)} : evOp (tabT Try.prog) call ⟨d, .call ⟨.value (.func 96), #[.tmp i, .tmp j], #[108, 3]⟩, t, p, a, gd⟩ (opd tm) H = call (.func (.func 96) #[] #[]) [tm.get i, tm.get j] H :=
  evOp_evO.trans (eo_call2n rfl rfl rfl Ndraw)
theorem LD40 (H : AH) (i off : Nat) : aLoad (tabT Try.prog) H 108 (.pointer (some ⟨i, off, none⟩)) = cellAt H.bs i off := ldc (by kernel_rfl) H i off
theorem ST40 (H : AH) (i off : Nat) (v : Value) : aStore (tabT Try.prog) H 108 (.pointer (some ⟨i, off, none⟩)) v = match lookB H.bs i with
    | some (.cells false cs) => if Nat.beq v.cells.toList.length 1 && Nat.ble (off + v.cells.toList.length) cs.length && v.cells.toList.all cellV then some { H with bs := setB H.bs i (.cells false (putF cs off v.cells.toList)) } else none
    | _ => none := sti (by kernel_rfl) H i off v
theorem ST3W (H : AH) (i off : Nat) (v : Value) : aStore (tabT Try.prog) H 3 (.pointer (some ⟨i, off, none⟩)) v = match lookB H.bs i with
    | some (.cells false cs) => if Nat.beq v.cells.toList.length 1 && Nat.ble (off + v.cells.toList.length) cs.length && v.cells.toList.all cellV then some { H with bs := setB H.bs i (.cells false (putF cs off v.cells.toList)) } else none
    | _ => none := sti (by kernel_rfl) H i off v
theorem CV3_25 (call : Value → List Value → AH → Option (Value × AH)) {tm : Tm} {j : Nat} {H : AH} {d : Option Tmp} {t : TypeId} {p : String} {a : Array Edge} {gd : Option (Nat × Bool)} : evOp (tabT Try.prog) call ⟨d, .convert 3 48 (.tmp j), t, p, a, gd⟩ (opd tm) H = match tm.get j with | .int _ n => some (.int .u64 (wrapI .u64 n), H) | _ => evO (tabT Try.prog) call (.convert 3 48 (.tmp j)) (opd tm) H := by
  rw [evOp_evO]
  split
  · rename_i kk n h
    refine evO_v ?_
    rw [cvt (k := .u64) (by kernel_rfl) (by kernel_rfl)]
    simp only [opd_tmp, h]
  · rfl
theorem CV25_3 (call : Value → List Value → AH → Option (Value × AH)) {tm : Tm} {j : Nat} {H : AH} {d : Option Tmp} {t : TypeId} {p : String} {a : Array Edge} {gd : Option (Nat × Bool)} : evOp (tabT Try.prog) call ⟨d, .convert 48 3 (.tmp j), t, p, a, gd⟩ (opd tm) H = match tm.get j with | .int _ n => some (.int .i64 (wrapI .i64 n), H) | _ => evO (tabT Try.prog) call (.convert 48 3 (.tmp j)) (opd tm) H := by
  rw [evOp_evO]
  split
  · rename_i kk n h
    refine evO_v ?_
    rw [cvt (k := .i64) (by kernel_rfl) (by kernel_rfl)]
    simp only [opd_tmp, h]
  · rfl
theorem kp42 : (kpT 100, gcT 100) = (true, false) := by kernel_rfl
theorem kp31 : (kpT 96, gcT 96) = (true, false) := by kernel_rfl
theorem putF1 (u v : Value) : putF [u] 0 [v] = [v] := rfl
noncomputable def wB (x : Int) : ABlk := .cells false [.int .u64 x]
set_option maxRecDepth 10000 in
set_option maxHeartbeats 8000000 in
theorem next_ev (call : Value → List Value → AH → Option (Value × AH)) (p N : Nat) (bs : List (Nat × ABlk)) (x : Int) (h : lookB bs p = some (wB x)) :
    evFn (tabT Try.prog) call 300 kpT 100 Try.f100 [.pointer (some ⟨p, 0, none⟩)] ⟨N, bs⟩ = some (.int .u64 (wd (stepW x)), ⟨N, setB bs p (wB (stepW x))⟩) := by
  have kp := kp42
  simp only [Prod.mk.injEq] at kp
  obtain ⟨kp1, kp2⟩ := kp
  have sh := SH33 (stepW x)
  simp only [stepW] at sh
  unfold wB at h
  simp only [evFn, Try.f100]
  simp [ec_skip, ec_label, ek_reg, ek_draw, ek_seq, ec_cond, ek_block, ec_loop, ec_exit, ec_ret, ec_scope, ek_nil, ek_op, opK_some, regK_some, seqK_normal, seqK_exit, seqK_ret, blockK_normal, blockK_exit, blockK_ret, evOp, vOp, hOpB, hOpU, hOp, hOpT, aAppendG_tab, aWanted, aYielded, opd, putT, closedV, aBin, intOp, sameK, mapO, joinR, hasAddr, boundOf, pushB, aAlloc, Value.cells, lookB, setB, Nat.beq_eq, tm_n_set, tm_get_set, tm_of_n, tm_of_get, tm_tr_set, tm_tr_of, cellV, putF, appR_eq, takeR_eq, dropR_eq, setR_eq, getR_eq, ↓C75, ↓C76, ↓C77, ↓C79, ↓C17, ↓C18, ↓C22, ↓C71, FA24_0, FA24_1, FA24_2, FA24_3, FA24_4, FA24_5, FA24_6, FA24_7, FA24_8, LD3, LD4, LD22, LD27, LDr, LD24, LEN22, IA22, tkc, cellAt, LD40, ST40, h, lookB_setB, sh, wB, stepW, finF, takeM, resV, cleanedG, hasAddr, kp1, kp2]
noncomputable def IDr (p N : Nat) (bs : List (Nat × ABlk)) (x : Int) (n : Nat) (m : Nat) (A : AF) (H : AH) : Prop := ∃ k : Nat, k + m = 2 ∧ A.tm.n = 22 ∧ A.marks = [] ∧ A.tm.get 6 = .int .u64 (wd (it (k + 1) x)) ∧ A.tm.get 5 = .int .u64 (n : Int) ∧ A.tm.get 0 = .pointer (some ⟨p, 0, none⟩) ∧ H = ⟨N, setB bs p (wB (it (k + 1) x))⟩ ∧ ∀ j, 1 ≤ j → j ≤ k → ¬ wd (it j x) < lim n
noncomputable def QDr (p N : Nat) (bs : List (Nat × ABlk)) (x : Int) (n : Nat) (y : AX) (A' : AF) (H : AH) : Prop := y = .exit 0 ∧ A'.tm.n = 22 ∧ A'.marks = [] ∧ A'.tm.get 6 = .int .u64 (wd (nxs n x)) ∧ A'.tm.get 5 = .int .u64 (n : Int) ∧ H = ⟨N, setB bs p (wB (nxs n x))⟩
set_option maxRecDepth 10000 in
set_option maxHeartbeats 8000000 in
theorem draw_ev (call : Value → List Value → AH → Option (Value × AH)) (p N : Nat) (bs : List (Nat × ABlk)) (x : Int) (n : Nat) (h1 : 1 ≤ n) (h2 : n ≤ 144) (h : lookB bs p = some (wB x))
    (hnext : ∀ (bs : List (Nat × ABlk)) (y : Int), lookB bs p = some (wB y) → call (.func (.func 100) #[] #[]) [.pointer (some ⟨p, 0, none⟩)] ⟨N, bs⟩ = some (.int .u64 (wd (stepW y)), ⟨N, setB bs p (wB (stepW y))⟩)) :
    evFn (tabT Try.prog) call 300 kpT 96 Try.f96 [.pointer (some ⟨p, 0, none⟩), .int .i64 (n : Int)] ⟨N, bs⟩ = some (.int .i64 (drw n x : Int), ⟨N, setB bs p (wB (nxs n x))⟩) := by
  have kp := kp31
  simp only [Prod.mk.injEq] at kp
  obtain ⟨kp1, kp2⟩ := kp
  have wu := wrapU h2
  have lp := limP h1 h2
  have n0 : ¬ (n : Int) = 0 := by omega
  have nz : ¬ n = 0 := by omega
  have hn := hnext bs x h
  simp only [evFn, Try.f96]
  simp [ec_skip, ec_label, ek_reg, ek_draw, ek_seq, ec_cond, ek_block, ec_loop, ec_exit, ec_ret, ec_scope, ek_nil, ek_op, opK_some, regK_some, seqK_normal, seqK_exit, seqK_ret, blockK_normal, blockK_exit, blockK_ret, evOp, vOp, hOpB, hOpU, hOp, hOpT, aAppendG_tab, aWanted, aYielded, opd, putT, closedV, aBin, intOp, sameK, mapO, joinR, hasAddr, boundOf, pushB, aAlloc, Value.cells, lookB, setB, Nat.beq_eq, tm_n_set, tm_get_set, tm_of_n, tm_of_get, tm_tr_set, tm_tr_of, cellV, putF, appR_eq, takeR_eq, dropR_eq, setR_eq, getR_eq, ↓C75, ↓C76, ↓C77, ↓C79, ↓C17, ↓C18, ↓C22, ↓C71, FA24_0, FA24_1, FA24_2, FA24_3, FA24_4, FA24_5, FA24_6, FA24_7, FA24_8, LD3, LD4, LD22, LD27, LDr, LD24, LEN22, IA22, tkc, cellAt, ↓Cnext, ↓CV3_25, wu, hn]
  generalize hr : evLoop _ _ _ _ = r
  obtain ⟨y, A', H', rfl, rfl, hl, hmk, g6, g5, rfl⟩ := loop_go (Q := QDr p N bs x n) hr (IDr p N bs x n) 2 (by omega) ⟨0, by omega, rfl, rfl, rfl, rfl, rfl, rfl, fun j a b => by omega⟩ (by
    clear hr
    rintro m A H' ⟨k, hkm, hl, hmk, g6, g5, g0, rfl, hrej⟩
    simp only [runC]
    by_cases hacc : wd (it (k + 1) x) < lim n
    · have e := nxs_it (n := n) (x := x) (k := k) (by omega) hacc hrej
      have hge : ¬ lim n ≤ wd (it (k + 1) x) := by omega
      simp [ec_skip, ec_label, ek_reg, ek_draw, ek_seq, ec_cond, ek_block, ec_loop, ec_exit, ec_ret, ec_scope, ek_nil, ek_op, opK_some, regK_some, seqK_normal, seqK_exit, seqK_ret, blockK_normal, blockK_exit, blockK_ret, evOp, vOp, hOpB, hOpU, hOp, hOpT, aAppendG_tab, aWanted, aYielded, opd, putT, closedV, aBin, intOp, sameK, mapO, joinR, hasAddr, boundOf, pushB, aAlloc, Value.cells, lookB, setB, Nat.beq_eq, tm_n_set, tm_get_set, tm_of_n, tm_of_get, tm_tr_set, tm_tr_of, cellV, putF, appR_eq, takeR_eq, dropR_eq, setR_eq, getR_eq, ↓C75, ↓C76, ↓C77, ↓C79, ↓C17, ↓C18, ↓C22, ↓C71, FA24_0, FA24_1, FA24_2, FA24_3, FA24_4, FA24_5, FA24_6, FA24_7, FA24_8, LD3, LD4, LD22, LD27, LDr, LD24, LEN22, IA22, tkc, cellAt, hl, hmk, g6, g5, g0, lp, n0, nz, hge]
      refine .inr ⟨by simp, rfl, by simp [tm_n_set, hl], rfl, by simp [tm_get_set, tm_n_set, hl, g6, e], by simp [tm_get_set, tm_n_set, hl, g5], by simp [e]⟩
    · cases m with
      | zero =>
        obtain rfl : k = 2 := by omega
        exact absurd (it3_lt h1 h2 x (hrej 1 (by omega) (by omega)) (hrej 2 (by omega) (by omega))) hacc
      | succ m =>
        have hge : lim n ≤ wd (it (k + 1) x) := by omega
        have hn2 := hnext (setB bs p (wB (it (k + 1) x))) (it (k + 1) x) (by simp [lookB_setB, h])
        rw [setB_setB] at hn2
        simp [ec_skip, ec_label, ek_reg, ek_draw, ek_seq, ec_cond, ek_block, ec_loop, ec_exit, ec_ret, ec_scope, ek_nil, ek_op, opK_some, regK_some, seqK_normal, seqK_exit, seqK_ret, blockK_normal, blockK_exit, blockK_ret, evOp, vOp, hOpB, hOpU, hOp, hOpT, aAppendG_tab, aWanted, aYielded, opd, putT, closedV, aBin, intOp, sameK, mapO, joinR, hasAddr, boundOf, pushB, aAlloc, Value.cells, lookB, setB, Nat.beq_eq, tm_n_set, tm_get_set, tm_of_n, tm_of_get, tm_tr_set, tm_tr_of, cellV, putF, appR_eq, takeR_eq, dropR_eq, setR_eq, getR_eq, ↓C75, ↓C76, ↓C77, ↓C79, ↓C17, ↓C18, ↓C22, ↓C71, FA24_0, FA24_1, FA24_2, FA24_3, FA24_4, FA24_5, FA24_6, FA24_7, FA24_8, LD3, LD4, LD22, LD27, LDr, LD24, LEN22, IA22, tkc, cellAt, ↓Cnext, hl, hmk, g6, g5, g0, lp, n0, nz, hge, hn2]
        refine .inl ⟨rfl, m, rfl, k + 1, by omega, ?_⟩
        simp [tm_get_set, tm_n_set, hl, g5, g0, hmk, it]
        intro j a b
        by_cases hj : j = k + 1
        · subst hj; simpa using hacc
        · simpa using hrej j a (by omega))
  have dq := drw_eq h1 h2 x
  have wq : wrapI .i64 (drw n x : Int) = drw n x := by
    have := drw_lt h1 x
    exact wrapI_small (by omega) (by omega)
  simp [ec_skip, ec_label, ek_reg, ek_draw, ek_seq, ec_cond, ek_block, ec_loop, ec_exit, ec_ret, ec_scope, ek_nil, ek_op, opK_some, regK_some, seqK_normal, seqK_exit, seqK_ret, blockK_normal, blockK_exit, blockK_ret, evOp, vOp, hOpB, hOpU, hOp, hOpT, aAppendG_tab, aWanted, aYielded, opd, putT, closedV, aBin, intOp, sameK, mapO, joinR, hasAddr, boundOf, pushB, aAlloc, Value.cells, lookB, setB, Nat.beq_eq, tm_n_set, tm_get_set, tm_of_n, tm_of_get, tm_tr_set, tm_tr_of, cellV, putF, appR_eq, takeR_eq, dropR_eq, setR_eq, getR_eq, ↓C75, ↓C76, ↓C77, ↓C79, ↓C17, ↓C18, ↓C22, ↓C71, FA24_0, FA24_1, FA24_2, FA24_3, FA24_4, FA24_5, FA24_6, FA24_7, FA24_8, LD3, LD4, LD22, LD27, LDr, LD24, LEN22, IA22, tkc, cellAt, ↓CV25_3, hl, hmk, g6, g5, n0, nz, dq, wq, finF, takeM, resV, cleanedG, hasAddr, kp1, kp2]



end

section
set_option linter.unusedSimpArgs false
set_option linter.unusedVariables false

theorem kp14 : (kpT 81, gcT 81) = (false, false) := by kernel_rfl

noncomputable def IRd (x : Int) (n : Nat) (H0 : AH) (m : Nat) (A : AF) (H : AH) : Prop := ∃ k : Nat, k + m = 2 ∧ A.tm.n = 26 ∧ A.marks = [] ∧ A.tm.get 0 = .int .u64 (it k x) ∧ A.tm.get 1 = .int .i64 (n : Int) ∧ A.tm.get 6 = .int .i64 (lim n) ∧ H = H0 ∧ ∀ j, 1 ≤ j → j ≤ k → ¬ wd (it j x) < lim n
noncomputable def QRd (x : Int) (n : Nat) (H0 : AH) (y : AX) (A' : AF) (H : AH) : Prop := y = .ret ∧ A'.tm.n = 26 ∧ A'.marks = [] ∧ A'.tm.get 4 = .int .i64 (drw n x : Int) ∧ A'.tm.get 5 = .int .u64 (nxs n x) ∧ H = H0
def upd (f : Nat → Int) (i : Nat) (v : Int) : Nat → Int := fun k => if k = i then v else f k
def swp (f : Nat → Int) (i j : Nat) : Nat → Int := upd (upd f i (f j)) j (f i)
theorem intsL_set (f : Nat → Int) (n i : Nat) (v : Int) : (intsL f n).set i (.int .i64 v) = intsL (upd f i v) n := by
  apply List.ext_getElem?
  intro k
  rw [List.getElem?_set, intsL_len]
  by_cases hk : k < n
  · by_cases e : i = k
    · subst e; rw [if_pos rfl, if_pos hk]; rw [intsL_at _ _ _ hk]; simp only [upd, if_true]
    · rw [if_neg e, intsL_at _ _ _ hk, intsL_at _ _ _ hk]
      have e' : ¬ k = i := fun h => e h.symm
      simp only [upd, e', if_false]
  · rw [List.getElem?_eq_none (l := intsL (upd f i v) n) (by rw [intsL_len]; omega), List.getElem?_eq_none (l := intsL f n) (by rw [intsL_len]; omega)]
    split
    · rename_i e; subst e; rw [if_neg hk]
    · rfl
/-- The exchanges of a shuffle, from place i on downwards. -/
noncomputable def shF : Nat → (Nat → Int) → Int → (Nat → Int) × Int
  | 0, f, x => (f, x)
  | i + 1, f, x => shF i (swp f (i + 1) (drw (i + 2) x)) (nxs (i + 2) x)
noncomputable def arrB (f : Nat → Int) : ABlk := .cells false (intsL f 144)



end

section
set_option linter.unusedSimpArgs false
set_option linter.unusedVariables false


theorem ixr {T : TypeId → Option TI} {t e : TypeId} {len : Nat} (h1 : (T t).map (·.desc) = some (.array len e)) (h2 : (T e).map (·.size) = some 1) (i k : Nat) (h : k < len) : aIndexAddr T t (.pointer (some ⟨i, 0, none⟩)) (.int .i64 (k : Int)) = some (.pointer (some ⟨i, k, none⟩)) := by
  obtain ⟨_, _, _, _, ht⟩ := tdesc h1
  cases he : T e with
  | none => rw [he] at h2; cases h2
  | some q =>
    rw [he] at h2
    simp only [Option.map_some, Option.some.injEq] at h2
    have hb : Nat.blt k len = true := by simpa [Nat.blt_eq] using h
    simp [aIndexAddr, natV, ht, he, h2, hb]
theorem IX38 (i k : Nat) (h : k < 144) : aIndexAddr (tabT Try.prog) 106 (.pointer (some ⟨i, 0, none⟩)) (.int .i64 (k : Int)) = some (.pointer (some ⟨i, k, none⟩)) := ixr (e := 3) (by kernel_rfl) (by kernel_rfl) i k h
theorem LD38 (H : AH) (i off : Nat) : aLoad (tabT Try.prog) H 106 (.pointer (some ⟨i, off, none⟩)) = match lookB H.bs i with | some (.cells _ cs) => (takeCells cs off 144).map (fun l => .agg l.toArray) | _ => none := lda (by kernel_rfl) H i off
theorem AL38 {call : Value → List Value → AH → Option (Value × AH)} {g : Operand → Option Value} {H : AH} {d : Option Tmp} {t : TypeId} {p : String} {a : Array Edge} {gd : Option (Nat × Bool)} : evOp (tabT Try.prog) call ⟨d, .alloc 106, t, p, a, gd⟩ g H = some (.pointer (some ⟨H.next, 0, none⟩), ⟨H.next + 1, (H.next, .cells false (intsL (fun _ => 0) 144)) :: H.bs⟩) :=
  evOp_evO.trans (eo_alloc (cs := intsL (fun _ => 0) 144) (by kernel_rfl))
theorem intsL_all (f : Nat → Int) (n : Nat) : (intsL f n).all cellV = true := by
  simp [intsL, cellV]
theorem putF_all {cs l : List Value} (h : l.length = cs.length) : putF cs 0 l = l := by
  rw [putF_eq (by omega)]
  apply List.ext_getElem?
  intro k
  rw [putCells_get _ _ _ _ (by omega)]
  by_cases hk : k < l.length
  · rw [if_pos (by omega), Nat.sub_zero]
  · rw [if_neg (by omega), List.getElem?_eq_none (by omega), List.getElem?_eq_none (by omega)]
theorem ST38 {H : AH} {i : Nat} {f0 : Nat → Int} (h : lookB H.bs i = some (.cells false (intsL f0 144))) (f : Nat → Int) : aStore (tabT Try.prog) H 106 (.pointer (some ⟨i, 0, none⟩)) (.agg ⟨intsL f 144⟩) = some { H with bs := setB H.bs i (.cells false (intsL f 144)) } := by
  rw [sti (z := 144) (by kernel_rfl)]
  simp only [h, Value.cells]
  have hl := intsL_len f 144
  have h0 := intsL_len f0 144
  have ha := intsL_all f 144
  generalize intsL f 144 = L at *
  generalize intsL f0 144 = L0 at *
  rw [putF_all (by omega)]
  simp [hl, h0, ha]
theorem tk144 (f : Nat → Int) : takeCells (intsL f 144) 0 144 = some (intsL f 144) := by
  rw [tkc]
  have hl := intsL_len f 144
  generalize intsL f 144 = L at *
  simp [hl, List.take_of_length_le]

theorem hasAddr_ints (f : Nat → Int) (n d : Nat) : hasAddr (d + 2) (.agg ⟨intsL f n⟩) = false := by
  simp [hasAddr, intsL]

/-- The memory in a shuffle. -/
noncomputable def memS (N : Nat) (bs : List (Nat × ABlk)) (f : Nat → Int) (x : Int) : AH := ⟨N + 3, (N + 2, .cells false (intsL (fun _ => 0) 144)) :: (N + 1, .cells false [.int .u64 x]) :: (N, .cells false (intsL f 144)) :: bs⟩
noncomputable def IS (N : Nat) (bs : List (Nat × ABlk)) (r : (Nat → Int) × Int) (m : Nat) (A : AF) (H : AH) : Prop := ∃ (j : Int) (f : Nat → Int) (x : Int), shF m f x = r ∧ m ≤ 143 ∧ (m = 0 → j ≤ 0) ∧ (0 < m → j = (m : Int)) ∧ A.tm.n = 29 ∧ A.marks = [] ∧ A.tm.get 7 = .int .i64 j ∧ A.tm.get 3 = .pointer (some ⟨N, 0, none⟩) ∧ A.tm.get 5 = .pointer (some ⟨N + 1, 0, none⟩) ∧ A.tm.get 6 = .pointer (some ⟨N + 2, 0, none⟩) ∧ H = memS N bs f x
noncomputable def QS (N : Nat) (bs : List (Nat × ABlk)) (r : (Nat → Int) × Int) (y : AX) (A : AF) (H : AH) : Prop := y = .exit 0 ∧ A.tm.n = 29 ∧ A.marks = [] ∧ A.tm.get 3 = .pointer (some ⟨N, 0, none⟩) ∧ A.tm.get 6 = .pointer (some ⟨N + 2, 0, none⟩) ∧ H = memS N bs r.1 r.2
theorem swap_list (f : Nat → Int) (i j : Nat) : ((intsL f 144).set i (.int .i64 (f j))).set j (.int .i64 (f i)) = intsL (swp f i j) 144 := by
  rw [intsL_set, intsL_set]; rfl
set_option maxRecDepth 10000 in
set_option maxHeartbeats 8000000 in
theorem shuffled_ev (call : Value → List Value → AH → Option (Value × AH)) (N : Nat) (bs : List (Nat × ABlk)) (f : Nat → Int) (n : Nat) (x : Int) (hn : n ≤ 144) (hd : decrK bs = true) (hb : ∀ p ∈ bs, p.1 < N)
    (hdraw : ∀ (f : Nat → Int) (n : Nat) (y : Int), 1 ≤ n → n ≤ 144 → call (.func (.func 96) #[] #[]) [.pointer (some ⟨N + 1, 0, none⟩), .int .i64 (n : Int)] (memS N bs f y) = some (.int .i64 (drw n y : Int), memS N bs f (nxs n y))) :
    evFn (tabT Try.prog) call 300 kpT 81 Try.f81 [.agg ⟨intsL f 144⟩, .int .i64 (n : Int), .int .u64 x] ⟨N, bs⟩ = some (.agg ⟨intsL (shF (n - 1) f x).1 144⟩, ⟨N + 3, bs⟩) := by
  have kp := kp14
  simp only [Prod.mk.injEq] at kp
  obtain ⟨kp1, kp2⟩ := kp
  have w1 : wrapI .i64 ((n : Int) - 1) = (n : Int) - 1 := wrapI_small (by omega) (by omega)
  simp only [evFn, Try.f81]
  simp [ec_skip, ec_label, ek_reg, ek_draw, ek_seq, ec_cond, ek_block, ec_loop, ec_exit, ec_ret, ec_scope, ek_nil, ek_op, opK_some, regK_some, seqK_normal, seqK_exit, seqK_ret, blockK_normal, blockK_exit, blockK_ret, evOp, vOp, hOpB, hOpU, hOp, hOpT, aAppendG_tab, aWanted, aYielded, opd, putT, closedV, aBin, intOp, sameK, mapO, joinR, hasAddr, boundOf, pushB, aAlloc, Value.cells, lookB, setB, Nat.beq_eq, tm_n_set, tm_get_set, tm_of_n, tm_of_get, tm_tr_set, tm_tr_of, cellV, putF, appR_eq, takeR_eq, dropR_eq, setR_eq, getR_eq, ↓C75, ↓C76, ↓C77, ↓C79, ↓C17, ↓C18, ↓C22, ↓C71, FA24_0, FA24_1, FA24_2, FA24_3, FA24_4, FA24_5, FA24_6, FA24_7, FA24_8, LD3, LD4, LD22, LD27, LDr, LD24, LEN22, IA22, tkc, cellAt, ↓AL38, w1]
  generalize hr : evLoop _ _ _ _ = r
  obtain ⟨y, A', H', rfl, rfl, hl, hmk, g3, g6, rfl⟩ := loop_go (Q := QS N bs (shF (n - 1) f x)) hr (IS N bs (shF (n - 1) f x)) (n - 1) (by omega) ⟨(n : Int) - 1, f, x, rfl, by omega, fun h => by omega, fun h => by omega, rfl, rfl, rfl, rfl, rfl, rfl, rfl⟩ (by
    clear hr
    rintro m A H' ⟨j, f, x, hs, hm, hj0, hj1, hl, hmk, g7, g3, g5, g6, rfl⟩
    simp only [runC]
    cases m with
    | zero =>
      have hj : ¬ 0 < j := by have := hj0 rfl; omega
      simp [ec_skip, ec_label, ek_reg, ek_draw, ek_seq, ec_cond, ek_block, ec_loop, ec_exit, ec_ret, ec_scope, ek_nil, ek_op, opK_some, regK_some, seqK_normal, seqK_exit, seqK_ret, blockK_normal, blockK_exit, blockK_ret, evOp, vOp, hOpB, hOpU, hOp, hOpT, aAppendG_tab, aWanted, aYielded, opd, putT, closedV, aBin, intOp, sameK, mapO, joinR, hasAddr, boundOf, pushB, aAlloc, Value.cells, lookB, setB, Nat.beq_eq, tm_n_set, tm_get_set, tm_of_n, tm_of_get, tm_tr_set, tm_tr_of, cellV, putF, appR_eq, takeR_eq, dropR_eq, setR_eq, getR_eq, ↓C75, ↓C76, ↓C77, ↓C79, ↓C17, ↓C18, ↓C22, ↓C71, FA24_0, FA24_1, FA24_2, FA24_3, FA24_4, FA24_5, FA24_6, FA24_7, FA24_8, LD3, LD4, LD22, LD27, LDr, LD24, LEN22, IA22, tkc, cellAt, hl, hmk, g7, g3, g5, g6, hj]
      refine .inr ⟨by simp, rfl, by simp [tm_n_set, hl], rfl, by simp [tm_get_set, tm_n_set, hl, g3], by simp [tm_get_set, tm_n_set, hl, g6], ?_⟩
      rw [← hs]; rfl
    | succ m =>
      obtain ⟨i, hi⟩ : ∃ i, i = m + 1 := ⟨_, rfl⟩
      obtain rfl : j = (i : Int) := by have := hj1 (by omega); omega
      have hj : 0 < (i : Int) := by omega
      have hjn : 0 < i := by omega
      have w2 : wrapI .i64 ((i : Int) + 1) = (i : Int) + 1 := wrapI_small (by omega) (by omega)
      have w3 : wrapI .i64 ((i : Int) - 1) = ((m : Nat) : Int) := by rw [wrapI_small (by omega) (by omega)]; omega
      have hdr := hdraw f (i + 1) x (by omega) (by omega)
      have dl := drw_lt (n := i + 1) (by omega) x
      obtain ⟨q, hq⟩ : ∃ q, q = drw (i + 1) x := ⟨_, rfl⟩
      rw [← hq, show ((i + 1 : Nat) : Int) = (i : Int) + 1 by omega] at hdr
      rw [← hq] at dl
      clear hj0 hj1
      have ixi := IX38 N i (by omega)
      have ixq := IX38 N q (by omega)
      simp only [memS] at hdr
      simp [ec_skip, ec_label, ek_reg, ek_draw, ek_seq, ec_cond, ek_block, ec_loop, ec_exit, ec_ret, ec_scope, ek_nil, ek_op, opK_some, regK_some, seqK_normal, seqK_exit, seqK_ret, blockK_normal, blockK_exit, blockK_ret, evOp, vOp, hOpB, hOpU, hOp, hOpT, aAppendG_tab, aWanted, aYielded, opd, putT, closedV, aBin, intOp, sameK, mapO, joinR, hasAddr, boundOf, pushB, aAlloc, Value.cells, lookB, setB, Nat.beq_eq, tm_n_set, tm_get_set, tm_of_n, tm_of_get, tm_tr_set, tm_tr_of, cellV, putF, appR_eq, takeR_eq, dropR_eq, setR_eq, getR_eq, ↓C75, ↓C76, ↓C77, ↓C79, ↓C17, ↓C18, ↓C22, ↓C71, FA24_0, FA24_1, FA24_2, FA24_3, FA24_4, FA24_5, FA24_6, FA24_7, FA24_8, LD3, LD4, LD22, LD27, LDr, LD24, LEN22, IA22, tkc, cellAt, ↓Cdraw, hl, hmk, g7, g3, g5, g6, hj, hjn, w2, hdr, memS]
      generalize hX : evDrawX _ _ _ _ _ = X
      have hM : decrK ((N + 2, ABlk.cells false (intsL (fun _ => 0) 144)) :: (N + 1, ABlk.cells false [Value.int .u64 (nxs (i + 1) x)]) :: (N, ABlk.cells false (intsL f 144)) :: bs) = true := (((MI.push (H := ⟨N, bs⟩) ⟨hd, hb⟩ _).push _).push _).1
      obtain ⟨tm, rfl, hn', u7, u3, u5, u6⟩ := draw_any (H' := memS N bs (swp f i q) (nxs (i + 1) x)) (Pt := fun tm => tm.get 7 = .int .i64 (i : Int) ∧ tm.get 3 = .pointer (some ⟨N, 0, none⟩) ∧ tm.get 5 = .pointer (some ⟨N + 1, 0, none⟩) ∧ tm.get 6 = .pointer (some ⟨N + 2, 0, none⟩)) hX (by kernel_rfl) hM (by
        clear hX
        generalize hMM : befs _ = M
        have o1 : ordB M 9 4 = true := by rw [← hMM]; kernel_rfl
        have o2 : ordB M 9 7 = true := by rw [← hMM]; kernel_rfl
        have o3 : ordB M 11 4 = true := by rw [← hMM]; kernel_rfl
        have o4 : ordB M 11 7 = true := by rw [← hMM]; kernel_rfl
        have o5 : ordB M 9 11 = true := by rw [← hMM]; kernel_rfl
        have o6 : ordB M 11 9 = true := by rw [← hMM]; kernel_rfl
        clear hMM
        have c1 := intsL_at f 144 i (by omega)
        have c2 := intsL_at f 144 q (by omega)
        have cl := intsL_len f 144
        have sw := swap_list f i q
        simp only [memS]
        rw [← sw]
        generalize intsL f 144 = L at c1 c2 cl ⊢
        generalize intsL (fun _ => 0) 144 = Z at ⊢
        clear sw
        have st1 : aStore (tabT Try.prog) ⟨N + 3, (N + 2, ABlk.cells false Z) :: (N + 1, ABlk.cells false [Value.int .u64 (nxs (i + 1) x)]) :: (N, ABlk.cells false L) :: bs⟩ 3 (.pointer (some ⟨N, i, none⟩)) (.int .i64 (f q)) = some ⟨N + 3, (N + 2, ABlk.cells false Z) :: (N + 1, ABlk.cells false [Value.int .u64 (nxs (i + 1) x)]) :: (N, ABlk.cells false (L.set i (.int .i64 (f q)))) :: bs⟩ := by
          have h : i < 144 := by omega
          rw [ST3W]; simp [lookB, setB, putF, Value.cells, cl, cellV, setR_eq, Nat.beq_eq, Nat.ble_eq, h]; omega
        have st2 : aStore (tabT Try.prog) ⟨N + 3, (N + 2, ABlk.cells false Z) :: (N + 1, ABlk.cells false [Value.int .u64 (nxs (i + 1) x)]) :: (N, ABlk.cells false (L.set i (.int .i64 (f q)))) :: bs⟩ 3 (.pointer (some ⟨N, q, none⟩)) (.int .i64 (f i)) = some ⟨N + 3, (N + 2, ABlk.cells false Z) :: (N + 1, ABlk.cells false [Value.int .u64 (nxs (i + 1) x)]) :: (N, ABlk.cells false ((L.set i (.int .i64 (f q))).set q (.int .i64 (f i)))) :: bs⟩ := by
          have h : q < 144 := by omega
          rw [ST3W]; simp [lookB, setB, putF, Value.cells, cl, cellV, setR_eq, Nat.beq_eq, Nat.ble_eq, h]; omega
        simp [mapO, drRun, drOp, dr3, looks, guardT, tmpsOf, Op.operands, Call.operands, wantedR, gOf, finT, natMem, isNil, writesF, evOp, vOp, hOpB, hOpU, hOp, hOpT, aAppendG_tab, opd, closedV, aBin, intOp, sameK, opdO, boundOf, undef, lookB, Nat.beq_eq, tm_n_set, tm_get_set, tm_of_n, tm_of_get, tm_tr_set, tm_tr_of, b02, b12, b32, ↓G75, W75, ↓G76, W76, ↓G77, W77, ↓G79, W79, ↓G17, W17, ↓G18, W18, ↓G22, W22, ↓G71, W71, tv, all1, roB, roK, news, newOnes, decr, tkc, cellAt, LD3, LD4, LD22, LD27, LDr, LD24, LEN22, IA22, hl, g7, g3, g5, g6, ixi, ixq, c1, c2, st1, st2, Nat.ble_eq, Nat.blt_eq, wheap, all1, tv]
        refine ⟨_, _, ⟨rfl, rfl⟩, by simp [dynOK, b02, b12, b32, b03, b13, b23, o1, o2, o3, o4, o5, o6, hl, Nat.blt_eq, Nat.beq_eq], by simp [wheap, news, b02, b12, b32, Nat.beq_eq, all1], by simp [finT, tm_get_set, tm_n_set, hl, g7, g3, g5, g6]⟩)
      clear hX
      simp [tm_n_set, hl] at hn'
      simp [ec_skip, ec_label, ek_reg, ek_draw, ek_seq, ec_cond, ek_block, ec_loop, ec_exit, ec_ret, ec_scope, ek_nil, ek_op, opK_some, regK_some, seqK_normal, seqK_exit, seqK_ret, blockK_normal, blockK_exit, blockK_ret, evOp, vOp, hOpB, hOpU, hOp, hOpT, aAppendG_tab, aWanted, aYielded, opd, putT, closedV, aBin, intOp, sameK, mapO, joinR, hasAddr, boundOf, pushB, aAlloc, Value.cells, lookB, setB, Nat.beq_eq, tm_n_set, tm_get_set, tm_of_n, tm_of_get, tm_tr_set, tm_tr_of, cellV, putF, appR_eq, takeR_eq, dropR_eq, setR_eq, getR_eq, ↓C75, ↓C76, ↓C77, ↓C79, ↓C17, ↓C18, ↓C22, ↓C71, FA24_0, FA24_1, FA24_2, FA24_3, FA24_4, FA24_5, FA24_6, FA24_7, FA24_8, LD3, LD4, LD22, LD27, LDr, LD24, LEN22, IA22, tkc, cellAt, hl, hmk, hn', u7, u3, u5, u6]
      refine ⟨_, _, _, ⟨rfl, rfl, rfl⟩, .inl ⟨rfl, m, rfl, (m : Int), swp f i q, nxs (i + 1) x, ?_, by omega, fun h => by omega, fun h => rfl, ?_, ?_, ?_, ?_, ?_, ?_, ?_⟩⟩
      · rw [← hs, hi, hq, hi]; rfl
      all_goals simp [tm_get_set, tm_n_set, hn', u7, u3, u5, u6, w3, memS, hmk])
  have t1 := intsL_len (shF (n - 1) f x).1 144
  have t2 : List.take 144 (intsL (shF (n - 1) f x).1 144) = intsL (shF (n - 1) f x).1 144 := List.take_of_length_le (by rw [t1]; omega)
  have st := ST38 (H := memS N bs (shF (n - 1) f x).1 (shF (n - 1) f x).2) (i := N + 2) (f0 := fun _ => 0) (by simp [memS, lookB]) (shF (n - 1) f x).1
  simp only [memS] at st
  have ha := hasAddr_ints (shF (n - 1) f x).1 144 2
  have hbl := below_all N bs hb
  have n1 : ¬ N + 1 < N := by omega
  have n2 : ¬ N + 2 < N := by omega
  simp [ec_skip, ec_label, ek_reg, ek_draw, ek_seq, ec_cond, ek_block, ec_loop, ec_exit, ec_ret, ec_scope, ek_nil, ek_op, opK_some, regK_some, seqK_normal, seqK_exit, seqK_ret, blockK_normal, blockK_exit, blockK_ret, evOp, vOp, hOpB, hOpU, hOp, hOpT, aAppendG_tab, aWanted, aYielded, opd, putT, closedV, aBin, intOp, sameK, mapO, joinR, hasAddr, boundOf, pushB, aAlloc, Value.cells, lookB, setB, Nat.beq_eq, tm_n_set, tm_get_set, tm_of_n, tm_of_get, tm_tr_set, tm_tr_of, cellV, putF, appR_eq, takeR_eq, dropR_eq, setR_eq, getR_eq, ↓C75, ↓C76, ↓C77, ↓C79, ↓C17, ↓C18, ↓C22, ↓C71, FA24_0, FA24_1, FA24_2, FA24_3, FA24_4, FA24_5, FA24_6, FA24_7, FA24_8, LD3, LD4, LD22, LD27, LDr, LD24, LEN22, IA22, tkc, cellAt, hl, hmk, g3, g6, memS, LD38, t1, t2, st, finF, takeM, resV, cleanedG, ha, below, hbl, n1, n2, Nat.blt_eq, kp1, kp2]



end

section
set_option linter.unusedSimpArgs false
set_option linter.unusedVariables false

/-! ### Whether a list has a number -/
noncomputable def ansIx : List Value → AH → Option Value
  | [.slice (some ⟨0, 0, some 1⟩) n 0, .int .i64 x], ⟨1, [(0, .ints g)]⟩ => some (.int .i64 (idxOfG g x n 0))
  | _, _ => none
noncomputable def ansHas : List Value → AH → Option Value
  | [.slice (some ⟨0, 0, some 1⟩) n 0, .int .i64 x], ⟨1, [(0, .ints g)]⟩ => some (.bool (hasG g n x))
  | _, _ => none

theorem ok119 : AnsOK (runH noH) 97 ansIx := by
  intro cargs Hc v h
  unfold ansIx at h
  split at h
  · rename_i n x g
    cases h
    refine ⟨rfl, fun hr => ?_⟩
    obtain ⟨H', h⟩ := index_ev (inH noH) g n x (hr.len (j := 0) (i := 0) (g := g) rfl rfl)
    exact ⟨H', runH_fn F119 rfl h⟩
  · cases h
theorem ok86 : AnsOK (runH noH) 56 ansHas := by
  intro cargs Hc v h
  unfold ansHas at h
  split at h
  · rename_i n x g
    cases h
    refine ⟨rfl, fun hr => ?_⟩
    obtain ⟨H', h⟩ := has_ev (inH noH) g n x (hr.len (j := 0) (i := 0) (g := g) rfl rfl)
    exact ⟨H', runH_fn F86 rfl h⟩
  · cases h
theorem canH_lst {f : FuncId} {ans : List Value → AH → Option Value} {i n : Nat} {g : Nat → Int} {x : Int} {H : AH} (h : lookB H.bs i = some (.ints g)) :
    canH f ans (.func (.func f) #[] #[]) [.slice (some ⟨i, 0, some 1⟩) n 0, .int .i64 x] H = (ans [sl1 n, .int .i64 x] (hp1 g)).map (·, H) := by
  simp [canH, canon, canonL, canonV, idOf, idxOf, canonB, h, sl1, hp1]
  generalize ans _ _ = x
  cases x <;> rfl

noncomputable def G0 : Hnd := canH 97 ansIx
theorem G0_ok : CallOK Try.prog G0 := canH_ok (runH_ok noH_ok) ok119
theorem ok110 : AnsOK (runH G0) 85 ansHas := by
  intro cargs Hc v h
  unfold ansHas at h
  split at h
  · rename_i n x g
    cases h
    refine ⟨rfl, fun _ => ?_⟩
    obtain ⟨H', h⟩ := contains_ev (inH G0) (fun g n x H h => inH_hd (by unfold G0 sl1; rw [canH_lst h]; rfl)) g n x
    exact ⟨H', runH_fn F110 rfl h⟩
  · cases h

theorem canH_siT {f : FuncId} {ans : List Value → AH → Option Value} {s : SV} {k : Int} {H : AH} (h0 : lookB H.bs 0 = some (.ints s.g)) (h1 : lookB H.bs 1 = some (.ints s.h)) :
    canH f ans (.func (.func f) #[] #[]) [s.val, .int .i64 k] H = (ans [s.val, .int .i64 k] s.hp).map (·, H) := by
  simp [canH, canon, canonL, canonV, idOf, idxOf, SV.val, canonB, h0, h1, SV.hp]
  generalize ans _ _ = x
  cases x <;> rfl

/-! ### Answers that hang on a set and a number -/
noncomputable def ansSK (a : SV → Int → Option Value) : List Value → AH → Option Value
  | [v, .int .i64 k], H => match seeSet v H with
    | some s => a s k
    | none => none
  | _, _ => none
theorem ansSK_ok {call0 : Hnd} {f : FuncId} {a : SV → Int → Option Value} (h : ∀ s k v, a s k = some v → closedV 5 v = true ∧ ∃ H', call0 (.func (.func f) #[] #[]) [s.val, .int .i64 k] s.hp = some (v, H')) : AnsOK call0 f (ansSK a) := by
  intro cargs Hc v hv
  unfold ansSK at hv
  split at hv
  · split at hv
    · rename_i s hs
      obtain ⟨rfl, rfl⟩ := seeSet_spec hs
      exact ⟨(h _ _ _ hv).1, fun _ => (h _ _ _ hv).2⟩
    · cases hv
  · cases hv
theorem canH_sk {f : FuncId} {a : SV → Int → Option Value} {s : SV} {k : Int} {H : AH} (h0 : lookB H.bs 0 = some (.ints s.g)) (h1 : lookB H.bs 1 = some (.ints s.h)) : canH f (ansSK a) (.func (.func f) #[] #[]) [s.val, .int .i64 k] H = (a s k).map (·, H) := by
  rw [canH_siT h0 h1]
  rfl


noncomputable def aRsize (s : SV) : Option Value := some (.int .i64 s.rsize)
noncomputable def aKinds (s : SV) : Option Value := some (.int .i64 s.kinds)
theorem ok22 : AnsOK (runH L4) 54 (ans1 aRsize) := ans1_ok fun s v h => by
  cases h
  refine ⟨rfl, fun _ _ => ?_⟩
  obtain ⟨H', h⟩ := rsize_ev (inH L4) L4_18 L4_79 s
  exact ⟨H', runH_fn F22 rfl h⟩
theorem ok20 : AnsOK (runH L4) 50 (ans1 aKinds) := ans1_ok fun s v h => by
  cases h
  refine ⟨rfl, fun _ _ => ?_⟩
  obtain ⟨H', h⟩ := rkinds_ev (inH L4) L4_18 L4_79 s
  exact ⟨H', runH_fn F20 rfl h⟩
noncomputable def R0 : Hnd := orH (canH 85 ansHas) (orH (canH 56 ansHas) (orH (canH 54 (ans1 aRsize)) (orH (canH 50 (ans1 aKinds)) L4)))
theorem R0_ok : CallOK Try.prog R0 :=
  orH_ok (canH_ok (runH_ok G0_ok) ok110) (orH_ok (canH_ok (runH_ok noH_ok) ok86) (orH_ok (canH_ok (runH_ok L4_ok) ok22) (orH_ok (canH_ok (runH_ok L4_ok) ok20) L4_ok)))
theorem R0_has (i n : Nat) (g : Nat → Int) (x : Int) (H : AH) (h : lookB H.bs i = some (.ints g)) : R0 (.func (.func 85) #[] #[]) [.slice (some ⟨i, 0, some 1⟩) n 0, .int .i64 x] H = some (.bool (hasG g n x), H) := orH_l (by rw [canH_lst h]; rfl)
theorem R0_rhas (i n : Nat) (g : Nat → Int) (x : Int) (H : AH) (h : lookB H.bs i = some (.ints g)) : R0 (.func (.func 56) #[] #[]) [.slice (some ⟨i, 0, some 1⟩) n 0, .int .i64 x] H = some (.bool (hasG g n x), H) := orH_r (canH_other rfl) (orH_l (by rw [canH_lst h]; rfl))
theorem R0_rsize (s : SV) (H : AH) (h0 : lookB H.bs 0 = some (.ints s.g)) (h1 : lookB H.bs 1 = some (.ints s.h)) : R0 (.func (.func 54) #[] #[]) [s.val] H = some (.int .i64 s.rsize, H) := orH_r (canH_other rfl) (orH_r (canH_other rfl) (orH_l (canH_set h0 h1)))
theorem R0_rkinds (s : SV) (H : AH) (h0 : lookB H.bs 0 = some (.ints s.g)) (h1 : lookB H.bs 1 = some (.ints s.h)) : R0 (.func (.func 50) #[] #[]) [s.val] H = some (.int .i64 s.kinds, H) := orH_r (canH_other rfl) (orH_r (canH_other rfl) (orH_r (canH_other rfl) (orH_l (canH_set h0 h1))))
theorem R0_check (s : SV) (H : AH) (h0 : lookB H.bs 0 = some (.ints s.g)) (h1 : lookB H.bs 1 = some (.ints s.h)) : R0 (.func (.func 63) #[] #[]) [s.val] H = some (.int .i64 s.err, H) := orH_r (canH_other rfl) (orH_r (canH_other rfl) (orH_r (canH_other rfl) (orH_r (canH_other rfl) (orH_l (canH_set h0 h1)))))
theorem R0_rcheck (s : SV) (H : AH) (h0 : lookB H.bs 0 = some (.ints s.g)) (h1 : lookB H.bs 1 = some (.ints s.h)) : R0 (.func (.func 51) #[] #[]) [s.val] H = some (.int .i64 s.err, H) := orH_r (canH_other rfl) (orH_r (canH_other rfl) (orH_r (canH_other rfl) (orH_r (canH_other rfl) (orH_r (canH_other rfl) (orH_l (canH_set h0 h1))))))
theorem R0_plain (s : SV) (H : AH) (h0 : lookB H.bs 0 = some (.ints s.g)) (h1 : lookB H.bs 1 = some (.ints s.h)) : R0 (.func (.func 84) #[] #[]) [s.val] H = some (.int .i64 s.plain, H) := orH_r (canH_other rfl) (orH_r (canH_other rfl) (orH_r (canH_other rfl) (orH_r (canH_other rfl) (orH_r (canH_other rfl) (orH_r (canH_other rfl) (orH_l (orH_l (orH_l (L0_75 s H h0 h1)))))))))
theorem R0_rplain (s : SV) (H : AH) (h0 : lookB H.bs 0 = some (.ints s.g)) (h1 : lookB H.bs 1 = some (.ints s.h)) : R0 (.func (.func 55) #[] #[]) [s.val] H = some (.int .i64 s.plain, H) := orH_r (canH_other rfl) (orH_r (canH_other rfl) (orH_r (canH_other rfl) (orH_r (canH_other rfl) (orH_r (canH_other rfl) (orH_r (canH_other rfl) (orH_l (orH_l (orH_l (L0_79 s H h0 h1)))))))))
theorem R0_size (s : SV) (H : AH) (h0 : lookB H.bs 0 = some (.ints s.g)) (h1 : lookB H.bs 1 = some (.ints s.h)) : R0 (.func (.func 80) #[] #[]) [s.val] H = some (.int .i64 s.size, H) := orH_r (canH_other rfl) (orH_r (canH_other rfl) (orH_r (canH_other rfl) (orH_r (canH_other rfl) (orH_r (canH_other rfl) (orH_r (canH_other rfl) (orH_l (orH_l (orH_r rfl (orH_r (canH_other rfl) (orH_r (canH_other rfl) (canH_set h0 h1)))))))))))
theorem R0_btw (n l m : Int) (H : AH) : R0 (.func (.func 52) #[] #[]) [.int .i64 n, .int .i64 l, .int .i64 m] H = some (.bool (btw n l m), H) := orH_r (canH_other rfl) (orH_r (canH_other rfl) (orH_r (canH_other rfl) (orH_r (canH_other rfl) (orH_r (canH_other rfl) (orH_r (canH_other rfl) (rfl))))))
theorem R0_rbtw (n l m : Int) (H : AH) : R0 (.func (.func 76) #[] #[]) [.int .i64 n, .int .i64 l, .int .i64 m] H = some (.bool (btw n l m), H) := orH_r (canH_other rfl) (orH_r (canH_other rfl) (orH_r (canH_other rfl) (orH_r (canH_other rfl) (orH_r (canH_other rfl) (orH_r (canH_other rfl) (rfl))))))

noncomputable def aFace (s : SV) (t : Int) : Option Value := if s.inB t = true then some (faceV (s.faceK t) (s.faceR t)) else none
theorem ok85 : AnsOK (runH R0) 53 (ansSK aFace) := ansSK_ok fun s t v h => by
  unfold aFace at h
  split at h
  · rename_i hb
    cases h
    obtain ⟨_, hT⟩ := tile_of hb
    obtain ⟨H', h⟩ := face_ev (inH R0) s t (fun H h0 h1 => inH_hd (R0_plain s H h0 h1)) (fun i n g x H h => inH_hd (R0_has i n g x H h)) hT
    exact ⟨rfl, H', runH_fn F85 rfl h⟩
  · cases h
noncomputable def aKindOf (s : SV) (t : Int) : Option Value := some (.int .i64 (s.kindOf t))
noncomputable def aRedOf (s : SV) (t : Int) : Option Value := some (.bool (s.redOf t))
theorem ok29 : AnsOK (runH R0) 17 (ansSK aKindOf) := ansSK_ok fun s t v h => by
  cases h
  obtain ⟨H', h⟩ := rkind_ev (inH R0) s t (fun H h0 h1 => inH_hd (R0_rsize s H h0 h1)) (fun H h0 h1 => inH_hd (R0_rplain s H h0 h1))
  exact ⟨rfl, H', runH_fn F29 rfl h⟩
noncomputable def R1 : Hnd := orH (canH 53 (ansSK aFace)) (orH (canH 17 (ansSK aKindOf)) R0)
theorem R1_ok : CallOK Try.prog R1 := orH_ok (canH_ok (runH_ok R0_ok) ok85) (orH_ok (canH_ok (runH_ok R0_ok) ok29) R0_ok)
theorem R1_has (i n : Nat) (g : Nat → Int) (x : Int) (H : AH) (h : lookB H.bs i = some (.ints g)) : R1 (.func (.func 85) #[] #[]) [.slice (some ⟨i, 0, some 1⟩) n 0, .int .i64 x] H = some (.bool (hasG g n x), H) := orH_r (canH_other rfl) (orH_r (canH_other rfl) (orH_l (by rw [canH_lst h]; rfl)))
theorem R1_rhas (i n : Nat) (g : Nat → Int) (x : Int) (H : AH) (h : lookB H.bs i = some (.ints g)) : R1 (.func (.func 56) #[] #[]) [.slice (some ⟨i, 0, some 1⟩) n 0, .int .i64 x] H = some (.bool (hasG g n x), H) := orH_r (canH_other rfl) (orH_r (canH_other rfl) (orH_r (canH_other rfl) (orH_l (by rw [canH_lst h]; rfl))))
theorem R1_rsize (s : SV) (H : AH) (h0 : lookB H.bs 0 = some (.ints s.g)) (h1 : lookB H.bs 1 = some (.ints s.h)) : R1 (.func (.func 54) #[] #[]) [s.val] H = some (.int .i64 s.rsize, H) := orH_r (canH_other rfl) (orH_r (canH_other rfl) (orH_r (canH_other rfl) (orH_r (canH_other rfl) (orH_l (canH_set h0 h1)))))
theorem R1_rkinds (s : SV) (H : AH) (h0 : lookB H.bs 0 = some (.ints s.g)) (h1 : lookB H.bs 1 = some (.ints s.h)) : R1 (.func (.func 50) #[] #[]) [s.val] H = some (.int .i64 s.kinds, H) := orH_r (canH_other rfl) (orH_r (canH_other rfl) (orH_r (canH_other rfl) (orH_r (canH_other rfl) (orH_r (canH_other rfl) (orH_l (canH_set h0 h1))))))
theorem R1_check (s : SV) (H : AH) (h0 : lookB H.bs 0 = some (.ints s.g)) (h1 : lookB H.bs 1 = some (.ints s.h)) : R1 (.func (.func 63) #[] #[]) [s.val] H = some (.int .i64 s.err, H) := orH_r (canH_other rfl) (orH_r (canH_other rfl) (orH_r (canH_other rfl) (orH_r (canH_other rfl) (orH_r (canH_other rfl) (orH_r (canH_other rfl) (orH_l (canH_set h0 h1)))))))
theorem R1_rcheck (s : SV) (H : AH) (h0 : lookB H.bs 0 = some (.ints s.g)) (h1 : lookB H.bs 1 = some (.ints s.h)) : R1 (.func (.func 51) #[] #[]) [s.val] H = some (.int .i64 s.err, H) := orH_r (canH_other rfl) (orH_r (canH_other rfl) (orH_r (canH_other rfl) (orH_r (canH_other rfl) (orH_r (canH_other rfl) (orH_r (canH_other rfl) (orH_r (canH_other rfl) (orH_l (canH_set h0 h1))))))))
theorem R1_plain (s : SV) (H : AH) (h0 : lookB H.bs 0 = some (.ints s.g)) (h1 : lookB H.bs 1 = some (.ints s.h)) : R1 (.func (.func 84) #[] #[]) [s.val] H = some (.int .i64 s.plain, H) := orH_r (canH_other rfl) (orH_r (canH_other rfl) (orH_r (canH_other rfl) (orH_r (canH_other rfl) (orH_r (canH_other rfl) (orH_r (canH_other rfl) (orH_r (canH_other rfl) (orH_r (canH_other rfl) (orH_l (orH_l (orH_l (L0_75 s H h0 h1)))))))))))
theorem R1_rplain (s : SV) (H : AH) (h0 : lookB H.bs 0 = some (.ints s.g)) (h1 : lookB H.bs 1 = some (.ints s.h)) : R1 (.func (.func 55) #[] #[]) [s.val] H = some (.int .i64 s.plain, H) := orH_r (canH_other rfl) (orH_r (canH_other rfl) (orH_r (canH_other rfl) (orH_r (canH_other rfl) (orH_r (canH_other rfl) (orH_r (canH_other rfl) (orH_r (canH_other rfl) (orH_r (canH_other rfl) (orH_l (orH_l (orH_l (L0_79 s H h0 h1)))))))))))
theorem R1_size (s : SV) (H : AH) (h0 : lookB H.bs 0 = some (.ints s.g)) (h1 : lookB H.bs 1 = some (.ints s.h)) : R1 (.func (.func 80) #[] #[]) [s.val] H = some (.int .i64 s.size, H) := orH_r (canH_other rfl) (orH_r (canH_other rfl) (orH_r (canH_other rfl) (orH_r (canH_other rfl) (orH_r (canH_other rfl) (orH_r (canH_other rfl) (orH_r (canH_other rfl) (orH_r (canH_other rfl) (orH_l (orH_l (orH_r rfl (orH_r (canH_other rfl) (orH_r (canH_other rfl) (canH_set h0 h1)))))))))))))
theorem R1_btw (n l m : Int) (H : AH) : R1 (.func (.func 52) #[] #[]) [.int .i64 n, .int .i64 l, .int .i64 m] H = some (.bool (btw n l m), H) := orH_r (canH_other rfl) (orH_r (canH_other rfl) (orH_r (canH_other rfl) (orH_r (canH_other rfl) (orH_r (canH_other rfl) (orH_r (canH_other rfl) (orH_r (canH_other rfl) (orH_r (canH_other rfl) (rfl))))))))
theorem R1_rbtw (n l m : Int) (H : AH) : R1 (.func (.func 76) #[] #[]) [.int .i64 n, .int .i64 l, .int .i64 m] H = some (.bool (btw n l m), H) := orH_r (canH_other rfl) (orH_r (canH_other rfl) (orH_r (canH_other rfl) (orH_r (canH_other rfl) (orH_r (canH_other rfl) (orH_r (canH_other rfl) (orH_r (canH_other rfl) (orH_r (canH_other rfl) (rfl))))))))
theorem R1_face (s : SV) (t : Int) (H : AH) (hb : s.inB t = true) (h0 : lookB H.bs 0 = some (.ints s.g)) (h1 : lookB H.bs 1 = some (.ints s.h)) : R1 (.func (.func 53) #[] #[]) [s.val, .int .i64 t] H = some (faceV (s.faceK t) (s.faceR t), H) := orH_l (by rw [canH_sk h0 h1, aFace, if_pos hb]; rfl)
theorem R1_kind (s : SV) (t : Int) (H : AH) (h0 : lookB H.bs 0 = some (.ints s.g)) (h1 : lookB H.bs 1 = some (.ints s.h)) : R1 (.func (.func 17) #[] #[]) [s.val, .int .i64 t] H = some (.int .i64 (s.kindOf t), H) := orH_r (canH_other rfl) (orH_l (by rw [canH_sk h0 h1]; rfl))

theorem ok31 : AnsOK (runH R1) 19 (ansSK aRedOf) := ansSK_ok fun s t v h => by
  cases h
  obtain ⟨H', h⟩ := rred_ev (inH R1) s t (fun H h0 h1 => inH_hd (R1_kind s t H h0 h1)) (fun H h0 h1 => inH_hd (R1_rplain s H h0 h1)) (fun i n g x H h => inH_hd (R1_rhas i n g x H h))
  exact ⟨rfl, H', runH_fn F31 rfl h⟩
noncomputable def R2 : Hnd := orH (canH 19 (ansSK aRedOf)) R1
theorem R2_ok : CallOK Try.prog R2 := orH_ok (canH_ok (runH_ok R1_ok) ok31) R1_ok
theorem R2_has (i n : Nat) (g : Nat → Int) (x : Int) (H : AH) (h : lookB H.bs i = some (.ints g)) : R2 (.func (.func 85) #[] #[]) [.slice (some ⟨i, 0, some 1⟩) n 0, .int .i64 x] H = some (.bool (hasG g n x), H) := orH_r (canH_other rfl) (orH_r (canH_other rfl) (orH_r (canH_other rfl) (orH_l (by rw [canH_lst h]; rfl))))
theorem R2_rhas (i n : Nat) (g : Nat → Int) (x : Int) (H : AH) (h : lookB H.bs i = some (.ints g)) : R2 (.func (.func 56) #[] #[]) [.slice (some ⟨i, 0, some 1⟩) n 0, .int .i64 x] H = some (.bool (hasG g n x), H) := orH_r (canH_other rfl) (orH_r (canH_other rfl) (orH_r (canH_other rfl) (orH_r (canH_other rfl) (orH_l (by rw [canH_lst h]; rfl)))))
theorem R2_rsize (s : SV) (H : AH) (h0 : lookB H.bs 0 = some (.ints s.g)) (h1 : lookB H.bs 1 = some (.ints s.h)) : R2 (.func (.func 54) #[] #[]) [s.val] H = some (.int .i64 s.rsize, H) := orH_r (canH_other rfl) (orH_r (canH_other rfl) (orH_r (canH_other rfl) (orH_r (canH_other rfl) (orH_r (canH_other rfl) (orH_l (canH_set h0 h1))))))
theorem R2_rkinds (s : SV) (H : AH) (h0 : lookB H.bs 0 = some (.ints s.g)) (h1 : lookB H.bs 1 = some (.ints s.h)) : R2 (.func (.func 50) #[] #[]) [s.val] H = some (.int .i64 s.kinds, H) := orH_r (canH_other rfl) (orH_r (canH_other rfl) (orH_r (canH_other rfl) (orH_r (canH_other rfl) (orH_r (canH_other rfl) (orH_r (canH_other rfl) (orH_l (canH_set h0 h1)))))))
theorem R2_check (s : SV) (H : AH) (h0 : lookB H.bs 0 = some (.ints s.g)) (h1 : lookB H.bs 1 = some (.ints s.h)) : R2 (.func (.func 63) #[] #[]) [s.val] H = some (.int .i64 s.err, H) := orH_r (canH_other rfl) (orH_r (canH_other rfl) (orH_r (canH_other rfl) (orH_r (canH_other rfl) (orH_r (canH_other rfl) (orH_r (canH_other rfl) (orH_r (canH_other rfl) (orH_l (canH_set h0 h1))))))))
theorem R2_rcheck (s : SV) (H : AH) (h0 : lookB H.bs 0 = some (.ints s.g)) (h1 : lookB H.bs 1 = some (.ints s.h)) : R2 (.func (.func 51) #[] #[]) [s.val] H = some (.int .i64 s.err, H) := orH_r (canH_other rfl) (orH_r (canH_other rfl) (orH_r (canH_other rfl) (orH_r (canH_other rfl) (orH_r (canH_other rfl) (orH_r (canH_other rfl) (orH_r (canH_other rfl) (orH_r (canH_other rfl) (orH_l (canH_set h0 h1)))))))))
theorem R2_plain (s : SV) (H : AH) (h0 : lookB H.bs 0 = some (.ints s.g)) (h1 : lookB H.bs 1 = some (.ints s.h)) : R2 (.func (.func 84) #[] #[]) [s.val] H = some (.int .i64 s.plain, H) := orH_r (canH_other rfl) (orH_r (canH_other rfl) (orH_r (canH_other rfl) (orH_r (canH_other rfl) (orH_r (canH_other rfl) (orH_r (canH_other rfl) (orH_r (canH_other rfl) (orH_r (canH_other rfl) (orH_r (canH_other rfl) (orH_l (orH_l (orH_l (L0_75 s H h0 h1))))))))))))
theorem R2_rplain (s : SV) (H : AH) (h0 : lookB H.bs 0 = some (.ints s.g)) (h1 : lookB H.bs 1 = some (.ints s.h)) : R2 (.func (.func 55) #[] #[]) [s.val] H = some (.int .i64 s.plain, H) := orH_r (canH_other rfl) (orH_r (canH_other rfl) (orH_r (canH_other rfl) (orH_r (canH_other rfl) (orH_r (canH_other rfl) (orH_r (canH_other rfl) (orH_r (canH_other rfl) (orH_r (canH_other rfl) (orH_r (canH_other rfl) (orH_l (orH_l (orH_l (L0_79 s H h0 h1))))))))))))
theorem R2_size (s : SV) (H : AH) (h0 : lookB H.bs 0 = some (.ints s.g)) (h1 : lookB H.bs 1 = some (.ints s.h)) : R2 (.func (.func 80) #[] #[]) [s.val] H = some (.int .i64 s.size, H) := orH_r (canH_other rfl) (orH_r (canH_other rfl) (orH_r (canH_other rfl) (orH_r (canH_other rfl) (orH_r (canH_other rfl) (orH_r (canH_other rfl) (orH_r (canH_other rfl) (orH_r (canH_other rfl) (orH_r (canH_other rfl) (orH_l (orH_l (orH_r rfl (orH_r (canH_other rfl) (orH_r (canH_other rfl) (canH_set h0 h1))))))))))))))
theorem R2_btw (n l m : Int) (H : AH) : R2 (.func (.func 52) #[] #[]) [.int .i64 n, .int .i64 l, .int .i64 m] H = some (.bool (btw n l m), H) := orH_r (canH_other rfl) (orH_r (canH_other rfl) (orH_r (canH_other rfl) (orH_r (canH_other rfl) (orH_r (canH_other rfl) (orH_r (canH_other rfl) (orH_r (canH_other rfl) (orH_r (canH_other rfl) (orH_r (canH_other rfl) (rfl)))))))))
theorem R2_rbtw (n l m : Int) (H : AH) : R2 (.func (.func 76) #[] #[]) [.int .i64 n, .int .i64 l, .int .i64 m] H = some (.bool (btw n l m), H) := orH_r (canH_other rfl) (orH_r (canH_other rfl) (orH_r (canH_other rfl) (orH_r (canH_other rfl) (orH_r (canH_other rfl) (orH_r (canH_other rfl) (orH_r (canH_other rfl) (orH_r (canH_other rfl) (orH_r (canH_other rfl) (rfl)))))))))
theorem R2_face (s : SV) (t : Int) (H : AH) (hb : s.inB t = true) (h0 : lookB H.bs 0 = some (.ints s.g)) (h1 : lookB H.bs 1 = some (.ints s.h)) : R2 (.func (.func 53) #[] #[]) [s.val, .int .i64 t] H = some (faceV (s.faceK t) (s.faceR t), H) := orH_r (canH_other rfl) (orH_l (by rw [canH_sk h0 h1, aFace, if_pos hb]; rfl))
theorem R2_kind (s : SV) (t : Int) (H : AH) (h0 : lookB H.bs 0 = some (.ints s.g)) (h1 : lookB H.bs 1 = some (.ints s.h)) : R2 (.func (.func 17) #[] #[]) [s.val, .int .i64 t] H = some (.int .i64 (s.kindOf t), H) := orH_r (canH_other rfl) (orH_r (canH_other rfl) (orH_l (by rw [canH_sk h0 h1]; rfl)))
theorem R2_red (s : SV) (t : Int) (H : AH) (h0 : lookB H.bs 0 = some (.ints s.g)) (h1 : lookB H.bs 1 = some (.ints s.h)) : R2 (.func (.func 19) #[] #[]) [s.val, .int .i64 t] H = some (.bool (s.redOf t), H) := orH_l (by rw [canH_sk h0 h1]; rfl)

end

section
set_option linter.unusedSimpArgs false
set_option linter.unusedVariables false

theorem F12 : tabF Try.prog 83 = some Try.f83 := by kernel_rfl
theorem F16 : tabF Try.prog 94 = some Try.f94 := by kernel_rfl

/-- The first error of tiles from the i-th on, m of them. -/
noncomputable def tErr (s : SV) (t : Nat → Int) : Nat → Nat → Int
  | 0, _ => 0
  | m + 1, i => if s.inB (t i) = false then 2 else if hasG t i (t i) = true then 9 else tErr s t m (i + 1)

theorem idx_pos (g : Nat → Int) (x : Int) : ∀ m i, 0 ≤ idxOfG g x m i ↔ ∃ j, i ≤ j ∧ j < i + m ∧ x = g j
  | 0, i => by
    simp only [idxOfG]
    exact ⟨fun h => absurd h (by omega), fun ⟨j, h1, h2, _⟩ => by omega⟩
  | m + 1, i => by
    rw [idxOfG]
    by_cases h : x = g i
    · rw [if_pos h]
      exact ⟨fun _ => ⟨i, by omega, by omega, h⟩, fun _ => by omega⟩
    · rw [if_neg h, idx_pos g x m (i + 1)]
      constructor
      · rintro ⟨j, h1, h2, h3⟩
        exact ⟨j, by omega, by omega, h3⟩
      · rintro ⟨j, h1, h2, h3⟩
        rcases Nat.lt_or_ge i j with h4 | h4
        · exact ⟨j, by omega, by omega, h3⟩
        · obtain rfl : j = i := by omega
          exact absurd h3 h
theorem hasG_iff (g : Nat → Int) (n : Nat) (x : Int) : hasG g n x = true ↔ ∃ j, j < n ∧ x = g j := by
  unfold hasG
  rw [decide_eq_true_iff, idx_pos]
  constructor
  · rintro ⟨j, _, h, e⟩; exact ⟨j, by omega, e⟩
  · rintro ⟨j, h, e⟩; exact ⟨j, by omega, by omega, e⟩
theorem hasG_succ (g : Nat → Int) (n : Nat) (x : Int) : hasG g (n + 1) x = (hasG g n x || decide (x = g n)) := by
  rw [Bool.eq_iff_iff, Bool.or_eq_true, hasG_iff, hasG_iff, decide_eq_true_iff]
  constructor
  · rintro ⟨j, h, e⟩
    rcases Nat.lt_or_ge j n with h4 | h4
    · exact .inl ⟨j, h4, e⟩
    · obtain rfl : j = n := by omega
      exact .inr e
  · rintro (⟨j, h, e⟩ | e)
    · exact ⟨j, by omega, e⟩
    · exact ⟨n, by omega, e⟩

/-- Which tiles lie among the first i. -/
noncomputable def seenL (t : Nat → Int) (i : Nat) : List Value := (List.range 144).map fun (j : Nat) => Value.bool (hasG t i (j : Int))
theorem seenL_len (t : Nat → Int) (i : Nat) : (seenL t i).length = 144 := by simp [seenL]
theorem seenL_at (t : Nat → Int) (i j : Nat) (h : j < 144) : (seenL t i)[j]? = some (.bool (hasG t i (j : Int))) := by simp [seenL, h]
def no144 : List Value := List.replicate 144 (Value.bool false)
theorem seenL_zero (t : Nat → Int) : no144 = seenL t 0 := by
  unfold no144
  apply List.ext_getElem?
  intro j
  rcases Nat.lt_or_ge j 144 with h | h
  · rw [seenL_at t 0 j h]
    rw [List.getElem?_replicate, if_pos h]; simp [hasG, idxOfG]
  · rw [List.getElem?_eq_none (by simpa using h), List.getElem?_eq_none (by rw [seenL_len]; exact h)]
theorem seenL_set (t : Nat → Int) (i k : Nat) (hk : k < 144) (e : t i = (k : Int)) : (seenL t i).set k (.bool true) = seenL t (i + 1) := by
  apply List.ext_getElem?
  intro j
  rcases Nat.lt_or_ge j 144 with h | h
  · rw [seenL_at t (i + 1) j h, List.getElem?_set, seenL_len, hasG_succ, e]
    by_cases hj : k = j
    · subst hj
      simp [hk]
    · have : ¬ ((j : Int) = (k : Int)) := by omega
      simp [hj, seenL_at t i j h, this]
  · rw [List.getElem?_eq_none (by rw [List.length_set, seenL_len]; exact h), List.getElem?_eq_none (by rw [seenL_len]; exact h)]

theorem ixarr {T : TypeId → Option TI} {t e : TypeId} {n z : Nat} (h1 : (T t).map (·.desc) = some (.array n e)) (h2 : (T e).map (·.size) = some z) (i off k : Nat) (h : k < n) : aIndexAddr T t (.pointer (some ⟨i, off, none⟩)) (.int .i64 (k : Int)) = some (.pointer (some ⟨i, off + k * z, none⟩)) := by
  obtain ⟨_, _, _, _, ht⟩ := tdesc h1
  cases he : T e with
  | none => rw [he] at h2; cases h2
  | some q =>
    rw [he] at h2
    simp only [Option.map_some, Option.some.injEq] at h2
    have hb : Nat.blt k n = true := by simpa [Nat.blt_eq] using h
    simp [aIndexAddr, natV, ht, he, h2, hb]
theorem IA54 (i k : Nat) (h : k < 144) : aIndexAddr (tabT Try.prog) 120 (.pointer (some ⟨i, 0, none⟩)) (.int .i64 (k : Int)) = some (.pointer (some ⟨i, k, none⟩)) := by
  rw [ixarr (e := 4) (n := 144) (z := 1) (by kernel_rfl) (by kernel_rfl) i 0 k h]
  simp
theorem AL54 (call : Value → List Value → AH → Option (Value × AH)) {g : Operand → Option Value} {H : AH} {d : Option Tmp} {t : TypeId} {p : String} {a : Array Edge} {gd : Option (Nat × Bool)} : evOp (tabT Try.prog) call ⟨d, .alloc 120, t, p, a, gd⟩ g H = some (.pointer (some ⟨H.next, 0, none⟩), ⟨H.next + 1, (H.next, .cells false no144) :: H.bs⟩) :=
  evOp_evO.trans (eo_alloc (cs := no144) (by kernel_rfl))
theorem ST4 (H : AH) (i off : Nat) (v : Value) : aStore (tabT Try.prog) H 4 (.pointer (some ⟨i, off, none⟩)) v = match lookB H.bs i with
    | some (.cells false cs) => if Nat.beq v.cells.toList.length 1 && Nat.ble (off + v.cells.toList.length) cs.length && v.cells.toList.all cellV then some { H with bs := setB H.bs i (.cells false (putF cs off v.cells.toList)) } else none
    | _ => none := sti (by kernel_rfl) H i off v

/-- The memory of a set and of a list. -/
noncomputable def hpT (s : SV) (t : Nat → Int) : AH := ⟨3, [(2, .ints t), (1, .ints s.h), (0, .ints s.g)]⟩
/-- The cells of a set. -/
noncomputable def SV.cs (s : SV) : List Value := [.int .i64 s.p, .slice (some ⟨0, 0, some 1⟩) s.n 0, .int .i64 s.w, .int .i64 s.d, .int .i64 s.f, .int .i64 s.c, .int .i64 s.m, .int .i64 s.de, .slice (some ⟨1, 0, some 1⟩) s.k 0]
noncomputable def hpC (s : SV) (t : Nat → Int) (i : Nat) : AH := ⟨5, [(4, .cells false (seenL t i)), (3, .cells false s.cs), (2, .ints t), (1, .ints s.h), (0, .ints s.g)]⟩
noncomputable def sl2 (n : Nat) : Value := .slice (some ⟨2, 0, some 1⟩) n 0

noncomputable def I12 (s : SV) (t : Nat → Int) (n : Nat) (m : Nat) (A : AF) (H : AH) : Prop := ∃ (i : Nat), i + m = n ∧ tErr s t m i = tErr s t n 0 ∧ A.tm.n = 32 ∧ A.marks = [] ∧ A.tm.get 16 = .int .i64 (i : Int) ∧ A.tm.get 15 = .int .i64 (n : Int) ∧ A.tm.get 14 = sl2 n ∧ A.tm.get 2 = .pointer (some ⟨3, 0, none⟩) ∧ A.tm.get 6 = .pointer (some ⟨4, 0, none⟩) ∧ H = hpC s t i
noncomputable def Q12 (s : SV) (t : Nat → Int) (n : Nat) (y : AX) (A' : AF) (_ : AH) : Prop := A'.tm.n = 32 ∧ A'.marks = [] ∧ ((y = .exit 0 ∧ tErr s t n 0 = 0) ∨ (y = .ret ∧ A'.tm.get 4 = .int .i64 (tErr s t n 0)))
noncomputable def SV.ct (s : SV) (t : Nat → Int) (n : Nat) : Int := if s.err = 0 then tErr s t n 0 else s.err

set_option maxRecDepth 10000 in
set_option maxHeartbeats 8000000 in
theorem ct_ev (call : Value → List Value → AH → Option (Value × AH)) (s : SV) (t : Nat → Int) (n : Nat) (hn : n ≤ 200) (h29 : ∀ (H : AH), lookB H.bs 0 = some (.ints s.g) → lookB H.bs 1 = some (.ints s.h) → call (.func (.func 63) #[] #[]) [s.val] H = some (.int .i64 s.err, H)) (h31 : ∀ (H : AH), lookB H.bs 0 = some (.ints s.g) → lookB H.bs 1 = some (.ints s.h) → call (.func (.func 80) #[] #[]) [s.val] H = some (.int .i64 s.size, H)) (h30 : ∀ (n l m : Int) (H : AH), call (.func (.func 52) #[] #[]) [.int .i64 n, .int .i64 l, .int .i64 m] H = some (.bool (btw n l m), H)) : ∃ H', evFn (tabT Try.prog) call 300 kpT 83 Try.f83 [s.val, sl2 n] (hpT s t) = some (.int .i64 (s.ct t n), H') := by
  simp only [SV.val] at h29 h31
  unfold SV.ct
  simp only [evFn, Try.f83, SV.val, hpT, sl2]
  by_cases c1 : s.err = 0
  · have c1' : (s.err != 0) = false := by simpa using c1
    have hz : s.rsize = s.size := by simp [SV.rsize, c1]
    have hbn := size_bounds c1
    have hs1 : wrapI .i64 (s.size - 1) = s.size - 1 := wrapI_small (by omega) (by omega)
    rw [if_pos c1]
    simp [ec_skip, ec_label, ek_reg, ek_draw, ek_seq, ec_cond, ek_block, ec_loop, ec_exit, ec_ret, ec_scope, ek_nil, ek_op, opK_some, regK_some, seqK_normal, seqK_exit, seqK_ret, blockK_normal, blockK_exit, blockK_ret, evOp, vOp, hOpB, hOpU, hOp, hOpT, aAppendG_tab, aWanted, aYielded, opd, putT, closedV, aBin, intOp, sameK, mapO, joinR, hasAddr, boundOf, pushB, aAlloc, Value.cells, lookB, setB, Nat.beq_eq, tm_n_set, tm_get_set, tm_of_n, tm_of_get, tm_tr_set, tm_tr_of, cellV, putF, appR_eq, takeR_eq, dropR_eq, setR_eq, getR_eq, ↓C75, ↓C76, ↓C77, ↓C79, ↓C17, ↓C18, ↓C22, ↓C71, FA24_0, FA24_1, FA24_2, FA24_3, FA24_4, FA24_5, FA24_6, FA24_7, FA24_8, LD3, LD4, LD22, LD27, LDr, LD24, LEN22, IA22, tkc, cellAt, SV.cs, hpC, sl2, ↓AL54, ST4, h29, c1]
    rw [seenL_zero t]
    generalize hr : evLoop _ _ _ _ = r
    obtain ⟨y, A', H', rfl, hl, hmk, hx⟩ := loop_go (Q := Q12 s t n) hr (I12 s t n) n (by omega) ⟨0, by omega, rfl, rfl, rfl, rfl, rfl, rfl, rfl, rfl, rfl⟩ (by
      clear hr
      rintro m A H ⟨i, him, hres, hl, hmk, h16, h15, h14, h2, h6, rfl⟩
      simp only [runC]
      cases m with
      | zero =>
        have hi : ¬ i < n := by omega
        rw [tErr] at hres
        simp [ec_skip, ec_label, ek_reg, ek_draw, ek_seq, ec_cond, ek_block, ec_loop, ec_exit, ec_ret, ec_scope, ek_nil, ek_op, opK_some, regK_some, seqK_normal, seqK_exit, seqK_ret, blockK_normal, blockK_exit, blockK_ret, evOp, vOp, hOpB, hOpU, hOp, hOpT, aAppendG_tab, aWanted, aYielded, opd, putT, closedV, aBin, intOp, sameK, mapO, joinR, hasAddr, boundOf, pushB, aAlloc, Value.cells, lookB, setB, Nat.beq_eq, tm_n_set, tm_get_set, tm_of_n, tm_of_get, tm_tr_set, tm_tr_of, cellV, putF, appR_eq, takeR_eq, dropR_eq, setR_eq, getR_eq, ↓C75, ↓C76, ↓C77, ↓C79, ↓C17, ↓C18, ↓C22, ↓C71, FA24_0, FA24_1, FA24_2, FA24_3, FA24_4, FA24_5, FA24_6, FA24_7, FA24_8, LD3, LD4, LD22, LD27, LDr, LD24, LEN22, IA22, tkc, cellAt, SV.cs, hpC, sl2, ↓AL54, ST4, hl, hmk, h16, h15, h14, h2, h6, hi]
        exact .inr ⟨by simp, by simp [tm_n_set, hl], rfl, .inl ⟨rfl, hres.symm⟩⟩
      | succ m =>
        have hi : i < n := by omega
        have hw : wrapI .i64 ((i : Int) + 1) = ((i + 1 : Nat) : Int) := by rw [wrapI_small (by omega) (by omega)]; rfl
        rw [tErr] at hres
        have hb : btw (t i) 0 (s.size - 1) = s.inB (t i) := by simp only [btw, SV.inB, hz]; congr 1; apply decide_eq_decide.2; omega
        cases c2 : s.inB (t i) with
        | false =>
          rw [if_pos c2] at hres
          simp [ec_skip, ec_label, ek_reg, ek_draw, ek_seq, ec_cond, ek_block, ec_loop, ec_exit, ec_ret, ec_scope, ek_nil, ek_op, opK_some, regK_some, seqK_normal, seqK_exit, seqK_ret, blockK_normal, blockK_exit, blockK_ret, evOp, vOp, hOpB, hOpU, hOp, hOpT, aAppendG_tab, aWanted, aYielded, opd, putT, closedV, aBin, intOp, sameK, mapO, joinR, hasAddr, boundOf, pushB, aAlloc, Value.cells, lookB, setB, Nat.beq_eq, tm_n_set, tm_get_set, tm_of_n, tm_of_get, tm_tr_set, tm_tr_of, cellV, putF, appR_eq, takeR_eq, dropR_eq, setR_eq, getR_eq, ↓C75, ↓C76, ↓C77, ↓C79, ↓C17, ↓C18, ↓C22, ↓C71, FA24_0, FA24_1, FA24_2, FA24_3, FA24_4, FA24_5, FA24_6, FA24_7, FA24_8, LD3, LD4, LD22, LD27, LDr, LD24, LEN22, IA22, tkc, cellAt, SV.cs, hpC, sl2, ↓AL54, ST4, hl, hmk, h16, h15, h14, h2, h6, hi, h31, h30, hs1, hb, c2]
          exact .inr ⟨by simp, by simp [tm_n_set, hl], rfl, .inr ⟨rfl, by simp [tm_get_set, tm_n_set, hl, ← hres]⟩⟩
        | true =>
          rw [if_neg (by simp [c2])] at hres
          obtain ⟨k, hk⟩ : ∃ k : Nat, t i = (k : Int) := ⟨(t i).toNat, by simp [SV.inB] at c2; omega⟩
          have hk1 : k < 144 := by
            have := rsize_bounds s
            simp [SV.inB] at c2
            omega
          have hat := seenL_at t i k hk1
          have hix := IA54 4 k hk1
          have hlen := seenL_len t i
          have hbl : Nat.ble (k + 1) 144 = true := by simp [Nat.ble_eq]; omega
          rw [hk] at hb c2 hres
          cases c3 : hasG t i (k : Int) with
          | true =>
            rw [if_pos c3] at hres
            rw [c3] at hat
            simp [ec_skip, ec_label, ek_reg, ek_draw, ek_seq, ec_cond, ek_block, ec_loop, ec_exit, ec_ret, ec_scope, ek_nil, ek_op, opK_some, regK_some, seqK_normal, seqK_exit, seqK_ret, blockK_normal, blockK_exit, blockK_ret, evOp, vOp, hOpB, hOpU, hOp, hOpT, aAppendG_tab, aWanted, aYielded, opd, putT, closedV, aBin, intOp, sameK, mapO, joinR, hasAddr, boundOf, pushB, aAlloc, Value.cells, lookB, setB, Nat.beq_eq, tm_n_set, tm_get_set, tm_of_n, tm_of_get, tm_tr_set, tm_tr_of, cellV, putF, appR_eq, takeR_eq, dropR_eq, setR_eq, getR_eq, ↓C75, ↓C76, ↓C77, ↓C79, ↓C17, ↓C18, ↓C22, ↓C71, FA24_0, FA24_1, FA24_2, FA24_3, FA24_4, FA24_5, FA24_6, FA24_7, FA24_8, LD3, LD4, LD22, LD27, LDr, LD24, LEN22, IA22, tkc, cellAt, SV.cs, hpC, sl2, ↓AL54, ST4, hl, hmk, h16, h15, h14, h2, h6, hi, h31, h30, hs1, hb, c2, hk, hix, hat, c3]
            exact .inr ⟨by simp, by simp [tm_n_set, hl], rfl, .inr ⟨rfl, by simp [tm_get_set, tm_n_set, hl, ← hres]⟩⟩
          | false =>
            rw [if_neg (by simp [c3])] at hres
            rw [c3] at hat
            have hset := seenL_set t i k hk1 hk
            simp [ec_skip, ec_label, ek_reg, ek_draw, ek_seq, ec_cond, ek_block, ec_loop, ec_exit, ec_ret, ec_scope, ek_nil, ek_op, opK_some, regK_some, seqK_normal, seqK_exit, seqK_ret, blockK_normal, blockK_exit, blockK_ret, evOp, vOp, hOpB, hOpU, hOp, hOpT, aAppendG_tab, aWanted, aYielded, opd, putT, closedV, aBin, intOp, sameK, mapO, joinR, hasAddr, boundOf, pushB, aAlloc, Value.cells, lookB, setB, Nat.beq_eq, tm_n_set, tm_get_set, tm_of_n, tm_of_get, tm_tr_set, tm_tr_of, cellV, putF, appR_eq, takeR_eq, dropR_eq, setR_eq, getR_eq, ↓C75, ↓C76, ↓C77, ↓C79, ↓C17, ↓C18, ↓C22, ↓C71, FA24_0, FA24_1, FA24_2, FA24_3, FA24_4, FA24_5, FA24_6, FA24_7, FA24_8, LD3, LD4, LD22, LD27, LDr, LD24, LEN22, IA22, tkc, cellAt, SV.cs, hpC, sl2, ↓AL54, ST4, hl, hmk, h16, h15, h14, h2, h6, hi, h31, h30, hs1, hb, c2, hk, hix, hat, c3, hlen, hbl, hset]
            refine .inl ⟨rfl, m, rfl, i + 1, by omega, hres, ?_⟩
            simp [hpC, SV.cs, sl2, tm_get_set, tm_n_set, hl, h16, h15, h14, h2, h6, hw])
    rcases hx with ⟨rfl, hx⟩ | ⟨rfl, hx⟩
    · simp [ec_skip, ec_label, ek_reg, ek_draw, ek_seq, ec_cond, ek_block, ec_loop, ec_exit, ec_ret, ec_scope, ek_nil, ek_op, opK_some, regK_some, seqK_normal, seqK_exit, seqK_ret, blockK_normal, blockK_exit, blockK_ret, evOp, vOp, hOpB, hOpU, hOp, hOpT, aAppendG_tab, aWanted, aYielded, opd, putT, closedV, aBin, intOp, sameK, mapO, joinR, hasAddr, boundOf, pushB, aAlloc, Value.cells, lookB, setB, Nat.beq_eq, tm_n_set, tm_get_set, tm_of_n, tm_of_get, tm_tr_set, tm_tr_of, cellV, putF, appR_eq, takeR_eq, dropR_eq, setR_eq, getR_eq, ↓C75, ↓C76, ↓C77, ↓C79, ↓C17, ↓C18, ↓C22, ↓C71, FA24_0, FA24_1, FA24_2, FA24_3, FA24_4, FA24_5, FA24_6, FA24_7, FA24_8, LD3, LD4, LD22, LD27, LDr, LD24, LEN22, IA22, tkc, cellAt, hl, hmk, hx, finF, takeM, resV]
    · simp [ec_skip, ec_label, ek_reg, ek_draw, ek_seq, ec_cond, ek_block, ec_loop, ec_exit, ec_ret, ec_scope, ek_nil, ek_op, opK_some, regK_some, seqK_normal, seqK_exit, seqK_ret, blockK_normal, blockK_exit, blockK_ret, evOp, vOp, hOpB, hOpU, hOp, hOpT, aAppendG_tab, aWanted, aYielded, opd, putT, closedV, aBin, intOp, sameK, mapO, joinR, hasAddr, boundOf, pushB, aAlloc, Value.cells, lookB, setB, Nat.beq_eq, tm_n_set, tm_get_set, tm_of_n, tm_of_get, tm_tr_set, tm_tr_of, cellV, putF, appR_eq, takeR_eq, dropR_eq, setR_eq, getR_eq, ↓C75, ↓C76, ↓C77, ↓C79, ↓C17, ↓C18, ↓C22, ↓C71, FA24_0, FA24_1, FA24_2, FA24_3, FA24_4, FA24_5, FA24_6, FA24_7, FA24_8, LD3, LD4, LD22, LD27, LDr, LD24, LEN22, IA22, tkc, cellAt, hl, hmk, hx, finF, takeM, resV]
  · have c1' : (s.err != 0) = true := by simpa using c1
    rw [if_neg c1]
    simp [ec_skip, ec_label, ek_reg, ek_draw, ek_seq, ec_cond, ek_block, ec_loop, ec_exit, ec_ret, ec_scope, ek_nil, ek_op, opK_some, regK_some, seqK_normal, seqK_exit, seqK_ret, blockK_normal, blockK_exit, blockK_ret, evOp, vOp, hOpB, hOpU, hOp, hOpT, aAppendG_tab, aWanted, aYielded, opd, putT, closedV, aBin, intOp, sameK, mapO, joinR, hasAddr, boundOf, pushB, aAlloc, Value.cells, lookB, setB, Nat.beq_eq, tm_n_set, tm_get_set, tm_of_n, tm_of_get, tm_tr_set, tm_tr_of, cellV, putF, appR_eq, takeR_eq, dropR_eq, setR_eq, getR_eq, ↓C75, ↓C76, ↓C77, ↓C79, ↓C17, ↓C18, ↓C22, ↓C71, FA24_0, FA24_1, FA24_2, FA24_3, FA24_4, FA24_5, FA24_6, FA24_7, FA24_8, LD3, LD4, LD22, LD27, LDr, LD24, LEN22, IA22, tkc, cellAt, SV.cs, hpC, sl2, ↓AL54, ST4, h29, c1, c1', finF, takeM, resV]

end

section
set_option linter.unusedSimpArgs false
set_option linter.unusedVariables false


theorem F84 : tabF Try.prog 49 = some Try.f49 := by kernel_rfl
theorem F87 : tabF Try.prog 58 = some Try.f58 := by kernel_rfl
theorem F111 : tabF Try.prog 86 = some Try.f86 := by kernel_rfl
theorem kg58 : (kpT 87, gcT 87) = (true, false) := by kernel_rfl
theorem F112 : tabF Try.prog 87 = some Try.f87 := by kernel_rfl

theorem LD122 (H : AH) (i off : Nat) : aLoad (tabT Try.prog) H 111 (.pointer (some ⟨i, off, none⟩)) = cellAt H.bs i off := ldc (by kernel_rfl) H i off
theorem BD80 (a b c : Int) : aBuild (tabT Try.prog) 69 [(0, .int .i64 a), (1, .int .i64 b), (2, .int .i64 c)] = some (.agg #[.int .i64 a, .int .i64 b, .int .i64 c]) := by kernel_rfl
theorem ST3 (H : AH) (i off : Nat) (n : Int) (cs : List Value) (h : lookB H.bs i = some (.cells false cs)) (hl : off < cs.length) : aStore (tabT Try.prog) H 3 (.pointer (some ⟨i, off, none⟩)) (.int .i64 n) = some { H with bs := setB H.bs i (.cells false (cs.set off (.int .i64 n))) } := by
  rw [sti (z := 1) (by kernel_rfl)]
  have h1 : off + 1 ≤ cs.length := by omega
  simp [h, Value.cells, cellV, putF, setR_eq, h1, Nat.ble_eq]

/-- A kind, as the rows yield it: which row, which rank of how many. -/
noncomputable def placeV (su r q : Int) : Value := .agg #[.int .i64 su, .int .i64 r, .int .i64 q]

noncomputable def rowR (Mr : Int → Nat → AH) (HD : Int → Int → Nat → AH) (hit : Int → Int → Bool) : Nat → Int → Int → Nat → Value × AH
  | 0, _, c, m => (.bool true, Mr c m)
  | k + 1, i, c, m => if hit c i then (.bool false, HD c i m) else rowR Mr HD hit k (i + 1) (c + 1) (m + 1)

noncomputable def I112 (Mr : Int → Nat → AH) (HD : Int → Int → Nat → AH) (hit : Int → Int → Bool) (R : Value × AH) (su q : Int) (k : Nat) (A : AF) (H : AH) : Prop :=
  ∃ (i c : Int) (m : Nat), i + k = q ∧ 0 ≤ i ∧ q ≤ 200 ∧ 0 ≤ c ∧ c + k ≤ 100000 ∧ rowR Mr HD hit k i c m = R ∧ H = Mr c m ∧ A.tm.n = 23 ∧ A.marks = [] ∧ A.tm.get 0 = .int .i64 su ∧ A.tm.get 1 = .int .i64 q ∧ A.tm.get 2 = .pointer (some ⟨9, 0, none⟩) ∧ A.tm.get 3 = .pointer (some ⟨10, 0, none⟩) ∧ A.tm.get 8 = .int .i64 q ∧ A.tm.get 9 = .int .i64 i
noncomputable def Q112 (R : Value × AH) (z : AX) (A' : AF) (H : AH) : Prop := A'.tm.n = 23 ∧ A'.marks = [] ∧ H = R.2 ∧ ((z = .exit 0 ∧ R.1 = .bool true) ∨ (z = .ret ∧ R.1 = .bool false ∧ A'.tm.get 6 = .bool false))

set_option maxRecDepth 10000 in
set_option maxHeartbeats 8000000 in
theorem row_ev (call : Value → List Value → AH → Option (Value × AH)) (Mr : Int → Nat → AH) (HD : Int → Int → Nat → AH) (hit : Int → Int → Bool) (su : Int) (q : Nat) (c : Int) (m : Nat)
    (h9 : ∀ c m, lookB (Mr c m).bs 9 = some (.cells false [.func (.yield 8) #[] #[]])) (h10 : ∀ c m, lookB (Mr c m).bs 10 = some (.cells false [.int .i64 c]))
    (hset : ∀ c m c', ({ Mr c m with bs := setB (Mr c m).bs 10 (.cells false [.int .i64 c']) } : AH) = Mr c' m)
    (hy : ∀ (c r : Int) (m : Nat), call (.func (.yield 8) #[] #[]) [.int .i64 c, placeV su r q] (Mr c m) = if hit c r then some (.bool false, HD c r m) else some (.bool true, Mr c (m + 1)))
    (hq : q ≤ 200) (hc0 : 0 ≤ c) (hcq : c + q ≤ 100000) :
    evFn (tabT Try.prog) call 300 kpT 87 Try.f87 [.int .i64 su, .int .i64 q, .pointer (some ⟨9, 0, none⟩), .pointer (some ⟨10, 0, none⟩)] (Mr c m) = some (rowR Mr HD hit q 0 c m) := by
  have kp := kg58
  simp only [Prod.mk.injEq] at kp
  obtain ⟨kp1, kp2⟩ := kp
  simp only [evFn, Try.f87]
  simp [ec_skip, ec_label, ek_reg, ek_draw, ek_seq, ec_cond, ek_block, ec_loop, ec_exit, ec_ret, ec_scope, ek_nil, ek_op, opK_some, regK_some, seqK_normal, seqK_exit, seqK_ret, blockK_normal, blockK_exit, blockK_ret, evOp, vOp, hOpB, hOpU, hOp, hOpT, aAppendG_tab, aWanted, aYielded, opd, putT, closedV, aBin, intOp, sameK, mapO, joinR, hasAddr, boundOf, pushB, aAlloc, Value.cells, lookB, setB, Nat.beq_eq, tm_n_set, tm_get_set, tm_of_n, tm_of_get, tm_tr_set, tm_tr_of, cellV, putF, appR_eq, takeR_eq, dropR_eq, setR_eq, getR_eq, ↓C75, ↓C76, ↓C77, ↓C79, ↓C17, ↓C18, ↓C22, ↓C71, FA24_0, FA24_1, FA24_2, FA24_3, FA24_4, FA24_5, FA24_6, FA24_7, FA24_8, LD3, LD4, LD22, LD27, LDr, LD24, LEN22, IA22, tkc, cellAt]
  generalize hr : evLoop _ _ _ _ = r
  obtain ⟨z, A', H', rfl, hl, hmk, rfl, hz⟩ := loop_go (Q := Q112 (rowR Mr HD hit q 0 c m)) hr (I112 Mr HD hit (rowR Mr HD hit q 0 c m) su q) q (by omega) ⟨0, c, m, by omega, by omega, by omega, hc0, hcq, rfl, rfl, rfl, rfl, rfl, rfl, rfl, rfl, rfl, rfl⟩ (by
      clear hr
      rintro k A H ⟨i, c, m, him, hi0, hq1, hc0, hck, hres, rfl, hl, hmk, g0, g1, g2, g3, g8, g9⟩
      simp only [runC]
      cases k with
      | zero =>
        have hi : ¬ i < (q : Int) := by omega
        simp only [rowR] at hres
        simp [ec_skip, ec_label, ek_reg, ek_draw, ek_seq, ec_cond, ek_block, ec_loop, ec_exit, ec_ret, ec_scope, ek_nil, ek_op, opK_some, regK_some, seqK_normal, seqK_exit, seqK_ret, blockK_normal, blockK_exit, blockK_ret, evOp, vOp, hOpB, hOpU, hOp, hOpT, aAppendG_tab, aWanted, aYielded, opd, putT, closedV, aBin, intOp, sameK, mapO, joinR, hasAddr, boundOf, pushB, aAlloc, Value.cells, lookB, setB, Nat.beq_eq, tm_n_set, tm_get_set, tm_of_n, tm_of_get, tm_tr_set, tm_tr_of, cellV, putF, appR_eq, takeR_eq, dropR_eq, setR_eq, getR_eq, ↓C75, ↓C76, ↓C77, ↓C79, ↓C17, ↓C18, ↓C22, ↓C71, FA24_0, FA24_1, FA24_2, FA24_3, FA24_4, FA24_5, FA24_6, FA24_7, FA24_8, LD3, LD4, LD22, LD27, LDr, LD24, LEN22, IA22, tkc, cellAt, hl, hmk, g0, g1, g2, g3, g8, g9, hi]
        exact .inr ⟨by simp, by simp [tm_n_set, hl], rfl, by rw [← hres], .inl ⟨rfl, by rw [← hres]⟩⟩
      | succ k =>
        have hi : i < (q : Int) := by omega
        have hw : wrapI .i64 (i + 1) = i + 1 := wrapI_small (by omega) (by omega)
        have hwc : wrapI .i64 (c + 1) = c + 1 := wrapI_small (by omega) (by omega)
        have hst := fun n => ST3 (Mr c (m + 1)) 10 0 n [.int .i64 c] (h10 c (m + 1)) (by simp)
        simp only [List.set_cons_zero, hset] at hst
        have hy' := hy c i m
        simp only [placeV] at hy'
        cases hh : hit c i with
        | true =>
          rw [hh, if_pos rfl] at hy'
          simp only [rowR, hh, if_true] at hres
          simp [ec_skip, ec_label, ek_reg, ek_draw, ek_seq, ec_cond, ek_block, ec_loop, ec_exit, ec_ret, ec_scope, ek_nil, ek_op, opK_some, regK_some, seqK_normal, seqK_exit, seqK_ret, blockK_normal, blockK_exit, blockK_ret, evOp, vOp, hOpB, hOpU, hOp, hOpT, aAppendG_tab, aWanted, aYielded, opd, putT, closedV, aBin, intOp, sameK, mapO, joinR, hasAddr, boundOf, pushB, aAlloc, Value.cells, lookB, setB, Nat.beq_eq, tm_n_set, tm_get_set, tm_of_n, tm_of_get, tm_tr_set, tm_tr_of, cellV, putF, appR_eq, takeR_eq, dropR_eq, setR_eq, getR_eq, ↓C75, ↓C76, ↓C77, ↓C79, ↓C17, ↓C18, ↓C22, ↓C71, FA24_0, FA24_1, FA24_2, FA24_3, FA24_4, FA24_5, FA24_6, FA24_7, FA24_8, LD3, LD4, LD22, LD27, LDr, LD24, LEN22, IA22, tkc, cellAt, LD122, partsO, BD80, hl, hmk, g0, g1, g2, g3, g8, g9, hi, h9, h10, hy']
          exact .inr ⟨by simp, by simp [tm_n_set, hl], rfl, by rw [← hres], .inr ⟨rfl, by rw [← hres], by simp [tm_get_set, tm_n_set, hl]⟩⟩
        | false =>
          rw [hh, if_neg (by simp)] at hy'
          simp only [rowR, hh, Bool.false_eq_true, if_false] at hres
          simp [ec_skip, ec_label, ek_reg, ek_draw, ek_seq, ec_cond, ek_block, ec_loop, ec_exit, ec_ret, ec_scope, ek_nil, ek_op, opK_some, regK_some, seqK_normal, seqK_exit, seqK_ret, blockK_normal, blockK_exit, blockK_ret, evOp, vOp, hOpB, hOpU, hOp, hOpT, aAppendG_tab, aWanted, aYielded, opd, putT, closedV, aBin, intOp, sameK, mapO, joinR, hasAddr, boundOf, pushB, aAlloc, Value.cells, lookB, setB, Nat.beq_eq, tm_n_set, tm_get_set, tm_of_n, tm_of_get, tm_tr_set, tm_tr_of, cellV, putF, appR_eq, takeR_eq, dropR_eq, setR_eq, getR_eq, ↓C75, ↓C76, ↓C77, ↓C79, ↓C17, ↓C18, ↓C22, ↓C71, FA24_0, FA24_1, FA24_2, FA24_3, FA24_4, FA24_5, FA24_6, FA24_7, FA24_8, LD3, LD4, LD22, LD27, LDr, LD24, LEN22, IA22, tkc, cellAt, LD122, partsO, BD80, hl, hmk, g0, g1, g2, g3, g8, g9, hi, h9, h10, hy', hst, hwc]
          refine .inl ⟨rfl, k, rfl, i + 1, c + 1, m + 1, by omega, by omega, hq1, by omega, by omega, hres, rfl, ?_⟩
          simp [tm_get_set, tm_n_set, hl, g0, g1, g2, g3, g8, g9, hw])
  rcases hz with ⟨rfl, hz⟩ | ⟨rfl, hz, h6⟩
  · simp [ec_skip, ec_label, ek_reg, ek_draw, ek_seq, ec_cond, ek_block, ec_loop, ec_exit, ec_ret, ec_scope, ek_nil, ek_op, opK_some, regK_some, seqK_normal, seqK_exit, seqK_ret, blockK_normal, blockK_exit, blockK_ret, evOp, vOp, hOpB, hOpU, hOp, hOpT, aAppendG_tab, aWanted, aYielded, opd, putT, closedV, aBin, intOp, sameK, mapO, joinR, hasAddr, boundOf, pushB, aAlloc, Value.cells, lookB, setB, Nat.beq_eq, tm_n_set, tm_get_set, tm_of_n, tm_of_get, tm_tr_set, tm_tr_of, cellV, putF, appR_eq, takeR_eq, dropR_eq, setR_eq, getR_eq, ↓C75, ↓C76, ↓C77, ↓C79, ↓C17, ↓C18, ↓C22, ↓C71, FA24_0, FA24_1, FA24_2, FA24_3, FA24_4, FA24_5, FA24_6, FA24_7, FA24_8, LD3, LD4, LD22, LD27, LDr, LD24, LEN22, IA22, tkc, cellAt, finF, takeM, resV, hl, hmk, cleanedG, kp1, kp2]
    generalize rowR Mr HD hit q 0 c m = R at hz ⊢
    obtain ⟨a, b⟩ := R
    simp only at hz
    rw [hz]
  · simp [ec_skip, ec_label, ek_reg, ek_draw, ek_seq, ec_cond, ek_block, ec_loop, ec_exit, ec_ret, ec_scope, ek_nil, ek_op, opK_some, regK_some, seqK_normal, seqK_exit, seqK_ret, blockK_normal, blockK_exit, blockK_ret, evOp, vOp, hOpB, hOpU, hOp, hOpT, aAppendG_tab, aWanted, aYielded, opd, putT, closedV, aBin, intOp, sameK, mapO, joinR, hasAddr, boundOf, pushB, aAlloc, Value.cells, lookB, setB, Nat.beq_eq, tm_n_set, tm_get_set, tm_of_n, tm_of_get, tm_tr_set, tm_tr_of, cellV, putF, appR_eq, takeR_eq, dropR_eq, setR_eq, getR_eq, ↓C75, ↓C76, ↓C77, ↓C79, ↓C17, ↓C18, ↓C22, ↓C71, FA24_0, FA24_1, FA24_2, FA24_3, FA24_4, FA24_5, FA24_6, FA24_7, FA24_8, LD3, LD4, LD22, LD27, LDr, LD24, LEN22, IA22, tkc, cellAt, finF, takeM, resV, hl, hmk, h6, cleanedG, kp1, kp2]
    generalize rowR Mr HD hit q 0 c m = R at hz ⊢
    obtain ⟨a, b⟩ := R
    simp only at hz
    rw [hz]


end

section
set_option linter.unusedSimpArgs false
set_option linter.unusedVariables false


theorem AL3 {call : Value → List Value → AH → Option (Value × AH)} {g : Operand → Option Value} {H : AH} {d : Option Tmp} {t : TypeId} {p : String} {a : Array Edge} {gd : Option (Nat × Bool)} : evOp (tabT Try.prog) call ⟨d, .alloc 3, t, p, a, gd⟩ g H = some (.pointer (some ⟨H.next, 0, none⟩), ⟨H.next + 1, (H.next, .cells false [.int .i64 0]) :: H.bs⟩) :=
  evOp_evO.trans (eo_alloc (cs := [.int .i64 0]) (by kernel_rfl))
theorem kg57 : (kpT 86, gcT 86) = (true, false) := by kernel_rfl
theorem rowR_cases (Mr : Int → Nat → AH) (HD : Int → Int → Nat → AH) (hit : Int → Int → Bool) : ∀ (k : Nat) (i c : Int) (m : Nat), (∃ H, rowR Mr HD hit k i c m = (.bool false, H)) ∨ rowR Mr HD hit k i c m = (.bool true, Mr (c + k) (m + k))
  | 0, i, c, m => .inr (by simp [rowR])
  | k + 1, i, c, m => by
    simp only [rowR]
    split
    · exact .inl ⟨_, rfl⟩
    · rcases rowR_cases Mr HD hit k (i + 1) (c + 1) (m + 1) with h | h
      · exact .inl h
      · refine .inr ?_
        rw [h, show c + 1 + (k : Int) = c + ((k + 1 : Nat) : Int) by omega, show m + 1 + k = m + (k + 1) by omega]

noncomputable def rowsR (Mr : Int → Nat → AH) (HD : Int → Nat → Int → Int → Nat → AH) (hit : Int → Nat → Int → Int → Bool) : List (Int × Nat) → Int → Nat → AH
  | [], c, m => Mr c m
  | (su, q) :: r, c, m => match rowR Mr (HD su q) (hit su q) q 0 c m with
    | (.bool false, H) => H
    | _ => rowsR Mr HD hit r (c + q) (m + q)

noncomputable def suitRows (g : Nat → Int) : Nat → Nat → List (Int × Nat)
  | 0, _ => []
  | k + 1, i => ((i : Int), (g i).toNat) :: suitRows g k (i + 1)

noncomputable def SV.tail (s : SV) : List (Int × Nat) := [(-1, s.w.toNat), (-2, s.d.toNat), (-3, s.f.toNat)]
noncomputable def SV.rows (s : SV) : List (Int × Nat) := suitRows s.g s.n 0 ++ s.tail
noncomputable def SV.boxL (s : SV) : List Value := [.int .i64 s.p, .slice (some ⟨0, 0, some 1⟩) s.n 0, .int .i64 s.w, .int .i64 s.d, .int .i64 s.f, .int .i64 s.c, .int .i64 s.m, .int .i64 s.de, .slice (some ⟨1, 0, some 1⟩) s.k 0]

noncomputable def cl112 : Value := (.func (.func 87) #[] #[.pointer (some ⟨9, 0, none⟩), .pointer (some ⟨10, 0, none⟩)])

theorem ST3top (nx i : Nat) (a n : Int) (r : List (Nat × ABlk)) : aStore (tabT Try.prog) ⟨nx, (i, .cells false [.int .i64 a]) :: r⟩ 3 (.pointer (some ⟨i, 0, none⟩)) (.int .i64 n) = some ⟨nx, (i, .cells false [.int .i64 n]) :: r⟩ := by
  rw [ST3 _ i 0 n [.int .i64 a] (by simp [lookB]) (by simp)]
  simp [setB]


noncomputable def I111 (s : SV) (Mr : Int → Nat → AH) (HD : Int → Nat → Int → Int → Nat → AH) (hit : Int → Nat → Int → Int → Bool) (R : AH) (k : Nat) (A : AF) (H : AH) : Prop :=
  ∃ (i : Nat) (c : Int) (m : Nat), i + k = s.n ∧ 0 ≤ c ∧ c ≤ 9 * i ∧ rowsR Mr HD hit (suitRows s.g k i ++ s.tail) c m = R ∧ H = Mr c m ∧ A.tm.n = 38 ∧ A.marks = [] ∧ A.tm.get 1 = .pointer (some ⟨6, 0, none⟩) ∧ A.tm.get 4 = cl112 ∧ A.tm.get 9 = .slice (some ⟨0, 0, some 1⟩) s.n 0 ∧ A.tm.get 10 = .int .i64 s.n ∧ A.tm.get 11 = .int .i64 (i : Int)
noncomputable def Q111 (s : SV) (Mr : Int → Nat → AH) (HD : Int → Nat → Int → Int → Nat → AH) (hit : Int → Nat → Int → Int → Bool) (R : AH) (z : AX) (A' : AF) (H : AH) : Prop :=
  A'.tm.n = 38 ∧ A'.marks = [] ∧ ((z = .exit 0 ∧ A'.tm.get 1 = .pointer (some ⟨6, 0, none⟩) ∧ A'.tm.get 4 = cl112 ∧ ∃ (c : Int) (m : Nat), 0 ≤ c ∧ c ≤ 27 ∧ H = Mr c m ∧ rowsR Mr HD hit s.tail c m = R) ∨ (z = .ret ∧ H = R))

set_option maxRecDepth 10000 in
set_option maxHeartbeats 8000000 in
theorem kinds_ev (call : Value → List Value → AH → Option (Value × AH)) (s : SV) (hs : s.Small) (H0 : AH) (Mr : Int → Nat → AH) (HD : Int → Nat → Int → Int → Nat → AH) (hit : Int → Nat → Int → Int → Bool)
    (h6 : ∀ c m, lookB (Mr c m).bs 6 = some (.cells false s.boxL)) (h0 : ∀ c m, lookB (Mr c m).bs 0 = some (.ints s.g))
    (hn : H0.next = 9) (hM : Mr 0 0 = ⟨11, (10, .cells false [.int .i64 0]) :: (9, .cells false [.func (.yield 8) #[] #[]]) :: H0.bs⟩)
    (hrow : ∀ (su : Int) (q : Nat) (c : Int) (m : Nat), q ≤ 200 → 0 ≤ c → c + q ≤ 100000 → call cl112 [.int .i64 su, .int .i64 q] (Mr c m) = some (rowR Mr (HD su q) (hit su q) q 0 c m)) :
    evFn (tabT Try.prog) call 300 kpT 86 Try.f86 [.func (.yield 8) #[] #[], .pointer (some ⟨6, 0, none⟩)] H0 = some (.tuple #[], rowsR Mr HD hit s.rows 0 0) := by
  obtain ⟨nx, bs⟩ := H0
  simp only at hn hM
  subst hn
  have hM0 : lookB bs 6 = some (.cells false s.boxL) := by
    have := h6 0 0
    rw [hM] at this
    simpa [lookB, Nat.beq_eq] using this
  have hst0 : aStore (tabT Try.prog) (Mr 0 0) 3 (.pointer (some ⟨10, 0, none⟩)) (.int .i64 0) = some (Mr 0 0) := by rw [hM]; exact ST3top _ _ _ _ _
  simp only [cl112] at hrow
  simp only [SV.boxL] at h6 hM0
  have kp := kg57
  simp only [Prod.mk.injEq] at kp
  obtain ⟨kp1, kp2⟩ := kp
  simp only [evFn, Try.f86]
  simp [ec_skip, ec_label, ek_reg, ek_draw, ek_seq, ec_cond, ek_block, ec_loop, ec_exit, ec_ret, ec_scope, ek_nil, ek_op, opK_some, regK_some, seqK_normal, seqK_exit, seqK_ret, blockK_normal, blockK_exit, blockK_ret, evOp, vOp, hOpB, hOpU, hOp, hOpT, aAppendG_tab, aWanted, aYielded, opd, putT, closedV, aBin, intOp, sameK, mapO, joinR, hasAddr, boundOf, pushB, aAlloc, Value.cells, lookB, setB, Nat.beq_eq, tm_n_set, tm_get_set, tm_of_n, tm_of_get, tm_tr_set, tm_tr_of, cellV, putF, appR_eq, takeR_eq, dropR_eq, setR_eq, getR_eq, ↓C75, ↓C76, ↓C77, ↓C79, ↓C17, ↓C18, ↓C22, ↓C71, FA24_0, FA24_1, FA24_2, FA24_3, FA24_4, FA24_5, FA24_6, FA24_7, FA24_8, LD3, LD4, LD22, LD27, LDr, LD24, LEN22, IA22, tkc, cellAt, ↓AL3, hst0, h6, ← hM]
  generalize hr : evLoop _ _ _ _ = r
  obtain ⟨z, A', H', rfl, hl, hmk, hz⟩ := loop_go (Q := Q111 s Mr HD hit (rowsR Mr HD hit s.rows 0 0)) hr (I111 s Mr HD hit (rowsR Mr HD hit s.rows 0 0)) s.n (by have := hs.n; omega) ⟨0, 0, 0, by omega, by omega, by omega, rfl, rfl, rfl, rfl, rfl, rfl, rfl, rfl, rfl⟩ (by
      clear hr
      rintro k A H ⟨i, c, m, him, hc0, hc9, hres, rfl, hl, hmk, g1, g4, g9, g10, g11⟩
      simp only [runC]
      cases k with
      | zero =>
        have hi : ¬ i < s.n := by omega
        simp only [suitRows, List.nil_append] at hres
        simp [ec_skip, ec_label, ek_reg, ek_draw, ek_seq, ec_cond, ek_block, ec_loop, ec_exit, ec_ret, ec_scope, ek_nil, ek_op, opK_some, regK_some, seqK_normal, seqK_exit, seqK_ret, blockK_normal, blockK_exit, blockK_ret, evOp, vOp, hOpB, hOpU, hOp, hOpT, aAppendG_tab, aWanted, aYielded, opd, putT, closedV, aBin, intOp, sameK, mapO, joinR, hasAddr, boundOf, pushB, aAlloc, Value.cells, lookB, setB, Nat.beq_eq, tm_n_set, tm_get_set, tm_of_n, tm_of_get, tm_tr_set, tm_tr_of, cellV, putF, appR_eq, takeR_eq, dropR_eq, setR_eq, getR_eq, ↓C75, ↓C76, ↓C77, ↓C79, ↓C17, ↓C18, ↓C22, ↓C71, FA24_0, FA24_1, FA24_2, FA24_3, FA24_4, FA24_5, FA24_6, FA24_7, FA24_8, LD3, LD4, LD22, LD27, LDr, LD24, LEN22, IA22, tkc, cellAt, hl, hmk, g1, g4, g9, g10, g11, hi]
        exact .inr ⟨by simp, by simp [tm_n_set, hl], rfl, .inl ⟨rfl, by simp [tm_get_set, tm_n_set, hl, g1], by simp [tm_get_set, tm_n_set, hl, g4], c, m, hc0, by have := hs.n; omega, rfl, hres⟩⟩
      | succ k =>
        have hi : i < s.n := by omega
        have hw : wrapI .i64 ((i : Int) + 1) = ((i + 1 : Nat) : Int) := by rw [wrapI_small (by have := hs.n; omega) (by have := hs.n; omega)]; rfl
        obtain ⟨b1, b2⟩ := hs.g i hi
        have hq : ((s.g i).toNat : Int) = s.g i := by omega
        have hn3 := hs.n
        simp only [cl112] at g4
        have hr' := hrow (i : Int) (s.g i).toNat c m (by omega) hc0 (by omega)
        rw [hq] at hr'
        simp only [suitRows, List.cons_append, rowsR] at hres
        rcases rowR_cases Mr (HD (i : Int) (s.g i).toNat) (hit (i : Int) (s.g i).toNat) (s.g i).toNat 0 c m with ⟨Hx, hx⟩ | hx
        · rw [hx] at hr' hres
          simp only at hres
          simp [ec_skip, ec_label, ek_reg, ek_draw, ek_seq, ec_cond, ek_block, ec_loop, ec_exit, ec_ret, ec_scope, ek_nil, ek_op, opK_some, regK_some, seqK_normal, seqK_exit, seqK_ret, blockK_normal, blockK_exit, blockK_ret, evOp, vOp, hOpB, hOpU, hOp, hOpT, aAppendG_tab, aWanted, aYielded, opd, putT, closedV, aBin, intOp, sameK, mapO, joinR, hasAddr, boundOf, pushB, aAlloc, Value.cells, lookB, setB, Nat.beq_eq, tm_n_set, tm_get_set, tm_of_n, tm_of_get, tm_tr_set, tm_tr_of, cellV, putF, appR_eq, takeR_eq, dropR_eq, setR_eq, getR_eq, ↓C75, ↓C76, ↓C77, ↓C79, ↓C17, ↓C18, ↓C22, ↓C71, FA24_0, FA24_1, FA24_2, FA24_3, FA24_4, FA24_5, FA24_6, FA24_7, FA24_8, LD3, LD4, LD22, LD27, LDr, LD24, LEN22, IA22, tkc, cellAt, hl, hmk, g1, g4, g9, g10, g11, hi, h0, hr']
          exact .inr ⟨by simp, by simp [tm_n_set, hl], rfl, .inr ⟨rfl, hres⟩⟩
        · rw [hx] at hr' hres
          simp only at hres
          have hmax : max (s.g i) 0 = s.g i := by omega
          simp [ec_skip, ec_label, ek_reg, ek_draw, ek_seq, ec_cond, ek_block, ec_loop, ec_exit, ec_ret, ec_scope, ek_nil, ek_op, opK_some, regK_some, seqK_normal, seqK_exit, seqK_ret, blockK_normal, blockK_exit, blockK_ret, evOp, vOp, hOpB, hOpU, hOp, hOpT, aAppendG_tab, aWanted, aYielded, opd, putT, closedV, aBin, intOp, sameK, mapO, joinR, hasAddr, boundOf, pushB, aAlloc, Value.cells, lookB, setB, Nat.beq_eq, tm_n_set, tm_get_set, tm_of_n, tm_of_get, tm_tr_set, tm_tr_of, cellV, putF, appR_eq, takeR_eq, dropR_eq, setR_eq, getR_eq, ↓C75, ↓C76, ↓C77, ↓C79, ↓C17, ↓C18, ↓C22, ↓C71, FA24_0, FA24_1, FA24_2, FA24_3, FA24_4, FA24_5, FA24_6, FA24_7, FA24_8, LD3, LD4, LD22, LD27, LDr, LD24, LEN22, IA22, tkc, cellAt, hl, hmk, g1, g4, g9, g10, g11, hi, h0, hr', hmax]
          refine .inl ⟨rfl, k, rfl, i + 1, c + (s.g i).toNat, m + (s.g i).toNat, by omega, by omega, by omega, hres, by rw [hq], ?_⟩
          simp [tm_get_set, tm_n_set, hl, g1, g4, g9, g10, g11, hw, cl112])
  rcases hz with ⟨rfl, g1, g4, c, m, hc0, hc9, rfl, hz⟩ | ⟨rfl, hz⟩
  · obtain ⟨w1, w2⟩ := hs.w
    obtain ⟨d1, d2⟩ := hs.d
    obtain ⟨f1, f2⟩ := hs.f
    have qw : ((s.w).toNat : Int) = s.w := by omega
    have qd : ((s.d).toNat : Int) = s.d := by omega
    have qf : ((s.f).toNat : Int) = s.f := by omega
    simp only [cl112] at g4
    have rw_ := hrow (-1) s.w.toNat c m (by omega) hc0 (by omega)
    rw [qw] at rw_
    simp only [SV.tail, rowsR] at hz
    rcases rowR_cases Mr (HD (-1) s.w.toNat) (hit (-1) s.w.toNat) s.w.toNat 0 c m with ⟨Hx, hx⟩ | hx
    · rw [hx] at rw_ hz
      simp only at hz
      simp [ec_skip, ec_label, ek_reg, ek_draw, ek_seq, ec_cond, ek_block, ec_loop, ec_exit, ec_ret, ec_scope, ek_nil, ek_op, opK_some, regK_some, seqK_normal, seqK_exit, seqK_ret, blockK_normal, blockK_exit, blockK_ret, evOp, vOp, hOpB, hOpU, hOp, hOpT, aAppendG_tab, aWanted, aYielded, opd, putT, closedV, aBin, intOp, sameK, mapO, joinR, hasAddr, boundOf, pushB, aAlloc, Value.cells, lookB, setB, Nat.beq_eq, tm_n_set, tm_get_set, tm_of_n, tm_of_get, tm_tr_set, tm_tr_of, cellV, putF, appR_eq, takeR_eq, dropR_eq, setR_eq, getR_eq, ↓C75, ↓C76, ↓C77, ↓C79, ↓C17, ↓C18, ↓C22, ↓C71, FA24_0, FA24_1, FA24_2, FA24_3, FA24_4, FA24_5, FA24_6, FA24_7, FA24_8, LD3, LD4, LD22, LD27, LDr, LD24, LEN22, IA22, tkc, cellAt, finF, takeM, resV, hl, hmk, g1, g4, h6, rw_, cleanedG, kp1, kp2, hz]
    · rw [hx] at rw_ hz
      simp only at hz
      have rd := hrow (-2) s.d.toNat (c + s.w.toNat) (m + s.w.toNat) (by omega) (by omega) (by omega)
      rw [qd] at rd
      rcases rowR_cases Mr (HD (-2) s.d.toNat) (hit (-2) s.d.toNat) s.d.toNat 0 (c + s.w.toNat) (m + s.w.toNat) with ⟨Hx, hx⟩ | hx
      · rw [hx] at rd hz
        simp only at hz
        rw [qw] at rd rw_
        simp [ec_skip, ec_label, ek_reg, ek_draw, ek_seq, ec_cond, ek_block, ec_loop, ec_exit, ec_ret, ec_scope, ek_nil, ek_op, opK_some, regK_some, seqK_normal, seqK_exit, seqK_ret, blockK_normal, blockK_exit, blockK_ret, evOp, vOp, hOpB, hOpU, hOp, hOpT, aAppendG_tab, aWanted, aYielded, opd, putT, closedV, aBin, intOp, sameK, mapO, joinR, hasAddr, boundOf, pushB, aAlloc, Value.cells, lookB, setB, Nat.beq_eq, tm_n_set, tm_get_set, tm_of_n, tm_of_get, tm_tr_set, tm_tr_of, cellV, putF, appR_eq, takeR_eq, dropR_eq, setR_eq, getR_eq, ↓C75, ↓C76, ↓C77, ↓C79, ↓C17, ↓C18, ↓C22, ↓C71, FA24_0, FA24_1, FA24_2, FA24_3, FA24_4, FA24_5, FA24_6, FA24_7, FA24_8, LD3, LD4, LD22, LD27, LDr, LD24, LEN22, IA22, tkc, cellAt, finF, takeM, resV, hl, hmk, g1, g4, h6, rw_, rd, cleanedG, kp1, kp2, hz]
      · rw [hx] at rd hz
        simp only at hz
        have rf := hrow (-3) s.f.toNat (c + s.w.toNat + s.d.toNat) (m + s.w.toNat + s.d.toNat) (by omega) (by omega) (by omega)
        rw [qf] at rf
        rcases rowR_cases Mr (HD (-3) s.f.toNat) (hit (-3) s.f.toNat) s.f.toNat 0 (c + s.w.toNat + s.d.toNat) (m + s.w.toNat + s.d.toNat) with ⟨Hx, hx⟩ | hx
        · rw [hx] at rf hz
          simp only at hz
          rw [qw] at rd rw_ rf
          rw [qd] at rd rf
          simp [ec_skip, ec_label, ek_reg, ek_draw, ek_seq, ec_cond, ek_block, ec_loop, ec_exit, ec_ret, ec_scope, ek_nil, ek_op, opK_some, regK_some, seqK_normal, seqK_exit, seqK_ret, blockK_normal, blockK_exit, blockK_ret, evOp, vOp, hOpB, hOpU, hOp, hOpT, aAppendG_tab, aWanted, aYielded, opd, putT, closedV, aBin, intOp, sameK, mapO, joinR, hasAddr, boundOf, pushB, aAlloc, Value.cells, lookB, setB, Nat.beq_eq, tm_n_set, tm_get_set, tm_of_n, tm_of_get, tm_tr_set, tm_tr_of, cellV, putF, appR_eq, takeR_eq, dropR_eq, setR_eq, getR_eq, ↓C75, ↓C76, ↓C77, ↓C79, ↓C17, ↓C18, ↓C22, ↓C71, FA24_0, FA24_1, FA24_2, FA24_3, FA24_4, FA24_5, FA24_6, FA24_7, FA24_8, LD3, LD4, LD22, LD27, LDr, LD24, LEN22, IA22, tkc, cellAt, finF, takeM, resV, hl, hmk, g1, g4, h6, rw_, rd, rf, cleanedG, kp1, kp2, hz]
        · rw [hx] at rf hz
          simp only at hz
          rw [qw] at rd rw_ rf
          rw [qd] at rd rf
          simp [ec_skip, ec_label, ek_reg, ek_draw, ek_seq, ec_cond, ek_block, ec_loop, ec_exit, ec_ret, ec_scope, ek_nil, ek_op, opK_some, regK_some, seqK_normal, seqK_exit, seqK_ret, blockK_normal, blockK_exit, blockK_ret, evOp, vOp, hOpB, hOpU, hOp, hOpT, aAppendG_tab, aWanted, aYielded, opd, putT, closedV, aBin, intOp, sameK, mapO, joinR, hasAddr, boundOf, pushB, aAlloc, Value.cells, lookB, setB, Nat.beq_eq, tm_n_set, tm_get_set, tm_of_n, tm_of_get, tm_tr_set, tm_tr_of, cellV, putF, appR_eq, takeR_eq, dropR_eq, setR_eq, getR_eq, ↓C75, ↓C76, ↓C77, ↓C79, ↓C17, ↓C18, ↓C22, ↓C71, FA24_0, FA24_1, FA24_2, FA24_3, FA24_4, FA24_5, FA24_6, FA24_7, FA24_8, LD3, LD4, LD22, LD27, LDr, LD24, LEN22, IA22, tkc, cellAt, finF, takeM, resV, hl, hmk, g1, g4, h6, rw_, rd, rf, cleanedG, kp1, kp2, ← hz, qw, qd, qf]
  · subst hz
    simp [ec_skip, ec_label, ek_reg, ek_draw, ek_seq, ec_cond, ek_block, ec_loop, ec_exit, ec_ret, ec_scope, ek_nil, ek_op, opK_some, regK_some, seqK_normal, seqK_exit, seqK_ret, blockK_normal, blockK_exit, blockK_ret, evOp, vOp, hOpB, hOpU, hOp, hOpT, aAppendG_tab, aWanted, aYielded, opd, putT, closedV, aBin, intOp, sameK, mapO, joinR, hasAddr, boundOf, pushB, aAlloc, Value.cells, lookB, setB, Nat.beq_eq, tm_n_set, tm_get_set, tm_of_n, tm_of_get, tm_tr_set, tm_tr_of, cellV, putF, appR_eq, takeR_eq, dropR_eq, setR_eq, getR_eq, ↓C75, ↓C76, ↓C77, ↓C79, ↓C17, ↓C18, ↓C22, ↓C71, FA24_0, FA24_1, FA24_2, FA24_3, FA24_4, FA24_5, FA24_6, FA24_7, FA24_8, LD3, LD4, LD22, LD27, LDr, LD24, LEN22, IA22, tkc, cellAt, finF, takeM, resV, hl, hmk, cleanedG, kp1, kp2]


end

section
set_option linter.unusedSimpArgs false
set_option linter.unusedVariables false

theorem kf : kpT 49 = false := by kernel_rfl
theorem AL43 {call : Value → List Value → AH → Option (Value × AH)} {g : Operand → Option Value} {H : AH} {d : Option Tmp} {t : TypeId} {p : String} {a : Array Edge} {gd : Option (Nat × Bool)} : evOp (tabT Try.prog) call ⟨d, .alloc 69, t, p, a, gd⟩ g H = some (.pointer (some ⟨H.next, 0, none⟩), ⟨H.next + 1, (H.next, .cells false [.int .i64 0, .int .i64 0, .int .i64 0]) :: H.bs⟩) :=
  evOp_evO.trans (eo_alloc (cs := [.int .i64 0, .int .i64 0, .int .i64 0]) (by kernel_rfl))
theorem AL4 {call : Value → List Value → AH → Option (Value × AH)} {g : Operand → Option Value} {H : AH} {d : Option Tmp} {t : TypeId} {p : String} {a : Array Edge} {gd : Option (Nat × Bool)} : evOp (tabT Try.prog) call ⟨d, .alloc 4, t, p, a, gd⟩ g H = some (.pointer (some ⟨H.next, 0, none⟩), ⟨H.next + 1, (H.next, .cells false [.bool false]) :: H.bs⟩) :=
  evOp_evO.trans (eo_alloc (cs := [.bool false]) (by kernel_rfl))
theorem ST43 (H : AH) (i off : Nat) (v : Value) : aStore (tabT Try.prog) H 69 (.pointer (some ⟨i, off, none⟩)) v = match lookB H.bs i with
    | some (.cells false cs) => if Nat.beq v.cells.toList.length 3 && Nat.ble (off + v.cells.toList.length) cs.length && v.cells.toList.all cellV then some { H with bs := setB H.bs i (.cells false (putF cs off v.cells.toList)) } else none
    | _ => none := sti (by kernel_rfl) H i off v
theorem STb (H : AH) (i off : Nat) (v : Value) : aStore (tabT Try.prog) H 4 (.pointer (some ⟨i, off, none⟩)) v = match lookB H.bs i with
    | some (.cells false cs) => if Nat.beq v.cells.toList.length 1 && Nat.ble (off + v.cells.toList.length) cs.length && v.cells.toList.all cellV then some { H with bs := setB H.bs i (.cells false (putF cs off v.cells.toList)) } else none
    | _ => none := sti (by kernel_rfl) H i off v
theorem LD43 (H : AH) (i off : Nat) : aLoad (tabT Try.prog) H 69 (.pointer (some ⟨i, off, none⟩)) = match lookB H.bs i with | some (.cells _ cs) => (takeCells cs off 3).map (fun l => .agg l.toArray) | _ => none := lda (by kernel_rfl) H i off
theorem BD80z : aBuild (tabT Try.prog) 69 [] = some (.agg #[.int .i64 0, .int .i64 0, .int .i64 0]) := by kernel_rfl
theorem ec_range {T : TypeId → Option TI} {call : Value → List Value → AH → Option (Value × AH)} {lf : Nat} {fn : FuncId} {A : AF} {H : AH} {f : Operand} {ps : Array Tmp} {a b : Code} : evCode T call lf fn none (.rangeFunc f ps a b) A H = evRange call fn f ps a b A H := rfl
def rfOf : Code → Option (Code × Code)
  | .rangeFunc _ _ a b => some (a, b)
  | .seq x y => match rfOf x with
    | some r => some r
    | none => rfOf y
  | .block _ c => rfOf c
  | _ => none

noncomputable def codeA : Code := ((Try.f49.body.bind rfOf).getD (.skip, .skip)).1
noncomputable def codeB : Code := ((Try.f49.body.bind rfOf).getD (.skip, .skip)).2

/-- The temporaries of find when its loop begins. -/
noncomputable def tmF (s : SV) (kind : Int) : Tm := ((((((((((Tm.of [s.val, .int .i64 kind] 21).set 2 (.pointer (some ⟨2, 0, none⟩))).set 3 (.pointer (some ⟨3, 0, none⟩))).set 4 (.pointer (some ⟨4, 0, none⟩))).set 5 (.pointer (some ⟨5, 0, none⟩))).set 8 s.val).set 9 (.bool true)).set 10 (.bool false)).set 12 s.val).set 13 (.func (.func 86) #[] #[.pointer (some ⟨6, 0, none⟩)]))
def zeroPl : List Value := [.int .i64 0, .int .i64 0, .int .i64 0]

noncomputable def MF1 (s : SV) (kind : Int) (pl : List Value) (ok : Bool) (L : ABlk) (c : Int) (m : Nat) : AH :=
  ⟨m + 11, [(10, .cells false [.int .i64 c]), (9, .cells false [.func (.yield 8) #[] #[]]), (8, L), (7, .defd), (6, .cells false s.boxL), (5, .cells false [.bool ok]), (4, .cells false pl), (3, .cells false [.int .i64 kind]), (2, .cells false s.boxL), (1, .ints s.h), (0, .ints s.g)]⟩

noncomputable def loopF (s : SV) (kind : Int) (st : LoopState) (p : Option Code) : ABlk := .loop st p 49 (tmF s kind) [14, 15] codeA codeB

set_option maxRecDepth 10000 in
set_option maxHeartbeats 8000000 in
theorem yield_find (call : Value → List Value → AH → Option (Value × AH)) (s : SV) (kind c su r q : Int) (m : Nat) :
    evRound (tabT Try.prog) call 300 kpT 8 [.int .i64 c, placeV su r q] (MF1 s kind zeroPl false (loopF s kind .ready none) c m) =
      if c = kind then some (.bool false, MF1 s kind [.int .i64 su, .int .i64 r, .int .i64 q] true (loopF s kind .done (some .ret)) c (m + 1))
      else some (.bool true, MF1 s kind zeroPl false (loopF s kind .ready none) c (m + 1)) := by
  have kp := kf
  simp only [evRound, MF1, loopF, codeA, codeB, Try.f49, Option.bind_some, rfOf, Option.getD_some, placeV, zeroPl, tmF]
  by_cases hc : c = kind
  · have hc' : (c == kind) = true := by simpa using hc
    simp [ec_skip, ec_label, ek_reg, ek_draw, ek_seq, ec_cond, ek_block, ec_loop, ec_exit, ec_ret, ec_scope, ek_nil, ek_op, opK_some, regK_some, seqK_normal, seqK_exit, seqK_ret, blockK_normal, blockK_exit, blockK_ret, evOp, vOp, hOpB, hOpU, hOp, hOpT, aAppendG_tab, aWanted, aYielded, opd, putT, closedV, aBin, intOp, sameK, mapO, joinR, hasAddr, boundOf, pushB, aAlloc, Value.cells, lookB, setB, Nat.beq_eq, tm_n_set, tm_get_set, tm_of_n, tm_of_get, tm_tr_set, tm_tr_of, cellV, putF, appR_eq, takeR_eq, dropR_eq, setR_eq, getR_eq, ↓C75, ↓C76, ↓C77, ↓C79, ↓C17, ↓C18, ↓C22, ↓C71, FA24_0, FA24_1, FA24_2, FA24_3, FA24_4, FA24_5, FA24_6, FA24_7, FA24_8, LD3, LD4, LD22, LD27, LDr, LD24, LEN22, IA22, tkc, cellAt, setArgs, endOf, ↓AL43, ST43, STb, LD43, cleaned, kp, below, Nat.blt_eq, hc, hc']
  · have hc' : (c == kind) = false := by simpa using hc
    simp [ec_skip, ec_label, ek_reg, ek_draw, ek_seq, ec_cond, ek_block, ec_loop, ec_exit, ec_ret, ec_scope, ek_nil, ek_op, opK_some, regK_some, seqK_normal, seqK_exit, seqK_ret, blockK_normal, blockK_exit, blockK_ret, evOp, vOp, hOpB, hOpU, hOp, hOpT, aAppendG_tab, aWanted, aYielded, opd, putT, closedV, aBin, intOp, sameK, mapO, joinR, hasAddr, boundOf, pushB, aAlloc, Value.cells, lookB, setB, Nat.beq_eq, tm_n_set, tm_get_set, tm_of_n, tm_of_get, tm_tr_set, tm_tr_of, cellV, putF, appR_eq, takeR_eq, dropR_eq, setR_eq, getR_eq, ↓C75, ↓C76, ↓C77, ↓C79, ↓C17, ↓C18, ↓C22, ↓C71, FA24_0, FA24_1, FA24_2, FA24_3, FA24_4, FA24_5, FA24_6, FA24_7, FA24_8, LD3, LD4, LD22, LD27, LDr, LD24, LEN22, IA22, tkc, cellAt, setArgs, endOf, ↓AL43, ST43, STb, LD43, cleaned, kp, below, Nat.blt_eq, hc, hc']
/-- The row of a number: which row, which place in it, how long it is. -/
noncomputable def findRows : List (Int × Nat) → Int → Int → Option (Int × Int × Int)
  | [], _, _ => none
  | (su, q) :: r, c, kind => if c ≤ kind ∧ kind < c + q then some (su, kind - c, q) else findRows r (c + q) kind

noncomputable def MrF (s : SV) (kind : Int) : Int → Nat → AH := MF1 s kind zeroPl false (loopF s kind .ready none)
noncomputable def HDF (s : SV) (kind : Int) (su : Int) (q : Nat) (c r : Int) (m : Nat) : AH := MF1 s kind [.int .i64 su, .int .i64 r, .int .i64 q] true (loopF s kind .done (some .ret)) c (m + 1)
noncomputable def hitF (kind : Int) (_ : Int) (_ : Nat) (c _ : Int) : Bool := c == kind

theorem rowF (s : SV) (kind su : Int) (q : Nat) : ∀ (k : Nat) (i c : Int) (m : Nat),
    (c ≤ kind ∧ kind < c + k ∧ ∃ m', rowR (MrF s kind) (HDF s kind su q) (hitF kind su q) k i c m = (.bool false, HDF s kind su q kind (i + (kind - c)) m')) ∨
    (¬ (c ≤ kind ∧ kind < c + k) ∧ rowR (MrF s kind) (HDF s kind su q) (hitF kind su q) k i c m = (.bool true, MrF s kind (c + k) (m + k)))
  | 0, i, c, m => .inr ⟨by omega, by simp [rowR]⟩
  | k + 1, i, c, m => by
    simp only [rowR, hitF]
    by_cases hc : c = kind
    · have hc' : (c == kind) = true := by simpa using hc
      subst hc
      exact .inl ⟨by omega, by omega, m, by simp⟩
    · have hc' : (c == kind) = false := by simpa using hc
      simp only [hc', Bool.false_eq_true, if_false]
      rcases rowF s kind su q k (i + 1) (c + 1) (m + 1) with ⟨h1, h2, m', h3⟩ | ⟨h1, h3⟩
      · refine .inl ⟨by omega, by omega, m', ?_⟩
        rw [← show i + 1 + (kind - (c + 1)) = i + (kind - c) by omega]
        exact h3
      · refine .inr ⟨by omega, ?_⟩
        rw [show c + ((k + 1 : Nat) : Int) = c + 1 + (k : Int) by omega, show m + (k + 1) = m + 1 + k by omega]
        exact h3

theorem rowsF (s : SV) (kind : Int) : ∀ (l : List (Int × Nat)) (c : Int) (m : Nat),
    (∃ su r q m', findRows l c kind = some (su, r, q) ∧ rowsR (MrF s kind) (HDF s kind) (hitF kind) l c m = MF1 s kind [.int .i64 su, .int .i64 r, .int .i64 q] true (loopF s kind .done (some .ret)) kind m') ∨
    (findRows l c kind = none ∧ ∃ c' m', rowsR (MrF s kind) (HDF s kind) (hitF kind) l c m = MF1 s kind zeroPl false (loopF s kind .ready none) c' m')
  | [], c, m => .inr ⟨rfl, c, m, rfl⟩
  | (su, q) :: r, c, m => by
    simp only [rowsR, findRows]
    rcases rowF s kind su q q 0 c m with ⟨h1, h2, m', h3⟩ | ⟨h1, h3⟩
    · rw [h3, if_pos ⟨h1, h2⟩]
      exact .inl ⟨su, kind - c, q, m' + 1, rfl, by simp [HDF]⟩
    · rw [h3, if_neg h1]
      exact rowsF s kind r (c + q) (m + q)

/-- What find answers. -/
noncomputable def SV.find (s : SV) (kind : Int) : Option (Int × Int × Int) := if s.err = 0 then findRows s.rows 0 kind else none
noncomputable def findV (x : Option (Int × Int × Int)) : Value :=
  match x with
  | some (su, r, q) => .tuple #[placeV su r q, .bool true]
  | none => .tuple #[placeV 0 0 0, .bool false]

/-- The memory when the loop begins. -/
noncomputable def startF (s : SV) (kind : Int) : AH := ⟨9, [(8, loopF s kind .ready none), (7, .defd), (6, .cells false s.boxL), (5, .cells false [.bool false]), (4, .cells false zeroPl), (3, .cells false [.int .i64 kind]), (2, .cells false s.boxL), (1, .ints s.h), (0, .ints s.g)]⟩
noncomputable def SV.ok (s : SV) : Bool := s.err == 0
theorem Nvalid : ((tabT Try.prog) 24).map (fun z => (z.ex.nat 57, z.ex.mnz 57)) = some (none, none) := by kernel_rfl
theorem Cvalid (call : Value → List Value → AH → Option (Value × AH)) {tm : Tm} {i : Nat} {H : AH} {d : Option Tmp} {t : TypeId} {p : String} {a : Array Edge} {gd : Option (Nat × Bool)} : evOp (tabT Try.prog) call ⟨d, .call ⟨.value (.func 57), #[.tmp i], #[24]⟩, t, p, a, gd⟩ (opd tm) H = call (.func (.func 57) #[] #[]) [tm.get i] H :=
  evOp_evO.trans (eo_call1 rfl rfl Nvalid)
theorem Nkinds : ((tabT Try.prog) 24).map (fun z => (z.ex.nat 58, z.ex.mnz 58)) = some (none, none) := by kernel_rfl
theorem Ckinds (call : Value → List Value → AH → Option (Value × AH)) {tm : Tm} {i : Nat} {H : AH} {d : Option Tmp} {t : TypeId} {p : String} {a : Array Edge} {gd : Option (Nat × Bool)} : evOp (tabT Try.prog) call ⟨d, .call ⟨.value (.func 58), #[.tmp i], #[24]⟩, t, p, a, gd⟩ (opd tm) H = call (.func (.func 58) #[] #[]) [tm.get i] H :=
  evOp_evO.trans (eo_call1 rfl rfl Nkinds)
set_option maxRecDepth 10000 in
set_option maxHeartbeats 8000000 in
theorem find_ev (call : Value → List Value → AH → Option (Value × AH)) (s : SV) (kind : Int)
    (hv : ∀ (H : AH), lookB H.bs 0 = some (.ints s.g) → lookB H.bs 1 = some (.ints s.h) → call (.func (.func 57) #[] #[]) [s.val] H = some (.bool s.ok, H))
    (h87 : ∀ (H : AH), lookB H.bs 0 = some (.ints s.g) → lookB H.bs 1 = some (.ints s.h) → call (.func (.func 58) #[] #[]) [s.val] H = some (.func (.func 86) #[] #[.pointer (some ⟨H.next, 0, none⟩)], pushB H (.cells false s.boxL)))
    (h111 : s.err = 0 → call (.func (.func 86) #[] #[.pointer (some ⟨6, 0, none⟩)]) [.func (.yield 8) #[] #[]] (startF s kind) = some (.tuple #[], rowsR (MrF s kind) (HDF s kind) (hitF kind) s.rows 0 0)) :
    ∃ H', evFn (tabT Try.prog) call 300 kpT 49 Try.f49 [s.val, .int .i64 kind] s.hp = some (findV (s.find kind), H') := by
  have kp := kf
  by_cases c1 : s.err = 0
  · have c1' : s.ok = true := by simp [SV.ok, c1]
    have h := h111 c1
    rcases rowsF s kind s.rows 0 0 with ⟨su, r, q, m', g1, g2⟩ | ⟨g1, c', m', g2⟩
    · rw [g2] at h
      simp only [startF, MF1, loopF, codeA, codeB, Try.f49, Option.bind_some, rfOf, Option.getD_some, tmF, SV.boxL, SV.val, zeroPl, undef] at h
      simp only [SV.val, SV.boxL] at hv h87
      simp only [evFn, Try.f49, SV.val, SV.hp, SV.find, if_pos c1, g1]
      simp [ec_skip, ec_label, ek_reg, ek_draw, ek_seq, ec_cond, ek_block, ec_loop, ec_exit, ec_ret, ec_scope, ek_nil, ek_op, opK_some, regK_some, seqK_normal, seqK_exit, seqK_ret, blockK_normal, blockK_exit, blockK_ret, evOp, vOp, hOpB, hOpU, hOp, hOpT, aAppendG_tab, aWanted, aYielded, opd, putT, closedV, aBin, intOp, sameK, mapO, joinR, hasAddr, boundOf, pushB, aAlloc, Value.cells, lookB, setB, Nat.beq_eq, tm_n_set, tm_get_set, tm_of_n, tm_of_get, tm_tr_set, tm_tr_of, cellV, putF, appR_eq, takeR_eq, dropR_eq, setR_eq, getR_eq, ↓C75, ↓C76, ↓C77, ↓C79, ↓C17, ↓C18, ↓C22, ↓C71, FA24_0, FA24_1, FA24_2, FA24_3, FA24_4, FA24_5, FA24_6, FA24_7, FA24_8, LD3, LD4, LD22, LD27, LDr, LD24, LEN22, IA22, tkc, cellAt, ↓AL43, ↓AL4, ↓Cvalid, ↓Ckinds, hv, h87, c1', ec_range, evRange, h, finF, takeM, resV, LD43, dropB, cleanedG, kp, below, findV, placeV]
    · rw [g2] at h
      simp only [startF, MF1, loopF, codeA, codeB, Try.f49, Option.bind_some, rfOf, Option.getD_some, tmF, SV.boxL, SV.val, zeroPl, undef] at h
      simp only [SV.val, SV.boxL] at hv h87
      simp only [evFn, Try.f49, SV.val, SV.hp, SV.find, if_pos c1, g1]
      simp [ec_skip, ec_label, ek_reg, ek_draw, ek_seq, ec_cond, ek_block, ec_loop, ec_exit, ec_ret, ec_scope, ek_nil, ek_op, opK_some, regK_some, seqK_normal, seqK_exit, seqK_ret, blockK_normal, blockK_exit, blockK_ret, evOp, vOp, hOpB, hOpU, hOp, hOpT, aAppendG_tab, aWanted, aYielded, opd, putT, closedV, aBin, intOp, sameK, mapO, joinR, hasAddr, boundOf, pushB, aAlloc, Value.cells, lookB, setB, Nat.beq_eq, tm_n_set, tm_get_set, tm_of_n, tm_of_get, tm_tr_set, tm_tr_of, cellV, putF, appR_eq, takeR_eq, dropR_eq, setR_eq, getR_eq, ↓C75, ↓C76, ↓C77, ↓C79, ↓C17, ↓C18, ↓C22, ↓C71, FA24_0, FA24_1, FA24_2, FA24_3, FA24_4, FA24_5, FA24_6, FA24_7, FA24_8, LD3, LD4, LD22, LD27, LDr, LD24, LEN22, IA22, tkc, cellAt, ↓AL43, ↓AL4, ↓Cvalid, ↓Ckinds, hv, h87, c1', ec_range, evRange, h, finF, takeM, resV, LD43, ST43, STb, BD80z, partsO, dropB, cleanedG, kp, below, findV, placeV]
  · have c1' : s.ok = false := by simp [SV.ok, c1]
    simp only [SV.val, SV.boxL] at hv h87
    simp only [evFn, Try.f49, SV.val, SV.hp, SV.find, if_neg c1]
    simp [ec_skip, ec_label, ek_reg, ek_draw, ek_seq, ec_cond, ek_block, ec_loop, ec_exit, ec_ret, ec_scope, ek_nil, ek_op, opK_some, regK_some, seqK_normal, seqK_exit, seqK_ret, blockK_normal, blockK_exit, blockK_ret, evOp, vOp, hOpB, hOpU, hOp, hOpT, aAppendG_tab, aWanted, aYielded, opd, putT, closedV, aBin, intOp, sameK, mapO, joinR, hasAddr, boundOf, pushB, aAlloc, Value.cells, lookB, setB, Nat.beq_eq, tm_n_set, tm_get_set, tm_of_n, tm_of_get, tm_tr_set, tm_tr_of, cellV, putF, appR_eq, takeR_eq, dropR_eq, setR_eq, getR_eq, ↓C75, ↓C76, ↓C77, ↓C79, ↓C17, ↓C18, ↓C22, ↓C71, FA24_0, FA24_1, FA24_2, FA24_3, FA24_4, FA24_5, FA24_6, FA24_7, FA24_8, LD3, LD4, LD22, LD27, LDr, LD24, LEN22, IA22, tkc, cellAt, ↓AL43, ↓AL4, ↓Cvalid, ↓Ckinds, hv, h87, c1', finF, takeM, resV, LD43, ST43, STb, BD80z, partsO, cleanedG, kp, below, findV, placeV]

end

section
set_option linter.unusedSimpArgs false
set_option linter.unusedVariables false

theorem Nsize : ((tabT Try.prog) 24).map (fun z => (z.ex.nat 38, z.ex.mnz 38)) = some (none, none) := by kernel_rfl
theorem Csize (call : Value → List Value → AH → Option (Value × AH)) {tm : Tm} {i : Nat} {H : AH} {d : Option Tmp} {t : TypeId} {p : String} {a : Array Edge} {gd : Option (Nat × Bool)} : evOp (tabT Try.prog) call ⟨d, .call ⟨.value (.func 38), #[.tmp i], #[24]⟩, t, p, a, gd⟩ (opd tm) H = call (.func (.func 38) #[] #[]) [tm.get i] H :=
  evOp_evO.trans (eo_call1 rfl rfl Nsize)
theorem NvalidW : ((tabT Try.prog) 24).map (fun z => (z.ex.nat 57, z.ex.mnz 57)) = some (none, none) := by kernel_rfl
theorem CvalidW (call : Value → List Value → AH → Option (Value × AH)) {tm : Tm} {i : Nat} {H : AH} {d : Option Tmp} {t : TypeId} {p : String} {a : Array Edge} {gd : Option (Nat × Bool)} : evOp (tabT Try.prog) call ⟨d, .call ⟨.value (.func 57), #[.tmp i], #[24]⟩, t, p, a, gd⟩ (opd tm) H = call (.func (.func 57) #[] #[]) [tm.get i] H :=
  evOp_evO.trans (eo_call1 rfl rfl NvalidW)
theorem Npsize : ((tabT Try.prog) 24).map (fun z => (z.ex.nat 80, z.ex.mnz 80)) = some (none, none) := by kernel_rfl
theorem Cpsize (call : Value → List Value → AH → Option (Value × AH)) {tm : Tm} {i : Nat} {H : AH} {d : Option Tmp} {t : TypeId} {p : String} {a : Array Edge} {gd : Option (Nat × Bool)} : evOp (tabT Try.prog) call ⟨d, .call ⟨.value (.func 80), #[.tmp i], #[24]⟩, t, p, a, gd⟩ (opd tm) H = call (.func (.func 80) #[] #[]) [tm.get i] H :=
  evOp_evO.trans (eo_call1 rfl rfl Npsize)
theorem Nrsize : ((tabT Try.prog) 24).map (fun z => (z.ex.nat 54, z.ex.mnz 54)) = some (none, none) := by kernel_rfl
theorem Crsize (call : Value → List Value → AH → Option (Value × AH)) {tm : Tm} {i : Nat} {H : AH} {d : Option Tmp} {t : TypeId} {p : String} {a : Array Edge} {gd : Option (Nat × Bool)} : evOp (tabT Try.prog) call ⟨d, .call ⟨.value (.func 54), #[.tmp i], #[24]⟩, t, p, a, gd⟩ (opd tm) H = call (.func (.func 54) #[] #[]) [tm.get i] H :=
  evOp_evO.trans (eo_call1 rfl rfl Nrsize)
theorem Cshuf (call : Value → List Value → AH → Option (Value × AH)) {tm : Tm} {i j k : Nat} {H : AH} {d : Option Tmp} {t : TypeId} {p : String} {a : Array Edge} {gd : Option (Nat × Bool)} : evOp (tabT Try.prog) call ⟨d, .call ⟨.value (.func 81), #[.tmp i, .tmp j, .tmp k], #[106, 3, 108]⟩, t, p, a, gd⟩ (opd tm) H = call (.func (.func 81) #[] #[]) [tm.get i, tm.get j, tm.get k] H :=
  evOp_evO.trans (eo_call3 rfl rfl rfl rfl)
theorem Ncopied : ((tabT Try.prog) 22).map (fun z => (z.ex.nat 73, z.ex.mnz 73)) = some (none, none) := by kernel_rfl
theorem Ccopied (call : Value → List Value → AH → Option (Value × AH)) {tm : Tm} {i : Nat} {H : AH} {d : Option Tmp} {t : TypeId} {p : String} {a : Array Edge} {gd : Option (Nat × Bool)} : evOp (tabT Try.prog) call ⟨d, .call ⟨.value (.func 73), #[.tmp i], #[22]⟩, t, p, a, gd⟩ (opd tm) H = call (.func (.func 73) #[] #[]) [tm.get i] H :=
  evOp_evO.trans (eo_call1 rfl rfl Ncopied)
theorem kp7W : kpT 39 = false := by kernel_rfl
theorem kp13 : kpT 38 = false := by kernel_rfl
theorem kp29 : kpT 57 = false := by kernel_rfl
theorem kp15 : kpT 73 = false := by kernel_rfl
theorem gc7 : gcT 39 = false := by kernel_rfl
theorem gc15 : gcT 73 = false := by kernel_rfl
theorem F7n : tabF Try.prog 39 = some Try.f39 := by kernel_rfl
theorem F13n : tabF Try.prog 38 = some Try.f38 := by kernel_rfl
theorem F29n : tabF Try.prog 57 = some Try.f57 := by kernel_rfl
theorem F16n : tabF Try.prog 54 = some Try.f54 := by kernel_rfl
theorem F15n : tabF Try.prog 73 = some Try.f73 := by kernel_rfl
theorem F14n : tabF Try.prog 81 = some Try.f81 := by kernel_rfl

set_option maxRecDepth 10000 in
set_option maxHeartbeats 8000000 in
theorem valid_evW (call : Value → List Value → AH → Option (Value × AH)) (s : SV) (hc : ∀ (H : AH), lookB H.bs 0 = some (.ints s.g) → lookB H.bs 1 = some (.ints s.h) → call (.func (.func 63) #[] #[]) [s.val] H = some (.int .i64 s.err, H)) :
    ∃ H', evFn (tabT Try.prog) call 300 kpT 57 Try.f57 [s.val] s.hp = some (.bool (decide (s.err = 0)), H') := by
  have kp := kp29
  simp only [SV.val, SV.hp] at hc
  simp only [evFn, Try.f57, SV.val, SV.hp]
  simp [ec_skip, ec_label, ek_reg, ek_draw, ek_seq, ec_cond, ek_block, ec_loop, ec_exit, ec_ret, ec_scope, ek_nil, ek_op, opK_some, regK_some, seqK_normal, seqK_exit, seqK_ret, blockK_normal, blockK_exit, blockK_ret, evOp, vOp, hOpB, hOpU, hOp, hOpT, aAppendG_tab, aWanted, aYielded, opd, putT, closedV, aBin, intOp, sameK, mapO, joinR, hasAddr, boundOf, pushB, aAlloc, Value.cells, lookB, setB, Nat.beq_eq, tm_n_set, tm_get_set, tm_of_n, tm_of_get, tm_tr_set, tm_tr_of, cellV, putF, appR_eq, takeR_eq, dropR_eq, setR_eq, getR_eq, ↓C75, ↓C76, ↓C77, ↓C79, ↓C17, ↓C18, ↓C22, ↓C71, FA24_0, FA24_1, FA24_2, FA24_3, FA24_4, FA24_5, FA24_6, FA24_7, FA24_8, LD3, LD4, LD22, LD27, LDr, LD24, LEN22, IA22, tkc, cellAt, SV.cs, hc, finF, takeM, resV, kp]
  by_cases he : s.err = 0 <;> simp [he]
noncomputable def aValid (s : SV) : Option Value := some (.bool (decide (s.err = 0)))
theorem ok29W : AnsOK (runH L4) 57 (ans1 aValid) := ans1_ok fun s v h => by
  cases h
  refine ⟨rfl, fun _ _ => ?_⟩
  obtain ⟨H', h⟩ := valid_evW (inH L4) s (fun H h0 h1 => L4_17 s H h0 h1)
  exact ⟨H', runH_fn F29n rfl h⟩
theorem ok16W : AnsOK (runH L4) 54 (ans1 aRsize) := ans1_ok fun s v h => by
  cases h
  refine ⟨rfl, fun _ _ => ?_⟩
  obtain ⟨H', h⟩ := rsize_ev (inH L4) (fun s H h0 h1 => L4_18 s H h0 h1) (fun s H h0 h1 => L4_79 s H h0 h1) s
  exact ⟨H', runH_fn F16n rfl h⟩
noncomputable def V0 : Hnd := orH (canH 57 (ans1 aValid)) L4
theorem V0_ok : CallOK Try.prog V0 := orH_ok (canH_ok (runH_ok L4_ok) ok29W) L4_ok
theorem V0_29 (s : SV) (H : AH) (h0 : lookB H.bs 0 = some (.ints s.g)) (h1 : lookB H.bs 1 = some (.ints s.h)) : inH V0 (.func (.func 57) #[] #[]) [s.val] H = some (.bool (decide (s.err = 0)), H) := inH_hd (orH_l (canH_set h0 h1))
theorem V0_30 (s : SV) (H : AH) (h0 : lookB H.bs 0 = some (.ints s.g)) (h1 : lookB H.bs 1 = some (.ints s.h)) : inH V0 (.func (.func 80) #[] #[]) [s.val] H = some (.int .i64 s.size, H) := inH_hd (orH_r (canH_other rfl) (orH_r (canH_other rfl) (orH_r (canH_other rfl) (orH_l (orH_l (orH_r rfl (orH_r (canH_other rfl) (orH_r (canH_other rfl) (canH_set h0 h1)))))))))
set_option maxRecDepth 10000 in
set_option maxHeartbeats 8000000 in
theorem psize_ev (call : Value → List Value → AH → Option (Value × AH)) (s : SV) (hv : ∀ (H : AH), lookB H.bs 0 = some (.ints s.g) → lookB H.bs 1 = some (.ints s.h) → call (.func (.func 57) #[] #[]) [s.val] H = some (.bool (decide (s.err = 0)), H))
    (hz : ∀ (H : AH), lookB H.bs 0 = some (.ints s.g) → lookB H.bs 1 = some (.ints s.h) → call (.func (.func 80) #[] #[]) [s.val] H = some (.int .i64 s.size, H)) :
    ∃ H', evFn (tabT Try.prog) call 300 kpT 38 Try.f38 [s.val] s.hp = some (.int .i64 s.rsize, H') := by
  have kp := kp13
  simp only [SV.val, SV.hp] at hv hz
  simp only [evFn, Try.f38, SV.val, SV.hp]
  by_cases he : s.err = 0
  · simp [ec_skip, ec_label, ek_reg, ek_draw, ek_seq, ec_cond, ek_block, ec_loop, ec_exit, ec_ret, ec_scope, ek_nil, ek_op, opK_some, regK_some, seqK_normal, seqK_exit, seqK_ret, blockK_normal, blockK_exit, blockK_ret, evOp, vOp, hOpB, hOpU, hOp, hOpT, aAppendG_tab, aWanted, aYielded, opd, putT, closedV, aBin, intOp, sameK, mapO, joinR, hasAddr, boundOf, pushB, aAlloc, Value.cells, lookB, setB, Nat.beq_eq, tm_n_set, tm_get_set, tm_of_n, tm_of_get, tm_tr_set, tm_tr_of, cellV, putF, appR_eq, takeR_eq, dropR_eq, setR_eq, getR_eq, ↓C75, ↓C76, ↓C77, ↓C79, ↓C17, ↓C18, ↓C22, ↓C71, FA24_0, FA24_1, FA24_2, FA24_3, FA24_4, FA24_5, FA24_6, FA24_7, FA24_8, LD3, LD4, LD22, LD27, LDr, LD24, LEN22, IA22, tkc, cellAt, ↓CvalidW, ↓Cpsize, SV.cs, hv, hz, he, SV.rsize, finF, takeM, resV, kp]
  · simp [ec_skip, ec_label, ek_reg, ek_draw, ek_seq, ec_cond, ek_block, ec_loop, ec_exit, ec_ret, ec_scope, ek_nil, ek_op, opK_some, regK_some, seqK_normal, seqK_exit, seqK_ret, blockK_normal, blockK_exit, blockK_ret, evOp, vOp, hOpB, hOpU, hOp, hOpT, aAppendG_tab, aWanted, aYielded, opd, putT, closedV, aBin, intOp, sameK, mapO, joinR, hasAddr, boundOf, pushB, aAlloc, Value.cells, lookB, setB, Nat.beq_eq, tm_n_set, tm_get_set, tm_of_n, tm_of_get, tm_tr_set, tm_tr_of, cellV, putF, appR_eq, takeR_eq, dropR_eq, setR_eq, getR_eq, ↓C75, ↓C76, ↓C77, ↓C79, ↓C17, ↓C18, ↓C22, ↓C71, FA24_0, FA24_1, FA24_2, FA24_3, FA24_4, FA24_5, FA24_6, FA24_7, FA24_8, LD3, LD4, LD22, LD27, LDr, LD24, LEN22, IA22, tkc, cellAt, ↓CvalidW, ↓Cpsize, SV.cs, hv, hz, he, SV.rsize, finF, takeM, resV, kp]
theorem ok13 : AnsOK (runH V0) 38 (ans1 aRsize) := ans1_ok fun s v h => by
  cases h
  refine ⟨rfl, fun _ _ => ?_⟩
  obtain ⟨H', h⟩ := psize_ev (inH V0) s (V0_29 s) (V0_30 s)
  exact ⟨H', runH_fn F13n rfl h⟩
noncomputable def V1 : Hnd := orH (canH 38 (ans1 aRsize)) (orH (canH 54 (ans1 aRsize)) V0)
theorem V1_ok : CallOK Try.prog V1 := orH_ok (canH_ok (runH_ok V0_ok) ok13) (orH_ok (canH_ok (runH_ok L4_ok) ok16W) V0_ok)
theorem V1_13 (s : SV) (H : AH) (h0 : lookB H.bs 0 = some (.ints s.g)) (h1 : lookB H.bs 1 = some (.ints s.h)) : V1 (.func (.func 38) #[] #[]) [s.val] H = some (.int .i64 s.rsize, H) := orH_l (canH_set h0 h1)
theorem V1_16 (s : SV) (H : AH) (h0 : lookB H.bs 0 = some (.ints s.g)) (h1 : lookB H.bs 1 = some (.ints s.h)) : V1 (.func (.func 54) #[] #[]) [s.val] H = some (.int .i64 s.rsize, H) := orH_r (canH_other rfl) (orH_l (canH_set h0 h1))



end

section
set_option linter.unusedSimpArgs false
set_option linter.unusedVariables false
theorem intsL_take (f : Nat → Int) (n m : Nat) (h : m ≤ n) : (intsL f n).take m = intsL f m := by
  apply List.ext_getElem?
  intro k
  rw [List.getElem?_take]
  by_cases hk : k < m
  · rw [if_pos hk, intsL_at _ _ _ hk, intsL_at _ _ _ (by omega)]
  · rw [if_neg hk, List.getElem?_eq_none (by rw [intsL_len]; omega)]
theorem tkn (f : Nat → Int) (m : Nat) (h : m ≤ 144) : takeCells (intsL f 144) 0 m = some (intsL f m) := by
  rw [tkc, List.drop_zero, if_pos (by rw [intsL_len]; omega), intsL_take f 144 m h]
theorem src22 {bs : List (Nat × ABlk)} {b : Nat} {f : Nat → Int} {ro : Bool} (h : lookB bs b = some (.cells ro (intsL f 144))) (m : Nat) (hm : m ≤ 144) : srcCells bs (.slice (some ⟨b, 0, none⟩) m 1) 1 = some (intsL f m) := by
  have := tkn f m hm
  simp [srcCells, h, this]
/-- What is left of a copy of the first n. -/
def cpV (N : Nat) : Nat → Value
  | 0 => .slice none 0 0
  | n + 1 => .slice (some ⟨N, 0, none⟩) (n + 1) 1
noncomputable def cpH (N : Nat) (bs : List (Nat × ABlk)) (f : Nat → Int) : Nat → AH
  | 0 => ⟨N, bs⟩
  | n + 1 => ⟨N + 1, (N, .cells false (intsL f (n + 1))) :: bs⟩
set_option maxRecDepth 10000 in
set_option maxHeartbeats 8000000 in
theorem copied_ev (call : Value → List Value → AH → Option (Value × AH)) (N b n : Nat) (bs : List (Nat × ABlk)) (f : Nat → Int) (hn : n ≤ 144) (hb : ∀ p ∈ bs, p.1 < N) (h : lookB bs b = some (.cells false (intsL f 144))) :
    evFn (tabT Try.prog) call 300 kpT 73 Try.f73 [.slice (some ⟨b, 0, none⟩) n 1] ⟨N, bs⟩ = some (cpV N n, cpH N bs f n) := by
  have kp := kp15
  have gc := gc15
  have src := src22 h n hn
  have hbl := below_all N bs hb
  have al := intsL_all f n
  simp only [evFn, Try.f73]
  cases n with
  | zero =>
    simp [ec_skip, ec_label, ek_reg, ek_draw, ek_seq, ec_cond, ek_block, ec_loop, ec_exit, ec_ret, ec_scope, ek_nil, ek_op, opK_some, regK_some, seqK_normal, seqK_exit, seqK_ret, blockK_normal, blockK_exit, blockK_ret, evOp, vOp, hOpB, hOpU, hOp, hOpT, aAppendG_tab, aWanted, aYielded, opd, putT, closedV, aBin, intOp, sameK, mapO, joinR, hasAddr, boundOf, pushB, aAlloc, Value.cells, lookB, setB, Nat.beq_eq, tm_n_set, tm_get_set, tm_of_n, tm_of_get, tm_tr_set, tm_tr_of, cellV, putF, appR_eq, takeR_eq, dropR_eq, setR_eq, getR_eq, ↓C75, ↓C76, ↓C77, ↓C79, ↓C17, ↓C18, ↓C22, ↓C71, FA24_0, FA24_1, FA24_2, FA24_3, FA24_4, FA24_5, FA24_6, FA24_7, FA24_8, LD3, LD4, LD22, LD27, LDr, LD24, LEN22, IA22, tkc, cellAt, AP22, APT22, sliceLen, hbl, cpV, cpH, finF, takeM, resV, cleanedG, hasAddr, kp, gc]
  | succ m =>
    have hm : m ≤ 1000 := by omega
    have h1 : (m + 1) * 8 ≤ 1000000000000 := by omega
    have h2 : m + 1 ≤ 1000000000000 := by omega
    have h3 : m ≤ 999999999999 := by omega
    simp only [cpV, cpH]
    generalize intsL f (m + 1) = L at *
    simp [ec_skip, ec_label, ek_reg, ek_draw, ek_seq, ec_cond, ek_block, ec_loop, ec_exit, ec_ret, ec_scope, ek_nil, ek_op, opK_some, regK_some, seqK_normal, seqK_exit, seqK_ret, blockK_normal, blockK_exit, blockK_ret, evOp, vOp, hOpB, hOpU, hOp, hOpT, aAppendG_tab, aWanted, aYielded, opd, putT, closedV, aBin, intOp, sameK, mapO, joinR, hasAddr, boundOf, pushB, aAlloc, Value.cells, lookB, setB, Nat.beq_eq, tm_n_set, tm_get_set, tm_of_n, tm_of_get, tm_tr_set, tm_tr_of, cellV, putF, appR_eq, takeR_eq, dropR_eq, setR_eq, getR_eq, ↓C75, ↓C76, ↓C77, ↓C79, ↓C17, ↓C18, ↓C22, ↓C71, FA24_0, FA24_1, FA24_2, FA24_3, FA24_4, FA24_5, FA24_6, FA24_7, FA24_8, LD3, LD4, LD22, LD27, LDr, LD24, LEN22, IA22, tkc, cellAt, AP22, APT22, sliceLen, dstCells, src, al, h1, h2, h3, Nat.ble_eq, cpV, cpH, finF, takeM, resV, cleanedG, hasAddr, kp, gc]

theorem SA38 {H : AH} {i n : Nat} {cs : List Value} {ro : Bool} (h : lookB H.bs i = some (.cells ro cs)) (hl : cs.length = 144) (hn : n ≤ 144) : aSliceArr (tabT Try.prog) H 106 (.pointer (some ⟨i, 0, none⟩)) none (some (.int .i64 (n : Int))) = some (.slice (some ⟨i, 0, none⟩) n 1) := by
  have h1 : ((tabT Try.prog) 106).map (·.desc) = some (.array 144 3) := by kernel_rfl
  have h2 : ((tabT Try.prog) 3).map (·.size) = some 1 := by kernel_rfl
  obtain ⟨_, _, _, _, ht⟩ := tdesc h1
  cases he : (tabT Try.prog) 3 with
  | none => rw [he] at h2; cases h2
  | some q =>
    rw [he] at h2
    simp only [Option.map_some, Option.some.injEq] at h2
    simp [aSliceArr, bnd, natV, ht, he, h2, h, hl, hn, Nat.ble_eq]

theorem AS38 (a : Addr) (l h : Option Value) : aSlice (tabT Try.prog) 106 (.pointer (some a)) l h = none := by kernel_rfl

/-! ### the wall -/
noncomputable def idf (i : Nat) : Nat → Int := fun k => if k < i then (k : Int) else 0
theorem idf_step (i : Nat) : upd (idf i) i (i : Int) = idf (i + 1) := by
  funext k
  unfold upd idf
  by_cases h : k = i
  · subst h; rw [if_pos rfl, if_pos (by omega)]
  · rw [if_neg h]
    by_cases h2 : k < i
    · rw [if_pos h2, if_pos (by omega)]
    · rw [if_neg h2, if_neg (by omega)]
theorem idf_zero : idf 0 = fun _ => 0 := by
  funext k
  unfold idf
  rw [if_neg (by omega)]
noncomputable def IW (s : SV) (n N : Nat) (bs : List (Nat × ABlk)) (x : Int) (m : Nat) (A : AF) (H : AH) : Prop := ∃ i : Nat, i + m = n ∧ A.tm.n = 25 ∧ A.marks = [] ∧ A.tm.get 11 = .int .i64 (i : Int) ∧ A.tm.get 10 = .int .i64 (n : Int) ∧ A.tm.get 5 = .int .i64 (n : Int) ∧ A.tm.get 6 = .pointer (some ⟨N + 1, 0, none⟩) ∧ A.tm.get 1 = .int .u64 x ∧ H = ⟨N + 2, (N + 1, .cells false (intsL (idf i) 144)) :: (N, .cells false s.cs) :: bs⟩
noncomputable def QW (s : SV) (n N : Nat) (bs : List (Nat × ABlk)) (x : Int) (y : AX) (A : AF) (H : AH) : Prop := y = .exit 0 ∧ A.tm.n = 25 ∧ A.marks = [] ∧ A.tm.get 5 = .int .i64 (n : Int) ∧ A.tm.get 6 = .pointer (some ⟨N + 1, 0, none⟩) ∧ A.tm.get 1 = .int .u64 x ∧ H = ⟨N + 2, (N + 1, .cells false (intsL (idf n) 144)) :: (N, .cells false s.cs) :: bs⟩
/-- The tiles of a wall, by their places. -/
noncomputable def wallF (n : Nat) (x : Int) : Nat → Int := (shF (n - 1) (idf n) x).1
noncomputable def wallH (s : SV) (N : Nat) (bs : List (Nat × ABlk)) (W : Nat → Int) : Nat → AH
  | 0 => ⟨N + 5, bs⟩
  | n + 1 => ⟨N + 6, (N + 5, .cells false (intsL W (n + 1))) :: (N + 1, .cells false (intsL W 144)) :: (N, .cells false s.cs) :: bs⟩
set_option maxRecDepth 10000 in
set_option maxHeartbeats 8000000 in
theorem wall_ev (call : Value → List Value → AH → Option (Value × AH)) (s : SV) (x : Int) (n N : Nat) (bs : List (Nat × ABlk)) (hn : n ≤ 144) (hr : s.rsize = (n : Int)) (hM : MI ⟨N, bs⟩) (H0 : lookB bs 0 = some (.ints s.g)) (H1 : lookB bs 1 = some (.ints s.h)) (hN : 2 ≤ N)
    (hsize : ∀ (H : AH), lookB H.bs 0 = some (.ints s.g) → lookB H.bs 1 = some (.ints s.h) → call (.func (.func 38) #[] #[]) [s.val] H = some (.int .i64 s.rsize, H))
    (hshuf : ∀ (f : Nat → Int) (N : Nat) (bs : List (Nat × ABlk)), MI ⟨N, bs⟩ → call (.func (.func 81) #[] #[]) [.agg ⟨intsL f 144⟩, .int .i64 (n : Int), .int .u64 x] ⟨N, bs⟩ = some (.agg ⟨intsL (shF (n - 1) f x).1 144⟩, ⟨N + 3, bs⟩))
    (hcop : ∀ (N b : Nat) (bs : List (Nat × ABlk)) (f : Nat → Int), (∀ p ∈ bs, p.1 < N) → lookB bs b = some (.cells false (intsL f 144)) → call (.func (.func 73) #[] #[]) [.slice (some ⟨b, 0, none⟩) n 1] ⟨N, bs⟩ = some (cpV N n, cpH N bs f n)) :
    evFn (tabT Try.prog) call 300 kpT 39 Try.f39 [s.val, .int .u64 x] ⟨N, bs⟩ = some (cpV (N + 5) n, wallH s N bs (wallF n x) n) := by
  have kp := kp7W
  have gc := gc7
  have n0 : ¬ 0 = N := by omega
  have n1 : ¬ 1 = N := by omega
  rw [hr] at hsize
  simp only [SV.val] at hsize
  have hsz := hsize ⟨N + 1, (N, .cells false s.cs) :: bs⟩ (by simp [lookB, Nat.beq_eq, n0, H0]) (by simp [lookB, Nat.beq_eq, n1, H1])
  simp only [SV.cs] at hsz
  simp only [evFn, Try.f39, SV.val]
  simp [ec_skip, ec_label, ek_reg, ek_draw, ek_seq, ec_cond, ek_block, ec_loop, ec_exit, ec_ret, ec_scope, ek_nil, ek_op, opK_some, regK_some, seqK_normal, seqK_exit, seqK_ret, blockK_normal, blockK_exit, blockK_ret, evOp, vOp, hOpB, hOpU, hOp, hOpT, aAppendG_tab, aWanted, aYielded, opd, putT, closedV, aBin, intOp, sameK, mapO, joinR, hasAddr, boundOf, pushB, aAlloc, Value.cells, lookB, setB, Nat.beq_eq, tm_n_set, tm_get_set, tm_of_n, tm_of_get, tm_tr_set, tm_tr_of, cellV, putF, appR_eq, takeR_eq, dropR_eq, setR_eq, getR_eq, ↓C75, ↓C76, ↓C77, ↓C79, ↓C17, ↓C18, ↓C22, ↓C71, FA24_0, FA24_1, FA24_2, FA24_3, FA24_4, FA24_5, FA24_6, FA24_7, FA24_8, LD3, LD4, LD22, LD27, LDr, LD24, LEN22, IA22, tkc, cellAt, ↓Csize, hsz, ↓AL38]
  generalize hr : evLoop _ _ _ _ = r
  obtain ⟨y, A', H', rfl, rfl, hl, hmk, g5, g6, g1, rfl⟩ := loop_go (Q := QW s n N bs x) hr (IW s n N bs x) n (by omega) ⟨0, by omega, rfl, rfl, rfl, rfl, rfl, rfl, rfl, by rw [idf_zero]; rfl⟩ (by
    clear hr
    rintro m A H' ⟨i, him, hl, hmk, g11, g10, g5, g6, g1, rfl⟩
    simp only [runC]
    cases m with
    | zero =>
      have hi : ¬ i < n := by omega
      obtain rfl : i = n := by omega
      simp [ec_skip, ec_label, ek_reg, ek_draw, ek_seq, ec_cond, ek_block, ec_loop, ec_exit, ec_ret, ec_scope, ek_nil, ek_op, opK_some, regK_some, seqK_normal, seqK_exit, seqK_ret, blockK_normal, blockK_exit, blockK_ret, evOp, vOp, hOpB, hOpU, hOp, hOpT, aAppendG_tab, aWanted, aYielded, opd, putT, closedV, aBin, intOp, sameK, mapO, joinR, hasAddr, boundOf, pushB, aAlloc, Value.cells, lookB, setB, Nat.beq_eq, tm_n_set, tm_get_set, tm_of_n, tm_of_get, tm_tr_set, tm_tr_of, cellV, putF, appR_eq, takeR_eq, dropR_eq, setR_eq, getR_eq, ↓C75, ↓C76, ↓C77, ↓C79, ↓C17, ↓C18, ↓C22, ↓C71, FA24_0, FA24_1, FA24_2, FA24_3, FA24_4, FA24_5, FA24_6, FA24_7, FA24_8, LD3, LD4, LD22, LD27, LDr, LD24, LEN22, IA22, tkc, cellAt, hl, hmk, g11, g10, g5, g6, g1]
      exact .inr ⟨by simp, rfl, by simp [tm_n_set, hl], rfl, by simp [tm_get_set, tm_n_set, hl, g5], by simp [tm_get_set, tm_n_set, hl, g6], by simp [tm_get_set, tm_n_set, hl, g1], rfl⟩
    | succ m =>
      have hi : i < n := by omega
      have hw : wrapI .i64 ((i : Int) + 1) = ((i + 1 : Nat) : Int) := by rw [wrapI_small (by omega) (by omega)]; rfl
      have ixi := IX38 (N + 1) i (by omega)
      have il := intsL_len (idf i) 144
      have is := intsL_set (idf i) 144 i (i : Int)
      rw [idf_step] at is
      have hi143 : i ≤ 143 := by omega
      generalize intsL (idf i) 144 = L at il is ⊢
      simp [ec_skip, ec_label, ek_reg, ek_draw, ek_seq, ec_cond, ek_block, ec_loop, ec_exit, ec_ret, ec_scope, ek_nil, ek_op, opK_some, regK_some, seqK_normal, seqK_exit, seqK_ret, blockK_normal, blockK_exit, blockK_ret, evOp, vOp, hOpB, hOpU, hOp, hOpT, aAppendG_tab, aWanted, aYielded, opd, putT, closedV, aBin, intOp, sameK, mapO, joinR, hasAddr, boundOf, pushB, aAlloc, Value.cells, lookB, setB, Nat.beq_eq, tm_n_set, tm_get_set, tm_of_n, tm_of_get, tm_tr_set, tm_tr_of, cellV, putF, appR_eq, takeR_eq, dropR_eq, setR_eq, getR_eq, ↓C75, ↓C76, ↓C77, ↓C79, ↓C17, ↓C18, ↓C22, ↓C71, FA24_0, FA24_1, FA24_2, FA24_3, FA24_4, FA24_5, FA24_6, FA24_7, FA24_8, LD3, LD4, LD22, LD27, LDr, LD24, LEN22, IA22, tkc, cellAt, hl, hmk, g11, g10, g5, g6, g1, hi, ixi, ST3W, il, is, hi143, Nat.ble_eq]
      refine .inl ⟨rfl, m, rfl, i + 1, by omega, ?_⟩
      simp [tm_get_set, tm_n_set, hl, hmk, g10, g5, g6, g1, hw])
  have tl := intsL_len (idf n) 144
  have tt : List.take 144 (intsL (idf n) 144) = intsL (idf n) 144 := List.take_of_length_le (by rw [tl]; omega)
  have hs := hshuf (idf n) (N + 2) ((N + 1, .cells false (intsL (idf n) 144)) :: (N, .cells false s.cs) :: bs) ((hM.push _).push _)
  have st := ST38 (H := ⟨N + 5, (N + 1, .cells false (intsL (idf n) 144)) :: (N, .cells false s.cs) :: bs⟩) (i := N + 1) (f0 := idf n) (by simp [lookB]) (shF (n - 1) (idf n) x).1
  have hM5 : ∀ p ∈ (N + 1, ABlk.cells false (intsL (shF (n - 1) (idf n) x).1 144)) :: (N, .cells false s.cs) :: bs, p.1 < N + 5 := fun p hp => by
    have h2 : p.1 < N + 2 := ((hM.push (.cells false s.cs)).push (.cells false (intsL (shF (n - 1) (idf n) x).1 144))).2 p hp
    omega
  have hc := hcop (N + 5) (N + 1) ((N + 1, .cells false (intsL (shF (n - 1) (idf n) x).1 144)) :: (N, .cells false s.cs) :: bs) (shF (n - 1) (idf n) x).1 hM5 (by simp [lookB])
  have sl := SA38 (H := ⟨N + 5, (N + 1, .cells false (intsL (shF (n - 1) (idf n) x).1 144)) :: (N, .cells false s.cs) :: bs⟩) (i := N + 1) (n := n) (ro := false) (by simp [lookB]) (intsL_len (shF (n - 1) (idf n) x).1 144) hn
  have hbl := below_all N bs hM.2
  have q0 : ¬ N + 1 < N := by omega
  simp only [wallF]
  generalize (shF (n - 1) (idf n) x).1 = W at *
  simp [ec_skip, ec_label, ek_reg, ek_draw, ek_seq, ec_cond, ek_block, ec_loop, ec_exit, ec_ret, ec_scope, ek_nil, ek_op, opK_some, regK_some, seqK_normal, seqK_exit, seqK_ret, blockK_normal, blockK_exit, blockK_ret, evOp, vOp, hOpB, hOpU, hOp, hOpT, aAppendG_tab, aWanted, aYielded, opd, putT, closedV, aBin, intOp, sameK, mapO, joinR, hasAddr, boundOf, pushB, aAlloc, Value.cells, lookB, setB, Nat.beq_eq, tm_n_set, tm_get_set, tm_of_n, tm_of_get, tm_tr_set, tm_tr_of, cellV, putF, appR_eq, takeR_eq, dropR_eq, setR_eq, getR_eq, ↓C75, ↓C76, ↓C77, ↓C79, ↓C17, ↓C18, ↓C22, ↓C71, FA24_0, FA24_1, FA24_2, FA24_3, FA24_4, FA24_5, FA24_6, FA24_7, FA24_8, LD3, LD4, LD22, LD27, LDr, LD24, LEN22, IA22, tkc, cellAt, hl, hmk, g5, g6, g1, LD38, tl, tt, ↓Cshuf, hs, st, sl, opdO, AS38, ↓Ccopied, hc, finF, takeM, resV, cleanedG, kp, gc]
  cases n with
  | zero => simp [cpV, cpH, wallH, hasAddr, below, hbl, q0, Nat.blt_eq]
  | succ k => simp [cpV, cpH, wallH, hasAddr]



end

section
set_option linter.unusedSimpArgs false
set_option linter.unusedVariables false

noncomputable def I112t (Mr : Int → Nat → AH) (HD : Int → Int → Nat → AH) (hit : Int → Int → Bool) (R : Value × AH) (su q : Int) (k : Nat) (A : AF) (H : AH) : Prop :=
  ∃ (i c : Int) (m : Nat), i + k = q ∧ 0 ≤ i ∧ q ≤ 200 ∧ 0 ≤ c ∧ c + k ≤ 100000 ∧ rowR Mr HD hit k i c m = R ∧ H = Mr c m ∧ A.tm.n = 23 ∧ A.marks = [] ∧ A.tm.get 0 = .int .i64 su ∧ A.tm.get 1 = .int .i64 q ∧ A.tm.get 2 = .pointer (some ⟨10, 0, none⟩) ∧ A.tm.get 3 = .pointer (some ⟨11, 0, none⟩) ∧ A.tm.get 8 = .int .i64 q ∧ A.tm.get 9 = .int .i64 i
noncomputable def Q112t (R : Value × AH) (z : AX) (A' : AF) (H : AH) : Prop := A'.tm.n = 23 ∧ A'.marks = [] ∧ H = R.2 ∧ ((z = .exit 0 ∧ R.1 = .bool true) ∨ (z = .ret ∧ R.1 = .bool false ∧ A'.tm.get 6 = .bool false))

set_option maxRecDepth 10000 in
set_option maxHeartbeats 8000000 in
theorem row_evt (call : Value → List Value → AH → Option (Value × AH)) (Mr : Int → Nat → AH) (HD : Int → Int → Nat → AH) (hit : Int → Int → Bool) (su : Int) (q : Nat) (c : Int) (m : Nat)
    (h9 : ∀ c m, lookB (Mr c m).bs 10 = some (.cells false [.func (.yield 9) #[] #[]])) (h10 : ∀ c m, lookB (Mr c m).bs 11 = some (.cells false [.int .i64 c]))
    (hset : ∀ c m c', ({ Mr c m with bs := setB (Mr c m).bs 11 (.cells false [.int .i64 c']) } : AH) = Mr c' m)
    (hy : ∀ (c r : Int) (m : Nat), call (.func (.yield 9) #[] #[]) [.int .i64 c, placeV su r q] (Mr c m) = if hit c r then some (.bool false, HD c r m) else some (.bool true, Mr c (m + 1)))
    (hq : q ≤ 200) (hc0 : 0 ≤ c) (hcq : c + q ≤ 100000) :
    evFn (tabT Try.prog) call 300 kpT 87 Try.f87 [.int .i64 su, .int .i64 q, .pointer (some ⟨10, 0, none⟩), .pointer (some ⟨11, 0, none⟩)] (Mr c m) = some (rowR Mr HD hit q 0 c m) := by
  have kp := kg58
  simp only [Prod.mk.injEq] at kp
  obtain ⟨kp1, kp2⟩ := kp
  simp only [evFn, Try.f87]
  simp [ec_skip, ec_label, ek_reg, ek_draw, ek_seq, ec_cond, ek_block, ec_loop, ec_exit, ec_ret, ec_scope, ek_nil, ek_op, opK_some, regK_some, seqK_normal, seqK_exit, seqK_ret, blockK_normal, blockK_exit, blockK_ret, evOp, vOp, hOpB, hOpU, hOp, hOpT, aAppendG_tab, aWanted, aYielded, opd, putT, closedV, aBin, intOp, sameK, mapO, joinR, hasAddr, boundOf, pushB, aAlloc, Value.cells, lookB, setB, Nat.beq_eq, tm_n_set, tm_get_set, tm_of_n, tm_of_get, tm_tr_set, tm_tr_of, cellV, putF, appR_eq, takeR_eq, dropR_eq, setR_eq, getR_eq, ↓C75, ↓C76, ↓C77, ↓C79, ↓C17, ↓C18, ↓C22, ↓C71, FA24_0, FA24_1, FA24_2, FA24_3, FA24_4, FA24_5, FA24_6, FA24_7, FA24_8, LD3, LD4, LD22, LD27, LDr, LD24, LEN22, IA22, tkc, cellAt]
  generalize hr : evLoop _ _ _ _ = r
  obtain ⟨z, A', H', rfl, hl, hmk, rfl, hz⟩ := loop_go (Q := Q112t (rowR Mr HD hit q 0 c m)) hr (I112t Mr HD hit (rowR Mr HD hit q 0 c m) su q) q (by omega) ⟨0, c, m, by omega, by omega, by omega, hc0, hcq, rfl, rfl, rfl, rfl, rfl, rfl, rfl, rfl, rfl, rfl⟩ (by
      clear hr
      rintro k A H ⟨i, c, m, him, hi0, hq1, hc0, hck, hres, rfl, hl, hmk, g0, g1, g2, g3, g8, g9⟩
      simp only [runC]
      cases k with
      | zero =>
        have hi : ¬ i < (q : Int) := by omega
        simp only [rowR] at hres
        simp [ec_skip, ec_label, ek_reg, ek_draw, ek_seq, ec_cond, ek_block, ec_loop, ec_exit, ec_ret, ec_scope, ek_nil, ek_op, opK_some, regK_some, seqK_normal, seqK_exit, seqK_ret, blockK_normal, blockK_exit, blockK_ret, evOp, vOp, hOpB, hOpU, hOp, hOpT, aAppendG_tab, aWanted, aYielded, opd, putT, closedV, aBin, intOp, sameK, mapO, joinR, hasAddr, boundOf, pushB, aAlloc, Value.cells, lookB, setB, Nat.beq_eq, tm_n_set, tm_get_set, tm_of_n, tm_of_get, tm_tr_set, tm_tr_of, cellV, putF, appR_eq, takeR_eq, dropR_eq, setR_eq, getR_eq, ↓C75, ↓C76, ↓C77, ↓C79, ↓C17, ↓C18, ↓C22, ↓C71, FA24_0, FA24_1, FA24_2, FA24_3, FA24_4, FA24_5, FA24_6, FA24_7, FA24_8, LD3, LD4, LD22, LD27, LDr, LD24, LEN22, IA22, tkc, cellAt, hl, hmk, g0, g1, g2, g3, g8, g9, hi]
        exact .inr ⟨by simp, by simp [tm_n_set, hl], rfl, by rw [← hres], .inl ⟨rfl, by rw [← hres]⟩⟩
      | succ k =>
        have hi : i < (q : Int) := by omega
        have hw : wrapI .i64 (i + 1) = i + 1 := wrapI_small (by omega) (by omega)
        have hwc : wrapI .i64 (c + 1) = c + 1 := wrapI_small (by omega) (by omega)
        have hst := fun n => ST3 (Mr c (m + 1)) 11 0 n [.int .i64 c] (h10 c (m + 1)) (by simp)
        simp only [List.set_cons_zero, hset] at hst
        have hy' := hy c i m
        simp only [placeV] at hy'
        cases hh : hit c i with
        | true =>
          rw [hh, if_pos rfl] at hy'
          simp only [rowR, hh, if_true] at hres
          simp [ec_skip, ec_label, ek_reg, ek_draw, ek_seq, ec_cond, ek_block, ec_loop, ec_exit, ec_ret, ec_scope, ek_nil, ek_op, opK_some, regK_some, seqK_normal, seqK_exit, seqK_ret, blockK_normal, blockK_exit, blockK_ret, evOp, vOp, hOpB, hOpU, hOp, hOpT, aAppendG_tab, aWanted, aYielded, opd, putT, closedV, aBin, intOp, sameK, mapO, joinR, hasAddr, boundOf, pushB, aAlloc, Value.cells, lookB, setB, Nat.beq_eq, tm_n_set, tm_get_set, tm_of_n, tm_of_get, tm_tr_set, tm_tr_of, cellV, putF, appR_eq, takeR_eq, dropR_eq, setR_eq, getR_eq, ↓C75, ↓C76, ↓C77, ↓C79, ↓C17, ↓C18, ↓C22, ↓C71, FA24_0, FA24_1, FA24_2, FA24_3, FA24_4, FA24_5, FA24_6, FA24_7, FA24_8, LD3, LD4, LD22, LD27, LDr, LD24, LEN22, IA22, tkc, cellAt, LD122, partsO, BD80, hl, hmk, g0, g1, g2, g3, g8, g9, hi, h9, h10, hy']
          exact .inr ⟨by simp, by simp [tm_n_set, hl], rfl, by rw [← hres], .inr ⟨rfl, by rw [← hres], by simp [tm_get_set, tm_n_set, hl]⟩⟩
        | false =>
          rw [hh, if_neg (by simp)] at hy'
          simp only [rowR, hh, Bool.false_eq_true, if_false] at hres
          simp [ec_skip, ec_label, ek_reg, ek_draw, ek_seq, ec_cond, ek_block, ec_loop, ec_exit, ec_ret, ec_scope, ek_nil, ek_op, opK_some, regK_some, seqK_normal, seqK_exit, seqK_ret, blockK_normal, blockK_exit, blockK_ret, evOp, vOp, hOpB, hOpU, hOp, hOpT, aAppendG_tab, aWanted, aYielded, opd, putT, closedV, aBin, intOp, sameK, mapO, joinR, hasAddr, boundOf, pushB, aAlloc, Value.cells, lookB, setB, Nat.beq_eq, tm_n_set, tm_get_set, tm_of_n, tm_of_get, tm_tr_set, tm_tr_of, cellV, putF, appR_eq, takeR_eq, dropR_eq, setR_eq, getR_eq, ↓C75, ↓C76, ↓C77, ↓C79, ↓C17, ↓C18, ↓C22, ↓C71, FA24_0, FA24_1, FA24_2, FA24_3, FA24_4, FA24_5, FA24_6, FA24_7, FA24_8, LD3, LD4, LD22, LD27, LDr, LD24, LEN22, IA22, tkc, cellAt, LD122, partsO, BD80, hl, hmk, g0, g1, g2, g3, g8, g9, hi, h9, h10, hy', hst, hwc]
          refine .inl ⟨rfl, k, rfl, i + 1, c + 1, m + 1, by omega, by omega, hq1, by omega, by omega, hres, rfl, ?_⟩
          simp [tm_get_set, tm_n_set, hl, g0, g1, g2, g3, g8, g9, hw])
  rcases hz with ⟨rfl, hz⟩ | ⟨rfl, hz, h6⟩
  · simp [ec_skip, ec_label, ek_reg, ek_draw, ek_seq, ec_cond, ek_block, ec_loop, ec_exit, ec_ret, ec_scope, ek_nil, ek_op, opK_some, regK_some, seqK_normal, seqK_exit, seqK_ret, blockK_normal, blockK_exit, blockK_ret, evOp, vOp, hOpB, hOpU, hOp, hOpT, aAppendG_tab, aWanted, aYielded, opd, putT, closedV, aBin, intOp, sameK, mapO, joinR, hasAddr, boundOf, pushB, aAlloc, Value.cells, lookB, setB, Nat.beq_eq, tm_n_set, tm_get_set, tm_of_n, tm_of_get, tm_tr_set, tm_tr_of, cellV, putF, appR_eq, takeR_eq, dropR_eq, setR_eq, getR_eq, ↓C75, ↓C76, ↓C77, ↓C79, ↓C17, ↓C18, ↓C22, ↓C71, FA24_0, FA24_1, FA24_2, FA24_3, FA24_4, FA24_5, FA24_6, FA24_7, FA24_8, LD3, LD4, LD22, LD27, LDr, LD24, LEN22, IA22, tkc, cellAt, finF, takeM, resV, hl, hmk, cleanedG, kp1, kp2]
    generalize rowR Mr HD hit q 0 c m = R at hz ⊢
    obtain ⟨a, b⟩ := R
    simp only at hz
    rw [hz]
  · simp [ec_skip, ec_label, ek_reg, ek_draw, ek_seq, ec_cond, ek_block, ec_loop, ec_exit, ec_ret, ec_scope, ek_nil, ek_op, opK_some, regK_some, seqK_normal, seqK_exit, seqK_ret, blockK_normal, blockK_exit, blockK_ret, evOp, vOp, hOpB, hOpU, hOp, hOpT, aAppendG_tab, aWanted, aYielded, opd, putT, closedV, aBin, intOp, sameK, mapO, joinR, hasAddr, boundOf, pushB, aAlloc, Value.cells, lookB, setB, Nat.beq_eq, tm_n_set, tm_get_set, tm_of_n, tm_of_get, tm_tr_set, tm_tr_of, cellV, putF, appR_eq, takeR_eq, dropR_eq, setR_eq, getR_eq, ↓C75, ↓C76, ↓C77, ↓C79, ↓C17, ↓C18, ↓C22, ↓C71, FA24_0, FA24_1, FA24_2, FA24_3, FA24_4, FA24_5, FA24_6, FA24_7, FA24_8, LD3, LD4, LD22, LD27, LDr, LD24, LEN22, IA22, tkc, cellAt, finF, takeM, resV, hl, hmk, h6, cleanedG, kp1, kp2]
    generalize rowR Mr HD hit q 0 c m = R at hz ⊢
    obtain ⟨a, b⟩ := R
    simp only at hz
    rw [hz]



noncomputable def cl112t : Value := (.func (.func 87) #[] #[.pointer (some ⟨10, 0, none⟩), .pointer (some ⟨11, 0, none⟩)])

noncomputable def I111t (s : SV) (Mr : Int → Nat → AH) (HD : Int → Nat → Int → Int → Nat → AH) (hit : Int → Nat → Int → Int → Bool) (R : AH) (k : Nat) (A : AF) (H : AH) : Prop :=
  ∃ (i : Nat) (c : Int) (m : Nat), i + k = s.n ∧ 0 ≤ c ∧ c ≤ 9 * i ∧ rowsR Mr HD hit (suitRows s.g k i ++ s.tail) c m = R ∧ H = Mr c m ∧ A.tm.n = 38 ∧ A.marks = [] ∧ A.tm.get 1 = .pointer (some ⟨7, 0, none⟩) ∧ A.tm.get 4 = cl112t ∧ A.tm.get 9 = .slice (some ⟨0, 0, some 1⟩) s.n 0 ∧ A.tm.get 10 = .int .i64 s.n ∧ A.tm.get 11 = .int .i64 (i : Int)
noncomputable def Q111t (s : SV) (Mr : Int → Nat → AH) (HD : Int → Nat → Int → Int → Nat → AH) (hit : Int → Nat → Int → Int → Bool) (R : AH) (z : AX) (A' : AF) (H : AH) : Prop :=
  A'.tm.n = 38 ∧ A'.marks = [] ∧ ((z = .exit 0 ∧ A'.tm.get 1 = .pointer (some ⟨7, 0, none⟩) ∧ A'.tm.get 4 = cl112t ∧ ∃ (c : Int) (m : Nat), 0 ≤ c ∧ c ≤ 27 ∧ H = Mr c m ∧ rowsR Mr HD hit s.tail c m = R) ∨ (z = .ret ∧ H = R))

set_option maxRecDepth 10000 in
set_option maxHeartbeats 8000000 in
theorem kinds_evt (call : Value → List Value → AH → Option (Value × AH)) (s : SV) (hs : s.Small) (H0 : AH) (Mr : Int → Nat → AH) (HD : Int → Nat → Int → Int → Nat → AH) (hit : Int → Nat → Int → Int → Bool)
    (h6 : ∀ c m, lookB (Mr c m).bs 7 = some (.cells false s.boxL)) (h0 : ∀ c m, lookB (Mr c m).bs 0 = some (.ints s.g))
    (hn : H0.next = 10) (hM : Mr 0 0 = ⟨12, (11, .cells false [.int .i64 0]) :: (10, .cells false [.func (.yield 9) #[] #[]]) :: H0.bs⟩)
    (hrow : ∀ (su : Int) (q : Nat) (c : Int) (m : Nat), q ≤ 200 → 0 ≤ c → c + q ≤ 100000 → call cl112t [.int .i64 su, .int .i64 q] (Mr c m) = some (rowR Mr (HD su q) (hit su q) q 0 c m)) :
    evFn (tabT Try.prog) call 300 kpT 86 Try.f86 [.func (.yield 9) #[] #[], .pointer (some ⟨7, 0, none⟩)] H0 = some (.tuple #[], rowsR Mr HD hit s.rows 0 0) := by
  obtain ⟨nx, bs⟩ := H0
  simp only at hn hM
  subst hn
  have hM0 : lookB bs 7 = some (.cells false s.boxL) := by
    have := h6 0 0
    rw [hM] at this
    simpa [lookB, Nat.beq_eq] using this
  have hst0 : aStore (tabT Try.prog) (Mr 0 0) 3 (.pointer (some ⟨11, 0, none⟩)) (.int .i64 0) = some (Mr 0 0) := by rw [hM]; exact ST3top _ _ _ _ _
  simp only [cl112t] at hrow
  simp only [SV.boxL] at h6 hM0
  have kp := kg57
  simp only [Prod.mk.injEq] at kp
  obtain ⟨kp1, kp2⟩ := kp
  simp only [evFn, Try.f86]
  simp [ec_skip, ec_label, ek_reg, ek_draw, ek_seq, ec_cond, ek_block, ec_loop, ec_exit, ec_ret, ec_scope, ek_nil, ek_op, opK_some, regK_some, seqK_normal, seqK_exit, seqK_ret, blockK_normal, blockK_exit, blockK_ret, evOp, vOp, hOpB, hOpU, hOp, hOpT, aAppendG_tab, aWanted, aYielded, opd, putT, closedV, aBin, intOp, sameK, mapO, joinR, hasAddr, boundOf, pushB, aAlloc, Value.cells, lookB, setB, Nat.beq_eq, tm_n_set, tm_get_set, tm_of_n, tm_of_get, tm_tr_set, tm_tr_of, cellV, putF, appR_eq, takeR_eq, dropR_eq, setR_eq, getR_eq, ↓C75, ↓C76, ↓C77, ↓C79, ↓C17, ↓C18, ↓C22, ↓C71, FA24_0, FA24_1, FA24_2, FA24_3, FA24_4, FA24_5, FA24_6, FA24_7, FA24_8, LD3, LD4, LD22, LD27, LDr, LD24, LEN22, IA22, tkc, cellAt, ↓AL3, hst0, h6, ← hM]
  generalize hr : evLoop _ _ _ _ = r
  obtain ⟨z, A', H', rfl, hl, hmk, hz⟩ := loop_go (Q := Q111t s Mr HD hit (rowsR Mr HD hit s.rows 0 0)) hr (I111t s Mr HD hit (rowsR Mr HD hit s.rows 0 0)) s.n (by have := hs.n; omega) ⟨0, 0, 0, by omega, by omega, by omega, rfl, rfl, rfl, rfl, rfl, rfl, rfl, rfl, rfl⟩ (by
      clear hr
      rintro k A H ⟨i, c, m, him, hc0, hc9, hres, rfl, hl, hmk, g1, g4, g9, g10, g11⟩
      simp only [runC]
      cases k with
      | zero =>
        have hi : ¬ i < s.n := by omega
        simp only [suitRows, List.nil_append] at hres
        simp [ec_skip, ec_label, ek_reg, ek_draw, ek_seq, ec_cond, ek_block, ec_loop, ec_exit, ec_ret, ec_scope, ek_nil, ek_op, opK_some, regK_some, seqK_normal, seqK_exit, seqK_ret, blockK_normal, blockK_exit, blockK_ret, evOp, vOp, hOpB, hOpU, hOp, hOpT, aAppendG_tab, aWanted, aYielded, opd, putT, closedV, aBin, intOp, sameK, mapO, joinR, hasAddr, boundOf, pushB, aAlloc, Value.cells, lookB, setB, Nat.beq_eq, tm_n_set, tm_get_set, tm_of_n, tm_of_get, tm_tr_set, tm_tr_of, cellV, putF, appR_eq, takeR_eq, dropR_eq, setR_eq, getR_eq, ↓C75, ↓C76, ↓C77, ↓C79, ↓C17, ↓C18, ↓C22, ↓C71, FA24_0, FA24_1, FA24_2, FA24_3, FA24_4, FA24_5, FA24_6, FA24_7, FA24_8, LD3, LD4, LD22, LD27, LDr, LD24, LEN22, IA22, tkc, cellAt, hl, hmk, g1, g4, g9, g10, g11, hi]
        exact .inr ⟨by simp, by simp [tm_n_set, hl], rfl, .inl ⟨rfl, by simp [tm_get_set, tm_n_set, hl, g1], by simp [tm_get_set, tm_n_set, hl, g4], c, m, hc0, by have := hs.n; omega, rfl, hres⟩⟩
      | succ k =>
        have hi : i < s.n := by omega
        have hw : wrapI .i64 ((i : Int) + 1) = ((i + 1 : Nat) : Int) := by rw [wrapI_small (by have := hs.n; omega) (by have := hs.n; omega)]; rfl
        obtain ⟨b1, b2⟩ := hs.g i hi
        have hq : ((s.g i).toNat : Int) = s.g i := by omega
        have hn3 := hs.n
        simp only [cl112t] at g4
        have hr' := hrow (i : Int) (s.g i).toNat c m (by omega) hc0 (by omega)
        rw [hq] at hr'
        simp only [suitRows, List.cons_append, rowsR] at hres
        rcases rowR_cases Mr (HD (i : Int) (s.g i).toNat) (hit (i : Int) (s.g i).toNat) (s.g i).toNat 0 c m with ⟨Hx, hx⟩ | hx
        · rw [hx] at hr' hres
          simp only at hres
          simp [ec_skip, ec_label, ek_reg, ek_draw, ek_seq, ec_cond, ek_block, ec_loop, ec_exit, ec_ret, ec_scope, ek_nil, ek_op, opK_some, regK_some, seqK_normal, seqK_exit, seqK_ret, blockK_normal, blockK_exit, blockK_ret, evOp, vOp, hOpB, hOpU, hOp, hOpT, aAppendG_tab, aWanted, aYielded, opd, putT, closedV, aBin, intOp, sameK, mapO, joinR, hasAddr, boundOf, pushB, aAlloc, Value.cells, lookB, setB, Nat.beq_eq, tm_n_set, tm_get_set, tm_of_n, tm_of_get, tm_tr_set, tm_tr_of, cellV, putF, appR_eq, takeR_eq, dropR_eq, setR_eq, getR_eq, ↓C75, ↓C76, ↓C77, ↓C79, ↓C17, ↓C18, ↓C22, ↓C71, FA24_0, FA24_1, FA24_2, FA24_3, FA24_4, FA24_5, FA24_6, FA24_7, FA24_8, LD3, LD4, LD22, LD27, LDr, LD24, LEN22, IA22, tkc, cellAt, hl, hmk, g1, g4, g9, g10, g11, hi, h0, hr']
          exact .inr ⟨by simp, by simp [tm_n_set, hl], rfl, .inr ⟨rfl, hres⟩⟩
        · rw [hx] at hr' hres
          simp only at hres
          have hmax : max (s.g i) 0 = s.g i := by omega
          simp [ec_skip, ec_label, ek_reg, ek_draw, ek_seq, ec_cond, ek_block, ec_loop, ec_exit, ec_ret, ec_scope, ek_nil, ek_op, opK_some, regK_some, seqK_normal, seqK_exit, seqK_ret, blockK_normal, blockK_exit, blockK_ret, evOp, vOp, hOpB, hOpU, hOp, hOpT, aAppendG_tab, aWanted, aYielded, opd, putT, closedV, aBin, intOp, sameK, mapO, joinR, hasAddr, boundOf, pushB, aAlloc, Value.cells, lookB, setB, Nat.beq_eq, tm_n_set, tm_get_set, tm_of_n, tm_of_get, tm_tr_set, tm_tr_of, cellV, putF, appR_eq, takeR_eq, dropR_eq, setR_eq, getR_eq, ↓C75, ↓C76, ↓C77, ↓C79, ↓C17, ↓C18, ↓C22, ↓C71, FA24_0, FA24_1, FA24_2, FA24_3, FA24_4, FA24_5, FA24_6, FA24_7, FA24_8, LD3, LD4, LD22, LD27, LDr, LD24, LEN22, IA22, tkc, cellAt, hl, hmk, g1, g4, g9, g10, g11, hi, h0, hr', hmax]
          refine .inl ⟨rfl, k, rfl, i + 1, c + (s.g i).toNat, m + (s.g i).toNat, by omega, by omega, by omega, hres, by rw [hq], ?_⟩
          simp [tm_get_set, tm_n_set, hl, g1, g4, g9, g10, g11, hw, cl112t])
  rcases hz with ⟨rfl, g1, g4, c, m, hc0, hc9, rfl, hz⟩ | ⟨rfl, hz⟩
  · obtain ⟨w1, w2⟩ := hs.w
    obtain ⟨d1, d2⟩ := hs.d
    obtain ⟨f1, f2⟩ := hs.f
    have qw : ((s.w).toNat : Int) = s.w := by omega
    have qd : ((s.d).toNat : Int) = s.d := by omega
    have qf : ((s.f).toNat : Int) = s.f := by omega
    simp only [cl112t] at g4
    have rw_ := hrow (-1) s.w.toNat c m (by omega) hc0 (by omega)
    rw [qw] at rw_
    simp only [SV.tail, rowsR] at hz
    rcases rowR_cases Mr (HD (-1) s.w.toNat) (hit (-1) s.w.toNat) s.w.toNat 0 c m with ⟨Hx, hx⟩ | hx
    · rw [hx] at rw_ hz
      simp only at hz
      simp [ec_skip, ec_label, ek_reg, ek_draw, ek_seq, ec_cond, ek_block, ec_loop, ec_exit, ec_ret, ec_scope, ek_nil, ek_op, opK_some, regK_some, seqK_normal, seqK_exit, seqK_ret, blockK_normal, blockK_exit, blockK_ret, evOp, vOp, hOpB, hOpU, hOp, hOpT, aAppendG_tab, aWanted, aYielded, opd, putT, closedV, aBin, intOp, sameK, mapO, joinR, hasAddr, boundOf, pushB, aAlloc, Value.cells, lookB, setB, Nat.beq_eq, tm_n_set, tm_get_set, tm_of_n, tm_of_get, tm_tr_set, tm_tr_of, cellV, putF, appR_eq, takeR_eq, dropR_eq, setR_eq, getR_eq, ↓C75, ↓C76, ↓C77, ↓C79, ↓C17, ↓C18, ↓C22, ↓C71, FA24_0, FA24_1, FA24_2, FA24_3, FA24_4, FA24_5, FA24_6, FA24_7, FA24_8, LD3, LD4, LD22, LD27, LDr, LD24, LEN22, IA22, tkc, cellAt, finF, takeM, resV, hl, hmk, g1, g4, h6, rw_, cleanedG, kp1, kp2, hz]
    · rw [hx] at rw_ hz
      simp only at hz
      have rd := hrow (-2) s.d.toNat (c + s.w.toNat) (m + s.w.toNat) (by omega) (by omega) (by omega)
      rw [qd] at rd
      rcases rowR_cases Mr (HD (-2) s.d.toNat) (hit (-2) s.d.toNat) s.d.toNat 0 (c + s.w.toNat) (m + s.w.toNat) with ⟨Hx, hx⟩ | hx
      · rw [hx] at rd hz
        simp only at hz
        rw [qw] at rd rw_
        simp [ec_skip, ec_label, ek_reg, ek_draw, ek_seq, ec_cond, ek_block, ec_loop, ec_exit, ec_ret, ec_scope, ek_nil, ek_op, opK_some, regK_some, seqK_normal, seqK_exit, seqK_ret, blockK_normal, blockK_exit, blockK_ret, evOp, vOp, hOpB, hOpU, hOp, hOpT, aAppendG_tab, aWanted, aYielded, opd, putT, closedV, aBin, intOp, sameK, mapO, joinR, hasAddr, boundOf, pushB, aAlloc, Value.cells, lookB, setB, Nat.beq_eq, tm_n_set, tm_get_set, tm_of_n, tm_of_get, tm_tr_set, tm_tr_of, cellV, putF, appR_eq, takeR_eq, dropR_eq, setR_eq, getR_eq, ↓C75, ↓C76, ↓C77, ↓C79, ↓C17, ↓C18, ↓C22, ↓C71, FA24_0, FA24_1, FA24_2, FA24_3, FA24_4, FA24_5, FA24_6, FA24_7, FA24_8, LD3, LD4, LD22, LD27, LDr, LD24, LEN22, IA22, tkc, cellAt, finF, takeM, resV, hl, hmk, g1, g4, h6, rw_, rd, cleanedG, kp1, kp2, hz]
      · rw [hx] at rd hz
        simp only at hz
        have rf := hrow (-3) s.f.toNat (c + s.w.toNat + s.d.toNat) (m + s.w.toNat + s.d.toNat) (by omega) (by omega) (by omega)
        rw [qf] at rf
        rcases rowR_cases Mr (HD (-3) s.f.toNat) (hit (-3) s.f.toNat) s.f.toNat 0 (c + s.w.toNat + s.d.toNat) (m + s.w.toNat + s.d.toNat) with ⟨Hx, hx⟩ | hx
        · rw [hx] at rf hz
          simp only at hz
          rw [qw] at rd rw_ rf
          rw [qd] at rd rf
          simp [ec_skip, ec_label, ek_reg, ek_draw, ek_seq, ec_cond, ek_block, ec_loop, ec_exit, ec_ret, ec_scope, ek_nil, ek_op, opK_some, regK_some, seqK_normal, seqK_exit, seqK_ret, blockK_normal, blockK_exit, blockK_ret, evOp, vOp, hOpB, hOpU, hOp, hOpT, aAppendG_tab, aWanted, aYielded, opd, putT, closedV, aBin, intOp, sameK, mapO, joinR, hasAddr, boundOf, pushB, aAlloc, Value.cells, lookB, setB, Nat.beq_eq, tm_n_set, tm_get_set, tm_of_n, tm_of_get, tm_tr_set, tm_tr_of, cellV, putF, appR_eq, takeR_eq, dropR_eq, setR_eq, getR_eq, ↓C75, ↓C76, ↓C77, ↓C79, ↓C17, ↓C18, ↓C22, ↓C71, FA24_0, FA24_1, FA24_2, FA24_3, FA24_4, FA24_5, FA24_6, FA24_7, FA24_8, LD3, LD4, LD22, LD27, LDr, LD24, LEN22, IA22, tkc, cellAt, finF, takeM, resV, hl, hmk, g1, g4, h6, rw_, rd, rf, cleanedG, kp1, kp2, hz]
        · rw [hx] at rf hz
          simp only at hz
          rw [qw] at rd rw_ rf
          rw [qd] at rd rf
          simp [ec_skip, ec_label, ek_reg, ek_draw, ek_seq, ec_cond, ek_block, ec_loop, ec_exit, ec_ret, ec_scope, ek_nil, ek_op, opK_some, regK_some, seqK_normal, seqK_exit, seqK_ret, blockK_normal, blockK_exit, blockK_ret, evOp, vOp, hOpB, hOpU, hOp, hOpT, aAppendG_tab, aWanted, aYielded, opd, putT, closedV, aBin, intOp, sameK, mapO, joinR, hasAddr, boundOf, pushB, aAlloc, Value.cells, lookB, setB, Nat.beq_eq, tm_n_set, tm_get_set, tm_of_n, tm_of_get, tm_tr_set, tm_tr_of, cellV, putF, appR_eq, takeR_eq, dropR_eq, setR_eq, getR_eq, ↓C75, ↓C76, ↓C77, ↓C79, ↓C17, ↓C18, ↓C22, ↓C71, FA24_0, FA24_1, FA24_2, FA24_3, FA24_4, FA24_5, FA24_6, FA24_7, FA24_8, LD3, LD4, LD22, LD27, LDr, LD24, LEN22, IA22, tkc, cellAt, finF, takeM, resV, hl, hmk, g1, g4, h6, rw_, rd, rf, cleanedG, kp1, kp2, ← hz, qw, qd, qf]
  · subst hz
    simp [ec_skip, ec_label, ek_reg, ek_draw, ek_seq, ec_cond, ek_block, ec_loop, ec_exit, ec_ret, ec_scope, ek_nil, ek_op, opK_some, regK_some, seqK_normal, seqK_exit, seqK_ret, blockK_normal, blockK_exit, blockK_ret, evOp, vOp, hOpB, hOpU, hOp, hOpT, aAppendG_tab, aWanted, aYielded, opd, putT, closedV, aBin, intOp, sameK, mapO, joinR, hasAddr, boundOf, pushB, aAlloc, Value.cells, lookB, setB, Nat.beq_eq, tm_n_set, tm_get_set, tm_of_n, tm_of_get, tm_tr_set, tm_tr_of, cellV, putF, appR_eq, takeR_eq, dropR_eq, setR_eq, getR_eq, ↓C75, ↓C76, ↓C77, ↓C79, ↓C17, ↓C18, ↓C22, ↓C71, FA24_0, FA24_1, FA24_2, FA24_3, FA24_4, FA24_5, FA24_6, FA24_7, FA24_8, LD3, LD4, LD22, LD27, LDr, LD24, LEN22, IA22, tkc, cellAt, finF, takeM, resV, hl, hmk, cleanedG, kp1, kp2]




end

section
set_option linter.unusedSimpArgs false
set_option linter.unusedVariables false

/-- What After answers. -/
noncomputable def SV.aft (s : SV) (kind : Int) : Int :=
  match s.find kind with
  | none => -1
  | some (_, r, q) => if r = q - 1 then kind - r else kind + 1
/-- How many kinds a row has, by the row's number. -/
noncomputable def SV.many (s : SV) (su : Int) : Int := if su = -1 then s.w else if su = -2 then s.d else if su = -3 then s.f else s.g su.toNat
noncomputable def placeT (x : Option (Int × Int × Int)) : Value :=
  match x with
  | some (su, r, _) => .tuple #[.int .i64 su, .int .i64 r]
  | none => .tuple #[.int .i64 (-4), .int .i64 0]
theorem findRows_spec : ∀ (l : List (Int × Nat)) (c kind su r q : Int), findRows l c kind = some (su, r, q) → ∃ q' : Nat, (su, q') ∈ l ∧ q = q' ∧ 0 ≤ r ∧ r < q ∧ c ≤ kind
  | [], c, kind, su, r, q, h => by cases h
  | (su', q') :: l, c, kind, su, r, q, h => by
    simp only [findRows] at h
    split at h
    · cases h
      exact ⟨q', List.mem_cons_self, rfl, by omega, by omega, by omega⟩
    · obtain ⟨p, h1, h2, h3, h4, h5⟩ := findRows_spec l (c + q') kind su r q h
      exact ⟨p, List.mem_cons_of_mem _ h1, h2, h3, h4, by omega⟩
theorem suitRows_mem {g : Nat → Int} : ∀ (k i : Nat) (su : Int) (q : Nat), (su, q) ∈ suitRows g k i → ∃ j : Nat, i ≤ j ∧ j < i + k ∧ su = j ∧ q = (g j).toNat
  | 0, i, su, q, h => by cases h
  | k + 1, i, su, q, h => by
    simp only [suitRows, List.mem_cons, Prod.mk.injEq] at h
    rcases h with ⟨rfl, rfl⟩ | h
    · exact ⟨i, by omega, by omega, rfl, rfl⟩
    · obtain ⟨j, h1, h2, h3, h4⟩ := suitRows_mem k (i + 1) su q h
      exact ⟨j, by omega, by omega, h3, h4⟩
theorem find_spec {s : SV} {kind su r q : Int} (h : s.find kind = some (su, r, q)) : s.err = 0 ∧ 0 ≤ r ∧ r < q ∧ 0 ≤ kind ∧ ((su = -1 ∨ su = -2 ∨ su = -3) ∨ ∃ i : Nat, i < s.n ∧ su = i ∧ q = s.g i) := by
  unfold SV.find at h
  split at h
  · rename_i he
    have hs := small_of_err he
    obtain ⟨q', h1, h2, h3, h4, h5⟩ := findRows_spec _ _ _ _ _ _ h
    refine ⟨he, h3, h4, h5, ?_⟩
    unfold SV.rows at h1
    rcases List.mem_append.1 h1 with h1 | h1
    · obtain ⟨j, j1, j2, j3, j4⟩ := suitRows_mem _ _ _ _ h1
      have := hs.g j (by omega)
      exact .inr ⟨j, by omega, j3, by omega⟩
    · simp only [SV.tail, List.mem_cons, Prod.mk.injEq, List.not_mem_nil, or_false] at h1
      rcases h1 with ⟨e, _⟩ | ⟨e, _⟩ | ⟨e, _⟩
      · exact .inl (.inl e)
      · exact .inl (.inr (.inl e))
      · exact .inl (.inr (.inr e))
  · cases h
theorem find_none {s : SV} {kind : Int} (h : kind < 0 ∨ (s.err = 0 → s.plain + s.f ≤ kind)) : s.find kind = none := by
  unfold SV.find
  by_cases he : s.err = 0
  · rw [if_pos he]
    have hs := small_of_err he
    obtain ⟨p0, p1, e0⟩ := plain_small hs
    have key : ∀ (k i : Nat) (c : Int), i + k = s.n → 0 ≤ c → c ≤ 9 * i → sumG s.g k i (s.w + s.d + c) = s.plain → findRows (suitRows s.g k i ++ s.tail) c kind = none := by
      intro k
      induction k with
      | zero =>
        intro i c hi hc hc9 hsum
        obtain ⟨w1, w2⟩ := hs.w
        obtain ⟨d1, d2⟩ := hs.d
        obtain ⟨f1, f2⟩ := hs.f
        have hn := hs.n
        simp only [sumG] at hsum
        simp only [suitRows, List.nil_append, SV.tail, findRows]
        have q1 : ((s.w).toNat : Int) = s.w := by omega
        have q2 : ((s.d).toNat : Int) = s.d := by omega
        have q3 : ((s.f).toNat : Int) = s.f := by omega
        rw [q1, q2, q3]
        rcases h with h | h
        · rw [if_neg (by omega), if_neg (by omega), if_neg (by omega)]
        · have := h he
          rw [if_neg (by omega), if_neg (by omega), if_neg (by omega)]
      | succ k ih =>
        intro i c hi hc hc9 hsum
        have hn := hs.n
        obtain ⟨b1, b2⟩ := hs.g i (by omega)
        obtain ⟨w1, w2⟩ := hs.w
        obtain ⟨d1, d2⟩ := hs.d
        have q1 : ((s.g i).toNat : Int) = s.g i := by omega
        simp only [sumG] at hsum
        rw [wrapI_small (by omega) (by omega)] at hsum
        simp only [suitRows, List.cons_append, findRows]
        rw [q1]
        have hmono : ∀ (k i : Nat) (a : Int), i + k = s.n → 0 ≤ a → a ≤ 7 + 9 * i → a ≤ sumG s.g k i a := by
          intro k
          induction k with
          | zero => intro i a _ _ _; simp [sumG]
          | succ k ihk =>
            intro i a hi ha ha9
            obtain ⟨b1, b2⟩ := hs.g i (by omega)
            simp only [sumG]
            rw [wrapI_small (by omega) (by omega)]
            have := ihk (i + 1) (a + s.g i) (by omega) (by omega) (by omega)
            omega
        have hm := hmono k (i + 1) (s.w + s.d + c + s.g i) (by omega) (by omega) (by omega)
        rw [hsum] at hm
        obtain ⟨f1, f2⟩ := hs.f
        have hno : ¬ (c ≤ kind ∧ kind < c + s.g i) := by
          rcases h with h | h
          · omega
          · have := h he
            omega
        rw [if_neg hno]
        exact ih (i + 1) (c + s.g i) (by omega) (by omega) (by omega) (by rw [← hsum]; congr 1; omega)
    exact key s.n 0 0 (by omega) (by omega) (by omega) (by rw [Int.add_zero]; show sumG s.g s.n 0 (s.w + s.d) = s.plain; rw [SV.plain, e0])
  · rw [if_neg he]
theorem find_many {s : SV} {kind su r q : Int} (h : s.find kind = some (su, r, q)) : q = s.many su ∧ q ≤ 9 ∧ kind ≤ 42 ∧ r ≤ kind ∧ ((su = -1 ∨ su = -2 ∨ su = -3) ∨ ∃ i : Nat, i < s.n ∧ su = i) := by
  obtain ⟨he, r0, rq, k0, -⟩ := find_spec h
  have hs := small_of_err he
  obtain ⟨p0, p1, _⟩ := plain_small hs
  have hk : kind ≤ 42 := by
    have hff := hs.f
    by_cases c : s.plain + s.f ≤ kind
    · rw [find_none (.inr fun _ => c)] at h; cases h
    · omega
  have hrk : ∀ (l : List (Int × Nat)) (c su r q : Int), 0 ≤ c → findRows l c kind = some (su, r, q) → r ≤ kind := by
    intro l
    induction l with
    | nil => intro c su r q _ h; cases h
    | cons a l ih =>
      obtain ⟨su', q'⟩ := a
      intro c su r q hc h
      simp only [findRows] at h
      split at h
      · cases h; omega
      · exact ih _ _ _ _ (by omega) h
  unfold SV.find at h
  rw [if_pos he] at h
  have hr := hrk _ 0 _ _ _ (Int.le_refl _) h
  obtain ⟨q', h1, h2, _, _, _⟩ := findRows_spec _ _ _ _ _ _ h
  unfold SV.rows at h1
  obtain ⟨w1, w2⟩ := hs.w
  obtain ⟨d1, d2⟩ := hs.d
  obtain ⟨f1, f2⟩ := hs.f
  rcases List.mem_append.1 h1 with h1 | h1
  · obtain ⟨j, j1, j2, j3, j4⟩ := suitRows_mem _ _ _ _ h1
    have := hs.g j (by omega)
    have e : s.many su = s.g j := by
      subst j3
      unfold SV.many
      rw [if_neg (by omega), if_neg (by omega), if_neg (by omega)]
      rfl
    exact ⟨by omega, by omega, hk, hr, .inr ⟨j, by omega, j3⟩⟩
  · simp only [SV.tail, List.mem_cons, Prod.mk.injEq, List.not_mem_nil, or_false] at h1
    rcases h1 with ⟨rfl, e⟩ | ⟨rfl, e⟩ | ⟨rfl, e⟩
    · exact ⟨by simp [SV.many]; omega, by omega, hk, hr, .inl (.inl rfl)⟩
    · exact ⟨by simp [SV.many]; omega, by omega, hk, hr, .inl (.inr (.inl rfl))⟩
    · exact ⟨by simp [SV.many]; omega, by omega, hk, hr, .inl (.inr (.inr rfl))⟩
theorem kgP : kpT 14 = false := by kernel_rfl
theorem kgA : kpT 25 = false := by kernel_rfl
theorem Nfind : ((tabT Try.prog) 24).map (fun z => z.ex.nat 49) = some none := by kernel_rfl
theorem Cfind (call : Value → List Value → AH → Option (Value × AH)) {tm : Tm} {i j : Nat} {H : AH} {d : Option Tmp} {t : TypeId} {p : String} {a : Array Edge} {gd : Option (Nat × Bool)} : evOp (tabT Try.prog) call ⟨d, .call ⟨.value (.func 49), #[.tmp i, .tmp j], #[24, 3]⟩, t, p, a, gd⟩ (opd tm) H = call (.func (.func 49) #[] #[]) [tm.get i, tm.get j] H :=
  evOp_evO.trans (eo_call2n rfl rfl rfl Nfind)
theorem FP0 (i off : Nat) : aFieldAddr (tabT Try.prog) 69 (.pointer (some ⟨i, off, none⟩)) 0 = some (.pointer (some ⟨i, off + 0, none⟩)) := by kernel_rfl
theorem FP1 (i off : Nat) : aFieldAddr (tabT Try.prog) 69 (.pointer (some ⟨i, off, none⟩)) 1 = some (.pointer (some ⟨i, off + 1, none⟩)) := by kernel_rfl
theorem FP2 (i off : Nat) : aFieldAddr (tabT Try.prog) 69 (.pointer (some ⟨i, off, none⟩)) 2 = some (.pointer (some ⟨i, off + 2, none⟩)) := by kernel_rfl
set_option maxRecDepth 10000 in
set_option maxHeartbeats 8000000 in
theorem place_ev (call : Value → List Value → AH → Option (Value × AH)) (s : SV) (kind : Int) (hf : ∀ (H : AH), lookB H.bs 0 = some (.ints s.g) → lookB H.bs 1 = some (.ints s.h) → call (.func (.func 49) #[] #[]) [s.val, .int .i64 kind] H = some (findV (s.find kind), H)) :
    ∃ H', evFn (tabT Try.prog) call 300 kpT 14 Try.f14 [s.val, .int .i64 kind] s.hp = some (placeT (s.find kind), H') := by
  have kp := kgP
  cases hx : s.find kind with
  | none =>
    rw [hx] at hf
    simp only [SV.val, findV, placeV] at hf
    simp only [evFn, Try.f14, SV.val, SV.hp, placeT]
    simp [ec_skip, ec_label, ek_reg, ek_draw, ek_seq, ec_cond, ek_block, ec_loop, ec_exit, ec_ret, ec_scope, ek_nil, ek_op, opK_some, regK_some, seqK_normal, seqK_exit, seqK_ret, blockK_normal, blockK_exit, blockK_ret, evOp, vOp, hOpB, hOpU, hOp, hOpT, aAppendG_tab, aWanted, aYielded, opd, putT, closedV, aBin, intOp, sameK, mapO, joinR, hasAddr, boundOf, pushB, aAlloc, Value.cells, lookB, setB, Nat.beq_eq, tm_n_set, tm_get_set, tm_of_n, tm_of_get, tm_tr_set, tm_tr_of, cellV, putF, appR_eq, takeR_eq, dropR_eq, setR_eq, getR_eq, ↓C75, ↓C76, ↓C77, ↓C79, ↓C17, ↓C18, ↓C22, ↓C71, FA24_0, FA24_1, FA24_2, FA24_3, FA24_4, FA24_5, FA24_6, FA24_7, FA24_8, LD3, LD4, LD22, LD27, LDr, LD24, LEN22, IA22, tkc, cellAt, ↓Cfind, hf, ↓AL43, ST43, finF, takeM, resV, cleanedG, kp, below]
  | some x =>
    obtain ⟨su, r, q⟩ := x
    rw [hx] at hf
    simp only [SV.val, findV, placeV] at hf
    simp only [evFn, Try.f14, SV.val, SV.hp, placeT]
    simp [ec_skip, ec_label, ek_reg, ek_draw, ek_seq, ec_cond, ek_block, ec_loop, ec_exit, ec_ret, ec_scope, ek_nil, ek_op, opK_some, regK_some, seqK_normal, seqK_exit, seqK_ret, blockK_normal, blockK_exit, blockK_ret, evOp, vOp, hOpB, hOpU, hOp, hOpT, aAppendG_tab, aWanted, aYielded, opd, putT, closedV, aBin, intOp, sameK, mapO, joinR, hasAddr, boundOf, pushB, aAlloc, Value.cells, lookB, setB, Nat.beq_eq, tm_n_set, tm_get_set, tm_of_n, tm_of_get, tm_tr_set, tm_tr_of, cellV, putF, appR_eq, takeR_eq, dropR_eq, setR_eq, getR_eq, ↓C75, ↓C76, ↓C77, ↓C79, ↓C17, ↓C18, ↓C22, ↓C71, FA24_0, FA24_1, FA24_2, FA24_3, FA24_4, FA24_5, FA24_6, FA24_7, FA24_8, LD3, LD4, LD22, LD27, LDr, LD24, LEN22, IA22, tkc, cellAt, ↓Cfind, hf, ↓AL43, ST43]
    generalize hX : evDrawX _ _ _ _ _ = X
    obtain ⟨tm, rfl, hn', t4, t5⟩ := draw_ro (Pt := fun tm => tm.get 4 = .int .i64 su ∧ tm.get 5 = .int .i64 r) hX (by kernel_rfl) (by simp [decrK]) (by
      clear hX
      generalize befs _ = M
      simp [mapO, drRun, drOp, dr3, looks, guardT, tmpsOf, Op.operands, Call.operands, wantedR, gOf, finT, natMem, isNil, writesF, evOp, vOp, hOpB, hOpU, hOp, hOpT, aAppendG_tab, opd, closedV, aBin, intOp, sameK, opdO, boundOf, undef, lookB, Nat.beq_eq, tm_n_set, tm_get_set, tm_of_n, tm_of_get, tm_tr_set, tm_tr_of, b02, b12, b32, ↓G75, W75, ↓G76, W76, ↓G77, W77, ↓G79, W79, ↓G17, W17, ↓G18, W18, ↓G22, W22, ↓G71, W71, tv, all1, roB, roK, news, newOnes, decr, tkc, cellAt, LD3, LD4, LD22, LD27, LDr, LD24, LEN22, IA22, FA24_0, FA24_1, FA24_2, FA24_3, FA24_4, FA24_5, FA24_6, FA24_7, FA24_8, hasR, FP0, FP1, FP2]

      refine ⟨by simp [dynOK, b02, b12, b32, Nat.blt_eq, tm_n_set, tm_of_n], by simp [wheap, news, b02, b12, b32]⟩)
    simp [tm_n_set] at hn'
    simp [ec_skip, ec_label, ek_reg, ek_draw, ek_seq, ec_cond, ek_block, ec_loop, ec_exit, ec_ret, ec_scope, ek_nil, ek_op, opK_some, regK_some, seqK_normal, seqK_exit, seqK_ret, blockK_normal, blockK_exit, blockK_ret, evOp, vOp, hOpB, hOpU, hOp, hOpT, aAppendG_tab, aWanted, aYielded, opd, putT, closedV, aBin, intOp, sameK, mapO, joinR, hasAddr, boundOf, pushB, aAlloc, Value.cells, lookB, setB, Nat.beq_eq, tm_n_set, tm_get_set, tm_of_n, tm_of_get, tm_tr_set, tm_tr_of, cellV, putF, appR_eq, takeR_eq, dropR_eq, setR_eq, getR_eq, ↓C75, ↓C76, ↓C77, ↓C79, ↓C17, ↓C18, ↓C22, ↓C71, FA24_0, FA24_1, FA24_2, FA24_3, FA24_4, FA24_5, FA24_6, FA24_7, FA24_8, LD3, LD4, LD22, LD27, LDr, LD24, LEN22, IA22, tkc, cellAt, hn', t4, finF, takeM, resV, cleanedG, kp, below, t5]
set_option maxRecDepth 10000 in
set_option maxHeartbeats 8000000 in
theorem after_ev (call : Value → List Value → AH → Option (Value × AH)) (s : SV) (kind : Int) (hf : ∀ (H : AH), lookB H.bs 0 = some (.ints s.g) → lookB H.bs 1 = some (.ints s.h) → call (.func (.func 49) #[] #[]) [s.val, .int .i64 kind] H = some (findV (s.find kind), H)) :
    ∃ H', evFn (tabT Try.prog) call 300 kpT 25 Try.f25 [s.val, .int .i64 kind] s.hp = some (.int .i64 (s.aft kind), H') := by
  have kp := kgA
  unfold SV.aft
  cases hx : s.find kind with
  | none =>
    rw [hx] at hf
    simp only [SV.val, findV, placeV] at hf
    simp only [evFn, Try.f25, SV.val, SV.hp, placeT]
    simp [ec_skip, ec_label, ek_reg, ek_draw, ek_seq, ec_cond, ek_block, ec_loop, ec_exit, ec_ret, ec_scope, ek_nil, ek_op, opK_some, regK_some, seqK_normal, seqK_exit, seqK_ret, blockK_normal, blockK_exit, blockK_ret, evOp, vOp, hOpB, hOpU, hOp, hOpT, aAppendG_tab, aWanted, aYielded, opd, putT, closedV, aBin, intOp, sameK, mapO, joinR, hasAddr, boundOf, pushB, aAlloc, Value.cells, lookB, setB, Nat.beq_eq, tm_n_set, tm_get_set, tm_of_n, tm_of_get, tm_tr_set, tm_tr_of, cellV, putF, appR_eq, takeR_eq, dropR_eq, setR_eq, getR_eq, ↓C75, ↓C76, ↓C77, ↓C79, ↓C17, ↓C18, ↓C22, ↓C71, FA24_0, FA24_1, FA24_2, FA24_3, FA24_4, FA24_5, FA24_6, FA24_7, FA24_8, LD3, LD4, LD22, LD27, LDr, LD24, LEN22, IA22, tkc, cellAt, ↓Cfind, hf, ↓AL43, ST43, finF, takeM, resV, cleanedG, kp, below]
  | some x =>
    obtain ⟨su, r, q⟩ := x
    obtain ⟨_, r0, rq, k0, _⟩ := find_spec hx
    obtain ⟨_, q9, k42, rk, _⟩ := find_many hx
    have hv : wrapI .i64 (wrapI .i64 (kind - r) + (wrapI .i64 (r + 1)).tmod q) = if r = q - 1 then kind - r else kind + 1 := by
      rw [wrapI_small (n := kind - r) (by omega) (by omega), wrapI_small (n := r + 1) (by omega) (by omega)]
      by_cases c : r = q - 1
      · rw [if_pos c, c]
        have e : q - 1 + 1 = q := by omega
        rw [e, Int.tmod_self, wrapI_small (by omega) (by omega)]
        omega
      · rw [if_neg c, Int.tmod_eq_of_lt (by omega) (by omega), wrapI_small (by omega) (by omega)]
        omega
    have q0 : ¬ q = 0 := by omega
    have qn : (q == 0) = false := by simpa using q0
    have ew : (match (some (su, r, q) : Option (Int × Int × Int)) with | none => (-1 : Int) | some (_, r, q) => if r = q - 1 then kind - r else kind + 1) = if r = q - 1 then kind - r else kind + 1 := rfl
    rw [ew]
    rw [← hv]
    clear hv
    rw [hx] at hf
    simp only [SV.val, findV, placeV] at hf
    simp only [evFn, Try.f25, SV.val, SV.hp, placeT]
    simp [ec_skip, ec_label, ek_reg, ek_draw, ek_seq, ec_cond, ek_block, ec_loop, ec_exit, ec_ret, ec_scope, ek_nil, ek_op, opK_some, regK_some, seqK_normal, seqK_exit, seqK_ret, blockK_normal, blockK_exit, blockK_ret, evOp, vOp, hOpB, hOpU, hOp, hOpT, aAppendG_tab, aWanted, aYielded, opd, putT, closedV, aBin, intOp, sameK, mapO, joinR, hasAddr, boundOf, pushB, aAlloc, Value.cells, lookB, setB, Nat.beq_eq, tm_n_set, tm_get_set, tm_of_n, tm_of_get, tm_tr_set, tm_tr_of, cellV, putF, appR_eq, takeR_eq, dropR_eq, setR_eq, getR_eq, ↓C75, ↓C76, ↓C77, ↓C79, ↓C17, ↓C18, ↓C22, ↓C71, FA24_0, FA24_1, FA24_2, FA24_3, FA24_4, FA24_5, FA24_6, FA24_7, FA24_8, LD3, LD4, LD22, LD27, LDr, LD24, LEN22, IA22, tkc, cellAt, ↓Cfind, hf, ↓AL43, ST43]
    generalize hX : evDrawX _ _ _ _ _ = X
    obtain ⟨tm, rfl, hn', t4⟩ := draw_ro (Pt := fun tm => tm.get 4 = .int .i64 (wrapI .i64 (wrapI .i64 (kind - r) + (wrapI .i64 (r + 1)).tmod q))) hX (by kernel_rfl) (by simp [decrK]) (by
      clear hX
      generalize befs _ = M
      simp [mapO, drRun, drOp, dr3, looks, guardT, tmpsOf, Op.operands, Call.operands, wantedR, gOf, finT, natMem, isNil, writesF, evOp, vOp, hOpB, hOpU, hOp, hOpT, aAppendG_tab, opd, closedV, aBin, intOp, sameK, opdO, boundOf, undef, lookB, Nat.beq_eq, tm_n_set, tm_get_set, tm_of_n, tm_of_get, tm_tr_set, tm_tr_of, b02, b12, b32, ↓G75, W75, ↓G76, W76, ↓G77, W77, ↓G79, W79, ↓G17, W17, ↓G18, W18, ↓G22, W22, ↓G71, W71, tv, all1, roB, roK, news, newOnes, decr, tkc, cellAt, LD3, LD4, LD22, LD27, LDr, LD24, LEN22, IA22, FA24_0, FA24_1, FA24_2, FA24_3, FA24_4, FA24_5, FA24_6, FA24_7, FA24_8, hasR, FP0, FP1, FP2, q0, qn]

      refine ⟨by simp [dynOK, b02, b12, b32, Nat.blt_eq, tm_n_set, tm_of_n], by simp [wheap, news, b02, b12, b32]⟩)
    simp [tm_n_set] at hn'
    simp [ec_skip, ec_label, ek_reg, ek_draw, ek_seq, ec_cond, ek_block, ec_loop, ec_exit, ec_ret, ec_scope, ek_nil, ek_op, opK_some, regK_some, seqK_normal, seqK_exit, seqK_ret, blockK_normal, blockK_exit, blockK_ret, evOp, vOp, hOpB, hOpU, hOp, hOpT, aAppendG_tab, aWanted, aYielded, opd, putT, closedV, aBin, intOp, sameK, mapO, joinR, hasAddr, boundOf, pushB, aAlloc, Value.cells, lookB, setB, Nat.beq_eq, tm_n_set, tm_get_set, tm_of_n, tm_of_get, tm_tr_set, tm_tr_of, cellV, putF, appR_eq, takeR_eq, dropR_eq, setR_eq, getR_eq, ↓C75, ↓C76, ↓C77, ↓C79, ↓C17, ↓C18, ↓C22, ↓C71, FA24_0, FA24_1, FA24_2, FA24_3, FA24_4, FA24_5, FA24_6, FA24_7, FA24_8, LD3, LD4, LD22, LD27, LDr, LD24, LEN22, IA22, tkc, cellAt, hn', t4, finF, takeM, resV, cleanedG, kp, below]

end

section
set_option linter.unusedSimpArgs false
set_option linter.unusedVariables false

theorem FV : tabF Try.prog 57 = some Try.f57 := by kernel_rfl
theorem FP : tabF Try.prog 14 = some Try.f14 := by kernel_rfl
theorem FA : tabF Try.prog 25 = some Try.f25 := by kernel_rfl
theorem kgV : (kpT 57, gcT 57) = (false, true) := by kernel_rfl
theorem kgK : (kpT 58, gcT 58) = (false, false) := by kernel_rfl
theorem call_fn {n : Nat} {hd : Hnd} {f : FuncId} {fn : Func} {cap : Array Value} {args : List Value} {H : AH} (hF : tabF Try.prog f = some fn) (hh : hd (.func (.func f) #[] cap) args H = none) :
    evCall (tabT Try.prog) (tabF Try.prog) 300 kpT hd (n + 1) (.func (.func f) #[] cap) args H = evFn (tabT Try.prog) (evCall (tabT Try.prog) (tabF Try.prog) 300 kpT hd n) 300 kpT f fn (args ++ cap.toList) H := by
  conv => lhs; unfold evCall
  simp only [hh, hF]
  rw [twT_no rfl]
theorem call_yield {n : Nat} {hd : Hnd} {l : Nat} {args : List Value} {H : AH} (hh : hd (.func (.yield l) #[] #[]) args H = none) :
    evCall (tabT Try.prog) (tabF Try.prog) 300 kpT hd (n + 1) (.func (.yield l) #[] #[]) args H = evRound (tabT Try.prog) (evCall (tabT Try.prog) (tabF Try.prog) 300 kpT hd n) 300 kpT l args H := by
  conv => lhs; unfold evCall
  simp only [hh]
set_option maxRecDepth 10000 in
set_option maxHeartbeats 8000000 in
theorem valid_ev (call : Value → List Value → AH → Option (Value × AH)) (h17 : ∀ (s : SV) (H : AH), lookB H.bs 0 = some (.ints s.g) → lookB H.bs 1 = some (.ints s.h) → call (.func (.func 63) #[] #[]) [s.val] H = some (.int .i64 s.err, H)) (s : SV) : ∃ H', evFn (tabT Try.prog) call 300 kpT 57 Try.f57 [s.val] s.hp = some (.bool s.ok, H') := by
  have kp := kgV
  simp only [Prod.mk.injEq] at kp
  obtain ⟨kp1, kp2⟩ := kp
  have h := h17 s
  simp only [SV.val] at h
  simp only [evFn, Try.f57, SV.val, SV.hp, SV.ok]
  simp [ec_skip, ec_label, ek_reg, ek_draw, ek_seq, ec_cond, ek_block, ec_loop, ec_exit, ec_ret, ec_scope, ek_nil, ek_op, opK_some, regK_some, seqK_normal, seqK_exit, seqK_ret, blockK_normal, blockK_exit, blockK_ret, evOp, vOp, hOpB, hOpU, hOp, hOpT, aAppendG_tab, aWanted, aYielded, opd, putT, closedV, aBin, intOp, sameK, mapO, joinR, hasAddr, boundOf, pushB, aAlloc, Value.cells, lookB, setB, Nat.beq_eq, tm_n_set, tm_get_set, tm_of_n, tm_of_get, tm_tr_set, tm_tr_of, cellV, putF, appR_eq, takeR_eq, dropR_eq, setR_eq, getR_eq, ↓C75, ↓C76, ↓C77, ↓C79, ↓C17, ↓C18, ↓C22, ↓C71, FA24_0, FA24_1, FA24_2, FA24_3, FA24_4, FA24_5, FA24_6, FA24_7, FA24_8, LD3, LD4, LD22, LD27, LDr, LD24, LEN22, IA22, tkc, cellAt, h, finF, takeM, resV, cleanedG, kp1, kp2, below]
set_option maxRecDepth 10000 in
set_option maxHeartbeats 8000000 in
theorem kinds87_ev (call : Value → List Value → AH → Option (Value × AH)) (s : SV) (H : AH) : evFn (tabT Try.prog) call 300 kpT 58 Try.f58 [s.val] H = some (.func (.func 86) #[] #[.pointer (some ⟨H.next, 0, none⟩)], pushB H (.cells false s.boxL)) := by
  have kp := kgK
  simp only [Prod.mk.injEq] at kp
  obtain ⟨kp1, kp2⟩ := kp
  simp only [evFn, Try.f58, SV.val, SV.boxL]
  simp [ec_skip, ec_label, ek_reg, ek_draw, ek_seq, ec_cond, ek_block, ec_loop, ec_exit, ec_ret, ec_scope, ek_nil, ek_op, opK_some, regK_some, seqK_normal, seqK_exit, seqK_ret, blockK_normal, blockK_exit, blockK_ret, evOp, vOp, hOpB, hOpU, hOp, hOpT, aAppendG_tab, aWanted, aYielded, opd, putT, closedV, aBin, intOp, sameK, mapO, joinR, hasAddr, boundOf, pushB, aAlloc, Value.cells, lookB, setB, Nat.beq_eq, tm_n_set, tm_get_set, tm_of_n, tm_of_get, tm_tr_set, tm_tr_of, cellV, putF, appR_eq, takeR_eq, dropR_eq, setR_eq, getR_eq, ↓C75, ↓C76, ↓C77, ↓C79, ↓C17, ↓C18, ↓C22, ↓C71, FA24_0, FA24_1, FA24_2, FA24_3, FA24_4, FA24_5, FA24_6, FA24_7, FA24_8, LD3, LD4, LD22, LD27, LDr, LD24, LEN22, IA22, tkc, cellAt, finF, takeM, resV, cleanedG, kp1, kp2]
noncomputable def aOk (s : SV) : Option Value := some (.bool s.ok)
theorem ok80 : AnsOK (runH L4) 57 (ans1 aOk) := ans1_ok fun s v h => by
  cases h
  refine ⟨rfl, fun _ _ => ?_⟩
  obtain ⟨H', h⟩ := valid_ev (inH L4) L4_17 s
  exact ⟨H', runH_fn FV rfl h⟩
noncomputable def M7 : Hnd := orH (canH 57 (ans1 aOk)) L4
theorem M7_ok : CallOK Try.prog M7 := orH_ok (canH_ok (runH_ok L4_ok) ok80) L4_ok
theorem M7_80 (s : SV) (H : AH) (h0 : lookB H.bs 0 = some (.ints s.g)) (h1 : lookB H.bs 1 = some (.ints s.h)) : inH M7 (.func (.func 57) #[] #[]) [s.val] H = some (.bool s.ok, H) := inH_hd (orH_l (canH_set h0 h1))
theorem M7_cl (f : FuncId) (x : Value) (cap args : List Value) (H : AH) : M7 (.func (.func f) #[] ⟨x :: cap⟩) args H = none := rfl
theorem M7_y (l : Nat) (args : List Value) (H : AH) : M7 (.func (.yield l) #[] #[]) args H = none := rfl
theorem M7_87 (args : List Value) (H : AH) : M7 (.func (.func 58) #[] #[]) args H = none := rfl
theorem find_start (s : SV) (kind : Int) (h : s.err = 0) : inH M7 (.func (.func 86) #[] #[.pointer (some ⟨6, 0, none⟩)]) [.func (.yield 8) #[] #[]] (startF s kind) = some (.tuple #[], rowsR (MrF s kind) (HDF s kind) (hitF kind) s.rows 0 0) := by
  unfold inH
  rw [call_fn F111 (M7_cl _ _ _ _ _)]
  refine kinds_ev _ s (small_of_err h) (startF s kind) (MrF s kind) (HDF s kind) (hitF kind) (fun c m => ?_) (fun c m => ?_) rfl rfl (fun su q c m hq hc hcq => ?_)
  · simp [MrF, MF1, lookB, Nat.beq_eq]
  · simp [MrF, MF1, lookB, Nat.beq_eq]
  · unfold cl112
    rw [call_fn F112 (M7_cl _ _ _ _ _)]
    refine row_ev _ (MrF s kind) (HDF s kind su q) (hitF kind su q) su q c m (fun c m => ?_) (fun c m => ?_) (fun c m c' => ?_) (fun c r m => ?_) hq hc hcq
    · simp [MrF, MF1, lookB, Nat.beq_eq]
    · simp [MrF, MF1, lookB, Nat.beq_eq]
    · simp [MrF, MF1, setB, Nat.beq_eq]
    · rw [call_yield (M7_y _ _ _)]
      have := yield_find (evCall (tabT Try.prog) (tabF Try.prog) 300 kpT M7 5) s kind c su r q m
      simp only [MrF, HDF, hitF]
      rw [this]
      by_cases hc : c = kind
      · simp [hc]
      · simp [hc]

noncomputable def ansFind : List Value → AH → Option Value
  | [v, .int .i64 kind], H => match seeSet v H with
    | some s => some (findV (s.find kind))
    | none => none
  | _, _ => none

theorem findV_closed (x : Option (Int × Int × Int)) : closedV 5 (findV x) = true := by
  cases x <;> rfl

theorem ok84 : AnsOK (runH M7) 49 ansFind := by
  intro cargs Hc v hv
  unfold ansFind at hv
  split at hv
  · rename_i kind
    split at hv
    · rename_i s hs
      obtain ⟨rfl, rfl⟩ := seeSet_spec hs
      cases hv
      refine ⟨findV_closed _, fun _ => ?_⟩
      obtain ⟨H', h⟩ := find_ev (inH M7) s kind (fun H h0 h1 => M7_80 s H h0 h1) (fun H _ _ => by unfold inH; rw [call_fn F87 (M7_87 _ _)]; exact kinds87_ev _ s H) (find_start s kind)
      exact ⟨H', runH_fn F84 rfl h⟩
    · cases hv
  · cases hv

theorem canH_si {f : FuncId} {ans : List Value → AH → Option Value} {s : SV} {k : Int} {H : AH} (h0 : lookB H.bs 0 = some (.ints s.g)) (h1 : lookB H.bs 1 = some (.ints s.h)) :
    canH f ans (.func (.func f) #[] #[]) [s.val, .int .i64 k] H = (ans [s.val, .int .i64 k] s.hp).map (·, H) := by
  simp [canH, canon, canonL, canonV, idOf, idxOf, SV.val, canonB, h0, h1, SV.hp]
  generalize ans _ _ = x
  cases x <;> rfl

noncomputable def F1 : Hnd := orH (canH 49 ansFind) M7
theorem F1_ok : CallOK Try.prog F1 := orH_ok (canH_ok (runH_ok M7_ok) ok84) M7_ok
theorem F1_find (s : SV) (k : Int) (H : AH) (h0 : lookB H.bs 0 = some (.ints s.g)) (h1 : lookB H.bs 1 = some (.ints s.h)) : inH F1 (.func (.func 49) #[] #[]) [s.val, .int .i64 k] H = some (findV (s.find k), H) := by
  refine inH_hd (orH_l ?_)
  rw [canH_si h0 h1]
  have e : seeSet s.val s.hp = some s := by cases s; rfl
  simp only [ansFind, e, Option.map_some]
noncomputable def ansPl : SV → List Value → Option Value
  | s, [.int .i64 k] => some (placeT (s.find k))
  | _, _ => none
noncomputable def ansAf : SV → List Value → Option Value
  | s, [.int .i64 k] => some (.int .i64 (s.aft k))
  | _, _ => none
theorem setP_ok : CallOK Try.prog (setH 14 ansPl) := setH_ok (runH_ok F1_ok) fun s rest v _ _ hv => by
  unfold ansPl at hv
  split at hv
  · rename_i k
    cases hv
    obtain ⟨H', h⟩ := place_ev (inH F1) s k (fun H h0 h1 => F1_find s k H h0 h1)
    exact ⟨by cases s.find k <;> rfl, H', runH_fn FP rfl h⟩
  · cases hv
theorem setA_ok : CallOK Try.prog (setH 25 ansAf) := setH_ok (runH_ok F1_ok) fun s rest v _ _ hv => by
  unfold ansAf at hv
  split at hv
  · rename_i k
    cases hv
    obtain ⟨H', h⟩ := after_ev (inH F1) s k (fun H h0 h1 => F1_find s k H h0 h1)
    exact ⟨rfl, H', runH_fn FA rfl h⟩
  · cases hv

end

end Go.Proofs.Ytjginpeoblilpaa
