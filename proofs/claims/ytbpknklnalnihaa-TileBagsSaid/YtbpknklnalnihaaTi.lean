/-
  What is proved: the errors of tiles: checkTiles of the program, where a row of truths tells which tiles were seen.
-/
import Derived.Test.YtbpknklnalnihaaTh
namespace Go.Proofs.Ytbpknklnalnihaa
open Go.RowKit
set_option linter.unusedSimpArgs false
set_option linter.unusedVariables false

theorem F12 : tabF Try.prog 12 = some Try.f12 := by kernel_rfl
theorem F16 : tabF Try.prog 16 = some Try.f16 := by kernel_rfl

/-- The first error of tiles from the i-th on, m of them. -/
noncomputable def tErr (s : SV) (t : Nat → Int) : Nat → Nat → Int
  | 0, _ => 0
  | m + 1, i => if s.inB (t i) = false then 2 else if hasG t i (t i) = true then 9 else tErr s t m (i + 1)

theorem idx_pos (g : Nat → Int) (x : Int) : ∀ m i, 0 ≤ idxOfG g x m i ↔ ∃ j, i ≤ j ∧ j < i + m ∧ x = g j
  | 0, i => by
    simp only [idxOfG]
    exact ⟨fun h => absurd h (by omega), fun ⟨j, h1, h2, _⟩ => by omega⟩
  | m + 1, i => by
    rw [idxOfG]
    by_cases h : x = g i
    · rw [if_pos h]
      exact ⟨fun _ => ⟨i, by omega, by omega, h⟩, fun _ => by omega⟩
    · rw [if_neg h, idx_pos g x m (i + 1)]
      constructor
      · rintro ⟨j, h1, h2, h3⟩
        exact ⟨j, by omega, by omega, h3⟩
      · rintro ⟨j, h1, h2, h3⟩
        rcases Nat.lt_or_ge i j with h4 | h4
        · exact ⟨j, by omega, by omega, h3⟩
        · obtain rfl : j = i := by omega
          exact absurd h3 h
theorem hasG_iff (g : Nat → Int) (n : Nat) (x : Int) : hasG g n x = true ↔ ∃ j, j < n ∧ x = g j := by
  unfold hasG
  rw [decide_eq_true_iff, idx_pos]
  constructor
  · rintro ⟨j, _, h, e⟩; exact ⟨j, by omega, e⟩
  · rintro ⟨j, h, e⟩; exact ⟨j, by omega, by omega, e⟩
theorem hasG_succ (g : Nat → Int) (n : Nat) (x : Int) : hasG g (n + 1) x = (hasG g n x || decide (x = g n)) := by
  rw [Bool.eq_iff_iff, Bool.or_eq_true, hasG_iff, hasG_iff, decide_eq_true_iff]
  constructor
  · rintro ⟨j, h, e⟩
    rcases Nat.lt_or_ge j n with h4 | h4
    · exact .inl ⟨j, h4, e⟩
    · obtain rfl : j = n := by omega
      exact .inr e
  · rintro (⟨j, h, e⟩ | e)
    · exact ⟨j, by omega, e⟩
    · exact ⟨n, by omega, e⟩

/-- Which tiles lie among the first i. -/
noncomputable def seenL (t : Nat → Int) (i : Nat) : List Value := (List.range 144).map fun (j : Nat) => Value.bool (hasG t i (j : Int))
theorem seenL_len (t : Nat → Int) (i : Nat) : (seenL t i).length = 144 := by simp [seenL]
theorem seenL_at (t : Nat → Int) (i j : Nat) (h : j < 144) : (seenL t i)[j]? = some (.bool (hasG t i (j : Int))) := by simp [seenL, h]
def no144 : List Value := List.replicate 144 (Value.bool false)
theorem seenL_zero (t : Nat → Int) : no144 = seenL t 0 := by
  unfold no144
  apply List.ext_getElem?
  intro j
  rcases Nat.lt_or_ge j 144 with h | h
  · rw [seenL_at t 0 j h]
    rw [List.getElem?_replicate, if_pos h]; simp [hasG, idxOfG]
  · rw [List.getElem?_eq_none (by simpa using h), List.getElem?_eq_none (by rw [seenL_len]; exact h)]
theorem seenL_set (t : Nat → Int) (i k : Nat) (hk : k < 144) (e : t i = (k : Int)) : (seenL t i).set k (.bool true) = seenL t (i + 1) := by
  apply List.ext_getElem?
  intro j
  rcases Nat.lt_or_ge j 144 with h | h
  · rw [seenL_at t (i + 1) j h, List.getElem?_set, seenL_len, hasG_succ, e]
    by_cases hj : k = j
    · subst hj
      simp [hk]
    · have : ¬ ((j : Int) = (k : Int)) := by omega
      simp [hj, seenL_at t i j h, this]
  · rw [List.getElem?_eq_none (by rw [List.length_set, seenL_len]; exact h), List.getElem?_eq_none (by rw [seenL_len]; exact h)]

theorem ixarr {T : TypeId → Option TI} {t e : TypeId} {n z : Nat} (h1 : (T t).map (·.desc) = some (.array n e)) (h2 : (T e).map (·.size) = some z) (i off k : Nat) (h : k < n) : aIndexAddr T t (.pointer (some ⟨i, off, none⟩)) (.int .i64 (k : Int)) = some (.pointer (some ⟨i, off + k * z, none⟩)) := by
  obtain ⟨_, _, _, _, ht⟩ := tdesc h1
  cases he : T e with
  | none => rw [he] at h2; cases h2
  | some q =>
    rw [he] at h2
    simp only [Option.map_some, Option.some.injEq] at h2
    have hb : Nat.blt k n = true := by simpa [Nat.blt_eq] using h
    simp [aIndexAddr, natV, ht, he, h2, hb]
theorem IA54 (i k : Nat) (h : k < 144) : aIndexAddr (tabT Try.prog) 54 (.pointer (some ⟨i, 0, none⟩)) (.int .i64 (k : Int)) = some (.pointer (some ⟨i, k, none⟩)) := by
  rw [ixarr (e := 4) (n := 144) (z := 1) (by kernel_rfl) (by kernel_rfl) i 0 k h]
  simp
theorem AL54 (call : Value → List Value → AH → Option (Value × AH)) {g : Operand → Option Value} {H : AH} {d : Option Tmp} {t : TypeId} {p : String} {a : Array Edge} {gd : Option (Nat × Bool)} : evOp (tabT Try.prog) call ⟨d, .alloc 54, t, p, a, gd⟩ g H = some (.pointer (some ⟨H.next, 0, none⟩), ⟨H.next + 1, (H.next, .cells false no144) :: H.bs⟩) :=
  evOp_evO.trans (eo_alloc (cs := no144) (by kernel_rfl))
theorem ST4 (H : AH) (i off : Nat) (v : Value) : aStore (tabT Try.prog) H 4 (.pointer (some ⟨i, off, none⟩)) v = match lookB H.bs i with
    | some (.cells false cs) => if Nat.beq v.cells.toList.length 1 && Nat.ble (off + v.cells.toList.length) cs.length && v.cells.toList.all cellV then some { H with bs := setB H.bs i (.cells false (putF cs off v.cells.toList)) } else none
    | _ => none := sti (by kernel_rfl) H i off v

/-- The memory of a set and of a list. -/
noncomputable def hpT (s : SV) (t : Nat → Int) : AH := ⟨3, [(2, .ints t), (1, .ints s.h), (0, .ints s.g)]⟩
/-- The cells of a set. -/
noncomputable def SV.cs (s : SV) : List Value := [.int .i64 s.p, .slice (some ⟨0, 0, some 1⟩) s.n 0, .int .i64 s.w, .int .i64 s.d, .int .i64 s.f, .int .i64 s.c, .int .i64 s.m, .int .i64 s.de, .slice (some ⟨1, 0, some 1⟩) s.k 0]
noncomputable def hpC (s : SV) (t : Nat → Int) (i : Nat) : AH := ⟨5, [(4, .cells false (seenL t i)), (3, .cells false s.cs), (2, .ints t), (1, .ints s.h), (0, .ints s.g)]⟩
noncomputable def sl2 (n : Nat) : Value := .slice (some ⟨2, 0, some 1⟩) n 0

noncomputable def I12 (s : SV) (t : Nat → Int) (n : Nat) (m : Nat) (A : AF) (H : AH) : Prop := ∃ (i : Nat), i + m = n ∧ tErr s t m i = tErr s t n 0 ∧ A.tm.n = 32 ∧ A.marks = [] ∧ A.tm.get 16 = .int .i64 (i : Int) ∧ A.tm.get 15 = .int .i64 (n : Int) ∧ A.tm.get 14 = sl2 n ∧ A.tm.get 2 = .pointer (some ⟨3, 0, none⟩) ∧ A.tm.get 6 = .pointer (some ⟨4, 0, none⟩) ∧ H = hpC s t i
noncomputable def Q12 (s : SV) (t : Nat → Int) (n : Nat) (y : AX) (A' : AF) (_ : AH) : Prop := A'.tm.n = 32 ∧ A'.marks = [] ∧ ((y = .exit 0 ∧ tErr s t n 0 = 0) ∨ (y = .ret ∧ A'.tm.get 4 = .int .i64 (tErr s t n 0)))
noncomputable def SV.ct (s : SV) (t : Nat → Int) (n : Nat) : Int := if s.err = 0 then tErr s t n 0 else s.err

set_option maxRecDepth 10000 in
set_option maxHeartbeats 8000000 in
theorem ct_ev (call : Value → List Value → AH → Option (Value × AH)) (s : SV) (t : Nat → Int) (n : Nat) (hn : n ≤ 200) (h29 : ∀ (H : AH), lookB H.bs 0 = some (.ints s.g) → lookB H.bs 1 = some (.ints s.h) → call (.func (.func 29) #[] #[]) [s.val] H = some (.int .i64 s.err, H)) (h31 : ∀ (H : AH), lookB H.bs 0 = some (.ints s.g) → lookB H.bs 1 = some (.ints s.h) → call (.func (.func 31) #[] #[]) [s.val] H = some (.int .i64 s.size, H)) (h30 : ∀ (n l m : Int) (H : AH), call (.func (.func 30) #[] #[]) [.int .i64 n, .int .i64 l, .int .i64 m] H = some (.bool (btw n l m), H)) : ∃ H', evFn (tabT Try.prog) call 300 kpT 12 Try.f12 [s.val, sl2 n] (hpT s t) = some (.int .i64 (s.ct t n), H') := by
  simp only [SV.val] at h29 h31
  unfold SV.ct
  simp only [evFn, Try.f12, SV.val, hpT, sl2]
  by_cases c1 : s.err = 0
  · have c1' : (s.err != 0) = false := by simpa using c1
    have hz : s.rsize = s.size := by simp [SV.rsize, c1]
    have hbn := size_bounds c1
    have hs1 : wrapI .i64 (s.size - 1) = s.size - 1 := wrapI_small (by omega) (by omega)
    rw [if_pos c1]
    simp [ec_skip, ec_label, ek_reg, ek_draw, ek_seq, ec_cond, ek_block, ec_loop, ec_exit, ec_ret, ec_scope, ek_nil, ek_op, opK_some, regK_some, seqK_normal, seqK_exit, seqK_ret, blockK_normal, blockK_exit, blockK_ret, evOp, vOp, hOpB, hOpU, hOp, hOpT, aWanted, aYielded, opd, putT, closedV, aBin, intOp, sameK, mapO, joinR, hasAddr, boundOf, pushB, aAlloc, Value.cells, lookB, setB, Nat.beq_eq, tm_n_set, tm_get_set, tm_of_n, tm_of_get, tm_tr_set, tm_tr_of, cellV, putF, appR_eq, takeR_eq, dropR_eq, setR_eq, getR_eq, ↓C75, ↓C76, ↓C77, ↓C79, ↓C17, ↓C18, ↓C22, ↓C71, FA24_0, FA24_1, FA24_2, FA24_3, FA24_4, FA24_5, FA24_6, FA24_7, FA24_8, LD3, LD4, LD22, LD27, LDr, LD24, LEN22, IA22, tkc, cellAt, SV.cs, hpC, sl2, ↓AL54, ST4, h29, c1]
    rw [seenL_zero t]
    generalize hr : evLoop _ _ _ _ = r
    obtain ⟨y, A', H', rfl, hl, hmk, hx⟩ := loop_go (Q := Q12 s t n) hr (I12 s t n) n (by omega) ⟨0, by omega, rfl, rfl, rfl, rfl, rfl, rfl, rfl, rfl, rfl⟩ (by
      clear hr
      rintro m A H ⟨i, him, hres, hl, hmk, h16, h15, h14, h2, h6, rfl⟩
      simp only [runC]
      cases m with
      | zero =>
        have hi : ¬ i < n := by omega
        rw [tErr] at hres
        simp [ec_skip, ec_label, ek_reg, ek_draw, ek_seq, ec_cond, ek_block, ec_loop, ec_exit, ec_ret, ec_scope, ek_nil, ek_op, opK_some, regK_some, seqK_normal, seqK_exit, seqK_ret, blockK_normal, blockK_exit, blockK_ret, evOp, vOp, hOpB, hOpU, hOp, hOpT, aWanted, aYielded, opd, putT, closedV, aBin, intOp, sameK, mapO, joinR, hasAddr, boundOf, pushB, aAlloc, Value.cells, lookB, setB, Nat.beq_eq, tm_n_set, tm_get_set, tm_of_n, tm_of_get, tm_tr_set, tm_tr_of, cellV, putF, appR_eq, takeR_eq, dropR_eq, setR_eq, getR_eq, ↓C75, ↓C76, ↓C77, ↓C79, ↓C17, ↓C18, ↓C22, ↓C71, FA24_0, FA24_1, FA24_2, FA24_3, FA24_4, FA24_5, FA24_6, FA24_7, FA24_8, LD3, LD4, LD22, LD27, LDr, LD24, LEN22, IA22, tkc, cellAt, SV.cs, hpC, sl2, ↓AL54, ST4, hl, hmk, h16, h15, h14, h2, h6, hi]
        exact .inr ⟨by simp, by simp [tm_n_set, hl], rfl, .inl ⟨rfl, hres.symm⟩⟩
      | succ m =>
        have hi : i < n := by omega
        have hw : wrapI .i64 ((i : Int) + 1) = ((i + 1 : Nat) : Int) := by rw [wrapI_small (by omega) (by omega)]; rfl
        rw [tErr] at hres
        have hb : btw (t i) 0 (s.size - 1) = s.inB (t i) := by simp only [btw, SV.inB, hz]; congr 1; apply decide_eq_decide.2; omega
        cases c2 : s.inB (t i) with
        | false =>
          rw [if_pos c2] at hres
          simp [ec_skip, ec_label, ek_reg, ek_draw, ek_seq, ec_cond, ek_block, ec_loop, ec_exit, ec_ret, ec_scope, ek_nil, ek_op, opK_some, regK_some, seqK_normal, seqK_exit, seqK_ret, blockK_normal, blockK_exit, blockK_ret, evOp, vOp, hOpB, hOpU, hOp, hOpT, aWanted, aYielded, opd, putT, closedV, aBin, intOp, sameK, mapO, joinR, hasAddr, boundOf, pushB, aAlloc, Value.cells, lookB, setB, Nat.beq_eq, tm_n_set, tm_get_set, tm_of_n, tm_of_get, tm_tr_set, tm_tr_of, cellV, putF, appR_eq, takeR_eq, dropR_eq, setR_eq, getR_eq, ↓C75, ↓C76, ↓C77, ↓C79, ↓C17, ↓C18, ↓C22, ↓C71, FA24_0, FA24_1, FA24_2, FA24_3, FA24_4, FA24_5, FA24_6, FA24_7, FA24_8, LD3, LD4, LD22, LD27, LDr, LD24, LEN22, IA22, tkc, cellAt, SV.cs, hpC, sl2, ↓AL54, ST4, hl, hmk, h16, h15, h14, h2, h6, hi, h31, h30, hs1, hb, c2]
          exact .inr ⟨by simp, by simp [tm_n_set, hl], rfl, .inr ⟨rfl, by simp [tm_get_set, tm_n_set, hl, ← hres]⟩⟩
        | true =>
          rw [if_neg (by simp [c2])] at hres
          obtain ⟨k, hk⟩ : ∃ k : Nat, t i = (k : Int) := ⟨(t i).toNat, by simp [SV.inB] at c2; omega⟩
          have hk1 : k < 144 := by
            have := rsize_bounds s
            simp [SV.inB] at c2
            omega
          have hat := seenL_at t i k hk1
          have hix := IA54 4 k hk1
          have hlen := seenL_len t i
          have hbl : Nat.ble (k + 1) 144 = true := by simp [Nat.ble_eq]; omega
          rw [hk] at hb c2 hres
          cases c3 : hasG t i (k : Int) with
          | true =>
            rw [if_pos c3] at hres
            rw [c3] at hat
            simp [ec_skip, ec_label, ek_reg, ek_draw, ek_seq, ec_cond, ek_block, ec_loop, ec_exit, ec_ret, ec_scope, ek_nil, ek_op, opK_some, regK_some, seqK_normal, seqK_exit, seqK_ret, blockK_normal, blockK_exit, blockK_ret, evOp, vOp, hOpB, hOpU, hOp, hOpT, aWanted, aYielded, opd, putT, closedV, aBin, intOp, sameK, mapO, joinR, hasAddr, boundOf, pushB, aAlloc, Value.cells, lookB, setB, Nat.beq_eq, tm_n_set, tm_get_set, tm_of_n, tm_of_get, tm_tr_set, tm_tr_of, cellV, putF, appR_eq, takeR_eq, dropR_eq, setR_eq, getR_eq, ↓C75, ↓C76, ↓C77, ↓C79, ↓C17, ↓C18, ↓C22, ↓C71, FA24_0, FA24_1, FA24_2, FA24_3, FA24_4, FA24_5, FA24_6, FA24_7, FA24_8, LD3, LD4, LD22, LD27, LDr, LD24, LEN22, IA22, tkc, cellAt, SV.cs, hpC, sl2, ↓AL54, ST4, hl, hmk, h16, h15, h14, h2, h6, hi, h31, h30, hs1, hb, c2, hk, hix, hat, c3]
            exact .inr ⟨by simp, by simp [tm_n_set, hl], rfl, .inr ⟨rfl, by simp [tm_get_set, tm_n_set, hl, ← hres]⟩⟩
          | false =>
            rw [if_neg (by simp [c3])] at hres
            rw [c3] at hat
            have hset := seenL_set t i k hk1 hk
            simp [ec_skip, ec_label, ek_reg, ek_draw, ek_seq, ec_cond, ek_block, ec_loop, ec_exit, ec_ret, ec_scope, ek_nil, ek_op, opK_some, regK_some, seqK_normal, seqK_exit, seqK_ret, blockK_normal, blockK_exit, blockK_ret, evOp, vOp, hOpB, hOpU, hOp, hOpT, aWanted, aYielded, opd, putT, closedV, aBin, intOp, sameK, mapO, joinR, hasAddr, boundOf, pushB, aAlloc, Value.cells, lookB, setB, Nat.beq_eq, tm_n_set, tm_get_set, tm_of_n, tm_of_get, tm_tr_set, tm_tr_of, cellV, putF, appR_eq, takeR_eq, dropR_eq, setR_eq, getR_eq, ↓C75, ↓C76, ↓C77, ↓C79, ↓C17, ↓C18, ↓C22, ↓C71, FA24_0, FA24_1, FA24_2, FA24_3, FA24_4, FA24_5, FA24_6, FA24_7, FA24_8, LD3, LD4, LD22, LD27, LDr, LD24, LEN22, IA22, tkc, cellAt, SV.cs, hpC, sl2, ↓AL54, ST4, hl, hmk, h16, h15, h14, h2, h6, hi, h31, h30, hs1, hb, c2, hk, hix, hat, c3, hlen, hbl, hset]
            refine .inl ⟨rfl, m, rfl, i + 1, by omega, hres, ?_⟩
            simp [hpC, SV.cs, sl2, tm_get_set, tm_n_set, hl, h16, h15, h14, h2, h6, hw])
    rcases hx with ⟨rfl, hx⟩ | ⟨rfl, hx⟩
    · simp [ec_skip, ec_label, ek_reg, ek_draw, ek_seq, ec_cond, ek_block, ec_loop, ec_exit, ec_ret, ec_scope, ek_nil, ek_op, opK_some, regK_some, seqK_normal, seqK_exit, seqK_ret, blockK_normal, blockK_exit, blockK_ret, evOp, vOp, hOpB, hOpU, hOp, hOpT, aWanted, aYielded, opd, putT, closedV, aBin, intOp, sameK, mapO, joinR, hasAddr, boundOf, pushB, aAlloc, Value.cells, lookB, setB, Nat.beq_eq, tm_n_set, tm_get_set, tm_of_n, tm_of_get, tm_tr_set, tm_tr_of, cellV, putF, appR_eq, takeR_eq, dropR_eq, setR_eq, getR_eq, ↓C75, ↓C76, ↓C77, ↓C79, ↓C17, ↓C18, ↓C22, ↓C71, FA24_0, FA24_1, FA24_2, FA24_3, FA24_4, FA24_5, FA24_6, FA24_7, FA24_8, LD3, LD4, LD22, LD27, LDr, LD24, LEN22, IA22, tkc, cellAt, hl, hmk, hx, finF, takeM, resV]
    · simp [ec_skip, ec_label, ek_reg, ek_draw, ek_seq, ec_cond, ek_block, ec_loop, ec_exit, ec_ret, ec_scope, ek_nil, ek_op, opK_some, regK_some, seqK_normal, seqK_exit, seqK_ret, blockK_normal, blockK_exit, blockK_ret, evOp, vOp, hOpB, hOpU, hOp, hOpT, aWanted, aYielded, opd, putT, closedV, aBin, intOp, sameK, mapO, joinR, hasAddr, boundOf, pushB, aAlloc, Value.cells, lookB, setB, Nat.beq_eq, tm_n_set, tm_get_set, tm_of_n, tm_of_get, tm_tr_set, tm_tr_of, cellV, putF, appR_eq, takeR_eq, dropR_eq, setR_eq, getR_eq, ↓C75, ↓C76, ↓C77, ↓C79, ↓C17, ↓C18, ↓C22, ↓C71, FA24_0, FA24_1, FA24_2, FA24_3, FA24_4, FA24_5, FA24_6, FA24_7, FA24_8, LD3, LD4, LD22, LD27, LDr, LD24, LEN22, IA22, tkc, cellAt, hl, hmk, hx, finF, takeM, resV]
  · have c1' : (s.err != 0) = true := by simpa using c1
    rw [if_neg c1]
    simp [ec_skip, ec_label, ek_reg, ek_draw, ek_seq, ec_cond, ek_block, ec_loop, ec_exit, ec_ret, ec_scope, ek_nil, ek_op, opK_some, regK_some, seqK_normal, seqK_exit, seqK_ret, blockK_normal, blockK_exit, blockK_ret, evOp, vOp, hOpB, hOpU, hOp, hOpT, aWanted, aYielded, opd, putT, closedV, aBin, intOp, sameK, mapO, joinR, hasAddr, boundOf, pushB, aAlloc, Value.cells, lookB, setB, Nat.beq_eq, tm_n_set, tm_get_set, tm_of_n, tm_of_get, tm_tr_set, tm_tr_of, cellV, putF, appR_eq, takeR_eq, dropR_eq, setR_eq, getR_eq, ↓C75, ↓C76, ↓C77, ↓C79, ↓C17, ↓C18, ↓C22, ↓C71, FA24_0, FA24_1, FA24_2, FA24_3, FA24_4, FA24_5, FA24_6, FA24_7, FA24_8, LD3, LD4, LD22, LD27, LDr, LD24, LEN22, IA22, tkc, cellAt, SV.cs, hpC, sl2, ↓AL54, ST4, h29, c1, c1', finF, takeM, resV]

end Go.Proofs.Ytbpknklnalnihaa
