/-
  What is proved: what tile.Swap and the document's own Swap answer for every set and all numbers.
-/
import Derived.Test.YtkoppbbmdjhaoaaJi
namespace Go.Proofs.Ytkoppbbmdjhaoaa
open Go.RowKit
set_option linter.unusedSimpArgs false

theorem F41 : tabF Try.prog 41 = some Try.f41 := by kernel_rfl
theorem F42 : tabF Try.prog 42 = some Try.f42 := by kernel_rfl
theorem F90 : tabF Try.prog 90 = some Try.f90 := by kernel_rfl

def firstN (g : Nat → Int) : Nat → Int
  | 0 => 0
  | j + 1 => firstN g j + g j

theorem firstN_small {s : SV} (hs : s.Small) : ∀ j, j ≤ s.n → 0 ≤ firstN s.g j ∧ firstN s.g j ≤ 9 * j
  | 0, _ => by simp [firstN]
  | j + 1, h => by
    obtain ⟨h1, h2⟩ := firstN_small hs j (by omega)
    obtain ⟨b1, b2⟩ := hs.g j (by omega)
    simp only [firstN]
    omega

theorem atRows_suit {g : Nat → Int} {tail : List (Int × Nat)} {j : Nat} {rk : Int} (h0 : 0 ≤ rk) (h1 : rk < g j) : ∀ (k i : Nat), (∀ x, x < i + k → 1 ≤ g x) → i ≤ j → j < i + k →
    atRows (suitRows g k i ++ tail) (firstN g i) j rk = some (firstN g j + rk)
  | 0, i, _, h2, h3 => by omega
  | k + 1, i, hg, h2, h3 => by
    have hgi := hg i (by omega)
    have q1 : ((g i).toNat : Int) = g i := by omega
    simp only [suitRows, List.cons_append, atRows]
    by_cases hij : i = j
    · subst hij
      rw [if_pos ⟨rfl, h0, by omega⟩]
    · rw [if_neg (fun hh => hij (by omega))]
      have := atRows_suit (tail := tail) h0 h1 k (i + 1) (fun x hx => hg x (by omega)) (by omega) (by omega)
      rw [firstN] at this
      rw [q1]
      exact this

theorem at_suit {s : SV} (hs : s.Small) {j : Nat} {rk : Int} (hj : j < s.n) (h0 : 0 ≤ rk) (h1 : rk < s.g j) : atRows s.rows 0 j rk = some (firstN s.g j + rk) := by
  have := atRows_suit (g := s.g) (tail := s.tail) h0 h1 s.n 0 (fun x hx => (hs.g x (by omega)).1) (by omega) (by omega)
  exact this

def I90 (s : SV) (j : Nat) (k : Nat) (A : AF) (H : AH) : Prop := ∃ (i : Nat), i + k = j ∧ H = s.bx ∧ A.tm.length = 20 ∧ A.marks = [] ∧ getT A.tm 1 = .int .i64 (j : Int) ∧ getT A.tm 2 = .pointer (some ⟨2, 0, none⟩) ∧ getT A.tm 5 = .int .i64 (firstN s.g i) ∧ getT A.tm 6 = .int .i64 (i : Int)
def Q90 (s : SV) (j : Nat) (z : AX) (A' : AF) (H : AH) : Prop := z = .exit 0 ∧ A'.tm.length = 20 ∧ A'.marks = [] ∧ H = s.bx ∧ getT A'.tm 5 = .int .i64 (firstN s.g j)

set_option maxRecDepth 10000 in
set_option maxHeartbeats 8000000 in
theorem first_ev (call : Value → List Value → AH → Option (Value × AH)) (s : SV) (hs : s.Small) (j : Nat) (hj : j < s.n) : ∃ H', evFn (tabT Try.prog) call 300 kpT 90 Try.f90 [s.val, .int .i64 (j : Int)] s.hp = some (.int .i64 (firstN s.g j), H') := by
  have hn3 := hs.n
  simp only [evFn, Try.f90, SV.val, SV.hp]
  simp [ec_skip, ec_label, ek_reg, ek_draw, ek_seq, ec_cond, ek_block, ec_loop, ec_exit, ec_ret, ek_nil, ek_op, opK_some, regK_some, seqK_normal, seqK_exit, seqK_ret, blockK_normal, blockK_exit, blockK_ret, evOp, vOp, hOp, aWanted, aY, boolOf, opd, putT, closedV, undef, aBin, intOp, sameK, mapO, joinR, hasAddr, pushB, aAlloc, Value.cells, T3, T4, T22, FA24_0, FA24_1, FA24_2, FA24_3, FA24_4, FA24_5, FA24_6, FA24_7, FA24_8, LD3, LD4, LD22, LD27, LDr, LD24, LEN22, IA22, cellAt, lookB, Nat.beq_eq, takeCells, getT, setT]
  generalize hr : evLoop _ _ _ _ = r
  obtain ⟨z, A', H', rfl, rfl, hl, hmk, rfl, h5⟩ := loop_go (Q := Q90 s j) hr (I90 s j) j (by omega) ⟨0, by omega, by simp [SV.bx], rfl, rfl, rfl, rfl, rfl, rfl⟩ (by
      clear hr
      rintro k A H ⟨i, him, rfl, hl, hmk, g1, g2, g5, g6⟩
      simp only [runC, SV.bx]
      cases k with
      | zero =>
        have hi : ¬ (i : Int) < (j : Int) := by omega
        have hij : i = j := by omega
        subst hij
        simp [ec_skip, ec_label, ek_reg, ek_draw, ek_seq, ec_cond, ek_block, ec_loop, ec_exit, ec_ret, ek_nil, ek_op, opK_some, regK_some, seqK_normal, seqK_exit, seqK_ret, blockK_normal, blockK_exit, blockK_ret, evOp, vOp, hOp, aWanted, aY, boolOf, opd, putT, closedV, undef, aBin, intOp, sameK, mapO, joinR, hasAddr, pushB, aAlloc, Value.cells, T3, T4, T22, FA24_0, FA24_1, FA24_2, FA24_3, FA24_4, FA24_5, FA24_6, FA24_7, FA24_8, LD3, LD4, LD22, LD27, LDr, LD24, LEN22, IA22, cellAt, lookB, Nat.beq_eq, takeCells, getT_set, setT_length, hl, hmk, g1, g2, g5, g6]
        exact .inr ⟨by simp, rfl, by simp [setT_length, hl], rfl, by simp [SV.bx], by simp [getT_set, setT_length, hl, g5]⟩
      | succ k =>
        have hi : (i : Int) < (j : Int) := by omega
        have hi' : i < j := by omega
        have hin : i < s.n := by omega
        have hw : wrapI .i64 ((i : Int) + 1) = ((i + 1 : Nat) : Int) := by rw [wrapI_small (by omega) (by omega)]; rfl
        obtain ⟨b1, b2⟩ := hs.g i hin
        obtain ⟨e1, e2⟩ := firstN_small hs i (by omega)
        have hwf : wrapI .i64 (firstN s.g i + s.g i) = firstN s.g (i + 1) := by rw [wrapI_small (by omega) (by omega)]; rfl
        simp [ec_skip, ec_label, ek_reg, ek_draw, ek_seq, ec_cond, ek_block, ec_loop, ec_exit, ec_ret, ek_nil, ek_op, opK_some, regK_some, seqK_normal, seqK_exit, seqK_ret, blockK_normal, blockK_exit, blockK_ret, evOp, vOp, hOp, aWanted, aY, boolOf, opd, putT, closedV, undef, aBin, intOp, sameK, mapO, joinR, hasAddr, pushB, aAlloc, Value.cells, T3, T4, T22, FA24_0, FA24_1, FA24_2, FA24_3, FA24_4, FA24_5, FA24_6, FA24_7, FA24_8, LD3, LD4, LD22, LD27, LDr, LD24, LEN22, IA22, cellAt, lookB, Nat.beq_eq, takeCells, getT_set, setT_length, hl, hmk, g1, g2, g5, g6, hi, hi', hin]
        refine .inl ⟨rfl, k, rfl, i + 1, by omega, by simp [SV.bx], ?_⟩
        simp [getT_set, setT_length, hl, g1, g2, g5, g6, hw, hwf])
  simp [ec_skip, ec_label, ek_reg, ek_draw, ek_seq, ec_cond, ek_block, ec_loop, ec_exit, ec_ret, ek_nil, ek_op, opK_some, regK_some, seqK_normal, seqK_exit, seqK_ret, blockK_normal, blockK_exit, blockK_ret, evOp, vOp, hOp, aWanted, aY, boolOf, opd, putT, closedV, undef, aBin, intOp, sameK, mapO, joinR, hasAddr, pushB, aAlloc, Value.cells, T3, T4, T22, FA24_0, FA24_1, FA24_2, FA24_3, FA24_4, FA24_5, FA24_6, FA24_7, FA24_8, LD3, LD4, LD22, LD27, LDr, LD24, LEN22, IA22, cellAt, lookB, Nat.beq_eq, takeCells, finF, takeM, resV, getT_set, setT_length, SV.bx, hl, hmk, h5]

def ansFirst : List Value → AH → Option Value
  | [v, .int .i64 su], H => match seeSet v H with
    | some s => if s.err = 0 ∧ 0 ≤ su ∧ su < s.n then some (.int .i64 (firstN s.g su.toNat)) else none
    | none => none
  | _, _ => none

theorem ok90 : AnsOK (runH M7) 90 ansFirst := by
  intro cargs Hc v hv
  unfold ansFirst at hv
  split at hv
  · rename_i su
    split at hv
    · rename_i s hs
      obtain ⟨rfl, rfl⟩ := seeSet_spec hs
      split at hv
      · rename_i he
        cases hv
        refine ⟨rfl, fun _ => ?_⟩
        have e : su = ((su.toNat : Nat) : Int) := by omega
        obtain ⟨H', h⟩ := first_ev (inH M7) s (small_of_err he.1) su.toNat (by omega)
        rw [← e] at h
        exact ⟨H', runH_fn F90 rfl h⟩
      · cases hv
    · cases hv
  · cases hv

def M9 : Hnd := orH (canH 90 ansFirst) M8
theorem M9_ok : CallOK Try.prog M9 := orH_ok (canH_ok (runH_ok M7_ok) ok90) M8_ok

theorem M9_90 (s : SV) (j : Nat) (he : s.err = 0) (hj : j < s.n) (H : AH) (h0 : lookB H.bs 0 = some (.ints s.g)) (h1 : lookB H.bs 1 = some (.ints s.h)) : inH M9 (.func (.func 90) #[] #[]) [s.val, .int .i64 (j : Int)] H = some (.int .i64 (firstN s.g j), H) :=
  inH_hd (orH_l (by
    rw [canH_si h0 h1]
    simp only [ansFirst, seeSet_val]
    rw [if_pos ⟨he, by omega, by omega⟩]
    rfl))
theorem M9_27 (s : SV) (k : Int) (H : AH) (h0 : lookB H.bs 0 = some (.ints s.g)) (h1 : lookB H.bs 1 = some (.ints s.h)) : inH M9 (.func (.func 27) #[] #[]) [s.val, .int .i64 k] H = some (placeT (s.find k), H) :=
  inH_hd (orH_r (canH_other rfl) (orH_r (canH_other rfl) (orH_r (canH_other rfl) (orH_l (by rw [canH_si h0 h1]; rfl)))))
theorem M9_78 (n l m : Int) (H : AH) : inH M9 (.func (.func 78) #[] #[]) [.int .i64 n, .int .i64 l, .int .i64 m] H = some (.bool (btw n l m), H) := inH_hd rfl

/-- Whether two suits cannot be swapped. -/
def SV.noSwap (s : SV) (a b : Int) : Bool := !btw a 0 (wrapI .i64 (s.n - 1)) || !btw b 0 (wrapI .i64 (s.n - 1)) || s.g a.toNat != s.g b.toNat

/-- What both Swaps answer. -/
def SV.swp (s : SV) (kind a b : Int) : Int :=
  match s.find kind with
  | none => -1
  | some (su, r, _) => if s.noSwap a b then kind else if su = a then firstN s.g b.toNat + r else if su = b then firstN s.g a.toNat + r else kind

def plL (su r q : Int) : List Value := [.int .i64 su, .int .i64 r, .int .i64 q]
def bs41 (s : SV) (su r q : Int) : List (Nat × ABlk) := [(3, .cells false (plL su r q)), (2, .cells false s.boxL), (1, .ints s.h), (0, .ints s.g)]
def P41 (s : SV) (su r q : Int) (R : Bool) (x : List DR × Nat) : Prop := x.2 = 4 ∧ wheap (bs41 s su r q) x.1 = bs41 s su r q ∧ ∀ tm, tv tm all1 x.1 46 = .bool R ∧ tv tm all1 x.1 1 = getT tm 1 ∧ tv tm all1 x.1 2 = getT tm 2 ∧ tv tm all1 x.1 3 = getT tm 3 ∧ tv tm all1 x.1 4 = getT tm 4 ∧ tv tm all1 x.1 9 = getT tm 9

set_option maxRecDepth 10000 in
set_option maxHeartbeats 8000000 in
theorem swap_ev (call : Value → List Value → AH → Option (Value × AH)) (s : SV) (kind a b : Int) (hf : ∀ (H : AH), lookB H.bs 0 = some (.ints s.g) → lookB H.bs 1 = some (.ints s.h) → call (.func (.func 84) #[] #[]) [s.val, .int .i64 kind] H = some (findV (s.find kind), H))
    (hb : ∀ (n l m : Int) (H : AH), call (.func (.func 72) #[] #[]) [.int .i64 n, .int .i64 l, .int .i64 m] H = some (.bool (btw n l m), H))
    (ha : ∀ (x y : Int), s.err = 0 → ∀ (H : AH), lookB H.bs 0 = some (.ints s.g) → lookB H.bs 1 = some (.ints s.h) → call (.func (.func 89) #[] #[]) [s.val, .int .i64 x, .int .i64 y] H = some (atV (atRows s.rows 0 x y), H)) :
    ∃ H', evFn (tabT Try.prog) call 300 kpT 41 Try.f41 [s.val, .int .i64 kind, .int .i64 a, .int .i64 b] s.hp = some (.int .i64 (s.swp kind a b), H') := by
  obtain ⟨_, _, hd80, t80⟩ := T80
  unfold SV.swp
  cases hx : s.find kind with
  | none =>
    rw [hx] at hf
    simp only [SV.val, findV, placeV] at hf
    simp only [evFn, Try.f41, SV.val, SV.hp]
    simp [ec_skip, ec_label, ek_reg, ek_draw, ek_seq, ec_cond, ek_block, ec_loop, ec_exit, ec_ret, ek_nil, ek_op, opK_some, regK_some, seqK_normal, seqK_exit, seqK_ret, blockK_normal, blockK_exit, blockK_ret, evOp, vOp, hOp, aWanted, aY, boolOf, opd, putT, closedV, undef, aBin, intOp, sameK, mapO, joinR, hasAddr, pushB, aAlloc, Value.cells, T3, T4, T22, FA24_0, FA24_1, FA24_2, FA24_3, FA24_4, FA24_5, FA24_6, FA24_7, FA24_8, LD3, LD4, LD22, LD27, LDr, LD24, LEN22, IA22, cellAt, lookB, Nat.beq_eq, takeCells, finF, takeM, resV, getT_set, setT_length, getT, setT, t80, hf, ST80, setB, putCells]
  | some x =>
    obtain ⟨su, r, q⟩ := x
    obtain ⟨he, r0, rq, _, hsu⟩ := find_spec hx
    have hs := small_of_err he
    have hn3 := hs.n
    rw [hx] at hf
    simp only [SV.val, findV, placeV] at hf
    have hat := fun x y => ha x y he
    simp only [SV.val] at hat
    simp only [evFn, Try.f41, SV.val, SV.hp]
    simp [ec_skip, ec_label, ek_reg, ek_draw, ek_seq, ec_cond, ek_block, ec_loop, ec_exit, ec_ret, ek_nil, ek_op, opK_some, regK_some, seqK_normal, seqK_exit, seqK_ret, blockK_normal, blockK_exit, blockK_ret, evOp, vOp, hOp, aWanted, aY, boolOf, opd, putT, closedV, undef, aBin, intOp, sameK, mapO, joinR, hasAddr, pushB, aAlloc, Value.cells, T3, T4, T22, FA24_0, FA24_1, FA24_2, FA24_3, FA24_4, FA24_5, FA24_6, FA24_7, FA24_8, LD3, LD4, LD22, LD27, LDr, LD24, LEN22, IA22, cellAt, lookB, Nat.beq_eq, takeCells, getT, setT, t80, hf, ST80, setB, putCells]
    generalize hX : evDraw _ _ _ _ _ = X
    cases ca : btw a 0 (wrapI .i64 ((s.n : Int) - 1)) with
    | false =>
      obtain ⟨⟨rs, nx⟩, rfl, hnx, hwh, htv⟩ := evDraw_ex (Pq := P41 s su r q true) hX (by kernel_rfl) (by simp [decrK]) (by
        clear hX
        generalize befs _ = M
        simp [mapO, drRun, drOp, looks, guardT, tmpsOf, Op.operands, Call.operands, wantedR, gOf, natMem, tv, all1, roB, news, newOnes, decr, evOp, vOp, hOp, opd, closedV, undef, aBin, intOp, sameK, opdO, FA24_0, FA24_1, FA24_2, FA24_3, FA24_4, FA24_5, FA24_8, LD3, LD22, LD24, LDr, IA22, cellAt, lookB, Nat.beq_eq, T3, T4, T22, takeCells, getT, hb, ca]
        exact ⟨by simp [dynOK, b02, b12], rfl, by simp [bs41, plL, SV.boxL, wheap, news], fun tm => by simp [tv, all1]⟩)
      simp [ec_skip, ec_label, ek_reg, ek_draw, ek_seq, ec_cond, ek_block, ec_loop, ec_exit, ec_ret, ek_nil, ek_op, opK_some, regK_some, seqK_normal, seqK_exit, seqK_ret, blockK_normal, blockK_exit, blockK_ret, evOp, vOp, hOp, aWanted, aY, boolOf, opd, putT, closedV, undef, aBin, intOp, sameK, mapO, joinR, hasAddr, pushB, aAlloc, Value.cells, T3, T4, T22, FA24_0, FA24_1, FA24_2, FA24_3, FA24_4, FA24_5, FA24_6, FA24_7, FA24_8, LD3, LD4, LD22, LD27, LDr, LD24, LEN22, IA22, cellAt, lookB, Nat.beq_eq, takeCells, finF, takeM, resV, getT_set, setT_length, getT_fin, fin_length, htv, SV.noSwap, ca, getT]
    | true =>
      cases cb : btw b 0 (wrapI .i64 ((s.n : Int) - 1)) with
      | false =>
        obtain ⟨⟨rs, nx⟩, rfl, hnx, hwh, htv⟩ := evDraw_ex (Pq := P41 s su r q true) hX (by kernel_rfl) (by simp [decrK]) (by
          clear hX
          generalize befs _ = M
          simp [mapO, drRun, drOp, looks, guardT, tmpsOf, Op.operands, Call.operands, wantedR, gOf, natMem, tv, all1, roB, news, newOnes, decr, evOp, vOp, hOp, opd, closedV, undef, aBin, intOp, sameK, opdO, FA24_0, FA24_1, FA24_2, FA24_3, FA24_4, FA24_5, FA24_8, LD3, LD22, LD24, LDr, IA22, cellAt, lookB, Nat.beq_eq, T3, T4, T22, takeCells, getT, hb, ca, cb]
          exact ⟨by simp [dynOK, b02, b12], rfl, by simp [bs41, plL, SV.boxL, wheap, news], fun tm => by simp [tv, all1]⟩)
        simp [ec_skip, ec_label, ek_reg, ek_draw, ek_seq, ec_cond, ek_block, ec_loop, ec_exit, ec_ret, ek_nil, ek_op, opK_some, regK_some, seqK_normal, seqK_exit, seqK_ret, blockK_normal, blockK_exit, blockK_ret, evOp, vOp, hOp, aWanted, aY, boolOf, opd, putT, closedV, undef, aBin, intOp, sameK, mapO, joinR, hasAddr, pushB, aAlloc, Value.cells, T3, T4, T22, FA24_0, FA24_1, FA24_2, FA24_3, FA24_4, FA24_5, FA24_6, FA24_7, FA24_8, LD3, LD4, LD22, LD27, LDr, LD24, LEN22, IA22, cellAt, lookB, Nat.beq_eq, takeCells, finF, takeM, resV, getT_set, setT_length, getT_fin, fin_length, htv, SV.noSwap, ca, cb, getT]
      | true =>
        have ca' := btw_iff.1 ca
        have cb' := btw_iff.1 cb
        rw [wrapI_small (by omega) (by omega)] at ca' cb'
        obtain ⟨ja, rfl⟩ : ∃ j : Nat, a = j := ⟨a.toNat, by omega⟩
        obtain ⟨jb, rfl⟩ : ∃ j : Nat, b = j := ⟨b.toNat, by omega⟩
        have hja : ja < s.n := by omega
        have hjb : jb < s.n := by omega
        obtain ⟨⟨rs, nx⟩, rfl, hnx, hwh, htv⟩ := evDraw_ex (Pq := P41 s su r q (s.g ja != s.g jb)) hX (by kernel_rfl) (by simp [decrK]) (by
          clear hX
          generalize befs _ = M
          simp [mapO, drRun, drOp, looks, guardT, tmpsOf, Op.operands, Call.operands, wantedR, gOf, natMem, tv, all1, roB, news, newOnes, decr, evOp, vOp, hOp, opd, closedV, undef, aBin, intOp, sameK, opdO, FA24_0, FA24_1, FA24_2, FA24_3, FA24_4, FA24_5, FA24_8, LD3, LD22, LD24, LDr, IA22, cellAt, lookB, Nat.beq_eq, T3, T4, T22, takeCells, getT, hb, ca, cb, hja, hjb]
          exact ⟨by simp [dynOK, b02, b12], rfl, by simp [bs41, plL, SV.boxL, wheap, news], fun tm => by simp [tv, all1]⟩)
        simp only at hnx hwh htv
        subst hnx
        simp only [bs41, plL, SV.boxL] at hwh
        cases cg : (s.g ja != s.g jb) with
        | true =>
          rw [cg] at htv
          simp [ec_skip, ec_label, ek_reg, ek_draw, ek_seq, ec_cond, ek_block, ec_loop, ec_exit, ec_ret, ek_nil, ek_op, opK_some, regK_some, seqK_normal, seqK_exit, seqK_ret, blockK_normal, blockK_exit, blockK_ret, evOp, vOp, hOp, aWanted, aY, boolOf, opd, putT, closedV, undef, aBin, intOp, sameK, mapO, joinR, hasAddr, pushB, aAlloc, Value.cells, T3, T4, T22, FA24_0, FA24_1, FA24_2, FA24_3, FA24_4, FA24_5, FA24_6, FA24_7, FA24_8, LD3, LD4, LD22, LD27, LDr, LD24, LEN22, IA22, cellAt, lookB, Nat.beq_eq, takeCells, finF, takeM, resV, getT_set, setT_length, getT_fin, fin_length, htv, SV.noSwap, ca, cb, cg, getT]
        | false =>
          have cgg : s.g ja = s.g jb := by simpa using cg
          rw [cg] at htv
          by_cases e1 : su = (ja : Int)
          · have hq : r < s.g jb := by
              rcases hsu with h | ⟨i, hi, h, hq⟩
              · omega
              · have : i = ja := by omega
                subst this
                omega
            have h := hat jb r
            rw [at_suit hs hjb r0 hq] at h
            simp only [atV] at h
            subst e1
            simp [ec_skip, ec_label, ek_reg, ek_draw, ek_seq, ec_cond, ek_block, ec_loop, ec_exit, ec_ret, ek_nil, ek_op, opK_some, regK_some, seqK_normal, seqK_exit, seqK_ret, blockK_normal, blockK_exit, blockK_ret, evOp, vOp, hOp, aWanted, aY, boolOf, opd, putT, closedV, undef, aBin, intOp, sameK, mapO, joinR, hasAddr, pushB, aAlloc, Value.cells, T3, T4, T22, FA24_0, FA24_1, FA24_2, FA24_3, FA24_4, FA24_5, FA24_6, FA24_7, FA24_8, LD3, LD4, LD22, LD27, LDr, LD24, LEN22, IA22, cellAt, lookB, Nat.beq_eq, takeCells, finF, takeM, resV, getT_set, setT_length, getT_fin, fin_length, htv, hwh, FA80_0, FA80_1, SV.noSwap, ca, cb, cg, getT, h]
          · have e1' : (su == (ja : Int)) = false := by simpa using e1
            by_cases e2 : su = (jb : Int)
            · have hq : r < s.g ja := by
                rcases hsu with h | ⟨i, hi, h, hq⟩
                · omega
                · have : i = jb := by omega
                  subst this
                  omega
              have h := hat ja r
              rw [at_suit hs hja r0 hq] at h
              simp only [atV] at h
              subst e2
              simp [ec_skip, ec_label, ek_reg, ek_draw, ek_seq, ec_cond, ek_block, ec_loop, ec_exit, ec_ret, ek_nil, ek_op, opK_some, regK_some, seqK_normal, seqK_exit, seqK_ret, blockK_normal, blockK_exit, blockK_ret, evOp, vOp, hOp, aWanted, aY, boolOf, opd, putT, closedV, undef, aBin, intOp, sameK, mapO, joinR, hasAddr, pushB, aAlloc, Value.cells, T3, T4, T22, FA24_0, FA24_1, FA24_2, FA24_3, FA24_4, FA24_5, FA24_6, FA24_7, FA24_8, LD3, LD4, LD22, LD27, LDr, LD24, LEN22, IA22, cellAt, lookB, Nat.beq_eq, takeCells, finF, takeM, resV, getT_set, setT_length, getT_fin, fin_length, htv, hwh, FA80_0, FA80_1, SV.noSwap, ca, cb, cg, getT, e1, e1', h]
            · have e2' : (su == (jb : Int)) = false := by simpa using e2
              simp [ec_skip, ec_label, ek_reg, ek_draw, ek_seq, ec_cond, ek_block, ec_loop, ec_exit, ec_ret, ek_nil, ek_op, opK_some, regK_some, seqK_normal, seqK_exit, seqK_ret, blockK_normal, blockK_exit, blockK_ret, evOp, vOp, hOp, aWanted, aY, boolOf, opd, putT, closedV, undef, aBin, intOp, sameK, mapO, joinR, hasAddr, pushB, aAlloc, Value.cells, T3, T4, T22, FA24_0, FA24_1, FA24_2, FA24_3, FA24_4, FA24_5, FA24_6, FA24_7, FA24_8, LD3, LD4, LD22, LD27, LDr, LD24, LEN22, IA22, cellAt, lookB, Nat.beq_eq, takeCells, finF, takeM, resV, getT_set, setT_length, getT_fin, fin_length, htv, hwh, FA80_0, FA80_1, SV.noSwap, ca, cb, cg, getT, e1, e1', e2, e2']

end Go.Proofs.Ytkoppbbmdjhaoaa
