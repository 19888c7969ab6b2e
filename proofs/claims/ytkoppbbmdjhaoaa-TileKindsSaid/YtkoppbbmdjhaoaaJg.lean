/-
  What is proved: what tile.at answers for every set without an error, suit and rank.
-/
import Derived.Test.YtkoppbbmdjhaoaaJf
namespace Go.Proofs.Ytkoppbbmdjhaoaa
open Go.RowKit
set_option linter.unusedSimpArgs false

theorem F89 : tabF Try.prog 89 = some Try.f89 := by kernel_rfl
theorem FA80_0 (i off : Nat) : aFieldAddr (tabT Try.prog) 80 (.pointer (some ⟨i, off, none⟩)) 0 = some (.pointer (some ⟨i, off + 0, none⟩)) := by kernel_rfl
theorem FA80_1 (i off : Nat) : aFieldAddr (tabT Try.prog) 80 (.pointer (some ⟨i, off, none⟩)) 1 = some (.pointer (some ⟨i, off + 1, none⟩)) := by kernel_rfl
theorem FA80_2 (i off : Nat) : aFieldAddr (tabT Try.prog) 80 (.pointer (some ⟨i, off, none⟩)) 2 = some (.pointer (some ⟨i, off + 2, none⟩)) := by kernel_rfl
theorem ST3m (H : AH) (i : Nat) (n : Int) : aStore (tabT Try.prog) H 3 (.pointer (some ⟨i, 0, none⟩)) (.int .i64 n) =
    (match lookB H.bs i with
    | some (.cells false cs) => if Nat.ble 1 cs.length then some { H with bs := setB H.bs i (.cells false (putCells cs 0 [.int .i64 n])) } else none
    | _ => none) := by
  simp only [aStore, T3]
  cases hl : lookB H.bs i with
  | none => rfl
  | some k =>
    cases k with
    | cells ro cs => cases ro <;> simp [Value.cells, cellV]
    | _ => rfl

noncomputable def codeAt : Code := ((Try.f89.body.bind rfOf).getD (.skip, .skip)).1
noncomputable def codeBt : Code := ((Try.f89.body.bind rfOf).getD (.skip, .skip)).2

def tmT (s : SV) (su rk : Int) : List Value := [s.val, .int .i64 su, .int .i64 rk, .pointer (some ⟨2, 0, none⟩), .pointer (some ⟨3, 0, none⟩), .pointer (some ⟨4, 0, none⟩), .pointer (some ⟨5, 0, none⟩), .pointer (some ⟨6, 0, none⟩), undef, undef, s.val, .func (.func 111) #[] #[.pointer (some ⟨7, 0, none⟩)], undef, undef, undef, undef, undef, undef, undef, undef, undef, undef, undef, undef, undef]

def MT (s : SV) (su rk n : Int) (ok : Bool) (L : ABlk) (c : Int) (m : Nat) : AH :=
  ⟨m + 12, [(11, .cells false [.int .i64 c]), (10, .cells false [.func (.yield 9) #[] #[]]), (9, L), (8, .defd), (7, .cells false s.boxL), (6, .cells false [.bool ok]), (5, .cells false [.int .i64 n]), (4, .cells false [.int .i64 rk]), (3, .cells false [.int .i64 su]), (2, .cells false s.boxL), (1, .ints s.h), (0, .ints s.g)]⟩

noncomputable def loopT (s : SV) (su rk : Int) (st : LoopState) (p : Option Code) : ABlk := .loop st p 89 (tmT s su rk) [12, 13] codeAt codeBt

set_option maxRecDepth 10000 in
set_option maxHeartbeats 8000000 in
theorem yield_at (call : Value → List Value → AH → Option (Value × AH)) (s : SV) (su0 rk0 c su r q : Int) (m : Nat) :
    evRound (tabT Try.prog) call 300 kpT 9 [.int .i64 c, placeV su r q] (MT s su0 rk0 0 false (loopT s su0 rk0 .ready none) c m) =
      if (su == su0 && r == rk0) = true then some (.bool false, MT s su0 rk0 c true (loopT s su0 rk0 .done (some .ret)) c (m + 1))
      else some (.bool true, MT s su0 rk0 0 false (loopT s su0 rk0 .ready none) c (m + 1)) := by
  obtain ⟨_, _, hd80, t80⟩ := T80
  simp only [evRound, MT, loopT, codeAt, codeBt, Try.f89, Option.bind_some, rfOf, Option.getD_some, placeV, tmT]
  by_cases hc : su = su0
  · have hc' : (su == su0) = true := by simpa using hc
    by_cases hr : r = rk0
    · have hr' : (r == rk0) = true := by simpa using hr
      simp [ec_skip, ec_label, ek_reg, ek_draw, ek_seq, ec_cond, ek_block, ec_loop, ec_exit, ec_ret, ek_nil, ek_op, opK_some, regK_some, seqK_normal, seqK_exit, seqK_ret, blockK_normal, blockK_exit, blockK_ret, evOp, vOp, hOp, aWanted, aY, boolOf, opd, putT, closedV, undef, aBin, intOp, sameK, mapO, joinR, hasAddr, pushB, aAlloc, Value.cells, T3, T4, T22, FA24_0, FA24_1, FA24_2, FA24_3, FA24_4, FA24_5, FA24_6, FA24_7, FA24_8, LD3, LD4, LD22, LD27, LDr, LD24, LEN22, IA22, cellAt, lookB, Nat.beq_eq, takeCells, getT, setT, setArgs, endOf, setB, ST80, ST3m, ST4, LD80, FA80_0, FA80_1, t80, putCells, cleaned, kpT, below, Nat.blt_eq, hc, hc', hr, hr']
    · have hr' : (r == rk0) = false := by simpa using hr
      simp [ec_skip, ec_label, ek_reg, ek_draw, ek_seq, ec_cond, ek_block, ec_loop, ec_exit, ec_ret, ek_nil, ek_op, opK_some, regK_some, seqK_normal, seqK_exit, seqK_ret, blockK_normal, blockK_exit, blockK_ret, evOp, vOp, hOp, aWanted, aY, boolOf, opd, putT, closedV, undef, aBin, intOp, sameK, mapO, joinR, hasAddr, pushB, aAlloc, Value.cells, T3, T4, T22, FA24_0, FA24_1, FA24_2, FA24_3, FA24_4, FA24_5, FA24_6, FA24_7, FA24_8, LD3, LD4, LD22, LD27, LDr, LD24, LEN22, IA22, cellAt, lookB, Nat.beq_eq, takeCells, getT, setT, setArgs, endOf, setB, ST80, ST3m, ST4, LD80, FA80_0, FA80_1, t80, putCells, cleaned, kpT, below, Nat.blt_eq, hc, hc', hr, hr']
  · have hc' : (su == su0) = false := by simpa using hc
    simp [ec_skip, ec_label, ek_reg, ek_draw, ek_seq, ec_cond, ek_block, ec_loop, ec_exit, ec_ret, ek_nil, ek_op, opK_some, regK_some, seqK_normal, seqK_exit, seqK_ret, blockK_normal, blockK_exit, blockK_ret, evOp, vOp, hOp, aWanted, aY, boolOf, opd, putT, closedV, undef, aBin, intOp, sameK, mapO, joinR, hasAddr, pushB, aAlloc, Value.cells, T3, T4, T22, FA24_0, FA24_1, FA24_2, FA24_3, FA24_4, FA24_5, FA24_6, FA24_7, FA24_8, LD3, LD4, LD22, LD27, LDr, LD24, LEN22, IA22, cellAt, lookB, Nat.beq_eq, takeCells, getT, setT, setArgs, endOf, setB, ST80, ST3m, ST4, LD80, FA80_0, FA80_1, t80, putCells, cleaned, kpT, below, Nat.blt_eq, hc, hc']

/-- Where a rank of a suit stands. -/
def atRows : List (Int × Nat) → Int → Int → Int → Option Int
  | [], _, _, _ => none
  | (su', q) :: r, c, su, rk => if su' = su ∧ 0 ≤ rk ∧ rk < q then some (c + rk) else atRows r (c + q) su rk

noncomputable def MrT (s : SV) (su rk : Int) : Int → Nat → AH := MT s su rk 0 false (loopT s su rk .ready none)
noncomputable def HDT (s : SV) (su0 rk0 : Int) (_ : Int) (_ : Nat) (c _ : Int) (m : Nat) : AH := MT s su0 rk0 c true (loopT s su0 rk0 .done (some .ret)) c (m + 1)
def hitT (su0 rk0 : Int) (su : Int) (_ : Nat) (_ r : Int) : Bool := su == su0 && r == rk0

theorem rowT (s : SV) (su0 rk0 su : Int) (q : Nat) : ∀ (k : Nat) (i c : Int) (m : Nat),
    (su = su0 ∧ i ≤ rk0 ∧ rk0 < i + k ∧ ∃ m', rowR (MrT s su0 rk0) (HDT s su0 rk0 su q) (hitT su0 rk0 su q) k i c m = (.bool false, HDT s su0 rk0 su q (c + (rk0 - i)) 0 m')) ∨
    (¬ (su = su0 ∧ i ≤ rk0 ∧ rk0 < i + k) ∧ rowR (MrT s su0 rk0) (HDT s su0 rk0 su q) (hitT su0 rk0 su q) k i c m = (.bool true, MrT s su0 rk0 (c + k) (m + k)))
  | 0, i, c, m => .inr ⟨by omega, by simp [rowR]⟩
  | k + 1, i, c, m => by
    simp only [rowR, hitT]
    by_cases hc : su = su0 ∧ i = rk0
    · obtain ⟨rfl, rfl⟩ := hc
      refine .inl ⟨rfl, by omega, by omega, m, ?_⟩
      simp [HDT]
    · have hc' : (su == su0 && i == rk0) = false := by
        cases hb : (su == su0 && i == rk0) with
        | false => rfl
        | true => exact absurd (by simpa using hb) hc
      simp only [hc', Bool.false_eq_true, if_false]
      rcases rowT s su0 rk0 su q k (i + 1) (c + 1) (m + 1) with ⟨h0, h1, h2, m', h3⟩ | ⟨h1, h3⟩
      · refine .inl ⟨h0, by omega, by omega, m', ?_⟩
        rw [← show c + 1 + (rk0 - (i + 1)) = c + (rk0 - i) by omega]
        exact h3
      · refine .inr ⟨fun hh => ?_, ?_⟩
        · by_cases hi : i = rk0
          · exact hc ⟨hh.1, hi⟩
          · exact h1 ⟨hh.1, by omega, by omega⟩
        · rw [show c + ((k + 1 : Nat) : Int) = c + 1 + (k : Int) by omega, show m + (k + 1) = m + 1 + k by omega]
          exact h3

theorem rowsT (s : SV) (su0 rk0 : Int) : ∀ (l : List (Int × Nat)) (c : Int) (m : Nat),
    (∃ n m', atRows l c su0 rk0 = some n ∧ rowsR (MrT s su0 rk0) (HDT s su0 rk0) (hitT su0 rk0) l c m = MT s su0 rk0 n true (loopT s su0 rk0 .done (some .ret)) n m') ∨
    (atRows l c su0 rk0 = none ∧ ∃ c' m', rowsR (MrT s su0 rk0) (HDT s su0 rk0) (hitT su0 rk0) l c m = MT s su0 rk0 0 false (loopT s su0 rk0 .ready none) c' m')
  | [], c, m => .inr ⟨rfl, c, m, rfl⟩
  | (su, q) :: r, c, m => by
    simp only [rowsR, atRows]
    rcases rowT s su0 rk0 su q q 0 c m with ⟨h0, h1, h2, m', h3⟩ | ⟨h1, h3⟩
    · rw [h3, if_pos ⟨h0, h1, by omega⟩]
      exact .inl ⟨c + rk0, m' + 1, rfl, by simp [HDT]⟩
    · rw [h3, if_neg (fun hh => h1 ⟨hh.1, hh.2.1, by omega⟩)]
      exact rowsT s su0 rk0 r (c + q) (m + q)

def atV (x : Option Int) : Value :=
  match x with
  | some n => .tuple #[.int .i64 n, .bool true]
  | none => .tuple #[.int .i64 0, .bool false]

/-- The memory when the loop begins. -/
noncomputable def startT (s : SV) (su rk : Int) : AH := ⟨10, [(9, loopT s su rk .ready none), (8, .defd), (7, .cells false s.boxL), (6, .cells false [.bool false]), (5, .cells false [.int .i64 0]), (4, .cells false [.int .i64 rk]), (3, .cells false [.int .i64 su]), (2, .cells false s.boxL), (1, .ints s.h), (0, .ints s.g)]⟩

set_option maxRecDepth 10000 in
set_option maxHeartbeats 8000000 in
theorem at_ev (call : Value → List Value → AH → Option (Value × AH)) (s : SV) (su rk : Int)
    (h87 : ∀ (H : AH), lookB H.bs 0 = some (.ints s.g) → lookB H.bs 1 = some (.ints s.h) → call (.func (.func 87) #[] #[]) [s.val] H = some (.func (.func 111) #[] #[.pointer (some ⟨H.next, 0, none⟩)], pushB H (.cells false s.boxL)))
    (h111 : call (.func (.func 111) #[] #[.pointer (some ⟨7, 0, none⟩)]) [.func (.yield 9) #[] #[]] (startT s su rk) = some (.tuple #[], rowsR (MrT s su rk) (HDT s su rk) (hitT su rk) s.rows 0 0)) :
    ∃ H', evFn (tabT Try.prog) call 300 kpT 89 Try.f89 [s.val, .int .i64 su, .int .i64 rk] s.hp = some (atV (atRows s.rows 0 su rk), H') := by
  have h := h111
  rcases rowsT s su rk s.rows 0 0 with ⟨n, m', g1, g2⟩ | ⟨g1, c', m', g2⟩
  · rw [g2] at h
    simp only [startT, MT, loopT, codeAt, codeBt, Try.f89, Option.bind_some, rfOf, Option.getD_some, tmT, SV.boxL, SV.val, undef] at h
    simp only [SV.val, SV.boxL] at h87
    simp only [evFn, Try.f89, SV.val, SV.hp, g1]
    simp [ec_skip, ec_label, ek_reg, ek_draw, ek_seq, ec_cond, ek_block, ec_loop, ec_exit, ec_ret, ek_nil, ek_op, opK_some, regK_some, seqK_normal, seqK_exit, seqK_ret, blockK_normal, blockK_exit, blockK_ret, evOp, vOp, hOp, aWanted, aY, boolOf, opd, putT, closedV, undef, aBin, intOp, sameK, mapO, joinR, hasAddr, pushB, aAlloc, Value.cells, T3, T4, T22, FA24_0, FA24_1, FA24_2, FA24_3, FA24_4, FA24_5, FA24_6, FA24_7, FA24_8, LD3, LD4, LD22, LD27, LDr, LD24, LEN22, IA22, cellAt, lookB, Nat.beq_eq, takeCells, getT, setT, h87, ec_range, evRange, h, finF, takeM, resV, getT_set, setT_length, dropB, cleaned, kpT, below, atV]
  · rw [g2] at h
    simp only [startT, MT, loopT, codeAt, codeBt, Try.f89, Option.bind_some, rfOf, Option.getD_some, tmT, SV.boxL, SV.val, undef] at h
    simp only [SV.val, SV.boxL] at h87
    simp only [evFn, Try.f89, SV.val, SV.hp, g1]
    simp [ec_skip, ec_label, ek_reg, ek_draw, ek_seq, ec_cond, ek_block, ec_loop, ec_exit, ec_ret, ek_nil, ek_op, opK_some, regK_some, seqK_normal, seqK_exit, seqK_ret, blockK_normal, blockK_exit, blockK_ret, evOp, vOp, hOp, aWanted, aY, boolOf, opd, putT, closedV, undef, aBin, intOp, sameK, mapO, joinR, hasAddr, pushB, aAlloc, Value.cells, T3, T4, T22, FA24_0, FA24_1, FA24_2, FA24_3, FA24_4, FA24_5, FA24_6, FA24_7, FA24_8, LD3, LD4, LD22, LD27, LDr, LD24, LEN22, IA22, cellAt, lookB, Nat.beq_eq, takeCells, getT, setT, h87, ec_range, evRange, h, finF, takeM, resV, getT_set, setT_length, ST3m, ST4, setB, putCells, dropB, cleaned, kpT, below, atV]

theorem at_start (s : SV) (su0 rk0 : Int) (hs : s.Small) : inH M7 (.func (.func 111) #[] #[.pointer (some ⟨7, 0, none⟩)]) [.func (.yield 9) #[] #[]] (startT s su0 rk0) = some (.tuple #[], rowsR (MrT s su0 rk0) (HDT s su0 rk0) (hitT su0 rk0) s.rows 0 0) := by
  unfold inH
  rw [call_fn F111 (M7_cl _ _ _ _ _)]
  refine kinds_evt _ s hs (startT s su0 rk0) (MrT s su0 rk0) (HDT s su0 rk0) (hitT su0 rk0) (fun c m => ?_) (fun c m => ?_) rfl rfl (fun su q c m hq hc hcq => ?_)
  · simp [MrT, MT, lookB, Nat.beq_eq]
  · simp [MrT, MT, lookB, Nat.beq_eq]
  · unfold cl112t
    rw [call_fn F112 (M7_cl _ _ _ _ _)]
    refine row_evt _ (MrT s su0 rk0) (HDT s su0 rk0 su q) (hitT su0 rk0 su q) su q c m (fun c m => ?_) (fun c m => ?_) (fun c m c' => ?_) (fun c r m => ?_) hq hc hcq
    · simp [MrT, MT, lookB, Nat.beq_eq]
    · simp [MrT, MT, lookB, Nat.beq_eq]
    · simp [MrT, MT, setB, Nat.beq_eq]
    · rw [call_yield (M7_y _ _ _)]
      exact yield_at (evCall (tabT Try.prog) (tabF Try.prog) 300 kpT M7 5) s su0 rk0 c su r q m

def ansAt : List Value → AH → Option Value
  | [v, .int .i64 su, .int .i64 rk], H => match seeSet v H with
    | some s => if s.err = 0 then some (atV (atRows s.rows 0 su rk)) else none
    | none => none
  | _, _ => none

theorem atV_closed (x : Option Int) : closedV 5 (atV x) = true := by
  cases x <;> rfl

theorem ok89 : AnsOK (runH M7) 89 ansAt := by
  intro cargs Hc v hv
  unfold ansAt at hv
  split at hv
  · rename_i su rk
    split at hv
    · rename_i s hs
      obtain ⟨rfl, rfl⟩ := seeSet_spec hs
      split at hv
      · rename_i he
        cases hv
        refine ⟨atV_closed _, fun _ => ?_⟩
        obtain ⟨H', h⟩ := at_ev (inH M7) s su rk (fun H _ _ => by unfold inH; rw [call_fn F87 (M7_87 _ _)]; exact kinds87_ev _ s H) (at_start s su rk (small_of_err he))
        exact ⟨H', runH_fn F89 rfl h⟩
      · cases hv
    · cases hv
  · cases hv

theorem canH_sii {f : FuncId} {ans : List Value → AH → Option Value} {s : SV} {k l : Int} {H : AH} (h0 : lookB H.bs 0 = some (.ints s.g)) (h1 : lookB H.bs 1 = some (.ints s.h)) :
    canH f ans (.func (.func f) #[] #[]) [s.val, .int .i64 k, .int .i64 l] H = (ans [s.val, .int .i64 k, .int .i64 l] s.hp).map (·, H) := by
  simp [canH, canon, canonL, canonV, idOf, idxOf, SV.val, canonB, h0, h1, SV.hp]
  generalize ans _ _ = x
  cases x <;> rfl

theorem canH_siii {f : FuncId} {ans : List Value → AH → Option Value} {s : SV} {k l m : Int} {H : AH} (h0 : lookB H.bs 0 = some (.ints s.g)) (h1 : lookB H.bs 1 = some (.ints s.h)) :
    canH f ans (.func (.func f) #[] #[]) [s.val, .int .i64 k, .int .i64 l, .int .i64 m] H = (ans [s.val, .int .i64 k, .int .i64 l, .int .i64 m] s.hp).map (·, H) := by
  simp [canH, canon, canonL, canonV, idOf, idxOf, SV.val, canonB, h0, h1, SV.hp]
  generalize ans _ _ = x
  cases x <;> rfl

end Go.Proofs.Ytkoppbbmdjhaoaa
