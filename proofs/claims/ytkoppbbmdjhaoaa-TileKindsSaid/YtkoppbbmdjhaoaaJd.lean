/-
  What is proved: what tile.find answers for every set and every number.
-/
import Derived.Test.YtkoppbbmdjhaoaaJc
namespace Go.Proofs.Ytkoppbbmdjhaoaa
open Go.RowKit
set_option linter.unusedSimpArgs false

/-- The row of a number: which row, which place in it, how long it is. -/
def findRows : List (Int × Nat) → Int → Int → Option (Int × Int × Int)
  | [], _, _ => none
  | (su, q) :: r, c, kind => if c ≤ kind ∧ kind < c + q then some (su, kind - c, q) else findRows r (c + q) kind

noncomputable def MrF (s : SV) (kind : Int) : Int → Nat → AH := MF s kind zeroPl false (loopF s kind .ready none)
noncomputable def HDF (s : SV) (kind : Int) (su : Int) (q : Nat) (c r : Int) (m : Nat) : AH := MF s kind [.int .i64 su, .int .i64 r, .int .i64 q] true (loopF s kind .done (some .ret)) c (m + 1)
def hitF (kind : Int) (_ : Int) (_ : Nat) (c _ : Int) : Bool := c == kind

theorem rowF (s : SV) (kind su : Int) (q : Nat) : ∀ (k : Nat) (i c : Int) (m : Nat),
    (c ≤ kind ∧ kind < c + k ∧ ∃ m', rowR (MrF s kind) (HDF s kind su q) (hitF kind su q) k i c m = (.bool false, HDF s kind su q kind (i + (kind - c)) m')) ∨
    (¬ (c ≤ kind ∧ kind < c + k) ∧ rowR (MrF s kind) (HDF s kind su q) (hitF kind su q) k i c m = (.bool true, MrF s kind (c + k) (m + k)))
  | 0, i, c, m => .inr ⟨by omega, by simp [rowR]⟩
  | k + 1, i, c, m => by
    simp only [rowR, hitF]
    by_cases hc : c = kind
    · have hc' : (c == kind) = true := by simpa using hc
      subst hc
      exact .inl ⟨by omega, by omega, m, by simp⟩
    · have hc' : (c == kind) = false := by simpa using hc
      simp only [hc', Bool.false_eq_true, if_false]
      rcases rowF s kind su q k (i + 1) (c + 1) (m + 1) with ⟨h1, h2, m', h3⟩ | ⟨h1, h3⟩
      · refine .inl ⟨by omega, by omega, m', ?_⟩
        rw [← show i + 1 + (kind - (c + 1)) = i + (kind - c) by omega]
        exact h3
      · refine .inr ⟨by omega, ?_⟩
        rw [show c + ((k + 1 : Nat) : Int) = c + 1 + (k : Int) by omega, show m + (k + 1) = m + 1 + k by omega]
        exact h3

theorem rowsF (s : SV) (kind : Int) : ∀ (l : List (Int × Nat)) (c : Int) (m : Nat),
    (∃ su r q m', findRows l c kind = some (su, r, q) ∧ rowsR (MrF s kind) (HDF s kind) (hitF kind) l c m = MF s kind [.int .i64 su, .int .i64 r, .int .i64 q] true (loopF s kind .done (some .ret)) kind m') ∨
    (findRows l c kind = none ∧ ∃ c' m', rowsR (MrF s kind) (HDF s kind) (hitF kind) l c m = MF s kind zeroPl false (loopF s kind .ready none) c' m')
  | [], c, m => .inr ⟨rfl, c, m, rfl⟩
  | (su, q) :: r, c, m => by
    simp only [rowsR, findRows]
    rcases rowF s kind su q q 0 c m with ⟨h1, h2, m', h3⟩ | ⟨h1, h3⟩
    · rw [h3, if_pos ⟨h1, h2⟩]
      exact .inl ⟨su, kind - c, q, m' + 1, rfl, by simp [HDF]⟩
    · rw [h3, if_neg h1]
      exact rowsF s kind r (c + q) (m + q)

/-- What find answers. -/
def SV.find (s : SV) (kind : Int) : Option (Int × Int × Int) := if s.err = 0 then findRows s.rows 0 kind else none
def findV (x : Option (Int × Int × Int)) : Value :=
  match x with
  | some (su, r, q) => .tuple #[placeV su r q, .bool true]
  | none => .tuple #[placeV 0 0 0, .bool false]

theorem BD80z : aBuild (tabT Try.prog) 80 [] = some (.agg #[.int .i64 0, .int .i64 0, .int .i64 0]) := by kernel_rfl
theorem ec_range {T : TypeId → Option TI} {call : Value → List Value → AH → Option (Value × AH)} {lf : Nat} {fn : FuncId} {A : AF} {H : AH} {f : Operand} {ps : Array Tmp} {a b : Code} : evCode T call lf fn false (.rangeFunc f ps a b) A H = evRange call fn f ps a b A H := rfl

/-- The memory when the loop begins. -/
noncomputable def startF (s : SV) (kind : Int) : AH := ⟨9, [(8, loopF s kind .ready none), (7, .defd), (6, .cells false s.boxL), (5, .cells false [.bool false]), (4, .cells false zeroPl), (3, .cells false [.int .i64 kind]), (2, .cells false s.boxL), (1, .ints s.h), (0, .ints s.g)]⟩

set_option maxRecDepth 10000 in
set_option maxHeartbeats 8000000 in
theorem find_ev (call : Value → List Value → AH → Option (Value × AH)) (s : SV) (kind : Int)
    (hv : ∀ (H : AH), lookB H.bs 0 = some (.ints s.g) → lookB H.bs 1 = some (.ints s.h) → call (.func (.func 80) #[] #[]) [s.val] H = some (.bool s.ok, H))
    (h87 : ∀ (H : AH), lookB H.bs 0 = some (.ints s.g) → lookB H.bs 1 = some (.ints s.h) → call (.func (.func 87) #[] #[]) [s.val] H = some (.func (.func 111) #[] #[.pointer (some ⟨H.next, 0, none⟩)], pushB H (.cells false s.boxL)))
    (h111 : s.err = 0 → call (.func (.func 111) #[] #[.pointer (some ⟨6, 0, none⟩)]) [.func (.yield 8) #[] #[]] (startF s kind) = some (.tuple #[], rowsR (MrF s kind) (HDF s kind) (hitF kind) s.rows 0 0)) :
    ∃ H', evFn (tabT Try.prog) call 300 kpT 84 Try.f84 [s.val, .int .i64 kind] s.hp = some (findV (s.find kind), H') := by
  obtain ⟨_, _, hd80, t80⟩ := T80
  by_cases c1 : s.err = 0
  · have c1' : s.ok = true := by simp [SV.ok, c1]
    have h := h111 c1
    rcases rowsF s kind s.rows 0 0 with ⟨su, r, q, m', g1, g2⟩ | ⟨g1, c', m', g2⟩
    · rw [g2] at h
      simp only [startF, MF, loopF, codeA, codeB, Try.f84, Option.bind_some, rfOf, Option.getD_some, tmF, SV.boxL, SV.val, zeroPl, undef] at h
      simp only [SV.val, SV.boxL] at hv h87
      simp only [evFn, Try.f84, SV.val, SV.hp, SV.find, if_pos c1, g1]
      simp [ec_skip, ec_label, ek_reg, ek_draw, ek_seq, ec_cond, ek_block, ec_loop, ec_exit, ec_ret, ek_nil, ek_op, opK_some, regK_some, seqK_normal, seqK_exit, seqK_ret, blockK_normal, blockK_exit, blockK_ret, evOp, vOp, hOp, aWanted, aY, boolOf, opd, putT, closedV, undef, aBin, intOp, sameK, mapO, joinR, hasAddr, pushB, aAlloc, Value.cells, T3, T4, T22, FA24_0, FA24_1, FA24_2, FA24_3, FA24_4, FA24_5, FA24_6, FA24_7, FA24_8, LD3, LD4, LD22, LD27, LDr, LD24, LEN22, IA22, cellAt, lookB, Nat.beq_eq, takeCells, getT, setT, t80, hv, h87, c1', ec_range, evRange, h, finF, takeM, resV, getT_set, setT_length, LD80, LD4, dropB, cleaned, kpT, below, findV, placeV]
    · rw [g2] at h
      simp only [startF, MF, loopF, codeA, codeB, Try.f84, Option.bind_some, rfOf, Option.getD_some, tmF, SV.boxL, SV.val, zeroPl, undef] at h
      simp only [SV.val, SV.boxL] at hv h87
      simp only [evFn, Try.f84, SV.val, SV.hp, SV.find, if_pos c1, g1]
      simp [ec_skip, ec_label, ek_reg, ek_draw, ek_seq, ec_cond, ek_block, ec_loop, ec_exit, ec_ret, ek_nil, ek_op, opK_some, regK_some, seqK_normal, seqK_exit, seqK_ret, blockK_normal, blockK_exit, blockK_ret, evOp, vOp, hOp, aWanted, aY, boolOf, opd, putT, closedV, undef, aBin, intOp, sameK, mapO, joinR, hasAddr, pushB, aAlloc, Value.cells, T3, T4, T22, FA24_0, FA24_1, FA24_2, FA24_3, FA24_4, FA24_5, FA24_6, FA24_7, FA24_8, LD3, LD4, LD22, LD27, LDr, LD24, LEN22, IA22, cellAt, lookB, Nat.beq_eq, takeCells, getT, setT, t80, hv, h87, c1', ec_range, evRange, h, finF, takeM, resV, getT_set, setT_length, LD80, LD4, ST80, ST4, BD80z, partsO, setB, putCells, dropB, cleaned, kpT, below, findV, placeV]
  · have c1' : s.ok = false := by simp [SV.ok, c1]
    simp only [SV.val, SV.boxL] at hv h87
    simp only [evFn, Try.f84, SV.val, SV.hp, SV.find, if_neg c1]
    simp [ec_skip, ec_label, ek_reg, ek_draw, ek_seq, ec_cond, ek_block, ec_loop, ec_exit, ec_ret, ek_nil, ek_op, opK_some, regK_some, seqK_normal, seqK_exit, seqK_ret, blockK_normal, blockK_exit, blockK_ret, evOp, vOp, hOp, aWanted, aY, boolOf, opd, putT, closedV, undef, aBin, intOp, sameK, mapO, joinR, hasAddr, pushB, aAlloc, Value.cells, T3, T4, T22, FA24_0, FA24_1, FA24_2, FA24_3, FA24_4, FA24_5, FA24_6, FA24_7, FA24_8, LD3, LD4, LD22, LD27, LDr, LD24, LEN22, IA22, cellAt, lookB, Nat.beq_eq, takeCells, getT, setT, t80, hv, h87, c1', finF, takeM, resV, getT_set, setT_length, LD80, LD4, ST80, ST4, BD80z, partsO, setB, putCells, cleaned, kpT, below, findV, placeV]

end Go.Proofs.Ytkoppbbmdjhaoaa
