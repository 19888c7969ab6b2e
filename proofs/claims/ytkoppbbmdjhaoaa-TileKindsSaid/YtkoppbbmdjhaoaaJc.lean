/-
  What is proved: what one round of the loop in tile.find comes to.
-/
import Derived.Test.YtkoppbbmdjhaoaaJb
namespace Go.Proofs.Ytkoppbbmdjhaoaa
open Go.RowKit
set_option linter.unusedSimpArgs false

theorem Z80 : (tabT Try.prog 80).map (fun y => (y.size, y.zero)) = some (3, .agg #[.int .i64 0, .int .i64 0, .int .i64 0]) := by kernel_rfl
theorem G80 : (tabT Try.prog 80).map (fun y => aggD y.desc) = some true := by kernel_rfl
theorem T80 : ∃ b d, aggD d = true ∧ tabT Try.prog 80 = some ⟨3, b, .agg #[.int .i64 0, .int .i64 0, .int .i64 0], d⟩ := by
  have h := Z80
  have h2 := G80
  cases ht : tabT Try.prog 80 with
  | none => rw [ht] at h; cases h
  | some y =>
    rw [ht] at h h2
    cases y
    simp only [Option.map_some, Option.some.injEq, Prod.mk.injEq] at h h2
    obtain ⟨rfl, rfl⟩ := h
    exact ⟨_, _, h2, rfl⟩
theorem ST80 (H : AH) (i : Nat) (a b c : Int) : aStore (tabT Try.prog) H 80 (.pointer (some ⟨i, 0, none⟩)) (.agg #[.int .i64 a, .int .i64 b, .int .i64 c]) =
    (match lookB H.bs i with
    | some (.cells false cs) => if Nat.ble 3 cs.length then some { H with bs := setB H.bs i (.cells false (putCells cs 0 [.int .i64 a, .int .i64 b, .int .i64 c])) } else none
    | _ => none) := by
  obtain ⟨_, _, _, ht⟩ := T80
  simp only [aStore, ht]
  cases hl : lookB H.bs i with
  | none => rfl
  | some k =>
    cases k with
    | cells ro cs => cases ro <;> simp [Value.cells, cellV]
    | _ => rfl
theorem LD80 (H : AH) (i : Nat) : aLoad (tabT Try.prog) H 80 (.pointer (some ⟨i, 0, none⟩)) =
    (match lookB H.bs i with
    | some (.cells _ cs) => (takeCells cs 0 3).map (fun l => .agg l.toArray)
    | _ => none) := by
  obtain ⟨_, _, hd, ht⟩ := T80
  simp only [aLoad, ht, hd, if_true]
  cases hl : lookB H.bs i with
  | none => rfl
  | some k => cases k <;> simp [hd]
theorem ST4 (H : AH) (i : Nat) (b : Bool) : aStore (tabT Try.prog) H 4 (.pointer (some ⟨i, 0, none⟩)) (.bool b) =
    (match lookB H.bs i with
    | some (.cells false cs) => if Nat.ble 1 cs.length then some { H with bs := setB H.bs i (.cells false (putCells cs 0 [.bool b])) } else none
    | _ => none) := by
  simp only [aStore, T4]
  cases hl : lookB H.bs i with
  | none => rfl
  | some k =>
    cases k with
    | cells ro cs => cases ro <;> simp [Value.cells, cellV]
    | _ => rfl
theorem AL80 (H : AH) : (match tabT Try.prog 80 with | some y => some (aAlloc H y.zero.cells.toList) | none => none) = some (aAlloc H [.int .i64 0, .int .i64 0, .int .i64 0]) := by
  obtain ⟨_, _, _, ht⟩ := T80
  rw [ht]
  rfl

def rfOf : Code → Option (Code × Code)
  | .rangeFunc _ _ a b => some (a, b)
  | .seq x y => match rfOf x with
    | some r => some r
    | none => rfOf y
  | .block _ c => rfOf c
  | _ => none

noncomputable def codeA : Code := ((Try.f84.body.bind rfOf).getD (.skip, .skip)).1
noncomputable def codeB : Code := ((Try.f84.body.bind rfOf).getD (.skip, .skip)).2

/-- The temporaries of find when its loop begins. -/
def tmF (s : SV) (kind : Int) : List Value := [s.val, .int .i64 kind, .pointer (some ⟨2, 0, none⟩), .pointer (some ⟨3, 0, none⟩), .pointer (some ⟨4, 0, none⟩), .pointer (some ⟨5, 0, none⟩), undef, undef, s.val, .bool true, .bool false, undef, s.val, .func (.func 111) #[] #[.pointer (some ⟨6, 0, none⟩)], undef, undef, undef, undef, undef, undef, undef]
def zeroPl : List Value := [.int .i64 0, .int .i64 0, .int .i64 0]

def MF (s : SV) (kind : Int) (pl : List Value) (ok : Bool) (L : ABlk) (c : Int) (m : Nat) : AH :=
  ⟨m + 11, [(10, .cells false [.int .i64 c]), (9, .cells false [.func (.yield 8) #[] #[]]), (8, L), (7, .defd), (6, .cells false s.boxL), (5, .cells false [.bool ok]), (4, .cells false pl), (3, .cells false [.int .i64 kind]), (2, .cells false s.boxL), (1, .ints s.h), (0, .ints s.g)]⟩

noncomputable def loopF (s : SV) (kind : Int) (st : LoopState) (p : Option Code) : ABlk := .loop st p 84 (tmF s kind) [14, 15] codeA codeB

set_option maxRecDepth 10000 in
set_option maxHeartbeats 8000000 in
theorem yield_find (call : Value → List Value → AH → Option (Value × AH)) (s : SV) (kind c su r q : Int) (m : Nat) :
    evRound (tabT Try.prog) call 300 kpT 8 [.int .i64 c, placeV su r q] (MF s kind zeroPl false (loopF s kind .ready none) c m) =
      if c = kind then some (.bool false, MF s kind [.int .i64 su, .int .i64 r, .int .i64 q] true (loopF s kind .done (some .ret)) c (m + 1))
      else some (.bool true, MF s kind zeroPl false (loopF s kind .ready none) c (m + 1)) := by
  obtain ⟨_, _, hd80, t80⟩ := T80
  simp only [evRound, MF, loopF, codeA, codeB, Try.f84, Option.bind_some, rfOf, Option.getD_some, placeV, zeroPl, tmF]
  by_cases hc : c = kind
  · have hc' : (c == kind) = true := by simpa using hc
    simp [ec_skip, ec_label, ek_reg, ek_draw, ek_seq, ec_cond, ek_block, ec_loop, ec_exit, ec_ret, ek_nil, ek_op, opK_some, regK_some, seqK_normal, seqK_exit, seqK_ret, blockK_normal, blockK_exit, blockK_ret, evOp, vOp, hOp, aWanted, aY, boolOf, opd, putT, closedV, undef, aBin, intOp, sameK, mapO, joinR, hasAddr, pushB, aAlloc, Value.cells, T3, T4, T22, FA24_0, FA24_1, FA24_2, FA24_3, FA24_4, FA24_5, FA24_6, FA24_7, FA24_8, LD3, LD4, LD22, LD27, LDr, LD24, LEN22, IA22, cellAt, lookB, Nat.beq_eq, takeCells, getT, setT, setArgs, endOf, setB, ST80, ST4, LD80, t80, putCells, cleaned, kpT, below, Nat.blt_eq, hc, hc']
  · have hc' : (c == kind) = false := by simpa using hc
    simp [ec_skip, ec_label, ek_reg, ek_draw, ek_seq, ec_cond, ek_block, ec_loop, ec_exit, ec_ret, ek_nil, ek_op, opK_some, regK_some, seqK_normal, seqK_exit, seqK_ret, blockK_normal, blockK_exit, blockK_ret, evOp, vOp, hOp, aWanted, aY, boolOf, opd, putT, closedV, undef, aBin, intOp, sameK, mapO, joinR, hasAddr, pushB, aAlloc, Value.cells, T3, T4, T22, FA24_0, FA24_1, FA24_2, FA24_3, FA24_4, FA24_5, FA24_6, FA24_7, FA24_8, LD3, LD4, LD22, LD27, LDr, LD24, LEN22, IA22, cellAt, lookB, Nat.beq_eq, takeCells, getT, setT, setArgs, endOf, setB, ST80, ST4, LD80, t80, putCells, cleaned, kpT, below, Nat.blt_eq, hc, hc']

end Go.Proofs.Ytkoppbbmdjhaoaa
