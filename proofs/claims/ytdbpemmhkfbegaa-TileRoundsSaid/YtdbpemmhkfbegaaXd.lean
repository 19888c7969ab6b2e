/-
  What is proved: what tile.find answers for every set and every number.
-/
import Derived.Test.YtdbpemmhkfbegaaXc
namespace Go.Proofs.Ytdbpemmhkfbegaa
open Go.RowKit
set_option linter.unusedSimpArgs false
set_option linter.unusedVariables false

theorem kf : kpT 28 = false := by kernel_rfl
theorem AL43 {call : Value → List Value → AH → Option (Value × AH)} {g : Operand → Option Value} {H : AH} {d : Option Tmp} {t : TypeId} {p : String} {a : Array Edge} {gd : Option (Nat × Bool)} : evOp (tabT Try.prog) call ⟨d, .alloc 43, t, p, a, gd⟩ g H = some (.pointer (some ⟨H.next, 0, none⟩), ⟨H.next + 1, (H.next, .cells false [.int .i64 0, .int .i64 0, .int .i64 0]) :: H.bs⟩) :=
  evOp_evO.trans (eo_alloc (cs := [.int .i64 0, .int .i64 0, .int .i64 0]) (by kernel_rfl))
theorem AL4 {call : Value → List Value → AH → Option (Value × AH)} {g : Operand → Option Value} {H : AH} {d : Option Tmp} {t : TypeId} {p : String} {a : Array Edge} {gd : Option (Nat × Bool)} : evOp (tabT Try.prog) call ⟨d, .alloc 4, t, p, a, gd⟩ g H = some (.pointer (some ⟨H.next, 0, none⟩), ⟨H.next + 1, (H.next, .cells false [.bool false]) :: H.bs⟩) :=
  evOp_evO.trans (eo_alloc (cs := [.bool false]) (by kernel_rfl))
theorem ST43 (H : AH) (i off : Nat) (v : Value) : aStore (tabT Try.prog) H 43 (.pointer (some ⟨i, off, none⟩)) v = match lookB H.bs i with
    | some (.cells false cs) => if Nat.beq v.cells.toList.length 3 && Nat.ble (off + v.cells.toList.length) cs.length && v.cells.toList.all cellV then some { H with bs := setB H.bs i (.cells false (putF cs off v.cells.toList)) } else none
    | _ => none := sti (by kernel_rfl) H i off v
theorem STb (H : AH) (i off : Nat) (v : Value) : aStore (tabT Try.prog) H 4 (.pointer (some ⟨i, off, none⟩)) v = match lookB H.bs i with
    | some (.cells false cs) => if Nat.beq v.cells.toList.length 1 && Nat.ble (off + v.cells.toList.length) cs.length && v.cells.toList.all cellV then some { H with bs := setB H.bs i (.cells false (putF cs off v.cells.toList)) } else none
    | _ => none := sti (by kernel_rfl) H i off v
theorem LD43 (H : AH) (i off : Nat) : aLoad (tabT Try.prog) H 43 (.pointer (some ⟨i, off, none⟩)) = match lookB H.bs i with | some (.cells _ cs) => (takeCells cs off 3).map (fun l => .agg l.toArray) | _ => none := lda (by kernel_rfl) H i off
theorem BD80z : aBuild (tabT Try.prog) 43 [] = some (.agg #[.int .i64 0, .int .i64 0, .int .i64 0]) := by kernel_rfl
theorem ec_range {T : TypeId → Option TI} {call : Value → List Value → AH → Option (Value × AH)} {lf : Nat} {fn : FuncId} {A : AF} {H : AH} {f : Operand} {ps : Array Tmp} {a b : Code} : evCode T call lf fn none (.rangeFunc f ps a b) A H = evRange call fn f ps a b A H := rfl
def rfOf : Code → Option (Code × Code)
  | .rangeFunc _ _ a b => some (a, b)
  | .seq x y => match rfOf x with
    | some r => some r
    | none => rfOf y
  | .block _ c => rfOf c
  | _ => none

noncomputable def codeA : Code := ((Try.f28.body.bind rfOf).getD (.skip, .skip)).1
noncomputable def codeB : Code := ((Try.f28.body.bind rfOf).getD (.skip, .skip)).2

/-- The temporaries of find when its loop begins. -/
noncomputable def tmF (s : SV) (kind : Int) : Tm := ((((((((((Tm.of [s.val, .int .i64 kind] 21).set 2 (.pointer (some ⟨2, 0, none⟩))).set 3 (.pointer (some ⟨3, 0, none⟩))).set 4 (.pointer (some ⟨4, 0, none⟩))).set 5 (.pointer (some ⟨5, 0, none⟩))).set 8 s.val).set 9 (.bool true)).set 10 (.bool false)).set 12 s.val).set 13 (.func (.func 57) #[] #[.pointer (some ⟨6, 0, none⟩)]))
def zeroPl : List Value := [.int .i64 0, .int .i64 0, .int .i64 0]

noncomputable def MF1 (s : SV) (kind : Int) (pl : List Value) (ok : Bool) (L : ABlk) (c : Int) (m : Nat) : AH :=
  ⟨m + 11, [(10, .cells false [.int .i64 c]), (9, .cells false [.func (.yield 8) #[] #[]]), (8, L), (7, .defd), (6, .cells false s.boxL), (5, .cells false [.bool ok]), (4, .cells false pl), (3, .cells false [.int .i64 kind]), (2, .cells false s.boxL), (1, .ints s.h), (0, .ints s.g)]⟩

noncomputable def loopF (s : SV) (kind : Int) (st : LoopState) (p : Option Code) : ABlk := .loop st p 28 (tmF s kind) [14, 15] codeA codeB

set_option maxRecDepth 10000 in
set_option maxHeartbeats 8000000 in
theorem yield_find (call : Value → List Value → AH → Option (Value × AH)) (s : SV) (kind c su r q : Int) (m : Nat) :
    evRound (tabT Try.prog) call 300 kpT 8 [.int .i64 c, placeV su r q] (MF1 s kind zeroPl false (loopF s kind .ready none) c m) =
      if c = kind then some (.bool false, MF1 s kind [.int .i64 su, .int .i64 r, .int .i64 q] true (loopF s kind .done (some .ret)) c (m + 1))
      else some (.bool true, MF1 s kind zeroPl false (loopF s kind .ready none) c (m + 1)) := by
  have kp := kf
  simp only [evRound, MF1, loopF, codeA, codeB, Try.f28, Option.bind_some, rfOf, Option.getD_some, placeV, zeroPl, tmF]
  by_cases hc : c = kind
  · have hc' : (c == kind) = true := by simpa using hc
    simp [ec_skip, ec_label, ek_reg, ek_draw, ek_seq, ec_cond, ek_block, ec_loop, ec_exit, ec_ret, ec_scope, ek_nil, ek_op, opK_some, regK_some, seqK_normal, seqK_exit, seqK_ret, blockK_normal, blockK_exit, blockK_ret, evOp, vOp, hOpB, hOpU, hOp, hOpT, aAppendG_tab, aWanted, aYielded, opd, putT, closedV, aBin, intOp, sameK, mapO, joinR, hasAddr, boundOf, pushB, aAlloc, Value.cells, lookB, setB, Nat.beq_eq, tm_n_set, tm_get_set, tm_of_n, tm_of_get, tm_tr_set, tm_tr_of, cellV, putF, appR_eq, takeR_eq, dropR_eq, setR_eq, getR_eq, ↓C75, ↓C76, ↓C77, ↓C79, ↓C17, ↓C18, ↓C22, ↓C71, FA24_0, FA24_1, FA24_2, FA24_3, FA24_4, FA24_5, FA24_6, FA24_7, FA24_8, LD3, LD4, LD22, LD27, LDr, LD24, LEN22, IA22, tkc, cellAt, setArgs, endOf, ↓AL43, ST43, STb, LD43, cleaned, kp, below, Nat.blt_eq, hc, hc']
  · have hc' : (c == kind) = false := by simpa using hc
    simp [ec_skip, ec_label, ek_reg, ek_draw, ek_seq, ec_cond, ek_block, ec_loop, ec_exit, ec_ret, ec_scope, ek_nil, ek_op, opK_some, regK_some, seqK_normal, seqK_exit, seqK_ret, blockK_normal, blockK_exit, blockK_ret, evOp, vOp, hOpB, hOpU, hOp, hOpT, aAppendG_tab, aWanted, aYielded, opd, putT, closedV, aBin, intOp, sameK, mapO, joinR, hasAddr, boundOf, pushB, aAlloc, Value.cells, lookB, setB, Nat.beq_eq, tm_n_set, tm_get_set, tm_of_n, tm_of_get, tm_tr_set, tm_tr_of, cellV, putF, appR_eq, takeR_eq, dropR_eq, setR_eq, getR_eq, ↓C75, ↓C76, ↓C77, ↓C79, ↓C17, ↓C18, ↓C22, ↓C71, FA24_0, FA24_1, FA24_2, FA24_3, FA24_4, FA24_5, FA24_6, FA24_7, FA24_8, LD3, LD4, LD22, LD27, LDr, LD24, LEN22, IA22, tkc, cellAt, setArgs, endOf, ↓AL43, ST43, STb, LD43, cleaned, kp, below, Nat.blt_eq, hc, hc']
/-- The row of a number: which row, which place in it, how long it is. -/
noncomputable def findRows : List (Int × Nat) → Int → Int → Option (Int × Int × Int)
  | [], _, _ => none
  | (su, q) :: r, c, kind => if c ≤ kind ∧ kind < c + q then some (su, kind - c, q) else findRows r (c + q) kind

noncomputable def MrF (s : SV) (kind : Int) : Int → Nat → AH := MF1 s kind zeroPl false (loopF s kind .ready none)
noncomputable def HDF (s : SV) (kind : Int) (su : Int) (q : Nat) (c r : Int) (m : Nat) : AH := MF1 s kind [.int .i64 su, .int .i64 r, .int .i64 q] true (loopF s kind .done (some .ret)) c (m + 1)
noncomputable def hitF (kind : Int) (_ : Int) (_ : Nat) (c _ : Int) : Bool := c == kind

theorem rowF (s : SV) (kind su : Int) (q : Nat) : ∀ (k : Nat) (i c : Int) (m : Nat),
    (c ≤ kind ∧ kind < c + k ∧ ∃ m', rowR (MrF s kind) (HDF s kind su q) (hitF kind su q) k i c m = (.bool false, HDF s kind su q kind (i + (kind - c)) m')) ∨
    (¬ (c ≤ kind ∧ kind < c + k) ∧ rowR (MrF s kind) (HDF s kind su q) (hitF kind su q) k i c m = (.bool true, MrF s kind (c + k) (m + k)))
  | 0, i, c, m => .inr ⟨by omega, by simp [rowR]⟩
  | k + 1, i, c, m => by
    simp only [rowR, hitF]
    by_cases hc : c = kind
    · have hc' : (c == kind) = true := by simpa using hc
      subst hc
      exact .inl ⟨by omega, by omega, m, by simp⟩
    · have hc' : (c == kind) = false := by simpa using hc
      simp only [hc', Bool.false_eq_true, if_false]
      rcases rowF s kind su q k (i + 1) (c + 1) (m + 1) with ⟨h1, h2, m', h3⟩ | ⟨h1, h3⟩
      · refine .inl ⟨by omega, by omega, m', ?_⟩
        rw [← show i + 1 + (kind - (c + 1)) = i + (kind - c) by omega]
        exact h3
      · refine .inr ⟨by omega, ?_⟩
        rw [show c + ((k + 1 : Nat) : Int) = c + 1 + (k : Int) by omega, show m + (k + 1) = m + 1 + k by omega]
        exact h3

theorem rowsF (s : SV) (kind : Int) : ∀ (l : List (Int × Nat)) (c : Int) (m : Nat),
    (∃ su r q m', findRows l c kind = some (su, r, q) ∧ rowsR (MrF s kind) (HDF s kind) (hitF kind) l c m = MF1 s kind [.int .i64 su, .int .i64 r, .int .i64 q] true (loopF s kind .done (some .ret)) kind m') ∨
    (findRows l c kind = none ∧ ∃ c' m', rowsR (MrF s kind) (HDF s kind) (hitF kind) l c m = MF1 s kind zeroPl false (loopF s kind .ready none) c' m')
  | [], c, m => .inr ⟨rfl, c, m, rfl⟩
  | (su, q) :: r, c, m => by
    simp only [rowsR, findRows]
    rcases rowF s kind su q q 0 c m with ⟨h1, h2, m', h3⟩ | ⟨h1, h3⟩
    · rw [h3, if_pos ⟨h1, h2⟩]
      exact .inl ⟨su, kind - c, q, m' + 1, rfl, by simp [HDF]⟩
    · rw [h3, if_neg h1]
      exact rowsF s kind r (c + q) (m + q)

/-- What find answers. -/
noncomputable def SV.find (s : SV) (kind : Int) : Option (Int × Int × Int) := if s.err = 0 then findRows s.rows 0 kind else none
noncomputable def findV (x : Option (Int × Int × Int)) : Value :=
  match x with
  | some (su, r, q) => .tuple #[placeV su r q, .bool true]
  | none => .tuple #[placeV 0 0 0, .bool false]

/-- The memory when the loop begins. -/
noncomputable def startF (s : SV) (kind : Int) : AH := ⟨9, [(8, loopF s kind .ready none), (7, .defd), (6, .cells false s.boxL), (5, .cells false [.bool false]), (4, .cells false zeroPl), (3, .cells false [.int .i64 kind]), (2, .cells false s.boxL), (1, .ints s.h), (0, .ints s.g)]⟩
noncomputable def SV.ok (s : SV) : Bool := s.err == 0
theorem Nvalid : ((tabT Try.prog) 24).map (fun z => (z.ex.nat 37, z.ex.mnz 37)) = some (none, none) := by kernel_rfl
theorem Cvalid (call : Value → List Value → AH → Option (Value × AH)) {tm : Tm} {i : Nat} {H : AH} {d : Option Tmp} {t : TypeId} {p : String} {a : Array Edge} {gd : Option (Nat × Bool)} : evOp (tabT Try.prog) call ⟨d, .call ⟨.value (.func 37), #[.tmp i], #[24]⟩, t, p, a, gd⟩ (opd tm) H = call (.func (.func 37) #[] #[]) [tm.get i] H :=
  evOp_evO.trans (eo_call1 rfl rfl Nvalid)
theorem Nkinds : ((tabT Try.prog) 24).map (fun z => (z.ex.nat 38, z.ex.mnz 38)) = some (none, none) := by kernel_rfl
theorem Ckinds (call : Value → List Value → AH → Option (Value × AH)) {tm : Tm} {i : Nat} {H : AH} {d : Option Tmp} {t : TypeId} {p : String} {a : Array Edge} {gd : Option (Nat × Bool)} : evOp (tabT Try.prog) call ⟨d, .call ⟨.value (.func 38), #[.tmp i], #[24]⟩, t, p, a, gd⟩ (opd tm) H = call (.func (.func 38) #[] #[]) [tm.get i] H :=
  evOp_evO.trans (eo_call1 rfl rfl Nkinds)
set_option maxRecDepth 10000 in
set_option maxHeartbeats 8000000 in
theorem find_ev (call : Value → List Value → AH → Option (Value × AH)) (s : SV) (kind : Int)
    (hv : ∀ (H : AH), lookB H.bs 0 = some (.ints s.g) → lookB H.bs 1 = some (.ints s.h) → call (.func (.func 37) #[] #[]) [s.val] H = some (.bool s.ok, H))
    (h87 : ∀ (H : AH), lookB H.bs 0 = some (.ints s.g) → lookB H.bs 1 = some (.ints s.h) → call (.func (.func 38) #[] #[]) [s.val] H = some (.func (.func 57) #[] #[.pointer (some ⟨H.next, 0, none⟩)], pushB H (.cells false s.boxL)))
    (h111 : s.err = 0 → call (.func (.func 57) #[] #[.pointer (some ⟨6, 0, none⟩)]) [.func (.yield 8) #[] #[]] (startF s kind) = some (.tuple #[], rowsR (MrF s kind) (HDF s kind) (hitF kind) s.rows 0 0)) :
    ∃ H', evFn (tabT Try.prog) call 300 kpT 28 Try.f28 [s.val, .int .i64 kind] s.hp = some (findV (s.find kind), H') := by
  have kp := kf
  by_cases c1 : s.err = 0
  · have c1' : s.ok = true := by simp [SV.ok, c1]
    have h := h111 c1
    rcases rowsF s kind s.rows 0 0 with ⟨su, r, q, m', g1, g2⟩ | ⟨g1, c', m', g2⟩
    · rw [g2] at h
      simp only [startF, MF1, loopF, codeA, codeB, Try.f28, Option.bind_some, rfOf, Option.getD_some, tmF, SV.boxL, SV.val, zeroPl, undef] at h
      simp only [SV.val, SV.boxL] at hv h87
      simp only [evFn, Try.f28, SV.val, SV.hp, SV.find, if_pos c1, g1]
      simp [ec_skip, ec_label, ek_reg, ek_draw, ek_seq, ec_cond, ek_block, ec_loop, ec_exit, ec_ret, ec_scope, ek_nil, ek_op, opK_some, regK_some, seqK_normal, seqK_exit, seqK_ret, blockK_normal, blockK_exit, blockK_ret, evOp, vOp, hOpB, hOpU, hOp, hOpT, aAppendG_tab, aWanted, aYielded, opd, putT, closedV, aBin, intOp, sameK, mapO, joinR, hasAddr, boundOf, pushB, aAlloc, Value.cells, lookB, setB, Nat.beq_eq, tm_n_set, tm_get_set, tm_of_n, tm_of_get, tm_tr_set, tm_tr_of, cellV, putF, appR_eq, takeR_eq, dropR_eq, setR_eq, getR_eq, ↓C75, ↓C76, ↓C77, ↓C79, ↓C17, ↓C18, ↓C22, ↓C71, FA24_0, FA24_1, FA24_2, FA24_3, FA24_4, FA24_5, FA24_6, FA24_7, FA24_8, LD3, LD4, LD22, LD27, LDr, LD24, LEN22, IA22, tkc, cellAt, ↓AL43, ↓AL4, ↓Cvalid, ↓Ckinds, hv, h87, c1', ec_range, evRange, h, finF, takeM, resV, LD43, dropB, cleanedG, kp, below, findV, placeV]
    · rw [g2] at h
      simp only [startF, MF1, loopF, codeA, codeB, Try.f28, Option.bind_some, rfOf, Option.getD_some, tmF, SV.boxL, SV.val, zeroPl, undef] at h
      simp only [SV.val, SV.boxL] at hv h87
      simp only [evFn, Try.f28, SV.val, SV.hp, SV.find, if_pos c1, g1]
      simp [ec_skip, ec_label, ek_reg, ek_draw, ek_seq, ec_cond, ek_block, ec_loop, ec_exit, ec_ret, ec_scope, ek_nil, ek_op, opK_some, regK_some, seqK_normal, seqK_exit, seqK_ret, blockK_normal, blockK_exit, blockK_ret, evOp, vOp, hOpB, hOpU, hOp, hOpT, aAppendG_tab, aWanted, aYielded, opd, putT, closedV, aBin, intOp, sameK, mapO, joinR, hasAddr, boundOf, pushB, aAlloc, Value.cells, lookB, setB, Nat.beq_eq, tm_n_set, tm_get_set, tm_of_n, tm_of_get, tm_tr_set, tm_tr_of, cellV, putF, appR_eq, takeR_eq, dropR_eq, setR_eq, getR_eq, ↓C75, ↓C76, ↓C77, ↓C79, ↓C17, ↓C18, ↓C22, ↓C71, FA24_0, FA24_1, FA24_2, FA24_3, FA24_4, FA24_5, FA24_6, FA24_7, FA24_8, LD3, LD4, LD22, LD27, LDr, LD24, LEN22, IA22, tkc, cellAt, ↓AL43, ↓AL4, ↓Cvalid, ↓Ckinds, hv, h87, c1', ec_range, evRange, h, finF, takeM, resV, LD43, ST43, STb, BD80z, partsO, dropB, cleanedG, kp, below, findV, placeV]
  · have c1' : s.ok = false := by simp [SV.ok, c1]
    simp only [SV.val, SV.boxL] at hv h87
    simp only [evFn, Try.f28, SV.val, SV.hp, SV.find, if_neg c1]
    simp [ec_skip, ec_label, ek_reg, ek_draw, ek_seq, ec_cond, ek_block, ec_loop, ec_exit, ec_ret, ec_scope, ek_nil, ek_op, opK_some, regK_some, seqK_normal, seqK_exit, seqK_ret, blockK_normal, blockK_exit, blockK_ret, evOp, vOp, hOpB, hOpU, hOp, hOpT, aAppendG_tab, aWanted, aYielded, opd, putT, closedV, aBin, intOp, sameK, mapO, joinR, hasAddr, boundOf, pushB, aAlloc, Value.cells, lookB, setB, Nat.beq_eq, tm_n_set, tm_get_set, tm_of_n, tm_of_get, tm_tr_set, tm_tr_of, cellV, putF, appR_eq, takeR_eq, dropR_eq, setR_eq, getR_eq, ↓C75, ↓C76, ↓C77, ↓C79, ↓C17, ↓C18, ↓C22, ↓C71, FA24_0, FA24_1, FA24_2, FA24_3, FA24_4, FA24_5, FA24_6, FA24_7, FA24_8, LD3, LD4, LD22, LD27, LDr, LD24, LEN22, IA22, tkc, cellAt, ↓AL43, ↓AL4, ↓Cvalid, ↓Ckinds, hv, h87, c1', finF, takeM, resV, LD43, ST43, STb, BD80z, partsO, cleanedG, kp, below, findV, placeV]

end Go.Proofs.Ytdbpemmhkfbegaa
