/-
  What is proved: a list is equal to itself (sparrowkit.Equal), wherever it lies; and the answers that the law TileKinds takes.
-/
import Derived.Test.YtkoppbbmdjhaoaaKn
namespace Go.Proofs.Ytkoppbbmdjhaoaa
open Go.RowKit
set_option linter.unusedSimpArgs false

theorem F34 : tabF Try.prog 34 = some Try.f34 := by kernel_rfl
theorem IA22c (i n k : Nat) (h : k < n) : aIndexAddr (tabT Try.prog) 22 (.slice (some ⟨i, 0, none⟩) n 1) (.int .i64 k) = some (.pointer (some ⟨i, k, none⟩)) := by
  simp [aIndexAddr, natV, T22, T3, h]

theorem intsV_at {l : List Int} {i : Nat} (h : i < l.length) : (intsV l)[i]? = some (.int .i64 l[i]) := by
  simp [intsV, h]

def EQ2 (l : List Int) : AH := ⟨2, [(1, .cells true (intsV l)), (0, .cells true (intsV l))]⟩
def I34 (l : List Int) (m : Nat) (A : AF) (H : AH) : Prop := ∃ i : Nat, i + m = l.length ∧ A.tm.length = 26 ∧ A.marks = [] ∧ getT A.tm 5 = .int .i64 (i : Int) ∧ getT A.tm 0 = .slice (some ⟨0, 0, none⟩) l.length 1 ∧ getT A.tm 1 = .slice (some ⟨1, 0, none⟩) l.length 1 ∧ H = EQ2 l
def Q34 (l : List Int) (z : AX) (A' : AF) (H : AH) : Prop := z = .exit 0 ∧ A'.tm.length = 26 ∧ A'.marks = [] ∧ H = EQ2 l
def P34 (l : List Int) (r : List DR × Nat) : Prop := r.2 = 2 ∧ wheap (EQ2 l).bs r.1 = (EQ2 l).bs ∧ ∀ tm, tv tm all1 r.1 25 = .bool false ∧ tv tm all1 r.1 0 = getT tm 0 ∧ tv tm all1 r.1 1 = getT tm 1 ∧ tv tm all1 r.1 5 = getT tm 5

set_option maxRecDepth 10000 in
set_option maxHeartbeats 8000000 in
theorem equal34_ev (call : Value → List Value → AH → Option (Value × AH)) (l : List Int) (hl200 : l.length ≤ 200) : ∃ H', evFn (tabT Try.prog) call 300 kpT 34 Try.f34 [.slice (some ⟨0, 0, none⟩) l.length 1, .slice (some ⟨1, 0, none⟩) l.length 1] (EQ2 l) = some (.bool true, H') := by
  simp only [evFn, Try.f34]
  simp [ec_skip, ec_label, ek_reg, ek_draw, ek_seq, ec_cond, ek_block, ec_loop, ec_exit, ec_ret, ek_nil, ek_op, opK_some, regK_some, seqK_normal, seqK_exit, seqK_ret, blockK_normal, blockK_exit, blockK_ret, evOp, vOp, hOp, aWanted, aY, boolOf, opd, putT, closedV, undef, aBin, intOp, sameK, mapO, joinR, hasAddr, pushB, aAlloc, Value.cells, T3, T4, T22, FA24_0, FA24_1, FA24_2, FA24_3, FA24_4, FA24_5, FA24_6, FA24_7, FA24_8, LD3, LD4, LD22, LD27, LDr, LD24, LEN22, IA22, cellAt, lookB, Nat.beq_eq, takeCells, getT, setT]
  generalize hr : evLoop _ _ _ _ = r
  obtain ⟨z, A', H', rfl, rfl, hl, hmk, rfl⟩ := loop_go (Q := Q34 l) hr (I34 l) l.length (by omega) ⟨0, by omega, rfl, rfl, rfl, rfl, rfl, rfl⟩ (by
      clear hr
      rintro m A H ⟨i, him, hl, hmk, h5, h0, h1, rfl⟩
      simp only [runC]
      cases m with
      | zero =>
        have hi : ¬ i < l.length := by omega
        simp [ec_skip, ec_label, ek_reg, ek_draw, ek_seq, ec_cond, ek_block, ec_loop, ec_exit, ec_ret, ek_nil, ek_op, opK_some, regK_some, seqK_normal, seqK_exit, seqK_ret, blockK_normal, blockK_exit, blockK_ret, evOp, vOp, hOp, aWanted, aY, boolOf, opd, putT, closedV, undef, aBin, intOp, sameK, mapO, joinR, hasAddr, pushB, aAlloc, Value.cells, T3, T4, T22, FA24_0, FA24_1, FA24_2, FA24_3, FA24_4, FA24_5, FA24_6, FA24_7, FA24_8, LD3, LD4, LD22, LD27, LDr, LD24, LEN22, IA22, cellAt, lookB, Nat.beq_eq, takeCells, getT_set, setT_length, hl, hmk, h5, h0, h1, hi]
        exact .inr ⟨by simp, rfl, by simp [setT_length, hl], rfl, rfl⟩
      | succ m =>
        have hi : i < l.length := by omega
        have hw : wrapI .i64 ((i : Int) + 1) = ((i + 1 : Nat) : Int) := by rw [wrapI_small (by omega) (by omega)]; rfl
        have hat := intsV_at hi
        simp only [EQ2]
        simp [ec_skip, ec_label, ek_reg, ek_draw, ek_seq, ec_cond, ek_block, ec_loop, ec_exit, ec_ret, ek_nil, ek_op, opK_some, regK_some, seqK_normal, seqK_exit, seqK_ret, blockK_normal, blockK_exit, blockK_ret, evOp, vOp, hOp, aWanted, aY, boolOf, opd, putT, closedV, undef, aBin, intOp, sameK, mapO, joinR, hasAddr, pushB, aAlloc, Value.cells, T3, T4, T22, FA24_0, FA24_1, FA24_2, FA24_3, FA24_4, FA24_5, FA24_6, FA24_7, FA24_8, LD3, LD4, LD22, LD27, LDr, LD24, LEN22, IA22, cellAt, lookB, Nat.beq_eq, takeCells, getT_set, setT_length, hl, hmk, h5, h0, h1, hi]
        generalize hX : evDraw _ _ _ _ _ = X
        obtain ⟨⟨rs, ny⟩, rfl, hnx, hwh, htv⟩ := evDraw_ex (Pq := P34 l) hX (by kernel_rfl) (by simp [decrK]) (by
          clear hX
          generalize befs _ = M
          simp [mapO, drRun, drOp, looks, guardT, tmpsOf, Op.operands, Call.operands, wantedR, gOf, natMem, tv, all1, roB, news, newOnes, decr, evOp, vOp, hOp, opd, closedV, undef, aBin, intOp, sameK, opdO, FA24_0, FA24_1, FA24_2, FA24_3, FA24_4, FA24_5, FA24_8, LD3, LD22, LD24, LDr, IA22, cellAt, lookB, Nat.beq_eq, T3, T4, T22, takeCells, getT, getT_set, setT_length, hl, h5, h0, h1, hi, IA22c, hat]
          exact ⟨by simp [dynOK, b02, b12], rfl, by simp [EQ2, wheap, news], fun tm => by simp [tv, all1]⟩)
        simp only at hnx hwh htv
        subst hnx
        simp only [EQ2] at hwh
        simp [ec_skip, ec_label, ek_reg, ek_draw, ek_seq, ec_cond, ek_block, ec_loop, ec_exit, ec_ret, ek_nil, ek_op, opK_some, regK_some, seqK_normal, seqK_exit, seqK_ret, blockK_normal, blockK_exit, blockK_ret, evOp, vOp, hOp, aWanted, aY, boolOf, opd, putT, closedV, undef, aBin, intOp, sameK, mapO, joinR, hasAddr, pushB, aAlloc, Value.cells, T3, T4, T22, FA24_0, FA24_1, FA24_2, FA24_3, FA24_4, FA24_5, FA24_6, FA24_7, FA24_8, LD3, LD4, LD22, LD27, LDr, LD24, LEN22, IA22, cellAt, lookB, Nat.beq_eq, takeCells, getT_fin, fin_length, htv, getT_set, setT_length, hl, hmk, h5, h0, h1, hwh]
        refine ⟨_, _, _, ⟨rfl, rfl, rfl⟩, .inl ⟨rfl, m, rfl, i + 1, by omega, ?_⟩⟩
        simp [getT_fin, fin_length, htv, getT_set, setT_length, hl, h5, h0, h1, hw, hwh, EQ2])
  simp [ec_skip, ec_label, ek_reg, ek_draw, ek_seq, ec_cond, ek_block, ec_loop, ec_exit, ec_ret, ek_nil, ek_op, opK_some, regK_some, seqK_normal, seqK_exit, seqK_ret, blockK_normal, blockK_exit, blockK_ret, evOp, vOp, hOp, aWanted, aY, boolOf, opd, putT, closedV, undef, aBin, intOp, sameK, mapO, joinR, hasAddr, pushB, aAlloc, Value.cells, T3, T4, T22, FA24_0, FA24_1, FA24_2, FA24_3, FA24_4, FA24_5, FA24_6, FA24_7, FA24_8, LD3, LD4, LD22, LD27, LDr, LD24, LEN22, IA22, cellAt, lookB, Nat.beq_eq, takeCells, finF, takeM, resV, getT_set, setT_length, hl, hmk, cleaned, kpT]

theorem equal34_nil (call : Value → List Value → AH → Option (Value × AH)) : ∃ H', evFn (tabT Try.prog) call 300 kpT 34 Try.f34 [.slice none 0 0, .slice none 0 0] ⟨0, []⟩ = some (.bool true, H') := by
  simp only [evFn, Try.f34]
  simp [ec_skip, ec_label, ek_reg, ek_draw, ek_seq, ec_cond, ek_block, ec_loop, ec_exit, ec_ret, ek_nil, ek_op, opK_some, regK_some, seqK_normal, seqK_exit, seqK_ret, blockK_normal, blockK_exit, blockK_ret, evOp, vOp, hOp, aWanted, aY, boolOf, opd, putT, closedV, undef, aBin, intOp, sameK, mapO, joinR, hasAddr, pushB, aAlloc, Value.cells, T3, T4, T22, FA24_0, FA24_1, FA24_2, FA24_3, FA24_4, FA24_5, FA24_6, FA24_7, FA24_8, LD3, LD4, LD22, LD27, LDr, LD24, LEN22, IA22, cellAt, lookB, Nat.beq_eq, takeCells, getT, setT]
  generalize hr : evLoop _ _ _ _ = r
  obtain ⟨z, A', H', rfl, rfl, hl, hmk, rfl⟩ := loop_go (Q := fun z A' H => z = .exit 0 ∧ A'.tm.length = 26 ∧ A'.marks = [] ∧ H = ⟨0, []⟩) hr (fun _ A H => A.tm.length = 26 ∧ A.marks = [] ∧ getT A.tm 5 = .int .i64 0 ∧ getT A.tm 0 = .slice none 0 0 ∧ H = ⟨0, []⟩) 0 (by omega) ⟨rfl, rfl, rfl, rfl, rfl⟩ (by
      clear hr
      rintro m A H ⟨hl, hmk, h5, h0, rfl⟩
      simp only [runC]
      simp [ec_skip, ec_label, ek_reg, ek_draw, ek_seq, ec_cond, ek_block, ec_loop, ec_exit, ec_ret, ek_nil, ek_op, opK_some, regK_some, seqK_normal, seqK_exit, seqK_ret, blockK_normal, blockK_exit, blockK_ret, evOp, vOp, hOp, aWanted, aY, boolOf, opd, putT, closedV, undef, aBin, intOp, sameK, mapO, joinR, hasAddr, pushB, aAlloc, Value.cells, T3, T4, T22, FA24_0, FA24_1, FA24_2, FA24_3, FA24_4, FA24_5, FA24_6, FA24_7, FA24_8, LD3, LD4, LD22, LD27, LDr, LD24, LEN22, IA22, cellAt, lookB, Nat.beq_eq, takeCells, getT_set, setT_length, hl, hmk, h5, h0]
      exact .inr ⟨by simp, rfl, by simp [setT_length, hl], rfl, rfl⟩)
  simp [ec_skip, ec_label, ek_reg, ek_draw, ek_seq, ec_cond, ek_block, ec_loop, ec_exit, ec_ret, ek_nil, ek_op, opK_some, regK_some, seqK_normal, seqK_exit, seqK_ret, blockK_normal, blockK_exit, blockK_ret, evOp, vOp, hOp, aWanted, aY, boolOf, opd, putT, closedV, undef, aBin, intOp, sameK, mapO, joinR, hasAddr, pushB, aAlloc, Value.cells, T3, T4, T22, FA24_0, FA24_1, FA24_2, FA24_3, FA24_4, FA24_5, FA24_6, FA24_7, FA24_8, LD3, LD4, LD22, LD27, LDr, LD24, LEN22, IA22, cellAt, lookB, Nat.beq_eq, takeCells, finF, takeM, resV, getT_set, setT_length, hl, hmk, cleaned, kpT]

open Classical in
noncomputable def ansEq : List Value → AH → Option Value
  | [.slice none 0 0, .slice none 0 0], ⟨0, []⟩ => some (.bool true)
  | [.slice (some ⟨0, 0, none⟩) n 1, .slice (some ⟨1, 0, none⟩) n' 1], ⟨2, [(1, .cells true a), (0, .cells true b)]⟩ => if ∃ l : List Int, l.length ≤ 200 ∧ n = l.length ∧ n' = l.length ∧ a = intsV l ∧ b = intsV l then some (.bool true) else none
  | _, _ => none

theorem ok34 : AnsOK (runH noH) 34 ansEq := by
  intro cargs Hc v h
  unfold ansEq at h
  split at h
  · cases h
    refine ⟨rfl, fun _ => ?_⟩
    obtain ⟨H', h⟩ := equal34_nil (inH noH)
    exact ⟨H', runH_fn F34 rfl h⟩
  · split at h
    · rename_i hl
      cases h
      obtain ⟨l, h200, rfl, rfl, rfl, rfl⟩ := hl
      refine ⟨rfl, fun _ => ?_⟩
      obtain ⟨H', h⟩ := equal34_ev (inH noH) l h200
      exact ⟨H', runH_fn F34 rfl h⟩
    · cases h
  · cases h

theorem canH_eq {b1 b2 : Nat} {l : List Int} {H : AH} {r1 r2 : Bool} (hne : b1 ≠ b2) (h1 : lookB H.bs b1 = some (.cells r1 (intsV l))) (h2 : lookB H.bs b2 = some (.cells r2 (intsV l))) (h200 : l.length ≤ 200) :
    canH 34 ansEq (.func (.func 34) #[] #[]) [.slice (some ⟨b1, 0, none⟩) l.length 1, .slice (some ⟨b2, 0, none⟩) l.length 1] H = some (.bool true, H) := by
  have hcl : (intsV l).all (closedV 3) = true := by simp [intsV, closedV]
  have hb : Nat.beq b1 b2 = false := by
    cases hb : Nat.beq b1 b2 with
    | false => rfl
    | true => exact absurd (Nat.eq_of_beq_eq_true hb) hne
  have he : ∃ l' : List Int, l'.length ≤ 200 ∧ l.length = l'.length ∧ l.length = l'.length ∧ intsV l = intsV l' ∧ intsV l = intsV l' := ⟨l, h200, rfl, rfl, rfl, rfl⟩
  simp only [canH, canon, canonL, canonV, idOf, idxOf, hb, Option.map_none, List.length_nil, List.nil_append, List.length_cons, List.cons_append, canonB, h1, h2, hcl, if_true, Option.map_some, List.reverse_cons, List.reverse_nil, Nat.beq_refl, Nat.zero_add, Bool.false_eq_true, if_false]
  simp only [ansEq, if_pos he]

/-! ### Both Orphans -/
def ansO : List Value → AH → Option (List Int)
  | [v], H => match seeSet v H with
    | some s => some s.orphs
    | none => none
  | _, _ => none

theorem ok35 : LstOK (runH M7) 35 ansO := by
  intro cargs Hc l h hr
  unfold ansO at h
  split at h
  · split at h
    · rename_i s hs
      obtain ⟨rfl, rfl⟩ := seeSet_spec hs
      cases h
      obtain ⟨b, H', h, hb⟩ := torph_ev (inH M7) s (fun H h0 h1 => M7_80 s H h0 h1) (fun H _ _ => by unfold inH; rw [call_fn F87 (M7_87 _ _)]; exact kinds87_ev _ s H) (kinds_orph s)
      rw [torphs_eq] at h hb
      exact ⟨b, H', runH_fn F35 rfl h, hb⟩
    · cases h
  · cases h
theorem ok36 : LstOK (runH R3) 36 ansO := by
  intro cargs Hc l h hr
  unfold ansO at h
  split at h
  · split at h
    · rename_i s hs
      obtain ⟨rfl, rfl⟩ := seeSet_spec hs
      cases h
      obtain ⟨b, H', h, hb⟩ := rorph_ev (inH R3) s (fun H h0 h1 => R3_20 s H h0 h1) (fun k H h0 h1 => R3_27 s k H h0 h1)
      exact ⟨b, H', runH_fn F36 rfl h, hb⟩
    · cases h
  · cases h

theorem lstH_set {f : FuncId} {s : SV} {H : AH} (h0 : lookB H.bs 0 = some (.ints s.g)) (h1 : lookB H.bs 1 = some (.ints s.h)) : lstH f ansO (.func (.func f) #[] #[]) [s.val] H = some (lstV H.next s.orphs, lstM H s.orphs) := by
  simp [lstH, canon, canonL, canonV, idOf, idxOf, SV.val, canonB, h0, h1, ansO, seeSet]
theorem lstH_other {f g : FuncId} {ans : List Value → AH → Option (List Int)} {args : List Value} {H : AH} (h : Nat.beq g f = false) : lstH f ans (.func (.func g) #[] #[]) args H = none := by
  simp [lstH, h]

noncomputable def R4 : Hnd := orH (lstH 35 ansO) (orH (lstH 36 ansO) (orH (canH 34 ansEq) R3))
theorem R4_ok : CallOK Try.prog R4 := orH_ok (lstH_ok (runH_ok M7_ok) ok35) (orH_ok (lstH_ok (runH_ok R3_ok) ok36) (orH_ok (canH_ok (runH_ok noH_ok) ok34) R3_ok))

theorem R4_35 (s : SV) (H : AH) (h0 : lookB H.bs 0 = some (.ints s.g)) (h1 : lookB H.bs 1 = some (.ints s.h)) : inH R4 (.func (.func 35) #[] #[]) [s.val] H = some (lstV H.next s.orphs, lstM H s.orphs) := inH_hd (orH_l (lstH_set h0 h1))
theorem R4_36 (s : SV) (H : AH) (h0 : lookB H.bs 0 = some (.ints s.g)) (h1 : lookB H.bs 1 = some (.ints s.h)) : inH R4 (.func (.func 36) #[] #[]) [s.val] H = some (lstV H.next s.orphs, lstM H s.orphs) := inH_hd (orH_r (lstH_other rfl) (orH_l (lstH_set h0 h1)))
theorem R4_34 {b1 b2 : Nat} {l : List Int} {H : AH} {r1 r2 : Bool} (hne : b1 ≠ b2) (h1 : lookB H.bs b1 = some (.cells r1 (intsV l))) (h2 : lookB H.bs b2 = some (.cells r2 (intsV l))) (h200 : l.length ≤ 200) :
    inH R4 (.func (.func 34) #[] #[]) [.slice (some ⟨b1, 0, none⟩) l.length 1, .slice (some ⟨b2, 0, none⟩) l.length 1] H = some (.bool true, H) := inH_hd (orH_r (lstH_other rfl) (orH_r (lstH_other rfl) (orH_l (canH_eq hne h1 h2 h200))))
theorem R4_34n (H : AH) : inH R4 (.func (.func 34) #[] #[]) [.slice none 0 0, .slice none 0 0] H = some (.bool true, H) := inH_hd (orH_r (lstH_other rfl) (orH_r (lstH_other rfl) (orH_l rfl)))
theorem R4_26 (s : SV) (t : Int) (H : AH) (h0 : lookB H.bs 0 = some (.ints s.g)) (h1 : lookB H.bs 1 = some (.ints s.h)) : inH R4 (.func (.func 26) #[] #[]) [s.val, .int .i64 t] H = some (placeT (s.find t), H) := inH_hd (orH_r (lstH_other rfl) (orH_r (lstH_other rfl) (orH_r (canH_other rfl) (orH_l (by rw [canH_sk h0 h1]; rfl)))))
theorem R4_28 (s : SV) (t : Int) (H : AH) (h0 : lookB H.bs 0 = some (.ints s.g)) (h1 : lookB H.bs 1 = some (.ints s.h)) : inH R4 (.func (.func 28) #[] #[]) [s.val, .int .i64 t] H = some (.int .i64 (s.kindOf t), H) := inH_hd (orH_r (lstH_other rfl) (orH_r (lstH_other rfl) (orH_r (canH_other rfl) (orH_r (canH_other rfl) (orH_l (by rw [canH_sk h0 h1]; rfl))))))
theorem R4_30 (s : SV) (t : Int) (H : AH) (h0 : lookB H.bs 0 = some (.ints s.g)) (h1 : lookB H.bs 1 = some (.ints s.h)) : inH R4 (.func (.func 30) #[] #[]) [s.val, .int .i64 t] H = some (.bool (s.redOf t), H) := inH_hd (orH_r (lstH_other rfl) (orH_r (lstH_other rfl) (orH_r (canH_other rfl) (orH_r (canH_other rfl) (orH_r (canH_other rfl) (orH_l (by rw [canH_sk h0 h1]; rfl)))))))
theorem R4_31 (s : SV) (t : Int) (H : AH) (h0 : lookB H.bs 0 = some (.ints s.g)) (h1 : lookB H.bs 1 = some (.ints s.h)) : inH R4 (.func (.func 31) #[] #[]) [s.val, .int .i64 t] H = some (.bool (s.redOf t), H) := inH_hd (orH_r (lstH_other rfl) (orH_r (lstH_other rfl) (orH_r (canH_other rfl) (orH_r (canH_other rfl) (orH_r (canH_other rfl) (orH_r (canH_other rfl) (orH_l (by rw [canH_sk h0 h1]; rfl))))))))
theorem R4_32 (s : SV) (t : Int) (H : AH) (h0 : lookB H.bs 0 = some (.ints s.g)) (h1 : lookB H.bs 1 = some (.ints s.h)) : inH R4 (.func (.func 32) #[] #[]) [s.val, .int .i64 t] H = some (.bool (s.runs t), H) := inH_hd (orH_r (lstH_other rfl) (orH_r (lstH_other rfl) (orH_r (canH_other rfl) (orH_r (canH_other rfl) (orH_r (canH_other rfl) (orH_r (canH_other rfl) (orH_r (canH_other rfl) (orH_l (by rw [canH_sk h0 h1]; rfl)))))))))
theorem R4_33 (s : SV) (t : Int) (H : AH) (h0 : lookB H.bs 0 = some (.ints s.g)) (h1 : lookB H.bs 1 = some (.ints s.h)) : inH R4 (.func (.func 33) #[] #[]) [s.val, .int .i64 t] H = some (.bool (s.runs t), H) := inH_hd (orH_r (lstH_other rfl) (orH_r (lstH_other rfl) (orH_r (canH_other rfl) (orH_r (canH_other rfl) (orH_r (canH_other rfl) (orH_r (canH_other rfl) (orH_r (canH_other rfl) (orH_r (canH_other rfl) (orH_l (by rw [canH_sk h0 h1]; rfl))))))))))
theorem R4_37 (s : SV) (t : Int) (H : AH) (h0 : lookB H.bs 0 = some (.ints s.g)) (h1 : lookB H.bs 1 = some (.ints s.h)) : inH R4 (.func (.func 37) #[] #[]) [s.val, .int .i64 t] H = some (.int .i64 (s.aft t), H) := inH_hd (orH_r (lstH_other rfl) (orH_r (lstH_other rfl) (orH_r (canH_other rfl) (orH_r (canH_other rfl) (orH_r (canH_other rfl) (orH_r (canH_other rfl) (orH_r (canH_other rfl) (orH_r (canH_other rfl) (orH_r (canH_other rfl) (orH_l (by rw [canH_sk h0 h1]; rfl)))))))))))
theorem R4_38 (s : SV) (t : Int) (H : AH) (h0 : lookB H.bs 0 = some (.ints s.g)) (h1 : lookB H.bs 1 = some (.ints s.h)) : inH R4 (.func (.func 38) #[] #[]) [s.val, .int .i64 t] H = some (.int .i64 (s.aft t), H) := inH_hd (orH_r (lstH_other rfl) (orH_r (lstH_other rfl) (orH_r (canH_other rfl) (orH_r (canH_other rfl) (orH_r (canH_other rfl) (orH_r (canH_other rfl) (orH_r (canH_other rfl) (orH_r (canH_other rfl) (orH_r (canH_other rfl) (orH_r (canH_other rfl) (orH_l (by rw [canH_sk h0 h1]; rfl))))))))))))
theorem R4_27 (s : SV) (t : Int) (H : AH) (h0 : lookB H.bs 0 = some (.ints s.g)) (h1 : lookB H.bs 1 = some (.ints s.h)) : inH R4 (.func (.func 27) #[] #[]) [s.val, .int .i64 t] H = some (placeT (s.find t), H) := inH_hd (orH_r (lstH_other rfl) (orH_r (lstH_other rfl) (orH_r (canH_other rfl) (orH_r (canH_other rfl) (orH_r (canH_other rfl) (orH_r (canH_other rfl) (orH_r (canH_other rfl) (orH_r (canH_other rfl) (orH_r (canH_other rfl) (orH_r (canH_other rfl) (orH_r (canH_other rfl) (orH_r (canH_other rfl) (orH_r (canH_other rfl) (orH_r (canH_other rfl) (orH_r (canH_other rfl) (orH_r (canH_other rfl) (orH_r (canH_other rfl) (orH_r (canH_other rfl) (orH_r (canH_other rfl) (orH_r (canH_other rfl) (orH_l (by rw [canH_si h0 h1]; rfl))))))))))))))))))))))
theorem R4_29 (s : SV) (t : Int) (H : AH) (h0 : lookB H.bs 0 = some (.ints s.g)) (h1 : lookB H.bs 1 = some (.ints s.h)) : inH R4 (.func (.func 29) #[] #[]) [s.val, .int .i64 t] H = some (.int .i64 (s.kindOf t), H) := inH_hd (orH_r (lstH_other rfl) (orH_r (lstH_other rfl) (orH_r (canH_other rfl) (orH_r (canH_other rfl) (orH_r (canH_other rfl) (orH_r (canH_other rfl) (orH_r (canH_other rfl) (orH_r (canH_other rfl) (orH_r (canH_other rfl) (orH_r (canH_other rfl) (orH_r (canH_other rfl) (orH_r (canH_other rfl) (orH_l (by rw [canH_sk h0 h1]; rfl))))))))))))))
theorem R4_25 (H : AH) : inH R4 (.func (.func 25) #[] #[]) [] H = some (.bool true, H) := inH_hd (orH_r (lstH_other rfl) (orH_r (lstH_other rfl) (orH_r (canH_other rfl) (orH_r (canH_other rfl) (orH_r (canH_other rfl) (orH_r (canH_other rfl) (orH_r (canH_other rfl) (orH_r (canH_other rfl) (orH_r (canH_other rfl) (orH_r (canH_other rfl) (orH_r (canH_other rfl) (orH_r (canH_other rfl) (orH_r (canH_other rfl) (orH_r (canH_other rfl) (orH_r (canH_other rfl) (orH_r (canH_other rfl) (orH_r (canH_other rfl) (orH_r (canH_other rfl) (orH_r (canH_other rfl) (orH_r (canH_other rfl) (orH_r (canH_other rfl) (orH_l rfl))))))))))))))))))))))
theorem R4_15 (s : SV) (H : AH) (h0 : lookB H.bs 0 = some (.ints s.g)) (h1 : lookB H.bs 1 = some (.ints s.h)) : inH R4 (.func (.func 15) #[] #[]) [s.val] H = some (.bool s.long, H) := inH_hd (orH_r (lstH_other rfl) (orH_r (lstH_other rfl) (orH_r (canH_other rfl) (orH_r (canH_other rfl) (orH_r (canH_other rfl) (orH_r (canH_other rfl) (orH_r (canH_other rfl) (orH_r (canH_other rfl) (orH_r (canH_other rfl) (orH_r (canH_other rfl) (orH_r (canH_other rfl) (orH_r (canH_other rfl) (orH_r (canH_other rfl) (orH_r (canH_other rfl) (orH_r (canH_other rfl) (orH_r (canH_other rfl) (orH_r (canH_other rfl) (orH_r (canH_other rfl) (orH_r (canH_other rfl) (orH_r (canH_other rfl) (orH_r (canH_other rfl) (orH_r (canH_other rfl) (orH_r (canH_other rfl) (orH_r (canH_other rfl) (orH_l (canH_set h0 h1))))))))))))))))))))))))))

theorem orphL_len (p : Int → Bool) : ∀ (m i : Nat), (orphL p m i).length ≤ m
  | 0, _ => Nat.le_refl _
  | m + 1, i => by
    have := orphL_len p m (i + 1)
    simp only [orphL]
    split <;> simp <;> omega
theorem orphs_len (s : SV) : s.orphs.length ≤ 200 := by
  have := orphL_len s.orph s.kinds.toNat 0
  have hb := kinds_bounds s
  unfold SV.orphs
  omega

end Go.Proofs.Ytkoppbbmdjhaoaa
