/-
  What is proved: what tile.Orphans answers for every set: a list in new memory, made row by row.
-/
import Derived.Test.YtkoppbbmdjhaoaaKl
namespace Go.Proofs.Ytkoppbbmdjhaoaa
open Go.RowKit
set_option linter.unusedSimpArgs false

/-- The memory when the loop of Orphans begins. -/
noncomputable def startO (s : SV) : AH := ⟨7, [(6, loopO s), (5, .defd), (4, .cells false s.boxL), (3, .cells false [.slice none 0 0]), (2, .cells false s.boxL), (1, .ints s.h), (0, .ints s.g)]⟩

def SV.torphs (s : SV) : List Int := if s.err = 0 then rowsX stO s.rows 0 [] else []

theorem Z22 : (tabT Try.prog 22).map (fun y => (y.size, y.zero)) = some (1, .slice none 0 0) := by rw [T22]; rfl

theorem inv_start (s : SV) : InvO s 0 [] ⟨9, (8, .cells false [.int .i64 0]) :: (7, .cells false [.func (.yield 6) #[] #[]]) :: (startO s).bs⟩ := by
  refine ⟨⟨by simp, rfl, rfl, rfl, ⟨_, rfl, 0, rfl, fun h => absurd rfl h⟩, rfl, rfl, rfl, rfl, rfl⟩, by simp⟩

/-- The call of the closure of kinds with the loop of Orphans. -/
theorem kinds_orph (s : SV) (h : s.err = 0) : ∃ C H', inH M7 (.func (.func 111) #[] #[.pointer (some ⟨4, 0, none⟩)]) [.func (.yield 6) #[] #[]] (startO s) = some (.tuple #[], H') ∧ InvO s C (rowsX stO s.rows 0 []) H' := by
  have hs := small_of_err h
  unfold inH
  rw [call_fn F111 (M7_cl _ _ _ _ _)]
  refine kindsP_ev _ s hs (startO s) stO [] (fun c x H h => h.1.b4) (fun c x H h => h.1.b0) rfl rfl (inv_start s) ?_
  intro su q c x H hmem hq hc hcq hI
  unfold clX
  rw [call_fn F112 (M7_cl _ _ _ _ _)]
  refine rowP_ev _ (keepsO s) (stO su q) su q c x H ?_ hq hc hcq hI
  intro c r x H hr0 hrq hc0 hc1 hI
  rw [call_yield (M7_y _ _ _)]
  exact yield_orph _ s c su r q x H hr0 hrq hq hc0 hc1 hI

set_option maxRecDepth 10000 in
set_option maxHeartbeats 8000000 in
theorem torph_ev (call : Value → List Value → AH → Option (Value × AH)) (s : SV)
    (hv : ∀ (H : AH), lookB H.bs 0 = some (.ints s.g) → lookB H.bs 1 = some (.ints s.h) → call (.func (.func 80) #[] #[]) [s.val] H = some (.bool s.ok, H))
    (h87 : ∀ (H : AH), lookB H.bs 0 = some (.ints s.g) → lookB H.bs 1 = some (.ints s.h) → call (.func (.func 87) #[] #[]) [s.val] H = some (.func (.func 111) #[] #[.pointer (some ⟨H.next, 0, none⟩)], pushB H (.cells false s.boxL)))
    (h111 : s.err = 0 → ∃ C H', call (.func (.func 111) #[] #[.pointer (some ⟨4, 0, none⟩)]) [.func (.yield 6) #[] #[]] (startO s) = some (.tuple #[], H') ∧ InvO s C (rowsX stO s.rows 0 []) H') :
    ∃ b H', evFn (tabT Try.prog) call 300 kpT 35 Try.f35 [s.val] s.hp = some (lstV b s.torphs, H') ∧ (s.torphs ≠ [] → lookB H'.bs b = some (.cells false (intsV s.torphs))) := by
  by_cases c1 : s.err = 0
  · have c1' : s.ok = true := by simp [SV.ok, c1]
    obtain ⟨C, ⟨nx, bs⟩, h, ⟨hnx, b0, b1, b2, ⟨v, b3, ⟨b, e, hb⟩⟩, b4, b5, b6, b7, b8⟩, _⟩ := h111 c1
    simp only at hnx b0 b1 b2 b3 b4 b5 b6 b7 b8
    have hL : s.torphs = rowsX stO s.rows 0 [] := by unfold SV.torphs; rw [if_pos c1]
    rw [hL]
    simp only [startO, loopO, tmO, codeOA, codeOB, Try.f35, Option.bind_some, rfOf, Option.getD_some, placeV, SV.val, undef, List.replicate, List.cons_append, List.nil_append, SV.boxL] at h b6
    simp only [SV.val, SV.boxL] at hv h87
    simp only [evFn, Try.f35, SV.val, SV.hp]
    refine ⟨b, ⟨nx, dropB (dropB bs 6) 5⟩, ?_, fun hne => ?_⟩
    · simp [ec_skip, ec_label, ek_reg, ek_draw, ek_seq, ec_cond, ek_block, ec_loop, ec_exit, ec_ret, ek_nil, ek_op, opK_some, regK_some, seqK_normal, seqK_exit, seqK_ret, blockK_normal, blockK_exit, blockK_ret, evOp, vOp, hOp, aWanted, aY, boolOf, opd, putT, closedV, undef, aBin, intOp, sameK, mapO, joinR, hasAddr, pushB, aAlloc, Value.cells, T3, T4, T22, FA24_0, FA24_1, FA24_2, FA24_3, FA24_4, FA24_5, FA24_6, FA24_7, FA24_8, LD3, LD4, LD22, LD27, LDr, LD24, LEN22, IA22, cellAt, lookB, Nat.beq_eq, takeCells, getT, setT, hv, h87, c1', ec_range, evRange, h, finF, takeM, resV, getT_set, setT_length, b3, b5, b6, lookB_dropB, dropB, cleaned, kpT]
      exact e
    · obtain ⟨q1, q2, q3⟩ := hb hne
      rw [lookB_dropB, if_neg (by omega), lookB_dropB, if_neg (by omega)]
      exact q3
  · have c1' : s.ok = false := by simp [SV.ok, c1]
    have hL : s.torphs = [] := by unfold SV.torphs; rw [if_neg c1]
    rw [hL]
    simp only [SV.val, SV.boxL] at hv h87
    simp only [evFn, Try.f35, SV.val, SV.hp, lstV]
    simp [ec_skip, ec_label, ek_reg, ek_draw, ek_seq, ec_cond, ek_block, ec_loop, ec_exit, ec_ret, ek_nil, ek_op, opK_some, regK_some, seqK_normal, seqK_exit, seqK_ret, blockK_normal, blockK_exit, blockK_ret, evOp, vOp, hOp, aWanted, aY, boolOf, opd, putT, closedV, undef, aBin, intOp, sameK, mapO, joinR, hasAddr, pushB, aAlloc, Value.cells, T3, T4, T22, FA24_0, FA24_1, FA24_2, FA24_3, FA24_4, FA24_5, FA24_6, FA24_7, FA24_8, LD3, LD4, LD22, LD27, LDr, LD24, LEN22, IA22, cellAt, lookB, Nat.beq_eq, takeCells, getT, setT, hv, h87, c1', finF, takeM, resV, getT_set, setT_length, cleaned, kpT]

end Go.Proofs.Ytkoppbbmdjhaoaa
