/-
  What is proved: what the document's own Orphans answers for every set: the list of the kinds that are orphans, in new memory.
-/
import Derived.Test.YtkoppbbmdjhaoaaKh
import Derived.Test.YtkoppbbmdjhaoaaKi
namespace Go.Proofs.Ytkoppbbmdjhaoaa
open Go.RowKit
set_option linter.unusedSimpArgs false

theorem F36 : tabF Try.prog 36 = some Try.f36 := by kernel_rfl
theorem BS22 (H : AH) (k : Int) : aBuildSlice (tabT Try.prog) H 22 1 [(0, .int .i64 k)] = some (.slice (some ⟨H.next, 0, none⟩) 1 1, pushB H (.cells false [.int .i64 k])) := by kernel_rfl

theorem intsV_len (l : List Int) : (intsV l).length = l.length := by simp [intsV]

/-- One more number behind a list. -/
theorem app_more {nx b : Nat} {bs : List (Nat × ABlk)} {l : List Int} (k : Int) (hne : b ≠ nx) (hb : lookB bs b = some (.cells false (intsV l))) (hl : l.length ≤ 100000) :
    aAppend (tabT Try.prog) ⟨nx + 1, (nx, .cells false [.int .i64 k]) :: bs⟩ 22 (.slice (some ⟨b, 0, none⟩) l.length 1) (.slice (some ⟨nx, 0, none⟩) 1 1) =
      some (.slice (some ⟨nx + 1, 0, none⟩) (l.length + 1) 1, ⟨nx + 2, (nx + 1, .cells false (intsV (l ++ [k]))) :: (nx, .cells false [.int .i64 k]) :: dropB bs b⟩) := by
  have h1 : Nat.ble ((l.length + (0 + 1)) * 8) 1000000000000 = true := by rw [Nat.ble_eq]; omega
  have h2 : Nat.ble (l.length + (0 + 1)) 1000000000000 = true := by rw [Nat.ble_eq]; omega
  have e0 : lookB ((nx, ABlk.cells false [.int .i64 k]) :: bs) nx = some (.cells false [.int .i64 k]) := by simp [lookB]
  have e1 : lookB ((nx, ABlk.cells false [.int .i64 k]) :: bs) b = some (.cells false (intsV l)) := by
    simp only [lookB]
    rw [if_neg (by rw [Nat.beq_eq]; exact hne)]
    exact hb
  have e2 : dropB ((nx, ABlk.cells false [.int .i64 k]) :: bs) b = (nx, .cells false [.int .i64 k]) :: dropB bs b := by
    simp only [dropB]
    rw [if_neg (by rw [Nat.beq_eq]; exact hne)]
  have e3 : takeCells [Value.int .i64 k] 0 (1 * 1) = some [.int .i64 k] := rfl
  have e4 : takeCells (intsV l) 0 (l.length * 1) = some (intsV l) := by
    rw [Nat.mul_one, ← intsV_len l]
    exact takeCells_all _ _ 0 fun q _ => by simp
  simp only [aAppend, T22, T3, sliceLen, srcCells, dstCells, e0, e1, e2, e4, Nat.beq_refl, if_true, Nat.zero_add, h1, h2, Option.map_some, cellV, List.all_cons, List.all_nil, Bool.and_true]
  simp only [Nat.zero_add] at h1 h2
  simp [e3, h1, h2, intsV, cellV]

theorem app_one {nx : Nat} {bs : List (Nat × ABlk)} (k : Int) :
    aAppend (tabT Try.prog) ⟨nx + 1, (nx, .cells false [.int .i64 k]) :: bs⟩ 22 (.slice none 0 0) (.slice (some ⟨nx, 0, none⟩) 1 1) =
      some (.slice (some ⟨nx + 1, 0, none⟩) 1 1, ⟨nx + 2, (nx + 1, .cells false (intsV [k])) :: (nx, .cells false [.int .i64 k]) :: bs⟩) := by
  have e0 : lookB ((nx, ABlk.cells false [.int .i64 k]) :: bs) nx = some (.cells false [.int .i64 k]) := by simp [lookB]
  have e3 : takeCells [Value.int .i64 k] 0 (1 * 1) = some [.int .i64 k] := rfl
  simp only [aAppend, T22, T3, sliceLen, srcCells, dstCells, e0, Nat.beq_refl, if_true]
  simp [e3, intsV, cellV]

/-- The list that a loop has made so far: where it lies. -/
def Has (H : AH) (v : Value) (l : List Int) : Prop := ∃ b, v = lstV b l ∧ (l ≠ [] → 3 ≤ b ∧ b < H.next ∧ lookB H.bs b = some (.cells false (intsV l)))

theorem app_has {nx : Nat} {bs : List (Nat × ABlk)} {v : Value} {l : List Int} (h : Has ⟨nx, bs⟩ v l) (hl : l.length ≤ 100000) (h3 : 3 ≤ nx) (k : Int) : ∃ v' bs',
    aAppend (tabT Try.prog) ⟨nx + 1, (nx, .cells false [.int .i64 k]) :: bs⟩ 22 v (.slice (some ⟨nx, 0, none⟩) 1 1) = some (v', ⟨nx + 2, bs'⟩) ∧ Has ⟨nx + 2, bs'⟩ v' (l ++ [k]) ∧ ∀ i, i < 3 → lookB bs' i = lookB bs i := by
  obtain ⟨b, rfl, hb⟩ := h
  cases l with
  | nil =>
    refine ⟨_, _, app_one k, ⟨nx + 1, rfl, fun _ => ⟨by omega, by simp, by simp [lookB]⟩⟩, fun i hi => ?_⟩
    have e1 : ¬ i = nx + 1 := by omega
    have e2 : ¬ i = nx := by omega
    simp [lookB, Nat.beq_eq, e1, e2]
  | cons a t =>
    obtain ⟨b3, bn, hbl⟩ := hb (by simp)
    simp only at bn hbl
    refine ⟨_, _, app_more (l := a :: t) k (by omega) hbl hl, ⟨nx + 1, by simp [lstV], fun _ => ⟨by omega, by simp, by simp [lookB]⟩⟩, fun i hi => ?_⟩
    have e1 : ¬ i = nx + 1 := by omega
    have e2 : ¬ i = nx := by omega
    have e3 : ¬ i = b := by omega
    simp [lookB, Nat.beq_eq, e1, e2, lookB_dropB, e3]

/-- Whether a kind is an orphan. -/
def SV.orph (s : SV) (k : Int) : Bool :=
  match s.find k with
  | none => true
  | some (su, r, q) => decide (su < 0) || (decide (r = 0) || decide (r = q - 1))

def orphL (p : Int → Bool) : Nat → Nat → List Int
  | 0, _ => []
  | m + 1, i => if p i then (i : Int) :: orphL p m (i + 1) else orphL p m (i + 1)

def SV.orphs (s : SV) : List Int := orphL s.orph s.kinds.toNat 0

def I36 (s : SV) (m : Nat) (A : AF) (H : AH) : Prop := ∃ (i : Nat) (l : List Int), (i : Int) + m = s.kinds ∧ l ++ orphL s.orph m i = s.orphs ∧ l.length ≤ i ∧ 3 ≤ H.next ∧ lookB H.bs 0 = some (.ints s.g) ∧ lookB H.bs 1 = some (.ints s.h) ∧ lookB H.bs 2 = some (.cells false s.boxL) ∧
  A.tm.length = 40 ∧ A.marks = [] ∧ getT A.tm 1 = .pointer (some ⟨2, 0, none⟩) ∧ getT A.tm 4 = .int .i64 (i : Int) ∧ Has H (getT A.tm 3) l
def Q36 (s : SV) (z : AX) (A' : AF) (H : AH) : Prop := z = .exit 0 ∧ A'.tm.length = 40 ∧ A'.marks = [] ∧ Has H (getT A'.tm 3) s.orphs

theorem kinds_bounds (s : SV) : 0 ≤ s.kinds ∧ s.kinds ≤ 34 := by
  unfold SV.kinds
  split
  · rename_i h
    obtain ⟨a, b, _⟩ := plain_small (small_of_err h)
    exact ⟨a, b⟩
  · omega

set_option maxRecDepth 10000 in
set_option maxHeartbeats 8000000 in
theorem rorph_ev (call : Value → List Value → AH → Option (Value × AH)) (s : SV)
    (h20 : ∀ (H : AH), lookB H.bs 0 = some (.ints s.g) → lookB H.bs 1 = some (.ints s.h) → call (.func (.func 20) #[] #[]) [s.val] H = some (.int .i64 s.kinds, H))
    (h27 : ∀ (k : Int) (H : AH), lookB H.bs 0 = some (.ints s.g) → lookB H.bs 1 = some (.ints s.h) → call (.func (.func 27) #[] #[]) [s.val, .int .i64 k] H = some (placeT (s.find k), H)) :
    ∃ b H', evFn (tabT Try.prog) call 300 kpT 36 Try.f36 [s.val] s.hp = some (lstV b s.orphs, H') ∧ (s.orphs ≠ [] → lookB H'.bs b = some (.cells false (intsV s.orphs))) := by
  obtain ⟨kb0, kb1⟩ := kinds_bounds s
  simp only [SV.val] at h20 h27
  simp only [evFn, Try.f36, SV.val, SV.hp]
  simp [ec_skip, ec_label, ek_reg, ek_draw, ek_seq, ec_cond, ek_block, ec_loop, ec_exit, ec_ret, ek_nil, ek_op, opK_some, regK_some, seqK_normal, seqK_exit, seqK_ret, blockK_normal, blockK_exit, blockK_ret, evOp, vOp, hOp, aWanted, aY, boolOf, opd, putT, closedV, undef, aBin, intOp, sameK, mapO, joinR, hasAddr, pushB, aAlloc, Value.cells, T3, T4, T22, FA24_0, FA24_1, FA24_2, FA24_3, FA24_4, FA24_5, FA24_6, FA24_7, FA24_8, LD3, LD4, LD22, LD27, LDr, LD24, LEN22, IA22, cellAt, lookB, Nat.beq_eq, takeCells, getT, setT, getT_set, setT_length]
  generalize hr : evLoop _ _ _ _ = r
  obtain ⟨z, A', H', rfl, rfl, hl, hmk, hhas⟩ := loop_go (Q := Q36 s) hr (I36 s) s.kinds.toNat (by omega) ⟨0, [], by omega, rfl, by simp, by simp, rfl, rfl, rfl, rfl, rfl, rfl, rfl, 0, rfl, fun h => absurd rfl h⟩ (by
      clear hr
      rintro m A ⟨nx, bs⟩ ⟨i, l, him, hres, hll, h3n, b0, b1, b2, hl, hmk, h1, h4, hhas⟩
      simp only [SV.boxL] at b2
      simp only at h3n b0 b1 b2
      generalize h3 : getT A.tm 3 = v3 at hhas
      simp only [runC]
      cases m with
      | zero =>
        have hi : ¬ (i : Int) < s.kinds := by omega
        simp only [orphL, List.append_nil] at hres
        subst hres
        simp [ec_skip, ec_label, ek_reg, ek_draw, ek_seq, ec_cond, ek_block, ec_loop, ec_exit, ec_ret, ek_nil, ek_op, opK_some, regK_some, seqK_normal, seqK_exit, seqK_ret, blockK_normal, blockK_exit, blockK_ret, evOp, vOp, hOp, aWanted, aY, boolOf, opd, putT, closedV, undef, aBin, intOp, sameK, mapO, joinR, hasAddr, pushB, aAlloc, Value.cells, T3, T4, T22, FA24_0, FA24_1, FA24_2, FA24_3, FA24_4, FA24_5, FA24_6, FA24_7, FA24_8, LD3, LD4, LD22, LD27, LDr, LD24, LEN22, IA22, cellAt, lookB, Nat.beq_eq, takeCells, getT_set, setT_length, hl, hmk, h1, h4, h3, b0, b1, b2, hi, h20]
        exact .inr ⟨by simp, rfl, by simp [setT_length, hl], by simp [hmk], by simp [getT_set, setT_length, hl, h3, hhas]⟩
      | succ m =>
        have hi : (i : Int) < s.kinds := by omega
        have hw : wrapI .i64 ((i : Int) + 1) = ((i + 1 : Nat) : Int) := by rw [wrapI_small (by omega) (by omega)]; rfl
        simp only [orphL] at hres
        cases hx : s.find i with
        | none =>
          have hp : s.orph i = true := by simp [SV.orph, hx]
          rw [if_pos hp] at hres
          have h27 := h27 i
          rw [hx] at h27
          simp only [placeT] at h27
          · obtain ⟨v', bs', happ, hhas', hlow⟩ := app_has hhas (by omega) h3n (i : Int)
            simp [ec_skip, ec_label, ek_reg, ek_draw, ek_seq, ec_cond, ek_block, ec_loop, ec_exit, ec_ret, ek_nil, ek_op, opK_some, regK_some, seqK_normal, seqK_exit, seqK_ret, blockK_normal, blockK_exit, blockK_ret, evOp, vOp, hOp, aWanted, aY, boolOf, opd, putT, closedV, undef, aBin, intOp, sameK, mapO, joinR, hasAddr, pushB, aAlloc, Value.cells, T3, T4, T22, FA24_0, FA24_1, FA24_2, FA24_3, FA24_4, FA24_5, FA24_6, FA24_7, FA24_8, LD3, LD4, LD22, LD27, LDr, LD24, LEN22, IA22, cellAt, lookB, Nat.beq_eq, takeCells, getT_set, setT_length, hl, hmk, h1, h4, h3, b0, b1, b2, hi, h20, h27, BS22, partsO, happ]
            refine .inl ⟨rfl, m, rfl, i + 1, l ++ [(i : Int)], by omega, by rw [List.append_assoc]; exact hres, by simp; omega, by simp; omega, by rw [hlow 0 (by omega)]; exact b0, by rw [hlow 1 (by omega)]; exact b1, by rw [hlow 2 (by omega)]; exact b2, ?_⟩
            simp [getT_set, setT_length, hl, h1, h4, hw, hhas']

        | some x =>
          obtain ⟨su, rr, q⟩ := x
          obtain ⟨hq, q9, k42, rk, hsu⟩ := find_many hx
          obtain ⟨_, _, r0, rq, hsu2⟩ := find_spec hx
          have h27 := h27 i
          rw [hx] at h27
          simp only [placeT] at h27
          by_cases c1 : su < 0
          · have hp : s.orph i = true := by simp [SV.orph, hx, c1]
            rw [if_pos hp] at hres
            obtain ⟨v', bs', happ, hhas', hlow⟩ := app_has hhas (by omega) h3n (i : Int)
            simp [ec_skip, ec_label, ek_reg, ek_draw, ek_seq, ec_cond, ek_block, ec_loop, ec_exit, ec_ret, ek_nil, ek_op, opK_some, regK_some, seqK_normal, seqK_exit, seqK_ret, blockK_normal, blockK_exit, blockK_ret, evOp, vOp, hOp, aWanted, aY, boolOf, opd, putT, closedV, undef, aBin, intOp, sameK, mapO, joinR, hasAddr, pushB, aAlloc, Value.cells, T3, T4, T22, FA24_0, FA24_1, FA24_2, FA24_3, FA24_4, FA24_5, FA24_6, FA24_7, FA24_8, LD3, LD4, LD22, LD27, LDr, LD24, LEN22, IA22, cellAt, lookB, Nat.beq_eq, takeCells, getT_set, setT_length, hl, hmk, h1, h4, h3, b0, b1, b2, hi, h20, h27, BS22, partsO, happ, c1]
            refine .inl ⟨rfl, m, rfl, i + 1, l ++ [(i : Int)], by omega, by rw [List.append_assoc]; exact hres, by simp; omega, by simp; omega, by rw [hlow 0 (by omega)]; exact b0, by rw [hlow 1 (by omega)]; exact b1, by rw [hlow 2 (by omega)]; exact b2, ?_⟩
            simp [getT_set, setT_length, hl, h1, h4, hw, hhas']

          by_cases c2 : rr = 0
          · have hp : s.orph i = true := by simp [SV.orph, hx, c2]
            rw [if_pos hp] at hres
            obtain ⟨v', bs', happ, hhas', hlow⟩ := app_has hhas (by omega) h3n (i : Int)
            simp [ec_skip, ec_label, ek_reg, ek_draw, ek_seq, ec_cond, ek_block, ec_loop, ec_exit, ec_ret, ek_nil, ek_op, opK_some, regK_some, seqK_normal, seqK_exit, seqK_ret, blockK_normal, blockK_exit, blockK_ret, evOp, vOp, hOp, aWanted, aY, boolOf, opd, putT, closedV, undef, aBin, intOp, sameK, mapO, joinR, hasAddr, pushB, aAlloc, Value.cells, T3, T4, T22, FA24_0, FA24_1, FA24_2, FA24_3, FA24_4, FA24_5, FA24_6, FA24_7, FA24_8, LD3, LD4, LD22, LD27, LDr, LD24, LEN22, IA22, cellAt, lookB, Nat.beq_eq, takeCells, getT_set, setT_length, hl, hmk, h1, h4, h3, b0, b1, b2, hi, h20, h27, BS22, partsO, happ, c1, c2]
            refine .inl ⟨rfl, m, rfl, i + 1, l ++ [(i : Int)], by omega, by rw [List.append_assoc]; exact hres, by simp; omega, by simp; omega, by rw [hlow 0 (by omega)]; exact b0, by rw [hlow 1 (by omega)]; exact b1, by rw [hlow 2 (by omega)]; exact b2, ?_⟩
            simp [getT_set, setT_length, hl, h1, h4, hw, hhas']

          have hsu3 : ∃ j : Nat, j < s.n ∧ su = j ∧ q = s.g j := by
            rcases hsu2 with h | h
            · omega
            · exact h
          clear hsu hsu2
          obtain ⟨j, hj, rfl, rfl⟩ := hsu3
          have w1 : wrapI .i64 (s.g j - 1) = s.g j - 1 := wrapI_small (by omega) (by omega)
          have c2' : (rr == 0) = false := by simpa using c2
          by_cases c3 : rr = s.g j - 1
          · have hp : s.orph i = true := by simp [SV.orph, hx, c3]
            have c3' : (rr == s.g j - 1) = true := by simpa using c3
            rw [if_pos hp] at hres
            obtain ⟨v', bs', happ, hhas', hlow⟩ := app_has hhas (by omega) h3n (i : Int)
            simp [ec_skip, ec_label, ek_reg, ek_draw, ek_seq, ec_cond, ek_block, ec_loop, ec_exit, ec_ret, ek_nil, ek_op, opK_some, regK_some, seqK_normal, seqK_exit, seqK_ret, blockK_normal, blockK_exit, blockK_ret, evOp, vOp, hOp, aWanted, aY, boolOf, opd, putT, closedV, undef, aBin, intOp, sameK, mapO, joinR, hasAddr, pushB, aAlloc, Value.cells, T3, T4, T22, FA24_0, FA24_1, FA24_2, FA24_3, FA24_4, FA24_5, FA24_6, FA24_7, FA24_8, LD3, LD4, LD22, LD27, LDr, LD24, LEN22, IA22, cellAt, lookB, Nat.beq_eq, takeCells, getT_set, setT_length, hl, hmk, h1, h4, h3, b0, b1, b2, hi, h20, h27, BS22, partsO, happ, c1, c2, c2', c3', hj, w1]
            refine .inl ⟨rfl, m, rfl, i + 1, l ++ [(i : Int)], by omega, by rw [List.append_assoc]; exact hres, by simp; omega, by simp; omega, by rw [hlow 0 (by omega)]; exact b0, by rw [hlow 1 (by omega)]; exact b1, by rw [hlow 2 (by omega)]; exact b2, ?_⟩
            simp [getT_set, setT_length, hl, h1, h4, hw, hhas']

          · have hp : s.orph i = false := by simp [SV.orph, hx, c1, c2, c3]
            have c3' : (rr == s.g j - 1) = false := by simpa using c3
            rw [hp, if_neg (by simp)] at hres
            simp [ec_skip, ec_label, ek_reg, ek_draw, ek_seq, ec_cond, ek_block, ec_loop, ec_exit, ec_ret, ek_nil, ek_op, opK_some, regK_some, seqK_normal, seqK_exit, seqK_ret, blockK_normal, blockK_exit, blockK_ret, evOp, vOp, hOp, aWanted, aY, boolOf, opd, putT, closedV, undef, aBin, intOp, sameK, mapO, joinR, hasAddr, pushB, aAlloc, Value.cells, T3, T4, T22, FA24_0, FA24_1, FA24_2, FA24_3, FA24_4, FA24_5, FA24_6, FA24_7, FA24_8, LD3, LD4, LD22, LD27, LDr, LD24, LEN22, IA22, cellAt, lookB, Nat.beq_eq, takeCells, getT_set, setT_length, hl, hmk, h1, h4, h3, b0, b1, b2, hi, h20, h27, c1, c2, c2', c3, c3', hj, w1]
            refine .inl ⟨rfl, m, rfl, i + 1, l, by omega, hres, by omega, by simpa using h3n, by exact b0, by exact b1, by exact b2, ?_⟩
            simp [getT_set, setT_length, hl, h1, h4, h3, hw, hhas])
  obtain ⟨b, hv, hb⟩ := hhas
  obtain ⟨nx, bs⟩ := H'
  refine ⟨b, ?_⟩
  cases ho : s.orphs with
  | nil =>
    rw [ho] at hv
    simp only [lstV] at hv
    simp [ec_skip, ec_label, ek_reg, ek_draw, ek_seq, ec_cond, ek_block, ec_loop, ec_exit, ec_ret, ek_nil, ek_op, opK_some, regK_some, seqK_normal, seqK_exit, seqK_ret, blockK_normal, blockK_exit, blockK_ret, evOp, vOp, hOp, aWanted, aY, boolOf, opd, putT, closedV, undef, aBin, intOp, sameK, mapO, joinR, hasAddr, pushB, aAlloc, Value.cells, T3, T4, T22, FA24_0, FA24_1, FA24_2, FA24_3, FA24_4, FA24_5, FA24_6, FA24_7, FA24_8, LD3, LD4, LD22, LD27, LDr, LD24, LEN22, IA22, cellAt, lookB, Nat.beq_eq, takeCells, finF, takeM, resV, getT_set, setT_length, hl, hmk, hv, cleaned, kpT, lstV]
  | cons a t =>
    rw [ho] at hv hb
    obtain ⟨b3, bn, hbl⟩ := hb (by simp)
    simp only [lstV] at hv
    simp [ec_skip, ec_label, ek_reg, ek_draw, ek_seq, ec_cond, ek_block, ec_loop, ec_exit, ec_ret, ek_nil, ek_op, opK_some, regK_some, seqK_normal, seqK_exit, seqK_ret, blockK_normal, blockK_exit, blockK_ret, evOp, vOp, hOp, aWanted, aY, boolOf, opd, putT, closedV, undef, aBin, intOp, sameK, mapO, joinR, hasAddr, pushB, aAlloc, Value.cells, T3, T4, T22, FA24_0, FA24_1, FA24_2, FA24_3, FA24_4, FA24_5, FA24_6, FA24_7, FA24_8, LD3, LD4, LD22, LD27, LDr, LD24, LEN22, IA22, cellAt, lookB, Nat.beq_eq, takeCells, finF, takeM, resV, getT_set, setT_length, hl, hmk, hv, cleaned, kpT, lstV, hasAddr]
    exact hbl

end Go.Proofs.Ytkoppbbmdjhaoaa
