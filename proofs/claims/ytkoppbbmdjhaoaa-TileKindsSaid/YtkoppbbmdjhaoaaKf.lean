/-
  What is proved: what tile.Place, and both Runs and After, answer for every set and every number.
-/
import Derived.Test.YtkoppbbmdjhaoaaJi
namespace Go.Proofs.Ytkoppbbmdjhaoaa
open Go.RowKit
set_option linter.unusedSimpArgs false

theorem F26 : tabF Try.prog 26 = some Try.f26 := by kernel_rfl
theorem F32 : tabF Try.prog 32 = some Try.f32 := by kernel_rfl
theorem F33 : tabF Try.prog 33 = some Try.f33 := by kernel_rfl
theorem F37 : tabF Try.prog 37 = some Try.f37 := by kernel_rfl
theorem F38 : tabF Try.prog 38 = some Try.f38 := by kernel_rfl
theorem F88 : tabF Try.prog 88 = some Try.f88 := by kernel_rfl

/-- What both Runs answer. -/
def SV.runs (s : SV) (kind : Int) : Bool :=
  match s.find kind with
  | none => false
  | some (su, r, q) => decide (0 ≤ su) && decide (wrapI .i64 (r + 2) < q)

/-- What both After answer. -/
def SV.aft (s : SV) (kind : Int) : Int :=
  match s.find kind with
  | none => -1
  | some (_, r, q) => if r = q - 1 then kind - r else kind + 1

/-- How many kinds a row has, by the row's number. -/
def SV.many (s : SV) (su : Int) : Int := if su = -1 then s.w else if su = -2 then s.d else if su = -3 then s.f else s.g su.toNat

/-- What a found place is like, row by row. -/
theorem find_many {s : SV} {kind su r q : Int} (h : s.find kind = some (su, r, q)) : q = s.many su ∧ q ≤ 9 ∧ kind ≤ 42 ∧ r ≤ kind ∧ ((su = -1 ∨ su = -2 ∨ su = -3) ∨ ∃ i : Nat, i < s.n ∧ su = i) := by
  obtain ⟨he, r0, rq, k0, -⟩ := find_spec h
  have hs := small_of_err he
  obtain ⟨p0, p1, _⟩ := plain_small hs
  have hk : kind ≤ 42 := by
    have hff := hs.f
    by_cases c : s.plain + s.f ≤ kind
    · rw [find_none (.inr fun _ => c)] at h; cases h
    · omega
  have hrk : ∀ (l : List (Int × Nat)) (c su r q : Int), 0 ≤ c → findRows l c kind = some (su, r, q) → r ≤ kind := by
    intro l
    induction l with
    | nil => intro c su r q _ h; cases h
    | cons a l ih =>
      obtain ⟨su', q'⟩ := a
      intro c su r q hc h
      simp only [findRows] at h
      split at h
      · cases h; omega
      · exact ih _ _ _ _ (by omega) h
  unfold SV.find at h
  rw [if_pos he] at h
  have hr := hrk _ 0 _ _ _ (Int.le_refl _) h
  obtain ⟨q', h1, h2, _, _, _⟩ := findRows_spec _ _ _ _ _ _ h
  unfold SV.rows at h1
  obtain ⟨w1, w2⟩ := hs.w
  obtain ⟨d1, d2⟩ := hs.d
  obtain ⟨f1, f2⟩ := hs.f
  rcases List.mem_append.1 h1 with h1 | h1
  · obtain ⟨j, j1, j2, j3, j4⟩ := suitRows_mem _ _ _ _ h1
    have := hs.g j (by omega)
    have e : s.many su = s.g j := by
      subst j3
      unfold SV.many
      rw [if_neg (by omega), if_neg (by omega), if_neg (by omega)]
      rfl
    exact ⟨by omega, by omega, hk, hr, .inr ⟨j, by omega, j3⟩⟩
  · simp only [SV.tail, List.mem_cons, Prod.mk.injEq, List.not_mem_nil, or_false] at h1
    rcases h1 with ⟨rfl, e⟩ | ⟨rfl, e⟩ | ⟨rfl, e⟩
    · exact ⟨by simp [SV.many]; omega, by omega, hk, hr, .inl (.inl rfl)⟩
    · exact ⟨by simp [SV.many]; omega, by omega, hk, hr, .inl (.inr (.inl rfl))⟩
    · exact ⟨by simp [SV.many]; omega, by omega, hk, hr, .inl (.inr (.inr rfl))⟩

def P26 (s : SV) (su r q : Int) (x : List DR × Nat) : Prop := x.2 = 4 ∧ wheap ((3, .cells false [.int .i64 su, .int .i64 r, .int .i64 q]) :: s.bx.bs) x.1 = (3, .cells false [.int .i64 su, .int .i64 r, .int .i64 q]) :: s.bx.bs ∧ ∀ tm, tv tm all1 x.1 4 = .int .i64 su ∧ tv tm all1 x.1 5 = .int .i64 r
def P37 (s : SV) (su r q v : Int) (x : List DR × Nat) : Prop := x.2 = 4 ∧ wheap ((3, .cells false [.int .i64 su, .int .i64 r, .int .i64 q]) :: s.bx.bs) x.1 = (3, .cells false [.int .i64 su, .int .i64 r, .int .i64 q]) :: s.bx.bs ∧ ∀ tm, tv tm all1 x.1 4 = .int .i64 v

set_option maxRecDepth 10000 in
set_option maxHeartbeats 8000000 in
theorem place_ev (call : Value → List Value → AH → Option (Value × AH)) (s : SV) (kind : Int) (hf : ∀ (H : AH), lookB H.bs 0 = some (.ints s.g) → lookB H.bs 1 = some (.ints s.h) → call (.func (.func 84) #[] #[]) [s.val, .int .i64 kind] H = some (findV (s.find kind), H)) :
    ∃ H', evFn (tabT Try.prog) call 300 kpT 26 Try.f26 [s.val, .int .i64 kind] s.hp = some (placeT (s.find kind), H') := by
  obtain ⟨_, _, hd80, t80⟩ := T80
  cases hx : s.find kind with
  | none =>
    rw [hx] at hf
    simp only [SV.val, findV, placeV] at hf
    simp only [evFn, Try.f26, SV.val, SV.hp, placeT]
    simp [ec_skip, ec_label, ek_reg, ek_draw, ek_seq, ec_cond, ek_block, ec_loop, ec_exit, ec_ret, ek_nil, ek_op, opK_some, regK_some, seqK_normal, seqK_exit, seqK_ret, blockK_normal, blockK_exit, blockK_ret, evOp, vOp, hOp, aWanted, aY, boolOf, opd, putT, closedV, undef, aBin, intOp, sameK, mapO, joinR, hasAddr, pushB, aAlloc, Value.cells, T3, T4, T22, FA24_0, FA24_1, FA24_2, FA24_3, FA24_4, FA24_5, FA24_6, FA24_7, FA24_8, LD3, LD4, LD22, LD27, LDr, LD24, LEN22, IA22, cellAt, lookB, Nat.beq_eq, takeCells, finF, takeM, resV, getT_set, setT_length, getT, setT, t80, hf, ST80, setB, putCells, FA80_0, FA80_1, FA80_2]
  | some x =>
    obtain ⟨su, r, q⟩ := x
    rw [hx] at hf
    simp only [SV.val, findV, placeV] at hf
    simp only [evFn, Try.f26, SV.val, SV.hp, placeT]
    simp [ec_skip, ec_label, ek_reg, ek_draw, ek_seq, ec_cond, ek_block, ec_loop, ec_exit, ec_ret, ek_nil, ek_op, opK_some, regK_some, seqK_normal, seqK_exit, seqK_ret, blockK_normal, blockK_exit, blockK_ret, evOp, vOp, hOp, aWanted, aY, boolOf, opd, putT, closedV, undef, aBin, intOp, sameK, mapO, joinR, hasAddr, pushB, aAlloc, Value.cells, T3, T4, T22, FA24_0, FA24_1, FA24_2, FA24_3, FA24_4, FA24_5, FA24_6, FA24_7, FA24_8, LD3, LD4, LD22, LD27, LDr, LD24, LEN22, IA22, cellAt, lookB, Nat.beq_eq, takeCells, finF, takeM, resV, getT_set, setT_length, getT, setT, t80, hf, ST80, setB, putCells, FA80_0, FA80_1, FA80_2]
    generalize hX : evDraw _ _ _ _ _ = X
    obtain ⟨⟨rs, nx⟩, rfl, hnx, hwh, htv⟩ := evDraw_ex (Pq := P26 s su r q) hX (by kernel_rfl) (by simp [decrK]) (by
      clear hX
      generalize befs _ = M
      simp [mapO, drRun, drOp, looks, guardT, tmpsOf, Op.operands, Call.operands, wantedR, gOf, natMem, tv, all1, roB, news, newOnes, decr, evOp, vOp, hOp, opd, closedV, undef, aBin, intOp, sameK, opdO, FA24_0, FA24_1, FA24_2, FA24_3, FA24_4, FA24_5, FA24_8, LD3, LD22, LD24, LDr, IA22, cellAt, lookB, Nat.beq_eq, T3, T4, T22, takeCells, getT, FA80_0, FA80_1, FA80_2]
      exact ⟨by simp [dynOK, b02, b12], rfl, by simp [SV.bx, wheap, news], fun tm => by simp [tv, all1]⟩)
    simp [ec_skip, ec_label, ek_reg, ek_draw, ek_seq, ec_cond, ek_block, ec_loop, ec_exit, ec_ret, ek_nil, ek_op, opK_some, regK_some, seqK_normal, seqK_exit, seqK_ret, blockK_normal, blockK_exit, blockK_ret, evOp, vOp, hOp, aWanted, aY, boolOf, opd, putT, closedV, undef, aBin, intOp, sameK, mapO, joinR, hasAddr, pushB, aAlloc, Value.cells, T3, T4, T22, FA24_0, FA24_1, FA24_2, FA24_3, FA24_4, FA24_5, FA24_6, FA24_7, FA24_8, LD3, LD4, LD22, LD27, LDr, LD24, LEN22, IA22, cellAt, lookB, Nat.beq_eq, takeCells, finF, takeM, resV, getT_set, setT_length, getT, setT, getT_fin, fin_length, htv]

set_option maxRecDepth 10000 in
set_option maxHeartbeats 8000000 in
theorem runs_ev (call : Value → List Value → AH → Option (Value × AH)) (s : SV) (kind : Int) (hf : ∀ (H : AH), lookB H.bs 0 = some (.ints s.g) → lookB H.bs 1 = some (.ints s.h) → call (.func (.func 84) #[] #[]) [s.val, .int .i64 kind] H = some (findV (s.find kind), H)) :
    ∃ H', evFn (tabT Try.prog) call 300 kpT 32 Try.f32 [s.val, .int .i64 kind] s.hp = some (.bool (s.runs kind), H') := by
  obtain ⟨_, _, hd80, t80⟩ := T80
  unfold SV.runs
  cases hx : s.find kind with
  | none =>
    rw [hx] at hf
    simp only [SV.val, findV, placeV] at hf
    simp only [evFn, Try.f32, SV.val, SV.hp]
    simp [ec_skip, ec_label, ek_reg, ek_draw, ek_seq, ec_cond, ek_block, ec_loop, ec_exit, ec_ret, ek_nil, ek_op, opK_some, regK_some, seqK_normal, seqK_exit, seqK_ret, blockK_normal, blockK_exit, blockK_ret, evOp, vOp, hOp, aWanted, aY, boolOf, opd, putT, closedV, undef, aBin, intOp, sameK, mapO, joinR, hasAddr, pushB, aAlloc, Value.cells, T3, T4, T22, FA24_0, FA24_1, FA24_2, FA24_3, FA24_4, FA24_5, FA24_6, FA24_7, FA24_8, LD3, LD4, LD22, LD27, LDr, LD24, LEN22, IA22, cellAt, lookB, Nat.beq_eq, takeCells, finF, takeM, resV, getT_set, setT_length, getT, setT, t80, hf, ST80, setB, putCells, FA80_0, FA80_1, FA80_2]
  | some x =>
    obtain ⟨su, r, q⟩ := x
    rw [hx] at hf
    simp only [SV.val, findV, placeV] at hf
    simp only [evFn, Try.f32, SV.val, SV.hp]
    by_cases c1 : 0 ≤ su
    · simp [ec_skip, ec_label, ek_reg, ek_draw, ek_seq, ec_cond, ek_block, ec_loop, ec_exit, ec_ret, ek_nil, ek_op, opK_some, regK_some, seqK_normal, seqK_exit, seqK_ret, blockK_normal, blockK_exit, blockK_ret, evOp, vOp, hOp, aWanted, aY, boolOf, opd, putT, closedV, undef, aBin, intOp, sameK, mapO, joinR, hasAddr, pushB, aAlloc, Value.cells, T3, T4, T22, FA24_0, FA24_1, FA24_2, FA24_3, FA24_4, FA24_5, FA24_6, FA24_7, FA24_8, LD3, LD4, LD22, LD27, LDr, LD24, LEN22, IA22, cellAt, lookB, Nat.beq_eq, takeCells, finF, takeM, resV, getT_set, setT_length, getT, setT, t80, hf, ST80, setB, putCells, FA80_0, FA80_1, FA80_2, c1]
    · simp [ec_skip, ec_label, ek_reg, ek_draw, ek_seq, ec_cond, ek_block, ec_loop, ec_exit, ec_ret, ek_nil, ek_op, opK_some, regK_some, seqK_normal, seqK_exit, seqK_ret, blockK_normal, blockK_exit, blockK_ret, evOp, vOp, hOp, aWanted, aY, boolOf, opd, putT, closedV, undef, aBin, intOp, sameK, mapO, joinR, hasAddr, pushB, aAlloc, Value.cells, T3, T4, T22, FA24_0, FA24_1, FA24_2, FA24_3, FA24_4, FA24_5, FA24_6, FA24_7, FA24_8, LD3, LD4, LD22, LD27, LDr, LD24, LEN22, IA22, cellAt, lookB, Nat.beq_eq, takeCells, finF, takeM, resV, getT_set, setT_length, getT, setT, t80, hf, ST80, setB, putCells, FA80_0, FA80_1, FA80_2, c1]

set_option maxRecDepth 10000 in
set_option maxHeartbeats 8000000 in
theorem rruns_ev (call : Value → List Value → AH → Option (Value × AH)) (s : SV) (kind : Int) (hf : ∀ (H : AH), lookB H.bs 0 = some (.ints s.g) → lookB H.bs 1 = some (.ints s.h) → call (.func (.func 27) #[] #[]) [s.val, .int .i64 kind] H = some (placeT (s.find kind), H)) :
    ∃ H', evFn (tabT Try.prog) call 300 kpT 33 Try.f33 [s.val, .int .i64 kind] s.hp = some (.bool (s.runs kind), H') := by
  unfold SV.runs
  cases hx : s.find kind with
  | none =>
    rw [hx] at hf
    simp only [SV.val, placeT] at hf
    simp only [evFn, Try.f33, SV.val, SV.hp]
    simp [ec_skip, ec_label, ek_reg, ek_draw, ek_seq, ec_cond, ek_block, ec_loop, ec_exit, ec_ret, ek_nil, ek_op, opK_some, regK_some, seqK_normal, seqK_exit, seqK_ret, blockK_normal, blockK_exit, blockK_ret, evOp, vOp, hOp, aWanted, aY, boolOf, opd, putT, closedV, undef, aBin, intOp, sameK, mapO, joinR, hasAddr, pushB, aAlloc, Value.cells, T3, T4, T22, FA24_0, FA24_1, FA24_2, FA24_3, FA24_4, FA24_5, FA24_6, FA24_7, FA24_8, LD3, LD4, LD22, LD27, LDr, LD24, LEN22, IA22, cellAt, lookB, Nat.beq_eq, takeCells, finF, takeM, resV, getT_set, setT_length, getT, setT, hf]
  | some x =>
    obtain ⟨su, r, q⟩ := x
    obtain ⟨_, _, _, _, hsu⟩ := find_spec hx
    rw [hx] at hf
    simp only [SV.val, placeT] at hf
    simp only [evFn, Try.f33, SV.val, SV.hp]
    rcases hsu with hsu | ⟨i, hi, rfl, rfl⟩
    · have c1 : ¬ 0 ≤ su := by omega
      simp [ec_skip, ec_label, ek_reg, ek_draw, ek_seq, ec_cond, ek_block, ec_loop, ec_exit, ec_ret, ek_nil, ek_op, opK_some, regK_some, seqK_normal, seqK_exit, seqK_ret, blockK_normal, blockK_exit, blockK_ret, evOp, vOp, hOp, aWanted, aY, boolOf, opd, putT, closedV, undef, aBin, intOp, sameK, mapO, joinR, hasAddr, pushB, aAlloc, Value.cells, T3, T4, T22, FA24_0, FA24_1, FA24_2, FA24_3, FA24_4, FA24_5, FA24_6, FA24_7, FA24_8, LD3, LD4, LD22, LD27, LDr, LD24, LEN22, IA22, cellAt, lookB, Nat.beq_eq, takeCells, finF, takeM, resV, getT_set, setT_length, getT, setT, hf, c1]
    · have c1 : 0 ≤ (i : Int) := by omega
      simp [ec_skip, ec_label, ek_reg, ek_draw, ek_seq, ec_cond, ek_block, ec_loop, ec_exit, ec_ret, ek_nil, ek_op, opK_some, regK_some, seqK_normal, seqK_exit, seqK_ret, blockK_normal, blockK_exit, blockK_ret, evOp, vOp, hOp, aWanted, aY, boolOf, opd, putT, closedV, undef, aBin, intOp, sameK, mapO, joinR, hasAddr, pushB, aAlloc, Value.cells, T3, T4, T22, FA24_0, FA24_1, FA24_2, FA24_3, FA24_4, FA24_5, FA24_6, FA24_7, FA24_8, LD3, LD4, LD22, LD27, LDr, LD24, LEN22, IA22, cellAt, lookB, Nat.beq_eq, takeCells, finF, takeM, resV, getT_set, setT_length, getT, setT, hf, c1, hi]

set_option maxRecDepth 10000 in
set_option maxHeartbeats 8000000 in
theorem many_ev (call : Value → List Value → AH → Option (Value × AH)) (s : SV) (su : Int) (h : (su = -1 ∨ su = -2 ∨ su = -3) ∨ ∃ i : Nat, i < s.n ∧ su = i) :
    ∃ H', evFn (tabT Try.prog) call 300 kpT 88 Try.f88 [s.val, .int .i64 su] s.hp = some (.int .i64 (s.many su), H') := by
  rcases h with (rfl | rfl | rfl) | ⟨i, hi, rfl⟩
  · simp only [evFn, Try.f88, SV.val, SV.hp, SV.many]
    simp [ec_skip, ec_label, ek_reg, ek_draw, ek_seq, ec_cond, ek_block, ec_loop, ec_exit, ec_ret, ek_nil, ek_op, opK_some, regK_some, seqK_normal, seqK_exit, seqK_ret, blockK_normal, blockK_exit, blockK_ret, evOp, vOp, hOp, aWanted, aY, boolOf, opd, putT, closedV, undef, aBin, intOp, sameK, mapO, joinR, hasAddr, pushB, aAlloc, Value.cells, T3, T4, T22, FA24_0, FA24_1, FA24_2, FA24_3, FA24_4, FA24_5, FA24_6, FA24_7, FA24_8, LD3, LD4, LD22, LD27, LDr, LD24, LEN22, IA22, cellAt, lookB, Nat.beq_eq, takeCells, finF, takeM, resV, getT_set, setT_length, getT, setT]
  · simp only [evFn, Try.f88, SV.val, SV.hp, SV.many]
    simp [ec_skip, ec_label, ek_reg, ek_draw, ek_seq, ec_cond, ek_block, ec_loop, ec_exit, ec_ret, ek_nil, ek_op, opK_some, regK_some, seqK_normal, seqK_exit, seqK_ret, blockK_normal, blockK_exit, blockK_ret, evOp, vOp, hOp, aWanted, aY, boolOf, opd, putT, closedV, undef, aBin, intOp, sameK, mapO, joinR, hasAddr, pushB, aAlloc, Value.cells, T3, T4, T22, FA24_0, FA24_1, FA24_2, FA24_3, FA24_4, FA24_5, FA24_6, FA24_7, FA24_8, LD3, LD4, LD22, LD27, LDr, LD24, LEN22, IA22, cellAt, lookB, Nat.beq_eq, takeCells, finF, takeM, resV, getT_set, setT_length, getT, setT]
  · simp only [evFn, Try.f88, SV.val, SV.hp, SV.many]
    simp [ec_skip, ec_label, ek_reg, ek_draw, ek_seq, ec_cond, ek_block, ec_loop, ec_exit, ec_ret, ek_nil, ek_op, opK_some, regK_some, seqK_normal, seqK_exit, seqK_ret, blockK_normal, blockK_exit, blockK_ret, evOp, vOp, hOp, aWanted, aY, boolOf, opd, putT, closedV, undef, aBin, intOp, sameK, mapO, joinR, hasAddr, pushB, aAlloc, Value.cells, T3, T4, T22, FA24_0, FA24_1, FA24_2, FA24_3, FA24_4, FA24_5, FA24_6, FA24_7, FA24_8, LD3, LD4, LD22, LD27, LDr, LD24, LEN22, IA22, cellAt, lookB, Nat.beq_eq, takeCells, finF, takeM, resV, getT_set, setT_length, getT, setT]
  · have e : s.many (i : Int) = s.g i := by
      unfold SV.many
      rw [if_neg (by omega), if_neg (by omega), if_neg (by omega)]
      rfl
    rw [e]
    have c1 : ((i : Int) == -1) = false := by simp only [beq_eq_false_iff_ne]; omega
    have c2 : ((i : Int) == -2) = false := by simp only [beq_eq_false_iff_ne]; omega
    have c3 : ((i : Int) == -3) = false := by simp only [beq_eq_false_iff_ne]; omega
    simp only [evFn, Try.f88, SV.val, SV.hp]
    simp [ec_skip, ec_label, ek_reg, ek_draw, ek_seq, ec_cond, ek_block, ec_loop, ec_exit, ec_ret, ek_nil, ek_op, opK_some, regK_some, seqK_normal, seqK_exit, seqK_ret, blockK_normal, blockK_exit, blockK_ret, evOp, vOp, hOp, aWanted, aY, boolOf, opd, putT, closedV, undef, aBin, intOp, sameK, mapO, joinR, hasAddr, pushB, aAlloc, Value.cells, T3, T4, T22, FA24_0, FA24_1, FA24_2, FA24_3, FA24_4, FA24_5, FA24_6, FA24_7, FA24_8, LD3, LD4, LD22, LD27, LDr, LD24, LEN22, IA22, cellAt, lookB, Nat.beq_eq, takeCells, finF, takeM, resV, getT_set, setT_length, getT, setT, c1, c2, c3, hi]

set_option maxRecDepth 10000 in
set_option maxHeartbeats 8000000 in
theorem after_ev (call : Value → List Value → AH → Option (Value × AH)) (s : SV) (kind : Int) (hf : ∀ (H : AH), lookB H.bs 0 = some (.ints s.g) → lookB H.bs 1 = some (.ints s.h) → call (.func (.func 84) #[] #[]) [s.val, .int .i64 kind] H = some (findV (s.find kind), H)) :
    ∃ H', evFn (tabT Try.prog) call 300 kpT 37 Try.f37 [s.val, .int .i64 kind] s.hp = some (.int .i64 (s.aft kind), H') := by
  obtain ⟨_, _, hd80, t80⟩ := T80
  unfold SV.aft
  cases hx : s.find kind with
  | none =>
    rw [hx] at hf
    simp only [SV.val, findV, placeV] at hf
    simp only [evFn, Try.f37, SV.val, SV.hp]
    simp [ec_skip, ec_label, ek_reg, ek_draw, ek_seq, ec_cond, ek_block, ec_loop, ec_exit, ec_ret, ek_nil, ek_op, opK_some, regK_some, seqK_normal, seqK_exit, seqK_ret, blockK_normal, blockK_exit, blockK_ret, evOp, vOp, hOp, aWanted, aY, boolOf, opd, putT, closedV, undef, aBin, intOp, sameK, mapO, joinR, hasAddr, pushB, aAlloc, Value.cells, T3, T4, T22, FA24_0, FA24_1, FA24_2, FA24_3, FA24_4, FA24_5, FA24_6, FA24_7, FA24_8, LD3, LD4, LD22, LD27, LDr, LD24, LEN22, IA22, cellAt, lookB, Nat.beq_eq, takeCells, finF, takeM, resV, getT_set, setT_length, getT, setT, t80, hf, ST80, setB, putCells, FA80_0, FA80_1, FA80_2]
  | some x =>
    obtain ⟨su, r, q⟩ := x
    obtain ⟨_, r0, rq, k0, _⟩ := find_spec hx
    obtain ⟨_, q9, k42, rk, _⟩ := find_many hx
    have hv : wrapI .i64 (wrapI .i64 (kind - r) + (wrapI .i64 (r + 1)).tmod q) = if r = q - 1 then kind - r else kind + 1 := by
      rw [wrapI_small (n := kind - r) (by omega) (by omega), wrapI_small (n := r + 1) (by omega) (by omega)]
      by_cases c : r = q - 1
      · rw [if_pos c, c]
        have e : q - 1 + 1 = q := by omega
        rw [e, Int.tmod_self, wrapI_small (by omega) (by omega)]
        omega
      · rw [if_neg c, Int.tmod_eq_of_lt (by omega) (by omega), wrapI_small (by omega) (by omega)]
        omega
    have q0 : ¬ q = 0 := by omega
    rw [hx] at hf
    simp only [SV.val, findV, placeV] at hf
    simp only [evFn, Try.f37, SV.val, SV.hp]
    rw [← hv]
    clear hv
    simp [ec_skip, ec_label, ek_reg, ek_draw, ek_seq, ec_cond, ek_block, ec_loop, ec_exit, ec_ret, ek_nil, ek_op, opK_some, regK_some, seqK_normal, seqK_exit, seqK_ret, blockK_normal, blockK_exit, blockK_ret, evOp, vOp, hOp, aWanted, aY, boolOf, opd, putT, closedV, undef, aBin, intOp, sameK, mapO, joinR, hasAddr, pushB, aAlloc, Value.cells, T3, T4, T22, FA24_0, FA24_1, FA24_2, FA24_3, FA24_4, FA24_5, FA24_6, FA24_7, FA24_8, LD3, LD4, LD22, LD27, LDr, LD24, LEN22, IA22, cellAt, lookB, Nat.beq_eq, takeCells, finF, takeM, resV, getT_set, setT_length, getT, setT, t80, hf, ST80, setB, putCells, FA80_0, FA80_1, FA80_2]
    generalize hX : evDraw _ _ _ _ _ = X
    obtain ⟨⟨rs, nx⟩, rfl, hnx, hwh, htv⟩ := evDraw_ex (Pq := P37 s su r q (wrapI .i64 (wrapI .i64 (kind - r) + (wrapI .i64 (r + 1)).tmod q))) hX (by kernel_rfl) (by simp [decrK]) (by
      clear hX
      generalize befs _ = M
      simp [mapO, drRun, drOp, looks, guardT, tmpsOf, Op.operands, Call.operands, wantedR, gOf, natMem, tv, all1, roB, news, newOnes, decr, evOp, vOp, hOp, opd, closedV, undef, aBin, intOp, sameK, opdO, FA24_0, FA24_1, FA24_2, FA24_3, FA24_4, FA24_5, FA24_8, LD3, LD22, LD24, LDr, IA22, cellAt, lookB, Nat.beq_eq, T3, T4, T22, takeCells, getT, FA80_0, FA80_1, FA80_2, q0]
      exact ⟨by simp [dynOK, b02, b12], rfl, by simp [SV.bx, wheap, news], fun tm => by simp [tv, all1]⟩)
    simp [ec_skip, ec_label, ek_reg, ek_draw, ek_seq, ec_cond, ek_block, ec_loop, ec_exit, ec_ret, ek_nil, ek_op, opK_some, regK_some, seqK_normal, seqK_exit, seqK_ret, blockK_normal, blockK_exit, blockK_ret, evOp, vOp, hOp, aWanted, aY, boolOf, opd, putT, closedV, undef, aBin, intOp, sameK, mapO, joinR, hasAddr, pushB, aAlloc, Value.cells, T3, T4, T22, FA24_0, FA24_1, FA24_2, FA24_3, FA24_4, FA24_5, FA24_6, FA24_7, FA24_8, LD3, LD4, LD22, LD27, LDr, LD24, LEN22, IA22, cellAt, lookB, Nat.beq_eq, takeCells, finF, takeM, resV, getT_set, setT_length, getT, setT, getT_fin, fin_length, htv]

set_option maxRecDepth 10000 in
set_option maxHeartbeats 8000000 in
theorem rafter_ev (call : Value → List Value → AH → Option (Value × AH)) (s : SV) (kind : Int) (hf : ∀ (H : AH), lookB H.bs 0 = some (.ints s.g) → lookB H.bs 1 = some (.ints s.h) → call (.func (.func 27) #[] #[]) [s.val, .int .i64 kind] H = some (placeT (s.find kind), H))
    (hm : ∀ (su : Int) (H : AH), ((su = -1 ∨ su = -2 ∨ su = -3) ∨ ∃ i : Nat, i < s.n ∧ su = i) → lookB H.bs 0 = some (.ints s.g) → lookB H.bs 1 = some (.ints s.h) → call (.func (.func 88) #[] #[]) [s.val, .int .i64 su] H = some (.int .i64 (s.many su), H)) :
    ∃ H', evFn (tabT Try.prog) call 300 kpT 38 Try.f38 [s.val, .int .i64 kind] s.hp = some (.int .i64 (s.aft kind), H') := by
  unfold SV.aft
  cases hx : s.find kind with
  | none =>
    rw [hx] at hf
    simp only [SV.val, placeT] at hf
    simp only [evFn, Try.f38, SV.val, SV.hp]
    simp [ec_skip, ec_label, ek_reg, ek_draw, ek_seq, ec_cond, ek_block, ec_loop, ec_exit, ec_ret, ek_nil, ek_op, opK_some, regK_some, seqK_normal, seqK_exit, seqK_ret, blockK_normal, blockK_exit, blockK_ret, evOp, vOp, hOp, aWanted, aY, boolOf, opd, putT, closedV, undef, aBin, intOp, sameK, mapO, joinR, hasAddr, pushB, aAlloc, Value.cells, T3, T4, T22, FA24_0, FA24_1, FA24_2, FA24_3, FA24_4, FA24_5, FA24_6, FA24_7, FA24_8, LD3, LD4, LD22, LD27, LDr, LD24, LEN22, IA22, cellAt, lookB, Nat.beq_eq, takeCells, finF, takeM, resV, getT_set, setT_length, getT, setT, hf]
  | some x =>
    obtain ⟨su, r, q⟩ := x
    obtain ⟨_, r0, rq, k0, _⟩ := find_spec hx
    obtain ⟨hq, q9, k42, rk, hsu⟩ := find_many hx
    have hm' := fun H => hm su H hsu
    rw [← hq] at hm'
    have c4 : (su == -4) = false := by simp only [beq_eq_false_iff_ne]; rcases hsu with h | ⟨i, _, rfl⟩ <;> omega
    have w1 : wrapI .i64 (q - 1) = q - 1 := wrapI_small (by omega) (by omega)
    have w2 : wrapI .i64 (kind - r) = kind - r := wrapI_small (by omega) (by omega)
    have w3 : wrapI .i64 (kind + 1) = kind + 1 := wrapI_small (by omega) (by omega)
    rw [hx] at hf
    simp only [SV.val, placeT] at hf hm'
    simp only [evFn, Try.f38, SV.val, SV.hp]
    by_cases c : r = q - 1
    · have c' : (r == q - 1) = true := by simpa using c
      rw [c] at w2
      simp [ec_skip, ec_label, ek_reg, ek_draw, ek_seq, ec_cond, ek_block, ec_loop, ec_exit, ec_ret, ek_nil, ek_op, opK_some, regK_some, seqK_normal, seqK_exit, seqK_ret, blockK_normal, blockK_exit, blockK_ret, evOp, vOp, hOp, aWanted, aY, boolOf, opd, putT, closedV, undef, aBin, intOp, sameK, mapO, joinR, hasAddr, pushB, aAlloc, Value.cells, T3, T4, T22, FA24_0, FA24_1, FA24_2, FA24_3, FA24_4, FA24_5, FA24_6, FA24_7, FA24_8, LD3, LD4, LD22, LD27, LDr, LD24, LEN22, IA22, cellAt, lookB, Nat.beq_eq, takeCells, finF, takeM, resV, getT_set, setT_length, getT, setT, hf, hm', c4, w1, w2, w3, c', c]
    · have c' : (r == q - 1) = false := by simpa using c
      simp [ec_skip, ec_label, ek_reg, ek_draw, ek_seq, ec_cond, ek_block, ec_loop, ec_exit, ec_ret, ek_nil, ek_op, opK_some, regK_some, seqK_normal, seqK_exit, seqK_ret, blockK_normal, blockK_exit, blockK_ret, evOp, vOp, hOp, aWanted, aY, boolOf, opd, putT, closedV, undef, aBin, intOp, sameK, mapO, joinR, hasAddr, pushB, aAlloc, Value.cells, T3, T4, T22, FA24_0, FA24_1, FA24_2, FA24_3, FA24_4, FA24_5, FA24_6, FA24_7, FA24_8, LD3, LD4, LD22, LD27, LDr, LD24, LEN22, IA22, cellAt, lookB, Nat.beq_eq, takeCells, finF, takeM, resV, getT_set, setT_length, getT, setT, hf, hm', c4, w1, w2, w3, c', c]

end Go.Proofs.Ytkoppbbmdjhaoaa
