/-
  What is proved: what tile.Place and tile.After answer for every set and every number.
-/
import Derived.Test.YtdbpemmhkfbegaaXd
namespace Go.Proofs.Ytdbpemmhkfbegaa
open Go.RowKit
set_option linter.unusedSimpArgs false
set_option linter.unusedVariables false

/-- What After answers. -/
noncomputable def SV.aft (s : SV) (kind : Int) : Int :=
  match s.find kind with
  | none => -1
  | some (_, r, q) => if r = q - 1 then kind - r else kind + 1
/-- How many kinds a row has, by the row's number. -/
noncomputable def SV.many (s : SV) (su : Int) : Int := if su = -1 then s.w else if su = -2 then s.d else if su = -3 then s.f else s.g su.toNat
noncomputable def placeT (x : Option (Int × Int × Int)) : Value :=
  match x with
  | some (su, r, _) => .tuple #[.int .i64 su, .int .i64 r]
  | none => .tuple #[.int .i64 (-4), .int .i64 0]
theorem findRows_spec : ∀ (l : List (Int × Nat)) (c kind su r q : Int), findRows l c kind = some (su, r, q) → ∃ q' : Nat, (su, q') ∈ l ∧ q = q' ∧ 0 ≤ r ∧ r < q ∧ c ≤ kind
  | [], c, kind, su, r, q, h => by cases h
  | (su', q') :: l, c, kind, su, r, q, h => by
    simp only [findRows] at h
    split at h
    · cases h
      exact ⟨q', List.mem_cons_self, rfl, by omega, by omega, by omega⟩
    · obtain ⟨p, h1, h2, h3, h4, h5⟩ := findRows_spec l (c + q') kind su r q h
      exact ⟨p, List.mem_cons_of_mem _ h1, h2, h3, h4, by omega⟩
theorem suitRows_mem {g : Nat → Int} : ∀ (k i : Nat) (su : Int) (q : Nat), (su, q) ∈ suitRows g k i → ∃ j : Nat, i ≤ j ∧ j < i + k ∧ su = j ∧ q = (g j).toNat
  | 0, i, su, q, h => by cases h
  | k + 1, i, su, q, h => by
    simp only [suitRows, List.mem_cons, Prod.mk.injEq] at h
    rcases h with ⟨rfl, rfl⟩ | h
    · exact ⟨i, by omega, by omega, rfl, rfl⟩
    · obtain ⟨j, h1, h2, h3, h4⟩ := suitRows_mem k (i + 1) su q h
      exact ⟨j, by omega, by omega, h3, h4⟩
theorem find_spec {s : SV} {kind su r q : Int} (h : s.find kind = some (su, r, q)) : s.err = 0 ∧ 0 ≤ r ∧ r < q ∧ 0 ≤ kind ∧ ((su = -1 ∨ su = -2 ∨ su = -3) ∨ ∃ i : Nat, i < s.n ∧ su = i ∧ q = s.g i) := by
  unfold SV.find at h
  split at h
  · rename_i he
    have hs := small_of_err he
    obtain ⟨q', h1, h2, h3, h4, h5⟩ := findRows_spec _ _ _ _ _ _ h
    refine ⟨he, h3, h4, h5, ?_⟩
    unfold SV.rows at h1
    rcases List.mem_append.1 h1 with h1 | h1
    · obtain ⟨j, j1, j2, j3, j4⟩ := suitRows_mem _ _ _ _ h1
      have := hs.g j (by omega)
      exact .inr ⟨j, by omega, j3, by omega⟩
    · simp only [SV.tail, List.mem_cons, Prod.mk.injEq, List.not_mem_nil, or_false] at h1
      rcases h1 with ⟨e, _⟩ | ⟨e, _⟩ | ⟨e, _⟩
      · exact .inl (.inl e)
      · exact .inl (.inr (.inl e))
      · exact .inl (.inr (.inr e))
  · cases h
theorem find_none {s : SV} {kind : Int} (h : kind < 0 ∨ (s.err = 0 → s.plain + s.f ≤ kind)) : s.find kind = none := by
  unfold SV.find
  by_cases he : s.err = 0
  · rw [if_pos he]
    have hs := small_of_err he
    obtain ⟨p0, p1, e0⟩ := plain_small hs
    have key : ∀ (k i : Nat) (c : Int), i + k = s.n → 0 ≤ c → c ≤ 9 * i → sumG s.g k i (s.w + s.d + c) = s.plain → findRows (suitRows s.g k i ++ s.tail) c kind = none := by
      intro k
      induction k with
      | zero =>
        intro i c hi hc hc9 hsum
        obtain ⟨w1, w2⟩ := hs.w
        obtain ⟨d1, d2⟩ := hs.d
        obtain ⟨f1, f2⟩ := hs.f
        have hn := hs.n
        simp only [sumG] at hsum
        simp only [suitRows, List.nil_append, SV.tail, findRows]
        have q1 : ((s.w).toNat : Int) = s.w := by omega
        have q2 : ((s.d).toNat : Int) = s.d := by omega
        have q3 : ((s.f).toNat : Int) = s.f := by omega
        rw [q1, q2, q3]
        rcases h with h | h
        · rw [if_neg (by omega), if_neg (by omega), if_neg (by omega)]
        · have := h he
          rw [if_neg (by omega), if_neg (by omega), if_neg (by omega)]
      | succ k ih =>
        intro i c hi hc hc9 hsum
        have hn := hs.n
        obtain ⟨b1, b2⟩ := hs.g i (by omega)
        obtain ⟨w1, w2⟩ := hs.w
        obtain ⟨d1, d2⟩ := hs.d
        have q1 : ((s.g i).toNat : Int) = s.g i := by omega
        simp only [sumG] at hsum
        rw [wrapI_small (by omega) (by omega)] at hsum
        simp only [suitRows, List.cons_append, findRows]
        rw [q1]
        have hmono : ∀ (k i : Nat) (a : Int), i + k = s.n → 0 ≤ a → a ≤ 7 + 9 * i → a ≤ sumG s.g k i a := by
          intro k
          induction k with
          | zero => intro i a _ _ _; simp [sumG]
          | succ k ihk =>
            intro i a hi ha ha9
            obtain ⟨b1, b2⟩ := hs.g i (by omega)
            simp only [sumG]
            rw [wrapI_small (by omega) (by omega)]
            have := ihk (i + 1) (a + s.g i) (by omega) (by omega) (by omega)
            omega
        have hm := hmono k (i + 1) (s.w + s.d + c + s.g i) (by omega) (by omega) (by omega)
        rw [hsum] at hm
        obtain ⟨f1, f2⟩ := hs.f
        have hno : ¬ (c ≤ kind ∧ kind < c + s.g i) := by
          rcases h with h | h
          · omega
          · have := h he
            omega
        rw [if_neg hno]
        exact ih (i + 1) (c + s.g i) (by omega) (by omega) (by omega) (by rw [← hsum]; congr 1; omega)
    exact key s.n 0 0 (by omega) (by omega) (by omega) (by rw [Int.add_zero]; show sumG s.g s.n 0 (s.w + s.d) = s.plain; rw [SV.plain, e0])
  · rw [if_neg he]
theorem find_many {s : SV} {kind su r q : Int} (h : s.find kind = some (su, r, q)) : q = s.many su ∧ q ≤ 9 ∧ kind ≤ 42 ∧ r ≤ kind ∧ ((su = -1 ∨ su = -2 ∨ su = -3) ∨ ∃ i : Nat, i < s.n ∧ su = i) := by
  obtain ⟨he, r0, rq, k0, -⟩ := find_spec h
  have hs := small_of_err he
  obtain ⟨p0, p1, _⟩ := plain_small hs
  have hk : kind ≤ 42 := by
    have hff := hs.f
    by_cases c : s.plain + s.f ≤ kind
    · rw [find_none (.inr fun _ => c)] at h; cases h
    · omega
  have hrk : ∀ (l : List (Int × Nat)) (c su r q : Int), 0 ≤ c → findRows l c kind = some (su, r, q) → r ≤ kind := by
    intro l
    induction l with
    | nil => intro c su r q _ h; cases h
    | cons a l ih =>
      obtain ⟨su', q'⟩ := a
      intro c su r q hc h
      simp only [findRows] at h
      split at h
      · cases h; omega
      · exact ih _ _ _ _ (by omega) h
  unfold SV.find at h
  rw [if_pos he] at h
  have hr := hrk _ 0 _ _ _ (Int.le_refl _) h
  obtain ⟨q', h1, h2, _, _, _⟩ := findRows_spec _ _ _ _ _ _ h
  unfold SV.rows at h1
  obtain ⟨w1, w2⟩ := hs.w
  obtain ⟨d1, d2⟩ := hs.d
  obtain ⟨f1, f2⟩ := hs.f
  rcases List.mem_append.1 h1 with h1 | h1
  · obtain ⟨j, j1, j2, j3, j4⟩ := suitRows_mem _ _ _ _ h1
    have := hs.g j (by omega)
    have e : s.many su = s.g j := by
      subst j3
      unfold SV.many
      rw [if_neg (by omega), if_neg (by omega), if_neg (by omega)]
      rfl
    exact ⟨by omega, by omega, hk, hr, .inr ⟨j, by omega, j3⟩⟩
  · simp only [SV.tail, List.mem_cons, Prod.mk.injEq, List.not_mem_nil, or_false] at h1
    rcases h1 with ⟨rfl, e⟩ | ⟨rfl, e⟩ | ⟨rfl, e⟩
    · exact ⟨by simp [SV.many]; omega, by omega, hk, hr, .inl (.inl rfl)⟩
    · exact ⟨by simp [SV.many]; omega, by omega, hk, hr, .inl (.inr (.inl rfl))⟩
    · exact ⟨by simp [SV.many]; omega, by omega, hk, hr, .inl (.inr (.inr rfl))⟩
theorem kgP : kpT 7 = false := by kernel_rfl
theorem kgA : kpT 18 = false := by kernel_rfl
theorem Nfind : ((tabT Try.prog) 24).map (fun z => z.ex.nat 28) = some none := by kernel_rfl
theorem Cfind (call : Value → List Value → AH → Option (Value × AH)) {tm : Tm} {i j : Nat} {H : AH} {d : Option Tmp} {t : TypeId} {p : String} {a : Array Edge} {gd : Option (Nat × Bool)} : evOp (tabT Try.prog) call ⟨d, .call ⟨.value (.func 28), #[.tmp i, .tmp j], #[24, 3]⟩, t, p, a, gd⟩ (opd tm) H = call (.func (.func 28) #[] #[]) [tm.get i, tm.get j] H :=
  evOp_evO.trans (eo_call2n rfl rfl rfl Nfind)
theorem FP0 (i off : Nat) : aFieldAddr (tabT Try.prog) 43 (.pointer (some ⟨i, off, none⟩)) 0 = some (.pointer (some ⟨i, off + 0, none⟩)) := by kernel_rfl
theorem FP1 (i off : Nat) : aFieldAddr (tabT Try.prog) 43 (.pointer (some ⟨i, off, none⟩)) 1 = some (.pointer (some ⟨i, off + 1, none⟩)) := by kernel_rfl
theorem FP2 (i off : Nat) : aFieldAddr (tabT Try.prog) 43 (.pointer (some ⟨i, off, none⟩)) 2 = some (.pointer (some ⟨i, off + 2, none⟩)) := by kernel_rfl
set_option maxRecDepth 10000 in
set_option maxHeartbeats 8000000 in
theorem place_ev (call : Value → List Value → AH → Option (Value × AH)) (s : SV) (kind : Int) (hf : ∀ (H : AH), lookB H.bs 0 = some (.ints s.g) → lookB H.bs 1 = some (.ints s.h) → call (.func (.func 28) #[] #[]) [s.val, .int .i64 kind] H = some (findV (s.find kind), H)) :
    ∃ H', evFn (tabT Try.prog) call 300 kpT 7 Try.f7 [s.val, .int .i64 kind] s.hp = some (placeT (s.find kind), H') := by
  have kp := kgP
  cases hx : s.find kind with
  | none =>
    rw [hx] at hf
    simp only [SV.val, findV, placeV] at hf
    simp only [evFn, Try.f7, SV.val, SV.hp, placeT]
    simp [ec_skip, ec_label, ek_reg, ek_draw, ek_seq, ec_cond, ek_block, ec_loop, ec_exit, ec_ret, ec_scope, ek_nil, ek_op, opK_some, regK_some, seqK_normal, seqK_exit, seqK_ret, blockK_normal, blockK_exit, blockK_ret, evOp, vOp, hOpB, hOpU, hOp, hOpT, aAppendG_tab, aWanted, aYielded, opd, putT, closedV, aBin, intOp, sameK, mapO, joinR, hasAddr, boundOf, pushB, aAlloc, Value.cells, lookB, setB, Nat.beq_eq, tm_n_set, tm_get_set, tm_of_n, tm_of_get, tm_tr_set, tm_tr_of, cellV, putF, appR_eq, takeR_eq, dropR_eq, setR_eq, getR_eq, ↓C75, ↓C76, ↓C77, ↓C79, ↓C17, ↓C18, ↓C22, ↓C71, FA24_0, FA24_1, FA24_2, FA24_3, FA24_4, FA24_5, FA24_6, FA24_7, FA24_8, LD3, LD4, LD22, LD27, LDr, LD24, LEN22, IA22, tkc, cellAt, ↓Cfind, hf, ↓AL43, ST43, finF, takeM, resV, cleanedG, kp, below]
  | some x =>
    obtain ⟨su, r, q⟩ := x
    rw [hx] at hf
    simp only [SV.val, findV, placeV] at hf
    simp only [evFn, Try.f7, SV.val, SV.hp, placeT]
    simp [ec_skip, ec_label, ek_reg, ek_draw, ek_seq, ec_cond, ek_block, ec_loop, ec_exit, ec_ret, ec_scope, ek_nil, ek_op, opK_some, regK_some, seqK_normal, seqK_exit, seqK_ret, blockK_normal, blockK_exit, blockK_ret, evOp, vOp, hOpB, hOpU, hOp, hOpT, aAppendG_tab, aWanted, aYielded, opd, putT, closedV, aBin, intOp, sameK, mapO, joinR, hasAddr, boundOf, pushB, aAlloc, Value.cells, lookB, setB, Nat.beq_eq, tm_n_set, tm_get_set, tm_of_n, tm_of_get, tm_tr_set, tm_tr_of, cellV, putF, appR_eq, takeR_eq, dropR_eq, setR_eq, getR_eq, ↓C75, ↓C76, ↓C77, ↓C79, ↓C17, ↓C18, ↓C22, ↓C71, FA24_0, FA24_1, FA24_2, FA24_3, FA24_4, FA24_5, FA24_6, FA24_7, FA24_8, LD3, LD4, LD22, LD27, LDr, LD24, LEN22, IA22, tkc, cellAt, ↓Cfind, hf, ↓AL43, ST43]
    generalize hX : evDrawX _ _ _ _ _ = X
    obtain ⟨tm, rfl, hn', t4, t5⟩ := draw_ro (Pt := fun tm => tm.get 4 = .int .i64 su ∧ tm.get 5 = .int .i64 r) hX (by kernel_rfl) (by simp [decrK]) (by
      clear hX
      generalize befs _ = M
      simp [mapO, drRun, drOp, dr3, looks, guardT, tmpsOf, Op.operands, Call.operands, wantedR, gOf, finT, natMem, isNil, writesF, evOp, vOp, hOpB, hOpU, hOp, hOpT, aAppendG_tab, opd, closedV, aBin, intOp, sameK, opdO, boundOf, undef, lookB, Nat.beq_eq, tm_n_set, tm_get_set, tm_of_n, tm_of_get, tm_tr_set, tm_tr_of, b02, b12, b32, ↓G75, W75, ↓G76, W76, ↓G77, W77, ↓G79, W79, ↓G17, W17, ↓G18, W18, ↓G22, W22, ↓G71, W71, tv, all1, roB, roK, news, newOnes, decr, tkc, cellAt, LD3, LD4, LD22, LD27, LDr, LD24, LEN22, IA22, FA24_0, FA24_1, FA24_2, FA24_3, FA24_4, FA24_5, FA24_6, FA24_7, FA24_8, hasR, FP0, FP1, FP2]

      refine ⟨by simp [dynOK, b02, b12, b32, Nat.blt_eq, tm_n_set, tm_of_n], by simp [wheap, news, b02, b12, b32]⟩)
    simp [tm_n_set] at hn'
    simp [ec_skip, ec_label, ek_reg, ek_draw, ek_seq, ec_cond, ek_block, ec_loop, ec_exit, ec_ret, ec_scope, ek_nil, ek_op, opK_some, regK_some, seqK_normal, seqK_exit, seqK_ret, blockK_normal, blockK_exit, blockK_ret, evOp, vOp, hOpB, hOpU, hOp, hOpT, aAppendG_tab, aWanted, aYielded, opd, putT, closedV, aBin, intOp, sameK, mapO, joinR, hasAddr, boundOf, pushB, aAlloc, Value.cells, lookB, setB, Nat.beq_eq, tm_n_set, tm_get_set, tm_of_n, tm_of_get, tm_tr_set, tm_tr_of, cellV, putF, appR_eq, takeR_eq, dropR_eq, setR_eq, getR_eq, ↓C75, ↓C76, ↓C77, ↓C79, ↓C17, ↓C18, ↓C22, ↓C71, FA24_0, FA24_1, FA24_2, FA24_3, FA24_4, FA24_5, FA24_6, FA24_7, FA24_8, LD3, LD4, LD22, LD27, LDr, LD24, LEN22, IA22, tkc, cellAt, hn', t4, finF, takeM, resV, cleanedG, kp, below, t5]
set_option maxRecDepth 10000 in
set_option maxHeartbeats 8000000 in
theorem after_ev (call : Value → List Value → AH → Option (Value × AH)) (s : SV) (kind : Int) (hf : ∀ (H : AH), lookB H.bs 0 = some (.ints s.g) → lookB H.bs 1 = some (.ints s.h) → call (.func (.func 28) #[] #[]) [s.val, .int .i64 kind] H = some (findV (s.find kind), H)) :
    ∃ H', evFn (tabT Try.prog) call 300 kpT 18 Try.f18 [s.val, .int .i64 kind] s.hp = some (.int .i64 (s.aft kind), H') := by
  have kp := kgA
  unfold SV.aft
  cases hx : s.find kind with
  | none =>
    rw [hx] at hf
    simp only [SV.val, findV, placeV] at hf
    simp only [evFn, Try.f18, SV.val, SV.hp, placeT]
    simp [ec_skip, ec_label, ek_reg, ek_draw, ek_seq, ec_cond, ek_block, ec_loop, ec_exit, ec_ret, ec_scope, ek_nil, ek_op, opK_some, regK_some, seqK_normal, seqK_exit, seqK_ret, blockK_normal, blockK_exit, blockK_ret, evOp, vOp, hOpB, hOpU, hOp, hOpT, aAppendG_tab, aWanted, aYielded, opd, putT, closedV, aBin, intOp, sameK, mapO, joinR, hasAddr, boundOf, pushB, aAlloc, Value.cells, lookB, setB, Nat.beq_eq, tm_n_set, tm_get_set, tm_of_n, tm_of_get, tm_tr_set, tm_tr_of, cellV, putF, appR_eq, takeR_eq, dropR_eq, setR_eq, getR_eq, ↓C75, ↓C76, ↓C77, ↓C79, ↓C17, ↓C18, ↓C22, ↓C71, FA24_0, FA24_1, FA24_2, FA24_3, FA24_4, FA24_5, FA24_6, FA24_7, FA24_8, LD3, LD4, LD22, LD27, LDr, LD24, LEN22, IA22, tkc, cellAt, ↓Cfind, hf, ↓AL43, ST43, finF, takeM, resV, cleanedG, kp, below]
  | some x =>
    obtain ⟨su, r, q⟩ := x
    obtain ⟨_, r0, rq, k0, _⟩ := find_spec hx
    obtain ⟨_, q9, k42, rk, _⟩ := find_many hx
    have hv : wrapI .i64 (wrapI .i64 (kind - r) + (wrapI .i64 (r + 1)).tmod q) = if r = q - 1 then kind - r else kind + 1 := by
      rw [wrapI_small (n := kind - r) (by omega) (by omega), wrapI_small (n := r + 1) (by omega) (by omega)]
      by_cases c : r = q - 1
      · rw [if_pos c, c]
        have e : q - 1 + 1 = q := by omega
        rw [e, Int.tmod_self, wrapI_small (by omega) (by omega)]
        omega
      · rw [if_neg c, Int.tmod_eq_of_lt (by omega) (by omega), wrapI_small (by omega) (by omega)]
        omega
    have q0 : ¬ q = 0 := by omega
    have qn : (q == 0) = false := by simpa using q0
    have ew : (match (some (su, r, q) : Option (Int × Int × Int)) with | none => (-1 : Int) | some (_, r, q) => if r = q - 1 then kind - r else kind + 1) = if r = q - 1 then kind - r else kind + 1 := rfl
    rw [ew]
    rw [← hv]
    clear hv
    rw [hx] at hf
    simp only [SV.val, findV, placeV] at hf
    simp only [evFn, Try.f18, SV.val, SV.hp, placeT]
    simp [ec_skip, ec_label, ek_reg, ek_draw, ek_seq, ec_cond, ek_block, ec_loop, ec_exit, ec_ret, ec_scope, ek_nil, ek_op, opK_some, regK_some, seqK_normal, seqK_exit, seqK_ret, blockK_normal, blockK_exit, blockK_ret, evOp, vOp, hOpB, hOpU, hOp, hOpT, aAppendG_tab, aWanted, aYielded, opd, putT, closedV, aBin, intOp, sameK, mapO, joinR, hasAddr, boundOf, pushB, aAlloc, Value.cells, lookB, setB, Nat.beq_eq, tm_n_set, tm_get_set, tm_of_n, tm_of_get, tm_tr_set, tm_tr_of, cellV, putF, appR_eq, takeR_eq, dropR_eq, setR_eq, getR_eq, ↓C75, ↓C76, ↓C77, ↓C79, ↓C17, ↓C18, ↓C22, ↓C71, FA24_0, FA24_1, FA24_2, FA24_3, FA24_4, FA24_5, FA24_6, FA24_7, FA24_8, LD3, LD4, LD22, LD27, LDr, LD24, LEN22, IA22, tkc, cellAt, ↓Cfind, hf, ↓AL43, ST43]
    generalize hX : evDrawX _ _ _ _ _ = X
    obtain ⟨tm, rfl, hn', t4⟩ := draw_ro (Pt := fun tm => tm.get 4 = .int .i64 (wrapI .i64 (wrapI .i64 (kind - r) + (wrapI .i64 (r + 1)).tmod q))) hX (by kernel_rfl) (by simp [decrK]) (by
      clear hX
      generalize befs _ = M
      simp [mapO, drRun, drOp, dr3, looks, guardT, tmpsOf, Op.operands, Call.operands, wantedR, gOf, finT, natMem, isNil, writesF, evOp, vOp, hOpB, hOpU, hOp, hOpT, aAppendG_tab, opd, closedV, aBin, intOp, sameK, opdO, boundOf, undef, lookB, Nat.beq_eq, tm_n_set, tm_get_set, tm_of_n, tm_of_get, tm_tr_set, tm_tr_of, b02, b12, b32, ↓G75, W75, ↓G76, W76, ↓G77, W77, ↓G79, W79, ↓G17, W17, ↓G18, W18, ↓G22, W22, ↓G71, W71, tv, all1, roB, roK, news, newOnes, decr, tkc, cellAt, LD3, LD4, LD22, LD27, LDr, LD24, LEN22, IA22, FA24_0, FA24_1, FA24_2, FA24_3, FA24_4, FA24_5, FA24_6, FA24_7, FA24_8, hasR, FP0, FP1, FP2, q0, qn]

      refine ⟨by simp [dynOK, b02, b12, b32, Nat.blt_eq, tm_n_set, tm_of_n], by simp [wheap, news, b02, b12, b32]⟩)
    simp [tm_n_set] at hn'
    simp [ec_skip, ec_label, ek_reg, ek_draw, ek_seq, ec_cond, ek_block, ec_loop, ec_exit, ec_ret, ec_scope, ek_nil, ek_op, opK_some, regK_some, seqK_normal, seqK_exit, seqK_ret, blockK_normal, blockK_exit, blockK_ret, evOp, vOp, hOpB, hOpU, hOp, hOpT, aAppendG_tab, aWanted, aYielded, opd, putT, closedV, aBin, intOp, sameK, mapO, joinR, hasAddr, boundOf, pushB, aAlloc, Value.cells, lookB, setB, Nat.beq_eq, tm_n_set, tm_get_set, tm_of_n, tm_of_get, tm_tr_set, tm_tr_of, cellV, putF, appR_eq, takeR_eq, dropR_eq, setR_eq, getR_eq, ↓C75, ↓C76, ↓C77, ↓C79, ↓C17, ↓C18, ↓C22, ↓C71, FA24_0, FA24_1, FA24_2, FA24_3, FA24_4, FA24_5, FA24_6, FA24_7, FA24_8, LD3, LD4, LD22, LD27, LDr, LD24, LEN22, IA22, tkc, cellAt, hn', t4, finF, takeM, resV, cleanedG, kp, below]

end Go.Proofs.Ytdbpemmhkfbegaa
