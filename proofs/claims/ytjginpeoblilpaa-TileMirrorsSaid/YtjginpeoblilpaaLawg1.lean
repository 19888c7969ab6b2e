/-
  What is proved: what tile.Place and tile.After answer for every set and every number. the places of a row, one after another. what is known of calls with a set whose lists are told by functions holds for a set whose lists lie in cells, too. the source of numbers: a number below another one, between two, and odds. numbers that the kit's source hands out lie below their bound (arithmetic alone). NewSource, and numbers brought into a range. how many plain kinds a set has whose lists lie in cells. what the small sets of the source keep of the memory: lists that grow. the small sets that the source makes: suits. the sets that the source makes, and that they are valid. calls of the laws over sets that are made of numbers; what sparrowkit.In answers for a list in cells. as the closures of tile.kinds, for a loop whose blocks lie one place higher (that of tile.at). find, Place and After, as answers that calls may take. what tile.at answers for every set without an error, suit and rank.
-/
import Derived.Test.YtjginpeoblilpaaLawg0
import Derived.OpenShut
namespace Go.Proofs.Ytjginpeoblilpaa
open Go.RowKit
set_option linter.unusedSimpArgs false
set_option linter.unusedVariables false

section
set_option linter.unusedSimpArgs false
set_option linter.unusedVariables false

/-- What After answers. -/
noncomputable def SV.aft (s : SV) (kind : Int) : Int :=
  match s.find kind with
  | none => -1
  | some (_, r, q) => if r = q - 1 then kind - r else kind + 1
/-- How many kinds a row has, by the row's number. -/
noncomputable def SV.many (s : SV) (su : Int) : Int := if su = -1 then s.w else if su = -2 then s.d else if su = -3 then s.f else s.g su.toNat
noncomputable def placeT (x : Option (Int × Int × Int)) : Value :=
  match x with
  | some (su, r, _) => .tuple #[.int .i64 su, .int .i64 r]
  | none => .tuple #[.int .i64 (-4), .int .i64 0]
theorem findRows_spec : ∀ (l : List (Int × Nat)) (c kind su r q : Int), findRows l c kind = some (su, r, q) → ∃ q' : Nat, (su, q') ∈ l ∧ q = q' ∧ 0 ≤ r ∧ r < q ∧ c ≤ kind
  | [], c, kind, su, r, q, h => by cases h
  | (su', q') :: l, c, kind, su, r, q, h => by
    simp only [findRows] at h
    split at h
    · cases h
      exact ⟨q', List.mem_cons_self, rfl, by omega, by omega, by omega⟩
    · obtain ⟨p, h1, h2, h3, h4, h5⟩ := findRows_spec l (c + q') kind su r q h
      exact ⟨p, List.mem_cons_of_mem _ h1, h2, h3, h4, by omega⟩
theorem suitRows_mem {g : Nat → Int} : ∀ (k i : Nat) (su : Int) (q : Nat), (su, q) ∈ suitRows g k i → ∃ j : Nat, i ≤ j ∧ j < i + k ∧ su = j ∧ q = (g j).toNat
  | 0, i, su, q, h => by cases h
  | k + 1, i, su, q, h => by
    simp only [suitRows, List.mem_cons, Prod.mk.injEq] at h
    rcases h with ⟨rfl, rfl⟩ | h
    · exact ⟨i, by omega, by omega, rfl, rfl⟩
    · obtain ⟨j, h1, h2, h3, h4⟩ := suitRows_mem k (i + 1) su q h
      exact ⟨j, by omega, by omega, h3, h4⟩
theorem find_spec {s : SV} {kind su r q : Int} (h : s.find kind = some (su, r, q)) : s.err = 0 ∧ 0 ≤ r ∧ r < q ∧ 0 ≤ kind ∧ ((su = -1 ∨ su = -2 ∨ su = -3) ∨ ∃ i : Nat, i < s.n ∧ su = i ∧ q = s.g i) := by
  unfold SV.find at h
  split at h
  · rename_i he
    have hs := small_of_err he
    obtain ⟨q', h1, h2, h3, h4, h5⟩ := findRows_spec _ _ _ _ _ _ h
    refine ⟨he, h3, h4, h5, ?_⟩
    unfold SV.rows at h1
    rcases List.mem_append.1 h1 with h1 | h1
    · obtain ⟨j, j1, j2, j3, j4⟩ := suitRows_mem _ _ _ _ h1
      have := hs.g j (by omega)
      exact .inr ⟨j, by omega, j3, by omega⟩
    · simp only [SV.tail, List.mem_cons, Prod.mk.injEq, List.not_mem_nil, or_false] at h1
      rcases h1 with ⟨e, _⟩ | ⟨e, _⟩ | ⟨e, _⟩
      · exact .inl (.inl e)
      · exact .inl (.inr (.inl e))
      · exact .inl (.inr (.inr e))
  · cases h
theorem find_none {s : SV} {kind : Int} (h : kind < 0 ∨ (s.err = 0 → s.plain + s.f ≤ kind)) : s.find kind = none := by
  unfold SV.find
  by_cases he : s.err = 0
  · rw [if_pos he]
    have hs := small_of_err he
    obtain ⟨p0, p1, e0⟩ := plain_small hs
    have key : ∀ (k i : Nat) (c : Int), i + k = s.n → 0 ≤ c → c ≤ 9 * i → sumG s.g k i (s.w + s.d + c) = s.plain → findRows (suitRows s.g k i ++ s.tail) c kind = none := by
      intro k
      induction k with
      | zero =>
        intro i c hi hc hc9 hsum
        obtain ⟨w1, w2⟩ := hs.w
        obtain ⟨d1, d2⟩ := hs.d
        obtain ⟨f1, f2⟩ := hs.f
        have hn := hs.n
        simp only [sumG] at hsum
        simp only [suitRows, List.nil_append, SV.tail, findRows]
        have q1 : ((s.w).toNat : Int) = s.w := by omega
        have q2 : ((s.d).toNat : Int) = s.d := by omega
        have q3 : ((s.f).toNat : Int) = s.f := by omega
        rw [q1, q2, q3]
        rcases h with h | h
        · rw [if_neg (by omega), if_neg (by omega), if_neg (by omega)]
        · have := h he
          rw [if_neg (by omega), if_neg (by omega), if_neg (by omega)]
      | succ k ih =>
        intro i c hi hc hc9 hsum
        have hn := hs.n
        obtain ⟨b1, b2⟩ := hs.g i (by omega)
        obtain ⟨w1, w2⟩ := hs.w
        obtain ⟨d1, d2⟩ := hs.d
        have q1 : ((s.g i).toNat : Int) = s.g i := by omega
        simp only [sumG] at hsum
        rw [wrapI_small (by omega) (by omega)] at hsum
        simp only [suitRows, List.cons_append, findRows]
        rw [q1]
        have hmono : ∀ (k i : Nat) (a : Int), i + k = s.n → 0 ≤ a → a ≤ 7 + 9 * i → a ≤ sumG s.g k i a := by
          intro k
          induction k with
          | zero => intro i a _ _ _; simp [sumG]
          | succ k ihk =>
            intro i a hi ha ha9
            obtain ⟨b1, b2⟩ := hs.g i (by omega)
            simp only [sumG]
            rw [wrapI_small (by omega) (by omega)]
            have := ihk (i + 1) (a + s.g i) (by omega) (by omega) (by omega)
            omega
        have hm := hmono k (i + 1) (s.w + s.d + c + s.g i) (by omega) (by omega) (by omega)
        rw [hsum] at hm
        obtain ⟨f1, f2⟩ := hs.f
        have hno : ¬ (c ≤ kind ∧ kind < c + s.g i) := by
          rcases h with h | h
          · omega
          · have := h he
            omega
        rw [if_neg hno]
        exact ih (i + 1) (c + s.g i) (by omega) (by omega) (by omega) (by rw [← hsum]; congr 1; omega)
    exact key s.n 0 0 (by omega) (by omega) (by omega) (by rw [Int.add_zero]; show sumG s.g s.n 0 (s.w + s.d) = s.plain; rw [SV.plain, e0])
  · rw [if_neg he]
theorem find_many {s : SV} {kind su r q : Int} (h : s.find kind = some (su, r, q)) : q = s.many su ∧ q ≤ 9 ∧ kind ≤ 42 ∧ r ≤ kind ∧ ((su = -1 ∨ su = -2 ∨ su = -3) ∨ ∃ i : Nat, i < s.n ∧ su = i) := by
  obtain ⟨he, r0, rq, k0, -⟩ := find_spec h
  have hs := small_of_err he
  obtain ⟨p0, p1, _⟩ := plain_small hs
  have hk : kind ≤ 42 := by
    have hff := hs.f
    by_cases c : s.plain + s.f ≤ kind
    · rw [find_none (.inr fun _ => c)] at h; cases h
    · omega
  have hrk : ∀ (l : List (Int × Nat)) (c su r q : Int), 0 ≤ c → findRows l c kind = some (su, r, q) → r ≤ kind := by
    intro l
    induction l with
    | nil => intro c su r q _ h; cases h
    | cons a l ih =>
      obtain ⟨su', q'⟩ := a
      intro c su r q hc h
      simp only [findRows] at h
      split at h
      · cases h; omega
      · exact ih _ _ _ _ (by omega) h
  unfold SV.find at h
  rw [if_pos he] at h
  have hr := hrk _ 0 _ _ _ (Int.le_refl _) h
  obtain ⟨q', h1, h2, _, _, _⟩ := findRows_spec _ _ _ _ _ _ h
  unfold SV.rows at h1
  obtain ⟨w1, w2⟩ := hs.w
  obtain ⟨d1, d2⟩ := hs.d
  obtain ⟨f1, f2⟩ := hs.f
  rcases List.mem_append.1 h1 with h1 | h1
  · obtain ⟨j, j1, j2, j3, j4⟩ := suitRows_mem _ _ _ _ h1
    have := hs.g j (by omega)
    have e : s.many su = s.g j := by
      subst j3
      unfold SV.many
      rw [if_neg (by omega), if_neg (by omega), if_neg (by omega)]
      rfl
    exact ⟨by omega, by omega, hk, hr, .inr ⟨j, by omega, j3⟩⟩
  · simp only [SV.tail, List.mem_cons, Prod.mk.injEq, List.not_mem_nil, or_false] at h1
    rcases h1 with ⟨rfl, e⟩ | ⟨rfl, e⟩ | ⟨rfl, e⟩
    · exact ⟨by simp [SV.many]; omega, by omega, hk, hr, .inl (.inl rfl)⟩
    · exact ⟨by simp [SV.many]; omega, by omega, hk, hr, .inl (.inr (.inl rfl))⟩
    · exact ⟨by simp [SV.many]; omega, by omega, hk, hr, .inl (.inr (.inr rfl))⟩
theorem kgP : kpT 14 = false := by kernel_rfl
theorem kgA : kpT 25 = false := by kernel_rfl
theorem Nfind : ((tabT Try.prog) 24).map (fun z => z.ex.nat 49) = some none := by kernel_rfl
theorem Cfind (call : Value → List Value → AH → Option (Value × AH)) {tm : Tm} {i j : Nat} {H : AH} {d : Option Tmp} {t : TypeId} {p : String} {a : Array Edge} {gd : Option (Nat × Bool)} : evOp (tabT Try.prog) call ⟨d, .call ⟨.value (.func 49), #[.tmp i, .tmp j], #[24, 3]⟩, t, p, a, gd⟩ (opd tm) H = call (.func (.func 49) #[] #[]) [tm.get i, tm.get j] H :=
  evOp_evO.trans (eo_call2n rfl rfl rfl Nfind)
theorem FP0 (i off : Nat) : aFieldAddr (tabT Try.prog) 69 (.pointer (some ⟨i, off, none⟩)) 0 = some (.pointer (some ⟨i, off + 0, none⟩)) := by kernel_rfl
theorem FP1 (i off : Nat) : aFieldAddr (tabT Try.prog) 69 (.pointer (some ⟨i, off, none⟩)) 1 = some (.pointer (some ⟨i, off + 1, none⟩)) := by kernel_rfl
theorem FP2 (i off : Nat) : aFieldAddr (tabT Try.prog) 69 (.pointer (some ⟨i, off, none⟩)) 2 = some (.pointer (some ⟨i, off + 2, none⟩)) := by kernel_rfl
set_option maxRecDepth 10000 in
set_option maxHeartbeats 8000000 in
theorem place_ev (call : Value → List Value → AH → Option (Value × AH)) (s : SV) (kind : Int) (hf : ∀ (H : AH), lookB H.bs 0 = some (.ints s.g) → lookB H.bs 1 = some (.ints s.h) → call (.func (.func 49) #[] #[]) [s.val, .int .i64 kind] H = some (findV (s.find kind), H)) :
    ∃ H', evFn (tabT Try.prog) call 300 kpT 14 Try.f14 [s.val, .int .i64 kind] s.hp = some (placeT (s.find kind), H') := by
  have kp := kgP
  cases hx : s.find kind with
  | none =>
    rw [hx] at hf
    simp only [SV.val, findV, placeV] at hf
    simp only [evFn, Try.f14, SV.val, SV.hp, placeT]
    simp [ec_skip, ec_label, ek_reg, ek_draw, ek_seq, ec_cond, ek_block, ec_loop, ec_exit, ec_ret, ec_scope, ek_nil, ek_op, opK_some, regK_some, seqK_normal, seqK_exit, seqK_ret, blockK_normal, blockK_exit, blockK_ret, evOp, vOp, hOpB, hOpU, hOp, hOpT, aAppendG_tab, aWanted, aYielded, opd, putT, closedV, aBin, intOp, sameK, mapO, joinR, hasAddr, boundOf, pushB, aAlloc, Value.cells, lookB, setB, Nat.beq_eq, tm_n_set, tm_get_set, tm_of_n, tm_of_get, tm_tr_set, tm_tr_of, cellV, putF, appR_eq, takeR_eq, dropR_eq, setR_eq, getR_eq, ↓C75, ↓C76, ↓C77, ↓C79, ↓C17, ↓C18, ↓C22, ↓C71, FA24_0, FA24_1, FA24_2, FA24_3, FA24_4, FA24_5, FA24_6, FA24_7, FA24_8, LD3, LD4, LD22, LD27, LDr, LD24, LEN22, IA22, tkc, cellAt, ↓Cfind, hf, ↓AL43, ST43, finF, takeM, resV, cleanedG, kp, below]
  | some x =>
    obtain ⟨su, r, q⟩ := x
    rw [hx] at hf
    simp only [SV.val, findV, placeV] at hf
    simp only [evFn, Try.f14, SV.val, SV.hp, placeT]
    simp [ec_skip, ec_label, ek_reg, ek_draw, ek_seq, ec_cond, ek_block, ec_loop, ec_exit, ec_ret, ec_scope, ek_nil, ek_op, opK_some, regK_some, seqK_normal, seqK_exit, seqK_ret, blockK_normal, blockK_exit, blockK_ret, evOp, vOp, hOpB, hOpU, hOp, hOpT, aAppendG_tab, aWanted, aYielded, opd, putT, closedV, aBin, intOp, sameK, mapO, joinR, hasAddr, boundOf, pushB, aAlloc, Value.cells, lookB, setB, Nat.beq_eq, tm_n_set, tm_get_set, tm_of_n, tm_of_get, tm_tr_set, tm_tr_of, cellV, putF, appR_eq, takeR_eq, dropR_eq, setR_eq, getR_eq, ↓C75, ↓C76, ↓C77, ↓C79, ↓C17, ↓C18, ↓C22, ↓C71, FA24_0, FA24_1, FA24_2, FA24_3, FA24_4, FA24_5, FA24_6, FA24_7, FA24_8, LD3, LD4, LD22, LD27, LDr, LD24, LEN22, IA22, tkc, cellAt, ↓Cfind, hf, ↓AL43, ST43]
    generalize hX : evDrawX _ _ _ _ _ = X
    obtain ⟨tm, rfl, hn', t4, t5⟩ := draw_ro (Pt := fun tm => tm.get 4 = .int .i64 su ∧ tm.get 5 = .int .i64 r) hX (by kernel_rfl) (by simp [decrK]) (by
      clear hX
      generalize befs _ = M
      simp [mapO, drRun, drOp, dr3, looks, guardT, tmpsOf, Op.operands, Call.operands, wantedR, gOf, finT, natMem, isNil, writesF, evOp, vOp, hOpB, hOpU, hOp, hOpT, aAppendG_tab, opd, closedV, aBin, intOp, sameK, opdO, boundOf, undef, lookB, Nat.beq_eq, tm_n_set, tm_get_set, tm_of_n, tm_of_get, tm_tr_set, tm_tr_of, b02, b12, b32, ↓G75, W75, ↓G76, W76, ↓G77, W77, ↓G79, W79, ↓G17, W17, ↓G18, W18, ↓G22, W22, ↓G71, W71, tv, all1, roB, roK, news, newOnes, decr, tkc, cellAt, LD3, LD4, LD22, LD27, LDr, LD24, LEN22, IA22, FA24_0, FA24_1, FA24_2, FA24_3, FA24_4, FA24_5, FA24_6, FA24_7, FA24_8, hasR, FP0, FP1, FP2]

      refine ⟨by simp [dynOK, b02, b12, b32, Nat.blt_eq, tm_n_set, tm_of_n], by simp [wheap, news, b02, b12, b32]⟩)
    simp [tm_n_set] at hn'
    simp [ec_skip, ec_label, ek_reg, ek_draw, ek_seq, ec_cond, ek_block, ec_loop, ec_exit, ec_ret, ec_scope, ek_nil, ek_op, opK_some, regK_some, seqK_normal, seqK_exit, seqK_ret, blockK_normal, blockK_exit, blockK_ret, evOp, vOp, hOpB, hOpU, hOp, hOpT, aAppendG_tab, aWanted, aYielded, opd, putT, closedV, aBin, intOp, sameK, mapO, joinR, hasAddr, boundOf, pushB, aAlloc, Value.cells, lookB, setB, Nat.beq_eq, tm_n_set, tm_get_set, tm_of_n, tm_of_get, tm_tr_set, tm_tr_of, cellV, putF, appR_eq, takeR_eq, dropR_eq, setR_eq, getR_eq, ↓C75, ↓C76, ↓C77, ↓C79, ↓C17, ↓C18, ↓C22, ↓C71, FA24_0, FA24_1, FA24_2, FA24_3, FA24_4, FA24_5, FA24_6, FA24_7, FA24_8, LD3, LD4, LD22, LD27, LDr, LD24, LEN22, IA22, tkc, cellAt, hn', t4, finF, takeM, resV, cleanedG, kp, below, t5]
set_option maxRecDepth 10000 in
set_option maxHeartbeats 8000000 in
theorem after_ev (call : Value → List Value → AH → Option (Value × AH)) (s : SV) (kind : Int) (hf : ∀ (H : AH), lookB H.bs 0 = some (.ints s.g) → lookB H.bs 1 = some (.ints s.h) → call (.func (.func 49) #[] #[]) [s.val, .int .i64 kind] H = some (findV (s.find kind), H)) :
    ∃ H', evFn (tabT Try.prog) call 300 kpT 25 Try.f25 [s.val, .int .i64 kind] s.hp = some (.int .i64 (s.aft kind), H') := by
  have kp := kgA
  unfold SV.aft
  cases hx : s.find kind with
  | none =>
    rw [hx] at hf
    simp only [SV.val, findV, placeV] at hf
    simp only [evFn, Try.f25, SV.val, SV.hp, placeT]
    simp [ec_skip, ec_label, ek_reg, ek_draw, ek_seq, ec_cond, ek_block, ec_loop, ec_exit, ec_ret, ec_scope, ek_nil, ek_op, opK_some, regK_some, seqK_normal, seqK_exit, seqK_ret, blockK_normal, blockK_exit, blockK_ret, evOp, vOp, hOpB, hOpU, hOp, hOpT, aAppendG_tab, aWanted, aYielded, opd, putT, closedV, aBin, intOp, sameK, mapO, joinR, hasAddr, boundOf, pushB, aAlloc, Value.cells, lookB, setB, Nat.beq_eq, tm_n_set, tm_get_set, tm_of_n, tm_of_get, tm_tr_set, tm_tr_of, cellV, putF, appR_eq, takeR_eq, dropR_eq, setR_eq, getR_eq, ↓C75, ↓C76, ↓C77, ↓C79, ↓C17, ↓C18, ↓C22, ↓C71, FA24_0, FA24_1, FA24_2, FA24_3, FA24_4, FA24_5, FA24_6, FA24_7, FA24_8, LD3, LD4, LD22, LD27, LDr, LD24, LEN22, IA22, tkc, cellAt, ↓Cfind, hf, ↓AL43, ST43, finF, takeM, resV, cleanedG, kp, below]
  | some x =>
    obtain ⟨su, r, q⟩ := x
    obtain ⟨_, r0, rq, k0, _⟩ := find_spec hx
    obtain ⟨_, q9, k42, rk, _⟩ := find_many hx
    have hv : wrapI .i64 (wrapI .i64 (kind - r) + (wrapI .i64 (r + 1)).tmod q) = if r = q - 1 then kind - r else kind + 1 := by
      rw [wrapI_small (n := kind - r) (by omega) (by omega), wrapI_small (n := r + 1) (by omega) (by omega)]
      by_cases c : r = q - 1
      · rw [if_pos c, c]
        have e : q - 1 + 1 = q := by omega
        rw [e, Int.tmod_self, wrapI_small (by omega) (by omega)]
        omega
      · rw [if_neg c, Int.tmod_eq_of_lt (by omega) (by omega), wrapI_small (by omega) (by omega)]
        omega
    have q0 : ¬ q = 0 := by omega
    have qn : (q == 0) = false := by simpa using q0
    have ew : (match (some (su, r, q) : Option (Int × Int × Int)) with | none => (-1 : Int) | some (_, r, q) => if r = q - 1 then kind - r else kind + 1) = if r = q - 1 then kind - r else kind + 1 := rfl
    rw [ew]
    rw [← hv]
    clear hv
    rw [hx] at hf
    simp only [SV.val, findV, placeV] at hf
    simp only [evFn, Try.f25, SV.val, SV.hp, placeT]
    simp [ec_skip, ec_label, ek_reg, ek_draw, ek_seq, ec_cond, ek_block, ec_loop, ec_exit, ec_ret, ec_scope, ek_nil, ek_op, opK_some, regK_some, seqK_normal, seqK_exit, seqK_ret, blockK_normal, blockK_exit, blockK_ret, evOp, vOp, hOpB, hOpU, hOp, hOpT, aAppendG_tab, aWanted, aYielded, opd, putT, closedV, aBin, intOp, sameK, mapO, joinR, hasAddr, boundOf, pushB, aAlloc, Value.cells, lookB, setB, Nat.beq_eq, tm_n_set, tm_get_set, tm_of_n, tm_of_get, tm_tr_set, tm_tr_of, cellV, putF, appR_eq, takeR_eq, dropR_eq, setR_eq, getR_eq, ↓C75, ↓C76, ↓C77, ↓C79, ↓C17, ↓C18, ↓C22, ↓C71, FA24_0, FA24_1, FA24_2, FA24_3, FA24_4, FA24_5, FA24_6, FA24_7, FA24_8, LD3, LD4, LD22, LD27, LDr, LD24, LEN22, IA22, tkc, cellAt, ↓Cfind, hf, ↓AL43, ST43]
    generalize hX : evDrawX _ _ _ _ _ = X
    obtain ⟨tm, rfl, hn', t4⟩ := draw_ro (Pt := fun tm => tm.get 4 = .int .i64 (wrapI .i64 (wrapI .i64 (kind - r) + (wrapI .i64 (r + 1)).tmod q))) hX (by kernel_rfl) (by simp [decrK]) (by
      clear hX
      generalize befs _ = M
      simp [mapO, drRun, drOp, dr3, looks, guardT, tmpsOf, Op.operands, Call.operands, wantedR, gOf, finT, natMem, isNil, writesF, evOp, vOp, hOpB, hOpU, hOp, hOpT, aAppendG_tab, opd, closedV, aBin, intOp, sameK, opdO, boundOf, undef, lookB, Nat.beq_eq, tm_n_set, tm_get_set, tm_of_n, tm_of_get, tm_tr_set, tm_tr_of, b02, b12, b32, ↓G75, W75, ↓G76, W76, ↓G77, W77, ↓G79, W79, ↓G17, W17, ↓G18, W18, ↓G22, W22, ↓G71, W71, tv, all1, roB, roK, news, newOnes, decr, tkc, cellAt, LD3, LD4, LD22, LD27, LDr, LD24, LEN22, IA22, FA24_0, FA24_1, FA24_2, FA24_3, FA24_4, FA24_5, FA24_6, FA24_7, FA24_8, hasR, FP0, FP1, FP2, q0, qn]

      refine ⟨by simp [dynOK, b02, b12, b32, Nat.blt_eq, tm_n_set, tm_of_n], by simp [wheap, news, b02, b12, b32]⟩)
    simp [tm_n_set] at hn'
    simp [ec_skip, ec_label, ek_reg, ek_draw, ek_seq, ec_cond, ek_block, ec_loop, ec_exit, ec_ret, ec_scope, ek_nil, ek_op, opK_some, regK_some, seqK_normal, seqK_exit, seqK_ret, blockK_normal, blockK_exit, blockK_ret, evOp, vOp, hOpB, hOpU, hOp, hOpT, aAppendG_tab, aWanted, aYielded, opd, putT, closedV, aBin, intOp, sameK, mapO, joinR, hasAddr, boundOf, pushB, aAlloc, Value.cells, lookB, setB, Nat.beq_eq, tm_n_set, tm_get_set, tm_of_n, tm_of_get, tm_tr_set, tm_tr_of, cellV, putF, appR_eq, takeR_eq, dropR_eq, setR_eq, getR_eq, ↓C75, ↓C76, ↓C77, ↓C79, ↓C17, ↓C18, ↓C22, ↓C71, FA24_0, FA24_1, FA24_2, FA24_3, FA24_4, FA24_5, FA24_6, FA24_7, FA24_8, LD3, LD4, LD22, LD27, LDr, LD24, LEN22, IA22, tkc, cellAt, hn', t4, finF, takeM, resV, cleanedG, kp, below]

end

section
set_option linter.unusedSimpArgs false
set_option linter.unusedVariables false

theorem findRows_low : ∀ (l : List (Int × Nat)) (c kind su r q : Int), findRows l c kind = some (su, r, q) → c ≤ kind - r ∧ 0 ≤ r ∧ r < q
  | [], c, kind, su, r, q, h => by cases h
  | (su', q') :: l, c, kind, su, r, q, h => by
    simp only [findRows] at h
    split at h
    · cases h; omega
    · have := findRows_low l _ _ _ _ _ h
      omega
/-- Every place of the row is found. -/
theorem findRows_row : ∀ (l : List (Int × Nat)) (c kind su r q : Int), findRows l c kind = some (su, r, q) → ∀ j : Int, 0 ≤ j → j < q → findRows l c (kind - r + j) = some (su, j, q)
  | [], c, kind, su, r, q, h => by cases h
  | (su', q') :: l, c, kind, su, r, q, h => by
    intro j h0 h1
    simp only [findRows] at h ⊢
    split at h
    · cases h
      rw [if_pos (by omega)]
      simp only [Option.some.injEq, Prod.mk.injEq, true_and, and_true]
      omega
    · have := findRows_low l _ _ _ _ _ h
      rw [if_neg (by omega)]
      exact findRows_row l _ _ _ _ _ h j h0 h1
theorem find_row {s : SV} {kind su r q : Int} (h : s.find kind = some (su, r, q)) {j : Int} (h0 : 0 ≤ j) (h1 : j < q) : s.find (kind - r + j) = some (su, j, q) := by
  unfold SV.find at h ⊢
  split at h
  · rename_i he
    rw [if_pos he]
    exact findRows_row _ _ _ _ _ _ h j h0 h1
  · cases h
theorem findRows_some : ∀ (l : List (Int × Nat)) (c kind : Int), c ≤ kind → kind < c + ((l.map (fun p => (p.2 : Int))).sum) → ∃ x, findRows l c kind = some x
  | [], c, kind, h1, h2 => by simp at h2; omega
  | (su, q) :: l, c, kind, h1, h2 => by
    simp only [findRows]
    split
    · exact ⟨_, rfl⟩
    · simp only [List.map_cons, List.sum_cons] at h2
      exact findRows_some l _ _ (by omega) (by omega)
theorem suitRows_sum (g : Nat → Int) : ∀ (k i : Nat) (a : Int), (∀ j, i ≤ j → j < i + k → 1 ≤ g j ∧ g j ≤ 9) → 0 ≤ a → a + 9 * k ≤ 1000 → sumG g k i a = a + ((suitRows g k i).map (fun p => (p.2 : Int))).sum
  | 0, i, a, _, _, _ => by simp [sumG, suitRows]
  | k + 1, i, a, h, ha, hb => by
    obtain ⟨b1, b2⟩ := h i (Nat.le_refl _) (by omega)
    simp only [sumG, suitRows, List.map_cons, List.sum_cons]
    rw [wrapI_small (by omega) (by omega), suitRows_sum g k (i + 1) (a + g i) (fun j h1 h2 => h j (by omega) (by omega)) (by omega) (by omega)]
    omega
theorem find_some {s : SV} {kind : Int} (he : s.err = 0) (h0 : 0 ≤ kind) (h1 : kind < s.plain + s.f) : ∃ su r q, s.find kind = some (su, r, q) := by
  have hs := small_of_err he
  obtain ⟨p0, p1, e0⟩ := plain_small hs
  obtain ⟨w1, w2⟩ := hs.w
  obtain ⟨d1, d2⟩ := hs.d
  obtain ⟨f1, f2⟩ := hs.f
  have hn := hs.n
  have e := suitRows_sum s.g s.n 0 (s.w + s.d) (fun j _ hj => hs.g j (by omega)) (by omega) (by omega)
  have hp : s.plain = s.w + s.d + ((suitRows s.g s.n 0).map (fun p => (p.2 : Int))).sum := by
    unfold SV.plain
    rw [e0, e]
  have hq : ((s.rows).map (fun p => (p.2 : Int))).sum = s.plain + s.f := by
    unfold SV.rows SV.tail
    simp only [List.map_append, List.sum_append, List.map_cons, List.map_nil, List.sum_cons, List.sum_nil]
    omega
  obtain ⟨⟨su, r, q⟩, hx⟩ := findRows_some s.rows 0 kind h0 (by omega)
  exact ⟨su, r, q, by unfold SV.find; rw [if_pos he, hx]⟩
/-- One step along a row. -/
theorem aft_row {s : SV} {kind su r q : Int} (h : s.find kind = some (su, r, q)) {i : Int} (hi : 1 ≤ i) (hq : i ≤ q) :
    s.aft (kind - r + (r + i - 1) % q) = kind - r + (r + i) % q ∧ s.find (kind - r + (r + i) % q) = some (su, (r + i) % q, q) ∧ (kind - r + (r + i) % q = kind ↔ i = q) := by
  obtain ⟨_, r0, rq, k0, _⟩ := find_spec h
  have m0 := Int.emod_nonneg (r + i - 1) (show q ≠ 0 by omega)
  have m1 := Int.emod_lt_of_pos (r + i - 1) (show 0 < q by omega)
  have n0 := Int.emod_nonneg (r + i) (show q ≠ 0 by omega)
  have n1 := Int.emod_lt_of_pos (r + i) (show 0 < q by omega)
  have e1 : (r + i - 1) % q = if r + i - 1 < q then r + i - 1 else r + i - 1 - q := by
    split
    · exact Int.emod_eq_of_lt (by omega) (by omega)
    · rw [← Int.emod_eq_of_lt (a := r + i - 1 - q) (b := q) (by omega) (by omega), Int.sub_emod_right]
  have e2 : (r + i) % q = if r + i < q then r + i else r + i - q := by
    split
    · exact Int.emod_eq_of_lt (by omega) (by omega)
    · by_cases c : r + i - q < q
      · rw [← Int.emod_eq_of_lt (a := r + i - q) (b := q) (by omega) c, Int.sub_emod_right]
      · omega
  refine ⟨?_, find_row h n0 n1, ?_⟩
  · unfold SV.aft
    rw [find_row h m0 m1]
    show (if (r + i - 1) % q = q - 1 then kind - r + (r + i - 1) % q - (r + i - 1) % q else kind - r + (r + i - 1) % q + 1) = _
    rw [e1, e2]
    split <;> split <;> split <;> omega
  · rw [e2]
    split <;> omega

end

section
set_option linter.unusedSimpArgs false
set_option linter.unusedVariables false

noncomputable def seeL (bs : List (Nat × ABlk)) : Value → Option (Nat × (Nat → Int))
  | .slice none 0 0 => some (0, fun _ => 0)
  | .slice (some ⟨a, 0, none⟩) n 1 => match lookB bs a with
    | some (.cells _ cs) => if okC cs n then some (n, gi cs) else none
    | _ => none
  | _ => none
/-- A set whose first list is not nil. -/
noncomputable def seeC (v : Value) (bs : List (Nat × ABlk)) : Option SV :=
  match v with
  | .agg ⟨[.int .i64 p, .slice (some a) n z, .int .i64 w, .int .i64 d, .int .i64 f, .int .i64 c, .int .i64 m, .int .i64 de, u8]⟩ =>
    match seeL bs (.slice (some a) n z), seeL bs u8 with
    | some (n, g), some (k, h) => if Nat.ble n 200 && Nat.ble k 200 then some ⟨p, n, g, w, d, f, c, m, de, k, h⟩ else none
    | _, _ => none
  | _ => none
noncomputable def setH (f : FuncId) (ans : SV → List Value → Option Value) : Value → List Value → AH → Option (Value × AH) := fun fv args H =>
  match fv, args with
  | .func (.func f') ⟨[]⟩ ⟨[]⟩, v :: rest =>
    if Nat.beq f' f && rest.all (closedV 3) then
      match seeC v H.bs with
      | some s => match ans s rest with
        | some r => some (r, H)
        | none => none
      | none => none
    else none
  | _, _ => none

theorem seeL_spec {bs : List (Nat × ABlk)} {u : Value} {n : Nat} {g : Nat → Int} (h : seeL bs u = some (n, g)) :
    (u = .slice none 0 0 ∧ n = 0) ∨ ∃ a ro cs, u = .slice (some ⟨a, 0, none⟩) n 1 ∧ lookB bs a = some (.cells ro cs) ∧ okC cs n = true ∧ g = gi cs := by
  unfold seeL at h
  split at h
  · cases h; exact .inl ⟨rfl, rfl⟩
  · split at h
    · rename_i ro cs hl
      split at h
      · rename_i hc
        cases h
        exact .inr ⟨_, ro, cs, rfl, hl, hc, rfl⟩
      · cases h
    · cases h
  · cases h

/-- A list in cells, as a list that is told by a function. -/
theorem list_rel {B : Nat} {ρ : BMap} {bs : List (Nat × ABlk)} {w : World} (hH : HRel B ρ bs w) {a n : Nat} {ro : Bool} {cs : List Value} (hl : lookB bs a = some (.cells ro cs)) (hc : okC cs n = true) {u : Value} (hu : VRel ρ (.slice (some ⟨a, 0, none⟩) n 1) u) :
    ∃ b o cap, u = .slice (some ⟨b, o, none⟩) n cap ∧ n ≤ cap ∧ b < w.heap.size ∧ ∃ (ccs : Array Value) (e : TypeId) (fz : Nat × Nat), w.heap[b]? = some (.cells ccs e fz) ∧ ∀ j : Nat, j < n → ccs[o + j]? = some (.int .i64 (gi cs j)) := by
  cases hu with
  | slice hρ hle ht =>
    rename_i b o tot cap
    obtain ⟨x, hx, hr⟩ := hH.blk a _ hl
    rw [hρ] at hx; cases hx
    have hlt := hr.lt
    obtain ⟨ccs, e, fz, h1, h2, _⟩ := hr
    refine ⟨b, o + 0, cap, rfl, hle, hlt, ccs, e, fz, h1, fun j hj => ?_⟩
    obtain ⟨v, hv, hvr⟩ := h2 j _ (okC_at hc hj)
    cases hvr
    simpa using hv

theorem setH_ok {P : Program} {call0 : Value → List Value → AH → Option (Value × AH)} (hC : CallOK P call0) {f : FuncId} {ans : SV → List Value → Option Value}
    (ha : ∀ s rest v, s.n ≤ 200 → s.k ≤ 200 → ans s rest = some v → closedV 5 v = true ∧ ∃ H', call0 (.func (.func f) #[] #[]) (s.val :: rest) s.hp = some (v, H')) : CallOK P (setH f ans) := by
  intro fv args H v H' h
  unfold setH at h
  split at h
  · rename_i f' v0 rest
    split at h
    · rename_i hf
      simp only [Bool.and_eq_true] at hf
      obtain ⟨hf, hrest⟩ := hf
      split at h
      · rename_i s hs
        split at h
        · rename_i r hr
          cases h
          have hff : f' = f := Nat.eq_of_beq_eq_true hf
          subst hff
          unfold seeC at hs
          split at hs
          · rename_i p a n0 z wi d fl c m de u8
            split at hs
            · rename_i n g k hh h1 h8
              split at hs
              · rename_i hb
                simp only [Bool.and_eq_true, Nat.ble_eq] at hb
                cases hs
                obtain ⟨hcl, H2, hcall⟩ := ha _ _ _ hb.1 hb.2 hr
                refine ⟨Nat.le_refl _, fun B ρ w fv' args' hfv hargs hH _ => ?_⟩
                rcases seeL_spec h1 with ⟨e1, _⟩ | ⟨a1, ro1, cs1, e1, l1, c1, rfl⟩
                · cases e1
                cases e1
                -- the first argument
                have hsz : args'.size = rest.length + 1 := by have := hargs.1; simp at this; omega
                have h0 := hargs.2 0 _ _ rfl (Array.getElem?_eq_getElem (show 0 < args'.size by omega))
                generalize hu0 : args'[0] = u0 at h0
                cases h0 with
                | agg hs0 hc0 =>
                  rename_i cc
                  have hcs : cc.size = 9 := by rw [← hs0]; rfl
                  have get : ∀ (j : Nat) (hj : j < 9) (y : Value), (#[Value.int .i64 p, .slice (some ⟨a1, 0, none⟩) n0 1, .int .i64 wi, .int .i64 d, .int .i64 fl, .int .i64 c, .int .i64 m, .int .i64 de, u8] : Array Value)[j]? = some y → VRel ρ y (cc[j]'(by omega)) := fun j hj y hy => hc0 j y _ hy (Array.getElem?_eq_getElem (by omega))
                  obtain ⟨b, o, cap, e1, hcap, hbl, ccs, ty, fz, hb1, hcells⟩ := list_rel hH l1 c1 (get 1 (by omega) _ rfl)
                  -- the second list
                  have second : ∃ x8 : Nat × Nat × Nat, (∀ ρ2 : BMap, ρ2 1 = some x8 → VRel ρ2 (.slice (some ⟨1, 0, some 1⟩) k 0) (cc[8]'(by omega))) ∧ ∀ ρ2 : BMap, BRel ρ2 w.heap.size w x8 (.ints hh) := by
                    have h8r := get 8 (by omega) _ rfl
                    rcases seeL_spec h8 with ⟨rfl, rfl⟩ | ⟨a8, ro8, cs8, rfl, l8, c8, rfl⟩
                    · refine ⟨(b, o, 0), fun ρ2 _ => ?_, fun ρ2 => ⟨hbl, ccs, ty, fz, hb1, fun j hj => absurd hj (Nat.not_lt_zero _), Nat.zero_le _⟩⟩
                      generalize cc[8]'(by omega) = q at h8r
                      cases h8r with
                      | snil => exact .rnil
                    · obtain ⟨b', o', cap', e8, hcap', hbl', ccs', ty', fz', hb', hcells'⟩ := list_rel hH l8 c8 h8r
                      refine ⟨(b', o', k), fun ρ2 h2 => ?_, fun ρ2 => ⟨hbl', ccs', ty', fz', hb', hcells', hb.2⟩⟩
                      rw [e8]
                      exact .rsl h2 hcap' (Nat.le_refl _)
                  obtain ⟨x8, r8, b8⟩ := second
                  let ρ2 : BMap := fun i => match i with
                    | 0 => some (b, o, n0)
                    | 1 => some x8
                    | _ => none
                  let s : SV := ⟨p, n0, gi cs1, wi, d, fl, c, m, de, k, hh⟩
                  have hrel : HRel w.heap.size ρ2 s.hp.bs w := by
                    have one : ∀ i q, lookB s.hp.bs i = some q → q.rw = false ∧ ∃ x, ρ2 i = some x ∧ BRel ρ2 w.heap.size w x q := by
                      intro i q hq
                      match i with
                      | 0 => cases hq; exact ⟨rfl, _, rfl, hbl, ccs, ty, fz, hb1, hcells, hb.1⟩
                      | 1 => cases hq; exact ⟨rfl, _, rfl, b8 _⟩
                      | i + 2 => simp [s, SV.hp, lookB, Nat.beq_eq] at hq
                    refine ⟨Nat.le_refl _, fun i q hq => (one i q hq).2, fun i j ki kj xi xj hi hj hki => ?_, hH.glob.of hH.hB fun _ _ => rfl⟩
                    rw [(one i ki hi).1] at hki
                    cases hki
                  have hargs2 : LRel ρ2 (s.val :: rest) args' := by
                    refine ⟨by simpa using hargs.1, fun jj yy yy' hy hy' => ?_⟩
                    rcases jj with _ | jj
                    · cases hy
                      rw [Array.getElem?_eq_getElem (show 0 < args'.size by omega), hu0] at hy'
                      cases hy'
                      refine .agg hs0 fun j y y' hy hy' => ?_
                      have hj : j < 9 := by
                        have := (Array.getElem?_eq_some_iff.1 hy).1
                        exact this
                      rw [Array.getElem?_eq_getElem (show j < cc.size by omega)] at hy'
                      cases hy'
                      match j with
                      | 0 => cases hy; have := get 0 (by omega) _ rfl; generalize cc[0]'(by omega) = q at this ⊢; cases this; exact .int _ _
                      | 1 => cases hy; rw [e1]; exact .rsl rfl hcap (Nat.le_refl _)
                      | 2 => cases hy; have := get 2 (by omega) _ rfl; generalize cc[2]'(by omega) = q at this ⊢; cases this; exact .int _ _
                      | 3 => cases hy; have := get 3 (by omega) _ rfl; generalize cc[3]'(by omega) = q at this ⊢; cases this; exact .int _ _
                      | 4 => cases hy; have := get 4 (by omega) _ rfl; generalize cc[4]'(by omega) = q at this ⊢; cases this; exact .int _ _
                      | 5 => cases hy; have := get 5 (by omega) _ rfl; generalize cc[5]'(by omega) = q at this ⊢; cases this; exact .int _ _
                      | 6 => cases hy; have := get 6 (by omega) _ rfl; generalize cc[6]'(by omega) = q at this ⊢; cases this; exact .int _ _
                      | 7 => cases hy; have := get 7 (by omega) _ rfl; generalize cc[7]'(by omega) = q at this ⊢; cases this; exact .int _ _
                      | 8 => cases hy; exact r8 _ rfl
                      | j + 9 => omega
                    · have hr1 := hargs.2 (jj + 1) yy yy' hy hy'
                      have hcl := List.all_eq_true.1 hrest yy (List.mem_of_getElem? (l := rest) (i := jj) (by simpa using hy))
                      have := closedV_eq 3 yy yy' hcl hr1
                      subst this
                      exact closedV_rel _ 3 _ hcl
                  obtain ⟨_, st⟩ := hC _ _ _ _ _ hcall
                  obtain ⟨fn, cap2, nn, fr, e0, i1, i2, i3⟩ := st w.heap.size ρ2 w (.func (.func f') #[] #[]) args' (.func rfl (fun j v v' hv => by simp at hv)) hargs2 hrel (fun q q1 _ => by
                    match q with
                    | 0 => exact absurd q1 (by simp [SV.hp])
                    | 1 => exact absurd q1 (by simp [SV.hp])
                    | q + 2 => rfl)
                  cases e0
                  cases hfv with
                  | func hs _ =>
                    have hc' := Array.eq_empty_of_size_eq_zero hs.symm
                    subst hc'
                    refine ⟨.func f', #[], nn, fr, rfl, i1, i2, fun c cs => ?_⟩
                    obtain ⟨ρ', w', u, stt, hu, hp⟩ := i3 c cs
                    have := closedV_eq 5 _ u hcl hu
                    subst this
                    exact ⟨ρ, w', _, stt, closedV_rel ρ 5 _ hcl, Ext.refl ρ, fun _ _ => rfl, hH.keep hp.below, hp.below.mono hH.hB⟩
              · cases hs
            · cases hs
          · cases hs
        · cases h
      · cases h
    · cases h
  · cases h

end

section
set_option linter.unusedSimpArgs false
set_option linter.unusedVariables false

theorem b03 : Nat.beq 0 3 = false := rfl
theorem b13 : Nat.beq 1 3 = false := rfl
theorem b23 : Nat.beq 2 3 = false := rfl
theorem look_none : ∀ (bs : List (Nat × ABlk)) (i : Nat), (∀ p ∈ bs, p.1 < i) → lookB (roB bs) i = none
  | [], _, _ => rfl
  | (j, k) :: r, i, h => by
    have ih := look_none r i fun p hp => h p (List.mem_cons_of_mem _ hp)
    have hj : ¬ i = j := by have := h (j, k) List.mem_cons_self; simp only at this; omega
    simp only [roB]
    split
    · simp only [lookB, Nat.beq_eq, hj, if_false, ih]
    · exact ih
theorem newOnes_ro : ∀ (bs : List (Nat × ABlk)) (i : Nat), (∀ p ∈ bs, p.1 < i) → newOnes i (roB bs) = []
  | [], _, _ => rfl
  | (j, k) :: r, i, h => by
    have ih := newOnes_ro r i fun p hp => h p (List.mem_cons_of_mem _ hp)
    have hj : ¬ i ≤ j := by have := h (j, k) List.mem_cons_self; simp only at this; omega
    simp only [roB]
    split
    · simp [newOnes, Nat.ble_eq, hj]
    · exact ih
theorem hasR_ro : ∀ bs : List (Nat × ABlk), hasR (roB bs) = false
  | [] => rfl
  | (j, k) :: r => by
    have ih := hasR_ro r
    cases k <;> simp [roB, roK, hasR, ih]
theorem Nbelow : ((tabT Try.prog) 50).map (fun z => z.ex.nat 95) = some none := by kernel_rfl
theorem Cbelow (call : Value → List Value → AH → Option (Value × AH)) {tm : Tm} {i j : Nat} {H : AH} {d : Option Tmp} {t : TypeId} {p : String} {a : Array Edge} {gd : Option (Nat × Bool)} : evOp (tabT Try.prog) call ⟨d, .call ⟨.value (.func 95), #[.tmp i, .tmp j], #[50, 3]⟩, t, p, a, gd⟩ (opd tm) H = call (.func (.func 95) #[] #[]) [tm.get i, tm.get j] H :=
  evOp_evO.trans (eo_call2n rfl rfl rfl Nbelow)
theorem Crange (call : Value → List Value → AH → Option (Value × AH)) {tm : Tm} {i j k : Nat} {H : AH} {d : Option Tmp} {t : TypeId} {p : String} {a : Array Edge} {gd : Option (Nat × Bool)} : evOp (tabT Try.prog) call ⟨d, .call ⟨.value (.func 79), #[.tmp i, .tmp j, .tmp k], #[50, 3, 3]⟩, t, p, a, gd⟩ (opd tm) H = call (.func (.func 79) #[] #[]) [tm.get i, tm.get j, tm.get k] H :=
  evOp_evO.trans (eo_call3 rfl rfl rfl rfl)
theorem Nodds : ((tabT Try.prog) 50).map (fun z => z.ex.nat 77) = some none := by kernel_rfl
theorem Codds (call : Value → List Value → AH → Option (Value × AH)) {tm : Tm} {i j : Nat} {H : AH} {d : Option Tmp} {t : TypeId} {p : String} {a : Array Edge} {gd : Option (Nat × Bool)} : evOp (tabT Try.prog) call ⟨d, .call ⟨.value (.func 77), #[.tmp i, .tmp j], #[50, 3]⟩, t, p, a, gd⟩ (opd tm) H = call (.func (.func 77) #[] #[]) [tm.get i, tm.get j] H :=
  evOp_evO.trans (eo_call2n rfl rfl rfl Nodds)
theorem LDu (H : AH) (i off : Nat) : aLoad (tabT Try.prog) H 48 (.pointer (some ⟨i, off, none⟩)) = cellAt H.bs i off := ldc (by kernel_rfl) H i off
theorem STu (H : AH) (i off : Nat) (v : Value) : aStore (tabT Try.prog) H 48 (.pointer (some ⟨i, off, none⟩)) v = match lookB H.bs i with
    | some (.cells false cs) => if Nat.beq v.cells.toList.length 1 && Nat.ble (off + v.cells.toList.length) cs.length && v.cells.toList.all cellV then some { H with bs := setB H.bs i (.cells false (putF cs off v.cells.toList)) } else none
    | _ => none := sti (by kernel_rfl) H i off v
theorem CVi (call : Value → List Value → AH → Option (Value × AH)) {tm : Tm} {j : Nat} {H : AH} {d : Option Tmp} {t : TypeId} {p : String} {a : Array Edge} {gd : Option (Nat × Bool)} : evOp (tabT Try.prog) call ⟨d, .convert 3 48 (.tmp j), t, p, a, gd⟩ (opd tm) H = match tm.get j with | .int _ n => some (.int .u64 (wrapI .u64 n), H) | _ => evO (tabT Try.prog) call (.convert 3 48 (.tmp j)) (opd tm) H := by
  rw [evOp_evO]
  split
  · rename_i kk n h
    refine evO_v ?_
    rw [cvt (k := .u64) (by kernel_rfl) (by kernel_rfl)]
    simp only [opd_tmp, h]
  · rfl
theorem CViv {g : Operand → Option Value} {x : Operand} : vOp (tabT Try.prog) g (.convert 3 48 x) = match g x with | some (.int _ n) => some (.int .u64 (wrapI .u64 n)) | _ => none := cvt (by kernel_rfl) (by kernel_rfl)
theorem CVu (call : Value → List Value → AH → Option (Value × AH)) {tm : Tm} {j : Nat} {H : AH} {d : Option Tmp} {t : TypeId} {p : String} {a : Array Edge} {gd : Option (Nat × Bool)} : evOp (tabT Try.prog) call ⟨d, .convert 48 3 (.tmp j), t, p, a, gd⟩ (opd tm) H = match tm.get j with | .int _ n => some (.int .i64 (wrapI .i64 n), H) | _ => evO (tabT Try.prog) call (.convert 48 3 (.tmp j)) (opd tm) H := by
  rw [evOp_evO]
  split
  · rename_i kk n h
    refine evO_v ?_
    rw [cvt (k := .i64) (by kernel_rfl) (by kernel_rfl)]
    simp only [opd_tmp, h]
  · rfl
theorem CVuv {g : Operand → Option Value} {x : Operand} : vOp (tabT Try.prog) g (.convert 48 3 x) = match g x with | some (.int _ n) => some (.int .i64 (wrapI .i64 n)) | _ => none := cvt (by kernel_rfl) (by kernel_rfl)
theorem FAs (i : Nat) : aFieldAddr (tabT Try.prog) 104 (.pointer (some ⟨i, 0, none⟩)) 0 = some (.pointer (some ⟨i, 0, none⟩)) := by kernel_rfl
theorem kp65 : (kpT 95, gcT 95) = (true, false) := by kernel_rfl
theorem kp49 : (kpT 79, gcT 79) = (true, false) := by kernel_rfl
theorem kp47 : (kpT 77, gcT 77) = (true, false) := by kernel_rfl

noncomputable def sB (x : Int) : ABlk := .cells false [.int .u64 x]
noncomputable def stB (x : Int) : Int := wrapI .u64 (wrapI .u64 (x * 15074714826142052245) + 7146057691288625177)
noncomputable def rawB (x : Int) : Int := (bits .xor .u64 x (x.fdiv 2147483648)).fdiv 1048576
noncomputable def belV (x : Int) (n : Nat) : Int := wrapI .i64 ((rawB (stB x)).tmod n)
theorem bits_bd (op : BinOp) (a b : Int) : 0 ≤ bits op .u64 a b ∧ bits op .u64 a b < 18446744073709551616 := by
  simp only [bits, IntKind.wrap, IntKind.signed, IntKind.bits]
  simp
  omega
theorem raw_bd (x : Int) : 0 ≤ rawB x ∧ rawB x < 18446744073709551616 := by
  have h := bits_bd .xor x (x.fdiv 2147483648)
  unfold rawB
  rw [Int.fdiv_eq_ediv_of_nonneg _ (by omega)]
  omega
theorem belV_bd (x : Int) {n : Nat} (h1 : 1 ≤ n) (h2 : n ≤ 1000) : 0 ≤ belV x n ∧ belV x n < n := by
  have h := raw_bd (stB x)
  have ht : (rawB (stB x)).tmod n = rawB (stB x) % n := Int.tmod_eq_emod_of_nonneg h.1
  have hm0 := Int.emod_nonneg (rawB (stB x)) (show (n : Int) ≠ 0 by omega)
  have hm1 := Int.emod_lt_of_pos (rawB (stB x)) (show (0 : Int) < n by omega)
  unfold belV
  rw [ht, wrapI_small (by omega) (by omega)]
  omega
theorem wrapUn {n : Nat} (h : n ≤ 1000) : wrapI .u64 (n : Int) = n := by simp only [wrapI]; omega
theorem SH31 (x : Int) : shOp .shr .u64 x 31 = some (.int .u64 (x.fdiv 2147483648)) := by
  simp [shOp, IntKind.bits]
theorem SH20 (x : Int) : shOp .shr .u64 x 20 = some (.int .u64 (x.fdiv 1048576)) := by
  simp [shOp, IntKind.bits]
set_option maxRecDepth 10000 in
set_option maxHeartbeats 8000000 in
theorem below_ev {L : Nat} (call : Value → List Value → AH → Option (Value × AH)) (p N : Nat) (bs : List (Nat × ABlk)) (x : Int) (n : Nat) (h1 : 1 ≤ n) (h2 : n ≤ 1000) (hM : MI ⟨N, bs⟩) (h : lookB bs p = some (sB x)) :
    evFn (tabT Try.prog) call (L + 300) kpT 95 Try.f95 [.pointer (some ⟨p, 0, none⟩), .int .i64 (n : Int)] ⟨N, bs⟩ = some (.int .i64 (belV x n), ⟨N, setB bs p (sB (stB x))⟩) := by
  have kp := kp65
  simp only [Prod.mk.injEq] at kp
  obtain ⟨kp1, kp2⟩ := kp
  have wu := wrapUn h2
  have n0 : ¬ (n : Int) = 0 := by omega
  have nz : ¬ n = 0 := by omega
  have n1 : ¬ (n : Int) < 1 := by omega
  have n1' : ¬ n < 1 := by omega
  unfold sB at h
  simp only [evFn, Try.f95]
  simp [ec_skip, ec_label, ek_reg, ek_draw, ek_seq, ec_cond, ek_block, ec_loop, ec_exit, ec_ret, ec_scope, ek_nil, ek_op, opK_some, regK_some, seqK_normal, seqK_exit, seqK_ret, blockK_normal, blockK_exit, blockK_ret, evOp, vOp, hOpB, hOpU, hOp, hOpT, aAppendG_tab, aWanted, aYielded, opd, putT, closedV, aBin, intOp, sameK, mapO, joinR, hasAddr, boundOf, pushB, aAlloc, Value.cells, lookB, setB, Nat.beq_eq, tm_n_set, tm_get_set, tm_of_n, tm_of_get, tm_tr_set, tm_tr_of, cellV, putF, appR_eq, takeR_eq, dropR_eq, setR_eq, getR_eq, ↓C75, ↓C76, ↓C77, ↓C79, ↓C17, ↓C18, ↓C22, ↓C71, FA24_0, FA24_1, FA24_2, FA24_3, FA24_4, FA24_5, FA24_6, FA24_7, FA24_8, LD3, LD4, LD22, LD27, LDr, LD24, LEN22, IA22, tkc, cellAt, FAs, LDu, STu, h, lookB_setB, n1, n1']
  have h3 : ((tabT Try.prog) 3).map (·.desc) = some (.int .i64) := by kernel_rfl
  have h65 : ((tabT Try.prog) 48).map (·.desc) = some (.int .u64) := by kernel_rfl
  obtain ⟨_, _, _, _, t3⟩ := tdesc h3
  obtain ⟨_, _, _, _, t65⟩ := tdesc h65
  clear h3 h65
  generalize hX : evDrawX _ _ _ _ _ = X
  have hl2 : lookB (setB bs p (.cells false [.int .u64 (stB x)])) p = some (.cells false [.int .u64 (stB x)]) := by rw [lookB_setB, if_pos rfl, h]; rfl
  have hd2 : decrK (setB bs p (.cells false [.int .u64 (stB x)])) = true := (hM.set p _).1
  have rb := lookB_roB_cells _ _ _ _ hl2 hd2
  have nw := newOnes_ro _ N (hM.set p (.cells false [.int .u64 (stB x)])).2
  have s31 := SH31 (stB x)
  have s20 := SH20 (bits .xor .u64 (stB x) ((stB x).fdiv 2147483648))
  simp only [stB] at hl2 hd2 rb nw s31 s20
  obtain ⟨tm, rfl, hn', t4⟩ := draw_ro (Pt := fun tm => tm.get 4 = .int .i64 (belV x n)) hX (by kernel_rfl) hd2 (by
    clear hX
    generalize befs _ = M
    simp [mapO, drRun, drOp, dr3, looks, guardT, tmpsOf, Op.operands, Call.operands, wantedR, gOf, finT, natMem, isNil, writesF, evOp, vOp, hOpB, hOpU, hOp, hOpT, aAppendG_tab, opd, closedV, aBin, intOp, sameK, opdO, boundOf, undef, lookB, Nat.beq_eq, tm_n_set, tm_get_set, tm_of_n, tm_of_get, tm_tr_set, tm_tr_of, b02, b12, b32, ↓G75, W75, ↓G76, W76, ↓G77, W77, ↓G79, W79, ↓G17, W17, ↓G18, W18, ↓G22, W22, ↓G71, W71, tv, all1, roB, roK, news, newOnes, decr, tkc, cellAt, LD3, LD4, LD22, LD27, LDr, LD24, LEN22, IA22, FAs, LDu, t3, t65, rb, nw, s31, s20, wu, n0, nz, tm_of_n, tm_of_get, belV, rawB, stB]
    refine ⟨by simp [dynOK, b02, b12, b32, Nat.blt_eq, tm_n_set, tm_of_n], by simp [wheap, news, b02, b12, b32]⟩)
  simp [tm_n_set] at hn'
  simp [ec_skip, ec_label, ek_reg, ek_draw, ek_seq, ec_cond, ek_block, ec_loop, ec_exit, ec_ret, ec_scope, ek_nil, ek_op, opK_some, regK_some, seqK_normal, seqK_exit, seqK_ret, blockK_normal, blockK_exit, blockK_ret, evOp, vOp, hOpB, hOpU, hOp, hOpT, aAppendG_tab, aWanted, aYielded, opd, putT, closedV, aBin, intOp, sameK, mapO, joinR, hasAddr, boundOf, pushB, aAlloc, Value.cells, lookB, setB, Nat.beq_eq, tm_n_set, tm_get_set, tm_of_n, tm_of_get, tm_tr_set, tm_tr_of, cellV, putF, appR_eq, takeR_eq, dropR_eq, setR_eq, getR_eq, ↓C75, ↓C76, ↓C77, ↓C79, ↓C17, ↓C18, ↓C22, ↓C71, FA24_0, FA24_1, FA24_2, FA24_3, FA24_4, FA24_5, FA24_6, FA24_7, FA24_8, LD3, LD4, LD22, LD27, LDr, LD24, LEN22, IA22, tkc, cellAt, hn', t4, sB, stB, finF, takeM, resV, cleanedG, hasAddr, kp1, kp2]

noncomputable def rngV (x : Int) (lo hi : Nat) : Int := (lo : Int) + belV x (hi - lo + 1)
theorem rngV_bd (x : Int) {lo hi : Nat} (h1 : lo ≤ hi) (h2 : hi ≤ 900) : (lo : Int) ≤ rngV x lo hi ∧ rngV x lo hi ≤ hi := by
  have := belV_bd x (n := hi - lo + 1) (by omega) (by omega)
  unfold rngV
  omega
set_option maxRecDepth 10000 in
set_option maxHeartbeats 8000000 in
theorem range_ev {L : Nat} (call : Value → List Value → AH → Option (Value × AH)) (p N : Nat) (bs : List (Nat × ABlk)) (x : Int) (lo hi : Nat) (h1 : lo ≤ hi) (h2 : hi ≤ 900)
    (hb : ∀ n : Nat, 1 ≤ n → n ≤ 1000 → call (.func (.func 95) #[] #[]) [.pointer (some ⟨p, 0, none⟩), .int .i64 (n : Int)] ⟨N, bs⟩ = some (.int .i64 (belV x n), ⟨N, setB bs p (sB (stB x))⟩)) :
    evFn (tabT Try.prog) call (L + 300) kpT 79 Try.f79 [.pointer (some ⟨p, 0, none⟩), .int .i64 (lo : Int), .int .i64 (hi : Int)] ⟨N, bs⟩ = some (.int .i64 (rngV x lo hi), ⟨N, setB bs p (sB (stB x))⟩) := by
  have kp := kp49
  simp only [Prod.mk.injEq] at kp
  obtain ⟨kp1, kp2⟩ := kp
  have hb' := hb (hi - lo + 1) (by omega) (by omega)
  have e1 : wrapI .i64 ((hi : Int) - lo) = (hi : Int) - lo := wrapI_small (by omega) (by omega)
  have e2 : wrapI .i64 ((hi : Int) - lo + 1) = (hi : Int) - lo + 1 := wrapI_small (by omega) (by omega)
  have e3 : ((hi - lo + 1 : Nat) : Int) = (hi : Int) - lo + 1 := by omega
  have hbd := belV_bd x (n := hi - lo + 1) (by omega) (by omega)
  have e4 : wrapI .i64 ((lo : Int) + belV x (hi - lo + 1)) = (lo : Int) + belV x (hi - lo + 1) := wrapI_small (by omega) (by omega)
  rw [e3] at hb'
  simp only [evFn, Try.f79]
  simp [ec_skip, ec_label, ek_reg, ek_draw, ek_seq, ec_cond, ek_block, ec_loop, ec_exit, ec_ret, ec_scope, ek_nil, ek_op, opK_some, regK_some, seqK_normal, seqK_exit, seqK_ret, blockK_normal, blockK_exit, blockK_ret, evOp, vOp, hOpB, hOpU, hOp, hOpT, aAppendG_tab, aWanted, aYielded, opd, putT, closedV, aBin, intOp, sameK, mapO, joinR, hasAddr, boundOf, pushB, aAlloc, Value.cells, lookB, setB, Nat.beq_eq, tm_n_set, tm_get_set, tm_of_n, tm_of_get, tm_tr_set, tm_tr_of, cellV, putF, appR_eq, takeR_eq, dropR_eq, setR_eq, getR_eq, ↓C75, ↓C76, ↓C77, ↓C79, ↓C17, ↓C18, ↓C22, ↓C71, FA24_0, FA24_1, FA24_2, FA24_3, FA24_4, FA24_5, FA24_6, FA24_7, FA24_8, LD3, LD4, LD22, LD27, LDr, LD24, LEN22, IA22, tkc, cellAt, ↓Cbelow, e1, e2, e4, hb', rngV, finF, takeM, resV, cleanedG, hasAddr, kp1, kp2]
noncomputable def oddV (x : Int) (n : Nat) : Bool := belV x n == 0
set_option maxRecDepth 10000 in
set_option maxHeartbeats 8000000 in
theorem odds_ev {L : Nat} (call : Value → List Value → AH → Option (Value × AH)) (p N : Nat) (bs : List (Nat × ABlk)) (x : Int) (n : Nat) (h1 : 1 ≤ n) (h2 : n ≤ 1000)
    (hb : ∀ n : Nat, 1 ≤ n → n ≤ 1000 → call (.func (.func 95) #[] #[]) [.pointer (some ⟨p, 0, none⟩), .int .i64 (n : Int)] ⟨N, bs⟩ = some (.int .i64 (belV x n), ⟨N, setB bs p (sB (stB x))⟩)) :
    evFn (tabT Try.prog) call (L + 300) kpT 77 Try.f77 [.pointer (some ⟨p, 0, none⟩), .int .i64 (n : Int)] ⟨N, bs⟩ = some (.bool (oddV x n), ⟨N, setB bs p (sB (stB x))⟩) := by
  have kp := kp47
  simp only [Prod.mk.injEq] at kp
  obtain ⟨kp1, kp2⟩ := kp
  have hb' := hb n h1 h2
  simp only [evFn, Try.f77]
  simp [ec_skip, ec_label, ek_reg, ek_draw, ek_seq, ec_cond, ek_block, ec_loop, ec_exit, ec_ret, ec_scope, ek_nil, ek_op, opK_some, regK_some, seqK_normal, seqK_exit, seqK_ret, blockK_normal, blockK_exit, blockK_ret, evOp, vOp, hOpB, hOpU, hOp, hOpT, aAppendG_tab, aWanted, aYielded, opd, putT, closedV, aBin, intOp, sameK, mapO, joinR, hasAddr, boundOf, pushB, aAlloc, Value.cells, lookB, setB, Nat.beq_eq, tm_n_set, tm_get_set, tm_of_n, tm_of_get, tm_tr_set, tm_tr_of, cellV, putF, appR_eq, takeR_eq, dropR_eq, setR_eq, getR_eq, ↓C75, ↓C76, ↓C77, ↓C79, ↓C17, ↓C18, ↓C22, ↓C71, FA24_0, FA24_1, FA24_2, FA24_3, FA24_4, FA24_5, FA24_6, FA24_7, FA24_8, LD3, LD4, LD22, LD27, LDr, LD24, LEN22, IA22, tkc, cellAt, ↓Cbelow, hb', oddV, finF, takeM, resV, cleanedG, hasAddr, kp1, kp2]

end

section
set_option linter.unusedSimpArgs false
set_option linter.unusedVariables false

/-- The source's next state. -/
noncomputable def nxtX (x : Int) : Int := wrapI .u64 (wrapI .u64 (x * 15074714826142052245) + 7146057691288625177)
/-- The number that it hands out then. -/
noncomputable def belX (x n : Int) : Int := if n < 1 then 0 else wrapI .i64 (((bits .xor .u64 (nxtX x) ((nxtX x).fdiv 2147483648)).fdiv 1048576).tmod (wrapI .u64 n))

theorem belX_range (x n : Int) (h1 : 1 ≤ n) (h2 : n ≤ 4611686018427387904) : 0 ≤ belX x n ∧ belX x n < n := by
  unfold belX
  rw [if_neg (by omega)]
  have hb := bounds_u64 (wf_bits .xor .u64 (nxtX x) ((nxtX x).fdiv 2147483648))
  generalize bits .xor .u64 (nxtX x) ((nxtX x).fdiv 2147483648) = a at hb
  have hw : wrapI .u64 n = n := by simp only [wrapI]; omega
  rw [hw]
  have hf : 0 ≤ a.fdiv 1048576 := Int.fdiv_nonneg hb.1 (by omega)
  generalize a.fdiv 1048576 = q at hf
  have h3 : 0 ≤ q.tmod n := Int.tmod_nonneg n hf
  have h4 : q.tmod n < n := Int.tmod_lt_of_pos q (by omega)
  rw [wrapI_small (by omega) (by omega)]
  exact ⟨h3, h4⟩

end

section
set_option linter.unusedSimpArgs false
set_option linter.unusedVariables false

theorem LD37 (H : AH) (i off : Nat) : aLoad (tabT Try.prog) H 48 (.pointer (some ⟨i, off, none⟩)) = match lookB H.bs i with | some (.cells _ cs) => cs[off]? | _ => none := ldc (by kernel_rfl) H i off
theorem FA39_0 (i off : Nat) : aFieldAddr (tabT Try.prog) 104 (.pointer (some ⟨i, off, none⟩)) 0 = some (.pointer (some ⟨i, off + 0, none⟩)) := by kernel_rfl
theorem LENI (a : Option Addr) (n z : Nat) : aLen (tabT Try.prog) 22 (.slice a n z) = some (.int .i64 n) := lens (e := 3) (by kernel_rfl) a n z
theorem ST37 (H : AH) (i off : Nat) (v : Value) : aStore (tabT Try.prog) H 48 (.pointer (some ⟨i, off, none⟩)) v = match lookB H.bs i with
    | some (.cells false cs) => if Nat.beq v.cells.toList.length 1 && Nat.ble (off + v.cells.toList.length) cs.length && v.cells.toList.all cellV then some { H with bs := setB H.bs i (.cells false (putF cs off v.cells.toList)) } else none
    | _ => none := sti (by kernel_rfl) H i off v
theorem T3e : ∃ s b z ex, (tabT Try.prog) 3 = some ⟨s, b, z, .int .i64, ex⟩ := tdesc (by kernel_rfl)
theorem T37e : ∃ s b z ex, (tabT Try.prog) 48 = some ⟨s, b, z, .int .u64, ex⟩ := tdesc (by kernel_rfl)
theorem b64 : IntKind.u64.bits = 64 := rfl

/-- A source's number and its next state. -/
def BelOK (call : Value → List Value → AH → Option (Value × AH)) (f : FuncId) : Prop := ∀ (i : Nat) (n x : Int) (H : AH), 1 ≤ n → n ≤ 4611686018427387904 → MI H → lookB H.bs i = some (.cells false [.int .u64 x]) →
  call (.func (.func f) #[] #[]) [.pointer (some ⟨i, 0, none⟩), .int .i64 n] H = some (.int .i64 (belX x n), ⟨H.next, setB H.bs i (.cells false [.int .u64 (nxtX x)])⟩)

set_option maxRecDepth 10000 in
set_option maxHeartbeats 8000000 in
theorem gc5 : gcT 37 = false := by kernel_rfl
noncomputable def intoX (n m : Int) : Int := if n.tmod m < 0 then wrapI .i64 (n.tmod m + m) else n.tmod m
theorem intoX_range (n m : Int) (h1 : 1 ≤ m) (h2 : m ≤ 1000000) : 0 ≤ intoX n m ∧ intoX n m < m := by
  unfold intoX
  have h3 : n.tmod m < m := Int.tmod_lt_of_pos n (by omega)
  have h4 : -m < n.tmod m := by
    have := Int.tmod_lt_of_pos (-n) (show 0 < m by omega)
    rw [Int.neg_tmod] at this
    omega
  split
  · rw [wrapI_small (by omega) (by omega)]; omega
  · omega
set_option maxRecDepth 10000 in
set_option maxHeartbeats 8000000 in
theorem into_ev {L : Nat} (call : Value → List Value → AH → Option (Value × AH)) {n m : Int} {H : AH} (h : ¬ m = 0) : ∃ H', evFn (tabT Try.prog) call (L + 300) kpT 42 Try.f42 [.int .i64 n, .int .i64 m] H = some (.int .i64 (intoX n m), H') := by
  simp only [evFn, Try.f42, intoX]
  by_cases c : n.tmod m < 0
  · simp [ec_skip, ec_label, ek_reg, ek_draw, ek_seq, ec_cond, ek_block, ec_loop, ec_exit, ec_ret, ec_scope, ek_nil, ek_op, opK_some, regK_some, seqK_normal, seqK_exit, seqK_ret, blockK_normal, blockK_exit, blockK_ret, evOp, vOp, hOpB, hOpU, hOp, hOpT, aAppendG_tab, aWanted, aYielded, opd, putT, closedV, aBin, intOp, sameK, mapO, joinR, hasAddr, boundOf, pushB, aAlloc, Value.cells, lookB, setB, Nat.beq_eq, tm_n_set, tm_get_set, tm_of_n, tm_of_get, tm_tr_set, tm_tr_of, cellV, putF, appR_eq, takeR_eq, dropR_eq, setR_eq, getR_eq, LD3, cellAt, tkc, LD3, LD37, FA39_0, LENI, ST37, lookB_setB, shOp, b64, finF, takeM, resV, h, c]
  · simp [ec_skip, ec_label, ek_reg, ek_draw, ek_seq, ec_cond, ek_block, ec_loop, ec_exit, ec_ret, ec_scope, ek_nil, ek_op, opK_some, regK_some, seqK_normal, seqK_exit, seqK_ret, blockK_normal, blockK_exit, blockK_ret, evOp, vOp, hOpB, hOpU, hOp, hOpT, aAppendG_tab, aWanted, aYielded, opd, putT, closedV, aBin, intOp, sameK, mapO, joinR, hasAddr, boundOf, pushB, aAlloc, Value.cells, lookB, setB, Nat.beq_eq, tm_n_set, tm_get_set, tm_of_n, tm_of_get, tm_tr_set, tm_tr_of, cellV, putF, appR_eq, takeR_eq, dropR_eq, setR_eq, getR_eq, LD3, cellAt, tkc, LD3, LD37, FA39_0, LENI, ST37, lookB_setB, shOp, b64, finF, takeM, resV, h, c]

/-- The memory with a source in block 1. -/
def HS (cs : List Value) (x : Int) : AH := ⟨2, [(1, .cells false [.int .u64 x]), (0, .cells true cs)]⟩
theorem BD39 (c : Int) : aBuild (tabT Try.prog) 104 [(0, .int .u64 c)] = some (.agg #[.int .u64 c]) := by kernel_rfl
def I5 (u : Value) (n : Nat) (cs : List Value) (m : Nat) (A : AF) (H : AH) : Prop := ∃ (i : Nat) (x : Int), i + m = n ∧ A.tm.n = 41 ∧ A.marks = [] ∧ A.tm.get 4 = .int .i64 (i : Int) ∧ A.tm.get 0 = u ∧ A.tm.get 3 = .pointer (some ⟨1, 0, none⟩) ∧ H = HS cs x
def Q5 (cs : List Value) (x : AX) (A' : AF) (H : AH) : Prop := x = .exit 0 ∧ A'.tm.n = 41 ∧ A'.marks = [] ∧ A'.tm.get 3 = .pointer (some ⟨1, 0, none⟩) ∧ ∃ y, H = HS cs y

set_option maxRecDepth 10000 in
set_option maxHeartbeats 8000000 in
theorem newSource_ev (call : Value → List Value → AH → Option (Value × AH)) {L : Nat} {u : Value} {n : Nat} {cs : List Value} (hL : n < L) (hn : n ≤ 9223372036854775807) (hcs : okC cs n = true)
    (hlen : aLen (tabT Try.prog) 22 u = some (.int .i64 n)) (hix : ∀ k : Nat, k < n → aIndexAddr (tabT Try.prog) 22 u (.int .i64 (k : Int)) = some (.pointer (some ⟨0, k, none⟩))) :
    ∃ x, evFn (tabT Try.prog) call L kpT 37 Try.f37 [u] ⟨1, [(0, .cells true cs)]⟩ = some (.pointer (some ⟨1, 0, none⟩), HS cs x) := by
  obtain ⟨_, _, _, _, t3⟩ := T3e
  obtain ⟨_, _, _, _, t37⟩ := T37e
  simp only [evFn, Try.f37]
  simp [ec_skip, ec_label, ek_reg, ek_draw, ek_seq, ec_cond, ek_block, ec_loop, ec_exit, ec_ret, ec_scope, ek_nil, ek_op, opK_some, regK_some, seqK_normal, seqK_exit, seqK_ret, blockK_normal, blockK_exit, blockK_ret, evOp, vOp, hOpB, hOpU, hOp, hOpT, aAppendG_tab, aWanted, aYielded, opd, putT, closedV, aBin, intOp, sameK, mapO, joinR, hasAddr, boundOf, pushB, aAlloc, Value.cells, lookB, setB, Nat.beq_eq, tm_n_set, tm_get_set, tm_of_n, tm_of_get, tm_tr_set, tm_tr_of, cellV, putF, appR_eq, takeR_eq, dropR_eq, setR_eq, getR_eq, LD3, cellAt, tkc, LD3, LD37, FA39_0, LENI, ST37, t3, t37, lookB_setB, shOp, b64, partsO, BD39]
  generalize hr : evLoop _ _ _ _ = rr
  obtain ⟨x, A', H', rfl, rfl, hl, hmk, h3, y, rfl⟩ := loop_go (Q := Q5 cs) hr (I5 u n cs) n hL (by
      clear hr
      refine ⟨0, 2685821657736338717, by omega, by simp [tm_n_set, tm_of_n], rfl, ?_⟩
      simp [tm_get_set, tm_n_set, tm_of_n, tm_of_get, HS]) (by
      clear hr
      rintro m A H ⟨i, x, him, hl, hmk, h4, h0, h3, rfl⟩
      simp only [runC, HS]
      cases m with
      | zero =>
        have hi : ¬ i < n := by omega
        simp [ec_skip, ec_label, ek_reg, ek_draw, ek_seq, ec_cond, ek_block, ec_loop, ec_exit, ec_ret, ec_scope, ek_nil, ek_op, opK_some, regK_some, seqK_normal, seqK_exit, seqK_ret, blockK_normal, blockK_exit, blockK_ret, evOp, vOp, hOpB, hOpU, hOp, hOpT, aAppendG_tab, aWanted, aYielded, opd, putT, closedV, aBin, intOp, sameK, mapO, joinR, hasAddr, boundOf, pushB, aAlloc, Value.cells, lookB, setB, Nat.beq_eq, tm_n_set, tm_get_set, tm_of_n, tm_of_get, tm_tr_set, tm_tr_of, cellV, putF, appR_eq, takeR_eq, dropR_eq, setR_eq, getR_eq, LD3, cellAt, tkc, LD3, LD37, FA39_0, LENI, ST37, t3, t37, lookB_setB, shOp, b64, hl, hmk, h4, h0, h3, hlen, hi]
        exact .inr ⟨by simp, rfl, by simp [tm_n_set, hl], rfl, by simp [tm_get_set, tm_n_set, hl, h3], x, rfl⟩
      | succ m =>
        have hi : i < n := by omega
        have hw : wrapI .i64 ((i : Int) + 1) = ((i + 1 : Nat) : Int) := by rw [wrapI_small (by omega) (by omega)]; rfl
        have p := hix i hi
        have c0 := okC_at hcs (j := i) (by omega)
        simp [ec_skip, ec_label, ek_reg, ek_draw, ek_seq, ec_cond, ek_block, ec_loop, ec_exit, ec_ret, ec_scope, ek_nil, ek_op, opK_some, regK_some, seqK_normal, seqK_exit, seqK_ret, blockK_normal, blockK_exit, blockK_ret, evOp, vOp, hOpB, hOpU, hOp, hOpT, aAppendG_tab, aWanted, aYielded, opd, putT, closedV, aBin, intOp, sameK, mapO, joinR, hasAddr, boundOf, pushB, aAlloc, Value.cells, lookB, setB, Nat.beq_eq, tm_n_set, tm_get_set, tm_of_n, tm_of_get, tm_tr_set, tm_tr_of, cellV, putF, appR_eq, takeR_eq, dropR_eq, setR_eq, getR_eq, LD3, cellAt, tkc, LD3, LD37, FA39_0, LENI, ST37, t3, t37, lookB_setB, shOp, b64, hl, hmk, h4, h0, h3, hlen, hi]
        generalize hX : evDrawX _ _ _ _ _ = X
        obtain ⟨tma, rfl, tman, tma4, tma0, tma3⟩ := draw_any (H' := HS cs (wrapI .u64 (bits .xor .u64 x (wrapI .u64 (gi cs i)) * 11400714819323198485))) (Pt := fun tm => tm.get 4 = .int .i64 (i : Int) ∧ tm.get 0 = u ∧ tm.get 3 = .pointer (some ⟨1, 0, none⟩)) hX (by kernel_rfl) (by simp [decrK, Nat.blt_eq]) (by
          clear hX
          generalize hM : befs _ = M
          have o1 : ordB M 14 4 = true := by rw [← hM]; kernel_rfl
          have o2 : ordB M 14 8 = true := by rw [← hM]; kernel_rfl
          clear hM
          simp [mapO, drRun, drOp, dr3, looks, guardT, tmpsOf, Op.operands, Call.operands, wantedR, gOf, finT, natMem, isNil, writesF, evOp, vOp, hOpB, hOpU, hOp, hOpT, opd, closedV, aBin, intOp, sameK, opdO, boundOf, undef, lookB, Nat.beq_eq, tm_n_set, tm_get_set, tm_of_n, tm_of_get, tm_tr_set, tm_tr_of, b02, b12, b32, roB, roK, newOnes, LD3, LD37, FA39_0, LENI, ST37, t3, t37, shOp, b64, wheap, news, Value.cells, cellV, putF, setB, appR_eq, takeR_eq, dropR_eq, setR_eq, hl, h4, h0, h3, p, c0, cellAt]
          refine ⟨_, _, ⟨rfl, rfl⟩, by simp [dynOK, b02, b12, b32, b23, b03, o1, o2, Nat.blt_eq, Nat.beq_eq], by simp [wheap, news, b02, b12, b32, HS], by simp [finT, tm_get_set, tm_n_set, hl, h4, h0, h3]⟩)
        clear hX
        simp [tm_n_set, hl] at tman
        simp only [HS]
        simp [ec_skip, ec_label, ek_reg, ek_draw, ek_seq, ec_cond, ek_block, ec_loop, ec_exit, ec_ret, ec_scope, ek_nil, ek_op, opK_some, regK_some, seqK_normal, seqK_exit, seqK_ret, blockK_normal, blockK_exit, blockK_ret, evOp, vOp, hOpB, hOpU, hOp, hOpT, aAppendG_tab, aWanted, aYielded, opd, putT, closedV, aBin, intOp, sameK, mapO, joinR, hasAddr, boundOf, pushB, aAlloc, Value.cells, lookB, setB, Nat.beq_eq, tm_n_set, tm_get_set, tm_of_n, tm_of_get, tm_tr_set, tm_tr_of, cellV, putF, appR_eq, takeR_eq, dropR_eq, setR_eq, getR_eq, LD3, cellAt, tkc, LD3, LD37, FA39_0, LENI, ST37, t3, t37, lookB_setB, shOp, b64, hmk, tman, tma4, tma0, tma3]
        generalize hX : evDrawX _ _ _ _ _ = X
        obtain ⟨tmb, rfl, tmbn, tmb4, tmb0, tmb3⟩ := draw_any (H' := HS cs (bits .xor .u64 (wrapI .u64 (bits .xor .u64 x (wrapI .u64 (gi cs i)) * 11400714819323198485)) ((wrapI .u64 (bits .xor .u64 x (wrapI .u64 (gi cs i)) * 11400714819323198485)).fdiv 536870912))) (Pt := fun tm => tm.get 4 = .int .i64 (i : Int) ∧ tm.get 0 = u ∧ tm.get 3 = .pointer (some ⟨1, 0, none⟩)) hX (by kernel_rfl) (by simp [decrK, Nat.blt_eq]) (by
          clear hX
          generalize hM : befs _ = M
          have o1 : ordB M 13 4 = true := by rw [← hM]; kernel_rfl
          have o2 : ordB M 13 8 = true := by rw [← hM]; kernel_rfl
          clear hM
          simp [mapO, drRun, drOp, dr3, looks, guardT, tmpsOf, Op.operands, Call.operands, wantedR, gOf, finT, natMem, isNil, writesF, evOp, vOp, hOpB, hOpU, hOp, hOpT, opd, closedV, aBin, intOp, sameK, opdO, boundOf, undef, lookB, Nat.beq_eq, tm_n_set, tm_get_set, tm_of_n, tm_of_get, tm_tr_set, tm_tr_of, b02, b12, b32, roB, roK, newOnes, LD3, LD37, FA39_0, LENI, ST37, t3, t37, shOp, b64, wheap, news, Value.cells, cellV, putF, setB, appR_eq, takeR_eq, dropR_eq, setR_eq, tman, tma4, tma0, tma3, p, c0, cellAt]
          refine ⟨_, _, ⟨rfl, rfl⟩, by simp [dynOK, b02, b12, b32, b23, b03, o1, o2, Nat.blt_eq, Nat.beq_eq], by simp [wheap, news, b02, b12, b32, HS], by simp [finT, tm_get_set, tm_n_set, tman, tma4, tma0, tma3]⟩)
        clear hX
        simp [tm_n_set, tman] at tmbn
        simp only [HS]
        simp [ec_skip, ec_label, ek_reg, ek_draw, ek_seq, ec_cond, ek_block, ec_loop, ec_exit, ec_ret, ec_scope, ek_nil, ek_op, opK_some, regK_some, seqK_normal, seqK_exit, seqK_ret, blockK_normal, blockK_exit, blockK_ret, evOp, vOp, hOpB, hOpU, hOp, hOpT, aAppendG_tab, aWanted, aYielded, opd, putT, closedV, aBin, intOp, sameK, mapO, joinR, hasAddr, boundOf, pushB, aAlloc, Value.cells, lookB, setB, Nat.beq_eq, tm_n_set, tm_get_set, tm_of_n, tm_of_get, tm_tr_set, tm_tr_of, cellV, putF, appR_eq, takeR_eq, dropR_eq, setR_eq, getR_eq, LD3, cellAt, tkc, LD3, LD37, FA39_0, LENI, ST37, t3, t37, lookB_setB, shOp, b64, hmk, tmbn, tmb4, tmb0, tmb3]
        refine ⟨_, _, _, ⟨rfl, rfl, rfl⟩, .inl ⟨rfl, m, rfl, i + 1, _, by omega, by simp [tm_n_set, tmbn], rfl, ?_, ?_, ?_, rfl⟩⟩
        · simp [tm_get_set, tm_n_set, tmbn, tmb4, hw]
        · simp [tm_get_set, tm_n_set, tmbn, tmb0]
        · simp [tm_get_set, tm_n_set, tmbn, tmb3])
  simp [ec_skip, ec_label, ek_reg, ek_draw, ek_seq, ec_cond, ek_block, ec_loop, ec_exit, ec_ret, ec_scope, ek_nil, ek_op, opK_some, regK_some, seqK_normal, seqK_exit, seqK_ret, blockK_normal, blockK_exit, blockK_ret, evOp, vOp, hOpB, hOpU, hOp, hOpT, aAppendG_tab, aWanted, aYielded, opd, putT, closedV, aBin, intOp, sameK, mapO, joinR, hasAddr, boundOf, pushB, aAlloc, Value.cells, lookB, setB, Nat.beq_eq, tm_n_set, tm_get_set, tm_of_n, tm_of_get, tm_tr_set, tm_tr_of, cellV, putF, appR_eq, takeR_eq, dropR_eq, setR_eq, getR_eq, LD3, cellAt, tkc, LD3, LD37, FA39_0, LENI, ST37, t3, t37, lookB_setB, shOp, b64, finF, takeM, resV, hl, hmk, h3, cleanedG, gc5, HS, hasAddr]


end

section
set_option linter.unusedSimpArgs false
set_option linter.unusedVariables false

theorem Ntotal : ((tabT Try.prog) 22).map (fun z => (z.ex.nat 82, z.ex.mnz 82)) = some (none, none) := by kernel_rfl
theorem Ctotal (call : Value → List Value → AH → Option (Value × AH)) {tm : Tm} {i : Nat} {H : AH} {d : Option Tmp} {t : TypeId} {p : String} {a : Array Edge} {gd : Option (Nat × Bool)} : evOp (tabT Try.prog) call ⟨d, .call ⟨.value (.func 82), #[.tmp i], #[22]⟩, t, p, a, gd⟩ (opd tm) H = call (.func (.func 82) #[] #[]) [tm.get i] H :=
  evOp_evO.trans (eo_call1 rfl rfl Ntotal)
theorem kpt : kpT 82 = false := by kernel_rfl
theorem kpp : kpT 43 = false := by kernel_rfl
theorem Gtot (call : Value → List Value → AH → Option (Value × AH)) {tm : Tm} {rs : List DR} {ts : List Nat} {k : Nat} {H : AH} {d : Option Tmp} {t : TypeId} {p : String} {a : Array Edge} {gd : Option (Nat × Bool)} (h : natMem ts k = true) : evOp (tabT Try.prog) call ⟨d, .call ⟨.value (.func 82), #[.tmp k], #[22]⟩, t, p, a, gd⟩ (gOf tm rs ts) H = call (.func (.func 82) #[] #[]) [(finT tm rs).get k] H :=
  evOp_evO.trans (eo_call1 rfl (by simp only [gOf, h, if_true]) Ntotal)
theorem Wtot : wrT 82 = false := by kernel_rfl

/-- A list of integers in cells, or nil. -/
def Lst (bs : List (Nat × ABlk)) (u : Value) (n : Nat) (g : Nat → Int) : Prop := (u = .slice none 0 0 ∧ n = 0) ∨ ∃ a ro cs, u = .slice (some ⟨a, 0, none⟩) n 1 ∧ lookB bs a = some (.cells ro cs) ∧ okC cs n = true ∧ g = gi cs
theorem Lst.len {bs : List (Nat × ABlk)} {u : Value} {n : Nat} {g : Nat → Int} (h : Lst bs u n g) : ∃ a z, u = .slice a n z := by
  rcases h with ⟨rfl, rfl⟩ | ⟨a, _, _, rfl, _⟩
  · exact ⟨_, _, rfl⟩
  · exact ⟨_, _, rfl⟩
theorem Lst.ro {bs : List (Nat × ABlk)} {u : Value} {n : Nat} {g : Nat → Int} (h : Lst bs u n g) (hd : decrK bs = true) : Lst (roB bs) u n g := by
  rcases h with h | ⟨a, ro, cs, h1, h2, h3, h4⟩
  · exact .inl h
  · exact .inr ⟨a, true, cs, h1, lookB_roB_cells _ _ _ _ h2 hd, h3, h4⟩
theorem Lst.push {bs : List (Nat × ABlk)} {u : Value} {n : Nat} {g : Nat → Int} (h : Lst bs u n g) {N : Nat} (hb : ∀ p ∈ bs, p.1 < N) (k : ABlk) : Lst ((N, k) :: bs) u n g := by
  rcases h with h | ⟨a, ro, cs, h1, h2, h3, h4⟩
  · exact .inl h
  · have : a < N := hb _ (lookB_mem h2)
    exact .inr ⟨a, ro, cs, h1, by simp only [lookB, beq_ne (show ¬ a = N by omega), Bool.false_eq_true, if_false]; exact h2, h3, h4⟩
theorem roB_ids : ∀ bs : List (Nat × ABlk), ((roB bs).map (·.1)).Sublist (bs.map (·.1))
  | [] => List.Sublist.slnil
  | (i, k) :: r => by
    simp only [roB]
    split
    · exact (roB_ids r).cons_cons _
    · exact (roB_ids r).cons _
theorem decrK_pw2 : ∀ bs : List (Nat × ABlk), decrK bs = true ↔ List.Pairwise (fun a b : Nat => b < a) (bs.map (·.1))
  | [] => by simp [decrK]
  | [p] => by simp [decrK]
  | (i, k) :: (j, q) :: r => by
    have ih := decrK_pw2 ((j, q) :: r)
    simp only [decrK, Bool.and_eq_true]
    rw [ih]
    simp only [List.map_cons, List.pairwise_cons]
    constructor
    · rintro ⟨h1, h2, h3⟩
      have h1' : j < i := by simpa [Nat.blt_eq] using h1
      refine ⟨fun x hx => ?_, h2, h3⟩
      rcases List.mem_cons.1 hx with rfl | hx
      · exact h1'
      · exact Nat.lt_trans (h2 x hx) h1'
    · rintro ⟨h1, h2, h3⟩
      exact ⟨by simpa [Nat.blt_eq] using h1 j List.mem_cons_self, h2, h3⟩
theorem MI.ro {H : AH} (h : MI H) : MI ⟨H.next, roB H.bs⟩ := by
  refine ⟨(decrK_pw2 _).2 (((decrK_pw2 _).1 h.1).sublist (roB_ids H.bs)), fun p hp => ?_⟩
  have hm : p.1 ∈ H.bs.map (·.1) := (roB_ids H.bs).subset (List.mem_map.2 ⟨p, hp, rfl⟩)
  obtain ⟨q, hq, e⟩ := List.mem_map.1 hm
  rw [← e]
  exact h.2 q hq
theorem below_all (n : Nat) : ∀ bs : List (Nat × ABlk), (∀ p ∈ bs, p.1 < n) → below n bs = bs
  | [], _ => rfl
  | (i, k) :: r, h => by
    have hi : Nat.blt i n = true := by simpa [Nat.blt_eq] using h (i, k) List.mem_cons_self
    simp only [below, hi, if_true, below_all n r fun p hp => h p (List.mem_cons_of_mem _ hp)]

noncomputable def IT (u : Value) (g : Nat → Int) (n : Nat) (R : Int) (H0 : AH) (m : Nat) (A : AF) (H : AH) : Prop := ∃ (i : Nat) (acc : Int), i + m = n ∧ sumG g m i acc = R ∧ A.tm.n = 18 ∧ A.marks = [] ∧ A.tm.get 4 = .int .i64 (i : Int) ∧ A.tm.get 3 = .int .i64 acc ∧ A.tm.get 0 = u ∧ H = H0
noncomputable def QT (R : Int) (H0 : AH) (y : AX) (A : AF) (H : AH) : Prop := y = .exit 0 ∧ A.tm.n = 18 ∧ A.marks = [] ∧ A.tm.get 3 = .int .i64 R ∧ H = H0
set_option maxRecDepth 10000 in
set_option maxHeartbeats 8000000 in
theorem total_ev {L : Nat} (call : Value → List Value → AH → Option (Value × AH)) (N : Nat) (bs : List (Nat × ABlk)) {u : Value} {n : Nat} {g : Nat → Int} (hn : n ≤ 200) (hM : MI ⟨N, bs⟩) (hu : Lst bs u n g) :
    evFn (tabT Try.prog) call (L + 300) kpT 82 Try.f82 [u] ⟨N, bs⟩ = some (.int .i64 (sumG g n 0 0), ⟨N, bs⟩) := by
  have kp := kpt
  have hbl := below_all N bs hM.2
  simp only [evFn, Try.f82]
  simp [ec_skip, ec_label, ek_reg, ek_draw, ek_seq, ec_cond, ek_block, ec_loop, ec_exit, ec_ret, ec_scope, ek_nil, ek_op, opK_some, regK_some, seqK_normal, seqK_exit, seqK_ret, blockK_normal, blockK_exit, blockK_ret, evOp, vOp, hOpB, hOpU, hOp, hOpT, aAppendG_tab, aWanted, aYielded, opd, putT, closedV, aBin, intOp, sameK, mapO, joinR, hasAddr, boundOf, pushB, aAlloc, Value.cells, lookB, setB, Nat.beq_eq, tm_n_set, tm_get_set, tm_of_n, tm_of_get, tm_tr_set, tm_tr_of, cellV, putF, appR_eq, takeR_eq, dropR_eq, setR_eq, getR_eq, ↓C75, ↓C76, ↓C77, ↓C79, ↓C17, ↓C18, ↓C22, ↓C71, FA24_0, FA24_1, FA24_2, FA24_3, FA24_4, FA24_5, FA24_6, FA24_7, FA24_8, LD3, LD4, LD22, LD27, LDr, LD24, LEN22, IA22, tkc, cellAt]
  generalize hr : evLoop _ _ _ _ = r
  obtain ⟨y, A', H', rfl, rfl, hl, hmk, g3, rfl⟩ := loop_go (Q := QT (sumG g n 0 0) ⟨N, bs⟩) hr (IT u g n (sumG g n 0 0) ⟨N, bs⟩) n (by omega) ⟨0, 0, by omega, rfl, rfl, rfl, rfl, rfl, rfl, rfl⟩ (by
    clear hr
    rintro m A H' ⟨i, acc, him, hsum, hl, hmk, g4, g3, g0, rfl⟩
    obtain ⟨a0, z0, hv⟩ := hu.len
    simp only [runC]
    cases m with
    | zero =>
      have hi : ¬ i < n := by omega
      subst hv
      simp only [sumG] at hsum
      simp [ec_skip, ec_label, ek_reg, ek_draw, ek_seq, ec_cond, ek_block, ec_loop, ec_exit, ec_ret, ec_scope, ek_nil, ek_op, opK_some, regK_some, seqK_normal, seqK_exit, seqK_ret, blockK_normal, blockK_exit, blockK_ret, evOp, vOp, hOpB, hOpU, hOp, hOpT, aAppendG_tab, aWanted, aYielded, opd, putT, closedV, aBin, intOp, sameK, mapO, joinR, hasAddr, boundOf, pushB, aAlloc, Value.cells, lookB, setB, Nat.beq_eq, tm_n_set, tm_get_set, tm_of_n, tm_of_get, tm_tr_set, tm_tr_of, cellV, putF, appR_eq, takeR_eq, dropR_eq, setR_eq, getR_eq, ↓C75, ↓C76, ↓C77, ↓C79, ↓C17, ↓C18, ↓C22, ↓C71, FA24_0, FA24_1, FA24_2, FA24_3, FA24_4, FA24_5, FA24_6, FA24_7, FA24_8, LD3, LD4, LD22, LD27, LDr, LD24, LEN22, IA22, tkc, cellAt, hl, hmk, g4, g3, g0, hi]
      exact .inr ⟨by simp, rfl, by simp [tm_n_set, hl], rfl, by simp [tm_get_set, tm_n_set, hl, g3, hsum], rfl⟩
    | succ m =>
      have hi : i < n := by omega
      have hw : wrapI .i64 ((i : Int) + 1) = ((i + 1 : Nat) : Int) := by rw [wrapI_small (by omega) (by omega)]; rfl
      rcases hu with ⟨_, h0⟩ | ⟨a, ro, cs, h1, h2, h3, rfl⟩
      · omega
      · subst h1
        have ix : aIndexAddr (tabT Try.prog) 22 (.slice (some ⟨a, 0, none⟩) n 1) (.int .i64 (i : Int)) = some (.pointer (some ⟨a, i, none⟩)) := by
          rw [ixa (e := 3) (z := 1) (by kernel_rfl) (by kernel_rfl) a 0 n 1 i hi]; simp
        have hc := okC_at h3 hi
        rw [sumG] at hsum
        simp [ec_skip, ec_label, ek_reg, ek_draw, ek_seq, ec_cond, ek_block, ec_loop, ec_exit, ec_ret, ec_scope, ek_nil, ek_op, opK_some, regK_some, seqK_normal, seqK_exit, seqK_ret, blockK_normal, blockK_exit, blockK_ret, evOp, vOp, hOpB, hOpU, hOp, hOpT, aAppendG_tab, aWanted, aYielded, opd, putT, closedV, aBin, intOp, sameK, mapO, joinR, hasAddr, boundOf, pushB, aAlloc, Value.cells, lookB, setB, Nat.beq_eq, tm_n_set, tm_get_set, tm_of_n, tm_of_get, tm_tr_set, tm_tr_of, cellV, putF, appR_eq, takeR_eq, dropR_eq, setR_eq, getR_eq, ↓C75, ↓C76, ↓C77, ↓C79, ↓C17, ↓C18, ↓C22, ↓C71, FA24_0, FA24_1, FA24_2, FA24_3, FA24_4, FA24_5, FA24_6, FA24_7, FA24_8, LD3, LD4, LD22, LD27, LDr, LD24, LEN22, IA22, tkc, cellAt, hl, hmk, g4, g3, g0, hi, ix, h2, hc]
        refine .inl ⟨rfl, m, rfl, i + 1, wrapI .i64 (acc + gi cs i), by omega, hsum, ?_⟩
        simp [tm_get_set, tm_n_set, hl, hmk, g0, hw])
  simp [ec_skip, ec_label, ek_reg, ek_draw, ek_seq, ec_cond, ek_block, ec_loop, ec_exit, ec_ret, ec_scope, ek_nil, ek_op, opK_some, regK_some, seqK_normal, seqK_exit, seqK_ret, blockK_normal, blockK_exit, blockK_ret, evOp, vOp, hOpB, hOpU, hOp, hOpT, aAppendG_tab, aWanted, aYielded, opd, putT, closedV, aBin, intOp, sameK, mapO, joinR, hasAddr, boundOf, pushB, aAlloc, Value.cells, lookB, setB, Nat.beq_eq, tm_n_set, tm_get_set, tm_of_n, tm_of_get, tm_tr_set, tm_tr_of, cellV, putF, appR_eq, takeR_eq, dropR_eq, setR_eq, getR_eq, ↓C75, ↓C76, ↓C77, ↓C79, ↓C17, ↓C18, ↓C22, ↓C71, FA24_0, FA24_1, FA24_2, FA24_3, FA24_4, FA24_5, FA24_6, FA24_7, FA24_8, LD3, LD4, LD22, LD27, LDr, LD24, LEN22, IA22, tkc, cellAt, hl, hmk, g3, finF, takeM, resV, cleanedG, hasAddr, kp, hbl]

/-- A set as a value, its lists wherever they lie. -/
def setCV (p : Int) (u1 : Value) (w d f c m de : Int) (u8 : Value) : Value := .agg ⟨[.int .i64 p, u1, .int .i64 w, .int .i64 d, .int .i64 f, .int .i64 c, .int .i64 m, .int .i64 de, u8]⟩
set_option maxRecDepth 10000 in
set_option maxHeartbeats 8000000 in
theorem plainC_ev {L : Nat} (call : Value → List Value → AH → Option (Value × AH)) (N : Nat) (bs : List (Nat × ABlk)) {p w d f c m de : Int} {u1 u8 : Value} {n : Nat} {g : Nat → Int} (hM : MI ⟨N, bs⟩) (hu : Lst bs u1 n g)
    (htot : ∀ (N : Nat) (bs : List (Nat × ABlk)), MI ⟨N, bs⟩ → Lst bs u1 n g → call (.func (.func 82) #[] #[]) [u1] ⟨N, bs⟩ = some (.int .i64 (sumG g n 0 0), ⟨N, bs⟩)) :
    evFn (tabT Try.prog) call (L + 300) kpT 43 Try.f43 [setCV p u1 w d f c m de u8] ⟨N, bs⟩ = some (.int .i64 (wrapI .i64 (wrapI .i64 (sumG g n 0 0 + w) + d)), ⟨N + 1, bs⟩) := by
  have kp := kpp
  have hbl := below_all N bs hM.2
  have nn : ¬ N < N := Nat.lt_irrefl N
  have nle : ¬ N + 1 ≤ N := by omega
  have hM1 := hM.push (.cells false [.int .i64 p, u1, .int .i64 w, .int .i64 d, .int .i64 f, .int .i64 c, .int .i64 m, .int .i64 de, u8])
  have hr1 := hM1.ro
  have nw := newOnes_ro _ (N + 1) hM1.2
  have ht := htot (N + 1) (roB ((N, .cells false [.int .i64 p, u1, .int .i64 w, .int .i64 d, .int .i64 f, .int .i64 c, .int .i64 m, .int .i64 de, u8]) :: bs)) hr1 ((hu.push hM.2 _).ro hM1.1)
  simp only [roB, roK] at ht nw
  simp only [evFn, Try.f43, setCV]
  simp [ec_skip, ec_label, ek_reg, ek_draw, ek_seq, ec_cond, ek_block, ec_loop, ec_exit, ec_ret, ec_scope, ek_nil, ek_op, opK_some, regK_some, seqK_normal, seqK_exit, seqK_ret, blockK_normal, blockK_exit, blockK_ret, evOp, vOp, hOpB, hOpU, hOp, hOpT, aAppendG_tab, aWanted, aYielded, opd, putT, closedV, aBin, intOp, sameK, mapO, joinR, hasAddr, boundOf, pushB, aAlloc, Value.cells, lookB, setB, Nat.beq_eq, tm_n_set, tm_get_set, tm_of_n, tm_of_get, tm_tr_set, tm_tr_of, cellV, putF, appR_eq, takeR_eq, dropR_eq, setR_eq, getR_eq, ↓C75, ↓C76, ↓C77, ↓C79, ↓C17, ↓C18, ↓C22, ↓C71, FA24_0, FA24_1, FA24_2, FA24_3, FA24_4, FA24_5, FA24_6, FA24_7, FA24_8, LD3, LD4, LD22, LD27, LDr, LD24, LEN22, IA22, tkc, cellAt]
  generalize hX : evDrawX _ _ _ _ _ = X
  obtain ⟨tm, rfl, hn', t2⟩ := draw_ro (Pt := fun tm => tm.get 2 = .int .i64 (wrapI .i64 (wrapI .i64 (sumG g n 0 0 + w) + d))) hX (by kernel_rfl) hM1.1 (by
    clear hX
    generalize befs _ = M
    simp [mapO, drRun, drOp, dr3, looks, guardT, tmpsOf, Op.operands, Call.operands, wantedR, gOf, finT, natMem, isNil, writesF, evOp, vOp, hOpB, hOpU, hOp, hOpT, aAppendG_tab, opd, closedV, aBin, intOp, sameK, opdO, boundOf, undef, lookB, Nat.beq_eq, tm_n_set, tm_get_set, tm_of_n, tm_of_get, tm_tr_set, tm_tr_of, b02, b12, b32, ↓G75, W75, ↓G76, W76, ↓G77, W77, ↓G79, W79, ↓G17, W17, ↓G18, W18, ↓G22, W22, ↓G71, W71, tv, all1, roB, roK, news, newOnes, decr, tkc, cellAt, LD3, LD4, LD22, LD27, LDr, LD24, LEN22, IA22, FA24_0, FA24_1, FA24_2, FA24_3, FA24_4, FA24_5, FA24_6, FA24_7, FA24_8, hasR, hasR_ro, ↓Gtot, Wtot, ht, nle, Nat.ble_eq, tm_of_n, tm_of_get]
    refine ⟨by simp [dynOK, b02, b12, b32, Nat.blt_eq, tm_n_set, tm_of_n], by simp [wheap, news, b02, b12, b32]⟩)
  simp [tm_n_set] at hn'
  simp [ec_skip, ec_label, ek_reg, ek_draw, ek_seq, ec_cond, ek_block, ec_loop, ec_exit, ec_ret, ec_scope, ek_nil, ek_op, opK_some, regK_some, seqK_normal, seqK_exit, seqK_ret, blockK_normal, blockK_exit, blockK_ret, evOp, vOp, hOpB, hOpU, hOp, hOpT, aAppendG_tab, aWanted, aYielded, opd, putT, closedV, aBin, intOp, sameK, mapO, joinR, hasAddr, boundOf, pushB, aAlloc, Value.cells, lookB, setB, Nat.beq_eq, tm_n_set, tm_get_set, tm_of_n, tm_of_get, tm_tr_set, tm_tr_of, cellV, putF, appR_eq, takeR_eq, dropR_eq, setR_eq, getR_eq, ↓C75, ↓C76, ↓C77, ↓C79, ↓C17, ↓C18, ↓C22, ↓C71, FA24_0, FA24_1, FA24_2, FA24_3, FA24_4, FA24_5, FA24_6, FA24_7, FA24_8, LD3, LD4, LD22, LD27, LDr, LD24, LEN22, IA22, tkc, cellAt, hn', t2, finF, takeM, resV, cleanedG, hasAddr, kp, below, nn, hbl, Nat.blt_eq]

end

section
set_option linter.unusedSimpArgs false
set_option linter.unusedVariables false

theorem decrK_pw : ∀ bs : List (Nat × ABlk), decrK bs = true ↔ List.Pairwise (fun p q => q.1 < p.1) bs
  | [] => by simp [decrK]
  | [p] => by simp [decrK]
  | (i, k) :: (j, q) :: r => by
    have ih := decrK_pw ((j, q) :: r)
    simp only [decrK, Bool.and_eq_true]
    rw [ih, List.pairwise_cons (a := (i, k))]
    constructor
    · rintro ⟨h1, h2⟩
      have h1' : j < i := by simpa [Nat.blt_eq] using h1
      refine ⟨fun x hx => ?_, h2⟩
      rcases List.mem_cons.1 hx with rfl | hx
      · exact h1'
      · exact Nat.lt_trans ((List.pairwise_cons.1 h2).1 x hx) h1'
    · rintro ⟨h1, h2⟩
      exact ⟨by simpa [Nat.blt_eq] using h1 (j, q) List.mem_cons_self, h2⟩
theorem MI.sub {H : AH} (h : MI H) {bs : List (Nat × ABlk)} {nx : Nat} (hs : bs.Sublist H.bs) (hn : H.next ≤ nx) : MI ⟨nx, bs⟩ :=
  ⟨(decrK_pw _).2 (((decrK_pw _).1 h.1).sublist hs), fun p hp => Nat.lt_of_lt_of_le (h.2 p (hs.subset hp)) hn⟩
theorem dropB_sub : ∀ (bs : List (Nat × ABlk)) (i : Nat), (dropB bs i).Sublist bs
  | [], _ => List.Sublist.slnil
  | (j, k) :: r, i => by
    simp only [dropB]
    split
    · exact (dropB_sub r i).cons _
    · exact (dropB_sub r i).cons_cons _
theorem apr {T : TypeId → Option TI} {t e : TypeId} {z b : Nat} (h1 : (T t).map (·.desc) = some (.slice e)) (h2 : (T e).map (fun y => (y.size, y.bytes)) = some (z, b)) (H : AH) (s x : Value) :
    aAppend T H t s x = match sliceLen x, sliceLen s with
    | some 0, some _ => some (s, H)
    | some (m + 1), some _ => (match srcCells H.bs x z, dstCells H.bs s z with
      | some news, some (olds, n, bs') =>
        if Nat.ble ((n + (m + 1)) * b) 1000000000000 && Nat.ble (n + (m + 1)) 1000000000000 && news.all cellV then
          some (.slice (some ⟨H.next, 0, none⟩) (n + (m + 1)) z, { next := H.next + 1, bs := (H.next, .cells false (olds ++ news)) :: bs' })
        else none
      | _, _ => none)
    | _, _ => none := by
  obtain ⟨_, _, _, _, ht⟩ := tdesc h1
  cases he : T e with
  | none => rw [he] at h2; cases h2
  | some y =>
    rw [he] at h2
    simp only [Option.map_some, Option.some.injEq, Prod.mk.injEq] at h2
    obtain ⟨rfl, rfl⟩ := h2
    simp only [aAppend, ht, he]
    cases sliceLen x with
    | none => rfl
    | some m => cases m <;> cases sliceLen s <;> rfl

theorem AP22 (H : AH) (s x : Value) : aAppend (tabT Try.prog) H 22 s x = match sliceLen x, sliceLen s with
    | some 0, some _ => some (s, H)
    | some (m + 1), some _ => (match srcCells H.bs x 1, dstCells H.bs s 1 with
      | some news, some (olds, n, bs') =>
        if Nat.ble ((n + (m + 1)) * 8) 1000000000000 && Nat.ble (n + (m + 1)) 1000000000000 && news.all cellV then
          some (.slice (some ⟨H.next, 0, none⟩) (n + (m + 1)) 1, { next := H.next + 1, bs := (H.next, .cells false (olds ++ news)) :: bs' })
        else none
      | _, _ => none)
    | _, _ => none := apr (e := 3) (by kernel_rfl) (by kernel_rfl) H s x
theorem APT22 (H : AH) (u v : Value) : aAppendT (tabT Try.prog) H 22 22 u v = none := by kernel_rfl
theorem BS22 (H : AH) (a : Int) : aBuildSlice (tabT Try.prog) H 22 1 [(0, .int .i64 a)] = some (.slice (some ⟨H.next, 0, none⟩) 1 1, pushB H (.cells false [.int .i64 a])) := by kernel_rfl
theorem setB_setB (i : Nat) (k k' : ABlk) : ∀ bs : List (Nat × ABlk), setB (setB bs i k) i k' = setB bs i k'
  | [] => rfl
  | (j, q) :: r => by
    simp only [setB]
    split
    · rename_i h; simp only [setB, h, if_true]
    · rename_i h; simp only [setB, h, Bool.false_eq_true, if_false, setB_setB i k k' r]
/-- A list in a block of its own, behind the set. -/
def FL (lo : Nat) (H : AH) (u : Value) (n : Nat) (g : Nat → Int) : Prop := (u = .slice none 0 0 ∧ n = 0) ∨ ∃ a cs, u = .slice (some ⟨a, 0, none⟩) n 1 ∧ lo < a ∧ a < H.next ∧ lookB H.bs a = some (.cells false cs) ∧ okC cs n = true ∧ g = gi cs ∧ 0 < n
/-- The memory while a small set is made. -/
structure KL (N p : Nat) (bs : List (Nat × ABlk)) (H : AH) (x : Int) (s : SV) (u1 u8 : Value) : Prop where
  mi : MI H
  nx : N + 1 < H.next
  pn : p < N
  src : lookB H.bs p = some (sB x)
  set : lookB H.bs (N + 1) = some (.cells false [.int .i64 s.p, u1, .int .i64 s.w, .int .i64 s.d, .int .i64 s.f, .int .i64 s.c, .int .i64 s.m, .int .i64 s.de, u8])
  res : lookB H.bs N = some (.cells false [.int .i64 0, .slice none 0 0, .int .i64 0, .int .i64 0, .int .i64 0, .int .i64 0, .int .i64 0, .int .i64 0, .slice none 0 0])
  old : ∀ j, j < N → j ≠ p → lookB H.bs j = lookB bs j
  l1 : FL (N + 1) H u1 s.n s.g
  l8 : FL (N + 1) H u8 s.k s.h
  dis : ∀ a b n k, u1 = .slice (some ⟨a, 0, none⟩) n 1 → u8 = .slice (some ⟨b, 0, none⟩) k 1 → a ≠ b
theorem FL.mono {lo : Nat} {H H' : AH} {u : Value} {n : Nat} {g : Nat → Int} (h : FL lo H u n g) (hn : H.next ≤ H'.next) (hl : ∀ a, u = .slice (some ⟨a, 0, none⟩) n 1 → lo < a → a < H.next → lookB H'.bs a = lookB H.bs a) : FL lo H' u n g := by
  rcases h with h | ⟨a, cs, h1, h2, h3, h4, h5⟩
  · exact .inl h
  · exact .inr ⟨a, cs, h1, h2, by omega, (hl a h1 h2 h3).trans h4, h5⟩
theorem KL.step {N p : Nat} {bs : List (Nat × ABlk)} {H : AH} {x y : Int} {s : SV} {u1 u8 : Value} (h : KL N p bs H x s u1 u8) : KL N p bs ⟨H.next, setB H.bs p (sB y)⟩ y s u1 u8 := by
  have hp := h.pn
  have e : ∀ j, j ≠ p → lookB (setB H.bs p (sB y)) j = lookB H.bs j := fun j hj => by rw [lookB_setB, if_neg hj]
  exact ⟨h.mi.set _ _, h.nx, h.pn, by rw [lookB_setB, if_pos rfl, h.src]; rfl, (e _ (by omega)).trans h.set, (e _ (by omega)).trans h.res, fun j h1 h2 => (e j h2).trans (h.old j h1 h2), h.l1.mono (Nat.le_refl _) fun a _ h2 _ => e a (by omega), h.l8.mono (Nat.le_refl _) fun a _ h2 _ => e a (by omega), h.dis⟩
theorem app_fl {lo n : Nat} {H : AH} {u : Value} {g : Nat → Int} (hM : MI H) (h : FL lo H u n g) (hn : n ≤ 200) : ∃ bs2, bs2.Sublist H.bs ∧ (∀ j, (∀ a, u = .slice (some ⟨a, 0, none⟩) n 1 → j ≠ a) → lookB bs2 j = lookB H.bs j) ∧ ∀ k : Int, ∃ cs, okC cs (n + 1) = true ∧ (∀ i, i < n → gi cs i = g i) ∧ gi cs n = k ∧
    aAppend (tabT Try.prog) ⟨H.next + 1, (H.next, .cells false [.int .i64 k]) :: H.bs⟩ 22 u (.slice (some ⟨H.next, 0, none⟩) 1 1) = some (.slice (some ⟨H.next + 1, 0, none⟩) (n + 1) 1, ⟨H.next + 2, (H.next + 1, .cells false cs) :: (H.next, .cells false [.int .i64 k]) :: bs2⟩) := by
  have tn : ∀ k : Int, takeCells [Value.int .i64 k] 0 1 = some [.int .i64 k] := fun _ => rfl
  rcases h with ⟨rfl, rfl⟩ | ⟨b, cs, rfl, hNb, hb, hl, hok, rfl, h0⟩
  · refine ⟨H.bs, List.Sublist.refl _, fun _ _ => rfl, fun k => ⟨[.int .i64 k], rfl, fun i hi => by omega, rfl, ?_⟩⟩
    rw [AP22]
    simp [sliceLen, srcCells, dstCells, lookB, tn, cellV]
  · refine ⟨dropB H.bs b, dropB_sub _ _, fun j hj => ?_, fun k => ⟨cs ++ [.int .i64 k], ?_, ?_, ?_, ?_⟩⟩
    · rw [lookB_dropB, if_neg (hj b rfl)]
    · have := okC_len hok
      simp only [okC, Bool.and_eq_true] at hok ⊢
      refine ⟨by simp [this], by simp [List.all_append, hok.2, isI]⟩
    · intro i hi
      have := okC_len hok
      unfold gi
      rw [List.getElem?_append_left (by omega)]
    · have := okC_len hok
      unfold gi
      rw [List.getElem?_append_right (by omega)]
      simp [this]
    · have hne : ¬ b = H.next := by omega
      have hne' : ¬ H.next = b := by omega
      have hlen := okC_len hok
      have ht : takeCells cs 0 n = some cs := by
        unfold takeCells
        rw [takeK_eq, dropR_eq, if_pos (by simp; omega)]
        simp only [List.drop_zero]
        rw [List.take_of_length_le (by omega)]
      have c1 : (n + 1) * 8 ≤ 1000000000000 := by omega
      have c2 : n ≤ 999999999999 := by omega
      rw [AP22]
      simp [sliceLen, srcCells, dstCells, lookB, cellV, hne, hne', hl, ht, tn, c1, c2, dropB, Nat.beq_eq]
/-- The list of suits grows. -/
theorem KL.app1 {N p : Nat} {bs : List (Nat × ABlk)} {H : AH} {x : Int} {s : SV} {u1 u8 : Value} (h : KL N p bs H x s u1 u8) (hn : s.n ≤ 200) : ∃ bs2, bs2.Sublist H.bs ∧ lookB bs2 (N + 1) = lookB H.bs (N + 1) ∧ lookB bs2 p = lookB H.bs p ∧ ∀ k : Int, ∃ cs, (∀ i, i < s.n → gi cs i = s.g i) ∧ gi cs s.n = k ∧
    aAppend (tabT Try.prog) ⟨H.next + 1, (H.next, .cells false [.int .i64 k]) :: H.bs⟩ 22 u1 (.slice (some ⟨H.next, 0, none⟩) 1 1) = some (.slice (some ⟨H.next + 1, 0, none⟩) (s.n + 1) 1, ⟨H.next + 2, (H.next + 1, .cells false cs) :: (H.next, .cells false [.int .i64 k]) :: bs2⟩) ∧
    KL N p bs ⟨H.next + 2, (H.next + 1, .cells false cs) :: (H.next, .cells false [.int .i64 k]) :: setB bs2 (N + 1) (.cells false [.int .i64 s.p, .slice (some ⟨H.next + 1, 0, none⟩) (s.n + 1) 1, .int .i64 s.w, .int .i64 s.d, .int .i64 s.f, .int .i64 s.c, .int .i64 s.m, .int .i64 s.de, u8])⟩ x { s with n := s.n + 1, g := gi cs } (.slice (some ⟨H.next + 1, 0, none⟩) (s.n + 1) 1) u8 := by
  have hp := h.pn
  have hx := h.nx
  obtain ⟨bs2, hs, hl, hap⟩ := app_fl h.mi h.l1 hn
  have out : ∀ j, j ≤ N + 1 → lookB bs2 j = lookB H.bs j := fun j hj => hl j fun a ha => by
    rcases h.l1 with ⟨e, _⟩ | ⟨b, cs, e, h2, _⟩
    · rw [e] at ha; cases ha
    · rw [e] at ha; cases ha; omega
  have M2 : MI ⟨H.next, bs2⟩ := h.mi.sub hs (Nat.le_refl _)
  refine ⟨bs2, hs, out _ (Nat.le_refl _), out _ (by omega), fun k => ?_⟩
  obtain ⟨cs, hok, hg, hk, e⟩ := hap k
  refine ⟨cs, hg, hk, e, ?_⟩
  have lk : ∀ j v, j < H.next → lookB ((H.next + 1, ABlk.cells false cs) :: (H.next, .cells false [.int .i64 k]) :: setB bs2 (N + 1) v) j = lookB (setB bs2 (N + 1) v) j := fun j v hj => by
    simp only [lookB, beq_ne (show ¬ j = H.next + 1 by omega), beq_ne (show ¬ j = H.next by omega), Bool.false_eq_true, if_false]
  have l2 : ∀ j v, j ≠ N + 1 → lookB (setB bs2 (N + 1) v) j = lookB bs2 j := fun j v hj => by rw [lookB_setB, if_neg hj]
  exact {
    mi := ((M2.set _ _).push _).push _
    nx := by show N + 1 < H.next + 2; omega
    pn := hp
    src := ((lk p _ (by omega)).trans (l2 p _ (by omega))).trans ((out p (by omega)).trans h.src)
    set := by
      show lookB ((H.next + 1, ABlk.cells false cs) :: (H.next, .cells false [.int .i64 k]) :: setB bs2 (N + 1) _) (N + 1) = _
      rw [lk (N + 1) _ (by omega), lookB_setB, if_pos rfl, out (N + 1) (Nat.le_refl _), h.set]; rfl
    res := ((lk N _ (by omega)).trans (l2 N _ (by omega))).trans ((out N (by omega)).trans h.res)
    old := fun j h1 h2 => ((lk j _ (by omega)).trans (l2 j _ (by omega))).trans ((out j (by omega)).trans (h.old j h1 h2))
    l1 := .inr ⟨H.next + 1, cs, rfl, by omega, by show H.next + 1 < H.next + 2; omega, by simp [lookB], hok, rfl, by show 0 < s.n + 1; omega⟩
    l8 := h.l8.mono (by show H.next ≤ H.next + 2; omega) fun a ha h2 h3 => (lk a _ h3).trans ((l2 a _ (by omega)).trans (hl a fun b hb => (h.dis b a _ _ hb ha).symm))
    dis := fun a b n k e1 e2 => by
      cases e1
      rcases h.l8 with ⟨e, _⟩ | ⟨b', cs', e, _, h3, _⟩
      · rw [e] at e2; cases e2
      · rw [e] at e2; cases e2; omega }
/-- The list of reds grows. -/
theorem KL.app8 {N p : Nat} {bs : List (Nat × ABlk)} {H : AH} {x : Int} {s : SV} {u1 u8 : Value} (h : KL N p bs H x s u1 u8) (hn : s.k ≤ 200) : ∃ bs2, bs2.Sublist H.bs ∧ lookB bs2 (N + 1) = lookB H.bs (N + 1) ∧ lookB bs2 p = lookB H.bs p ∧ ∀ k : Int, ∃ cs, (∀ i, i < s.k → gi cs i = s.h i) ∧ gi cs s.k = k ∧
    aAppend (tabT Try.prog) ⟨H.next + 1, (H.next, .cells false [.int .i64 k]) :: H.bs⟩ 22 u8 (.slice (some ⟨H.next, 0, none⟩) 1 1) = some (.slice (some ⟨H.next + 1, 0, none⟩) (s.k + 1) 1, ⟨H.next + 2, (H.next + 1, .cells false cs) :: (H.next, .cells false [.int .i64 k]) :: bs2⟩) ∧
    KL N p bs ⟨H.next + 2, (H.next + 1, .cells false cs) :: (H.next, .cells false [.int .i64 k]) :: setB bs2 (N + 1) (.cells false [.int .i64 s.p, u1, .int .i64 s.w, .int .i64 s.d, .int .i64 s.f, .int .i64 s.c, .int .i64 s.m, .int .i64 s.de, .slice (some ⟨H.next + 1, 0, none⟩) (s.k + 1) 1])⟩ x { s with k := s.k + 1, h := gi cs } u1 (.slice (some ⟨H.next + 1, 0, none⟩) (s.k + 1) 1) := by
  have hp := h.pn
  have hx := h.nx
  obtain ⟨bs2, hs, hl, hap⟩ := app_fl h.mi h.l8 hn
  have out : ∀ j, j ≤ N + 1 → lookB bs2 j = lookB H.bs j := fun j hj => hl j fun a ha => by
    rcases h.l8 with ⟨e, _⟩ | ⟨b, cs, e, h2, _⟩
    · rw [e] at ha; cases ha
    · rw [e] at ha; cases ha; omega
  have M2 : MI ⟨H.next, bs2⟩ := h.mi.sub hs (Nat.le_refl _)
  refine ⟨bs2, hs, out _ (Nat.le_refl _), out _ (by omega), fun k => ?_⟩
  obtain ⟨cs, hok, hg, hk, e⟩ := hap k
  refine ⟨cs, hg, hk, e, ?_⟩
  have lk : ∀ j v, j < H.next → lookB ((H.next + 1, ABlk.cells false cs) :: (H.next, .cells false [.int .i64 k]) :: setB bs2 (N + 1) v) j = lookB (setB bs2 (N + 1) v) j := fun j v hj => by
    simp only [lookB, beq_ne (show ¬ j = H.next + 1 by omega), beq_ne (show ¬ j = H.next by omega), Bool.false_eq_true, if_false]
  have l2 : ∀ j v, j ≠ N + 1 → lookB (setB bs2 (N + 1) v) j = lookB bs2 j := fun j v hj => by rw [lookB_setB, if_neg hj]
  exact {
    mi := ((M2.set _ _).push _).push _
    nx := by show N + 1 < H.next + 2; omega
    pn := hp
    src := ((lk p _ (by omega)).trans (l2 p _ (by omega))).trans ((out p (by omega)).trans h.src)
    set := by
      show lookB ((H.next + 1, ABlk.cells false cs) :: (H.next, .cells false [.int .i64 k]) :: setB bs2 (N + 1) _) (N + 1) = _
      rw [lk (N + 1) _ (by omega), lookB_setB, if_pos rfl, out (N + 1) (Nat.le_refl _), h.set]; rfl
    res := ((lk N _ (by omega)).trans (l2 N _ (by omega))).trans ((out N (by omega)).trans h.res)
    old := fun j h1 h2 => ((lk j _ (by omega)).trans (l2 j _ (by omega))).trans ((out j (by omega)).trans (h.old j h1 h2))
    l8 := .inr ⟨H.next + 1, cs, rfl, by omega, by show H.next + 1 < H.next + 2; omega, by simp [lookB], hok, rfl, by show 0 < s.k + 1; omega⟩
    l1 := h.l1.mono (by show H.next ≤ H.next + 2; omega) fun a ha h2 h3 => (lk a _ h3).trans ((l2 a _ (by omega)).trans (hl a fun b hb => h.dis a b _ _ ha hb))
    dis := fun a b n k e1 e2 => by
      cases e2
      rcases h.l1 with ⟨e, _⟩ | ⟨b', cs', e, _, h3, _⟩
      · rw [e] at e1; cases e1
      · rw [e] at e1; cases e1; omega }
theorem FL.lst {lo : Nat} {H : AH} {u : Value} {n : Nat} {g : Nat → Int} (h : FL lo H u n g) : Lst H.bs u n g := by
  rcases h with h | ⟨a, cs, h1, _, _, h4, h5, h6, _⟩
  · exact .inl h
  · exact .inr ⟨a, false, cs, h1, h4, h5, h6⟩
theorem KL.up {N p : Nat} {bs : List (Nat × ABlk)} {H : AH} {x : Int} {s : SV} {u1 u8 : Value} (h : KL N p bs H x s u1 u8) {nx : Nat} (hn : H.next ≤ nx) : KL N p bs ⟨nx, H.bs⟩ x s u1 u8 :=
  ⟨⟨h.mi.1, fun q hq => Nat.lt_of_lt_of_le (h.mi.2 q hq) hn⟩, Nat.lt_of_lt_of_le h.nx hn, h.pn, h.src, h.set, h.res, h.old, h.l1.mono hn fun _ _ _ _ => rfl, h.l8.mono hn fun _ _ _ _ => rfl, h.dis⟩
theorem KL.put {N p : Nat} {bs : List (Nat × ABlk)} {H : AH} {x : Int} {s : SV} {u1 u8 : Value} (h : KL N p bs H x s u1 u8) (s' : SV) (hn : s'.n = s.n) (hg : s'.g = s.g) (hk : s'.k = s.k) (hh : s'.h = s.h) : KL N p bs ⟨H.next, setB H.bs (N + 1) (.cells false [.int .i64 s'.p, u1, .int .i64 s'.w, .int .i64 s'.d, .int .i64 s'.f, .int .i64 s'.c, .int .i64 s'.m, .int .i64 s'.de, u8])⟩ x s' u1 u8 := by
  have hp := h.pn
  have e : ∀ j v, j ≠ N + 1 → lookB (setB H.bs (N + 1) v) j = lookB H.bs j := fun j v hj => by rw [lookB_setB, if_neg hj]
  exact ⟨h.mi.set _ _, h.nx, h.pn, (e _ _ (by omega)).trans h.src, by rw [lookB_setB, if_pos rfl, h.set]; rfl, (e _ _ (by omega)).trans h.res, fun j h1 h2 => (e j _ (by omega)).trans (h.old j h1 h2), by rw [hn, hg]; exact h.l1.mono (Nat.le_refl _) fun a _ h2 _ => e a _ (by omega), by rw [hk, hh]; exact h.l8.mono (Nat.le_refl _) fun a _ h2 _ => e a _ (by omega), h.dis⟩

end

section
set_option linter.unusedSimpArgs false
set_option linter.unusedVariables false

theorem kpl : kpT 78 = false := by kernel_rfl
theorem gcl : gcT 78 = false := by kernel_rfl
theorem Nplain : ((tabT Try.prog) 24).map (fun z => (z.ex.nat 43, z.ex.mnz 43)) = some (none, none) := by kernel_rfl
theorem Cplain (call : Value → List Value → AH → Option (Value × AH)) {tm : Tm} {i : Nat} {H : AH} {d : Option Tmp} {t : TypeId} {p : String} {a : Array Edge} {gd : Option (Nat × Bool)} : evOp (tabT Try.prog) call ⟨d, .call ⟨.value (.func 43), #[.tmp i], #[24]⟩, t, p, a, gd⟩ (opd tm) H = call (.func (.func 43) #[] #[]) [tm.get i] H :=
  evOp_evO.trans (eo_call1 rfl rfl Nplain)
theorem AL24 {call : Value → List Value → AH → Option (Value × AH)} {g : Operand → Option Value} {H : AH} {d : Option Tmp} {t : TypeId} {p : String} {a : Array Edge} {gd : Option (Nat × Bool)} : evOp (tabT Try.prog) call ⟨d, .alloc 24, t, p, a, gd⟩ g H = some (.pointer (some ⟨H.next, 0, none⟩), ⟨H.next + 1, (H.next, .cells false [.int .i64 0, .slice none 0 0, .int .i64 0, .int .i64 0, .int .i64 0, .int .i64 0, .int .i64 0, .int .i64 0, .slice none 0 0]) :: H.bs⟩) :=
  evOp_evO.trans (eo_alloc (cs := [.int .i64 0, .slice none 0 0, .int .i64 0, .int .i64 0, .int .i64 0, .int .i64 0, .int .i64 0, .int .i64 0, .slice none 0 0]) (by kernel_rfl))
theorem ST24 (H : AH) (i off : Nat) (v : Value) : aStore (tabT Try.prog) H 24 (.pointer (some ⟨i, off, none⟩)) v = match lookB H.bs i with
    | some (.cells false cs) => if Nat.beq v.cells.toList.length 9 && Nat.ble (off + v.cells.toList.length) cs.length && v.cells.toList.all cellV then some { H with bs := setB H.bs i (.cells false (putF cs off v.cells.toList)) } else none
    | _ => none := sti (by kernel_rfl) H i off v
theorem ST22 (H : AH) (i off : Nat) (v : Value) : aStore (tabT Try.prog) H 22 (.pointer (some ⟨i, off, none⟩)) v = match lookB H.bs i with
    | some (.cells false cs) => if Nat.beq v.cells.toList.length 1 && Nat.ble (off + v.cells.toList.length) cs.length && v.cells.toList.all cellV then some { H with bs := setB H.bs i (.cells false (putF cs off v.cells.toList)) } else none
    | _ => none := sti (by kernel_rfl) H i off v
theorem STi (H : AH) (i off : Nat) (v : Value) : aStore (tabT Try.prog) H 3 (.pointer (some ⟨i, off, none⟩)) v = match lookB H.bs i with
    | some (.cells false cs) => if Nat.beq v.cells.toList.length 1 && Nat.ble (off + v.cells.toList.length) cs.length && v.cells.toList.all cellV then some { H with bs := setB H.bs i (.cells false (putF cs off v.cells.toList)) } else none
    | _ => none := sti (by kernel_rfl) H i off v
theorem BD24 (m c w d f de : Int) : aBuild (tabT Try.prog) 24 [(0, .int .i64 3), (6, .int .i64 m), (5, .int .i64 c), (2, .int .i64 w), (3, .int .i64 d), (4, .int .i64 f), (7, .int .i64 de)] = some (.agg #[.int .i64 3, .slice none 0 0, .int .i64 w, .int .i64 d, .int .i64 f, .int .i64 c, .int .i64 m, .int .i64 de, .slice none 0 0]) := by kernel_rfl
theorem Gran (call : Value → List Value → AH → Option (Value × AH)) {tm : Tm} {rs : List DR} {ts : List Nat} {k : Nat} {x y : Int} {H : AH} {d : Option Tmp} {t : TypeId} {p : String} {a : Array Edge} {gd : Option (Nat × Bool)} (h : natMem ts k = true) : evOp (tabT Try.prog) call ⟨d, .call ⟨.value (.func 79), #[.tmp k, .const (.int .i64 x), .const (.int .i64 y)], #[50, 3, 3]⟩, t, p, a, gd⟩ (gOf tm rs ts) H = call (.func (.func 79) #[] #[]) [(finT tm rs).get k, .int .i64 x, .int .i64 y] H :=
  evOp_evO.trans (eo_call3 rfl (by simp only [gOf, h, if_true]) rfl rfl)
theorem Cran (call : Value → List Value → AH → Option (Value × AH)) {tm : Tm} {k : Nat} {x y : Int} {H : AH} {d : Option Tmp} {t : TypeId} {p : String} {a : Array Edge} {gd : Option (Nat × Bool)} : evOp (tabT Try.prog) call ⟨d, .call ⟨.value (.func 79), #[.tmp k, .const (.int .i64 x), .const (.int .i64 y)], #[50, 3, 3]⟩, t, p, a, gd⟩ (opd tm) H = call (.func (.func 79) #[] #[]) [tm.get k, .int .i64 x, .int .i64 y] H :=
  evOp_evO.trans (eo_call3 rfl rfl rfl rfl)
theorem Wran : wrT 79 = true := by kernel_rfl
theorem app_ro1 {nx : Nat} {b1 : List (Nat × ABlk)} (hM : MI ⟨nx, b1⟩) (v : Value) : aAppend (tabT Try.prog) ⟨nx + 1, roB b1⟩ 22 v (.slice (some ⟨nx, 0, none⟩) 1 1) = none := by
  have h := look_none b1 nx hM.2
  rw [AP22]
  simp only [sliceLen, srcCells, h]
  split <;> simp_all
/-- What calls of the source answer. -/
structure SrcOK (call : Value → List Value → AH → Option (Value × AH)) (p : Nat) : Prop where
  bel : ∀ (N : Nat) (bs : List (Nat × ABlk)) (x : Int) (n : Nat), 1 ≤ n → n ≤ 1000 → MI ⟨N, bs⟩ → lookB bs p = some (sB x) → call (.func (.func 95) #[] #[]) [.pointer (some ⟨p, 0, none⟩), .int .i64 (n : Int)] ⟨N, bs⟩ = some (.int .i64 (belV x n), ⟨N, setB bs p (sB (stB x))⟩)
  ran : ∀ (N : Nat) (bs : List (Nat × ABlk)) (x : Int) (lo hi : Nat), lo ≤ hi → hi ≤ 900 → MI ⟨N, bs⟩ → lookB bs p = some (sB x) → call (.func (.func 79) #[] #[]) [.pointer (some ⟨p, 0, none⟩), .int .i64 (lo : Int), .int .i64 (hi : Int)] ⟨N, bs⟩ = some (.int .i64 (rngV x lo hi), ⟨N, setB bs p (sB (stB x))⟩)
  odd : ∀ (N : Nat) (bs : List (Nat × ABlk)) (x : Int) (n : Nat), 1 ≤ n → n ≤ 1000 → MI ⟨N, bs⟩ → lookB bs p = some (sB x) → call (.func (.func 77) #[] #[]) [.pointer (some ⟨p, 0, none⟩), .int .i64 (n : Int)] ⟨N, bs⟩ = some (.bool (oddV x n), ⟨N, setB bs p (sB (stB x))⟩)
noncomputable def bx (k : Nat) (x : Int) : Int := match k with | 0 => x | k + 1 => bx k (stB x)
theorem eqFL {lo n : Nat} {H : AH} {u : Value} {g : Nat → Int} (h : FL lo H u n g) : eqR 5 u u = true := by
  rcases h with ⟨rfl, rfl⟩ | ⟨a, cs, rfl, _⟩
  · rfl
  · simp [eqR]
/-- A small set while it is made. -/
structure LB (me : Int) (s : SV) : Prop where
  p : s.p = 3
  m : s.m = me
  c : 2 ≤ s.c ∧ s.c ≤ 4
  w : 0 ≤ s.w ∧ s.w ≤ 4
  d : 0 ≤ s.d ∧ s.d ≤ 3
  f : 0 ≤ s.f ∧ s.f ≤ 1
  de : 0 ≤ s.de ∧ s.de ≤ 2
  g : ∀ i, i < s.n → 3 ≤ s.g i ∧ s.g i ≤ 5
  n : s.n ≤ 2
/-- The temporaries that stay. -/
def TL (N p : Nat) (me : Int) (A : AF) : Prop := A.tm.n = 98 ∧ A.marks = [] ∧ A.tm.get 0 = .pointer (some ⟨p, 0, none⟩) ∧ A.tm.get 1 = .int .i64 me ∧ A.tm.get 4 = .pointer (some ⟨N, 0, none⟩) ∧ A.tm.get 5 = .pointer (some ⟨N + 1, 0, none⟩)
def IL1 (N p : Nat) (me : Int) (bs : List (Nat × ABlk)) (k : Nat) (m : Nat) (A : AF) (H : AH) : Prop := ∃ (s : SV) (x : Int) (u1 : Value), KL N p bs H x s u1 (.slice none 0 0) ∧ LB me s ∧ s.k = 0 ∧ s.n + m = k ∧ TL N p me A ∧ A.tm.get 6 = .int .i64 (m : Int)
def QL1 (N p : Nat) (me : Int) (bs : List (Nat × ABlk)) (k : Nat) (y : AX) (A : AF) (H : AH) : Prop := y = .exit 0 ∧ ∃ (s : SV) (x : Int) (u1 : Value), KL N p bs H x s u1 (.slice none 0 0) ∧ LB me s ∧ s.k = 0 ∧ s.n = k ∧ TL N p me A
noncomputable def PV (s : SV) : Int := wrapI .i64 (wrapI .i64 (sumG s.g s.n 0 0 + s.w) + s.d)
theorem PV_bd {me : Int} {s : SV} (hB : LB me s) (h1 : 1 ≤ s.n) : ∃ S : Int, PV s = S + s.w + s.d ∧ 3 * s.n ≤ S ∧ S ≤ 5 * s.n := by
  have hn := hB.n
  have g0 := hB.g 0 (by omega)
  have hw := hB.w
  have hd := hB.d
  rcases (show s.n = 1 ∨ s.n = 2 by omega) with h | h
  · refine ⟨s.g 0, ?_, by omega, by omega⟩
    unfold PV
    rw [h]
    simp only [sumG]
    have a1 : wrapI .i64 (0 + s.g 0) = s.g 0 := (wrapI_small (by omega) (by omega)).trans (by omega)
    have a2 : wrapI .i64 (s.g 0 + s.w) = s.g 0 + s.w := wrapI_small (by omega) (by omega)
    have a3 : wrapI .i64 (s.g 0 + s.w + s.d) = s.g 0 + s.w + s.d := wrapI_small (by omega) (by omega)
    rw [a1, a2, a3]
  · have g1 := hB.g 1 (by omega)
    refine ⟨s.g 0 + s.g 1, ?_, by omega, by omega⟩
    unfold PV
    rw [h]
    simp only [sumG]
    have a1 : wrapI .i64 (0 + s.g 0) = s.g 0 := (wrapI_small (by omega) (by omega)).trans (by omega)
    have a4 : wrapI .i64 (s.g 0 + s.g (0 + 1)) = s.g 0 + s.g 1 := (wrapI_small (by simp only [Nat.zero_add]; omega) (by simp only [Nat.zero_add]; omega)).trans (by simp)
    have a2 : wrapI .i64 (s.g 0 + s.g 1 + s.w) = s.g 0 + s.g 1 + s.w := wrapI_small (by omega) (by omega)
    have a3 : wrapI .i64 (s.g 0 + s.g 1 + s.w + s.d) = s.g 0 + s.g 1 + s.w + s.d := wrapI_small (by omega) (by omega)
    rw [a1, a4, a2, a3]
theorem Gpl (call : Value → List Value → AH → Option (Value × AH)) {tm : Tm} {rs : List DR} {ts : List Nat} {k : Nat} {H : AH} {d : Option Tmp} {t : TypeId} {p : String} {a : Array Edge} {gd : Option (Nat × Bool)} (h : natMem ts k = true) : evOp (tabT Try.prog) call ⟨d, .call ⟨.value (.func 43), #[.tmp k], #[24]⟩, t, p, a, gd⟩ (gOf tm rs ts) H = call (.func (.func 43) #[] #[]) [(finT tm rs).get k] H :=
  evOp_evO.trans (eo_call1 rfl (by simp only [gOf, h, if_true]) Nplain)
theorem Wpl : wrT 43 = false := by kernel_rfl
def IL2 (N p : Nat) (me : Int) (bs : List (Nat × ABlk)) (k : Nat) (NV : Int) (m : Nat) (A : AF) (H : AH) : Prop := ∃ (s : SV) (x : Int) (u1 : Value), KL N p bs H x s u1 (.slice none 0 0) ∧ LB me s ∧ s.k = 0 ∧ s.n = k ∧ NV = 3 * (3 * me + 1) + 1 + s.de ∧ (4 - s.c) + (4 - s.w) + (3 - s.d) = (m : Int) ∧ TL N p me A ∧ A.tm.get 7 = .int .i64 NV
def QL2 (N p : Nat) (me : Int) (bs : List (Nat × ABlk)) (k : Nat) (NV : Int) (y : AX) (A : AF) (H : AH) : Prop := y = .exit 2 ∧ ∃ (s : SV) (x : Int) (u1 : Value), KL N p bs H x s u1 (.slice none 0 0) ∧ LB me s ∧ s.k = 0 ∧ s.n = k ∧ NV = 3 * (3 * me + 1) + 1 + s.de ∧ NV ≤ PV s * s.c + s.f ∧ TL N p me A
theorem Godd (call : Value → List Value → AH → Option (Value × AH)) {tm : Tm} {k : Nat} {y : Int} {H : AH} {d : Option Tmp} {t : TypeId} {p : String} {a : Array Edge} {gd : Option (Nat × Bool)} : evOp (tabT Try.prog) call ⟨d, .call ⟨.value (.func 77), #[.tmp k, .const (.int .i64 y)], #[50, 3]⟩, t, p, a, gd⟩ (opd tm) H = call (.func (.func 77) #[] #[]) [tm.get k, .int .i64 y] H :=
  evOp_evO.trans (eo_call2n rfl rfl rfl Nodds)
/-- The reds of a small set. -/
structure RD (s : SV) (j : Nat) : Prop where
  le : s.k ≤ j
  bd : ∀ i, i < s.k → 0 ≤ s.h i ∧ s.h i < j
  up : ∀ i, i + 1 < s.k → s.h i < s.h (i + 1)
theorem RD.app {s : SV} {j : Nat} (h : RD s j) (cs : List Value) (hg : ∀ i, i < s.k → gi cs i = s.h i) (hk : gi cs s.k = (j : Int)) : RD { s with k := s.k + 1, h := gi cs } (j + 1) := by
  refine ⟨Nat.succ_le_succ h.le, fun i hi => ?_, fun i hi => ?_⟩
  · have hi' : i < s.k + 1 := hi
    show 0 ≤ gi cs i ∧ gi cs i < ((j + 1 : Nat) : Int)
    by_cases hlt : i < s.k
    · rw [hg i hlt]; have := h.bd i hlt; omega
    · obtain rfl : i = s.k := by omega
      rw [hk]; omega
  · have hi' : i + 1 < s.k + 1 := hi
    show gi cs i < gi cs (i + 1)
    by_cases hlt : i + 1 < s.k
    · rw [hg i (by omega), hg (i + 1) hlt]; exact h.up i hlt
    · obtain e : i + 1 = s.k := by omega
      rw [e, hk, hg i (by omega)]
      exact (h.bd i (by omega)).2
theorem RD.mono {s : SV} {j : Nat} (h : RD s j) : RD s (j + 1) :=
  ⟨Nat.le_succ_of_le h.le, fun i hi => by have := h.bd i hi; omega, h.up⟩
def IL3 (N p : Nat) (me : Int) (bs : List (Nat × ABlk)) (k P : Nat) (NV : Int) (m : Nat) (A : AF) (H : AH) : Prop := ∃ (s : SV) (x : Int) (u1 u8 : Value) (j : Nat), KL N p bs H x s u1 u8 ∧ LB me s ∧ RD s j ∧ s.n = k ∧ PV s = (P : Int) ∧ NV = 3 * (3 * me + 1) + 1 + s.de ∧ NV ≤ PV s * s.c + s.f ∧ j + m = P ∧ TL N p me A ∧ A.tm.get 8 = .int .i64 (j : Int)
def QL3 (N p : Nat) (me : Int) (bs : List (Nat × ABlk)) (k P : Nat) (NV : Int) (y : AX) (A : AF) (H : AH) : Prop := y = .exit 5 ∧ ∃ (s : SV) (x : Int) (u1 u8 : Value), KL N p bs H x s u1 u8 ∧ LB me s ∧ RD s P ∧ s.n = k ∧ PV s = (P : Int) ∧ NV = 3 * (3 * me + 1) + 1 + s.de ∧ NV ≤ PV s * s.c + s.f ∧ TL N p me A
/-- What a small set of the source leaves. -/
def LitEnd (N p : Nat) (me : Int) (bs : List (Nat × ABlk)) (r : Option (Value × AH)) : Prop := ∃ (s : SV) (x : Int) (u1 u8 : Value) (P : Nat) (H' : AH), r = some (.agg #[.int .i64 s.p, u1, .int .i64 s.w, .int .i64 s.d, .int .i64 s.f, .int .i64 s.c, .int .i64 s.m, .int .i64 s.de, u8], H') ∧ MI H' ∧ N ≤ H'.next ∧ lookB H'.bs p = some (sB x) ∧ (∀ j, j < N → j ≠ p → lookB H'.bs j = lookB bs j) ∧ FL N H' u1 s.n s.g ∧ FL N H' u8 s.k s.h ∧ LB me s ∧ RD s P ∧ PV s = (P : Int) ∧ 1 ≤ s.n ∧ 3 * (3 * me + 1) + 1 + s.de ≤ PV s * s.c + s.f
theorem FL.weak {lo lo' n : Nat} {H : AH} {u : Value} {g : Nat → Int} (h : FL lo H u n g) (hl : lo' ≤ lo) : FL lo' H u n g := by
  rcases h with h | ⟨a, cs, h1, h2, h3⟩
  · exact .inl h
  · exact .inr ⟨a, cs, h1, by omega, h3⟩
theorem lit_end {N p : Nat} {me : Int} {bs : List (Nat × ABlk)} {H : AH} {x : Int} {s : SV} {u1 u8 : Value} {P : Nat} (h : KL N p bs H x s u1 u8) (hB : LB me s) (hR : RD s P) (hP : PV s = (P : Int)) (hn : 1 ≤ s.n) (hle : 3 * (3 * me + 1) + 1 + s.de ≤ PV s * s.c + s.f) (v : ABlk) : LitEnd N p me bs (some (.agg #[.int .i64 s.p, u1, .int .i64 s.w, .int .i64 s.d, .int .i64 s.f, .int .i64 s.c, .int .i64 s.m, .int .i64 s.de, u8], ⟨H.next, setB H.bs N v⟩)) := by
  have hp := h.pn
  have hx := h.nx
  have e : ∀ j, j ≠ N → lookB (setB H.bs N v) j = lookB H.bs j := fun j hj => by rw [lookB_setB, if_neg hj]
  have f1 : FL (N + 1) ⟨H.next, setB H.bs N v⟩ u1 s.n s.g := h.l1.mono (Nat.le_refl _) fun a _ h2 _ => e a (by omega)
  have f8 : FL (N + 1) ⟨H.next, setB H.bs N v⟩ u8 s.k s.h := h.l8.mono (Nat.le_refl _) fun a _ h2 _ => e a (by omega)
  exact ⟨s, x, u1, u8, P, _, rfl, h.mi.set _ _, by show N ≤ H.next; omega, (e p (by omega)).trans h.src, fun j h1 h2 => (e j (by omega)).trans (h.old j h1 h2), f1.weak (by omega), f8.weak (by omega), hB, hR, hP, hn, hle⟩
set_option maxRecDepth 10000 in
set_option maxHeartbeats 8000000 in
theorem little_ev {L : Nat} (call : Value → List Value → AH → Option (Value × AH)) (p N : Nat) (bs : List (Nat × ABlk)) (x : Int) (me : Nat) (hme : me = 1 ∨ me = 2) (hM : MI ⟨N, bs⟩) (hp : lookB bs p = some (sB x)) (hS : SrcOK call p) (hPl : ∀ (M : Nat) (b2 : List (Nat × ABlk)) (s : SV) (u1 u8 : Value), MI ⟨M, b2⟩ → Lst b2 u1 s.n s.g → s.n ≤ 200 → call (.func (.func 43) #[] #[]) [.agg #[.int .i64 s.p, u1, .int .i64 s.w, .int .i64 s.d, .int .i64 s.f, .int .i64 s.c, .int .i64 s.m, .int .i64 s.de, u8]] ⟨M, b2⟩ = some (.int .i64 (PV s), ⟨M + 1, b2⟩)) :
    LitEnd N p me bs (evFn (tabT Try.prog) call (L + 300) kpT 78 Try.f78 [.pointer (some ⟨p, 0, none⟩), .int .i64 (me : Int)] ⟨N, bs⟩) := by
  have kp := kpl
  have gc := gcl
  have hpN : p < N := hM.2 _ (lookB_mem hp)
  have n1 : ¬ p = N := by omega
  have n2 : ¬ p = N + 1 := by omega
  have hZ : MI ⟨N + 1, (N, .cells false [.int .i64 0, .slice none 0 0, .int .i64 0, .int .i64 0, .int .i64 0, .int .i64 0, .int .i64 0, .int .i64 0, .slice none 0 0]) :: bs⟩ := hM.push _
  have lk : ∀ y, lookB ((N, ABlk.cells false [.int .i64 0, .slice none 0 0, .int .i64 0, .int .i64 0, .int .i64 0, .int .i64 0, .int .i64 0, .int .i64 0, .slice none 0 0]) :: setB bs p (sB y)) p = some (sB y) := fun y => by
    simp only [lookB, beq_ne n1, Bool.false_eq_true, if_false]
    rw [lookB_setB, if_pos rfl, hp]; rfl
  have mk : ∀ y, MI ⟨N + 1, (N, .cells false [.int .i64 0, .slice none 0 0, .int .i64 0, .int .i64 0, .int .i64 0, .int .i64 0, .int .i64 0, .int .i64 0, .slice none 0 0]) :: setB bs p (sB y)⟩ := fun y => (hM.set p (sB y)).push _
  have up : ∀ y y', setB ((N, ABlk.cells false [.int .i64 0, .slice none 0 0, .int .i64 0, .int .i64 0, .int .i64 0, .int .i64 0, .int .i64 0, .int .i64 0, .slice none 0 0]) :: setB bs p (sB y)) p (sB y') = (N, ABlk.cells false [.int .i64 0, .slice none 0 0, .int .i64 0, .int .i64 0, .int .i64 0, .int .i64 0, .int .i64 0, .int .i64 0, .slice none 0 0]) :: setB bs p (sB y') := fun y y' => by
    simp only [setB, beq_ne n1, Bool.false_eq_true, if_false, setB_setB]
  have c1 : call (.func (.func 79) #[] #[]) [.pointer (some ⟨p, 0, none⟩), .int .i64 2, .int .i64 4] ⟨N + 1, (N, .cells false [.int .i64 0, .slice none 0 0, .int .i64 0, .int .i64 0, .int .i64 0, .int .i64 0, .int .i64 0, .int .i64 0, .slice none 0 0]) :: bs⟩ = some (.int .i64 (rngV x 2 4), ⟨N + 1, (N, .cells false [.int .i64 0, .slice none 0 0, .int .i64 0, .int .i64 0, .int .i64 0, .int .i64 0, .int .i64 0, .int .i64 0, .slice none 0 0]) :: setB bs p (sB (stB x))⟩) := by
    have := hS.ran (N + 1) ((N, .cells false [.int .i64 0, .slice none 0 0, .int .i64 0, .int .i64 0, .int .i64 0, .int .i64 0, .int .i64 0, .int .i64 0, .slice none 0 0]) :: bs) x 2 4 (by omega) (by omega) hZ (by simp only [lookB, beq_ne n1, Bool.false_eq_true, if_false]; exact hp)
    simp only [setB, beq_ne n1, Bool.false_eq_true, if_false] at this
    exact this
  have c2 : ∀ y, call (.func (.func 95) #[] #[]) [.pointer (some ⟨p, 0, none⟩), .int .i64 3] ⟨N + 1, (N, .cells false [.int .i64 0, .slice none 0 0, .int .i64 0, .int .i64 0, .int .i64 0, .int .i64 0, .int .i64 0, .int .i64 0, .slice none 0 0]) :: setB bs p (sB y)⟩ = some (.int .i64 (belV y 3), ⟨N + 1, (N, .cells false [.int .i64 0, .slice none 0 0, .int .i64 0, .int .i64 0, .int .i64 0, .int .i64 0, .int .i64 0, .int .i64 0, .slice none 0 0]) :: setB bs p (sB (stB y))⟩) := fun y => by
    have := hS.bel (N + 1) _ y 3 (by omega) (by omega) (mk y) (lk y)
    rw [up] at this
    exact this
  have c3 : ∀ y, call (.func (.func 95) #[] #[]) [.pointer (some ⟨p, 0, none⟩), .int .i64 2] ⟨N + 1, (N, .cells false [.int .i64 0, .slice none 0 0, .int .i64 0, .int .i64 0, .int .i64 0, .int .i64 0, .int .i64 0, .int .i64 0, .slice none 0 0]) :: setB bs p (sB y)⟩ = some (.int .i64 (belV y 2), ⟨N + 1, (N, .cells false [.int .i64 0, .slice none 0 0, .int .i64 0, .int .i64 0, .int .i64 0, .int .i64 0, .int .i64 0, .int .i64 0, .slice none 0 0]) :: setB bs p (sB (stB y))⟩) := fun y => by
    have := hS.bel (N + 1) _ y 2 (by omega) (by omega) (mk y) (lk y)
    rw [up] at this
    exact this
  have n3 : ¬ p = N + 2 := by omega
  have c4 : ∀ y, call (.func (.func 79) #[] #[]) [.pointer (some ⟨p, 0, none⟩), .int .i64 1, .int .i64 2] ⟨N + 2, (N + 1, .cells false [.int .i64 3, .slice none 0 0, .int .i64 (belV (bx 1 x) 3), .int .i64 (belV (bx 2 x) 3), .int .i64 (belV (bx 3 x) 2), .int .i64 (rngV x 2 4), .int .i64 (me : Int), .int .i64 (belV (bx 4 x) 3), .slice none 0 0]) :: (N, .cells false [.int .i64 0, .slice none 0 0, .int .i64 0, .int .i64 0, .int .i64 0, .int .i64 0, .int .i64 0, .int .i64 0, .slice none 0 0]) :: setB bs p (sB y)⟩ = some (.int .i64 (rngV y 1 2), ⟨N + 2, (N + 1, .cells false [.int .i64 3, .slice none 0 0, .int .i64 (belV (bx 1 x) 3), .int .i64 (belV (bx 2 x) 3), .int .i64 (belV (bx 3 x) 2), .int .i64 (rngV x 2 4), .int .i64 (me : Int), .int .i64 (belV (bx 4 x) 3), .slice none 0 0]) :: (N, .cells false [.int .i64 0, .slice none 0 0, .int .i64 0, .int .i64 0, .int .i64 0, .int .i64 0, .int .i64 0, .int .i64 0, .slice none 0 0]) :: setB bs p (sB (stB y))⟩) := fun y => by
    have := hS.ran (N + 2) ((N + 1, .cells false [.int .i64 3, .slice none 0 0, .int .i64 (belV (bx 1 x) 3), .int .i64 (belV (bx 2 x) 3), .int .i64 (belV (bx 3 x) 2), .int .i64 (rngV x 2 4), .int .i64 (me : Int), .int .i64 (belV (bx 4 x) 3), .slice none 0 0]) :: (N, .cells false [.int .i64 0, .slice none 0 0, .int .i64 0, .int .i64 0, .int .i64 0, .int .i64 0, .int .i64 0, .int .i64 0, .slice none 0 0]) :: setB bs p (sB y)) y 1 2 (by omega) (by omega) ((mk y).push _) (by
      simp only [lookB, beq_ne n2, Bool.false_eq_true, if_false]; exact lk y)
    simp only [setB, beq_ne n1, beq_ne n2, Bool.false_eq_true, if_false, setB_setB] at this
    exact this
  simp only [bx] at c4
  simp only [evFn, Try.f78]
  simp [ec_skip, ec_label, ek_reg, ek_draw, ek_seq, ec_cond, ek_block, ec_loop, ec_exit, ec_ret, ec_scope, ek_nil, ek_op, opK_some, regK_some, seqK_normal, seqK_exit, seqK_ret, blockK_normal, blockK_exit, blockK_ret, evOp, vOp, hOpB, hOpU, hOp, hOpT, aAppendG_tab, aWanted, aYielded, opd, putT, closedV, aBin, intOp, sameK, mapO, joinR, hasAddr, boundOf, pushB, aAlloc, Value.cells, lookB, setB, Nat.beq_eq, tm_n_set, tm_get_set, tm_of_n, tm_of_get, tm_tr_set, tm_tr_of, cellV, putF, appR_eq, takeR_eq, dropR_eq, setR_eq, getR_eq, ↓C75, ↓C76, ↓C77, ↓C79, ↓C17, ↓C18, ↓C22, ↓C71, FA24_0, FA24_1, FA24_2, FA24_3, FA24_4, FA24_5, FA24_6, FA24_7, FA24_8, LD3, LD4, LD22, LD27, LDr, LD24, LEN22, IA22, tkc, cellAt, ↓AL24, ↓Cran, ↓Crange, ↓Cbelow, c1, c2, c3, c4, ST24, BD24, partsO]
  generalize hr : evLoop _ _ _ _ = r
  obtain ⟨q1, q1e, q1h, q1b⟩ : ∃ q : Nat, rngV (stB (stB (stB (stB (stB x))))) 1 2 = (q : Int) ∧ 1 ≤ q ∧ q ≤ 2 := by
    have := rngV_bd (stB (stB (stB (stB (stB x))))) (lo := 1) (hi := 2) (by omega) (by omega)
    exact ⟨(rngV (stB (stB (stB (stB (stB x))))) 1 2).toNat, by omega, by omega, by omega⟩
  rw [q1e] at hr
  obtain ⟨y, A', H', rfl, rfl, s, x2, u1, hK, hB, hk0, hn1, hl, hmk, t0, t1, t4, t5⟩ := loop_go (Q := QL1 N p me bs q1) hr (IL1 N p me bs q1) q1 (by omega) (by
    have e0 := rngV_bd x (lo := 2) (hi := 4) (by omega) (by omega)
    have e1 := belV_bd (stB x) (n := 3) (by omega) (by omega)
    have e2 := belV_bd (stB (stB x)) (n := 3) (by omega) (by omega)
    have e3 := belV_bd (stB (stB (stB x))) (n := 2) (by omega) (by omega)
    have e4 := belV_bd (stB (stB (stB (stB x)))) (n := 3) (by omega) (by omega)
    refine ⟨⟨3, 0, fun _ => 0, belV (stB x) 3, belV (stB (stB x)) 3, belV (stB (stB (stB x))) 2, rngV x 2 4, me, belV (stB (stB (stB (stB x)))) 3, 0, fun _ => 0⟩, stB (stB (stB (stB (stB (stB x))))), .slice none 0 0, ⟨(mk _).push _, by show N + 1 < N + 2; omega, hpN, ?_, ?_, ?_, ?_, .inl ⟨rfl, rfl⟩, .inl ⟨rfl, rfl⟩, fun a b n k h => by cases h⟩, ⟨rfl, rfl, by show 2 ≤ rngV x 2 4 ∧ rngV x 2 4 ≤ 4; omega, by show 0 ≤ belV (stB x) 3 ∧ belV (stB x) 3 ≤ 4; omega, by show 0 ≤ belV (stB (stB x)) 3 ∧ belV (stB (stB x)) 3 ≤ 3; omega, by show 0 ≤ belV (stB (stB (stB x))) 2 ∧ belV (stB (stB (stB x))) 2 ≤ 1; omega, by show 0 ≤ belV (stB (stB (stB (stB x)))) 3 ∧ belV (stB (stB (stB (stB x)))) 3 ≤ 2; omega, fun i hi => by simp at hi, by show 0 ≤ 2; omega⟩, rfl, by show 0 + q1 = q1; omega, ⟨by simp [tm_n_set, tm_of_n], rfl, by simp [tm_get_set, tm_n_set, tm_of_n, tm_of_get], by simp [tm_get_set, tm_n_set, tm_of_n, tm_of_get], by simp [tm_get_set, tm_n_set, tm_of_n, tm_of_get], by simp [tm_get_set, tm_n_set, tm_of_n, tm_of_get]⟩, by simp [tm_get_set, tm_n_set, tm_of_n, tm_of_get]⟩
    · show lookB ((N + 1, _) :: _) p = _
      rw [lookB]
      simp only [beq_ne n2, Bool.false_eq_true, if_false]
      exact lk _
    · simp [lookB]
    · simp [lookB]
    · intro j hj hjp
      have a1 : ¬ j = N + 1 := by omega
      have a2 : ¬ j = N := by omega
      simp [lookB, Nat.beq_eq, a1, a2, lookB_setB, hjp]) (by
    clear hr
    rintro m A ⟨nx, b1⟩ ⟨s, x1, u1, hK, hB, hk0, him, ⟨hl, hmk, t0, t1, t4, t5⟩, t6⟩
    simp only [runC]
    cases m with
    | zero =>
      simp [ec_skip, ec_label, ek_reg, ek_draw, ek_seq, ec_cond, ek_block, ec_loop, ec_exit, ec_ret, ec_scope, ek_nil, ek_op, opK_some, regK_some, seqK_normal, seqK_exit, seqK_ret, blockK_normal, blockK_exit, blockK_ret, evOp, vOp, hOpB, hOpU, hOp, hOpT, aAppendG_tab, aWanted, aYielded, opd, putT, closedV, aBin, intOp, sameK, mapO, joinR, hasAddr, boundOf, pushB, aAlloc, Value.cells, lookB, setB, Nat.beq_eq, tm_n_set, tm_get_set, tm_of_n, tm_of_get, tm_tr_set, tm_tr_of, cellV, putF, appR_eq, takeR_eq, dropR_eq, setR_eq, getR_eq, ↓C75, ↓C76, ↓C77, ↓C79, ↓C17, ↓C18, ↓C22, ↓C71, FA24_0, FA24_1, FA24_2, FA24_3, FA24_4, FA24_5, FA24_6, FA24_7, FA24_8, LD3, LD4, LD22, LD27, LDr, LD24, LEN22, IA22, tkc, cellAt, hl, hmk, t0, t1, t4, t5, t6]
      exact .inr ⟨by simp, rfl, s, x1, u1, hK, hB, hk0, by omega, by simp [tm_n_set, hl], rfl, by simp [tm_get_set, tm_n_set, hl, t0], by simp [tm_get_set, tm_n_set, hl, t1], by simp [tm_get_set, tm_n_set, hl, t4], by simp [tm_get_set, tm_n_set, hl, t5]⟩
    | succ m =>
      have hw : wrapI .i64 (((m + 1 : Nat) : Int) - 1) = (m : Int) := by rw [wrapI_small (by omega) (by omega)]; omega
      have hpos : (0 : Int) < ((m + 1 : Nat) : Int) := by omega
      have hnn := hB.n
      have hnx : N + 1 < nx := hK.nx
      have hK2 := hK.step (y := stB x1)
      obtain ⟨bs2, hs, hb1, hb2, hap⟩ := hK2.app1 (by omega)
      obtain ⟨cs, hg, hgk, e, hK3⟩ := hap (rngV x1 3 5)
      have hrb := rngV_bd x1 (lo := 3) (hi := 5) (by omega) (by omega)
      have c5 : call (.func (.func 79) #[] #[]) [.pointer (some ⟨p, 0, none⟩), .int .i64 3, .int .i64 5] ⟨nx, b1⟩ = some (.int .i64 (rngV x1 3 5), ⟨nx, setB b1 p (sB (stB x1))⟩) := hS.ran nx b1 x1 3 5 (by omega) (by omega) hK.mi hK.src
      have L0 := hK.set
      have L1 := lookB_roB_cells _ _ _ _ hK.set hK.mi.1
      have L2 := lookB_roB_cells _ _ _ _ hK2.set hK2.mi.1
      have L3 := hb1.trans hK2.set
      have D1 := hK2.mi.1
      have D2 := (hK2.mi.push (.cells false [.int .i64 (rngV x1 3 5)])).1
      have ap1 := app_ro1 hK.mi u1
      have er := eqFL hK.l1
      have nle : ¬ nx + 1 ≤ nx := by omega
      have m1 : ¬ N + 1 = nx := by omega
      have m2 : ¬ N = nx := by omega
      have m3 : ¬ N + 1 = nx + 1 := by omega
      have nw := newOnes_ro b1 nx hK.mi.2
      simp only at e D1 D2 L2 hK3 L3 ap1 nw
      simp [ec_skip, ec_label, ek_reg, ek_draw, ek_seq, ec_cond, ek_block, ec_loop, ec_exit, ec_ret, ec_scope, ek_nil, ek_op, opK_some, regK_some, seqK_normal, seqK_exit, seqK_ret, blockK_normal, blockK_exit, blockK_ret, evOp, vOp, hOpB, hOpU, hOp, hOpT, aAppendG_tab, aWanted, aYielded, opd, putT, closedV, aBin, intOp, sameK, mapO, joinR, hasAddr, boundOf, pushB, aAlloc, Value.cells, lookB, setB, Nat.beq_eq, tm_n_set, tm_get_set, tm_of_n, tm_of_get, tm_tr_set, tm_tr_of, cellV, putF, appR_eq, takeR_eq, dropR_eq, setR_eq, getR_eq, ↓C75, ↓C76, ↓C77, ↓C79, ↓C17, ↓C18, ↓C22, ↓C71, FA24_0, FA24_1, FA24_2, FA24_3, FA24_4, FA24_5, FA24_6, FA24_7, FA24_8, LD3, LD4, LD22, LD27, LDr, LD24, LEN22, IA22, tkc, cellAt, hl, hmk, t0, t1, t4, t5, t6, hpos]
      generalize hX : evDrawX _ _ _ _ _ = X
      obtain ⟨tm, rfl, hn', z0, z1, z4, z5, z6⟩ := draw_any (H' := ⟨nx + 2, (nx + 1, .cells false cs) :: (nx, .cells false [.int .i64 (rngV x1 3 5)]) :: setB bs2 (N + 1) (.cells false [.int .i64 s.p, .slice (some ⟨nx + 1, 0, none⟩) (s.n + 1) 1, .int .i64 s.w, .int .i64 s.d, .int .i64 s.f, .int .i64 s.c, .int .i64 s.m, .int .i64 s.de, .slice none 0 0])⟩) (Pt := fun tm => tm.get 0 = .pointer (some ⟨p, 0, none⟩) ∧ tm.get 1 = .int .i64 (me : Int) ∧ tm.get 4 = .pointer (some ⟨N, 0, none⟩) ∧ tm.get 5 = .pointer (some ⟨N + 1, 0, none⟩) ∧ tm.get 6 = .int .i64 ((m + 1 : Nat) : Int)) hX (by kernel_rfl) hK.mi.1 (by
        clear hX
        generalize hMM : befs _ = M
        have o34 : ordB M 3 4 = true := by rw [← hMM]; kernel_rfl
        have o43 : ordB M 4 3 = true := by rw [← hMM]; kernel_rfl
        have o35 : ordB M 3 5 = true := by rw [← hMM]; kernel_rfl
        have o53 : ordB M 5 3 = true := by rw [← hMM]; kernel_rfl
        have o37 : ordB M 3 7 = true := by rw [← hMM]; kernel_rfl
        have o73 : ordB M 7 3 = true := by rw [← hMM]; kernel_rfl
        have o45 : ordB M 4 5 = true := by rw [← hMM]; kernel_rfl
        have o54 : ordB M 5 4 = true := by rw [← hMM]; kernel_rfl
        have o47 : ordB M 4 7 = true := by rw [← hMM]; kernel_rfl
        have o74 : ordB M 7 4 = true := by rw [← hMM]; kernel_rfl
        have o57 : ordB M 5 7 = true := by rw [← hMM]; kernel_rfl
        have o75 : ordB M 7 5 = true := by rw [← hMM]; kernel_rfl
        have o51 : ordB M 5 1 = true := by rw [← hMM]; kernel_rfl
        have o71 : ordB M 7 1 = true := by rw [← hMM]; kernel_rfl
        clear hMM
        simp [mapO, drRun, drOp, dr3, looks, guardT, tmpsOf, Op.operands, Call.operands, wantedR, gOf, finT, natMem, isNil, writesF, evOp, vOp, hOpB, hOpU, hOp, hOpT, aAppendG_tab, opd, closedV, aBin, intOp, sameK, opdO, boundOf, undef, lookB, Nat.beq_eq, tm_n_set, tm_get_set, tm_of_n, tm_of_get, tm_tr_set, tm_tr_of, b02, b12, b32, ↓G75, W75, ↓G76, W76, ↓G77, W77, ↓G79, W79, ↓G17, W17, ↓G18, W18, ↓G22, W22, ↓G71, W71, tv, all1, roB, roK, news, newOnes, decr, tkc, cellAt, LD3, LD4, LD22, LD27, LDr, LD24, LEN22, IA22, FA24_0, FA24_1, FA24_2, FA24_3, FA24_4, FA24_5, FA24_6, FA24_7, FA24_8, hasR, hasR_ro, aAppendG_tab, partsO, ↓Gran, Wran, BS22, APT22, pushB, ST22, hl, t0, t1, t4, t5, t6, c5, L0, L1, L2, L3, m1, m2, m3, ap1, e, nw, nle, er, wheap, Nat.ble_eq, Nat.blt_eq, putF, Value.cells, cellV]
        refine ⟨_, _, ⟨rfl, rfl⟩, ?_, ?_, ?_⟩
        · simp [dynOK, rdSame, evOp, vOp, hOpB, hOpU, hOp, hOpT, mapO, opd, gOf, natMem, finT, tm_get_set, tm_n_set, LD22, cellAt, roB, roK, lookB, L2, L3, D1, D2, er, o34, o43, o35, o53, o37, o73, o45, o54, o47, o74, o57, o75, o51, o71, b02, b12, b32, b03, b13, b23, m1, m2, m3, Nat.blt_eq, Nat.ble_eq, Nat.beq_eq, hl, hasR, hasR_ro]
        · simp [wheap, news, b02, b12, b32, Nat.beq_eq, all1, setB, setR_eq, m1, m2, m3]
        · simp [finT, tm_get_set, tm_n_set, hl, t0, t1, t4, t5, t6])
      clear hX
      simp [tm_n_set, hl] at hn'
      simp [ec_skip, ec_label, ek_reg, ek_draw, ek_seq, ec_cond, ek_block, ec_loop, ec_exit, ec_ret, ec_scope, ek_nil, ek_op, opK_some, regK_some, seqK_normal, seqK_exit, seqK_ret, blockK_normal, blockK_exit, blockK_ret, evOp, vOp, hOpB, hOpU, hOp, hOpT, aAppendG_tab, aWanted, aYielded, opd, putT, closedV, aBin, intOp, sameK, mapO, joinR, hasAddr, boundOf, pushB, aAlloc, Value.cells, lookB, setB, Nat.beq_eq, tm_n_set, tm_get_set, tm_of_n, tm_of_get, tm_tr_set, tm_tr_of, cellV, putF, appR_eq, takeR_eq, dropR_eq, setR_eq, getR_eq, ↓C75, ↓C76, ↓C77, ↓C79, ↓C17, ↓C18, ↓C22, ↓C71, FA24_0, FA24_1, FA24_2, FA24_3, FA24_4, FA24_5, FA24_6, FA24_7, FA24_8, LD3, LD4, LD22, LD27, LDr, LD24, LEN22, IA22, tkc, cellAt, hmk, hn', z0, z1, z4, z5, z6]
      have hw2 : wrapI .i64 (m : Int) = m := wrapI_small (by omega) (by omega)
      refine ⟨_, _, _, ⟨rfl, rfl, rfl⟩, .inl ⟨rfl, m, rfl, { s with n := s.n + 1, g := gi cs }, stB x1, _, hK3, ⟨hB.p, hB.m, hB.c, hB.w, hB.d, hB.f, hB.de, fun i hi => ?_, ?_⟩, hk0, ?_, ⟨by simp [tm_n_set, hn'], rfl, by simp [tm_get_set, tm_n_set, hn', z0], by simp [tm_get_set, tm_n_set, hn', z1], by simp [tm_get_set, tm_n_set, hn', z4], by simp [tm_get_set, tm_n_set, hn', z5]⟩, by simp [tm_get_set, tm_n_set, hn', hw2]⟩⟩
      · by_cases h : i < s.n
        · show 3 ≤ gi cs i ∧ gi cs i ≤ 5
          rw [hg i h]
          exact hB.g i h
        · have : i < s.n + 1 := hi
          have : i = s.n := by omega
          subst this
          show 3 ≤ gi cs s.n ∧ gi cs s.n ≤ 5
          rw [hgk]
          exact hrb
      · show s.n + 1 ≤ 2
        omega
      · show s.n + 1 + m = q1
        omega)
  have LS := hK.set
  have mb : (1 : Int) ≤ me ∧ (me : Int) ≤ 2 := by omega
  have hde := hB.de
  have hbc := hB.c
  have hbw := hB.w
  have hbd := hB.d
  have v1 : wrapI .i64 (3 * (me : Int)) = 3 * me := wrapI_small (by omega) (by omega)
  have v2 : wrapI .i64 (3 * (me : Int) + 1) = 3 * me + 1 := wrapI_small (by omega) (by omega)
  have v3 : wrapI .i64 (3 * (3 * (me : Int) + 1)) = 3 * (3 * me + 1) := wrapI_small (by omega) (by omega)
  have v4 : wrapI .i64 (3 * (3 * (me : Int) + 1) + 1) = 3 * (3 * me + 1) + 1 := wrapI_small (by omega) (by omega)
  have v5 : wrapI .i64 (3 * (3 * (me : Int) + 1) + 1 + s.de) = 3 * (3 * me + 1) + 1 + s.de := wrapI_small (by omega) (by omega)
  simp [ec_skip, ec_label, ek_reg, ek_draw, ek_seq, ec_cond, ek_block, ec_loop, ec_exit, ec_ret, ec_scope, ek_nil, ek_op, opK_some, regK_some, seqK_normal, seqK_exit, seqK_ret, blockK_normal, blockK_exit, blockK_ret, evOp, vOp, hOpB, hOpU, hOp, hOpT, aAppendG_tab, aWanted, aYielded, opd, putT, closedV, aBin, intOp, sameK, mapO, joinR, hasAddr, boundOf, pushB, aAlloc, Value.cells, lookB, setB, Nat.beq_eq, tm_n_set, tm_get_set, tm_of_n, tm_of_get, tm_tr_set, tm_tr_of, cellV, putF, appR_eq, takeR_eq, dropR_eq, setR_eq, getR_eq, ↓C75, ↓C76, ↓C77, ↓C79, ↓C17, ↓C18, ↓C22, ↓C71, FA24_0, FA24_1, FA24_2, FA24_3, FA24_4, FA24_5, FA24_6, FA24_7, FA24_8, LD3, LD4, LD22, LD27, LDr, LD24, LEN22, IA22, tkc, cellAt, hl, hmk, t0, t1, t4, t5, LS, hB.p, v1, v2, v3, v4, v5]
  generalize hr2 : evLoop _ _ _ _ = r2
  obtain ⟨y, A2, H2, rfl, rfl, s2, x3, u2, hK2, hB2, hk2, hn2, hNV, hle, hl, hmk, t0, t1, t4, t5⟩ := loop_go (Q := QL2 N p me bs q1 (3 * (3 * (me : Int) + 1) + 1 + s.de)) hr2 (IL2 N p me bs q1 (3 * (3 * (me : Int) + 1) + 1 + s.de)) ((4 - s.c) + (4 - s.w) + (3 - s.d)).toNat (by omega) ⟨s, x2, u1, hK, hB, hk0, hn1, rfl, by omega, ⟨by simp [tm_n_set, hl], by simp [hmk], by simp [tm_get_set, tm_n_set, hl, t0], by simp [tm_get_set, tm_n_set, hl, t1], by simp [tm_get_set, tm_n_set, hl, t4], by simp [tm_get_set, tm_n_set, hl, t5]⟩, by simp [tm_get_set, tm_n_set, hl]⟩ (by
    clear hr2
    rintro m A ⟨nx, b1⟩ ⟨s1, x1, u1, hK, hB, hk0, hn1, hNV, hm, ⟨hl, hmk, t0, t1, t4, t5⟩, t7⟩
    simp only [runC]
    obtain ⟨S, hPV, hS1, hS2⟩ := PV_bd hB (by omega)
    have hbc := hB.c
    have hbw := hB.w
    have hbd := hB.d
    have hbf := hB.f
    have hnx : N + 1 < nx := hK.nx
    have hpc : 0 ≤ PV s1 * s1.c ∧ PV s1 * s1.c ≤ 68 ∧ (4 ≤ s1.c → PV s1 * s1.c = 4 * PV s1) := by
      rcases (show s1.c = 2 ∨ s1.c = 3 ∨ s1.c = 4 by omega) with h | h | h <;> rw [h] <;> omega
    have w1 : wrapI .i64 (PV s1 * s1.c) = PV s1 * s1.c := wrapI_small (by omega) (by omega)
    have w2 : wrapI .i64 (PV s1 * s1.c + s1.f) = PV s1 * s1.c + s1.f := wrapI_small (by omega) (by omega)
    have L0 := hK.set
    have L1 := lookB_roB_cells _ _ _ _ hK.set hK.mi.1
    have cp := hPl nx (roB b1) s1 u1 (.slice none 0 0) hK.mi.ro (hK.l1.lst.ro hK.mi.1) (by omega)
    have nw := newOnes_ro b1 nx hK.mi.2
    have nw1 := newOnes_ro b1 (nx + 1) (fun q hq => Nat.lt_succ_of_lt (hK.mi.2 q hq))
    simp only at L0 L1 nw nw1
    simp [ec_skip, ec_label, ek_reg, ek_draw, ek_seq, ec_cond, ek_block, ec_loop, ec_exit, ec_ret, ec_scope, ek_nil, ek_op, opK_some, regK_some, seqK_normal, seqK_exit, seqK_ret, blockK_normal, blockK_exit, blockK_ret, evOp, vOp, hOpB, hOpU, hOp, hOpT, aAppendG_tab, aWanted, aYielded, opd, putT, closedV, aBin, intOp, sameK, mapO, joinR, hasAddr, boundOf, pushB, aAlloc, Value.cells, lookB, setB, Nat.beq_eq, tm_n_set, tm_get_set, tm_of_n, tm_of_get, tm_tr_set, tm_tr_of, cellV, putF, appR_eq, takeR_eq, dropR_eq, setR_eq, getR_eq, ↓C75, ↓C76, ↓C77, ↓C79, ↓C17, ↓C18, ↓C22, ↓C71, FA24_0, FA24_1, FA24_2, FA24_3, FA24_4, FA24_5, FA24_6, FA24_7, FA24_8, LD3, LD4, LD22, LD27, LDr, LD24, LEN22, IA22, tkc, cellAt, hl, hmk, t0, t1, t4, t5, t7]
    generalize hX : evDrawX _ _ _ _ _ = X
    obtain ⟨tm, rfl, hn', z0, z1, z4, z5, z7, z53⟩ := draw_any (H' := ⟨nx + 1, b1⟩) (Pt := fun tm => tm.get 0 = .pointer (some ⟨p, 0, none⟩) ∧ tm.get 1 = .int .i64 (me : Int) ∧ tm.get 4 = .pointer (some ⟨N, 0, none⟩) ∧ tm.get 5 = .pointer (some ⟨N + 1, 0, none⟩) ∧ tm.get 7 = .int .i64 (3 * (3 * (me : Int) + 1) + 1 + s.de) ∧ tm.get 53 = .bool (decide (PV s1 * s1.c + s1.f < 3 * (3 * (me : Int) + 1) + 1 + s.de))) hX (by kernel_rfl) hK.mi.1 (by
      clear hX
      generalize befs _ = M
      simp [mapO, drRun, drOp, dr3, looks, guardT, tmpsOf, Op.operands, Call.operands, wantedR, gOf, finT, natMem, isNil, writesF, evOp, vOp, hOpB, hOpU, hOp, hOpT, aAppendG_tab, opd, closedV, aBin, intOp, sameK, opdO, boundOf, undef, lookB, Nat.beq_eq, tm_n_set, tm_get_set, tm_of_n, tm_of_get, tm_tr_set, tm_tr_of, b02, b12, b32, ↓G75, W75, ↓G76, W76, ↓G77, W77, ↓G79, W79, ↓G17, W17, ↓G18, W18, ↓G22, W22, ↓G71, W71, tv, all1, roB, roK, news, newOnes, decr, tkc, cellAt, LD3, LD4, LD22, LD27, LDr, LD24, LEN22, IA22, FA24_0, FA24_1, FA24_2, FA24_3, FA24_4, FA24_5, FA24_6, FA24_7, FA24_8, hasR, hasR_ro, ↓Gpl, Wpl, hl, t0, t1, t4, t5, t7, cp, L0, L1, nw, nw1, wheap, Nat.ble_eq, Nat.blt_eq]
      refine ⟨_, _, ⟨rfl, rfl⟩, ?_, ?_, ?_⟩
      · simp [dynOK, b02, b12, b32, b03, b13, b23, Nat.blt_eq, Nat.beq_eq, hl]
      · simp [wheap, news, b02, b12, b32, Nat.beq_eq, all1]
      · simp [finT, tm_get_set, tm_n_set, hl, t0, t1, t4, t5, t7, w1, w2])
    clear hX
    simp [tm_n_set, hl] at hn'
    have hKu := hK.up (nx := nx + 1) (Nat.le_succ _)
    by_cases hlt : PV s1 * s1.c + s1.f < 3 * (3 * (me : Int) + 1) + 1 + s.de
    · have hz : tm.get 53 = .bool true := by rw [z53]; simp [hlt]
      by_cases hc : s1.c < 4
      · have hw1 : wrapI .i64 (s1.c + 1) = s1.c + 1 := wrapI_small (by omega) (by omega)
        obtain ⟨m, rfl⟩ : ∃ m', m = m' + 1 := ⟨m - 1, by omega⟩
        have hKp := hKu.put { s1 with c := s1.c + 1 } rfl rfl rfl rfl
        have hBp : LB me { s1 with c := s1.c + 1 } := ⟨hB.p, hB.m, by show 2 ≤ s1.c + 1 ∧ s1.c + 1 ≤ 4; omega, hB.w, hB.d, hB.f, hB.de, hB.g, hB.n⟩
        simp [ec_skip, ec_label, ek_reg, ek_draw, ek_seq, ec_cond, ek_block, ec_loop, ec_exit, ec_ret, ec_scope, ek_nil, ek_op, opK_some, regK_some, seqK_normal, seqK_exit, seqK_ret, blockK_normal, blockK_exit, blockK_ret, evOp, vOp, hOpB, hOpU, hOp, hOpT, aAppendG_tab, aWanted, aYielded, opd, putT, closedV, aBin, intOp, sameK, mapO, joinR, hasAddr, boundOf, pushB, aAlloc, Value.cells, lookB, setB, Nat.beq_eq, tm_n_set, tm_get_set, tm_of_n, tm_of_get, tm_tr_set, tm_tr_of, cellV, putF, appR_eq, takeR_eq, dropR_eq, setR_eq, getR_eq, ↓C75, ↓C76, ↓C77, ↓C79, ↓C17, ↓C18, ↓C22, ↓C71, FA24_0, FA24_1, FA24_2, FA24_3, FA24_4, FA24_5, FA24_6, FA24_7, FA24_8, LD3, LD4, LD22, LD27, LDr, LD24, LEN22, IA22, tkc, cellAt, hmk, hn', z0, z1, z4, z5, z7, hz, L0, STi, hw1, hc]
        refine ⟨_, _, _, ⟨rfl, rfl, rfl⟩, .inl ⟨rfl, m, rfl, { s1 with c := s1.c + 1 }, x1, u1, hKp, hBp, hk0, hn1, hNV, ?_, ⟨by simp [tm_n_set, hn'], rfl, by simp [tm_get_set, tm_n_set, hn', z0], by simp [tm_get_set, tm_n_set, hn', z1], by simp [tm_get_set, tm_n_set, hn', z4], by simp [tm_get_set, tm_n_set, hn', z5]⟩, by simp [tm_get_set, tm_n_set, hn', z7]⟩⟩
        show (4 - (s1.c + 1)) + (4 - s1.w) + (3 - s1.d) = (m : Int)
        omega
      · by_cases hw : s1.w < 4
        · have hw1 : wrapI .i64 (s1.w + 1) = s1.w + 1 := wrapI_small (by omega) (by omega)
          obtain ⟨m, rfl⟩ : ∃ m', m = m' + 1 := ⟨m - 1, by omega⟩
          have hKp := hKu.put { s1 with w := s1.w + 1 } rfl rfl rfl rfl
          have hBp : LB me { s1 with w := s1.w + 1 } := ⟨hB.p, hB.m, hB.c, by show 0 ≤ s1.w + 1 ∧ s1.w + 1 ≤ 4; omega, hB.d, hB.f, hB.de, hB.g, hB.n⟩
          simp [ec_skip, ec_label, ek_reg, ek_draw, ek_seq, ec_cond, ek_block, ec_loop, ec_exit, ec_ret, ec_scope, ek_nil, ek_op, opK_some, regK_some, seqK_normal, seqK_exit, seqK_ret, blockK_normal, blockK_exit, blockK_ret, evOp, vOp, hOpB, hOpU, hOp, hOpT, aAppendG_tab, aWanted, aYielded, opd, putT, closedV, aBin, intOp, sameK, mapO, joinR, hasAddr, boundOf, pushB, aAlloc, Value.cells, lookB, setB, Nat.beq_eq, tm_n_set, tm_get_set, tm_of_n, tm_of_get, tm_tr_set, tm_tr_of, cellV, putF, appR_eq, takeR_eq, dropR_eq, setR_eq, getR_eq, ↓C75, ↓C76, ↓C77, ↓C79, ↓C17, ↓C18, ↓C22, ↓C71, FA24_0, FA24_1, FA24_2, FA24_3, FA24_4, FA24_5, FA24_6, FA24_7, FA24_8, LD3, LD4, LD22, LD27, LDr, LD24, LEN22, IA22, tkc, cellAt, hmk, hn', z0, z1, z4, z5, z7, hz, L0, STi, hw1, hc, hw]
          refine ⟨_, _, _, ⟨rfl, rfl, rfl⟩, .inl ⟨rfl, m, rfl, { s1 with w := s1.w + 1 }, x1, u1, hKp, hBp, hk0, hn1, hNV, ?_, ⟨by simp [tm_n_set, hn'], rfl, by simp [tm_get_set, tm_n_set, hn', z0], by simp [tm_get_set, tm_n_set, hn', z1], by simp [tm_get_set, tm_n_set, hn', z4], by simp [tm_get_set, tm_n_set, hn', z5]⟩, by simp [tm_get_set, tm_n_set, hn', z7]⟩⟩
          show (4 - s1.c) + (4 - (s1.w + 1)) + (3 - s1.d) = (m : Int)
          omega
        · by_cases hd : s1.d < 3
          · have hw1 : wrapI .i64 (s1.d + 1) = s1.d + 1 := wrapI_small (by omega) (by omega)
            obtain ⟨m, rfl⟩ : ∃ m', m = m' + 1 := ⟨m - 1, by omega⟩
            have hKp := hKu.put { s1 with d := s1.d + 1 } rfl rfl rfl rfl
            have hBp : LB me { s1 with d := s1.d + 1 } := ⟨hB.p, hB.m, hB.c, hB.w, by show 0 ≤ s1.d + 1 ∧ s1.d + 1 ≤ 3; omega, hB.f, hB.de, hB.g, hB.n⟩
            simp [ec_skip, ec_label, ek_reg, ek_draw, ek_seq, ec_cond, ek_block, ec_loop, ec_exit, ec_ret, ec_scope, ek_nil, ek_op, opK_some, regK_some, seqK_normal, seqK_exit, seqK_ret, blockK_normal, blockK_exit, blockK_ret, evOp, vOp, hOpB, hOpU, hOp, hOpT, aAppendG_tab, aWanted, aYielded, opd, putT, closedV, aBin, intOp, sameK, mapO, joinR, hasAddr, boundOf, pushB, aAlloc, Value.cells, lookB, setB, Nat.beq_eq, tm_n_set, tm_get_set, tm_of_n, tm_of_get, tm_tr_set, tm_tr_of, cellV, putF, appR_eq, takeR_eq, dropR_eq, setR_eq, getR_eq, ↓C75, ↓C76, ↓C77, ↓C79, ↓C17, ↓C18, ↓C22, ↓C71, FA24_0, FA24_1, FA24_2, FA24_3, FA24_4, FA24_5, FA24_6, FA24_7, FA24_8, LD3, LD4, LD22, LD27, LDr, LD24, LEN22, IA22, tkc, cellAt, hmk, hn', z0, z1, z4, z5, z7, hz, L0, STi, hw1, hc, hw, hd]
            refine ⟨_, _, _, ⟨rfl, rfl, rfl⟩, .inl ⟨rfl, m, rfl, { s1 with d := s1.d + 1 }, x1, u1, hKp, hBp, hk0, hn1, hNV, ?_, ⟨by simp [tm_n_set, hn'], rfl, by simp [tm_get_set, tm_n_set, hn', z0], by simp [tm_get_set, tm_n_set, hn', z1], by simp [tm_get_set, tm_n_set, hn', z4], by simp [tm_get_set, tm_n_set, hn', z5]⟩, by simp [tm_get_set, tm_n_set, hn', z7]⟩⟩
            show (4 - s1.c) + (4 - s1.w) + (3 - (s1.d + 1)) = (m : Int)
            omega
          · exfalso
            have := hpc.2.2 (by omega)
            omega
    · have hz : tm.get 53 = .bool false := by rw [z53]; simp [hlt]
      simp [ec_skip, ec_label, ek_reg, ek_draw, ek_seq, ec_cond, ek_block, ec_loop, ec_exit, ec_ret, ec_scope, ek_nil, ek_op, opK_some, regK_some, seqK_normal, seqK_exit, seqK_ret, blockK_normal, blockK_exit, blockK_ret, evOp, vOp, hOpB, hOpU, hOp, hOpT, aAppendG_tab, aWanted, aYielded, opd, putT, closedV, aBin, intOp, sameK, mapO, joinR, hasAddr, boundOf, pushB, aAlloc, Value.cells, lookB, setB, Nat.beq_eq, tm_n_set, tm_get_set, tm_of_n, tm_of_get, tm_tr_set, tm_tr_of, cellV, putF, appR_eq, takeR_eq, dropR_eq, setR_eq, getR_eq, ↓C75, ↓C76, ↓C77, ↓C79, ↓C17, ↓C18, ↓C22, ↓C71, FA24_0, FA24_1, FA24_2, FA24_3, FA24_4, FA24_5, FA24_6, FA24_7, FA24_8, LD3, LD4, LD22, LD27, LDr, LD24, LEN22, IA22, tkc, cellAt, hmk, hn', z0, z1, z4, z5, z7, hz, L0]
      exact ⟨_, _, _, ⟨rfl, rfl, rfl⟩, .inr ⟨by simp, rfl, s1, x1, u1, hKu, hB, hk0, hn1, hNV, by omega, hn', rfl, z0, z1, z4, z5⟩⟩)
  simp [ec_skip, ec_label, ek_reg, ek_draw, ek_seq, ec_cond, ek_block, ec_loop, ec_exit, ec_ret, ec_scope, ek_nil, ek_op, opK_some, regK_some, seqK_normal, seqK_exit, seqK_ret, blockK_normal, blockK_exit, blockK_ret, evOp, vOp, hOpB, hOpU, hOp, hOpT, aAppendG_tab, aWanted, aYielded, opd, putT, closedV, aBin, intOp, sameK, mapO, joinR, hasAddr, boundOf, pushB, aAlloc, Value.cells, lookB, setB, Nat.beq_eq, tm_n_set, tm_get_set, tm_of_n, tm_of_get, tm_tr_set, tm_tr_of, cellV, putF, appR_eq, takeR_eq, dropR_eq, setR_eq, getR_eq, ↓C75, ↓C76, ↓C77, ↓C79, ↓C17, ↓C18, ↓C22, ↓C71, FA24_0, FA24_1, FA24_2, FA24_3, FA24_4, FA24_5, FA24_6, FA24_7, FA24_8, LD3, LD4, LD22, LD27, LDr, LD24, LEN22, IA22, tkc, cellAt, hl, hmk, t0, t1, t4, t5]
  generalize hr3 : evLoop _ _ _ _ = r3
  obtain ⟨P, hP, hPb⟩ : ∃ P : Nat, PV s2 = (P : Int) ∧ P ≤ 17 := by
    obtain ⟨S, h1, h2, h3⟩ := PV_bd hB2 (by omega)
    have := hB2.w
    have := hB2.d
    have := hB2.n
    exact ⟨(PV s2).toNat, by omega, by omega⟩
  obtain ⟨y, A3, H3, rfl, rfl, s3, x4, u3, v3', hK3, hB3, hR3, hn3, hP3, hNV3, hle3, hl, hmk, t0, t1, t4, t5⟩ := loop_go (Q := QL3 N p me bs q1 P (3 * (3 * (me : Int) + 1) + 1 + s.de)) hr3 (IL3 N p me bs q1 P (3 * (3 * (me : Int) + 1) + 1 + s.de)) P (by omega) ⟨s2, x3, u2, .slice none 0 0, 0, hK2, hB2, ⟨by omega, fun i hi => by omega, fun i hi => by omega⟩, hn2, hP, hNV, hle, by omega, ⟨by simp [tm_n_set, hl], by simp [hmk], by simp [tm_get_set, tm_n_set, hl, t0], by simp [tm_get_set, tm_n_set, hl, t1], by simp [tm_get_set, tm_n_set, hl, t4], by simp [tm_get_set, tm_n_set, hl, t5]⟩, by simp [tm_get_set, tm_n_set, hl]⟩ (by
    clear hr3
    rintro m A ⟨nx, b1⟩ ⟨s1, x1, u1, u8, j, hK, hB, hR, hn1, hP1, hNV1, hle1, hjm, ⟨hl, hmk, t0, t1, t4, t5⟩, t8⟩
    simp only [runC]
    obtain ⟨z, hz⟩ : ∃ z, z = nx + 1 := ⟨_, rfl⟩
    have hnx : N + 1 < nx := hK.nx
    have hKu : KL N p bs ⟨z, b1⟩ x1 s1 u1 u8 := hK.up (nx := z) (by show nx ≤ z; omega)
    have hrle := hR.le
    have hnn := hB.n
    have cp : call (.func (.func 43) #[] #[]) [.agg #[.int .i64 s1.p, u1, .int .i64 s1.w, .int .i64 s1.d, .int .i64 s1.f, .int .i64 s1.c, .int .i64 s1.m, .int .i64 s1.de, u8]] ⟨nx, b1⟩ = some (.int .i64 (P : Int), ⟨z, b1⟩) := by
      rw [hz, ← hP1]
      exact hPl nx b1 s1 u1 u8 hK.mi hK.l1.lst (by omega)
    have L0 := hK.set
    simp only at L0
    cases m with
    | zero =>
      have hj : ¬ (j : Int) < P := by omega
      have hjn : ¬ j < P := by omega
      obtain rfl : j = P := by omega
      simp [ec_skip, ec_label, ek_reg, ek_draw, ek_seq, ec_cond, ek_block, ec_loop, ec_exit, ec_ret, ec_scope, ek_nil, ek_op, opK_some, regK_some, seqK_normal, seqK_exit, seqK_ret, blockK_normal, blockK_exit, blockK_ret, evOp, vOp, hOpB, hOpU, hOp, hOpT, aAppendG_tab, aWanted, aYielded, opd, putT, closedV, aBin, intOp, sameK, mapO, joinR, hasAddr, boundOf, pushB, aAlloc, Value.cells, lookB, setB, Nat.beq_eq, tm_n_set, tm_get_set, tm_of_n, tm_of_get, tm_tr_set, tm_tr_of, cellV, putF, appR_eq, takeR_eq, dropR_eq, setR_eq, getR_eq, ↓C75, ↓C76, ↓C77, ↓C79, ↓C17, ↓C18, ↓C22, ↓C71, FA24_0, FA24_1, FA24_2, FA24_3, FA24_4, FA24_5, FA24_6, FA24_7, FA24_8, LD3, LD4, LD22, LD27, LDr, LD24, LEN22, IA22, tkc, cellAt, hl, hmk, t0, t1, t4, t5, t8, cp, L0, ↓Cplain, hj, hjn]
      exact .inr ⟨by simp, rfl, s1, x1, u1, u8, hKu, hB, hR, hn1, hP1, hNV1, hle1, by simp [tm_n_set, hl], rfl, by simp [tm_get_set, tm_n_set, hl, t0], by simp [tm_get_set, tm_n_set, hl, t1], by simp [tm_get_set, tm_n_set, hl, t4], by simp [tm_get_set, tm_n_set, hl, t5]⟩
    | succ m =>
      have hj : (j : Int) < P := by omega
      have hjn : j < P := by omega
      have hw : wrapI .i64 ((j : Int) + 1) = (j : Int) + 1 := wrapI_small (by omega) (by omega)
      have hKs := hKu.step (y := stB x1)
      have od : call (.func (.func 77) #[] #[]) [.pointer (some ⟨p, 0, none⟩), .int .i64 6] ⟨z, b1⟩ = some (.bool (oddV x1 6), ⟨z, setB b1 p (sB (stB x1))⟩) := hS.odd z b1 x1 6 (by omega) (by omega) hKu.mi hKu.src
      have L2 := hKs.set
      simp only at L2
      by_cases ho : oddV x1 6 = true
      · obtain ⟨bs2, hs, hb1, hb2, hap⟩ := hKs.app8 (by omega)
        obtain ⟨cs, hg, hgk, e, hK3⟩ := hap (j : Int)
        have L3 := hb1.trans hKs.set
        have m1 : ¬ N + 1 = z := by omega
        have m2 : ¬ N = z := by omega
        have m3 : ¬ N + 1 = z + 1 := by omega
        simp only at e L3 hK3
        simp [ec_skip, ec_label, ek_reg, ek_draw, ek_seq, ec_cond, ek_block, ec_loop, ec_exit, ec_ret, ec_scope, ek_nil, ek_op, opK_some, regK_some, seqK_normal, seqK_exit, seqK_ret, blockK_normal, blockK_exit, blockK_ret, evOp, vOp, hOpB, hOpU, hOp, hOpT, aAppendG_tab, aWanted, aYielded, opd, putT, closedV, aBin, intOp, sameK, mapO, joinR, hasAddr, boundOf, pushB, aAlloc, Value.cells, lookB, setB, Nat.beq_eq, tm_n_set, tm_get_set, tm_of_n, tm_of_get, tm_tr_set, tm_tr_of, cellV, putF, appR_eq, takeR_eq, dropR_eq, setR_eq, getR_eq, ↓C75, ↓C76, ↓C77, ↓C79, ↓C17, ↓C18, ↓C22, ↓C71, FA24_0, FA24_1, FA24_2, FA24_3, FA24_4, FA24_5, FA24_6, FA24_7, FA24_8, LD3, LD4, LD22, LD27, LDr, LD24, LEN22, IA22, tkc, cellAt, hl, hmk, t0, t1, t4, t5, t8, cp, L0, L2, L3, ↓Cplain, ↓Godd, hj, hjn, od, ho, BS22, APT22, e, ST22, m1, m2, m3, hw, partsO]
        exact .inl ⟨rfl, m, rfl, { s1 with k := s1.k + 1, h := gi cs }, stB x1, u1, _, j + 1, hK3, ⟨hB.p, hB.m, hB.c, hB.w, hB.d, hB.f, hB.de, hB.g, hB.n⟩, hR.app cs hg hgk, hn1, hP1, hNV1, hle1, by omega, ⟨by simp [tm_n_set, hl], by simp [hmk], by simp [tm_get_set, tm_n_set, hl, t0], by simp [tm_get_set, tm_n_set, hl, t1], by simp [tm_get_set, tm_n_set, hl, t4], by simp [tm_get_set, tm_n_set, hl, t5]⟩, by simp [tm_get_set, tm_n_set, hl]⟩
      · simp [ec_skip, ec_label, ek_reg, ek_draw, ek_seq, ec_cond, ek_block, ec_loop, ec_exit, ec_ret, ec_scope, ek_nil, ek_op, opK_some, regK_some, seqK_normal, seqK_exit, seqK_ret, blockK_normal, blockK_exit, blockK_ret, evOp, vOp, hOpB, hOpU, hOp, hOpT, aAppendG_tab, aWanted, aYielded, opd, putT, closedV, aBin, intOp, sameK, mapO, joinR, hasAddr, boundOf, pushB, aAlloc, Value.cells, lookB, setB, Nat.beq_eq, tm_n_set, tm_get_set, tm_of_n, tm_of_get, tm_tr_set, tm_tr_of, cellV, putF, appR_eq, takeR_eq, dropR_eq, setR_eq, getR_eq, ↓C75, ↓C76, ↓C77, ↓C79, ↓C17, ↓C18, ↓C22, ↓C71, FA24_0, FA24_1, FA24_2, FA24_3, FA24_4, FA24_5, FA24_6, FA24_7, FA24_8, LD3, LD4, LD22, LD27, LDr, LD24, LEN22, IA22, tkc, cellAt, hl, hmk, t0, t1, t4, t5, t8, cp, L0, L2, ↓Cplain, ↓Godd, hj, hjn, od, ho, hw]
        exact .inl ⟨rfl, m, rfl, s1, stB x1, u1, u8, j + 1, hKs, hB, hR.mono, hn1, hP1, hNV1, hle1, by omega, ⟨by simp [tm_n_set, hl], by simp [hmk], by simp [tm_get_set, tm_n_set, hl, t0], by simp [tm_get_set, tm_n_set, hl, t1], by simp [tm_get_set, tm_n_set, hl, t4], by simp [tm_get_set, tm_n_set, hl, t5]⟩, by simp [tm_get_set, tm_n_set, hl]⟩)
  have LS3 := hK3.set
  have LR3 := hK3.res
  have h1 := hK3.l1
  have h8 := hK3.l8
  rcases h1 with ⟨_, h⟩ | ⟨a3, cs3, rfl, g1, g2, g3, g4, g5, g6⟩
  · omega
  · rcases h8 with ⟨rfl, h8k⟩ | ⟨a8, cs8, rfl, f1, f2, f3, f4, f5, f6⟩
    · simp [ec_skip, ec_label, ek_reg, ek_draw, ek_seq, ec_cond, ek_block, ec_loop, ec_exit, ec_ret, ec_scope, ek_nil, ek_op, opK_some, regK_some, seqK_normal, seqK_exit, seqK_ret, blockK_normal, blockK_exit, blockK_ret, evOp, vOp, hOpB, hOpU, hOp, hOpT, aAppendG_tab, aWanted, aYielded, opd, putT, closedV, aBin, intOp, sameK, mapO, joinR, hasAddr, boundOf, pushB, aAlloc, Value.cells, lookB, setB, Nat.beq_eq, tm_n_set, tm_get_set, tm_of_n, tm_of_get, tm_tr_set, tm_tr_of, cellV, putF, appR_eq, takeR_eq, dropR_eq, setR_eq, getR_eq, ↓C75, ↓C76, ↓C77, ↓C79, ↓C17, ↓C18, ↓C22, ↓C71, FA24_0, FA24_1, FA24_2, FA24_3, FA24_4, FA24_5, FA24_6, FA24_7, FA24_8, LD3, LD4, LD22, LD27, LDr, LD24, LEN22, IA22, tkc, cellAt, hl, hmk, t0, t1, t4, t5, LS3, LR3, ST24, finF, takeM, resV, cleanedG, kp, gc, lookB_setB]
      exact lit_end hK3 hB3 hR3 hP3 (by omega) (by omega) _
    · simp [ec_skip, ec_label, ek_reg, ek_draw, ek_seq, ec_cond, ek_block, ec_loop, ec_exit, ec_ret, ec_scope, ek_nil, ek_op, opK_some, regK_some, seqK_normal, seqK_exit, seqK_ret, blockK_normal, blockK_exit, blockK_ret, evOp, vOp, hOpB, hOpU, hOp, hOpT, aAppendG_tab, aWanted, aYielded, opd, putT, closedV, aBin, intOp, sameK, mapO, joinR, hasAddr, boundOf, pushB, aAlloc, Value.cells, lookB, setB, Nat.beq_eq, tm_n_set, tm_get_set, tm_of_n, tm_of_get, tm_tr_set, tm_tr_of, cellV, putF, appR_eq, takeR_eq, dropR_eq, setR_eq, getR_eq, ↓C75, ↓C76, ↓C77, ↓C79, ↓C17, ↓C18, ↓C22, ↓C71, FA24_0, FA24_1, FA24_2, FA24_3, FA24_4, FA24_5, FA24_6, FA24_7, FA24_8, LD3, LD4, LD22, LD27, LDr, LD24, LEN22, IA22, tkc, cellAt, hl, hmk, t0, t1, t4, t5, LS3, LR3, ST24, finF, takeM, resV, cleanedG, kp, gc, lookB_setB]
      exact lit_end hK3 hB3 hR3 hP3 (by omega) (by omega) _

end

section
set_option linter.unusedSimpArgs false
set_option linter.unusedVariables false

theorem redsG_zero (h : Nat → Int) (last : Int) : ∀ (m i : Nat) (b : Int), (∀ j, i ≤ j → j < i + m → 0 ≤ h j ∧ h j ≤ last) → (∀ j, i ≤ j → j + 1 < i + m → h j < h (j + 1)) → (0 < m → b < h i) → redsG h last m i b = 0
  | 0, _, _, _, _, _ => rfl
  | m + 1, i, b, h1, h2, h3 => by
    have a := h1 i (Nat.le_refl _) (by omega)
    have c := h3 (by omega)
    rw [redsG, if_pos (btw_iff.2 a), if_neg (by omega)]
    exact redsG_zero h last m (i + 1) (h i) (fun j x y => h1 j (by omega) (by omega)) (fun j x y => h2 j (by omega) (by omega)) (fun hm => h2 i (Nat.le_refl _) (by omega))
theorem plain_PV {me : Int} {s : SV} (hB : LB me s) (h1 : 1 ≤ s.n) : s.plain = PV s := by
  have hn := hB.n
  have g0 := hB.g 0 (by omega)
  have hw := hB.w
  have hd := hB.d
  have a0 : wrapI .i64 (s.w + s.d) = s.w + s.d := wrapI_small (by omega) (by omega)
  obtain ⟨S, hPV, _, _⟩ := PV_bd hB h1
  rcases (show s.n = 1 ∨ s.n = 2 by omega) with h | h
  · have a1 : wrapI .i64 (0 + s.g 0) = s.g 0 := (wrapI_small (by omega) (by omega)).trans (by omega)
    have a2 : wrapI .i64 (s.g 0 + s.w) = s.g 0 + s.w := wrapI_small (by omega) (by omega)
    have a3 : wrapI .i64 (s.g 0 + s.w + s.d) = s.g 0 + s.w + s.d := wrapI_small (by omega) (by omega)
    have a4 : wrapI .i64 (s.w + s.d + s.g 0) = s.w + s.d + s.g 0 := wrapI_small (by omega) (by omega)
    unfold PV SV.plain
    rw [h]
    simp only [sumG]
    rw [a0, a1, a2, a3, a4]
    omega
  · have g1 := hB.g 1 (by omega)
    have g1' : 3 ≤ s.g (0 + 1) ∧ s.g (0 + 1) ≤ 5 := g1
    have e1 : s.g (0 + 1) = s.g 1 := rfl
    have a1 : wrapI .i64 (0 + s.g 0) = s.g 0 := (wrapI_small (by omega) (by omega)).trans (by omega)
    have a5 : wrapI .i64 (s.g 0 + s.g 1) = s.g 0 + s.g 1 := wrapI_small (by omega) (by omega)
    have a2 : wrapI .i64 (s.g 0 + s.g 1 + s.w) = s.g 0 + s.g 1 + s.w := wrapI_small (by omega) (by omega)
    have a3 : wrapI .i64 (s.g 0 + s.g 1 + s.w + s.d) = s.g 0 + s.g 1 + s.w + s.d := wrapI_small (by omega) (by omega)
    have a4 : wrapI .i64 (s.w + s.d + s.g 0) = s.w + s.d + s.g 0 := wrapI_small (by omega) (by omega)
    have a6 : wrapI .i64 (s.w + s.d + s.g 0 + s.g 1) = s.w + s.d + s.g 0 + s.g 1 := wrapI_small (by omega) (by omega)
    unfold PV SV.plain
    rw [h]
    simp only [sumG, e1]
    rw [a0, a1, a5, a2, a3, a4, a6]
    omega
theorem little_valid {me : Int} {s : SV} {P : Nat} (hme : 1 ≤ me ∧ me ≤ 2) (hB : LB me s) (hR : RD s P) (hP : PV s = (P : Int)) (h1 : 1 ≤ s.n) (hle : 3 * (3 * me + 1) + 1 + s.de ≤ PV s * s.c + s.f) : s.err = 0 := by
  have hpl := plain_PV hB h1
  obtain ⟨S, hPV, hS1, hS2⟩ := PV_bd hB h1
  have hn := hB.n
  have hw := hB.w
  have hd := hB.d
  have hf := hB.f
  have hc := hB.c
  have hde := hB.de
  have hp := hB.p
  have hm := hB.m
  have b0 : ruleB s 0 = true := btw_iff.2 (by omega)
  have b1 : ruleB s 1 = true := decide_eq_true (by omega)
  have b2 : ruleB s 2 = true := by
    have i0 := hB.g 0 (by omega)
    have t0 : btw (s.g 0) 1 9 = true := btw_iff.2 (by omega)
    rcases (show s.n = 1 ∨ s.n = 2 by omega) with h | h
    · simp [ruleB, anyBad, h, idxBad, t0]
    · have i1 := hB.g 1 (by omega)
      have t1 : btw (s.g 1) 1 9 = true := btw_iff.2 (by omega)
      simp [ruleB, anyBad, h, idxBad, t0, t1]
  have b3 : ruleB s 3 = true := btw_iff.2 (by omega)
  have b4 : ruleB s 4 = true := btw_iff.2 (by omega)
  have b5 : ruleB s 5 = true := btw_iff.2 (by omega)
  have b6 : ruleB s 6 = true := btw_iff.2 (by omega)
  have b7 : ruleB s 7 = true := btw_iff.2 (by omega)
  have b8 : ruleB s 8 = true := btw_iff.2 (by omega)
  have b9 : ruleB s 9 = true := decide_eq_true (by omega)
  have b10 : ruleB s 10 = true := by
    have e : s.reds = 0 := by
      have w0 : wrapI .i64 (s.plain - 1) = s.plain - 1 := wrapI_small (by omega) (by omega)
      unfold SV.reds
      rw [w0]
      exact redsG_zero _ _ _ _ _ (fun j _ hj => by have := hR.bd j (by omega); omega) (fun j _ hj => hR.up j (by omega)) (fun hk => by have := hR.bd 0 hk; omega)
    simp [ruleB, e]
  have b11 : ruleB s 11 = true := by
    have hpc : 0 ≤ PV s * s.c ∧ PV s * s.c ≤ 68 := by
      rcases (show s.c = 2 ∨ s.c = 3 ∨ s.c = 4 by omega) with h | h | h <;> rw [h] <;> omega
    have v1 : wrapI .i64 (3 * s.m) = 3 * s.m := wrapI_small (by omega) (by omega)
    have v2 : wrapI .i64 (3 * s.m + 1) = 3 * s.m + 1 := wrapI_small (by omega) (by omega)
    have v3 : wrapI .i64 (s.p * (3 * s.m + 1)) = 3 * (3 * s.m + 1) := by rw [hp]; exact wrapI_small (by omega) (by omega)
    have v4 : wrapI .i64 (3 * (3 * s.m + 1) + 1) = 3 * (3 * s.m + 1) + 1 := wrapI_small (by omega) (by omega)
    have v5 : wrapI .i64 (3 * (3 * s.m + 1) + 1 + s.de) = 3 * (3 * s.m + 1) + 1 + s.de := wrapI_small (by omega) (by omega)
    have v6 : wrapI .i64 (s.plain * s.c) = PV s * s.c := by rw [hpl]; exact wrapI_small (by omega) (by omega)
    have v7 : wrapI .i64 (PV s * s.c + s.f) = PV s * s.c + s.f := wrapI_small (by omega) (by omega)
    show decide (s.size ≥ wrapI .i64 (wrapI .i64 (wrapI .i64 (s.p * s.full) + 1) + s.de)) = true
    unfold SV.size SV.full
    rw [v1, v2, v3, v4, v5, v6, v7]
    exact decide_eq_true (by rw [hm]; omega)
  simp [SV.err, firstE, b0, b1, b2, b3, b4, b5, b6, b7, b8, b9, b10, b11]
noncomputable def bigS : SV := ⟨4, 3, gi [.int .i64 9, .int .i64 9, .int .i64 9], 4, 3, 0, 4, 4, 14, 3, gi [.int .i64 4, .int .i64 13, .int .i64 22]⟩
theorem big_valid : bigS.err = 0 := by
  kernel_rfl
/-- What SetOf leaves. -/
def SetEnd (N p : Nat) (bs : List (Nat × ABlk)) (r : Option (Value × AH)) : Prop := ∃ (s : SV) (u1 u8 : Value) (H' : AH), r = some (.agg #[.int .i64 s.p, u1, .int .i64 s.w, .int .i64 s.d, .int .i64 s.f, .int .i64 s.c, .int .i64 s.m, .int .i64 s.de, u8], H') ∧ MI H' ∧ N ≤ H'.next ∧ (∀ j, j < N → j ≠ p → lookB H'.bs j = lookB bs j) ∧ FL N H' u1 s.n s.g ∧ FL N H' u8 s.k s.h ∧ s.err = 0 ∧ s.k ≤ 200 ∧ 1 ≤ s.n
theorem kpb : kpT 60 = false := by kernel_rfl
theorem gcb : gcT 60 = false := by kernel_rfl
theorem kps : kpT 36 = false := by kernel_rfl
theorem gcs : gcT 36 = false := by kernel_rfl
theorem BS3 (H : AH) (a b c : Int) : aBuildSlice (tabT Try.prog) H 22 3 [(0, .int .i64 a), (1, .int .i64 b), (2, .int .i64 c)] = some (.slice (some ⟨H.next, 0, none⟩) 3 1, pushB H (.cells false [.int .i64 a, .int .i64 b, .int .i64 c])) := by kernel_rfl
theorem BDb (u v : Option Addr) (n k : Nat) : aBuild (tabT Try.prog) 24 [(0, .int .i64 4), (1, .slice u n 1), (2, .int .i64 4), (3, .int .i64 3), (5, .int .i64 4), (6, .int .i64 4), (7, .int .i64 14), (8, .slice v k 1)] = some (.agg #[.int .i64 4, .slice u n 1, .int .i64 4, .int .i64 3, .int .i64 0, .int .i64 4, .int .i64 4, .int .i64 14, .slice v k 1]) := by kernel_rfl
set_option maxRecDepth 10000 in
set_option maxHeartbeats 8000000 in
theorem big_ev {L : Nat} (call : Value → List Value → AH → Option (Value × AH)) (M : Nat) (b : List (Nat × ABlk)) : evFn (tabT Try.prog) call (L + 300) kpT 60 Try.f60 [] ⟨M, b⟩ = some (.agg #[.int .i64 4, .slice (some ⟨M + 1, 0, none⟩) 3 1, .int .i64 4, .int .i64 3, .int .i64 0, .int .i64 4, .int .i64 4, .int .i64 14, .slice (some ⟨M + 2, 0, none⟩) 3 1], ⟨M + 3, (M + 2, .cells false [.int .i64 4, .int .i64 13, .int .i64 22]) :: (M + 1, .cells false [.int .i64 9, .int .i64 9, .int .i64 9]) :: (M, .cells false [.int .i64 4, .slice (some ⟨M + 1, 0, none⟩) 3 1, .int .i64 4, .int .i64 3, .int .i64 0, .int .i64 4, .int .i64 4, .int .i64 14, .slice (some ⟨M + 2, 0, none⟩) 3 1]) :: b⟩) := by
  have kp := kpb
  have gc := gcb
  have mm : ¬ M = M + 1 + 1 := by omega
  simp only [evFn, Try.f60]
  simp [ec_skip, ec_label, ek_reg, ek_draw, ek_seq, ec_cond, ek_block, ec_loop, ec_exit, ec_ret, ec_scope, ek_nil, ek_op, opK_some, regK_some, seqK_normal, seqK_exit, seqK_ret, blockK_normal, blockK_exit, blockK_ret, evOp, vOp, hOpB, hOpU, hOp, hOpT, aAppendG_tab, aWanted, aYielded, opd, putT, closedV, aBin, intOp, sameK, mapO, joinR, hasAddr, boundOf, pushB, aAlloc, Value.cells, lookB, setB, Nat.beq_eq, tm_n_set, tm_get_set, tm_of_n, tm_of_get, tm_tr_set, tm_tr_of, cellV, putF, appR_eq, takeR_eq, dropR_eq, setR_eq, getR_eq, ↓C75, ↓C76, ↓C77, ↓C79, ↓C17, ↓C18, ↓C22, ↓C71, FA24_0, FA24_1, FA24_2, FA24_3, FA24_4, FA24_5, FA24_6, FA24_7, FA24_8, LD3, LD4, LD22, LD27, LDr, LD24, LEN22, IA22, tkc, cellAt, ↓AL24, BS3, BDb, partsO, ST24, finF, takeM, resV, cleanedG, kp, gc, mm]
theorem Cbig (call : Value → List Value → AH → Option (Value × AH)) {tm : Tm} {H : AH} {d : Option Tmp} {t : TypeId} {p : String} {a : Array Edge} {gd : Option (Nat × Bool)} : evOp (tabT Try.prog) call ⟨d, .call ⟨.value (.func 60), #[], #[]⟩, t, p, a, gd⟩ (opd tm) H = call (.func (.func 60) #[] #[]) [] H :=
  evOp_evO.trans (eo_call0 rfl)
theorem Nlit : ((tabT Try.prog) 50).map (fun z => z.ex.nat 78) = some none := by kernel_rfl
theorem Clit (call : Value → List Value → AH → Option (Value × AH)) {tm : Tm} {i j : Nat} {H : AH} {d : Option Tmp} {t : TypeId} {p : String} {a : Array Edge} {gd : Option (Nat × Bool)} : evOp (tabT Try.prog) call ⟨d, .call ⟨.value (.func 78), #[.tmp i, .tmp j], #[50, 3]⟩, t, p, a, gd⟩ (opd tm) H = call (.func (.func 78) #[] #[]) [tm.get i, tm.get j] H :=
  evOp_evO.trans (eo_call2n rfl rfl rfl Nlit)
theorem FL.cv {lo n : Nat} {H : AH} {u : Value} {g : Nat → Int} (h : FL lo H u n g) : cellV u = true := by
  rcases h with ⟨rfl, rfl⟩ | ⟨a, cs, rfl, _⟩ <;> rfl
theorem set_end {N p : Nat} {bs b0 : List (Nat × ABlk)} {s : SV} {u1 u8 : Value} {H : AH} (hM : MI H) (hn : N + 1 ≤ H.next) (hold : ∀ j, j < N + 1 → j ≠ p → lookB H.bs j = lookB b0 j) (h0 : ∀ j, j < N → j ≠ p → lookB b0 j = lookB bs j) (h1 : FL (N + 1) H u1 s.n s.g) (h8 : FL (N + 1) H u8 s.k s.h) (he : s.err = 0) (hk2 : s.k ≤ 200) (hn2 : 1 ≤ s.n) (v : ABlk) : SetEnd N p bs (some (.agg #[.int .i64 s.p, u1, .int .i64 s.w, .int .i64 s.d, .int .i64 s.f, .int .i64 s.c, .int .i64 s.m, .int .i64 s.de, u8], ⟨H.next, setB H.bs N v⟩)) := by
  have e : ∀ j, j ≠ N → lookB (setB H.bs N v) j = lookB H.bs j := fun j hj => by rw [lookB_setB, if_neg hj]
  have f1 : FL (N + 1) ⟨H.next, setB H.bs N v⟩ u1 s.n s.g := h1.mono (Nat.le_refl _) fun a _ h2 _ => e a (by omega)
  have f8 : FL (N + 1) ⟨H.next, setB H.bs N v⟩ u8 s.k s.h := h8.mono (Nat.le_refl _) fun a _ h2 _ => e a (by omega)
  exact ⟨s, u1, u8, _, rfl, hM.set _ _, by show N ≤ H.next; omega, fun j a b => (e j (by omega)).trans ((hold j (by omega) b).trans (h0 j a b)), f1.weak (by omega), f8.weak (by omega), he, hk2, hn2⟩
set_option maxRecDepth 10000 in
set_option maxHeartbeats 8000000 in
theorem setof_ev {L : Nat} (call : Value → List Value → AH → Option (Value × AH)) (p N : Nat) (bs : List (Nat × ABlk)) (x : Int) (hM : MI ⟨N, bs⟩) (hp : lookB bs p = some (sB x)) (hS : SrcOK call p)
    (hbig : ∀ (M : Nat) (b : List (Nat × ABlk)), call (.func (.func 60) #[] #[]) [] ⟨M, b⟩ = some (.agg #[.int .i64 4, .slice (some ⟨M + 1, 0, none⟩) 3 1, .int .i64 4, .int .i64 3, .int .i64 0, .int .i64 4, .int .i64 4, .int .i64 14, .slice (some ⟨M + 2, 0, none⟩) 3 1], ⟨M + 3, (M + 2, .cells false [.int .i64 4, .int .i64 13, .int .i64 22]) :: (M + 1, .cells false [.int .i64 9, .int .i64 9, .int .i64 9]) :: (M, .cells false [.int .i64 4, .slice (some ⟨M + 1, 0, none⟩) 3 1, .int .i64 4, .int .i64 3, .int .i64 0, .int .i64 4, .int .i64 4, .int .i64 14, .slice (some ⟨M + 2, 0, none⟩) 3 1]) :: b⟩))
    (hlit : ∀ (M : Nat) (b : List (Nat × ABlk)) (y : Int) (me : Nat), me = 1 ∨ me = 2 → MI ⟨M, b⟩ → lookB b p = some (sB y) → LitEnd M p (me : Int) b (call (.func (.func 78) #[] #[]) [.pointer (some ⟨p, 0, none⟩), .int .i64 (me : Int)] ⟨M, b⟩)) :
    SetEnd N p bs (evFn (tabT Try.prog) call (L + 300) kpT 36 Try.f36 [.pointer (some ⟨p, 0, none⟩)] ⟨N, bs⟩) := by
  have kp := kps
  have gc := gcs
  have hpN : p < N := hM.2 _ (lookB_mem hp)
  have n1 : ¬ p = N := by omega
  have hZ : MI ⟨N + 1, (N, .cells false [.int .i64 0, .slice none 0 0, .int .i64 0, .int .i64 0, .int .i64 0, .int .i64 0, .int .i64 0, .int .i64 0, .slice none 0 0]) :: bs⟩ := hM.push _
  have lk : ∀ y, lookB ((N, ABlk.cells false [.int .i64 0, .slice none 0 0, .int .i64 0, .int .i64 0, .int .i64 0, .int .i64 0, .int .i64 0, .int .i64 0, .slice none 0 0]) :: setB bs p (sB y)) p = some (sB y) := fun y => by
    simp only [lookB, beq_ne n1, Bool.false_eq_true, if_false]
    rw [lookB_setB, if_pos rfl, hp]; rfl
  have mk : ∀ y, MI ⟨N + 1, (N, .cells false [.int .i64 0, .slice none 0 0, .int .i64 0, .int .i64 0, .int .i64 0, .int .i64 0, .int .i64 0, .int .i64 0, .slice none 0 0]) :: setB bs p (sB y)⟩ := fun y => (hM.set p (sB y)).push _
  have up : ∀ y y', setB ((N, ABlk.cells false [.int .i64 0, .slice none 0 0, .int .i64 0, .int .i64 0, .int .i64 0, .int .i64 0, .int .i64 0, .int .i64 0, .slice none 0 0]) :: setB bs p (sB y)) p (sB y') = (N, ABlk.cells false [.int .i64 0, .slice none 0 0, .int .i64 0, .int .i64 0, .int .i64 0, .int .i64 0, .int .i64 0, .int .i64 0, .slice none 0 0]) :: setB bs p (sB y') := fun y y' => by
    simp only [setB, beq_ne n1, Bool.false_eq_true, if_false, setB_setB]
  have c1 : call (.func (.func 77) #[] #[]) [.pointer (some ⟨p, 0, none⟩), .int .i64 6] ⟨N + 1, (N, .cells false [.int .i64 0, .slice none 0 0, .int .i64 0, .int .i64 0, .int .i64 0, .int .i64 0, .int .i64 0, .int .i64 0, .slice none 0 0]) :: bs⟩ = some (.bool (oddV x 6), ⟨N + 1, (N, .cells false [.int .i64 0, .slice none 0 0, .int .i64 0, .int .i64 0, .int .i64 0, .int .i64 0, .int .i64 0, .int .i64 0, .slice none 0 0]) :: setB bs p (sB (stB x))⟩) := by
    have := hS.odd (N + 1) ((N, .cells false [.int .i64 0, .slice none 0 0, .int .i64 0, .int .i64 0, .int .i64 0, .int .i64 0, .int .i64 0, .int .i64 0, .slice none 0 0]) :: bs) x 6 (by omega) (by omega) hZ (by simp only [lookB, beq_ne n1, Bool.false_eq_true, if_false]; exact hp)
    simp only [setB, beq_ne n1, Bool.false_eq_true, if_false] at this
    exact this
  have c2 : ∀ y, call (.func (.func 79) #[] #[]) [.pointer (some ⟨p, 0, none⟩), .int .i64 1, .int .i64 2] ⟨N + 1, (N, .cells false [.int .i64 0, .slice none 0 0, .int .i64 0, .int .i64 0, .int .i64 0, .int .i64 0, .int .i64 0, .int .i64 0, .slice none 0 0]) :: setB bs p (sB y)⟩ = some (.int .i64 (rngV y 1 2), ⟨N + 1, (N, .cells false [.int .i64 0, .slice none 0 0, .int .i64 0, .int .i64 0, .int .i64 0, .int .i64 0, .int .i64 0, .int .i64 0, .slice none 0 0]) :: setB bs p (sB (stB y))⟩) := fun y => by
    have := hS.ran (N + 1) _ y 1 2 (by omega) (by omega) (mk y) (lk y)
    rw [up] at this
    exact this
  simp only [evFn, Try.f36]
  by_cases ho : oddV x 6 = true
  · have hb := hbig (N + 1) ((N, .cells false [.int .i64 0, .slice none 0 0, .int .i64 0, .int .i64 0, .int .i64 0, .int .i64 0, .int .i64 0, .int .i64 0, .slice none 0 0]) :: setB bs p (sB (stB x)))
    have q1 : ¬ N = N + 1 + 2 := by omega
    have q2 : ¬ N = N + 1 + 1 := by omega
    have q3 : ¬ N = N + 1 := by omega
    simp [ec_skip, ec_label, ek_reg, ek_draw, ek_seq, ec_cond, ek_block, ec_loop, ec_exit, ec_ret, ec_scope, ek_nil, ek_op, opK_some, regK_some, seqK_normal, seqK_exit, seqK_ret, blockK_normal, blockK_exit, blockK_ret, evOp, vOp, hOpB, hOpU, hOp, hOpT, aAppendG_tab, aWanted, aYielded, opd, putT, closedV, aBin, intOp, sameK, mapO, joinR, hasAddr, boundOf, pushB, aAlloc, Value.cells, lookB, setB, Nat.beq_eq, tm_n_set, tm_get_set, tm_of_n, tm_of_get, tm_tr_set, tm_tr_of, cellV, putF, appR_eq, takeR_eq, dropR_eq, setR_eq, getR_eq, ↓C75, ↓C76, ↓C77, ↓C79, ↓C17, ↓C18, ↓C22, ↓C71, FA24_0, FA24_1, FA24_2, FA24_3, FA24_4, FA24_5, FA24_6, FA24_7, FA24_8, LD3, LD4, LD22, LD27, LDr, LD24, LEN22, IA22, tkc, cellAt, ↓AL24, ↓Godd, c1, ho, ↓Cbig, hb, ST24, finF, takeM, resV, cleanedG, kp, gc, q1, q2, q3]
    have mE : MI ⟨N + 1 + 3, (N + 1 + 2, .cells false [.int .i64 4, .int .i64 13, .int .i64 22]) :: (N + 1 + 1, .cells false [.int .i64 9, .int .i64 9, .int .i64 9]) :: (N + 1, .cells false [.int .i64 4, .slice (some ⟨N + 1 + 1, 0, none⟩) 3 1, .int .i64 4, .int .i64 3, .int .i64 0, .int .i64 4, .int .i64 4, .int .i64 14, .slice (some ⟨N + 1 + 2, 0, none⟩) 3 1]) :: (N, .cells false [.int .i64 0, .slice none 0 0, .int .i64 0, .int .i64 0, .int .i64 0, .int .i64 0, .int .i64 0, .int .i64 0, .slice none 0 0]) :: setB bs p (sB (stB x))⟩ := (((mk (stB x)).push _).push _).push _
    have r1 : ¬ N + 1 + 1 = N + 1 + 2 := by omega
    have fin := set_end (N := N) (p := p) (bs := bs) (b0 := (N, .cells false [.int .i64 0, .slice none 0 0, .int .i64 0, .int .i64 0, .int .i64 0, .int .i64 0, .int .i64 0, .int .i64 0, .slice none 0 0]) :: setB bs p (sB (stB x))) (s := bigS) (u1 := .slice (some ⟨N + 1 + 1, 0, none⟩) 3 1) (u8 := .slice (some ⟨N + 1 + 2, 0, none⟩) 3 1) mE (by show N + 1 ≤ N + 1 + 3; omega) (fun j hj hjp => by
        have a1 : ¬ j = N + 1 + 2 := by omega
        have a2 : ¬ j = N + 1 + 1 := by omega
        have a3 : ¬ j = N + 1 := by omega
        simp only [lookB, beq_ne a1, beq_ne a2, beq_ne a3, Bool.false_eq_true, if_false]) (fun j hj hjp => by
        have a1 : ¬ j = N := by omega
        simp only [lookB, beq_ne a1, Bool.false_eq_true, if_false, lookB_setB, if_neg hjp]) (.inr ⟨N + 1 + 1, [.int .i64 9, .int .i64 9, .int .i64 9], rfl, by omega, by show N + 1 + 1 < N + 1 + 3; omega, by simp only [lookB, beq_ne r1, Nat.beq_refl, Bool.false_eq_true, if_false, if_true], rfl, rfl, by decide⟩) (.inr ⟨N + 1 + 2, [.int .i64 4, .int .i64 13, .int .i64 22], rfl, by omega, by show N + 1 + 2 < N + 1 + 3; omega, by simp only [lookB, Nat.beq_refl, if_true], rfl, rfl, by decide⟩) big_valid (by decide) (by decide) (.cells false [.int .i64 4, .slice (some ⟨N + 1 + 1, 0, none⟩) 3 1, .int .i64 4, .int .i64 3, .int .i64 0, .int .i64 4, .int .i64 4, .int .i64 14, .slice (some ⟨N + 1 + 2, 0, none⟩) 3 1])
    simp only [setB, beq_ne q1, beq_ne q2, beq_ne q3, Nat.beq_refl, Bool.false_eq_true, if_false, if_true] at fin
    exact fin
  · obtain ⟨me, hme, hme2⟩ : ∃ me : Nat, rngV (stB x) 1 2 = (me : Int) ∧ (me = 1 ∨ me = 2) := by
      have := rngV_bd (stB x) (lo := 1) (hi := 2) (by omega) (by omega)
      exact ⟨(rngV (stB x) 1 2).toNat, by omega, by omega⟩
    obtain ⟨s, y, u1, u8, P, H', hr, hMI, hnx, hsrc, hold, h1, h8, hB, hR, hP, hn, hle⟩ := hlit (N + 1) ((N, .cells false [.int .i64 0, .slice none 0 0, .int .i64 0, .int .i64 0, .int .i64 0, .int .i64 0, .int .i64 0, .int .i64 0, .slice none 0 0]) :: setB bs p (sB (stB (stB x)))) (stB (stB x)) me hme2 (mk _) (lk _)
    have hz : lookB H'.bs N = some (.cells false [.int .i64 0, .slice none 0 0, .int .i64 0, .int .i64 0, .int .i64 0, .int .i64 0, .int .i64 0, .int .i64 0, .slice none 0 0]) := (hold N (by omega) (by omega)).trans (by simp [lookB])
    have c2p := c2 (stB x)
    rw [hme] at c2p
    have v1 := h1.cv
    have v8 := h8.cv
    have he := little_valid (by omega) hB hR hP hn hle
    have hk2 : s.k ≤ 200 := by
      have a1 := hR.le
      obtain ⟨S, a2, a3, a4⟩ := PV_bd hB hn
      have := hB.n
      have := hB.w
      have := hB.d
      omega
    have hfin := set_end (N := N) (p := p) (bs := bs) hMI hnx hold (fun j hj hjp => by
        have a1 : ¬ j = N := by omega
        simp only [lookB, beq_ne a1, Bool.false_eq_true, if_false, lookB_setB, if_neg hjp]) h1 h8 he hk2 hn
    rcases h1 with ⟨_, h⟩ | ⟨a3, cs3, rfl, g1, g2, g3, g4, g5, g6⟩
    · omega
    · rcases h8 with ⟨rfl, h8k⟩ | ⟨a8, cs8, rfl, f1, f2, f3, f4, f5, f6⟩
      · simp [ec_skip, ec_label, ek_reg, ek_draw, ek_seq, ec_cond, ek_block, ec_loop, ec_exit, ec_ret, ec_scope, ek_nil, ek_op, opK_some, regK_some, seqK_normal, seqK_exit, seqK_ret, blockK_normal, blockK_exit, blockK_ret, evOp, vOp, hOpB, hOpU, hOp, hOpT, aAppendG_tab, aWanted, aYielded, opd, putT, closedV, aBin, intOp, sameK, mapO, joinR, hasAddr, boundOf, pushB, aAlloc, Value.cells, lookB, setB, Nat.beq_eq, tm_n_set, tm_get_set, tm_of_n, tm_of_get, tm_tr_set, tm_tr_of, cellV, putF, appR_eq, takeR_eq, dropR_eq, setR_eq, getR_eq, ↓C75, ↓C76, ↓C77, ↓C79, ↓C17, ↓C18, ↓C22, ↓C71, FA24_0, FA24_1, FA24_2, FA24_3, FA24_4, FA24_5, FA24_6, FA24_7, FA24_8, LD3, LD4, LD22, LD27, LDr, LD24, LEN22, IA22, tkc, cellAt, ↓AL24, ↓Godd, ↓Cran, ↓Clit, c1, c2p, ho, hr, hz, ST24, finF, takeM, resV, cleanedG, kp, gc, lookB_setB]
        exact hfin _
      · simp [ec_skip, ec_label, ek_reg, ek_draw, ek_seq, ec_cond, ek_block, ec_loop, ec_exit, ec_ret, ec_scope, ek_nil, ek_op, opK_some, regK_some, seqK_normal, seqK_exit, seqK_ret, blockK_normal, blockK_exit, blockK_ret, evOp, vOp, hOpB, hOpU, hOp, hOpT, aAppendG_tab, aWanted, aYielded, opd, putT, closedV, aBin, intOp, sameK, mapO, joinR, hasAddr, boundOf, pushB, aAlloc, Value.cells, lookB, setB, Nat.beq_eq, tm_n_set, tm_get_set, tm_of_n, tm_of_get, tm_tr_set, tm_tr_of, cellV, putF, appR_eq, takeR_eq, dropR_eq, setR_eq, getR_eq, ↓C75, ↓C76, ↓C77, ↓C79, ↓C17, ↓C18, ↓C22, ↓C71, FA24_0, FA24_1, FA24_2, FA24_3, FA24_4, FA24_5, FA24_6, FA24_7, FA24_8, LD3, LD4, LD22, LD27, LDr, LD24, LEN22, IA22, tkc, cellAt, ↓AL24, ↓Godd, ↓Cran, ↓Clit, c1, c2p, ho, hr, hz, ST24, finF, takeM, resV, cleanedG, kp, gc, lookB_setB]
        exact hfin _

end

section
set_option linter.unusedSimpArgs false
set_option linter.unusedVariables false

theorem Nsetof : ((tabT Try.prog) 50).map (fun z => (z.ex.nat 36, z.ex.mnz 36)) = some (none, none) := by kernel_rfl
theorem Csetof (call : Value → List Value → AH → Option (Value × AH)) {tm : Tm} {i : Nat} {H : AH} {d : Option Tmp} {t : TypeId} {p : String} {a : Array Edge} {gd : Option (Nat × Bool)} : evOp (tabT Try.prog) call ⟨d, .call ⟨.value (.func 36), #[.tmp i], #[50]⟩, t, p, a, gd⟩ (opd tm) H = call (.func (.func 36) #[] #[]) [tm.get i] H :=
  evOp_evO.trans (eo_call1 rfl rfl Nsetof)
theorem Nnews : ((tabT Try.prog) 22).map (fun z => (z.ex.nat 37, z.ex.mnz 37)) = some (none, none) := by kernel_rfl
theorem Cnews (call : Value → List Value → AH → Option (Value × AH)) {tm : Tm} {i : Nat} {H : AH} {d : Option Tmp} {t : TypeId} {p : String} {a : Array Edge} {gd : Option (Nat × Bool)} : evOp (tabT Try.prog) call ⟨d, .call ⟨.value (.func 37), #[.tmp i], #[22]⟩, t, p, a, gd⟩ (opd tm) H = call (.func (.func 37) #[] #[]) [tm.get i] H :=
  evOp_evO.trans (eo_call1 rfl rfl Nnews)
theorem Cawake (call : Value → List Value → AH → Option (Value × AH)) {tm : Tm} {H : AH} {d : Option Tmp} {t : TypeId} {p : String} {a : Array Edge} {gd : Option (Nat × Bool)} : evOp (tabT Try.prog) call ⟨d, .call ⟨.value (.func 27), #[], #[]⟩, t, p, a, gd⟩ (opd tm) H = call (.func (.func 27) #[] #[]) [] H :=
  evOp_evO.trans (eo_call0 rfl)
theorem Ninto : ((tabT Try.prog) 3).map (fun z => z.ex.nat 42) = some none := by kernel_rfl
theorem Cinto (call : Value → List Value → AH → Option (Value × AH)) {tm : Tm} {i j : Nat} {H : AH} {d : Option Tmp} {t : TypeId} {p : String} {a : Array Edge} {gd : Option (Nat × Bool)} : evOp (tabT Try.prog) call ⟨d, .call ⟨.value (.func 42), #[.tmp i, .tmp j], #[3, 3]⟩, t, p, a, gd⟩ (opd tm) H = call (.func (.func 42) #[] #[]) [tm.get i, tm.get j] H :=
  evOp_evO.trans (eo_call2n rfl rfl rfl Ninto)
theorem Ginto (call : Value → List Value → AH → Option (Value × AH)) {tm : Tm} {rs : List DR} {ts : List Nat} {i j : Nat} {H : AH} {d : Option Tmp} {t : TypeId} {p : String} {a : Array Edge} {gd : Option (Nat × Bool)} (hi : natMem ts i = true) (hj : natMem ts j = true) : evOp (tabT Try.prog) call ⟨d, .call ⟨.value (.func 42), #[.tmp i, .tmp j], #[3, 3]⟩, t, p, a, gd⟩ (gOf tm rs ts) H = call (.func (.func 42) #[] #[]) [(finT tm rs).get i, (finT tm rs).get j] H :=
  evOp_evO.trans (eo_call2n rfl (by simp only [gOf, hi, if_true]) (by simp only [gOf, hj, if_true]) Ninto)
theorem Winto : wrT 42 = false := by kernel_rfl
theorem cvI (k : IntKind) (n : Int) : cellV (.int k n) = true := rfl
theorem IX22 (i n k : Nat) (h : k < n) : aIndexAddr (tabT Try.prog) 22 (.slice (some ⟨i, 0, none⟩) n 1) (.int .i64 (k : Int)) = some (.pointer (some ⟨i, k, none⟩)) := by
  rw [ixa (e := 3) (z := 1) (by kernel_rfl) (by kernel_rfl) i 0 n 1 k h]
  simp
theorem PV_plain {s : SV} (hs : s.Small) : PV s = s.plain := by
  obtain ⟨p0, p1, e0⟩ := plain_small hs
  obtain ⟨w1, w2⟩ := hs.w
  obtain ⟨d1, d2⟩ := hs.d
  have hn := hs.n
  have e := suitRows_sum s.g s.n 0 (s.w + s.d) (fun j _ hj => hs.g j (by omega)) (by omega) (by omega)
  have e' := suitRows_sum s.g s.n 0 0 (fun j _ hj => hs.g j (by omega)) (by omega) (by omega)
  have hp : s.plain = s.w + s.d + ((suitRows s.g s.n 0).map (fun p => (p.2 : Int))).sum := by
    unfold SV.plain
    rw [e0, e]
  unfold PV
  rw [e', wrapI_small (n := 0 + _ + s.w) (by omega) (by omega), wrapI_small (by omega) (by omega)]
  omega
theorem plain_pos {s : SV} (h : s.err = 0) : 1 ≤ s.plain := by
  obtain ⟨_, h⟩ := firstE_step (m := 11) (i := 0) h (by simp [ruleE])
  obtain ⟨_, h⟩ := firstE_step (m := 10) (i := 1) h (by simp [ruleE])
  obtain ⟨_, h⟩ := firstE_step (m := 9) (i := 2) h (by simp [ruleE])
  obtain ⟨_, h⟩ := firstE_step (m := 8) (i := 3) h (by simp [ruleE])
  obtain ⟨_, h⟩ := firstE_step (m := 7) (i := 4) h (by simp [ruleE])
  obtain ⟨_, h⟩ := firstE_step (m := 6) (i := 5) h (by simp [ruleE])
  obtain ⟨_, h⟩ := firstE_step (m := 5) (i := 6) h (by simp [ruleE])
  obtain ⟨_, h⟩ := firstE_step (m := 4) (i := 7) h (by simp [ruleE])
  obtain ⟨_, h⟩ := firstE_step (m := 3) (i := 8) h (by simp [ruleE])
  obtain ⟨c, _⟩ := firstE_step (m := 2) (i := 9) h (by simp [ruleE])
  simpa [ruleB] using c
theorem FIn : tabF Try.prog 46 = some Try.f46 := by kernel_rfl
theorem kgIn : kpT 46 = false := by kernel_rfl
/-- Whether a number is among some of a list. -/
def memG (g : Nat → Int) : Nat → Nat → Int → Bool
  | 0, _, _ => false
  | m + 1, i, x => (g i == x) || memG g m (i + 1) x
noncomputable def IIn (u : Value) (g : Nat → Int) (n : Nat) (x : Int) (R : Bool) (H0 : AH) (m : Nat) (A : AF) (H : AH) : Prop := ∃ i : Nat, i + m = n ∧ memG g m i x = R ∧ A.tm.n = 18 ∧ A.marks = [] ∧ A.tm.get 5 = .int .i64 (i : Int) ∧ A.tm.get 0 = u ∧ A.tm.get 1 = .int .i64 x ∧ H = H0
noncomputable def QIn (R : Bool) (H0 : AH) (y : AX) (A : AF) (H : AH) : Prop := A.tm.n = 18 ∧ A.marks = [] ∧ H = H0 ∧ ((y = .exit 0 ∧ R = false) ∨ (y = .ret ∧ R = true ∧ A.tm.get 4 = .bool true))
set_option maxRecDepth 10000 in
set_option maxHeartbeats 8000000 in
theorem in_ev {L : Nat} (call : Value → List Value → AH → Option (Value × AH)) (N : Nat) (bs : List (Nat × ABlk)) {u : Value} {n : Nat} {g : Nat → Int} (x : Int) (hn : n ≤ 200) (hM : MI ⟨N, bs⟩) (hu : Lst bs u n g) :
    evFn (tabT Try.prog) call (L + 300) kpT 46 Try.f46 [u, .int .i64 x] ⟨N, bs⟩ = some (.bool (memG g n 0 x), ⟨N, bs⟩) := by
  have kp := kgIn
  have hbl := below_all N bs hM.2
  simp only [evFn, Try.f46]
  simp [ec_skip, ec_label, ek_reg, ek_draw, ek_seq, ec_cond, ek_block, ec_loop, ec_exit, ec_ret, ec_scope, ek_nil, ek_op, opK_some, regK_some, seqK_normal, seqK_exit, seqK_ret, blockK_normal, blockK_exit, blockK_ret, evOp, vOp, hOpB, hOpU, hOp, hOpT, aAppendG_tab, aWanted, aYielded, opd, putT, closedV, aBin, intOp, sameK, mapO, joinR, hasAddr, boundOf, pushB, aAlloc, Value.cells, lookB, setB, Nat.beq_eq, tm_n_set, tm_get_set, tm_of_n, tm_of_get, tm_tr_set, tm_tr_of, cellV, putF, appR_eq, takeR_eq, dropR_eq, setR_eq, getR_eq, ↓C75, ↓C76, ↓C77, ↓C79, ↓C17, ↓C18, ↓C22, ↓C71, FA24_0, FA24_1, FA24_2, FA24_3, FA24_4, FA24_5, FA24_6, FA24_7, FA24_8, LD3, LD4, LD22, LD27, LDr, LD24, LEN22, IA22, tkc, cellAt]
  generalize hr : evLoop _ _ _ _ = r
  obtain ⟨y, A', H', rfl, hl, hmk, rfl, hz⟩ := loop_go (Q := QIn (memG g n 0 x) ⟨N, bs⟩) hr (IIn u g n x (memG g n 0 x) ⟨N, bs⟩) n (by omega) ⟨0, by omega, rfl, rfl, rfl, rfl, rfl, rfl, rfl⟩ (by
    clear hr
    rintro m A H' ⟨i, him, hsum, hl, hmk, g5, g0, g1, rfl⟩
    obtain ⟨a0, z0, hv⟩ := hu.len
    simp only [runC]
    cases m with
    | zero =>
      have hi : ¬ i < n := by omega
      subst hv
      simp only [memG] at hsum
      simp [ec_skip, ec_label, ek_reg, ek_draw, ek_seq, ec_cond, ek_block, ec_loop, ec_exit, ec_ret, ec_scope, ek_nil, ek_op, opK_some, regK_some, seqK_normal, seqK_exit, seqK_ret, blockK_normal, blockK_exit, blockK_ret, evOp, vOp, hOpB, hOpU, hOp, hOpT, aAppendG_tab, aWanted, aYielded, opd, putT, closedV, aBin, intOp, sameK, mapO, joinR, hasAddr, boundOf, pushB, aAlloc, Value.cells, lookB, setB, Nat.beq_eq, tm_n_set, tm_get_set, tm_of_n, tm_of_get, tm_tr_set, tm_tr_of, cellV, putF, appR_eq, takeR_eq, dropR_eq, setR_eq, getR_eq, ↓C75, ↓C76, ↓C77, ↓C79, ↓C17, ↓C18, ↓C22, ↓C71, FA24_0, FA24_1, FA24_2, FA24_3, FA24_4, FA24_5, FA24_6, FA24_7, FA24_8, LD3, LD4, LD22, LD27, LDr, LD24, LEN22, IA22, tkc, cellAt, hl, hmk, g5, g0, g1, hi]
      exact .inr ⟨by simp, by simp [tm_n_set, hl], rfl, rfl, .inl ⟨rfl, hsum.symm⟩⟩
    | succ m =>
      have hi : i < n := by omega
      have hw : wrapI .i64 ((i : Int) + 1) = ((i + 1 : Nat) : Int) := by rw [wrapI_small (by omega) (by omega)]; rfl
      rcases hu with ⟨_, h0⟩ | ⟨a, ro, cs, h1, h2, h3, rfl⟩
      · omega
      · subst h1
        have ix : aIndexAddr (tabT Try.prog) 22 (.slice (some ⟨a, 0, none⟩) n 1) (.int .i64 (i : Int)) = some (.pointer (some ⟨a, i, none⟩)) := by
          rw [ixa (e := 3) (z := 1) (by kernel_rfl) (by kernel_rfl) a 0 n 1 i hi]; simp
        have hc := okC_at h3 hi
        rw [memG] at hsum
        by_cases e : gi cs i = x
        · have e' : (gi cs i == x) = true := by simpa using e
          rw [e'] at hsum
          simp [ec_skip, ec_label, ek_reg, ek_draw, ek_seq, ec_cond, ek_block, ec_loop, ec_exit, ec_ret, ec_scope, ek_nil, ek_op, opK_some, regK_some, seqK_normal, seqK_exit, seqK_ret, blockK_normal, blockK_exit, blockK_ret, evOp, vOp, hOpB, hOpU, hOp, hOpT, aAppendG_tab, aWanted, aYielded, opd, putT, closedV, aBin, intOp, sameK, mapO, joinR, hasAddr, boundOf, pushB, aAlloc, Value.cells, lookB, setB, Nat.beq_eq, tm_n_set, tm_get_set, tm_of_n, tm_of_get, tm_tr_set, tm_tr_of, cellV, putF, appR_eq, takeR_eq, dropR_eq, setR_eq, getR_eq, ↓C75, ↓C76, ↓C77, ↓C79, ↓C17, ↓C18, ↓C22, ↓C71, FA24_0, FA24_1, FA24_2, FA24_3, FA24_4, FA24_5, FA24_6, FA24_7, FA24_8, LD3, LD4, LD22, LD27, LDr, LD24, LEN22, IA22, tkc, cellAt, hl, hmk, g5, g0, g1, hi, ix, h2, hc, e, e']
          exact .inr ⟨by simp, by simp [tm_n_set, hl], rfl, rfl, .inr ⟨rfl, by rw [← hsum]; rfl, by simp [tm_get_set, tm_n_set, hl]⟩⟩
        · have e' : (gi cs i == x) = false := by simpa using e
          rw [e'] at hsum
          simp [ec_skip, ec_label, ek_reg, ek_draw, ek_seq, ec_cond, ek_block, ec_loop, ec_exit, ec_ret, ec_scope, ek_nil, ek_op, opK_some, regK_some, seqK_normal, seqK_exit, seqK_ret, blockK_normal, blockK_exit, blockK_ret, evOp, vOp, hOpB, hOpU, hOp, hOpT, aAppendG_tab, aWanted, aYielded, opd, putT, closedV, aBin, intOp, sameK, mapO, joinR, hasAddr, boundOf, pushB, aAlloc, Value.cells, lookB, setB, Nat.beq_eq, tm_n_set, tm_get_set, tm_of_n, tm_of_get, tm_tr_set, tm_tr_of, cellV, putF, appR_eq, takeR_eq, dropR_eq, setR_eq, getR_eq, ↓C75, ↓C76, ↓C77, ↓C79, ↓C17, ↓C18, ↓C22, ↓C71, FA24_0, FA24_1, FA24_2, FA24_3, FA24_4, FA24_5, FA24_6, FA24_7, FA24_8, LD3, LD4, LD22, LD27, LDr, LD24, LEN22, IA22, tkc, cellAt, hl, hmk, g5, g0, g1, hi, ix, h2, hc, e, e']
          refine .inl ⟨rfl, m, rfl, i + 1, by omega, hsum, ?_⟩
          simp [tm_get_set, tm_n_set, hl, hmk, g0, g1, hw])
  rcases hz with ⟨rfl, hz⟩ | ⟨rfl, hz, h4⟩
  · rw [hz]
    simp [ec_skip, ec_label, ek_reg, ek_draw, ek_seq, ec_cond, ek_block, ec_loop, ec_exit, ec_ret, ec_scope, ek_nil, ek_op, opK_some, regK_some, seqK_normal, seqK_exit, seqK_ret, blockK_normal, blockK_exit, blockK_ret, evOp, vOp, hOpB, hOpU, hOp, hOpT, aAppendG_tab, aWanted, aYielded, opd, putT, closedV, aBin, intOp, sameK, mapO, joinR, hasAddr, boundOf, pushB, aAlloc, Value.cells, lookB, setB, Nat.beq_eq, tm_n_set, tm_get_set, tm_of_n, tm_of_get, tm_tr_set, tm_tr_of, cellV, putF, appR_eq, takeR_eq, dropR_eq, setR_eq, getR_eq, ↓C75, ↓C76, ↓C77, ↓C79, ↓C17, ↓C18, ↓C22, ↓C71, FA24_0, FA24_1, FA24_2, FA24_3, FA24_4, FA24_5, FA24_6, FA24_7, FA24_8, LD3, LD4, LD22, LD27, LDr, LD24, LEN22, IA22, tkc, cellAt, hl, hmk, finF, takeM, resV, cleanedG, hasAddr, kp, hbl]
  · rw [hz]
    simp [ec_skip, ec_label, ek_reg, ek_draw, ek_seq, ec_cond, ek_block, ec_loop, ec_exit, ec_ret, ec_scope, ek_nil, ek_op, opK_some, regK_some, seqK_normal, seqK_exit, seqK_ret, blockK_normal, blockK_exit, blockK_ret, evOp, vOp, hOpB, hOpU, hOp, hOpT, aAppendG_tab, aWanted, aYielded, opd, putT, closedV, aBin, intOp, sameK, mapO, joinR, hasAddr, boundOf, pushB, aAlloc, Value.cells, lookB, setB, Nat.beq_eq, tm_n_set, tm_get_set, tm_of_n, tm_of_get, tm_tr_set, tm_tr_of, cellV, putF, appR_eq, takeR_eq, dropR_eq, setR_eq, getR_eq, ↓C75, ↓C76, ↓C77, ↓C79, ↓C17, ↓C18, ↓C22, ↓C71, FA24_0, FA24_1, FA24_2, FA24_3, FA24_4, FA24_5, FA24_6, FA24_7, FA24_8, LD3, LD4, LD22, LD27, LDr, LD24, LEN22, IA22, tkc, cellAt, hl, hmk, h4, finF, takeM, resV, cleanedG, hasAddr, kp, hbl]
theorem memG_mem (g : Nat → Int) (x : Int) : ∀ (m i : Nat), memG g m i x = true ↔ ∃ j, i ≤ j ∧ j < i + m ∧ g j = x
  | 0, i => by simp only [memG, Bool.false_eq_true, false_iff]; rintro ⟨j, h1, h2, _⟩; omega
  | m + 1, i => by
    rw [memG, Bool.or_eq_true, memG_mem g x m (i + 1), beq_iff_eq]
    constructor
    · rintro (h | ⟨j, h1, h2, h3⟩)
      · exact ⟨i, by omega, by omega, h⟩
      · exact ⟨j, by omega, by omega, h3⟩
    · rintro ⟨j, h1, h2, h3⟩
      by_cases e : j = i
      · subst e; exact .inl h3
      · exact .inr ⟨j, by omega, by omega, h3⟩

end

section
set_option linter.unusedSimpArgs false
set_option linter.unusedVariables false

noncomputable def I112t (Mr : Int → Nat → AH) (HD : Int → Int → Nat → AH) (hit : Int → Int → Bool) (R : Value × AH) (su q : Int) (k : Nat) (A : AF) (H : AH) : Prop :=
  ∃ (i c : Int) (m : Nat), i + k = q ∧ 0 ≤ i ∧ q ≤ 200 ∧ 0 ≤ c ∧ c + k ≤ 100000 ∧ rowR Mr HD hit k i c m = R ∧ H = Mr c m ∧ A.tm.n = 23 ∧ A.marks = [] ∧ A.tm.get 0 = .int .i64 su ∧ A.tm.get 1 = .int .i64 q ∧ A.tm.get 2 = .pointer (some ⟨10, 0, none⟩) ∧ A.tm.get 3 = .pointer (some ⟨11, 0, none⟩) ∧ A.tm.get 8 = .int .i64 q ∧ A.tm.get 9 = .int .i64 i
noncomputable def Q112t (R : Value × AH) (z : AX) (A' : AF) (H : AH) : Prop := A'.tm.n = 23 ∧ A'.marks = [] ∧ H = R.2 ∧ ((z = .exit 0 ∧ R.1 = .bool true) ∨ (z = .ret ∧ R.1 = .bool false ∧ A'.tm.get 6 = .bool false))

set_option maxRecDepth 10000 in
set_option maxHeartbeats 8000000 in
theorem row_evt (call : Value → List Value → AH → Option (Value × AH)) (Mr : Int → Nat → AH) (HD : Int → Int → Nat → AH) (hit : Int → Int → Bool) (su : Int) (q : Nat) (c : Int) (m : Nat)
    (h9 : ∀ c m, lookB (Mr c m).bs 10 = some (.cells false [.func (.yield 9) #[] #[]])) (h10 : ∀ c m, lookB (Mr c m).bs 11 = some (.cells false [.int .i64 c]))
    (hset : ∀ c m c', ({ Mr c m with bs := setB (Mr c m).bs 11 (.cells false [.int .i64 c']) } : AH) = Mr c' m)
    (hy : ∀ (c r : Int) (m : Nat), call (.func (.yield 9) #[] #[]) [.int .i64 c, placeV su r q] (Mr c m) = if hit c r then some (.bool false, HD c r m) else some (.bool true, Mr c (m + 1)))
    (hq : q ≤ 200) (hc0 : 0 ≤ c) (hcq : c + q ≤ 100000) :
    evFn (tabT Try.prog) call 300 kpT 87 Try.f87 [.int .i64 su, .int .i64 q, .pointer (some ⟨10, 0, none⟩), .pointer (some ⟨11, 0, none⟩)] (Mr c m) = some (rowR Mr HD hit q 0 c m) := by
  have kp := kg58
  simp only [Prod.mk.injEq] at kp
  obtain ⟨kp1, kp2⟩ := kp
  simp only [evFn, Try.f87]
  simp [ec_skip, ec_label, ek_reg, ek_draw, ek_seq, ec_cond, ek_block, ec_loop, ec_exit, ec_ret, ec_scope, ek_nil, ek_op, opK_some, regK_some, seqK_normal, seqK_exit, seqK_ret, blockK_normal, blockK_exit, blockK_ret, evOp, vOp, hOpB, hOpU, hOp, hOpT, aAppendG_tab, aWanted, aYielded, opd, putT, closedV, aBin, intOp, sameK, mapO, joinR, hasAddr, boundOf, pushB, aAlloc, Value.cells, lookB, setB, Nat.beq_eq, tm_n_set, tm_get_set, tm_of_n, tm_of_get, tm_tr_set, tm_tr_of, cellV, putF, appR_eq, takeR_eq, dropR_eq, setR_eq, getR_eq, ↓C75, ↓C76, ↓C77, ↓C79, ↓C17, ↓C18, ↓C22, ↓C71, FA24_0, FA24_1, FA24_2, FA24_3, FA24_4, FA24_5, FA24_6, FA24_7, FA24_8, LD3, LD4, LD22, LD27, LDr, LD24, LEN22, IA22, tkc, cellAt]
  generalize hr : evLoop _ _ _ _ = r
  obtain ⟨z, A', H', rfl, hl, hmk, rfl, hz⟩ := loop_go (Q := Q112t (rowR Mr HD hit q 0 c m)) hr (I112t Mr HD hit (rowR Mr HD hit q 0 c m) su q) q (by omega) ⟨0, c, m, by omega, by omega, by omega, hc0, hcq, rfl, rfl, rfl, rfl, rfl, rfl, rfl, rfl, rfl, rfl⟩ (by
      clear hr
      rintro k A H ⟨i, c, m, him, hi0, hq1, hc0, hck, hres, rfl, hl, hmk, g0, g1, g2, g3, g8, g9⟩
      simp only [runC]
      cases k with
      | zero =>
        have hi : ¬ i < (q : Int) := by omega
        simp only [rowR] at hres
        simp [ec_skip, ec_label, ek_reg, ek_draw, ek_seq, ec_cond, ek_block, ec_loop, ec_exit, ec_ret, ec_scope, ek_nil, ek_op, opK_some, regK_some, seqK_normal, seqK_exit, seqK_ret, blockK_normal, blockK_exit, blockK_ret, evOp, vOp, hOpB, hOpU, hOp, hOpT, aAppendG_tab, aWanted, aYielded, opd, putT, closedV, aBin, intOp, sameK, mapO, joinR, hasAddr, boundOf, pushB, aAlloc, Value.cells, lookB, setB, Nat.beq_eq, tm_n_set, tm_get_set, tm_of_n, tm_of_get, tm_tr_set, tm_tr_of, cellV, putF, appR_eq, takeR_eq, dropR_eq, setR_eq, getR_eq, ↓C75, ↓C76, ↓C77, ↓C79, ↓C17, ↓C18, ↓C22, ↓C71, FA24_0, FA24_1, FA24_2, FA24_3, FA24_4, FA24_5, FA24_6, FA24_7, FA24_8, LD3, LD4, LD22, LD27, LDr, LD24, LEN22, IA22, tkc, cellAt, hl, hmk, g0, g1, g2, g3, g8, g9, hi]
        exact .inr ⟨by simp, by simp [tm_n_set, hl], rfl, by rw [← hres], .inl ⟨rfl, by rw [← hres]⟩⟩
      | succ k =>
        have hi : i < (q : Int) := by omega
        have hw : wrapI .i64 (i + 1) = i + 1 := wrapI_small (by omega) (by omega)
        have hwc : wrapI .i64 (c + 1) = c + 1 := wrapI_small (by omega) (by omega)
        have hst := fun n => ST3 (Mr c (m + 1)) 11 0 n [.int .i64 c] (h10 c (m + 1)) (by simp)
        simp only [List.set_cons_zero, hset] at hst
        have hy' := hy c i m
        simp only [placeV] at hy'
        cases hh : hit c i with
        | true =>
          rw [hh, if_pos rfl] at hy'
          simp only [rowR, hh, if_true] at hres
          simp [ec_skip, ec_label, ek_reg, ek_draw, ek_seq, ec_cond, ek_block, ec_loop, ec_exit, ec_ret, ec_scope, ek_nil, ek_op, opK_some, regK_some, seqK_normal, seqK_exit, seqK_ret, blockK_normal, blockK_exit, blockK_ret, evOp, vOp, hOpB, hOpU, hOp, hOpT, aAppendG_tab, aWanted, aYielded, opd, putT, closedV, aBin, intOp, sameK, mapO, joinR, hasAddr, boundOf, pushB, aAlloc, Value.cells, lookB, setB, Nat.beq_eq, tm_n_set, tm_get_set, tm_of_n, tm_of_get, tm_tr_set, tm_tr_of, cellV, putF, appR_eq, takeR_eq, dropR_eq, setR_eq, getR_eq, ↓C75, ↓C76, ↓C77, ↓C79, ↓C17, ↓C18, ↓C22, ↓C71, FA24_0, FA24_1, FA24_2, FA24_3, FA24_4, FA24_5, FA24_6, FA24_7, FA24_8, LD3, LD4, LD22, LD27, LDr, LD24, LEN22, IA22, tkc, cellAt, LD122, partsO, BD80, hl, hmk, g0, g1, g2, g3, g8, g9, hi, h9, h10, hy']
          exact .inr ⟨by simp, by simp [tm_n_set, hl], rfl, by rw [← hres], .inr ⟨rfl, by rw [← hres], by simp [tm_get_set, tm_n_set, hl]⟩⟩
        | false =>
          rw [hh, if_neg (by simp)] at hy'
          simp only [rowR, hh, Bool.false_eq_true, if_false] at hres
          simp [ec_skip, ec_label, ek_reg, ek_draw, ek_seq, ec_cond, ek_block, ec_loop, ec_exit, ec_ret, ec_scope, ek_nil, ek_op, opK_some, regK_some, seqK_normal, seqK_exit, seqK_ret, blockK_normal, blockK_exit, blockK_ret, evOp, vOp, hOpB, hOpU, hOp, hOpT, aAppendG_tab, aWanted, aYielded, opd, putT, closedV, aBin, intOp, sameK, mapO, joinR, hasAddr, boundOf, pushB, aAlloc, Value.cells, lookB, setB, Nat.beq_eq, tm_n_set, tm_get_set, tm_of_n, tm_of_get, tm_tr_set, tm_tr_of, cellV, putF, appR_eq, takeR_eq, dropR_eq, setR_eq, getR_eq, ↓C75, ↓C76, ↓C77, ↓C79, ↓C17, ↓C18, ↓C22, ↓C71, FA24_0, FA24_1, FA24_2, FA24_3, FA24_4, FA24_5, FA24_6, FA24_7, FA24_8, LD3, LD4, LD22, LD27, LDr, LD24, LEN22, IA22, tkc, cellAt, LD122, partsO, BD80, hl, hmk, g0, g1, g2, g3, g8, g9, hi, h9, h10, hy', hst, hwc]
          refine .inl ⟨rfl, k, rfl, i + 1, c + 1, m + 1, by omega, by omega, hq1, by omega, by omega, hres, rfl, ?_⟩
          simp [tm_get_set, tm_n_set, hl, g0, g1, g2, g3, g8, g9, hw])
  rcases hz with ⟨rfl, hz⟩ | ⟨rfl, hz, h6⟩
  · simp [ec_skip, ec_label, ek_reg, ek_draw, ek_seq, ec_cond, ek_block, ec_loop, ec_exit, ec_ret, ec_scope, ek_nil, ek_op, opK_some, regK_some, seqK_normal, seqK_exit, seqK_ret, blockK_normal, blockK_exit, blockK_ret, evOp, vOp, hOpB, hOpU, hOp, hOpT, aAppendG_tab, aWanted, aYielded, opd, putT, closedV, aBin, intOp, sameK, mapO, joinR, hasAddr, boundOf, pushB, aAlloc, Value.cells, lookB, setB, Nat.beq_eq, tm_n_set, tm_get_set, tm_of_n, tm_of_get, tm_tr_set, tm_tr_of, cellV, putF, appR_eq, takeR_eq, dropR_eq, setR_eq, getR_eq, ↓C75, ↓C76, ↓C77, ↓C79, ↓C17, ↓C18, ↓C22, ↓C71, FA24_0, FA24_1, FA24_2, FA24_3, FA24_4, FA24_5, FA24_6, FA24_7, FA24_8, LD3, LD4, LD22, LD27, LDr, LD24, LEN22, IA22, tkc, cellAt, finF, takeM, resV, hl, hmk, cleanedG, kp1, kp2]
    generalize rowR Mr HD hit q 0 c m = R at hz ⊢
    obtain ⟨a, b⟩ := R
    simp only at hz
    rw [hz]
  · simp [ec_skip, ec_label, ek_reg, ek_draw, ek_seq, ec_cond, ek_block, ec_loop, ec_exit, ec_ret, ec_scope, ek_nil, ek_op, opK_some, regK_some, seqK_normal, seqK_exit, seqK_ret, blockK_normal, blockK_exit, blockK_ret, evOp, vOp, hOpB, hOpU, hOp, hOpT, aAppendG_tab, aWanted, aYielded, opd, putT, closedV, aBin, intOp, sameK, mapO, joinR, hasAddr, boundOf, pushB, aAlloc, Value.cells, lookB, setB, Nat.beq_eq, tm_n_set, tm_get_set, tm_of_n, tm_of_get, tm_tr_set, tm_tr_of, cellV, putF, appR_eq, takeR_eq, dropR_eq, setR_eq, getR_eq, ↓C75, ↓C76, ↓C77, ↓C79, ↓C17, ↓C18, ↓C22, ↓C71, FA24_0, FA24_1, FA24_2, FA24_3, FA24_4, FA24_5, FA24_6, FA24_7, FA24_8, LD3, LD4, LD22, LD27, LDr, LD24, LEN22, IA22, tkc, cellAt, finF, takeM, resV, hl, hmk, h6, cleanedG, kp1, kp2]
    generalize rowR Mr HD hit q 0 c m = R at hz ⊢
    obtain ⟨a, b⟩ := R
    simp only at hz
    rw [hz]



noncomputable def cl112t : Value := (.func (.func 87) #[] #[.pointer (some ⟨10, 0, none⟩), .pointer (some ⟨11, 0, none⟩)])

noncomputable def I111t (s : SV) (Mr : Int → Nat → AH) (HD : Int → Nat → Int → Int → Nat → AH) (hit : Int → Nat → Int → Int → Bool) (R : AH) (k : Nat) (A : AF) (H : AH) : Prop :=
  ∃ (i : Nat) (c : Int) (m : Nat), i + k = s.n ∧ 0 ≤ c ∧ c ≤ 9 * i ∧ rowsR Mr HD hit (suitRows s.g k i ++ s.tail) c m = R ∧ H = Mr c m ∧ A.tm.n = 38 ∧ A.marks = [] ∧ A.tm.get 1 = .pointer (some ⟨7, 0, none⟩) ∧ A.tm.get 4 = cl112t ∧ A.tm.get 9 = .slice (some ⟨0, 0, some 1⟩) s.n 0 ∧ A.tm.get 10 = .int .i64 s.n ∧ A.tm.get 11 = .int .i64 (i : Int)
noncomputable def Q111t (s : SV) (Mr : Int → Nat → AH) (HD : Int → Nat → Int → Int → Nat → AH) (hit : Int → Nat → Int → Int → Bool) (R : AH) (z : AX) (A' : AF) (H : AH) : Prop :=
  A'.tm.n = 38 ∧ A'.marks = [] ∧ ((z = .exit 0 ∧ A'.tm.get 1 = .pointer (some ⟨7, 0, none⟩) ∧ A'.tm.get 4 = cl112t ∧ ∃ (c : Int) (m : Nat), 0 ≤ c ∧ c ≤ 27 ∧ H = Mr c m ∧ rowsR Mr HD hit s.tail c m = R) ∨ (z = .ret ∧ H = R))

set_option maxRecDepth 10000 in
set_option maxHeartbeats 8000000 in
theorem kinds_evt (call : Value → List Value → AH → Option (Value × AH)) (s : SV) (hs : s.Small) (H0 : AH) (Mr : Int → Nat → AH) (HD : Int → Nat → Int → Int → Nat → AH) (hit : Int → Nat → Int → Int → Bool)
    (h6 : ∀ c m, lookB (Mr c m).bs 7 = some (.cells false s.boxL)) (h0 : ∀ c m, lookB (Mr c m).bs 0 = some (.ints s.g))
    (hn : H0.next = 10) (hM : Mr 0 0 = ⟨12, (11, .cells false [.int .i64 0]) :: (10, .cells false [.func (.yield 9) #[] #[]]) :: H0.bs⟩)
    (hrow : ∀ (su : Int) (q : Nat) (c : Int) (m : Nat), q ≤ 200 → 0 ≤ c → c + q ≤ 100000 → call cl112t [.int .i64 su, .int .i64 q] (Mr c m) = some (rowR Mr (HD su q) (hit su q) q 0 c m)) :
    evFn (tabT Try.prog) call 300 kpT 86 Try.f86 [.func (.yield 9) #[] #[], .pointer (some ⟨7, 0, none⟩)] H0 = some (.tuple #[], rowsR Mr HD hit s.rows 0 0) := by
  obtain ⟨nx, bs⟩ := H0
  simp only at hn hM
  subst hn
  have hM0 : lookB bs 7 = some (.cells false s.boxL) := by
    have := h6 0 0
    rw [hM] at this
    simpa [lookB, Nat.beq_eq] using this
  have hst0 : aStore (tabT Try.prog) (Mr 0 0) 3 (.pointer (some ⟨11, 0, none⟩)) (.int .i64 0) = some (Mr 0 0) := by rw [hM]; exact ST3top _ _ _ _ _
  simp only [cl112t] at hrow
  simp only [SV.boxL] at h6 hM0
  have kp := kg57
  simp only [Prod.mk.injEq] at kp
  obtain ⟨kp1, kp2⟩ := kp
  simp only [evFn, Try.f86]
  simp [ec_skip, ec_label, ek_reg, ek_draw, ek_seq, ec_cond, ek_block, ec_loop, ec_exit, ec_ret, ec_scope, ek_nil, ek_op, opK_some, regK_some, seqK_normal, seqK_exit, seqK_ret, blockK_normal, blockK_exit, blockK_ret, evOp, vOp, hOpB, hOpU, hOp, hOpT, aAppendG_tab, aWanted, aYielded, opd, putT, closedV, aBin, intOp, sameK, mapO, joinR, hasAddr, boundOf, pushB, aAlloc, Value.cells, lookB, setB, Nat.beq_eq, tm_n_set, tm_get_set, tm_of_n, tm_of_get, tm_tr_set, tm_tr_of, cellV, putF, appR_eq, takeR_eq, dropR_eq, setR_eq, getR_eq, ↓C75, ↓C76, ↓C77, ↓C79, ↓C17, ↓C18, ↓C22, ↓C71, FA24_0, FA24_1, FA24_2, FA24_3, FA24_4, FA24_5, FA24_6, FA24_7, FA24_8, LD3, LD4, LD22, LD27, LDr, LD24, LEN22, IA22, tkc, cellAt, ↓AL3, hst0, h6, ← hM]
  generalize hr : evLoop _ _ _ _ = r
  obtain ⟨z, A', H', rfl, hl, hmk, hz⟩ := loop_go (Q := Q111t s Mr HD hit (rowsR Mr HD hit s.rows 0 0)) hr (I111t s Mr HD hit (rowsR Mr HD hit s.rows 0 0)) s.n (by have := hs.n; omega) ⟨0, 0, 0, by omega, by omega, by omega, rfl, rfl, rfl, rfl, rfl, rfl, rfl, rfl, rfl⟩ (by
      clear hr
      rintro k A H ⟨i, c, m, him, hc0, hc9, hres, rfl, hl, hmk, g1, g4, g9, g10, g11⟩
      simp only [runC]
      cases k with
      | zero =>
        have hi : ¬ i < s.n := by omega
        simp only [suitRows, List.nil_append] at hres
        simp [ec_skip, ec_label, ek_reg, ek_draw, ek_seq, ec_cond, ek_block, ec_loop, ec_exit, ec_ret, ec_scope, ek_nil, ek_op, opK_some, regK_some, seqK_normal, seqK_exit, seqK_ret, blockK_normal, blockK_exit, blockK_ret, evOp, vOp, hOpB, hOpU, hOp, hOpT, aAppendG_tab, aWanted, aYielded, opd, putT, closedV, aBin, intOp, sameK, mapO, joinR, hasAddr, boundOf, pushB, aAlloc, Value.cells, lookB, setB, Nat.beq_eq, tm_n_set, tm_get_set, tm_of_n, tm_of_get, tm_tr_set, tm_tr_of, cellV, putF, appR_eq, takeR_eq, dropR_eq, setR_eq, getR_eq, ↓C75, ↓C76, ↓C77, ↓C79, ↓C17, ↓C18, ↓C22, ↓C71, FA24_0, FA24_1, FA24_2, FA24_3, FA24_4, FA24_5, FA24_6, FA24_7, FA24_8, LD3, LD4, LD22, LD27, LDr, LD24, LEN22, IA22, tkc, cellAt, hl, hmk, g1, g4, g9, g10, g11, hi]
        exact .inr ⟨by simp, by simp [tm_n_set, hl], rfl, .inl ⟨rfl, by simp [tm_get_set, tm_n_set, hl, g1], by simp [tm_get_set, tm_n_set, hl, g4], c, m, hc0, by have := hs.n; omega, rfl, hres⟩⟩
      | succ k =>
        have hi : i < s.n := by omega
        have hw : wrapI .i64 ((i : Int) + 1) = ((i + 1 : Nat) : Int) := by rw [wrapI_small (by have := hs.n; omega) (by have := hs.n; omega)]; rfl
        obtain ⟨b1, b2⟩ := hs.g i hi
        have hq : ((s.g i).toNat : Int) = s.g i := by omega
        have hn3 := hs.n
        simp only [cl112t] at g4
        have hr' := hrow (i : Int) (s.g i).toNat c m (by omega) hc0 (by omega)
        rw [hq] at hr'
        simp only [suitRows, List.cons_append, rowsR] at hres
        rcases rowR_cases Mr (HD (i : Int) (s.g i).toNat) (hit (i : Int) (s.g i).toNat) (s.g i).toNat 0 c m with ⟨Hx, hx⟩ | hx
        · rw [hx] at hr' hres
          simp only at hres
          simp [ec_skip, ec_label, ek_reg, ek_draw, ek_seq, ec_cond, ek_block, ec_loop, ec_exit, ec_ret, ec_scope, ek_nil, ek_op, opK_some, regK_some, seqK_normal, seqK_exit, seqK_ret, blockK_normal, blockK_exit, blockK_ret, evOp, vOp, hOpB, hOpU, hOp, hOpT, aAppendG_tab, aWanted, aYielded, opd, putT, closedV, aBin, intOp, sameK, mapO, joinR, hasAddr, boundOf, pushB, aAlloc, Value.cells, lookB, setB, Nat.beq_eq, tm_n_set, tm_get_set, tm_of_n, tm_of_get, tm_tr_set, tm_tr_of, cellV, putF, appR_eq, takeR_eq, dropR_eq, setR_eq, getR_eq, ↓C75, ↓C76, ↓C77, ↓C79, ↓C17, ↓C18, ↓C22, ↓C71, FA24_0, FA24_1, FA24_2, FA24_3, FA24_4, FA24_5, FA24_6, FA24_7, FA24_8, LD3, LD4, LD22, LD27, LDr, LD24, LEN22, IA22, tkc, cellAt, hl, hmk, g1, g4, g9, g10, g11, hi, h0, hr']
          exact .inr ⟨by simp, by simp [tm_n_set, hl], rfl, .inr ⟨rfl, hres⟩⟩
        · rw [hx] at hr' hres
          simp only at hres
          have hmax : max (s.g i) 0 = s.g i := by omega
          simp [ec_skip, ec_label, ek_reg, ek_draw, ek_seq, ec_cond, ek_block, ec_loop, ec_exit, ec_ret, ec_scope, ek_nil, ek_op, opK_some, regK_some, seqK_normal, seqK_exit, seqK_ret, blockK_normal, blockK_exit, blockK_ret, evOp, vOp, hOpB, hOpU, hOp, hOpT, aAppendG_tab, aWanted, aYielded, opd, putT, closedV, aBin, intOp, sameK, mapO, joinR, hasAddr, boundOf, pushB, aAlloc, Value.cells, lookB, setB, Nat.beq_eq, tm_n_set, tm_get_set, tm_of_n, tm_of_get, tm_tr_set, tm_tr_of, cellV, putF, appR_eq, takeR_eq, dropR_eq, setR_eq, getR_eq, ↓C75, ↓C76, ↓C77, ↓C79, ↓C17, ↓C18, ↓C22, ↓C71, FA24_0, FA24_1, FA24_2, FA24_3, FA24_4, FA24_5, FA24_6, FA24_7, FA24_8, LD3, LD4, LD22, LD27, LDr, LD24, LEN22, IA22, tkc, cellAt, hl, hmk, g1, g4, g9, g10, g11, hi, h0, hr', hmax]
          refine .inl ⟨rfl, k, rfl, i + 1, c + (s.g i).toNat, m + (s.g i).toNat, by omega, by omega, by omega, hres, by rw [hq], ?_⟩
          simp [tm_get_set, tm_n_set, hl, g1, g4, g9, g10, g11, hw, cl112t])
  rcases hz with ⟨rfl, g1, g4, c, m, hc0, hc9, rfl, hz⟩ | ⟨rfl, hz⟩
  · obtain ⟨w1, w2⟩ := hs.w
    obtain ⟨d1, d2⟩ := hs.d
    obtain ⟨f1, f2⟩ := hs.f
    have qw : ((s.w).toNat : Int) = s.w := by omega
    have qd : ((s.d).toNat : Int) = s.d := by omega
    have qf : ((s.f).toNat : Int) = s.f := by omega
    simp only [cl112t] at g4
    have rw_ := hrow (-1) s.w.toNat c m (by omega) hc0 (by omega)
    rw [qw] at rw_
    simp only [SV.tail, rowsR] at hz
    rcases rowR_cases Mr (HD (-1) s.w.toNat) (hit (-1) s.w.toNat) s.w.toNat 0 c m with ⟨Hx, hx⟩ | hx
    · rw [hx] at rw_ hz
      simp only at hz
      simp [ec_skip, ec_label, ek_reg, ek_draw, ek_seq, ec_cond, ek_block, ec_loop, ec_exit, ec_ret, ec_scope, ek_nil, ek_op, opK_some, regK_some, seqK_normal, seqK_exit, seqK_ret, blockK_normal, blockK_exit, blockK_ret, evOp, vOp, hOpB, hOpU, hOp, hOpT, aAppendG_tab, aWanted, aYielded, opd, putT, closedV, aBin, intOp, sameK, mapO, joinR, hasAddr, boundOf, pushB, aAlloc, Value.cells, lookB, setB, Nat.beq_eq, tm_n_set, tm_get_set, tm_of_n, tm_of_get, tm_tr_set, tm_tr_of, cellV, putF, appR_eq, takeR_eq, dropR_eq, setR_eq, getR_eq, ↓C75, ↓C76, ↓C77, ↓C79, ↓C17, ↓C18, ↓C22, ↓C71, FA24_0, FA24_1, FA24_2, FA24_3, FA24_4, FA24_5, FA24_6, FA24_7, FA24_8, LD3, LD4, LD22, LD27, LDr, LD24, LEN22, IA22, tkc, cellAt, finF, takeM, resV, hl, hmk, g1, g4, h6, rw_, cleanedG, kp1, kp2, hz]
    · rw [hx] at rw_ hz
      simp only at hz
      have rd := hrow (-2) s.d.toNat (c + s.w.toNat) (m + s.w.toNat) (by omega) (by omega) (by omega)
      rw [qd] at rd
      rcases rowR_cases Mr (HD (-2) s.d.toNat) (hit (-2) s.d.toNat) s.d.toNat 0 (c + s.w.toNat) (m + s.w.toNat) with ⟨Hx, hx⟩ | hx
      · rw [hx] at rd hz
        simp only at hz
        rw [qw] at rd rw_
        simp [ec_skip, ec_label, ek_reg, ek_draw, ek_seq, ec_cond, ek_block, ec_loop, ec_exit, ec_ret, ec_scope, ek_nil, ek_op, opK_some, regK_some, seqK_normal, seqK_exit, seqK_ret, blockK_normal, blockK_exit, blockK_ret, evOp, vOp, hOpB, hOpU, hOp, hOpT, aAppendG_tab, aWanted, aYielded, opd, putT, closedV, aBin, intOp, sameK, mapO, joinR, hasAddr, boundOf, pushB, aAlloc, Value.cells, lookB, setB, Nat.beq_eq, tm_n_set, tm_get_set, tm_of_n, tm_of_get, tm_tr_set, tm_tr_of, cellV, putF, appR_eq, takeR_eq, dropR_eq, setR_eq, getR_eq, ↓C75, ↓C76, ↓C77, ↓C79, ↓C17, ↓C18, ↓C22, ↓C71, FA24_0, FA24_1, FA24_2, FA24_3, FA24_4, FA24_5, FA24_6, FA24_7, FA24_8, LD3, LD4, LD22, LD27, LDr, LD24, LEN22, IA22, tkc, cellAt, finF, takeM, resV, hl, hmk, g1, g4, h6, rw_, rd, cleanedG, kp1, kp2, hz]
      · rw [hx] at rd hz
        simp only at hz
        have rf := hrow (-3) s.f.toNat (c + s.w.toNat + s.d.toNat) (m + s.w.toNat + s.d.toNat) (by omega) (by omega) (by omega)
        rw [qf] at rf
        rcases rowR_cases Mr (HD (-3) s.f.toNat) (hit (-3) s.f.toNat) s.f.toNat 0 (c + s.w.toNat + s.d.toNat) (m + s.w.toNat + s.d.toNat) with ⟨Hx, hx⟩ | hx
        · rw [hx] at rf hz
          simp only at hz
          rw [qw] at rd rw_ rf
          rw [qd] at rd rf
          simp [ec_skip, ec_label, ek_reg, ek_draw, ek_seq, ec_cond, ek_block, ec_loop, ec_exit, ec_ret, ec_scope, ek_nil, ek_op, opK_some, regK_some, seqK_normal, seqK_exit, seqK_ret, blockK_normal, blockK_exit, blockK_ret, evOp, vOp, hOpB, hOpU, hOp, hOpT, aAppendG_tab, aWanted, aYielded, opd, putT, closedV, aBin, intOp, sameK, mapO, joinR, hasAddr, boundOf, pushB, aAlloc, Value.cells, lookB, setB, Nat.beq_eq, tm_n_set, tm_get_set, tm_of_n, tm_of_get, tm_tr_set, tm_tr_of, cellV, putF, appR_eq, takeR_eq, dropR_eq, setR_eq, getR_eq, ↓C75, ↓C76, ↓C77, ↓C79, ↓C17, ↓C18, ↓C22, ↓C71, FA24_0, FA24_1, FA24_2, FA24_3, FA24_4, FA24_5, FA24_6, FA24_7, FA24_8, LD3, LD4, LD22, LD27, LDr, LD24, LEN22, IA22, tkc, cellAt, finF, takeM, resV, hl, hmk, g1, g4, h6, rw_, rd, rf, cleanedG, kp1, kp2, hz]
        · rw [hx] at rf hz
          simp only at hz
          rw [qw] at rd rw_ rf
          rw [qd] at rd rf
          simp [ec_skip, ec_label, ek_reg, ek_draw, ek_seq, ec_cond, ek_block, ec_loop, ec_exit, ec_ret, ec_scope, ek_nil, ek_op, opK_some, regK_some, seqK_normal, seqK_exit, seqK_ret, blockK_normal, blockK_exit, blockK_ret, evOp, vOp, hOpB, hOpU, hOp, hOpT, aAppendG_tab, aWanted, aYielded, opd, putT, closedV, aBin, intOp, sameK, mapO, joinR, hasAddr, boundOf, pushB, aAlloc, Value.cells, lookB, setB, Nat.beq_eq, tm_n_set, tm_get_set, tm_of_n, tm_of_get, tm_tr_set, tm_tr_of, cellV, putF, appR_eq, takeR_eq, dropR_eq, setR_eq, getR_eq, ↓C75, ↓C76, ↓C77, ↓C79, ↓C17, ↓C18, ↓C22, ↓C71, FA24_0, FA24_1, FA24_2, FA24_3, FA24_4, FA24_5, FA24_6, FA24_7, FA24_8, LD3, LD4, LD22, LD27, LDr, LD24, LEN22, IA22, tkc, cellAt, finF, takeM, resV, hl, hmk, g1, g4, h6, rw_, rd, rf, cleanedG, kp1, kp2, ← hz, qw, qd, qf]
  · subst hz
    simp [ec_skip, ec_label, ek_reg, ek_draw, ek_seq, ec_cond, ek_block, ec_loop, ec_exit, ec_ret, ec_scope, ek_nil, ek_op, opK_some, regK_some, seqK_normal, seqK_exit, seqK_ret, blockK_normal, blockK_exit, blockK_ret, evOp, vOp, hOpB, hOpU, hOp, hOpT, aAppendG_tab, aWanted, aYielded, opd, putT, closedV, aBin, intOp, sameK, mapO, joinR, hasAddr, boundOf, pushB, aAlloc, Value.cells, lookB, setB, Nat.beq_eq, tm_n_set, tm_get_set, tm_of_n, tm_of_get, tm_tr_set, tm_tr_of, cellV, putF, appR_eq, takeR_eq, dropR_eq, setR_eq, getR_eq, ↓C75, ↓C76, ↓C77, ↓C79, ↓C17, ↓C18, ↓C22, ↓C71, FA24_0, FA24_1, FA24_2, FA24_3, FA24_4, FA24_5, FA24_6, FA24_7, FA24_8, LD3, LD4, LD22, LD27, LDr, LD24, LEN22, IA22, tkc, cellAt, finF, takeM, resV, hl, hmk, cleanedG, kp1, kp2]




end

section
set_option linter.unusedSimpArgs false
set_option linter.unusedVariables false

theorem FV : tabF Try.prog 57 = some Try.f57 := by kernel_rfl
theorem FP : tabF Try.prog 14 = some Try.f14 := by kernel_rfl
theorem FA : tabF Try.prog 25 = some Try.f25 := by kernel_rfl
theorem kgV : (kpT 57, gcT 57) = (false, true) := by kernel_rfl
theorem kgK : (kpT 58, gcT 58) = (false, false) := by kernel_rfl
theorem call_fn {n : Nat} {hd : Hnd} {f : FuncId} {fn : Func} {cap : Array Value} {args : List Value} {H : AH} (hF : tabF Try.prog f = some fn) (hh : hd (.func (.func f) #[] cap) args H = none) :
    evCall (tabT Try.prog) (tabF Try.prog) 300 kpT hd (n + 1) (.func (.func f) #[] cap) args H = evFn (tabT Try.prog) (evCall (tabT Try.prog) (tabF Try.prog) 300 kpT hd n) 300 kpT f fn (args ++ cap.toList) H := by
  conv => lhs; unfold evCall
  simp only [hh, hF]
  rw [twT_no rfl]
theorem call_yield {n : Nat} {hd : Hnd} {l : Nat} {args : List Value} {H : AH} (hh : hd (.func (.yield l) #[] #[]) args H = none) :
    evCall (tabT Try.prog) (tabF Try.prog) 300 kpT hd (n + 1) (.func (.yield l) #[] #[]) args H = evRound (tabT Try.prog) (evCall (tabT Try.prog) (tabF Try.prog) 300 kpT hd n) 300 kpT l args H := by
  conv => lhs; unfold evCall
  simp only [hh]
set_option maxRecDepth 10000 in
set_option maxHeartbeats 8000000 in
theorem valid_ev (call : Value → List Value → AH → Option (Value × AH)) (h17 : ∀ (s : SV) (H : AH), lookB H.bs 0 = some (.ints s.g) → lookB H.bs 1 = some (.ints s.h) → call (.func (.func 63) #[] #[]) [s.val] H = some (.int .i64 s.err, H)) (s : SV) : ∃ H', evFn (tabT Try.prog) call 300 kpT 57 Try.f57 [s.val] s.hp = some (.bool s.ok, H') := by
  have kp := kgV
  simp only [Prod.mk.injEq] at kp
  obtain ⟨kp1, kp2⟩ := kp
  have h := h17 s
  simp only [SV.val] at h
  simp only [evFn, Try.f57, SV.val, SV.hp, SV.ok]
  simp [ec_skip, ec_label, ek_reg, ek_draw, ek_seq, ec_cond, ek_block, ec_loop, ec_exit, ec_ret, ec_scope, ek_nil, ek_op, opK_some, regK_some, seqK_normal, seqK_exit, seqK_ret, blockK_normal, blockK_exit, blockK_ret, evOp, vOp, hOpB, hOpU, hOp, hOpT, aAppendG_tab, aWanted, aYielded, opd, putT, closedV, aBin, intOp, sameK, mapO, joinR, hasAddr, boundOf, pushB, aAlloc, Value.cells, lookB, setB, Nat.beq_eq, tm_n_set, tm_get_set, tm_of_n, tm_of_get, tm_tr_set, tm_tr_of, cellV, putF, appR_eq, takeR_eq, dropR_eq, setR_eq, getR_eq, ↓C75, ↓C76, ↓C77, ↓C79, ↓C17, ↓C18, ↓C22, ↓C71, FA24_0, FA24_1, FA24_2, FA24_3, FA24_4, FA24_5, FA24_6, FA24_7, FA24_8, LD3, LD4, LD22, LD27, LDr, LD24, LEN22, IA22, tkc, cellAt, h, finF, takeM, resV, cleanedG, kp1, kp2, below]
set_option maxRecDepth 10000 in
set_option maxHeartbeats 8000000 in
theorem kinds87_ev (call : Value → List Value → AH → Option (Value × AH)) (s : SV) (H : AH) : evFn (tabT Try.prog) call 300 kpT 58 Try.f58 [s.val] H = some (.func (.func 86) #[] #[.pointer (some ⟨H.next, 0, none⟩)], pushB H (.cells false s.boxL)) := by
  have kp := kgK
  simp only [Prod.mk.injEq] at kp
  obtain ⟨kp1, kp2⟩ := kp
  simp only [evFn, Try.f58, SV.val, SV.boxL]
  simp [ec_skip, ec_label, ek_reg, ek_draw, ek_seq, ec_cond, ek_block, ec_loop, ec_exit, ec_ret, ec_scope, ek_nil, ek_op, opK_some, regK_some, seqK_normal, seqK_exit, seqK_ret, blockK_normal, blockK_exit, blockK_ret, evOp, vOp, hOpB, hOpU, hOp, hOpT, aAppendG_tab, aWanted, aYielded, opd, putT, closedV, aBin, intOp, sameK, mapO, joinR, hasAddr, boundOf, pushB, aAlloc, Value.cells, lookB, setB, Nat.beq_eq, tm_n_set, tm_get_set, tm_of_n, tm_of_get, tm_tr_set, tm_tr_of, cellV, putF, appR_eq, takeR_eq, dropR_eq, setR_eq, getR_eq, ↓C75, ↓C76, ↓C77, ↓C79, ↓C17, ↓C18, ↓C22, ↓C71, FA24_0, FA24_1, FA24_2, FA24_3, FA24_4, FA24_5, FA24_6, FA24_7, FA24_8, LD3, LD4, LD22, LD27, LDr, LD24, LEN22, IA22, tkc, cellAt, finF, takeM, resV, cleanedG, kp1, kp2]
noncomputable def aOk (s : SV) : Option Value := some (.bool s.ok)
theorem ok80 : AnsOK (runH L4) 57 (ans1 aOk) := ans1_ok fun s v h => by
  cases h
  refine ⟨rfl, fun _ _ => ?_⟩
  obtain ⟨H', h⟩ := valid_ev (inH L4) L4_17 s
  exact ⟨H', runH_fn FV rfl h⟩
noncomputable def M7 : Hnd := orH (canH 57 (ans1 aOk)) L4
theorem M7_ok : CallOK Try.prog M7 := orH_ok (canH_ok (runH_ok L4_ok) ok80) L4_ok
theorem M7_80 (s : SV) (H : AH) (h0 : lookB H.bs 0 = some (.ints s.g)) (h1 : lookB H.bs 1 = some (.ints s.h)) : inH M7 (.func (.func 57) #[] #[]) [s.val] H = some (.bool s.ok, H) := inH_hd (orH_l (canH_set h0 h1))
theorem M7_cl (f : FuncId) (x : Value) (cap args : List Value) (H : AH) : M7 (.func (.func f) #[] ⟨x :: cap⟩) args H = none := rfl
theorem M7_y (l : Nat) (args : List Value) (H : AH) : M7 (.func (.yield l) #[] #[]) args H = none := rfl
theorem M7_87 (args : List Value) (H : AH) : M7 (.func (.func 58) #[] #[]) args H = none := rfl
theorem find_start (s : SV) (kind : Int) (h : s.err = 0) : inH M7 (.func (.func 86) #[] #[.pointer (some ⟨6, 0, none⟩)]) [.func (.yield 8) #[] #[]] (startF s kind) = some (.tuple #[], rowsR (MrF s kind) (HDF s kind) (hitF kind) s.rows 0 0) := by
  unfold inH
  rw [call_fn F111 (M7_cl _ _ _ _ _)]
  refine kinds_ev _ s (small_of_err h) (startF s kind) (MrF s kind) (HDF s kind) (hitF kind) (fun c m => ?_) (fun c m => ?_) rfl rfl (fun su q c m hq hc hcq => ?_)
  · simp [MrF, MF1, lookB, Nat.beq_eq]
  · simp [MrF, MF1, lookB, Nat.beq_eq]
  · unfold cl112
    rw [call_fn F112 (M7_cl _ _ _ _ _)]
    refine row_ev _ (MrF s kind) (HDF s kind su q) (hitF kind su q) su q c m (fun c m => ?_) (fun c m => ?_) (fun c m c' => ?_) (fun c r m => ?_) hq hc hcq
    · simp [MrF, MF1, lookB, Nat.beq_eq]
    · simp [MrF, MF1, lookB, Nat.beq_eq]
    · simp [MrF, MF1, setB, Nat.beq_eq]
    · rw [call_yield (M7_y _ _ _)]
      have := yield_find (evCall (tabT Try.prog) (tabF Try.prog) 300 kpT M7 5) s kind c su r q m
      simp only [MrF, HDF, hitF]
      rw [this]
      by_cases hc : c = kind
      · simp [hc]
      · simp [hc]

noncomputable def ansFind : List Value → AH → Option Value
  | [v, .int .i64 kind], H => match seeSet v H with
    | some s => some (findV (s.find kind))
    | none => none
  | _, _ => none

theorem findV_closed (x : Option (Int × Int × Int)) : closedV 5 (findV x) = true := by
  cases x <;> rfl

theorem ok84 : AnsOK (runH M7) 49 ansFind := by
  intro cargs Hc v hv
  unfold ansFind at hv
  split at hv
  · rename_i kind
    split at hv
    · rename_i s hs
      obtain ⟨rfl, rfl⟩ := seeSet_spec hs
      cases hv
      refine ⟨findV_closed _, fun _ => ?_⟩
      obtain ⟨H', h⟩ := find_ev (inH M7) s kind (fun H h0 h1 => M7_80 s H h0 h1) (fun H _ _ => by unfold inH; rw [call_fn F87 (M7_87 _ _)]; exact kinds87_ev _ s H) (find_start s kind)
      exact ⟨H', runH_fn F84 rfl h⟩
    · cases hv
  · cases hv

theorem canH_si {f : FuncId} {ans : List Value → AH → Option Value} {s : SV} {k : Int} {H : AH} (h0 : lookB H.bs 0 = some (.ints s.g)) (h1 : lookB H.bs 1 = some (.ints s.h)) :
    canH f ans (.func (.func f) #[] #[]) [s.val, .int .i64 k] H = (ans [s.val, .int .i64 k] s.hp).map (·, H) := by
  simp [canH, canon, canonL, canonV, idOf, idxOf, SV.val, canonB, h0, h1, SV.hp]
  generalize ans _ _ = x
  cases x <;> rfl

noncomputable def F1 : Hnd := orH (canH 49 ansFind) M7
theorem F1_ok : CallOK Try.prog F1 := orH_ok (canH_ok (runH_ok M7_ok) ok84) M7_ok
theorem F1_find (s : SV) (k : Int) (H : AH) (h0 : lookB H.bs 0 = some (.ints s.g)) (h1 : lookB H.bs 1 = some (.ints s.h)) : inH F1 (.func (.func 49) #[] #[]) [s.val, .int .i64 k] H = some (findV (s.find k), H) := by
  refine inH_hd (orH_l ?_)
  rw [canH_si h0 h1]
  have e : seeSet s.val s.hp = some s := by cases s; rfl
  simp only [ansFind, e, Option.map_some]
noncomputable def ansPl : SV → List Value → Option Value
  | s, [.int .i64 k] => some (placeT (s.find k))
  | _, _ => none
noncomputable def ansAf : SV → List Value → Option Value
  | s, [.int .i64 k] => some (.int .i64 (s.aft k))
  | _, _ => none
theorem setP_ok : CallOK Try.prog (setH 14 ansPl) := setH_ok (runH_ok F1_ok) fun s rest v _ _ hv => by
  unfold ansPl at hv
  split at hv
  · rename_i k
    cases hv
    obtain ⟨H', h⟩ := place_ev (inH F1) s k (fun H h0 h1 => F1_find s k H h0 h1)
    exact ⟨by cases s.find k <;> rfl, H', runH_fn FP rfl h⟩
  · cases hv
theorem setA_ok : CallOK Try.prog (setH 25 ansAf) := setH_ok (runH_ok F1_ok) fun s rest v _ _ hv => by
  unfold ansAf at hv
  split at hv
  · rename_i k
    cases hv
    obtain ⟨H', h⟩ := after_ev (inH F1) s k (fun H h0 h1 => F1_find s k H h0 h1)
    exact ⟨rfl, H', runH_fn FA rfl h⟩
  · cases hv

end

section
set_option linter.unusedSimpArgs false
set_option linter.unusedVariables false

theorem F89 : tabF Try.prog 69 = some Try.f69 := by kernel_rfl
theorem kgAt : kpT 69 = false := by kernel_rfl
noncomputable def codeAt : Code := ((Try.f69.body.bind rfOf).getD (.skip, .skip)).1
noncomputable def codeBt : Code := ((Try.f69.body.bind rfOf).getD (.skip, .skip)).2
noncomputable def tmT (s : SV) (su rk : Int) : Tm := (((((((Tm.of [s.val, .int .i64 su, .int .i64 rk] 25).set 3 (.pointer (some ⟨2, 0, none⟩))).set 4 (.pointer (some ⟨3, 0, none⟩))).set 5 (.pointer (some ⟨4, 0, none⟩))).set 6 (.pointer (some ⟨5, 0, none⟩))).set 7 (.pointer (some ⟨6, 0, none⟩))).set 10 s.val).set 11 (.func (.func 86) #[] #[.pointer (some ⟨7, 0, none⟩)])
theorem ST3k (H : AH) (i off : Nat) (v : Value) : aStore (tabT Try.prog) H 3 (.pointer (some ⟨i, off, none⟩)) v = match lookB H.bs i with
    | some (.cells false cs) => if Nat.beq v.cells.toList.length 1 && Nat.ble (off + v.cells.toList.length) cs.length && v.cells.toList.all cellV then some { H with bs := setB H.bs i (.cells false (putF cs off v.cells.toList)) } else none
    | _ => none := sti (by kernel_rfl) H i off v
theorem FPk0 (i off : Nat) : aFieldAddr (tabT Try.prog) 69 (.pointer (some ⟨i, off, none⟩)) 0 = some (.pointer (some ⟨i, off + 0, none⟩)) := by kernel_rfl
theorem FPk1 (i off : Nat) : aFieldAddr (tabT Try.prog) 69 (.pointer (some ⟨i, off, none⟩)) 1 = some (.pointer (some ⟨i, off + 1, none⟩)) := by kernel_rfl
theorem FPk2 (i off : Nat) : aFieldAddr (tabT Try.prog) 69 (.pointer (some ⟨i, off, none⟩)) 2 = some (.pointer (some ⟨i, off + 2, none⟩)) := by kernel_rfl
noncomputable def MT (s : SV) (su rk n : Int) (ok : Bool) (L : ABlk) (c : Int) (m : Nat) : AH :=
  ⟨m + 12, [(11, .cells false [.int .i64 c]), (10, .cells false [.func (.yield 9) #[] #[]]), (9, L), (8, .defd), (7, .cells false s.boxL), (6, .cells false [.bool ok]), (5, .cells false [.int .i64 n]), (4, .cells false [.int .i64 rk]), (3, .cells false [.int .i64 su]), (2, .cells false s.boxL), (1, .ints s.h), (0, .ints s.g)]⟩

noncomputable def loopT (s : SV) (su rk : Int) (st : LoopState) (p : Option Code) : ABlk := .loop st p 69 (tmT s su rk) [12, 13] codeAt codeBt

set_option maxRecDepth 10000 in
set_option maxHeartbeats 8000000 in
theorem yield_at (call : Value → List Value → AH → Option (Value × AH)) (s : SV) (su0 rk0 c su r q : Int) (m : Nat) :
    evRound (tabT Try.prog) call 300 kpT 9 [.int .i64 c, placeV su r q] (MT s su0 rk0 0 false (loopT s su0 rk0 .ready none) c m) =
      if (su == su0 && r == rk0) = true then some (.bool false, MT s su0 rk0 c true (loopT s su0 rk0 .done (some .ret)) c (m + 1))
      else some (.bool true, MT s su0 rk0 0 false (loopT s su0 rk0 .ready none) c (m + 1)) := by
  have kp := kgAt
  simp only [evRound, MT, loopT, codeAt, codeBt, Try.f69, Option.bind_some, rfOf, Option.getD_some, placeV, tmT]
  by_cases hc : su = su0
  · have hc' : (su == su0) = true := by simpa using hc
    by_cases hr : r = rk0
    · have hr' : (r == rk0) = true := by simpa using hr
      simp [ec_skip, ec_label, ek_reg, ek_draw, ek_seq, ec_cond, ek_block, ec_loop, ec_exit, ec_ret, ec_scope, ek_nil, ek_op, opK_some, regK_some, seqK_normal, seqK_exit, seqK_ret, blockK_normal, blockK_exit, blockK_ret, evOp, vOp, hOpB, hOpU, hOp, hOpT, aAppendG_tab, aWanted, aYielded, opd, putT, closedV, aBin, intOp, sameK, mapO, joinR, hasAddr, boundOf, pushB, aAlloc, Value.cells, lookB, setB, Nat.beq_eq, tm_n_set, tm_get_set, tm_of_n, tm_of_get, tm_tr_set, tm_tr_of, cellV, putF, appR_eq, takeR_eq, dropR_eq, setR_eq, getR_eq, ↓C75, ↓C76, ↓C77, ↓C79, ↓C17, ↓C18, ↓C22, ↓C71, FA24_0, FA24_1, FA24_2, FA24_3, FA24_4, FA24_5, FA24_6, FA24_7, FA24_8, LD3, LD4, LD22, LD27, LDr, LD24, LEN22, IA22, tkc, cellAt, setArgs, endOf, ↓AL43, ST43, ST3k, STb, LD43, FPk0, FPk1, cleaned, kp, below, Nat.blt_eq, hc, hc', hr, hr']
    · have hr' : (r == rk0) = false := by simpa using hr
      simp [ec_skip, ec_label, ek_reg, ek_draw, ek_seq, ec_cond, ek_block, ec_loop, ec_exit, ec_ret, ec_scope, ek_nil, ek_op, opK_some, regK_some, seqK_normal, seqK_exit, seqK_ret, blockK_normal, blockK_exit, blockK_ret, evOp, vOp, hOpB, hOpU, hOp, hOpT, aAppendG_tab, aWanted, aYielded, opd, putT, closedV, aBin, intOp, sameK, mapO, joinR, hasAddr, boundOf, pushB, aAlloc, Value.cells, lookB, setB, Nat.beq_eq, tm_n_set, tm_get_set, tm_of_n, tm_of_get, tm_tr_set, tm_tr_of, cellV, putF, appR_eq, takeR_eq, dropR_eq, setR_eq, getR_eq, ↓C75, ↓C76, ↓C77, ↓C79, ↓C17, ↓C18, ↓C22, ↓C71, FA24_0, FA24_1, FA24_2, FA24_3, FA24_4, FA24_5, FA24_6, FA24_7, FA24_8, LD3, LD4, LD22, LD27, LDr, LD24, LEN22, IA22, tkc, cellAt, setArgs, endOf, ↓AL43, ST43, ST3k, STb, LD43, FPk0, FPk1, cleaned, kp, below, Nat.blt_eq, hc, hc', hr, hr']
  · have hc' : (su == su0) = false := by simpa using hc
    simp [ec_skip, ec_label, ek_reg, ek_draw, ek_seq, ec_cond, ek_block, ec_loop, ec_exit, ec_ret, ec_scope, ek_nil, ek_op, opK_some, regK_some, seqK_normal, seqK_exit, seqK_ret, blockK_normal, blockK_exit, blockK_ret, evOp, vOp, hOpB, hOpU, hOp, hOpT, aAppendG_tab, aWanted, aYielded, opd, putT, closedV, aBin, intOp, sameK, mapO, joinR, hasAddr, boundOf, pushB, aAlloc, Value.cells, lookB, setB, Nat.beq_eq, tm_n_set, tm_get_set, tm_of_n, tm_of_get, tm_tr_set, tm_tr_of, cellV, putF, appR_eq, takeR_eq, dropR_eq, setR_eq, getR_eq, ↓C75, ↓C76, ↓C77, ↓C79, ↓C17, ↓C18, ↓C22, ↓C71, FA24_0, FA24_1, FA24_2, FA24_3, FA24_4, FA24_5, FA24_6, FA24_7, FA24_8, LD3, LD4, LD22, LD27, LDr, LD24, LEN22, IA22, tkc, cellAt, setArgs, endOf, ↓AL43, ST43, ST3k, STb, LD43, FPk0, FPk1, cleaned, kp, below, Nat.blt_eq, hc, hc']
/-- Where a rank of a suit stands. -/
noncomputable def atRows : List (Int × Nat) → Int → Int → Int → Option Int
  | [], _, _, _ => none
  | (su', q) :: r, c, su, rk => if su' = su ∧ 0 ≤ rk ∧ rk < q then some (c + rk) else atRows r (c + q) su rk

noncomputable def MrT (s : SV) (su rk : Int) : Int → Nat → AH := MT s su rk 0 false (loopT s su rk .ready none)
noncomputable def HDT (s : SV) (su0 rk0 : Int) (_ : Int) (_ : Nat) (c _ : Int) (m : Nat) : AH := MT s su0 rk0 c true (loopT s su0 rk0 .done (some .ret)) c (m + 1)
noncomputable def hitT (su0 rk0 : Int) (su : Int) (_ : Nat) (_ r : Int) : Bool := su == su0 && r == rk0

theorem rowT (s : SV) (su0 rk0 su : Int) (q : Nat) : ∀ (k : Nat) (i c : Int) (m : Nat),
    (su = su0 ∧ i ≤ rk0 ∧ rk0 < i + k ∧ ∃ m', rowR (MrT s su0 rk0) (HDT s su0 rk0 su q) (hitT su0 rk0 su q) k i c m = (.bool false, HDT s su0 rk0 su q (c + (rk0 - i)) 0 m')) ∨
    (¬ (su = su0 ∧ i ≤ rk0 ∧ rk0 < i + k) ∧ rowR (MrT s su0 rk0) (HDT s su0 rk0 su q) (hitT su0 rk0 su q) k i c m = (.bool true, MrT s su0 rk0 (c + k) (m + k)))
  | 0, i, c, m => .inr ⟨by omega, by simp [rowR]⟩
  | k + 1, i, c, m => by
    simp only [rowR, hitT]
    by_cases hc : su = su0 ∧ i = rk0
    · obtain ⟨rfl, rfl⟩ := hc
      refine .inl ⟨rfl, by omega, by omega, m, ?_⟩
      simp [HDT]
    · have hc' : (su == su0 && i == rk0) = false := by
        cases hb : (su == su0 && i == rk0) with
        | false => rfl
        | true => exact absurd (by simpa using hb) hc
      simp only [hc', Bool.false_eq_true, if_false]
      rcases rowT s su0 rk0 su q k (i + 1) (c + 1) (m + 1) with ⟨h0, h1, h2, m', h3⟩ | ⟨h1, h3⟩
      · refine .inl ⟨h0, by omega, by omega, m', ?_⟩
        rw [← show c + 1 + (rk0 - (i + 1)) = c + (rk0 - i) by omega]
        exact h3
      · refine .inr ⟨fun hh => ?_, ?_⟩
        · by_cases hi : i = rk0
          · exact hc ⟨hh.1, hi⟩
          · exact h1 ⟨hh.1, by omega, by omega⟩
        · rw [show c + ((k + 1 : Nat) : Int) = c + 1 + (k : Int) by omega, show m + (k + 1) = m + 1 + k by omega]
          exact h3

theorem rowsT (s : SV) (su0 rk0 : Int) : ∀ (l : List (Int × Nat)) (c : Int) (m : Nat),
    (∃ n m', atRows l c su0 rk0 = some n ∧ rowsR (MrT s su0 rk0) (HDT s su0 rk0) (hitT su0 rk0) l c m = MT s su0 rk0 n true (loopT s su0 rk0 .done (some .ret)) n m') ∨
    (atRows l c su0 rk0 = none ∧ ∃ c' m', rowsR (MrT s su0 rk0) (HDT s su0 rk0) (hitT su0 rk0) l c m = MT s su0 rk0 0 false (loopT s su0 rk0 .ready none) c' m')
  | [], c, m => .inr ⟨rfl, c, m, rfl⟩
  | (su, q) :: r, c, m => by
    simp only [rowsR, atRows]
    rcases rowT s su0 rk0 su q q 0 c m with ⟨h0, h1, h2, m', h3⟩ | ⟨h1, h3⟩
    · rw [h3, if_pos ⟨h0, h1, by omega⟩]
      exact .inl ⟨c + rk0, m' + 1, rfl, by simp [HDT]⟩
    · rw [h3, if_neg (fun hh => h1 ⟨hh.1, hh.2.1, by omega⟩)]
      exact rowsT s su0 rk0 r (c + q) (m + q)

noncomputable def atV (x : Option Int) : Value :=
  match x with
  | some n => .tuple #[.int .i64 n, .bool true]
  | none => .tuple #[.int .i64 0, .bool false]

/-- The memory when the loop begins. -/
noncomputable def startT (s : SV) (su rk : Int) : AH := ⟨10, [(9, loopT s su rk .ready none), (8, .defd), (7, .cells false s.boxL), (6, .cells false [.bool false]), (5, .cells false [.int .i64 0]), (4, .cells false [.int .i64 rk]), (3, .cells false [.int .i64 su]), (2, .cells false s.boxL), (1, .ints s.h), (0, .ints s.g)]⟩

set_option maxRecDepth 10000 in
set_option maxHeartbeats 8000000 in
theorem at_ev (call : Value → List Value → AH → Option (Value × AH)) (s : SV) (su rk : Int)
    (h87 : ∀ (H : AH), lookB H.bs 0 = some (.ints s.g) → lookB H.bs 1 = some (.ints s.h) → call (.func (.func 58) #[] #[]) [s.val] H = some (.func (.func 86) #[] #[.pointer (some ⟨H.next, 0, none⟩)], pushB H (.cells false s.boxL)))
    (h111 : call (.func (.func 86) #[] #[.pointer (some ⟨7, 0, none⟩)]) [.func (.yield 9) #[] #[]] (startT s su rk) = some (.tuple #[], rowsR (MrT s su rk) (HDT s su rk) (hitT su rk) s.rows 0 0)) :
    ∃ H', evFn (tabT Try.prog) call 300 kpT 69 Try.f69 [s.val, .int .i64 su, .int .i64 rk] s.hp = some (atV (atRows s.rows 0 su rk), H') := by
  have kp := kgAt
  have h := h111
  rcases rowsT s su rk s.rows 0 0 with ⟨n, m', g1, g2⟩ | ⟨g1, c', m', g2⟩
  · rw [g2] at h
    simp only [startT, MT, loopT, codeAt, codeBt, Try.f69, Option.bind_some, rfOf, Option.getD_some, tmT, SV.boxL, SV.val, undef] at h
    simp only [SV.val, SV.boxL] at h87
    simp only [evFn, Try.f69, SV.val, SV.hp, g1]
    simp [ec_skip, ec_label, ek_reg, ek_draw, ek_seq, ec_cond, ek_block, ec_loop, ec_exit, ec_ret, ec_scope, ek_nil, ek_op, opK_some, regK_some, seqK_normal, seqK_exit, seqK_ret, blockK_normal, blockK_exit, blockK_ret, evOp, vOp, hOpB, hOpU, hOp, hOpT, aAppendG_tab, aWanted, aYielded, opd, putT, closedV, aBin, intOp, sameK, mapO, joinR, hasAddr, boundOf, pushB, aAlloc, Value.cells, lookB, setB, Nat.beq_eq, tm_n_set, tm_get_set, tm_of_n, tm_of_get, tm_tr_set, tm_tr_of, cellV, putF, appR_eq, takeR_eq, dropR_eq, setR_eq, getR_eq, ↓C75, ↓C76, ↓C77, ↓C79, ↓C17, ↓C18, ↓C22, ↓C71, FA24_0, FA24_1, FA24_2, FA24_3, FA24_4, FA24_5, FA24_6, FA24_7, FA24_8, LD3, LD4, LD22, LD27, LDr, LD24, LEN22, IA22, tkc, cellAt, ↓AL3, ↓AL4, ↓Ckinds, h87, ec_range, evRange, h, finF, takeM, resV, LD43, ST3k, STb, dropB, cleanedG, kp, below, atV]
  · rw [g2] at h
    simp only [startT, MT, loopT, codeAt, codeBt, Try.f69, Option.bind_some, rfOf, Option.getD_some, tmT, SV.boxL, SV.val, undef] at h
    simp only [SV.val, SV.boxL] at h87
    simp only [evFn, Try.f69, SV.val, SV.hp, g1]
    simp [ec_skip, ec_label, ek_reg, ek_draw, ek_seq, ec_cond, ek_block, ec_loop, ec_exit, ec_ret, ec_scope, ek_nil, ek_op, opK_some, regK_some, seqK_normal, seqK_exit, seqK_ret, blockK_normal, blockK_exit, blockK_ret, evOp, vOp, hOpB, hOpU, hOp, hOpT, aAppendG_tab, aWanted, aYielded, opd, putT, closedV, aBin, intOp, sameK, mapO, joinR, hasAddr, boundOf, pushB, aAlloc, Value.cells, lookB, setB, Nat.beq_eq, tm_n_set, tm_get_set, tm_of_n, tm_of_get, tm_tr_set, tm_tr_of, cellV, putF, appR_eq, takeR_eq, dropR_eq, setR_eq, getR_eq, ↓C75, ↓C76, ↓C77, ↓C79, ↓C17, ↓C18, ↓C22, ↓C71, FA24_0, FA24_1, FA24_2, FA24_3, FA24_4, FA24_5, FA24_6, FA24_7, FA24_8, LD3, LD4, LD22, LD27, LDr, LD24, LEN22, IA22, tkc, cellAt, ↓AL3, ↓AL4, ↓Ckinds, h87, ec_range, evRange, h, finF, takeM, resV, LD43, ST3k, STb, dropB, cleanedG, kp, below, atV]
theorem at_start (s : SV) (su0 rk0 : Int) (hs : s.Small) : inH M7 (.func (.func 86) #[] #[.pointer (some ⟨7, 0, none⟩)]) [.func (.yield 9) #[] #[]] (startT s su0 rk0) = some (.tuple #[], rowsR (MrT s su0 rk0) (HDT s su0 rk0) (hitT su0 rk0) s.rows 0 0) := by
  unfold inH
  rw [call_fn F111 (M7_cl _ _ _ _ _)]
  refine kinds_evt _ s hs (startT s su0 rk0) (MrT s su0 rk0) (HDT s su0 rk0) (hitT su0 rk0) (fun c m => ?_) (fun c m => ?_) rfl rfl (fun su q c m hq hc hcq => ?_)
  · simp [MrT, MT, lookB, Nat.beq_eq]
  · simp [MrT, MT, lookB, Nat.beq_eq]
  · unfold cl112t
    rw [call_fn F112 (M7_cl _ _ _ _ _)]
    refine row_evt _ (MrT s su0 rk0) (HDT s su0 rk0 su q) (hitT su0 rk0 su q) su q c m (fun c m => ?_) (fun c m => ?_) (fun c m c' => ?_) (fun c r m => ?_) hq hc hcq
    · simp [MrT, MT, lookB, Nat.beq_eq]
    · simp [MrT, MT, lookB, Nat.beq_eq]
    · simp [MrT, MT, setB, Nat.beq_eq]
    · rw [call_yield (M7_y _ _ _)]
      exact yield_at (evCall (tabT Try.prog) (tabF Try.prog) 300 kpT M7 5) s su0 rk0 c su r q m

noncomputable def ansAt : List Value → AH → Option Value
  | [v, .int .i64 su, .int .i64 rk], H => match seeSet v H with
    | some s => if s.err = 0 then some (atV (atRows s.rows 0 su rk)) else none
    | none => none
  | _, _ => none

theorem atV_closed (x : Option Int) : closedV 5 (atV x) = true := by
  cases x <;> rfl

theorem ok89 : AnsOK (runH M7) 69 ansAt := by
  intro cargs Hc v hv
  unfold ansAt at hv
  split at hv
  · rename_i su rk
    split at hv
    · rename_i s hs
      obtain ⟨rfl, rfl⟩ := seeSet_spec hs
      split at hv
      · rename_i he
        cases hv
        refine ⟨atV_closed _, fun _ => ?_⟩
        obtain ⟨H', h⟩ := at_ev (inH M7) s su rk (fun H _ _ => by unfold inH; rw [call_fn F87 (M7_87 _ _)]; exact kinds87_ev _ s H) (at_start s su rk (small_of_err he))
        exact ⟨H', runH_fn F89 rfl h⟩
      · cases hv
    · cases hv
  · cases hv

theorem canH_sii {f : FuncId} {ans : List Value → AH → Option Value} {s : SV} {k l : Int} {H : AH} (h0 : lookB H.bs 0 = some (.ints s.g)) (h1 : lookB H.bs 1 = some (.ints s.h)) :
    canH f ans (.func (.func f) #[] #[]) [s.val, .int .i64 k, .int .i64 l] H = (ans [s.val, .int .i64 k, .int .i64 l] s.hp).map (·, H) := by
  simp [canH, canon, canonL, canonV, idOf, idxOf, SV.val, canonB, h0, h1, SV.hp]
  generalize ans _ _ = x
  cases x <;> rfl

theorem canH_siii {f : FuncId} {ans : List Value → AH → Option Value} {s : SV} {k l m : Int} {H : AH} (h0 : lookB H.bs 0 = some (.ints s.g)) (h1 : lookB H.bs 1 = some (.ints s.h)) :
    canH f ans (.func (.func f) #[] #[]) [s.val, .int .i64 k, .int .i64 l, .int .i64 m] H = (ans [s.val, .int .i64 k, .int .i64 l, .int .i64 m] s.hp).map (·, H) := by
  simp [canH, canon, canonL, canonV, idOf, idxOf, SV.val, canonB, h0, h1, SV.hp]
  generalize ans _ _ = x
  cases x <;> rfl


end

end Go.Proofs.Ytjginpeoblilpaa
