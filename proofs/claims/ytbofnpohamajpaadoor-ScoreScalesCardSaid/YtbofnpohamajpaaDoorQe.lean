/-
  What is proved: the law's body ends with true for every list of numbers, every number of minor points and every value.
-/
import Derived.Test.YtbofnpohamajpaaDoorQd
namespace Go.Proofs.YtbofnpohamajpaaDoor
open Go.RowKit
set_option linter.unusedSimpArgs false
set_option linter.unusedVariables false

theorem NAT5 : ((tabT Tryd.prog) 22).map (fun z => (z.ex.nat 5, z.ex.mnz 5)) = some (none, none) := by kernel_rfl
theorem NAT4 : ((tabT Tryd.prog) 27).map (fun z => (z.ex.nat 4, z.ex.mnz 4)) = some (none, none) := by kernel_rfl
theorem CALL5 (call : Value → List Value → AH → Option (Value × AH)) {tm : Tm} {k : Nat} {H : AH} {d : Option Tmp} {t : TypeId} {p : String} {a : Array Edge} {gd : Option (Nat × Bool)} : evOp (tabT Tryd.prog) call ⟨d, .call ⟨.value (.func 5), #[.tmp k], #[22]⟩, t, p, a, gd⟩ (opd tm) H = call (.func (.func 5) #[] #[]) [tm.get k] H :=
  evOp_evO.trans (eo_call1 rfl rfl NAT5)
theorem CALL4 (call : Value → List Value → AH → Option (Value × AH)) {tm : Tm} {k : Nat} {H : AH} {d : Option Tmp} {t : TypeId} {p : String} {a : Array Edge} {gd : Option (Nat × Bool)} : evOp (tabT Tryd.prog) call ⟨d, .call ⟨.value (.func 4), #[.tmp k], #[27]⟩, t, p, a, gd⟩ (opd tm) H = call (.func (.func 4) #[] #[]) [tm.get k] H :=
  evOp_evO.trans (eo_call1 rfl rfl NAT4)

set_option maxRecDepth 10000 in
set_option maxHeartbeats 8000000 in
theorem body_core (call : Value → List Value → AH → Option (Value × AH)) (L : Nat) {u0 : Value} {ks : List Value} {x : Int} {b : Int} {d : Bool} {u : Value} {r : Int} {n : Nat} {cs : List Value} {H1 : AH} (mi0 v0 : Int)
    (h5 : call (.func (.func 5) #[] #[]) [u0] ⟨1, [(0, .cells true ks)]⟩ = some (.pointer (some ⟨1, 0, none⟩), HS ks x))
    (h4 : call (.func (.func 4) #[] #[]) [.pointer (some ⟨1, 0, none⟩)] (HS ks x) = some (.agg ⟨[.int .i64 b, .bool d, u, .int .i64 r]⟩, H1))
    (hI1 : ∀ (n : Int) (H : AH), call (.func (.func 6) #[] #[]) [.int .i64 n, .int .i64 1000] H = some (.int .i64 (intoX n 1000), H))
    (hI2 : ∀ (n : Int) (H : AH), call (.func (.func 6) #[] #[]) [.int .i64 n, .int .i64 60] H = some (.int .i64 (intoX n 60), H))
    (hok : ScaleOK H1 b u r n cs) {sc : Value} (hu : cellV u = true)
    (hP : ∀ mi v : Int, call (.func (.func 7) #[] #[]) [.agg #[.int .i64 b, .bool d, u, .int .i64 r], .int .i64 mi, .int .i64 v] ⟨H1.next + 1, (H1.next, .cells false [.int .i64 b, .bool d, u, .int .i64 r]) :: H1.bs⟩ = some (.int .i64 (pts b d r n cs mi v), ⟨H1.next + 1, (H1.next, .cells false [.int .i64 b, .bool d, u, .int .i64 r]) :: H1.bs⟩))
    (h8 : ∀ H : AH, call (.func (.func 8) #[] #[]) [] H = some (.bool true, H)) :
    ∃ H', evFn (tabT Tryd.prog) call L kpT 3 Tryd.f3 [u0, .int .i64 mi0, .int .i64 v0] ⟨1, [(0, .cells true ks)]⟩ = some (.bool true, H') := by
  obtain ⟨hcs, herr, hn, hM, hlim⟩ := hok
  obtain ⟨m0, m1⟩ := intoX_range mi0 1000 (by omega) (by omega)
  obtain ⟨v1, v2⟩ := intoX_range v0 60 (by omega) (by omega)
  have w1 : wrapI .i64 (intoX mi0 1000 + 1) = intoX mi0 1000 + 1 := wrapI_small (by omega) (by omega)
  have w2 : wrapI .i64 (intoX v0 60 + 1) = intoX v0 60 + 1 := wrapI_small (by omega) (by omega)
  obtain ⟨p0, p1⟩ := pts_le (d := d) herr m0 (show intoX mi0 1000 ≤ 1000 by omega) v1 (show intoX v0 60 ≤ 1073741824 by omega)
  have p2 := pts_mono (d := d) herr m0 (show intoX mi0 1000 ≤ 1000 by omega) (Int.le_refl _) v1 (show intoX v0 60 + 1 ≤ 1073741824 by omega) (show intoX v0 60 ≤ intoX v0 60 + 1 by omega)
  have p3 := pts_mono (d := d) herr m0 (show intoX mi0 1000 + 1 ≤ 1000 by omega) (show intoX mi0 1000 ≤ intoX mi0 1000 + 1 by omega) v1 (show intoX v0 60 ≤ 1073741824 by omega) (Int.le_refl _)
  unfold mostP at p1
  simp only [evFn, Tryd.f3]
  rcases hlim with ⟨rfl, rfl⟩ | ⟨i, rfl, hn0, hl⟩
  · simp only [Nat.lt_irrefl, if_false] at p1
    simp [ec_skip, ec_label, ek_reg, ek_draw, ek_seq, ec_cond, ek_block, ec_loop, ec_exit, ec_ret, ec_scope, ek_nil, ek_op, opK_some, regK_some, seqK_normal, seqK_exit, seqK_ret, blockK_normal, blockK_exit, blockK_ret, evOp, vOp, hOpB, hOpU, hOp, hOpT, aWanted, aYielded, opd, putT, closedV, aBin, intOp, sameK, mapO, joinR, hasAddr, boundOf, pushB, aAlloc, Value.cells, lookB, setB, Nat.beq_eq, tm_n_set, tm_get_set, tm_of_n, tm_of_get, tm_tr_set, tm_tr_of, cellV, putF, appR_eq, takeR_eq, dropR_eq, setR_eq, getR_eq, LD3, LD4, LD22, LD24, LD33, LD37, FA24_0, FA24_1, FA24_2, FA24_3, FA33_0, FA33_1, FA39_0, LEN22, LENI, ST33, ST37, ST23, ST25, ↓AL33, ↓AL25, tkc, lookB_setB, ↓CALL5, ↓CALL4, finF, takeM, resV, h5, h4, hI1, hI2, hP, h8, w1, w2, p0, p1, p2, p3]
  · rw [if_pos hn0] at p1
    have hn0' : (0 : Int) < n := by omega
    have ni : ¬ i = H1.next := by have := lookB_lt hM hl; omega
    have w3 : wrapI .i64 ((n : Int) - 1) = ((n - 1 : Nat) : Int) := by rw [wrapI_small (by omega) (by omega)]; omega
    have hix := IX22 i 0 n 2 (n - 1) (by omega)
    have c1 := okC_at hcs (j := (n - 1) * 2 + 1) (by omega)
    simp [ec_skip, ec_label, ek_reg, ek_draw, ek_seq, ec_cond, ek_block, ec_loop, ec_exit, ec_ret, ec_scope, ek_nil, ek_op, opK_some, regK_some, seqK_normal, seqK_exit, seqK_ret, blockK_normal, blockK_exit, blockK_ret, evOp, vOp, hOpB, hOpU, hOp, hOpT, aWanted, aYielded, opd, putT, closedV, aBin, intOp, sameK, mapO, joinR, hasAddr, boundOf, pushB, aAlloc, Value.cells, lookB, setB, Nat.beq_eq, tm_n_set, tm_get_set, tm_of_n, tm_of_get, tm_tr_set, tm_tr_of, cellV, putF, appR_eq, takeR_eq, dropR_eq, setR_eq, getR_eq, LD3, LD4, LD22, LD24, LD33, LD37, FA24_0, FA24_1, FA24_2, FA24_3, FA33_0, FA33_1, FA39_0, LEN22, LENI, ST33, ST37, ST23, ST25, ↓AL33, ↓AL25, tkc, lookB_setB, ↓CALL5, ↓CALL4, finF, takeM, resV, h5, h4, hI1, hI2, hP, h8, w1, w2, w3, p0, p1, p2, p3, hn0, hn0', hix, hl, c1, ni]

theorem bel_at (L k : Nat) : BelOK (evCall (tabT Tryd.prog) (tabF Tryd.prog) (L + 4) kpT S5 (k + 1)) 11 := fun i n x H h1 h2 hM hi => (evCall_fn F11 (S5_11 _ _)).trans (below_ev _ _ h1 h2 hM hi)
theorem ran_at (L k : Nat) : RanOK (evCall (tabT Tryd.prog) (tabF Tryd.prog) (L + 4) kpT S5 (k + 1 + 1)) 9 := fun i lo hi x H h0 h1 h2 hM hs => (evCall_fn F9 (S5_9 _ _)).trans (range_ev _ (bel_at L k) _ h0 h1 h2 hM hs)
theorem odd_at (L k : Nat) : OddOK (evCall (tabT Tryd.prog) (tabF Tryd.prog) (L + 4) kpT S5 (k + 1 + 1)) 10 := fun i n x H h1 h2 hM hs => (evCall_fn F10 (S5_10 _ _)).trans (odds_ev _ (bel_at L k) _ h1 h2 hM hs)

theorem intV_len (n : Nat) : aLen (tabT Tryd.prog) 22 (intV n) = some (.int .i64 n) := by
  cases n with
  | zero => exact LENI _ 0 _
  | succ n => exact LENI _ (n + 1) _
theorem intV_ix (n k : Nat) (h : k < n) : aIndexAddr (tabT Tryd.prog) 22 (intV n) (.int .i64 (k : Int)) = some (.pointer (some ⟨0, k, none⟩)) := by
  cases n with
  | zero => omega
  | succ n =>
    show aIndexAddr (tabT Tryd.prog) 22 (.slice (some ⟨0, 0, none⟩) (n + 1) 1) (.int .i64 (k : Int)) = _
    simpa using IXI 0 0 (n + 1) 1 k h

theorem body_ev (L : Nat) {m : Nat} {ks : List Value} (hm : m < L + 4) (hmx : m ≤ 9223372036854775807) (hks : okC ks m = true) (mi0 v0 : Int) :
    ∃ H', evFn (tabT Tryd.prog) (evCall (tabT Tryd.prog) (tabF Tryd.prog) (L + 4) kpT S5 (57 + 1 + 1 + 1)) (L + 4) kpT 3 Tryd.f3 [intV m, .int .i64 mi0, .int .i64 v0] ⟨1, [(0, .cells true ks)]⟩ = some (.bool true, H') := by
  obtain ⟨x, h5⟩ := newSource_ev (evCall (tabT Tryd.prog) (tabF Tryd.prog) (L + 4) kpT S5 (57 + 1 + 1)) hm hmx hks (intV_len m) (intV_ix m)
  obtain ⟨b, d, u, r, n, cs, H1, h4, hok⟩ := scaleOf_ev (evCall (tabT Tryd.prog) (tabF Tryd.prog) (L + 4) kpT S5 (57 + 1 + 1)) (bel_at L 58) (ran_at L 57) (odd_at L 57) L x ks
  have hok' := hok
  obtain ⟨hcs, herr, hn, hM, hlim⟩ := hok'
  have hu : cellV u = true := by
    rcases hlim with ⟨_, rfl⟩ | ⟨i, rfl, _, _⟩ <;> rfl
  have hcs0 : n = 0 → cs = [] := fun e => by subst e; exact okC_nil hcs
  refine body_core _ _ mi0 v0 ((evCall_fn F5 (S5_5 _ _)).trans h5) ((evCall_fn F4 (S5_4 _ _)).trans h4)
    (fun n H => evCall_hd (orH_l (canI 6 n 1000 H (by omega)))) (fun n H => evCall_hd (orH_l (canI 6 n 60 H (by omega)))) hok (sc := u) hu
    (fun mi v => evCall_hd (orH_r (canH_ne (by decide)) (orH_l (canP hcs ?_ hn 7))))
    (fun H => evCall_hd (orH_r (canH_ne (by decide)) (orH_r (canH_ne (by decide)) (awake8 H))))
  rcases hlim with ⟨rfl, rfl⟩ | ⟨i, rfl, h0, hl⟩
  · exact .inl ⟨rfl, rfl, hcs0 rfl⟩
  · refine .inr ⟨i, false, rfl, h0, ?_⟩
    have ni : ¬ i = H1.next := by have := lookB_lt hM hl; omega
    simp [lookB, Nat.beq_eq, ni, hl]

end Go.Proofs.YtbofnpohamajpaaDoor
