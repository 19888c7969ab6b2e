/-
  What is proved: ScaleOf makes a scale without an error, with at most three limits.
-/
import Derived.Test.YtbofnpohamajpaaDoorQa
import Derived.Test.YtbofnpohamajpaaDoorPm
namespace Go.Proofs.YtbofnpohamajpaaDoor
open Go.RowKit
set_option linter.unusedSimpArgs false
set_option linter.unusedVariables false

theorem BD25 (a : Int) (d : Bool) (r : Int) : aBuild (tabT Tryd.prog) 25 [(0, .int .i64 a), (1, .bool d), (3, .int .i64 r)] = some (.agg #[.int .i64 a, .bool d, .slice none 0 0, .int .i64 r]) := by kernel_rfl
theorem BD32 (a b : Int) : aBuild (tabT Tryd.prog) 32 [(0, .int .i64 a), (1, .int .i64 b)] = some (.agg #[.int .i64 a, .int .i64 b]) := by kernel_rfl
theorem BS22 (H : AH) : aBuildSlice (tabT Tryd.prog) H 22 3 [(0, .int .i64 1), (1, .int .i64 10), (2, .int .i64 100)] = some (.slice (some ⟨H.next, 0, none⟩) 3 1, pushB H (.cells false [.int .i64 1, .int .i64 10, .int .i64 100])) := by kernel_rfl
theorem BS23 (H : AH) (a b : Int) : aBuildSlice (tabT Tryd.prog) H 23 1 [(0, .agg #[.int .i64 a, .int .i64 b])] = some (.slice (some ⟨H.next, 0, none⟩) 1 2, pushB H (.cells false [.int .i64 a, .int .i64 b])) := by kernel_rfl
theorem IXI (i off n sz k : Nat) (h : k < n) : aIndexAddr (tabT Tryd.prog) 22 (.slice (some ⟨i, off, none⟩) n sz) (.int .i64 (k : Int)) = some (.pointer (some ⟨i, off + k * 1, none⟩)) := ixa (e := 3) (by kernel_rfl) (by kernel_rfl) i off n sz k h
theorem APT (H : AH) (u v : Value) : aAppendT (tabT Tryd.prog) H 23 23 u v = none := by kernel_rfl
theorem apr {T : TypeId → Option TI} {t e : TypeId} {z b : Nat} (h1 : (T t).map (·.desc) = some (.slice e)) (h2 : (T e).map (fun y => (y.size, y.bytes)) = some (z, b)) (H : AH) (s x : Value) :
    aAppend T H t s x = match sliceLen x, sliceLen s with
    | some 0, some _ => some (s, H)
    | some (m + 1), some _ => (match srcCells H.bs x z, dstCells H.bs s z with
      | some news, some (olds, n, bs') =>
        if Nat.ble ((n + (m + 1)) * b) 1000000000000 && Nat.ble (n + (m + 1)) 1000000000000 && news.all cellV then
          some (.slice (some ⟨H.next, 0, none⟩) (n + (m + 1)) z, { next := H.next + 1, bs := (H.next, .cells false (olds ++ news)) :: bs' })
        else none
      | _, _ => none)
    | _, _ => none := by
  obtain ⟨_, _, _, _, ht⟩ := tdesc h1
  cases he : T e with
  | none => rw [he] at h2; cases h2
  | some y =>
    rw [he] at h2
    simp only [Option.map_some, Option.some.injEq, Prod.mk.injEq] at h2
    obtain ⟨rfl, rfl⟩ := h2
    simp only [aAppend, ht, he]
    cases sliceLen x with
    | none => rfl
    | some m => cases m <;> cases sliceLen s <;> rfl
theorem AP23 (H : AH) (s x : Value) : aAppend (tabT Tryd.prog) H 23 s x = match sliceLen x, sliceLen s with
    | some 0, some _ => some (s, H)
    | some (m + 1), some _ => (match srcCells H.bs x 2, dstCells H.bs s 2 with
      | some news, some (olds, n, bs') =>
        if Nat.ble ((n + (m + 1)) * 16) 1000000000000 && Nat.ble (n + (m + 1)) 1000000000000 && news.all cellV then
          some (.slice (some ⟨H.next, 0, none⟩) (n + (m + 1)) 2, { next := H.next + 1, bs := (H.next, .cells false (olds ++ news)) :: bs' })
        else none
      | _, _ => none)
    | _, _ => none := apr (e := 32) (by kernel_rfl) (by kernel_rfl) H s x
theorem kp4 : kpT 4 = false := by kernel_rfl
theorem wl0 : wrapI .i64 0 = 0 := wrapI_small (by omega) (by omega)
theorem wl1 : wrapI .i64 1 = 1 := wrapI_small (by omega) (by omega)
theorem wl2 : wrapI .i64 2 = 2 := wrapI_small (by omega) (by omega)

/-- Whether a source lies there, and its state. -/
def isSrc (bs : List (Nat × ABlk)) (i : Nat) : Bool := match lookB bs i with
  | some (.cells false [.int .u64 _]) => true
  | _ => false
def srcOf (bs : List (Nat × ABlk)) (i : Nat) : Int := match lookB bs i with
  | some (.cells false [.int .u64 x]) => x
  | _ => 0
theorem isSrc_look {bs : List (Nat × ABlk)} {i : Nat} (h : isSrc bs i = true) : lookB bs i = some (.cells false [.int .u64 (srcOf bs i)]) := by
  unfold isSrc at h
  unfold srcOf
  split at h
  · rename_i x hx; rw [hx]
  · cases h
def miB (H : AH) : Bool := match H.bs with
  | [] => true
  | (i, _) :: _ => Nat.blt i H.next
/-- The same, told by a computation. -/
theorem mi_of {H : AH} (h1 : decrK H.bs = true) (h2 : miB H = true) : MI H := by
  refine ⟨h1, ?_⟩
  obtain ⟨nx, bs⟩ := H
  simp only [miB] at h2
  simp only at h1 ⊢
  have go : ∀ (l : List (Nat × ABlk)) (m : Nat), decrK l = true → (∀ i k r, l = (i, k) :: r → i < m) → ∀ p ∈ l, p.1 < m := by
    intro l
    induction l with
    | nil => intro m _ _ p hp; cases hp
    | cons q r ih =>
      intro m hd hm p hp
      obtain ⟨i, k⟩ := q
      have hi := hm i k r rfl
      rcases List.mem_cons.1 hp with rfl | hp
      · exact hi
      · cases r with
        | nil => cases hp
        | cons q' r' =>
          obtain ⟨j, k'⟩ := q'
          simp only [decrK, Bool.and_eq_true] at hd
          have hj : j < i := by simpa [Nat.blt_eq] using hd.1
          exact ih m hd.2 (fun a b c e => by cases e; omega) p hp
  exact go bs nx h1 fun i k r e => by subst e; simpa [Nat.blt_eq] using h2
/-- A call by another name. -/
def callX (call : Value → List Value → AH → Option (Value × AH)) : Value → List Value → AH → Option (Value × AH) := call
noncomputable def srcB (H : AH) (i : Nat) : Bool := decrK H.bs && miB H && isSrc H.bs i
theorem srcB_spec {H : AH} {i : Nat} (h : srcB H i = true) : MI H ∧ lookB H.bs i = some (.cells false [.int .u64 (srcOf H.bs i)]) := by
  simp only [srcB, Bool.and_eq_true] at h
  exact ⟨mi_of h.1.1 h.1.2, isSrc_look h.2⟩
theorem BelOK.at (call : Value → List Value → AH → Option (Value × AH)) {f : FuncId} (h : BelOK call f) (i : Nat) (n : Int) (H : AH) :
    call (.func (.func f) #[] #[]) [.pointer (some ⟨i, 0, none⟩), .int .i64 n] H = if 1 ≤ n ∧ n ≤ 4611686018427387904 ∧ srcB H i = true then some (.int .i64 (belX (srcOf H.bs i) n), ⟨H.next, setB H.bs i (.cells false [.int .u64 (nxtX (srcOf H.bs i))])⟩) else callX call (.func (.func f) #[] #[]) [.pointer (some ⟨i, 0, none⟩), .int .i64 n] H := by
  split
  · rename_i hc
    obtain ⟨hM, hl⟩ := srcB_spec hc.2.2
    exact h i n _ H hc.1 hc.2.1 hM hl
  · rfl
theorem RanOK.at (call : Value → List Value → AH → Option (Value × AH)) {f : FuncId} (h : RanOK call f) (i : Nat) (lo hi : Int) (H : AH) :
    call (.func (.func f) #[] #[]) [.pointer (some ⟨i, 0, none⟩), .int .i64 lo, .int .i64 hi] H = if 0 ≤ lo ∧ lo ≤ hi ∧ hi ≤ 1000000 ∧ srcB H i = true then some (.int .i64 (lo + belX (srcOf H.bs i) (hi - lo + 1)), ⟨H.next, setB H.bs i (.cells false [.int .u64 (nxtX (srcOf H.bs i))])⟩) else callX call (.func (.func f) #[] #[]) [.pointer (some ⟨i, 0, none⟩), .int .i64 lo, .int .i64 hi] H := by
  split
  · rename_i hc
    obtain ⟨hM, hl⟩ := srcB_spec hc.2.2.2
    exact h i lo hi _ H hc.1 hc.2.1 hc.2.2.1 hM hl
  · rfl
theorem OddOK.at (call : Value → List Value → AH → Option (Value × AH)) {f : FuncId} (h : OddOK call f) (i : Nat) (n : Int) (H : AH) :
    call (.func (.func f) #[] #[]) [.pointer (some ⟨i, 0, none⟩), .int .i64 n] H = if 1 ≤ n ∧ n ≤ 1000000 ∧ srcB H i = true then some (.bool (belX (srcOf H.bs i) n == 0), ⟨H.next, setB H.bs i (.cells false [.int .u64 (nxtX (srcOf H.bs i))])⟩) else callX call (.func (.func f) #[] #[]) [.pointer (some ⟨i, 0, none⟩), .int .i64 n] H := by
  split
  · rename_i hc
    obtain ⟨hM, hl⟩ := srcB_spec hc.2.2
    exact h i n _ H hc.1 hc.2.1 hM hl
  · rfl

/-- A scale without an error, and where its limits lie. -/
def ScaleOK (H : AH) (b : Int) (u : Value) (r : Int) (n : Nat) (cs : List Value) : Prop :=
  okC cs (2 * n) = true ∧ scErr b r n cs = 0 ∧ n ≤ 200 ∧ MI H ∧ ((n = 0 ∧ u = .slice none 0 0) ∨ ∃ i, u = .slice (some ⟨i, 0, none⟩) n 2 ∧ 0 < n ∧ lookB H.bs i = some (.cells false cs))

set_option maxRecDepth 10000 in
set_option maxHeartbeats 8000000 in
theorem scaleOf_ev (call : Value → List Value → AH → Option (Value × AH)) (hB : BelOK call 11) (hR : RanOK call 9) (hO : OddOK call 10) (L : Nat) (x : Int) (ks : List Value) :
    ∃ b d u r n cs H', evFn (tabT Tryd.prog) call (L + 4) kpT 4 Tryd.f4 [.pointer (some ⟨1, 0, none⟩)] (HS ks x) = some (scV b d u r, H') ∧ ScaleOK H' b u r n cs := by
  have hB := hB.at
  have hR := hR.at
  have hO := hO.at
  obtain ⟨b, hb, b0, b1⟩ : ∃ b, belX x 20 = b ∧ 0 ≤ b ∧ b < 20 := ⟨_, rfl, belX_range _ _ (by omega) (by omega)⟩
  obtain ⟨d, hd⟩ : ∃ d, (belX (nxtX x) 2 == 0) = d := ⟨_, rfl⟩
  obtain ⟨k, h3k, k3⟩ : ∃ k : Nat, belX (nxtX (nxtX x)) 3 = (k : Int) ∧ k < 3 := by
    have := belX_range (nxtX (nxtX x)) 3 (by omega) (by omega)
    exact ⟨(belX (nxtX (nxtX x)) 3).toNat, by omega, by omega⟩
  obtain ⟨r, hk, hr⟩ : ∃ r, ([.int .i64 1, .int .i64 10, .int .i64 100] : List Value)[k]? = some (.int .i64 r) ∧ 1 ≤ r ∧ r ≤ 10000 := by
    have : k = 0 ∨ k = 1 ∨ k = 2 := by omega
    rcases this with rfl | rfl | rfl
    · exact ⟨1, rfl, by omega⟩
    · exact ⟨10, rfl, by omega⟩
    · exact ⟨100, rfl, by omega⟩
  have hix := IXI 3 0 3 1 k k3
  have wb : wrapI .i64 (1 + b) = 1 + b := wrapI_small (by omega) (by omega)
  obtain ⟨a0, ha0, a00, a01⟩ : ∃ a, belX (nxtX (nxtX (nxtX (nxtX x)))) 6 = a ∧ 0 ≤ a ∧ a < 6 := ⟨_, rfl, belX_range _ _ (by omega) (by omega)⟩
  obtain ⟨c0, hc0, c00, c01⟩ : ∃ a, belX (nxtX (nxtX (nxtX (nxtX (nxtX x))))) 2000 = a ∧ 0 ≤ a ∧ a < 2000 := ⟨_, rfl, belX_range _ _ (by omega) (by omega)⟩
  obtain ⟨a1, ha1, a10, a11⟩ : ∃ a, belX (nxtX (nxtX (nxtX (nxtX (nxtX (nxtX x)))))) 6 = a ∧ 0 ≤ a ∧ a < 6 := ⟨_, rfl, belX_range _ _ (by omega) (by omega)⟩
  obtain ⟨c1, hc1, c10, c11⟩ : ∃ a, belX (nxtX (nxtX (nxtX (nxtX (nxtX (nxtX (nxtX x))))))) 2000 = a ∧ 0 ≤ a ∧ a < 2000 := ⟨_, rfl, belX_range _ _ (by omega) (by omega)⟩
  obtain ⟨a2, ha2, a20, a21⟩ : ∃ a, belX (nxtX (nxtX (nxtX (nxtX (nxtX (nxtX (nxtX (nxtX x)))))))) 6 = a ∧ 0 ≤ a ∧ a < 6 := ⟨_, rfl, belX_range _ _ (by omega) (by omega)⟩
  obtain ⟨c2, hc2, c20, c21⟩ : ∃ a, belX (nxtX (nxtX (nxtX (nxtX (nxtX (nxtX (nxtX (nxtX (nxtX x))))))))) 2000 = a ∧ 0 ≤ a ∧ a < 2000 := ⟨_, rfl, belX_range _ _ (by omega) (by omega)⟩
  have wf0 : wrapI .i64 (1 + a0) = 1 + a0 := wrapI_small (by omega) (by omega)
  have wp0 : wrapI .i64 (c0) = c0 := wrapI_small (by omega) (by omega)
  have wf1 : wrapI .i64 (1 + a0 + (1 + a1)) = 1 + a0 + (1 + a1) := wrapI_small (by omega) (by omega)
  have wp1 : wrapI .i64 (c0 + c1) = c0 + c1 := wrapI_small (by omega) (by omega)
  have wf2 : wrapI .i64 (1 + a0 + (1 + a1) + (1 + a2)) = 1 + a0 + (1 + a1) + (1 + a2) := wrapI_small (by omega) (by omega)
  have wp2 : wrapI .i64 (c0 + c1 + c2) = c0 + c1 + c2 := wrapI_small (by omega) (by omega)
  have hz4 := belX_range (nxtX (nxtX (nxtX x))) 4 (by omega) (by omega)
  have hz5 : belX (nxtX (nxtX (nxtX x))) 4 = 0 ∨ belX (nxtX (nxtX (nxtX x))) 4 = 1 ∨ belX (nxtX (nxtX (nxtX x))) 4 = 2 ∨ belX (nxtX (nxtX (nxtX x))) 4 = 3 := by omega
  rcases hz5 with hz | hz | hz | hz
  · have hrun : ∃ H, evFn (tabT Tryd.prog) call (L + 4) kpT 4 Tryd.f4 [.pointer (some ⟨1, 0, none⟩)] (HS ks x) = some (.agg ⟨[.int .i64 (1 + b), .bool d, .slice none 0 0, .int .i64 r]⟩, H) ∧ decrK H.bs = true ∧ miB H = true := by
      simp only [evFn, Tryd.f4, HS]
      simp [ec_skip, ec_label, ek_reg, ek_draw, ek_seq, ec_cond, ek_block, ec_loop, ec_exit, ec_ret, ec_scope, ek_nil, ek_op, opK_some, regK_some, seqK_normal, seqK_exit, seqK_ret, blockK_normal, blockK_exit, blockK_ret, evOp, vOp, hOpB, hOpU, hOp, hOpT, aWanted, aYielded, opd, putT, closedV, aBin, intOp, sameK, mapO, joinR, hasAddr, boundOf, pushB, aAlloc, Value.cells, lookB, setB, Nat.beq_eq, tm_n_set, tm_get_set, tm_of_n, tm_of_get, tm_tr_set, tm_tr_of, cellV, putF, appR_eq, takeR_eq, dropR_eq, setR_eq, getR_eq, LD3, LD4, LD22, LD24, LD33, LD37, FA24_0, FA24_1, FA24_2, FA24_3, FA33_0, FA33_1, FA39_0, LEN22, LENI, ST33, ST37, ST23, ST25, ↓AL33, ↓AL25, tkc, partsO, BD25, BD32, BS22, BS23, APT, AP23, sliceLen, srcCells, dstCells, dropB, srcB, miB, decrK, Nat.blt_eq, isSrc, srcOf, hB, hR, hO, h3k, hk, hd, hz, wl0, wl1, wl2, hb, hix, wb, ha0, hc0, wf0, wp0, ha1, hc1, wf1, wp1, ha2, hc2, wf2, wp2, finF, takeM, resV, evLoop, runC, cleanedG, gc4, kp4, below]
    obtain ⟨H, h, p1, p2⟩ := hrun
    refine ⟨1 + b, d, _, r, 0, [], H, h, by simp [okC, isI], ?_, by omega, mi_of p1 p2, .inl ⟨rfl, rfl⟩⟩
    simp [scErr, scan, bad, ord, btw, gi]
    omega
  · have hrun : ∃ H, evFn (tabT Tryd.prog) call (L + 4) kpT 4 Tryd.f4 [.pointer (some ⟨1, 0, none⟩)] (HS ks x) = some (.agg ⟨[.int .i64 (1 + b), .bool d, .slice (some ⟨6, 0, none⟩) 1 2, .int .i64 r]⟩, H) ∧ decrK H.bs = true ∧ miB H = true ∧ lookB H.bs 6 = some (.cells false [.int .i64 (1 + a0), .int .i64 c0]) := by
      simp only [evFn, Tryd.f4, HS]
      simp [ec_skip, ec_label, ek_reg, ek_draw, ek_seq, ec_cond, ek_block, ec_loop, ec_exit, ec_ret, ec_scope, ek_nil, ek_op, opK_some, regK_some, seqK_normal, seqK_exit, seqK_ret, blockK_normal, blockK_exit, blockK_ret, evOp, vOp, hOpB, hOpU, hOp, hOpT, aWanted, aYielded, opd, putT, closedV, aBin, intOp, sameK, mapO, joinR, hasAddr, boundOf, pushB, aAlloc, Value.cells, lookB, setB, Nat.beq_eq, tm_n_set, tm_get_set, tm_of_n, tm_of_get, tm_tr_set, tm_tr_of, cellV, putF, appR_eq, takeR_eq, dropR_eq, setR_eq, getR_eq, LD3, LD4, LD22, LD24, LD33, LD37, FA24_0, FA24_1, FA24_2, FA24_3, FA33_0, FA33_1, FA39_0, LEN22, LENI, ST33, ST37, ST23, ST25, ↓AL33, ↓AL25, tkc, partsO, BD25, BD32, BS22, BS23, APT, AP23, sliceLen, srcCells, dstCells, dropB, srcB, miB, decrK, Nat.blt_eq, isSrc, srcOf, hB, hR, hO, h3k, hk, hd, hz, wl0, wl1, wl2, hb, hix, wb, ha0, hc0, wf0, wp0, ha1, hc1, wf1, wp1, ha2, hc2, wf2, wp2, finF, takeM, resV, evLoop, runC, cleanedG, gc4, kp4, below]
    obtain ⟨H, h, p1, p2, p3⟩ := hrun
    refine ⟨1 + b, d, _, r, 1, [.int .i64 (1 + a0), .int .i64 c0], H, h, by simp [okC, isI], ?_, by omega, mi_of p1 p2, .inr ⟨6, rfl, by omega, p3⟩⟩
    simp [scErr, scan, bad, ord, btw, gi]
    omega
  · have hrun : ∃ H, evFn (tabT Tryd.prog) call (L + 4) kpT 4 Tryd.f4 [.pointer (some ⟨1, 0, none⟩)] (HS ks x) = some (.agg ⟨[.int .i64 (1 + b), .bool d, .slice (some ⟨8, 0, none⟩) 2 2, .int .i64 r]⟩, H) ∧ decrK H.bs = true ∧ miB H = true ∧ lookB H.bs 8 = some (.cells false [.int .i64 (1 + a0), .int .i64 c0, .int .i64 (1 + a0 + (1 + a1)), .int .i64 (c0 + c1)]) := by
      simp only [evFn, Tryd.f4, HS]
      simp [ec_skip, ec_label, ek_reg, ek_draw, ek_seq, ec_cond, ek_block, ec_loop, ec_exit, ec_ret, ec_scope, ek_nil, ek_op, opK_some, regK_some, seqK_normal, seqK_exit, seqK_ret, blockK_normal, blockK_exit, blockK_ret, evOp, vOp, hOpB, hOpU, hOp, hOpT, aWanted, aYielded, opd, putT, closedV, aBin, intOp, sameK, mapO, joinR, hasAddr, boundOf, pushB, aAlloc, Value.cells, lookB, setB, Nat.beq_eq, tm_n_set, tm_get_set, tm_of_n, tm_of_get, tm_tr_set, tm_tr_of, cellV, putF, appR_eq, takeR_eq, dropR_eq, setR_eq, getR_eq, LD3, LD4, LD22, LD24, LD33, LD37, FA24_0, FA24_1, FA24_2, FA24_3, FA33_0, FA33_1, FA39_0, LEN22, LENI, ST33, ST37, ST23, ST25, ↓AL33, ↓AL25, tkc, partsO, BD25, BD32, BS22, BS23, APT, AP23, sliceLen, srcCells, dstCells, dropB, srcB, miB, decrK, Nat.blt_eq, isSrc, srcOf, hB, hR, hO, h3k, hk, hd, hz, wl0, wl1, wl2, hb, hix, wb, ha0, hc0, wf0, wp0, ha1, hc1, wf1, wp1, ha2, hc2, wf2, wp2, finF, takeM, resV, evLoop, runC, cleanedG, gc4, kp4, below]
    obtain ⟨H, h, p1, p2, p3⟩ := hrun
    refine ⟨1 + b, d, _, r, 2, [.int .i64 (1 + a0), .int .i64 c0, .int .i64 (1 + a0 + (1 + a1)), .int .i64 (c0 + c1)], H, h, by simp [okC, isI], ?_, by omega, mi_of p1 p2, .inr ⟨8, rfl, by omega, p3⟩⟩
    simp [scErr, scan, bad, ord, btw, gi]
    omega
  · have hrun : ∃ H, evFn (tabT Tryd.prog) call (L + 4) kpT 4 Tryd.f4 [.pointer (some ⟨1, 0, none⟩)] (HS ks x) = some (.agg ⟨[.int .i64 (1 + b), .bool d, .slice (some ⟨10, 0, none⟩) 3 2, .int .i64 r]⟩, H) ∧ decrK H.bs = true ∧ miB H = true ∧ lookB H.bs 10 = some (.cells false [.int .i64 (1 + a0), .int .i64 c0, .int .i64 (1 + a0 + (1 + a1)), .int .i64 (c0 + c1), .int .i64 (1 + a0 + (1 + a1) + (1 + a2)), .int .i64 (c0 + c1 + c2)]) := by
      simp only [evFn, Tryd.f4, HS]
      simp [ec_skip, ec_label, ek_reg, ek_draw, ek_seq, ec_cond, ek_block, ec_loop, ec_exit, ec_ret, ec_scope, ek_nil, ek_op, opK_some, regK_some, seqK_normal, seqK_exit, seqK_ret, blockK_normal, blockK_exit, blockK_ret, evOp, vOp, hOpB, hOpU, hOp, hOpT, aWanted, aYielded, opd, putT, closedV, aBin, intOp, sameK, mapO, joinR, hasAddr, boundOf, pushB, aAlloc, Value.cells, lookB, setB, Nat.beq_eq, tm_n_set, tm_get_set, tm_of_n, tm_of_get, tm_tr_set, tm_tr_of, cellV, putF, appR_eq, takeR_eq, dropR_eq, setR_eq, getR_eq, LD3, LD4, LD22, LD24, LD33, LD37, FA24_0, FA24_1, FA24_2, FA24_3, FA33_0, FA33_1, FA39_0, LEN22, LENI, ST33, ST37, ST23, ST25, ↓AL33, ↓AL25, tkc, partsO, BD25, BD32, BS22, BS23, APT, AP23, sliceLen, srcCells, dstCells, dropB, srcB, miB, decrK, Nat.blt_eq, isSrc, srcOf, hB, hR, hO, h3k, hk, hd, hz, wl0, wl1, wl2, hb, hix, wb, ha0, hc0, wf0, wp0, ha1, hc1, wf1, wp1, ha2, hc2, wf2, wp2, finF, takeM, resV, evLoop, runC, cleanedG, gc4, kp4, below]
    obtain ⟨H, h, p1, p2, p3⟩ := hrun
    refine ⟨1 + b, d, _, r, 3, [.int .i64 (1 + a0), .int .i64 c0, .int .i64 (1 + a0 + (1 + a1)), .int .i64 (c0 + c1), .int .i64 (1 + a0 + (1 + a1) + (1 + a2)), .int .i64 (c0 + c1 + c2)], H, h, by simp [okC, isI], ?_, by omega, mi_of p1 p2, .inr ⟨10, rfl, by omega, p3⟩⟩
    simp [scErr, scan, bad, ord, btw, gi]
    omega

end Go.Proofs.YtbofnpohamajpaaDoor
