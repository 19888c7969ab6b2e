/-
  What is proved: one round of the loop in tile.Orphans.
-/
import Derived.Test.YtkoppbbmdjhaoaaKk
namespace Go.Proofs.Ytkoppbbmdjhaoaa
open Go.RowKit
set_option linter.unusedSimpArgs false

theorem F35 : tabF Try.prog 35 = some Try.f35 := by kernel_rfl

/-- The list that a loop has made so far, in a block from lo on. -/
def HasB (lo : Nat) (H : AH) (v : Value) (l : List Int) : Prop := ∃ b, v = lstV b l ∧ (l ≠ [] → lo ≤ b ∧ b < H.next ∧ lookB H.bs b = some (.cells false (intsV l)))

theorem app_hasB {lo nx : Nat} {bs : List (Nat × ABlk)} {v : Value} {l : List Int} (h : HasB lo ⟨nx, bs⟩ v l) (hl : l.length ≤ 100000) (h3 : lo ≤ nx) (k : Int) : ∃ v' bs',
    aAppend (tabT Try.prog) ⟨nx + 1, (nx, .cells false [.int .i64 k]) :: bs⟩ 22 v (.slice (some ⟨nx, 0, none⟩) 1 1) = some (v', ⟨nx + 2, bs'⟩) ∧ HasB lo ⟨nx + 2, bs'⟩ v' (l ++ [k]) ∧ ∀ i, i < lo → lookB bs' i = lookB bs i := by
  obtain ⟨b, rfl, hb⟩ := h
  cases l with
  | nil =>
    refine ⟨_, _, app_one k, ⟨nx + 1, rfl, fun _ => ⟨by omega, by simp, by simp [lookB]⟩⟩, fun i hi => ?_⟩
    have e1 : ¬ i = nx + 1 := by omega
    have e2 : ¬ i = nx := by omega
    simp [lookB, Nat.beq_eq, e1, e2]
  | cons a t =>
    obtain ⟨b3, bn, hbl⟩ := hb (by simp)
    simp only at bn hbl
    refine ⟨_, _, app_more (l := a :: t) k (by omega) hbl hl, ⟨nx + 1, by simp [lstV], fun _ => ⟨by omega, by simp, by simp [lookB]⟩⟩, fun i hi => ?_⟩
    have e1 : ¬ i = nx + 1 := by omega
    have e2 : ¬ i = nx := by omega
    have e3 : ¬ i = b := by omega
    simp [lookB, Nat.beq_eq, e1, e2, lookB_dropB, e3]

theorem ST22v (H : AH) (i : Nat) {lo : Nat} {H' : AH} {v : Value} {l : List Int} (h : HasB lo H' v l) : aStore (tabT Try.prog) H 22 (.pointer (some ⟨i, 0, none⟩)) v =
    (match lookB H.bs i with
    | some (.cells false cs) => if Nat.ble 1 cs.length then some { H with bs := setB H.bs i (.cells false (putCells cs 0 [v])) } else none
    | _ => none) := by
  obtain ⟨b, rfl, _⟩ := h
  simp only [aStore, T22]
  cases hl : lookB H.bs i with
  | none => rfl
  | some k =>
    cases k with
    | cells ro cs => cases ro <;> cases l <;> simp [Value.cells, cellV, lstV]
    | _ => rfl

theorem HasB.of {lo : Nat} {H H' : AH} {v : Value} {l : List Int} (h : HasB lo H v l) (hn : H.next ≤ H'.next) (hb : ∀ i, lo ≤ i → i < H.next → lookB H'.bs i = lookB H.bs i) : HasB lo H' v l := by
  obtain ⟨b, e, hb'⟩ := h
  refine ⟨b, e, fun hne => ?_⟩
  obtain ⟨q1, q2, q3⟩ := hb' hne
  exact ⟨q1, by omega, by rw [hb b q1 q2]; exact q3⟩

noncomputable def codeOA : Code := ((Try.f35.body.bind rfOf).getD (.skip, .skip)).1
noncomputable def codeOB : Code := ((Try.f35.body.bind rfOf).getD (.skip, .skip)).2

/-- The temporaries of Orphans when its loop begins. -/
def tmO (s : SV) : List Value := [s.val, .pointer (some ⟨2, 0, none⟩), .slice none 0 0, .pointer (some ⟨3, 0, none⟩), undef, undef, undef, undef, s.val, .bool true, .bool false, s.val, .func (.func 111) #[] #[.pointer (some ⟨4, 0, none⟩)]] ++ List.replicate 35 undef
noncomputable def loopO (s : SV) : ABlk := .loop .ready none 35 (tmO s) [13, 14] codeOA codeOB

structure InO (s : SV) (c : Int) (l : List Int) (H : AH) : Prop where
  nx : 9 ≤ H.next
  b0 : lookB H.bs 0 = some (.ints s.g)
  b1 : lookB H.bs 1 = some (.ints s.h)
  b2 : lookB H.bs 2 = some (.cells false s.boxL)
  b3 : ∃ v, lookB H.bs 3 = some (.cells false [v]) ∧ HasB 9 H v l
  b4 : lookB H.bs 4 = some (.cells false s.boxL)
  b5 : lookB H.bs 5 = some .defd
  b6 : lookB H.bs 6 = some (loopO s)
  b7 : lookB H.bs 7 = some (.cells false [.func (.yield 6) #[] #[]])
  b8 : lookB H.bs 8 = some (.cells false [.int .i64 c])

def InvO (s : SV) (c : Int) (l : List Int) (H : AH) : Prop := InO s c l H ∧ (l.length : Int) ≤ c
def MidO (s : SV) (c : Int) (l : List Int) (H : AH) : Prop := InO s c l H ∧ (l.length : Int) ≤ c + 1

theorem keepsO (s : SV) : Keeps (InvO s) (MidO s) := by
  refine ⟨fun c x H h => h.1.b7, fun c x H h => h.1.b8, fun c x H h => h.1.b8, fun c x H h => ⟨?_, by have := h.2; omega⟩⟩
  obtain ⟨⟨nx, b0, b1, b2, ⟨v, b3, hv⟩, b4, b5, b6, b7, b8⟩, _⟩ := h
  refine ⟨nx, ?_, ?_, ?_, ⟨v, ?_, ?_⟩, ?_, ?_, ?_, ?_, ?_⟩
  · simpa [lookB_setB] using b0
  · simpa [lookB_setB] using b1
  · simpa [lookB_setB] using b2
  · simpa [lookB_setB] using b3
  · obtain ⟨b, e, hb⟩ := hv
    refine ⟨b, e, fun hne => ?_⟩
    obtain ⟨q1, q2, q3⟩ := hb hne
    refine ⟨q1, q2, ?_⟩
    rw [lookB_setB, if_neg (by omega)]
    exact q3
  · simpa [lookB_setB] using b4
  · simpa [lookB_setB] using b5
  · simpa [lookB_setB] using b6
  · simpa [lookB_setB] using b7
  · simp [lookB_setB, b8]

/-- Whether a place is an orphan's. -/
def orphP (su r q : Int) : Bool := decide (su = -1) || decide (su = -2) || (decide (0 ≤ su) && (decide (r = 0) || decide (r = q - 1)))
def stO (su : Int) (q : Nat) (r c : Int) (l : List Int) : List Int := if orphP su r q then l ++ [c] else l

set_option maxRecDepth 10000 in
set_option maxHeartbeats 8000000 in
theorem yield_orph (call : Value → List Value → AH → Option (Value × AH)) (s : SV) (c su r : Int) (q : Nat) (l : List Int) (H : AH) (hr0 : 0 ≤ r) (hrq : r < q) (hq : q ≤ 200) (hc0 : 0 ≤ c) (hc1 : c < 100000) (hI : InvO s c l H) :
    ∃ H', evRound (tabT Try.prog) call 300 kpT 6 [.int .i64 c, placeV su r q] H = some (.bool true, H') ∧ MidO s c (stO su q r c l) H' := by
  obtain ⟨_, _, hd80, t80⟩ := T80
  obtain ⟨nx, bs⟩ := H
  obtain ⟨⟨hnx, b0, b1, b2, ⟨v, b3, hv⟩, b4, b5, b6, b7, b8⟩, hlc⟩ := hI
  simp only at hnx b0 b1 b2 b3 b4 b5 b6 b7 b8
  have n0 : ¬ 0 = nx := by omega
  have n1 : ¬ 1 = nx := by omega
  have n2 : ¬ 2 = nx := by omega
  have n3 : ¬ 3 = nx := by omega
  have n4 : ¬ 4 = nx := by omega
  have n5 : ¬ 5 = nx := by omega
  have n6 : ¬ 6 = nx := by omega
  have n7 : ¬ 7 = nx := by omega
  have n8 : ¬ 8 = nx := by omega
  have w1 : wrapI .i64 ((q : Int) - 1) = q - 1 := wrapI_small (by omega) (by omega)
  have lift : ∀ {v : Value} {l : List Int} {k x : ABlk}, HasB 9 ⟨nx, bs⟩ v l → HasB 9 ⟨nx + 1, (nx, k) :: setB bs 6 x⟩ v l := by
    rintro v l k x ⟨b, e, hb⟩
    refine ⟨b, e, fun hne => ?_⟩
    obtain ⟨q1, q2, q3⟩ := hb hne
    simp only at q2 q3
    refine ⟨q1, by simp only; omega, ?_⟩
    simp only [lookB]
    rw [if_neg (by rw [Nat.beq_eq]; omega), lookB_setB, if_neg (by omega)]
    exact q3
  simp only [loopO, tmO, codeOA, codeOB, Try.f35, Option.bind_some, rfOf, Option.getD_some, SV.val, undef] at b6
  simp only [SV.boxL] at b2 b4
  by_cases d1 : su = -1
  · subst d1
    have hp : orphP (-1) r q = true := by simp [orphP, orphP]
    have hv1 := lift (k := .cells false [.int .i64 (-1), .int .i64 r, .int .i64 q]) (x := .loop .busy none 35 (tmO s) [13, 14] codeOA codeOB) hv
    obtain ⟨v', bs', happ, hv', hlow⟩ := app_hasB hv1 (by omega) (by omega) c
    have hst := fun H => ST22v H 3 hv'
    have m0 := hlow 0 (by omega)
    have m1 := hlow 1 (by omega)
    have m2 := hlow 2 (by omega)
    have m3 := hlow 3 (by omega)
    have m4 := hlow 4 (by omega)
    have m5 := hlow 5 (by omega)
    have m6 := hlow 6 (by omega)
    have m7 := hlow 7 (by omega)
    have m8 := hlow 8 (by omega)
    simp only [loopO, tmO, codeOA, codeOB, Try.f35, Option.bind_some, rfOf, Option.getD_some, placeV, SV.val, undef, List.replicate, List.cons_append, List.nil_append] at happ m6
    simp [lookB, Nat.beq_eq, lookB_setB, n0, n1, n2, n3, n4, n5, n6, n7, n8, b0, b1, b2, b3, b4, b5, b6, b7, b8] at m0 m1 m2 m3 m4 m5 m6 m7 m8
    simp only [stO, hp, if_true]
    simp only [evRound, b6, loopO, tmO, codeOA, codeOB, Try.f35, Option.bind_some, rfOf, Option.getD_some, placeV, SV.val, undef]
    simp [ec_skip, ec_label, ek_reg, ek_draw, ek_seq, ec_cond, ek_block, ec_loop, ec_exit, ec_ret, ek_nil, ek_op, opK_some, regK_some, seqK_normal, seqK_exit, seqK_ret, blockK_normal, blockK_exit, blockK_ret, evOp, vOp, hOp, aWanted, aY, boolOf, opd, putT, closedV, undef, aBin, intOp, sameK, mapO, joinR, hasAddr, pushB, aAlloc, Value.cells, T3, T4, T22, FA24_0, FA24_1, FA24_2, FA24_3, FA24_4, FA24_5, FA24_6, FA24_7, FA24_8, LD3, LD4, LD22, LD27, LDr, LD24, LEN22, IA22, cellAt, lookB, Nat.beq_eq, takeCells, getT, setT, setArgs, endOf, setB, lookB_setB, ST80, LD80, t80, putCells, cleaned, kpT, BS22, partsO, FA80_0, FA80_1, FA80_2, b0, b1, b2, b3, b4, b5, b6, b7, b8, happ, hst, m3, m6, orphP, n0, n1, n2, n3, n4, n5, n6, n7, n8]
    refine ⟨⟨by simp only; omega, by simp [lookB, Nat.beq_eq, lookB_setB, n0, n1, n2, n3, n4, n5, n6, n7, n8, m0, m1, m2, m3, m4, m5, m6, m7, m8], by simp [lookB, Nat.beq_eq, lookB_setB, n0, n1, n2, n3, n4, n5, n6, n7, n8, m0, m1, m2, m3, m4, m5, m6, m7, m8], by simp [lookB, Nat.beq_eq, lookB_setB, n0, n1, n2, n3, n4, n5, n6, n7, n8, m0, m1, m2, m3, m4, m5, m6, m7, m8, SV.boxL], ⟨_, by simp [lookB, Nat.beq_eq, lookB_setB, n0, n1, n2, n3, n4, n5, n6, n7, n8, m0, m1, m2, m3, m4, m5, m6, m7, m8], (HasB.of hv' (by simp) fun i h9 hlt => by
      have e3 : ¬ i = 3 := by omega
      have e6 : ¬ i = 6 := by omega
      simp [lookB, Nat.beq_eq, lookB_setB, e3, e6])⟩, by simp [lookB, Nat.beq_eq, lookB_setB, n0, n1, n2, n3, n4, n5, n6, n7, n8, m0, m1, m2, m3, m4, m5, m6, m7, m8, SV.boxL], by simp [lookB, Nat.beq_eq, lookB_setB, n0, n1, n2, n3, n4, n5, n6, n7, n8, m0, m1, m2, m3, m4, m5, m6, m7, m8], ?_, by simp [lookB, Nat.beq_eq, lookB_setB, n0, n1, n2, n3, n4, n5, n6, n7, n8, m0, m1, m2, m3, m4, m5, m6, m7, m8], by simp [lookB, Nat.beq_eq, lookB_setB, n0, n1, n2, n3, n4, n5, n6, n7, n8, m0, m1, m2, m3, m4, m5, m6, m7, m8]⟩, by first | omega | (simp; omega)⟩
    simp [lookB, Nat.beq_eq, lookB_setB, n0, n1, n2, n3, n4, n5, n6, n7, n8, m0, m1, m2, m3, m4, m5, m6, m7, m8]
    rfl


  have d1' : (su == -1) = false := by simpa using d1
  by_cases d2 : su = -2
  · subst d2
    have hp : orphP (-2) r q = true := by simp [orphP, d1]
    have hv1 := lift (k := .cells false [.int .i64 (-2), .int .i64 r, .int .i64 q]) (x := .loop .busy none 35 (tmO s) [13, 14] codeOA codeOB) hv
    obtain ⟨v', bs', happ, hv', hlow⟩ := app_hasB hv1 (by omega) (by omega) c
    have hst := fun H => ST22v H 3 hv'
    have m0 := hlow 0 (by omega)
    have m1 := hlow 1 (by omega)
    have m2 := hlow 2 (by omega)
    have m3 := hlow 3 (by omega)
    have m4 := hlow 4 (by omega)
    have m5 := hlow 5 (by omega)
    have m6 := hlow 6 (by omega)
    have m7 := hlow 7 (by omega)
    have m8 := hlow 8 (by omega)
    simp only [loopO, tmO, codeOA, codeOB, Try.f35, Option.bind_some, rfOf, Option.getD_some, placeV, SV.val, undef, List.replicate, List.cons_append, List.nil_append] at happ m6
    simp [lookB, Nat.beq_eq, lookB_setB, n0, n1, n2, n3, n4, n5, n6, n7, n8, b0, b1, b2, b3, b4, b5, b6, b7, b8] at m0 m1 m2 m3 m4 m5 m6 m7 m8
    simp only [stO, hp, if_true]
    simp only [evRound, b6, loopO, tmO, codeOA, codeOB, Try.f35, Option.bind_some, rfOf, Option.getD_some, placeV, SV.val, undef]
    simp [ec_skip, ec_label, ek_reg, ek_draw, ek_seq, ec_cond, ek_block, ec_loop, ec_exit, ec_ret, ek_nil, ek_op, opK_some, regK_some, seqK_normal, seqK_exit, seqK_ret, blockK_normal, blockK_exit, blockK_ret, evOp, vOp, hOp, aWanted, aY, boolOf, opd, putT, closedV, undef, aBin, intOp, sameK, mapO, joinR, hasAddr, pushB, aAlloc, Value.cells, T3, T4, T22, FA24_0, FA24_1, FA24_2, FA24_3, FA24_4, FA24_5, FA24_6, FA24_7, FA24_8, LD3, LD4, LD22, LD27, LDr, LD24, LEN22, IA22, cellAt, lookB, Nat.beq_eq, takeCells, getT, setT, setArgs, endOf, setB, lookB_setB, ST80, LD80, t80, putCells, cleaned, kpT, BS22, partsO, FA80_0, FA80_1, FA80_2, b0, b1, b2, b3, b4, b5, b6, b7, b8, happ, hst, m3, m6, d1, n0, n1, n2, n3, n4, n5, n6, n7, n8]
    refine ⟨⟨by simp only; omega, by simp [lookB, Nat.beq_eq, lookB_setB, n0, n1, n2, n3, n4, n5, n6, n7, n8, m0, m1, m2, m3, m4, m5, m6, m7, m8], by simp [lookB, Nat.beq_eq, lookB_setB, n0, n1, n2, n3, n4, n5, n6, n7, n8, m0, m1, m2, m3, m4, m5, m6, m7, m8], by simp [lookB, Nat.beq_eq, lookB_setB, n0, n1, n2, n3, n4, n5, n6, n7, n8, m0, m1, m2, m3, m4, m5, m6, m7, m8, SV.boxL], ⟨_, by simp [lookB, Nat.beq_eq, lookB_setB, n0, n1, n2, n3, n4, n5, n6, n7, n8, m0, m1, m2, m3, m4, m5, m6, m7, m8], (HasB.of hv' (by simp) fun i h9 hlt => by
      have e3 : ¬ i = 3 := by omega
      have e6 : ¬ i = 6 := by omega
      simp [lookB, Nat.beq_eq, lookB_setB, e3, e6])⟩, by simp [lookB, Nat.beq_eq, lookB_setB, n0, n1, n2, n3, n4, n5, n6, n7, n8, m0, m1, m2, m3, m4, m5, m6, m7, m8, SV.boxL], by simp [lookB, Nat.beq_eq, lookB_setB, n0, n1, n2, n3, n4, n5, n6, n7, n8, m0, m1, m2, m3, m4, m5, m6, m7, m8], ?_, by simp [lookB, Nat.beq_eq, lookB_setB, n0, n1, n2, n3, n4, n5, n6, n7, n8, m0, m1, m2, m3, m4, m5, m6, m7, m8], by simp [lookB, Nat.beq_eq, lookB_setB, n0, n1, n2, n3, n4, n5, n6, n7, n8, m0, m1, m2, m3, m4, m5, m6, m7, m8]⟩, by first | omega | (simp; omega)⟩
    simp [lookB, Nat.beq_eq, lookB_setB, n0, n1, n2, n3, n4, n5, n6, n7, n8, m0, m1, m2, m3, m4, m5, m6, m7, m8]
    rfl


  have d2' : (su == -2) = false := by simpa using d2
  by_cases d3 : su < 0
  · have d3' : ¬ 0 ≤ su := by omega
    have hp : orphP su r q = false := by simp [orphP, d1, d1', d2, d2', d3, d3']
    simp only [stO, hp, Bool.false_eq_true, if_false]
    simp only [evRound, b6, loopO, tmO, codeOA, codeOB, Try.f35, Option.bind_some, rfOf, Option.getD_some, placeV, SV.val, undef]
    simp [ec_skip, ec_label, ek_reg, ek_draw, ek_seq, ec_cond, ek_block, ec_loop, ec_exit, ec_ret, ek_nil, ek_op, opK_some, regK_some, seqK_normal, seqK_exit, seqK_ret, blockK_normal, blockK_exit, blockK_ret, evOp, vOp, hOp, aWanted, aY, boolOf, opd, putT, closedV, undef, aBin, intOp, sameK, mapO, joinR, hasAddr, pushB, aAlloc, Value.cells, T3, T4, T22, FA24_0, FA24_1, FA24_2, FA24_3, FA24_4, FA24_5, FA24_6, FA24_7, FA24_8, LD3, LD4, LD22, LD27, LDr, LD24, LEN22, IA22, cellAt, lookB, Nat.beq_eq, takeCells, getT, setT, setArgs, endOf, setB, lookB_setB, ST80, LD80, t80, putCells, cleaned, kpT, BS22, partsO, FA80_0, FA80_1, FA80_2, b0, b1, b2, b3, b4, b5, b6, b7, b8, d1, d1', d2, d2', d3, d3', n0, n1, n2, n3, n4, n5, n6, n7, n8]
    refine ⟨⟨by simp only; omega, by simp [lookB, Nat.beq_eq, lookB_setB, n0, n1, n2, n3, n4, n5, n6, n7, n8, b0, b1, b2, b3, b4, b5, b6, b7, b8], by simp [lookB, Nat.beq_eq, lookB_setB, n0, n1, n2, n3, n4, n5, n6, n7, n8, b0, b1, b2, b3, b4, b5, b6, b7, b8], by simp [lookB, Nat.beq_eq, lookB_setB, n0, n1, n2, n3, n4, n5, n6, n7, n8, b0, b1, b2, b3, b4, b5, b6, b7, b8, SV.boxL], ⟨_, by simp [lookB, Nat.beq_eq, lookB_setB, n0, n1, n2, n3, n4, n5, n6, n7, n8, b0, b1, b2, b3, b4, b5, b6, b7, b8], (HasB.of hv (by simp) fun i h9 hlt => by
      have hlt' : i < nx := hlt
      have e1 : ¬ i = nx := by omega
      have e3 : ¬ i = 3 := by omega
      have e6 : ¬ i = 6 := by omega
      simp [lookB, Nat.beq_eq, lookB_setB, e1, e3, e6])⟩, by simp [lookB, Nat.beq_eq, lookB_setB, n0, n1, n2, n3, n4, n5, n6, n7, n8, b0, b1, b2, b3, b4, b5, b6, b7, b8, SV.boxL], by simp [lookB, Nat.beq_eq, lookB_setB, n0, n1, n2, n3, n4, n5, n6, n7, n8, b0, b1, b2, b3, b4, b5, b6, b7, b8], ?_, by simp [lookB, Nat.beq_eq, lookB_setB, n0, n1, n2, n3, n4, n5, n6, n7, n8, b0, b1, b2, b3, b4, b5, b6, b7, b8], by simp [lookB, Nat.beq_eq, lookB_setB, n0, n1, n2, n3, n4, n5, n6, n7, n8, b0, b1, b2, b3, b4, b5, b6, b7, b8]⟩, by first | omega | (simp; omega)⟩
    simp [lookB, Nat.beq_eq, lookB_setB, n0, n1, n2, n3, n4, n5, n6, n7, n8, b0, b1, b2, b3, b4, b5, b6, b7, b8]
    rfl


  have d3' : 0 ≤ su := by omega
  by_cases d4 : r = 0
  · subst d4
    have hp : orphP su 0 q = true := by simp [orphP, d1, d1', d2, d2', d3']
    have hv1 := lift (k := .cells false [.int .i64 su, .int .i64 0, .int .i64 q]) (x := .loop .busy none 35 (tmO s) [13, 14] codeOA codeOB) hv
    obtain ⟨v', bs', happ, hv', hlow⟩ := app_hasB hv1 (by omega) (by omega) c
    have hst := fun H => ST22v H 3 hv'
    have m0 := hlow 0 (by omega)
    have m1 := hlow 1 (by omega)
    have m2 := hlow 2 (by omega)
    have m3 := hlow 3 (by omega)
    have m4 := hlow 4 (by omega)
    have m5 := hlow 5 (by omega)
    have m6 := hlow 6 (by omega)
    have m7 := hlow 7 (by omega)
    have m8 := hlow 8 (by omega)
    simp only [loopO, tmO, codeOA, codeOB, Try.f35, Option.bind_some, rfOf, Option.getD_some, placeV, SV.val, undef, List.replicate, List.cons_append, List.nil_append] at happ m6
    simp [lookB, Nat.beq_eq, lookB_setB, n0, n1, n2, n3, n4, n5, n6, n7, n8, b0, b1, b2, b3, b4, b5, b6, b7, b8] at m0 m1 m2 m3 m4 m5 m6 m7 m8
    simp only [stO, hp, if_true]
    simp only [evRound, b6, loopO, tmO, codeOA, codeOB, Try.f35, Option.bind_some, rfOf, Option.getD_some, placeV, SV.val, undef]
    simp [ec_skip, ec_label, ek_reg, ek_draw, ek_seq, ec_cond, ek_block, ec_loop, ec_exit, ec_ret, ek_nil, ek_op, opK_some, regK_some, seqK_normal, seqK_exit, seqK_ret, blockK_normal, blockK_exit, blockK_ret, evOp, vOp, hOp, aWanted, aY, boolOf, opd, putT, closedV, undef, aBin, intOp, sameK, mapO, joinR, hasAddr, pushB, aAlloc, Value.cells, T3, T4, T22, FA24_0, FA24_1, FA24_2, FA24_3, FA24_4, FA24_5, FA24_6, FA24_7, FA24_8, LD3, LD4, LD22, LD27, LDr, LD24, LEN22, IA22, cellAt, lookB, Nat.beq_eq, takeCells, getT, setT, setArgs, endOf, setB, lookB_setB, ST80, LD80, t80, putCells, cleaned, kpT, BS22, partsO, FA80_0, FA80_1, FA80_2, b0, b1, b2, b3, b4, b5, b6, b7, b8, happ, hst, m3, m6, d1, d1', d2, d2', d3', n0, n1, n2, n3, n4, n5, n6, n7, n8]
    refine ⟨⟨by simp only; omega, by simp [lookB, Nat.beq_eq, lookB_setB, n0, n1, n2, n3, n4, n5, n6, n7, n8, m0, m1, m2, m3, m4, m5, m6, m7, m8], by simp [lookB, Nat.beq_eq, lookB_setB, n0, n1, n2, n3, n4, n5, n6, n7, n8, m0, m1, m2, m3, m4, m5, m6, m7, m8], by simp [lookB, Nat.beq_eq, lookB_setB, n0, n1, n2, n3, n4, n5, n6, n7, n8, m0, m1, m2, m3, m4, m5, m6, m7, m8, SV.boxL], ⟨_, by simp [lookB, Nat.beq_eq, lookB_setB, n0, n1, n2, n3, n4, n5, n6, n7, n8, m0, m1, m2, m3, m4, m5, m6, m7, m8], (HasB.of hv' (by simp) fun i h9 hlt => by
      have e3 : ¬ i = 3 := by omega
      have e6 : ¬ i = 6 := by omega
      simp [lookB, Nat.beq_eq, lookB_setB, e3, e6])⟩, by simp [lookB, Nat.beq_eq, lookB_setB, n0, n1, n2, n3, n4, n5, n6, n7, n8, m0, m1, m2, m3, m4, m5, m6, m7, m8, SV.boxL], by simp [lookB, Nat.beq_eq, lookB_setB, n0, n1, n2, n3, n4, n5, n6, n7, n8, m0, m1, m2, m3, m4, m5, m6, m7, m8], ?_, by simp [lookB, Nat.beq_eq, lookB_setB, n0, n1, n2, n3, n4, n5, n6, n7, n8, m0, m1, m2, m3, m4, m5, m6, m7, m8], by simp [lookB, Nat.beq_eq, lookB_setB, n0, n1, n2, n3, n4, n5, n6, n7, n8, m0, m1, m2, m3, m4, m5, m6, m7, m8]⟩, by first | omega | (simp; omega)⟩
    simp [lookB, Nat.beq_eq, lookB_setB, n0, n1, n2, n3, n4, n5, n6, n7, n8, m0, m1, m2, m3, m4, m5, m6, m7, m8]
    rfl


  have d4' : (r == 0) = false := by simpa using d4
  by_cases d5 : r = (q : Int) - 1
  · subst d5
    have hp : orphP su ((q : Int) - 1) q = true := by simp [orphP, d1, d1', d2, d2', d3', d4, d4', w1]
    have hv1 := lift (k := .cells false [.int .i64 su, .int .i64 ((q : Int) - 1), .int .i64 q]) (x := .loop .busy none 35 (tmO s) [13, 14] codeOA codeOB) hv
    obtain ⟨v', bs', happ, hv', hlow⟩ := app_hasB hv1 (by omega) (by omega) c
    have hst := fun H => ST22v H 3 hv'
    have m0 := hlow 0 (by omega)
    have m1 := hlow 1 (by omega)
    have m2 := hlow 2 (by omega)
    have m3 := hlow 3 (by omega)
    have m4 := hlow 4 (by omega)
    have m5 := hlow 5 (by omega)
    have m6 := hlow 6 (by omega)
    have m7 := hlow 7 (by omega)
    have m8 := hlow 8 (by omega)
    simp only [loopO, tmO, codeOA, codeOB, Try.f35, Option.bind_some, rfOf, Option.getD_some, placeV, SV.val, undef, List.replicate, List.cons_append, List.nil_append] at happ m6
    simp [lookB, Nat.beq_eq, lookB_setB, n0, n1, n2, n3, n4, n5, n6, n7, n8, b0, b1, b2, b3, b4, b5, b6, b7, b8] at m0 m1 m2 m3 m4 m5 m6 m7 m8
    simp only [stO, hp, if_true]
    simp only [evRound, b6, loopO, tmO, codeOA, codeOB, Try.f35, Option.bind_some, rfOf, Option.getD_some, placeV, SV.val, undef]
    simp [ec_skip, ec_label, ek_reg, ek_draw, ek_seq, ec_cond, ek_block, ec_loop, ec_exit, ec_ret, ek_nil, ek_op, opK_some, regK_some, seqK_normal, seqK_exit, seqK_ret, blockK_normal, blockK_exit, blockK_ret, evOp, vOp, hOp, aWanted, aY, boolOf, opd, putT, closedV, undef, aBin, intOp, sameK, mapO, joinR, hasAddr, pushB, aAlloc, Value.cells, T3, T4, T22, FA24_0, FA24_1, FA24_2, FA24_3, FA24_4, FA24_5, FA24_6, FA24_7, FA24_8, LD3, LD4, LD22, LD27, LDr, LD24, LEN22, IA22, cellAt, lookB, Nat.beq_eq, takeCells, getT, setT, setArgs, endOf, setB, lookB_setB, ST80, LD80, t80, putCells, cleaned, kpT, BS22, partsO, FA80_0, FA80_1, FA80_2, b0, b1, b2, b3, b4, b5, b6, b7, b8, happ, hst, m3, m6, d1, d1', d2, d2', d3', d4, d4', w1, n0, n1, n2, n3, n4, n5, n6, n7, n8]
    refine ⟨⟨by simp only; omega, by simp [lookB, Nat.beq_eq, lookB_setB, n0, n1, n2, n3, n4, n5, n6, n7, n8, m0, m1, m2, m3, m4, m5, m6, m7, m8], by simp [lookB, Nat.beq_eq, lookB_setB, n0, n1, n2, n3, n4, n5, n6, n7, n8, m0, m1, m2, m3, m4, m5, m6, m7, m8], by simp [lookB, Nat.beq_eq, lookB_setB, n0, n1, n2, n3, n4, n5, n6, n7, n8, m0, m1, m2, m3, m4, m5, m6, m7, m8, SV.boxL], ⟨_, by simp [lookB, Nat.beq_eq, lookB_setB, n0, n1, n2, n3, n4, n5, n6, n7, n8, m0, m1, m2, m3, m4, m5, m6, m7, m8], (HasB.of hv' (by simp) fun i h9 hlt => by
      have e3 : ¬ i = 3 := by omega
      have e6 : ¬ i = 6 := by omega
      simp [lookB, Nat.beq_eq, lookB_setB, e3, e6])⟩, by simp [lookB, Nat.beq_eq, lookB_setB, n0, n1, n2, n3, n4, n5, n6, n7, n8, m0, m1, m2, m3, m4, m5, m6, m7, m8, SV.boxL], by simp [lookB, Nat.beq_eq, lookB_setB, n0, n1, n2, n3, n4, n5, n6, n7, n8, m0, m1, m2, m3, m4, m5, m6, m7, m8], ?_, by simp [lookB, Nat.beq_eq, lookB_setB, n0, n1, n2, n3, n4, n5, n6, n7, n8, m0, m1, m2, m3, m4, m5, m6, m7, m8], by simp [lookB, Nat.beq_eq, lookB_setB, n0, n1, n2, n3, n4, n5, n6, n7, n8, m0, m1, m2, m3, m4, m5, m6, m7, m8]⟩, by first | omega | (simp; omega)⟩
    simp [lookB, Nat.beq_eq, lookB_setB, n0, n1, n2, n3, n4, n5, n6, n7, n8, m0, m1, m2, m3, m4, m5, m6, m7, m8]
    rfl


  · have d5' : (r == (q : Int) - 1) = false := by simpa using d5
    have hp : orphP su r q = false := by simp [orphP, d1, d1', d2, d2', d3', d4, d4', d5, d5', w1]
    simp only [stO, hp, Bool.false_eq_true, if_false]
    simp only [evRound, b6, loopO, tmO, codeOA, codeOB, Try.f35, Option.bind_some, rfOf, Option.getD_some, placeV, SV.val, undef]
    simp [ec_skip, ec_label, ek_reg, ek_draw, ek_seq, ec_cond, ek_block, ec_loop, ec_exit, ec_ret, ek_nil, ek_op, opK_some, regK_some, seqK_normal, seqK_exit, seqK_ret, blockK_normal, blockK_exit, blockK_ret, evOp, vOp, hOp, aWanted, aY, boolOf, opd, putT, closedV, undef, aBin, intOp, sameK, mapO, joinR, hasAddr, pushB, aAlloc, Value.cells, T3, T4, T22, FA24_0, FA24_1, FA24_2, FA24_3, FA24_4, FA24_5, FA24_6, FA24_7, FA24_8, LD3, LD4, LD22, LD27, LDr, LD24, LEN22, IA22, cellAt, lookB, Nat.beq_eq, takeCells, getT, setT, setArgs, endOf, setB, lookB_setB, ST80, LD80, t80, putCells, cleaned, kpT, BS22, partsO, FA80_0, FA80_1, FA80_2, b0, b1, b2, b3, b4, b5, b6, b7, b8, d1, d1', d2, d2', d3', d4, d4', d5, d5', w1, n0, n1, n2, n3, n4, n5, n6, n7, n8]
    refine ⟨⟨by simp only; omega, by simp [lookB, Nat.beq_eq, lookB_setB, n0, n1, n2, n3, n4, n5, n6, n7, n8, b0, b1, b2, b3, b4, b5, b6, b7, b8], by simp [lookB, Nat.beq_eq, lookB_setB, n0, n1, n2, n3, n4, n5, n6, n7, n8, b0, b1, b2, b3, b4, b5, b6, b7, b8], by simp [lookB, Nat.beq_eq, lookB_setB, n0, n1, n2, n3, n4, n5, n6, n7, n8, b0, b1, b2, b3, b4, b5, b6, b7, b8, SV.boxL], ⟨_, by simp [lookB, Nat.beq_eq, lookB_setB, n0, n1, n2, n3, n4, n5, n6, n7, n8, b0, b1, b2, b3, b4, b5, b6, b7, b8], (HasB.of hv (by simp) fun i h9 hlt => by
      have hlt' : i < nx := hlt
      have e1 : ¬ i = nx := by omega
      have e3 : ¬ i = 3 := by omega
      have e6 : ¬ i = 6 := by omega
      simp [lookB, Nat.beq_eq, lookB_setB, e1, e3, e6])⟩, by simp [lookB, Nat.beq_eq, lookB_setB, n0, n1, n2, n3, n4, n5, n6, n7, n8, b0, b1, b2, b3, b4, b5, b6, b7, b8, SV.boxL], by simp [lookB, Nat.beq_eq, lookB_setB, n0, n1, n2, n3, n4, n5, n6, n7, n8, b0, b1, b2, b3, b4, b5, b6, b7, b8], ?_, by simp [lookB, Nat.beq_eq, lookB_setB, n0, n1, n2, n3, n4, n5, n6, n7, n8, b0, b1, b2, b3, b4, b5, b6, b7, b8], by simp [lookB, Nat.beq_eq, lookB_setB, n0, n1, n2, n3, n4, n5, n6, n7, n8, b0, b1, b2, b3, b4, b5, b6, b7, b8]⟩, by first | omega | (simp; omega)⟩
    simp [lookB, Nat.beq_eq, lookB_setB, n0, n1, n2, n3, n4, n5, n6, n7, n8, b0, b1, b2, b3, b4, b5, b6, b7, b8]
    rfl



end Go.Proofs.Ytkoppbbmdjhaoaa
