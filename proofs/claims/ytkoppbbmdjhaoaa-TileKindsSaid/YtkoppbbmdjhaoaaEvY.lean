/-
  What is proved: the answers of the small functions of the program and of the document's own answers (how many plain kinds a set has, and the like), for every set.
-/
import Derived.Test.YtkoppbbmdjhaoaaEvX
namespace Go.Proofs.Ytkoppbbmdjhaoaa
open Go.RowKit

theorem loop_ind {F : AF → AH → Option (AX × AF × AH)} {Q : AX → AF → AH → Prop} (I : Nat → AF → AH → Prop)
    (step : ∀ m A H, I m A H → ∃ x A' H', F A H = some (x, A', H') ∧ ((x = .normal ∧ ∃ m', m = m' + 1 ∧ I m' A' H') ∨ (x ≠ .normal ∧ Q x A' H'))) :
    ∀ (m fuel : Nat) (A : AF) (H : AH), m < fuel → I m A H → ∃ x A' H', evLoop F fuel A H = some (x, A', H') ∧ Q x A' H'
  | m, 0, A, H, hm, _ => by omega
  | m, fuel + 1, A, H, hm, hI => by
    obtain ⟨x, A', H', h1, h2⟩ := step m A H hI
    rcases h2 with ⟨rfl, m', rfl, hI'⟩ | ⟨hx, hq⟩
    · obtain ⟨y, A2, H2, h3, h4⟩ := loop_ind I step m' fuel A' H' (by omega) hI'
      exact ⟨y, A2, H2, by simp only [evLoop, h1, h3], h4⟩
    · refine ⟨x, A', H', ?_, hq⟩
      cases x with
      | normal => exact absurd rfl hx
      | exit id => simp only [evLoop, h1]
      | ret => simp only [evLoop, h1]

theorem T3 : tabT Try.prog 3 = some ⟨1, 8, .int .i64 0, .int .i64⟩ := by kernel_rfl
theorem T4 : tabT Try.prog 4 = some ⟨1, 1, .bool false, .bool⟩ := by kernel_rfl
theorem T22 : tabT Try.prog 22 = some ⟨1, 24, .slice none 0 0, .slice 3⟩ := by kernel_rfl
theorem T27 : tabT Try.prog 27 = some ⟨1, 8, .int .i64 0, .int .i64⟩ := by kernel_rfl
theorem FA24_0 (i off : Nat) : aFieldAddr (tabT Try.prog) 24 (.pointer (some ⟨i, off, none⟩)) 0 = some (.pointer (some ⟨i, off + 0, none⟩)) := by kernel_rfl
theorem FA24_1 (i off : Nat) : aFieldAddr (tabT Try.prog) 24 (.pointer (some ⟨i, off, none⟩)) 1 = some (.pointer (some ⟨i, off + 1, none⟩)) := by kernel_rfl
theorem FA24_2 (i off : Nat) : aFieldAddr (tabT Try.prog) 24 (.pointer (some ⟨i, off, none⟩)) 2 = some (.pointer (some ⟨i, off + 2, none⟩)) := by kernel_rfl
theorem FA24_3 (i off : Nat) : aFieldAddr (tabT Try.prog) 24 (.pointer (some ⟨i, off, none⟩)) 3 = some (.pointer (some ⟨i, off + 3, none⟩)) := by kernel_rfl
theorem FA24_4 (i off : Nat) : aFieldAddr (tabT Try.prog) 24 (.pointer (some ⟨i, off, none⟩)) 4 = some (.pointer (some ⟨i, off + 4, none⟩)) := by kernel_rfl
theorem FA24_5 (i off : Nat) : aFieldAddr (tabT Try.prog) 24 (.pointer (some ⟨i, off, none⟩)) 5 = some (.pointer (some ⟨i, off + 5, none⟩)) := by kernel_rfl
theorem FA24_6 (i off : Nat) : aFieldAddr (tabT Try.prog) 24 (.pointer (some ⟨i, off, none⟩)) 6 = some (.pointer (some ⟨i, off + 6, none⟩)) := by kernel_rfl
theorem FA24_7 (i off : Nat) : aFieldAddr (tabT Try.prog) 24 (.pointer (some ⟨i, off, none⟩)) 7 = some (.pointer (some ⟨i, off + 7, none⟩)) := by kernel_rfl
theorem FA24_8 (i off : Nat) : aFieldAddr (tabT Try.prog) 24 (.pointer (some ⟨i, off, none⟩)) 8 = some (.pointer (some ⟨i, off + 8, none⟩)) := by kernel_rfl
theorem A24 : (tabT Try.prog 24).map (fun y => (aggD y.desc, y.size)) = some (true, 9) := by kernel_rfl

/-- What lies at a place. -/
def cellAt (bs : List (Nat × ABlk)) (i off : Nat) : Option Value :=
  match lookB bs i with
  | some (.cells _ cs) => cs[off]?
  | _ => none

theorem LD3 (H : AH) (i off : Nat) : aLoad (tabT Try.prog) H 3 (.pointer (some ⟨i, off, none⟩)) = cellAt H.bs i off := by
  simp only [aLoad, T3, cellAt]
  cases h : lookB H.bs i with
  | none => rfl
  | some k => cases k <;> rfl
theorem LD4 (H : AH) (i off : Nat) : aLoad (tabT Try.prog) H 4 (.pointer (some ⟨i, off, none⟩)) = cellAt H.bs i off := by
  simp only [aLoad, T4, cellAt]
  cases h : lookB H.bs i with
  | none => rfl
  | some k => cases k <;> rfl
theorem LD22 (H : AH) (i off : Nat) : aLoad (tabT Try.prog) H 22 (.pointer (some ⟨i, off, none⟩)) = cellAt H.bs i off := by
  simp only [aLoad, T22, cellAt]
  cases h : lookB H.bs i with
  | none => rfl
  | some k => cases k <;> rfl
theorem LD27 (H : AH) (i off : Nat) : aLoad (tabT Try.prog) H 27 (.pointer (some ⟨i, off, none⟩)) = cellAt H.bs i off := by
  simp only [aLoad, T27, cellAt]
  cases h : lookB H.bs i with
  | none => rfl
  | some k => cases k <;> rfl
theorem LDr (H : AH) (i off : Nat) : aLoad (tabT Try.prog) H 3 (.pointer (some ⟨i, off, some 1⟩)) = (match lookB H.bs i with | some (.ints g) => some (.int .i64 (g off)) | _ => none) := by
  simp only [aLoad, T3]
  cases h : lookB H.bs i with
  | none => rfl
  | some k => cases k <;> rfl
theorem LD24 (H : AH) (i off : Nat) : aLoad (tabT Try.prog) H 24 (.pointer (some ⟨i, off, none⟩)) = (match lookB H.bs i with | some (.cells _ cs) => (takeCells cs off 9).map (fun l => .agg l.toArray) | _ => none) := by
  have h := A24
  cases ht : tabT Try.prog 24 with
  | none => rw [ht] at h; cases h
  | some y =>
    rw [ht] at h
    simp only [Option.map_some, Option.some.injEq, Prod.mk.injEq] at h
    simp only [aLoad, ht]
    cases hl : lookB H.bs i with
    | none => rfl
    | some k => cases k <;> simp [h.1, h.2]
theorem LEN22 (a : Option Addr) (n z : Nat) : aLen (tabT Try.prog) 22 (.slice a n z) = some (.int .i64 n) := by kernel_rfl
theorem IA22 (i n k : Nat) (h : k < n) : aIndexAddr (tabT Try.prog) 22 (.slice (some ⟨i, 0, some 1⟩) n 0) (.int .i64 k) = some (.pointer (some ⟨i, k, some 1⟩)) := by
  simp [aIndexAddr, natV, T22, T3, h]

set_option linter.unusedSimpArgs false


/-- The run of a loop's body (a name that is not written out). -/
def runC (T : TypeId → Option TI) (call : Value → List Value → AH → Option (Value × AH)) (lf : Nat) (fn : FuncId) (rd : Bool) (c : Code) (A : AF) (H : AH) : Option (AX × AF × AH) := evCode T call lf fn rd c A H

section
variable {T : TypeId → Option TI} {call : Value → List Value → AH → Option (Value × AH)} {lf : Nat} {fn : FuncId} {rd : Bool} {A : AF} {H : AH}
theorem ec_skip : evCode T call lf fn rd .skip A H = some (.normal, A, H) := rfl
theorem ec_label {x} : evCode T call lf fn rd (.label x) A H = some (.normal, A, H) := rfl
theorem ec_reg {i ops} : evCode T call lf fn rd (.region i ops false) A H = match evSeq T call ops ops.toList A H with
    | some (A', H') => some (.normal, A', H')
    | none => none := rfl
theorem ec_draw {i ops} : evCode T call lf fn rd (.region i ops true) A H = match evDraw T call ops A H with
    | some (A', H') => some (.normal, A', H')
    | none => none := rfl
theorem ec_seq {x y} : evCode T call lf fn rd (.seq x y) A H = match evCode T call lf fn rd x A H with
    | some (.normal, A', H') => evCode T call lf fn rd y A' H'
    | some (.exit id, A', H') => some (.exit id, A', H')
    | some (.ret, A', H') => some (.ret, A', H')
    | none => none := rfl
theorem ec_cond {c x y} : evCode T call lf fn rd (.cond c x y) A H = match opd A.tm c with
    | some (.bool true) => evCode T call lf fn rd x A H
    | some (.bool false) => evCode T call lf fn rd y A H
    | _ => none := rfl
theorem ec_block {id c} : evCode T call lf fn rd (.block id c) A H = match evCode T call lf fn rd c A H with
    | some (.exit id', A', H') => if Nat.beq id' id then some (.normal, A', H') else some (.exit id', A', H')
    | some (.normal, A', H') => some (.normal, A', H')
    | some (.ret, A', H') => some (.ret, A', H')
    | none => none := rfl
theorem ec_loop {c} : evCode T call lf fn rd (.loop c) A H = evLoop (runC T call lf fn rd c) lf A H := rfl
theorem ec_exit {id} : evCode T call lf fn rd (.exit id) A H = some (.exit id, A, H) := rfl
theorem ec_ret : evCode T call lf fn rd .ret A H = some (.ret, A, H) := rfl
end

theorem getT_cons0 (v : Value) (r : List Value) : getT (v :: r) 0 = v := rfl
theorem setT_length : ∀ (l : List Value) (i : Nat) (v : Value), (setT l i v).length = l.length
  | [], _, _ => rfl
  | _ :: _, 0, _ => rfl
  | x :: r, n + 1, v => by simp [setT, setT_length r n v]
theorem getT_set : ∀ (l : List Value) (i j : Nat) (v : Value), i < l.length → getT (setT l i v) j = if i = j then v else getT l j
  | [], i, j, v, h => by simp at h
  | x :: r, 0, 0, v, h => by simp [getT, setT]
  | x :: r, 0, j + 1, v, h => by simp [getT, setT]
  | x :: r, i + 1, 0, v, h => by simp [getT, setT]
  | x :: r, i + 1, j + 1, v, h => by simp [getT, setT, getT_set r i j v (by simpa using h)]

theorem wrapI_small {n : Int} (h1 : -9223372036854775808 ≤ n) (h2 : n ≤ 9223372036854775807) : wrapI .i64 n = n := by
  simp only [wrapI]
  omega



/-- What a round of a loop has come to. -/
def LStep (I : Nat → AF → AH → Prop) (Q : AX → AF → AH → Prop) (m : Nat) (r : AX × AF × AH) : Prop :=
  (r.1 = .normal ∧ ∃ m', m = m' + 1 ∧ I m' r.2.1 r.2.2) ∨ (r.1 ≠ .normal ∧ Q r.1 r.2.1 r.2.2)

theorem loop_go {F : AF → AH → Option (AX × AF × AH)} {fuel : Nat} {A0 : AF} {H1 : AH} {r : Option (AX × AF × AH)} (hr : evLoop F fuel A0 H1 = r) {Q : AX → AF → AH → Prop} (I : Nat → AF → AH → Prop) (m : Nat) (hm : m < fuel) (hI : I m A0 H1)
    (step : ∀ m A H, I m A H → ∃ r, F A H = some r ∧ LStep I Q m r) : ∃ x A' H', r = some (x, A', H') ∧ Q x A' H' := by
  obtain ⟨x, A', H', h1, h2⟩ := loop_ind (Q := Q) I (fun m A H h => let ⟨⟨x, A', H'⟩, h1, h2⟩ := step m A H h; ⟨x, A', H', h1, h2⟩) m fuel A0 H1 hm hI
  exact ⟨x, A', H', by rw [← hr, h1], h2⟩

theorem F75 : tabF Try.prog 75 = some Try.f75 := by kernel_rfl

def I75 (s : SV) (m : Nat) (A : AF) (H : AH) : Prop := ∃ (i : Nat) (acc : Int), i + m = s.n ∧ sumG s.g m i acc = s.plain ∧ A.tm.length = 23 ∧ A.marks = [] ∧ getT A.tm 3 = .int .i64 acc ∧ getT A.tm 14 = .int .i64 (i : Int) ∧ getT A.tm 13 = .int .i64 s.n ∧ getT A.tm 12 = .slice (some ⟨0, 0, some 1⟩) s.n 0 ∧ lookB H.bs 0 = some (.ints s.g)
def Q75 (s : SV) (x : AX) (A' : AF) (_ : AH) : Prop := x = .exit 0 ∧ A'.tm.length = 23 ∧ A'.marks = [] ∧ getT A'.tm 3 = .int .i64 s.plain

set_option maxRecDepth 10000 in
set_option maxHeartbeats 2000000 in
theorem plainKinds_ev (call : Value → List Value → AH → Option (Value × AH)) (s : SV) (hn : s.n ≤ 200) : ∃ H', evFn (tabT Try.prog) call 300 kpT 75 Try.f75 [s.val] s.hp = some (.int .i64 s.plain, H') := by
  simp only [evFn, Try.f75, SV.val, SV.hp]
  simp [ec_skip, ec_label, ec_reg, ec_draw, ec_seq, ec_cond, ec_block, ec_loop, ec_exit, ec_ret, evSeq, evOp, vOp, hOp, aWanted, aYielded, opd, putT, closedV, undef, aBin, intOp, sameK, mapO, joinR, hasAddr, pushB, aAlloc, Value.cells, T3, T4, T22, FA24_0, FA24_1, FA24_2, FA24_3, FA24_4, FA24_5, FA24_6, FA24_7, FA24_8, LD3, LD4, LD22, LD27, LDr, LD24, LEN22, IA22, cellAt, lookB, Nat.beq_eq, getT, setT]
  generalize hr : evLoop _ _ _ _ = r
  obtain ⟨x, A', H', rfl, rfl, hl, hmk, h3⟩ := loop_go (Q := Q75 s) hr
    (I75 s)
    s.n (by omega) ⟨0, _, by omega, rfl, rfl, rfl, rfl, rfl, rfl, rfl, rfl⟩ (by
      clear hr
      rintro m A H ⟨i, acc, him, hsum, hl, hmk, h3, h14, h13, h12, hH⟩
      simp only [runC]
      cases m with
      | zero =>
        have hi : ¬ i < s.n := by omega
        simp only [sumG] at hsum
        simp [ec_skip, ec_label, ec_reg, ec_draw, ec_seq, ec_cond, ec_block, ec_loop, ec_exit, ec_ret, evSeq, evOp, vOp, hOp, aWanted, aYielded, opd, putT, closedV, undef, aBin, intOp, sameK, mapO, joinR, hasAddr, pushB, aAlloc, Value.cells, T3, T4, T22, FA24_0, FA24_1, FA24_2, FA24_3, FA24_4, FA24_5, FA24_6, FA24_7, FA24_8, LD3, LD4, LD22, LD27, LDr, LD24, LEN22, IA22, cellAt, lookB, Nat.beq_eq, getT_set, setT_length, hl, hmk, h3, h14, h13, h12, hi]
        exact .inr ⟨by simp, rfl, by simp [setT_length, hl], rfl, by simp [getT_set, hl, h3, hsum]⟩
      | succ m =>
        have hi : i < s.n := by omega
        simp [ec_skip, ec_label, ec_reg, ec_draw, ec_seq, ec_cond, ec_block, ec_loop, ec_exit, ec_ret, evSeq, evOp, vOp, hOp, aWanted, aYielded, opd, putT, closedV, undef, aBin, intOp, sameK, mapO, joinR, hasAddr, pushB, aAlloc, Value.cells, T3, T4, T22, FA24_0, FA24_1, FA24_2, FA24_3, FA24_4, FA24_5, FA24_6, FA24_7, FA24_8, LD3, LD4, LD22, LD27, LDr, LD24, LEN22, IA22, cellAt, lookB, Nat.beq_eq, getT_set, setT_length, hl, hmk, h3, h14, h13, h12, hH, hi]
        refine .inl ⟨rfl, m, rfl, i + 1, wrapI .i64 (acc + s.g i), by omega, hsum, ?_⟩
        have hw : wrapI .i64 ((i : Int) + 1) = ((i + 1 : Nat) : Int) := by rw [wrapI_small (by omega) (by omega)]; rfl
        simp [getT_set, setT_length, hl, h13, h12, hH, hw])
  simp [ec_skip, ec_label, ec_reg, ec_draw, ec_seq, ec_cond, ec_block, ec_loop, ec_exit, ec_ret, evSeq, evOp, vOp, hOp, aWanted, aYielded, opd, putT, closedV, undef, aBin, intOp, sameK, mapO, joinR, hasAddr, pushB, aAlloc, Value.cells, T3, T4, T22, FA24_0, FA24_1, FA24_2, FA24_3, FA24_4, FA24_5, FA24_6, FA24_7, FA24_8, LD3, LD4, LD22, LD27, LDr, LD24, LEN22, IA22, cellAt, lookB, Nat.beq_eq, finF, takeM, resV, getT_set, setT_length, hl, hmk, h3]
end Go.Proofs.Ytkoppbbmdjhaoaa
