/-
  What is proved: what the document's own Check answers, for every set with lists of at most 200 numbers.
-/
import Derived.Test.YtkoppbbmdjhaoaaHb
namespace Go.Proofs.Ytkoppbbmdjhaoaa
open Go.RowKit
set_option linter.unusedSimpArgs false

/-- The memory behind the box of a set. -/
def SV.bx (s : SV) : AH := ⟨3, [(2, .cells false [.int .i64 s.p, .slice (some ⟨0, 0, some 1⟩) s.n 0, .int .i64 s.w, .int .i64 s.d, .int .i64 s.f, .int .i64 s.c, .int .i64 s.m, .int .i64 s.de, .slice (some ⟨1, 0, some 1⟩) s.k 0]), (1, .ints s.h), (0, .ints s.g)]⟩

section
variable (T : TypeId → Option TI) (call : Value → List Value → AH → Option (Value × AH)) (lf : Nat) (fn : FuncId) (rd : Bool)
def seqK (y : Code) : Option (AX × AF × AH) → Option (AX × AF × AH)
  | some (.normal, A', H') => evCode T call lf fn rd y A' H'
  | r => r
def blockK (id : Nat) : Option (AX × AF × AH) → Option (AX × AF × AH)
  | some (.exit id', A', H') => if Nat.beq id' id then some (.normal, A', H') else some (.exit id', A', H')
  | r => r
def regK : Option (AF × AH) → Option (AX × AF × AH)
  | some (A', H') => some (.normal, A', H')
  | none => none
def opK (ops : Array Oper) (dst : Option Tmp) (r : List Oper) (A : AF) : Option (Value × AH) → Option (AF × AH)
  | some (v, H') => evSeq T call ops r { A with tm := putT A.tm dst v } H'
  | none => none
variable {T call lf fn rd} {A : AF} {H : AH}
theorem ek_seq {x y} : evCode T call lf fn rd (.seq x y) A H = seqK T call lf fn rd y (evCode T call lf fn rd x A H) := by
  rw [ec_seq]
  rcases evCode T call lf fn rd x A H with _ | ⟨_ | _ | _, _, _⟩ <;> rfl
theorem ek_block {id c} : evCode T call lf fn rd (.block id c) A H = blockK id (evCode T call lf fn rd c A H) := by
  rw [ec_block]
  rcases evCode T call lf fn rd c A H with _ | ⟨_ | _ | _, _, _⟩ <;> rfl
theorem ek_reg {i ops} : evCode T call lf fn rd (.region i ops false) A H = regK (evSeq T call ops ops.toList A H) := by
  rw [ec_reg]
  rcases evSeq T call ops ops.toList A H with _ | ⟨_, _⟩ <;> rfl
theorem ek_draw {i ops} : evCode T call lf fn rd (.region i ops true) A H = regK (evDraw T call ops A H) := by
  rw [ec_draw]
  rcases evDraw T call ops A H with _ | ⟨_, _⟩ <;> rfl
theorem ek_nil {ops} : evSeq T call ops [] A H = some (A, H) := rfl
theorem ek_op {ops o r} : evSeq T call ops (o :: r) A H = if aWanted o ops A.tm then opK T call ops o.dst r A (evOp T call o (opd A.tm) H) else evSeq T call ops r { A with tm := putT A.tm o.dst undef } H := by
  rw [evSeq]
  rcases evOp T call o (opd A.tm) H with _ | ⟨_, _⟩ <;> rfl
theorem opK_some {ops dst r v H'} : opK T call ops dst r A (some (v, H')) = evSeq T call ops r { A with tm := putT A.tm dst v } H' := rfl
theorem regK_some {A' : AF} {H' : AH} : regK (some (A', H')) = some (.normal, A', H') := rfl
theorem seqK_normal {y} {A' : AF} {H' : AH} : seqK T call lf fn rd y (some (.normal, A', H')) = evCode T call lf fn rd y A' H' := rfl
theorem seqK_exit {y id} {A' : AF} {H' : AH} : seqK T call lf fn rd y (some (.exit id, A', H')) = some (.exit id, A', H') := rfl
theorem seqK_ret {y} {A' : AF} {H' : AH} : seqK T call lf fn rd y (some (.ret, A', H')) = some (.ret, A', H') := rfl
theorem blockK_normal {id} {A' : AF} {H' : AH} : blockK id (some (.normal, A', H')) = some (.normal, A', H') := rfl
theorem blockK_ret {id} {A' : AF} {H' : AH} : blockK id (some (.ret, A', H')) = some (.ret, A', H') := rfl
theorem blockK_exit {id id'} {A' : AF} {H' : AH} : blockK id (some (.exit id', A', H')) = if Nat.beq id' id then some (.normal, A', H') else some (.exit id', A', H') := rfl
end

def boolOf : Value → Option Bool
  | .bool b => some b
  | _ => none
theorem aY (ops : Array Oper) (tm : List Value) (j : Nat) : aYielded ops tm j = match (ops[j]?).bind (·.dst) with
    | some t => boolOf (getT tm t)
    | none => none := by
  unfold aYielded
  cases (ops[j]?).bind (·.dst) with
  | none => rfl
  | some t =>
    simp only [Option.bind_some, getT_eq]
    cases tm[t]? with
    | none => rfl
    | some v => cases v <;> rfl

theorem getT_fin (tm : List Value) (rs : List DR) (t : Nat) (h : t < tm.length) : getT (finT tm rs) t = tv tm all1 rs t := by
  simp [getT_eq, finT, h]
theorem fin_length (tm : List Value) (rs : List DR) : (finT tm rs).length = tm.length := by simp [finT]

theorem evDraw_of {T : TypeId → Option TI} {call : Value → List Value → AH → Option (Value × AH)} {ops : Array Oper} {A : AF} {H : AH} {rs : List DR} {next : Nat} (hS : statOK ops = true) (hk : decrK H.bs = true)
    (hd : drRun T call ops A.tm H.bs (befs ops.toList) ops.toList 0 [] H.next = some (rs, next)) (hdyn : dynOK (befs ops.toList) rs A.tm.length = true) :
    evDraw T call ops A H = some ({ A with tm := finT A.tm rs }, { next, bs := wheap H.bs rs }) := by
  simp [evDraw, hS, hk, hd, hdyn]

theorem evDraw_ex {T : TypeId → Option TI} {call : Value → List Value → AH → Option (Value × AH)} {ops : Array Oper} {A : AF} {H : AH} {X : Option (AF × AH)} (hX : evDraw T call ops A H = X) {Pq : List DR × Nat → Prop} (hS : statOK ops = true) (hk : decrK H.bs = true)
    (h : ∃ r, drRun T call ops A.tm H.bs (befs ops.toList) ops.toList 0 [] H.next = some r ∧ dynOK (befs ops.toList) r.1 A.tm.length = true ∧ Pq r) :
    ∃ r, X = some (⟨finT A.tm r.1, A.marks⟩, ⟨r.2, wheap H.bs r.1⟩) ∧ Pq r := by
  obtain ⟨⟨rs, nx⟩, h1, h2, h3⟩ := h
  exact ⟨(rs, nx), by rw [← hX, evDraw_of hS hk h1 h2], h3⟩

theorem b02 : Nat.beq 0 2 = false := rfl
theorem b12 : Nat.beq 1 2 = false := rfl
theorem wrapI_one : wrapI .i64 1 = 1 := by decide

def P22 (s : SV) (R : Bool) (r : List DR × Nat) : Prop := r.2 = 3 ∧ wheap s.bx.bs r.1 = s.bx.bs ∧ ∀ tm, tv tm all1 r.1 95 = .bool R ∧ tv tm all1 r.1 5 = getT tm 5 ∧ tv tm all1 r.1 4 = getT tm 4 ∧ tv tm all1 r.1 1 = getT tm 1

def prevG (h : Nat → Int) : Nat → Int
  | 0 => -1
  | i + 1 => h i

def I18a (s : SV) (m : Nat) (A : AF) (H : AH) : Prop := ∃ (i : Nat), i + m = s.n ∧ idxBad s.g m i = idxBad s.g s.n 0 ∧ A.tm.length = 115 ∧ A.marks = [] ∧ getT A.tm 3 = .int .i64 (i : Int) ∧ getT A.tm 1 = .pointer (some ⟨2, 0, none⟩) ∧ H = s.bx
def Q18a (s : SV) (x : AX) (A' : AF) (H : AH) : Prop := A'.tm.length = 115 ∧ A'.marks = [] ∧ H = s.bx ∧ ((x = .exit 0 ∧ anyBad s.g s.n = false ∧ getT A'.tm 1 = .pointer (some ⟨2, 0, none⟩)) ∨ (x = .ret ∧ anyBad s.g s.n = true ∧ getT A'.tm 2 = .int .i64 2))
def I18b (s : SV) (m : Nat) (A : AF) (H : AH) : Prop := ∃ (i : Nat), i + m = s.k ∧ redsG s.h (wrapI .i64 (s.plain - 1)) m i (prevG s.h i) = s.reds ∧ A.tm.length = 115 ∧ A.marks = [] ∧ getT A.tm 5 = .int .i64 (i : Int) ∧ getT A.tm 4 = .int .i64 s.plain ∧ getT A.tm 1 = .pointer (some ⟨2, 0, none⟩) ∧ H = s.bx
def Q18b (s : SV) (x : AX) (A' : AF) (H : AH) : Prop := A'.tm.length = 115 ∧ A'.marks = [] ∧ H = s.bx ∧ ((x = .exit 2 ∧ s.reds = 0 ∧ getT A'.tm 4 = .int .i64 s.plain ∧ getT A'.tm 1 = .pointer (some ⟨2, 0, none⟩)) ∨ (x = .ret ∧ s.reds ≠ 0 ∧ getT A'.tm 2 = .int .i64 s.reds))

/-- What the document's own Check says. -/
def SV.rerr (s : SV) : Int :=
  if btw s.p 3 4 then if 3 < (s.n : Int) then 8 else if anyBad s.g s.n then 2
    else if btw s.w 0 4 && btw s.d 0 3 && btw s.f 0 8 then if btw s.c 1 4 && btw s.m 1 4 && btw s.de 0 20 then
      if s.plain < 1 then 6 else if s.reds = 0 then if s.size < wrapI .i64 (wrapI .i64 (wrapI .i64 (s.p * s.full) + 1) + s.de) then 6 else 0 else s.reds
    else 2 else 2
  else 2

theorem idxBad_nat (g : Nat → Int) : ∀ m i, idxBad g m i = -1 ∨ 0 ≤ idxBad g m i
  | 0, _ => .inl rfl
  | m + 1, i => by
    rw [idxBad]
    split
    · exact idxBad_nat g m (i + 1)
    · exact .inr (by omega)

set_option maxRecDepth 10000 in
set_option maxHeartbeats 8000000 in
theorem rcheck_ev (call : Value → List Value → AH → Option (Value × AH)) (hb : ∀ (n l m : Int) (H : AH), call (.func (.func 78) #[] #[]) [.int .i64 n, .int .i64 l, .int .i64 m] H = some (.bool (btw n l m), H))
    (hp : ∀ (s : SV) (H : AH), lookB H.bs 0 = some (.ints s.g) → lookB H.bs 1 = some (.ints s.h) → call (.func (.func 79) #[] #[]) [s.val] H = some (.int .i64 s.plain, H))
    (s : SV) (hn : s.n ≤ 200) (hk : s.k ≤ 200) : ∃ H', evFn (tabT Try.prog) call 300 kpT 18 Try.f18 [s.val] s.hp = some (.int .i64 s.rerr, H') := by
  have hp' := hp s
  simp only [SV.val] at hp'
  simp only [evFn, Try.f18, SV.val, SV.hp]
  cases c1 : btw s.p 3 4 with
  | false => simp [ec_skip, ec_label, ek_reg, ek_draw, ek_seq, ec_cond, ek_block, ec_loop, ec_exit, ec_ret, ek_nil, ek_op, opK_some, regK_some, seqK_normal, seqK_exit, seqK_ret, blockK_normal, blockK_exit, blockK_ret, evOp, vOp, hOp, aWanted, aY, boolOf, opd, putT, closedV, undef, aBin, intOp, sameK, mapO, joinR, hasAddr, pushB, aAlloc, Value.cells, T3, T4, T22, FA24_0, FA24_1, FA24_2, FA24_3, FA24_4, FA24_5, FA24_6, FA24_7, FA24_8, LD3, LD4, LD22, LD27, LDr, LD24, LEN22, IA22, cellAt, lookB, Nat.beq_eq, takeCells, getT, setT, hb, c1, finF, takeM, resV, SV.rerr]
  | true =>
  by_cases c2 : 3 < (s.n : Int)
  · simp [ec_skip, ec_label, ek_reg, ek_draw, ek_seq, ec_cond, ek_block, ec_loop, ec_exit, ec_ret, ek_nil, ek_op, opK_some, regK_some, seqK_normal, seqK_exit, seqK_ret, blockK_normal, blockK_exit, blockK_ret, evOp, vOp, hOp, aWanted, aY, boolOf, opd, putT, closedV, undef, aBin, intOp, sameK, mapO, joinR, hasAddr, pushB, aAlloc, Value.cells, T3, T4, T22, FA24_0, FA24_1, FA24_2, FA24_3, FA24_4, FA24_5, FA24_6, FA24_7, FA24_8, LD3, LD4, LD22, LD27, LDr, LD24, LEN22, IA22, cellAt, lookB, Nat.beq_eq, takeCells, getT, setT, hb, c1, c2, finF, takeM, resV, SV.rerr]
  simp [ec_skip, ec_label, ek_reg, ek_draw, ek_seq, ec_cond, ek_block, ec_loop, ec_exit, ec_ret, ek_nil, ek_op, opK_some, regK_some, seqK_normal, seqK_exit, seqK_ret, blockK_normal, blockK_exit, blockK_ret, evOp, vOp, hOp, aWanted, aY, boolOf, opd, putT, closedV, undef, aBin, intOp, sameK, mapO, joinR, hasAddr, pushB, aAlloc, Value.cells, T3, T4, T22, FA24_0, FA24_1, FA24_2, FA24_3, FA24_4, FA24_5, FA24_6, FA24_7, FA24_8, LD3, LD4, LD22, LD27, LDr, LD24, LEN22, IA22, cellAt, lookB, Nat.beq_eq, takeCells, getT, setT, hb, c1, c2]
  generalize hr : evLoop _ _ _ _ = r
  obtain ⟨x, A', H', rfl, hl, hmk, rfl, hx⟩ := loop_go (Q := Q18a s) hr (I18a s) s.n (by omega) ⟨0, by omega, rfl, rfl, rfl, rfl, rfl, rfl⟩ (by
      clear hr
      rintro m A H ⟨i, him, hres, hl, hmk, h3, h1, rfl⟩
      simp only [runC]
      cases m with
      | zero =>
        have hi : ¬ i < s.n := by omega
        have hany : anyBad s.g s.n = false := by simp [anyBad, ← hres, idxBad]
        simp [ec_skip, ec_label, ek_reg, ek_draw, ek_seq, ec_cond, ek_block, ec_loop, ec_exit, ec_ret, ek_nil, ek_op, opK_some, regK_some, seqK_normal, seqK_exit, seqK_ret, blockK_normal, blockK_exit, blockK_ret, evOp, vOp, hOp, aWanted, aY, boolOf, opd, putT, closedV, undef, aBin, intOp, sameK, mapO, joinR, hasAddr, pushB, aAlloc, Value.cells, T3, T4, T22, FA24_0, FA24_1, FA24_2, FA24_3, FA24_4, FA24_5, FA24_6, FA24_7, FA24_8, LD3, LD4, LD22, LD27, LDr, LD24, LEN22, IA22, cellAt, lookB, Nat.beq_eq, takeCells, SV.bx, getT_set, setT_length, hl, hmk, h3, h1, hi]
        exact .inr ⟨by simp, by simp [setT_length, hl], rfl, rfl, .inl ⟨rfl, hany, by simp [getT_set, setT_length, hl, h1]⟩⟩
      | succ m =>
        have hi : i < s.n := by omega
        have hw : wrapI .i64 ((i : Int) + 1) = ((i + 1 : Nat) : Int) := by rw [wrapI_small (by omega) (by omega)]; rfl
        rw [idxBad] at hres
        cases c3 : btw (s.g i) 1 9 with
        | true =>
          simp only [c3, if_true] at hres
          simp [ec_skip, ec_label, ek_reg, ek_draw, ek_seq, ec_cond, ek_block, ec_loop, ec_exit, ec_ret, ek_nil, ek_op, opK_some, regK_some, seqK_normal, seqK_exit, seqK_ret, blockK_normal, blockK_exit, blockK_ret, evOp, vOp, hOp, aWanted, aY, boolOf, opd, putT, closedV, undef, aBin, intOp, sameK, mapO, joinR, hasAddr, pushB, aAlloc, Value.cells, T3, T4, T22, FA24_0, FA24_1, FA24_2, FA24_3, FA24_4, FA24_5, FA24_6, FA24_7, FA24_8, LD3, LD4, LD22, LD27, LDr, LD24, LEN22, IA22, cellAt, lookB, Nat.beq_eq, takeCells, SV.bx, getT_set, setT_length, hl, hmk, h3, h1, hi, hb, c3]
          refine .inl ⟨rfl, m, rfl, i + 1, by omega, hres, ?_⟩
          simp [SV.bx, getT_set, setT_length, hl, h3, h1, hw]
        | false =>
          simp only [c3, Bool.false_eq_true, if_false] at hres
          have hany : anyBad s.g s.n = true := by simp [anyBad, ← hres]
          simp [ec_skip, ec_label, ek_reg, ek_draw, ek_seq, ec_cond, ek_block, ec_loop, ec_exit, ec_ret, ek_nil, ek_op, opK_some, regK_some, seqK_normal, seqK_exit, seqK_ret, blockK_normal, blockK_exit, blockK_ret, evOp, vOp, hOp, aWanted, aY, boolOf, opd, putT, closedV, undef, aBin, intOp, sameK, mapO, joinR, hasAddr, pushB, aAlloc, Value.cells, T3, T4, T22, FA24_0, FA24_1, FA24_2, FA24_3, FA24_4, FA24_5, FA24_6, FA24_7, FA24_8, LD3, LD4, LD22, LD27, LDr, LD24, LEN22, IA22, cellAt, lookB, Nat.beq_eq, takeCells, SV.bx, getT_set, setT_length, hl, hmk, h3, h1, hi, hb, c3]
          exact .inr ⟨by simp, by simp [setT_length, hl], rfl, rfl, .inr ⟨rfl, hany, by simp [getT_set, setT_length, hl]⟩⟩)
  clear hr
  rcases hx with ⟨rfl, c3, h1⟩ | ⟨rfl, c3, h2⟩
  rotate_left
  · simp [ec_skip, ec_label, ek_reg, ek_draw, ek_seq, ec_cond, ek_block, ec_loop, ec_exit, ec_ret, ek_nil, ek_op, opK_some, regK_some, seqK_normal, seqK_exit, seqK_ret, blockK_normal, blockK_exit, blockK_ret, evOp, vOp, hOp, aWanted, aY, boolOf, opd, putT, closedV, undef, aBin, intOp, sameK, mapO, joinR, hasAddr, pushB, aAlloc, Value.cells, T3, T4, T22, FA24_0, FA24_1, FA24_2, FA24_3, FA24_4, FA24_5, FA24_6, FA24_7, FA24_8, LD3, LD4, LD22, LD27, LDr, LD24, LEN22, IA22, cellAt, lookB, Nat.beq_eq, takeCells, finF, takeM, resV, getT_set, setT_length, hl, hmk, h2, c1, c2, c3, SV.rerr]
  cases c4 : btw s.w 0 4 with
  | false => simp [ec_skip, ec_label, ek_reg, ek_draw, ek_seq, ec_cond, ek_block, ec_loop, ec_exit, ec_ret, ek_nil, ek_op, opK_some, regK_some, seqK_normal, seqK_exit, seqK_ret, blockK_normal, blockK_exit, blockK_ret, evOp, vOp, hOp, aWanted, aY, boolOf, opd, putT, closedV, undef, aBin, intOp, sameK, mapO, joinR, hasAddr, pushB, aAlloc, Value.cells, T3, T4, T22, FA24_0, FA24_1, FA24_2, FA24_3, FA24_4, FA24_5, FA24_6, FA24_7, FA24_8, LD3, LD4, LD22, LD27, LDr, LD24, LEN22, IA22, cellAt, lookB, Nat.beq_eq, takeCells, SV.bx, finF, takeM, resV, getT_set, setT_length, hl, hmk, h1, hb, c1, c2, c3, c4, SV.rerr]
  | true =>
  cases c5 : btw s.d 0 3 with
  | false => simp [ec_skip, ec_label, ek_reg, ek_draw, ek_seq, ec_cond, ek_block, ec_loop, ec_exit, ec_ret, ek_nil, ek_op, opK_some, regK_some, seqK_normal, seqK_exit, seqK_ret, blockK_normal, blockK_exit, blockK_ret, evOp, vOp, hOp, aWanted, aY, boolOf, opd, putT, closedV, undef, aBin, intOp, sameK, mapO, joinR, hasAddr, pushB, aAlloc, Value.cells, T3, T4, T22, FA24_0, FA24_1, FA24_2, FA24_3, FA24_4, FA24_5, FA24_6, FA24_7, FA24_8, LD3, LD4, LD22, LD27, LDr, LD24, LEN22, IA22, cellAt, lookB, Nat.beq_eq, takeCells, SV.bx, finF, takeM, resV, getT_set, setT_length, hl, hmk, h1, hb, c1, c2, c3, c4, c5, SV.rerr]
  | true =>
  cases c6 : btw s.f 0 8 with
  | false => simp [ec_skip, ec_label, ek_reg, ek_draw, ek_seq, ec_cond, ek_block, ec_loop, ec_exit, ec_ret, ek_nil, ek_op, opK_some, regK_some, seqK_normal, seqK_exit, seqK_ret, blockK_normal, blockK_exit, blockK_ret, evOp, vOp, hOp, aWanted, aY, boolOf, opd, putT, closedV, undef, aBin, intOp, sameK, mapO, joinR, hasAddr, pushB, aAlloc, Value.cells, T3, T4, T22, FA24_0, FA24_1, FA24_2, FA24_3, FA24_4, FA24_5, FA24_6, FA24_7, FA24_8, LD3, LD4, LD22, LD27, LDr, LD24, LEN22, IA22, cellAt, lookB, Nat.beq_eq, takeCells, SV.bx, finF, takeM, resV, getT_set, setT_length, hl, hmk, h1, hb, c1, c2, c3, c4, c5, c6, SV.rerr]
  | true =>
  cases c7 : btw s.c 1 4 with
  | false => simp [ec_skip, ec_label, ek_reg, ek_draw, ek_seq, ec_cond, ek_block, ec_loop, ec_exit, ec_ret, ek_nil, ek_op, opK_some, regK_some, seqK_normal, seqK_exit, seqK_ret, blockK_normal, blockK_exit, blockK_ret, evOp, vOp, hOp, aWanted, aY, boolOf, opd, putT, closedV, undef, aBin, intOp, sameK, mapO, joinR, hasAddr, pushB, aAlloc, Value.cells, T3, T4, T22, FA24_0, FA24_1, FA24_2, FA24_3, FA24_4, FA24_5, FA24_6, FA24_7, FA24_8, LD3, LD4, LD22, LD27, LDr, LD24, LEN22, IA22, cellAt, lookB, Nat.beq_eq, takeCells, SV.bx, finF, takeM, resV, getT_set, setT_length, hl, hmk, h1, hb, c1, c2, c3, c4, c5, c6, c7, SV.rerr]
  | true =>
  cases c8 : btw s.m 1 4 with
  | false => simp [ec_skip, ec_label, ek_reg, ek_draw, ek_seq, ec_cond, ek_block, ec_loop, ec_exit, ec_ret, ek_nil, ek_op, opK_some, regK_some, seqK_normal, seqK_exit, seqK_ret, blockK_normal, blockK_exit, blockK_ret, evOp, vOp, hOp, aWanted, aY, boolOf, opd, putT, closedV, undef, aBin, intOp, sameK, mapO, joinR, hasAddr, pushB, aAlloc, Value.cells, T3, T4, T22, FA24_0, FA24_1, FA24_2, FA24_3, FA24_4, FA24_5, FA24_6, FA24_7, FA24_8, LD3, LD4, LD22, LD27, LDr, LD24, LEN22, IA22, cellAt, lookB, Nat.beq_eq, takeCells, SV.bx, finF, takeM, resV, getT_set, setT_length, hl, hmk, h1, hb, c1, c2, c3, c4, c5, c6, c7, c8, SV.rerr]
  | true =>
  cases c9 : btw s.de 0 20 with
  | false => simp [ec_skip, ec_label, ek_reg, ek_draw, ek_seq, ec_cond, ek_block, ec_loop, ec_exit, ec_ret, ek_nil, ek_op, opK_some, regK_some, seqK_normal, seqK_exit, seqK_ret, blockK_normal, blockK_exit, blockK_ret, evOp, vOp, hOp, aWanted, aY, boolOf, opd, putT, closedV, undef, aBin, intOp, sameK, mapO, joinR, hasAddr, pushB, aAlloc, Value.cells, T3, T4, T22, FA24_0, FA24_1, FA24_2, FA24_3, FA24_4, FA24_5, FA24_6, FA24_7, FA24_8, LD3, LD4, LD22, LD27, LDr, LD24, LEN22, IA22, cellAt, lookB, Nat.beq_eq, takeCells, SV.bx, finF, takeM, resV, getT_set, setT_length, hl, hmk, h1, hb, c1, c2, c3, c4, c5, c6, c7, c8, c9, SV.rerr]
  | true =>
  by_cases c10 : s.plain < 1
  · simp [ec_skip, ec_label, ek_reg, ek_draw, ek_seq, ec_cond, ek_block, ec_loop, ec_exit, ec_ret, ek_nil, ek_op, opK_some, regK_some, seqK_normal, seqK_exit, seqK_ret, blockK_normal, blockK_exit, blockK_ret, evOp, vOp, hOp, aWanted, aY, boolOf, opd, putT, closedV, undef, aBin, intOp, sameK, mapO, joinR, hasAddr, pushB, aAlloc, Value.cells, T3, T4, T22, FA24_0, FA24_1, FA24_2, FA24_3, FA24_4, FA24_5, FA24_6, FA24_7, FA24_8, LD3, LD4, LD22, LD27, LDr, LD24, LEN22, IA22, cellAt, lookB, Nat.beq_eq, takeCells, SV.bx, finF, takeM, resV, getT_set, setT_length, hl, hmk, h1, hb, hp', c1, c2, c3, c4, c5, c6, c7, c8, c9, c10, SV.rerr]
  simp [ec_skip, ec_label, ek_reg, ek_draw, ek_seq, ec_cond, ek_block, ec_loop, ec_exit, ec_ret, ek_nil, ek_op, opK_some, regK_some, seqK_normal, seqK_exit, seqK_ret, blockK_normal, blockK_exit, blockK_ret, evOp, vOp, hOp, aWanted, aY, boolOf, opd, putT, closedV, undef, aBin, intOp, sameK, mapO, joinR, hasAddr, pushB, aAlloc, Value.cells, T3, T4, T22, FA24_0, FA24_1, FA24_2, FA24_3, FA24_4, FA24_5, FA24_6, FA24_7, FA24_8, LD3, LD4, LD22, LD27, LDr, LD24, LEN22, IA22, cellAt, lookB, Nat.beq_eq, takeCells, SV.bx, getT_set, setT_length, hl, hmk, h1, hb, hp', c1, c2, c3, c4, c5, c6, c7, c8, c9, c10]
  generalize hr : evLoop _ _ _ _ = r
  obtain ⟨x, A2, H2, rfl, hl2, hmk2, rfl, hx⟩ := loop_go (Q := Q18b s) hr (I18b s) s.k (by omega) ⟨0, by omega, rfl, by simp [setT_length, hl], by simp, by simp [getT_set, setT_length, hl], by simp [getT_set, setT_length, hl], by simp [getT_set, setT_length, hl, h1], rfl⟩ (by
      clear hr
      clear hl hmk h1 A'
      rintro m A H ⟨i, him, hres, hl, hmk, h5, h4, h1, rfl⟩
      simp only [runC]
      cases m with
      | zero =>
        have hi : ¬ i < s.k := by omega
        simp only [redsG] at hres
        simp [ec_skip, ec_label, ek_reg, ek_draw, ek_seq, ec_cond, ek_block, ec_loop, ec_exit, ec_ret, ek_nil, ek_op, opK_some, regK_some, seqK_normal, seqK_exit, seqK_ret, blockK_normal, blockK_exit, blockK_ret, evOp, vOp, hOp, aWanted, aY, boolOf, opd, putT, closedV, undef, aBin, intOp, sameK, mapO, joinR, hasAddr, pushB, aAlloc, Value.cells, T3, T4, T22, FA24_0, FA24_1, FA24_2, FA24_3, FA24_4, FA24_5, FA24_6, FA24_7, FA24_8, LD3, LD4, LD22, LD27, LDr, LD24, LEN22, IA22, cellAt, lookB, Nat.beq_eq, takeCells, SV.bx, getT_set, setT_length, hl, hmk, h5, h4, h1, hi]
        exact .inr ⟨by simp, by simp [setT_length, hl], rfl, rfl, .inl ⟨rfl, hres.symm, by simp [getT_set, setT_length, hl, h4], by simp [getT_set, setT_length, hl, h1]⟩⟩
      | succ m =>
        have hi : i < s.k := by omega
        have hw : wrapI .i64 ((i : Int) + 1) = ((i + 1 : Nat) : Int) := by rw [wrapI_small (by omega) (by omega)]; rfl
        simp only [redsG] at hres
        cases d1 : btw (s.h i) 0 (wrapI .i64 (s.plain - 1)) with
        | false =>
          simp only [d1, Bool.false_eq_true, if_false] at hres
          simp [ec_skip, ec_label, ek_reg, ek_draw, ek_seq, ec_cond, ek_block, ec_loop, ec_exit, ec_ret, ek_nil, ek_op, opK_some, regK_some, seqK_normal, seqK_exit, seqK_ret, blockK_normal, blockK_exit, blockK_ret, evOp, vOp, hOp, aWanted, aY, boolOf, opd, putT, closedV, undef, aBin, intOp, sameK, mapO, joinR, hasAddr, pushB, aAlloc, Value.cells, T3, T4, T22, FA24_0, FA24_1, FA24_2, FA24_3, FA24_4, FA24_5, FA24_6, FA24_7, FA24_8, LD3, LD4, LD22, LD27, LDr, LD24, LEN22, IA22, cellAt, lookB, Nat.beq_eq, takeCells, SV.bx, getT_set, setT_length, hl, hmk, h5, h4, h1, hi, hb, d1]
          exact .inr ⟨by simp, by simp [setT_length, hl], rfl, rfl, .inr ⟨rfl, by rw [← hres]; decide, by simp [getT_set, setT_length, hl, hres]⟩⟩
        | true =>
          simp only [d1, if_true] at hres
          simp [ec_skip, ec_label, ek_reg, ek_draw, ek_seq, ec_cond, ek_block, ec_loop, ec_exit, ec_ret, ek_nil, ek_op, opK_some, regK_some, seqK_normal, seqK_exit, seqK_ret, blockK_normal, blockK_exit, blockK_ret, evOp, vOp, hOp, aWanted, aY, boolOf, opd, putT, closedV, undef, aBin, intOp, sameK, mapO, joinR, hasAddr, pushB, aAlloc, Value.cells, T3, T4, T22, FA24_0, FA24_1, FA24_2, FA24_3, FA24_4, FA24_5, FA24_6, FA24_7, FA24_8, LD3, LD4, LD22, LD27, LDr, LD24, LEN22, IA22, cellAt, lookB, Nat.beq_eq, takeCells, SV.bx, getT_set, setT_length, hl, hmk, h5, h4, h1, hi, hb, d1]
          generalize hX : evDraw _ _ _ _ _ = X
          clear hp hp'
          by_cases hpos : (0 : Int) < (i : Int)
          · obtain ⟨j, hij⟩ : ∃ j, i = j + 1 := ⟨i - 1, by omega⟩
            have hwj : wrapI .i64 ((i : Int) - 1) = (j : Int) := by rw [wrapI_small (by omega) (by omega)]; omega
            have hj : j < s.k := by omega
            obtain ⟨⟨rs, nx⟩, rfl, hnx, hwh, htv⟩ := evDraw_ex (Pq := P22 s (decide (s.h i ≤ s.h j))) hX (by kernel_rfl) (by simp [decrK]) (by
              clear hX
              generalize befs _ = M
              have hpos' : 0 < i := by omega
              simp [drRun, drOp, looks, guardT, tmpsOf, Op.operands, wantedR, gOf, natMem, tv, all1, roB, news, newOnes, decr, evOp, vOp, hOp, opd, closedV, undef, aBin, intOp, sameK, opdO, FA24_8, LD22, LDr, IA22, cellAt, lookB, Nat.beq_eq, T3, T4, T22, getT_set, setT_length, hl, h5, h1, hpos', hwj, hi, hj]
              exact ⟨by simp [dynOK, b02, b12], rfl, by simp [SV.bx, wheap, news], fun tm => by simp [tv, all1]⟩)
            have hprev : prevG s.h i = s.h j := by rw [hij]; rfl
            rw [hprev] at hres
            simp only at hnx hwh htv
            subst hnx
            simp only [SV.bx] at hwh
            by_cases d2 : s.h i ≤ s.h j
            · simp only [d2, if_true] at hres
              simp [ec_skip, ec_label, ek_reg, ek_draw, ek_seq, ec_cond, ek_block, ec_loop, ec_exit, ec_ret, ek_nil, ek_op, opK_some, regK_some, seqK_normal, seqK_exit, seqK_ret, blockK_normal, blockK_exit, blockK_ret, evOp, vOp, hOp, aWanted, aY, boolOf, opd, putT, closedV, undef, aBin, intOp, sameK, mapO, joinR, hasAddr, pushB, aAlloc, Value.cells, T3, T4, T22, FA24_0, FA24_1, FA24_2, FA24_3, FA24_4, FA24_5, FA24_6, FA24_7, FA24_8, LD3, LD4, LD22, LD27, LDr, LD24, LEN22, IA22, cellAt, lookB, Nat.beq_eq, takeCells, getT_fin, fin_length, htv, getT_set, setT_length, hl, hmk, h5, h4, h1, d2, hwh]
              refine ⟨_, _, _, ⟨rfl, rfl, rfl⟩, .inr ⟨by simp, by simp [setT_length, fin_length, hl], rfl, rfl, .inr ⟨rfl, by rw [← hres]; decide, by simp [getT_fin, fin_length, htv, getT_set, setT_length, hl, hres]⟩⟩⟩
            · simp only [d2, if_false] at hres
              simp [ec_skip, ec_label, ek_reg, ek_draw, ek_seq, ec_cond, ek_block, ec_loop, ec_exit, ec_ret, ek_nil, ek_op, opK_some, regK_some, seqK_normal, seqK_exit, seqK_ret, blockK_normal, blockK_exit, blockK_ret, evOp, vOp, hOp, aWanted, aY, boolOf, opd, putT, closedV, undef, aBin, intOp, sameK, mapO, joinR, hasAddr, pushB, aAlloc, Value.cells, T3, T4, T22, FA24_0, FA24_1, FA24_2, FA24_3, FA24_4, FA24_5, FA24_6, FA24_7, FA24_8, LD3, LD4, LD22, LD27, LDr, LD24, LEN22, IA22, cellAt, lookB, Nat.beq_eq, takeCells, getT_fin, fin_length, htv, getT_set, setT_length, hl, hmk, h5, h4, h1, d2, hw, hwh]
              refine ⟨_, _, _, ⟨rfl, rfl, rfl⟩, .inl ⟨rfl, m, rfl, i + 1, by omega, hres, ?_⟩⟩
              simp [SV.bx, wrapI_one, getT_fin, fin_length, htv, getT_set, setT_length, hl, h5, h4, h1]
          · obtain rfl : i = 0 := by omega
            obtain ⟨⟨rs, nx⟩, rfl, hnx, hwh, htv⟩ := evDraw_ex (Pq := P22 s false) hX (by kernel_rfl) (by simp [decrK]) (by
              clear hX
              simp [drRun, drOp, looks, guardT, tmpsOf, Op.operands, wantedR, gOf, natMem, tv, all1, roB, news, newOnes, decr, evOp, vOp, hOp, opd, closedV, undef, aBin, intOp, sameK, opdO, FA24_8, LD22, LDr, IA22, cellAt, lookB, Nat.beq_eq, T3, T4, T22, getT_set, setT_length, hl, h5, h1, hpos]
              exact ⟨by simp [dynOK, b02, b12], rfl, by simp [SV.bx, wheap, news], fun tm => by simp [tv, all1]⟩)
            have d2 : ¬ s.h 0 ≤ prevG s.h 0 := by
              simp only [btw, Bool.and_eq_true, decide_eq_true_eq] at d1
              simp only [prevG]
              omega
            simp only at hnx hwh htv
            subst hnx
            simp only [SV.bx] at hwh
            simp only [d2, if_false] at hres
            simp [ec_skip, ec_label, ek_reg, ek_draw, ek_seq, ec_cond, ek_block, ec_loop, ec_exit, ec_ret, ek_nil, ek_op, opK_some, regK_some, seqK_normal, seqK_exit, seqK_ret, blockK_normal, blockK_exit, blockK_ret, evOp, vOp, hOp, aWanted, aY, boolOf, opd, putT, closedV, undef, aBin, intOp, sameK, mapO, joinR, hasAddr, pushB, aAlloc, Value.cells, T3, T4, T22, FA24_0, FA24_1, FA24_2, FA24_3, FA24_4, FA24_5, FA24_6, FA24_7, FA24_8, LD3, LD4, LD22, LD27, LDr, LD24, LEN22, IA22, cellAt, lookB, Nat.beq_eq, takeCells, getT_fin, fin_length, htv, getT_set, setT_length, hl, hmk, h5, h4, h1, d2, hw, hwh]
            refine ⟨_, _, _, ⟨rfl, rfl, rfl⟩, .inl ⟨rfl, m, rfl, 1, by omega, hres, ?_⟩⟩
            simp [SV.bx, wrapI_one, getT_fin, fin_length, htv, getT_set, setT_length, hl, h5, h4, h1])
  rcases hx with ⟨rfl, c11, h4, h1⟩ | ⟨rfl, c11, h2⟩
  rotate_left
  · simp [ec_skip, ec_label, ek_reg, ek_draw, ek_seq, ec_cond, ek_block, ec_loop, ec_exit, ec_ret, ek_nil, ek_op, opK_some, regK_some, seqK_normal, seqK_exit, seqK_ret, blockK_normal, blockK_exit, blockK_ret, evOp, vOp, hOp, aWanted, aY, boolOf, opd, putT, closedV, undef, aBin, intOp, sameK, mapO, joinR, hasAddr, pushB, aAlloc, Value.cells, T3, T4, T22, FA24_0, FA24_1, FA24_2, FA24_3, FA24_4, FA24_5, FA24_6, FA24_7, FA24_8, LD3, LD4, LD22, LD27, LDr, LD24, LEN22, IA22, cellAt, lookB, Nat.beq_eq, takeCells, finF, takeM, resV, getT_set, setT_length, hl2, hmk2, h2, c1, c2, c3, c4, c5, c6, c7, c8, c9, c10, c11, SV.rerr]
  have hfull : wrapI .i64 (wrapI .i64 (3 * s.m) + 1) = s.full := rfl
  have hsize : wrapI .i64 (wrapI .i64 (s.plain * s.c) + s.f) = s.size := rfl
  by_cases c12 : s.size < wrapI .i64 (wrapI .i64 (wrapI .i64 (s.p * s.full) + 1) + s.de)
  · simp [ec_skip, ec_label, ek_reg, ek_draw, ek_seq, ec_cond, ek_block, ec_loop, ec_exit, ec_ret, ek_nil, ek_op, opK_some, regK_some, seqK_normal, seqK_exit, seqK_ret, blockK_normal, blockK_exit, blockK_ret, evOp, vOp, hOp, aWanted, aY, boolOf, opd, putT, closedV, undef, aBin, intOp, sameK, mapO, joinR, hasAddr, pushB, aAlloc, Value.cells, T3, T4, T22, FA24_0, FA24_1, FA24_2, FA24_3, FA24_4, FA24_5, FA24_6, FA24_7, FA24_8, LD3, LD4, LD22, LD27, LDr, LD24, LEN22, IA22, cellAt, lookB, Nat.beq_eq, takeCells, SV.bx, finF, takeM, resV, getT_set, setT_length, hl2, hmk2, h1, h4, hfull, hsize, c1, c2, c3, c4, c5, c6, c7, c8, c9, c10, c11, c12, SV.rerr]
  · simp [ec_skip, ec_label, ek_reg, ek_draw, ek_seq, ec_cond, ek_block, ec_loop, ec_exit, ec_ret, ek_nil, ek_op, opK_some, regK_some, seqK_normal, seqK_exit, seqK_ret, blockK_normal, blockK_exit, blockK_ret, evOp, vOp, hOp, aWanted, aY, boolOf, opd, putT, closedV, undef, aBin, intOp, sameK, mapO, joinR, hasAddr, pushB, aAlloc, Value.cells, T3, T4, T22, FA24_0, FA24_1, FA24_2, FA24_3, FA24_4, FA24_5, FA24_6, FA24_7, FA24_8, LD3, LD4, LD22, LD27, LDr, LD24, LEN22, IA22, cellAt, lookB, Nat.beq_eq, takeCells, SV.bx, finF, takeM, resV, getT_set, setT_length, hl2, hmk2, h1, h4, hfull, hsize, c1, c2, c3, c4, c5, c6, c7, c8, c9, c10, c11, c12, SV.rerr]

end Go.Proofs.Ytkoppbbmdjhaoaa
