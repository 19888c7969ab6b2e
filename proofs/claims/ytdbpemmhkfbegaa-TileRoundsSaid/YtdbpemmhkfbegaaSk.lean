/-
  What is proved: nothing of the program. This text holds runs of code in steps that keep what comes behind as code, drawn regions that only read, and what is asked of a memory for them.
-/
import Derived.Test.YtdbpemmhkfbegaaSx
namespace Go.Proofs.Ytdbpemmhkfbegaa
open Go.RowKit
set_option linter.unusedSimpArgs false
set_option linter.unusedVariables false

section
variable (T : TypeId → Option TI) (call : Value → List Value → AH → Option (Value × AH)) (lf : Nat) (fn : FuncId) (rd : Option Nat)
noncomputable def seqK (y : Code) : Option (AX × AF × AH) → Option (AX × AF × AH)
  | some (.normal, A', H') => evCode T call lf fn rd y A' H'
  | r => r
noncomputable def blockK (id : Nat) : Option (AX × AF × AH) → Option (AX × AF × AH)
  | some (.exit id', A', H') => if Nat.beq id' id then some (.normal, A', H') else some (.exit id', A', H')
  | r => r
noncomputable def regK : Option (AF × AH) → Option (AX × AF × AH)
  | some (A', H') => some (.normal, A', H')
  | none => none
noncomputable def opK (ops : Array Oper) (dst : Option Tmp) (r : List Oper) (A : AF) : Option (Value × AH) → Option (AF × AH)
  | some (v, H') => evSeq T call ops r { A with tm := putT A.tm dst v } H'
  | none => none
variable {T call lf fn rd} {A : AF} {H : AH}
theorem ek_seq {x y} : evCode T call lf fn rd (.seq x y) A H = seqK T call lf fn rd y (evCode T call lf fn rd x A H) := by
  rw [ec_seq]
  rcases evCode T call lf fn rd x A H with _ | ⟨_ | _ | _, _, _⟩ <;> rfl
theorem ek_block {id c} : evCode T call lf fn rd (.block id c) A H = blockK id (evCode T call lf fn rd c A H) := by
  rw [ec_block]
  rcases evCode T call lf fn rd c A H with _ | ⟨_ | _ | _, _, _⟩ <;> rfl
theorem ek_reg {i ops} : evCode T call lf fn rd (.region i ops false) A H = regK (evSeq T call ops ops.toList A H) := by
  rw [ec_reg]
  rcases evSeq T call ops ops.toList A H with _ | ⟨_, _⟩ <;> rfl
theorem ek_draw {i ops} : evCode T call lf fn rd (.region i ops true) A H = regK (evDrawX T call ops A H) := by
  rw [ec_draw]
  rcases evDrawX T call ops A H with _ | ⟨_, _⟩ <;> rfl
theorem ek_nil {ops} : evSeq T call ops [] A H = some (A, H) := rfl
theorem ek_op {ops o r} : evSeq T call ops (o :: r) A H = if aWanted o ops A.tm then opK T call ops o.dst r A (evOp T call o (opd A.tm) H) else evSeq T call ops r { A with tm := putT A.tm o.dst undef } H := by
  rw [evSeq]
  rcases evOp T call o (opd A.tm) H with _ | ⟨_, _⟩ <;> rfl
theorem opK_some {ops dst r v H'} : opK T call ops dst r A (some (v, H')) = evSeq T call ops r { A with tm := putT A.tm dst v } H' := rfl
theorem regK_some {A' : AF} {H' : AH} : regK (some (A', H')) = some (.normal, A', H') := rfl
theorem seqK_normal {y} {A' : AF} {H' : AH} : seqK T call lf fn rd y (some (.normal, A', H')) = evCode T call lf fn rd y A' H' := rfl
theorem seqK_exit {y id} {A' : AF} {H' : AH} : seqK T call lf fn rd y (some (.exit id, A', H')) = some (.exit id, A', H') := rfl
theorem seqK_ret {y} {A' : AF} {H' : AH} : seqK T call lf fn rd y (some (.ret, A', H')) = some (.ret, A', H') := rfl
theorem blockK_normal {id} {A' : AF} {H' : AH} : blockK id (some (.normal, A', H')) = some (.normal, A', H') := rfl
theorem blockK_ret {id} {A' : AF} {H' : AH} : blockK id (some (.ret, A', H')) = some (.ret, A', H') := rfl
theorem blockK_exit {id id'} {A' : AF} {H' : AH} : blockK id (some (.exit id', A', H')) = if Nat.beq id' id then some (.normal, A', H') else some (.exit id', A', H') := rfl
end

/-- A drawn region that only reads. -/
theorem draw_ro {T : TypeId → Option TI} {call : Value → List Value → AH → Option (Value × AH)} {ops : Array Oper} {A : AF} {H : AH} {X : Option (AF × AH)} (hX : evDrawX T call ops A H = X) {Pt : Tm → Prop} (hS : statOK ops = true) (hk : decrK H.bs = true)
    (h : ∃ rs, drRun T call ops A.tm H.bs (befs ops.toList) ops.toList 0 [] H.next = some (rs, H.next) ∧ dynOK (befs ops.toList) rs A.tm.n = true ∧ wheap H.bs rs = H.bs ∧ Pt (finT A.tm rs)) :
    ∃ tm', X = some (⟨tm', A.marks⟩, H) ∧ tm'.n = A.tm.n ∧ Pt tm' := by
  obtain ⟨rs, h1, h2, h3, h4⟩ := h
  refine ⟨finT A.tm rs, ?_, (finT_spec A.tm rs).1, h4⟩
  rw [← hX]
  have : evDraw T call ops A H = some (⟨finT A.tm rs, A.marks⟩, H) := by
    simp only [evDraw, hS, hk, Bool.and_self, if_true]
    rw [h1]
    simp only [h2, if_true, h3]
  simp only [evDrawX, this]

/-- A drawn region. -/
theorem draw_any {T : TypeId → Option TI} {call : Value → List Value → AH → Option (Value × AH)} {ops : Array Oper} {A : AF} {H H' : AH} {X : Option (AF × AH)} (hX : evDrawX T call ops A H = X) {Pt : Tm → Prop} (hS : statOK ops = true) (hk : decrK H.bs = true)
    (h : ∃ rs nx, drRun T call ops A.tm H.bs (befs ops.toList) ops.toList 0 [] H.next = some (rs, nx) ∧ dynOK (befs ops.toList) rs A.tm.n = true ∧ (⟨nx, wheap H.bs rs⟩ : AH) = H' ∧ Pt (finT A.tm rs)) :
    ∃ tm', X = some (⟨tm', A.marks⟩, H') ∧ tm'.n = A.tm.n ∧ Pt tm' := by
  obtain ⟨rs, nx, h1, h2, h3, h4⟩ := h
  refine ⟨finT A.tm rs, ?_, (finT_spec A.tm rs).1, h4⟩
  rw [← hX]
  have : evDraw T call ops A H = some (⟨finT A.tm rs, A.marks⟩, H') := by
    simp only [evDraw, hS, hk, Bool.and_self, if_true]
    rw [h1]
    simp only [h2, if_true, h3]
  simp only [evDrawX, this]

/-- A memory whose blocks have falling numbers, all of them below the next one. -/
def MI (H : AH) : Prop := decrK H.bs = true ∧ ∀ p ∈ H.bs, p.1 < H.next

theorem MI.push {H : AH} (h : MI H) (k : ABlk) : MI ⟨H.next + 1, (H.next, k) :: H.bs⟩ := by
  obtain ⟨h1, h2⟩ := h
  refine ⟨?_, fun p hp => ?_⟩
  · show decrK ((H.next, k) :: H.bs) = true
    cases hb : H.bs with
    | nil => rfl
    | cons q r =>
      obtain ⟨j, k'⟩ := q
      have hj := h2 (j, k') (by rw [hb]; exact List.mem_cons_self)
      rw [hb] at h1
      simp only [decrK, Bool.and_eq_true]
      exact ⟨by simpa [Nat.blt_eq] using hj, h1⟩
  · rcases List.mem_cons.1 hp with rfl | hp
    · exact Nat.lt_succ_self _
    · exact Nat.lt_succ_of_lt (h2 p hp)

theorem setB_ids (i : Nat) (k : ABlk) : ∀ bs : List (Nat × ABlk), (setB bs i k).map (·.1) = bs.map (·.1)
  | [] => rfl
  | (j, q) :: r => by
    simp only [setB]
    split
    · rfl
    · simp [setB_ids i k r]
theorem decrK_ids : ∀ (a b : List (Nat × ABlk)), a.map (·.1) = b.map (·.1) → decrK a = decrK b
  | [], [], _ => rfl
  | [], _ :: _, h => by simp at h
  | _ :: _, [], h => by simp at h
  | [(i, k)], [(j, q)], _ => rfl
  | [_], _ :: _ :: _, h => by simp at h
  | _ :: _ :: _, [_], h => by simp at h
  | (i, k) :: (i2, k2) :: r, (j, q) :: (j2, q2) :: s, h => by
    simp only [List.map_cons, List.cons.injEq] at h
    obtain ⟨h1, h2, h3⟩ := h
    simp only [decrK]
    rw [h1, decrK_ids ((i2, k2) :: r) ((j2, q2) :: s) (by simp [h2, h3]), h2]
theorem MI.set {H : AH} (h : MI H) (i : Nat) (k : ABlk) : MI ⟨H.next, setB H.bs i k⟩ := by
  obtain ⟨h1, h2⟩ := h
  refine ⟨(decrK_ids _ _ (setB_ids i k H.bs)).trans h1, fun p hp => ?_⟩
  have : p.1 ∈ (setB H.bs i k).map (·.1) := List.mem_map.2 ⟨p, hp, rfl⟩
  rw [setB_ids] at this
  obtain ⟨q, hq, e⟩ := List.mem_map.1 this
  rw [← e]
  exact h2 q hq
theorem MI.new {H : AH} (h : MI H) : newOnes H.next (roB H.bs) = [] := by
  cases hb : roB H.bs with
  | nil => rfl
  | cons p r =>
    obtain ⟨i, k⟩ := p
    obtain ⟨q, hq, _⟩ := roB_mem (bs := H.bs) (p := (i, k)) (by rw [hb]; exact List.mem_cons_self)
    have hi : i < H.next := h.2 _ hq
    have : Nat.ble H.next i = false := by
      cases hh : Nat.ble H.next i with
      | false => rfl
      | true => have := Nat.le_of_ble_eq_true hh; omega
    simp only [newOnes, this, Bool.false_eq_true, if_false]
theorem lookB_roB_cells : ∀ (bs : List (Nat × ABlk)) (i : Nat) (ro : Bool) (cs : List Value), lookB bs i = some (.cells ro cs) → decrK bs = true → lookB (roB bs) i = some (.cells true cs)
  | [], i, ro, cs, h, _ => by cases h
  | (j, k) :: r, i, ro, cs, h, hd => by
    have hd' : decrK r = true := by
      cases r with
      | nil => rfl
      | cons q r =>
        obtain ⟨a, b⟩ := q
        simp only [decrK, Bool.and_eq_true] at hd
        exact hd.2
    simp only [lookB] at h
    split at h
    · rename_i hb
      cases h
      simp only [roB, roK, lookB, hb, if_true]
    · rename_i hb
      have ih := lookB_roB_cells r i ro cs h hd'
      simp only [roB]
      split
      · simp only [lookB, hb, Bool.false_eq_true, if_false, ih]
      · exact ih
theorem lookB_lt {H : AH} (h : MI H) {i : Nat} {k : ABlk} (hk : lookB H.bs i = some k) : i < H.next := h.2 _ (lookB_mem hk)

/-- Whether a number lies between two. -/
def btw (n a b : Int) : Bool := decide (a ≤ n) && decide (n ≤ b)

end Go.Proofs.Ytdbpemmhkfbegaa
