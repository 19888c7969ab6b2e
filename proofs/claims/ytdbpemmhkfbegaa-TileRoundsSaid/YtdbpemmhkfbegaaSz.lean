/-
  What is proved: nothing of the program. This text holds lists of cells that hold integers alone, and loads, stores and places in them, whatever the table of types.
-/
import Derived.Test.YtdbpemmhkfbegaaSy
namespace Go.Proofs.Ytdbpemmhkfbegaa
open Go.RowKit
set_option linter.unusedSimpArgs false
set_option linter.unusedVariables false

def isI : Value → Bool
  | .int .i64 _ => true
  | _ => false
/-- A list of so many cells, all of them integers. -/
def okC (cs : List Value) (m : Nat) : Bool := Nat.beq cs.length m && cs.all isI
/-- The integer in a cell. -/
def gi (cs : List Value) (j : Nat) : Int := match cs[j]? with | some (.int _ z) => z | _ => 0

theorem okC_len {cs : List Value} {m : Nat} (h : okC cs m = true) : cs.length = m := by
  simp only [okC, Bool.and_eq_true] at h
  exact Nat.eq_of_beq_eq_true h.1
theorem okC_at {cs : List Value} {m : Nat} (h : okC cs m = true) {j : Nat} (hj : j < m) : cs[j]? = some (.int .i64 (gi cs j)) := by
  have hl := okC_len h
  simp only [okC, Bool.and_eq_true] at h
  have hlt : j < cs.length := by omega
  have h2 := List.all_eq_true.1 h.2 cs[j] (List.getElem_mem hlt)
  unfold gi
  rw [List.getElem?_eq_getElem hlt]
  generalize cs[j] = v at h2
  unfold isI at h2
  split at h2
  · rfl
  · cases h2
theorem okC_get {cs : List Value} {m : Nat} (h : okC cs m = true) {j : Nat} (hj : j < m) : getR cs j = some (.int .i64 (gi cs j)) := by
  rw [getR_eq]; exact okC_at h hj
theorem okC_take2 {cs : List Value} {m : Nat} (h : okC cs m = true) {j : Nat} (hj : j + 2 ≤ m) : takeCells cs j 2 = some [.int .i64 (gi cs j), .int .i64 (gi cs (j + 1))] := by
  have h0 := okC_at h (j := j) (by omega)
  have h1 := okC_at h (j := j + 1) (by omega)
  have hl := okC_len h
  unfold takeCells
  rw [takeK_eq, dropR_eq, if_pos (by simp; omega)]
  congr 1
  apply List.ext_getElem?
  intro i
  rw [List.getElem?_take, List.getElem?_drop]
  match i with
  | 0 => simpa using h0
  | 1 => simpa using h1
  | i + 2 =>
    simp
    intro hh
    omega
theorem okC_closed {cs : List Value} {m : Nat} (h : okC cs m = true) : cs.all (closedV 3) = true := by
  simp only [okC, Bool.and_eq_true] at h
  refine List.all_eq_true.2 fun v hv => ?_
  have := List.all_eq_true.1 h.2 v hv
  unfold isI at this
  split at this
  · simp [closedV]
  · cases this
theorem okC_nil {cs : List Value} (h : okC cs 0 = true) : cs = [] := List.length_eq_zero_iff.1 (okC_len h)

/-- Cells that hold these integers. -/
def intsL (g : Nat → Int) (n : Nat) : List Value := (List.range n).map fun j => .int .i64 (g j)
theorem intsL_len (g : Nat → Int) (n : Nat) : (intsL g n).length = n := by simp [intsL]
theorem intsL_at (g : Nat → Int) (n j : Nat) (h : j < n) : (intsL g n)[j]? = some (.int .i64 (g j)) := by
  simp [intsL, List.getElem?_range h]
theorem intsL_ok (g : Nat → Int) (n : Nat) : okC (intsL g n) n = true := by
  simp only [okC, intsL_len, Nat.beq_refl, Bool.true_and]
  refine List.all_eq_true.2 fun v hv => ?_
  obtain ⟨j, hj, rfl⟩ := List.mem_map.1 hv
  rfl

section
variable {T : TypeId → Option TI}
theorem ldc {t : TypeId} (h : (T t).map (fun y => aggD y.desc) = some false) (H : AH) (i off : Nat) : aLoad T H t (.pointer (some ⟨i, off, none⟩)) = match lookB H.bs i with | some (.cells _ cs) => cs[off]? | _ => none := by
  cases ht : T t with
  | none => rw [ht] at h; cases h
  | some y =>
    rw [ht] at h
    simp only [Option.map_some, Option.some.injEq] at h
    simp only [aLoad, ht]
    cases hl : lookB H.bs i with
    | none => rfl
    | some k =>
      cases k with
      | cellsT ro cs ty => cases ty <;> simp [h, getR_eq]
      | _ => rfl
theorem lda {t : TypeId} {z : Nat} (h : (T t).map (fun y => (aggD y.desc, y.size)) = some (true, z)) (H : AH) (i off : Nat) : aLoad T H t (.pointer (some ⟨i, off, none⟩)) = match lookB H.bs i with | some (.cells _ cs) => (takeCells cs off z).map (fun l => .agg l.toArray) | _ => none := by
  cases ht : T t with
  | none => rw [ht] at h; cases h
  | some y =>
    rw [ht] at h
    simp only [Option.map_some, Option.some.injEq, Prod.mk.injEq] at h
    simp only [aLoad, ht]
    cases hl : lookB H.bs i with
    | none => rfl
    | some k =>
      cases k with
      | cellsT ro cs ty => cases ty <;> simp [h]
      | _ => rfl
theorem sti {t : TypeId} {z : Nat} (h : (T t).map (·.size) = some z) (H : AH) (i off : Nat) (v : Value) : aStore T H t (.pointer (some ⟨i, off, none⟩)) v = match lookB H.bs i with
    | some (.cells false cs) => if Nat.beq v.cells.toList.length z && Nat.ble (off + v.cells.toList.length) cs.length && v.cells.toList.all cellV then some { H with bs := setB H.bs i (.cells false (putF cs off v.cells.toList)) } else none
    | _ => none := by
  cases ht : T t with
  | none => rw [ht] at h; cases h
  | some y =>
    rw [ht] at h
    simp only [Option.map_some, Option.some.injEq] at h
    simp only [aStore, ht]
    cases hl : lookB H.bs i with
    | none => rfl
    | some k =>
      cases k with
      | cellsT ro cs ty => cases ty <;> cases ro <;> simp [h]
      | _ => rfl
theorem ixa {t e : TypeId} {z : Nat} (h1 : (T t).map (·.desc) = some (.slice e)) (h2 : (T e).map (·.size) = some z) (i off n sz k : Nat) (h : k < n) : aIndexAddr T t (.slice (some ⟨i, off, none⟩) n sz) (.int .i64 (k : Int)) = some (.pointer (some ⟨i, off + k * z, none⟩)) := by
  cases ht : T t with
  | none => rw [ht] at h1; cases h1
  | some y =>
    rw [ht] at h1
    simp only [Option.map_some, Option.some.injEq] at h1
    cases he : T e with
    | none => rw [he] at h2; cases h2
    | some q =>
      rw [he] at h2
      simp only [Option.map_some, Option.some.injEq] at h2
      cases y with
      | mk a b c d ex =>
        simp only at h1
        subst h1
        have hb : Nat.blt k n = true := by simpa [Nat.blt_eq] using h
        simp [aIndexAddr, natV, ht, he, h2, hb]
theorem lens {t e : TypeId} (h1 : (T t).map (·.desc) = some (.slice e)) (a : Option Addr) (n z : Nat) : aLen T t (.slice a n z) = some (.int .i64 n) := by
  cases ht : T t with
  | none => rw [ht] at h1; cases h1
  | some y =>
    rw [ht] at h1
    simp only [Option.map_some, Option.some.injEq] at h1
    cases y with
    | mk s b c d ex =>
      simp only at h1
      subst h1
      simp [aLen, ht]
theorem tkc (cs : List Value) (off n : Nat) : takeCells cs off n = if n ≤ (cs.drop off).length then some ((cs.drop off).take n) else none := by
  unfold takeCells; rw [takeK_eq, dropR_eq]
end

end Go.Proofs.Ytdbpemmhkfbegaa
