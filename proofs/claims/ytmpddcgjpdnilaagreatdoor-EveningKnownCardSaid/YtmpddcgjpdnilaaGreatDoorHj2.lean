/-
  What is proved: what a row's condition on the package-level variables says of a world: their cells lie there.
-/
import Derived.Test.YtmpddcgjpdnilaaGreatDoorEvR
import Derived.Test.YtmpddcgjpdnilaaGreatDoorEvW
import Derived.ProofKit
import Derived.LaidMore
import Derived.OpenShut
import Derived.Stop.Joined
namespace Go.Proofs.YtmpddcgjpdnilaaGreatDoor
open Go.ChangeShapes Go.WideShapes Go.ChangeAt Go.WideElems Go.RowKit
set_option linter.unusedSimpArgs false
set_option linter.unusedVariables false

theorem cell_spot {w : World} {a : Addr} {v : Value} (h : w.cell? a = some v) : a.spot = none ∧ ∃ c e fz, w.heap[a.block]? = some (.cells c e fz) ∧ c[a.off]? = some v := by
  unfold World.cell? at h
  split at h
  · rename_i c e fz hc
    split at h
    · cases h
    · rename_i hs
      exact ⟨by simpa using hs, c, e, fz, hc, h⟩
  · cases h

theorem glob_of_cells {w : World} {g : Nat} {cs : List Value} (h : ∀ (j : Nat) (v : Value), cs[j]? = some v → w.cell? ⟨g, j, none⟩ = some v) (hne : cs ≠ []) :
    g < w.heap.size ∧ ∃ (ccs : Array Value) (e : TypeId) (fz : Nat × Nat), w.heap[g]? = some (.cells ccs e fz) ∧ ∀ (j : Nat) (v : Value), cs[j]? = some v → ccs[j]? = some v := by
  cases cs with
  | nil => exact absurd rfl hne
  | cons a r =>
    obtain ⟨_, c, e, fz, h1, _⟩ := cell_spot (h 0 a rfl)
    refine ⟨(Array.getElem?_eq_some_iff.1 h1).1, c, e, fz, h1, fun j v hv => ?_⟩
    obtain ⟨_, c', e', fz', h2, h3⟩ := cell_spot (h j v hv)
    simp only at h1 h2 h3
    rw [h1] at h2
    cases h2
    exact h3

theorem ints_of_array {H : Type} {enc : TypeId × Value → H} {P : Program} {w : World} {base fuel n : Nat} {spare : Nat → Bool} {held : Bool} {t e : TypeId} {cs : List Value} {x : DataW H × List MemPlace}
    (ht : P.underlying t = some (.array n e)) (he : P.underlying e = some (.int .i64)) (hc : P.cellsOf e = 1) (hct : P.cellsOf t = n) (h : DataW.trod enc P w base spare held fuel t cs = some x) :
    ∃ zs : List Int, cs = zs.map (Value.int .i64) ∧ x.1 = .agg (zs.map fun z => .lit (.int .i64 z)) := by
  obtain ⟨xs, m, _, rfl, hl, hn, hel⟩ := DataW.trod_array ht h
  rw [hct] at hl
  have one : ∀ i, i < n → ∃ z, cs[i]? = some (.int .i64 z) ∧ (xs[i]?).map (·.1) = some (.lit (.int .i64 z)) := fun i hi => by
    have hi' := hel i hi
    rw [hc, Nat.mul_one] at hi'
    cases hx : xs[i]? with
    | none => rw [List.getElem?_eq_none_iff] at hx; omega
    | some y =>
      rw [hx] at hi'
      obtain ⟨z, h1, h2, _⟩ := DataW.trod_int he hi'
      refine ⟨z, ?_, by rw [h2]; rfl⟩
      have := congrArg (fun l : List Value => l[0]?) h1
      simpa using this
  refine ⟨cs.map fun | .int _ z => z | _ => 0, ?_, ?_⟩
  · apply List.ext_getElem?
    intro i
    by_cases hi : i < n
    · obtain ⟨z, h1, _⟩ := one i hi
      simp [h1]
    · rw [List.getElem?_eq_none (by omega), List.getElem?_eq_none (by simp; omega)]
  · show DataW.agg _ = DataW.agg _
    congr 1
    apply List.ext_getElem?
    intro i
    by_cases hi : i < n
    · obtain ⟨z, h1, h2⟩ := one i hi
      simpa [h1] using h2
    · rw [List.getElem?_eq_none (by simp; omega), List.getElem?_eq_none (by simp; omega)]

theorem lits_inj {H : Type} : ∀ (a b : List Int), (a.map fun z => (DataW.lit (.int .i64 z) : DataW H)) = b.map (fun z => DataW.lit (.int .i64 z)) → a = b
  | [], [], _ => rfl
  | [], _ :: _, h => by simp at h
  | _ :: _, [], h => by simp at h
  | x :: a, y :: b, h => by
    simp only [List.map_cons, List.cons.injEq, DataW.lit.injEq, Lit.int.injEq, true_and] at h
    rw [h.1, lits_inj a b h.2]

end Go.Proofs.YtmpddcgjpdnilaaGreatDoor
