/-
  What is proved: a list of integers of any length, as a row's argument reads it, is related to a known list of cells (nothing of the program).
-/
import Derived.Test.YtdbpemmhkfbegaaSr
namespace Go.Proofs.Ytdbpemmhkfbegaa
open Go.RowKit Go.ChangeShapes Go.WideShapes
set_option linter.unusedSimpArgs false
set_option linter.unusedVariables false

/-- A list of integers as it lies in a world. -/
def IL (w : World) (u : Value) (n : Nat) (g : Nat → Int) : Prop :=
  (n = 0 ∧ (u = .slice none 0 0 ∨ ∃ a cap, u = .slice (some a) 0 cap)) ∨
  (0 < n ∧ ∃ (b o cap : Nat) (e : TypeId) (fz : Nat × Nat) (ccs : Array Value), u = .slice (some ⟨b, o, none⟩) n cap ∧ n ≤ cap ∧ cap ≤ maxLen ∧ w.heap[b]? = some (.cells ccs e fz) ∧ ∀ j : Nat, j < n → ccs[o + j]? = some (.int .i64 (g j)))

theorem ints_open {H : Type} {enc : TypeId × Value → H} {P : Program} {w : World} {fuel : Nat} {t e : TypeId} {cs : List Value} {x : DataW H × List MemPlace} (ht : P.underlying t = some (.slice e)) (he : P.underlying e = some (.int .i64)) (hc : P.cellsOf e = 1)
    (h : DataW.trod enc P w 0 (fun _ => true) true fuel t cs = some x) : ∃ (u : Value) (n : Nat) (g : Nat → Int), cs = [u] ∧ IL w u n g := by
  rcases open_ints ht he hc h with ⟨rfl, _⟩ | ⟨a, len, cap, zs, rfl, _, hl, hmx, hz, _, hcell, _⟩
  · exact ⟨_, 0, fun _ => 0, rfl, .inl ⟨rfl, .inl rfl⟩⟩
  · have hz' : zs.length = cap := by simpa using hz
    refine ⟨_, len, fun j => zs.getD j 0, rfl, ?_⟩
    by_cases h0 : len = 0
    · subst h0
      exact .inl ⟨rfl, .inr ⟨a, cap, rfl⟩⟩
    · have hfirst := hcell 0 (by omega)
      have ha0 : a.add 0 = a := by simp [Addr.add]
      rw [ha0] at hfirst
      obtain ⟨hs, c, e', fz, hb, _⟩ := cell_spot hfirst
      obtain ⟨b, o, sp⟩ := a
      simp only at hs hb
      subst hs
      refine .inr ⟨by omega, b, o, cap, e', fz, c, rfl, hl, hmx, hb, fun j hj => ?_⟩
      have hj' := hcell j (by omega)
      rw [addr_add] at hj'
      obtain ⟨_, c', e2, fz2, hb2, hv⟩ := cell_spot hj'
      simp only at hb2 hv
      rw [hb] at hb2
      cases hb2
      exact hv

/-- A list of integers as the runs take it, of block 0. -/
def intV : Nat → Value
  | 0 => .slice (some ⟨0, 0, some 1⟩) 0 0
  | n + 1 => .slice (some ⟨0, 0, none⟩) (n + 1) 1

theorem IL.max {w : World} {u : Value} {n : Nat} {g : Nat → Int} (h : IL w u n g) : n ≤ maxLen := by
  rcases h with ⟨rfl, _⟩ | ⟨_, _, _, _, _, _, _, _, h1, h2, _⟩
  · exact Nat.zero_le _
  · exact Nat.le_trans h1 h2

theorem IL.rel {w : World} {u : Value} {n : Nat} {g : Nat → Int} (h : IL w u n g) (h0 : ∃ c e fz, w.heap[0]? = some (.cells c e fz)) : ∃ x : Nat × Nat × Nat,
    (∀ (ρ : BMap), ρ 0 = some x → VRel ρ (intV n) u) ∧ (∀ (ρ : BMap), BRel ρ w.heap.size w x (.cells true (intsL g n))) := by
  have lt : ∀ k o, w.heap[k]? = some o → k < w.heap.size := fun k o ho => (Array.getElem?_eq_some_iff.1 ho).1
  rcases h with ⟨rfl, hu⟩ | ⟨hn, b, o, cap, e, fz, ccs, rfl, hl, _, hb, hc⟩
  · obtain ⟨c, e, fz, hc⟩ := h0
    refine ⟨(0, 0, 0), fun ρ _ => ?_, fun ρ => ⟨c, e, fz, hc, fun j v hv => by simp [intsL] at hv, ?_, by simp [intsL]⟩⟩
    · rcases hu with rfl | ⟨a, cap, rfl⟩
      · exact .rnil
      · exact .rnone
    · simpa using lt _ _ hc
  · obtain ⟨m, rfl⟩ : ∃ m, n = m + 1 := ⟨n - 1, by omega⟩
    refine ⟨(b, o, cap * 1), fun ρ hi => ?_, fun ρ => ⟨ccs, e, fz, hb, fun j v hv => ?_, ?_, by rw [intsL_len]; show m + 1 ≤ cap * 1; omega⟩⟩
    · exact VRel.slice (off := 0) hi hl (by omega)
    · have hj : j < m + 1 := by
        have := (List.getElem?_eq_some_iff.1 hv).1
        rwa [intsL_len] at this
      rw [intsL_at _ _ _ hj] at hv
      cases hv
      exact ⟨_, hc j hj, .int _ _⟩
    · simpa using lt _ _ hb

end Go.Proofs.Ytdbpemmhkfbegaa
