/-
  What is proved: a list of pairs of integers, as a row's argument reads it, is related to a known list of cells (nothing of the program).
-/
import Derived.Test.YtdbpemmhkfbegaaSz
import Derived.OpenShut
import Derived.HandedShaped
namespace Go.Proofs.Ytdbpemmhkfbegaa
open Go.RowKit Go.ChangeShapes Go.WideShapes
set_option linter.unusedSimpArgs false
set_option linter.unusedVariables false

/-- A list of pairs of integers as it lies in a world. -/
def PL (w : World) (u : Value) (n : Nat) (g : Nat → Int) : Prop :=
  (n = 0 ∧ (u = .slice none 0 0 ∨ ∃ a cap, u = .slice (some a) 0 cap)) ∨
  (0 < n ∧ ∃ (b o cap : Nat) (e : TypeId) (fz : Nat × Nat) (ccs : Array Value), u = .slice (some ⟨b, o, none⟩) n cap ∧ n ≤ cap ∧ w.heap[b]? = some (.cells ccs e fz) ∧ ∀ j : Nat, j < 2 * n → ccs[o + j]? = some (.int .i64 (g j)))

theorem cell_spot {w : World} {a : Addr} {v : Value} (h : w.cell? a = some v) : a.spot = none ∧ ∃ c e fz, w.heap[a.block]? = some (.cells c e fz) ∧ c[a.off]? = some v := by
  unfold World.cell? at h
  split at h
  · rename_i c e fz hc
    split at h
    · cases h
    · rename_i hs
      exact ⟨by simpa using hs, c, e, fz, hc, h⟩
  · cases h

theorem cells_at {w : World} {base : Nat} {a : Addr} {n : Nat} {l : List Value} (h : w.cells? base a n = some l) (i : Nat) (hi : i < n) : w.cell? (a.add i) = l[i]? := by
  unfold World.cells? at h
  split at h
  · have := mapM_some_get h i i (by simp [hi])
    simpa using this
  · cases h

theorem take1 {l : List Value} {k : Nat} {a : Value} (h : (l.drop k).take 1 = [a]) : l[k]? = some a := by
  have := congrArg (fun (q : List Value) => q[0]?) h
  simpa using this

theorem add_add (a : Addr) (x y : Nat) (hx : x = 0 → a.spot = none) (h : a.spot = none) : (a.add x).add y = a.add (x + y) := by
  obtain ⟨b, o, sp⟩ := a
  simp only at h
  subst h
  simp [addr_add, Nat.add_assoc]

theorem pairs_open {H : Type} {enc : TypeId × Value → H} {P : Program} {w : World} {fuel : Nat} {t e ft : TypeId} {fs : Array Field} {f0 f1 : Field} {cs : List Value} {x : DataW H × List MemPlace}
    (ht : P.underlying t = some (.slice e)) (he : P.underlying e = some (.struct fs)) (hc : P.cellsOf e = 2)
    (h0 : fs[0]? = some f0) (t0 : f0.type = ft) (o0 : f0.offset = 0) (h1 : fs[1]? = some f1) (t1 : f1.type = ft) (o1 : f1.offset = 1)
    (hf : P.underlying ft = some (.int .i64)) (hcf : P.cellsOf ft = 1)
    (h : DataW.trod enc P w 0 (fun _ => true) true fuel t cs = some x) : ∃ (u : Value) (n : Nat) (g : Nat → Int), cs = [u] ∧ PL w u n g := by
  rcases DataW.trod_slice ht h with ⟨rfl, _⟩ | ⟨a, len, cap, elems, rest, m, _, rfl, _, _, hl, _, hlen, hel, _, _⟩
  · exact ⟨_, 0, fun _ => 0, rfl, .inl ⟨rfl, .inl rfl⟩⟩
  · by_cases hz : len = 0
    · subst hz
      exact ⟨_, 0, fun _ => 0, rfl, .inl ⟨rfl, .inr ⟨a, cap, rfl⟩⟩⟩
    · have each : ∀ i, i < len → ∃ z0 z1, w.cell? ((a.add (i * 2)).add 0) = some (.int .i64 z0) ∧ w.cell? ((a.add (i * 2)).add 1) = some (.int .i64 z1) := by
        intro i hi
        have h2 := hel i hi
        rw [hc, List.getElem?_eq_getElem (by omega), Option.bind_eq_some_iff] at h2
        obtain ⟨cs', hcs, hy⟩ := h2
        obtain ⟨xs, k, _, _, hcl, hxs, hall⟩ := DataW.trod_struct he hy
        have hs0 : 0 < fs.size := (Array.getElem?_eq_some_iff.1 h0).1
        have hs1 : 1 < fs.size := (Array.getElem?_eq_some_iff.1 h1).1
        have g0 := hall 0 f0 h0
        have g1 := hall 1 f1 h1
        rw [t0, o0, hcf, List.getElem?_eq_getElem (by omega)] at g0
        rw [t1, o1, hcf, List.getElem?_eq_getElem (by omega)] at g1
        obtain ⟨z0, e0, _⟩ := DataW.trod_int hf g0
        obtain ⟨z1, e1, _⟩ := DataW.trod_int hf g1
        refine ⟨z0, z1, ?_, ?_⟩
        · rw [cells_at hcs 0 (by omega)]; exact take1 e0
        · rw [cells_at hcs 1 (by omega)]; exact take1 e1
      have hsp : a.spot = none := by
        obtain ⟨z0, _, hz0, _⟩ := each 0 (by omega)
        have : (a.add (0 * 2)).add 0 = a := by simp [Addr.add]
        rw [this] at hz0
        exact (cell_spot hz0).1
      obtain ⟨b, o, sp⟩ := a
      simp only at hsp
      subst hsp
      have all : ∀ j, j < 2 * len → ∃ z, w.cell? ⟨b, o + j, none⟩ = some (.int .i64 z) := by
        intro j hj
        obtain ⟨z0, z1, e0, e1⟩ := each (j / 2) (by omega)
        simp only [addr_add, Nat.add_zero] at e0 e1
        rcases Nat.mod_two_eq_zero_or_one j with hm | hm
        · exact ⟨z0, by rw [show o + j = o + j / 2 * 2 by omega]; exact e0⟩
        · exact ⟨z1, by rw [show o + j = o + j / 2 * 2 + 1 by omega]; exact e1⟩
      obtain ⟨z, hz0⟩ := all 0 (by omega)
      obtain ⟨_, c, ty, fz, hb, _⟩ := cell_spot hz0
      simp only at hb
      have all2 : ∀ j, ∃ z, j < 2 * len → c[o + j]? = some (.int .i64 z) := by
        intro j
        by_cases hj : j < 2 * len
        · obtain ⟨z, hz⟩ := all j hj
          obtain ⟨_, c', e2, fz2, hb2, hv⟩ := cell_spot hz
          simp only at hb2 hv
          rw [hb] at hb2
          cases hb2
          exact ⟨z, fun _ => hv⟩
        · exact ⟨0, fun h => absurd h hj⟩
      refine ⟨_, len, fun j => Classical.choose (all2 j), rfl, .inr ⟨by omega, b, o, cap, ty, fz, c, rfl, hl, hb, fun j hj => Classical.choose_spec (all2 j) hj⟩⟩

/-- A list of pairs as the runs take it: of length 0, or with cells. -/
def limV : Nat → Value
  | 0 => .slice (some ⟨0, 0, some 1⟩) 0 0
  | n + 1 => .slice (some ⟨0, 0, none⟩) (n + 1) 2

theorem PL.rel {w : World} {u : Value} {n : Nat} {g : Nat → Int} (h : PL w u n g) (h0 : ∃ c e fz, w.heap[0]? = some (.cells c e fz)) : ∃ x : Nat × Nat × Nat,
    (∀ (ρ : BMap), ρ 0 = some x → VRel ρ (limV n) u) ∧ (∀ (ρ : BMap), BRel ρ w.heap.size w x (.cells true (intsL g (2 * n)))) := by
  have lt : ∀ k o, w.heap[k]? = some o → k < w.heap.size := fun k o ho => (Array.getElem?_eq_some_iff.1 ho).1
  rcases h with ⟨rfl, hu⟩ | ⟨hn, b, o, cap, e, fz, ccs, rfl, hl, hb, hc⟩
  · obtain ⟨c, e, fz, hc⟩ := h0
    refine ⟨(0, 0, 0), fun ρ _ => ?_, fun ρ => ⟨c, e, fz, hc, fun j v hv => by simp [intsL] at hv, ?_, by simp [intsL]⟩⟩
    · rcases hu with rfl | ⟨a, cap, rfl⟩
      · exact .rnil
      · exact .rnone
    · simpa using lt _ _ hc
  · obtain ⟨m, rfl⟩ : ∃ m, n = m + 1 := ⟨n - 1, by omega⟩
    refine ⟨(b, o, cap * 2), fun ρ hi => ?_, fun ρ => ⟨ccs, e, fz, hb, fun j v hv => ?_, ?_, by rw [intsL_len]; show 2 * (m + 1) ≤ cap * 2; omega⟩⟩
    · exact VRel.slice (off := 0) hi hl (by omega)
    · have hj : j < 2 * (m + 1) := by
        have := (List.getElem?_eq_some_iff.1 hv).1
        rwa [intsL_len] at this
      rw [intsL_at _ _ _ hj] at hv
      cases hv
      exact ⟨_, hc j hj, .int _ _⟩
    · simpa using lt _ _ hb

end Go.Proofs.Ytdbpemmhkfbegaa
