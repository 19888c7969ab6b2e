/-
  What is proved: a set of tiles, as a row's argument reads it, is related to the abstract values that the runs take.
-/
import Derived.Test.YtbgknpcbldnabaaWj
import Derived.Test.YtbgknpcbldnabaaEvW
import Derived.WalkKit
import Derived.ProofKit
import Derived.OpenShut
import Derived.HandedShaped
namespace Go.Proofs.Ytbgknpcbldnabaa
set_option linter.unusedSimpArgs false
set_option linter.unusedVariables false
open Go.RowKit Go.ChangeShapes Go.WideShapes Go.ChangeAt

/-- A list of integers as it lies in a world. -/
def SL (w : World) (u : Value) (n : Nat) (g : Nat → Int) : Prop :=
  (n = 0 ∧ (u = .slice none 0 0 ∨ ∃ a cap, u = .slice (some a) 0 cap)) ∨
  ∃ (b o cap : Nat) (e : TypeId) (fz : Nat × Nat) (ccs : Array Value), u = .slice (some ⟨b, o, none⟩) n cap ∧ n ≤ cap ∧ w.heap[b]? = some (.cells ccs e fz) ∧ ∀ j : Nat, j < n → ccs[o + j]? = some (.int .i64 (g j))

theorem cell_spot {w : World} {a : Addr} {v : Value} (h : w.cell? a = some v) : a.spot = none ∧ ∃ c e fz, w.heap[a.block]? = some (.cells c e fz) ∧ c[a.off]? = some v := by
  unfold World.cell? at h
  split at h
  · rename_i c e fz hc
    split at h
    · cases h
    · rename_i hs
      exact ⟨by simpa using hs, c, e, fz, hc, h⟩
  · cases h

theorem slice_open {H : Type} {enc : TypeId × Value → H} {P : Program} {w : World} {fuel : Nat} {t e : TypeId} {cs : List Value} {x : DataW H × List MemPlace} (ht : P.underlying t = some (.slice e)) (he : P.underlying e = some (.int .i64)) (hc : P.cellsOf e = 1)
    (h : DataW.trod enc P w 0 (fun _ => true) true fuel t cs = some x) : ∃ (u : Value) (n : Nat) (g : Nat → Int), cs = [u] ∧ SL w u n g := by
  rcases open_ints ht he hc h with ⟨rfl, _⟩ | ⟨a, len, cap, zs, rfl, _, hl, _, hz, _, hcell, _⟩
  · exact ⟨_, 0, fun _ => 0, rfl, .inl ⟨rfl, .inl rfl⟩⟩
  · have hz' : zs.length = cap := by simpa using hz
    refine ⟨_, len, fun j => zs.getD j 0, rfl, ?_⟩
    by_cases h0 : len = 0
    · subst h0
      exact .inl ⟨rfl, .inr ⟨a, cap, rfl⟩⟩
    · have hfirst := hcell 0 (by omega)
      have ha0 : a.add 0 = a := by simp [Addr.add]
      rw [ha0] at hfirst
      obtain ⟨hs, c, e', fz, hb, _⟩ := cell_spot hfirst
      obtain ⟨b, o, sp⟩ := a
      simp only at hs hb
      subst hs
      refine .inr ⟨b, o, cap, e', fz, c, rfl, hl, hb, fun j hj => ?_⟩
      have hj' := hcell j (by omega)
      rw [addr_add] at hj'
      obtain ⟨_, c', e2, fz2, hb2, hv⟩ := cell_spot hj'
      simp only at hb2 hv
      rw [hb] at hb2
      cases hb2
      exact hv

theorem SL.rel {w : World} {u : Value} {n : Nat} {g : Nat → Int} (h : SL w u n g) (h0 : ∃ c e fz, w.heap[0]? = some (.cells c e fz)) : ∃ x : Nat × Nat × Nat,
    (∀ (ρ : BMap) (i : Nat), ρ i = some x → VRel ρ (.slice (some ⟨i, 0, some 1⟩) n 0) u) ∧ (n ≤ 200 → ∀ (ρ : BMap), BRel ρ w.heap.size w x (.ints g)) := by
  have lt : ∀ k o, w.heap[k]? = some o → k < w.heap.size := fun k o ho => (Array.getElem?_eq_some_iff.1 ho).1
  rcases h with ⟨rfl, hu⟩ | ⟨b, o, cap, e, fz, ccs, rfl, hn, hb, hc⟩
  · obtain ⟨c, e, fz, hc⟩ := h0
    refine ⟨(0, 0, 0), fun ρ i _ => ?_, fun _ ρ => ⟨lt _ _ hc, c, e, fz, hc, fun j hj => absurd hj (Nat.not_lt_zero _), Nat.zero_le _⟩⟩
    rcases hu with rfl | ⟨a, cap, rfl⟩
    · exact .rnil
    · exact .rnone
  · exact ⟨(b, o, n), fun ρ i hi => .rsl hi hn (Nat.le_refl _), fun h200 ρ => ⟨lt _ _ hb, ccs, e, fz, hb, hc, h200⟩⟩

/-- A set as it lies in a world. -/
def SetIn (w : World) (u : Value) (s : SV) : Prop :=
  ∃ u1 u8, u = .agg ⟨[.int .i64 s.p, u1, .int .i64 s.w, .int .i64 s.d, .int .i64 s.f, .int .i64 s.c, .int .i64 s.m, .int .i64 s.de, u8]⟩ ∧ SL w u1 s.n s.g ∧ SL w u8 s.k s.h

theorem take1 {l : List Value} {k : Nat} {a : Value} (h : (l.drop k).take 1 = [a]) : l[k]? = some a := by
  have := congrArg (fun (q : List Value) => q[0]?) h
  simpa using this

theorem nine {l : List Value} (hl : l.length = 9) {a0 a1 a2 a3 a4 a5 a6 a7 a8 : Value} (h0 : l[0]? = some a0) (h1 : l[1]? = some a1) (h2 : l[2]? = some a2) (h3 : l[3]? = some a3) (h4 : l[4]? = some a4) (h5 : l[5]? = some a5) (h6 : l[6]? = some a6) (h7 : l[7]? = some a7) (h8 : l[8]? = some a8) :
    l = [a0, a1, a2, a3, a4, a5, a6, a7, a8] := by
  apply List.ext_getElem?
  intro i
  match i with
  | 0 => exact h0
  | 1 => exact h1
  | 2 => exact h2
  | 3 => exact h3
  | 4 => exact h4
  | 5 => exact h5
  | 6 => exact h6
  | 7 => exact h7
  | 8 => exact h8
  | i + 9 => rw [List.getElem?_eq_none (by omega)]; rfl

set_option maxRecDepth 100000 in
theorem set_open {H : Type} {enc : TypeId × Value → H} {w : World} {base : Nat} {v : Value} {d : DataW H} {ps : List MemPlace} (hv : Value.okWide Try.prog w .any base 24 v) (h : DataW.Trod enc Try.prog w 0 (fun _ => true) true 24 v d ps) : ∃ s, SetIn w v s := by
  obtain ⟨cs, rfl, hsz⟩ := okWide_struct Try.underlying24 hv
  obtain ⟨fuel, hf⟩ := h
  obtain ⟨xs, m, _, _, hlen, hxs, hall⟩ := DataW.trod_struct Try.underlying24 hf
  have c3 : Try.prog.cellsOf 3 = 1 := by kernel_rfl
  have c22 : Try.prog.cellsOf 22 = 1 := by kernel_rfl
  have c24 : Try.prog.cellsOf 24 = 9 := by kernel_rfl
  have u3 : Try.prog.underlying 3 = some (.int .i64) := by kernel_rfl
  have u22 : Try.prog.underlying 22 = some (.slice 3) := by kernel_rfl
  have hl9 : (Value.agg cs).cells.toList.length = 9 := by rw [hlen, c24]
  have hx9 : xs.length = 9 := hxs
  have int (i : Nat) (fd : Field) (hfd : (#[{ name := "Players", type := 3, offset := 0, embedded := false, tag := "", pkgPath := "", byteOffset := 0 },
        { name := "Suits", type := 22, offset := 1, embedded := false, tag := "", pkgPath := "", byteOffset := 8 },
        { name := "Winds", type := 3, offset := 2, embedded := false, tag := "", pkgPath := "", byteOffset := 32 },
        { name := "Dragons", type := 3, offset := 3, embedded := false, tag := "", pkgPath := "", byteOffset := 40 },
        { name := "Flowers", type := 3, offset := 4, embedded := false, tag := "", pkgPath := "", byteOffset := 48 },
        { name := "Copies", type := 3, offset := 5, embedded := false, tag := "", pkgPath := "", byteOffset := 56 },
        { name := "Melds", type := 3, offset := 6, embedded := false, tag := "", pkgPath := "", byteOffset := 64 },
        { name := "Dead", type := 3, offset := 7, embedded := false, tag := "", pkgPath := "", byteOffset := 72 },
        { name := "Reds", type := 22, offset := 8, embedded := false, tag := "", pkgPath := "", byteOffset := 80 }] : Array Field)[i]? = some fd) (ht : fd.type = 3) (ho : fd.offset = i) (hi : i < 9) : ∃ n, (Value.agg cs).cells.toList[i]? = some (.int .i64 n) := by
    have h1 := hall i fd hfd
    rw [ht, c3, ho, List.getElem?_eq_getElem (by omega)] at h1
    obtain ⟨n, hn, _⟩ := DataW.trod_int u3 h1
    exact ⟨n, take1 hn⟩
  have sli (i : Nat) (fd : Field) (hfd : (#[{ name := "Players", type := 3, offset := 0, embedded := false, tag := "", pkgPath := "", byteOffset := 0 },
        { name := "Suits", type := 22, offset := 1, embedded := false, tag := "", pkgPath := "", byteOffset := 8 },
        { name := "Winds", type := 3, offset := 2, embedded := false, tag := "", pkgPath := "", byteOffset := 32 },
        { name := "Dragons", type := 3, offset := 3, embedded := false, tag := "", pkgPath := "", byteOffset := 40 },
        { name := "Flowers", type := 3, offset := 4, embedded := false, tag := "", pkgPath := "", byteOffset := 48 },
        { name := "Copies", type := 3, offset := 5, embedded := false, tag := "", pkgPath := "", byteOffset := 56 },
        { name := "Melds", type := 3, offset := 6, embedded := false, tag := "", pkgPath := "", byteOffset := 64 },
        { name := "Dead", type := 3, offset := 7, embedded := false, tag := "", pkgPath := "", byteOffset := 72 },
        { name := "Reds", type := 22, offset := 8, embedded := false, tag := "", pkgPath := "", byteOffset := 80 }] : Array Field)[i]? = some fd) (ht : fd.type = 22) (ho : fd.offset = i) (hi : i < 9) : ∃ u n g, (Value.agg cs).cells.toList[i]? = some u ∧ SL w u n g := by
    have h1 := hall i fd hfd
    rw [ht, c22, ho, List.getElem?_eq_getElem (by omega)] at h1
    obtain ⟨u, n, g, hn, hs⟩ := slice_open u22 u3 c3 h1
    exact ⟨u, n, g, take1 hn, hs⟩
  obtain ⟨p, h0⟩ := int 0 _ rfl rfl rfl (by omega)
  obtain ⟨u1, n, g, h1, s1⟩ := sli 1 _ rfl rfl rfl (by omega)
  obtain ⟨wi, h2⟩ := int 2 _ rfl rfl rfl (by omega)
  obtain ⟨dr, h3⟩ := int 3 _ rfl rfl rfl (by omega)
  obtain ⟨fl, h4⟩ := int 4 _ rfl rfl rfl (by omega)
  obtain ⟨co, h5⟩ := int 5 _ rfl rfl rfl (by omega)
  obtain ⟨me, h6⟩ := int 6 _ rfl rfl rfl (by omega)
  obtain ⟨de, h7⟩ := int 7 _ rfl rfl rfl (by omega)
  obtain ⟨u8, k, hh, h8, s8⟩ := sli 8 _ rfl rfl rfl (by omega)
  have hlist := nine hl9 h0 h1 h2 h3 h4 h5 h6 h7 h8
  refine ⟨⟨p, n, g, wi, dr, fl, co, me, de, k, hh⟩, u1, u8, ?_, s1, s8⟩
  show Value.agg cs = _
  congr 1
  exact Array.toList_inj.1 hlist

def isCells : Obj → Bool
  | .cells _ _ _ => true
  | _ => false

/-- A row's world has a block of cells. -/
theorem first_cells {w : World} (h : w.ShapedOpen Try.prog) : ∃ c e fz, w.heap[0]? = some (.cells c e fz) := by
  obtain ⟨_, h2⟩ := h
  have hg : Try.prog.globals.size = 0 := by kernel_rfl
  have hs : (begin Try.prog (fun _ _ => 0) default).world.heap.size = 5 := by kernel_rfl
  have hr : (((begin Try.prog (fun _ _ => 0) default).world.heap[0]?).map isCells) = some true := by kernel_rfl
  obtain ⟨o, o₀, e1, e2, e3⟩ := h2 0 (by rw [hg]; exact Nat.le_refl _) (by rw [hs]; omega)
  rw [hg] at e3
  have hloose : World.looseAt (0 - 0) = false := rfl
  rw [hloose, if_neg (by simp)] at e3
  subst e3
  rw [e2] at hr
  simp only [Option.map_some, Option.some.injEq] at hr
  cases o with
  | cells c e fz => exact ⟨c, e, fz, e1⟩
  | _ => cases hr

end Go.Proofs.Ytbgknpcbldnabaa
