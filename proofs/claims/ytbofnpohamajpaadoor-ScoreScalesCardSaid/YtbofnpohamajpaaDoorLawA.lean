/-
  What is proved: a scale, as the row's argument reads it, is a value that the run takes; the law's walk over it; the witness of the row.
-/
import Derived.Test.YtbofnpohamajpaaDoorRows
import Derived.WalkKit
import Derived.ProofKit
import Derived.OpenShut
import Derived.LaidMore
import Derived.Stop.Joined
import Derived.SevenTiedAt
import Derived.Lay
import Derived.HandedShaped
import Derived.Test.YtbofnpohamajpaaDoorQe
import Derived.Test.YtbofnpohamajpaaDoorHj3
namespace Go.Proofs.YtbofnpohamajpaaDoor.scoreScales
open Go.ChangeShapes Go.WideShapes Go.ChangeAt Go.WideMaps Go.WideElems Go.RowKit
set_option linter.unusedVariables false

theorem own : ownKnob Tryd.prog.godebug = none := by kernel_rfl
theorem laid : laidOutB Tryd.prog = true := by kernel_rfl

abbrev laidL : List (String × DataW Unit) := [("sparrow/house.nodeParts", Rows.laid_sparrow_house_nodeParts)]

/-- What the condition gives: the variables lie. -/
theorem of_laid {W : World} (h : laidMetH Tryd.prog laidL W) : Globs W.heap.size W := by
  rw [MakeChecks.laidMetH_plain _ _ _ (by kernel_rfl)] at h
  intro g cs hg
  match g with
  | 0 => cases hg; exact glob_of_cells (var_cells (n := "sparrow/house.nodeParts") (d := Rows.laid_sparrow_house_nodeParts) (g := 0) (t := 143) h (by simp [laidL]) (by kernel_rfl) (by kernel_rfl) (by kernel_rfl)) (by simp)
  | g + 1 => simp [GV] at hg

theorem first_cells {W : World} (h : Globs W.heap.size W) : ∃ c e fz, W.heap[0]? = some (.cells c e fz) := by
  obtain ⟨_, c, e, fz, h1, _⟩ := h 0 _ rfl
  exact ⟨c, e, fz, h1⟩

set_option maxRecDepth 100000 in
theorem nums_open {H : Type} {enc : TypeId × Value → H} {w : World} {base : Nat} {v : Value} {d : DataW H} {ps : List MemPlace} (hv : Value.okWide Tryd.prog w .any base 22 v) (h : DataW.Trod enc Tryd.prog w 0 (fun _ => true) true 22 v d ps) :
    ∃ (n : Nat) (g : Nat → Int), IL w v n g := by
  obtain ⟨fuel, hf⟩ := h
  have c3 : Tryd.prog.cellsOf 3 = 1 := by kernel_rfl
  have u3 : Tryd.prog.underlying 3 = some (.int .i64) := by kernel_rfl
  obtain ⟨u, n, g, e, hp⟩ := ints_open Tryd.underlying22 u3 c3 hf
  have hvu : v = u := by
    rcases okWide_slice Tryd.underlying22 hv with ⟨a, b, c, rfl⟩
    simpa [Value.cells] using e
  exact ⟨n, g, hvu ▸ hp⟩

def rho1 (x0 : Nat × Nat × Nat) : BMap
  | 0 => some x0
  | _ => none

theorem walk (w : World) (hg : Globs w.heap.size w) {u : Value} {n : Nat} {g : Nat → Int} (hu : IL w u n g) (mi v : Int) :
    Calls Tryd.prog 3 #[u, .int .i64 mi, .int .i64 v] w fun e w' => e = .returned (.bool true) ∧ Below w.heap.size w w' := by
  obtain ⟨x0, r0, b0⟩ := hu.rel (first_cells hg)
  have hmx : n ≤ 9223372036854775807 := hu.max
  have hargs : LRel (rho1 x0) [intV n, .int .i64 mi, .int .i64 v] #[u, .int .i64 mi, .int .i64 v] := by
    refine ⟨rfl, fun j y z hy hz => ?_⟩
    match j with
    | 0 => cases hy; cases hz; exact r0 _ rfl
    | 1 => cases hy; cases hz; exact .int _ _
    | 2 => cases hy; cases hz; exact .int _ _
    | j + 3 => simp at hy
  have hfree : ∀ hi, Free (rho1 x0) 1 hi := fun hi i h1 _ => by
    match i with
    | 0 => omega
    | i + 1 => rfl
  obtain ⟨H', h⟩ := body_ev n (m := n) (by omega) hmx (intsL_ok g n) mi v
  have hrel : HRel w.heap.size (rho1 x0) [(0, .cells true (intsL g n))] w := by
    have one : ∀ i k, lookB [(0, ABlk.cells true (intsL g n))] i = some k → k.rw = false ∧ ∃ x, rho1 x0 i = some x ∧ BRel (rho1 x0) w.heap.size w x k := by
      intro i k hk
      match i with
      | 0 => cases hk; exact ⟨rfl, x0, rfl, b0 _⟩
      | i + 1 => simp [lookB, Nat.beq_eq] at hk
    refine ⟨Nat.le_refl _, fun i k hk => (one i k hk).2, fun i j ki kj xi xj hi hj hki => ?_, hg⟩
    rw [(one i ki hi).1] at hki
    cases hki
  refine (calls_of_ev (tabT_ok _) (tabF_ok _) mixed (lf := n + 4) (kp := kpT) (hd := S5) S5_ok (n := 57 + 1 + 1 + 1) F3 h (B := w.heap.size) hargs hrel (hfree _)).mono ?_
  rintro e w' ⟨ρ', u', rfl, hu', hp⟩
  cases hu'
  exact ⟨rfl, hp.below⟩

set_option maxRecDepth 100000 in
theorem lifted (os : Os) (started : os.Started) (H : Type) (enc : TypeId × Value → H) :
    ReturnsInHanded {} Tryd.checked os 3 .any (fun w args => (Rows.scoreScalesSpec.pre enc Tryd.prog Tryd.f3 [] false w args ∧ laidMetH Tryd.prog laidL w) ∧ sizedMet enc Tryd.prog Tryd.f3 (OpenSpec.ofChange Rows.scoreScalesSpec) false w args)
      (Rows.scoreScalesSpec.post enc Tryd.prog Tryd.f3 false true false false) := by
  refine returnsInHanded_of_change_and (C := Tryd.checked) (X := fun w _ => laidMetH Tryd.prog laidL w) (fun _ _ _ hh h => h.of_heap hh) own started (by kernel_rfl) Tryd.func3
    (ChangeSpec.witness_shaped (enc := enc) (C := Tryd.checked) (os := os) (X := fun w _ => laidMetH Tryd.prog laidL w) false (World.laidAll Tryd.prog os laidL) #[.slice none 0 0, .int .i64 0, .int .i64 0] 8 (World.laidAll_os _ _ _)
      (World.shaped_of_ZipB (by kernel_rfl) (by kernel_rfl)) (by kernel_rfl) (by kernel_rfl) (by kernel_rfl)
      (by rw [MakeChecks.laidMetH_plain _ _ _ (by kernel_rfl)]; exact laidMet_laidAll _ (by kernel_rfl) (by kernel_rfl))) ?_
  intro W base args ds gs before hval0 hW _ _ hL _
  have hval : ∀ (j : Nat) t v, Tryd.f3.params[j]? = some t → args[j]? = some v → Value.okWide Tryd.prog W .any base t v := hval0
  have hW' := hW
  have hlt := hW.lt
  obtain ⟨p, q, hA0, hV, rfl, hfz, hnd⟩ := hW
  have hA : DataW.TrodAll enc Tryd.prog W 0 (fun _ => true) true Tryd.f3.params.toList args.toList ds p := hA0
  rw [Tryd.params3] at hA hval
  obtain ⟨v0, v1, v2, d0, d1, d2, p0, p1, p2, rfl, rfl, rfl, h0, h1, h2⟩ := trodAll_three hA
  obtain ⟨rfl, rfl⟩ := trodVars_none hV
  have u3 : Tryd.prog.underlying 3 = some (.int .i64) := by kernel_rfl
  obtain ⟨n, g, hu⟩ := nums_open (hval 0 22 v0 rfl rfl) h0
  obtain ⟨k1, rfl, rfl, rfl, w1⟩ := open_int u3 (hval 1 3 v1 rfl rfl) h1
  obtain ⟨k2, rfl, rfl, rfl, w2⟩ := open_int u3 (hval 2 3 v2 rfl rfl) h2
  clear hA0 hval0
  refine (walk W (of_laid hL) hu k1 k2).mono fun e W' ⟨he, hg⟩ => ?_
  subst he
  have hlt0 : ∀ x ∈ p0, x.block < W.heap.size := fun x hx => hlt x (by simp [hx])
  exact ⟨_, rfl, post_of_below (pa := p0 ++ [] ++ []) (pv := []) hW' hg (fun _ _ _ => (trodAll_cons_mk (shut_bool Tryd.underlying4 _) trodAll_mk0))
    (fun sp hsp => by
      have t0 := WideElems.Trod_stays (W' := W') (sp' := sp) laid (by kernel_rfl) (of_decide_eq_true (by kernel_rfl)) h0 (fun x hx => hg.same (hlt0 x hx)) (fun x hx => hsp x (by simp [hx]))
      have := trodAll_mk3 t0 (shut_int (w := W') (base := 0) (spare := sp) (held := true) (enc := enc) u3 w1) (shut_int (w := W') (base := 0) (spare := sp) (held := true) (enc := enc) u3 w2)
      have e : p0 ++ [] ++ [] = p0 ++ ([] ++ []) := by simp
      rw [e]
      exact this)
    (fun _ _ => rfl) rfl
    (ok_one (by kernel_rfl) rfl (okWide_bool_mk Tryd.underlying4 _))⟩

end Go.Proofs.YtbofnpohamajpaaDoor.scoreScales
