/-
  What is proved: the law TileWalls answers true at every call: for every set of tiles and every seed the program and the document's own answer make the same wall.
-/
import Derived.Test.YtbgknpcbldnabaaRows
import Derived.WalkKit
import Derived.ProofKit
import Derived.OpenShut
import Derived.HandedShaped
import Derived.Test.YtbgknpcbldnabaaWk
namespace Go.Proofs.Ytbgknpcbldnabaa.tileWalls
open Go.ChangeShapes Go.WideShapes Go.ChangeAt Go.RowKit
set_option linter.unusedVariables false

theorem own : ownKnob Try.prog.godebug = none := by kernel_rfl
theorem laid : laidOutB Try.prog = true := by kernel_rfl

def rho2 (x0 x1 : Nat × Nat × Nat) : BMap
  | 0 => some x0
  | 1 => some x1
  | _ => none
theorem no_globs (B : Nat) (w : World) : Globs B w := fun g cs hg => by cases hg

theorem walk (w : World) (hc : ∃ c e fz, w.heap[0]? = some (.cells c e fz)) {v0 : Value} {s : SV} (hs : SetIn w v0 s) (x : Int) :
    Calls Try.prog 3 #[v0, .int .u64 x] w fun e w' => e = .returned (.bool true) ∧ Below w.heap.size w w' := by
  obtain ⟨u1, u8, rfl, s1, s8⟩ := hs
  obtain ⟨x0, r0, b0⟩ := s1.rel hc
  obtain ⟨x1, r1, b1⟩ := s8.rel hc
  have hargs : LRel (rho2 x0 x1) [s.val, .int .u64 x] #[.agg ⟨[.int .i64 s.p, u1, .int .i64 s.w, .int .i64 s.d, .int .i64 s.f, .int .i64 s.c, .int .i64 s.m, .int .i64 s.de, u8]⟩, .int .u64 x] := by
    refine ⟨rfl, fun j x y hx hy => ?_⟩
    match j with
    | 0 =>
      cases hx; cases hy
      refine .agg rfl fun j x y hx hy => ?_
      match j with
      | 0 => cases hx; cases hy; exact .int _ _
      | 1 => cases hx; cases hy; exact r0 _ 0 rfl
      | 2 => cases hx; cases hy; exact .int _ _
      | 3 => cases hx; cases hy; exact .int _ _
      | 4 => cases hx; cases hy; exact .int _ _
      | 5 => cases hx; cases hy; exact .int _ _
      | 6 => cases hx; cases hy; exact .int _ _
      | 7 => cases hx; cases hy; exact .int _ _
      | 8 => cases hx; cases hy; exact r1 _ 1 rfl
      | j + 9 => simp at hx
    | 1 => cases hx; cases hy; exact .int _ _
    | j + 2 => simp at hx
  have hfree : ∀ hi, Free (rho2 x0 x1) 2 hi := fun hi i h1 _ => by
    match i with
    | 0 => omega
    | 1 => omega
    | i + 2 => rfl
  cases hl : s.long with
  | true =>
    obtain ⟨H1, h5⟩ := long_any (evCall (tabT Try.prog) (tabF Try.prog) 300 kpT noH 7) s ⟨3, [(2, .cells false s.cs)]⟩
    rw [hl] at h5
    obtain ⟨H', h⟩ := body_long (evCall (tabT Try.prog) (tabF Try.prog) 300 kpT noH 8) s x (H0 := ⟨2, []⟩) ((evCall_fn (n := 7) F5n rfl).trans h5)
    refine (calls_of_ev (tabT_ok _) (tabF_ok _) mixed (lf := 300) (kp := kpT) (hd := noH) noH_ok (n := 8) F3n h (B := w.heap.size) hargs ⟨Nat.le_refl _, fun i k hk => (by cases hk), fun i j ki kj xi xj hi => (by cases hi), no_globs _ _⟩ (hfree _)).mono ?_
    rintro e w' ⟨ρ', u, rfl, hu, hp⟩
    cases hu
    exact ⟨rfl, hp.below⟩
  | false =>
    have hb : s.n ≤ 200 ∧ s.k ≤ 200 := by
      simp only [SV.long, Bool.or_eq_false_iff, decide_eq_false_iff_not] at hl
      omega
    obtain ⟨H', h⟩ := body_ev s x hl
    have hrel : HRel w.heap.size (rho2 x0 x1) s.hp.bs w := by
      have one : ∀ i k, lookB s.hp.bs i = some k → k.rw = false ∧ ∃ x, rho2 x0 x1 i = some x ∧ BRel (rho2 x0 x1) w.heap.size w x k := by
        intro i k hk
        match i with
        | 0 => cases hk; exact ⟨rfl, x0, rfl, b0 hb.1 _⟩
        | 1 => cases hk; exact ⟨rfl, x1, rfl, b1 hb.2 _⟩
        | i + 2 => simp [SV.hp, lookB, Nat.beq_eq] at hk
      refine ⟨Nat.le_refl _, fun i k hk => (one i k hk).2, fun i j ki kj xi xj hi hj hki => ?_, no_globs _ _⟩
      rw [(one i ki hi).1] at hki
      cases hki
    refine (calls_of_ev (tabT_ok _) (tabF_ok _) mixed (lf := 300) (kp := kpT) (hd := RB) RB_ok (n := 8) F3n h (B := w.heap.size) hargs hrel (hfree _)).mono ?_
    rintro e w' ⟨ρ', u, rfl, hu, hp⟩
    cases hu
    exact ⟨rfl, hp.below⟩

set_option maxRecDepth 100000 in
theorem lifted (os : Os) (started : os.Started) (H : Type) (enc : TypeId × Value → H) :
    ReturnsInHanded {} Try.checked os 3 .any (Rows.tileWallsSpec.pre6 enc Try.prog Try.f3 Rows.tileWallsRow.domain false) (Rows.tileWallsSpec.post enc Try.prog Try.f3 false true false false) := by
  refine returnsInHanded_of_change_shaped (C := Try.checked) own started (by kernel_rfl) Try.func3
    (ChangeSpec.witness6 (enc := enc) (C := Try.checked) false ⟨#[], #[.agg #[.int .i64 0, .slice none 0 0, .int .i64 0, .int .i64 0, .int .i64 0, .int .i64 0, .int .i64 0, .int .i64 0, .slice none 0 0], .int .u64 0], []⟩ 8 (by kernel_rfl) (by kernel_rfl) (by kernel_rfl) (by kernel_rfl)) ?_
  intro W base args ds gs before hval0 hW hcnd _ hshape _
  have hval : ∀ (j : Nat) t v, Try.f3.params[j]? = some t → args[j]? = some v → Value.okWide Try.prog W .any base t v := hval0
  have hsh : W.ShapedOpen Try.prog := hshape
  have hW' := hW
  have hlt := hW.lt
  obtain ⟨p, q, hA0, hV, rfl, hfz, hnd⟩ := hW
  have hA : DataW.TrodAll enc Try.prog W 0 (fun _ => true) true Try.f3.params.toList args.toList ds p := hA0
  rw [Try.params3] at hA hval
  obtain ⟨v0, v1, d0, d1, p0, p1, rfl, rfl, rfl, h0, h1⟩ := trodAll_two hA
  obtain ⟨rfl, rfl⟩ := trodVars_none hV
  obtain ⟨s, hs⟩ := set_open (hval 0 24 v0 rfl rfl) h0
  have u25 : Try.prog.underlying 25 = some (.int .u64) := by kernel_rfl
  obtain ⟨k1, rfl, rfl, rfl, w1⟩ := open_int u25 (hval 1 25 v1 rfl rfl) h1
  clear hA0 hval0
  refine (walk W (first_cells hsh) hs k1).mono fun e W' ⟨he, hg⟩ => ?_
  subst he
  have hlt0 : ∀ x ∈ p0, x.block < W.heap.size := fun x hx => hlt x (by simp [hx])
  exact ⟨_, rfl, post_of_below (pa := p0 ++ []) (pv := []) hW' hg (fun _ _ _ => (trodAll_cons_mk (shut_bool Try.underlying4 _) trodAll_mk0))
    (fun sp hsp => by
      have t0 := WideElems.Trod_stays (W' := W') (sp' := sp) laid (by kernel_rfl) (of_decide_eq_true (by kernel_rfl)) h0 (fun x hx => hg.same (hlt0 x hx)) (fun x hx => hsp x (by simp [hx]))
      exact trodAll_mk2 t0 (shut_int (w := W') (base := 0) (spare := sp) (held := true) (enc := enc) u25 w1))
    (fun _ _ => rfl) rfl
    (ok_one (by kernel_rfl) rfl (okWide_bool_mk Try.underlying4 _))⟩

theorem over : Rows.tileWallsRow.holds Try.pinned (OpenSpec.ofChange Rows.tileWallsSpec) :=
  OpenClaim.holds_of_wide 3 Try.f3 rfl rfl rfl rfl rfl rfl rfl ⟨rfl, rfl, rfl, rfl, rfl⟩ rfl rfl rfl rfl rfl (by kernel_rfl) Try.func3 (by kernel_rfl)
    (of_decide_eq_true (by kernel_rfl)) (by unfold Func.isWrapper; first | (rw [if_pos (by decide +kernel)]; kernel_rfl) | (rw [if_neg (by decide +kernel)]; exact ⟨rfl, rfl⟩))
    (fun os started H enc _ => lifted os started H enc)

theorem proved : Rows.TileWallsSaid :=
  over
#print axioms proved
end Go.Proofs.Ytbgknpcbldnabaa.tileWalls
