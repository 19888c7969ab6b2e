/-
  What is proved: the law TileBags answers true at every call: for every set and every list of tiles both packages make the same bag and the same faces, or give the same error.
-/
import Derived.Test.YtbpknklnalnihaaRows
import Derived.WalkKit
import Derived.ProofKit
import Derived.OpenShut
import Derived.HandedShaped
import Derived.Test.YtbpknklnalnihaaTu
namespace Go.Proofs.Ytbpknklnalnihaa.tileBags
open Go.ChangeShapes Go.WideShapes Go.ChangeAt Go.RowKit
set_option linter.unusedVariables false

theorem own : ownKnob Try.prog.godebug = none := by kernel_rfl
theorem laid : laidOutB Try.prog = true := by kernel_rfl

def rho3 (x0 x1 x2 : Nat × Nat × Nat) : BMap
  | 0 => some x0
  | 1 => some x1
  | 2 => some x2
  | _ => none
theorem no_globs (B : Nat) (w : World) : Globs B w := fun g cs hg => by cases hg

theorem walk (w : World) (hc : ∃ c e fz, w.heap[0]? = some (.cells c e fz)) {v0 v1 : Value} {s : SV} (hs : SetIn w v0 s) {n : Nat} {t : Nat → Int} (ht : SL w v1 n t) :
    Calls Try.prog 3 #[v0, v1] w fun e w' => e = .returned (.bool true) ∧ Below w.heap.size w w' := by
  obtain ⟨u1, u8, rfl, s1, s8⟩ := hs
  obtain ⟨x0, r0, b0⟩ := s1.rel hc
  obtain ⟨x1, r1, b1⟩ := s8.rel hc
  obtain ⟨x2, r2, b2⟩ := ht.rel hc
  have hargs : LRel (rho3 x0 x1 x2) [s.val, sl2 n] #[.agg ⟨[.int .i64 s.p, u1, .int .i64 s.w, .int .i64 s.d, .int .i64 s.f, .int .i64 s.c, .int .i64 s.m, .int .i64 s.de, u8]⟩, v1] := by
    refine ⟨rfl, fun j x y hx hy => ?_⟩
    match j with
    | 0 =>
      cases hx; cases hy
      refine .agg rfl fun j x y hx hy => ?_
      match j with
      | 0 => cases hx; cases hy; exact .int _ _
      | 1 => cases hx; cases hy; exact r0 _ 0 rfl
      | 2 => cases hx; cases hy; exact .int _ _
      | 3 => cases hx; cases hy; exact .int _ _
      | 4 => cases hx; cases hy; exact .int _ _
      | 5 => cases hx; cases hy; exact .int _ _
      | 6 => cases hx; cases hy; exact .int _ _
      | 7 => cases hx; cases hy; exact .int _ _
      | 8 => cases hx; cases hy; exact r1 _ 1 rfl
      | j + 9 => simp at hx
    | 1 => cases hx; cases hy; exact r2 _ 2 rfl
    | j + 2 => simp at hx
  have hfree : ∀ hi, Free (rho3 x0 x1 x2) 3 hi := fun hi i h1 _ => by
    match i with
    | 0 => omega
    | 1 => omega
    | 2 => omega
    | i + 3 => rfl
  by_cases hl : s.long = true ∨ 200 < n
  · obtain ⟨H', h⟩ := bagsL_ev s n hl
    refine (calls_of_ev (tabT_ok _) (tabF_ok _) mixed (lf := 300) (kp := kpT) (hd := noH) noH_ok (n := 8) F3 h (B := w.heap.size) hargs ⟨Nat.le_refl _, fun i k hk => (by cases hk), fun i j ki kj xi xj hi => (by cases hi), no_globs _ _⟩ (hfree _)).mono ?_
    rintro e w' ⟨ρ', u, rfl, hu, hp⟩
    cases hu
    exact ⟨rfl, hp.below⟩
  · have hl1 : s.long = false := by simpa using fun e => hl (.inl e)
    have hn : n ≤ 200 := by omega
    have hb : s.n ≤ 200 ∧ s.k ≤ 200 := by
      simp only [SV.long, Bool.or_eq_false_iff, decide_eq_false_iff_not] at hl1
      omega
    obtain ⟨H', h⟩ := bags_ev s t n hl1 hn
    have hrel : HRel w.heap.size (rho3 x0 x1 x2) (hpT s t).bs w := by
      have one : ∀ i k, lookB (hpT s t).bs i = some k → k.rw = false ∧ ∃ x, rho3 x0 x1 x2 i = some x ∧ BRel (rho3 x0 x1 x2) w.heap.size w x k := by
        intro i k hk
        match i with
        | 0 => cases hk; exact ⟨rfl, x0, rfl, b0 hb.1 _⟩
        | 1 => cases hk; exact ⟨rfl, x1, rfl, b1 hb.2 _⟩
        | 2 => cases hk; exact ⟨rfl, x2, rfl, b2 hn _⟩
        | i + 3 => simp [hpT, lookB, Nat.beq_eq] at hk
      refine ⟨Nat.le_refl _, fun i k hk => (one i k hk).2, fun i j ki kj xi xj hi hj hki => ?_, no_globs _ _⟩
      rw [(one i ki hi).1] at hki
      cases hki
    refine (calls_of_ev (tabT_ok _) (tabF_ok _) mixed (lf := 300) (kp := kpT) (hd := RB) RB_ok (n := 8) F3 h (B := w.heap.size) hargs hrel (hfree _)).mono ?_
    rintro e w' ⟨ρ', u, rfl, hu, hp⟩
    cases hu
    exact ⟨rfl, hp.below⟩

set_option maxRecDepth 100000 in
theorem nums_open {H : Type} {enc : TypeId × Value → H} {w : World} {base : Nat} {v : Value} {d : DataW H} {ps : List MemPlace} (hv : Value.okWide Try.prog w .any base 22 v) (h : DataW.Trod enc Try.prog w 0 (fun _ => true) true 22 v d ps) :
    ∃ (n : Nat) (g : Nat → Int), SL w v n g := by
  obtain ⟨fuel, hf⟩ := h
  have c3 : Try.prog.cellsOf 3 = 1 := by kernel_rfl
  have u3 : Try.prog.underlying 3 = some (.int .i64) := by kernel_rfl
  obtain ⟨u, n, g, e, hp⟩ := slice_open Try.underlying22 u3 c3 hf
  have hvu : v = u := by
    rcases okWide_slice Try.underlying22 hv with ⟨a, b, c, rfl⟩
    simpa [Value.cells] using e
  exact ⟨n, g, hvu ▸ hp⟩

set_option maxRecDepth 100000 in
theorem lifted (os : Os) (started : os.Started) (H : Type) (enc : TypeId × Value → H) :
    ReturnsInHanded {} Try.checked os 3 .any (Rows.tileBagsSpec.pre6 enc Try.prog Try.f3 Rows.tileBagsRow.domain false) (Rows.tileBagsSpec.post enc Try.prog Try.f3 false true false false) := by
  refine returnsInHanded_of_change_shaped (C := Try.checked) own started (by kernel_rfl) Try.func3
    (ChangeSpec.witness6 (enc := enc) (C := Try.checked) false ⟨#[], #[.agg #[.int .i64 0, .slice none 0 0, .int .i64 0, .int .i64 0, .int .i64 0, .int .i64 0, .int .i64 0, .int .i64 0, .slice none 0 0], .slice none 0 0], []⟩ 8 (by kernel_rfl) (by kernel_rfl) (by kernel_rfl) (by kernel_rfl)) ?_
  intro W base args ds gs before hval0 hW hcnd _ hshape _
  have hval : ∀ (j : Nat) t v, Try.f3.params[j]? = some t → args[j]? = some v → Value.okWide Try.prog W .any base t v := hval0
  have hsh : W.ShapedOpen Try.prog := hshape
  have hW' := hW
  have hlt := hW.lt
  obtain ⟨p, q, hA0, hV, rfl, hfz, hnd⟩ := hW
  have hA : DataW.TrodAll enc Try.prog W 0 (fun _ => true) true Try.f3.params.toList args.toList ds p := hA0
  rw [Try.params3] at hA hval
  obtain ⟨v0, v1, d0, d1, p0, p1, rfl, rfl, rfl, h0, h1⟩ := trodAll_two hA
  obtain ⟨rfl, rfl⟩ := trodVars_none hV
  obtain ⟨s, hs⟩ := set_open (hval 0 24 v0 rfl rfl) h0
  obtain ⟨n, t, ht⟩ := nums_open (hval 1 22 v1 rfl rfl) h1
  clear hA0 hval0
  refine (walk W (first_cells hsh) hs ht).mono fun e W' ⟨he, hg⟩ => ?_
  subst he
  have hlt0 : ∀ x ∈ p0, x.block < W.heap.size := fun x hx => hlt x (by simp [hx])
  have hlt1 : ∀ x ∈ p1, x.block < W.heap.size := fun x hx => hlt x (by simp [hx])
  exact ⟨_, rfl, post_of_below (pa := p0 ++ p1) (pv := []) hW' hg (fun _ _ _ => (trodAll_cons_mk (shut_bool Try.underlying4 _) trodAll_mk0))
    (fun sp hsp => by
      have t0 := WideElems.Trod_stays (W' := W') (sp' := sp) laid (by kernel_rfl) (of_decide_eq_true (by kernel_rfl)) h0 (fun x hx => hg.same (hlt0 x hx)) (fun x hx => hsp x (by simp [hx]))
      have t1 := WideElems.Trod_stays (W' := W') (sp' := sp) laid (by kernel_rfl) (of_decide_eq_true (by kernel_rfl)) h1 (fun x hx => hg.same (hlt1 x hx)) (fun x hx => hsp x (by simp [hx]))
      exact trodAll_mk2 t0 t1)
    (fun _ _ => rfl) rfl
    (ok_one (by kernel_rfl) rfl (okWide_bool_mk Try.underlying4 _))⟩

theorem over : Rows.tileBagsRow.holds Try.pinned (OpenSpec.ofChange Rows.tileBagsSpec) :=
  OpenClaim.holds_of_wide 3 Try.f3 rfl rfl rfl rfl rfl rfl rfl ⟨rfl, rfl, rfl, rfl, rfl⟩ rfl rfl rfl rfl rfl (by kernel_rfl) Try.func3 (by kernel_rfl)
    (of_decide_eq_true (by kernel_rfl)) (by unfold Func.isWrapper; first | (rw [if_pos (by decide +kernel)]; kernel_rfl) | (rw [if_neg (by decide +kernel)]; exact ⟨rfl, rfl⟩))
    (fun os started H enc _ => lifted os started H enc)

theorem proved : Rows.TileBagsSaid :=
  over
#print axioms proved
end Go.Proofs.Ytbpknklnalnihaa.tileBags
