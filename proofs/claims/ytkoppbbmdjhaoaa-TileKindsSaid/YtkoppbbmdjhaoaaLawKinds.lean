/-
  What is proved: the law TileKinds answers true at every call: the kind of a tile, whether it is red, the place of a kind, whether it runs, the orphans and the kind after it are the same in both packages, for every set and all numbers.
-/
import Derived.Test.YtkoppbbmdjhaoaaRows
import Derived.WalkKit
import Derived.ProofKit
import Derived.OpenShut
import Derived.HandedShaped
import Derived.Test.YtkoppbbmdjhaoaaKp
import Derived.Test.YtkoppbbmdjhaoaaHi
namespace Go.Proofs.Ytkoppbbmdjhaoaa.tileKinds
open Go.ChangeShapes Go.WideShapes Go.ChangeAt Go.RowKit
set_option linter.unusedVariables false

theorem own : ownKnob Try.prog.godebug = none := by kernel_rfl
theorem laid : laidOutB Try.prog = true := by kernel_rfl

def rho2 (x0 x1 : Nat × Nat × Nat) : BMap
  | 0 => some x0
  | 1 => some x1
  | _ => none

theorem walk (w : World) (hc : ∃ c e fz, w.heap[0]? = some (.cells c e fz)) {v0 : Value} {s : SV} (tl kind : Int) (hs : SetIn w v0 s) :
    Calls Try.prog 4 #[v0, .int .i64 tl, .int .i64 kind] w fun e w' => e = .returned (.bool true) ∧ Below w.heap.size w w' := by
  obtain ⟨u1, u8, rfl, s1, s8⟩ := hs
  obtain ⟨x0, r0, b0⟩ := s1.rel hc
  obtain ⟨x1, r1, b1⟩ := s8.rel hc
  have hargs : LRel (rho2 x0 x1) [s.val, .int .i64 tl, .int .i64 kind] #[.agg ⟨[.int .i64 s.p, u1, .int .i64 s.w, .int .i64 s.d, .int .i64 s.f, .int .i64 s.c, .int .i64 s.m, .int .i64 s.de, u8]⟩, .int .i64 tl, .int .i64 kind] := by
    refine ⟨rfl, fun j x y hx hy => ?_⟩
    match j with
    | 0 =>
      cases hx; cases hy
      refine .agg rfl fun j x y hx hy => ?_
      match j with
      | 0 => cases hx; cases hy; exact .int _ _
      | 1 => cases hx; cases hy; exact r0 _ 0 rfl
      | 2 => cases hx; cases hy; exact .int _ _
      | 3 => cases hx; cases hy; exact .int _ _
      | 4 => cases hx; cases hy; exact .int _ _
      | 5 => cases hx; cases hy; exact .int _ _
      | 6 => cases hx; cases hy; exact .int _ _
      | 7 => cases hx; cases hy; exact .int _ _
      | 8 => cases hx; cases hy; exact r1 _ 1 rfl
      | j + 9 => simp at hx
    | 1 => cases hx; cases hy; exact .int _ _
    | 2 => cases hx; cases hy; exact .int _ _
    | j + 3 => simp at hx
  have hfree : ∀ hi, Free (rho2 x0 x1) 2 hi := fun hi i h1 _ => by
    match i with
    | 0 => omega
    | 1 => omega
    | i + 2 => rfl
  by_cases hl : s.long = true
  · obtain ⟨H', h⟩ := tkindsL_ev s tl kind hl
    refine (calls_of_ev (tabT_ok _) (tabF_ok _) mixed (lf := 300) (kp := kpT) (hd := noH) noH_ok (n := 8) F4 h (B := w.heap.size) hargs ⟨Nat.le_refl _, fun i k hk => (by cases hk), fun i j ki kj xi xj hi => (by cases hi)⟩ (hfree _)).mono ?_
    rintro e w' ⟨ρ', u, rfl, hu, hp⟩
    cases hu
    exact ⟨rfl, hp.below⟩
  · have hl1 : s.long = false := by simpa using hl
    have hb : s.n ≤ 200 ∧ s.k ≤ 200 := by
      simp only [SV.long, Bool.or_eq_false_iff, decide_eq_false_iff_not] at hl1
      omega
    obtain ⟨H', h⟩ := tkinds4_ev s tl kind hl1
    have hrel : HRel w.heap.size (rho2 x0 x1) s.hp.bs w := by
      have one : ∀ i k, lookB s.hp.bs i = some k → k.rw = false ∧ ∃ x, rho2 x0 x1 i = some x ∧ BRel (rho2 x0 x1) w.heap.size w x k := by
        intro i k hk
        match i with
        | 0 => cases hk; exact ⟨rfl, x0, rfl, b0 hb.1 _⟩
        | 1 => cases hk; exact ⟨rfl, x1, rfl, b1 hb.2 _⟩
        | i + 2 => simp [SV.hp, lookB, Nat.beq_eq] at hk
      refine ⟨Nat.le_refl _, fun i k hk => (one i k hk).2, fun i j ki kj xi xj hi hj hki => ?_⟩
      rw [(one i ki hi).1] at hki
      cases hki
    refine (calls_of_ev (tabT_ok _) (tabF_ok _) mixed (lf := 300) (kp := kpT) (hd := R4) R4_ok (n := 8) F4 h (B := w.heap.size) hargs hrel (hfree _)).mono ?_
    rintro e w' ⟨ρ', u, rfl, hu, hp⟩
    cases hu
    exact ⟨rfl, hp.below⟩

set_option maxRecDepth 100000 in
theorem lifted (os : Os) (started : os.Started) (H : Type) (enc : TypeId × Value → H) :
    ReturnsInHanded {} Try.checked os 4 .any (Rows.tileKindsSpec.pre6 enc Try.prog Try.f4 Rows.tileKindsRow.domain false) (Rows.tileKindsSpec.post enc Try.prog Try.f4 false true false false) := by
  refine returnsInHanded_of_change_shaped (C := Try.checked) own started (by kernel_rfl) Try.func4
    (ChangeSpec.witness6 (enc := enc) (C := Try.checked) false ⟨#[], #[.agg #[.int .i64 0, .slice none 0 0, .int .i64 0, .int .i64 0, .int .i64 0, .int .i64 0, .int .i64 0, .int .i64 0, .slice none 0 0], .int .i64 0, .int .i64 0], []⟩ 8 (by kernel_rfl) (by kernel_rfl) (by kernel_rfl) (by kernel_rfl)) ?_
  intro W base args ds gs before hval0 hW hcnd _ hshape _
  have hval : ∀ (j : Nat) t v, Try.f4.params[j]? = some t → args[j]? = some v → Value.okWide Try.prog W .any base t v := hval0
  have hsh : W.ShapedOpen Try.prog := hshape
  have hW' := hW
  have hlt := hW.lt
  obtain ⟨p, q, hA0, hV, rfl, hfz, hnd⟩ := hW
  have hA : DataW.TrodAll enc Try.prog W 0 (fun _ => true) true Try.f4.params.toList args.toList ds p := hA0
  rw [Try.params4] at hA hval
  obtain ⟨v0, v1, v2, d0, d1, d2, p0, p1, p2, rfl, rfl, rfl, h0, h1, h2⟩ := trodAll_three hA
  obtain ⟨rfl, rfl⟩ := trodVars_none hV
  have u3 : Try.prog.underlying 3 = some (.int .i64) := by kernel_rfl
  obtain ⟨s, hs⟩ := set_open (hval 0 24 v0 rfl rfl) h0
  obtain ⟨k1, rfl, rfl, rfl, w1⟩ := open_int u3 (hval 1 3 v1 rfl rfl) h1
  obtain ⟨k2, rfl, rfl, rfl, w2⟩ := open_int u3 (hval 2 3 v2 rfl rfl) h2
  clear hA0 hval0
  refine (walk W (first_cells hsh) k1 k2 hs).mono fun e W' ⟨he, hg⟩ => ?_
  subst he
  have hlt0 : ∀ x ∈ p0, x.block < W.heap.size := fun x hx => hlt x (by simp [hx])
  exact ⟨_, rfl, post_of_below (pa := p0 ++ [] ++ []) (pv := []) hW' hg (fun _ _ _ => (trodAll_cons_mk (shut_bool Try.underlying4 _) trodAll_mk0))
    (fun sp hsp => by
      have t0 := WideElems.Trod_stays (W' := W') (sp' := sp) laid (by kernel_rfl) (of_decide_eq_true (by kernel_rfl)) h0 (fun x hx => hg.same (hlt0 x hx)) (fun x hx => hsp x (by simp [hx]))
      have := trodAll_mk3 t0 (shut_int (w := W') (base := 0) (spare := sp) (held := true) (enc := enc) u3 w1) (shut_int (w := W') (base := 0) (spare := sp) (held := true) (enc := enc) u3 w2)
      have e : p0 ++ [] ++ [] = p0 ++ ([] ++ []) := by simp
      rw [e]
      exact this)
    (fun _ _ => rfl) rfl
    (ok_one (by kernel_rfl) rfl (okWide_bool_mk Try.underlying4 _))⟩

theorem over : Rows.tileKindsRow.holds Try.pinned (OpenSpec.ofChange Rows.tileKindsSpec) :=
  OpenClaim.holds_of_wide 4 Try.f4 rfl rfl rfl rfl rfl rfl rfl ⟨rfl, rfl, rfl, rfl, rfl⟩ rfl rfl rfl rfl rfl (by kernel_rfl) Try.func4 (by kernel_rfl)
    (of_decide_eq_true (by kernel_rfl)) (by unfold Func.isWrapper; first | (rw [if_pos (by decide +kernel)]; kernel_rfl) | (rw [if_neg (by decide +kernel)]; exact ⟨rfl, rfl⟩))
    (fun os started H enc _ => lifted os started H enc)

theorem proved : Rows.TileKindsSaid :=
  over
#print axioms proved
end Go.Proofs.Ytkoppbbmdjhaoaa.tileKinds
