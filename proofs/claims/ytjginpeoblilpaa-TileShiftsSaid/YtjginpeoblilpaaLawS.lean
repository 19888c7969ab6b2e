/-
  What is proved: the law TileShifts answers true at every call: for every list of numbers (of any length) that a set of tiles is made of, every seed, cut and two dealers, the wall that begins at the cut, dealt from its beginning, gives the same hands, live and dead wall as the wall dealt from the cut, and another dealer gives the same hands, each as many seats further on.
-/
import Derived.Test.YtjginpeoblilpaaRows
import Derived.WalkKit
import Derived.ProofKit
import Derived.OpenShut
import Derived.HandedShaped
import Derived.Carry
import Derived.Test.YtjginpeoblilpaaLawSg2
import Derived.Test.YtjginpeoblilpaaEvW
namespace Go.Proofs.Ytjginpeoblilpaa.tileShifts
open Go.ChangeShapes Go.WideShapes Go.ChangeAt Go.RowKit
set_option linter.unusedVariables false
set_option linter.unusedSimpArgs false

theorem own : ownKnob Try.prog.godebug = none := by kernel_rfl
theorem laid : laidOutB Try.prog = true := by kernel_rfl
def isCells : Obj → Bool
  | .cells _ _ _ => true
  | _ => false

/-- A row's world has a block of cells. -/
theorem first_cells {w : World} (h : w.ShapedOpen Try.prog) : ∃ c e fz, w.heap[0]? = some (.cells c e fz) := by
  obtain ⟨_, h2⟩ := h
  have hg : Try.prog.globals.size = 0 := by kernel_rfl
  have hs : (begin Try.prog (fun _ _ => 0) default).world.heap.size = 5 := by kernel_rfl
  have hr : (((begin Try.prog (fun _ _ => 0) default).world.heap[0]?).map isCells) = some true := by kernel_rfl
  obtain ⟨o, o₀, e1, e2, e3⟩ := h2 0 (by rw [hg]; exact Nat.le_refl _) (by rw [hs]; omega)
  rw [hg] at e3
  have hloose : World.looseAt (0 - 0) = false := rfl
  rw [hloose, if_neg (by simp)] at e3
  subst e3
  rw [e2] at hr
  simp only [Option.map_some, Option.some.injEq] at hr
  cases o with
  | cells c e fz => exact ⟨c, e, fz, e1⟩
  | _ => cases hr


theorem no_globs (B : Nat) (w : World) : Globs B w := fun g cs hg => by cases hg
theorem intV_len (n : Nat) : aLen (tabT Try.prog) 22 (intV n) = some (.int .i64 n) := by
  cases n with
  | zero => exact LENI _ 0 _
  | succ n => exact LENI _ (n + 1) _
theorem intV_ix (n k : Nat) (h : k < n) : aIndexAddr (tabT Try.prog) 22 (intV n) (.int .i64 (k : Int)) = some (.pointer (some ⟨0, k, none⟩)) := by
  cases n with
  | zero => omega
  | succ n => exact IX22 0 (n + 1) k h
set_option maxRecDepth 100000 in
theorem nums_open {H : Type} {enc : TypeId × Value → H} {w : World} {base : Nat} {v : Value} {d : DataW H} {ps : List MemPlace} (hv : Value.okWide Try.prog w .any base 22 v) (h : DataW.Trod enc Try.prog w 0 (fun _ => true) true 22 v d ps) :
    ∃ (n : Nat) (g : Nat → Int), IL w v n g := by
  obtain ⟨fuel, hf⟩ := h
  have c3 : Try.prog.cellsOf 3 = 1 := by kernel_rfl
  have u3 : Try.prog.underlying 3 = some (.int .i64) := by kernel_rfl
  obtain ⟨u, n, g, e, hp⟩ := ints_open Try.underlying22 u3 c3 hf
  have hvu : v = u := by
    rcases okWide_slice Try.underlying22 hv with ⟨a, b, c, rfl⟩
    simpa [Value.cells] using e
  exact ⟨n, g, hvu ▸ hp⟩


section
variable {H : Type} {enc : TypeId × Value → H} {P : Program} {w : World} {base : Nat} {spare : Nat → Bool} {held : Bool}
theorem trodAll_five {t0 t1 t2 t3 t4 : TypeId} {args : Array Value} {ds : List (DataW H)} {ps : List MemPlace} (h : DataW.TrodAll enc P w base spare held [t0, t1, t2, t3, t4] args.toList ds ps) :
    ∃ v0 v1 v2 v3 v4 d0 d1 d2 d3 d4 p0 p1 p2 p3 p4, args = #[v0, v1, v2, v3, v4] ∧ ds = [d0, d1, d2, d3, d4] ∧ ps = p0 ++ p1 ++ p2 ++ p3 ++ p4 ∧ DataW.Trod enc P w base spare held t0 v0 d0 p0 ∧ DataW.Trod enc P w base spare held t1 v1 d1 p1 ∧ DataW.Trod enc P w base spare held t2 v2 d2 p2 ∧ DataW.Trod enc P w base spare held t3 v3 d3 p3 ∧ DataW.Trod enc P w base spare held t4 v4 d4 p4 := by
  obtain ⟨v0, r0, d0, s0, p0, q0, ha, rfl, rfl, h0, h⟩ := trodAll_cons h
  obtain ⟨v1, r1, d1, s1, p1, q1, rfl, rfl, rfl, h1, h⟩ := trodAll_cons h
  obtain ⟨v2, r2, d2, s2, p2, q2, rfl, rfl, rfl, h2, h⟩ := trodAll_cons h
  obtain ⟨v3, r3, d3, s3, p3, q3, rfl, rfl, rfl, h3, h⟩ := trodAll_cons h
  obtain ⟨v4, r4, d4, s4, p4, q4, rfl, rfl, rfl, h4, h⟩ := trodAll_cons h
  obtain ⟨rfl, rfl, rfl⟩ := trodAll_nil h
  exact ⟨v0, v1, v2, v3, v4, d0, d1, d2, d3, d4, p0, p1, p2, p3, p4, by cases args; simp_all, rfl, by simp, h0, h1, h2, h3, h4⟩
theorem trodAll_mk5 {t0 t1 t2 t3 t4 : TypeId} {v0 v1 v2 v3 v4 : Value} {d0 d1 d2 d3 d4 : DataW H} {p0 p1 p2 p3 p4 : List MemPlace} (h0 : DataW.Trod enc P w base spare held t0 v0 d0 p0) (h1 : DataW.Trod enc P w base spare held t1 v1 d1 p1)
    (h2 : DataW.Trod enc P w base spare held t2 v2 d2 p2) (h3 : DataW.Trod enc P w base spare held t3 v3 d3 p3) (h4 : DataW.Trod enc P w base spare held t4 v4 d4 p4) : DataW.TrodAll enc P w base spare held [t0, t1, t2, t3, t4] [v0, v1, v2, v3, v4] [d0, d1, d2, d3, d4] (p0 ++ (p1 ++ (p2 ++ (p3 ++ p4)))) := trodAll_cons_mk h0 (trodAll_mk4 h1 h2 h3 h4)
end

def rho1 (x0 : Nat × Nat × Nat) : BMap
  | 0 => some x0
  | _ => none

theorem walk (w : World) (hc : ∃ c e fz, w.heap[0]? = some (.cells c e fz)) {u : Value} {n : Nat} {g : Nat → Int} (hu : IL w u n g) (k1 k2 k3 k4 : Int) :
    Calls Try.prog 11 #[u, .int .u64 k1, .int .i64 k2, .int .i64 k3, .int .i64 k4] w fun e w' => e = .returned (.bool true) ∧ Below w.heap.size w w' := by
  obtain ⟨x0, r0, b0⟩ := hu.rel hc
  have hmx : n ≤ 9223372036854775807 := hu.max
  have hargs : LRel (rho1 x0) [intV n, .int .u64 k1, .int .i64 k2, .int .i64 k3, .int .i64 k4] #[u, .int .u64 k1, .int .i64 k2, .int .i64 k3, .int .i64 k4] := by
    refine ⟨rfl, fun j y z hy hz => ?_⟩
    match j with
    | 0 => cases hy; cases hz; exact r0 _ rfl
    | 1 => cases hy; cases hz; exact .int _ _
    | 2 => cases hy; cases hz; exact .int _ _
    | 3 => cases hy; cases hz; exact .int _ _
    | 4 => cases hy; cases hz; exact .int _ _
    | j + 5 => simp at hy
  have hfree : ∀ hi, Free (rho1 x0) 1 hi := fun hi i h1 _ => by
    match i with
    | 0 => omega
    | i + 1 => rfl
  obtain ⟨H', h⟩ := body_ev n hmx (intsL_ok g n) (intV_len n) (intV_ix n) k1 k2 k3 k4
  have hrel : HRel w.heap.size (rho1 x0) [(0, .cells true (intsL g n))] w := by
    have one : ∀ i k, lookB [(0, ABlk.cells true (intsL g n))] i = some k → k.rw = false ∧ ∃ x, rho1 x0 i = some x ∧ BRel (rho1 x0) w.heap.size w x k := by
      intro i k hk
      match i with
      | 0 => cases hk; exact ⟨rfl, x0, rfl, b0 _⟩
      | i + 1 => simp [lookB, Nat.beq_eq] at hk
    refine ⟨Nat.le_refl _, fun i k hk => (one i k hk).2, fun i j ki kj xi xj hi hj hki => ?_, no_globs _ _⟩
    rw [(one i ki hi).1] at hki
    cases hki
  refine (calls_of_ev (tabT_ok _) (tabF_ok _) mixed (lf := n + 300) (kp := kpT) (hd := RB) RB_ok (n := 8) FLaw h (B := w.heap.size) hargs hrel (hfree _)).mono ?_
  rintro e w' ⟨ρ', u', rfl, hu', hp⟩
  cases hu'
  exact ⟨rfl, hp.below⟩

set_option maxRecDepth 100000 in
theorem lifted (os : Os) (started : os.Started) (H : Type) (enc : TypeId × Value → H) :
    ReturnsInHanded {} Try.checked os 11 .any (Rows.tileShiftsSpec.pre6 enc Try.prog Try.f11 Rows.tileShiftsRow.domain false) (Rows.tileShiftsSpec.post enc Try.prog Try.f11 false true false false) := by
  refine returnsInHanded_of_change_shaped (C := Try.checked) own started (by kernel_rfl) Try.func11
    (ChangeSpec.witness6 (enc := enc) (C := Try.checked) false ⟨#[], #[.slice none 0 0, .int .u64 0, .int .i64 0, .int .i64 0, .int .i64 0], []⟩ 8 (by kernel_rfl) (by kernel_rfl) (by kernel_rfl) (by kernel_rfl)) ?_
  intro W base args ds gs before hval0 hW hcnd _ hshape _
  have hval : ∀ (j : Nat) t v, Try.f11.params[j]? = some t → args[j]? = some v → Value.okWide Try.prog W .any base t v := hval0
  have hsh : W.ShapedOpen Try.prog := hshape
  have hW' := hW
  have hlt := hW.lt
  obtain ⟨p, q, hA0, hV, rfl, hfz, hnd⟩ := hW
  have hA : DataW.TrodAll enc Try.prog W 0 (fun _ => true) true Try.f11.params.toList args.toList ds p := hA0
  rw [Try.params11] at hA hval
  obtain ⟨v0, v1, v2, v3, v4, d0, d1, d2, d3, d4, p0, p1, p2, p3, p4, rfl, rfl, rfl, h0, h1, h2, h3, h4⟩ := trodAll_five hA
  obtain ⟨rfl, rfl⟩ := trodVars_none hV
  obtain ⟨n, g, hu⟩ := nums_open (hval 0 22 v0 rfl rfl) h0
  have u3 : Try.prog.underlying 3 = some (.int .i64) := by kernel_rfl
  have uw : Try.prog.underlying 48 = some (.int .u64) := by kernel_rfl
  obtain ⟨k1, rfl, rfl, rfl, w1⟩ := open_int uw (hval 1 48 v1 rfl rfl) h1
  obtain ⟨k2, rfl, rfl, rfl, w2⟩ := open_int u3 (hval 2 3 v2 rfl rfl) h2
  obtain ⟨k3, rfl, rfl, rfl, w3⟩ := open_int u3 (hval 3 3 v3 rfl rfl) h3
  obtain ⟨k4, rfl, rfl, rfl, w4⟩ := open_int u3 (hval 4 3 v4 rfl rfl) h4
  clear hA0 hval0
  refine (walk W (first_cells hsh) hu k1 k2 k3 k4).mono fun e W' ⟨he, hg⟩ => ?_
  subst he
  have hlt0 : ∀ x ∈ p0, x.block < W.heap.size := fun x hx => hlt x (by simp [hx])
  exact ⟨_, rfl, post_of_below (pa := p0 ++ [] ++ [] ++ [] ++ []) (pv := []) hW' hg (fun _ _ _ => (trodAll_cons_mk (shut_bool Try.underlying4 _) trodAll_mk0))
    (fun sp hsp => by
      have t0 := WideElems.Trod_stays (W' := W') (sp' := sp) laid (by kernel_rfl) (of_decide_eq_true (by kernel_rfl)) h0 (fun x hx => hg.same (hlt0 x hx)) (fun x hx => hsp x (by simp [hx]))
      have := trodAll_mk5 t0 (shut_int (w := W') (base := 0) (spare := sp) (held := true) (enc := enc) uw w1) (shut_int (w := W') (base := 0) (spare := sp) (held := true) (enc := enc) u3 w2) (shut_int (w := W') (base := 0) (spare := sp) (held := true) (enc := enc) u3 w3) (shut_int (w := W') (base := 0) (spare := sp) (held := true) (enc := enc) u3 w4)
      simp only [List.append_nil] at this ⊢
      exact this)
    (fun _ _ => rfl) rfl
    (ok_one (by kernel_rfl) rfl (okWide_bool_mk Try.underlying4 _))⟩

theorem over : Rows.tileShiftsRow.holds Try.pinned (OpenSpec.ofChange Rows.tileShiftsSpec) :=
  OpenClaim.holds_of_wide 11 Try.f11 rfl rfl rfl rfl rfl rfl rfl ⟨rfl, rfl, rfl, rfl, rfl⟩ rfl rfl rfl rfl rfl (by kernel_rfl) Try.func11 (by kernel_rfl)
    (of_decide_eq_true (by kernel_rfl)) (by unfold Func.isWrapper; first | (rw [if_pos (by decide +kernel)]; kernel_rfl) | (rw [if_neg (by decide +kernel)]; exact ⟨rfl, rfl⟩))
    (fun os started H enc _ => lifted os started H enc)

theorem proved : Rows.TileShiftsSaid :=
  over
#print axioms proved
end Go.Proofs.Ytjginpeoblilpaa.tileShifts
