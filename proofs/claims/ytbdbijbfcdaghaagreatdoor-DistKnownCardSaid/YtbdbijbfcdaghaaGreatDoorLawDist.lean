/-
  What is proved: the law DistKnown answers true at every call: its body has no argument, and the abstract run of it ends with true, over the package-level variables as the program's text lays them.
-/
import Derived.Test.YtbdbijbfcdaghaaGreatDoorRows
import Derived.Test.YtbdbijbfcdaghaaGreatDoorTie
import Derived.Test.YtbdbijbfcdaghaaGreatDoorCards
import Derived.WalkKit
import Derived.ProofKit
import Derived.OpenShut
import Derived.LaidMore
import Derived.Stop.Joined
import Derived.SevenTiedAt
import Derived.Test.YtbdbijbfcdaghaaGreatDoorTd
import Derived.Test.YtbdbijbfcdaghaaGreatDoorHj2
namespace Go.Proofs.YtbdbijbfcdaghaaGreatDoor.distKnown
open Go.ChangeShapes Go.WideShapes Go.ChangeAt Go.WideMaps Go.WideElems Go.RowKit
set_option linter.unusedVariables false

theorem own : ownKnob Tryz.prog.godebug = none := by kernel_rfl

abbrev laidL : List (String × DataW Unit) := [("sparrow/shape.knits", Rows.laid_sparrow_shape_knits), ("sparrow/shape.sizes", Rows.laid_sparrow_shape_sizes), ("sparrow/dist.knits", Rows.laid_sparrow_dist_knits)]

theorem gD : Tryz.prog.globalNamed "sparrow/dist.knits" = some 0 := by kernel_rfl
theorem gK : Tryz.prog.globalNamed "sparrow/shape.knits" = some 1 := by kernel_rfl
theorem gS : Tryz.prog.globalNamed "sparrow/shape.sizes" = some 2 := by kernel_rfl

theorem door_met (os : Os) (args : Array Value) : laidMetH Tryz.prog laidL ((World.doorLaid Tryz.prog 400 os).forCall (fun _ _ => 0) ⟨#[], args, []⟩).memory :=
  laidMetH_of_parts3 (fuel := 8) (laidMet_of_run' 8 (by kernel_rfl) (by kernel_rfl)) (by kernel_rfl) (by kernel_rfl)

theorem tD : (Tryz.prog.globals[0]?).map (·.type) = some 169 := by kernel_rfl
theorem tK : (Tryz.prog.globals[1]?).map (·.type) = some 181 := by kernel_rfl
theorem tS : (Tryz.prog.globals[2]?).map (·.type) = some 186 := by kernel_rfl
theorem u3 : Tryz.prog.underlying 3 = some (.int .i64) := by kernel_rfl
theorem c3 : Tryz.prog.cellsOf 3 = 1 := by kernel_rfl

/-- Six rows of three numbers. -/
theorem knits_of {W : World} {T6 R : TypeId} {f : Nat} {cs : Array Value} {q : List MemPlace} (uK : Tryz.prog.underlying T6 = some (.array 6 R)) (cK : Tryz.prog.cellsOf T6 = 18) (uR : Tryz.prog.underlying R = some (.array 3 3)) (cR : Tryz.prog.cellsOf R = 3)
    (hd0 : DataW.trod (fun _ => ()) Tryz.prog W 0 (fun _ => true) false f T6 cs.toList = some (Rows.laid_sparrow_shape_knits, q)) : ∀ (j : Nat) (v : Value), ([.int .i64 0, .int .i64 1, .int .i64 2, .int .i64 0, .int .i64 2, .int .i64 1, .int .i64 1, .int .i64 0, .int .i64 2, .int .i64 1, .int .i64 2, .int .i64 0, .int .i64 2, .int .i64 0, .int .i64 1, .int .i64 2, .int .i64 1, .int .i64 0] : List Value)[j]? = some v → cs[j]? = some v := by
  obtain ⟨xs, m1, _, hx1, hlen, hn6, hel⟩ := DataW.trod_array uK hd0
  simp only [Prod.mk.injEq, Rows.laid_sparrow_shape_knits, DataW.agg.injEq] at hx1
  rw [cK] at hlen
  rw [cR] at hel
  have hx2 := hx1.1
  match xs, hn6, hx2, hel with
  | [x0, x1, x2, x3, x4, x5], _, hx2, hel =>
    simp only [List.map_cons, List.map_nil, List.cons.injEq, and_true] at hx2
    obtain ⟨y0, y1, y2, y3, y4, y5⟩ := hx2
    have part : ∀ (i : Nat) (x : DataW Unit × List MemPlace) (a b c : Int), DataW.trod (fun _ => ()) Tryz.prog W 0 (fun _ => true) false m1 R ((cs.toList.drop (i * 3)).take 3) = some x → DataW.agg [.lit (.int .i64 a), .lit (.int .i64 b), .lit (.int .i64 c)] = x.1 →
        (cs.toList.drop (i * 3)).take 3 = [.int .i64 a, .int .i64 b, .int .i64 c] := by
      intro i x a b c hd hx
      obtain ⟨zs, e1, e2⟩ := ints_of_array uR u3 c3 cR hd
      rw [← hx] at e2
      simp only [DataW.agg.injEq] at e2
      have ez : zs = [a, b, c] := lits_inj (H := Unit) _ _ (by simpa using e2.symm)
      rw [e1, ez]
      rfl
    have k0 := part 0 x0 0 1 2 (hel 0 (by decide)) y0
    have k1 := part 1 x1 0 2 1 (hel 1 (by decide)) y1
    have k2 := part 2 x2 1 0 2 (hel 2 (by decide)) y2
    have k3 := part 3 x3 1 2 0 (hel 3 (by decide)) y3
    have k4 := part 4 x4 2 0 1 (hel 4 (by decide)) y4
    have k5 := part 5 x5 2 1 0 (hel 5 (by decide)) y5
    intro j v hv
    have : cs[j]? = cs.toList[j]? := by simp
    rw [this]
    have get : ∀ (i q : Nat) (l : List Value), (cs.toList.drop (i * 3)).take 3 = l → q < 3 → cs.toList[i * 3 + q]? = l[q]? := fun i q l hl hq => by
      rw [← hl, List.getElem?_take, if_pos hq, List.getElem?_drop]
    have hj : j < 18 := (List.getElem?_eq_some_iff.1 hv).1
    match j, hj with
    | 0, _ => rw [get 0 0 _ k0 (by decide)]; exact hv
    | 1, _ => rw [get 0 1 _ k0 (by decide)]; exact hv
    | 2, _ => rw [get 0 2 _ k0 (by decide)]; exact hv
    | 3, _ => rw [get 1 0 _ k1 (by decide)]; exact hv
    | 4, _ => rw [get 1 1 _ k1 (by decide)]; exact hv
    | 5, _ => rw [get 1 2 _ k1 (by decide)]; exact hv
    | 6, _ => rw [get 2 0 _ k2 (by decide)]; exact hv
    | 7, _ => rw [get 2 1 _ k2 (by decide)]; exact hv
    | 8, _ => rw [get 2 2 _ k2 (by decide)]; exact hv
    | 9, _ => rw [get 3 0 _ k3 (by decide)]; exact hv
    | 10, _ => rw [get 3 1 _ k3 (by decide)]; exact hv
    | 11, _ => rw [get 3 2 _ k3 (by decide)]; exact hv
    | 12, _ => rw [get 4 0 _ k4 (by decide)]; exact hv
    | 13, _ => rw [get 4 1 _ k4 (by decide)]; exact hv
    | 14, _ => rw [get 4 2 _ k4 (by decide)]; exact hv
    | 15, _ => rw [get 5 0 _ k5 (by decide)]; exact hv
    | 16, _ => rw [get 5 1 _ k5 (by decide)]; exact hv
    | 17, _ => rw [get 5 2 _ k5 (by decide)]; exact hv

/-- What the condition gives: the variables lie. -/
theorem of_laid {W : World} (h : laidMetH Tryz.prog laidL W) : Globs W.heap.size W := by
  rw [MakeChecks.laidMetH_plain _ _ _ (by kernel_rfl)] at h
  obtain ⟨ps, ⟨g0, t0, cs0, f0, p0, q0, hg0, ht0, hv0, hd0, ⟨g1, t1, cs1, f1, p1, q1, hg1, ht1, hv1, hd1, ⟨g2, t2, cs2, f2, p2, q2, hg2, ht2, hv2, hd2, _, _⟩, _⟩, _⟩, _, _⟩ := h
  obtain rfl := Option.some.inj (gK.symm.trans hg0)
  obtain rfl := Option.some.inj (gS.symm.trans hg1)
  obtain rfl := Option.some.inj (gD.symm.trans hg2)
  obtain rfl := Option.some.inj (tK.symm.trans ht0)
  obtain rfl := Option.some.inj (tS.symm.trans ht1)
  obtain rfl := Option.some.inj (tD.symm.trans ht2)
  have uS : Tryz.prog.underlying 186 = some (.array 6 3) := by kernel_rfl
  have cS : Tryz.prog.cellsOf 186 = 6 := by kernel_rfl
  obtain ⟨zs, e1, e2⟩ := ints_of_array uS u3 c3 cS hd1
  have ez : zs = [0, 0, 3, 4, 2, 1] := lits_inj (H := Unit) _ _ (by simpa [Rows.laid_sparrow_shape_sizes] using e2.symm)
  subst ez
  have sizes : ∀ (j : Nat) (v : Value), ([.int .i64 0, .int .i64 0, .int .i64 3, .int .i64 4, .int .i64 2, .int .i64 1] : List Value)[j]? = some v → W.cell? ⟨2, j, none⟩ = some v := by
    intro j v hv
    rw [World.var?_cell hg1 hv1 j]
    have : cs1[j]? = cs1.toList[j]? := by simp
    rw [this, e1]
    simpa using hv
  have kn := knits_of (T6 := 181) (R := 180) (by kernel_rfl) (by kernel_rfl) (by kernel_rfl) (by kernel_rfl) hd0
  have kd := knits_of (T6 := 169) (R := 168) (by kernel_rfl) (by kernel_rfl) (by kernel_rfl) (by kernel_rfl) hd2
  intro g cs hg
  match g with
  | 0 => cases hg; exact glob_of_cells (fun j v hv => by rw [World.var?_cell hg2 hv2 j]; exact kd j v hv) (by simp)
  | 1 => cases hg; exact glob_of_cells (fun j v hv => by rw [World.var?_cell hg0 hv0 j]; exact kn j v hv) (by simp)
  | 2 => cases hg; exact glob_of_cells sizes (by simp)
  | g + 3 => simp [GV] at hg

theorem walk (w : World) (hg : Globs w.heap.size w) :
    Calls Tryz.prog 3 #[] w fun e w' => e = .returned (.bool true) ∧ Below w.heap.size w w' :=
  calls_closed (tabT_ok _) (tabF_ok _) mixed hZ_ok (f := 3) (fn := Tryz.f3) (by kernel_rfl) run_ev w hg

set_option maxRecDepth 100000 in
theorem lifted (os : Os) (started : os.Started) (H : Type) (enc : TypeId × Value → H) :
    ReturnsInHanded {} Tryz.checked os 3 .any (fun w args => (Rows.distKnownSpec.pre enc Tryz.prog Tryz.f3 [] false w args ∧ laidMetH Tryz.prog laidL w) ∧ sizedMet enc Tryz.prog Tryz.f3 (OpenSpec.ofChange Rows.distKnownSpec) false w args)
      (Rows.distKnownSpec.post enc Tryz.prog Tryz.f3 false true false false) := by
  refine returnsInHanded_of_change_and (C := Tryz.checked) (X := fun w _ => laidMetH Tryz.prog laidL w) (fun _ _ _ hh h => h.of_heap hh) own started (by kernel_rfl) Tryz.func3
    (ChangeSpec.witness_shaped (enc := enc) (C := Tryz.checked) (os := os) (X := fun w _ => laidMetH Tryz.prog laidL w) false (World.doorLaid Tryz.prog 400 os) #[] 8 rfl (World.shaped_of_RefB (by kernel_rfl) (by kernel_rfl)) (by kernel_rfl) (by kernel_rfl) (by kernel_rfl) (door_met os _)) ?_
  intro W base args ds gs before hval0 hW _ _ hL _
  have hW' := hW
  obtain ⟨p, q, hA0, hV, rfl, hfz, hnd⟩ := hW
  have hA : DataW.TrodAll enc Tryz.prog W 0 (fun _ => true) true Tryz.f3.params.toList args.toList ds p := hA0
  rw [Tryz.params3] at hA
  obtain ⟨rfl, rfl, rfl⟩ := trodAll_none hA
  obtain ⟨rfl, rfl⟩ := trodVars_none hV
  clear hA0 hval0
  simp only [List.append_nil] at hW'
  refine (walk W (of_laid hL)).mono fun e W' ⟨he, hg⟩ => ?_
  subst he
  exact ⟨_, rfl, post_of_below (pa := []) (pv := []) hW' hg (fun _ _ _ => (trodAll_cons_mk (shut_bool Tryz.underlying4 _) trodAll_mk0)) (fun sp _ => rfl) (fun _ _ => rfl) rfl
    (ok_one (by kernel_rfl) rfl (okWide_bool_mk Tryz.underlying4 _))⟩

theorem over : Rows.DistKnownSaid :=
  OpenClaim.holds_of_wide 3 Tryz.f3 rfl rfl rfl rfl rfl rfl rfl ⟨rfl, rfl, rfl, rfl, rfl⟩ rfl rfl rfl rfl rfl (by kernel_rfl) Tryz.func3 (by kernel_rfl)
    (of_decide_eq_true (by kernel_rfl)) (by unfold Func.isWrapper; first | (rw [if_pos (by decide +kernel)]; kernel_rfl) | (rw [if_neg (by decide +kernel)]; exact ⟨rfl, rfl⟩))
    (fun os started H enc _ => lifted os started H enc)

/-- The card. -/
theorem proved : Rows.DistKnownCardSaid :=
  Claim7.holds_tied_plain_at .later [] [.data, .data, .data] true (true, "f1460ec2d4fd1419d01c9ef86632c1f60c8cd2597a19f4e299018dd2c90f730c") false
    over (fun _ h => by cases h) (by kernel_rfl) (fun _ h => by cases h) distKnown_row_tie rfl ⟨rfl, rfl⟩ (by kernel_rfl) rfl
    (fun f fn hf hfn => by
      obtain rfl : f = 3 := Option.some.inj ((show Tryz.prog.funcNamed "sparrow/sparrowlaw03.DistKnown" = some 3 by kernel_rfl).symm.trans hf) |>.symm
      obtain rfl : fn = Tryz.f3 := (Option.some.inj (Tryz.func3.symm.trans hfn)).symm
      exact ⟨by kernel_rfl, fun j t ht => by
        rw [Tryz.params3] at ht
        simp at ht⟩)
    (by kernel_rfl)
#print axioms proved
end Go.Proofs.YtbdbijbfcdaghaaGreatDoor.distKnown
