/-
  What is proved: a scale, as the row's argument reads it, is a value that the run takes; the law's walk over it; the witness of the row.
-/
import Derived.Test.YtlinnmehicbomaaDoorRows
import Derived.WalkKit
import Derived.ProofKit
import Derived.OpenShut
import Derived.LaidMore
import Derived.Stop.Joined
import Derived.SevenTiedAt
import Derived.Lay
import Derived.HandedShaped
import Derived.Test.YtlinnmehicbomaaDoorPh
import Derived.Test.YtlinnmehicbomaaDoorHj3
namespace Go.Proofs.YtlinnmehicbomaaDoor.scorePoints
open Go.ChangeShapes Go.WideShapes Go.ChangeAt Go.WideMaps Go.WideElems Go.RowKit
set_option linter.unusedVariables false

theorem own : ownKnob Tryd.prog.godebug = none := by kernel_rfl
theorem laid : laidOutB Tryd.prog = true := by kernel_rfl

abbrev laidL : List (String × DataW Unit) := [("sparrow/house.nodeParts", Rows.laid_sparrow_house_nodeParts)]

/-- What the condition gives: the variables lie. -/
theorem of_laid {W : World} (h : laidMetH Tryd.prog laidL W) : Globs W.heap.size W := by
  rw [MakeChecks.laidMetH_plain _ _ _ (by kernel_rfl)] at h
  intro g cs hg
  match g with
  | 0 => cases hg; exact glob_of_cells (var_cells (n := "sparrow/house.nodeParts") (d := Rows.laid_sparrow_house_nodeParts) (g := 0) (t := 136) h (by simp [laidL]) (by kernel_rfl) (by kernel_rfl) (by kernel_rfl)) (by simp)
  | g + 1 => simp [GV] at hg

theorem first_cells {W : World} (h : Globs W.heap.size W) : ∃ c e fz, W.heap[0]? = some (.cells c e fz) := by
  obtain ⟨_, c, e, fz, h1, _⟩ := h 0 _ rfl
  exact ⟨c, e, fz, h1⟩

theorem four {l : List Value} (hl : l.length = 4) {a0 a1 a2 a3 : Value} (h0 : l[0]? = some a0) (h1 : l[1]? = some a1) (h2 : l[2]? = some a2) (h3 : l[3]? = some a3) : l = [a0, a1, a2, a3] := by
  apply List.ext_getElem?
  intro i
  match i with
  | 0 => exact h0
  | 1 => exact h1
  | 2 => exact h2
  | 3 => exact h3
  | i + 4 => rw [List.getElem?_eq_none (by omega)]; rfl

set_option maxRecDepth 100000 in
theorem scale_open {H : Type} {enc : TypeId × Value → H} {w : World} {base : Nat} {v : Value} {d : DataW H} {ps : List MemPlace} (hv : Value.okWide Tryd.prog w .any base 24 v) (h : DataW.Trod enc Tryd.prog w 0 (fun _ => true) true 24 v d ps) :
    ∃ (b : Int) (x : Bool) (u : Value) (r : Int) (n : Nat) (g : Nat → Int), v = .agg ⟨[.int .i64 b, .bool x, u, .int .i64 r]⟩ ∧ PL w u n g := by
  obtain ⟨cs, rfl, hsz⟩ := okWide_struct Tryd.underlying24 hv
  obtain ⟨fuel, hf⟩ := h
  obtain ⟨xs, m, _, _, hlen, hxs, hall⟩ := DataW.trod_struct Tryd.underlying24 hf
  have c3 : Tryd.prog.cellsOf 3 = 1 := by kernel_rfl
  have c4 : Tryd.prog.cellsOf 4 = 1 := by kernel_rfl
  have c22 : Tryd.prog.cellsOf 22 = 1 := by kernel_rfl
  have c24 : Tryd.prog.cellsOf 24 = 4 := by kernel_rfl
  have c33 : Tryd.prog.cellsOf 33 = 2 := by kernel_rfl
  have u3 : Tryd.prog.underlying 3 = some (.int .i64) := by kernel_rfl
  have u4 : Tryd.prog.underlying 4 = some .bool := by kernel_rfl
  have hl4 : (Value.agg cs).cells.toList.length = 4 := by rw [hlen, c24]
  have hx4 : xs.length = 4 := hxs
  have get (i : Nat) (fd : Field) (hfd : (#[{ name := "Base", type := 3, offset := 0, embedded := false, tag := "", pkgPath := "", byteOffset := 0 },
        { name := "Double", type := 4, offset := 1, embedded := false, tag := "", pkgPath := "", byteOffset := 8 },
        { name := "Limits", type := 22, offset := 2, embedded := false, tag := "", pkgPath := "", byteOffset := 16 },
        { name := "Round", type := 3, offset := 3, embedded := false, tag := "", pkgPath := "", byteOffset := 40 }] : Array Field)[i]? = some fd) (hc : Tryd.prog.cellsOf fd.type = 1) (ho : fd.offset = i) (hi : i < 4) : ∃ y, DataW.trod enc Tryd.prog w 0 (fun _ => true) true m fd.type (((Value.agg cs).cells.toList.drop i).take 1) = some y := by
    have h1 := hall i fd hfd
    rw [hc, ho, List.getElem?_eq_getElem (by omega)] at h1
    exact ⟨_, h1⟩
  obtain ⟨y0, g0⟩ := get 0 _ rfl c3 rfl (by omega)
  obtain ⟨y1, g1⟩ := get 1 _ rfl c4 rfl (by omega)
  obtain ⟨y2, g2⟩ := get 2 _ rfl c22 rfl (by omega)
  obtain ⟨y3, g3⟩ := get 3 _ rfl c3 rfl (by omega)
  obtain ⟨b, e0, _⟩ := DataW.trod_int u3 g0
  obtain ⟨x, e1, _⟩ := DataW.trod_bool u4 g1
  obtain ⟨u, n, g, e2, hp⟩ := pairs_open (ft := 3) Tryd.underlying22 Tryd.underlying33 c33 rfl rfl rfl rfl rfl rfl u3 c3 g2
  obtain ⟨r, e3, _⟩ := DataW.trod_int u3 g3
  have hlist := four hl4 (take1 e0) (take1 e1) (take1 e2) (take1 e3)
  refine ⟨b, x, u, r, n, g, ?_, hp⟩
  show Value.agg cs = _
  congr 1
  exact Array.toList_inj.1 hlist

def rho1 (x0 : Nat × Nat × Nat) : BMap
  | 0 => some x0
  | _ => none

theorem walk (w : World) (hg : Globs w.heap.size w) {b : Int} {x : Bool} {u : Value} {r : Int} {n : Nat} {g : Nat → Int} (hu : PL w u n g) (mi v : Int) :
    Calls Tryd.prog 3 #[.agg ⟨[.int .i64 b, .bool x, u, .int .i64 r]⟩, .int .i64 mi, .int .i64 v] w fun e w' => e = .returned (.bool true) ∧ Below w.heap.size w w' := by
  obtain ⟨x0, r0, b0⟩ := hu.rel (first_cells hg)
  have hargs : LRel (rho1 x0) [scV b x (limV n) r, .int .i64 mi, .int .i64 v] #[.agg ⟨[.int .i64 b, .bool x, u, .int .i64 r]⟩, .int .i64 mi, .int .i64 v] := by
    refine ⟨rfl, fun j y z hy hz => ?_⟩
    match j with
    | 0 =>
      cases hy; cases hz
      refine .agg rfl fun j y z hy hz => ?_
      match j with
      | 0 => cases hy; cases hz; exact .int _ _
      | 1 => cases hy; cases hz; exact .bool _
      | 2 => cases hy; cases hz; exact r0 _ rfl
      | 3 => cases hy; cases hz; exact .int _ _
      | j + 4 => simp at hy
    | 1 => cases hy; cases hz; exact .int _ _
    | 2 => cases hy; cases hz; exact .int _ _
    | j + 3 => simp at hy
  have hfree : ∀ hi, Free (rho1 x0) 1 hi := fun hi i h1 _ => by
    match i with
    | 0 => omega
    | i + 1 => rfl
  obtain ⟨H', h⟩ := body_ev (b := b) (d := x) (r := r) (mi := mi) (v := v) (intsL_ok g (2 * n))
  have hrel : HRel w.heap.size (rho1 x0) [(0, .cells true (intsL g (2 * n)))] w := by
    have one : ∀ i k, lookB [(0, ABlk.cells true (intsL g (2 * n)))] i = some k → k.rw = false ∧ ∃ x, rho1 x0 i = some x ∧ BRel (rho1 x0) w.heap.size w x k := by
      intro i k hk
      match i with
      | 0 => cases hk; exact ⟨rfl, x0, rfl, b0 _⟩
      | i + 1 => simp [lookB, Nat.beq_eq] at hk
    refine ⟨Nat.le_refl _, fun i k hk => (one i k hk).2, fun i j ki kj xi xj hi hj hki => ?_, hg⟩
    rw [(one i ki hi).1] at hki
    cases hki
  refine (calls_of_ev (tabT_ok _) (tabF_ok _) mixed (lf := 300) (kp := kpT) (hd := S5) S5_ok (n := 60) F3 h (B := w.heap.size) hargs hrel (hfree _)).mono ?_
  rintro e w' ⟨ρ', u', rfl, hu', hp⟩
  cases hu'
  exact ⟨rfl, hp.below⟩

set_option maxRecDepth 100000 in
theorem lifted (os : Os) (started : os.Started) (H : Type) (enc : TypeId × Value → H) :
    ReturnsInHanded {} Tryd.checked os 3 .any (fun w args => (Rows.scorePointsSpec.pre enc Tryd.prog Tryd.f3 [] false w args ∧ laidMetH Tryd.prog laidL w) ∧ sizedMet enc Tryd.prog Tryd.f3 (OpenSpec.ofChange Rows.scorePointsSpec) false w args)
      (Rows.scorePointsSpec.post enc Tryd.prog Tryd.f3 false true false false) := by
  refine returnsInHanded_of_change_and (C := Tryd.checked) (X := fun w _ => laidMetH Tryd.prog laidL w) (fun _ _ _ hh h => h.of_heap hh) own started (by kernel_rfl) Tryd.func3
    (ChangeSpec.witness_shaped (enc := enc) (C := Tryd.checked) (os := os) (X := fun w _ => laidMetH Tryd.prog laidL w) false (World.laidAll Tryd.prog os laidL) #[.agg #[.int .i64 0, .bool false, .slice none 0 0, .int .i64 0], .int .i64 0, .int .i64 0] 8 (World.laidAll_os _ _ _)
      (World.shaped_of_ZipB (by kernel_rfl) (by kernel_rfl)) (by kernel_rfl) (by kernel_rfl) (by kernel_rfl)
      (by rw [MakeChecks.laidMetH_plain _ _ _ (by kernel_rfl)]; exact laidMet_laidAll _ (by kernel_rfl) (by kernel_rfl))) ?_
  intro W base args ds gs before hval0 hW _ _ hL _
  have hval : ∀ (j : Nat) t v, Tryd.f3.params[j]? = some t → args[j]? = some v → Value.okWide Tryd.prog W .any base t v := hval0
  have hW' := hW
  have hlt := hW.lt
  obtain ⟨p, q, hA0, hV, rfl, hfz, hnd⟩ := hW
  have hA : DataW.TrodAll enc Tryd.prog W 0 (fun _ => true) true Tryd.f3.params.toList args.toList ds p := hA0
  rw [Tryd.params3] at hA hval
  obtain ⟨v0, v1, v2, d0, d1, d2, p0, p1, p2, rfl, rfl, rfl, h0, h1, h2⟩ := trodAll_three hA
  obtain ⟨rfl, rfl⟩ := trodVars_none hV
  have u3 : Tryd.prog.underlying 3 = some (.int .i64) := by kernel_rfl
  obtain ⟨b, x, u, r, n, g, rfl, hu⟩ := scale_open (hval 0 24 v0 rfl rfl) h0
  obtain ⟨k1, rfl, rfl, rfl, w1⟩ := open_int u3 (hval 1 3 v1 rfl rfl) h1
  obtain ⟨k2, rfl, rfl, rfl, w2⟩ := open_int u3 (hval 2 3 v2 rfl rfl) h2
  clear hA0 hval0
  refine (walk W (of_laid hL) hu k1 k2).mono fun e W' ⟨he, hg⟩ => ?_
  subst he
  have hlt0 : ∀ x ∈ p0, x.block < W.heap.size := fun x hx => hlt x (by simp [hx])
  exact ⟨_, rfl, post_of_below (pa := p0 ++ [] ++ []) (pv := []) hW' hg (fun _ _ _ => (trodAll_cons_mk (shut_bool Tryd.underlying4 _) trodAll_mk0))
    (fun sp hsp => by
      have t0 := WideElems.Trod_stays (W' := W') (sp' := sp) laid (by kernel_rfl) (of_decide_eq_true (by kernel_rfl)) h0 (fun x hx => hg.same (hlt0 x hx)) (fun x hx => hsp x (by simp [hx]))
      have := trodAll_mk3 t0 (shut_int (w := W') (base := 0) (spare := sp) (held := true) (enc := enc) u3 w1) (shut_int (w := W') (base := 0) (spare := sp) (held := true) (enc := enc) u3 w2)
      have e : p0 ++ [] ++ [] = p0 ++ ([] ++ []) := by simp
      rw [e]
      exact this)
    (fun _ _ => rfl) rfl
    (ok_one (by kernel_rfl) rfl (okWide_bool_mk Tryd.underlying4 _))⟩

end Go.Proofs.YtlinnmehicbomaaDoor.scorePoints
