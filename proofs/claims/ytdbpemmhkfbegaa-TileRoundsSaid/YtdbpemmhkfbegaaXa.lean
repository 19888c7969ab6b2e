/-
  What is proved: what is known of calls with a set whose lists are told by functions holds for a set whose lists lie in cells, too.
-/
import Derived.Test.YtdbpemmhkfbegaaTf
namespace Go.Proofs.Ytdbpemmhkfbegaa
open Go.RowKit
set_option linter.unusedSimpArgs false
set_option linter.unusedVariables false

noncomputable def seeL (bs : List (Nat × ABlk)) : Value → Option (Nat × (Nat → Int))
  | .slice none 0 0 => some (0, fun _ => 0)
  | .slice (some ⟨a, 0, none⟩) n 1 => match lookB bs a with
    | some (.cells _ cs) => if okC cs n then some (n, gi cs) else none
    | _ => none
  | _ => none
/-- A set whose first list is not nil. -/
noncomputable def seeC (v : Value) (bs : List (Nat × ABlk)) : Option SV :=
  match v with
  | .agg ⟨[.int .i64 p, .slice (some a) n z, .int .i64 w, .int .i64 d, .int .i64 f, .int .i64 c, .int .i64 m, .int .i64 de, u8]⟩ =>
    match seeL bs (.slice (some a) n z), seeL bs u8 with
    | some (n, g), some (k, h) => if Nat.ble n 200 && Nat.ble k 200 then some ⟨p, n, g, w, d, f, c, m, de, k, h⟩ else none
    | _, _ => none
  | _ => none
noncomputable def setH (f : FuncId) (ans : SV → List Value → Option Value) : Value → List Value → AH → Option (Value × AH) := fun fv args H =>
  match fv, args with
  | .func (.func f') ⟨[]⟩ ⟨[]⟩, v :: rest =>
    if Nat.beq f' f && rest.all (closedV 3) then
      match seeC v H.bs with
      | some s => match ans s rest with
        | some r => some (r, H)
        | none => none
      | none => none
    else none
  | _, _ => none

theorem seeL_spec {bs : List (Nat × ABlk)} {u : Value} {n : Nat} {g : Nat → Int} (h : seeL bs u = some (n, g)) :
    (u = .slice none 0 0 ∧ n = 0) ∨ ∃ a ro cs, u = .slice (some ⟨a, 0, none⟩) n 1 ∧ lookB bs a = some (.cells ro cs) ∧ okC cs n = true ∧ g = gi cs := by
  unfold seeL at h
  split at h
  · cases h; exact .inl ⟨rfl, rfl⟩
  · split at h
    · rename_i ro cs hl
      split at h
      · rename_i hc
        cases h
        exact .inr ⟨_, ro, cs, rfl, hl, hc, rfl⟩
      · cases h
    · cases h
  · cases h

/-- A list in cells, as a list that is told by a function. -/
theorem list_rel {B : Nat} {ρ : BMap} {bs : List (Nat × ABlk)} {w : World} (hH : HRel B ρ bs w) {a n : Nat} {ro : Bool} {cs : List Value} (hl : lookB bs a = some (.cells ro cs)) (hc : okC cs n = true) {u : Value} (hu : VRel ρ (.slice (some ⟨a, 0, none⟩) n 1) u) :
    ∃ b o cap, u = .slice (some ⟨b, o, none⟩) n cap ∧ n ≤ cap ∧ b < w.heap.size ∧ ∃ (ccs : Array Value) (e : TypeId) (fz : Nat × Nat), w.heap[b]? = some (.cells ccs e fz) ∧ ∀ j : Nat, j < n → ccs[o + j]? = some (.int .i64 (gi cs j)) := by
  cases hu with
  | slice hρ hle ht =>
    rename_i b o tot cap
    obtain ⟨x, hx, hr⟩ := hH.blk a _ hl
    rw [hρ] at hx; cases hx
    have hlt := hr.lt
    obtain ⟨ccs, e, fz, h1, h2, _⟩ := hr
    refine ⟨b, o + 0, cap, rfl, hle, hlt, ccs, e, fz, h1, fun j hj => ?_⟩
    obtain ⟨v, hv, hvr⟩ := h2 j _ (okC_at hc hj)
    cases hvr
    simpa using hv

theorem setH_ok {P : Program} {call0 : Value → List Value → AH → Option (Value × AH)} (hC : CallOK P call0) {f : FuncId} {ans : SV → List Value → Option Value}
    (ha : ∀ s rest v, s.n ≤ 200 → s.k ≤ 200 → ans s rest = some v → closedV 5 v = true ∧ ∃ H', call0 (.func (.func f) #[] #[]) (s.val :: rest) s.hp = some (v, H')) : CallOK P (setH f ans) := by
  intro fv args H v H' h
  unfold setH at h
  split at h
  · rename_i f' v0 rest
    split at h
    · rename_i hf
      simp only [Bool.and_eq_true] at hf
      obtain ⟨hf, hrest⟩ := hf
      split at h
      · rename_i s hs
        split at h
        · rename_i r hr
          cases h
          have hff : f' = f := Nat.eq_of_beq_eq_true hf
          subst hff
          unfold seeC at hs
          split at hs
          · rename_i p a n0 z wi d fl c m de u8
            split at hs
            · rename_i n g k hh h1 h8
              split at hs
              · rename_i hb
                simp only [Bool.and_eq_true, Nat.ble_eq] at hb
                cases hs
                obtain ⟨hcl, H2, hcall⟩ := ha _ _ _ hb.1 hb.2 hr
                refine ⟨Nat.le_refl _, fun B ρ w fv' args' hfv hargs hH _ => ?_⟩
                rcases seeL_spec h1 with ⟨e1, _⟩ | ⟨a1, ro1, cs1, e1, l1, c1, rfl⟩
                · cases e1
                cases e1
                -- the first argument
                have hsz : args'.size = rest.length + 1 := by have := hargs.1; simp at this; omega
                have h0 := hargs.2 0 _ _ rfl (Array.getElem?_eq_getElem (show 0 < args'.size by omega))
                generalize hu0 : args'[0] = u0 at h0
                cases h0 with
                | agg hs0 hc0 =>
                  rename_i cc
                  have hcs : cc.size = 9 := by rw [← hs0]; rfl
                  have get : ∀ (j : Nat) (hj : j < 9) (y : Value), (#[Value.int .i64 p, .slice (some ⟨a1, 0, none⟩) n0 1, .int .i64 wi, .int .i64 d, .int .i64 fl, .int .i64 c, .int .i64 m, .int .i64 de, u8] : Array Value)[j]? = some y → VRel ρ y (cc[j]'(by omega)) := fun j hj y hy => hc0 j y _ hy (Array.getElem?_eq_getElem (by omega))
                  obtain ⟨b, o, cap, e1, hcap, hbl, ccs, ty, fz, hb1, hcells⟩ := list_rel hH l1 c1 (get 1 (by omega) _ rfl)
                  -- the second list
                  have second : ∃ x8 : Nat × Nat × Nat, (∀ ρ2 : BMap, ρ2 1 = some x8 → VRel ρ2 (.slice (some ⟨1, 0, some 1⟩) k 0) (cc[8]'(by omega))) ∧ ∀ ρ2 : BMap, BRel ρ2 w.heap.size w x8 (.ints hh) := by
                    have h8r := get 8 (by omega) _ rfl
                    rcases seeL_spec h8 with ⟨rfl, rfl⟩ | ⟨a8, ro8, cs8, rfl, l8, c8, rfl⟩
                    · refine ⟨(b, o, 0), fun ρ2 _ => ?_, fun ρ2 => ⟨hbl, ccs, ty, fz, hb1, fun j hj => absurd hj (Nat.not_lt_zero _), Nat.zero_le _⟩⟩
                      generalize cc[8]'(by omega) = q at h8r
                      cases h8r with
                      | snil => exact .rnil
                    · obtain ⟨b', o', cap', e8, hcap', hbl', ccs', ty', fz', hb', hcells'⟩ := list_rel hH l8 c8 h8r
                      refine ⟨(b', o', k), fun ρ2 h2 => ?_, fun ρ2 => ⟨hbl', ccs', ty', fz', hb', hcells', hb.2⟩⟩
                      rw [e8]
                      exact .rsl h2 hcap' (Nat.le_refl _)
                  obtain ⟨x8, r8, b8⟩ := second
                  let ρ2 : BMap := fun i => match i with
                    | 0 => some (b, o, n0)
                    | 1 => some x8
                    | _ => none
                  let s : SV := ⟨p, n0, gi cs1, wi, d, fl, c, m, de, k, hh⟩
                  have hrel : HRel w.heap.size ρ2 s.hp.bs w := by
                    have one : ∀ i q, lookB s.hp.bs i = some q → q.rw = false ∧ ∃ x, ρ2 i = some x ∧ BRel ρ2 w.heap.size w x q := by
                      intro i q hq
                      match i with
                      | 0 => cases hq; exact ⟨rfl, _, rfl, hbl, ccs, ty, fz, hb1, hcells, hb.1⟩
                      | 1 => cases hq; exact ⟨rfl, _, rfl, b8 _⟩
                      | i + 2 => simp [s, SV.hp, lookB, Nat.beq_eq] at hq
                    refine ⟨Nat.le_refl _, fun i q hq => (one i q hq).2, fun i j ki kj xi xj hi hj hki => ?_, hH.glob.of hH.hB fun _ _ => rfl⟩
                    rw [(one i ki hi).1] at hki
                    cases hki
                  have hargs2 : LRel ρ2 (s.val :: rest) args' := by
                    refine ⟨by simpa using hargs.1, fun jj yy yy' hy hy' => ?_⟩
                    rcases jj with _ | jj
                    · cases hy
                      rw [Array.getElem?_eq_getElem (show 0 < args'.size by omega), hu0] at hy'
                      cases hy'
                      refine .agg hs0 fun j y y' hy hy' => ?_
                      have hj : j < 9 := by
                        have := (Array.getElem?_eq_some_iff.1 hy).1
                        exact this
                      rw [Array.getElem?_eq_getElem (show j < cc.size by omega)] at hy'
                      cases hy'
                      match j with
                      | 0 => cases hy; have := get 0 (by omega) _ rfl; generalize cc[0]'(by omega) = q at this ⊢; cases this; exact .int _ _
                      | 1 => cases hy; rw [e1]; exact .rsl rfl hcap (Nat.le_refl _)
                      | 2 => cases hy; have := get 2 (by omega) _ rfl; generalize cc[2]'(by omega) = q at this ⊢; cases this; exact .int _ _
                      | 3 => cases hy; have := get 3 (by omega) _ rfl; generalize cc[3]'(by omega) = q at this ⊢; cases this; exact .int _ _
                      | 4 => cases hy; have := get 4 (by omega) _ rfl; generalize cc[4]'(by omega) = q at this ⊢; cases this; exact .int _ _
                      | 5 => cases hy; have := get 5 (by omega) _ rfl; generalize cc[5]'(by omega) = q at this ⊢; cases this; exact .int _ _
                      | 6 => cases hy; have := get 6 (by omega) _ rfl; generalize cc[6]'(by omega) = q at this ⊢; cases this; exact .int _ _
                      | 7 => cases hy; have := get 7 (by omega) _ rfl; generalize cc[7]'(by omega) = q at this ⊢; cases this; exact .int _ _
                      | 8 => cases hy; exact r8 _ rfl
                      | j + 9 => omega
                    · have hr1 := hargs.2 (jj + 1) yy yy' hy hy'
                      have hcl := List.all_eq_true.1 hrest yy (List.mem_of_getElem? (l := rest) (i := jj) (by simpa using hy))
                      have := closedV_eq 3 yy yy' hcl hr1
                      subst this
                      exact closedV_rel _ 3 _ hcl
                  obtain ⟨_, st⟩ := hC _ _ _ _ _ hcall
                  obtain ⟨fn, cap2, nn, fr, e0, i1, i2, i3⟩ := st w.heap.size ρ2 w (.func (.func f') #[] #[]) args' (.func rfl (fun j v v' hv => by simp at hv)) hargs2 hrel (fun q q1 _ => by
                    match q with
                    | 0 => exact absurd q1 (by simp [SV.hp])
                    | 1 => exact absurd q1 (by simp [SV.hp])
                    | q + 2 => rfl)
                  cases e0
                  cases hfv with
                  | func hs _ =>
                    have hc' := Array.eq_empty_of_size_eq_zero hs.symm
                    subst hc'
                    refine ⟨.func f', #[], nn, fr, rfl, i1, i2, fun c cs => ?_⟩
                    obtain ⟨ρ', w', u, stt, hu, hp⟩ := i3 c cs
                    have := closedV_eq 5 _ u hcl hu
                    subst this
                    exact ⟨ρ, w', _, stt, closedV_rel ρ 5 _ hcl, Ext.refl ρ, fun _ _ => rfl, hH.keep hp.below, hp.below.mono hH.hB⟩
              · cases hs
            · cases hs
          · cases hs
        · cases h
      · cases h
    · cases h
  · cases h

end Go.Proofs.Ytdbpemmhkfbegaa
