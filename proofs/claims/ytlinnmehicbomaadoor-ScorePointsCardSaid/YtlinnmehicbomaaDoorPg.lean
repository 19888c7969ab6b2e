/-
  What is proved: the functions that the law calls, as answers told by their arguments.
-/
import Derived.Test.YtlinnmehicbomaaDoorPf
import Derived.Test.YtlinnmehicbomaaDoorM1j
import Derived.Test.YtlinnmehicbomaaDoorSr
namespace Go.Proofs.YtlinnmehicbomaaDoor
open Go.RowKit
set_option linter.unusedSimpArgs false
set_option linter.unusedVariables false

abbrev Hnd := Value → List Value → AH → Option (Value × AH)
noncomputable def inH (hd : Hnd) : Hnd := evCall (tabT Tryd.prog) (tabF Tryd.prog) 300 kpT hd 60
noncomputable def runH (hd : Hnd) : Hnd := evCall (tabT Tryd.prog) (tabF Tryd.prog) 300 kpT hd (60 + 1)
theorem runH_ok {hd : Hnd} (h : CallOK Tryd.prog hd) : CallOK Tryd.prog (runH hd) := evCall_sound (tabT_ok _) (tabF_ok _) mixed 300 kpT h (60 + 1)
theorem runH_fn {hd : Hnd} {f : FuncId} {fn : Func} {args : List Value} {H H' : AH} {v : Value} (hF : (tabF Tryd.prog) f = some fn) (hh : hd (.func (.func f) #[] #[]) args H = none)
    (h : evFn (tabT Tryd.prog) (inH hd) 300 kpT f fn args H = some (v, H')) : runH hd (.func (.func f) #[] #[]) args H = some (v, H') := by
  unfold runH evCall
  simp only [hh, hF]
  simpa [inH] using h
theorem inH_hd {hd : Hnd} {fv : Value} {args : List Value} {H : AH} {r : Value × AH} (h : hd fv args H = some r) : inH hd fv args H = some r := by
  show evCall (tabT Tryd.prog) (tabF Tryd.prog) 300 kpT hd (59 + 1) fv args H = some r
  unfold evCall
  simp only [h]
theorem canH_ne {f g : FuncId} {ans : List Value → AH → Option Value} {args : List Value} {H : AH} (h : ¬ g = f) : canH f ans (.func (.func g) #[] #[]) args H = none := by
  simp [canH, Nat.beq_eq, h]
theorem orH_l {a b : Hnd} {fv : Value} {args : List Value} {H : AH} {r : Value × AH} (h : a fv args H = some r) : orH a b fv args H = some r := by simp [orH, h]
theorem orH_r {a b : Hnd} {fv : Value} {args : List Value} {H : AH} {r : Option (Value × AH)} (ha : a fv args H = none) (h : b fv args H = r) : orH a b fv args H = r := by simp [orH, ha, h]

/-! ### between -/
def ansB : List Value → AH → Option Value
  | [.int .i64 n, .int .i64 l, .int .i64 m], _ => some (.bool (btw n l m))
  | _, _ => none
theorem canB (f : FuncId) (n a b : Int) (H : AH) : canH f ansB (.func (.func f) #[] #[]) [.int .i64 n, .int .i64 a, .int .i64 b] H = some (.bool (btw n a b), H) := by
  simp [canH, canon, canonL, canonV, canonB, ansB, Nat.beq_eq]
theorem F3 : (tabF Tryd.prog) 3 = some Tryd.f3 := by kernel_rfl
theorem F4 : (tabF Tryd.prog) 4 = some Tryd.f4 := by kernel_rfl
theorem F5 : (tabF Tryd.prog) 5 = some Tryd.f5 := by kernel_rfl
theorem F7 : (tabF Tryd.prog) 7 = some Tryd.f7 := by kernel_rfl
theorem F8 : (tabF Tryd.prog) 8 = some Tryd.f8 := by kernel_rfl
theorem F9 : (tabF Tryd.prog) 9 = some Tryd.f9 := by kernel_rfl
theorem F10 : (tabF Tryd.prog) 10 = some Tryd.f10 := by kernel_rfl
theorem F11 : (tabF Tryd.prog) 11 = some Tryd.f11 := by kernel_rfl
theorem F18 : (tabF Tryd.prog) 18 = some Tryd.f18 := by kernel_rfl
theorem F19 : (tabF Tryd.prog) 19 = some Tryd.f19 := by kernel_rfl
theorem ok8 : AnsOK (runH noH) 8 ansB := by
  intro cargs Hc v h
  unfold ansB at h
  split at h
  · rename_i n l m
    cases h
    exact ⟨rfl, fun _ => by
      obtain ⟨H', h⟩ := btw8_ev (inH noH) n l m Hc
      exact ⟨H', runH_fn F8 rfl h⟩⟩
  · cases h
theorem ok18 : AnsOK (runH noH) 18 ansB := by
  intro cargs Hc v h
  unfold ansB at h
  split at h
  · rename_i n l m
    cases h
    exact ⟨rfl, fun _ => by
      obtain ⟨H', h⟩ := btw18_ev (inH noH) n l m Hc
      exact ⟨H', runH_fn F18 rfl h⟩⟩
  · cases h
theorem ok19 : AnsOK (runH noH) 19 ansB := by
  intro cargs Hc v h
  unfold ansB at h
  split at h
  · rename_i n l m
    cases h
    exact ⟨rfl, fun _ => by
      obtain ⟨H', h⟩ := btw19_ev (inH noH) n l m Hc
      exact ⟨H', runH_fn F19 rfl h⟩⟩
  · cases h
noncomputable def S1 : Hnd := orH (canH 8 ansB) (orH (canH 18 ansB) (canH 19 ansB))
theorem S1_ok : CallOK Tryd.prog S1 := orH_ok (canH_ok (runH_ok noH_ok) ok8) (orH_ok (canH_ok (runH_ok noH_ok) ok18) (canH_ok (runH_ok noH_ok) ok19))

/-! ### scales -/
theorem limV_len (n : Nat) : aLen (tabT Tryd.prog) 22 (limV n) = some (.int .i64 n) := by
  cases n with
  | zero => exact LEN22 _ 0 _
  | succ n => exact LEN22 _ (n + 1) _
theorem limV_ix (n k : Nat) (h : k < n) : aIndexAddr (tabT Tryd.prog) 22 (limV n) (.int .i64 (k : Int)) = some (.pointer (some ⟨0, k * 2, none⟩)) := by
  cases n with
  | zero => omega
  | succ n =>
    show aIndexAddr (tabT Tryd.prog) 22 (.slice (some ⟨0, 0, none⟩) (n + 1) 2) (.int .i64 (k : Int)) = _
    simpa using IX22 0 0 (n + 1) 2 k h

/-- The length of the limits that a value and a memory of one block tell. -/
def seeL : Value → AH → Option (Nat × List Value)
  | .slice (some ⟨0, 0, none⟩) (n + 1) 2, ⟨1, [(0, .cells true cs)]⟩ => if n ≤ 199 ∧ okC cs (2 * (n + 1)) = true then some (n + 1, cs) else none
  | .slice (some ⟨0, 0, some 1⟩) 0 0, ⟨1, [(0, .cells true cs)]⟩ => if okC cs 0 then some (0, cs) else none
  | _, _ => none
theorem seeL_spec {u : Value} {H : AH} {n : Nat} {cs : List Value} (h : seeL u H = some (n, cs)) : u = limV n ∧ H = ⟨1, [(0, .cells true cs)]⟩ ∧ okC cs (2 * n) = true ∧ n ≤ 200 := by
  unfold seeL at h
  split at h
  · split at h
    · rename_i hc; cases h; exact ⟨rfl, rfl, hc.2, by omega⟩
    · cases h
  · split at h
    · rename_i hc; cases h; exact ⟨rfl, rfl, hc, by omega⟩
    · cases h
  · cases h
def seeS : Value → AH → Option (Int × Bool × Int × Nat × List Value)
  | .agg ⟨[.int .i64 b, .bool d, u, .int .i64 r]⟩, H => (seeL u H).map fun x => (b, d, r, x.1, x.2)
  | _, _ => none
theorem seeS_spec {v : Value} {H : AH} {b : Int} {d : Bool} {r : Int} {n : Nat} {cs : List Value} (h : seeS v H = some (b, d, r, n, cs)) : v = scV b d (limV n) r ∧ H = ⟨1, [(0, .cells true cs)]⟩ ∧ okC cs (2 * n) = true ∧ n ≤ 200 := by
  unfold seeS at h
  split at h
  · rename_i b' d' u r'
    cases hl : seeL u H with
    | none => rw [hl] at h; cases h
    | some x =>
      rw [hl] at h
      cases h
      obtain ⟨e, h1, h2, h3⟩ := seeL_spec (n := x.1) (cs := x.2) hl
      exact ⟨by rw [e]; rfl, h1, h2, h3⟩
  · cases h

def ansC : List Value → AH → Option Value
  | [v], H => match seeS v H with
    | some (b, _, r, n, cs) => some (.int .i64 (scErr b r n cs))
    | none => none
  | _, _ => none
def ansR : List Value → AH → Option Value
  | [u, .int .i64 v], H => match seeL u H with
    | some (n, cs) => some (.int .i64 (reach cs v n 0 : Nat))
    | none => none
  | _, _ => none
noncomputable def ansU : List Value → AH → Option Value
  | [x, .int .i64 mi, .int .i64 v], H => if 0 ≤ v then match seeS x H with
    | some (b, d, _, _, _) => some (.int .i64 (unl b d mi v))
    | none => none
    else none
  | _, _ => none
noncomputable def ansP : List Value → AH → Option Value
  | [x, .int .i64 mi, .int .i64 v], H => match seeS x H with
    | some (b, d, r, n, cs) => some (.int .i64 (pts b d r n cs mi v))
    | none => none
  | _, _ => none

theorem canonB0 {m : Nat} {cs : List Value} (hcs : okC cs m = true) {H : AH} {ro : Bool} (h0 : lookB H.bs 0 = some (.cells ro cs)) : canonB H.bs [0] 0 = some [(0, .cells true cs)] := by
  rw [canonB, h0]
  simp only [okC_closed hcs, if_true, canonB, Option.map_some]

/-- What is small of a scale's call. -/
theorem canonS1 {b : Int} {d : Bool} {r : Int} {n : Nat} {cs : List Value} (hcs : okC cs (2 * n) = true) {H : AH} {ro : Bool} (h0 : lookB H.bs 0 = some (.cells ro cs)) : canon [scV b d (limV n) r] H = some ([scV b d (limV n) r], ⟨1, [(0, .cells true cs)]⟩) := by
  cases n with
  | zero => simp only [canon, canonL, canonV, idOf, idxOf, scV, limV, canonB0 hcs h0]; simp [canonB0 hcs h0]
  | succ n => simp only [canon, canonL, canonV, idOf, idxOf, scV, limV, canonB0 hcs h0]; simp [canonB0 hcs h0]
theorem canonS3 {b : Int} {d : Bool} {r mi v : Int} {n : Nat} {cs : List Value} (hcs : okC cs (2 * n) = true) {H : AH} {ro : Bool} (h0 : lookB H.bs 0 = some (.cells ro cs)) : canon [scV b d (limV n) r, .int .i64 mi, .int .i64 v] H = some ([scV b d (limV n) r, .int .i64 mi, .int .i64 v], ⟨1, [(0, .cells true cs)]⟩) := by
  cases n with
  | zero => simp only [canon, canonL, canonV, idOf, idxOf, scV, limV, canonB0 hcs h0]; simp [canonB0 hcs h0]
  | succ n => simp only [canon, canonL, canonV, idOf, idxOf, scV, limV, canonB0 hcs h0]; simp [canonB0 hcs h0]
theorem canonL2 {v : Int} {n : Nat} {cs : List Value} (hcs : okC cs (2 * n) = true) {H : AH} {ro : Bool} (h0 : lookB H.bs 0 = some (.cells ro cs)) : canon [limV n, .int .i64 v] H = some ([limV n, .int .i64 v], ⟨1, [(0, .cells true cs)]⟩) := by
  cases n with
  | zero => simp only [canon, canonL, canonV, idOf, idxOf, limV, canonB0 hcs h0]; simp [canonB0 hcs h0]
  | succ n => simp only [canon, canonL, canonV, idOf, idxOf, limV, canonB0 hcs h0]; simp [canonB0 hcs h0]
theorem seeL_lim {n : Nat} {cs : List Value} (hn : n ≤ 200) (hcs : okC cs (2 * n) = true) : seeL (limV n) ⟨1, [(0, .cells true cs)]⟩ = some (n, cs) := by
  cases n with
  | zero => simp only [limV, seeL]; rw [if_pos hcs]
  | succ n => simp only [limV, seeL]; rw [if_pos ⟨by omega, hcs⟩]
theorem seeS_sc {b : Int} {d : Bool} {r : Int} {n : Nat} {cs : List Value} (hn : n ≤ 200) (hcs : okC cs (2 * n) = true) : seeS (scV b d (limV n) r) ⟨1, [(0, .cells true cs)]⟩ = some (b, d, r, n, cs) := by
  simp only [scV, seeS, seeL_lim hn hcs, Option.map_some]

section
variable {b : Int} {d : Bool} {r mi v : Int} {n : Nat} {cs : List Value} (hn : n ≤ 200) (hcs : okC cs (2 * n) = true) {H : AH} {ro : Bool} (h0 : lookB H.bs 0 = some (.cells ro cs))
include hn hcs h0
theorem canC (f : FuncId) : canH f ansC (.func (.func f) #[] #[]) [scV b d (limV n) r] H = some (.int .i64 (scErr b r n cs), H) := by
  simp only [canH, Nat.beq_refl, if_true, canonS1 hcs h0, ansC, seeS_sc hn hcs]
theorem canR (f : FuncId) : canH f ansR (.func (.func f) #[] #[]) [limV n, .int .i64 v] H = some (.int .i64 (reach cs v n 0 : Nat), H) := by
  simp only [canH, Nat.beq_refl, if_true, canonL2 hcs h0, ansR, seeL_lim hn hcs]
theorem canU (f : FuncId) (hv : 0 ≤ v) : canH f ansU (.func (.func f) #[] #[]) [scV b d (limV n) r, .int .i64 mi, .int .i64 v] H = some (.int .i64 (unl b d mi v), H) := by
  simp only [canH, Nat.beq_refl, if_true, canonS3 hcs h0, ansU, seeS_sc hn hcs, if_pos hv]
theorem canP (f : FuncId) : canH f ansP (.func (.func f) #[] #[]) [scV b d (limV n) r, .int .i64 mi, .int .i64 v] H = some (.int .i64 (pts b d r n cs mi v), H) := by
  simp only [canH, Nat.beq_refl, if_true, canonS3 hcs h0, ansP, seeS_sc hn hcs]
end

theorem S1_18 (n a b : Int) (H : AH) : inH S1 (.func (.func 18) #[] #[]) [.int .i64 n, .int .i64 a, .int .i64 b] H = some (.bool (btw n a b), H) := inH_hd (orH_r (canH_ne (by decide)) (orH_l (canB 18 n a b H)))
theorem S1_19 (n a b : Int) (H : AH) : inH S1 (.func (.func 19) #[] #[]) [.int .i64 n, .int .i64 a, .int .i64 b] H = some (.bool (btw n a b), H) := inH_hd (orH_r (canH_ne (by decide)) (orH_r (canH_ne (by decide)) (canB 19 n a b H)))
theorem S1_none {f : FuncId} (h1 : ¬ f = 8) (h2 : ¬ f = 18) (h3 : ¬ f = 19) (args : List Value) (H : AH) : S1 (.func (.func f) #[] #[]) args H = none := orH_r (canH_ne h1) (orH_r (canH_ne h2) (canH_ne h3))
theorem ok7 : AnsOK (runH S1) 7 ansC := by
  intro cargs Hc w h
  unfold ansC at h
  split at h
  · split at h
    · rename_i b d r n cs hs
      cases h
      obtain ⟨rfl, rfl, hcs, hn⟩ := seeS_spec hs
      refine ⟨rfl, fun _ => ?_⟩
      obtain ⟨H', h⟩ := check7_ev (inH S1) (S1_18) (b := b) (d := d) (u := limV n) (r := r) hcs (limV_len n) (limV_ix n)
      exact ⟨H', runH_fn F7 (S1_none (by decide) (by decide) (by decide) _ _) h⟩
    · cases h
  · cases h
theorem ok11 : AnsOK (runH S1) 11 ansC := by
  intro cargs Hc w h
  unfold ansC at h
  split at h
  · split at h
    · rename_i b d r n cs hs
      cases h
      obtain ⟨rfl, rfl, hcs, hn⟩ := seeS_spec hs
      refine ⟨rfl, fun _ => ?_⟩
      obtain ⟨H', h⟩ := check11_ev (inH S1) (S1_19) (b := b) (d := d) (u := limV n) (r := r) hcs (limV_len n) (limV_ix n)
      exact ⟨H', runH_fn F11 (S1_none (by decide) (by decide) (by decide) _ _) h⟩
    · cases h
  · cases h
theorem ok9 : AnsOK (runH noH) 9 ansR := by
  intro cargs Hc w h
  unfold ansR at h
  split at h
  · split at h
    · rename_i n cs hs
      cases h
      obtain ⟨rfl, rfl, hcs, hn⟩ := seeL_spec hs
      refine ⟨rfl, fun _ => ?_⟩
      obtain ⟨H', h⟩ := reach9_ev (inH noH) hn hcs (limV_len n) (limV_ix n)
      exact ⟨H', runH_fn F9 rfl h⟩
    · cases h
  · cases h
theorem ok10 : AnsOK (runH noH) 10 ansU := by
  intro cargs Hc w h
  unfold ansU at h
  split at h
  · split at h
    · rename_i hv
      split at h
      · rename_i b d r n cs hs
        cases h
        obtain ⟨rfl, rfl, hcs, hn⟩ := seeS_spec hs
        refine ⟨rfl, fun _ => ?_⟩
        obtain ⟨H', h⟩ := unl10_ev (inH noH) hv
        exact ⟨H', runH_fn F10 rfl h⟩
      · cases h
    · cases h
  · cases h
noncomputable def S2 : Hnd := orH (canH 7 ansC) (canH 11 ansC)
theorem S2_ok : CallOK Tryd.prog S2 := orH_ok (canH_ok (runH_ok S1_ok) ok7) (canH_ok (runH_ok S1_ok) ok11)
noncomputable def S3 : Hnd := orH (canH 9 ansR) (canH 10 ansU)
theorem S3_ok : CallOK Tryd.prog S3 := orH_ok (canH_ok (runH_ok noH_ok) ok9) (canH_ok (runH_ok noH_ok) ok10)
noncomputable def S4 : Hnd := orH S1 (orH S2 S3)
theorem S4_ok : CallOK Tryd.prog S4 := orH_ok S1_ok (orH_ok S2_ok S3_ok)
theorem S2_none {f : FuncId} (h1 : ¬ f = 7) (h2 : ¬ f = 11) (args : List Value) (H : AH) : S2 (.func (.func f) #[] #[]) args H = none := orH_r (canH_ne h1) (canH_ne h2)
theorem S3_none {f : FuncId} (h1 : ¬ f = 9) (h2 : ¬ f = 10) (args : List Value) (H : AH) : S3 (.func (.func f) #[] #[]) args H = none := orH_r (canH_ne h1) (canH_ne h2)
theorem S4_4 (args : List Value) (H : AH) : S4 (.func (.func 4) #[] #[]) args H = none :=
  orH_r (S1_none (by decide) (by decide) (by decide) _ _) (orH_r (S2_none (by decide) (by decide) _ _) (S3_none (by decide) (by decide) _ _))
theorem S4_5 (args : List Value) (H : AH) : S4 (.func (.func 5) #[] #[]) args H = none :=
  orH_r (S1_none (by decide) (by decide) (by decide) _ _) (orH_r (S2_none (by decide) (by decide) _ _) (S3_none (by decide) (by decide) _ _))
theorem ok4 : AnsOK (runH S4) 4 ansP := by
  intro cargs Hc w h
  unfold ansP at h
  split at h
  · rename_i x mi v
    split at h
    · rename_i b d r n cs hs
      cases h
      obtain ⟨rfl, rfl, hcs, hn⟩ := seeS_spec hs
      refine ⟨rfl, fun _ => ?_⟩
      obtain ⟨H', h⟩ := points4_ev (inH S4) (b := b) (d := d) (r := r) (mi := mi) (v := v) hn hcs (limV_len n) (limV_ix n)
        (fun n a b H => inH_hd (orH_l (orH_l (canB 8 n a b H))))
        (fun H h0 => inH_hd (orH_r (S1_none (by decide) (by decide) (by decide) _ _) (orH_l (orH_l (canC hn hcs h0 7)))))
        (fun H h0 => inH_hd (orH_r (S1_none (by decide) (by decide) (by decide) _ _) (orH_r (S2_none (by decide) (by decide) _ _) (orH_l (canR hn hcs h0 9)))))
        (fun hv H h0 => inH_hd (orH_r (S1_none (by decide) (by decide) (by decide) _ _) (orH_r (S2_none (by decide) (by decide) _ _) (orH_r (canH_ne (by decide)) (canU hn hcs h0 10 hv)))))
      exact ⟨H', runH_fn F4 (S4_4 _ _) h⟩
    · cases h
  · cases h
theorem ok5 : AnsOK (runH S4) 5 ansP := by
  intro cargs Hc w h
  unfold ansP at h
  split at h
  · rename_i x mi v
    split at h
    · rename_i b d r n cs hs
      cases h
      obtain ⟨rfl, rfl, hcs, hn⟩ := seeS_spec hs
      refine ⟨rfl, fun _ => ?_⟩
      obtain ⟨H', h⟩ := refPoints_core (inH S4) (b := b) (d := d) (r := r) (mi := mi) (v := v) hn hcs (limV_len n) (limV_ix n)
        (fun H h0 => inH_hd (orH_r (S1_none (by decide) (by decide) (by decide) _ _) (orH_l (orH_r (canH_ne (by decide)) (canC hn hcs h0 11)))))
        (fun e => by
          obtain ⟨g1, g2, _, g3⟩ := scErr_ok e
          exact ⟨g1, g2, fun h => g3 0 h⟩)
      rw [← pts_eq] at h
      exact ⟨H', runH_fn F5 (S4_5 _ _) h⟩
    · cases h
  · cases h
noncomputable def S5 : Hnd := orH (canH 4 ansP) (orH (canH 5 ansP) hm6)
theorem S5_ok : CallOK Tryd.prog S5 := orH_ok (canH_ok (runH_ok S4_ok) ok4) (orH_ok (canH_ok (runH_ok S4_ok) ok5) hm6_ok)
theorem awake6 (H : AH) : hm6 (.func (.func 6) #[] #[]) [] H = some (.bool true, H) := by
  cases H
  kernel_rfl

end Go.Proofs.YtlinnmehicbomaaDoor
