/-
  What is proved: the functions that the law calls, as answers told by their arguments.
-/
import Derived.Test.YtbofnpohamajpaaDoorQc
import Derived.Test.YtbofnpohamajpaaDoorM1j
import Derived.Test.YtbofnpohamajpaaDoorSi
namespace Go.Proofs.YtbofnpohamajpaaDoor
open Go.RowKit
set_option linter.unusedSimpArgs false
set_option linter.unusedVariables false

abbrev Hnd := Value → List Value → AH → Option (Value × AH)
noncomputable def inH (hd : Hnd) : Hnd := evCall (tabT Tryd.prog) (tabF Tryd.prog) 300 kpT hd 60
noncomputable def runH (hd : Hnd) : Hnd := evCall (tabT Tryd.prog) (tabF Tryd.prog) 300 kpT hd (60 + 1)
theorem runH_ok {hd : Hnd} (h : CallOK Tryd.prog hd) : CallOK Tryd.prog (runH hd) := evCall_sound (tabT_ok _) (tabF_ok _) mixed 300 kpT h (60 + 1)
theorem evCall_fn {L n : Nat} {hd : Hnd} {f : FuncId} {fn : Func} {args : List Value} {H : AH} (hF : (tabF Tryd.prog) f = some fn) (hh : hd (.func (.func f) #[] #[]) args H = none) :
    evCall (tabT Tryd.prog) (tabF Tryd.prog) L kpT hd (n + 1) (.func (.func f) #[] #[]) args H = evFn (tabT Tryd.prog) (evCall (tabT Tryd.prog) (tabF Tryd.prog) L kpT hd n) L kpT f fn args H := by
  conv => lhs; unfold evCall
  simp only [hh, hF]
  simp
theorem evCall_hd {L n : Nat} {hd : Hnd} {fv : Value} {args : List Value} {H : AH} {r : Value × AH} (h : hd fv args H = some r) : evCall (tabT Tryd.prog) (tabF Tryd.prog) L kpT hd (n + 1) fv args H = some r := by
  unfold evCall
  simp only [h]
theorem runH_fn {hd : Hnd} {f : FuncId} {fn : Func} {args : List Value} {H H' : AH} {v : Value} (hF : (tabF Tryd.prog) f = some fn) (hh : hd (.func (.func f) #[] #[]) args H = none)
    (h : evFn (tabT Tryd.prog) (inH hd) 300 kpT f fn args H = some (v, H')) : runH hd (.func (.func f) #[] #[]) args H = some (v, H') := (evCall_fn hF hh).trans h
theorem inH_hd {hd : Hnd} {fv : Value} {args : List Value} {H : AH} {r : Value × AH} (h : hd fv args H = some r) : inH hd fv args H = some r := evCall_hd (n := 59) h
theorem canH_ne {f g : FuncId} {ans : List Value → AH → Option Value} {args : List Value} {H : AH} (h : ¬ g = f) : canH f ans (.func (.func g) #[] #[]) args H = none := by
  simp [canH, Nat.beq_eq, h]
theorem orH_l {a b : Hnd} {fv : Value} {args : List Value} {H : AH} {r : Value × AH} (h : a fv args H = some r) : orH a b fv args H = some r := by simp [orH, h]
theorem orH_r {a b : Hnd} {fv : Value} {args : List Value} {H : AH} {r : Option (Value × AH)} (ha : a fv args H = none) (h : b fv args H = r) : orH a b fv args H = r := by simp [orH, ha, h]

/-! ### between, and Into -/
def ansB : List Value → AH → Option Value
  | [.int .i64 n, .int .i64 l, .int .i64 m], _ => some (.bool (btw n l m))
  | _, _ => none
theorem canB (f : FuncId) (n a b : Int) (H : AH) : canH f ansB (.func (.func f) #[] #[]) [.int .i64 n, .int .i64 a, .int .i64 b] H = some (.bool (btw n a b), H) := by
  simp [canH, canon, canonL, canonV, canonB, ansB, Nat.beq_eq]
noncomputable def ansI : List Value → AH → Option Value
  | [.int .i64 n, .int .i64 m], _ => if m = 0 then none else some (.int .i64 (intoX n m))
  | _, _ => none
theorem canI (f : FuncId) (n m : Int) (H : AH) (h : ¬ m = 0) : canH f ansI (.func (.func f) #[] #[]) [.int .i64 n, .int .i64 m] H = some (.int .i64 (intoX n m), H) := by
  simp [canH, canon, canonL, canonV, canonB, ansI, Nat.beq_eq, h]
theorem F3 : (tabF Tryd.prog) 3 = some Tryd.f3 := by kernel_rfl
theorem F4 : (tabF Tryd.prog) 4 = some Tryd.f4 := by kernel_rfl
theorem F5 : (tabF Tryd.prog) 5 = some Tryd.f5 := by kernel_rfl
theorem F6 : (tabF Tryd.prog) 6 = some Tryd.f6 := by kernel_rfl
theorem F7 : (tabF Tryd.prog) 7 = some Tryd.f7 := by kernel_rfl
theorem F9 : (tabF Tryd.prog) 9 = some Tryd.f9 := by kernel_rfl
theorem F10 : (tabF Tryd.prog) 10 = some Tryd.f10 := by kernel_rfl
theorem F11 : (tabF Tryd.prog) 11 = some Tryd.f11 := by kernel_rfl
theorem F12 : (tabF Tryd.prog) 12 = some Tryd.f12 := by kernel_rfl
theorem F13 : (tabF Tryd.prog) 13 = some Tryd.f13 := by kernel_rfl
theorem F14 : (tabF Tryd.prog) 14 = some Tryd.f14 := by kernel_rfl
theorem F15 : (tabF Tryd.prog) 15 = some Tryd.f15 := by kernel_rfl
theorem F22 : (tabF Tryd.prog) 22 = some Tryd.f22 := by kernel_rfl
theorem ok13 : AnsOK (runH noH) 13 ansB := by
  intro cargs Hc v h
  unfold ansB at h
  split at h
  · rename_i n l m
    cases h
    exact ⟨rfl, fun _ => by
      obtain ⟨H', h⟩ := btw8_ev (inH noH) n l m Hc
      exact ⟨H', runH_fn F13 rfl h⟩⟩
  · cases h
theorem ok22 : AnsOK (runH noH) 22 ansB := by
  intro cargs Hc v h
  unfold ansB at h
  split at h
  · rename_i n l m
    cases h
    exact ⟨rfl, fun _ => by
      obtain ⟨H', h⟩ := btw18_ev (inH noH) n l m Hc
      exact ⟨H', runH_fn F22 rfl h⟩⟩
  · cases h
theorem ok6 : AnsOK (runH noH) 6 ansI := by
  intro cargs Hc v h
  unfold ansI at h
  split at h
  · rename_i n m
    split at h
    · cases h
    · rename_i hm
      cases h
      exact ⟨rfl, fun _ => by
        obtain ⟨H', h⟩ := into_ev (inH noH) (n := n) (m := m) (H := Hc) hm
        exact ⟨H', runH_fn F6 rfl h⟩⟩
  · cases h
noncomputable def S1 : Hnd := orH (canH 13 ansB) (canH 22 ansB)
theorem S1_ok : CallOK Tryd.prog S1 := orH_ok (canH_ok (runH_ok noH_ok) ok13) (canH_ok (runH_ok noH_ok) ok22)

/-! ### scales -/
/-- A list of limits over a small memory, and that memory. -/
def limC : Nat → Value
  | 0 => .slice none 0 0
  | n + 1 => .slice (some ⟨0, 0, none⟩) (n + 1) 2
def memC : Nat → List Value → AH
  | 0, _ => ⟨0, []⟩
  | _ + 1, cs => ⟨1, [(0, .cells true cs)]⟩
theorem lim_len (n : Nat) : aLen (tabT Tryd.prog) 23 (limC (n + 1)) = some (.int .i64 (n + 1 : Nat)) := LEN22 _ (n + 1) _
theorem lim_ix (n k : Nat) (h : k < n + 1) : aIndexAddr (tabT Tryd.prog) 23 (limC (n + 1)) (.int .i64 (k : Int)) = some (.pointer (some ⟨0, k * 2, none⟩)) := by
  show aIndexAddr (tabT Tryd.prog) 23 (.slice (some ⟨0, 0, none⟩) (n + 1) 2) (.int .i64 (k : Int)) = _
  simpa using IX22 0 0 (n + 1) 2 k h

def seeL : Value → AH → Option (Nat × List Value)
  | .slice (some ⟨0, 0, none⟩) (n + 1) 2, ⟨1, [(0, .cells true cs)]⟩ => if n ≤ 199 ∧ okC cs (2 * (n + 1)) = true then some (n + 1, cs) else none
  | .slice none 0 0, ⟨0, []⟩ => some (0, [])
  | _, _ => none
theorem seeL_spec {u : Value} {H : AH} {n : Nat} {cs : List Value} (h : seeL u H = some (n, cs)) : u = limC n ∧ H = memC n cs ∧ okC cs (2 * n) = true ∧ n ≤ 200 := by
  unfold seeL at h
  split at h
  · split at h
    · rename_i hc; cases h; exact ⟨rfl, rfl, hc.2, by omega⟩
    · cases h
  · cases h; exact ⟨rfl, rfl, rfl, by omega⟩
  · cases h
def seeS : Value → AH → Option (Int × Bool × Int × Nat × List Value)
  | .agg ⟨[.int .i64 b, .bool d, u, .int .i64 r]⟩, H => (seeL u H).map fun x => (b, d, r, x.1, x.2)
  | _, _ => none
theorem seeS_spec {v : Value} {H : AH} {b : Int} {d : Bool} {r : Int} {n : Nat} {cs : List Value} (h : seeS v H = some (b, d, r, n, cs)) : v = scV b d (limC n) r ∧ H = memC n cs ∧ okC cs (2 * n) = true ∧ n ≤ 200 := by
  unfold seeS at h
  split at h
  · rename_i b' d' u r'
    cases hl : seeL u H with
    | none => rw [hl] at h; cases h
    | some x =>
      rw [hl] at h
      cases h
      obtain ⟨e, h1, h2, h3⟩ := seeL_spec (n := x.1) (cs := x.2) hl
      exact ⟨by rw [e]; rfl, h1, h2, h3⟩
  · cases h
def ansC : List Value → AH → Option Value
  | [v], H => match seeS v H with
    | some (b, _, r, n, cs) => some (.int .i64 (scErr b r n cs))
    | none => none
  | _, _ => none
def ansR : List Value → AH → Option Value
  | [u, .int .i64 v], H => match seeL u H with
    | some (n, cs) => some (.int .i64 (reach cs v n 0 : Nat))
    | none => none
  | _, _ => none
noncomputable def ansU : List Value → AH → Option Value
  | [x, .int .i64 mi, .int .i64 v], H => if 0 ≤ v then match seeS x H with
    | some (b, d, _, _, _) => some (.int .i64 (unl b d mi v))
    | none => none
    else none
  | _, _ => none
noncomputable def ansP : List Value → AH → Option Value
  | [x, .int .i64 mi, .int .i64 v], H => match seeS x H with
    | some (b, d, r, n, cs) => some (.int .i64 (pts b d r n cs mi v))
    | none => none
  | _, _ => none

/-- Where a list of limits lies. -/
def LimAt (H : AH) (u : Value) (n : Nat) (cs : List Value) : Prop := (n = 0 ∧ u = .slice none 0 0 ∧ cs = []) ∨ ∃ i ro, u = .slice (some ⟨i, 0, none⟩) n 2 ∧ 0 < n ∧ lookB H.bs i = some (.cells ro cs)

theorem canonBi {m i : Nat} {cs : List Value} (hcs : okC cs m = true) {H : AH} {ro : Bool} (h0 : lookB H.bs i = some (.cells ro cs)) : canonB H.bs [i] 0 = some [(0, .cells true cs)] := by
  rw [canonB, h0]
  simp only [okC_closed hcs, if_true, canonB, Option.map_some]

section
variable {b : Int} {d : Bool} {r mi v : Int} {n : Nat} {u : Value} {cs : List Value} (hcs : okC cs (2 * n) = true) {H : AH} (h0 : LimAt H u n cs)
include hcs h0
theorem canonS1 : canon [scV b d u r] H = some ([scV b d (limC n) r], memC n cs) := by
  rcases h0 with ⟨rfl, rfl, rfl⟩ | ⟨i, ro, rfl, hn, hl⟩
  · simp [canon, canonL, canonV, scV, limC, memC, canonB]
  · obtain ⟨m, rfl⟩ : ∃ m, n = m + 1 := ⟨n - 1, by omega⟩
    simp [canon, canonL, canonV, idOf, idxOf, scV, limC, memC, canonBi hcs hl]
theorem canonS3 : canon [scV b d u r, .int .i64 mi, .int .i64 v] H = some ([scV b d (limC n) r, .int .i64 mi, .int .i64 v], memC n cs) := by
  rcases h0 with ⟨rfl, rfl, rfl⟩ | ⟨i, ro, rfl, hn, hl⟩
  · simp [canon, canonL, canonV, scV, limC, memC, canonB]
  · obtain ⟨m, rfl⟩ : ∃ m, n = m + 1 := ⟨n - 1, by omega⟩
    simp [canon, canonL, canonV, idOf, idxOf, scV, limC, memC, canonBi hcs hl]
theorem canonL2 : canon [u, .int .i64 v] H = some ([limC n, .int .i64 v], memC n cs) := by
  rcases h0 with ⟨rfl, rfl, rfl⟩ | ⟨i, ro, rfl, hn, hl⟩
  · simp [canon, canonL, canonV, limC, memC, canonB]
  · obtain ⟨m, rfl⟩ : ∃ m, n = m + 1 := ⟨n - 1, by omega⟩
    simp [canon, canonL, canonV, idOf, idxOf, limC, memC, canonBi hcs hl]
theorem seeL_lim (hn : n ≤ 200) : seeL (limC n) (memC n cs) = some (n, cs) := by
  cases n with
  | zero => obtain rfl := okC_nil hcs; rfl
  | succ n => simp only [limC, memC, seeL]; rw [if_pos ⟨by omega, hcs⟩]
theorem seeS_sc (hn : n ≤ 200) : seeS (scV b d (limC n) r) (memC n cs) = some (b, d, r, n, cs) := by
  simp only [scV, seeS, seeL_lim hcs h0 hn, Option.map_some]
theorem canC (hn : n ≤ 200) (f : FuncId) : canH f ansC (.func (.func f) #[] #[]) [scV b d u r] H = some (.int .i64 (scErr b r n cs), H) := by
  simp only [canH, Nat.beq_refl, if_true, canonS1 hcs h0, ansC, seeS_sc hcs h0 hn]
theorem canR (hn : n ≤ 200) (f : FuncId) : canH f ansR (.func (.func f) #[] #[]) [u, .int .i64 v] H = some (.int .i64 (reach cs v n 0 : Nat), H) := by
  simp only [canH, Nat.beq_refl, if_true, canonL2 hcs h0, ansR, seeL_lim hcs h0 hn]
theorem canU (hn : n ≤ 200) (f : FuncId) (hv : 0 ≤ v) : canH f ansU (.func (.func f) #[] #[]) [scV b d u r, .int .i64 mi, .int .i64 v] H = some (.int .i64 (unl b d mi v), H) := by
  simp only [canH, Nat.beq_refl, if_true, canonS3 hcs h0, ansU, seeS_sc hcs h0 hn, if_pos hv]
theorem canP (hn : n ≤ 200) (f : FuncId) : canH f ansP (.func (.func f) #[] #[]) [scV b d u r, .int .i64 mi, .int .i64 v] H = some (.int .i64 (pts b d r n cs mi v), H) := by
  simp only [canH, Nat.beq_refl, if_true, canonS3 hcs h0, ansP, seeS_sc hcs h0 hn]
end

theorem S1_22 (n a b : Int) (H : AH) : inH S1 (.func (.func 22) #[] #[]) [.int .i64 n, .int .i64 a, .int .i64 b] H = some (.bool (btw n a b), H) := inH_hd (orH_r (canH_ne (by decide)) (canB 22 n a b H))
theorem S1_none {f : FuncId} (h1 : ¬ f = 13) (h2 : ¬ f = 22) (args : List Value) (H : AH) : S1 (.func (.func f) #[] #[]) args H = none := orH_r (canH_ne h1) (canH_ne h2)
theorem limAt {H : AH} {n : Nat} {cs : List Value} (h : lookB H.bs 0 = some (.cells true cs)) : LimAt H (limC (n + 1)) (n + 1) cs := .inr ⟨0, true, rfl, by omega, h⟩
theorem limAt0 (H : AH) : LimAt H (.slice none 0 0) 0 [] := .inl ⟨rfl, rfl, rfl⟩

theorem ok12 : AnsOK (runH S1) 12 ansC := by
  intro cargs Hc w h
  unfold ansC at h
  split at h
  · split at h
    · rename_i b d r n cs hs
      cases h
      obtain ⟨rfl, rfl, hcs, hn⟩ := seeS_spec hs
      refine ⟨rfl, fun _ => ?_⟩
      cases n with
      | zero =>
        obtain rfl := okC_nil hcs
        obtain ⟨H', h⟩ := check_nil (inH S1) S1_22 (b := b) (d := d) (r := r)
        exact ⟨H', runH_fn F12 (S1_none (by decide) (by decide) _ _) h⟩
      | succ n =>
        obtain ⟨H', h⟩ := check7_ev (inH S1) S1_22 (b := b) (d := d) (u := limC (n + 1)) (r := r) hcs (lim_len n) (lim_ix n)
        exact ⟨H', runH_fn F12 (S1_none (by decide) (by decide) _ _) h⟩
    · cases h
  · cases h
theorem ok14 : AnsOK (runH noH) 14 ansR := by
  intro cargs Hc w h
  unfold ansR at h
  split at h
  · split at h
    · rename_i n cs hs
      cases h
      obtain ⟨rfl, rfl, hcs, hn⟩ := seeL_spec hs
      refine ⟨rfl, fun _ => ?_⟩
      cases n with
      | zero =>
        obtain rfl := okC_nil hcs
        obtain ⟨H', h⟩ := reach_nil (inH noH)
        exact ⟨H', runH_fn F14 rfl h⟩
      | succ n =>
        obtain ⟨H', h⟩ := reach9_ev (inH noH) hn hcs (lim_len n) (lim_ix n)
        exact ⟨H', runH_fn F14 rfl h⟩
    · cases h
  · cases h
theorem ok15 : AnsOK (runH noH) 15 ansU := by
  intro cargs Hc w h
  unfold ansU at h
  split at h
  · split at h
    · rename_i hv
      split at h
      · rename_i b d r n cs hs
        cases h
        obtain ⟨rfl, rfl, hcs, hn⟩ := seeS_spec hs
        refine ⟨rfl, fun _ => ?_⟩
        cases n with
        | zero =>
          obtain ⟨H', h⟩ := unl_nil (inH noH) hv
          exact ⟨H', runH_fn F15 rfl h⟩
        | succ n =>
          obtain ⟨H', h⟩ := unl10_ev (inH noH) hv
          exact ⟨H', runH_fn F15 rfl h⟩
      · cases h
    · cases h
  · cases h
noncomputable def S3 : Hnd := orH (canH 14 ansR) (canH 15 ansU)
theorem S3_ok : CallOK Tryd.prog S3 := orH_ok (canH_ok (runH_ok noH_ok) ok14) (canH_ok (runH_ok noH_ok) ok15)
noncomputable def S4 : Hnd := orH S1 (orH (canH 12 ansC) S3)
theorem S4_ok : CallOK Tryd.prog S4 := orH_ok S1_ok (orH_ok (canH_ok (runH_ok S1_ok) ok12) S3_ok)
theorem S4_7 (args : List Value) (H : AH) : S4 (.func (.func 7) #[] #[]) args H = none :=
  orH_r (S1_none (by decide) (by decide) _ _) (orH_r (canH_ne (by decide)) (orH_r (canH_ne (by decide)) (canH_ne (by decide))))
theorem S4_13 (n a b : Int) (H : AH) : inH S4 (.func (.func 13) #[] #[]) [.int .i64 n, .int .i64 a, .int .i64 b] H = some (.bool (btw n a b), H) := inH_hd (orH_l (orH_l (canB 13 n a b H)))
theorem S4_12 {b : Int} {d : Bool} {r : Int} {n : Nat} {u : Value} {cs : List Value} (hcs : okC cs (2 * n) = true) (hn : n ≤ 200) {H : AH} (h0 : LimAt H u n cs) : inH S4 (.func (.func 12) #[] #[]) [scV b d u r] H = some (.int .i64 (scErr b r n cs), H) :=
  inH_hd (orH_r (S1_none (by decide) (by decide) _ _) (orH_l (canC hcs h0 hn 12)))
theorem S4_14 {v : Int} {n : Nat} {u : Value} {cs : List Value} (hcs : okC cs (2 * n) = true) (hn : n ≤ 200) {H : AH} (h0 : LimAt H u n cs) : inH S4 (.func (.func 14) #[] #[]) [u, .int .i64 v] H = some (.int .i64 (reach cs v n 0 : Nat), H) :=
  inH_hd (orH_r (S1_none (by decide) (by decide) _ _) (orH_r (canH_ne (by decide)) (orH_l (canR hcs h0 hn 14))))
theorem S4_15 {b : Int} {d : Bool} {r mi v : Int} {n : Nat} {u : Value} {cs : List Value} (hcs : okC cs (2 * n) = true) (hn : n ≤ 200) {H : AH} (h0 : LimAt H u n cs) (hv : 0 ≤ v) : inH S4 (.func (.func 15) #[] #[]) [scV b d u r, .int .i64 mi, .int .i64 v] H = some (.int .i64 (unl b d mi v), H) :=
  inH_hd (orH_r (S1_none (by decide) (by decide) _ _) (orH_r (canH_ne (by decide)) (orH_r (canH_ne (by decide)) (canU hcs h0 hn 15 hv))))
theorem ok7 : AnsOK (runH S4) 7 ansP := by
  intro cargs Hc w h
  unfold ansP at h
  split at h
  · rename_i x mi v
    split at h
    · rename_i b d r n cs hs
      cases h
      obtain ⟨rfl, rfl, hcs, hn⟩ := seeS_spec hs
      refine ⟨rfl, fun _ => ?_⟩
      cases n with
      | zero =>
        obtain rfl := okC_nil hcs
        obtain ⟨H', h⟩ := points_nil (inH S4) (b := b) (d := d) (r := r) (mi := mi) (v := v) S4_13
          (fun H => S4_12 hcs hn (limAt0 H)) (fun H => S4_14 hcs hn (limAt0 H)) (fun hv H => S4_15 hcs hn (limAt0 H) hv)
        exact ⟨H', runH_fn F7 (S4_7 _ _) h⟩
      | succ n =>
        obtain ⟨H', h⟩ := points4_ev (inH S4) (b := b) (d := d) (u := limC (n + 1)) (r := r) (mi := mi) (v := v) hn hcs (lim_len n) (lim_ix n) S4_13
          (fun H h0 => S4_12 hcs hn (limAt h0)) (fun H h0 => S4_14 hcs hn (limAt h0)) (fun hv H h0 => S4_15 hcs hn (limAt h0) hv)
        exact ⟨H', runH_fn F7 (S4_7 _ _) h⟩
    · cases h
  · cases h
noncomputable def S5 : Hnd := orH (canH 6 ansI) (orH (canH 7 ansP) hm6)
theorem S5_ok : CallOK Tryd.prog S5 := orH_ok (canH_ok (runH_ok noH_ok) ok6) (orH_ok (canH_ok (runH_ok S4_ok) ok7) hm6_ok)
theorem awake8 (H : AH) : hm6 (.func (.func 8) #[] #[]) [] H = some (.bool true, H) := by
  cases H
  kernel_rfl
theorem S5_4 (args : List Value) (H : AH) : S5 (.func (.func 4) #[] #[]) args H = none := orH_r (canH_ne (by decide)) (orH_r (canH_ne (by decide)) (by kernel_rfl))
theorem S5_5 (args : List Value) (H : AH) : S5 (.func (.func 5) #[] #[]) args H = none := orH_r (canH_ne (by decide)) (orH_r (canH_ne (by decide)) (by kernel_rfl))
theorem S5_9 (args : List Value) (H : AH) : S5 (.func (.func 9) #[] #[]) args H = none := orH_r (canH_ne (by decide)) (orH_r (canH_ne (by decide)) (by kernel_rfl))
theorem S5_10 (args : List Value) (H : AH) : S5 (.func (.func 10) #[] #[]) args H = none := orH_r (canH_ne (by decide)) (orH_r (canH_ne (by decide)) (by kernel_rfl))
theorem S5_11 (args : List Value) (H : AH) : S5 (.func (.func 11) #[] #[]) args H = none := orH_r (canH_ne (by decide)) (orH_r (canH_ne (by decide)) (by kernel_rfl))

end Go.Proofs.YtbofnpohamajpaaDoor
