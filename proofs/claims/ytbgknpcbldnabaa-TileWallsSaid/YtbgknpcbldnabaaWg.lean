/-
  What is proved: answers that are lists of integers in one new block, told by a function of the arguments; the program's wall as such an answer.
-/
import Derived.Test.YtbgknpcbldnabaaWf
namespace Go.Proofs.Ytbgknpcbldnabaa
open Go.RowKit
set_option linter.unusedSimpArgs false
set_option linter.unusedVariables false

noncomputable def intsV (l : List Int) : List Value := l.map fun n => Value.int .i64 n

/-- A list of integers that lies in the block b; nil if it is empty. -/
noncomputable def lstV (b : Nat) (l : List Int) : Value := match l with
  | [] => .slice none 0 0
  | _ :: _ => .slice (some ⟨b, 0, none⟩) l.length 1

noncomputable def lstM (H : AH) (l : List Int) : AH := match l with
  | [] => H
  | _ :: _ => ⟨H.next + 1, (H.next, .cells false (intsV l)) :: H.bs⟩

noncomputable def lstH (f : FuncId) (ans : List Value → AH → Option (List Int)) : Value → List Value → AH → Option (Value × AH) := fun fv args H =>
  match fv with
  | .func (.func f') ⟨[]⟩ ⟨[]⟩ =>
    if Nat.beq f' f then
      match canon args H with
      | some (cargs, Hc) => match ans cargs Hc with
        | some l => some (lstV H.next l, lstM H l)
        | none => none
      | none => none
    else none
  | _ => none

noncomputable def LstOK (call0 : Value → List Value → AH → Option (Value × AH)) (f : FuncId) (ans : List Value → AH → Option (List Int)) : Prop :=
  ∀ cargs Hc l, ans cargs Hc = some l → Real cargs Hc → ∃ b H', call0 (.func (.func f) #[] #[]) cargs Hc = some (lstV b l, H') ∧ (l ≠ [] → lookB H'.bs b = some (.cells false (intsV l)))

theorem canon_rel {args cargs : List Value} {H Hc : AH} (hcan : canon args H = some (cargs, Hc)) {B : Nat} {ρ : BMap} {w : World} {args' : Array Value} (hargs : LRel ρ args args') (hH : HRel B ρ H.bs w) :
    ∃ r : List Nat, Hc.next = r.length ∧ LRel (bmapC ρ r) cargs args' ∧ HRel w.heap.size (bmapC ρ r) Hc.bs w := by
  unfold canon at hcan
  split at hcan
  · rename_i cs r hcl
    simp only [Option.map_eq_some_iff, Prod.mk.injEq] at hcan
    obtain ⟨cb, hcb, rfl, rfl⟩ := hcan
    obtain ⟨_, _, g3⟩ := canonL_ok (canonV_ok 3) _ _ _ _ hcl
    have hca : LRel (bmapC ρ r) cs args' := by
      have := g3 ρ args' [] hargs
      rwa [List.append_nil] at this
    refine ⟨r, rfl, hca, ?_⟩
    have one : ∀ i k, lookB cb.reverse i = some k → k.rw = false ∧ ∃ x, bmapC ρ r i = some x ∧ BRel (bmapC ρ r) w.heap.size w x k := by
      intro i k hk
      obtain ⟨a, _, q2, q0⟩ := canonB_look hcb _ (List.mem_reverse.1 (lookB_mem hk))
      have hmap : bmapC ρ r i = ρ a := by
        have := bmapC_get (ρ := ρ) (s := []) q2
        rw [List.append_nil] at this
        simpa using this
      rcases q0 with ⟨ro, cs', q3, q4, q5⟩ | ⟨g, q3, q4⟩
      rotate_left
      · simp only at q4
        subst q4
        obtain ⟨x, hx, hr⟩ := hH.blk a _ q3
        exact ⟨rfl, x, hmap.trans hx, hr.lt, hr.2⟩
      simp only at q2 q4
      subst q4
      obtain ⟨x, hx, hr⟩ := hH.blk a _ q3
      have hlt := hr.lt
      obtain ⟨ccs, ty, fz, c1, c2, c3⟩ := hr
      refine ⟨rfl, x, hmap.trans hx, ccs, ty, fz, c1, fun j y hy => ?_, hlt, c3.2⟩
      · obtain ⟨u, hu, hr'⟩ := c2 j y hy
        have hcl := List.all_eq_true.1 q5 y (List.mem_of_getElem? hy)
        have := closedV_eq 3 y u hcl hr'
        subst this
        exact ⟨u, hu, closedV_rel _ 3 u hcl⟩
    refine ⟨Nat.le_refl _, fun i k hk => (one i k hk).2, fun i j ki kj xi xj hi hj hki => ?_, hH.glob.of hH.hB fun _ _ => rfl⟩
    rw [(one i ki hi).1] at hki; cases hki
  · cases hcan

theorem intsV_get {l : List Int} {j : Nat} {v : Value} (h : (intsV l)[j]? = some v) : ∃ n : Int, v = .int .i64 n := by
  unfold intsV at h
  rw [List.getElem?_map] at h
  cases hj : l[j]? with
  | none => rw [hj] at h; cases h
  | some n => rw [hj] at h; cases h; exact ⟨n, rfl⟩

theorem lstH_ok {P : Program} {call0 : Value → List Value → AH → Option (Value × AH)} (hC : CallOK P call0) {f : FuncId} {ans : List Value → AH → Option (List Int)} (ha : LstOK call0 f ans) : CallOK P (lstH f ans) := by
  intro fv args H vf Hf h
  unfold lstH at h
  split at h
  · rename_i f'
    split at h
    · rename_i hf
      split at h
      · rename_i cargs Hc hcan
        split at h
        · rename_i l he
          cases h
          have hff : f' = f := Nat.eq_of_beq_eq_true hf
          subst hff
          refine ⟨by cases l <;> simp [lstM], fun B ρ w fv' args' hfv hargs hH hfr => ?_⟩
          obtain ⟨r, hcn, hca, hrel⟩ := canon_rel hcan hargs hH
          obtain ⟨b, H', hcall, hb⟩ := ha _ _ _ he ⟨_, _, _, _, hca, hrel⟩
          have hfree : Free (bmapC ρ r) Hc.next H'.next := fun q q1 _ => by
            unfold bmapC
            rw [List.getElem?_eq_none (by omega)]; rfl
          obtain ⟨_, s⟩ := hC _ _ _ _ _ hcall
          obtain ⟨fn, cap, n, fr, e0, i1, i2, i3⟩ := s w.heap.size (bmapC ρ r) w (.func (.func f') #[] #[]) args' (.func rfl (fun j v v' hv => by simp at hv)) hca hrel hfree
          cases e0
          cases hfv with
          | func hs _ =>
            have hc' := Array.eq_empty_of_size_eq_zero hs.symm
            subst hc'
            refine ⟨.func f', #[], n, fr, rfl, i1, i2, fun c cs => ?_⟩
            obtain ⟨ρ', w', u, st, hu, hp⟩ := i3 c cs
            have hkeep := hH.keep hp.below
            cases l with
            | nil =>
              simp only [lstV] at hu
              cases hu
              exact ⟨ρ, w', _, st, .snil, Ext.refl ρ, fun _ _ => rfl, hkeep, hp.below.mono hH.hB⟩
            | cons a t =>
              have hblk := hb (by simp)
              obtain ⟨x, hx, hr⟩ := hp.rel.blk b _ hblk
              have hnone : ρ H.next = none := hfr H.next (Nat.le_refl _) (by simp [lstM])
              let ρf : BMap := fun j => if j = H.next then some x else ρ j
              have hext : Ext ρ ρf := fun i y hy => by
                have : i ≠ H.next := fun e => by rw [e, hnone] at hy; cases hy
                simp [ρf, this, hy]
              have hnew : ρf H.next = some x := by simp [ρf]
              obtain ⟨conc, ty, fz, c1, c2, c3, c4⟩ := hr
              simp only [Bool.false_eq_true, if_false] at c3
              have hbl : BRel ρf B w' x (.cells false (intsV (a :: t))) := by
                refine ⟨conc, ty, fz, c1, fun j v hv => ?_, ?_, c4⟩
                · obtain ⟨z, hz, hzr⟩ := c2 j v hv
                  obtain ⟨m, rfl⟩ := intsV_get hv
                  cases hzr
                  exact ⟨_, hz, .int _ _⟩
                · simp only [Bool.false_eq_true, if_false]
                  exact ⟨Nat.le_trans hH.hB c3.1, c3.2⟩
              have look : ∀ i k, lookB (lstM H (a :: t)).bs i = some k → (i = H.next ∧ k = .cells false (intsV (a :: t))) ∨ (i ≠ H.next ∧ lookB H.bs i = some k) := by
                intro i k hk
                simp only [lstM, lookB] at hk
                split at hk
                · rename_i e
                  cases hk
                  exact .inl ⟨Nat.eq_of_beq_eq_true e, rfl⟩
                · rename_i e
                  exact .inr ⟨fun e' => e (by rw [e']; exact Nat.beq_refl _), hk⟩
              have hv : VRel ρf (lstV H.next (a :: t)) u := by
                simp only [lstV] at hu ⊢
                cases hu with
                | slice hρ hl ht =>
                  rw [hx] at hρ
                  cases hρ
                  exact .slice hnew hl ht
              refine ⟨ρf, w', u, st, hv, hext, fun i hi => ?_, ⟨hkeep.hB, fun i k hk => ?_, fun i j ki kj xi xj hi hj hki hkj hxi hxj heq => ?_, hkeep.glob⟩, hp.below.mono hH.hB⟩
              · have : i ≠ H.next := by
                  simp only [lstM] at hi
                  omega
                simp [ρf, this]
              · rcases look i k hk with ⟨rfl, rfl⟩ | ⟨_, h5⟩
                · exact ⟨x, hnew, hbl⟩
                · obtain ⟨y, hy, hr'⟩ := hkeep.blk i k h5
                  exact ⟨y, hext _ _ hy, hr'.ext hext⟩
              · have old : ∀ i k y, i ≠ H.next → lookB H.bs i = some k → ρf i = some y → ρ i = some y ∧ y.1 < w.heap.size := fun i k y hne hk hy => by
                  obtain ⟨z, hz, hr'⟩ := hH.blk i k hk
                  rw [hext _ _ hz] at hy; cases hy
                  exact ⟨hz, hr'.lt⟩
                rcases look i ki hi with ⟨e1, _⟩ | ⟨n1, h5⟩
                · rcases look j kj hj with ⟨e2, _⟩ | ⟨n2, h6⟩
                  · exact .inl (by rw [e1, e2])
                  · have := (old j kj xj n2 h6 hxj).2
                    rw [e1, hnew] at hxi
                    cases hxi
                    omega
                · rcases look j kj hj with ⟨e2, _⟩ | ⟨n2, h6⟩
                  · have := (old i ki xi n1 h5 hxi).2
                    rw [e2, hnew] at hxj
                    cases hxj
                    omega
                  · exact hH.inj i j ki kj xi xj h5 h6 hki hkj (old i ki xi n1 h5 hxi).1 (old j kj xj n2 h6 hxj).1 heq
        · cases h
      · cases h
    · cases h
  · cases h


noncomputable def wl (n : Nat) (W : Nat → Int) : List Int := (List.range n).map W
theorem wl_len (n W) : (wl n W).length = n := by simp [wl]
theorem intsV_wl (n : Nat) (W : Nat → Int) : intsV (wl n W) = intsL W n := by
  simp [intsV, wl, intsL]
theorem lstV_wl (b n : Nat) (W : Nat → Int) : lstV b (wl n W) = cpV b n := by
  cases n with
  | zero => rfl
  | succ n =>
    have h : wl (n + 1) W = (W 0) :: ((List.range' 1 n).map W) := by
      simp [wl, List.range_eq_range', List.range'_succ]
    rw [h]
    simp [lstV, cpV]
theorem lstM_wl (H : AH) (n : Nat) (W : Nat → Int) : lstM H (wl n W) = cpH H.next H.bs W n := by
  cases n with
  | zero => rfl
  | succ n =>
    have h : wl (n + 1) W = (W 0) :: ((List.range' 1 n).map W) := by
      simp [wl, List.range_eq_range', List.range'_succ]
    have hi := intsV_wl (n + 1) W
    rw [h] at hi ⊢
    simp only [lstM, cpH, hi]

/-- Answers that hang on a set and a word. -/
noncomputable def ansSW (a : SV → Int → List Int) : List Value → AH → Option (List Int)
  | [v, .int .u64 x], H => match seeSet v H with
    | some s => some (a s x)
    | none => none
  | _, _ => none
theorem ansSW_ok {call0 : Value → List Value → AH → Option (Value × AH)} {f : FuncId} {a : SV → Int → List Int}
    (h : ∀ s x, s.n ≤ 200 → s.k ≤ 200 → ∃ b H', call0 (.func (.func f) #[] #[]) [s.val, .int .u64 x] s.hp = some (lstV b (a s x), H') ∧ (a s x ≠ [] → lookB H'.bs b = some (.cells false (intsV (a s x))))) : LstOK call0 f (ansSW a) := by
  intro cargs Hc l hl hr
  unfold ansSW at hl
  split at hl
  · split at hl
    · rename_i s hs
      cases hl
      obtain ⟨rfl, rfl⟩ := seeSet_spec hs
      refine h s _ ?_ ?_
      · exact hr.lenIn (j := 0) (q := 1) (i := 0) (g := s.g) rfl rfl rfl
      · exact hr.lenIn (j := 0) (q := 8) (i := 1) (g := s.h) rfl rfl rfl
    · cases hl
  · cases hl
theorem lstH_sw {f : FuncId} {a : SV → Int → List Int} {s : SV} {x : Int} {H : AH} (h0 : lookB H.bs 0 = some (.ints s.g)) (h1 : lookB H.bs 1 = some (.ints s.h)) :
    lstH f (ansSW a) (.func (.func f) #[] #[]) [s.val, .int .u64 x] H = some (lstV H.next (a s x), lstM H (a s x)) := by
  simp [lstH, canon, canonL, canonV, idOf, idxOf, SV.val, canonB, h0, h1, ansSW, seeSet]
theorem lstH_other {f g : FuncId} {ans : List Value → AH → Option (List Int)} {args : List Value} {H : AH} (h : Nat.beq g f = false) : lstH f ans (.func (.func g) #[] #[]) args H = none := by
  simp [lstH, h]

/-- The wall of a set's size and a seed. -/
noncomputable def wallL (s : SV) (x : Int) : List Int := wl s.rsize.toNat (wallF s.rsize.toNat x)
theorem hp_MI (s : SV) : MI s.hp := ⟨by simp [SV.hp, decrK, Nat.blt_eq], by simp [SV.hp]⟩
theorem F31n : tabF Try.prog 31 = some Try.f31 := by kernel_rfl
theorem F42n : tabF Try.prog 42 = some Try.f42 := by kernel_rfl
theorem V1_none14 (args : List Value) (H : AH) : V1 (.func (.func 14) #[] #[]) args H = none := by rfl
theorem V1_none15 (args : List Value) (H : AH) : V1 (.func (.func 15) #[] #[]) args H = none := by rfl
theorem V1_none31 (args : List Value) (H : AH) : V1 (.func (.func 31) #[] #[]) args H = none := by rfl
theorem V1_none42 (args : List Value) (H : AH) : V1 (.func (.func 42) #[] #[]) args H = none := by rfl
theorem V1_none7 (args : List Value) (H : AH) : V1 (.func (.func 7) #[] #[]) args H = none := by rfl
noncomputable def e8 : Hnd := evCall (tabT Try.prog) (tabF Try.prog) 300 kpT V1 8
noncomputable def e7 : Hnd := evCall (tabT Try.prog) (tabF Try.prog) 300 kpT V1 7
noncomputable def e6 : Hnd := evCall (tabT Try.prog) (tabF Try.prog) 300 kpT V1 6
noncomputable def e5 : Hnd := evCall (tabT Try.prog) (tabF Try.prog) 300 kpT V1 5
theorem e6_next (p N : Nat) (bs : List (Nat × ABlk)) (y : Int) (h : lookB bs p = some (wB y)) : e6 (.func (.func 42) #[] #[]) [.pointer (some ⟨p, 0, none⟩)] ⟨N, bs⟩ = some (.int .u64 (wd (stepW y)), ⟨N, setB bs p (wB (stepW y))⟩) :=
  (evCall_fn (n := 5) F42n (V1_none42 _ _)).trans (next_ev e5 p N bs y h)
theorem e7_draw (p N : Nat) (bs : List (Nat × ABlk)) (x : Int) (n : Nat) (h1 : 1 ≤ n) (h2 : n ≤ 144) (h : lookB bs p = some (wB x)) : e7 (.func (.func 31) #[] #[]) [.pointer (some ⟨p, 0, none⟩), .int .i64 (n : Int)] ⟨N, bs⟩ = some (.int .i64 (drw n x : Int), ⟨N, setB bs p (wB (nxs n x))⟩) :=
  (evCall_fn (n := 6) F31n (V1_none31 _ _)).trans (draw_ev e6 p N bs x n h1 h2 h fun bs y hy => e6_next p N bs y hy)
theorem e7_drawS (N : Nat) (bs : List (Nat × ABlk)) (f : Nat → Int) (n : Nat) (y : Int) (h1 : 1 ≤ n) (h2 : n ≤ 144) : e7 (.func (.func 31) #[] #[]) [.pointer (some ⟨N + 1, 0, none⟩), .int .i64 (n : Int)] (memS N bs f y) = some (.int .i64 (drw n y : Int), memS N bs f (nxs n y)) := by
  have := e7_draw (N + 1) (N + 3) ((N + 2, .cells false (intsL (fun _ => 0) 144)) :: (N + 1, .cells false [.int .u64 y]) :: (N, .cells false (intsL f 144)) :: bs) y n h1 h2 (by simp [lookB, wB])
  rw [memS, this]
  simp [memS, setB, Nat.beq_eq, wB]
theorem e8_shuf (n : Nat) (x : Int) (hn : n ≤ 144) (f : Nat → Int) (N : Nat) (bs : List (Nat × ABlk)) (hM : MI ⟨N, bs⟩) : e8 (.func (.func 14) #[] #[]) [.agg ⟨intsL f 144⟩, .int .i64 (n : Int), .int .u64 x] ⟨N, bs⟩ = some (.agg ⟨intsL (shF (n - 1) f x).1 144⟩, ⟨N + 3, bs⟩) :=
  (evCall_fn (n := 7) F14n (V1_none14 _ _)).trans (shuffled_ev e7 N bs f n x hn hM.1 hM.2 fun f n y h1 h2 => e7_drawS N bs f n y h1 h2)
theorem e8_cop (n : Nat) (hn : n ≤ 144) (N b : Nat) (bs : List (Nat × ABlk)) (f : Nat → Int) (hb : ∀ p ∈ bs, p.1 < N) (h : lookB bs b = some (.cells false (intsL f 144))) : e8 (.func (.func 15) #[] #[]) [.slice (some ⟨b, 0, none⟩) n 1] ⟨N, bs⟩ = some (cpV N n, cpH N bs f n) :=
  (evCall_fn (n := 7) F15n (V1_none15 _ _)).trans (copied_ev e7 N b n bs f hn hb h)
theorem ok7 : LstOK (runH V1) 7 (ansSW wallL) := ansSW_ok fun s x _ _ => by
  have hb := rsize_bounds s
  obtain ⟨n, hn⟩ : ∃ n : Nat, s.rsize = (n : Int) := ⟨s.rsize.toNat, by omega⟩
  have hn2 : n ≤ 144 := by omega
  have hw : wallL s x = wl n (wallF n x) := by
    unfold wallL; rw [hn]; rfl
  have h := wall_ev e8 s x n 2 [(1, .ints s.h), (0, .ints s.g)] hn2 hn (hp_MI s) rfl rfl (by omega) (fun H h0 h1 => inH_hd (V1_13 s H h0 h1)) (fun f N bs hM => e8_shuf n x hn2 f N bs hM) (fun N b bs f hb h => e8_cop n hn2 N b bs f hb h)
  refine ⟨7, _, by rw [hw, lstV_wl]; exact runH_fn F7n (V1_none7 _ _) h, fun hne => ?_⟩
  rw [hw, intsV_wl]
  rw [hw] at hne
  cases n with
  | zero => exact absurd rfl hne
  | succ n => simp [wallH, lookB]

end Go.Proofs.Ytbgknpcbldnabaa
