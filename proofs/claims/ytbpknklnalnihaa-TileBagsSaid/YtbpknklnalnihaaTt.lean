/-
  What is proved: the body of TileBags ends with true for every set and every list of tiles.
-/
import Derived.Test.YtbpknklnalnihaaTs
import Derived.Test.YtbpknklnalnihaaM1j
namespace Go.Proofs.Ytbpknklnalnihaa
open Go.RowKit
set_option linter.unusedSimpArgs false
set_option linter.unusedVariables false


noncomputable def aLong (s : SV) : Option Value := some (.bool s.long)
theorem ok4 : AnsOK (runH noH) 4 (ans1 aLong) := ans1_ok fun s v h => by
  cases h
  refine ⟨rfl, fun _ _ => ?_⟩
  obtain ⟨H', h⟩ := long_any (inH noH) s s.hp
  exact ⟨H', runH_fn F4 rfl h⟩
noncomputable def RB : Hnd := orH (canH 4 (ans1 aLong)) (orH R3 (memoF m4x0L))
theorem RB_ok : CallOK Try.prog RB := orH_ok (canH_ok (runH_ok noH_ok) ok4) (orH_ok R3_ok m4x0L_ok)
theorem awake11 (H : AH) : memoF m4x0L (.func (.func 11) #[] #[]) [] H = some (.bool true, H) := by
  cases H
  kernel_rfl
noncomputable def c7 : Hnd := evCall (tabT Try.prog) (tabF Try.prog) 300 kpT RB 7
theorem c7_hd {fv : Value} {args : List Value} {H : AH} {r : Value × AH} (h : RB fv args H = some r) : c7 fv args H = some r := evCall_hd (n := 6) h
theorem F5 : (tabF Try.prog) 5 = some Try.f5 := by kernel_rfl
theorem F6 : (tabF Try.prog) 6 = some Try.f6 := by kernel_rfl
theorem F7 : (tabF Try.prog) 7 = some Try.f7 := by kernel_rfl
theorem F8 : (tabF Try.prog) 8 = some Try.f8 := by kernel_rfl
theorem F9 : (tabF Try.prog) 9 = some Try.f9 := by kernel_rfl
theorem F10 : (tabF Try.prog) 10 = some Try.f10 := by kernel_rfl
theorem F3 : (tabF Try.prog) 3 = some Try.f3 := by kernel_rfl
theorem in5 (args : List Value) (H : AH) : inH RB (.func (.func 5) #[] #[]) args H = evFn (tabT Try.prog) c7 300 kpT 5 Try.f5 args H := evCall_fn (n := 7) F5 rfl
theorem in6 (args : List Value) (H : AH) : inH RB (.func (.func 6) #[] #[]) args H = evFn (tabT Try.prog) c7 300 kpT 6 Try.f6 args H := evCall_fn (n := 7) F6 rfl
theorem in7 (args : List Value) (H : AH) : inH RB (.func (.func 7) #[] #[]) args H = evFn (tabT Try.prog) c7 300 kpT 7 Try.f7 args H := evCall_fn (n := 7) F7 rfl
theorem in8 (args : List Value) (H : AH) : inH RB (.func (.func 8) #[] #[]) args H = evFn (tabT Try.prog) c7 300 kpT 8 Try.f8 args H := evCall_fn (n := 7) F8 rfl
theorem in9 (args : List Value) (H : AH) : inH RB (.func (.func 9) #[] #[]) args H = evFn (tabT Try.prog) c7 300 kpT 9 Try.f9 args H := evCall_fn (n := 7) F9 rfl
theorem in10 (args : List Value) (H : AH) : inH RB (.func (.func 10) #[] #[]) args H = evFn (tabT Try.prog) c7 300 kpT 10 Try.f10 args H := evCall_fn (n := 7) F10 rfl
theorem q_ct (s : SV) (t : Nat → Int) (n : Nat) (H : AH) (h0 : lookB H.bs 0 = some (.ints s.g)) (h1 : lookB H.bs 1 = some (.ints s.h)) (h2 : lookB H.bs 2 = some (.ints t)) : c7 (.func (.func 12) #[] #[]) [s.val, sl2 n] H = some (.int .i64 (s.ct t n), H) := c7_hd (orH_r (canH_other rfl) (orH_l (R3_ct s t n H h0 h1 h2)))
theorem q_rct (s : SV) (t : Nat → Int) (n : Nat) (H : AH) (h0 : lookB H.bs 0 = some (.ints s.g)) (h1 : lookB H.bs 1 = some (.ints s.h)) (h2 : lookB H.bs 2 = some (.ints t)) : c7 (.func (.func 16) #[] #[]) [s.val, sl2 n] H = some (.int .i64 (tErr s t n 0), H) := c7_hd (orH_r (canH_other rfl) (orH_l (R3_rct s t n H h0 h1 h2)))
theorem q_plain (s : SV) (H : AH) (h0 : lookB H.bs 0 = some (.ints s.g)) (h1 : lookB H.bs 1 = some (.ints s.h)) : c7 (.func (.func 13) #[] #[]) [s.val] H = some (.int .i64 s.plain, H) := c7_hd (orH_r (canH_other rfl) (orH_l (orH_r (canH_other rfl) (orH_r (canH_other rfl) (R2_plain s H h0 h1)))))
theorem q_check (s : SV) (H : AH) (h0 : lookB H.bs 0 = some (.ints s.g)) (h1 : lookB H.bs 1 = some (.ints s.h)) : c7 (.func (.func 15) #[] #[]) [s.val] H = some (.int .i64 s.err, H) := c7_hd (orH_r (canH_other rfl) (orH_l (orH_r (canH_other rfl) (orH_r (canH_other rfl) (R2_rcheck s H h0 h1)))))
theorem q_kinds (s : SV) (H : AH) (h0 : lookB H.bs 0 = some (.ints s.g)) (h1 : lookB H.bs 1 = some (.ints s.h)) : c7 (.func (.func 17) #[] #[]) [s.val] H = some (.int .i64 s.kinds, H) := c7_hd (orH_r (canH_other rfl) (orH_l (orH_r (canH_other rfl) (orH_r (canH_other rfl) (R2_rkinds s H h0 h1)))))
theorem q_kind (s : SV) (x : Int) (H : AH) (h0 : lookB H.bs 0 = some (.ints s.g)) (h1 : lookB H.bs 1 = some (.ints s.h)) : c7 (.func (.func 18) #[] #[]) [s.val, .int .i64 x] H = some (.int .i64 (s.kindOf x), H) := c7_hd (orH_r (canH_other rfl) (orH_l (orH_r (canH_other rfl) (orH_r (canH_other rfl) (R2_kind s x H h0 h1)))))
theorem q_red (s : SV) (x : Int) (H : AH) (h0 : lookB H.bs 0 = some (.ints s.g)) (h1 : lookB H.bs 1 = some (.ints s.h)) : c7 (.func (.func 19) #[] #[]) [s.val, .int .i64 x] H = some (.bool (s.redOf x), H) := c7_hd (orH_r (canH_other rfl) (orH_l (orH_r (canH_other rfl) (orH_r (canH_other rfl) (R2_red s x H h0 h1)))))
theorem q_face (s : SV) (x : Int) (H : AH) (hb : s.inB x = true) (h0 : lookB H.bs 0 = some (.ints s.g)) (h1 : lookB H.bs 1 = some (.ints s.h)) : c7 (.func (.func 14) #[] #[]) [s.val, .int .i64 x] H = some (faceV (s.faceK x) (s.faceR x), H) := c7_hd (orH_r (canH_other rfl) (orH_l (orH_r (canH_other rfl) (orH_r (canH_other rfl) (R2_face s x H hb h0 h1)))))

theorem bagsL_ev (s : SV) (n : Nat) (h : s.long = true ∨ 200 < n) : ∃ H', evFn (tabT Try.prog) (inH noH) 300 kpT 3 Try.f3 [s.val, sl2 n] ⟨3, []⟩ = some (.bool true, H') := by
  obtain ⟨H1, h4⟩ := long_any (evCall (tabT Try.prog) (tabF Try.prog) 300 kpT noH 7) s ⟨4, [(3, .cells false s.cs)]⟩
  exact body_long (inH noH) s n ((evCall_fn (n := 7) F4 rfl).trans h4) h

theorem mi_MB (s : SV) (t : Nat → Int) : MI (MB s t) := ⟨by simp [MB, decrK, Nat.blt_eq], by simp [MB]⟩

set_option maxRecDepth 10000 in
set_option maxHeartbeats 8000000 in
theorem bags_ev (s : SV) (t : Nat → Int) (n : Nat) (hl : s.long = false) (hn : n ≤ 200) : ∃ H', evFn (tabT Try.prog) (inH RB) 300 kpT 3 Try.f3 [s.val, sl2 n] (hpT s t) = some (.bool true, H') := by
  have h4 : ∀ (H : AH), lookB H.bs 0 = some (.ints s.g) → lookB H.bs 1 = some (.ints s.h) → inH RB (.func (.func 4) #[] #[]) [s.val] H = some (.bool s.long, H) := fun H h0 h1 => inH_hd (orH_l (canH_set h0 h1))
  have h11 : ∀ H : AH, inH RB (.func (.func 11) #[] #[]) [] H = some (.bool true, H) := fun H => inH_hd (orH_r (canH_other rfl) (orH_r rfl (awake11 H)))
  have M0 : lookB (MB s t).bs 0 = some (.ints s.g) := rfl
  have M1 : lookB (MB s t).bs 1 = some (.ints s.h) := rfl
  have M2 : lookB (MB s t).bs 2 = some (.ints t) := rfl
  have M3 : lookB (MB s t).bs 3 = some (.cells false s.cs) := rfl
  by_cases hc : s.ct t n = 0
  · have he : s.err = 0 := by
      unfold SV.ct at hc
      split at hc
      · assumption
      · exact hc
    have ht : tErr s t n 0 = 0 := by simpa [SV.ct, he] using hc
    obtain ⟨k, hk⟩ : ∃ k : Nat, s.plain = (k : Int) := ⟨s.plain.toNat, by have := (size_bounds he).2.1; omega⟩
    have hk2 : k ≤ 200 := by have := (size_bounds he).2.1; omega
    have e5 := bag_ev c7 s t n k 4 (MB s t).bs hn he ht hk M0 M1 M2 (by omega) (q_ct s t n) (q_plain s) (fun x H hb => q_face s x H hb)
    have m1 : MI (hpB s t k 4 (MB s t).bs n) := ((mi_MB s t).push (.cells false s.cs)).push (.cells false (bagC s t k n))
    have e6 := rbag_ev c7 s t n k 6 (hpB s t k 4 (MB s t).bs n).bs hn he ht hk rfl rfl rfl (by omega) m1 (q_rct s t n) (q_check s) (q_kinds s) (q_kind s)
    have m2 : MI (hpB s t k 6 (hpB s t k 4 (MB s t).bs n).bs n) := (m1.push (.cells false s.cs)).push (.cells false (bagC s t k n))
    generalize hB : hpB s t k 6 (hpB s t k 4 (MB s t).bs n).bs n = B at e6 m2
    have b0 : lookB B.bs 0 = some (.ints s.g) := by rw [← hB]; rfl
    have b1 : lookB B.bs 1 = some (.ints s.h) := by rw [← hB]; rfl
    have b2 : lookB B.bs 2 = some (.ints t) := by rw [← hB]; rfl
    have b3 : lookB B.bs 3 = some (.cells false s.cs) := by rw [← hB]; rfl
    have b5 : lookB B.bs 5 = some (.cells false (bagC s t k n)) := by rw [← hB]; rfl
    have b7 : lookB B.bs 7 = some (.cells false (bagC s t k n)) := by rw [← hB]; rfl
    have bn : B.next = 8 := by rw [← hB]; rfl
    clear hB
    obtain ⟨nb, bb⟩ := B
    simp only at b0 b1 b2 b3 b5 b7 bn
    subst bn
    obtain ⟨v, H3, e7, m3, n3, k3, f3⟩ := faces_ev c7 s t n 8 bb hn he ht b0 b1 b2 (by omega) m2 (q_ct s t n) (fun x H hb => q_face s x H hb)
    obtain ⟨N3, B3⟩ := H3
    simp only at n3 k3
    obtain ⟨w, H4, e8, m4, n4, k4, f4⟩ := rfaces_ev c7 s t n N3 B3 hn he ht ((k3 0 (by omega)).trans b0) ((k3 1 (by omega)).trans b1) ((k3 2 (by omega)).trans b2) (by omega) m3 (q_rct s t n) (q_check s) (q_kind s) (q_red s)
    obtain ⟨H5, e9, n5, k5, m5⟩ := equal_ev c7 (H := H4) (a := 5) (b := 7) (k := k) (g := fun j => cntK s t n j) hk2 m4 ((k4 5 (by omega)).trans ((k3 5 (by omega)).trans b5)) ((k4 7 (by omega)).trans ((k3 7 (by omega)).trans b7))
    have e10 : ∃ H6, evFn (tabT Try.prog) c7 300 kpT 10 Try.f10 [v, w] H5 = some (.bool true, H6) := by
      rcases f3 with ⟨z, rfl⟩ | ⟨z, x, rfl, x1, x2, x3⟩
      · rcases f4 with ⟨_, rfl⟩ | ⟨z', _⟩
        · exact sameFaces_nil c7
        · omega
      · rcases f4 with ⟨z', _⟩ | ⟨_, y, rfl, y1, y2, y3⟩
        · omega
        · simp only at x2 x3
          exact sameFaces_ev c7 (s := s) (t := t) hn m5 ((k5 x (by omega)).trans ((k4 x (by omega)).trans x3)) ((k5 y (by omega)).trans y3)
    obtain ⟨H6, e10⟩ := e10
    exact body_core (inH RB) s t n hl hn h4 ((in5 _ _).trans e5) rfl ((in6 _ _).trans e6) b3 ((in7 _ _).trans e7) ((k3 3 (by omega)).trans b3) ((in8 _ _).trans e8) ((in9 _ _).trans e9) ((in10 _ _).trans e10) h11
  · obtain ⟨H1, e5, n1, k1⟩ := bag_err c7 s t n 4 (MB s t).bs hc M0 M1 M2 (by omega) (q_ct s t n)
    obtain ⟨N1, B1⟩ := H1
    simp only at n1 k1
    have a0 := (k1 0 (by omega)).trans M0
    have a1 := (k1 1 (by omega)).trans M1
    have a2 := (k1 2 (by omega)).trans M2
    have a3 := (k1 3 (by omega)).trans M3
    obtain ⟨H2, e6, n2, k2⟩ := rbag_err c7 s t n N1 B1 hc a0 a1 a2 (by omega) (q_rct s t n) (q_check s)
    obtain ⟨N2, B2⟩ := H2
    simp only at n2 k2
    have b0 := (k2 0 (by omega)).trans a0
    have b1 := (k2 1 (by omega)).trans a1
    have b2 := (k2 2 (by omega)).trans a2
    have b3 := (k2 3 (by omega)).trans a3
    obtain ⟨H3, e7, n3, k3⟩ := faces_err c7 s t n N2 B2 hc b0 b1 b2 (by omega) (q_ct s t n)
    obtain ⟨N3, B3⟩ := H3
    simp only at n3 k3
    have d0 := (k3 0 (by omega)).trans b0
    have d1 := (k3 1 (by omega)).trans b1
    have d2 := (k3 2 (by omega)).trans b2
    have d3 := (k3 3 (by omega)).trans b3
    obtain ⟨H4, e8, _, _⟩ := rfaces_err c7 s t n N3 B3 hc d0 d1 d2 (by omega) (q_rct s t n) (q_check s)
    obtain ⟨H5, e9, _, _⟩ := equal_nil c7 (H := H4)
    obtain ⟨H6, e10⟩ := sameFaces_nil c7 (H := H5)
    exact body_core (inH RB) s t n hl hn h4 ((in5 _ _).trans e5) a3 ((in6 _ _).trans e6) b3 ((in7 _ _).trans e7) d3 ((in8 _ _).trans e8) ((in9 _ _).trans e9) ((in10 _ _).trans e10) h11

end Go.Proofs.Ytbpknklnalnihaa
