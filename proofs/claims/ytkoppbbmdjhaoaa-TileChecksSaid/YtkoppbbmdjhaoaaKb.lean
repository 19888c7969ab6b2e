/-
  What is proved: the calls in the law TileChecks: which they take as known answers, and what Copy and both Same come to in its memory.
-/
import Derived.Test.YtkoppbbmdjhaoaaKa
namespace Go.Proofs.Ytkoppbbmdjhaoaa
open Go.RowKit
set_option linter.unusedSimpArgs false

theorem M7_75 (s : SV) (H : AH) (h0 : lookB H.bs 0 = some (.ints s.g)) (h1 : lookB H.bs 1 = some (.ints s.h)) : inH M7 (.func (.func 75) #[] #[]) [s.val] H = some (.int .i64 s.plain, H) :=
  inH_hd (orH_r (canH_other rfl) (orH_r (canH_other rfl) (orH_r (canH_other rfl) (orH_r (canH_other rfl) (orH_r (canH_other rfl) (orH_l (orH_l (orH_l (L0_75 s H h0 h1)))))))))
theorem M7_76 (s : SV) (H : AH) (h0 : lookB H.bs 0 = some (.ints s.g)) (h1 : lookB H.bs 1 = some (.ints s.h)) : inH M7 (.func (.func 76) #[] #[]) [s.val] H = some (.int .i64 s.size, H) :=
  inH_hd (orH_r (canH_other rfl) (orH_r (canH_other rfl) (orH_r (canH_other rfl) (orH_r (canH_other rfl) (orH_r (canH_other rfl) (orH_l (orH_l (orH_r rfl (orH_r (canH_other rfl) (orH_r (canH_other rfl) (canH_set h0 h1)))))))))))

theorem ok19 : AnsOK (runH M7) 19 (ans1 aKinds) := ans1_ok fun s v h => by
  cases h
  refine ⟨rfl, fun _ _ => ?_⟩
  obtain ⟨H', h⟩ := tkinds_ev (inH M7) M7_80 M7_75 s
  exact ⟨H', runH_fn F19 rfl h⟩
theorem ok21 : AnsOK (runH M7) 21 (ans1 aRsize) := ans1_ok fun s v h => by
  cases h
  refine ⟨rfl, fun _ _ => ?_⟩
  obtain ⟨H', h⟩ := tsize_ev (inH M7) M7_80 M7_76 s
  exact ⟨H', runH_fn F21 rfl h⟩

def N1 : Hnd := orH (canH 19 (ans1 aKinds)) (orH (canH 21 (ans1 aRsize)) (orH (canH 22 (ans1 aRsize)) (orH (canH 25 ansTrue) M7)))
theorem N1_ok : CallOK Try.prog N1 :=
  orH_ok (canH_ok (runH_ok M7_ok) ok19) (orH_ok (canH_ok (runH_ok M7_ok) ok21) (orH_ok (canH_ok (runH_ok L4_ok) ok22) (orH_ok (canH_ok (evCall_sound (tabT_ok _) (tabF_ok _) mixed 300 kpT memCF_ok 13) ok25) M7_ok)))

theorem N1_19 (s : SV) (H : AH) (h0 : lookB H.bs 0 = some (.ints s.g)) (h1 : lookB H.bs 1 = some (.ints s.h)) : inH N1 (.func (.func 19) #[] #[]) [s.val] H = some (.int .i64 s.kinds, H) := inH_hd (orH_l (canH_set h0 h1))
theorem N1_21 (s : SV) (H : AH) (h0 : lookB H.bs 0 = some (.ints s.g)) (h1 : lookB H.bs 1 = some (.ints s.h)) : inH N1 (.func (.func 21) #[] #[]) [s.val] H = some (.int .i64 s.rsize, H) := inH_hd (orH_r (canH_other rfl) (orH_l (canH_set h0 h1)))
theorem N1_22 (s : SV) (H : AH) (h0 : lookB H.bs 0 = some (.ints s.g)) (h1 : lookB H.bs 1 = some (.ints s.h)) : inH N1 (.func (.func 22) #[] #[]) [s.val] H = some (.int .i64 s.rsize, H) := inH_hd (orH_r (canH_other rfl) (orH_r (canH_other rfl) (orH_l (canH_set h0 h1))))
theorem N1_25 (H : AH) : inH N1 (.func (.func 25) #[] #[]) [] H = some (.bool true, H) := inH_hd (orH_r (canH_other rfl) (orH_r (canH_other rfl) (orH_r (canH_other rfl) (orH_l rfl))))
theorem N1_20 (s : SV) (H : AH) (h0 : lookB H.bs 0 = some (.ints s.g)) (h1 : lookB H.bs 1 = some (.ints s.h)) : inH N1 (.func (.func 20) #[] #[]) [s.val] H = some (.int .i64 s.kinds, H) :=
  inH_hd (orH_r (canH_other rfl) (orH_r (canH_other rfl) (orH_r (canH_other rfl) (orH_r (canH_other rfl) (orH_r (canH_other rfl) (orH_l (canH_set h0 h1)))))))
theorem N1_15 (s : SV) (H : AH) (h0 : lookB H.bs 0 = some (.ints s.g)) (h1 : lookB H.bs 1 = some (.ints s.h)) : inH N1 (.func (.func 15) #[] #[]) [s.val] H = some (.bool s.long, H) :=
  inH_hd (orH_r (canH_other rfl) (orH_r (canH_other rfl) (orH_r (canH_other rfl) (orH_r (canH_other rfl) (orH_r (canH_other rfl) (orH_r (canH_other rfl) (orH_l (canH_set h0 h1))))))))
theorem N1_17 (s : SV) (H : AH) (h0 : lookB H.bs 0 = some (.ints s.g)) (h1 : lookB H.bs 1 = some (.ints s.h)) : inH N1 (.func (.func 17) #[] #[]) [s.val] H = some (.int .i64 s.err, H) :=
  inH_hd (orH_r (canH_other rfl) (orH_r (canH_other rfl) (orH_r (canH_other rfl) (orH_r (canH_other rfl) (orH_r (canH_other rfl) (orH_r (canH_other rfl) (orH_r (canH_other rfl) (orH_l (canH_set h0 h1)))))))))
theorem N1_18 (s : SV) (H : AH) (h0 : lookB H.bs 0 = some (.ints s.g)) (h1 : lookB H.bs 1 = some (.ints s.h)) : inH N1 (.func (.func 18) #[] #[]) [s.val] H = some (.int .i64 s.err, H) :=
  inH_hd (orH_r (canH_other rfl) (orH_r (canH_other rfl) (orH_r (canH_other rfl) (orH_r (canH_other rfl) (orH_r (canH_other rfl) (orH_r (canH_other rfl) (orH_r (canH_other rfl) (orH_r (canH_other rfl) (orH_l (canH_set h0 h1))))))))))

/-- A second set: its lists are the blocks 2 and 3. -/
def SV.val2 (s : SV) : Value := mkSet s (.slice (some ⟨2, 0, some 1⟩) s.n 0) (.slice (some ⟨3, 0, some 1⟩) s.k 0)

theorem canH_set2 {f : FuncId} {a : SV → Option Value} {s : SV} {H : AH} (h0 : lookB H.bs 2 = some (.ints s.g)) (h1 : lookB H.bs 3 = some (.ints s.h)) :
    canH f (ans1 a) (.func (.func f) #[] #[]) [s.val2] H = (a s).map (·, H) := by
  simp [canH, canon, canonL, canonV, idOf, idxOf, SV.val2, mkSet, canonB, h0, h1, ans1, seeSet]
  cases a s <;> rfl

theorem N1_15b (s : SV) (H : AH) (h0 : lookB H.bs 2 = some (.ints s.g)) (h1 : lookB H.bs 3 = some (.ints s.h)) : inH N1 (.func (.func 15) #[] #[]) [s.val2] H = some (.bool s.long, H) :=
  inH_hd (orH_r (canH_other rfl) (orH_r (canH_other rfl) (orH_r (canH_other rfl) (orH_r (canH_other rfl) (orH_r (canH_other rfl) (orH_r (canH_other rfl) (orH_l (canH_set2 h0 h1))))))))

/-! ### Lists in the memory of a call of Same -/

/-- A list can be read below two boxes. -/
def RX (nx : Nat) (bs : List (Nat × ABlk)) (x : Value) (n : Nat) (g : Nat → Int) : Prop := ∀ a b, Reads ((nx + 1, .cells false a) :: (nx, .cells false b) :: bs) x n g

theorem look2 {nx i : Nat} {bs : List (Nat × ABlk)} (hi : i < nx) (a b : List Value) : lookB (roB ((nx + 1, .cells false a) :: (nx, .cells false b) :: bs)) i = lookB (roB bs) i := by
  have e1 : ¬ i = nx + 1 := by omega
  have e2 : ¬ i = nx := by omega
  simp [roB, lookB, Nat.beq_eq, e1, e2]

theorem rx_ints {nx i n : Nat} {g : Nat → Int} {bs : List (Nat × ABlk)} (hi : i < nx) (h : lookB (roB bs) i = some (.ints g)) : RX nx bs (.slice (some ⟨i, 0, some 1⟩) n 0) n g := by
  intro a b
  refine ⟨⟨_, _, rfl⟩, fun j hj => ⟨_, IA22 i n j hj, fun lo => ?_⟩⟩
  rw [LDr]
  simp only [look2 hi, h]

theorem cell_ints {n j : Nat} (g : Nat → Int) (h : j < n) : (intsL g n)[j]? = some (.int .i64 (g j)) := by
  simp [intsL, h]

theorem rx_cells {nx i n z : Nat} {g : Nat → Int} {bs : List (Nat × ABlk)} (hi : i < nx) (h : lookB (roB bs) i = some (.cells true (intsL g n))) : RX nx bs (.slice (some ⟨i, 0, none⟩) n z) n g := by
  intro a b
  refine ⟨⟨_, _, rfl⟩, fun j hj => ⟨.pointer (some ⟨i, j, none⟩), by simp [aIndexAddr, natV, T22, T3, hj], fun lo => ?_⟩⟩
  rw [LD3]
  simp only [cellAt, look2 hi, h, cell_ints g hj]

theorem rx_nil {nx : Nat} {g : Nat → Int} {bs : List (Nat × ABlk)} : RX nx bs (.slice none 0 0) 0 g := fun _ _ => ⟨⟨_, _, rfl⟩, fun _ hj => absurd hj (Nat.not_lt_zero _)⟩

theorem decrK_top {i : Nat} {k : ABlk} (k' : ABlk) {bs : List (Nat × ABlk)} (h : decrK ((i, k) :: bs) = true) : decrK ((i, k') :: bs) = true := by
  cases bs with
  | nil => rfl
  | cons q r => exact h
theorem decrK_two {nx : Nat} {bs : List (Nat × ABlk)} (h : decrK ((nx, .defd) :: bs) = true) (a b : List Value) : decrK ((nx + 1, .cells false a) :: (nx, .cells false b) :: bs) = true := by
  simp only [decrK, Bool.and_eq_true, Nat.blt_eq]
  exact ⟨by omega, decrK_top _ h⟩
theorem newOnes_two {nx : Nat} {bs : List (Nat × ABlk)} (a b : List Value) : newOnes (nx + 2) (roB ((nx + 1, .cells false a) :: (nx, .cells false b) :: bs)) = [] := by
  simp only [roB, newOnes]
  rw [if_neg (by rw [Nat.ble_eq]; omega)]
theorem below_up {n m : Nat} (h : n ≤ m) : ∀ {bs : List (Nat × ABlk)}, below n bs = bs → below m bs = bs
  | [], _ => rfl
  | (i, k) :: r, e => by
    simp only [below] at e ⊢
    split at e
    · rename_i c
      have c' : Nat.blt i m = true := by rw [Nat.blt_eq] at c ⊢; omega
      rw [if_pos c']
      simp only [List.cons.injEq, true_and] at e
      rw [below_up h e]
    · have := congrArg List.length e
      have hl : ∀ l : List (Nat × ABlk), (below n l).length ≤ l.length := fun l => by
        induction l with
        | nil => exact Nat.le_refl _
        | cons q l ih => obtain ⟨q, k⟩ := q; simp only [below]; split <;> simp <;> omega
      have := hl r
      simp at *
      omega
theorem below_two {nx : Nat} {bs : List (Nat × ABlk)} (h : below nx bs = bs) (a b : List Value) : below (nx + 2) ((nx + 1, .cells false a) :: (nx, .cells false b) :: bs) = (nx + 1, .cells false a) :: (nx, .cells false b) :: bs := by
  simp only [below]
  rw [if_pos (by rw [Nat.blt_eq]; omega), if_pos (by rw [Nat.blt_eq]; omega), below_up (by omega) h]

theorem tsame_call (s t : SV) {x1 x8 y1 y8 : Value} {nx : Nat} {bs : List (Nat × ABlk)} (hd : decrK ((nx, .defd) :: bs) = true) (hb : below nx bs = bs) (r1 : RX nx bs x1 s.n s.g) (r8 : RX nx bs x8 s.k s.h) (q1 : RX nx bs y1 t.n t.g) (q8 : RX nx bs y8 t.k t.h) (hn : s.n ≤ 200) (hk : s.k ≤ 200) :
    inH N1 (.func (.func 23) #[] #[]) [mkSet s x1 x8, mkSet t y1 y8] ⟨nx, bs⟩ = some (.bool (sameB s t (decide (s.n = t.n) && eqG s.g t.g s.n 0) (decide (s.k = t.k) && eqG s.h t.h s.k 0)), ⟨nx + 2, bs⟩) := by
  unfold inH
  rw [call_fn F23 rfl]
  have h := tsame_ev (evCall (tabT Try.prog) (tabF Try.prog) 300 kpT N1 7) s t x1 x8 y1 y8 _ _ nx bs
    (fun a b => by
      rw [call_fn F81 rfl]
      have h := equal_ev (evCall (tabT Try.prog) (tabF Try.prog) 300 kpT N1 6) (decrK_two hd a b) (newOnes_two a b) (r1 a b) (q1 a b) hn
      rw [below_two hb] at h
      exact h)
    (fun a b => by
      rw [call_fn F81 rfl]
      have h := equal_ev (evCall (tabT Try.prog) (tabF Try.prog) 300 kpT N1 6) (decrK_two hd a b) (newOnes_two a b) (r8 a b) (q8 a b) hk
      rw [below_two hb] at h
      exact h)
  rw [hb] at h
  exact h

theorem rsame_call (s t : SV) {x1 x8 y1 y8 : Value} {nx : Nat} {bs : List (Nat × ABlk)} (hd : decrK ((nx, .defd) :: bs) = true) (hb : below nx bs = bs) (r1 : RX nx bs x1 s.n s.g) (r8 : RX nx bs x8 s.k s.h) (q1 : RX nx bs y1 t.n t.g) (q8 : RX nx bs y8 t.k t.h) (hn : s.n ≤ 200) (hk : s.k ≤ 200) :
    inH N1 (.func (.func 24) #[] #[]) [mkSet s x1 x8, mkSet t y1 y8] ⟨nx, bs⟩ = some (.bool (sameB s t (decide (s.n = t.n) && eqG s.g t.g s.n 0) (decide (s.k = t.k) && eqG s.h t.h s.k 0)), ⟨nx + 2, bs⟩) := by
  unfold inH
  rw [call_fn F24 rfl]
  have h := rsame_ev (evCall (tabT Try.prog) (tabF Try.prog) 300 kpT N1 7) s t x1 x8 y1 y8 _ _ nx bs
    (fun a b => by
      rw [call_fn F82 rfl]
      have h := sameInts_ev (evCall (tabT Try.prog) (tabF Try.prog) 300 kpT N1 6) (decrK_two hd a b) (newOnes_two a b) (r1 a b) (q1 a b) hn
      rw [below_two hb] at h
      exact h)
    (fun a b => by
      rw [call_fn F82 rfl]
      have h := sameInts_ev (evCall (tabT Try.prog) (tabF Try.prog) 300 kpT N1 6) (decrK_two hd a b) (newOnes_two a b) (r8 a b) (q8 a b) hk
      rw [below_two hb] at h
      exact h)
  rw [hb] at h
  exact h

theorem eqG_refl (g : Nat → Int) : ∀ m i, eqG g g m i = true
  | 0, _ => rfl
  | m + 1, i => by rw [eqG, if_pos rfl]; exact eqG_refl g m (i + 1)

theorem sameB_refl (s : SV) : sameB s s (decide (s.n = s.n) && eqG s.g s.g s.n 0) (decide (s.k = s.k) && eqG s.h s.h s.k 0) = true := by
  simp [sameB, eqG_refl]

/-- What both Same answer of two sets. -/
def sameST (s t : SV) : Bool := sameB s t (decide (s.n = t.n) && eqG s.g t.g s.n 0) (decide (s.k = t.k) && eqG s.h t.h s.k 0)

theorem tsame_st (s t : SV) (hn : s.n ≤ 200) (hk : s.k ≤ 200) {nx : Nat} {bs : List (Nat × ABlk)} (h8 : 4 ≤ nx) (hd : decrK ((nx, .defd) :: bs) = true) (hb : below nx bs = bs) (l0 : lookB (roB bs) 0 = some (.ints s.g)) (l1 : lookB (roB bs) 1 = some (.ints s.h)) (l2 : lookB (roB bs) 2 = some (.ints t.g)) (l3 : lookB (roB bs) 3 = some (.ints t.h)) :
    inH N1 (.func (.func 23) #[] #[]) [s.val, t.val2] ⟨nx, bs⟩ = some (.bool (sameST s t), ⟨nx + 2, bs⟩) :=
  tsame_call s t hd hb (rx_ints (by omega) l0) (rx_ints (by omega) l1) (rx_ints (by omega) l2) (rx_ints (by omega) l3) hn hk

theorem tsame_sc (s : SV) (hn : s.n ≤ 200) (hk : s.k ≤ 200) {y1 y8 : Value} {nx : Nat} {bs : List (Nat × ABlk)} (h8 : 4 ≤ nx) (hd : decrK ((nx, .defd) :: bs) = true) (hb : below nx bs = bs) (l0 : lookB (roB bs) 0 = some (.ints s.g)) (l1 : lookB (roB bs) 1 = some (.ints s.h)) (q1 : RX nx bs y1 s.n s.g) (q8 : RX nx bs y8 s.k s.h) :
    inH N1 (.func (.func 23) #[] #[]) [s.val, mkSet s y1 y8] ⟨nx, bs⟩ = some (.bool true, ⟨nx + 2, bs⟩) := by
  have h := tsame_call s s hd hb (rx_ints (i := 0) (n := s.n) (by omega) l0) (rx_ints (i := 1) (n := s.k) (by omega) l1) q1 q8 hn hk
  rw [sameB_refl] at h
  exact h

theorem rsame_st (s t : SV) (hn : s.n ≤ 200) (hk : s.k ≤ 200) {nx : Nat} {bs : List (Nat × ABlk)} (h8 : 4 ≤ nx) (hd : decrK ((nx, .defd) :: bs) = true) (hb : below nx bs = bs) (l0 : lookB (roB bs) 0 = some (.ints s.g)) (l1 : lookB (roB bs) 1 = some (.ints s.h)) (l2 : lookB (roB bs) 2 = some (.ints t.g)) (l3 : lookB (roB bs) 3 = some (.ints t.h)) :
    inH N1 (.func (.func 24) #[] #[]) [s.val, t.val2] ⟨nx, bs⟩ = some (.bool (sameST s t), ⟨nx + 2, bs⟩) :=
  rsame_call s t hd hb (rx_ints (by omega) l0) (rx_ints (by omega) l1) (rx_ints (by omega) l2) (rx_ints (by omega) l3) hn hk

theorem rsame_sc (s : SV) (hn : s.n ≤ 200) (hk : s.k ≤ 200) {y1 y8 : Value} {nx : Nat} {bs : List (Nat × ABlk)} (h8 : 4 ≤ nx) (hd : decrK ((nx, .defd) :: bs) = true) (hb : below nx bs = bs) (l0 : lookB (roB bs) 0 = some (.ints s.g)) (l1 : lookB (roB bs) 1 = some (.ints s.h)) (q1 : RX nx bs y1 s.n s.g) (q8 : RX nx bs y8 s.k s.h) :
    inH N1 (.func (.func 24) #[] #[]) [s.val, mkSet s y1 y8] ⟨nx, bs⟩ = some (.bool true, ⟨nx + 2, bs⟩) := by
  have h := rsame_call s s hd hb (rx_ints (i := 0) (n := s.n) (by omega) l0) (rx_ints (i := 1) (n := s.k) (by omega) l1) q1 q8 hn hk
  rw [sameB_refl] at h
  exact h

theorem copied_call (i nx m : Nat) (g : Nat → Int) (bs : List (Nat × ABlk)) (h : lookB bs i = some (.ints g)) (hm : m + 1 ≤ 200) : evCall (tabT Try.prog) (tabF Try.prog) 300 kpT N1 7 (.func (.func 70) #[] #[]) [.slice (some ⟨i, 0, some 1⟩) (m + 1) 0] ⟨nx, bs⟩ = some (.slice (some ⟨nx, 0, none⟩) (m + 1) 1, ⟨nx + 1, (nx, .cells false (intsL g (m + 1))) :: bs⟩) := by
  rw [call_fn F70 rfl]
  exact copied_new _ i nx m g bs h hm
theorem copied_call0 (i nx : Nat) (bs : List (Nat × ABlk)) : evCall (tabT Try.prog) (tabF Try.prog) 300 kpT N1 7 (.func (.func 70) #[] #[]) [.slice (some ⟨i, 0, some 1⟩) 0 0] ⟨nx, bs⟩ = some (.slice none 0 0, ⟨nx, below nx bs⟩) := by
  rw [call_fn F70 rfl]
  exact copied_nil _ i nx bs

end Go.Proofs.Ytkoppbbmdjhaoaa
