/-
  What is proved: the law's body ends with true for every list of numbers and every kind.
-/
import Derived.Test.YtdbpemmhkfbegaaXg
import Derived.Test.YtdbpemmhkfbegaaXh
import Derived.Test.YtdbpemmhkfbegaaM1j
namespace Go.Proofs.Ytdbpemmhkfbegaa
open Go.RowKit
set_option linter.unusedSimpArgs false
set_option linter.unusedVariables false

noncomputable def ansI : List Value → AH → Option Value
  | [.int .i64 n, .int .i64 m], _ => if m = 0 then none else some (.int .i64 (intoX n m))
  | _, _ => none
theorem FI : tabF Try.prog 23 = some Try.f23 := by kernel_rfl
theorem okI : AnsOK (runH noH) 23 ansI := by
  intro cargs Hc v h
  unfold ansI at h
  split at h
  · split at h
    · cases h
    · rename_i hm
      cases h
      refine ⟨rfl, fun _ => ?_⟩
      obtain ⟨H', h⟩ := into_ev (L := 0) (inH noH) (H := Hc) hm
      exact ⟨H', runH_fn FI rfl h⟩
  · cases h
theorem canI (n m : Int) (H : AH) (h : ¬ m = 0) : canH 23 ansI (.func (.func 23) #[] #[]) [.int .i64 n, .int .i64 m] H = some (.int .i64 (intoX n m), H) := by
  simp [canH, canon, canonL, canonV, canonB, ansI, Nat.beq_eq, h]
noncomputable def RB : Hnd := orH (canH 23 ansI) (orH (setH 7 ansPl) (orH (setH 18 ansAf) (memoF m4x0L)))
theorem RB_ok : CallOK Try.prog RB := orH_ok (canH_ok (runH_ok noH_ok) okI) (orH_ok setP_ok (orH_ok setA_ok m4x0L_ok))
theorem awakeM (H : AH) : memoF m4x0L (.func (.func 20) #[] #[]) [] H = some (.bool true, H) := by
  cases H
  kernel_rfl
theorem seeC_of {b : List (Nat × ABlk)} {s : SV} {u1 u8 : Value} (l1 : Lst b u1 s.n s.g) (h1 : 1 ≤ s.n) (l8 : Lst b u8 s.k s.h) (h8 : u8 = .slice none 0 0 → s.h = fun _ => 0) (hn : s.n ≤ 200) (hk : s.k ≤ 200) : seeC (.agg ⟨[.int .i64 s.p, u1, .int .i64 s.w, .int .i64 s.d, .int .i64 s.f, .int .i64 s.c, .int .i64 s.m, .int .i64 s.de, u8]⟩) b = some s := by
  rcases l1 with ⟨_, h⟩ | ⟨a, ro, cs, rfl, h2, h3, h4⟩
  · omega
  · have e1 : seeL b (.slice (some ⟨a, 0, none⟩) s.n 1) = some (s.n, s.g) := by simp only [seeL, h2, h3, if_true, h4]
    have e8 : seeL b u8 = some (s.k, s.h) := by
      rcases l8 with ⟨rfl, h⟩ | ⟨a, ro, cs, rfl, h2, h3, h4⟩
      · rw [h, h8 rfl]; rfl
      · simp only [seeL, h2, h3, if_true, h4]
    unfold seeC
    simp only [e1, e8]
    simp [hn, hk, Nat.ble_eq]
theorem setH_go {f : FuncId} {ans : SV → List Value → Option Value} {b : List (Nat × ABlk)} {s : SV} {u1 u8 : Value} {M : Nat} {j : Int} {r : Value} (h : seeC (.agg ⟨[.int .i64 s.p, u1, .int .i64 s.w, .int .i64 s.d, .int .i64 s.f, .int .i64 s.c, .int .i64 s.m, .int .i64 s.de, u8]⟩) b = some s) (ha : ans s [.int .i64 j] = some r) : setH f ans (.func (.func f) #[] #[]) [.agg #[.int .i64 s.p, u1, .int .i64 s.w, .int .i64 s.d, .int .i64 s.f, .int .i64 s.c, .int .i64 s.m, .int .i64 s.de, u8], .int .i64 j] ⟨M, b⟩ = some (r, ⟨M, b⟩) := by
  show (if Nat.beq f f && [Value.int .i64 j].all (closedV 3) then match seeC (.agg ⟨[.int .i64 s.p, u1, .int .i64 s.w, .int .i64 s.d, .int .i64 s.f, .int .i64 s.c, .int .i64 s.m, .int .i64 s.de, u8]⟩) b with
      | some s => match ans s [.int .i64 j] with
        | some r => some (r, (⟨M, b⟩ : AH))
        | none => none
      | none => none
    else none) = _
  rw [h]
  simp only [ha]
  simp [closedV]
noncomputable def E (L n : Nat) : Hnd := evCall (tabT Try.prog) (tabF Try.prog) (L + 300) kpT RB n
theorem FFB : tabF Try.prog 65 = some Try.f65 := by kernel_rfl
theorem FFR : tabF Try.prog 49 = some Try.f49 := by kernel_rfl
theorem FFO : tabF Try.prog 47 = some Try.f47 := by kernel_rfl
theorem FFN : tabF Try.prog 22 = some Try.f22 := by kernel_rfl
theorem FFL : tabF Try.prog 48 = some Try.f48 := by kernel_rfl
theorem FFG : tabF Try.prog 40 = some Try.f40 := by kernel_rfl
theorem FFS : tabF Try.prog 21 = some Try.f21 := by kernel_rfl
theorem FFP : tabF Try.prog 24 = some Try.f24 := by kernel_rfl
theorem FFT : tabF Try.prog 50 = some Try.f50 := by kernel_rfl
theorem FLaw : tabF Try.prog 4 = some Try.f4 := by kernel_rfl
theorem bel_at (L n p N : Nat) (bs : List (Nat × ABlk)) (x : Int) (m : Nat) (h1 : 1 ≤ m) (h2 : m ≤ 1000) (hM : MI ⟨N, bs⟩) (h : lookB bs p = some (sB x)) : E L (n + 1) (.func (.func 65) #[] #[]) [.pointer (some ⟨p, 0, none⟩), .int .i64 (m : Int)] ⟨N, bs⟩ = some (.int .i64 (belV x m), ⟨N, setB bs p (sB (stB x))⟩) :=
  (evCall_fn FFB rfl).trans (below_ev _ p N bs x m h1 h2 hM h)
theorem src_at (L n p : Nat) : SrcOK (E L (n + 1 + 1)) p where
  bel N bs x m h1 h2 hM h := bel_at L (n + 1) p N bs x m h1 h2 hM h
  ran N bs x lo hi h1 h2 hM h := (evCall_fn FFR rfl).trans (range_ev _ p N bs x lo hi h1 h2 fun m a b => bel_at L n p N bs x m a b hM h)
  odd N bs x m h1 h2 hM h := (evCall_fn FFO rfl).trans (odds_ev _ p N bs x m h1 h2 fun m a b => bel_at L n p N bs x m a b hM h)
theorem plain_at (L n M : Nat) (b2 : List (Nat × ABlk)) (s : SV) (u1 u8 : Value) (hM : MI ⟨M, b2⟩) (hu : Lst b2 u1 s.n s.g) (hn : s.n ≤ 200) : E L (n + 1 + 1) (.func (.func 24) #[] #[]) [.agg #[.int .i64 s.p, u1, .int .i64 s.w, .int .i64 s.d, .int .i64 s.f, .int .i64 s.c, .int .i64 s.m, .int .i64 s.de, u8]] ⟨M, b2⟩ = some (.int .i64 (PV s), ⟨M + 1, b2⟩) :=
  (evCall_fn FFP rfl).trans (plainC_ev _ M b2 hM hu fun N bs hM hu => (evCall_fn FFT rfl).trans (total_ev _ N bs hn hM hu))
theorem lit_at (L n p M : Nat) (b : List (Nat × ABlk)) (y : Int) (me : Nat) (hme : me = 1 ∨ me = 2) (hM : MI ⟨M, b⟩) (h : lookB b p = some (sB y)) : LitEnd M p (me : Int) b (E L (n + 1 + 1 + 1) (.func (.func 48) #[] #[]) [.pointer (some ⟨p, 0, none⟩), .int .i64 (me : Int)] ⟨M, b⟩) := by
  have e : E L (n + 1 + 1 + 1) (.func (.func 48) #[] #[]) [.pointer (some ⟨p, 0, none⟩), .int .i64 (me : Int)] ⟨M, b⟩ = _ := evCall_fn FFL rfl
  rw [e]
  exact little_ev _ p M b y me hme hM h (src_at L n p) (plain_at L n)
theorem set_at (L n p N : Nat) (bs : List (Nat × ABlk)) (x : Int) (hM : MI ⟨N, bs⟩) (h : lookB bs p = some (sB x)) : SetEnd N p bs (E L (n + 1 + 1 + 1 + 1) (.func (.func 21) #[] #[]) [.pointer (some ⟨p, 0, none⟩)] ⟨N, bs⟩) := by
  have e : E L (n + 1 + 1 + 1 + 1) (.func (.func 21) #[] #[]) [.pointer (some ⟨p, 0, none⟩)] ⟨N, bs⟩ = _ := evCall_fn FFS rfl
  rw [e]
  exact setof_ev _ p N bs x hM h (src_at L (n + 1) p) (fun M b => (evCall_fn FFG rfl).trans (big_ev _ M b)) (lit_at L n p)
theorem err_nil {s : SV} (he : s.err = 0) (hk : s.k = 0) : ({ s with h := fun _ => 0 } : SV).err = 0 := by
  obtain ⟨p, n, g, w, d, f, c, m, de, k, h⟩ := s
  simp only at hk
  subst hk
  exact he
theorem body_ev (n : Nat) (hn : n ≤ 9223372036854775807) {ks : List Value} (hks : okC ks n = true) {u : Value}
    (hlen : aLen (tabT Try.prog) 22 u = some (.int .i64 n)) (hix : ∀ k : Nat, k < n → aIndexAddr (tabT Try.prog) 22 u (.int .i64 (k : Int)) = some (.pointer (some ⟨0, k, none⟩))) (kind : Int) :
    ∃ H', evFn (tabT Try.prog) (E n 8) (n + 300) kpT 4 Try.f4 [u, .int .i64 kind] ⟨1, [(0, .cells true ks)]⟩ = some (.bool true, H') := by
  obtain ⟨x, hx⟩ := newSource_ev (L := n + 300) (E n 7) (by omega) hn hks hlen hix
  have hNS : E n 8 (.func (.func 22) #[] #[]) [u] ⟨1, [(0, .cells true ks)]⟩ = some (.pointer (some ⟨1, 0, none⟩), HS ks x) := (evCall_fn FFN rfl).trans hx
  have hM0 : MI ⟨2, [(1, .cells false [.int .u64 x]), (0, .cells true ks)]⟩ := ⟨rfl, fun p hp => by
    simp only [List.mem_cons, List.not_mem_nil, or_false] at hp
    rcases hp with rfl | rfl
    · show 1 < 2; omega
    · show 0 < 2; omega⟩
  obtain ⟨s0, u1, u8, ⟨M, b1⟩, hSO, hM, hnx, _, f1, f80, he0, hk, h1⟩ := set_at n 4 1 2 [(1, .cells false [.int .u64 x]), (0, .cells true ks)] x hM0 rfl
  obtain ⟨s, hs, he, f8, h8⟩ : ∃ s : SV, (.agg #[.int .i64 s.p, u1, .int .i64 s.w, .int .i64 s.d, .int .i64 s.f, .int .i64 s.c, .int .i64 s.m, .int .i64 s.de, u8] = (.agg #[.int .i64 s0.p, u1, .int .i64 s0.w, .int .i64 s0.d, .int .i64 s0.f, .int .i64 s0.c, .int .i64 s0.m, .int .i64 s0.de, u8] : Value) ∧ s.n = s0.n ∧ s.g = s0.g ∧ s.k = s0.k) ∧ s.err = 0 ∧ FL 2 ⟨M, b1⟩ u8 s.k s.h ∧ (u8 = .slice none 0 0 → s.h = fun _ => 0) := by
    by_cases hu : u8 = .slice none 0 0
    · have hk0 : s0.k = 0 := by
        rcases f80 with ⟨_, h⟩ | ⟨a, cs, h, _⟩
        · exact h
        · rw [hu] at h; cases h
      exact ⟨{ s0 with h := fun _ => 0 }, ⟨rfl, rfl, rfl, rfl⟩, err_nil he0 hk0, .inl ⟨hu, hk0⟩, fun _ => rfl⟩
    · exact ⟨s0, ⟨rfl, rfl, rfl, rfl⟩, he0, f80, fun h => absurd h hu⟩
  obtain ⟨ha, hn0, hg0, hk0⟩ := hs
  rw [← ha] at hSO
  rw [← hn0, ← hg0] at f1
  have hs3 := (small_of_err he).n
  have l1 : Lst ((M, .cells false [.int .i64 s.p, u1, .int .i64 s.w, .int .i64 s.d, .int .i64 s.f, .int .i64 s.c, .int .i64 s.m, .int .i64 s.de, u8]) :: b1) u1 s.n s.g := f1.lst.push hM.2 _
  have l8 : Lst ((M, .cells false [.int .i64 s.p, u1, .int .i64 s.w, .int .i64 s.d, .int .i64 s.f, .int .i64 s.c, .int .i64 s.m, .int .i64 s.de, u8]) :: b1) u8 s.k s.h := f8.lst.push hM.2 _
  have see := seeC_of l1 (by omega) l8 h8 (by omega) (by omega)
  exact body_core (L := n) (E n 8) 1 2 1 M _ _ b1 u kind s u1 u8 hNS hSO hM f1 f8 he (plain_at n 6) (fun x y H h => evCall_hd (orH_l (canI x y H h)))
    (fun M' j _ => evCall_hd (orH_r (canH_other rfl) (orH_l (setH_go see rfl))))
    (fun M' j _ => evCall_hd (orH_r (canH_other rfl) (orH_r rfl (orH_l (setH_go see rfl)))))
    (fun H => ⟨H, evCall_hd (orH_r (canH_other rfl) (orH_r rfl (orH_r rfl (awakeM H))))⟩)

end Go.Proofs.Ytdbpemmhkfbegaa
