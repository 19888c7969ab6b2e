/-
  What is proved: the small sets that the source makes: suits.
-/
import Derived.Test.YtdbpemmhkfbegaaXv
namespace Go.Proofs.Ytdbpemmhkfbegaa
open Go.RowKit
set_option linter.unusedSimpArgs false
set_option linter.unusedVariables false

theorem kpl : kpT 48 = false := by kernel_rfl
theorem gcl : gcT 48 = false := by kernel_rfl
theorem Nplain : ((tabT Try.prog) 24).map (fun z => (z.ex.nat 24, z.ex.mnz 24)) = some (none, none) := by kernel_rfl
theorem Cplain (call : Value → List Value → AH → Option (Value × AH)) {tm : Tm} {i : Nat} {H : AH} {d : Option Tmp} {t : TypeId} {p : String} {a : Array Edge} {gd : Option (Nat × Bool)} : evOp (tabT Try.prog) call ⟨d, .call ⟨.value (.func 24), #[.tmp i], #[24]⟩, t, p, a, gd⟩ (opd tm) H = call (.func (.func 24) #[] #[]) [tm.get i] H :=
  evOp_evO.trans (eo_call1 rfl rfl Nplain)
theorem AL24 {call : Value → List Value → AH → Option (Value × AH)} {g : Operand → Option Value} {H : AH} {d : Option Tmp} {t : TypeId} {p : String} {a : Array Edge} {gd : Option (Nat × Bool)} : evOp (tabT Try.prog) call ⟨d, .alloc 24, t, p, a, gd⟩ g H = some (.pointer (some ⟨H.next, 0, none⟩), ⟨H.next + 1, (H.next, .cells false [.int .i64 0, .slice none 0 0, .int .i64 0, .int .i64 0, .int .i64 0, .int .i64 0, .int .i64 0, .int .i64 0, .slice none 0 0]) :: H.bs⟩) :=
  evOp_evO.trans (eo_alloc (cs := [.int .i64 0, .slice none 0 0, .int .i64 0, .int .i64 0, .int .i64 0, .int .i64 0, .int .i64 0, .int .i64 0, .slice none 0 0]) (by kernel_rfl))
theorem ST24 (H : AH) (i off : Nat) (v : Value) : aStore (tabT Try.prog) H 24 (.pointer (some ⟨i, off, none⟩)) v = match lookB H.bs i with
    | some (.cells false cs) => if Nat.beq v.cells.toList.length 9 && Nat.ble (off + v.cells.toList.length) cs.length && v.cells.toList.all cellV then some { H with bs := setB H.bs i (.cells false (putF cs off v.cells.toList)) } else none
    | _ => none := sti (by kernel_rfl) H i off v
theorem ST22 (H : AH) (i off : Nat) (v : Value) : aStore (tabT Try.prog) H 22 (.pointer (some ⟨i, off, none⟩)) v = match lookB H.bs i with
    | some (.cells false cs) => if Nat.beq v.cells.toList.length 1 && Nat.ble (off + v.cells.toList.length) cs.length && v.cells.toList.all cellV then some { H with bs := setB H.bs i (.cells false (putF cs off v.cells.toList)) } else none
    | _ => none := sti (by kernel_rfl) H i off v
theorem STi (H : AH) (i off : Nat) (v : Value) : aStore (tabT Try.prog) H 3 (.pointer (some ⟨i, off, none⟩)) v = match lookB H.bs i with
    | some (.cells false cs) => if Nat.beq v.cells.toList.length 1 && Nat.ble (off + v.cells.toList.length) cs.length && v.cells.toList.all cellV then some { H with bs := setB H.bs i (.cells false (putF cs off v.cells.toList)) } else none
    | _ => none := sti (by kernel_rfl) H i off v
theorem BD24 (m c w d f de : Int) : aBuild (tabT Try.prog) 24 [(0, .int .i64 3), (6, .int .i64 m), (5, .int .i64 c), (2, .int .i64 w), (3, .int .i64 d), (4, .int .i64 f), (7, .int .i64 de)] = some (.agg #[.int .i64 3, .slice none 0 0, .int .i64 w, .int .i64 d, .int .i64 f, .int .i64 c, .int .i64 m, .int .i64 de, .slice none 0 0]) := by kernel_rfl
theorem Gran (call : Value → List Value → AH → Option (Value × AH)) {tm : Tm} {rs : List DR} {ts : List Nat} {k : Nat} {x y : Int} {H : AH} {d : Option Tmp} {t : TypeId} {p : String} {a : Array Edge} {gd : Option (Nat × Bool)} (h : natMem ts k = true) : evOp (tabT Try.prog) call ⟨d, .call ⟨.value (.func 49), #[.tmp k, .const (.int .i64 x), .const (.int .i64 y)], #[35, 3, 3]⟩, t, p, a, gd⟩ (gOf tm rs ts) H = call (.func (.func 49) #[] #[]) [(finT tm rs).get k, .int .i64 x, .int .i64 y] H :=
  evOp_evO.trans (eo_call3 rfl (by simp only [gOf, h, if_true]) rfl rfl)
theorem Cran (call : Value → List Value → AH → Option (Value × AH)) {tm : Tm} {k : Nat} {x y : Int} {H : AH} {d : Option Tmp} {t : TypeId} {p : String} {a : Array Edge} {gd : Option (Nat × Bool)} : evOp (tabT Try.prog) call ⟨d, .call ⟨.value (.func 49), #[.tmp k, .const (.int .i64 x), .const (.int .i64 y)], #[35, 3, 3]⟩, t, p, a, gd⟩ (opd tm) H = call (.func (.func 49) #[] #[]) [tm.get k, .int .i64 x, .int .i64 y] H :=
  evOp_evO.trans (eo_call3 rfl rfl rfl rfl)
theorem Wran : wrT 49 = true := by kernel_rfl
theorem app_ro1 {nx : Nat} {b1 : List (Nat × ABlk)} (hM : MI ⟨nx, b1⟩) (v : Value) : aAppend (tabT Try.prog) ⟨nx + 1, roB b1⟩ 22 v (.slice (some ⟨nx, 0, none⟩) 1 1) = none := by
  have h := look_none b1 nx hM.2
  rw [AP22]
  simp only [sliceLen, srcCells, h]
  split <;> simp_all
/-- What calls of the source answer. -/
structure SrcOK (call : Value → List Value → AH → Option (Value × AH)) (p : Nat) : Prop where
  bel : ∀ (N : Nat) (bs : List (Nat × ABlk)) (x : Int) (n : Nat), 1 ≤ n → n ≤ 1000 → MI ⟨N, bs⟩ → lookB bs p = some (sB x) → call (.func (.func 65) #[] #[]) [.pointer (some ⟨p, 0, none⟩), .int .i64 (n : Int)] ⟨N, bs⟩ = some (.int .i64 (belV x n), ⟨N, setB bs p (sB (stB x))⟩)
  ran : ∀ (N : Nat) (bs : List (Nat × ABlk)) (x : Int) (lo hi : Nat), lo ≤ hi → hi ≤ 900 → MI ⟨N, bs⟩ → lookB bs p = some (sB x) → call (.func (.func 49) #[] #[]) [.pointer (some ⟨p, 0, none⟩), .int .i64 (lo : Int), .int .i64 (hi : Int)] ⟨N, bs⟩ = some (.int .i64 (rngV x lo hi), ⟨N, setB bs p (sB (stB x))⟩)
  odd : ∀ (N : Nat) (bs : List (Nat × ABlk)) (x : Int) (n : Nat), 1 ≤ n → n ≤ 1000 → MI ⟨N, bs⟩ → lookB bs p = some (sB x) → call (.func (.func 47) #[] #[]) [.pointer (some ⟨p, 0, none⟩), .int .i64 (n : Int)] ⟨N, bs⟩ = some (.bool (oddV x n), ⟨N, setB bs p (sB (stB x))⟩)
noncomputable def bx (k : Nat) (x : Int) : Int := match k with | 0 => x | k + 1 => bx k (stB x)
theorem eqFL {lo n : Nat} {H : AH} {u : Value} {g : Nat → Int} (h : FL lo H u n g) : eqR 5 u u = true := by
  rcases h with ⟨rfl, rfl⟩ | ⟨a, cs, rfl, _⟩
  · rfl
  · simp [eqR]
/-- A small set while it is made. -/
structure LB (me : Int) (s : SV) : Prop where
  p : s.p = 3
  m : s.m = me
  c : 2 ≤ s.c ∧ s.c ≤ 4
  w : 0 ≤ s.w ∧ s.w ≤ 4
  d : 0 ≤ s.d ∧ s.d ≤ 3
  f : 0 ≤ s.f ∧ s.f ≤ 1
  de : 0 ≤ s.de ∧ s.de ≤ 2
  g : ∀ i, i < s.n → 3 ≤ s.g i ∧ s.g i ≤ 5
  n : s.n ≤ 2
/-- The temporaries that stay. -/
def TL (N p : Nat) (me : Int) (A : AF) : Prop := A.tm.n = 98 ∧ A.marks = [] ∧ A.tm.get 0 = .pointer (some ⟨p, 0, none⟩) ∧ A.tm.get 1 = .int .i64 me ∧ A.tm.get 4 = .pointer (some ⟨N, 0, none⟩) ∧ A.tm.get 5 = .pointer (some ⟨N + 1, 0, none⟩)
def IL1 (N p : Nat) (me : Int) (bs : List (Nat × ABlk)) (k : Nat) (m : Nat) (A : AF) (H : AH) : Prop := ∃ (s : SV) (x : Int) (u1 : Value), KL N p bs H x s u1 (.slice none 0 0) ∧ LB me s ∧ s.k = 0 ∧ s.n + m = k ∧ TL N p me A ∧ A.tm.get 6 = .int .i64 (m : Int)
def QL1 (N p : Nat) (me : Int) (bs : List (Nat × ABlk)) (k : Nat) (y : AX) (A : AF) (H : AH) : Prop := y = .exit 0 ∧ ∃ (s : SV) (x : Int) (u1 : Value), KL N p bs H x s u1 (.slice none 0 0) ∧ LB me s ∧ s.k = 0 ∧ s.n = k ∧ TL N p me A
noncomputable def PV (s : SV) : Int := wrapI .i64 (wrapI .i64 (sumG s.g s.n 0 0 + s.w) + s.d)
theorem PV_bd {me : Int} {s : SV} (hB : LB me s) (h1 : 1 ≤ s.n) : ∃ S : Int, PV s = S + s.w + s.d ∧ 3 * s.n ≤ S ∧ S ≤ 5 * s.n := by
  have hn := hB.n
  have g0 := hB.g 0 (by omega)
  have hw := hB.w
  have hd := hB.d
  rcases (show s.n = 1 ∨ s.n = 2 by omega) with h | h
  · refine ⟨s.g 0, ?_, by omega, by omega⟩
    unfold PV
    rw [h]
    simp only [sumG]
    have a1 : wrapI .i64 (0 + s.g 0) = s.g 0 := (wrapI_small (by omega) (by omega)).trans (by omega)
    have a2 : wrapI .i64 (s.g 0 + s.w) = s.g 0 + s.w := wrapI_small (by omega) (by omega)
    have a3 : wrapI .i64 (s.g 0 + s.w + s.d) = s.g 0 + s.w + s.d := wrapI_small (by omega) (by omega)
    rw [a1, a2, a3]
  · have g1 := hB.g 1 (by omega)
    refine ⟨s.g 0 + s.g 1, ?_, by omega, by omega⟩
    unfold PV
    rw [h]
    simp only [sumG]
    have a1 : wrapI .i64 (0 + s.g 0) = s.g 0 := (wrapI_small (by omega) (by omega)).trans (by omega)
    have a4 : wrapI .i64 (s.g 0 + s.g (0 + 1)) = s.g 0 + s.g 1 := (wrapI_small (by simp only [Nat.zero_add]; omega) (by simp only [Nat.zero_add]; omega)).trans (by simp)
    have a2 : wrapI .i64 (s.g 0 + s.g 1 + s.w) = s.g 0 + s.g 1 + s.w := wrapI_small (by omega) (by omega)
    have a3 : wrapI .i64 (s.g 0 + s.g 1 + s.w + s.d) = s.g 0 + s.g 1 + s.w + s.d := wrapI_small (by omega) (by omega)
    rw [a1, a4, a2, a3]
theorem Gpl (call : Value → List Value → AH → Option (Value × AH)) {tm : Tm} {rs : List DR} {ts : List Nat} {k : Nat} {H : AH} {d : Option Tmp} {t : TypeId} {p : String} {a : Array Edge} {gd : Option (Nat × Bool)} (h : natMem ts k = true) : evOp (tabT Try.prog) call ⟨d, .call ⟨.value (.func 24), #[.tmp k], #[24]⟩, t, p, a, gd⟩ (gOf tm rs ts) H = call (.func (.func 24) #[] #[]) [(finT tm rs).get k] H :=
  evOp_evO.trans (eo_call1 rfl (by simp only [gOf, h, if_true]) Nplain)
theorem Wpl : wrT 24 = false := by kernel_rfl
def IL2 (N p : Nat) (me : Int) (bs : List (Nat × ABlk)) (k : Nat) (NV : Int) (m : Nat) (A : AF) (H : AH) : Prop := ∃ (s : SV) (x : Int) (u1 : Value), KL N p bs H x s u1 (.slice none 0 0) ∧ LB me s ∧ s.k = 0 ∧ s.n = k ∧ NV = 3 * (3 * me + 1) + 1 + s.de ∧ (4 - s.c) + (4 - s.w) + (3 - s.d) = (m : Int) ∧ TL N p me A ∧ A.tm.get 7 = .int .i64 NV
def QL2 (N p : Nat) (me : Int) (bs : List (Nat × ABlk)) (k : Nat) (NV : Int) (y : AX) (A : AF) (H : AH) : Prop := y = .exit 2 ∧ ∃ (s : SV) (x : Int) (u1 : Value), KL N p bs H x s u1 (.slice none 0 0) ∧ LB me s ∧ s.k = 0 ∧ s.n = k ∧ NV = 3 * (3 * me + 1) + 1 + s.de ∧ NV ≤ PV s * s.c + s.f ∧ TL N p me A
theorem Godd (call : Value → List Value → AH → Option (Value × AH)) {tm : Tm} {k : Nat} {y : Int} {H : AH} {d : Option Tmp} {t : TypeId} {p : String} {a : Array Edge} {gd : Option (Nat × Bool)} : evOp (tabT Try.prog) call ⟨d, .call ⟨.value (.func 47), #[.tmp k, .const (.int .i64 y)], #[35, 3]⟩, t, p, a, gd⟩ (opd tm) H = call (.func (.func 47) #[] #[]) [tm.get k, .int .i64 y] H :=
  evOp_evO.trans (eo_call2n rfl rfl rfl Nodds)
/-- The reds of a small set. -/
structure RD (s : SV) (j : Nat) : Prop where
  le : s.k ≤ j
  bd : ∀ i, i < s.k → 0 ≤ s.h i ∧ s.h i < j
  up : ∀ i, i + 1 < s.k → s.h i < s.h (i + 1)
theorem RD.app {s : SV} {j : Nat} (h : RD s j) (cs : List Value) (hg : ∀ i, i < s.k → gi cs i = s.h i) (hk : gi cs s.k = (j : Int)) : RD { s with k := s.k + 1, h := gi cs } (j + 1) := by
  refine ⟨Nat.succ_le_succ h.le, fun i hi => ?_, fun i hi => ?_⟩
  · have hi' : i < s.k + 1 := hi
    show 0 ≤ gi cs i ∧ gi cs i < ((j + 1 : Nat) : Int)
    by_cases hlt : i < s.k
    · rw [hg i hlt]; have := h.bd i hlt; omega
    · obtain rfl : i = s.k := by omega
      rw [hk]; omega
  · have hi' : i + 1 < s.k + 1 := hi
    show gi cs i < gi cs (i + 1)
    by_cases hlt : i + 1 < s.k
    · rw [hg i (by omega), hg (i + 1) hlt]; exact h.up i hlt
    · obtain e : i + 1 = s.k := by omega
      rw [e, hk, hg i (by omega)]
      exact (h.bd i (by omega)).2
theorem RD.mono {s : SV} {j : Nat} (h : RD s j) : RD s (j + 1) :=
  ⟨Nat.le_succ_of_le h.le, fun i hi => by have := h.bd i hi; omega, h.up⟩
def IL3 (N p : Nat) (me : Int) (bs : List (Nat × ABlk)) (k P : Nat) (NV : Int) (m : Nat) (A : AF) (H : AH) : Prop := ∃ (s : SV) (x : Int) (u1 u8 : Value) (j : Nat), KL N p bs H x s u1 u8 ∧ LB me s ∧ RD s j ∧ s.n = k ∧ PV s = (P : Int) ∧ NV = 3 * (3 * me + 1) + 1 + s.de ∧ NV ≤ PV s * s.c + s.f ∧ j + m = P ∧ TL N p me A ∧ A.tm.get 8 = .int .i64 (j : Int)
def QL3 (N p : Nat) (me : Int) (bs : List (Nat × ABlk)) (k P : Nat) (NV : Int) (y : AX) (A : AF) (H : AH) : Prop := y = .exit 5 ∧ ∃ (s : SV) (x : Int) (u1 u8 : Value), KL N p bs H x s u1 u8 ∧ LB me s ∧ RD s P ∧ s.n = k ∧ PV s = (P : Int) ∧ NV = 3 * (3 * me + 1) + 1 + s.de ∧ NV ≤ PV s * s.c + s.f ∧ TL N p me A
/-- What a small set of the source leaves. -/
def LitEnd (N p : Nat) (me : Int) (bs : List (Nat × ABlk)) (r : Option (Value × AH)) : Prop := ∃ (s : SV) (x : Int) (u1 u8 : Value) (P : Nat) (H' : AH), r = some (.agg #[.int .i64 s.p, u1, .int .i64 s.w, .int .i64 s.d, .int .i64 s.f, .int .i64 s.c, .int .i64 s.m, .int .i64 s.de, u8], H') ∧ MI H' ∧ N ≤ H'.next ∧ lookB H'.bs p = some (sB x) ∧ (∀ j, j < N → j ≠ p → lookB H'.bs j = lookB bs j) ∧ FL N H' u1 s.n s.g ∧ FL N H' u8 s.k s.h ∧ LB me s ∧ RD s P ∧ PV s = (P : Int) ∧ 1 ≤ s.n ∧ 3 * (3 * me + 1) + 1 + s.de ≤ PV s * s.c + s.f
theorem FL.weak {lo lo' n : Nat} {H : AH} {u : Value} {g : Nat → Int} (h : FL lo H u n g) (hl : lo' ≤ lo) : FL lo' H u n g := by
  rcases h with h | ⟨a, cs, h1, h2, h3⟩
  · exact .inl h
  · exact .inr ⟨a, cs, h1, by omega, h3⟩
theorem lit_end {N p : Nat} {me : Int} {bs : List (Nat × ABlk)} {H : AH} {x : Int} {s : SV} {u1 u8 : Value} {P : Nat} (h : KL N p bs H x s u1 u8) (hB : LB me s) (hR : RD s P) (hP : PV s = (P : Int)) (hn : 1 ≤ s.n) (hle : 3 * (3 * me + 1) + 1 + s.de ≤ PV s * s.c + s.f) (v : ABlk) : LitEnd N p me bs (some (.agg #[.int .i64 s.p, u1, .int .i64 s.w, .int .i64 s.d, .int .i64 s.f, .int .i64 s.c, .int .i64 s.m, .int .i64 s.de, u8], ⟨H.next, setB H.bs N v⟩)) := by
  have hp := h.pn
  have hx := h.nx
  have e : ∀ j, j ≠ N → lookB (setB H.bs N v) j = lookB H.bs j := fun j hj => by rw [lookB_setB, if_neg hj]
  have f1 : FL (N + 1) ⟨H.next, setB H.bs N v⟩ u1 s.n s.g := h.l1.mono (Nat.le_refl _) fun a _ h2 _ => e a (by omega)
  have f8 : FL (N + 1) ⟨H.next, setB H.bs N v⟩ u8 s.k s.h := h.l8.mono (Nat.le_refl _) fun a _ h2 _ => e a (by omega)
  exact ⟨s, x, u1, u8, P, _, rfl, h.mi.set _ _, by show N ≤ H.next; omega, (e p (by omega)).trans h.src, fun j h1 h2 => (e j (by omega)).trans (h.old j h1 h2), f1.weak (by omega), f8.weak (by omega), hB, hR, hP, hn, hle⟩
set_option maxRecDepth 10000 in
set_option maxHeartbeats 8000000 in
theorem little_ev {L : Nat} (call : Value → List Value → AH → Option (Value × AH)) (p N : Nat) (bs : List (Nat × ABlk)) (x : Int) (me : Nat) (hme : me = 1 ∨ me = 2) (hM : MI ⟨N, bs⟩) (hp : lookB bs p = some (sB x)) (hS : SrcOK call p) (hPl : ∀ (M : Nat) (b2 : List (Nat × ABlk)) (s : SV) (u1 u8 : Value), MI ⟨M, b2⟩ → Lst b2 u1 s.n s.g → s.n ≤ 200 → call (.func (.func 24) #[] #[]) [.agg #[.int .i64 s.p, u1, .int .i64 s.w, .int .i64 s.d, .int .i64 s.f, .int .i64 s.c, .int .i64 s.m, .int .i64 s.de, u8]] ⟨M, b2⟩ = some (.int .i64 (PV s), ⟨M + 1, b2⟩)) :
    LitEnd N p me bs (evFn (tabT Try.prog) call (L + 300) kpT 48 Try.f48 [.pointer (some ⟨p, 0, none⟩), .int .i64 (me : Int)] ⟨N, bs⟩) := by
  have kp := kpl
  have gc := gcl
  have hpN : p < N := hM.2 _ (lookB_mem hp)
  have n1 : ¬ p = N := by omega
  have n2 : ¬ p = N + 1 := by omega
  have hZ : MI ⟨N + 1, (N, .cells false [.int .i64 0, .slice none 0 0, .int .i64 0, .int .i64 0, .int .i64 0, .int .i64 0, .int .i64 0, .int .i64 0, .slice none 0 0]) :: bs⟩ := hM.push _
  have lk : ∀ y, lookB ((N, ABlk.cells false [.int .i64 0, .slice none 0 0, .int .i64 0, .int .i64 0, .int .i64 0, .int .i64 0, .int .i64 0, .int .i64 0, .slice none 0 0]) :: setB bs p (sB y)) p = some (sB y) := fun y => by
    simp only [lookB, beq_ne n1, Bool.false_eq_true, if_false]
    rw [lookB_setB, if_pos rfl, hp]; rfl
  have mk : ∀ y, MI ⟨N + 1, (N, .cells false [.int .i64 0, .slice none 0 0, .int .i64 0, .int .i64 0, .int .i64 0, .int .i64 0, .int .i64 0, .int .i64 0, .slice none 0 0]) :: setB bs p (sB y)⟩ := fun y => (hM.set p (sB y)).push _
  have up : ∀ y y', setB ((N, ABlk.cells false [.int .i64 0, .slice none 0 0, .int .i64 0, .int .i64 0, .int .i64 0, .int .i64 0, .int .i64 0, .int .i64 0, .slice none 0 0]) :: setB bs p (sB y)) p (sB y') = (N, ABlk.cells false [.int .i64 0, .slice none 0 0, .int .i64 0, .int .i64 0, .int .i64 0, .int .i64 0, .int .i64 0, .int .i64 0, .slice none 0 0]) :: setB bs p (sB y') := fun y y' => by
    simp only [setB, beq_ne n1, Bool.false_eq_true, if_false, setB_setB]
  have c1 : call (.func (.func 49) #[] #[]) [.pointer (some ⟨p, 0, none⟩), .int .i64 2, .int .i64 4] ⟨N + 1, (N, .cells false [.int .i64 0, .slice none 0 0, .int .i64 0, .int .i64 0, .int .i64 0, .int .i64 0, .int .i64 0, .int .i64 0, .slice none 0 0]) :: bs⟩ = some (.int .i64 (rngV x 2 4), ⟨N + 1, (N, .cells false [.int .i64 0, .slice none 0 0, .int .i64 0, .int .i64 0, .int .i64 0, .int .i64 0, .int .i64 0, .int .i64 0, .slice none 0 0]) :: setB bs p (sB (stB x))⟩) := by
    have := hS.ran (N + 1) ((N, .cells false [.int .i64 0, .slice none 0 0, .int .i64 0, .int .i64 0, .int .i64 0, .int .i64 0, .int .i64 0, .int .i64 0, .slice none 0 0]) :: bs) x 2 4 (by omega) (by omega) hZ (by simp only [lookB, beq_ne n1, Bool.false_eq_true, if_false]; exact hp)
    simp only [setB, beq_ne n1, Bool.false_eq_true, if_false] at this
    exact this
  have c2 : ∀ y, call (.func (.func 65) #[] #[]) [.pointer (some ⟨p, 0, none⟩), .int .i64 3] ⟨N + 1, (N, .cells false [.int .i64 0, .slice none 0 0, .int .i64 0, .int .i64 0, .int .i64 0, .int .i64 0, .int .i64 0, .int .i64 0, .slice none 0 0]) :: setB bs p (sB y)⟩ = some (.int .i64 (belV y 3), ⟨N + 1, (N, .cells false [.int .i64 0, .slice none 0 0, .int .i64 0, .int .i64 0, .int .i64 0, .int .i64 0, .int .i64 0, .int .i64 0, .slice none 0 0]) :: setB bs p (sB (stB y))⟩) := fun y => by
    have := hS.bel (N + 1) _ y 3 (by omega) (by omega) (mk y) (lk y)
    rw [up] at this
    exact this
  have c3 : ∀ y, call (.func (.func 65) #[] #[]) [.pointer (some ⟨p, 0, none⟩), .int .i64 2] ⟨N + 1, (N, .cells false [.int .i64 0, .slice none 0 0, .int .i64 0, .int .i64 0, .int .i64 0, .int .i64 0, .int .i64 0, .int .i64 0, .slice none 0 0]) :: setB bs p (sB y)⟩ = some (.int .i64 (belV y 2), ⟨N + 1, (N, .cells false [.int .i64 0, .slice none 0 0, .int .i64 0, .int .i64 0, .int .i64 0, .int .i64 0, .int .i64 0, .int .i64 0, .slice none 0 0]) :: setB bs p (sB (stB y))⟩) := fun y => by
    have := hS.bel (N + 1) _ y 2 (by omega) (by omega) (mk y) (lk y)
    rw [up] at this
    exact this
  have n3 : ¬ p = N + 2 := by omega
  have c4 : ∀ y, call (.func (.func 49) #[] #[]) [.pointer (some ⟨p, 0, none⟩), .int .i64 1, .int .i64 2] ⟨N + 2, (N + 1, .cells false [.int .i64 3, .slice none 0 0, .int .i64 (belV (bx 1 x) 3), .int .i64 (belV (bx 2 x) 3), .int .i64 (belV (bx 3 x) 2), .int .i64 (rngV x 2 4), .int .i64 (me : Int), .int .i64 (belV (bx 4 x) 3), .slice none 0 0]) :: (N, .cells false [.int .i64 0, .slice none 0 0, .int .i64 0, .int .i64 0, .int .i64 0, .int .i64 0, .int .i64 0, .int .i64 0, .slice none 0 0]) :: setB bs p (sB y)⟩ = some (.int .i64 (rngV y 1 2), ⟨N + 2, (N + 1, .cells false [.int .i64 3, .slice none 0 0, .int .i64 (belV (bx 1 x) 3), .int .i64 (belV (bx 2 x) 3), .int .i64 (belV (bx 3 x) 2), .int .i64 (rngV x 2 4), .int .i64 (me : Int), .int .i64 (belV (bx 4 x) 3), .slice none 0 0]) :: (N, .cells false [.int .i64 0, .slice none 0 0, .int .i64 0, .int .i64 0, .int .i64 0, .int .i64 0, .int .i64 0, .int .i64 0, .slice none 0 0]) :: setB bs p (sB (stB y))⟩) := fun y => by
    have := hS.ran (N + 2) ((N + 1, .cells false [.int .i64 3, .slice none 0 0, .int .i64 (belV (bx 1 x) 3), .int .i64 (belV (bx 2 x) 3), .int .i64 (belV (bx 3 x) 2), .int .i64 (rngV x 2 4), .int .i64 (me : Int), .int .i64 (belV (bx 4 x) 3), .slice none 0 0]) :: (N, .cells false [.int .i64 0, .slice none 0 0, .int .i64 0, .int .i64 0, .int .i64 0, .int .i64 0, .int .i64 0, .int .i64 0, .slice none 0 0]) :: setB bs p (sB y)) y 1 2 (by omega) (by omega) ((mk y).push _) (by
      simp only [lookB, beq_ne n2, Bool.false_eq_true, if_false]; exact lk y)
    simp only [setB, beq_ne n1, beq_ne n2, Bool.false_eq_true, if_false, setB_setB] at this
    exact this
  simp only [bx] at c4
  simp only [evFn, Try.f48]
  simp [ec_skip, ec_label, ek_reg, ek_draw, ek_seq, ec_cond, ek_block, ec_loop, ec_exit, ec_ret, ec_scope, ek_nil, ek_op, opK_some, regK_some, seqK_normal, seqK_exit, seqK_ret, blockK_normal, blockK_exit, blockK_ret, evOp, vOp, hOpB, hOpU, hOp, hOpT, aAppendG_tab, aWanted, aYielded, opd, putT, closedV, aBin, intOp, sameK, mapO, joinR, hasAddr, boundOf, pushB, aAlloc, Value.cells, lookB, setB, Nat.beq_eq, tm_n_set, tm_get_set, tm_of_n, tm_of_get, tm_tr_set, tm_tr_of, cellV, putF, appR_eq, takeR_eq, dropR_eq, setR_eq, getR_eq, ↓C75, ↓C76, ↓C77, ↓C79, ↓C17, ↓C18, ↓C22, ↓C71, FA24_0, FA24_1, FA24_2, FA24_3, FA24_4, FA24_5, FA24_6, FA24_7, FA24_8, LD3, LD4, LD22, LD27, LDr, LD24, LEN22, IA22, tkc, cellAt, ↓AL24, ↓Cran, ↓Crange, ↓Cbelow, c1, c2, c3, c4, ST24, BD24, partsO]
  generalize hr : evLoop _ _ _ _ = r
  obtain ⟨q1, q1e, q1h, q1b⟩ : ∃ q : Nat, rngV (stB (stB (stB (stB (stB x))))) 1 2 = (q : Int) ∧ 1 ≤ q ∧ q ≤ 2 := by
    have := rngV_bd (stB (stB (stB (stB (stB x))))) (lo := 1) (hi := 2) (by omega) (by omega)
    exact ⟨(rngV (stB (stB (stB (stB (stB x))))) 1 2).toNat, by omega, by omega, by omega⟩
  rw [q1e] at hr
  obtain ⟨y, A', H', rfl, rfl, s, x2, u1, hK, hB, hk0, hn1, hl, hmk, t0, t1, t4, t5⟩ := loop_go (Q := QL1 N p me bs q1) hr (IL1 N p me bs q1) q1 (by omega) (by
    have e0 := rngV_bd x (lo := 2) (hi := 4) (by omega) (by omega)
    have e1 := belV_bd (stB x) (n := 3) (by omega) (by omega)
    have e2 := belV_bd (stB (stB x)) (n := 3) (by omega) (by omega)
    have e3 := belV_bd (stB (stB (stB x))) (n := 2) (by omega) (by omega)
    have e4 := belV_bd (stB (stB (stB (stB x)))) (n := 3) (by omega) (by omega)
    refine ⟨⟨3, 0, fun _ => 0, belV (stB x) 3, belV (stB (stB x)) 3, belV (stB (stB (stB x))) 2, rngV x 2 4, me, belV (stB (stB (stB (stB x)))) 3, 0, fun _ => 0⟩, stB (stB (stB (stB (stB (stB x))))), .slice none 0 0, ⟨(mk _).push _, by show N + 1 < N + 2; omega, hpN, ?_, ?_, ?_, ?_, .inl ⟨rfl, rfl⟩, .inl ⟨rfl, rfl⟩, fun a b n k h => by cases h⟩, ⟨rfl, rfl, by show 2 ≤ rngV x 2 4 ∧ rngV x 2 4 ≤ 4; omega, by show 0 ≤ belV (stB x) 3 ∧ belV (stB x) 3 ≤ 4; omega, by show 0 ≤ belV (stB (stB x)) 3 ∧ belV (stB (stB x)) 3 ≤ 3; omega, by show 0 ≤ belV (stB (stB (stB x))) 2 ∧ belV (stB (stB (stB x))) 2 ≤ 1; omega, by show 0 ≤ belV (stB (stB (stB (stB x)))) 3 ∧ belV (stB (stB (stB (stB x)))) 3 ≤ 2; omega, fun i hi => by simp at hi, by show 0 ≤ 2; omega⟩, rfl, by show 0 + q1 = q1; omega, ⟨by simp [tm_n_set, tm_of_n], rfl, by simp [tm_get_set, tm_n_set, tm_of_n, tm_of_get], by simp [tm_get_set, tm_n_set, tm_of_n, tm_of_get], by simp [tm_get_set, tm_n_set, tm_of_n, tm_of_get], by simp [tm_get_set, tm_n_set, tm_of_n, tm_of_get]⟩, by simp [tm_get_set, tm_n_set, tm_of_n, tm_of_get]⟩
    · show lookB ((N + 1, _) :: _) p = _
      rw [lookB]
      simp only [beq_ne n2, Bool.false_eq_true, if_false]
      exact lk _
    · simp [lookB]
    · simp [lookB]
    · intro j hj hjp
      have a1 : ¬ j = N + 1 := by omega
      have a2 : ¬ j = N := by omega
      simp [lookB, Nat.beq_eq, a1, a2, lookB_setB, hjp]) (by
    clear hr
    rintro m A ⟨nx, b1⟩ ⟨s, x1, u1, hK, hB, hk0, him, ⟨hl, hmk, t0, t1, t4, t5⟩, t6⟩
    simp only [runC]
    cases m with
    | zero =>
      simp [ec_skip, ec_label, ek_reg, ek_draw, ek_seq, ec_cond, ek_block, ec_loop, ec_exit, ec_ret, ec_scope, ek_nil, ek_op, opK_some, regK_some, seqK_normal, seqK_exit, seqK_ret, blockK_normal, blockK_exit, blockK_ret, evOp, vOp, hOpB, hOpU, hOp, hOpT, aAppendG_tab, aWanted, aYielded, opd, putT, closedV, aBin, intOp, sameK, mapO, joinR, hasAddr, boundOf, pushB, aAlloc, Value.cells, lookB, setB, Nat.beq_eq, tm_n_set, tm_get_set, tm_of_n, tm_of_get, tm_tr_set, tm_tr_of, cellV, putF, appR_eq, takeR_eq, dropR_eq, setR_eq, getR_eq, ↓C75, ↓C76, ↓C77, ↓C79, ↓C17, ↓C18, ↓C22, ↓C71, FA24_0, FA24_1, FA24_2, FA24_3, FA24_4, FA24_5, FA24_6, FA24_7, FA24_8, LD3, LD4, LD22, LD27, LDr, LD24, LEN22, IA22, tkc, cellAt, hl, hmk, t0, t1, t4, t5, t6]
      exact .inr ⟨by simp, rfl, s, x1, u1, hK, hB, hk0, by omega, by simp [tm_n_set, hl], rfl, by simp [tm_get_set, tm_n_set, hl, t0], by simp [tm_get_set, tm_n_set, hl, t1], by simp [tm_get_set, tm_n_set, hl, t4], by simp [tm_get_set, tm_n_set, hl, t5]⟩
    | succ m =>
      have hw : wrapI .i64 (((m + 1 : Nat) : Int) - 1) = (m : Int) := by rw [wrapI_small (by omega) (by omega)]; omega
      have hpos : (0 : Int) < ((m + 1 : Nat) : Int) := by omega
      have hnn := hB.n
      have hnx : N + 1 < nx := hK.nx
      have hK2 := hK.step (y := stB x1)
      obtain ⟨bs2, hs, hb1, hb2, hap⟩ := hK2.app1 (by omega)
      obtain ⟨cs, hg, hgk, e, hK3⟩ := hap (rngV x1 3 5)
      have hrb := rngV_bd x1 (lo := 3) (hi := 5) (by omega) (by omega)
      have c5 : call (.func (.func 49) #[] #[]) [.pointer (some ⟨p, 0, none⟩), .int .i64 3, .int .i64 5] ⟨nx, b1⟩ = some (.int .i64 (rngV x1 3 5), ⟨nx, setB b1 p (sB (stB x1))⟩) := hS.ran nx b1 x1 3 5 (by omega) (by omega) hK.mi hK.src
      have L0 := hK.set
      have L1 := lookB_roB_cells _ _ _ _ hK.set hK.mi.1
      have L2 := lookB_roB_cells _ _ _ _ hK2.set hK2.mi.1
      have L3 := hb1.trans hK2.set
      have D1 := hK2.mi.1
      have D2 := (hK2.mi.push (.cells false [.int .i64 (rngV x1 3 5)])).1
      have ap1 := app_ro1 hK.mi u1
      have er := eqFL hK.l1
      have nle : ¬ nx + 1 ≤ nx := by omega
      have m1 : ¬ N + 1 = nx := by omega
      have m2 : ¬ N = nx := by omega
      have m3 : ¬ N + 1 = nx + 1 := by omega
      have nw := newOnes_ro b1 nx hK.mi.2
      simp only at e D1 D2 L2 hK3 L3 ap1 nw
      simp [ec_skip, ec_label, ek_reg, ek_draw, ek_seq, ec_cond, ek_block, ec_loop, ec_exit, ec_ret, ec_scope, ek_nil, ek_op, opK_some, regK_some, seqK_normal, seqK_exit, seqK_ret, blockK_normal, blockK_exit, blockK_ret, evOp, vOp, hOpB, hOpU, hOp, hOpT, aAppendG_tab, aWanted, aYielded, opd, putT, closedV, aBin, intOp, sameK, mapO, joinR, hasAddr, boundOf, pushB, aAlloc, Value.cells, lookB, setB, Nat.beq_eq, tm_n_set, tm_get_set, tm_of_n, tm_of_get, tm_tr_set, tm_tr_of, cellV, putF, appR_eq, takeR_eq, dropR_eq, setR_eq, getR_eq, ↓C75, ↓C76, ↓C77, ↓C79, ↓C17, ↓C18, ↓C22, ↓C71, FA24_0, FA24_1, FA24_2, FA24_3, FA24_4, FA24_5, FA24_6, FA24_7, FA24_8, LD3, LD4, LD22, LD27, LDr, LD24, LEN22, IA22, tkc, cellAt, hl, hmk, t0, t1, t4, t5, t6, hpos]
      generalize hX : evDrawX _ _ _ _ _ = X
      obtain ⟨tm, rfl, hn', z0, z1, z4, z5, z6⟩ := draw_any (H' := ⟨nx + 2, (nx + 1, .cells false cs) :: (nx, .cells false [.int .i64 (rngV x1 3 5)]) :: setB bs2 (N + 1) (.cells false [.int .i64 s.p, .slice (some ⟨nx + 1, 0, none⟩) (s.n + 1) 1, .int .i64 s.w, .int .i64 s.d, .int .i64 s.f, .int .i64 s.c, .int .i64 s.m, .int .i64 s.de, .slice none 0 0])⟩) (Pt := fun tm => tm.get 0 = .pointer (some ⟨p, 0, none⟩) ∧ tm.get 1 = .int .i64 (me : Int) ∧ tm.get 4 = .pointer (some ⟨N, 0, none⟩) ∧ tm.get 5 = .pointer (some ⟨N + 1, 0, none⟩) ∧ tm.get 6 = .int .i64 ((m + 1 : Nat) : Int)) hX (by kernel_rfl) hK.mi.1 (by
        clear hX
        generalize hMM : befs _ = M
        have o34 : ordB M 3 4 = true := by rw [← hMM]; kernel_rfl
        have o43 : ordB M 4 3 = true := by rw [← hMM]; kernel_rfl
        have o35 : ordB M 3 5 = true := by rw [← hMM]; kernel_rfl
        have o53 : ordB M 5 3 = true := by rw [← hMM]; kernel_rfl
        have o37 : ordB M 3 7 = true := by rw [← hMM]; kernel_rfl
        have o73 : ordB M 7 3 = true := by rw [← hMM]; kernel_rfl
        have o45 : ordB M 4 5 = true := by rw [← hMM]; kernel_rfl
        have o54 : ordB M 5 4 = true := by rw [← hMM]; kernel_rfl
        have o47 : ordB M 4 7 = true := by rw [← hMM]; kernel_rfl
        have o74 : ordB M 7 4 = true := by rw [← hMM]; kernel_rfl
        have o57 : ordB M 5 7 = true := by rw [← hMM]; kernel_rfl
        have o75 : ordB M 7 5 = true := by rw [← hMM]; kernel_rfl
        have o51 : ordB M 5 1 = true := by rw [← hMM]; kernel_rfl
        have o71 : ordB M 7 1 = true := by rw [← hMM]; kernel_rfl
        clear hMM
        simp [mapO, drRun, drOp, dr3, looks, guardT, tmpsOf, Op.operands, Call.operands, wantedR, gOf, finT, natMem, isNil, writesF, evOp, vOp, hOpB, hOpU, hOp, hOpT, aAppendG_tab, opd, closedV, aBin, intOp, sameK, opdO, boundOf, undef, lookB, Nat.beq_eq, tm_n_set, tm_get_set, tm_of_n, tm_of_get, tm_tr_set, tm_tr_of, b02, b12, b32, ↓G75, W75, ↓G76, W76, ↓G77, W77, ↓G79, W79, ↓G17, W17, ↓G18, W18, ↓G22, W22, ↓G71, W71, tv, all1, roB, roK, news, newOnes, decr, tkc, cellAt, LD3, LD4, LD22, LD27, LDr, LD24, LEN22, IA22, FA24_0, FA24_1, FA24_2, FA24_3, FA24_4, FA24_5, FA24_6, FA24_7, FA24_8, hasR, hasR_ro, aAppendG_tab, partsO, ↓Gran, Wran, BS22, APT22, pushB, ST22, hl, t0, t1, t4, t5, t6, c5, L0, L1, L2, L3, m1, m2, m3, ap1, e, nw, nle, er, wheap, Nat.ble_eq, Nat.blt_eq, putF, Value.cells, cellV]
        refine ⟨_, _, ⟨rfl, rfl⟩, ?_, ?_, ?_⟩
        · simp [dynOK, rdSame, evOp, vOp, hOpB, hOpU, hOp, hOpT, mapO, opd, gOf, natMem, finT, tm_get_set, tm_n_set, LD22, cellAt, roB, roK, lookB, L2, L3, D1, D2, er, o34, o43, o35, o53, o37, o73, o45, o54, o47, o74, o57, o75, o51, o71, b02, b12, b32, b03, b13, b23, m1, m2, m3, Nat.blt_eq, Nat.ble_eq, Nat.beq_eq, hl, hasR, hasR_ro]
        · simp [wheap, news, b02, b12, b32, Nat.beq_eq, all1, setB, setR_eq, m1, m2, m3]
        · simp [finT, tm_get_set, tm_n_set, hl, t0, t1, t4, t5, t6])
      clear hX
      simp [tm_n_set, hl] at hn'
      simp [ec_skip, ec_label, ek_reg, ek_draw, ek_seq, ec_cond, ek_block, ec_loop, ec_exit, ec_ret, ec_scope, ek_nil, ek_op, opK_some, regK_some, seqK_normal, seqK_exit, seqK_ret, blockK_normal, blockK_exit, blockK_ret, evOp, vOp, hOpB, hOpU, hOp, hOpT, aAppendG_tab, aWanted, aYielded, opd, putT, closedV, aBin, intOp, sameK, mapO, joinR, hasAddr, boundOf, pushB, aAlloc, Value.cells, lookB, setB, Nat.beq_eq, tm_n_set, tm_get_set, tm_of_n, tm_of_get, tm_tr_set, tm_tr_of, cellV, putF, appR_eq, takeR_eq, dropR_eq, setR_eq, getR_eq, ↓C75, ↓C76, ↓C77, ↓C79, ↓C17, ↓C18, ↓C22, ↓C71, FA24_0, FA24_1, FA24_2, FA24_3, FA24_4, FA24_5, FA24_6, FA24_7, FA24_8, LD3, LD4, LD22, LD27, LDr, LD24, LEN22, IA22, tkc, cellAt, hmk, hn', z0, z1, z4, z5, z6]
      have hw2 : wrapI .i64 (m : Int) = m := wrapI_small (by omega) (by omega)
      refine ⟨_, _, _, ⟨rfl, rfl, rfl⟩, .inl ⟨rfl, m, rfl, { s with n := s.n + 1, g := gi cs }, stB x1, _, hK3, ⟨hB.p, hB.m, hB.c, hB.w, hB.d, hB.f, hB.de, fun i hi => ?_, ?_⟩, hk0, ?_, ⟨by simp [tm_n_set, hn'], rfl, by simp [tm_get_set, tm_n_set, hn', z0], by simp [tm_get_set, tm_n_set, hn', z1], by simp [tm_get_set, tm_n_set, hn', z4], by simp [tm_get_set, tm_n_set, hn', z5]⟩, by simp [tm_get_set, tm_n_set, hn', hw2]⟩⟩
      · by_cases h : i < s.n
        · show 3 ≤ gi cs i ∧ gi cs i ≤ 5
          rw [hg i h]
          exact hB.g i h
        · have : i < s.n + 1 := hi
          have : i = s.n := by omega
          subst this
          show 3 ≤ gi cs s.n ∧ gi cs s.n ≤ 5
          rw [hgk]
          exact hrb
      · show s.n + 1 ≤ 2
        omega
      · show s.n + 1 + m = q1
        omega)
  have LS := hK.set
  have mb : (1 : Int) ≤ me ∧ (me : Int) ≤ 2 := by omega
  have hde := hB.de
  have hbc := hB.c
  have hbw := hB.w
  have hbd := hB.d
  have v1 : wrapI .i64 (3 * (me : Int)) = 3 * me := wrapI_small (by omega) (by omega)
  have v2 : wrapI .i64 (3 * (me : Int) + 1) = 3 * me + 1 := wrapI_small (by omega) (by omega)
  have v3 : wrapI .i64 (3 * (3 * (me : Int) + 1)) = 3 * (3 * me + 1) := wrapI_small (by omega) (by omega)
  have v4 : wrapI .i64 (3 * (3 * (me : Int) + 1) + 1) = 3 * (3 * me + 1) + 1 := wrapI_small (by omega) (by omega)
  have v5 : wrapI .i64 (3 * (3 * (me : Int) + 1) + 1 + s.de) = 3 * (3 * me + 1) + 1 + s.de := wrapI_small (by omega) (by omega)
  simp [ec_skip, ec_label, ek_reg, ek_draw, ek_seq, ec_cond, ek_block, ec_loop, ec_exit, ec_ret, ec_scope, ek_nil, ek_op, opK_some, regK_some, seqK_normal, seqK_exit, seqK_ret, blockK_normal, blockK_exit, blockK_ret, evOp, vOp, hOpB, hOpU, hOp, hOpT, aAppendG_tab, aWanted, aYielded, opd, putT, closedV, aBin, intOp, sameK, mapO, joinR, hasAddr, boundOf, pushB, aAlloc, Value.cells, lookB, setB, Nat.beq_eq, tm_n_set, tm_get_set, tm_of_n, tm_of_get, tm_tr_set, tm_tr_of, cellV, putF, appR_eq, takeR_eq, dropR_eq, setR_eq, getR_eq, ↓C75, ↓C76, ↓C77, ↓C79, ↓C17, ↓C18, ↓C22, ↓C71, FA24_0, FA24_1, FA24_2, FA24_3, FA24_4, FA24_5, FA24_6, FA24_7, FA24_8, LD3, LD4, LD22, LD27, LDr, LD24, LEN22, IA22, tkc, cellAt, hl, hmk, t0, t1, t4, t5, LS, hB.p, v1, v2, v3, v4, v5]
  generalize hr2 : evLoop _ _ _ _ = r2
  obtain ⟨y, A2, H2, rfl, rfl, s2, x3, u2, hK2, hB2, hk2, hn2, hNV, hle, hl, hmk, t0, t1, t4, t5⟩ := loop_go (Q := QL2 N p me bs q1 (3 * (3 * (me : Int) + 1) + 1 + s.de)) hr2 (IL2 N p me bs q1 (3 * (3 * (me : Int) + 1) + 1 + s.de)) ((4 - s.c) + (4 - s.w) + (3 - s.d)).toNat (by omega) ⟨s, x2, u1, hK, hB, hk0, hn1, rfl, by omega, ⟨by simp [tm_n_set, hl], by simp [hmk], by simp [tm_get_set, tm_n_set, hl, t0], by simp [tm_get_set, tm_n_set, hl, t1], by simp [tm_get_set, tm_n_set, hl, t4], by simp [tm_get_set, tm_n_set, hl, t5]⟩, by simp [tm_get_set, tm_n_set, hl]⟩ (by
    clear hr2
    rintro m A ⟨nx, b1⟩ ⟨s1, x1, u1, hK, hB, hk0, hn1, hNV, hm, ⟨hl, hmk, t0, t1, t4, t5⟩, t7⟩
    simp only [runC]
    obtain ⟨S, hPV, hS1, hS2⟩ := PV_bd hB (by omega)
    have hbc := hB.c
    have hbw := hB.w
    have hbd := hB.d
    have hbf := hB.f
    have hnx : N + 1 < nx := hK.nx
    have hpc : 0 ≤ PV s1 * s1.c ∧ PV s1 * s1.c ≤ 68 ∧ (4 ≤ s1.c → PV s1 * s1.c = 4 * PV s1) := by
      rcases (show s1.c = 2 ∨ s1.c = 3 ∨ s1.c = 4 by omega) with h | h | h <;> rw [h] <;> omega
    have w1 : wrapI .i64 (PV s1 * s1.c) = PV s1 * s1.c := wrapI_small (by omega) (by omega)
    have w2 : wrapI .i64 (PV s1 * s1.c + s1.f) = PV s1 * s1.c + s1.f := wrapI_small (by omega) (by omega)
    have L0 := hK.set
    have L1 := lookB_roB_cells _ _ _ _ hK.set hK.mi.1
    have cp := hPl nx (roB b1) s1 u1 (.slice none 0 0) hK.mi.ro (hK.l1.lst.ro hK.mi.1) (by omega)
    have nw := newOnes_ro b1 nx hK.mi.2
    have nw1 := newOnes_ro b1 (nx + 1) (fun q hq => Nat.lt_succ_of_lt (hK.mi.2 q hq))
    simp only at L0 L1 nw nw1
    simp [ec_skip, ec_label, ek_reg, ek_draw, ek_seq, ec_cond, ek_block, ec_loop, ec_exit, ec_ret, ec_scope, ek_nil, ek_op, opK_some, regK_some, seqK_normal, seqK_exit, seqK_ret, blockK_normal, blockK_exit, blockK_ret, evOp, vOp, hOpB, hOpU, hOp, hOpT, aAppendG_tab, aWanted, aYielded, opd, putT, closedV, aBin, intOp, sameK, mapO, joinR, hasAddr, boundOf, pushB, aAlloc, Value.cells, lookB, setB, Nat.beq_eq, tm_n_set, tm_get_set, tm_of_n, tm_of_get, tm_tr_set, tm_tr_of, cellV, putF, appR_eq, takeR_eq, dropR_eq, setR_eq, getR_eq, ↓C75, ↓C76, ↓C77, ↓C79, ↓C17, ↓C18, ↓C22, ↓C71, FA24_0, FA24_1, FA24_2, FA24_3, FA24_4, FA24_5, FA24_6, FA24_7, FA24_8, LD3, LD4, LD22, LD27, LDr, LD24, LEN22, IA22, tkc, cellAt, hl, hmk, t0, t1, t4, t5, t7]
    generalize hX : evDrawX _ _ _ _ _ = X
    obtain ⟨tm, rfl, hn', z0, z1, z4, z5, z7, z53⟩ := draw_any (H' := ⟨nx + 1, b1⟩) (Pt := fun tm => tm.get 0 = .pointer (some ⟨p, 0, none⟩) ∧ tm.get 1 = .int .i64 (me : Int) ∧ tm.get 4 = .pointer (some ⟨N, 0, none⟩) ∧ tm.get 5 = .pointer (some ⟨N + 1, 0, none⟩) ∧ tm.get 7 = .int .i64 (3 * (3 * (me : Int) + 1) + 1 + s.de) ∧ tm.get 53 = .bool (decide (PV s1 * s1.c + s1.f < 3 * (3 * (me : Int) + 1) + 1 + s.de))) hX (by kernel_rfl) hK.mi.1 (by
      clear hX
      generalize befs _ = M
      simp [mapO, drRun, drOp, dr3, looks, guardT, tmpsOf, Op.operands, Call.operands, wantedR, gOf, finT, natMem, isNil, writesF, evOp, vOp, hOpB, hOpU, hOp, hOpT, aAppendG_tab, opd, closedV, aBin, intOp, sameK, opdO, boundOf, undef, lookB, Nat.beq_eq, tm_n_set, tm_get_set, tm_of_n, tm_of_get, tm_tr_set, tm_tr_of, b02, b12, b32, ↓G75, W75, ↓G76, W76, ↓G77, W77, ↓G79, W79, ↓G17, W17, ↓G18, W18, ↓G22, W22, ↓G71, W71, tv, all1, roB, roK, news, newOnes, decr, tkc, cellAt, LD3, LD4, LD22, LD27, LDr, LD24, LEN22, IA22, FA24_0, FA24_1, FA24_2, FA24_3, FA24_4, FA24_5, FA24_6, FA24_7, FA24_8, hasR, hasR_ro, ↓Gpl, Wpl, hl, t0, t1, t4, t5, t7, cp, L0, L1, nw, nw1, wheap, Nat.ble_eq, Nat.blt_eq]
      refine ⟨_, _, ⟨rfl, rfl⟩, ?_, ?_, ?_⟩
      · simp [dynOK, b02, b12, b32, b03, b13, b23, Nat.blt_eq, Nat.beq_eq, hl]
      · simp [wheap, news, b02, b12, b32, Nat.beq_eq, all1]
      · simp [finT, tm_get_set, tm_n_set, hl, t0, t1, t4, t5, t7, w1, w2])
    clear hX
    simp [tm_n_set, hl] at hn'
    have hKu := hK.up (nx := nx + 1) (Nat.le_succ _)
    by_cases hlt : PV s1 * s1.c + s1.f < 3 * (3 * (me : Int) + 1) + 1 + s.de
    · have hz : tm.get 53 = .bool true := by rw [z53]; simp [hlt]
      by_cases hc : s1.c < 4
      · have hw1 : wrapI .i64 (s1.c + 1) = s1.c + 1 := wrapI_small (by omega) (by omega)
        obtain ⟨m, rfl⟩ : ∃ m', m = m' + 1 := ⟨m - 1, by omega⟩
        have hKp := hKu.put { s1 with c := s1.c + 1 } rfl rfl rfl rfl
        have hBp : LB me { s1 with c := s1.c + 1 } := ⟨hB.p, hB.m, by show 2 ≤ s1.c + 1 ∧ s1.c + 1 ≤ 4; omega, hB.w, hB.d, hB.f, hB.de, hB.g, hB.n⟩
        simp [ec_skip, ec_label, ek_reg, ek_draw, ek_seq, ec_cond, ek_block, ec_loop, ec_exit, ec_ret, ec_scope, ek_nil, ek_op, opK_some, regK_some, seqK_normal, seqK_exit, seqK_ret, blockK_normal, blockK_exit, blockK_ret, evOp, vOp, hOpB, hOpU, hOp, hOpT, aAppendG_tab, aWanted, aYielded, opd, putT, closedV, aBin, intOp, sameK, mapO, joinR, hasAddr, boundOf, pushB, aAlloc, Value.cells, lookB, setB, Nat.beq_eq, tm_n_set, tm_get_set, tm_of_n, tm_of_get, tm_tr_set, tm_tr_of, cellV, putF, appR_eq, takeR_eq, dropR_eq, setR_eq, getR_eq, ↓C75, ↓C76, ↓C77, ↓C79, ↓C17, ↓C18, ↓C22, ↓C71, FA24_0, FA24_1, FA24_2, FA24_3, FA24_4, FA24_5, FA24_6, FA24_7, FA24_8, LD3, LD4, LD22, LD27, LDr, LD24, LEN22, IA22, tkc, cellAt, hmk, hn', z0, z1, z4, z5, z7, hz, L0, STi, hw1, hc]
        refine ⟨_, _, _, ⟨rfl, rfl, rfl⟩, .inl ⟨rfl, m, rfl, { s1 with c := s1.c + 1 }, x1, u1, hKp, hBp, hk0, hn1, hNV, ?_, ⟨by simp [tm_n_set, hn'], rfl, by simp [tm_get_set, tm_n_set, hn', z0], by simp [tm_get_set, tm_n_set, hn', z1], by simp [tm_get_set, tm_n_set, hn', z4], by simp [tm_get_set, tm_n_set, hn', z5]⟩, by simp [tm_get_set, tm_n_set, hn', z7]⟩⟩
        show (4 - (s1.c + 1)) + (4 - s1.w) + (3 - s1.d) = (m : Int)
        omega
      · by_cases hw : s1.w < 4
        · have hw1 : wrapI .i64 (s1.w + 1) = s1.w + 1 := wrapI_small (by omega) (by omega)
          obtain ⟨m, rfl⟩ : ∃ m', m = m' + 1 := ⟨m - 1, by omega⟩
          have hKp := hKu.put { s1 with w := s1.w + 1 } rfl rfl rfl rfl
          have hBp : LB me { s1 with w := s1.w + 1 } := ⟨hB.p, hB.m, hB.c, by show 0 ≤ s1.w + 1 ∧ s1.w + 1 ≤ 4; omega, hB.d, hB.f, hB.de, hB.g, hB.n⟩
          simp [ec_skip, ec_label, ek_reg, ek_draw, ek_seq, ec_cond, ek_block, ec_loop, ec_exit, ec_ret, ec_scope, ek_nil, ek_op, opK_some, regK_some, seqK_normal, seqK_exit, seqK_ret, blockK_normal, blockK_exit, blockK_ret, evOp, vOp, hOpB, hOpU, hOp, hOpT, aAppendG_tab, aWanted, aYielded, opd, putT, closedV, aBin, intOp, sameK, mapO, joinR, hasAddr, boundOf, pushB, aAlloc, Value.cells, lookB, setB, Nat.beq_eq, tm_n_set, tm_get_set, tm_of_n, tm_of_get, tm_tr_set, tm_tr_of, cellV, putF, appR_eq, takeR_eq, dropR_eq, setR_eq, getR_eq, ↓C75, ↓C76, ↓C77, ↓C79, ↓C17, ↓C18, ↓C22, ↓C71, FA24_0, FA24_1, FA24_2, FA24_3, FA24_4, FA24_5, FA24_6, FA24_7, FA24_8, LD3, LD4, LD22, LD27, LDr, LD24, LEN22, IA22, tkc, cellAt, hmk, hn', z0, z1, z4, z5, z7, hz, L0, STi, hw1, hc, hw]
          refine ⟨_, _, _, ⟨rfl, rfl, rfl⟩, .inl ⟨rfl, m, rfl, { s1 with w := s1.w + 1 }, x1, u1, hKp, hBp, hk0, hn1, hNV, ?_, ⟨by simp [tm_n_set, hn'], rfl, by simp [tm_get_set, tm_n_set, hn', z0], by simp [tm_get_set, tm_n_set, hn', z1], by simp [tm_get_set, tm_n_set, hn', z4], by simp [tm_get_set, tm_n_set, hn', z5]⟩, by simp [tm_get_set, tm_n_set, hn', z7]⟩⟩
          show (4 - s1.c) + (4 - (s1.w + 1)) + (3 - s1.d) = (m : Int)
          omega
        · by_cases hd : s1.d < 3
          · have hw1 : wrapI .i64 (s1.d + 1) = s1.d + 1 := wrapI_small (by omega) (by omega)
            obtain ⟨m, rfl⟩ : ∃ m', m = m' + 1 := ⟨m - 1, by omega⟩
            have hKp := hKu.put { s1 with d := s1.d + 1 } rfl rfl rfl rfl
            have hBp : LB me { s1 with d := s1.d + 1 } := ⟨hB.p, hB.m, hB.c, hB.w, by show 0 ≤ s1.d + 1 ∧ s1.d + 1 ≤ 3; omega, hB.f, hB.de, hB.g, hB.n⟩
            simp [ec_skip, ec_label, ek_reg, ek_draw, ek_seq, ec_cond, ek_block, ec_loop, ec_exit, ec_ret, ec_scope, ek_nil, ek_op, opK_some, regK_some, seqK_normal, seqK_exit, seqK_ret, blockK_normal, blockK_exit, blockK_ret, evOp, vOp, hOpB, hOpU, hOp, hOpT, aAppendG_tab, aWanted, aYielded, opd, putT, closedV, aBin, intOp, sameK, mapO, joinR, hasAddr, boundOf, pushB, aAlloc, Value.cells, lookB, setB, Nat.beq_eq, tm_n_set, tm_get_set, tm_of_n, tm_of_get, tm_tr_set, tm_tr_of, cellV, putF, appR_eq, takeR_eq, dropR_eq, setR_eq, getR_eq, ↓C75, ↓C76, ↓C77, ↓C79, ↓C17, ↓C18, ↓C22, ↓C71, FA24_0, FA24_1, FA24_2, FA24_3, FA24_4, FA24_5, FA24_6, FA24_7, FA24_8, LD3, LD4, LD22, LD27, LDr, LD24, LEN22, IA22, tkc, cellAt, hmk, hn', z0, z1, z4, z5, z7, hz, L0, STi, hw1, hc, hw, hd]
            refine ⟨_, _, _, ⟨rfl, rfl, rfl⟩, .inl ⟨rfl, m, rfl, { s1 with d := s1.d + 1 }, x1, u1, hKp, hBp, hk0, hn1, hNV, ?_, ⟨by simp [tm_n_set, hn'], rfl, by simp [tm_get_set, tm_n_set, hn', z0], by simp [tm_get_set, tm_n_set, hn', z1], by simp [tm_get_set, tm_n_set, hn', z4], by simp [tm_get_set, tm_n_set, hn', z5]⟩, by simp [tm_get_set, tm_n_set, hn', z7]⟩⟩
            show (4 - s1.c) + (4 - s1.w) + (3 - (s1.d + 1)) = (m : Int)
            omega
          · exfalso
            have := hpc.2.2 (by omega)
            omega
    · have hz : tm.get 53 = .bool false := by rw [z53]; simp [hlt]
      simp [ec_skip, ec_label, ek_reg, ek_draw, ek_seq, ec_cond, ek_block, ec_loop, ec_exit, ec_ret, ec_scope, ek_nil, ek_op, opK_some, regK_some, seqK_normal, seqK_exit, seqK_ret, blockK_normal, blockK_exit, blockK_ret, evOp, vOp, hOpB, hOpU, hOp, hOpT, aAppendG_tab, aWanted, aYielded, opd, putT, closedV, aBin, intOp, sameK, mapO, joinR, hasAddr, boundOf, pushB, aAlloc, Value.cells, lookB, setB, Nat.beq_eq, tm_n_set, tm_get_set, tm_of_n, tm_of_get, tm_tr_set, tm_tr_of, cellV, putF, appR_eq, takeR_eq, dropR_eq, setR_eq, getR_eq, ↓C75, ↓C76, ↓C77, ↓C79, ↓C17, ↓C18, ↓C22, ↓C71, FA24_0, FA24_1, FA24_2, FA24_3, FA24_4, FA24_5, FA24_6, FA24_7, FA24_8, LD3, LD4, LD22, LD27, LDr, LD24, LEN22, IA22, tkc, cellAt, hmk, hn', z0, z1, z4, z5, z7, hz, L0]
      exact ⟨_, _, _, ⟨rfl, rfl, rfl⟩, .inr ⟨by simp, rfl, s1, x1, u1, hKu, hB, hk0, hn1, hNV, by omega, hn', rfl, z0, z1, z4, z5⟩⟩)
  simp [ec_skip, ec_label, ek_reg, ek_draw, ek_seq, ec_cond, ek_block, ec_loop, ec_exit, ec_ret, ec_scope, ek_nil, ek_op, opK_some, regK_some, seqK_normal, seqK_exit, seqK_ret, blockK_normal, blockK_exit, blockK_ret, evOp, vOp, hOpB, hOpU, hOp, hOpT, aAppendG_tab, aWanted, aYielded, opd, putT, closedV, aBin, intOp, sameK, mapO, joinR, hasAddr, boundOf, pushB, aAlloc, Value.cells, lookB, setB, Nat.beq_eq, tm_n_set, tm_get_set, tm_of_n, tm_of_get, tm_tr_set, tm_tr_of, cellV, putF, appR_eq, takeR_eq, dropR_eq, setR_eq, getR_eq, ↓C75, ↓C76, ↓C77, ↓C79, ↓C17, ↓C18, ↓C22, ↓C71, FA24_0, FA24_1, FA24_2, FA24_3, FA24_4, FA24_5, FA24_6, FA24_7, FA24_8, LD3, LD4, LD22, LD27, LDr, LD24, LEN22, IA22, tkc, cellAt, hl, hmk, t0, t1, t4, t5]
  generalize hr3 : evLoop _ _ _ _ = r3
  obtain ⟨P, hP, hPb⟩ : ∃ P : Nat, PV s2 = (P : Int) ∧ P ≤ 17 := by
    obtain ⟨S, h1, h2, h3⟩ := PV_bd hB2 (by omega)
    have := hB2.w
    have := hB2.d
    have := hB2.n
    exact ⟨(PV s2).toNat, by omega, by omega⟩
  obtain ⟨y, A3, H3, rfl, rfl, s3, x4, u3, v3', hK3, hB3, hR3, hn3, hP3, hNV3, hle3, hl, hmk, t0, t1, t4, t5⟩ := loop_go (Q := QL3 N p me bs q1 P (3 * (3 * (me : Int) + 1) + 1 + s.de)) hr3 (IL3 N p me bs q1 P (3 * (3 * (me : Int) + 1) + 1 + s.de)) P (by omega) ⟨s2, x3, u2, .slice none 0 0, 0, hK2, hB2, ⟨by omega, fun i hi => by omega, fun i hi => by omega⟩, hn2, hP, hNV, hle, by omega, ⟨by simp [tm_n_set, hl], by simp [hmk], by simp [tm_get_set, tm_n_set, hl, t0], by simp [tm_get_set, tm_n_set, hl, t1], by simp [tm_get_set, tm_n_set, hl, t4], by simp [tm_get_set, tm_n_set, hl, t5]⟩, by simp [tm_get_set, tm_n_set, hl]⟩ (by
    clear hr3
    rintro m A ⟨nx, b1⟩ ⟨s1, x1, u1, u8, j, hK, hB, hR, hn1, hP1, hNV1, hle1, hjm, ⟨hl, hmk, t0, t1, t4, t5⟩, t8⟩
    simp only [runC]
    obtain ⟨z, hz⟩ : ∃ z, z = nx + 1 := ⟨_, rfl⟩
    have hnx : N + 1 < nx := hK.nx
    have hKu : KL N p bs ⟨z, b1⟩ x1 s1 u1 u8 := hK.up (nx := z) (by show nx ≤ z; omega)
    have hrle := hR.le
    have hnn := hB.n
    have cp : call (.func (.func 24) #[] #[]) [.agg #[.int .i64 s1.p, u1, .int .i64 s1.w, .int .i64 s1.d, .int .i64 s1.f, .int .i64 s1.c, .int .i64 s1.m, .int .i64 s1.de, u8]] ⟨nx, b1⟩ = some (.int .i64 (P : Int), ⟨z, b1⟩) := by
      rw [hz, ← hP1]
      exact hPl nx b1 s1 u1 u8 hK.mi hK.l1.lst (by omega)
    have L0 := hK.set
    simp only at L0
    cases m with
    | zero =>
      have hj : ¬ (j : Int) < P := by omega
      have hjn : ¬ j < P := by omega
      obtain rfl : j = P := by omega
      simp [ec_skip, ec_label, ek_reg, ek_draw, ek_seq, ec_cond, ek_block, ec_loop, ec_exit, ec_ret, ec_scope, ek_nil, ek_op, opK_some, regK_some, seqK_normal, seqK_exit, seqK_ret, blockK_normal, blockK_exit, blockK_ret, evOp, vOp, hOpB, hOpU, hOp, hOpT, aAppendG_tab, aWanted, aYielded, opd, putT, closedV, aBin, intOp, sameK, mapO, joinR, hasAddr, boundOf, pushB, aAlloc, Value.cells, lookB, setB, Nat.beq_eq, tm_n_set, tm_get_set, tm_of_n, tm_of_get, tm_tr_set, tm_tr_of, cellV, putF, appR_eq, takeR_eq, dropR_eq, setR_eq, getR_eq, ↓C75, ↓C76, ↓C77, ↓C79, ↓C17, ↓C18, ↓C22, ↓C71, FA24_0, FA24_1, FA24_2, FA24_3, FA24_4, FA24_5, FA24_6, FA24_7, FA24_8, LD3, LD4, LD22, LD27, LDr, LD24, LEN22, IA22, tkc, cellAt, hl, hmk, t0, t1, t4, t5, t8, cp, L0, ↓Cplain, hj, hjn]
      exact .inr ⟨by simp, rfl, s1, x1, u1, u8, hKu, hB, hR, hn1, hP1, hNV1, hle1, by simp [tm_n_set, hl], rfl, by simp [tm_get_set, tm_n_set, hl, t0], by simp [tm_get_set, tm_n_set, hl, t1], by simp [tm_get_set, tm_n_set, hl, t4], by simp [tm_get_set, tm_n_set, hl, t5]⟩
    | succ m =>
      have hj : (j : Int) < P := by omega
      have hjn : j < P := by omega
      have hw : wrapI .i64 ((j : Int) + 1) = (j : Int) + 1 := wrapI_small (by omega) (by omega)
      have hKs := hKu.step (y := stB x1)
      have od : call (.func (.func 47) #[] #[]) [.pointer (some ⟨p, 0, none⟩), .int .i64 6] ⟨z, b1⟩ = some (.bool (oddV x1 6), ⟨z, setB b1 p (sB (stB x1))⟩) := hS.odd z b1 x1 6 (by omega) (by omega) hKu.mi hKu.src
      have L2 := hKs.set
      simp only at L2
      by_cases ho : oddV x1 6 = true
      · obtain ⟨bs2, hs, hb1, hb2, hap⟩ := hKs.app8 (by omega)
        obtain ⟨cs, hg, hgk, e, hK3⟩ := hap (j : Int)
        have L3 := hb1.trans hKs.set
        have m1 : ¬ N + 1 = z := by omega
        have m2 : ¬ N = z := by omega
        have m3 : ¬ N + 1 = z + 1 := by omega
        simp only at e L3 hK3
        simp [ec_skip, ec_label, ek_reg, ek_draw, ek_seq, ec_cond, ek_block, ec_loop, ec_exit, ec_ret, ec_scope, ek_nil, ek_op, opK_some, regK_some, seqK_normal, seqK_exit, seqK_ret, blockK_normal, blockK_exit, blockK_ret, evOp, vOp, hOpB, hOpU, hOp, hOpT, aAppendG_tab, aWanted, aYielded, opd, putT, closedV, aBin, intOp, sameK, mapO, joinR, hasAddr, boundOf, pushB, aAlloc, Value.cells, lookB, setB, Nat.beq_eq, tm_n_set, tm_get_set, tm_of_n, tm_of_get, tm_tr_set, tm_tr_of, cellV, putF, appR_eq, takeR_eq, dropR_eq, setR_eq, getR_eq, ↓C75, ↓C76, ↓C77, ↓C79, ↓C17, ↓C18, ↓C22, ↓C71, FA24_0, FA24_1, FA24_2, FA24_3, FA24_4, FA24_5, FA24_6, FA24_7, FA24_8, LD3, LD4, LD22, LD27, LDr, LD24, LEN22, IA22, tkc, cellAt, hl, hmk, t0, t1, t4, t5, t8, cp, L0, L2, L3, ↓Cplain, ↓Godd, hj, hjn, od, ho, BS22, APT22, e, ST22, m1, m2, m3, hw, partsO]
        exact .inl ⟨rfl, m, rfl, { s1 with k := s1.k + 1, h := gi cs }, stB x1, u1, _, j + 1, hK3, ⟨hB.p, hB.m, hB.c, hB.w, hB.d, hB.f, hB.de, hB.g, hB.n⟩, hR.app cs hg hgk, hn1, hP1, hNV1, hle1, by omega, ⟨by simp [tm_n_set, hl], by simp [hmk], by simp [tm_get_set, tm_n_set, hl, t0], by simp [tm_get_set, tm_n_set, hl, t1], by simp [tm_get_set, tm_n_set, hl, t4], by simp [tm_get_set, tm_n_set, hl, t5]⟩, by simp [tm_get_set, tm_n_set, hl]⟩
      · simp [ec_skip, ec_label, ek_reg, ek_draw, ek_seq, ec_cond, ek_block, ec_loop, ec_exit, ec_ret, ec_scope, ek_nil, ek_op, opK_some, regK_some, seqK_normal, seqK_exit, seqK_ret, blockK_normal, blockK_exit, blockK_ret, evOp, vOp, hOpB, hOpU, hOp, hOpT, aAppendG_tab, aWanted, aYielded, opd, putT, closedV, aBin, intOp, sameK, mapO, joinR, hasAddr, boundOf, pushB, aAlloc, Value.cells, lookB, setB, Nat.beq_eq, tm_n_set, tm_get_set, tm_of_n, tm_of_get, tm_tr_set, tm_tr_of, cellV, putF, appR_eq, takeR_eq, dropR_eq, setR_eq, getR_eq, ↓C75, ↓C76, ↓C77, ↓C79, ↓C17, ↓C18, ↓C22, ↓C71, FA24_0, FA24_1, FA24_2, FA24_3, FA24_4, FA24_5, FA24_6, FA24_7, FA24_8, LD3, LD4, LD22, LD27, LDr, LD24, LEN22, IA22, tkc, cellAt, hl, hmk, t0, t1, t4, t5, t8, cp, L0, L2, ↓Cplain, ↓Godd, hj, hjn, od, ho, hw]
        exact .inl ⟨rfl, m, rfl, s1, stB x1, u1, u8, j + 1, hKs, hB, hR.mono, hn1, hP1, hNV1, hle1, by omega, ⟨by simp [tm_n_set, hl], by simp [hmk], by simp [tm_get_set, tm_n_set, hl, t0], by simp [tm_get_set, tm_n_set, hl, t1], by simp [tm_get_set, tm_n_set, hl, t4], by simp [tm_get_set, tm_n_set, hl, t5]⟩, by simp [tm_get_set, tm_n_set, hl]⟩)
  have LS3 := hK3.set
  have LR3 := hK3.res
  have h1 := hK3.l1
  have h8 := hK3.l8
  rcases h1 with ⟨_, h⟩ | ⟨a3, cs3, rfl, g1, g2, g3, g4, g5, g6⟩
  · omega
  · rcases h8 with ⟨rfl, h8k⟩ | ⟨a8, cs8, rfl, f1, f2, f3, f4, f5, f6⟩
    · simp [ec_skip, ec_label, ek_reg, ek_draw, ek_seq, ec_cond, ek_block, ec_loop, ec_exit, ec_ret, ec_scope, ek_nil, ek_op, opK_some, regK_some, seqK_normal, seqK_exit, seqK_ret, blockK_normal, blockK_exit, blockK_ret, evOp, vOp, hOpB, hOpU, hOp, hOpT, aAppendG_tab, aWanted, aYielded, opd, putT, closedV, aBin, intOp, sameK, mapO, joinR, hasAddr, boundOf, pushB, aAlloc, Value.cells, lookB, setB, Nat.beq_eq, tm_n_set, tm_get_set, tm_of_n, tm_of_get, tm_tr_set, tm_tr_of, cellV, putF, appR_eq, takeR_eq, dropR_eq, setR_eq, getR_eq, ↓C75, ↓C76, ↓C77, ↓C79, ↓C17, ↓C18, ↓C22, ↓C71, FA24_0, FA24_1, FA24_2, FA24_3, FA24_4, FA24_5, FA24_6, FA24_7, FA24_8, LD3, LD4, LD22, LD27, LDr, LD24, LEN22, IA22, tkc, cellAt, hl, hmk, t0, t1, t4, t5, LS3, LR3, ST24, finF, takeM, resV, cleanedG, kp, gc, lookB_setB]
      exact lit_end hK3 hB3 hR3 hP3 (by omega) (by omega) _
    · simp [ec_skip, ec_label, ek_reg, ek_draw, ek_seq, ec_cond, ek_block, ec_loop, ec_exit, ec_ret, ec_scope, ek_nil, ek_op, opK_some, regK_some, seqK_normal, seqK_exit, seqK_ret, blockK_normal, blockK_exit, blockK_ret, evOp, vOp, hOpB, hOpU, hOp, hOpT, aAppendG_tab, aWanted, aYielded, opd, putT, closedV, aBin, intOp, sameK, mapO, joinR, hasAddr, boundOf, pushB, aAlloc, Value.cells, lookB, setB, Nat.beq_eq, tm_n_set, tm_get_set, tm_of_n, tm_of_get, tm_tr_set, tm_tr_of, cellV, putF, appR_eq, takeR_eq, dropR_eq, setR_eq, getR_eq, ↓C75, ↓C76, ↓C77, ↓C79, ↓C17, ↓C18, ↓C22, ↓C71, FA24_0, FA24_1, FA24_2, FA24_3, FA24_4, FA24_5, FA24_6, FA24_7, FA24_8, LD3, LD4, LD22, LD27, LDr, LD24, LEN22, IA22, tkc, cellAt, hl, hmk, t0, t1, t4, t5, LS3, LR3, ST24, finF, takeM, resV, cleanedG, kp, gc, lookB_setB]
      exact lit_end hK3 hB3 hR3 hP3 (by omega) (by omega) _

end Go.Proofs.Ytdbpemmhkfbegaa
