/-
  What is proved: the small sets that the source makes: suits. the sets that the source makes, and that they are valid. calls of the laws over sets that are made of numbers; what sparrowkit.In answers for a list in cells. the two loops of the law on bags: each kind is there as often as the set says, and the red faces are counted. the body of the law on bags, by what its calls answer. the opening of the laws over sets that are made of numbers: which memory there is behind NewSource and SetOf, for any known answers of other calls. the law's body ends with true for every list of numbers, every seed and every place. a list of pairs of integers, as a row's argument reads it, is related to a known list of cells (nothing of the program). a list of integers of any length, as a row's argument reads it, is related to a known list of cells (nothing of the program).
-/
import Derived.Test.YtjginpeoblilpaaLaw2g1
import Derived.Test.YtjginpeoblilpaaLaw2g2
import Derived.Test.YtjginpeoblilpaaM1j
import Derived.Test.YtjginpeoblilpaaLaw2g0
import Derived.OpenShut
import Derived.HandedShaped
namespace Go.Proofs.Ytjginpeoblilpaa
open Go.RowKit
set_option linter.unusedSimpArgs false
set_option linter.unusedVariables false

section
set_option linter.unusedSimpArgs false
set_option linter.unusedVariables false

theorem kpl : kpT 78 = false := by kernel_rfl
theorem gcl : gcT 78 = false := by kernel_rfl
theorem Nplain : ((tabT Try.prog) 24).map (fun z => (z.ex.nat 43, z.ex.mnz 43)) = some (none, none) := by kernel_rfl
theorem Cplain (call : Value → List Value → AH → Option (Value × AH)) {tm : Tm} {i : Nat} {H : AH} {d : Option Tmp} {t : TypeId} {p : String} {a : Array Edge} {gd : Option (Nat × Bool)} : evOp (tabT Try.prog) call ⟨d, .call ⟨.value (.func 43), #[.tmp i], #[24]⟩, t, p, a, gd⟩ (opd tm) H = call (.func (.func 43) #[] #[]) [tm.get i] H :=
  evOp_evO.trans (eo_call1 rfl rfl Nplain)
theorem AL24 {call : Value → List Value → AH → Option (Value × AH)} {g : Operand → Option Value} {H : AH} {d : Option Tmp} {t : TypeId} {p : String} {a : Array Edge} {gd : Option (Nat × Bool)} : evOp (tabT Try.prog) call ⟨d, .alloc 24, t, p, a, gd⟩ g H = some (.pointer (some ⟨H.next, 0, none⟩), ⟨H.next + 1, (H.next, .cells false [.int .i64 0, .slice none 0 0, .int .i64 0, .int .i64 0, .int .i64 0, .int .i64 0, .int .i64 0, .int .i64 0, .slice none 0 0]) :: H.bs⟩) :=
  evOp_evO.trans (eo_alloc (cs := [.int .i64 0, .slice none 0 0, .int .i64 0, .int .i64 0, .int .i64 0, .int .i64 0, .int .i64 0, .int .i64 0, .slice none 0 0]) (by kernel_rfl))
theorem ST24 (H : AH) (i off : Nat) (v : Value) : aStore (tabT Try.prog) H 24 (.pointer (some ⟨i, off, none⟩)) v = match lookB H.bs i with
    | some (.cells false cs) => if Nat.beq v.cells.toList.length 9 && Nat.ble (off + v.cells.toList.length) cs.length && v.cells.toList.all cellV then some { H with bs := setB H.bs i (.cells false (putF cs off v.cells.toList)) } else none
    | _ => none := sti (by kernel_rfl) H i off v
theorem ST22 (H : AH) (i off : Nat) (v : Value) : aStore (tabT Try.prog) H 22 (.pointer (some ⟨i, off, none⟩)) v = match lookB H.bs i with
    | some (.cells false cs) => if Nat.beq v.cells.toList.length 1 && Nat.ble (off + v.cells.toList.length) cs.length && v.cells.toList.all cellV then some { H with bs := setB H.bs i (.cells false (putF cs off v.cells.toList)) } else none
    | _ => none := sti (by kernel_rfl) H i off v
theorem STi (H : AH) (i off : Nat) (v : Value) : aStore (tabT Try.prog) H 3 (.pointer (some ⟨i, off, none⟩)) v = match lookB H.bs i with
    | some (.cells false cs) => if Nat.beq v.cells.toList.length 1 && Nat.ble (off + v.cells.toList.length) cs.length && v.cells.toList.all cellV then some { H with bs := setB H.bs i (.cells false (putF cs off v.cells.toList)) } else none
    | _ => none := sti (by kernel_rfl) H i off v
theorem BD24 (m c w d f de : Int) : aBuild (tabT Try.prog) 24 [(0, .int .i64 3), (6, .int .i64 m), (5, .int .i64 c), (2, .int .i64 w), (3, .int .i64 d), (4, .int .i64 f), (7, .int .i64 de)] = some (.agg #[.int .i64 3, .slice none 0 0, .int .i64 w, .int .i64 d, .int .i64 f, .int .i64 c, .int .i64 m, .int .i64 de, .slice none 0 0]) := by kernel_rfl
theorem Gran (call : Value → List Value → AH → Option (Value × AH)) {tm : Tm} {rs : List DR} {ts : List Nat} {k : Nat} {x y : Int} {H : AH} {d : Option Tmp} {t : TypeId} {p : String} {a : Array Edge} {gd : Option (Nat × Bool)} (h : natMem ts k = true) : evOp (tabT Try.prog) call ⟨d, .call ⟨.value (.func 79), #[.tmp k, .const (.int .i64 x), .const (.int .i64 y)], #[50, 3, 3]⟩, t, p, a, gd⟩ (gOf tm rs ts) H = call (.func (.func 79) #[] #[]) [(finT tm rs).get k, .int .i64 x, .int .i64 y] H :=
  evOp_evO.trans (eo_call3 rfl (by simp only [gOf, h, if_true]) rfl rfl)
theorem Cran (call : Value → List Value → AH → Option (Value × AH)) {tm : Tm} {k : Nat} {x y : Int} {H : AH} {d : Option Tmp} {t : TypeId} {p : String} {a : Array Edge} {gd : Option (Nat × Bool)} : evOp (tabT Try.prog) call ⟨d, .call ⟨.value (.func 79), #[.tmp k, .const (.int .i64 x), .const (.int .i64 y)], #[50, 3, 3]⟩, t, p, a, gd⟩ (opd tm) H = call (.func (.func 79) #[] #[]) [tm.get k, .int .i64 x, .int .i64 y] H :=
  evOp_evO.trans (eo_call3 rfl rfl rfl rfl)
theorem Wran : wrT 79 = true := by kernel_rfl
theorem app_ro1 {nx : Nat} {b1 : List (Nat × ABlk)} (hM : MI ⟨nx, b1⟩) (v : Value) : aAppend (tabT Try.prog) ⟨nx + 1, roB b1⟩ 22 v (.slice (some ⟨nx, 0, none⟩) 1 1) = none := by
  have h := look_none b1 nx hM.2
  rw [AP22]
  simp only [sliceLen, srcCells, h]
  split <;> simp_all
/-- What calls of the source answer. -/
structure SrcOK (call : Value → List Value → AH → Option (Value × AH)) (p : Nat) : Prop where
  bel : ∀ (N : Nat) (bs : List (Nat × ABlk)) (x : Int) (n : Nat), 1 ≤ n → n ≤ 1000 → MI ⟨N, bs⟩ → lookB bs p = some (sB x) → call (.func (.func 95) #[] #[]) [.pointer (some ⟨p, 0, none⟩), .int .i64 (n : Int)] ⟨N, bs⟩ = some (.int .i64 (belV x n), ⟨N, setB bs p (sB (stB x))⟩)
  ran : ∀ (N : Nat) (bs : List (Nat × ABlk)) (x : Int) (lo hi : Nat), lo ≤ hi → hi ≤ 900 → MI ⟨N, bs⟩ → lookB bs p = some (sB x) → call (.func (.func 79) #[] #[]) [.pointer (some ⟨p, 0, none⟩), .int .i64 (lo : Int), .int .i64 (hi : Int)] ⟨N, bs⟩ = some (.int .i64 (rngV x lo hi), ⟨N, setB bs p (sB (stB x))⟩)
  odd : ∀ (N : Nat) (bs : List (Nat × ABlk)) (x : Int) (n : Nat), 1 ≤ n → n ≤ 1000 → MI ⟨N, bs⟩ → lookB bs p = some (sB x) → call (.func (.func 77) #[] #[]) [.pointer (some ⟨p, 0, none⟩), .int .i64 (n : Int)] ⟨N, bs⟩ = some (.bool (oddV x n), ⟨N, setB bs p (sB (stB x))⟩)
noncomputable def bx (k : Nat) (x : Int) : Int := match k with | 0 => x | k + 1 => bx k (stB x)
theorem eqFL {lo n : Nat} {H : AH} {u : Value} {g : Nat → Int} (h : FL lo H u n g) : eqR 5 u u = true := by
  rcases h with ⟨rfl, rfl⟩ | ⟨a, cs, rfl, _⟩
  · rfl
  · simp [eqR]
/-- A small set while it is made. -/
structure LB (me : Int) (s : SV) : Prop where
  p : s.p = 3
  m : s.m = me
  c : 2 ≤ s.c ∧ s.c ≤ 4
  w : 0 ≤ s.w ∧ s.w ≤ 4
  d : 0 ≤ s.d ∧ s.d ≤ 3
  f : 0 ≤ s.f ∧ s.f ≤ 1
  de : 0 ≤ s.de ∧ s.de ≤ 2
  g : ∀ i, i < s.n → 3 ≤ s.g i ∧ s.g i ≤ 5
  n : s.n ≤ 2
/-- The temporaries that stay. -/
def TL (N p : Nat) (me : Int) (A : AF) : Prop := A.tm.n = 98 ∧ A.marks = [] ∧ A.tm.get 0 = .pointer (some ⟨p, 0, none⟩) ∧ A.tm.get 1 = .int .i64 me ∧ A.tm.get 4 = .pointer (some ⟨N, 0, none⟩) ∧ A.tm.get 5 = .pointer (some ⟨N + 1, 0, none⟩)
def IL1 (N p : Nat) (me : Int) (bs : List (Nat × ABlk)) (k : Nat) (m : Nat) (A : AF) (H : AH) : Prop := ∃ (s : SV) (x : Int) (u1 : Value), KL N p bs H x s u1 (.slice none 0 0) ∧ LB me s ∧ s.k = 0 ∧ s.n + m = k ∧ TL N p me A ∧ A.tm.get 6 = .int .i64 (m : Int)
def QL1 (N p : Nat) (me : Int) (bs : List (Nat × ABlk)) (k : Nat) (y : AX) (A : AF) (H : AH) : Prop := y = .exit 0 ∧ ∃ (s : SV) (x : Int) (u1 : Value), KL N p bs H x s u1 (.slice none 0 0) ∧ LB me s ∧ s.k = 0 ∧ s.n = k ∧ TL N p me A
noncomputable def PV (s : SV) : Int := wrapI .i64 (wrapI .i64 (sumG s.g s.n 0 0 + s.w) + s.d)
theorem PV_bd {me : Int} {s : SV} (hB : LB me s) (h1 : 1 ≤ s.n) : ∃ S : Int, PV s = S + s.w + s.d ∧ 3 * s.n ≤ S ∧ S ≤ 5 * s.n := by
  have hn := hB.n
  have g0 := hB.g 0 (by omega)
  have hw := hB.w
  have hd := hB.d
  rcases (show s.n = 1 ∨ s.n = 2 by omega) with h | h
  · refine ⟨s.g 0, ?_, by omega, by omega⟩
    unfold PV
    rw [h]
    simp only [sumG]
    have a1 : wrapI .i64 (0 + s.g 0) = s.g 0 := (wrapI_small (by omega) (by omega)).trans (by omega)
    have a2 : wrapI .i64 (s.g 0 + s.w) = s.g 0 + s.w := wrapI_small (by omega) (by omega)
    have a3 : wrapI .i64 (s.g 0 + s.w + s.d) = s.g 0 + s.w + s.d := wrapI_small (by omega) (by omega)
    rw [a1, a2, a3]
  · have g1 := hB.g 1 (by omega)
    refine ⟨s.g 0 + s.g 1, ?_, by omega, by omega⟩
    unfold PV
    rw [h]
    simp only [sumG]
    have a1 : wrapI .i64 (0 + s.g 0) = s.g 0 := (wrapI_small (by omega) (by omega)).trans (by omega)
    have a4 : wrapI .i64 (s.g 0 + s.g (0 + 1)) = s.g 0 + s.g 1 := (wrapI_small (by simp only [Nat.zero_add]; omega) (by simp only [Nat.zero_add]; omega)).trans (by simp)
    have a2 : wrapI .i64 (s.g 0 + s.g 1 + s.w) = s.g 0 + s.g 1 + s.w := wrapI_small (by omega) (by omega)
    have a3 : wrapI .i64 (s.g 0 + s.g 1 + s.w + s.d) = s.g 0 + s.g 1 + s.w + s.d := wrapI_small (by omega) (by omega)
    rw [a1, a4, a2, a3]
theorem Gpl (call : Value → List Value → AH → Option (Value × AH)) {tm : Tm} {rs : List DR} {ts : List Nat} {k : Nat} {H : AH} {d : Option Tmp} {t : TypeId} {p : String} {a : Array Edge} {gd : Option (Nat × Bool)} (h : natMem ts k = true) : evOp (tabT Try.prog) call ⟨d, .call ⟨.value (.func 43), #[.tmp k], #[24]⟩, t, p, a, gd⟩ (gOf tm rs ts) H = call (.func (.func 43) #[] #[]) [(finT tm rs).get k] H :=
  evOp_evO.trans (eo_call1 rfl (by simp only [gOf, h, if_true]) Nplain)
theorem Wpl : wrT 43 = false := by kernel_rfl
def IL2 (N p : Nat) (me : Int) (bs : List (Nat × ABlk)) (k : Nat) (NV : Int) (m : Nat) (A : AF) (H : AH) : Prop := ∃ (s : SV) (x : Int) (u1 : Value), KL N p bs H x s u1 (.slice none 0 0) ∧ LB me s ∧ s.k = 0 ∧ s.n = k ∧ NV = 3 * (3 * me + 1) + 1 + s.de ∧ (4 - s.c) + (4 - s.w) + (3 - s.d) = (m : Int) ∧ TL N p me A ∧ A.tm.get 7 = .int .i64 NV
def QL2 (N p : Nat) (me : Int) (bs : List (Nat × ABlk)) (k : Nat) (NV : Int) (y : AX) (A : AF) (H : AH) : Prop := y = .exit 2 ∧ ∃ (s : SV) (x : Int) (u1 : Value), KL N p bs H x s u1 (.slice none 0 0) ∧ LB me s ∧ s.k = 0 ∧ s.n = k ∧ NV = 3 * (3 * me + 1) + 1 + s.de ∧ NV ≤ PV s * s.c + s.f ∧ TL N p me A
theorem Godd (call : Value → List Value → AH → Option (Value × AH)) {tm : Tm} {k : Nat} {y : Int} {H : AH} {d : Option Tmp} {t : TypeId} {p : String} {a : Array Edge} {gd : Option (Nat × Bool)} : evOp (tabT Try.prog) call ⟨d, .call ⟨.value (.func 77), #[.tmp k, .const (.int .i64 y)], #[50, 3]⟩, t, p, a, gd⟩ (opd tm) H = call (.func (.func 77) #[] #[]) [tm.get k, .int .i64 y] H :=
  evOp_evO.trans (eo_call2n rfl rfl rfl Nodds)
/-- The reds of a small set. -/
structure RD (s : SV) (j : Nat) : Prop where
  le : s.k ≤ j
  bd : ∀ i, i < s.k → 0 ≤ s.h i ∧ s.h i < j
  up : ∀ i, i + 1 < s.k → s.h i < s.h (i + 1)
theorem RD.app {s : SV} {j : Nat} (h : RD s j) (cs : List Value) (hg : ∀ i, i < s.k → gi cs i = s.h i) (hk : gi cs s.k = (j : Int)) : RD { s with k := s.k + 1, h := gi cs } (j + 1) := by
  refine ⟨Nat.succ_le_succ h.le, fun i hi => ?_, fun i hi => ?_⟩
  · have hi' : i < s.k + 1 := hi
    show 0 ≤ gi cs i ∧ gi cs i < ((j + 1 : Nat) : Int)
    by_cases hlt : i < s.k
    · rw [hg i hlt]; have := h.bd i hlt; omega
    · obtain rfl : i = s.k := by omega
      rw [hk]; omega
  · have hi' : i + 1 < s.k + 1 := hi
    show gi cs i < gi cs (i + 1)
    by_cases hlt : i + 1 < s.k
    · rw [hg i (by omega), hg (i + 1) hlt]; exact h.up i hlt
    · obtain e : i + 1 = s.k := by omega
      rw [e, hk, hg i (by omega)]
      exact (h.bd i (by omega)).2
theorem RD.mono {s : SV} {j : Nat} (h : RD s j) : RD s (j + 1) :=
  ⟨Nat.le_succ_of_le h.le, fun i hi => by have := h.bd i hi; omega, h.up⟩
def IL3 (N p : Nat) (me : Int) (bs : List (Nat × ABlk)) (k P : Nat) (NV : Int) (m : Nat) (A : AF) (H : AH) : Prop := ∃ (s : SV) (x : Int) (u1 u8 : Value) (j : Nat), KL N p bs H x s u1 u8 ∧ LB me s ∧ RD s j ∧ s.n = k ∧ PV s = (P : Int) ∧ NV = 3 * (3 * me + 1) + 1 + s.de ∧ NV ≤ PV s * s.c + s.f ∧ j + m = P ∧ TL N p me A ∧ A.tm.get 8 = .int .i64 (j : Int)
def QL3 (N p : Nat) (me : Int) (bs : List (Nat × ABlk)) (k P : Nat) (NV : Int) (y : AX) (A : AF) (H : AH) : Prop := y = .exit 5 ∧ ∃ (s : SV) (x : Int) (u1 u8 : Value), KL N p bs H x s u1 u8 ∧ LB me s ∧ RD s P ∧ s.n = k ∧ PV s = (P : Int) ∧ NV = 3 * (3 * me + 1) + 1 + s.de ∧ NV ≤ PV s * s.c + s.f ∧ TL N p me A
/-- What a small set of the source leaves. -/
def LitEnd (N p : Nat) (me : Int) (bs : List (Nat × ABlk)) (r : Option (Value × AH)) : Prop := ∃ (s : SV) (x : Int) (u1 u8 : Value) (P : Nat) (H' : AH), r = some (.agg #[.int .i64 s.p, u1, .int .i64 s.w, .int .i64 s.d, .int .i64 s.f, .int .i64 s.c, .int .i64 s.m, .int .i64 s.de, u8], H') ∧ MI H' ∧ N ≤ H'.next ∧ lookB H'.bs p = some (sB x) ∧ (∀ j, j < N → j ≠ p → lookB H'.bs j = lookB bs j) ∧ FL N H' u1 s.n s.g ∧ FL N H' u8 s.k s.h ∧ LB me s ∧ RD s P ∧ PV s = (P : Int) ∧ 1 ≤ s.n ∧ 3 * (3 * me + 1) + 1 + s.de ≤ PV s * s.c + s.f
theorem FL.weak {lo lo' n : Nat} {H : AH} {u : Value} {g : Nat → Int} (h : FL lo H u n g) (hl : lo' ≤ lo) : FL lo' H u n g := by
  rcases h with h | ⟨a, cs, h1, h2, h3⟩
  · exact .inl h
  · exact .inr ⟨a, cs, h1, by omega, h3⟩
theorem lit_end {N p : Nat} {me : Int} {bs : List (Nat × ABlk)} {H : AH} {x : Int} {s : SV} {u1 u8 : Value} {P : Nat} (h : KL N p bs H x s u1 u8) (hB : LB me s) (hR : RD s P) (hP : PV s = (P : Int)) (hn : 1 ≤ s.n) (hle : 3 * (3 * me + 1) + 1 + s.de ≤ PV s * s.c + s.f) (v : ABlk) : LitEnd N p me bs (some (.agg #[.int .i64 s.p, u1, .int .i64 s.w, .int .i64 s.d, .int .i64 s.f, .int .i64 s.c, .int .i64 s.m, .int .i64 s.de, u8], ⟨H.next, setB H.bs N v⟩)) := by
  have hp := h.pn
  have hx := h.nx
  have e : ∀ j, j ≠ N → lookB (setB H.bs N v) j = lookB H.bs j := fun j hj => by rw [lookB_setB, if_neg hj]
  have f1 : FL (N + 1) ⟨H.next, setB H.bs N v⟩ u1 s.n s.g := h.l1.mono (Nat.le_refl _) fun a _ h2 _ => e a (by omega)
  have f8 : FL (N + 1) ⟨H.next, setB H.bs N v⟩ u8 s.k s.h := h.l8.mono (Nat.le_refl _) fun a _ h2 _ => e a (by omega)
  exact ⟨s, x, u1, u8, P, _, rfl, h.mi.set _ _, by show N ≤ H.next; omega, (e p (by omega)).trans h.src, fun j h1 h2 => (e j (by omega)).trans (h.old j h1 h2), f1.weak (by omega), f8.weak (by omega), hB, hR, hP, hn, hle⟩
set_option maxRecDepth 10000 in
set_option maxHeartbeats 8000000 in
theorem little_ev {L : Nat} (call : Value → List Value → AH → Option (Value × AH)) (p N : Nat) (bs : List (Nat × ABlk)) (x : Int) (me : Nat) (hme : me = 1 ∨ me = 2) (hM : MI ⟨N, bs⟩) (hp : lookB bs p = some (sB x)) (hS : SrcOK call p) (hPl : ∀ (M : Nat) (b2 : List (Nat × ABlk)) (s : SV) (u1 u8 : Value), MI ⟨M, b2⟩ → Lst b2 u1 s.n s.g → s.n ≤ 200 → call (.func (.func 43) #[] #[]) [.agg #[.int .i64 s.p, u1, .int .i64 s.w, .int .i64 s.d, .int .i64 s.f, .int .i64 s.c, .int .i64 s.m, .int .i64 s.de, u8]] ⟨M, b2⟩ = some (.int .i64 (PV s), ⟨M + 1, b2⟩)) :
    LitEnd N p me bs (evFn (tabT Try.prog) call (L + 300) kpT 78 Try.f78 [.pointer (some ⟨p, 0, none⟩), .int .i64 (me : Int)] ⟨N, bs⟩) := by
  have kp := kpl
  have gc := gcl
  have hpN : p < N := hM.2 _ (lookB_mem hp)
  have n1 : ¬ p = N := by omega
  have n2 : ¬ p = N + 1 := by omega
  have hZ : MI ⟨N + 1, (N, .cells false [.int .i64 0, .slice none 0 0, .int .i64 0, .int .i64 0, .int .i64 0, .int .i64 0, .int .i64 0, .int .i64 0, .slice none 0 0]) :: bs⟩ := hM.push _
  have lk : ∀ y, lookB ((N, ABlk.cells false [.int .i64 0, .slice none 0 0, .int .i64 0, .int .i64 0, .int .i64 0, .int .i64 0, .int .i64 0, .int .i64 0, .slice none 0 0]) :: setB bs p (sB y)) p = some (sB y) := fun y => by
    simp only [lookB, beq_ne n1, Bool.false_eq_true, if_false]
    rw [lookB_setB, if_pos rfl, hp]; rfl
  have mk : ∀ y, MI ⟨N + 1, (N, .cells false [.int .i64 0, .slice none 0 0, .int .i64 0, .int .i64 0, .int .i64 0, .int .i64 0, .int .i64 0, .int .i64 0, .slice none 0 0]) :: setB bs p (sB y)⟩ := fun y => (hM.set p (sB y)).push _
  have up : ∀ y y', setB ((N, ABlk.cells false [.int .i64 0, .slice none 0 0, .int .i64 0, .int .i64 0, .int .i64 0, .int .i64 0, .int .i64 0, .int .i64 0, .slice none 0 0]) :: setB bs p (sB y)) p (sB y') = (N, ABlk.cells false [.int .i64 0, .slice none 0 0, .int .i64 0, .int .i64 0, .int .i64 0, .int .i64 0, .int .i64 0, .int .i64 0, .slice none 0 0]) :: setB bs p (sB y') := fun y y' => by
    simp only [setB, beq_ne n1, Bool.false_eq_true, if_false, setB_setB]
  have c1 : call (.func (.func 79) #[] #[]) [.pointer (some ⟨p, 0, none⟩), .int .i64 2, .int .i64 4] ⟨N + 1, (N, .cells false [.int .i64 0, .slice none 0 0, .int .i64 0, .int .i64 0, .int .i64 0, .int .i64 0, .int .i64 0, .int .i64 0, .slice none 0 0]) :: bs⟩ = some (.int .i64 (rngV x 2 4), ⟨N + 1, (N, .cells false [.int .i64 0, .slice none 0 0, .int .i64 0, .int .i64 0, .int .i64 0, .int .i64 0, .int .i64 0, .int .i64 0, .slice none 0 0]) :: setB bs p (sB (stB x))⟩) := by
    have := hS.ran (N + 1) ((N, .cells false [.int .i64 0, .slice none 0 0, .int .i64 0, .int .i64 0, .int .i64 0, .int .i64 0, .int .i64 0, .int .i64 0, .slice none 0 0]) :: bs) x 2 4 (by omega) (by omega) hZ (by simp only [lookB, beq_ne n1, Bool.false_eq_true, if_false]; exact hp)
    simp only [setB, beq_ne n1, Bool.false_eq_true, if_false] at this
    exact this
  have c2 : ∀ y, call (.func (.func 95) #[] #[]) [.pointer (some ⟨p, 0, none⟩), .int .i64 3] ⟨N + 1, (N, .cells false [.int .i64 0, .slice none 0 0, .int .i64 0, .int .i64 0, .int .i64 0, .int .i64 0, .int .i64 0, .int .i64 0, .slice none 0 0]) :: setB bs p (sB y)⟩ = some (.int .i64 (belV y 3), ⟨N + 1, (N, .cells false [.int .i64 0, .slice none 0 0, .int .i64 0, .int .i64 0, .int .i64 0, .int .i64 0, .int .i64 0, .int .i64 0, .slice none 0 0]) :: setB bs p (sB (stB y))⟩) := fun y => by
    have := hS.bel (N + 1) _ y 3 (by omega) (by omega) (mk y) (lk y)
    rw [up] at this
    exact this
  have c3 : ∀ y, call (.func (.func 95) #[] #[]) [.pointer (some ⟨p, 0, none⟩), .int .i64 2] ⟨N + 1, (N, .cells false [.int .i64 0, .slice none 0 0, .int .i64 0, .int .i64 0, .int .i64 0, .int .i64 0, .int .i64 0, .int .i64 0, .slice none 0 0]) :: setB bs p (sB y)⟩ = some (.int .i64 (belV y 2), ⟨N + 1, (N, .cells false [.int .i64 0, .slice none 0 0, .int .i64 0, .int .i64 0, .int .i64 0, .int .i64 0, .int .i64 0, .int .i64 0, .slice none 0 0]) :: setB bs p (sB (stB y))⟩) := fun y => by
    have := hS.bel (N + 1) _ y 2 (by omega) (by omega) (mk y) (lk y)
    rw [up] at this
    exact this
  have n3 : ¬ p = N + 2 := by omega
  have c4 : ∀ y, call (.func (.func 79) #[] #[]) [.pointer (some ⟨p, 0, none⟩), .int .i64 1, .int .i64 2] ⟨N + 2, (N + 1, .cells false [.int .i64 3, .slice none 0 0, .int .i64 (belV (bx 1 x) 3), .int .i64 (belV (bx 2 x) 3), .int .i64 (belV (bx 3 x) 2), .int .i64 (rngV x 2 4), .int .i64 (me : Int), .int .i64 (belV (bx 4 x) 3), .slice none 0 0]) :: (N, .cells false [.int .i64 0, .slice none 0 0, .int .i64 0, .int .i64 0, .int .i64 0, .int .i64 0, .int .i64 0, .int .i64 0, .slice none 0 0]) :: setB bs p (sB y)⟩ = some (.int .i64 (rngV y 1 2), ⟨N + 2, (N + 1, .cells false [.int .i64 3, .slice none 0 0, .int .i64 (belV (bx 1 x) 3), .int .i64 (belV (bx 2 x) 3), .int .i64 (belV (bx 3 x) 2), .int .i64 (rngV x 2 4), .int .i64 (me : Int), .int .i64 (belV (bx 4 x) 3), .slice none 0 0]) :: (N, .cells false [.int .i64 0, .slice none 0 0, .int .i64 0, .int .i64 0, .int .i64 0, .int .i64 0, .int .i64 0, .int .i64 0, .slice none 0 0]) :: setB bs p (sB (stB y))⟩) := fun y => by
    have := hS.ran (N + 2) ((N + 1, .cells false [.int .i64 3, .slice none 0 0, .int .i64 (belV (bx 1 x) 3), .int .i64 (belV (bx 2 x) 3), .int .i64 (belV (bx 3 x) 2), .int .i64 (rngV x 2 4), .int .i64 (me : Int), .int .i64 (belV (bx 4 x) 3), .slice none 0 0]) :: (N, .cells false [.int .i64 0, .slice none 0 0, .int .i64 0, .int .i64 0, .int .i64 0, .int .i64 0, .int .i64 0, .int .i64 0, .slice none 0 0]) :: setB bs p (sB y)) y 1 2 (by omega) (by omega) ((mk y).push _) (by
      simp only [lookB, beq_ne n2, Bool.false_eq_true, if_false]; exact lk y)
    simp only [setB, beq_ne n1, beq_ne n2, Bool.false_eq_true, if_false, setB_setB] at this
    exact this
  simp only [bx] at c4
  simp only [evFn, Try.f78]
  simp [ec_skip, ec_label, ek_reg, ek_draw, ek_seq, ec_cond, ek_block, ec_loop, ec_exit, ec_ret, ec_scope, ek_nil, ek_op, opK_some, regK_some, seqK_normal, seqK_exit, seqK_ret, blockK_normal, blockK_exit, blockK_ret, evOp, vOp, hOpB, hOpU, hOp, hOpT, aAppendG_tab, aWanted, aYielded, opd, putT, closedV, aBin, intOp, sameK, mapO, joinR, hasAddr, boundOf, pushB, aAlloc, Value.cells, lookB, setB, Nat.beq_eq, tm_n_set, tm_get_set, tm_of_n, tm_of_get, tm_tr_set, tm_tr_of, cellV, putF, appR_eq, takeR_eq, dropR_eq, setR_eq, getR_eq, ↓C75, ↓C76, ↓C77, ↓C79, ↓C17, ↓C18, ↓C22, ↓C71, FA24_0, FA24_1, FA24_2, FA24_3, FA24_4, FA24_5, FA24_6, FA24_7, FA24_8, LD3, LD4, LD22, LD27, LDr, LD24, LEN22, IA22, tkc, cellAt, ↓AL24, ↓Cran, ↓Crange, ↓Cbelow, c1, c2, c3, c4, ST24, BD24, partsO]
  generalize hr : evLoop _ _ _ _ = r
  obtain ⟨q1, q1e, q1h, q1b⟩ : ∃ q : Nat, rngV (stB (stB (stB (stB (stB x))))) 1 2 = (q : Int) ∧ 1 ≤ q ∧ q ≤ 2 := by
    have := rngV_bd (stB (stB (stB (stB (stB x))))) (lo := 1) (hi := 2) (by omega) (by omega)
    exact ⟨(rngV (stB (stB (stB (stB (stB x))))) 1 2).toNat, by omega, by omega, by omega⟩
  rw [q1e] at hr
  obtain ⟨y, A', H', rfl, rfl, s, x2, u1, hK, hB, hk0, hn1, hl, hmk, t0, t1, t4, t5⟩ := loop_go (Q := QL1 N p me bs q1) hr (IL1 N p me bs q1) q1 (by omega) (by
    have e0 := rngV_bd x (lo := 2) (hi := 4) (by omega) (by omega)
    have e1 := belV_bd (stB x) (n := 3) (by omega) (by omega)
    have e2 := belV_bd (stB (stB x)) (n := 3) (by omega) (by omega)
    have e3 := belV_bd (stB (stB (stB x))) (n := 2) (by omega) (by omega)
    have e4 := belV_bd (stB (stB (stB (stB x)))) (n := 3) (by omega) (by omega)
    refine ⟨⟨3, 0, fun _ => 0, belV (stB x) 3, belV (stB (stB x)) 3, belV (stB (stB (stB x))) 2, rngV x 2 4, me, belV (stB (stB (stB (stB x)))) 3, 0, fun _ => 0⟩, stB (stB (stB (stB (stB (stB x))))), .slice none 0 0, ⟨(mk _).push _, by show N + 1 < N + 2; omega, hpN, ?_, ?_, ?_, ?_, .inl ⟨rfl, rfl⟩, .inl ⟨rfl, rfl⟩, fun a b n k h => by cases h⟩, ⟨rfl, rfl, by show 2 ≤ rngV x 2 4 ∧ rngV x 2 4 ≤ 4; omega, by show 0 ≤ belV (stB x) 3 ∧ belV (stB x) 3 ≤ 4; omega, by show 0 ≤ belV (stB (stB x)) 3 ∧ belV (stB (stB x)) 3 ≤ 3; omega, by show 0 ≤ belV (stB (stB (stB x))) 2 ∧ belV (stB (stB (stB x))) 2 ≤ 1; omega, by show 0 ≤ belV (stB (stB (stB (stB x)))) 3 ∧ belV (stB (stB (stB (stB x)))) 3 ≤ 2; omega, fun i hi => by simp at hi, by show 0 ≤ 2; omega⟩, rfl, by show 0 + q1 = q1; omega, ⟨by simp [tm_n_set, tm_of_n], rfl, by simp [tm_get_set, tm_n_set, tm_of_n, tm_of_get], by simp [tm_get_set, tm_n_set, tm_of_n, tm_of_get], by simp [tm_get_set, tm_n_set, tm_of_n, tm_of_get], by simp [tm_get_set, tm_n_set, tm_of_n, tm_of_get]⟩, by simp [tm_get_set, tm_n_set, tm_of_n, tm_of_get]⟩
    · show lookB ((N + 1, _) :: _) p = _
      rw [lookB]
      simp only [beq_ne n2, Bool.false_eq_true, if_false]
      exact lk _
    · simp [lookB]
    · simp [lookB]
    · intro j hj hjp
      have a1 : ¬ j = N + 1 := by omega
      have a2 : ¬ j = N := by omega
      simp [lookB, Nat.beq_eq, a1, a2, lookB_setB, hjp]) (by
    clear hr
    rintro m A ⟨nx, b1⟩ ⟨s, x1, u1, hK, hB, hk0, him, ⟨hl, hmk, t0, t1, t4, t5⟩, t6⟩
    simp only [runC]
    cases m with
    | zero =>
      simp [ec_skip, ec_label, ek_reg, ek_draw, ek_seq, ec_cond, ek_block, ec_loop, ec_exit, ec_ret, ec_scope, ek_nil, ek_op, opK_some, regK_some, seqK_normal, seqK_exit, seqK_ret, blockK_normal, blockK_exit, blockK_ret, evOp, vOp, hOpB, hOpU, hOp, hOpT, aAppendG_tab, aWanted, aYielded, opd, putT, closedV, aBin, intOp, sameK, mapO, joinR, hasAddr, boundOf, pushB, aAlloc, Value.cells, lookB, setB, Nat.beq_eq, tm_n_set, tm_get_set, tm_of_n, tm_of_get, tm_tr_set, tm_tr_of, cellV, putF, appR_eq, takeR_eq, dropR_eq, setR_eq, getR_eq, ↓C75, ↓C76, ↓C77, ↓C79, ↓C17, ↓C18, ↓C22, ↓C71, FA24_0, FA24_1, FA24_2, FA24_3, FA24_4, FA24_5, FA24_6, FA24_7, FA24_8, LD3, LD4, LD22, LD27, LDr, LD24, LEN22, IA22, tkc, cellAt, hl, hmk, t0, t1, t4, t5, t6]
      exact .inr ⟨by simp, rfl, s, x1, u1, hK, hB, hk0, by omega, by simp [tm_n_set, hl], rfl, by simp [tm_get_set, tm_n_set, hl, t0], by simp [tm_get_set, tm_n_set, hl, t1], by simp [tm_get_set, tm_n_set, hl, t4], by simp [tm_get_set, tm_n_set, hl, t5]⟩
    | succ m =>
      have hw : wrapI .i64 (((m + 1 : Nat) : Int) - 1) = (m : Int) := by rw [wrapI_small (by omega) (by omega)]; omega
      have hpos : (0 : Int) < ((m + 1 : Nat) : Int) := by omega
      have hnn := hB.n
      have hnx : N + 1 < nx := hK.nx
      have hK2 := hK.step (y := stB x1)
      obtain ⟨bs2, hs, hb1, hb2, hap⟩ := hK2.app1 (by omega)
      obtain ⟨cs, hg, hgk, e, hK3⟩ := hap (rngV x1 3 5)
      have hrb := rngV_bd x1 (lo := 3) (hi := 5) (by omega) (by omega)
      have c5 : call (.func (.func 79) #[] #[]) [.pointer (some ⟨p, 0, none⟩), .int .i64 3, .int .i64 5] ⟨nx, b1⟩ = some (.int .i64 (rngV x1 3 5), ⟨nx, setB b1 p (sB (stB x1))⟩) := hS.ran nx b1 x1 3 5 (by omega) (by omega) hK.mi hK.src
      have L0 := hK.set
      have L1 := lookB_roB_cells _ _ _ _ hK.set hK.mi.1
      have L2 := lookB_roB_cells _ _ _ _ hK2.set hK2.mi.1
      have L3 := hb1.trans hK2.set
      have D1 := hK2.mi.1
      have D2 := (hK2.mi.push (.cells false [.int .i64 (rngV x1 3 5)])).1
      have ap1 := app_ro1 hK.mi u1
      have er := eqFL hK.l1
      have nle : ¬ nx + 1 ≤ nx := by omega
      have m1 : ¬ N + 1 = nx := by omega
      have m2 : ¬ N = nx := by omega
      have m3 : ¬ N + 1 = nx + 1 := by omega
      have nw := newOnes_ro b1 nx hK.mi.2
      simp only at e D1 D2 L2 hK3 L3 ap1 nw
      simp [ec_skip, ec_label, ek_reg, ek_draw, ek_seq, ec_cond, ek_block, ec_loop, ec_exit, ec_ret, ec_scope, ek_nil, ek_op, opK_some, regK_some, seqK_normal, seqK_exit, seqK_ret, blockK_normal, blockK_exit, blockK_ret, evOp, vOp, hOpB, hOpU, hOp, hOpT, aAppendG_tab, aWanted, aYielded, opd, putT, closedV, aBin, intOp, sameK, mapO, joinR, hasAddr, boundOf, pushB, aAlloc, Value.cells, lookB, setB, Nat.beq_eq, tm_n_set, tm_get_set, tm_of_n, tm_of_get, tm_tr_set, tm_tr_of, cellV, putF, appR_eq, takeR_eq, dropR_eq, setR_eq, getR_eq, ↓C75, ↓C76, ↓C77, ↓C79, ↓C17, ↓C18, ↓C22, ↓C71, FA24_0, FA24_1, FA24_2, FA24_3, FA24_4, FA24_5, FA24_6, FA24_7, FA24_8, LD3, LD4, LD22, LD27, LDr, LD24, LEN22, IA22, tkc, cellAt, hl, hmk, t0, t1, t4, t5, t6, hpos]
      generalize hX : evDrawX _ _ _ _ _ = X
      obtain ⟨tm, rfl, hn', z0, z1, z4, z5, z6⟩ := draw_any (H' := ⟨nx + 2, (nx + 1, .cells false cs) :: (nx, .cells false [.int .i64 (rngV x1 3 5)]) :: setB bs2 (N + 1) (.cells false [.int .i64 s.p, .slice (some ⟨nx + 1, 0, none⟩) (s.n + 1) 1, .int .i64 s.w, .int .i64 s.d, .int .i64 s.f, .int .i64 s.c, .int .i64 s.m, .int .i64 s.de, .slice none 0 0])⟩) (Pt := fun tm => tm.get 0 = .pointer (some ⟨p, 0, none⟩) ∧ tm.get 1 = .int .i64 (me : Int) ∧ tm.get 4 = .pointer (some ⟨N, 0, none⟩) ∧ tm.get 5 = .pointer (some ⟨N + 1, 0, none⟩) ∧ tm.get 6 = .int .i64 ((m + 1 : Nat) : Int)) hX (by kernel_rfl) hK.mi.1 (by
        clear hX
        generalize hMM : befs _ = M
        have o34 : ordB M 3 4 = true := by rw [← hMM]; kernel_rfl
        have o43 : ordB M 4 3 = true := by rw [← hMM]; kernel_rfl
        have o35 : ordB M 3 5 = true := by rw [← hMM]; kernel_rfl
        have o53 : ordB M 5 3 = true := by rw [← hMM]; kernel_rfl
        have o37 : ordB M 3 7 = true := by rw [← hMM]; kernel_rfl
        have o73 : ordB M 7 3 = true := by rw [← hMM]; kernel_rfl
        have o45 : ordB M 4 5 = true := by rw [← hMM]; kernel_rfl
        have o54 : ordB M 5 4 = true := by rw [← hMM]; kernel_rfl
        have o47 : ordB M 4 7 = true := by rw [← hMM]; kernel_rfl
        have o74 : ordB M 7 4 = true := by rw [← hMM]; kernel_rfl
        have o57 : ordB M 5 7 = true := by rw [← hMM]; kernel_rfl
        have o75 : ordB M 7 5 = true := by rw [← hMM]; kernel_rfl
        have o51 : ordB M 5 1 = true := by rw [← hMM]; kernel_rfl
        have o71 : ordB M 7 1 = true := by rw [← hMM]; kernel_rfl
        clear hMM
        simp [mapO, drRun, drOp, dr3, looks, guardT, tmpsOf, Op.operands, Call.operands, wantedR, gOf, finT, natMem, isNil, writesF, evOp, vOp, hOpB, hOpU, hOp, hOpT, aAppendG_tab, opd, closedV, aBin, intOp, sameK, opdO, boundOf, undef, lookB, Nat.beq_eq, tm_n_set, tm_get_set, tm_of_n, tm_of_get, tm_tr_set, tm_tr_of, b02, b12, b32, ↓G75, W75, ↓G76, W76, ↓G77, W77, ↓G79, W79, ↓G17, W17, ↓G18, W18, ↓G22, W22, ↓G71, W71, tv, all1, roB, roK, news, newOnes, decr, tkc, cellAt, LD3, LD4, LD22, LD27, LDr, LD24, LEN22, IA22, FA24_0, FA24_1, FA24_2, FA24_3, FA24_4, FA24_5, FA24_6, FA24_7, FA24_8, hasR, hasR_ro, aAppendG_tab, partsO, ↓Gran, Wran, BS22, APT22, pushB, ST22, hl, t0, t1, t4, t5, t6, c5, L0, L1, L2, L3, m1, m2, m3, ap1, e, nw, nle, er, wheap, Nat.ble_eq, Nat.blt_eq, putF, Value.cells, cellV]
        refine ⟨_, _, ⟨rfl, rfl⟩, ?_, ?_, ?_⟩
        · simp [dynOK, rdSame, evOp, vOp, hOpB, hOpU, hOp, hOpT, mapO, opd, gOf, natMem, finT, tm_get_set, tm_n_set, LD22, cellAt, roB, roK, lookB, L2, L3, D1, D2, er, o34, o43, o35, o53, o37, o73, o45, o54, o47, o74, o57, o75, o51, o71, b02, b12, b32, b03, b13, b23, m1, m2, m3, Nat.blt_eq, Nat.ble_eq, Nat.beq_eq, hl, hasR, hasR_ro]
        · simp [wheap, news, b02, b12, b32, Nat.beq_eq, all1, setB, setR_eq, m1, m2, m3]
        · simp [finT, tm_get_set, tm_n_set, hl, t0, t1, t4, t5, t6])
      clear hX
      simp [tm_n_set, hl] at hn'
      simp [ec_skip, ec_label, ek_reg, ek_draw, ek_seq, ec_cond, ek_block, ec_loop, ec_exit, ec_ret, ec_scope, ek_nil, ek_op, opK_some, regK_some, seqK_normal, seqK_exit, seqK_ret, blockK_normal, blockK_exit, blockK_ret, evOp, vOp, hOpB, hOpU, hOp, hOpT, aAppendG_tab, aWanted, aYielded, opd, putT, closedV, aBin, intOp, sameK, mapO, joinR, hasAddr, boundOf, pushB, aAlloc, Value.cells, lookB, setB, Nat.beq_eq, tm_n_set, tm_get_set, tm_of_n, tm_of_get, tm_tr_set, tm_tr_of, cellV, putF, appR_eq, takeR_eq, dropR_eq, setR_eq, getR_eq, ↓C75, ↓C76, ↓C77, ↓C79, ↓C17, ↓C18, ↓C22, ↓C71, FA24_0, FA24_1, FA24_2, FA24_3, FA24_4, FA24_5, FA24_6, FA24_7, FA24_8, LD3, LD4, LD22, LD27, LDr, LD24, LEN22, IA22, tkc, cellAt, hmk, hn', z0, z1, z4, z5, z6]
      have hw2 : wrapI .i64 (m : Int) = m := wrapI_small (by omega) (by omega)
      refine ⟨_, _, _, ⟨rfl, rfl, rfl⟩, .inl ⟨rfl, m, rfl, { s with n := s.n + 1, g := gi cs }, stB x1, _, hK3, ⟨hB.p, hB.m, hB.c, hB.w, hB.d, hB.f, hB.de, fun i hi => ?_, ?_⟩, hk0, ?_, ⟨by simp [tm_n_set, hn'], rfl, by simp [tm_get_set, tm_n_set, hn', z0], by simp [tm_get_set, tm_n_set, hn', z1], by simp [tm_get_set, tm_n_set, hn', z4], by simp [tm_get_set, tm_n_set, hn', z5]⟩, by simp [tm_get_set, tm_n_set, hn', hw2]⟩⟩
      · by_cases h : i < s.n
        · show 3 ≤ gi cs i ∧ gi cs i ≤ 5
          rw [hg i h]
          exact hB.g i h
        · have : i < s.n + 1 := hi
          have : i = s.n := by omega
          subst this
          show 3 ≤ gi cs s.n ∧ gi cs s.n ≤ 5
          rw [hgk]
          exact hrb
      · show s.n + 1 ≤ 2
        omega
      · show s.n + 1 + m = q1
        omega)
  have LS := hK.set
  have mb : (1 : Int) ≤ me ∧ (me : Int) ≤ 2 := by omega
  have hde := hB.de
  have hbc := hB.c
  have hbw := hB.w
  have hbd := hB.d
  have v1 : wrapI .i64 (3 * (me : Int)) = 3 * me := wrapI_small (by omega) (by omega)
  have v2 : wrapI .i64 (3 * (me : Int) + 1) = 3 * me + 1 := wrapI_small (by omega) (by omega)
  have v3 : wrapI .i64 (3 * (3 * (me : Int) + 1)) = 3 * (3 * me + 1) := wrapI_small (by omega) (by omega)
  have v4 : wrapI .i64 (3 * (3 * (me : Int) + 1) + 1) = 3 * (3 * me + 1) + 1 := wrapI_small (by omega) (by omega)
  have v5 : wrapI .i64 (3 * (3 * (me : Int) + 1) + 1 + s.de) = 3 * (3 * me + 1) + 1 + s.de := wrapI_small (by omega) (by omega)
  simp [ec_skip, ec_label, ek_reg, ek_draw, ek_seq, ec_cond, ek_block, ec_loop, ec_exit, ec_ret, ec_scope, ek_nil, ek_op, opK_some, regK_some, seqK_normal, seqK_exit, seqK_ret, blockK_normal, blockK_exit, blockK_ret, evOp, vOp, hOpB, hOpU, hOp, hOpT, aAppendG_tab, aWanted, aYielded, opd, putT, closedV, aBin, intOp, sameK, mapO, joinR, hasAddr, boundOf, pushB, aAlloc, Value.cells, lookB, setB, Nat.beq_eq, tm_n_set, tm_get_set, tm_of_n, tm_of_get, tm_tr_set, tm_tr_of, cellV, putF, appR_eq, takeR_eq, dropR_eq, setR_eq, getR_eq, ↓C75, ↓C76, ↓C77, ↓C79, ↓C17, ↓C18, ↓C22, ↓C71, FA24_0, FA24_1, FA24_2, FA24_3, FA24_4, FA24_5, FA24_6, FA24_7, FA24_8, LD3, LD4, LD22, LD27, LDr, LD24, LEN22, IA22, tkc, cellAt, hl, hmk, t0, t1, t4, t5, LS, hB.p, v1, v2, v3, v4, v5]
  generalize hr2 : evLoop _ _ _ _ = r2
  obtain ⟨y, A2, H2, rfl, rfl, s2, x3, u2, hK2, hB2, hk2, hn2, hNV, hle, hl, hmk, t0, t1, t4, t5⟩ := loop_go (Q := QL2 N p me bs q1 (3 * (3 * (me : Int) + 1) + 1 + s.de)) hr2 (IL2 N p me bs q1 (3 * (3 * (me : Int) + 1) + 1 + s.de)) ((4 - s.c) + (4 - s.w) + (3 - s.d)).toNat (by omega) ⟨s, x2, u1, hK, hB, hk0, hn1, rfl, by omega, ⟨by simp [tm_n_set, hl], by simp [hmk], by simp [tm_get_set, tm_n_set, hl, t0], by simp [tm_get_set, tm_n_set, hl, t1], by simp [tm_get_set, tm_n_set, hl, t4], by simp [tm_get_set, tm_n_set, hl, t5]⟩, by simp [tm_get_set, tm_n_set, hl]⟩ (by
    clear hr2
    rintro m A ⟨nx, b1⟩ ⟨s1, x1, u1, hK, hB, hk0, hn1, hNV, hm, ⟨hl, hmk, t0, t1, t4, t5⟩, t7⟩
    simp only [runC]
    obtain ⟨S, hPV, hS1, hS2⟩ := PV_bd hB (by omega)
    have hbc := hB.c
    have hbw := hB.w
    have hbd := hB.d
    have hbf := hB.f
    have hnx : N + 1 < nx := hK.nx
    have hpc : 0 ≤ PV s1 * s1.c ∧ PV s1 * s1.c ≤ 68 ∧ (4 ≤ s1.c → PV s1 * s1.c = 4 * PV s1) := by
      rcases (show s1.c = 2 ∨ s1.c = 3 ∨ s1.c = 4 by omega) with h | h | h <;> rw [h] <;> omega
    have w1 : wrapI .i64 (PV s1 * s1.c) = PV s1 * s1.c := wrapI_small (by omega) (by omega)
    have w2 : wrapI .i64 (PV s1 * s1.c + s1.f) = PV s1 * s1.c + s1.f := wrapI_small (by omega) (by omega)
    have L0 := hK.set
    have L1 := lookB_roB_cells _ _ _ _ hK.set hK.mi.1
    have cp := hPl nx (roB b1) s1 u1 (.slice none 0 0) hK.mi.ro (hK.l1.lst.ro hK.mi.1) (by omega)
    have nw := newOnes_ro b1 nx hK.mi.2
    have nw1 := newOnes_ro b1 (nx + 1) (fun q hq => Nat.lt_succ_of_lt (hK.mi.2 q hq))
    simp only at L0 L1 nw nw1
    simp [ec_skip, ec_label, ek_reg, ek_draw, ek_seq, ec_cond, ek_block, ec_loop, ec_exit, ec_ret, ec_scope, ek_nil, ek_op, opK_some, regK_some, seqK_normal, seqK_exit, seqK_ret, blockK_normal, blockK_exit, blockK_ret, evOp, vOp, hOpB, hOpU, hOp, hOpT, aAppendG_tab, aWanted, aYielded, opd, putT, closedV, aBin, intOp, sameK, mapO, joinR, hasAddr, boundOf, pushB, aAlloc, Value.cells, lookB, setB, Nat.beq_eq, tm_n_set, tm_get_set, tm_of_n, tm_of_get, tm_tr_set, tm_tr_of, cellV, putF, appR_eq, takeR_eq, dropR_eq, setR_eq, getR_eq, ↓C75, ↓C76, ↓C77, ↓C79, ↓C17, ↓C18, ↓C22, ↓C71, FA24_0, FA24_1, FA24_2, FA24_3, FA24_4, FA24_5, FA24_6, FA24_7, FA24_8, LD3, LD4, LD22, LD27, LDr, LD24, LEN22, IA22, tkc, cellAt, hl, hmk, t0, t1, t4, t5, t7]
    generalize hX : evDrawX _ _ _ _ _ = X
    obtain ⟨tm, rfl, hn', z0, z1, z4, z5, z7, z53⟩ := draw_any (H' := ⟨nx + 1, b1⟩) (Pt := fun tm => tm.get 0 = .pointer (some ⟨p, 0, none⟩) ∧ tm.get 1 = .int .i64 (me : Int) ∧ tm.get 4 = .pointer (some ⟨N, 0, none⟩) ∧ tm.get 5 = .pointer (some ⟨N + 1, 0, none⟩) ∧ tm.get 7 = .int .i64 (3 * (3 * (me : Int) + 1) + 1 + s.de) ∧ tm.get 53 = .bool (decide (PV s1 * s1.c + s1.f < 3 * (3 * (me : Int) + 1) + 1 + s.de))) hX (by kernel_rfl) hK.mi.1 (by
      clear hX
      generalize befs _ = M
      simp [mapO, drRun, drOp, dr3, looks, guardT, tmpsOf, Op.operands, Call.operands, wantedR, gOf, finT, natMem, isNil, writesF, evOp, vOp, hOpB, hOpU, hOp, hOpT, aAppendG_tab, opd, closedV, aBin, intOp, sameK, opdO, boundOf, undef, lookB, Nat.beq_eq, tm_n_set, tm_get_set, tm_of_n, tm_of_get, tm_tr_set, tm_tr_of, b02, b12, b32, ↓G75, W75, ↓G76, W76, ↓G77, W77, ↓G79, W79, ↓G17, W17, ↓G18, W18, ↓G22, W22, ↓G71, W71, tv, all1, roB, roK, news, newOnes, decr, tkc, cellAt, LD3, LD4, LD22, LD27, LDr, LD24, LEN22, IA22, FA24_0, FA24_1, FA24_2, FA24_3, FA24_4, FA24_5, FA24_6, FA24_7, FA24_8, hasR, hasR_ro, ↓Gpl, Wpl, hl, t0, t1, t4, t5, t7, cp, L0, L1, nw, nw1, wheap, Nat.ble_eq, Nat.blt_eq]
      refine ⟨_, _, ⟨rfl, rfl⟩, ?_, ?_, ?_⟩
      · simp [dynOK, b02, b12, b32, b03, b13, b23, Nat.blt_eq, Nat.beq_eq, hl]
      · simp [wheap, news, b02, b12, b32, Nat.beq_eq, all1]
      · simp [finT, tm_get_set, tm_n_set, hl, t0, t1, t4, t5, t7, w1, w2])
    clear hX
    simp [tm_n_set, hl] at hn'
    have hKu := hK.up (nx := nx + 1) (Nat.le_succ _)
    by_cases hlt : PV s1 * s1.c + s1.f < 3 * (3 * (me : Int) + 1) + 1 + s.de
    · have hz : tm.get 53 = .bool true := by rw [z53]; simp [hlt]
      by_cases hc : s1.c < 4
      · have hw1 : wrapI .i64 (s1.c + 1) = s1.c + 1 := wrapI_small (by omega) (by omega)
        obtain ⟨m, rfl⟩ : ∃ m', m = m' + 1 := ⟨m - 1, by omega⟩
        have hKp := hKu.put { s1 with c := s1.c + 1 } rfl rfl rfl rfl
        have hBp : LB me { s1 with c := s1.c + 1 } := ⟨hB.p, hB.m, by show 2 ≤ s1.c + 1 ∧ s1.c + 1 ≤ 4; omega, hB.w, hB.d, hB.f, hB.de, hB.g, hB.n⟩
        simp [ec_skip, ec_label, ek_reg, ek_draw, ek_seq, ec_cond, ek_block, ec_loop, ec_exit, ec_ret, ec_scope, ek_nil, ek_op, opK_some, regK_some, seqK_normal, seqK_exit, seqK_ret, blockK_normal, blockK_exit, blockK_ret, evOp, vOp, hOpB, hOpU, hOp, hOpT, aAppendG_tab, aWanted, aYielded, opd, putT, closedV, aBin, intOp, sameK, mapO, joinR, hasAddr, boundOf, pushB, aAlloc, Value.cells, lookB, setB, Nat.beq_eq, tm_n_set, tm_get_set, tm_of_n, tm_of_get, tm_tr_set, tm_tr_of, cellV, putF, appR_eq, takeR_eq, dropR_eq, setR_eq, getR_eq, ↓C75, ↓C76, ↓C77, ↓C79, ↓C17, ↓C18, ↓C22, ↓C71, FA24_0, FA24_1, FA24_2, FA24_3, FA24_4, FA24_5, FA24_6, FA24_7, FA24_8, LD3, LD4, LD22, LD27, LDr, LD24, LEN22, IA22, tkc, cellAt, hmk, hn', z0, z1, z4, z5, z7, hz, L0, STi, hw1, hc]
        refine ⟨_, _, _, ⟨rfl, rfl, rfl⟩, .inl ⟨rfl, m, rfl, { s1 with c := s1.c + 1 }, x1, u1, hKp, hBp, hk0, hn1, hNV, ?_, ⟨by simp [tm_n_set, hn'], rfl, by simp [tm_get_set, tm_n_set, hn', z0], by simp [tm_get_set, tm_n_set, hn', z1], by simp [tm_get_set, tm_n_set, hn', z4], by simp [tm_get_set, tm_n_set, hn', z5]⟩, by simp [tm_get_set, tm_n_set, hn', z7]⟩⟩
        show (4 - (s1.c + 1)) + (4 - s1.w) + (3 - s1.d) = (m : Int)
        omega
      · by_cases hw : s1.w < 4
        · have hw1 : wrapI .i64 (s1.w + 1) = s1.w + 1 := wrapI_small (by omega) (by omega)
          obtain ⟨m, rfl⟩ : ∃ m', m = m' + 1 := ⟨m - 1, by omega⟩
          have hKp := hKu.put { s1 with w := s1.w + 1 } rfl rfl rfl rfl
          have hBp : LB me { s1 with w := s1.w + 1 } := ⟨hB.p, hB.m, hB.c, by show 0 ≤ s1.w + 1 ∧ s1.w + 1 ≤ 4; omega, hB.d, hB.f, hB.de, hB.g, hB.n⟩
          simp [ec_skip, ec_label, ek_reg, ek_draw, ek_seq, ec_cond, ek_block, ec_loop, ec_exit, ec_ret, ec_scope, ek_nil, ek_op, opK_some, regK_some, seqK_normal, seqK_exit, seqK_ret, blockK_normal, blockK_exit, blockK_ret, evOp, vOp, hOpB, hOpU, hOp, hOpT, aAppendG_tab, aWanted, aYielded, opd, putT, closedV, aBin, intOp, sameK, mapO, joinR, hasAddr, boundOf, pushB, aAlloc, Value.cells, lookB, setB, Nat.beq_eq, tm_n_set, tm_get_set, tm_of_n, tm_of_get, tm_tr_set, tm_tr_of, cellV, putF, appR_eq, takeR_eq, dropR_eq, setR_eq, getR_eq, ↓C75, ↓C76, ↓C77, ↓C79, ↓C17, ↓C18, ↓C22, ↓C71, FA24_0, FA24_1, FA24_2, FA24_3, FA24_4, FA24_5, FA24_6, FA24_7, FA24_8, LD3, LD4, LD22, LD27, LDr, LD24, LEN22, IA22, tkc, cellAt, hmk, hn', z0, z1, z4, z5, z7, hz, L0, STi, hw1, hc, hw]
          refine ⟨_, _, _, ⟨rfl, rfl, rfl⟩, .inl ⟨rfl, m, rfl, { s1 with w := s1.w + 1 }, x1, u1, hKp, hBp, hk0, hn1, hNV, ?_, ⟨by simp [tm_n_set, hn'], rfl, by simp [tm_get_set, tm_n_set, hn', z0], by simp [tm_get_set, tm_n_set, hn', z1], by simp [tm_get_set, tm_n_set, hn', z4], by simp [tm_get_set, tm_n_set, hn', z5]⟩, by simp [tm_get_set, tm_n_set, hn', z7]⟩⟩
          show (4 - s1.c) + (4 - (s1.w + 1)) + (3 - s1.d) = (m : Int)
          omega
        · by_cases hd : s1.d < 3
          · have hw1 : wrapI .i64 (s1.d + 1) = s1.d + 1 := wrapI_small (by omega) (by omega)
            obtain ⟨m, rfl⟩ : ∃ m', m = m' + 1 := ⟨m - 1, by omega⟩
            have hKp := hKu.put { s1 with d := s1.d + 1 } rfl rfl rfl rfl
            have hBp : LB me { s1 with d := s1.d + 1 } := ⟨hB.p, hB.m, hB.c, hB.w, by show 0 ≤ s1.d + 1 ∧ s1.d + 1 ≤ 3; omega, hB.f, hB.de, hB.g, hB.n⟩
            simp [ec_skip, ec_label, ek_reg, ek_draw, ek_seq, ec_cond, ek_block, ec_loop, ec_exit, ec_ret, ec_scope, ek_nil, ek_op, opK_some, regK_some, seqK_normal, seqK_exit, seqK_ret, blockK_normal, blockK_exit, blockK_ret, evOp, vOp, hOpB, hOpU, hOp, hOpT, aAppendG_tab, aWanted, aYielded, opd, putT, closedV, aBin, intOp, sameK, mapO, joinR, hasAddr, boundOf, pushB, aAlloc, Value.cells, lookB, setB, Nat.beq_eq, tm_n_set, tm_get_set, tm_of_n, tm_of_get, tm_tr_set, tm_tr_of, cellV, putF, appR_eq, takeR_eq, dropR_eq, setR_eq, getR_eq, ↓C75, ↓C76, ↓C77, ↓C79, ↓C17, ↓C18, ↓C22, ↓C71, FA24_0, FA24_1, FA24_2, FA24_3, FA24_4, FA24_5, FA24_6, FA24_7, FA24_8, LD3, LD4, LD22, LD27, LDr, LD24, LEN22, IA22, tkc, cellAt, hmk, hn', z0, z1, z4, z5, z7, hz, L0, STi, hw1, hc, hw, hd]
            refine ⟨_, _, _, ⟨rfl, rfl, rfl⟩, .inl ⟨rfl, m, rfl, { s1 with d := s1.d + 1 }, x1, u1, hKp, hBp, hk0, hn1, hNV, ?_, ⟨by simp [tm_n_set, hn'], rfl, by simp [tm_get_set, tm_n_set, hn', z0], by simp [tm_get_set, tm_n_set, hn', z1], by simp [tm_get_set, tm_n_set, hn', z4], by simp [tm_get_set, tm_n_set, hn', z5]⟩, by simp [tm_get_set, tm_n_set, hn', z7]⟩⟩
            show (4 - s1.c) + (4 - s1.w) + (3 - (s1.d + 1)) = (m : Int)
            omega
          · exfalso
            have := hpc.2.2 (by omega)
            omega
    · have hz : tm.get 53 = .bool false := by rw [z53]; simp [hlt]
      simp [ec_skip, ec_label, ek_reg, ek_draw, ek_seq, ec_cond, ek_block, ec_loop, ec_exit, ec_ret, ec_scope, ek_nil, ek_op, opK_some, regK_some, seqK_normal, seqK_exit, seqK_ret, blockK_normal, blockK_exit, blockK_ret, evOp, vOp, hOpB, hOpU, hOp, hOpT, aAppendG_tab, aWanted, aYielded, opd, putT, closedV, aBin, intOp, sameK, mapO, joinR, hasAddr, boundOf, pushB, aAlloc, Value.cells, lookB, setB, Nat.beq_eq, tm_n_set, tm_get_set, tm_of_n, tm_of_get, tm_tr_set, tm_tr_of, cellV, putF, appR_eq, takeR_eq, dropR_eq, setR_eq, getR_eq, ↓C75, ↓C76, ↓C77, ↓C79, ↓C17, ↓C18, ↓C22, ↓C71, FA24_0, FA24_1, FA24_2, FA24_3, FA24_4, FA24_5, FA24_6, FA24_7, FA24_8, LD3, LD4, LD22, LD27, LDr, LD24, LEN22, IA22, tkc, cellAt, hmk, hn', z0, z1, z4, z5, z7, hz, L0]
      exact ⟨_, _, _, ⟨rfl, rfl, rfl⟩, .inr ⟨by simp, rfl, s1, x1, u1, hKu, hB, hk0, hn1, hNV, by omega, hn', rfl, z0, z1, z4, z5⟩⟩)
  simp [ec_skip, ec_label, ek_reg, ek_draw, ek_seq, ec_cond, ek_block, ec_loop, ec_exit, ec_ret, ec_scope, ek_nil, ek_op, opK_some, regK_some, seqK_normal, seqK_exit, seqK_ret, blockK_normal, blockK_exit, blockK_ret, evOp, vOp, hOpB, hOpU, hOp, hOpT, aAppendG_tab, aWanted, aYielded, opd, putT, closedV, aBin, intOp, sameK, mapO, joinR, hasAddr, boundOf, pushB, aAlloc, Value.cells, lookB, setB, Nat.beq_eq, tm_n_set, tm_get_set, tm_of_n, tm_of_get, tm_tr_set, tm_tr_of, cellV, putF, appR_eq, takeR_eq, dropR_eq, setR_eq, getR_eq, ↓C75, ↓C76, ↓C77, ↓C79, ↓C17, ↓C18, ↓C22, ↓C71, FA24_0, FA24_1, FA24_2, FA24_3, FA24_4, FA24_5, FA24_6, FA24_7, FA24_8, LD3, LD4, LD22, LD27, LDr, LD24, LEN22, IA22, tkc, cellAt, hl, hmk, t0, t1, t4, t5]
  generalize hr3 : evLoop _ _ _ _ = r3
  obtain ⟨P, hP, hPb⟩ : ∃ P : Nat, PV s2 = (P : Int) ∧ P ≤ 17 := by
    obtain ⟨S, h1, h2, h3⟩ := PV_bd hB2 (by omega)
    have := hB2.w
    have := hB2.d
    have := hB2.n
    exact ⟨(PV s2).toNat, by omega, by omega⟩
  obtain ⟨y, A3, H3, rfl, rfl, s3, x4, u3, v3', hK3, hB3, hR3, hn3, hP3, hNV3, hle3, hl, hmk, t0, t1, t4, t5⟩ := loop_go (Q := QL3 N p me bs q1 P (3 * (3 * (me : Int) + 1) + 1 + s.de)) hr3 (IL3 N p me bs q1 P (3 * (3 * (me : Int) + 1) + 1 + s.de)) P (by omega) ⟨s2, x3, u2, .slice none 0 0, 0, hK2, hB2, ⟨by omega, fun i hi => by omega, fun i hi => by omega⟩, hn2, hP, hNV, hle, by omega, ⟨by simp [tm_n_set, hl], by simp [hmk], by simp [tm_get_set, tm_n_set, hl, t0], by simp [tm_get_set, tm_n_set, hl, t1], by simp [tm_get_set, tm_n_set, hl, t4], by simp [tm_get_set, tm_n_set, hl, t5]⟩, by simp [tm_get_set, tm_n_set, hl]⟩ (by
    clear hr3
    rintro m A ⟨nx, b1⟩ ⟨s1, x1, u1, u8, j, hK, hB, hR, hn1, hP1, hNV1, hle1, hjm, ⟨hl, hmk, t0, t1, t4, t5⟩, t8⟩
    simp only [runC]
    obtain ⟨z, hz⟩ : ∃ z, z = nx + 1 := ⟨_, rfl⟩
    have hnx : N + 1 < nx := hK.nx
    have hKu : KL N p bs ⟨z, b1⟩ x1 s1 u1 u8 := hK.up (nx := z) (by show nx ≤ z; omega)
    have hrle := hR.le
    have hnn := hB.n
    have cp : call (.func (.func 43) #[] #[]) [.agg #[.int .i64 s1.p, u1, .int .i64 s1.w, .int .i64 s1.d, .int .i64 s1.f, .int .i64 s1.c, .int .i64 s1.m, .int .i64 s1.de, u8]] ⟨nx, b1⟩ = some (.int .i64 (P : Int), ⟨z, b1⟩) := by
      rw [hz, ← hP1]
      exact hPl nx b1 s1 u1 u8 hK.mi hK.l1.lst (by omega)
    have L0 := hK.set
    simp only at L0
    cases m with
    | zero =>
      have hj : ¬ (j : Int) < P := by omega
      have hjn : ¬ j < P := by omega
      obtain rfl : j = P := by omega
      simp [ec_skip, ec_label, ek_reg, ek_draw, ek_seq, ec_cond, ek_block, ec_loop, ec_exit, ec_ret, ec_scope, ek_nil, ek_op, opK_some, regK_some, seqK_normal, seqK_exit, seqK_ret, blockK_normal, blockK_exit, blockK_ret, evOp, vOp, hOpB, hOpU, hOp, hOpT, aAppendG_tab, aWanted, aYielded, opd, putT, closedV, aBin, intOp, sameK, mapO, joinR, hasAddr, boundOf, pushB, aAlloc, Value.cells, lookB, setB, Nat.beq_eq, tm_n_set, tm_get_set, tm_of_n, tm_of_get, tm_tr_set, tm_tr_of, cellV, putF, appR_eq, takeR_eq, dropR_eq, setR_eq, getR_eq, ↓C75, ↓C76, ↓C77, ↓C79, ↓C17, ↓C18, ↓C22, ↓C71, FA24_0, FA24_1, FA24_2, FA24_3, FA24_4, FA24_5, FA24_6, FA24_7, FA24_8, LD3, LD4, LD22, LD27, LDr, LD24, LEN22, IA22, tkc, cellAt, hl, hmk, t0, t1, t4, t5, t8, cp, L0, ↓Cplain, hj, hjn]
      exact .inr ⟨by simp, rfl, s1, x1, u1, u8, hKu, hB, hR, hn1, hP1, hNV1, hle1, by simp [tm_n_set, hl], rfl, by simp [tm_get_set, tm_n_set, hl, t0], by simp [tm_get_set, tm_n_set, hl, t1], by simp [tm_get_set, tm_n_set, hl, t4], by simp [tm_get_set, tm_n_set, hl, t5]⟩
    | succ m =>
      have hj : (j : Int) < P := by omega
      have hjn : j < P := by omega
      have hw : wrapI .i64 ((j : Int) + 1) = (j : Int) + 1 := wrapI_small (by omega) (by omega)
      have hKs := hKu.step (y := stB x1)
      have od : call (.func (.func 77) #[] #[]) [.pointer (some ⟨p, 0, none⟩), .int .i64 6] ⟨z, b1⟩ = some (.bool (oddV x1 6), ⟨z, setB b1 p (sB (stB x1))⟩) := hS.odd z b1 x1 6 (by omega) (by omega) hKu.mi hKu.src
      have L2 := hKs.set
      simp only at L2
      by_cases ho : oddV x1 6 = true
      · obtain ⟨bs2, hs, hb1, hb2, hap⟩ := hKs.app8 (by omega)
        obtain ⟨cs, hg, hgk, e, hK3⟩ := hap (j : Int)
        have L3 := hb1.trans hKs.set
        have m1 : ¬ N + 1 = z := by omega
        have m2 : ¬ N = z := by omega
        have m3 : ¬ N + 1 = z + 1 := by omega
        simp only at e L3 hK3
        simp [ec_skip, ec_label, ek_reg, ek_draw, ek_seq, ec_cond, ek_block, ec_loop, ec_exit, ec_ret, ec_scope, ek_nil, ek_op, opK_some, regK_some, seqK_normal, seqK_exit, seqK_ret, blockK_normal, blockK_exit, blockK_ret, evOp, vOp, hOpB, hOpU, hOp, hOpT, aAppendG_tab, aWanted, aYielded, opd, putT, closedV, aBin, intOp, sameK, mapO, joinR, hasAddr, boundOf, pushB, aAlloc, Value.cells, lookB, setB, Nat.beq_eq, tm_n_set, tm_get_set, tm_of_n, tm_of_get, tm_tr_set, tm_tr_of, cellV, putF, appR_eq, takeR_eq, dropR_eq, setR_eq, getR_eq, ↓C75, ↓C76, ↓C77, ↓C79, ↓C17, ↓C18, ↓C22, ↓C71, FA24_0, FA24_1, FA24_2, FA24_3, FA24_4, FA24_5, FA24_6, FA24_7, FA24_8, LD3, LD4, LD22, LD27, LDr, LD24, LEN22, IA22, tkc, cellAt, hl, hmk, t0, t1, t4, t5, t8, cp, L0, L2, L3, ↓Cplain, ↓Godd, hj, hjn, od, ho, BS22, APT22, e, ST22, m1, m2, m3, hw, partsO]
        exact .inl ⟨rfl, m, rfl, { s1 with k := s1.k + 1, h := gi cs }, stB x1, u1, _, j + 1, hK3, ⟨hB.p, hB.m, hB.c, hB.w, hB.d, hB.f, hB.de, hB.g, hB.n⟩, hR.app cs hg hgk, hn1, hP1, hNV1, hle1, by omega, ⟨by simp [tm_n_set, hl], by simp [hmk], by simp [tm_get_set, tm_n_set, hl, t0], by simp [tm_get_set, tm_n_set, hl, t1], by simp [tm_get_set, tm_n_set, hl, t4], by simp [tm_get_set, tm_n_set, hl, t5]⟩, by simp [tm_get_set, tm_n_set, hl]⟩
      · simp [ec_skip, ec_label, ek_reg, ek_draw, ek_seq, ec_cond, ek_block, ec_loop, ec_exit, ec_ret, ec_scope, ek_nil, ek_op, opK_some, regK_some, seqK_normal, seqK_exit, seqK_ret, blockK_normal, blockK_exit, blockK_ret, evOp, vOp, hOpB, hOpU, hOp, hOpT, aAppendG_tab, aWanted, aYielded, opd, putT, closedV, aBin, intOp, sameK, mapO, joinR, hasAddr, boundOf, pushB, aAlloc, Value.cells, lookB, setB, Nat.beq_eq, tm_n_set, tm_get_set, tm_of_n, tm_of_get, tm_tr_set, tm_tr_of, cellV, putF, appR_eq, takeR_eq, dropR_eq, setR_eq, getR_eq, ↓C75, ↓C76, ↓C77, ↓C79, ↓C17, ↓C18, ↓C22, ↓C71, FA24_0, FA24_1, FA24_2, FA24_3, FA24_4, FA24_5, FA24_6, FA24_7, FA24_8, LD3, LD4, LD22, LD27, LDr, LD24, LEN22, IA22, tkc, cellAt, hl, hmk, t0, t1, t4, t5, t8, cp, L0, L2, ↓Cplain, ↓Godd, hj, hjn, od, ho, hw]
        exact .inl ⟨rfl, m, rfl, s1, stB x1, u1, u8, j + 1, hKs, hB, hR.mono, hn1, hP1, hNV1, hle1, by omega, ⟨by simp [tm_n_set, hl], by simp [hmk], by simp [tm_get_set, tm_n_set, hl, t0], by simp [tm_get_set, tm_n_set, hl, t1], by simp [tm_get_set, tm_n_set, hl, t4], by simp [tm_get_set, tm_n_set, hl, t5]⟩, by simp [tm_get_set, tm_n_set, hl]⟩)
  have LS3 := hK3.set
  have LR3 := hK3.res
  have h1 := hK3.l1
  have h8 := hK3.l8
  rcases h1 with ⟨_, h⟩ | ⟨a3, cs3, rfl, g1, g2, g3, g4, g5, g6⟩
  · omega
  · rcases h8 with ⟨rfl, h8k⟩ | ⟨a8, cs8, rfl, f1, f2, f3, f4, f5, f6⟩
    · simp [ec_skip, ec_label, ek_reg, ek_draw, ek_seq, ec_cond, ek_block, ec_loop, ec_exit, ec_ret, ec_scope, ek_nil, ek_op, opK_some, regK_some, seqK_normal, seqK_exit, seqK_ret, blockK_normal, blockK_exit, blockK_ret, evOp, vOp, hOpB, hOpU, hOp, hOpT, aAppendG_tab, aWanted, aYielded, opd, putT, closedV, aBin, intOp, sameK, mapO, joinR, hasAddr, boundOf, pushB, aAlloc, Value.cells, lookB, setB, Nat.beq_eq, tm_n_set, tm_get_set, tm_of_n, tm_of_get, tm_tr_set, tm_tr_of, cellV, putF, appR_eq, takeR_eq, dropR_eq, setR_eq, getR_eq, ↓C75, ↓C76, ↓C77, ↓C79, ↓C17, ↓C18, ↓C22, ↓C71, FA24_0, FA24_1, FA24_2, FA24_3, FA24_4, FA24_5, FA24_6, FA24_7, FA24_8, LD3, LD4, LD22, LD27, LDr, LD24, LEN22, IA22, tkc, cellAt, hl, hmk, t0, t1, t4, t5, LS3, LR3, ST24, finF, takeM, resV, cleanedG, kp, gc, lookB_setB]
      exact lit_end hK3 hB3 hR3 hP3 (by omega) (by omega) _
    · simp [ec_skip, ec_label, ek_reg, ek_draw, ek_seq, ec_cond, ek_block, ec_loop, ec_exit, ec_ret, ec_scope, ek_nil, ek_op, opK_some, regK_some, seqK_normal, seqK_exit, seqK_ret, blockK_normal, blockK_exit, blockK_ret, evOp, vOp, hOpB, hOpU, hOp, hOpT, aAppendG_tab, aWanted, aYielded, opd, putT, closedV, aBin, intOp, sameK, mapO, joinR, hasAddr, boundOf, pushB, aAlloc, Value.cells, lookB, setB, Nat.beq_eq, tm_n_set, tm_get_set, tm_of_n, tm_of_get, tm_tr_set, tm_tr_of, cellV, putF, appR_eq, takeR_eq, dropR_eq, setR_eq, getR_eq, ↓C75, ↓C76, ↓C77, ↓C79, ↓C17, ↓C18, ↓C22, ↓C71, FA24_0, FA24_1, FA24_2, FA24_3, FA24_4, FA24_5, FA24_6, FA24_7, FA24_8, LD3, LD4, LD22, LD27, LDr, LD24, LEN22, IA22, tkc, cellAt, hl, hmk, t0, t1, t4, t5, LS3, LR3, ST24, finF, takeM, resV, cleanedG, kp, gc, lookB_setB]
      exact lit_end hK3 hB3 hR3 hP3 (by omega) (by omega) _

end

section
set_option linter.unusedSimpArgs false
set_option linter.unusedVariables false

theorem redsG_zero (h : Nat → Int) (last : Int) : ∀ (m i : Nat) (b : Int), (∀ j, i ≤ j → j < i + m → 0 ≤ h j ∧ h j ≤ last) → (∀ j, i ≤ j → j + 1 < i + m → h j < h (j + 1)) → (0 < m → b < h i) → redsG h last m i b = 0
  | 0, _, _, _, _, _ => rfl
  | m + 1, i, b, h1, h2, h3 => by
    have a := h1 i (Nat.le_refl _) (by omega)
    have c := h3 (by omega)
    rw [redsG, if_pos (btw_iff.2 a), if_neg (by omega)]
    exact redsG_zero h last m (i + 1) (h i) (fun j x y => h1 j (by omega) (by omega)) (fun j x y => h2 j (by omega) (by omega)) (fun hm => h2 i (Nat.le_refl _) (by omega))
theorem plain_PV {me : Int} {s : SV} (hB : LB me s) (h1 : 1 ≤ s.n) : s.plain = PV s := by
  have hn := hB.n
  have g0 := hB.g 0 (by omega)
  have hw := hB.w
  have hd := hB.d
  have a0 : wrapI .i64 (s.w + s.d) = s.w + s.d := wrapI_small (by omega) (by omega)
  obtain ⟨S, hPV, _, _⟩ := PV_bd hB h1
  rcases (show s.n = 1 ∨ s.n = 2 by omega) with h | h
  · have a1 : wrapI .i64 (0 + s.g 0) = s.g 0 := (wrapI_small (by omega) (by omega)).trans (by omega)
    have a2 : wrapI .i64 (s.g 0 + s.w) = s.g 0 + s.w := wrapI_small (by omega) (by omega)
    have a3 : wrapI .i64 (s.g 0 + s.w + s.d) = s.g 0 + s.w + s.d := wrapI_small (by omega) (by omega)
    have a4 : wrapI .i64 (s.w + s.d + s.g 0) = s.w + s.d + s.g 0 := wrapI_small (by omega) (by omega)
    unfold PV SV.plain
    rw [h]
    simp only [sumG]
    rw [a0, a1, a2, a3, a4]
    omega
  · have g1 := hB.g 1 (by omega)
    have g1' : 3 ≤ s.g (0 + 1) ∧ s.g (0 + 1) ≤ 5 := g1
    have e1 : s.g (0 + 1) = s.g 1 := rfl
    have a1 : wrapI .i64 (0 + s.g 0) = s.g 0 := (wrapI_small (by omega) (by omega)).trans (by omega)
    have a5 : wrapI .i64 (s.g 0 + s.g 1) = s.g 0 + s.g 1 := wrapI_small (by omega) (by omega)
    have a2 : wrapI .i64 (s.g 0 + s.g 1 + s.w) = s.g 0 + s.g 1 + s.w := wrapI_small (by omega) (by omega)
    have a3 : wrapI .i64 (s.g 0 + s.g 1 + s.w + s.d) = s.g 0 + s.g 1 + s.w + s.d := wrapI_small (by omega) (by omega)
    have a4 : wrapI .i64 (s.w + s.d + s.g 0) = s.w + s.d + s.g 0 := wrapI_small (by omega) (by omega)
    have a6 : wrapI .i64 (s.w + s.d + s.g 0 + s.g 1) = s.w + s.d + s.g 0 + s.g 1 := wrapI_small (by omega) (by omega)
    unfold PV SV.plain
    rw [h]
    simp only [sumG, e1]
    rw [a0, a1, a5, a2, a3, a4, a6]
    omega
theorem little_valid {me : Int} {s : SV} {P : Nat} (hme : 1 ≤ me ∧ me ≤ 2) (hB : LB me s) (hR : RD s P) (hP : PV s = (P : Int)) (h1 : 1 ≤ s.n) (hle : 3 * (3 * me + 1) + 1 + s.de ≤ PV s * s.c + s.f) : s.err = 0 := by
  have hpl := plain_PV hB h1
  obtain ⟨S, hPV, hS1, hS2⟩ := PV_bd hB h1
  have hn := hB.n
  have hw := hB.w
  have hd := hB.d
  have hf := hB.f
  have hc := hB.c
  have hde := hB.de
  have hp := hB.p
  have hm := hB.m
  have b0 : ruleB s 0 = true := btw_iff.2 (by omega)
  have b1 : ruleB s 1 = true := decide_eq_true (by omega)
  have b2 : ruleB s 2 = true := by
    have i0 := hB.g 0 (by omega)
    have t0 : btw (s.g 0) 1 9 = true := btw_iff.2 (by omega)
    rcases (show s.n = 1 ∨ s.n = 2 by omega) with h | h
    · simp [ruleB, anyBad, h, idxBad, t0]
    · have i1 := hB.g 1 (by omega)
      have t1 : btw (s.g 1) 1 9 = true := btw_iff.2 (by omega)
      simp [ruleB, anyBad, h, idxBad, t0, t1]
  have b3 : ruleB s 3 = true := btw_iff.2 (by omega)
  have b4 : ruleB s 4 = true := btw_iff.2 (by omega)
  have b5 : ruleB s 5 = true := btw_iff.2 (by omega)
  have b6 : ruleB s 6 = true := btw_iff.2 (by omega)
  have b7 : ruleB s 7 = true := btw_iff.2 (by omega)
  have b8 : ruleB s 8 = true := btw_iff.2 (by omega)
  have b9 : ruleB s 9 = true := decide_eq_true (by omega)
  have b10 : ruleB s 10 = true := by
    have e : s.reds = 0 := by
      have w0 : wrapI .i64 (s.plain - 1) = s.plain - 1 := wrapI_small (by omega) (by omega)
      unfold SV.reds
      rw [w0]
      exact redsG_zero _ _ _ _ _ (fun j _ hj => by have := hR.bd j (by omega); omega) (fun j _ hj => hR.up j (by omega)) (fun hk => by have := hR.bd 0 hk; omega)
    simp [ruleB, e]
  have b11 : ruleB s 11 = true := by
    have hpc : 0 ≤ PV s * s.c ∧ PV s * s.c ≤ 68 := by
      rcases (show s.c = 2 ∨ s.c = 3 ∨ s.c = 4 by omega) with h | h | h <;> rw [h] <;> omega
    have v1 : wrapI .i64 (3 * s.m) = 3 * s.m := wrapI_small (by omega) (by omega)
    have v2 : wrapI .i64 (3 * s.m + 1) = 3 * s.m + 1 := wrapI_small (by omega) (by omega)
    have v3 : wrapI .i64 (s.p * (3 * s.m + 1)) = 3 * (3 * s.m + 1) := by rw [hp]; exact wrapI_small (by omega) (by omega)
    have v4 : wrapI .i64 (3 * (3 * s.m + 1) + 1) = 3 * (3 * s.m + 1) + 1 := wrapI_small (by omega) (by omega)
    have v5 : wrapI .i64 (3 * (3 * s.m + 1) + 1 + s.de) = 3 * (3 * s.m + 1) + 1 + s.de := wrapI_small (by omega) (by omega)
    have v6 : wrapI .i64 (s.plain * s.c) = PV s * s.c := by rw [hpl]; exact wrapI_small (by omega) (by omega)
    have v7 : wrapI .i64 (PV s * s.c + s.f) = PV s * s.c + s.f := wrapI_small (by omega) (by omega)
    show decide (s.size ≥ wrapI .i64 (wrapI .i64 (wrapI .i64 (s.p * s.full) + 1) + s.de)) = true
    unfold SV.size SV.full
    rw [v1, v2, v3, v4, v5, v6, v7]
    exact decide_eq_true (by rw [hm]; omega)
  simp [SV.err, firstE, b0, b1, b2, b3, b4, b5, b6, b7, b8, b9, b10, b11]
noncomputable def bigS : SV := ⟨4, 3, gi [.int .i64 9, .int .i64 9, .int .i64 9], 4, 3, 0, 4, 4, 14, 3, gi [.int .i64 4, .int .i64 13, .int .i64 22]⟩
theorem big_valid : bigS.err = 0 := by
  kernel_rfl
/-- What SetOf leaves. -/
def SetEnd (N p : Nat) (bs : List (Nat × ABlk)) (r : Option (Value × AH)) : Prop := ∃ (s : SV) (u1 u8 : Value) (H' : AH), r = some (.agg #[.int .i64 s.p, u1, .int .i64 s.w, .int .i64 s.d, .int .i64 s.f, .int .i64 s.c, .int .i64 s.m, .int .i64 s.de, u8], H') ∧ MI H' ∧ N ≤ H'.next ∧ (∀ j, j < N → j ≠ p → lookB H'.bs j = lookB bs j) ∧ FL N H' u1 s.n s.g ∧ FL N H' u8 s.k s.h ∧ s.err = 0 ∧ s.k ≤ 200 ∧ 1 ≤ s.n
theorem kpb : kpT 60 = false := by kernel_rfl
theorem gcb : gcT 60 = false := by kernel_rfl
theorem kps : kpT 36 = false := by kernel_rfl
theorem gcs : gcT 36 = false := by kernel_rfl
theorem BS3 (H : AH) (a b c : Int) : aBuildSlice (tabT Try.prog) H 22 3 [(0, .int .i64 a), (1, .int .i64 b), (2, .int .i64 c)] = some (.slice (some ⟨H.next, 0, none⟩) 3 1, pushB H (.cells false [.int .i64 a, .int .i64 b, .int .i64 c])) := by kernel_rfl
theorem BDb (u v : Option Addr) (n k : Nat) : aBuild (tabT Try.prog) 24 [(0, .int .i64 4), (1, .slice u n 1), (2, .int .i64 4), (3, .int .i64 3), (5, .int .i64 4), (6, .int .i64 4), (7, .int .i64 14), (8, .slice v k 1)] = some (.agg #[.int .i64 4, .slice u n 1, .int .i64 4, .int .i64 3, .int .i64 0, .int .i64 4, .int .i64 4, .int .i64 14, .slice v k 1]) := by kernel_rfl
set_option maxRecDepth 10000 in
set_option maxHeartbeats 8000000 in
theorem big_ev {L : Nat} (call : Value → List Value → AH → Option (Value × AH)) (M : Nat) (b : List (Nat × ABlk)) : evFn (tabT Try.prog) call (L + 300) kpT 60 Try.f60 [] ⟨M, b⟩ = some (.agg #[.int .i64 4, .slice (some ⟨M + 1, 0, none⟩) 3 1, .int .i64 4, .int .i64 3, .int .i64 0, .int .i64 4, .int .i64 4, .int .i64 14, .slice (some ⟨M + 2, 0, none⟩) 3 1], ⟨M + 3, (M + 2, .cells false [.int .i64 4, .int .i64 13, .int .i64 22]) :: (M + 1, .cells false [.int .i64 9, .int .i64 9, .int .i64 9]) :: (M, .cells false [.int .i64 4, .slice (some ⟨M + 1, 0, none⟩) 3 1, .int .i64 4, .int .i64 3, .int .i64 0, .int .i64 4, .int .i64 4, .int .i64 14, .slice (some ⟨M + 2, 0, none⟩) 3 1]) :: b⟩) := by
  have kp := kpb
  have gc := gcb
  have mm : ¬ M = M + 1 + 1 := by omega
  simp only [evFn, Try.f60]
  simp [ec_skip, ec_label, ek_reg, ek_draw, ek_seq, ec_cond, ek_block, ec_loop, ec_exit, ec_ret, ec_scope, ek_nil, ek_op, opK_some, regK_some, seqK_normal, seqK_exit, seqK_ret, blockK_normal, blockK_exit, blockK_ret, evOp, vOp, hOpB, hOpU, hOp, hOpT, aAppendG_tab, aWanted, aYielded, opd, putT, closedV, aBin, intOp, sameK, mapO, joinR, hasAddr, boundOf, pushB, aAlloc, Value.cells, lookB, setB, Nat.beq_eq, tm_n_set, tm_get_set, tm_of_n, tm_of_get, tm_tr_set, tm_tr_of, cellV, putF, appR_eq, takeR_eq, dropR_eq, setR_eq, getR_eq, ↓C75, ↓C76, ↓C77, ↓C79, ↓C17, ↓C18, ↓C22, ↓C71, FA24_0, FA24_1, FA24_2, FA24_3, FA24_4, FA24_5, FA24_6, FA24_7, FA24_8, LD3, LD4, LD22, LD27, LDr, LD24, LEN22, IA22, tkc, cellAt, ↓AL24, BS3, BDb, partsO, ST24, finF, takeM, resV, cleanedG, kp, gc, mm]
theorem Cbig (call : Value → List Value → AH → Option (Value × AH)) {tm : Tm} {H : AH} {d : Option Tmp} {t : TypeId} {p : String} {a : Array Edge} {gd : Option (Nat × Bool)} : evOp (tabT Try.prog) call ⟨d, .call ⟨.value (.func 60), #[], #[]⟩, t, p, a, gd⟩ (opd tm) H = call (.func (.func 60) #[] #[]) [] H :=
  evOp_evO.trans (eo_call0 rfl)
theorem Nlit : ((tabT Try.prog) 50).map (fun z => z.ex.nat 78) = some none := by kernel_rfl
theorem Clit (call : Value → List Value → AH → Option (Value × AH)) {tm : Tm} {i j : Nat} {H : AH} {d : Option Tmp} {t : TypeId} {p : String} {a : Array Edge} {gd : Option (Nat × Bool)} : evOp (tabT Try.prog) call ⟨d, .call ⟨.value (.func 78), #[.tmp i, .tmp j], #[50, 3]⟩, t, p, a, gd⟩ (opd tm) H = call (.func (.func 78) #[] #[]) [tm.get i, tm.get j] H :=
  evOp_evO.trans (eo_call2n rfl rfl rfl Nlit)
theorem FL.cv {lo n : Nat} {H : AH} {u : Value} {g : Nat → Int} (h : FL lo H u n g) : cellV u = true := by
  rcases h with ⟨rfl, rfl⟩ | ⟨a, cs, rfl, _⟩ <;> rfl
theorem set_end {N p : Nat} {bs b0 : List (Nat × ABlk)} {s : SV} {u1 u8 : Value} {H : AH} (hM : MI H) (hn : N + 1 ≤ H.next) (hold : ∀ j, j < N + 1 → j ≠ p → lookB H.bs j = lookB b0 j) (h0 : ∀ j, j < N → j ≠ p → lookB b0 j = lookB bs j) (h1 : FL (N + 1) H u1 s.n s.g) (h8 : FL (N + 1) H u8 s.k s.h) (he : s.err = 0) (hk2 : s.k ≤ 200) (hn2 : 1 ≤ s.n) (v : ABlk) : SetEnd N p bs (some (.agg #[.int .i64 s.p, u1, .int .i64 s.w, .int .i64 s.d, .int .i64 s.f, .int .i64 s.c, .int .i64 s.m, .int .i64 s.de, u8], ⟨H.next, setB H.bs N v⟩)) := by
  have e : ∀ j, j ≠ N → lookB (setB H.bs N v) j = lookB H.bs j := fun j hj => by rw [lookB_setB, if_neg hj]
  have f1 : FL (N + 1) ⟨H.next, setB H.bs N v⟩ u1 s.n s.g := h1.mono (Nat.le_refl _) fun a _ h2 _ => e a (by omega)
  have f8 : FL (N + 1) ⟨H.next, setB H.bs N v⟩ u8 s.k s.h := h8.mono (Nat.le_refl _) fun a _ h2 _ => e a (by omega)
  exact ⟨s, u1, u8, _, rfl, hM.set _ _, by show N ≤ H.next; omega, fun j a b => (e j (by omega)).trans ((hold j (by omega) b).trans (h0 j a b)), f1.weak (by omega), f8.weak (by omega), he, hk2, hn2⟩
set_option maxRecDepth 10000 in
set_option maxHeartbeats 8000000 in
theorem setof_ev {L : Nat} (call : Value → List Value → AH → Option (Value × AH)) (p N : Nat) (bs : List (Nat × ABlk)) (x : Int) (hM : MI ⟨N, bs⟩) (hp : lookB bs p = some (sB x)) (hS : SrcOK call p)
    (hbig : ∀ (M : Nat) (b : List (Nat × ABlk)), call (.func (.func 60) #[] #[]) [] ⟨M, b⟩ = some (.agg #[.int .i64 4, .slice (some ⟨M + 1, 0, none⟩) 3 1, .int .i64 4, .int .i64 3, .int .i64 0, .int .i64 4, .int .i64 4, .int .i64 14, .slice (some ⟨M + 2, 0, none⟩) 3 1], ⟨M + 3, (M + 2, .cells false [.int .i64 4, .int .i64 13, .int .i64 22]) :: (M + 1, .cells false [.int .i64 9, .int .i64 9, .int .i64 9]) :: (M, .cells false [.int .i64 4, .slice (some ⟨M + 1, 0, none⟩) 3 1, .int .i64 4, .int .i64 3, .int .i64 0, .int .i64 4, .int .i64 4, .int .i64 14, .slice (some ⟨M + 2, 0, none⟩) 3 1]) :: b⟩))
    (hlit : ∀ (M : Nat) (b : List (Nat × ABlk)) (y : Int) (me : Nat), me = 1 ∨ me = 2 → MI ⟨M, b⟩ → lookB b p = some (sB y) → LitEnd M p (me : Int) b (call (.func (.func 78) #[] #[]) [.pointer (some ⟨p, 0, none⟩), .int .i64 (me : Int)] ⟨M, b⟩)) :
    SetEnd N p bs (evFn (tabT Try.prog) call (L + 300) kpT 36 Try.f36 [.pointer (some ⟨p, 0, none⟩)] ⟨N, bs⟩) := by
  have kp := kps
  have gc := gcs
  have hpN : p < N := hM.2 _ (lookB_mem hp)
  have n1 : ¬ p = N := by omega
  have hZ : MI ⟨N + 1, (N, .cells false [.int .i64 0, .slice none 0 0, .int .i64 0, .int .i64 0, .int .i64 0, .int .i64 0, .int .i64 0, .int .i64 0, .slice none 0 0]) :: bs⟩ := hM.push _
  have lk : ∀ y, lookB ((N, ABlk.cells false [.int .i64 0, .slice none 0 0, .int .i64 0, .int .i64 0, .int .i64 0, .int .i64 0, .int .i64 0, .int .i64 0, .slice none 0 0]) :: setB bs p (sB y)) p = some (sB y) := fun y => by
    simp only [lookB, beq_ne n1, Bool.false_eq_true, if_false]
    rw [lookB_setB, if_pos rfl, hp]; rfl
  have mk : ∀ y, MI ⟨N + 1, (N, .cells false [.int .i64 0, .slice none 0 0, .int .i64 0, .int .i64 0, .int .i64 0, .int .i64 0, .int .i64 0, .int .i64 0, .slice none 0 0]) :: setB bs p (sB y)⟩ := fun y => (hM.set p (sB y)).push _
  have up : ∀ y y', setB ((N, ABlk.cells false [.int .i64 0, .slice none 0 0, .int .i64 0, .int .i64 0, .int .i64 0, .int .i64 0, .int .i64 0, .int .i64 0, .slice none 0 0]) :: setB bs p (sB y)) p (sB y') = (N, ABlk.cells false [.int .i64 0, .slice none 0 0, .int .i64 0, .int .i64 0, .int .i64 0, .int .i64 0, .int .i64 0, .int .i64 0, .slice none 0 0]) :: setB bs p (sB y') := fun y y' => by
    simp only [setB, beq_ne n1, Bool.false_eq_true, if_false, setB_setB]
  have c1 : call (.func (.func 77) #[] #[]) [.pointer (some ⟨p, 0, none⟩), .int .i64 6] ⟨N + 1, (N, .cells false [.int .i64 0, .slice none 0 0, .int .i64 0, .int .i64 0, .int .i64 0, .int .i64 0, .int .i64 0, .int .i64 0, .slice none 0 0]) :: bs⟩ = some (.bool (oddV x 6), ⟨N + 1, (N, .cells false [.int .i64 0, .slice none 0 0, .int .i64 0, .int .i64 0, .int .i64 0, .int .i64 0, .int .i64 0, .int .i64 0, .slice none 0 0]) :: setB bs p (sB (stB x))⟩) := by
    have := hS.odd (N + 1) ((N, .cells false [.int .i64 0, .slice none 0 0, .int .i64 0, .int .i64 0, .int .i64 0, .int .i64 0, .int .i64 0, .int .i64 0, .slice none 0 0]) :: bs) x 6 (by omega) (by omega) hZ (by simp only [lookB, beq_ne n1, Bool.false_eq_true, if_false]; exact hp)
    simp only [setB, beq_ne n1, Bool.false_eq_true, if_false] at this
    exact this
  have c2 : ∀ y, call (.func (.func 79) #[] #[]) [.pointer (some ⟨p, 0, none⟩), .int .i64 1, .int .i64 2] ⟨N + 1, (N, .cells false [.int .i64 0, .slice none 0 0, .int .i64 0, .int .i64 0, .int .i64 0, .int .i64 0, .int .i64 0, .int .i64 0, .slice none 0 0]) :: setB bs p (sB y)⟩ = some (.int .i64 (rngV y 1 2), ⟨N + 1, (N, .cells false [.int .i64 0, .slice none 0 0, .int .i64 0, .int .i64 0, .int .i64 0, .int .i64 0, .int .i64 0, .int .i64 0, .slice none 0 0]) :: setB bs p (sB (stB y))⟩) := fun y => by
    have := hS.ran (N + 1) _ y 1 2 (by omega) (by omega) (mk y) (lk y)
    rw [up] at this
    exact this
  simp only [evFn, Try.f36]
  by_cases ho : oddV x 6 = true
  · have hb := hbig (N + 1) ((N, .cells false [.int .i64 0, .slice none 0 0, .int .i64 0, .int .i64 0, .int .i64 0, .int .i64 0, .int .i64 0, .int .i64 0, .slice none 0 0]) :: setB bs p (sB (stB x)))
    have q1 : ¬ N = N + 1 + 2 := by omega
    have q2 : ¬ N = N + 1 + 1 := by omega
    have q3 : ¬ N = N + 1 := by omega
    simp [ec_skip, ec_label, ek_reg, ek_draw, ek_seq, ec_cond, ek_block, ec_loop, ec_exit, ec_ret, ec_scope, ek_nil, ek_op, opK_some, regK_some, seqK_normal, seqK_exit, seqK_ret, blockK_normal, blockK_exit, blockK_ret, evOp, vOp, hOpB, hOpU, hOp, hOpT, aAppendG_tab, aWanted, aYielded, opd, putT, closedV, aBin, intOp, sameK, mapO, joinR, hasAddr, boundOf, pushB, aAlloc, Value.cells, lookB, setB, Nat.beq_eq, tm_n_set, tm_get_set, tm_of_n, tm_of_get, tm_tr_set, tm_tr_of, cellV, putF, appR_eq, takeR_eq, dropR_eq, setR_eq, getR_eq, ↓C75, ↓C76, ↓C77, ↓C79, ↓C17, ↓C18, ↓C22, ↓C71, FA24_0, FA24_1, FA24_2, FA24_3, FA24_4, FA24_5, FA24_6, FA24_7, FA24_8, LD3, LD4, LD22, LD27, LDr, LD24, LEN22, IA22, tkc, cellAt, ↓AL24, ↓Godd, c1, ho, ↓Cbig, hb, ST24, finF, takeM, resV, cleanedG, kp, gc, q1, q2, q3]
    have mE : MI ⟨N + 1 + 3, (N + 1 + 2, .cells false [.int .i64 4, .int .i64 13, .int .i64 22]) :: (N + 1 + 1, .cells false [.int .i64 9, .int .i64 9, .int .i64 9]) :: (N + 1, .cells false [.int .i64 4, .slice (some ⟨N + 1 + 1, 0, none⟩) 3 1, .int .i64 4, .int .i64 3, .int .i64 0, .int .i64 4, .int .i64 4, .int .i64 14, .slice (some ⟨N + 1 + 2, 0, none⟩) 3 1]) :: (N, .cells false [.int .i64 0, .slice none 0 0, .int .i64 0, .int .i64 0, .int .i64 0, .int .i64 0, .int .i64 0, .int .i64 0, .slice none 0 0]) :: setB bs p (sB (stB x))⟩ := (((mk (stB x)).push _).push _).push _
    have r1 : ¬ N + 1 + 1 = N + 1 + 2 := by omega
    have fin := set_end (N := N) (p := p) (bs := bs) (b0 := (N, .cells false [.int .i64 0, .slice none 0 0, .int .i64 0, .int .i64 0, .int .i64 0, .int .i64 0, .int .i64 0, .int .i64 0, .slice none 0 0]) :: setB bs p (sB (stB x))) (s := bigS) (u1 := .slice (some ⟨N + 1 + 1, 0, none⟩) 3 1) (u8 := .slice (some ⟨N + 1 + 2, 0, none⟩) 3 1) mE (by show N + 1 ≤ N + 1 + 3; omega) (fun j hj hjp => by
        have a1 : ¬ j = N + 1 + 2 := by omega
        have a2 : ¬ j = N + 1 + 1 := by omega
        have a3 : ¬ j = N + 1 := by omega
        simp only [lookB, beq_ne a1, beq_ne a2, beq_ne a3, Bool.false_eq_true, if_false]) (fun j hj hjp => by
        have a1 : ¬ j = N := by omega
        simp only [lookB, beq_ne a1, Bool.false_eq_true, if_false, lookB_setB, if_neg hjp]) (.inr ⟨N + 1 + 1, [.int .i64 9, .int .i64 9, .int .i64 9], rfl, by omega, by show N + 1 + 1 < N + 1 + 3; omega, by simp only [lookB, beq_ne r1, Nat.beq_refl, Bool.false_eq_true, if_false, if_true], rfl, rfl, by decide⟩) (.inr ⟨N + 1 + 2, [.int .i64 4, .int .i64 13, .int .i64 22], rfl, by omega, by show N + 1 + 2 < N + 1 + 3; omega, by simp only [lookB, Nat.beq_refl, if_true], rfl, rfl, by decide⟩) big_valid (by decide) (by decide) (.cells false [.int .i64 4, .slice (some ⟨N + 1 + 1, 0, none⟩) 3 1, .int .i64 4, .int .i64 3, .int .i64 0, .int .i64 4, .int .i64 4, .int .i64 14, .slice (some ⟨N + 1 + 2, 0, none⟩) 3 1])
    simp only [setB, beq_ne q1, beq_ne q2, beq_ne q3, Nat.beq_refl, Bool.false_eq_true, if_false, if_true] at fin
    exact fin
  · obtain ⟨me, hme, hme2⟩ : ∃ me : Nat, rngV (stB x) 1 2 = (me : Int) ∧ (me = 1 ∨ me = 2) := by
      have := rngV_bd (stB x) (lo := 1) (hi := 2) (by omega) (by omega)
      exact ⟨(rngV (stB x) 1 2).toNat, by omega, by omega⟩
    obtain ⟨s, y, u1, u8, P, H', hr, hMI, hnx, hsrc, hold, h1, h8, hB, hR, hP, hn, hle⟩ := hlit (N + 1) ((N, .cells false [.int .i64 0, .slice none 0 0, .int .i64 0, .int .i64 0, .int .i64 0, .int .i64 0, .int .i64 0, .int .i64 0, .slice none 0 0]) :: setB bs p (sB (stB (stB x)))) (stB (stB x)) me hme2 (mk _) (lk _)
    have hz : lookB H'.bs N = some (.cells false [.int .i64 0, .slice none 0 0, .int .i64 0, .int .i64 0, .int .i64 0, .int .i64 0, .int .i64 0, .int .i64 0, .slice none 0 0]) := (hold N (by omega) (by omega)).trans (by simp [lookB])
    have c2p := c2 (stB x)
    rw [hme] at c2p
    have v1 := h1.cv
    have v8 := h8.cv
    have he := little_valid (by omega) hB hR hP hn hle
    have hk2 : s.k ≤ 200 := by
      have a1 := hR.le
      obtain ⟨S, a2, a3, a4⟩ := PV_bd hB hn
      have := hB.n
      have := hB.w
      have := hB.d
      omega
    have hfin := set_end (N := N) (p := p) (bs := bs) hMI hnx hold (fun j hj hjp => by
        have a1 : ¬ j = N := by omega
        simp only [lookB, beq_ne a1, Bool.false_eq_true, if_false, lookB_setB, if_neg hjp]) h1 h8 he hk2 hn
    rcases h1 with ⟨_, h⟩ | ⟨a3, cs3, rfl, g1, g2, g3, g4, g5, g6⟩
    · omega
    · rcases h8 with ⟨rfl, h8k⟩ | ⟨a8, cs8, rfl, f1, f2, f3, f4, f5, f6⟩
      · simp [ec_skip, ec_label, ek_reg, ek_draw, ek_seq, ec_cond, ek_block, ec_loop, ec_exit, ec_ret, ec_scope, ek_nil, ek_op, opK_some, regK_some, seqK_normal, seqK_exit, seqK_ret, blockK_normal, blockK_exit, blockK_ret, evOp, vOp, hOpB, hOpU, hOp, hOpT, aAppendG_tab, aWanted, aYielded, opd, putT, closedV, aBin, intOp, sameK, mapO, joinR, hasAddr, boundOf, pushB, aAlloc, Value.cells, lookB, setB, Nat.beq_eq, tm_n_set, tm_get_set, tm_of_n, tm_of_get, tm_tr_set, tm_tr_of, cellV, putF, appR_eq, takeR_eq, dropR_eq, setR_eq, getR_eq, ↓C75, ↓C76, ↓C77, ↓C79, ↓C17, ↓C18, ↓C22, ↓C71, FA24_0, FA24_1, FA24_2, FA24_3, FA24_4, FA24_5, FA24_6, FA24_7, FA24_8, LD3, LD4, LD22, LD27, LDr, LD24, LEN22, IA22, tkc, cellAt, ↓AL24, ↓Godd, ↓Cran, ↓Clit, c1, c2p, ho, hr, hz, ST24, finF, takeM, resV, cleanedG, kp, gc, lookB_setB]
        exact hfin _
      · simp [ec_skip, ec_label, ek_reg, ek_draw, ek_seq, ec_cond, ek_block, ec_loop, ec_exit, ec_ret, ec_scope, ek_nil, ek_op, opK_some, regK_some, seqK_normal, seqK_exit, seqK_ret, blockK_normal, blockK_exit, blockK_ret, evOp, vOp, hOpB, hOpU, hOp, hOpT, aAppendG_tab, aWanted, aYielded, opd, putT, closedV, aBin, intOp, sameK, mapO, joinR, hasAddr, boundOf, pushB, aAlloc, Value.cells, lookB, setB, Nat.beq_eq, tm_n_set, tm_get_set, tm_of_n, tm_of_get, tm_tr_set, tm_tr_of, cellV, putF, appR_eq, takeR_eq, dropR_eq, setR_eq, getR_eq, ↓C75, ↓C76, ↓C77, ↓C79, ↓C17, ↓C18, ↓C22, ↓C71, FA24_0, FA24_1, FA24_2, FA24_3, FA24_4, FA24_5, FA24_6, FA24_7, FA24_8, LD3, LD4, LD22, LD27, LDr, LD24, LEN22, IA22, tkc, cellAt, ↓AL24, ↓Godd, ↓Cran, ↓Clit, c1, c2p, ho, hr, hz, ST24, finF, takeM, resV, cleanedG, kp, gc, lookB_setB]
        exact hfin _

end

section
set_option linter.unusedSimpArgs false
set_option linter.unusedVariables false

theorem Nsetof : ((tabT Try.prog) 50).map (fun z => (z.ex.nat 36, z.ex.mnz 36)) = some (none, none) := by kernel_rfl
theorem Csetof (call : Value → List Value → AH → Option (Value × AH)) {tm : Tm} {i : Nat} {H : AH} {d : Option Tmp} {t : TypeId} {p : String} {a : Array Edge} {gd : Option (Nat × Bool)} : evOp (tabT Try.prog) call ⟨d, .call ⟨.value (.func 36), #[.tmp i], #[50]⟩, t, p, a, gd⟩ (opd tm) H = call (.func (.func 36) #[] #[]) [tm.get i] H :=
  evOp_evO.trans (eo_call1 rfl rfl Nsetof)
theorem Nnews : ((tabT Try.prog) 22).map (fun z => (z.ex.nat 37, z.ex.mnz 37)) = some (none, none) := by kernel_rfl
theorem Cnews (call : Value → List Value → AH → Option (Value × AH)) {tm : Tm} {i : Nat} {H : AH} {d : Option Tmp} {t : TypeId} {p : String} {a : Array Edge} {gd : Option (Nat × Bool)} : evOp (tabT Try.prog) call ⟨d, .call ⟨.value (.func 37), #[.tmp i], #[22]⟩, t, p, a, gd⟩ (opd tm) H = call (.func (.func 37) #[] #[]) [tm.get i] H :=
  evOp_evO.trans (eo_call1 rfl rfl Nnews)
theorem Cawake (call : Value → List Value → AH → Option (Value × AH)) {tm : Tm} {H : AH} {d : Option Tmp} {t : TypeId} {p : String} {a : Array Edge} {gd : Option (Nat × Bool)} : evOp (tabT Try.prog) call ⟨d, .call ⟨.value (.func 27), #[], #[]⟩, t, p, a, gd⟩ (opd tm) H = call (.func (.func 27) #[] #[]) [] H :=
  evOp_evO.trans (eo_call0 rfl)
theorem Ninto : ((tabT Try.prog) 3).map (fun z => z.ex.nat 42) = some none := by kernel_rfl
theorem Cinto (call : Value → List Value → AH → Option (Value × AH)) {tm : Tm} {i j : Nat} {H : AH} {d : Option Tmp} {t : TypeId} {p : String} {a : Array Edge} {gd : Option (Nat × Bool)} : evOp (tabT Try.prog) call ⟨d, .call ⟨.value (.func 42), #[.tmp i, .tmp j], #[3, 3]⟩, t, p, a, gd⟩ (opd tm) H = call (.func (.func 42) #[] #[]) [tm.get i, tm.get j] H :=
  evOp_evO.trans (eo_call2n rfl rfl rfl Ninto)
theorem Ginto (call : Value → List Value → AH → Option (Value × AH)) {tm : Tm} {rs : List DR} {ts : List Nat} {i j : Nat} {H : AH} {d : Option Tmp} {t : TypeId} {p : String} {a : Array Edge} {gd : Option (Nat × Bool)} (hi : natMem ts i = true) (hj : natMem ts j = true) : evOp (tabT Try.prog) call ⟨d, .call ⟨.value (.func 42), #[.tmp i, .tmp j], #[3, 3]⟩, t, p, a, gd⟩ (gOf tm rs ts) H = call (.func (.func 42) #[] #[]) [(finT tm rs).get i, (finT tm rs).get j] H :=
  evOp_evO.trans (eo_call2n rfl (by simp only [gOf, hi, if_true]) (by simp only [gOf, hj, if_true]) Ninto)
theorem Winto : wrT 42 = false := by kernel_rfl
theorem cvI (k : IntKind) (n : Int) : cellV (.int k n) = true := rfl
theorem IX22 (i n k : Nat) (h : k < n) : aIndexAddr (tabT Try.prog) 22 (.slice (some ⟨i, 0, none⟩) n 1) (.int .i64 (k : Int)) = some (.pointer (some ⟨i, k, none⟩)) := by
  rw [ixa (e := 3) (z := 1) (by kernel_rfl) (by kernel_rfl) i 0 n 1 k h]
  simp
theorem PV_plain {s : SV} (hs : s.Small) : PV s = s.plain := by
  obtain ⟨p0, p1, e0⟩ := plain_small hs
  obtain ⟨w1, w2⟩ := hs.w
  obtain ⟨d1, d2⟩ := hs.d
  have hn := hs.n
  have e := suitRows_sum s.g s.n 0 (s.w + s.d) (fun j _ hj => hs.g j (by omega)) (by omega) (by omega)
  have e' := suitRows_sum s.g s.n 0 0 (fun j _ hj => hs.g j (by omega)) (by omega) (by omega)
  have hp : s.plain = s.w + s.d + ((suitRows s.g s.n 0).map (fun p => (p.2 : Int))).sum := by
    unfold SV.plain
    rw [e0, e]
  unfold PV
  rw [e', wrapI_small (n := 0 + _ + s.w) (by omega) (by omega), wrapI_small (by omega) (by omega)]
  omega
theorem plain_pos {s : SV} (h : s.err = 0) : 1 ≤ s.plain := by
  obtain ⟨_, h⟩ := firstE_step (m := 11) (i := 0) h (by simp [ruleE])
  obtain ⟨_, h⟩ := firstE_step (m := 10) (i := 1) h (by simp [ruleE])
  obtain ⟨_, h⟩ := firstE_step (m := 9) (i := 2) h (by simp [ruleE])
  obtain ⟨_, h⟩ := firstE_step (m := 8) (i := 3) h (by simp [ruleE])
  obtain ⟨_, h⟩ := firstE_step (m := 7) (i := 4) h (by simp [ruleE])
  obtain ⟨_, h⟩ := firstE_step (m := 6) (i := 5) h (by simp [ruleE])
  obtain ⟨_, h⟩ := firstE_step (m := 5) (i := 6) h (by simp [ruleE])
  obtain ⟨_, h⟩ := firstE_step (m := 4) (i := 7) h (by simp [ruleE])
  obtain ⟨_, h⟩ := firstE_step (m := 3) (i := 8) h (by simp [ruleE])
  obtain ⟨c, _⟩ := firstE_step (m := 2) (i := 9) h (by simp [ruleE])
  simpa [ruleB] using c
theorem FIn : tabF Try.prog 46 = some Try.f46 := by kernel_rfl
theorem kgIn : kpT 46 = false := by kernel_rfl
/-- Whether a number is among some of a list. -/
def memG (g : Nat → Int) : Nat → Nat → Int → Bool
  | 0, _, _ => false
  | m + 1, i, x => (g i == x) || memG g m (i + 1) x
noncomputable def IIn (u : Value) (g : Nat → Int) (n : Nat) (x : Int) (R : Bool) (H0 : AH) (m : Nat) (A : AF) (H : AH) : Prop := ∃ i : Nat, i + m = n ∧ memG g m i x = R ∧ A.tm.n = 18 ∧ A.marks = [] ∧ A.tm.get 5 = .int .i64 (i : Int) ∧ A.tm.get 0 = u ∧ A.tm.get 1 = .int .i64 x ∧ H = H0
noncomputable def QIn (R : Bool) (H0 : AH) (y : AX) (A : AF) (H : AH) : Prop := A.tm.n = 18 ∧ A.marks = [] ∧ H = H0 ∧ ((y = .exit 0 ∧ R = false) ∨ (y = .ret ∧ R = true ∧ A.tm.get 4 = .bool true))
set_option maxRecDepth 10000 in
set_option maxHeartbeats 8000000 in
theorem in_ev {L : Nat} (call : Value → List Value → AH → Option (Value × AH)) (N : Nat) (bs : List (Nat × ABlk)) {u : Value} {n : Nat} {g : Nat → Int} (x : Int) (hn : n ≤ 200) (hM : MI ⟨N, bs⟩) (hu : Lst bs u n g) :
    evFn (tabT Try.prog) call (L + 300) kpT 46 Try.f46 [u, .int .i64 x] ⟨N, bs⟩ = some (.bool (memG g n 0 x), ⟨N, bs⟩) := by
  have kp := kgIn
  have hbl := below_all N bs hM.2
  simp only [evFn, Try.f46]
  simp [ec_skip, ec_label, ek_reg, ek_draw, ek_seq, ec_cond, ek_block, ec_loop, ec_exit, ec_ret, ec_scope, ek_nil, ek_op, opK_some, regK_some, seqK_normal, seqK_exit, seqK_ret, blockK_normal, blockK_exit, blockK_ret, evOp, vOp, hOpB, hOpU, hOp, hOpT, aAppendG_tab, aWanted, aYielded, opd, putT, closedV, aBin, intOp, sameK, mapO, joinR, hasAddr, boundOf, pushB, aAlloc, Value.cells, lookB, setB, Nat.beq_eq, tm_n_set, tm_get_set, tm_of_n, tm_of_get, tm_tr_set, tm_tr_of, cellV, putF, appR_eq, takeR_eq, dropR_eq, setR_eq, getR_eq, ↓C75, ↓C76, ↓C77, ↓C79, ↓C17, ↓C18, ↓C22, ↓C71, FA24_0, FA24_1, FA24_2, FA24_3, FA24_4, FA24_5, FA24_6, FA24_7, FA24_8, LD3, LD4, LD22, LD27, LDr, LD24, LEN22, IA22, tkc, cellAt]
  generalize hr : evLoop _ _ _ _ = r
  obtain ⟨y, A', H', rfl, hl, hmk, rfl, hz⟩ := loop_go (Q := QIn (memG g n 0 x) ⟨N, bs⟩) hr (IIn u g n x (memG g n 0 x) ⟨N, bs⟩) n (by omega) ⟨0, by omega, rfl, rfl, rfl, rfl, rfl, rfl, rfl⟩ (by
    clear hr
    rintro m A H' ⟨i, him, hsum, hl, hmk, g5, g0, g1, rfl⟩
    obtain ⟨a0, z0, hv⟩ := hu.len
    simp only [runC]
    cases m with
    | zero =>
      have hi : ¬ i < n := by omega
      subst hv
      simp only [memG] at hsum
      simp [ec_skip, ec_label, ek_reg, ek_draw, ek_seq, ec_cond, ek_block, ec_loop, ec_exit, ec_ret, ec_scope, ek_nil, ek_op, opK_some, regK_some, seqK_normal, seqK_exit, seqK_ret, blockK_normal, blockK_exit, blockK_ret, evOp, vOp, hOpB, hOpU, hOp, hOpT, aAppendG_tab, aWanted, aYielded, opd, putT, closedV, aBin, intOp, sameK, mapO, joinR, hasAddr, boundOf, pushB, aAlloc, Value.cells, lookB, setB, Nat.beq_eq, tm_n_set, tm_get_set, tm_of_n, tm_of_get, tm_tr_set, tm_tr_of, cellV, putF, appR_eq, takeR_eq, dropR_eq, setR_eq, getR_eq, ↓C75, ↓C76, ↓C77, ↓C79, ↓C17, ↓C18, ↓C22, ↓C71, FA24_0, FA24_1, FA24_2, FA24_3, FA24_4, FA24_5, FA24_6, FA24_7, FA24_8, LD3, LD4, LD22, LD27, LDr, LD24, LEN22, IA22, tkc, cellAt, hl, hmk, g5, g0, g1, hi]
      exact .inr ⟨by simp, by simp [tm_n_set, hl], rfl, rfl, .inl ⟨rfl, hsum.symm⟩⟩
    | succ m =>
      have hi : i < n := by omega
      have hw : wrapI .i64 ((i : Int) + 1) = ((i + 1 : Nat) : Int) := by rw [wrapI_small (by omega) (by omega)]; rfl
      rcases hu with ⟨_, h0⟩ | ⟨a, ro, cs, h1, h2, h3, rfl⟩
      · omega
      · subst h1
        have ix : aIndexAddr (tabT Try.prog) 22 (.slice (some ⟨a, 0, none⟩) n 1) (.int .i64 (i : Int)) = some (.pointer (some ⟨a, i, none⟩)) := by
          rw [ixa (e := 3) (z := 1) (by kernel_rfl) (by kernel_rfl) a 0 n 1 i hi]; simp
        have hc := okC_at h3 hi
        rw [memG] at hsum
        by_cases e : gi cs i = x
        · have e' : (gi cs i == x) = true := by simpa using e
          rw [e'] at hsum
          simp [ec_skip, ec_label, ek_reg, ek_draw, ek_seq, ec_cond, ek_block, ec_loop, ec_exit, ec_ret, ec_scope, ek_nil, ek_op, opK_some, regK_some, seqK_normal, seqK_exit, seqK_ret, blockK_normal, blockK_exit, blockK_ret, evOp, vOp, hOpB, hOpU, hOp, hOpT, aAppendG_tab, aWanted, aYielded, opd, putT, closedV, aBin, intOp, sameK, mapO, joinR, hasAddr, boundOf, pushB, aAlloc, Value.cells, lookB, setB, Nat.beq_eq, tm_n_set, tm_get_set, tm_of_n, tm_of_get, tm_tr_set, tm_tr_of, cellV, putF, appR_eq, takeR_eq, dropR_eq, setR_eq, getR_eq, ↓C75, ↓C76, ↓C77, ↓C79, ↓C17, ↓C18, ↓C22, ↓C71, FA24_0, FA24_1, FA24_2, FA24_3, FA24_4, FA24_5, FA24_6, FA24_7, FA24_8, LD3, LD4, LD22, LD27, LDr, LD24, LEN22, IA22, tkc, cellAt, hl, hmk, g5, g0, g1, hi, ix, h2, hc, e, e']
          exact .inr ⟨by simp, by simp [tm_n_set, hl], rfl, rfl, .inr ⟨rfl, by rw [← hsum]; rfl, by simp [tm_get_set, tm_n_set, hl]⟩⟩
        · have e' : (gi cs i == x) = false := by simpa using e
          rw [e'] at hsum
          simp [ec_skip, ec_label, ek_reg, ek_draw, ek_seq, ec_cond, ek_block, ec_loop, ec_exit, ec_ret, ec_scope, ek_nil, ek_op, opK_some, regK_some, seqK_normal, seqK_exit, seqK_ret, blockK_normal, blockK_exit, blockK_ret, evOp, vOp, hOpB, hOpU, hOp, hOpT, aAppendG_tab, aWanted, aYielded, opd, putT, closedV, aBin, intOp, sameK, mapO, joinR, hasAddr, boundOf, pushB, aAlloc, Value.cells, lookB, setB, Nat.beq_eq, tm_n_set, tm_get_set, tm_of_n, tm_of_get, tm_tr_set, tm_tr_of, cellV, putF, appR_eq, takeR_eq, dropR_eq, setR_eq, getR_eq, ↓C75, ↓C76, ↓C77, ↓C79, ↓C17, ↓C18, ↓C22, ↓C71, FA24_0, FA24_1, FA24_2, FA24_3, FA24_4, FA24_5, FA24_6, FA24_7, FA24_8, LD3, LD4, LD22, LD27, LDr, LD24, LEN22, IA22, tkc, cellAt, hl, hmk, g5, g0, g1, hi, ix, h2, hc, e, e']
          refine .inl ⟨rfl, m, rfl, i + 1, by omega, hsum, ?_⟩
          simp [tm_get_set, tm_n_set, hl, hmk, g0, g1, hw])
  rcases hz with ⟨rfl, hz⟩ | ⟨rfl, hz, h4⟩
  · rw [hz]
    simp [ec_skip, ec_label, ek_reg, ek_draw, ek_seq, ec_cond, ek_block, ec_loop, ec_exit, ec_ret, ec_scope, ek_nil, ek_op, opK_some, regK_some, seqK_normal, seqK_exit, seqK_ret, blockK_normal, blockK_exit, blockK_ret, evOp, vOp, hOpB, hOpU, hOp, hOpT, aAppendG_tab, aWanted, aYielded, opd, putT, closedV, aBin, intOp, sameK, mapO, joinR, hasAddr, boundOf, pushB, aAlloc, Value.cells, lookB, setB, Nat.beq_eq, tm_n_set, tm_get_set, tm_of_n, tm_of_get, tm_tr_set, tm_tr_of, cellV, putF, appR_eq, takeR_eq, dropR_eq, setR_eq, getR_eq, ↓C75, ↓C76, ↓C77, ↓C79, ↓C17, ↓C18, ↓C22, ↓C71, FA24_0, FA24_1, FA24_2, FA24_3, FA24_4, FA24_5, FA24_6, FA24_7, FA24_8, LD3, LD4, LD22, LD27, LDr, LD24, LEN22, IA22, tkc, cellAt, hl, hmk, finF, takeM, resV, cleanedG, hasAddr, kp, hbl]
  · rw [hz]
    simp [ec_skip, ec_label, ek_reg, ek_draw, ek_seq, ec_cond, ek_block, ec_loop, ec_exit, ec_ret, ec_scope, ek_nil, ek_op, opK_some, regK_some, seqK_normal, seqK_exit, seqK_ret, blockK_normal, blockK_exit, blockK_ret, evOp, vOp, hOpB, hOpU, hOp, hOpT, aAppendG_tab, aWanted, aYielded, opd, putT, closedV, aBin, intOp, sameK, mapO, joinR, hasAddr, boundOf, pushB, aAlloc, Value.cells, lookB, setB, Nat.beq_eq, tm_n_set, tm_get_set, tm_of_n, tm_of_get, tm_tr_set, tm_tr_of, cellV, putF, appR_eq, takeR_eq, dropR_eq, setR_eq, getR_eq, ↓C75, ↓C76, ↓C77, ↓C79, ↓C17, ↓C18, ↓C22, ↓C71, FA24_0, FA24_1, FA24_2, FA24_3, FA24_4, FA24_5, FA24_6, FA24_7, FA24_8, LD3, LD4, LD22, LD27, LDr, LD24, LEN22, IA22, tkc, cellAt, hl, hmk, h4, finF, takeM, resV, cleanedG, hasAddr, kp, hbl]
theorem memG_mem (g : Nat → Int) (x : Int) : ∀ (m i : Nat), memG g m i x = true ↔ ∃ j, i ≤ j ∧ j < i + m ∧ g j = x
  | 0, i => by simp only [memG, Bool.false_eq_true, false_iff]; rintro ⟨j, h1, h2, _⟩; omega
  | m + 1, i => by
    rw [memG, Bool.or_eq_true, memG_mem g x m (i + 1), beq_iff_eq]
    constructor
    · rintro (h | ⟨j, h1, h2, h3⟩)
      · exact ⟨i, by omega, by omega, h⟩
      · exact ⟨j, by omega, by omega, h3⟩
    · rintro ⟨j, h1, h2, h3⟩
      by_cases e : j = i
      · subst e; exact .inl h3
      · exact .inr ⟨j, by omega, by omega, h3⟩

end

section
set_option linter.unusedSimpArgs false
set_option linter.unusedVariables false

theorem slc {T : TypeId → Option TI} {t e : TypeId} {z : Nat} (h1 : (T t).map (·.desc) = some (.slice e)) (h2 : (T e).map (·.size) = some z) (i n : Nat) (k : Nat) (h : k ≤ n) : aSlice T t (.slice (some ⟨i, 0, none⟩) n z) none (some (.int .i64 (k : Int))) = some (.slice (some ⟨i, 0, none⟩) k z) ∧
    aSlice T t (.slice (some ⟨i, 0, none⟩) n z) (some (.int .i64 (k : Int))) none = some (if k = 0 then .slice (some ⟨i, 0, none⟩) n z else if k = n then .slice (some ⟨0, 0, some 0⟩) 0 z else .slice (some ⟨i, k * z, none⟩) (n - k) z) := by
  obtain ⟨_, _, _, _, ht⟩ := tdesc h1
  cases he : T e with
  | none => rw [he] at h2; cases h2
  | some y =>
    rw [he] at h2
    simp only [Option.map_some, Option.some.injEq] at h2
    have b0 : bnd (some (.int .i64 (k : Int))) n = some k := rfl
    have b1 : bnd (some (.int .i64 (k : Int))) 0 = some k := rfl
    have b2 : bnd none 0 = some 0 := rfl
    have b3 : bnd none n = some n := rfl
    have c1 : Nat.ble k n = true := by rw [Nat.ble_eq]; exact h
    have c2 : Nat.ble n n = true := by rw [Nat.ble_eq]; exact Nat.le_refl _
    have c3 : Nat.ble 0 k = true := by rw [Nat.ble_eq]; exact Nat.zero_le _
    simp only [aSlice, ht, he, h2, b0, b1, b2, b3, c1, c2, c3, Nat.beq_refl, Bool.and_self, if_true]
    refine ⟨trivial, ?_⟩
    by_cases e1 : k = 0
    · subst e1
      simp
    · by_cases e2 : k = n
      · subst e2
        have : Nat.beq k 0 = false := by cases hb : Nat.beq k 0 with | false => rfl | true => exact absurd (Nat.eq_of_beq_eq_true hb) e1
        simp [e1, this]
      · have x1 : Nat.beq k 0 = false := by cases hb : Nat.beq k 0 with | false => rfl | true => exact absurd (Nat.eq_of_beq_eq_true hb) e1
        have x2 : Nat.beq n k = false := by cases hb : Nat.beq n k with | false => rfl | true => exact absurd (Nat.eq_of_beq_eq_true hb).symm e2
        simp [e1, e2, x1, x2]
theorem SLa (i n k : Nat) (h : k ≤ n) : aSlice (tabT Try.prog) 22 (.slice (some ⟨i, 0, none⟩) n 1) none (some (.int .i64 (k : Int))) = some (.slice (some ⟨i, 0, none⟩) k 1) := (slc (e := 3) (by kernel_rfl) (by kernel_rfl) i n k h).1
theorem SLb (i n k : Nat) (h : k ≤ n) : aSlice (tabT Try.prog) 22 (.slice (some ⟨i, 0, none⟩) n 1) (some (.int .i64 (k : Int))) none = some (if k = 0 then .slice (some ⟨i, 0, none⟩) n 1 else if k = n then .slice (some ⟨0, 0, some 0⟩) 0 1 else .slice (some ⟨i, k * 1, none⟩) (n - k) 1) := (slc (e := 3) (by kernel_rfl) (by kernel_rfl) i n k h).2
theorem LENf (a : Option Addr) (n z : Nat) : aLen (tabT Try.prog) 34 (.slice a n z) = some (.int .i64 n) := lens (e := 66) (by kernel_rfl) a n z
theorem IXf (i n k : Nat) (h : k < n) : aIndexAddr (tabT Try.prog) 34 (.slice (some ⟨i, 0, none⟩) n 2) (.int .i64 (k : Int)) = some (.pointer (some ⟨i, k * 2, none⟩)) := by
  rw [ixa (e := 66) (z := 2) (by kernel_rfl) (by kernel_rfl) i 0 n 2 k h]
  simp
theorem FAf1 (i off : Nat) : aFieldAddr (tabT Try.prog) 66 (.pointer (some ⟨i, off, none⟩)) 1 = some (.pointer (some ⟨i, off + 1, none⟩)) := by kernel_rfl
theorem faceC_at (s : SV) (t : Nat → Int) : ∀ (n i : Nat), i < n → (faceC s t n)[i * 2 + 1]? = some (.bool (s.redOf (t i)))
  | 0, i, h => by omega
  | n + 1, i, h => by
    have hl := faceC_len s t n
    rw [faceC]
    by_cases e : i = n
    · subst e
      rw [List.getElem?_append_right (by omega), hl]
      have : i * 2 + 1 - i * 2 = 1 := by omega
      rw [this]
      rfl
    · rw [List.getElem?_append_left (by omega)]
      exact faceC_at s t n i (by omega)
def loopsA : Code → List Code
  | .seq x y => loopsA x ++ loopsA y
  | .block _ c => loopsA c
  | .loop c => [c]
  | _ => []
noncomputable def lcA : Code := ((Try.f12.body.map loopsA).getD []).getD 0 .skip
noncomputable def lcB : Code := ((Try.f12.body.map loopsA).getD []).getD 1 .skip
/-- The temporaries behind the calls. -/
def TAd (M P n : Nat) (A : AF) : Prop := A.tm.n = 147 ∧ A.marks = [] ∧ A.tm.get 7 = .pointer (some ⟨M, 0, none⟩) ∧ A.tm.get 9 = .slice (some ⟨M + 2, 0, none⟩) P 1 ∧ A.tm.get 11 = .slice (some ⟨M + 3, 0, none⟩) P 1 ∧ A.tm.get 13 = .slice (some ⟨M + 4, 0, none⟩) P 1 ∧ A.tm.get 15 = .slice (some ⟨M + 5, 0, none⟩) n 2
def IAd (M P n : Nat) (H0 : AH) (m : Nat) (A : AF) (H : AH) : Prop := ∃ k : Nat, k + m = P ∧ TAd M P n A ∧ A.tm.get 17 = .int .i64 (k : Int) ∧ H = H0
def QAd (M P n : Nat) (H0 : AH) (y : AX) (A : AF) (H : AH) : Prop := y = .exit 0 ∧ TAd M P n A ∧ H = H0
def IBd (M P n : Nat) (q : Int → Bool) (w : Nat → Int) (H0 : AH) (m : Nat) (A : AF) (H : AH) : Prop := ∃ k r : Nat, k + m = n ∧ r ≤ k ∧ TAd M P n A ∧ A.tm.get 19 = .int .i64 (k : Int) ∧ A.tm.get 18 = .int .i64 (r : Int) ∧ r = cntP q w k ∧ H = H0
def QBd (M P n : Nat) (q : Int → Bool) (w : Nat → Int) (H0 : AH) (y : AX) (A : AF) (H : AH) : Prop := y = .exit 2 ∧ TAd M P n A ∧ A.tm.get 18 = .int .i64 (cntP q w n : Int) ∧ H = H0
theorem intsL_get' (g : Nat → Int) (n j : Nat) (h : j < n) (h2 : j < (intsL g n).length) : (intsL g n)[j] = .int .i64 (g j) := by
  have := intsL_at g n j h
  rw [List.getElem?_eq_getElem h2] at this
  exact Option.some.inj this
set_option maxRecDepth 10000 in
set_option maxHeartbeats 8000000 in
theorem loopA {L : Nat} (call : Value → List Value → AH → Option (Value × AH)) (M P n N : Nat) (B : List (Nat × ABlk)) (s : SV) (u1 u8 : Value) (ga gb gc : Nat → Int) (hP : P ≤ 60) (hM : MI ⟨N, B⟩)
    (l0 : lookB B M = some (.cells false [.int .i64 s.p, u1, .int .i64 s.w, .int .i64 s.d, .int .i64 s.f, .int .i64 s.c, .int .i64 s.m, .int .i64 s.de, u8])) (l2 : lookB B (M + 2) = some (.cells false (intsL ga P))) (l3 : lookB B (M + 3) = some (.cells false (intsL gb P))) (l4 : lookB B (M + 4) = some (.cells false (intsL gc P)))
    (hc : ∀ k, k < P → gc k = s.c) (hs : ∀ k, k < P → wrapI .i64 (ga k + gb k) = gc k) (A : AF) (hT : TAd M P n A) (h17 : A.tm.get 17 = .int .i64 0) :
    ∃ y A' H', evLoop (runC (tabT Try.prog) call (L + 300) 12 none lcA) (L + 300) A ⟨N, B⟩ = some (y, A', H') ∧ QAd M P n ⟨N, B⟩ y A' H' := by
  have hD : decrK B = true := hM.1
  have nw := newOnes_ro B N hM.2
  generalize hr : evLoop _ _ _ _ = r'
  refine loop_go (Q := QAd M P n ⟨N, B⟩) hr (IAd M P n ⟨N, B⟩) P (by omega) ⟨0, by omega, hT, h17, rfl⟩ ?_
  clear hr hT h17
  rintro m A H ⟨k, hkm, ⟨hl, hmk, t7, t9, t11, t13, t15⟩, t17, rfl⟩
  simp only [lcA, Try.f12, Option.map_some, loopsA, List.nil_append, List.append_nil, List.cons_append, Option.getD_some, List.getD_cons_zero, runC]
  cases m with
  | zero =>
    have hk : ¬ k < P := by omega
    simp [ec_skip, ec_label, ek_reg, ek_draw, ek_seq, ec_cond, ek_block, ec_loop, ec_exit, ec_ret, ec_scope, ek_nil, ek_op, opK_some, regK_some, seqK_normal, seqK_exit, seqK_ret, blockK_normal, blockK_exit, blockK_ret, evOp, vOp, hOpB, hOpU, hOp, hOpT, aAppendG_tab, aWanted, aYielded, opd, putT, closedV, aBin, intOp, sameK, mapO, joinR, hasAddr, boundOf, pushB, aAlloc, Value.cells, lookB, setB, Nat.beq_eq, tm_n_set, tm_get_set, tm_of_n, tm_of_get, tm_tr_set, tm_tr_of, cellV, putF, appR_eq, takeR_eq, dropR_eq, setR_eq, getR_eq, ↓C75, ↓C76, ↓C77, ↓C79, ↓C17, ↓C18, ↓C22, ↓C71, FA24_0, FA24_1, FA24_2, FA24_3, FA24_4, FA24_5, FA24_6, FA24_7, FA24_8, LD3, LD4, LD22, LD27, LDr, LD24, LEN22, IA22, tkc, cellAt, hl, hmk, t7, t9, t11, t13, t15, t17, hk]
    exact .inr ⟨by simp, rfl, ⟨by simp [tm_n_set, hl], by simp [hmk], by simp [tm_get_set, tm_n_set, hl, t7], by simp [tm_get_set, tm_n_set, hl, t9], by simp [tm_get_set, tm_n_set, hl, t11], by simp [tm_get_set, tm_n_set, hl, t13], by simp [tm_get_set, tm_n_set, hl, t15]⟩, rfl⟩
  | succ m =>
    have hk : k < P := by omega
    have hw : wrapI .i64 ((k : Int) + 1) = ((k + 1 : Nat) : Int) := by rw [wrapI_small (by omega) (by omega)]; rfl
    have x2 := IX22 (M + 2) P k hk
    have x3 := IX22 (M + 3) P k hk
    have x4 := IX22 (M + 4) P k hk
    have g2 := intsL_at ga P k hk
    have g3 := intsL_at gb P k hk
    have g4 := intsL_at gc P k hk
    have q2 := intsL_get' ga P k hk
    have q3 := intsL_get' gb P k hk
    have q4 := intsL_get' gc P k hk
    have z2 := intsL_len ga P
    have z3 := intsL_len gb P
    have z4 := intsL_len gc P
    have hck := hc k hk
    have hsk := hs k hk
    have r0 := lookB_roB_cells B M _ _ l0 hD
    have r2 := lookB_roB_cells B (M + 2) _ _ l2 hD
    have r3 := lookB_roB_cells B (M + 3) _ _ l3 hD
    have r4 := lookB_roB_cells B (M + 4) _ _ l4 hD
    rw [hck] at g4 q4 hsk
    simp [ec_skip, ec_label, ek_reg, ek_draw, ek_seq, ec_cond, ek_block, ec_loop, ec_exit, ec_ret, ec_scope, ek_nil, ek_op, opK_some, regK_some, seqK_normal, seqK_exit, seqK_ret, blockK_normal, blockK_exit, blockK_ret, evOp, vOp, hOpB, hOpU, hOp, hOpT, aAppendG_tab, aWanted, aYielded, opd, putT, closedV, aBin, intOp, sameK, mapO, joinR, hasAddr, boundOf, pushB, aAlloc, Value.cells, lookB, setB, Nat.beq_eq, tm_n_set, tm_get_set, tm_of_n, tm_of_get, tm_tr_set, tm_tr_of, cellV, putF, appR_eq, takeR_eq, dropR_eq, setR_eq, getR_eq, ↓C75, ↓C76, ↓C77, ↓C79, ↓C17, ↓C18, ↓C22, ↓C71, FA24_0, FA24_1, FA24_2, FA24_3, FA24_4, FA24_5, FA24_6, FA24_7, FA24_8, LD3, LD4, LD22, LD27, LDr, LD24, LEN22, IA22, tkc, cellAt, hl, hmk, t7, t9, t11, t13, t15, t17, hk]
    generalize hX : evDrawX _ _ _ _ _ = X
    obtain ⟨tm, rfl, hl2, v7, v9, v11, v13, v15, v17, v125⟩ := draw_ro (Pt := fun tm => tm.get 7 = .pointer (some ⟨M, 0, none⟩) ∧ tm.get 9 = .slice (some ⟨M + 2, 0, none⟩) P 1 ∧ tm.get 11 = .slice (some ⟨M + 3, 0, none⟩) P 1 ∧ tm.get 13 = .slice (some ⟨M + 4, 0, none⟩) P 1 ∧ tm.get 15 = .slice (some ⟨M + 5, 0, none⟩) n 2 ∧ tm.get 17 = .int .i64 (k : Int) ∧ tm.get 125 = .bool false) hX (by kernel_rfl) hD (by
      clear hX
      generalize befs _ = MM
      simp [mapO, drRun, drOp, dr3, looks, guardT, tmpsOf, Op.operands, Call.operands, wantedR, gOf, finT, natMem, isNil, writesF, evOp, vOp, hOpB, hOpU, hOp, hOpT, aAppendG_tab, opd, closedV, aBin, intOp, sameK, opdO, boundOf, undef, lookB, Nat.beq_eq, tm_n_set, tm_get_set, tm_of_n, tm_of_get, tm_tr_set, tm_tr_of, b02, b12, b32, ↓G75, W75, ↓G76, W76, ↓G77, W77, ↓G79, W79, ↓G17, W17, ↓G18, W18, ↓G22, W22, ↓G71, W71, tv, all1, roB, roK, news, newOnes, decr, tkc, cellAt, LD3, LD4, LD22, LD27, LDr, LD24, LEN22, IA22, FA24_0, FA24_1, FA24_2, FA24_3, FA24_4, FA24_5, FA24_6, FA24_7, FA24_8, hasR, hasR_ro, hl, t7, t9, t11, t13, t15, t17, hk, x2, x3, x4, l0, l2, l3, l4, r0, r2, r3, r4, g2, g3, g4, q2, q3, q4, z2, z3, z4, hsk, nw, wheap, Nat.ble_eq]
      simp [dynOK, b02, b12, b32, b03, b13, b23, Nat.blt_eq, Nat.beq_eq, tm_n_set, tm_of_n, hl])
    clear hX
    simp [tm_n_set, hl] at hl2
    simp [ec_skip, ec_label, ek_reg, ek_draw, ek_seq, ec_cond, ek_block, ec_loop, ec_exit, ec_ret, ec_scope, ek_nil, ek_op, opK_some, regK_some, seqK_normal, seqK_exit, seqK_ret, blockK_normal, blockK_exit, blockK_ret, evOp, vOp, hOpB, hOpU, hOp, hOpT, aAppendG_tab, aWanted, aYielded, opd, putT, closedV, aBin, intOp, sameK, mapO, joinR, hasAddr, boundOf, pushB, aAlloc, Value.cells, lookB, setB, Nat.beq_eq, tm_n_set, tm_get_set, tm_of_n, tm_of_get, tm_tr_set, tm_tr_of, cellV, putF, appR_eq, takeR_eq, dropR_eq, setR_eq, getR_eq, ↓C75, ↓C76, ↓C77, ↓C79, ↓C17, ↓C18, ↓C22, ↓C71, FA24_0, FA24_1, FA24_2, FA24_3, FA24_4, FA24_5, FA24_6, FA24_7, FA24_8, LD3, LD4, LD22, LD27, LDr, LD24, LEN22, IA22, tkc, cellAt, hl2, v7, v9, v11, v13, v15, v17, v125]
    refine ⟨_, _, _, ⟨rfl, rfl, rfl⟩, .inl ⟨rfl, m, rfl, k + 1, by omega, ?_, by simp [tm_get_set, tm_n_set, hl2, hw], rfl⟩⟩
    exact ⟨by simp [tm_n_set, hl2], rfl, by simp [tm_get_set, tm_n_set, hl2, v7], by simp [tm_get_set, tm_n_set, hl2, v9], by simp [tm_get_set, tm_n_set, hl2, v11], by simp [tm_get_set, tm_n_set, hl2, v13], by simp [tm_get_set, tm_n_set, hl2, v15]⟩
set_option maxRecDepth 10000 in
set_option maxHeartbeats 8000000 in
theorem loopB {L : Nat} (call : Value → List Value → AH → Option (Value × AH)) (M P n N : Nat) (B : List (Nat × ABlk)) (s : SV) (w : Nat → Int) (hn : n ≤ 200) (l5 : lookB B (M + 5) = some (.cells false (faceC s w n))) (A : AF) (hT : TAd M P n A) (h18 : A.tm.get 18 = .int .i64 0) (h19 : A.tm.get 19 = .int .i64 0) :
    ∃ y A' H', evLoop (runC (tabT Try.prog) call (L + 300) 12 none lcB) (L + 300) A ⟨N, B⟩ = some (y, A', H') ∧ QBd M P n (fun x => s.redOf x) w ⟨N, B⟩ y A' H' := by
  generalize hr : evLoop _ _ _ _ = r'
  refine loop_go (Q := QBd M P n (fun x => s.redOf x) w ⟨N, B⟩) hr (IBd M P n (fun x => s.redOf x) w ⟨N, B⟩) n (by omega) ⟨0, 0, by omega, by omega, hT, h19, h18, rfl, rfl⟩ ?_
  clear hr hT h18 h19
  rintro m A H ⟨k, r, hkm, hrk, ⟨hl, hmk, t7, t9, t11, t13, t15⟩, t19, t18, hrc, rfl⟩
  simp only [lcB, Try.f12, Option.map_some, loopsA, List.nil_append, List.append_nil, List.cons_append, Option.getD_some, List.getD_cons_succ, List.getD_cons_zero, runC]
  cases m with
  | zero =>
    have hk : ¬ k < n := by omega
    have hkn : k = n := by omega
    simp [ec_skip, ec_label, ek_reg, ek_draw, ek_seq, ec_cond, ek_block, ec_loop, ec_exit, ec_ret, ec_scope, ek_nil, ek_op, opK_some, regK_some, seqK_normal, seqK_exit, seqK_ret, blockK_normal, blockK_exit, blockK_ret, evOp, vOp, hOpB, hOpU, hOp, hOpT, aAppendG_tab, aWanted, aYielded, opd, putT, closedV, aBin, intOp, sameK, mapO, joinR, hasAddr, boundOf, pushB, aAlloc, Value.cells, lookB, setB, Nat.beq_eq, tm_n_set, tm_get_set, tm_of_n, tm_of_get, tm_tr_set, tm_tr_of, cellV, putF, appR_eq, takeR_eq, dropR_eq, setR_eq, getR_eq, ↓C75, ↓C76, ↓C77, ↓C79, ↓C17, ↓C18, ↓C22, ↓C71, FA24_0, FA24_1, FA24_2, FA24_3, FA24_4, FA24_5, FA24_6, FA24_7, FA24_8, LD3, LD4, LD22, LD27, LDr, LD24, LEN22, IA22, tkc, cellAt, hl, hmk, t7, t9, t11, t13, t15, t19, t18, hk, LENf]
    exact .inr ⟨by simp, rfl, ⟨by simp [tm_n_set, hl], by simp [hmk], by simp [tm_get_set, tm_n_set, hl, t7], by simp [tm_get_set, tm_n_set, hl, t9], by simp [tm_get_set, tm_n_set, hl, t11], by simp [tm_get_set, tm_n_set, hl, t13], by simp [tm_get_set, tm_n_set, hl, t15]⟩, by simp [tm_get_set, tm_n_set, hl, t18, hrc, hkn], rfl⟩
  | succ m =>
    have hk : k < n := by omega
    have hw : wrapI .i64 ((k : Int) + 1) = ((k + 1 : Nat) : Int) := by rw [wrapI_small (by omega) (by omega)]; rfl
    have hwr : wrapI .i64 ((r : Int) + 1) = ((r + 1 : Nat) : Int) := by rw [wrapI_small (by omega) (by omega)]; rfl
    have x5 := IXf (M + 5) n k hk
    have g5 := faceC_at s w n k hk
    have z5 := faceC_len s w n
    have hlt : k * 2 + 1 < (faceC s w n).length := by omega
    have q5 : (faceC s w n)[k * 2 + 1] = .bool (s.redOf (w k)) := by
      rw [List.getElem?_eq_getElem hlt] at g5
      exact Option.some.inj g5
    have hcs : cntP (fun x => s.redOf x) w (k + 1) = cntP (fun x => s.redOf x) w k + (if s.redOf (w k) then 1 else 0) := rfl
    cases hb : s.redOf (w k) with
    | true =>
      rw [hb] at g5 q5 hcs
      simp [ec_skip, ec_label, ek_reg, ek_draw, ek_seq, ec_cond, ek_block, ec_loop, ec_exit, ec_ret, ec_scope, ek_nil, ek_op, opK_some, regK_some, seqK_normal, seqK_exit, seqK_ret, blockK_normal, blockK_exit, blockK_ret, evOp, vOp, hOpB, hOpU, hOp, hOpT, aAppendG_tab, aWanted, aYielded, opd, putT, closedV, aBin, intOp, sameK, mapO, joinR, hasAddr, boundOf, pushB, aAlloc, Value.cells, lookB, setB, Nat.beq_eq, tm_n_set, tm_get_set, tm_of_n, tm_of_get, tm_tr_set, tm_tr_of, cellV, putF, appR_eq, takeR_eq, dropR_eq, setR_eq, getR_eq, ↓C75, ↓C76, ↓C77, ↓C79, ↓C17, ↓C18, ↓C22, ↓C71, FA24_0, FA24_1, FA24_2, FA24_3, FA24_4, FA24_5, FA24_6, FA24_7, FA24_8, LD3, LD4, LD22, LD27, LDr, LD24, LEN22, IA22, tkc, cellAt, hl, hmk, t7, t9, t11, t13, t15, t19, t18, hk, LENf, x5, FAf1, l5, g5, q5, z5, hlt]
      refine .inl ⟨rfl, m, rfl, k + 1, r + 1, by omega, by omega, ?_, by simp [tm_get_set, tm_n_set, hl, hw], by simp [tm_get_set, tm_n_set, hl, hwr], by rw [hcs, ← hrc]; rfl, rfl⟩
      exact ⟨by simp [tm_n_set, hl], by simp [hmk], by simp [tm_get_set, tm_n_set, hl, t7], by simp [tm_get_set, tm_n_set, hl, t9], by simp [tm_get_set, tm_n_set, hl, t11], by simp [tm_get_set, tm_n_set, hl, t13], by simp [tm_get_set, tm_n_set, hl, t15]⟩
    | false =>
      rw [hb] at g5 q5 hcs
      simp [ec_skip, ec_label, ek_reg, ek_draw, ek_seq, ec_cond, ek_block, ec_loop, ec_exit, ec_ret, ec_scope, ek_nil, ek_op, opK_some, regK_some, seqK_normal, seqK_exit, seqK_ret, blockK_normal, blockK_exit, blockK_ret, evOp, vOp, hOpB, hOpU, hOp, hOpT, aAppendG_tab, aWanted, aYielded, opd, putT, closedV, aBin, intOp, sameK, mapO, joinR, hasAddr, boundOf, pushB, aAlloc, Value.cells, lookB, setB, Nat.beq_eq, tm_n_set, tm_get_set, tm_of_n, tm_of_get, tm_tr_set, tm_tr_of, cellV, putF, appR_eq, takeR_eq, dropR_eq, setR_eq, getR_eq, ↓C75, ↓C76, ↓C77, ↓C79, ↓C17, ↓C18, ↓C22, ↓C71, FA24_0, FA24_1, FA24_2, FA24_3, FA24_4, FA24_5, FA24_6, FA24_7, FA24_8, LD3, LD4, LD22, LD27, LDr, LD24, LEN22, IA22, tkc, cellAt, hl, hmk, t7, t9, t11, t13, t15, t19, t18, hk, LENf, x5, FAf1, l5, g5, q5, z5, hlt]
      refine .inl ⟨rfl, m, rfl, k + 1, r, by omega, by omega, ?_, by simp [tm_get_set, tm_n_set, hl, hw], by simp [tm_get_set, tm_n_set, hl, t18], by rw [hcs, ← hrc]; rfl, rfl⟩
      exact ⟨by simp [tm_n_set, hl], by simp [hmk], by simp [tm_get_set, tm_n_set, hl, t7], by simp [tm_get_set, tm_n_set, hl, t9], by simp [tm_get_set, tm_n_set, hl, t11], by simp [tm_get_set, tm_n_set, hl, t13], by simp [tm_get_set, tm_n_set, hl, t15]⟩

end

section
set_option linter.unusedSimpArgs false
set_option linter.unusedVariables false

theorem Nwall : ((tabT Try.prog) 24).map (fun z => z.ex.nat 39) = some none := by kernel_rfl
theorem Cwall (call : Value → List Value → AH → Option (Value × AH)) {tm : Tm} {i j : Nat} {H : AH} {d : Option Tmp} {t : TypeId} {p : String} {a : Array Edge} {gd : Option (Nat × Bool)} : evOp (tabT Try.prog) call ⟨d, .call ⟨.value (.func 39), #[.tmp i, .tmp j], #[24, 48]⟩, t, p, a, gd⟩ (opd tm) H = call (.func (.func 39) #[] #[]) [tm.get i, tm.get j] H :=
  evOp_evO.trans (eo_call2n rfl rfl rfl Nwall)
theorem Nbag : ((tabT Try.prog) 24).map (fun z => z.ex.nat 48) = some none := by kernel_rfl
theorem Cbag (call : Value → List Value → AH → Option (Value × AH)) {tm : Tm} {i j : Nat} {H : AH} {d : Option Tmp} {t : TypeId} {p : String} {a : Array Edge} {gd : Option (Nat × Bool)} : evOp (tabT Try.prog) call ⟨d, .call ⟨.value (.func 48), #[.tmp i, .tmp j], #[24, 22]⟩, t, p, a, gd⟩ (opd tm) H = call (.func (.func 48) #[] #[]) [tm.get i, tm.get j] H :=
  evOp_evO.trans (eo_call2n rfl rfl rfl Nbag)
theorem Gbag (call : Value → List Value → AH → Option (Value × AH)) {tm : Tm} {rs : List DR} {ts : List Nat} {i j : Nat} {H : AH} {d : Option Tmp} {t : TypeId} {p : String} {a : Array Edge} {gd : Option (Nat × Bool)} (hi : natMem ts i = true) (hj : natMem ts j = true) : evOp (tabT Try.prog) call ⟨d, .call ⟨.value (.func 48), #[.tmp i, .tmp j], #[24, 22]⟩, t, p, a, gd⟩ (gOf tm rs ts) H = call (.func (.func 48) #[] #[]) [(finT tm rs).get i, (finT tm rs).get j] H :=
  evOp_evO.trans (eo_call2n rfl (by simp only [gOf, hi, if_true]) (by simp only [gOf, hj, if_true]) Nbag)
theorem Wbag : wrT 48 = false := by kernel_rfl
theorem Nfaces : ((tabT Try.prog) 24).map (fun z => z.ex.nat 47) = some none := by kernel_rfl
theorem Cfaces (call : Value → List Value → AH → Option (Value × AH)) {tm : Tm} {i j : Nat} {H : AH} {d : Option Tmp} {t : TypeId} {p : String} {a : Array Edge} {gd : Option (Nat × Bool)} : evOp (tabT Try.prog) call ⟨d, .call ⟨.value (.func 47), #[.tmp i, .tmp j], #[24, 22]⟩, t, p, a, gd⟩ (opd tm) H = call (.func (.func 47) #[] #[]) [tm.get i, tm.get j] H :=
  evOp_evO.trans (eo_call2n rfl rfl rfl Nfaces)
theorem NplainA : ((tabT Try.prog) 24).map (fun z => (z.ex.nat 43, z.ex.mnz 43)) = some (none, none) := by kernel_rfl
theorem CplainA (call : Value → List Value → AH → Option (Value × AH)) {tm : Tm} {i : Nat} {H : AH} {d : Option Tmp} {t : TypeId} {p : String} {a : Array Edge} {gd : Option (Nat × Bool)} : evOp (tabT Try.prog) call ⟨d, .call ⟨.value (.func 43), #[.tmp i], #[24]⟩, t, p, a, gd⟩ (opd tm) H = call (.func (.func 43) #[] #[]) [tm.get i] H :=
  evOp_evO.trans (eo_call1 rfl rfl NplainA)
theorem kgLA : kpT 12 = false := by kernel_rfl
set_option maxRecDepth 10000 in
set_option maxHeartbeats 8000000 in
theorem adds_core {L : Nat} (call : Value → List Value → AH → Option (Value × AH)) (N0 N1 p M : Nat) (bs0 bs1 b1 : List (Nat × ABlk)) (u : Value) (sd at0 : Int) (s : SV) (u1 u8 : Value) (n P K : Nat) (w ga gb gc : Nat → Int)
    (hNS : call (.func (.func 37) #[] #[]) [u] ⟨N0, bs0⟩ = some (.pointer (some ⟨p, 0, none⟩), ⟨N1, bs1⟩))
    (hSO : call (.func (.func 36) #[] #[]) [.pointer (some ⟨p, 0, none⟩)] ⟨N1, bs1⟩ = some (.agg #[.int .i64 s.p, u1, .int .i64 s.w, .int .i64 s.d, .int .i64 s.f, .int .i64 s.c, .int .i64 s.m, .int .i64 s.de, u8], ⟨M, b1⟩))
    (hM : MI ⟨M, b1⟩) (f1 : FL N1 ⟨M, b1⟩ u1 s.n s.g) (f8 : FL N1 ⟨M, b1⟩ u8 s.k s.h) (he : s.err = 0) (hn1 : 1 ≤ n) (hn2 : n ≤ 144) (hK : K ≤ n) (hP : P ≤ 60)
    (hW : call (.func (.func 39) #[] #[]) [.agg #[.int .i64 s.p, u1, .int .i64 s.w, .int .i64 s.d, .int .i64 s.f, .int .i64 s.c, .int .i64 s.m, .int .i64 s.de, u8], .int .u64 sd] ⟨M + 1, (M, .cells false [.int .i64 s.p, u1, .int .i64 s.w, .int .i64 s.d, .int .i64 s.f, .int .i64 s.c, .int .i64 s.m, .int .i64 s.de, u8]) :: b1⟩ = some (.slice (some ⟨M + 1, 0, none⟩) n 1, ⟨M + 2, (M + 1, .cells false (intsL w n)) :: (M, .cells false [.int .i64 s.p, u1, .int .i64 s.w, .int .i64 s.d, .int .i64 s.f, .int .i64 s.c, .int .i64 s.m, .int .i64 s.de, u8]) :: b1⟩))
    (hInto : ∀ H : AH, call (.func (.func 42) #[] #[]) [.int .i64 at0, .int .i64 ((n : Int) + 1)] H = some (.int .i64 (K : Int), H))
    (hA : call (.func (.func 48) #[] #[]) [.agg #[.int .i64 s.p, u1, .int .i64 s.w, .int .i64 s.d, .int .i64 s.f, .int .i64 s.c, .int .i64 s.m, .int .i64 s.de, u8], .slice (some ⟨M + 1, 0, none⟩) K 1] ⟨M + 2, roB ((M + 1, .cells false (intsL w n)) :: (M, .cells false [.int .i64 s.p, u1, .int .i64 s.w, .int .i64 s.d, .int .i64 s.f, .int .i64 s.c, .int .i64 s.m, .int .i64 s.de, u8]) :: b1)⟩ = some (.tuple #[.slice (some ⟨M + 2, 0, none⟩) P 1, .int .i64 0], ⟨M + 3, (M + 2, .cells false (intsL ga P)) :: roB ((M + 1, .cells false (intsL w n)) :: (M, .cells false [.int .i64 s.p, u1, .int .i64 s.w, .int .i64 s.d, .int .i64 s.f, .int .i64 s.c, .int .i64 s.m, .int .i64 s.de, u8]) :: b1)⟩))
    (hB : call (.func (.func 48) #[] #[]) [.agg #[.int .i64 s.p, u1, .int .i64 s.w, .int .i64 s.d, .int .i64 s.f, .int .i64 s.c, .int .i64 s.m, .int .i64 s.de, u8], (if K = 0 then .slice (some ⟨M + 1, 0, none⟩) n 1 else if K = n then .slice (some ⟨0, 0, some 0⟩) 0 1 else .slice (some ⟨M + 1, K * 1, none⟩) (n - K) 1)] ⟨M + 3, roB ((M + 2, .cells false (intsL ga P)) :: (M + 1, .cells false (intsL w n)) :: (M, .cells false [.int .i64 s.p, u1, .int .i64 s.w, .int .i64 s.d, .int .i64 s.f, .int .i64 s.c, .int .i64 s.m, .int .i64 s.de, u8]) :: b1)⟩ = some (.tuple #[.slice (some ⟨M + 3, 0, none⟩) P 1, .int .i64 0], ⟨M + 4, (M + 3, .cells false (intsL gb P)) :: roB ((M + 2, .cells false (intsL ga P)) :: (M + 1, .cells false (intsL w n)) :: (M, .cells false [.int .i64 s.p, u1, .int .i64 s.w, .int .i64 s.d, .int .i64 s.f, .int .i64 s.c, .int .i64 s.m, .int .i64 s.de, u8]) :: b1)⟩))
    (hC : call (.func (.func 48) #[] #[]) [.agg #[.int .i64 s.p, u1, .int .i64 s.w, .int .i64 s.d, .int .i64 s.f, .int .i64 s.c, .int .i64 s.m, .int .i64 s.de, u8], .slice (some ⟨M + 1, 0, none⟩) n 1] ⟨M + 4, (M + 3, .cells false (intsL gb P)) :: (M + 2, .cells false (intsL ga P)) :: (M + 1, .cells false (intsL w n)) :: (M, .cells false [.int .i64 s.p, u1, .int .i64 s.w, .int .i64 s.d, .int .i64 s.f, .int .i64 s.c, .int .i64 s.m, .int .i64 s.de, u8]) :: b1⟩ = some (.tuple #[.slice (some ⟨M + 4, 0, none⟩) P 1, .int .i64 0], ⟨M + 5, (M + 4, .cells false (intsL gc P)) :: (M + 3, .cells false (intsL gb P)) :: (M + 2, .cells false (intsL ga P)) :: (M + 1, .cells false (intsL w n)) :: (M, .cells false [.int .i64 s.p, u1, .int .i64 s.w, .int .i64 s.d, .int .i64 s.f, .int .i64 s.c, .int .i64 s.m, .int .i64 s.de, u8]) :: b1⟩))
    (hF : call (.func (.func 47) #[] #[]) [.agg #[.int .i64 s.p, u1, .int .i64 s.w, .int .i64 s.d, .int .i64 s.f, .int .i64 s.c, .int .i64 s.m, .int .i64 s.de, u8], .slice (some ⟨M + 1, 0, none⟩) n 1] ⟨M + 5, (M + 4, .cells false (intsL gc P)) :: (M + 3, .cells false (intsL gb P)) :: (M + 2, .cells false (intsL ga P)) :: (M + 1, .cells false (intsL w n)) :: (M, .cells false [.int .i64 s.p, u1, .int .i64 s.w, .int .i64 s.d, .int .i64 s.f, .int .i64 s.c, .int .i64 s.m, .int .i64 s.de, u8]) :: b1⟩ = some (.tuple #[.slice (some ⟨M + 5, 0, none⟩) n 2, .int .i64 0], ⟨M + 6, (M + 5, .cells false (faceC s w n)) :: (M + 4, .cells false (intsL gc P)) :: (M + 3, .cells false (intsL gb P)) :: (M + 2, .cells false (intsL ga P)) :: (M + 1, .cells false (intsL w n)) :: (M, .cells false [.int .i64 s.p, u1, .int .i64 s.w, .int .i64 s.d, .int .i64 s.f, .int .i64 s.c, .int .i64 s.m, .int .i64 s.de, u8]) :: b1⟩))
    (hPl : call (.func (.func 43) #[] #[]) [.agg #[.int .i64 s.p, u1, .int .i64 s.w, .int .i64 s.d, .int .i64 s.f, .int .i64 s.c, .int .i64 s.m, .int .i64 s.de, u8]] ⟨M + 6, (M + 5, .cells false (faceC s w n)) :: (M + 4, .cells false (intsL gc P)) :: (M + 3, .cells false (intsL gb P)) :: (M + 2, .cells false (intsL ga P)) :: (M + 1, .cells false (intsL w n)) :: (M, .cells false [.int .i64 s.p, u1, .int .i64 s.w, .int .i64 s.d, .int .i64 s.f, .int .i64 s.c, .int .i64 s.m, .int .i64 s.de, u8]) :: b1⟩ = some (.int .i64 (P : Int), ⟨M + 7, (M + 5, .cells false (faceC s w n)) :: (M + 4, .cells false (intsL gc P)) :: (M + 3, .cells false (intsL gb P)) :: (M + 2, .cells false (intsL ga P)) :: (M + 1, .cells false (intsL w n)) :: (M, .cells false [.int .i64 s.p, u1, .int .i64 s.w, .int .i64 s.d, .int .i64 s.f, .int .i64 s.c, .int .i64 s.m, .int .i64 s.de, u8]) :: b1⟩))
    (hc : ∀ k, k < P → gc k = s.c) (hs : ∀ k, k < P → wrapI .i64 (ga k + gb k) = gc k) (hred : cntP (fun x => s.redOf x) w n = s.k)
    (hAw : ∃ H', call (.func (.func 27) #[] #[]) [] ⟨M + 7, (M + 5, .cells false (faceC s w n)) :: (M + 4, .cells false (intsL gc P)) :: (M + 3, .cells false (intsL gb P)) :: (M + 2, .cells false (intsL ga P)) :: (M + 1, .cells false (intsL w n)) :: (M, .cells false [.int .i64 s.p, u1, .int .i64 s.w, .int .i64 s.d, .int .i64 s.f, .int .i64 s.c, .int .i64 s.m, .int .i64 s.de, u8]) :: b1⟩ = some (.bool true, H')) :
    ∃ H', evFn (tabT Try.prog) call (L + 300) kpT 12 Try.f12 [u, .int .u64 sd, .int .i64 at0] ⟨N0, bs0⟩ = some (.bool true, H') := by
  have kp := kgLA
  have own : ∀ cs : List Value, (ABlk.cells false cs).own = true := fun _ => rfl
  have v1 := f1.cv
  have v8 := f8.cv
  have wn : wrapI .i64 ((n : Int) + 1) = (n : Int) + 1 := wrapI_small (by omega) (by omega)
  have hM1 : MI ⟨M + 1, (M, .cells false [.int .i64 s.p, u1, .int .i64 s.w, .int .i64 s.d, .int .i64 s.f, .int .i64 s.c, .int .i64 s.m, .int .i64 s.de, u8]) :: b1⟩ := hM.push _
  have hM2 : MI ⟨M + 2, (M + 1, .cells false (intsL w n)) :: (M, .cells false [.int .i64 s.p, u1, .int .i64 s.w, .int .i64 s.d, .int .i64 s.f, .int .i64 s.c, .int .i64 s.m, .int .i64 s.de, u8]) :: b1⟩ := hM1.push _
  have hM3 : MI ⟨M + 3, (M + 2, .cells false (intsL ga P)) :: (M + 1, .cells false (intsL w n)) :: (M, .cells false [.int .i64 s.p, u1, .int .i64 s.w, .int .i64 s.d, .int .i64 s.f, .int .i64 s.c, .int .i64 s.m, .int .i64 s.de, u8]) :: b1⟩ := hM2.push _
  have hM4 : MI ⟨M + 4, (M + 3, .cells false (intsL gb P)) :: (M + 2, .cells false (intsL ga P)) :: (M + 1, .cells false (intsL w n)) :: (M, .cells false [.int .i64 s.p, u1, .int .i64 s.w, .int .i64 s.d, .int .i64 s.f, .int .i64 s.c, .int .i64 s.m, .int .i64 s.de, u8]) :: b1⟩ := hM3.push _
  have hM5 : MI ⟨M + 5, (M + 4, .cells false (intsL gc P)) :: (M + 3, .cells false (intsL gb P)) :: (M + 2, .cells false (intsL ga P)) :: (M + 1, .cells false (intsL w n)) :: (M, .cells false [.int .i64 s.p, u1, .int .i64 s.w, .int .i64 s.d, .int .i64 s.f, .int .i64 s.c, .int .i64 s.m, .int .i64 s.de, u8]) :: b1⟩ := hM4.push _
  have hM6 : MI ⟨M + 6, (M + 5, .cells false (faceC s w n)) :: (M + 4, .cells false (intsL gc P)) :: (M + 3, .cells false (intsL gb P)) :: (M + 2, .cells false (intsL ga P)) :: (M + 1, .cells false (intsL w n)) :: (M, .cells false [.int .i64 s.p, u1, .int .i64 s.w, .int .i64 s.d, .int .i64 s.f, .int .i64 s.c, .int .i64 s.m, .int .i64 s.de, u8]) :: b1⟩ := hM5.push _
  have hM7 : MI ⟨M + 7, (M + 5, .cells false (faceC s w n)) :: (M + 4, .cells false (intsL gc P)) :: (M + 3, .cells false (intsL gb P)) :: (M + 2, .cells false (intsL ga P)) :: (M + 1, .cells false (intsL w n)) :: (M, .cells false [.int .i64 s.p, u1, .int .i64 s.w, .int .i64 s.d, .int .i64 s.f, .int .i64 s.c, .int .i64 s.m, .int .i64 s.de, u8]) :: b1⟩ := ⟨hM6.1, fun q hq => Nat.lt_succ_of_lt (hM6.2 q hq)⟩
  have nw2 := newOnes_ro b1 (M + 2) (fun q hq => Nat.lt_of_lt_of_le (hM.2 q hq) (by show M ≤ M + 2; omega))
  have nw3 := newOnes_ro b1 (M + 3) (fun q hq => Nat.lt_of_lt_of_le (hM.2 q hq) (by show M ≤ M + 3; omega))
  have nle2 : ¬ M + 2 ≤ M := by omega
  have nle3 : ¬ M + 3 ≤ M := by omega
  have n0 : ¬ n = 0 := by omega
  have n0' : ¬ (n : Int) = 0 := by omega
  have bn : ((n : Int) == 0) = false := beq_eq_false_iff_ne.2 n0'
  have sla := SLa (M + 1) n K hK
  have slb := SLb (M + 1) n K hK
  generalize hv2 : ((if K = 0 then .slice (some ⟨M + 1, 0, none⟩) n 1 else if K = n then .slice (some ⟨0, 0, some 0⟩) 0 1 else .slice (some ⟨M + 1, K * 1, none⟩) (n - K) 1) : Value) = v2 at *
  simp only [roB, roK] at hA hB
  obtain ⟨Ha, hAw⟩ := hAw
  simp only [evFn, Try.f12]
  simp [ec_skip, ec_label, ek_reg, ek_draw, ek_seq, ec_cond, ek_block, ec_loop, ec_exit, ec_ret, ec_scope, ek_nil, ek_op, opK_some, regK_some, seqK_normal, seqK_exit, seqK_ret, blockK_normal, blockK_exit, blockK_ret, evOp, vOp, hOpB, hOpU, hOp, hOpT, aAppendG_tab, aWanted, aYielded, opd, putT, closedV, aBin, intOp, sameK, mapO, joinR, hasAddr, boundOf, pushB, aAlloc, Value.cells, lookB, setB, Nat.beq_eq, tm_n_set, tm_get_set, tm_of_n, tm_of_get, tm_tr_set, tm_tr_of, putF, appR_eq, takeR_eq, dropR_eq, setR_eq, getR_eq, ↓C75, ↓C76, ↓C77, ↓C79, ↓C17, ↓C18, ↓C22, ↓C71, FA24_0, FA24_1, FA24_2, FA24_3, FA24_4, FA24_5, FA24_6, FA24_7, FA24_8, LD3, LD4, LD22, LD27, LDr, LD24, LEN22, IA22, tkc, cellAt, ↓Cnews, hNS, ↓Csetof, hSO, ↓AL24, ST24, v1, v8, cvI, ↓Cwall, hW, n0, n0', bn, ↓Cinto, wn, hInto]

  generalize hX : evDrawX _ _ _ _ _ = X
  obtain ⟨tm, rfl, hl, t2, t7, t8, t9, t10⟩ := draw_any (H' := ⟨M + 3, (M + 2, .cells false (intsL ga P)) :: (M + 1, .cells false (intsL w n)) :: (M, .cells false [.int .i64 s.p, u1, .int .i64 s.w, .int .i64 s.d, .int .i64 s.f, .int .i64 s.c, .int .i64 s.m, .int .i64 s.de, u8]) :: b1⟩) (Pt := fun tm => tm.get 2 = .int .i64 (K : Int) ∧ tm.get 7 = .pointer (some ⟨M, 0, none⟩) ∧ tm.get 8 = .slice (some ⟨M + 1, 0, none⟩) n 1 ∧ tm.get 9 = .slice (some ⟨M + 2, 0, none⟩) P 1 ∧ tm.get 10 = .int .i64 0) hX (by kernel_rfl) hM2.1 (by
    clear hX
    generalize befs _ = MM
    simp [mapO, drRun, drOp, dr3, looks, guardT, tmpsOf, Op.operands, Call.operands, wantedR, gOf, finT, natMem, isNil, writesF, evOp, vOp, hOpB, hOpU, hOp, hOpT, aAppendG_tab, opd, closedV, aBin, intOp, sameK, opdO, boundOf, undef, lookB, Nat.beq_eq, tm_n_set, tm_get_set, tm_of_n, tm_of_get, tm_tr_set, tm_tr_of, b02, b12, b32, ↓G75, W75, ↓G76, W76, ↓G77, W77, ↓G79, W79, ↓G17, W17, ↓G18, W18, ↓G22, W22, ↓G71, W71, tv, all1, roB, roK, news, newOnes, decr, tkc, cellAt, LD3, LD4, LD22, LD27, LDr, LD24, LEN22, IA22, FA24_0, FA24_1, FA24_2, FA24_3, FA24_4, FA24_5, FA24_6, FA24_7, FA24_8, hasR, hasR_ro, ↓Gbag, Wbag, sla, hA, nw2, nw3, nle2, nle3, wheap, own, Nat.ble_eq, Nat.blt_eq]
    refine ⟨_, _, ⟨rfl, rfl⟩, ?_, ?_, ?_⟩
    · simp [dynOK, b02, b12, b32, b03, b13, b23, Nat.blt_eq, Nat.beq_eq, tm_n_set, tm_of_n]
    · simp [wheap, news, b02, b12, b32, Nat.beq_eq, all1]
    · simp [finT, tm_get_set, tm_n_set, tm_of_n, tm_of_get])
  clear hX
  simp [tm_n_set, tm_of_n] at hl
  simp [ec_skip, ec_label, ek_reg, ek_draw, ek_seq, ec_cond, ek_block, ec_loop, ec_exit, ec_ret, ec_scope, ek_nil, ek_op, opK_some, regK_some, seqK_normal, seqK_exit, seqK_ret, blockK_normal, blockK_exit, blockK_ret, evOp, vOp, hOpB, hOpU, hOp, hOpT, aAppendG_tab, aWanted, aYielded, opd, putT, closedV, aBin, intOp, sameK, mapO, joinR, hasAddr, boundOf, pushB, aAlloc, Value.cells, lookB, setB, Nat.beq_eq, tm_n_set, tm_get_set, tm_of_n, tm_of_get, tm_tr_set, tm_tr_of, cellV, putF, appR_eq, takeR_eq, dropR_eq, setR_eq, getR_eq, ↓C75, ↓C76, ↓C77, ↓C79, ↓C17, ↓C18, ↓C22, ↓C71, FA24_0, FA24_1, FA24_2, FA24_3, FA24_4, FA24_5, FA24_6, FA24_7, FA24_8, LD3, LD4, LD22, LD27, LDr, LD24, LEN22, IA22, tkc, cellAt, hl, t2, t7, t8, t9, t10]
  generalize hX : evDrawX _ _ _ _ _ = X
  obtain ⟨tm2, rfl, hl2, u7, u8', u9, u10, u11, u12⟩ := draw_any (H' := ⟨M + 4, (M + 3, .cells false (intsL gb P)) :: (M + 2, .cells false (intsL ga P)) :: (M + 1, .cells false (intsL w n)) :: (M, .cells false [.int .i64 s.p, u1, .int .i64 s.w, .int .i64 s.d, .int .i64 s.f, .int .i64 s.c, .int .i64 s.m, .int .i64 s.de, u8]) :: b1⟩) (Pt := fun tm => tm.get 7 = .pointer (some ⟨M, 0, none⟩) ∧ tm.get 8 = .slice (some ⟨M + 1, 0, none⟩) n 1 ∧ tm.get 9 = .slice (some ⟨M + 2, 0, none⟩) P 1 ∧ tm.get 10 = .int .i64 0 ∧ tm.get 11 = .slice (some ⟨M + 3, 0, none⟩) P 1 ∧ tm.get 12 = .int .i64 0) hX (by kernel_rfl) hM3.1 (by
    clear hX
    generalize befs _ = MM
    simp [mapO, drRun, drOp, dr3, looks, guardT, tmpsOf, Op.operands, Call.operands, wantedR, gOf, finT, natMem, isNil, writesF, evOp, vOp, hOpB, hOpU, hOp, hOpT, aAppendG_tab, opd, closedV, aBin, intOp, sameK, opdO, boundOf, undef, lookB, Nat.beq_eq, tm_n_set, tm_get_set, tm_of_n, tm_of_get, tm_tr_set, tm_tr_of, b02, b12, b32, ↓G75, W75, ↓G76, W76, ↓G77, W77, ↓G79, W79, ↓G17, W17, ↓G18, W18, ↓G22, W22, ↓G71, W71, tv, all1, roB, roK, news, newOnes, decr, tkc, cellAt, LD3, LD4, LD22, LD27, LDr, LD24, LEN22, IA22, FA24_0, FA24_1, FA24_2, FA24_3, FA24_4, FA24_5, FA24_6, FA24_7, FA24_8, hasR, hasR_ro, ↓Gbag, Wbag, hl, t2, t7, t8, t9, t10, slb, hB, nw2, nw3, nle2, nle3, wheap, own, Nat.ble_eq, Nat.blt_eq]
    refine ⟨_, _, ⟨rfl, rfl⟩, ?_, ?_, ?_⟩
    · simp [dynOK, b02, b12, b32, b03, b13, b23, Nat.blt_eq, Nat.beq_eq, tm_n_set, tm_of_n, hl]
    · simp [wheap, news, b02, b12, b32, Nat.beq_eq, all1]
    · simp [finT, tm_get_set, tm_n_set, tm_of_n, tm_of_get, hl, t2, t7, t8, t9, t10])
  clear hX
  simp [tm_n_set, hl] at hl2
  have RLA : ∀ (A : AF) (r' : Option (AX × AF × AH)), evLoop (runC (tabT Try.prog) call (L + 300) 12 none lcA) (L + 300) A ⟨M + 7, (M + 5, .cells false (faceC s w n)) :: (M + 4, .cells false (intsL gc P)) :: (M + 3, .cells false (intsL gb P)) :: (M + 2, .cells false (intsL ga P)) :: (M + 1, .cells false (intsL w n)) :: (M, .cells false [.int .i64 s.p, u1, .int .i64 s.w, .int .i64 s.d, .int .i64 s.f, .int .i64 s.c, .int .i64 s.m, .int .i64 s.de, u8]) :: b1⟩ = r' → TAd M P n A → A.tm.get 17 = .int .i64 0 → ∃ y A' H', r' = some (y, A', H') ∧ QAd M P n ⟨M + 7, (M + 5, .cells false (faceC s w n)) :: (M + 4, .cells false (intsL gc P)) :: (M + 3, .cells false (intsL gb P)) :: (M + 2, .cells false (intsL ga P)) :: (M + 1, .cells false (intsL w n)) :: (M, .cells false [.int .i64 s.p, u1, .int .i64 s.w, .int .i64 s.d, .int .i64 s.f, .int .i64 s.c, .int .i64 s.m, .int .i64 s.de, u8]) :: b1⟩ y A' H' := fun A r' h a b => by
    rw [← h]
    exact loopA call M P n (M + 7) _ s u1 u8 ga gb gc hP hM7 (by simp [lookB, Nat.beq_eq]) (by simp [lookB, Nat.beq_eq]) (by simp [lookB, Nat.beq_eq]) (by simp [lookB, Nat.beq_eq]) hc hs A a b
  have RLB : ∀ (A : AF) (r' : Option (AX × AF × AH)), evLoop (runC (tabT Try.prog) call (L + 300) 12 none lcB) (L + 300) A ⟨M + 7, (M + 5, .cells false (faceC s w n)) :: (M + 4, .cells false (intsL gc P)) :: (M + 3, .cells false (intsL gb P)) :: (M + 2, .cells false (intsL ga P)) :: (M + 1, .cells false (intsL w n)) :: (M, .cells false [.int .i64 s.p, u1, .int .i64 s.w, .int .i64 s.d, .int .i64 s.f, .int .i64 s.c, .int .i64 s.m, .int .i64 s.de, u8]) :: b1⟩ = r' → TAd M P n A → A.tm.get 18 = .int .i64 0 → A.tm.get 19 = .int .i64 0 → ∃ y A' H', r' = some (y, A', H') ∧ QBd M P n (fun x => s.redOf x) w ⟨M + 7, (M + 5, .cells false (faceC s w n)) :: (M + 4, .cells false (intsL gc P)) :: (M + 3, .cells false (intsL gb P)) :: (M + 2, .cells false (intsL ga P)) :: (M + 1, .cells false (intsL w n)) :: (M, .cells false [.int .i64 s.p, u1, .int .i64 s.w, .int .i64 s.d, .int .i64 s.f, .int .i64 s.c, .int .i64 s.m, .int .i64 s.de, u8]) :: b1⟩ y A' H' := fun A r' h a b c => by
    rw [← h]
    exact loopB call M P n (M + 7) _ s w (by omega) (by simp [lookB, Nat.beq_eq]) A a b c
  simp only [lcA, Try.f12, Option.map_some, loopsA, List.nil_append, List.append_nil, List.cons_append, Option.getD_some, List.getD_cons_zero] at RLA
  simp only [lcB, Try.f12, Option.map_some, loopsA, List.nil_append, List.append_nil, List.cons_append, Option.getD_some, List.getD_cons_succ, List.getD_cons_zero] at RLB
  have l8 : ∃ a z, u8 = .slice a s.k z := f8.lst.len
  obtain ⟨a8, z8, hu8⟩ := l8
  simp [ec_skip, ec_label, ek_reg, ek_draw, ek_seq, ec_cond, ek_block, ec_loop, ec_exit, ec_ret, ec_scope, ek_nil, ek_op, opK_some, regK_some, seqK_normal, seqK_exit, seqK_ret, blockK_normal, blockK_exit, blockK_ret, evOp, vOp, hOpB, hOpU, hOp, hOpT, aAppendG_tab, aWanted, aYielded, opd, putT, closedV, aBin, intOp, sameK, mapO, joinR, hasAddr, boundOf, pushB, aAlloc, Value.cells, lookB, setB, Nat.beq_eq, tm_n_set, tm_get_set, tm_of_n, tm_of_get, tm_tr_set, tm_tr_of, cellV, putF, appR_eq, takeR_eq, dropR_eq, setR_eq, getR_eq, ↓C75, ↓C76, ↓C77, ↓C79, ↓C17, ↓C18, ↓C22, ↓C71, FA24_0, FA24_1, FA24_2, FA24_3, FA24_4, FA24_5, FA24_6, FA24_7, FA24_8, LD3, LD4, LD22, LD27, LDr, LD24, LEN22, IA22, tkc, cellAt, hl2, u7, u8', u9, u10, u11, u12, ↓Cbag, hC, ↓Cfaces, hF, LENf, ↓CplainA, hPl, undef]
  generalize hr : evLoop _ _ _ _ = r'
  obtain ⟨y, A', H', rfl, rfl, ⟨hl3, hmk3, q7, q9, q11, q13, q15⟩, rfl⟩ := RLA _ _ hr ⟨by simp [tm_n_set, hl2], rfl, by simp [tm_get_set, tm_n_set, hl2, u7], by simp [tm_get_set, tm_n_set, hl2, u9], by simp [tm_get_set, tm_n_set, hl2, u11], by simp [tm_get_set, tm_n_set, hl2], by simp [tm_get_set, tm_n_set, hl2]⟩ (by simp [tm_get_set, tm_n_set, hl2])
  clear hr RLA
  simp [ec_skip, ec_label, ek_reg, ek_draw, ek_seq, ec_cond, ek_block, ec_loop, ec_exit, ec_ret, ec_scope, ek_nil, ek_op, opK_some, regK_some, seqK_normal, seqK_exit, seqK_ret, blockK_normal, blockK_exit, blockK_ret, evOp, vOp, hOpB, hOpU, hOp, hOpT, aAppendG_tab, aWanted, aYielded, opd, putT, closedV, aBin, intOp, sameK, mapO, joinR, hasAddr, boundOf, pushB, aAlloc, Value.cells, lookB, setB, Nat.beq_eq, tm_n_set, tm_get_set, tm_of_n, tm_of_get, tm_tr_set, tm_tr_of, cellV, putF, appR_eq, takeR_eq, dropR_eq, setR_eq, getR_eq, ↓C75, ↓C76, ↓C77, ↓C79, ↓C17, ↓C18, ↓C22, ↓C71, FA24_0, FA24_1, FA24_2, FA24_3, FA24_4, FA24_5, FA24_6, FA24_7, FA24_8, LD3, LD4, LD22, LD27, LDr, LD24, LEN22, IA22, tkc, cellAt, hl3, hmk3, q7, q9, q11, q13, q15]
  generalize hr : evLoop _ _ _ _ = r'
  obtain ⟨y, A2, H', rfl, rfl, ⟨hl4, hmk4, w7, w9, w11, w13, w15⟩, w18, rfl⟩ := RLB _ _ hr ⟨by simp [tm_n_set, hl3], by simp [hmk3], by simp [tm_get_set, tm_n_set, hl3, q7], by simp [tm_get_set, tm_n_set, hl3, q9], by simp [tm_get_set, tm_n_set, hl3, q11], by simp [tm_get_set, tm_n_set, hl3, q13], by simp [tm_get_set, tm_n_set, hl3, q15]⟩ (by simp [tm_get_set, tm_n_set, hl3]) (by simp [tm_get_set, tm_n_set, hl3])
  clear hr RLB
  rw [hred] at w18
  rw [hu8] at hAw ⊢
  simp [ec_skip, ec_label, ek_reg, ek_draw, ek_seq, ec_cond, ek_block, ec_loop, ec_exit, ec_ret, ec_scope, ek_nil, ek_op, opK_some, regK_some, seqK_normal, seqK_exit, seqK_ret, blockK_normal, blockK_exit, blockK_ret, evOp, vOp, hOpB, hOpU, hOp, hOpT, aAppendG_tab, aWanted, aYielded, opd, putT, closedV, aBin, intOp, sameK, mapO, joinR, hasAddr, boundOf, pushB, aAlloc, Value.cells, lookB, setB, Nat.beq_eq, tm_n_set, tm_get_set, tm_of_n, tm_of_get, tm_tr_set, tm_tr_of, cellV, putF, appR_eq, takeR_eq, dropR_eq, setR_eq, getR_eq, ↓C75, ↓C76, ↓C77, ↓C79, ↓C17, ↓C18, ↓C22, ↓C71, FA24_0, FA24_1, FA24_2, FA24_3, FA24_4, FA24_5, FA24_6, FA24_7, FA24_8, LD3, LD4, LD22, LD27, LDr, LD24, LEN22, IA22, tkc, cellAt, hl4, hmk4, w7, w9, w11, w13, w15, w18, ↓Cawake, hAw, finF, takeM, resV, cleanedG, kp, below]

end

section
set_option linter.unusedSimpArgs false
set_option linter.unusedVariables false

noncomputable def ansI : List Value → AH → Option Value
  | [.int .i64 n, .int .i64 m], _ => if m = 0 then none else some (.int .i64 (intoX n m))
  | _, _ => none
theorem FIo : tabF Try.prog 42 = some Try.f42 := by kernel_rfl
theorem okI : AnsOK (runH noH) 42 ansI := by
  intro cargs Hc v h
  unfold ansI at h
  split at h
  · split at h
    · cases h
    · rename_i hm
      cases h
      refine ⟨rfl, fun _ => ?_⟩
      obtain ⟨H', h⟩ := into_ev (L := 0) (inH noH) (H := Hc) hm
      exact ⟨H', runH_fn FIo rfl h⟩
  · cases h
theorem canI (n m : Int) (H : AH) (h : ¬ m = 0) : canH 42 ansI (.func (.func 42) #[] #[]) [.int .i64 n, .int .i64 m] H = some (.int .i64 (intoX n m), H) := by
  simp [canH, canon, canonL, canonV, canonB, ansI, Nat.beq_eq, h]
theorem seeC_of {b : List (Nat × ABlk)} {s : SV} {u1 u8 : Value} (l1 : Lst b u1 s.n s.g) (h1 : 1 ≤ s.n) (l8 : Lst b u8 s.k s.h) (h8 : u8 = .slice none 0 0 → s.h = fun _ => 0) (hn : s.n ≤ 200) (hk : s.k ≤ 200) : seeC (.agg ⟨[.int .i64 s.p, u1, .int .i64 s.w, .int .i64 s.d, .int .i64 s.f, .int .i64 s.c, .int .i64 s.m, .int .i64 s.de, u8]⟩) b = some s := by
  rcases l1 with ⟨_, h⟩ | ⟨a, ro, cs, rfl, h2, h3, h4⟩
  · omega
  · have e1 : seeL b (.slice (some ⟨a, 0, none⟩) s.n 1) = some (s.n, s.g) := by simp only [seeL, h2, h3, if_true, h4]
    have e8 : seeL b u8 = some (s.k, s.h) := by
      rcases l8 with ⟨rfl, h⟩ | ⟨a, ro, cs, rfl, h2, h3, h4⟩
      · rw [h, h8 rfl]; rfl
      · simp only [seeL, h2, h3, if_true, h4]
    unfold seeC
    simp only [e1, e8]
    simp [hn, hk, Nat.ble_eq]
theorem setH_other {f g : FuncId} {ans : SV → List Value → Option Value} {args : List Value} {H : AH} (h : Nat.beq g f = false) : setH f ans (.func (.func g) #[] #[]) args H = none := by
  cases args with
  | nil => rfl
  | cons v r => simp [setH, h]
theorem setLH_other {f g : FuncId} {ans : SV → List Value → Option (List Int)} {args : List Value} {H : AH} (h : Nat.beq g f = false) : setLH f ans (.func (.func g) #[] #[]) args H = none := by
  cases args with
  | nil => rfl
  | cons v r => simp [setLH, h]
/-- The functions that are run in place. -/
def SrcFree (hd : Hnd) : Prop := ∀ f, f ∈ [95, 79, 77, 37, 78, 60, 36, 43, 82, 46] → ∀ args H, hd (.func (.func f) #[] #[]) args H = none
noncomputable def E (hd : Hnd) (L n : Nat) : Hnd := evCall (tabT Try.prog) (tabF Try.prog) (L + 300) kpT hd n
theorem FFB : tabF Try.prog 95 = some Try.f95 := by kernel_rfl
theorem FFR : tabF Try.prog 79 = some Try.f79 := by kernel_rfl
theorem FFO : tabF Try.prog 77 = some Try.f77 := by kernel_rfl
theorem FFN : tabF Try.prog 37 = some Try.f37 := by kernel_rfl
theorem FFL : tabF Try.prog 78 = some Try.f78 := by kernel_rfl
theorem FFG : tabF Try.prog 60 = some Try.f60 := by kernel_rfl
theorem FFS : tabF Try.prog 36 = some Try.f36 := by kernel_rfl
theorem FFP : tabF Try.prog 43 = some Try.f43 := by kernel_rfl
theorem FFT : tabF Try.prog 82 = some Try.f82 := by kernel_rfl
theorem FFI : tabF Try.prog 46 = some Try.f46 := by kernel_rfl
theorem bel_at {hd : Hnd} (hfr : SrcFree hd) (L n p N : Nat) (bs : List (Nat × ABlk)) (x : Int) (m : Nat) (h1 : 1 ≤ m) (h2 : m ≤ 1000) (hM : MI ⟨N, bs⟩) (h : lookB bs p = some (sB x)) : E hd L (n + 1) (.func (.func 95) #[] #[]) [.pointer (some ⟨p, 0, none⟩), .int .i64 (m : Int)] ⟨N, bs⟩ = some (.int .i64 (belV x m), ⟨N, setB bs p (sB (stB x))⟩) :=
  (evCall_fn FFB (hfr _ (by simp) _ _)).trans (below_ev _ p N bs x m h1 h2 hM h)
theorem src_at {hd : Hnd} (hfr : SrcFree hd) (L n p : Nat) : SrcOK (E hd L (n + 1 + 1)) p where
  bel N bs x m h1 h2 hM h := bel_at hfr L (n + 1) p N bs x m h1 h2 hM h
  ran N bs x lo hi h1 h2 hM h := (evCall_fn FFR (hfr _ (by simp) _ _)).trans (range_ev _ p N bs x lo hi h1 h2 fun m a b => bel_at hfr L n p N bs x m a b hM h)
  odd N bs x m h1 h2 hM h := (evCall_fn FFO (hfr _ (by simp) _ _)).trans (odds_ev _ p N bs x m h1 h2 fun m a b => bel_at hfr L n p N bs x m a b hM h)
theorem plain_at {hd : Hnd} (hfr : SrcFree hd) (L n M : Nat) (b2 : List (Nat × ABlk)) (s : SV) (u1 u8 : Value) (hM : MI ⟨M, b2⟩) (hu : Lst b2 u1 s.n s.g) (hn : s.n ≤ 200) : E hd L (n + 1 + 1) (.func (.func 43) #[] #[]) [.agg #[.int .i64 s.p, u1, .int .i64 s.w, .int .i64 s.d, .int .i64 s.f, .int .i64 s.c, .int .i64 s.m, .int .i64 s.de, u8]] ⟨M, b2⟩ = some (.int .i64 (PV s), ⟨M + 1, b2⟩) :=
  (evCall_fn FFP (hfr _ (by simp) _ _)).trans (plainC_ev _ M b2 hM hu fun N bs hM hu => (evCall_fn FFT (hfr _ (by simp) _ _)).trans (total_ev _ N bs hn hM hu))
theorem lit_at {hd : Hnd} (hfr : SrcFree hd) (L n p M : Nat) (b : List (Nat × ABlk)) (y : Int) (me : Nat) (hme : me = 1 ∨ me = 2) (hM : MI ⟨M, b⟩) (h : lookB b p = some (sB y)) : LitEnd M p (me : Int) b (E hd L (n + 1 + 1 + 1) (.func (.func 78) #[] #[]) [.pointer (some ⟨p, 0, none⟩), .int .i64 (me : Int)] ⟨M, b⟩) := by
  have e : E hd L (n + 1 + 1 + 1) (.func (.func 78) #[] #[]) [.pointer (some ⟨p, 0, none⟩), .int .i64 (me : Int)] ⟨M, b⟩ = _ := evCall_fn FFL (hfr _ (by simp) _ _)
  rw [e]
  exact little_ev _ p M b y me hme hM h (src_at hfr L n p) (plain_at hfr L n)
theorem set_at {hd : Hnd} (hfr : SrcFree hd) (L n p N : Nat) (bs : List (Nat × ABlk)) (x : Int) (hM : MI ⟨N, bs⟩) (h : lookB bs p = some (sB x)) : SetEnd N p bs (E hd L (n + 1 + 1 + 1 + 1) (.func (.func 36) #[] #[]) [.pointer (some ⟨p, 0, none⟩)] ⟨N, bs⟩) := by
  have e : E hd L (n + 1 + 1 + 1 + 1) (.func (.func 36) #[] #[]) [.pointer (some ⟨p, 0, none⟩)] ⟨N, bs⟩ = _ := evCall_fn FFS (hfr _ (by simp) _ _)
  rw [e]
  exact setof_ev _ p N bs x hM h (src_at hfr L (n + 1) p) (fun M b => (evCall_fn FFG (hfr _ (by simp) _ _)).trans (big_ev _ M b)) (lit_at hfr L n p)
theorem err_nil {s : SV} (he : s.err = 0) (hk : s.k = 0) : ({ s with h := fun _ => 0 } : SV).err = 0 := by
  obtain ⟨p, n, g, w, d, f, c, m, de, k, h⟩ := s
  simp only at hk
  subst hk
  exact he
theorem in_at {hd : Hnd} (hfr : SrcFree hd) (L k N : Nat) (bs : List (Nat × ABlk)) {u : Value} {n : Nat} {g : Nat → Int} (x : Int) (hn : n ≤ 200) (hM : MI ⟨N, bs⟩) (hu : Lst bs u n g) : E hd L (k + 1) (.func (.func 46) #[] #[]) [u, .int .i64 x] ⟨N, bs⟩ = some (.bool (memG g n 0 x), ⟨N, bs⟩) :=
  (evCall_fn FFI (hfr _ (by simp) _ _)).trans (in_ev _ N bs x hn hM hu)
/-- What there is behind NewSource and SetOf. -/
structure Opened (hd : Hnd) (n : Nat) (ks : List Value) (u : Value) (x : Int) (s : SV) (u1 u8 : Value) (M : Nat) (b1 : List (Nat × ABlk)) : Prop where
  ns : E hd n 8 (.func (.func 37) #[] #[]) [u] ⟨1, [(0, .cells true ks)]⟩ = some (.pointer (some ⟨1, 0, none⟩), HS ks x)
  so : E hd n 8 (.func (.func 36) #[] #[]) [.pointer (some ⟨1, 0, none⟩)] (HS ks x) = some (.agg #[.int .i64 s.p, u1, .int .i64 s.w, .int .i64 s.d, .int .i64 s.f, .int .i64 s.c, .int .i64 s.m, .int .i64 s.de, u8], ⟨M, b1⟩)
  mi : MI ⟨M, b1⟩
  nx : 2 ≤ M
  f1 : FL 2 ⟨M, b1⟩ u1 s.n s.g
  f8 : FL 2 ⟨M, b1⟩ u8 s.k s.h
  err : s.err = 0
  z8 : u8 = .slice none 0 0 → s.h = fun _ => 0
  n1 : 1 ≤ s.n
  k2 : s.k ≤ 200
theorem Opened.see {hd : Hnd} {n : Nat} {ks : List Value} {u : Value} {x : Int} {s : SV} {u1 u8 : Value} {M : Nat} {b1 : List (Nat × ABlk)} (h : Opened hd n ks u x s u1 u8 M b1) {b : List (Nat × ABlk)} (l1 : Lst b u1 s.n s.g) (l8 : Lst b u8 s.k s.h) : seeC (.agg #[.int .i64 s.p, u1, .int .i64 s.w, .int .i64 s.d, .int .i64 s.f, .int .i64 s.c, .int .i64 s.m, .int .i64 s.de, u8]) b = some s := by
  have hs3 := (small_of_err h.err).n
  exact seeC_of l1 h.n1 l8 h.z8 (by omega) h.k2
theorem open_set {hd : Hnd} (hfr : SrcFree hd) (n : Nat) (hn : n ≤ 9223372036854775807) {ks : List Value} (hks : okC ks n = true) {u : Value}
    (hlen : aLen (tabT Try.prog) 22 u = some (.int .i64 n)) (hix : ∀ k : Nat, k < n → aIndexAddr (tabT Try.prog) 22 u (.int .i64 (k : Int)) = some (.pointer (some ⟨0, k, none⟩))) :
    ∃ x s u1 u8 M b1, Opened hd n ks u x s u1 u8 M b1 := by
  obtain ⟨x, hx⟩ := newSource_ev (L := n + 300) (E hd n 7) (by omega) hn hks hlen hix
  have hNS : E hd n 8 (.func (.func 37) #[] #[]) [u] ⟨1, [(0, .cells true ks)]⟩ = some (.pointer (some ⟨1, 0, none⟩), HS ks x) := (evCall_fn FFN (hfr _ (by simp) _ _)).trans hx
  have hM0 : MI ⟨2, [(1, .cells false [.int .u64 x]), (0, .cells true ks)]⟩ := ⟨rfl, fun p hp => by
    simp only [List.mem_cons, List.not_mem_nil, or_false] at hp
    rcases hp with rfl | rfl
    · show 1 < 2; omega
    · show 0 < 2; omega⟩
  obtain ⟨s0, u1, u8, ⟨M, b1⟩, hSO, hM, hnx, _, f1, f80, he0, hk, h1⟩ := set_at hfr n 4 1 2 [(1, .cells false [.int .u64 x]), (0, .cells true ks)] x hM0 rfl
  obtain ⟨s, hs, he, f8, h8⟩ : ∃ s : SV, (.agg #[.int .i64 s.p, u1, .int .i64 s.w, .int .i64 s.d, .int .i64 s.f, .int .i64 s.c, .int .i64 s.m, .int .i64 s.de, u8] = (.agg #[.int .i64 s0.p, u1, .int .i64 s0.w, .int .i64 s0.d, .int .i64 s0.f, .int .i64 s0.c, .int .i64 s0.m, .int .i64 s0.de, u8] : Value) ∧ s.n = s0.n ∧ s.g = s0.g ∧ s.k = s0.k) ∧ s.err = 0 ∧ FL 2 ⟨M, b1⟩ u8 s.k s.h ∧ (u8 = .slice none 0 0 → s.h = fun _ => 0) := by
    by_cases hu : u8 = .slice none 0 0
    · have hk0 : s0.k = 0 := by
        rcases f80 with ⟨_, h⟩ | ⟨a, cs, h, _⟩
        · exact h
        · rw [hu] at h; cases h
      exact ⟨{ s0 with h := fun _ => 0 }, ⟨rfl, rfl, rfl, rfl⟩, err_nil he0 hk0, .inl ⟨hu, hk0⟩, fun _ => rfl⟩
    · exact ⟨s0, ⟨rfl, rfl, rfl, rfl⟩, he0, f80, fun h => absurd h hu⟩
  obtain ⟨ha, hn0, hg0, hk0⟩ := hs
  rw [← ha] at hSO
  rw [← hn0, ← hg0] at f1
  exact ⟨x, s, u1, u8, M, b1, hNS, hSO, hM, hnx, f1, f8, he, h8, by omega, by omega⟩

end

section
set_option linter.unusedSimpArgs false
set_option linter.unusedVariables false

noncomputable def RB : Hnd := orH (canH 42 ansI) (orH (setLH 39 ansWall) (orH (setTH 48 ansBag) (orH (setEH 48 ansBag0) (orH (setTH 47 ansFaces) (memoF m4x0L)))))
theorem RB_ok : CallOK Try.prog RB := orH_ok (canH_ok (runH_ok noH_ok) okI) (orH_ok setWall_ok (orH_ok setBag_ok (orH_ok setBag0_ok (orH_ok setFaces_ok m4x0L_ok))))
theorem awakeM (H : AH) : memoF m4x0L (.func (.func 27) #[] #[]) [] H = some (.bool true, H) := by
  cases H
  kernel_rfl
theorem RB_free : SrcFree RB := by
  intro f hf args H
  simp only [List.mem_cons, List.not_mem_nil, or_false] at hf
  rcases hf with rfl | rfl | rfl | rfl | rfl | rfl | rfl | rfl | rfl | rfl <;> exact orH_r (canH_other rfl) (orH_r (setLH_other rfl) (orH_r (setTH_other rfl) (orH_r (setEH_other rfl) (orH_r (setTH_other rfl) rfl))))
theorem FLaw : tabF Try.prog 12 = some Try.f12 := by kernel_rfl
theorem cntK_ext {s : SV} {t t' : Nat → Int} {j : Nat} : ∀ n, (∀ i, i < n → t i = t' i) → cntK s t n j = cntK s t' n j
  | 0, _ => rfl
  | n + 1, h => by simp only [cntK]; rw [cntK_ext n (fun i hi => h i (by omega)), h n (by omega)]
theorem bagC_ext {s : SV} {t t' : Nat → Int} {P n : Nat} (h : ∀ i, i < n → t i = t' i) : bagC s t P n = intsL (fun j => cntK s t' n j) P := by
  unfold bagC intsL
  exact List.map_congr_left fun j _ => by
    show Value.int .i64 (cntK s t n j) = Value.int .i64 (cntK s t' n j)
    rw [cntK_ext n h]
theorem faceC_ext {s : SV} {t t' : Nat → Int} : ∀ n, (∀ i, i < n → t i = t' i) → faceC s t n = faceC s t' n
  | 0, _ => rfl
  | n + 1, h => by simp only [faceC]; rw [faceC_ext n (fun i hi => h i (by omega)), h n (by omega)]
theorem gi_ints (g : Nat → Int) {n j : Nat} (h : j < n) : gi (intsL g n) j = g j := by
  unfold gi
  rw [intsL_at g n j h]
theorem tErr_zero {s : SV} {t : Nat → Int} : ∀ (m i : Nat), (∀ j, i ≤ j → j < i + m → s.inB (t j) = true ∧ hasG t j (t j) = false) → tErr s t m i = 0
  | 0, _, _ => rfl
  | m + 1, i, h => by
    obtain ⟨h1, h2⟩ := h i (Nat.le_refl _) (by omega)
    simp only [tErr, h1, h2, Bool.true_eq_false, Bool.false_eq_true, if_false]
    exact tErr_zero m (i + 1) fun j a b => h j (by omega) (by omega)
/-- A part of a wall has no error. -/
theorem part_ok {s : SV} (he : s.err = 0) {w : Nat → Int} {n : Nat} (hn : n = s.rsize.toNat) (hp : Perm w n) {t : Nat → Int} {K m : Nat} (hK : K + m ≤ n) (ht : ∀ j, j < m → t j = w (K + j)) : tErr s t m 0 = 0 := by
  have hr := rsize_of he
  refine tErr_zero m 0 fun j _ hj => ⟨?_, ?_⟩
  · rw [ht j (by omega)]
    obtain ⟨a, b⟩ := hp.range (i := K + j) (by omega)
    exact inB_of he a (by omega)
  · cases hh : hasG t j (t j) with
    | false => rfl
    | true =>
      obtain ⟨i, hi, e⟩ := (hasG_iff t j (t j)).1 hh
      rw [ht j (by omega), ht i (by omega)] at e
      exact absurd e.symm (hp.inj (by omega) (by omega))
theorem cntK_le (s : SV) (t : Nat → Int) (n j : Nat) : 0 ≤ cntK s t n j ∧ cntK s t n j ≤ n := cntK_bnd s t n j
theorem lst_ne {l : List Int} (h : l ≠ []) (b : Nat) (H : AH) : lstV b l = .slice (some ⟨b, 0, none⟩) l.length 1 ∧ lstM H l = ⟨H.next + 1, (H.next, .cells false (intsV l)) :: H.bs⟩ := by
  cases l with
  | nil => exact absurd rfl h
  | cons a t => exact ⟨rfl, rfl⟩
theorem nb_ne {cs : List Value} (h : cs ≠ []) (H : AH) (b n z : Nat) (c : Value) : nbV b n z cs c = .tuple #[.slice (some ⟨b, 0, none⟩) n z, c] ∧ nbM H cs = ⟨H.next + 1, (H.next, .cells false cs) :: H.bs⟩ := by
  simp [nbV, nbM, h]
theorem ints_ne {g : Nat → Int} {n : Nat} (h : 1 ≤ n) : intsL g n ≠ [] := fun e => by
  have := intsL_len g n
  rw [e] at this
  simp only [List.length_nil] at this
  omega
theorem okC_ints (g : Nat → Int) (n : Nat) : okC (intsL g n) (intsL g n).length = true := by
  simp only [okC, Bool.and_eq_true, List.all_eq_true]
  refine ⟨by simp, fun v hv => ?_⟩
  simp only [intsL, List.mem_map] at hv
  obtain ⟨j, _, rfl⟩ := hv
  rfl
theorem seeT_of {bs : List (Nat × ABlk)} {a off m n : Nat} {ro : Bool} {g : Nat → Int} (h : lookB bs a = some (.cells ro (intsL g n))) (hm : off + m ≤ n) : seeT bs (.slice (some ⟨a, off, none⟩) m 1) = some (m, fun j => gi (intsL g n) (off + j)) := by
  have h1 : Nat.ble (off + m) (intsL g n).length = true := by rw [Nat.ble_eq, intsL_len]; exact hm
  simp only [seeT, h, okC_ints, h1, Bool.and_self, if_true]
set_option maxRecDepth 10000 in
set_option maxHeartbeats 8000000 in
theorem body_ev (l : Nat) (hl : l ≤ 9223372036854775807) {ks : List Value} (hks : okC ks l = true) {u : Value}
    (hlen : aLen (tabT Try.prog) 22 u = some (.int .i64 l)) (hix : ∀ k : Nat, k < l → aIndexAddr (tabT Try.prog) 22 u (.int .i64 (k : Int)) = some (.pointer (some ⟨0, k, none⟩))) (sd at0 : Int) :
    ∃ H', evFn (tabT Try.prog) (E RB l 8) (l + 300) kpT 12 Try.f12 [u, .int .u64 sd, .int .i64 at0] ⟨1, [(0, .cells true ks)]⟩ = some (.bool true, H') := by
  obtain ⟨x, s, u1, u8, M, b1, h⟩ := open_set RB_free l hl hks hlen hix
  have he := h.err
  obtain ⟨⟨c1, c2⟩, ⟨p0, p1⟩, ⟨a0, a1⟩, hz, f0, f1⟩ := size_bounds he
  have hr := rsize_of he
  have hrb := rsize_bounds s
  have hp1 := plain_le he
  have hpc : 1 ≤ s.plain * s.c := by
    rcases (by omega : s.c = 1 ∨ s.c = 2 ∨ s.c = 3 ∨ s.c = 4) with e | e | e | e <;> rw [e] <;> omega
  obtain ⟨n, hn⟩ : ∃ n, n = s.rsize.toNat := ⟨_, rfl⟩
  obtain ⟨P, hP⟩ : ∃ P, P = s.plain.toNat := ⟨_, rfl⟩
  have hn1 : 1 ≤ n := by omega
  have hn2 : n ≤ 144 := by omega
  have hPs : s.plain = (P : Int) := by omega
  have hP1 : 1 ≤ P := by omega
  obtain ⟨w, hw⟩ : ∃ w, w = wallF n sd := ⟨_, rfl⟩
  have hperm : Perm w n := by rw [hw]; exact perm_wall hn1 sd
  have k0 := intoX_range at0 ((n : Int) + 1) (by omega) (by omega)
  obtain ⟨K, hKe⟩ : ∃ K : Nat, (K : Int) = intoX at0 ((n : Int) + 1) := ⟨(intoX at0 ((n : Int) + 1)).toNat, by omega⟩
  have hK : K ≤ n := by omega
  obtain ⟨ga, hga⟩ : ∃ g : Nat → Int, g = fun j => cntK s w K j := ⟨_, rfl⟩
  obtain ⟨gb, hgb⟩ : ∃ g : Nat → Int, g = fun j => cntK s (fun i => w (K + i)) (n - K) j := ⟨_, rfl⟩
  obtain ⟨gc, hgc⟩ : ∃ g : Nat → Int, g = fun j => cntK s w n j := ⟨_, rfl⟩
  have M1 : MI ⟨M + 1, (M, .cells false [.int .i64 s.p, u1, .int .i64 s.w, .int .i64 s.d, .int .i64 s.f, .int .i64 s.c, .int .i64 s.m, .int .i64 s.de, u8]) :: b1⟩ := h.mi.push _
  have M2 : MI ⟨M + 2, (M + 1, .cells false (intsL w n)) :: (M, .cells false [.int .i64 s.p, u1, .int .i64 s.w, .int .i64 s.d, .int .i64 s.f, .int .i64 s.c, .int .i64 s.m, .int .i64 s.de, u8]) :: b1⟩ := M1.push _
  have M3 : MI ⟨M + 3, (M + 2, .cells false (intsL ga P)) :: (M + 1, .cells false (intsL w n)) :: (M, .cells false [.int .i64 s.p, u1, .int .i64 s.w, .int .i64 s.d, .int .i64 s.f, .int .i64 s.c, .int .i64 s.m, .int .i64 s.de, u8]) :: b1⟩ := M2.push _
  have M4 : MI ⟨M + 4, (M + 3, .cells false (intsL gb P)) :: (M + 2, .cells false (intsL ga P)) :: (M + 1, .cells false (intsL w n)) :: (M, .cells false [.int .i64 s.p, u1, .int .i64 s.w, .int .i64 s.d, .int .i64 s.f, .int .i64 s.c, .int .i64 s.m, .int .i64 s.de, u8]) :: b1⟩ := M3.push _
  have M5 : MI ⟨M + 5, (M + 4, .cells false (intsL gc P)) :: (M + 3, .cells false (intsL gb P)) :: (M + 2, .cells false (intsL ga P)) :: (M + 1, .cells false (intsL w n)) :: (M, .cells false [.int .i64 s.p, u1, .int .i64 s.w, .int .i64 s.d, .int .i64 s.f, .int .i64 s.c, .int .i64 s.m, .int .i64 s.de, u8]) :: b1⟩ := M4.push _
  have M6 : MI ⟨M + 6, (M + 5, .cells false (faceC s w n)) :: (M + 4, .cells false (intsL gc P)) :: (M + 3, .cells false (intsL gb P)) :: (M + 2, .cells false (intsL ga P)) :: (M + 1, .cells false (intsL w n)) :: (M, .cells false [.int .i64 s.p, u1, .int .i64 s.w, .int .i64 s.d, .int .i64 s.f, .int .i64 s.c, .int .i64 s.m, .int .i64 s.de, u8]) :: b1⟩ := M5.push _
  have x0 : Lst ((M, .cells false [.int .i64 s.p, u1, .int .i64 s.w, .int .i64 s.d, .int .i64 s.f, .int .i64 s.c, .int .i64 s.m, .int .i64 s.de, u8]) :: b1) u1 s.n s.g := h.f1.lst.push h.mi.2 _
  have y0 : Lst ((M, .cells false [.int .i64 s.p, u1, .int .i64 s.w, .int .i64 s.d, .int .i64 s.f, .int .i64 s.c, .int .i64 s.m, .int .i64 s.de, u8]) :: b1) u8 s.k s.h := h.f8.lst.push h.mi.2 _
  have x1 : Lst ((M + 1, .cells false (intsL w n)) :: (M, .cells false [.int .i64 s.p, u1, .int .i64 s.w, .int .i64 s.d, .int .i64 s.f, .int .i64 s.c, .int .i64 s.m, .int .i64 s.de, u8]) :: b1) u1 s.n s.g := x0.push M1.2 _
  have y1 : Lst ((M + 1, .cells false (intsL w n)) :: (M, .cells false [.int .i64 s.p, u1, .int .i64 s.w, .int .i64 s.d, .int .i64 s.f, .int .i64 s.c, .int .i64 s.m, .int .i64 s.de, u8]) :: b1) u8 s.k s.h := y0.push M1.2 _
  have x2 : Lst ((M + 2, .cells false (intsL ga P)) :: (M + 1, .cells false (intsL w n)) :: (M, .cells false [.int .i64 s.p, u1, .int .i64 s.w, .int .i64 s.d, .int .i64 s.f, .int .i64 s.c, .int .i64 s.m, .int .i64 s.de, u8]) :: b1) u1 s.n s.g := x1.push M2.2 _
  have y2 : Lst ((M + 2, .cells false (intsL ga P)) :: (M + 1, .cells false (intsL w n)) :: (M, .cells false [.int .i64 s.p, u1, .int .i64 s.w, .int .i64 s.d, .int .i64 s.f, .int .i64 s.c, .int .i64 s.m, .int .i64 s.de, u8]) :: b1) u8 s.k s.h := y1.push M2.2 _
  have x3 : Lst ((M + 3, .cells false (intsL gb P)) :: (M + 2, .cells false (intsL ga P)) :: (M + 1, .cells false (intsL w n)) :: (M, .cells false [.int .i64 s.p, u1, .int .i64 s.w, .int .i64 s.d, .int .i64 s.f, .int .i64 s.c, .int .i64 s.m, .int .i64 s.de, u8]) :: b1) u1 s.n s.g := x2.push M3.2 _
  have y3 : Lst ((M + 3, .cells false (intsL gb P)) :: (M + 2, .cells false (intsL ga P)) :: (M + 1, .cells false (intsL w n)) :: (M, .cells false [.int .i64 s.p, u1, .int .i64 s.w, .int .i64 s.d, .int .i64 s.f, .int .i64 s.c, .int .i64 s.m, .int .i64 s.de, u8]) :: b1) u8 s.k s.h := y2.push M3.2 _
  have x4 : Lst ((M + 4, .cells false (intsL gc P)) :: (M + 3, .cells false (intsL gb P)) :: (M + 2, .cells false (intsL ga P)) :: (M + 1, .cells false (intsL w n)) :: (M, .cells false [.int .i64 s.p, u1, .int .i64 s.w, .int .i64 s.d, .int .i64 s.f, .int .i64 s.c, .int .i64 s.m, .int .i64 s.de, u8]) :: b1) u1 s.n s.g := x3.push M4.2 _
  have y4 : Lst ((M + 4, .cells false (intsL gc P)) :: (M + 3, .cells false (intsL gb P)) :: (M + 2, .cells false (intsL ga P)) :: (M + 1, .cells false (intsL w n)) :: (M, .cells false [.int .i64 s.p, u1, .int .i64 s.w, .int .i64 s.d, .int .i64 s.f, .int .i64 s.c, .int .i64 s.m, .int .i64 s.de, u8]) :: b1) u8 s.k s.h := y3.push M4.2 _
  have x5 : Lst ((M + 5, .cells false (faceC s w n)) :: (M + 4, .cells false (intsL gc P)) :: (M + 3, .cells false (intsL gb P)) :: (M + 2, .cells false (intsL ga P)) :: (M + 1, .cells false (intsL w n)) :: (M, .cells false [.int .i64 s.p, u1, .int .i64 s.w, .int .i64 s.d, .int .i64 s.f, .int .i64 s.c, .int .i64 s.m, .int .i64 s.de, u8]) :: b1) u1 s.n s.g := x4.push M5.2 _
  have hsn := (small_of_err he).n
  have hwl : wallL s sd = wl n w := by rw [hw]; unfold wallL; rw [← hn]
  have hwne : wallL s sd ≠ [] := fun e => by
    have := wl_len n w
    rw [← hwl, e] at this
    simp only [List.length_nil] at this
    omega
  have eW : E RB l 8 (.func (.func 39) #[] #[]) [.agg #[.int .i64 s.p, u1, .int .i64 s.w, .int .i64 s.d, .int .i64 s.f, .int .i64 s.c, .int .i64 s.m, .int .i64 s.de, u8], .int .u64 sd] ⟨M + 1, (M, .cells false [.int .i64 s.p, u1, .int .i64 s.w, .int .i64 s.d, .int .i64 s.f, .int .i64 s.c, .int .i64 s.m, .int .i64 s.de, u8]) :: b1⟩ = some (.slice (some ⟨M + 1, 0, none⟩) n 1, ⟨M + 2, (M + 1, .cells false (intsL w n)) :: (M, .cells false [.int .i64 s.p, u1, .int .i64 s.w, .int .i64 s.d, .int .i64 s.f, .int .i64 s.c, .int .i64 s.m, .int .i64 s.de, u8]) :: b1⟩) := by
    refine evCall_hd (orH_r (canH_other rfl) (orH_l ?_))
    rw [setLH_go (h.see x0 y0) rfl rfl, (lst_ne hwne _ ⟨M + 1, (M, .cells false [.int .i64 s.p, u1, .int .i64 s.w, .int .i64 s.d, .int .i64 s.f, .int .i64 s.c, .int .i64 s.m, .int .i64 s.de, u8]) :: b1⟩).1, (lst_ne hwne 0 ⟨M + 1, (M, .cells false [.int .i64 s.p, u1, .int .i64 s.w, .int .i64 s.d, .int .i64 s.f, .int .i64 s.c, .int .i64 s.m, .int .i64 s.de, u8]) :: b1⟩).2, hwl, wl_len, intsV_wl]
  have bagAt : ∀ (N : Nat) (b : List (Nat × ABlk)) (off m : Nat) (ro : Bool), seeC (.agg #[.int .i64 s.p, u1, .int .i64 s.w, .int .i64 s.d, .int .i64 s.f, .int .i64 s.c, .int .i64 s.m, .int .i64 s.de, u8]) b = some s → lookB b (M + 1) = some (.cells ro (intsL w n)) → off + m ≤ n → E RB l 8 (.func (.func 48) #[] #[]) [.agg #[.int .i64 s.p, u1, .int .i64 s.w, .int .i64 s.d, .int .i64 s.f, .int .i64 s.c, .int .i64 s.m, .int .i64 s.de, u8], .slice (some ⟨M + 1, off, none⟩) m 1] ⟨N, b⟩ = some (.tuple #[.slice (some ⟨N, 0, none⟩) P 1, .int .i64 0], ⟨N + 1, (N, .cells false (intsL (fun j => cntK s (fun i => w (off + i)) m j) P)) :: b⟩) := fun N b off m ro h1 h2 h3 => by
    have ht : ∀ j, j < m → (fun j => gi (intsL w n) (off + j)) j = (fun i => w (off + i)) j := fun j hj => gi_ints w (by omega)
    have hans : ansBag s (fun j => gi (intsL w n) (off + j)) m = some (P, 1, intsL (fun j => cntK s (fun i => w (off + i)) m j) P, .int .i64 0) := by
      unfold ansBag
      rw [if_pos ⟨he, part_ok he hn hperm h3 ht⟩, bagC_ext ht, ← hP]
    refine evCall_hd (orH_r (canH_other rfl) (orH_r (setLH_other rfl) (orH_l ?_)))
    rw [setTH_go (H := ⟨N, b⟩) h1 (seeT_of h2 h3) (by omega) hans, (nb_ne (ints_ne hP1) ⟨N, b⟩ _ _ _ _).1, (nb_ne (ints_ne hP1) ⟨N, b⟩ 0 0 0 (.int .i64 0)).2]
  have bag0 : ∀ (N : Nat) (b : List (Nat × ABlk)), seeC (.agg #[.int .i64 s.p, u1, .int .i64 s.w, .int .i64 s.d, .int .i64 s.f, .int .i64 s.c, .int .i64 s.m, .int .i64 s.de, u8]) b = some s → E RB l 8 (.func (.func 48) #[] #[]) [.agg #[.int .i64 s.p, u1, .int .i64 s.w, .int .i64 s.d, .int .i64 s.f, .int .i64 s.c, .int .i64 s.m, .int .i64 s.de, u8], .slice (some ⟨0, 0, some 0⟩) 0 1] ⟨N, b⟩ = some (.tuple #[.slice (some ⟨N, 0, none⟩) P 1, .int .i64 0], ⟨N + 1, (N, .cells false (intsL (fun _ => 0) P)) :: b⟩) := fun N b h1 => by
    have hans : ansBag0 s = some (P, 1, intsL (fun _ => 0) P, .int .i64 0) := by
      unfold ansBag0
      rw [if_pos he, ← hP]
    refine evCall_hd (orH_r (canH_other rfl) (orH_r (setLH_other rfl) (orH_r setTH_e0 (orH_l ?_))))
    have := setEH_go (f := 48) (H := ⟨N, b⟩) h1 hans
    unfold e0 at this
    rw [this, (nb_ne (ints_ne hP1) ⟨N, b⟩ _ _ _ _).1, (nb_ne (ints_ne hP1) ⟨N, b⟩ 0 0 0 (.int .i64 0)).2]
  have zw : (fun i => w (0 + i)) = w := by funext i; rw [Nat.zero_add]
  have eF : E RB l 8 (.func (.func 47) #[] #[]) [.agg #[.int .i64 s.p, u1, .int .i64 s.w, .int .i64 s.d, .int .i64 s.f, .int .i64 s.c, .int .i64 s.m, .int .i64 s.de, u8], .slice (some ⟨M + 1, 0, none⟩) n 1] ⟨M + 5, (M + 4, .cells false (intsL gc P)) :: (M + 3, .cells false (intsL gb P)) :: (M + 2, .cells false (intsL ga P)) :: (M + 1, .cells false (intsL w n)) :: (M, .cells false [.int .i64 s.p, u1, .int .i64 s.w, .int .i64 s.d, .int .i64 s.f, .int .i64 s.c, .int .i64 s.m, .int .i64 s.de, u8]) :: b1⟩ = some (.tuple #[.slice (some ⟨M + 5, 0, none⟩) n 2, .int .i64 0], ⟨M + 6, (M + 5, .cells false (faceC s w n)) :: (M + 4, .cells false (intsL gc P)) :: (M + 3, .cells false (intsL gb P)) :: (M + 2, .cells false (intsL ga P)) :: (M + 1, .cells false (intsL w n)) :: (M, .cells false [.int .i64 s.p, u1, .int .i64 s.w, .int .i64 s.d, .int .i64 s.f, .int .i64 s.c, .int .i64 s.m, .int .i64 s.de, u8]) :: b1⟩) := by
    have ht : ∀ j, j < n → (fun j => gi (intsL w n) (0 + j)) j = w j := fun j hj => by
      show gi (intsL w n) (0 + j) = w j
      rw [Nat.zero_add]
      exact gi_ints w hj
    have ht2 : ∀ j, j < n → (fun j => gi (intsL w n) (0 + j)) j = w (0 + j) := fun j hj => by rw [ht j hj, Nat.zero_add]
    have hans : ansFaces s (fun j => gi (intsL w n) (0 + j)) n = some (n, 2, faceC s w n, .int .i64 0) := by
      unfold ansFaces
      rw [if_pos ⟨he, part_ok he hn hperm (by omega) ht2⟩, faceC_ext n ht]
    have hne : faceC s w n ≠ [] := fun e => by
      have := faceC_len s w n
      rw [e] at this
      simp only [List.length_nil] at this
      omega
    have l4 : lookB ((M + 4, .cells false (intsL gc P)) :: (M + 3, .cells false (intsL gb P)) :: (M + 2, .cells false (intsL ga P)) :: (M + 1, .cells false (intsL w n)) :: (M, .cells false [.int .i64 s.p, u1, .int .i64 s.w, .int .i64 s.d, .int .i64 s.f, .int .i64 s.c, .int .i64 s.m, .int .i64 s.de, u8]) :: b1) (M + 1) = some (.cells false (intsL w n)) := by simp [lookB, Nat.beq_eq]
    refine evCall_hd (orH_r (canH_other rfl) (orH_r (setLH_other rfl) (orH_r (setTH_other rfl) (orH_r (setEH_other rfl) (orH_l ?_)))))
    rw [setTH_go (H := ⟨M + 5, (M + 4, .cells false (intsL gc P)) :: (M + 3, .cells false (intsL gb P)) :: (M + 2, .cells false (intsL ga P)) :: (M + 1, .cells false (intsL w n)) :: (M, .cells false [.int .i64 s.p, u1, .int .i64 s.w, .int .i64 s.d, .int .i64 s.f, .int .i64 s.c, .int .i64 s.m, .int .i64 s.de, u8]) :: b1⟩) (h.see x4 y4) (seeT_of l4 (by omega)) (by omega) hans, (nb_ne hne ⟨M + 5, (M + 4, .cells false (intsL gc P)) :: (M + 3, .cells false (intsL gb P)) :: (M + 2, .cells false (intsL ga P)) :: (M + 1, .cells false (intsL w n)) :: (M, .cells false [.int .i64 s.p, u1, .int .i64 s.w, .int .i64 s.d, .int .i64 s.f, .int .i64 s.c, .int .i64 s.m, .int .i64 s.de, u8]) :: b1⟩ _ _ _ _).1, (nb_ne hne ⟨M + 5, (M + 4, .cells false (intsL gc P)) :: (M + 3, .cells false (intsL gb P)) :: (M + 2, .cells false (intsL ga P)) :: (M + 1, .cells false (intsL w n)) :: (M, .cells false [.int .i64 s.p, u1, .int .i64 s.w, .int .i64 s.d, .int .i64 s.f, .int .i64 s.c, .int .i64 s.m, .int .i64 s.de, u8]) :: b1⟩ 0 0 0 (.int .i64 0)).2]
  have hsum : ∀ k, ga k + gb k = gc k := fun k => by
    rw [hga, hgb, hgc]
    show cntK s w K k + cntK s (fun i => w (K + i)) (n - K) k = cntK s w n k
    rw [cntK_cnt, cntK_cnt, cntK_cnt]
    have := cntP_split (p := fun x => decide (s.kindOf x = (k : Int))) (f := w) K (n - K)
    rw [Nat.add_sub_cancel' hK] at this
    omega
  refine adds_core (L := l) (E RB l 8) 1 2 1 M _ _ b1 u sd at0 s u1 u8 n P K w ga gb gc h.ns h.so h.mi h.f1 h.f8 he hn1 hn2 hK (by omega) eW
    (fun H => by rw [hKe]; exact evCall_hd (orH_l (canI _ _ H (by omega)))) ?_ ?_ ?_ eF ?_ (fun k hk => ?_) (fun k hk => ?_) ?_ ⟨_, evCall_hd (orH_r (canH_other rfl) (orH_r (setLH_other rfl) (orH_r (setTH_other rfl) (orH_r (setEH_other rfl) (orH_r (setTH_other rfl) (awakeM _))))))⟩
  · have := bagAt (M + 2) (roB ((M + 1, .cells false (intsL w n)) :: (M, .cells false [.int .i64 s.p, u1, .int .i64 s.w, .int .i64 s.d, .int .i64 s.f, .int .i64 s.c, .int .i64 s.m, .int .i64 s.de, u8]) :: b1)) 0 K true (h.see (x1.ro M2.1) (y1.ro M2.1)) (lookB_roB_cells _ _ false _ (by simp [lookB]) M2.1) (by omega)
    rw [zw] at this
    rw [hga]
    exact this
  · have s3 := h.see (x2.ro M3.1) (y2.ro M3.1)
    have l3 : lookB (roB ((M + 2, .cells false (intsL ga P)) :: (M + 1, .cells false (intsL w n)) :: (M, .cells false [.int .i64 s.p, u1, .int .i64 s.w, .int .i64 s.d, .int .i64 s.f, .int .i64 s.c, .int .i64 s.m, .int .i64 s.de, u8]) :: b1)) (M + 1) = some (.cells true (intsL w n)) := lookB_roB_cells _ _ false _ (by simp [lookB, Nat.beq_eq]) M3.1
    by_cases e1 : K = 0
    · subst e1
      rw [if_pos rfl]
      have := bagAt (M + 3) (roB ((M + 2, .cells false (intsL ga P)) :: (M + 1, .cells false (intsL w n)) :: (M, .cells false [.int .i64 s.p, u1, .int .i64 s.w, .int .i64 s.d, .int .i64 s.f, .int .i64 s.c, .int .i64 s.m, .int .i64 s.de, u8]) :: b1)) 0 n true s3 l3 (by omega)
      rw [hgb]
      exact this
    · rw [if_neg e1]
      by_cases e2 : K = n
      · rw [if_pos e2]
        have := bag0 (M + 3) (roB ((M + 2, .cells false (intsL ga P)) :: (M + 1, .cells false (intsL w n)) :: (M, .cells false [.int .i64 s.p, u1, .int .i64 s.w, .int .i64 s.d, .int .i64 s.f, .int .i64 s.c, .int .i64 s.m, .int .i64 s.de, u8]) :: b1)) s3
        have e3 : gb = fun _ => 0 := by
          rw [hgb]
          funext j
          show cntK s (fun i => w (K + i)) (n - K) j = 0
          rw [show n - K = 0 by omega]
          rfl
        rw [e3]
        exact this
      · rw [if_neg e2, Nat.mul_one]
        have := bagAt (M + 3) (roB ((M + 2, .cells false (intsL ga P)) :: (M + 1, .cells false (intsL w n)) :: (M, .cells false [.int .i64 s.p, u1, .int .i64 s.w, .int .i64 s.d, .int .i64 s.f, .int .i64 s.c, .int .i64 s.m, .int .i64 s.de, u8]) :: b1)) K (n - K) true s3 l3 (by omega)
        rw [hgb]
        exact this
  · have := bagAt (M + 4) ((M + 3, .cells false (intsL gb P)) :: (M + 2, .cells false (intsL ga P)) :: (M + 1, .cells false (intsL w n)) :: (M, .cells false [.int .i64 s.p, u1, .int .i64 s.w, .int .i64 s.d, .int .i64 s.f, .int .i64 s.c, .int .i64 s.m, .int .i64 s.de, u8]) :: b1) 0 n false (h.see x3 y3) (by simp [lookB, Nat.beq_eq]) (by omega)
    rw [zw] at this
    rw [hgc]
    exact this
  · have := plain_at RB_free l 6 (M + 6) ((M + 5, .cells false (faceC s w n)) :: (M + 4, .cells false (intsL gc P)) :: (M + 3, .cells false (intsL gb P)) :: (M + 2, .cells false (intsL ga P)) :: (M + 1, .cells false (intsL w n)) :: (M, .cells false [.int .i64 s.p, u1, .int .i64 s.w, .int .i64 s.d, .int .i64 s.f, .int .i64 s.c, .int .i64 s.m, .int .i64 s.de, u8]) :: b1) s u1 u8 M6 x5 (by omega)
    rw [PV_plain (small_of_err he), hPs] at this
    exact this
  · rw [hgc]
    show cntK s w n k = s.c
    rw [cntK_cnt, hperm]
    have := cntP_kind he (k := k) (by omega)
    rw [← hn] at this
    exact this
  · have b1 := cntK_le s w K k
    have b2 := cntK_le s w n k
    rw [hsum k]
    rw [hgc]
    show wrapI .i64 (cntK s w n k) = cntK s w n k
    exact wrapI_small (by omega) (by omega)
  · rw [hperm]
    have := cntP_red he
    rw [← hn] at this
    exact this

end

section
open Go.RowKit Go.ChangeShapes Go.WideShapes
set_option linter.unusedSimpArgs false
set_option linter.unusedVariables false

/-- A list of pairs of integers as it lies in a world. -/
def PL (w : World) (u : Value) (n : Nat) (g : Nat → Int) : Prop :=
  (n = 0 ∧ (u = .slice none 0 0 ∨ ∃ a cap, u = .slice (some a) 0 cap)) ∨
  (0 < n ∧ ∃ (b o cap : Nat) (e : TypeId) (fz : Nat × Nat) (ccs : Array Value), u = .slice (some ⟨b, o, none⟩) n cap ∧ n ≤ cap ∧ w.heap[b]? = some (.cells ccs e fz) ∧ ∀ j : Nat, j < 2 * n → ccs[o + j]? = some (.int .i64 (g j)))

theorem cell_spot {w : World} {a : Addr} {v : Value} (h : w.cell? a = some v) : a.spot = none ∧ ∃ c e fz, w.heap[a.block]? = some (.cells c e fz) ∧ c[a.off]? = some v := by
  unfold World.cell? at h
  split at h
  · rename_i c e fz hc
    split at h
    · cases h
    · rename_i hs
      exact ⟨by simpa using hs, c, e, fz, hc, h⟩
  · cases h

theorem cells_at {w : World} {base : Nat} {a : Addr} {n : Nat} {l : List Value} (h : w.cells? base a n = some l) (i : Nat) (hi : i < n) : w.cell? (a.add i) = l[i]? := by
  unfold World.cells? at h
  split at h
  · have := mapM_some_get h i i (by simp [hi])
    simpa using this
  · cases h

theorem take1 {l : List Value} {k : Nat} {a : Value} (h : (l.drop k).take 1 = [a]) : l[k]? = some a := by
  have := congrArg (fun (q : List Value) => q[0]?) h
  simpa using this

theorem add_add (a : Addr) (x y : Nat) (hx : x = 0 → a.spot = none) (h : a.spot = none) : (a.add x).add y = a.add (x + y) := by
  obtain ⟨b, o, sp⟩ := a
  simp only at h
  subst h
  simp [addr_add, Nat.add_assoc]

theorem pairs_open {H : Type} {enc : TypeId × Value → H} {P : Program} {w : World} {fuel : Nat} {t e ft : TypeId} {fs : Array Field} {f0 f1 : Field} {cs : List Value} {x : DataW H × List MemPlace}
    (ht : P.underlying t = some (.slice e)) (he : P.underlying e = some (.struct fs)) (hc : P.cellsOf e = 2)
    (h0 : fs[0]? = some f0) (t0 : f0.type = ft) (o0 : f0.offset = 0) (h1 : fs[1]? = some f1) (t1 : f1.type = ft) (o1 : f1.offset = 1)
    (hf : P.underlying ft = some (.int .i64)) (hcf : P.cellsOf ft = 1)
    (h : DataW.trod enc P w 0 (fun _ => true) true fuel t cs = some x) : ∃ (u : Value) (n : Nat) (g : Nat → Int), cs = [u] ∧ PL w u n g := by
  rcases DataW.trod_slice ht h with ⟨rfl, _⟩ | ⟨a, len, cap, elems, rest, m, _, rfl, _, _, hl, _, hlen, hel, _, _⟩
  · exact ⟨_, 0, fun _ => 0, rfl, .inl ⟨rfl, .inl rfl⟩⟩
  · by_cases hz : len = 0
    · subst hz
      exact ⟨_, 0, fun _ => 0, rfl, .inl ⟨rfl, .inr ⟨a, cap, rfl⟩⟩⟩
    · have each : ∀ i, i < len → ∃ z0 z1, w.cell? ((a.add (i * 2)).add 0) = some (.int .i64 z0) ∧ w.cell? ((a.add (i * 2)).add 1) = some (.int .i64 z1) := by
        intro i hi
        have h2 := hel i hi
        rw [hc, List.getElem?_eq_getElem (by omega), Option.bind_eq_some_iff] at h2
        obtain ⟨cs', hcs, hy⟩ := h2
        obtain ⟨xs, k, _, _, hcl, hxs, hall⟩ := DataW.trod_struct he hy
        have hs0 : 0 < fs.size := (Array.getElem?_eq_some_iff.1 h0).1
        have hs1 : 1 < fs.size := (Array.getElem?_eq_some_iff.1 h1).1
        have g0 := hall 0 f0 h0
        have g1 := hall 1 f1 h1
        rw [t0, o0, hcf, List.getElem?_eq_getElem (by omega)] at g0
        rw [t1, o1, hcf, List.getElem?_eq_getElem (by omega)] at g1
        obtain ⟨z0, e0, _⟩ := DataW.trod_int hf g0
        obtain ⟨z1, e1, _⟩ := DataW.trod_int hf g1
        refine ⟨z0, z1, ?_, ?_⟩
        · rw [cells_at hcs 0 (by omega)]; exact take1 e0
        · rw [cells_at hcs 1 (by omega)]; exact take1 e1
      have hsp : a.spot = none := by
        obtain ⟨z0, _, hz0, _⟩ := each 0 (by omega)
        have : (a.add (0 * 2)).add 0 = a := by simp [Addr.add]
        rw [this] at hz0
        exact (cell_spot hz0).1
      obtain ⟨b, o, sp⟩ := a
      simp only at hsp
      subst hsp
      have all : ∀ j, j < 2 * len → ∃ z, w.cell? ⟨b, o + j, none⟩ = some (.int .i64 z) := by
        intro j hj
        obtain ⟨z0, z1, e0, e1⟩ := each (j / 2) (by omega)
        simp only [addr_add, Nat.add_zero] at e0 e1
        rcases Nat.mod_two_eq_zero_or_one j with hm | hm
        · exact ⟨z0, by rw [show o + j = o + j / 2 * 2 by omega]; exact e0⟩
        · exact ⟨z1, by rw [show o + j = o + j / 2 * 2 + 1 by omega]; exact e1⟩
      obtain ⟨z, hz0⟩ := all 0 (by omega)
      obtain ⟨_, c, ty, fz, hb, _⟩ := cell_spot hz0
      simp only at hb
      have all2 : ∀ j, ∃ z, j < 2 * len → c[o + j]? = some (.int .i64 z) := by
        intro j
        by_cases hj : j < 2 * len
        · obtain ⟨z, hz⟩ := all j hj
          obtain ⟨_, c', e2, fz2, hb2, hv⟩ := cell_spot hz
          simp only at hb2 hv
          rw [hb] at hb2
          cases hb2
          exact ⟨z, fun _ => hv⟩
        · exact ⟨0, fun h => absurd h hj⟩
      refine ⟨_, len, fun j => Classical.choose (all2 j), rfl, .inr ⟨by omega, b, o, cap, ty, fz, c, rfl, hl, hb, fun j hj => Classical.choose_spec (all2 j) hj⟩⟩

/-- A list of pairs as the runs take it: of length 0, or with cells. -/
def limV : Nat → Value
  | 0 => .slice (some ⟨0, 0, some 1⟩) 0 0
  | n + 1 => .slice (some ⟨0, 0, none⟩) (n + 1) 2

theorem PL.rel {w : World} {u : Value} {n : Nat} {g : Nat → Int} (h : PL w u n g) (h0 : ∃ c e fz, w.heap[0]? = some (.cells c e fz)) : ∃ x : Nat × Nat × Nat,
    (∀ (ρ : BMap), ρ 0 = some x → VRel ρ (limV n) u) ∧ (∀ (ρ : BMap), BRel ρ w.heap.size w x (.cells true (intsL g (2 * n)))) := by
  have lt : ∀ k o, w.heap[k]? = some o → k < w.heap.size := fun k o ho => (Array.getElem?_eq_some_iff.1 ho).1
  rcases h with ⟨rfl, hu⟩ | ⟨hn, b, o, cap, e, fz, ccs, rfl, hl, hb, hc⟩
  · obtain ⟨c, e, fz, hc⟩ := h0
    refine ⟨(0, 0, 0), fun ρ _ => ?_, fun ρ => ⟨c, e, fz, hc, fun j v hv => by simp [intsL] at hv, ?_, by simp [intsL]⟩⟩
    · rcases hu with rfl | ⟨a, cap, rfl⟩
      · exact .rnil
      · exact .rnone
    · simpa using lt _ _ hc
  · obtain ⟨m, rfl⟩ : ∃ m, n = m + 1 := ⟨n - 1, by omega⟩
    refine ⟨(b, o, cap * 2), fun ρ hi => ?_, fun ρ => ⟨ccs, e, fz, hb, fun j v hv => ?_, ?_, by rw [intsL_len]; show 2 * (m + 1) ≤ cap * 2; omega⟩⟩
    · exact VRel.slice (off := 0) hi hl (by omega)
    · have hj : j < 2 * (m + 1) := by
        have := (List.getElem?_eq_some_iff.1 hv).1
        rwa [intsL_len] at this
      rw [intsL_at _ _ _ hj] at hv
      cases hv
      exact ⟨_, hc j hj, .int _ _⟩
    · simpa using lt _ _ hb

end

section
open Go.RowKit Go.ChangeShapes Go.WideShapes
set_option linter.unusedSimpArgs false
set_option linter.unusedVariables false

/-- A list of integers as it lies in a world. -/
def IL (w : World) (u : Value) (n : Nat) (g : Nat → Int) : Prop :=
  (n = 0 ∧ (u = .slice none 0 0 ∨ ∃ a cap, u = .slice (some a) 0 cap)) ∨
  (0 < n ∧ ∃ (b o cap : Nat) (e : TypeId) (fz : Nat × Nat) (ccs : Array Value), u = .slice (some ⟨b, o, none⟩) n cap ∧ n ≤ cap ∧ cap ≤ maxLen ∧ w.heap[b]? = some (.cells ccs e fz) ∧ ∀ j : Nat, j < n → ccs[o + j]? = some (.int .i64 (g j)))

theorem ints_open {H : Type} {enc : TypeId × Value → H} {P : Program} {w : World} {fuel : Nat} {t e : TypeId} {cs : List Value} {x : DataW H × List MemPlace} (ht : P.underlying t = some (.slice e)) (he : P.underlying e = some (.int .i64)) (hc : P.cellsOf e = 1)
    (h : DataW.trod enc P w 0 (fun _ => true) true fuel t cs = some x) : ∃ (u : Value) (n : Nat) (g : Nat → Int), cs = [u] ∧ IL w u n g := by
  rcases open_ints ht he hc h with ⟨rfl, _⟩ | ⟨a, len, cap, zs, rfl, _, hl, hmx, hz, _, hcell, _⟩
  · exact ⟨_, 0, fun _ => 0, rfl, .inl ⟨rfl, .inl rfl⟩⟩
  · have hz' : zs.length = cap := by simpa using hz
    refine ⟨_, len, fun j => zs.getD j 0, rfl, ?_⟩
    by_cases h0 : len = 0
    · subst h0
      exact .inl ⟨rfl, .inr ⟨a, cap, rfl⟩⟩
    · have hfirst := hcell 0 (by omega)
      have ha0 : a.add 0 = a := by simp [Addr.add]
      rw [ha0] at hfirst
      obtain ⟨hs, c, e', fz, hb, _⟩ := cell_spot hfirst
      obtain ⟨b, o, sp⟩ := a
      simp only at hs hb
      subst hs
      refine .inr ⟨by omega, b, o, cap, e', fz, c, rfl, hl, hmx, hb, fun j hj => ?_⟩
      have hj' := hcell j (by omega)
      rw [addr_add] at hj'
      obtain ⟨_, c', e2, fz2, hb2, hv⟩ := cell_spot hj'
      simp only at hb2 hv
      rw [hb] at hb2
      cases hb2
      exact hv

/-- A list of integers as the runs take it, of block 0. -/
def intV : Nat → Value
  | 0 => .slice (some ⟨0, 0, some 1⟩) 0 0
  | n + 1 => .slice (some ⟨0, 0, none⟩) (n + 1) 1

theorem IL.max {w : World} {u : Value} {n : Nat} {g : Nat → Int} (h : IL w u n g) : n ≤ maxLen := by
  rcases h with ⟨rfl, _⟩ | ⟨_, _, _, _, _, _, _, _, h1, h2, _⟩
  · exact Nat.zero_le _
  · exact Nat.le_trans h1 h2

theorem IL.rel {w : World} {u : Value} {n : Nat} {g : Nat → Int} (h : IL w u n g) (h0 : ∃ c e fz, w.heap[0]? = some (.cells c e fz)) : ∃ x : Nat × Nat × Nat,
    (∀ (ρ : BMap), ρ 0 = some x → VRel ρ (intV n) u) ∧ (∀ (ρ : BMap), BRel ρ w.heap.size w x (.cells true (intsL g n))) := by
  have lt : ∀ k o, w.heap[k]? = some o → k < w.heap.size := fun k o ho => (Array.getElem?_eq_some_iff.1 ho).1
  rcases h with ⟨rfl, hu⟩ | ⟨hn, b, o, cap, e, fz, ccs, rfl, hl, _, hb, hc⟩
  · obtain ⟨c, e, fz, hc⟩ := h0
    refine ⟨(0, 0, 0), fun ρ _ => ?_, fun ρ => ⟨c, e, fz, hc, fun j v hv => by simp [intsL] at hv, ?_, by simp [intsL]⟩⟩
    · rcases hu with rfl | ⟨a, cap, rfl⟩
      · exact .rnil
      · exact .rnone
    · simpa using lt _ _ hc
  · obtain ⟨m, rfl⟩ : ∃ m, n = m + 1 := ⟨n - 1, by omega⟩
    refine ⟨(b, o, cap * 1), fun ρ hi => ?_, fun ρ => ⟨ccs, e, fz, hb, fun j v hv => ?_, ?_, by rw [intsL_len]; show m + 1 ≤ cap * 1; omega⟩⟩
    · exact VRel.slice (off := 0) hi hl (by omega)
    · have hj : j < m + 1 := by
        have := (List.getElem?_eq_some_iff.1 hv).1
        rwa [intsL_len] at this
      rw [intsL_at _ _ _ hj] at hv
      cases hv
      exact ⟨_, hc j hj, .int _ _⟩
    · simpa using lt _ _ hb

end

end Go.Proofs.Ytjginpeoblilpaa
