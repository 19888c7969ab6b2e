/-
  What is proved: sets of tiles with lists of any length as arguments; what plainKinds answers.
-/
import Derived.Test.YtdbpemmhkfbegaaEvR
import Derived.Test.YtdbpemmhkfbegaaSk
namespace Go.Proofs.Ytdbpemmhkfbegaa
open Go.RowKit
set_option linter.unusedSimpArgs false
set_option linter.unusedVariables false

theorem b02 : Nat.beq 0 2 = false := rfl
theorem b12 : Nat.beq 1 2 = false := rfl
theorem b32 : Nat.beq 3 2 = false := rfl
theorem wrapI_one : wrapI .i64 1 = 1 := wrapI_small (by omega) (by omega)
/-- What lies at a place. -/
noncomputable def cellAt (bs : List (Nat × ABlk)) (i off : Nat) : Option Value :=
  match lookB bs i with
  | some (.cells _ cs) => cs[off]?
  | _ => none
theorem LD3 (H : AH) (i off : Nat) : aLoad (tabT Try.prog) H 3 (.pointer (some ⟨i, off, none⟩)) = cellAt H.bs i off := ldc (by kernel_rfl) H i off
theorem LD4 (H : AH) (i off : Nat) : aLoad (tabT Try.prog) H 4 (.pointer (some ⟨i, off, none⟩)) = cellAt H.bs i off := ldc (by kernel_rfl) H i off
theorem LD22 (H : AH) (i off : Nat) : aLoad (tabT Try.prog) H 22 (.pointer (some ⟨i, off, none⟩)) = cellAt H.bs i off := ldc (by kernel_rfl) H i off
theorem LD27 (H : AH) (i off : Nat) : aLoad (tabT Try.prog) H 46 (.pointer (some ⟨i, off, none⟩)) = cellAt H.bs i off := ldc (by kernel_rfl) H i off
theorem LD24 (H : AH) (i off : Nat) : aLoad (tabT Try.prog) H 24 (.pointer (some ⟨i, off, none⟩)) = match lookB H.bs i with | some (.cells _ cs) => (takeCells cs off 9).map (fun l => .agg l.toArray) | _ => none := lda (by kernel_rfl) H i off
theorem ldr {T : TypeId → Option TI} {t : TypeId} (h : (T t).map (fun y => aggD y.desc) = some false) (H : AH) (i off : Nat) : aLoad T H t (.pointer (some ⟨i, off, some 1⟩)) = match lookB H.bs i with | some (.ints g) => some (.int .i64 (g off)) | _ => none := by
  cases ht : T t with
  | none => rw [ht] at h; cases h
  | some y =>
    rw [ht] at h
    simp only [Option.map_some, Option.some.injEq] at h
    simp only [aLoad, ht]
    cases hl : lookB H.bs i with
    | none => rfl
    | some k => cases k <;> simp [h]
theorem LDr (H : AH) (i off : Nat) : aLoad (tabT Try.prog) H 3 (.pointer (some ⟨i, off, some 1⟩)) = match lookB H.bs i with | some (.ints g) => some (.int .i64 (g off)) | _ => none := ldr (by kernel_rfl) H i off
theorem ixt {T : TypeId → Option TI} {t e : TypeId} (h1 : (T t).map (·.desc) = some (.slice e)) (h2 : (T e).map (·.size) = some 1) (i n k : Nat) (h : k < n) : aIndexAddr T t (.slice (some ⟨i, 0, some 1⟩) n 0) (.int .i64 (k : Int)) = some (.pointer (some ⟨i, k, some 1⟩)) := by
  obtain ⟨_, _, _, _, ht⟩ := tdesc h1
  cases he : T e with
  | none => rw [he] at h2; cases h2
  | some q =>
    rw [he] at h2
    simp only [Option.map_some, Option.some.injEq] at h2
    have hb : Nat.blt k n = true := by simpa [Nat.blt_eq] using h
    simp [aIndexAddr, natV, ht, he, h2, hb]
theorem IA22 (i n k : Nat) (h : k < n) : aIndexAddr (tabT Try.prog) 22 (.slice (some ⟨i, 0, some 1⟩) n 0) (.int .i64 (k : Int)) = some (.pointer (some ⟨i, k, some 1⟩)) := ixt (e := 3) (by kernel_rfl) (by kernel_rfl) i n k h
theorem LEN22 (a : Option Addr) (n z : Nat) : aLen (tabT Try.prog) 22 (.slice a n z) = some (.int .i64 n) := lens (e := 3) (by kernel_rfl) a n z
theorem FA24_0 (i off : Nat) : aFieldAddr (tabT Try.prog) 24 (.pointer (some ⟨i, off, none⟩)) 0 = some (.pointer (some ⟨i, off + 0, none⟩)) := by kernel_rfl
theorem FA24_1 (i off : Nat) : aFieldAddr (tabT Try.prog) 24 (.pointer (some ⟨i, off, none⟩)) 1 = some (.pointer (some ⟨i, off + 1, none⟩)) := by kernel_rfl
theorem FA24_2 (i off : Nat) : aFieldAddr (tabT Try.prog) 24 (.pointer (some ⟨i, off, none⟩)) 2 = some (.pointer (some ⟨i, off + 2, none⟩)) := by kernel_rfl
theorem FA24_3 (i off : Nat) : aFieldAddr (tabT Try.prog) 24 (.pointer (some ⟨i, off, none⟩)) 3 = some (.pointer (some ⟨i, off + 3, none⟩)) := by kernel_rfl
theorem FA24_4 (i off : Nat) : aFieldAddr (tabT Try.prog) 24 (.pointer (some ⟨i, off, none⟩)) 4 = some (.pointer (some ⟨i, off + 4, none⟩)) := by kernel_rfl
theorem FA24_5 (i off : Nat) : aFieldAddr (tabT Try.prog) 24 (.pointer (some ⟨i, off, none⟩)) 5 = some (.pointer (some ⟨i, off + 5, none⟩)) := by kernel_rfl
theorem FA24_6 (i off : Nat) : aFieldAddr (tabT Try.prog) 24 (.pointer (some ⟨i, off, none⟩)) 6 = some (.pointer (some ⟨i, off + 6, none⟩)) := by kernel_rfl
theorem FA24_7 (i off : Nat) : aFieldAddr (tabT Try.prog) 24 (.pointer (some ⟨i, off, none⟩)) 7 = some (.pointer (some ⟨i, off + 7, none⟩)) := by kernel_rfl
theorem FA24_8 (i off : Nat) : aFieldAddr (tabT Try.prog) 24 (.pointer (some ⟨i, off, none⟩)) 8 = some (.pointer (some ⟨i, off + 8, none⟩)) := by kernel_rfl
theorem N75 : ((tabT Try.prog) 24).map (fun z => (z.ex.nat 54, z.ex.mnz 54)) = some (none, none) := by kernel_rfl
theorem C75 (call : Value → List Value → AH → Option (Value × AH)) {tm : Tm} {k : Nat} {H : AH} {d : Option Tmp} {t : TypeId} {p : String} {a : Array Edge} {gd : Option (Nat × Bool)} : evOp (tabT Try.prog) call ⟨d, .call ⟨.value (.func 54), #[.tmp k], #[24]⟩, t, p, a, gd⟩ (opd tm) H = call (.func (.func 54) #[] #[]) [tm.get k] H :=
  evOp_evO.trans (eo_call1 rfl rfl N75)
theorem G75 (call : Value → List Value → AH → Option (Value × AH)) {tm : Tm} {rs : List DR} {ts : List Nat} {k : Nat} {H : AH} {d : Option Tmp} {t : TypeId} {p : String} {a : Array Edge} {gd : Option (Nat × Bool)} (h : natMem ts k = true) : evOp (tabT Try.prog) call ⟨d, .call ⟨.value (.func 54), #[.tmp k], #[24]⟩, t, p, a, gd⟩ (gOf tm rs ts) H = call (.func (.func 54) #[] #[]) [(finT tm rs).get k] H :=
  evOp_evO.trans (eo_call1 rfl (by simp only [gOf, h, if_true]) N75)
theorem N76 : ((tabT Try.prog) 24).map (fun z => (z.ex.nat 53, z.ex.mnz 53)) = some (none, none) := by kernel_rfl
theorem C76 (call : Value → List Value → AH → Option (Value × AH)) {tm : Tm} {k : Nat} {H : AH} {d : Option Tmp} {t : TypeId} {p : String} {a : Array Edge} {gd : Option (Nat × Bool)} : evOp (tabT Try.prog) call ⟨d, .call ⟨.value (.func 53), #[.tmp k], #[24]⟩, t, p, a, gd⟩ (opd tm) H = call (.func (.func 53) #[] #[]) [tm.get k] H :=
  evOp_evO.trans (eo_call1 rfl rfl N76)
theorem G76 (call : Value → List Value → AH → Option (Value × AH)) {tm : Tm} {rs : List DR} {ts : List Nat} {k : Nat} {H : AH} {d : Option Tmp} {t : TypeId} {p : String} {a : Array Edge} {gd : Option (Nat × Bool)} (h : natMem ts k = true) : evOp (tabT Try.prog) call ⟨d, .call ⟨.value (.func 53), #[.tmp k], #[24]⟩, t, p, a, gd⟩ (gOf tm rs ts) H = call (.func (.func 53) #[] #[]) [(finT tm rs).get k] H :=
  evOp_evO.trans (eo_call1 rfl (by simp only [gOf, h, if_true]) N76)
theorem N77 : ((tabT Try.prog) 24).map (fun z => (z.ex.nat 63, z.ex.mnz 63)) = some (none, none) := by kernel_rfl
theorem C77 (call : Value → List Value → AH → Option (Value × AH)) {tm : Tm} {k : Nat} {H : AH} {d : Option Tmp} {t : TypeId} {p : String} {a : Array Edge} {gd : Option (Nat × Bool)} : evOp (tabT Try.prog) call ⟨d, .call ⟨.value (.func 63), #[.tmp k], #[24]⟩, t, p, a, gd⟩ (opd tm) H = call (.func (.func 63) #[] #[]) [tm.get k] H :=
  evOp_evO.trans (eo_call1 rfl rfl N77)
theorem G77 (call : Value → List Value → AH → Option (Value × AH)) {tm : Tm} {rs : List DR} {ts : List Nat} {k : Nat} {H : AH} {d : Option Tmp} {t : TypeId} {p : String} {a : Array Edge} {gd : Option (Nat × Bool)} (h : natMem ts k = true) : evOp (tabT Try.prog) call ⟨d, .call ⟨.value (.func 63), #[.tmp k], #[24]⟩, t, p, a, gd⟩ (gOf tm rs ts) H = call (.func (.func 63) #[] #[]) [(finT tm rs).get k] H :=
  evOp_evO.trans (eo_call1 rfl (by simp only [gOf, h, if_true]) N77)
theorem N79 : ((tabT Try.prog) 24).map (fun z => (z.ex.nat 35, z.ex.mnz 35)) = some (none, none) := by kernel_rfl
theorem C79 (call : Value → List Value → AH → Option (Value × AH)) {tm : Tm} {k : Nat} {H : AH} {d : Option Tmp} {t : TypeId} {p : String} {a : Array Edge} {gd : Option (Nat × Bool)} : evOp (tabT Try.prog) call ⟨d, .call ⟨.value (.func 35), #[.tmp k], #[24]⟩, t, p, a, gd⟩ (opd tm) H = call (.func (.func 35) #[] #[]) [tm.get k] H :=
  evOp_evO.trans (eo_call1 rfl rfl N79)
theorem G79 (call : Value → List Value → AH → Option (Value × AH)) {tm : Tm} {rs : List DR} {ts : List Nat} {k : Nat} {H : AH} {d : Option Tmp} {t : TypeId} {p : String} {a : Array Edge} {gd : Option (Nat × Bool)} (h : natMem ts k = true) : evOp (tabT Try.prog) call ⟨d, .call ⟨.value (.func 35), #[.tmp k], #[24]⟩, t, p, a, gd⟩ (gOf tm rs ts) H = call (.func (.func 35) #[] #[]) [(finT tm rs).get k] H :=
  evOp_evO.trans (eo_call1 rfl (by simp only [gOf, h, if_true]) N79)
theorem N17 : ((tabT Try.prog) 24).map (fun z => (z.ex.nat 56, z.ex.mnz 56)) = some (none, none) := by kernel_rfl
theorem C17 (call : Value → List Value → AH → Option (Value × AH)) {tm : Tm} {k : Nat} {H : AH} {d : Option Tmp} {t : TypeId} {p : String} {a : Array Edge} {gd : Option (Nat × Bool)} : evOp (tabT Try.prog) call ⟨d, .call ⟨.value (.func 56), #[.tmp k], #[24]⟩, t, p, a, gd⟩ (opd tm) H = call (.func (.func 56) #[] #[]) [tm.get k] H :=
  evOp_evO.trans (eo_call1 rfl rfl N17)
theorem G17 (call : Value → List Value → AH → Option (Value × AH)) {tm : Tm} {rs : List DR} {ts : List Nat} {k : Nat} {H : AH} {d : Option Tmp} {t : TypeId} {p : String} {a : Array Edge} {gd : Option (Nat × Bool)} (h : natMem ts k = true) : evOp (tabT Try.prog) call ⟨d, .call ⟨.value (.func 56), #[.tmp k], #[24]⟩, t, p, a, gd⟩ (gOf tm rs ts) H = call (.func (.func 56) #[] #[]) [(finT tm rs).get k] H :=
  evOp_evO.trans (eo_call1 rfl (by simp only [gOf, h, if_true]) N17)
theorem N18 : ((tabT Try.prog) 24).map (fun z => (z.ex.nat 30, z.ex.mnz 30)) = some (none, none) := by kernel_rfl
theorem C18 (call : Value → List Value → AH → Option (Value × AH)) {tm : Tm} {k : Nat} {H : AH} {d : Option Tmp} {t : TypeId} {p : String} {a : Array Edge} {gd : Option (Nat × Bool)} : evOp (tabT Try.prog) call ⟨d, .call ⟨.value (.func 30), #[.tmp k], #[24]⟩, t, p, a, gd⟩ (opd tm) H = call (.func (.func 30) #[] #[]) [tm.get k] H :=
  evOp_evO.trans (eo_call1 rfl rfl N18)
theorem G18 (call : Value → List Value → AH → Option (Value × AH)) {tm : Tm} {rs : List DR} {ts : List Nat} {k : Nat} {H : AH} {d : Option Tmp} {t : TypeId} {p : String} {a : Array Edge} {gd : Option (Nat × Bool)} (h : natMem ts k = true) : evOp (tabT Try.prog) call ⟨d, .call ⟨.value (.func 30), #[.tmp k], #[24]⟩, t, p, a, gd⟩ (gOf tm rs ts) H = call (.func (.func 30) #[] #[]) [(finT tm rs).get k] H :=
  evOp_evO.trans (eo_call1 rfl (by simp only [gOf, h, if_true]) N18)
theorem N22 : ((tabT Try.prog) 24).map (fun z => (z.ex.nat 34, z.ex.mnz 34)) = some (none, none) := by kernel_rfl
theorem C22 (call : Value → List Value → AH → Option (Value × AH)) {tm : Tm} {k : Nat} {H : AH} {d : Option Tmp} {t : TypeId} {p : String} {a : Array Edge} {gd : Option (Nat × Bool)} : evOp (tabT Try.prog) call ⟨d, .call ⟨.value (.func 34), #[.tmp k], #[24]⟩, t, p, a, gd⟩ (opd tm) H = call (.func (.func 34) #[] #[]) [tm.get k] H :=
  evOp_evO.trans (eo_call1 rfl rfl N22)
theorem G22 (call : Value → List Value → AH → Option (Value × AH)) {tm : Tm} {rs : List DR} {ts : List Nat} {k : Nat} {H : AH} {d : Option Tmp} {t : TypeId} {p : String} {a : Array Edge} {gd : Option (Nat × Bool)} (h : natMem ts k = true) : evOp (tabT Try.prog) call ⟨d, .call ⟨.value (.func 34), #[.tmp k], #[24]⟩, t, p, a, gd⟩ (gOf tm rs ts) H = call (.func (.func 34) #[] #[]) [(finT tm rs).get k] H :=
  evOp_evO.trans (eo_call1 rfl (by simp only [gOf, h, if_true]) N22)
theorem N71 : ((tabT Try.prog) 24).map (fun z => (z.ex.nat 67, z.ex.mnz 67)) = some (none, none) := by kernel_rfl
theorem C71 (call : Value → List Value → AH → Option (Value × AH)) {tm : Tm} {k : Nat} {H : AH} {d : Option Tmp} {t : TypeId} {p : String} {a : Array Edge} {gd : Option (Nat × Bool)} : evOp (tabT Try.prog) call ⟨d, .call ⟨.value (.func 67), #[.tmp k], #[24]⟩, t, p, a, gd⟩ (opd tm) H = call (.func (.func 67) #[] #[]) [tm.get k] H :=
  evOp_evO.trans (eo_call1 rfl rfl N71)
theorem G71 (call : Value → List Value → AH → Option (Value × AH)) {tm : Tm} {rs : List DR} {ts : List Nat} {k : Nat} {H : AH} {d : Option Tmp} {t : TypeId} {p : String} {a : Array Edge} {gd : Option (Nat × Bool)} (h : natMem ts k = true) : evOp (tabT Try.prog) call ⟨d, .call ⟨.value (.func 67), #[.tmp k], #[24]⟩, t, p, a, gd⟩ (gOf tm rs ts) H = call (.func (.func 67) #[] #[]) [(finT tm rs).get k] H :=
  evOp_evO.trans (eo_call1 rfl (by simp only [gOf, h, if_true]) N71)
theorem W75 : wrT 54 = false := by kernel_rfl
theorem W76 : wrT 53 = false := by kernel_rfl
theorem W77 : wrT 63 = false := by kernel_rfl
theorem W79 : wrT 35 = false := by kernel_rfl
theorem W17 : wrT 56 = false := by kernel_rfl
theorem W18 : wrT 30 = false := by kernel_rfl
theorem W22 : wrT 34 = false := by kernel_rfl
theorem W71 : wrT 67 = false := by kernel_rfl
theorem T3x : ∃ s b z ex, (tabT Try.prog) 3 = some ⟨s, b, z, .int .i64, ex⟩ ∧ ex.nat 69 = none ∧ ex.mnz 69 = none := by
  have h : ((tabT Try.prog) 3).map (fun y => (y.desc, y.ex.nat 69, y.ex.mnz 69)) = some (.int .i64, none, none) := by kernel_rfl
  cases hd : (tabT Try.prog) 3 with
  | none => rw [hd] at h; cases h
  | some y =>
    rw [hd] at h
    cases y with
    | mk a b c e ex =>
      simp only [Option.map_some, Option.some.injEq, Prod.mk.injEq] at h
      obtain ⟨rfl, h1, h2⟩ := h
      exact ⟨_, _, _, _, rfl, h1, h2⟩
theorem tm_fin (tm : Tm) (rs : List DR) (t : Nat) (h : t < tm.n) : (finT tm rs).get t = tv tm all1 rs t := fin_get tm rs t h
theorem fin_n (tm : Tm) (rs : List DR) : (finT tm rs).n = tm.n := (finT_spec tm rs).1
theorem evDraw_ex {T : TypeId → Option TI} {call : Value → List Value → AH → Option (Value × AH)} {ops : Array Oper} {A : AF} {H : AH} {X : Option (AF × AH)} (hX : evDrawX T call ops A H = X) {Pq : List DR × Nat → Prop} (hS : statOK ops = true) (hk : decrK H.bs = true)
    (h : ∃ r, drRun T call ops A.tm H.bs (befs ops.toList) ops.toList 0 [] H.next = some r ∧ dynOK (befs ops.toList) r.1 A.tm.n = true ∧ Pq r) :
    ∃ r, X = some (⟨finT A.tm r.1, A.marks⟩, ⟨r.2, wheap H.bs r.1⟩) ∧ Pq r := by
  obtain ⟨⟨rs, nx⟩, h1, h2, h3⟩ := h
  refine ⟨(rs, nx), ?_, h3⟩
  rw [← hX]
  have : evDraw T call ops A H = some (⟨finT A.tm rs, A.marks⟩, ⟨nx, wheap H.bs rs⟩) := by
    simp only [evDraw, hS, hk, Bool.and_self, if_true]
    rw [h1]
    simp only [h2, if_true]
  simp only [evDrawX, this]
/-- A set of tiles: seven numbers, and two lists by their lengths and places. -/
structure SV where
  p : Int
  n : Nat
  g : Nat → Int
  w : Int
  d : Int
  f : Int
  c : Int
  m : Int
  de : Int
  k : Nat
  h : Nat → Int

noncomputable def SV.val (s : SV) : Value := .agg ⟨[.int .i64 s.p, .slice (some ⟨0, 0, some 1⟩) s.n 0, .int .i64 s.w, .int .i64 s.d, .int .i64 s.f, .int .i64 s.c, .int .i64 s.m, .int .i64 s.de, .slice (some ⟨1, 0, some 1⟩) s.k 0]⟩

noncomputable def SV.hp (s : SV) : AH := ⟨2, [(1, .ints s.h), (0, .ints s.g)]⟩

noncomputable def seeSet : Value → AH → Option SV
  | .agg ⟨[.int .i64 p, .slice (some ⟨0, 0, some 1⟩) n 0, .int .i64 w, .int .i64 d, .int .i64 f, .int .i64 c, .int .i64 m, .int .i64 de, .slice (some ⟨1, 0, some 1⟩) k 0]⟩, ⟨2, [(1, .ints h), (0, .ints g)]⟩ =>
    some ⟨p, n, g, w, d, f, c, m, de, k, h⟩
  | _, _ => none

theorem seeSet_spec {v : Value} {H : AH} {s : SV} (h : seeSet v H = some s) : v = s.val ∧ H = s.hp := by
  unfold seeSet at h
  split at h
  · cases h; exact ⟨rfl, rfl⟩
  · cases h

/-- Answers that hang on a set alone. -/
noncomputable def ans1 (a : SV → Option Value) : List Value → AH → Option Value
  | [v], H => match seeSet v H with
    | some s => a s
    | none => none
  | _, _ => none

theorem ans1_ok {call0 : Value → List Value → AH → Option (Value × AH)} {f : FuncId} {a : SV → Option Value}
    (h : ∀ s v, a s = some v → closedV 5 v = true ∧ (s.n ≤ 200 → s.k ≤ 200 → ∃ H', call0 (.func (.func f) #[] #[]) [s.val] s.hp = some (v, H'))) : AnsOK call0 f (ans1 a) := by
  intro cargs Hc v hv
  unfold ans1 at hv
  split at hv
  · split at hv
    · rename_i s hs
      obtain ⟨rfl, rfl⟩ := seeSet_spec hs
      refine ⟨(h s v hv).1, fun hr => (h s v hv).2 ?_ ?_⟩
      · exact hr.lenIn (j := 0) (q := 1) (i := 0) (g := s.g) rfl rfl rfl
      · exact hr.lenIn (j := 0) (q := 8) (i := 1) (g := s.h) rfl rfl rfl
    · cases hv
  · cases hv

noncomputable def sumG (g : Nat → Int) : Nat → Nat → Int → Int
  | 0, _, a => a
  | m + 1, i, a => sumG g m (i + 1) (wrapI .i64 (a + g i))

noncomputable def SV.plain (s : SV) : Int := sumG s.g s.n 0 (wrapI .i64 (s.w + s.d))

theorem F75 : tabF Try.prog 54 = some Try.f54 := by kernel_rfl

noncomputable def I75 (s : SV) (m : Nat) (A : AF) (H : AH) : Prop := ∃ (i : Nat) (acc : Int), i + m = s.n ∧ sumG s.g m i acc = s.plain ∧ A.tm.n = 23 ∧ A.marks = [] ∧ A.tm.get 3 = .int .i64 acc ∧ A.tm.get 14 = .int .i64 (i : Int) ∧ A.tm.get 13 = .int .i64 s.n ∧ A.tm.get 12 = .slice (some ⟨0, 0, some 1⟩) s.n 0 ∧ lookB H.bs 0 = some (.ints s.g)
noncomputable def Q75 (s : SV) (x : AX) (A' : AF) (_ : AH) : Prop := x = .exit 0 ∧ A'.tm.n = 23 ∧ A'.marks = [] ∧ A'.tm.get 3 = .int .i64 s.plain

set_option maxRecDepth 10000 in
set_option maxHeartbeats 2000000 in
theorem plainKinds_ev (call : Value → List Value → AH → Option (Value × AH)) (s : SV) (hn : s.n ≤ 200) : ∃ H', evFn (tabT Try.prog) call 300 kpT 54 Try.f54 [s.val] s.hp = some (.int .i64 s.plain, H') := by
  simp only [evFn, Try.f54, SV.val, SV.hp]
  simp [ec_skip, ec_label, ek_reg, ek_draw, ek_seq, ec_cond, ek_block, ec_loop, ec_exit, ec_ret, ec_scope, ek_nil, ek_op, opK_some, regK_some, seqK_normal, seqK_exit, seqK_ret, blockK_normal, blockK_exit, blockK_ret, evOp, vOp, hOpB, hOpU, hOp, hOpT, aAppendG_tab, aWanted, aYielded, opd, putT, closedV, aBin, intOp, sameK, mapO, joinR, hasAddr, boundOf, pushB, aAlloc, Value.cells, lookB, setB, Nat.beq_eq, tm_n_set, tm_get_set, tm_of_n, tm_of_get, tm_tr_set, tm_tr_of, cellV, putF, appR_eq, takeR_eq, dropR_eq, setR_eq, getR_eq, ↓C75, ↓C76, ↓C77, ↓C79, ↓C17, ↓C18, ↓C22, ↓C71, FA24_0, FA24_1, FA24_2, FA24_3, FA24_4, FA24_5, FA24_6, FA24_7, FA24_8, LD3, LD4, LD22, LD27, LDr, LD24, LEN22, IA22, tkc, cellAt]
  generalize hr : evLoop _ _ _ _ = r
  obtain ⟨x, A', H', rfl, rfl, hl, hmk, h3⟩ := loop_go (Q := Q75 s) hr
    (I75 s)
    s.n (by omega) ⟨0, _, by omega, rfl, rfl, rfl, rfl, rfl, rfl, rfl, rfl⟩ (by
      clear hr
      rintro m A H ⟨i, acc, him, hsum, hl, hmk, h3, h14, h13, h12, hH⟩
      simp only [runC]
      cases m with
      | zero =>
        have hi : ¬ i < s.n := by omega
        simp only [sumG] at hsum
        simp [ec_skip, ec_label, ek_reg, ek_draw, ek_seq, ec_cond, ek_block, ec_loop, ec_exit, ec_ret, ec_scope, ek_nil, ek_op, opK_some, regK_some, seqK_normal, seqK_exit, seqK_ret, blockK_normal, blockK_exit, blockK_ret, evOp, vOp, hOpB, hOpU, hOp, hOpT, aAppendG_tab, aWanted, aYielded, opd, putT, closedV, aBin, intOp, sameK, mapO, joinR, hasAddr, boundOf, pushB, aAlloc, Value.cells, lookB, setB, Nat.beq_eq, tm_n_set, tm_get_set, tm_of_n, tm_of_get, tm_tr_set, tm_tr_of, cellV, putF, appR_eq, takeR_eq, dropR_eq, setR_eq, getR_eq, ↓C75, ↓C76, ↓C77, ↓C79, ↓C17, ↓C18, ↓C22, ↓C71, FA24_0, FA24_1, FA24_2, FA24_3, FA24_4, FA24_5, FA24_6, FA24_7, FA24_8, LD3, LD4, LD22, LD27, LDr, LD24, LEN22, IA22, tkc, cellAt, hl, hmk, h3, h14, h13, h12, hi]
        exact .inr ⟨by simp, rfl, by simp [tm_n_set, hl], rfl, by simp [tm_get_set, hl, h3, hsum]⟩
      | succ m =>
        have hi : i < s.n := by omega
        simp [ec_skip, ec_label, ek_reg, ek_draw, ek_seq, ec_cond, ek_block, ec_loop, ec_exit, ec_ret, ec_scope, ek_nil, ek_op, opK_some, regK_some, seqK_normal, seqK_exit, seqK_ret, blockK_normal, blockK_exit, blockK_ret, evOp, vOp, hOpB, hOpU, hOp, hOpT, aAppendG_tab, aWanted, aYielded, opd, putT, closedV, aBin, intOp, sameK, mapO, joinR, hasAddr, boundOf, pushB, aAlloc, Value.cells, lookB, setB, Nat.beq_eq, tm_n_set, tm_get_set, tm_of_n, tm_of_get, tm_tr_set, tm_tr_of, cellV, putF, appR_eq, takeR_eq, dropR_eq, setR_eq, getR_eq, ↓C75, ↓C76, ↓C77, ↓C79, ↓C17, ↓C18, ↓C22, ↓C71, FA24_0, FA24_1, FA24_2, FA24_3, FA24_4, FA24_5, FA24_6, FA24_7, FA24_8, LD3, LD4, LD22, LD27, LDr, LD24, LEN22, IA22, tkc, cellAt, hl, hmk, h3, h14, h13, h12, hH, hi]
        refine .inl ⟨rfl, m, rfl, i + 1, wrapI .i64 (acc + s.g i), by omega, hsum, ?_⟩
        have hw : wrapI .i64 ((i : Int) + 1) = ((i + 1 : Nat) : Int) := by rw [wrapI_small (by omega) (by omega)]; rfl
        simp [tm_get_set, tm_n_set, hl, h13, h12, hH, hw])
  simp [ec_skip, ec_label, ek_reg, ek_draw, ek_seq, ec_cond, ek_block, ec_loop, ec_exit, ec_ret, ec_scope, ek_nil, ek_op, opK_some, regK_some, seqK_normal, seqK_exit, seqK_ret, blockK_normal, blockK_exit, blockK_ret, evOp, vOp, hOpB, hOpU, hOp, hOpT, aAppendG_tab, aWanted, aYielded, opd, putT, closedV, aBin, intOp, sameK, mapO, joinR, hasAddr, boundOf, pushB, aAlloc, Value.cells, lookB, setB, Nat.beq_eq, tm_n_set, tm_get_set, tm_of_n, tm_of_get, tm_tr_set, tm_tr_of, cellV, putF, appR_eq, takeR_eq, dropR_eq, setR_eq, getR_eq, ↓C75, ↓C76, ↓C77, ↓C79, ↓C17, ↓C18, ↓C22, ↓C71, FA24_0, FA24_1, FA24_2, FA24_3, FA24_4, FA24_5, FA24_6, FA24_7, FA24_8, LD3, LD4, LD22, LD27, LDr, LD24, LEN22, IA22, tkc, cellAt, finF, takeM, resV, hl, hmk, h3]

end Go.Proofs.Ytdbpemmhkfbegaa
