/-
  What is proved: what the small sets of the source keep of the memory: lists that grow.
-/
import Derived.Test.YtdbpemmhkfbegaaXu
namespace Go.Proofs.Ytdbpemmhkfbegaa
open Go.RowKit
set_option linter.unusedSimpArgs false
set_option linter.unusedVariables false

theorem decrK_pw : ∀ bs : List (Nat × ABlk), decrK bs = true ↔ List.Pairwise (fun p q => q.1 < p.1) bs
  | [] => by simp [decrK]
  | [p] => by simp [decrK]
  | (i, k) :: (j, q) :: r => by
    have ih := decrK_pw ((j, q) :: r)
    simp only [decrK, Bool.and_eq_true]
    rw [ih, List.pairwise_cons (a := (i, k))]
    constructor
    · rintro ⟨h1, h2⟩
      have h1' : j < i := by simpa [Nat.blt_eq] using h1
      refine ⟨fun x hx => ?_, h2⟩
      rcases List.mem_cons.1 hx with rfl | hx
      · exact h1'
      · exact Nat.lt_trans ((List.pairwise_cons.1 h2).1 x hx) h1'
    · rintro ⟨h1, h2⟩
      exact ⟨by simpa [Nat.blt_eq] using h1 (j, q) List.mem_cons_self, h2⟩
theorem MI.sub {H : AH} (h : MI H) {bs : List (Nat × ABlk)} {nx : Nat} (hs : bs.Sublist H.bs) (hn : H.next ≤ nx) : MI ⟨nx, bs⟩ :=
  ⟨(decrK_pw _).2 (((decrK_pw _).1 h.1).sublist hs), fun p hp => Nat.lt_of_lt_of_le (h.2 p (hs.subset hp)) hn⟩
theorem dropB_sub : ∀ (bs : List (Nat × ABlk)) (i : Nat), (dropB bs i).Sublist bs
  | [], _ => List.Sublist.slnil
  | (j, k) :: r, i => by
    simp only [dropB]
    split
    · exact (dropB_sub r i).cons _
    · exact (dropB_sub r i).cons_cons _
theorem apr {T : TypeId → Option TI} {t e : TypeId} {z b : Nat} (h1 : (T t).map (·.desc) = some (.slice e)) (h2 : (T e).map (fun y => (y.size, y.bytes)) = some (z, b)) (H : AH) (s x : Value) :
    aAppend T H t s x = match sliceLen x, sliceLen s with
    | some 0, some _ => some (s, H)
    | some (m + 1), some _ => (match srcCells H.bs x z, dstCells H.bs s z with
      | some news, some (olds, n, bs') =>
        if Nat.ble ((n + (m + 1)) * b) 1000000000000 && Nat.ble (n + (m + 1)) 1000000000000 && news.all cellV then
          some (.slice (some ⟨H.next, 0, none⟩) (n + (m + 1)) z, { next := H.next + 1, bs := (H.next, .cells false (olds ++ news)) :: bs' })
        else none
      | _, _ => none)
    | _, _ => none := by
  obtain ⟨_, _, _, _, ht⟩ := tdesc h1
  cases he : T e with
  | none => rw [he] at h2; cases h2
  | some y =>
    rw [he] at h2
    simp only [Option.map_some, Option.some.injEq, Prod.mk.injEq] at h2
    obtain ⟨rfl, rfl⟩ := h2
    simp only [aAppend, ht, he]
    cases sliceLen x with
    | none => rfl
    | some m => cases m <;> cases sliceLen s <;> rfl

theorem AP22 (H : AH) (s x : Value) : aAppend (tabT Try.prog) H 22 s x = match sliceLen x, sliceLen s with
    | some 0, some _ => some (s, H)
    | some (m + 1), some _ => (match srcCells H.bs x 1, dstCells H.bs s 1 with
      | some news, some (olds, n, bs') =>
        if Nat.ble ((n + (m + 1)) * 8) 1000000000000 && Nat.ble (n + (m + 1)) 1000000000000 && news.all cellV then
          some (.slice (some ⟨H.next, 0, none⟩) (n + (m + 1)) 1, { next := H.next + 1, bs := (H.next, .cells false (olds ++ news)) :: bs' })
        else none
      | _, _ => none)
    | _, _ => none := apr (e := 3) (by kernel_rfl) (by kernel_rfl) H s x
theorem APT22 (H : AH) (u v : Value) : aAppendT (tabT Try.prog) H 22 22 u v = none := by kernel_rfl
theorem BS22 (H : AH) (a : Int) : aBuildSlice (tabT Try.prog) H 22 1 [(0, .int .i64 a)] = some (.slice (some ⟨H.next, 0, none⟩) 1 1, pushB H (.cells false [.int .i64 a])) := by kernel_rfl
theorem setB_setB (i : Nat) (k k' : ABlk) : ∀ bs : List (Nat × ABlk), setB (setB bs i k) i k' = setB bs i k'
  | [] => rfl
  | (j, q) :: r => by
    simp only [setB]
    split
    · rename_i h; simp only [setB, h, if_true]
    · rename_i h; simp only [setB, h, Bool.false_eq_true, if_false, setB_setB i k k' r]
/-- A list in a block of its own, behind the set. -/
def FL (lo : Nat) (H : AH) (u : Value) (n : Nat) (g : Nat → Int) : Prop := (u = .slice none 0 0 ∧ n = 0) ∨ ∃ a cs, u = .slice (some ⟨a, 0, none⟩) n 1 ∧ lo < a ∧ a < H.next ∧ lookB H.bs a = some (.cells false cs) ∧ okC cs n = true ∧ g = gi cs ∧ 0 < n
/-- The memory while a small set is made. -/
structure KL (N p : Nat) (bs : List (Nat × ABlk)) (H : AH) (x : Int) (s : SV) (u1 u8 : Value) : Prop where
  mi : MI H
  nx : N + 1 < H.next
  pn : p < N
  src : lookB H.bs p = some (sB x)
  set : lookB H.bs (N + 1) = some (.cells false [.int .i64 s.p, u1, .int .i64 s.w, .int .i64 s.d, .int .i64 s.f, .int .i64 s.c, .int .i64 s.m, .int .i64 s.de, u8])
  res : lookB H.bs N = some (.cells false [.int .i64 0, .slice none 0 0, .int .i64 0, .int .i64 0, .int .i64 0, .int .i64 0, .int .i64 0, .int .i64 0, .slice none 0 0])
  old : ∀ j, j < N → j ≠ p → lookB H.bs j = lookB bs j
  l1 : FL (N + 1) H u1 s.n s.g
  l8 : FL (N + 1) H u8 s.k s.h
  dis : ∀ a b n k, u1 = .slice (some ⟨a, 0, none⟩) n 1 → u8 = .slice (some ⟨b, 0, none⟩) k 1 → a ≠ b
theorem FL.mono {lo : Nat} {H H' : AH} {u : Value} {n : Nat} {g : Nat → Int} (h : FL lo H u n g) (hn : H.next ≤ H'.next) (hl : ∀ a, u = .slice (some ⟨a, 0, none⟩) n 1 → lo < a → a < H.next → lookB H'.bs a = lookB H.bs a) : FL lo H' u n g := by
  rcases h with h | ⟨a, cs, h1, h2, h3, h4, h5⟩
  · exact .inl h
  · exact .inr ⟨a, cs, h1, h2, by omega, (hl a h1 h2 h3).trans h4, h5⟩
theorem KL.step {N p : Nat} {bs : List (Nat × ABlk)} {H : AH} {x y : Int} {s : SV} {u1 u8 : Value} (h : KL N p bs H x s u1 u8) : KL N p bs ⟨H.next, setB H.bs p (sB y)⟩ y s u1 u8 := by
  have hp := h.pn
  have e : ∀ j, j ≠ p → lookB (setB H.bs p (sB y)) j = lookB H.bs j := fun j hj => by rw [lookB_setB, if_neg hj]
  exact ⟨h.mi.set _ _, h.nx, h.pn, by rw [lookB_setB, if_pos rfl, h.src]; rfl, (e _ (by omega)).trans h.set, (e _ (by omega)).trans h.res, fun j h1 h2 => (e j h2).trans (h.old j h1 h2), h.l1.mono (Nat.le_refl _) fun a _ h2 _ => e a (by omega), h.l8.mono (Nat.le_refl _) fun a _ h2 _ => e a (by omega), h.dis⟩
theorem app_fl {lo n : Nat} {H : AH} {u : Value} {g : Nat → Int} (hM : MI H) (h : FL lo H u n g) (hn : n ≤ 200) : ∃ bs2, bs2.Sublist H.bs ∧ (∀ j, (∀ a, u = .slice (some ⟨a, 0, none⟩) n 1 → j ≠ a) → lookB bs2 j = lookB H.bs j) ∧ ∀ k : Int, ∃ cs, okC cs (n + 1) = true ∧ (∀ i, i < n → gi cs i = g i) ∧ gi cs n = k ∧
    aAppend (tabT Try.prog) ⟨H.next + 1, (H.next, .cells false [.int .i64 k]) :: H.bs⟩ 22 u (.slice (some ⟨H.next, 0, none⟩) 1 1) = some (.slice (some ⟨H.next + 1, 0, none⟩) (n + 1) 1, ⟨H.next + 2, (H.next + 1, .cells false cs) :: (H.next, .cells false [.int .i64 k]) :: bs2⟩) := by
  have tn : ∀ k : Int, takeCells [Value.int .i64 k] 0 1 = some [.int .i64 k] := fun _ => rfl
  rcases h with ⟨rfl, rfl⟩ | ⟨b, cs, rfl, hNb, hb, hl, hok, rfl, h0⟩
  · refine ⟨H.bs, List.Sublist.refl _, fun _ _ => rfl, fun k => ⟨[.int .i64 k], rfl, fun i hi => by omega, rfl, ?_⟩⟩
    rw [AP22]
    simp [sliceLen, srcCells, dstCells, lookB, tn, cellV]
  · refine ⟨dropB H.bs b, dropB_sub _ _, fun j hj => ?_, fun k => ⟨cs ++ [.int .i64 k], ?_, ?_, ?_, ?_⟩⟩
    · rw [lookB_dropB, if_neg (hj b rfl)]
    · have := okC_len hok
      simp only [okC, Bool.and_eq_true] at hok ⊢
      refine ⟨by simp [this], by simp [List.all_append, hok.2, isI]⟩
    · intro i hi
      have := okC_len hok
      unfold gi
      rw [List.getElem?_append_left (by omega)]
    · have := okC_len hok
      unfold gi
      rw [List.getElem?_append_right (by omega)]
      simp [this]
    · have hne : ¬ b = H.next := by omega
      have hne' : ¬ H.next = b := by omega
      have hlen := okC_len hok
      have ht : takeCells cs 0 n = some cs := by
        unfold takeCells
        rw [takeK_eq, dropR_eq, if_pos (by simp; omega)]
        simp only [List.drop_zero]
        rw [List.take_of_length_le (by omega)]
      have c1 : (n + 1) * 8 ≤ 1000000000000 := by omega
      have c2 : n ≤ 999999999999 := by omega
      rw [AP22]
      simp [sliceLen, srcCells, dstCells, lookB, cellV, hne, hne', hl, ht, tn, c1, c2, dropB, Nat.beq_eq]
/-- The list of suits grows. -/
theorem KL.app1 {N p : Nat} {bs : List (Nat × ABlk)} {H : AH} {x : Int} {s : SV} {u1 u8 : Value} (h : KL N p bs H x s u1 u8) (hn : s.n ≤ 200) : ∃ bs2, bs2.Sublist H.bs ∧ lookB bs2 (N + 1) = lookB H.bs (N + 1) ∧ lookB bs2 p = lookB H.bs p ∧ ∀ k : Int, ∃ cs, (∀ i, i < s.n → gi cs i = s.g i) ∧ gi cs s.n = k ∧
    aAppend (tabT Try.prog) ⟨H.next + 1, (H.next, .cells false [.int .i64 k]) :: H.bs⟩ 22 u1 (.slice (some ⟨H.next, 0, none⟩) 1 1) = some (.slice (some ⟨H.next + 1, 0, none⟩) (s.n + 1) 1, ⟨H.next + 2, (H.next + 1, .cells false cs) :: (H.next, .cells false [.int .i64 k]) :: bs2⟩) ∧
    KL N p bs ⟨H.next + 2, (H.next + 1, .cells false cs) :: (H.next, .cells false [.int .i64 k]) :: setB bs2 (N + 1) (.cells false [.int .i64 s.p, .slice (some ⟨H.next + 1, 0, none⟩) (s.n + 1) 1, .int .i64 s.w, .int .i64 s.d, .int .i64 s.f, .int .i64 s.c, .int .i64 s.m, .int .i64 s.de, u8])⟩ x { s with n := s.n + 1, g := gi cs } (.slice (some ⟨H.next + 1, 0, none⟩) (s.n + 1) 1) u8 := by
  have hp := h.pn
  have hx := h.nx
  obtain ⟨bs2, hs, hl, hap⟩ := app_fl h.mi h.l1 hn
  have out : ∀ j, j ≤ N + 1 → lookB bs2 j = lookB H.bs j := fun j hj => hl j fun a ha => by
    rcases h.l1 with ⟨e, _⟩ | ⟨b, cs, e, h2, _⟩
    · rw [e] at ha; cases ha
    · rw [e] at ha; cases ha; omega
  have M2 : MI ⟨H.next, bs2⟩ := h.mi.sub hs (Nat.le_refl _)
  refine ⟨bs2, hs, out _ (Nat.le_refl _), out _ (by omega), fun k => ?_⟩
  obtain ⟨cs, hok, hg, hk, e⟩ := hap k
  refine ⟨cs, hg, hk, e, ?_⟩
  have lk : ∀ j v, j < H.next → lookB ((H.next + 1, ABlk.cells false cs) :: (H.next, .cells false [.int .i64 k]) :: setB bs2 (N + 1) v) j = lookB (setB bs2 (N + 1) v) j := fun j v hj => by
    simp only [lookB, beq_ne (show ¬ j = H.next + 1 by omega), beq_ne (show ¬ j = H.next by omega), Bool.false_eq_true, if_false]
  have l2 : ∀ j v, j ≠ N + 1 → lookB (setB bs2 (N + 1) v) j = lookB bs2 j := fun j v hj => by rw [lookB_setB, if_neg hj]
  exact {
    mi := ((M2.set _ _).push _).push _
    nx := by show N + 1 < H.next + 2; omega
    pn := hp
    src := ((lk p _ (by omega)).trans (l2 p _ (by omega))).trans ((out p (by omega)).trans h.src)
    set := by
      show lookB ((H.next + 1, ABlk.cells false cs) :: (H.next, .cells false [.int .i64 k]) :: setB bs2 (N + 1) _) (N + 1) = _
      rw [lk (N + 1) _ (by omega), lookB_setB, if_pos rfl, out (N + 1) (Nat.le_refl _), h.set]; rfl
    res := ((lk N _ (by omega)).trans (l2 N _ (by omega))).trans ((out N (by omega)).trans h.res)
    old := fun j h1 h2 => ((lk j _ (by omega)).trans (l2 j _ (by omega))).trans ((out j (by omega)).trans (h.old j h1 h2))
    l1 := .inr ⟨H.next + 1, cs, rfl, by omega, by show H.next + 1 < H.next + 2; omega, by simp [lookB], hok, rfl, by show 0 < s.n + 1; omega⟩
    l8 := h.l8.mono (by show H.next ≤ H.next + 2; omega) fun a ha h2 h3 => (lk a _ h3).trans ((l2 a _ (by omega)).trans (hl a fun b hb => (h.dis b a _ _ hb ha).symm))
    dis := fun a b n k e1 e2 => by
      cases e1
      rcases h.l8 with ⟨e, _⟩ | ⟨b', cs', e, _, h3, _⟩
      · rw [e] at e2; cases e2
      · rw [e] at e2; cases e2; omega }
/-- The list of reds grows. -/
theorem KL.app8 {N p : Nat} {bs : List (Nat × ABlk)} {H : AH} {x : Int} {s : SV} {u1 u8 : Value} (h : KL N p bs H x s u1 u8) (hn : s.k ≤ 200) : ∃ bs2, bs2.Sublist H.bs ∧ lookB bs2 (N + 1) = lookB H.bs (N + 1) ∧ lookB bs2 p = lookB H.bs p ∧ ∀ k : Int, ∃ cs, (∀ i, i < s.k → gi cs i = s.h i) ∧ gi cs s.k = k ∧
    aAppend (tabT Try.prog) ⟨H.next + 1, (H.next, .cells false [.int .i64 k]) :: H.bs⟩ 22 u8 (.slice (some ⟨H.next, 0, none⟩) 1 1) = some (.slice (some ⟨H.next + 1, 0, none⟩) (s.k + 1) 1, ⟨H.next + 2, (H.next + 1, .cells false cs) :: (H.next, .cells false [.int .i64 k]) :: bs2⟩) ∧
    KL N p bs ⟨H.next + 2, (H.next + 1, .cells false cs) :: (H.next, .cells false [.int .i64 k]) :: setB bs2 (N + 1) (.cells false [.int .i64 s.p, u1, .int .i64 s.w, .int .i64 s.d, .int .i64 s.f, .int .i64 s.c, .int .i64 s.m, .int .i64 s.de, .slice (some ⟨H.next + 1, 0, none⟩) (s.k + 1) 1])⟩ x { s with k := s.k + 1, h := gi cs } u1 (.slice (some ⟨H.next + 1, 0, none⟩) (s.k + 1) 1) := by
  have hp := h.pn
  have hx := h.nx
  obtain ⟨bs2, hs, hl, hap⟩ := app_fl h.mi h.l8 hn
  have out : ∀ j, j ≤ N + 1 → lookB bs2 j = lookB H.bs j := fun j hj => hl j fun a ha => by
    rcases h.l8 with ⟨e, _⟩ | ⟨b, cs, e, h2, _⟩
    · rw [e] at ha; cases ha
    · rw [e] at ha; cases ha; omega
  have M2 : MI ⟨H.next, bs2⟩ := h.mi.sub hs (Nat.le_refl _)
  refine ⟨bs2, hs, out _ (Nat.le_refl _), out _ (by omega), fun k => ?_⟩
  obtain ⟨cs, hok, hg, hk, e⟩ := hap k
  refine ⟨cs, hg, hk, e, ?_⟩
  have lk : ∀ j v, j < H.next → lookB ((H.next + 1, ABlk.cells false cs) :: (H.next, .cells false [.int .i64 k]) :: setB bs2 (N + 1) v) j = lookB (setB bs2 (N + 1) v) j := fun j v hj => by
    simp only [lookB, beq_ne (show ¬ j = H.next + 1 by omega), beq_ne (show ¬ j = H.next by omega), Bool.false_eq_true, if_false]
  have l2 : ∀ j v, j ≠ N + 1 → lookB (setB bs2 (N + 1) v) j = lookB bs2 j := fun j v hj => by rw [lookB_setB, if_neg hj]
  exact {
    mi := ((M2.set _ _).push _).push _
    nx := by show N + 1 < H.next + 2; omega
    pn := hp
    src := ((lk p _ (by omega)).trans (l2 p _ (by omega))).trans ((out p (by omega)).trans h.src)
    set := by
      show lookB ((H.next + 1, ABlk.cells false cs) :: (H.next, .cells false [.int .i64 k]) :: setB bs2 (N + 1) _) (N + 1) = _
      rw [lk (N + 1) _ (by omega), lookB_setB, if_pos rfl, out (N + 1) (Nat.le_refl _), h.set]; rfl
    res := ((lk N _ (by omega)).trans (l2 N _ (by omega))).trans ((out N (by omega)).trans h.res)
    old := fun j h1 h2 => ((lk j _ (by omega)).trans (l2 j _ (by omega))).trans ((out j (by omega)).trans (h.old j h1 h2))
    l8 := .inr ⟨H.next + 1, cs, rfl, by omega, by show H.next + 1 < H.next + 2; omega, by simp [lookB], hok, rfl, by show 0 < s.k + 1; omega⟩
    l1 := h.l1.mono (by show H.next ≤ H.next + 2; omega) fun a ha h2 h3 => (lk a _ h3).trans ((l2 a _ (by omega)).trans (hl a fun b hb => h.dis a b _ _ ha hb))
    dis := fun a b n k e1 e2 => by
      cases e2
      rcases h.l1 with ⟨e, _⟩ | ⟨b', cs', e, _, h3, _⟩
      · rw [e] at e1; cases e1
      · rw [e] at e1; cases e1; omega }
theorem FL.lst {lo : Nat} {H : AH} {u : Value} {n : Nat} {g : Nat → Int} (h : FL lo H u n g) : Lst H.bs u n g := by
  rcases h with h | ⟨a, cs, h1, _, _, h4, h5, h6, _⟩
  · exact .inl h
  · exact .inr ⟨a, false, cs, h1, h4, h5, h6⟩
theorem KL.up {N p : Nat} {bs : List (Nat × ABlk)} {H : AH} {x : Int} {s : SV} {u1 u8 : Value} (h : KL N p bs H x s u1 u8) {nx : Nat} (hn : H.next ≤ nx) : KL N p bs ⟨nx, H.bs⟩ x s u1 u8 :=
  ⟨⟨h.mi.1, fun q hq => Nat.lt_of_lt_of_le (h.mi.2 q hq) hn⟩, Nat.lt_of_lt_of_le h.nx hn, h.pn, h.src, h.set, h.res, h.old, h.l1.mono hn fun _ _ _ _ => rfl, h.l8.mono hn fun _ _ _ _ => rfl, h.dis⟩
theorem KL.put {N p : Nat} {bs : List (Nat × ABlk)} {H : AH} {x : Int} {s : SV} {u1 u8 : Value} (h : KL N p bs H x s u1 u8) (s' : SV) (hn : s'.n = s.n) (hg : s'.g = s.g) (hk : s'.k = s.k) (hh : s'.h = s.h) : KL N p bs ⟨H.next, setB H.bs (N + 1) (.cells false [.int .i64 s'.p, u1, .int .i64 s'.w, .int .i64 s'.d, .int .i64 s'.f, .int .i64 s'.c, .int .i64 s'.m, .int .i64 s'.de, u8])⟩ x s' u1 u8 := by
  have hp := h.pn
  have e : ∀ j v, j ≠ N + 1 → lookB (setB H.bs (N + 1) v) j = lookB H.bs j := fun j v hj => by rw [lookB_setB, if_neg hj]
  exact ⟨h.mi.set _ _, h.nx, h.pn, (e _ _ (by omega)).trans h.src, by rw [lookB_setB, if_pos rfl, h.set]; rfl, (e _ _ (by omega)).trans h.res, fun j h1 h2 => (e j _ (by omega)).trans (h.old j h1 h2), by rw [hn, hg]; exact h.l1.mono (Nat.le_refl _) fun a _ h2 _ => e a _ (by omega), by rw [hk, hh]; exact h.l8.mono (Nat.le_refl _) fun a _ h2 _ => e a _ (by omega), h.dis⟩

end Go.Proofs.Ytdbpemmhkfbegaa
