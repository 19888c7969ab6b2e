/-
  What is proved: the faces that the program makes of tiles.
-/
import Derived.Test.YtbpknklnalnihaaTm
namespace Go.Proofs.Ytbpknklnalnihaa
open Go.RowKit
set_option linter.unusedSimpArgs false
set_option linter.unusedVariables false

theorem decrK_pw : ∀ bs : List (Nat × ABlk), decrK bs = true ↔ List.Pairwise (fun p q => q.1 < p.1) bs
  | [] => by simp [decrK]
  | [p] => by simp [decrK]
  | (i, k) :: (j, q) :: r => by
    have ih := decrK_pw ((j, q) :: r)
    simp only [decrK, Bool.and_eq_true]
    rw [ih, List.pairwise_cons (a := (i, k))]
    constructor
    · rintro ⟨h1, h2⟩
      have h1' : j < i := by simpa [Nat.blt_eq] using h1
      refine ⟨fun x hx => ?_, h2⟩
      rcases List.mem_cons.1 hx with rfl | hx
      · exact h1'
      · exact Nat.lt_trans ((List.pairwise_cons.1 h2).1 x hx) h1'
    · rintro ⟨h1, h2⟩
      exact ⟨by simpa [Nat.blt_eq] using h1 (j, q) List.mem_cons_self, h2⟩
theorem MI.sub {H : AH} (h : MI H) {bs : List (Nat × ABlk)} {nx : Nat} (hs : bs.Sublist H.bs) (hn : H.next ≤ nx) : MI ⟨nx, bs⟩ :=
  ⟨(decrK_pw _).2 (((decrK_pw _).1 h.1).sublist hs), fun p hp => Nat.lt_of_lt_of_le (h.2 p (hs.subset hp)) hn⟩
theorem dropB_sub : ∀ (bs : List (Nat × ABlk)) (i : Nat), (dropB bs i).Sublist bs
  | [], _ => List.Sublist.slnil
  | (j, k) :: r, i => by
    simp only [dropB]
    split
    · exact (dropB_sub r i).cons _
    · exact (dropB_sub r i).cons_cons _
theorem below_sub : ∀ (n : Nat) (bs : List (Nat × ABlk)), (below n bs).Sublist bs
  | _, [] => List.Sublist.slnil
  | n, (j, k) :: r => by
    simp only [below]
    split
    · exact (below_sub n r).cons_cons _
    · exact (below_sub n r).cons _
theorem look_below (n : Nat) : ∀ (bs : List (Nat × ABlk)) (i : Nat), i < n → lookB (below n bs) i = lookB bs i
  | [], _, _ => rfl
  | (j, k) :: r, i, h => by
    simp only [below]
    split
    · simp only [lookB, look_below n r i h]
    · rename_i hb
      have : ¬ i = j := by
        rintro rfl
        exact hb (by simpa [Nat.blt_eq] using h)
      simp only [lookB, Nat.beq_eq, this, if_false, look_below n r i h]
theorem apr {T : TypeId → Option TI} {t e : TypeId} {z b : Nat} (h1 : (T t).map (·.desc) = some (.slice e)) (h2 : (T e).map (fun y => (y.size, y.bytes)) = some (z, b)) (H : AH) (s x : Value) :
    aAppend T H t s x = match sliceLen x, sliceLen s with
    | some 0, some _ => some (s, H)
    | some (m + 1), some _ => (match srcCells H.bs x z, dstCells H.bs s z with
      | some news, some (olds, n, bs') =>
        if Nat.ble ((n + (m + 1)) * b) 1000000000000 && Nat.ble (n + (m + 1)) 1000000000000 && news.all cellV then
          some (.slice (some ⟨H.next, 0, none⟩) (n + (m + 1)) z, { next := H.next + 1, bs := (H.next, .cells false (olds ++ news)) :: bs' })
        else none
      | _, _ => none)
    | _, _ => none := by
  obtain ⟨_, _, _, _, ht⟩ := tdesc h1
  cases he : T e with
  | none => rw [he] at h2; cases h2
  | some y =>
    rw [he] at h2
    simp only [Option.map_some, Option.some.injEq, Prod.mk.injEq] at h2
    obtain ⟨rfl, rfl⟩ := h2
    simp only [aAppend, ht, he]
    cases sliceLen x with
    | none => rfl
    | some m => cases m <;> cases sliceLen s <;> rfl

theorem AP29 (H : AH) (s x : Value) : aAppend (tabT Try.prog) H 29 s x = match sliceLen x, sliceLen s with
    | some 0, some _ => some (s, H)
    | some (m + 1), some _ => (match srcCells H.bs x 2, dstCells H.bs s 2 with
      | some news, some (olds, n, bs') =>
        if Nat.ble ((n + (m + 1)) * 16) 1000000000000 && Nat.ble (n + (m + 1)) 1000000000000 && news.all cellV then
          some (.slice (some ⟨H.next, 0, none⟩) (n + (m + 1)) 2, { next := H.next + 1, bs := (H.next, .cells false (olds ++ news)) :: bs' })
        else none
      | _, _ => none)
    | _, _ => none := apr (e := 39) (by kernel_rfl) (by kernel_rfl) H s x
theorem APT29 (H : AH) (u v : Value) : aAppendT (tabT Try.prog) H 29 29 u v = none := by kernel_rfl
theorem BS29 (H : AH) (a : Int) (b : Bool) : aBuildSlice (tabT Try.prog) H 29 1 [(0, .agg #[.int .i64 a, .bool b])] = some (.slice (some ⟨H.next, 0, none⟩) 1 2, pushB H (.cells false [.int .i64 a, .bool b])) := by kernel_rfl

/-- The cells of the faces of the first tiles. -/
noncomputable def faceC (s : SV) (t : Nat → Int) : Nat → List Value
  | 0 => []
  | i + 1 => faceC s t i ++ [.int .i64 (s.kindOf (t i)), .bool (s.redOf (t i))]
theorem faceC_len (s : SV) (t : Nat → Int) : ∀ i, (faceC s t i).length = i * 2
  | 0 => rfl
  | i + 1 => by rw [faceC, List.length_append, faceC_len s t i]; simp; omega
/-- Where the faces lie. -/
noncomputable def FI (s : SV) (t : Nat → Int) (N : Nat) (H : AH) (v : Value) (i : Nat) : Prop := (i = 0 ∧ v = .slice none 0 0) ∨ (0 < i ∧ ∃ b, v = .slice (some ⟨b, 0, none⟩) i 2 ∧ N < b ∧ b < H.next ∧ lookB H.bs b = some (.cells false (faceC s t i)))

theorem app_face {s : SV} {t : Nat → Int} {N : Nat} {H : AH} {v : Value} {i : Nat} (h : FI s t N H v i) (hi : i ≤ 200) : ∃ bs2, bs2.Sublist H.bs ∧ (∀ j, j ≤ N → lookB bs2 j = lookB H.bs j) ∧ (i = 0 → bs2 = H.bs) ∧ ∀ (k : Int) (r : Bool), aAppend (tabT Try.prog) ⟨H.next + 1, (H.next, .cells false [.int .i64 k, .bool r]) :: H.bs⟩ 29 v (.slice (some ⟨H.next, 0, none⟩) 1 2) = some (.slice (some ⟨H.next + 1, 0, none⟩) (i + 1) 2, ⟨H.next + 2, (H.next + 1, .cells false (faceC s t i ++ [.int .i64 k, .bool r])) :: (H.next, .cells false [.int .i64 k, .bool r]) :: bs2⟩) := by
  rcases h with ⟨rfl, rfl⟩ | ⟨h0, b, rfl, hNb, hb, hl⟩
  · refine ⟨H.bs, List.Sublist.refl _, fun _ _ => rfl, fun _ => rfl, fun k r => ?_⟩
    rw [AP29]
    simp [sliceLen, srcCells, dstCells, lookB, tkc, cellV, faceC]
  · refine ⟨dropB H.bs b, dropB_sub _ _, fun j hj => ?_, fun e => absurd e (by omega), fun k r => ?_⟩
    · rw [lookB_dropB, if_neg (by omega)]
    · have hne : ¬ b = H.next := by omega
      have hne' : ¬ H.next = b := by omega
      have hlen := faceC_len s t i
      have ht : takeCells (faceC s t i) 0 (i * 2) = some (faceC s t i) := by
        rw [tkc]
        simp [hlen]
        rw [List.take_of_length_le (by omega)]
      have b1' : Nat.ble ((i + 1) * 16) 1000000000000 = true := by rw [Nat.ble_eq]; omega
      have b2 : Nat.ble (i + 1) 1000000000000 = true := by rw [Nat.ble_eq]; omega
      rw [AP29]
      have tn : takeCells [Value.int .i64 k, .bool r] 0 2 = some [.int .i64 k, .bool r] := rfl
      have c1 : (i + 1) * 16 ≤ 1000000000000 := by omega
      have c2 : i ≤ 999999999999 := by omega
      simp [sliceLen, srcCells, dstCells, lookB, cellV, hne, hne', hl, ht, tn, c1, c2, dropB, Nat.beq_eq]

end Go.Proofs.Ytbpknklnalnihaa
