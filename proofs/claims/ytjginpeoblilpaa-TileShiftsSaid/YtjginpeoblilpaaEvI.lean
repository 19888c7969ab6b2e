/-
  What is proved: nothing of the program. This text joins the operations on memory into one function.
-/
import Derived.Test.YtjginpeoblilpaaEvH
import Derived.Laws.IdiomStrings
import Derived.Lib.UnsafeStr
namespace Go.Proofs.Ytjginpeoblilpaa
open Go.RowKit
set_option linter.unusedSimpArgs false
set_option linter.unusedVariables false

noncomputable def u8V : Value → Option Int
  | .int .u8 n => some n
  | _ => none

noncomputable def bytesOf (ns : List Int) : ByteArray := ns.foldl (fun r n => r.push (UInt8.ofNat n.toNat)) ByteArray.empty

noncomputable def aBytes (T : TypeId → Option TI) (H : AH) (src dst : TypeId) (x : Value) : Option Value :=
  match T src, T dst with
  | some { desc := .slice e, .. }, some { desc := .string, .. } =>
    match T e with
    | some { desc := .int .u8, .. } =>
      match x with
      | .slice none 0 0 => some (.string .empty)
      | .slice (some ⟨i, off, none⟩) len _ =>
        match lookB H.bs i with
        | some (.cells _ cs) => match takeCells cs off len with
          | some l => (mapO u8V l).map fun ns => .string (bytesOf ns)
          | none => none
        | _ => none
      | _ => none
    | _ => none
  | _, _ => none

theorem u8_list {ρ : BMap} : ∀ {l c : List Value} {ns : List Int}, mapO u8V l = some ns → LRel ρ l c.toArray → c = ns.map (Value.int .u8) := by
  intro l c ns h hr
  obtain ⟨h1, h2⟩ := mapO_spec h
  have hl : l.length = c.length := by simpa using hr.1
  apply List.ext_getElem?
  intro j
  rcases Nat.lt_or_ge j c.length with hj | hj
  · have hj' : j < l.length := by omega
    obtain ⟨b, hb, hu⟩ := h2 j l[j] (List.getElem?_eq_getElem hj')
    have hv := hr.2 j l[j] c[j] (List.getElem?_eq_getElem hj') (by simp [hj])
    have e : l[j] = .int .u8 b := by
      revert hu
      cases l[j] <;> simp [u8V]
      rename_i k n
      cases k <;> simp
    rw [e] at hv
    generalize hcj : c[j] = cj at hv
    cases hv
    simp [hb, hcj, hj]
  · have : ns.length ≤ j := by omega
    rw [List.getElem?_eq_none hj, List.getElem?_eq_none (by simpa using this)]

theorem aBytes_sound {P : Program} {T : TypeId → Option TI} (hT : TOk P T) {B : Nat} {ρ : BMap} {H : AH} {w : World} {src dst : TypeId} {x x' v : Value} (h : aBytes T H src dst x = some v) (hH : HRel B ρ H.bs w) (hx : VRel ρ x x') :
    (convert src dst x').run P w = .ok v w ∧ VRel ρ v v := by
  unfold aBytes at h
  split at h
  · rename_i _ _ _ e _ _ _ _ _ hs hd
    split at h
    · rename_i _ _ _ _ he
      have hcv := fun a l c => run_convert_bytes_string (P := P) w src dst e a l c (hT.under hs) (hT.under he) (hT.under hd)
      split at h
      · cases h
        cases hx
        exact ⟨by rw [hcv]; simp [Conv.bytesToString], .string _⟩
      · rename_i i off len sz
        split at h
        · rename_i ro cs hi
          split at h
          · rename_i l hl
            simp only [Option.map_eq_some_iff] at h
            obtain ⟨ns, hns, rfl⟩ := h
            cases hx with
            | slice hρ _ _ =>
              rename_i b o tot cap _ _
              obtain ⟨c, h1, _, h3⟩ := run_cells (P := P) hH hi hρ hl
              have hc := u8_list hns h3
              subst hc
              refine ⟨?_, .string _⟩
              rw [hcv, run_bytesToString w _ len cap ns h1]
              rfl
          · cases h
        · cases h
      · cases h
    · cases h
  · cases h

noncomputable def aSliceArr (T : TypeId → Option TI) (H : AH) (t : TypeId) (x : Value) (lo hi : Option Value) : Option Value :=
  match x with
  | .pointer (some ⟨i, off, none⟩) =>
    match T t, lookB H.bs i with
    | some { desc := .array n e, .. }, some (.cells _ cs) =>
      match T e with
      | some y =>
        match bnd lo 0, bnd hi n with
        | some l, some h =>
          if Nat.ble (off + n * y.size) cs.length && Nat.ble l h && Nat.ble h n then
            (if Nat.beq l 0 then some (.slice (some ⟨i, off, none⟩) h y.size) else if Nat.beq h l then some (.slice (some ⟨0, 0, some 0⟩) 0 y.size) else some (.slice (some ⟨i, off + l * y.size, none⟩) (h - l) y.size))
          else none
        | _, _ => none
      | none => none
    | _, _ => none
  | .pointer (some ⟨i, off, some 2⟩) =>
    match T t with
    | some { desc := .array n e, .. } =>
      match T e with
      | some y =>
        match bnd lo 0, bnd hi n with
        | some l, some h =>
          if Nat.ble l h && Nat.ble h n then
            (if Nat.beq l 0 then some (.slice (some ⟨i, off, some 2⟩) h y.size) else if Nat.beq h l then some (.slice (some ⟨0, 0, some 0⟩) 0 y.size) else some (.slice (some ⟨i, off + l * y.size, some 2⟩) (h - l) y.size))
          else none
        | _, _ => none
      | none => none
    | _ => none
  | _ => none

theorem aSliceArr_sound {P : Program} {T : TypeId → Option TI} (hT : TOk P T) {B : Nat} {ρ : BMap} {H : AH} {w : World} {t : TypeId} {x v x' : Value} {lo hi : Option Value} (h : aSliceArr T H t x lo hi = some v) (hH : HRel B ρ H.bs w) (hx : VRel ρ x x') :
    ∃ u, (Instr.sliceAt t x' lo hi none).run P w = .ok u w ∧ VRel ρ v u := by
  unfold aSliceArr at h
  split at h
  · rename_i i off
    split at h
    · rename_i _ _ _ n e _ ro cs ht hi'
      split at h
      · rename_i y hy
        split at h
        · rename_i l hh hlo hhi
          split at h
          · rename_i hc
            simp only [Bool.and_eq_true, Nat.ble_eq] at hc
            obtain ⟨⟨h0, h1⟩, h2⟩ := hc
            cases hx with
            | ptr hρ =>
              rename_i b o tot
              have htot : cs.length ≤ tot := by
                obtain ⟨z, hz, _, _, _, _, _, _, g⟩ := hH.blk i _ hi'
                rw [hρ] at hz; cases hz
                exact g
              refine ⟨.slice (some (if n = l then ⟨b, o + off, none⟩ else (⟨b, o + off, none⟩ : Addr).add (l * y.size))) (hh - l) (n - l), ?_, ?_⟩
              · simp only [Instr.sliceAt, Sem.run_bind, run_underlying (hT.under ht) w, Result.andThen_ok, Instr.sureAddr, Sem.run_pure, run_bounds hlo hhi h1 h2, hT.size hy w]
              · split at h
                · rename_i hl0
                  have h0' : l = 0 := Nat.eq_of_beq_eq_true hl0
                  subst h0'
                  cases h
                  have e1 : (if n = 0 then (⟨b, o + off, none⟩ : Addr) else (⟨b, o + off, none⟩ : Addr).add (0 * y.size)) = ⟨b, o + off, none⟩ := by
                    split <;> simp [Addr.add]
                  rw [e1]
                  exact .slice hρ (by omega) (by simp; omega)
                · split at h
                  · rename_i hl1
                    have h0' : hh = l := Nat.eq_of_beq_eq_true hl1
                    subst h0'
                    cases h
                    simp only [Nat.sub_self]
                    exact .sempty
                  · rename_i hn0 hnl
                    cases h
                    have hl0 : ¬ l = 0 := fun e => hn0 (by simp [e])
                    have hlh : ¬ hh = l := fun e => hnl (by simp [e])
                    have hc : ¬ n = l := by omega
                    rw [if_neg hc, addr_add, Nat.add_assoc]
                    refine .slice hρ (by omega) ?_
                    have : l * y.size + (n - l) * y.size = n * y.size := by rw [← Nat.add_mul]; congr 1; omega
                    omega
          · cases h
        · cases h
      · cases h
    · cases h
  · rename_i i off
    split at h
    · rename_i _ _ _ n e _ ht
      split at h
      · rename_i y hy
        split at h
        · rename_i l hh hlo hhi
          split at h
          · rename_i hc
            simp only [Bool.and_eq_true, Nat.ble_eq] at hc
            obtain ⟨h1, h2⟩ := hc
            cases hx with
            | gptr =>
              refine ⟨.slice (some (if n = l then ⟨i, off, none⟩ else (⟨i, off, none⟩ : Addr).add (l * y.size))) (hh - l) (n - l), ?_, ?_⟩
              · simp only [Instr.sliceAt, Sem.run_bind, run_underlying (hT.under ht) w, Result.andThen_ok, Instr.sureAddr, Sem.run_pure, run_bounds hlo hhi h1 h2, hT.size hy w]
              · split at h
                · rename_i hl0
                  have h0' : l = 0 := Nat.eq_of_beq_eq_true hl0
                  subst h0'
                  cases h
                  have e1 : (if n = 0 then (⟨i, off, none⟩ : Addr) else (⟨i, off, none⟩ : Addr).add (0 * y.size)) = ⟨i, off, none⟩ := by
                    split <;> simp [Addr.add]
                  rw [e1]
                  exact .gsl (by omega)
                · split at h
                  · rename_i hl1
                    have h0' : hh = l := Nat.eq_of_beq_eq_true hl1
                    subst h0'
                    cases h
                    simp only [Nat.sub_self]
                    exact .sempty
                  · rename_i hn0 hnl
                    cases h
                    have hl0 : ¬ l = 0 := fun e => hn0 (by simp [e])
                    have hlh : ¬ hh = l := fun e => hnl (by simp [e])
                    have hc : ¬ n = l := by omega
                    rw [if_neg hc, addr_add]
                    exact .gsl (by omega)
          · cases h
        · cases h
      · cases h
    · cases h
  · cases h

noncomputable def aMake (T : TypeId → Option TI) (H : AH) (t : TypeId) (l c : Value) : Option (Value × AH) :=
  match natV l, natV c, T t with
  | some n, some m, some { desc := .slice e, .. } =>
    match T e with
    | some y => if Nat.ble n m && Nat.ble m 65536 && Nat.ble (y.bytes * m) 1000000000 then
        some (.slice (some ⟨H.next, 0, none⟩) n y.size, pushB H (.cells false ((Array.range (m * y.size)).map ((if m * y.size = 0 then #[] else y.zero.cells)[· % (if m * y.size = 0 then #[] else y.zero.cells).size]!)).toList)) else none
    | none => none
  | _, _, _ => none

theorem wrap_small (n : Nat) (h : n ≤ 65536) : IntKind.i64.wrap (n : Int) = n := by
  rw [← wrapI_eq]
  simp only [wrapI]
  have : (n : Int) % 18446744073709551616 = n := by omega
  rw [this]
  have : ¬ ((n : Int) ≥ 9223372036854775808) := by omega
  simp [this]

theorem aMake_sound {P : Program} {T : TypeId → Option TI} (hT : TOk P T) {B : Nat} {ρ : BMap} {H H' : AH} {w : World} {t : TypeId} {l c v : Value} (h : aMake T H t l c = some (v, H')) (hH : HRel B ρ H.bs w) (hf : Free ρ H.next H'.next) :
    Runs P B ρ H w (do pure (.value (← Instr.makeSlice t l c))) v H' := by
  unfold aMake at h
  split at h
  · rename_i n m _ _ _ e _ hn hm ht
    obtain ⟨k1, rfl⟩ := natV_spec hn
    obtain ⟨k2, rfl⟩ := natV_spec hm
    split at h
    · rename_i y hy
      split at h
      · rename_i hc
        simp only [Bool.and_eq_true, Nat.ble_eq] at hc
        obtain ⟨⟨h1, h2⟩, h3⟩ := hc
        cases h
        have hz : ARel ρ (if m * y.size = 0 then #[] else y.zero.cells) (if m * y.size = 0 then #[] else y.zero.cells) := by
          split
          · exact ⟨rfl, fun j a b ha => by simp at ha⟩
          · exact arel_refl_zero hT hy ρ
        have harr := arel_rep hz (m * y.size)
        obtain ⟨hrow, hpost⟩ := run_row (P := P) hH hf harr.list e
        obtain ⟨⟨i, hi, i1, i2, i3⟩, _⟩ := hT e y hy
        refine ⟨bmapAt ρ H.next w.heap.size ((Array.range (m * y.size)).map ((if m * y.size = 0 then #[] else y.zero.cells)[· % (if m * y.size = 0 then #[] else y.zero.cells).size]!)).size, _, _, ?_, .inl ⟨.slice (some ⟨w.heap.size, 0, none⟩) n m, rfl, ?_⟩, hpost⟩
        · have c0 : ¬ ((m : Int) < 0) := by omega
          have c1 : ¬ ((281474976710656 : Int) < (y.bytes : Int) * (m : Int)) := by
            have : ((y.bytes * m : Nat) : Int) ≤ 1000000000 := Int.ofNat_le.2 h3
            rw [Int.natCast_mul] at this
            omega
          have c2 : ¬ ((n : Int) < 0) := by omega
          have c3 : ¬ ((m : Int) < (n : Int)) := by omega
          have hti : (typeInfo e).run P w = .ok i w := by simp [typeInfo, hi]
          simp only [Instr.makeSlice, Sem.run_bind, run_underlying (hT.under ht) w, Result.andThen_ok, asInt, asIntOf, Sem.run_pure, hti, i2, wrap_small m h2, wrap_small n (by omega)]
          simp only [gt_iff_lt, show ((2 : Int) ^ 48) = 281474976710656 from rfl, c0, c1, c2, c3, decide_false, Bool.or_false, Bool.false_eq_true, if_false, Sem.run_bind, run_askRoom, Result.andThen_ok, hT.size hy w, Int.toNat_natCast]
          by_cases h0 : m * y.size = 0
          · simp only [h0, if_true] at hrow ⊢
            simp only [Sem.run_bind, Sem.run_pure, Result.andThen_ok, hrow]
          · simp only [h0, if_false] at hrow ⊢
            simp only [Sem.run_bind, hT.zeroV hy w, Sem.run_pure, Result.andThen_ok, hrow]
        · have := VRel.slice (ρ := bmapAt ρ H.next w.heap.size ((Array.range (m * y.size)).map ((if m * y.size = 0 then #[] else y.zero.cells)[· % (if m * y.size = 0 then #[] else y.zero.cells).size]!)).size) (off := 0) (len := n) (sz := y.size) (cap := m) (bmapAt_self ρ H.next w.heap.size _) h1 (by simp)
          simpa using this
      · cases h
    · cases h
  · cases h

noncomputable def aLen (T : TypeId → Option TI) (t : TypeId) (x : Value) : Option Value :=
  match T t, x with
  | some { desc := .slice _, .. }, .slice _ n _ => some (.int .i64 n)
  | some { desc := .string, .. }, .string s => some (.int .i64 s.size)
  | _, _ => none

theorem aLen_sound {P : Program} {T : TypeId → Option TI} (hT : TOk P T) {ρ : BMap} {t ty : TypeId} {x x' v : Value} (h : aLen T t x = some v) (hx : VRel ρ x x') (w : World) :
    (Builtin.len_ #[t] ty #[x']).run P w = .ok v w ∧ VRel ρ v v := by
  unfold aLen at h
  split at h
  · rename_i ht
    cases h
    obtain ⟨a, c, rfl, _⟩ := slice_le hx rfl
    exact ⟨by simp [Builtin.len_, run_underlying (hT.under ht), goInt], .int _ _⟩
  · rename_i ht
    cases h
    cases hx
    exact ⟨by simp [Builtin.len_, run_underlying (hT.under ht), goInt], .int _ _⟩
  · cases h

/-! ### copy -/
noncomputable def shortV (v : Value) (n : Nat) : Value :=
  match v with
  | .slice a _ sz => .slice a n sz
  | v => v

theorem shortV_rel {ρ : BMap} {v : Value} {a' : Option Addr} {m n cap : Nat} (h : VRel ρ v (.slice a' m cap)) (hn : n ≤ m) (h0 : 0 < n) : VRel ρ (shortV v n) (.slice a' n cap) := by
  cases h with
  | snil => omega
  | slice h hl ht => exact .slice h (by omega) ht
  | sempty => omega
  | rnil => omega
  | rnone => omega
  | rsl h hl ht => exact .rsl h (by omega) (by omega)
  | opq hl => exact .opq (by omega)
  | gsl hl => exact .gsl (by omega)

/-- Cells go from a slice into another one. -/
noncomputable def aCopy (T : TypeId → Option TI) (H : AH) (t : TypeId) (d s : Value) : Option (Value × AH) :=
  match T t with
  | some { desc := .slice e, .. } =>
    match T e, sliceLen d, sliceLen s with
    | some y, some dl, some sl =>
      match min sl dl with
      | 0 => some (.int .i64 (0 : Nat), H)
      | n + 1 =>
        match srcCells H.bs (shortV s (n + 1)) y.size, d with
        | some news, .slice (some ⟨i, off, none⟩) _ _ =>
          match lookB H.bs i with
          | some (.cells false cs) =>
            if Nat.ble (off + news.length) cs.length && news.all cellV then some (.int .i64 (n + 1 : Nat), { H with bs := setB H.bs i (.cells false (putF cs off news)) }) else none
          | _ => none
        | _, _ => none
    | _, _, _ => none
  | _ => none

theorem aCopy_sound {P : Program} {T : TypeId → Option TI} (hT : TOk P T) {B : Nat} {ρ : BMap} {H H' : AH} {w : World} {t t' ty : TypeId} {d s d' s' v : Value} (h : aCopy T H t d s = some (v, H'))
    (hH : HRel B ρ H.bs w) (hd : VRel ρ d d') (hs : VRel ρ s s') :
    ∃ w', (Builtin.copy_ #[t, t'] ty #[d', s']).run P w = .ok v w' ∧ VRel ρ v v ∧ Post B ρ H w H' ρ w' := by
  unfold aCopy at h
  split at h
  · rename_i _ _ _ e _ ht
    have hu := run_underlying (hT.under ht) w
    split at h
    · rename_i y dl sl hy hdl hsl
      obtain ⟨da, dc, rfl, hdc⟩ := slice_le hd hdl
      obtain ⟨sa, sc, rfl, hsc⟩ := slice_le hs hsl
      split at h
      · rename_i hn
        cases h
        have hn' : Nat.min sl dl = 0 := hn
        have hl : ∀ (x : Addr), (loadCells x 0).run P w = .ok #[] w := fun x => by simpa using run_loadCells_list (P := P) w x [] (by simp)
        refine ⟨w, ?_, .int _ _, Post.same hH⟩
        cases da <;> cases sa <;> simp [Builtin.copy_, hu, Builtin.lenOf, Builtin.firstCells, hT.size hy w, hn', storeCells, hl, goInt]
      · rename_i n hn
        have hn' : Nat.min sl dl = n + 1 := hn
        split at h
        · rename_i news i off _ _ hsrc
          split at h
          · rename_i cs hi
            split at h
            · rename_i hc
              simp only [Bool.and_eq_true, Nat.ble_eq] at hc
              rw [putF_eq hc.1] at h
              cases h
              have hs2 := shortV_rel hs (n := n + 1) (by have := Nat.min_le_left sl dl; omega) (by omega)
              have hsl2 : sliceLen (shortV s (n + 1)) = some (n + 1) := by
                cases s <;> first | rfl | simp [sliceLen] at hsl
              obtain ⟨bj, oo, capj, cn, he, hn1, _, hn3, hnl⟩ := srcCells_sound (P := P) hH hs2 hsrc hsl2
              cases he
              cases hd with
              | slice hρ hle hto =>
                rename_i b o tot
                obtain ⟨w', h1, h2⟩ := run_stores (P := P) hH hi hρ hn3 hc.2 hc.1
                refine ⟨w', ?_, .int _ _, h2⟩
                have h1' : (storeCells ⟨b, o + off, none⟩ cn).run P w = .ok () w' := by simpa using h1
                simp [Builtin.copy_, hu, Builtin.lenOf, Builtin.firstCells, hT.size hy w, hn', hn1, goInt, h1']
            · cases h
          · cases h
        · cases h
    · cases h
  · cases h

/-! ### a string's bytes in a new row -/
noncomputable def aToBytes (T : TypeId → Option TI) (H : AH) (src dst : TypeId) (x : Value) : Option (Value × AH) :=
  match T src, T dst, x with
  | some { desc := .string, .. }, some { desc := .slice e, .. }, .string s =>
    match T e with
    | some { desc := .int .u8, .. } => some (.slice (some ⟨H.next, 0, none⟩) s.data.toList.length 1, pushB H (.cells false (strCells s)))
    | _ => none
  | _, _, _ => none

theorem aToBytes_next {T : TypeId → Option TI} {H H' : AH} {src dst : TypeId} {x v : Value} (h : aToBytes T H src dst x = some (v, H')) : H.next ≤ H'.next := by
  unfold aToBytes at h
  split at h
  · split at h
    · cases h; exact Nat.le_succ _
    · cases h
  · cases h

theorem aToBytes_sound {P : Program} {T : TypeId → Option TI} (hT : TOk P T) {B : Nat} {ρ : BMap} {H H' : AH} {w : World} {src dst : TypeId} {x x' v : Value} (h : aToBytes T H src dst x = some (v, H'))
    (hH : HRel B ρ H.bs w) (hf : Free ρ H.next H'.next) (hx : VRel ρ x x') :
    ∃ ρ' w' u, (convert src dst x').run P w = .ok u w' ∧ VRel ρ' v u ∧ Post B ρ H w H' ρ' w' := by
  unfold aToBytes at h
  split at h
  · rename_i _ _ _ e _ s hs hd
    split at h
    · rename_i _ _ _ _ he
      cases h
      cases hx
      have hus := run_underlying (hT.under hs)
      have hud := run_underlying (hT.under hd)
      have hue := run_underlying (hT.under he)
      have hge := grownCap_ge w s.size 0 e
      have hsz : s.size = s.data.toList.length := by rw [Array.length_toList]; rfl
      have hrun := run_bytes_of_string (P := P) w src dst e s (hT.under hs) (hT.under hd) (hT.under he)
      have hCd : bytesRow s (grownCap w s.size 0 e) = (s.data.map fun b => (Value.int .u8 b.toNat)) ++ Array.replicate (grownCap w s.size 0 e - s.size) (Value.int .u8 0) := rfl
      generalize hC : bytesRow s (grownCap w s.size 0 e) = C at hrun hCd
      have hCs : C.size = s.size + (grownCap w s.size 0 e - s.size) := by
        rw [hCd]
        simp only [Array.size_append, Array.size_map, Array.size_replicate]
        rfl
      have hpost := post_push (H := H) hH.drew (fun q a b => hf q a b) (.cells C e (C.size, C.size + 1)) (.cells false (strCells s)) C.size
        ⟨C, e, (C.size, C.size + 1), alloc_new _ _, fun j u hj => by
          have hlt : j < s.data.toList.length := by
            have := (List.getElem?_eq_some_iff.1 hj).1
            simpa [strCells] using this
          refine ⟨u, ?_, ?_⟩
          · rw [hCd, Nat.zero_add, Array.getElem?_append_left (by simpa using hlt)]
            have : (strCells s)[j]? = some u := hj
            rw [← this]
            simp [strCells]
          · obtain ⟨b, hb⟩ : ∃ b : UInt8, u = .int .u8 b.toNat := by
              have := List.mem_of_getElem? hj
              simp only [strCells, List.mem_map] at this
              obtain ⟨b, _, rfl⟩ := this
              exact ⟨b, rfl⟩
            rw [hb]
            exact .int _ _, by
          simp only [Bool.false_eq_true, if_false]
          exact ⟨⟨hH.hB, .inr (by simp), by simp⟩, by simp only [strCells, List.length_map]; omega⟩⟩
      refine ⟨_, _, .slice (some ⟨w.heap.size, 0, none⟩) s.size (grownCap w s.size 0 e), ?_, ?_, ⟨hpost.ext, hpost.out, hpost.rel, (Below.refl B w).drew.trans hpost.below⟩⟩
      · exact hrun
      · have := VRel.slice (ρ := bmapAt ρ H.next w.heap.size C.size) (off := 0) (len := s.size) (sz := 1) (cap := grownCap w s.size 0 e) (bmapAt_self ρ H.next w.heap.size _) (by omega) (by omega)
        rw [← hsz]
        exact this
    · cases h
  · cases h

/-! ### bytes turned to their own type: the row is marked behind its last cell -/
noncomputable def aMark (T : TypeId → Option TI) (H : AH) (src dst : TypeId) (x : Value) : Option (Value × AH) :=
  match T src, x with
  | some { desc := .slice e, .. }, .slice (some ⟨i, off, none⟩) len sz =>
    match T e, lookB H.bs i with
    | some { desc := .int .u8, .. }, some (.cells false cs) =>
      if Nat.beq src dst then some (.slice (some ⟨i, off, none⟩) len sz, { H with bs := setB H.bs i (.cells false cs) }) else none
    | _, _ => none
  | _, _ => none

theorem aMark_next {T : TypeId → Option TI} {H H' : AH} {src dst : TypeId} {x v : Value} (h : aMark T H src dst x = some (v, H')) : H'.next = H.next := by
  unfold aMark at h
  split at h
  · split at h
    · split at h
      · cases h; rfl
      · cases h
    · cases h
  · cases h

theorem aMark_sound {P : Program} {T : TypeId → Option TI} (hT : TOk P T) {B : Nat} {ρ : BMap} {H H' : AH} {w : World} {src dst : TypeId} {x x' v : Value} (h : aMark T H src dst x = some (v, H'))
    (hH : HRel B ρ H.bs w) (hx : VRel ρ x x') :
    ∃ w' u, (convert src dst x').run P w = .ok u w' ∧ VRel ρ v u ∧ Post B ρ H w H' ρ w' := by
  unfold aMark at h
  split at h
  · rename_i _ _ _ e _ i off len sz hs
    split at h
    · rename_i _ _ _ _ cs he hl
      split at h
      · rename_i hsd
        have := Nat.eq_of_beq_eq_true hsd
        subst this
        cases h
        obtain ⟨z, hz, hr⟩ := hH.blk i _ hl
        have hrel := hx
        cases hx with
        | slice hρ hle ht =>
          rename_i b o tot cap
          rw [hρ] at hz; cases hz
          obtain ⟨ccs, el, fz, g1, g2, g3, g4⟩ := hr
          simp only [Bool.false_eq_true, if_false, Option.getD_none] at g1 g2 g3 g4
          obtain ⟨gB, gf, gs⟩ := g3
          have hsh : w.shape? b = some (el, ccs.size) := by simp only [World.shape?]; rw [g1]
          refine ⟨w.freeze ⟨b, ccs.size, none⟩ 1, _, ?_, hrel, Ext.refl ρ, fun _ _ => rfl, ?_, Lib.below_freeze (Below.refl B w) (by simpa using gB) 1⟩
          · have hus := run_underlying (hT.under hs)
            have hue := run_underlying (hT.under he)
            simp [convert, hus, hue, markStringish, hsh]
          · have hself : (w.freeze ⟨b, ccs.size, none⟩ 1).heap[b]? = some (.cells ccs el (if fz.1 == fz.2 then (ccs.size, ccs.size + 1) else (min fz.1 ccs.size, max fz.2 (ccs.size + 1)))) := by
              simp [World.freeze, Array.getElem?_modify, g1]
            refine hH.change hl rfl rfl hρ (by simp [World.freeze]) (fun j hj => ?_) ⟨ccs, el, _, hself, g2, ?_, g4⟩
            · have : ¬ b = j := fun e => hj e.symm
              simp [World.freeze, Array.getElem?_modify, this]
            · simp only [Bool.false_eq_true, if_false]
              refine ⟨gB, .inr ?_, gs⟩
              split
              · exact gs
              · rename_i hne
                rcases gf with rfl | gf
                · simp at hne
                · simp only
                  omega
      · cases h
    · cases h
  · cases h

/-! ### append of new cells -/
noncomputable def aAppendZ (T : TypeId → Option TI) (H : AH) (t ti : TypeId) (s x : Value) : Option (Value × AH) :=
  match s, T t, T ti, natV x with
  | .slice none 0 0, some { desc := .slice e, .. }, some { desc := .int _, .. }, some (n + 1) =>
    match T e with
    | some y => if Nat.ble (n + 1) 65536 && Nat.ble ((n + 1) * y.bytes) 1000000000 && !Nat.beq y.size 0 then
        some (.slice (some ⟨H.next, 0, none⟩) (n + 1) y.size, pushB H (.cells false (Builtin.zeroCells y.zero.cells (n + 1)).toList)) else none
    | none => none
  | _, _, _, _ => none

theorem aAppendZ_sound {P : Program} {T : TypeId → Option TI} (hT : TOk P T) {B : Nat} {ρ : BMap} {H H' : AH} {w : World} {t ti ty : TypeId} {s x s' v : Value} (h : aAppendZ T H t ti s x = some (v, H'))
    (hH : HRel B ρ H.bs w) (hf : Free ρ H.next H'.next) (hs : VRel ρ s s') :
    ∃ ρ' w' u, (Builtin.append_ #[t, ti] ty #[s', x]).run P w = .ok u w' ∧ VRel ρ' v u ∧ Post B ρ H w H' ρ' w' := by
  unfold aAppendZ at h
  split at h
  · rename_i _ _ _ e _ _ _ _ _ _ n ht hti hx
    obtain ⟨k, rfl⟩ := natV_spec hx
    cases hs
    split at h
    · rename_i y hy
      split at h
      · rename_i hc
        simp only [Bool.and_eq_true, Nat.ble_eq, Bool.not_eq_true'] at hc
        obtain ⟨⟨hc1, hc2⟩, hc3⟩ := hc
        have hsz : ¬ y.size = 0 := fun e => by rw [e] at hc3; simp at hc3
        cases h
        obtain ⟨⟨i, hi, h1, h2, h3⟩, _⟩ := hT e y hy
        have hu := run_underlying (hT.under ht) w
        have hui := run_underlying (hT.under hti) w
        have hui' := run_underlying (hT.under hti) w.drew
        have hfit := growslice_fits (need := n + 1) (old := 0) (bytes := y.bytes) (by omega) (by omega)
        have h48 : ¬ (281474976710656 < Builtin.nextslicecap (n + 1) 0 * y.bytes) := by omega
        have hw : IntKind.i64.wrap ((n : Int) + 1) = (n : Int) + 1 := by simpa using wrap_small (n + 1) hc1
        have hzs : y.zero.cells.size = y.size := (hT e y hy).2.2.2.1
        have hge := grownCap_ge w (n + 1) 0 e
        have hb48 : ¬ ((281474976710656 : Int) < ((n : Int) + 1) * (y.bytes : Int)) := by
          have : (((n + 1) * y.bytes : Nat) : Int) ≤ 1000000000 := Int.ofNat_le.2 hc2
          rw [Int.natCast_mul] at this
          simp only [Int.natCast_add, Int.cast_ofNat_Int] at this
          omega
        have hpost := post_row (H := H) hH.drew (fun q a b => hf q a b) (Builtin.zeroCells y.zero.cells (n + 1)).toList (Builtin.zeroCells y.zero.cells (n + 1) ++ Builtin.zeroCells y.zero.cells (grownCap w (n + 1) 0 e - (n + 1))) e
          (by simp) (fun q u hq => by
            have hq' : (Builtin.zeroCells y.zero.cells (n + 1))[q]? = some u := by simpa using hq
            have hlt : q < (Builtin.zeroCells y.zero.cells (n + 1)).size := (Array.getElem?_eq_some_iff.1 hq').1
            refine ⟨u, ?_, ?_⟩
            · rw [Array.getElem?_append_left hlt]; exact hq'
            · have := (arel_rep (arel_refl_zero hT hy ρ) ((n + 1) * y.zero.cells.size)).2 q u u hq' hq'
              exact this)
        refine ⟨_, _, .slice (some ⟨w.heap.size, 0, none⟩) (n + 1) (grownCap w (n + 1) 0 e), ?_, ?_, ⟨hpost.ext, hpost.out, hpost.rel, (Below.refl B w).drew.trans hpost.below⟩⟩
        · have hne : ¬ ((n + 1) * y.size = 0) := by
            intro e
            rcases Nat.mul_eq_zero.1 e with e | e
            · omega
            · exact hsz e
          have hb48' : ¬ ((281474976710656 : Int) < ((n + 1 : Nat) : Int) * (y.bytes : Int)) := by
            simpa using hb48
          have h0' : ¬ ((n : Int) + 1 ≤ 0) := by omega
          have h63 : ¬ (9223372036854775807 < max ((n : Int) + 1) 0) := by omega
          have h00 : ¬ ((n : Int) + 1 < 0) := by omega
          have hnn : ((n : Int) + 1).toNat = n + 1 := by omega
          simp [Builtin.append_, hu, hui, hT.size hy w, typeInfo, hi, h2, h48, Question.forced, zeroValue, h3, Builtin.firstCells, newRow, grownCap, asInt, asIntOf, hne, hw, hb48, h63, h00, hnn, h0']
        · have := VRel.slice (ρ := bmapAt ρ H.next w.drew.heap.size (Builtin.zeroCells y.zero.cells (n + 1) ++ Builtin.zeroCells y.zero.cells (grownCap w (n + 1) 0 e - (n + 1))).size) (off := 0) (len := n + 1) (sz := y.size) (cap := grownCap w (n + 1) 0 e) (bmapAt_self ρ H.next w.drew.heap.size _) hge (by
            simp only [Array.size_append, zeroCells_size, hzs]
            rw [← Nat.add_mul]; simp only [Nat.zero_add]; exact Nat.mul_le_mul_right _ (by omega))
          simpa using this
      · cases h
    · cases h
  · cases h

noncomputable def aAppendW (T : TypeId → Option TI) (H : AH) (t ti : TypeId) (s x : Value) : Option (Value × AH) :=
  match aAppendS T H t ti s x with
  | some r => some r
  | none => aAppendZ T H t ti s x

theorem aAppendW_next {T : TypeId → Option TI} {H H' : AH} {t ti : TypeId} {s x v : Value} (h : aAppendW T H t ti s x = some (v, H')) : H.next ≤ H'.next := by
  unfold aAppendW at h
  split at h
  · rename_i r hr
    cases h
    unfold aAppendS at hr
    split at hr
    · split at hr
      · cases hr; exact Nat.le_refl _
      · split at hr
        · split at hr
          · split at hr
            · cases hr; exact Nat.le_succ _
            · cases hr
          · cases hr
        · cases hr
      · cases hr
    · cases hr
  · unfold aAppendZ at h
    split at h
    · split at h
      · split at h
        · cases h; exact Nat.le_succ _
        · cases h
      · cases h
    · cases h

theorem aAppendW_sound {P : Program} {T : TypeId → Option TI} (hT : TOk P T) {B : Nat} {ρ : BMap} {H H' : AH} {w : World} {t ti : TypeId} {ty : TypeId} {s x s' x' v : Value} (h : aAppendW T H t ti s x = some (v, H'))
    (hH : HRel B ρ H.bs w) (hf : Free ρ H.next H'.next) (hs : VRel ρ s s') (hx : VRel ρ x x') :
    ∃ ρ' w' u, (Builtin.append_ #[t, ti] ty #[s', x']).run P w = .ok u w' ∧ VRel ρ' v u ∧ Post B ρ H w H' ρ' w' := by
  unfold aAppendW at h
  split at h
  · rename_i r hr
    cases h
    exact aAppendS_sound hT hr hH hf hs hx
  · have hn : ∃ n, natV x = some n := by
      unfold aAppendZ at h
      split at h
      · exact ⟨_, ‹natV x = _›⟩
      · cases h
    obtain ⟨n, hn⟩ := hn
    have e1 := natV_rel hn hx
    subst e1
    exact aAppendZ_sound hT h hH hf hs

end Go.Proofs.Ytjginpeoblilpaa
