/-
  What is proved: nothing of the program. This text joins the operations on memory into one function.
-/
import Derived.Test.YtkoppbbmdjhaoaaEvH
namespace Go.Proofs.Ytkoppbbmdjhaoaa
open Go.RowKit

def u8V : Value → Option Int
  | .int .u8 n => some n
  | _ => none

def bytesOf (ns : List Int) : ByteArray := ns.foldl (fun r n => r.push (UInt8.ofNat n.toNat)) ByteArray.empty

def aBytes (T : TypeId → Option TI) (H : AH) (src dst : TypeId) (x : Value) : Option Value :=
  match T src, T dst with
  | some { desc := .slice e, .. }, some { desc := .string, .. } =>
    match T e with
    | some { desc := .int .u8, .. } =>
      match x with
      | .slice none 0 0 => some (.string .empty)
      | .slice (some ⟨i, off, none⟩) len _ =>
        match lookB H.bs i with
        | some (.cells _ cs) => match takeCells cs off len with
          | some l => (mapO u8V l).map fun ns => .string (bytesOf ns)
          | none => none
        | _ => none
      | _ => none
    | _ => none
  | _, _ => none

theorem u8_list {ρ : BMap} : ∀ {l c : List Value} {ns : List Int}, mapO u8V l = some ns → LRel ρ l c.toArray → c = ns.map (Value.int .u8) := by
  intro l c ns h hr
  obtain ⟨h1, h2⟩ := mapO_spec h
  have hl : l.length = c.length := by simpa using hr.1
  apply List.ext_getElem?
  intro j
  rcases Nat.lt_or_ge j c.length with hj | hj
  · have hj' : j < l.length := by omega
    obtain ⟨b, hb, hu⟩ := h2 j l[j] (List.getElem?_eq_getElem hj')
    have hv := hr.2 j l[j] c[j] (List.getElem?_eq_getElem hj') (by simp [hj])
    have e : l[j] = .int .u8 b := by
      revert hu
      cases l[j] <;> simp [u8V]
      rename_i k n
      cases k <;> simp
    rw [e] at hv
    generalize hcj : c[j] = cj at hv
    cases hv
    simp [hb, hcj, hj]
  · have : ns.length ≤ j := by omega
    rw [List.getElem?_eq_none hj, List.getElem?_eq_none (by simpa using this)]

theorem aBytes_sound {P : Program} {T : TypeId → Option TI} (hT : TOk P T) {B : Nat} {ρ : BMap} {H : AH} {w : World} {src dst : TypeId} {x x' v : Value} (h : aBytes T H src dst x = some v) (hH : HRel B ρ H.bs w) (hx : VRel ρ x x') :
    (convert src dst x').run P w = .ok v w ∧ VRel ρ v v := by
  unfold aBytes at h
  split at h
  · rename_i _ _ _ e _ _ _ hs hd
    split at h
    · rename_i _ _ _ he
      have hcv := fun a l c => run_convert_bytes_string (P := P) w src dst e a l c (hT.under hs) (hT.under he) (hT.under hd)
      split at h
      · cases h
        cases hx
        exact ⟨by rw [hcv]; simp [Conv.bytesToString], .string _⟩
      · rename_i i off len sz
        split at h
        · rename_i ro cs hi
          split at h
          · rename_i l hl
            simp only [Option.map_eq_some_iff] at h
            obtain ⟨ns, hns, rfl⟩ := h
            cases hx with
            | slice hρ _ _ =>
              rename_i b o tot cap _ _
              obtain ⟨c, h1, _, h3⟩ := run_cells (P := P) hH hi hρ hl
              have hc := u8_list hns h3
              subst hc
              refine ⟨?_, .string _⟩
              rw [hcv, run_bytesToString w _ len cap ns h1]
              rfl
          · cases h
        · cases h
      · cases h
    · cases h
  · cases h

def aSliceArr (T : TypeId → Option TI) (H : AH) (t : TypeId) (x : Value) (lo hi : Option Value) : Option Value :=
  match x with
  | .pointer (some ⟨i, off, none⟩) =>
    match T t, lookB H.bs i with
    | some { desc := .array n e, .. }, some (.cells _ cs) =>
      match T e with
      | some y =>
        match bnd lo 0, bnd hi n with
        | some l, some h =>
          if Nat.ble (off + n * y.size) cs.length && Nat.ble l h && Nat.ble h n then
            (if Nat.beq l 0 then some (.slice (some ⟨i, off, none⟩) h y.size) else if Nat.beq h l then some (.slice (some ⟨0, 0, some 0⟩) 0 y.size) else some (.slice (some ⟨i, off + l * y.size, none⟩) (h - l) y.size))
          else none
        | _, _ => none
      | none => none
    | _, _ => none
  | _ => none

theorem aSliceArr_sound {P : Program} {T : TypeId → Option TI} (hT : TOk P T) {B : Nat} {ρ : BMap} {H : AH} {w : World} {t : TypeId} {x v x' : Value} {lo hi : Option Value} (h : aSliceArr T H t x lo hi = some v) (hH : HRel B ρ H.bs w) (hx : VRel ρ x x') :
    ∃ u, (Instr.sliceAt t x' lo hi none).run P w = .ok u w ∧ VRel ρ v u := by
  unfold aSliceArr at h
  split at h
  · rename_i i off
    split at h
    · rename_i _ _ _ n e ro cs ht hi'
      split at h
      · rename_i y hy
        split at h
        · rename_i l hh hlo hhi
          split at h
          · rename_i hc
            simp only [Bool.and_eq_true, Nat.ble_eq] at hc
            obtain ⟨⟨h0, h1⟩, h2⟩ := hc
            cases hx with
            | ptr hρ =>
              rename_i b o tot
              have htot : cs.length ≤ tot := by
                obtain ⟨z, hz, _, _, _, _, _, _, g⟩ := hH.blk i _ hi'
                rw [hρ] at hz; cases hz
                exact g
              refine ⟨.slice (some (if n = l then ⟨b, o + off, none⟩ else (⟨b, o + off, none⟩ : Addr).add (l * y.size))) (hh - l) (n - l), ?_, ?_⟩
              · simp only [Instr.sliceAt, Sem.run_bind, run_underlying (hT.under ht) w, Result.andThen_ok, Instr.sureAddr, Sem.run_pure, run_bounds hlo hhi h1 h2, hT.size hy w]
              · split at h
                · rename_i hl0
                  have h0' : l = 0 := Nat.eq_of_beq_eq_true hl0
                  subst h0'
                  cases h
                  have e1 : (if n = 0 then (⟨b, o + off, none⟩ : Addr) else (⟨b, o + off, none⟩ : Addr).add (0 * y.size)) = ⟨b, o + off, none⟩ := by
                    split <;> simp [Addr.add]
                  rw [e1]
                  exact .slice hρ (by omega) (by simp; omega)
                · split at h
                  · rename_i hl1
                    have h0' : hh = l := Nat.eq_of_beq_eq_true hl1
                    subst h0'
                    cases h
                    simp only [Nat.sub_self]
                    exact .sempty
                  · rename_i hn0 hnl
                    cases h
                    have hl0 : ¬ l = 0 := fun e => hn0 (by simp [e])
                    have hlh : ¬ hh = l := fun e => hnl (by simp [e])
                    have hc : ¬ n = l := by omega
                    rw [if_neg hc, addr_add, Nat.add_assoc]
                    refine .slice hρ (by omega) ?_
                    have : l * y.size + (n - l) * y.size = n * y.size := by rw [← Nat.add_mul]; congr 1; omega
                    omega
          · cases h
        · cases h
      · cases h
    · cases h
  · cases h

def aMake (T : TypeId → Option TI) (H : AH) (t : TypeId) (l c : Value) : Option (Value × AH) :=
  match natV l, natV c, T t with
  | some n, some m, some { desc := .slice e, .. } =>
    match T e with
    | some y => if Nat.ble n m && Nat.ble m 65536 && Nat.ble (y.bytes * m) 1000000000 then
        some (.slice (some ⟨H.next, 0, none⟩) n y.size, pushB H (.cells false ((Array.range (m * y.size)).map ((if m * y.size = 0 then #[] else y.zero.cells)[· % (if m * y.size = 0 then #[] else y.zero.cells).size]!)).toList)) else none
    | none => none
  | _, _, _ => none

theorem wrap_small (n : Nat) (h : n ≤ 65536) : IntKind.i64.wrap (n : Int) = n := by
  rw [← wrapI_eq]
  simp only [wrapI]
  have : (n : Int) % 18446744073709551616 = n := by omega
  rw [this]
  have : ¬ ((n : Int) ≥ 9223372036854775808) := by omega
  simp [this]

theorem aMake_sound {P : Program} {T : TypeId → Option TI} (hT : TOk P T) {B : Nat} {ρ : BMap} {H H' : AH} {w : World} {t : TypeId} {l c v : Value} (h : aMake T H t l c = some (v, H')) (hH : HRel B ρ H.bs w) (hf : Free ρ H.next H'.next) :
    Runs P B ρ H w (do pure (.value (← Instr.makeSlice t l c))) v H' := by
  unfold aMake at h
  split at h
  · rename_i n m _ _ _ e hn hm ht
    obtain ⟨k1, rfl⟩ := natV_spec hn
    obtain ⟨k2, rfl⟩ := natV_spec hm
    split at h
    · rename_i y hy
      split at h
      · rename_i hc
        simp only [Bool.and_eq_true, Nat.ble_eq] at hc
        obtain ⟨⟨h1, h2⟩, h3⟩ := hc
        cases h
        have hz : ARel ρ (if m * y.size = 0 then #[] else y.zero.cells) (if m * y.size = 0 then #[] else y.zero.cells) := by
          split
          · exact ⟨rfl, fun j a b ha => by simp at ha⟩
          · exact arel_refl_zero hT hy ρ
        have harr := arel_rep hz (m * y.size)
        obtain ⟨hrow, hpost⟩ := run_row (P := P) hH hf harr.list e
        obtain ⟨⟨i, hi, i1, i2, i3⟩, _⟩ := hT e y hy
        refine ⟨bmapAt ρ H.next w.heap.size ((Array.range (m * y.size)).map ((if m * y.size = 0 then #[] else y.zero.cells)[· % (if m * y.size = 0 then #[] else y.zero.cells).size]!)).size, _, _, ?_, .inl ⟨.slice (some ⟨w.heap.size, 0, none⟩) n m, rfl, ?_⟩, hpost⟩
        · have c0 : ¬ ((m : Int) < 0) := by omega
          have c1 : ¬ ((281474976710656 : Int) < (y.bytes : Int) * (m : Int)) := by
            have : ((y.bytes * m : Nat) : Int) ≤ 1000000000 := Int.ofNat_le.2 h3
            rw [Int.natCast_mul] at this
            omega
          have c2 : ¬ ((n : Int) < 0) := by omega
          have c3 : ¬ ((m : Int) < (n : Int)) := by omega
          have hti : (typeInfo e).run P w = .ok i w := by simp [typeInfo, hi]
          simp only [Instr.makeSlice, Sem.run_bind, run_underlying (hT.under ht) w, Result.andThen_ok, asInt, asIntOf, Sem.run_pure, hti, i2, wrap_small m h2, wrap_small n (by omega)]
          simp only [gt_iff_lt, show ((2 : Int) ^ 48) = 281474976710656 from rfl, c0, c1, c2, c3, decide_false, Bool.or_false, Bool.false_eq_true, if_false, Sem.run_bind, run_askRoom, Result.andThen_ok, hT.size hy w, Int.toNat_natCast]
          by_cases h0 : m * y.size = 0
          · simp only [h0, if_true] at hrow ⊢
            simp only [Sem.run_bind, Sem.run_pure, Result.andThen_ok, hrow]
          · simp only [h0, if_false] at hrow ⊢
            simp only [Sem.run_bind, hT.zeroV hy w, Sem.run_pure, Result.andThen_ok, hrow]
        · have := VRel.slice (ρ := bmapAt ρ H.next w.heap.size ((Array.range (m * y.size)).map ((if m * y.size = 0 then #[] else y.zero.cells)[· % (if m * y.size = 0 then #[] else y.zero.cells).size]!)).size) (off := 0) (len := n) (sz := y.size) (cap := m) (bmapAt_self ρ H.next w.heap.size _) h1 (by simp)
          simpa using this
      · cases h
    · cases h
  · cases h

def aLen (T : TypeId → Option TI) (t : TypeId) (x : Value) : Option Value :=
  match T t, x with
  | some { desc := .slice _, .. }, .slice _ n _ => some (.int .i64 n)
  | some { desc := .string, .. }, .string s => some (.int .i64 s.size)
  | _, _ => none

theorem aLen_sound {P : Program} {T : TypeId → Option TI} (hT : TOk P T) {ρ : BMap} {t ty : TypeId} {x x' v : Value} (h : aLen T t x = some v) (hx : VRel ρ x x') (w : World) :
    (Builtin.len_ #[t] ty #[x']).run P w = .ok v w ∧ VRel ρ v v := by
  unfold aLen at h
  split at h
  · rename_i ht
    cases h
    obtain ⟨a, c, rfl, _⟩ := slice_le hx rfl
    exact ⟨by simp [Builtin.len_, run_underlying (hT.under ht), goInt], .int _ _⟩
  · rename_i ht
    cases h
    cases hx
    exact ⟨by simp [Builtin.len_, run_underlying (hT.under ht), goInt], .int _ _⟩
  · cases h

end Go.Proofs.Ytkoppbbmdjhaoaa
