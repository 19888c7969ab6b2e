/-
  What is proved: nothing of the program. This text holds a whole region whose order is drawn.
-/
import Derived.Test.YtjginpeoblilpaaEvN
namespace Go.Proofs.Ytjginpeoblilpaa
open Go.RowKit
set_option linter.unusedSimpArgs false
set_option linter.unusedVariables false

noncomputable def cnt (D : Nat → Bool) : Nat → Nat
  | 0 => 0
  | n + 1 => cnt D n + (if D n then 0 else 1)

theorem cnt_all (D : Nat → Bool) : ∀ n, cnt D n = 0 → ∀ i, i < n → D i = true
  | 0, _, i, hi => by omega
  | n + 1, h, i, hi => by
    simp only [cnt] at h
    by_cases e : i = n
    · subst e
      cases hd : D i with
      | true => rfl
      | false => rw [hd] at h; simp at h
    · exact cnt_all D n (by omega) i (by omega)

theorem cnt_same {D D' : Nat → Bool} : ∀ n, (∀ i, i < n → D i = D' i) → cnt D n = cnt D' n
  | 0, _ => rfl
  | n + 1, h => by simp only [cnt]; rw [cnt_same n fun i hi => h i (by omega), h n (by omega)]

theorem cnt_add (D : Nat → Bool) (i : Nat) (hi : D i = false) : ∀ n, i < n → cnt (add1 D i) n + 1 = cnt D n
  | 0, h => by omega
  | n + 1, h => by
    simp only [cnt]
    by_cases e : i = n
    · subst e
      rw [cnt_same i (D := add1 D i) (D' := D) fun j hj => by simp [add1, show ¬ j = i by omega]]
      simp [add1, hi]
    · have := cnt_add D i hi n (by omega)
      have e' : add1 D i n = D n := by simp [add1, show ¬ n = i from fun h => e h.symm]
      rw [e']
      omega

theorem cnt_none : ∀ n, cnt (fun _ => false) n = n
  | 0 => rfl
  | n + 1 => by simp [cnt, cnt_none n]

section
variable {P : Program} {T : TypeId → Option TI} {call : Value → List Value → AH → Option (Value × AH)} {ops : Array Oper} {tm : Tm} {bs0 : List (Nat × ABlk)} {n0 nE : Nat} {rs : List DR}
  {B : Nat} {ρ0 : BMap} {w0 : World} {a0 : Act}

theorem inv_congr {D D' : Nat → Bool} (h : ∀ i, D i = D' i) {ρ : BMap} {a : Act} {w : World} (hI : Inv T call ops tm bs0 n0 nE rs B ρ0 w0 a0 D ρ a w) : Inv T call ops tm bs0 n0 nE rs B ρ0 w0 a0 D' ρ a w := by
  have : D = D' := funext h
  rw [← this]; exact hI

theorem draw_go (hT : TOk P T) (hC : CallOK P call) (hS : statOK ops = true) (hF : Facts T call ops tm bs0 n0 (befs ops.toList) rs) (hdyn : dynOK (befs ops.toList) rs tm.n = true) (hlen : rs.length = ops.size) (hE : nE = topHi rs n0)
    (h0 : HRel B ρ0 bs0 w0) (b : Frame) (k : List Item) (cs : List Frame) : ∀ (fuel t : Nat) (listed : Array Bool) (ρ : BMap) (a : Act) (w : World), listed.size = ops.size → cnt (fun i => listed.getD i false) ops.size ≤ fuel →
    Inv T call ops tm bs0 n0 nE rs B ρ0 w0 a0 (fun i => listed.getD i false) ρ a w →
    ∃ ρ' w' a' D', Steps P (lone (b.atR a (.inRegion ops (Region.linearise.go .any ops fuel t listed []) :: k)) cs w) (lone (b.atR a' (.inRegion ops [] :: k)) cs w') ∧ (∀ i, i < ops.size → D' i = true) ∧ Inv T call ops tm bs0 n0 nE rs B ρ0 w0 a0 D' ρ' a' w'
  | 0, t, listed, ρ, a, w, hsz, hc, hI => by
    refine ⟨ρ, w, a, _, ?_, cnt_all _ _ (by omega), hI⟩
    simp only [Region.linearise.go, List.reverse_nil]
    exact .refl _ _
  | fuel + 1, t, listed, ρ, a, w, hsz, hc, hI => by
    simp only [Region.linearise.go]
    change ∃ ρ' w' a' D', Steps P (lone (b.atR a (.inRegion ops (match (Region.ready .any ops listed)[t % (Region.ready .any ops listed).length]? with
      | some i => Region.linearise.go .any ops fuel (t / (Region.ready .any ops listed).length) (listed.setIfInBounds i true) [i]
      | none => [].reverse) :: k)) cs w) (lone (b.atR a' (.inRegion ops [] :: k)) cs w') ∧ _
    cases hi : (Region.ready .any ops listed)[t % (Region.ready .any ops listed).length]? with
    | none =>
      have hnil : Region.ready .any ops listed = [] := by
        cases hr : Region.ready .any ops listed with
        | nil => rfl
        | cons x xs =>
          rw [hr] at hi
          have hlt : t % (x :: xs).length < (x :: xs).length := Nat.mod_lt _ (by simp)
          rw [List.getElem?_eq_getElem hlt] at hi
          cases hi
      have hall : ∀ i, i < ops.size → listed.getD i false = true := by
        intro i
        induction i using Nat.strongRecOn with
        | _ i ih =>
          intro hlt
          cases hd : listed.getD i false with
          | true => rfl
          | false =>
            exfalso
            have hmem : i ∈ Region.ready .any ops listed := by
              rw [mem_ready]
              refine ⟨?_, ops[i], Array.getElem?_eq_getElem hlt, ?_⟩
              · have h1 : i < listed.size := by omega
                have : listed.getD i true = listed.getD i false := by simp [h1]
                rw [this]; exact hd
              · intro e he hb
                have hon := (statOK_spec hS).1 i ops[i] (Array.getElem?_eq_getElem hlt) e (by simpa using he) hb
                exact ih e.on hon (by omega)
            rw [hnil] at hmem
            cases hmem
      exact ⟨ρ, w, a, _, .refl _ _, hall, hI⟩
    | some i =>
      simp only []
      rw [linearise_go_acc, List.reverse_singleton, List.singleton_append]
      have hmem := List.mem_of_getElem? hi
      rw [mem_ready] at hmem
      obtain ⟨hun, o, ho, hpre⟩ := hmem
      have hlt : i < ops.size := (Array.getElem?_eq_some_iff.1 ho).1
      have h1 : i < listed.size := by omega
      have hun' : listed.getD i false = false := by
        have : listed.getD i true = listed.getD i false := by simp [h1]
        rw [← this]; exact hun
      obtain ⟨ρ1, w1, a1, st1, hI1⟩ := draw_step hT hC hS hF hdyn hlen hE h0 hI ho (fun e he hb => hpre e (by simpa using he) hb) hun' b k cs (Region.linearise.go .any ops fuel (t / (Region.ready .any ops listed).length) (listed.setIfInBounds i true) [])
      have hD : ∀ j, add1 (fun i => listed.getD i false) i j = (listed.setIfInBounds i true).getD j false := by
        intro j
        by_cases e : j = i
        · subst e
          simp [add1, h1]
        · have e' : ¬ i = j := fun h => e h.symm
          simp only [add1, e, if_false]
          exact (getD_set_ne false e').symm
      obtain ⟨ρ2, w2, a2, D2, st2, hall, hI2⟩ := draw_go hT hC hS hF hdyn hlen hE h0 b k cs fuel (t / (Region.ready .any ops listed).length) (listed.setIfInBounds i true) ρ1 a1 w1 (by simpa using hsz) (by
        have hcc := cnt_add (fun i => listed.getD i false) i hun' ops.size hlt
        rw [← cnt_same ops.size fun j _ => hD j]
        omega) (inv_congr hD hI1)
      exact ⟨ρ2, w2, a2, D2, st1.trans st2, hall, hI2⟩

end

noncomputable def evDraw (T : TypeId → Option TI) (call : Value → List Value → AH → Option (Value × AH)) (ops : Array Oper) (A : AF) (H : AH) : Option (AF × AH) :=
  if statOK ops && decrK H.bs then
    match drRun T call ops A.tm H.bs (befs ops.toList) ops.toList 0 [] H.next with
    | some (rs, next) => if dynOK (befs ops.toList) rs A.tm.n then some ({ A with tm := finT A.tm rs }, { next, bs := wheap H.bs rs }) else none
    | none => none
  else none

theorem tv_nothing (tm : Tm) (t : Nat) : ∀ (rs : List DR), tv tm (fun _ => false) rs t = tm.get t
  | [] => rfl
  | r :: rs => by rw [tv_cons, tv_nothing tm t rs]; simp

theorem evDraw_sound {P : Program} {T : TypeId → Option TI} (hT : TOk P T) {call : Value → List Value → AH → Option (Value × AH)} (hC : CallOK P call) (hmix : P.follows .mixedOrders = true) {ops : Array Oper} {A A' : AF} {H H' : AH} (h : evDraw T call ops A H = some (A', H')) :
    H.next ≤ H'.next ∧ ∀ (B : Nat) (ρ : BMap) (w : World) (b : Frame) (a : Act) (k : List Item) (cs : List Frame) (id : Nat), FRel ρ A a → HRel B ρ H.bs w → Free ρ H.next H'.next →
      ∃ ρ' w' a', Steps P (lone (b.atR a (.code (.region id ops true) :: k)) cs w) (lone (b.atR a' (.inRegion ops [] :: k)) cs w') ∧ FRel ρ' A' a' ∧ Post B ρ H w H' ρ' w' := by
  unfold evDraw at h
  split at h
  · rename_i hS0
    simp only [Bool.and_eq_true] at hS0
    obtain ⟨hS, hdk⟩ := hS0
    split at h
    · rename_i rs next hrun
      split at h
      · rename_i hdyn
        cases h
        obtain ⟨hF, hlen, hnext⟩ := drRun_facts T call ops A.tm H.bs H.next ops.toList 0 [] H.next rs next hrun rfl (fun j o hj => by simpa using hj) rfl trivial
        have hlen' : rs.length = ops.size := by simpa using hlen
        obtain ⟨htop0, htop⟩ := facts_top hT hC hF
        refine ⟨by show H.next ≤ next; omega, fun B ρ w b a k cs id hA hH hf => ?_⟩
        have hf' : Free ρ H.next next := hf
        have hI0 : Inv T call ops A.tm H.bs H.next next rs B ρ w.drew a (fun i => (Array.replicate ops.size false).getD i false) ρ a w.drew := by
          have hz : (fun i => (Array.replicate ops.size false).getD i false) = fun _ => false := by
            funext i
            by_cases hi : i < ops.size <;> simp [hi]
          rw [hz]
          refine ⟨fun i o _ hD => (by cases hD), (by rw [← hA.tm.1, Tm.list_length]), fun t u hu => ?_, rfl, Ext.refl ρ, fun _ _ => rfl, Below.refl _ _, fun r hr _ q h1 h2 => ?_, .inl ⟨fun _ _ _ => rfl, Nat.le_refl _, fun p hp => ?_, ?_⟩⟩
          · rw [tv_nothing, Tm.get_eq]
            have ht : t < A.tm.list.length := by rw [hA.tm.1]; exact (Array.getElem?_eq_some_iff.1 hu).1
            have := hA.tm.2 t A.tm.list[t] u (List.getElem?_eq_getElem ht) hu
            rw [List.getElem?_eq_getElem ht]
            exact this
          · obtain ⟨x1, _, x3⟩ := htop r hr
            exact hf' q (by omega) (by omega)
          · exact hH.blk p.1 p.2 (decrK_look H.bs hdk p hp) |>.imp fun x hx => ⟨hx.1, hx.2.same rfl⟩
          · refine ⟨fun p hp => ?_, fun p hp => ?_, fun p hp => ?_, fun p hp => ?_⟩ <;> (obtain ⟨r, _, _, h2, _⟩ := news_mem.1 hp; cases h2)
        obtain ⟨ρ', w', a', D', st, hall, hI⟩ := draw_go hT hC hS hF hdyn hlen' hnext hH.drew b k cs ops.size (w.tape w.drawn (.order b.fn id)) (Array.replicate ops.size false) ρ a w.drew (by simp) (by
          rw [cnt_same ops.size (D' := fun _ => false) fun i hi => by simp [hi], cnt_none]
          exact Nat.le_refl _) hI0
        have hst : step P (lone (b.atR a (.code (.region id ops true) :: k)) cs w) = .next (lone (b.atR a (.inRegion ops (Region.linearise.go .any ops ops.size (w.tape w.drawn (.order b.fn id)) (Array.replicate ops.size false) []) :: k)) cs w.drew) := by
          have := stepR_region_draw (P := P) (b := b) (a := a) (k := k) (cs := cs) (w := w) (ops := ops) (id := id)
          simp only [Region.schedule, hmix, Bool.true_or, if_true] at this
          exact this
        have hidx : ∀ r ∈ rs, D' r.i = true := fun r hr => hall r.i (by rw [← hlen']; exact facts_idx hF r hr)
        have hheap : HRel B ρ' (wheap H.bs rs) w' := by
          unfold wheap
          cases hq : rs.find? (fun r => Nat.beq r.kind 2) with
          | none =>
            have hnone : ∀ r ∈ rs, r.kind ≠ 2 := fun r hr e => by
              have := List.find?_eq_none.1 hq r hr
              rw [e] at this; exact this rfl
            rcases hI.heap with ⟨g1, g2, g3, g4⟩ | ⟨q, hqm, g1, _⟩
            · have hmade : Made B w.drew.heap.size ρ' (news all1 rs) w' := by
                have hsub : ∀ p ∈ news all1 rs, p ∈ news D' rs := fun p hp => by
                  obtain ⟨r, hr, h1, _, h3⟩ := news_mem.1 hp
                  exact news_mem.2 ⟨r, hr, h1, hidx r hr, h3⟩
                exact ⟨g4.lie.sub hsub, fun p hp => g4.rw_ p (hsub p hp), fun p hp => g4.high p (hsub p hp), fun p hp q hq => g4.inj p (hsub p hp) q (hsub q hq)⟩
              exact hmade.join hH.drew rfl hI.ext g3 (Nat.le_trans hH.hB g2) (hH.drew.glob.of (Nat.le_refl _) fun k hk => hI.below.block k hk)
            · exact absurd g1 (hnone q hqm)
          | some q =>
            have hqk : q.kind = 2 := Nat.eq_of_beq_eq_true (List.find?_some (p := fun r : DR => Nat.beq r.kind 2) hq)
            have hqr : q ∈ rs := List.mem_of_find?_eq_some hq
            rcases hI.heap with ⟨g1, _⟩ | ⟨q', hqm', g1, g2, g3, g4, g5⟩
            · have := g1 q hqr hqk
              rw [hidx q hqr] at this; cases this
            · have hle : q.i ≤ q'.i := (g3 q hqr hqk).1 (hidx q hqr)
              have hge : q'.i ≤ q.i := by
                obtain ⟨_, as, bs, hpre2, hno⟩ := List.find?_eq_some_iff_append.1 hq
                have hF2 := hF
                rw [hpre2] at hqm' hF2
                obtain ⟨p1, p2⟩ := facts_post hF2
                rcases List.mem_append.1 hqm' with h | h
                · have h1 := hno q' h
                  rw [g1] at h1; cases h1
                · rcases List.mem_cons.1 h with e | h
                  · rw [e]; exact Nat.le_refl _
                  · exact Nat.le_of_lt (p2 q' h)
              have e : q = q' := facts_inj hF hqr hqm' (by omega)
              rw [e]; exact g5
        refine ⟨ρ', w', a', .head hst st, ⟨⟨?_, fun t v u hv hu => ?_⟩, ?_⟩, hI.ext, hI.out, hheap, (Below.refl B w).drew.trans hI.below⟩
        · rw [Tm.list_length, (finT_spec A.tm rs).1]; exact hI.sz.symm
        · have h1 := hI.tmp t u hu
          have ht : t < A.tm.n := by rw [← hI.sz]; exact (Array.getElem?_eq_some_iff.1 hu).1
          have hv' := (finT_spec A.tm rs).2 t ht
          rw [hv'] at hv
          simp only [Option.some.injEq] at hv
          rw [← hv]
          rw [tv_congr A.tm (D := all1) (D' := D') rs fun r hr _ => by rw [hidx r hr]; rfl]
          exact h1
        · rw [hI.df]; exact hA.marks.ext hI.ext
      · cases h
    · cases h
  · cases h

end Go.Proofs.Ytjginpeoblilpaa
