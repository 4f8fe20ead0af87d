/-
  A region that lets what stands stand, and ends with a store and an assignment, where one operation that is pure may come behind the store.
-/
import Derived.Test.YtomolfdcdmncoaaCc6
import Derived.Laws.Tables
namespace Go.Proofs.Ytomolfdcdmncoaa
open Go.RowKit Go
set_option linter.unusedVariables false
theorem wpOp_val {P : Program} {ops : Array Oper} {Q : Exit → Act → World → Prop} {i : Nat} {o : Oper} {K : Act → World → Prop} {a : Act} {w w' : World} {v : Value} (ho : ops[i]? = some o) (hg : o.guard = none) (hr : (execOp a.eval o).run P w = .ok (.value v) w') (h : K (a.put o.dst v) w') : wpOp P ops Q i K a w := by
  unfold wpOp
  rw [ho]
  simp only
  rw [if_pos (by simp [Region.wanted, hg])]
  refine .inl ?_
  unfold Oper.wp
  rw [hr]
  exact h
theorem wpOp_skip {P : Program} {ops : Array Oper} {Q : Exit → Act → World → Prop} {i : Nat} {o : Oper} {K : Act → World → Prop} {a : Act} {w w' : World} (ho : ops[i]? = some o) (hg : o.guard = none) (hr : (execOp a.eval o).run P w = .ok .skip w') (h : K (a.put o.dst undef) w') : wpOp P ops Q i K a w := by
  unfold wpOp
  rw [ho]
  simp only
  rw [if_pos (by simp [Region.wanted, hg])]
  refine .inl ?_
  unfold Oper.wp
  rw [hr]
  exact h
/-- The states of such a region. -/
inductive SInv (P : Program) (ops : Array Oper) (Q : Exit → Act → World → Prop) (fr dfr : Nat) (of_ : Oper) (ds : List Nat) (t0 : Array Value) (df : List Deferred) (Rs : Nat → MR) (w : World) (L : Array Bool) (a : Act) (W : World) : Prop
  | early (h : MInv ops ds t0 df Rs w L a W) (hn : ∀ j, ds.length ≤ j → L.getD j false = false)
  | mid (hcls : ∀ j, L.getD j false = true → ∀ i, depB ops j i = true → L.getD i false = true) (h1 : ∀ j, j ≤ ds.length → j ≠ fr → L.getD j false = true) (h2 : L.getD fr false = false) (h3 : L.getD (ds.length + 1) false = false)
      (v : Value) (hp : ∀ w', (execOp a.eval of_).run P w' = .ok (.value v) w') (h : wpOp P ops Q (ds.length + 1) (fun b w' => Q .normal b w') (a.put (some dfr) v) W)
  | late (hcls : ∀ j, L.getD j false = true → ∀ i, depB ops j i = true → L.getD i false = true) (h1 : ∀ j, j ≤ ds.length → L.getD j false = true) (h3 : L.getD (ds.length + 1) false = false) (h : wpOp P ops Q (ds.length + 1) (fun b w' => Q .normal b w') a W)
  | done (h1 : ∀ j, j < ops.size → L.getD j false = true) (h : Q .normal a W)
theorem MInv.step {ops : Array Oper} {ds : List Nat} {t0 : Array Value} {df : List Deferred} {Rs : Nat → MR} {w : World} {L : Array Bool} {b : Act} {W : World} (hI : MInv ops ds t0 df Rs w L b W) (he : edgesBackM ops = true) (hnd : ds.Nodup) (hall : ∀ d ∈ ds, d < t0.size) (fzs : List Nat) (anc : List (List Nat)) (ha : ancOk ops anc = true) (hfz : fzOk ds.length fzs anc Rs = true) {i : Nat} (hi : i < ds.length) (hC : Comes ops L i) {v : Value} {W' : World} (hv : StepW (fzs.contains i) w W W' ∧ (Rs i).p v W') :
    MInv ops ds t0 df Rs w (L.setIfInBounds i true) (b.put (some (ds.getD i 0)) v) W' := by
  have hiL : i < L.size := by have := hC.size; have := hC.lt; omega
  have hget : ∀ j (h : j < ds.length), ds.getD j 0 = ds[j] := fun j h => by
    rw [List.getD_eq_getElem?_getD, List.getElem?_eq_getElem h]; rfl
  have hne : ∀ i j, i < ds.length → j < ds.length → i ≠ j → ds.getD i 0 ≠ ds.getD j 0 := fun i j hi hj hij h9 => by
    rw [hget i hi, hget j hj] at h9
    exact hij ((List.getElem_inj hnd).1 h9)
  have hsz := hI.size
  have hlt : ds.getD i 0 < b.tmps.size := by rw [hsz, hget i hi]; exact hall _ (List.getElem_mem _)
  have hup : Below w.heap.size w W' := by
    have h5 := hv.1
    unfold StepW at h5
    split at h5
    · exact h5.2
    · exact hI.up.trans (h5.mono hI.up.size)
  refine ⟨?_, hI.dfs, hup, fun s h9 => ?_, fun j hj hL => ?_, cls_set hiL hC hI.cls⟩
  · simp [Act.put, hsz]
  · show (b.tmps.setIfInBounds (ds.getD i 0) v)[s]? = _
    rw [Array.getElem?_setIfInBounds_ne (fun h8 => h9 (by rw [← h8, hget i hi]; exact List.getElem_mem _)), hI.old s h9]
  · show (Rs j).p ((b.tmps.setIfInBounds (ds.getD i 0) v).getD (ds.getD j 0) undef) W'
    rw [lsetM L i j hiL] at hL
    by_cases hij : i = j
    · subst hij
      rw [Array.getD_eq_getD_getElem?, Array.getElem?_setIfInBounds_self_of_lt hlt]
      exact hv.2
    · simp only [hij, decide_false, Bool.false_or] at hL
      have h7 := hI.has j hj hL
      rw [Array.getD_eq_getD_getElem?, Array.getElem?_setIfInBounds_ne (hne i j hi hj hij), ← Array.getD_eq_getD_getElem?]
      have h5 := hv.1
      unfold StepW at h5
      split at h5
      · rename_i hfi
        have h6 := List.all_eq_true.1 (List.all_eq_true.1 hfz j (List.mem_range.2 hj)) i (List.contains_iff_mem.1 hfi)
        rw [Bool.or_eq_true, Bool.or_eq_true] at h6
        rcases h6 with (h6 | h6) | h6
        · exact absurd (by simpa using h6) hij
        · have h8 := anc_has he ha hI.cls j hL i h6
          rw [hC.not] at h8
          cases h8
        · exact (Rs j).fz h6 h7 h5.1
      · exact (Rs j).up h7 h5
theorem MInv.env {ops : Array Oper} {ds : List Nat} {t0 : Array Value} {df : List Deferred} {Rs : Nat → MR} {w : World} {L : Array Bool} {b : Act} {W : World} (hI : MInv ops ds t0 df Rs w L b W) (he : edgesBackM ops = true) {i : Nat} (hi : i < ds.length) (hC : ∀ j, depB ops i j = true → L.getD j false = true) : MEnv ops ds t0 Rs w i b.eval W := by
  refine ⟨hI.up, fun _ => rfl, fun _ => rfl, fun s h9 => ?_, fun j hj => ?_⟩
  · show b.tmps.getD s undef = _
    have h8 : s ∉ ds := fun h7 => by rw [List.contains_iff_mem.2 h7] at h9; cases h9
    rw [Array.getD_eq_getD_getElem?, Array.getD_eq_getD_getElem?, hI.old s h8]
  · exact hI.has j (by have := depB_lt he hj; omega) (hC j hj)
theorem MInv.frame {ops : Array Oper} {ds : List Nat} {t0 : Array Value} {df : List Deferred} {Rs : Nat → MR} {w : World} {L : Array Bool} {b : Act} {W : World} (hI : MInv ops ds t0 df Rs w L b W) (hnd : ds.Nodup) (hall : ∀ d ∈ ds, d < t0.size) : b = ⟨lay t0 ds (fun j => b.tmps.getD (ds.getD j 0) undef) 0, df⟩ := by
  have hget : ∀ j (h : j < ds.length), ds.getD j 0 = ds[j] := fun j h => by
    rw [List.getD_eq_getElem?_getD, List.getElem?_eq_getElem h]; rfl
  have e : b.tmps = lay t0 ds (fun j => b.tmps.getD (ds.getD j 0) undef) 0 := by
    refine Array.ext_getElem? (fun s => ?_)
    by_cases hs2 : s ∈ ds
    · obtain ⟨j, hj, rfl⟩ := List.getElem_of_mem hs2
      rw [lay_at _ ds t0 0 j hnd hall hj, Nat.zero_add]
      have hlt : ds[j] < b.tmps.size := by rw [hI.size]; exact hall _ (List.getElem_mem _)
      rw [Array.getElem?_eq_getElem hlt, hget j hj]
      simp [Array.getD, hlt]
    · rw [lay_old _ ds _ _ _ hs2]
      exact hI.old s hs2
  obtain ⟨bt, bd⟩ := b
  have e2 := hI.dfs
  simp only at e e2
  rw [← e2, ← e]
theorem wp_region_monoS {P : Program} {id : Nat} {ops : Array Oper} {Q : Exit → Act → World → Prop} {a : Act} {w : World} (hm : P.follows .mixedOrders = true) (he : edgesBackM ops = true) (ds : List Nat) (hds : (ops.toList.take ds.length).map (·.dst) = ds.map some) (hlen : ops.size = ds.length + 2) (hnd : ds.Nodup) (hin : ds.all (· < a.tmps.size) = true)
    (Rs : Nat → MR) (fzs : List Nat) (anc : List (List Nat)) (ha : ancOk ops anc = true) (hfz : fzOk ds.length fzs anc Rs = true)
    (fr : Nat) (hfr : fr < ds.length) (hanc : ((List.range ds.length).all fun j => j == fr || (anc.getD ds.length []).contains j) = true) (hanc2 : ((List.range (ds.length + 1)).all fun j => (anc.getD (ds.length + 1) []).contains j) = true)
    (os : Oper) (hos : ops[ds.length]? = some os) (t : TypeId) (d1 d2 : Nat) (hst : os.op = .store t (.tmp d1) (.tmp d2)) (hsd : os.dst = none) (hsg : os.guard = none) (hd1 : d1 ≠ ds.getD fr 0) (hd2 : d2 ≠ ds.getD fr 0)
    (of_ : Oper) (hof : ops[fr]? = some of_) (hofg : of_.guard = none)
    (hpure : ∀ (ρ : Operand → Value) (W : World), MEnv ops ds a.tmps Rs w fr ρ W → ∃ v, (∀ w', (execOp ρ of_).run P w' = .ok (.value v) w') ∧ (Rs fr).p v W)
    (hffz : fzs.contains fr = false)
    (hs : ∀ i, i < ds.length → ∀ (ρ : Operand → Value) (W : World), MEnv ops ds a.tmps Rs w i ρ W → MonoAt P ops i ρ W (fun v W' => StepW (fzs.contains i) w W W' ∧ (Rs i).p v W'))
    (hf : ∀ (u : Nat → Value) (W : World), Below w.heap.size w W → (∀ j, j < ds.length → (Rs j).p (u j) W) → ∃ W', (Instr.storeAt t ((lay a.tmps ds u 0).getD d1 undef) ((lay a.tmps ds u 0).getD d2 undef)).run P W = .ok () W' ∧ wpOp P ops Q (ds.length + 1) (fun b w' => Q .normal b w') ⟨lay a.tmps ds u 0, a.defers⟩ W') : (Code.region id ops true).wp P Q a w := by
  have hall : ∀ d ∈ ds, d < a.tmps.size := fun d hd => of_decide_eq_true (List.all_eq_true.1 hin d hd)
  have hdst : ∀ (i : Nat) (o : Oper), i < ds.length → ops[i]? = some o → o.dst = some (ds.getD i 0) := fun i o hi ho => by
    have h1 : ((ops.toList.take ds.length).map (·.dst))[i]? = some o.dst := by rw [List.getElem?_map, List.getElem?_take, if_pos hi, Array.getElem?_toList, ho]; rfl
    rw [hds, List.getElem?_map] at h1
    rw [List.getD_eq_getElem?_getD]
    cases h2 : ds[i]? with
    | none => rw [h2] at h1; cases h1
    | some d => rw [h2] at h1; simp only [Option.map_some, Option.some.injEq] at h1; rw [← h1]; rfl
  have hofd := hdst fr of_ hfr hof
  have hA1 : ∀ (L : Array Bool), (∀ j, L.getD j false = true → ∀ i, depB ops j i = true → L.getD i false = true) → Comes ops L ds.length → ∀ j, j < ds.length → j ≠ fr → L.getD j false = true := fun L hc hC j hj hne => by
    have hiL : ds.length < L.size := by have := hC.size; omega
    have h0 := List.all_eq_true.1 hanc j (List.mem_range.2 hj)
    rw [Bool.or_eq_true] at h0
    rcases h0 with h0 | h0
    · exact absurd (by simpa using h0) hne
    · have h1 := anc_has he ha (cls_set hiL hC hc) ds.length (by rw [lsetM L _ _ hiL]; simp) j h0
      rw [lsetM L _ _ hiL] at h1
      simpa [show ds.length ≠ j by omega] using h1
  have hA2 : ∀ (L : Array Bool), (∀ j, L.getD j false = true → ∀ i, depB ops j i = true → L.getD i false = true) → Comes ops L (ds.length + 1) → ∀ j, j ≤ ds.length → L.getD j false = true := fun L hc hC j hj => by
    have hiL : ds.length + 1 < L.size := by have := hC.size; omega
    have h0 := List.all_eq_true.1 hanc2 j (List.mem_range.2 (by omega))
    have h1 := anc_has he ha (cls_set hiL hC hc) (ds.length + 1) (by rw [lsetM L _ _ hiL]; simp) j h0
    rw [lsetM L _ _ hiL] at h1
    simpa [show ds.length + 1 ≠ j by omega] using h1
  have hex : ∀ ρ : Operand → Value, execOp ρ os = (do Instr.storeAt t (ρ (.tmp d1)) (ρ (.tmp d2)); pure .skip : Sem Go.Next) := fun ρ => by unfold execOp; simp only [hst]
  refine wp_region_any hm (wpAny_invM he (SInv P ops Q fr (ds.getD fr 0) of_ ds a.tmps a.defers Rs w) ?_ ?_ _ _ _ _ (by simp) (by simp) ?_)
  · intro L b W i hI hC
    have hiL : i < L.size := by have := hC.size; have := hC.lt; omega
    have hlt := hC.lt
    cases hI with
    | early hI hn =>
      by_cases hi : i < ds.length
      · have h1 := hs i hi b.eval W (hI.env he hi (fun j hj => hC.dep hj))
        unfold MonoAt at h1
        unfold wpOp
        cases ho : ops[i]? with
        | none => rw [ho] at h1; exact h1.elim
        | some o =>
          rw [ho] at h1
          simp only at h1 ⊢
          rw [if_pos (by simp [Region.wanted, h1.1])]
          refine .inl (h1.2.wp (fun v W' hv => ?_))
          rw [hdst i o hi ho]
          refine .early (hI.step he hnd hall fzs anc ha hfz hi hC hv) (fun j hj => ?_)
          rw [lsetM L i j hiL]
          simp only [show i ≠ j by omega, decide_false, Bool.false_or]
          exact hn j hj
      · have hik : i = ds.length := by
          rcases Nat.lt_or_ge ds.length i with h9 | h9
          · have h8 := hA2 L hI.cls (by rw [show ds.length + 1 = i by omega]; exact hC) ds.length (Nat.le_refl _)
            rw [hn _ (Nat.le_refl _)] at h8; cases h8
          · omega
        subst hik
        have hbef := hA1 L hI.cls hC
        by_cases hLf : L.getD fr false = true
        · have hb0 : ∀ j, j < ds.length → L.getD j false = true := fun j hj => by
            by_cases hjf : j = fr
            · rw [hjf]; exact hLf
            · exact hbef j hj hjf
          obtain ⟨W', hr, hw⟩ := hf (fun j => b.tmps.getD (ds.getD j 0) undef) W hI.up (fun j hj => hI.has j hj (hb0 j hj))
          have hfm := hI.frame hnd hall
          rw [← hfm] at hw
          have hl : lay a.tmps ds (fun j => b.tmps.getD (ds.getD j 0) undef) 0 = b.tmps := by have := congrArg Act.tmps hfm; exact this.symm
          rw [hl] at hr
          refine wpOp_skip hos hsg (w' := W') (by rw [hex]; simp only [Sem.run_bind]; show Result.andThen ((Instr.storeAt t (b.tmps.getD d1 undef) (b.tmps.getD d2 undef)).run P W) _ = _; rw [hr]; rfl) ?_
          rw [hsd]
          refine .late (cls_set hiL hC hI.cls) (fun j hj => ?_) ?_ hw
          · rw [lsetM L _ j hiL]
            by_cases hjd : ds.length = j
            · simp [hjd]
            · simp only [hjd, decide_false, Bool.false_or]
              by_cases hjf : j = fr
              · rw [hjf]; exact hLf
              · exact hbef j (by omega) hjf
          · rw [lsetM L _ _ hiL]
            simp only [show ds.length ≠ ds.length + 1 by omega, decide_false, Bool.false_or]
            exact hn _ (by omega)
        · have hLf : L.getD fr false = false := by simpa using hLf
          have hfL : fr < L.size := by have := hC.size; omega
          have hCf : Comes ops L fr := ⟨hC.size, by omega, hLf, fun o ho => by
            rw [Array.all_eq_true_iff_forall_mem]
            intro x hx
            cases hbx : Region.binds .any x with
            | false => rfl
            | true =>
              have hd : depB ops fr x.on = true := by
                unfold depB
                rw [ho]
                simp only
                rw [Array.any_eq_true']
                exact ⟨x, hx, by simp [hbx]⟩
              have := depB_lt he hd
              simp only [Bool.not_true, Bool.false_or]
              exact hbef x.on (by omega) (by omega)⟩
          obtain ⟨v, hv1, hv2⟩ := hpure b.eval W (hI.env he hfr (fun j hj => by have := depB_lt he hj; exact hbef j (by omega) (by omega)))
          have hI2 := hI.step he hnd hall fzs anc ha hfz hfr hCf (v := v) (W' := W) ⟨by rw [hffz]; exact Below.refl _ _, hv2⟩
          obtain ⟨W', hr, hw⟩ := hf (fun j => (b.put (some (ds.getD fr 0)) v).tmps.getD (ds.getD j 0) undef) W hI2.up (fun j hj => hI2.has j hj (by
            rw [lsetM L fr j hfL]
            by_cases hjf : fr = j
            · simp [hjf]
            · simp only [hjf, decide_false, Bool.false_or]; exact hbef j hj (fun h => hjf h.symm)))
          have hfm := hI2.frame hnd hall
          rw [← hfm] at hw
          have hl : lay a.tmps ds (fun j => (b.put (some (ds.getD fr 0)) v).tmps.getD (ds.getD j 0) undef) 0 = (b.put (some (ds.getD fr 0)) v).tmps := by have := congrArg Act.tmps hfm; exact this.symm
          rw [hl] at hr
          have hg1 : ∀ d, d ≠ ds.getD fr 0 → (b.put (some (ds.getD fr 0)) v).tmps.getD d undef = b.tmps.getD d undef := fun d hd => by
            show (b.tmps.setIfInBounds (ds.getD fr 0) v).getD d undef = _
            rw [Array.getD_eq_getD_getElem?, Array.getD_eq_getD_getElem?, Array.getElem?_setIfInBounds_ne (fun h => hd h.symm)]
          rw [hg1 d1 hd1, hg1 d2 hd2] at hr
          refine wpOp_skip hos hsg (w' := W') (by rw [hex]; simp only [Sem.run_bind]; show Result.andThen ((Instr.storeAt t (b.tmps.getD d1 undef) (b.tmps.getD d2 undef)).run P W) _ = _; rw [hr]; rfl) ?_
          rw [hsd]
          refine .mid (cls_set hiL hC hI.cls) (fun j hj hjf => ?_) ?_ ?_ v hv1 hw
          · rw [lsetM L _ j hiL]
            by_cases hjd : ds.length = j
            · simp [hjd]
            · simp only [hjd, decide_false, Bool.false_or]
              exact hbef j (by omega) hjf
          · rw [lsetM L _ _ hiL]
            simp only [show ds.length ≠ fr by omega, decide_false, Bool.false_or]
            exact hLf
          · rw [lsetM L _ _ hiL]
            simp only [show ds.length ≠ ds.length + 1 by omega, decide_false, Bool.false_or]
            exact hn _ (by omega)
    | mid hcls h1 h2 h3 v hp h =>
      have hif : i = fr := by
        by_cases hif : i = fr
        · exact hif
        · exfalso
          by_cases hi : i ≤ ds.length
          · have := h1 i hi hif; rw [hC.not] at this; cases this
          · have := hA2 L hcls (by rw [show ds.length + 1 = i by omega]; exact hC) fr (by omega)
            rw [h2] at this; cases this
      subst hif
      refine wpOp_val hof hofg (hp W) ?_
      rw [hofd]
      refine .late (cls_set hiL hC hcls) (fun j hj => ?_) ?_ h
      · rw [lsetM L _ j hiL]
        by_cases hjd : i = j
        · simp [hjd]
        · simp only [hjd, decide_false, Bool.false_or]
          exact h1 j hj (fun h => hjd h.symm)
      · rw [lsetM L _ _ hiL]
        simp only [show i ≠ ds.length + 1 by omega, decide_false, Bool.false_or]
        exact h3
    | late hcls h1 h3 h =>
      have hi : i = ds.length + 1 := by
        rcases Nat.lt_or_ge i (ds.length + 1) with h9 | h9
        · have := h1 i (by omega); rw [hC.not] at this; cases this
        · omega
      subst hi
      refine wpOp_mono (fun b' w' hb' => .done (fun j hj => ?_) hb') h
      rw [lsetM L _ j hiL]
      by_cases hjd : ds.length + 1 = j
      · simp [hjd]
      · simp only [hjd, decide_false, Bool.false_or]
        exact h1 j (by omega)
    | done h1 h =>
      have := h1 i hlt; rw [hC.not] at this; cases this
  · intro L b W hI hsz hL
    cases hI with
    | early hI hn => have := hL ds.length (by omega); rw [hn _ (Nat.le_refl _)] at this; cases this
    | mid hcls h1 h2 h3 v hp h => have := hL fr (by omega); rw [h2] at this; cases this
    | late hcls h1 h3 h => have := hL (ds.length + 1) (by omega); rw [h3] at this; cases this
    | done h1 h => exact h
  · exact .early ⟨rfl, rfl, ⟨rfl, rfl, rfl, Nat.le_refl _, fun _ _ => rfl⟩, fun _ _ => rfl, fun j hj h9 => by simp [Array.getD] at h9, fun j h9 => by simp [Array.getD] at h9⟩ (fun j _ => by simp [Array.getD])
theorem pure_extract {P : Program} {o : Oper} {ρ : Operand → Value} {x : Operand} {i : Nat} {v u : Value} (ho : o.op = .extract x i) (hx : ρ x = v) (hr : ∀ w, (Instr.extract v i).run P w = .ok u w) : ∀ w, (execOp ρ o).run P w = .ok (.value u) w := fun w => by
  unfold execOp
  simp only [ho, hx, Sem.run_bind, hr, Result.andThen_ok]
  rfl
theorem run_storeAt_row9 {P : Program} (w : World) (g : Nat) (t ty : TypeId) (old cells : Array Value) (hg : w.heap[g]? = some (.cells old t (0, 0))) (hi : (P.info? ty).map (·.size) = some cells.size) (hold : old.size = cells.size) (h1 : cells.all (·.oneCell') = true) : (Instr.storeAt ty (.pointer (some ⟨g, 0, none⟩)) (.agg cells)).run P w = .ok () (w.setRow g cells) := by
  simp only [Instr.storeAt, Instr.sureAddr, Sem.run_bind, Sem.run_pure, Result.andThen_ok, run_storeVar_row w g t ty old cells hg hi hold h1]
end Go.Proofs.Ytomolfdcdmncoaa
