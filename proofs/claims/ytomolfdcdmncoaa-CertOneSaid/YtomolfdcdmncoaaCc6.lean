/-
  A region that draws its order and whose operations make memory, but let what stands stand: each operation is shown once, for any world that has what it waits for.
-/
import Derived.Test.YtomolfdcdmncoaaCb2
import Derived.Test.YtomolfdcdmncoaaCb1
import Derived.Lib.SlBytesConst
import Derived.Test.YtomolfdcdmncoaaCb4
import Derived.Great.BuildSlice
import Derived.Deep.MidRow
import Derived.Test.YtomolfdcdmncoaaCc4
namespace Go.Proofs.Ytomolfdcdmncoaa
open Go.RowKit Go
set_option linter.unusedVariables false
/-- What an operation comes to: a value and a world of which R holds. -/
def MonoOp (P : Program) (o : Oper) (ρ : Operand → Value) (w : World) (R : Value → World → Prop) : Prop :=
  match (execOp ρ o).run P w with
  | .ok (.value v) w' => R v w'
  | .ok .skip w' => R undef w'
  | .ok (.enter f args) w' => Calls P f args w' fun e w'' => ∃ v, e = .returned v ∧ R v w''
  | _ => False
theorem MonoOp.wp {P : Program} {o : Oper} {a : Act} {w : World} {R : Value → World → Prop} {K : Act → World → Prop} {Q : Exit → Act → World → Prop} (h : MonoOp P o a.eval w R) (hK : ∀ v w', R v w' → K (a.put o.dst v) w') : Oper.wp P o a w K Q := by
  unfold MonoOp at h
  unfold Oper.wp
  generalize (execOp a.eval o).run P w = r at *
  cases r with
  | ok n w' =>
    cases n <;> simp only [Oper.upon] at h ⊢ <;> first
      | exact hK _ _ h
      | (refine Calls.mono h (fun e w'' he => ?_); obtain ⟨v, rfl, hv⟩ := he; exact hK _ _ hv)
      | exact h.elim
  | halt x w' => exact h.elim
/-- The same memory but for the marks of its rows. -/
structure Frz (W W' : World) : Prop where
  os : W'.os = W.os
  tape : W'.tape = W.tape
  output : W'.output = W.output
  size : W'.heap.size = W.heap.size
  block : ∀ k : Nat, W'.heap[k]? = W.heap[k]? ∨ ∃ cs t mk mk', W.heap[k]? = some (.cells cs t mk) ∧ W'.heap[k]? = some (.cells cs t mk')
theorem Frz.cell {W W' : World} (h : Frz W W') {b j : Nat} {v : Value} (hc : W.cell? ⟨b, j, none⟩ = some v) : W'.cell? ⟨b, j, none⟩ = some v := by
  rcases h.block b with e | ⟨cs, t, mk, mk', h1, h2⟩
  · rw [← hc]
    simp only [World.cell?, e]
  · have h3 := (Lib.cell_of_heap h1 j).symm.trans hc
    exact (Lib.cell_of_heap h2 j).trans h3
theorem Frz.rb {W W' : World} (h : Frz W W') {A : Option Addr} {n : Nat} {bs : List UInt8} (hr : RB W A n bs) : RB W' A n bs := by
  refine ⟨hr.1, fun hne => ?_⟩
  obtain ⟨b, off, e, hlt, hc⟩ := hr.2 hne
  exact ⟨b, off, e, by rw [h.size]; exact hlt, fun k hk => h.cell (hc k hk)⟩
/-- A property of a value that stands while memory grows; st: also while rows are marked. -/
structure MR where
  p : Value → World → Prop
  up : ∀ {v : Value} {W W' : World}, p v W → Below W.heap.size W W' → p v W'
  st : Bool
  fz : st = true → ∀ {v : Value} {W W' : World}, p v W → Frz W W' → p v W'
def MR.any : MR := ⟨fun _ _ => True, fun _ _ => trivial, true, fun _ _ _ _ _ _ => trivial⟩
def MR.eq (x : Value) : MR := ⟨fun v _ => v = x, fun h _ => h, true, fun _ _ _ _ h _ => h⟩
/-- Bytes that the call owns. -/
def MR.own (base : Nat) (bs : List UInt8) : MR := ⟨fun v W => ∃ A n c, v = .slice A n c ∧ OwnB W base A n c bs, fun ⟨A, n, c, e, h⟩ hb => ⟨A, n, c, e, h.below hb (Nat.le_refl _)⟩, false, fun h => nomatch h⟩
/-- Bytes that are read. -/
def MR.rb (bs : List UInt8) : MR := ⟨fun v W => ∃ A n c, v = .slice A n c ∧ RB W A n bs ∧ n ≤ c ∧ c ≤ maxLen, fun ⟨A, n, c, e, h, h2⟩ hb => ⟨A, n, c, e, h.below hb, h2⟩, true, fun _ _ _ _ ⟨A, n, c, e, h, h2⟩ hb => ⟨A, n, c, e, hb.rb h, h2⟩⟩
/-- A row of bytes that was just laid, from a block on. -/
def MR.lit (base : Nat) (bs : List UInt8) : MR := ⟨fun v W => ∃ g q, v = .slice (some ⟨g, 0, none⟩) bs.length bs.length ∧ base ≤ g ∧ W.heap[g]? = some (.cells (bs.map bv).toArray 5 q), fun ⟨g, q, e, h1, h2⟩ hb => ⟨g, q, e, h1, (hb.block _ (Array.getElem?_eq_some_iff.1 h2).1).trans h2⟩, true, fun _ _ _ _ ⟨g, q, e, h1, h2⟩ hb => by
  rcases hb.block g with e2 | ⟨cs, t, q1, q2, h3, h4⟩
  · exact ⟨g, q, e, h1, e2.trans h2⟩
  · rw [h3] at h2
    injection h2 with h2
    injection h2 with h5 h6 h7
    subst h5 h6
    exact ⟨g, q2, e, h1, h4⟩⟩
/-- Where a slot is filled: its place in the list. -/
def lay (t : Array Value) (ds : List Nat) (u : Nat → Value) (k : Nat) : Array Value := match ds with
  | [] => t
  | d :: r => lay (t.setIfInBounds d (u k)) r u (k + 1)
theorem lay_size (u : Nat → Value) : ∀ (ds : List Nat) (t : Array Value) (k : Nat), (lay t ds u k).size = t.size
  | [], _, _ => rfl
  | d :: r, t, k => by rw [lay, lay_size u r]; simp
theorem lay_old (u : Nat → Value) : ∀ (ds : List Nat) (t : Array Value) (k s : Nat), s ∉ ds → (lay t ds u k)[s]? = t[s]?
  | [], _, _, _, _ => rfl
  | d :: r, t, k, s, h => by
    rw [lay, lay_old u r _ _ _ (fun h9 => h (List.mem_cons_of_mem _ h9)), Array.getElem?_setIfInBounds_ne (fun h9 => h (by rw [h9]; exact List.mem_cons_self ..))]
theorem lay_at (u : Nat → Value) : ∀ (ds : List Nat) (t : Array Value) (k j : Nat), ds.Nodup → (∀ d ∈ ds, d < t.size) → ∀ h : j < ds.length, (lay t ds u k)[ds[j]]? = some (u (k + j))
  | [], _, _, _, _, _, h => absurd h (by simp)
  | d :: r, t, k, j, hn, hd, h => by
    rw [List.nodup_cons] at hn
    cases j with
    | zero =>
      simp only [List.getElem_cons_zero, Nat.add_zero]
      rw [lay, lay_old u r _ _ _ hn.1]
      simp [hd d (List.mem_cons_self ..)]
    | succ j =>
      simp only [List.getElem_cons_succ]
      rw [lay, lay_at u r _ _ j hn.2 (fun e he => by simpa using hd e (List.mem_cons_of_mem _ he)) (by simpa using h), show k + 1 + j = k + (j + 1) by omega]
/-- What an operation may build on. -/
structure MEnv (ops : Array Oper) (ds : List Nat) (t0 : Array Value) (Rs : Nat → MR) (w : World) (i : Nat) (ρ : Operand → Value) (W : World) : Prop where
  up : Below w.heap.size w W
  cst : ∀ v, ρ (.const v) = v
  fn : ∀ f, ρ (.func f) = .func (.func f) #[] #[]
  old : ∀ s, ds.contains s = false → ρ (.tmp s) = t0.getD s undef
  dep : ∀ j, depB ops i j = true → (Rs j).p (ρ (.tmp (ds.getD j 0))) W
/-- An operation of the region, shown. -/
def MonoAt (P : Program) (ops : Array Oper) (i : Nat) (ρ : Operand → Value) (w : World) (R : Value → World → Prop) : Prop :=
  match ops[i]? with
  | none => False
  | some o => o.guard = none ∧ MonoOp P o ρ w R
theorem mono_at {P : Program} {ops : Array Oper} {i : Nat} {ρ : Operand → Value} {w : World} {R : Value → World → Prop} {o : Oper} (ho : ops[i]? = some o) (hg : o.guard = none) (h : MonoOp P o ρ w R) : MonoAt P ops i ρ w R := by
  unfold MonoAt; rw [ho]; exact ⟨hg, h⟩
/-- Every operation waits for elder ones alone. -/
def edgesBackM (ops : Array Oper) : Bool := (List.range ops.size).all fun i => match ops[i]? with | some o => o.after.all fun e => (!Region.binds .any e || decide (e.on < i)) | none => true
theorem ready_nil_allM {ops : Array Oper} (he : edgesBackM ops = true) {listed : Array Bool} (hsz : listed.size = ops.size) (hr : Region.ready .any ops listed = []) : ∀ j, j < ops.size → listed.getD j false = true := by
  intro j
  induction j using Nat.strongRecOn with
  | ind j ih =>
    intro hj
    cases hb : listed.getD j false with
    | true => rfl
    | false =>
      exfalso
      have hmem : j ∈ Region.ready .any ops listed := by
        unfold Region.ready
        rw [List.mem_filter]
        refine ⟨List.mem_range.2 hj, ?_⟩
        have h1 : listed.getD j true = false := by rw [getD_lt (by omega) true false]; exact hb
        have h2 := List.all_eq_true.1 he j (List.mem_range.2 hj)
        rw [Array.getElem?_eq_getElem hj] at h2 ⊢
        simp only [h1, Bool.not_false, Bool.true_and, Option.map_some, Option.getD_some]
        rw [Array.all_eq_true_iff_forall_mem] at h2 ⊢
        intro e hem
        have h3 := h2 e hem
        cases hb : Region.binds .any e with
        | false => rfl
        | true =>
          rw [hb] at h3
          have h3 := of_decide_eq_true h3
          rw [ih e.on h3 (by omega)]
          rfl
      rw [hr] at hmem
      cases hmem
theorem wpAny_invM {P : Program} {ops : Array Oper} {Q : Exit → Act → World → Prop} (he : edgesBackM ops = true) (I : Array Bool → Act → World → Prop)
    (hs : ∀ listed a w i, I listed a w → Comes ops listed i → wpOp P ops Q i (I (listed.setIfInBounds i true)) a w)
    (hf : ∀ listed a w, I listed a w → listed.size = ops.size → (∀ j, j < ops.size → listed.getD j false = true) → Q .normal a w) :
    ∀ (fuel : Nat) (listed : Array Bool) (a : Act) (w : World), listed.size = ops.size → listed.toList.count false ≤ fuel → I listed a w → wpAny P .any ops Q fuel listed a w := by
  intro fuel
  induction fuel with
  | zero =>
    intro listed a w hsz hc hI
    have hall : ∀ j, j < ops.size → listed.getD j false = true := fun j hj => by
      have hj2 : j < listed.size := by omega
      cases hb : listed.getD j false with
      | true => rfl
      | false =>
        exfalso
        have h1 : listed.toList[j]? = some false := by
          rw [Array.getElem?_toList, Array.getElem?_eq_getElem hj2]
          have : listed.getD j false = listed[j] := by simp [Array.getD, hj2]
          rw [← this, hb]
        have := cnt_set _ _ h1
        omega
    refine ⟨?_, hf listed a w hI hsz hall⟩
    unfold Region.ready
    rw [List.filter_eq_nil_iff]
    intro j hj
    have hj := List.mem_range.1 hj
    have h1 : listed.getD j true = true := by rw [getD_lt (by omega) true false]; exact hall j hj
    simp [h1]
  | succ fuel ih =>
    intro listed a w hsz hc hI
    refine ⟨fun hr => hf listed a w hI hsz (ready_nil_allM he hsz hr), fun i hi => ?_⟩
    unfold Region.ready at hi
    rw [List.mem_filter] at hi
    obtain ⟨h1, h2⟩ := hi
    have hlt := List.mem_range.1 h1
    simp only [Bool.and_eq_true, Bool.not_eq_true'] at h2
    have hun : listed.getD i false = false := by rw [getD_lt (by omega) false true]; exact h2.1
    have hC : Comes ops listed i := ⟨hsz, hlt, hun, fun o ho => by
      have h3 := h2.2
      rw [ho] at h3
      simpa using h3⟩
    refine wpOp_mono (fun a' w' hI' => ih _ a' w' (by simpa using hsz) ?_ hI') (hs listed a w i hI hC)
    have hj2 : i < listed.size := by omega
    have h4 : listed.toList[i]? = some false := by
      rw [Array.getElem?_toList, Array.getElem?_eq_getElem hj2]
      have : listed.getD i false = listed[i] := by simp [Array.getD, hj2]
      rw [← this, hun]
    have h5 := cnt_set _ _ h4
    rw [Array.toList_setIfInBounds]
    omega
theorem lsetM (L : Array Bool) (i j : Nat) (hi : i < L.size) : (L.setIfInBounds i true).getD j false = (decide (i = j) || L.getD j false) := by
  by_cases h : i = j
  · subst h; simp [Array.getD, hi]
  · simp only [h, decide_false, Bool.false_or]
    rw [Array.getD_eq_getD_getElem?, Array.getD_eq_getD_getElem?, Array.getElem?_setIfInBounds_ne h]
theorem depB_lt {ops : Array Oper} (he : edgesBackM ops = true) {i j : Nat} (h : depB ops i j = true) : j < i := by
  unfold depB at h
  split at h
  · rename_i o ho
    have hi : i < ops.size := (Array.getElem?_eq_some_iff.1 ho).1
    have h2 := List.all_eq_true.1 he i (List.mem_range.2 hi)
    rw [ho] at h2
    simp only at h2
    rw [Array.any_eq_true'] at h
    obtain ⟨e, hem, h3⟩ := h
    rw [Array.all_eq_true_iff_forall_mem] at h2
    have h4 := h2 e hem
    simp only [Bool.and_eq_true, beq_iff_eq] at h3
    rw [h3.2] at h4
    simp at h4
    omega
  · cases h
/-- What a step may do to memory. -/
def StepW (fz : Bool) (w W W' : World) : Prop := match fz with
  | true => Frz W W' ∧ Below w.heap.size w W'
  | false => Below W.heap.size W W'
/-- Of each operation some that it waits for. -/
def ancOk (ops : Array Oper) (anc : List (List Nat)) : Bool := (List.range anc.length).all fun j => (anc.getD j []).all fun i => depB ops j i || (anc.getD j []).any fun k => depB ops j k && (anc.getD k []).contains i
theorem anc_has {ops : Array Oper} {anc : List (List Nat)} (he : edgesBackM ops = true) (ha : ancOk ops anc = true) {L : Array Bool} (hc : ∀ j, L.getD j false = true → ∀ i, depB ops j i = true → L.getD i false = true) : ∀ j, L.getD j false = true → ∀ i, (anc.getD j []).contains i = true → L.getD i false = true := by
  intro j
  induction j using Nat.strongRecOn with
  | ind j ih =>
    intro hj i hi
    have hlt : j < anc.length := by
      rcases Nat.lt_or_ge j anc.length with h | h
      · exact h
      · rw [List.getD_eq_getElem?_getD, List.getElem?_eq_none h] at hi
        simp at hi
    have h1 := List.all_eq_true.1 (List.all_eq_true.1 ha j (List.mem_range.2 hlt)) i (List.contains_iff_mem.1 hi)
    rw [Bool.or_eq_true] at h1
    rcases h1 with h1 | h1
    · exact hc j hj i h1
    · obtain ⟨k, hk, h2⟩ := List.any_eq_true.1 h1
      rw [Bool.and_eq_true] at h2
      exact ih k (depB_lt he h2.1) (hc j hj k h2.1) i h2.2
/-- Who may be marked while whom stands. -/
def fzOk (n : Nat) (fzs : List Nat) (anc : List (List Nat)) (Rs : Nat → MR) : Bool := (List.range n).all fun j => fzs.all fun i => i == j || (anc.getD j []).contains i || (Rs j).st
/-- The invariant of such a region. -/
structure MInv (ops : Array Oper) (ds : List Nat) (t0 : Array Value) (df : List Deferred) (Rs : Nat → MR) (w : World) (L : Array Bool) (a : Act) (W : World) : Prop where
  size : a.tmps.size = t0.size
  dfs : a.defers = df
  up : Below w.heap.size w W
  old : ∀ s : Nat, s ∉ ds → a.tmps[s]? = t0[s]?
  has : ∀ j, j < ds.length → L.getD j false = true → (Rs j).p (a.tmps.getD (ds.getD j 0) undef) W
  cls : ∀ j, L.getD j false = true → ∀ i, depB ops j i = true → L.getD i false = true
theorem wp_region_mono {P : Program} {id : Nat} {ops : Array Oper} {Q : Exit → Act → World → Prop} {a : Act} {w : World} (hm : P.follows .mixedOrders = true) (he : edgesBackM ops = true) (ds : List Nat) (hds : ops.toList.map (·.dst) = ds.map some) (hnd : ds.Nodup) (hin : ds.all (· < a.tmps.size) = true)
    (Rs : Nat → MR) (fzs : List Nat) (anc : List (List Nat)) (ha : ancOk ops anc = true) (hfz : fzOk ds.length fzs anc Rs = true)
    (hs : ∀ i, i < ds.length → ∀ (ρ : Operand → Value) (W : World), MEnv ops ds a.tmps Rs w i ρ W → MonoAt P ops i ρ W (fun v W' => StepW (fzs.contains i) w W W' ∧ (Rs i).p v W'))
    (hf : ∀ (u : Nat → Value) (W : World), Below w.heap.size w W → (∀ j, j < ds.length → (Rs j).p (u j) W) → Q .normal ⟨lay a.tmps ds u 0, a.defers⟩ W) : (Code.region id ops true).wp P Q a w := by
  have hlen : ops.size = ds.length := by
    have := congrArg List.length hds
    simpa using this
  have hall : ∀ d ∈ ds, d < a.tmps.size := fun d hd => of_decide_eq_true (List.all_eq_true.1 hin d hd)
  have hdst : ∀ (i : Nat) (o : Oper), ops[i]? = some o → o.dst = some (ds.getD i 0) := fun i o ho => by
    have h1 : (ops.toList.map (·.dst))[i]? = some o.dst := by rw [List.getElem?_map, Array.getElem?_toList, ho]; rfl
    rw [hds, List.getElem?_map] at h1
    rw [List.getD_eq_getElem?_getD]
    cases h2 : ds[i]? with
    | none => rw [h2] at h1; cases h1
    | some d => rw [h2] at h1; simp only [Option.map_some, Option.some.injEq] at h1; rw [← h1]; rfl
  have hget : ∀ j (h : j < ds.length), ds.getD j 0 = ds[j] := fun j h => by
    rw [List.getD_eq_getElem?_getD, List.getElem?_eq_getElem h]; rfl
  have hne : ∀ i j, i < ds.length → j < ds.length → i ≠ j → ds.getD i 0 ≠ ds.getD j 0 := fun i j hi hj hij h9 => by
    rw [hget i hi, hget j hj] at h9
    exact hij ((List.getElem_inj hnd).1 h9)
  refine wp_region_any hm (wpAny_invM he (MInv ops ds a.tmps a.defers Rs w) ?_ ?_ _ _ _ _ (by simp) (by simp) ?_)
  · intro L b W i hI hC
    have hi : i < ds.length := by rw [← hlen]; exact hC.lt
    have hiL : i < L.size := by have := hC.size; omega
    have hE : MEnv ops ds a.tmps Rs w i b.eval W := by
      refine ⟨hI.up, fun _ => rfl, fun _ => rfl, fun s h9 => ?_, fun j hj => ?_⟩
      · show b.tmps.getD s undef = _
        have h8 : s ∉ ds := fun h7 => by rw [List.contains_iff_mem.2 h7] at h9; cases h9
        rw [Array.getD_eq_getD_getElem?, Array.getD_eq_getD_getElem?, hI.old s h8]
      · exact hI.has j (by have := depB_lt he hj; omega) (hC.dep hj)
    have h1 := hs i hi b.eval W hE
    unfold MonoAt at h1
    unfold wpOp
    cases ho : ops[i]? with
    | none => rw [ho] at h1; exact h1.elim
    | some o =>
      rw [ho] at h1
      simp only at h1 ⊢
      rw [if_pos (by simp [Region.wanted, h1.1])]
      refine .inl (h1.2.wp (fun v W' hv => ?_))
      have hd := hdst i o ho
      rw [hd]
      have hsz := hI.size
      have hlt : ds.getD i 0 < b.tmps.size := by rw [hsz, hget i hi]; exact hall _ (List.getElem_mem _)
      have hup : Below w.heap.size w W' := by
        have h5 := hv.1
        unfold StepW at h5
        split at h5
        · exact h5.2
        · exact hI.up.trans (h5.mono hI.up.size)
      refine ⟨?_, hI.dfs, hup, fun s h9 => ?_, fun j hj hL => ?_, fun j hL k hk => ?_⟩
      · simp [Act.put, hsz]
      · show (b.tmps.setIfInBounds (ds.getD i 0) v)[s]? = _
        rw [Array.getElem?_setIfInBounds_ne (fun h8 => h9 (by rw [← h8, hget i hi]; exact List.getElem_mem _)), hI.old s h9]
      · show (Rs j).p ((b.tmps.setIfInBounds (ds.getD i 0) v).getD (ds.getD j 0) undef) W'
        rw [lsetM L i j hiL] at hL
        by_cases hij : i = j
        · subst hij
          rw [Array.getD_eq_getD_getElem?, Array.getElem?_setIfInBounds_self_of_lt hlt]
          exact hv.2
        · simp only [hij, decide_false, Bool.false_or] at hL
          have h7 := hI.has j hj hL
          rw [Array.getD_eq_getD_getElem?, Array.getElem?_setIfInBounds_ne (hne i j hi hj hij), ← Array.getD_eq_getD_getElem?]
          have h5 := hv.1
          unfold StepW at h5
          split at h5
          · rename_i hfi
            have h6 := List.all_eq_true.1 (List.all_eq_true.1 hfz j (List.mem_range.2 hj)) i (List.contains_iff_mem.1 hfi)
            rw [Bool.or_eq_true, Bool.or_eq_true] at h6
            rcases h6 with (h6 | h6) | h6
            · exact absurd (by simpa using h6) hij
            · have h8 := anc_has he ha hI.cls j hL i h6
              rw [hC.not] at h8
              cases h8
            · exact (Rs j).fz h6 h7 h5.1
          · exact (Rs j).up h7 h5
      · rw [lsetM L i j hiL] at hL
        rw [lsetM L i k hiL, Bool.or_eq_true]
        right
        by_cases hij : i = j
        · subst hij
          exact hC.dep hk
        · simp only [hij, decide_false, Bool.false_or] at hL
          exact hI.cls j hL k hk
  · intro L b W hI hsz hL
    have h1 := hf (fun j => b.tmps.getD (ds.getD j 0) undef) W hI.up (fun j hj => hI.has j hj (hL j (by omega)))
    have e : b.tmps = lay a.tmps ds (fun j => b.tmps.getD (ds.getD j 0) undef) 0 := by
      refine Array.ext_getElem? (fun s => ?_)
      by_cases hs2 : s ∈ ds
      · obtain ⟨j, hj, rfl⟩ := List.getElem_of_mem hs2
        rw [lay_at _ ds a.tmps 0 j hnd hall hj, Nat.zero_add]
        have hlt : ds[j] < b.tmps.size := by rw [hI.size]; exact hall _ (List.getElem_mem _)
        rw [Array.getElem?_eq_getElem hlt, hget j hj]
        simp [Array.getD, hlt]
      · rw [lay_old _ ds _ _ _ hs2]
        exact hI.old s hs2
    obtain ⟨bt, bd⟩ := b
    have e2 := hI.dfs
    simp only at e e2
    rw [← e, ← e2] at h1
    exact h1
  · exact ⟨rfl, rfl, ⟨rfl, rfl, rfl, Nat.le_refl _, fun _ _ => rfl⟩, fun _ _ => rfl, fun j hj h9 => by simp [Array.getD] at h9, fun j h9 => by simp [Array.getD] at h9⟩
/-- The operations from a place on wait for all that stand ahead of them. -/
def tailOk (n k : Nat) (anc : List (List Nat)) : Bool := (List.range n).all fun i => decide (i < k) || (List.range i).all fun j => (anc.getD i []).contains j
/-- The state of a region whose last operations follow all others, in their order. -/
inductive TInv (P : Program) (ops : Array Oper) (Q : Exit → Act → World → Prop) (k0 : Nat) (ds : List Nat) (t0 : Array Value) (df : List Deferred) (Rs : Nat → MR) (w : World) (L : Array Bool) (a : Act) (W : World) : Prop
  | early (h : MInv ops ds t0 df Rs w L a W) (hn : ∀ j, k0 ≤ j → L.getD j false = false)
  | late (k : Nat) (hk : k0 ≤ k) (hcls : ∀ j, L.getD j false = true → ∀ i, depB ops j i = true → L.getD i false = true) (h1 : ∀ j, j < k → j < ops.size → L.getD j false = true) (h2 : ∀ j, k ≤ j → L.getD j false = false) (h : wpList P ops Q (ops.toList.drop k) a W)
theorem cls_set {ops : Array Oper} {L : Array Bool} {i : Nat} (hi : i < L.size) (hC : Comes ops L i) (hcls : ∀ j, L.getD j false = true → ∀ i, depB ops j i = true → L.getD i false = true) : ∀ j, (L.setIfInBounds i true).getD j false = true → ∀ k, depB ops j k = true → (L.setIfInBounds i true).getD k false = true := fun j hL k hk => by
  rw [lsetM L i j hi] at hL
  rw [lsetM L i k hi, Bool.or_eq_true]
  right
  by_cases hij : i = j
  · subst hij
    exact hC.dep hk
  · simp only [hij, decide_false, Bool.false_or] at hL
    exact hcls j hL k hk
theorem wpOp_list {P : Program} {ops : Array Oper} {Q : Exit → Act → World → Prop} {k : Nat} {a : Act} {W : World} (hk : k < ops.size) (h : wpList P ops Q (ops.toList.drop k) a W) : wpOp P ops Q k (wpList P ops Q (ops.toList.drop (k + 1))) a W := by
  have e : ops.toList.drop k = ops[k] :: ops.toList.drop (k + 1) := by
    rw [List.drop_eq_getElem_cons (by simpa using hk)]
    simp
  rw [e] at h
  unfold wpOp
  rw [Array.getElem?_eq_getElem hk]
  simp only
  unfold wpList at h
  split at h
  · rename_i hw; rw [if_pos hw]; exact h
  · rename_i hw; rw [if_neg hw]; exact h
theorem wp_region_monoT {P : Program} {id : Nat} {ops : Array Oper} {Q : Exit → Act → World → Prop} {a : Act} {w : World} (hm : P.follows .mixedOrders = true) (he : edgesBackM ops = true) (ds : List Nat) (hds : (ops.toList.take ds.length).map (·.dst) = ds.map some) (hlen : ds.length ≤ ops.size) (hnd : ds.Nodup) (hin : ds.all (· < a.tmps.size) = true)
    (Rs : Nat → MR) (fzs : List Nat) (anc : List (List Nat)) (ha : ancOk ops anc = true) (hfz : fzOk ds.length fzs anc Rs = true) (ht : tailOk ops.size ds.length anc = true) (rest : List Oper) (hrest : ops.toList.drop ds.length = rest)
    (hs : ∀ i, i < ds.length → ∀ (ρ : Operand → Value) (W : World), MEnv ops ds a.tmps Rs w i ρ W → MonoAt P ops i ρ W (fun v W' => StepW (fzs.contains i) w W W' ∧ (Rs i).p v W'))
    (hf : ∀ (u : Nat → Value) (W : World), Below w.heap.size w W → (∀ j, j < ds.length → (Rs j).p (u j) W) → wpList P ops Q rest ⟨lay a.tmps ds u 0, a.defers⟩ W) : (Code.region id ops true).wp P Q a w := by
  subst hrest
  have hall : ∀ d ∈ ds, d < a.tmps.size := fun d hd => of_decide_eq_true (List.all_eq_true.1 hin d hd)
  have hdst : ∀ (i : Nat) (o : Oper), i < ds.length → ops[i]? = some o → o.dst = some (ds.getD i 0) := fun i o hi ho => by
    have h1 : ((ops.toList.take ds.length).map (·.dst))[i]? = some o.dst := by rw [List.getElem?_map, List.getElem?_take, if_pos hi, Array.getElem?_toList, ho]; rfl
    rw [hds, List.getElem?_map] at h1
    rw [List.getD_eq_getElem?_getD]
    cases h2 : ds[i]? with
    | none => rw [h2] at h1; cases h1
    | some d => rw [h2] at h1; simp only [Option.map_some, Option.some.injEq] at h1; rw [← h1]; rfl
  have hget : ∀ j (h : j < ds.length), ds.getD j 0 = ds[j] := fun j h => by
    rw [List.getD_eq_getElem?_getD, List.getElem?_eq_getElem h]; rfl
  have hne : ∀ i j, i < ds.length → j < ds.length → i ≠ j → ds.getD i 0 ≠ ds.getD j 0 := fun i j hi hj hij h9 => by
    rw [hget i hi, hget j hj] at h9
    exact hij ((List.getElem_inj hnd).1 h9)
  have htail : ∀ i, i < ops.size → ds.length ≤ i → ∀ j, j < i → (anc.getD i []).contains j = true := fun i hi hk j hj => by
    have h1 := List.all_eq_true.1 ht i (List.mem_range.2 hi)
    rw [Bool.or_eq_true] at h1
    rcases h1 with h1 | h1
    · have := of_decide_eq_true h1; omega
    · exact List.all_eq_true.1 h1 j (List.mem_range.2 hj)
  have hancs : ∀ (L : Array Bool), (∀ j, L.getD j false = true → ∀ i, depB ops j i = true → L.getD i false = true) → ∀ i, Comes ops L i → ∀ j, (anc.getD i []).contains j = true → L.getD j false = true := fun L hc i hC j hj => by
    have hiL : i < L.size := by have := hC.size; have := hC.lt; omega
    have h1 := anc_has he ha (cls_set hiL hC hc) i (by rw [lsetM L i i hiL]; simp) j hj
    have hji : j < i ∨ i = j ∨ i < j := by omega
    rw [lsetM L i j hiL] at h1
    by_cases hij : i = j
    · exfalso
      subst hij
      -- i waits for itself
      have hlt : i < anc.length := by
        rcases Nat.lt_or_ge i anc.length with h | h
        · exact h
        · rw [List.getD_eq_getElem?_getD, List.getElem?_eq_none h] at hj
          simp at hj
      have hanc : ∀ j, ∀ k, (anc.getD j []).contains k = true → k < j := by
        intro j
        induction j using Nat.strongRecOn with
        | ind j ih =>
          intro k hk
          have hltj : j < anc.length := by
            rcases Nat.lt_or_ge j anc.length with h | h
            · exact h
            · rw [List.getD_eq_getElem?_getD, List.getElem?_eq_none h] at hk
              simp at hk
          have h5 := List.all_eq_true.1 (List.all_eq_true.1 ha j (List.mem_range.2 hltj)) k (List.contains_iff_mem.1 hk)
          rw [Bool.or_eq_true] at h5
          rcases h5 with h5 | h5
          · exact depB_lt he h5
          · obtain ⟨m, hm, h6⟩ := List.any_eq_true.1 h5
            rw [Bool.and_eq_true] at h6
            have h7 := depB_lt he h6.1
            have h8 := ih m h7 k h6.2
            omega
      have := hanc i i hj
      omega
    · simpa [hij] using h1
  refine wp_region_any hm (wpAny_invM he (TInv P ops Q ds.length ds a.tmps a.defers Rs w) ?_ ?_ _ _ _ _ (by simp) (by simp) ?_)
  · intro L b W i hI hC
    have hiL : i < L.size := by have := hC.size; have := hC.lt; omega
    cases hI with
    | late k hk hcls h1 h2 h =>
      have hik : i = k := by
        rcases Nat.lt_trichotomy i k with h9 | h9 | h9
        · have := h1 i h9 hC.lt; rw [hC.not] at this; cases this
        · exact h9
        · have h8 := hancs L hcls i hC k (htail i hC.lt (by omega) k h9)
          rw [h2 k (Nat.le_refl _)] at h8; cases h8
      subst hik
      refine wpOp_mono (fun a' w' h' => .late (i + 1) (by omega) (cls_set hiL hC hcls) (fun j hj hj2 => ?_) (fun j hj => ?_) h') (wpOp_list hC.lt h)
      · rw [lsetM L i j hiL]
        by_cases hij : i = j
        · simp [hij]
        · simp only [hij, decide_false, Bool.false_or]; exact h1 j (by omega) hj2
      · rw [lsetM L i j hiL]
        simp only [show i ≠ j by omega, decide_false, Bool.false_or]
        exact h2 j (by omega)
    | early hI hn =>
      by_cases hi : i < ds.length
      · have hE : MEnv ops ds a.tmps Rs w i b.eval W := by
          refine ⟨hI.up, fun _ => rfl, fun _ => rfl, fun s h9 => ?_, fun j hj => ?_⟩
          · show b.tmps.getD s undef = _
            have h8 : s ∉ ds := fun h7 => by rw [List.contains_iff_mem.2 h7] at h9; cases h9
            rw [Array.getD_eq_getD_getElem?, Array.getD_eq_getD_getElem?, hI.old s h8]
          · exact hI.has j (by have := depB_lt he hj; omega) (hC.dep hj)
        have h1 := hs i hi b.eval W hE
        unfold MonoAt at h1
        unfold wpOp
        cases ho : ops[i]? with
        | none => rw [ho] at h1; exact h1.elim
        | some o =>
          rw [ho] at h1
          simp only at h1 ⊢
          rw [if_pos (by simp [Region.wanted, h1.1])]
          refine .inl (h1.2.wp (fun v W' hv => ?_))
          have hd := hdst i o hi ho
          rw [hd]
          have hsz := hI.size
          have hlt : ds.getD i 0 < b.tmps.size := by rw [hsz, hget i hi]; exact hall _ (List.getElem_mem _)
          have hup : Below w.heap.size w W' := by
            have h5 := hv.1
            unfold StepW at h5
            split at h5
            · exact h5.2
            · exact hI.up.trans (h5.mono hI.up.size)
          refine .early ⟨?_, hI.dfs, hup, fun s h9 => ?_, fun j hj hL => ?_, cls_set hiL hC hI.cls⟩ (fun j hj => ?_)
          · simp [Act.put, hsz]
          · show (b.tmps.setIfInBounds (ds.getD i 0) v)[s]? = _
            rw [Array.getElem?_setIfInBounds_ne (fun h8 => h9 (by rw [← h8, hget i hi]; exact List.getElem_mem _)), hI.old s h9]
          · show (Rs j).p ((b.tmps.setIfInBounds (ds.getD i 0) v).getD (ds.getD j 0) undef) W'
            rw [lsetM L i j hiL] at hL
            by_cases hij : i = j
            · subst hij
              rw [Array.getD_eq_getD_getElem?, Array.getElem?_setIfInBounds_self_of_lt hlt]
              exact hv.2
            · simp only [hij, decide_false, Bool.false_or] at hL
              have h7 := hI.has j hj hL
              rw [Array.getD_eq_getD_getElem?, Array.getElem?_setIfInBounds_ne (hne i j hi hj hij), ← Array.getD_eq_getD_getElem?]
              have h5 := hv.1
              unfold StepW at h5
              split at h5
              · rename_i hfi
                have h6 := List.all_eq_true.1 (List.all_eq_true.1 hfz j (List.mem_range.2 hj)) i (List.contains_iff_mem.1 hfi)
                rw [Bool.or_eq_true, Bool.or_eq_true] at h6
                rcases h6 with (h6 | h6) | h6
                · exact absurd (by simpa using h6) hij
                · have h8 := anc_has he ha hI.cls j hL i h6
                  rw [hC.not] at h8
                  cases h8
                · exact (Rs j).fz h6 h7 h5.1
              · exact (Rs j).up h7 h5
          · rw [lsetM L i j hiL]
            simp only [show i ≠ j by omega, decide_false, Bool.false_or]
            exact hn j hj
      · have hik : i = ds.length := by
          rcases Nat.lt_or_ge ds.length i with h9 | h9
          · have h8 := hancs L hI.cls i hC ds.length (htail i hC.lt (by omega) _ h9)
            rw [hn _ (Nat.le_refl _)] at h8; cases h8
          · omega
        have hbefore : ∀ j, j < ds.length → L.getD j false = true := fun j hj => hancs L hI.cls i hC j (htail i hC.lt (by omega) j (by omega))
        have h1 := hf (fun j => b.tmps.getD (ds.getD j 0) undef) W hI.up (fun j hj => hI.has j hj (hbefore j hj))
        have e : b.tmps = lay a.tmps ds (fun j => b.tmps.getD (ds.getD j 0) undef) 0 := by
          refine Array.ext_getElem? (fun s => ?_)
          by_cases hs2 : s ∈ ds
          · obtain ⟨j, hj, rfl⟩ := List.getElem_of_mem hs2
            rw [lay_at _ ds a.tmps 0 j hnd hall hj, Nat.zero_add]
            have hlt : ds[j] < b.tmps.size := by rw [hI.size]; exact hall _ (List.getElem_mem _)
            rw [Array.getElem?_eq_getElem hlt, hget j hj]
            simp [Array.getD, hlt]
          · rw [lay_old _ ds _ _ _ hs2]
            exact hI.old s hs2
        have h2 : wpList P ops Q (ops.toList.drop i) b W := by
          obtain ⟨bt, bd⟩ := b
          have e2 := hI.dfs
          simp only at e e2
          rw [← e, ← e2] at h1
          rw [hik]
          exact h1
        refine wpOp_mono (fun a' w' h' => .late (i + 1) (by omega) (cls_set hiL hC hI.cls) (fun j hj hj2 => ?_) (fun j hj => ?_) h') (wpOp_list hC.lt h2)
        · rw [lsetM L i j hiL]
          by_cases hij : i = j
          · simp [hij]
          · simp only [hij, decide_false, Bool.false_or]; exact hbefore j (by omega)
        · rw [lsetM L i j hiL]
          simp only [show i ≠ j by omega, decide_false, Bool.false_or]
          exact hn j (by omega)
  · intro L b W hI hsz hL
    cases hI with
    | late k hk hcls h1 h2 h =>
      have hk2 : ops.size ≤ k := by
        rcases Nat.lt_or_ge k ops.size with h9 | h9
        · have := hL k h9; rw [h2 k (Nat.le_refl _)] at this; cases this
        · exact h9
      rw [List.drop_of_length_le (by simpa using hk2)] at h
      exact h
    | early hI hn =>
      have hk2 : ops.size ≤ ds.length := by
        rcases Nat.lt_or_ge ds.length ops.size with h9 | h9
        · have := hL _ h9; rw [hn _ (Nat.le_refl _)] at this; cases this
        · exact h9
      have h1 := hf (fun j => b.tmps.getD (ds.getD j 0) undef) W hI.up (fun j hj => hI.has j hj (hL j (by omega)))
      rw [List.drop_of_length_le (by simpa using hk2)] at h1
      have e : b.tmps = lay a.tmps ds (fun j => b.tmps.getD (ds.getD j 0) undef) 0 := by
        refine Array.ext_getElem? (fun s => ?_)
        by_cases hs2 : s ∈ ds
        · obtain ⟨j, hj, rfl⟩ := List.getElem_of_mem hs2
          rw [lay_at _ ds a.tmps 0 j hnd hall hj, Nat.zero_add]
          have hlt : ds[j] < b.tmps.size := by rw [hI.size]; exact hall _ (List.getElem_mem _)
          rw [Array.getElem?_eq_getElem hlt, hget j hj]
          simp [Array.getD, hlt]
        · rw [lay_old _ ds _ _ _ hs2]
          exact hI.old s hs2
      obtain ⟨bt, bd⟩ := b
      have e2 := hI.dfs
      simp only at e e2
      rw [← e, ← e2] at h1
      exact h1
  · exact .early ⟨rfl, rfl, ⟨rfl, rfl, rfl, Nat.le_refl _, fun _ _ => rfl⟩, fun _ _ => rfl, fun j hj h9 => by simp [Array.getD] at h9, fun j h9 => by simp [Array.getD] at h9⟩ (fun j _ => by simp [Array.getD])
end Go.Proofs.Ytomolfdcdmncoaa
namespace Go.Proofs.Ytomolfdcdmncoaa
open Go.RowKit Go
set_option linter.unusedVariables false
set_option maxRecDepth 100000
section
variable {P : Program} {o : Oper} {ρ : Operand → Value} {w : World} {R : Value → World → Prop}
theorem mo_val {v : Value} {w' : World} (h : (execOp ρ o).run P w = .ok (.value v) w') (hr : R v w') : MonoOp P o ρ w R := by
  unfold MonoOp; rw [h]; exact hr
theorem mo_move {x : Operand} (ho : o.op = .move x) (hr : R (ρ x) w) : MonoOp P o ρ w R := mo_val (by unfold execOp; simp only [ho]; rfl) hr
theorem mo_assign {x : Operand} (ho : o.op = .assign x) (hr : R (ρ x) w) : MonoOp P o ρ w R := mo_val (by unfold execOp; simp only [ho]; rfl) hr
theorem mo_field {s : TypeId} {x : Operand} {f b j j' : Nat} (ho : o.op = .fieldAddr s x f) (hx : ρ x = .pointer (some ⟨b, j, none⟩)) (hf : ∀ w, (Instr.fieldAt s (.pointer (some ⟨b, j, none⟩)) f).run P w = .ok (.pointer (some ⟨b, j', none⟩)) w) (hr : R (.pointer (some ⟨b, j', none⟩)) w) : MonoOp P o ρ w R :=
  mo_val (by unfold execOp; simp only [ho, hx, Sem.run_bind, hf, Result.andThen_ok]; rfl) hr
theorem mo_index {t : TypeId} {x y : Operand} {v i u : Value} (ho : o.op = .indexAddr t x y) (hx : ρ x = v) (hy : ρ y = i) (hi : (Instr.indexAt t v i).run P w = .ok u w) (hr : R u w) : MonoOp P o ρ w R :=
  mo_val (by unfold execOp; simp only [ho, hx, hy, Sem.run_bind, hi, Result.andThen_ok]; rfl) hr
theorem mo_load1 {t : TypeId} {x : Operand} {b j : Nat} {v : Value} (ho : o.op = .load t x) (hx : ρ x = .pointer (some ⟨b, j, none⟩)) (hc : w.cell? ⟨b, j, none⟩ = some v) (ha : ∀ w, (isAgg t).run P w = .ok false w) (hr : R v w) : MonoOp P o ρ w R := by
  refine mo_val (v := v) (w' := w) ?_ hr
  unfold execOp
  simp only [ho, hx, Instr.loadAt, Instr.sureAddr, Sem.run_bind, Sem.run_pure, Result.andThen_ok]
  simp [loadVar, Sem.run_bind, ha, Result.andThen, go_sem, hc]
theorem mo_loadm {t : TypeId} {x : Operand} {b j : Nat} {cs : List Value} {d : TypeDesc} (ho : o.op = .load t x) (hx : ρ x = .pointer (some ⟨b, j, none⟩)) (hc : w.rangeAt b j cs) (hu : P.underlying t = some d) (hd : d.isRow = true) (hi : (P.info? t).map (·.size) = some cs.length) (hr : R (.agg cs.toArray) w) : MonoOp P o ρ w R :=
  mo_val (by unfold execOp; simp only [ho, hx, Sem.run_bind, run_loadAt_mid w b j t cs d hc hu hd hi, Result.andThen_ok]; rfl) hr
theorem mo_loadr {t t2 : TypeId} {x : Operand} {g : Nat} {cs : Array Value} {fr : Nat × Nat} {d : TypeDesc} (ho : o.op = .load t x) (hx : ρ x = .pointer (some ⟨g, 0, none⟩)) (hg : w.heap[g]? = some (.cells cs t2 fr)) (hu : P.underlying t = some d) (hd : (match d with | .struct _ | .array _ _ => true | _ => false) = true) (hi : (P.info? t).map (·.size) = some cs.size) (hr : R (.agg cs) w) : MonoOp P o ρ w R := by
  refine mo_val (v := .agg cs) (w' := w) ?_ hr
  unfold execOp
  simp only [ho, hx, Instr.loadAt, Instr.sureAddr, Sem.run_bind, Sem.run_pure, Result.andThen_ok]
  rw [run_loadVar_row w g t2 t cs fr d hg hu hd hi]
  rfl
theorem mo_conv {s d : TypeId} {x : Operand} {v v' : Value} (ho : o.op = .convert s d x) (hx : ρ x = v) (hc : (convert s d v).run P w = .ok v' w) (hr : R v' w) : MonoOp P o ρ w R :=
  mo_val (by unfold execOp; simp only [ho, hx, Sem.run_bind, hc, Result.andThen_ok]; rfl) hr
theorem mo_bin {b : BinOp} {t t2 : TypeId} {x y : Operand} {v u r : Value} (ho : o.op = .binOp b t x y t2) (hb : ∀ x y, eqGuard b t x y v u = pure ()) (hx : ρ x = v) (hy : ρ y = u) (hr : (binOp b t v u).run P w = .ok r w) (h : R r w) : MonoOp P o ρ w R := by
  refine mo_val (v := r) (w' := w) ?_ h
  unfold execOp
  simp only [ho, hx, hy, hb, Sem.run_bind, Sem.run_pure, Result.andThen_ok, hr]
theorem mo_struct {t : TypeId} {parts : Array (Nat × Operand)} {vs : Array (Nat × Value)} {v : Value} (ho : o.op = .build t parts) (hv : (parts.map fun (i, x) => (i, ρ x)) = vs) (hr : (Instr.build t vs).run P w = .ok v w) (h : R v w) : MonoOp P o ρ w R := by
  subst hv
  exact mo_val (by unfold execOp; simp only [ho, Sem.run_bind, hr, Result.andThen_ok]; rfl) h
theorem mo_alloc {t : TypeId} {v : Value} {w' : World} (ho : o.op = .alloc t) (hr : (Instr.alloc t true (.tuple #[])).run P w = .ok v w') (h : R v w') : MonoOp P o ρ w R :=
  mo_val (by unfold execOp; simp only [ho, Sem.run_bind, hr, Result.andThen_ok]; rfl) h
theorem mo_call {f : FuncId} {xs : Array Operand} {ts : Array TypeId} {args : Array Value} (ho : o.op = .call { callee := .value (.func f), args := xs, argTypes := ts }) (hfn : ρ (.func f) = .func (.func f) #[] #[]) (hcf : ∀ (args : Array Value) (w : World), (callFunc f args).run P w = .ok (.enter f args) w) (ha : xs.map ρ = args) (h : Calls P f args w fun e w'' => ∃ v, e = .returned v ∧ R v w'') : MonoOp P o ρ w R := by
  have e : (execOp ρ o).run P w = .ok (.enter f args) w := by
    unfold execOp
    simp only [ho, resolve, hfn, ha, Deferred.ofValue, invoke, Sem.run_bind, Sem.run_pure, Result.andThen_ok]
    simp [hcf]
  unfold MonoOp
  rw [e]
  exact h
theorem mo_build {t e : TypeId} {len : Nat} {parts : Array (Nat × Operand)} {vs : List (Nat × Value)} {cells : Array Value} {ie : TypeInfo} {z : Value} (ho : o.op = .buildSlice t len parts) (hu : P.underlying t = some (.slice e)) (hie : P.info? e = some ie) (hz : ie.zero = some z) (hsmall : ¬ len * ie.size > 2 ^ 24) (hpos : ¬ len * ie.size = 0)
    (hv : (parts.map fun (i, x) => (i, ρ x)).toList = vs) (hf : Instr.fill (fun i => some (i * ie.size, ie.size)) ((Array.range (len * ie.size)).map (z.cells[· % z.cells.size]!)) vs = some cells)
    (hr : R (.slice (some ⟨w.heap.size, 0, none⟩) len len) (w.alloc (.cells cells e))) : MonoOp P o ρ w R := by
  subst hv
  refine mo_val ?_ hr
  unfold execOp
  simp only [ho, Sem.run_bind, run_buildSlice w t e len _ cells ie z hu hie hz hsmall hpos hf, Result.andThen_ok]
  rfl
end
/-- What a call makes, as what a slot holds. -/
theorem fresh_own {f : FuncId} {args : Array Value} {W : World} {base : Nat} {bs : List UInt8} (h : Calls Try.prog f args W (Fresh W bs)) (hb : base ≤ W.heap.size) : Calls Try.prog f args W fun e w'' => ∃ v, e = .returned v ∧ (Below W.heap.size W w'' ∧ (MR.own base bs).p v w'') := by
  refine h.mono ?_
  rintro e w' ⟨A, n, c, rfl, ho, hbl⟩
  exact ⟨_, rfl, hbl, A, n, c, rfl, ho.lower hb⟩
theorem u8_parts : ∃ i, Try.prog.info? 5 = some i ∧ i.zero = some (.int .u8 0) ∧ i.size = 1 := by
  obtain ⟨i, hi, hz0, hz1, hz2⟩ := info_parts u8_info
  exact ⟨i, hi, hz0, hz1⟩
/-- The same, read alone. -/
theorem to_rb {f : FuncId} {args : Array Value} {W : World} {base : Nat} {bs : List UInt8} (h : Calls Try.prog f args W fun e w'' => ∃ v, e = .returned v ∧ (Below W.heap.size W w'' ∧ (MR.own base bs).p v w'')) : Calls Try.prog f args W fun e w'' => ∃ v, e = .returned v ∧ (Below W.heap.size W w'' ∧ (MR.rb bs).p v w'') := by
  refine h.mono ?_
  rintro e w' ⟨v, rfl, hbl, A, n, c, rfl, ho⟩
  exact ⟨_, rfl, hbl, A, n, c, rfl, ho.rb, ho.cap⟩
theorem lit_rb {W : World} {g : Nat} {bs : List UInt8} {t : TypeId} {q : Nat × Nat} (h : W.heap[g]? = some (.cells (bs.map bv).toArray t q)) : RB W (some ⟨g, 0, none⟩) bs.length bs := by
  refine ⟨rfl, fun _ => ⟨g, 0, rfl, (Array.getElem?_eq_some_iff.1 h).1, fun k hk => ?_⟩⟩
  rw [Nat.zero_add, Lib.cell_of_heap h k, List.getElem?_toArray, List.getElem?_map, List.getElem?_eq_getElem hk]
  rfl
theorem lit_own {W : World} {base g : Nat} {bs : List UInt8} (h : W.heap[g]? = some (.cells (bs.map bv).toArray 5 (0, 0))) (hb : base ≤ g) (hm : bs.length ≤ 1000000) : OwnB W base (some ⟨g, 0, none⟩) bs.length bs.length bs := by
  refine ⟨by simp, .inr ⟨g, bs.length, _, rfl, hb, h, Nat.le_refl _, by unfold maxLen; omega, by simp, ?_⟩⟩
  rw [List.take_of_length_le (by simp)]
/-- A list of bytes, laid. -/
theorem mo_bytes {o : Oper} {ρ : Operand → Value} {w : World} {base : Nat} (bs : List UInt8) (n : Nat) {parts : Array (Nat × Operand)} {vs : List (Nat × Value)} (ho : o.op = .buildSlice 22 n parts) (hv : (parts.map fun (i, x) => (i, ρ x)).toList = vs)
    (hf : Instr.fill (fun i => some (i * 1, 1)) ((Array.range (n * 1)).map ((Value.int .u8 0).cells[· % (Value.int .u8 0).cells.size]!)) vs = some (bs.map bv).toArray) (hn : bs.length = n) (h0 : 0 < n) (hm : n ≤ 10000) (hb : base ≤ w.heap.size) :
    MonoOp Try.prog o ρ w fun v W' => Below w.heap.size w W' ∧ (MR.lit base bs).p v W' := by
  obtain ⟨i, hi, hz0, hz1⟩ := u8_parts
  refine mo_build ho Try.underlying22 hi hz0 (by rw [hz1]; omega) (by rw [hz1]; omega) hv (cells := (bs.map bv).toArray) (by rw [hz1]; exact hf) ?_
  exact ⟨kp_alloc (Below.refl _ _) _, _, (0, 0), by rw [hn], hb, heap_alloc_new _ _⟩
theorem wpList_val {P : Program} {w w' : World} {ops : Array Oper} {rest : List Oper} {o : Oper} {a : Act} {Q : Exit → Act → World → Prop} {v : Value} (hgd : o.guard = none) (hr : (execOp a.eval o).run P w = .ok (.value v) w') (h : wpList P ops Q rest (a.put o.dst v) w') : wpList P ops Q (o :: rest) a w := by
  refine wpList_plain hgd fun K hK => ?_
  unfold Oper.wp
  rw [hr]
  exact hK _ _ h
theorem wpList_bytes {w : World} {ops : Array Oper} {rest : List Oper} {o : Oper} {a : Act} {Q : Exit → Act → World → Prop} (bs : List UInt8) (n : Nat) {parts : Array (Nat × Operand)} (hgd : o.guard = none) (ho : o.op = .buildSlice 22 n parts)
    (vs : List (Nat × Value)) (hv : (parts.map fun (i, x) => (i, a.eval x)).toList = vs) (hf : Instr.fill (fun i => some (i * 1, 1)) ((Array.range (n * 1)).map ((Value.int .u8 0).cells[· % (Value.int .u8 0).cells.size]!)) vs = some (bs.map bv).toArray) (h0 : 0 < n) (hm : n ≤ 10000)
    (h : wpList Try.prog ops Q rest (a.put o.dst (.slice (some ⟨w.heap.size, 0, none⟩) n n)) (w.alloc (.cells (bs.map bv).toArray 5))) : wpList Try.prog ops Q (o :: rest) a w := by
  subst hv
  obtain ⟨i, hi, hz0, hz1⟩ := u8_parts
  exact wpList_buildSlice hgd 22 5 n parts ho (bs.map bv).toArray i (.int .u8 0) Try.underlying22 hi hz0 (by rw [hz1]; omega) (by rw [hz1]; omega) (by rw [hz1]; exact hf) h
/-- '[]byte("..")' of a row that was laid: the row is marked. -/
theorem run_freeze (W : World) (g n c : Nat) (C : Array Value) (q : Nat × Nat) (h : W.heap[g]? = some (.cells C 5 q)) :
    ∃ W', (convert 22 22 (.slice (some ⟨g, 0, none⟩) n c)).run Try.prog W = .ok (.slice (some ⟨g, 0, none⟩) n c) W' ∧ Frz W W' ∧ ∀ v : World, v.heap.size ≤ g → Below v.heap.size v W → Below v.heap.size v W' := by
  have hsh : W.shape? g = some (5, C.size) := by unfold World.shape?; rw [h]
  have hrun : (convert 22 22 (.slice (some ⟨g, 0, none⟩) n c)).run Try.prog W = .ok (.slice (some ⟨g, 0, none⟩) n c) (W.freeze ⟨g, C.size, none⟩ 1) := by
    simp [convert, run_underlying Try.underlying22, run_underlying Try.underlying5, markStringish, hsh]
  have hother : ∀ k : Nat, k ≠ g → (W.freeze ⟨g, C.size, none⟩ 1).heap[k]? = W.heap[k]? := fun k hk => by
    unfold World.freeze
    rw [if_neg (by decide)]
    simp only [Array.getElem?_modify]
    rw [if_neg (fun h9 => hk h9.symm)]
  refine ⟨_, hrun, ⟨?_, ?_, ?_, ?_, fun k => ?_⟩, fun v hv hb => ?_⟩
  · unfold World.freeze; rw [if_neg (by decide)]
  · unfold World.freeze; rw [if_neg (by decide)]
  · unfold World.freeze; rw [if_neg (by decide)]
  · unfold World.freeze; rw [if_neg (by decide)]; simp
  · by_cases hk : k = g
    · subst hk
      obtain ⟨lo, hi⟩ := q
      refine .inr ⟨C, 5, (lo, hi), (if lo == hi then (C.size, C.size + 1) else (min lo C.size, max hi (C.size + 1))), h, ?_⟩
      unfold World.freeze
      rw [if_neg (by decide)]
      simp only [Array.getElem?_modify, if_true, h, Option.map_some]
    · exact .inl (hother k hk)
  · refine ⟨?_, ?_, ?_, ?_, fun k hk => ?_⟩
    · rw [← hb.os]; unfold World.freeze; rw [if_neg (by decide)]
    · rw [← hb.tape]; unfold World.freeze; rw [if_neg (by decide)]
    · rw [← hb.output]; unfold World.freeze; rw [if_neg (by decide)]
    · refine Nat.le_trans hb.size (Nat.le_of_eq ?_); unfold World.freeze; rw [if_neg (by decide)]; simp
    · rw [hother k (by omega)]; exact hb.block k hk
theorem mo_freeze {o : Oper} {ρ : Operand → Value} {w W : World} {x : Operand} {bs : List UInt8} (ho : o.op = .convert 22 22 x) (hx : (MR.lit w.heap.size bs).p (ρ x) W) (hup : Below w.heap.size w W) (hm : bs.length ≤ 1000000) :
    MonoOp Try.prog o ρ W fun v W' => (Frz W W' ∧ Below w.heap.size w W') ∧ (MR.rb bs).p v W' := by
  obtain ⟨g, q, e, h1, h2⟩ := hx
  obtain ⟨W', hr, hf, hb⟩ := run_freeze W g bs.length bs.length _ q h2
  refine mo_val (v := .slice (some ⟨g, 0, none⟩) bs.length bs.length) (w' := W') ?_ ⟨⟨hf, hb w h1 hup⟩, _, _, _, rfl, hf.rb (lit_rb h2), Nat.le_refl _, by unfold maxLen; omega⟩
  unfold execOp
  simp only [ho, e, Sem.run_bind, hr, Result.andThen_ok]
  rfl
end Go.Proofs.Ytomolfdcdmncoaa
namespace Go.Proofs.Ytomolfdcdmncoaa
open Go.RowKit Go
set_option linter.unusedVariables false
set_option maxRecDepth 100000
theorem Frz.rows {W W' : World} (h : Frz W W') {A : Option Addr} {l : List Row1} (hr : RowsP W A l) : RowsP W' A l := by
  refine ⟨fun hne => ?_, fun x hx => h.rb (hr.rb x hx)⟩
  obtain ⟨b, off, e, hlt, hc⟩ := hr.rd hne
  exact ⟨b, off, e, by rw [h.size]; exact hlt, fun k v hk => h.cell (hc k v hk)⟩
/-- Rows of bytes that are read. -/
def MR.rows (bss : List (List UInt8)) : MR := ⟨fun v W => ∃ A l, v = .slice A bss.length bss.length ∧ RowsP W A l ∧ l.map (·.2.2.2) = bss, fun ⟨A, l, e, h, hl⟩ hb => ⟨A, l, e, h.below hb, hl⟩, true, fun _ _ _ _ ⟨A, l, e, h, hl⟩ hb => ⟨A, l, e, hb.rows h, hl⟩⟩
theorem flat_map (l : List Row1) : flatR l = (l.map (·.2.2.2)).flatten := by unfold flatR; rw [List.flatMap_def]
theorem row_parts : ∃ i, Try.prog.info? 22 = some i ∧ i.zero = some (.slice none 0 0) ∧ i.size = 1 := by
  obtain ⟨i, hi, hz0, hz1, hz2⟩ := info_parts rows_row9.info
  exact ⟨i, hi, hz0, hz1⟩
/-- A list of rows, laid. -/
theorem mo_rows {o : Oper} {ρ : Operand → Value} {w : World} (l : List Row1) (k : Nat) {parts : Array (Nat × Operand)} {vs : List (Nat × Value)} (ho : o.op = .buildSlice 56 k parts) (hv : (parts.map fun (i, x) => (i, ρ x)).toList = vs)
    (hf : Instr.fill (fun i => some (i * 1, 1)) ((Array.range (k * 1)).map ((Value.slice none 0 0).cells[· % (Value.slice none 0 0).cells.size]!)) vs = some (l.map Row1.val).toArray) (hl : l.length = k) (h0 : 0 < k) (hm : k ≤ 10000) (hR : ∀ x ∈ l, RB w x.1 x.2.1 x.2.2.2) :
    MonoOp Try.prog o ρ w fun v W' => Below w.heap.size w W' ∧ (MR.rows (l.map (·.2.2.2))).p v W' := by
  obtain ⟨i, hi, hz0, hz1⟩ := row_parts
  refine mo_build ho Try.underlying56 hi hz0 (by rw [hz1]; omega) (by rw [hz1]; omega) hv (cells := (l.map Row1.val).toArray) (by rw [hz1]; exact hf) ?_
  exact ⟨kp_alloc (Below.refl _ _) _, _, l, by rw [List.length_map, hl], RowsP.new (by simp) hR, rfl⟩
theorem all1R {p : Row1 → Prop} {a : Row1} {l : List Row1} (h : p a) (hl : ∀ x ∈ l, p x) : ∀ x ∈ a :: l, p x := by
  intro x hx
  rcases List.mem_cons.1 hx with rfl | hx
  · exact h
  · exact hl x hx
theorem all0R {p : Row1 → Prop} : ∀ x ∈ ([] : List Row1), p x := fun x hx => by cases hx
section
variable {W : World} {base : Nat}
theorem writeM (tag : UInt8) {A : Option Addr} {n c : Nat} {bs : List UInt8} (h : RB W A n bs) (hl : bs.length ≤ 1000000) (hb : base ≤ W.heap.size) :
    Calls Try.prog 26 #[.int .u8 (tag.toNat : Int), .slice A n c] W fun e w'' => ∃ v, e = .returned v ∧ (Below W.heap.size W w'' ∧ (MR.own base (wrQ tag bs)).p v w'') :=
  fresh_own (rwrite_any tag A n c bs W h (by rw [← h.1]; omega)) hb
theorem putintM {A : Option Addr} {n c : Nat} {bs : List UInt8} (h : RB W A n bs) (hnc : n ≤ c) (hc : c ≤ maxLen) (hl : bs.length ≤ 1000000) (hb : base ≤ W.heap.size) :
    Calls Try.prog 27 #[.slice A n c] W fun e w'' => ∃ v, e = .returned v ∧ (Below W.heap.size W w'' ∧ (MR.own base (putI bs)).p v w'') :=
  fresh_own (rputint_any A n c bs W h hnc (by rw [← h.1]; omega) (maxLen_i64 hc)) hb
theorem seqM {A : Option Addr} {m c : Nat} {l : List Row1} {bss : List (List UInt8)} (h : RowsP W A l) (hl : l.map (·.2.2.2) = bss) (hn : bss.length = m) (hm : m ≤ 100000) (hlen : bss.flatten.length ≤ 1000000) (hb : base ≤ W.heap.size) :
    Calls Try.prog 28 #[.slice A m c] W fun e w'' => ∃ v, e = .returned v ∧ (Below W.heap.size W w'' ∧ (MR.own base (wrQ 48 bss.flatten)).p v w'') := by
  subst hl
  have h1 := seq_any A m c l W h (by rw [← hn, List.length_map]) (by omega) (by rw [flat_map]; exact hlen)
  rw [flat_map] at h1
  exact fresh_own h1 hb
theorem generalM (t : Tm) (hy : t.y ≤ 65535) (hb : base ≤ W.heap.size) :
    Calls Try.prog 46 #[tmV t] W fun e w'' => ∃ v, e = .returned v ∧ (Below W.heap.size W w'' ∧ (MR.own base (wrQ 24 (textB t))).p v w'') :=
  fresh_own (general_any t W hy) hb
end
end Go.Proofs.Ytomolfdcdmncoaa
