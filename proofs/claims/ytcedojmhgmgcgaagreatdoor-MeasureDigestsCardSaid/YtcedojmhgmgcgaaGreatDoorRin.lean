/-
  A region that draws its order, by an invariant over what has been done: each operation is shown once, whatever stands done ahead of it; no order is gone through.
-/
import Derived.Test.YtcedojmhgmgcgaaGreatDoorProg
import Derived.RegionTactic
import Derived.Orders
namespace Go.Proofs.YtcedojmhgmgcgaaGreatDoor
open Go
set_option linter.unusedVariables false
theorem cnt_set : ∀ (l : List Bool) (i : Nat), l[i]? = some false → (l.set i true).count false + 1 = l.count false
  | [], i, h => by simp at h
  | b :: l, 0, h => by
    have hb : b = false := by simpa using h
    subst hb
    simp
  | b :: l, i + 1, h => by
    have ih := cnt_set l i (by simpa using h)
    cases b <;> simp <;> omega
theorem getD_lt {l : Array Bool} {j : Nat} (h : j < l.size) (b c : Bool) : l.getD j b = l.getD j c := by
  simp [Array.getD, h]
/-- Every operation waits for elder ones alone. -/
def edgesBack (ops : Array Oper) : Bool := (List.range ops.size).all fun i => match ops[i]? with | some o => o.after.all fun e => decide (e.on < i) | none => true
theorem ready_nil_all {md : Region.Mode} {ops : Array Oper} (he : edgesBack ops = true) {listed : Array Bool} (hsz : listed.size = ops.size) (hr : Region.ready md ops listed = []) : ∀ j, j < ops.size → listed.getD j false = true := by
  intro j
  induction j using Nat.strongRecOn with
  | ind j ih =>
    intro hj
    cases hb : listed.getD j false with
    | true => rfl
    | false =>
      exfalso
      have hmem : j ∈ Region.ready md ops listed := by
        unfold Region.ready
        rw [List.mem_filter]
        refine ⟨List.mem_range.2 hj, ?_⟩
        have h1 : listed.getD j true = false := by rw [getD_lt (by omega) true false]; exact hb
        have h2 := List.all_eq_true.1 he j (List.mem_range.2 hj)
        rw [Array.getElem?_eq_getElem hj] at h2 ⊢
        simp only [h1, Bool.not_false, Bool.true_and, Option.map_some, Option.getD_some]
        rw [Array.all_eq_true_iff_forall_mem] at h2 ⊢
        intro e hem
        have h3 := of_decide_eq_true (h2 e hem)
        rw [ih e.on h3 (by omega)]
        simp
      rw [hr] at hmem
      cases hmem
/-- What is known of an operation that comes up. -/
structure Comes (ops : Array Oper) (listed : Array Bool) (i : Nat) : Prop where
  size : listed.size = ops.size
  lt : i < ops.size
  not : listed.getD i false = false
  deps : ∀ o, ops[i]? = some o → (o.after.all fun e => !Region.binds .any e || listed.getD e.on false) = true
def depB (ops : Array Oper) (i j : Nat) : Bool := match ops[i]? with | some o => o.after.any (fun e => e.on == j && Region.binds .any e) | none => false
theorem Comes.dep {ops : Array Oper} {listed : Array Bool} {i : Nat} (h : Comes ops listed i) {j : Nat} (hj : depB ops i j = true) : listed.getD j false = true := by
  unfold depB at hj
  split at hj
  · rename_i o ho
    have h1 := h.deps o ho
    rw [Array.any_eq_true'] at hj
    obtain ⟨e, he, h2⟩ := hj
    rw [Array.all_eq_true_iff_forall_mem] at h1
    have h3 := h1 e he
    simp only [Bool.and_eq_true, beq_iff_eq] at h2
    rw [h2.2, h2.1] at h3
    simpa using h3
  · cases hj
theorem wpAny_inv {P : Program} {ops : Array Oper} {Q : Exit → Act → World → Prop} (he : edgesBack ops = true) (I : Array Bool → Act → World → Prop)
    (hs : ∀ listed a w i, I listed a w → Comes ops listed i → wpOp P ops Q i (I (listed.setIfInBounds i true)) a w)
    (hf : ∀ listed a w, I listed a w → listed.size = ops.size → (∀ j, j < ops.size → listed.getD j false = true) → Q .normal a w) :
    ∀ (fuel : Nat) (listed : Array Bool) (a : Act) (w : World), listed.size = ops.size → listed.toList.count false ≤ fuel → I listed a w → wpAny P .any ops Q fuel listed a w := by
  intro fuel
  induction fuel with
  | zero =>
    intro listed a w hsz hc hI
    have hall : ∀ j, j < ops.size → listed.getD j false = true := fun j hj => by
      have hj2 : j < listed.size := by omega
      cases hb : listed.getD j false with
      | true => rfl
      | false =>
        exfalso
        have h1 : listed.toList[j]? = some false := by
          rw [Array.getElem?_toList, Array.getElem?_eq_getElem hj2]
          have : listed.getD j false = listed[j] := by simp [Array.getD, hj2]
          rw [← this, hb]
        have := cnt_set _ _ h1
        omega
    refine ⟨?_, hf listed a w hI hsz hall⟩
    unfold Region.ready
    rw [List.filter_eq_nil_iff]
    intro j hj
    have hj := List.mem_range.1 hj
    have h1 : listed.getD j true = true := by rw [getD_lt (by omega) true false]; exact hall j hj
    simp [h1]
  | succ fuel ih =>
    intro listed a w hsz hc hI
    refine ⟨fun hr => hf listed a w hI hsz (ready_nil_all he hsz hr), fun i hi => ?_⟩
    unfold Region.ready at hi
    rw [List.mem_filter] at hi
    obtain ⟨h1, h2⟩ := hi
    have hlt := List.mem_range.1 h1
    simp only [Bool.and_eq_true, Bool.not_eq_true'] at h2
    have hun : listed.getD i false = false := by rw [getD_lt (by omega) false true]; exact h2.1
    have hC : Comes ops listed i := ⟨hsz, hlt, hun, fun o ho => by
      have h3 := h2.2
      rw [ho] at h3
      simpa using h3⟩
    refine wpOp_mono (fun a' w' hI' => ih _ a' w' (by simpa using hsz) ?_ hI') (hs listed a w i hI hC)
    have hj2 : i < listed.size := by omega
    have h4 : listed.toList[i]? = some false := by
      rw [Array.getElem?_toList, Array.getElem?_eq_getElem hj2]
      have : listed.getD i false = listed[i] := by simp [Array.getD, hj2]
      rw [← this, hun]
    have h5 := cnt_set _ _ h4
    rw [Array.toList_setIfInBounds]
    omega
theorem wp_region_inv {P : Program} {id : Nat} {ops : Array Oper} {Q : Exit → Act → World → Prop} {a : Act} {w : World} (hm : P.follows .mixedOrders = true) (he : edgesBack ops = true) (I : Array Bool → Act → World → Prop)
    (h0 : I (Array.replicate ops.size false) a w.drew)
    (hs : ∀ listed a w i, I listed a w → Comes ops listed i → wpOp P ops Q i (I (listed.setIfInBounds i true)) a w)
    (hf : ∀ listed a w, I listed a w → listed.size = ops.size → (∀ j, j < ops.size → listed.getD j false = true) → Q .normal a w) : (Code.region id ops true).wp P Q a w :=
  wp_region_any hm (wpAny_inv he I hs hf _ _ _ _ (by simp) (by simp) h0)
end Go.Proofs.YtcedojmhgmgcgaaGreatDoor
