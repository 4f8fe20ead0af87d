/-
  A region that draws its order, inside a fence, by an invariant over what has been done.
-/
import Derived.Test.YtcedojmhgmgcgaaGreatDoorRin
import Derived.OrdersIn
import Derived.CallsIn
namespace Go.Proofs.YtcedojmhgmgcgaaGreatDoor
open Go
set_option linter.unusedVariables false
theorem wpAnyIn_inv {F : Fence} {n : Nat} {P : Program} {ops : Array Oper} {Q : Exit → Act → World → Prop} (he : edgesBack ops = true) (I : Array Bool → Act → World → Prop)
    (hs : ∀ listed a w i, I listed a w → Comes ops listed i → wpOpIn F n P ops Q i (I (listed.setIfInBounds i true)) a w)
    (hf : ∀ listed a w, I listed a w → listed.size = ops.size → (∀ j, j < ops.size → listed.getD j false = true) → Q .normal a w) :
    ∀ (fuel : Nat) (listed : Array Bool) (a : Act) (w : World), listed.size = ops.size → listed.toList.count false ≤ fuel → I listed a w → wpAnyIn F n P .any ops Q fuel listed a w := by
  intro fuel
  induction fuel with
  | zero =>
    intro listed a w hsz hc hI
    have hall : ∀ j, j < ops.size → listed.getD j false = true := fun j hj => by
      have hj2 : j < listed.size := by omega
      cases hb : listed.getD j false with
      | true => rfl
      | false =>
        exfalso
        have h1 : listed.toList[j]? = some false := by
          rw [Array.getElem?_toList, Array.getElem?_eq_getElem hj2]
          have : listed.getD j false = listed[j] := by simp [Array.getD, hj2]
          rw [← this, hb]
        have := cnt_set _ _ h1
        omega
    refine ⟨?_, hf listed a w hI hsz hall⟩
    unfold Region.ready
    rw [List.filter_eq_nil_iff]
    intro j hj
    have hj := List.mem_range.1 hj
    have h1 : listed.getD j true = true := by rw [getD_lt (by omega) true false]; exact hall j hj
    simp [h1]
  | succ fuel ih =>
    intro listed a w hsz hc hI
    refine ⟨fun hr => hf listed a w hI hsz (ready_nil_all he hsz hr), fun i hi => ?_⟩
    unfold Region.ready at hi
    rw [List.mem_filter] at hi
    obtain ⟨h1, h2⟩ := hi
    have hlt := List.mem_range.1 h1
    simp only [Bool.and_eq_true, Bool.not_eq_true'] at h2
    have hun : listed.getD i false = false := by rw [getD_lt (by omega) false true]; exact h2.1
    have hC : Comes ops listed i := ⟨hsz, hlt, hun, fun o ho => by
      have h3 := h2.2
      rw [ho] at h3
      simpa using h3⟩
    refine wpOpIn_mono (fun a' w' hI' => ih _ a' w' (by simpa using hsz) ?_ hI') (hs listed a w i hI hC)
    have hj2 : i < listed.size := by omega
    have h4 : listed.toList[i]? = some false := by
      rw [Array.getElem?_toList, Array.getElem?_eq_getElem hj2]
      have : listed.getD i false = listed[i] := by simp [Array.getD, hj2]
      rw [← this, hun]
    have h5 := cnt_set _ _ h4
    rw [Array.toList_setIfInBounds]
    omega
theorem wpIn_region_inv {F : Fence} {n : Nat} {P : Program} {id : Nat} {ops : Array Oper} {Q : Exit → Act → World → Prop} {a : Act} {w : World} (hm : P.follows .mixedOrders = true) (he : edgesBack ops = true) (I : Array Bool → Act → World → Prop)
    (h0 : I (Array.replicate ops.size false) a w.drew)
    (hs : ∀ listed a w i, I listed a w → Comes ops listed i → wpOpIn F n P ops Q i (I (listed.setIfInBounds i true)) a w)
    (hf : ∀ listed a w, I listed a w → listed.size = ops.size → (∀ j, j < ops.size → listed.getD j false = true) → Q .normal a w) : (Code.region id ops true).wpIn F n P Q a w :=
  wpIn_region_any hm (wpAnyIn_inv he I hs hf _ _ _ _ (by simp) (by simp) h0)
def gdi (L : Array Bool) (j : Nat) (v : Value) : Value := if L.getD j false = true then v else undef
theorem gdi_yes {L : Array Bool} {j : Nat} (v : Value) (h : L.getD j false = true) : gdi L j v = v := if_pos h
theorem lseti (L : Array Bool) (i j : Nat) (hi : i < L.size) : (L.setIfInBounds i true).getD j false = (decide (i = j) || L.getD j false) := by
  by_cases h : i = j
  · subst h; simp [Array.getD, hi]
  · simp only [h, decide_false, Bool.false_or]
    rw [Array.getD_eq_getD_getElem?, Array.getD_eq_getD_getElem?, Array.getElem?_setIfInBounds_ne h]
theorem gdi_set (L : Array Bool) (i j : Nat) (v : Value) (hi : i < L.size) (h : i ≠ j) : gdi (L.setIfInBounds i true) j v = gdi L j v := by
  unfold gdi; rw [lseti L i j hi]; simp [h]
theorem gdi_same (L : Array Bool) (i : Nat) (v : Value) (hi : i < L.size) : gdi (L.setIfInBounds i true) i v = v := by
  unfold gdi; rw [lseti L i i hi]; simp
theorem wpOpIn_step {F : Fence} {n : Nat} {P : Program} {ops : Array Oper} {Q : Exit → Act → World → Prop} {i : Nat} {K : Act → World → Prop} {a : Act} {w : World} {o : Oper} (hi : ops[i]? = some o) (hw : Region.wanted o (yielded ops a.tmps) = true)
    (h : ∀ K' : Act → World → Prop, (∀ a w, K a w → K' a w) → o.wpIn F n P a w K' Q) : wpOpIn F n P ops Q i K a w := by
  unfold wpOpIn
  simp only [hi, hw, if_true]
  exact h K (fun _ _ h => h)
theorem wpIn_region_invC {F : Fence} {n : Nat} {P : Program} {id : Nat} {ops : Array Oper} {Q : Exit → Act → World → Prop} {a : Act} {w : World} (hm : P.follows .mixedOrders = true) (he : edgesBack ops = true) (I : Array Bool → Act → World → Prop)
    (h0 : I (Array.replicate ops.size false) a w.drew)
    (hs : ∀ listed a w i, I listed a w → Comes ops listed i → (∀ j k, listed.getD j false = true → depB ops j k = true → listed.getD k false = true) → wpOpIn F n P ops Q i (I (listed.setIfInBounds i true)) a w)
    (hf : ∀ listed a w, I listed a w → listed.size = ops.size → (∀ j, j < ops.size → listed.getD j false = true) → Q .normal a w) : (Code.region id ops true).wpIn F n P Q a w := by
  refine wpIn_region_inv hm he (fun L a w => I L a w ∧ ∀ j k, L.getD j false = true → depB ops j k = true → L.getD k false = true) ⟨h0, fun j k hj _ => ?_⟩ (fun L a w i h hC => ?_) (fun L a w h hsz hall => hf L a w h.1 hsz hall)
  · exfalso
    by_cases hlt : j < ops.size <;> simp [Array.getD, hlt] at hj
  · refine wpOpIn_mono (fun a' w' h' => ⟨h', fun j k hj hd => ?_⟩) (hs L a w i h.1 hC h.2)
    have hi : i < L.size := by rw [hC.size]; exact hC.lt
    rw [lseti L i k hi]
    rw [lseti L i j hi] at hj
    by_cases hij : i = j
    · subst hij
      rw [hC.dep hd]; simp
    · rw [decide_eq_false hij, Bool.false_or] at hj
      rw [h.2 j k hj hd]; simp
end Go.Proofs.YtcedojmhgmgcgaaGreatDoor
