/-
  nat: the document's own: Right, Trim, Of.
-/
import Derived.Test.YtcmhacecnahfoaaNu
namespace Go.Proofs.Ytcmhacecnahfoaa
open Go.RowKit Go
set_option linter.unusedVariables false
set_option linter.unusedSimpArgs false
set_option maxRecDepth 100000
theorem dright_any (A : Option Addr) (n c : Nat) (l : List Nat) (w : World) (h : RU w A n l) (hn : n ≤ 1000000000) :
    Calls Try.prog 25 #[.slice A n c] w fun e w' => e = .returned (.bool (rightB l)) ∧ w = w' := by
  have hl := h.len
  by_cases h1 : n ≤ 256
  · have i1 : (n : Int) ≤ 256 := by omega
    by_cases h2 : n = 0
    · have hr : rightB l = true := by
        have : l = [] := List.eq_nil_of_length_eq_zero (by omega)
        subst this; rfl
      have i2 : ((n : Int) == 0) = true := by simp; omega
      rw [hr]
      have HH := Lib.hid h2
      clear h hl h2 hr
      go_enter Try.func25, Try.ntmps25
      go_wp2
      go_ret
      exact ⟨rfl, rfl⟩
    · obtain ⟨m, hm⟩ : ∃ m, n = m + 1 := ⟨n - 1, by omega⟩
      obtain ⟨b, off, rfl, hb, hc⟩ := h.at_ (show m < n by omega)
      obtain ⟨x, hx⟩ : ∃ x, l.getD m 0 = x := ⟨_, rfl⟩
      have hr : rightB l = !(x == 0) := by
        unfold rightB
        rw [hl, show n - 1 = m by omega, hx, decide_eq_true h1, show (n == 0) = false by simp; omega]
        rfl
      rw [hr]
      rw [hx] at hc
      have e1 : IntKind.i64.wrap ((n : Int) - 1) = (m : Int) := by rw [show (n : Int) - 1 = m by omega]; exact IntWalk.i64_in _ (by omega)
      have i2 : ((n : Int) == 0) = false := by simp; omega
      have i3 : (m : Int) < (n : Int) := by omega
      have i4 : (0 : Int) ≤ (m : Int) := by omega
      have HM := Lib.hid hm
      have HX := Lib.hid hx
      clear h hl h2 hr hm hx
      by_cases hx0 : x = 0
      · subst hx0
        have t1 : (((0 : Nat) : Int) != 0) = false := by simp
        go_enter Try.func25, Try.ntmps25
        go_wp2
        go_ret
        exact ⟨rfl, rfl⟩
      · have t1 : ((x : Int) != 0) = true := by simp; omega
        have t2 : (!(x == 0)) = true := by simp; omega
        rw [t2]
        clear t2
        have HX0 := Lib.hid hx0
        clear hx0
        go_enter Try.func25, Try.ntmps25
        go_wp2
        go_ret
        exact ⟨rfl, rfl⟩
  · have i1 : ¬ (n : Int) ≤ 256 := by omega
    have hr : rightB l = false := by
      unfold rightB
      rw [hl, decide_eq_false h1]
      rfl
    rw [hr]
    clear h hl hr
    go_enter Try.func25, Try.ntmps25
    go_wp2
    go_ret
    exact ⟨rfl, rfl⟩
set_option maxHeartbeats 4000000 in
theorem dtrim_any (A : Option Addr) (n c : Nat) (x : List Nat) (w : World) (h : RU w A n x) (hnc : n ≤ c) (hc : c ≤ 9223372036854775807) (hmost : n ≤ 900000) :
    Calls Try.prog 60 #[.slice A n c] w (BriefPost w n (val x)) := by
  have HA := Lib.hid h
  obtain ⟨k0, hk0⟩ : ∃ k0, n = k0 := ⟨_, rfl⟩
  have hk1 : k0 ≤ n := by omega
  have hk2 : k0 ≤ n := by omega
  have hQ : val x = val (x.take k0) := by rw [take_all (by rw [h.len]; omega)]
  rw [hQ]
  obtain ⟨v, hv⟩ : ∃ v, val (x.take k0) = v := ⟨_, rfl⟩
  rw [hv]
  have HV := Lib.hid hv
  have HK0 := Lib.hid hk0
  clear h hk0 hQ hv
  go_enter Try.func60, Try.ntmps60
  go_wp2
  go_loop [3] (fun vi => ∃ k : Nat, vi = .int .i64 (k : Int) ∧ k ≤ k0 ∧ Hid (trimN x k0 = trimN x k)) (fun vi => (intOf vi).toNat)
  case atStart => exact ⟨k0, by rw [HK0.out], Nat.le_refl _, rfl⟩
  case round =>
    obtain ⟨k, rfl, hk, HK⟩ := hrel
    have OWN := Lib.hid (OwnR.lit w 31 1 #[] 0 (by decide) rfl)
    have RUX := fun (hkk : k ≤ n) => (HA.out.take k hkk).alloc (.cells #[] 31)
    have HB9 : Hid (∀ {w9 : World}, (w.alloc (.cells #[] 31)).grownBy w9 (blk (some ⟨w.heap.size, 0, none⟩)) → Below w.heap.size w w9) := fun {w9} hg => by
      have h1 : Below w.heap.size w (w.alloc (.cells #[] 31)) := kp_alloc (Below.refl _ _) _
      exact h1.grown hg (by simp) (fun g hg => by have h2 : some w.heap.size = some g := hg; injection h2 with h2; omega)
    have HTT : Hid (trimN x k0 = k → x.take k = num v) := fun h => by
      rw [← HV.out, ← h]; exact trim_num x HA.out.lim k0 (by rw [HA.out.len]; exact hk1)
    rcases k with _ | j
    · as_aux_lemma =>
        have i1 : ¬ ((0 : Nat) : Int) > 0 := by omega
        have HT : Hid (x.take 0 = num v) := HTT.out HK.out
        have RUX := RUX (by omega)
        rw [HT.out] at RUX
        have RUX := Lib.hid RUX
        have i9 : ((0 : Nat) : Int) ≤ (c : Int) := by omega
        clear HK HTT
        go_wp2_with (at_builtin; refine wpList_appU _ _ rfl rfl rfl w.heap.size (some ⟨w.heap.size, 0, none⟩) 0 0 [] rfl OWN.out A 0 c (num v) rfl RUX.out (by omega) (by simp) ?_)
        intro A9 c9 w9 ho9 hg9
        have ho9 : OwnR w9 w.heap.size 31 1 A9 0 c9 ((num v).map v32) := by simpa using ho9
        have HF : Hid (RU w9 A9 0 (num v) ∧ 0 ≤ c9 ∧ c9 ≤ maxLen ∧ Below w.heap.size w w9) := ⟨ru_of_own ho9 (num_lim _), ho9.cap.1, ho9.cap.2, HB9.out hg9⟩
        clear ho9 hg9 OWN RUX HB9
        go_wp2
        go_ret
        refine ⟨A9, 0, c9, rfl, HF.out.1, by omega, HF.out.2.1, ?_, HF.out.2.2.2⟩
        have := HF.out.2.2.1
        unfold maxLen at this
        omega
    · by_cases hx0 : x.getD j 0 = 0
      · as_aux_lemma =>
        have i1 : ((j + 1 : Nat) : Int) > 0 := by omega
        obtain ⟨ba, oa, rfl, hba, cj⟩ := HA.out.at_ (j := j) (by omega)
        rw [hx0] at cj
        have e1 : IntKind.i64.wrap (((j + 1 : Nat) : Int) - 1) = (j : Int) := by rw [show ((j + 1 : Nat) : Int) - 1 = j by omega]; exact IntWalk.i64_in _ (by omega)
        have i3 : (j : Int) < (n : Int) := by omega
        have i4 : (0 : Int) ≤ (j : Int) := by omega
        have t1 : (((0 : Nat) : Int) == 0) = true := by simp
        have HN : Hid (trimN x k0 = trimN x j) := by unfold Hid; rw [HK.out, trimN, if_pos hx0]
        clear HK hx0 OWN RUX HB9 HTT
        go_wp2
        go_round
        case rel => exact ⟨j, rfl, by omega, HN⟩
        case measure => simp [intOf]
      · as_aux_lemma =>
        have i1 : ((j + 1 : Nat) : Int) > 0 := by omega
        have HT : Hid (x.take (j + 1) = num v) := HTT.out (by rw [HK.out, trimN, if_neg hx0])
        have RUX := RUX (by omega)
        rw [HT.out] at RUX
        have RUX := Lib.hid RUX
        have i9 : ((j + 1 : Nat) : Int) ≤ (c : Int) := by omega
        obtain ⟨ba, oa, hAe, hba, cj⟩ := HA.out.at_ (j := j) (by omega)
        obtain ⟨z, hz⟩ : ∃ z, x.getD j 0 = z := ⟨_, rfl⟩
        rw [hz] at cj hx0
        subst hAe
        have e1 : IntKind.i64.wrap (((j + 1 : Nat) : Int) - 1) = (j : Int) := by rw [show ((j + 1 : Nat) : Int) - 1 = j by omega]; exact IntWalk.i64_in _ (by omega)
        have i3 : (j : Int) < (n : Int) := by omega
        have i4 : (0 : Int) ≤ (j : Int) := by omega
        have t1 : ((z : Int) == 0) = false := by simp; omega
        have HX := Lib.hid (And.intro hz hx0)
        clear HK HTT hz hx0
        go_wp2_with (at_builtin; refine wpList_appU _ _ rfl rfl rfl w.heap.size (some ⟨w.heap.size, 0, none⟩) 0 0 [] rfl OWN.out (some ⟨ba, oa, none⟩) (j + 1) c (num v) rfl RUX.out (by omega) (by simp) ?_)
        intro A9 c9 w9 ho9 hg9
        have ho9 : OwnR w9 w.heap.size 31 1 A9 (j + 1) c9 ((num v).map v32) := by simpa using ho9
        have HF : Hid (RU w9 A9 (j + 1) (num v) ∧ (j + 1) ≤ c9 ∧ c9 ≤ maxLen ∧ Below w.heap.size w w9) := ⟨ru_of_own ho9 (num_lim _), ho9.cap.1, ho9.cap.2, HB9.out hg9⟩
        clear ho9 hg9 OWN RUX HB9
        go_wp2
        go_ret
        refine ⟨A9, (j + 1), c9, rfl, HF.out.1, by omega, HF.out.2.1, ?_, HF.out.2.2.2⟩
        have := HF.out.2.2.1
        unfold maxLen at this
        omega
/-- A number that is read and an error. -/
def NumD (w : World) (r : List Nat × Nat) (e : Ending) (w' : World) : Prop :=
  ∃ A n c, e = .returned (.tuple #[.slice A n c, .int .i64 (r.2 : Int)]) ∧ RU w' A n r.1 ∧ n ≤ c ∧ c ≤ 9223372036854775807 ∧ n ≤ 256 ∧ Below w.heap.size w w'
theorem NumD.err {w w' : World} {k : Nat} {e : Ending} (he : e = .returned (.tuple #[.slice none 0 0, .int .i64 (k : Int)])) (hb : Below w.heap.size w w') : NumD w ([], k) e w' :=
  ⟨_, _, _, he, RU.nil _, Nat.le_refl _, by omega, by omega, hb⟩
end Go.Proofs.Ytcmhacecnahfoaa
