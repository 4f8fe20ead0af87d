/-
  flash: whatever is done with a flash.
-/
import Derived.Test.YtkajlbdiofobcaaDoorFlI
import Derived.Test.YtkajlbdiofobcaaDoorFlF
namespace Go.Proofs.YtkajlbdiofobcaaDoor
open Go.RowKit Go
set_option linter.unusedVariables false
set_option linter.unusedSimpArgs false
set_option maxRecDepth 100000
theorem progQ_kept (xs : List UInt8) : ∀ (k : Nat) (S : FS), (progQ xs k S).1.n = S.n ∧ (progQ xs k S).1.s = S.s ∧ (progQ xs k S).1.wr ≤ S.wr + xs.length := by
  induction xs with
  | nil => intro k S; exact ⟨rfl, rfl, Nat.le_refl _⟩
  | cons x xs ih =>
    intro k S
    unfold progQ
    by_cases h : S.left = 1
    · rw [if_pos h]; exact ⟨rfl, rfl, Nat.le_add_right _ _⟩
    · rw [if_neg h]
      obtain ⟨h1, h2, h3⟩ := ih (k + 1) (S.step k x)
      have e : S.step k x = { S with left := S.left - 1, wr := S.wr + 1, bs := S.bs.set k (S.bs.getD k 0 &&& x) } := by unfold FS.step; rw [if_neg h]
      rw [e] at h1 h2 h3 ⊢
      refine ⟨h1, h2, ?_⟩
      have h4 : (progQ xs (k + 1) { S with left := S.left - 1, wr := S.wr + 1, bs := S.bs.set k (S.bs.getD k 0 &&& x) }).1.wr ≤ S.wr + 1 + xs.length := h3
      rw [List.length_cons]
      omega
theorem er_kept (S : FS) (o : Nat) : (S.er o).n = S.n ∧ (S.er o).s = S.s ∧ (S.er o).wr ≤ S.wr + 1 := by
  unfold FS.er
  by_cases h : S.left = 1
  · rw [if_pos h]; exact ⟨rfl, rfl, Nat.le_add_right _ _⟩
  · rw [if_neg h]; exact ⟨rfl, rfl, Nat.le_refl _⟩
theorem FL.grown {w w' : World} {base g a c : Nat} {S : FS} (h : FL w base g a c S) {b : Nat} (hg : w.grownBy w' (some b)) (h1 : b ≠ g) (h2 : b ≠ a) : FL w' base g a c S :=
  ⟨(hg.block g h.alt (fun e => h1 (Option.some.inj e).symm)).trans h.st, h.own.kept hg (.inr (by intro e; exact h2 (Option.some.inj e).symm)), h.gb, h.ne, h.n1, h.n2, h.s1, h.s2, h.lb⟩
/-- What is left of a flash behind something that was done. -/
def Left (base g a c : Nat) (S : FS) (m : Nat) (w w' : World) : Prop := ∃ T, FL w' base g a c T ∧ T.n = S.n ∧ T.s = S.s ∧ T.wr ≤ S.wr + m ∧ Far g a w w'
theorem Left.below {base g a c : Nat} {S : FS} {m : Nat} {w w' v : World} (h : Left base g a c S m w w') (hb : Below w'.heap.size w' v) : Left base g a c S m w v := by
  obtain ⟨T, h1, h2, h3, h4, h5⟩ := h
  exact ⟨T, h1.below hb, h2, h3, h4, h5.trans (.of_below hb)⟩
theorem Left.of {base g a c : Nat} {S : FS} {m : Nat} {w w' : World} (h : FL w base g a c S) (hb : Below w.heap.size w w') : Left base g a c S m w w' := ⟨S, h.below hb, rfl, rfl, Nat.le_add_right _ _, .of_below hb⟩
section
variable {base g a c : Nat} {S : FS} {w W : World}
theorem read_all (h : FL w base g a c S) (k m : Int) : Calls Tryd.prog 44 #[.pointer (some ⟨g, 0, none⟩), .int .i64 k, .int .i64 m] w
      fun e w' => ∃ A n c' r bs, e = .returned (.tuple #[.slice A n c', .int .i64 r]) ∧ OwnB w' w.heap.size A n c' bs ∧ n ≤ 4194304 ∧ Below w.heap.size w w' := by
  by_cases hno : S.off = true ∨ k < 0 ∨ m < 0 ∨ ((S.n * S.s : Nat) : Int) < k ∨ ((S.n * S.s : Nat) : Int) - k < m
  · refine (fread_no h k m hno).mono ?_
    rintro e w' ⟨rfl, rfl⟩
    exact ⟨none, 0, 0, _, [], rfl, OwnB.nil _ _, by omega, Below.refl _ _⟩
  · have h1 : S.off = false := by rcases hS : S.off with _ | _; rfl; exact absurd (.inl hS) hno
    have h2 : 0 ≤ k ∧ 0 ≤ m ∧ k + m ≤ ((S.n * S.s : Nat) : Int) := by
      refine ⟨?_, ?_, ?_⟩
      · exact Int.not_lt.1 fun h => hno (.inr (.inl h))
      · exact Int.not_lt.1 fun h => hno (.inr (.inr (.inl h)))
      · have := Int.not_lt.1 fun h => hno (.inr (.inr (.inr (.inr h))))
        omega
    obtain ⟨k', rfl⟩ := Int.eq_ofNat_of_zero_le h2.1
    obtain ⟨m', rfl⟩ := Int.eq_ofNat_of_zero_le h2.2.1
    refine (fread_any h h1 k' m' (by omega)).mono ?_
    rintro e w' ⟨A, c', rfl, ho, hb⟩
    exact ⟨A, m', c', _, _, rfl, ho, (by have := h.big; omega), hb⟩
theorem program_all (h : FL w base g a c S) (k : Int) (n cA : Nat) (A : Option Addr) (xs : List UInt8) (hR : RB w A n xs) (hA : xs ≠ [] → ∀ d, A = some d → d.block ≠ g ∧ d.block ≠ a) (hn9 : n ≤ 1000000000) (hw : S.wr + n < 4611686018427387904) :
    Calls Tryd.prog 34 #[.pointer (some ⟨g, 0, none⟩), .int .i64 k, .slice A n cA] w
      fun e w' => ∃ r, e = .returned (.int .i64 r) ∧ Left base g a c S n w w' := by
  by_cases hno : S.off = true ∨ k < 0 ∨ (0 < n ∧ ((S.n * S.s : Nat) : Int) - n < k)
  · refine (fprogram_no h k n cA A hn9 hno).mono ?_
    rintro e w' ⟨rfl, hb⟩
    exact ⟨_, rfl, Left.of h hb⟩
  · have h1 : S.off = false := by rcases hS : S.off with _ | _; rfl; exact absurd (.inl hS) hno
    have h2 : 0 ≤ k := Int.not_lt.1 fun h => hno (.inr (.inl h))
    obtain ⟨k', rfl⟩ := Int.eq_ofNat_of_zero_le h2
    have h3 : n = 0 ∨ k' + n ≤ S.n * S.s := by
      rcases Nat.eq_zero_or_pos n with h0 | h0
      · exact .inl h0
      · have := Int.not_lt.1 fun h => hno (.inr (.inr ⟨h0, h⟩))
        right; omega
    refine (fprogram_any h h1 k' n cA A xs hR hA h3 hn9 hw).mono ?_
    rintro e w' ⟨rfl, hf, hfar⟩
    obtain ⟨q1, q2, q3⟩ := progQ_kept xs k' S
    exact ⟨_, rfl, _, hf, q1, q2, by rw [hR.1] at q3; exact q3, hfar⟩
theorem erase_all (h : FL w base g a c S) (k : Int) (hw : S.wr < 4611686018427387904) :
    Calls Tryd.prog 42 #[.pointer (some ⟨g, 0, none⟩), .int .i64 k] w
      fun e w' => ∃ r, e = .returned (.int .i64 r) ∧ Left base g a c S 1 w w' := by
  by_cases hno : S.off = true ∨ k < 0 ∨ (S.n : Int) ≤ k
  · refine (ferase_no h k hno).mono ?_
    rintro e w' ⟨rfl, hb⟩
    exact ⟨_, rfl, Left.of h hb⟩
  · have h1 : S.off = false := by rcases hS : S.off with _ | _; rfl; exact absurd (.inl hS) hno
    have h2 : 0 ≤ k := Int.not_lt.1 fun h => hno (.inr (.inl h))
    obtain ⟨k', rfl⟩ := Int.eq_ofNat_of_zero_le h2
    have h3 : k' < S.n := by
      have := Int.not_le.1 fun h => hno (.inr (.inr h))
      omega
    refine (ferase_any h h1 k' h3 hw).mono ?_
    rintro e w' ⟨rfl, hf, hfar⟩
    obtain ⟨q1, q2, q3⟩ := er_kept S (k' * S.s)
    exact ⟨_, rfl, _, hf, q1, q2, q3, hfar⟩
theorem arm_all (h : FL w base g a c S) (n p : Int) (hn : n ≤ 9223372036854775807) :
    Calls Tryd.prog 16 #[.pointer (some ⟨g, 0, none⟩), .int .i64 n, .int .i64 p] w
      fun e w' => ∃ r, e = .returned (.int .i64 r) ∧ Left base g a c S 0 w w' := by
  by_cases hno : S.off = true ∨ n < 0 ∨ p < 0
  · refine (farm_no h n p hno).mono ?_
    rintro e w' ⟨rfl, rfl⟩
    exact ⟨_, rfl, Left.of h (Below.refl _ _)⟩
  · have h1 : S.off = false := by rcases hS : S.off with _ | _; rfl; exact absurd (.inl hS) hno
    have h2 : 0 ≤ n := Int.not_lt.1 fun h => hno (.inr (.inl h))
    have h3 : 0 ≤ p := Int.not_lt.1 fun h => hno (.inr (.inr h))
    obtain ⟨n', rfl⟩ := Int.eq_ofNat_of_zero_le h2
    obtain ⟨p', rfl⟩ := Int.eq_ofNat_of_zero_le h3
    refine (farm_any h h1 n' p' (by omega)).mono ?_
    rintro e w' ⟨rfl, hf, hfar⟩
    exact ⟨_, rfl, _, hf, rfl, rfl, Nat.le_refl _, hfar⟩
theorem on_all (h : FL w base g a c S) :
    Calls Tryd.prog 19 #[.pointer (some ⟨g, 0, none⟩)] w
      fun e w' => ∃ r, e = .returned (.int .i64 r) ∧ Left base g a c S 0 w w' := by
  refine (fon_any h).mono ?_
  rintro e w' ⟨rfl, hf, hfar⟩
  exact ⟨_, rfl, _, hf, rfl, rfl, Nat.le_refl _, hfar⟩
end
end Go.Proofs.YtkajlbdiofobcaaDoor
