/-
  flash: Erase as a whole; what answers errors.
-/
import Derived.Test.YtkajlbdiofobcaaDoorFlH
namespace Go.Proofs.YtkajlbdiofobcaaDoor
open Go.RowKit Go
set_option linter.unusedVariables false
set_option linter.unusedSimpArgs false
set_option maxRecDepth 100000
section
variable {base g a c : Nat} {S : FS} {w W : World}
set_option maxHeartbeats 1000000 in
/-- Erase of a sector that there is. -/
theorem ferase_any (h : FL w base g a c S) (hS : S.off = false) (k : Nat) (hk : k < S.n) (hw : S.wr < 4611686018427387904) :
    Calls Tryd.prog 42 #[.pointer (some ⟨g, 0, none⟩), .int .i64 (k : Int)] w
      fun e w' => e = .returned (.int .i64 (if S.left = 1 then 6 else 0)) ∧ FL w' base g a c (S.er (k * S.s)) ∧ Far g a w w' := by
  have H := Lib.hid h
  have HS := Lib.hid hS
  have hM := h.big
  have hn2 := h.n2
  have hs2 := h.s2
  have hs1 := h.s1
  have hcap := h.own.cap.1
  obtain ⟨o, ho⟩ : ∃ o, k * S.s = o := ⟨_, rfl⟩
  have hos : o + S.s ≤ S.n * S.s := by
    have := Nat.mul_le_mul_right S.s (show k + 1 ≤ S.n by omega)
    rw [Nat.succ_mul, ho] at this
    exact this
  rw [ho]
  have e1 : IntKind.i64.wrap ((k : Int) * (S.s : Int)) = (o : Int) := by
    rw [← Int.natCast_mul, ho]; exact IntWalk.i64_in _ (by omega)
  obtain ⟨k1, hk1⟩ : ∃ k1, k + 1 = k1 := ⟨_, rfl⟩
  have e2 : IntKind.i64.wrap ((k : Int) + 1) = (k1 : Int) := by rw [IntWalk.i64_in _ (by omega)]; omega
  obtain ⟨o1, ho1⟩ : ∃ o1, o + S.s = o1 := ⟨_, rfl⟩
  have e3 : IntKind.i64.wrap ((k1 : Int) * (S.s : Int)) = (o1 : Int) := by
    rw [← Int.natCast_mul, ← hk1, Nat.succ_mul, ho, ho1]; exact IntWalk.i64_in _ (by omega)
  have HO := Lib.hid (And.intro hos ho1)
  have hglt := h.alt
  have halt := h.ab.2
  rw [ho1] at hos
  have j1 : ¬ ((k : Int) < 0) := by omega
  have j2 : ¬ ((k : Int) ≥ (S.n : Int)) := by omega
  have j3 : (o : Int) ≤ (o1 : Int) := by omega
  have j4 : (o1 : Int) ≤ (c : Int) := by omega
  have j5 : (0 : Int) ≤ (o : Int) := by omega
  have j6 : o ≤ o1 := by omega
  have j7 : o1 ≤ c := by omega
  have j8 : ¬ (c = o) := by omega
  have j9 : o1 - o = S.s := by omega
  clear h hS ho hk1 ho1
  go_enter Tryd.func42, Tryd.ntmps42
  go_wp2_with fail
  refine calls_nm fun W hW => ?_
  have hbW : Hid (Below w.heap.size w W) := by rw [← hW]; exact kp_alloc (Below.refl _ _) _
  have h3 : W.heap[w.heap.size]? = some (.cells #[.pointer (some ⟨g, 0, none⟩)] 41) := by rw [← hW]; exact has_new _ _
  have HW := Lib.hid (H.out.below hbW.out)
  have c3 := cells_1 h3
  have H3 := Lib.hid h3
  have RD := Lib.hid (fready_any HW.out)
  have NS := Lib.hid (fsectors_any HW.out)
  rw [HS.out] at RD
  clear hW h3
  refine RD.out.mono ?_
  rintro e w1 ⟨rfl, rfl⟩
  clear RD
  go_wp2_with fail
  refine NS.out.mono ?_
  rintro e w2 ⟨rfl, hb2⟩
  have HB2 := Lib.hid (kp_call hbW.out hb2)
  have HW2 := Lib.hid (HW.out.below hb2)
  have H32 := Lib.hid (has_below H3.out hb2)
  clear c3 NS hb2 HW H3 hbW H HS
  have c3 := cells_1 H32.out
  obtain ⟨q0, q1, q2, q3, q4, q5⟩ := cells_6 HW2.out.st
  clear q2 q3 q4 q5
  have hwlt := block_lt H32.out
  have c3' := cells_1 (has_alloc H32.out (.cells #[.slice none 0 0] 22))
  obtain ⟨q0', q1', _, _, _, _⟩ := cells_6 (HW2.out.alloc (.cells #[.slice none 0 0] 22)).st
  go_wp2_with fail
  go_region
  have c3'' := cells_1 (has_alloc H32.out (.cells #[.slice (some ⟨a, o, none⟩) S.s (c - o)] 22))
  clear c3 c3' q0 q1 q0' q1'
  go_wp2_with fail
  refine calls_nm fun W3 hW3 => ?_
  have hb3 : Below w2.heap.size w2 W3 := by rw [← hW3]; exact (kp_alloc (Below.refl _ _) _).drew
  have q6 : W3.heap[w2.heap.size]? = some (.cells #[.slice (some ⟨a, o, none⟩) S.s (c - o)] 22) := by rw [← hW3]; exact has_new _ _
  have hwz := HB2.out.size
  refine (fwrite_erase (HW2.out.below hb3) o w2.heap.size (c - o) w.heap.size (by rw [HO.out.2]; exact hos) (by omega) hw (by omega) (by omega) (by omega) (by omega) (cells_1 q6) (cells_1 (has_below H32.out hb3))).mono ?_
  clear hW3 q6
  rintro e w4 ⟨rfl, z1, z2⟩
  have Z := Lib.hid (And.intro z1 ((Far.of_below HB2.out).trans ((Far.of_below hb3).trans z2)))
  clear z1 z2 hb3 c3''
  go_wp2
  all_goals
    go_ret
    exact ⟨rfl, Z.out⟩
/-- Erase, where it answers an error. -/
theorem ferase_no (h : FL w base g a c S) (k : Int) (hno : S.off = true ∨ k < 0 ∨ (S.n : Int) ≤ k) :
    Calls Tryd.prog 42 #[.pointer (some ⟨g, 0, none⟩), .int .i64 k] w
      fun e w' => e = .returned (.int .i64 (if S.off then 6 else 1)) ∧ Below w.heap.size w w' := by
  rcases hS : S.off with _ | _
  all_goals
    have H := Lib.hid h
    clear h
    go_enter Tryd.func42, Tryd.ntmps42
    go_wp2_with fail
    refine calls_nm fun W hW => ?_
    have hbW : Hid (Below w.heap.size w W) := by rw [← hW]; exact kp_alloc (Below.refl _ _) _
    have h3 : W.heap[w.heap.size]? = some (.cells #[.pointer (some ⟨g, 0, none⟩)] 41) := by rw [← hW]; exact has_new _ _
    have HW := Lib.hid (H.out.below hbW.out)
    have c3 := cells_1 h3
    have RD := Lib.hid (fready_any HW.out)
    have NS := Lib.hid (fsectors_any HW.out)
    rw [hS] at RD hno
    clear hW h3 hS H HW
    refine RD.out.mono ?_
    rintro e w1 ⟨rfl, rfl⟩
    clear RD
  · by_cases hk : k < 0
    · have p1 : decide (k < 0) = true := decide_eq_true hk
      clear hno NS
      go_wp2
      go_ret
      exact ⟨rfl, hbW.out⟩
    · have hx : (S.n : Int) ≤ k := by
        rcases hno with h | h | h
        · cases h
        · exact absurd h hk
        · exact h
      have p1 : decide (k < 0) = false := decide_eq_false hk
      have p2 : decide (k ≥ (S.n : Int)) = true := decide_eq_true hx
      clear hno
      go_wp2_with fail
      refine NS.out.mono ?_
      rintro e w2 ⟨rfl, hb2⟩
      have HB2 := Lib.hid (kp_call hbW.out hb2)
      clear hb2 NS
      go_wp2
      go_ret
      exact ⟨rfl, HB2.out⟩
  · clear hno NS
    go_wp2
    go_ret
    exact ⟨rfl, hbW.out⟩
/-- Read, where it answers an error. -/
theorem fread_no (h : FL w base g a c S) (k m : Int) (hno : S.off = true ∨ k < 0 ∨ m < 0 ∨ ((S.n * S.s : Nat) : Int) < k ∨ ((S.n * S.s : Nat) : Int) - k < m) :
    Calls Tryd.prog 44 #[.pointer (some ⟨g, 0, none⟩), .int .i64 k, .int .i64 m] w
      fun e w' => e = .returned (.tuple #[.slice none 0 0, .int .i64 (if S.off then 6 else 1)]) ∧ w' = w := by
  have RD := Lib.hid (fready_any h)
  have hM := h.big
  obtain ⟨_, k1, _⟩ := cells_6 h.st
  clear h
  generalize S.n * S.s = M at *
  rcases hS : S.off with _ | _
  all_goals
    rw [hS] at RD hno
    clear hS
  · by_cases hk : k < 0
    · have p1 : decide (k < 0) = true := decide_eq_true hk
      clear hno
      go_enter Tryd.func44, Tryd.ntmps44
      go_wp2_with fail
      refine RD.out.mono ?_
      rintro e w1 ⟨rfl, rfl⟩
      clear RD
      go_wp2
      go_ret2
      exact ⟨rfl, rfl⟩
    have p1 : decide (k < 0) = false := decide_eq_false hk
    by_cases hm : m < 0
    · have p2 : decide (m < 0) = true := decide_eq_true hm
      clear hno
      go_enter Tryd.func44, Tryd.ntmps44
      go_wp2_with fail
      refine RD.out.mono ?_
      rintro e w1 ⟨rfl, rfl⟩
      clear RD
      go_wp2
      go_ret2
      exact ⟨rfl, rfl⟩
    have p2 : decide (m < 0) = false := decide_eq_false hm
    by_cases hg : (M : Int) < k
    · have p3 : decide (k > (M : Int)) = true := decide_eq_true hg
      clear hno
      go_enter Tryd.func44, Tryd.ntmps44
      go_wp2_with fail
      refine RD.out.mono ?_
      rintro e w1 ⟨rfl, rfl⟩
      clear RD
      go_wp2
      go_ret2
      exact ⟨rfl, rfl⟩
    have p3 : decide (k > (M : Int)) = false := decide_eq_false hg
    have hx : (M : Int) - k < m := by
      rcases hno with h | h | h | h | h
      · cases h
      · exact absurd h hk
      · exact absurd h hm
      · exact absurd h hg
      · exact h
    have e1 : IntKind.i64.wrap ((M : Int) - k) = (M : Int) - k := IntWalk.i64_in _ (by omega)
    have p4 : decide (m > (M : Int) - k) = true := decide_eq_true hx
    clear hno
    go_enter Tryd.func44, Tryd.ntmps44
    go_wp2_with fail
    refine RD.out.mono ?_
    rintro e w1 ⟨rfl, rfl⟩
    clear RD
    go_wp2
    go_ret2
    exact ⟨rfl, rfl⟩
  · clear hno
    go_enter Tryd.func44, Tryd.ntmps44
    go_wp2_with fail
    refine RD.out.mono ?_
    rintro e w1 ⟨rfl, rfl⟩
    clear RD
    go_wp2
    go_ret2
    exact ⟨rfl, rfl⟩
end
end Go.Proofs.YtkajlbdiofobcaaDoor
