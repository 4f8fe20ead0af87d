/-
  mont: it works; no modulus.
-/
import Derived.Test.YtcmhacecnahfoaaMi
import Derived.Test.YtcmhacecnahfoaaNu
namespace Go.Proofs.Ytcmhacecnahfoaa
open Go.RowKit Go
set_option linter.unusedVariables false
set_option linter.unusedSimpArgs false
set_option maxRecDepth 100000
/-- New, told by its answer: a modulus. -/
theorem new_yes (A : Option Addr) (n c : Nat) (ms : List Nat) (w : World) (hA : RU w A n ms) (hm : mayB ms = true) :
    Calls Try.prog 11 #[.slice A n c] w fun e w' => ∃ g, e = .returned (.tuple #[.pointer (some ⟨g, 0, none⟩), .int .i64 0]) ∧ w.heap.size ≤ g ∧ MD w' g (val ms) ∧ Below w.heap.size w w' :=
  (new_ok A n c ms w hA hm).mono fun e w' h => by
    obtain ⟨h1, h2⟩ := h
    rw [hm] at h2
    obtain ⟨g, h3, h4, h5⟩ := h2
    exact ⟨g, h3, h4, h5.md, h1⟩
theorem new_own (A : Option Addr) (n c : Nat) (ms : List Nat) (w : World) (hA : RU w A n ms) (hm : mayB ms = true) :
    Calls Try.prog 11 #[.slice A n c] w fun e w' => ∃ g, e = .returned (.tuple #[.pointer (some ⟨g, 0, none⟩), .int .i64 0]) ∧ w.heap.size ≤ g ∧ MDO w' w.heap.size g (val ms) ∧ Below w.heap.size w w' :=
  (new_ok A n c ms w hA hm).mono fun e w' h => by
    obtain ⟨h1, h2⟩ := h
    rw [hm] at h2
    obtain ⟨g, h3, h4, h5⟩ := h2
    exact ⟨g, h3, h4, h5, h1⟩
theorem new_no (A : Option Addr) (n c : Nat) (ms : List Nat) (w : World) (hA : RU w A n ms) (hn : n ≤ 1000) (hm : mayB ms = false) :
    Calls Try.prog 11 #[.slice A n c] w fun e w' => e = .returned (.tuple #[.pointer none, .int .i64 1]) ∧ Below w.heap.size w w' :=
  (new_err A n c ms w hA hn hm).mono fun e w' h => by
    obtain ⟨h1, h2⟩ := h
    rw [hm] at h2
    exact ⟨h2, h1⟩
theorem one_ru {w : World} {g v : Nat} (h : BlkU w g [v]) (hv : v < 4294967296) : RU w (some ⟨g, 0, none⟩) 1 [v] := h.ru (Lim.cons hv Lim.nil) 0 1 (by simp)
theorem num_small {v : Nat} (h0 : 0 < v) (h : v < 4294967296) : num v = [v] := by
  rw [num_pos v (by omega), Nat.mod_eq_of_lt h, Nat.div_eq_of_lt h, num_zero]
theorem val_one (v : Nat) : val [v] = v := by simp [val]
set_option maxHeartbeats 8000000 in
theorem mworks_any (w : World) : Calls Try.prog 9 #[] w fun e w' => e = .returned (.bool true) ∧ Below w.heap.size w w' := by
  have NW := Lib.hid (fun W G (h : BlkU W G [11]) => new_yes (some ⟨G, 0, none⟩) 1 1 [11] W (one_ru h (by decide)) (by decide))
  have MU : Hid (∀ W g G1 G2, MD W g 11 → BlkU W G1 [7] → BlkU W G2 [8] → Calls Try.prog 14 #[.pointer (some ⟨g, 0, none⟩), .slice (some ⟨G1, 0, none⟩) 1 1, .slice (some ⟨G2, 0, none⟩) 1 1] W (NumR W ([1], 0))) := fun W g G1 G2 h h1 h2 => by
    have := mmul_any g 11 (some ⟨G1, 0, none⟩) (some ⟨G2, 0, none⟩) 1 1 1 1 [7] [8] W h (one_ru h1 (by decide)) (one_ru h2 (by decide)) (by decide) (by decide)
    rw [show mmulQ [7] [8] 11 = ([1], 0) by unfold mmulQ; rw [show (underB [7] 11 && underB [8] 11) = true by decide, val_one, val_one, show 7 * 8 % 11 = 1 by decide, num_small (by decide) (by decide)]; rfl] at this
    exact this
  have EX : Hid (∀ W g G1 G2, MD W g 11 → BlkU W G1 [2] → BlkU W G2 [10] → Calls Try.prog 16 #[.pointer (some ⟨g, 0, none⟩), .slice (some ⟨G1, 0, none⟩) 1 1, .slice (some ⟨G2, 0, none⟩) 1 1] W (NumR W ([1], 0))) := fun W g G1 G2 h h1 h2 => by
    have := mexp_all g 11 (some ⟨G1, 0, none⟩) (some ⟨G2, 0, none⟩) 1 1 1 1 [2] [10] W h (one_ru h1 (by decide)) (one_ru h2 (by decide)) (by decide) (by decide)
    rw [show mexpQ [2] [10] 11 = ([1], 0) by unfold mexpQ; rw [show (underB [2] 11 && rightB [10]) = true by decide, val_one, val_one, show 2 ^ 10 % 11 = 1 by decide, num_small (by decide) (by decide)]; rfl] at this
    exact this
  go_enter Try.func9, Try.ntmps9
  have K0 : BlkU (w.alloc (.cells #[.int .u32 11] 31)) w.heap.size [11] := has_new _ _
  have B0 := Lib.hid (show Below w.heap.size w (w.alloc (.cells #[.int .u32 11] 31)) from kp_alloc (Below.refl _ _) _)
  go_wp2_with fail
  (with_reducible refine (NW.out _ _ K0).mono ?_)
  rintro e w1 ⟨g, rfl, hg, hM, hb⟩
  have B1 := Lib.hid (kp_call B0.out hb)
  have M1 := Lib.hid hM
  clear hM hb K0 B0 NW
  rw [val_one] at M1
  have hbb : Below w1.heap.size w1 ((w1.alloc (.cells #[.int .u32 7] 31)).alloc (.cells #[.int .u32 8] 31)) := kp_alloc (kp_alloc (Below.refl _ _) _) _
  have M2 := Lib.hid (M1.out.below hbb)
  have K7 : Hid (BlkU ((w1.alloc (.cells #[.int .u32 7] 31)).alloc (.cells #[.int .u32 8] 31)) w1.heap.size [7]) := has_alloc (has_new _ _) _
  have K8 : Hid (BlkU ((w1.alloc (.cells #[.int .u32 7] 31)).alloc (.cells #[.int .u32 8] 31)) (w1.heap.size + 1) [8]) := has_new' _ _ _ (by simp)
  have B2 := Lib.hid (kp_call B1.out hbb)
  clear hbb B1 M1
  go_wp2_with fail
  (with_reducible refine (MU.out _ _ _ _ M2.out K7.out K8.out).mono ?_)
  rintro e w2 ⟨A1, n1, c1, rfl, s1, l1, m1, p1, hb⟩
  have B3 := Lib.hid (kp_call B2.out hb)
  have M3 := Lib.hid (M2.out.below hb)
  have R1 := Lib.hid s1.ru
  clear s1 hb B2 M2 K7 K8 MU
  have hbb : Below w2.heap.size w2 ((w2.alloc (.cells #[.int .u32 2] 31)).alloc (.cells #[.int .u32 10] 31)) := kp_alloc (kp_alloc (Below.refl _ _) _) _
  have M4 := Lib.hid (M3.out.below hbb)
  have K7 : Hid (BlkU ((w2.alloc (.cells #[.int .u32 2] 31)).alloc (.cells #[.int .u32 10] 31)) w2.heap.size [2]) := has_alloc (has_new _ _) _
  have K8 : Hid (BlkU ((w2.alloc (.cells #[.int .u32 2] 31)).alloc (.cells #[.int .u32 10] 31)) (w2.heap.size + 1) [10]) := has_new' _ _ _ (by simp)
  have B4 := Lib.hid (kp_call B3.out hbb)
  replace R1 := Lib.hid (R1.out.below hbb)
  clear hbb B3 M3
  go_wp2_with fail
  (with_reducible refine (EX.out _ _ _ _ M4.out K7.out K8.out).mono ?_)
  rintro e w3 ⟨A2, n2, c2, rfl, s2, l2, m2, p2, hb⟩
  have B5 := Lib.hid (kp_call B4.out hb)
  have R2 := Lib.hid s2.ru
  replace R1 := Lib.hid (R1.out.below hb)
  clear s2 hb B4 M4 K7 K8 EX
  have hbb : Below w3.heap.size w3 (w3.alloc (.cells #[.int .u32 1] 31)) := kp_alloc (Below.refl _ _) _
  have K1 : BlkU (w3.alloc (.cells #[.int .u32 1] 31)) w3.heap.size [1] := has_new _ _
  have S1 := Lib.hid (same_t A1 (some ⟨w3.heap.size, 0, none⟩) n1 c1 1 1 [1] [1] _ (R1.out.below hbb) (one_ru K1 (by decide)) (by omega) (by decide) rfl)
  have B6 := Lib.hid (kp_call B5.out hbb)
  replace R2 := Lib.hid (R2.out.below hbb)
  clear hbb K1 B5 R1
  go_wp2_with fail
  refine S1.out.mono ?_
  rintro e w4 ⟨rfl, hb⟩
  have B7 := Lib.hid (kp_call B6.out hb)
  replace R2 := Lib.hid (R2.out.below hb)
  clear hb S1 B6
  have hbb : Below w4.heap.size w4 (w4.alloc (.cells #[.int .u32 1] 31)) := kp_alloc (Below.refl _ _) _
  have K1 : BlkU (w4.alloc (.cells #[.int .u32 1] 31)) w4.heap.size [1] := has_new _ _
  have S1 := Lib.hid (same_t A2 (some ⟨w4.heap.size, 0, none⟩) n2 c2 1 1 [1] [1] _ (R2.out.below hbb) (one_ru K1 (by decide)) (by omega) (by decide) rfl)
  have B8 := Lib.hid (kp_call B7.out hbb)
  clear hbb K1 B7 R2
  go_wp2_with fail
  refine S1.out.mono ?_
  rintro e w5 ⟨rfl, hb⟩
  have B9 := Lib.hid (kp_call B8.out hb)
  clear hb S1 B8
  go_wp2
  go_ret
  exact ⟨rfl, B9.out⟩
set_option maxHeartbeats 4000000 in
theorem nil_walk (A : Option Addr) (n0 c0 : Nat) (x : List Nat) (B : Option Addr) (n1 c1 : Nat) (y : List Nat) (w : World) (h0 : IsUs w A n0 c0 x) (h1 : IsUs w B n1 c1 y) :
    Calls Try.prog 5 #[.slice A n0 c0, .slice B n1 c1] w fun e w' => e = .returned (.bool true) ∧ Below w.heap.size w w' := by
  have hn0 : n0 ≤ 9223372036854775807 := by have := h0.le; have h := h0.max; unfold maxLen at h; omega
  have hn1 : n1 ≤ 9223372036854775807 := by have := h1.le; have h := h1.max; unfold maxLen at h; omega
  clear h0 h1
  have WK := Lib.hid (fun W => mworks_any W)
  by_cases hv0 : 300 < n0
  · have i1 : (n0 : Int) > 300 := by omega
    clear hv0
    go_enter Try.func5, Try.ntmps5
    go_wp2_with fail
    refine (WK.out _).mono ?_
    rintro e w1 ⟨rfl, hb⟩
    have HB := Lib.hid hb
    clear hb
    go_wp2
    go_ret
    exact ⟨rfl, HB.out⟩
  · have i1 : ¬ (n0 : Int) > 300 := by omega
    by_cases hv1 : 300 < n1
    · have i2 : (n1 : Int) > 300 := by omega
      clear hv0 hv1
      go_enter Try.func5, Try.ntmps5
      go_wp2_with fail
      refine (WK.out _).mono ?_
      rintro e w1 ⟨rfl, hb⟩
      have HB := Lib.hid hb
      clear hb
      go_wp2
      go_ret
      exact ⟨rfl, HB.out⟩
    · have i2 : ¬ (n1 : Int) > 300 := by omega
      clear hv0 hv1
      go_enter Try.func5, Try.ntmps5
      go_wp2_with fail
      refine (mulnil_any A B n0 c0 n1 c1 w).mono ?_
      rintro e w1 ⟨rfl, hb⟩
      have HB := Lib.hid hb
      clear hb
      go_wp2_with fail
      refine (expnil_any A B n0 c0 n1 c1 w1).mono ?_
      rintro e w2 ⟨rfl, hb⟩
      replace HB := Lib.hid (kp_call HB.out hb)
      clear hb
      go_wp2_with fail
      refine (WK.out _).mono ?_
      rintro e w3 ⟨rfl, hb⟩
      replace HB := Lib.hid (kp_call HB.out hb)
      clear hb
      go_wp2
      go_ret
      exact ⟨rfl, HB.out⟩
end Go.Proofs.Ytcmhacecnahfoaa
