/-
  octet: the statement on numbers and pieces of any bytes.
-/
import Derived.Test.YtkoookknffmgjaaDoorFam
import Derived.Test.YtkoookknffmgjaaDoorOctG
import Derived.Test.YtkoookknffmgjaaDoorRoomy
namespace Go.Proofs.YtkoookknffmgjaaDoor
open Go.RowKit Go
set_option linter.unusedVariables false
set_option maxRecDepth 100000
def CutAny (w : World) (cs : List UInt8) (is : Bool) (e : Ending) (w' : World) : Prop :=
  ∃ A n c, e = .returned (.tuple #[.slice A n c, .bool is]) ∧ OwnB w' w.heap.size A n c cs ∧ Below w.heap.size w w'
theorem gets_walk (A : Option Addr) (n c : Nat) (bs : List UInt8) (a k : Int) (w : World) (hR : RB w A n bs) (hT : Sizes w) (hn : n ≤ 131072) (X Y : Nat) (E : Int) (cs : List UInt8) (is : Bool) (hcl : cs.length ≤ 131072)
    (hG1 : ∀ W A1 c1, Sizes W → RB W A1 n bs → Calls Tryd.prog 14 #[.slice A1 n c1, .int .i64 a, .int .i64 k] W fun e w' => e = .returned (.tuple #[.int .u64 X, .int .i64 E]) ∧ W = w')
    (hG2 : ∀ W, RB W A n bs → Calls Tryd.prog 15 #[.slice A n c, .int .i64 a, .int .i64 k] W fun e w' => e = .returned (.tuple #[.int .u64 X, .int .i64 E]) ∧ Below W.heap.size W w')
    (hG3 : ∀ W A1 c1, Sizes W → RB W A1 n bs → Calls Tryd.prog 16 #[.slice A1 n c1, .int .i64 a, .int .i64 k] W fun e w' => e = .returned (.tuple #[.int .u64 Y, .int .i64 E]) ∧ Below W.heap.size W w')
    (hG4 : ∀ W, RB W A n bs → Calls Tryd.prog 17 #[.slice A n c, .int .i64 a, .int .i64 k] W fun e w' => e = .returned (.tuple #[.int .u64 Y, .int .i64 E]) ∧ Below W.heap.size W w')
    (hG5 : ∀ W A1 c1, n ≤ c1 → c1 ≤ 9223372036854775807 → RB W A1 n bs → Calls Tryd.prog 18 #[.slice A1 n c1, .int .i64 a, .int .i64 k] W (CutAny W cs is))
    (hG6 : ∀ W, RB W A n bs → Calls Tryd.prog 19 #[.slice A n c, .int .i64 a, .int .i64 k] W (CutAny W cs is)) :
    Calls Tryd.prog 3 #[.slice A n c, .int .i64 a, .int .i64 k] w fun e w' => e = .returned (.bool true) ∧ Below w.heap.size w w' := by
  have WK := Lib.hid (fun W (h : Sizes W) => works_any W h)
  have R := Lib.hid (roomy_any A n c bs w hR (by omega))
  have G1 := Lib.hid hG1
  have G2 := Lib.hid hG2
  have G3 := Lib.hid hG3
  have G4 := Lib.hid hG4
  have G5 := Lib.hid hG5
  have G6 := Lib.hid hG6
  have b1 : ((X : Int) == (X : Int)) = true := by simp
  have b2 : ((Y : Int) == (Y : Int)) = true := by simp
  have b3 : (E == E) = true := by simp
  have b4 : (is == is) = true := by simp
  clear hG1 hG2 hG3 hG4 hG5 hG6
  go_enter Tryd.func3, Tryd.ntmps3
  go_wp2_with fail
  refine R.out.mono ?_
  rintro e w1 ⟨A1, c1, rfl, hroom, hb1⟩
  have hT1 := hT.below' hb1
  have hR1 := hR.below hb1
  have hcap := hroom.2.cap
  have hc1 : c1 ≤ 9223372036854775807 := by have := hcap.2; unfold maxLen at this; omega
  have hn1 : n ≤ c1 := by have := hcap.1; omega
  clear hcap
  go_wp2_with fail
  refine (G1.out w1 A1 c1 hT1 hroom.rb).mono ?_
  rintro e w' ⟨rfl, rfl⟩
  go_wp2_with fail
  refine (G2.out w1 hR1).mono ?_
  rintro e w2 ⟨rfl, hb2⟩
  have hb2' := hb1.trans (hb2.mono hb1.size)
  have hroom2 := hroom.below hb2 (Nat.le_refl _)
  go_wp2_with fail
  refine (G3.out w2 A1 c1 (hT1.below' hb2) hroom2.rb).mono ?_
  rintro e w3 ⟨rfl, hb3⟩
  have hb3' := hb2'.trans (hb3.mono hb2'.size)
  have hroom3 := hroom2.below hb3 (Nat.le_refl _)
  have hR3 := hR.below hb3'
  go_wp2_with fail
  refine (G4.out w3 hR3).mono ?_
  rintro e w4 ⟨rfl, hb4⟩
  have hb4' := hb3'.trans (hb4.mono hb3'.size)
  have hroom4 := hroom3.below hb4 (Nat.le_refl _)
  go_wp2_with fail
  refine (G5.out w4 A1 c1 hn1 hc1 hroom4.rb).mono ?_
  rintro e w5 ⟨A5, n5, c5, rfl, hown5, hb5⟩
  have hb5' := hb4'.trans (hb5.mono hb4'.size)
  have hroom5 := hroom4.below hb5 (Nat.le_refl _)
  go_wp2_with fail
  refine (G6.out w5 (hR.below hb5')).mono ?_
  rintro e w6 ⟨A6, n6, c6, rfl, hown6, hb6⟩
  have hb6' := hb5'.trans (hb6.mono hb5'.size)
  have hroom6 := hroom5.below hb6 (Nat.le_refl _)
  have hown56 := hown5.below hb6 (Nat.le_refl _)
  have HE := Lib.hid (eq_any A5 A6 n5 n6 c5 c6 cs cs w6 hown56.rb hown6.rb)
  have HK := Lib.hid (kept_any A1 A n n c1 c w.heap.size bs bs w6 hroom6 (hR.below hb6') (by omega))
  simp only [beq_self_eq_true] at HE HK
  have F1 := Lib.hid (far_symm (far_of hroom4.2 hown5 (Nat.le_refl _)))
  clear hroom hroom2 hroom3 hroom4 hroom5
  go_wp2_with fail
  refine HE.out.mono ?_
  rintro e w' ⟨rfl, rfl⟩
  go_wp2_with fail
  refine HK.out.mono ?_
  rintro e w' ⟨rfl, rfl⟩
  go_wp2_with fail
  refine (G5.out w6 A1 c1 hn1 hc1 hroom6.rb).mono ?_
  rintro e w7 ⟨A7, n7, c7, rfl, hown7, hb7⟩
  have hb7' := hb6'.trans (hb7.mono hb6'.size)
  have hroom7 := hroom6.below hb7 (Nat.le_refl _)
  have hown57 := hown56.below hb7 (Nat.le_refl _)
  have F2 := Lib.hid (far_symm (far_of hroom6.2 hown7 (Nat.le_refl _)))
  have F3 := Lib.hid (far_of hown56 hown7 (Nat.le_refl _))
  have hsz7 := hb7'.size
  have hsz4 := hb4'.size
  have AP : Hid (∀ cs' : Array Value, cs'.toList = [Value.slice A5 n5 c5, .slice A7 n7 c7, .slice A1 n c1] → Calls Tryd.prog 22 #[.slice (some ⟨w7.heap.size, 0, none⟩) 3 3] (w7.alloc (.cells cs' 22)) fun e w' => e = .returned (.bool true) ∧ Below w.heap.size w7 w') := fun cs' hcs' => by
    refine apart_list w7 w.heap.size [(A5, n5, c5, cs), (A7, n7, c7, cs), (A1, n, c1, (bs ++ marks).take n)] 3 cs' rfl (by omega) hcs' hsz7 ?_ ?_
    · intro x hx
      simp only [List.mem_cons, List.not_mem_nil, or_false] at hx
      rcases hx with rfl | rfl | rfl
      · exact ⟨hown57.lower hsz4, by have := hown5.len; simp only; omega⟩
      · exact ⟨hown7.lower hb6'.size, by have := hown7.len; simp only; omega⟩
      · exact ⟨hroom7.2.cutTo n (by omega), by simp only; omega⟩
    · simp only [List.pairwise_cons, List.mem_cons, List.not_mem_nil, or_false]
      refine ⟨fun y hy => ?_, fun y hy => ?_, fun y hy => hy.elim, List.Pairwise.nil⟩
      · rcases hy with rfl | rfl
        · exact F3.out
        · exact F1.out
      · subst hy
        exact F2.out
  clear hown5 hown6 hown56 hown7 hown57 hroom6 hroom7
  go_wp2_with fail
  refine (AP.out _ rfl).mono ?_
  rintro e w8 ⟨rfl, hb8⟩
  have hb8' := hb7'.trans hb8
  go_wp2_with fail
  refine (WK.out w8 (hT.below' hb8')).mono ?_
  rintro e w9 ⟨rfl, hb9⟩
  go_wp2
  go_ret
  exact ⟨rfl, hb8'.trans (hb9.mono hb8'.size)⟩
theorem gets_row (A : Option Addr) (n c : Nat) (bs : List UInt8) (a k : Int) (w : World) (h1 : IsBs w A n c bs) (ha : (Lit.int .i64 a).wf = true) (hk : (Lit.int .i64 k).wf = true) (hT : Sizes w) :
    Calls Tryd.prog 3 #[.slice A n c, .int .i64 a, .int .i64 k] w fun e w' => e = .returned (.bool true) ∧ Below w.heap.size w w' := by
  obtain ⟨a1, a2⟩ := bounds_i64 ha
  obtain ⟨k1, k2⟩ := bounds_i64 hk
  have hlim := h1.lim
  have hnc := h1.le
  have hcm : c ≤ 9223372036854775807 := by have := h1.max; unfold maxLen at this; omega
  have hR := h1.rb
  by_cases hn : n ≤ 131072
  · cases hin : inB n a k with
    | false =>
      exact gets_walk A n c bs a k w hR hT hn 0 0 1 [] false (by simp)
        (fun W A1 c1 h _ => get_not A1 n c1 a k W h (by omega) k1 k2 (.inr hin))
        (fun W h => refGet_not A n c bs a k W h hnc hcm (by omega) a1 a2 k1 k2 (.inr hin))
        (fun W A1 c1 h _ => getBig_not A1 n c1 a k W h (by omega) k1 k2 (.inr hin))
        (fun W h => refGetBig_not A n c bs a k W h hnc hcm (by omega) a1 a2 k1 k2 (.inr hin))
        (fun W A1 c1 _ _ _ => (cut_not A1 n c1 a k W (by omega) k1 k2 hin).mono fun e w' ⟨e1, e2⟩ => by subst e1; subst e2; exact ⟨_, _, _, rfl, OwnB.nil _ _, Below.refl _ _⟩)
        (fun W _ => (refCut_not A n c a k W (by omega) a1 a2 k1 k2 hin).mono fun e w' ⟨e1, e2⟩ => by subst e1; subst e2; exact ⟨_, _, _, rfl, OwnB.nil _ _, Below.refl _ _⟩)
    | true =>
      obtain ⟨a', k', rfl, rfl, h'⟩ := inB_yes hin
      have hcl : (cut bs a' k').length ≤ 131072 := by rw [cut_len _ _ _ (by rw [hR.1]; exact h')]; omega
      cases hz : isSz (k' : Int) with
      | true =>
        exact gets_walk A n c bs a' k' w hR hT hn (leN (cut bs a' k')) (leN (cut bs a' k').reverse) 0 (cut bs a' k') true hcl
          (fun W A1 c1 h h2 => get_ok A1 n c1 bs a' k' W h2 h (by omega) hz h')
          (fun W h => refGet_ok A n c bs a' k' W h hnc hcm hz h')
          (fun W A1 c1 h h2 => getBig_ok A1 n c1 bs a' k' W h2 h (by omega) hz h')
          (fun W h => refGetBig_ok A n c bs a' k' W h hnc hcm hz h')
          (fun W A1 c1 q1 q2 q3 => cut_ok A1 n c1 bs a' k' W q3 q1 q2 h' (by omega))
          (fun W h => refCut_ok A n c bs a' k' W h hnc hcm h' (by omega))
      | false =>
        exact gets_walk A n c bs a' k' w hR hT hn 0 0 1 (cut bs a' k') true hcl
          (fun W A1 c1 h _ => get_not A1 n c1 a' k' W h (by omega) k1 k2 (.inl hz))
          (fun W h => refGet_not A n c bs a' k' W h hnc hcm (by omega) a1 a2 k1 k2 (.inl hz))
          (fun W A1 c1 h _ => getBig_not A1 n c1 a' k' W h (by omega) k1 k2 (.inl hz))
          (fun W h => refGetBig_not A n c bs a' k' W h hnc hcm (by omega) a1 a2 k1 k2 (.inl hz))
          (fun W A1 c1 q1 q2 q3 => cut_ok A1 n c1 bs a' k' W q3 q1 q2 h' (by omega))
          (fun W h => refCut_ok A n c bs a' k' W h hnc hcm h' (by omega))
  · have WK := Lib.hid (fun W (h : Sizes W) => works_any W h)
    go_enter Tryd.func3, Tryd.ntmps3
    go_wp2_with fail
    refine (WK.out _ hT).mono ?_
    rintro e w' ⟨rfl, hb1⟩
    go_wp2
    go_ret
    exact ⟨rfl, hb1⟩
end Go.Proofs.YtkoookknffmgjaaDoor
