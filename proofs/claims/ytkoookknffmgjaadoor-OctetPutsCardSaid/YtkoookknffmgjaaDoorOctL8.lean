/-
  octet: the statement on numbers that are put.
-/
import Derived.Test.YtkoookknffmgjaaDoorFam
import Derived.Test.YtkoookknffmgjaaDoorOctH
import Derived.Test.YtkoookknffmgjaaDoorRoomy
namespace Go.Proofs.YtkoookknffmgjaaDoor
open Go.RowKit Go
set_option linter.unusedVariables false
set_option maxRecDepth 100000
theorem puts_walk (A : Option Addr) (n c : Nat) (bs : List UInt8) (x : Nat) (k : Int) (w : World) (hR : RB w A n bs) (hT : Sizes w) (hn : n ≤ 131072) (hx : x < 18446744073709551616) :
    Calls Tryd.prog 4 #[.slice A n c, .int .u64 x, .int .i64 k] w fun e w' => e = .returned (.bool true) ∧ Below w.heap.size w w' := by
  have WK := Lib.hid (fun W (h : Sizes W) => works_any W h)
  have R := Lib.hid (roomy_any A n c bs w hR (by omega))
  have P := Lib.hid (fun W A1 c1 (h : Sizes W) (h2 : RB W A1 n bs) => put_any A1 n c1 bs x k W h2 h (by omega) hx)
  have Q := Lib.hid (fun W A1 c1 (h : Sizes W) (h2 : RB W A1 n bs) => putBig_any A1 n c1 bs x k W h2 h (by omega) hx)
  have P2 := Lib.hid (fun W (h2 : RB W A n bs) => refPut_any A n c bs x k W h2 (by omega) hx)
  have Q2 := Lib.hid (fun W (h2 : RB W A n bs) => refPutBig_any A n c bs x k W h2 (by omega) hx)
  have hl1 : (bs ++ lowS x k).length ≤ 131080 := by have := lowS_len x k; rw [List.length_append, hR.1]; omega
  have hl2 : (bs ++ (lowS x k).reverse).length ≤ 131080 := by have := lowS_len x k; rw [List.length_append, List.length_reverse, hR.1]; omega
  generalize bs ++ lowS x k = l1 at P P2 hl1
  generalize bs ++ (lowS x k).reverse = l2 at Q Q2 hl2
  have HL1 := Lib.hid hl1
  have HL2 := Lib.hid hl2
  clear hl1 hl2
  go_enter Tryd.func4, Tryd.ntmps4
  go_wp2_with fail
  refine R.out.mono ?_
  rintro e w1 ⟨A1, c1, rfl, hroom, hb1⟩
  have hT1 := hT.below' hb1
  go_wp2_with fail
  refine (P.out w1 A1 c1 hT1 hroom.rb).mono ?_
  rintro e w2 ⟨A2, n2, c2, rfl, hown2, hb2⟩
  have hb2' := hb1.trans (hb2.mono hb1.size)
  have hroom2 := hroom.below hb2 (Nat.le_refl _)
  go_wp2_with fail
  refine (Q.out w2 A1 c1 (hT1.below' hb2) hroom2.rb).mono ?_
  rintro e w3 ⟨A3, n3, c3, rfl, hown3, hb3⟩
  have hb3' := hb2'.trans (hb3.mono hb2'.size)
  have hroom3 := hroom2.below hb3 (Nat.le_refl _)
  have hown23 := hown2.below hb3 (Nat.le_refl _)
  go_wp2_with fail
  refine (P2.out w3 (hR.below hb3')).mono ?_
  rintro e w4 ⟨A4, n4, c4, rfl, hown4, hb4⟩
  have hb4' := hb3'.trans (hb4.mono hb3'.size)
  have hown24 := hown23.below hb4 (Nat.le_refl _)
  have hown34 := hown3.below hb4 (Nat.le_refl _)
  have hroom4 := hroom3.below hb4 (Nat.le_refl _)
  have HE1 := Lib.hid (eq_any A2 A4 n2 n4 c2 c4 l1 l1 w4 hown24.rb hown4.rb)
  simp only [beq_self_eq_true] at HE1
  go_wp2_with fail
  refine HE1.out.mono ?_
  rintro e w' ⟨rfl, rfl⟩
  go_wp2_with fail
  refine (Q2.out w4 (hR.below hb4')).mono ?_
  rintro e w5 ⟨A5, n5, c5, rfl, hown5, hb5⟩
  have hb5' := hb4'.trans (hb5.mono hb4'.size)
  have hown25 := hown24.below hb5 (Nat.le_refl _)
  have hown35 := hown34.below hb5 (Nat.le_refl _)
  have hroom5 := hroom4.below hb5 (Nat.le_refl _)
  have HE2 := Lib.hid (eq_any A3 A5 n3 n5 c3 c5 l2 l2 w5 hown35.rb hown5.rb)
  have HK := Lib.hid (kept_any A1 A n n c1 c w.heap.size bs bs w5 hroom5 (hR.below hb5') (by omega))
  simp only [beq_self_eq_true] at HE2 HK
  go_wp2_with fail
  refine HE2.out.mono ?_
  rintro e w' ⟨rfl, rfl⟩
  go_wp2_with fail
  refine HK.out.mono ?_
  rintro e w' ⟨rfl, rfl⟩
  go_wp2_with fail
  refine (P.out w5 A1 c1 (hT.below' hb5') hroom5.rb).mono ?_
  rintro e w6 ⟨A6, n6, c6, rfl, hown6, hb6⟩
  have hb6' := hb5'.trans (hb6.mono hb5'.size)
  have hroom6 := hroom5.below hb6 (Nat.le_refl _)
  go_wp2_with fail
  refine (Q.out w6 A1 c1 (hT.below' hb6') hroom6.rb).mono ?_
  rintro e w7 ⟨A7, n7, c7, rfl, hown7, hb7⟩
  have hb7' := hb6'.trans (hb7.mono hb6'.size)
  have hroom7 := hroom6.below hb7 (Nat.le_refl _)
  have hown67 := hown6.below hb7 (Nat.le_refl _)
  have hown26 := hown25.below hb6 (Nat.le_refl _)
  have hown36 := hown35.below hb6 (Nat.le_refl _)
  have hown27 := hown26.below hb7 (Nat.le_refl _)
  have hown37 := hown36.below hb7 (Nat.le_refl _)
  have F12 := Lib.hid (far_symm (far_of hroom.2 hown2 (Nat.le_refl _)))
  have F13 := Lib.hid (far_symm (far_of hroom2.2 hown3 (Nat.le_refl _)))
  have F16 := Lib.hid (far_symm (far_of hroom5.2 hown6 (Nat.le_refl _)))
  have F17 := Lib.hid (far_symm (far_of hroom6.2 hown7 (Nat.le_refl _)))
  have F23 := Lib.hid (far_of hown2 hown3 (Nat.le_refl _))
  have F26 := Lib.hid (far_of hown25 hown6 (Nat.le_refl _))
  have F27 := Lib.hid (far_of hown26 hown7 (Nat.le_refl _))
  have F36 := Lib.hid (far_of hown35 hown6 (Nat.le_refl _))
  have F37 := Lib.hid (far_of hown36 hown7 (Nat.le_refl _))
  have F67 := Lib.hid (far_of hown6 hown7 (Nat.le_refl _))
  have AP : Hid (∀ cs' : Array Value, cs'.toList = [Value.slice A2 n2 c2, .slice A3 n3 c3, .slice A6 n6 c6, .slice A7 n7 c7, .slice A1 n c1] → Calls Tryd.prog 22 #[.slice (some ⟨w7.heap.size, 0, none⟩) 5 5] (w7.alloc (.cells cs' 22)) fun e w' => e = .returned (.bool true) ∧ Below w.heap.size w7 w') := fun cs' hcs' => by
    refine apart_list w7 w.heap.size [(A2, n2, c2, l1), (A3, n3, c3, l2), (A6, n6, c6, l1), (A7, n7, c7, l2), (A1, n, c1, (bs ++ marks).take n)] 5 cs' rfl (by omega) hcs' hb7'.size ?_ ?_
    · have hl1 := HL1.out
      have hl2 := HL2.out
      intro x hx
      simp only [List.mem_cons, List.not_mem_nil, or_false] at hx
      rcases hx with rfl | rfl | rfl | rfl | rfl
      · exact ⟨hown27.lower hb1.size, by have := hown2.len; simp only; omega⟩
      · exact ⟨hown37.lower hb2'.size, by have := hown3.len; simp only; omega⟩
      · exact ⟨hown67.lower hb5'.size, by have := hown6.len; simp only; omega⟩
      · exact ⟨hown7.lower hb6'.size, by have := hown7.len; simp only; omega⟩
      · exact ⟨hroom7.2.cutTo n (by omega), by simp only; omega⟩
    · simp only [List.pairwise_cons, List.mem_cons, List.not_mem_nil, or_false]
      refine ⟨fun y hy => ?_, fun y hy => ?_, fun y hy => ?_, fun y hy => ?_, fun y hy => hy.elim, List.Pairwise.nil⟩
      · rcases hy with rfl | rfl | rfl | rfl
        · exact F23.out
        · exact F26.out
        · exact F27.out
        · exact F12.out
      · rcases hy with rfl | rfl | rfl
        · exact F36.out
        · exact F37.out
        · exact F13.out
      · rcases hy with rfl | rfl
        · exact F67.out
        · exact F16.out
      · subst hy
        exact F17.out
  clear hroom hroom2 hroom3 hroom4 hroom5 hroom6 hroom7 hown2 hown23 hown24 hown25 hown26 hown27 hown3 hown34 hown35 hown36 hown37 hown4 hown5 hown6 hown67 hown7
  go_wp2_with fail
  refine (AP.out _ rfl).mono ?_
  rintro e w8 ⟨rfl, hb8⟩
  have hb8' := hb7'.trans hb8
  go_wp2_with fail
  refine (WK.out w8 (hT.below' hb8')).mono ?_
  rintro e w9 ⟨rfl, hb9⟩
  go_wp2
  go_ret
  exact ⟨rfl, hb8'.trans (hb9.mono hb8'.size)⟩
theorem puts_row (A : Option Addr) (n c : Nat) (bs : List UInt8) (x k : Int) (w : World) (h1 : IsBs w A n c bs) (hx : (Lit.int .u64 x).wf = true) (hk : (Lit.int .i64 k).wf = true) (hT : Sizes w) :
    Calls Tryd.prog 4 #[.slice A n c, .int .u64 x, .int .i64 k] w fun e w' => e = .returned (.bool true) ∧ Below w.heap.size w w' := by
  obtain ⟨x1, x2⟩ := bounds_u64 hx
  obtain ⟨m, rfl⟩ : ∃ m : Nat, x = m := ⟨x.toNat, by omega⟩
  have hlim := h1.lim
  by_cases hn : n ≤ 131072
  · exact puts_walk A n c bs m k w h1.rb hT hn (by omega)
  · have WK := Lib.hid (fun W (h : Sizes W) => works_any W h)
    go_enter Tryd.func4, Tryd.ntmps4
    go_wp2_with fail
    refine (WK.out _ hT).mono ?_
    rintro e w' ⟨rfl, hb1⟩
    go_wp2
    go_ret
    exact ⟨rfl, hb1⟩
end Go.Proofs.YtkoookknffmgjaaDoor
