/-
  option: the statement on reading.
-/
import Derived.Test.YtokklcfdfjgbjaaDoorOpP
import Derived.Test.YtokklcfdfjgbjaaDoorOpJ
import Derived.Test.YtokklcfdfjgbjaaDoorOpN
import Derived.Test.YtokklcfdfjgbjaaDoorRoomy
namespace Go.Proofs.YtokklcfdfjgbjaaDoor
open Go.RowKit Go
set_option linter.unusedVariables false
set_option maxRecDepth 100000
theorem fam3 {w : World} {base : Nat} {A B C : Option Addr} {a a' b b' c c' : Nat} {xs ys zs : List UInt8} (hA : OwnB w base A a a' xs) (hB : OwnB w base B b b' ys) (hC : OwnB w base C c c' zs) (ha : a ≤ 1000000) (hb : b ≤ 1000000) (hc : c ≤ 1000000) :
    ∀ x ∈ [((A, a, a', xs) : Own1), (B, b, b', ys), (C, c, c', zs)], OwnB w base x.1 x.2.1 x.2.2.1 x.2.2.2 ∧ x.2.1 ≤ 1000000 := by
  intro x hx
  simp only [List.mem_cons, List.not_mem_nil, or_false] at hx
  rcases hx with rfl | rfl | rfl
  · exact ⟨hA, ha⟩
  · exact ⟨hB, hb⟩
  · exact ⟨hC, hc⟩
theorem far3 {A B C : Option Addr} {a a' b b' c c' : Nat} {xs ys zs : List UInt8} (h1 : blk A = none ∨ blk A ≠ blk B) (h2 : blk A = none ∨ blk A ≠ blk C) (h3 : blk B = none ∨ blk B ≠ blk C) :
    [((A, a, a', xs) : Own1), (B, b, b', ys), (C, c, c', zs)].Pairwise fun x y => blk x.1 = none ∨ blk x.1 ≠ blk y.1 := by
  simp only [List.pairwise_cons, List.mem_cons, List.not_mem_nil, or_false]
  refine ⟨fun y hy => ?_, fun y hy => ?_, fun y hy => hy.elim, List.Pairwise.nil⟩
  · rcases hy with rfl | rfl
    · exact h1
    · exact h2
  · subst hy
    exact h3
set_option maxHeartbeats 6400000 in
theorem reads_walk (A : Option Addr) (n c : Nat) (bs : List UInt8) (w : World) (hR : RB w A n bs) (hnc : n ≤ c) (hc2 : c ≤ 9223372036854775807) (hn : n ≤ 131072) (hT : Sizes w) :
    Calls Tryd.prog 4 #[.slice A n c] w fun e w' => e = .returned (.bool true) ∧ Below w.heap.size w w' := by
  have WK := Lib.hid (fun W (h : Sizes W) => works_any W h)
  have d3 : decide (131072 < (n : Int)) = false := decide_eq_false (by omega)
  have RM := Lib.hid (roomy_any A n c bs w hR (by omega))
  have RDB := Lib.hid (fun A c W (h : RB W A n bs) h1 h2 (hs : Sizes W) => oread_any A n c bs W h h1 h2 (by omega) hs)
  have RFB := Lib.hid (fun W (h : RB W A n bs) => refRead_any A n c bs W h hnc hc2 (by omega))
  have hrs := Lib.hid (fun x (h : readQ bs = some x) => readQ_some h)
  have HLB := Lib.hid hR.1
  go_enter Tryd.func4, Tryd.ntmps4
  go_wp2_with fail
  refine RM.out.mono ?_
  rintro e w1 ⟨A1, c1, rfl, hrm1, hb1⟩
  have hbw1 := hb1
  have hs1 := hbw1.size
  have hcap1 := hrm1.2.cap
  unfold maxLen at hcap1
  have HRM1 := Lib.hid hrm1
  clear hb1 RM hrm1
  go_wp2_with fail
  refine (RDB.out A1 c1 w1 HRM1.out.rb (by omega) (by omega) (hT.below' hbw1)).mono ?_
  intro e w2 hp2
  unfold ReadPost at hp2
  cases hrq : readQ bs with
  | none =>
    rw [hrq] at hp2
    simp only [opZ_eq] at hp2
    obtain ⟨rfl, hb2⟩ := hp2
    have SM := Lib.hid (fun W => same_yes 0 ByteArray.empty none none none none 0 0 0 0 0 0 0 0 [] [] W (RB.nil _ _) (RB.nil _ _) (RB.nil _ _) (RB.nil _ _))
    have hrm2 := HRM1.out.below hb2 (Nat.le_refl _)
    have hbw2 := hbw1.trans (hb2.mono hs1)
    have hs2 := hbw2.size
    have hz2 : w1.heap.size ≤ w2.heap.size := hb2.size
    clear hb2
    go_wp2_with fail
    refine calls_named fun w3 hw3 => ?_
    have hb3 : Below w2.heap.size w2 w3 := below_named hw3 ((Below.refl _ _).alloc (Nat.le_refl _) _)
    have x3 := heap_named hw3 (heap_alloc_new w2 _)
    clear hw3
    have hbw3 := hbw2.trans (hb3.mono hs2)
    have hs3 := hbw3.size
    have hrm3 := hrm2.below hb3 (Nat.le_refl _)
    have hz3 : w2.heap.size ≤ w3.heap.size := hb3.size
    clear hb3 hrm2
    refine (RFB.out w3 (hR.below hbw3)).mono ?_
    intro e w4 hp4
    unfold ReadPost at hp4
    rw [hrq] at hp4
    simp only [opZ_eq] at hp4
    obtain ⟨rfl, hb4⟩ := hp4
    clear hrq
    have hbw4 := hbw3.trans (hb4.mono hs3)
    have hs4 := hbw4.size
    have x4 := (hb4.block _ (heap_lt x3)).trans x3
    have hrm4 := hrm3.below hb4 (Nat.le_refl _)
    have hz4 : w3.heap.size ≤ w4.heap.size := hb4.size
    clear hb4 x3 hrm3
    obtain ⟨a0, a1, a2, a3⟩ := cells4 x4
    have hla4 := heap_lt x4
    go_wp2_with fail
    refine calls_named fun w5 hw5 => ?_
    clear a0 a1 a2 a3
    have hb5 : Below w4.heap.size w4 w5 := below_named hw5 ((Below.refl _ _).alloc (Nat.le_refl _) _)
    clear hw5
    have hbw5 := hbw4.trans (hb5.mono hs4)
    have hs5 := hbw5.size
    have x5 := (hb5.block _ (heap_lt x4)).trans x4
    have hrm5 := hrm4.below hb5 (Nat.le_refl _)
    have hz5 : w4.heap.size ≤ w5.heap.size := hb5.size
    clear hb5 x4 hrm4
    refine (SM.out w5).mono ?_
    intro e w6 hw6
    obtain ⟨rfl, hb6⟩ := hw6
    have hbw6 := hbw5.trans (hb6.mono hs5)
    have hs6 := hbw6.size
    have x6 := (hb6.block _ (heap_lt x5)).trans x5
    have hrm6 := hrm5.below hb6 (Nat.le_refl _)
    have hz6 : w5.heap.size ≤ w6.heap.size := hb6.size
    clear hb6 x5 hrm5
    have HKP := Lib.hid (kept_any A1 A n n c1 c w.heap.size bs bs w6 hrm6 (hR.below hbw6) (by omega))
    have AP : Hid (∀ cs' : Array Value, cs'.toList = [Value.slice none 0 0, Value.slice none 0 0, Value.slice A1 n c1] → Calls Tryd.prog 16 #[.slice (some ⟨w6.heap.size, 0, none⟩) 3 3] (w6.alloc (.cells cs' 23)) fun e w' => e = .returned (.bool true) ∧ Below w.heap.size w6 w') := fun cs' hcs' =>
      apart_list w6 w.heap.size [(none, 0, 0, []), (none, 0, 0, []), (A1, n, c1, ((bs ++ marks).take n))] 3 cs' rfl (by omega) hcs' hs6 (fam3 (OwnB.nil _ _) (OwnB.nil _ _) (hrm6.2.cutTo n (by omega)) (by omega) (by omega) (by omega)) (far3 (.inl rfl) (.inl rfl) (.inl rfl))
    go_wp2_with fail
    refine HKP.out.mono ?_
    rintro e w' ⟨rfl, rfl⟩
    rw [show (bs == bs) = true from by simp]
    obtain ⟨b0, b1, b2, b3⟩ := cells4 x6
    have hlb6 := heap_lt x6
    go_wp2_with fail
    refine (AP.out _ rfl).mono ?_
    intro e w7 hw7
    obtain ⟨rfl, hb7⟩ := hw7
    have hbw7 := hbw6.trans hb7
    have hs7 := hbw7.size
    clear hb7
    go_wp2_with fail
    refine (WK.out w7 (hT.below' hbw7)).mono ?_
    intro e w8 hw8
    obtain ⟨rfl, hb8⟩ := hw8
    have hbw8 := hbw7.trans (hb8.mono hs7)
    have hs8 := hbw8.size
    have hz8 : w7.heap.size ≤ w8.heap.size := hb8.size
    clear hb8
    go_wp2
    go_ret
    exact ⟨rfl, hbw8⟩
  | some z =>
    rw [hrq] at hp2
    simp only at hp2
    obtain ⟨P2, pn2, pc2, D2, dn2, dc2, rfl, oP2, oD2, fPD, hb2⟩ := hp2
    obtain ⟨z1, z2, z3, z4, z5, z6⟩ := hrs.out z hrq
    have hpl := oP2.len
    have hdl := oD2.len
    have hbl := HLB.out
    have hpn : pn2 ≤ 1000000 := by omega
    have hdn : dn2 ≤ 1000000 := by omega
    have FPD := Lib.hid fPD
    have FP1 := Lib.hid (far_of (HRM1.out.2.cutTo n (by omega)) oP2 (Nat.le_refl _))
    have FD1 := Lib.hid (far_of (HRM1.out.2.cutTo n (by omega)) oD2 (Nat.le_refl _))
    have hrm2 := HRM1.out.below hb2 (Nat.le_refl _)
    clear fPD z1 z2 z3 z4 z5 z6 hpl hdl hbl
    have hbw2 := hbw1.trans (hb2.mono hs1)
    have hs2 := hbw2.size
    have hz2 : w1.heap.size ≤ w2.heap.size := hb2.size
    clear hb2
    go_wp2_with fail
    refine calls_named fun w3 hw3 => ?_
    have hb3 : Below w2.heap.size w2 w3 := below_named hw3 ((Below.refl _ _).alloc (Nat.le_refl _) _)
    have x3 := heap_named hw3 (heap_alloc_new w2 _)
    clear hw3
    have hbw3 := hbw2.trans (hb3.mono hs2)
    have hs3 := hbw3.size
    have hrm3 := hrm2.below hb3 (Nat.le_refl _)
    have oP3 := oP2.below hb3 (Nat.le_refl _)
    have oD3 := oD2.below hb3 (Nat.le_refl _)
    have hz3 : w2.heap.size ≤ w3.heap.size := hb3.size
    clear hb3 hrm2 oP2 oD2
    refine (RFB.out w3 (hR.below hbw3)).mono ?_
    intro e w4 hp4
    unfold ReadPost at hp4
    rw [hrq] at hp4
    simp only at hp4
    obtain ⟨P4, pn4, pc4, D4, dn4, dc4, rfl, oQ4, oE4, _, hb4⟩ := hp4
    obtain ⟨za, zl, zp, zd⟩ := z
    simp only at *
    have SM := Lib.hid (fun W (h1 : RB W P2 pn2 zp) (h2 : RB W P4 pn4 zp) (h3 : RB W D2 dn2 zd) (h4 : RB W D4 dn4 zd) => same_yes za (strOf zl) P2 P4 D2 D4 pn2 pc2 pn4 pc4 dn2 dc2 dn4 dc4 zp zd W h1 h2 h3 h4)
    clear hrq
    have hbw4 := hbw3.trans (hb4.mono hs3)
    have hs4 := hbw4.size
    have x4 := (hb4.block _ (heap_lt x3)).trans x3
    have hrm4 := hrm3.below hb4 (Nat.le_refl _)
    have oP4 := oP3.below hb4 (Nat.le_refl _)
    have oD4 := oD3.below hb4 (Nat.le_refl _)
    have hz4 : w3.heap.size ≤ w4.heap.size := hb4.size
    clear hb4 x3 hrm3 oP3 oD3
    obtain ⟨a0, a1, a2, a3⟩ := cells4 x4
    have hla4 := heap_lt x4
    go_wp2_with fail
    refine calls_named fun w5 hw5 => ?_
    clear a0 a1 a2 a3
    have hb5 : Below w4.heap.size w4 w5 := below_named hw5 ((Below.refl _ _).alloc (Nat.le_refl _) _)
    clear hw5
    have hbw5 := hbw4.trans (hb5.mono hs4)
    have hs5 := hbw5.size
    have x5 := (hb5.block _ (heap_lt x4)).trans x4
    have hrm5 := hrm4.below hb5 (Nat.le_refl _)
    have oP5 := oP4.below hb5 (Nat.le_refl _)
    have oD5 := oD4.below hb5 (Nat.le_refl _)
    have oQ5 := oQ4.below hb5 (Nat.le_refl _)
    have oE5 := oE4.below hb5 (Nat.le_refl _)
    have hz5 : w4.heap.size ≤ w5.heap.size := hb5.size
    clear hb5 x4 hrm4 oP4 oD4 oQ4 oE4
    refine (SM.out w5 oP5.rb oQ5.rb oD5.rb oE5.rb).mono ?_
    intro e w6 hw6
    obtain ⟨rfl, hb6⟩ := hw6
    have hbw6 := hbw5.trans (hb6.mono hs5)
    have hs6 := hbw6.size
    have x6 := (hb6.block _ (heap_lt x5)).trans x5
    have hrm6 := hrm5.below hb6 (Nat.le_refl _)
    have oP6 := oP5.below hb6 (Nat.le_refl _)
    have oD6 := oD5.below hb6 (Nat.le_refl _)
    have oQ6 := oQ5.below hb6 (Nat.le_refl _)
    have oE6 := oE5.below hb6 (Nat.le_refl _)
    have hz6 : w5.heap.size ≤ w6.heap.size := hb6.size
    clear hb6 x5 hrm5 oP5 oD5 oQ5 oE5
    have HKP := Lib.hid (kept_any A1 A n n c1 c w.heap.size bs bs w6 hrm6 (hR.below hbw6) (by omega))
    have AP : Hid (∀ cs' : Array Value, cs'.toList = [Value.slice P2 pn2 pc2, Value.slice D2 dn2 dc2, Value.slice A1 n c1] → Calls Tryd.prog 16 #[.slice (some ⟨w6.heap.size, 0, none⟩) 3 3] (w6.alloc (.cells cs' 23)) fun e w' => e = .returned (.bool true) ∧ Below w.heap.size w6 w') := fun cs' hcs' =>
      apart_list w6 w.heap.size [(P2, pn2, pc2, zp), (D2, dn2, dc2, zd), (A1, n, c1, ((bs ++ marks).take n))] 3 cs' rfl (by omega) hcs' hs6 (fam3 (oP6.lower hs1) (oD6.lower hs1) (hrm6.2.cutTo n (by omega)) (by omega) (by omega) (by omega)) (far3 FPD.out (far_symm FP1.out) (far_symm FD1.out))
    go_wp2_with fail
    refine HKP.out.mono ?_
    rintro e w' ⟨rfl, rfl⟩
    rw [show (bs == bs) = true from by simp]
    obtain ⟨b0, b1, b2, b3⟩ := cells4 x6
    have hlb6 := heap_lt x6
    go_wp2_with fail
    refine (AP.out _ rfl).mono ?_
    intro e w7 hw7
    obtain ⟨rfl, hb7⟩ := hw7
    have hbw7 := hbw6.trans hb7
    have hs7 := hbw7.size
    clear hb7
    go_wp2_with fail
    refine (WK.out w7 (hT.below' hbw7)).mono ?_
    intro e w8 hw8
    obtain ⟨rfl, hb8⟩ := hw8
    have hbw8 := hbw7.trans (hb8.mono hs7)
    have hs8 := hbw8.size
    have hz8 : w7.heap.size ≤ w8.heap.size := hb8.size
    clear hb8
    go_wp2
    go_ret
    exact ⟨rfl, hbw8⟩
theorem reads_row (A : Option Addr) (n c : Nat) (bs : List UInt8) (w : World) (h : IsBs w A n c bs) (hT : Sizes w) :
    Calls Tryd.prog 4 #[.slice A n c] w fun e w' => e = .returned (.bool true) ∧ Below w.heap.size w w' := by
  have hc := h.le
  have hm := h.max
  unfold maxLen at hm
  by_cases hn : n ≤ 131072
  · exact reads_walk A n c bs w h.rb hc (by omega) hn hT
  · have WK := Lib.hid (works_any w hT)
    have d3 : decide (131072 < (n : Int)) = true := decide_eq_true (by omega)
    go_enter Tryd.func4, Tryd.ntmps4
    go_wp2_with fail
    refine WK.out.mono ?_
    rintro e w1 ⟨rfl, hb⟩
    go_wp2
    go_ret
    exact ⟨rfl, hb⟩
end Go.Proofs.YtokklcfdfjgbjaaDoor
