/-
  descr: the anchor.
-/
import Derived.Test.YthmmipcfabijdaaDoorDeG
import Derived.Test.YthmmipcfabijdaaDoorDeE
namespace Go.Proofs.YthmmipcfabijdaaDoor
open Go.RowKit Go
set_option linter.unusedVariables false
set_option maxRecDepth 100000
def wT : Tm := ⟨2024, 1, 2, 3, 4, 5⟩
theorem wRt : rightB wT = true := by decide
theorem rb_new (w : World) (bs : List UInt8) (n : Nat) (t : TypeId) (mk : Nat × Nat) (cs : Array Value) (h : cs.toList = bs.map bv) (hn : bs.length = n) : RB (w.alloc (.cells cs t mk)) (some ⟨w.heap.size, 0, none⟩) n bs := by
  have hb := bs_new w bs t mk cs h
  refine ⟨hn, ?_⟩
  simpa using hb
theorem wText : (textL [97] (List.replicate 16 0) 7 wT []).length = 38 := by decide
theorem wLen : (dW wT [170] [187]).length = 42 := by decide
set_option maxHeartbeats 6400000 in
theorem works_any (w : World) (hT : Sizes w) : Calls Tryd.prog 7 #[] w fun e w' => e = .returned (.bool true) ∧ Below w.heap.size w w' := by
  have WY := fun A c D d W hs hA hD => dwrite_yes wT A 1 c [170] D 1 d [187] W hs (by decide) hA hD (by omega) (by omega) wRt (by omega) (by omega)
  have RD := fun A c W hR h1 h2 hs => dread_any A 42 c (dW wT [170] [187]) W hR h1 h2 (by omega) hs
  have hq : dR (dW wT [170] [187]) = some (wT, [170], [187]) := dR_dW [187] wRt (by decide) (by decide)
  have TX := fun W hs => dtext_any { data := #[97] } (List.replicate 16 0) 7 wT none 0 0 [] W hs (by decide) rfl (by omega) (by decide) (RB.nil _ _) (by omega)
  have hlt := wText
  have hln := wLen
  have e97 : (({ data := #[97] } : ByteArray).data.toList) = [97] := rfl
  rw [e97] at TX
  generalize textL [97] (List.replicate 16 0) 7 wT [] = tl at *
  generalize dW wT [170] [187] = dl at *
  have HEQ : ∀ W, (Op.equalIn 10000 25 (.agg #[.int .u16 2024, .int .u8 1, .int .u8 2, .int .u8 3, .int .u8 4, .int .u8 5]) (.agg #[.int .u16 2024, .int .u8 1, .int .u8 2, .int .u8 3, .int .u8 4, .int .u8 5])).run Tryd.prog W = .ok true W := fun W => (tm_same wT wT W 9998).trans (by simp)
  have SM := fun A1 A2 c1 c2 xs W h1 h2 => same_any A1 A2 1 1 c1 c2 xs xs W h1 h2
  simp only [beq_self_eq_true] at SM
  have gve : gV (List.replicate 16 0) = .agg #[.int .u8 0, .int .u8 0, .int .u8 0, .int .u8 0, .int .u8 0, .int .u8 0, .int .u8 0, .int .u8 0, .int .u8 0, .int .u8 0, .int .u8 0, .int .u8 0, .int .u8 0, .int .u8 0, .int .u8 0, .int .u8 0] := rfl
  have wve : tmV wT = .agg #[.int .u16 2024, .int .u8 1, .int .u8 2, .int .u8 3, .int .u8 4, .int .u8 5] := rfl
  rw [gve, wve] at TX
  rw [wve] at WY
  have WY := Lib.hid WY
  have RD := Lib.hid RD
  have TX := Lib.hid TX
  have SM := Lib.hid SM
  have HLT := Lib.hid hlt
  have HLN := Lib.hid hln
  have HQ := Lib.hid hq
  have HWV := Lib.hid wve
  clear hq hlt hln e97 gve wve
  go_enter Tryd.func7, Tryd.ntmps7
  go_wp2_with fail
  refine calls_named fun w0 hw0 => ?_
  have hbw0 : Below w.heap.size w w0 := by subst hw0; exact (((Below.refl _ _).alloc (Nat.le_refl _) _).alloc (by simp) _).alloc (by simp; omega) _
  have hs0 := hbw0.size
  have k0 : w0.heap[w.heap.size]? = some (.cells #[.int .u16 2024, .int .u8 1, .int .u8 2, .int .u8 3, .int .u8 4, .int .u8 5] 25) := by subst hw0; exact (heap_alloc_old _ _ (by simp; omega)).trans ((heap_alloc_old _ _ (by simp)).trans (heap_alloc_new w _))
  have q0 : w0.heap[w.heap.size + 1]? = some (.cells #[.int .u8 170] 5) := by subst hw0; exact alloc3_1 w _ _ _
  have r0 : w0.heap[w.heap.size + 1 + 1]? = some (.cells #[.int .u8 187] 5) := by subst hw0; exact alloc3_2 w _ _ _
  have hA0 : RB w0 (some ⟨w.heap.size + 1, 0, none⟩) 1 [170] := rb_block q0 rfl rfl
  have hB0 : RB w0 (some ⟨w.heap.size + 1 + 1, 0, none⟩) 1 [187] := rb_block r0 rfl rfl
  clear hw0 q0 r0
  refine (WY.out _ _ _ _ w0 (hT.below' hbw0) hA0 hB0).mono ?_
  rintro e w1 ⟨Aa, na, ca, rfl, oa1, hb1⟩
  obtain rfl : 42 = na := HLN.out.symm.trans oa1.len
  have hbw1 := hbw0.trans (hb1.mono hs0)
  have hs1 := hbw1.size
  have k1 := (hb1.block _ (heap_lt k0)).trans k0
  have hz1 : w0.heap.size ≤ w1.heap.size := hb1.size
  clear hb1 k0
  have hcap := oa1.cap
  unfold maxLen at hcap
  clear hA0 hB0 WY
  go_wp2_with fail
  refine (RD.out Aa ca w1 oa1.rb hcap.1 (by omega) (hT.below' hbw1)).mono ?_
  intro e w2 hp
  simp only [DReadPost, HQ.out, HWV.out] at hp
  obtain ⟨P, pn, pc, D, dn, dc, rfl, oP2, oD2, hb2⟩ := hp
  obtain rfl : 1 = pn := oP2.len
  obtain rfl : 1 = dn := oD2.len
  have hbw2 := hbw1.trans (hb2.mono hs1)
  have hs2 := hbw2.size
  have k2 := (hb2.block _ (heap_lt k1)).trans k1
  have oa2 := oa1.below hb2 (Nat.le_refl _)
  have hz2 : w1.heap.size ≤ w2.heap.size := hb2.size
  clear hb2 k1 oa1
  clear oa2
  obtain ⟨a0, a1, a2, a3, a4, a5⟩ := cells6 k2
  have hla2 := heap_lt k2
  go_wp2_with fail
  refine calls_named fun w3 hw3 => ?_
  have hb3 : Below w2.heap.size w2 w3 := by subst hw3; exact ((Below.refl _ _).alloc (Nat.le_refl _) _).alloc (by simp) _
  have q3 : w3.heap[w2.heap.size + 1]? = some (.cells #[.int .u8 170] 5) := by subst hw3; exact heap_alloc2_new w2 _ _
  have hA3 : RB w3 (some ⟨w2.heap.size + 1, 0, none⟩) 1 [170] := rb_block q3 rfl rfl
  clear hw3 q3 a0 a1 a2 a3 a4 a5
  have hbw3 := hbw2.trans (hb3.mono hs2)
  have hs3 := hbw3.size
  have k3 := (hb3.block _ (heap_lt k2)).trans k2
  have oP3 := oP2.below hb3 (Nat.le_refl _)
  have oD3 := oD2.below hb3 (Nat.le_refl _)
  have hz3 : w2.heap.size ≤ w3.heap.size := hb3.size
  clear hb3 k2 oP2 oD2
  refine (SM.out _ _ _ _ _ w3 oP3.rb hA3).mono ?_
  rintro e w' ⟨rfl, rfl⟩
  go_wp2_with fail
  refine calls_named fun w4 hw4 => ?_
  have hb4 : Below w3.heap.size w3 w4 := by subst hw4; exact (Below.refl _ _).alloc (Nat.le_refl _) _
  have q4 : w4.heap[w3.heap.size]? = some (.cells #[.int .u8 187] 5) := by subst hw4; exact heap_alloc_new w3 _
  have hA4 : RB w4 (some ⟨w3.heap.size, 0, none⟩) 1 [187] := rb_block q4 rfl rfl
  clear hw4 q4 hA3
  have hbw4 := hbw3.trans (hb4.mono hs3)
  have hs4 := hbw4.size
  have k4 := (hb4.block _ (heap_lt k3)).trans k3
  have oP4 := oP3.below hb4 (Nat.le_refl _)
  have oD4 := oD3.below hb4 (Nat.le_refl _)
  have hz4 : w3.heap.size ≤ w4.heap.size := hb4.size
  clear hb4 k3 oP3 oD3
  refine (SM.out _ _ _ _ _ w4 oD4.rb hA4).mono ?_
  rintro e w' ⟨rfl, rfl⟩
  obtain ⟨a0, a1, a2, a3, a4, a5⟩ := cells6 k4
  have hla4 := heap_lt k4
  go_wp2_with fail
  refine (TX.out w4 (hT.below' hbw4)).mono ?_
  rintro e w5 ⟨At, nt, ct, rfl, ot5, hb5⟩
  obtain rfl : 38 = nt := HLT.out.symm.trans ot5.len
  have hbw5 := hbw4.trans (hb5.mono hs4)
  have hs5 := hbw5.size
  have k5 := (hb5.block _ (heap_lt k4)).trans k4
  have oP5 := oP4.below hb5 (Nat.le_refl _)
  have oD5 := oD4.below hb5 (Nat.le_refl _)
  have hz5 : w4.heap.size ≤ w5.heap.size := hb5.size
  clear hb5 k4 oP4 oD4
  go_wp2
  go_ret
  exact ⟨rfl, hbw5⟩
end Go.Proofs.YthmmipcfabijdaaDoor
