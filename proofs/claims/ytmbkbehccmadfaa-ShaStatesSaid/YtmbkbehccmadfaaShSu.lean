/-
  sha: the sum of any bytes.
-/
import Derived.Test.YtmbkbehccmadfaaShX9
import Derived.Test.YtmbkbehccmadfaaShSm
namespace Go.Proofs.Ytmbkbehccmadfaa
open Go.RowKit Go
set_option linter.unusedVariables false
set_option linter.unusedSimpArgs false
set_option maxRecDepth 100000
theorem sum_s (A : Option Addr) (n c : Nat) (bs : List UInt8) (ds : Array Value) (hd : ((sumQ (bs.map UInt8.toNat) n).map v8).toArray = ds) (w : World) (h : RB w A n bs) (hn1 : n ≤ 1000000000) (hnc : n ≤ c) (hc1 : c ≤ 9223372036854775807) :
    Calls Try.prog 14 #[.slice A n c] w fun e w' => e = .returned (.agg ds) ∧ Below w.heap.size w w' := by
  subst hd
  exact sum_any A n c bs w h hn1 hnc hc1
theorem dsum_s (A : Option Addr) (n c : Nat) (bs : List UInt8) (ds : Array Value) (hd : ((sumQ (bs.map UInt8.toNat) n).map v8).toArray = ds) (w : World) (h : RB w A n bs) (hn : n ≤ 1000000) :
    Calls Try.prog 15 #[.slice A n c] w fun e w' => e = .returned (.agg ds) ∧ Below w.heap.size w w' := by
  subst hd
  exact dsum_any A n c bs w h hn
set_option maxHeartbeats 4000000 in
theorem sums_walk (A : Option Addr) (n c : Nat) (xs : List UInt8) (w : World) (h1 : IsBs w A n c xs) :
    Calls Try.prog 3 #[.slice A n c] w fun e w' => e = .returned (.bool true) ∧ Below w.heap.size w w' := by
  have WK := Lib.hid (fun W => works_any W)
  have hA := h1.rb
  have l1 := h1.lim
  clear h1
  obtain ⟨ds, hds⟩ : ∃ ds, ((sumQ (xs.map UInt8.toNat) n).map v8).toArray = ds := ⟨_, rfl⟩
  have hsame : ∀ W, (Op.equalIn 10000 25 (.agg ds) (.agg ds)).run Try.prog W = .ok true W := fun W => by rw [← hds]; exact dig_same _ (sumQ_len _ _) W
  have HDS := Lib.hid hds
  clear hds
  by_cases hn : n ≤ 16384
  · have i1 : ¬ (n : Int) > 16384 := by omega
    go_enter Try.func3, Try.ntmps3
    go_wp2_with fail
    refine calls_named fun w0 hw0 => ?_
    have hbw0 : Below w.heap.size w w0 := below_named hw0 (Below.refl _ _)
    have hs0 := hbw0.size
    clear hw0
    refine (roomy_any A n c xs w0 (hA.below hbw0) (by omega)).mono ?_
    rintro e w1 ⟨Ax, cx, rfl, ox1, hb1⟩
    have hbw1 := hbw0.trans (hb1.mono hs0)
    have hs1 := hbw1.size
    have hz1 : w0.heap.size ≤ w1.heap.size := hb1.size
    clear hb1
    have hcx : n ≤ cx ∧ cx ≤ 9223372036854775807 := by have h5 := ox1.2.cap; unfold maxLen at h5; omega
    obtain ⟨hcx1, hcx2⟩ := hcx
    go_wp2_with fail
    refine (sum_s Ax n cx xs ds HDS.out w1 ox1.rb (by omega) hcx1 hcx2).mono ?_
    intro e w2 hw2
    obtain ⟨rfl, hb2⟩ := hw2
    have hbw2 := hbw1.trans (hb2.mono hs1)
    have hs2 := hbw2.size
    have ox2 := ox1.below hb2 (Nat.le_refl _)
    have hz2 : w1.heap.size ≤ w2.heap.size := hb2.size
    clear hb2 ox1
    go_wp2_with fail
    refine (dsum_s A n c xs ds HDS.out w2 (hA.below hbw2) (by omega)).mono ?_
    intro e w3 hw3
    obtain ⟨rfl, hb3⟩ := hw3
    have hbw3 := hbw2.trans (hb3.mono hs2)
    have hs3 := hbw3.size
    have ox3 := ox2.below hb3 (Nat.le_refl _)
    have hz3 : w2.heap.size ≤ w3.heap.size := hb3.size
    clear hb3 ox2
    go_wp2_with fail
    refine (kept_s Ax A n n cx c _ xs w3 ox3 (hA.below hbw3) (by omega)).mono ?_
    rintro e w' ⟨rfl, rfl⟩
    clear ox3
    have HBW := Lib.hid hbw3
    have HSW : Hid (w.heap.size ≤ w3.heap.size) := hs3
    clear hbw3 hs3
    go_wp2_with fail
    refine (WK.out _).mono ?_
    rintro e w99 ⟨rfl, hb99⟩
    have HB9 := Lib.hid (HBW.out.trans (hb99.mono HSW.out))
    clear hb99
    go_wp2
    go_ret
    exact ⟨rfl, HB9.out⟩
  · have i1 : (n : Int) > 16384 := by omega
    clear hA
    go_enter Try.func3, Try.ntmps3
    go_wp2_with fail
    refine (WK.out _).mono ?_
    rintro e w3 ⟨rfl, hb3⟩
    have HB3 := Lib.hid hb3
    clear hb3
    go_wp2
    go_ret
    exact ⟨rfl, HB3.out⟩
end Go.Proofs.Ytmbkbehccmadfaa
