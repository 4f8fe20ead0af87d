/-
  bank: Ready; no bank.
-/
import Derived.Test.YtkajlbdiofobcaaDoorBnH
import Derived.Test.YtkajlbdiofobcaaDoorFlJ
import Derived.OwnWalk
namespace Go.Proofs.YtkajlbdiofobcaaDoor
open Go.RowKit Go
set_option linter.unusedVariables false
set_option linter.unusedSimpArgs false
set_option maxRecDepth 100000
/-- Program within the flash, with power or without. -/
def progR (xs : List UInt8) (k : Nat) (S : FS) : FS × Int := if S.off then (S, 6) else progQ xs k S
theorem progR_kept (xs : List UInt8) (k : Nat) (S : FS) : (progR xs k S).1.n = S.n ∧ (progR xs k S).1.s = S.s ∧ (progR xs k S).1.wr ≤ S.wr + xs.length := by
  unfold progR
  split
  · exact ⟨rfl, rfl, Nat.le_add_right _ _⟩
  · exact progQ_kept xs k S
section
variable {base b g a c F C : Nat} {S : FS} {w : World}
theorem prog_in (h : FL w base g a c S) (k n cA : Nat) (A : Option Addr) (xs : List UInt8) (hR : RB w A n xs) (hA : xs ≠ [] → ∀ d, A = some d → d.block ≠ g ∧ d.block ≠ a) (hk : k + n ≤ S.n * S.s) (hn9 : n ≤ 1000000000) (hw : S.wr + n < 4611686018427387904) :
    Calls Tryd.prog 34 #[.pointer (some ⟨g, 0, none⟩), .int .i64 (k : Int), .slice A n cA] w
      fun e w' => e = .returned (.int .i64 (progR xs k S).2) ∧ FL w' base g a c (progR xs k S).1 ∧ Far g a w w' := by
  rcases hS : S.off with _ | _
  · have e1 : progR xs k S = progQ xs k S := by unfold progR; rw [hS]; rfl
    rw [e1]
    exact fprogram_any h hS k n cA A xs hR hA (.inr hk) hn9 hw
  · have e1 : progR xs k S = (S, 6) := by unfold progR; rw [hS]; rfl
    rw [e1]
    refine (fprogram_no h k n cA A hn9 (.inl hS)).mono ?_
    rintro e w' ⟨rfl, hb⟩
    exact ⟨by rw [hS]; rfl, h.below hb, .of_below hb⟩
/-- One byte in a block of its own. -/
theorem rb_one {W : World} {G : Nat} {z : UInt8} {mk : Nat × Nat} (h : W.heap[G]? = some (.cells #[.int .u8 (z.toNat : Int)] 5 mk)) : RB W (some ⟨G, 0, none⟩) 1 [z] := by
  refine ⟨rfl, fun _ => ⟨G, 0, rfl, block_lt h, fun j hj => ?_⟩⟩
  have : j = 0 := by simpa using hj
  subst this
  simp [World.cell?, h]
theorem ready_any (hK : BK w base b g a c S F C) (hw : S.wr < 4611686018427387000) : Calls Tryd.prog 24 #[.pointer (some ⟨b, 0, none⟩)] w
      fun e w' => e = .returned (.int .i64 (progR [254] (F * S.s + 12) S).2) ∧ BK w' base b g a c (progR [254] (F * S.s + 12) S).1 F C ∧ Far g a w w' := by
  have hin := hK.in_
  have h64 := hK.cs
  have hbig := hK.fl.big
  have ST := Lib.hid (fun W (hb : Below w.heap.size w W) => start_any (hK.below hb))
  have hg := hK.fl.alt
  have ha : a < w.heap.size := (hK.fl.own.blk_lt rfl).2
  have PR : Hid (∀ (W : World) (G : Nat), FL W base g a c S → W.heap[G]? = some (.cells #[.int .u8 254] 5) → w.heap.size ≤ G → Calls Tryd.prog 34 #[.pointer (some ⟨g, 0, none⟩), .int .i64 ((F * S.s + 12 : Nat) : Int), .slice (some ⟨G, 0, none⟩) 1 1] W
      fun e w' => e = .returned (.int .i64 (progR [254] (F * S.s + 12) S).2) ∧ FL w' base g a c (progR [254] (F * S.s + 12) S).1 ∧ Far g a W w') := fun W G hF hG hlt =>
    prog_in hF (F * S.s + 12) 1 1 _ [254] (rb_one hG) (fun _ d hd => by injection hd with hd; subst hd; exact ⟨by simp only; omega, by simp only; omega⟩) (by omega) (by omega) (by omega)
  obtain ⟨q1, q2, q3⟩ := progR_kept [254] (F * S.s + 12) S
  have FIN : Hid (∀ w', FL w' base g a c (progR [254] (F * S.s + 12) S).1 → Far g a w w' → BK w' base b g a c (progR [254] (F * S.s + 12) S).1 F C ∧ Far g a w w') := fun w' h1 h2 => ⟨hK.next h1 q1 q2 h2, h2⟩
  obtain ⟨k0, k1, k2⟩ := cells_3 hK.bk
  have HF := Lib.hid hK.fl
  have hbne := hK.bg
  have hbne2 := hK.ba
  have KEEP : Hid (∀ W, Far g a w W → W.cell? ⟨b, 0, none⟩ = some (.pointer (some ⟨g, 0, none⟩)) ∧ Far g a w W) := fun W hW => ⟨(cells_3 (hW.has hK.bk hbne hbne2)).1, hW⟩
  have F0 := Lib.hid (Far.refl g a w)
  have e1 : IntKind.i64.wrap (((F * S.s : Nat) : Int) + 12) = ((F * S.s + 12 : Nat) : Int) := by rw [IntWalk.i64_in _ (by omega)]; omega
  obtain ⟨R, hR⟩ : ∃ R, progR [254] (F * S.s + 12) S = R := ⟨_, rfl⟩
  rw [hR] at PR FIN ⊢
  obtain ⟨T, r⟩ := R
  simp only at PR FIN ⊢
  generalize F * S.s + 12 = N1 at *
  generalize F * S.s = N0 at *
  clear hR q1 q2 q3 hK k1 k2 hin h64 hbig hw
  go_enter Tryd.func24, Tryd.ntmps24
  go_wp2_with fail
  go_region_held3 (fun W => W.cell? ⟨b, 0, none⟩ = some (.pointer (some ⟨g, 0, none⟩)) ∧ Far g a w W)
    ((apply KEEP.out; repeat (with_reducible (first | assumption | exact F0.out | refine Far.drew ?_ | refine Far.alloc ?_ _))))
    (first
      | (go_at_call 39; (with_reducible refine (ST.out _ (by repeat (first | exact Below.refl _ _ | refine kp_drew ?_ | refine kp_alloc ?_ _))).mono ?_); (rintro e X1 ⟨rfl, hb1⟩; have f1 : Far g a w X1 := (by first | exact ((F0.out.alloc _).drew).trans (.of_below hb1) | exact F0.out.drew.trans (.of_below hb1))))
      | (go_at_call 34; (with_reducible refine (PR.out _ _ (by first | exact (((HF.out.alloc _).drew).below hb1) | exact ((HF.out.drew).below hb1).alloc _) (by first | exact has_below (has_drew (has_new _ _)) hb1 | exact has_new _ _) (by first | exact Nat.le_refl _ | exact f1.size)).mono ?_); (rintro e X2 ⟨rfl, hF2, hb2⟩; have f2 : Far g a w X2 := (by first | exact f1.trans hb2 | exact (f1.alloc _).trans hb2))))
  all_goals
    go_wp2
    go_ret
    exact ⟨rfl, FIN.out _ hF2 f2⟩
theorem readynil_any (w : World) : Calls Tryd.prog 24 #[.pointer none] w fun e w' => e = .returned (.int .i64 2) ∧ w' = w := by
  go_enter Tryd.func24, Tryd.ntmps24
  go_wp2
  go_ret
  exact ⟨rfl, rfl⟩
theorem formatnil_any (n : Int) (w : World) : Calls Tryd.prog 23 #[.pointer none, .int .u32 n] w fun e w' => e = .returned (.int .i64 2) ∧ w' = w := by
  go_enter Tryd.func23, Tryd.ntmps23
  go_wp2
  go_ret
  exact ⟨rfl, rfl⟩
theorem headnil_any (w : World) : Calls Tryd.prog 26 #[.pointer none] w fun e w' => e = .returned (.tuple #[.int .u32 0, .bool false, .int .i64 2]) ∧ w' = w := by
  go_enter Tryd.func26, Tryd.ntmps26
  go_wp2
  go_ret3
  exact ⟨rfl, rfl⟩
theorem addnil_any (A B : Option Addr) (n c1 m d : Nat) (w : World) : Calls Tryd.prog 17 #[.pointer none, .slice A n c1, .slice B m d] w fun e w' => e = .returned (.int .i64 2) ∧ w' = w := by
  go_enter Tryd.func17, Tryd.ntmps17
  go_wp2
  go_ret
  exact ⟨rfl, rfl⟩
end
end Go.Proofs.YtkajlbdiofobcaaDoor
