/-
  flash: Erase.
-/
import Derived.Test.YtkajlbdiofobcaaDoorFlG
namespace Go.Proofs.YtkajlbdiofobcaaDoor
open Go.RowKit Go
set_option linter.unusedVariables false
set_option linter.unusedSimpArgs false
set_option maxRecDepth 100000
/-- A sector is erased, or the power goes at it. -/
def FS.er (S : FS) (o : Nat) : FS := if S.left = 1 then { S with off := true, left := 0, bs := splice S.bs o (List.replicate (min S.part S.s) 255) } else { S with left := S.left - 1, wr := S.wr + 1, bs := splice S.bs o (List.replicate S.s 255) }
section
variable {base g a c : Nat} {S : FS} {w W : World}
set_option maxHeartbeats 1000000 in
theorem fwrite_erase (h : FL W base g a c S) (o b6 c6 b2 : Nat) (ho : o + S.s ≤ S.n * S.s) (hc6 : S.s ≤ c6) (hw : S.wr < 4611686018427387904) (n6 : b6 ≠ g) (m6 : b6 ≠ a) (n2 : b2 ≠ g) (m2 : b2 ≠ a)
    (c6' : W.cell? ⟨b6, 0, none⟩ = some (.slice (some ⟨a, o, none⟩) S.s c6)) (c2 : W.cell? ⟨b2, 0, none⟩ = some (.pointer (some ⟨g, 0, none⟩))) :
    Calls Tryd.prog 46 #[.pointer (some ⟨g, 0, none⟩), .func (.func 54) #[] #[.pointer (some ⟨b6, 0, none⟩)], .func (.func 55) #[] #[.pointer (some ⟨b6, 0, none⟩), .pointer (some ⟨b2, 0, none⟩)]] W
      fun e w' => e = .returned (.int .i64 (if S.left = 1 then 6 else 0)) ∧ FL w' base g a c (S.er o) ∧ Far g a W w' := by
  obtain ⟨k0, k1, k2, k3, k4, k5⟩ := cells_6 h.st
  obtain ⟨f0, f1, f2, f3, f4, f5⟩ := free_6 h.st
  have hlen := h.len
  have hlb := h.lb
  rcases hL : S.left with _ | l
  · have P1 := Lib.hid (erase1_any h o S.s b6 c6 ho c6')
    have hst : S.er o = { S with left := 0, wr := S.wr + 1, bs := splice S.bs o (List.replicate S.s 255) } := by
      unfold FS.er
      rw [if_neg (by omega), hL]
    have k3' : W.cell? ⟨g, 3, none⟩ = some (.int .i64 0) := by rw [k3, hL]; rfl
    obtain ⟨wr1, hwr⟩ : ∃ wr1, S.wr + 1 = wr1 := ⟨_, rfl⟩
    have e1 : IntKind.i64.wrap ((S.wr : Int) + 1) = (wr1 : Int) := by rw [IntWalk.i64_in _ (by omega)]; omega
    rw [hst, hwr]
    have HE : Hid (({ S with bs := splice S.bs o (List.replicate S.s 255), wr := wr1 } : FS) = { S with left := 0, wr := wr1, bs := splice S.bs o (List.replicate S.s 255) }) := by rw [← hL]; exact rfl
    clear h k0 k1 k2 k4 k5 k3 f0 f1 f2 f3 f4 f5 hlen hst hL c2 c6' hwr
    go_enter Tryd.func46, Tryd.ntmps46
    go_wp2_with fail
    refine P1.out.mono ?_
    rintro e w1 ⟨rfl, h1, hf1⟩
    obtain ⟨_, _, _, _, _, k5⟩ := cells_6 h1.st
    obtain ⟨_, _, _, _, _, f5⟩ := free_6 h1.st
    have H2 := Lib.hid (h1.setWr wr1)
    have HF := Lib.hid (hf1.setg 5 (.int .i64 (wr1 : Int)))
    clear h1 hf1 P1
    go_wp2
    go_ret
    exact ⟨rfl, by rw [← HE.out]; exact H2.out, HF.out⟩
  · rcases l with _ | l
    · have k3' : W.cell? ⟨g, 3, none⟩ = some (.int .i64 1) := by rw [k3, hL]; rfl
      have hst : S.er o = { S with off := true, left := 0, bs := splice S.bs o (List.replicate (min S.part S.s) 255) } := by
        unfold FS.er
        rw [if_pos hL]
      have P2 := Lib.hid (erase2_any ((h.setOff true).setLeft 0 (by decide)) o S.s b6 c6 b2 (min S.part S.s) ho hc6 m6 m2 rfl (cset (cset c6' n6) n6) (cset (cset c2 n2) n2))
      obtain ⟨_, _, _, f6, _, _⟩ := free_6 (h.setOff true).st
      obtain ⟨_, _, _, k6, _, _⟩ := cells_6 (h.setOff true).st
      rw [hst]
      clear h k0 k1 k4 k5 k3 f0 f1 f4 f5 hlen hst hL c6' c2
      go_enter Tryd.func46, Tryd.ntmps46
      go_wp2_with fail
      refine P2.out.mono ?_
      rintro e w1 ⟨rfl, h1, hf1⟩
      have Z := Lib.hid (And.intro h1 ((((Far.refl g a W).setg 2 (.bool true)).setg 3 (.int .i64 ((0 : Nat) : Int))).trans hf1))
      clear h1 hf1 P2
      go_wp2
      go_ret
      exact ⟨rfl, Z.out⟩
    · have e2 : IntKind.i64.wrap ((S.left : Int) - 1) = ((l + 1 : Nat) : Int) := by rw [IntWalk.i64_in _ (by omega)]; omega
      obtain ⟨l1, hl1⟩ : ∃ l1, l + 1 = l1 := ⟨_, rfl⟩
      have h1 := h.setLeft l1 (by omega)
      have P1 := Lib.hid (erase1_any h1 o S.s b6 c6 ho (cset c6' n6))
      have hst : S.er o = { S with left := l1, wr := S.wr + 1, bs := splice S.bs o (List.replicate S.s 255) } := by
        unfold FS.er
        rw [if_neg (by omega), hL, ← hl1]
        rfl
      rw [hl1] at e2
      have i1 : (0 : Int) < (S.left : Int) := by omega
      have i2 : ((S.left : Int) == 1) = false := by rw [beq_eq_false_iff_ne]; omega
      have i3 : ¬ ((S.left : Int) = 1) := by omega
      have i4 : ¬ (S.left = 1) := by omega
      obtain ⟨wr1, hwr⟩ : ∃ wr1, S.wr + 1 = wr1 := ⟨_, rfl⟩
      have e1 : IntKind.i64.wrap ((S.wr : Int) + 1) = (wr1 : Int) := by rw [IntWalk.i64_in _ (by omega)]; omega
      rw [hst, hwr]
      clear h h1 k0 k1 k2 k4 k5 f0 f1 f2 f4 f5 hlen hst c6' c2 hwr hl1
      have HL := Lib.hid hL
      clear hL
      go_enter Tryd.func46, Tryd.ntmps46
      go_wp2_with fail
      refine P1.out.mono ?_
      rintro e w1 ⟨rfl, h1, hf1⟩
      obtain ⟨_, _, _, _, _, k5⟩ := cells_6 h1.st
      obtain ⟨_, _, _, _, _, f5⟩ := free_6 h1.st
      have H2 := Lib.hid (h1.setWr wr1)
      have HF := Lib.hid ((((Far.refl g a W).setg 3 (.int .i64 (l1 : Int))).trans hf1).setg 5 (.int .i64 (wr1 : Int)))
      clear h1 hf1 P1
      go_wp2
      go_ret
      exact ⟨by rw [HL.out]; rfl, H2.out, HF.out⟩
end
end Go.Proofs.YtkajlbdiofobcaaDoor
