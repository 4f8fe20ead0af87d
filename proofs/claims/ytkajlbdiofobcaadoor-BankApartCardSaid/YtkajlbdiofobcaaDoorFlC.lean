/-
  flash: Program.
-/
import Derived.Test.YtkajlbdiofobcaaDoorFlB
import Derived.BigRegion
import Derived.Laws.BitsAllLaws
namespace Go.Proofs.YtkajlbdiofobcaaDoor
open Go.RowKit Go
set_option linter.unusedVariables false
set_option linter.unusedSimpArgs false
set_option maxRecDepth 100000
/-- One byte is programmed, or the power goes. -/
def FS.step (S : FS) (j : Nat) (x : UInt8) : FS := if S.left = 1 then { S with off := true, left := 0 } else { S with left := S.left - 1, wr := S.wr + 1, bs := S.bs.set j (S.bs.getD j 0 &&& x) }
theorem and8 (q x : UInt8) : ((q &&& x).toNat : Int) = bits .and .u8 (q.toNat : Int) (x.toNat : Int) := by
  rw [u8_and_nat _ _ q.toNat_lt x.toNat_lt, UInt8.toNat_and]
theorem cset {W : World} {b g j : Nat} {u v : Value} (h : W.cell? ⟨b, 0, none⟩ = some u) (hb : b ≠ g) : (W.setCell ⟨g, j, none⟩ v).cell? ⟨b, 0, none⟩ = some u :=
  (World.cell?_setCell_other _ _ _ _ (by intro e; simp only [Addr.mk.injEq] at e; omega)).trans h
section
variable {base g a c : Nat} {S : FS} {W : World}
set_option maxHeartbeats 1000000 in
theorem prog1_any (h : FL W base g a c S) (k i b3 b4 b8 b9 : Nat) (x q : UInt8) (hq : S.bs[k + i]? = some q) (hk : k + i < S.n * S.s)
    (c3 : W.cell? ⟨b3, 0, none⟩ = some (.pointer (some ⟨g, 0, none⟩))) (c4 : W.cell? ⟨b4, 0, none⟩ = some (.int .i64 (k : Int))) (c8 : W.cell? ⟨b8, 0, none⟩ = some (.int .i64 (i : Int))) (c9 : W.cell? ⟨b9, 0, none⟩ = some (.int .u8 (x.toNat : Int))) :
    Calls Tryd.prog 47 #[.pointer (some ⟨b3, 0, none⟩), .pointer (some ⟨b4, 0, none⟩), .pointer (some ⟨b8, 0, none⟩), .pointer (some ⟨b9, 0, none⟩)] W
      fun e w' => e = .returned (.tuple #[]) ∧ FL w' base g a c { S with bs := S.bs.set (k + i) (q &&& x) } ∧ Far g a W w' := by
  obtain ⟨k0, k1, k2, k3, k4, k5⟩ := cells_6 h.st
  have cq := h.own.cellAt (k + i) q hq
  have fq := h.own.free (k + i)
  have hM := h.big
  have HN : Hid (FL (W.setCell ⟨a, k + i, none⟩ (.int .u8 ((q &&& x).toNat : Int))) base g a c { S with bs := S.bs.set (k + i) (q &&& x) }) := h.over (grown_one _ _ _ _) (h.own.stored (k + i) (q &&& x))
  rw [and8] at HN
  clear h k0 k2 k3 k4 k5 hq
  generalize S.n * S.s = M at *
  have e1 : IntKind.i64.wrap ((k : Int) + (i : Int)) = (k : Int) + (i : Int) := IntWalk.i64_in _ (by omega)
  have i1 : (0 : Int) ≤ (k : Int) + (i : Int) := by omega
  have i2 : (k : Int) + (i : Int) < (M : Int) := by omega
  have i3 : ((k : Int) + (i : Int)).toNat = k + i := by omega
  go_enter Tryd.func47, Tryd.ntmps47
  go_wp2_with fail
  go_region
  all_goals
    clear e1 i1 i2 i3
    go_wp2
    go_end0
    exact ⟨rfl, HN.out.drew, (((Far.refl _ _ _).drew).seta _ _)⟩
theorem prog2_any (W : World) : Calls Tryd.prog 48 #[] W fun e w' => e = .returned (.tuple #[]) ∧ w' = W := by
  go_enter Tryd.func48, Tryd.ntmps48
  go_wp2
  go_end0
  exact ⟨rfl, rfl⟩
set_option maxHeartbeats 1000000 in
theorem fwrite_prog (h : FL W base g a c S) (k i b3 b4 b8 b9 : Nat) (x : UInt8) (hk : k + i < S.n * S.s) (hw : S.wr < 4611686018427387904) (n3 : b3 ≠ g) (n4 : b4 ≠ g) (n8 : b8 ≠ g) (n9 : b9 ≠ g)
    (c3 : W.cell? ⟨b3, 0, none⟩ = some (.pointer (some ⟨g, 0, none⟩))) (c4 : W.cell? ⟨b4, 0, none⟩ = some (.int .i64 (k : Int))) (c8 : W.cell? ⟨b8, 0, none⟩ = some (.int .i64 (i : Int))) (c9 : W.cell? ⟨b9, 0, none⟩ = some (.int .u8 (x.toNat : Int))) :
    Calls Tryd.prog 46 #[.pointer (some ⟨g, 0, none⟩), .func (.func 47) #[] #[.pointer (some ⟨b3, 0, none⟩), .pointer (some ⟨b4, 0, none⟩), .pointer (some ⟨b8, 0, none⟩), .pointer (some ⟨b9, 0, none⟩)], .func (.func 48) #[] #[]] W
      fun e w' => e = .returned (.int .i64 (if S.left = 1 then 6 else 0)) ∧ FL w' base g a c (S.step (k + i) x) ∧ Far g a W w' := by
  obtain ⟨k0, k1, k2, k3, k4, k5⟩ := cells_6 h.st
  obtain ⟨f0, f1, f2, f3, f4, f5⟩ := free_6 h.st
  have hlen := h.len
  have hlb := h.lb
  obtain ⟨q, hq⟩ : ∃ q, S.bs[k + i]? = some q := ⟨_, List.getElem?_eq_getElem (by omega)⟩
  have hqd : S.bs.getD (k + i) 0 = q := by rw [List.getD_eq_getElem?_getD, hq]; rfl
  rcases hL : S.left with _ | l
  · have P1 := Lib.hid (prog1_any h k i b3 b4 b8 b9 x q hq hk c3 c4 c8 c9)
    have hst : S.step (k + i) x = { S with left := 0, wr := S.wr + 1, bs := S.bs.set (k + i) (q &&& x) } := by
      unfold FS.step
      rw [if_neg (by omega), hqd, hL]
    have k3' : W.cell? ⟨g, 3, none⟩ = some (.int .i64 0) := by rw [k3, hL]; rfl
    obtain ⟨wr1, hwr⟩ : ∃ wr1, S.wr + 1 = wr1 := ⟨_, rfl⟩
    have e1 : IntKind.i64.wrap ((S.wr : Int) + 1) = (wr1 : Int) := by rw [IntWalk.i64_in _ (by omega)]; omega
    rw [hst, hwr]
    have HE : Hid (({ S with bs := S.bs.set (k + i) (q &&& x), wr := wr1 } : FS) = { S with left := 0, wr := wr1, bs := S.bs.set (k + i) (q &&& x) }) := by rw [← hL]; exact rfl
    clear h k0 k1 k2 k4 k5 k3 f0 f1 f2 f3 f4 f5 hlen hq hqd hst hL c3 c4 c8 c9 hwr
    go_enter Tryd.func46, Tryd.ntmps46
    go_wp2_with fail
    refine P1.out.mono ?_
    rintro e w1 ⟨rfl, h1, hf1⟩
    obtain ⟨_, _, _, _, _, k5⟩ := cells_6 h1.st
    obtain ⟨_, _, _, _, _, f5⟩ := free_6 h1.st
    have H2 := Lib.hid (h1.setWr wr1)
    have HF := Lib.hid (hf1.setg 5 (.int .i64 (wr1 : Int)))
    clear h1 hf1 P1
    go_wp2
    go_ret
    exact ⟨rfl, by rw [← HE.out]; exact H2.out, HF.out⟩
  · rcases l with _ | l
    · have k3' : W.cell? ⟨g, 3, none⟩ = some (.int .i64 1) := by rw [k3, hL]; rfl
      have hst : S.step (k + i) x = { S with off := true, left := 0 } := by
        unfold FS.step
        rw [if_pos hL]
      have H2 := Lib.hid ((h.setOff true).setLeft 0 (by decide))
      obtain ⟨_, _, _, f6, _, _⟩ := free_6 (h.setOff true).st
      obtain ⟨_, _, _, k6, _, _⟩ := cells_6 (h.setOff true).st
      rw [hst]
      clear h k0 k1 k4 k5 k3 f0 f1 f4 f5 hlen hq hqd hst hL c3 c4 c8 c9
      go_enter Tryd.func46, Tryd.ntmps46
      go_wp2_with fail
      refine (prog2_any _).mono ?_
      rintro e w1 ⟨rfl, rfl⟩
      go_wp2
      go_ret
      exact ⟨rfl, H2.out, ((Far.refl _ _ _).setg _ _).setg _ _⟩
    · have e2 : IntKind.i64.wrap ((S.left : Int) - 1) = ((l + 1 : Nat) : Int) := by rw [IntWalk.i64_in _ (by omega)]; omega
      obtain ⟨l1, hl1⟩ : ∃ l1, l + 1 = l1 := ⟨_, rfl⟩
      have h1 := h.setLeft l1 (by omega)
      have P1 := Lib.hid (prog1_any h1 k i b3 b4 b8 b9 x q hq hk (cset c3 n3) (cset c4 n4) (cset c8 n8) (cset c9 n9))
      have hst : S.step (k + i) x = { S with left := l1, wr := S.wr + 1, bs := S.bs.set (k + i) (q &&& x) } := by
        unfold FS.step
        rw [if_neg (by omega), hqd, hL, ← hl1]
        rfl
      rw [hl1] at e2
      have i1 : (0 : Int) < (S.left : Int) := by omega
      have i2 : ((S.left : Int) == 1) = false := by rw [beq_eq_false_iff_ne]; omega
      have i3 : ¬ ((S.left : Int) = 1) := by omega
      have i4 : ¬ (S.left = 1) := by omega
      obtain ⟨wr1, hwr⟩ : ∃ wr1, S.wr + 1 = wr1 := ⟨_, rfl⟩
      have e1 : IntKind.i64.wrap ((S.wr : Int) + 1) = (wr1 : Int) := by rw [IntWalk.i64_in _ (by omega)]; omega
      rw [hst, hwr]
      clear h h1 k0 k1 k2 k4 k5 f0 f1 f2 f4 f5 hlen hq hqd hst c3 c4 c8 c9 hwr hl1
      have HL := Lib.hid hL
      clear hL
      go_enter Tryd.func46, Tryd.ntmps46
      go_wp2_with fail
      refine P1.out.mono ?_
      rintro e w1 ⟨rfl, h1, hf1⟩
      obtain ⟨_, _, _, _, _, k5⟩ := cells_6 h1.st
      obtain ⟨_, _, _, _, _, f5⟩ := free_6 h1.st
      have H2 := Lib.hid (h1.setWr wr1)
      have HF := Lib.hid ((((Far.refl g a W).setg 3 (.int .i64 (l1 : Int))).trans hf1).setg 5 (.int .i64 (wr1 : Int)))
      clear h1 hf1 P1
      go_wp2
      go_ret
      exact ⟨by rw [HL.out]; rfl, H2.out, HF.out⟩
end
end Go.Proofs.YtkajlbdiofobcaaDoor
