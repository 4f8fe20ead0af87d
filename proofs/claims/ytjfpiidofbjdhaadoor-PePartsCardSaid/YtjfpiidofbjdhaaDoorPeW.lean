/-
  pe: a number laid at a place of bytes; where the section table begins; the same bytes.
-/
import Derived.Test.YtjfpiidofbjdhaaDoorPeK
namespace Go.Proofs.YtjfpiidofbjdhaaDoor
open Go.RowKit Go
set_option linter.unusedVariables false
set_option maxRecDepth 100000
theorem lowS_le (x k : Nat) (hz : isSz (k : Int) = true) : lowS x (k : Int) = leB x k := by unfold lowS; rw [if_pos hz]; simp
set_option maxHeartbeats 4000000 in
theorem laid_any (A : Option Addr) (n c : Nat) (bs : List UInt8) (ai xi ki : Int) (a x k : Nat) (w : World) (hR : RB w A n bs) (hai : ai = (a : Int)) (hxi : xi = (x : Int)) (hki : ki = (k : Int)) (hin : a + k ≤ n) (hk : k = 1 ∨ k = 4) (hx : x < 18446744073709551616) (hn : n ≤ 1000000000) :
    Calls Tryd.prog 24 #[.slice A n c, .int .i64 ai, .int .u64 xi, .int .i64 ki] w (Fresh w (putL bs a x k)) := by
  subst hai
  subst hxi
  subst hki
  have hz : isSz (k : Int) = true := by rcases hk with rfl | rfl <;> rfl
  have C0 := Lib.hid (copy_any A n c bs w hR (by omega))
  have CP := Lib.hid (fun W => refPut_any none 0 0 [] x k W (RB.nil W none) (by omega) hx)
  have hbl := hR.1
  rw [List.nil_append, lowS_le x k hz] at CP
  have hll := leB_len x k
  have hpl : putL bs a x k = splice bs a (leB x k) := rfl
  rw [hpl]
  obtain ⟨l, hle⟩ : ∃ l, leB x k = l := ⟨_, rfl⟩
  rw [hle] at CP hll ⊢
  have hk4 : 1 ≤ k ∧ k ≤ 4 := by omega
  have HBL := Lib.hid hbl
  clear hR hz hpl hle hbl
  go_enter Tryd.func24, Tryd.ntmps24
  go_wp2_with (fail)
  (with_reducible refine C0.out.mono ?_)
  clear C0
  rintro e w1 ⟨A1, n1, c1, rfl, ho1, hb1⟩
  have hn1 := ho1.len
  have hc1 := ho1.cap.1
  obtain ⟨g1, hA1, hg1, hg1l⟩ := ho1.shape (by have := HBL.out; omega)
  subst hA1
  obtain rfl : n1 = n := by have := HBL.out; omega
  have H1 := Lib.hid (And.intro ho1 hb1)
  have C1 := Lib.hid (CP.out w1)
  clear ho1 hb1 hn1 CP
  go_wp2_with (fail)
  (with_reducible refine C1.out.mono ?_)
  clear C1
  rintro e w2 ⟨A2, n2, c2, rfl, ho2, hb2⟩
  have hn2 := ho2.len
  have hc2 := ho2.cap.1
  obtain ⟨g2, hA2, hg2, hg2l⟩ := ho2.shape (by omega)
  subst hA2
  obtain rfl : n2 = k := by omega
  have H2 := Lib.hid (And.intro (H1.out.1.below hb2 (Nat.le_refl _)) (And.intro ho2 (kp_call H1.out.2 hb2)))
  have HLL := Lib.hid hll
  clear ho2 hb2 hn2 hll H1
  have g12 : g1 ≠ g2 := by omega
  have g0 : w.heap.size ≤ g1 := hg1
  go_wp2_with (fail)
  go_loopw [11] (fun vi wl => ∃ i : Nat, vi = .int .i64 (i : Int) ∧ i ≤ n2 ∧ Hid (OwnB wl w.heap.size (some ⟨g1, 0, none⟩) n1 c1 (splice bs a (l.take i)) ∧ OwnB wl w1.heap.size (some ⟨g2, 0, none⟩) n2 c2 l ∧ Below w.heap.size w wl)) (fun vi _ => n2 - (intOf vi).toNat)
  case atStart => exact ⟨0, rfl, Nat.zero_le _, by simpa [splice_nil] using H2.out.1, H2.out.2⟩
  case round =>
    obtain ⟨i, rfl, hi, HK⟩ := hrel
    have a0 : decide ((0 : Int) ≤ (a : Int)) = true := by simp
    have a1 : ((a : Int) ≥ 0) = True := by simp
    by_cases hlt : i < n2
    · have i1 : decide ((i : Int) < (n2 : Int)) = true := by simp; omega
      have i2 : decide ((a : Int) + (i : Int) < (n1 : Int)) = true := by simp; omega
      have e3 : IntKind.i64.wrap ((i : Int) + 1) = (i : Int) + 1 := IntWalk.i64_in _ (by omega)
      have e33 : IntKind.i64.wrap ((a : Int) + (i : Int)) = (a : Int) + (i : Int) := IntWalk.i64_in _ (by omega)
      have e4 : (a : Int) + (i : Int) < (n1 : Int) := by omega
      have e5 : (0 : Int) ≤ (a : Int) + (i : Int) := by omega
      obtain ⟨q, hq⟩ : ∃ q, l[i]? = some q := ⟨_, List.getElem?_eq_getElem (by have := HLL.out; omega)⟩
      have d1 := HK.out.2.1.cellAt i q hq
      obtain ⟨p, hp⟩ : ∃ p, (splice bs a (l.take i))[a + i]? = some p := by
        have h1 := HK.out.1.len
        exact ⟨_, List.getElem?_eq_getElem (by omega)⟩
      have d2 := HK.out.1.cellAt (a + i) p hp
      have d3 := HK.out.1.free (a + i)
      have HN : Hid (OwnB (wr.setCell ⟨g1, a + i, none⟩ (.int .u8 (q.toNat : Int))) w.heap.size (some ⟨g1, 0, none⟩) n1 c1 (splice bs a (l.take (i + 1))) ∧ OwnB (wr.setCell ⟨g1, a + i, none⟩ (.int .u8 (q.toNat : Int))) w1.heap.size (some ⟨g2, 0, none⟩) n2 c2 l ∧ Below w.heap.size w (wr.setCell ⟨g1, a + i, none⟩ (.int .u8 (q.toNat : Int)))) := by
        have h1 := HK.out.1.stored (a + i) q
        rw [splice_step bs a i l q (by have := HLL.out; have := HBL.out; omega) hq] at h1
        exact ⟨h1, HK.out.2.1.kept (grown_one _ _ _ _) (.inr (fun e => by have e9 : g2 = g1 := Option.some.inj e; omega)), kp_set HK.out.2.2 g0⟩
      clear hq hp HK H2
      go_wp2_with (fail)
      go_roundw
      case rel => exact ⟨i + 1, by go_num, by omega, HN.out⟩
      case measure => simp [intOf]; omega
    · have i1 : decide ((i : Int) < (n2 : Int)) = false := by simp; omega
      obtain rfl : i = n2 := by omega
      clear H2
      go_wp2_with (fail)
      go_ret
      have h1 := HK.out.1
      rw [show l.take i = l by rw [← HLL.out, List.take_length]] at h1
      exact ⟨some ⟨g1, 0, none⟩, n1, c1, rfl, h1, HK.out.2.2⟩
end Go.Proofs.YtjfpiidofbjdhaaDoor
