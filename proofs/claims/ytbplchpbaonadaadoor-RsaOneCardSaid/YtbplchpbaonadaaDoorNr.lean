/-
  nat: Octets.
-/
import Derived.Test.YtbplchpbaonadaaDoorNq
namespace Go.Proofs.YtbplchpbaonadaaDoor
open Go.RowKit Go
set_option linter.unusedVariables false
set_option linter.unusedSimpArgs false
set_option maxRecDepth 100000
def octQ (x : List Nat) (z : Int) : List UInt8 × Nat :=
  if rightB x && decide (0 ≤ z) && decide (z ≤ 1024) then (if bitsN (val x) ≤ 8 * z.toNat then (beN (val x) z.toNat, 0) else ([], 10)) else ([], 1)
/-- Bytes of the call's own and an error. -/
def OctR (w : World) (r : List UInt8 × Nat) (e : Ending) (w' : World) : Prop :=
  ∃ A n c, e = .returned (.tuple #[.slice A n c, .int .i64 (r.2 : Int)]) ∧ OwnB w' w.heap.size A n c r.1 ∧ n ≤ c ∧ c ≤ 1000000 ∧ Below w.heap.size w w'
theorem OctR.err {w w' : World} {k : Nat} {e : Ending} (he : e = .returned (.tuple #[.slice none 0 0, .int .i64 (k : Int)])) (hb : Below w.heap.size w w') : OctR w ([], k) e w' :=
  ⟨_, _, _, he, OwnB.nil _ _, Nat.le_refl _, by omega, hb⟩
set_option maxHeartbeats 8000000 in
theorem oct_bad (A : Option Addr) (n c : Nat) (z : Int) (x : List Nat) (w : World) (h : RU w A n x) (hn : n ≤ 300) (hz1 : -9223372036854775808 ≤ z) (hz2 : z ≤ 9223372036854775807) (hbad : (rightB x && decide (0 ≤ z) && decide (z ≤ 1024)) = false) :
    Calls Tryd.prog 27 #[.slice A n c, .int .i64 z] w (OctR w ([], 1)) := by
  have RA := Lib.hid (right_any A n c x w h (by omega))
  cases hr : rightB x with
  | false =>
    rw [hr] at RA
    clear hr h hbad
    go_enter Tryd.func27, Tryd.ntmps27
    go_wp2_with fail
    refine RA.out.mono ?_
    rintro e w' ⟨rfl, rfl⟩
    clear RA
    go_wp2
    go_ret2
    exact OctR.err rfl (Below.refl _ _)
  | true =>
    rw [hr] at RA
    by_cases h0 : z < 0
    · clear hr h hbad
      go_enter Tryd.func27, Tryd.ntmps27
      go_wp2_with fail
      refine RA.out.mono ?_
      rintro e w' ⟨rfl, rfl⟩
      clear RA
      go_wp2
      go_ret2
      exact OctR.err rfl (Below.refl _ _)
    · have h1 : z > 1024 := by
        rw [hr, decide_eq_true (show 0 ≤ z by omega), Bool.true_and, Bool.true_and, decide_eq_false_iff_not] at hbad
        omega
      clear hr h hbad
      go_enter Tryd.func27, Tryd.ntmps27
      go_wp2_with fail
      refine RA.out.mono ?_
      rintro e w' ⟨rfl, rfl⟩
      clear RA
      go_wp2
      go_ret2
      exact OctR.err rfl (Below.refl _ _)
theorem oct_set (V n i : Nat) (hi : i < n) : (List.replicate (n - i) 0 ++ (beN V n).drop (n - i)).set (n - 1 - i) (UInt8.ofNat (V / 256 ^ i % 256)) = List.replicate (n - (i + 1)) 0 ++ (beN V n).drop (n - (i + 1)) := by
  have h := fill_step (T := beN V n) (m := n - 1 - i) (b := UInt8.ofNat (V / 256 ^ i % 256)) (by rw [beN_len]; omega) (by rw [beN_get V n _ (by omega), show n - 1 - (n - 1 - i) = i by omega])
  rw [show n - i = n - 1 - i + 1 by omega, show n - (i + 1) = n - 1 - i by omega]
  exact h
set_option maxHeartbeats 8000000 in
theorem oct_good (A : Option Addr) (n c N : Nat) (x : List Nat) (w : World) (h : RU w A n x) (hn : n ≤ 300) (hr : rightB x = true) (hN : N ≤ 1024) :
    Calls Tryd.prog 27 #[.slice A n c, .int .i64 (N : Int)] w (OctR w (if bitsN (val x) ≤ 8 * N then (beN (val x) N, 0) else ([], 10))) := by
  have RA := right_any A n c x w h (by omega)
  have BI := bits_any A n c x w h (by omega)
  rw [hr] at RA BI
  rw [if_pos rfl] at BI
  have RA := Lib.hid RA
  have i1 : ¬ (N : Int) < 0 := by omega
  have i2 : ¬ (N : Int) > 1024 := by omega
  have e1 : IntKind.i64.wrap (8 * (N : Int)) = ((8 * N : Nat) : Int) := by rw [show 8 * (N : Int) = ((8 * N : Nat) : Int) by omega]; exact IntWalk.i64_in _ (by omega)
  obtain ⟨N8, hN8⟩ : ∃ N8, 8 * N = N8 := ⟨_, rfl⟩
  rw [hN8] at e1
  rw [hN8]
  obtain ⟨bt, hbt⟩ : ∃ bt, bitsN (val x) = bt := ⟨_, rfl⟩
  rw [hbt] at BI
  rw [hbt]
  have BI := Lib.hid BI
  have HA := Lib.hid h
  have HB := Lib.hid (And.intro hN8 hbt)
  clear h hr hN8 hbt
  by_cases hb : bt ≤ N8
  · rw [if_pos hb]
    have i3 : ¬ (bt : Int) > (N8 : Int) := by omega
    go_enter Tryd.func27, Tryd.ntmps27
    go_wp2_with fail
    refine RA.out.mono ?_
    rintro e w' ⟨rfl, rfl⟩
    clear RA
    go_wp2_with fail
    refine BI.out.mono ?_
    rintro e w' ⟨rfl, rfl⟩
    clear BI
    go_wp2_with (refine wpList_mk _ _ rfl rfl _ _ _ _ N rfl rfl rfl rfl (by omega) ?_)
    intro w1 hown hg1
    obtain ⟨G, hG⟩ : ∃ G, w.heap.size = G := ⟨_, rfl⟩
    have hwG : w.heap.size ≤ G := by omega
    rw [hG] at hown ⊢
    have H1 : Hid (OwnB w1 G (some ⟨G, 0, none⟩) N N (List.replicate N 0) ∧ Below w.heap.size w w1) := ⟨hown, grown_kp (Below.refl _ _) hg1⟩
    have HG := Lib.hid hG
    clear hown hg1 hG
    go_wp2
    go_loopw [28] (fun vi wl => ∃ (i : Nat), vi = .int .i64 (i : Int) ∧ i ≤ N ∧ Hid (OwnB wl G (some ⟨G, 0, none⟩) N N (List.replicate (N - i) 0 ++ (beN (val x) N).drop (N - i)) ∧ Below w.heap.size w wl)) (fun vi _ => N - (intOf vi).toNat)
    case atStart => exact ⟨0, rfl, Nat.zero_le _, by rw [Nat.sub_zero, List.drop_of_length_le (by rw [beN_len]; omega), List.append_nil]; exact H1.out.1, H1.out.2⟩
    case round =>
      obtain ⟨i, rfl, hi, HK⟩ := hrel
      clear H1
      by_cases hlt : i < N
      · as_aux_lemma =>
        have j1 : (i : Int) < (N : Int) := by omega
        have j2 : (0 : Int) ≤ (i : Int) := by omega
        obtain ⟨f1, f2⟩ := HK.out
        obtain ⟨k, hk⟩ : ∃ k, i / 4 = k := ⟨_, rfl⟩
        obtain ⟨t, ht⟩ : ∃ t, 8 * (i % 4) = t := ⟨_, rfl⟩
        obtain ⟨rr, hrr⟩ : ∃ rr, i % 4 = rr := ⟨_, rfl⟩
        have hby := byte_of x HA.out.lim i
        rw [hk, ht] at hby
        have LB := limb_any A n c k x wr (HA.out.below f2) (by omega) (by omega)
        have hv32 := HA.out.lim.getD k
        obtain ⟨v, hv⟩ : ∃ v, x.getD k 0 = v := ⟨_, rfl⟩
        rw [hv] at LB hby hv32
        have LB := Lib.hid LB
        obtain ⟨y, hy⟩ : ∃ y, v / 2 ^ t = y := ⟨_, rfl⟩
        rw [hy] at hby
        have hyv : y ≤ v := by rw [← hy]; exact Nat.div_le_self _ _
        obtain ⟨p, hp⟩ : ∃ p, N - 1 - i = p := ⟨_, rfl⟩
        obtain ⟨N1, hN1⟩ : ∃ N1, N - 1 = N1 := ⟨_, rfl⟩
        have e3 : IntKind.i64.wrap ((i : Int) + 1) = (i : Int) + 1 := IntWalk.i64_in _ (by omega)
        have e5 : (i : Int) / 4 = (k : Int) := by omega
        have e7 : (i : Int) % 4 = (rr : Int) := by omega
        have e9 : IntKind.i64.wrap (8 * (rr : Int)) = (t : Int) := by rw [show 8 * (rr : Int) = (t : Int) by omega]; exact IntWalk.i64_in _ (by omega)
        have e10 : IntKind.i64.wrap ((N : Int) - 1) = (N1 : Int) := by rw [show (N : Int) - 1 = N1 by omega]; exact IntWalk.i64_in _ (by omega)
        have e11 : IntKind.i64.wrap ((N1 : Int) - (i : Int)) = (p : Int) := by rw [show (N1 : Int) - (i : Int) = p by omega]; exact IntWalk.i64_in _ (by omega)
        have e13 : min t 32 = t := by omega
        have e14 : (v : Int) / 2 ^ t = (y : Int) := by
          rw [show (v : Int) / 2 ^ t = ((v / 2 ^ t : Nat) : Int) by push_cast; rfl, hy]
        have hb8 : (y : Int) % 256 = ((UInt8.ofNat (val x / 256 ^ i % 256)).toNat : Int) := by
          rw [← hby]
          simp
        obtain ⟨q, hq⟩ : ∃ q, UInt8.ofNat (val x / 256 ^ i % 256) = q := ⟨_, rfl⟩
        have hst := oct_set (val x) N i hlt
        rw [hq] at hb8
        rw [hq, hp] at hst
        have j3 : (0 : Int) ≤ (p : Int) := by omega
        have j4 : (p : Int) < (N : Int) := by omega
        have j5 : (0 : Int) ≤ (t : Int) := by omega
        obtain ⟨q0, hq0⟩ : ∃ q0, (List.replicate (N - i) 0 ++ (beN (val x) N).drop (N - i))[p]? = some q0 := ⟨_, List.getElem?_eq_getElem (by rw [f1.len]; omega)⟩
        have c1 := f1.cellAt p q0 hq0
        have c2 := f1.free p
        have HN : Hid (OwnB (wr.setCell ⟨G, p, none⟩ (.int .u8 (q.toNat : Int))) G (some ⟨G, 0, none⟩) N N (List.replicate (N - (i + 1)) 0 ++ (beN (val x) N).drop (N - (i + 1))) ∧ Below w.heap.size w (wr.setCell ⟨G, p, none⟩ (.int .u8 (q.toNat : Int)))) :=
          ⟨by rw [← hst]; exact f1.stored p q, kp_set f2 hwG⟩
        clear f1 f2 hst hq hq0 hby hk ht hrr hv hy hp hN1 HK
        go_wp2_with fail
        refine LB.out.mono ?_
        rintro e w' ⟨rfl, rfl⟩
        clear LB
        go_wp2
        go_roundw
        case rel => exact ⟨i + 1, by go_num, by omega, HN⟩
        case measure => simp [intOf]; omega
      · as_aux_lemma =>
        have j1 : ¬ (i : Int) < (N : Int) := by omega
        have HF : Hid (OwnB wr w.heap.size (some ⟨G, 0, none⟩) N N (beN (val x) N) ∧ Below w.heap.size w wr) := by
          obtain ⟨f1, f2⟩ := HK.out
          rw [show N - i = 0 by omega, List.drop_zero] at f1
          exact ⟨f1.lower hwG, f2⟩
        clear HK
        go_wp2
        go_ret2
        exact ⟨_, N, N, rfl, HF.out.1, Nat.le_refl _, by omega, HF.out.2⟩
  · rw [if_neg hb]
    have i3 : (bt : Int) > (N8 : Int) := by omega
    go_enter Tryd.func27, Tryd.ntmps27
    go_wp2_with fail
    refine RA.out.mono ?_
    rintro e w' ⟨rfl, rfl⟩
    clear RA
    go_wp2_with fail
    refine BI.out.mono ?_
    rintro e w' ⟨rfl, rfl⟩
    clear BI
    go_wp2
    go_ret2
    exact OctR.err rfl (Below.refl _ _)
end Go.Proofs.YtbplchpbaonadaaDoor
