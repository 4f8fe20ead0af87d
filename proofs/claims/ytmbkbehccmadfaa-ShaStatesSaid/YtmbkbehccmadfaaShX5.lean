/-
  sha: the document's primes, and roots of them.
-/
import Derived.Test.YtmbkbehccmadfaaLimb
namespace Go.Proofs.Ytmbkbehccmadfaa
open Go.RowKit Go
set_option linter.unusedVariables false
set_option linter.unusedSimpArgs false
set_option maxRecDepth 100000
theorem ps_pre : ∀ x, x ≤ 312 → psB x = PR64.take (psB x).length := by
  have h : ((List.range 313).all fun x => decide (psB x = PR64.take (psB x).length)) = true := by kernel_rfl
  intro x hx
  exact of_decide_eq_true ((List.all_eq_true.1 h) x (List.mem_range.2 (by omega)))
set_option maxHeartbeats 4000000 in
theorem dprimes_any (n : Nat) (hn : n ≤ 64) (w : World) : Calls Try.prog 30 #[.int .i64 (n : Int)] w fun e w' => ∃ A c, e = .returned (.slice A n c) ∧ OwnU w' w.heap.size A n c (PR64.take n) ∧ Below w.heap.size w w' := by
  obtain ⟨G, hG⟩ : ∃ G, w.heap.size = G := ⟨_, rfl⟩
  go_enter Try.func30, Try.ntmps30
  go_wp2_with fail
  go_loopw [3, 4] (fun vl vp wl => ∃ (A : Option Addr) (m c x : Nat), vl = .slice A m c ∧ vp = .int .u32 (x : Int) ∧ 2 ≤ x ∧ x ≤ 312 ∧ m ≤ n ∧ Hid (m = (psB x).length ∧ OwnU wl G A m c (psB x) ∧ Below G w wl)) (fun _ vp _ => 312 - (intOf vp).toNat)
  case atStart => exact ⟨none, 0, 0, 2, rfl, rfl, by omega, by omega, by omega, by rw [ps_two]; rfl, by rw [ps_two]; exact OwnR.nil _ _ _ _, by rw [← hG]; exact Below.refl _ _⟩
  case round =>
    obtain ⟨A, m, c, x, rfl, rfl, hx2, hx3, hmn, HK⟩ := hrel
    by_cases hlt : m < n
    · have hx312 : x < 312 := by
        rcases Nat.lt_or_ge x 312 with h | h
        · exact h
        · exfalso
          obtain rfl : x = 312 := by omega
          have := HK.out.1
          rw [ps_all, pr_len] at this
          omega
      have HST := Lib.hid (ps_step x hx312 hx2)
      have i1 : (m : Int) < (n : Int) := by omega
      have e1 : IntKind.u32.wrap ((x : Int) + 1) = (x : Int) + 1 := by rw [IntKind.wrap_u32]; omega
      go_wp2_with fail
      go_loop [5, 6] (fun vb vi => ∃ (i : Nat) (b : Bool), vb = .bool b ∧ vi = .int .i64 (i : Int) ∧ i ≤ m ∧ Hid (b = ((psB x).take i).all (fun p => x % p != 0))) (fun _ vi => m - (intOf vi).toNat)
      case atStart => exact ⟨0, true, rfl, rfl, Nat.zero_le _, rfl⟩
      case round =>
        obtain ⟨i, b, rfl, rfl, hi, HB⟩ := hrel
        have e2 : IntKind.i64.wrap ((i : Int) + 1) = (i : Int) + 1 := IntWalk.i64_in _ (by omega)
        by_cases him : i < m
        · obtain ⟨p, hp⟩ : ∃ p, (psB x)[i]? = some p := ⟨_, List.getElem?_eq_getElem (by rw [← HK.out.1]; exact him)⟩
          obtain ⟨ba, oa, rfl, hba, hc⟩ := read_at (OwnR.reads HK.out.2.1) i p hp
          have hpb := pr_bd p ((List.mem_filter.1 (List.mem_of_getElem? hp)).1)
          obtain ⟨r, hr⟩ : ∃ r, x % p = r := ⟨_, rfl⟩
          have e3 : (x : Int) % (p : Int) = (r : Int) := by rw [← hr]; rfl
          have e4 : (x : Int).tmod (p : Int) = (r : Int) := by rw [Int.tmod_eq_emod_of_nonneg (by omega)]; exact e3
          have p0 : ((p : Int) == 0) = false := by simp; omega
          have HT : Hid (((psB x).take (i + 1)).all (fun p => x % p != 0) = (b && (r != 0))) := by
            unfold Hid
            rw [List.take_add_one, hp, List.all_append, ← HB.out]
            simp [hr]
          have i2 : (i : Int) < (m : Int) := by omega
          have hrb : r < p := by rw [← hr]; exact Nat.mod_lt _ (by omega)
          clear hp hr hba
          cases b with
          | false =>
            go_wp2
            go_round
            case rel => exact ⟨i + 1, false, rfl, by go_num, by omega, by unfold Hid; rw [HT.out]; rfl⟩
            case measure => simp [intOf]; omega
          | true =>
            by_cases hr0 : r = 0
            · subst hr0
              have t1 : (((0 : Nat) : Int) != 0) = false := by simp
              go_wp2
              go_round
              case rel => exact ⟨i + 1, false, rfl, by go_num, by omega, by unfold Hid; rw [HT.out]; rfl⟩
              case measure => simp [intOf]; omega
            · have t1 : ((r : Int) != 0) = true := by simp; omega
              have HT2 : Hid (true = ((psB x).take (i + 1)).all (fun p => x % p != 0)) := by unfold Hid; rw [HT.out]; simp; omega
              go_wp2
              go_round
              case rel => exact ⟨i + 1, true, rfl, by go_num, by omega, HT2⟩
              case measure => simp [intOf]; omega
        · obtain rfl : i = m := by omega
          have i2 : ¬ (i : Int) < (i : Int) := by omega
          have HBA : Hid (b = (psB x).all (fun p => x % p != 0)) := by
            have := HB.out
            rw [List.take_of_length_le (by rw [← HK.out.1]; omega)] at this
            exact this
          cases b with
          | false =>
            have HN : Hid (i = (psB (x + 1)).length ∧ OwnU wr G A i c (psB (x + 1)) ∧ Below G w wr) := by
              unfold Hid
              rw [HST.out.1, ← HBA.out, if_neg (by decide)]
              exact HK.out
            clear HK
            go_wp2
            go_roundw
            case rel => exact ⟨A, i, c, x + 1, rfl, by go_num, by omega, by omega, by omega, HN.out⟩
            case measure => simp [intOf]; omega
          | true =>
            have hs : G ≤ wr.heap.size := by have := HK.out.2.2.size; omega
            go_wp2_with (at_builtin; refine wpList_appL u32_row _ _ rfl rfl rfl G A i c ((psB x).map v32) rfl (OwnR.alloc HK.out.2.1 _) wr.heap.size 1 1 #[.int .u32 (x : Int)] (0, 0) rfl (has_new wr _) rfl (by intro u hu; simp at hu; subst hu; rfl) (by unfold maxLen; omega) (by omega) (by simp; omega) ?_)
            intro V' c' w' hown hg
            have HN : Hid (i + 1 = (psB (x + 1)).length ∧ OwnU w' G V' (i + 1) c' (psB (x + 1)) ∧ Below G w w') := by
              refine ⟨by rw [HST.out.1, ← HBA.out, if_pos rfl, List.length_append, ← HK.out.1]; rfl, ?_, (HK.out.2.2.alloc hs _).grown hg (by simp; omega) (fun g hg => (HK.out.2.1.blk_lt hg).1)⟩
              unfold OwnU
              rw [HST.out.1, ← HBA.out, if_pos rfl, List.map_append]
              exact hown
            clear HK hown hg
            go_wp2
            go_roundw
            case rel => exact ⟨V', i + 1, c', x + 1, rfl, by go_num, by omega, by omega, by omega, HN.out⟩
            case measure => simp [intOf]; omega
    · obtain rfl : m = n := by omega
      have i1 : ¬ (m : Int) < (m : Int) := by omega
      have hp : psB x = PR64.take m := by rw [ps_pre x hx3, ← HK.out.1]
      have HP := Lib.hid hp
      clear hp
      go_wp2
      go_ret
      refine ⟨A, c, rfl, ?_, HK.out.2.2⟩
      rw [← HP.out]
      exact HK.out.2.1
end Go.Proofs.Ytmbkbehccmadfaa
