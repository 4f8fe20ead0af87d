/-
  vname: the row VnameNames.
-/
import Derived.Test.YtjcbmgpmlekamaaVnE
import Derived.Laws.IdiomStrings
namespace Go.Proofs.Ytjcbmgpmlekamaa
open Go.RowKit Go
set_option linter.unusedVariables false
set_option linter.unusedSimpArgs false
set_option maxRecDepth 100000
theorem rb_pre {w : World} {g : Nat} {cs : Array Value} {t : TypeId} {fr : Nat × Nat} {bs : List UInt8} {n : Nat} (hk : w.heap[g]? = some (.cells cs t fr)) (h : ∀ j (hj : j < bs.length), cs[j]? = some (bv bs[j])) (hn : bs.length = n) : RB w (some ⟨g, 0, none⟩) n bs := by
  refine ⟨hn, fun hne => ⟨g, 0, rfl, block_lt hk, fun k hk2 => ?_⟩⟩
  rw [Lib.cell_of_heap hk (0 + k), Nat.zero_add, h k hk2]
theorem right_set (L : List UInt8) (k : Nat) (q : UInt8) (hk : k < L.length) (h : rightL L = true) : rightL (L.set k q) = fineB q := by
  unfold rightL at h ⊢
  rw [List.length_set]
  rw [Bool.and_eq_true] at h
  rw [h.1, Bool.true_and]
  have ha := List.all_eq_true.1 h.2
  cases hq : fineB q with
  | true =>
    rw [List.all_eq_true]
    intro x hx
    rcases List.mem_or_eq_of_mem_set hx with h1 | h1
    · exact ha x h1
    · rw [h1]; exact hq
  | false =>
    have : ¬ (L.set k q).all fineB = true := fun h9 => by
      have h8 := List.all_eq_true.1 h9 q (List.mem_of_getElem? (i := k) (by rw [List.getElem?_set_self (by exact hk)]))
      rw [hq] at h8
      cases h8
    simpa using this
set_option maxHeartbeats 16000000 in
theorem names_row (s : ByteArray) (at_ by_ : Int) (w : World) (hs : s.size ≤ maxLen) (ha : (Lit.int .u16 at_).wf = true) (hb : (Lit.int .u8 by_).wf = true) :
    Calls Try.prog 6 #[.string s, .int .u16 at_, .int .u8 by_] w fun e w' => e = .returned (.bool true) ∧ Below w.heap.size w w' := by
  have WK := Lib.hid works19_any
  by_cases hbig : 4096 < s.size
  · have p1 : decide ((s.size : Int) > 4096) = true := decide_eq_true (by omega)
    go_enter Try.func6, Try.ntmps6
    go_wp2_with fail
    refine (WK.out _).mono ?_
    rintro e w2 ⟨rfl, hb2⟩
    go_wp2
    go_ret
    exact ⟨rfl, hb2⟩
  have p1 : decide ((s.size : Int) > 4096) = false := decide_eq_false (by omega)
  have b1 := bounds_u16 ha
  have b2 := bounds_u8 hb
  obtain ⟨an, rfl⟩ : ∃ q : Nat, at_ = (q : Int) := ⟨at_.toNat, by omega⟩
  obtain ⟨q, rfl⟩ : ∃ q : UInt8, by_ = (q.toNat : Int) := ⟨UInt8.ofNat by_.toNat, by
    rw [UInt8.toNat_ofNat']; omega⟩
  have RT := Lib.hid (fun W => right_any s (by omega) W)
  have hsz := data_size s
  have HS := Lib.hid hsz
  have hN : Hid (s.size ≤ 4096 ∧ an < 65536) := ⟨by omega, by omega⟩
  obtain ⟨f0, hf0⟩ : ∃ f0, decide (1 ≤ s.data.toList.length ∧ s.data.toList.length ≤ 64) = f0 := ⟨_, rfl⟩
  have t0 : (decide ((s.size : Int) ≥ 1) && decide ((s.size : Int) ≤ 64)) = f0 := by
    rw [← hf0, hsz]
    by_cases h1 : 1 ≤ s.size
    · by_cases h2 : s.size ≤ 64
      · rw [decide_eq_true (show (s.size : Int) ≥ 1 by omega), decide_eq_true (show (s.size : Int) ≤ 64 by omega), decide_eq_true ⟨h1, h2⟩]; rfl
      · rw [decide_eq_false (show ¬ (s.size : Int) ≤ 64 by omega), decide_eq_false (show ¬ (1 ≤ s.size ∧ s.size ≤ 64) by omega), Bool.and_false]
    · rw [decide_eq_false (show ¬ (s.size : Int) ≥ 1 by omega), decide_eq_false (show ¬ (1 ≤ s.size ∧ s.size ≤ 64) by omega), Bool.false_and]
  have HF : Hid (rightL s.data.toList = (f0 && s.data.toList.all fineB)) := by unfold Hid rightL; rw [hf0]
  have HT0 : Hid (f0 = (decide (1 ≤ s.size) && decide (s.size ≤ 64))) := by
    unfold Hid; rw [← hf0, hsz, Bool.decide_and]
  have ew : IntKind.i64.wrap (an : Int) = (an : Int) := IntWalk.i64_in _ (by have := hN.out; omega)
  have kc := fun W => run_bytes_of_string (P := Try.prog) W 9 24 5 s Try.underlying9 Try.underlying24 Try.underlying5
  clear hbig b1 b2 ha hb hs hsz hf0 t0
  have STEP : ∀ (c1 c2 : Bool), decide ((s.size : Int) ≥ 1) = c1 → decide ((s.size : Int) ≤ 64) = c2 → Calls Try.prog 6 #[.string s, .int .u16 (an : Int), .int .u8 (q.toNat : Int)] w fun e w' => e = .returned (.bool true) ∧ Below w.heap.size w w' := by
    intro c1 c2 h1 h2
    have hc : f0 = (c1 && c2) := by
      rw [HT0.out, ← h1, ← h2]
      congr 1
      · exact decide_eq_decide.2 (by omega)
      · exact decide_eq_decide.2 (by omega)
    have HC := Lib.hid hc
    clear hc HT0
    cases c1 <;> cases c2
    all_goals
      go_enter Try.func6, Try.ntmps6
      go_wp2_with fail
      go_loopw [7, 8] (fun v7 v8 wl => ∃ (f : Bool) (i : Nat), v7 = .bool f ∧ v8 = .int .i64 (i : Int) ∧ i ≤ s.size ∧ Hid (f = (f0 && (s.data.toList.take i).all fineB) ∧ wl = w)) (fun _ v8 _ => s.size - (intOf v8).toNat)
      case atStart => exact ⟨_, 0, rfl, rfl, Nat.zero_le _, by rw [HC.out]; simp, rfl⟩
      case round =>
        obtain ⟨f, i, rfl, rfl, hi, HK⟩ := hrel
        clear h1 h2
        by_cases hlt : i < s.size
        · have i1 : (i : Int) < (s.size : Int) := by omega
          have i0 : (0 : Int) ≤ (i : Int) := by omega
          have e9 : IntKind.i64.wrap ((i : Int) + 1) = (i : Int) + 1 := IntWalk.i64_in _ (by have := hN.out; omega)
          obtain ⟨p, hp⟩ : ∃ p, s.data.toList[i]? = some p := ⟨_, List.getElem?_eq_getElem (by rw [HS.out]; exact hlt)⟩
          have hix := str_at s i hlt p hp
          have NXT : Hid ((f && fineB p) = (f0 && (s.data.toList.take (i + 1)).all fineB) ∧ wr = w) := ⟨by
            rw [List.take_add_one, List.all_append, HK.out.1, hp, Bool.and_assoc]
            simp, HK.out.2⟩
          clear hp HK
          have hfp : fineB p = (decide (33 ≤ p.toNat) && decide (p.toNat ≤ 126)) := rfl
          cases f with
          | false =>
            rw [Bool.false_and] at NXT
            clear hfp
            go_wp2_with fail
            go_roundw
            case rel => exact ⟨false, i + 1, rfl, by go_num, by omega, NXT⟩
            case measure => simp [intOf]; omega
          | true =>
            rw [Bool.true_and, hfp] at NXT
            by_cases a1 : 32 < p.toNat
            · have t1 : decide ((p.toNat : Int) > 32) = true := decide_eq_true (by omega)
              rw [decide_eq_true (show 33 ≤ p.toNat by omega), Bool.true_and] at NXT
              by_cases a2 : p.toNat < 127
              · have t2 : decide ((p.toNat : Int) < 127) = true := decide_eq_true (by omega)
                rw [decide_eq_true (show p.toNat ≤ 126 by omega)] at NXT
                clear hfp a1 a2
                go_wp2_with fail
                go_roundw
                case rel => exact ⟨true, i + 1, rfl, by go_num, by omega, NXT⟩
                case measure => simp [intOf]; omega
              · have t2 : decide ((p.toNat : Int) < 127) = false := decide_eq_false (by omega)
                rw [decide_eq_false (show ¬ p.toNat ≤ 126 by omega)] at NXT
                clear hfp a1 a2
                go_wp2_with fail
                go_roundw
                case rel => exact ⟨false, i + 1, rfl, by go_num, by omega, NXT⟩
                case measure => simp [intOf]; omega
            · have t1 : decide ((p.toNat : Int) > 32) = false := decide_eq_false (by omega)
              rw [decide_eq_false (show ¬ 33 ≤ p.toNat by omega), Bool.false_and] at NXT
              clear hfp a1
              go_wp2_with fail
              go_roundw
              case rel => exact ⟨false, i + 1, rfl, by go_num, by omega, NXT⟩
              case measure => simp [intOf]; omega
        · have i1 : ¬ (i : Int) < (s.size : Int) := by omega
          have hR : Hid (rightL s.data.toList = f ∧ wr = w) := ⟨by
            rw [HF.out, HK.out.1, List.take_of_length_le (by rw [HS.out]; omega)], HK.out.2⟩
          clear HK
          rw [hR.out.1] at RT
          cases f with
          | false =>
            go_wp2_with fail
            refine (RT.out _).mono ?_
            rintro e w2 ⟨rfl, hw2⟩
            subst w2
            go_wp2_with fail
            refine (WK.out _).mono ?_
            rintro e w3 ⟨rfl, hb3⟩
            have HB : Hid (Below w.heap.size w w3) := by rw [← hR.out.2]; exact Lib.hid hb3
            clear hb3
            go_wp2
            go_ret
            exact ⟨rfl, HB.out⟩
          | true =>
            go_wp2_with fail
            refine (RT.out _).mono ?_
            rintro e w2 ⟨rfl, hw2⟩
            subst w2
            have hn64 : Hid (1 ≤ s.size ∧ s.size ≤ 64) := by
              have h9 := hR.out.1
              unfold rightL at h9
              rw [Bool.and_eq_true, HS.out] at h9
              have h7 : 1 ≤ s.size ∧ s.size ≤ 64 := of_decide_eq_true h9.1
              exact h7
            obtain ⟨k, hk, hkn⟩ : ∃ k, an % s.size = k ∧ k < s.size := ⟨_, rfl, Nat.mod_lt _ hn64.out.1⟩
            have tm : Int.tmod (an : Int) (s.size : Int) = (k : Int) := by rw [Int.tmod_eq_emod_of_nonneg (by omega)]; omega
            have k1 : (k : Int) < (s.size : Int) := by omega
            have k0 : (0 : Int) ≤ (k : Int) := by omega
            have kz : ¬ ((s.size : Int) = 0) := by have := hn64.out; omega
            go_upto_region 12 with (fail)
            refine wp_nm fun W4 hW4 => ?_
            obtain ⟨cap, hcap⟩ : ∃ cap, grownCap wr s.size 0 5 = cap := ⟨_, rfl⟩
            have hge : s.size ≤ cap := by rw [← hcap]; exact grownCap_ge _ _ _ _
            rw [hcap] at hW4
            have hk4 : W4.heap[wr.heap.size]? = some (.cells (bytesRow s cap) 5 ((bytesRow s cap).size, (bytesRow s cap).size + 1)) := by
              rw [← hW4]; exact has_new _ _
            have hrow : ∀ j (hj : j < s.size), (bytesRow s cap)[j]? = some (.int .u8 ((s.data[j]'hj).toNat : Int)) := fun j hj => by
              unfold bytesRow
              rw [Array.getElem?_append_left (by simpa using hj), Array.getElem?_map, Array.getElem?_eq_getElem (by exact hj)]
              rfl
            have c4 : W4.cell? ⟨wr.heap.size, k, none⟩ = some (.int .u8 ((s.data[k]'hkn).toNat : Int)) := by
              rw [Lib.cell_of_heap hk4 k, hrow k hkn]
            have f4 : W4.frozen? ⟨wr.heap.size, k, none⟩ = false := by
              have hsz : (bytesRow s cap).size = s.size + (cap - s.size) := by unfold bytesRow; simp
              simp [World.frozen?, hk4]
              omega
            have R5 : RB (W4.setCell ⟨wr.heap.size, k, none⟩ (.int .u8 (q.toNat : Int))) (some ⟨wr.heap.size, 0, none⟩) s.size (s.data.toList.set k q) := by
              refine rb_pre (heap_set_at _ _ _ _ _ _ _ hk4) (fun j hj => ?_) (by rw [List.length_set, HS.out])
              rw [List.length_set, HS.out] at hj
              by_cases hjk : k = j
              · subst hjk
                simp only [List.getElem_set_self]
                rw [Array.getElem?_setIfInBounds_self_of_lt (by
                  have := (Array.getElem?_eq_some_iff.1 (hrow k hkn)).1; exact this)]
              · rw [Array.getElem?_setIfInBounds_ne hjk, hrow j hj, List.getElem_set_ne hjk]
                simp
            have cv : (convert 24 9 (.slice (some ⟨wr.heap.size, 0, none⟩) s.size cap)).run Try.prog (W4.setCell ⟨wr.heap.size, k, none⟩ (.int .u8 (q.toNat : Int))) = .ok (.string (strOf (s.data.toList.set k q))) (W4.setCell ⟨wr.heap.size, k, none⟩ (.int .u8 (q.toNat : Int))) := by
              have h9 := run_strOf _ _ _ _ cap R5.2
              rw [R5.1] at h9
              exact h9
            obtain ⟨s2, hs2⟩ : ∃ s2, strOf (s.data.toList.set k q) = s2 := ⟨_, rfl⟩
            rw [hs2] at cv
            have hl2 : s2.size ≤ 1000000000 := by rw [← hs2, strOf_size, List.length_set, HS.out]; have := hn64.out; omega
            have RT2 := Lib.hid (fun W => right_any s2 hl2 W)
            have e2 : rightL s2.data.toList = fineB q := by
              rw [← hs2, strOf_data]
              exact right_set _ _ _ (by rw [HS.out]; exact hkn) hR.out.1
            rw [e2] at RT2
            have HB4 : Hid (Below w.heap.size w W4) := by rw [← hR.out.2, ← hW4]; exact Lib.hid (kp_alloc (kp_drew (Below.refl _ _)) _)
            have hww : Hid (w.heap.size ≤ wr.heap.size) := by rw [hR.out.2]; exact Lib.hid (Nat.le_refl _)
            have HB5 : Hid (Below w.heap.size w (W4.setCell ⟨wr.heap.size, k, none⟩ (.int .u8 (q.toNat : Int)))) := kp_set HB4.out hww.out
            clear hk4 hrow R5 e2 hs2 hl2 HB4 hW4 hge hk kc
            rw [hcap]
            go_wp2_with fail
            refine (RT2.out _).mono ?_
            rintro e w5 ⟨rfl, hw5⟩
            subst w5
            have hfp : fineB q = (decide (33 ≤ q.toNat) && decide (q.toNat ≤ 126)) := rfl
            rw [hfp]
            clear hfp cv c4 f4 tm
            by_cases a1 : 32 < q.toNat
            · have t1 : decide ((q.toNat : Int) > 32) = true := decide_eq_true (by omega)
              rw [decide_eq_true (show 33 ≤ q.toNat by omega), Bool.true_and]
              by_cases a2 : q.toNat < 127
              · have t2 : decide ((q.toNat : Int) < 127) = true := decide_eq_true (by omega)
                rw [decide_eq_true (show q.toNat ≤ 126 by omega)]
                clear a1 a2
                go_wp2_with fail
                refine (WK.out _).mono ?_
                rintro e w6 ⟨rfl, hb6⟩
                have HB6 := Lib.hid (kp_call HB5.out hb6)
                clear hb6
                go_wp2
                go_ret
                exact ⟨rfl, HB6.out⟩
              · have t2 : decide ((q.toNat : Int) < 127) = false := decide_eq_false (by omega)
                rw [decide_eq_false (show ¬ q.toNat ≤ 126 by omega)]
                clear a1 a2
                go_wp2_with fail
                refine (WK.out _).mono ?_
                rintro e w6 ⟨rfl, hb6⟩
                have HB6 := Lib.hid (kp_call HB5.out hb6)
                clear hb6
                go_wp2
                go_ret
                exact ⟨rfl, HB6.out⟩
            · have t1 : decide ((q.toNat : Int) > 32) = false := decide_eq_false (by omega)
              rw [decide_eq_false (show ¬ 33 ≤ q.toNat by omega), Bool.false_and]
              clear a1
              go_wp2_with fail
              refine (WK.out _).mono ?_
              rintro e w6 ⟨rfl, hb6⟩
              have HB6 := Lib.hid (kp_call HB5.out hb6)
              clear hb6
              go_wp2
              go_ret
              exact ⟨rfl, HB6.out⟩
  exact STEP _ _ rfl rfl
end Go.Proofs.Ytjcbmgpmlekamaa
