/-
  rsa: the statement RsaVerifies.
-/
import Derived.Test.YtbplchpbaonadaaDoorRv
namespace Go.Proofs.YtbplchpbaonadaaDoor
open Go.RowKit Go
set_option linter.unusedVariables false
set_option linter.unusedSimpArgs false
set_option maxRecDepth 100000
set_option exponentiation.threshold 10000
set_option maxHeartbeats 8000000 in
theorem verifies_row (K : KeyV) (d : List UInt8) (B : Option Addr) (m mc : Nat) (sig : List UInt8) (w : World) (hK : IsKeyV w K) (hd : IsD w d) (hS : IsBs w B m mc sig) (hT : Lens w) :
    Calls Tryd.prog 4 #[K.val, dgV d, .slice B m mc] w fun r w' => r = .returned (.bool true) ∧ Below w.heap.size w w' := by
  obtain ⟨A, kn, kc, N, ex⟩ := K
  obtain ⟨hN, hE⟩ := hK
  simp only at hN hE
  have hd : d.length = 32 := hd
  have HT := Lib.hid hT
  have hdg := dgA_is d hd
  have HD := Lib.hid hdg
  have HI := Lib.hid hdg.info
  have HN := Lib.hid hN.rb
  have HS := Lib.hid hS.rb
  have hkn := hN.lim
  have hml := hS.lim
  clear hT hdg hN hS
  have ZS : ∀ W, ((w.alloc (.cells #[.slice A kn kc, .int .u64 (ex : Int)] 26)).alloc (.cells (dgA d) 22)) = W → Hid (W.heap[w.heap.size + 1]? = some (.cells (dgA d) 22) ∧ W.heap[w.heap.size]? = some (.cells #[.slice A kn kc, .int .u64 (ex : Int)] 26) ∧ Below w.heap.size w W) := fun W h => by
    rw [← h]; exact ⟨has_new' _ _ _ (by simp), has_alloc (has_new _ _) _, kp_alloc (kp_alloc (Below.refl _ _) _) _⟩
  have ZS := Lib.hid ZS
  by_cases hbig : 1024 < kn ∨ 1024 < m
  · have p1 : (decide ((kn : Int) > 1024) = true ∧ decide (1024 < kn) = true) ∨ (decide ((kn : Int) > 1024) = false ∧ decide (1024 < kn) = false ∧ decide ((m : Int) > 1024) = true ∧ decide (1024 < m) = true) := by
      rcases Nat.lt_or_ge 1024 kn with h | h
      · exact .inl ⟨decide_eq_true (by omega), decide_eq_true h⟩
      · exact .inr ⟨decide_eq_false (by omega), decide_eq_false (by omega), decide_eq_true (by omega), decide_eq_true (by omega)⟩
    clear hbig
    rcases p1 with ⟨p1, p2⟩ | ⟨p1, p2, p3, p4⟩
    all_goals
      go_enter Tryd.func4, Tryd.ntmps4
      go_upto_region 1 with (fail)
      refine wp_nm fun W1 hW1 => ?_
      have HZ := ZS.out W1 hW1
      clear hW1
      obtain ⟨x0, x1⟩ := cells_2 HZ.out.2.1
      go_wp2_with (refine wpList_load_row rfl _ _ rfl (w.heap.size + 1) rfl _ _ _ _ HZ.out.1 Tryd.underlying22 rfl HI.out ?_)
      refine (alive_any (dgA d) d HD.out W1 (HT.out.below' HZ.out.2.2)).mono ?_
      rintro r w3 ⟨rfl, hb3⟩
      have B3 := Lib.hid (kp_call HZ.out.2.2 hb3)
      clear hb3
      go_wp2
      go_ret
      exact ⟨rfl, B3.out⟩
  · have p1 : decide ((kn : Int) > 1024) = false := decide_eq_false (by omega)
    have p2 : decide (1024 < kn) = false := decide_eq_false (by omega)
    have p3 : decide ((m : Int) > 1024) = false := decide_eq_false (by omega)
    have p4 : decide (1024 < m) = false := decide_eq_false (by omega)
    go_enter Tryd.func4, Tryd.ntmps4
    go_upto_region 1 with (fail)
    refine wp_nm fun w3 hW1 => ?_
    have HZ := ZS.out w3 hW1
    clear hW1
    have K3 := Lib.hid HZ.out.1
    have q3 := HZ.out.2.1
    have hB3 := HZ.out.2.2
    obtain ⟨x0, x1⟩ := cells_2 q3
    have hg3 : w.heap.size < w3.heap.size := block_lt q3
    go_upto_region 3 with (fail)
    clear x0 x1 HZ p1 p2 p3 p4
    obtain ⟨g, hg⟩ : ∃ g, w.heap.size = g := ⟨_, rfl⟩
    have q3' := q3
    rw [hg] at q3' hg3
    have TW := Lib.hid (fun W (hb : Below w.heap.size w W) => twin6_any A kn kc N W (HN.out.below hb) (by omega))
    have BW := Lib.hid hB3
    have HG := Lib.hid hg
    try rw [hg]
    clear q3 hB3 hg
    have KEEP : Hid (∀ W, GB w3 g (.cells #[.slice A kn kc, .int .u64 (ex : Int)] 26) W → (W.cell? ⟨g, 0, none⟩ = some (.slice A kn kc) ∧ W.cell? ⟨g, 1, none⟩ = some (.int .u64 (ex : Int))) ∧ GB w3 g (.cells #[.slice A kn kc, .int .u64 (ex : Int)] 26) W) := fun W h => ⟨cells_2 h.h, h⟩
    have g3 : GB w3 g (.cells #[.slice A kn kc, .int .u64 (ex : Int)] 26) w3 := ⟨Below.refl _ _, q3'⟩
    clear q3'
    go_region_held3 (fun W => (W.cell? ⟨g, 0, none⟩ = some (.slice A kn kc) ∧ W.cell? ⟨g, 1, none⟩ = some (.int .u64 (ex : Int))) ∧ GB w3 g (.cells #[.slice A kn kc, .int .u64 (ex : Int)] 26) W)
      ((apply KEEP.out; repeat (with_reducible (first | assumption | refine GB.drew ?_ | refine GB.alloc ?_ _ | refine GB.call ?_ (by assumption) | refine GB.set ?_ (Nat.le_refl _) (Nat.ne_of_lt hg3)))))
      (first
        | (go_at_call 12; (with_reducible refine (TW.out _ (kp_call BW.out (by (go_split_ands; exact GB.b (by assumption))))).mono ?_); (rintro e X1 ⟨T, nt, ct, rfl, hoT, hbT⟩; have OT := Lib.hid hoT; clear hoT; have k3 : X1.heap[w3.heap.size]? = some (.cells #[.slice none 0 0, .int .u64 0] 26) := has_below (has_drew (has_new w3 _)) hbT; obtain ⟨f0, f1⟩ := free_2 k3; obtain ⟨y0, y1⟩ := cells_2 k3; have HK3 := Lib.hid k3; clear k3))
        | (go_at_call 12; (with_reducible refine (TW.out _ (kp_call BW.out (by (go_split_ands; exact GB.b (by assumption))))).mono ?_); (rintro e X1 ⟨T, nt, ct, rfl, hoT, hbT⟩; have OT := Lib.hid hoT; clear hoT)))
    · have hb31 : Below w3.heap.size w3 X1 := (kp_drew (Below.refl _ _)).trans hbT
      have OX := Lib.hid hb31
      clear hbT hb31
      go_upto_region 4 with (fail)
      refine wp_nm fun W6 hW6 => ?_
      have Z6 : Hid (W6.heap[w.heap.size + 1]? = some (.cells (dgA d) 22) ∧ W6.heap[g]? = some (.cells #[.slice A kn kc, .int .u64 (ex : Int)] 26) ∧ W6.heap[X1.heap.size]? = some (.cells #[.slice T nt ct, .int .u64 (ex : Int)] 26) ∧ RB W6 T nt N ∧ Below w.heap.size w W6) := by
        rw [← hW6]
        have a1 := kp_alloc OX.out (.cells #[.slice T nt ct, .int .u64 (ex : Int)] 26)
        exact ⟨has_below K3.out a1, GB.h (by go_split_ands; assumption), has_new _ _, OT.out.rb.alloc _, kp_call BW.out a1⟩
      have ntk : nt ≤ 1024 := by have h9 : nt = kn := by rw [← OT.out.len, HN.out.1]
                                 omega
      clear hW6
      obtain ⟨g6, hg6⟩ : ∃ g6, X1.heap.size = g6 := ⟨_, rfl⟩
      rw [hg6] at Z6
      try rw [hg6]
      clear hg6
      go_wp2_with fail
      refine (twin6_any B m mc sig W6 (HS.out.below Z6.out.2.2.2.2) (by omega)).mono ?_
      rintro r w7 ⟨T7, n7, c7, rfl, ho7, hb7⟩
      have hn7 : n7 ≤ 1024 := by have h9 : n7 = m := by rw [← ho7.len, HS.out.1]
                                 omega
      have R7 := Lib.hid ho7.rb
      have Z7 := Lib.hid (And.intro (has_below Z6.out.1 hb7) (And.intro (has_below Z6.out.2.1 hb7) (And.intro (has_below Z6.out.2.2.1 hb7) (And.intro (Z6.out.2.2.2.1.below hb7) (kp_call Z6.out.2.2.2.2 hb7)))))
      clear ho7 hb7 Z6
      go_upto_region 5 with (fail)
      obtain ⟨z1, z2, z3, z4, z7⟩ := Z7.out
      have v0 : ∀ x : Up w7, x.w.cell? ⟨g, 0, none⟩ = some (.slice A kn kc) := fun x => (cells_2 (x.heap z2)).1
      have v1 : ∀ x : Up w7, x.w.cell? ⟨g, 1, none⟩ = some (.int .u64 (ex : Int)) := fun x => (cells_2 (x.heap z2)).2
      have v2 : ∀ x : Up w7, x.w.cell? ⟨g6, 0, none⟩ = some (.slice T nt ct) := fun x => (cells_2 (x.heap z3)).1
      have v3 : ∀ x : Up w7, x.w.cell? ⟨g6, 1, none⟩ = some (.int .u64 (ex : Int)) := fun x => (cells_2 (x.heap z3)).2
      have hT6 := HT.out.below' z7
      have hNW := HN.out.below z7
      have hSW := HS.out.below z7
      have S1 := Lib.hid (fun x : Up w7 => by
        have := same6_any T A nt ct kn kc _ _ x.w (z4.below x.b) (hNW.below x.b) (by omega) (by omega)
        rw [decide_eq_true rfl] at this
        exact this)
      have S2 := Lib.hid (fun x : Up w7 => by
        have := same6_any T7 B n7 c7 m mc _ _ x.w (R7.out.below x.b) (hSW.below x.b) (by omega) (by omega)
        rw [decide_eq_true rfl] at this
        exact this)
      have P1 := Lib.hid (fun x : Up w7 => verify_any T nt ct ex N (dgA d) d T7 n7 c7 sig x.w (hT6.below' x.b) (z4.below x.b) (by omega) hE HD.out (R7.out.below x.b) (by omega))
      have P2 := Lib.hid (fun x : Up w7 => dverify_any A kn kc ex N (dgA d) d B m mc sig x.w (hT6.below' x.b) (hNW.below x.b) (by omega) hE HD.out (hSW.below x.b) (by omega))
      obtain ⟨vb, hvb⟩ : ∃ vb : Bool, verB N ex d sig = vb := ⟨_, rfl⟩
      rw [hvb] at P1 P2
      have AL := Lib.hid (fun x : Up w7 => alive_any (dgA d) d HD.out x.w (hT6.below' x.b))
      rw [HG.out] at z1
      have D1 := Lib.hid z1
      have BF := Lib.hid z7
      clear z1 z2 z3 z4 z7 hT6 hNW hSW hvb Z7 ntk hn7
      refine wp_region_up (by kernel_rfl) (by kernel_rfl) ?_
      repeat (first
        | ((with_reducible refine up_load rfl _ _ rfl (g + 1) rfl _ _ _ _ D1.out Tryd.underlying22 rfl HI.out ?_); (simp only [Act.put, List.setIfInBounds_toArray, List.set_cons_zero, List.set_cons_succ]))
        | go_big_quiet_step (first
          | (go_at_call 13; with_reducible exact Up.calls (S1.out _))
          | (go_at_call 13; with_reducible exact Up.calls (S2.out _))
          | (go_at_call 16; with_reducible exact Up.calls (P1.out _))
          | (go_at_call 17; with_reducible exact Up.calls (P2.out _))
          | (go_at_call 9; with_reducible exact Up.calls (AL.out _))))
      refine wpQuiet_nil ?_
      rintro _ ⟨x, rfl⟩
      have HF := Lib.hid (kp_call BF.out x.b)
      go_wp2
      go_ret
      exact ⟨rfl, HF.out⟩
    · have hb31 : Below w3.heap.size w3 X1 := (kp_drew (kp_alloc (Below.refl _ _) _)).trans (hbT.mono (by simp))
      have OX := Lib.hid hb31
      clear hbT hb31 f0 f1 y0 y1
      go_upto_region 4 with (fail)
      refine wp_nm fun W6 hW6 => ?_
      have Z6 : Hid (W6.heap[w.heap.size + 1]? = some (.cells (dgA d) 22) ∧ W6.heap[g]? = some (.cells #[.slice A kn kc, .int .u64 (ex : Int)] 26) ∧ W6.heap[w3.heap.size]? = some (.cells #[.slice T nt ct, .int .u64 (ex : Int)] 26) ∧ RB W6 T nt N ∧ Below w.heap.size w W6) := by
        rw [← hW6]
        have a1 : Below w3.heap.size w3 ((X1.setCell ⟨w3.heap.size, 0, none⟩ (.slice T nt ct)).setCell ⟨w3.heap.size, 1, none⟩ (.int .u64 (ex : Int))) := kp_set (kp_set OX.out (Nat.le_refl _)) (Nat.le_refl _)
        exact ⟨has_below K3.out a1, GB.h (by go_split_ands; assumption), set_2 HK3.out, (OT.out.kept (grown_2 _ _) (.inr (fun e => by have := (OT.out.blk_lt e).1; simp at this; omega))).rb, kp_call BW.out a1⟩
      have ntk : nt ≤ 1024 := by have h9 : nt = kn := by rw [← OT.out.len, HN.out.1]
                                 omega
      clear hW6
      obtain ⟨g6, hg6⟩ : ∃ g6, w3.heap.size = g6 := ⟨_, rfl⟩
      rw [hg6] at Z6
      try rw [hg6]
      clear hg6
      go_wp2_with fail
      refine (twin6_any B m mc sig W6 (HS.out.below Z6.out.2.2.2.2) (by omega)).mono ?_
      rintro r w7 ⟨T7, n7, c7, rfl, ho7, hb7⟩
      have hn7 : n7 ≤ 1024 := by have h9 : n7 = m := by rw [← ho7.len, HS.out.1]
                                 omega
      have R7 := Lib.hid ho7.rb
      have Z7 := Lib.hid (And.intro (has_below Z6.out.1 hb7) (And.intro (has_below Z6.out.2.1 hb7) (And.intro (has_below Z6.out.2.2.1 hb7) (And.intro (Z6.out.2.2.2.1.below hb7) (kp_call Z6.out.2.2.2.2 hb7)))))
      clear ho7 hb7 Z6
      go_upto_region 5 with (fail)
      obtain ⟨z1, z2, z3, z4, z7⟩ := Z7.out
      have v0 : ∀ x : Up w7, x.w.cell? ⟨g, 0, none⟩ = some (.slice A kn kc) := fun x => (cells_2 (x.heap z2)).1
      have v1 : ∀ x : Up w7, x.w.cell? ⟨g, 1, none⟩ = some (.int .u64 (ex : Int)) := fun x => (cells_2 (x.heap z2)).2
      have v2 : ∀ x : Up w7, x.w.cell? ⟨g6, 0, none⟩ = some (.slice T nt ct) := fun x => (cells_2 (x.heap z3)).1
      have v3 : ∀ x : Up w7, x.w.cell? ⟨g6, 1, none⟩ = some (.int .u64 (ex : Int)) := fun x => (cells_2 (x.heap z3)).2
      have hT6 := HT.out.below' z7
      have hNW := HN.out.below z7
      have hSW := HS.out.below z7
      have S1 := Lib.hid (fun x : Up w7 => by
        have := same6_any T A nt ct kn kc _ _ x.w (z4.below x.b) (hNW.below x.b) (by omega) (by omega)
        rw [decide_eq_true rfl] at this
        exact this)
      have S2 := Lib.hid (fun x : Up w7 => by
        have := same6_any T7 B n7 c7 m mc _ _ x.w (R7.out.below x.b) (hSW.below x.b) (by omega) (by omega)
        rw [decide_eq_true rfl] at this
        exact this)
      have P1 := Lib.hid (fun x : Up w7 => verify_any T nt ct ex N (dgA d) d T7 n7 c7 sig x.w (hT6.below' x.b) (z4.below x.b) (by omega) hE HD.out (R7.out.below x.b) (by omega))
      have P2 := Lib.hid (fun x : Up w7 => dverify_any A kn kc ex N (dgA d) d B m mc sig x.w (hT6.below' x.b) (hNW.below x.b) (by omega) hE HD.out (hSW.below x.b) (by omega))
      obtain ⟨vb, hvb⟩ : ∃ vb : Bool, verB N ex d sig = vb := ⟨_, rfl⟩
      rw [hvb] at P1 P2
      have AL := Lib.hid (fun x : Up w7 => alive_any (dgA d) d HD.out x.w (hT6.below' x.b))
      rw [HG.out] at z1
      have D1 := Lib.hid z1
      have BF := Lib.hid z7
      clear z1 z2 z3 z4 z7 hT6 hNW hSW hvb Z7 ntk hn7
      refine wp_region_up (by kernel_rfl) (by kernel_rfl) ?_
      repeat (first
        | ((with_reducible refine up_load rfl _ _ rfl (g + 1) rfl _ _ _ _ D1.out Tryd.underlying22 rfl HI.out ?_); (simp only [Act.put, List.setIfInBounds_toArray, List.set_cons_zero, List.set_cons_succ]))
        | go_big_quiet_step (first
          | (go_at_call 13; with_reducible exact Up.calls (S1.out _))
          | (go_at_call 13; with_reducible exact Up.calls (S2.out _))
          | (go_at_call 16; with_reducible exact Up.calls (P1.out _))
          | (go_at_call 17; with_reducible exact Up.calls (P2.out _))
          | (go_at_call 9; with_reducible exact Up.calls (AL.out _))))
      refine wpQuiet_nil ?_
      rintro _ ⟨x, rfl⟩
      have HF := Lib.hid (kp_call BF.out x.b)
      go_wp2
      go_ret
      exact ⟨rfl, HF.out⟩
end Go.Proofs.YtbplchpbaonadaaDoor
