/-
  rsa: the statement RsaEncodes.
-/
import Derived.Test.YtbplchpbaonadaaDoorRv
namespace Go.Proofs.YtbplchpbaonadaaDoor
open Go.RowKit Go
set_option linter.unusedVariables false
set_option linter.unusedSimpArgs false
set_option maxRecDepth 100000
set_option exponentiation.threshold 10000
/-- What both Encodes answer. -/
def EncPost (W : World) (bs : List UInt8) (z : Int) (e : Ending) (w' : World) : Prop := ∃ A m c, e = .returned (.tuple #[.slice A m c, .int .i64 z]) ∧ RB w' A m bs ∧ m ≤ 512 ∧ Below W.heap.size W w'
theorem enc_both (d : List UInt8) (hd : d.length = 32) (n : Int) : ∃ (bs : List UInt8) (z : Int), (∀ W, Calls Tryd.prog 10 #[.agg (dgA d), .int .i64 n] W (EncPost W bs z)) ∧ ∀ W, Calls Tryd.prog 11 #[.agg (dgA d), .int .i64 n] W (EncPost W bs z) := by
  by_cases hb : n < 62 ∨ 512 < n
  · refine ⟨[], 1, fun W => (encode_no n hb (dgA d) W).mono ?_, fun W => (dencode_no n hb (dgA d) W).mono ?_⟩
    all_goals
      rintro e w' ⟨rfl, h⟩
      exact ⟨none, 0, 0, rfl, RB.nil _ _, by omega, h⟩
  · obtain ⟨m, rfl⟩ := Int.eq_ofNat_of_zero_le (show 0 ≤ n by omega)
    have h1 : 62 ≤ m := by omega
    have h2 : m ≤ 512 := by omega
    refine ⟨encL d m, 0, fun W => (encode_of repeat_ok m h1 h2 (dgA d) d W hd rfl).mono ?_, fun W => (dencode_any m h1 h2 (dgA d) d W hd rfl).mono ?_⟩
    all_goals
      rintro e w' ⟨A, c, rfl, ho, h⟩
      exact ⟨A, m, c, rfl, ho.rb, h2, h⟩
set_option maxHeartbeats 8000000 in
theorem encodes_row (d : List UInt8) (n : Int) (K : KeyV) (w : World) (hd : IsD w d) (h1 : (Lit.int .i64 n).wf = true) (hK : IsKeyV w K) (hT : Lens w) :
    Calls Tryd.prog 3 #[dgV d, .int .i64 n, K.val] w fun r w' => r = .returned (.bool true) ∧ Below w.heap.size w w' := by
  obtain ⟨A, kn, kc, N, ex⟩ := K
  obtain ⟨hN, hE⟩ := hK
  simp only at hN hE
  have hd : d.length = 32 := hd
  have HT := Lib.hid hT
  have hdg := dgA_is d hd
  have HD := Lib.hid hdg
  have HI := Lib.hid hdg.info
  have HN := Lib.hid hN.rb
  obtain ⟨bs, z, e1, e2⟩ := enc_both d hd n
  have E1 := Lib.hid e1
  have E2 := Lib.hid e2
  have hkn := hN.lim
  clear hT hdg e1 e2 hN h1
  by_cases hbig : 1024 < kn
  · have p1 : decide ((kn : Int) > 1024) = true := decide_eq_true (by omega)
    have p2 : decide (1024 < kn) = true := decide_eq_true hbig
    go_enter Tryd.func3, Tryd.ntmps3
    go_upto_region 1 with (fail)
    refine wp_nm fun W1 hW1 => ?_
    have HZ : Hid (W1.heap[w.heap.size]? = some (.cells (dgA d) 22) ∧ W1.heap[w.heap.size + 1]? = some (.cells #[.slice A kn kc, .int .u64 (ex : Int)] 26) ∧ Below w.heap.size w W1) := by rw [← hW1]; exact ⟨has_alloc (has_new _ _) _, has_new' _ _ _ (by simp), kp_alloc (kp_alloc (Below.refl _ _) _) _⟩
    clear hW1
    obtain ⟨x0, x1⟩ := cells_2 HZ.out.2.1
    go_wp2_with (refine wpList_load_row rfl _ _ rfl w.heap.size rfl _ _ _ _ HZ.out.1 Tryd.underlying22 rfl HI.out ?_)
    refine (alive_any (dgA d) d HD.out W1 (HT.out.below' HZ.out.2.2)).mono ?_
    rintro r w3 ⟨rfl, hb3⟩
    have B3 := Lib.hid (kp_call HZ.out.2.2 hb3)
    clear hb3
    go_wp2
    go_ret
    exact ⟨rfl, B3.out⟩
  · have p1 : decide ((kn : Int) > 1024) = false := decide_eq_false (by omega)
    have p2 : decide (1024 < kn) = false := decide_eq_false hbig
    go_enter Tryd.func3, Tryd.ntmps3
    go_upto_region 1 with (fail)
    refine wp_nm fun W1 hW1 => ?_
    have HZ : Hid (W1.heap[w.heap.size]? = some (.cells (dgA d) 22) ∧ W1.heap[w.heap.size + 1]? = some (.cells #[.slice A kn kc, .int .u64 (ex : Int)] 26) ∧ Below w.heap.size w W1) := by rw [← hW1]; exact ⟨has_alloc (has_new _ _) _, has_new' _ _ _ (by simp), kp_alloc (kp_alloc (Below.refl _ _) _) _⟩
    clear hW1
    obtain ⟨x0, x1⟩ := cells_2 HZ.out.2.1
    go_wp2_with (refine wpList_load_row rfl _ _ rfl w.heap.size rfl _ _ _ _ HZ.out.1 Tryd.underlying22 rfl HI.out ?_)
    refine (E1.out W1).mono ?_
    rintro r w2 ⟨A2, m2, c2, rfl, hr2, hm2, hb2⟩
    have K2 := Lib.hid (has_below HZ.out.1 hb2)
    have Q2 := Lib.hid (has_below HZ.out.2.1 hb2)
    have B2 := Lib.hid (kp_call HZ.out.2.2 hb2)
    have R2 := Lib.hid hr2
    clear hb2 hr2 HZ x0 x1 E1 p1 p2
    go_wp2_with (refine wpList_load_row rfl _ _ rfl w.heap.size rfl _ _ _ _ K2.out Tryd.underlying22 rfl HI.out ?_)
    refine (E2.out w2).mono ?_
    rintro r w3 ⟨A3, m3, c3, rfl, hr3, hm3, hb3⟩
    have K3 := Lib.hid (has_below K2.out hb3)
    have q3 := has_below Q2.out hb3
    have hB3 := kp_call B2.out hb3
    have R23 := Lib.hid (R2.out.below hb3)
    have R3 := Lib.hid hr3
    clear hb3 hr3 K2 Q2 B2 R2 E2
    go_upto_region 5 with (fail)
    obtain ⟨g, hg⟩ : ∃ g, w.heap.size + 1 = g := ⟨_, rfl⟩
    rw [hg] at q3
    try rw [hg]
    have hgw : w.heap.size < g := by omega
    clear hg
    have TW := Lib.hid (fun W (hb : Below w.heap.size w W) => twin6_any A kn kc N W (HN.out.below hb) (by omega))
    have BW := Lib.hid hB3
    have KEEP : Hid (∀ W, GB w3 g (.cells #[.slice A kn kc, .int .u64 (ex : Int)] 26) W → (W.cell? ⟨g, 0, none⟩ = some (.slice A kn kc) ∧ W.cell? ⟨g, 1, none⟩ = some (.int .u64 (ex : Int))) ∧ GB w3 g (.cells #[.slice A kn kc, .int .u64 (ex : Int)] 26) W) := fun W h => ⟨cells_2 h.h, h⟩
    have g3 : GB w3 g (.cells #[.slice A kn kc, .int .u64 (ex : Int)] 26) w3 := ⟨Below.refl _ _, q3⟩
    have hg3 := block_lt q3
    clear q3 hB3
    go_region_held3 (fun W => (W.cell? ⟨g, 0, none⟩ = some (.slice A kn kc) ∧ W.cell? ⟨g, 1, none⟩ = some (.int .u64 (ex : Int))) ∧ GB w3 g (.cells #[.slice A kn kc, .int .u64 (ex : Int)] 26) W)
      ((apply KEEP.out; repeat (with_reducible (first | assumption | refine GB.drew ?_ | refine GB.alloc ?_ _ | refine GB.call ?_ (by assumption) | refine GB.set ?_ (Nat.le_refl _) (Nat.ne_of_lt hg3)))))
      (first
        | (go_at_call 12; (with_reducible refine (TW.out _ (kp_call BW.out (by (go_split_ands; exact GB.b (by assumption))))).mono ?_); (rintro e X1 ⟨T, nt, ct, rfl, hoT, hbT⟩; have OT := Lib.hid hoT; clear hoT; have k3 : X1.heap[w3.heap.size]? = some (.cells #[.slice none 0 0, .int .u64 0] 26) := has_below (has_drew (has_new w3 _)) hbT; obtain ⟨f0, f1⟩ := free_2 k3; obtain ⟨y0, y1⟩ := cells_2 k3; have HK3 := Lib.hid k3; clear k3))
        | (go_at_call 12; (with_reducible refine (TW.out _ (kp_call BW.out (by (go_split_ands; exact GB.b (by assumption))))).mono ?_); (rintro e X1 ⟨T, nt, ct, rfl, hoT, hbT⟩; have OT := Lib.hid hoT; clear hoT)))
    · have hb31 : Below w3.heap.size w3 X1 := (kp_drew (Below.refl _ _)).trans hbT
      have OX := Lib.hid hb31
      clear hbT hb31
      go_upto_region 6 with (fail)
      refine wp_nm fun W6 hW6 => ?_
      have Z6 : Hid (W6.heap[w.heap.size]? = some (.cells (dgA d) 22) ∧ W6.heap[g]? = some (.cells #[.slice A kn kc, .int .u64 (ex : Int)] 26) ∧ W6.heap[X1.heap.size]? = some (.cells #[.slice T nt ct, .int .u64 (ex : Int)] 26) ∧ RB W6 T nt N ∧ RB W6 A2 m2 bs ∧ RB W6 A3 m3 bs ∧ Below w.heap.size w W6) := by
        rw [← hW6]
        have a1 := kp_alloc OX.out (.cells #[.slice T nt ct, .int .u64 (ex : Int)] 26)
        exact ⟨has_below K3.out a1, GB.h (by go_split_ands; assumption), has_new _ _, OT.out.rb.alloc _, R23.out.below a1, R3.out.below a1, kp_call BW.out a1⟩
      have ntk : nt = kn := by rw [← OT.out.len, HN.out.1]
      clear hW6
      obtain ⟨g6, hg6⟩ : ∃ g6, X1.heap.size = g6 := ⟨_, rfl⟩
      rw [hg6] at Z6
      try rw [hg6]
      have z6 := Z6.out
      obtain ⟨z1, z2, z3, z4, z5, z6, z7⟩ := z6
      have v0 : ∀ x : Up W6, x.w.cell? ⟨g, 0, none⟩ = some (.slice A kn kc) := fun x => (cells_2 (x.heap z2)).1
      have v1 : ∀ x : Up W6, x.w.cell? ⟨g, 1, none⟩ = some (.int .u64 (ex : Int)) := fun x => (cells_2 (x.heap z2)).2
      have v2 : ∀ x : Up W6, x.w.cell? ⟨g6, 0, none⟩ = some (.slice T nt ct) := fun x => (cells_2 (x.heap z3)).1
      have v3 : ∀ x : Up W6, x.w.cell? ⟨g6, 1, none⟩ = some (.int .u64 (ex : Int)) := fun x => (cells_2 (x.heap z3)).2
      have hT6 := HT.out.below' z7
      have S1 := Lib.hid (fun x : Up W6 => by
        have := same6_any A2 A3 m2 c2 m3 c3 _ _ x.w (z5.below x.b) (z6.below x.b) (by omega) (by omega)
        rw [decide_eq_true rfl] at this
        exact this)
      have hNW := HN.out.below z7
      have S2 := Lib.hid (fun x : Up W6 => by
        have := same6_any T A nt ct kn kc _ _ x.w (z4.below x.b) (hNW.below x.b) (by omega) (by omega)
        rw [decide_eq_true rfl] at this
        exact this)
      have P1 := Lib.hid (fun x : Up W6 => sound_any T nt ct ex N x.w (z4.below x.b) (hT6.below' x.b) (by omega) hE)
      have P2 := Lib.hid (fun x : Up W6 => dsound_any A kn kc ex N x.w (hNW.below x.b) (hT6.below' x.b) (by omega) hE)
      obtain ⟨sz, hsz⟩ : ∃ sz : Int, ((soundZ N ex : Nat) : Int) = sz := ⟨_, rfl⟩
      rw [hsz] at P1 P2
      have AL := Lib.hid (fun x : Up W6 => alive_any (dgA d) d HD.out x.w (hT6.below' x.b))
      have D1 := Lib.hid z1
      have BF := Lib.hid z7
      clear z1 z2 z3 z4 z5 z6 z7 hT6 hNW hsz Z6 hg6 ntk
      refine wp_region_up (by kernel_rfl) (by kernel_rfl) ?_
      repeat (first
        | ((with_reducible refine up_load rfl _ _ rfl w.heap.size rfl _ _ _ _ D1.out Tryd.underlying22 rfl HI.out ?_); (simp only [Act.put, List.setIfInBounds_toArray, List.set_cons_zero, List.set_cons_succ]))
        | go_big_quiet_step (first
          | (go_at_call 13; with_reducible exact Up.calls (S1.out _))
          | (go_at_call 13; with_reducible exact Up.calls (S2.out _))
          | (go_at_call 14; with_reducible exact Up.calls (P1.out _))
          | (go_at_call 15; with_reducible exact Up.calls (P2.out _))
          | (go_at_call 9; with_reducible exact Up.calls (AL.out _))))
      refine wpQuiet_nil ?_
      rintro _ ⟨x, rfl⟩
      have HF := Lib.hid (kp_call BF.out x.b)
      go_wp2
      go_ret
      exact ⟨rfl, HF.out⟩
    · have hb31 : Below w3.heap.size w3 X1 := (kp_drew (kp_alloc (Below.refl _ _) _)).trans (hbT.mono (by simp))
      have OX := Lib.hid hb31
      clear hbT hb31 f0 f1 y0 y1
      go_upto_region 6 with (fail)
      refine wp_nm fun W6 hW6 => ?_
      have Z6 : Hid (W6.heap[w.heap.size]? = some (.cells (dgA d) 22) ∧ W6.heap[g]? = some (.cells #[.slice A kn kc, .int .u64 (ex : Int)] 26) ∧ W6.heap[w3.heap.size]? = some (.cells #[.slice T nt ct, .int .u64 (ex : Int)] 26) ∧ RB W6 T nt N ∧ RB W6 A2 m2 bs ∧ RB W6 A3 m3 bs ∧ Below w.heap.size w W6) := by
        rw [← hW6]
        have a1 : Below w3.heap.size w3 ((X1.setCell ⟨w3.heap.size, 0, none⟩ (.slice T nt ct)).setCell ⟨w3.heap.size, 1, none⟩ (.int .u64 (ex : Int))) := kp_set (kp_set OX.out (Nat.le_refl _)) (Nat.le_refl _)
        exact ⟨has_below K3.out a1, GB.h (by go_split_ands; assumption), set_2 HK3.out, (OT.out.kept (grown_2 _ _) (.inr (fun e => by have := (OT.out.blk_lt e).1; simp at this; omega))).rb, R23.out.below a1, R3.out.below a1, kp_call BW.out a1⟩
      have ntk : nt = kn := by rw [← OT.out.len, HN.out.1]
      clear hW6
      obtain ⟨g6, hg6⟩ : ∃ g6, w3.heap.size = g6 := ⟨_, rfl⟩
      rw [hg6] at Z6
      try rw [hg6]
      have z6 := Z6.out
      obtain ⟨z1, z2, z3, z4, z5, z6, z7⟩ := z6
      have v0 : ∀ x : Up W6, x.w.cell? ⟨g, 0, none⟩ = some (.slice A kn kc) := fun x => (cells_2 (x.heap z2)).1
      have v1 : ∀ x : Up W6, x.w.cell? ⟨g, 1, none⟩ = some (.int .u64 (ex : Int)) := fun x => (cells_2 (x.heap z2)).2
      have v2 : ∀ x : Up W6, x.w.cell? ⟨g6, 0, none⟩ = some (.slice T nt ct) := fun x => (cells_2 (x.heap z3)).1
      have v3 : ∀ x : Up W6, x.w.cell? ⟨g6, 1, none⟩ = some (.int .u64 (ex : Int)) := fun x => (cells_2 (x.heap z3)).2
      have hT6 := HT.out.below' z7
      have S1 := Lib.hid (fun x : Up W6 => by
        have := same6_any A2 A3 m2 c2 m3 c3 _ _ x.w (z5.below x.b) (z6.below x.b) (by omega) (by omega)
        rw [decide_eq_true rfl] at this
        exact this)
      have hNW := HN.out.below z7
      have S2 := Lib.hid (fun x : Up W6 => by
        have := same6_any T A nt ct kn kc _ _ x.w (z4.below x.b) (hNW.below x.b) (by omega) (by omega)
        rw [decide_eq_true rfl] at this
        exact this)
      have P1 := Lib.hid (fun x : Up W6 => sound_any T nt ct ex N x.w (z4.below x.b) (hT6.below' x.b) (by omega) hE)
      have P2 := Lib.hid (fun x : Up W6 => dsound_any A kn kc ex N x.w (hNW.below x.b) (hT6.below' x.b) (by omega) hE)
      obtain ⟨sz, hsz⟩ : ∃ sz : Int, ((soundZ N ex : Nat) : Int) = sz := ⟨_, rfl⟩
      rw [hsz] at P1 P2
      have AL := Lib.hid (fun x : Up W6 => alive_any (dgA d) d HD.out x.w (hT6.below' x.b))
      have D1 := Lib.hid z1
      have BF := Lib.hid z7
      clear z1 z2 z3 z4 z5 z6 z7 hT6 hNW hsz Z6 hg6 ntk
      refine wp_region_up (by kernel_rfl) (by kernel_rfl) ?_
      repeat (first
        | ((with_reducible refine up_load rfl _ _ rfl w.heap.size rfl _ _ _ _ D1.out Tryd.underlying22 rfl HI.out ?_); (simp only [Act.put, List.setIfInBounds_toArray, List.set_cons_zero, List.set_cons_succ]))
        | go_big_quiet_step (first
          | (go_at_call 13; with_reducible exact Up.calls (S1.out _))
          | (go_at_call 13; with_reducible exact Up.calls (S2.out _))
          | (go_at_call 14; with_reducible exact Up.calls (P1.out _))
          | (go_at_call 15; with_reducible exact Up.calls (P2.out _))
          | (go_at_call 9; with_reducible exact Up.calls (AL.out _))))
      refine wpQuiet_nil ?_
      rintro _ ⟨x, rfl⟩
      have HF := Lib.hid (kp_call BF.out x.b)
      go_wp2
      go_ret
      exact ⟨rfl, HF.out⟩
end Go.Proofs.YtbplchpbaonadaaDoor
