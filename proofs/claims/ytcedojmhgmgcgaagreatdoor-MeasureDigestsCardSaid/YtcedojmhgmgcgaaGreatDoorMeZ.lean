/-
  measure: the statement on the ranges and the digest, against the document.
-/
import Derived.Test.YtcedojmhgmgcgaaGreatDoorMeM
import Derived.Test.YtcedojmhgmgcgaaGreatDoorMzE
import Derived.StillTailTactics
import Derived.Deep.Cut
import Derived.Great.BuildSlice
import Derived.Test.YtcedojmhgmgcgaaGreatDoorMeY
import Derived.Test.YtcedojmhgmgcgaaGreatDoorMp7
import Derived.Test.YtcedojmhgmgcgaaGreatDoorRoomy
namespace Go.Proofs.YtcedojmhgmgcgaaGreatDoor
open Go.RowKit Go
set_option linter.unusedVariables false
set_option linter.unusedSimpArgs false
set_option maxRecDepth 100000
attribute [local go_sem] Oper.semAt_some
/-- Are two ranges one? -/
theorem rng_eq (a b c d : Int) (w : World) : (Op.equalIn 10000 39 (.agg #[.int .i64 a, .int .i64 b]) (.agg #[.int .i64 c, .int .i64 d])).run Tryz.prog w = .ok ((a == c) && (b == d)) w := by
  obtain ⟨i, hi⟩ : ∃ i, Tryz.prog.info? 3 = some i := by
    have h : (Tryz.prog.info? 3).isSome = true := by kernel_rfl
    exact Option.isSome_iff_exists.1 h
  rw [run_equalIn_array w 9999 _ _ Tryz.underlying39 hi]
  have c6 : Tryz.prog.cellsOf 3 = 1 := by kernel_rfl
  rw [c6]
  have r1 := run_part_plain (P := Tryz.prog) w (e := 3) (by kernel_rfl) (show (#[Value.int .i64 a, .int .i64 b] : Array Value)[0 * 1]? = some (.int .i64 a) from rfl)
  have r2 := run_part_plain (P := Tryz.prog) w (e := 3) (by kernel_rfl) (show (#[Value.int .i64 a, .int .i64 b] : Array Value)[1 * 1]? = some (.int .i64 b) from rfl)
  have r3 := run_part_plain (P := Tryz.prog) w (e := 3) (by kernel_rfl) (show (#[Value.int .i64 c, .int .i64 d] : Array Value)[0 * 1]? = some (.int .i64 c) from rfl)
  have r4 := run_part_plain (P := Tryz.prog) w (e := 3) (by kernel_rfl) (show (#[Value.int .i64 c, .int .i64 d] : Array Value)[1 * 1]? = some (.int .i64 d) from rfl)
  have q1 : (Op.equalIn 9999 3 (.int .i64 a) (.int .i64 c)).run Tryz.prog w = .ok (a == c) w := by simp [go_sem, Tryz.underlying3]
  have q2 : (Op.equalIn 9999 3 (.int .i64 b) (.int .i64 d)).run Tryz.prog w = .ok (b == d) w := by simp [go_sem, Tryz.underlying3]
  show (Op.eqItems 9999 3 1 _ _ [0, 1]).run Tryz.prog w = _
  unfold Op.eqItems
  simp only [Sem.run_bind, r1, r3, Result.andThen_ok, q1]
  cases hac : (a == c) with
  | false => rfl
  | true =>
    show (Op.eqItems 9999 3 1 _ _ [1]).run Tryz.prog w = _
    unfold Op.eqItems
    simp only [Sem.run_bind, r2, r4, Result.andThen_ok, q2]
    cases (b == d) <;> simp [Op.eqItems]
/-- What the document's Digest tells of any bytes. -/
structure DDA (w : World) (bs : List UInt8) (ds iv : Array Value) (er : Nat) (w' : World) : Prop where
  b : Below w.heap.size w w'
  sz : (Tryz.prog.info? 25).map (·.size) = some ds.size
  s1 : zD.size = ds.size
  so : ds.all (·.oneCell') = true
  isz : (Tryz.prog.info? 30).map (·.size) = some iv.size
  is1 : imZero.size = iv.size
  iso : iv.all (·.oneCell') = true
  ok : er = 0 → ∃ (im : Im) (V : Option Addr) (m cV : Nat) (U : Option Addr) (k cU : Nat) (xs : List Own1), parseQ bs = .inr im ∧ ds = ((digQ bs im).map v8).toArray ∧ iv = imVal im V m cV U k cU ∧ ImOr w.heap.size im V m cV U k cU xs w'
  no : er ≠ 0 → parseQ bs = .inl er ∧ ds = zD ∧ iv = imZero
theorem ddigest_abs {w w' : World} {bs : List UInt8} {e : Ending} (h : DDigestP w bs e w') : ∃ (ds iv : Array Value) (er : Nat), e = .returned (.tuple #[.agg ds, .agg iv, .int .i64 (er : Nat)]) ∧ DDA w bs ds iv er w' := by
  unfold DDigestP at h
  cases hq : parseQ bs with
  | inl er =>
    rw [hq] at h
    have her := parse_er hq
    exact ⟨zD, imZero, er, h.1, h.2, zD_size, rfl, zD_one, (by kernel_rfl), rfl, (by simp [imZero, Value.oneCell']), (fun e => by omega), fun _ => ⟨hq, rfl, rfl⟩⟩
  | inr im =>
    rw [hq] at h
    obtain ⟨⟨V, m, cV, U, k, cU, xs, he, ho⟩, hb⟩ := h
    have hdl : (digQ bs im).length = 32 := sumQ_len _ _
    refine ⟨_, _, 0, he, hb, ?_, ?_, dig_one _, (by kernel_rfl), rfl, im_one8 im V m cV U k cU, (fun _ => ⟨im, V, m, cV, U, k, cU, xs, hq, rfl, rfl, ho⟩), fun e => absurd rfl e⟩
    · rw [List.size_toArray, List.length_map, hdl]; kernel_rfl
    · show 32 = _
      rw [List.size_toArray, List.length_map, hdl]
theorem digests_big (A : Option Addr) (n c : Nat) (w : World) (hT : Sizes w) (h : 16384 < n) :
    Calls Tryz.prog 3 #[.slice A n c] w fun e w' => e = .returned (.bool true) ∧ Below w.heap.size w w' := by
  have C := Lib.hid (works17_any w hT)
  have t1 : decide ((16384 : Int) < (n : Int)) = true := by simp; omega
  go_enter Tryz.func3, Tryz.ntmps3
  go_wp2_with (fail)
  (with_reducible refine C.out.mono ?_)
  rintro e w1 ⟨rfl, h1⟩
  have H1 := Lib.hid h1
  clear h1
  go_wp2_with (fail)
  go_ret
  exact ⟨rfl, H1.out⟩
set_option maxHeartbeats 32000000 in
theorem digests_err (A : Option Addr) (n c : Nat) (bs : List UInt8) (w : World) (hR : RB w A n bs) (hT : Sizes w) (hnc : n ≤ c) (hcc : c ≤ 9223372036854775807) (hn : n ≤ 16384) (er : Nat) (hq : parseQ bs = .inl er) :
    Calls Tryz.prog 3 #[.slice A n c] w fun e w' => e = .returned (.bool true) ∧ Below w.heap.size w w' := by
  have t1 : decide ((16384 : Int) < (n : Int)) = false := by simp; omega
  have HR := Lib.hid hR
  have HS := Lib.hid hT
  have C := Lib.hid (roomy_any A n c bs w hR (by omega))
  have KPT' : ∀ (A1 : Option Addr) (c1 : Nat) W, Roomed W w.heap.size A1 n c1 bs → RB W A n bs → Calls Tryz.prog 11 #[.slice A1 n c1, .slice A n c] W fun e w' => e = .returned (.bool true) ∧ W = w' :=
    fun A1 c1 W h1 h2 => (kept_any A1 A n n c1 c w.heap.size bs bs W h1 h2 (by omega)).mono fun e w' h => ⟨by rw [h.1]; simp, h.2⟩
  have KPT1 := Lib.hid KPT'
  have HQ9 := Lib.hid hq
  clear hR hT hq
  go_enter Tryz.func3, Tryz.ntmps3
  go_wp2_with (fail)
  (with_reducible refine C.out.mono ?_)
  clear C
  rintro e W1 ⟨A1, c1, rfl, hroom, hb1⟩
  have hcp := hroom.2.cap
  have hc1 : n ≤ c1 ∧ c1 ≤ 9223372036854775807 := by unfold maxLen at hcp; omega
  have P := Lib.hid (digest_any A1 n c1 bs W1 hroom.rb (HS.out.below' hb1) hc1.1 hc1.2)
  have H1 := Lib.hid (And.intro hroom hb1)
  have KPT := Lib.hid (KPT1.out A1 c1)
  clear KPT' KPT1 hroom hb1 hcp
  go_wp2_with (fail)
  (with_reducible refine P.out.mono ?_)
  clear P
  rintro e W2 hp
  obtain ⟨ds0, iv0, er0, rfl, hda0⟩ := digest_abs hp
  have DA0 := Lib.hid hda0
  have DSZ0 := Lib.hid hda0.sz
  have DS10 := Lib.hid hda0.s1
  have DSO0 := Lib.hid hda0.so
  have DIZ0 := Lib.hid hda0.isz
  clear hp hda0
  go_upto_region 5 with (first
    | (refine wpList_store_row rfl _ _ _ rfl W2.heap.size ds0 rfl rfl _ _ (has_alloc (has_new W2 (.cells zD 25)) _) DSZ0.out DS10.out DSO0.out ?_)
    | (refine wpList_store_row rfl _ _ _ rfl (W2.heap.size + 1) iv0 rfl rfl _ _ ((setRow_other _ _ _ _ (by omega)).trans (has_new' (W2.alloc (.cells zD 25)) (.cells imZero 30) _ (by simp))) DA0.out.isz DA0.out.is1 DA0.out.iso ?_))
  refine wp_nm fun W3 hW3 => ?_
  obtain ⟨q0, hq0⟩ : ∃ q0, W2.heap.size = q0 := ⟨_, rfl⟩
  have K3 : Hid (W3.heap[q0]? = some (.cells ds0 25) ∧ W3.heap[q0 + 1]? = some (.cells iv0 30) ∧ Below W2.heap.size W2 W3) := by
    rw [← hW3, ← hq0]
    exact Lib.hid ⟨(setRow_other _ _ _ _ (by omega)).trans (setRow_heap _ _ _ _ _ _ (has_alloc (has_new W2 (.cells zD 25)) _)), setRow_heap _ _ _ _ _ _ ((setRow_other _ _ _ _ (by omega)).trans (has_new' (W2.alloc (.cells zD 25)) (.cells imZero 30) _ (by simp))), below_setRow (below_setRow (kp_alloc (kp_alloc (Below.refl _ _) _) _) (Nat.le_refl _) _) (by omega) _⟩
  have HZq0 := Lib.hid hq0
  rw [hq0]
  clear hW3 hq0
  have hb13 : Below W1.heap.size W1 W3 := kp_call DA0.out.b K3.out.2.2
  have H3 := Lib.hid (And.intro (H1.out.1.below hb13 (Nat.le_refl _)) (kp_call H1.out.2 hb13))
  have P := Lib.hid (ddigest_any A n c bs W3 (HR.out.below H3.out.2) hnc hcc hn)
  clear hb13 H1
  go_wp2_with (fail)
  (with_reducible refine P.out.mono ?_)
  clear P
  rintro e W4 hp
  obtain ⟨ds1, iv1, er1, rfl, hda1⟩ := ddigest_abs hp
  have DA1 := Lib.hid hda1
  have DSZ1 := Lib.hid hda1.sz
  have DS11 := Lib.hid hda1.s1
  have DSO1 := Lib.hid hda1.so
  have DIZ1 := Lib.hid hda1.isz
  clear hp hda1
  go_upto_region 6 with (first
    | (refine wpList_store_row rfl _ _ _ rfl W4.heap.size ds1 rfl rfl _ _ (has_alloc (has_new W4 (.cells zD 25)) _) DSZ1.out DS11.out DSO1.out ?_)
    | (refine wpList_store_row rfl _ _ _ rfl (W4.heap.size + 1) iv1 rfl rfl _ _ ((setRow_other _ _ _ _ (by omega)).trans (has_new' (W4.alloc (.cells zD 25)) (.cells imZero 30) _ (by simp))) DA1.out.isz DA1.out.is1 DA1.out.iso ?_))
  refine wp_nm fun W5 hW5 => ?_
  obtain ⟨q1, hq1⟩ : ∃ q1, W4.heap.size = q1 := ⟨_, rfl⟩
  have K5 : Hid (W5.heap[q1]? = some (.cells ds1 25) ∧ W5.heap[q1 + 1]? = some (.cells iv1 30) ∧ Below W4.heap.size W4 W5) := by
    rw [← hW5, ← hq1]
    exact Lib.hid ⟨(setRow_other _ _ _ _ (by omega)).trans (setRow_heap _ _ _ _ _ _ (has_alloc (has_new W4 (.cells zD 25)) _)), setRow_heap _ _ _ _ _ _ ((setRow_other _ _ _ _ (by omega)).trans (has_new' (W4.alloc (.cells zD 25)) (.cells imZero 30) _ (by simp))), below_setRow (below_setRow (kp_alloc (kp_alloc (Below.refl _ _) _) _) (Nat.le_refl _) _) (by omega) _⟩
  have HZq1 := Lib.hid hq1
  rw [hq1]
  clear hW5 hq1
  have hb35 : Below W3.heap.size W3 W5 := kp_call DA1.out.b K5.out.2.2
  have H5 := Lib.hid (And.intro (H3.out.1.below hb35 (Nat.le_refl _)) (And.intro (kp_call H3.out.2 hb35) (And.intro (has_below K3.out.1 hb35) (And.intro (has_below K3.out.2.1 hb35) (And.intro K5.out.1 K5.out.2.1)))))
  have HB35 := Lib.hid hb35
  have P := Lib.hid (mranges_any A1 n c1 bs W5 H5.out.1.rb (HS.out.below' H5.out.2.1) hc1.1 hc1.2)
  clear hb35 H3
  go_wp2_with (fail)
  (with_reducible refine P.out.mono ?_)
  clear P
  rintro e W6 hp
  obtain ⟨L0, m0, d0, er2, rfl, hra0⟩ := ranges_abs hp
  have RA0 := Lib.hid hra0
  have P := Lib.hid (dranges_any A n c bs W6 (HR.out.below (kp_call H5.out.2.1 hra0.b)) hnc hcc (by omega))
  clear hp hra0
  go_wp2_with (fail)
  (with_reducible refine P.out.mono ?_)
  clear P
  rintro e W7 hp
  obtain ⟨L1, m1, d1, er3, rfl, hra1⟩ := ranges_abs hp
  have hb57 : Below W5.heap.size W5 W7 := kp_call RA0.out.b hra1.b
  have RA1 := Lib.hid hra1
  have H7 := Lib.hid (And.intro (H5.out.1.below hb57 (Nat.le_refl _)) (And.intro (kp_call H5.out.2.1 hb57) (And.intro (has_below H5.out.2.2.1 hb57) (And.intro (has_below H5.out.2.2.2.1 hb57) (And.intro (has_below H5.out.2.2.2.2.1 hb57) (has_below H5.out.2.2.2.2.2 hb57))))))
  have HB57 := Lib.hid hb57
  clear hp hra1 hb57 H5
  have hq := HQ9.out
  have her := parse_er hq
  have HQ := Lib.hid hq
  clear hq
  have z0 : er0 = er ∧ ds0 = zD ∧ iv0 = imZero := by
    by_cases h : er0 = 0
    · obtain ⟨_, _, _, _, _, _, _, _, h1, _⟩ := DA0.out.ok h; rw [HQ.out] at h1; cases h1
    · obtain ⟨h1, h2, h3⟩ := DA0.out.no h; rw [HQ.out] at h1; injection h1 with h1; exact ⟨h1.symm, h2, h3⟩
  have z1 : er1 = er ∧ ds1 = zD ∧ iv1 = imZero := by
    by_cases h : er1 = 0
    · obtain ⟨_, _, _, _, _, _, _, _, h1, _⟩ := DA1.out.ok h; rw [HQ.out] at h1; cases h1
    · obtain ⟨h1, h2, h3⟩ := DA1.out.no h; rw [HQ.out] at h1; injection h1 with h1; exact ⟨h1.symm, h2, h3⟩
  have z2 : er2 = er ∧ L0 = none ∧ m0 = 0 ∧ d0 = 0 := by
    by_cases h : er2 = 0
    · obtain ⟨_, h1, _⟩ := RA0.out.ok h; rw [HQ.out] at h1; cases h1
    · obtain ⟨h1, h2⟩ := RA0.out.no h; rw [HQ.out] at h1; injection h1 with h1; exact ⟨h1.symm, h2⟩
  have z3 : er3 = er ∧ L1 = none ∧ m1 = 0 ∧ d1 = 0 := by
    by_cases h : er3 = 0
    · obtain ⟨_, h1, _⟩ := RA1.out.ok h; rw [HQ.out] at h1; cases h1
    · obtain ⟨h1, h2⟩ := RA1.out.no h; rw [HQ.out] at h1; injection h1 with h1; exact ⟨h1.symm, h2⟩
  obtain ⟨rfl, rfl, rfl⟩ := z0
  obtain ⟨rfl, rfl, rfl⟩ := z1
  obtain ⟨rfl, rfl, rfl, rfl⟩ := z2
  obtain ⟨rfl, rfl, rfl, rfl⟩ := z3
  have heq : ∀ W, (Op.equalIn 10000 25 (.agg zD) (.agg zD)).run Tryz.prog W = .ok true W := fun W => dig_same z32 rfl W
  have SM := Lib.hid (same_zero W7)
  clear DA0 DA1 RA0 RA1 HQ
  go_upto_region 10 with (first
    | (refine wpList_load_rowH rfl _ _ rfl q0 rfl _ _ _ _ H7.out.2.2.1 Tryz.underlying25 rfl DSZ0.out ?_)
    | (refine wpList_load_rowH rfl _ _ rfl q1 rfl _ _ _ _ H7.out.2.2.2.2.1 Tryz.underlying25 rfl DSZ1.out ?_)
    | (refine wpList_load_rowH rfl _ _ rfl (q0 + 1) rfl _ _ _ _ H7.out.2.2.2.1 Tryz.underlying30 rfl DIZ0.out ?_)
    | (refine wpList_load_rowH rfl _ _ rfl (q1 + 1) rfl _ _ _ _ H7.out.2.2.2.2.2 Tryz.underlying30 rfl DIZ1.out ?_)
    | (go_at_call 10; (with_reducible refine SM.out.mono ?_); rintro e W8 ⟨rfl, hb8⟩; have H8 := Lib.hid (And.intro (H7.out.1.below hb8 (Nat.le_refl _)) (And.intro (kp_call H7.out.2.1 hb8) hb8)); clear hb8)
    | (go_at_call 11; (with_reducible refine (KPT.out _ H8.out.1 (HR.out.below H8.out.2.1)).mono ?_); rintro e w7 ⟨rfl, rfl⟩))
  go_wp2_with (fail)
  go_loopw [14] (fun vi wl => vi = .int .i64 0 ∧ Hid (Below W8.heap.size W8 wl)) (fun _ _ => 0)
  case atStart => exact ⟨rfl, Lib.hid (Below.refl _ _)⟩
  case round =>
    obtain ⟨rfl, HK⟩ := hrel
    have HEND := Lib.hid (kp_call H8.out.2.1 HK.out)
    go_wp2_with (first
      | (go_at_call 4; (with_reducible refine (works17_any _ (HS.out.below' HEND.out)).mono ?_); rintro e w9 ⟨rfl, hb9⟩; have HB9 := Lib.hid (kp_call HEND.out hb9); clear hb9))
    go_ret
    exact ⟨rfl, HB9.out⟩
end Go.Proofs.YtcedojmhgmgcgaaGreatDoor
