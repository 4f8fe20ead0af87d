/-
  mont: Mul.
-/
import Derived.Test.YtcmhacecnahfoaaMe
namespace Go.Proofs.Ytcmhacecnahfoaa
open Go.RowKit Go
set_option linter.unusedVariables false
set_option linter.unusedSimpArgs false
set_option maxRecDepth 100000
/-- The rest of a product, by a modulus. -/
def mmulQ (x y : List Nat) (m : Nat) : List Nat × Nat := if underB x m && underB y m then (num (val x * val y % m), 0) else ([], 1)
theorem under_len {A : Option Addr} {n : Nat} {x : List Nat} {w : World} {m : Nat} (hA : RU w A n x) (h : underB x m = true) : n ≤ limbsN m ∧ val x < m ∧ num (val x) = x ∧ rightB x = true := by
  unfold underB at h
  rw [Bool.and_eq_true, decide_eq_true_iff] at h
  have hn := right_num hA.lim h.1
  have h1 := limbs_le h.2
  rw [hn, hA.len] at h1
  exact ⟨h1, h.2, hn, h.1⟩
/-- A padded number. -/
def PadPost (W : World) (n v : Nat) (e : Ending) (W' : World) : Prop := ∃ G Z, e = .returned (.slice (some ⟨G, 0, none⟩) n n) ∧ BlkU W' G Z ∧ Z.length = n ∧ Lim Z ∧ val Z = v ∧ W.heap.size ≤ G ∧ Below W.heap.size W W'
def RedN (W : World) (m N x y : Nat) (e : Ending) (W' : World) : Prop := ∃ G Z, e = .returned (.slice (some ⟨G, 0, none⟩) N N) ∧ BlkU W' G Z ∧ Z.length = N ∧ Lim Z ∧ Red m (4294967296 ^ N) x y (val Z) ∧ W.heap.size ≤ G ∧ Below W.heap.size W W'
theorem RedPost.n {W W' : World} {m N x y : Nat} {e : Ending} (h : RedPost W m x y e W') (hN : limbsN m = N) : RedN W m N x y e W' := by
  subst hN
  obtain ⟨G, Z, h1, h2, h3, h4, h5, h6, h7⟩ := h
  exact ⟨G, Z, h1, h3, h4, h5, h6, h2, h7⟩
theorem blk_ru {w : World} {G n : Nat} {Z : List Nat} (h : BlkU w G Z) (hl : Z.length = n) (lz : Lim Z) : RU w (some ⟨G, 0, none⟩) n Z := by
  have h9 := h.ru lz 0 n (by omega)
  rw [List.drop_zero, take_all (by omega)] at h9
  exact h9
set_option maxHeartbeats 16000000 in
theorem mmul_any (g m : Nat) (A B : Option Addr) (n c k d : Nat) (x y : List Nat) (w : World) (hM : MD w g m) (hA : RU w A n x) (hB : RU w B k y) (hn : n ≤ 1000) (hk : k ≤ 1000) :
    Calls Try.prog 14 #[.pointer (some ⟨g, 0, none⟩), .slice A n c, .slice B k d] w (NumR w (mmulQ x y m)) := by
  have BX := Lib.hid (below_any g m A n c x w hM hA (by omega))
  have BY := Lib.hid (fun W (h : Below w.heap.size w W) => below_any g m B k d y W (hM.below h) (hB.below h) (by omega))
  have herr : ∀ w', Below w.heap.size w w' → (underB x m && underB y m) = false → NumR w (mmulQ x y m) (.returned (.tuple #[.slice none 0 0, .int .i64 1])) w' := fun w' hb h => by
    unfold mmulQ
    rw [h]
    exact ⟨none, 0, 0, rfl, NumS.nil _ _, Nat.le_refl _, by decide, by decide, hb⟩
  cases hx : underB x m with
  | false =>
    have HE := Lib.hid (fun w' hb => herr w' hb (by rw [hx]; rfl))
    have BX := BX.out
    rw [hx] at BX
    have BX := Lib.hid BX
    clear hM hA hB hx herr BY
    go_enter Try.func14, Try.ntmps14
    go_wp2_with fail
    refine BX.out.mono ?_
    rintro e w1 ⟨rfl, hb⟩
    have HB := Lib.hid hb
    clear hb BX
    go_wp2
    go_ret2
    exact HE.out _ HB.out
  | true =>
    have BX := BX.out
    rw [hx] at BX
    have BX := Lib.hid BX
    cases hy : underB y m with
    | false =>
      have HE := Lib.hid (fun w' hb => herr w' hb (by rw [hx, hy]; rfl))
      have BY := BY.out
      rw [hy] at BY
      have BY := Lib.hid BY
      clear hM hA hB hx hy herr
      go_enter Try.func14, Try.ntmps14
      go_wp2_with fail
      refine BX.out.mono ?_
      rintro e w1 ⟨rfl, hb⟩
      have HB := Lib.hid hb
      clear hb BX
      go_wp2_with fail
      refine (BY.out _ HB.out).mono ?_
      rintro e w2 ⟨rfl, hb⟩
      replace HB := Lib.hid (kp_call HB.out hb)
      clear hb BY
      go_wp2
      go_ret2
      exact HE.out _ HB.out
    | true =>
      have BY := BY.out
      rw [hy] at BY
      have BY := Lib.hid BY
      obtain ⟨x1, x2, x3, x4⟩ := under_len hA hx
      obtain ⟨y1, y2, y3, y4⟩ := under_len hB hy
      have hq : mmulQ x y m = (num (val x * val y % m), 0) := by unfold mmulQ; rw [hx, hy]; rfl
      rw [hq]
      have HM := Lib.hid hM
      have hodd := Lib.hid hM.is.odd
      have h128 := hM.is.len
      obtain ⟨⟨M, nm, cm, Q, k2, d2, hnm, h1, h2, h3, h4, h5, h6⟩, hi⟩ := hM
      have hgw := block_lt h1
      obtain ⟨_, _, cQ⟩ := cells_3 h1
      obtain ⟨N, hN⟩ : ∃ N, limbsN m = N := ⟨_, rfl⟩
      have hRN : nm = N := hnm.trans hN
      have h5' := h5
      rw [hRN] at h5'
      have PX : Hid (∀ W, Below w.heap.size w W → Calls Try.prog 28 #[.pointer (some ⟨g, 0, none⟩), .slice A n c] W (PadPost W N (val x))) := fun W h =>
        (padded_any g m A n c x W (HM.out.below h) (hA.below h) (by omega)).mono fun e W' ⟨Z, he, p1, p2, p3, p4, p5⟩ => ⟨_, Z, by rw [he, hN], p1, by omega, p3, p4, Nat.le_refl _, p5⟩
      have PQ : Hid (∀ W, Below w.heap.size w W → Calls Try.prog 28 #[.pointer (some ⟨g, 0, none⟩), .slice Q k2 d2] W (PadPost W N (4294967296 ^ N * 4294967296 ^ N % m))) := fun W h =>
        (padded_any g m Q k2 d2 _ W (HM.out.below h) (h5'.below h) (by omega)).mono fun e W' ⟨Z, he, p1, p2, p3, p4, p5⟩ => ⟨_, Z, by rw [he, hN], p1, by omega, p3, by rw [p4, val_num], Nat.le_refl _, p5⟩
      have PY : Hid (∀ W, Below w.heap.size w W → Calls Try.prog 28 #[.pointer (some ⟨g, 0, none⟩), .slice B k d] W (PadPost W N (val y))) := fun W h =>
        (padded_any g m B k d y W (HM.out.below h) (hB.below h) (by omega)).mono fun e W' ⟨Z, he, p1, p2, p3, p4, p5⟩ => ⟨_, Z, by rw [he, hN], p1, by omega, p3, p4, Nat.le_refl _, p5⟩
      have RD : Hid (∀ W G1 Z1 G2 Z2, Below w.heap.size w W → BlkU W G1 Z1 → BlkU W G2 Z2 → Z1.length = N → Z2.length = N → Lim Z1 → Lim Z2 → val Z2 < m → Calls Try.prog 27 #[.pointer (some ⟨g, 0, none⟩), .slice (some ⟨G1, 0, none⟩) N N, .slice (some ⟨G2, 0, none⟩) N N] W (RedN W m N (val Z1) (val Z2))) := fun W G1 Z1 G2 Z2 hb b1 b2 l1 l2 i1 i2 hv =>
        (reduced_any g m (some ⟨G1, 0, none⟩) (some ⟨G2, 0, none⟩) N N N Z1 Z2 W (HM.out.below hb) (blk_ru b1 l1 i1) (blk_ru b2 l2 i2) hN.symm hv).mono fun e W' h => h.n hN
      have hm3 := hi.three
      have HNN := Lib.hid hN
      have hN128 : N ≤ 128 := by omega
      have HSQ : Hid (4294967296 ^ N * 4294967296 ^ N % m < m) := Nat.mod_lt _ (by omega)
      have HYL := Lib.hid y2
      have HC := Lib.hid cQ
      clear hA hB hx hy herr hq x1 x2 x3 x4 y1 y2 y3 y4 h1 h2 h3 h4 h5 h5' h6 hi hnm hRN hN cQ h128
      go_enter Try.func14, Try.ntmps14
      go_wp2_with fail
      refine BX.out.mono ?_
      rintro e w1 ⟨rfl, hb⟩
      have HB := Lib.hid hb
      clear hb BX
      go_wp2_with fail
      refine (BY.out _ HB.out).mono ?_
      rintro e w2 ⟨rfl, hb⟩
      have hb2 := kp_call HB.out hb
      have KEEP : Hid (∀ W, Below w.heap.size w W → (W.cell? ⟨g, 2, none⟩ = some (.slice Q k2 d2)) ∧ Below w.heap.size w W) := fun W h => ⟨(h.cell (p := ⟨g, 2, none⟩) hgw).trans HC.out, h⟩
      clear hb BY HB
      go_wp2
      go_region_held3 (fun W => (W.cell? ⟨g, 2, none⟩ = some (.slice Q k2 d2)) ∧ Below w.heap.size w W)
        ((apply KEEP.out; repeat (with_reducible (first | assumption | refine kp_drew ?_ | refine kp_call ?_ (by assumption)))))
        (first
          | (go_at_call 28; (with_reducible refine (PX.out _ (by (go_split_ands; assumption))).mono ?_); (rintro e X1 ⟨G1, Z1, rfl, a1, a2, a3, a4, a5, a6⟩; have A2 := Lib.hid a2; have A3 := Lib.hid a3; have A4 := Lib.hid a4; clear a2 a3 a4 a5))
          | (go_at_call 28; (with_reducible refine (PQ.out _ (by (go_split_ands; assumption))).mono ?_); (rintro e X2 ⟨G2, Z2, rfl, b1, b2, b3, b4, b5, b6⟩; have B2 := Lib.hid b2; have B3 := Lib.hid b3; have B4 := Lib.hid b4; clear b2 b3 b4 b5))
          | (go_at_call 27; (with_reducible refine (RD.out _ G1 Z1 G2 Z2 (by (go_split_ands; assumption)) (by (repeat (with_reducible (first | assumption | refine BlkU.drew ?_ | refine BlkU.below ?_ (by assumption))))) (by (repeat (with_reducible (first | assumption | refine BlkU.drew ?_ | refine BlkU.below ?_ (by assumption))))) A2.out B2.out A3.out B3.out (by rw [B4.out]; exact HSQ.out)).mono ?_); (rintro e X3 ⟨G3, Z3, rfl, r1, r2, r3, r4, r0, r5⟩; have R4 := Lib.hid r4; have R2 := Lib.hid r2; have R3 := Lib.hid r3; have R1 := Lib.hid r1; clear r1 r2 r3 r4 r0)))
      all_goals
        have hb3 : Below w.heap.size w X3 := by go_split_ands; assumption
        have HB3 := Lib.hid hb3
        have hv3 := R4.out
        rw [A4.out, B4.out] at hv3
        have HV3 := Lib.hid (red_to hodd.out hv3)
        clear hb3 hv3 R4 A2 A3 A4 B2 B3 B4
        go_wp2_with fail
        (with_reducible refine (PY.out _ HB3.out).mono ?_)
        rintro e X4 ⟨G4, Z4, rfl, c1, c2, c3, c4, c5, c6⟩
        have HB4 := Lib.hid (kp_call HB3.out c6)
        have C1 := Lib.hid c1
        have C2 := Lib.hid c2
        have C3 := Lib.hid c3
        have C4 := Lib.hid c4
        have R1' := Lib.hid (R1.out.below c6)
        clear c1 c2 c3 c4 c5 c6 R1
        go_wp2_with fail
        (with_reducible refine (RD.out _ G3 Z3 G4 Z4 HB4.out R1'.out C1.out R2.out C2.out R3.out C3.out (by rw [C4.out]; exact HYL.out)).mono ?_)
        rintro e X5 ⟨G5, Z5, rfl, q1, q2, q3, q4, q0, q5⟩
        have HB5 := Lib.hid (kp_call HB4.out q5)
        rw [HV3.out, C4.out] at q4
        have hv5 := red_from hodd.out q4
        have htk := trim_num Z5 q3 N (by omega)
        rw [show Z5.take N = Z5 from take_all (by omega), hv5] at htk
        have htl := trimN_le Z5 N
        have TR := mtrim_any G5 N Z5 X5 q1 q2 (by omega)
        obtain ⟨t, ht⟩ : ∃ t, trimN Z5 N = t := ⟨_, rfl⟩
        rw [ht] at TR htk htl
        have hG5 : w.heap.size ≤ G5 := by have := HB4.out.size; omega
        have TR := Lib.hid TR
        have HF : Hid (NumS X5 w.heap.size (some ⟨G5, 0, none⟩) t (num (val x * val y % m))) := NumS.of q1 hG5 q3 (by omega) htk
        clear q1 q2 q3 q4 q0 q5 hv5 htk ht R1' C1 C2 C3 C4
        go_wp2_with fail
        refine TR.out.mono ?_
        rintro e w' ⟨rfl, rfl⟩
        go_wp2
        go_ret2
        exact ⟨_, t, N, rfl, HF.out, htl, by omega, by omega, HB5.out⟩
end Go.Proofs.Ytcmhacecnahfoaa
