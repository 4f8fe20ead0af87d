/-
  option: the document's answer of Read.
-/
import Derived.Test.YtokklcfdfjgbjaaDoorOpM
import Derived.Test.YtokklcfdfjgbjaaDoorOctG2
import Derived.Test.YtokklcfdfjgbjaaDoorOpK
namespace Go.Proofs.YtokklcfdfjgbjaaDoor
open Go.RowKit Go
set_option linter.unusedVariables false
set_option maxRecDepth 100000
theorem cut_end (bs : List UInt8) (k : Nat) : cut bs k (bs.length - k) = bs.drop k := by unfold cut; rw [List.take_of_length_le (by rw [List.length_drop]; exact Nat.le_refl _)]
theorem cut_two_more {bs : List UInt8} {k : Nat} {p q : UInt8} (hk : 6 ≤ k) (hp : bs[k]? = some p) (hq : bs[k + 1]? = some q) : cut bs 6 (k - 6) ++ [p, q] = cut bs 6 (k + 2 - 6) := by
  have hd := drop_two hp hq
  unfold cut
  rw [show k + 2 - 6 = (k - 6) + 2 by omega, List.take_add, List.drop_drop, show 6 + (k - 6) = k by omega, hd]
  rfl
set_option maxHeartbeats 32000000 in
theorem refRead_4 (A : Option Addr) (n c : Nat) (bs : List UInt8) (w : World) (hR : RB w A n bs) (hc : n ≤ c) (hc2 : c ≤ 9223372036854775807) (hn : n ≤ 1000000) (hn4 : n < 4) :
    Calls Tryd.prog 19 #[.slice A n c] w (ReadPost w bs) := by
  have HLEN := Lib.hid hR.1
  have CE := cut_end bs
  rw [hR.1] at CE
  have HCE := Lib.hid CE
  clear CE
  have GN : Hid (∀ W (a k : Nat), RB W A n bs → isSz k = true → a ≤ 4 → k ≤ 8 → n < a + k → Calls Tryd.prog 29 #[.slice A n c, .int .i64 (a : Nat), .int .i64 (k : Nat)] W fun e w' => e = .returned (.tuple #[.int .u64 0, .int .i64 1]) ∧ Below W.heap.size W w') := fun W a k hr hk ha h8 hno => by
    have hk0 : 0 < k := by simp [isSz] at hk; omega
    exact refGet_not A n c bs a k W hr hc hc2 (by omega) (by omega) (by omega) (by omega) (by omega) (.inr (by simp [inB]; omega))
  have GO : Hid (∀ W (a k : Nat), RB W A n bs → isSz k = true → a + k ≤ n → Calls Tryd.prog 29 #[.slice A n c, .int .i64 (a : Nat), .int .i64 (k : Nat)] W fun e w' => e = .returned (.tuple #[.int .u64 (leN (cut bs a k) : Nat), .int .i64 0]) ∧ Below W.heap.size W w') := fun W a k hr hk hno => refGet_ok A n c bs a k W hr hc hc2 hk hno
  have hq : readQ bs = none := by unfold readQ; rw [if_pos (by rw [HLEN.out]; omega)]
  go_enter Tryd.func19, Tryd.ntmps19
  go_wp2_with fail
  refine calls_named fun w0 hw0 => ?_
  have hbw0 : Below w.heap.size w w0 := below_named hw0 ((Below.refl _ _).alloc (Nat.le_refl _) _)
  have k0 := heap_named hw0 (heap_alloc_new w _)
  have hs0 := hbw0.size
  clear hw0
  refine (GN.out w0 0 4 (hR.below hbw0) rfl (by omega) (by omega) (by omega)).mono ?_
  intro e w1 hw1
  obtain ⟨rfl, hb1⟩ := hw1
  have hbw1 := hbw0.trans (hb1.mono hs0)
  have hs1 := hbw1.size
  have k1 := (hb1.block _ (heap_lt k0)).trans k0
  clear hb1 k0 hbw0 hs0
  go_wp2_with fail
  refine (GN.out w1 4 2 (hR.below hbw1) rfl (by omega) (by omega) (by omega)).mono ?_
  intro e w2 hw2
  obtain ⟨rfl, hb2⟩ := hw2
  have hbw2 := hbw1.trans (hb2.mono hs1)
  have hs2 := hbw2.size
  have k2 := (hb2.block _ (heap_lt k1)).trans k1
  clear hb2 k1 hbw1 hs1
  obtain ⟨a0, a1, a2, a3⟩ := cells4 k2
  obtain ⟨f0, f1, f2, f3⟩ := free4 k2
  have HF := Lib.hid (read_none (w := w) hq (below4 (v0 := .int .u32 0) (v1 := .string ByteArray.empty) (v2 := .slice none 0 0) (v3 := .slice none 0 0) hbw2 (Nat.le_refl _)))
  have HZ := Lib.hid k2
  clear hq k2 hbw2
  go_wp2
  refine bodyPost_ret (results_op rfl _ _ rfl (set4 HZ.out)) rfl ?_
  exact HF.out
set_option maxHeartbeats 32000000 in
theorem refRead_6 (A : Option Addr) (n c : Nat) (bs : List UInt8) (w : World) (hR : RB w A n bs) (hc : n ≤ c) (hc2 : c ≤ 9223372036854775807) (hn : n ≤ 1000000) (hn4 : ¬ n < 4) (hn6 : n < 6) :
    Calls Tryd.prog 19 #[.slice A n c] w (ReadPost w bs) := by
  have HLEN := Lib.hid hR.1
  have CE := cut_end bs
  rw [hR.1] at CE
  have HCE := Lib.hid CE
  clear CE
  have GN : Hid (∀ W (a k : Nat), RB W A n bs → isSz k = true → a ≤ 4 → k ≤ 8 → n < a + k → Calls Tryd.prog 29 #[.slice A n c, .int .i64 (a : Nat), .int .i64 (k : Nat)] W fun e w' => e = .returned (.tuple #[.int .u64 0, .int .i64 1]) ∧ Below W.heap.size W w') := fun W a k hr hk ha h8 hno => by
    have hk0 : 0 < k := by simp [isSz] at hk; omega
    exact refGet_not A n c bs a k W hr hc hc2 (by omega) (by omega) (by omega) (by omega) (by omega) (.inr (by simp [inB]; omega))
  have GO : Hid (∀ W (a k : Nat), RB W A n bs → isSz k = true → a + k ≤ n → Calls Tryd.prog 29 #[.slice A n c, .int .i64 (a : Nat), .int .i64 (k : Nat)] W fun e w' => e = .returned (.tuple #[.int .u64 (leN (cut bs a k) : Nat), .int .i64 0]) ∧ Below W.heap.size W w') := fun W a k hr hk hno => refGet_ok A n c bs a k W hr hc hc2 hk hno
  have hq : readQ bs = none := by unfold readQ; rw [if_pos (by rw [HLEN.out]; omega)]
  go_enter Tryd.func19, Tryd.ntmps19
  go_wp2_with fail
  refine calls_named fun w0 hw0 => ?_
  have hbw0 : Below w.heap.size w w0 := below_named hw0 ((Below.refl _ _).alloc (Nat.le_refl _) _)
  have k0 := heap_named hw0 (heap_alloc_new w _)
  have hs0 := hbw0.size
  clear hw0
  refine (GO.out w0 0 4 (hR.below hbw0) rfl (by omega)).mono ?_
  intro e w1 hw1
  obtain ⟨rfl, hb1⟩ := hw1
  have hbw1 := hbw0.trans (hb1.mono hs0)
  have hs1 := hbw1.size
  have k1 := (hb1.block _ (heap_lt k0)).trans k0
  clear hb1 k0 hbw0 hs0
  go_wp2_with fail
  refine (GN.out w1 4 2 (hR.below hbw1) rfl (by omega) (by omega) (by omega)).mono ?_
  intro e w2 hw2
  obtain ⟨rfl, hb2⟩ := hw2
  have hbw2 := hbw1.trans (hb2.mono hs1)
  have hs2 := hbw2.size
  have k2 := (hb2.block _ (heap_lt k1)).trans k1
  clear hb2 k1 hbw1 hs1
  obtain ⟨a0, a1, a2, a3⟩ := cells4 k2
  obtain ⟨f0, f1, f2, f3⟩ := free4 k2
  have HF := Lib.hid (read_none (w := w) hq (below4 (v0 := .int .u32 0) (v1 := .string ByteArray.empty) (v2 := .slice none 0 0) (v3 := .slice none 0 0) hbw2 (Nat.le_refl _)))
  have HZ := Lib.hid k2
  clear hq k2 hbw2
  go_wp2
  refine bodyPost_ret (results_op rfl _ _ rfl (set4 HZ.out)) rfl ?_
  exact HF.out
set_option maxHeartbeats 32000000 in
theorem refRead_none (A : Option Addr) (n c : Nat) (bs : List UInt8) (w : World) (hR : RB w A n bs) (hc : n ≤ c) (hc2 : c ≤ 9223372036854775807) (hn : n ≤ 1000000) (hn6 : ¬ n < 6) (hw0 : scan (bs.drop 6) = none) :
    Calls Tryd.prog 19 #[.slice A n c] w (ReadPost w bs) := by
  have HLEN := Lib.hid hR.1
  have CE := cut_end bs
  rw [hR.1] at CE
  have HCE := Lib.hid CE
  clear CE
  have GN : Hid (∀ W (a k : Nat), RB W A n bs → isSz k = true → a ≤ 4 → k ≤ 8 → n < a + k → Calls Tryd.prog 29 #[.slice A n c, .int .i64 (a : Nat), .int .i64 (k : Nat)] W fun e w' => e = .returned (.tuple #[.int .u64 0, .int .i64 1]) ∧ Below W.heap.size W w') := fun W a k hr hk ha h8 hno => by
    have hk0 : 0 < k := by simp [isSz] at hk; omega
    exact refGet_not A n c bs a k W hr hc hc2 (by omega) (by omega) (by omega) (by omega) (by omega) (.inr (by simp [inB]; omega))
  have GO : Hid (∀ W (a k : Nat), RB W A n bs → isSz k = true → a + k ≤ n → Calls Tryd.prog 29 #[.slice A n c, .int .i64 (a : Nat), .int .i64 (k : Nat)] W fun e w' => e = .returned (.tuple #[.int .u64 (leN (cut bs a k) : Nat), .int .i64 0]) ∧ Below W.heap.size W w') := fun W a k hr hk hno => refGet_ok A n c bs a k W hr hc hc2 hk hno
  have hq6 : readQ bs = (match scan (bs.drop 6) with | none => none | some wl => match narrowS wl with | none => none | some l => if 6 + wl.length + 2 + leN (cut bs 4 2) ≤ bs.length then some (leN (cut bs 0 4), l, cut bs (6 + wl.length + 2) (leN (cut bs 4 2)), bs.drop (6 + wl.length + 2 + leN (cut bs 4 2))) else none) := by unfold readQ; rw [if_neg (by rw [HLEN.out]; omega)]; rfl
  rw [HLEN.out] at hq6
  have hm : leN (cut bs 4 2) < 65536 := by
    have := leN_lt (cut bs 4 2)
    rw [cut_len _ _ _ (by rw [HLEN.out]; omega)] at this
    exact this
  have ha : leN (cut bs 0 4) < 4294967296 := by
    have := leN_lt (cut bs 0 4)
    rw [cut_len _ _ _ (by rw [HLEN.out]; omega)] at this
    exact this
  have G4 := fun W hr => GO.out W 0 4 hr rfl (by omega)
  have G2 := fun W hr => GO.out W 4 2 hr rfl (by omega)
  generalize leN (cut bs 0 4) = av at hq6 ha G4
  generalize leN (cut bs 4 2) = mv at hq6 hm G2
  have HQ6 := Lib.hid hq6
  have HG4 := Lib.hid G4
  have HG2 := Lib.hid G2
  have HW := Lib.hid hw0
  clear hq6 GO GN G4 G2 hw0
  go_enter Tryd.func19, Tryd.ntmps19
  go_wp2_with fail
  refine calls_named fun w0 hw0 => ?_
  have hbw0 : Below w.heap.size w w0 := below_named hw0 ((Below.refl _ _).alloc (Nat.le_refl _) _)
  have k0 := heap_named hw0 (heap_alloc_new w _)
  have hs0 := hbw0.size
  clear hw0
  refine (HG4.out w0 (hR.below hbw0)).mono ?_
  intro e w1 hw1
  obtain ⟨rfl, hb1⟩ := hw1
  have hbw1 := hbw0.trans (hb1.mono hs0)
  have hs1 := hbw1.size
  have k1 := (hb1.block _ (heap_lt k0)).trans k0
  clear hb1 k0 hbw0 hs0
  go_wp2_with fail
  refine (HG2.out w1 (hR.below hbw1)).mono ?_
  intro e w2 hw2
  obtain ⟨rfl, hb2⟩ := hw2
  have hbw2 := hbw1.trans (hb2.mono hs1)
  have hs2 := hbw2.size
  have k2 := (hb2.block _ (heap_lt k1)).trans k1
  clear hb2 k1 hbw1 hs1
  have hR2 := hR.below hbw2
  have HK := Lib.hid k2
  have HB := Lib.hid hbw2
  clear k2 hbw2 hs2
  go_wp2
  go_loop [8] (fun x => ∃ k : Nat, 6 ≤ k ∧ k ≤ n ∧ x = .int .i64 k ∧ Hid (scan (bs.drop 6) = (scan (bs.drop k)).map (cut bs 6 (k - 6) ++ ·))) (fun x => n - (intOf x).toNat)
  case atStart => exact ⟨6, Nat.le_refl _, by omega, rfl, by simp [Hid, cut]⟩
  case round =>
    obtain ⟨k, hk6, hkn, rfl, hsc⟩ := hrel
    by_cases hin : k + 1 < n
    · obtain ⟨b, off, p, rfl, hblt, hp, hcp⟩ := hR2.at_ (k := k) (by omega)
      obtain ⟨b', off', q, hA', hblt', hq, hcq⟩ := hR2.at_ (k := k + 1) (by omega)
      injection hA' with hA'
      injection hA' with hA1 hA2
      subst hA1 hA2
      have hdrop := drop_two hp hq
      have hmore := cut_two_more hk6 hp hq
      have hs := hsc.out
      rw [hdrop] at hs
      have HS := Lib.hid hs
      have HM := Lib.hid hmore
      have hpb := p.toNat_lt
      have hqb := q.toNat_lt
      rw [← Nat.add_assoc] at hcq
      have hcq2 := hcq
      rw [Nat.add_assoc] at hcq2
      clear hdrop hmore hs hp hq hsc
      have hcs : (p.toNat = 0 ∧ q.toNat = 0) ∨ (p.toNat = 0 ∧ q.toNat ≠ 0) ∨ p.toNat ≠ 0 := by omega
      rcases hcs with ⟨hp0, hq0⟩ | ⟨hp0, hq0⟩ | hp0
      · exfalso
        have hscan : scan (bs.drop 6) = some (cut bs 6 (k - 6)) := by
          rw [HS.out]
          unfold scan
          rw [if_pos ⟨hp0, hq0⟩]
          simp
        exact absurd (HW.out.symm.trans hscan) (by simp)
      · have d0 : ((p.toNat : Int) == 0) = true := beq_iff_eq.2 (by omega)
        have d1 : ((q.toNat : Int) == 0) = false := beq_eq_false_iff_ne.2 (by omega)
        have hscan : scan (bs.drop 6) = (scan (bs.drop (k + 2))).map (cut bs 6 (k + 2 - 6) ++ ·) := by
          rw [HS.out, ← HM.out]
          conv => lhs; unfold scan
          rw [if_neg (by omega), Option.map_map]
          congr 1
          funext z
          simp
        have HSN := Lib.hid hscan
        clear hscan
        go_wp2
        go_round
        case rel => exact ⟨k + 2, by omega, by omega, by go_num, HSN⟩
        case measure => simp [intOf]; omega
      · have d0 : ((p.toNat : Int) == 0) = false := beq_eq_false_iff_ne.2 (by omega)
        have hscan : scan (bs.drop 6) = (scan (bs.drop (k + 2))).map (cut bs 6 (k + 2 - 6) ++ ·) := by
          rw [HS.out, ← HM.out]
          conv => lhs; unfold scan
          rw [if_neg (by omega), Option.map_map]
          congr 1
          funext z
          simp
        have HSN := Lib.hid hscan
        clear hscan
        go_wp2
        go_round
        case rel => exact ⟨k + 2, by omega, by omega, by go_num, HSN⟩
        case measure => simp [intOf]; omega
    · have hsn : scan (bs.drop 6) = none := by
        rw [hsc.out, scan_end (by rw [List.length_drop, HLEN.out]; omega)]; rfl
      have hq : readQ bs = none := by rw [HQ6.out, hsn]
      have k2 := HK.out
      have hbw2 := HB.out
      clear hsn hsc
      obtain ⟨a0, a1, a2, a3⟩ := cells4 k2
      obtain ⟨f0, f1, f2, f3⟩ := free4 k2
      have HF := Lib.hid (read_none (w := w) hq (below4 (v0 := .int .u32 0) (v1 := .string ByteArray.empty) (v2 := .slice none 0 0) (v3 := .slice none 0 0) hbw2 (Nat.le_refl _)))
      have HZ := Lib.hid k2
      clear hq k2 hbw2
      go_wp2
      refine bodyPost_ret (results_op rfl _ _ rfl (set4 HZ.out)) rfl ?_
      exact HF.out
end Go.Proofs.YtokklcfdfjgbjaaDoor
