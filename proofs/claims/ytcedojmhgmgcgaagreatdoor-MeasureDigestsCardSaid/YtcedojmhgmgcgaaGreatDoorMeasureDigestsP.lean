/-
  lintellaw17.MeasureDigests: the Go text returns true for every input that the row speaks of, and each argument reads afterwards as it did; conditions: the row's own (the listed variable starts as the text lays it; the card ties it).
-/
import Derived.Test.YtcedojmhgmgcgaaGreatDoorMeM
import Derived.Test.YtcedojmhgmgcgaaGreatDoorMzE
import Derived.StillTailTactics
import Derived.Deep.Cut
import Derived.Great.BuildSlice
import Derived.Test.YtcedojmhgmgcgaaGreatDoorMeY
import Derived.Test.YtcedojmhgmgcgaaGreatDoorMp7
import Derived.Test.YtcedojmhgmgcgaaGreatDoorRoomy
import Derived.Test.YtcedojmhgmgcgaaGreatDoorMeZ
import Derived.Test.YtcedojmhgmgcgaaGreatDoorRows
import Derived.Test.YtcedojmhgmgcgaaGreatDoorCards
import Derived.Test.YtcedojmhgmgcgaaGreatDoorTie
import Derived.WalkKit
import Derived.ProofKit
import Derived.OpenShut
import Derived.ShutString
import Derived.ChangeOld
import Derived.Below
import Derived.LaidMore
import Derived.Stop.Joined
import Derived.SevenTiedAt
import Derived.MakeChecks
namespace Go.Proofs.YtcedojmhgmgcgaaGreatDoor
open Go.RowKit Go
set_option linter.unusedVariables false
set_option linter.unusedSimpArgs false
set_option maxRecDepth 100000
attribute [local go_sem] Oper.semAt_some
/-- WHAT THE ROWS' CONDITION GIVES THE WALKS. -/
theorem of_laid {W : World} (h : laidMetH Tryz.prog Rows.measureDigestsRow.laid W) : Sizes W := by
  rw [MakeChecks.laidMetH_plain _ _ _ (by kernel_rfl)] at h
  have ht : Lib.TabIs Tryz.prog W "lintel/octet.sizes" .i64 sizesZ :=
    Lib.tabIs_of_head (rest := []) g_sizes (show (Tryz.prog.globals[0]?).map (·.type) = some 153 by kernel_rfl) Tryz.underlying153 Tryz.underlying3 (by kernel_rfl) (by kernel_rfl) h
  exact ⟨by have := World.var?_cell g_sizes ht 0; have := World.block_lt_of_cell? W _ (this.trans (show _ = some (.int .i64 1) from rfl)); exact this, ht⟩
set_option maxHeartbeats 32000000 in
theorem digests_ok (A : Option Addr) (n c : Nat) (bs : List UInt8) (w : World) (hR : RB w A n bs) (hT : Sizes w) (hnc : n ≤ c) (hcc : c ≤ 9223372036854775807) (hn : n ≤ 16384) (im : Im) (hq : parseQ bs = .inr im) :
    Calls Tryz.prog 3 #[.slice A n c] w fun e w' => e = .returned (.bool true) ∧ Below w.heap.size w w' := by
  have t1 : decide ((16384 : Int) < (n : Int)) = false := by simp; omega
  have HR := Lib.hid hR
  have HS := Lib.hid hT
  have C := Lib.hid (roomy_any A n c bs w hR (by omega))
  have KPT' : ∀ (A1 : Option Addr) (c1 : Nat) W, Roomed W w.heap.size A1 n c1 bs → RB W A n bs → Calls Tryz.prog 11 #[.slice A1 n c1, .slice A n c] W fun e w' => e = .returned (.bool true) ∧ W = w' :=
    fun A1 c1 W h1 h2 => (kept_any A1 A n n c1 c w.heap.size bs bs W h1 h2 (by omega)).mono fun e w' h => ⟨by rw [h.1]; simp, h.2⟩
  have KPT1 := Lib.hid KPT'
  have HQ9 := Lib.hid hq
  clear hR hT hq
  go_enter Tryz.func3, Tryz.ntmps3
  go_wp2_with (fail)
  (with_reducible refine C.out.mono ?_)
  clear C
  rintro e W1 ⟨A1, c1, rfl, hroom, hb1⟩
  have hcp := hroom.2.cap
  have hc1 : n ≤ c1 ∧ c1 ≤ 9223372036854775807 := by unfold maxLen at hcp; omega
  have P := Lib.hid (digest_any A1 n c1 bs W1 hroom.rb (HS.out.below' hb1) hc1.1 hc1.2)
  have H1 := Lib.hid (And.intro hroom hb1)
  have KPT := Lib.hid (KPT1.out A1 c1)
  clear KPT' KPT1 hroom hb1 hcp
  go_wp2_with (fail)
  (with_reducible refine P.out.mono ?_)
  clear P
  rintro e W2 hp
  obtain ⟨ds0, iv0, er0, rfl, hda0⟩ := digest_abs hp
  have DA0 := Lib.hid hda0
  have DSZ0 := Lib.hid hda0.sz
  have DS10 := Lib.hid hda0.s1
  have DSO0 := Lib.hid hda0.so
  have DIZ0 := Lib.hid hda0.isz
  clear hp hda0
  go_upto_region 5 with (first
    | (refine wpList_store_row rfl _ _ _ rfl W2.heap.size ds0 rfl rfl _ _ (has_alloc (has_new W2 (.cells zD 25)) _) DSZ0.out DS10.out DSO0.out ?_)
    | (refine wpList_store_row rfl _ _ _ rfl (W2.heap.size + 1) iv0 rfl rfl _ _ ((setRow_other _ _ _ _ (by omega)).trans (has_new' (W2.alloc (.cells zD 25)) (.cells imZero 30) _ (by simp))) DA0.out.isz DA0.out.is1 DA0.out.iso ?_))
  refine wp_nm fun W3 hW3 => ?_
  obtain ⟨q0, hq0⟩ : ∃ q0, W2.heap.size = q0 := ⟨_, rfl⟩
  have K3 : Hid (W3.heap[q0]? = some (.cells ds0 25) ∧ W3.heap[q0 + 1]? = some (.cells iv0 30) ∧ Below W2.heap.size W2 W3) := by
    rw [← hW3, ← hq0]
    exact Lib.hid ⟨(setRow_other _ _ _ _ (by omega)).trans (setRow_heap _ _ _ _ _ _ (has_alloc (has_new W2 (.cells zD 25)) _)), setRow_heap _ _ _ _ _ _ ((setRow_other _ _ _ _ (by omega)).trans (has_new' (W2.alloc (.cells zD 25)) (.cells imZero 30) _ (by simp))), below_setRow (below_setRow (kp_alloc (kp_alloc (Below.refl _ _) _) _) (Nat.le_refl _) _) (by omega) _⟩
  have HZq0 := Lib.hid hq0
  rw [hq0]
  clear hW3 hq0
  have hb13 : Below W1.heap.size W1 W3 := kp_call DA0.out.b K3.out.2.2
  have H3 := Lib.hid (And.intro (H1.out.1.below hb13 (Nat.le_refl _)) (kp_call H1.out.2 hb13))
  have P := Lib.hid (ddigest_any A n c bs W3 (HR.out.below H3.out.2) hnc hcc hn)
  clear hb13 H1
  go_wp2_with (fail)
  (with_reducible refine P.out.mono ?_)
  clear P
  rintro e W4 hp
  obtain ⟨ds1, iv1, er1, rfl, hda1⟩ := ddigest_abs hp
  have DA1 := Lib.hid hda1
  have DSZ1 := Lib.hid hda1.sz
  have DS11 := Lib.hid hda1.s1
  have DSO1 := Lib.hid hda1.so
  have DIZ1 := Lib.hid hda1.isz
  clear hp hda1
  go_upto_region 6 with (first
    | (refine wpList_store_row rfl _ _ _ rfl W4.heap.size ds1 rfl rfl _ _ (has_alloc (has_new W4 (.cells zD 25)) _) DSZ1.out DS11.out DSO1.out ?_)
    | (refine wpList_store_row rfl _ _ _ rfl (W4.heap.size + 1) iv1 rfl rfl _ _ ((setRow_other _ _ _ _ (by omega)).trans (has_new' (W4.alloc (.cells zD 25)) (.cells imZero 30) _ (by simp))) DA1.out.isz DA1.out.is1 DA1.out.iso ?_))
  refine wp_nm fun W5 hW5 => ?_
  obtain ⟨q1, hq1⟩ : ∃ q1, W4.heap.size = q1 := ⟨_, rfl⟩
  have K5 : Hid (W5.heap[q1]? = some (.cells ds1 25) ∧ W5.heap[q1 + 1]? = some (.cells iv1 30) ∧ Below W4.heap.size W4 W5) := by
    rw [← hW5, ← hq1]
    exact Lib.hid ⟨(setRow_other _ _ _ _ (by omega)).trans (setRow_heap _ _ _ _ _ _ (has_alloc (has_new W4 (.cells zD 25)) _)), setRow_heap _ _ _ _ _ _ ((setRow_other _ _ _ _ (by omega)).trans (has_new' (W4.alloc (.cells zD 25)) (.cells imZero 30) _ (by simp))), below_setRow (below_setRow (kp_alloc (kp_alloc (Below.refl _ _) _) _) (Nat.le_refl _) _) (by omega) _⟩
  have HZq1 := Lib.hid hq1
  rw [hq1]
  clear hW5 hq1
  have hb35 : Below W3.heap.size W3 W5 := kp_call DA1.out.b K5.out.2.2
  have H5 := Lib.hid (And.intro (H3.out.1.below hb35 (Nat.le_refl _)) (And.intro (kp_call H3.out.2 hb35) (And.intro (has_below K3.out.1 hb35) (And.intro (has_below K3.out.2.1 hb35) (And.intro K5.out.1 K5.out.2.1)))))
  have HB35 := Lib.hid hb35
  have P := Lib.hid (mranges_any A1 n c1 bs W5 H5.out.1.rb (HS.out.below' H5.out.2.1) hc1.1 hc1.2)
  clear hb35 H3
  go_wp2_with (fail)
  (with_reducible refine P.out.mono ?_)
  clear P
  rintro e W6 hp
  obtain ⟨L0, m0, d0, er2, rfl, hra0⟩ := ranges_abs hp
  have RA0 := Lib.hid hra0
  have P := Lib.hid (dranges_any A n c bs W6 (HR.out.below (kp_call H5.out.2.1 hra0.b)) hnc hcc (by omega))
  clear hp hra0
  go_wp2_with (fail)
  (with_reducible refine P.out.mono ?_)
  clear P
  rintro e W7 hp
  obtain ⟨L1, m1, d1, er3, rfl, hra1⟩ := ranges_abs hp
  have hb57 : Below W5.heap.size W5 W7 := kp_call RA0.out.b hra1.b
  have RA1 := Lib.hid hra1
  have H7 := Lib.hid (And.intro (H5.out.1.below hb57 (Nat.le_refl _)) (And.intro (kp_call H5.out.2.1 hb57) (And.intro (has_below H5.out.2.2.1 hb57) (And.intro (has_below H5.out.2.2.2.1 hb57) (And.intro (has_below H5.out.2.2.2.2.1 hb57) (has_below H5.out.2.2.2.2.2 hb57))))))
  have HB57 := Lib.hid hb57
  clear hp hra1 hb57 H5
  have hq := HQ9.out
  have HQ := Lib.hid hq
  have hparts := im_parts bs im hq
  have hfn := (im_fit bs im hq).n
  obtain ⟨a64, a3, a2k, aF⟩ := ranges_facts bs im hq
  obtain ⟨LL, hLL⟩ : ∃ LL, rangesM im bs.length = LL := ⟨_, rfl⟩
  rw [hLL] at a3 a2k
  have z0 : er0 = 0 := by
    by_cases h : er0 = 0
    · exact h
    · have := (DA0.out.no h).1; rw [HQ.out] at this; cases this
  have z1 : er1 = 0 := by
    by_cases h : er1 = 0
    · exact h
    · have := (DA1.out.no h).1; rw [HQ.out] at this; cases this
  have z2 : er2 = 0 := by
    by_cases h : er2 = 0
    · exact h
    · have := (RA0.out.no h).1; rw [HQ.out] at this; cases this
  have z3 : er3 = 0 := by
    by_cases h : er3 = 0
    · exact h
    · have := (RA1.out.no h).1; rw [HQ.out] at this; cases this
  obtain ⟨imy, V, m, cV, U, k, cU, xs, h7, hd0, hiv0, hio0⟩ := DA0.out.ok z0
  obtain rfl : im = imy := by rw [HQ.out] at h7; injection h7
  obtain ⟨imy, V', m', cV', U', k', cU', xs', h7', hd1, hiv1, hio1⟩ := DA1.out.ok z1
  obtain rfl : im = imy := by rw [HQ.out] at h7'; injection h7'
  obtain ⟨imy, h7'', hm0, ho0⟩ := RA0.out.ok z2
  obtain rfl : im = imy := by rw [HQ.out] at h7''; injection h7''
  obtain ⟨imy, h7c, hm1, ho1⟩ := RA1.out.ok z3
  obtain rfl : im = imy := by rw [HQ.out] at h7c; injection h7c
  rw [hLL] at hm0 ho0 hm1 ho1
  have hmm : m1 = m0 := by omega
  subst hmm
  have hdd : ds1 = ds0 := by rw [hd0, hd1]
  have HD0 := Lib.hid hd0
  have hm0' := hm0
  obtain ⟨gl, hgl, _, _⟩ := ho0.shape (by have := ho0.cap.1; omega)
  obtain ⟨gm, hgm, _, _⟩ := ho1.shape (by have := ho1.cap.1; omega)
  have hb17 := RA1.out.b
  have r0 : ImRd im V m cV U k cU xs W7 := (hio0.rd.below (K3.out.2.2)).below (kp_call HB35.out HB57.out)
  have r1 : ImRd im V' m' cV' U' k' cU' xs' W7 := (hio1.rd.below (K5.out.2.2)).below HB57.out
  have hml : m = im.secs.length := hio0.ml
  have hkl : k ≤ 8 := by
    have h1 := hio0.kl
    have h2 := congrArg List.length hio0.bytes
    rw [List.length_map] at h2
    have h3 := hparts.2.2.2.2.2.2.2.2.2.1
    omega
  have SM := Lib.hid (same_im im V m cV U k cU xs V' m' cV' U' k' cU' xs' W7 r0 r1 (by omega) (by omega))
  have HL := Lib.hid (And.intro (ho0.below hb17 (Nat.le_refl _)) ho1)
  have HLN := Lib.hid hm0'
  subst hgl hgm hdd hiv0 hiv1 z0 z1 z2 z3
  have heq : ∀ W, (Op.equalIn 10000 25 (.agg ds1) (.agg ds1)).run Tryz.prog W = .ok true W := fun W => by rw [HD0.out]; exact dig_same _ (dig_ofv _ _) W
  have hm2k : m1 ≤ 2000 := by omega
  have hm3 : 3 ≤ m1 := by omega
  clear DA0 DA1 RA0 RA1 HQ hq hparts a64 aF h7 h7' h7'' h7c hd0 hd1 hio0 hio1 hm0 hm1 ho0 ho1 hm0' hb17 r0 r1 hml hkl hLL a3 a2k
  rw [show ((0 : Nat) : Int) = 0 from rfl]
  go_upto_region 10 with (first
    | (refine wpList_load_rowH rfl _ _ rfl q0 rfl _ _ _ _ H7.out.2.2.1 Tryz.underlying25 rfl DSZ0.out ?_)
    | (refine wpList_load_rowH rfl _ _ rfl q1 rfl _ _ _ _ H7.out.2.2.2.2.1 Tryz.underlying25 rfl DSZ1.out ?_)
    | (refine wpList_load_rowH rfl _ _ rfl (q0 + 1) rfl _ _ _ _ H7.out.2.2.2.1 Tryz.underlying30 rfl DIZ0.out ?_)
    | (refine wpList_load_rowH rfl _ _ rfl (q1 + 1) rfl _ _ _ _ H7.out.2.2.2.2.2 Tryz.underlying30 rfl DIZ1.out ?_)
    | (go_at_call 10; (with_reducible refine SM.out.mono ?_); rintro e W8 ⟨rfl, hb8⟩; have H8 := Lib.hid (And.intro (H7.out.1.below hb8 (Nat.le_refl _)) (And.intro (kp_call H7.out.2.1 hb8) hb8)); clear hb8)
    | (go_at_call 11; (with_reducible refine (KPT.out _ H8.out.1 (HR.out.below H8.out.2.1)).mono ?_); rintro e w7 ⟨rfl, rfl⟩))
  have HL8 := Lib.hid (And.intro (HL.out.1.below H8.out.2.2 (Nat.le_refl _)) (HL.out.2.below H8.out.2.2 (Nat.le_refl _)))
  clear HL
  go_wp2_with (fail)
  go_loopw [14] (fun vi wl => ∃ i : Nat, vi = .int .i64 (i : Int) ∧ i ≤ m1 ∧ Hid (Below W8.heap.size W8 wl)) (fun vi _ => m1 - (intOf vi).toNat)
  case atStart => exact ⟨0, rfl, Nat.zero_le _, Lib.hid (Below.refl _ _)⟩
  case round =>
    obtain ⟨i, rfl, hi, HK⟩ := hrel
    by_cases hlt : i < m1
    · have i1 : decide ((i : Int) < (m1 : Int)) = true := by simp; omega
      have i1n : decide (i < m1) = true := by simp; omega
      have e1 : IntKind.i64.wrap ((i : Int) + 1) = (i : Int) + 1 := IntWalk.i64_in _ (by omega)
      have ii : (i : Int) < (m1 : Int) := by omega
      obtain ⟨x, hx⟩ : ∃ x, LL[i]? = some x := ⟨_, List.getElem?_eq_getElem (by have := HLN.out; omega)⟩
      obtain ⟨s0, s1⟩ := rng_at _ _ _ hx
      have k0 := ownR_at (HL8.out.1.below HK.out (Nat.le_refl _)) s0
      have k1 := ownR_at (HL8.out.1.below HK.out (Nat.le_refl _)) s1
      have j0 := ownR_at (HL8.out.2.below HK.out (Nat.le_refl _)) s0
      have j1 := ownR_at (HL8.out.2.below HK.out (Nat.le_refl _)) s1
      obtain ⟨x1, x2⟩ := x
      dsimp only at k0 k1 j0 j1
      have qq : ∀ W, (Op.equalIn 10000 39 (.agg #[.int .i64 (x1 : Nat), .int .i64 (x2 : Nat)]) (.agg #[.int .i64 (x1 : Nat), .int .i64 (x2 : Nat)])).run Tryz.prog W = .ok true W := fun W => by rw [rng_eq]; simp
      clear hx s0 s1
      go_upto_region 13 with (fail)
      go_quiet (fail)
      have HK2 : Hid (Below W8.heap.size W8 (wr.drewN nq)) := Lib.hid (kp_call HK.out (kp_drewN (Below.refl _ _) nq))
      clear k0 k1 j0 j1 qq
      go_wp2_with (fail)
      go_roundw
      case rel => exact ⟨i + 1, by go_num, by omega, HK2⟩
      case measure => simp [intOf]; omega
    · have i1 : decide ((i : Int) < (m1 : Int)) = false := by simp; omega
      have i1n : decide (i < m1) = false := by simp; omega
      have HEND := Lib.hid (kp_call H8.out.2.1 HK.out)
      go_wp2_with (first
        | (go_at_call 4; (with_reducible refine (works17_any _ (HS.out.below' HEND.out)).mono ?_); rintro e w9 ⟨rfl, hb9⟩; have HB9 := Lib.hid (kp_call HEND.out hb9); clear hb9))
      go_ret
      exact ⟨rfl, HB9.out⟩
theorem digests_row (A : Option Addr) (n c : Nat) (bs : List UInt8) (w : World) (h : IsBs w A n c bs) (hT : Sizes w) :
    Calls Tryz.prog 3 #[.slice A n c] w fun e w' => e = .returned (.bool true) ∧ Below w.heap.size w w' := by
  have hm := h.max
  unfold maxLen at hm
  by_cases hn : n ≤ 16384
  · cases hq : parseQ bs with
    | inl er => exact digests_err A n c bs w h.rb hT h.le (by omega) hn er hq
    | inr im => exact digests_ok A n c bs w h.rb hT h.le (by omega) hn im hq
  · exact digests_big A n c w hT (by omega)
end Go.Proofs.YtcedojmhgmgcgaaGreatDoor
namespace Go.Proofs.YtcedojmhgmgcgaaGreatDoor.measureDigestsRow
open Go.ChangeShapes Go.WideShapes Go.ChangeAt Go.WideElems Go.RowKit Go
open Go.ChangeMaps (open_string shut_string)
set_option linter.unusedVariables false

theorem own : ownKnob Tryz.prog.godebug = none := by kernel_rfl
theorem laidOut : laidOutB Tryz.prog = true := by kernel_rfl
/-- The door's own heap meets the condition. -/
theorem door_met (os : Os) (args : Array Value) : laidMetH Tryz.prog Rows.measureDigestsRow.laid ((World.doorLaid Tryz.prog 400 os).forCall (fun _ _ => 0) ⟨#[], args, []⟩).memory :=
  laidMetH_of_parts3 (fuel := 8) (laidMet_of_run' 8 (by kernel_rfl) (by kernel_rfl)) (by kernel_rfl) (by kernel_rfl)

set_option maxRecDepth 100000 in
theorem lifted (os : Os) (started : os.Started) (H : Type) (enc : TypeId × Value → H) :
    ReturnsInHanded {} Tryz.checked os 3 .any (fun w args => (Rows.measureDigestsSpec.pre enc Tryz.prog Tryz.f3 [] false w args ∧ laidMetH Tryz.prog Rows.measureDigestsRow.laid w) ∧ sizedMet enc Tryz.prog Tryz.f3 (OpenSpec.ofChange Rows.measureDigestsSpec) false w args)
      (Rows.measureDigestsSpec.post enc Tryz.prog Tryz.f3 false true false false) := by
  refine returnsInHanded_of_change_and (C := Tryz.checked) (X := (fun w _ => laidMetH Tryz.prog Rows.measureDigestsRow.laid w)) (fun _ _ _ hh h => h.of_heap hh) own started (by kernel_rfl) Tryz.func3
    (ChangeSpec.witness_shaped (enc := enc) (C := Tryz.checked) (os := os) (X := (fun w _ => laidMetH Tryz.prog Rows.measureDigestsRow.laid w)) false (World.doorLaid Tryz.prog 400 os) #[.slice none 0 0] 8 rfl (World.shaped_of_RefB (by kernel_rfl) (by kernel_rfl)) (by kernel_rfl) (by kernel_rfl) (by kernel_rfl) (door_met os _)) ?_
  intro W base args ds gs before hval0 hW _ hsz0 hL _
  have hval : ∀ (j : Nat) t v, Tryz.f3.params[j]? = some t → args[j]? = some v → Value.okWide Tryz.prog W .any base t v := hval0
  have hW' := hW
  obtain ⟨p, q, hA0, hV, rfl, hfz, hnd⟩ := hW
  have hA : DataW.TrodAll enc Tryz.prog W 0 (fun _ => true) true Tryz.f3.params.toList args.toList ds p := hA0
  rw [Tryz.params3] at hA hval
  obtain ⟨v0, vs0, d0, ds0, p0, q0, hargs, rfl, rfl, h0, r0⟩ := trodAll_cons hA
  obtain ⟨rfl, rfl, rfl⟩ := trodAll_nil r0
  obtain rfl : args = #[v0] := by cases args; simp_all
  obtain ⟨rfl, rfl⟩ := trodVars_none hV
  obtain ⟨A0, n0, c0, rfl⟩ := okWide_slice Tryz.underlying22 (hval 0 22 v0 rfl rfl)
  have k0 := h0
  have lt0 : ∀ x ∈ p0, x.block < W.heap.size := by obtain ⟨m, hm⟩ := k0; exact DataW.trod_lt m _ _ _ hm
  obtain ⟨b0, B0⟩ : ∃ bs, IsBs W A0 n0 c0 bs := by obtain ⟨fuel, hf⟩ := h0; exact open_bs Tryz.underlying22 Tryz.underlying5 (by kernel_rfl) hf
  have hT := of_laid hL
  clear hA0 hval0 hsz0
  refine (digests_row A0 n0 c0 b0 W B0 hT).mono fun e W' ⟨he, bel⟩ => ?_
  subst he
  exact ⟨_, rfl, _, _, _, [], _, [], hW', trodAll_mk1 (shut_bool Tryz.underlying4 _), (trodAll_cons_mk (Below.trod laidOut (by kernel_rfl) (of_decide_eq_true (by kernel_rfl)) k0 bel lt0) trodAll_mk0), rfl, bel.frame _, fun h => by cases h⟩

theorem row_holds : Rows.MeasureDigestsSaid :=
  OpenClaim.holds_of_wide 3 Tryz.f3 rfl rfl rfl rfl rfl rfl rfl ⟨rfl, rfl, rfl, rfl, rfl⟩ rfl rfl rfl rfl rfl (by kernel_rfl) Tryz.func3 (by kernel_rfl)
    (of_decide_eq_true (by kernel_rfl)) (by unfold Func.isWrapper; first | (rw [if_pos (by decide +kernel)]; kernel_rfl) | (rw [if_neg (by decide +kernel)]; exact ⟨rfl, rfl⟩))
    (fun os started H enc _ => lifted os started H enc)

/-- The tied card. -/
theorem card_holds : Rows.MeasureDigestsCardSaid :=
  Claim7.holds_tied_plain_at .later [] [.data] true (true, "483645ea2577aad2a5b5d61201599f4a3f1b2991683cb229a434e62e397a06b8") false
    row_holds (fun _ h => by cases h) (by kernel_rfl) (fun _ h => by cases h) measureDigests_row_tie rfl ⟨rfl, rfl⟩ (by kernel_rfl) rfl
    (fun f fn hf hfn => by
      obtain rfl : f = 3 := Option.some.inj ((show Tryz.prog.funcNamed "lintel/lintellaw17.MeasureDigests" = some 3 by kernel_rfl).symm.trans hf) |>.symm
      obtain rfl : fn = Tryz.f3 := (Option.some.inj (Tryz.func3.symm.trans hfn)).symm
      exact ⟨by kernel_rfl, fun j t ht => by
        rw [Tryz.params3] at ht
        have hm : t ∈ [22] := by have := Array.mem_of_getElem? ht; simp at this ⊢; exact this
        have hall : ([22].all fun u => !Tryz.prog.wantsStandIn u) = true := by kernel_rfl
        exact (show Tryz.prog.wantsStandIn t = false by simpa using List.all_eq_true.1 hall t hm)⟩)
    (by kernel_rfl)
#print axioms card_holds
end Go.Proofs.YtcedojmhgmgcgaaGreatDoor.measureDigestsRow
