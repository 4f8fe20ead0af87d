/-
  measure: the document's hashed bytes and its digest.
-/
import Derived.Test.YtcedojmhgmgcgaaGreatDoorMeM
import Derived.Test.YtcedojmhgmgcgaaGreatDoorMzE
import Derived.StillTailTactics
import Derived.Deep.Cut
import Derived.Great.BuildSlice
import Derived.Test.YtcedojmhgmgcgaaGreatDoorMeX
import Derived.Test.YtcedojmhgmgcgaaGreatDoorMs6
import Derived.Deep.RegionWith
import Derived.Deep.RegionHeld
namespace Go.Proofs.YtcedojmhgmgcgaaGreatDoor
open Go.RowKit Go
set_option linter.unusedVariables false
set_option linter.unusedSimpArgs false
set_option maxRecDepth 100000
attribute [local go_sem] Oper.semAt_some
set_option maxHeartbeats 8000000 in
theorem dhashed_any (ba oa n c : Nat) (bs : List UInt8) (gl m d base : Nat) (L : List (Nat × Nat)) (w : World) (hR : RB w (some ⟨ba, oa, none⟩) n bs) (hO : OwnR w base 39 2 (some ⟨gl, 0, none⟩) m d (L.flatMap rngCells)) (hlen : L.length = m) (hm : m ≤ 2000) (hF : ∀ (i : Nat) (x : Nat × Nat), L[i]? = some x → x.1 ≤ x.2 ∧ x.2 ≤ n) (hnc : n ≤ c) (hcc : c ≤ 9223372036854775807) (hn : n ≤ 16384) :
    Calls Tryz.prog 22 #[.slice (some ⟨ba, oa, none⟩) n c, .slice (some ⟨gl, 0, none⟩) m d] w fun e w' => ∃ (A' : Option Addr) (n' c' : Nat), e = .returned (.slice A' n' c') ∧ OwnB w' w.heap.size A' n' c' (hashedL bs L) ∧ Below w.heap.size w w' := by
  have HRB := Lib.hid hR
  have HRL := Lib.hid hO
  have HF := Lib.hid hF
  have HLen := Lib.hid hlen
  clear hR hO hF hlen
  go_enter Tryz.func22, Tryz.ntmps22
  go_wp2_with (fail)
  go_loopw [5, 6] (fun vp vi wl => ∃ (i np cp : Nat) (Ap : Option Addr), vp = .slice Ap np cp ∧ vi = .int .i64 (i : Int) ∧ i ≤ m ∧ np ≤ 16384 * i ∧ Hid (OwnB wl w.heap.size Ap np cp (hashedL bs (L.take i)) ∧ Below w.heap.size w wl)) (fun _ vi _ => m - (intOf vi).toNat)
  case atStart => exact ⟨0, 0, 0, none, rfl, rfl, Nat.zero_le _, Nat.zero_le _, Lib.hid ⟨OwnB.nil _ _, Below.refl _ _⟩⟩
  case round =>
    obtain ⟨i, np, cp, Ap, rfl, rfl, hi, hnp, HK⟩ := hrel
    by_cases hlt : i < m
    · have i1 : decide ((i : Int) < (m : Int)) = true := by simp; omega
      have i1n : decide (i < m) = true := by simp; omega
      have e1 : IntKind.i64.wrap ((i : Int) + 1) = (i : Int) + 1 := IntWalk.i64_in _ (by omega)
      obtain ⟨x, hx⟩ : ∃ x, L[i]? = some x := ⟨_, List.getElem?_eq_getElem (by have := HLen.out; omega)⟩
      obtain ⟨s0, s1⟩ := rng_at _ _ _ hx
      have hrl := (HRL.out.below HK.out.2 (Nat.le_refl _))
      have k0 := ownR_at hrl s0
      have k1 := ownR_at hrl s1
      obtain ⟨f1, f2⟩ := HF.out i x hx
      have HN := Lib.hid (hashed_take bs _ i x hx)
      obtain ⟨lo, hi9⟩ := x
      dsimp only at k0 k1 f1 f2
      obtain ⟨SA, hSA⟩ : ∃ SA : Option Addr, (if c = lo then some (⟨ba, oa, none⟩ : Addr) else some ⟨ba, oa + lo, none⟩) = SA := ⟨_, rfl⟩
      have hRF := rb_seg (HRB.out.below HK.out.2) hnc f1 f2
      rw [hSA] at hRF
      obtain ⟨mm, hmm⟩ : ∃ mm, hi9 - lo = mm := ⟨_, rfl⟩
      have HRF : Hid (RB wr SA mm (seg bs (lo, hi9))) := by rw [← hmm]; exact Lib.hid hRF
      have hmml : mm ≤ 16384 := by omega
      have HMM := Lib.hid hmm
      have i3 : (0 : Int) ≤ (lo : Int) := by omega
      have i4 : (lo : Int) ≤ (hi9 : Int) := by omega
      have i5 : (hi9 : Int) ≤ (c : Int) := by omega
      have i6 : (lo : Int) ≤ (c : Int) := by omega
      have hisz : i ≤ 2000 := by omega
      clear hrl s0 s1 hRF hx
      go_upto_region 5 with (fail)
      refine wp_region_still_tail 13 (by kernel_rfl) (by kernel_rfl) ?_
      simp only [List.take_succ_cons, List.take_zero, List.drop_succ_cons, List.drop_zero]
      iterate 13 ((with_reducible refine wpStill_step (fun K hK => ?_)); go_simp; (with_reducible refine hK _ ?_); clear hK K)
      with_reducible refine wpStill_nil ?_
      change wpList _ _ _ _ _ wr.drew
      try rw [hmm]
      clear hmm hSA
      go_wp2_with (at_builtin; refine wpList_apn _ _ rfl rfl rfl w.heap.size Ap np cp _ rfl (HK.out.1.drew) SA mm _ _ rfl HRF.out.drew (by omega) (by have := HK.out.2.size; exact this) ?_; intro A' c' w' ho' hg'; have HO' := Lib.hid ho'; have HB' := Lib.hid (show Below w.heap.size w w' from (HK.out.2.drew).grown hg' (by have := HK.out.2.size; exact this) (fun k hk => (HK.out.1.blk_lt hk).1)); clear ho' hg')
      go_roundw
      case rel => exact ⟨i + 1, np + mm, c', A', rfl, by go_num, by omega, by omega, Lib.hid ⟨by rw [HN.out]; exact HO'.out, HB'.out⟩⟩
      case measure => simp [intOf]; omega
    · have i1 : decide ((i : Int) < (m : Int)) = false := by simp; omega
      have i1n : decide (i < m) = false := by simp; omega
      obtain rfl : i = m := by omega
      have htk : L.take i = L := by rw [← HLen.out, List.take_length]
      rw [htk] at HK
      clear htk i1 hlt hi
      clear HRB HRL HF HLen
      go_wp2_with (fail)
      go_ret
      exact ⟨Ap, np, cp, rfl, HK.out.1, HK.out.2⟩
theorem ImOr.frame {w w' : World} {base : Nat} {im : Im} {V : Option Addr} {m cV : Nat} {U : Option Addr} {k cU : Nat} {xs : List Own1} (h : ImOr base im V m cV U k cU xs w) (hf : ∀ q, base ≤ q → q < w.heap.size → w'.heap[q]? = w.heap[q]?) : ImOr base im V m cV U k cU xs w' :=
  ⟨h.ml, h.secs.frame hf, h.kl, h.bytes, h.sigs.frame hf, fun x hx => (h.own x hx).frame hf⟩
/-- What the document's Digest tells. -/
def DDigestP (w : World) (bs : List UInt8) (e : Ending) (w' : World) : Prop :=
  (match parseQ bs with
    | .inl er => e = .returned (.tuple #[.agg zD, .agg imZero, .int .i64 (er : Nat)])
    | .inr im => ∃ (V : Option Addr) (m cV : Nat) (U : Option Addr) (k cU : Nat) (xs : List Own1), e = .returned (.tuple #[.agg ((digQ bs im).map v8).toArray, .agg (imVal im V m cV U k cU), .int .i64 0]) ∧ ImOr w.heap.size im V m cV U k cU xs w') ∧ Below w.heap.size w w'
set_option maxHeartbeats 4000000 in
theorem ddigest_no (A : Option Addr) (n c : Nat) (bs : List UInt8) (w : World) (hR : RB w A n bs) (hnc : n ≤ c) (hcc : c ≤ 9223372036854775807) (hn : n ≤ 16384) (er : Nat) (hq : parseQ bs = .inl er) :
    Calls Tryz.prog 7 #[.slice A n c] w fun e w' => e = .returned (.tuple #[.agg zD, .agg imZero, .int .i64 (er : Nat)]) ∧ Below w.heap.size w w' := by
  have her := parse_er hq
  have HQ := Lib.hid hq
  have t1 : ((er : Int) != 0) = true := by simp; omega
  go_enter Tryz.func7, Tryz.ntmps7
  go_upto_region 1 with (fail)
  refine wp_nm fun W0 hW0 => ?_
  obtain ⟨g, hg⟩ : ∃ g, w.heap.size = g := ⟨_, rfl⟩
  have k2 : W0.heap[g]? = some (.cells zD 25) := by rw [← hW0, ← hg]; exact has_alloc (has_new w _) _
  have k3 : W0.heap[g + 1]? = some (.cells imZero 30) := by rw [← hW0]; exact has_new' _ _ _ (by simp [hg])
  have hb0 : Below w.heap.size w W0 := by rw [← hW0]; exact kp_alloc (kp_alloc (Below.refl _ _) _) _
  have C := Lib.hid (dranges_any A n c bs W0 (hR.below hb0) hnc hcc (by omega))
  have H0 := Lib.hid (And.intro k2 (And.intro k3 hb0))
  have HGW := Lib.hid hg
  rw [hg]
  clear hW0 k2 k3 hb0 hR hq hg
  go_wp2_with (fail)
  (with_reducible refine C.out.mono ?_)
  clear C
  rintro e w1 hp
  unfold RangesP at hp
  rw [HQ.out] at hp
  obtain ⟨rfl, hb1⟩ := hp
  have H1 := Lib.hid (And.intro (has_below H0.out.1 hb1) (And.intro (has_below H0.out.2.1 hb1) (kp_call H0.out.2.2 hb1)))
  clear hb1 H0
  go_wp2_with (first
    | (refine wpList_buildTo rfl 25 _ rfl _ rfl zD (by kernel_rfl) ?_)
    | (refine wpList_buildTo rfl 30 _ rfl _ rfl imZero (by kernel_rfl) ?_)
    | (refine wpList_store_row rfl _ _ _ rfl g zD rfl rfl _ _ H1.out.1 zD_size rfl zD_one ?_)
    | (refine wpList_store_row rfl _ _ _ rfl (g + 1) imZero rfl rfl _ _ ((setRow_other _ _ _ _ (by omega)).trans H1.out.2.1) (by kernel_rfl) rfl (by simp [imZero, Value.oneCell']) ?_))
  have q1 : ((w1.setRow g zD).setRow (g + 1) imZero).heap[g]? = some (.cells zD 25) := (setRow_other _ _ _ _ (by omega)).trans (setRow_heap _ _ _ _ _ _ H1.out.1)
  have q2 : ((w1.setRow g zD).setRow (g + 1) imZero).heap[g + 1]? = some (.cells imZero 30) := setRow_heap _ _ _ _ _ _ ((setRow_other _ _ _ _ (by omega)).trans H1.out.2.1)
  refine bodyPost_ret (results_cct Tryz.results7 _ (LV.agg q1 Tryz.underlying25 rfl zD_size) (LV.agg q2 Tryz.underlying30 rfl (by kernel_rfl))) rfl ?_
  exact ⟨rfl, below_setRow (below_setRow H1.out.2.2 (by have := HGW.out; omega) _) (by have := HGW.out; omega) _⟩
set_option maxHeartbeats 8000000 in
theorem ddigest_yes (A : Option Addr) (n c : Nat) (bs : List UInt8) (w : World) (hR : RB w A n bs) (hnc : n ≤ c) (hcc : c ≤ 9223372036854775807) (hn : n ≤ 16384) (im : Im) (hq : parseQ bs = .inr im) :
    Calls Tryz.prog 7 #[.slice A n c] w fun e w' => (∃ (V : Option Addr) (m cV : Nat) (U : Option Addr) (k cU : Nat) (xs : List Own1), e = .returned (.tuple #[.agg ((digQ bs im).map v8).toArray, .agg (imVal im V m cV U k cU), .int .i64 0]) ∧ ImOr w.heap.size im V m cV U k cU xs w') ∧ Below w.heap.size w w' := by
  have hnl := hR.1
  obtain ⟨a64, a3, a2k, aF⟩ := ranges_facts bs im hq
  rw [hnl] at a64
  obtain ⟨ba, oa, q0, hA, hba, _, _⟩ := hR.at_ (k := 0) (by omega)
  subst hA
  have HQ := Lib.hid hq
  have HR := Lib.hid hR
  have HNL := Lib.hid hnl
  have HIMP : Hid ((hashedL bs (rangesM im bs.length)).length ≤ 1000000) := Lib.hid (by
    rw [hashed_im bs im hq, List.length_append, List.length_append]
    have h1 : ∀ x, (seg bs x).length ≤ n := fun x => by unfold seg cut; rw [List.length_take, List.length_drop]; omega
    have := h1 (0, im.check); have := h1 (im.check + 4, im.dir); have := h1 (im.dir + 8, endM im bs.length)
    omega)
  obtain ⟨ds, hds⟩ : ∃ ds, ((digQ bs im).map v8).toArray = ds := ⟨_, rfl⟩
  have hdl : (digQ bs im).length = 32 := sumQ_len _ _
  have DSZ : Hid ((Tryz.prog.info? 25).map (·.size) = some ds.size) := by rw [← hds]; unfold Hid; rw [List.size_toArray, List.length_map, hdl]; kernel_rfl
  have DS1 : Hid (ds.size = zD.size) := by rw [← hds]; unfold Hid; rw [List.size_toArray, List.length_map, hdl]; rfl
  have DSO : Hid (ds.all (·.oneCell') = true) := by rw [← hds]; exact Lib.hid (dig_one _)
  have HDS := Lib.hid hds
  have HAF := Lib.hid (And.intro a3 (And.intro a2k aF))
  go_enter Tryz.func7, Tryz.ntmps7
  go_upto_region 1 with (fail)
  refine wp_nm fun W0 hW0 => ?_
  obtain ⟨g, hg⟩ : ∃ g, w.heap.size = g := ⟨_, rfl⟩
  have k2 : W0.heap[g]? = some (.cells zD 25) := by rw [← hW0, ← hg]; exact has_alloc (has_new w _) _
  have k3 : W0.heap[g + 1]? = some (.cells imZero 30) := by rw [← hW0]; exact has_new' _ _ _ (by simp [hg])
  have hb0 : Below w.heap.size w W0 := by rw [← hW0]; exact kp_alloc (kp_alloc (Below.refl _ _) _) _
  have C := Lib.hid (dranges_any (some ⟨ba, oa, none⟩) n c bs W0 (hR.below hb0) hnc hcc (by omega))
  have H0 := Lib.hid (And.intro k2 (And.intro k3 hb0))
  have HGW := Lib.hid hg
  rw [hg]
  clear hW0 k2 k3 hb0 hR hq hg hnl a3 a2k aF hds hdl
  go_wp2_with (fail)
  (with_reducible refine C.out.mono ?_)
  clear C
  rintro e w1 hp
  unfold RangesP at hp
  rw [HQ.out] at hp
  obtain ⟨⟨LA, m, d, rfl, hm, ho⟩, hb1⟩ := hp
  have hm1 : 3 ≤ m ∧ m ≤ 2000 := by have := HAF.out.1; have := HAF.out.2.1; omega
  obtain ⟨gl, hLA, hgl1, hgl2⟩ := ho.shape (by have := ho.cap.1; omega)
  subst hLA
  have H1 := Lib.hid (And.intro (has_below H0.out.1 hb1) (And.intro (has_below H0.out.2.1 hb1) (And.intro (kp_call H0.out.2.2 hb1) ho)))
  have HM := Lib.hid hm
  have C := Lib.hid (dparse_any (some ⟨ba, oa, none⟩) n c bs w1 (HR.out.below H1.out.2.2.1) hnc hcc (by omega))
  clear hb1 H0 ho hm hgl1 hgl2
  go_wp2_with (fail)
  (with_reducible refine C.out.mono ?_)
  clear C
  rintro e w2 ⟨hp, hb2⟩
  rw [HQ.out] at hp
  obtain ⟨V, k0, cV, U, k, cU, xs, rfl, him⟩ := hp
  have H2 := Lib.hid (And.intro (has_below H1.out.1 hb2) (And.intro (has_below H1.out.2.1 hb2) (And.intro (kp_call H1.out.2.2.1 hb2) (And.intro (H1.out.2.2.2.below hb2 (Nat.le_refl _)) him))))
  have H1s := Lib.hid H1.out.2.1
  clear hb2 H1 him
  go_upto_region 5 with (refine wpList_store_row rfl _ _ _ rfl w2.heap.size (imVal im V k0 cV U k cU) rfl rfl _ _ (has_new w2 _) (by kernel_rfl) rfl (im_one8 im V k0 cV U k cU) ?_)
  refine wp_nm fun W hW3 => ?_
  obtain ⟨gi, hgi⟩ : ∃ gi, w2.heap.size = gi := ⟨_, rfl⟩
  have kgi : W.heap[gi]? = some (.cells #[.bool im.plus, .int .i64 (im.check : Nat), .int .i64 (im.dir : Nat), .int .u32 (im.hdr : Nat), .slice V k0 cV, .int .u32 (im.table : Nat), .int .u32 (im.length : Nat), .slice U k cU] 30) := by rw [← hW3, ← hgi]; exact setRow_heap _ _ _ _ _ _ (has_new w2 _)
  have hb3 : Below w2.heap.size w2 W := by rw [← hW3]; exact below_setRow (kp_alloc (Below.refl _ _) _) (Nat.le_refl _) _
  have kg1 := has_below H2.out.1 hb3
  have kg2 := has_below H2.out.2.1 hb3
  have hbW := kp_call H2.out.2.2.1 hb3
  have hlg : g + 1 < gi := by have := block_lt H2.out.2.1; omega
  have HH := Lib.hid (fun W9 (h : Below W.heap.size W W9) => dhashed_any ba oa n c bs gl m d _ (rangesM im bs.length) W9 (HR.out.below (kp_call hbW h)) ((H2.out.2.2.2.1.below hb3 (Nat.le_refl _)).below h (Nat.le_refl _)) HM.out.symm hm1.2 (fun i x hx => by have := HAF.out.2.2 i x hx; rw [HNL.out] at this; exact this) hnc hcc hn)
  have HSM := Lib.hid (fun A9 n9 c9 W9 (h : RB W9 A9 n9 (hashedL bs (rangesM im bs.length))) => dsum_any A9 n9 c9 (hashedL bs (rangesM im bs.length)) W9 h (by have := h.1; have := HIMP.out; omega))
  have HRD := Lib.hid (And.intro H2.out.2.2.2.2 (And.intro (block_lt H1s.out) (And.intro hgi hb3)))
  have EK : Hid (∀ W9, EI w gi #[.bool im.plus, .int .i64 (im.check : Nat), .int .i64 (im.dir : Nat), .int .u32 (im.hdr : Nat), .slice V k0 cV, .int .u32 (im.table : Nat), .int .u32 (im.length : Nat), .slice U k cU] W9 → (W9.cell? ⟨gi, 0, none⟩ = some (.bool im.plus) ∧ W9.cell? ⟨gi, 1, none⟩ = some (.int .i64 (im.check : Nat)) ∧ W9.cell? ⟨gi, 2, none⟩ = some (.int .i64 (im.dir : Nat)) ∧ W9.cell? ⟨gi, 3, none⟩ = some (.int .u32 (im.hdr : Nat)) ∧ W9.cell? ⟨gi, 4, none⟩ = some (.slice V k0 cV) ∧ W9.cell? ⟨gi, 5, none⟩ = some (.int .u32 (im.table : Nat)) ∧ W9.cell? ⟨gi, 6, none⟩ = some (.int .u32 (im.length : Nat)) ∧ W9.cell? ⟨gi, 7, none⟩ = some (.slice U k cU)) ∧ EI w gi #[.bool im.plus, .int .i64 (im.check : Nat), .int .i64 (im.dir : Nat), .int .u32 (im.hdr : Nat), .slice V k0 cV, .int .u32 (im.table : Nat), .int .u32 (im.length : Nat), .slice U k cU] W9) := Lib.hid (fun W9 h => ⟨cells_8 h.1, h⟩)
  have E0 : EI w gi #[.bool im.plus, .int .i64 (im.check : Nat), .int .i64 (im.dir : Nat), .int .u32 (im.hdr : Nat), .slice V k0 cV, .int .u32 (im.table : Nat), .int .u32 (im.length : Nat), .slice U k cU] W := ⟨kgi, hbW⟩
  have dso : ∀ v ∈ ds.toList, v.oneCell' = true := by
    have := DSO.out
    rw [Array.all_eq_true_iff_forall_mem] at this
    exact fun v hv => this v (by simpa using hv)
  have HT1 : Hid (∀ v1 : World, Below W.heap.size W v1 → v1.there g 0 ds.toList.length ∧ (v1.setCells g 0 ds.toList).heap[g + 1]? = some (.cells #[.bool false, .int .i64 0, .int .i64 0, .int .u32 0, .slice none 0 0, .int .u32 0, .int .u32 0, .slice none 0 0] 30)) := by
    refine Lib.hid (fun v1 h => ⟨ArrIs.there (vs := zD.toList) (has_below kg1 h) 0 _ (by have := DS1.out; simp at this ⊢; omega), ?_⟩)
    exact ArrIs.farCells (g := g + 1) (t := 30) (vs := imZero.toList) (by omega) ds.toList 0 _ (has_below kg2 h)
  have hg1 : w.heap.size ≤ g := by have := HGW.out; omega
  have hg2w : w.heap.size ≤ g + 1 := by have := HGW.out; omega
  have hgi1 : gi ≠ g := by omega
  have hgi2 : gi ≠ g + 1 := by omega
  have HK := Lib.hid (And.intro kg1 (And.intro kg2 kgi))
  have HB3 := Lib.hid hb3
  have HSD : ∀ n9, n9 = (hashedL bs (rangesM im bs.length)).length → ((sumQ ((hashedL bs (rangesM im bs.length)).map UInt8.toNat) n9).map v8).toArray = ds := fun n9 h => by rw [h, ← HDS.out]; rfl
  have HSD' := Lib.hid HSD
  rw [hgi]
  clear hW3 kgi hb3 kg1 kg2 hbW hgi H2 HSD
  go_region_held3 (fun W9 => (W9.cell? ⟨gi, 0, none⟩ = some (.bool im.plus) ∧ W9.cell? ⟨gi, 1, none⟩ = some (.int .i64 (im.check : Nat)) ∧ W9.cell? ⟨gi, 2, none⟩ = some (.int .i64 (im.dir : Nat)) ∧ W9.cell? ⟨gi, 3, none⟩ = some (.int .u32 (im.hdr : Nat)) ∧ W9.cell? ⟨gi, 4, none⟩ = some (.slice V k0 cV) ∧ W9.cell? ⟨gi, 5, none⟩ = some (.int .u32 (im.table : Nat)) ∧ W9.cell? ⟨gi, 6, none⟩ = some (.int .u32 (im.length : Nat)) ∧ W9.cell? ⟨gi, 7, none⟩ = some (.slice U k cU)) ∧ EI w gi #[.bool im.plus, .int .i64 (im.check : Nat), .int .i64 (im.dir : Nat), .int .u32 (im.hdr : Nat), .slice V k0 cV, .int .u32 (im.table : Nat), .int .u32 (im.length : Nat), .slice U k cU] W9)
    ((apply EK.out; repeat (with_reducible (first | assumption | refine EI.drew ?_ | refine EI.call ?_ (by assumption) | refine EI.setc ?_ (by assumption) (by assumption) _ | refine EI.set ?_ (by assumption) (by assumption) _))))
    (first
      | (go_at_call 22; (with_reducible refine (HH.out _ (by first | exact Below.refl _ _ | exact Below.drew (Below.refl _ _))).mono ?_); (rintro e v1 ⟨A9, n9, c9, rfl, ho9, hv1⟩; have f2 : Below W.heap.size W v1 := kp_call (by first | exact Below.refl _ _ | exact Below.drew (Below.refl _ _)) hv1; have e2 := E0.call f2; have HV0 := Lib.hid f2; have HO9 := Lib.hid ho9.rb; clear hv1 f2 ho9))
      | (go_at_call 21; (with_reducible refine (HSM.out A9 n9 c9 _ (by first | exact HO9.out | exact HO9.out.drew)).mono ?_); (rintro e v2 ⟨rfl, hv2⟩; rw [HSD'.out n9 HO9.out.1.symm]; have f4 : Below v1.heap.size v1 v2 := kp_call (by first | exact Below.refl _ _ | exact Below.drew (Below.refl _ _)) hv2; have f3 : Below W.heap.size W v2 := kp_call HV0.out f4; have e3 := E0.call f3; obtain ⟨th1, kk⟩ := HT1.out v2 f3; obtain ⟨a0, a1, a2, a3, a4, a5, a6, a7⟩ := cells_8 kk; obtain ⟨b0, b1, b2, b3, b4, b5, b6, b7⟩ := free_8 kk; have HV1 := Lib.hid f3; have HKK := Lib.hid kk; clear hv2 f3 f4 kk)))
  have hkk := HKK.out
  refine wp_nm9 fun W9 hW9 => ?_
  have q2 : W9.heap[g + 1]? = some (.cells (imVal im V k0 cV U k cU) 30) := by rw [← hW9]; exact set_8 hkk
  have q1 : W9.heap[g]? = some (.cells ds 25) := by
    rw [← hW9]
    refine (far_8 _ _ _ (by omega)).trans ?_
    have h1 := ArrIs.setAt (g := g) (t := 25) (w := v2) (pre := []) (post := []) (mid := zD.toList) (by simpa [ArrIs] using has_below HK.out.1 HV1.out) 0 ds.toList rfl (by have := DS1.out; simp at this ⊢; omega)
    simpa [ArrIs] using h1
  have q3 : Below w.heap.size w W9 := by rw [← hW9]; exact below_8 (Below.setCells hg1 _ _ _ e3.2) hg2w
  have q4 : ∀ q, q ≠ g → q ≠ g + 1 → W9.heap[q]? = v2.heap[q]? := by
    intro q h1 h2
    rw [← hW9]
    exact (far_8 _ _ _ (by omega)).trans (setCells_far (by omega) _ _ _)
  have Q := Lib.hid (And.intro q1 (And.intro q2 (And.intro q3 q4)))
  clear hW9 q1 q2 q3 q4 hkk a0 a1 a2 a3 a4 a5 a6 a7 b0 b1 b2 b3 b4 b5 b6 b7 e3 th1 E0 EK HT1 dso
  go_wp2_with (fail)
  refine bodyPost_ret (results_cct Tryz.results7 _ (LV.agg Q.out.1 Tryz.underlying25 rfl DSZ.out) (LV.agg Q.out.2.1 Tryz.underlying30 rfl (by kernel_rfl))) rfl ?_
  have hsz := HRD.out.2.1
  have hzz := HGW.out
  refine ⟨⟨V, k0, cV, U, k, cU, xs, by rw [HDS.out]; rfl, (HRD.out.1.frame (fun q h1 h2 => ?_)).lower (by omega)⟩, Q.out.2.2.1⟩
  exact (Q.out.2.2.2 q (by omega) (by omega)).trans ((HV1.out.block q (by have := HRD.out.2.2.2.size; omega)).trans (HRD.out.2.2.2.block q h2))
theorem ddigest_any (A : Option Addr) (n c : Nat) (bs : List UInt8) (w : World) (hR : RB w A n bs) (hnc : n ≤ c) (hcc : c ≤ 9223372036854775807) (hn : n ≤ 16384) :
    Calls Tryz.prog 7 #[.slice A n c] w (DDigestP w bs) := by
  unfold DDigestP
  cases hq : parseQ bs with
  | inl er => exact ddigest_no A n c bs w hR hnc hcc hn er hq
  | inr im => exact ddigest_yes A n c bs w hR hnc hcc hn im hq
end Go.Proofs.YtcedojmhgmgcgaaGreatDoor
