/-
  der: are elements, and others, in memory of their own?
-/
import Derived.Test.YtamkbedbkjndgaaDrI
import Derived.Test.YtamkbedbkjndgaaDrL4
import Derived.Test.YtamkbedbkjndgaaFam
import Derived.Test.YtamkbedbkjndgaaStp
import Derived.Deep.RegionHeld3
namespace Go.Proofs.Ytamkbedbkjndgaa
open Go.RowKit Go
set_option linter.unusedVariables false
set_option linter.unusedSimpArgs false
set_option maxRecDepth 100000
theorem bss_row : RowT 34 22 1 24 (.slice none 0 0) := ⟨Try.underlying34, by kernel_rfl, rfl, by decide⟩
def ownV (vs : List EV) : List Value := (vs.flatMap EV.own).map Own1.val
theorem ownV_snoc (vs : List EV) (j : Nat) (v : EV) (h : vs[j]? = some v) : ownV (vs.take (j + 1)) = ownV (vs.take j) ++ [.slice v.ba v.bn v.bc, .slice v.ra v.rn v.rc] := by
  unfold ownV
  rw [List.take_add_one, h]
  simp [EV.own, Own1.val]
theorem apart_law (LA MA : Option Addr) (n c m k : Nat) (vs : List EV) (ms : List Own1) (w : World) (base : Nat) (hl : vs.length = n) (hn : n ≤ 1000) (hL : ReadR w LA (vs.flatMap EV.cells)) (hM : ReadR w MA (ms.map Own1.val)) (hml : ms.length = m) (hm : m ≤ 100) (hm0 : 0 < m) (hbase : base ≤ w.heap.size)
    (hown : ∀ x ∈ vs.flatMap EV.own ++ ms, OwnB w base x.1 x.2.1 x.2.2.1 x.2.2.2 ∧ x.2.1 ≤ 1000000) (hfar : (vs.flatMap EV.own ++ ms).Pairwise fun x y => blk x.1 = none ∨ blk x.1 ≠ blk y.1) :
    Calls Try.prog 18 #[.slice LA n c, .slice MA m k] w fun e w' => e = .returned (.bool true) ∧ Below base w w' := by
  have HL := Lib.hid hL
  have HM := Lib.hid hM
  have HO := Lib.hid hown
  have HF := Lib.hid hfar
  have HLn := Lib.hid hl
  have HMl := Lib.hid hml
  clear hL hM hown hfar hl hml
  go_enter Try.func18, Try.ntmps18
  go_wp2
  go_loopw [5, 6] (fun v i wl => ∃ (j n2 : Nat) (A2 : Option Addr) (c2 : Nat), Hid (n2 = 2 * j) ∧ j ≤ n ∧ v = .slice A2 n2 c2 ∧ i = .int .i64 (j : Int) ∧ OwnR wl w.heap.size 22 1 A2 n2 c2 (ownV (vs.take j)) ∧ Below w.heap.size w wl) (fun _ i _ => n - (intOf i).toNat)
  case atStart => exact ⟨0, 0, _, _, rfl, Nat.zero_le _, rfl, rfl, OwnR.nil _ _ _ _, Below.refl _ _⟩
  case round =>
    obtain ⟨j, n2, A2, c2, HJ, hj, rfl, rfl, ho, hb⟩ := hrel
    have hn2 : n2 ≤ 2000 := by have := HJ.out; omega
    by_cases hlt : j < n
    · obtain ⟨v, hv⟩ : ∃ v, vs[j]? = some v := ⟨_, List.getElem?_eq_getElem (by rw [HLn.out]; exact hlt)⟩
      obtain ⟨_, e1, e2⟩ := eflat_get vs v j hv
      obtain ⟨b, off, rfl, hbb, c1⟩ := HL.out.at_ e1
      obtain ⟨b', off', e', _, c2'⟩ := HL.out.at_ e2
      cases e'
      rw [← Nat.add_assoc] at c1 c2'
      have d1 := kp_cell hb c1
      have d2 := kp_cell hb c2'
      have HS := Lib.hid (ownV_snoc vs j v hv)
      have C1 := Lib.hid c1
      have C2 := Lib.hid c2'
      have hsz := hb.size
      have hmax : n2 + 2 ≤ maxLen := by unfold maxLen; omega
      have H2 : Hid (∀ u ∈ [Value.slice v.ba v.bn v.bc, .slice v.ra v.rn v.rc], u.oneCell' = true) := by intro u hu; simp at hu; rcases hu with rfl | rfl <;> rfl
      clear e1 e2 hv c1 c2'
      go_wp2
      go_region_held3 (fun W => (W.cell? ⟨b, off + j * 3 + 1, none⟩ = some (.slice v.ba v.bn v.bc) ∧ W.cell? ⟨b, off + j * 3 + 2, none⟩ = some (.slice v.ra v.rn v.rc))) (go_keep) ((refine step_appR bss_row (by rfl) _ _ (by rfl) w.heap.size A2 n2 c2 _ (by rfl) ((ho.alloc _).drew) ⟨wr.heap.size, 0, none⟩ 2 2 [.slice v.ba v.bn v.bc, .slice v.ra v.rn v.rc] (by rfl) (by rfl) (cells_lit _ wr.heap.size #[.slice v.ba v.bn v.bc, .slice v.ra v.rn v.rc] 22 (0, 0) (heap_alloc_new _ _)) H2.out (by omega) hmax (by omega) (by simp; omega) ?_; intro g c3 w3 ho3 hg3 hat3; have hb3 : Below w.heap.size w w3 := (kp_drew (kp_alloc hb _)).grown hg3 (by simp; omega) (fun g hg => (ho.blk_lt hg).1); have d1' := kp_cell hb3 C1.out; have d2' := kp_cell hb3 C2.out))
      go_wp2
      go_roundw
      case rel => exact ⟨j + 1, n2 + 2, _, _, by unfold Hid; have := HJ.out; omega, by omega, rfl, by go_num, by rw [HS.out]; exact ho3, hb3⟩
      case measure => simp [intOf]; omega
    · obtain rfl : j = n := by omega
      have hT : vs.take j = vs := List.take_of_length_le (by rw [HLn.out]; exact Nat.le_refl _)
      rw [hT] at ho
      have hM := HM.out.below hb (Nat.le_refl _)
      obtain ⟨b, off, rfl, hbm, hmc⟩ := hM (by intro h; have := congrArg List.length h; simp [HMl.out] at this; omega)
      have hmax : n2 + m ≤ maxLen := by unfold maxLen; omega
      have hadd : ∀ (i : Nat) (u : Value), (ms.map Own1.val)[i]? = some u → wr.cell? ((⟨b, off, none⟩ : Addr).add i) = some u := fun i u hu => by
        rw [show (⟨b, off, none⟩ : Addr).add i = ⟨b, off + i, none⟩ by unfold Addr.add; split <;> simp_all]
        exact hmc i u hu
      have H1 : ∀ u ∈ ms.map Own1.val, u.oneCell' = true := by
        intro u hu
        obtain ⟨x, _, rfl⟩ := List.mem_map.1 hu
        rfl
      have hsz := hb.size
      have HAdd := Lib.hid hadd
      have HH1 := Lib.hid H1
      clear hadd H1 hmc hM
      go_wp2_with (at_builtin; refine wpList_appR bss_row _ _ rfl rfl rfl w.heap.size A2 n2 c2 _ rfl ho ⟨b, off, none⟩ m k _ rfl (by rw [List.length_map, HMl.out]; omega) HAdd.out HH1.out hmax (by omega) hsz ?_)
      intro A3 c3 w3 ho3 hg3
      have hb3 : Below w.heap.size w w3 := hb.grown hg3 hsz (fun g hg => (ho.blk_lt hg).1)
      have hlen : (vs.flatMap EV.own ++ ms).length = n2 + m := by
        have h1 := ho3.len
        simp only [ownV, List.length_append, List.length_map, Nat.mul_one] at h1
        rw [List.length_append]
        exact h1
      have hcp := ho3.cap
      obtain ⟨g3, rfl, hg3b, hg3l⟩ := ho3.shape (by omega)
      have hrow : OwnS w3 base (some ⟨g3, 0, none⟩) (n2 + m) c3 ((vs.flatMap EV.own ++ ms).map Own1.val) := by
        rw [List.map_append]
        exact ho3.lower hbase
      have hFam := fam_list w3 base g3 (vs.flatMap EV.own ++ ms) (n2 + m) c3 hlen hrow (fun x hx => ⟨(HO.out x hx).1.below hb3 (Nat.le_refl _), (HO.out x hx).2⟩) HF.out
      have AP := Lib.hid (apart_any _ (n2 + m) c3 _ _ _ _ _ base w3 hFam (by omega) (by have := hb3.size; omega))
      clear hrow hFam hlen ho3 hcp
      go_wp2_with fail
      refine AP.out.mono ?_
      rintro e w4 ⟨rfl, hb4⟩
      go_wp2
      go_ret
      exact ⟨rfl, (hb3.mono hbase).trans hb4⟩
end Go.Proofs.Ytamkbedbkjndgaa
