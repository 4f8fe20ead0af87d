/-
  pe: the document's Same, of two images that say the same.
-/
import Derived.Test.YtjfpiidofbjdhaaDoorPeI
import Derived.Test.YtjfpiidofbjdhaaDoorRef
namespace Go.Proofs.YtjfpiidofbjdhaaDoor
open Go.RowKit Go
set_option linter.unusedVariables false
set_option linter.unusedSimpArgs false
set_option maxRecDepth 100000
/-- An image that reads as what it is. -/
structure ImRd (im : Im) (V : Option Addr) (m cV : Nat) (U : Option Addr) (k cU : Nat) (xs : List Own1) (W : World) : Prop where
  ml : m = im.secs.length
  secs : ReadR W V (im.secs.flatMap secCells)
  kl : k = xs.length
  bytes : xs.map (fun x => x.2.2.2) = im.sigs
  sigs : ReadR W U (xs.map Own1.val)
  rb : ∀ x ∈ xs, RB W x.1 x.2.1 x.2.2.2
theorem ImRd.below {im : Im} {V : Option Addr} {m cV : Nat} {U : Option Addr} {k cU : Nat} {xs : List Own1} {W W' : World} (h : ImRd im V m cV U k cU xs W) (hb : Below W.heap.size W W') : ImRd im V m cV U k cU xs W' :=
  ⟨h.ml, h.secs.below hb (Nat.le_refl _), h.kl, h.bytes, h.sigs.below hb (Nat.le_refl _), fun x hx => (h.rb x hx).below hb⟩
theorem ImOwn.rd {base : Nat} {im : Im} {V : Option Addr} {m cV : Nat} {U : Option Addr} {k cU : Nat} {xs : List Own1} {W : World} (h : ImOwn base im V m cV U k cU xs W) : ImRd im V m cV U k cU xs W :=
  ⟨h.ml, h.secs.reads, h.kl, h.bytes, h.sigs.reads, fun x hx => (h.own.own x hx).1.rb⟩
theorem sec_same (x : Nat × Nat) (W : World) : (Op.equalIn 10000 43 (.agg #[.int .u32 (x.1 : Nat), .int .u32 (x.2 : Nat)]) (.agg #[.int .u32 (x.1 : Nat), .int .u32 (x.2 : Nat)])).run Tryd.prog W = .ok true W := by
  refine (run_equalIn_agg W 9999 43 _ _ (by kernel_rfl) (by kernel_rfl)).trans ?_
  simp only [Program.fieldsOf, Tryd.underlying43]
  simp [go_sem, Tryd.underlying24]
set_option maxHeartbeats 4000000 in
theorem same_im (im : Im) (V : Option Addr) (m cV : Nat) (U : Option Addr) (k cU : Nat) (xs : List Own1) (V' : Option Addr) (m' cV' : Nat) (U' : Option Addr) (k' cU' : Nat) (xs' : List Own1) (w : World) (h : ImRd im V m cV U k cU xs w) (h' : ImRd im V' m' cV' U' k' cU' xs' w)
    (hm : m ≤ 1000) (hk : k ≤ 1000) :
    Calls Tryd.prog 14 #[.agg (imVal im V m cV U k cU), .agg (imVal im V' m' cV' U' k' cU')] w fun e w' => e = .returned (.bool true) ∧ Below w.heap.size w w' := by
  obtain rfl : m' = m := h'.ml.trans h.ml.symm
  obtain rfl : k' = k := by
    have h1 := congrArg List.length h.bytes
    have h2 := congrArg List.length h'.bytes
    rw [List.length_map] at h1 h2
    rw [h.kl, h'.kl]; omega
  have H := Lib.hid (And.intro h h')
  clear h h'
  go_enter Tryd.func14, Tryd.ntmps14
  dsimp only [imVal]
  go_upto_region 1 with (fail)
  refine wp_nm fun W0 hW0 => ?_
  have q0 : W0.heap[w.heap.size]? = some (.cells (imVal im V m' cV U k' cU) 28) := by rw [← hW0]; exact has_alloc (has_new w _) _
  have q1 : W0.heap[w.heap.size + 1]? = some (.cells (imVal im V' m' cV' U' k' cU') 28) := by rw [← hW0]; exact has_new' _ _ _ (by simp)
  have hb0 : Below w.heap.size w W0 := by rw [← hW0]; exact kp_alloc (kp_alloc (Below.refl _ _) _) _
  have HB := Lib.hid hb0
  have HR := Lib.hid (And.intro (H.out.1.below hb0) (H.out.2.below hb0))
  clear hW0 hb0 H
  dsimp only [imVal] at q0 q1
  obtain ⟨x0, x1, x2, x3, x4, x5, x6, x7⟩ := cells_8 q0
  obtain ⟨y0, y1, y2, y3, y4, y5, y6, y7⟩ := cells_8 q1
  have K := Lib.hid (And.intro q0 (And.intro q1 HB.out))
  have HM := Lib.hid (And.intro hm hk)
  have hm9 : m' ≤ 1000 := hm
  have hk9 : k' ≤ 1000 := hk
  clear q0 q1 HB
  go_wp2_with (fail)
  go_loopw [5] (fun vi wl => ∃ i : Nat, vi = .int .i64 (i : Int) ∧ i ≤ m' ∧ Hid (wl.heap[w.heap.size]? = some (.cells (imVal im V m' cV U k' cU) 28) ∧ wl.heap[w.heap.size + 1]? = some (.cells (imVal im V' m' cV' U' k' cU') 28) ∧ Below w.heap.size w wl ∧ Below W0.heap.size W0 wl)) (fun vi _ => m' - (intOf vi).toNat)
  case atStart => exact ⟨0, rfl, Nat.zero_le _, K.out.1, K.out.2.1, K.out.2.2, Below.refl _ _⟩
  case round =>
    obtain ⟨i, rfl, hi, HK⟩ := hrel
    clear K x0 x1 x2 x3 x4 x5 x6 x7 y0 y1 y2 y3 y4 y5 y6 y7
    obtain ⟨x0, x1, x2, x3, x4, x5, x6, x7⟩ := cells_8 HK.out.1
    obtain ⟨y0, y1, y2, y3, y4, y5, y6, y7⟩ := cells_8 HK.out.2.1
    by_cases hlt : i < m'
    · have i1 : decide ((i : Int) < (m' : Int)) = true := by simp; omega
      have e3 : IntKind.i64.wrap ((i : Int) + 1) = (i : Int) + 1 := IntWalk.i64_in _ (by omega)
      obtain ⟨s, hs⟩ : ∃ s, im.secs[i]? = some s := ⟨_, List.getElem?_eq_getElem (by have := HR.out.1.ml; omega)⟩
      obtain ⟨s0, s1⟩ := sec_at im.secs i s hs
      have hRV := HR.out.1.secs.below HK.out.2.2.2 (Nat.le_refl _)
      have hRV' := HR.out.2.secs.below HK.out.2.2.2 (Nat.le_refl _)
      obtain ⟨b, off, rfl, hb, k0⟩ := hRV.at_ s0
      obtain ⟨b1, off1, e, _, k1⟩ := hRV.at_ s1
      cases e
      have k1' : wr.cell? ⟨b, off + i * 2 + 1, none⟩ = some (.int .u32 (s.2 : Nat)) := k1
      obtain ⟨c, pff, rfl, hc, j0⟩ := hRV'.at_ s0
      obtain ⟨c1, pff1, e, _, j1⟩ := hRV'.at_ s1
      cases e
      have j1' : wr.cell? ⟨c, pff + i * 2 + 1, none⟩ = some (.int .u32 (s.2 : Nat)) := j1
      have hEQ := sec_same s
      have HN : Hid (∀ q, wr.heap[w.heap.size]? = some (.cells (imVal im (some ⟨b, off, none⟩) m' cV U k' cU) 28) ∧ wr.heap[w.heap.size + 1]? = some (.cells (imVal im (some ⟨c, pff, none⟩) m' cV' U' k' cU') 28) ∧ Below w.heap.size w (wr.drewN q) ∧ Below W0.heap.size W0 (wr.drewN q)) := fun q => ⟨HK.out.1, HK.out.2.1, kp_drewN HK.out.2.2.1 q, kp_drewN HK.out.2.2.2 q⟩
      clear k1 j1 hRV hRV' s0 s1 hs HK
      go_wp2_with (fail)
      go_quiet (fail)
      go_wp2_with (fail)
      go_roundw
      case rel => exact ⟨i + 1, by go_num, by omega, HN.out _⟩
      case measure => simp [intOf]; omega
    · have i1 : decide ((i : Int) < (m' : Int)) = false := by simp; omega
      obtain rfl : i = m' := by omega
      go_wp2_with (fail)
      go_loopw [6] (fun vi wl => ∃ j : Nat, vi = .int .i64 (j : Int) ∧ j ≤ k' ∧ Hid (wl.heap[w.heap.size]? = some (.cells (imVal im V i cV U k' cU) 28) ∧ wl.heap[w.heap.size + 1]? = some (.cells (imVal im V' i cV' U' k' cU') 28) ∧ Below w.heap.size w wl ∧ Below W0.heap.size W0 wl)) (fun vi _ => k' - (intOf vi).toNat)
      case atStart => exact ⟨0, rfl, Nat.zero_le _, HK.out⟩
      case round =>
        obtain ⟨j, rfl, hj, HK2⟩ := hrel
        clear HK x0 x1 x2 x3 x4 x5 x6 x7 y0 y1 y2 y3 y4 y5 y6 y7
        obtain ⟨x0, x1, x2, x3, x4, x5, x6, x7⟩ := cells_8 HK2.out.1
        obtain ⟨y0, y1, y2, y3, y4, y5, y6, y7⟩ := cells_8 HK2.out.2.1
        by_cases hlt2 : j < k'
        · have j1 : decide ((j : Int) < (k' : Int)) = true := by simp; omega
          have e3 : IntKind.i64.wrap ((j : Int) + 1) = (j : Int) + 1 := IntWalk.i64_in _ (by omega)
          obtain ⟨z, hz⟩ : ∃ z, xs[j]? = some z := ⟨_, List.getElem?_eq_getElem (by have := HR.out.1.kl; omega)⟩
          obtain ⟨z', hz'⟩ : ∃ z, xs'[j]? = some z := ⟨_, List.getElem?_eq_getElem (by have := HR.out.2.kl; omega)⟩
          have hzz : z.2.2.2 = z'.2.2.2 := by
            have h1 := congrArg (fun l : List (List UInt8) => l[j]?) (HR.out.1.bytes.trans HR.out.2.bytes.symm)
            simp only [List.getElem?_map, hz, hz'] at h1
            exact Option.some.inj h1
          obtain ⟨b, off, rfl, hb, k0⟩ := (HR.out.1.sigs.below HK2.out.2.2.2 (Nat.le_refl _)).at_ (show (xs.map Own1.val)[j]? = some z.val by rw [List.getElem?_map, hz]; rfl)
          obtain ⟨c, pff, rfl, hc, l0⟩ := (HR.out.2.sigs.below HK2.out.2.2.2 (Nat.le_refl _)).at_ (show (xs'.map Own1.val)[j]? = some z'.val by rw [List.getElem?_map, hz']; rfl)
          have EE := Lib.hid (fun q => eq_any z.1 z'.1 z.2.1 z'.2.1 z.2.2.1 z'.2.2.1 z.2.2.2 z'.2.2.2 (wr.drewN q) (((HR.out.1.rb z (List.mem_of_getElem? hz)).below HK2.out.2.2.2).drewN q) (((HR.out.2.rb z' (List.mem_of_getElem? hz')).below HK2.out.2.2.2).drewN q))
          have EE2 : Hid (∀ q, Calls Tryd.prog 21 #[.slice z.1 z.2.1 z.2.2.1, .slice z'.1 z'.2.1 z'.2.2.1] (wr.drewN q) fun e w' => e = .returned (.bool true) ∧ w' = wr.drewN q) := fun q => (EE.out q).mono fun e w' h => ⟨by rw [h.1, hzz]; simp, h.2.symm⟩
          have HN : Hid (∀ q, wr.heap[w.heap.size]? = some (.cells (imVal im V i cV (some ⟨b, off, none⟩) k' cU) 28) ∧ wr.heap[w.heap.size + 1]? = some (.cells (imVal im V' i cV' (some ⟨c, pff, none⟩) k' cU') 28) ∧ Below w.heap.size w (wr.drewN q) ∧ Below W0.heap.size W0 (wr.drewN q)) := fun q => ⟨HK2.out.1, HK2.out.2.1, kp_drewN HK2.out.2.2.1 q, kp_drewN HK2.out.2.2.2 q⟩
          unfold Own1.val at k0 l0
          clear EE hz hz' hzz HK2
          go_wp2_with (fail)
          go_quiet ((go_at_call 21; exact Calls.quiet_of_same (EE2.out _)))
          go_wp2_with (fail)
          go_roundw
          case rel => exact ⟨j + 1, by go_num, by omega, HN.out _⟩
          case measure => simp [intOf]; omega
        · have j1 : decide ((j : Int) < (k' : Int)) = false := by simp; omega
          obtain rfl : j = k' := by omega
          go_wp2_with (fail)
          go_ret
          exact ⟨rfl, HK2.out.2.2.1⟩
end Go.Proofs.YtjfpiidofbjdhaaDoor
