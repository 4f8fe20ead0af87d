/-
  mont: the bits of an exponent, handed out one by one.
-/
import Derived.Test.YtbplchpbaonadaaDoorMf
import Derived.Test.YtbplchpbaonadaaDoorRg
import Derived.Test.YtbplchpbaonadaaDoorOg
namespace Go.Proofs.YtbplchpbaonadaaDoor
open Go.RowKit Go
set_option linter.unusedVariables false
set_option linter.unusedSimpArgs false
set_option maxRecDepth 100000
attribute [local go_sem] Oper.semAt_some
/-- The number whose bits these are, the highest first. -/
def accB (l : List Bool) : Nat := l.foldl (fun a b => 2 * a + b.toNat) 0
theorem accB_snoc (l : List Bool) (b : Bool) : accB (l ++ [b]) = 2 * accB l + b.toNat := by unfold accB; rw [List.foldl_append]; rfl
def bEnc (b : Bool) : Array Value := #[.bool b]
theorem bit_step (v j b : Nat) (h : v / 2 ^ j % 2 = b) : v / 2 ^ j = 2 * (v / 2 ^ (j + 1)) + b := by
  have h1 : v / 2 ^ (j + 1) = v / 2 ^ j / 2 := by rw [Nat.pow_succ, Nat.div_div_eq_div_mul]
  omega
theorem bit_at (x : List Nat) (lx : Lim x) (j : Nat) : x.getD (j / 32) 0 / 2 ^ (j % 32) % 2 = val x / 2 ^ j % 2 := bit_of x lx j
theorem bitsOf_any (A : Option Addr) (n c : Nat) (w : World) :
    Calls Tryd.prog 47 #[.slice A n c] w fun e w' => e = .returned (.func (.func 71) #[] #[.pointer (some ⟨w.heap.size, 0, none⟩)]) ∧ w' = w.alloc (.cells #[.slice A n c] 49) := by
  go_enter Tryd.func47, Tryd.ntmps47
  go_wp2
  go_ret
  exact ⟨rfl, rfl⟩
set_option maxHeartbeats 4000000 in
/-- The iterator. -/
theorem bits1_in (n0 c0 D Bx : Nat) (A0 : Option Addr) (x : List Nat) (w0 : World) (hR0 : RU w0 A0 n0 x) (hr : rightB x = true) (hn : n0 ≤ 256)
    (I : List Bool → World → Prop) (hIb : ∀ pre W, I pre W → Below w0.heap.size w0 W ∧ W.heap[Bx]? = some (.cells #[.slice A0 n0 c0] 49)) :
    IterOf Tryd.prog 4 D 71 #[.pointer (some ⟨Bx, 0, none⟩)] bEnc (fun _ => False) I (fun xs => accB xs = val x) (fun _ => True) (bitsN (val x)) := by
  intro Y Z hYI hYs hY hYb W1 hY0
  obtain ⟨hb1, hbx1⟩ := hIb _ _ (hYI _ _ hY0)
  have hc1 := cells_1 hbx1
  have BT := bits_any A0 n0 c0 x W1 (hR0.below hb1) (by omega)
  rw [if_pos hr] at BT
  obtain ⟨K, hK⟩ : ∃ K, bitsN (val x) = K := ⟨_, rfl⟩
  rw [hK] at BT hY
  have hK32 : K ≤ 32 * n0 := by
    rw [← hK, bits_le, ← pow_32]
    have h2 := val_lt x hR0.lim
    rw [hR0.len] at h2
    exact h2
  have hKb : K ≤ 8192 := by omega
  have hK0 : val x / 2 ^ K = 0 := by
    refine Nat.div_eq_of_lt ?_
    rw [← bits_le, hK]
    exact Nat.le_refl _
  have hKn : ∀ j, j < K → j / 32 < n0 := fun j hj => by
    omega
  have hKN := Lib.hid hKn
  have BT := Lib.hid BT
  have HR := Lib.hid hR0
  have e1 : IntKind.i64.wrap ((K : Int) - 1) = (K : Int) - 1 := IntWalk.i64_in _ (by omega)
  have HK0 := Lib.hid hK0
  have HKK := Lib.hid hK
  clear hR0 hr hK hb1 hbx1 hK0 hKn hK32
  refine callsIn_of_wp Tryd.func71 rfl trivial ?_ rfl
  simp only [Tryd.ntmps71, List.size_toArray, List.length_cons, List.length_nil, Nat.reduceAdd, Nat.reduceSub, Array.replicate_succ, Array.replicate_zero, List.push_toArray, List.append_toArray, List.nil_append, List.cons_append]
  gi_wp2_with (refine ⟨trivial, ?_⟩; gi_at_call 49; refine (callsIn_wide.2 BT.out).mono ?_; rintro e w' ⟨rfl, rfl⟩)
  gi_loopw [3] (fun u wr => ∃ (j : Nat) (pre : List Bool), u = .int .i64 ((j : Int) - 1) ∧ j ≤ K ∧ Y pre wr ∧ Hid (accB pre = val x / 2 ^ j ∧ pre.length + j = K)) (fun u _ => (intOf u + 1).toNat)
  case atStart => exact ⟨K, [], rfl, Nat.le_refl _, hY0, by rw [HK0.out]; rfl, by simp⟩
  case round =>
    obtain ⟨i, pre, rfl, hi, hJ, HP⟩ := hrel
    rcases i with _ | j
    · have j1 : ¬ ((0 : Nat) : Int) - 1 ≥ 0 := by omega
      have HN : Hid (accB pre = val x) := by
        have h := HP.out.1
        rw [Nat.pow_zero, Nat.div_one] at h
        exact h
      clear HP hc1
      gi_wp2
      go_end0
      exact ⟨⟨_, rfl⟩, .inl ⟨pre, HN.out, hJ⟩⟩
    · have e4 : (((j + 1 : Nat) : Int) - 1) = (j : Int) := by omega
      rw [e4]
      clear e4 hc1
      obtain ⟨hb1, hbx1⟩ := hIb _ _ (hYI _ _ hJ)
      have hc1 := cells_1 hbx1
      obtain ⟨k, hk⟩ : ∃ k, j / 32 = k := ⟨_, rfl⟩
      obtain ⟨t, ht⟩ : ∃ t, j % 32 = t := ⟨_, rfl⟩
      have hkn := hKN.out j (by omega)
      rw [hk] at hkn
      have hbit := bit_at x HR.out.lim j
      rw [hk, ht] at hbit
      obtain ⟨bx, ox, hA, hbx, cx⟩ := HR.out.at_ (j := k) hkn
      subst hA
      have cx1 := (hb1.cell (p := ⟨bx, ox + k, none⟩) hbx).trans cx
      have hv32 := HR.out.lim.getD k
      obtain ⟨v, hv⟩ : ∃ v, x.getD k 0 = v := ⟨_, rfl⟩
      rw [hv] at cx1 hbit hv32
      obtain ⟨u, hu⟩ : ∃ u, v / 2 ^ t = u := ⟨_, rfl⟩
      rw [hu] at hbit
      have huv : u ≤ v := by rw [← hu]; exact Nat.div_le_self _ _
      obtain ⟨b0, hb0⟩ : ∃ b0, u % 2 = b0 := ⟨_, rfl⟩
      rw [hb0] at hbit
      have hand : bits .and .u32 (u : Int) 1 = (b0 : Int) := by
        have h1 := u32_and_nat u 1 (by omega) (by decide)
        rw [Nat.and_one_is_mod, hb0] at h1
        exact h1
      have e5 : (j : Int).tdiv 32 = (k : Int) := by rw [Int.tdiv_eq_ediv_of_nonneg (by omega)]; omega
      have e6 : (j : Int) / 32 = (k : Int) := by omega
      have e7 : (j : Int).tmod 32 = (t : Int) := by rw [Int.tmod_eq_emod_of_nonneg (by omega)]; omega
      have e8 : (j : Int) % 32 = (t : Int) := by omega
      have e9 : IntKind.i64.wrap (k : Int) = (k : Int) := IntWalk.i64_in _ (by omega)
      have e10 : min t 32 = t := by omega
      have e11 : (v : Int) / 2 ^ t = (u : Int) := by
        rw [show (v : Int) / 2 ^ t = ((v / 2 ^ t : Nat) : Int) by push_cast; rfl, hu]
      have e12 : IntKind.i64.wrap ((j : Int) - 1) = (j : Int) - 1 := IntWalk.i64_in _ (by omega)
      have j0 : (j : Int) ≥ 0 := by omega
      have j1 : (0 : Int) ≤ (k : Int) := by omega
      have j2 : (k : Int) < (n0 : Int) := by omega
      have j3 : (0 : Int) ≤ (t : Int) := by omega
      have hlen : pre.length < K := by have := HP.out.2; omega
      have HST : Hid (accB pre = val x / 2 ^ (j + 1) ∧ val x / 2 ^ j = 2 * (val x / 2 ^ (j + 1)) + b0 ∧ pre.length + (j + 1) = K) := ⟨HP.out.1, bit_step _ _ _ hbit.symm, HP.out.2⟩
      have hb01 : b0 = 0 ∨ b0 = 1 := by omega
      clear hk ht hbit hv hu hb0 cx hbx HP hbx1 hb1
      rcases hb01 with rfl | rfl
      · obtain ⟨fn, tmps, assign, body, hy, hR⟩ := hY pre false wr hJ hlen
        dsimp only [bEnc] at hy
        gi_wp2
        refine hR.mono ?_
        rintro e W3 (⟨rfl, hJ3, _⟩ | ⟨rfl, hZ3⟩)
        · have HN : Hid (accB (pre ++ [false]) = val x / 2 ^ j ∧ (pre ++ [false]).length + j = K) := by
            refine ⟨by rw [accB_snoc, HST.out.1, HST.out.2.1]; rfl, ?_⟩
            have := HST.out.2.2
            rw [List.length_append]
            simp only [List.length_cons, List.length_nil]
            omega
          clear HST hc1 cx1
          gi_wp2
          go_roundw
          case rel => exact ⟨j, _, rfl, by omega, hJ3, HN⟩
          case measure => simp [intOf]
        · gi_wp2
          refine bodyPost_ret (results_none rfl _ _ _) rfl ?_
          exact ⟨⟨_, rfl⟩, .inr ⟨_, trivial, hZ3⟩⟩
      · obtain ⟨fn, tmps, assign, body, hy, hR⟩ := hY pre true wr hJ hlen
        dsimp only [bEnc] at hy
        gi_wp2
        refine hR.mono ?_
        rintro e W3 (⟨rfl, hJ3, _⟩ | ⟨rfl, hZ3⟩)
        · have HN : Hid (accB (pre ++ [true]) = val x / 2 ^ j ∧ (pre ++ [true]).length + j = K) := by
            refine ⟨by rw [accB_snoc, HST.out.1, HST.out.2.1]; rfl, ?_⟩
            have := HST.out.2.2
            rw [List.length_append]
            simp only [List.length_cons, List.length_nil]
            omega
          clear HST hc1 cx1
          gi_wp2
          go_roundw
          case rel => exact ⟨j, _, rfl, by omega, hJ3, HN⟩
          case measure => simp [intOf]
        · gi_wp2
          refine bodyPost_ret (results_none rfl _ _ _) rfl ?_
          exact ⟨⟨_, rfl⟩, .inr ⟨_, trivial, hZ3⟩⟩
end Go.Proofs.YtbplchpbaonadaaDoor
