/-
  mont: a modulus in memory; inverse, below, padded, trim.
-/
import Derived.Test.YtbplchpbaonadaaDoorMa
import Derived.Test.YtbplchpbaonadaaDoorNo
import Derived.Test.YtbplchpbaonadaaDoorOb
namespace Go.Proofs.YtbplchpbaonadaaDoor
open Go.RowKit Go
set_option linter.unusedVariables false
set_option linter.unusedSimpArgs false
set_option maxRecDepth 100000
/-- How many limbs a number has. -/
def limbsN (m : Nat) : Nat := (num m).length
/-- Which numbers are moduli. -/
structure IsMod (m : Nat) : Prop where
  odd : m % 2 = 1
  three : 3 ≤ m
  len : limbsN m ≤ 128
theorem IsMod.pos {m : Nat} (h : IsMod m) : 0 < limbsN m := by
  unfold limbsN
  rw [num_pos m (by have := h.three; omega)]
  simp
theorem lt_limbs (m : Nat) : m < 4294967296 ^ limbsN m := by
  have := val_lt (num m) (num_lim m)
  rw [val_num] at this
  exact this
/-- A modulus, as it lies in memory. -/
structure MD (w : World) (g m : Nat) : Prop where
  ex : ∃ (M : Option Addr) (n c : Nat) (Q : Option Addr) (k d : Nat), n = limbsN m ∧ w.heap[g]? = some (.cells #[.slice M n c, .int .u32 ((negQ (m % 4294967296) : Nat) : Int), .slice Q k d] 71) ∧ RU w M n (num m) ∧ n ≤ c ∧ c ≤ 9223372036854775807 ∧ RU w Q k (num (4294967296 ^ n * 4294967296 ^ n % m)) ∧ k ≤ n
  is : IsMod m
theorem MD.below {w w' : World} {g m : Nat} (h : MD w g m) (hb : Below w.heap.size w w') : MD w' g m := by
  obtain ⟨⟨M, n, c, Q, k, d, hn, h1, h2, h3, h4, h5, h6⟩, hi⟩ := h
  exact ⟨⟨M, n, c, Q, k, d, hn, (hb.block _ (block_lt h1)).trans h1, h2.below hb, h3, h4, h5.below hb, h6⟩, hi⟩
theorem MD.lt {w : World} {g m : Nat} (h : MD w g m) : g < w.heap.size := by
  obtain ⟨⟨M, n, c, Q, k, d, hn, h1, _⟩, hi⟩ := h
  exact block_lt h1
def iterI (d : Nat) : Nat → Nat
  | 0 => d
  | i + 1 => istep d (iterI d i)
theorem iterI_lt (d : Nat) (h : d < 4294967296) : ∀ i, iterI d i < 4294967296
  | 0 => h
  | i + 1 => istep_lt _ _
set_option maxHeartbeats 2000000 in
theorem inverse_any (d : Nat) (w : World) (hd : d < 4294967296) :
    Calls Tryd.prog 43 #[.int .u32 (d : Int)] w fun e w' => e = .returned (.int .u32 ((invQ d : Nat) : Int)) ∧ w' = w := by
  go_enter Tryd.func43, Tryd.ntmps43
  go_wp2
  go_loop [3, 5] (fun vx vi => ∃ (i x : Nat), vx = .int .u32 (x : Int) ∧ vi = .int .i64 (i : Int) ∧ i ≤ 4 ∧ x < 4294967296 ∧ Hid (x = iterI d i)) (fun _ vi => 4 - (intOf vi).toNat)
  case atStart => exact ⟨0, d, rfl, rfl, by decide, hd, rfl⟩
  case round =>
    obtain ⟨i, x, rfl, rfl, hi, hx, HX⟩ := hrel
    by_cases hlt : i < 4
    · have i1 : (i : Int) < 4 := by omega
      have e3 : IntKind.i64.wrap ((i : Int) + 1) = (i : Int) + 1 := IntWalk.i64_in _ (by omega)
      have hs : istep d x = x * ((4294967298 - d * x % 4294967296) % 4294967296) % 4294967296 := rfl
      have hpi : (d : Int) * (x : Int) = ((d * x : Nat) : Int) := by push_cast; rfl
      obtain ⟨dx, hdx⟩ : ∃ dx, d * x = dx := ⟨_, rfl⟩
      rw [hdx] at hs hpi
      obtain ⟨p, hp⟩ : ∃ p, dx % 4294967296 = p := ⟨_, rfl⟩
      rw [hp] at hs
      obtain ⟨t, ht⟩ : ∃ t, (4294967298 - p) % 4294967296 = t := ⟨_, rfl⟩
      rw [ht] at hs
      have hxi : (x : Int) * (t : Int) = ((x * t : Nat) : Int) := by push_cast; rfl
      obtain ⟨xt, hxt⟩ : ∃ xt, x * t = xt := ⟨_, rfl⟩
      rw [hxt] at hs hxi
      obtain ⟨r, hr⟩ : ∃ r, istep d x = r := ⟨_, rfl⟩
      rw [hr] at hs
      have u1 : IntKind.u32.wrap ((d : Int) * (x : Int)) = (p : Int) := by rw [hpi]; show ((dx : Int)) % 4294967296 = _; omega
      have u2 : IntKind.u32.wrap (2 - (p : Int)) = (t : Int) := by show (2 - (p : Int)) % 4294967296 = _; omega
      have u3 : IntKind.u32.wrap ((x : Int) * (t : Int)) = (r : Int) := by rw [hxi]; show ((xt : Int)) % 4294967296 = _; omega
      have hr32 : r < 4294967296 := by omega
      have HN : Hid (r = iterI d (i + 1)) := by unfold Hid; rw [← hr, HX.out]; rfl
      clear hs hpi hdx hp ht hxi hxt hr HX
      go_wp2
      go_round
      case rel => exact ⟨i + 1, r, rfl, by go_num, by omega, hr32, HN⟩
      case measure => simp [intOf]; omega
    · have i1 : ¬ (i : Int) < 4 := by omega
      have HE : Hid (x = invQ d) := by
        unfold Hid
        rw [HX.out, show i = 4 by omega]
        rfl
      clear HX
      go_wp2
      go_ret
      exact ⟨by rw [HE.out]; rfl, rfl⟩
/-- Is a number right, and below another? -/
def underB (x : List Nat) (m : Nat) : Bool := rightB x && decide (val x < m)
theorem cmp_under (x : List Nat) (m : Nat) (hm : limbsN m ≤ 256) (hr : rightB x = true) : decide (cmpZ x (num m) < 0) = underB x m := by
  have h1 : rightB (num m) = true := by
    rw [num_right]
    refine decide_eq_true ((num_len m 256).1 hm)
  unfold cmpZ underB cmpV
  rw [hr, h1, val_num]
  by_cases h2 : val x < m
  · rw [decide_eq_true h2]; simp [h2]
  · rw [decide_eq_false h2]
    by_cases h3 : m < val x
    · simp [h2, h3]
    · simp [h2, h3]
set_option maxHeartbeats 2000000 in
theorem below_any (g m : Nat) (A : Option Addr) (n c : Nat) (x : List Nat) (w : World) (hM : MD w g m) (hA : RU w A n x) (hn : n ≤ 1000000) :
    Calls Tryd.prog 44 #[.pointer (some ⟨g, 0, none⟩), .slice A n c] w fun e w' => e = .returned (.bool (underB x m)) ∧ Below w.heap.size w w' := by
  have R := right_any A n c x w hA (by omega)
  cases hr : rightB x with
  | false =>
    have hu : underB x m = false := by unfold underB; rw [hr]; rfl
    rw [hr] at R
    rw [hu]
    have R := Lib.hid R
    clear hr hu hA hM
    go_enter Tryd.func44, Tryd.ntmps44
    go_wp2_with fail
    refine R.out.mono ?_
    rintro e w' ⟨rfl, rfl⟩
    clear R
    go_wp2
    go_ret
    exact ⟨rfl, Below.refl _ _⟩
  | true =>
    rw [hr] at R
    have hn2 : n ≤ 256 := by have := ((rightB_iff x).1 hr).1; have := hA.len; omega
    obtain ⟨⟨M, k, d, Q, k2, d2, hk, h1, h2, h3, h4, h5, h6⟩, hi⟩ := hM
    have hl := hi.len
    obtain ⟨c1, _, _⟩ := cells_3 h1
    have CM := cmp_any A M n c k d x (num m) w hA h2 (by omega) (by omega)
    have hu := cmp_under x m (by omega) hr
    obtain ⟨z, hz⟩ : ∃ z, cmpZ x (num m) = z := ⟨_, rfl⟩
    rw [hz] at CM hu
    obtain ⟨b, hb⟩ : ∃ b, underB x m = b := ⟨_, rfl⟩
    rw [hb] at hu ⊢
    have R := Lib.hid R
    have CM := Lib.hid CM
    clear hr hA h1 h2 h3 h4 h5 h6 hl hk hi hz hb
    go_enter Tryd.func44, Tryd.ntmps44
    go_wp2_with fail
    refine R.out.mono ?_
    rintro e w' ⟨rfl, rfl⟩
    clear R
    go_wp2_with fail
    refine CM.out.mono ?_
    rintro e w' ⟨rfl, hbl⟩
    have HB := Lib.hid hbl
    clear CM hbl
    go_wp2
    go_ret
    exact ⟨rfl, HB.out⟩
theorem splice_pad (x : List Nat) (n : Nat) (h : x.length ≤ n) : splice (List.replicate n 0) 0 x = x ++ List.replicate (n - x.length) 0 := by
  unfold splice
  simp
theorem val_pad (x : List Nat) (k : Nat) : val (x ++ List.replicate k 0) = val x := by
  rw [val_append, val_zero, Nat.mul_zero, Nat.add_zero]
set_option maxHeartbeats 2000000 in
theorem padded_any (g m : Nat) (A : Option Addr) (k c : Nat) (x : List Nat) (w : World) (hM : MD w g m) (hA : RU w A k x) (hk : k ≤ limbsN m) :
    Calls Tryd.prog 45 #[.pointer (some ⟨g, 0, none⟩), .slice A k c] w (BlkPost w (limbsN m) (val x)) := by
  obtain ⟨⟨M, n, d, Q, k2, d2, hn, h1, h2, h3, h4, h5, h6⟩, hi⟩ := hM
  have hl := hi.len
  obtain ⟨c1, _, _⟩ := cells_3 h1
  rw [← hn] at hl hk ⊢
  have HA := Lib.hid hA
  have HN := Lib.hid hn
  have hlx := hA.len
  have hsp := splice_pad x n (by omega)
  have HSP := Lib.hid hsp
  have HX := Lib.hid hlx
  clear h1 h2 h3 h4 h5 h6 hi hA hn hsp hlx
  go_enter Tryd.func45, Tryd.ntmps45
  go_wp2_with (refine wpList_mkU _ _ rfl rfl _ _ _ _ n rfl rfl rfl rfl (by omega) ?_)
  intro w1 hblk hb1
  obtain ⟨G, hG⟩ : ∃ G, w.heap.size = G := ⟨_, rfl⟩
  have hwG : w.heap.size ≤ G := by omega
  rw [hG] at hblk ⊢
  have HB := Lib.hid hblk
  have HB1 := Lib.hid hb1
  have HGG := Lib.hid hG
  have RX := Lib.hid (HA.out.below hb1)
  clear hblk hb1 hG
  have hLL : k ≤ (List.replicate n 0).length := by rw [List.length_replicate]; exact hk
  go_wp2_with (with_reducible refine wpList_cpyU _ _ rfl rfl G n n k c A x (List.replicate n 0) rfl rfl HB.out RX.out hk hLL w.heap.size w HB1.out hwG ?_)
  intro w2 hk2 hb2
  rw [HSP.out] at hk2
  have HF : Hid (BlkU w2 G (x ++ List.replicate (n - x.length) 0) ∧ Below w.heap.size w w2) := ⟨hk2, hb2⟩
  clear hk2 hb2 HB HB1 RX HSP
  go_wp2
  go_ret
  exact ⟨_, by rw [HGG.out]; rfl, by rw [HGG.out]; exact HF.out.1, by have := HX.out; simp; omega, HA.out.lim.append (Lim.rep _), val_pad _ _, HF.out.2⟩
theorem mtrim_any (g n : Nat) (L : List Nat) (w : World) (h : BlkU w g L) (hl : L.length = n) (hn : n ≤ 1000000) :
    Calls Tryd.prog 48 #[.slice (some ⟨g, 0, none⟩) n n] w fun e w' => e = .returned (.slice (some ⟨g, 0, none⟩) (trimN L n) n) ∧ w = w' := by
  have HB := Lib.hid h
  have HL := Lib.hid hl
  clear h hl
  go_enter Tryd.func48, Tryd.ntmps48
  go_wp2
  go_loop [3] (fun vi => ∃ k : Nat, vi = .int .i64 (k : Int) ∧ k ≤ n ∧ Hid (trimN L n = trimN L k)) (fun vi => (intOf vi).toNat)
  case atStart => exact ⟨n, rfl, Nat.le_refl _, rfl⟩
  case round =>
    obtain ⟨k, rfl, hk, HK⟩ := hrel
    rcases k with _ | j
    · have i1 : ¬ ((0 : Nat) : Int) > 0 := by omega
      have HZ : Hid (trimN L n = 0) := HK.out
      clear HK
      go_wp2
      go_ret
      exact ⟨by rw [HZ.out]; rfl, rfl⟩
    · have i1 : ((j + 1 : Nat) : Int) > 0 := by omega
      have cj := HB.out.cell (j := j) (by rw [HL.out]; omega)
      obtain ⟨x, hx⟩ : ∃ x, L.getD j 0 = x := ⟨_, rfl⟩
      rw [hx] at cj
      have e1 : IntKind.i64.wrap (((j + 1 : Nat) : Int) - 1) = (j : Int) := by rw [show ((j + 1 : Nat) : Int) - 1 = j by omega]; exact IntWalk.i64_in _ (by omega)
      have i3 : (j : Int) < (n : Int) := by omega
      have i4 : (0 : Int) ≤ (j : Int) := by omega
      by_cases hx0 : x = 0
      · subst hx0
        have t1 : (((0 : Nat) : Int) == 0) = true := by simp
        have HN : Hid (trimN L n = trimN L j) := by unfold Hid; rw [HK.out, trimN, if_pos hx]
        clear HK hx
        go_wp2
        go_round
        case rel => exact ⟨j, rfl, by omega, HN⟩
        case measure => simp [intOf]
      · have t1 : ((x : Int) == 0) = false := by simp; omega
        have HN : Hid (trimN L n = j + 1) := by unfold Hid; rw [HK.out, trimN, if_neg (by rw [hx]; exact hx0)]
        have i5 : ((j + 1 : Nat) : Int) ≤ (n : Int) := by omega
        have HX := Lib.hid (And.intro hx hx0)
        clear HK hx hx0
        go_wp2
        go_ret
        exact ⟨by rw [HN.out]; rfl, rfl⟩
end Go.Proofs.YtbplchpbaonadaaDoor
