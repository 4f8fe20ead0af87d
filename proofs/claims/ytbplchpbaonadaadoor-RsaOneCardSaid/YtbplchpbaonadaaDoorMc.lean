/-
  mont: addTimes.
-/
import Derived.Test.YtbplchpbaonadaaDoorMb
namespace Go.Proofs.YtbplchpbaonadaaDoor
open Go.RowKit Go
set_option linter.unusedVariables false
set_option linter.unusedSimpArgs false
set_option maxRecDepth 100000
theorem add1_step (V2 V a c r q T Z : Nat) (h1 : V2 + a * T = V + r * T) (h2 : V + c * T = Z) (h3 : r + q * 4294967296 = a + c) : V2 + q * (T * 4294967296) = Z := by grind
theorem addm_step (V2 V a d f c r q T Z X : Nat) (h1 : V2 + a * T = V + r * T) (h2 : V + c * T = Z + f * X) (h3 : r + q * 4294967296 = a + d * f + c) : V2 + q * (T * 4294967296) = Z + f * (X + d * T) := by grind
theorem room_left {c i N T : Nat} (hc : 0 < c) (h : c * 4294967296 ^ i ≤ T) (hT : T < 4294967296 ^ N) : i < N := by
  rcases Nat.lt_or_ge i N with h1 | h1
  · exact h1
  · have h2 : 1 * 4294967296 ^ i ≤ c * 4294967296 ^ i := Nat.mul_le_mul_right _ hc
    have h3 := Nat.pow_le_pow_right (show 0 < 4294967296 by decide) h1
    omega
set_option maxHeartbeats 8000000 in
theorem addTimes_any (K N : Nat) (A : Option Addr) (n c f : Nat) (Z x : List Nat) (w0 w : World) (hK : BlkU w K Z) (hZ : Z.length = N) (lZ : Lim Z) (hA : RU w0 A n x) (hb : Below w0.heap.size w0 w) (hwK : w0.heap.size ≤ K) (hn : n ≤ N) (hN : N ≤ 1000) (hf : f < 4294967296) (hv : val Z + f * val x < 4294967296 ^ N) :
    Calls Tryd.prog 69 #[.slice (some ⟨K, 0, none⟩) N N, .slice A n c, .int .u32 (f : Int)] w fun e w' => e = .returned (.tuple #[]) ∧ (∃ Z2, BlkU w' K Z2 ∧ Z2.length = N ∧ Lim Z2 ∧ val Z2 = val Z + f * val x) ∧ Below w0.heap.size w0 w' := by
  have HA := Lib.hid hA
  have H0 : Hid (BlkU w K Z ∧ Z.length = N ∧ Lim Z ∧ Below w0.heap.size w0 w) := ⟨hK, hZ, lZ, hb⟩
  have HV := Lib.hid hv
  clear hK hZ lZ hA hb hv
  go_enter Tryd.func69, Tryd.ntmps69
  go_wp2
  go_loopw [6, 14] (fun vc vi wl => ∃ (i cy : Nat) (Z2 : List Nat), vc = .int .u64 (cy : Int) ∧ vi = .int .i64 (i : Int) ∧ i ≤ n ∧ cy < 4294967296 ∧ Hid (BlkU wl K Z2 ∧ Z2.length = N ∧ Lim Z2 ∧ val Z2 + cy * 4294967296 ^ i = val Z + f * val (x.take i) ∧ Below w0.heap.size w0 wl)) (fun _ vi _ => n - (intOf vi).toNat)
  case atStart => exact ⟨0, 0, Z, rfl, rfl, Nat.zero_le _, by decide, H0.out.1, H0.out.2.1, H0.out.2.2.1, by simp [val], H0.out.2.2.2⟩
  case round =>
    obtain ⟨i, cy, Z2, rfl, rfl, hi, hcy, HK⟩ := hrel
    clear H0
    by_cases hlt : i < n
    · as_aux_lemma =>
      have i1 : (i : Int) < (n : Int) := by omega
      have i2 : (0 : Int) ≤ (i : Int) := by omega
      have i3 : (i : Int) < (N : Int) := by omega
      have e3 : IntKind.i64.wrap ((i : Int) + 1) = (i : Int) + 1 := IntWalk.i64_in _ (by omega)
      obtain ⟨f1, f2, f3, f4, f5⟩ := HK.out
      obtain ⟨bx, ox, rfl, hbx, cx⟩ := HA.out.at_ (j := i) (by omega)
      have cx1 := (f5.cell (p := ⟨bx, ox + i, none⟩) hbx).trans cx
      have hd32 := HA.out.lim.getD i
      have tx := val_take1 x i
      obtain ⟨d, hd⟩ : ∃ d, x.getD i 0 = d := ⟨_, rfl⟩
      rw [hd] at cx1 hd32 tx
      have cz := f1.cell (j := i) (by omega)
      have fz := f1.free i
      have ha32 := f3.getD i
      have hvs := fun r => val_set Z2 i r (by omega)
      obtain ⟨a, hae⟩ : ∃ a, Z2.getD i 0 = a := ⟨_, rfl⟩
      rw [hae] at cz ha32 hvs
      have hpl : d * f ≤ 4294967295 * 4294967295 := Nat.mul_le_mul (by omega) (by omega)
      have hpi : (d : Int) * (f : Int) = ((d * f : Nat) : Int) := by push_cast; rfl
      obtain ⟨pp, hpp⟩ : ∃ pp, d * f = pp := ⟨_, rfl⟩
      rw [hpp] at hpl hpi
      obtain ⟨pa, hpa⟩ : ∃ pa, a + pp = pa := ⟨_, rfl⟩
      obtain ⟨s, hs⟩ : ∃ s, pa + cy = s := ⟨_, rfl⟩
      have u1 : IntKind.u64.wrap ((d : Int) * (f : Int)) = (pp : Int) := by rw [hpi]; exact IntWalk.u64_in _ (by omega)
      have u2 : IntKind.u64.wrap ((a : Int) + (pp : Int)) = (pa : Int) := by rw [show (a : Int) + pp = pa by omega]; exact IntWalk.u64_in _ (by omega)
      have u3 : IntKind.u64.wrap ((pa : Int) + (cy : Int)) = (s : Int) := by rw [show (pa : Int) + cy = s by omega]; exact IntWalk.u64_in _ (by omega)
      have hsl : s < 18446744073709551616 := by omega
      obtain ⟨r, hr⟩ : ∃ r, s % 4294967296 = r := ⟨_, rfl⟩
      obtain ⟨q, hq⟩ : ∃ q, s / 4294967296 = q := ⟨_, rfl⟩
      have hrq : r + q * 4294967296 = a + d * f + cy := by rw [hpp]; omega
      have hr32 : r < 4294967296 := by omega
      have hq32 : q < 4294967296 := by omega
      have u4 : (s : Int) % 4294967296 = (r : Int) := by omega
      have u5 : (s : Int) / 4294967296 = (q : Int) := by omega
      have HV2 := Lib.hid (show val (Z2.set i r) + q * 4294967296 ^ (i + 1) = val Z + f * val (x.take (i + 1)) by
        rw [Nat.pow_succ, tx]
        exact addm_step _ _ a d f cy r q _ _ _ (hvs r) f4 hrq)
      have HN : Hid (BlkU (wr.setCell ⟨K, i, none⟩ (.int .u32 (r : Int))) K (Z2.set i r) ∧ (Z2.set i r).length = N ∧ Lim (Z2.set i r) ∧ val (Z2.set i r) + q * 4294967296 ^ (i + 1) = val Z + f * val (x.take (i + 1)) ∧ Below w0.heap.size w0 (wr.setCell ⟨K, i, none⟩ (.int .u32 (r : Int)))) :=
        ⟨f1.set i r, by rw [List.length_set]; exact f2, f3.set i hr32, HV2.out, kp_set f5 hwK⟩
      clear f1 f2 f3 f4 f5 tx hvs hd hae hpi hpp hpa hs hr hq hrq cx HK HV2 hpl
      go_wp2
      go_roundw
      case rel => exact ⟨i + 1, q, _, rfl, by go_num, by omega, hq32, HN⟩
      case measure => simp [intOf]; omega
    · as_aux_lemma =>
      have i1 : ¬ (i : Int) < (n : Int) := by omega
      have hin : i = n := by omega
      have H1 : Hid (BlkU wr K Z2 ∧ Z2.length = N ∧ Lim Z2 ∧ val Z2 + cy * 4294967296 ^ n = val Z + f * val x ∧ Below w0.heap.size w0 wr) := by
        obtain ⟨f1, f2, f3, f4, f5⟩ := HK.out
        rw [hin, take_all (by rw [HA.out.len]; omega)] at f4
        exact ⟨f1, f2, f3, f4, f5⟩
      clear HK hin
      go_wp2
      go_loopw [6, 10] (fun vc vi wl => ∃ (k cy : Nat) (Z3 : List Nat), vc = .int .u64 (cy : Int) ∧ vi = .int .i64 (k : Int) ∧ k ≤ N ∧ cy < 4294967296 ∧ Hid (BlkU wl K Z3 ∧ Z3.length = N ∧ Lim Z3 ∧ val Z3 + cy * 4294967296 ^ k = val Z + f * val x ∧ Below w0.heap.size w0 wl)) (fun _ vi _ => N - (intOf vi).toNat)
      case atStart => exact ⟨n, cy, Z2, rfl, rfl, hn, hcy, H1⟩
      case round =>
        obtain ⟨k, cy3, Z3, rfl, rfl, hk, hcy3, HJ⟩ := hrel
        clear H1
        by_cases hc0 : 0 < cy3
        · as_aux_lemma =>
          obtain ⟨f1, f2, f3, f4, f5⟩ := HJ.out
          have hkN : k < N := room_left hc0 (by rw [← f4]; exact Nat.le_add_left _ _) HV.out
          have j1 : (cy3 : Int) > 0 := by omega
          have i2 : (0 : Int) ≤ (k : Int) := by omega
          have i3 : (k : Int) < (N : Int) := by omega
          have e3 : IntKind.i64.wrap ((k : Int) + 1) = (k : Int) + 1 := IntWalk.i64_in _ (by omega)
          have cz := f1.cell (j := k) (by omega)
          have fz := f1.free k
          have ha32 := f3.getD k
          have hvs := fun r => val_set Z3 k r (by omega)
          obtain ⟨a, hae⟩ : ∃ a, Z3.getD k 0 = a := ⟨_, rfl⟩
          rw [hae] at cz ha32 hvs
          obtain ⟨s, hs⟩ : ∃ s, a + cy3 = s := ⟨_, rfl⟩
          have u3 : IntKind.u64.wrap ((a : Int) + (cy3 : Int)) = (s : Int) := by rw [show (a : Int) + cy3 = s by omega]; exact IntWalk.u64_in _ (by omega)
          obtain ⟨r, hr⟩ : ∃ r, s % 4294967296 = r := ⟨_, rfl⟩
          obtain ⟨q, hq⟩ : ∃ q, s / 4294967296 = q := ⟨_, rfl⟩
          have hrq : r + q * 4294967296 = a + cy3 := by omega
          have hr32 : r < 4294967296 := by omega
          have hq32 : q < 4294967296 := by omega
          have u4 : (s : Int) % 4294967296 = (r : Int) := by omega
          have u5 : (s : Int) / 4294967296 = (q : Int) := by omega
          have HV2 := Lib.hid (show val (Z3.set k r) + q * 4294967296 ^ (k + 1) = val Z + f * val x by
            rw [Nat.pow_succ]
            exact add1_step _ _ a cy3 r q _ _ (hvs r) f4 hrq)
          have HN : Hid (BlkU (wr.setCell ⟨K, k, none⟩ (.int .u32 (r : Int))) K (Z3.set k r) ∧ (Z3.set k r).length = N ∧ Lim (Z3.set k r) ∧ val (Z3.set k r) + q * 4294967296 ^ (k + 1) = val Z + f * val x ∧ Below w0.heap.size w0 (wr.setCell ⟨K, k, none⟩ (.int .u32 (r : Int)))) :=
            ⟨f1.set k r, by rw [List.length_set]; exact f2, f3.set k hr32, HV2.out, kp_set f5 hwK⟩
          clear f1 f2 f3 f4 f5 hvs hae hs hr hq hrq HJ HV2
          go_wp2
          go_roundw
          case rel => exact ⟨k + 1, q, _, rfl, by go_num, by omega, hq32, HN⟩
          case measure => simp [intOf]; omega
        · as_aux_lemma =>
          have j1 : ¬ (cy3 : Int) > 0 := by omega
          have HF : Hid ((∃ Z2, BlkU wr K Z2 ∧ Z2.length = N ∧ Lim Z2 ∧ val Z2 = val Z + f * val x) ∧ Below w0.heap.size w0 wr) := by
            obtain ⟨f1, f2, f3, f4, f5⟩ := HJ.out
            rw [show cy3 = 0 by omega, Nat.zero_mul, Nat.add_zero] at f4
            exact ⟨⟨Z3, f1, f2, f3, f4⟩, f5⟩
          clear HJ
          go_wp2
          go_end0
          exact ⟨rfl, HF.out⟩
end Go.Proofs.YtbplchpbaonadaaDoor
