/-
  nat: left, right, guess.
-/
import Derived.Test.YtbplchpbaonadaaDoorNj
import Derived.Laws.BitsAllLaws
namespace Go.Proofs.YtbplchpbaonadaaDoor
open Go.RowKit Go
set_option linter.unusedVariables false
set_option linter.unusedSimpArgs false
set_option maxRecDepth 100000
theorem run_shl64 (x s r : Nat) (hs : s ≤ 64) (hr : x * 2 ^ s = r) (hb : r < 18446744073709551616) (w : World) : (Op.shift BinOp.shl IntKind.u64 (x : Int) IntKind.i64 (s : Int)).run Tryd.prog w = .ok (.int .u64 (r : Int)) w := by
  unfold Op.shift
  rw [if_neg (by omega)]
  have hm : min (s : Int).toNat IntKind.u64.bits = s := by
    show min (s : Int).toNat 64 = s
    omega
  simp only [hm]
  have e : IntKind.u64.wrap ((x : Int) * 2 ^ s) = (r : Int) := by
    rw [show (x : Int) * 2 ^ s = ((x * 2 ^ s : Nat) : Int) by push_cast; rfl, hr]
    exact IntWalk.u64_in _ (by omega)
  rw [e]
  rfl
theorem run_shr64 (x s r : Nat) (hs : s ≤ 64) (hr : x / 2 ^ s = r) (w : World) : (Op.shift BinOp.shr IntKind.u64 (x : Int) IntKind.i64 (s : Int)).run Tryd.prog w = .ok (.int .u64 (r : Int)) w := by
  unfold Op.shift
  rw [if_neg (by omega)]
  have hm : min (s : Int).toNat IntKind.u64.bits = s := by
    show min (s : Int).toNat 64 = s
    omega
  simp only [hm]
  rw [Int.fdiv_eq_ediv_of_nonneg _ (Int.pow_nonneg (by decide))]
  rw [show (x : Int) / 2 ^ s = ((x / 2 ^ s : Nat) : Int) by push_cast; rfl, hr]
  rfl
/-- The low part of a limb that went to the left, and what was over of the limb before. -/
theorem low_or (d s c : Nat) (hs : s ≤ 31) (hc : c < 2 ^ s) : (c ||| d * 2 ^ s % 4294967296) = d * 2 ^ s % 4294967296 + c ∧ d * 2 ^ s % 4294967296 + c < 4294967296 := by
  have hp : (4294967296 : Nat) = 2 ^ (32 - s) * 2 ^ s := by rw [← Nat.pow_add, show 32 - s + s = 32 by omega]
  have e : d * 2 ^ s % 4294967296 = d % 2 ^ (32 - s) * 2 ^ s := by
    conv => lhs; rw [hp]
    exact Nat.mul_mod_mul_right _ _ _
  have hl : d % 2 ^ (32 - s) < 2 ^ (32 - s) := Nat.mod_lt _ (Nat.pow_pos (by decide))
  rw [e, Nat.or_comm, or_sum _ _ _ hc]
  refine ⟨rfl, ?_⟩
  have h2 : (d % 2 ^ (32 - s) + 1) * 2 ^ s ≤ 2 ^ (32 - s) * 2 ^ s := Nat.mul_le_mul_right _ hl
  rw [← hp, Nat.add_mul, Nat.one_mul] at h2
  omega
theorem high_lt (d s : Nat) (hd : d < 4294967296) : d * 2 ^ s / 4294967296 < 2 ^ s := by
  rw [Nat.div_lt_iff_lt_mul (by decide), Nat.mul_comm]
  exact Nat.mul_lt_mul_of_pos_left hd (Nat.pow_pos (by decide))
theorem pow_31 (s : Nat) (hs : s ≤ 31) : 2 ^ s ≤ 2147483648 := by
  have := Nat.pow_le_pow_right (show 0 < 2 by decide) hs
  exact this
/-- A whole new block of limbs. -/
def BlkPost (w : World) (N v : Nat) (e : Ending) (w' : World) : Prop :=
  ∃ Z, e = .returned (.slice (some ⟨w.heap.size, 0, none⟩) N N) ∧ BlkU w' w.heap.size Z ∧ Z.length = N ∧ Lim Z ∧ val Z = v ∧ Below w.heap.size w w'
set_option maxHeartbeats 4000000 in
theorem left_any (A : Option Addr) (n c s : Nat) (l : List Nat) (w : World) (h : RU w A n l) (hn : n ≤ 1000) (hs : s ≤ 31) :
    Calls Tryd.prog 64 #[.slice A n c, .int .i64 (s : Int)] w (BlkPost w (n + 1) (val l * 2 ^ s)) := by
  have HA := Lib.hid h
  have e1 : IntKind.i64.wrap ((n : Int) + 1) = ((n + 1 : Nat) : Int) := by rw [show (n : Int) + 1 = ((n + 1 : Nat) : Int) by omega]; exact IntWalk.i64_in _ (by omega)
  obtain ⟨N, hN⟩ : ∃ N, n + 1 = N := ⟨_, rfl⟩
  rw [hN] at e1 ⊢
  have hN2 : n < N := by omega
  have hN3 : N ≤ 1001 := by omega
  have HN1 := Lib.hid hN
  clear h hN
  go_enter Tryd.func64, Tryd.ntmps64
  go_wp2_with (refine wpList_mkU _ _ rfl rfl _ _ _ _ N rfl rfl rfl rfl (by omega) ?_)
  intro w1 hblk hb1
  obtain ⟨G, hG⟩ : ∃ G, w.heap.size = G := ⟨_, rfl⟩
  have hwG : w.heap.size ≤ G := by omega
  rw [hG] at hblk ⊢
  have H1 : Hid (BlkU w1 G (List.replicate N 0) ∧ Below w.heap.size w w1) := ⟨hblk, hb1⟩
  have HG := Lib.hid hG
  clear hblk hb1 hG
  go_wp2
  go_loopw [15] (fun vi wl => ∃ (i : Nat) (Z : List Nat), vi = .int .i64 (i : Int) ∧ i ≤ n ∧ Hid (BlkU wl G Z ∧ Z.length = N ∧ Lim Z ∧ val (Z.take i) + Z.getD i 0 * 4294967296 ^ i = val (l.take i) * 2 ^ s ∧ Z.getD i 0 < 2 ^ s ∧ Below w.heap.size w wl)) (fun vi _ => n - (intOf vi).toNat)
  case atStart => exact ⟨0, List.replicate N 0, rfl, Nat.zero_le _, H1.out.1, by simp, Lim.rep N, by rw [List.getD_eq_getElem?_getD, List.getElem?_replicate]; split <;> simp [val], by rw [List.getD_eq_getElem?_getD, List.getElem?_replicate]; split <;> exact Nat.pow_pos (by decide), H1.out.2⟩
  case round =>
    obtain ⟨i, Z, rfl, hi, HK⟩ := hrel
    clear H1
    by_cases hlt : i < n
    · have i1 : (i : Int) < (n : Int) := by omega
      have i2 : (0 : Int) ≤ (i : Int) := by omega
      have i3 : (i : Int) < (N : Int) := by omega
      have i4 : ((i + 1 : Nat) : Int) < (N : Int) := by omega
      have i5 : (0 : Int) ≤ ((i + 1 : Nat) : Int) := by omega
      have e3 : IntKind.i64.wrap ((i : Int) + 1) = ((i + 1 : Nat) : Int) := by rw [show (i : Int) + 1 = ((i + 1 : Nat) : Int) by omega]; exact IntWalk.i64_in _ (by omega)
      obtain ⟨f1, f2, f3, f4, f5, f6⟩ := HK.out
      obtain ⟨bx, ox, rfl, hbx, cx⟩ := HA.out.at_ (j := i) (by omega)
      have cx1 := (f6.cell (p := ⟨bx, ox + i, none⟩) hbx).trans cx
      have hd32 := HA.out.lim.getD i
      have tx := val_take1 l i
      obtain ⟨d, hd⟩ : ∃ d, l.getD i 0 = d := ⟨_, rfl⟩
      rw [hd] at cx1 hd32 tx
      have cz := f1.cell (j := i) (by omega)
      have fz := f1.free i
      obtain ⟨cy, hcy⟩ : ∃ cy, Z.getD i 0 = cy := ⟨_, rfl⟩
      rw [hcy] at cz f4 f5
      obtain ⟨o1, o2⟩ := low_or d s cy hs f5
      have hst := left_step _ _ d (4294967296 ^ i) _ cy f4
      have hh := high_lt d s hd32
      have hp31 := pow_31 s hs
      obtain ⟨wd, hwd⟩ : ∃ wd, d * 2 ^ s = wd := ⟨_, rfl⟩
      have hwb : wd < 18446744073709551616 := by
        have := Nat.mul_le_mul (show d ≤ 4294967295 by omega) hp31
        omega
      have es : IntKind.u64.wrap ((d : Int) * 2 ^ s) = (wd : Int) := by
        rw [show (d : Int) * 2 ^ s = ((d * 2 ^ s : Nat) : Int) by push_cast; rfl, hwd]
        exact IntWalk.u64_in _ (by omega)
      rw [hwd] at o1 o2 hst hh
      obtain ⟨lo, hlo⟩ : ∃ lo, wd % 4294967296 = lo := ⟨_, rfl⟩
      obtain ⟨hi9, hhi⟩ : ∃ hi9, wd / 4294967296 = hi9 := ⟨_, rfl⟩
      rw [hlo] at o1 o2 hst
      rw [hhi] at hst hh
      have m1 : (wd : Int) % 4294967296 = (lo : Int) := by omega
      have m2 : (wd : Int) / 4294967296 = (hi9 : Int) := by omega
      have m3 : (hi9 : Int) % 4294967296 = (hi9 : Int) := by omega
      have hlo32 : lo < 4294967296 := by omega
      have hor : bits .or .u32 (cy : Int) (lo : Int) = ((lo + cy : Nat) : Int) := by
        rw [u32_or_nat _ _ (by omega) (by omega), o1]
      obtain ⟨r, hr⟩ : ∃ r, lo + cy = r := ⟨_, rfl⟩
      rw [hr] at hor o2 hst
      have hhi32 : hi9 < 4294967296 := by omega
      have c2 : ∀ u, (wr.setCell ⟨G, i, none⟩ u).frozen? ⟨G, i + 1, none⟩ = false := fun u => by rw [World.frozen?_setCell]; exact f1.free (i + 1)
      have c3 := (f1.set i r).cell (j := i + 1) (by simp; omega)
      have c4 := (f1.set i r).free (i + 1)
      have HN : Hid (BlkU ((wr.setCell ⟨G, i, none⟩ (.int .u32 (r : Int))).setCell ⟨G, i + 1, none⟩ (.int .u32 (hi9 : Int))) G ((Z.set i r).set (i + 1) hi9) ∧ ((Z.set i r).set (i + 1) hi9).length = N ∧ Lim ((Z.set i r).set (i + 1) hi9) ∧ val (((Z.set i r).set (i + 1) hi9).take (i + 1)) + ((Z.set i r).set (i + 1) hi9).getD (i + 1) 0 * 4294967296 ^ (i + 1) = val (l.take (i + 1)) * 2 ^ s ∧ ((Z.set i r).set (i + 1) hi9).getD (i + 1) 0 < 2 ^ s ∧ Below w.heap.size w ((wr.setCell ⟨G, i, none⟩ (.int .u32 (r : Int))).setCell ⟨G, i + 1, none⟩ (.int .u32 (hi9 : Int)))) := by
        refine ⟨(f1.set i r).set (i + 1) hi9, by simp [f2], (f3.set i o2).set _ hhi32, ?_, ?_, kp_set (kp_set f6 hwG) hwG⟩
        · rw [getD_set_same _ _ _ (by simp; omega), List.take_set_of_le (Nat.le_refl _), val_take_set Z i r (by omega), tx, Nat.pow_succ]
          exact hst
        · rw [getD_set_same _ _ _ (by simp; omega)]
          exact hh
      clear f1 f2 f3 f4 f5 f6 hst hh o1 o2 hd tx hcy cx hwd hlo hhi hr hp31 HK
      go_wp2
      go_roundw
      case rel => exact ⟨i + 1, _, by go_num, by omega, HN⟩
      case measure => simp [intOf]; omega
    · have i1 : ¬ (i : Int) < (n : Int) := by omega
      have HF : Hid (∃ Z, BlkU wr G Z ∧ Z.length = N ∧ Lim Z ∧ val Z = val l * 2 ^ s ∧ Below w.heap.size w wr) := by
        obtain ⟨f1, f2, f3, f4, f5, f6⟩ := HK.out
        refine ⟨Z, f1, f2, f3, ?_, f6⟩
        have hin : i = n := by omega
        rw [hin, ← val_take1, take_all (show l.length ≤ n by rw [HA.out.len]; omega), HN1.out, take_all (by omega)] at f4
        exact f4
      clear HK
      go_wp2
      go_ret
      obtain ⟨Z9, q1, q2, q3, q4, q5⟩ := HF.out
      exact ⟨Z9, by rw [HG.out]; rfl, by rw [HG.out]; exact q1, q2, q3, q4, q5⟩
theorem limb_q (A : Option Addr) (n c i : Nat) (l : List Nat) (w : World) (h : RU w A n l) (hn : n ≤ 1000000) (hi : i ≤ 1000000) :
    Calls Tryd.prog 50 #[.slice A n c, .int .i64 (i : Int)] w fun e w' => e = .returned (.int .u32 ((l.getD i 0 : Nat) : Int)) ∧ w' = w := (limb_any A n c i l w h hn hi).mono fun _ _ h => ⟨h.1, h.2.symm⟩
theorem run_or64 (a b : Nat) (ha : a < 4294967296) (hb : b < 4294967296) : bits .or .u64 ((a * 4294967296 : Nat) : Int) (b : Int) = ((a * 4294967296 + b : Nat) : Int) := by
  rw [u64_or_nat _ _ (by omega) (by omega)]
  have := or_sum a b 32 hb
  rw [show (2 : Nat) ^ 32 = 4294967296 by decide] at this
  rw [this]
set_option maxHeartbeats 4000000 in
theorem shr_any (A : Option Addr) (n c s : Nat) (l : List Nat) (w : World) (h : RU w A n l) (hn : n ≤ 1000) (hs : s ≤ 31) :
    Calls Tryd.prog 66 #[.slice A n c, .int .i64 (s : Int)] w (BlkPost w n (val l / 2 ^ s)) := by
  have HA := Lib.hid h
  clear h
  go_enter Tryd.func66, Tryd.ntmps66
  go_wp2_with (refine wpList_mkU _ _ rfl rfl _ _ _ _ n rfl rfl rfl rfl (by omega) ?_)
  intro w1 hblk hb1
  obtain ⟨G, hG⟩ : ∃ G, w.heap.size = G := ⟨_, rfl⟩
  have hwG : w.heap.size ≤ G := by omega
  rw [hG] at hblk ⊢
  have H1 : Hid (BlkU w1 G (List.replicate n 0) ∧ Below w.heap.size w w1) := ⟨hblk, hb1⟩
  have HG := Lib.hid hG
  clear hblk hb1 hG
  go_wp2
  go_loopw [13] (fun vi wl => ∃ (i : Nat) (Z : List Nat), vi = .int .i64 (i : Int) ∧ i ≤ n ∧ Hid (BlkU wl G Z ∧ Z.length = n ∧ Lim Z ∧ val (Z.take i) = val l / 2 ^ s % 4294967296 ^ i ∧ Below w.heap.size w wl)) (fun vi _ => n - (intOf vi).toNat)
  case atStart => exact ⟨0, List.replicate n 0, rfl, Nat.zero_le _, H1.out.1, by simp, Lim.rep n, by simp [val, Nat.mod_one], H1.out.2⟩
  case round =>
    obtain ⟨i, Z, rfl, hi, HK⟩ := hrel
    clear H1
    by_cases hlt : i < n
    · have i1 : (i : Int) < (n : Int) := by omega
      have i2 : (0 : Int) ≤ (i : Int) := by omega
      obtain ⟨k1, hk1⟩ : ∃ k1, i + 1 = k1 := ⟨_, rfl⟩
      have e3 : IntKind.i64.wrap ((i : Int) + 1) = (k1 : Int) := by rw [show (i : Int) + 1 = (k1 : Int) by omega]; exact IntWalk.i64_in _ (by omega)
      obtain ⟨f1, f2, f3, f4, f5⟩ := HK.out
      have HK1 := Lib.hid hk1
      obtain ⟨bx, ox, rfl, hbx, cx⟩ := HA.out.at_ (j := i) (by omega)
      have cx1 := (f5.cell (p := ⟨bx, ox + i, none⟩) hbx).trans cx
      have LM := fun k => limb_q (some ⟨bx, ox, none⟩) n c k1 l (wr.drewN k) (HA.out.below (kp_drewN f5 k)) (by omega) (by omega)
      have ha := HA.out.lim.getD i
      have hb := HA.out.lim.getD (i + 1)
      have hrd := right_digit (val l) (4294967296 ^ i) s (by omega)
      rw [Nat.div_div_eq_div_mul (val l), ← Nat.pow_succ, ← val_digit l HA.out.lim i, ← val_digit l HA.out.lim (i + 1)] at hrd
      have hms := mod_step (val l / 2 ^ s) (4294967296 ^ i)
      obtain ⟨a, hae⟩ : ∃ a, l.getD i 0 = a := ⟨_, rfl⟩
      obtain ⟨b, hbe⟩ : ∃ b, l.getD (i + 1) 0 = b := ⟨_, rfl⟩
      rw [hae] at cx1 ha hrd
      rw [hbe] at hb hrd
      have hbk : l.getD k1 0 = b := by rw [← hk1]; exact hbe
      rw [hbk] at LM
      have LM := Lib.hid LM
      have es : IntKind.u64.wrap ((b : Int) * 4294967296) = ((b * 4294967296 : Nat) : Int) := by
        rw [show (b : Int) * 4294967296 = ((b * 4294967296 : Nat) : Int) by omega]
        exact IntWalk.u64_in _ (by omega)
      have hor := run_or64 b a hb ha
      obtain ⟨hi9, hhi⟩ : ∃ hi9, b * 4294967296 = hi9 := ⟨_, rfl⟩
      obtain ⟨u, hu⟩ : ∃ u, hi9 + a = u := ⟨_, rfl⟩
      rw [hhi] at es hor hrd
      rw [hu] at hor hrd
      have hub : u < 18446744073709551616 := by omega
      have eq2 : (u : Int) / 2 ^ s = ((u / 2 ^ s : Nat) : Int) := by push_cast; rfl
      obtain ⟨q, hq⟩ : ∃ q, u / 2 ^ s = q := ⟨_, rfl⟩
      rw [hq] at eq2 hrd
      have em : (q : Int) % 4294967296 = ((q % 4294967296 : Nat) : Int) := by omega
      have hr32 : q % 4294967296 < 4294967296 := Nat.mod_lt _ (by decide)
      obtain ⟨r, hr⟩ : ∃ r, q % 4294967296 = r := ⟨_, rfl⟩
      rw [hr] at em hrd hr32
      have cz : ∀ k, (wr.drewN k).cell? ⟨G, i, none⟩ = some (.int .u32 ((Z.getD i 0 : Nat) : Int)) := fun k => (f1.drewN k).cell (j := i) (by omega)
      have fz : ∀ k, (wr.drewN k).frozen? ⟨G, i, none⟩ = false := fun k => (f1.drewN k).free i
      have F7 := Lib.hid f5
      have HN : Hid (∀ k, BlkU ((wr.drewN k).setCell ⟨G, i, none⟩ (.int .u32 (r : Int))) G (Z.set i r) ∧ (Z.set i r).length = n ∧ Lim (Z.set i r) ∧ val ((Z.set i r).take (i + 1)) = val l / 2 ^ s % 4294967296 ^ (i + 1) ∧ Below w.heap.size w ((wr.drewN k).setCell ⟨G, i, none⟩ (.int .u32 (r : Int)))) := fun k => by
        refine ⟨(f1.drewN k).set i r, by simp [f2], f3.set i hr32, ?_, kp_set (kp_drewN f5 k) hwG⟩
        rw [val_take_set Z i r (by omega), f4, Nat.pow_succ, hms, hrd]
      clear f1 f2 f3 f4 f5 hrd hms hae hbe hbk hk1 cx hhi hu hq hr HK
      go_wp2_with fail
      go_quiet ((go_at_call 50; (with_reducible exact Calls.quiet_of_same (LM.out _))))
      rename_i nq
      have g1 := cz nq
      have g2 := fz nq
      have HQ := Lib.hid (HN.out nq)
      clear cz fz HN
      generalize wr.drewN nq = wq at *
      go_wp2
      go_roundw
      case rel => exact ⟨i + 1, _, by rw [HK1.out], by omega, HQ⟩
      case measure => have hk9 := HK1.out; simp [intOf]; omega
    · have i1 : ¬ (i : Int) < (n : Int) := by omega
      have HF : Hid (BlkPost w n (val l / 2 ^ s) (.returned (.slice (some ⟨G, 0, none⟩) n n)) wr) := by
        obtain ⟨f1, f2, f3, f4, f5⟩ := HK.out
        have hin : i = n := by omega
        rw [hin, take_all (by omega)] at f4
        have hvl := val_lt l HA.out.lim
        rw [HA.out.len] at hvl
        rw [Nat.mod_eq_of_lt (Nat.lt_of_le_of_lt (Nat.div_le_self _ _) hvl)] at f4
        exact ⟨Z, by rw [HG.out], by rw [HG.out]; exact f1, f2, f3, f4, f5⟩
      clear HK
      go_wp2
      go_ret
      exact HF.out
end Go.Proofs.YtbplchpbaonadaaDoor
