/-
  nat: Of, Octets.
-/
import Derived.Test.YtbplchpbaonadaaDoorNp
import Derived.Test.YtbplchpbaonadaaDoorNk
import Derived.Test.YtbplchpbaonadaaDoorRef
namespace Go.Proofs.YtbplchpbaonadaaDoor
open Go.RowKit Go
set_option linter.unusedVariables false
set_option linter.unusedSimpArgs false
set_option maxRecDepth 100000
def ofQ (bs : List UInt8) : List Nat × Nat := if bs.length ≤ 512 then (num (beV bs), 0) else ([], 10)
theorem pow_bytes (n m : Nat) (h : 8 * n ≤ 32 * m) : 256 ^ n ≤ 4294967296 ^ m := by
  rw [show (256 : Nat) = 2 ^ 8 by decide, show (4294967296 : Nat) = 2 ^ 32 by decide, ← Nat.pow_mul, ← Nat.pow_mul]
  exact Nat.pow_le_pow_right (by decide) h
theorem ofQ_len (bs : List UInt8) (h : bs.length ≤ 512) : (num (beV bs)).length ≤ 256 := by
  rw [num_len]
  exact Nat.lt_of_lt_of_le (beV_lt bs) (pow_bytes _ _ (by omega))
set_option maxHeartbeats 8000000 in
theorem of_any (A : Option Addr) (n c : Nat) (bs : List UInt8) (w : World) (h : RB w A n bs) (hn : n ≤ 1000000) :
    Calls Tryd.prog 23 #[.slice A n c] w (NumR w (ofQ bs)) := by
  have hl := h.1
  by_cases h5 : n ≤ 512
  · rw [show ofQ bs = (num (beV bs), 0) by unfold ofQ; rw [if_pos (by omega)]]
    have i1 : ¬ (n : Int) > 512 := by omega
    obtain ⟨N, hN⟩ : ∃ N, (n + 3) / 4 = N := ⟨_, rfl⟩
    have e1 : IntKind.i64.wrap ((n : Int) + 3) = ((n + 3 : Nat) : Int) := by rw [show (n : Int) + 3 = ((n + 3 : Nat) : Int) by omega]; exact IntWalk.i64_in _ (by omega)
    obtain ⟨n3, hn3⟩ : ∃ n3, n + 3 = n3 := ⟨_, rfl⟩
    rw [hn3] at e1 hN
    have e2 : (n3 : Int) / 4 = (N : Int) := by omega
    have hN2 : N ≤ 200 := by omega
    have HA := Lib.hid h
    have H256 := Lib.hid (ofQ_len bs (by omega))
    have HNN := Lib.hid (And.intro hn3 hN)
    clear h hl h5 hn3 hN
    go_enter Tryd.func23, Tryd.ntmps23
    go_wp2_with (refine wpList_mkU _ _ rfl rfl _ _ _ _ N rfl rfl rfl rfl (by omega) ?_)
    intro w1 hblk hb1
    obtain ⟨G, hG⟩ : ∃ G, w.heap.size = G := ⟨_, rfl⟩
    have hwG : w.heap.size ≤ G := by omega
    rw [hG] at hblk ⊢
    have H1 : Hid (BlkU w1 G (List.replicate N 0) ∧ Below w.heap.size w w1) := ⟨hblk, hb1⟩
    clear hblk hb1
    have HG := Lib.hid hG
    clear hG
    go_wp2
    go_loopw [16] (fun vi wl => ∃ (i : Nat) (Z : List Nat), vi = .int .i64 (i : Int) ∧ i ≤ n ∧ Hid (BlkU wl G Z ∧ Z.length = N ∧ Lim Z ∧ val Z = tailV bs i ∧ Below w.heap.size w wl)) (fun vi _ => n - (intOf vi).toNat)
    case atStart => exact ⟨0, List.replicate N 0, rfl, Nat.zero_le _, H1.out.1, by simp, Lim.rep N, by rw [val_zero, tailV_zero], H1.out.2⟩
    case round =>
      obtain ⟨i, Z, rfl, hi, HK⟩ := hrel
      clear H1
      by_cases hlt : i < n
      · as_aux_lemma =>
        have i2 : (i : Int) < (n : Int) := by omega
        have i3 : (0 : Int) ≤ (i : Int) := by omega
        obtain ⟨f1, f2, f3, f4, f5⟩ := HK.out
        have hbl := HA.out.1
        have hNN := HNN.out
        have hk4 : i / 4 < Z.length := by omega
        obtain ⟨s1, s2, s3⟩ := of_step bs Z i _ (by omega) f3 hk4 f4 rfl
        obtain ⟨bb, ob, rfl, hbb, cb⟩ := HA.out.2.at_ (k := bs.length - 1 - i) (by omega)
        have cb1 := (f5.cell (p := ⟨bb, ob + (bs.length - 1 - i), none⟩) hbb).trans cb
        obtain ⟨q, hq⟩ : ∃ q, (bs[bs.length - 1 - i]'(by omega)).toNat = q := ⟨_, rfl⟩
        have hq256 : q < 256 := by rw [← hq]; exact UInt8.toNat_lt _
        rw [hq] at s1 s2 s3 cb1
        obtain ⟨k, hk⟩ : ∃ k, i / 4 = k := ⟨_, rfl⟩
        have cz := f1.cell (j := i / 4) hk4
        have fz := f1.free (i / 4)
        rw [hk] at s1 s2 s3 cz fz hk4
        obtain ⟨cv, hcv⟩ : ∃ cv, Z.getD k 0 = cv := ⟨_, rfl⟩
        have hcv32 := f3.getD k
        rw [hcv] at s1 s2 s3 cz hcv32
        obtain ⟨t, ht⟩ : ∃ t, 8 * (i % 4) = t := ⟨_, rfl⟩
        rw [ht] at s1 s2 s3
        obtain ⟨y, hy⟩ : ∃ y, q * 2 ^ t = y := ⟨_, rfl⟩
        rw [hy] at s1 s2 s3
        obtain ⟨p, hp⟩ : ∃ p, bs.length - 1 - i = p := ⟨_, rfl⟩
        rw [hp] at cb1
        obtain ⟨n1, hn1⟩ : ∃ n1, n - 1 = n1 := ⟨_, rfl⟩
        obtain ⟨rr, hrr⟩ : ∃ rr, i % 4 = rr := ⟨_, rfl⟩
        have e3 : IntKind.i64.wrap ((i : Int) + 1) = (i : Int) + 1 := IntWalk.i64_in _ (by omega)
        have e4 : (i : Int).tdiv 4 = (k : Int) := by rw [Int.tdiv_eq_ediv_of_nonneg i3]; omega
        have e5 : (i : Int) / 4 = (k : Int) := by omega
        have e6 : (i : Int).tmod 4 = (rr : Int) := by rw [Int.tmod_eq_emod_of_nonneg i3]; omega
        have e7 : (i : Int) % 4 = (rr : Int) := by omega
        have e8 : IntKind.i64.wrap (k : Int) = (k : Int) := IntWalk.i64_in _ (by omega)
        have e9 : IntKind.i64.wrap (8 * (rr : Int)) = (t : Int) := by rw [show 8 * (rr : Int) = (t : Int) by omega]; exact IntWalk.i64_in _ (by omega)
        have e10 : IntKind.i64.wrap ((n : Int) - 1) = (n1 : Int) := by rw [show (n : Int) - 1 = n1 by omega]; exact IntWalk.i64_in _ (by omega)
        have e11 : IntKind.i64.wrap ((n1 : Int) - (i : Int)) = (p : Int) := by rw [show (n1 : Int) - (i : Int) = p by omega]; exact IntWalk.i64_in _ (by omega)
        have e12 : IntKind.u32.wrap ((q : Int) * 2 ^ t) = (y : Int) := by
          rw [show (q : Int) * 2 ^ t = ((q * 2 ^ t : Nat) : Int) by push_cast; rfl, hy]
          exact IntWalk.u32_in _ (by omega)
        have e13 : min t 32 = t := by omega
        have e14 : (q : Int) * 2 ^ t % 4294967296 = (y : Int) := by
          rw [show (q : Int) * 2 ^ t = ((q * 2 ^ t : Nat) : Int) by push_cast; rfl, hy]
          omega
        have hor : bits .or .u32 (cv : Int) (y : Int) = ((y + cv : Nat) : Int) := by
          rw [u32_or_nat _ _ (by omega) (by omega), s1]
        obtain ⟨r, hr⟩ : ∃ r, y + cv = r := ⟨_, rfl⟩
        rw [hr] at hor s2 s3
        have j1 : (0 : Int) ≤ (k : Int) := by omega
        have j2 : (k : Int) < (N : Int) := by omega
        have j3 : (0 : Int) ≤ (p : Int) := by omega
        have j4 : (p : Int) < (n : Int) := by omega
        have j5 : (0 : Int) ≤ (t : Int) := by omega
        have HN : Hid (BlkU (wr.setCell ⟨G, k, none⟩ (.int .u32 (r : Int))).drew G (Z.set k r) ∧ (Z.set k r).length = N ∧ Lim (Z.set k r) ∧ val (Z.set k r) = tailV bs (i + 1) ∧ Below w.heap.size w ((wr.setCell ⟨G, k, none⟩ (.int .u32 (r : Int))).drew)) :=
          ⟨(f1.set k r).drew, by rw [List.length_set]; exact f2, f3.set k s2, s3, (kp_set f5 hwG).drew⟩
        have cz1 : wr.drew.cell? ⟨G, k, none⟩ = some (.int .u32 (cv : Int)) := cz
        have fz1 : wr.drew.frozen? ⟨G, k, none⟩ = false := fz
        have cb2 : wr.drew.cell? ⟨bb, ob + p, none⟩ = some (.int .u8 (q : Int)) := cb1
        clear f1 f2 f3 f4 f5 hbl hNN s1 s2 s3 hq hk hcv ht hy hp hn1 hrr cb hr HK cz fz cb1
        go_wp2_with fail
        go_region
        go_wp2
        go_roundw
        case rel => exact ⟨i + 1, _, by go_num, by omega, HN⟩
        case measure => simp [intOf]; omega
      · as_aux_lemma =>
        have i2 : ¬ (i : Int) < (n : Int) := by omega
        have hin : i = n := by omega
        obtain ⟨f1, f2, f3, f4, f5⟩ := HK.out
        rw [hin, show n = bs.length from HA.out.1.symm, tailV_all] at f4
        have TQ := trim_any G N Z wr f1 f2 (by omega)
        obtain ⟨t1, t2⟩ := trim_blk (base := 0) f1 f2 f3
        have tle := trimN_le Z N
        rw [t1] at TQ tle
        rw [f4] at TQ t2 tle
        have h256 := H256.out
        obtain ⟨k1, hk1⟩ : ∃ k1, (num (beV bs)).length = k1 := ⟨_, rfl⟩
        rw [hk1] at TQ t2 tle h256
        have TQ := Lib.hid TQ
        have HF : Hid (NumS wr w.heap.size (some ⟨G, 0, none⟩) k1 (num (beV bs)) ∧ Below w.heap.size w wr) := ⟨NumS.of f1 hwG f3 (by omega) t2, f5⟩
        have HI := Lib.hid (And.intro hin hk1)
        clear f1 f2 f3 f4 f5 t1 t2 hk1 HK hin
        go_wp2_with fail
        refine TQ.out.mono ?_
        rintro e w' ⟨rfl, rfl⟩
        clear TQ
        go_wp2
        go_ret2
        exact ⟨_, k1, k1, rfl, HF.out.1, Nat.le_refl _, by omega, h256, HF.out.2⟩
  · rw [show ofQ bs = ([], 10) by unfold ofQ; rw [if_neg (by omega)]]
    have i1 : (n : Int) > 512 := by omega
    clear h hl
    go_enter Tryd.func23, Tryd.ntmps23
    go_wp2
    go_ret2
    exact NumR.err rfl (Below.refl _ _)
end Go.Proofs.YtbplchpbaonadaaDoor
