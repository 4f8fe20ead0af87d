/-
  nat: the document's Bits and Octets; the law's twin and kept.
-/
import Derived.Test.YtbplchpbaonadaaDoorOa
import Derived.Laws.CopyOwn
namespace Go.Proofs.YtbplchpbaonadaaDoor
open Go.RowKit Go
set_option linter.unusedVariables false
set_option linter.unusedSimpArgs false
set_option maxRecDepth 100000
set_option maxHeartbeats 4000000 in
theorem dbits_any (A : Option Addr) (n c : Nat) (l : List Nat) (w : World) (h : RU w A n l) (hn : n ≤ 1000000) :
    Calls Tryd.prog 54 #[.slice A n c] w fun e w' => e = .returned (.int .i64 (if rightB l = true then (bitsN (val l) : Int) else -1)) ∧ w = w' := by
  have RR := Lib.hid (dright_any A n c l w h (by omega))
  have hl := h.len
  cases hr : rightB l with
  | false =>
    rw [hr] at RR
    rw [if_neg (by decide)]
    clear h hl hr
    go_enter Tryd.func54, Tryd.ntmps54
    go_wp2_with fail
    refine RR.out.mono ?_
    rintro e w' ⟨rfl, rfl⟩
    clear RR
    go_wp2
    go_ret
    exact ⟨rfl, rfl⟩
  | true =>
    rw [hr] at RR
    rw [if_pos rfl]
    obtain ⟨r1, r2⟩ := (rightB_iff l).1 hr
    by_cases h2 : n = 0
    · have hz : bitsN (val l) = 0 := by
        have : l = [] := List.eq_nil_of_length_eq_zero (by omega)
        subst this; rfl
      rw [hz]
      have i2 : ((n : Int) == 0) = true := by simp; omega
      have HH := Lib.hid h2
      clear h hl h2 hr hz r1 r2
      go_enter Tryd.func54, Tryd.ntmps54
      go_wp2_with fail
      refine RR.out.mono ?_
      rintro e w' ⟨rfl, rfl⟩
      clear RR
      go_wp2
      go_ret
      exact ⟨rfl, rfl⟩
    · obtain ⟨m, hm⟩ : ∃ m, n = m + 1 := ⟨n - 1, by omega⟩
      obtain ⟨b, off, rfl, hb, hc⟩ := h.at_ (show m < n by omega)
      have hbt := bits_top l h.lim r2 (by intro e; subst e; simp at hl; omega)
      rw [hl, show n - 1 = m by omega] at hbt
      have hx32 := h.lim.getD m
      obtain ⟨x, hx⟩ : ∃ x, l.getD m 0 = x := ⟨_, rfl⟩
      rw [hx] at hc hbt hx32
      rw [hbt]
      have hb32 : bitsN x ≤ 32 := (bits_le x 32).2 hx32
      have e1 : IntKind.i64.wrap ((n : Int) - 1) = (m : Int) := by rw [show (n : Int) - 1 = m by omega]; exact IntWalk.i64_in _ (by omega)
      have e2 : IntKind.i64.wrap (32 * (m : Int)) = ((32 * m : Nat) : Int) := by rw [show 32 * (m : Int) = ((32 * m : Nat) : Int) by omega]; exact IntWalk.i64_in _ (by omega)
      have i2 : ((n : Int) == 0) = false := by simp; omega
      have i3 : (m : Int) < (n : Int) := by omega
      have i4 : (0 : Int) ≤ (m : Int) := by omega
      obtain ⟨M, hM⟩ : ∃ M, 32 * m = M := ⟨_, rfl⟩
      rw [hM] at e2 ⊢
      obtain ⟨z, hz⟩ : ∃ z, M + bitsN x = z := ⟨_, rfl⟩
      rw [hz]
      have hzl : z ≤ 40000000 := by omega
      have HM := Lib.hid (show _ ∧ _ ∧ _ ∧ _ ∧ _ from ⟨hm, hx, hM, hz, hx32⟩)
      clear h hl hr r1 r2 hm hx hbt hb32 hM hz
      go_enter Tryd.func54, Tryd.ntmps54
      go_wp2_with fail
      refine RR.out.mono ?_
      rintro e w' ⟨rfl, rfl⟩
      clear RR
      go_wp2
      go_loop [3, 4] (fun vk vt => ∃ t k : Nat, vt = .int .u32 (t : Int) ∧ vk = .int .i64 (k : Int) ∧ k ≤ z ∧ t < 4294967296 ∧ Hid (k + bitsN t = z)) (fun _ vt => (intOf vt).toNat)
      case atStart => exact ⟨x, M, rfl, rfl, by have := HM.out; omega, HM.out.2.2.2.2, HM.out.2.2.2.1⟩
      case round =>
        obtain ⟨t, k, rfl, rfl, hk, ht, HK⟩ := hrel
        by_cases ht0 : t = 0
        · have i5 : ¬ (t : Int) > 0 := by omega
          have HZ : Hid (k = z) := by
            have := HK.out
            rw [ht0] at this
            exact this
          have H0 := Lib.hid ht0
          clear HK ht0
          go_wp2
          go_ret
          exact ⟨by rw [← HZ.out]; rfl, rfl⟩
        · have i5 : (t : Int) > 0 := by omega
          have hb := bitsN_half t ht0
          obtain ⟨q, hq⟩ : ∃ q, t / 2 = q := ⟨_, rfl⟩
          rw [hq] at hb
          have hkz := HK.out
          have e5 : (t : Int) / 2 = (q : Int) := by omega
          have e6 : IntKind.i64.wrap ((k : Int) + 1) = ((k + 1 : Nat) : Int) := by rw [show (k : Int) + 1 = ((k + 1 : Nat) : Int) by omega]; exact IntWalk.i64_in _ (by omega)
          have HN : Hid (k + 1 + bitsN q = z) := by unfold Hid; omega
          have hqt : q < t := by omega
          have hk1 : k + 1 ≤ z := by omega
          have HQ := Lib.hid hq
          clear hb hkz HK hq ht0
          go_wp2
          go_round
          case rel => exact ⟨q, k + 1, rfl, by go_num, by omega, by omega, HN⟩
          case measure => simp [intOf]; omega
theorem beN_drop (V : Nat) : ∀ (N i : Nat), i ≤ N → (beN V N).drop (N - i) = beN V i
  | 0, i, h => by
    obtain rfl : i = 0 := by omega
    rfl
  | N + 1, i, h => by
    rcases Nat.lt_or_ge i (N + 1) with h1 | h1
    · rw [show N + 1 - i = (N - i) + 1 by omega, beN, List.drop_succ_cons, beN_drop V N i (by omega)]
    · obtain rfl : i = N + 1 := by omega
      rw [Nat.sub_self, List.drop_zero]
theorem beN_low (V N i : Nat) (h : i ≤ N) (hv : V < 256 ^ i) : List.replicate (N - i) 0 ++ (beN V N).drop (N - i) = beN V N := by
  rw [beN_drop V N i h]
  refine (beN_beV _ N (by rw [List.length_append, List.length_replicate, beN_len]; omega) V ?_).symm
  rw [beV_append, beV_zeros, Nat.zero_mul, Nat.zero_add, beN_val, Nat.mod_eq_of_lt hv]
  exact Nat.mod_eq_of_lt (Nat.lt_of_lt_of_le hv (Nat.pow_le_pow_right (by decide) h))
set_option maxHeartbeats 8000000 in
theorem doct_bad (A : Option Addr) (n c : Nat) (z : Int) (x : List Nat) (w : World) (h : RU w A n x) (hn : n ≤ 300) (hz1 : -9223372036854775808 ≤ z) (hz2 : z ≤ 9223372036854775807) (hbad : (rightB x && decide (0 ≤ z) && decide (z ≤ 1024)) = false) :
    Calls Tryd.prog 32 #[.slice A n c, .int .i64 z] w (OctR w ([], 1)) := by
  have RA := Lib.hid (dright_any A n c x w h (by omega))
  cases hr : rightB x with
  | false =>
    rw [hr] at RA
    clear hr h hbad
    go_enter Tryd.func32, Tryd.ntmps32
    go_wp2_with fail
    refine RA.out.mono ?_
    rintro e w' ⟨rfl, rfl⟩
    clear RA
    go_wp2
    go_ret2
    exact OctR.err rfl (Below.refl _ _)
  | true =>
    rw [hr] at RA
    by_cases h0 : z < 0
    · clear hr h hbad
      go_enter Tryd.func32, Tryd.ntmps32
      go_wp2_with fail
      refine RA.out.mono ?_
      rintro e w' ⟨rfl, rfl⟩
      clear RA
      go_wp2
      go_ret2
      exact OctR.err rfl (Below.refl _ _)
    · have h1 : z > 1024 := by
        rw [hr, decide_eq_true (show 0 ≤ z by omega), Bool.true_and, Bool.true_and, decide_eq_false_iff_not] at hbad
        omega
      clear hr h hbad
      go_enter Tryd.func32, Tryd.ntmps32
      go_wp2_with fail
      refine RA.out.mono ?_
      rintro e w' ⟨rfl, rfl⟩
      clear RA
      go_wp2
      go_ret2
      exact OctR.err rfl (Below.refl _ _)
set_option maxHeartbeats 8000000 in
theorem doct_good (A : Option Addr) (n c N : Nat) (x : List Nat) (w : World) (h : RU w A n x) (hn : n ≤ 300) (hr : rightB x = true) (hN : N ≤ 1024) :
    Calls Tryd.prog 32 #[.slice A n c, .int .i64 (N : Int)] w (OctR w (if bitsN (val x) ≤ 8 * N then (beN (val x) N, 0) else ([], 10))) := by
  have RA := dright_any A n c x w h (by omega)
  have BI := dbits_any A n c x w h (by omega)
  rw [hr] at RA BI
  rw [if_pos rfl] at BI
  have RA := Lib.hid RA
  have i1 : ¬ (N : Int) < 0 := by omega
  have i2 : ¬ (N : Int) > 1024 := by omega
  have e1 : IntKind.i64.wrap (8 * (N : Int)) = ((8 * N : Nat) : Int) := by rw [show 8 * (N : Int) = ((8 * N : Nat) : Int) by omega]; exact IntWalk.i64_in _ (by omega)
  obtain ⟨N8, hN8⟩ : ∃ N8, 8 * N = N8 := ⟨_, rfl⟩
  rw [hN8] at e1
  rw [hN8]
  obtain ⟨bt, hbt⟩ : ∃ bt, bitsN (val x) = bt := ⟨_, rfl⟩
  rw [hbt] at BI
  rw [hbt]
  have BI := Lib.hid BI
  have HA := Lib.hid h
  have HB := Lib.hid (And.intro hN8 hbt)
  clear h hr hN8 hbt
  by_cases hb : bt ≤ N8
  · rw [if_pos hb]
    have i3 : ¬ (bt : Int) > (N8 : Int) := by omega
    go_enter Tryd.func32, Tryd.ntmps32
    go_wp2_with fail
    refine RA.out.mono ?_
    rintro e w' ⟨rfl, rfl⟩
    clear RA
    go_wp2_with fail
    refine BI.out.mono ?_
    rintro e w' ⟨rfl, rfl⟩
    clear BI
    go_wp2_with (refine wpList_mk _ _ rfl rfl _ _ _ _ N rfl rfl rfl rfl (by omega) ?_)
    intro w1 hown hg1
    obtain ⟨G, hG⟩ : ∃ G, w.heap.size = G := ⟨_, rfl⟩
    have hwG : w.heap.size ≤ G := by omega
    rw [hG] at hown ⊢
    have H1 : Hid (OwnB w1 G (some ⟨G, 0, none⟩) N N (List.replicate N 0) ∧ Below w.heap.size w w1) := ⟨hown, grown_kp (Below.refl _ _) hg1⟩
    have HG := Lib.hid hG
    clear hown hg1 hG
    go_wp2
    go_loopw [7] (fun vi wl => ∃ (i : Nat), vi = .int .i64 (i : Int) ∧ i ≤ N ∧ Hid (OwnB wl G (some ⟨G, 0, none⟩) N N (List.replicate (N - i) 0 ++ (beN (val x) N).drop (N - i)) ∧ Below w.heap.size w wl)) (fun vi _ => N - (intOf vi).toNat)
    case atStart => exact ⟨0, rfl, Nat.zero_le _, by rw [Nat.sub_zero, List.drop_of_length_le (by rw [beN_len]; omega), List.append_nil]; exact H1.out.1, H1.out.2⟩
    case round =>
      obtain ⟨i, rfl, hi, HK⟩ := hrel
      clear H1
      have en : IntKind.i64.wrap (4 * (n : Int)) = ((4 * n : Nat) : Int) := by rw [show 4 * (n : Int) = ((4 * n : Nat) : Int) by omega]; exact IntWalk.i64_in _ (by omega)
      obtain ⟨n4, hn4⟩ : ∃ n4, 4 * n = n4 := ⟨_, rfl⟩
      rw [hn4] at en
      have HN4 := Lib.hid hn4
      clear hn4
      by_cases hlt : i < N ∧ i < n4
      · obtain ⟨hlt, hlt4⟩ := hlt
        as_aux_lemma =>
        have hn4 := HN4.out
        have j1 : (i : Int) < (N : Int) := by omega
        have j1b : (i : Int) < (n4 : Int) := by omega
        have j2 : (0 : Int) ≤ (i : Int) := by omega
        obtain ⟨f1, f2⟩ := HK.out
        obtain ⟨k, hk⟩ : ∃ k, i / 4 = k := ⟨_, rfl⟩
        obtain ⟨t, ht⟩ : ∃ t, 8 * (i % 4) = t := ⟨_, rfl⟩
        obtain ⟨rr, hrr⟩ : ∃ rr, i % 4 = rr := ⟨_, rfl⟩
        have hby := byte_of x HA.out.lim i
        rw [hk, ht] at hby
        obtain ⟨bx, ox, rfl, hbx, cx⟩ := HA.out.at_ (j := k) (by omega)
        have cx1 := (f2.cell (p := ⟨bx, ox + k, none⟩) hbx).trans cx
        have hv32 := HA.out.lim.getD k
        obtain ⟨v, hv⟩ : ∃ v, x.getD k 0 = v := ⟨_, rfl⟩
        rw [hv] at cx1 hby hv32
        have k1 : (0 : Int) ≤ (k : Int) := by omega
        have k2 : (k : Int) < (n : Int) := by omega
        obtain ⟨y, hy⟩ : ∃ y, v / 2 ^ t = y := ⟨_, rfl⟩
        rw [hy] at hby
        have hyv : y ≤ v := by rw [← hy]; exact Nat.div_le_self _ _
        obtain ⟨p, hp⟩ : ∃ p, N - 1 - i = p := ⟨_, rfl⟩
        obtain ⟨N1, hN1⟩ : ∃ N1, N - 1 = N1 := ⟨_, rfl⟩
        have e3 : IntKind.i64.wrap ((i : Int) + 1) = (i : Int) + 1 := IntWalk.i64_in _ (by omega)
        have e5 : (i : Int) / 4 = (k : Int) := by omega
        have e7 : (i : Int) % 4 = (rr : Int) := by omega
        have e9 : IntKind.i64.wrap (8 * (rr : Int)) = (t : Int) := by rw [show 8 * (rr : Int) = (t : Int) by omega]; exact IntWalk.i64_in _ (by omega)
        have e10 : IntKind.i64.wrap ((N : Int) - 1) = (N1 : Int) := by rw [show (N : Int) - 1 = N1 by omega]; exact IntWalk.i64_in _ (by omega)
        have e11 : IntKind.i64.wrap ((N1 : Int) - (i : Int)) = (p : Int) := by rw [show (N1 : Int) - (i : Int) = p by omega]; exact IntWalk.i64_in _ (by omega)
        have e13 : min t 32 = t := by omega
        have e14 : (v : Int) / 2 ^ t = (y : Int) := by
          rw [show (v : Int) / 2 ^ t = ((v / 2 ^ t : Nat) : Int) by push_cast; rfl, hy]
        have hb8 : (y : Int) % 256 = ((UInt8.ofNat (val x / 256 ^ i % 256)).toNat : Int) := by
          rw [← hby]
          simp
        obtain ⟨q, hq⟩ : ∃ q, UInt8.ofNat (val x / 256 ^ i % 256) = q := ⟨_, rfl⟩
        have hst := oct_set (val x) N i hlt
        rw [hq] at hb8
        rw [hq, hp] at hst
        have j3 : (0 : Int) ≤ (p : Int) := by omega
        have j4 : (p : Int) < (N : Int) := by omega
        have j5 : (0 : Int) ≤ (t : Int) := by omega
        obtain ⟨q0, hq0⟩ : ∃ q0, (List.replicate (N - i) 0 ++ (beN (val x) N).drop (N - i))[p]? = some q0 := ⟨_, List.getElem?_eq_getElem (by rw [f1.len]; omega)⟩
        have c1 := f1.cellAt p q0 hq0
        have c2 := f1.free p
        have HN : Hid (OwnB (wr.setCell ⟨G, p, none⟩ (.int .u8 (q.toNat : Int))) G (some ⟨G, 0, none⟩) N N (List.replicate (N - (i + 1)) 0 ++ (beN (val x) N).drop (N - (i + 1))) ∧ Below w.heap.size w (wr.setCell ⟨G, p, none⟩ (.int .u8 (q.toNat : Int)))) :=
          ⟨by rw [← hst]; exact f1.stored p q, kp_set f2 hwG⟩
        clear f1 f2 hst hq hq0 hby hk ht hrr hv hy hp hN1 HK cx hn4
        go_wp2
        go_roundw
        case rel => exact ⟨i + 1, by go_num, by omega, HN⟩
        case measure => simp [intOf]; omega
      · as_aux_lemma =>
        have HF : Hid (OwnB wr w.heap.size (some ⟨G, 0, none⟩) N N (beN (val x) N) ∧ Below w.heap.size w wr) := by
          obtain ⟨f1, f2⟩ := HK.out
          have hn4 := HN4.out
          rcases Nat.lt_or_ge i N with h1 | h1
          · have hv : val x < 256 ^ i := by
              refine Nat.lt_of_lt_of_le (val_lt x HA.out.lim) ?_
              rw [HA.out.len, show (256 : Nat) = 2 ^ 8 by decide, show (4294967296 : Nat) = 2 ^ 32 by decide, ← Nat.pow_mul, ← Nat.pow_mul]
              exact Nat.pow_le_pow_right (by decide) (by omega)
            rw [beN_low _ _ _ (by omega) hv] at f1
            exact ⟨f1.lower hwG, f2⟩
          · rw [show N - i = 0 by omega, List.drop_zero] at f1
            exact ⟨f1.lower hwG, f2⟩
        clear HK HN4
        by_cases h1 : i < N
        · have j1 : (i : Int) < (N : Int) := by omega
          have j2 : ¬ (i : Int) < (n4 : Int) := by omega
          clear hlt
          go_wp2
          go_ret2
          exact ⟨_, N, N, rfl, HF.out.1, Nat.le_refl _, by omega, HF.out.2⟩
        · have j1 : ¬ (i : Int) < (N : Int) := by omega
          clear hlt
          go_wp2
          go_ret2
          exact ⟨_, N, N, rfl, HF.out.1, Nat.le_refl _, by omega, HF.out.2⟩
  · rw [if_neg hb]
    have i3 : (bt : Int) > (N8 : Int) := by omega
    go_enter Tryd.func32, Tryd.ntmps32
    go_wp2_with fail
    refine RA.out.mono ?_
    rintro e w' ⟨rfl, rfl⟩
    clear RA
    go_wp2_with fail
    refine BI.out.mono ?_
    rintro e w' ⟨rfl, rfl⟩
    clear BI
    go_wp2
    go_ret2
    exact OctR.err rfl (Below.refl _ _)
section
variable {w : World} {ops : Array Oper} {rest : List Oper} {o : Oper} {a : Act} {Q : Exit → Act → World → Prop}
theorem wpList_cpyU (d s : Operand) (ho : o.op = .call { callee := .builtin .copy, args := #[d, s], argTypes := #[49, 49] }) (hgd : o.guard = none)
    (G n2 dc n c : Nat) (A : Option Addr) (x L : List Nat) (hd : a.eval d = .slice (some ⟨G, 0, none⟩) n2 dc) (hs : a.eval s = .slice A n c) (hb : BlkU w G L) (hr : RU w A n x) (hfit : n ≤ n2) (hL : n ≤ L.length) (B : Nat) (w0 : World) (hbel : Below B w0 w) (hBG : B ≤ G)
    (h : ∀ w', BlkU w' G (splice L 0 x) → Below B w0 w' → wpList Tryd.prog ops Q rest (a.put o.dst (goInt ((n : Nat) : Int))) w') : wpList Tryd.prog ops Q (o :: rest) a w := by
  have hlx : (x.map v32).length = n := by rw [List.length_map, hr.len]
  refine wpList_copy_splice hgd d s 49 49 ho 59 Tryd.underlying49 (by kernel_rfl) (some ⟨G, 0, none⟩) A n2 dc n c hd hs G 0 (L.map v32) 59 hb (x.map v32) (by rw [hlx]; exact (Nat.min_eq_left hfit).symm) ?_ (by rw [hlx, List.length_map]; omega) (by intro v hv; obtain ⟨q, _, rfl⟩ := List.mem_map.1 hv; rfl) B w0 hbel hBG ?_
  · intro hp
    obtain ⟨b, off, e, _, hc⟩ := hr.rd (by intro e; rw [e] at hp; simp at hp)
    refine ⟨rfl, ⟨b, off, none⟩, e, fun j v hj => ?_⟩
    rw [show (⟨b, off, none⟩ : Addr).add j = ⟨b, off + j, none⟩ by unfold Addr.add; split <;> simp_all]
    exact hc j v hj
  · intro w' h1 h2
    rw [hlx]
    refine h w' ?_ h2
    have h3 := h1.out
    unfold BlkU
    rw [show (splice L 0 x).map v32 = splice (L.map v32) 0 (x.map v32) by unfold splice; simp]
    exact h3
end
theorem splice_map0 (x : List Nat) (n : Nat) (h : x.length = n) : splice (List.replicate (n + 2) 0) 0 x = x ++ [0, 0] := by
  unfold splice
  subst h
  simp
end Go.Proofs.YtbplchpbaonadaaDoor
