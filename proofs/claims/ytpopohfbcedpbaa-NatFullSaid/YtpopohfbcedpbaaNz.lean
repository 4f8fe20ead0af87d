/-
  nat: the statement NatFull.
-/
import Derived.Test.YtpopohfbcedpbaaNy
import Derived.OpenShut
namespace Go.Proofs.Ytpopohfbcedpbaa
open Go.RowKit Go
set_option linter.unusedVariables false
set_option linter.unusedSimpArgs false
set_option maxRecDepth 100000
def FF (a : Nat) : List Nat := List.replicate a 4294967295
theorem FF_lim (a : Nat) : Lim (FF a) := fun x hx => by rw [(List.mem_replicate.1 hx).2]; decide
theorem FF_len (a : Nat) : (FF a).length = a := by unfold FF; simp
theorem FF_val : ∀ a, val (FF a) + 1 = 4294967296 ^ a
  | 0 => by simp [FF, val]
  | a + 1 => by
    have ih := FF_val a
    unfold FF at ih ⊢
    rw [List.replicate_succ, val, Nat.pow_succ]
    omega
theorem FF_right (a : Nat) (h : a ≤ 256) : rightB (FF a) = true := by
  rw [rightB_iff, FF_len]
  refine ⟨h, ?_⟩
  rcases a with _ | a
  · exact .inl rfl
  · right
    rw [FF_len, Nat.add_sub_cancel]
    unfold FF
    rw [List.getD_eq_getElem?_getD, List.getElem?_replicate, if_pos (by omega)]
    decide
theorem FF_num (a : Nat) (h : a ≤ 256) : num (val (FF a)) = FF a := right_num (FF_lim a) (FF_right a h)
theorem one_val : val [1] = 1 := rfl
theorem one_right : rightB [1] = true := by decide
theorem pow_fit (a : Nat) (h : a < 256) : fitQ (4294967296 ^ a) = (num (4294967296 ^ a), 0) := by
  unfold fitQ
  rw [if_pos (Nat.pow_lt_pow_right (by decide) h)]
theorem add_top (a : Nat) (h : a < 256) : addQ (FF a) [1] = (num (4294967296 ^ a), 0) := by
  unfold addQ
  rw [FF_right a (by omega), one_right, one_val, FF_val, pow_fit a h]
  rfl
theorem add_top2 : addQ (FF 256) [1] = ([], 10) := by
  unfold addQ
  rw [FF_right 256 (by decide), one_right, one_val, FF_val]
  unfold fitQ
  rw [Bool.and_self, if_pos rfl, if_neg (Nat.lt_irrefl _)]
theorem num_pow_len (a : Nat) : (num (4294967296 ^ a)).length = a + 1 := by
  have h1 := (num_len (4294967296 ^ a) (a + 1)).2 (Nat.pow_lt_pow_right (by decide) (by omega))
  rcases Nat.lt_or_ge a (num (4294967296 ^ a)).length with h | h
  · omega
  · exact absurd ((num_len _ _).1 h) (Nat.lt_irrefl _)
theorem num_digit (v i : Nat) : (num v).getD i 0 = v / 4294967296 ^ i % 4294967296 := by rw [val_digit _ (num_lim v), val_num]
theorem pow_digit (a : Nat) : (num (4294967296 ^ a)).getD a 0 = 1 := by rw [num_digit, Nat.div_self (Nat.pow_pos (by decide))]
theorem pow_bits (a : Nat) : bitsN (4294967296 ^ a) = 32 * a + 1 := by
  refine bits_of _ _ ?_ ?_ <;> rw [show (4294967296 : Nat) = 2 ^ 32 by decide, ← Nat.pow_mul]
  · exact Nat.le_refl _
  · exact Nat.pow_lt_pow_right (by decide) (by omega)
theorem sub_top (a : Nat) (h : a < 256) : subQ (num (4294967296 ^ a)) [1] = (FF a, 0) := by
  unfold subQ
  rw [num_right, decide_eq_true (Nat.pow_lt_pow_right (by decide) h), one_right, val_num, one_val, decide_eq_true (show 1 ≤ 4294967296 ^ a from Nat.pow_pos (by decide)), ← FF_val a, Nat.add_sub_cancel, FF_num a (by omega)]
  rfl
def HX (a : Nat) : List Nat := (List.replicate a 0).set (a - 1) 4294967295
theorem HX_len (a : Nat) : (HX a).length = a := by unfold HX; simp
theorem HX_lim (a : Nat) : Lim (HX a) := (Lim.rep a).set _ (by decide)
theorem HX_val (a : Nat) (h : 0 < a) : val (HX a) = 4294967295 * 4294967296 ^ (a - 1) := by
  unfold HX
  have := val_set (List.replicate a 0) (a - 1) 4294967295 (by simp; omega)
  rw [val_zero, List.getD_eq_getElem?_getD, List.getElem?_replicate, if_pos (by omega)] at this
  simpa using this
theorem HX_right (a : Nat) (h : 0 < a) (h2 : a ≤ 256) : rightB (HX a) = true := by
  rw [rightB_iff, HX_len]
  refine ⟨h2, .inr ?_⟩
  rw [HX_len]
  unfold HX
  rw [getD_set_same _ _ _ (by simp; omega)]
  decide
theorem top_prod (a b : Nat) (ha : 0 < a) (hb : 0 < b) : val (HX a) * val (HX b) = 18446744065119617025 * 4294967296 ^ (a + b - 2) := by
  rw [HX_val a ha, HX_val b hb, Nat.mul_mul_mul_comm, ← Nat.pow_add, show a - 1 + (b - 1) = a + b - 2 by omega]
theorem top_fit (a b : Nat) (ha : 0 < a) (hb : 0 < b) (h1 : a ≤ 256) (h2 : b ≤ 256) (h : a + b ≤ 256) : mulQ (HX a) (HX b) = (num (val (HX a) * val (HX b)), 0) ∧ (num (val (HX a) * val (HX b))).length = a + b ∧ (num (val (HX a) * val (HX b))).getD (a + b - 1) 0 = 4294967294 := by
  have hp := top_prod a b ha hb
  obtain ⟨k, hk⟩ : ∃ k, a + b = k + 2 := ⟨a + b - 2, by omega⟩
  rw [hk, Nat.add_sub_cancel] at hp
  have hlt : val (HX a) * val (HX b) < 4294967296 ^ (k + 2) := by
    rw [hp, Nat.pow_succ, Nat.pow_succ, Nat.mul_assoc, Nat.mul_comm]
    exact Nat.mul_lt_mul_of_pos_left (by decide) (Nat.pow_pos (by decide))
  have hge : 4294967296 ^ (k + 1) ≤ val (HX a) * val (HX b) := by
    rw [hp, Nat.pow_succ, Nat.mul_comm]
    exact Nat.mul_le_mul_right _ (by decide)
  have hdg : val (HX a) * val (HX b) / 4294967296 ^ (k + 1) = 4294967294 := by
    rw [hp, Nat.pow_succ, Nat.mul_comm (4294967296 ^ k), Nat.mul_div_mul_right _ _ (Nat.pow_pos (by decide))]
  refine ⟨?_, ?_, ?_⟩
  · unfold mulQ
    rw [HX_right a ha h1, HX_right b hb h2, Bool.and_self, if_pos rfl]
    exact fit_n hlt (by omega)
  · rw [hk]
    have h3 := (num_len _ (k + 2)).2 hlt
    rcases Nat.lt_or_ge (k + 1) (num (val (HX a) * val (HX b))).length with h4 | h4
    · omega
    · have := (num_len _ _).1 h4
      omega
  · rw [num_digit, hk, show k + 2 - 1 = k + 1 by omega, hdg]
theorem top_big (a b : Nat) (ha : 0 < a) (hb : 0 < b) (h1 : a ≤ 256) (h2 : b ≤ 256) (h : 256 < a + b) : mulQ (HX a) (HX b) = ([], 10) := by
  have hp := top_prod a b ha hb
  unfold mulQ
  rw [HX_right a ha h1, HX_right b hb h2, Bool.and_self, if_pos rfl]
  unfold fitQ
  rw [if_neg]
  intro hlt
  obtain ⟨k, hk⟩ : ∃ k, a + b = k + 2 := ⟨a + b - 2, by omega⟩
  rw [hp, hk, Nat.add_sub_cancel] at hlt
  have h3 : 4294967296 ^ 256 ≤ 4294967296 ^ (k + 1) := Nat.pow_le_pow_right (by decide) (by omega)
  have h4 : 4294967296 ^ (k + 1) ≤ 18446744065119617025 * 4294967296 ^ k := by
    rw [Nat.pow_succ, Nat.mul_comm]
    exact Nat.mul_le_mul_right _ (by decide)
  exact absurd (Nat.lt_of_lt_of_le hlt (Nat.le_trans h3 h4)) (Nat.lt_irrefl _)
set_option maxHeartbeats 16000000 in
theorem full_1 (m0 n0 a b : Nat) (w : World) (hm : m0 ≤ 65535) (hn : n0 ≤ 65535) (ha : m0 % 257 = a) (hb : n0 % 257 = b) (h256 : a = 256) (hsz : b = 0) :
    Calls Try.prog 9 #[.int .u16 (m0 : Int), .int .u16 (n0 : Int)] w fun e w' => e = .returned (.bool true) ∧ Below w.heap.size w w' := by
  have e1 : (m0 : Int) % 257 = (a : Int) := by omega
  have e2 : (n0 : Int) % 257 = (b : Int) := by omega
  have e1t : (m0 : Int).tmod 257 = (a : Int) := by rw [Int.tmod_eq_emod_of_nonneg (by omega)]; exact e1
  have e2t : (n0 : Int).tmod 257 = (b : Int) := by rw [Int.tmod_eq_emod_of_nonneg (by omega)]; exact e2
  have ha6 : a ≤ 256 := by omega
  have hb6 : b ≤ 256 := by omega
  have HAB := Lib.hid (And.intro ha hb)
  clear ha hb
  have hle : 256 ≤ a := by omega
  have H256 := Lib.hid h256
  clear h256
  have hz0 : b < 1 := by omega
  have HSZ := Lib.hid hsz
  clear hsz
  go_enter Try.func9, Try.ntmps9
  go_wp2_with (refine wpList_mkU _ _ rfl rfl _ _ _ _ a rfl rfl rfl rfl (by omega) ?_)
  intro w1 hblk hb1
  obtain ⟨G, hG⟩ : ∃ G, w.heap.size = G := ⟨_, rfl⟩
  have hwG : w.heap.size ≤ G := by omega
  rw [hG] at hblk ⊢
  have H1 : Hid (BlkU w1 G (List.replicate a 0) ∧ Below w.heap.size w w1) := ⟨hblk, hb1⟩
  clear hblk hb1 hG
  go_wp2
  go_loopw [8] (fun vi wl => ∃ i : Nat, vi = .int .i64 (i : Int) ∧ i ≤ a ∧ Hid (BlkU wl G ((FF a).take i ++ List.replicate (a - i) 0) ∧ Below w.heap.size w wl)) (fun vi _ => a - (intOf vi).toNat)
  case atStart => exact ⟨0, rfl, Nat.zero_le _, H1.out⟩
  case round =>
    obtain ⟨i, rfl, hi, HK⟩ := hrel
    clear H1
    by_cases hlt : i < a
    · as_aux_lemma =>
      have j1 : (i : Int) < (a : Int) := by omega
      have j2 : (0 : Int) ≤ (i : Int) := by omega
      have e3 : IntKind.i64.wrap ((i : Int) + 1) = (i : Int) + 1 := IntWalk.i64_in _ (by omega)
      have hll : ((FF a).take i ++ List.replicate (a - i) 0).length = a := by rw [List.length_append, List.length_take, FF_len, List.length_replicate]; omega
      have c1 := HK.out.1.cell (j := i) (by rw [hll]; exact hlt)
      have c2 := HK.out.1.free i
      have hs := set_step (FF a) 0 4294967295 a i (FF_len a) hlt (by unfold FF; rw [List.getElem?_replicate, if_pos hlt])
      have hst := HK.out.1.set i 4294967295
      rw [hs] at hst
      have HN : Hid (BlkU (wr.setCell ⟨G, i, none⟩ (.int .u32 4294967295)) G ((FF a).take (i + 1) ++ List.replicate (a - (i + 1)) 0) ∧ Below w.heap.size w (wr.setCell ⟨G, i, none⟩ (.int .u32 4294967295))) := ⟨hst, kp_set HK.out.2 hwG⟩
      clear hll hs hst HK
      go_wp2
      go_roundw
      case rel => exact ⟨i + 1, by go_num, by omega, HN⟩
      case measure => simp [intOf]; omega
    · as_aux_lemma =>
      have j1 : ¬ (i : Int) < (a : Int) := by omega
      have HF : Hid (BlkU wr G (FF a) ∧ Below w.heap.size w wr) := by
        have h := HK.out.1
        rw [show a - i = 0 by omega, List.replicate_zero, List.append_nil, take_all (by rw [FF_len]; omega)] at h
        exact ⟨h, HK.out.2⟩
      clear HK
      go_wp2_with fail
      refine calls_w fun w2 hw2 => ?_
      obtain ⟨X, hX⟩ : ∃ X, wr.heap.size = X := ⟨_, rfl⟩
      rw [hX]
      have q1 : BlkU w2 X [1] := by rw [← hw2]; exact has_new' _ _ _ hX.symm
      have q2 : BlkU w2 G (FF a) := by rw [← hw2]; exact has_alloc HF.out.1 _
      have HB := Lib.hid (show Below w.heap.size w w2 by rw [← hw2]; exact kp_alloc HF.out.2 _)
      have RT := q2.ru (FF_lim a) 0 a (by rw [FF_len]; omega)
      rw [List.drop_zero, take_all (by rw [FF_len]; omega)] at RT
      have C := add_any (some ⟨G, 0, none⟩) (some ⟨X, 0, none⟩) a a 1 1 (FF a) [1] w2 RT (q1.ru (by intro x hx; simp at hx; omega) 0 1 (by decide)) (by omega) (by decide)
      have RT := Lib.hid RT
      clear q1 q2 hw2 hX HF
      rw [show addQ (FF a) [1] = ([], 10) by rw [H256.out]; exact add_top2] at C
      refine C.mono ?_
      rintro e w3 ⟨A3, n3, c3, rfl, s3, l3, m3, k3, hb⟩
      obtain rfl : 0 = n3 := s3.len
      replace HB := Lib.hid (kp_call HB.out hb)
      replace RT := Lib.hid (RT.out.below hb)
      have t1 : ¬ (a : Int) < 256 := by omega
      clear C s3 hb
      have z1 : ((a : Int) == 0) = false := by simp; omega
      have z2 : ((b : Int) == 0) = true := by simp; omega
      go_wp2_with fail
      refine (works_any w3).mono ?_
      rintro e w9 ⟨rfl, hb⟩
      replace HB := Lib.hid (kp_call HB.out hb)
      clear hb
      go_wp2
      go_ret
      exact ⟨rfl, HB.out⟩
set_option maxHeartbeats 16000000 in
theorem full_2 (m0 n0 a b : Nat) (w : World) (hm : m0 ≤ 65535) (hn : n0 ≤ 65535) (ha : m0 % 257 = a) (hb : n0 % 257 = b) (h256 : a = 256) (hb0 : 0 < b) (hab2 : 256 < a + b) :
    Calls Try.prog 9 #[.int .u16 (m0 : Int), .int .u16 (n0 : Int)] w fun e w' => e = .returned (.bool true) ∧ Below w.heap.size w w' := by
  have e1 : (m0 : Int) % 257 = (a : Int) := by omega
  have e2 : (n0 : Int) % 257 = (b : Int) := by omega
  have e1t : (m0 : Int).tmod 257 = (a : Int) := by rw [Int.tmod_eq_emod_of_nonneg (by omega)]; exact e1
  have e2t : (n0 : Int).tmod 257 = (b : Int) := by rw [Int.tmod_eq_emod_of_nonneg (by omega)]; exact e2
  have ha6 : a ≤ 256 := by omega
  have hb6 : b ≤ 256 := by omega
  have HAB := Lib.hid (And.intro ha hb)
  clear ha hb
  have hle : 256 ≤ a := by omega
  have H256 := Lib.hid h256
  clear h256
  go_enter Try.func9, Try.ntmps9
  go_wp2_with (refine wpList_mkU _ _ rfl rfl _ _ _ _ a rfl rfl rfl rfl (by omega) ?_)
  intro w1 hblk hb1
  obtain ⟨G, hG⟩ : ∃ G, w.heap.size = G := ⟨_, rfl⟩
  have hwG : w.heap.size ≤ G := by omega
  rw [hG] at hblk ⊢
  have H1 : Hid (BlkU w1 G (List.replicate a 0) ∧ Below w.heap.size w w1) := ⟨hblk, hb1⟩
  clear hblk hb1 hG
  go_wp2
  go_loopw [8] (fun vi wl => ∃ i : Nat, vi = .int .i64 (i : Int) ∧ i ≤ a ∧ Hid (BlkU wl G ((FF a).take i ++ List.replicate (a - i) 0) ∧ Below w.heap.size w wl)) (fun vi _ => a - (intOf vi).toNat)
  case atStart => exact ⟨0, rfl, Nat.zero_le _, H1.out⟩
  case round =>
    obtain ⟨i, rfl, hi, HK⟩ := hrel
    clear H1
    by_cases hlt : i < a
    · as_aux_lemma =>
      have j1 : (i : Int) < (a : Int) := by omega
      have j2 : (0 : Int) ≤ (i : Int) := by omega
      have e3 : IntKind.i64.wrap ((i : Int) + 1) = (i : Int) + 1 := IntWalk.i64_in _ (by omega)
      have hll : ((FF a).take i ++ List.replicate (a - i) 0).length = a := by rw [List.length_append, List.length_take, FF_len, List.length_replicate]; omega
      have c1 := HK.out.1.cell (j := i) (by rw [hll]; exact hlt)
      have c2 := HK.out.1.free i
      have hs := set_step (FF a) 0 4294967295 a i (FF_len a) hlt (by unfold FF; rw [List.getElem?_replicate, if_pos hlt])
      have hst := HK.out.1.set i 4294967295
      rw [hs] at hst
      have HN : Hid (BlkU (wr.setCell ⟨G, i, none⟩ (.int .u32 4294967295)) G ((FF a).take (i + 1) ++ List.replicate (a - (i + 1)) 0) ∧ Below w.heap.size w (wr.setCell ⟨G, i, none⟩ (.int .u32 4294967295))) := ⟨hst, kp_set HK.out.2 hwG⟩
      clear hll hs hst HK
      go_wp2
      go_roundw
      case rel => exact ⟨i + 1, by go_num, by omega, HN⟩
      case measure => simp [intOf]; omega
    · as_aux_lemma =>
      have j1 : ¬ (i : Int) < (a : Int) := by omega
      have HF : Hid (BlkU wr G (FF a) ∧ Below w.heap.size w wr) := by
        have h := HK.out.1
        rw [show a - i = 0 by omega, List.replicate_zero, List.append_nil, take_all (by rw [FF_len]; omega)] at h
        exact ⟨h, HK.out.2⟩
      clear HK
      go_wp2_with fail
      refine calls_w fun w2 hw2 => ?_
      obtain ⟨X, hX⟩ : ∃ X, wr.heap.size = X := ⟨_, rfl⟩
      rw [hX]
      have q1 : BlkU w2 X [1] := by rw [← hw2]; exact has_new' _ _ _ hX.symm
      have q2 : BlkU w2 G (FF a) := by rw [← hw2]; exact has_alloc HF.out.1 _
      have HB := Lib.hid (show Below w.heap.size w w2 by rw [← hw2]; exact kp_alloc HF.out.2 _)
      have RT := q2.ru (FF_lim a) 0 a (by rw [FF_len]; omega)
      rw [List.drop_zero, take_all (by rw [FF_len]; omega)] at RT
      have C := add_any (some ⟨G, 0, none⟩) (some ⟨X, 0, none⟩) a a 1 1 (FF a) [1] w2 RT (q1.ru (by intro x hx; simp at hx; omega) 0 1 (by decide)) (by omega) (by decide)
      have RT := Lib.hid RT
      clear q1 q2 hw2 hX HF
      rw [show addQ (FF a) [1] = ([], 10) by rw [H256.out]; exact add_top2] at C
      refine C.mono ?_
      rintro e w3 ⟨A3, n3, c3, rfl, s3, l3, m3, k3, hb⟩
      obtain rfl : 0 = n3 := s3.len
      replace HB := Lib.hid (kp_call HB.out hb)
      replace RT := Lib.hid (RT.out.below hb)
      have t1 : ¬ (a : Int) < 256 := by omega
      clear C s3 hb
      have z1 : ((a : Int) == 0) = false := by simp; omega
      have z2 : ((b : Int) == 0) = false := by simp; omega
      have z3 : ¬ a = 0 := by omega
      have z4 : ¬ b = 0 := by omega
      obtain ⟨am, ham⟩ : ∃ am, a - 1 = am := ⟨_, rfl⟩
      obtain ⟨bm, hbm⟩ : ∃ bm, b - 1 = bm := ⟨_, rfl⟩
      have u1 : IntKind.i64.wrap ((a : Int) - 1) = (am : Int) := by rw [show (a : Int) - 1 = am by omega]; exact IntWalk.i64_in _ (by omega)
      have u2 : IntKind.i64.wrap ((b : Int) - 1) = (bm : Int) := by rw [show (b : Int) - 1 = bm by omega]; exact IntWalk.i64_in _ (by omega)
      have u3 : (0 : Int) ≤ (am : Int) := by omega
      have u4 : (am : Int) < (a : Int) := by omega
      have u5 : (0 : Int) ≤ (bm : Int) := by omega
      have u6 : (bm : Int) < (b : Int) := by omega
      go_wp2_with (refine wpList_mkU _ _ rfl rfl _ _ _ _ a rfl rfl rfl rfl (by omega) ?_)
      intro w7 hk7 hb7
      obtain ⟨G7, hG7⟩ : ∃ G7, w3.heap.size = G7 := ⟨_, rfl⟩
      have hw7 : w.heap.size ≤ G7 := by have := HB.out.size; omega
      replace HB := Lib.hid (kp_call HB.out hb7)
      rw [hG7] at hk7 ⊢
      clear hb7 hG7
      go_wp2_with (refine wpList_mkU _ _ rfl rfl _ _ _ _ b rfl rfl rfl rfl (by omega) ?_)
      intro w8 hk8 hb8
      obtain ⟨G8, hG8⟩ : ∃ G8, w7.heap.size = G8 := ⟨_, rfl⟩
      have h78 : G7 < G8 := by have := hk7.lt; omega
      have hw8 : w.heap.size ≤ G8 := by omega
      replace HB := Lib.hid (kp_call HB.out hb8)
      replace hk7 := hk7.below hb8
      rw [hG8] at hk8 ⊢
      have c1 := hk7.cell (j := am) (by simp; omega)
      have c2 := hk7.free am
      have c3 : (w8.setCell ⟨G7, am, none⟩ (.int .u32 4294967295)).cell? ⟨G8, bm, none⟩ = _ := BlkU.cell (j := bm) (hk8.far (by omega)) (by simp; omega)
      have c4 : (w8.setCell ⟨G7, am, none⟩ (.int .u32 4294967295)).frozen? ⟨G8, bm, none⟩ = false := BlkU.free (hk8.far (by omega)) bm
      have HQ : Hid (BlkU ((w8.setCell ⟨G7, am, none⟩ (.int .u32 4294967295)).setCell ⟨G8, bm, none⟩ (.int .u32 4294967295)) G7 (HX a) ∧ BlkU ((w8.setCell ⟨G7, am, none⟩ (.int .u32 4294967295)).setCell ⟨G8, bm, none⟩ (.int .u32 4294967295)) G8 (HX b) ∧ Below w.heap.size w ((w8.setCell ⟨G7, am, none⟩ (.int .u32 4294967295)).setCell ⟨G8, bm, none⟩ (.int .u32 4294967295))) := by
        refine ⟨?_, ?_, kp_set (kp_set HB.out hw7) hw8⟩
        · unfold HX; rw [ham]; exact BlkU.far (hk7.set am 4294967295) (by omega)
        · unfold HX; rw [hbm]; exact BlkU.set (hk8.far (by omega)) bm 4294967295
      clear hk7 hk8 hb8 hG8 HB
      go_wp2_with fail
      refine calls_w fun w10 hw10 => ?_
      rw [hw10] at HQ
      have RX := HQ.out.1.ru (HX_lim a) 0 a (by rw [HX_len]; omega)
      have RY := HQ.out.2.1.ru (HX_lim b) 0 b (by rw [HX_len]; omega)
      rw [List.drop_zero, take_all (by rw [HX_len]; omega)] at RX RY
      have HB := Lib.hid HQ.out.2.2
      have C := mul_any (some ⟨G7, 0, none⟩) (some ⟨G8, 0, none⟩) a a b b (HX a) (HX b) w10 RX RY (by omega) (by omega)
      obtain ⟨ab, hab⟩ : ∃ ab, a + b = ab := ⟨_, rfl⟩
      have v1 : IntKind.i64.wrap ((a : Int) + (b : Int)) = (ab : Int) := by rw [show (a : Int) + b = ab by omega]; exact IntWalk.i64_in _ (by omega)
      rw [top_big a b (by omega) (by omega) ha6 hb6 hab2] at C
      have v2 : (ab : Int) > 256 := by omega
      refine C.mono ?_
      rintro e w11 ⟨A11, n11, c11, rfl, s11, l11, m11, k11, hb⟩
      obtain rfl : 0 = n11 := s11.len
      replace HB := Lib.hid (kp_call HB.out hb)
      have HZ := Lib.hid (show _ ∧ _ ∧ _ from ⟨ham, hbm, hab⟩)
      clear C s11 hb RX RY HQ hw10 c1 c2 c3 c4 ham hbm hab
      go_wp2_with fail
      refine (works_any w11).mono ?_
      rintro e w12 ⟨rfl, hb⟩
      replace HB := Lib.hid (kp_call HB.out hb)
      clear hb
      go_wp2
      go_ret
      exact ⟨rfl, HB.out⟩
set_option maxHeartbeats 16000000 in
theorem full_3 (m0 n0 a b : Nat) (w : World) (hm : m0 ≤ 65535) (hn : n0 ≤ 65535) (ha : m0 % 257 = a) (hb : n0 % 257 = b) (hsm : a < 256) (hsz : a = 0) :
    Calls Try.prog 9 #[.int .u16 (m0 : Int), .int .u16 (n0 : Int)] w fun e w' => e = .returned (.bool true) ∧ Below w.heap.size w w' := by
  have e1 : (m0 : Int) % 257 = (a : Int) := by omega
  have e2 : (n0 : Int) % 257 = (b : Int) := by omega
  have e1t : (m0 : Int).tmod 257 = (a : Int) := by rw [Int.tmod_eq_emod_of_nonneg (by omega)]; exact e1
  have e2t : (n0 : Int).tmod 257 = (b : Int) := by rw [Int.tmod_eq_emod_of_nonneg (by omega)]; exact e2
  have ha6 : a ≤ 256 := by omega
  have hb6 : b ≤ 256 := by omega
  have HAB := Lib.hid (And.intro ha hb)
  clear ha hb
  have hz0 : a < 1 := by omega
  have HSZ := Lib.hid hsz
  clear hsz
  go_enter Try.func9, Try.ntmps9
  go_wp2_with (refine wpList_mkU _ _ rfl rfl _ _ _ _ a rfl rfl rfl rfl (by omega) ?_)
  intro w1 hblk hb1
  obtain ⟨G, hG⟩ : ∃ G, w.heap.size = G := ⟨_, rfl⟩
  have hwG : w.heap.size ≤ G := by omega
  rw [hG] at hblk ⊢
  have H1 : Hid (BlkU w1 G (List.replicate a 0) ∧ Below w.heap.size w w1) := ⟨hblk, hb1⟩
  clear hblk hb1 hG
  go_wp2
  go_loopw [8] (fun vi wl => ∃ i : Nat, vi = .int .i64 (i : Int) ∧ i ≤ a ∧ Hid (BlkU wl G ((FF a).take i ++ List.replicate (a - i) 0) ∧ Below w.heap.size w wl)) (fun vi _ => a - (intOf vi).toNat)
  case atStart => exact ⟨0, rfl, Nat.zero_le _, H1.out⟩
  case round =>
    obtain ⟨i, rfl, hi, HK⟩ := hrel
    clear H1
    by_cases hlt : i < a
    · as_aux_lemma =>
      exact absurd hlt (by omega)
    · as_aux_lemma =>
      have j1 : ¬ (i : Int) < (a : Int) := by omega
      have HF : Hid (BlkU wr G (FF a) ∧ Below w.heap.size w wr) := by
        have h := HK.out.1
        rw [show a - i = 0 by omega, List.replicate_zero, List.append_nil, take_all (by rw [FF_len]; omega)] at h
        exact ⟨h, HK.out.2⟩
      clear HK
      go_wp2_with fail
      refine calls_w fun w2 hw2 => ?_
      obtain ⟨X, hX⟩ : ∃ X, wr.heap.size = X := ⟨_, rfl⟩
      rw [hX]
      have q1 : BlkU w2 X [1] := by rw [← hw2]; exact has_new' _ _ _ hX.symm
      have q2 : BlkU w2 G (FF a) := by rw [← hw2]; exact has_alloc HF.out.1 _
      have HB := Lib.hid (show Below w.heap.size w w2 by rw [← hw2]; exact kp_alloc HF.out.2 _)
      have RT := q2.ru (FF_lim a) 0 a (by rw [FF_len]; omega)
      rw [List.drop_zero, take_all (by rw [FF_len]; omega)] at RT
      have C := add_any (some ⟨G, 0, none⟩) (some ⟨X, 0, none⟩) a a 1 1 (FF a) [1] w2 RT (q1.ru (by intro x hx; simp at hx; omega) 0 1 (by decide)) (by omega) (by decide)
      have RT := Lib.hid RT
      clear q1 q2 hw2 hX HF
      rw [add_top a hsm] at C
      refine C.mono ?_
      rintro e w3 ⟨A3, n3, c3, rfl, s3, l3, m3, k3, hb⟩
      obtain ⟨a1, ha1⟩ : ∃ a1, a + 1 = a1 := ⟨_, rfl⟩
      obtain rfl : a1 = n3 := by have h : (num (4294967296 ^ a)).length = n3 := s3.len; rw [num_pow_len] at h; omega
      replace HB := Lib.hid (kp_call HB.out hb)
      replace RT := Lib.hid (RT.out.below hb)
      have R3 := Lib.hid s3.ru
      obtain ⟨g3, hg3, _, _, d3⟩ := s3.cells (by intro e; have h9 := num_pow_len a; rw [show num (4294967296 ^ a) = [] from e] at h9; simp at h9)
      subst hg3
      have cs := d3 a 1 (by have h := getD_at (l := num (4294967296 ^ a)) (j := a) (by rw [num_pow_len]; omega); rw [pow_digit] at h; exact h)
      have t1 : (a : Int) < 256 := by omega
      have t2 : IntKind.i64.wrap ((a : Int) + 1) = (a1 : Int) := by rw [show (a : Int) + 1 = a1 by omega]; exact IntWalk.i64_in _ (by omega)
      have t3 : (a : Int) < (a1 : Int) := by omega
      have t4 : (0 : Int) ≤ (a : Int) := by omega
      have t6 : ((a1 : Int) != (a1 : Int)) = false := by simp
      have C9 := bits_any (some ⟨g3, 0, none⟩) a1 c3 _ w3 R3.out (by omega)
      rw [if_pos (by rw [num_right, decide_eq_true (Nat.pow_lt_pow_right (by decide) hsm)]), val_num, pow_bits] at C9
      obtain ⟨bt, hbt⟩ : ∃ bt, 32 * a + 1 = bt := ⟨_, rfl⟩
      rw [hbt] at C9
      have t5 : IntKind.i64.wrap (32 * (a : Int)) = ((32 * a : Nat) : Int) := by rw [show 32 * (a : Int) = ((32 * a : Nat) : Int) by omega]; exact IntWalk.i64_in _ (by omega)
      obtain ⟨a32, ha32⟩ : ∃ a32, 32 * a = a32 := ⟨_, rfl⟩
      rw [ha32] at t5
      have t7 : IntKind.i64.wrap ((a32 : Int) + 1) = (bt : Int) := by rw [show (a32 : Int) + 1 = bt by omega]; exact IntWalk.i64_in _ (by omega)
      have t8 : ((bt : Int) != (bt : Int)) = false := by simp
      have C9 := Lib.hid C9
      have HX1 := Lib.hid (show _ ∧ _ ∧ _ from ⟨ha1, hbt, ha32⟩)
      clear C s3 hb d3 ha1 hbt ha32
      go_wp2_with fail
      refine C9.out.mono ?_
      rintro e w' ⟨rfl, rfl⟩
      clear C9
      go_wp2_with fail
      refine calls_w fun w4 hw4 => ?_
      obtain ⟨X4, hX4⟩ : ∃ X4, w3.heap.size = X4 := ⟨_, rfl⟩
      rw [hX4]
      have q4 : BlkU w4 X4 [1] := by rw [← hw4]; exact has_new' _ _ _ hX4.symm
      have hb4 : Below w3.heap.size w3 w4 := by rw [← hw4]; exact kp_alloc (Below.refl _ _) _
      replace HB := Lib.hid (kp_call HB.out hb4)
      replace RT := Lib.hid (RT.out.below hb4)
      have C := sub_any (some ⟨g3, 0, none⟩) (some ⟨X4, 0, none⟩) a1 c3 1 1 _ [1] w4 (R3.out.below hb4) (q4.ru (by intro x hx; simp at hx; omega) 0 1 (by decide)) (by omega) (by decide)
      rw [sub_top a hsm] at C
      clear hw4 q4 hb4 hX4 R3 cs
      refine C.mono ?_
      rintro e w5 ⟨A5, n5, c5, rfl, s5, l5, m5, k5, hb⟩
      replace HB := Lib.hid (kp_call HB.out hb)
      replace RT := Lib.hid (RT.out.below hb)
      have R5 := Lib.hid s5.ru
      clear C s5 hb
      go_wp2_with fail
      refine (same_t A5 (some ⟨G, 0, none⟩) n5 c5 a a _ _ w5 R5.out RT.out (by omega) (by omega) rfl).mono ?_
      rintro e w6 ⟨rfl, hb⟩
      replace HB := Lib.hid (kp_call HB.out hb)
      clear hb R5 RT
      have z1 : ((a : Int) == 0) = true := by simp; omega
      go_wp2_with fail
      refine (works_any w6).mono ?_
      rintro e w9 ⟨rfl, hb⟩
      replace HB := Lib.hid (kp_call HB.out hb)
      clear hb
      go_wp2
      go_ret
      exact ⟨rfl, HB.out⟩
set_option maxHeartbeats 16000000 in
theorem full_3b (m0 n0 a b : Nat) (w : World) (hm : m0 ≤ 65535) (hn : n0 ≤ 65535) (ha : m0 % 257 = a) (hb : n0 % 257 = b) (hsm : a < 256) (ha0 : 0 < a) (hsz : b = 0) :
    Calls Try.prog 9 #[.int .u16 (m0 : Int), .int .u16 (n0 : Int)] w fun e w' => e = .returned (.bool true) ∧ Below w.heap.size w w' := by
  have e1 : (m0 : Int) % 257 = (a : Int) := by omega
  have e2 : (n0 : Int) % 257 = (b : Int) := by omega
  have e1t : (m0 : Int).tmod 257 = (a : Int) := by rw [Int.tmod_eq_emod_of_nonneg (by omega)]; exact e1
  have e2t : (n0 : Int).tmod 257 = (b : Int) := by rw [Int.tmod_eq_emod_of_nonneg (by omega)]; exact e2
  have ha6 : a ≤ 256 := by omega
  have hb6 : b ≤ 256 := by omega
  have HAB := Lib.hid (And.intro ha hb)
  clear ha hb
  have hz0 : b < 1 := by omega
  have HSZ := Lib.hid hsz
  clear hsz
  go_enter Try.func9, Try.ntmps9
  go_wp2_with (refine wpList_mkU _ _ rfl rfl _ _ _ _ a rfl rfl rfl rfl (by omega) ?_)
  intro w1 hblk hb1
  obtain ⟨G, hG⟩ : ∃ G, w.heap.size = G := ⟨_, rfl⟩
  have hwG : w.heap.size ≤ G := by omega
  rw [hG] at hblk ⊢
  have H1 : Hid (BlkU w1 G (List.replicate a 0) ∧ Below w.heap.size w w1) := ⟨hblk, hb1⟩
  clear hblk hb1 hG
  go_wp2
  go_loopw [8] (fun vi wl => ∃ i : Nat, vi = .int .i64 (i : Int) ∧ i ≤ a ∧ Hid (BlkU wl G ((FF a).take i ++ List.replicate (a - i) 0) ∧ Below w.heap.size w wl)) (fun vi _ => a - (intOf vi).toNat)
  case atStart => exact ⟨0, rfl, Nat.zero_le _, H1.out⟩
  case round =>
    obtain ⟨i, rfl, hi, HK⟩ := hrel
    clear H1
    by_cases hlt : i < a
    · as_aux_lemma =>
      have j1 : (i : Int) < (a : Int) := by omega
      have j2 : (0 : Int) ≤ (i : Int) := by omega
      have e3 : IntKind.i64.wrap ((i : Int) + 1) = (i : Int) + 1 := IntWalk.i64_in _ (by omega)
      have hll : ((FF a).take i ++ List.replicate (a - i) 0).length = a := by rw [List.length_append, List.length_take, FF_len, List.length_replicate]; omega
      have c1 := HK.out.1.cell (j := i) (by rw [hll]; exact hlt)
      have c2 := HK.out.1.free i
      have hs := set_step (FF a) 0 4294967295 a i (FF_len a) hlt (by unfold FF; rw [List.getElem?_replicate, if_pos hlt])
      have hst := HK.out.1.set i 4294967295
      rw [hs] at hst
      have HN : Hid (BlkU (wr.setCell ⟨G, i, none⟩ (.int .u32 4294967295)) G ((FF a).take (i + 1) ++ List.replicate (a - (i + 1)) 0) ∧ Below w.heap.size w (wr.setCell ⟨G, i, none⟩ (.int .u32 4294967295))) := ⟨hst, kp_set HK.out.2 hwG⟩
      clear hll hs hst HK
      go_wp2
      go_roundw
      case rel => exact ⟨i + 1, by go_num, by omega, HN⟩
      case measure => simp [intOf]; omega
    · as_aux_lemma =>
      have j1 : ¬ (i : Int) < (a : Int) := by omega
      have HF : Hid (BlkU wr G (FF a) ∧ Below w.heap.size w wr) := by
        have h := HK.out.1
        rw [show a - i = 0 by omega, List.replicate_zero, List.append_nil, take_all (by rw [FF_len]; omega)] at h
        exact ⟨h, HK.out.2⟩
      clear HK
      go_wp2_with fail
      refine calls_w fun w2 hw2 => ?_
      obtain ⟨X, hX⟩ : ∃ X, wr.heap.size = X := ⟨_, rfl⟩
      rw [hX]
      have q1 : BlkU w2 X [1] := by rw [← hw2]; exact has_new' _ _ _ hX.symm
      have q2 : BlkU w2 G (FF a) := by rw [← hw2]; exact has_alloc HF.out.1 _
      have HB := Lib.hid (show Below w.heap.size w w2 by rw [← hw2]; exact kp_alloc HF.out.2 _)
      have RT := q2.ru (FF_lim a) 0 a (by rw [FF_len]; omega)
      rw [List.drop_zero, take_all (by rw [FF_len]; omega)] at RT
      have C := add_any (some ⟨G, 0, none⟩) (some ⟨X, 0, none⟩) a a 1 1 (FF a) [1] w2 RT (q1.ru (by intro x hx; simp at hx; omega) 0 1 (by decide)) (by omega) (by decide)
      have RT := Lib.hid RT
      clear q1 q2 hw2 hX HF
      rw [add_top a hsm] at C
      refine C.mono ?_
      rintro e w3 ⟨A3, n3, c3, rfl, s3, l3, m3, k3, hb⟩
      obtain ⟨a1, ha1⟩ : ∃ a1, a + 1 = a1 := ⟨_, rfl⟩
      obtain rfl : a1 = n3 := by have h : (num (4294967296 ^ a)).length = n3 := s3.len; rw [num_pow_len] at h; omega
      replace HB := Lib.hid (kp_call HB.out hb)
      replace RT := Lib.hid (RT.out.below hb)
      have R3 := Lib.hid s3.ru
      obtain ⟨g3, hg3, _, _, d3⟩ := s3.cells (by intro e; have h9 := num_pow_len a; rw [show num (4294967296 ^ a) = [] from e] at h9; simp at h9)
      subst hg3
      have cs := d3 a 1 (by have h := getD_at (l := num (4294967296 ^ a)) (j := a) (by rw [num_pow_len]; omega); rw [pow_digit] at h; exact h)
      have t1 : (a : Int) < 256 := by omega
      have t2 : IntKind.i64.wrap ((a : Int) + 1) = (a1 : Int) := by rw [show (a : Int) + 1 = a1 by omega]; exact IntWalk.i64_in _ (by omega)
      have t3 : (a : Int) < (a1 : Int) := by omega
      have t4 : (0 : Int) ≤ (a : Int) := by omega
      have t6 : ((a1 : Int) != (a1 : Int)) = false := by simp
      have C9 := bits_any (some ⟨g3, 0, none⟩) a1 c3 _ w3 R3.out (by omega)
      rw [if_pos (by rw [num_right, decide_eq_true (Nat.pow_lt_pow_right (by decide) hsm)]), val_num, pow_bits] at C9
      obtain ⟨bt, hbt⟩ : ∃ bt, 32 * a + 1 = bt := ⟨_, rfl⟩
      rw [hbt] at C9
      have t5 : IntKind.i64.wrap (32 * (a : Int)) = ((32 * a : Nat) : Int) := by rw [show 32 * (a : Int) = ((32 * a : Nat) : Int) by omega]; exact IntWalk.i64_in _ (by omega)
      obtain ⟨a32, ha32⟩ : ∃ a32, 32 * a = a32 := ⟨_, rfl⟩
      rw [ha32] at t5
      have t7 : IntKind.i64.wrap ((a32 : Int) + 1) = (bt : Int) := by rw [show (a32 : Int) + 1 = bt by omega]; exact IntWalk.i64_in _ (by omega)
      have t8 : ((bt : Int) != (bt : Int)) = false := by simp
      have C9 := Lib.hid C9
      have HX1 := Lib.hid (show _ ∧ _ ∧ _ from ⟨ha1, hbt, ha32⟩)
      clear C s3 hb d3 ha1 hbt ha32
      go_wp2_with fail
      refine C9.out.mono ?_
      rintro e w' ⟨rfl, rfl⟩
      clear C9
      go_wp2_with fail
      refine calls_w fun w4 hw4 => ?_
      obtain ⟨X4, hX4⟩ : ∃ X4, w3.heap.size = X4 := ⟨_, rfl⟩
      rw [hX4]
      have q4 : BlkU w4 X4 [1] := by rw [← hw4]; exact has_new' _ _ _ hX4.symm
      have hb4 : Below w3.heap.size w3 w4 := by rw [← hw4]; exact kp_alloc (Below.refl _ _) _
      replace HB := Lib.hid (kp_call HB.out hb4)
      replace RT := Lib.hid (RT.out.below hb4)
      have C := sub_any (some ⟨g3, 0, none⟩) (some ⟨X4, 0, none⟩) a1 c3 1 1 _ [1] w4 (R3.out.below hb4) (q4.ru (by intro x hx; simp at hx; omega) 0 1 (by decide)) (by omega) (by decide)
      rw [sub_top a hsm] at C
      clear hw4 q4 hb4 hX4 R3 cs
      refine C.mono ?_
      rintro e w5 ⟨A5, n5, c5, rfl, s5, l5, m5, k5, hb⟩
      replace HB := Lib.hid (kp_call HB.out hb)
      replace RT := Lib.hid (RT.out.below hb)
      have R5 := Lib.hid s5.ru
      clear C s5 hb
      go_wp2_with fail
      refine (same_t A5 (some ⟨G, 0, none⟩) n5 c5 a a _ _ w5 R5.out RT.out (by omega) (by omega) rfl).mono ?_
      rintro e w6 ⟨rfl, hb⟩
      replace HB := Lib.hid (kp_call HB.out hb)
      clear hb R5 RT
      have z1 : ((a : Int) == 0) = false := by simp; omega
      have z2 : ((b : Int) == 0) = true := by simp; omega
      go_wp2_with fail
      refine (works_any w6).mono ?_
      rintro e w9 ⟨rfl, hb⟩
      replace HB := Lib.hid (kp_call HB.out hb)
      clear hb
      go_wp2
      go_ret
      exact ⟨rfl, HB.out⟩
set_option maxHeartbeats 16000000 in
theorem full_4 (m0 n0 a b : Nat) (w : World) (hm : m0 ≤ 65535) (hn : n0 ≤ 65535) (ha : m0 % 257 = a) (hb : n0 % 257 = b) (hsm : a < 256) (ha0 : 0 < a) (hb0 : 0 < b) (hab2 : 256 < a + b) :
    Calls Try.prog 9 #[.int .u16 (m0 : Int), .int .u16 (n0 : Int)] w fun e w' => e = .returned (.bool true) ∧ Below w.heap.size w w' := by
  have e1 : (m0 : Int) % 257 = (a : Int) := by omega
  have e2 : (n0 : Int) % 257 = (b : Int) := by omega
  have e1t : (m0 : Int).tmod 257 = (a : Int) := by rw [Int.tmod_eq_emod_of_nonneg (by omega)]; exact e1
  have e2t : (n0 : Int).tmod 257 = (b : Int) := by rw [Int.tmod_eq_emod_of_nonneg (by omega)]; exact e2
  have ha6 : a ≤ 256 := by omega
  have hb6 : b ≤ 256 := by omega
  have HAB := Lib.hid (And.intro ha hb)
  clear ha hb
  go_enter Try.func9, Try.ntmps9
  go_wp2_with (refine wpList_mkU _ _ rfl rfl _ _ _ _ a rfl rfl rfl rfl (by omega) ?_)
  intro w1 hblk hb1
  obtain ⟨G, hG⟩ : ∃ G, w.heap.size = G := ⟨_, rfl⟩
  have hwG : w.heap.size ≤ G := by omega
  rw [hG] at hblk ⊢
  have H1 : Hid (BlkU w1 G (List.replicate a 0) ∧ Below w.heap.size w w1) := ⟨hblk, hb1⟩
  clear hblk hb1 hG
  go_wp2
  go_loopw [8] (fun vi wl => ∃ i : Nat, vi = .int .i64 (i : Int) ∧ i ≤ a ∧ Hid (BlkU wl G ((FF a).take i ++ List.replicate (a - i) 0) ∧ Below w.heap.size w wl)) (fun vi _ => a - (intOf vi).toNat)
  case atStart => exact ⟨0, rfl, Nat.zero_le _, H1.out⟩
  case round =>
    obtain ⟨i, rfl, hi, HK⟩ := hrel
    clear H1
    by_cases hlt : i < a
    · as_aux_lemma =>
      have j1 : (i : Int) < (a : Int) := by omega
      have j2 : (0 : Int) ≤ (i : Int) := by omega
      have e3 : IntKind.i64.wrap ((i : Int) + 1) = (i : Int) + 1 := IntWalk.i64_in _ (by omega)
      have hll : ((FF a).take i ++ List.replicate (a - i) 0).length = a := by rw [List.length_append, List.length_take, FF_len, List.length_replicate]; omega
      have c1 := HK.out.1.cell (j := i) (by rw [hll]; exact hlt)
      have c2 := HK.out.1.free i
      have hs := set_step (FF a) 0 4294967295 a i (FF_len a) hlt (by unfold FF; rw [List.getElem?_replicate, if_pos hlt])
      have hst := HK.out.1.set i 4294967295
      rw [hs] at hst
      have HN : Hid (BlkU (wr.setCell ⟨G, i, none⟩ (.int .u32 4294967295)) G ((FF a).take (i + 1) ++ List.replicate (a - (i + 1)) 0) ∧ Below w.heap.size w (wr.setCell ⟨G, i, none⟩ (.int .u32 4294967295))) := ⟨hst, kp_set HK.out.2 hwG⟩
      clear hll hs hst HK
      go_wp2
      go_roundw
      case rel => exact ⟨i + 1, by go_num, by omega, HN⟩
      case measure => simp [intOf]; omega
    · as_aux_lemma =>
      have j1 : ¬ (i : Int) < (a : Int) := by omega
      have HF : Hid (BlkU wr G (FF a) ∧ Below w.heap.size w wr) := by
        have h := HK.out.1
        rw [show a - i = 0 by omega, List.replicate_zero, List.append_nil, take_all (by rw [FF_len]; omega)] at h
        exact ⟨h, HK.out.2⟩
      clear HK
      go_wp2_with fail
      refine calls_w fun w2 hw2 => ?_
      obtain ⟨X, hX⟩ : ∃ X, wr.heap.size = X := ⟨_, rfl⟩
      rw [hX]
      have q1 : BlkU w2 X [1] := by rw [← hw2]; exact has_new' _ _ _ hX.symm
      have q2 : BlkU w2 G (FF a) := by rw [← hw2]; exact has_alloc HF.out.1 _
      have HB := Lib.hid (show Below w.heap.size w w2 by rw [← hw2]; exact kp_alloc HF.out.2 _)
      have RT := q2.ru (FF_lim a) 0 a (by rw [FF_len]; omega)
      rw [List.drop_zero, take_all (by rw [FF_len]; omega)] at RT
      have C := add_any (some ⟨G, 0, none⟩) (some ⟨X, 0, none⟩) a a 1 1 (FF a) [1] w2 RT (q1.ru (by intro x hx; simp at hx; omega) 0 1 (by decide)) (by omega) (by decide)
      have RT := Lib.hid RT
      clear q1 q2 hw2 hX HF
      rw [add_top a hsm] at C
      refine C.mono ?_
      rintro e w3 ⟨A3, n3, c3, rfl, s3, l3, m3, k3, hb⟩
      obtain ⟨a1, ha1⟩ : ∃ a1, a + 1 = a1 := ⟨_, rfl⟩
      obtain rfl : a1 = n3 := by have h : (num (4294967296 ^ a)).length = n3 := s3.len; rw [num_pow_len] at h; omega
      replace HB := Lib.hid (kp_call HB.out hb)
      replace RT := Lib.hid (RT.out.below hb)
      have R3 := Lib.hid s3.ru
      obtain ⟨g3, hg3, _, _, d3⟩ := s3.cells (by intro e; have h9 := num_pow_len a; rw [show num (4294967296 ^ a) = [] from e] at h9; simp at h9)
      subst hg3
      have cs := d3 a 1 (by have h := getD_at (l := num (4294967296 ^ a)) (j := a) (by rw [num_pow_len]; omega); rw [pow_digit] at h; exact h)
      have t1 : (a : Int) < 256 := by omega
      have t2 : IntKind.i64.wrap ((a : Int) + 1) = (a1 : Int) := by rw [show (a : Int) + 1 = a1 by omega]; exact IntWalk.i64_in _ (by omega)
      have t3 : (a : Int) < (a1 : Int) := by omega
      have t4 : (0 : Int) ≤ (a : Int) := by omega
      have t6 : ((a1 : Int) != (a1 : Int)) = false := by simp
      have C9 := bits_any (some ⟨g3, 0, none⟩) a1 c3 _ w3 R3.out (by omega)
      rw [if_pos (by rw [num_right, decide_eq_true (Nat.pow_lt_pow_right (by decide) hsm)]), val_num, pow_bits] at C9
      obtain ⟨bt, hbt⟩ : ∃ bt, 32 * a + 1 = bt := ⟨_, rfl⟩
      rw [hbt] at C9
      have t5 : IntKind.i64.wrap (32 * (a : Int)) = ((32 * a : Nat) : Int) := by rw [show 32 * (a : Int) = ((32 * a : Nat) : Int) by omega]; exact IntWalk.i64_in _ (by omega)
      obtain ⟨a32, ha32⟩ : ∃ a32, 32 * a = a32 := ⟨_, rfl⟩
      rw [ha32] at t5
      have t7 : IntKind.i64.wrap ((a32 : Int) + 1) = (bt : Int) := by rw [show (a32 : Int) + 1 = bt by omega]; exact IntWalk.i64_in _ (by omega)
      have t8 : ((bt : Int) != (bt : Int)) = false := by simp
      have C9 := Lib.hid C9
      have HX1 := Lib.hid (show _ ∧ _ ∧ _ from ⟨ha1, hbt, ha32⟩)
      clear C s3 hb d3 ha1 hbt ha32
      go_wp2_with fail
      refine C9.out.mono ?_
      rintro e w' ⟨rfl, rfl⟩
      clear C9
      go_wp2_with fail
      refine calls_w fun w4 hw4 => ?_
      obtain ⟨X4, hX4⟩ : ∃ X4, w3.heap.size = X4 := ⟨_, rfl⟩
      rw [hX4]
      have q4 : BlkU w4 X4 [1] := by rw [← hw4]; exact has_new' _ _ _ hX4.symm
      have hb4 : Below w3.heap.size w3 w4 := by rw [← hw4]; exact kp_alloc (Below.refl _ _) _
      replace HB := Lib.hid (kp_call HB.out hb4)
      replace RT := Lib.hid (RT.out.below hb4)
      have C := sub_any (some ⟨g3, 0, none⟩) (some ⟨X4, 0, none⟩) a1 c3 1 1 _ [1] w4 (R3.out.below hb4) (q4.ru (by intro x hx; simp at hx; omega) 0 1 (by decide)) (by omega) (by decide)
      rw [sub_top a hsm] at C
      clear hw4 q4 hb4 hX4 R3 cs
      refine C.mono ?_
      rintro e w5 ⟨A5, n5, c5, rfl, s5, l5, m5, k5, hb⟩
      replace HB := Lib.hid (kp_call HB.out hb)
      replace RT := Lib.hid (RT.out.below hb)
      have R5 := Lib.hid s5.ru
      clear C s5 hb
      go_wp2_with fail
      refine (same_t A5 (some ⟨G, 0, none⟩) n5 c5 a a _ _ w5 R5.out RT.out (by omega) (by omega) rfl).mono ?_
      rintro e w6 ⟨rfl, hb⟩
      replace HB := Lib.hid (kp_call HB.out hb)
      clear hb R5 RT
      have z1 : ((a : Int) == 0) = false := by simp; omega
      have z2 : ((b : Int) == 0) = false := by simp; omega
      have z3 : ¬ a = 0 := by omega
      have z4 : ¬ b = 0 := by omega
      obtain ⟨am, ham⟩ : ∃ am, a - 1 = am := ⟨_, rfl⟩
      obtain ⟨bm, hbm⟩ : ∃ bm, b - 1 = bm := ⟨_, rfl⟩
      have u1 : IntKind.i64.wrap ((a : Int) - 1) = (am : Int) := by rw [show (a : Int) - 1 = am by omega]; exact IntWalk.i64_in _ (by omega)
      have u2 : IntKind.i64.wrap ((b : Int) - 1) = (bm : Int) := by rw [show (b : Int) - 1 = bm by omega]; exact IntWalk.i64_in _ (by omega)
      have u3 : (0 : Int) ≤ (am : Int) := by omega
      have u4 : (am : Int) < (a : Int) := by omega
      have u5 : (0 : Int) ≤ (bm : Int) := by omega
      have u6 : (bm : Int) < (b : Int) := by omega
      go_wp2_with (refine wpList_mkU _ _ rfl rfl _ _ _ _ a rfl rfl rfl rfl (by omega) ?_)
      intro w7 hk7 hb7
      obtain ⟨G7, hG7⟩ : ∃ G7, w6.heap.size = G7 := ⟨_, rfl⟩
      have hw7 : w.heap.size ≤ G7 := by have := HB.out.size; omega
      replace HB := Lib.hid (kp_call HB.out hb7)
      rw [hG7] at hk7 ⊢
      clear hb7 hG7
      go_wp2_with (refine wpList_mkU _ _ rfl rfl _ _ _ _ b rfl rfl rfl rfl (by omega) ?_)
      intro w8 hk8 hb8
      obtain ⟨G8, hG8⟩ : ∃ G8, w7.heap.size = G8 := ⟨_, rfl⟩
      have h78 : G7 < G8 := by have := hk7.lt; omega
      have hw8 : w.heap.size ≤ G8 := by omega
      replace HB := Lib.hid (kp_call HB.out hb8)
      replace hk7 := hk7.below hb8
      rw [hG8] at hk8 ⊢
      have c1 := hk7.cell (j := am) (by simp; omega)
      have c2 := hk7.free am
      have c3 : (w8.setCell ⟨G7, am, none⟩ (.int .u32 4294967295)).cell? ⟨G8, bm, none⟩ = _ := BlkU.cell (j := bm) (hk8.far (by omega)) (by simp; omega)
      have c4 : (w8.setCell ⟨G7, am, none⟩ (.int .u32 4294967295)).frozen? ⟨G8, bm, none⟩ = false := BlkU.free (hk8.far (by omega)) bm
      have HQ : Hid (BlkU ((w8.setCell ⟨G7, am, none⟩ (.int .u32 4294967295)).setCell ⟨G8, bm, none⟩ (.int .u32 4294967295)) G7 (HX a) ∧ BlkU ((w8.setCell ⟨G7, am, none⟩ (.int .u32 4294967295)).setCell ⟨G8, bm, none⟩ (.int .u32 4294967295)) G8 (HX b) ∧ Below w.heap.size w ((w8.setCell ⟨G7, am, none⟩ (.int .u32 4294967295)).setCell ⟨G8, bm, none⟩ (.int .u32 4294967295))) := by
        refine ⟨?_, ?_, kp_set (kp_set HB.out hw7) hw8⟩
        · unfold HX; rw [ham]; exact BlkU.far (hk7.set am 4294967295) (by omega)
        · unfold HX; rw [hbm]; exact BlkU.set (hk8.far (by omega)) bm 4294967295
      clear hk7 hk8 hb8 hG8 HB
      go_wp2_with fail
      refine calls_w fun w10 hw10 => ?_
      rw [hw10] at HQ
      have RX := HQ.out.1.ru (HX_lim a) 0 a (by rw [HX_len]; omega)
      have RY := HQ.out.2.1.ru (HX_lim b) 0 b (by rw [HX_len]; omega)
      rw [List.drop_zero, take_all (by rw [HX_len]; omega)] at RX RY
      have HB := Lib.hid HQ.out.2.2
      have C := mul_any (some ⟨G7, 0, none⟩) (some ⟨G8, 0, none⟩) a a b b (HX a) (HX b) w10 RX RY (by omega) (by omega)
      obtain ⟨ab, hab⟩ : ∃ ab, a + b = ab := ⟨_, rfl⟩
      have v1 : IntKind.i64.wrap ((a : Int) + (b : Int)) = (ab : Int) := by rw [show (a : Int) + b = ab by omega]; exact IntWalk.i64_in _ (by omega)
      rw [top_big a b (by omega) (by omega) ha6 hb6 hab2] at C
      have v2 : (ab : Int) > 256 := by omega
      refine C.mono ?_
      rintro e w11 ⟨A11, n11, c11, rfl, s11, l11, m11, k11, hb⟩
      obtain rfl : 0 = n11 := s11.len
      replace HB := Lib.hid (kp_call HB.out hb)
      have HZ := Lib.hid (show _ ∧ _ ∧ _ from ⟨ham, hbm, hab⟩)
      clear C s11 hb RX RY HQ hw10 c1 c2 c3 c4 ham hbm hab
      go_wp2_with fail
      refine (works_any w11).mono ?_
      rintro e w12 ⟨rfl, hb⟩
      replace HB := Lib.hid (kp_call HB.out hb)
      clear hb
      go_wp2
      go_ret
      exact ⟨rfl, HB.out⟩
set_option maxHeartbeats 16000000 in
theorem full_5 (m0 n0 a b : Nat) (w : World) (hm : m0 ≤ 65535) (hn : n0 ≤ 65535) (ha : m0 % 257 = a) (hb : n0 % 257 = b) (hsm : a < 256) (ha0 : 0 < a) (hb0 : 0 < b) (hab2 : a + b ≤ 256) :
    Calls Try.prog 9 #[.int .u16 (m0 : Int), .int .u16 (n0 : Int)] w fun e w' => e = .returned (.bool true) ∧ Below w.heap.size w w' := by
  have e1 : (m0 : Int) % 257 = (a : Int) := by omega
  have e2 : (n0 : Int) % 257 = (b : Int) := by omega
  have e1t : (m0 : Int).tmod 257 = (a : Int) := by rw [Int.tmod_eq_emod_of_nonneg (by omega)]; exact e1
  have e2t : (n0 : Int).tmod 257 = (b : Int) := by rw [Int.tmod_eq_emod_of_nonneg (by omega)]; exact e2
  have ha6 : a ≤ 256 := by omega
  have hb6 : b ≤ 256 := by omega
  have HAB := Lib.hid (And.intro ha hb)
  clear ha hb
  go_enter Try.func9, Try.ntmps9
  go_wp2_with (refine wpList_mkU _ _ rfl rfl _ _ _ _ a rfl rfl rfl rfl (by omega) ?_)
  intro w1 hblk hb1
  obtain ⟨G, hG⟩ : ∃ G, w.heap.size = G := ⟨_, rfl⟩
  have hwG : w.heap.size ≤ G := by omega
  rw [hG] at hblk ⊢
  have H1 : Hid (BlkU w1 G (List.replicate a 0) ∧ Below w.heap.size w w1) := ⟨hblk, hb1⟩
  clear hblk hb1 hG
  go_wp2
  go_loopw [8] (fun vi wl => ∃ i : Nat, vi = .int .i64 (i : Int) ∧ i ≤ a ∧ Hid (BlkU wl G ((FF a).take i ++ List.replicate (a - i) 0) ∧ Below w.heap.size w wl)) (fun vi _ => a - (intOf vi).toNat)
  case atStart => exact ⟨0, rfl, Nat.zero_le _, H1.out⟩
  case round =>
    obtain ⟨i, rfl, hi, HK⟩ := hrel
    clear H1
    by_cases hlt : i < a
    · as_aux_lemma =>
      have j1 : (i : Int) < (a : Int) := by omega
      have j2 : (0 : Int) ≤ (i : Int) := by omega
      have e3 : IntKind.i64.wrap ((i : Int) + 1) = (i : Int) + 1 := IntWalk.i64_in _ (by omega)
      have hll : ((FF a).take i ++ List.replicate (a - i) 0).length = a := by rw [List.length_append, List.length_take, FF_len, List.length_replicate]; omega
      have c1 := HK.out.1.cell (j := i) (by rw [hll]; exact hlt)
      have c2 := HK.out.1.free i
      have hs := set_step (FF a) 0 4294967295 a i (FF_len a) hlt (by unfold FF; rw [List.getElem?_replicate, if_pos hlt])
      have hst := HK.out.1.set i 4294967295
      rw [hs] at hst
      have HN : Hid (BlkU (wr.setCell ⟨G, i, none⟩ (.int .u32 4294967295)) G ((FF a).take (i + 1) ++ List.replicate (a - (i + 1)) 0) ∧ Below w.heap.size w (wr.setCell ⟨G, i, none⟩ (.int .u32 4294967295))) := ⟨hst, kp_set HK.out.2 hwG⟩
      clear hll hs hst HK
      go_wp2
      go_roundw
      case rel => exact ⟨i + 1, by go_num, by omega, HN⟩
      case measure => simp [intOf]; omega
    · as_aux_lemma =>
      have j1 : ¬ (i : Int) < (a : Int) := by omega
      have HF : Hid (BlkU wr G (FF a) ∧ Below w.heap.size w wr) := by
        have h := HK.out.1
        rw [show a - i = 0 by omega, List.replicate_zero, List.append_nil, take_all (by rw [FF_len]; omega)] at h
        exact ⟨h, HK.out.2⟩
      clear HK
      go_wp2_with fail
      refine calls_w fun w2 hw2 => ?_
      obtain ⟨X, hX⟩ : ∃ X, wr.heap.size = X := ⟨_, rfl⟩
      rw [hX]
      have q1 : BlkU w2 X [1] := by rw [← hw2]; exact has_new' _ _ _ hX.symm
      have q2 : BlkU w2 G (FF a) := by rw [← hw2]; exact has_alloc HF.out.1 _
      have HB := Lib.hid (show Below w.heap.size w w2 by rw [← hw2]; exact kp_alloc HF.out.2 _)
      have RT := q2.ru (FF_lim a) 0 a (by rw [FF_len]; omega)
      rw [List.drop_zero, take_all (by rw [FF_len]; omega)] at RT
      have C := add_any (some ⟨G, 0, none⟩) (some ⟨X, 0, none⟩) a a 1 1 (FF a) [1] w2 RT (q1.ru (by intro x hx; simp at hx; omega) 0 1 (by decide)) (by omega) (by decide)
      have RT := Lib.hid RT
      clear q1 q2 hw2 hX HF
      rw [add_top a hsm] at C
      refine C.mono ?_
      rintro e w3 ⟨A3, n3, c3, rfl, s3, l3, m3, k3, hb⟩
      obtain ⟨a1, ha1⟩ : ∃ a1, a + 1 = a1 := ⟨_, rfl⟩
      obtain rfl : a1 = n3 := by have h : (num (4294967296 ^ a)).length = n3 := s3.len; rw [num_pow_len] at h; omega
      replace HB := Lib.hid (kp_call HB.out hb)
      replace RT := Lib.hid (RT.out.below hb)
      have R3 := Lib.hid s3.ru
      obtain ⟨g3, hg3, _, _, d3⟩ := s3.cells (by intro e; have h9 := num_pow_len a; rw [show num (4294967296 ^ a) = [] from e] at h9; simp at h9)
      subst hg3
      have cs := d3 a 1 (by have h := getD_at (l := num (4294967296 ^ a)) (j := a) (by rw [num_pow_len]; omega); rw [pow_digit] at h; exact h)
      have t1 : (a : Int) < 256 := by omega
      have t2 : IntKind.i64.wrap ((a : Int) + 1) = (a1 : Int) := by rw [show (a : Int) + 1 = a1 by omega]; exact IntWalk.i64_in _ (by omega)
      have t3 : (a : Int) < (a1 : Int) := by omega
      have t4 : (0 : Int) ≤ (a : Int) := by omega
      have t6 : ((a1 : Int) != (a1 : Int)) = false := by simp
      have C9 := bits_any (some ⟨g3, 0, none⟩) a1 c3 _ w3 R3.out (by omega)
      rw [if_pos (by rw [num_right, decide_eq_true (Nat.pow_lt_pow_right (by decide) hsm)]), val_num, pow_bits] at C9
      obtain ⟨bt, hbt⟩ : ∃ bt, 32 * a + 1 = bt := ⟨_, rfl⟩
      rw [hbt] at C9
      have t5 : IntKind.i64.wrap (32 * (a : Int)) = ((32 * a : Nat) : Int) := by rw [show 32 * (a : Int) = ((32 * a : Nat) : Int) by omega]; exact IntWalk.i64_in _ (by omega)
      obtain ⟨a32, ha32⟩ : ∃ a32, 32 * a = a32 := ⟨_, rfl⟩
      rw [ha32] at t5
      have t7 : IntKind.i64.wrap ((a32 : Int) + 1) = (bt : Int) := by rw [show (a32 : Int) + 1 = bt by omega]; exact IntWalk.i64_in _ (by omega)
      have t8 : ((bt : Int) != (bt : Int)) = false := by simp
      have C9 := Lib.hid C9
      have HX1 := Lib.hid (show _ ∧ _ ∧ _ from ⟨ha1, hbt, ha32⟩)
      clear C s3 hb d3 ha1 hbt ha32
      go_wp2_with fail
      refine C9.out.mono ?_
      rintro e w' ⟨rfl, rfl⟩
      clear C9
      go_wp2_with fail
      refine calls_w fun w4 hw4 => ?_
      obtain ⟨X4, hX4⟩ : ∃ X4, w3.heap.size = X4 := ⟨_, rfl⟩
      rw [hX4]
      have q4 : BlkU w4 X4 [1] := by rw [← hw4]; exact has_new' _ _ _ hX4.symm
      have hb4 : Below w3.heap.size w3 w4 := by rw [← hw4]; exact kp_alloc (Below.refl _ _) _
      replace HB := Lib.hid (kp_call HB.out hb4)
      replace RT := Lib.hid (RT.out.below hb4)
      have C := sub_any (some ⟨g3, 0, none⟩) (some ⟨X4, 0, none⟩) a1 c3 1 1 _ [1] w4 (R3.out.below hb4) (q4.ru (by intro x hx; simp at hx; omega) 0 1 (by decide)) (by omega) (by decide)
      rw [sub_top a hsm] at C
      clear hw4 q4 hb4 hX4 R3 cs
      refine C.mono ?_
      rintro e w5 ⟨A5, n5, c5, rfl, s5, l5, m5, k5, hb⟩
      replace HB := Lib.hid (kp_call HB.out hb)
      replace RT := Lib.hid (RT.out.below hb)
      have R5 := Lib.hid s5.ru
      clear C s5 hb
      go_wp2_with fail
      refine (same_t A5 (some ⟨G, 0, none⟩) n5 c5 a a _ _ w5 R5.out RT.out (by omega) (by omega) rfl).mono ?_
      rintro e w6 ⟨rfl, hb⟩
      replace HB := Lib.hid (kp_call HB.out hb)
      clear hb R5 RT
      have z1 : ((a : Int) == 0) = false := by simp; omega
      have z2 : ((b : Int) == 0) = false := by simp; omega
      have z3 : ¬ a = 0 := by omega
      have z4 : ¬ b = 0 := by omega
      obtain ⟨am, ham⟩ : ∃ am, a - 1 = am := ⟨_, rfl⟩
      obtain ⟨bm, hbm⟩ : ∃ bm, b - 1 = bm := ⟨_, rfl⟩
      have u1 : IntKind.i64.wrap ((a : Int) - 1) = (am : Int) := by rw [show (a : Int) - 1 = am by omega]; exact IntWalk.i64_in _ (by omega)
      have u2 : IntKind.i64.wrap ((b : Int) - 1) = (bm : Int) := by rw [show (b : Int) - 1 = bm by omega]; exact IntWalk.i64_in _ (by omega)
      have u3 : (0 : Int) ≤ (am : Int) := by omega
      have u4 : (am : Int) < (a : Int) := by omega
      have u5 : (0 : Int) ≤ (bm : Int) := by omega
      have u6 : (bm : Int) < (b : Int) := by omega
      go_wp2_with (refine wpList_mkU _ _ rfl rfl _ _ _ _ a rfl rfl rfl rfl (by omega) ?_)
      intro w7 hk7 hb7
      obtain ⟨G7, hG7⟩ : ∃ G7, w6.heap.size = G7 := ⟨_, rfl⟩
      have hw7 : w.heap.size ≤ G7 := by have := HB.out.size; omega
      replace HB := Lib.hid (kp_call HB.out hb7)
      rw [hG7] at hk7 ⊢
      clear hb7 hG7
      go_wp2_with (refine wpList_mkU _ _ rfl rfl _ _ _ _ b rfl rfl rfl rfl (by omega) ?_)
      intro w8 hk8 hb8
      obtain ⟨G8, hG8⟩ : ∃ G8, w7.heap.size = G8 := ⟨_, rfl⟩
      have h78 : G7 < G8 := by have := hk7.lt; omega
      have hw8 : w.heap.size ≤ G8 := by omega
      replace HB := Lib.hid (kp_call HB.out hb8)
      replace hk7 := hk7.below hb8
      rw [hG8] at hk8 ⊢
      have c1 := hk7.cell (j := am) (by simp; omega)
      have c2 := hk7.free am
      have c3 : (w8.setCell ⟨G7, am, none⟩ (.int .u32 4294967295)).cell? ⟨G8, bm, none⟩ = _ := BlkU.cell (j := bm) (hk8.far (by omega)) (by simp; omega)
      have c4 : (w8.setCell ⟨G7, am, none⟩ (.int .u32 4294967295)).frozen? ⟨G8, bm, none⟩ = false := BlkU.free (hk8.far (by omega)) bm
      have HQ : Hid (BlkU ((w8.setCell ⟨G7, am, none⟩ (.int .u32 4294967295)).setCell ⟨G8, bm, none⟩ (.int .u32 4294967295)) G7 (HX a) ∧ BlkU ((w8.setCell ⟨G7, am, none⟩ (.int .u32 4294967295)).setCell ⟨G8, bm, none⟩ (.int .u32 4294967295)) G8 (HX b) ∧ Below w.heap.size w ((w8.setCell ⟨G7, am, none⟩ (.int .u32 4294967295)).setCell ⟨G8, bm, none⟩ (.int .u32 4294967295))) := by
        refine ⟨?_, ?_, kp_set (kp_set HB.out hw7) hw8⟩
        · unfold HX; rw [ham]; exact BlkU.far (hk7.set am 4294967295) (by omega)
        · unfold HX; rw [hbm]; exact BlkU.set (hk8.far (by omega)) bm 4294967295
      clear hk7 hk8 hb8 hG8 HB
      go_wp2_with fail
      refine calls_w fun w10 hw10 => ?_
      rw [hw10] at HQ
      have RX := HQ.out.1.ru (HX_lim a) 0 a (by rw [HX_len]; omega)
      have RY := HQ.out.2.1.ru (HX_lim b) 0 b (by rw [HX_len]; omega)
      rw [List.drop_zero, take_all (by rw [HX_len]; omega)] at RX RY
      have HB := Lib.hid HQ.out.2.2
      have C := mul_any (some ⟨G7, 0, none⟩) (some ⟨G8, 0, none⟩) a a b b (HX a) (HX b) w10 RX RY (by omega) (by omega)
      obtain ⟨ab, hab⟩ : ∃ ab, a + b = ab := ⟨_, rfl⟩
      have v1 : IntKind.i64.wrap ((a : Int) + (b : Int)) = (ab : Int) := by rw [show (a : Int) + b = ab by omega]; exact IntWalk.i64_in _ (by omega)
      obtain ⟨p1, p2, p3⟩ := top_fit a b (by omega) (by omega) ha6 hb6 hab2
      rw [p1] at C
      have v2 : ¬ (ab : Int) > 256 := by omega
      obtain ⟨a9, ha9⟩ : ∃ a9, ab - 1 = a9 := ⟨_, rfl⟩
      have v3 : IntKind.i64.wrap ((ab : Int) - 1) = (a9 : Int) := by rw [show (ab : Int) - 1 = a9 by omega]; exact IntWalk.i64_in _ (by omega)
      have v4 : (0 : Int) ≤ (a9 : Int) := by omega
      have v5 : (a9 : Int) < (ab : Int) := by omega
      have v6 : ((ab : Int) == (ab : Int)) = true := by simp
      refine C.mono ?_
      rintro e w11 ⟨A11, n11, c11, rfl, s11, l11, m11, k11, hb⟩
      obtain rfl : ab = n11 := by have h : (num (val (HX a) * val (HX b))).length = n11 := s11.len; rw [p2] at h; omega
      obtain ⟨g11, hg11, _, _, d11⟩ := s11.cells (by intro e; rw [show num (val (HX a) * val (HX b)) = [] from e] at p2; simp at p2; omega)
      subst hg11
      have cp := d11 a9 4294967294 (by have h := getD_at (l := num (val (HX a) * val (HX b))) (j := a9) (by rw [p2]; omega); rw [show a9 = a + b - 1 by omega, p3] at h; rw [show a9 = a + b - 1 by omega]; exact h)
      replace HB := Lib.hid (kp_call HB.out hb)
      have HZ := Lib.hid (show _ ∧ _ ∧ _ ∧ _ from ⟨ham, hbm, hab, ha9⟩)
      clear C s11 hb RX RY HQ hw10 c1 c2 c3 c4 ham hbm hab ha9 d11 p1 p2 p3
      go_wp2_with fail
      refine (works_any w11).mono ?_
      rintro e w12 ⟨rfl, hb⟩
      replace HB := Lib.hid (kp_call HB.out hb)
      clear hb cp
      go_wp2
      go_ret
      exact ⟨rfl, HB.out⟩
theorem full_walk (m n : Int) (w : World) (h0 : (Lit.int .u16 m).wf = true) (h1 : (Lit.int .u16 n).wf = true) :
    Calls Try.prog 9 #[.int .u16 m, .int .u16 n] w fun e w' => e = .returned (.bool true) ∧ Below w.heap.size w w' := by
  have hm := bounds_u16 h0
  have hn := bounds_u16 h1
  obtain ⟨m0, rfl⟩ : ∃ m0 : Nat, m = (m0 : Int) := ⟨m.toNat, by omega⟩
  obtain ⟨n0, rfl⟩ : ∃ n0 : Nat, n = (n0 : Int) := ⟨n.toNat, by omega⟩
  obtain ⟨a, ha⟩ : ∃ a, m0 % 257 = a := ⟨_, rfl⟩
  obtain ⟨b, hb⟩ : ∃ b, n0 % 257 = b := ⟨_, rfl⟩
  have a6 : a ≤ 256 := by omega
  by_cases h256 : a = 256
  · by_cases hb0 : b = 0
    · exact full_1 m0 n0 a b w (by omega) (by omega) ha hb h256 hb0
    · exact full_2 m0 n0 a b w (by omega) (by omega) ha hb h256 (by omega) (by omega)
  · by_cases ha0 : a = 0
    · exact full_3 m0 n0 a b w (by omega) (by omega) ha hb (by omega) ha0
    · by_cases hb0 : b = 0
      · exact full_3b m0 n0 a b w (by omega) (by omega) ha hb (by omega) (by omega) hb0
      · by_cases hab : 256 < a + b
        · exact full_4 m0 n0 a b w (by omega) (by omega) ha hb (by omega) (by omega) (by omega) hab
        · exact full_5 m0 n0 a b w (by omega) (by omega) ha hb (by omega) (by omega) (by omega) (by omega)
end Go.Proofs.Ytpopohfbcedpbaa
