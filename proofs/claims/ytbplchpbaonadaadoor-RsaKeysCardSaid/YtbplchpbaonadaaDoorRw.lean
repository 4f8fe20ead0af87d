/-
  rsa: the statement RsaKeys.
-/
import Derived.Test.YtbplchpbaonadaaDoorRv
namespace Go.Proofs.YtbplchpbaonadaaDoor
open Go.RowKit Go
set_option linter.unusedVariables false
set_option linter.unusedSimpArgs false
set_option maxRecDepth 100000
set_option exponentiation.threshold 10000
theorem getD_set (l : List UInt8) (i j : Nat) (q : UInt8) (hj : j < l.length) : (l.set i q)[j]? = some ((l.set i q).getD j 0) := by
  rw [List.getD_eq_getElem?_getD, List.getElem?_eq_getElem (by simpa using hj)]; rfl
set_option maxHeartbeats 8000000 in
theorem keys_row (d : List UInt8) (at_ by_ e : Int) (w : World) (hd : IsD w d) (h1 : (Lit.int .u8 at_).wf = true) (h2 : (Lit.int .u8 by_).wf = true) (h3 : (Lit.int .u64 e).wf = true) (hT : Lens w) :
    Calls Tryd.prog 8 #[dgV d, .int .u8 at_, .int .u8 by_, .int .u64 e] w fun r w' => r = .returned (.bool true) ∧ Below w.heap.size w w' := by
  obtain ⟨a1, a2⟩ := bounds_u8 h1
  obtain ⟨t, rfl⟩ := Int.eq_ofNat_of_zero_le a1
  have ht : t < 256 := by omega
  have hby := byte_of_wf h2
  obtain ⟨q, hq⟩ : ∃ q, UInt8.ofNat by_.toNat = q := ⟨_, rfl⟩
  rw [hq] at hby
  subst hby
  obtain ⟨a5, a6⟩ := bounds_u64 h3
  obtain ⟨ex, rfl⟩ := Int.eq_ofNat_of_zero_le a5
  have hex : ex < 18446744073709551616 := by omega
  clear h1 h2 h3 a1 a2 a5 a6 hq
  have hd : d.length = 32 := hd
  have HT := Lib.hid hT
  have hdg := dgA_is d hd
  have HD := Lib.hid hdg
  have HI := Lib.hid hdg.info
  obtain ⟨nb, hnb⟩ : ∃ nb, (keyN d).set t q = nb := ⟨_, rfl⟩
  have hnl : nb.length = 256 := by rw [← hnb, List.length_set, keyN_len]
  obtain ⟨q0, hq0⟩ : ∃ q0, nb[0]? = some q0 := ⟨_, List.getElem?_eq_getElem (by omega)⟩
  obtain ⟨q1, hq1⟩ : ∃ q1, nb[255]? = some q1 := ⟨_, List.getElem?_eq_getElem (by omega)⟩
  have hsn : soundZ nb 3 = if 128 ≤ q0.toNat ∧ q1.toNat % 2 = 1 then 0 else 11 := by
    unfold soundZ soundB
    rw [hnl, show nb.getD 0 0 = q0 by rw [List.getD_eq_getElem?_getD, hq0]; rfl, show nb.getD (256 - 1) 0 = q1 by rw [List.getD_eq_getElem?_getD, hq1]; rfl]
    by_cases h1 : 128 ≤ q0.toNat
    · by_cases h2 : q1.toNat % 2 = 1
      · simp [h1, h2]
      · simp [h1, h2]
    · simp [h1]
  have hse : soundZ (keyN d) ex = if ex % 2 = 1 ∧ 3 ≤ ex ∧ ex < 8589934592 then 0 else 11 := by
    unfold soundZ
    rw [key_sound d hd]
    by_cases h1 : ex % 2 = 1
    · by_cases h2 : 3 ≤ ex
      · by_cases h3 : ex < 8589934592
        · simp [h1, h2, h3]
        · simp [h1, h2, h3]
      · simp [h1, h2]
    · simp [h1]
  have HSN := Lib.hid hsn
  have HSE := Lib.hid hse
  have HNB := Lib.hid hnb
  have HQ := Lib.hid (And.intro hq0 hq1)
  clear hsn hse hnb hq0 hq1 hdg hT
  obtain ⟨xr, hxr⟩ : ∃ xr, ex % 2 = xr := ⟨_, rfl⟩
  obtain ⟨xs, hxs⟩ : ∃ xs, ex / 8589934592 = xs := ⟨_, rfl⟩
  have k1 : (ex : Int).tmod 2 = (xr : Int) := by rw [Int.tmod_eq_emod_of_nonneg (by omega)]; omega
  have k2 : (ex : Int) % 2 = (xr : Int) := by omega
  have k3 : (ex : Int) / 8589934592 = (xs : Int) := by omega
  have k4 : (ex : Int) / 2 ^ 33 = (xs : Int) := by rw [show (2 : Int) ^ 33 = 8589934592 from rfl]; omega
  obtain ⟨yr, hyr⟩ : ∃ yr, q1.toNat % 2 = yr := ⟨_, rfl⟩
  have k5 : (q1.toNat : Int).tmod 2 = (yr : Int) := by rw [Int.tmod_eq_emod_of_nonneg (by omega)]; omega
  have k6 : (q1.toNat : Int) % 2 = (yr : Int) := by omega
  have k7 : IntKind.u8.wrap (yr : Int) = (yr : Int) := by rw [IntKind.wrap_u8']; omega
  have k8 : IntKind.u64.wrap (xr : Int) = (xr : Int) := by rw [IntKind.wrap_u64]; omega
  have k9 : IntKind.u64.wrap (xs : Int) = (xs : Int) := by rw [IntKind.wrap_u64]; omega
  have A1 : (128 ≤ q0.toNat ∧ yr = 1 ∧ soundZ nb 3 = 0) ∨ (128 ≤ q0.toNat ∧ yr = 0 ∧ soundZ nb 3 = 11) ∨ (q0.toNat < 128 ∧ soundZ nb 3 = 11) := by
    rw [HSN.out, hyr]
    rcases Nat.lt_or_ge q0.toNat 128 with h | h
    · exact .inr (.inr ⟨h, by rw [if_neg (by omega)]⟩)
    · rcases (show yr = 1 ∨ yr = 0 by omega) with h' | h'
      · exact .inl ⟨h, h', by rw [if_pos ⟨h, h'⟩]⟩
      · exact .inr (.inl ⟨h, h', by rw [if_neg (by omega)]⟩)
  have A2 : (xr = 1 ∧ 3 ≤ ex ∧ xs = 0 ∧ soundZ (keyN d) ex = 0) ∨ (xr = 1 ∧ 3 ≤ ex ∧ 0 < xs ∧ soundZ (keyN d) ex = 11) ∨ (xr = 1 ∧ ex < 3 ∧ soundZ (keyN d) ex = 11) ∨ (xr = 0 ∧ soundZ (keyN d) ex = 11) := by
    rw [HSE.out, hxr]
    rcases (show xr = 1 ∨ xr = 0 by omega) with h | h
    · rcases Nat.lt_or_ge ex 3 with h1 | h1
      · exact .inr (.inr (.inl ⟨h, h1, by rw [if_neg (by omega)]⟩))
      · rcases (show xs = 0 ∨ 0 < xs by omega) with h2 | h2
        · exact .inl ⟨h, h1, h2, by rw [if_pos ⟨h, h1, by omega⟩]⟩
        · exact .inr (.inl ⟨h, h1, h2, by rw [if_neg (by omega)]⟩)
    · exact .inr (.inr (.inr ⟨h, by rw [if_neg (by omega)]⟩))
  have HA2 := Lib.hid A2
  have HA1 := Lib.hid A1
  clear hxr hxs hyr HSN HSE A1 A2
  have hti : (t : Int) < 256 := by omega
  have ht0 : (0 : Int) ≤ (t : Int) := by omega
  go_enter Tryd.func8, Tryd.ntmps8
  go_upto_region 1 with (fail)
  refine wp_nm fun W1 hW1 => ?_
  have HZ : Hid (W1.heap[w.heap.size]? = some (.cells (dgA d) 22) ∧ Below w.heap.size w W1) := by rw [← hW1]; exact ⟨has_new _ _, kp_alloc (Below.refl _ _) _⟩
  clear hW1
  go_wp2_with (refine wpList_load_row rfl _ _ rfl w.heap.size rfl _ _ _ _ HZ.out.1 Tryd.underlying22 rfl HI.out ?_)
  refine (for_any (dgA d) d HD.out W1).mono ?_
  rintro r w2 ⟨A, c, B, k, rfl, ho1, ho2, hb2⟩
  have K2 := Lib.hid (has_below HZ.out.1 hb2)
  have B2 := Lib.hid (kp_call HZ.out.2 hb2)
  have O2 := Lib.hid ho1.rb
  clear HZ ho1 ho2 hb2
  go_upto_region 2 with (fail)
  refine wp_nm fun W3 hW3 => ?_
  have hb3 : Below w2.heap.size w2 W3 := by rw [← hW3]; exact kp_alloc (Below.refl _ _) _
  have hk3 : W3.heap[w2.heap.size]? = some (.cells #[.slice A 256 c, .int .u64 3] 26) := by rw [← hW3]; exact has_new _ _
  obtain ⟨g, hg⟩ : ∃ g, w2.heap.size = g := ⟨_, rfl⟩
  have K3 := Lib.hid (has_below K2.out hb3)
  have B3 := Lib.hid (kp_call B2.out hb3)
  have O3 := Lib.hid (O2.out.below hb3)
  rw [hg] at hk3
  try rw [hg]
  have Q3 := Lib.hid hk3
  obtain ⟨x0, x1⟩ := cells_2 hk3
  clear hW3 hb3 hk3 K2 B2 O2 hg
  go_wp2_with fail
  refine (twin6_any A 256 c (keyN d) W3 O3.out (by omega)).mono ?_
  rintro r w4 ⟨T, nt, ct, rfl, ho4, hb4⟩
  obtain rfl : nt = 256 := by have := ho4.len; rw [keyN_len] at this; omega
  obtain ⟨G, rfl, hG1, hG2⟩ := ho4.shape (by have := ho4.cap.1; omega)
  have K4 := Lib.hid (has_below K3.out hb4)
  have Q4 := Lib.hid (has_below Q3.out hb4)
  have B4 := Lib.hid (kp_call B3.out hb4)
  have O4 := Lib.hid (O3.out.below hb4)
  have ct256 := ho4.cap.1
  obtain ⟨v0, hv0⟩ : ∃ v0, (keyN d)[t]? = some v0 := ⟨_, List.getElem?_eq_getElem (by rw [keyN_len]; omega)⟩
  have y1 := ho4.cellAt t v0 hv0
  have y2 := ho4.free t
  have S4 : Hid (OwnB (w4.setCell ⟨G, t, none⟩ (.int .u8 (q.toNat : Int))) W3.heap.size (some ⟨G, 0, none⟩) 256 ct nb) := by
    have := ho4.stored t q
    rw [HNB.out] at this
    exact this
  have hKlt := block_lt K3.out
  have hQlt := block_lt Q3.out
  have F4 : Hid ((w4.setCell ⟨G, t, none⟩ (.int .u8 (q.toNat : Int))).heap[w.heap.size]? = some (.cells (dgA d) 22) ∧ (w4.setCell ⟨G, t, none⟩ (.int .u8 (q.toNat : Int))).heap[g]? = some (.cells #[.slice A 256 c, .int .u64 3] 26) ∧ Below w.heap.size w (w4.setCell ⟨G, t, none⟩ (.int .u8 (q.toNat : Int)))) :=
    ⟨has_set K4.out (by omega), has_set Q4.out (by omega), kp_set B4.out (by have := B3.out.size; omega)⟩
  have RBA : Hid (RB (w4.setCell ⟨G, t, none⟩ (.int .u8 (q.toNat : Int))) A 256 (keyN d)) := by
    obtain ⟨b, off, e1, hb, hc⟩ := O3.out.2 (by intro e; have := O3.out.1; rw [e] at this; simp at this)
    refine ⟨O3.out.1, fun _ => ⟨b, off, e1, ?_, fun j hj => ?_⟩⟩
    · have := hb4.size; simp [World.setCell]; omega
    · rw [World.cell?_setCell_other _ _ _ _ (by intro e; simp only [Addr.mk.injEq] at e; omega)]
      exact kp_cell hb4 (hc j hj)
  clear ho4 hb4 hv0 K3 Q3 B3 O3 x0 x1 K4 Q4 B4 O4 hKlt hQlt
  go_upto_region 4 with (fail)
  refine wp_nm fun W5 hW5 => ?_
  have Z : Hid (OwnB W5 W3.heap.size (some ⟨G, 0, none⟩) 256 ct nb ∧ W5.heap[w.heap.size]? = some (.cells (dgA d) 22) ∧ W5.heap[g]? = some (.cells #[.slice A 256 c, .int .u64 3] 26) ∧ Below w.heap.size w W5 ∧ RB W5 A 256 (keyN d)) := by rw [← hW5]; exact ⟨S4.out, F4.out.1, F4.out.2.1, F4.out.2.2, RBA.out⟩
  clear S4 F4 RBA hW5 y1 y2
  have z0 := Z.out.1.cellAt 0 q0 HQ.out.1
  have z1 := Z.out.1.cellAt 255 q1 HQ.out.2
  have SN := Lib.hid (sound_any (some ⟨G, 0, none⟩) 256 ct 3 nb W5 Z.out.1.rb (HT.out.below' Z.out.2.2.2.1) (by omega) (by omega))
  have SE := Lib.hid (fun W (hb : Below W5.heap.size W5 W) => sound_any A 256 c ex (keyN d) W (Z.out.2.2.2.2.below hb) (HT.out.below' (kp_call Z.out.2.2.2.1 hb)) (by omega) hex)
  have AL := Lib.hid (fun W (hb : Below W5.heap.size W5 W) => alive_any (dgA d) d HD.out W (HT.out.below' (kp_call Z.out.2.2.2.1 hb)))
  have E : Hid (∀ (W : World), Below W5.heap.size W5 W → W.heap[w.heap.size]? = some (.cells (dgA d) 22)) := fun W hb => has_below Z.out.2.1 hb
  have EK : Hid (∀ (W : World), Below W5.heap.size W5 W → W.heap[g]? = some (.cells #[.slice A 256 c, .int .u64 3] 26)) := fun W hb => has_below Z.out.2.2.1 hb
  have EB := Lib.hid Z.out.2.2.2.1
  clear Z
  have G1 := HA1.out
  clear HA1
  rcases G1 with ⟨h1, rfl, h2⟩ | ⟨h1, rfl, h2⟩ | ⟨h1, h2⟩
  · have p1 : decide ((q0.toNat : Int) ≥ 128) = true := decide_eq_true (by omega)
    have p2 : decide (128 ≤ q0.toNat) = true := decide_eq_true h1
    rw [h2] at SN
    clear h2
    go_wp2_with fail
    refine SN.out.mono ?_
    rintro r w6 ⟨rfl, hb6⟩
    obtain ⟨x0, x1⟩ := cells_2 (EK.out w6 hb6)
    have SE6 := Lib.hid (SE.out w6 hb6)
    have HB6 := Lib.hid hb6
    clear hb6 SN SE z0 z1 p1 p2
    have G2 := HA2.out
    clear HA2
    rcases G2 with ⟨rfl, h3, rfl, h5⟩ | ⟨rfl, h3, h4, h5⟩ | ⟨rfl, h3, h5⟩ | ⟨rfl, h5⟩
    · have p3 : decide ((ex : Int) ≥ 3) = true := decide_eq_true (by omega)
      have p4 : decide (3 ≤ ex) = true := decide_eq_true h3
      rw [h5] at SE6
      clear h5
      go_wp2_with fail
      refine SE6.out.mono ?_
      rintro r w7 ⟨rfl, hb7⟩
      have HB7 := Lib.hid (kp_call HB6.out hb7)
      have K7 := Lib.hid (E.out w7 HB7.out)
      clear hb7 SE6 x0 x1
      go_wp2_with (refine wpList_load_rowG rfl _ _ rfl w.heap.size rfl _ _ _ _ K7.out Tryd.underlying22 rfl HI.out ?_)
      refine (AL.out w7 HB7.out).mono ?_
      rintro r w8 ⟨rfl, hb8⟩
      have HB8 := Lib.hid (kp_call EB.out (kp_call HB7.out hb8))
      clear hb8
      go_wp2
      go_ret
      exact ⟨rfl, HB8.out⟩
    · have p3 : decide ((ex : Int) ≥ 3) = true := decide_eq_true (by omega)
      have p4 : decide (3 ≤ ex) = true := decide_eq_true h3
      have p5 : ((xs : Int) == 0) = false := by rw [beq_eq_false_iff_ne]; omega
      have p6 : (xs == 0) = false := by rw [beq_eq_false_iff_ne]; omega
      have p7 : ¬ xs = 0 := by omega
      rw [h5] at SE6
      clear h5
      go_wp2_with fail
      refine SE6.out.mono ?_
      rintro r w7 ⟨rfl, hb7⟩
      have HB7 := Lib.hid (kp_call HB6.out hb7)
      have K7 := Lib.hid (E.out w7 HB7.out)
      clear hb7 SE6 x0 x1
      go_wp2_with (refine wpList_load_rowG rfl _ _ rfl w.heap.size rfl _ _ _ _ K7.out Tryd.underlying22 rfl HI.out ?_)
      refine (AL.out w7 HB7.out).mono ?_
      rintro r w8 ⟨rfl, hb8⟩
      have HB8 := Lib.hid (kp_call EB.out (kp_call HB7.out hb8))
      clear hb8
      go_wp2
      go_ret
      exact ⟨rfl, HB8.out⟩
    · have p3 : decide ((ex : Int) ≥ 3) = false := decide_eq_false (by omega)
      have p4 : decide (3 ≤ ex) = false := decide_eq_false (by omega)
      rw [h5] at SE6
      clear h5
      go_wp2_with fail
      refine SE6.out.mono ?_
      rintro r w7 ⟨rfl, hb7⟩
      have HB7 := Lib.hid (kp_call HB6.out hb7)
      have K7 := Lib.hid (E.out w7 HB7.out)
      clear hb7 SE6 x0 x1
      go_wp2_with (refine wpList_load_rowG rfl _ _ rfl w.heap.size rfl _ _ _ _ K7.out Tryd.underlying22 rfl HI.out ?_)
      refine (AL.out w7 HB7.out).mono ?_
      rintro r w8 ⟨rfl, hb8⟩
      have HB8 := Lib.hid (kp_call EB.out (kp_call HB7.out hb8))
      clear hb8
      go_wp2
      go_ret
      exact ⟨rfl, HB8.out⟩
    · rw [h5] at SE6
      clear h5
      go_wp2_with fail
      refine SE6.out.mono ?_
      rintro r w7 ⟨rfl, hb7⟩
      have HB7 := Lib.hid (kp_call HB6.out hb7)
      have K7 := Lib.hid (E.out w7 HB7.out)
      clear hb7 SE6 x0 x1
      go_wp2_with (refine wpList_load_rowG rfl _ _ rfl w.heap.size rfl _ _ _ _ K7.out Tryd.underlying22 rfl HI.out ?_)
      refine (AL.out w7 HB7.out).mono ?_
      rintro r w8 ⟨rfl, hb8⟩
      have HB8 := Lib.hid (kp_call EB.out (kp_call HB7.out hb8))
      clear hb8
      go_wp2
      go_ret
      exact ⟨rfl, HB8.out⟩
  · have p1 : decide ((q0.toNat : Int) ≥ 128) = true := decide_eq_true (by omega)
    have p2 : decide (128 ≤ q0.toNat) = true := decide_eq_true h1
    rw [h2] at SN
    clear h2
    go_wp2_with fail
    refine SN.out.mono ?_
    rintro r w6 ⟨rfl, hb6⟩
    obtain ⟨x0, x1⟩ := cells_2 (EK.out w6 hb6)
    have SE6 := Lib.hid (SE.out w6 hb6)
    have HB6 := Lib.hid hb6
    clear hb6 SN SE z0 z1 p1 p2
    have G2 := HA2.out
    clear HA2
    rcases G2 with ⟨rfl, h3, rfl, h5⟩ | ⟨rfl, h3, h4, h5⟩ | ⟨rfl, h3, h5⟩ | ⟨rfl, h5⟩
    · have p3 : decide ((ex : Int) ≥ 3) = true := decide_eq_true (by omega)
      have p4 : decide (3 ≤ ex) = true := decide_eq_true h3
      rw [h5] at SE6
      clear h5
      go_wp2_with fail
      refine SE6.out.mono ?_
      rintro r w7 ⟨rfl, hb7⟩
      have HB7 := Lib.hid (kp_call HB6.out hb7)
      have K7 := Lib.hid (E.out w7 HB7.out)
      clear hb7 SE6 x0 x1
      go_wp2_with (refine wpList_load_rowG rfl _ _ rfl w.heap.size rfl _ _ _ _ K7.out Tryd.underlying22 rfl HI.out ?_)
      refine (AL.out w7 HB7.out).mono ?_
      rintro r w8 ⟨rfl, hb8⟩
      have HB8 := Lib.hid (kp_call EB.out (kp_call HB7.out hb8))
      clear hb8
      go_wp2
      go_ret
      exact ⟨rfl, HB8.out⟩
    · have p3 : decide ((ex : Int) ≥ 3) = true := decide_eq_true (by omega)
      have p4 : decide (3 ≤ ex) = true := decide_eq_true h3
      have p5 : ((xs : Int) == 0) = false := by rw [beq_eq_false_iff_ne]; omega
      have p6 : (xs == 0) = false := by rw [beq_eq_false_iff_ne]; omega
      have p7 : ¬ xs = 0 := by omega
      rw [h5] at SE6
      clear h5
      go_wp2_with fail
      refine SE6.out.mono ?_
      rintro r w7 ⟨rfl, hb7⟩
      have HB7 := Lib.hid (kp_call HB6.out hb7)
      have K7 := Lib.hid (E.out w7 HB7.out)
      clear hb7 SE6 x0 x1
      go_wp2_with (refine wpList_load_rowG rfl _ _ rfl w.heap.size rfl _ _ _ _ K7.out Tryd.underlying22 rfl HI.out ?_)
      refine (AL.out w7 HB7.out).mono ?_
      rintro r w8 ⟨rfl, hb8⟩
      have HB8 := Lib.hid (kp_call EB.out (kp_call HB7.out hb8))
      clear hb8
      go_wp2
      go_ret
      exact ⟨rfl, HB8.out⟩
    · have p3 : decide ((ex : Int) ≥ 3) = false := decide_eq_false (by omega)
      have p4 : decide (3 ≤ ex) = false := decide_eq_false (by omega)
      rw [h5] at SE6
      clear h5
      go_wp2_with fail
      refine SE6.out.mono ?_
      rintro r w7 ⟨rfl, hb7⟩
      have HB7 := Lib.hid (kp_call HB6.out hb7)
      have K7 := Lib.hid (E.out w7 HB7.out)
      clear hb7 SE6 x0 x1
      go_wp2_with (refine wpList_load_rowG rfl _ _ rfl w.heap.size rfl _ _ _ _ K7.out Tryd.underlying22 rfl HI.out ?_)
      refine (AL.out w7 HB7.out).mono ?_
      rintro r w8 ⟨rfl, hb8⟩
      have HB8 := Lib.hid (kp_call EB.out (kp_call HB7.out hb8))
      clear hb8
      go_wp2
      go_ret
      exact ⟨rfl, HB8.out⟩
    · rw [h5] at SE6
      clear h5
      go_wp2_with fail
      refine SE6.out.mono ?_
      rintro r w7 ⟨rfl, hb7⟩
      have HB7 := Lib.hid (kp_call HB6.out hb7)
      have K7 := Lib.hid (E.out w7 HB7.out)
      clear hb7 SE6 x0 x1
      go_wp2_with (refine wpList_load_rowG rfl _ _ rfl w.heap.size rfl _ _ _ _ K7.out Tryd.underlying22 rfl HI.out ?_)
      refine (AL.out w7 HB7.out).mono ?_
      rintro r w8 ⟨rfl, hb8⟩
      have HB8 := Lib.hid (kp_call EB.out (kp_call HB7.out hb8))
      clear hb8
      go_wp2
      go_ret
      exact ⟨rfl, HB8.out⟩
  · have p1 : decide ((q0.toNat : Int) ≥ 128) = false := decide_eq_false (by omega)
    have p2 : decide (128 ≤ q0.toNat) = false := decide_eq_false (by omega)
    rw [h2] at SN
    clear h2
    go_wp2_with fail
    refine SN.out.mono ?_
    rintro r w6 ⟨rfl, hb6⟩
    obtain ⟨x0, x1⟩ := cells_2 (EK.out w6 hb6)
    have SE6 := Lib.hid (SE.out w6 hb6)
    have HB6 := Lib.hid hb6
    clear hb6 SN SE z0 z1 p1 p2
    have G2 := HA2.out
    clear HA2
    rcases G2 with ⟨rfl, h3, rfl, h5⟩ | ⟨rfl, h3, h4, h5⟩ | ⟨rfl, h3, h5⟩ | ⟨rfl, h5⟩
    · have p3 : decide ((ex : Int) ≥ 3) = true := decide_eq_true (by omega)
      have p4 : decide (3 ≤ ex) = true := decide_eq_true h3
      rw [h5] at SE6
      clear h5
      go_wp2_with fail
      refine SE6.out.mono ?_
      rintro r w7 ⟨rfl, hb7⟩
      have HB7 := Lib.hid (kp_call HB6.out hb7)
      have K7 := Lib.hid (E.out w7 HB7.out)
      clear hb7 SE6 x0 x1
      go_wp2_with (refine wpList_load_rowG rfl _ _ rfl w.heap.size rfl _ _ _ _ K7.out Tryd.underlying22 rfl HI.out ?_)
      refine (AL.out w7 HB7.out).mono ?_
      rintro r w8 ⟨rfl, hb8⟩
      have HB8 := Lib.hid (kp_call EB.out (kp_call HB7.out hb8))
      clear hb8
      go_wp2
      go_ret
      exact ⟨rfl, HB8.out⟩
    · have p3 : decide ((ex : Int) ≥ 3) = true := decide_eq_true (by omega)
      have p4 : decide (3 ≤ ex) = true := decide_eq_true h3
      have p5 : ((xs : Int) == 0) = false := by rw [beq_eq_false_iff_ne]; omega
      have p6 : (xs == 0) = false := by rw [beq_eq_false_iff_ne]; omega
      have p7 : ¬ xs = 0 := by omega
      rw [h5] at SE6
      clear h5
      go_wp2_with fail
      refine SE6.out.mono ?_
      rintro r w7 ⟨rfl, hb7⟩
      have HB7 := Lib.hid (kp_call HB6.out hb7)
      have K7 := Lib.hid (E.out w7 HB7.out)
      clear hb7 SE6 x0 x1
      go_wp2_with (refine wpList_load_rowG rfl _ _ rfl w.heap.size rfl _ _ _ _ K7.out Tryd.underlying22 rfl HI.out ?_)
      refine (AL.out w7 HB7.out).mono ?_
      rintro r w8 ⟨rfl, hb8⟩
      have HB8 := Lib.hid (kp_call EB.out (kp_call HB7.out hb8))
      clear hb8
      go_wp2
      go_ret
      exact ⟨rfl, HB8.out⟩
    · have p3 : decide ((ex : Int) ≥ 3) = false := decide_eq_false (by omega)
      have p4 : decide (3 ≤ ex) = false := decide_eq_false (by omega)
      rw [h5] at SE6
      clear h5
      go_wp2_with fail
      refine SE6.out.mono ?_
      rintro r w7 ⟨rfl, hb7⟩
      have HB7 := Lib.hid (kp_call HB6.out hb7)
      have K7 := Lib.hid (E.out w7 HB7.out)
      clear hb7 SE6 x0 x1
      go_wp2_with (refine wpList_load_rowG rfl _ _ rfl w.heap.size rfl _ _ _ _ K7.out Tryd.underlying22 rfl HI.out ?_)
      refine (AL.out w7 HB7.out).mono ?_
      rintro r w8 ⟨rfl, hb8⟩
      have HB8 := Lib.hid (kp_call EB.out (kp_call HB7.out hb8))
      clear hb8
      go_wp2
      go_ret
      exact ⟨rfl, HB8.out⟩
    · rw [h5] at SE6
      clear h5
      go_wp2_with fail
      refine SE6.out.mono ?_
      rintro r w7 ⟨rfl, hb7⟩
      have HB7 := Lib.hid (kp_call HB6.out hb7)
      have K7 := Lib.hid (E.out w7 HB7.out)
      clear hb7 SE6 x0 x1
      go_wp2_with (refine wpList_load_rowG rfl _ _ rfl w.heap.size rfl _ _ _ _ K7.out Tryd.underlying22 rfl HI.out ?_)
      refine (AL.out w7 HB7.out).mono ?_
      rintro r w8 ⟨rfl, hb8⟩
      have HB8 := Lib.hid (kp_call EB.out (kp_call HB7.out hb8))
      clear hb8
      go_wp2
      go_ret
      exact ⟨rfl, HB8.out⟩
end Go.Proofs.YtbplchpbaonadaaDoor
