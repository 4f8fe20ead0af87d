/-
  pe: Parse.
-/
import Derived.Test.YtcedojmhgmgcgaaGreatDoorMp5
import Derived.Test.YtcedojmhgmgcgaaGreatDoorMp3
import Derived.Test.YtcedojmhgmgcgaaGreatDoorRef
namespace Go.Proofs.YtcedojmhgmgcgaaGreatDoor
open Go.RowKit Go
set_option linter.unusedVariables false
set_option maxRecDepth 100000
theorem hdB_facts {bs : List UInt8} (h : hdB bs = true) : cntQ bs ≤ 96 ∧ 1 ≤ cntQ bs ∧ hdrQ bs ≤ bs.length ∧ tabQ bs + 40 * cntQ bs ≤ hdrQ bs ∧ (magQ bs = 267 ∨ magQ bs = 523) ∧ lenQ bs = dirsQ bs - optQ bs + 8 * entQ bs ∧ 5 ≤ entQ bs ∧ 64 ≤ pAt bs := by
  unfold hdB at h
  simp only [Bool.and_eq_true, decide_eq_true_eq, Bool.or_eq_true] at h
  omega
theorem dirsQ_le (bs : List UInt8) : dirsQ bs ≤ 4294967296 + 136 := by
  unfold dirsQ dirsOf optQ
  have := numQ_lt4 bs 60
  unfold pAt
  split <;> omega
theorem tabQ_le (bs : List UInt8) : tabQ bs ≤ 4294967296 + 65536 + 24 := by
  unfold tabQ optQ lenQ pAt
  have := numQ_lt4 bs 60
  have := numQ_lt2 bs (numQ bs 60 4 + 20)
  omega
theorem hdrQ_lt (bs : List UInt8) : hdrQ bs < 4294967296 := numQ_lt4 _ _
theorem two_stores {X : World} {q : Nat} {a0 a1 a2 a3 a4 a5 a6 a7 : Value} {t : TypeId} (k : X.heap[q]? = some (.cells #[a0, a1, a2, a3, a4, a5, a6, a7] t)) (u v : Value) :
    ((X.setCell ⟨q, 5, none⟩ u).setCell ⟨q, 6, none⟩ v).heap[q]? = some (.cells #[a0, a1, a2, a3, a4, u, v, a7] t) ∧ ((X.setCell ⟨q, 6, none⟩ v).setCell ⟨q, 5, none⟩ u).heap[q]? = some (.cells #[a0, a1, a2, a3, a4, u, v, a7] t) := by
  constructor
  · have h1 := heap_set_at _ q 6 _ _ _ v (heap_set_at _ q 5 _ _ _ u k)
    simp only [List.setIfInBounds_toArray, List.set_cons_zero, List.set_cons_succ] at h1
    exact h1
  · have h1 := heap_set_at _ q 5 _ _ _ u (heap_set_at _ q 6 _ _ _ v k)
    simp only [List.setIfInBounds_toArray, List.set_cons_zero, List.set_cons_succ] at h1
    exact h1
/-- Behind the headers, the sections and the entry of the certificate table. -/
structure P9 (w : World) (A : Option Addr) (n c q5 D3 : Nat) (R : Bool) (cs : Array Value) (V : Option Addr) (m cV : Nat) (vs : List Value) (W : World) : Prop where
  r : RdS w (w.heap.size + 1) A n c R W
  z : W.heap[w.heap.size]? = some (.cells imZero 30)
  x : W.heap[q5]? = some (.cells cs 30)
  o : OwnR W D3 60 2 V m cV vs
theorem P9.st {w : World} {A : Option Addr} {n c q5 D3 : Nat} {R : Bool} {cs cs' : Array Value} {V : Option Addr} {m cV : Nat} {vs : List Value} {W W' : World} (h : P9 w A n c q5 D3 R cs V m cV vs W) (hq : w.heap.size + 1 < q5) (hD : q5 < D3) (hg : W.grownBy W' (some q5)) (hx : W'.heap[q5]? = some (.cells cs' 30)) : P9 w A n c q5 D3 R cs' V m cV vs W' :=
  ⟨h.r.far hg (by omega) (by omega), (hg.block _ (block_lt h.z) (fun e => by injection e with e; omega)).trans h.z, hx, h.o.kept hg (.inr (fun e => by have := (h.o.blk_lt e).1; omega))⟩
theorem P9.rd {w : World} {A : Option Addr} {n c q5 D3 : Nat} {R R' : Bool} {cs : Array Value} {V : Option Addr} {m cV : Nat} {vs : List Value} {W W' : World} (h : P9 w A n c q5 D3 R cs V m cV vs W) (hq : w.heap.size + 1 < q5) (hD : q5 < D3) (r : RdS w (w.heap.size + 1) A n c R' W') (hg : W.grownBy W' (some (w.heap.size + 1))) : P9 w A n c q5 D3 R' cs V m cV vs W' :=
  ⟨r, (hg.block _ (block_lt h.z) (fun e => by injection e with e; omega)).trans h.z, (hg.block _ (block_lt h.x) (fun e => by injection e with e; omega)).trans h.x, h.o.kept hg (.inr (fun e => by have := (h.o.blk_lt e).1; omega))⟩
set_option maxHeartbeats 16000000 in
theorem parse_any (A : Option Addr) (n c : Nat) (bs : List UInt8) (w : World) (hR : RB w A n bs) (hS : Sizes w) (hnc : n ≤ c) (hcc : c ≤ 9223372036854775807) :
    Calls Tryz.prog 15 #[.slice A n c] w (ParsePost w bs) := by
  have hnl := hR.1
  by_cases hbig : 16777216 < n
  · have hq : parseQ bs = .inl 10 := by unfold parseQ; rw [if_pos (by omega)]
    have HQ := Lib.hid hq
    have t1 : decide ((16777216 : Int) < (n : Int)) = true := by simp; omega
    clear hq hR hS hbig
    go_enter Tryz.func15, Tryz.ntmps15
    go_upto_region 2 with (fail)
    refine wp_nm fun W0 hW0 => ?_
    have k0 : W0.heap[w.heap.size]? = some (.cells imZero 30) := by rw [← hW0]; exact has_new w _
    have hb0 : Below w.heap.size w W0 := by rw [← hW0]; exact kp_alloc (Below.refl _ _) _
    clear hW0
    unfold imZero at k0
    obtain ⟨f0, f1, f2, f3, f4, f5, f6, f7⟩ := free_8 k0
    obtain ⟨x0, x1, x2, x3, x4, x5, x6, x7⟩ := cells_8 k0
    have K0 := Lib.hid (And.intro k0 hb0)
    clear k0 hb0
    go_wp2
    refine bodyPost_ret (results_ct Tryz.results15 _ (LV.agg (set_8 K0.out.1) Tryz.underlying30 rfl (by kernel_rfl))) rfl ?_
    unfold ParsePost
    rw [HQ.out]
    exact ⟨rfl, below_8 K0.out.2 (Nat.le_refl _)⟩
  · have t1 : decide ((16777216 : Int) < (n : Int)) = false := by simp; omega
    have hI : Img w A n c bs := ⟨hR, hS, hnc, hcc, by omega⟩
    clear hR hS
    go_enter Tryz.func15, Tryz.ntmps15
    go_wp2_with (fail)
    refine calls_nm fun W1 hW1 => ?_
    have k0 : W1.heap[w.heap.size]? = some (.cells imZero 30) := by rw [← hW1]; exact has_alloc (has_new w _) _
    have r1 : RdS w (w.heap.size + 1) A n c true W1 := by rw [← hW1]; exact ⟨has_new' _ _ _ (by simp), kp_alloc (kp_alloc (Below.refl _ _) _) _, by omega⟩
    have hs1 : W1.heap.size = w.heap.size + 2 := by rw [← hW1]; simp
    clear hW1
    refine (headers_any hI r1).mono ?_
    rintro e w2 ⟨rfl, r2, g2⟩
    have hg2 := g2.size
    have k2 : w2.heap[w.heap.size]? = some (.cells imZero 30) := (g2.block _ (by omega) (fun e => by injection e with e; omega)).trans k0
    rw [Bool.true_and] at r2
    have hne : w.heap.size + 1 ≠ w2.heap.size := by omega
    clear k0 r1 g2
    have hdl := hdrQ_lt bs
    have htl := tabQ_le bs
    have hdi := dirsQ_le bs
    obtain ⟨pl, hpl⟩ : ∃ x, decide (magQ bs = 523) = x := ⟨_, rfl⟩
    obtain ⟨ck, hck⟩ : ∃ x, optQ bs + 64 = x := ⟨_, rfl⟩
    obtain ⟨dr, hdr⟩ : ∃ x, dirsQ bs + 32 = x := ⟨_, rfl⟩
    obtain ⟨hd, hhd⟩ : ∃ x, hdrQ bs = x := ⟨_, rfl⟩
    obtain ⟨tb, htb⟩ : ∃ x, tabQ bs = x := ⟨_, rfl⟩
    obtain ⟨ct, hct⟩ : ∃ x, cntQ bs = x := ⟨_, rfl⟩
    have EE := Lib.hid (And.intro hpl (And.intro hck (And.intro hdr (And.intro hhd (And.intro htb hct)))))
    rw [hhd] at hdl
    rw [htb] at htl
    have hdr2 : dr ≤ 4294967296 + 168 := by omega
    rw [hpl, hck, hdr, hhd, htb, hct]
    clear hpl hck hdr hhd htb hct hdi
    have K3 : Hid (∀ cs : Array Value, (w2.alloc (.cells cs 30)).heap[w2.heap.size]? = some (.cells cs 30)) := fun cs => has_new w2 _
    unfold imgV
    cases hh : hdB bs with
    | false =>
      rw [hh] at r2
      have hq : parseQ bs = .inl 9 := by unfold parseQ; rw [if_neg (by omega), hh]; rfl
      have HQ := Lib.hid hq
      have R3 := Lib.hid (fun o => r2.alloc o)
      have KZ0 := Lib.hid (fun o => has_alloc k2 o)
      have c3 := fun o => cells_2 (r2.alloc o).h
      have c4 := fun o => (c3 o).2
      clear c3 hq r2 k2 hh
      go_upto_region 6 with (fail)
      refine wp_nm fun W3 hW3 => ?_
      have HB3 : Hid (Below w.heap.size w W3) := by rw [← hW3]; exact (R3.out _).b
      have KZ : Hid (W3.heap[w.heap.size]? = some (.cells imZero 30)) := by rw [← hW3]; exact KZ0.out _
      clear hW3 c4
      unfold imZero at KZ
      obtain ⟨f0, f1, f2, f3, f4, f5, f6, f7⟩ := free_8 KZ.out
      obtain ⟨x0, x1, x2, x3, x4, x5, x6, x7⟩ := cells_8 KZ.out
      go_wp2
      refine bodyPost_ret (results_ct Tryz.results15 _ (LV.agg (set_8 KZ.out) Tryz.underlying30 rfl (by kernel_rfl))) rfl ?_
      unfold ParsePost
      rw [HQ.out]
      exact ⟨rfl, below_8 HB3.out (Nat.le_refl _)⟩
    | true =>
      rw [hh] at r2
      have FA := Lib.hid (hdB_facts hh)
      have hct : ct ≤ 96 := by have := FA.out.1; have := EE.out.2.2.2.2.2; omega
      have HH := Lib.hid hh
      have R3 := Lib.hid (fun o => r2.alloc o)
      have KZ0 := Lib.hid (fun o => has_alloc k2 o)
      have c3 := fun o => cells_2 (r2.alloc o).h
      have c4 := fun o => (c3 o).2
      clear c3 r2 k2 hh
      go_upto_region 7 with (fail)
      refine wp_nm fun W3 hW3 => ?_
      have r3 : RdS w (w.heap.size + 1) A n c true W3 := by rw [← hW3]; exact R3.out _
      have kz3 : W3.heap[w.heap.size]? = some (.cells imZero 30) := by rw [← hW3]; exact KZ0.out _
      have kx3 : W3.heap[w2.heap.size]? = some (.cells #[.bool pl, .int .i64 (ck : Nat), .int .i64 (dr : Nat), .int .u32 (hd : Nat), .slice none 0 0, .int .u32 0, .int .u32 0, .slice none 0 0] 30) := by rw [← hW3]; exact K3.out _
      clear hW3 c4 R3 KZ0 K3
      have hq5 : w2.heap.size < W3.heap.size := block_lt kx3
      generalize w2.heap.size = q5 at *
      obtain ⟨x0, x1, x2, x3, x4, x5, x6, x7⟩ := cells_8 kx3
      have C := Lib.hid (sections_any hI r3 tb ct hd (by omega) hct (by omega))
      have HR3 := Lib.hid (And.intro r3 (And.intro kz3 kx3))
      clear r3 kz3 kx3
      go_wp2_with (fail)
      (with_reducible refine C.out.mono ?_)
      rintro e w4 ⟨V, m, cV, L', rfl, hm, hp, hs, hss⟩
      have hlt := secN_lt bs tb ct
      have hen := chainS_le L' hd (by omega) (fun x hx => by have := hlt x (hp.mem_iff.1 hx); omega)
      have SM := Lib.hid (And.intro hm (And.intro (chain_same (secN bs tb ct) L' hd hp hs (fun x hx => (hlt x hx).2.2)) (rfl : (chainS L' hd).2 = (chainS L' hd).2)))
      obtain ⟨r4, hr4⟩ : ∃ r, (true && secIn bs tb ct && (chainS L' hd).1 && decide ((chainS L' hd).2 ≤ n)) = r := ⟨_, rfl⟩
      rw [hr4] at hss
      obtain ⟨en, hen2⟩ : ∃ x, (chainS L' hd).2 = x := ⟨_, rfl⟩
      have HEN := Lib.hid (And.intro hr4 hen2)
      rw [hen2] at hen ⊢
      have hg4 := hss.gr
      have kz4 := (hg4.block _ (block_lt HR3.out.2.1) (fun e => by injection e with e; omega)).trans HR3.out.2.1
      have kx4 := (hg4.block _ hq5 (fun e => by injection e with e; omega)).trans HR3.out.2.2
      obtain ⟨x0, x1, x2, x3, x4, x5, x6, x7⟩ := cells_8 kx4
      obtain ⟨f0, f1, f2, f3, f4, f5, f6, f7⟩ := free_8 kx4
      have HSS := Lib.hid (And.intro hss (And.intro kz4 kx4))
      have HW3 := Lib.hid hg4.size
      clear hlt hm hp hs hss hr4 hen2 hg4 kz4 kx4 C HR3
      go_upto_region 9 with (fail)
      refine wp_nm fun W5 hW5 => ?_
      have r5 : RdS w (w.heap.size + 1) A n c r4 W5 := by rw [← hW5]; exact HSS.out.1.r.far (grown_one _ _ _ _) (by omega) (by omega)
      have kz5 : W5.heap[w.heap.size]? = some (.cells imZero 30) := by rw [← hW5]; exact has_set HSS.out.2.1 (by omega)
      have kx5 : W5.heap[q5]? = some (.cells #[.bool pl, .int .i64 (ck : Nat), .int .i64 (dr : Nat), .int .u32 (hd : Nat), .slice V m cV, .int .u32 0, .int .u32 0, .slice none 0 0] 30) := by
        rw [← hW5]
        have h1 := heap_set_at _ q5 4 _ _ _ (.slice V m cV) HSS.out.2.2
        simp only [List.setIfInBounds_toArray, List.set_cons_zero, List.set_cons_succ] at h1
        exact h1
      have o5 : OwnR W5 W3.heap.size 60 2 V m cV ((secN bs tb ct).flatMap secCells) := by rw [← hW5]; exact HSS.out.1.o.kept (grown_one _ _ _ _) (.inr (fun e => by have := (HSS.out.1.o.blk_lt e).1; omega))
      clear hW5 x0 x1 x2 x3 x4 x5 x6 x7 f0 f1 f2 f3 f4 f5 f6 f7 HSS
      obtain ⟨x0, x1, x2, x3, x4, x5, x6, x7⟩ := cells_8 kx5
      obtain ⟨tt, htt⟩ : ∃ x, numQ bs dr 4 = x := ⟨_, rfl⟩
      obtain ⟨ll, hll⟩ : ∃ x, numQ bs (dr + 4) 4 = x := ⟨_, rfl⟩
      have ltt : tt < 4294967296 := by rw [← htt]; exact numQ_lt4 _ _
      have lll : ll < 4294967296 := by rw [← hll]; exact numQ_lt4 _ _
      have C1 : Hid (∀ W, RdS w (w.heap.size + 1) A n c r4 W → Calls Tryz.prog 31 #[.pointer (some ⟨w.heap.size + 1, 0, none⟩), .int .i64 (dr : Int), .int .i64 4] W fun e w' => e = .returned (.int .i64 (tt : Nat)) ∧ RdS w (w.heap.size + 1) A n c (r4 && inQ bs dr 4) w' ∧ W.grownBy w' (some (w.heap.size + 1))) := fun W h => by
        have := number_any hI (dr : Int) dr 4 rfl (by omega) (by decide) 4 rfl h
        rwa [htt] at this
      have C2 : Hid (∀ W, RdS w (w.heap.size + 1) A n c (r4 && inQ bs dr 4) W → Calls Tryz.prog 31 #[.pointer (some ⟨w.heap.size + 1, 0, none⟩), .int .i64 ((dr : Int) + 4), .int .i64 4] W fun e w' => e = .returned (.int .i64 (ll : Nat)) ∧ RdS w (w.heap.size + 1) A n c (r4 && inQ bs dr 4 && inQ bs (dr + 4) 4) w' ∧ W.grownBy w' (some (w.heap.size + 1))) := fun W h => by
        have := number_any hI ((dr : Int) + 4) (dr + 4) 4 (by push_cast; rfl) (by omega) (by decide) 4 rfl h
        rwa [hll] at this
      have HTL := Lib.hid (And.intro htt hll)
      have w1 : IntKind.i64.wrap ((dr : Int) + 4) = (dr : Int) + 4 := IntWalk.i64_in _ (by omega)
      have w2' : IntKind.u32.wrap (tt : Int) = (tt : Int) := IntWalk.u32_in _ (by omega)
      have w3 : IntKind.u32.wrap (ll : Int) = (ll : Int) := IntWalk.u32_in _ (by omega)
      have P5 : Hid (P9 w A n c q5 W3.heap.size r4 #[.bool pl, .int .i64 (ck : Nat), .int .i64 (dr : Nat), .int .u32 (hd : Nat), .slice V m cV, .int .u32 0, .int .u32 0, .slice none 0 0] V m cV ((secN bs tb ct).flatMap secCells) W5) := ⟨r5, kz5, kx5, o5⟩
      have P5D : Hid (P9 w A n c q5 W3.heap.size r4 #[.bool pl, .int .i64 (ck : Nat), .int .i64 (dr : Nat), .int .u32 (hd : Nat), .slice V m cV, .int .u32 0, .int .u32 0, .slice none 0 0] V m cV ((secN bs tb ct).flatMap secCells) W5.drew) := ⟨r5.drewN 1, kz5, kx5, o5⟩
      have hq9 : w.heap.size + 1 < q5 := by omega
      obtain ⟨D3, hD3⟩ : ∃ x, W3.heap.size = x := ⟨_, rfl⟩
      rw [hD3] at P5 P5D hq5
      clear htt hll r5 kx5 kz5 o5
      go_cut [50] (fun s wx => P9 w A n c q5 D3 (r4 && inQ bs dr 4 && inQ bs (dr + 4) 4) #[.bool pl, .int .i64 (ck : Nat), .int .i64 (dr : Nat), .int .u32 (hd : Nat), .slice V m cV, .int .u32 (tt : Nat), .int .u32 (ll : Nat), .slice none 0 0] V m cV ((secN bs tb ct).flatMap secCells) wx)
      case first => as_aux_lemma =>
        go_region_with (first
          | (go_at_call 31; (with_reducible refine (C1.out _ P5D.out.r).mono ?_); rintro e X1 ⟨rfl, ha1, hb1⟩; have HA1 := Lib.hid (P5D.out.rd hq9 hq5 ha1 hb1); obtain ⟨y0, y1, y2, y3, y4, y5, y6, y7⟩ := cells_8 HA1.out.x; clear ha1 hb1 C1)
          | (go_at_call 31; (with_reducible refine (C2.out _ HA1.out.r).mono ?_); rintro e X2 ⟨rfl, ha2, hb2⟩; have HA2 := Lib.hid (HA1.out.rd hq9 hq5 ha2 hb2); obtain ⟨z0, z1, z2, z3, z4, z5, z6, z7⟩ := cells_8 HA2.out.x; obtain ⟨f0, f1, f2, f3, f4, f5, f6, f7⟩ := free_8 HA2.out.x; clear ha2 hb2 C2))
        all_goals
          go_wp2_with (fail)
          go_meet
          first
            | exact HA2.out.st hq9 hq5 (grown_tr (grown_one _ _ _ _) (grown_one _ _ _ _)) (two_stores HA2.out.x _ _).1
            | exact HA2.out.st hq9 hq5 (grown_tr (grown_one _ _ _ _) (grown_one _ _ _ _)) (two_stores HA2.out.x _ _).2
      case rest =>
      have P6 := Lib.hid hcut
      generalize wc = W6 at *
      clear hcut P5 P5D C1 C2
      have hsec : secB bs = (secIn bs tb ct && (chainS (riseL (secN bs tb ct)) hd).1 && decide ((chainS (riseL (secN bs tb ct)) hd).2 ≤ n)) := by
        unfold secB endQ secsQ
        rw [EE.out.2.2.2.2.1, EE.out.2.2.2.2.2, EE.out.2.2.2.1, hnl]
      have hend : endQ bs = (chainS (riseL (secN bs tb ct)) hd).2 := by
        unfold endQ secsQ
        rw [EE.out.2.2.2.2.1, EE.out.2.2.2.2.2, EE.out.2.2.2.1]
      have hdq : dirQ bs = dr := EE.out.2.2.1
      have hdirb : dirB bs = (inQ bs dr 4 && inQ bs (dr + 4) 4) := by unfold dirB; rw [hdq]
      obtain ⟨r6, hr6⟩ : ∃ r, (r4 && inQ bs dr 4 && inQ bs (dr + 4) 4) = r := ⟨_, rfl⟩
      have h46 : r4 = secB bs ∧ (r4 = true → en = endQ bs) := by
        obtain ⟨sm1, ⟨sm2, sm3⟩, _⟩ := SM.out
        rw [← HEN.out.1, ← HEN.out.2, hsec, hend, sm2]
        cases hcs : (chainS (riseL (secN bs tb ct)) hd).1 with
        | false => simp
        | true => rw [sm3 hcs]; simp
      have HS6 : Hid (r6 = (secB bs && dirB bs) ∧ (r6 = true → en = endQ bs)) := by
        refine ⟨by rw [← hr6, h46.1, hdirb, Bool.and_assoc], fun h => h46.2 ?_⟩
        rw [← hr6, Bool.and_eq_true, Bool.and_eq_true] at h
        exact h.1.1
      rw [hr6] at P6
      have hcq : ctQ bs = tt := by unfold ctQ; rw [hdq]; exact HTL.out.1
      have hlq : clQ bs = ll := by unfold clQ; rw [hdq]; exact HTL.out.2
      have PQ : Hid (parseQ bs = if r6 = false then .inl 9 else if tt = 0 ∧ ll = 0 then .inr (imOf bs 0 0 []) else if sgB n tt ll (endQ bs) = false then .inl 9 else match rowsQ bs tt with
        | none => .inl 9
        | some l => if 8 < l.length then .inl 10 else .inr (imOf bs tt ll l)) := by
        show parseQ bs = _
        unfold parseQ
        rw [if_neg (by omega), HH.out, Bool.true_and, ← HS6.out.1, hcq, hlq, hnl]
        rfl
      have HIM : Hid (∀ t l sigs U k cU, imVal (imOf bs t l sigs) V m cV U k cU = #[.bool pl, .int .i64 (ck : Nat), .int .i64 (dr : Nat), .int .u32 (hd : Nat), .slice V m cV, .int .u32 (t : Nat), .int .u32 (l : Nat), .slice U k cU]) := fun t l sigs U k cU => by
        unfold imVal imOf
        rw [EE.out.1, EE.out.2.1, hdq, EE.out.2.2.2.1]
      have HSQ : Hid (m = (secN bs tb ct).length ∧ secsQ bs = secN bs tb ct) := ⟨SM.out.1, by unfold secsQ; rw [EE.out.2.2.2.2.1, EE.out.2.2.2.2.2]⟩
      have c1 := (cells_2 P6.out.r.h).2
      have hD36 : D3 ≤ W6.heap.size ∨ True := .inr trivial
      clear hsec hend hdq hdirb hr6 h46 hcq hlq HEN HTL SM hD36 w1 w2' w3
      obtain ⟨x0, x1, x2, x3, x4, x5, x6, x7⟩ := cells_8 P6.out.x
      obtain ⟨f0, f1, f2, f3, f4, f5, f6, f7⟩ := free_8 P6.out.x
      by_cases h0 : tt = 0 ∧ ll = 0
      · have t1 : ((tt : Int) != 0) = false := by simp; omega
        have t2 : ((ll : Int) != 0) = false := by simp; omega
        cases r6 with
        | false =>
            have HQ : Hid (parseQ bs = .inl 9) := by
              show parseQ bs = _
              rw [PQ.out]
              rfl
            have HB6 := Lib.hid P6.out.r.b
            have KZ := Lib.hid P6.out.z
            clear x0 x1 x2 x3 x4 x7 f0 f1 f2 f3 f4 f5 f6 f7 h0
            go_upto_region 13 with (fail)
            unfold imZero at KZ
            obtain ⟨f0, f1, f2, f3, f4, f5, f6, f7⟩ := free_8 KZ.out
            obtain ⟨x0, x1, x2, x3, x4, x5, x6, x7⟩ := cells_8 KZ.out
            go_wp2
            refine bodyPost_ret (results_ct Tryz.results15 _ (LV.agg (set_8 KZ.out) Tryz.underlying30 rfl (by kernel_rfl))) rfl ?_
            unfold ParsePost
            rw [HQ.out]
            exact ⟨rfl, below_8 HB6.out (Nat.le_refl _)⟩
        | true =>
            have HQ : Hid (parseQ bs = .inr (imOf bs tt ll [])) := by
              show parseQ bs = _
              rw [PQ.out, if_neg (by simp), if_pos h0, h0.1, h0.2]
            have KZ := Lib.hid P6.out.z
            unfold imZero at KZ
            have HB6 := Lib.hid P6.out.r.b
            have HO6 := Lib.hid P6.out.o
            clear f0 f1 f2 f3 f4 f5 f6 f7 h0
            go_upto_region 16 with (fail)
            obtain ⟨f0, f1, f2, f3, f4, f5, f6, f7⟩ := free_8 KZ.out
            obtain ⟨z0, z1, z2, z3, z4, z5, z6, z7⟩ := cells_8 KZ.out
            go_wp2
            refine bodyPost_ret (results_ct Tryz.results15 _ (LV.agg (set_8 KZ.out) Tryz.underlying30 rfl (by kernel_rfl))) rfl ?_
            unfold ParsePost
            rw [HQ.out]
            refine ⟨⟨V, m, cV, none, 0, 0, [], by rw [HIM.out]; rfl, ?_⟩, below_8 HB6.out (Nat.le_refl _)⟩
            exact ⟨by show m = (secsQ bs).length; rw [HSQ.out.2]; exact HSQ.out.1, by show OwnR _ _ _ _ V m cV ((secsQ bs).flatMap secCells); rw [HSQ.out.2]; exact (HO6.out.kept (grown_8 _ _) (.inr (fun e => by have := (HO6.out.blk_lt e).1; omega))).lower (by omega), rfl, rfl, OwnR.nil _ _ _ _, ⟨(fun x hx => by cases hx), List.Pairwise.nil⟩⟩
      · have H0 := Lib.hid h0
        by_cases h1 : tt = 0
        · have t1 : ((tt : Int) != 0) = false := by simp; omega
          have t2 : ((ll : Int) != 0) = true := by simp; omega
          clear h0 h1
          have C := Lib.hid (sigs_any hI P6.out.r tt ll en ltt lll (by omega))
          have hq56 : q5 < W6.heap.size := block_lt P6.out.x
          clear x0 x1 x2 x3 x4 x7 f0 f1 f2 f3 f4 f5 f6 f7
          go_wp2_with (fail)
          (with_reducible refine C.out.mono ?_)
          rintro e w7 ⟨U, k, cU, xs, R7, rfl, hR7, hb7, r7, g7, hk7, o7, so7⟩
          have P7 := Lib.hid (P6.out.rd hq9 hq5 r7 g7)
          have HX7 := Lib.hid (And.intro hR7 (And.intro hb7 (And.intro hk7 (And.intro o7 so7))))
          clear hR7 hb7 r7 g7 hk7 o7 so7 C x5 x6 c1
          obtain ⟨x0, x1, x2, x3, x4, x5, x6, x7⟩ := cells_8 P7.out.x
          obtain ⟨f0, f1, f2, f3, f4, f5, f6, f7⟩ := free_8 P7.out.x
          go_upto_region 12 with (fail)
          refine wp_nm fun W8 hW8 => ?_
          have P8 : Hid (P9 w A n c q5 D3 R7 #[.bool pl, .int .i64 (ck : Nat), .int .i64 (dr : Nat), .int .u32 (hd : Nat), .slice V m cV, .int .u32 (tt : Nat), .int .u32 (ll : Nat), .slice U k cU] V m cV ((secN bs tb ct).flatMap secCells) W8) := by
            rw [← hW8]
            have h1 := heap_set_at _ q5 7 _ _ _ (.slice U k cU) P7.out.x
            simp only [List.setIfInBounds_toArray, List.set_cons_zero, List.set_cons_succ] at h1
            exact P7.out.st hq9 hq5 (grown_one _ _ _ _) h1
          have O8 : Hid (OwnR W8 W6.heap.size 22 1 U k cU (xs.map Own1.val) ∧ SigsOwn W6.heap.size xs W8) := by
            obtain ⟨_, _, _, o7, so7⟩ := HX7.out
            rw [← hW8]
            exact ⟨o7.kept (grown_one _ _ _ _) (.inr (fun e => by have := (o7.blk_lt e).1; omega)), so7.keep (grown_one _ _ _ _) (fun b hb => by injection hb with hb; omega)⟩
          clear hW8 x0 x1 x2 x3 x4 x5 x6 x7 f0 f1 f2 f3 f4 f5 f6 f7 P7
          have c1 := (cells_2 P8.out.r.h).2
          obtain ⟨x0, x1, x2, x3, x4, x5, x6, x7⟩ := cells_8 P8.out.x
          cases R7 with
          | false =>
            have HQ : Hid (parseQ bs = .inl 9) := by
              show parseQ bs = _
              rw [PQ.out]
              have h7 := HX7.out.1
              cases h6 : r6 with
              | false => rfl
              | true =>
                rw [if_neg (by simp), if_neg H0.out]
                rw [h6, Bool.true_and, HS6.out.2 h6] at h7
                cases hs7 : sgB n tt ll (endQ bs) with
                | false => rfl
                | true =>
                  rw [hs7, Bool.true_and] at h7
                  rw [if_neg (by simp)]
                  cases hr7 : rowsQ bs tt with
                  | none => rfl
                  | some l => rw [hr7] at h7; cases h7
            have HB8 := Lib.hid P8.out.r.b
            have KZ := Lib.hid P8.out.z
            clear x0 x1 x2 x3 x4 x5 x6 x7
            go_upto_region 13 with (fail)
            unfold imZero at KZ
            obtain ⟨f0, f1, f2, f3, f4, f5, f6, f7⟩ := free_8 KZ.out
            obtain ⟨x0, x1, x2, x3, x4, x5, x6, x7⟩ := cells_8 KZ.out
            go_wp2
            refine bodyPost_ret (results_ct Tryz.results15 _ (LV.agg (set_8 KZ.out) Tryz.underlying30 rfl (by kernel_rfl))) rfl ?_
            unfold ParsePost
            rw [HQ.out]
            exact ⟨rfl, below_8 HB8.out (Nat.le_refl _)⟩
          | true =>
            have HALL : Hid (r6 = true ∧ sgB n tt ll (endQ bs) = true ∧ rowsQ bs tt = some (xs.map fun x => x.2.2.2)) := by
              have h7 := HX7.out.1.symm
              rw [Bool.and_eq_true, Bool.and_eq_true] at h7
              refine ⟨h7.1.1, ?_, HX7.out.2.1 rfl⟩
              rw [← HS6.out.2 h7.1.1]
              exact h7.1.2
            by_cases h8 : 8 < k
            · have t8 : decide ((8 : Int) < (k : Int)) = true := by simp; omega
              have HQ : Hid (parseQ bs = .inl 10) := by
                show parseQ bs = _
                rw [PQ.out]
                rw [HALL.out.1, if_neg (by simp), if_neg H0.out, HALL.out.2.1, if_neg (by simp), HALL.out.2.2]
                show (if 8 < _ then _ else _) = _
                rw [if_pos (by rw [List.length_map, ← HX7.out.2.2.1]; exact h8)]
              have HB8 := Lib.hid P8.out.r.b
              have KZ := Lib.hid P8.out.z
              clear x0 x1 x2 x3 x4 x5 x6
              go_upto_region 15 with (fail)
              unfold imZero at KZ
              obtain ⟨f0, f1, f2, f3, f4, f5, f6, f7⟩ := free_8 KZ.out
              obtain ⟨x0, x1, x2, x3, x4, x5, x6, x7⟩ := cells_8 KZ.out
              go_wp2
              refine bodyPost_ret (results_ct Tryz.results15 _ (LV.agg (set_8 KZ.out) Tryz.underlying30 rfl (by kernel_rfl))) rfl ?_
              unfold ParsePost
              rw [HQ.out]
              exact ⟨rfl, below_8 HB8.out (Nat.le_refl _)⟩
            · have t8 : decide ((8 : Int) < (k : Int)) = false := by simp; omega
              have HQ : Hid (parseQ bs = .inr (imOf bs tt ll (xs.map fun x => x.2.2.2))) := by
                show parseQ bs = _
                rw [PQ.out, HALL.out.1, if_neg (by simp), if_neg H0.out, HALL.out.2.1, if_neg (by simp), HALL.out.2.2]
                show (if 8 < _ then _ else _) = _
                rw [if_neg (by rw [List.length_map, ← HX7.out.2.2.1]; exact h8)]
              have KZ := Lib.hid P8.out.z
              unfold imZero at KZ
              have HB8 := Lib.hid P8.out.r.b
              have HO8 := Lib.hid P8.out.o
              go_upto_region 16 with (fail)
              obtain ⟨f0, f1, f2, f3, f4, f5, f6, f7⟩ := free_8 KZ.out
              obtain ⟨z0, z1, z2, z3, z4, z5, z6, z7⟩ := cells_8 KZ.out
              go_wp2
              refine bodyPost_ret (results_ct Tryz.results15 _ (LV.agg (set_8 KZ.out) Tryz.underlying30 rfl (by kernel_rfl))) rfl ?_
              unfold ParsePost
              rw [HQ.out]
              refine ⟨⟨V, m, cV, U, k, cU, xs, by rw [HIM.out]; rfl, ?_⟩, below_8 HB8.out (Nat.le_refl _)⟩
              exact ⟨by show m = (secsQ bs).length; rw [HSQ.out.2]; exact HSQ.out.1, by show OwnR _ _ _ _ V m cV ((secsQ bs).flatMap secCells); rw [HSQ.out.2]; exact (HO8.out.kept (grown_8 _ _) (.inr (fun e => by have := (HO8.out.blk_lt e).1; omega))).lower (by omega), HX7.out.2.2.1, rfl, (O8.out.1.kept (grown_8 _ _) (.inr (fun e => by have := (O8.out.1.blk_lt e).1; omega))).lower (by omega), (O8.out.2.keep (grown_8 _ _) (fun b hb => by injection hb with hb; omega)).lower (by omega)⟩
        · have t1 : ((tt : Int) != 0) = true := by simp; omega
          clear h0 h1
          have C := Lib.hid (sigs_any hI P6.out.r tt ll en ltt lll (by omega))
          have hq56 : q5 < W6.heap.size := block_lt P6.out.x
          clear x0 x1 x2 x3 x4 x7 f0 f1 f2 f3 f4 f5 f6 f7
          go_wp2_with (fail)
          (with_reducible refine C.out.mono ?_)
          rintro e w7 ⟨U, k, cU, xs, R7, rfl, hR7, hb7, r7, g7, hk7, o7, so7⟩
          have P7 := Lib.hid (P6.out.rd hq9 hq5 r7 g7)
          have HX7 := Lib.hid (And.intro hR7 (And.intro hb7 (And.intro hk7 (And.intro o7 so7))))
          clear hR7 hb7 r7 g7 hk7 o7 so7 C x5 x6 c1
          obtain ⟨x0, x1, x2, x3, x4, x5, x6, x7⟩ := cells_8 P7.out.x
          obtain ⟨f0, f1, f2, f3, f4, f5, f6, f7⟩ := free_8 P7.out.x
          go_upto_region 12 with (fail)
          refine wp_nm fun W8 hW8 => ?_
          have P8 : Hid (P9 w A n c q5 D3 R7 #[.bool pl, .int .i64 (ck : Nat), .int .i64 (dr : Nat), .int .u32 (hd : Nat), .slice V m cV, .int .u32 (tt : Nat), .int .u32 (ll : Nat), .slice U k cU] V m cV ((secN bs tb ct).flatMap secCells) W8) := by
            rw [← hW8]
            have h1 := heap_set_at _ q5 7 _ _ _ (.slice U k cU) P7.out.x
            simp only [List.setIfInBounds_toArray, List.set_cons_zero, List.set_cons_succ] at h1
            exact P7.out.st hq9 hq5 (grown_one _ _ _ _) h1
          have O8 : Hid (OwnR W8 W6.heap.size 22 1 U k cU (xs.map Own1.val) ∧ SigsOwn W6.heap.size xs W8) := by
            obtain ⟨_, _, _, o7, so7⟩ := HX7.out
            rw [← hW8]
            exact ⟨o7.kept (grown_one _ _ _ _) (.inr (fun e => by have := (o7.blk_lt e).1; omega)), so7.keep (grown_one _ _ _ _) (fun b hb => by injection hb with hb; omega)⟩
          clear hW8 x0 x1 x2 x3 x4 x5 x6 x7 f0 f1 f2 f3 f4 f5 f6 f7 P7
          have c1 := (cells_2 P8.out.r.h).2
          obtain ⟨x0, x1, x2, x3, x4, x5, x6, x7⟩ := cells_8 P8.out.x
          cases R7 with
          | false =>
            have HQ : Hid (parseQ bs = .inl 9) := by
              show parseQ bs = _
              rw [PQ.out]
              have h7 := HX7.out.1
              cases h6 : r6 with
              | false => rfl
              | true =>
                rw [if_neg (by simp), if_neg H0.out]
                rw [h6, Bool.true_and, HS6.out.2 h6] at h7
                cases hs7 : sgB n tt ll (endQ bs) with
                | false => rfl
                | true =>
                  rw [hs7, Bool.true_and] at h7
                  rw [if_neg (by simp)]
                  cases hr7 : rowsQ bs tt with
                  | none => rfl
                  | some l => rw [hr7] at h7; cases h7
            have HB8 := Lib.hid P8.out.r.b
            have KZ := Lib.hid P8.out.z
            clear x0 x1 x2 x3 x4 x5 x6 x7
            go_upto_region 13 with (fail)
            unfold imZero at KZ
            obtain ⟨f0, f1, f2, f3, f4, f5, f6, f7⟩ := free_8 KZ.out
            obtain ⟨x0, x1, x2, x3, x4, x5, x6, x7⟩ := cells_8 KZ.out
            go_wp2
            refine bodyPost_ret (results_ct Tryz.results15 _ (LV.agg (set_8 KZ.out) Tryz.underlying30 rfl (by kernel_rfl))) rfl ?_
            unfold ParsePost
            rw [HQ.out]
            exact ⟨rfl, below_8 HB8.out (Nat.le_refl _)⟩
          | true =>
            have HALL : Hid (r6 = true ∧ sgB n tt ll (endQ bs) = true ∧ rowsQ bs tt = some (xs.map fun x => x.2.2.2)) := by
              have h7 := HX7.out.1.symm
              rw [Bool.and_eq_true, Bool.and_eq_true] at h7
              refine ⟨h7.1.1, ?_, HX7.out.2.1 rfl⟩
              rw [← HS6.out.2 h7.1.1]
              exact h7.1.2
            by_cases h8 : 8 < k
            · have t8 : decide ((8 : Int) < (k : Int)) = true := by simp; omega
              have HQ : Hid (parseQ bs = .inl 10) := by
                show parseQ bs = _
                rw [PQ.out]
                rw [HALL.out.1, if_neg (by simp), if_neg H0.out, HALL.out.2.1, if_neg (by simp), HALL.out.2.2]
                show (if 8 < _ then _ else _) = _
                rw [if_pos (by rw [List.length_map, ← HX7.out.2.2.1]; exact h8)]
              have HB8 := Lib.hid P8.out.r.b
              have KZ := Lib.hid P8.out.z
              clear x0 x1 x2 x3 x4 x5 x6
              go_upto_region 15 with (fail)
              unfold imZero at KZ
              obtain ⟨f0, f1, f2, f3, f4, f5, f6, f7⟩ := free_8 KZ.out
              obtain ⟨x0, x1, x2, x3, x4, x5, x6, x7⟩ := cells_8 KZ.out
              go_wp2
              refine bodyPost_ret (results_ct Tryz.results15 _ (LV.agg (set_8 KZ.out) Tryz.underlying30 rfl (by kernel_rfl))) rfl ?_
              unfold ParsePost
              rw [HQ.out]
              exact ⟨rfl, below_8 HB8.out (Nat.le_refl _)⟩
            · have t8 : decide ((8 : Int) < (k : Int)) = false := by simp; omega
              have HQ : Hid (parseQ bs = .inr (imOf bs tt ll (xs.map fun x => x.2.2.2))) := by
                show parseQ bs = _
                rw [PQ.out, HALL.out.1, if_neg (by simp), if_neg H0.out, HALL.out.2.1, if_neg (by simp), HALL.out.2.2]
                show (if 8 < _ then _ else _) = _
                rw [if_neg (by rw [List.length_map, ← HX7.out.2.2.1]; exact h8)]
              have KZ := Lib.hid P8.out.z
              unfold imZero at KZ
              have HB8 := Lib.hid P8.out.r.b
              have HO8 := Lib.hid P8.out.o
              go_upto_region 16 with (fail)
              obtain ⟨f0, f1, f2, f3, f4, f5, f6, f7⟩ := free_8 KZ.out
              obtain ⟨z0, z1, z2, z3, z4, z5, z6, z7⟩ := cells_8 KZ.out
              go_wp2
              refine bodyPost_ret (results_ct Tryz.results15 _ (LV.agg (set_8 KZ.out) Tryz.underlying30 rfl (by kernel_rfl))) rfl ?_
              unfold ParsePost
              rw [HQ.out]
              refine ⟨⟨V, m, cV, U, k, cU, xs, by rw [HIM.out]; rfl, ?_⟩, below_8 HB8.out (Nat.le_refl _)⟩
              exact ⟨by show m = (secsQ bs).length; rw [HSQ.out.2]; exact HSQ.out.1, by show OwnR _ _ _ _ V m cV ((secsQ bs).flatMap secCells); rw [HSQ.out.2]; exact (HO8.out.kept (grown_8 _ _) (.inr (fun e => by have := (HO8.out.blk_lt e).1; omega))).lower (by omega), HX7.out.2.2.1, rfl, (O8.out.1.kept (grown_8 _ _) (.inr (fun e => by have := (O8.out.1.blk_lt e).1; omega))).lower (by omega), (O8.out.2.keep (grown_8 _ _) (fun b hb => by injection hb with hb; omega)).lower (by omega)⟩
end Go.Proofs.YtcedojmhgmgcgaaGreatDoor
namespace Go.Proofs.YtcedojmhgmgcgaaGreatDoor
open Go.RowKit Go
set_option linter.unusedVariables false
def sumS (l : List (Nat × Nat)) : Nat := (l.map (·.2)).sum
theorem chain_parts : ∀ (l : List (Nat × Nat)) (e : Nat), (chainR l e).1 = true → (chainR l e).2 = e + sumS l ∧ (∀ x ∈ l, e ≤ x.1 ∧ x.1 + x.2 ≤ e + sumS l) ∧ l.Pairwise (fun a b => a.1 + a.2 ≤ b.1)
  | [], e, _ => ⟨rfl, (fun x hx => by cases hx), List.Pairwise.nil⟩
  | x :: r, e, h => by
    simp only [chainR, Bool.and_eq_true, decide_eq_true_eq] at h
    obtain ⟨h1, h2⟩ := h
    obtain ⟨i1, i2, i3⟩ := chain_parts r (x.1 + x.2) h2
    have hs : sumS (x :: r) = x.2 + sumS r := by simp [sumS]
    refine ⟨by simp only [chainR]; rw [i1, hs]; omega, fun y hy => ?_, List.Pairwise.cons (fun y hy => (i2 y hy).1) i3⟩
    rcases List.mem_cons.1 hy with rfl | hy
    · rw [hs]; omega
    · have := i2 y hy; rw [hs]; omega
theorem sum_perm {l l' : List (Nat × Nat)} (h : l'.Perm l) : sumS l' = sumS l := (h.map _).sum_nat
/-- The sections of an image that is one. -/
theorem secs_parts (bs : List UInt8) (h : secB bs = true) : (∀ x ∈ secsQ bs, 0 < x.2 ∧ hdrQ bs ≤ x.1 ∧ x.1 + x.2 ≤ hdrQ bs + sumS (secsQ bs)) ∧ (secsQ bs).Pairwise (fun a b => a.1 + a.2 ≤ b.1 ∨ b.1 + b.2 ≤ a.1) ∧ endQ bs = hdrQ bs + sumS (secsQ bs) ∧ endQ bs ≤ bs.length ∧ (secsQ bs).length ≤ cntQ bs := by
  unfold secB at h
  simp only [Bool.and_eq_true, decide_eq_true_eq] at h
  obtain ⟨⟨_, h2⟩, h3⟩ := h
  have h2' := h2
  rw [chainS_eq] at h2'
  obtain ⟨c1, c2, c3⟩ := chain_parts _ _ h2'
  have hp := riseL_perm (secsQ bs)
  have he : endQ bs = hdrQ bs + sumS (secsQ bs) := by unfold endQ; rw [chainS_eq, c1, sum_perm hp]
  refine ⟨fun x hx => ⟨?_, ?_⟩, ?_, he, h3, ?_⟩
  · unfold secsQ secN at hx
    have := (List.mem_filter.1 hx).2
    simpa using this
  · have := c2 x (hp.mem_iff.2 hx)
    rw [sum_perm hp] at this
    exact this
  · exact (hp.pairwise_iff (fun {a b} h => h.symm)).1 (c3.imp (fun h => Or.inl h))
  · unfold secsQ secN
    have := List.length_filter_le (fun s : Nat × Nat => decide (0 < s.2)) ((List.range (cntQ bs)).map (secAt bs (tabQ bs)))
    simpa using this
theorem rows_some (bs : List UInt8) (a : Nat) (h : a < bs.length) {l : List (List UInt8)} (hr : rowsQ bs a = some l) : 0 < l.length := by
  rw [rowsQ, dif_pos h] at hr
  split at hr
  · split at hr
    · cases hq : rowsQ bs (a + padQ bs a) with
      | none => rw [hq] at hr; cases hr
      | some t => rw [hq] at hr; injection hr with hr; subst hr; simp
    · cases hr
  · cases hr
/-- What an image is. -/
theorem im_parts (bs : List UInt8) (im : Im) (h : parseQ bs = .inr im) : secB bs = true ∧ im.secs = secsQ bs ∧ im.hdr = hdrQ bs ∧ cntQ bs ≤ 96 ∧ 64 ≤ im.check ∧ im.check + 4 ≤ im.dir ∧ im.dir + 8 ≤ im.hdr ∧ im.hdr ≤ bs.length ∧ bs.length ≤ 16777216 ∧ im.sigs.length ≤ 8 ∧
    ((im.length = 0 ∧ im.table = 0 ∧ im.sigs = []) ∨ (0 < im.length ∧ endQ bs ≤ im.table ∧ im.table % 8 = 0 ∧ im.table + im.length = bs.length ∧ 0 < im.sigs.length)) := by
  unfold parseQ at h
  split at h
  · cases h
  · rename_i hbig
    split at h
    · cases h
    · rename_i hgood
      have hg : (hdB bs && secB bs && dirB bs) = true := by
        cases h9 : (hdB bs && secB bs && dirB bs) with
        | true => rfl
        | false => exact absurd h9 hgood
      simp only [Bool.and_eq_true] at hg
      obtain ⟨⟨g1, g2⟩, g3⟩ := hg
      have HD : cntQ bs ≤ 96 ∧ 64 ≤ optQ bs + 64 ∧ optQ bs + 64 + 4 ≤ dirQ bs ∧ dirQ bs + 8 ≤ hdrQ bs ∧ hdrQ bs ≤ bs.length := by
        unfold hdB at g1
        simp only [Bool.and_eq_true, Bool.or_eq_true, decide_eq_true_eq] at g1
        obtain ⟨⟨⟨⟨⟨⟨⟨⟨_, ⟨_, g12⟩⟩, _⟩, _⟩, _⟩, _⟩, ⟨g7, g8⟩⟩, _⟩, ⟨g10, g11⟩⟩ := g1
        unfold dirQ tabQ at *
        have hd : dirsQ bs = optQ bs + 96 ∨ dirsQ bs = optQ bs + 112 := by unfold dirsQ dirsOf; split <;> simp
        omega
      split at h
      · rename_i hz
        injection h with h
        subst h
        exact ⟨g2, rfl, rfl, HD.1, HD.2.1, HD.2.2.1, HD.2.2.2.1, HD.2.2.2.2, by omega, by simp [imOf], .inl ⟨rfl, rfl, rfl⟩⟩
      · split at h
        · cases h
        · rename_i hs
          have hs' : sgB bs.length (ctQ bs) (clQ bs) (endQ bs) = true := by
            cases h9 : sgB bs.length (ctQ bs) (clQ bs) (endQ bs) with
            | true => rfl
            | false => exact absurd h9 hs
          unfold sgB at hs'
          simp only [Bool.and_eq_true, decide_eq_true_eq] at hs'
          obtain ⟨⟨⟨s1, s2⟩, s3⟩, s4⟩ := hs'
          split at h
          · cases h
          · rename_i l hl
            split at h
            · cases h
            · injection h with h
              subst h
              have hp := rows_some bs (ctQ bs) (by omega) hl
              exact ⟨g2, rfl, rfl, HD.1, HD.2.1, HD.2.2.1, HD.2.2.2.1, HD.2.2.2.2, by omega, by simp only [imOf]; omega, .inr ⟨s1, s3, s2, s4, hp⟩⟩
end Go.Proofs.YtcedojmhgmgcgaaGreatDoor
namespace Go.Proofs.YtcedojmhgmgcgaaGreatDoor
open Go.RowKit Go
set_option linter.unusedVariables false
set_option maxRecDepth 100000
def wImg : List UInt8 := writeL false [] [] [[1, 2], [3]] [1] [] [[48, 7]]
theorem wImg_len : wImg.length = 416 := by decide +kernel
theorem wImg_secs : secsQ wImg = [(393, 2), (392, 1)] := by decide +kernel
theorem wImg_hdr : hdrQ wImg = 392 := by decide +kernel
theorem wImg_rise : riseL (secsQ wImg) = [(392, 1), (393, 2)] := by
  rw [wImg_secs]
  have h := chain_same [(393, 2), (392, 1)] [(392, 1), (393, 2)] 392 (List.Perm.swap _ _ _) (by decide) (by decide)
  have h1 : (chainS [(392, 1), (393, 2)] 392).1 = true := by decide
  exact (h.2 (by rw [← h.1, h1])).symm
theorem wImg_sec : secB wImg = true := by
  unfold secB endQ
  rw [wImg_rise, wImg_hdr, wImg_len]
  have h : secIn wImg (tabQ wImg) (cntQ wImg) = true := by decide +kernel
  rw [h]
  decide
theorem wImg_end : endQ wImg = 395 := by
  unfold endQ
  rw [wImg_rise, wImg_hdr]
  decide
theorem wImg_rows : rowsQ wImg 400 = some [[48, 7]] := by
  rw [rowsQ, dif_pos (by rw [wImg_len]; decide), dif_pos (by decide +kernel : rowOk wImg 400 = true), if_pos (by decide +kernel : fillB wImg 400 = true)]
  rw [show 400 + padQ wImg 400 = 416 by decide +kernel, rowsQ, dif_neg (by rw [wImg_len]; decide)]
  rw [show cut wImg (400 + 8) (numQ wImg 400 4 - 8) = [48, 7] by decide +kernel]
  rfl
def wIm : Im := ⟨false, 152, 216, 392, [(393, 2), (392, 1)], 400, 16, [[48, 7]]⟩
theorem works_parse : parseQ wImg = .inr wIm := by
  unfold parseQ
  have a1 : hdB wImg = true := by decide +kernel
  have a2 : dirB wImg = true := by decide +kernel
  have a3 : ctQ wImg = 400 := by decide +kernel
  have a4 : clQ wImg = 16 := by decide +kernel
  have a5 : optQ wImg = 88 := by decide +kernel
  have a6 : dirQ wImg = 216 := by decide +kernel
  have a7 : decide (magQ wImg = 523) = false := by decide +kernel
  rw [wImg_len, a1, a2, wImg_sec, a3, a4, wImg_end, wImg_rows]
  unfold imOf
  rw [a5, a6, a7, wImg_hdr, wImg_secs]
  rfl
theorem nil_parse : parseQ [] = .inl 9 := by
  unfold parseQ
  have h : hdB [] = false := by decide +kernel
  rw [h]
  rfl
end Go.Proofs.YtcedojmhgmgcgaaGreatDoor
namespace Go.Proofs.YtcedojmhgmgcgaaGreatDoor
open Go.RowKit Go
set_option linter.unusedVariables false
set_option linter.unusedSimpArgs false
set_option maxRecDepth 100000
/-- An image that reads as what it is. -/
structure ImRd (im : Im) (V : Option Addr) (m cV : Nat) (U : Option Addr) (k cU : Nat) (xs : List Own1) (W : World) : Prop where
  ml : m = im.secs.length
  secs : ReadR W V (im.secs.flatMap secCells)
  kl : k = xs.length
  bytes : xs.map (fun x => x.2.2.2) = im.sigs
  sigs : ReadR W U (xs.map Own1.val)
  rb : ∀ x ∈ xs, RB W x.1 x.2.1 x.2.2.2
theorem ImRd.below {im : Im} {V : Option Addr} {m cV : Nat} {U : Option Addr} {k cU : Nat} {xs : List Own1} {W W' : World} (h : ImRd im V m cV U k cU xs W) (hb : Below W.heap.size W W') : ImRd im V m cV U k cU xs W' :=
  ⟨h.ml, h.secs.below hb (Nat.le_refl _), h.kl, h.bytes, h.sigs.below hb (Nat.le_refl _), fun x hx => (h.rb x hx).below hb⟩
theorem ImOwn.rd {base : Nat} {im : Im} {V : Option Addr} {m cV : Nat} {U : Option Addr} {k cU : Nat} {xs : List Own1} {W : World} (h : ImOwn base im V m cV U k cU xs W) : ImRd im V m cV U k cU xs W :=
  ⟨h.ml, h.secs.reads, h.kl, h.bytes, h.sigs.reads, fun x hx => (h.own.own x hx).1.rb⟩
theorem sec_same (x : Nat × Nat) (W : World) : (Op.equalIn 10000 60 (.agg #[.int .u32 (x.1 : Nat), .int .u32 (x.2 : Nat)]) (.agg #[.int .u32 (x.1 : Nat), .int .u32 (x.2 : Nat)])).run Tryz.prog W = .ok true W := by
  refine (run_equalIn_agg W 9999 60 _ _ (by kernel_rfl) (by kernel_rfl)).trans ?_
  simp only [Program.fieldsOf, Tryz.underlying60]
  simp [go_sem, Tryz.underlying26]
set_option maxHeartbeats 4000000 in
theorem same_im (im : Im) (V : Option Addr) (m cV : Nat) (U : Option Addr) (k cU : Nat) (xs : List Own1) (V' : Option Addr) (m' cV' : Nat) (U' : Option Addr) (k' cU' : Nat) (xs' : List Own1) (w : World) (h : ImRd im V m cV U k cU xs w) (h' : ImRd im V' m' cV' U' k' cU' xs' w)
    (hm : m ≤ 1000) (hk : k ≤ 1000) :
    Calls Tryz.prog 10 #[.agg (imVal im V m cV U k cU), .agg (imVal im V' m' cV' U' k' cU')] w fun e w' => e = .returned (.bool true) ∧ Below w.heap.size w w' := by
  obtain rfl : m' = m := h'.ml.trans h.ml.symm
  obtain rfl : k' = k := by
    have h1 := congrArg List.length h.bytes
    have h2 := congrArg List.length h'.bytes
    rw [List.length_map] at h1 h2
    rw [h.kl, h'.kl]; omega
  have H := Lib.hid (And.intro h h')
  clear h h'
  go_enter Tryz.func10, Tryz.ntmps10
  dsimp only [imVal]
  go_upto_region 1 with (fail)
  refine wp_nm fun W0 hW0 => ?_
  have q0 : W0.heap[w.heap.size]? = some (.cells (imVal im V m' cV U k' cU) 30) := by rw [← hW0]; exact has_alloc (has_new w _) _
  have q1 : W0.heap[w.heap.size + 1]? = some (.cells (imVal im V' m' cV' U' k' cU') 30) := by rw [← hW0]; exact has_new' _ _ _ (by simp)
  have hb0 : Below w.heap.size w W0 := by rw [← hW0]; exact kp_alloc (kp_alloc (Below.refl _ _) _) _
  have HB := Lib.hid hb0
  have HR := Lib.hid (And.intro (H.out.1.below hb0) (H.out.2.below hb0))
  clear hW0 hb0 H
  dsimp only [imVal] at q0 q1
  obtain ⟨x0, x1, x2, x3, x4, x5, x6, x7⟩ := cells_8 q0
  obtain ⟨y0, y1, y2, y3, y4, y5, y6, y7⟩ := cells_8 q1
  have K := Lib.hid (And.intro q0 (And.intro q1 HB.out))
  have HM := Lib.hid (And.intro hm hk)
  have hm9 : m' ≤ 1000 := hm
  have hk9 : k' ≤ 1000 := hk
  clear q0 q1 HB
  go_wp2_with (fail)
  go_loopw [5] (fun vi wl => ∃ i : Nat, vi = .int .i64 (i : Int) ∧ i ≤ m' ∧ Hid (wl.heap[w.heap.size]? = some (.cells (imVal im V m' cV U k' cU) 30) ∧ wl.heap[w.heap.size + 1]? = some (.cells (imVal im V' m' cV' U' k' cU') 30) ∧ Below w.heap.size w wl ∧ Below W0.heap.size W0 wl)) (fun vi _ => m' - (intOf vi).toNat)
  case atStart => exact ⟨0, rfl, Nat.zero_le _, K.out.1, K.out.2.1, K.out.2.2, Below.refl _ _⟩
  case round =>
    obtain ⟨i, rfl, hi, HK⟩ := hrel
    clear K x0 x1 x2 x3 x4 x5 x6 x7 y0 y1 y2 y3 y4 y5 y6 y7
    obtain ⟨x0, x1, x2, x3, x4, x5, x6, x7⟩ := cells_8 HK.out.1
    obtain ⟨y0, y1, y2, y3, y4, y5, y6, y7⟩ := cells_8 HK.out.2.1
    by_cases hlt : i < m'
    · have i1 : decide ((i : Int) < (m' : Int)) = true := by simp; omega
      have e3 : IntKind.i64.wrap ((i : Int) + 1) = (i : Int) + 1 := IntWalk.i64_in _ (by omega)
      obtain ⟨s, hs⟩ : ∃ s, im.secs[i]? = some s := ⟨_, List.getElem?_eq_getElem (by have := HR.out.1.ml; omega)⟩
      obtain ⟨s0, s1⟩ := sec_at im.secs i s hs
      have hRV := HR.out.1.secs.below HK.out.2.2.2 (Nat.le_refl _)
      have hRV' := HR.out.2.secs.below HK.out.2.2.2 (Nat.le_refl _)
      obtain ⟨b, off, rfl, hb, k0⟩ := hRV.at_ s0
      obtain ⟨b1, off1, e, _, k1⟩ := hRV.at_ s1
      cases e
      have k1' : wr.cell? ⟨b, off + i * 2 + 1, none⟩ = some (.int .u32 (s.2 : Nat)) := k1
      obtain ⟨c, pff, rfl, hc, j0⟩ := hRV'.at_ s0
      obtain ⟨c1, pff1, e, _, j1⟩ := hRV'.at_ s1
      cases e
      have j1' : wr.cell? ⟨c, pff + i * 2 + 1, none⟩ = some (.int .u32 (s.2 : Nat)) := j1
      have hEQ := sec_same s
      have HN : Hid (∀ q, wr.heap[w.heap.size]? = some (.cells (imVal im (some ⟨b, off, none⟩) m' cV U k' cU) 30) ∧ wr.heap[w.heap.size + 1]? = some (.cells (imVal im (some ⟨c, pff, none⟩) m' cV' U' k' cU') 30) ∧ Below w.heap.size w (wr.drewN q) ∧ Below W0.heap.size W0 (wr.drewN q)) := fun q => ⟨HK.out.1, HK.out.2.1, kp_drewN HK.out.2.2.1 q, kp_drewN HK.out.2.2.2 q⟩
      clear k1 j1 hRV hRV' s0 s1 hs HK
      go_wp2_with (fail)
      go_quiet (fail)
      go_wp2_with (fail)
      go_roundw
      case rel => exact ⟨i + 1, by go_num, by omega, HN.out _⟩
      case measure => simp [intOf]; omega
    · have i1 : decide ((i : Int) < (m' : Int)) = false := by simp; omega
      obtain rfl : i = m' := by omega
      go_wp2_with (fail)
      go_loopw [6] (fun vi wl => ∃ j : Nat, vi = .int .i64 (j : Int) ∧ j ≤ k' ∧ Hid (wl.heap[w.heap.size]? = some (.cells (imVal im V i cV U k' cU) 30) ∧ wl.heap[w.heap.size + 1]? = some (.cells (imVal im V' i cV' U' k' cU') 30) ∧ Below w.heap.size w wl ∧ Below W0.heap.size W0 wl)) (fun vi _ => k' - (intOf vi).toNat)
      case atStart => exact ⟨0, rfl, Nat.zero_le _, HK.out⟩
      case round =>
        obtain ⟨j, rfl, hj, HK2⟩ := hrel
        clear HK x0 x1 x2 x3 x4 x5 x6 x7 y0 y1 y2 y3 y4 y5 y6 y7
        obtain ⟨x0, x1, x2, x3, x4, x5, x6, x7⟩ := cells_8 HK2.out.1
        obtain ⟨y0, y1, y2, y3, y4, y5, y6, y7⟩ := cells_8 HK2.out.2.1
        by_cases hlt2 : j < k'
        · have j1 : decide ((j : Int) < (k' : Int)) = true := by simp; omega
          have e3 : IntKind.i64.wrap ((j : Int) + 1) = (j : Int) + 1 := IntWalk.i64_in _ (by omega)
          obtain ⟨z, hz⟩ : ∃ z, xs[j]? = some z := ⟨_, List.getElem?_eq_getElem (by have := HR.out.1.kl; omega)⟩
          obtain ⟨z', hz'⟩ : ∃ z, xs'[j]? = some z := ⟨_, List.getElem?_eq_getElem (by have := HR.out.2.kl; omega)⟩
          have hzz : z.2.2.2 = z'.2.2.2 := by
            have h1 := congrArg (fun l : List (List UInt8) => l[j]?) (HR.out.1.bytes.trans HR.out.2.bytes.symm)
            simp only [List.getElem?_map, hz, hz'] at h1
            exact Option.some.inj h1
          obtain ⟨b, off, rfl, hb, k0⟩ := (HR.out.1.sigs.below HK2.out.2.2.2 (Nat.le_refl _)).at_ (show (xs.map Own1.val)[j]? = some z.val by rw [List.getElem?_map, hz]; rfl)
          obtain ⟨c, pff, rfl, hc, l0⟩ := (HR.out.2.sigs.below HK2.out.2.2.2 (Nat.le_refl _)).at_ (show (xs'.map Own1.val)[j]? = some z'.val by rw [List.getElem?_map, hz']; rfl)
          have EE := Lib.hid (fun q => eq_any z.1 z'.1 z.2.1 z'.2.1 z.2.2.1 z'.2.2.1 z.2.2.2 z'.2.2.2 (wr.drewN q) (((HR.out.1.rb z (List.mem_of_getElem? hz)).below HK2.out.2.2.2).drewN q) (((HR.out.2.rb z' (List.mem_of_getElem? hz')).below HK2.out.2.2.2).drewN q))
          have EE2 : Hid (∀ q, Calls Tryz.prog 25 #[.slice z.1 z.2.1 z.2.2.1, .slice z'.1 z'.2.1 z'.2.2.1] (wr.drewN q) fun e w' => e = .returned (.bool true) ∧ w' = wr.drewN q) := fun q => (EE.out q).mono fun e w' h => ⟨by rw [h.1, hzz]; simp, h.2.symm⟩
          have HN : Hid (∀ q, wr.heap[w.heap.size]? = some (.cells (imVal im V i cV (some ⟨b, off, none⟩) k' cU) 30) ∧ wr.heap[w.heap.size + 1]? = some (.cells (imVal im V' i cV' (some ⟨c, pff, none⟩) k' cU') 30) ∧ Below w.heap.size w (wr.drewN q) ∧ Below W0.heap.size W0 (wr.drewN q)) := fun q => ⟨HK2.out.1, HK2.out.2.1, kp_drewN HK2.out.2.2.1 q, kp_drewN HK2.out.2.2.2 q⟩
          unfold Own1.val at k0 l0
          clear EE hz hz' hzz HK2
          go_wp2_with (fail)
          go_quiet ((go_at_call 25; exact Calls.quiet_of_same (EE2.out _)))
          go_wp2_with (fail)
          go_roundw
          case rel => exact ⟨j + 1, by go_num, by omega, HN.out _⟩
          case measure => simp [intOf]; omega
        · have j1 : decide ((j : Int) < (k' : Int)) = false := by simp; omega
          obtain rfl : j = k' := by omega
          go_wp2_with (fail)
          go_ret
          exact ⟨rfl, HK2.out.2.2.1⟩
end Go.Proofs.YtcedojmhgmgcgaaGreatDoor
