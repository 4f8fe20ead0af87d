/-
  der: the document's Join, Int, PutInt, Bits.
-/
import Derived.Test.YtlkiobngafjeiaaDrY
namespace Go.Proofs.Ytlkiobngafjeiaa
open Go.RowKit Go
set_option linter.unusedVariables false
set_option linter.unusedSimpArgs false
set_option maxRecDepth 100000
theorem rb_cut1 {w : World} {b off n c k : Nat} {bs : List UInt8} (h : RB w (some ⟨b, off, none⟩) n bs) (hnc : n ≤ c) (hk : k ≤ n) :
    RB w (if c = k then some ⟨b, off, none⟩ else some ⟨b, off + k, none⟩) (n - k) (bs.drop k) := by
  refine ⟨by rw [List.length_drop, h.1], ?_⟩
  by_cases e : c = k
  · rw [List.drop_of_length_le (by rw [h.1]; omega)]
    exact Bs.nil
  · rw [if_neg e]
    have h2 := h.2.drop_ k
    simp only [Option.map_some, Addr.add_lit] at h2
    exact h2
/-! ### Join -/
theorem rjoin_any (A : Option Addr) (m c : Nat) (X : Nat → Option Addr × Nat × Nat) (bss : Nat → List UInt8) (w : World) (hP : Parts w A m X bss) (hm : m ≤ 1000000) (hlen : (joinN bss m).length ≤ 140737488355328) :
    Calls Try.prog 40 #[.slice A m c] w (Fresh w (joinN bss m)) := by
  have HL := Lib.hid (fun i (h : i ≤ m) => joinN_mono bss i m h)
  have HP := Lib.hid hP
  clear hP
  go_enter Try.func40, Try.ntmps40
  go_wp2
  go_loopw [3, 4] (fun v i wl => ∃ (k : Nat) (A2 : Option Addr) (n2 c2 : Nat), k ≤ m ∧ i = .int .i64 k ∧ v = .slice A2 n2 c2 ∧ OwnB wl w.heap.size A2 n2 c2 (joinN bss k) ∧ Below w.heap.size w wl) (fun _ i _ => m - (intOf i).toNat)
  case atStart => exact ⟨0, _, _, _, Nat.zero_le _, rfl, rfl, OwnB.nil _ _, Below.refl _ _⟩
  case round =>
    obtain ⟨k, A2, n2, c2, hk, rfl, rfl, hown, hbl⟩ := hrel
    by_cases hlt2 : k < m
    · obtain ⟨b, off, rfl, hblt, hr⟩ := (Parts.below HP.out hbl (Nat.le_refl _)) (by omega)
      obtain ⟨hcell, hR⟩ := hr k hlt2
      have hle := HL.out (k + 1) (by omega)
      rw [joinN_succ, List.length_append, hR.1, hown.len] at hle
      have hsz := hbl.size
      clear hr
      go_wp2_with (at_builtin; refine wpList_apn _ _ rfl rfl rfl w.heap.size A2 n2 c2 _ rfl hown (X k).1 (X k).2.1 (X k).2.2 (bss k) rfl hR (by omega) (by omega) ?_)
      intro A3 c3 w3 hown3 hg3
      go_wp2
      go_roundw
      case rel => exact ⟨k + 1, A3, _, c3, by omega, by go_num, rfl, hown3, hbl.grown hg3 (by omega) (fun g hg => (hown.blk_lt hg).1)⟩
      case measure => simp [intOf]; omega
    · obtain rfl : k = m := by omega
      go_wp2
      go_ret
      exact ⟨A2, n2, c2, rfl, hown, hbl⟩
theorem rjoin3_any (X1 X2 X3 : Option Addr) (m1 m2 m3 k1 k2 k3 : Nat) (r1 r2 r3 : List UInt8) (w : World) (g : Nat) (hg : w.heap.size = g) (h1 : RB w X1 m1 r1) (h2 : RB w X2 m2 r2) (h3 : RB w X3 m3 r3) (hlen : m1 + m2 + m3 ≤ 140737488355328) :
    Calls Try.prog 40 #[.slice (some ⟨g, 0, none⟩) 3 3] (w.alloc (.cells #[.slice X1 m1 k1, .slice X2 m2 k2, .slice X3 m3 k3] 22)) (Fresh w (r1 ++ (r2 ++ r3))) := by
  subst hg
  have hP : Parts (w.alloc (.cells #[.slice X1 m1 k1, .slice X2 m2 k2, .slice X3 m3 k3] 22)) (some ⟨w.heap.size, 0, none⟩) 3 (fun r => if r = 0 then (X1, m1, k1) else if r = 1 then (X2, m2, k2) else (X3, m3, k3)) (fun r => if r = 0 then r1 else if r = 1 then r2 else r3) := fun _ => by
    refine ⟨w.heap.size, 0, rfl, by simp, fun r hr => ?_⟩
    have hr3 : r = 0 ∨ r = 1 ∨ r = 2 := by omega
    rcases hr3 with rfl | rfl | rfl
    · exact ⟨cell_of_row _ w.heap.size 0 _ _ _ (heap_alloc_new w _), h1.alloc _⟩
    · exact ⟨cell_of_row _ w.heap.size 1 _ _ _ (heap_alloc_new w _), h2.alloc _⟩
    · exact ⟨cell_of_row _ w.heap.size 2 _ _ _ (heap_alloc_new w _), h3.alloc _⟩
  have hj : joinN (fun r => if r = 0 then r1 else if r = 1 then r2 else r3) 3 = r1 ++ (r2 ++ r3) := by simp [joinN]
  refine (rjoin_any _ 3 3 _ _ _ hP (by omega) (by rw [hj]; simp [h1.1, h2.1, h3.1]; omega)).mono ?_
  rintro e w' ⟨A, n, c, rfl, hown, hb⟩
  rw [hj] at hown
  exact ⟨A, n, c, rfl, hown.lower (by simp), ((Below.refl _ _).alloc (Nat.le_refl _) _).trans (hb.mono (by simp))⟩
/-! ### Int -/
theorem rint_zero (A : Option Addr) (c : Nat) (w : World) : Calls Try.prog 43 #[.slice A 0 c] w (IntPost w []) := by
  go_enter Try.func43, Try.ntmps43
  go_wp2
  go_ret2
  exact int_no rfl (Below.refl _ _)
theorem rint_high (b off n c : Nat) (d : UInt8) (bs : List UInt8) (w : World) (hn : 0 < n) (hn2 : n ≤ 1000000000) (h : intQ bs = none) (h0 : w.cell? ⟨b, off, none⟩ = some (.int .u8 (d.toNat : Int))) (hd : 128 ≤ d.toNat) :
    Calls Try.prog 43 #[.slice (some ⟨b, off, none⟩) n c] w (IntPost w bs) := by
  have H := Lib.hid h
  clear h
  have t0 : ((n : Int) == 0) = false := by simp; omega
  have t1 : decide ((128 : Int) ≤ (d.toNat : Int)) = true := by simp; omega
  go_enter Try.func43, Try.ntmps43
  go_wp2
  go_ret2
  exact int_no H.out (Below.refl _ _)
theorem rint_needless (b off n c : Nat) (d x : UInt8) (bs : List UInt8) (w : World) (hn : 1 < n) (hn2 : n ≤ 1000000000) (h : intQ bs = none) (h0 : w.cell? ⟨b, off, none⟩ = some (.int .u8 (d.toNat : Int))) (hd : d.toNat = 0)
    (h1 : w.cell? ⟨b, off + 1, none⟩ = some (.int .u8 (x.toNat : Int))) (hx : x.toNat < 128) :
    Calls Try.prog 43 #[.slice (some ⟨b, off, none⟩) n c] w (IntPost w bs) := by
  have H := Lib.hid h
  clear h
  have t0 : ((n : Int) == 0) = false := by simp; omega
  have t1 : decide ((128 : Int) ≤ (d.toNat : Int)) = false := by simp; omega
  have t2 : ((d.toNat : Int) == 0) = true := by simp; omega
  have t3 : decide ((x.toNat : Int) < 128) = true := by simp; omega
  have t4 : decide ((1 : Int) < (n : Int)) = true := by simp; omega
  clear hd
  go_enter Try.func43, Try.ntmps43
  go_wp2
  go_ret2
  exact int_no H.out (Below.refl _ _)
theorem rint_nz (b off n c : Nat) (d : UInt8) (bs : List UInt8) (w : World) (hR : RB w (some ⟨b, off, none⟩) n bs) (hnb : n ≤ 1000000000) (h : intQ bs = some bs) (h0 : w.cell? ⟨b, off, none⟩ = some (.int .u8 (d.toNat : Int))) (hn : 0 < n) (hd : 0 < d.toNat) (hd2 : d.toNat < 128) :
    Calls Try.prog 43 #[.slice (some ⟨b, off, none⟩) n c] w (IntPost w bs) := by
  have H := Lib.hid h
  have C := Lib.hid (fun k => copy_any (some ⟨b, off, none⟩) n c bs (w.drewN k) (hR.drewN k) (by omega))
  have C0 := Lib.hid (copy_any (some ⟨b, off, none⟩) n c bs w hR (by omega))
  clear h hR
  have t0 : ((n : Int) == 0) = false := by simp; omega
  have t1 : decide ((128 : Int) ≤ (d.toNat : Int)) = false := by simp; omega
  have t2 : ((d.toNat : Int) == 0) = false := by simp; omega
  go_enter Try.func43, Try.ntmps43
  by_cases h1 : (1 : Int) < (n : Int)
  · have t4 : decide ((1 : Int) < (n : Int)) = true := by simpa using h1
    clear h1 hd
    go_wp2_with fail
    refine C0.out.mono ?_
    rintro e w' ⟨A1, n1, c1, rfl, ho, hb⟩
    go_wp2
    go_ret2
    exact int_yes H.out ho hb
  · have t4 : decide ((1 : Int) < (n : Int)) = false := by simpa using h1
    clear h1 hd
    go_wp2_with fail
    refine C0.out.mono ?_
    rintro e w' ⟨A1, n1, c1, rfl, ho, hb⟩
    go_wp2
    go_ret2
    exact int_yes H.out ho hb
theorem rint_zer (b off n c : Nat) (d : UInt8) (bs r : List UInt8) (SA : Option Addr) (w : World) (hSA : SA = if c = 1 then some ⟨b, off, none⟩ else some ⟨b, off + 1, none⟩) (hR : RB w SA (n - 1) r) (hnb : n ≤ 1000000000) (hnc : n ≤ c) (hcc : c ≤ 9223372036854775807) (h : intQ bs = some r) (h0 : w.cell? ⟨b, off, none⟩ = some (.int .u8 (d.toNat : Int))) (hn : 0 < n) (hd : d.toNat = 0)
    (h1 : n = 1 ∨ ∃ x : UInt8, w.cell? ⟨b, off + 1, none⟩ = some (.int .u8 (x.toNat : Int)) ∧ 128 ≤ x.toNat) :
    Calls Try.prog 43 #[.slice (some ⟨b, off, none⟩) n c] w (IntPost w bs) := by
  have H := Lib.hid h
  clear h
  have t1 : decide ((128 : Int) ≤ (d.toNat : Int)) = false := by simp; omega
  have t2 : ((d.toNat : Int) == 0) = true := by simp; omega
  by_cases hn1 : n = 1
  · subst hn1
    clear h1 hd
    by_cases hc1 : c = 1
    · subst hc1
      rw [if_pos rfl] at hSA
      subst hSA
      have C0 := Lib.hid (copy_any (some ⟨b, off, none⟩) 0 0 r w hR (by omega))
      clear hR
      go_enter Try.func43, Try.ntmps43
      go_wp2_with fail
      refine C0.out.mono ?_
      rintro e w' ⟨A1, n1, c1, rfl, ho, hb⟩
      go_wp2
      go_ret2
      exact int_yes H.out ho hb
    · rw [if_neg hc1] at hSA
      subst hSA
      have C0 := Lib.hid (copy_any (some ⟨b, off + 1, none⟩) 0 (c - 1) r w hR (by omega))
      clear hR
      have hc2 : 1 < c := by omega
      go_enter Try.func43, Try.ntmps43
      go_wp2_with fail
      refine C0.out.mono ?_
      rintro e w' ⟨A1, n1, c1, rfl, ho, hb⟩
      go_wp2
      go_ret2
      exact int_yes H.out ho hb
  · obtain ⟨x, hx, hx8⟩ : ∃ x : UInt8, w.cell? ⟨b, off + 1, none⟩ = some (.int .u8 (x.toNat : Int)) ∧ 128 ≤ x.toNat := h1.resolve_left hn1
    rw [if_neg (by omega)] at hSA
    subst hSA
    have t0 : ((n : Int) == 0) = false := by simp; omega
    have t3 : decide ((x.toNat : Int) < 128) = false := by simp; omega
    have t4 : decide ((1 : Int) < (n : Int)) = true := by simp; omega
    have t5 : 1 < n := by omega
    have t6 : 1 < c := by omega
    have C0 := Lib.hid (copy_any (some ⟨b, off + 1, none⟩) (n - 1) (c - 1) r w hR (by omega))
    clear hR h1 hd hn1
    go_enter Try.func43, Try.ntmps43
    go_wp2_with fail
    refine C0.out.mono ?_
    rintro e w' ⟨A1, n1, c1, rfl, ho, hb⟩
    go_wp2
    go_ret2
    exact int_yes H.out ho hb
theorem rint_any (A : Option Addr) (n c : Nat) (bs : List UInt8) (w : World) (hR : RB w A n bs) (hnc : n ≤ c) (hn : n ≤ 1000000000) (hcc : c ≤ 9223372036854775807) :
    Calls Try.prog 43 #[.slice A n c] w (IntPost w bs) := by
  have hl := hR.1
  match bs, hl with
  | [], hl =>
    obtain rfl : n = 0 := by simpa using hl.symm
    exact rint_zero A c w
  | d :: r, hl =>
    have hl : r.length + 1 = n := by simpa using hl
    obtain ⟨b, off, d', rfl, _, hd, c0⟩ := hR.at_ (k := 0) (by omega)
    simp at hd
    subst hd
    have c0 : w.cell? ⟨b, off, none⟩ = some (.int .u8 (d.toNat : Int)) := c0
    have hcut := rb_cut1 hR hnc (show 1 ≤ n by omega)
    have hcut : RB w (if c = 1 then some ⟨b, off, none⟩ else some ⟨b, off + 1, none⟩) (n - 1) r := hcut
    by_cases hd8 : 128 ≤ d.toNat
    · exact rint_high b off n c d _ w (by omega) hn (by cases r <;> simp [intQ, hd8]) c0 hd8
    by_cases hz : d.toNat = 0
    · match r, hl with
      | [], hl =>
        exact rint_zer b off n c d [d] [] _ w rfl hcut hn hnc hcc (by simp only [intQ]; rw [if_neg hd8, trimZ_cons, if_pos hz]; rfl) c0 (by omega) hz (.inl (by simpa using hl.symm))
      | x :: r', hl =>
        have hl : r'.length + 1 + 1 = n := by simpa using hl
        obtain ⟨b', off', x', e', _, hx, c1⟩ := hR.at_ (k := 1) (by omega)
        cases e'
        simp at hx
        subst hx
        by_cases hx : x.toNat < 128
        · exact rint_needless b off n c d x _ w (by omega) hn (by simp only [intQ]; rw [if_pos (.inr ⟨hz, hx⟩)]) c0 hz c1 hx
        · exact rint_zer b off n c d (d :: x :: r') (x :: r') _ w rfl hcut hn hnc hcc (by simp only [intQ]; rw [if_neg (by omega), trimZ_cons, if_pos hz, trimZ_cons, if_neg (by omega)]) c0 (by omega) hz (.inr ⟨x, c1, by omega⟩)
    · refine rint_nz b off n c d _ w hR hn ?_ c0 (by omega) (by omega) (by omega)
      cases r with
      | nil => simp only [intQ]; rw [if_neg hd8, trimZ_cons, if_neg hz]
      | cons x r => simp only [intQ]; rw [if_neg (by omega), trimZ_cons, if_neg hz]
/-! ### PutInt -/
set_option maxHeartbeats 1000000 in
theorem rputint_any (A : Option Addr) (n c : Nat) (bs : List UInt8) (w : World) (hR : RB w A n bs) (hnc : n ≤ c) (hn : n ≤ 1000000000) (hc2 : c ≤ 9223372036854775807) :
    Calls Try.prog 47 #[.slice A n c] w (Fresh w (putI bs)) := by
  go_enter Try.func47, Try.ntmps47
  go_wp2
  go_loop [0] (fun v => ∃ (A' : Option Addr) (n' c' : Nat) (l : List UInt8), v = .slice A' n' c' ∧ RB w A' n' l ∧ n' ≤ c' ∧ c' ≤ c ∧ n' ≤ n ∧ Hid (trimZ bs = trimZ l)) (fun v => match v with | .slice _ k _ => k | _ => 0)
  case atStart => exact ⟨A, n, c, bs, rfl, hR, hnc, Nat.le_refl _, Nat.le_refl _, rfl⟩
  case round =>
    obtain ⟨A', n', c', l, rfl, hR', hnc', hcc, hnn, HT⟩ := hrel
    clear hR
    by_cases h0 : 0 < n'
    · obtain ⟨b, off, d, rfl, hb, hd, hcell⟩ := hR'.at_ (k := 0) h0
      obtain ⟨r, rfl⟩ : ∃ r, l = d :: r := by
        cases l with
        | nil => simp at hd
        | cons x r => simp at hd; subst hd; exact ⟨r, rfl⟩
      have HR := Lib.hid hR'
      have hcell' : w.cell? ⟨b, off, none⟩ = some (.int .u8 (d.toNat : Int)) := hcell
      clear hcell hR' hd
      by_cases hz : d.toNat = 0
      · have t1 : ((d.toNat : Int) == 0) = true := by simp; omega
        have HT' := Lib.hid (HT.out.trans ((trimZ_cons d r).trans (if_pos hz)))
        have hlen := HR.out.1
        by_cases hcap : c' = 1
        · have hn1 : n' = 1 := by omega
          have hr : r = [] := by cases r with
            | nil => rfl
            | cons x y => simp at hlen; omega
          subst hr
          subst hcap
          subst hn1
          clear hz
          go_wp2
          go_round
          case rel => exact ⟨_, 0, _, [], rfl, RB.nil _ _, Nat.zero_le _, by omega, by omega, HT'⟩
          case measure => simp
        · have hRr : Hid (RB w (some ⟨b, off + 1, none⟩) (n' - 1) r) := by
            have h2 := HR.out.2.drop_ 1
            simp only [Option.map_some, Addr.add_lit] at h2
            exact ⟨by simp at hlen; omega, h2⟩
          have hc1 : 1 < c' := by omega
          clear hz hcap
          go_wp2
          go_round
          case rel => exact ⟨_, _, _, r, rfl, hRr.out, by omega, by omega, by omega, HT'⟩
          case measure => simp; omega
      · have t1 : ((d.toNat : Int) == 0) = false := by simp; omega
        have HT' := Lib.hid (HT.out.trans ((trimZ_cons d r).trans (if_neg hz)))
        by_cases h8 : 128 ≤ d.toNat
        · have t2 : decide ((d.toNat : Int) < 128) = false := by simp; omega
          have HP : Hid (putI bs = 0 :: d :: r) := by unfold Hid putI; rw [HT'.out]; simp only; rw [if_pos h8]
          clear hz h8
          go_wp2_with (at_builtin; refine wpList_apn _ _ rfl rfl rfl w.heap.size (some ⟨w.heap.size, 0, none⟩) 1 1 [(0 : UInt8)] rfl (own_lit w [(0 : UInt8)] 1 _ rfl rfl (by omega)) (some ⟨b, off, none⟩) n' c' (d :: r) rfl (HR.out.alloc _) (by omega) (by simp) ?_)
          intro A2 c2 w2 ho2 hg2
          go_wp2
          go_ret
          exact ⟨A2, 1 + n', c2, rfl, by rw [HP.out]; exact ho2, (kp_alloc (Below.refl _ _) _).grown hg2 (by simp) (fun g hg => by injection hg with hg; subst hg; exact Nat.le_refl _)⟩
        · have t2 : decide ((d.toNat : Int) < 128) = true := by simp; omega
          have HP : Hid (putI bs = d :: r) := by unfold Hid putI; rw [HT'.out]; simp only; rw [if_neg h8]
          have C0 := Lib.hid (copy_any (some ⟨b, off, none⟩) n' c' (d :: r) w HR.out (by omega))
          clear hz h8
          go_wp2_with fail
          refine C0.out.mono ?_
          rintro e w' ⟨A1, n1, c1, rfl, ho, hb⟩
          go_wp2
          go_ret
          exact ⟨A1, n1, c1, rfl, by rw [HP.out]; exact ho, hb⟩
    · have hl : l = [] := List.length_eq_zero_iff.1 (by have := hR'.1; omega)
      subst hl
      have hn0 : n' = 0 := by omega
      subst hn0
      have HP : Hid (putI bs = [0]) := by unfold Hid putI; rw [HT.out]; rfl
      have HR := Lib.hid hR'
      clear hR'
      go_wp2_with (at_builtin; refine wpList_apn _ _ rfl rfl rfl w.heap.size (some ⟨w.heap.size, 0, none⟩) 1 1 [(0 : UInt8)] rfl (own_lit w [(0 : UInt8)] 1 _ rfl rfl (by omega)) A' 0 c' [] rfl (HR.out.alloc _) (by omega) (by simp) ?_)
      intro A2 c2 w2 ho2 hg2
      go_wp2
      go_ret
      exact ⟨A2, 1, c2, rfl, by rw [HP.out]; exact ho2, (kp_alloc (Below.refl _ _) _).grown hg2 (by simp) (fun g hg => by injection hg with hg; subst hg; exact Nat.le_refl _)⟩
/-! ### Bits -/
theorem rbits_zero (A : Option Addr) (c : Nat) (w : World) : Calls Try.prog 46 #[.slice A 0 c] w (BitsPost w []) := by
  go_enter Try.func46, Try.ntmps46
  go_wp2
  go_ret3
  exact bits_no rfl (Below.refl _ _)
theorem rbits_bad (b off n c : Nat) (d : UInt8) (bs : List UInt8) (w : World) (hn : 0 < n) (hn2 : n ≤ 1000000000) (h : bitsQ bs = none) (h0 : w.cell? ⟨b, off, none⟩ = some (.int .u8 (d.toNat : Int))) (hd : 7 < d.toNat ∨ (0 < d.toNat ∧ n = 1)) :
    Calls Try.prog 46 #[.slice (some ⟨b, off, none⟩) n c] w (BitsPost w bs) := by
  have H := Lib.hid h
  clear h
  have t0 : ((n : Int) == 0) = false := by simp; omega
  by_cases h7 : 7 < d.toNat
  · have t1 : decide ((7 : Int) < (d.toNat : Int)) = true := by simp; omega
    clear hd h7
    go_enter Try.func46, Try.ntmps46
    go_wp2
    go_ret3
    exact bits_no H.out (Below.refl _ _)
  · have t1 : decide ((7 : Int) < (d.toNat : Int)) = false := by simp; omega
    have t2 : decide (0 < d.toNat) = true := by simp; omega
    have t2b : 0 < d.toNat := by omega
    have t3 : ((n : Int) == 1) = true := by simp; omega
    clear hd h7
    go_enter Try.func46, Try.ntmps46
    go_wp2
    go_ret3
    exact bits_no H.out (Below.refl _ _)
theorem rbits_0 (b off n c : Nat) (q : UInt8) (bs r : List UInt8) (SA : Option Addr) (w : World) (hSA : SA = if c = 1 then some ⟨b, off, none⟩ else some ⟨b, off + 1, none⟩) (hn : 1 ≤ n) (hn2 : n ≤ 1000000000) (hnc : n ≤ c) (hcc : c ≤ 9223372036854775807) (h : bitsQ bs = if q.toNat % 1 ≠ 0 then none else some (r, 0))
    (h0 : w.cell? ⟨b, off, none⟩ = some (.int .u8 0)) (hq : w.cell? ⟨b, off + (n - 1), none⟩ = some (.int .u8 (q.toNat : Int))) (hR : RB w SA (n - 1) r) :
    Calls Try.prog 46 #[.slice (some ⟨b, off, none⟩) n c] w (BitsPost w bs) := by
  have H := Lib.hid h
  clear h
  have t0 : ((n : Int) == 0) = false := by simp; omega
  have hi : ((n : Int) - 1).toNat = n - 1 := by omega
  have hn0 : 0 < n := by omega
  have HN := Lib.hid (H.out.trans (if_neg (by omega)))
  have hm1 : (q.toNat : Int) % 1 = 0 := by omega
  by_cases hc1 : c = 1
  · obtain rfl : n = 1 := by omega
    subst hc1
    rw [if_pos rfl] at hSA
    subst hSA
    have hR : RB w (some ⟨b, off, none⟩) 0 r := hR
    have C0 := Lib.hid (copy_any (some ⟨b, off, none⟩) 0 0 r w hR (by omega))
    clear hR
    go_enter Try.func46, Try.ntmps46
    go_wp2_with fail
    refine C0.out.mono ?_
    rintro e w' ⟨A1, n1, c1, rfl, ho, hb⟩
    go_wp2
    go_ret3
    exact bits_yes HN.out rfl ho hb
  · rw [if_neg hc1] at hSA
    subst hSA
    have hc2 : 1 < c := by omega
    by_cases hn1 : n = 1
    · subst hn1
      have C0 := Lib.hid (copy_any (some ⟨b, off + 1, none⟩) 0 (c - 1) r w hR (by omega))
      clear hR
      go_enter Try.func46, Try.ntmps46
      go_wp2_with fail
      refine C0.out.mono ?_
      rintro e w' ⟨A1, n1, c1, rfl, ho, hb⟩
      go_wp2
      go_ret3
      exact bits_yes HN.out rfl ho hb
    · have t1 : ((n : Int) == 1) = false := by simp; omega
      have C0 := Lib.hid (copy_any (some ⟨b, off + 1, none⟩) (n - 1) (c - 1) r w hR (by omega))
      clear hR
      go_enter Try.func46, Try.ntmps46
      go_wp2_with fail
      refine C0.out.mono ?_
      rintro e w' ⟨A1, n1, c1, rfl, ho, hb⟩
      go_wp2
      go_ret3
      exact bits_yes HN.out rfl ho hb
theorem rbits_1 (b off n c : Nat) (q : UInt8) (bs r : List UInt8) (SA : Option Addr) (w : World) (hSA : SA = if c = 1 then some ⟨b, off, none⟩ else some ⟨b, off + 1, none⟩) (hn : 2 ≤ n) (hn2 : n ≤ 1000000000) (hnc : n ≤ c) (hcc : c ≤ 9223372036854775807) (h : bitsQ bs = if q.toNat % 2 ≠ 0 then none else some (r, 1))
    (h0 : w.cell? ⟨b, off, none⟩ = some (.int .u8 1)) (hq : w.cell? ⟨b, off + (n - 1), none⟩ = some (.int .u8 (q.toNat : Int))) (hR : RB w SA (n - 1) r) :
    Calls Try.prog 46 #[.slice (some ⟨b, off, none⟩) n c] w (BitsPost w bs) := by
  have H := Lib.hid h
  clear h
  have t0 : ((n : Int) == 0) = false := by simp; omega
  have hi : ((n : Int) - 1).toNat = n - 1 := by omega
  have hn0 : 0 < n := by omega
  have t1 : ((n : Int) == 1) = false := by simp; omega
  by_cases hm : q.toNat % 2 = 0
  · have hm2 : ((q.toNat : Int) % 2 != 0) = false := by simp; omega
    have HN := Lib.hid (H.out.trans (if_neg (by omega)))
    rw [if_neg (by omega)] at hSA
    subst hSA
    have hc2 : 1 < c := by omega
    clear hm
    have C0 := Lib.hid (copy_any (some ⟨b, off + 1, none⟩) (n - 1) (c - 1) r w hR (by omega))
    clear hR
    go_enter Try.func46, Try.ntmps46
    go_wp2_with fail
    refine C0.out.mono ?_
    rintro e w' ⟨A1, n1, c1, rfl, ho, hb⟩
    go_wp2
    go_ret3
    exact bits_yes HN.out rfl ho hb
  · have hm2 : ((q.toNat : Int) % 2 != 0) = true := by simp; omega
    have HN := Lib.hid (H.out.trans (if_pos (by omega)))
    clear hm
    go_enter Try.func46, Try.ntmps46
    go_wp2
    go_ret3
    exact bits_no HN.out (Below.refl _ _)
theorem rbits_2 (b off n c : Nat) (q : UInt8) (bs r : List UInt8) (SA : Option Addr) (w : World) (hSA : SA = if c = 1 then some ⟨b, off, none⟩ else some ⟨b, off + 1, none⟩) (hn : 2 ≤ n) (hn2 : n ≤ 1000000000) (hnc : n ≤ c) (hcc : c ≤ 9223372036854775807) (h : bitsQ bs = if q.toNat % 4 ≠ 0 then none else some (r, 2))
    (h0 : w.cell? ⟨b, off, none⟩ = some (.int .u8 2)) (hq : w.cell? ⟨b, off + (n - 1), none⟩ = some (.int .u8 (q.toNat : Int))) (hR : RB w SA (n - 1) r) :
    Calls Try.prog 46 #[.slice (some ⟨b, off, none⟩) n c] w (BitsPost w bs) := by
  have H := Lib.hid h
  clear h
  have t0 : ((n : Int) == 0) = false := by simp; omega
  have hi : ((n : Int) - 1).toNat = n - 1 := by omega
  have hn0 : 0 < n := by omega
  have t1 : ((n : Int) == 1) = false := by simp; omega
  by_cases hm : q.toNat % 4 = 0
  · have hm2 : ((q.toNat : Int) % 4 != 0) = false := by simp; omega
    have HN := Lib.hid (H.out.trans (if_neg (by omega)))
    rw [if_neg (by omega)] at hSA
    subst hSA
    have hc2 : 1 < c := by omega
    clear hm
    have C0 := Lib.hid (copy_any (some ⟨b, off + 1, none⟩) (n - 1) (c - 1) r w hR (by omega))
    clear hR
    go_enter Try.func46, Try.ntmps46
    go_wp2_with fail
    refine C0.out.mono ?_
    rintro e w' ⟨A1, n1, c1, rfl, ho, hb⟩
    go_wp2
    go_ret3
    exact bits_yes HN.out rfl ho hb
  · have hm2 : ((q.toNat : Int) % 4 != 0) = true := by simp; omega
    have HN := Lib.hid (H.out.trans (if_pos (by omega)))
    clear hm
    go_enter Try.func46, Try.ntmps46
    go_wp2
    go_ret3
    exact bits_no HN.out (Below.refl _ _)
theorem rbits_3 (b off n c : Nat) (q : UInt8) (bs r : List UInt8) (SA : Option Addr) (w : World) (hSA : SA = if c = 1 then some ⟨b, off, none⟩ else some ⟨b, off + 1, none⟩) (hn : 2 ≤ n) (hn2 : n ≤ 1000000000) (hnc : n ≤ c) (hcc : c ≤ 9223372036854775807) (h : bitsQ bs = if q.toNat % 8 ≠ 0 then none else some (r, 3))
    (h0 : w.cell? ⟨b, off, none⟩ = some (.int .u8 3)) (hq : w.cell? ⟨b, off + (n - 1), none⟩ = some (.int .u8 (q.toNat : Int))) (hR : RB w SA (n - 1) r) :
    Calls Try.prog 46 #[.slice (some ⟨b, off, none⟩) n c] w (BitsPost w bs) := by
  have H := Lib.hid h
  clear h
  have t0 : ((n : Int) == 0) = false := by simp; omega
  have hi : ((n : Int) - 1).toNat = n - 1 := by omega
  have hn0 : 0 < n := by omega
  have t1 : ((n : Int) == 1) = false := by simp; omega
  by_cases hm : q.toNat % 8 = 0
  · have hm2 : ((q.toNat : Int) % 8 != 0) = false := by simp; omega
    have HN := Lib.hid (H.out.trans (if_neg (by omega)))
    rw [if_neg (by omega)] at hSA
    subst hSA
    have hc2 : 1 < c := by omega
    clear hm
    have C0 := Lib.hid (copy_any (some ⟨b, off + 1, none⟩) (n - 1) (c - 1) r w hR (by omega))
    clear hR
    go_enter Try.func46, Try.ntmps46
    go_wp2_with fail
    refine C0.out.mono ?_
    rintro e w' ⟨A1, n1, c1, rfl, ho, hb⟩
    go_wp2
    go_ret3
    exact bits_yes HN.out rfl ho hb
  · have hm2 : ((q.toNat : Int) % 8 != 0) = true := by simp; omega
    have HN := Lib.hid (H.out.trans (if_pos (by omega)))
    clear hm
    go_enter Try.func46, Try.ntmps46
    go_wp2
    go_ret3
    exact bits_no HN.out (Below.refl _ _)
theorem rbits_4 (b off n c : Nat) (q : UInt8) (bs r : List UInt8) (SA : Option Addr) (w : World) (hSA : SA = if c = 1 then some ⟨b, off, none⟩ else some ⟨b, off + 1, none⟩) (hn : 2 ≤ n) (hn2 : n ≤ 1000000000) (hnc : n ≤ c) (hcc : c ≤ 9223372036854775807) (h : bitsQ bs = if q.toNat % 16 ≠ 0 then none else some (r, 4))
    (h0 : w.cell? ⟨b, off, none⟩ = some (.int .u8 4)) (hq : w.cell? ⟨b, off + (n - 1), none⟩ = some (.int .u8 (q.toNat : Int))) (hR : RB w SA (n - 1) r) :
    Calls Try.prog 46 #[.slice (some ⟨b, off, none⟩) n c] w (BitsPost w bs) := by
  have H := Lib.hid h
  clear h
  have t0 : ((n : Int) == 0) = false := by simp; omega
  have hi : ((n : Int) - 1).toNat = n - 1 := by omega
  have hn0 : 0 < n := by omega
  have t1 : ((n : Int) == 1) = false := by simp; omega
  by_cases hm : q.toNat % 16 = 0
  · have hm2 : ((q.toNat : Int) % 16 != 0) = false := by simp; omega
    have HN := Lib.hid (H.out.trans (if_neg (by omega)))
    rw [if_neg (by omega)] at hSA
    subst hSA
    have hc2 : 1 < c := by omega
    clear hm
    have C0 := Lib.hid (copy_any (some ⟨b, off + 1, none⟩) (n - 1) (c - 1) r w hR (by omega))
    clear hR
    go_enter Try.func46, Try.ntmps46
    go_wp2_with fail
    refine C0.out.mono ?_
    rintro e w' ⟨A1, n1, c1, rfl, ho, hb⟩
    go_wp2
    go_ret3
    exact bits_yes HN.out rfl ho hb
  · have hm2 : ((q.toNat : Int) % 16 != 0) = true := by simp; omega
    have HN := Lib.hid (H.out.trans (if_pos (by omega)))
    clear hm
    go_enter Try.func46, Try.ntmps46
    go_wp2
    go_ret3
    exact bits_no HN.out (Below.refl _ _)
theorem rbits_5 (b off n c : Nat) (q : UInt8) (bs r : List UInt8) (SA : Option Addr) (w : World) (hSA : SA = if c = 1 then some ⟨b, off, none⟩ else some ⟨b, off + 1, none⟩) (hn : 2 ≤ n) (hn2 : n ≤ 1000000000) (hnc : n ≤ c) (hcc : c ≤ 9223372036854775807) (h : bitsQ bs = if q.toNat % 32 ≠ 0 then none else some (r, 5))
    (h0 : w.cell? ⟨b, off, none⟩ = some (.int .u8 5)) (hq : w.cell? ⟨b, off + (n - 1), none⟩ = some (.int .u8 (q.toNat : Int))) (hR : RB w SA (n - 1) r) :
    Calls Try.prog 46 #[.slice (some ⟨b, off, none⟩) n c] w (BitsPost w bs) := by
  have H := Lib.hid h
  clear h
  have t0 : ((n : Int) == 0) = false := by simp; omega
  have hi : ((n : Int) - 1).toNat = n - 1 := by omega
  have hn0 : 0 < n := by omega
  have t1 : ((n : Int) == 1) = false := by simp; omega
  by_cases hm : q.toNat % 32 = 0
  · have hm2 : ((q.toNat : Int) % 32 != 0) = false := by simp; omega
    have HN := Lib.hid (H.out.trans (if_neg (by omega)))
    rw [if_neg (by omega)] at hSA
    subst hSA
    have hc2 : 1 < c := by omega
    clear hm
    have C0 := Lib.hid (copy_any (some ⟨b, off + 1, none⟩) (n - 1) (c - 1) r w hR (by omega))
    clear hR
    go_enter Try.func46, Try.ntmps46
    go_wp2_with fail
    refine C0.out.mono ?_
    rintro e w' ⟨A1, n1, c1, rfl, ho, hb⟩
    go_wp2
    go_ret3
    exact bits_yes HN.out rfl ho hb
  · have hm2 : ((q.toNat : Int) % 32 != 0) = true := by simp; omega
    have HN := Lib.hid (H.out.trans (if_pos (by omega)))
    clear hm
    go_enter Try.func46, Try.ntmps46
    go_wp2
    go_ret3
    exact bits_no HN.out (Below.refl _ _)
theorem rbits_6 (b off n c : Nat) (q : UInt8) (bs r : List UInt8) (SA : Option Addr) (w : World) (hSA : SA = if c = 1 then some ⟨b, off, none⟩ else some ⟨b, off + 1, none⟩) (hn : 2 ≤ n) (hn2 : n ≤ 1000000000) (hnc : n ≤ c) (hcc : c ≤ 9223372036854775807) (h : bitsQ bs = if q.toNat % 64 ≠ 0 then none else some (r, 6))
    (h0 : w.cell? ⟨b, off, none⟩ = some (.int .u8 6)) (hq : w.cell? ⟨b, off + (n - 1), none⟩ = some (.int .u8 (q.toNat : Int))) (hR : RB w SA (n - 1) r) :
    Calls Try.prog 46 #[.slice (some ⟨b, off, none⟩) n c] w (BitsPost w bs) := by
  have H := Lib.hid h
  clear h
  have t0 : ((n : Int) == 0) = false := by simp; omega
  have hi : ((n : Int) - 1).toNat = n - 1 := by omega
  have hn0 : 0 < n := by omega
  have t1 : ((n : Int) == 1) = false := by simp; omega
  by_cases hm : q.toNat % 64 = 0
  · have hm2 : ((q.toNat : Int) % 64 != 0) = false := by simp; omega
    have HN := Lib.hid (H.out.trans (if_neg (by omega)))
    rw [if_neg (by omega)] at hSA
    subst hSA
    have hc2 : 1 < c := by omega
    clear hm
    have C0 := Lib.hid (copy_any (some ⟨b, off + 1, none⟩) (n - 1) (c - 1) r w hR (by omega))
    clear hR
    go_enter Try.func46, Try.ntmps46
    go_wp2_with fail
    refine C0.out.mono ?_
    rintro e w' ⟨A1, n1, c1, rfl, ho, hb⟩
    go_wp2
    go_ret3
    exact bits_yes HN.out rfl ho hb
  · have hm2 : ((q.toNat : Int) % 64 != 0) = true := by simp; omega
    have HN := Lib.hid (H.out.trans (if_pos (by omega)))
    clear hm
    go_enter Try.func46, Try.ntmps46
    go_wp2
    go_ret3
    exact bits_no HN.out (Below.refl _ _)
theorem rbits_7 (b off n c : Nat) (q : UInt8) (bs r : List UInt8) (SA : Option Addr) (w : World) (hSA : SA = if c = 1 then some ⟨b, off, none⟩ else some ⟨b, off + 1, none⟩) (hn : 2 ≤ n) (hn2 : n ≤ 1000000000) (hnc : n ≤ c) (hcc : c ≤ 9223372036854775807) (h : bitsQ bs = if q.toNat % 128 ≠ 0 then none else some (r, 7))
    (h0 : w.cell? ⟨b, off, none⟩ = some (.int .u8 7)) (hq : w.cell? ⟨b, off + (n - 1), none⟩ = some (.int .u8 (q.toNat : Int))) (hR : RB w SA (n - 1) r) :
    Calls Try.prog 46 #[.slice (some ⟨b, off, none⟩) n c] w (BitsPost w bs) := by
  have H := Lib.hid h
  clear h
  have t0 : ((n : Int) == 0) = false := by simp; omega
  have hi : ((n : Int) - 1).toNat = n - 1 := by omega
  have hn0 : 0 < n := by omega
  have t1 : ((n : Int) == 1) = false := by simp; omega
  by_cases hm : q.toNat % 128 = 0
  · have hm2 : ((q.toNat : Int) % 128 != 0) = false := by simp; omega
    have HN := Lib.hid (H.out.trans (if_neg (by omega)))
    rw [if_neg (by omega)] at hSA
    subst hSA
    have hc2 : 1 < c := by omega
    clear hm
    have C0 := Lib.hid (copy_any (some ⟨b, off + 1, none⟩) (n - 1) (c - 1) r w hR (by omega))
    clear hR
    go_enter Try.func46, Try.ntmps46
    go_wp2_with fail
    refine C0.out.mono ?_
    rintro e w' ⟨A1, n1, c1, rfl, ho, hb⟩
    go_wp2
    go_ret3
    exact bits_yes HN.out rfl ho hb
  · have hm2 : ((q.toNat : Int) % 128 != 0) = true := by simp; omega
    have HN := Lib.hid (H.out.trans (if_pos (by omega)))
    clear hm
    go_enter Try.func46, Try.ntmps46
    go_wp2
    go_ret3
    exact bits_no HN.out (Below.refl _ _)
theorem rbits_any (A : Option Addr) (n c : Nat) (bs : List UInt8) (w : World) (hR : RB w A n bs) (hnc : n ≤ c) (hn : n ≤ 1000000000) (hcc : c ≤ 9223372036854775807) :
    Calls Try.prog 46 #[.slice A n c] w (BitsPost w bs) := by
  have hl := hR.1
  match bs, hl with
  | [], hl =>
    obtain rfl : n = 0 := by simpa using hl.symm
    exact rbits_zero A c w
  | d :: r, hl =>
    have hl : r.length + 1 = n := by simpa using hl
    obtain ⟨b, off, d', rfl, _, hd, c0⟩ := hR.at_ (k := 0) (by omega)
    simp at hd
    subst hd
    have c0 : w.cell? ⟨b, off, none⟩ = some (.int .u8 (d.toNat : Int)) := c0
    have hcut := rb_cut1 hR hnc (show 1 ≤ n by omega)
    have hcut : RB w (if c = 1 then some ⟨b, off, none⟩ else some ⟨b, off + 1, none⟩) (n - 1) r := hcut
    by_cases hbad : 7 < d.toNat ∨ (0 < d.toNat ∧ n = 1)
    · refine rbits_bad b off n c d _ w (by omega) hn ?_ c0 hbad
      simp only [bitsQ]
      rw [if_pos (by rcases hbad with h | ⟨h, h2⟩; exact .inl h; exact .inr ⟨h, List.length_eq_zero_iff.1 (by omega)⟩)]
    obtain ⟨b', off', q, e', _, hq, c1⟩ := hR.at_ (k := n - 1) (by omega)
    cases e'
    have hlast : (d :: r).getLastD 0 = q := by
      rw [List.getLastD_eq_getLast?, List.getLast?_eq_getElem?]
      simp only [List.length_cons, hl]
      rw [hq]; rfl
    have hq2 : bitsQ (d :: r) = if q.toNat % 2 ^ d.toNat ≠ 0 then none else some (r, d.toNat) := by
      simp only [bitsQ]
      rw [if_neg (by rintro (h | ⟨h, h2⟩); exact hbad (.inl h); subst h2; exact hbad (.inr ⟨h, by simpa using hl.symm⟩)), hlast]
    generalize hD : d.toNat = D at *
    have hD7 : D = 0 ∨ D = 1 ∨ D = 2 ∨ D = 3 ∨ D = 4 ∨ D = 5 ∨ D = 6 ∨ D = 7 := by omega
    rcases hD7 with rfl | rfl | rfl | rfl | rfl | rfl | rfl | rfl
    · exact rbits_0 b off n c q (d :: r) r _ w rfl (by omega) hn hnc hcc hq2 c0 c1 hcut
    · exact rbits_1 b off n c q (d :: r) r _ w rfl (by omega) hn hnc hcc hq2 c0 c1 hcut
    · exact rbits_2 b off n c q (d :: r) r _ w rfl (by omega) hn hnc hcc hq2 c0 c1 hcut
    · exact rbits_3 b off n c q (d :: r) r _ w rfl (by omega) hn hnc hcc hq2 c0 c1 hcut
    · exact rbits_4 b off n c q (d :: r) r _ w rfl (by omega) hn hnc hcc hq2 c0 c1 hcut
    · exact rbits_5 b off n c q (d :: r) r _ w rfl (by omega) hn hnc hcc hq2 c0 c1 hcut
    · exact rbits_6 b off n c q (d :: r) r _ w rfl (by omega) hn hnc hcc hq2 c0 c1 hcut
    · exact rbits_7 b off n c q (d :: r) r _ w rfl (by omega) hn hnc hcc hq2 c0 c1 hcut
end Go.Proofs.Ytlkiobngafjeiaa
