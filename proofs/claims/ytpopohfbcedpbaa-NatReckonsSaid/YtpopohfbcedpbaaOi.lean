/-
  nat: the statement NatReckons.
-/
import Derived.Test.YtpopohfbcedpbaaOh
import Derived.Test.YtpopohfbcedpbaaOc
namespace Go.Proofs.Ytpopohfbcedpbaa
open Go.RowKit Go
set_option linter.unusedVariables false
set_option linter.unusedSimpArgs false
set_option maxRecDepth 100000
/-- A slice's header as a value. -/
def sv (s : Option Addr × Nat × Nat) : Value := .slice s.1 s.2.1 s.2.2
/-- Two twins, a row of slices of limbs, and what they lie in. -/
structure FV (w : World) (G H P F : Nat) (x y : List Nat) (S : List (Option Addr × Nat × Nat)) (wl : World) : Prop where
  s : BlkU wl G (x ++ [7, 9])
  t : BlkU wl H (y ++ [7, 9])
  f : wl.heap[F]? = some (.cells (S.map sv).toArray 22 (0, 0))
  own : ∀ (i : Nat) (e : Option Addr × Nat × Nat), S[i]? = some e → e.2.1 = 0 ∨ ∃ g L, e.1 = some ⟨g, 0, none⟩ ∧ P ≤ g ∧ BlkU wl g L ∧ e.2.1 ≤ L.length
  bel : Below w.heap.size w wl
theorem FV.cell {w wl : World} {G H P F : Nat} {x y : List Nat} {S : List (Option Addr × Nat × Nat)} (h : FV w G H P F x y S wl) {i : Nat} {e : Option Addr × Nat × Nat} (hi : S[i]? = some e) : wl.cell? ⟨F, i, none⟩ = some (.slice e.1 e.2.1 e.2.2) := by
  rw [Lib.cell_of_heap h.f i]
  have : ((S.map sv).toArray)[i]? = some (sv e) := by rw [List.getElem?_toArray, List.getElem?_map, hi]; rfl
  exact this
theorem FV.ne {w wl : World} {G H P F : Nat} {x y : List Nat} {S : List (Option Addr × Nat × Nat)} (h : FV w G H P F x y S wl) {g : Nat} {L : List Nat} (hg : BlkU wl g L) : F ≠ g := by
  intro e
  subst e
  have h1 := h.f.symm.trans hg
  injection h1 with h1
  injection h1 with h1 h2
  exact absurd h2 (by decide)
theorem FV.set {w wl : World} {G H P F : Nat} {x y : List Nat} {S : List (Option Addr × Nat × Nat)} (h : FV w G H P F x y S wl) {g : Nat} {L : List Nat} (hg : BlkU wl g L) (hP : P ≤ g) (hG : G < P) (hH : H < P) (hw : w.heap.size ≤ P) (k v : Nat) : FV w G H P F x y S (wl.setCell ⟨g, k, none⟩ (.int .u32 (v : Int))) := by
  refine ⟨h.s.far (by omega), h.t.far (by omega), has_set h.f (h.ne hg), fun i e he => ?_, kp_set h.bel (by omega)⟩
  rcases h.own i e he with h0 | ⟨g2, L2, e1, e2, e3, e4⟩
  · exact .inl h0
  · refine .inr ?_
    by_cases hgg : g2 = g
    · subst hgg
      exact ⟨g2, L2.set k v, e1, e2, e3.set k v, by rw [List.length_set]; exact e4⟩
    · exact ⟨g2, L2, e1, e2, e3.far hgg, e4⟩
theorem own_of {w : World} {P : Nat} {A : Option Addr} {n : Nat} {l : List Nat} (h : NumS w P A n l) : n = 0 ∨ ∃ g L, A = some ⟨g, 0, none⟩ ∧ P ≤ g ∧ BlkU w g L ∧ n ≤ L.length := by
  obtain ⟨h1, h2, h3⟩ := h
  rcases h3 with ⟨h3, h4⟩ | ⟨g, L, e, h4, h5, h6⟩
  · subst h4; exact .inl h1.symm
  · refine .inr ⟨g, L, e, h4, h5, ?_⟩
    rw [← h1, ← h6, List.length_take]; omega
set_option maxHeartbeats 32000000 in
theorem reckons_walk (A : Option Addr) (n0 c0 : Nat) (x : List Nat) (B : Option Addr) (n1 c1 : Nat) (y : List Nat) (w : World) (h0 : IsUs w A n0 c0 x) (h1 : IsUs w B n1 c1 y) :
    Calls Try.prog 4 #[.slice A n0 c0, .slice B n1 c1] w fun e w' => e = .returned (.bool true) ∧ Below w.heap.size w w' := by
  have hn0 : n0 ≤ 9223372036854775807 := by have := h0.le; have h := h0.max; unfold maxLen at h; omega
  have hn1 : n1 ≤ 9223372036854775807 := by have := h1.le; have h := h1.max; unfold maxLen at h; omega
  have le0 := h0.le
  have mx0 : c0 ≤ 9223372036854775807 := by have h := h0.max; unfold maxLen at h; exact h
  have le1 := h1.le
  have mx1 : c1 ≤ 9223372036854775807 := by have h := h1.max; unfold maxLen at h; exact h
  have VA := vast_any A B n0 c0 n1 c1 w hn0 hn1
  by_cases hv : 300 < n0 ∨ 300 < n1
  · have hvv : (decide (300 < n0) || decide (300 < n1)) = true := by simpa using hv
    rw [hvv] at VA
    have VA := Lib.hid VA
    clear h0 h1 hv hvv
    go_enter Try.func4, Try.ntmps4
    go_wp2_with fail
    refine VA.out.mono ?_
    rintro e w' ⟨rfl, rfl⟩
    clear VA
    go_wp2_with fail
    refine (works_any w).mono ?_
    rintro e w1 ⟨rfl, hb⟩
    have HB := Lib.hid hb
    clear hb
    go_wp2
    go_ret
    exact ⟨rfl, HB.out⟩
  · have hv0 : n0 ≤ 300 := by omega
    have hv1 : n1 ≤ 300 := by omega
    have hvv : (decide (300 < n0) || decide (300 < n1)) = false := by
      rw [decide_eq_false (show ¬ 300 < n0 by omega), decide_eq_false (show ¬ 300 < n1 by omega)]; rfl
    rw [hvv] at VA
    have VA := Lib.hid VA
    have IX := Lib.hid h0.ru
    have IY := Lib.hid h1.ru
    have lx := h0.ru.len
    have ly := h1.ru.len
    have HL := Lib.hid (And.intro lx ly)
    obtain ⟨⟨qa, ea⟩, hq⟩ : ∃ q, addQ x y = q := ⟨_, rfl⟩
    have QA := Lib.hid hq
    clear hq
    obtain ⟨⟨qs, es⟩, hq⟩ : ∃ q, subQ x y = q := ⟨_, rfl⟩
    have QS := Lib.hid hq
    clear hq
    obtain ⟨⟨qm, em⟩, hq⟩ : ∃ q, mulQ x y = q := ⟨_, rfl⟩
    have QM := Lib.hid hq
    clear hq
    obtain ⟨⟨⟨qd, qr⟩, ed⟩, hq⟩ : ∃ q, divQ x y = q := ⟨_, rfl⟩
    have QD := Lib.hid hq
    clear hq
    obtain ⟨cz, hq⟩ : ∃ q, cmpZ x y = q := ⟨_, rfl⟩
    have QC := Lib.hid hq
    clear hq
    have t1 : ((ea : Int) != (ea : Int)) = false := by simp
    have t2 : ((es : Int) != (es : Int)) = false := by simp
    have t3 : ((em : Int) != (em : Int)) = false := by simp
    have t4 : ((ed : Int) != (ed : Int)) = false := by simp
    have t5 : (cz != cz) = false := by simp
    clear h0 h1 hv hvv lx ly
    go_enter Try.func4, Try.ntmps4
    go_wp2_with fail
    refine VA.out.mono ?_
    rintro e w' ⟨rfl, rfl⟩
    clear VA
    go_wp2_with fail
    refine (twin_any A n0 c0 x w IX.out hv0).mono ?_
    rintro e w1 ⟨rfl, hk, hb⟩
    obtain ⟨G, hG⟩ : ∃ G, w.heap.size = G := ⟨_, rfl⟩
    rw [hG] at hk ⊢
    have HS := Lib.hid hk
    have HB := Lib.hid hb
    have hGs := Lib.hid hG
    clear hk hb hG
    go_wp2_with fail
    refine (twin_any B n1 c1 y w1 (IY.out.below HB.out) hv1).mono ?_
    rintro e w2 ⟨rfl, hk, hb⟩
    obtain ⟨H, hH⟩ : ∃ H, w1.heap.size = H := ⟨_, rfl⟩
    obtain ⟨P, hP⟩ : ∃ P, w2.heap.size = P := ⟨_, rfl⟩
    have hHP : H < P := by rw [← hP]; exact (hH ▸ hk : BlkU w2 H (y ++ [7, 9])).lt
    have hGP : G < P := by have := HS.out.lt; omega
    have hGH : G < H := by have := HS.out.lt; omega
    rw [hH] at hk ⊢
    have HT := Lib.hid hk
    replace HS := Lib.hid (HS.out.below hb)
    replace HB := Lib.hid (kp_call HB.out hb)
    have HP : Hid (P ≤ w2.heap.size) := by unfold Hid; omega
    have hwP : Hid (w.heap.size ≤ P) := by unfold Hid; have := hGs.out; omega
    clear hk hb hH hP
    have C := add_any (some ⟨G, 0, none⟩) (some ⟨H, 0, none⟩) n0 (n0 + 2) n1 (n1 + 2) x y w2 (twin_ru HS.out HL.out.1 IX.out.lim) (twin_ru HT.out HL.out.2 IY.out.lim) hv0 hv1
    rw [QA.out] at C
    have C := Lib.hid C
    go_wp2_with fail
    refine C.out.mono ?_
    rintro e w3 ⟨A11, k11, d11, rfl, s11, l11, m11, p11, hb⟩
    have s11 := s11.lower HP.out
    replace HS := Lib.hid (HS.out.below hb)
    replace HT := Lib.hid (HT.out.below hb)
    replace HB := Lib.hid (kp_call HB.out hb)
    replace HP : Hid (P ≤ w3.heap.size) := by have h1 := HP.out; have h2 := hb.size; unfold Hid; omega
    have R11 := Lib.hid s11
    clear C s11 hb
    have C := dAdd_any A B n0 c0 n1 c1 x y w3 (IX.out.below HB.out) (IY.out.below HB.out) hv0 hv1 ⟨le0, mx0⟩ ⟨le1, mx1⟩
    rw [QA.out] at C
    have C := Lib.hid C
    go_wp2_with fail
    refine C.out.mono ?_
    rintro e w4 ⟨A21, k21, d21, rfl, s21, l21, m21, p21, hb⟩
    replace HS := Lib.hid (HS.out.below hb)
    replace HT := Lib.hid (HT.out.below hb)
    replace R11 := Lib.hid (R11.out.below hb)
    replace HB := Lib.hid (kp_call HB.out hb)
    replace HP : Hid (P ≤ w4.heap.size) := by have h1 := HP.out; have h2 := hb.size; unfold Hid; omega
    have R21 := Lib.hid s21
    clear C s21 hb
    have C := sub_any (some ⟨G, 0, none⟩) (some ⟨H, 0, none⟩) n0 (n0 + 2) n1 (n1 + 2) x y w4 (twin_ru HS.out HL.out.1 IX.out.lim) (twin_ru HT.out HL.out.2 IY.out.lim) hv0 hv1
    rw [QS.out] at C
    have C := Lib.hid C
    go_wp2_with fail
    refine C.out.mono ?_
    rintro e w5 ⟨A12, k12, d12, rfl, s12, l12, m12, p12, hb⟩
    have s12 := s12.lower HP.out
    replace HS := Lib.hid (HS.out.below hb)
    replace HT := Lib.hid (HT.out.below hb)
    replace R11 := Lib.hid (R11.out.below hb)
    replace R21 := Lib.hid (R21.out.below hb)
    replace HB := Lib.hid (kp_call HB.out hb)
    replace HP : Hid (P ≤ w5.heap.size) := by have h1 := HP.out; have h2 := hb.size; unfold Hid; omega
    have R12 := Lib.hid s12
    clear C s12 hb
    have C := dSub_any A B n0 c0 n1 c1 x y w5 (IX.out.below HB.out) (IY.out.below HB.out) hv0 hv1 ⟨le0, mx0⟩ ⟨le1, mx1⟩
    rw [QS.out] at C
    have C := Lib.hid C
    go_wp2_with fail
    refine C.out.mono ?_
    rintro e w6 ⟨A22, k22, d22, rfl, s22, l22, m22, p22, hb⟩
    replace HS := Lib.hid (HS.out.below hb)
    replace HT := Lib.hid (HT.out.below hb)
    replace R11 := Lib.hid (R11.out.below hb)
    replace R21 := Lib.hid (R21.out.below hb)
    replace R12 := Lib.hid (R12.out.below hb)
    replace HB := Lib.hid (kp_call HB.out hb)
    replace HP : Hid (P ≤ w6.heap.size) := by have h1 := HP.out; have h2 := hb.size; unfold Hid; omega
    have R22 := Lib.hid s22
    clear C s22 hb
    have C := mul_any (some ⟨G, 0, none⟩) (some ⟨H, 0, none⟩) n0 (n0 + 2) n1 (n1 + 2) x y w6 (twin_ru HS.out HL.out.1 IX.out.lim) (twin_ru HT.out HL.out.2 IY.out.lim) hv0 hv1
    rw [QM.out] at C
    have C := Lib.hid C
    go_wp2_with fail
    refine C.out.mono ?_
    rintro e w7 ⟨A13, k13, d13, rfl, s13, l13, m13, p13, hb⟩
    have s13 := s13.lower HP.out
    replace HS := Lib.hid (HS.out.below hb)
    replace HT := Lib.hid (HT.out.below hb)
    replace R11 := Lib.hid (R11.out.below hb)
    replace R21 := Lib.hid (R21.out.below hb)
    replace R12 := Lib.hid (R12.out.below hb)
    replace R22 := Lib.hid (R22.out.below hb)
    replace HB := Lib.hid (kp_call HB.out hb)
    replace HP : Hid (P ≤ w7.heap.size) := by have h1 := HP.out; have h2 := hb.size; unfold Hid; omega
    have R13 := Lib.hid s13
    clear C s13 hb
    have C := dMul_any A B n0 c0 n1 c1 x y w7 (IX.out.below HB.out) (IY.out.below HB.out) hv0 hv1 ⟨le0, mx0⟩ ⟨le1, mx1⟩
    rw [QM.out] at C
    have C := Lib.hid C
    go_wp2_with fail
    refine C.out.mono ?_
    rintro e w8 ⟨A23, k23, d23, rfl, s23, l23, m23, p23, hb⟩
    replace HS := Lib.hid (HS.out.below hb)
    replace HT := Lib.hid (HT.out.below hb)
    replace R11 := Lib.hid (R11.out.below hb)
    replace R21 := Lib.hid (R21.out.below hb)
    replace R12 := Lib.hid (R12.out.below hb)
    replace R22 := Lib.hid (R22.out.below hb)
    replace R13 := Lib.hid (R13.out.below hb)
    replace HB := Lib.hid (kp_call HB.out hb)
    replace HP : Hid (P ≤ w8.heap.size) := by have h1 := HP.out; have h2 := hb.size; unfold Hid; omega
    have R23 := Lib.hid s23
    clear C s23 hb
    have C := div_any (some ⟨G, 0, none⟩) (some ⟨H, 0, none⟩) n0 (n0 + 2) n1 (n1 + 2) x y w8 (twin_ru HS.out HL.out.1 IX.out.lim) (twin_ru HT.out HL.out.2 IY.out.lim) hv0 hv1
    rw [QD.out] at C
    have C := Lib.hid C
    go_wp2_with fail
    refine C.out.mono ?_
    rintro e w9 ⟨A14, k14, d14, A15, k15, d15, rfl, s14, l14, m14, p14, s15, l15, m15, p15, hb⟩
    have s14 := s14.lower HP.out
    have s15 := s15.lower HP.out
    replace HS := Lib.hid (HS.out.below hb)
    replace HT := Lib.hid (HT.out.below hb)
    replace R11 := Lib.hid (R11.out.below hb)
    replace R21 := Lib.hid (R21.out.below hb)
    replace R12 := Lib.hid (R12.out.below hb)
    replace R22 := Lib.hid (R22.out.below hb)
    replace R13 := Lib.hid (R13.out.below hb)
    replace R23 := Lib.hid (R23.out.below hb)
    replace HB := Lib.hid (kp_call HB.out hb)
    replace HP : Hid (P ≤ w9.heap.size) := by have h1 := HP.out; have h2 := hb.size; unfold Hid; omega
    have R14 := Lib.hid s14
    have R15 := Lib.hid s15
    clear C s14 s15 hb
    have C := dDiv_any A B n0 c0 n1 c1 x y w9 (IX.out.below HB.out) (IY.out.below HB.out) hv0 hv1
    rw [QD.out] at C
    have C := Lib.hid C
    go_wp2_with fail
    refine C.out.mono ?_
    rintro e w10 ⟨A24, k24, d24, A25, k25, d25, rfl, s24, l24, m24, p24, s25, l25, m25, p25, hb⟩
    replace HS := Lib.hid (HS.out.below hb)
    replace HT := Lib.hid (HT.out.below hb)
    replace R11 := Lib.hid (R11.out.below hb)
    replace R21 := Lib.hid (R21.out.below hb)
    replace R12 := Lib.hid (R12.out.below hb)
    replace R22 := Lib.hid (R22.out.below hb)
    replace R13 := Lib.hid (R13.out.below hb)
    replace R23 := Lib.hid (R23.out.below hb)
    replace R14 := Lib.hid (R14.out.below hb)
    replace R15 := Lib.hid (R15.out.below hb)
    replace HB := Lib.hid (kp_call HB.out hb)
    replace HP : Hid (P ≤ w10.heap.size) := by have h1 := HP.out; have h2 := hb.size; unfold Hid; omega
    have R24 := Lib.hid s24
    have R25 := Lib.hid s25
    clear C s24 s25 hb
    go_wp2_with fail
    refine (same_t A11 A21 k11 d11 k21 d21 _ _ w10 R11.out.ru R21.out (by omega) (by omega) rfl).mono ?_
    rintro e w11 ⟨rfl, hb⟩
    clear R21
    replace HS := Lib.hid (HS.out.below hb)
    replace HT := Lib.hid (HT.out.below hb)
    replace R11 := Lib.hid (R11.out.below hb)
    replace R12 := Lib.hid (R12.out.below hb)
    replace R22 := Lib.hid (R22.out.below hb)
    replace R13 := Lib.hid (R13.out.below hb)
    replace R23 := Lib.hid (R23.out.below hb)
    replace R14 := Lib.hid (R14.out.below hb)
    replace R15 := Lib.hid (R15.out.below hb)
    replace R24 := Lib.hid (R24.out.below hb)
    replace R25 := Lib.hid (R25.out.below hb)
    replace HB := Lib.hid (kp_call HB.out hb)
    replace HP : Hid (P ≤ w11.heap.size) := by have h1 := HP.out; have h2 := hb.size; unfold Hid; omega
    clear hb
    go_wp2_with fail
    refine (same_t A12 A22 k12 d12 k22 d22 _ _ w11 R12.out.ru R22.out (by omega) (by omega) rfl).mono ?_
    rintro e w12 ⟨rfl, hb⟩
    clear R22
    replace HS := Lib.hid (HS.out.below hb)
    replace HT := Lib.hid (HT.out.below hb)
    replace R11 := Lib.hid (R11.out.below hb)
    replace R12 := Lib.hid (R12.out.below hb)
    replace R13 := Lib.hid (R13.out.below hb)
    replace R23 := Lib.hid (R23.out.below hb)
    replace R14 := Lib.hid (R14.out.below hb)
    replace R15 := Lib.hid (R15.out.below hb)
    replace R24 := Lib.hid (R24.out.below hb)
    replace R25 := Lib.hid (R25.out.below hb)
    replace HB := Lib.hid (kp_call HB.out hb)
    replace HP : Hid (P ≤ w12.heap.size) := by have h1 := HP.out; have h2 := hb.size; unfold Hid; omega
    clear hb
    go_wp2_with fail
    refine (same_t A13 A23 k13 d13 k23 d23 _ _ w12 R13.out.ru R23.out (by omega) (by omega) rfl).mono ?_
    rintro e w13 ⟨rfl, hb⟩
    clear R23
    replace HS := Lib.hid (HS.out.below hb)
    replace HT := Lib.hid (HT.out.below hb)
    replace R11 := Lib.hid (R11.out.below hb)
    replace R12 := Lib.hid (R12.out.below hb)
    replace R13 := Lib.hid (R13.out.below hb)
    replace R14 := Lib.hid (R14.out.below hb)
    replace R15 := Lib.hid (R15.out.below hb)
    replace R24 := Lib.hid (R24.out.below hb)
    replace R25 := Lib.hid (R25.out.below hb)
    replace HB := Lib.hid (kp_call HB.out hb)
    replace HP : Hid (P ≤ w13.heap.size) := by have h1 := HP.out; have h2 := hb.size; unfold Hid; omega
    clear hb
    go_wp2_with fail
    refine (same_t A14 A24 k14 d14 k24 d24 _ _ w13 R14.out.ru R24.out (by omega) (by omega) rfl).mono ?_
    rintro e w14 ⟨rfl, hb⟩
    clear R24
    replace HS := Lib.hid (HS.out.below hb)
    replace HT := Lib.hid (HT.out.below hb)
    replace R11 := Lib.hid (R11.out.below hb)
    replace R12 := Lib.hid (R12.out.below hb)
    replace R13 := Lib.hid (R13.out.below hb)
    replace R14 := Lib.hid (R14.out.below hb)
    replace R15 := Lib.hid (R15.out.below hb)
    replace R25 := Lib.hid (R25.out.below hb)
    replace HB := Lib.hid (kp_call HB.out hb)
    replace HP : Hid (P ≤ w14.heap.size) := by have h1 := HP.out; have h2 := hb.size; unfold Hid; omega
    clear hb
    go_wp2_with fail
    refine (same_t A15 A25 k15 d15 k25 d25 _ _ w14 R15.out.ru R25.out (by omega) (by omega) rfl).mono ?_
    rintro e w15 ⟨rfl, hb⟩
    clear R25
    replace HS := Lib.hid (HS.out.below hb)
    replace HT := Lib.hid (HT.out.below hb)
    replace R11 := Lib.hid (R11.out.below hb)
    replace R12 := Lib.hid (R12.out.below hb)
    replace R13 := Lib.hid (R13.out.below hb)
    replace R14 := Lib.hid (R14.out.below hb)
    replace R15 := Lib.hid (R15.out.below hb)
    replace HB := Lib.hid (kp_call HB.out hb)
    replace HP : Hid (P ≤ w15.heap.size) := by have h1 := HP.out; have h2 := hb.size; unfold Hid; omega
    clear hb
    have C := cmp_any (some ⟨G, 0, none⟩) (some ⟨H, 0, none⟩) n0 (n0 + 2) n1 (n1 + 2) x y w15 (twin_ru HS.out HL.out.1 IX.out.lim) (twin_ru HT.out HL.out.2 IY.out.lim) hv0 hv1
    rw [QC.out] at C
    have C := Lib.hid C
    go_wp2_with fail
    refine C.out.mono ?_
    rintro e w16 ⟨rfl, hb⟩
    replace HS := Lib.hid (HS.out.below hb)
    replace HT := Lib.hid (HT.out.below hb)
    replace R11 := Lib.hid (R11.out.below hb)
    replace R12 := Lib.hid (R12.out.below hb)
    replace R13 := Lib.hid (R13.out.below hb)
    replace R14 := Lib.hid (R14.out.below hb)
    replace R15 := Lib.hid (R15.out.below hb)
    replace HB := Lib.hid (kp_call HB.out hb)
    replace HP : Hid (P ≤ w16.heap.size) := by have h1 := HP.out; have h2 := hb.size; unfold Hid; omega
    clear C hb
    have C := dCmp_any A B n0 c0 n1 c1 x y w16 (IX.out.below HB.out) (IY.out.below HB.out) hv0 hv1 ⟨le0, mx0⟩ ⟨le1, mx1⟩
    rw [QC.out] at C
    have C := Lib.hid C
    go_wp2_with fail
    refine C.out.mono ?_
    rintro e w17 ⟨rfl, hb⟩
    replace HS := Lib.hid (HS.out.below hb)
    replace HT := Lib.hid (HT.out.below hb)
    replace R11 := Lib.hid (R11.out.below hb)
    replace R12 := Lib.hid (R12.out.below hb)
    replace R13 := Lib.hid (R13.out.below hb)
    replace R14 := Lib.hid (R14.out.below hb)
    replace R15 := Lib.hid (R15.out.below hb)
    replace HB := Lib.hid (kp_call HB.out hb)
    replace HP : Hid (P ≤ w17.heap.size) := by have h1 := HP.out; have h2 := hb.size; unfold Hid; omega
    clear C hb
    go_wp2_with fail
    refine (kept_any G n0 A n0 c0 x _ HS.out (IX.out.below HB.out) hv0).mono ?_
    rintro e w18 ⟨rfl, hb⟩
    replace HS := Lib.hid (HS.out.below hb)
    replace HT := Lib.hid (HT.out.below hb)
    replace R11 := Lib.hid (R11.out.below hb)
    replace R12 := Lib.hid (R12.out.below hb)
    replace R13 := Lib.hid (R13.out.below hb)
    replace R14 := Lib.hid (R14.out.below hb)
    replace R15 := Lib.hid (R15.out.below hb)
    replace HB := Lib.hid (kp_call HB.out hb)
    replace HP : Hid (P ≤ w18.heap.size) := by have h1 := HP.out; have h2 := hb.size; unfold Hid; omega
    clear hb
    go_wp2_with fail
    refine (kept_any H n1 B n1 c1 y _ HT.out (IY.out.below HB.out) hv1).mono ?_
    rintro e w19 ⟨rfl, hb⟩
    replace HS := Lib.hid (HS.out.below hb)
    replace HT := Lib.hid (HT.out.below hb)
    replace R11 := Lib.hid (R11.out.below hb)
    replace R12 := Lib.hid (R12.out.below hb)
    replace R13 := Lib.hid (R13.out.below hb)
    replace R14 := Lib.hid (R14.out.below hb)
    replace R15 := Lib.hid (R15.out.below hb)
    replace HB := Lib.hid (kp_call HB.out hb)
    replace HP : Hid (P ≤ w19.heap.size) := by have h1 := HP.out; have h2 := hb.size; unfold Hid; omega
    clear hb
    obtain ⟨S, hS⟩ : ∃ S : List (Option Addr × Nat × Nat), S = [(A11, k11, d11), (A12, k12, d12), (A13, k13, d13), (A14, k14, d14), (A15, k15, d15)] := ⟨_, rfl⟩
    have hSl : S.length = 5 := by rw [hS]; rfl
    have HS9 : Hid (∀ (i : Nat) (e : Option Addr × Nat × Nat), S[i]? = some e → e.2.1 ≤ 1000000) := fun i e he => by
      rw [hS] at he
      rcases i with _ | _ | _ | _ | _ | i
      · injection he with he; subst he; show k11 ≤ _; omega
      · injection he with he; subst he; show k12 ≤ _; omega
      · injection he with he; subst he; show k13 ≤ _; omega
      · injection he with he; subst he; show k14 ≤ _; omega
      · injection he with he; subst he; show k15 ≤ _; omega
      · cases he
    have HF0 : Hid (∀ F, w19.heap.size = F → FV w G H P F x y S (w19.alloc (.cells #[.slice A11 k11 d11, .slice A12 k12 d12, .slice A13 k13 d13, .slice A14 k14 d14, .slice A15 k15 d15] 22))) := fun F hF => by
      have hbn : Below w19.heap.size w19 (w19.alloc (.cells #[.slice A11 k11 d11, .slice A12 k12 d12, .slice A13 k13 d13, .slice A14 k14 d14, .slice A15 k15 d15] 22)) := kp_alloc (Below.refl _ _) _
      refine ⟨HS.out.below hbn, HT.out.below hbn, ?_, fun i e he => ?_, kp_alloc HB.out _⟩
      · rw [← hF, hS]; exact has_new _ _
      · rw [hS] at he
        rcases i with _ | _ | _ | _ | _ | i
        · injection he with he; subst he; exact own_of (R11.out.below hbn)
        · injection he with he; subst he; exact own_of (R12.out.below hbn)
        · injection he with he; subst he; exact own_of (R13.out.below hbn)
        · injection he with he; subst he; exact own_of (R14.out.below hbn)
        · injection he with he; subst he; exact own_of (R15.out.below hbn)
        · cases he
    obtain ⟨F, hF⟩ : ∃ F, w19.heap.size = F := ⟨_, rfl⟩
    have HF := Lib.hid (HF0.out F hF)
    have hFH := Lib.hid hF
    clear HF0 HS HT HB HP R11 R12 R13 R14 R15 hS
    go_wp2
    go_loopw [26] (fun vi wl => ∃ i : Nat, vi = .int .i64 (i : Int) ∧ i ≤ 5 ∧ Hid (FV w G H P F x y S wl)) (fun vi _ => 5 - (intOf vi).toNat)
    case atStart => exact ⟨0, rfl, Nat.zero_le _, HF⟩
    case round =>
      obtain ⟨i, rfl, hi, HK⟩ := hrel
      clear HF
      by_cases hlt : i < 5
      · as_aux_lemma =>
        have i1 : (i : Int) < 5 := by omega
        have i2 : (0 : Int) ≤ (i : Int) := by omega
        have e3 : IntKind.i64.wrap ((i : Int) + 1) = (i : Int) + 1 := IntWalk.i64_in _ (by omega)
        obtain ⟨⟨A9, k9, d9⟩, hse⟩ : ∃ e, S[i]? = some e := ⟨_, List.getElem?_eq_getElem (by omega)⟩
        have HSE := Lib.hid hse
        have hk9 : k9 ≤ 1000000 := HS9.out i _ hse
        clear hse
        go_wp2
        go_loopw [27] (fun vj wl => ∃ j : Nat, vj = .int .i64 (j : Int) ∧ j ≤ k9 ∧ Hid (FV w G H P F x y S wl)) (fun vj _ => k9 - (intOf vj).toNat)
        case atStart => exact ⟨0, rfl, Nat.zero_le _, HK⟩
        case round =>
          obtain ⟨j, rfl, hj, HJ⟩ := hrel
          clear HK
          have cs := HJ.out.cell HSE.out
          by_cases hjt : j < k9
          · as_aux_lemma =>
            have j1 : (j : Int) < (k9 : Int) := by omega
            have j2 : (0 : Int) ≤ (j : Int) := by omega
            have e4 : IntKind.i64.wrap ((j : Int) + 1) = (j : Int) + 1 := IntWalk.i64_in _ (by omega)
            rcases HJ.out.own i _ HSE.out with h9 | ⟨g9, L9, h9, h10, h11, h12⟩
            · exact absurd (show k9 = 0 from h9) (by omega)
            · have h9 : A9 = some ⟨g9, 0, none⟩ := h9
              have h12 : k9 ≤ L9.length := h12
              subst h9
              have cz := h11.cell (j := j) (by omega)
              have fz := h11.free j
              have HN := Lib.hid (HJ.out.set h11 h10 hGP hHP hwP.out j 4008636142)
              clear h11 HJ h12
              go_wp2
              go_roundw
              case rel => exact ⟨j + 1, by go_num, by omega, HN⟩
              case measure => simp [intOf]; omega
          · as_aux_lemma =>
            have j1 : ¬ (j : Int) < (k9 : Int) := by omega
            have HN := HJ
            clear HJ
            go_wp2
            go_roundw
            case rel => exact ⟨i + 1, by go_num, by omega, HN⟩
            case measure => simp [intOf]; omega
      · as_aux_lemma =>
        have i1 : ¬ (i : Int) < 5 := by omega
        have HS := Lib.hid HK.out.s
        have HT := Lib.hid HK.out.t
        have HB := Lib.hid HK.out.bel
        clear HK
        go_wp2_with fail
        refine (kept_any G n0 A n0 c0 x _ HS.out (IX.out.below HB.out) hv0).mono ?_
        rintro e w30 ⟨rfl, hb⟩
        replace HT := Lib.hid (HT.out.below hb)
        replace HB := Lib.hid (kp_call HB.out hb)
        clear hb HS
        go_wp2_with fail
        refine (kept_any H n1 B n1 c1 y _ HT.out (IY.out.below HB.out) hv1).mono ?_
        rintro e w31 ⟨rfl, hb⟩
        replace HB := Lib.hid (kp_call HB.out hb)
        clear hb HT
        go_wp2_with fail
        refine (works_any _).mono ?_
        rintro e w32 ⟨rfl, hb⟩
        replace HB := Lib.hid (kp_call HB.out hb)
        clear hb
        go_wp2
        go_ret
        exact ⟨rfl, HB.out⟩
end Go.Proofs.Ytpopohfbcedpbaa
