/-
  pe: the reader's has; what stands ahead of the sections' table.
-/
import Derived.Test.YtjfpiidofbjdhaaDoorPeA
namespace Go.Proofs.YtjfpiidofbjdhaaDoor
open Go.RowKit Go
set_option linter.unusedVariables false
set_option maxRecDepth 100000
section
variable {w0 : World} {g : Nat} {A : Option Addr} {n c : Nat} {bs : List UInt8} {R : Bool} {w : World}
theorem has_any (hI : Img w0 A n c bs) (ai : Int) (a : Nat) (s : ByteArray) (T : List UInt8) (hT : s.toList = T) (hs : s.size = T.length) (hT1 : 1 ≤ T.length) (hT2 : T.length ≤ 4) (ha : ai = (a : Int)) (ha2 : a ≤ 1099511627776) (h : RdS w0 g A n c R w) :
    Calls Tryd.prog 43 #[.pointer (some ⟨g, 0, none⟩), .int .i64 ai, .string s] w fun e w' => e = .returned (.tuple #[]) ∧ RdS w0 g A n c (R && (cut bs a T.length == T)) w' ∧ w.grownBy w' (some g) := by
  obtain ⟨c0, c1⟩ := cells_2 h.h
  have hR := hI.r.below h.b
  have hl := hI.r.1
  have hnn := hI.big
  have hnc := hI.nc
  have hcc := hI.cc
  have H := Lib.hid h
  subst ha
  by_cases hin : a + T.length ≤ n
  · have C := Lib.hid (cut_ok A n c bs a s.size w hR hnc hcc (by omega) (by omega))
    have hcl := cut_len bs a T.length (by omega)
    rw [hs] at C
    obtain ⟨l, hll⟩ : ∃ l, cut bs a T.length = l := ⟨_, rfl⟩
    obtain ⟨m, hm⟩ : ∃ m, T.length = m := ⟨_, rfl⟩
    rw [hm] at C hs hcl hll hin hT1 hT2 ⊢
    rw [hll] at C hcl ⊢
    clear h hR hnc hcc hl hnn hll
    go_enter Tryd.func43, Tryd.ntmps43
    go_wp2_with fail
    (with_reducible refine C.out.mono ?_)
    rintro e w' ⟨X, m2, c2, rfl, ho, hb⟩
    have hlen := ho.len
    have K := Lib.hid (H.out.keep hb)
    have G := Lib.hid (grown_of_below hb (Nat.le_refl _) (some g))
    have E1 := run_strOf w' _ X l c2 ho.reads
    have t1 := strOf_toList l
    rw [hlen] at E1
    clear ho hb hlen C
    have N := Lib.hid (need_any (l == T) K.out)
    go_wp2_with fail
    (with_reducible refine N.out.mono ?_)
    rintro e w2 ⟨rfl, h1, h2⟩
    have HH := Lib.hid (And.intro h1 h2)
    clear h1 h2
    go_wp2_with fail
    go_end0
    exact ⟨rfl, HH.out.1, grown_tr G.out HH.out.2⟩
  · have C := Lib.hid (cut_not A n c a s.size w (by omega) (by omega) (by omega) (by simp [inB]; omega))
    have hne : (cut bs a T.length == T) = false := by
      rw [beq_eq_false_iff_ne]
      intro e
      have := congrArg List.length e
      unfold cut at this
      rw [List.length_take, List.length_drop] at this
      omega
    rw [hne]
    have hne2 : (([] : List UInt8) == T) = false := by
      rw [beq_eq_false_iff_ne]
      intro e
      rw [← e] at hT1
      simp at hT1
    clear h hR hnc hcc hl hnn hne
    rw [hs] at C
    have E1 : (convert 22 9 (.slice none 0 0)).run Tryd.prog w = .ok (.string (strOf [])) w := run_strOf w w.heap.size none [] 0 Bs.nil
    have t1 := strOf_toList []
    have N := Lib.hid (need_any false H.out)
    obtain ⟨m, hm⟩ : ∃ m, T.length = m := ⟨_, rfl⟩
    rw [hm] at C hs hin hT1 hT2
    go_enter Tryd.func43, Tryd.ntmps43
    go_wp2_with fail
    (with_reducible refine C.out.mono ?_)
    rintro e w' ⟨rfl, rfl⟩
    go_wp2_with fail
    (with_reducible refine N.out.mono ?_)
    rintro e w2 ⟨rfl, h1, h2⟩
    have HH := Lib.hid (And.intro h1 h2)
    clear h1 h2
    go_wp2_with fail
    go_end0
    exact ⟨rfl, HH.out⟩
end
/-! ### What stands ahead of the sections' table, as plain data -/
def pAt (bs : List UInt8) : Nat := numQ bs 60 4
def cntQ (bs : List UInt8) : Nat := numQ bs (pAt bs + 6) 2
def lenQ (bs : List UInt8) : Nat := numQ bs (pAt bs + 20) 2
def optQ (bs : List UInt8) : Nat := pAt bs + 24
def magQ (bs : List UInt8) : Nat := numQ bs (optQ bs) 2
def dirsOf (o mg : Nat) : Nat := if mg = 523 then o + 112 else o + 96
def dirsQ (bs : List UInt8) : Nat := dirsOf (optQ bs) (magQ bs)
def entQ (bs : List UInt8) : Nat := numQ bs (dirsQ bs - 4) 4
def tabQ (bs : List UInt8) : Nat := optQ bs + lenQ bs
def hdrQ (bs : List UInt8) : Nat := numQ bs (optQ bs + 60) 4
/-- Is all of it as it should be? -/
def hdB (bs : List UInt8) : Bool :=
  (cut bs 0 2 == [77, 90]) && inQ bs 60 4 && decide (64 ≤ pAt bs) && (cut bs (pAt bs) 4 == [80, 69, 0, 0]) && inQ bs (pAt bs + 6) 2 && (decide (1 ≤ cntQ bs) && decide (cntQ bs ≤ 96)) && inQ bs (pAt bs + 20) 2
    && inQ bs (optQ bs) 2 && (decide (magQ bs = 267) || decide (magQ bs = 523)) && inQ bs (dirsQ bs - 4) 4 && (decide (5 ≤ entQ bs) && decide (lenQ bs = dirsQ bs - optQ bs + 8 * entQ bs)) && inQ bs (optQ bs + 60) 4 && (decide (tabQ bs + 40 * cntQ bs ≤ hdrQ bs) && decide (hdrQ bs ≤ bs.length))
/-- The reader goes on, the image's block is as it was. -/
structure HB (w0 w : World) (g q : Nat) (A : Option Addr) (n c : Nat) (o : Obj) (R : Bool) (W : World) : Prop where
  r : RdS w0 g A n c R W
  q : W.heap[q]? = some o
  gr : w.grownBy W (some g)
theorem HB.go {w0 w : World} {g q : Nat} {A : Option Addr} {n c : Nat} {o : Obj} {R b : Bool} {W W' : World} (h : HB w0 w g q A n c o R W) (hne : q ≠ g) (r : RdS w0 g A n c (R && b) W') (hg : W.grownBy W' (some g)) : ∃ R', Hid (R' = (R && b)) ∧ Hid (HB w0 w g q A n c o R' W') :=
  ⟨_, rfl, r, (hg.block q (block_lt h.q) (fun e => hne (Option.some.inj e))).trans h.q, grown_tr h.gr hg⟩
theorem HB.step {w0 w : World} {g q : Nat} {A : Option Addr} {n c : Nat} {o : Obj} {R R' : Bool} {W W' : World} (h : HB w0 w g q A n c o R W) (hne : q ≠ g) (r : RdS w0 g A n c R' W') (hg : W.grownBy W' (some g)) : HB w0 w g q A n c o R' W' :=
  ⟨r, (hg.block q (block_lt h.q) (fun e => hne (Option.some.inj e))).trans h.q, grown_tr h.gr hg⟩
def imgV (plus : Bool) (check dir hdr : Nat) : Array Value := #[.bool plus, .int .i64 (check : Nat), .int .i64 (dir : Nat), .int .u32 (hdr : Nat), .slice none 0 0, .int .u32 0, .int .u32 0, .slice none 0 0]
set_option maxHeartbeats 8000000 in
theorem headers_any {w0 : World} {g : Nat} {A : Option Addr} {n c : Nat} {bs : List UInt8} {R : Bool} {w : World} (hI : Img w0 A n c bs) (h : RdS w0 g A n c R w) :
    Calls Tryd.prog 26 #[.pointer (some ⟨g, 0, none⟩)] w fun e w' => e = .returned (.tuple #[.agg (imgV (decide (magQ bs = 523)) (optQ bs + 64) (dirsQ bs + 32) (hdrQ bs)), .int .i64 (tabQ bs : Nat), .int .i64 (cntQ bs : Nat)]) ∧ RdS w0 g A n c (R && hdB bs) w' ∧ w.grownBy w' (some g) := by
  have hgs := block_lt h.h
  have hnl := hI.r.1
  have hnb := hI.big
  unfold hdB tabQ hdrQ entQ dirsQ
  obtain ⟨p, hp⟩ : ∃ x, pAt bs = x := ⟨_, rfl⟩
  obtain ⟨ct, hct⟩ : ∃ x, cntQ bs = x := ⟨_, rfl⟩
  obtain ⟨ln, hln⟩ : ∃ x, lenQ bs = x := ⟨_, rfl⟩
  obtain ⟨mg, hmg⟩ : ∃ x, magQ bs = x := ⟨_, rfl⟩
  have hop : optQ bs = p + 24 := by unfold optQ; rw [hp]
  have p1 : p < 4294967296 := by rw [← hp]; exact numQ_lt4 _ _
  have p2 : ct < 65536 := by rw [← hct]; exact numQ_lt2 _ _
  have p3 : ln < 65536 := by rw [← hln]; exact numQ_lt2 _ _
  have p4 : mg < 65536 := by rw [← hmg]; exact numQ_lt2 _ _
  rw [hop, hct, hln, hmg, hp]
  obtain ⟨dr, hdr⟩ : ∃ x, dirsOf (p + 24) mg = x := ⟨_, rfl⟩
  have p5 : p + 120 ≤ dr ∧ dr ≤ p + 136 := by rw [← hdr]; unfold dirsOf; split <;> omega
  rw [hdr]
  obtain ⟨en, hen⟩ : ∃ x, numQ bs (dr - 4) 4 = x := ⟨_, rfl⟩
  obtain ⟨hd, hhd⟩ : ∃ x, numQ bs (p + 24 + 60) 4 = x := ⟨_, rfl⟩
  have p6 : en < 4294967296 := by rw [← hen]; exact numQ_lt4 _ _
  have p7 : hd < 4294967296 := by rw [← hhd]; exact numQ_lt4 _ _
  rw [hen, hhd, hnl]
  have e1 : numQ bs 60 4 = p := hp
  have e2 : numQ bs (p + 6) 2 = ct := by rw [← hct]; unfold cntQ; rw [hp]
  have e3 : numQ bs (p + 20) 2 = ln := by rw [← hln]; unfold lenQ; rw [hp]
  have e4 : numQ bs (p + 24) 2 = mg := by rw [← hmg]; unfold magQ; rw [hop]
  have EE := Lib.hid (And.intro e1 (And.intro e2 (And.intro e3 (And.intro e4 (And.intro hen (And.intro hhd hdr))))))
  clear hp hct hln hmg hop e1 e2 e3 e4 hen hhd hdr
  obtain ⟨q, hq⟩ : ∃ q, w.heap.size = q := ⟨_, rfl⟩
  have hqg : q ≠ g := by omega
  have HZ := Lib.hid (Nat.le_trans h.b.size (Nat.le_of_eq hq))
  have H0 : Hid (∀ o : Obj, HB w0 w g q A n c o R (w.alloc o)) := fun o => ⟨h.alloc o, has_new' _ _ _ hq.symm, grown_of_below ((Below.refl _ _).alloc (Nat.le_refl _) o) (Nat.le_refl _) _⟩
  clear hgs h
  go_enter Tryd.func26, Tryd.ntmps26
  go_wp2_with fail
  refine calls_nm fun W0 hW0 => ?_
  have B0 : Hid (HB w0 w g q A n c (.cells (imgV false 0 0 0) 28) R W0) := by rw [← hW0]; exact H0.out _
  clear hW0 H0
  refine (has_any hI 0 0 ⟨#[77, 90]⟩ [77, 90] (by rw [Lib.toList_data]) rfl (by decide) (by decide) (by first | rfl | (push_cast; rfl)) (by omega) B0.out.r).mono ?_
  rintro e W1 ⟨rfl, h1, h2⟩
  obtain ⟨r1, E1, B1⟩ := B0.out.go hqg h1 h2
  clear h1 h2 B0
  go_wp2_with fail
  have C := Lib.hid (number_any hI 60 60 4 (by omega) (by omega) (by decide) 4 rfl B1.out.r)
  rw [EE.out.1] at C
  (with_reducible refine C.out.mono ?_)
  clear C
  rintro e W2 ⟨rfl, h1, h2⟩
  obtain ⟨r2, E2, B2⟩ := B1.out.go hqg h1 h2
  clear h1 h2 B1
  go_wp2_with fail
  (with_reducible refine (need_any _ B2.out.r).mono ?_)
  rintro e W3 ⟨rfl, h1, h2⟩
  obtain ⟨r3, E3, B3⟩ := B2.out.go hqg h1 h2
  clear h1 h2 B2
  go_wp2_with fail
  refine (has_any hI p p ⟨#[80, 69, 0, 0]⟩ [80, 69, 0, 0] (by rw [Lib.toList_data]) rfl (by decide) (by decide) (by first | rfl | (push_cast; rfl)) (by omega) B3.out.r).mono ?_
  rintro e W4 ⟨rfl, h1, h2⟩
  obtain ⟨r4, E4, B4⟩ := B3.out.go hqg h1 h2
  clear h1 h2 B3
  go_wp2_with fail
  have C := Lib.hid (number_any hI ((p : Int) + 6) (p + 6) 2 (by omega) (by omega) (by decide) 2 rfl B4.out.r)
  rw [EE.out.2.1] at C
  (with_reducible refine C.out.mono ?_)
  clear C
  rintro e W5 ⟨rfl, h1, h2⟩
  obtain ⟨r5, E5, B5⟩ := B4.out.go hqg h1 h2
  clear h1 h2 B4
  go_upto_region 6 with (fail)
  go_cut [33] (fun s wx => s = .bool (decide (1 ≤ ct) && decide (ct ≤ 96)) ∧ (RdS w0 g A n c (r5 && (decide (1 ≤ ct) && decide (ct ≤ 96))) wx ∧ W5.grownBy wx (some g)))
  case first => as_aux_lemma =>
    by_cases a1 : 1 ≤ ct
    · have t1 : decide ((1 : Int) ≤ (ct : Int)) = true := by simp; omega
      have BB : (decide (1 ≤ ct) && decide (ct ≤ 96)) = decide ((ct : Int) ≤ 96) := by rw [decide_eq_true a1, Bool.true_and]; congr 1; exact propext (by omega)
      obtain ⟨b, hb⟩ : ∃ b, decide ((ct : Int) ≤ 96) = b := ⟨_, rfl⟩
      rw [hb] at BB
      clear a1
      go_wp2_with fail
      (with_reducible refine (need_any _ B5.out.r).mono ?_)
      rintro e W9 ⟨rfl, h1, h2⟩
      go_wp2_with fail
      go_meet
      exact ⟨by simp [BB], by simpa [BB] using h1, h2⟩
    · have t1 : decide ((1 : Int) ≤ (ct : Int)) = false := by simp; omega
      have BB : (decide (1 ≤ ct) && decide (ct ≤ 96)) = false := by rw [decide_eq_false a1, Bool.false_and]
      clear a1
      go_wp2_with fail
      (with_reducible refine (need_any _ B5.out.r).mono ?_)
      rintro e W9 ⟨rfl, h1, h2⟩
      go_wp2_with fail
      go_meet
      exact ⟨by simp [BB], by simpa [BB] using h1, h2⟩
  case rest =>
  obtain ⟨hs, h1, h2⟩ := hcut
  subst hs
  generalize wc = W6 at *
  obtain ⟨r6, E6, B6⟩ := B5.out.go hqg h1 h2
  clear h1 h2 B5
  go_wp2_with fail
  have C := Lib.hid (number_any hI ((p : Int) + 20) (p + 20) 2 (by omega) (by omega) (by decide) 2 rfl B6.out.r)
  rw [EE.out.2.2.1] at C
  (with_reducible refine C.out.mono ?_)
  clear C
  rintro e W7 ⟨rfl, h1, h2⟩
  obtain ⟨r7, E7, B7⟩ := B6.out.go hqg h1 h2
  clear h1 h2 B6
  go_wp2_with fail
  have C := Lib.hid (number_any hI ((p : Int) + 24) (p + 24) 2 (by omega) (by omega) (by decide) 2 rfl B7.out.r)
  rw [EE.out.2.2.2.1] at C
  (with_reducible refine C.out.mono ?_)
  clear C
  rintro e W8 ⟨rfl, h1, h2⟩
  obtain ⟨r8, E8, B8⟩ := B7.out.go hqg h1 h2
  clear h1 h2 B7
  go_upto_region 10 with (fail)
  go_cut [50] (fun s wx => s = .bool (decide (mg = 267) || decide (mg = 523)) ∧ (RdS w0 g A n c (r8 && (decide (mg = 267) || decide (mg = 523))) wx ∧ W8.grownBy wx (some g)))
  case first => as_aux_lemma =>
    by_cases a1 : mg = 267
    · have t1 : ((mg : Int) == 267) = true := by simp; omega
      have BB : (decide (mg = 267) || decide (mg = 523)) = true := by rw [decide_eq_true a1, Bool.true_or]
      clear a1
      go_wp2_with fail
      (with_reducible refine (need_any _ B8.out.r).mono ?_)
      rintro e W9 ⟨rfl, h1, h2⟩
      go_wp2_with fail
      go_meet
      exact ⟨by simp [BB], by simpa [BB] using h1, h2⟩
    · have t1 : ((mg : Int) == 267) = false := by simp; omega
      have BB : (decide (mg = 267) || decide (mg = 523)) = ((mg : Int) == 523) := by rw [decide_eq_false a1, Bool.false_or]; by_cases h : mg = 523 <;> simp [h] <;> omega
      obtain ⟨b, hb⟩ : ∃ b, ((mg : Int) == 523) = b := ⟨_, rfl⟩
      rw [hb] at BB
      clear a1
      go_wp2_with fail
      (with_reducible refine (need_any _ B8.out.r).mono ?_)
      rintro e W9 ⟨rfl, h1, h2⟩
      go_wp2_with fail
      go_meet
      exact ⟨by simp [BB], by simpa [BB] using h1, h2⟩
  case rest =>
  obtain ⟨hs, h1, h2⟩ := hcut
  subst hs
  generalize wc = W9 at *
  obtain ⟨r9, E9, B9⟩ := B8.out.go hqg h1 h2
  clear h1 h2 B8
  go_upto_if 55 with (fail)
  go_cut [9] (fun s wx => s = .int .i64 (dr : Int) ∧ wx = W9)
  case first => as_aux_lemma =>
    have hdr := EE.out.2.2.2.2.2.2
    unfold dirsOf at hdr
    by_cases a1 : mg = 523
    · have t1 : ((mg : Int) == 523) = true := by simp; omega
      rw [if_pos a1] at hdr
      clear a1
      go_wp2_with fail
      go_meet
      exact ⟨by congr 1; omega, rfl⟩
    · have t1 : ((mg : Int) == 523) = false := by simp; omega
      rw [if_neg a1] at hdr
      clear a1
      go_wp2_with fail
      go_meet
      exact ⟨by congr 1; omega, rfl⟩
  case rest =>
  obtain ⟨hs, hwc⟩ := hcut
  subst hs
  subst hwc
  go_wp2_with fail
  have C := Lib.hid (number_any hI ((dr : Int) - 4) (dr - 4) 4 (by omega) (by omega) (by decide) 4 rfl B9.out.r)
  rw [EE.out.2.2.2.2.1] at C
  (with_reducible refine C.out.mono ?_)
  clear C
  rintro e W10 ⟨rfl, h1, h2⟩
  obtain ⟨r10, E10, B10⟩ := B9.out.go hqg h1 h2
  clear h1 h2 B9
  go_upto_region 15 with (fail)
  go_cut [74] (fun s wx => s = .bool (decide (5 ≤ en) && decide (ln = dr - (p + 24) + 8 * en)) ∧ (RdS w0 g A n c (r10 && (decide (5 ≤ en) && decide (ln = dr - (p + 24) + 8 * en))) wx ∧ W10.grownBy wx (some g)))
  case first => as_aux_lemma =>
    by_cases a1 : 5 ≤ en
    · have t1 : decide ((5 : Int) ≤ (en : Int)) = true := by simp; omega
      have BB : (decide (5 ≤ en) && decide (ln = dr - (p + 24) + 8 * en)) = ((ln : Int) == (dr : Int) - ((p : Int) + 24) + 8 * (en : Int)) := by rw [decide_eq_true a1, Bool.true_and]; by_cases h : ln = dr - (p + 24) + 8 * en <;> simp [h] <;> omega
      clear a1
      go_wp2_with fail
      (with_reducible refine (need_any _ B10.out.r).mono ?_)
      rintro e W9 ⟨rfl, h1, h2⟩
      go_wp2_with fail
      go_meet
      exact ⟨by simp [BB], by simpa [BB] using h1, h2⟩
    · have t1 : decide ((5 : Int) ≤ (en : Int)) = false := by simp; omega
      have BB : (decide (5 ≤ en) && decide (ln = dr - (p + 24) + 8 * en)) = false := by rw [decide_eq_false a1, Bool.false_and]
      clear a1
      go_wp2_with fail
      (with_reducible refine (need_any _ B10.out.r).mono ?_)
      rintro e W9 ⟨rfl, h1, h2⟩
      go_wp2_with fail
      go_meet
      exact ⟨by simp [BB], by simpa [BB] using h1, h2⟩
  case rest =>
  obtain ⟨hs, h1, h2⟩ := hcut
  subst hs
  generalize wc = W11 at *
  obtain ⟨r11, E11, B11⟩ := B10.out.go hqg h1 h2
  clear h1 h2 B10
  go_wp2_with fail
  have C := Lib.hid (number_any hI ((p : Int) + 24 + 60) (p + 24 + 60) 4 (by omega) (by omega) (by decide) 4 rfl B11.out.r)
  rw [EE.out.2.2.2.2.2.1] at C
  (with_reducible refine C.out.mono ?_)
  clear C
  rintro e W12 ⟨rfl, h1, h2⟩
  obtain ⟨r12, E12, B12⟩ := B11.out.go hqg h1 h2
  clear h1 h2 B11
  obtain ⟨c0, c1⟩ := cells_2 B12.out.r.h
  go_upto_region 18 with (fail)
  go_cut [98] (fun s wx => s = .bool (decide (p + 24 + ln + 40 * ct ≤ hd) && decide (hd ≤ n)) ∧ (RdS w0 g A n c (r12 && (decide (p + 24 + ln + 40 * ct ≤ hd) && decide (hd ≤ n))) wx ∧ W12.grownBy wx (some g)))
  case first => as_aux_lemma =>
    by_cases a1 : p + 24 + ln + 40 * ct ≤ hd
    · have t1 : decide ((p : Int) + 24 + (ln : Int) + 40 * (ct : Int) ≤ (hd : Int)) = true := by simp; omega
      have BB : (decide (p + 24 + ln + 40 * ct ≤ hd) && decide (hd ≤ n)) = decide ((hd : Int) ≤ (n : Int)) := by rw [decide_eq_true a1, Bool.true_and]; congr 1; exact propext (by omega)
      obtain ⟨b, hb⟩ : ∃ b, decide ((hd : Int) ≤ (n : Int)) = b := ⟨_, rfl⟩
      rw [hb] at BB
      have hb2 : decide (hd ≤ n) = b := by rw [← hb]; congr 1; exact propext (by omega)
      clear a1
      go_wp2_with fail
      (with_reducible refine (need_any _ B12.out.r).mono ?_)
      rintro e W9 ⟨rfl, h1, h2⟩
      go_wp2_with fail
      go_meet
      exact ⟨by rw [BB, ← hb2], by rw [BB]; exact h1, h2⟩
    · have t1 : decide ((p : Int) + 24 + (ln : Int) + 40 * (ct : Int) ≤ (hd : Int)) = false := by simp; omega
      have BB : (decide (p + 24 + ln + 40 * ct ≤ hd) && decide (hd ≤ n)) = false := by rw [decide_eq_false a1, Bool.false_and]
      clear a1
      go_wp2_with fail
      (with_reducible refine (need_any _ B12.out.r).mono ?_)
      rintro e W9 ⟨rfl, h1, h2⟩
      go_wp2_with fail
      go_meet
      exact ⟨by simp [BB], by simpa [BB] using h1, h2⟩
  case rest =>
  obtain ⟨hs, h1, h2⟩ := hcut
  subst hs
  generalize wc = W13 at *
  obtain ⟨r13, E13, B13⟩ := B12.out.go hqg h1 h2
  clear h1 h2 B12
  clear c0 c1
  obtain ⟨f0, f1, f2, f3, f4, f5, f6, f7⟩ := free_8 B13.out.q
  obtain ⟨x0, x1, x2, x3, x4, x5, x6, x7⟩ := cells_8 B13.out.q
  have e3 : IntKind.u32.wrap (hd : Int) = (hd : Int) := IntWalk.u32_in _ (by omega)
  obtain ⟨pl, hpl⟩ : ∃ b, ((mg : Int) == 523) = b := ⟨_, rfl⟩
  go_upto_region 20 with (fail)
  refine wp_nm fun W20 hW20 => ?_
  have k20 : W20.heap[q]? = some (.cells (imgV pl (p + 24 + 64) (dr + 32) hd) 28) := by rw [← hW20]; exact set_8 B13.out.q
  have h20 : RdS w0 g A n c r13 W20 ∧ w.grownBy W20 (some g) := by rw [← hW20]; exact ⟨B13.out.r.far (grown_8 _ _) (by have := B13.out.r.b.size; have := HZ.out; omega) (fun e => hqg e.symm), gr_far B13.out.gr (grown_8 _ _) (by omega)⟩
  have H20 := Lib.hid h20
  clear hW20 h20 f0 f1 f2 f3 f4 f5 f6 f7 x0 x1 x2 x3 x4 x5 x6 x7
  unfold imgV at k20
  obtain ⟨f0, f1, f2, f3, f4, f5, f6, f7⟩ := free_8 k20
  obtain ⟨x0, x1, x2, x3, x4, x5, x6, x7⟩ := cells_8 k20
  have K20 := Lib.hid k20
  clear k20
  go_wp2
  refine bodyPost_ret (results_ctt Tryd.results26 _ (LV.agg (set_8 K20.out) Tryd.underlying28 rfl (by kernel_rfl))) rfl ?_
  have hpl2 : decide (mg = 523) = pl := by rw [← hpl]; by_cases h : mg = 523 <;> simp [h]; omega
  have hR : r13 = (R && ((cut bs 0 2 == [77, 90]) && inQ bs 60 4 && decide (64 ≤ p) && (cut bs p 4 == [80, 69, 0, 0]) && inQ bs (p + 6) 2 && (decide (1 ≤ ct) && decide (ct ≤ 96)) && inQ bs (p + 20) 2
      && inQ bs (p + 24) 2 && (decide (mg = 267) || decide (mg = 523)) && inQ bs (dr - 4) 4 && (decide (5 ≤ en) && decide (ln = dr - (p + 24) + 8 * en)) && inQ bs (p + 24 + 60) 4 && (decide (p + 24 + ln + 40 * ct ≤ hd) && decide (hd ≤ n)))) := by
    clear H20 K20 HZ EE hI f0 f1 f2 f3 f4 f5 f6 f7 x0 x1 x2 x3 x4 x5 x6 x7
    rw [E13.out, E12.out, E11.out, E10.out, E9.out, E8.out, E7.out, E6.out, E5.out, E4.out, E3.out, E2.out, E1.out]
    have hp64 : decide ((64 : Int) ≤ (p : Int)) = decide (64 ≤ p) := by congr 1; exact propext (by omega)
    simp only [List.length_cons, List.length_nil, Nat.reduceAdd, Bool.and_assoc, hp64]
  rw [← hR, hpl2]
  refine ⟨rfl, ?_, gr_far H20.out.2 (grown_8 _ _) (by omega)⟩
  exact H20.out.1.far (grown_8 _ _) (by have := HZ.out; omega) (fun e => hqg e.symm)
end Go.Proofs.YtjfpiidofbjdhaaDoor
