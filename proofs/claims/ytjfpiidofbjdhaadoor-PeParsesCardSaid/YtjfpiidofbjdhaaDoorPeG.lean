/-
  pe: the rows of a certificate table, as plain data; the reader's rows.
-/
import Derived.Test.YtjfpiidofbjdhaaDoorPeB
import Derived.Test.YtjfpiidofbjdhaaDoorPeC
import Derived.Test.YtjfpiidofbjdhaaDoorRgQ
import Derived.Test.YtjfpiidofbjdhaaDoorFam
import Derived.StillTailTactics
import Derived.Deep.RegionHeld3
namespace Go.Proofs.YtjfpiidofbjdhaaDoor
open Go.RowKit Go
set_option linter.unusedVariables false
set_option maxRecDepth 100000
attribute [local go_sem] Oper.semAt_some
def padQ (bs : List UInt8) (a : Nat) : Nat := (numQ bs a 4 + 7) / 8 * 8
/-- Is the row at a as it should be, but for what fills it up? -/
def rowOk (bs : List UInt8) (a : Nat) : Bool := inQ bs a 4 && (decide (9 ≤ numQ bs a 4) && decide (padQ bs a ≤ bs.length - a)) && (cut bs (a + 4) 4 == [0, 2, 2, 0])
def fillB (bs : List UInt8) (a : Nat) : Bool := (cut bs (a + numQ bs a 4) (padQ bs a - numQ bs a 4)).all fun q => q == 0
theorem rowOk_parts {bs : List UInt8} {a : Nat} (h : rowOk bs a = true) : a + 4 ≤ bs.length ∧ 9 ≤ numQ bs a 4 ∧ padQ bs a ≤ bs.length - a ∧ cut bs (a + 4) 4 = [0, 2, 2, 0] := by
  unfold rowOk inQ at h
  simp at h
  exact ⟨h.1.1, h.1.2.1, h.1.2.2, h.2⟩
theorem padQ_le (bs : List UInt8) (a : Nat) : numQ bs a 4 ≤ padQ bs a ∧ padQ bs a ≤ numQ bs a 4 + 7 := by unfold padQ; omega
/-- The signatures in the rows from a on. -/
def rowsQ (bs : List UInt8) (a : Nat) : Option (List (List UInt8)) :=
  if h : a < bs.length then
    if hr : rowOk bs a = true then if fillB bs a then (rowsQ bs (a + padQ bs a)).map (cut bs (a + 8) (numQ bs a 4 - 8) :: ·) else none else none
  else some []
termination_by bs.length - a
decreasing_by
  have h1 := rowOk_parts hr
  have h2 := padQ_le bs a
  omega
theorem rowsQ_end {bs : List UInt8} {a : Nat} (h : bs.length ≤ a) : rowsQ bs a = some [] := by
  unfold rowsQ
  rw [dif_neg (by omega)]
theorem rowsQ_no {bs : List UInt8} {a : Nat} (h : a < bs.length) (h2 : (rowOk bs a && fillB bs a) = false) : rowsQ bs a = none := by
  unfold rowsQ
  rw [dif_pos h]
  cases h3 : rowOk bs a with
  | false => rw [dif_neg (by simp)]
  | true =>
    rw [h3, Bool.true_and] at h2
    rw [dif_pos rfl, h2]
    rfl
theorem rowsQ_yes {bs : List UInt8} {a : Nat} (h : a < bs.length) (h2 : rowOk bs a = true) (h3 : fillB bs a = true) : rowsQ bs a = (rowsQ bs (a + padQ bs a)).map (cut bs (a + 8) (numQ bs a 4 - 8) :: ·) := by
  conv => lhs; unfold rowsQ
  rw [dif_pos h, dif_pos h2, if_pos h3]
theorem rb_cutP {w : World} {b off n c k : Nat} {bs : List UInt8} (h : RB w (some ⟨b, off, none⟩) n bs) (hnc : n ≤ c) (hk : k ≤ n) :
    RB w (if c = k then some ⟨b, off, none⟩ else some ⟨b, off + k, none⟩) (n - k) (bs.drop k) := by
  refine ⟨by rw [List.length_drop, h.1], ?_⟩
  by_cases e : c = k
  · rw [List.drop_of_length_le (by rw [h.1]; omega)]
    exact Bs.nil
  · rw [if_neg e]
    have h2 := h.2.drop_ k
    simp only [Option.map_some, Addr.add_lit] at h2
    exact h2
theorem rb_takeP {w : World} {A : Option Addr} {n k : Nat} {bs : List UInt8} (h : RB w A n bs) (hk : k ≤ n) : RB w A k (bs.take k) :=
  ⟨by rw [List.length_take, h.1]; omega, h.2.take_ k⟩
def sigEnc (x : Own1) : Array Value := #[x.val]
def boxI (b : Nat) (w : World) : Nat := match w.cell? ⟨b, 0, none⟩ with
  | some (.int _ k) => k.toNat
  | _ => 0
theorem boxI_of {w : World} {b : Nat} {k : IntKind} {a : Nat} {t : TypeId} (h : w.heap[b]? = some (.cells #[.int k (a : Int)] t)) : boxI b w = a := by
  unfold boxI
  rw [cells_1 h]
  simp
theorem rows_any (g : Nat) (at_ : Int) (w : World) :
    Calls Tryd.prog 50 #[.pointer (some ⟨g, 0, none⟩), .int .i64 at_] w fun e w' => e = .returned (.func (.func 60) #[] #[.pointer (some ⟨w.heap.size + 1, 0, none⟩), .pointer (some ⟨w.heap.size, 0, none⟩)]) ∧
      w' = (w.alloc (.cells #[.pointer (some ⟨g, 0, none⟩)] 58)).alloc (.cells #[.int .i64 at_] 3) := by
  go_enter Tryd.func50, Tryd.ntmps50
  go_wp2
  go_ret
  exact ⟨rfl, rfl⟩
/-- Where the iterator stands: between two rounds, or within one. -/
structure RI (w0 : World) (g : Nat) (A : Option Addr) (n c b1 b2 a0 : Nat) (bs : List UInt8) (Y : List Own1 → World → Prop) (pre : List Own1) (a : Nat) (R : Bool) (W : World) : Prop where
  y : Y pre W
  r : RdS w0 g A n c R W
  h1 : W.heap[b1]? = some (.cells #[.int .i64 (a : Int)] 3)
  h2 : W.heap[b2]? = some (.cells #[.pointer (some ⟨g, 0, none⟩)] 58)
  z : R = false → rowsQ bs a0 = none
  e : pre = [] → a = a0
set_option maxHeartbeats 2000000 in
theorem rows1_in (g n c D b1 b2 a0 : Nat) (A : Option Addr) (bs : List UInt8) (w0 : World) (hI : Img w0 A n c bs) (hw1 : w0.heap.size ≤ b1) (hw2 : w0.heap.size ≤ b2) (hne : b1 ≠ b2 ∧ b1 ≠ g ∧ b2 ≠ g) (hD1 : b1 < D) (hD2 : b2 < D) (hDg : g < D) (ha0 : a0 ≤ n)
    (I : List Own1 → World → Prop) (hIg : ∀ pre W W', I pre W → W.grownBy W' (some g) → I pre W') (hIs : ∀ pre W u, I pre W → I pre (W.setCell ⟨b1, 0, none⟩ u)) (hIn : ∀ pre W W', I pre W → Below W.heap.size W W' → I pre W')
    (hIb : ∀ pre W, I pre W → Below w0.heap.size w0 W)
    (hIo : ∀ pre W, I pre W → ∀ y ∈ pre, ∀ k, blk y.1 = some k → k < W.heap.size) :
    IterQ Tryd.prog 4 D 60 #[.pointer (some ⟨b1, 0, none⟩), .pointer (some ⟨b2, 0, none⟩)] sigEnc (fun b => b = b1 ∨ b = b2 ∨ b = g)
      (fun pre x W => OwnB W (D + 2) x.1 x.2.1 x.2.2.1 x.2.2.2 ∧ x.2.1 ≤ 16777216 ∧ ∀ y ∈ pre, blk y.1 = none ∨ blk y.1 ≠ blk x.1)
      (fun pre W => I pre W ∧ (pre = [] → W.heap[b1]? = some (.cells #[.int .i64 (a0 : Int)] 3) ∧ W.heap[b2]? = some (.cells #[.pointer (some ⟨g, 0, none⟩)] 58) ∧ ∃ R, RdS w0 g A n c R W ∧ (R = false → rowsQ bs a0 = none)))
      (fun xs W => ∃ R, RdS w0 g A n c R W ∧ (R = true → rowsQ bs a0 = some (xs.map fun x => x.2.2.2)) ∧ (R = false → rowsQ bs a0 = none)) (fun _ => True) (n + 1) := by
  intro Y Z hYI hYs hY hYb W1 hY0
  obtain ⟨k1, k2, R0, k3, k4⟩ := (hYI _ _ hY0).2 rfl
  have hnl := hI.r.1
  have hnb := hI.big
  have hnc := hI.nc
  have hcc := hI.cc
  have RI0 : Hid (RI w0 g A n c b1 b2 a0 bs Y [] a0 R0 W1) := ⟨hY0, k3, k1, k2, k4, fun _ => rfl⟩
  have GO : Hid (∀ pre a R R' W W', RI w0 g A n c b1 b2 a0 bs Y pre a R W → RdS w0 g A n c R' W' → W'.heap[b1]? = W.heap[b1]? → W'.heap[b2]? = W.heap[b2]? → W'.heap[D]? = W.heap[D]? → W'.heap[D + 1]? = W.heap[D + 1]? → I pre W' → (R' = false → rowsQ bs a0 = none) → RI w0 g A n c b1 b2 a0 bs Y pre a R' W') := by
    intro pre a R R' W W' h r e1 e2 e3 e4 hi hz
    have q1 := e1.trans h.h1
    have q2 := e2.trans h.h2
    refine ⟨hYs _ _ _ h.y ⟨hi, fun e => ?_⟩ e3 e4, r, q1, q2, hz, h.e⟩
    have := h.e e
    exact ⟨by rw [← this]; exact q1, q2, R', r, hz⟩
  have STEP : Hid (∀ pre a R R' W W', RI w0 g A n c b1 b2 a0 bs Y pre a R W → RdS w0 g A n c R' W' → W.grownBy W' (some g) → (R' = false → rowsQ bs a0 = none) → RI w0 g A n c b1 b2 a0 bs Y pre a R' W') := by
    intro pre a R R' W W' h r hg hz
    obtain ⟨⟨o, hd⟩, ⟨r9, hl⟩⟩ := hYb _ _ h.y
    exact GO.out _ _ _ _ _ _ h r (hg.block _ (block_lt h.h1) (fun e => by injection e with e; omega)) (hg.block _ (block_lt h.h2) (fun e => by injection e with e; omega)) (hg.block _ (block_lt hd) (fun e => by injection e with e; omega)) (hg.block _ (block_lt hl) (fun e => by injection e with e; omega)) (hIg _ _ _ (hYI _ _ h.y).1 hg) hz
  have NEW : Hid (∀ pre a R W W', RI w0 g A n c b1 b2 a0 bs Y pre a R W → Below W.heap.size W W' → RI w0 g A n c b1 b2 a0 bs Y pre a R W') := by
    intro pre a R W W' h hb
    obtain ⟨⟨o, hd⟩, ⟨r9, hl⟩⟩ := hYb _ _ h.y
    exact GO.out _ _ _ _ _ _ h (h.r.keep hb) (hb.block _ (block_lt h.h1)) (hb.block _ (block_lt h.h2)) (hb.block _ (block_lt hd)) (hb.block _ (block_lt hl)) (hIn _ _ _ (hYI _ _ h.y).1 hb) h.z
  have c1 := cells_1 k1
  have c2 := cells_1 k2
  obtain ⟨c3, c4⟩ := cells_2 k3.h
  have HY := Lib.hid hY
  have HYI := Lib.hid hYI
  have HYs := Lib.hid hYs
  have HYb := Lib.hid hYb
  have HIs := Lib.hid hIs
  have HIo := Lib.hid hIo
  have HIb := Lib.hid hIb
  clear hYI hYs hY hYb hIg hIs hIn hIo hIb k1 k2 k3 k4 hY0
  refine callsIn_of_wp Tryd.func60 rfl trivial ?_ rfl
  simp only [Tryd.ntmps60, List.size_toArray, List.length_cons, List.length_nil, Nat.reduceAdd, Nat.reduceSub, Array.replicate_succ, Array.replicate_zero, List.push_toArray, List.append_toArray, List.nil_append, List.cons_append]
  gi_wp2_with (fail)
  gi_loopw [4] (fun u wr => ∃ (pre : List Own1) (a : Nat) (R : Bool), Hid (RI w0 g A n c b1 b2 a0 bs Y pre a R wr) ∧ a ≤ n ∧ pre.length ≤ a ∧ Hid (R = true → rowsQ bs a0 = (rowsQ bs a).map ((pre.map fun x => x.2.2.2) ++ ·))) (fun _ wr => n - boxI b1 wr)
  case atStart => exact ⟨[], a0, R0, RI0, ha0, Nat.zero_le _, fun _ => by cases rowsQ bs a0 <;> simp⟩
  case round =>
    obtain ⟨pre, a, R, HR, han, hpl, HL⟩ := hrel
    have d1 := cells_1 HR.out.h1
    have d2 := cells_1 HR.out.h2
    obtain ⟨d3, d4⟩ := cells_2 HR.out.r.h
    have HMEAS := Lib.hid (boxI_of HR.out.h1)
    clear c1 c2 c3 c4 RI0
    by_cases hlt : a < n
    · have i1 : decide ((a : Int) < (n : Int)) = true := by simp; omega
      gi_wp2_with (fail)
      refine wpIn_wide.2 ?_
      go_quiet (fail)
      have HRA := Lib.hid (NEW.out _ _ _ _ _ HR.out (kp_drewN (Below.refl _ _) nq))
      have HBA := Lib.hid (boxI_of HRA.out.h1)
      generalize wr.drewN nq = wA at *
      clear HR
      have d1 := cells_1 HRA.out.h1
      have d2 := cells_1 HRA.out.h2
      obtain ⟨d3, d4⟩ := cells_2 HRA.out.r.h
      obtain ⟨L, hL⟩ : ∃ x, numQ bs a 4 = x := ⟨_, rfl⟩
      have C := Lib.hid (number_any hI (a : Int) a 4 rfl (by omega) (by decide) 4 rfl HRA.out.r)
      rw [hL] at C
      have lL : L < 4294967296 := by rw [← hL]; exact numQ_lt4 _ _
      gi_wp2_with (fail)
      refine ⟨trivial, (callsIn_wide.2 C.out).mono ?_⟩
      rintro e wB ⟨rfl, h1, h2⟩
      have hz1 : (R && inQ bs a 4) = false → rowsQ bs a0 = none := by
        intro h
        cases hR : R with
        | false => exact HRA.out.z hR
        | true =>
          rw [hR, Bool.true_and] at h
          rw [HL.out hR, rowsQ_no (by omega) (by unfold rowOk; rw [h]; rfl)]
          rfl
      have HRB := Lib.hid (STEP.out _ _ _ _ _ _ HRA.out h1 h2 hz1)
      clear h1 h2 hz1 HRA C
      have d1 := cells_1 HRB.out.h1
      have d2 := cells_1 HRB.out.h2
      obtain ⟨d3, d4⟩ := cells_2 HRB.out.r.h
      gi_wp2_with (fail)
      obtain ⟨pd, hpd⟩ : ∃ x, padQ bs a = x := ⟨_, rfl⟩
      have e5 : ((L : Int) + 8 - 1) / 8 * 8 = (pd : Int) := by rw [← hpd]; unfold padQ; rw [hL]; omega
      have lpd : L ≤ pd ∧ pd ≤ L + 7 := by have := padQ_le bs a; rw [hL, hpd] at this; exact this
      rw [e5]
      have hz3 : ∀ b4 : Bool, (R && inQ bs a 4 && (decide (9 ≤ L) && decide (pd ≤ n - a)) && b4) = false → (b4 = false → rowOk bs a = false) → rowsQ bs a0 = none := by
        intro b4 h h4
        cases hR : R && inQ bs a 4 with
        | false => exact HRB.out.z hR
        | true =>
          rw [hR, Bool.true_and] at h
          rw [Bool.and_eq_true] at hR
          have hnone : rowsQ bs a = none → rowsQ bs a0 = none := fun e => by rw [HL.out hR.1, e]; rfl
          refine hnone (rowsQ_no (by omega) ?_)
          cases hb : b4 with
          | false => rw [h4 hb]; rfl
          | true =>
            rw [hb, Bool.and_true] at h
            unfold rowOk
            rw [hL, hpd, hnl, hR.2, h]
            rfl
      have HZ3 := Lib.hid hz3
      have HRC : Hid (RI w0 g A n c b1 b2 a0 bs Y pre a (R && inQ bs a 4) wB.drew) := NEW.out _ _ _ _ _ HRB.out (kp_drew (Below.refl _ _))
      have e6 : IntKind.i64.wrap ((n : Int) - (a : Int)) = (n : Int) - (a : Int) := IntWalk.i64_in _ (by omega)
      clear hz3
      have FIN : Hid (∀ W' : World, RI w0 g A n c b1 b2 a0 bs Y pre a false W' → ((∃ xs : List Own1, (∃ R, RdS w0 g A n c R W' ∧ (R = true → rowsQ bs a0 = some (xs.map fun x => x.2.2.2)) ∧ (R = false → rowsQ bs a0 = none)) ∧ Y xs W') ∨ (∃ p : List Own1, True ∧ Z p W'))) := fun W' h => .inl ⟨pre, ⟨false, h.r, (fun e => by cases e), fun _ => h.z rfl⟩, h.y⟩
      by_cases h9 : 9 ≤ L
      · have t1 : decide ((9 : Int) ≤ (L : Int)) = true := by simp; omega
        have H9 := Lib.hid h9
        clear h9
        refine wpIn_wide.2 ?_
        refine wp_region_still_tail 14 (by kernel_rfl) (by kernel_rfl) ?_
        simp only [List.take_succ_cons, List.take_zero, List.drop_succ_cons, List.drop_zero]
        iterate 14 ((with_reducible refine wpStill_step (fun K hK => ?_)); go_simp; (with_reducible refine hK _ ?_); clear hK K)
        with_reducible refine wpStill_nil ?_
        change wpList _ _ _ _ _ wB.drew
        go_wp2_with (fail)
        refine (need_any _ HRC.out.r).mono ?_
        rintro e wC ⟨rfl, h1, h2⟩
        rw [show (R && inQ bs a 4 && decide ((pd : Int) ≤ (n : Int) - (a : Int))) = (R && inQ bs a 4 && (decide (9 ≤ L) && decide (pd ≤ n - a))) by
          rw [decide_eq_true H9.out, Bool.true_and]; congr 1; congr 1; exact propext (by omega)] at h1
        have HRD := Lib.hid (STEP.out _ _ _ _ _ _ HRC.out h1 h2 (fun h => HZ3.out true (by rw [h]; rfl) (fun h => by cases h)))
        clear h1 h2 HRC HRB d1 d2 d3 d4
        have d1 := cells_1 HRD.out.h1
        have d2 := cells_1 HRD.out.h2
        obtain ⟨d3, d4⟩ := cells_2 HRD.out.r.h
        go_wp2_with (fail)
        gi_wp2_with (fail)
        refine ⟨trivial, (callsIn_wide.2 (has_any hI ((a : Int) + 4) (a + 4) ⟨#[0, 2, 2, 0]⟩ [0, 2, 2, 0] (by rw [Lib.toList_data]) rfl (by decide) (by decide) (by push_cast; rfl) (by omega) HRD.out.r)).mono ?_⟩
        rintro e wE ⟨rfl, h1, h2⟩
        obtain ⟨r4, hr4⟩ : ∃ r, (R && inQ bs a 4 && (decide (9 ≤ L) && decide (pd ≤ n - a)) && (cut bs (a + 4) 4 == [0, 2, 2, 0])) = r := ⟨_, rfl⟩
        have HRE := STEP.out _ _ _ _ _ _ HRD.out h1 h2 (fun h => HZ3.out _ h (fun h5 => by simp only [List.length_cons, List.length_nil, Nat.zero_add, Nat.reduceAdd] at h5; unfold rowOk; rw [h5, Bool.and_false]))
        simp only [List.length_cons, List.length_nil, Nat.zero_add, Nat.reduceAdd] at HRE
        rw [hr4] at HRE
        have HRE := Lib.hid HRE
        clear h1 h2 HRD d1 d2 d3 d4
        have d1 := cells_1 HRE.out.h1
        have d2 := cells_1 HRE.out.h2
        obtain ⟨d3, d4⟩ := cells_2 HRE.out.r.h
        cases r4 with
        | false =>
          gi_wp2_with (fail)
          refine bodyPost_ret (results_none rfl _ _ _) rfl ?_
          exact ⟨⟨_, rfl⟩, FIN.out _ HRE.out⟩
        | true =>
          simp only [Bool.and_eq_true, decide_eq_true_eq] at hr4
          obtain ⟨⟨⟨hRt, hin4⟩, hL9, hpdn⟩, hmk⟩ := hr4
          have hok : rowOk bs a = true := by unfold rowOk; rw [hL, hpd, hnl, hin4, hmk, decide_eq_true hL9, decide_eq_true hpdn]; rfl
          obtain ⟨ba, oa, q0, hA, hba, _, _⟩ := hI.r.at_ (k := 0) (by omega)
          obtain ⟨lo, hlo⟩ : ∃ x, a + L = x := ⟨_, rfl⟩
          obtain ⟨hi, hhi⟩ : ∃ x, a + pd = x := ⟨_, rfl⟩
          have e7 : (a : Int) + (L : Int) = (lo : Int) := by omega
          have e8 : (a : Int) + (pd : Int) = (hi : Int) := by omega
          obtain ⟨SA, hSA⟩ : ∃ SA : Option Addr, (if c = lo then some (⟨ba, oa, none⟩ : Addr) else some ⟨ba, oa + lo, none⟩) = SA := ⟨_, rfl⟩
          have hRF := rb_takeP (rb_cutP (show RB w0 (some ⟨ba, oa, none⟩) n bs from hA ▸ hI.r) hnc (show lo ≤ n by omega)) (show hi - lo ≤ n - lo by omega)
          rw [hSA] at hRF
          obtain ⟨fl, hfl⟩ : ∃ x, (bs.drop lo).take (hi - lo) = x := ⟨_, rfl⟩
          rw [hfl] at hRF
          have hfill : fillB bs a = fl.all fun q => q == 0 := by
            unfold fillB
            rw [hL, hpd, hlo, ← hfl, show pd - L = hi - lo by omega]
            rfl
          obtain ⟨m, hm⟩ : ∃ x, hi - lo = x := ⟨_, rfl⟩
          rw [hm] at hRF
          have i3 : (0 : Int) ≤ (lo : Int) := by omega
          have i4 : (lo : Int) ≤ (hi : Int) := by omega
          have i5 : (hi : Int) ≤ (c : Int) := by omega
          have i6 : (lo : Int) ≤ (c : Int) := by omega
          have HRF := Lib.hid hRF
          have HOK := Lib.hid (And.intro hok (And.intro hfill hpdn))
          have HML : m ≤ 8 := by omega
          have HHI := Lib.hid hhi
          clear hRF hok hfill hfl hba hmk hin4 hlo hhi
          gi_wp2_with (fail)
          refine wpIn_wide.2 ?_
          go_quiet (fail)
          have HRF9 := Lib.hid (NEW.out _ _ _ _ _ HRE.out (kp_drewN (Below.refl _ _) nq))
          generalize wE.drewN nq = wF at *
          clear HRE d1 d2 d3 d4 hSA e7 e8 i3 i4 i5 i6 HZ3 FIN e5 e6
          gi_wp2_with (fail)
          gi_loopw [7, 61] (fun _ u wr => ∃ (k : Nat) (R5 : Bool), u = .int .i64 (k : Int) ∧ k ≤ m ∧ Hid (R5 = (fl.take k).all fun q => q == 0) ∧ Hid (RI w0 g A n c b1 b2 a0 bs Y pre a R5 wr)) (fun _ u _ => m - (intOf u).toNat)
          case atStart => exact ⟨0, true, rfl, Nat.zero_le _, rfl, HRF9⟩
          case round =>
            obtain ⟨k, R5, rfl, hkm, HF, HRI⟩ := hrel
            have d1 := cells_1 HRI.out.h1
            have d2 := cells_1 HRI.out.h2
            obtain ⟨d3, d4⟩ := cells_2 HRI.out.r.h
            by_cases hklt : k < m
            · have j1 : decide ((k : Int) < (m : Int)) = true := by simp; omega
              have j3 : IntKind.i64.wrap ((k : Int) + 1) = (k : Int) + 1 := IntWalk.i64_in _ (by omega)
              obtain ⟨bb, ob, q, hSb, hbb, hq, kq⟩ := (HRF.out.below HRI.out.r.b).at_ hklt
              subst hSb
              gi_wp2_with (fail)
              refine ⟨trivial, (callsIn_wide.2 (need_any _ HRI.out.r)).mono ?_⟩
              rintro e wG ⟨rfl, h1, h2⟩
              have hz6 : ∀ b6 : Bool, (b6 = false → ¬ q = 0) → (R5 && b6) = false → rowsQ bs a0 = none := by
                intro b6 h6 h
                cases hb : b6 with
                | true => rw [hb, Bool.and_true] at h; exact HRI.out.z h
                | false =>
                  have hq0 := h6 hb
                  have hnone : rowsQ bs a = none → rowsQ bs a0 = none := fun e => by rw [HL.out hRt, e]; rfl
                  refine hnone (rowsQ_no (by omega) ?_)
                  rw [HOK.out.1, Bool.true_and, HOK.out.2.1, Bool.eq_false_iff]
                  intro hall
                  exact hq0 (by simpa using List.all_eq_true.1 hall q (List.mem_of_getElem? hq))
              have hnx : (R5 && decide (q = 0)) = (fl.take (k + 1)).all fun q => q == 0 := by
                rw [List.take_add_one, hq, List.all_append, HF.out]
                simp
                rfl
              have e9 : ((q.toNat : Int) == 0) = decide (q = 0) := by
                by_cases h : q = 0
                · subst h; rfl
                · have : q.toNat ≠ 0 := fun e => h (UInt8.toNat_inj.1 e)
                  simp [h]; omega
              have e10 : decide (q.toNat = 0) = decide (q = 0) := by rw [← e9]; by_cases h : q.toNat = 0 <;> simp [h] <;> omega
              have h1' : RdS w0 g A n c (R5 && decide (q = 0)) wG := by first | exact e9 ▸ h1 | exact e10 ▸ h1
              have HRG := Lib.hid (STEP.out _ _ _ _ _ _ HRI.out h1' h2 (hz6 _ (fun h => of_decide_eq_false h)))
              have HNX := Lib.hid hnx
              have HM6 := Lib.hid HMEAS.out
              clear h1 h1' h2 e9 e10 hz6 hnx HRI HF hq kq hbb d1 d2 d3 d4
              gi_wp2_with (fail)
              go_roundw
              case rel => exact ⟨k + 1, (R5 && decide (q = 0)), by go_num, by omega, HNX, HRG⟩
              case measure => simp [intOf]; omega
            · have j1 : decide ((k : Int) < (m : Int)) = false := by simp; omega
              obtain rfl : k = m := by omega
              gi_wp2_with (fail)
              have hflm : fl.length = k := HRF.out.1
              have hR5 : R5 = fillB bs a := by rw [HF.out, HOK.out.2.1, ← hflm, List.take_length]
              have HR5 := Lib.hid hR5
              have CC : Hid (∀ W, Below wr.heap.size wr W → Calls Tryd.prog 53 #[.slice (some ⟨ba, oa, none⟩) n c, .int .i64 ((a : Int) + 8), .int .i64 ((L : Int) - 8)] W (FreshCut W (cut bs (a + 8) (L - 8)))) := fun W hW => by
                have m1 : ((a + 8 : Nat) : Int) = (a : Int) + 8 := by push_cast; rfl
                have m2 : ((L - 8 : Nat) : Int) = (L : Int) - 8 := by omega
                have := cut_ok A n c bs (a + 8) (L - 8) W (hI.r.below (kp_call HRI.out.r.b hW)) hnc hcc (by omega) (by omega)
                rwa [m1, m2, hA] at this
              have d3' : wr.cell? ⟨g, 0, none⟩ = some (.slice (some ⟨ba, oa, none⟩) n c) := by rw [← hA]; exact d3
              have KEEP : Hid (∀ W, Below wr.heap.size wr W → (W.cell? ⟨b1, 0, none⟩ = some (.int .i64 (a : Int)) ∧ W.cell? ⟨b2, 0, none⟩ = some (.pointer (some ⟨g, 0, none⟩)) ∧ W.cell? ⟨g, 0, none⟩ = some (.slice (some ⟨ba, oa, none⟩) n c)) ∧ Below wr.heap.size wr W) :=
                fun W h => ⟨⟨kp_cell h d1, kp_cell h d2, kp_cell h d3'⟩, h⟩
              clear hflm hR5 HF d3
              have d3 := d3'
              clear d3'
              have w1 : IntKind.i64.wrap ((a : Int) + 8) = (a : Int) + 8 := IntWalk.i64_in _ (by omega)
              have w2 : IntKind.i64.wrap ((L : Int) - 8) = (L : Int) - 8 := IntWalk.i64_in _ (by omega)
              refine wpIn_wide.2 ?_
              go_region_held3 (fun W => (W.cell? ⟨b1, 0, none⟩ = some (.int .i64 (a : Int)) ∧ W.cell? ⟨b2, 0, none⟩ = some (.pointer (some ⟨g, 0, none⟩)) ∧ W.cell? ⟨g, 0, none⟩ = some (.slice (some ⟨ba, oa, none⟩) n c)) ∧ Below wr.heap.size wr W)
                ((apply KEEP.out; repeat (with_reducible (first | assumption | exact Below.refl _ _ | refine kp_drew ?_ | refine kp_call ?_ (by assumption)))))
                ((go_at_call 53; (with_reducible refine (CC.out _ (by (go_split_ands; assumption))).mono ?_); (rintro e X1 ⟨X, m2, c2, rfl, ho2, hb2⟩; have H2 : Hid (Below wr.heap.size wr X1) := (by (first | exact hb2 | exact (kp_drew (Below.refl _ _)).trans hb2)))))
              all_goals
                have HRX := NEW.out _ _ _ _ _ HRI.out H2.out
                have hD2 : D + 2 ≤ wr.heap.size := by obtain ⟨_, ⟨r9, hl⟩⟩ := HYb.out _ _ HRI.out.y; have := block_lt hl; omega
                have hm2 := ho2.len
                rw [cut_len _ _ _ (by omega)] at hm2
                have hQ : OwnB X1 (D + 2) X m2 c2 (cut bs (a + 8) (L - 8)) := ho2.lower (by simpa using hD2)
                have hfr : ∀ y ∈ pre, blk y.1 = none ∨ blk y.1 ≠ blk X := by
                  intro y hy
                  cases hby : blk y.1 with
                  | none => exact .inl rfl
                  | some k9 =>
                    right
                    intro e
                    have h1 := HIo.out _ _ (HYI.out _ _ HRI.out.y).1 y hy k9 hby
                    have h2 := (ho2.blk_lt e.symm).1
                    simp at h2
                    omega
                obtain ⟨fn, tmps, assign, body, hy, hRR⟩ := HY.out pre (X, m2, c2, cut bs (a + 8) (L - 8)) X1 HRX.y ⟨hQ, by show m2 ≤ 16777216; omega, hfr⟩ (by omega)
                dsimp only [sigEnc, Own1.val] at hy
                have HRX := Lib.hid HRX
                clear ho2 hb2 hQ hfr CC KEEP w1 w2 d1 d2 d3 d4 H2 HRF j1
                gi_wp2
                refine hRR.mono ?_
                rintro e W3 (⟨rfl, hJ3, hk3⟩ | ⟨rfl, hZ3⟩)
                · have hb3 := HIb.out _ _ (HYI.out _ _ hJ3).1
                  have q1 := (hk3 b1 (.inl rfl)).trans HRX.out.h1
                  have q2 := (hk3 b2 (.inr (.inl rfl))).trans HRX.out.h2
                  have q3 := (hk3 g (.inr (.inr rfl))).trans HRX.out.r.h
                  have d1 := cells_1 q1
                  have f1 := free_1 q1
                  have e8 : (a : Int) + (pd : Int) = (hi : Int) := by have := HHI.out; omega
                  have HN : Hid (RI w0 g A n c b1 b2 a0 bs Y (pre ++ [(X, m2, c2, cut bs (a + 8) (L - 8))]) hi R5 (W3.setCell ⟨b1, 0, none⟩ (.int .i64 (hi : Int)))) := by
                    refine ⟨HYs.out _ _ _ hJ3 ⟨HIs.out _ _ _ (HYI.out _ _ hJ3).1, fun e => by simp at e⟩ (heap_set_far _ _ _ _ _ (by omega)) (heap_set_far _ _ _ _ _ (by omega)), ⟨has_set q3 (fun e => hne.2.1 e.symm), kp_set hb3 hw1, HRX.out.r.g⟩, set_1 q1, has_set q2 (fun e => hne.1 e.symm), fun e => HRX.out.z e, fun e => by simp at e⟩
                  have HLN : Hid (R5 = true → rowsQ bs a0 = (rowsQ bs hi).map (((pre ++ [((X, m2, c2, cut bs (a + 8) (L - 8)) : Own1)]).map fun x => x.2.2.2) ++ ·)) := by
                    intro h
                    rw [HL.out hRt, rowsQ_yes (by omega) HOK.out.1 (by rw [← HR5.out]; exact h), hpd, hL, Option.map_map, HHI.out]
                    congr 1
                    funext l
                    simp
                  have HQ1 := Lib.hid (set_1 (v0 := .int .i64 (hi : Int)) q1)
                  have hhn : hi ≤ n ∧ a < hi ∧ pre.length + 1 ≤ hi := by have := HHI.out; omega
                  clear q1 q2 q3 hb3 hJ3 hk3 hRR HRX
                  gi_wp2
                  go_roundw
                  case rel => exact ⟨_, hi, R5, HN, hhn.1, by simpa using hhn.2.2, HLN⟩
                  case measure => rw [boxI_of HQ1.out, HMEAS.out]; omega
                · gi_wp2
                  refine bodyPost_ret (results_none rfl _ _ _) rfl ?_
                  exact ⟨⟨_, rfl⟩, .inr ⟨_, trivial, hZ3⟩⟩
      · have t1 : decide ((9 : Int) ≤ (L : Int)) = false := by simp; omega
        have H9 := Lib.hid h9
        clear h9
        refine wpIn_wide.2 ?_
        refine wp_region_still_tail 14 (by kernel_rfl) (by kernel_rfl) ?_
        simp only [List.take_succ_cons, List.take_zero, List.drop_succ_cons, List.drop_zero]
        iterate 14 ((with_reducible refine wpStill_step (fun K hK => ?_)); go_simp; (with_reducible refine hK _ ?_); clear hK K)
        with_reducible refine wpStill_nil ?_
        change wpList _ _ _ _ _ wB.drew
        go_wp2_with (fail)
        refine (need_any _ HRC.out.r).mono ?_
        rintro e wC ⟨rfl, h1, h2⟩
        rw [show (R && inQ bs a 4 && false) = false by simp] at h1
        have HRD := Lib.hid (STEP.out _ _ _ _ _ _ HRC.out h1 h2 (fun _ => HZ3.out true (by rw [decide_eq_false H9.out]; simp) (fun h => by cases h)))
        clear h1 h2 HRC HRB d1 d2 d3 d4
        have d1 := cells_1 HRD.out.h1
        have d2 := cells_1 HRD.out.h2
        obtain ⟨d3, d4⟩ := cells_2 HRD.out.r.h
        go_wp2_with (fail)
        gi_wp2_with (fail)
        refine ⟨trivial, (callsIn_wide.2 (has_any hI ((a : Int) + 4) (a + 4) ⟨#[0, 2, 2, 0]⟩ [0, 2, 2, 0] (by rw [Lib.toList_data]) rfl (by decide) (by decide) (by push_cast; rfl) (by omega) HRD.out.r)).mono ?_⟩
        rintro e wE ⟨rfl, h1, h2⟩
        have HRE := Lib.hid (STEP.out _ _ _ _ _ _ HRD.out h1 h2 (fun _ => HRD.out.z rfl))
        rw [Bool.false_and] at HRE
        clear h1 h2 HRD d1 d2 d3 d4
        have d1 := cells_1 HRE.out.h1
        have d2 := cells_1 HRE.out.h2
        obtain ⟨d3, d4⟩ := cells_2 HRE.out.r.h
        gi_wp2_with (fail)
        refine bodyPost_ret (results_none rfl _ _ _) rfl ?_
        exact ⟨⟨_, rfl⟩, FIN.out _ HRE.out⟩
    · have i1 : decide ((a : Int) < (n : Int)) = false := by simp; omega
      gi_wp2_with (fail)
      refine wpIn_wide.2 ?_
      go_quiet (fail)
      gi_wp2_with (fail)
      go_end0
      have HQ : rowsQ bs a = some [] := rowsQ_end (by omega)
      have HR2 := NEW.out _ _ _ _ _ HR.out (kp_drewN (Below.refl _ _) nq)
      refine ⟨⟨_, rfl⟩, .inl ⟨pre, ⟨R, HR2.r, fun e => ?_, fun e => ?_⟩, HR2.y⟩⟩
      · rw [HL.out e, HQ]; simp
      · exact HR2.z e
end Go.Proofs.YtjfpiidofbjdhaaDoor
