/-
  der: are elements in the order of a set?
-/
import Derived.Test.YtamkbedbkjndgaaCmp
import Derived.Test.YtamkbedbkjndgaaDrK
import Derived.Deep.RegionHeld3
namespace Go.Proofs.Ytamkbedbkjndgaa
open Go.RowKit Go
set_option linter.unusedVariables false
set_option linter.unusedSimpArgs false
set_option maxRecDepth 100000
/-- Number i + 1 stands ahead of number i. -/
def badA (l : List (List UInt8)) (i : Nat) : Bool := decide (Lib.compareBytes (l.getD (i + 1) []) (l.getD i []) < 0)
def ordB (l : List (List UInt8)) : Bool := (List.range (l.length - 1)).all fun i => !badA l i
theorem ord_no {l : List (List UInt8)} {i : Nat} (hi : i + 1 < l.length) (h : badA l i = true) : ordB l = false := by
  unfold ordB
  rw [List.all_eq_false]
  exact ⟨i, List.mem_range.2 (by omega), by simp [h]⟩
theorem ord_yes {l : List (List UInt8)} (h : ∀ i, i + 1 < l.length → badA l i = false) : ordB l = true := by
  unfold ordB
  rw [List.all_eq_true]
  intro i hi
  rw [h i (by have := List.mem_range.1 hi; omega)]
  rfl
theorem setcmp_any (a b c d : Option Addr) (n1 k1 n2 k2 n3 k3 n4 k4 : Nat) (xs ys : List UInt8) (w : World) (h1 : RB w a n1 xs) (h2 : RB w c n3 ys) :
    Calls Try.prog 39 #[.agg #[.slice a n1 k1, .slice b n2 k2], .agg #[.slice c n3 k3, .slice d n4 k4]] w fun e w' => e = .returned (.int .i64 (Lib.compareBytes xs ys)) ∧ Below w.heap.size w w' := by
  have hb := kp_alloc (kp_alloc (Below.refl w.heap.size w) (.cells #[.slice a n1 k1, .slice b n2 k2] 60)) (.cells #[.slice c n3 k3, .slice d n4 k4] 60)
  have C := Lib.hid (compare_any a c n1 k1 n3 k3 xs ys _ (h1.below hb) (h2.below hb))
  have HB := Lib.hid hb
  clear h1 h2 hb
  go_enter Try.func39, Try.ntmps39
  go_wp2_with fail
  refine C.out.mono ?_
  rintro e w' ⟨rfl, rfl⟩
  go_wp2
  go_ret
  exact ⟨rfl, HB.out⟩
set_option maxHeartbeats 1000000 in
theorem sorted_any (A : Option Addr) (n c : Nat) (ps : List PV) (w : World) (hl : ps.length = n) (hn : n ≤ 1000000000) (hR : ReadR w A (ps.flatMap PV.cells)) (hok : ∀ p ∈ ps, RB w p.ra p.rn p.raw) :
    Calls Try.prog 38 #[.slice A n c, .func (Fn.func 39) #[] #[]] w fun e w' => e = .returned (.bool (ordB (ps.map PV.raw))) ∧ Below w.heap.size w w' := by
  have HL := Lib.hid hl
  have HR := Lib.hid hR
  have HOK := Lib.hid hok
  clear hl hR hok
  by_cases hn0 : n = 0
  · subst hn0
    have ho : ordB (ps.map PV.raw) = true := ord_yes (fun i hi => by rw [List.length_map, HL.out] at hi; omega)
    have HO := Lib.hid ho
    clear ho
    go_enter Try.func38, Try.ntmps38
    go_wp2
    refine wp_loop_rounds 1 ?_
    rw [rounds_succ]
    go_wp2
    go_ret
    exact ⟨by rw [HO.out]; rfl, Below.refl _ _⟩
  have hw1 : IntKind.i64.wrap ((n : Int) - 1) = (n : Int) - 1 := by rw [IntKind.wrap_i64]; omega
  go_enter Try.func38, Try.ntmps38
  go_wp2
  clear hw1
  go_loopw [5] (fun i wl => ∃ j : Nat, j < n ∧ i = .int .i64 (j : Int) ∧ Below w.heap.size w wl ∧ Hid (∀ i, j ≤ i → i + 1 < n → badA (ps.map PV.raw) i = false)) (fun i _ => (intOf i).toNat)
  case atStart => exact ⟨n - 1, by omega, by congr 1; omega, Below.refl _ _, fun i h1 h2 => absurd h2 (by omega)⟩
  case round =>
    obtain ⟨j, hj, rfl, hb, HB⟩ := hrel
    by_cases hj0 : j = 0
    · subst hj0
      have HO : Hid (ordB (ps.map PV.raw) = true) := ord_yes (fun i hi => HB.out i (by omega) (by rw [List.length_map, HL.out] at hi; omega))
      go_wp2
      go_ret
      exact ⟨by rw [HO.out]; rfl, hb⟩
    · obtain ⟨i, rfl⟩ : ∃ i, j = i + 1 := ⟨j - 1, by omega⟩
      obtain ⟨p, hp⟩ : ∃ p, ps[i]? = some p := ⟨_, List.getElem?_eq_getElem (by rw [HL.out]; omega)⟩
      obtain ⟨q, hq⟩ : ∃ q, ps[i + 1]? = some q := ⟨_, List.getElem?_eq_getElem (by rw [HL.out]; omega)⟩
      obtain ⟨e1, e2⟩ := flat_get ps p i hp
      obtain ⟨e3, e4⟩ := flat_get ps q (i + 1) hq
      obtain ⟨b, off, rfl, hbb, c1⟩ := HR.out.at_ e1
      obtain ⟨b', off', e', _, c2⟩ := HR.out.at_ e2
      cases e'
      obtain ⟨b', off', e', _, c3⟩ := HR.out.at_ e3
      cases e'
      obtain ⟨b', off', e', _, c4⟩ := HR.out.at_ e4
      cases e'
      rw [← Nat.add_assoc] at c2 c4
      have d1 := kp_cell hb c1
      have d2 := kp_cell hb c2
      have d3 := kp_cell hb c3
      have d4 := kp_cell hb c4
      have hbad : badA (ps.map PV.raw) i = decide (Lib.compareBytes q.raw p.raw < 0) := by
        unfold badA
        rw [List.getD_eq_getElem?_getD, List.getD_eq_getElem?_getD, List.getElem?_map, List.getElem?_map, hp, hq]
        rfl
      have HBad := Lib.hid hbad
      have hrq := HOK.out q (List.mem_of_getElem? hq)
      have hrp := HOK.out p (List.mem_of_getElem? hp)
      have CC := Lib.hid (fun W (hw : Below w.heap.size w W) => setcmp_any q.ra q.ba p.ra p.ba q.rn q.rc q.bn q.bc p.rn p.rc p.bn p.bc _ _ W (hrq.below hw) (hrp.below hw))
      clear c1 c2 c3 c4 e1 e2 e3 e4 hp hq hbad hrq hrp
      have hin : i + 1 < n := hj
      have hw : IntKind.i64.wrap ((i : Int) + 1 - 1) = (i : Int) := by rw [IntKind.wrap_i64]; omega
      have i1 : (i : Int) + 1 < (n : Int) := by omega
      have i2 : (i : Int) < (n : Int) := by omega
      have i3 : ((i : Int) + 1).toNat = i + 1 := by omega
      have i4 : (0 : Int) ≤ (i : Int) + 1 := by omega
      have i5 : i < n := by omega
      have hw2 : IntKind.i64.wrap (i : Int) = (i : Int) := by rw [IntKind.wrap_i64]; omega
      have i6 : (0 : Int) ≤ (i : Int) := by omega
      have i7 : ((i : Int)).toNat = i := by omega
      have hbd := kp_drew hb
      go_wp2
      go_region_held3 (fun W => (W.cell? ⟨b, off + i * 2, none⟩ = some (.slice p.ra p.rn p.rc) ∧ W.cell? ⟨b, off + i * 2 + 1, none⟩ = some (.slice p.ba p.bn p.bc)) ∧ (W.cell? ⟨b, off + (i + 1) * 2, none⟩ = some (.slice q.ra q.rn q.rc) ∧ W.cell? ⟨b, off + (i + 1) * 2 + 1, none⟩ = some (.slice q.ba q.bn q.bc)) ∧ Below w.heap.size w W) (go_keep) ((go_at_call 39; (with_reducible refine (CC.out _ (by (go_split_ands; first | assumption | (refine kp_drew ?_; assumption)))).mono ?_); (rintro e w2 ⟨rfl, hb2⟩; have hb3 := kp_call (kp_drew hb) hb2; have f1 := kp_cell hb2 d1; have f2 := kp_cell hb2 d2; have f3 := kp_cell hb2 d3; have f4 := kp_cell hb2 d4)))
      by_cases hc : Lib.compareBytes q.raw p.raw < 0
      · have t : decide (Lib.compareBytes q.raw p.raw < 0) = true := by simpa using hc
        have HO : Hid (ordB (ps.map PV.raw) = false) := ord_no (i := i) (by rw [List.length_map, HL.out]; exact hin) (HBad.out.trans t)
        go_wp2
        go_ret
        exact ⟨by rw [HO.out]; rfl, hb3⟩
      · have t : decide (Lib.compareBytes q.raw p.raw < 0) = false := by simpa using hc
        have HN : Hid (badA (ps.map PV.raw) i = false) := HBad.out.trans t
        go_wp2
        go_roundw
        case rel => exact ⟨i, i5, by go_num, hb3, fun k h1 h2 => by
          rcases Nat.eq_or_lt_of_le h1 with e | e
          · rw [← e]; exact HN.out
          · exact HB.out k (by omega) h2⟩
        case measure => simp [intOf]
end Go.Proofs.Ytamkbedbkjndgaa
