/-
  der: Set of the document, and of the program
-/
import Derived.Test.YtamkbedbkjndgaaAlA
import Derived.Test.YtamkbedbkjndgaaDrSt
import Derived.Test.YtamkbedbkjndgaaSr1
namespace Go.Proofs.Ytamkbedbkjndgaa
open Go.RowKit Go
set_option linter.unusedVariables false
set_option linter.unusedSimpArgs false
set_option maxRecDepth 100000
/-- Are bytes elements in the order of a set? -/
def setQ (bs : List UInt8) : Bool := match allQ bs with
  | none => false
  | some l => ordB (l.map Prod.fst)
def BoolPost (w : World) (x : Bool) (e : Ending) (w' : World) : Prop := e = .returned (.bool x) ∧ Below w.heap.size w w'
theorem set_any (A : Option Addr) (n c : Nat) (bs : List UInt8) (w : World) (hR : RB w A n bs) (hnc : n ≤ c) (hn : n ≤ 1000000000) (hc : c ≤ 9223372036854775807) :
    Calls Try.prog 15 #[.slice A n c] w (BoolPost w (setQ bs)) := by
  cases hq : allQ bs with
  | none =>
    have C : Hid (Calls Try.prog 32 #[.slice A n c] w fun e w' => e = .returned (.tuple #[.slice none 0 0, .int .i64 9]) ∧ Below w.heap.size w w') := (list_any A n c bs w hR hnc hn hc).mono fun e w' hp => by
      unfold ListPost at hp; rw [hq] at hp; exact hp
    have e : setQ bs = false := by unfold setQ; rw [hq]
    rw [e]
    clear hq hR e
    go_enter Try.func15, Try.ntmps15
    go_wp2_with fail
    refine C.out.mono ?_
    rintro e w' ⟨rfl, hb⟩
    go_wp2
    go_ret
    exact ⟨rfl, hb⟩
  | some l =>
    have C : Hid (Calls Try.prog 32 #[.slice A n c] w fun e w' => (∃ (A : Option Addr) (m c : Nat) (ps : List PV), e = .returned (.tuple #[.slice A m c, .int .i64 0]) ∧ ps.map (fun p => (p.raw, p.body)) = l ∧ (∀ p ∈ ps, p.Ok w n) ∧ OwnR w' w.heap.size 60 2 A m c (ps.flatMap PV.cells)) ∧ Below w.heap.size w w') := (list_any A n c bs w hR hnc hn hc).mono fun e w' hp => by
      unfold ListPost at hp; rw [hq] at hp; exact hp
    have HLL : Hid (l.length ≤ 1000000000) := by
      have := allQ_len _ bs _ (Nat.le_refl _) hq
      rw [hR.1] at this
      unfold Hid; omega
    have e : setQ bs = ordB (l.map Prod.fst) := by unfold setQ; rw [hq]
    rw [e]
    clear hq hR e
    go_enter Try.func15, Try.ntmps15
    go_wp2_with fail
    refine C.out.mono ?_
    rintro e w1 ⟨⟨A1, m, c1, ps, rfl, hps, hok, hown⟩, hb1⟩
    have hm : ps.length = m := by have := hown.len; rw [cells_flat] at this; omega
    have hml : m ≤ 1000000000 := by have := congrArg List.length hps; simp at this; have := HLL.out; omega
    have hraw : l.map Prod.fst = ps.map PV.raw := by rw [← hps, List.map_map]; rfl
    have HRW := Lib.hid hraw
    have S := Lib.hid (sorted_any A1 m c1 ps w1 hm hml hown.reads (fun p hp => (hok p hp).r.below hb1))
    have HB := Lib.hid hb1
    clear hm hps hok hown hraw hb1
    go_wp2_with fail
    refine S.out.mono ?_
    rintro e w2 ⟨rfl, hb2⟩
    go_wp2
    go_ret
    exact ⟨by rw [HRW.out]; rfl, kp_call HB.out hb2⟩
set_option maxHeartbeats 1000000 in
theorem rset_any (A : Option Addr) (n c : Nat) (bs : List UInt8) (w : World) (hR : RB w A n bs) (hnc : n ≤ c) (hn : n ≤ 1000000000) (hc : c ≤ 9223372036854775807) :
    Calls Try.prog 16 #[.slice A n c] w (BoolPost w (setQ bs)) := by
  cases hq : allQ bs with
  | none =>
    have C : Hid (Calls Try.prog 11 #[.slice A n c] w fun e w' => e = .returned (.tuple #[.slice none 0 0, .int .i64 9]) ∧ Below w.heap.size w w') := (rall_any A n c bs w hR hnc hn hc).mono fun e w' hp => by
      unfold AllPost at hp; rw [hq] at hp; exact hp
    have e : setQ bs = false := by unfold setQ; rw [hq]
    rw [e]
    clear hq hR e
    go_enter Try.func16, Try.ntmps16
    go_wp2_with fail
    refine C.out.mono ?_
    rintro e w' ⟨rfl, hb⟩
    go_wp2
    go_ret
    exact ⟨rfl, hb⟩
  | some l =>
    have C : Hid (Calls Try.prog 11 #[.slice A n c] w fun e w' => (∃ (A : Option Addr) (n c : Nat) (vs : List EV), e = .returned (.tuple #[.slice A n c, .int .i64 0]) ∧ vs.map (fun v => (v.raw, v.body)) = l ∧ OwnR w' w.heap.size 43 3 A n c (vs.flatMap EV.cells) ∧ Evs w' w.heap.size vs) ∧ Below w.heap.size w w') := (rall_any A n c bs w hR hnc hn hc).mono fun e w' hp => by
      unfold AllPost at hp; rw [hq] at hp; exact hp
    have HLL : Hid (l.length ≤ 1000000000) := by
      have := allQ_len _ bs _ (Nat.le_refl _) hq
      rw [hR.1] at this
      unfold Hid; omega
    have e : setQ bs = ordB (l.map Prod.fst) := by unfold setQ; rw [hq]
    rw [e]
    clear hq hR e
    go_enter Try.func16, Try.ntmps16
    go_wp2_with fail
    refine C.out.mono ?_
    rintro e w1 ⟨⟨A1, m, c1, vs, rfl, hps, hown, hev⟩, hb1⟩
    have hm : vs.length = m := by have := hown.len; rw [ecells_flat] at this; omega
    have hml : m ≤ 1000000000 := by have := congrArg List.length hps; simp at this; have := HLL.out; omega
    have hraw : l.map Prod.fst = vs.map EV.raw := by rw [← hps, List.map_map]; rfl
    have HRW := Lib.hid hraw
    have HM := Lib.hid hm
    have HOW := Lib.hid hown.reads
    have HOK : Hid (∀ v ∈ vs, RB w1 v.ra v.rn v.raw) := fun v hv => (hev.pair hv).2.rb
    clear hm hps hown hev hraw
    go_wp2
    go_loopw [5] (fun i wl => ∃ j : Nat, i = .int .i64 ((j : Int) + 1) ∧ Below w1.heap.size w1 wl ∧ j ≤ m ∧ Hid (∀ i, i < j → i + 1 < m → badA (vs.map EV.raw) i = false)) (fun i _ => m + 1 - (intOf i).toNat)
    case atStart => exact ⟨0, rfl, Below.refl _ _, Nat.zero_le _, fun i hi => absurd hi (Nat.not_lt_zero _)⟩
    case round =>
      obtain ⟨i, rfl, hb, hjm, HB⟩ := hrel
      by_cases hlt : i + 1 < m
      · obtain ⟨p, hp⟩ : ∃ p, vs[i]? = some p := ⟨_, List.getElem?_eq_getElem (by rw [HM.out]; omega)⟩
        obtain ⟨q, hq⟩ : ∃ q, vs[i + 1]? = some q := ⟨_, List.getElem?_eq_getElem (by rw [HM.out]; omega)⟩
        obtain ⟨_, _, e1⟩ := eflat_get vs p i hp
        obtain ⟨_, _, e3⟩ := eflat_get vs q (i + 1) hq
        obtain ⟨b, off, rfl, hbb, c1⟩ := HOW.out.at_ e1
        obtain ⟨b', off', e', _, c3⟩ := HOW.out.at_ e3
        cases e'
        rw [← Nat.add_assoc] at c1 c3
        have hbad : badA (vs.map EV.raw) i = decide (Lib.compareBytes q.raw p.raw < 0) := by
          unfold badA
          rw [List.getD_eq_getElem?_getD, List.getD_eq_getElem?_getD, List.getElem?_map, List.getElem?_map, hp, hq]
          rfl
        have HBad := Lib.hid hbad
        have hrq := HOK.out q (List.mem_of_getElem? hq)
        have hrp := HOK.out p (List.mem_of_getElem? hp)
        have CC := Lib.hid (fun W (hw : Below w1.heap.size w1 W) => ahead_any q.ra p.ra q.rn q.rc p.rn p.rc _ _ W (hrq.below hw) (hrp.below hw))
        have d1 := kp_cell hb c1
        have d2 := kp_cell hb c3
        clear c1 c3 e1 e3 hp hq hbad hrq hrp
        have hw1 : IntKind.i64.wrap ((i : Int) + 1 - 1) = (i : Int) := by rw [IntKind.wrap_i64]; omega
        have i1 : (i : Int) + 1 < (m : Int) := by omega
        have i2 : (i : Int) < (m : Int) := by omega
        have i3 : ((i : Int) + 1).toNat = i + 1 := by omega
        have i4 : (0 : Int) ≤ (i : Int) + 1 := by omega
        have i5 : (0 : Int) ≤ (i : Int) := by omega
        have i6 : ((i : Int)).toNat = i := by omega
        have hw2 : IntKind.i64.wrap (i : Int) = (i : Int) := by rw [IntKind.wrap_i64]; omega
        have i7 : i < m := by omega
        have hbd := kp_drew hb
        go_wp2
        go_region_held3 (fun W => W.cell? ⟨b, off + i * 3 + 2, none⟩ = some (.slice p.ra p.rn p.rc) ∧ W.cell? ⟨b, off + (i + 1) * 3 + 2, none⟩ = some (.slice q.ra q.rn q.rc) ∧ Below w1.heap.size w1 W) (go_keep) ((go_at_call 41; (with_reducible refine (CC.out _ (by (go_split_ands; first | assumption | (refine kp_drew ?_; assumption)))).mono ?_); (rintro e w2 ⟨rfl, rfl⟩; have hb3 := kp_drew hb)))
        by_cases hc : Lib.compareBytes q.raw p.raw < 0
        · have t : decide (Lib.compareBytes q.raw p.raw < 0) = true := by simpa using hc
          have HO : Hid (ordB (vs.map EV.raw) = false) := ord_no (i := i) (by rw [List.length_map, HM.out]; exact hlt) (HBad.out.trans t)
          go_wp2
          go_ret
          exact ⟨by rw [HRW.out, HO.out]; rfl, kp_call hb1 hb3⟩
        · have t : decide (Lib.compareBytes q.raw p.raw < 0) = false := by simpa using hc
          have HN : Hid (badA (vs.map EV.raw) i = false) := HBad.out.trans t
          go_wp2
          go_roundw
          case rel => exact ⟨i + 1, by go_num, hb3, by omega, fun k h1 h2 => by
            rcases Nat.lt_or_ge k i with e | e
            · exact HB.out k e h2
            · obtain rfl : k = i := by omega
              exact HN.out⟩
          case measure => simp [intOf]; omega
      · have HO : Hid (ordB (vs.map EV.raw) = true) := ord_yes (fun k hk => HB.out k (by rw [List.length_map, HM.out] at hk; omega) (by rw [List.length_map, HM.out] at hk; omega))
        have t1 : ¬ (i : Int) + 1 < (m : Int) := by omega
        go_wp2
        go_ret
        exact ⟨by rw [HRW.out, HO.out]; rfl, kp_call hb1 hb⟩
end Go.Proofs.Ytamkbedbkjndgaa
