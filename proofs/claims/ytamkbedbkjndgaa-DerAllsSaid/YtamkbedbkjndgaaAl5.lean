/-
  der: the statement on all elements.
-/
import Derived.Test.YtamkbedbkjndgaaRoomy
import Derived.Test.YtamkbedbkjndgaaAl2
import Derived.Test.YtamkbedbkjndgaaAl3
import Derived.Test.YtamkbedbkjndgaaAl4
import Derived.Test.YtamkbedbkjndgaaDrWk
namespace Go.Proofs.Ytamkbedbkjndgaa
open Go.RowKit Go
set_option linter.unusedVariables false
set_option linter.unusedSimpArgs false
set_option maxRecDepth 100000
def allL (bs : List UInt8) : List (List UInt8 × List UInt8) := (allQ bs).getD []
def allE (bs : List UInt8) : Nat := match allQ bs with | none => 9 | some _ => 0
def AllR (w : World) (bs : List UInt8) (e : Ending) (w' : World) : Prop :=
  (∃ (A : Option Addr) (n c : Nat) (vs : List EV), e = .returned (.tuple #[.slice A n c, .int .i64 (allE bs : Int)]) ∧ vs.map (fun v => (v.raw, v.body)) = allL bs ∧ OwnR w' w.heap.size 43 3 A n c (vs.flatMap EV.cells) ∧ Evs w' w.heap.size vs) ∧ Below w.heap.size w w'
theorem all_r {w w' : World} {bs : List UInt8} {e : Ending} (h : AllPost w bs e w') : AllR w bs e w' := by
  unfold AllPost at h
  unfold AllR allE allL
  cases hq : allQ bs with
  | none =>
    rw [hq] at h
    obtain ⟨rfl, hb⟩ := h
    exact ⟨⟨none, 0, 0, [], rfl, rfl, OwnR.nil _ _ _ _, Evs.nil _ _⟩, hb⟩
  | some l =>
    rw [hq] at h
    exact h
theorem alls_big (A : Option Addr) (n c : Nat) (w : World) (hb : 8192 < n) :
    Calls Try.prog 3 #[.slice A n c] w fun e w' => e = .returned (.bool true) ∧ Below w.heap.size w w' := by
  have W := Lib.hid (works_any w)
  have L := Lib.hid (large_any A n c w)
  have hd : decide ((8192 : Int) < (n : Int)) = true := by simp; omega
  rw [hd] at L
  clear hd
  go_enter Try.func3, Try.ntmps3
  go_wp2_with fail
  refine L.out.mono ?_
  rintro e w' ⟨rfl, rfl⟩
  go_wp2_with fail
  refine W.out.mono ?_
  rintro e w' ⟨rfl, hb⟩
  go_wp2
  go_ret
  exact ⟨rfl, hb⟩
theorem alls_apart (A1 A : Option Addr) (n c1 m k : Nat) (bs : List UInt8) (vs : List EV) (b0 b1 : Nat) (w : World) (hb01 : b0 ≤ b1) (hb1 : b1 ≤ w.heap.size) (hn : n ≤ 8192) (hrm : Roomed w b0 A1 n c1 bs) (hlt : ∀ g, blk A1 = some g → g < b1) (hown : OwnR w b1 43 3 A m k (vs.flatMap EV.cells)) (hev : Evs w b1 vs) (hm : m ≤ 200)
    (hl : ∀ v ∈ vs, v.raw.length ≤ 8192 ∧ v.body.length ≤ 8192) :
    Calls Try.prog 18 #[.slice A m k, .slice (some ⟨w.heap.size, 0, none⟩) 1 1] (w.alloc (.cells #[.slice A1 n c1] 22)) fun e w' => e = .returned (.bool true) ∧ Below b0 w w' := by
  have hmv : vs.length = m := by have := hown.len; rw [ecells_flat] at this; omega
  have hba := kp_alloc (Below.refl w.heap.size w) (.cells #[.slice A1 n c1] 22)
  refine (apart_law A (some ⟨w.heap.size, 0, none⟩) m k 1 1 vs [(A1, n, c1, (bs ++ marks).take n)] _ b0 hmv (by omega) (hown.reads.alloc _) ?_ rfl (by omega) (by omega) (by simp; omega) ?_ ?_).mono fun e w' h => ⟨h.1, (hba.mono (Nat.le_trans hb01 hb1)).trans h.2⟩
  · intro _
    refine ⟨w.heap.size, 0, rfl, by simp, fun j u hu => ?_⟩
    rw [cell_of_row _ w.heap.size (0 + j) _ _ _ (has_new w _), Nat.zero_add]
    have hu : ([Value.slice A1 n c1] : List Value)[j]? = some u := by simpa [Own1.val] using hu
    simpa using hu
  · intro x hx
    rcases List.mem_append.1 hx with hx | hx
    · refine ⟨((hev.own x hx).alloc _).lower hb01, ?_⟩
      obtain ⟨v, hv, hxv⟩ := List.mem_flatMap.1 hx
      have h1 := (hev.own x hx).len
      have h2 := hl v hv
      simp only [EV.own, List.mem_cons, List.not_mem_nil, or_false] at hxv
      rcases hxv with rfl | rfl <;> (simp only at h1 ⊢; omega)
    · rw [List.mem_singleton.1 hx]
      exact ⟨(hrm.2.cutTo n (by omega)).alloc _, by simp only; omega⟩
  · rw [List.pairwise_append]
    refine ⟨hev.far, by simp, fun x hx y hy => ?_⟩
    rw [List.mem_singleton.1 hy]
    have hx1 := hev.own x hx
    cases e : blk x.1 with
    | none => exact .inl rfl
    | some g =>
      right
      intro e2
      have h1 := (hx1.blk_lt e).1
      have h2 := hlt g e2.symm
      omega
set_option maxHeartbeats 2000000 in
theorem alls_go (A : Option Addr) (n c : Nat) (bs : List UInt8) (w : World) (hb : ¬ 8192 < n) (h : IsBs w A n c bs) :
    Calls Try.prog 3 #[.slice A n c] w fun e w' => e = .returned (.bool true) ∧ Below w.heap.size w w' := by
  have W := Lib.hid (fun W => works_any W)
  have L := Lib.hid (large_any A n c w)
  have hd : decide ((8192 : Int) < (n : Int)) = false := by simp; omega
  rw [hd] at L
  have hn : n ≤ 8192 := by omega
  have hnc := h.le
  have hcc : c ≤ 9223372036854775807 := by have := h.max; unfold maxLen at this; omega
  have RA := Lib.hid h.rb
  have RM := Lib.hid (roomy_any A n c bs w h.rb (by omega))
  have HLn := Lib.hid h.len
  have HPL : Hid (∀ p ∈ allL bs, p.1.length ≤ 8192 ∧ p.2.length ≤ 8192) := by
    intro p hp
    unfold allL at hp
    cases hq : allQ bs with
    | none => rw [hq] at hp; simp at hp
    | some l =>
      rw [hq] at hp
      have := allQ_parts _ bs l (Nat.le_refl _) hq p hp
      have := h.len
      omega
  have HLL : Hid ((allL bs).length ≤ 8192) := by
    unfold Hid allL
    cases hq : allQ bs with
    | none => simp
    | some l =>
      have := allQ_len _ bs l (Nat.le_refl _) hq
      have := h.len
      simp only [Option.getD_some]
      omega
  clear hd hb h
  go_enter Try.func3, Try.ntmps3
  go_wp2_with fail
  refine L.out.mono ?_
  rintro e w' ⟨rfl, rfl⟩
  go_wp2_with fail
  refine RM.out.mono ?_
  rintro e w1 ⟨A1, c1, rfl, hrm, hb1⟩
  have hc1 : n ≤ c1 := by have := hrm.2.cap.1; omega
  have hc2 : c1 ≤ maxLen := hrm.2.cap.2
  have hc3 : c1 ≤ 9223372036854775807 := by unfold maxLen at hc2; omega
  have P2 := Lib.hid ((all_any A1 n c1 bs w1 hrm.rb hc1 (by omega) hc3).mono fun e w' h => all_r h)
  have HRM := Lib.hid hrm
  have HLT : Hid (∀ g, blk A1 = some g → g < w1.heap.size) := fun g hg => (hrm.2.blk_lt hg).2
  clear hrm hc2
  go_wp2_with fail
  refine P2.out.mono ?_
  rintro e w2 ⟨⟨LA, m, k, vs, rfl, hvs, hown, hev⟩, hb2⟩
  have hbw2 := kp_call hb1 hb2
  have P3 := Lib.hid ((rall_any A n c bs w2 (RA.out.below hbw2) hnc (by omega) hcc).mono fun e w' h => all_r h)
  have HVS := Lib.hid hvs
  have HOW := Lib.hid hown
  have HEV := Lib.hid hev
  have S1 := Lib.hid hb1.size
  have S2 := Lib.hid hb2.size
  have HB2 := Lib.hid hb2
  clear hvs hown hev hb2 hb1
  go_wp2_with fail
  refine P3.out.mono ?_
  rintro e w3 ⟨⟨MA, m', k', us, rfl, hus, hown', hev'⟩, hb3⟩
  have hbw3 := kp_call hbw2 hb3
  have hmv : vs.length = m := by have := HOW.out.len; rw [ecells_flat] at this; omega
  have hmu : us.length = m' := by have := hown'.len; rw [ecells_flat] at this; omega
  have hvl : vs.length = (allL bs).length := by rw [← HVS.out]; simp
  have hul : us.length = (allL bs).length := by rw [← hus]; simp
  obtain rfl : m' = m := by omega
  have hm : m' ≤ 8192 := by have := HLL.out; omega
  have EQ := Lib.hid (req_same LA MA m' k k' vs us w3 hmv (by omega) ((HOW.out.below hb3 (Nat.le_refl _)).reads) hown'.reads (HVS.out.trans hus.symm) ((HEV.out.below hb3 (Nat.le_refl _)).oks) hev'.oks)
  have HB3 := Lib.hid hb3
  clear hown' hev' hus hmu hul hvl hmv hbw2 hb3
  go_wp2_with fail
  refine EQ.out.mono ?_
  rintro e w4 ⟨rfl, hb4⟩
  have hbw4 := kp_call hbw3 hb4
  have B24 := Lib.hid (kp_call HB3.out hb4)
  have C1 := Lib.hid (Check_any A1 n c1 bs w4 ((HRM.out.below HB2.out (Nat.le_refl _)).below B24.out (Nat.le_refl _)).rb hc1 (by omega) hc3)
  clear hb4 hbw3
  go_wp2_with fail
  refine C1.out.mono ?_
  rintro e w5 ⟨rfl, hb5⟩
  have hbw5 := kp_call hbw4 hb5
  have B25 := Lib.hid (kp_call B24.out hb5)
  have C2 := Lib.hid (rCheck_any A n c bs w5 (RA.out.below hbw5) hnc (by omega) hcc)
  clear hb5 hbw4
  go_wp2_with fail
  refine C2.out.mono ?_
  rintro e w6 ⟨rfl, hb6⟩
  have hbw6 := kp_call hbw5 hb6
  have B26 := Lib.hid (kp_call B25.out hb6)
  have C3 := Lib.hid (set_any A1 n c1 bs w6 ((HRM.out.below HB2.out (Nat.le_refl _)).below B26.out (Nat.le_refl _)).rb hc1 (by omega) hc3)
  clear hb6 hbw5
  obtain ⟨sq, hsq⟩ : ∃ b, setQ bs = b := ⟨_, rfl⟩
  rw [hsq] at C3
  go_wp2_with fail
  refine C3.out.mono ?_
  rintro e w7 ⟨rfl, hb7⟩
  have hbw7 := kp_call hbw6 hb7
  have B27 := Lib.hid (kp_call B26.out hb7)
  have C4 := Lib.hid (rset_any A n c bs w7 (RA.out.below hbw7) hnc (by omega) hcc)
  rw [hsq] at C4
  clear hb7 hbw6 hsq
  go_wp2_with fail
  refine C4.out.mono ?_
  rintro e w8 ⟨rfl, hb8⟩
  have hbw8 := kp_call hbw7 hb8
  have B28 := Lib.hid (kp_call B27.out hb8)
  have K := Lib.hid (kept_any A1 A n n c1 c w.heap.size bs bs w8 ((HRM.out.below HB2.out (Nat.le_refl _)).below B28.out (Nat.le_refl _)) (RA.out.below hbw8) (by omega))
  rw [beq_self_eq_true] at K
  clear hb8 hbw7
  have AP : Hid (m' ≤ 200 → Calls Try.prog 18 #[.slice LA m' k, .slice (some ⟨w8.heap.size, 0, none⟩) 1 1] (w8.alloc (.cells #[.slice A1 n c1] 22)) fun e w' => e = .returned (.bool true) ∧ Below w.heap.size w8 w') := fun h200 => by
    refine alls_apart A1 LA n c1 m' k bs vs w.heap.size w1.heap.size w8 S1.out (Nat.le_trans S2.out B28.out.size) hn ((HRM.out.below HB2.out (Nat.le_refl _)).below B28.out (Nat.le_refl _)) HLT.out (HOW.out.below B28.out (Nat.le_refl _)) (HEV.out.below B28.out (Nat.le_refl _)) h200 (fun v hv => ?_)
    exact HPL.out (v.raw, v.body) (by rw [← HVS.out]; exact List.mem_map.2 ⟨v, hv, rfl⟩)
  cases sq
  all_goals
    go_wp2_with fail
    refine K.out.mono ?_
    rintro e w' ⟨rfl, rfl⟩
    by_cases h200 : m' ≤ 200
    · have AQ := Lib.hid (AP.out h200)
      have i1 : ¬ (200 : Int) < (m' : Int) := by omega
      go_wp2_with fail
      refine AQ.out.mono ?_
      rintro e w9 ⟨rfl, hb9⟩
      have hbw9 := hbw8.trans hb9
      clear hb9
      go_wp2_with fail
      refine (W.out _).mono ?_
      rintro e w' ⟨rfl, hb⟩
      go_wp2
      go_ret
      exact ⟨rfl, kp_call hbw9 hb⟩
    · have i1 : (200 : Int) < (m' : Int) := by omega
      go_wp2_with fail
      refine (W.out _).mono ?_
      rintro e w' ⟨rfl, hb⟩
      go_wp2
      go_ret
      exact ⟨rfl, kp_call hbw8 hb⟩
theorem alls_row (A : Option Addr) (n c : Nat) (bs : List UInt8) (w : World) (h : IsBs w A n c bs) :
    Calls Try.prog 3 #[.slice A n c] w fun e w' => e = .returned (.bool true) ∧ Below w.heap.size w w' := by
  by_cases hb : 8192 < n
  · exact alls_big A n c w hb
  · exact alls_go A n c bs w hb h
end Go.Proofs.Ytamkbedbkjndgaa
