/-
  der: the pieces of bytes; the iterator over them.
-/
import Derived.Test.YtamkbedbkjndgaaRg
import Derived.Stop.RegionWithIn
import Derived.Test.YtamkbedbkjndgaaDrT
import Derived.Test.YtamkbedbkjndgaaDrO
namespace Go.Proofs.Ytamkbedbkjndgaa
open Go.RowKit Go
set_option linter.unusedVariables false
set_option maxRecDepth 100000
attribute [local go_sem] Oper.semAt_some
/-- The elements of which bytes consist: each whole, and its body. -/
def allQ (bs : List UInt8) : Option (List (List UInt8 × List UInt8)) :=
  if h : bs = [] then some [] else match hq : splitQ bs with
    | none => none
    | some (s, t) => (allQ (bs.drop t)).map ((bs.take t, (bs.take t).drop s) :: ·)
termination_by bs.length
decreasing_by
  have := splitQ_le hq
  rw [List.length_drop]
  omega
theorem allQ_nil : allQ [] = some [] := by unfold allQ; rfl
theorem allQ_none {bs : List UInt8} (hn : bs ≠ []) (h : splitQ bs = none) : allQ bs = none := by
  unfold allQ
  rw [dif_neg hn]
  split
  · rfl
  · rename_i hq; rw [h] at hq; cases hq
theorem allQ_some {bs : List UInt8} {s t : Nat} (h : splitQ bs = some (s, t)) : allQ bs = (allQ (bs.drop t)).map ((bs.take t, (bs.take t).drop s) :: ·) := by
  have hn : bs ≠ [] := by rintro rfl; cases h
  conv => lhs; unfold allQ
  rw [dif_neg hn]
  split
  · rename_i hq; rw [h] at hq; cases hq
  · rename_i s' t' hq
    rw [h] at hq
    cases hq
    rfl
/-- A piece, as it lies in memory: its bytes' slice, its body's slice, and what they read as. -/
structure PV where
  ra : Option Addr
  rn : Nat
  rc : Nat
  ba : Option Addr
  bn : Nat
  bc : Nat
  raw : List UInt8
  body : List UInt8
def PV.cells (p : PV) : List Value := [.slice p.ra p.rn p.rc, .slice p.ba p.bn p.bc]
def PV.val (p : PV) : Value := .agg #[.slice p.ra p.rn p.rc, .slice p.ba p.bn p.bc]
structure PV.Ok (w : World) (m : Nat) (p : PV) : Prop where
  r : RB w p.ra p.rn p.raw
  b : RB w p.ba p.bn p.body
  two : 2 ≤ p.rn
  le : p.rn ≤ m
  ble : p.bn ≤ p.rn
  cle : p.bn ≤ p.bc
  cc : p.bc ≤ 9223372036854775807
def pvEnc : Option PV → Array Value
  | some p => #[p.val, .bool true]
  | none => #[.agg #[.slice none 0 0, .slice none 0 0], .bool false]
def boxLen (B : Nat) (w : World) : Nat := match w.cell? ⟨B, 0, none⟩ with
  | some (.slice _ k _) => k
  | _ => 0
theorem boxLen_of {w : World} {B : Nat} {A : Option Addr} {n c : Nat} {t : TypeId} (h : w.heap[B]? = some (.cells #[.slice A n c] t)) : boxLen B w = n := by
  unfold boxLen
  rw [cells_1 h]
/-- What a round says, by its answer. -/
def YZ (Y Z : List (Option PV) → World → Prop) (xs : List (Option PV)) (Bx : Nat) (wr : World) (r : Bool) (W' : World) : Prop := (r = true → Y xs W' ∧ W'.heap[Bx]? = wr.heap[Bx]?) ∧ (r = false → Z xs W')
theorem pieces_any (A : Option Addr) (n c : Nat) (w : World) :
    Calls Try.prog 49 #[.slice A n c] w fun e w' => e = .returned (.func (.func 53) #[] #[.pointer (some ⟨w.heap.size, 0, none⟩)]) ∧ w' = w.alloc (.cells #[.slice A n c] 22) := by
  go_enter Try.func49, Try.ntmps49
  go_wp2
  go_ret
  exact ⟨rfl, rfl⟩
set_option maxHeartbeats 1000000 in
/-- The iterator: it hands out the pieces, and at last, where bytes are left that begin with none, says so. -/
theorem pieces1_in (n0 c0 D Bx : Nat) (A0 : Option Addr) (bs : List UInt8) (w0 : World) (hR0 : RB w0 A0 n0 bs) (hnc : n0 ≤ c0) (hn : n0 ≤ 1000000000) (hc : c0 ≤ 9223372036854775807) (hBx : w0.heap.size ≤ Bx) (hBD : Bx < D)
    (I : List (Option PV) → World → Prop) (hIb : ∀ pre W, I pre W → Below w0.heap.size w0 W)
    (hIs : ∀ pre W u, I pre W → I pre (W.setCell ⟨Bx, 0, none⟩ u)) (hId : ∀ pre W k, I pre W → I pre (W.drewN k)) (hI0 : ∀ pre W, I pre W → I pre W.drew) :
    IterOf Try.prog 4 D 53 #[.pointer (some ⟨Bx, 0, none⟩)] pvEnc (· = Bx) (fun pre W => I pre W ∧ (pre = [] → W.heap[Bx]? = some (.cells #[.slice A0 n0 c0] 22)))
      (fun xs => (∃ ps : List PV, xs = ps.map some ∧ (∀ p ∈ ps, p.Ok w0 n0) ∧ allQ bs = some (ps.map fun p => (p.raw, p.body))) ∨ (∃ ps : List PV, xs = ps.map some ++ [none])) (fun pre => (∃ ps : List PV, pre = ps.map some ++ [none]) → allQ bs = none) (n0 + 1) := by
  intro Y Z hYI hYs hY hYb W1 hY0
  have hh0 := (hYI _ _ hY0).2 rfl
  refine callsIn_of_wp Try.func53 rfl trivial ?_ rfl
  simp only [Try.ntmps53, List.size_toArray, List.length_cons, List.length_nil, Nat.reduceAdd, Nat.reduceSub, Array.replicate_succ, Array.replicate_zero, List.push_toArray, List.append_toArray, List.nil_append, List.cons_append]
  gi_wp2
  gi_loopw [3] (fun u wr => ∃ (ps : List PV) (A1 : Option Addr) (n1 c1 : Nat) (rest : List UInt8), Y (ps.map some) wr ∧ wr.heap[Bx]? = some (.cells #[.slice A1 n1 c1] 22) ∧ RB w0 A1 n1 rest ∧ n1 ≤ c1 ∧ c1 ≤ c0 ∧ Hid (n1 + ps.length ≤ n0) ∧ Hid (∀ p ∈ ps, p.Ok w0 n0) ∧ Hid (allQ bs = (allQ rest).map ((ps.map fun p => (p.raw, p.body)) ++ ·)))
    (fun _ wr => boxLen Bx wr)
  case atStart => exact ⟨[], A0, n0, c0, bs, hY0, hh0, hR0, hnc, Nat.le_refl _, Nat.le_refl _, (by intro p hp; cases hp), by unfold Hid; cases allQ bs <;> simp⟩
  case round =>
    obtain ⟨ps, A1, n1, c1, rest, hJ, hbx, hR1, hnc1, hcc1, HB, HO, HX⟩ := hrel
    have hcell := cells_1 hbx
    have hmeas := Lib.hid (boxLen_of hbx)
    by_cases h0 : 0 < n1
    · obtain ⟨b, off, d, rfl, hb, hd, hcd⟩ := hR1.at_ (k := 0) h0
      clear hd hcd
      have hne : rest ≠ [] := by rintro rfl; have := hR1.1; simp at this; omega
      have hB := HB.out
      have hJb := hIb _ _ (hYI _ _ hJ).1
      have C := fun W (hw : Below w0.heap.size w0 W) => split_any (some ⟨b, off, none⟩) n1 c1 rest W (hR1.below hw) hnc1 (by omega)
      have hlen : (ps.map some).length < n0 + 1 := by simp; omega
      cases hq : splitQ rest with
      | none =>
        have HN : Hid (allQ bs = none) := by unfold Hid; rw [HX.out, allQ_none hne hq]; rfl
        have C2 : Hid (Calls Try.prog 45 #[.slice (some ⟨b, off, none⟩) n1 c1] wr fun e w' => (∃ s t : Int, e = .returned (.tuple #[.int .i64 s, .int .i64 t, .bool false])) ∧ ∃ k, w' = wr.drewN k) := (C wr hJb).mono fun e w' hp => by
          unfold SplitPost at hp; rw [hq] at hp; exact hp
        have hJd := fun k => hYs _ wr (wr.drewN k) hJ ⟨hId _ _ _ (hYI _ _ hJ).1, fun e => (hYI _ _ hJ).2 e⟩ rfl rfl
        have HY := Lib.hid (fun k => hY (ps.map some) none (wr.drewN k) (hJd k) hlen)
        clear C hq hh0 hcell
        have hcell := cells_1 hbx
        gi_wp2_with (refine ⟨trivial, ?_⟩; gi_at_call 45; refine (callsIn_wide.2 C2.out).mono ?_; rintro e w' ⟨⟨s, t, rfl⟩, k, rfl⟩; obtain ⟨fn, tmps, assign, body, hy, hR⟩ := HY.out k; dsimp only [pvEnc] at hy)
        refine hR.mono ?_
        rintro e W3 (⟨rfl, hJ3, hk3⟩ | ⟨rfl, hJx3⟩)
        · gi_wp2
          refine bodyPost_ret (results_none rfl _ _ _) rfl ?_
          exact ⟨⟨_, rfl⟩, .inl ⟨_, .inr ⟨ps, rfl⟩, hJ3⟩⟩
        · gi_wp2
          refine bodyPost_ret (results_none rfl _ _ _) rfl ?_
          exact ⟨⟨_, rfl⟩, .inr ⟨_, fun _ => HN.out, hJx3⟩⟩
      | some p =>
        obtain ⟨s, t⟩ := p
        obtain ⟨hs2, hst, htn⟩ := splitQ_le hq
        rw [hR1.1] at htn
        obtain ⟨SA, hSA⟩ : ∃ SA : Option Addr, (if c1 = s then some ⟨b, off, none⟩ else some ⟨b, off + s, none⟩) = SA := ⟨_, rfl⟩
        obtain ⟨TA, hTA⟩ : ∃ TA : Option Addr, (if c1 = t then some ⟨b, off, none⟩ else some ⟨b, off + t, none⟩) = TA := ⟨_, rfl⟩
        have hRS := rb_cut (rb_take hR1 htn) (show t ≤ c1 by omega) hst
        have hRT := rb_cut hR1 hnc1 htn
        rw [hSA] at hRS
        rw [hTA] at hRT
        have HRT := Lib.hid hRT
        have HP : Hid (PV.Ok w0 n0 ⟨some ⟨b, off, none⟩, t, c1, SA, t - s, c1 - s, rest.take t, (rest.take t).drop s⟩) := ⟨rb_take hR1 htn, hRS, by show 2 ≤ t; omega, by show t ≤ n0; omega, by show t - s ≤ t; omega, by show t - s ≤ c1 - s; omega, by show c1 - s ≤ 9223372036854775807; omega⟩
        have HN : Hid (allQ bs = (allQ (rest.drop t)).map (((ps ++ [⟨some ⟨b, off, none⟩, t, c1, SA, t - s, c1 - s, rest.take t, (rest.take t).drop s⟩] : List PV).map fun p => (p.raw, p.body)) ++ ·)) := by
          unfold Hid
          rw [HX.out, allQ_some hq, Option.map_map]
          congr 1
          funext l
          simp
        have C2 : Hid (Calls Try.prog 45 #[.slice (some ⟨b, off, none⟩) n1 c1] wr fun e w' => e = .returned (.tuple #[.int .i64 (s : Int), .int .i64 (t : Int), .bool true]) ∧ ∃ k, w' = wr.drewN k) := (C wr hJb).mono fun e w' hp => by
          unfold SplitPost at hp; rw [hq] at hp; exact hp
        have hJd := fun k => hYs _ wr (wr.drewN k) hJ ⟨hId _ _ _ (hYI _ _ hJ).1, fun e => (hYI _ _ hJ).2 e⟩ rfl rfl
        have i1 : (0 : Int) ≤ (s : Int) := by omega
        have i2 : (s : Int) ≤ (t : Int) := by omega
        have i3 : (t : Int) ≤ (n1 : Int) := by omega
        have i4 : (n1 : Int) ≤ (c1 : Int) := by omega
        have i5 : (t : Int) ≤ (c1 : Int) := by omega
        have HY := Lib.hid (fun k => hY (ps.map some) (some ⟨some ⟨b, off, none⟩, t, c1, SA, t - s, c1 - s, rest.take t, (rest.take t).drop s⟩) (wr.drewN k) (hJd k) hlen)
        clear C hq hh0 hcell hRS hRT hJd
        have hcell := cells_1 hbx
        gi_wp2_with (refine ⟨trivial, ?_⟩; gi_at_call 45; refine (callsIn_wide.2 C2.out).mono ?_; rintro e w' ⟨rfl, k, rfl⟩; have hck : (wr.drewN k).cell? ⟨Bx, 0, none⟩ = some (.slice (some ⟨b, off, none⟩) n1 c1) := hcell; obtain ⟨fn, tmps, assign, body, hy, hR⟩ := HY.out (k + 1); dsimp only [pvEnc, PV.val] at hy; replace hR := hR.mono (R' := fun e W' => ∃ r : Bool, e = .returned (.bool r) ∧ YZ Y Z (ps.map some ++ [some ⟨some ⟨b, off, none⟩, t, c1, SA, t - s, c1 - s, rest.take t, (rest.take t).drop s⟩]) Bx wr r W') (fun e W' h => by
          rcases h with ⟨he, h1, h2⟩ | ⟨he, h1⟩
          · exact ⟨true, he, fun _ => ⟨h1, h2 Bx rfl⟩, fun h => by cases h⟩
          · exact ⟨false, he, fun h => (by cases h), fun _ => h1⟩))
        gi_region_with (refine hR.mono ?_; rintro e W3 ⟨r, rfl, hp⟩)
        all_goals
          cases r with
          | false =>
            have hZ := hp.2 rfl
            clear hp
            gi_wp2
            refine bodyPost_ret (results_none rfl _ _ _) rfl ?_
            exact ⟨⟨_, rfl⟩, .inr ⟨_, fun ⟨ps', e'⟩ => by
              exfalso
              have := congrArg List.getLast? e'
              simp at this, hZ⟩⟩
          | true =>
            obtain ⟨hJ3, hk3⟩ := hp.1 rfl
            have hbx3 := hk3.trans hbx
            have hcell3 := cells_1 hbx3
            have hfree3 := free_1 hbx3
            have hset3 := set_1 (v0 := .slice TA (n1 - t) (c1 - t)) hbx3
            have hJ4 := hYs _ W3 (W3.setCell ⟨Bx, 0, none⟩ (.slice TA (n1 - t) (c1 - t))) hJ3 ⟨hIs _ _ _ (hYI _ _ hJ3).1, fun e => by simp at e⟩ (heap_set_far _ _ _ _ _ (by omega)) (heap_set_far _ _ _ _ _ (by omega))
            clear hp hcell
            gi_wp2
            go_roundw
            case rel => exact ⟨ps ++ [⟨some ⟨b, off, none⟩, t, c1, SA, t - s, c1 - s, rest.take t, (rest.take t).drop s⟩], TA, n1 - t, c1 - t, rest.drop t, by simpa using hJ4, hset3, HRT.out, by omega, by omega, by have := HB.out; unfold Hid; simp; omega, by
                intro p hp
                rcases List.mem_append.1 hp with hp | hp
                · exact HO.out p hp
                · rw [List.mem_singleton.1 hp]; exact HP.out, HN⟩
            case measure => rw [boxLen_of hset3, hmeas.out]; omega
    · have hr0 : rest = [] := List.length_eq_zero_iff.1 (by have := hR1.1; omega)
      subst hr0
      obtain rfl : n1 = 0 := by omega
      have HN : Hid (allQ bs = some (ps.map fun p => (p.raw, p.body))) := by unfold Hid; rw [HX.out, allQ_nil]; simp
      gi_wp2
      go_end0
      exact ⟨⟨_, rfl⟩, .inl ⟨_, .inl ⟨ps, rfl, HO.out, HN.out⟩, hJ⟩⟩
end Go.Proofs.Ytamkbedbkjndgaa
