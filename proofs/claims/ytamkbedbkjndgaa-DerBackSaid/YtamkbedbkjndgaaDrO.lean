/-
  der: Oid.
-/
import Derived.Test.YtamkbedbkjndgaaDrN
import Derived.Test.YtamkbedbkjndgaaRow
namespace Go.Proofs.Ytamkbedbkjndgaa
open Go.RowKit Go
set_option linter.unusedVariables false
set_option maxRecDepth 100000
theorem rb_cut {w : World} {b off n c k : Nat} {bs : List UInt8} (h : RB w (some ⟨b, off, none⟩) n bs) (hnc : n ≤ c) (hk : k ≤ n) :
    RB w (if c = k then some ⟨b, off, none⟩ else some ⟨b, off + k, none⟩) (n - k) (bs.drop k) := by
  refine ⟨by rw [List.length_drop, h.1], ?_⟩
  by_cases e : c = k
  · rw [List.drop_of_length_le (by rw [h.1]; omega)]
    exact Bs.nil
  · rw [if_neg e]
    have h2 := h.2.drop_ k
    simp only [Option.map_some, Addr.add_lit] at h2
    exact h2
theorem rb_take {w : World} {A : Option Addr} {n k : Nat} {bs : List UInt8} (h : RB w A n bs) (hk : k ≤ n) : RB w A k (bs.take k) :=
  ⟨by rw [List.length_take, h.1]; omega, h.2.take_ k⟩
theorem numG_le : ∀ (bs : List UInt8) (x i X N : Nat), numG bs x i = some (X, N) → i < N ∧ N ≤ i + bs.length
  | [], _, _, _, _, h => by cases h
  | d :: r, x, i, X, N, h => by
    rw [numG_cons] at h
    split at h; cases h
    split at h
    · simp only [Option.some.injEq, Prod.mk.injEq] at h
      obtain ⟨_, rfl⟩ := h
      simp
    · have := numG_le r _ _ _ _ h
      simp; omega
theorem numG_lt : ∀ (bs : List UInt8) (x i X N : Nat), numG bs x i = some (X, N) → X < 18446744073709551616
  | [], _, _, _, _, h => by cases h
  | d :: r, x, i, X, N, h => by
    rw [numG_cons] at h
    split at h; cases h
    split at h
    · simp only [Option.some.injEq, Prod.mk.injEq] at h
      omega
    · exact numG_lt r _ _ _ _ h
theorem numQ_le {bs : List UInt8} {X N : Nat} (h : numQ bs = some (X, N)) : 1 ≤ N ∧ N ≤ bs.length := by
  have := numG_le _ _ _ _ _ h; omega
theorem numQ_lt {bs : List UInt8} {X N : Nat} (h : numQ bs = some (X, N)) : X < 18446744073709551616 := numG_lt _ _ _ _ _ h
/-- The numbers of which bytes consist. -/
def numsQ (bs : List UInt8) : Option (List Nat) :=
  if h : bs = [] then some [] else match hq : numQ bs with
    | none => none
    | some (x, n) => (numsQ (bs.drop n)).map (x :: ·)
termination_by bs.length
decreasing_by
  have := numQ_le hq
  have : bs.length ≠ 0 := fun e => h (List.length_eq_zero_iff.1 e)
  rw [List.length_drop]
  omega
theorem numsQ_nil : numsQ [] = some [] := by unfold numsQ; rfl
theorem numsQ_none {bs : List UInt8} (hn : bs ≠ []) (h : numQ bs = none) : numsQ bs = none := by
  unfold numsQ
  rw [dif_neg hn]
  split
  · rfl
  · rename_i x n hq; rw [h] at hq; cases hq
theorem numsQ_some {bs : List UInt8} {x n : Nat} (h : numQ bs = some (x, n)) : numsQ bs = (numsQ (bs.drop n)).map (x :: ·) := by
  have hn : bs ≠ [] := by rintro rfl; cases h
  conv => lhs; unfold numsQ
  rw [dif_neg hn]
  split
  · rename_i hq; rw [h] at hq; cases hq
  · rename_i x' n' hq
    rw [h] at hq
    cases hq
    rfl
/-- The arcs that numbers tell. -/
def arcs : List Nat → List Nat
  | [] => []
  | x :: r => min (x / 40) 2 :: (x - 40 * min (x / 40) 2) :: r
theorem arcs_snoc (l : List Nat) (x : Nat) (h : l ≠ []) : arcs (l ++ [x]) = arcs l ++ [x] := by
  cases l with
  | nil => exact absurd rfl h
  | cons y r => rfl
theorem arcs_len (l : List Nat) : (arcs l).length ≤ l.length + 1 := by cases l <;> simp [arcs]
def oidQ (bs : List UInt8) : Option (List Nat) := match numsQ bs with
  | some (x :: r) => some (arcs (x :: r))
  | _ => none
abbrev u64v (x : Nat) : Value := .int .u64 (x : Int)
theorem u64_row : RowT 38 55 1 8 (.int .u64 0) := ⟨Try.underlying38, by kernel_rfl, rfl, by decide⟩
def OidPost (w : World) (bs : List UInt8) (e : Ending) (w' : World) : Prop :=
  (match oidQ bs with
    | some l => ∃ A n c, e = .returned (.tuple #[.slice A n c, .bool true]) ∧ OwnR w' w.heap.size 55 1 A n c (l.map u64v)
    | none => ∃ A c, e = .returned (.tuple #[.slice A 0 c, .bool false])) ∧ Below w.heap.size w w'
theorem oid_no {w w' : World} {bs : List UInt8} {A : Option Addr} {c : Nat} (h : oidQ bs = none) (hb : Below w.heap.size w w') : OidPost w bs (.returned (.tuple #[.slice A 0 c, .bool false])) w' := by
  unfold OidPost; rw [h]; exact ⟨⟨A, c, rfl⟩, hb⟩
theorem oid_yes {w w' : World} {bs : List UInt8} {l : List Nat} {A : Option Addr} {n c : Nat} (h : oidQ bs = some l) (ho : OwnR w' w.heap.size 55 1 A n c (l.map u64v)) (hb : Below w.heap.size w w') : OidPost w bs (.returned (.tuple #[.slice A n c, .bool true])) w' := by
  unfold OidPost; rw [h]; exact ⟨⟨A, n, c, rfl, ho⟩, hb⟩
theorem oid_any (A : Option Addr) (n c : Nat) (bs : List UInt8) (w : World) (hR : RB w A n bs) (hnc : n ≤ c) (hn : n ≤ 1000000000) (hcc : c ≤ 9223372036854775807) :
    Calls Try.prog 28 #[.slice A n c] w (OidPost w bs) := by
  have HLn := Lib.hid hR.1
  go_enter Try.func28, Try.ntmps28
  go_wp2
  go_loopw [0, 4] (fun v u wl => ∃ (A1 : Option Addr) (n1 c1 : Nat) (rest : List UInt8) (A2 : Option Addr) (n2 c2 : Nat) (pre : List Nat), v = .slice A1 n1 c1 ∧ u = .slice A2 n2 c2 ∧ RB w A1 n1 rest ∧ n1 ≤ c1 ∧ c1 ≤ c ∧ OwnR wl w.heap.size 55 1 A2 n2 c2 ((arcs pre).map u64v) ∧ Below w.heap.size w wl ∧ Hid (numsQ bs = (numsQ rest).map (pre ++ ·)) ∧ Hid (pre.length + n1 ≤ n)) (fun v _ _ => match v with | .slice _ k _ => k | _ => 0)
  case atStart => exact ⟨A, n, c, bs, none, 0, 0, [], rfl, rfl, hR, hnc, Nat.le_refl _, OwnR.nil _ _ _ _, Below.refl _ _, by unfold Hid; cases numsQ bs <;> simp, by unfold Hid; simp⟩
  case round =>
    obtain ⟨A1, n1, c1, rest, A2, n2, c2, pre, rfl, rfl, hR1, hnc1, hcc1, hown, hbl, HX, HB⟩ := hrel
    clear hR
    have hl2 := hown.len
    have hal := arcs_len pre
    have hB := HB.out
    simp only [List.length_map, Nat.mul_one] at hl2
    have hn2 : n2 ≤ 1000000001 := by omega
    have hn1 : n1 ≤ 1000000000 := by omega
    have HL2 := Lib.hid hl2
    clear hl2 hal hB
    by_cases h0 : 0 < n1
    · obtain ⟨b, off, d, rfl, hb, hd, hcell⟩ := hR1.at_ (k := 0) h0
      clear hd hcell
      have C := Lib.hid (number_any (some ⟨b, off, none⟩) n1 c1 rest wr (hR1.below hbl) (by omega))
      have HR1 := Lib.hid hR1
      clear hR1
      cases hq : numQ rest with
      | none =>
        have HN : Hid (oidQ bs = none) := by
          have hne : rest ≠ [] := by rintro rfl; have := HR1.out.1; simp at this; omega
          unfold Hid oidQ
          rw [HX.out, numsQ_none hne hq]; rfl
        have C2 : Hid (Calls Try.prog 47 #[.slice (some ⟨b, off, none⟩) n1 c1] wr fun e w' => e = .returned (.tuple #[.int .u64 0, .int .i64 0, .bool false]) ∧ wr = w') := by
          refine C.out.mono fun e w' h => ?_
          unfold NumPost at h; rw [hq] at h; exact h
        clear C hq
        go_wp2_with fail
        refine C2.out.mono ?_
        rintro e w' ⟨rfl, rfl⟩
        go_wp2
        go_ret2
        exact oid_no HN.out hbl
      | some p =>
        obtain ⟨X, N⟩ := p
        obtain ⟨hN1, hN2⟩ := numQ_le hq
        have hX := numQ_lt hq
        have hN3 : N ≤ n1 := by rw [← HR1.out.1]; exact hN2
        clear hN2
        have C2 : Hid (Calls Try.prog 47 #[.slice (some ⟨b, off, none⟩) n1 c1] wr fun e w' => e = .returned (.tuple #[.int .u64 (X : Int), .int .i64 (N : Int), .bool true]) ∧ wr = w') := by
          refine C.out.mono fun e w' h => ?_
          unfold NumPost at h; rw [hq] at h; exact h
        have HN : Hid (numsQ bs = (numsQ (rest.drop N)).map ((pre ++ [X]) ++ ·)) := by
          unfold Hid
          rw [HX.out, numsQ_some hq, Option.map_map]
          congr 1
          funext l
          simp
        have hB2 : Hid ((pre ++ [X]).length + (n1 - N) ≤ n) := by
          have := HB.out
          unfold Hid
          simp; omega
        have hcut : (N < c1 ∧ Hid (RB w (some ⟨b, off + N, none⟩) (n1 - N) (rest.drop N))) ∨ (c1 = N ∧ n1 = N ∧ Hid (RB w (some ⟨b, off, none⟩) 0 (rest.drop N))) := by
          have h3 := rb_cut HR1.out hnc1 hN3
          by_cases e : c1 = N
          · rw [if_pos e] at h3
            have e2 : n1 = N := by omega
            rw [show n1 - N = 0 by omega] at h3
            exact .inr ⟨e, e2, h3⟩
          · rw [if_neg e] at h3
            exact .inl ⟨by omega, h3⟩
        clear C hq
        have hsz := hbl.size
        by_cases hp : 0 < n2
        · have hpre : pre ≠ [] := by rintro rfl; have := HL2.out; simp [arcs] at this; omega
          have HA := Lib.hid (arcs_snoc pre X hpre)
          rcases hcut with ⟨hcap, HRN⟩ | ⟨rfl, rfl, HRN⟩
          all_goals
            go_wp2_with fail
            refine C2.out.mono ?_
            rintro e w' ⟨rfl, rfl⟩
            go_wp2_with (at_builtin; refine wpList_appL u64_row _ _ rfl rfl rfl w.heap.size A2 n2 c2 _ rfl (hown.alloc _) _ 1 1 #[.int .u64 (X : Int)] (0, 0) rfl (heap_alloc_new _ _) rfl (by intro u hu; simp at hu; subst hu; rfl) (by unfold maxLen; omega) (by omega) (by simp; omega) ?_)
            intro A4 c4 w4 hown4 hg4
            have hbl4 : Below w.heap.size w w4 := (hbl.alloc hsz _).grown hg4 (by simp; omega) (fun g hg => (hown.blk_lt hg).1)
            go_wp2
            go_roundw
            case rel => exact ⟨_, _, _, _, A4, _, c4, pre ++ [X], rfl, rfl, HRN.out, by omega, by omega, by rw [HA.out, List.map_append]; exact hown4, hbl4, HN, by simpa using hB2⟩
            case measure => simp; omega
        · obtain rfl : n2 = 0 := by omega
          have hpre : pre = [] := by
            have := HL2.out
            cases pre with
            | nil => rfl
            | cons x r => simp [arcs] at this
          subst hpre
          by_cases hx1 : X < 120
          · have hF : min (X / 40) 2 = X / 40 := by omega
            have h40 : (X : Int) / 40 ≤ (2 : Int) := by omega
            have HA : Hid ((arcs ([] ++ [X])).map u64v = #[Value.int .u64 ((X : Int) / 40), .int .u64 ((X : Int) - 40 * ((X : Int) / 40))].toList) := by
              unfold Hid
              simp only [List.nil_append, arcs, hF, List.map_cons, List.map_nil, u64v]
              congr 2
              all_goals (try congr 1)
              all_goals omega
            clear hF
            rcases hcut with ⟨hcap, HRN⟩ | ⟨rfl, rfl, HRN⟩
            all_goals
              go_wp2_with fail
              refine C2.out.mono ?_
              rintro e w' ⟨rfl, rfl⟩
              go_wp2_with (at_builtin; refine wpList_appL u64_row _ _ rfl rfl rfl w.heap.size A2 0 c2 _ rfl (hown.alloc _) _ 2 2 #[.int .u64 ((X : Int) / 40), .int .u64 ((X : Int) - 40 * ((X : Int) / 40))] (0, 0) rfl (heap_alloc_new _ _) rfl (by intro u hu; simp at hu; rcases hu with rfl | rfl <;> rfl) (by unfold maxLen; omega) (by omega) (by simp; omega) ?_)
              intro A4 c4 w4 hown4 hg4
              have hbl4 : Below w.heap.size w w4 := (hbl.alloc hsz _).grown hg4 (by simp; omega) (fun g hg => (hown.blk_lt hg).1)
              go_wp2
              go_roundw
              case rel => exact ⟨_, _, _, _, A4, _, c4, [] ++ [X], rfl, rfl, HRN.out, by omega, by omega, by rw [HA.out]; exact hown4, hbl4, HN, by simpa using hB2⟩
              case measure => simp; omega
          · have hF : min (X / 40) 2 = 2 := by omega
            have h40 : (2 : Int) < (X : Int) / 40 := by omega
            have HA : Hid ((arcs ([] ++ [X])).map u64v = #[Value.int .u64 (2 : Int), .int .u64 ((X : Int) - 80)].toList) := by
              unfold Hid
              simp only [List.nil_append, arcs, hF, List.map_cons, List.map_nil, u64v]
              congr 2
              all_goals (try congr 1)
              all_goals omega
            clear hF
            rcases hcut with ⟨hcap, HRN⟩ | ⟨rfl, rfl, HRN⟩
            all_goals
              go_wp2_with fail
              refine C2.out.mono ?_
              rintro e w' ⟨rfl, rfl⟩
              go_wp2_with (at_builtin; refine wpList_appL u64_row _ _ rfl rfl rfl w.heap.size A2 0 c2 _ rfl (hown.alloc _) _ 2 2 #[Value.int IntKind.u64 (2 : Int), Value.int IntKind.u64 ((X : Int) - 80)] (0, 0) rfl (heap_alloc_new _ _) rfl (by intro u hu; simp at hu; rcases hu with rfl | rfl <;> rfl) (by unfold maxLen; omega) (by omega) (by simp; omega) ?_)
              intro A4 c4 w4 hown4 hg4
              have hbl4 : Below w.heap.size w w4 := (hbl.alloc hsz _).grown hg4 (by simp; omega) (fun g hg => (hown.blk_lt hg).1)
              go_wp2
              go_roundw
              case rel => exact ⟨_, _, _, _, A4, _, c4, [] ++ [X], rfl, rfl, HRN.out, by omega, by omega, by rw [HA.out]; exact hown4, hbl4, HN, by simpa using hB2⟩
              case measure => simp; omega
    · have hr0 : rest = [] := List.length_eq_zero_iff.1 (by have := hR1.1; omega)
      subst hr0
      have hpre : Hid (numsQ bs = some pre) := by
        have := HX.out
        rw [numsQ_nil] at this
        unfold Hid
        rw [this]; simp
      cases pre with
      | nil =>
        have h20 : n2 = 0 := by have := HL2.out; simpa [arcs] using this.symm
        have HN : Hid (oidQ bs = none) := by unfold Hid oidQ; rw [hpre.out]
        subst h20
        go_wp2
        go_ret2
        exact oid_no HN.out hbl
      | cons x r =>
        have h20 : 0 < n2 := by have := HL2.out; simp [arcs] at this; omega
        have HN : Hid (oidQ bs = some (arcs (x :: r))) := by unfold Hid oidQ; rw [hpre.out]
        go_wp2
        go_ret2
        exact oid_yes HN.out hown hbl
end Go.Proofs.Ytamkbedbkjndgaa
