/-
  siglist: a kind's bytes, what data may be (the program's and the document's) (made by genSi.py).
-/
import Derived.Test.YtfampefflkkckaaDoorSiV
import Derived.Test.YtfampefflkkckaaDoorStT
import Derived.Test.YtfampefflkkckaaDoorOctB1
import Derived.Test.YtfampefflkkckaaDoorRow
import Derived.Test.YtfampefflkkckaaDoorSg
import Derived.Lib.LazyBuf
import Derived.Test.YtfampefflkkckaaDoorCpy
import Derived.Laws.CopyOwn
import Derived.Laws.Tables
import Derived.Laws.Rows
import Derived.Deep.Cut
import Derived.IntWalk
import Derived.Test.YtfampefflkkckaaDoorOctG2
namespace Go.Proofs.YtfampefflkkckaaDoor
open Go.RowKit Go
set_option linter.unusedVariables false
set_option linter.unusedSimpArgs false
set_option maxRecDepth 100000
theorem byte_cases (k : UInt8) : k = 1 ∨ k = 2 ∨ k = 3 ∨ (((k.toNat : Int) == 1) = false ∧ ((k.toNat : Int) == 2) = false ∧ ((k.toNat : Int) == 3) = false ∧ (k.toNat == 1) = false ∧ (k.toNat == 2) = false ∧ (k.toNat == 3) = false ∧ k.toNat ≠ 1 ∧ k.toNat ≠ 2 ∧ k.toNat ≠ 3 ∧ k ≠ 1 ∧ k ≠ 2 ∧ k ≠ 3) := by
  by_cases h1 : k = 1
  · exact .inl h1
  by_cases h2 : k = 2
  · exact .inr (.inl h2)
  by_cases h3 : k = 3
  · exact .inr (.inr (.inl h3))
  refine .inr (.inr (.inr ?_))
  have n1 : k.toNat ≠ 1 := fun h => h1 (UInt8.toNat_inj.1 h)
  have n2 : k.toNat ≠ 2 := fun h => h2 (UInt8.toNat_inj.1 h)
  have n3 : k.toNat ≠ 3 := fun h => h3 (UInt8.toNat_inj.1 h)
  refine ⟨?_, ?_, ?_, ?_, ?_, ?_, n1, n2, n3, h1, h2, h3⟩ <;> (refine beq_eq_false_iff_ne.2 ?_; omega)
theorem guidOf_any (k : UInt8) (w : World) : Calls Tryd.prog 40 #[.int .u8 (k.toNat : Int)] w fun e w' => e = .returned (.string ⟨(guidL k).toArray⟩) ∧ w = w' := by
  rcases byte_cases k with rfl | rfl | rfl | ⟨a1, a2, a3, b1, b2, b3, c1, c2, c3, d1, d2, d3⟩
  · go_enter Tryd.func40, Tryd.ntmps40
    go_wp2
    go_ret
    exact ⟨rfl, rfl⟩
  · go_enter Tryd.func40, Tryd.ntmps40
    go_wp2
    go_ret
    exact ⟨rfl, rfl⟩
  · go_enter Tryd.func40, Tryd.ntmps40
    go_wp2
    go_ret
    exact ⟨rfl, rfl⟩
  · have e : guidL k = [] := by unfold guidL; rw [if_neg d1, if_neg d2, if_neg d3]
    rw [e]
    clear e d1 d2 d3
    go_enter Tryd.func40, Tryd.ntmps40
    go_wp2
    go_ret
    exact ⟨rfl, rfl⟩
theorem name_any (k : UInt8) (w : World) : Calls Tryd.prog 38 #[.int .u8 (k.toNat : Int)] w (Fresh w (guidL k)) := by
  rcases byte_cases k with rfl | rfl | rfl | ⟨a1, a2, a3, b1, b2, b3, c1, c2, c3, d1, d2, d3⟩
  · go_enter Tryd.func38, Tryd.ntmps38
    go_wp2
    go_ret
    exact ⟨_, _, _, rfl, OwnR.lit _ _ 1 _ 16 (by decide) rfl, (Below.refl _ _).alloc (Nat.le_refl _) _⟩
  · go_enter Tryd.func38, Tryd.ntmps38
    go_wp2
    go_ret
    exact ⟨_, _, _, rfl, OwnR.lit _ _ 1 _ 16 (by decide) rfl, (Below.refl _ _).alloc (Nat.le_refl _) _⟩
  · go_enter Tryd.func38, Tryd.ntmps38
    go_wp2
    go_ret
    exact ⟨_, _, _, rfl, OwnR.lit _ _ 1 _ 16 (by decide) rfl, (Below.refl _ _).alloc (Nat.le_refl _) _⟩
  · have e : guidL k = [] := by unfold guidL; rw [if_neg d1, if_neg d2, if_neg d3]
    rw [e]
    clear e d1 d2 d3
    go_enter Tryd.func38, Tryd.ntmps38
    go_wp2
    go_ret
    exact ⟨none, 0, 0, rfl, OwnR.nil _ _ _ 1, Below.refl _ _⟩
theorem fits_any (k : UInt8) (A : Option Addr) (n c : Nat) (d : List UInt8) (w : World) (hR : RB w A n d) (hc : n ≤ c) (hc2 : c ≤ 9223372036854775807) (hT : Sizes w) :
    Calls Tryd.prog 37 #[.int .u8 (k.toNat : Int), .slice A n c] w fun e w' => e = .returned (.bool (mayL k d)) ∧ Below w.heap.size w w' := by
  have hl := hR.1
  rcases byte_cases k with rfl | rfl | rfl | ⟨a1, a2, a3, b1, b2, b3, c1, c2, c3, d1, d2, d3⟩
  · have e : mayL 1 d = decide (n = 32) := by unfold mayL; rw [if_pos rfl, hl]
    rw [e]
    clear e
    by_cases h : n = 32
    · subst h
      go_enter Tryd.func37, Tryd.ntmps37
      go_wp2
      go_ret
      exact ⟨rfl, Below.refl _ _⟩
    · have h1 : ((n : Int) == 32) = false := beq_eq_false_iff_ne.2 (by omega)
      have h2 : (n == 32) = false := beq_eq_false_iff_ne.2 h
      rw [decide_eq_false h]
      go_enter Tryd.func37, Tryd.ntmps37
      go_wp2
      go_ret
      exact ⟨rfl, Below.refl _ _⟩
  · have e : mayL 2 d = decide (1 ≤ n ∧ n ≤ 8192) := by unfold mayL; rw [if_neg (by decide), if_pos rfl, hl]
    rw [e]
    clear e
    by_cases h : 1 ≤ n
    · have h1 : decide (1 ≤ n) = true := decide_eq_true h
      have h2 : decide ((1 : Int) ≤ (n : Int)) = true := decide_eq_true (by omega)
      have h3 : decide ((n : Int) ≥ (1 : Int)) = true := decide_eq_true (by omega)
      by_cases g : n ≤ 8192
      · have g1 : decide (n ≤ 8192) = true := decide_eq_true g
        have g2 : decide ((n : Int) ≤ (8192 : Int)) = true := decide_eq_true (by omega)
        rw [decide_eq_true (show 1 ≤ n ∧ n ≤ 8192 from ⟨h, g⟩)]
        go_enter Tryd.func37, Tryd.ntmps37
        go_wp2
        go_ret
        exact ⟨rfl, Below.refl _ _⟩
      · have g1 : decide (n ≤ 8192) = false := decide_eq_false g
        have g2 : decide ((n : Int) ≤ (8192 : Int)) = false := decide_eq_false (by omega)
        rw [decide_eq_false (show ¬ (1 ≤ n ∧ n ≤ 8192) from fun q => g q.2)]
        go_enter Tryd.func37, Tryd.ntmps37
        go_wp2
        go_ret
        exact ⟨rfl, Below.refl _ _⟩
    · have h1 : decide (1 ≤ n) = false := decide_eq_false h
      have h2 : decide ((1 : Int) ≤ (n : Int)) = false := decide_eq_false (by omega)
      have h3 : decide ((n : Int) ≥ (1 : Int)) = false := decide_eq_false (by omega)
      rw [decide_eq_false (show ¬ (1 ≤ n ∧ n ≤ 8192) from fun q => h q.1)]
      go_enter Tryd.func37, Tryd.ntmps37
      go_wp2
      go_ret
      exact ⟨rfl, Below.refl _ _⟩
  · have e : mayL 3 d = (decide (n = 48) && (readO (d.drop 32)).isSome) := by unfold mayL sumB; rw [if_neg (by decide), if_neg (by decide), if_pos rfl, hl]
    rw [e]
    clear e
    by_cases h : n = 48
    · subst h
      obtain ⟨b, off, q, rfl, -⟩ := hR.at_ (k := 0) (by omega)
      have RD := Lib.hid (fun W (h1 : RB W (some ⟨b, off + 32, none⟩) 16 (d.drop 32)) (h2 : Sizes W) => sread_any _ 16 (c - 32) _ W h1 (by omega) (by omega) h2)
      have hD : RB w (some ⟨b, off + 32, none⟩) 16 (d.drop 32) := ⟨by rw [List.length_drop]; omega, hR.2.drop_ 32⟩
      rw [show (decide (48 = 48) && (readO (d.drop 32)).isSome) = (readO (d.drop 32)).isSome by simp]
      generalize readO (d.drop 32) = t at RD
      generalize d.drop 32 = ds at RD hD
      cases t with
      | none =>
        go_enter Tryd.func37, Tryd.ntmps37
        go_wp2_with fail
        refine (RD.out w hD hT).mono ?_
        clear RD hD hR hl
        rintro e W hW
        obtain ⟨rfl, hW⟩ := hW
        rw [show readV (none) = .tuple #[.agg Tm.zero.cells, .int .i64 9] from rfl]
        go_wp2_with (refine wpList_store_row rfl _ _ _ rfl W.heap.size Tm.zero.cells rfl rfl _ _ (has_new W _) (by kernel_rfl) rfl (by simp [Tm.cells, Value.oneCell']) ?_)
        go_ret
        exact ⟨rfl, below_setRow (kp_alloc hW _) hW.size _⟩
      | some t =>
        go_enter Tryd.func37, Tryd.ntmps37
        go_wp2_with fail
        refine (RD.out w hD hT).mono ?_
        clear RD hD hR hl
        rintro e W hW
        obtain ⟨rfl, hW⟩ := hW
        rw [show readV (some t) = .tuple #[.agg t.cells, .int .i64 0] from rfl]
        go_wp2_with (refine wpList_store_row rfl _ _ _ rfl W.heap.size t.cells rfl rfl _ _ (has_new W _) (by kernel_rfl) rfl (by simp [Tm.cells, Value.oneCell']) ?_)
        go_ret
        exact ⟨rfl, below_setRow (kp_alloc hW _) hW.size _⟩
    · have h1 : ((n : Int) == 48) = false := beq_eq_false_iff_ne.2 (by omega)
      have h2 : (n == 48) = false := beq_eq_false_iff_ne.2 h
      rw [decide_eq_false h, Bool.false_and]
      go_enter Tryd.func37, Tryd.ntmps37
      go_wp2
      go_ret
      exact ⟨rfl, Below.refl _ _⟩
  · have e : mayL k d = false := by unfold mayL; rw [if_neg d1, if_neg d2, if_neg d3]
    rw [e]
    clear e d1 d2 d3
    go_enter Tryd.func37, Tryd.ntmps37
    go_wp2
    go_ret
    exact ⟨rfl, Below.refl _ _⟩
theorem may_any (k : UInt8) (A : Option Addr) (n c : Nat) (d : List UInt8) (w : World) (hR : RB w A n d) (hc : n ≤ c) (hc2 : c ≤ 9223372036854775807) (hT : Sizes w) :
    Calls Tryd.prog 30 #[.int .u8 (k.toNat : Int), .slice A n c] w fun e w' => e = .returned (.bool (mayL k d)) ∧ Below w.heap.size w w' := by
  have hl := hR.1
  rcases byte_cases k with rfl | rfl | rfl | ⟨a1, a2, a3, b1, b2, b3, c1, c2, c3, d1, d2, d3⟩
  · have e : mayL 1 d = decide (n = 32) := by unfold mayL; rw [if_pos rfl, hl]
    rw [e]
    clear e
    by_cases h : n = 32
    · subst h
      go_enter Tryd.func30, Tryd.ntmps30
      go_wp2
      go_ret
      exact ⟨rfl, Below.refl _ _⟩
    · have h1 : ((n : Int) == 32) = false := beq_eq_false_iff_ne.2 (by omega)
      have h2 : (n == 32) = false := beq_eq_false_iff_ne.2 h
      rw [decide_eq_false h]
      go_enter Tryd.func30, Tryd.ntmps30
      go_wp2
      go_ret
      exact ⟨rfl, Below.refl _ _⟩
  · have e : mayL 2 d = decide (1 ≤ n ∧ n ≤ 8192) := by unfold mayL; rw [if_neg (by decide), if_pos rfl, hl]
    rw [e]
    clear e
    by_cases h : 1 ≤ n
    · have h1 : decide (1 ≤ n) = true := decide_eq_true h
      have h2 : decide ((1 : Int) ≤ (n : Int)) = true := decide_eq_true (by omega)
      have h3 : decide ((n : Int) ≥ (1 : Int)) = true := decide_eq_true (by omega)
      by_cases g : n ≤ 8192
      · have g1 : decide (n ≤ 8192) = true := decide_eq_true g
        have g2 : decide ((n : Int) ≤ (8192 : Int)) = true := decide_eq_true (by omega)
        rw [decide_eq_true (show 1 ≤ n ∧ n ≤ 8192 from ⟨h, g⟩)]
        go_enter Tryd.func30, Tryd.ntmps30
        go_wp2
        go_ret
        exact ⟨rfl, Below.refl _ _⟩
      · have g1 : decide (n ≤ 8192) = false := decide_eq_false g
        have g2 : decide ((n : Int) ≤ (8192 : Int)) = false := decide_eq_false (by omega)
        rw [decide_eq_false (show ¬ (1 ≤ n ∧ n ≤ 8192) from fun q => g q.2)]
        go_enter Tryd.func30, Tryd.ntmps30
        go_wp2
        go_ret
        exact ⟨rfl, Below.refl _ _⟩
    · have h1 : decide (1 ≤ n) = false := decide_eq_false h
      have h2 : decide ((1 : Int) ≤ (n : Int)) = false := decide_eq_false (by omega)
      have h3 : decide ((n : Int) ≥ (1 : Int)) = false := decide_eq_false (by omega)
      rw [decide_eq_false (show ¬ (1 ≤ n ∧ n ≤ 8192) from fun q => h q.1)]
      go_enter Tryd.func30, Tryd.ntmps30
      go_wp2
      go_ret
      exact ⟨rfl, Below.refl _ _⟩
  · have e : mayL 3 d = (decide (n = 48) && (readO (d.drop 32)).isSome) := by unfold mayL sumB; rw [if_neg (by decide), if_neg (by decide), if_pos rfl, hl]
    rw [e]
    clear e
    by_cases h : n = 48
    · subst h
      obtain ⟨b, off, q, rfl, -⟩ := hR.at_ (k := 0) (by omega)
      have RD := Lib.hid (fun W (h1 : RB W (some ⟨b, off + 32, none⟩) 16 (d.drop 32)) (h2 : Sizes W) => rread_any _ 16 (c - 32) _ W h1)
      have hD : RB w (some ⟨b, off + 32, none⟩) 16 (d.drop 32) := ⟨by rw [List.length_drop]; omega, hR.2.drop_ 32⟩
      rw [show (decide (48 = 48) && (readO (d.drop 32)).isSome) = (readO (d.drop 32)).isSome by simp]
      generalize readO (d.drop 32) = t at RD
      generalize d.drop 32 = ds at RD hD
      cases t with
      | none =>
        go_enter Tryd.func30, Tryd.ntmps30
        go_wp2_with fail
        refine (RD.out w hD hT).mono ?_
        clear RD hD hR hl
        rintro e W hW
        obtain ⟨rfl, hW⟩ := hW
        rw [show readV (none) = .tuple #[.agg Tm.zero.cells, .int .i64 9] from rfl]
        go_wp2_with (refine wpList_store_row rfl _ _ _ rfl W.heap.size Tm.zero.cells rfl rfl _ _ (has_new W _) (by kernel_rfl) rfl (by simp [Tm.cells, Value.oneCell']) ?_)
        go_ret
        exact ⟨rfl, below_setRow (kp_alloc hW _) hW.size _⟩
      | some t =>
        go_enter Tryd.func30, Tryd.ntmps30
        go_wp2_with fail
        refine (RD.out w hD hT).mono ?_
        clear RD hD hR hl
        rintro e W hW
        obtain ⟨rfl, hW⟩ := hW
        rw [show readV (some t) = .tuple #[.agg t.cells, .int .i64 0] from rfl]
        go_wp2_with (refine wpList_store_row rfl _ _ _ rfl W.heap.size t.cells rfl rfl _ _ (has_new W _) (by kernel_rfl) rfl (by simp [Tm.cells, Value.oneCell']) ?_)
        go_ret
        exact ⟨rfl, below_setRow (kp_alloc hW _) hW.size _⟩
    · have h1 : ((n : Int) == 48) = false := beq_eq_false_iff_ne.2 (by omega)
      have h2 : (n == 48) = false := beq_eq_false_iff_ne.2 h
      rw [decide_eq_false h, Bool.false_and]
      go_enter Tryd.func30, Tryd.ntmps30
      go_wp2
      go_ret
      exact ⟨rfl, Below.refl _ _⟩
  · have e : mayL k d = false := by unfold mayL; rw [if_neg d1, if_neg d2, if_neg d3]
    rw [e]
    clear e d1 d2 d3
    go_enter Tryd.func30, Tryd.ntmps30
    go_wp2
    go_ret
    exact ⟨rfl, Below.refl _ _⟩
end Go.Proofs.YtfampefflkkckaaDoor
namespace Go.Proofs.YtfampefflkkckaaDoor
open Go.RowKit Go
set_option linter.unusedVariables false
set_option linter.unusedSimpArgs false
set_option maxRecDepth 100000
theorem own_nil (w : World) : OwnB (w.alloc (.cells #[] 5)) w.heap.size (some ⟨w.heap.size, 0, none⟩) 0 0 [] :=
  ⟨rfl, .inr ⟨w.heap.size, 0, #[], rfl, Nat.le_refl _, heap_alloc_new w _, Nat.le_refl _, Nat.zero_le _, rfl, rfl⟩⟩
/-- The statements' own 'twin'. -/
theorem twin_any (A : Option Addr) (n c : Nat) (bs : List UInt8) (w : World) (h : RB w A n bs) (hn : n ≤ 1000000000) :
    Calls Tryd.prog 10 #[.slice A n c] w (Fresh w bs) := by
  go_enter Tryd.func10, Tryd.ntmps10
  go_wp2_with (at_builtin; refine wpList_apn _ _ rfl rfl rfl w.heap.size (some ⟨w.heap.size, 0, none⟩) 0 0 [] rfl (own_nil w) A n c _ rfl (h.alloc _) (by omega) (by simp) ?_)
  intro A' c' w' hown hg
  go_wp2
  go_ret
  exact ⟨A', _, c', rfl, by simpa using hown, ((Below.refl _ _).alloc (Nat.le_refl _) _).grown hg (by simp) (by intro k hk; cases hk; exact Nat.le_refl _)⟩
theorem bclone_any (A : Option Addr) (n c : Nat) (bs : List UInt8) (w : World) (h : RB w A n bs) (hn : n ≤ 1000000000) :
    Calls Tryd.prog 46 #[.slice A n c] w (Fresh w bs) := by
  cases hA : A with
  | none =>
    subst hA
    obtain rfl : bs = [] := by
      rcases bs with _ | ⟨x, r⟩
      · rfl
      · obtain ⟨b, off, e, _⟩ := h.2 (by simp)
        cases e
    obtain rfl : n = 0 := h.1.symm
    have EN := fun (W : World) => Lib.run_eql_slice_nil (P := Tryd.prog) W _ _ none 0 c 0 0 Tryd.underlying22
    clear h
    go_enter Tryd.func46, Tryd.ntmps46
    go_wp2
    go_ret
    exact ⟨none, 0, 0, rfl, OwnB.nil _ _, Below.refl _ _⟩
  | some ad =>
    subst hA
    have EN := fun (W : World) => Lib.run_eql_slice_nil (P := Tryd.prog) W _ _ (some ad) n c 0 0 Tryd.underlying22
    have HR := Lib.hid h
    clear h
    go_enter Tryd.func46, Tryd.ntmps46
    go_wp2_with (at_builtin; refine wpList_apn _ _ rfl rfl rfl w.heap.size (some ⟨w.heap.size, 0, none⟩) 0 0 [] rfl (own_nil w) (some ad) n c _ rfl (HR.out.alloc _) (by omega) (by simp) ?_)
    intro A' c' w' hown hg
    go_wp2
    go_ret
    exact ⟨A', _, c', rfl, by simpa using hown, ((Below.refl _ _).alloc (Nat.le_refl _) _).grown hg (by simp) (by intro k hk; cases hk; exact Nat.le_refl _)⟩
theorem same_any (A1 A2 : Option Addr) (n1 n2 c1 c2 : Nat) (xs ys : List UInt8) (w : World) (h1 : RB w A1 n1 xs) (h2 : RB w A2 n2 ys) :
    Calls Tryd.prog 13 #[.slice A1 n1 c1, .slice A2 n2 c2] w fun e w' => e = .returned (.bool (xs == ys)) ∧ w = w' := by
  have S1 : (convert 22 9 (.slice A1 n1 c1)).run Tryd.prog w = .ok (.string (strOf xs)) w := by
    have h9 := run_strOf w w.heap.size A1 xs c1 h1.2
    rw [h1.1] at h9
    exact h9
  have S2 : (convert 22 9 (.slice A2 n2 c2)).run Tryd.prog w = .ok (.string (strOf ys)) w := by
    have h9 := run_strOf w w.heap.size A2 ys c2 h2.2
    rw [h2.1] at h9
    exact h9
  have e1 := strOf_toList xs
  have e2 := strOf_toList ys
  by_cases he : xs = ys
  · subst he
    generalize strOf xs = sx at *
    rw [show (xs == xs) = true by simp]
    clear h1 h2 e1 e2
    go_enter Tryd.func13, Tryd.ntmps13
    go_wp2
    go_ret
    exact ⟨by simp, rfl⟩
  · have hne : ¬ (strOf xs).toList = (strOf ys).toList := by rw [e1, e2]; exact he
    have hbe : (xs == ys) = false := beq_eq_false_iff_ne.2 he
    rw [hbe]
    clear h1 h2 e1 e2 he hbe
    generalize strOf xs = sx at *
    generalize strOf ys = sy at *
    have hne2 : (sx.toList == sy.toList) = false := beq_eq_false_iff_ne.2 hne
    go_enter Tryd.func13, Tryd.ntmps13
    go_wp2
    go_ret
    exact ⟨by simp, rfl⟩
theorem kindOf_any (g : List UInt8) (w : World) : Calls Tryd.prog 34 #[.string (strOf g)] w fun e w' => e = .returned (.int .u8 ((kindL g).toNat : Int)) ∧ w = w' := by
  have C1 : Hid (∀ W, Calls Tryd.prog 40 #[.int .u8 1] W fun e w' => e = .returned (.string (strOf gHash)) ∧ W = w') := fun W => guidOf_any 1 W
  have C2 : Hid (∀ W, Calls Tryd.prog 40 #[.int .u8 2] W fun e w' => e = .returned (.string (strOf gCert)) ∧ W = w') := fun W => guidOf_any 2 W
  have C3 : Hid (∀ W, Calls Tryd.prog 40 #[.int .u8 3] W fun e w' => e = .returned (.string (strOf gSum)) ∧ W = w') := fun W => guidOf_any 3 W
  have t1 : ((strOf gHash).toList == (strOf g).toList) = (gHash == g) := by rw [strOf_toList, strOf_toList]
  have t2 : ((strOf gCert).toList == (strOf g).toList) = (gCert == g) := by rw [strOf_toList, strOf_toList]
  have t3 : ((strOf gSum).toList == (strOf g).toList) = (gSum == g) := by rw [strOf_toList, strOf_toList]
  by_cases h1 : g = gHash
  · have e : kindL g = 1 := by unfold kindL; rw [if_pos h1]
    rw [show (gHash == g) = true by rw [h1]; decide] at t1
    rw [e]
    clear e h1 t2 t3 C2 C3
    generalize strOf g = s at *
    generalize strOf gHash = s1 at *
    go_enter Tryd.func34, Tryd.ntmps34
    go_wp2
    refine wp_loop_rounds 1 ?_
    rw [rounds_succ]
    go_wp2_with fail
    refine (C1.out _).mono ?_
    rintro e W ⟨rfl, rfl⟩
    go_wp2
    go_ret
    exact ⟨rfl, rfl⟩
  by_cases h2 : g = gCert
  · have e : kindL g = 2 := by unfold kindL; rw [if_neg h1, if_pos h2]
    rw [show (gCert == g) = true by rw [h2]; decide] at t2
    rw [show (gHash == g) = false from beq_eq_false_iff_ne.2 (Ne.symm h1)] at t1
    rw [e]
    clear e h1 h2 t3 C3
    generalize strOf g = s at *
    generalize strOf gHash = s1 at *
    generalize strOf gCert = s2 at *
    go_enter Tryd.func34, Tryd.ntmps34
    go_wp2
    refine wp_loop_rounds 2 ?_
    rw [rounds_succ]
    go_wp2_with fail
    refine (C1.out _).mono ?_
    rintro e W ⟨rfl, rfl⟩
    go_wp2
    rw [rounds_succ]
    go_wp2_with fail
    refine (C2.out _).mono ?_
    rintro e W ⟨rfl, rfl⟩
    go_wp2
    go_ret
    exact ⟨rfl, rfl⟩
  by_cases h3 : g = gSum
  · have e : kindL g = 3 := by unfold kindL; rw [if_neg h1, if_neg h2, if_pos h3]
    rw [show (gSum == g) = true by rw [h3]; decide] at t3
    rw [show (gHash == g) = false from beq_eq_false_iff_ne.2 (Ne.symm h1)] at t1
    rw [show (gCert == g) = false from beq_eq_false_iff_ne.2 (Ne.symm h2)] at t2
    rw [e]
    clear e h1 h2 h3
    generalize strOf g = s at *
    generalize strOf gHash = s1 at *
    generalize strOf gCert = s2 at *
    generalize strOf gSum = s3 at *
    go_enter Tryd.func34, Tryd.ntmps34
    go_wp2
    refine wp_loop_rounds 3 ?_
    rw [rounds_succ]
    go_wp2_with fail
    refine (C1.out _).mono ?_
    rintro e W ⟨rfl, rfl⟩
    go_wp2
    rw [rounds_succ]
    go_wp2_with fail
    refine (C2.out _).mono ?_
    rintro e W ⟨rfl, rfl⟩
    go_wp2
    rw [rounds_succ]
    go_wp2_with fail
    refine (C3.out _).mono ?_
    rintro e W ⟨rfl, rfl⟩
    go_wp2
    go_ret
    exact ⟨rfl, rfl⟩
  have e : kindL g = 0 := by unfold kindL; rw [if_neg h1, if_neg h2, if_neg h3]
  rw [show (gHash == g) = false from beq_eq_false_iff_ne.2 (Ne.symm h1)] at t1
  rw [show (gCert == g) = false from beq_eq_false_iff_ne.2 (Ne.symm h2)] at t2
  rw [show (gSum == g) = false from beq_eq_false_iff_ne.2 (Ne.symm h3)] at t3
  rw [e]
  clear e h1 h2 h3
  generalize strOf g = s at *
  generalize strOf gHash = s1 at *
  generalize strOf gCert = s2 at *
  generalize strOf gSum = s3 at *
  go_enter Tryd.func34, Tryd.ntmps34
  go_wp2
  refine wp_loop_rounds 4 ?_
  rw [rounds_succ]
  go_wp2_with fail
  refine (C1.out _).mono ?_
  rintro e W ⟨rfl, rfl⟩
  go_wp2
  rw [rounds_succ]
  go_wp2_with fail
  refine (C2.out _).mono ?_
  rintro e W ⟨rfl, rfl⟩
  go_wp2
  rw [rounds_succ]
  go_wp2_with fail
  refine (C3.out _).mono ?_
  rintro e W ⟨rfl, rfl⟩
  go_wp2
  rw [rounds_succ]
  go_wp2
  go_ret
  exact ⟨rfl, rfl⟩
end Go.Proofs.YtfampefflkkckaaDoor
namespace Go.Proofs.YtfampefflkkckaaDoor
open Go.RowKit Go
set_option linter.unusedVariables false
set_option linter.unusedSimpArgs false
set_option maxRecDepth 100000
/-- An item's cells. -/
def itmC (o : List UInt8) (A : Option Addr) (n c : Nat) : Array Value := (o.map bv ++ [Value.slice A n c]).toArray
theorem itmC_size {o : List UInt8} (h : o.length = 16) (A : Option Addr) (n c : Nat) : (itmC o A n c).size = 17 := by
  unfold itmC; simp [h]
theorem itmC_one (o : List UInt8) (A : Option Addr) (n c : Nat) : (itmC o A n c).all (·.oneCell') = true := by
  unfold itmC
  rw [List.all_toArray, List.all_append, List.all_map, Bool.and_eq_true]
  refine ⟨List.all_eq_true.2 fun x _ => rfl, rfl⟩
theorem OwnB.setRow {w : World} {base : Nat} {A : Option Addr} {n c : Nat} {bs : List UInt8} (h : OwnB w base A n c bs) {g : Nat} (hg : g < base) (cs : Array Value) : OwnB (w.setRow g cs) base A n c bs := by
  obtain ⟨h1, h2⟩ := h
  refine ⟨h1, ?_⟩
  rcases h2 with h2 | ⟨g', cap, cur, h3, h4, h5, h6⟩
  · exact .inl h2
  · exact .inr ⟨g', cap, cur, h3, h4, (setRow_other _ _ _ _ (by omega)).trans h5, h6⟩
def item0 (v : Value) : Array Value := #[.int .u8 0, .int .u8 0, .int .u8 0, .int .u8 0, .int .u8 0, .int .u8 0, .int .u8 0, .int .u8 0, .int .u8 0, .int .u8 0, .int .u8 0, .int .u8 0, .int .u8 0, .int .u8 0, .int .u8 0, .int .u8 0, v]
theorem item_info : (Tryd.prog.info? 49).map (·.size) = some 17 := by kernel_rfl
set_option maxHeartbeats 4000000 in
theorem readItem_any (A : Option Addr) (n c : Nat) (bs : List UInt8) (w : World) (hR : RB w A n bs) (h16 : 16 < n) (hc : n ≤ c) (hn : n ≤ 1000000000) (hcm : c ≤ 9223372036854775807) :
    Calls Tryd.prog 36 #[.slice A n c] w fun e w' => ∃ A2 n2 c2, e = .returned (.agg (itmC (bs.take 16) A2 n2 c2)) ∧ OwnB w' w.heap.size A2 n2 c2 (bs.drop 16) ∧ Below w.heap.size w w' := by
  have hl := hR.1
  obtain ⟨b, off, q, rfl, hb, -, -⟩ := hR.at_ (k := 0) (by omega)
  have hT : (bs.take 16).length = 16 := by rw [List.length_take]; omega
  have hD : RB w (some ⟨b, off + 16, none⟩) (n - 16) (bs.drop 16) := ⟨by rw [List.length_drop]; omega, hR.2.drop_ 16⟩
  have HCLN := Lib.hid (fun W (h : RB W (some ⟨b, off + 16, none⟩) (n - 16) (bs.drop 16)) => bclone_any (some ⟨b, off + 16, none⟩) (n - 16) (c - 16) (bs.drop 16) W h (by omega))
  have HD := Lib.hid hD
  have HR := Lib.hid hR
  have HL := Lib.hid (And.intro hl hT)
  have i1 : (16 : Int) ≤ (n : Int) := by omega
  have i2 : 16 ≤ n := by omega
  have i3 : (n : Int) ≤ (c : Int) := by omega
  clear hR hD hl hT
  go_enter Tryd.func36, Tryd.ntmps36
  go_wp2_with fail
  refine (HCLN.out _ (HD.out.alloc _)).mono ?_
  rintro e W ⟨A2, n2, c2, rfl, ho, hbw⟩
  have k0 := has_below (has_new w (.cells (item0 (.slice none 0 0)) 49)) hbw
  have HK := Lib.hid (And.intro k0 (And.intro ho (And.intro hbw hbw.size)))
  clear k0 ho hbw
  go_upto_region 2 with (refine wpList_store_row rfl _ _ _ rfl W.heap.size (item0 (.slice A2 n2 c2)) rfl rfl _ _ (has_new W _) item_info rfl (by simp [item0, Value.oneCell']) ?_)
  refine wp_nm fun W3 hW3 => ?_
  have k3 : W3.heap[W.heap.size]? = some (.cells (item0 (.slice A2 n2 c2)) 49) := by rw [← hW3]; exact setRow_heap _ _ _ _ _ _ (has_new W _)
  have hb3 : Below W.heap.size W W3 := by rw [← hW3]; exact below_setRow (kp_alloc (Below.refl _ _) _) (Nat.le_refl _) _
  have hlt : w.heap.size < W.heap.size := by have := HK.out.2.2.2; simp at this; omega
  have H3 := Lib.hid (And.intro k3 (And.intro (has_below HK.out.1 hb3) (And.intro (And.intro (HK.out.2.1.below hb3 (Nat.le_refl _)) (And.intro HK.out.2.1 hb3)) (And.intro ((Below.refl w.heap.size w |> (kp_alloc · _)).trans ((HK.out.2.2.1.trans (hb3.mono HK.out.2.2.2)).mono (by simp))) hlt))))
  clear hW3 k3 hb3 HK hlt
  have SRC : Hid (∀ (j : Nat) (v : Value), ((bs.take 16).map bv)[j]? = some v → W3.cell? ((⟨b, off, none⟩ : Addr).add j) = some v) := fun j v hv => by
    rw [List.getElem?_map] at hv
    have hj : j < 16 := by
      rcases Nat.lt_or_ge j 16 with h | h
      · exact h
      · rw [List.getElem?_eq_none (by rw [HL.out.2]; exact h)] at hv; cases hv
    obtain ⟨b2, off2, q2, e2, -, h3, h4⟩ := (HR.out.below H3.out.2.2.2.1).at_ (k := j) (by omega)
    cases e2
    rw [List.getElem?_take, if_pos hj, h3] at hv
    injection hv with hv
    subst hv
    rw [show (⟨b, off, none⟩ : Addr).add j = ⟨b, off + j, none⟩ by unfold Addr.add; split <;> simp_all]
    exact h4
  have HN : ((bs.take 16).map bv).length = Nat.min n 16 := by rw [List.length_map, HL.out.2]; exact (Nat.min_eq_right i2).symm
  have HF : 0 + ((bs.take 16).map bv).length ≤ (item0 (.slice A2 n2 c2)).size := by rw [List.length_map, HL.out.2]; exact (show 0 + 16 ≤ 17 by omega)
  have HO : ∀ v ∈ (bs.take 16).map bv, v.oneCell' = true := fun v hv => by obtain ⟨z, _, rfl⟩ := List.mem_map.1 hv; rfl
  have HX := Lib.hid (And.intro HN (And.intro HF HO))
  clear HN HF HO
  go_upto_region 3 with (refine wpList_copy_own rfl _ _ _ _ rfl 5 Tryd.underlying22 (by kernel_rfl) W.heap.size 0 16 16 ⟨b, off, none⟩ n c rfl rfl (item0 (.slice A2 n2 c2)) _ H3.out.1 ((bs.take 16).map bv) HX.out.1 SRC.out HX.out.2.1 HX.out.2.2 ?_)
  refine wp_nm fun W4 hW4 => ?_
  have k4 : W4.heap[W.heap.size]? = some (.cells (itmC (bs.take 16) A2 n2 c2) 49) := by
    rw [← hW4]
    refine (setRow_heap _ _ _ _ _ _ H3.out.1).trans ?_
    rw [show (0 + ((bs.take 16).map bv).length) = 16 by rw [List.length_map, HL.out.2]]
    rfl
  have hb4 : Below w.heap.size w W4 := by rw [← hW4]; exact below_setRow H3.out.2.2.2.1 (Nat.le_of_lt H3.out.2.2.2.2) _
  have k40 : W4.heap[w.heap.size]? = some (.cells (item0 (.slice none 0 0)) 49) := by
    rw [← hW4]; exact (setRow_other _ _ _ _ (Nat.ne_of_lt H3.out.2.2.2.2)).trans H3.out.2.1
  have ho4 : OwnB W4 (w.heap.size + 1) A2 n2 c2 (bs.drop 16) := by
    refine (H3.out.2.2.1.2.1.lower (show w.heap.size + 1 ≤ _ by simp)).below ?_ (Nat.le_refl _)
    rw [← hW4]
    exact below_setRow H3.out.2.2.1.2.2 (Nat.le_refl _) _
  have H4 := Lib.hid (And.intro k4 (And.intro k40 (And.intro ho4 hb4)))
  clear hW4 k4 hb4 k40 ho4 H3 SRC
  go_wp2_with (first
    | (refine wpList_load_row rfl _ _ rfl W.heap.size rfl _ _ _ _ H4.out.1 Tryd.underlying49 rfl (by rw [itmC_size HL.out.2]; exact item_info) ?_)
    | (refine wpList_store_row rfl _ _ _ rfl w.heap.size (itmC (bs.take 16) A2 n2 c2) rfl rfl _ _ H4.out.2.1 (by rw [itmC_size HL.out.2]; exact item_info) (by rw [itmC_size HL.out.2]; rfl) (itmC_one _ _ _ _) ?_))
  refine bodyPost_ret (results_cell_row rfl _ _ w.heap.size _ (itmC (bs.take 16) A2 n2 c2) _ _ rfl (setRow_heap _ _ _ _ _ _ H4.out.2.1) Tryd.underlying49 rfl (by rw [itmC_size HL.out.2]; exact item_info)) rfl ?_
  exact ⟨A2, n2, c2, rfl, (H4.out.2.2.1.setRow (Nat.lt_succ_self _) _).lower (Nat.le_succ _), below_setRow H4.out.2.2.2 (Nat.le_refl _) _⟩
end Go.Proofs.YtfampefflkkckaaDoor
namespace Go.Proofs.YtfampefflkkckaaDoor
open Go.RowKit Go
set_option linter.unusedVariables false
set_option linter.unusedSimpArgs false
set_option maxRecDepth 100000
theorem list_info : (Tryd.prog.info? 41).map (·.size) = some 2 := by kernel_rfl
/-- Nothing was read. -/
def noL : Value := .tuple #[.agg #[.int .u8 0, .slice none 0 0], .int .i64 0, .bool false]
theorem readList_less (A : Option Addr) (n c : Nat) (w : World) (h : n < 28) :
    Calls Tryd.prog 25 #[.slice A n c] w fun e w' => e = .returned noL ∧ Below w.heap.size w w' := by
  have h1 : decide ((n : Int) < (28 : Int)) = true := decide_eq_true (by omega)
  have h2 : decide (n < 28) = true := decide_eq_true h
  clear h
  go_enter Tryd.func25, Tryd.ntmps25
  go_wp2_with (refine wpList_store_row rfl _ _ _ rfl w.heap.size #[.int .u8 0, .slice none 0 0] rfl rfl _ _ (has_new w _) list_info rfl rfl ?_)
  refine bodyPost_ret (results_ctt Tryd.results25 _ (LV.agg (has_new w _) Tryd.underlying41 rfl list_info)) rfl ?_
  exact ⟨rfl, kp_alloc (Below.refl _ _) _⟩
set_option maxHeartbeats 4000000 in
theorem readList_no (A : Option Addr) (n c : Nat) (bs : List UInt8) (w : World) (hR : RB w A n bs) (hT : Sizes w) (h28 : 28 ≤ n) (hc : n ≤ c) (hn : n ≤ 1000000000) (hcm : c ≤ 9223372036854775807)
    (hno : leN (cut bs 20 4) ≠ 0 ∨ leN (cut bs 24 4) ≤ 16 ∨ n < leN (cut bs 16 4) ∨ leN (cut bs 16 4) < 28 + leN (cut bs 24 4) ∨ (leN (cut bs 16 4) - 28) % leN (cut bs 24 4) ≠ 0) :
    Calls Tryd.prog 25 #[.slice A n c] w fun e w' => e = .returned noL ∧ Below w.heap.size w w' := by
  have hl := hR.1
  have KO := Lib.hid (fun W => kindOf_any (cut bs 0 16) W)
  have HW : Hid (∀ W, Below w.heap.size w W → RB W A n bs ∧ Sizes W) := fun W h => ⟨hR.below h, hT.below' h⟩
  have G1 := Lib.hid (fun W (h : Below w.heap.size w W) => get_ok A n c bs 16 4 W (HW W h).1 (HW W h).2 (by omega) rfl (by omega))
  have G2 := Lib.hid (fun W (h : Below w.heap.size w W) => get_ok A n c bs 20 4 W (HW W h).1 (HW W h).2 (by omega) rfl (by omega))
  have G3 := Lib.hid (fun W (h : Below w.heap.size w W) => get_ok A n c bs 24 4 W (HW W h).1 (HW W h).2 (by omega) rfl (by omega))
  have b1 : leN (cut bs 16 4) < 4294967296 := by have := leN_lt (cut bs 16 4); rw [cut_len _ _ _ (by omega)] at this; exact this
  have b2 : leN (cut bs 20 4) < 4294967296 := by have := leN_lt (cut bs 20 4); rw [cut_len _ _ _ (by omega)] at this; exact this
  have b3 : leN (cut bs 24 4) < 4294967296 := by have := leN_lt (cut bs 24 4); rw [cut_len _ _ _ (by omega)] at this; exact this
  generalize leN (cut bs 16 4) = al at *
  generalize leN (cut bs 20 4) = no at *
  generalize leN (cut bs 24 4) = s at *
  generalize kindL (cut bs 0 16) = kd at *
  have hS : Hid (∀ W, Below w.heap.size w W → (convert 22 9 (.slice A 16 c)).run Tryd.prog W = .ok (.string (strOf (cut bs 0 16))) W) := fun W h => by
    have h9 := run_strOf W W.heap.size A (cut bs 0 16) c ?_
    · rw [cut_len _ _ _ (by omega)] at h9; exact h9
    · have h8 := (HW.out W h).1.2
      intro hne
      obtain ⟨b, off, e, hb, h7⟩ := h8 (by intro e; rw [e] at hl; simp at hl; omega)
      refine ⟨b, off, e, hb, fun j hj => ?_⟩
      have hj2 : j < bs.length := by rw [cut_len _ _ _ (by omega)] at hj; omega
      rw [h7 j hj2]
      congr 2
      unfold cut
      simp
  have S1 := hS.out (w.alloc (.cells #[.int .u8 0, .slice none 0 0] 41)) (kp_alloc (Below.refl _ _) _)
  have a1 : decide ((n : Int) < (28 : Int)) = false := decide_eq_false (by omega)
  have a2 : decide (n < 28) = false := decide_eq_false (by omega)
  have a3 : (16 : Int) ≤ (c : Int) := by omega
  have a4 : IntKind.u64.wrap (n : Int) = (n : Int) := IntWalk.u64_in _ (by omega)
  clear hR hT hl hS
  generalize strOf (cut bs 0 16) = gs at *
  by_cases c1 : no ≠ 0
  · have f1P : no ≠ 0 := by omega
    have f1N : (no == 0) = false := beq_eq_false_iff_ne.2 (by omega)
    have f1I : ((no : Int) == 0) = false := beq_eq_false_iff_ne.2 (by omega)
    have f1M : ((no : Int) != 0) = true := bne_iff_ne.2 (by omega)
    clear hno b1 b2 b3 c1
    go_enter Tryd.func25, Tryd.ntmps25
    go_wp2_with fail
    refine (KO.out _).mono ?_
    rintro e W ⟨rfl, rfl⟩
    go_wp2_with fail
    refine calls_nm fun W hW => ?_
    have hb : Below w.heap.size w W := by rw [← hW]; exact kp_alloc (Below.refl _ _) _
    have k0 : W.heap[w.heap.size]? = some (.cells #[.int .u8 (kd.toNat : Int), .slice none 0 0] 41) := by rw [← hW]; exact has_new w _
    have H := Lib.hid (And.intro k0 hb)
    clear hW k0 hb
    refine (G1.out W H.out.2).mono ?_
    rintro e W2 ⟨rfl, rfl⟩
    go_wp2_with fail
    refine (G2.out W H.out.2).mono ?_
    rintro e W2 ⟨rfl, rfl⟩
    go_wp2_with fail
    refine (G3.out W H.out.2).mono ?_
    rintro e W2 ⟨rfl, rfl⟩
    obtain ⟨z0, z1⟩ := cells_2 H.out.1
    obtain ⟨y0, y1⟩ := free_2 H.out.1
    go_wp2
    refine bodyPost_ret (results_ctt Tryd.results25 _ (LV.agg (set_2 H.out.1) Tryd.underlying41 rfl list_info)) rfl ?_
    exact ⟨rfl, below_2 H.out.2 (Nat.le_refl _)⟩
  by_cases c2 : s ≤ 16
  · obtain rfl : no = 0 := by omega
    have f2I : decide ((s : Int) ≤ (16 : Int)) = true := decide_eq_true (by omega)
    have f2N : decide (s ≤ 16) = true := decide_eq_true (by omega)
    clear hno b1 b2 b3 c1 c2
    go_enter Tryd.func25, Tryd.ntmps25
    go_wp2_with fail
    refine (KO.out _).mono ?_
    rintro e W ⟨rfl, rfl⟩
    go_wp2_with fail
    refine calls_nm fun W hW => ?_
    have hb : Below w.heap.size w W := by rw [← hW]; exact kp_alloc (Below.refl _ _) _
    have k0 : W.heap[w.heap.size]? = some (.cells #[.int .u8 (kd.toNat : Int), .slice none 0 0] 41) := by rw [← hW]; exact has_new w _
    have H := Lib.hid (And.intro k0 hb)
    clear hW k0 hb
    refine (G1.out W H.out.2).mono ?_
    rintro e W2 ⟨rfl, rfl⟩
    go_wp2_with fail
    refine (G2.out W H.out.2).mono ?_
    rintro e W2 ⟨rfl, rfl⟩
    go_wp2_with fail
    refine (G3.out W H.out.2).mono ?_
    rintro e W2 ⟨rfl, rfl⟩
    obtain ⟨z0, z1⟩ := cells_2 H.out.1
    obtain ⟨y0, y1⟩ := free_2 H.out.1
    go_wp2
    refine bodyPost_ret (results_ctt Tryd.results25 _ (LV.agg (set_2 H.out.1) Tryd.underlying41 rfl list_info)) rfl ?_
    exact ⟨rfl, below_2 H.out.2 (Nat.le_refl _)⟩
  by_cases c3 : n < al
  · obtain rfl : no = 0 := by omega
    have f2I : decide ((s : Int) ≤ (16 : Int)) = false := decide_eq_false (by omega)
    have f2N : decide (s ≤ 16) = false := decide_eq_false (by omega)
    have f3I : decide ((n : Int) < (al : Int)) = true := decide_eq_true (by omega)
    have f3N : decide (n < al) = true := decide_eq_true (by omega)
    have f3gI : decide ((al : Int) > (n : Int)) = true := decide_eq_true (by omega)
    have f3gN : decide (al > n) = true := decide_eq_true (by omega)
    clear hno b1 b2 b3 c1 c2 c3
    go_enter Tryd.func25, Tryd.ntmps25
    go_wp2_with fail
    refine (KO.out _).mono ?_
    rintro e W ⟨rfl, rfl⟩
    go_wp2_with fail
    refine calls_nm fun W hW => ?_
    have hb : Below w.heap.size w W := by rw [← hW]; exact kp_alloc (Below.refl _ _) _
    have k0 : W.heap[w.heap.size]? = some (.cells #[.int .u8 (kd.toNat : Int), .slice none 0 0] 41) := by rw [← hW]; exact has_new w _
    have H := Lib.hid (And.intro k0 hb)
    clear hW k0 hb
    refine (G1.out W H.out.2).mono ?_
    rintro e W2 ⟨rfl, rfl⟩
    go_wp2_with fail
    refine (G2.out W H.out.2).mono ?_
    rintro e W2 ⟨rfl, rfl⟩
    go_wp2_with fail
    refine (G3.out W H.out.2).mono ?_
    rintro e W2 ⟨rfl, rfl⟩
    obtain ⟨z0, z1⟩ := cells_2 H.out.1
    obtain ⟨y0, y1⟩ := free_2 H.out.1
    go_wp2
    refine bodyPost_ret (results_ctt Tryd.results25 _ (LV.agg (set_2 H.out.1) Tryd.underlying41 rfl list_info)) rfl ?_
    exact ⟨rfl, below_2 H.out.2 (Nat.le_refl _)⟩
  by_cases c4 : al < 28 + s
  · obtain rfl : no = 0 := by omega
    have f2I : decide ((s : Int) ≤ (16 : Int)) = false := decide_eq_false (by omega)
    have f2N : decide (s ≤ 16) = false := decide_eq_false (by omega)
    have f3I : decide ((n : Int) < (al : Int)) = false := decide_eq_false (by omega)
    have f3N : decide (n < al) = false := decide_eq_false (by omega)
    have f3gI : decide ((al : Int) > (n : Int)) = false := decide_eq_false (by omega)
    have f3gN : decide (al > n) = false := decide_eq_false (by omega)
    obtain ⟨t, ht⟩ : ∃ t, t = 28 + s := ⟨_, rfl⟩
    have f4w : IntKind.u64.wrap (28 + (s : Int)) = (t : Int) := by rw [show (28 : Int) + (s : Int) = (t : Int) by omega]; exact IntWalk.u64_in _ (by omega)
    have f4I : decide ((al : Int) < (t : Int)) = true := decide_eq_true (by omega)
    have f4N : decide (al < t) = true := decide_eq_true (by omega)
    clear ht
    clear hno b1 b2 b3 c1 c2 c3 c4
    go_enter Tryd.func25, Tryd.ntmps25
    go_wp2_with fail
    refine (KO.out _).mono ?_
    rintro e W ⟨rfl, rfl⟩
    go_wp2_with fail
    refine calls_nm fun W hW => ?_
    have hb : Below w.heap.size w W := by rw [← hW]; exact kp_alloc (Below.refl _ _) _
    have k0 : W.heap[w.heap.size]? = some (.cells #[.int .u8 (kd.toNat : Int), .slice none 0 0] 41) := by rw [← hW]; exact has_new w _
    have H := Lib.hid (And.intro k0 hb)
    clear hW k0 hb
    refine (G1.out W H.out.2).mono ?_
    rintro e W2 ⟨rfl, rfl⟩
    go_wp2_with fail
    refine (G2.out W H.out.2).mono ?_
    rintro e W2 ⟨rfl, rfl⟩
    go_wp2_with fail
    refine (G3.out W H.out.2).mono ?_
    rintro e W2 ⟨rfl, rfl⟩
    obtain ⟨z0, z1⟩ := cells_2 H.out.1
    obtain ⟨y0, y1⟩ := free_2 H.out.1
    go_wp2
    refine bodyPost_ret (results_ctt Tryd.results25 _ (LV.agg (set_2 H.out.1) Tryd.underlying41 rfl list_info)) rfl ?_
    exact ⟨rfl, below_2 H.out.2 (Nat.le_refl _)⟩
  have c5 : (al - 28) % s ≠ 0 := by
    rcases hno with h | h | h | h | h
    · exact absurd h c1
    · exact absurd h c2
    · exact absurd h c3
    · exact absurd h c4
    · exact h
  obtain rfl : no = 0 := by omega
  have f2I : decide ((s : Int) ≤ (16 : Int)) = false := decide_eq_false (by omega)
  have f2N : decide (s ≤ 16) = false := decide_eq_false (by omega)
  have f3I : decide ((n : Int) < (al : Int)) = false := decide_eq_false (by omega)
  have f3N : decide (n < al) = false := decide_eq_false (by omega)
  have f3gI : decide ((al : Int) > (n : Int)) = false := decide_eq_false (by omega)
  have f3gN : decide (al > n) = false := decide_eq_false (by omega)
  obtain ⟨t, ht⟩ : ∃ t, t = 28 + s := ⟨_, rfl⟩
  have f4w : IntKind.u64.wrap (28 + (s : Int)) = (t : Int) := by rw [show (28 : Int) + (s : Int) = (t : Int) by omega]; exact IntWalk.u64_in _ (by omega)
  have f4I : decide ((al : Int) < (t : Int)) = false := decide_eq_false (by omega)
  have f4N : decide (al < t) = false := decide_eq_false (by omega)
  clear ht
  obtain ⟨u, hu⟩ : ∃ u, u = al - 28 := ⟨_, rfl⟩
  have f5w : IntKind.u64.wrap ((al : Int) - 28) = (u : Int) := by rw [show (al : Int) - 28 = (u : Int) by omega]; exact IntWalk.u64_in _ (by omega)
  obtain ⟨r, hr⟩ : ∃ r, r = u % s := ⟨_, rfl⟩
  have f5m : (u : Int).tmod (s : Int) = (r : Int) := by rw [hr]; exact (Int.ofNat_tmod u s).symm
  have f5z : ((s : Int) == 0) = false := beq_eq_false_iff_ne.2 (by omega)
  have f5y : (s == 0) = false := beq_eq_false_iff_ne.2 (by omega)
  have f5s : s ≠ 0 := by omega
  rw [← hu, ← hr] at c5
  have f5P : r ≠ 0 := by omega
  have f5N : (r == 0) = false := beq_eq_false_iff_ne.2 (by omega)
  have f5I : ((r : Int) == 0) = false := beq_eq_false_iff_ne.2 (by omega)
  have f5M : ((r : Int) != 0) = true := bne_iff_ne.2 (by omega)
  clear hu hr c5
  clear hno b1 b2 b3 c1 c2 c3 c4
  go_enter Tryd.func25, Tryd.ntmps25
  go_wp2_with fail
  refine (KO.out _).mono ?_
  rintro e W ⟨rfl, rfl⟩
  go_wp2_with fail
  refine calls_nm fun W hW => ?_
  have hb : Below w.heap.size w W := by rw [← hW]; exact kp_alloc (Below.refl _ _) _
  have k0 : W.heap[w.heap.size]? = some (.cells #[.int .u8 (kd.toNat : Int), .slice none 0 0] 41) := by rw [← hW]; exact has_new w _
  have H := Lib.hid (And.intro k0 hb)
  clear hW k0 hb
  refine (G1.out W H.out.2).mono ?_
  rintro e W2 ⟨rfl, rfl⟩
  go_wp2_with fail
  refine (G2.out W H.out.2).mono ?_
  rintro e W2 ⟨rfl, rfl⟩
  go_wp2_with fail
  refine (G3.out W H.out.2).mono ?_
  rintro e W2 ⟨rfl, rfl⟩
  obtain ⟨z0, z1⟩ := cells_2 H.out.1
  obtain ⟨y0, y1⟩ := free_2 H.out.1
  go_wp2
  refine bodyPost_ret (results_ctt Tryd.results25 _ (LV.agg (set_2 H.out.1) Tryd.underlying41 rfl list_info)) rfl ?_
  exact ⟨rfl, below_2 H.out.2 (Nat.le_refl _)⟩
end Go.Proofs.YtfampefflkkckaaDoor
namespace Go.Proofs.YtfampefflkkckaaDoor
open Go.RowKit Go
set_option linter.unusedVariables false
set_option linter.unusedSimpArgs false
set_option maxRecDepth 100000
theorem item_row : RowT 39 49 17 40 (.agg (item0 (.slice none 0 0))) := ⟨Tryd.underlying39, by kernel_rfl, rfl, by decide⟩
theorem list_row : RowT 25 41 2 32 (.agg #[.int .u8 0, .slice none 0 0]) := ⟨Tryd.underlying25, by kernel_rfl, rfl, by decide⟩
/-! ### Items in memory that the call owns -/
structure IM where
  o : List UInt8
  d : List UInt8
  a : Option Addr
  n : Nat
  c : Nat
def IM.itm (z : IM) : Itm := (z.o, z.d)
def IM.cells (z : IM) : List Value := (itmC z.o z.a z.n z.c).toList
theorem IM.cells_len (z : IM) (h : z.o.length = 16) : z.cells.length = 17 := by
  have := itmC_size h z.a z.n z.c
  unfold IM.cells
  rw [Array.length_toList]; exact this
def Ims (w : World) (base : Nat) (zs : List IM) : Prop := ∀ z ∈ zs, OwnB w base z.a z.n z.c z.d ∧ z.o.length = 16
section
variable {w w' : World} {base : Nat} {zs : List IM}
theorem Ims.nil (w : World) (base : Nat) : Ims w base [] := fun z hz => by cases hz
theorem Ims.below (h : Ims w base zs) {B : Nat} (hb : Below B w w') (hB : w.heap.size ≤ B) : Ims w' base zs := fun z hz => ⟨(h z hz).1.below hb hB, (h z hz).2⟩
theorem Ims.lower (h : Ims w base zs) {base' : Nat} (hb : base' ≤ base) : Ims w base' zs := fun z hz => ⟨(h z hz).1.lower hb, (h z hz).2⟩
theorem Ims.snoc (h : Ims w base zs) (z : IM) (h1 : OwnB w base z.a z.n z.c z.d) (h2 : z.o.length = 16) : Ims w base (zs ++ [z]) := fun y hy => by
  rcases List.mem_append.1 hy with hy | hy
  · exact h y hy
  · obtain rfl : y = z := by simpa using hy
    exact ⟨h1, h2⟩
theorem Ims.kept {base' nl cl k : Nat} {e : TypeId} {L : Option Addr} {cs : List Value} (h : Ims w base zs) (hL : OwnR w base' e k L nl cl cs) (hne : 5 ≠ e) (hg : w.grownBy w' (blk L)) : Ims w' base zs := fun z hz =>
  ⟨(h z hz).1.kept hg ((h z hz).1.row.ne hL hne), (h z hz).2⟩
theorem Ims.setRow (h : Ims w base zs) {g : Nat} (hg : g < base) (cs : Array Value) : Ims (w.setRow g cs) base zs := fun z hz => ⟨(h z hz).1.setRow hg cs, (h z hz).2⟩
end
/-- The slice is items that the call owns. -/
def ItemsOwn (w : World) (base : Nat) (A : Option Addr) (n c : Nat) (is : List Itm) : Prop :=
  ∃ zs : List IM, zs.map IM.itm = is ∧ OwnR w base 49 17 A n c (zs.flatMap IM.cells) ∧ Ims w base zs
section
variable {w w' : World} {base n c : Nat} {A : Option Addr} {is : List Itm}
theorem ItemsOwn.nil (w : World) (base : Nat) : ItemsOwn w base none 0 0 [] := ⟨[], rfl, OwnR.nil _ _ _ _, Ims.nil _ _⟩
theorem ItemsOwn.below (h : ItemsOwn w base A n c is) {B : Nat} (hb : Below B w w') (hB : w.heap.size ≤ B) : ItemsOwn w' base A n c is := by
  obtain ⟨zs, h1, h2, h3⟩ := h
  exact ⟨zs, h1, h2.below hb hB, h3.below hb hB⟩
theorem ItemsOwn.lower (h : ItemsOwn w base A n c is) {base' : Nat} (hb : base' ≤ base) : ItemsOwn w base' A n c is := by
  obtain ⟨zs, h1, h2, h3⟩ := h
  exact ⟨zs, h1, h2.lower hb, h3.lower hb⟩
theorem ItemsOwn.kept {base' nl cl k : Nat} {e : TypeId} {L : Option Addr} {cs : List Value} (h : ItemsOwn w base A n c is) (hL : OwnR w base' e k L nl cl cs) (hne : 5 ≠ e) (hne2 : 49 ≠ e) (hg : w.grownBy w' (blk L)) : ItemsOwn w' base A n c is := by
  obtain ⟨zs, h1, h2, h3⟩ := h
  exact ⟨zs, h1, h2.kept hg (h2.ne hL hne2), h3.kept hL hne hg⟩
end
/-! ### Lists in memory that the call owns -/
structure LM where
  k : UInt8
  is : List Itm
  a : Option Addr
  n : Nat
  c : Nat
def LM.lst (z : LM) : Lst := (z.k, z.is)
def LM.cells (z : LM) : List Value := [.int .u8 (z.k.toNat : Int), .slice z.a z.n z.c]
def Lms (w : World) (base : Nat) (ls : List LM) : Prop := ∀ z ∈ ls, ItemsOwn w base z.a z.n z.c z.is
section
variable {w w' : World} {base : Nat} {ls : List LM}
theorem Lms.nil (w : World) (base : Nat) : Lms w base [] := fun z hz => by cases hz
theorem Lms.below (h : Lms w base ls) {B : Nat} (hb : Below B w w') (hB : w.heap.size ≤ B) : Lms w' base ls := fun z hz => (h z hz).below hb hB
theorem Lms.lower (h : Lms w base ls) {base' : Nat} (hb : base' ≤ base) : Lms w base' ls := fun z hz => (h z hz).lower hb
theorem Lms.snoc (h : Lms w base ls) (z : LM) (h1 : ItemsOwn w base z.a z.n z.c z.is) : Lms w base (ls ++ [z]) := fun y hy => by
  rcases List.mem_append.1 hy with hy | hy
  · exact h y hy
  · obtain rfl : y = z := by simpa using hy
    exact h1
theorem Lms.kept {base' nl cl k : Nat} {e : TypeId} {L : Option Addr} {cs : List Value} (h : Lms w base ls) (hL : OwnR w base' e k L nl cl cs) (hne : 5 ≠ e) (hne2 : 49 ≠ e) (hg : w.grownBy w' (blk L)) : Lms w' base ls := fun z hz => (h z hz).kept hL hne hne2 hg
end
/-- The slice is lists that the call owns. -/
def ListsOwn (w : World) (base : Nat) (A : Option Addr) (n c : Nat) (l : List Lst) : Prop :=
  ∃ ls : List LM, ls.map LM.lst = l ∧ OwnR w base 41 2 A n c (ls.flatMap LM.cells) ∧ Lms w base ls
theorem ListsOwn.nil (w : World) (base : Nat) : ListsOwn w base none 0 0 [] := ⟨[], rfl, OwnR.nil _ _ _ _, Lms.nil _ _⟩
theorem ListsOwn.below {w w' : World} {base n c : Nat} {A : Option Addr} {l : List Lst} (h : ListsOwn w base A n c l) {B : Nat} (hb : Below B w w') (hB : w.heap.size ≤ B) : ListsOwn w' base A n c l := by
  obtain ⟨ls, h1, h2, h3⟩ := h
  exact ⟨ls, h1, h2.below hb hB, h3.below hb hB⟩
/-! ### The document's number -/
theorem number_any (A : Option Addr) (n c : Nat) (bs : List UInt8) (a : Nat) (w : World) (hR : RB w A n bs) (hn : n ≤ c) (hc : c ≤ 9223372036854775807) (hin : a + 4 ≤ n) :
    Calls Tryd.prog 39 #[.slice A n c, .int .i64 (a : Int)] w fun e w' => e = .returned (.int .i64 (leN (cut bs a 4) : Nat)) ∧ Below w.heap.size w w' := by
  have G := Lib.hid (refGet_ok A n c bs a 4 w hR hn hc rfl hin)
  have hb : leN (cut bs a 4) < 4294967296 := by have := leN_lt (cut bs a 4); rw [cut_len _ _ _ (by rw [hR.1]; exact hin)] at this; exact this
  generalize leN (cut bs a 4) = x at *
  have hx : IntKind.i64.wrap (x : Int) = (x : Int) := IntWalk.i64_in _ (by omega)
  clear hR hn hc hin hb
  go_enter Tryd.func39, Tryd.ntmps39
  go_wp2_with fail
  refine G.out.mono ?_
  rintro e W ⟨rfl, hW⟩
  go_wp2
  go_ret
  exact ⟨rfl, hW⟩
end Go.Proofs.YtfampefflkkckaaDoor
namespace Go.Proofs.YtfampefflkkckaaDoor
open Go.RowKit Go
set_option linter.unusedVariables false
set_option linter.unusedSimpArgs false
set_option maxRecDepth 100000
theorem list16 {l : List UInt8} (h : l.length = 16) : ∃ x0 x1 x2 x3 x4 x5 x6 x7 x8 x9 x10 x11 x12 x13 x14 x15, l = [x0, x1, x2, x3, x4, x5, x6, x7, x8, x9, x10, x11, x12, x13, x14, x15] := by
  match l, h with
  | [x0, x1, x2, x3, x4, x5, x6, x7, x8, x9, x10, x11, x12, x13, x14, x15], _ => exact ⟨_, _, _, _, _, _, _, _, _, _, _, _, _, _, _, _, rfl⟩
theorem cut_take16 (bs : List UInt8) (p s : Nat) (h : 16 ≤ s) : (cut bs p s).take 16 = cut bs p 16 := by
  unfold cut; rw [List.take_take, Nat.min_eq_left h]
theorem cut_drop16 (bs : List UInt8) (p s : Nat) : (cut bs p s).drop 16 = cut bs (p + 16) (s - 16) := by
  unfold cut; rw [List.drop_take, List.drop_drop]
theorem rb_cut {w : World} {b off n : Nat} {bs : List UInt8} (h : RB w (some ⟨b, off, none⟩) n bs) (p s : Nat) (hp : p + s ≤ n) (hs : 0 < s) : RB w (some ⟨b, off + p, none⟩) s (cut bs p s) := by
  have hl := h.1
  refine ⟨cut_len _ _ _ (by omega), fun hne => ?_⟩
  obtain ⟨b2, off2, e, hb, hc⟩ := h.2 (by intro e; rw [e] at hl; simp at hl; omega)
  cases e
  refine ⟨b, off + p, rfl, hb, fun j hj => ?_⟩
  have hj2 : j < s := by rw [cut_len _ _ _ (by omega)] at hj; exact hj
  have h9 := hc (p + j) (by omega)
  rw [Nat.add_assoc, h9]
  congr 2
  have := cut_get bs p s j hj2
  rw [List.getElem?_eq_getElem hj, List.getElem?_eq_getElem (by omega)] at this
  injection this with this
  rw [this]
end Go.Proofs.YtfampefflkkckaaDoor
namespace Go.Proofs.YtfampefflkkckaaDoor
open Go.RowKit Go
set_option linter.unusedVariables false
set_option linter.unusedSimpArgs false
set_option maxRecDepth 100000
theorem OwnR.far9 {w w' : World} {base g n c k : Nat} {e : TypeId} {A : Option Addr} {vs : List Value} (h : OwnR w base e k A n c vs) (hg : w.grownBy w' (some g)) (hlt : g < base) : OwnR w' base e k A n c vs := h.kept hg (by
  cases hA : blk A with
  | none => exact .inl rfl
  | some x =>
    refine .inr fun e => ?_
    injection e with e
    have := (h.blk_lt hA).1
    omega)
theorem ItemsOwn.far9 {w w' : World} {base g n c : Nat} {A : Option Addr} {is : List Itm} (h : ItemsOwn w base A n c is) (hg : w.grownBy w' (some g)) (hlt : g < base) : ItemsOwn w' base A n c is := by
  obtain ⟨zs, h1, h2, h3⟩ := h
  exact ⟨zs, h1, h2.far9 hg hlt, fun z hz => ⟨OwnR.far9 (h3 z hz).1.row hg hlt, (h3 z hz).2⟩⟩
/-- What is read of a list whose head is right. -/
def readYes (w : World) (kd : UInt8) (is : List Itm) (m al : Nat) (e : Ending) (w' : World) : Prop :=
  (if is.all (fun y => mayL kd y.2) then ∃ A2 c2, e = .returned (.tuple #[.agg #[.int .u8 (kd.toNat : Int), .slice A2 m c2], .int .i64 (al : Int), .bool true]) ∧ ItemsOwn w' w.heap.size A2 m c2 is else e = .returned noL) ∧ Below w.heap.size w w'
theorem itms_succ (bs : List UInt8) (s i : Nat) : itmsQ bs s (i + 1) = itmsQ bs s i ++ [itmQ bs (28 + i * s) s] := by
  unfold itmsQ; rw [List.range_succ, List.map_append]; rfl
theorem itms_bad (bs : List UInt8) (s m i : Nat) (kd : UInt8) (hi : i < m) (h : mayL kd (itmQ bs (28 + i * s) s).2 = false) : (itmsQ bs s m).all (fun y => mayL kd y.2) = false := by
  refine Bool.eq_false_iff.2 fun h2 => ?_
  have := List.all_eq_true.1 h2 (itmQ bs (28 + i * s) s) (List.mem_map.2 ⟨i, List.mem_range.2 hi, rfl⟩)
  rw [h] at this; cases this
set_option maxHeartbeats 8000000 in
theorem readList_yes (b off : Nat) (n c : Nat) (bs : List UInt8) (m : Nat) (w : World) (hR : RB w (some ⟨b, off, none⟩) n bs) (hT : Sizes w) (h28 : 28 ≤ n) (hc : n ≤ c) (hn : n ≤ 1000000) (hcm : c ≤ 9223372036854775807)
    (hno : leN (cut bs 20 4) = 0 ∧ 16 < leN (cut bs 24 4) ∧ leN (cut bs 16 4) ≤ n ∧ 1 ≤ m ∧ leN (cut bs 16 4) = 28 + m * leN (cut bs 24 4)) :
    Calls Tryd.prog 25 #[.slice (some ⟨b, off, none⟩) n c] w (readYes w (kindL (cut bs 0 16)) (itmsQ bs (leN (cut bs 24 4)) m) m (leN (cut bs 16 4))) := by
  obtain ⟨A, hA⟩ : ∃ A, A = some (⟨b, off, none⟩ : Addr) := ⟨_, rfl⟩
  have hms : leN (cut bs 24 4) ≤ m * leN (cut bs 24 4) := Nat.le_mul_of_pos_left _ hno.2.2.2.1
  have hmod : (leN (cut bs 16 4) - 28) % leN (cut bs 24 4) = 0 := by rw [hno.2.2.2.2, Nat.add_sub_cancel_left, Nat.mul_mod_left]
  rw [← hA] at hR ⊢
  have hl := hR.1
  have KO := Lib.hid (fun W => kindOf_any (cut bs 0 16) W)
  have HW : Hid (∀ W, Below w.heap.size w W → RB W A n bs ∧ Sizes W) := fun W h => ⟨hR.below h, hT.below' h⟩
  have G1 := Lib.hid (fun W (h : Below w.heap.size w W) => get_ok A n c bs 16 4 W (HW W h).1 (HW W h).2 (by omega) rfl (by omega))
  have G2 := Lib.hid (fun W (h : Below w.heap.size w W) => get_ok A n c bs 20 4 W (HW W h).1 (HW W h).2 (by omega) rfl (by omega))
  have G3 := Lib.hid (fun W (h : Below w.heap.size w W) => get_ok A n c bs 24 4 W (HW W h).1 (HW W h).2 (by omega) rfl (by omega))
  have b1 : leN (cut bs 16 4) < 4294967296 := by have := leN_lt (cut bs 16 4); rw [cut_len _ _ _ (by omega)] at this; exact this
  have b2 : leN (cut bs 20 4) < 4294967296 := by have := leN_lt (cut bs 20 4); rw [cut_len _ _ _ (by omega)] at this; exact this
  have b3 : leN (cut bs 24 4) < 4294967296 := by have := leN_lt (cut bs 24 4); rw [cut_len _ _ _ (by omega)] at this; exact this
  generalize leN (cut bs 16 4) = al at *
  generalize leN (cut bs 20 4) = no at *
  generalize leN (cut bs 24 4) = s at *
  generalize kindL (cut bs 0 16) = kd at *
  have hS : Hid (∀ W, Below w.heap.size w W → (convert 22 9 (.slice A 16 c)).run Tryd.prog W = .ok (.string (strOf (cut bs 0 16))) W) := fun W h => by
    have h9 := run_strOf W W.heap.size A (cut bs 0 16) c ?_
    · rw [cut_len _ _ _ (by omega)] at h9; exact h9
    · have h8 := (HW.out W h).1.2
      intro hne
      obtain ⟨b, off, e, hb, h7⟩ := h8 (by intro e; rw [e] at hl; simp at hl; omega)
      refine ⟨b, off, e, hb, fun j hj => ?_⟩
      have hj2 : j < bs.length := by rw [cut_len _ _ _ (by omega)] at hj; omega
      rw [h7 j hj2]
      congr 2
      unfold cut
      simp
  have S1 := hS.out (w.alloc (.cells #[.int .u8 0, .slice none 0 0] 41)) (kp_alloc (Below.refl _ _) _)
  have a1 : decide ((n : Int) < (28 : Int)) = false := decide_eq_false (by omega)
  have a2 : decide (n < 28) = false := decide_eq_false (by omega)
  have a3 : (16 : Int) ≤ (c : Int) := by omega
  have a4 : IntKind.u64.wrap (n : Int) = (n : Int) := IntWalk.u64_in _ (by omega)
  have HR := Lib.hid hR
  clear hR hT hl hS
  generalize strOf (cut bs 0 16) = gs at *
  obtain ⟨rfl, g1, g2, g3, g4⟩ := hno
  have f2I : decide ((s : Int) ≤ (16 : Int)) = false := decide_eq_false (by omega)
  have f2N : decide (s ≤ 16) = false := decide_eq_false (by omega)
  have f3I : decide ((n : Int) < (al : Int)) = false := decide_eq_false (by omega)
  have f3N : decide (n < al) = false := decide_eq_false (by omega)
  have f3gI : decide ((al : Int) > (n : Int)) = false := decide_eq_false (by omega)
  have f3gN : decide (al > n) = false := decide_eq_false (by omega)
  obtain ⟨t, ht⟩ : ∃ t, t = 28 + s := ⟨_, rfl⟩
  have f4w : IntKind.u64.wrap (28 + (s : Int)) = (t : Int) := by rw [show (28 : Int) + (s : Int) = (t : Int) by omega]; exact IntWalk.u64_in _ (by omega)
  have f4I : decide ((al : Int) < (t : Int)) = false := decide_eq_false (by omega)
  have f4N : decide (al < t) = false := decide_eq_false (by omega)
  obtain ⟨u, hu⟩ : ∃ u, u = al - 28 := ⟨_, rfl⟩
  have f5w : IntKind.u64.wrap ((al : Int) - 28) = (u : Int) := by rw [show (al : Int) - 28 = (u : Int) by omega]; exact IntWalk.u64_in _ (by omega)
  have f5m : (u : Int).tmod (s : Int) = (0 : Int) := by rw [hu]; exact (Int.ofNat_tmod (al - 28) s).symm.trans (congrArg _ hmod)
  have f5z : ((s : Int) == 0) = false := beq_eq_false_iff_ne.2 (by omega)
  have f5y : (s == 0) = false := beq_eq_false_iff_ne.2 (by omega)
  have f5s : s ≠ 0 := by omega
  have e1 : IntKind.i64.wrap (al : Int) = (al : Int) := IntWalk.i64_in _ (by omega)
  have e2 : IntKind.i64.wrap (s : Int) = (s : Int) := IntWalk.i64_in _ (by omega)
  have HN := Lib.hid (And.intro g1 (And.intro g2 (And.intro g4 (And.intro hA (And.intro b1 b3)))))
  clear ht hu b1 b2 b3 g1 g2 g3 g4 hms hmod hA
  go_enter Tryd.func25, Tryd.ntmps25
  go_wp2_with fail
  refine (KO.out _).mono ?_
  rintro e W ⟨rfl, rfl⟩
  go_wp2_with fail
  refine calls_nm fun W hW => ?_
  have hb : Below w.heap.size w W := by rw [← hW]; exact kp_alloc (Below.refl _ _) _
  have k0 : W.heap[w.heap.size]? = some (.cells #[.int .u8 (kd.toNat : Int), .slice none 0 0] 41) := by rw [← hW]; exact has_new w _
  have H := Lib.hid (And.intro k0 hb)
  clear hW k0 hb
  refine (G1.out W H.out.2).mono ?_
  rintro e W2 ⟨rfl, rfl⟩
  go_wp2_with fail
  refine (G2.out W H.out.2).mono ?_
  rintro e W2 ⟨rfl, rfl⟩
  go_wp2_with fail
  refine (G3.out W H.out.2).mono ?_
  rintro e W2 ⟨rfl, rfl⟩
  go_wp2_with fail
  clear G1 G2 G3 KO S1
  have HC : Hid (∀ i, i < m → 28 + i * s + s ≤ al) := fun i hi => by
    have h1 : (i + 1) * s ≤ m * s := Nat.mul_le_mul_right _ hi
    rw [Nat.succ_mul] at h1
    have := HN.out.2.2.1
    omega
  go_loopw [11] (fun v wl => ∃ (i : Nat) (A2 : Option Addr) (c2 : Nat) (zs : List IM), v = .int .i64 ((28 + i * s : Nat) : Int) ∧ i ≤ m ∧ wl.heap[w.heap.size]? = some (.cells #[.int .u8 (kd.toNat : Int), .slice A2 i c2] 41) ∧
    Hid (zs.map IM.itm = itmsQ bs s i ∧ (itmsQ bs s i).all (fun y => mayL kd y.2) = true) ∧ OwnR wl (w.heap.size + 1) 49 17 A2 i c2 (zs.flatMap IM.cells) ∧ Ims wl (w.heap.size + 1) zs ∧ Below w.heap.size w wl) (fun v _ => (al - (intOf v).toNat))
  case atStart => exact ⟨0, none, 0, [], by rw [Nat.zero_mul]; rfl, Nat.zero_le _, H.out.1, ⟨rfl, rfl⟩, OwnR.nil _ _ _ _, Ims.nil _ _, H.out.2⟩
  case round =>
    obtain ⟨i, A2, c2, zs, rfl, him, hk, hz, ho, hi, hb⟩ := hrel
    obtain ⟨p, hp⟩ : ∃ p, p = 28 + i * s := ⟨_, rfl⟩
    rw [← hp]
    rcases Nat.lt_or_ge i m with hlt | hge
    · have hpa := HC.out i hlt
      rw [← hp] at hpa
      obtain ⟨q, hq⟩ : ∃ q, q = p + s := ⟨_, rfl⟩
      have l1 : decide ((p : Int) < (al : Int)) = true := decide_eq_true (by omega)
      have l2 : decide (p < al) = true := decide_eq_true (by omega)
      have l3 : IntKind.i64.wrap ((p : Int) + (s : Int)) = (q : Int) := by rw [show (p : Int) + (s : Int) = (q : Int) by omega]; exact IntWalk.i64_in _ (by have := HN.out.2.1; omega)
      have l4 : (p : Int) ≤ (q : Int) := by omega
      have l5 : (q : Int) ≤ (c : Int) := by have := HN.out.2.1; omega
      have l6 : p ≤ q := by omega
      have l7 : q ≤ c := by have := HN.out.2.1; omega
      obtain ⟨hA, hN⟩ : A = some ⟨b, off, none⟩ ∧ (16 < s ∧ al ≤ n) := ⟨HN.out.2.2.2.1, HN.out.1, HN.out.2.1⟩
      have RW := (HW.out wr hb)
      clear HW HN
      subst hA
      have RC := rb_cut RW.1 p s (by omega) (by omega)
      have C := Lib.hid (readItem_any (some ⟨b, off + p, none⟩) s (c - p) (cut bs p s) wr RC (by omega) (by omega) (by omega) (by omega))
      obtain ⟨x0, x1, x2, x3, x4, x5, x6, x7, x8, x9, x10, x11, x12, x13, x14, x15, hx⟩ := list16 (l := cut bs p 16) (cut_len _ _ _ (by have := RW.1.1; omega))
      rw [cut_take16 _ _ _ (by omega), cut_drop16, hx] at C
      have DAT : Hid (itmQ bs p s = ([x0, x1, x2, x3, x4, x5, x6, x7, x8, x9, x10, x11, x12, x13, x14, x15], cut bs (p + 16) (s - 16))) := by unfold Hid itmQ; rw [hx]
      generalize cut bs (p + 16) (s - 16) = dd at C DAT
      have qs : q - p = s := by omega
      have KK := Lib.hid (And.intro hk (And.intro hz (And.intro ho (And.intro hi (And.intro hb (And.intro RW.2 hb.size))))))
      have HPQ := Lib.hid (And.intro hp (And.intro hq (And.intro hN (And.intro hpa hlt))))
      clear hx RC RW hk hz ho hi hb hN hp hq hpa hlt him HC
      go_wp2_with fail
      refine C.out.mono ?_
      rintro e w3 ⟨A3, n3, c3, rfl, ho3, hb3⟩
      rw [show itmC [x0, x1, x2, x3, x4, x5, x6, x7, x8, x9, x10, x11, x12, x13, x14, x15] A3 n3 c3 = #[.int .u8 (x0.toNat : Int), .int .u8 (x1.toNat : Int), .int .u8 (x2.toNat : Int), .int .u8 (x3.toNat : Int), .int .u8 (x4.toNat : Int), .int .u8 (x5.toNat : Int), .int .u8 (x6.toNat : Int), .int .u8 (x7.toNat : Int), .int .u8 (x8.toNat : Int), .int .u8 (x9.toNat : Int), .int .u8 (x10.toNat : Int), .int .u8 (x11.toNat : Int), .int .u8 (x12.toNat : Int), .int .u8 (x13.toNat : Int), .int .u8 (x14.toNat : Int), .int .u8 (x15.toNat : Int), .slice A3 n3 c3] from rfl]
      have k3 := has_below KK.out.1 hb3
      have K3 := Lib.hid (And.intro k3 (And.intro ho3 (And.intro hb3 (And.intro hb3.size ho3.cap))))
      obtain ⟨z0, z1⟩ := cells_2 (has_alloc k3 (.cells #[.int .u8 (x0.toNat : Int), .int .u8 (x1.toNat : Int), .int .u8 (x2.toNat : Int), .int .u8 (x3.toNat : Int), .int .u8 (x4.toNat : Int), .int .u8 (x5.toNat : Int), .int .u8 (x6.toNat : Int), .int .u8 (x7.toNat : Int), .int .u8 (x8.toNat : Int), .int .u8 (x9.toNat : Int), .int .u8 (x10.toNat : Int), .int .u8 (x11.toNat : Int), .int .u8 (x12.toNat : Int), .int .u8 (x13.toNat : Int), .int .u8 (x14.toNat : Int), .int .u8 (x15.toNat : Int), .slice A3 n3 c3] 49))
      clear k3 ho3 hb3 C
      go_wp2_with fail
      have hb4 : Below w3.heap.size w3 (w3.alloc (.cells #[.int .u8 (x0.toNat : Int), .int .u8 (x1.toNat : Int), .int .u8 (x2.toNat : Int), .int .u8 (x3.toNat : Int), .int .u8 (x4.toNat : Int), .int .u8 (x5.toNat : Int), .int .u8 (x6.toNat : Int), .int .u8 (x7.toNat : Int), .int .u8 (x8.toNat : Int), .int .u8 (x9.toNat : Int), .int .u8 (x10.toNat : Int), .int .u8 (x11.toNat : Int), .int .u8 (x12.toNat : Int), .int .u8 (x13.toNat : Int), .int .u8 (x14.toNat : Int), .int .u8 (x15.toNat : Int), .slice A3 n3 c3] 49)) := kp_alloc (Below.refl _ _) _
      have F := Lib.hid (fits_any kd A3 n3 c3 dd (w3.alloc (.cells #[.int .u8 (x0.toNat : Int), .int .u8 (x1.toNat : Int), .int .u8 (x2.toNat : Int), .int .u8 (x3.toNat : Int), .int .u8 (x4.toNat : Int), .int .u8 (x5.toNat : Int), .int .u8 (x6.toNat : Int), .int .u8 (x7.toNat : Int), .int .u8 (x8.toNat : Int), .int .u8 (x9.toNat : Int), .int .u8 (x10.toNat : Int), .int .u8 (x11.toNat : Int), .int .u8 (x12.toNat : Int), .int .u8 (x13.toNat : Int), .int .u8 (x14.toNat : Int), .int .u8 (x15.toNat : Int), .slice A3 n3 c3] 49)) (K3.out.2.1.rb.below hb4) K3.out.2.2.2.2.1 (by have := K3.out.2.2.2.2.2; unfold maxLen at this; omega) ((KK.out.2.2.2.2.2.1.below' K3.out.2.2.1).below' hb4))
      have K5 := Lib.hid (And.intro (has_alloc K3.out.1 (.cells #[.int .u8 (x0.toNat : Int), .int .u8 (x1.toNat : Int), .int .u8 (x2.toNat : Int), .int .u8 (x3.toNat : Int), .int .u8 (x4.toNat : Int), .int .u8 (x5.toNat : Int), .int .u8 (x6.toNat : Int), .int .u8 (x7.toNat : Int), .int .u8 (x8.toNat : Int), .int .u8 (x9.toNat : Int), .int .u8 (x10.toNat : Int), .int .u8 (x11.toNat : Int), .int .u8 (x12.toNat : Int), .int .u8 (x13.toNat : Int), .int .u8 (x14.toNat : Int), .int .u8 (x15.toNat : Int), .slice A3 n3 c3] 49)) (And.intro (kp_call (kp_call KK.out.2.2.2.2.1 K3.out.2.2.1) hb4) (And.intro (has_new w3 (.cells #[.int .u8 (x0.toNat : Int), .int .u8 (x1.toNat : Int), .int .u8 (x2.toNat : Int), .int .u8 (x3.toNat : Int), .int .u8 (x4.toNat : Int), .int .u8 (x5.toNat : Int), .int .u8 (x6.toNat : Int), .int .u8 (x7.toNat : Int), .int .u8 (x8.toNat : Int), .int .u8 (x9.toNat : Int), .int .u8 (x10.toNat : Int), .int .u8 (x11.toNat : Int), .int .u8 (x12.toNat : Int), .int .u8 (x13.toNat : Int), .int .u8 (x14.toNat : Int), .int .u8 (x15.toNat : Int), .slice A3 n3 c3] 49)) hb4)))
      clear z0 z1 hb4
      generalize w3.alloc (.cells #[.int .u8 (x0.toNat : Int), .int .u8 (x1.toNat : Int), .int .u8 (x2.toNat : Int), .int .u8 (x3.toNat : Int), .int .u8 (x4.toNat : Int), .int .u8 (x5.toNat : Int), .int .u8 (x6.toNat : Int), .int .u8 (x7.toNat : Int), .int .u8 (x8.toNat : Int), .int .u8 (x9.toNat : Int), .int .u8 (x10.toNat : Int), .int .u8 (x11.toNat : Int), .int .u8 (x12.toNat : Int), .int .u8 (x13.toNat : Int), .int .u8 (x14.toNat : Int), .int .u8 (x15.toNat : Int), .slice A3 n3 c3] 49) = w4 at *
      refine F.out.mono ?_
      clear F
      rintro e w5 ⟨rfl, hb5⟩
      have K6 := Lib.hid (And.intro (has_below K5.out.1 hb5) (And.intro (kp_call K5.out.2.1 hb5) (And.intro (has_below K5.out.2.2.1 hb5) (kp_call K5.out.2.2.2 hb5))))
      clear hb5
      obtain ⟨z0, z1⟩ := cells_2 K6.out.1
      obtain ⟨y0, y1⟩ := free_2 K6.out.1
      cases hm : mayL kd dd with
      | false =>
        have HM := Lib.hid hm
        clear hm
        go_wp2
        refine bodyPost_ret (results_ctt Tryd.results25 _ (LV.agg (set_2 K6.out.1) Tryd.underlying41 rfl list_info)) rfl ?_
        refine ⟨?_, below_2 K6.out.2.1 (Nat.le_refl _)⟩
        rw [if_neg (by rw [itms_bad bs s m i kd HPQ.out.2.2.2.2 (by rw [← HPQ.out.1, DAT.out]; exact HM.out)]; decide)]
        rfl
      | true =>
        have HM := Lib.hid hm
        clear hm
        have hi6 : i + 1 ≤ 1000000 := by
          have h1 := HPQ.out.2.2.2.1
          have h2 := HPQ.out.1
          have h3 := HPQ.out.2.2.1
          have h4 : i ≤ i * s := Nat.le_mul_of_pos_right _ (by omega)
          omega
        have hmax : i + 1 ≤ maxLen := by unfold maxLen; omega
        have HB := Lib.hid (show w.heap.size + 1 ≤ w5.heap.size from Nat.succ_le_of_lt (block_lt K6.out.1))
        have HO5 := Lib.hid ((KK.out.2.2.1.below K3.out.2.2.1 (Nat.le_refl _)).below K6.out.2.2.2 (Nat.le_refl _))
        have HI5 := Lib.hid (((KK.out.2.2.2.1.below K3.out.2.2.1 (Nat.le_refl _)).below K6.out.2.2.2 (Nat.le_refl _)).snoc ⟨[x0, x1, x2, x3, x4, x5, x6, x7, x8, x9, x10, x11, x12, x13, x14, x15], dd, A3, n3, c3⟩ ((K3.out.2.1.below K6.out.2.2.2 (Nat.le_refl _)).lower (Nat.succ_le_of_lt (block_lt KK.out.1))) rfl)
        have HO6 := Lib.hid (HO5.out.alloc (.cells #[.int .u8 (x0.toNat : Int), .int .u8 (x1.toNat : Int), .int .u8 (x2.toNat : Int), .int .u8 (x3.toNat : Int), .int .u8 (x4.toNat : Int), .int .u8 (x5.toNat : Int), .int .u8 (x6.toNat : Int), .int .u8 (x7.toNat : Int), .int .u8 (x8.toNat : Int), .int .u8 (x9.toNat : Int), .int .u8 (x10.toNat : Int), .int .u8 (x11.toNat : Int), .int .u8 (x12.toNat : Int), .int .u8 (x13.toNat : Int), .int .u8 (x14.toNat : Int), .int .u8 (x15.toNat : Int), .slice A3 n3 c3] 49))
        have H1 : Hid (∀ u ∈ (#[.int .u8 (x0.toNat : Int), .int .u8 (x1.toNat : Int), .int .u8 (x2.toNat : Int), .int .u8 (x3.toNat : Int), .int .u8 (x4.toNat : Int), .int .u8 (x5.toNat : Int), .int .u8 (x6.toNat : Int), .int .u8 (x7.toNat : Int), .int .u8 (x8.toNat : Int), .int .u8 (x9.toNat : Int), .int .u8 (x10.toNat : Int), .int .u8 (x11.toNat : Int), .int .u8 (x12.toNat : Int), .int .u8 (x13.toNat : Int), .int .u8 (x14.toNat : Int), .int .u8 (x15.toNat : Int), .slice A3 n3 c3] : Array Value).toList, u.oneCell' = true) := List.all_eq_true.1 rfl
        go_wp2_with (first
          | (refine wpList_load_row rfl _ _ rfl w3.heap.size rfl _ _ _ _ K6.out.2.2.1 Tryd.underlying49 rfl item_info ?_)
          | (at_builtin; refine wpList_appL item_row _ _ rfl rfl rfl (w.heap.size + 1) A2 i c2 _ rfl HO6.out w5.heap.size 1 1 #[.int .u8 (x0.toNat : Int), .int .u8 (x1.toNat : Int), .int .u8 (x2.toNat : Int), .int .u8 (x3.toNat : Int), .int .u8 (x4.toNat : Int), .int .u8 (x5.toNat : Int), .int .u8 (x6.toNat : Int), .int .u8 (x7.toNat : Int), .int .u8 (x8.toNat : Int), .int .u8 (x9.toNat : Int), .int .u8 (x10.toNat : Int), .int .u8 (x11.toNat : Int), .int .u8 (x12.toNat : Int), .int .u8 (x13.toNat : Int), .int .u8 (x14.toNat : Int), .int .u8 (x15.toNat : Int), .slice A3 n3 c3] _ rfl (has_new w5 _) rfl H1.out hmax (by omega) (by have := HB.out; simp; omega) ?_))
        intro V' c' w7 ho7 hg7
        have hne : some w.heap.size ≠ blk A2 := fun e => by
          have := (HO5.out.blk_lt e.symm).1
          omega
        have k7 : w7.heap[w.heap.size]? = some (.cells #[.int .u8 (kd.toNat : Int), .slice A2 i c2] 41) := (hg7.block _ (by have := HB.out; simp; omega) hne).trans (has_alloc K6.out.1 _)
        have hi7 : Ims w7 (w.heap.size + 1) (zs ++ [⟨[x0, x1, x2, x3, x4, x5, x6, x7, x8, x9, x10, x11, x12, x13, x14, x15], dd, A3, n3, c3⟩]) := (HI5.out.below (kp_alloc (Below.refl _ _) _) (Nat.le_refl _)).kept HO6.out (by decide) hg7
        have hb7 : Below w.heap.size w w7 := (kp_alloc K6.out.2.1 _).grown hg7 (by have := HB.out; simp; omega) (fun g hg => Nat.le_trans (Nat.le_succ _) (HO6.out.blk_lt hg).1)
        have K7 := Lib.hid (And.intro k7 (And.intro ho7 (And.intro hi7 hb7)))
        clear z0 z1 y0 y1 hne ho7 hg7 hi7 hb7 k7 hmax hi6
        obtain ⟨z0, z1⟩ := cells_2 K7.out.1
        obtain ⟨y0, y1⟩ := free_2 K7.out.1
        go_wp2
        go_roundw
        case rel =>
          refine ⟨i + 1, V', c', zs ++ [⟨[x0, x1, x2, x3, x4, x5, x6, x7, x8, x9, x10, x11, x12, x13, x14, x15], dd, A3, n3, c3⟩], ?_, ?_, ?_, ?_, ?_, ?_, ?_⟩
          · rw [HPQ.out.2.1, HPQ.out.1, Nat.succ_mul, Nat.add_assoc]
          · exact HPQ.out.2.2.2.2
          · exact (heap_set_at _ _ 1 _ _ _ _ K7.out.1).trans rfl
          · refine ⟨?_, ?_⟩
            · rw [List.map_append, KK.out.2.1.1, itms_succ, ← HPQ.out.1, DAT.out]; rfl
            · rw [itms_succ, List.all_append, KK.out.2.1.2, ← HPQ.out.1, DAT.out]; simp [HM.out]
          · rw [List.flatMap_append]
            exact OwnR.far9 K7.out.2.1 (grown_one _ _ _ _) (Nat.lt_succ_self _)
          · exact fun z hz => ⟨OwnR.far9 (K7.out.2.2.1 z hz).1.row (grown_one _ _ _ _) (Nat.lt_succ_self _), (K7.out.2.2.1 z hz).2⟩
          · exact K7.out.2.2.2.setCell (Nat.le_refl _) _
        case measure =>
          have h1 := HPQ.out.2.1
          have h2 := HPQ.out.2.2.2.1
          have h3 := HPQ.out.2.2.1
          simp [intOf]; omega
    · obtain rfl : i = m := by omega
      have hpa : al = p := by have := HN.out.2.2.1; omega
      have l1 : decide ((p : Int) < (al : Int)) = false := decide_eq_false (by omega)
      have l2 : decide (p < al) = false := decide_eq_false (by omega)
      have K := Lib.hid (And.intro hk (And.intro hz (And.intro ho (And.intro hi (And.intro hb hpa)))))
      clear hk hz ho hi hb hpa hp him hge
      obtain ⟨z0, z1⟩ := cells_2 K.out.1
      obtain ⟨y0, y1⟩ := free_2 K.out.1
      go_wp2
      refine bodyPost_ret (results_ctt Tryd.results25 _ (LV.agg (set_2 K.out.1) Tryd.underlying41 rfl list_info)) rfl ?_
      have h1 : ItemsOwn wr (w.heap.size + 1) A2 i c2 (itmsQ bs s i) := ⟨zs, K.out.2.1.1, K.out.2.2.1, K.out.2.2.2.1⟩
      refine ⟨?_, below_2 K.out.2.2.2.2.1 (Nat.le_refl _)⟩
      rw [if_pos K.out.2.1.2]
      exact ⟨A2, c2, rfl, (h1.far9 (grown_2 _ _) (Nat.lt_succ_self _)).lower (Nat.le_succ _)⟩
end Go.Proofs.YtfampefflkkckaaDoor
namespace Go.Proofs.YtfampefflkkckaaDoor
open Go.RowKit Go
set_option linter.unusedVariables false
set_option linter.unusedSimpArgs false
set_option maxRecDepth 100000
/-- What readList answers. -/
def ListPost (w : World) (bs : List UInt8) (e : Ending) (w' : World) : Prop :=
  (match oneQ bs with
    | none => e = .returned noL
    | some (x, k) => ∃ A2 c2, e = .returned (.tuple #[.agg #[.int .u8 (x.1.toNat : Int), .slice A2 x.2.length c2], .int .i64 (k : Int), .bool true]) ∧ ItemsOwn w' w.heap.size A2 x.2.length c2 x.2) ∧ Below w.heap.size w w'
theorem readList_any (A : Option Addr) (n c : Nat) (bs : List UInt8) (w : World) (hR : RB w A n bs) (hT : Sizes w) (hc : n ≤ c) (hn : n ≤ 1000000) (hcm : c ≤ 9223372036854775807) :
    Calls Tryd.prog 25 #[.slice A n c] w (ListPost w bs) := by
  have hl := hR.1
  by_cases h28 : n < 28
  · have e : oneQ bs = none := by unfold oneQ; rw [if_pos (by omega)]
    refine (readList_less A n c w h28).mono fun e' w' h => ?_
    unfold ListPost
    rw [e]
    exact h
  by_cases hno : leN (cut bs 20 4) ≠ 0 ∨ leN (cut bs 24 4) ≤ 16 ∨ n < leN (cut bs 16 4) ∨ leN (cut bs 16 4) < 28 + leN (cut bs 24 4) ∨ (leN (cut bs 16 4) - 28) % leN (cut bs 24 4) ≠ 0
  · have e : oneQ bs = none := by
      unfold oneQ
      rw [if_neg (by omega)]
      dsimp only
      rw [if_pos (by rw [hl]; exact hno)]
    refine (readList_no A n c bs w hR hT (by omega) hc (by omega) hcm hno).mono fun e' w' h => ?_
    unfold ListPost
    rw [e]
    exact h
  · have e : oneQ bs = if (itmsQ bs (leN (cut bs 24 4)) ((leN (cut bs 16 4) - 28) / leN (cut bs 24 4))).all (fun y => mayL (kindL (cut bs 0 16)) y.2) then some ((kindL (cut bs 0 16), itmsQ bs (leN (cut bs 24 4)) ((leN (cut bs 16 4) - 28) / leN (cut bs 24 4))), leN (cut bs 16 4)) else none := by
      unfold oneQ
      rw [if_neg (by omega)]
      dsimp only
      rw [if_neg (by rw [hl]; exact hno)]
    have h1 : 16 < leN (cut bs 24 4) := by omega
    have h2 : leN (cut bs 16 4) ≤ n := by omega
    have h3 : 28 + leN (cut bs 24 4) ≤ leN (cut bs 16 4) := by omega
    have h4 : (leN (cut bs 16 4) - 28) % leN (cut bs 24 4) = 0 := by
      rcases Nat.eq_zero_or_pos ((leN (cut bs 16 4) - 28) % leN (cut bs 24 4)) with h | h
      · exact h
      · exact absurd (.inr (.inr (.inr (.inr (by omega))))) hno
    have h5 : leN (cut bs 20 4) = 0 := by
      rcases Nat.eq_zero_or_pos (leN (cut bs 20 4)) with h | h
      · exact h
      · exact absurd (.inl (by omega)) hno
    have h6 := Nat.div_add_mod (leN (cut bs 16 4) - 28) (leN (cut bs 24 4))
    rw [h4, Nat.mul_comm] at h6
    have h7 : 1 ≤ (leN (cut bs 16 4) - 28) / leN (cut bs 24 4) := (Nat.one_le_div_iff (by omega)).2 (by omega)
    generalize (leN (cut bs 16 4) - 28) / leN (cut bs 24 4) = m at e h6 h7
    obtain ⟨b, off, q, rfl, -⟩ := hR.at_ (k := 0) (by omega)
    refine (readList_yes b off n c bs m w hR hT (by omega) hc hn hcm ⟨h5, h1, h2, h7, by omega⟩).mono fun e' w' h => ?_
    obtain ⟨h8, h9⟩ := h
    refine ⟨?_, h9⟩
    rw [e]
    have hlen : (itmsQ bs (leN (cut bs 24 4)) m).length = m := by unfold itmsQ; rw [List.length_map, List.length_range]
    by_cases h : (itmsQ bs (leN (cut bs 24 4)) m).all (fun y => mayL (kindL (cut bs 0 16)) y.2) = true
    · rw [if_pos h] at h8 ⊢
      dsimp only
      rw [hlen]
      exact h8
    · rw [if_neg h] at h8 ⊢
      exact h8
end Go.Proofs.YtfampefflkkckaaDoor
namespace Go.Proofs.YtfampefflkkckaaDoor
open Go.RowKit Go
set_option linter.unusedVariables false
set_option linter.unusedSimpArgs false
set_option maxRecDepth 100000
def sLen (v : Value) : Nat := match v with | .slice _ k _ => k | _ => 0
/-- What Read answers. -/
def ReadPost (w : World) (bs : List UInt8) (e : Ending) (w' : World) : Prop :=
  (match readQ bs with
    | none => e = .returned (.tuple #[.slice none 0 0, .int .i64 9])
    | some l => ∃ A2 c2, e = .returned (.tuple #[.slice A2 l.length c2, .int .i64 0]) ∧ ListsOwn w' w.heap.size A2 l.length c2 l) ∧ Below w.heap.size w w'
theorem read_big (A : Option Addr) (n c : Nat) (w : World) (h : 65536 < n) :
    Calls Tryd.prog 11 #[.slice A n c] w fun e w' => e = .returned (.tuple #[.slice none 0 0, .int .i64 10]) ∧ w = w' := by
  have h1 : decide ((n : Int) > (65536 : Int)) = true := decide_eq_true (by omega)
  have h2 : decide ((65536 : Int) < (n : Int)) = true := decide_eq_true (by omega)
  have h3 : decide (65536 < n) = true := decide_eq_true h
  clear h
  go_enter Tryd.func11, Tryd.ntmps11
  go_wp2
  go_ret2
  exact ⟨rfl, rfl⟩
set_option maxHeartbeats 4000000 in
theorem read_any (A0 : Option Addr) (n0 c0 : Nat) (bs : List UInt8) (w : World) (hR : RB w A0 n0 bs) (hT : Sizes w) (hc0 : n0 ≤ c0) (hn : n0 ≤ 65536) (hcm : c0 ≤ 9223372036854775807) :
    Calls Tryd.prog 11 #[.slice A0 n0 c0] w (ReadPost w bs) := by
  have h1 : decide ((n0 : Int) > (65536 : Int)) = false := decide_eq_false (by omega)
  have h2 : decide ((65536 : Int) < (n0 : Int)) = false := decide_eq_false (by omega)
  have h3 : decide (65536 < n0) = false := decide_eq_false (by omega)
  have HR := Lib.hid hR
  have HT := Lib.hid hT
  have HN := Lib.hid (And.intro hc0 (And.intro hn hcm))
  clear hR hT hn hc0 hcm
  go_enter Tryd.func11, Tryd.ntmps11
  go_wp2
  clear h1 h2 h3
  go_loopw [0, 4] (fun v u wl => ∃ (A1 : Option Addr) (n1 c1 : Nat) (rest : List UInt8) (A2 : Option Addr) (k c2 : Nat) (ls : List LM), v = .slice A1 n1 c1 ∧ u = .slice A2 k c2 ∧ RB w A1 n1 rest ∧ n1 ≤ c1 ∧ c1 ≤ 9223372036854775807 ∧
    OwnR wl w.heap.size 41 2 A2 k c2 (ls.flatMap LM.cells) ∧ Lms wl w.heap.size ls ∧ Below w.heap.size w wl ∧ Hid (readQ bs = (readQ rest).map (ls.map LM.lst ++ ·) ∧ ls.length = k ∧ k + n1 ≤ 65536)) (fun v _ _ => sLen v)
  case atStart => exact ⟨A0, n0, c0, bs, none, 0, 0, [], rfl, rfl, HR.out, HN.out.1, HN.out.2.2, OwnR.nil _ _ _ _, Lms.nil _ _, Below.refl _ _, ⟨by cases readQ bs <;> rfl, rfl, by have := HN.out.2.1; omega⟩⟩
  case round =>
    obtain ⟨A1, n1, c1, rest, A2, k, c2, ls, rfl, rfl, hr, hc1, hc2, ho, hi, hb, hx⟩ := hrel
    by_cases h0 : n1 = 0
    · subst h0
      obtain rfl : rest = [] := List.eq_nil_of_length_eq_zero hr.1
      have K := Lib.hid (And.intro ho (And.intro hi (And.intro hb hx)))
      clear ho hi hb hx hr
      go_wp2
      go_ret2
      refine ⟨?_, K.out.2.2.1⟩
      rw [K.out.2.2.2.1, read_nil]
      show ∃ A2 c2, _ ∧ _
      simp only [List.append_nil, List.length_map, K.out.2.2.2.2.1]
      exact ⟨A2, c2, rfl, ls, rfl, K.out.1, K.out.2.1⟩
    · obtain ⟨b, off, q, rfl, -⟩ := hr.at_ (k := 0) (by omega)
      have hrl := hr.1
      have hx3 := hx.2.2
      have l1 : decide ((n1 : Int) > (0 : Int)) = true := decide_eq_true (by omega)
      have l2 : decide ((0 : Int) < (n1 : Int)) = true := decide_eq_true (by omega)
      have l3 : decide (0 < n1) = true := decide_eq_true (by omega)
      have l4 : 0 < n1 := by omega
      have hne : rest ≠ [] := fun e => by rw [e] at hrl; exact h0 hrl.symm
      have RL := readList_any (some ⟨b, off, none⟩) n1 c1 rest wr (hr.below hb) (HT.out.below' hb) hc1 (by omega) hc2
      cases hq : oneQ rest with
      | none =>
        have C : Hid (Calls Tryd.prog 25 #[.slice (some ⟨b, off, none⟩) n1 c1] wr fun e w' => e = .returned noL ∧ Below wr.heap.size wr w') := RL.mono fun e w' h => by
          unfold ListPost at h; rw [hq] at h; exact h
        have K := Lib.hid (And.intro hb (show readQ bs = none by rw [hx.1, read_none hne hq]; rfl))
        clear RL hr ho hi hb hx hq hne hrl hx3
        go_wp2_with fail
        refine C.out.mono ?_
        clear C
        rintro e w3 ⟨rfl, hb3⟩
        have K3 := Lib.hid (kp_call K.out.1 hb3)
        clear hb3
        rw [show noL = .tuple #[.agg #[.int .u8 0, .slice none 0 0], .int .i64 0, .bool false] from rfl]
        go_wp2
        go_ret2
        refine ⟨?_, kp_alloc K3.out _⟩
        rw [K.out.2]
        rfl
      | some p =>
        obtain ⟨x, m⟩ := p
        have h1 := one_read hq
        rw [hrl] at h1
        have C : Hid (Calls Tryd.prog 25 #[.slice (some ⟨b, off, none⟩) n1 c1] wr fun e w' => (∃ A3 c3, e = .returned (.tuple #[.agg #[.int .u8 (x.1.toNat : Int), .slice A3 x.2.length c3], .int .i64 (m : Int), .bool true]) ∧ ItemsOwn w' wr.heap.size A3 x.2.length c3 x.2) ∧ Below wr.heap.size wr w') := RL.mono fun e w' h => by
          unfold ListPost at h; rw [hq] at h; exact h
        obtain ⟨xk, xi⟩ := x
        dsimp only at C h1
        have m1 : (m : Int) ≤ (n1 : Int) := by omega
        have m2 : m ≤ n1 := by omega
        have K := Lib.hid (And.intro ho (And.intro hi (And.intro hb (And.intro hb.size (And.intro (show readQ bs = (readQ (rest.drop m)).map ((ls.map LM.lst ++ [(xk, xi)]) ++ ·) by rw [hx.1, read_some hq, Option.map_map]; congr 1; funext l; simp) (And.intro hx.2 (And.intro hr h1.2.2.2.2)))))))
        clear RL ho hi hb hx hq hne h1 hr hrl
        go_wp2_with fail
        refine C.out.mono ?_
        clear C
        rintro e w3 ⟨⟨A3, c3, rfl, hi3⟩, hb3⟩
        have hmax : k + 1 ≤ maxLen := by unfold maxLen; omega
        obtain ⟨xl, hxl⟩ : ∃ xl, xi.length = xl := ⟨_, rfl⟩
        rw [hxl] at hi3 ⊢
        have HXL := Lib.hid hxl
        clear hxl
        have HB := Lib.hid (Nat.le_trans K.out.2.2.2.1 hb3.size)
        have K3 := Lib.hid (And.intro (kp_call K.out.2.2.1 hb3) (And.intro (hi3.lower K.out.2.2.2.1) hb3))
        have HO6 := Lib.hid (((K.out.1.below hb3 (Nat.le_refl _)).alloc (.cells #[.int .u8 (xk.toNat : Int), .slice A3 xl c3] 41)).alloc (.cells #[.int .u8 (xk.toNat : Int), .slice A3 xl c3] 41))
        have H1 : Hid (∀ u ∈ (#[.int .u8 (xk.toNat : Int), .slice A3 xl c3] : Array Value).toList, u.oneCell' = true) := List.all_eq_true.1 rfl
        clear hi3 hb3
        have HG : Hid (((w3.alloc (.cells #[.int .u8 (xk.toNat : Int), .slice A3 xl c3] 41)).alloc (.cells #[.int .u8 (xk.toNat : Int), .slice A3 xl c3] 41)).heap[w3.heap.size + 1]? = some (.cells #[.int .u8 (xk.toNat : Int), .slice A3 xl c3] 41)) := has_new' _ _ _ (by simp)
        have HE : Hid (readQ bs = (readQ (rest.drop m)).map ((ls ++ [(⟨xk, xi, A3, xl, c3⟩ : LM)]).map LM.lst ++ ·) ∧ (ls ++ [(⟨xk, xi, A3, xl, c3⟩ : LM)]).length = k + 1 ∧ k + 1 + (n1 - m) ≤ 65536) := ⟨by rw [K.out.2.2.2.2.1, List.map_append]; rfl, by rw [List.length_append, K.out.2.2.2.2.2.1.1]; rfl, by have := K.out.2.2.2.2.2.2.2; omega⟩
        by_cases hmc : m = c1
        · obtain rfl : n1 = m := by omega
          subst hmc
          have HD : Hid (rest.drop n1 = []) := List.drop_of_length_le (by rw [K.out.2.2.2.2.2.2.1.1]; exact Nat.le_refl _)
          go_wp2_with (at_builtin; refine wpList_appL list_row _ _ rfl rfl rfl w.heap.size A2 k c2 _ rfl HO6.out (w3.heap.size + 1) 1 1 #[.int .u8 (xk.toNat : Int), .slice A3 xl c3] _ rfl HG.out rfl H1.out hmax (by omega) (by have := HB.out; simp; omega) ?_)
          intro V' c' w7 ho7 hg7
          have hi7 : Lms w7 w.heap.size (ls ++ [⟨xk, xi, A3, xl, c3⟩]) := ((((K.out.2.1.below K3.out.2.2 (Nat.le_refl _)).snoc ⟨xk, xi, A3, xl, c3⟩ K3.out.2.1).below (kp_alloc (kp_alloc (Below.refl _ _) _) _) (Nat.le_refl _))).kept HO6.out (by decide) (by decide) hg7
          have hb7 : Below w.heap.size w w7 := (kp_alloc (kp_alloc K3.out.1 _) _).grown hg7 (by have := HB.out; simp; omega) (fun g hg => (HO6.out.blk_lt hg).1)
          have K7 := Lib.hid (And.intro ho7 (And.intro hi7 hb7))
          clear ho7 hg7 hi7 hb7
          go_wp2
          go_roundw
          case rel => exact ⟨_, 0, 0, [], V', k + 1, c', ls ++ [⟨xk, xi, A3, xl, c3⟩], rfl, rfl, RB.nil _ _, Nat.le_refl _, by omega, by rw [List.flatMap_append]; exact K7.out.1, K7.out.2.1, K7.out.2.2, ⟨by rw [HE.out.1, HD.out], HE.out.2.1, by have := HE.out.2.2; omega⟩⟩
          case measure => simp [sLen]; omega
        · have m3 : m < c1 := by omega
          have hm0 : m ≠ 0 := by have := K.out.2.2.2.2.2.2.2; omega
          have RD : Hid (RB w (some ⟨b, off + m, none⟩) (n1 - m) (rest.drop m)) := ⟨by rw [List.length_drop, K.out.2.2.2.2.2.2.1.1], K.out.2.2.2.2.2.2.1.2.drop_ m |> fun h => by simpa [Addr.add, hm0] using h⟩
          go_wp2_with (at_builtin; refine wpList_appL list_row _ _ rfl rfl rfl w.heap.size A2 k c2 _ rfl HO6.out (w3.heap.size + 1) 1 1 #[.int .u8 (xk.toNat : Int), .slice A3 xl c3] _ rfl HG.out rfl H1.out hmax (by omega) (by have := HB.out; simp; omega) ?_)
          intro V' c' w7 ho7 hg7
          have hi7 : Lms w7 w.heap.size (ls ++ [⟨xk, xi, A3, xl, c3⟩]) := ((((K.out.2.1.below K3.out.2.2 (Nat.le_refl _)).snoc ⟨xk, xi, A3, xl, c3⟩ K3.out.2.1).below (kp_alloc (kp_alloc (Below.refl _ _) _) _) (Nat.le_refl _))).kept HO6.out (by decide) (by decide) hg7
          have hb7 : Below w.heap.size w w7 := (kp_alloc (kp_alloc K3.out.1 _) _).grown hg7 (by have := HB.out; simp; omega) (fun g hg => (HO6.out.blk_lt hg).1)
          have K7 := Lib.hid (And.intro ho7 (And.intro hi7 hb7))
          clear ho7 hg7 hi7 hb7
          go_wp2
          go_roundw
          case rel => exact ⟨_, n1 - m, c1 - m, rest.drop m, V', k + 1, c', ls ++ [⟨xk, xi, A3, xl, c3⟩], rfl, rfl, RD.out, by omega, by omega, by rw [List.flatMap_append]; exact K7.out.1, K7.out.2.1, K7.out.2.2, ⟨HE.out.1, HE.out.2.1, HE.out.2.2⟩⟩
          case measure => have := K.out.2.2.2.2.2.2.2; simp [sLen]; omega
end Go.Proofs.YtfampefflkkckaaDoor
