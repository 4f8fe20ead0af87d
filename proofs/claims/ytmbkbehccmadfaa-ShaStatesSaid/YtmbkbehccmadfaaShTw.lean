/-
  sha: two states.
-/
import Derived.Test.YtmbkbehccmadfaaShZe
import Derived.Test.YtmbkbehccmadfaaAppA
import Derived.Deep.Grids
import Derived.ChangeShapes
namespace Go.Proofs.Ytmbkbehccmadfaa
open Go.RowKit Go
set_option linter.unusedVariables false
set_option linter.unusedSimpArgs false
set_option maxRecDepth 100000
/-- WHAT A LAW's WALK IS TOLD OF A SLICE OF BOOLS THAT CAME IN. -/
structure IsBools (w : World) (A : Option Addr) (n c : Nat) (F : Nat → Bool) : Prop where
  le : n ≤ c
  max : c ≤ maxLen
  cells : ∀ i, i < n → ∃ b off, A = some ⟨b, off, none⟩ ∧ b < w.heap.size ∧ w.cell? ⟨b, off + i, none⟩ = some (.bool (F i))
section
open Go.ChangeShapes Go.WideShapes Go.ChangeAt Go.Deep
theorem open_s48 {H : Type} {enc : TypeId × Value → H} {w : World} {A : Option Addr} {n c : Nat} {d : DataW H} {p : List MemPlace} (h : DataW.Trod enc Try.prog w 0 (fun _ => true) true 48 (.slice A n c) d p) : ∃ F, IsBools w A n c F := by
  obtain ⟨fuel, hf⟩ := h
  rcases open_bools Try.underlying48 Try.underlying4 (by kernel_rfl) hf with ⟨hcs, _⟩ | ⟨a, len, cap, F, hcs, _, hl, hm, _, hcell⟩
  · simp [Value.cells] at hcs
    obtain ⟨rfl, rfl, rfl⟩ := hcs
    exact ⟨fun _ => false, Nat.le_refl _, Nat.zero_le _, fun i hi => absurd hi (by omega)⟩
  · simp [Value.cells] at hcs
    obtain ⟨rfl, rfl, rfl⟩ := hcs
    refine ⟨F, hl, hm, fun i hi => ?_⟩
    obtain ⟨b, off, spot⟩ := a
    have hsp : spot = none := by
      have h1 := World.cell?_spot (hcell 0 (by omega))
      simpa [Addr.add] using h1
    subst hsp
    have h0 := hcell i (by omega)
    have hadd : (⟨b, off, none⟩ : Addr).add i = ⟨b, off + i, none⟩ := by unfold Addr.add; split <;> simp_all
    rw [hadd] at h0
    exact ⟨b, off, rfl, World.block_lt_of_cell? w _ h0, h0⟩
end
theorem far_num {w : World} {base g : Nat} {A : Option Addr} {n c : Nat} {xs : List UInt8} (h : OwnB w base A n c xs) (hg : g < base) : blk A = none ∨ blk A ≠ some g := by
  cases e : blk A with
  | none => exact .inl rfl
  | some k =>
    right
    intro e2
    injection e2 with e2
    have := (h.blk_lt e).1
    omega
theorem far_symm2 {A A' : Option Addr} (h : blk A = none ∨ blk A ≠ blk A') : blk A' = none ∨ blk A' ≠ blk A := by
  rcases h with h1 | h1
  · by_cases h2 : blk A' = none
    · exact .inl h2
    · exact .inr (fun e => h2 (e.trans h1))
  · exact .inr (fun e => h1 e.symm)
/-- What an append answers is apart from what lay apart. -/
theorem far_new {w : World} {base : Nat} {A A' A9 : Option Addr} {n c : Nat} {xs : List UInt8} (h : OwnB w base A' n c xs) (hf : blk A = none ∨ blk A ≠ blk A') (hp : blk A9 = blk A ∨ blk A9 = some w.heap.size) : blk A9 = none ∨ blk A9 ≠ blk A' := by
  rcases hp with e | e
  · rw [e]; exact hf
  · right
    intro e2
    rw [e] at e2
    have := (h.blk_lt e2.symm).2
    omega
set_option maxHeartbeats 16000000 in
theorem two_walk (A : Option Addr) (n c : Nat) (X : Nat → Option Addr × Nat × Nat) (bss : Nat → List UInt8) (D : Option Addr) (m d : Nat) (F : Nat → Bool) (w : World) (h1 : IsRows w A n c X bss) (h2 : IsBools w D m d F) :
    Calls Try.prog 9 #[.slice A n c, .slice D m d] w fun e w' => e = .returned (.bool true) ∧ Below w.heap.size w w' := by
  have WK := Lib.hid (fun W => works_any W)
  have l1 := h1.lim
  have l2 : m ≤ 9223372036854775807 := by have h3 := h2.le; have h4 := h2.max; unfold maxLen at h4; omega
  have HR := Lib.hid h1
  have HD := Lib.hid h2
  obtain ⟨B, hB⟩ : ∃ B, w.heap.size = B := ⟨_, rfl⟩
  clear h1 h2
  by_cases hn : n ≤ 60 ∧ m ≤ 60
  · obtain ⟨hn, hm⟩ := hn
    have i1 : ¬ (n : Int) > 60 := by omega
    have i2 : ¬ (m : Int) > 60 := by omega
    go_enter Try.func9, Try.ntmps9
    go_wp2_with fail
    refine (new_any w).mono ?_
    rintro e w1 ⟨rfl, hw1⟩
    have hs1 : w1.heap.size = B + 1 := by rw [hw1]; simp [hB]
    have hk1 : Holds w1 B [] 0 := by rw [hw1]; exact holds_new w _ hB.symm
    have hb1 : Below w.heap.size w w1 := by rw [hw1]; exact kp_alloc (Below.refl _ _) _
    rw [hB]
    clear hw1
    go_wp2_with fail
    refine (New_holds w1).mono ?_
    rintro e w2 ⟨rfl, hk2, hb2⟩
    rw [hs1] at hk2 ⊢
    have H2 : Hid (OwnB w2 (B + 2) none 0 0 [] ∧ OwnB w2 (B + 2) none 0 0 [] ∧ (blk (none : Option Addr) = none ∨ blk (none : Option Addr) ≠ blk none) ∧ Holds w2 B (([] : List UInt8).map UInt8.toNat) 0 ∧ Holds w2 (B + 1) (([] : List UInt8).map UInt8.toNat) 0 ∧ Below B w w2) :=
      ⟨OwnB.nil _ _, OwnB.nil _ _, .inl rfl, hk1.below hb2, hk2, by have := kp_call hb1 hb2; rw [hB] at this; exact this⟩
    clear hk1 hb1 hk2 hb2 hs1
    go_wp2_with fail
    go_loopw [9, 7, 8] (fun vi va vb wl => ∃ (i : Nat) (A1 : Option Addr) (n1 c1 : Nat) (xs : List UInt8) (A2 : Option Addr) (n2 c2 : Nat) (ys : List UInt8), vi = .int .i64 (i : Int) ∧ i ≤ n ∧ va = .slice A1 n1 c1 ∧ vb = .slice A2 n2 c2 ∧ n1 ≤ 1024 * i ∧ n2 ≤ 1024 * i ∧ Hid (OwnB wl (B + 2) A1 n1 c1 xs ∧ OwnB wl (B + 2) A2 n2 c2 ys ∧ (blk A1 = none ∨ blk A1 ≠ blk A2) ∧ Holds wl B (xs.map UInt8.toNat) n1 ∧ Holds wl (B + 1) (ys.map UInt8.toNat) n2 ∧ Below B w wl)) (fun vi _ _ _ => n - (intOf vi).toNat)
    case atStart => exact ⟨0, none, 0, 0, [], none, 0, 0, [], rfl, Nat.zero_le _, rfl, rfl, Nat.zero_le _, Nat.zero_le _, H2.out⟩
    case round =>
      obtain ⟨i, A1, n1, c1, xs, A2, n2, c2, ys, rfl, hi, rfl, rfl, hn1, hn2, HK⟩ := hrel
      clear H2
      by_cases hlt : i < n
      · have i3 : (i : Int) < (n : Int) := by omega
        obtain ⟨b, off, rfl, hb, hrow⟩ := HR.out.rows (by omega)
        obtain ⟨d1, hbs⟩ := hrow i hlt
        obtain ⟨⟨Ak, nk, ck⟩, hX⟩ : ∃ y, X i = y := ⟨_, rfl⟩
        rw [hX] at d1 hbs
        simp only at d1 hbs
        have hk1 := hbs.le
        have hk2 : ck ≤ 9223372036854775807 := by have h2 := hbs.max; unfold maxLen at h2; omega
        have hk3 := hbs.lim
        have HBS := Lib.hid hbs.rb
        have hcell : ∀ W, Below B w W → W.cell? ⟨b, off + i, none⟩ = some (.slice Ak nk ck) := fun W h => (h.cell (p := ⟨b, off + i, none⟩) (by rw [← hB]; exact hb)).trans d1
        have HC := Lib.hid hcell
        have cl2 := hcell _ HK.out.2.2.2.2.2
        have e6 : IntKind.i64.wrap ((i : Int) + 1) = (i : Int) + 1 := IntWalk.i64_in _ (by omega)
        clear d1 hbs hrow hcell hX
        by_cases hkn : nk ≤ 1024
        · have i4 : ¬ (nk : Int) > 1024 := by omega
          by_cases him : i < m
          · have i5 : (i : Int) < (m : Int) := by omega
            obtain ⟨bd, od, rfl, hbd, hcd⟩ := HD.out.cells i him
            have c3 := (HK.out.2.2.2.2.2.cell (p := ⟨bd, od + i, none⟩) (by rw [← hB]; exact hbd)).trans hcd
            obtain ⟨fb, hfb⟩ : ∃ fb, F i = fb := ⟨_, rfl⟩
            rw [hfb] at c3
            clear hcd hfb
            cases fb with
            | true =>
              have WA := Lib.hid (write_bs B Ak nk ck (xs.map UInt8.toNat) n1 (bss i) w wr (by rw [hB]; exact HK.out.2.2.2.2.2) (by omega) HK.out.2.2.2.1 HBS.out hk1 hk2 (by omega) (by omega))
              go_wp2_with fail
              refine WA.out.mono ?_
              rintro e w5 ⟨rfl, hk5, hb5, hg5⟩
              obtain ⟨q1, q2, q3, q4, q5, q6⟩ := HK.out
              have hsz5 : B + 2 ≤ w5.heap.size := by have := q5.lt; have := hg5.size; omega
              have H5 : Hid (OwnB w5 (B + 2) A1 n1 c1 xs ∧ OwnB w5 (B + 2) A2 n2 c2 ys ∧ (blk A1 = none ∨ blk A1 ≠ blk A2) ∧ Holds w5 (B + 1) (ys.map UInt8.toNat) n2 ∧ Holds w5 B (xs.map UInt8.toNat ++ (bss i).map UInt8.toNat) (n1 + nk) ∧ Below B w w5) :=
                ⟨q1.kept hg5 (far_num q1 (by omega)), q2.kept hg5 (far_num q2 (by omega)), q3, q5.grown hg5 (by intro e; injection e with e; omega), hk5, by rw [← hB]; exact hb5⟩
              rw [← List.map_append] at H5
              rw [hB] at hb5
              have c5 := HC.out _ hb5
              have RBW : Hid (RB w5 Ak nk (bss i)) := HBS.out.below (by rw [hB]; exact hb5)
              clear q1 q2 q3 q4 q5 q6 WA HK cl2 HC HBS hk5 hb5 hg5
              go_wp2_with (at_builtin; refine wpList_appA _ _ rfl rfl rfl (B + 2) A1 n1 c1 xs rfl H5.out.1 Ak nk ck (bss i) rfl RBW.out (by omega) hsz5 ?_)
              intro A9 c9 w9 hown9 hg9 hp9
              obtain ⟨q1, q2, q3, q4, q5, q6⟩ := H5.out
              have hfar : blk A1 = none ∨ blk A1 ≠ blk A2 := q3
              have hfar' : blk A2 = none ∨ blk A2 ≠ blk A1 := far_symm2 q3
              have hn9 : ∀ k, blk A1 = some k → B + 2 ≤ k := fun k hk => (q1.blk_lt hk).1
              have H9 : Hid (OwnB w9 (B + 2) A9 (n1 + nk) c9 (xs ++ bss i) ∧ OwnB w9 (B + 2) A2 n2 c2 ys ∧ (blk A9 = none ∨ blk A9 ≠ blk A2) ∧ Holds w9 B ((xs ++ bss i).map UInt8.toNat) (n1 + nk) ∧ Holds w9 (B + 1) (ys.map UInt8.toNat) (n2) ∧ Below B w w9) := by
                refine ⟨hown9, q2.kept hg9 hfar', ?_, q5.grown hg9 (fun e => by have := hn9 _ e.symm; omega), q4.grown hg9 (fun e => by have := hn9 _ e.symm; omega), q6.grown hg9 (by have := q6.size; omega) (fun k e => by have := hn9 _ e; omega)⟩
                exact far_new q2 hfar hp9
              clear q1 q2 q3 q4 q5 q6 hfar hfar' hn9 hown9 hg9 hp9 H5 RBW c5 hsz5
              go_wp2
              go_roundw
              case rel => exact ⟨i + 1, A9, n1 + nk, c9, xs ++ bss i, A2, n2, c2, ys, by go_num, by omega, rfl, rfl, by omega, by omega, H9.out⟩
              case measure => simp [intOf]; omega
            | false =>
              have WA := Lib.hid (write_bs (B + 1) Ak nk ck (ys.map UInt8.toNat) n2 (bss i) w wr (by rw [hB]; exact HK.out.2.2.2.2.2) (by omega) HK.out.2.2.2.2.1 HBS.out hk1 hk2 (by omega) (by omega))
              go_wp2_with fail
              refine WA.out.mono ?_
              rintro e w5 ⟨rfl, hk5, hb5, hg5⟩
              obtain ⟨q1, q2, q3, q4, q5, q6⟩ := HK.out
              have hsz5 : B + 2 ≤ w5.heap.size := by have := q5.lt; have := hg5.size; omega
              have H5 : Hid (OwnB w5 (B + 2) A1 n1 c1 xs ∧ OwnB w5 (B + 2) A2 n2 c2 ys ∧ (blk A1 = none ∨ blk A1 ≠ blk A2) ∧ Holds w5 B (xs.map UInt8.toNat) n1 ∧ Holds w5 (B + 1) (ys.map UInt8.toNat ++ (bss i).map UInt8.toNat) (n2 + nk) ∧ Below B w w5) :=
                ⟨q1.kept hg5 (far_num q1 (by omega)), q2.kept hg5 (far_num q2 (by omega)), q3, q4.grown hg5 (by intro e; injection e with e; omega), hk5, by rw [← hB]; exact hb5⟩
              rw [← List.map_append] at H5
              rw [hB] at hb5
              have c5 := HC.out _ hb5
              have RBW : Hid (RB w5 Ak nk (bss i)) := HBS.out.below (by rw [hB]; exact hb5)
              clear q1 q2 q3 q4 q5 q6 WA HK cl2 HC HBS hk5 hb5 hg5
              go_wp2_with (at_builtin; refine wpList_appA _ _ rfl rfl rfl (B + 2) A2 n2 c2 ys rfl H5.out.2.1 Ak nk ck (bss i) rfl RBW.out (by omega) hsz5 ?_)
              intro A9 c9 w9 hown9 hg9 hp9
              obtain ⟨q1, q2, q3, q4, q5, q6⟩ := H5.out
              have hfar : blk A2 = none ∨ blk A2 ≠ blk A1 := far_symm2 q3
              have hfar' : blk A1 = none ∨ blk A1 ≠ blk A2 := q3
              have hn9 : ∀ k, blk A2 = some k → B + 2 ≤ k := fun k hk => (q2.blk_lt hk).1
              have H9 : Hid (OwnB w9 (B + 2) A1 n1 c1 xs ∧ OwnB w9 (B + 2) A9 (n2 + nk) c9 (ys ++ bss i) ∧ (blk A1 = none ∨ blk A1 ≠ blk A9) ∧ Holds w9 B (xs.map UInt8.toNat) (n1) ∧ Holds w9 (B + 1) ((ys ++ bss i).map UInt8.toNat) (n2 + nk) ∧ Below B w w9) := by
                refine ⟨q1.kept hg9 hfar', hown9, ?_, q4.grown hg9 (fun e => by have := hn9 _ e.symm; omega), q5.grown hg9 (fun e => by have := hn9 _ e.symm; omega), q6.grown hg9 (by have := q6.size; omega) (fun k e => by have := hn9 _ e; omega)⟩
                exact far_symm2 (far_new q1 hfar hp9)
              clear q1 q2 q3 q4 q5 q6 hfar hfar' hn9 hown9 hg9 hp9 H5 RBW c5 hsz5
              go_wp2
              go_roundw
              case rel => exact ⟨i + 1, A1, n1, c1, xs, A9, n2 + nk, c9, ys ++ bss i, by go_num, by omega, rfl, rfl, by omega, by omega, H9.out⟩
              case measure => simp [intOf]; omega
          · have i5 : ¬ (i : Int) < (m : Int) := by omega
            have WA := Lib.hid (write_bs (B + 1) Ak nk ck (ys.map UInt8.toNat) n2 (bss i) w wr (by rw [hB]; exact HK.out.2.2.2.2.2) (by omega) HK.out.2.2.2.2.1 HBS.out hk1 hk2 (by omega) (by omega))
            go_wp2_with fail
            refine WA.out.mono ?_
            rintro e w5 ⟨rfl, hk5, hb5, hg5⟩
            obtain ⟨q1, q2, q3, q4, q5, q6⟩ := HK.out
            have hsz5 : B + 2 ≤ w5.heap.size := by have := q5.lt; have := hg5.size; omega
            have H5 : Hid (OwnB w5 (B + 2) A1 n1 c1 xs ∧ OwnB w5 (B + 2) A2 n2 c2 ys ∧ (blk A1 = none ∨ blk A1 ≠ blk A2) ∧ Holds w5 B (xs.map UInt8.toNat) n1 ∧ Holds w5 (B + 1) (ys.map UInt8.toNat ++ (bss i).map UInt8.toNat) (n2 + nk) ∧ Below B w w5) :=
              ⟨q1.kept hg5 (far_num q1 (by omega)), q2.kept hg5 (far_num q2 (by omega)), q3, q4.grown hg5 (by intro e; injection e with e; omega), hk5, by rw [← hB]; exact hb5⟩
            rw [← List.map_append] at H5
            rw [hB] at hb5
            have c5 := HC.out _ hb5
            have RBW : Hid (RB w5 Ak nk (bss i)) := HBS.out.below (by rw [hB]; exact hb5)
            clear q1 q2 q3 q4 q5 q6 WA HK cl2 HC HBS hk5 hb5 hg5
            go_wp2_with (at_builtin; refine wpList_appA _ _ rfl rfl rfl (B + 2) A2 n2 c2 ys rfl H5.out.2.1 Ak nk ck (bss i) rfl RBW.out (by omega) hsz5 ?_)
            intro A9 c9 w9 hown9 hg9 hp9
            obtain ⟨q1, q2, q3, q4, q5, q6⟩ := H5.out
            have hfar : blk A2 = none ∨ blk A2 ≠ blk A1 := far_symm2 q3
            have hfar' : blk A1 = none ∨ blk A1 ≠ blk A2 := q3
            have hn9 : ∀ k, blk A2 = some k → B + 2 ≤ k := fun k hk => (q2.blk_lt hk).1
            have H9 : Hid (OwnB w9 (B + 2) A1 n1 c1 xs ∧ OwnB w9 (B + 2) A9 (n2 + nk) c9 (ys ++ bss i) ∧ (blk A1 = none ∨ blk A1 ≠ blk A9) ∧ Holds w9 B (xs.map UInt8.toNat) (n1) ∧ Holds w9 (B + 1) ((ys ++ bss i).map UInt8.toNat) (n2 + nk) ∧ Below B w w9) := by
              refine ⟨q1.kept hg9 hfar', hown9, ?_, q4.grown hg9 (fun e => by have := hn9 _ e.symm; omega), q5.grown hg9 (fun e => by have := hn9 _ e.symm; omega), q6.grown hg9 (by have := q6.size; omega) (fun k e => by have := hn9 _ e; omega)⟩
              exact far_symm2 (far_new q1 hfar hp9)
            clear q1 q2 q3 q4 q5 q6 hfar hfar' hn9 hown9 hg9 hp9 H5 RBW c5 hsz5
            go_wp2
            go_roundw
            case rel => exact ⟨i + 1, A1, n1, c1, xs, A9, n2 + nk, c9, ys ++ bss i, by go_num, by omega, rfl, rfl, by omega, by omega, H9.out⟩
            case measure => simp [intOf]; omega
        · have i4 : (nk : Int) > 1024 := by omega
          have HBW : Hid (Below w.heap.size w wr) := by have := HK.out.2.2.2.2.2; rw [← hB] at this; exact this
          clear HK HC HBS
          go_wp2_with fail
          refine (WK.out _).mono ?_
          rintro e w9 ⟨rfl, hb9⟩
          have HB9 := Lib.hid (kp_call HBW.out hb9)
          clear hb9
          go_wp2
          go_ret
          exact ⟨rfl, HB9.out⟩
      · have i3 : ¬ (i : Int) < (n : Int) := by omega
        obtain ⟨q1, q2, q3, q4, q5, q6⟩ := HK.out
        obtain ⟨ds, hds⟩ : ∃ ds, ((sumQ (xs.map UInt8.toNat) n1).map v8).toArray = ds := ⟨_, rfl⟩
        obtain ⟨es, hes⟩ : ∃ es, ((sumQ (ys.map UInt8.toNat) n2).map v8).toArray = es := ⟨_, rfl⟩
        have hsame : ∀ W, (Op.equalIn 10000 25 (.agg ds) (.agg ds)).run Try.prog W = .ok true W := fun W => by rw [← hds]; exact dig_same _ (sumQ_len _ _) W
        have hsame2 : ∀ W, (Op.equalIn 10000 25 (.agg es) (.agg es)).run Try.prog W = .ok true W := fun W => by rw [← hes]; exact dig_same _ (sumQ_len _ _) W
        have k1 := q1.cap
        have k2 := q2.cap
        unfold maxLen at k1 k2
        have SA := Lib.hid (fun W (h : Below wr.heap.size wr W) => stsum_any B _ _ W (q4.below h) (by omega))
        have SB := Lib.hid (fun W (h : Below wr.heap.size wr W) => stsum_any (B + 1) _ _ W (q5.below h) (by omega))
        have SC := Lib.hid (fun W (h : Below wr.heap.size wr W) => sum_any A1 n1 c1 xs W (q1.rb.below h) (by omega) (by omega) (by omega))
        have SD := Lib.hid (fun W (h : Below wr.heap.size wr W) => sum_any A2 n2 c2 ys W (q2.rb.below h) (by omega) (by omega) (by omega))
        rw [hds] at SA SC
        rw [hes] at SB SD
        have HBW : Hid (Below w.heap.size w wr ∧ w.heap.size ≤ wr.heap.size) := ⟨by rw [hB]; exact q6, q6.size⟩
        clear hds hes q1 q2 q3 q4 q5 q6 HK k1 k2
        go_wp2_with fail
        refine (SA.out _ (Below.refl _ _)).mono ?_
        rintro e v0 ⟨rfl, hv0⟩
        have HV0 : Hid (Below wr.heap.size wr v0) := hv0
        clear hv0
        go_wp2_with fail
        refine (SC.out _ HV0.out).mono ?_
        rintro e v1 ⟨rfl, hv1⟩
        have HV1 : Hid (Below wr.heap.size wr v1) := kp_call HV0.out hv1
        clear hv1 HV0
        go_wp2_with fail
        refine (SB.out _ HV1.out).mono ?_
        rintro e v2 ⟨rfl, hv2⟩
        have HV2 : Hid (Below wr.heap.size wr v2) := kp_call HV1.out hv2
        clear hv2 HV1
        go_wp2_with fail
        refine (SD.out _ HV2.out).mono ?_
        rintro e v3 ⟨rfl, hv3⟩
        have HV3 : Hid (Below wr.heap.size wr v3) := kp_call HV2.out hv3
        clear hv3 HV2
        go_wp2_with fail
        refine (SA.out _ HV3.out).mono ?_
        rintro e v4 ⟨rfl, hv4⟩
        have HV4 : Hid (Below wr.heap.size wr v4) := kp_call HV3.out hv4
        clear hv4 HV3
        go_wp2_with fail
        refine (SC.out _ HV4.out).mono ?_
        rintro e v5 ⟨rfl, hv5⟩
        have HV5 : Hid (Below wr.heap.size wr v5) := kp_call HV4.out hv5
        clear hv5 HV4
        have HVW : Hid (Below w.heap.size w v5) := HBW.out.1.trans (HV5.out.mono HBW.out.2)
        clear SA SB SC SD HBW HV5
        go_wp2_with fail
        refine (WK.out _).mono ?_
        rintro e w9 ⟨rfl, hb9⟩
        have HB9 := Lib.hid (kp_call HVW.out hb9)
        clear hb9
        go_wp2
        go_ret
        exact ⟨rfl, HB9.out⟩
  · by_cases hn1 : n ≤ 60
    · have hm : 60 < m := by omega
      have i1 : ¬ (n : Int) > 60 := by omega
      have i2 : (m : Int) > 60 := by omega
      clear HR HD
      go_enter Try.func9, Try.ntmps9
      go_wp2_with fail
      refine (WK.out _).mono ?_
      rintro e w3 ⟨rfl, hb3⟩
      have HB3 := Lib.hid hb3
      clear hb3
      go_wp2
      go_ret
      exact ⟨rfl, HB3.out⟩
    · have i1 : (n : Int) > 60 := by omega
      clear HR HD
      go_enter Try.func9, Try.ntmps9
      go_wp2_with fail
      refine (WK.out _).mono ?_
      rintro e w3 ⟨rfl, hb3⟩
      have HB3 := Lib.hid hb3
      clear hb3
      go_wp2
      go_ret
      exact ⟨rfl, HB3.out⟩
end Go.Proofs.Ytmbkbehccmadfaa
