/-
  flash: whatever is done with a flash.
-/
import Derived.Test.YtnodocpoangnkaaFlI
import Derived.Test.YtnodocpoangnkaaFlF
namespace Go.Proofs.Ytnodocpoangnkaa
open Go.RowKit Go
set_option linter.unusedVariables false
set_option linter.unusedSimpArgs false
set_option maxRecDepth 100000
theorem progQ_kept (xs : List UInt8) : ∀ (k : Nat) (S : FS), (progQ xs k S).1.n = S.n ∧ (progQ xs k S).1.s = S.s ∧ (progQ xs k S).1.wr ≤ S.wr + xs.length := by
  induction xs with
  | nil => intro k S; exact ⟨rfl, rfl, Nat.le_refl _⟩
  | cons x xs ih =>
    intro k S
    unfold progQ
    by_cases h : S.left = 1
    · rw [if_pos h]; exact ⟨rfl, rfl, Nat.le_add_right _ _⟩
    · rw [if_neg h]
      obtain ⟨h1, h2, h3⟩ := ih (k + 1) (S.step k x)
      have e : S.step k x = { S with left := S.left - 1, wr := S.wr + 1, bs := S.bs.set k (S.bs.getD k 0 &&& x) } := by unfold FS.step; rw [if_neg h]
      rw [e] at h1 h2 h3 ⊢
      refine ⟨h1, h2, ?_⟩
      have h4 : (progQ xs (k + 1) { S with left := S.left - 1, wr := S.wr + 1, bs := S.bs.set k (S.bs.getD k 0 &&& x) }).1.wr ≤ S.wr + 1 + xs.length := h3
      rw [List.length_cons]
      omega
theorem er_kept (S : FS) (o : Nat) : (S.er o).n = S.n ∧ (S.er o).s = S.s ∧ (S.er o).wr ≤ S.wr + 1 := by
  unfold FS.er
  by_cases h : S.left = 1
  · rw [if_pos h]; exact ⟨rfl, rfl, Nat.le_add_right _ _⟩
  · rw [if_neg h]; exact ⟨rfl, rfl, Nat.le_refl _⟩
theorem FL.grown {w w' : World} {base g a c : Nat} {S : FS} (h : FL w base g a c S) {b : Nat} (hg : w.grownBy w' (some b)) (h1 : b ≠ g) (h2 : b ≠ a) : FL w' base g a c S :=
  ⟨(hg.block g h.alt (fun e => h1 (Option.some.inj e).symm)).trans h.st, h.own.kept hg (.inr (by intro e; exact h2 (Option.some.inj e).symm)), h.gb, h.ne, h.n1, h.n2, h.s1, h.s2, h.lb⟩
/-- What is left of a flash behind something that was done. -/
def Left (base g a c : Nat) (S : FS) (m : Nat) (w w' : World) : Prop := ∃ T, FL w' base g a c T ∧ T.n = S.n ∧ T.s = S.s ∧ T.wr ≤ S.wr + m ∧ Far g a w w'
theorem Left.below {base g a c : Nat} {S : FS} {m : Nat} {w w' v : World} (h : Left base g a c S m w w') (hb : Below w'.heap.size w' v) : Left base g a c S m w v := by
  obtain ⟨T, h1, h2, h3, h4, h5⟩ := h
  exact ⟨T, h1.below hb, h2, h3, h4, h5.trans (.of_below hb)⟩
theorem Left.of {base g a c : Nat} {S : FS} {m : Nat} {w w' : World} (h : FL w base g a c S) (hb : Below w.heap.size w w') : Left base g a c S m w w' := ⟨S, h.below hb, rfl, rfl, Nat.le_add_right _ _, .of_below hb⟩
section
variable {base g a c : Nat} {S : FS} {w W : World}
theorem read_all (h : FL w base g a c S) (k m : Int) : Calls Try.prog 18 #[.pointer (some ⟨g, 0, none⟩), .int .i64 k, .int .i64 m] w
      fun e w' => ∃ A n c' r bs, e = .returned (.tuple #[.slice A n c', .int .i64 r]) ∧ OwnB w' w.heap.size A n c' bs ∧ n ≤ 4194304 ∧ Below w.heap.size w w' := by
  by_cases hno : S.off = true ∨ k < 0 ∨ m < 0 ∨ ((S.n * S.s : Nat) : Int) < k ∨ ((S.n * S.s : Nat) : Int) - k < m
  · refine (fread_no h k m hno).mono ?_
    rintro e w' ⟨rfl, rfl⟩
    exact ⟨none, 0, 0, _, [], rfl, OwnB.nil _ _, by omega, Below.refl _ _⟩
  · have h1 : S.off = false := by rcases hS : S.off with _ | _; rfl; exact absurd (.inl hS) hno
    have h2 : 0 ≤ k ∧ 0 ≤ m ∧ k + m ≤ ((S.n * S.s : Nat) : Int) := by
      refine ⟨?_, ?_, ?_⟩
      · exact Int.not_lt.1 fun h => hno (.inr (.inl h))
      · exact Int.not_lt.1 fun h => hno (.inr (.inr (.inl h)))
      · have := Int.not_lt.1 fun h => hno (.inr (.inr (.inr (.inr h))))
        omega
    obtain ⟨k', rfl⟩ := Int.eq_ofNat_of_zero_le h2.1
    obtain ⟨m', rfl⟩ := Int.eq_ofNat_of_zero_le h2.2.1
    refine (fread_any h h1 k' m' (by omega)).mono ?_
    rintro e w' ⟨A, c', rfl, ho, hb⟩
    exact ⟨A, m', c', _, _, rfl, ho, (by have := h.big; omega), hb⟩
theorem program_all (h : FL w base g a c S) (k : Int) (n cA : Nat) (A : Option Addr) (xs : List UInt8) (hR : RB w A n xs) (hA : xs ≠ [] → ∀ d, A = some d → d.block ≠ g ∧ d.block ≠ a) (hn9 : n ≤ 1000000000) (hw : S.wr + n < 4611686018427387904) :
    Calls Try.prog 19 #[.pointer (some ⟨g, 0, none⟩), .int .i64 k, .slice A n cA] w
      fun e w' => ∃ r, e = .returned (.int .i64 r) ∧ Left base g a c S n w w' := by
  by_cases hno : S.off = true ∨ k < 0 ∨ (0 < n ∧ ((S.n * S.s : Nat) : Int) - n < k)
  · refine (fprogram_no h k n cA A hn9 hno).mono ?_
    rintro e w' ⟨rfl, hb⟩
    exact ⟨_, rfl, Left.of h hb⟩
  · have h1 : S.off = false := by rcases hS : S.off with _ | _; rfl; exact absurd (.inl hS) hno
    have h2 : 0 ≤ k := Int.not_lt.1 fun h => hno (.inr (.inl h))
    obtain ⟨k', rfl⟩ := Int.eq_ofNat_of_zero_le h2
    have h3 : n = 0 ∨ k' + n ≤ S.n * S.s := by
      rcases Nat.eq_zero_or_pos n with h0 | h0
      · exact .inl h0
      · have := Int.not_lt.1 fun h => hno (.inr (.inr ⟨h0, h⟩))
        right; omega
    refine (fprogram_any h h1 k' n cA A xs hR hA h3 hn9 hw).mono ?_
    rintro e w' ⟨rfl, hf, hfar⟩
    obtain ⟨q1, q2, q3⟩ := progQ_kept xs k' S
    exact ⟨_, rfl, _, hf, q1, q2, by rw [hR.1] at q3; exact q3, hfar⟩
theorem erase_all (h : FL w base g a c S) (k : Int) (hw : S.wr < 4611686018427387904) :
    Calls Try.prog 16 #[.pointer (some ⟨g, 0, none⟩), .int .i64 k] w
      fun e w' => ∃ r, e = .returned (.int .i64 r) ∧ Left base g a c S 1 w w' := by
  by_cases hno : S.off = true ∨ k < 0 ∨ (S.n : Int) ≤ k
  · refine (ferase_no h k hno).mono ?_
    rintro e w' ⟨rfl, hb⟩
    exact ⟨_, rfl, Left.of h hb⟩
  · have h1 : S.off = false := by rcases hS : S.off with _ | _; rfl; exact absurd (.inl hS) hno
    have h2 : 0 ≤ k := Int.not_lt.1 fun h => hno (.inr (.inl h))
    obtain ⟨k', rfl⟩ := Int.eq_ofNat_of_zero_le h2
    have h3 : k' < S.n := by
      have := Int.not_le.1 fun h => hno (.inr (.inr h))
      omega
    refine (ferase_any h h1 k' h3 hw).mono ?_
    rintro e w' ⟨rfl, hf, hfar⟩
    obtain ⟨q1, q2, q3⟩ := er_kept S (k' * S.s)
    exact ⟨_, rfl, _, hf, q1, q2, q3, hfar⟩
theorem arm_all (h : FL w base g a c S) (n p : Int) (hn : n ≤ 9223372036854775807) :
    Calls Try.prog 15 #[.pointer (some ⟨g, 0, none⟩), .int .i64 n, .int .i64 p] w
      fun e w' => ∃ r, e = .returned (.int .i64 r) ∧ Left base g a c S 0 w w' := by
  by_cases hno : S.off = true ∨ n < 0 ∨ p < 0
  · refine (farm_no h n p hno).mono ?_
    rintro e w' ⟨rfl, rfl⟩
    exact ⟨_, rfl, Left.of h (Below.refl _ _)⟩
  · have h1 : S.off = false := by rcases hS : S.off with _ | _; rfl; exact absurd (.inl hS) hno
    have h2 : 0 ≤ n := Int.not_lt.1 fun h => hno (.inr (.inl h))
    have h3 : 0 ≤ p := Int.not_lt.1 fun h => hno (.inr (.inr h))
    obtain ⟨n', rfl⟩ := Int.eq_ofNat_of_zero_le h2
    obtain ⟨p', rfl⟩ := Int.eq_ofNat_of_zero_le h3
    refine (farm_any h h1 n' p' (by omega)).mono ?_
    rintro e w' ⟨rfl, hf, hfar⟩
    exact ⟨_, rfl, _, hf, rfl, rfl, Nat.le_refl _, hfar⟩
theorem on_all (h : FL w base g a c S) :
    Calls Try.prog 22 #[.pointer (some ⟨g, 0, none⟩)] w
      fun e w' => ∃ r, e = .returned (.int .i64 r) ∧ Left base g a c S 0 w w' := by
  refine (fon_any h).mono ?_
  rintro e w' ⟨rfl, hf, hfar⟩
  exact ⟨_, rfl, _, hf, rfl, rfl, Nat.le_refl _, hfar⟩
set_option maxHeartbeats 1000000 in
/-- Whatever is done with a flash: it stays one. -/
theorem does_any (h : FL w base g a c S) (kd p m : Int) (A : Option Addr) (n cA : Nat) (bs : List UInt8) (hR : RB w A n bs) (hA : bs ≠ [] → ∀ d, A = some d → d.block ≠ g ∧ d.block ≠ a) (hn : n ≤ 1000000000) (hm : m ≤ 9223372036854775807) (hw : S.wr + n < 4611686018427387903) :
    Calls Try.prog 7 #[.pointer (some ⟨g, 0, none⟩), .agg #[.int .i64 kd, .int .i64 p, .int .i64 m, .slice A n cA]] w fun e w' => (∃ v, e = .returned v) ∧ Left base g a c S (n + 1) w w' := by
  have H := Lib.hid h
  have HR := Lib.hid hR
  have HA := Lib.hid hA
  have hglt := Lib.hid h.alt
  have halt := Lib.hid h.ab.2
  have UP : Hid (∀ k, k ≤ n + 1 → ∀ v v' : World, Left base g a c S k v v' → Left base g a c S (n + 1) v v') := fun k hk v v' ⟨T, q1, q2, q3, q4, q5⟩ => ⟨T, q1, q2, q3, by omega, q5⟩
  have PRE : Hid (∀ k (v v' : World), Below w.heap.size w v → Left base g a c S k v v' → Left base g a c S k w v') := fun k v v' hb ⟨T, q1, q2, q3, q4, q5⟩ => ⟨T, q1, q2, q3, q4, (Far.of_below hb).trans q5⟩
  clear h hR hA
  by_cases h0 : kd = 0
  · subst h0
    go_enter Try.func7, Try.ntmps7
    go_wp2_with fail
    refine calls_nm fun W hW => ?_
    have hbW : Hid (Below w.heap.size w W) := by rw [← hW]; exact Lib.hid (kp_alloc (Below.refl _ _) _)
    clear hW
    refine (read_all (H.out.below hbW.out) _ _).mono ?_
    rintro e w1 ⟨A1, n1, c1, r1, bs1, rfl, ho1, hn1, hb1⟩
    have HB1 := Lib.hid hb1
    have HO1 := Lib.hid ho1
    clear hb1 ho1
    go_wp2_with fail
    refine (twin_any _ _ _ _ _ HO1.out.rb (by omega)).mono ?_
    rintro e w2 ⟨A2, n2, c2, rfl, ho2, hb2⟩
    have HO2 : Hid (OwnB w2 W.heap.size A1 n1 c1 bs1 ∧ FL w2 base g a c S ∧ Below W.heap.size W w2) := ⟨HO1.out.below hb2 (Nat.le_refl _), (((H.out.below hbW.out).below HB1.out).below hb2), kp_call HB1.out hb2⟩
    have hWs := hbW.out.size
    clear hb2 ho2 HB1 HO1
    go_wp2
    go_loopw [10] (fun v wl => ∃ (i : Nat) (bs : List UInt8), v = .int .i64 (i : Int) ∧ i ≤ n1 ∧ Hid (OwnB wl W.heap.size A1 n1 c1 bs ∧ FL wl base g a c S ∧ Below W.heap.size W wl)) (fun v _ => n1 - (intOf v).toNat)
    case atStart => exact ⟨0, bs1, rfl, Nat.zero_le _, HO2.out⟩
    case round =>
      obtain ⟨i, bi, rfl, hi, HK⟩ := hrel
      by_cases hlt : i < n1
      · obtain ⟨z1, z2, z3⟩ := HK.out
        obtain ⟨b1, e1, hb1, hb2⟩ := z1.shape (by have := z1.cap.1; omega)
        have hli := z1.len
        obtain ⟨q, hq⟩ : ∃ q, bi[i]? = some q := ⟨_, List.getElem?_eq_getElem (by omega)⟩
        subst e1
        have c1' := z1.cellAt i q hq
        have f1 := z1.free i
        have HN : Hid (OwnB (wr.setCell ⟨b1, i, none⟩ (.int .u8 85)) W.heap.size (some ⟨b1, 0, none⟩) n1 c1 (bi.set i 85) ∧ FL (wr.setCell ⟨b1, i, none⟩ (.int .u8 85)) base g a c S ∧ Below W.heap.size W (wr.setCell ⟨b1, i, none⟩ (.int .u8 85))) :=
          ⟨z1.stored i 85, z2.grown (grown_one _ _ _ _) (by have := hglt.out; omega) (by have := halt.out; omega), kp_set z3 hb1⟩
        clear z1 z2 z3 HK HO2 hq
        go_wp2
        go_roundw
        case rel => exact ⟨i + 1, _, by go_num, by omega, HN.out⟩
        case measure => simp [intOf]; omega
      · go_wp2
        go_ret3
        exact ⟨⟨_, rfl⟩, UP.out 0 (by omega) _ _ (Left.of H.out (kp_call hbW.out HK.out.2.2) : Left base g a c S 0 w _) |> fun _ => ⟨S, HK.out.2.1, rfl, rfl, Nat.le_add_right _ _, Far.of_below (kp_call hbW.out HK.out.2.2)⟩⟩
  by_cases h1 : kd = 1
  · subst h1
    go_enter Try.func7, Try.ntmps7
    go_wp2_with fail
    refine calls_nm fun W hW => ?_
    have hbW : Hid (Below w.heap.size w W) := by rw [← hW]; exact Lib.hid (kp_alloc (Below.refl _ _) _)
    have hsW : Hid (W.heap[w.heap.size]? = some (.cells #[.int .i64 1, .int .i64 p, .int .i64 m, .slice A n cA] 24)) := by rw [← hW]; exact Lib.hid (has_new _ _)
    refine (twin_any A n cA bs _ (HR.out.below hbW.out) hn).mono ?_
    clear hW
    rintro e w2 ⟨A1, n1, c1, rfl, ho, hb⟩
    obtain rfl : n1 = n := ho.len.symm.trans HR.out.1
    have hsz := hbW.out.size
    have A1H : Hid (bs ≠ [] → ∀ d, A1 = some d → d.block ≠ g ∧ d.block ≠ a) := fun _ d hd => by
      have h9 := (ho.blk_lt (k := d.block) (by rw [hd]; rfl)).1
      have := hglt.out
      have := halt.out
      exact ⟨by omega, by omega⟩
    have HO := Lib.hid ho.rb
    obtain ⟨k0, k1, k2, k3⟩ := cells_4 (has_below hsW.out hb)
    have HS := Lib.hid (has_below hsW.out hb)
    have HB := Lib.hid (kp_call hbW.out hb)
    have PG := Lib.hid (program_all (H.out.below HB.out) p n1 c1 A1 bs HO.out A1H.out hn (by omega))
    clear hb ho hsW
    go_wp2_with fail
    refine PG.out.mono ?_
    rintro e w3 ⟨r, rfl, hL3⟩
    have hf3 := hL3.choose_spec.2.2.2.2
    have hsm : w.heap.size ≠ g ∧ w.heap.size ≠ a := by have := hglt.out; have := halt.out; exact ⟨by omega, by omega⟩
    obtain ⟨k0, k1, k2, k3⟩ := cells_4 (hf3.has HS.out hsm.1 hsm.2)
    have SM := Lib.hid (same7_any A1 A n1 c1 n1 cA bs bs w3 (rb_far HO.out hf3 A1H.out) (rb_far (HR.out.below HB.out) hf3 HA.out) hn hn)
    have HL3 := Lib.hid (PRE.out _ _ _ HB.out hL3)
    clear HS hL3 hf3 PG
    go_wp2_with fail
    refine SM.out.mono ?_
    rintro e w4 ⟨rfl, hb4⟩
    have HL4 := Lib.hid (UP.out _ (by omega) _ _ (HL3.out.below hb4))
    clear SM HL3 hb4 k0 k1 k2 k3
    go_wp2
    go_ret3
    exact ⟨⟨_, rfl⟩, HL4.out⟩
  by_cases h2 : kd = 2
  · subst h2
    go_enter Try.func7, Try.ntmps7
    go_wp2_with fail
    refine calls_nm fun W hW => ?_
    have hbW : Hid (Below w.heap.size w W) := by rw [← hW]; exact Lib.hid (kp_alloc (Below.refl _ _) _)
    refine (erase_all (H.out.below hbW.out) _ (by omega)).mono ?_
    clear hW
    rintro e w2 ⟨r, rfl, hb⟩
    have HB := Lib.hid (UP.out _ (by omega) _ _ (PRE.out _ _ _ hbW.out hb))
    clear hb
    go_wp2
    go_ret3
    exact ⟨⟨_, rfl⟩, HB.out⟩
  by_cases h3 : kd = 3
  · subst h3
    go_enter Try.func7, Try.ntmps7
    go_wp2_with fail
    refine calls_nm fun W hW => ?_
    have hbW : Hid (Below w.heap.size w W) := by rw [← hW]; exact Lib.hid (kp_alloc (Below.refl _ _) _)
    refine (arm_all (H.out.below hbW.out) _ _ hm).mono ?_
    clear hW
    rintro e w2 ⟨r, rfl, hb⟩
    have HB := Lib.hid (UP.out _ (by omega) _ _ (PRE.out _ _ _ hbW.out hb))
    clear hb
    go_wp2
    go_ret3
    exact ⟨⟨_, rfl⟩, HB.out⟩
  by_cases h4 : kd = 4
  · subst h4
    go_enter Try.func7, Try.ntmps7
    go_wp2_with fail
    refine calls_nm fun W hW => ?_
    have hbW : Hid (Below w.heap.size w W) := by rw [← hW]; exact Lib.hid (kp_alloc (Below.refl _ _) _)
    refine (on_all (H.out.below hbW.out)).mono ?_
    clear hW
    rintro e w2 ⟨r, rfl, hb⟩
    have HB := Lib.hid (UP.out _ (by omega) _ _ (PRE.out _ _ _ hbW.out hb))
    clear hb
    go_wp2
    go_ret3
    exact ⟨⟨_, rfl⟩, HB.out⟩
  have g0 : (kd == 0) = false := by simpa using h0
  have g1 : (kd == 1) = false := by simpa using h1
  have g2 : (kd == 2) = false := by simpa using h2
  have g3 : (kd == 3) = false := by simpa using h3
  have g4 : (kd == 4) = false := by simpa using h4
  go_enter Try.func7, Try.ntmps7
  go_wp2
  go_ret3
  exact ⟨⟨_, rfl⟩, Left.of H.out (kp_alloc (Below.refl _ _) _)⟩
end
end Go.Proofs.Ytnodocpoangnkaa
