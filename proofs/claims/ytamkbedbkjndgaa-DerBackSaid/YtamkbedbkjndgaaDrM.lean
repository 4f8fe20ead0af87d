/-
  der: the document's Parse.
-/
import Derived.Test.YtamkbedbkjndgaaDrL
namespace Go.Proofs.Ytamkbedbkjndgaa
open Go.RowKit Go
set_option linter.unusedVariables false
set_option maxRecDepth 100000
theorem rparse_no (A : Option Addr) (n c : Nat) (bs : List UInt8) (w : World) (hR : RB w A n bs) (hn : n ≤ 1000000000) (h : lenQ bs = none) :
    Calls Try.prog 34 #[.slice A n c] w (ParsePost w bs) := by
  have C : Hid (∀ W, Below w.heap.size w W → Calls Try.prog 50 #[.slice A n c] W fun e w' => (∃ s t : Int, e = .returned (.tuple #[.int .i64 s, .int .i64 t, .bool false])) ∧ W = w') := fun W hb => (len_any A n c bs W (hR.below hb) hn).mono fun e w' hp => by
    unfold LenPost at hp; rw [h] at hp; exact hp
  have H : Hid (splitQ bs = none) := by unfold Hid; rw [split_of_len, h]
  clear h hR
  go_enter Try.func34, Try.ntmps34
  go_wp2_with fail
  refine (C.out _ (kp_alloc (Below.refl _ _) _)).mono ?_
  rintro e w' ⟨⟨s, t, rfl⟩, rfl⟩
  have k3 : (w.alloc (.cells #[.int .u8 0, .slice none 0 0, .slice none 0 0] 43)).heap[w.heap.size]? = some (.cells #[.int .u8 0, .slice none 0 0, .slice none 0 0] 43) := has_new w _
  have hb3 : Below w.heap.size w (w.alloc (.cells #[.int .u8 0, .slice none 0 0, .slice none 0 0] 43)) := kp_alloc (Below.refl _ _) _
  generalize (w.alloc (.cells #[.int .u8 0, .slice none 0 0, .slice none 0 0] 43)) = W3 at *
  obtain ⟨f0, f1, f2⟩ := free_3 k3
  obtain ⟨e0, e1, e2⟩ := cells_3 k3
  go_wp2
  refine bodyPost_ret (results_ctt Try.results34 _ (LV.agg (set_3 k3) Try.underlying43 rfl (by kernel_rfl))) rfl ?_
  unfold ParsePost
  rw [H.out]
  exact ⟨rfl, below_3 hb3 (Nat.le_refl _)⟩
theorem rparse_bad (b off n c : Nat) (tag : UInt8) (bs : List UInt8) (w : World) (hR : RB w (some ⟨b, off, none⟩) n bs) (hn : n ≤ 1000000000) (htag : w.cell? ⟨b, off, none⟩ = some (.int .u8 (tag.toNat : Int))) (h0 : 0 < n) (m f : Nat) (h : lenQ bs = some (m, f)) (hm : m ≤ 5000000000) (hf : f ≤ 10) (hfn : f ≤ n) (hbad : tag.toNat % 32 = 31 ∨ n - f < m) (hs : splitQ bs = none) :
    Calls Try.prog 34 #[.slice (some ⟨b, off, none⟩) n c] w (ParsePost w bs) := by
  have C : Hid (∀ W, Below w.heap.size w W → Calls Try.prog 50 #[.slice (some ⟨b, off, none⟩) n c] W fun e w' => e = .returned (.tuple #[.int .i64 (m : Int), .int .i64 (f : Int), .bool true]) ∧ W = w') := fun W hb => (len_any _ n c bs W (hR.below hb) hn).mono fun e w' hp => by
    unfold LenPost at hp; rw [h] at hp; exact hp
  have H := Lib.hid hs
  have hk3 : (w.alloc (.cells #[.int .u8 0, .slice none 0 0, .slice none 0 0] 43)).heap[w.heap.size]? = some (.cells #[.int .u8 0, .slice none 0 0, .slice none 0 0] 43) := has_new w _
  have hb3 : Below w.heap.size w (w.alloc (.cells #[.int .u8 0, .slice none 0 0, .slice none 0 0] 43)) := kp_alloc (Below.refl _ _) _
  clear h hs hR
  have HT := Lib.hid htag
  clear htag
  by_cases ht : tag.toNat % 32 = 31
  · have t1 : ((tag.toNat : Int) % 32 == 31) = true := by simp; omega
    clear hbad ht
    go_enter Try.func34, Try.ntmps34
    go_wp2_with fail
    refine (C.out _ hb3).mono ?_
    rintro e w' ⟨rfl, rfl⟩
    generalize (w.alloc (.cells #[.int .u8 0, .slice none 0 0, .slice none 0 0] 43)) = W3 at *
    obtain ⟨f0, f1, f2⟩ := free_3 hk3
    obtain ⟨e0, e1, e2⟩ := cells_3 hk3
    have hct := kp_cell hb3 HT.out
    go_wp2
    refine bodyPost_ret (results_ctt Try.results34 _ (LV.agg (set_3 hk3) Try.underlying43 rfl (by kernel_rfl))) rfl ?_
    unfold ParsePost
    rw [H.out]
    exact ⟨rfl, below_3 hb3 (Nat.le_refl _)⟩
  · have t1 : ((tag.toNat : Int) % 32 == 31) = false := by simp; omega
    have t2 : (n : Int) - (f : Int) < (m : Int) := by omega
    clear hbad ht
    go_enter Try.func34, Try.ntmps34
    go_wp2_with fail
    refine (C.out _ hb3).mono ?_
    rintro e w' ⟨rfl, rfl⟩
    generalize (w.alloc (.cells #[.int .u8 0, .slice none 0 0, .slice none 0 0] 43)) = W3 at *
    obtain ⟨f0, f1, f2⟩ := free_3 hk3
    obtain ⟨e0, e1, e2⟩ := cells_3 hk3
    have hct := kp_cell hb3 HT.out
    go_wp2
    refine bodyPost_ret (results_ctt Try.results34 _ (LV.agg (set_3 hk3) Try.underlying43 rfl (by kernel_rfl))) rfl ?_
    unfold ParsePost
    rw [H.out]
    exact ⟨rfl, below_3 hb3 (Nat.le_refl _)⟩
set_option maxHeartbeats 1000000 in
theorem rparse_yes (b off n c : Nat) (tag : UInt8) (bs : List UInt8) (w : World) (hR : RB w (some ⟨b, off, none⟩) n bs) (htag : w.cell? ⟨b, off, none⟩ = some (.int .u8 (tag.toNat : Int))) (hnc : n ≤ c) (hn : n ≤ 1000000000) (hc : c ≤ 9223372036854775807) (m f : Nat) (h : lenQ bs = some (m, f)) (hf2 : 2 ≤ f) (ht : tag.toNat % 32 ≠ 31) (hfm : f + m ≤ n) (hs : splitQ bs = some (f, f + m)) (h0 : bs.getD 0 0 = tag) :
    Calls Try.prog 34 #[.slice (some ⟨b, off, none⟩) n c] w (ParsePost w bs) := by
  have C : Hid (∀ W, Below w.heap.size w W → Calls Try.prog 50 #[.slice (some ⟨b, off, none⟩) n c] W fun e w' => e = .returned (.tuple #[.int .i64 (m : Int), .int .i64 (f : Int), .bool true]) ∧ W = w') := fun W hb => (len_any _ n c bs W (hR.below hb) hn).mono fun e w' hp => by
    unfold LenPost at hp; rw [h] at hp; exact hp
  have H := Lib.hid hs
  have H0 := Lib.hid h0
  obtain ⟨SA, hSA⟩ : ∃ SA : Option Addr, (if c = f then some ⟨b, off, none⟩ else some ⟨b, off + f, none⟩) = SA := ⟨_, rfl⟩
  obtain ⟨t, ht0⟩ : ∃ t, f + m = t := ⟨_, rfl⟩
  rw [ht0] at H hfm
  have htm : (f : Int) + (m : Int) = (t : Int) := by omega
  have hmt : t - f = m := by omega
  obtain ⟨TA, hTA⟩ : ∃ TA : Option Addr, (if c = t then some ⟨b, off, none⟩ else some ⟨b, off + t, none⟩) = TA := ⟨_, rfl⟩
  have hRS := rb_cut (rb_take hR hfm) (show t ≤ c by omega) (show f ≤ t by omega)
  have hRT := rb_cut hR hnc hfm
  rw [hSA] at hRS
  rw [hTA] at hRT
  have C1 : Hid (∀ W, Below w.heap.size w W → Calls Try.prog 31 #[.slice SA (t - f) (c - f)] W (Fresh W ((bs.take t).drop f))) := fun W hb => copy_any _ _ _ _ W (hRS.below hb) (by omega)
  have C2 : Hid (∀ W, Below w.heap.size w W → Calls Try.prog 31 #[.slice (some ⟨b, off, none⟩) t c] W (Fresh W (bs.take t))) := fun W hb => copy_any _ _ _ _ W ((rb_take hR hfm).below hb) (by omega)
  have C3 : Hid (∀ W, Below w.heap.size w W → Calls Try.prog 31 #[.slice TA (n - t) (c - t)] W (Fresh W (bs.drop t))) := fun W hb => copy_any _ _ _ _ W (hRT.below hb) (by omega)
  have hk1 : (w.alloc (.cells #[.int .u8 0, .slice none 0 0, .slice none 0 0] 43)).heap[w.heap.size]? = some (.cells #[.int .u8 0, .slice none 0 0, .slice none 0 0] 43) := has_new w _
  have hb1 : Below w.heap.size w (w.alloc (.cells #[.int .u8 0, .slice none 0 0, .slice none 0 0] 43)) := kp_alloc (Below.refl _ _) _
  have HS1 : Hid ((w.alloc (.cells #[.int .u8 0, .slice none 0 0, .slice none 0 0] 43)).heap.size = w.heap.size + 1) := by unfold Hid; simp
  have HT := Lib.hid htag
  have t1 : ((tag.toNat : Int) % 32 == 31) = false := by simp; omega
  have m1 : IntKind.i64.wrap ((f : Int) + (m : Int)) = (t : Int) := by rw [htm, IntKind.wrap_i64]; omega
  have i1 : (0 : Int) ≤ (f : Int) := by omega
  have i2 : (f : Int) ≤ (t : Int) := by omega
  have i3 : (t : Int) ≤ (n : Int) := by omega
  have i4 : (n : Int) ≤ (c : Int) := by omega
  have i5 : (t : Int) ≤ (c : Int) := by omega
  have i6 : (m : Int) ≤ (n : Int) - (f : Int) := by omega
  have i7 : 0 < n := by omega
  have HMT := Lib.hid hmt
  clear h hs h0 hR htag hRS hRT ht hmt htm ht0
  go_enter Try.func34, Try.ntmps34
  go_wp2_with fail
  refine (C.out _ hb1).mono ?_
  rintro e w' ⟨rfl, rfl⟩
  generalize (w.alloc (.cells #[.int .u8 0, .slice none 0 0, .slice none 0 0] 43)) = W1 at *
  have hct := kp_cell hb1 HT.out
  go_wp2
  have G1 : GB w w.heap.size (.cells #[.int .u8 0, .slice none 0 0, .slice none 0 0] 43) W1 := ⟨hb1, hk1⟩
  have KEEP : Hid (∀ W, Below w.heap.size w W → W.cell? ⟨b, off, none⟩ = some (.int .u8 (tag.toNat : Int)) ∧ Below w.heap.size w W) := fun W h => ⟨kp_cell h HT.out, h⟩
  have HB1 := Lib.hid hb1
  clear C
  go_region_held3 (fun W => W.cell? ⟨b, off, none⟩ = some (.int .u8 (tag.toNat : Int)) ∧ Below w.heap.size w W)
    ((apply KEEP.out; repeat (with_reducible (first | assumption | refine kp_drew ?_ | refine kp_call ?_ (by assumption) | refine kp_set ?_ (Nat.le_refl _)))))
    (first
      | (go_at_call 31; (with_reducible refine (C1.out _ (by (go_split_ands; assumption))).mono ?_); (rintro e X1 ⟨A1, n1, c1, rfl, hown1, hb1⟩; have O1 := Lib.hid (hown1.lower (base' := W1.heap.size) (Nat.le_refl _)); have B1 := Lib.hid hb1; have hz1 : W1.heap.size ≤ X1.heap.size := hb1.size; clear C1 hown1))
      | (go_at_call 31; (with_reducible refine (C2.out _ (by (go_split_ands; assumption))).mono ?_); (rintro e X2 ⟨A2, n2, c2, rfl, hown2, hb2⟩; have O2 := Lib.hid hown2; have B2 := Lib.hid hb2; have hz2 := hb2.size; clear C2 hown2))
      | (go_at_call 31; (with_reducible refine (C3.out _ (by (go_split_ands; assumption))).mono ?_); (rintro e X3 ⟨A3, n3, c3, rfl, hown3, hb3⟩; have O3 := Lib.hid hown3; have B3 := Lib.hid hb3; have hz3 := hb3.size; have k3 := has_below (has_below (has_below (has_drew hk1) B1.out) B2.out) hb3; obtain ⟨f0, f1, f2⟩ := free_3 k3; obtain ⟨e0, e1, e2⟩ := cells_3 k3; clear C3 hown3)))
  have hs0 := HS1.out
  go_wp2
  refine bodyPost_ret (results_ctt Try.results34 _ (LV.agg (set_3 k3) Try.underlying43 rfl (by kernel_rfl))) rfl ?_
  unfold ParsePost
  rw [H.out, H0.out]
  have q12 := O1.out.below B2.out (Nat.le_refl _)
  have q13 := q12.below B3.out (Nat.le_refl _)
  have q23 := O2.out.below B3.out (Nat.le_refl _)
  refine ⟨⟨A1, n1, c1, A2, n2, c2, A3, n3, c3, rfl, ?_, ?_, ?_, blk_ne O1.out O2.out (Nat.le_refl _), blk_ne q12 O3.out (Nat.le_refl _), blk_ne O2.out O3.out (Nat.le_refl _)⟩, ?_⟩
  · exact (q13.far (grown_3 _ _) (by omega)).lower (by omega)
  · exact (q23.far (grown_3 _ _) (by omega)).lower (by omega)
  · exact (O3.out.far (grown_3 _ _) (by omega)).lower (by omega)
  · go_split_ands
    assumption
theorem lenQ_le {bs : List UInt8} {m f : Nat} (h : lenQ bs = some (m, f)) : 2 ≤ f ∧ f ≤ 6 ∧ f ≤ bs.length ∧ m < 4294967296 := by
  unfold lenQ at h
  split at h; cases h
  split at h
  · simp at h; omega
  split at h; cases h
  rename_i h3 h4
  split at h; cases h
  simp only [Option.some.injEq, Prod.mk.injEq] at h
  obtain ⟨rfl, rfl⟩ := h
  have hl : ((bs.drop 2).take (nth bs 1 - 128)).length = nth bs 1 - 128 := by rw [List.length_take, List.length_drop]; omega
  have := beN_lt _ _ hl
  have h2 : (256 : Nat) ^ (nth bs 1 - 128) ≤ 256 ^ 4 := Nat.pow_le_pow_right (by decide) (by omega)
  have h3 : (256 : Nat) ^ 4 = 4294967296 := by decide
  omega
theorem rparse_any (A : Option Addr) (n c : Nat) (bs : List UInt8) (w : World) (hR : RB w A n bs) (hnc : n ≤ c) (hn : n ≤ 1000000000) (hc : c ≤ 9223372036854775807) :
    Calls Try.prog 34 #[.slice A n c] w (ParsePost w bs) := by
  cases h : lenQ bs with
  | none => exact rparse_no A n c bs w hR hn h
  | some p =>
    obtain ⟨m, f⟩ := p
    have hle := lenQ_le h
    have hl := hR.1
    obtain ⟨b, off, d, rfl, _, hd, c0⟩ := hR.at_ (k := 0) (by omega)
    have n0 : nth bs 0 = d.toNat := by unfold nth; rw [List.getD_eq_getElem?_getD, hd]; rfl
    have hs := split_of_len bs
    rw [h] at hs
    simp only [n0, hl] at hs
    by_cases hbad : d.toNat % 32 = 31 ∨ n - f < m
    · rw [if_pos hbad] at hs
      exact rparse_bad b off n c d bs w hR hn c0 (by omega) m f h (by omega) (by omega) (by omega) hbad hs
    · rw [if_neg hbad] at hs
      exact rparse_yes b off n c d bs w hR c0 hnc hn hc m f h (by omega) (by omega) (by omega) hs (by rw [List.getD_eq_getElem?_getD, hd]; rfl)
end Go.Proofs.Ytamkbedbkjndgaa
