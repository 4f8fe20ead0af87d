/-
  sha: the document's roots of the first primes; its padding.
-/
import Derived.Test.YtmbkbehccmadfaaShX5
import Derived.Test.YtmbkbehccmadfaaRef
import Derived.Test.YtmbkbehccmadfaaAppA
namespace Go.Proofs.Ytmbkbehccmadfaa
open Go.RowKit Go
set_option linter.unusedVariables false
set_option linter.unusedSimpArgs false
set_option maxRecDepth 100000
def rootsAt (m n i : Nat) : List Nat := ((PR64.take m).take i).map (fun p => rootQ p n) ++ List.replicate (m - i) 0
theorem rootsAt_len (m n i : Nat) (hm : m ≤ 64) (hi : i ≤ m) : (rootsAt m n i).length = m := by
  have := pr_len
  unfold rootsAt
  simp
  omega
theorem rootsAt_next (m n i p : Nat) (hm : m ≤ 64) (hi : i < m) (hp : (PR64.take m)[i]? = some p) : (rootsAt m n i).set i (rootQ p n) = rootsAt m n (i + 1) := by
  have hl := pr_len
  have h1 : (((PR64.take m).take i).map (fun p => rootQ p n)).length = i := by simp; omega
  unfold rootsAt
  rw [List.set_append_right _ _ (by omega), h1, Nat.sub_self, List.take_add_one, hp, List.map_append, show m - i = (m - (i + 1)) + 1 by omega, List.replicate_succ]
  simp
theorem rootQ_lt (p n : Nat) : rootQ p n < 4294967296 := Nat.mod_lt _ (by decide)
set_option maxHeartbeats 4000000 in
theorem droots_any (m n : Nat) (hm : m ≤ 64) (hm0 : 0 < m) (hn : 1 ≤ n) (hn2 : n ≤ 10) (w : World) : Calls Try.prog 23 #[.int .i64 (m : Int), .int .i64 (n : Int)] w fun e w' =>
    ∃ g, e = .returned (.slice (some ⟨g, 0, none⟩) m m) ∧ OwnU w' w.heap.size (some ⟨g, 0, none⟩) m m ((PR64.take m).map (fun p => rootQ p n)) ∧ Below w.heap.size w w' := by
  obtain ⟨G, hG⟩ : ∃ G, w.heap.size = G := ⟨_, rfl⟩
  have hl := pr_len
  have PA := Lib.hid (dprimes_any m hm w)
  rw [hG] at PA
  go_enter Try.func23, Try.ntmps23
  go_wp2_with fail
  refine PA.out.mono ?_
  rintro e w1 ⟨A, c, rfl, hown, hb1⟩
  have hs1 : G ≤ w1.heap.size := by have := hb1.size; omega
  have H1 : Hid (OwnU w1 G A m c (PR64.take m) ∧ Below G w w1) := ⟨hown, hb1⟩
  have HAB : Hid (∀ k, blk A = some k → k < w1.heap.size) := fun k hk => (OwnR.blk_lt hown hk).2
  clear hown hb1 PA
  go_wp2_with (refine wpList_mkR u32_row _ _ rfl rfl _ _ _ _ m rfl rfl rfl rfl (by unfold maxLen; omega) (by omega) ?_)
  intro w2 hown2 hg2
  rw [toList_madeCells_one] at hown2
  obtain ⟨g, hg⟩ : ∃ g, w1.heap.size = g := ⟨_, rfl⟩
  rw [hg] at hown2 hs1 HAB
  have H2 : Hid (OwnU w2 g (some ⟨g, 0, none⟩) m m (rootsAt m n 0) ∧ OwnU w2 G A m c (PR64.take m) ∧ Below G w w2 ∧ g < w2.heap.size) := by
    obtain ⟨q1, q2⟩ := H1.out
    have h2 := (OwnR.blk_lt hown2 (g := g) rfl).2
    refine ⟨?_, OwnR.kept q1 hg2 ?_, q2.grown hg2 (by omega) (by intro k hk; cases hk), h2⟩
    · unfold OwnU rootsAt
      rw [List.take_zero, List.map_nil, List.nil_append, List.map_replicate]
      exact hown2
    · cases blk A <;> simp
  clear hown2 hg2 H1
  rw [hg]
  go_wp2_with fail
  go_loopw [7] (fun vi wl => ∃ i : Nat, vi = .int .i64 (i : Int) ∧ i ≤ m ∧ Hid (OwnU wl g (some ⟨g, 0, none⟩) m m (rootsAt m n i) ∧ OwnU wl G A m c (PR64.take m) ∧ Below G w wl ∧ g < wl.heap.size)) (fun vi _ => m - (intOf vi).toNat)
  case atStart => exact ⟨0, rfl, Nat.zero_le _, H2.out⟩
  case round =>
    obtain ⟨i, rfl, hi, HK⟩ := hrel
    clear H2
    by_cases hlt : i < m
    · obtain ⟨q1, q2, q3, q4⟩ := HK.out
      obtain ⟨p, hp⟩ : ∃ p, (PR64.take m)[i]? = some p := ⟨_, List.getElem?_eq_getElem (by rw [List.length_take]; omega)⟩
      have hpb := pr_bd p (List.mem_of_mem_take (List.mem_of_getElem? hp))
      obtain ⟨ba, oa, rfl, hba, hc⟩ := read_at (OwnR.reads q2) i p hp
      have RA := Lib.hid (root_any p n (by omega) hn hn2 wr)
      have HP := Lib.hid hp
      have i1 : (i : Int) < (m : Int) := by omega
      have e1 : IntKind.i64.wrap ((i : Int) + 1) = (i : Int) + 1 := IntWalk.i64_in _ (by omega)
      clear hp hba q1 q2 q3 q4
      go_wp2_with fail
      refine RA.out.mono ?_
      rintro e w5 ⟨rfl, hb5⟩
      obtain ⟨q1, q2, q3, q4⟩ := HK.out
      have q1' : OwnU w5 g (some ⟨g, 0, none⟩) m m (rootsAt m n i) := OwnR.below q1 hb5 (Nat.le_refl _)
      have q2' := OwnR.below q2 hb5 (Nat.le_refl _)
      have hne : blk (some ⟨ba, oa, none⟩) = none ∨ blk (some ⟨ba, oa, none⟩) ≠ some g := by
        right
        intro e
        have := HAB.out _ e
        omega
      have fO := OwnR.free q1' i
      obtain ⟨z, hz⟩ : ∃ z, (rootsAt m n i)[i]? = some z := ⟨_, List.getElem?_eq_getElem (by rw [rootsAt_len m n i hm (by omega)]; exact hlt)⟩
      have cO := q1'.cellAt i z hz
      have HN : Hid (OwnU (w5.setCell ⟨g, i, none⟩ (.int .u32 (rootQ p n : Nat))) g (some ⟨g, 0, none⟩) m m (rootsAt m n (i + 1)) ∧ OwnU (w5.setCell ⟨g, i, none⟩ (.int .u32 (rootQ p n : Nat))) G (some ⟨ba, oa, none⟩) m c (PR64.take m) ∧ Below G w (w5.setCell ⟨g, i, none⟩ (.int .u32 (rootQ p n : Nat))) ∧ g < (w5.setCell ⟨g, i, none⟩ (.int .u32 (rootQ p n : Nat))).heap.size) := by
        refine ⟨?_, OwnR.kept q2' (grown_one w5 g i _) hne, ((q3.trans (hb5.mono (by omega))).setCell (by omega) _), ?_⟩
        · rw [← rootsAt_next m n i p hm hlt HP.out]
          exact q1'.store i _
        · have := hb5.size
          rw [World.size_setCell]
          omega
      clear q1 q2 q3 q4 q1' q2' hb5 hne HK RA hz hc
      go_wp2
      go_roundw
      case rel => exact ⟨i + 1, by go_num, by omega, HN.out⟩
      case measure => simp [intOf]; omega
    · obtain rfl : i = m := by omega
      have i1 : ¬ (i : Int) < (i : Int) := by omega
      have hfull : rootsAt i n i = (PR64.take i).map (fun p => rootQ p n) := by
        unfold rootsAt
        rw [Nat.sub_self, List.take_of_length_le (by rw [List.length_take]; omega)]
        simp
      have HF := Lib.hid hfull
      clear hfull
      go_wp2
      go_ret
      refine ⟨g, rfl, ?_, HK.out.2.2.1⟩
      have h := OwnR.lower HK.out.1 hs1
      rw [HF.out] at h
      first
        | exact h
        | (rw [List.map_take] at h; exact h)
theorem run_shrQ (x q : Nat) (hq : q ≤ 64) (w : World) : (Op.shift BinOp.shr IntKind.u64 (x : Int) IntKind.u64 (q : Int)).run Try.prog w = .ok (.int .u64 ((x : Int) / 2 ^ q)) w := by
  unfold Op.shift
  rw [if_neg (by omega)]
  have hm : min (q : Int).toNat IntKind.u64.bits = q := by
    show min (q : Int).toNat 64 = q
    omega
  simp only [hm]
  rw [Int.fdiv_eq_ediv_of_nonneg _ (Int.pow_nonneg (by decide))]
  rfl
def slLenX : Value → Nat
  | .slice _ n _ => n
  | _ => 0
/-- The padding of the document: one byte, noughts, the count of bits. -/
def bitsAt (t i : Nat) : List UInt8 := (padL t).take i
set_option maxHeartbeats 4000000 in
theorem padded_any (A : Option Addr) (n c : Nat) (bs : List UInt8) (w : World) (h : RB w A n bs) (hn : n ≤ 1000000) :
    Calls Try.prog 24 #[.slice A n c] w fun e w' => ∃ A' c', e = .returned (.slice A' (n + (zerosQ n + 9)) c') ∧ OwnB w' w.heap.size A' (n + (zerosQ n + 9)) c' (bs ++ padB n) ∧ Below w.heap.size w w' := by
  obtain ⟨G, hG⟩ : ∃ G, w.heap.size = G := ⟨_, rfl⟩
  have CA := Lib.hid (copy_any A n c bs w h (by omega))
  have HLB := Lib.hid h.1
  clear h
  go_enter Try.func24, Try.ntmps24
  go_wp2_with fail
  refine CA.out.mono ?_
  rintro e w1 ⟨A1, n1, c1, rfl, hown, hb1⟩
  rw [hG] at hown hb1
  obtain rfl : n = n1 := by rw [← HLB.out]; exact hown.len
  have H1 : Hid (OwnB w1 G A1 n c1 bs ∧ Below G w w1) := ⟨hown, hb1⟩
  have hs1 : G ≤ w1.heap.size := by have := hb1.size; omega
  have RN : Hid (∀ (W : World) (x : UInt8), RB (W.alloc (.cells #[.int .u8 (x.toNat : Int)] 5)) (some ⟨W.heap.size, 0, none⟩) 1 [x]) := fun W x => ⟨rfl, (bs_new W [x] 5 (0, 0) _ rfl).more (by simp)⟩
  clear hown hb1 CA
  go_wp2_with (at_builtin; refine wpList_apn _ _ rfl rfl rfl G A1 n c1 bs rfl (H1.out.1.alloc _) (some ⟨w1.heap.size, 0, none⟩) 1 1 [128] rfl (RN.out w1 128) (by omega) (by simp; omega) ?_)
  intro A2 c2 w2 hown2 hg2
  have H2 : Hid (OwnB w2 G A2 (n + 1) c2 (bs ++ (128 :: List.replicate 0 0)) ∧ Below G w w2) :=
    ⟨hown2, (H1.out.2.alloc hs1 _).grown hg2 (by simp; omega) (fun g hg => (H1.out.1.blk_lt hg).1)⟩
  obtain ⟨z, hz⟩ : ∃ z, zerosQ n = z := ⟨_, rfl⟩
  have hz1 : (119 - n % 64) % 64 = z := hz
  have HZ := Lib.hid hz
  have hz63 : z < 64 := by omega
  clear hown2 hg2 H1 hs1 hz
  go_wp2_with fail
  go_loopw [3] (fun va wl => ∃ (k : Nat) (A3 : Option Addr) (c3 : Nat), va = .slice A3 (n + 1 + k) c3 ∧ k ≤ z ∧ Hid (OwnB wl G A3 (n + 1 + k) c3 (bs ++ (128 :: List.replicate k 0)) ∧ Below G w wl)) (fun va _ => n + 1 + z - slLenX va)
  case atStart => exact ⟨0, A2, c2, rfl, Nat.zero_le _, H2.out⟩
  case round =>
    obtain ⟨k, A3, c3, rfl, hk, HK⟩ := hrel
    clear H2
    by_cases hkz : k < z
    · obtain ⟨r, hr⟩ : ∃ r, (n + 1 + k) % 64 = r := ⟨_, rfl⟩
      have e1 : ((n : Int) + 1 + (k : Int)) % 64 = (r : Int) := by omega
      have t1 : ((r : Int) != 56) = true := by simp; omega
      have hs : G ≤ wr.heap.size := by have := HK.out.2.size; omega
      clear hr hz1
      go_wp2_with (at_builtin; refine wpList_apn _ _ rfl rfl rfl G A3 (n + 1 + k) c3 (bs ++ (128 :: List.replicate k 0)) rfl (HK.out.1.alloc _) (some ⟨wr.heap.size, 0, none⟩) 1 1 [0] rfl (RN.out wr 0) (by omega) (by simp; omega) ?_)
      intro A4 c4 w4 hown4 hg4
      have HN : Hid (OwnB w4 G A4 (n + 1 + (k + 1)) c4 (bs ++ (128 :: List.replicate (k + 1) 0)) ∧ Below G w w4) := by
        refine ⟨?_, (HK.out.2.alloc hs _).grown hg4 (by simp; omega) (fun g hg => (HK.out.1.blk_lt hg).1)⟩
        rw [List.replicate_succ']
        exact hown4
      clear hown4 hg4 HK
      go_wp2
      go_roundw
      case rel => exact ⟨k + 1, A4, c4, rfl, by omega, HN.out⟩
      case measure => simp only [slLenX]; omega
    · obtain rfl : k = z := by omega
      have e1 : ((n : Int) + 1 + (k : Int)) % 64 = 56 := by omega
      have e2 : IntKind.u64.wrap (n : Int) = (n : Int) := by rw [IntKind.wrap_u64]; omega
      obtain ⟨x, hx⟩ : ∃ x, n * 8 % 18446744073709551616 = x := ⟨_, rfl⟩
      have e3 : IntKind.u64.wrap (8 * (n : Int)) = (x : Int) := by rw [IntKind.wrap_u64]; omega
      have HX := Lib.hid hx
      have H3 : Hid (OwnB wr G A3 (n + 1 + k + 0) c3 (bs ++ (128 :: List.replicate k 0) ++ (padL n).take 0) ∧ Below G w wr) := by
        rw [List.take_zero, List.append_nil]
        exact HK.out
      clear hx HK hz1
      go_wp2_with fail
      try rw [e1]
      try rw [e3]
      clear e1 e2 e3
      go_loopw [3, 5] (fun va vi wl => ∃ (j : Nat) (A4 : Option Addr) (c4 : Nat), va = .slice A4 (n + 1 + k + j) c4 ∧ vi = .int .i64 (7 - (j : Int)) ∧ j ≤ 8 ∧ Hid (OwnB wl G A4 (n + 1 + k + j) c4 (bs ++ (128 :: List.replicate k 0) ++ (padL n).take j) ∧ Below G w wl)) (fun _ vi _ => (intOf vi + 1).toNat)
      case atStart => exact ⟨0, A3, c3, rfl, rfl, by omega, H3.out⟩
      case round =>
        obtain ⟨j, A4, c4, rfl, rfl, hj, HJ⟩ := hrel
        clear H3
        by_cases hj8 : j < 8
        · have i1 : 7 - (j : Int) ≥ 0 := by omega
          have e4 : IntKind.i64.wrap (8 * (7 - (j : Int))) = 8 * (7 - (j : Int)) := IntWalk.i64_in _ (by omega)
          obtain ⟨q, hq⟩ : ∃ q : Nat, 8 * (7 - j) = q := ⟨_, rfl⟩
          have e5 : 8 * (7 - (j : Int)) = (q : Int) := by omega
          have e6 : IntKind.u64.wrap (q : Int) = (q : Int) := by rw [IntKind.wrap_u64]; omega
          have e7 : IntKind.i64.wrap (7 - (j : Int) - 1) = 7 - (j : Int) - 1 := IntWalk.i64_in _ (by omega)
          have hb := padL_get n j hj8
          obtain ⟨y, hy⟩ : ∃ y, UInt8.ofNat (be8 n j) = y := ⟨_, rfl⟩
          rw [hy] at hb
          have hsh : ∀ W, (Op.shift BinOp.shr IntKind.u64 (x : Int) IntKind.u64 (q : Int)).run Try.prog W = .ok (.int .u64 ((x : Int) / 2 ^ q)) W := fun W => run_shrQ x q (by omega) W
          have hnb : IntKind.u8.wrap ((x : Int) / 2 ^ q) = ((y.toNat : Nat) : Int) := by rw [IntKind.wrap_u8', ← hy, be8_num n j x HX.out, ← hq, show 56 - 8 * j = 8 * (7 - j) by omega]
          have hs : G ≤ wr.heap.size := by have := HJ.out.2.size; omega
          have HT : Hid ((padL n).take (j + 1) = (padL n).take j ++ [y]) := by unfold Hid; rw [List.take_add_one, hb]; rfl
          clear hb hy hq
          go_wp2_with (at_builtin; refine wpList_apn _ _ rfl rfl rfl G A4 (n + 1 + k + j) c4 (bs ++ (128 :: List.replicate k 0) ++ (padL n).take j) rfl (HJ.out.1.alloc _) (some ⟨wr.heap.size, 0, none⟩) 1 1 [y] rfl (RN.out wr y) (by omega) (by simp; omega) ?_)
          intro A5 c5 w5 hown5 hg5
          have HN : Hid (OwnB w5 G A5 (n + 1 + k + (j + 1)) c5 (bs ++ (128 :: List.replicate k 0) ++ (padL n).take (j + 1)) ∧ Below G w w5) := by
            refine ⟨?_, (HJ.out.2.alloc hs _).grown hg5 (by simp; omega) (fun g hg => (HJ.out.1.blk_lt hg).1)⟩
            have e8 : bs ++ (128 :: List.replicate k 0) ++ ((padL n).take j ++ [y]) = bs ++ 128 :: (List.replicate k 0 ++ ((padL n).take j ++ [y])) := by simp
            rw [HT.out, e8]
            exact hown5
          clear hown5 hg5 HJ HT
          go_wp2
          go_roundw
          case rel => exact ⟨j + 1, A5, c5, rfl, by go_num, by omega, HN.out⟩
          case measure => simp [intOf]; omega
        · obtain rfl : j = 8 := by omega
          have i1 : ¬ 7 - ((8 : Nat) : Int) ≥ 0 := by omega
          have HF : Hid (OwnB wr G A4 (n + (k + 9)) c4 (bs ++ padB n) ∧ Below G w wr) := by
            refine ⟨?_, HJ.out.2⟩
            have h := HJ.out.1
            rw [List.append_assoc] at h
            unfold padB padP
            rw [HZ.out, show n + (k + 9) = n + 1 + k + 8 by omega]
            simpa using h
          have hlen : n + 1 + k + 8 = n + (k + 9) := by omega
          rw [hlen]
          clear HJ
          go_wp2
          go_ret
          exact ⟨A4, c4, by rw [HZ.out]; rfl, by rw [HZ.out]; exact HF.out.1, HF.out.2⟩
end Go.Proofs.Ytmbkbehccmadfaa
