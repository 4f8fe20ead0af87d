/-
  siglist: the document's one (made by genSi2.py).
-/
import Derived.Test.YtfampefflkkckaaDoorSiAa
import Derived.Deep.RegionHeld
namespace Go.Proofs.YtfampefflkkckaaDoor
open Go.RowKit Go
set_option linter.unusedVariables false
set_option linter.unusedSimpArgs false
set_option maxRecDepth 100000

attribute [local go_sem ↓] Go.wp_at_zero Go.wp_at_succ
def noD : Value := .tuple #[.agg #[.int .u8 0, .slice none 0 0], .int .i64 0]
/-- What the document's one answers. -/
def DonePost (w : World) (bs : List UInt8) (e : Ending) (w' : World) : Prop :=
  (match oneQ bs with
    | none => e = .returned noD
    | some (x, k) => ∃ A2 c2, e = .returned (.tuple #[.agg #[.int .u8 (x.1.toNat : Int), .slice A2 x.2.length c2], .int .i64 (k : Int)]) ∧ ItemsOwn w' w.heap.size A2 x.2.length c2 x.2) ∧ Below w.heap.size w w'
/-- The kind that is found by going through the kinds. -/
def kindF (g : List UInt8) : Nat → UInt8
  | 0 => 0
  | k + 1 => if guidL (UInt8.ofNat (k + 1)) = g then UInt8.ofNat (k + 1) else kindF g k
theorem kindF3 (g : List UInt8) : kindF g 3 = kindL g := by
  have e3 : guidL (UInt8.ofNat 3) = gSum := rfl
  have e2 : guidL (UInt8.ofNat 2) = gCert := rfl
  have e1 : guidL (UInt8.ofNat 1) = gHash := rfl
  show (if guidL (UInt8.ofNat 3) = g then UInt8.ofNat 3 else if guidL (UInt8.ofNat 2) = g then UInt8.ofNat 2 else if guidL (UInt8.ofNat 1) = g then UInt8.ofNat 1 else 0) = kindL g
  rw [e1, e2, e3]
  unfold kindL
  by_cases h1 : g = gHash
  · subst h1; decide
  by_cases h2 : g = gCert
  · subst h2; decide
  by_cases h3 : g = gSum
  · subst h3; decide
  rw [if_neg (Ne.symm h3), if_neg (Ne.symm h2), if_neg (Ne.symm h1), if_neg h1, if_neg h2, if_neg h3]
/-- An item's cells, while its owner is being laid. -/
def owC (o : List UInt8) (j : Nat) (V : Value) : Array Value := ((o.take j).map bv ++ (List.replicate (16 - j) (Value.int .u8 0) ++ [V])).toArray
theorem ow_at {o : List UInt8} {j : Nat} (V : Value) (hj : j < 16) (ho : o.length = 16 := by rfl) : (owC o j V)[j]? = some (.int .u8 0) := by
  unfold owC
  rw [List.getElem?_toArray, List.getElem?_append_right (by rw [List.length_map, List.length_take]; omega), List.length_map, List.length_take, Nat.min_eq_left (by omega), Nat.sub_self, List.getElem?_append_left (by rw [List.length_replicate]; omega), List.getElem?_replicate, if_pos (by omega)]
theorem ow_set {o : List UInt8} {j : Nat} {V : Value} {x : UInt8} (hx : o[j]? = some x) (hj : j < 16) (ho : o.length = 16) : (owC o j V).setIfInBounds j (bv x) = owC o (j + 1) V := by
  unfold owC
  rw [List.setIfInBounds_toArray, List.set_append_right _ _ (by rw [List.length_map, List.length_take]; omega), List.length_map, List.length_take, Nat.min_eq_left (by omega), Nat.sub_self, List.take_add_one, hx, show 16 - j = (16 - (j + 1)) + 1 by omega, List.replicate_succ]
  simp
theorem itm_dlen (bs : List UInt8) (a s : Nat) (h : a + s ≤ bs.length) (hs : 16 ≤ s) : (itmQ bs a s).2.length = s - 16 := by
  unfold itmQ
  exact cut_len _ _ _ (by omega)
/-- The first of a list's items tells that there is none. -/
theorem none_first {bs : List UInt8} (h : mayL (kindL (cut bs 0 16)) (itmQ bs (28 + 0 * leN (cut bs 24 4)) (leN (cut bs 24 4))).2 = false) : oneQ bs = none := by
  unfold oneQ
  split
  · rfl
  dsimp only
  split
  · rfl
  rename_i hno
  rw [if_neg]
  intro h2
  have h3 : 1 ≤ (leN (cut bs 16 4) - 28) / leN (cut bs 24 4) := (Nat.one_le_div_iff (by omega)).2 (by omega)
  have h4 := itms_bad bs (leN (cut bs 24 4)) ((leN (cut bs 16 4) - 28) / leN (cut bs 24 4)) 0 _ h3 h
  rw [h4] at h2
  cases h2
theorem none_kind {bs : List UInt8} (h : kindL (cut bs 0 16) = 0) : oneQ bs = none := none_first (by rw [h]; rfl)
theorem none_conds {bs : List UInt8} (h : leN (cut bs 20 4) ≠ 0 ∨ leN (cut bs 24 4) < 17 ∨ 8208 < leN (cut bs 24 4) ∨ bs.length < leN (cut bs 16 4) ∨ leN (cut bs 16 4) < 28 + leN (cut bs 24 4) ∨ (leN (cut bs 16 4) - 28) % leN (cut bs 24 4) ≠ 0) : oneQ bs = none := by
  by_cases hb : 8208 < leN (cut bs 24 4)
  · by_cases hno : leN (cut bs 20 4) ≠ 0 ∨ leN (cut bs 24 4) ≤ 16 ∨ bs.length < leN (cut bs 16 4) ∨ leN (cut bs 16 4) < 28 + leN (cut bs 24 4) ∨ (leN (cut bs 16 4) - 28) % leN (cut bs 24 4) ≠ 0
    · unfold oneQ
      split
      · rfl
      dsimp only
      rw [if_pos hno]
    · refine none_first (Bool.eq_false_iff.2 fun h2 => ?_)
      have h3 := may_len h2
      rw [itm_dlen _ _ _ (by omega) (by omega)] at h3
      omega
  · unfold oneQ
    split
    · rfl
    dsimp only
    rw [if_pos (by omega)]
theorem done_less (A : Option Addr) (n c : Nat) (w : World) (h : n < 28) :
    Calls Tryd.prog 26 #[.slice A n c] w fun e w' => e = .returned noD ∧ Below w.heap.size w w' := by
  have h1 : decide ((n : Int) < (28 : Int)) = true := decide_eq_true (by omega)
  have h2 : decide (n < 28) = true := decide_eq_true h
  clear h
  go_enter Tryd.func26, Tryd.ntmps26
  go_upto_region 3 with fail
  refine wp_nm fun W1 hW1 => ?_
  have H1 : Hid (W1.heap[w.heap.size]? = some (.cells #[.int .u8 0, .slice none 0 0] 41) ∧ W1.heap[w.heap.size + 1]? = some (.cells #[.int .u8 0, .slice none 0 0] 41) ∧ Below w.heap.size w W1) := by
    rw [← hW1]
    exact ⟨has_alloc (has_new w _) _, has_new' _ _ _ (by simp), kp_alloc (kp_alloc (Below.refl _ _) _) _⟩
  clear hW1
  obtain ⟨z0, z1⟩ := cells_2 H1.out.1
  obtain ⟨y0, y1⟩ := free_2 H1.out.1
  obtain ⟨x0, x1⟩ := cells_2 H1.out.2.1
  go_wp2
  refine bodyPost_ret (results_ct Tryd.results26 _ (LV.agg (set_2 H1.out.1) Tryd.underlying41 rfl list_info)) rfl ?_
  exact ⟨rfl, below_2 H1.out.2.2 (Nat.le_refl _)⟩
set_option maxHeartbeats 32000000 in
theorem done_more (b off : Nat) (n c : Nat) (bs : List UInt8) (w : World) (hR : RB w (some ⟨b, off, none⟩) n bs) (hT : Sizes w) (h28 : 28 ≤ n) (hc : n ≤ c) (hn : n ≤ 1000000) (hcm : c ≤ 9223372036854775807) :
    Calls Tryd.prog 26 #[.slice (some ⟨b, off, none⟩) n c] w (DonePost w bs) := by
  have hl := hR.1
  have HR := Lib.hid hR
  have HT := Lib.hid hT
  have d1 : decide ((n : Int) < (28 : Int)) = false := decide_eq_false (by omega)
  have d2 : decide (n < 28) = false := decide_eq_false (by omega)
  have N16 : Hid (∀ W, Below w.heap.size w W → Calls Tryd.prog 39 #[.slice (some ⟨b, off, none⟩) n c, .int .i64 16] W fun e w' => e = .returned (.int .i64 (leN (cut bs 16 4) : Nat)) ∧ Below W.heap.size W w') := fun W h => number_any _ n c bs 16 W (hR.below h) hc hcm (by omega)
  have N24 : Hid (∀ W, Below w.heap.size w W → Calls Tryd.prog 39 #[.slice (some ⟨b, off, none⟩) n c, .int .i64 24] W fun e w' => e = .returned (.int .i64 (leN (cut bs 24 4) : Nat)) ∧ Below W.heap.size W w') := fun W h => number_any _ n c bs 24 W (hR.below h) hc hcm (by omega)
  have N20 : Hid (∀ W, Below w.heap.size w W → Calls Tryd.prog 39 #[.slice (some ⟨b, off, none⟩) n c, .int .i64 20] W fun e w' => e = .returned (.int .i64 (leN (cut bs 20 4) : Nat)) ∧ Below W.heap.size W w') := fun W h => number_any _ n c bs 20 W (hR.below h) hc hcm (by omega)
  have NOK : Hid (kindL (cut bs 0 16) = 0 → oneQ bs = none) := none_kind
  have NOC := Lib.hid (none_conds (bs := bs))
  have b1 : leN (cut bs 16 4) < 4294967296 := by have := leN_lt (cut bs 16 4); rw [cut_len _ _ _ (by omega)] at this; exact this
  have b2 : leN (cut bs 20 4) < 4294967296 := by have := leN_lt (cut bs 20 4); rw [cut_len _ _ _ (by omega)] at this; exact this
  have b3 : leN (cut bs 24 4) < 4294967296 := by have := leN_lt (cut bs 24 4); rw [cut_len _ _ _ (by omega)] at this; exact this
  have HAL : Hid (leN (cut bs 16 4) = leN (cut bs 16 4) ∧ leN (cut bs 24 4) = leN (cut bs 24 4) ∧ leN (cut bs 20 4) = leN (cut bs 20 4)) := ⟨rfl, rfl, rfl⟩
  obtain ⟨al, hal⟩ : ∃ al, al = leN (cut bs 16 4) := ⟨_, rfl⟩
  obtain ⟨no, hno⟩ : ∃ no, no = leN (cut bs 20 4) := ⟨_, rfl⟩
  obtain ⟨s, hs⟩ : ∃ s, s = leN (cut bs 24 4) := ⟨_, rfl⟩
  rw [← hal, ← hno, ← hs, hl] at NOC
  rw [← hal] at N16 b1
  rw [← hno] at N20 b2
  rw [← hs] at N24 b3
  have HEQ := Lib.hid (And.intro hal (And.intro hno hs))
  clear hal hno hs HAL
  obtain ⟨t, ht⟩ : ∃ t, t = 28 + s := ⟨_, rfl⟩
  obtain ⟨u, hu0⟩ : ∃ u, al - 28 = u := ⟨_, rfl⟩
  obtain ⟨r, hr0⟩ : ∃ r, u % s = r := ⟨_, rfl⟩
  rw [hu0, hr0] at NOC
  have f4w : IntKind.i64.wrap (28 + (s : Int)) = (t : Int) := by rw [show (28 : Int) + (s : Int) = (t : Int) by omega]; exact IntWalk.i64_in _ (by omega)
  have f5m : (u : Int).tmod (s : Int) = (r : Int) := by rw [← hr0]; exact (Int.ofNat_tmod u s).symm
  have HTT := Lib.hid ht
  have HU := Lib.hid hu0
  have HRR := Lib.hid hr0
  clear ht hu0 hr0
  obtain ⟨gb, hgb⟩ : ∃ gb, strOf (cut bs 0 16) = gb := ⟨_, rfl⟩
  have CVW : Hid (∀ W, Below w.heap.size w W → (convert 22 9 (.slice (some ⟨b, off, none⟩) 16 c)).run Tryd.prog W = .ok (.string gb) W) := fun W h => by
    have h9 := run_strOf W W.heap.size (some ⟨b, off, none⟩) (cut bs 0 16) c ?_
    · rw [cut_len _ _ _ (by omega), hgb] at h9; exact h9
    · have h8 := (hR.below h).2
      intro hne
      obtain ⟨b', off', e, hb', h7⟩ := h8 (by intro e; rw [e] at hl; simp at hl; omega)
      refine ⟨b', off', e, hb', fun j hj => ?_⟩
      have hj2 : j < bs.length := by rw [cut_len _ _ _ (by omega)] at hj; omega
      rw [h7 j hj2]
      congr 2
      unfold cut
      simp
  have HGB : Hid (gb.toList = cut bs 0 16) := by rw [← hgb]; exact strOf_toList _
  have m16 : (16 : Int) ≤ (c : Int) := by omega
  have m17 : 16 ≤ c := by omega
  clear hR hT hgb
  go_enter Tryd.func26, Tryd.ntmps26
  go_upto_region 4 with fail
  refine wp_nm fun W1 hW1 => ?_
  have H1 : Hid (W1.heap[w.heap.size]? = some (.cells #[.int .u8 0, .slice none 0 0] 41) ∧ W1.heap[w.heap.size + 1]? = some (.cells #[.int .u8 0, .slice none 0 0] 41) ∧ Below w.heap.size w W1) := by
    rw [← hW1]
    exact ⟨has_alloc (has_new w _) _, has_new' _ _ _ (by simp), kp_alloc (kp_alloc (Below.refl _ _) _) _⟩
  clear hW1 d1 d2
  go_wp2
  go_loopw [5, 6] (fun u v wl => ∃ (k : Nat) (kd : UInt8), u = .int .u8 (kd.toNat : Int) ∧ v = .int .u8 (k : Int) ∧ 1 ≤ k ∧ k ≤ 4 ∧ Hid (kd = kindF (cut bs 0 16) (k - 1)) ∧ Below W1.heap.size W1 wl) (fun _ v _ => (4 - (intOf v).toNat))
  case atStart => exact ⟨1, 0, rfl, rfl, by omega, by omega, rfl, Below.refl _ _⟩
  case round =>
    obtain ⟨k, kd, rfl, rfl, hk1, hk4, hkd, hb⟩ := hrel
    rcases Nat.lt_or_ge k 4 with hlt | hge
    · have l1 : decide ((k : Int) ≤ (3 : Int)) = true := decide_eq_true (by omega)
      have l2 : decide (k ≤ 3) = true := decide_eq_true (by omega)
      have l3 : IntKind.u8.wrap ((k : Int) + 1) = ((k + 1 : Nat) : Int) := by
        rcases (show k = 1 ∨ k = 2 ∨ k = 3 by omega) with rfl | rfl | rfl <;> rfl
      have CVB : Hid (∀ W, Below wr.heap.size wr W → (convert 22 9 (.slice (some ⟨b, off, none⟩) 16 c)).run Tryd.prog W = .ok (.string gb) W) := fun W h => CVW.out W (kp_call (kp_call H1.out.2.2 hb) h)
      have NM : Hid (∀ W, Calls Tryd.prog 38 #[.int .u8 (k : Int)] W (Fresh W (guidL (UInt8.ofNat k)))) := fun W => by
        have h9 := name_any (UInt8.ofNat k) W
        rw [show ((UInt8.ofNat k).toNat : Int) = (k : Int) by rcases (show k = 1 ∨ k = 2 ∨ k = 3 by omega) with rfl | rfl | rfl <;> rfl] at h9
        exact h9
      have HG16 : Hid ((guidL (UInt8.ofNat k)).length = 16) := by
        rcases (show k = 1 ∨ k = 2 ∨ k = 3 by omega) with rfl | rfl | rfl <;> rfl
      obtain ⟨gk, hgk⟩ : ∃ gk, strOf (guidL (UInt8.ofNat k)) = gk := ⟨_, rfl⟩
      have HGL : Hid (gk.toList = guidL (UInt8.ofNat k)) := by rw [← hgk]; exact strOf_toList _
      have HGK := Lib.hid hgk
      have HB := Lib.hid hb
      have HKD := Lib.hid hkd
      have HK := Lib.hid (And.intro hk1 hlt)
      clear hgk hb hkd
      by_cases hE : guidL (UInt8.ofNat k) = cut bs 0 16
      · have q1 : (gk.toList == gb.toList) = true := by rw [HGL.out, HGB.out, hE]; simp
        have HN : Hid (UInt8.ofNat k = kindF (cut bs 0 16) (k + 1 - 1)) := by
          have := HK.out.1
          obtain ⟨j, rfl⟩ : ∃ j, k = j + 1 := ⟨k - 1, by omega⟩
          show _ = kindF _ (j + 1)
          unfold kindF
          rw [if_pos hE]
        have HKN : Hid (((UInt8.ofNat k).toNat : Int) = (k : Int)) := by
          have := HK.out
          rcases (show k = 1 ∨ k = 2 ∨ k = 3 by omega) with rfl | rfl | rfl <;> rfl
        clear hE hk1 hk4
        go_upto_region 8 with fail
        refine wp_region_held_drew (S := fun W => Below wr.heap.size wr W) (by kernel_rfl) (kp_drew (Below.refl _ _)) (fun hHeld => ?_)
        refine wpAnyH_take (i := 0) (oi := _) (v := ?_) rfl (by kernel_rfl) (by kernel_rfl) (by kernel_rfl) (fun _ _ _ h => h) (Or.inl ⟨by rfl, ?_⟩) hHeld ?_
        rotate_left
        · (intro w hSw; (try dsimp only at hSw); go_simp; (try with_reducible rfl))
        (try simp only [Act.put, List.getElem_toArray, List.getElem_cons_succ, List.getElem_cons_zero, List.setIfInBounds_toArray, List.set_cons_zero, List.set_cons_succ])
        refine wpAnyH_take (i := 3) (oi := _) (v := ?_) rfl (by kernel_rfl) (by kernel_rfl) (by kernel_rfl) (fun _ _ _ h => h) (Or.inl ⟨by rfl, ?_⟩) hHeld ?_
        rotate_left
        · (intro w hSw; (try dsimp only at hSw); go_simp; (try with_reducible rfl))
        (try simp only [Act.put, List.getElem_toArray, List.getElem_cons_succ, List.getElem_cons_zero, List.setIfInBounds_toArray, List.set_cons_zero, List.set_cons_succ])
        refine wpAnyH_take (i := 4) (oi := _) (v := ?_) rfl (by kernel_rfl) (by kernel_rfl) (by kernel_rfl) (fun _ _ _ h => h) (Or.inl ⟨by rfl, ?_⟩) hHeld ?_
        rotate_left
        · (intro w hSw; (try dsimp only at hSw); go_simp; (try with_reducible rfl))
        (try simp only [Act.put, List.getElem_toArray, List.getElem_cons_succ, List.getElem_cons_zero, List.setIfInBounds_toArray, List.set_cons_zero, List.set_cons_succ])
        refine wpAnyH_take (i := 5) (oi := _) (v := ?_) rfl (by kernel_rfl) (by kernel_rfl) (by kernel_rfl) (fun _ _ _ h => h) (Or.inl ⟨by rfl, ?_⟩) hHeld ?_
        rotate_left
        · (intro w hSw; (try dsimp only at hSw); have h9 := CVB.out w hSw; go_simp; (try with_reducible rfl))
        (try simp only [Act.put, List.getElem_toArray, List.getElem_cons_succ, List.getElem_cons_zero, List.setIfInBounds_toArray, List.set_cons_zero, List.set_cons_succ])
        refine wpAnyH_ready (rs := [1]) (by kernel_rfl) (by simp) ?_
        refine AllReadyH.cons (o := _) rfl (fun K hK => ?_) AllReadyH.nil
        go_simp
        refine (NM.out _).mono ?_
        rintro e W3 ⟨A3, n3, c3, rfl, ho3, hb3⟩
        obtain rfl : 16 = n3 := HG16.out.symm.trans ho3.len
        have hb3' : Below wr.heap.size wr W3 := (kp_drew (Below.refl _ _)).trans hb3
        have CV3 : (convert 22 9 (.slice A3 16 c3)).run Tryd.prog W3 = .ok (.string gk) W3 := by
          have h9 := run_strOf W3 W3.heap.size A3 (guidL (UInt8.ofNat k)) c3 ho3.reads
          rw [HG16.out, HGK.out] at h9
          exact h9
        have B3 := Lib.hid hb3'
        clear ho3 hb3 hb3'
        go_wp2_with fail
        refine hK.out _ _ (B3.out) (fun hHeld => ?_)
        clear hK K
        (try simp only [Act.put, List.getElem_toArray, List.getElem_cons_succ, List.getElem_cons_zero, List.setIfInBounds_toArray, List.set_cons_zero, List.set_cons_succ])
        refine wpAnyH_ready (rs := [2]) (by kernel_rfl) (by simp) ?_
        refine AllReadyH.cons (o := _) rfl (fun K hK => ?_) AllReadyH.nil
        go_simp
        refine hK.out _ _ (B3.out) (fun hHeld => ?_)
        clear hK K
        (try simp only [Act.put, List.getElem_toArray, List.getElem_cons_succ, List.getElem_cons_zero, List.setIfInBounds_toArray, List.set_cons_zero, List.set_cons_succ])
        refine wpAnyH_take (i := 6) (oi := _) (v := ?_) rfl (by kernel_rfl) (by kernel_rfl) (by kernel_rfl) (fun _ _ _ h => h) (Or.inl ⟨by rfl, ?_⟩) hHeld ?_
        rotate_left
        · (intro w hSw; (try dsimp only at hSw); go_simp; (try with_reducible rfl))
        (try simp only [Act.put, List.getElem_toArray, List.getElem_cons_succ, List.getElem_cons_zero, List.setIfInBounds_toArray, List.set_cons_zero, List.set_cons_succ])
        refine wpAnyH_done (by kernel_rfl) ?_ _
        go_wp2
        go_roundw
        case rel => exact ⟨k + 1, UInt8.ofNat k, by rw [HKN.out], rfl, by omega, by have := HK.out.2; omega, HN.out, kp_call HB.out B3.out⟩
        case measure => have := HK.out.2; simp [intOf]; omega
      · have q1 : (gk.toList == gb.toList) = false := beq_eq_false_iff_ne.2 (by rw [HGL.out, HGB.out]; exact hE)
        have q2 : ¬ gk.toList = gb.toList := by rw [HGL.out, HGB.out]; exact hE
        have HN : Hid (kd = kindF (cut bs 0 16) (k + 1 - 1)) := by
          have h1 := HK.out.1
          have h2 := HKD.out
          obtain ⟨j, rfl⟩ : ∃ j, k = j + 1 := ⟨k - 1, by omega⟩
          show _ = kindF _ (j + 1)
          unfold kindF
          rw [if_neg hE]
          exact h2
        clear hE hk1 hk4
        go_upto_region 8 with fail
        refine wp_region_held_drew (S := fun W => Below wr.heap.size wr W) (by kernel_rfl) (kp_drew (Below.refl _ _)) (fun hHeld => ?_)
        refine wpAnyH_take (i := 0) (oi := _) (v := ?_) rfl (by kernel_rfl) (by kernel_rfl) (by kernel_rfl) (fun _ _ _ h => h) (Or.inl ⟨by rfl, ?_⟩) hHeld ?_
        rotate_left
        · (intro w hSw; (try dsimp only at hSw); go_simp; (try with_reducible rfl))
        (try simp only [Act.put, List.getElem_toArray, List.getElem_cons_succ, List.getElem_cons_zero, List.setIfInBounds_toArray, List.set_cons_zero, List.set_cons_succ])
        refine wpAnyH_take (i := 3) (oi := _) (v := ?_) rfl (by kernel_rfl) (by kernel_rfl) (by kernel_rfl) (fun _ _ _ h => h) (Or.inl ⟨by rfl, ?_⟩) hHeld ?_
        rotate_left
        · (intro w hSw; (try dsimp only at hSw); go_simp; (try with_reducible rfl))
        (try simp only [Act.put, List.getElem_toArray, List.getElem_cons_succ, List.getElem_cons_zero, List.setIfInBounds_toArray, List.set_cons_zero, List.set_cons_succ])
        refine wpAnyH_take (i := 4) (oi := _) (v := ?_) rfl (by kernel_rfl) (by kernel_rfl) (by kernel_rfl) (fun _ _ _ h => h) (Or.inl ⟨by rfl, ?_⟩) hHeld ?_
        rotate_left
        · (intro w hSw; (try dsimp only at hSw); go_simp; (try with_reducible rfl))
        (try simp only [Act.put, List.getElem_toArray, List.getElem_cons_succ, List.getElem_cons_zero, List.setIfInBounds_toArray, List.set_cons_zero, List.set_cons_succ])
        refine wpAnyH_take (i := 5) (oi := _) (v := ?_) rfl (by kernel_rfl) (by kernel_rfl) (by kernel_rfl) (fun _ _ _ h => h) (Or.inl ⟨by rfl, ?_⟩) hHeld ?_
        rotate_left
        · (intro w hSw; (try dsimp only at hSw); have h9 := CVB.out w hSw; go_simp; (try with_reducible rfl))
        (try simp only [Act.put, List.getElem_toArray, List.getElem_cons_succ, List.getElem_cons_zero, List.setIfInBounds_toArray, List.set_cons_zero, List.set_cons_succ])
        refine wpAnyH_ready (rs := [1]) (by kernel_rfl) (by simp) ?_
        refine AllReadyH.cons (o := _) rfl (fun K hK => ?_) AllReadyH.nil
        go_simp
        refine (NM.out _).mono ?_
        rintro e W3 ⟨A3, n3, c3, rfl, ho3, hb3⟩
        obtain rfl : 16 = n3 := HG16.out.symm.trans ho3.len
        have hb3' : Below wr.heap.size wr W3 := (kp_drew (Below.refl _ _)).trans hb3
        have CV3 : (convert 22 9 (.slice A3 16 c3)).run Tryd.prog W3 = .ok (.string gk) W3 := by
          have h9 := run_strOf W3 W3.heap.size A3 (guidL (UInt8.ofNat k)) c3 ho3.reads
          rw [HG16.out, HGK.out] at h9
          exact h9
        have B3 := Lib.hid hb3'
        clear ho3 hb3 hb3'
        go_wp2_with fail
        refine hK.out _ _ (B3.out) (fun hHeld => ?_)
        clear hK K
        (try simp only [Act.put, List.getElem_toArray, List.getElem_cons_succ, List.getElem_cons_zero, List.setIfInBounds_toArray, List.set_cons_zero, List.set_cons_succ])
        refine wpAnyH_ready (rs := [2]) (by kernel_rfl) (by simp) ?_
        refine AllReadyH.cons (o := _) rfl (fun K hK => ?_) AllReadyH.nil
        go_simp
        refine hK.out _ _ (B3.out) (fun hHeld => ?_)
        clear hK K
        (try simp only [Act.put, List.getElem_toArray, List.getElem_cons_succ, List.getElem_cons_zero, List.setIfInBounds_toArray, List.set_cons_zero, List.set_cons_succ])
        refine wpAnyH_take (i := 6) (oi := _) (v := ?_) rfl (by kernel_rfl) (by kernel_rfl) (by kernel_rfl) (fun _ _ _ h => h) (Or.inl ⟨by rfl, ?_⟩) hHeld ?_
        rotate_left
        · (intro w hSw; (try dsimp only at hSw); go_simp; (try with_reducible rfl))
        (try simp only [Act.put, List.getElem_toArray, List.getElem_cons_succ, List.getElem_cons_zero, List.setIfInBounds_toArray, List.set_cons_zero, List.set_cons_succ])
        refine wpAnyH_done (by kernel_rfl) ?_ _
        go_wp2
        go_roundw
        case rel => exact ⟨k + 1, kd, rfl, rfl, by omega, by have := HK.out.2; omega, HN.out, kp_call HB.out B3.out⟩
        case measure => have := HK.out.2; simp [intOf]; omega
    · obtain rfl : k = 4 := by omega
      have HKD : Hid (kd = kindL (cut bs 0 16)) := by rw [← kindF3]; exact hkd
      have H4 := Lib.hid (And.intro (has_below H1.out.1 hb) (And.intro (has_below H1.out.2.1 hb) (kp_call H1.out.2.2 hb)))
      rw [← HKD.out] at NOK
      clear hb hkd hge hk1 hk4 CVW
      go_wp2_with fail
      refine (N16.out _ H4.out.2.2).mono ?_
      rintro e W4 ⟨rfl, hb4⟩
      have H4' := Lib.hid (And.intro (has_below H4.out.1 hb4) (And.intro (has_below H4.out.2.1 hb4) (kp_call H4.out.2.2 hb4)))
      clear hb4 H4
      go_wp2_with fail
      refine (N24.out _ H4'.out.2.2).mono ?_
      rintro e W5 ⟨rfl, hb5⟩
      have H5 := Lib.hid (And.intro (has_below H4'.out.1 hb5) (And.intro (has_below H4'.out.2.1 hb5) (kp_call H4'.out.2.2 hb5)))
      clear hb5 H4' N16 N24
      by_cases h1 : kd = 0
      · have f1I : ((kd.toNat : Int) == 0) = true := by rw [h1]; rfl
        have f1N : (kd.toNat == 0) = true := by rw [h1]; rfl
        have NO := Lib.hid (NOK.out h1)
        clear h1
        obtain ⟨z0, z1⟩ := cells_2 H5.out.1
        obtain ⟨y0, y1⟩ := free_2 H5.out.1
        obtain ⟨x0, x1⟩ := cells_2 H5.out.2.1
        go_wp2
        refine bodyPost_ret (results_ct Tryd.results26 _ (LV.agg (set_2 H5.out.1) Tryd.underlying41 rfl list_info)) rfl ?_
        exact ⟨by rw [NO.out]; rfl, below_2 H5.out.2.2 (Nat.le_refl _)⟩
      have f1m : kd.toNat ≠ 0 := fun e => h1 (UInt8.toNat_inj.1 e)
      have f1I : ((kd.toNat : Int) == 0) = false := beq_eq_false_iff_ne.2 (by omega)
      have f1N : (kd.toNat == 0) = false := beq_eq_false_iff_ne.2 f1m
      by_cases h2 : no ≠ 0
      · have f2I : ((no : Int) != 0) = true := bne_iff_ne.2 (by omega)
        have f2N : (no != 0) = true := bne_iff_ne.2 h2
        have NO := Lib.hid (NOC.out (by have := HTT.out; omega))
        clear h2
        go_wp2_with fail
        refine (N20.out _ H5.out.2.2).mono ?_
        rintro e W6 ⟨rfl, hb6⟩
        have H6 := Lib.hid (And.intro (has_below H5.out.1 hb6) (And.intro (has_below H5.out.2.1 hb6) (kp_call H5.out.2.2 hb6)))
        clear hb6
        obtain ⟨z0, z1⟩ := cells_2 H6.out.1
        obtain ⟨y0, y1⟩ := free_2 H6.out.1
        obtain ⟨x0, x1⟩ := cells_2 H6.out.2.1
        go_wp2
        refine bodyPost_ret (results_ct Tryd.results26 _ (LV.agg (set_2 H6.out.1) Tryd.underlying41 rfl list_info)) rfl ?_
        exact ⟨by rw [NO.out]; rfl, below_2 H6.out.2.2 (Nat.le_refl _)⟩
      have f2I : ((no : Int) != 0) = false := by rw [show no = 0 by omega]; rfl
      have f2N : (no != 0) = false := by rw [show no = 0 by omega]; rfl
      by_cases h3 : s < 17
      · have f3I : decide ((s : Int) < (17 : Int)) = true := decide_eq_true (by omega)
        have f3N : decide (s < 17) = true := decide_eq_true h3
        have NO := Lib.hid (NOC.out (by have := HTT.out; omega))
        clear h3
        go_wp2_with fail
        refine (N20.out _ H5.out.2.2).mono ?_
        rintro e W6 ⟨rfl, hb6⟩
        have H6 := Lib.hid (And.intro (has_below H5.out.1 hb6) (And.intro (has_below H5.out.2.1 hb6) (kp_call H5.out.2.2 hb6)))
        clear hb6
        obtain ⟨z0, z1⟩ := cells_2 H6.out.1
        obtain ⟨y0, y1⟩ := free_2 H6.out.1
        obtain ⟨x0, x1⟩ := cells_2 H6.out.2.1
        go_wp2
        refine bodyPost_ret (results_ct Tryd.results26 _ (LV.agg (set_2 H6.out.1) Tryd.underlying41 rfl list_info)) rfl ?_
        exact ⟨by rw [NO.out]; rfl, below_2 H6.out.2.2 (Nat.le_refl _)⟩
      have f3I : decide ((s : Int) < (17 : Int)) = false := decide_eq_false (by omega)
      have f3N : decide (s < 17) = false := decide_eq_false h3
      have f5z : ((s : Int) == 0) = false := beq_eq_false_iff_ne.2 (by omega)
      have f5y : (s == 0) = false := beq_eq_false_iff_ne.2 (by omega)
      have f5s : s ≠ 0 := by omega
      by_cases h4 : 8208 < s
      · have f4I : decide ((s : Int) > (8208 : Int)) = true := decide_eq_true (by omega)
        have f4J : decide ((8208 : Int) < (s : Int)) = true := decide_eq_true (by omega)
        have f4N : decide (8208 < s) = true := decide_eq_true h4
        have NO := Lib.hid (NOC.out (by have := HTT.out; omega))
        clear h4
        go_wp2_with fail
        refine (N20.out _ H5.out.2.2).mono ?_
        rintro e W6 ⟨rfl, hb6⟩
        have H6 := Lib.hid (And.intro (has_below H5.out.1 hb6) (And.intro (has_below H5.out.2.1 hb6) (kp_call H5.out.2.2 hb6)))
        clear hb6
        obtain ⟨z0, z1⟩ := cells_2 H6.out.1
        obtain ⟨y0, y1⟩ := free_2 H6.out.1
        obtain ⟨x0, x1⟩ := cells_2 H6.out.2.1
        go_wp2
        refine bodyPost_ret (results_ct Tryd.results26 _ (LV.agg (set_2 H6.out.1) Tryd.underlying41 rfl list_info)) rfl ?_
        exact ⟨by rw [NO.out]; rfl, below_2 H6.out.2.2 (Nat.le_refl _)⟩
      have f4I : decide ((s : Int) > (8208 : Int)) = false := decide_eq_false (by omega)
      have f4J : decide ((8208 : Int) < (s : Int)) = false := decide_eq_false (by omega)
      have f4N : decide (8208 < s) = false := decide_eq_false h4
      by_cases h5 : n < al
      · have f5I : decide ((al : Int) > (n : Int)) = true := decide_eq_true (by omega)
        have f5J : decide ((n : Int) < (al : Int)) = true := decide_eq_true (by omega)
        have f5N : decide (n < al) = true := decide_eq_true h5
        have NO := Lib.hid (NOC.out (by have := HTT.out; omega))
        clear h5
        go_wp2_with fail
        refine (N20.out _ H5.out.2.2).mono ?_
        rintro e W6 ⟨rfl, hb6⟩
        have H6 := Lib.hid (And.intro (has_below H5.out.1 hb6) (And.intro (has_below H5.out.2.1 hb6) (kp_call H5.out.2.2 hb6)))
        clear hb6
        obtain ⟨z0, z1⟩ := cells_2 H6.out.1
        obtain ⟨y0, y1⟩ := free_2 H6.out.1
        obtain ⟨x0, x1⟩ := cells_2 H6.out.2.1
        go_wp2
        refine bodyPost_ret (results_ct Tryd.results26 _ (LV.agg (set_2 H6.out.1) Tryd.underlying41 rfl list_info)) rfl ?_
        exact ⟨by rw [NO.out]; rfl, below_2 H6.out.2.2 (Nat.le_refl _)⟩
      have f5I : decide ((al : Int) > (n : Int)) = false := decide_eq_false (by omega)
      have f5J : decide ((n : Int) < (al : Int)) = false := decide_eq_false (by omega)
      have f5N : decide (n < al) = false := decide_eq_false h5
      by_cases h6 : al < t
      · have f6I : decide ((al : Int) < (t : Int)) = true := decide_eq_true (by omega)
        have f6N : decide (al < t) = true := decide_eq_true h6
        have NO := Lib.hid (NOC.out (by have := HTT.out; omega))
        clear h6
        go_wp2_with fail
        refine (N20.out _ H5.out.2.2).mono ?_
        rintro e W6 ⟨rfl, hb6⟩
        have H6 := Lib.hid (And.intro (has_below H5.out.1 hb6) (And.intro (has_below H5.out.2.1 hb6) (kp_call H5.out.2.2 hb6)))
        clear hb6
        obtain ⟨z0, z1⟩ := cells_2 H6.out.1
        obtain ⟨y0, y1⟩ := free_2 H6.out.1
        obtain ⟨x0, x1⟩ := cells_2 H6.out.2.1
        go_wp2
        refine bodyPost_ret (results_ct Tryd.results26 _ (LV.agg (set_2 H6.out.1) Tryd.underlying41 rfl list_info)) rfl ?_
        exact ⟨by rw [NO.out]; rfl, below_2 H6.out.2.2 (Nat.le_refl _)⟩
      have f6I : decide ((al : Int) < (t : Int)) = false := decide_eq_false (by omega)
      have f6N : decide (al < t) = false := decide_eq_false h6
      have f5w : IntKind.i64.wrap ((al : Int) - 28) = (u : Int) := by have := HU.out; have := HTT.out; rw [show (al : Int) - 28 = (u : Int) by omega]; exact IntWalk.i64_in _ (by omega)
      by_cases h7 : r ≠ 0
      · have f7I : ((r : Int) != 0) = true := bne_iff_ne.2 (by omega)
        have f7N : (r != 0) = true := bne_iff_ne.2 h7
        have NO := Lib.hid (NOC.out (by have := HTT.out; omega))
        clear h7
        go_wp2_with fail
        refine (N20.out _ H5.out.2.2).mono ?_
        rintro e W6 ⟨rfl, hb6⟩
        have H6 := Lib.hid (And.intro (has_below H5.out.1 hb6) (And.intro (has_below H5.out.2.1 hb6) (kp_call H5.out.2.2 hb6)))
        clear hb6
        obtain ⟨z0, z1⟩ := cells_2 H6.out.1
        obtain ⟨y0, y1⟩ := free_2 H6.out.1
        obtain ⟨x0, x1⟩ := cells_2 H6.out.2.1
        go_wp2
        refine bodyPost_ret (results_ct Tryd.results26 _ (LV.agg (set_2 H6.out.1) Tryd.underlying41 rfl list_info)) rfl ?_
        exact ⟨by rw [NO.out]; rfl, below_2 H6.out.2.2 (Nat.le_refl _)⟩
      have f7I : ((r : Int) != 0) = false := by rw [show r = 0 by omega]; rfl
      have f7N : (r != 0) = false := by rw [show r = 0 by omega]; rfl
      go_wp2_with fail
      refine (N20.out _ H5.out.2.2).mono ?_
      rintro e W6 ⟨rfl, hb6⟩
      have H6 := Lib.hid (And.intro (has_below H5.out.1 hb6) (And.intro (has_below H5.out.2.1 hb6) (kp_call H5.out.2.2 hb6)))
      clear hb6
      have ht := HTT.out
      have hu0 := HU.out
      have hr0 := HRR.out
      have HM1 : Hid (∃ m, 1 ≤ m ∧ al = 28 + m * s) := by
        refine ⟨u / s, (Nat.one_le_div_iff (by omega)).2 (by omega), ?_⟩
        have h1 := Nat.div_add_mod u s
        rw [hr0, Nat.mul_comm] at h1
        omega
      obtain ⟨m, hm1, hm2⟩ := HM1.out
      have HQ : Hid (oneQ bs = if (itmsQ bs s m).all (fun y => mayL kd y.2) then some ((kd, itmsQ bs s m), al) else none) := by
        have e1 := HEQ.out
        unfold Hid oneQ
        rw [if_neg (by omega)]
        dsimp only
        rw [← e1.1, ← e1.2.1, ← e1.2.2, ← HKD.out, if_neg (by rw [hu0, hr0]; omega), show (al - 28) / s = m by rw [hm2, Nat.add_sub_cancel_left, Nat.mul_div_cancel _ (by omega)]]
      have HMM := Lib.hid (And.intro hm1 (And.intro hm2 (And.intro (show 17 ≤ s by omega) (And.intro (show s ≤ 8208 by omega) (show al ≤ n by omega)))))
      have HC : Hid (∀ i, i < m → 28 + i * s + s ≤ al) := fun i hi => by
        have h1 : (i + 1) * s ≤ m * s := Nat.mul_le_mul_right _ hi
        rw [Nat.succ_mul] at h1
        have := HMM.out.2.1
        omega
      clear HM1 hm1 hm2 h1 h2 h3 h4 h5 h6 h7 N20 NOK NOC hr0 hu0 ht
      go_wp2
      have K9 : Hid ((W6.alloc (.cells #[.int .u8 (kd.toNat : Int), .slice none 0 0] 41)).heap[W6.heap.size]? = some (.cells #[.int .u8 (kd.toNat : Int), .slice none 0 0] 41) ∧ Below W6.heap.size W6 (W6.alloc (.cells #[.int .u8 (kd.toNat : Int), .slice none 0 0] 41))) := ⟨has_new W6 _, kp_alloc (Below.refl _ _) _⟩
      obtain ⟨G, hG⟩ : ∃ G, G = W6.heap.size := ⟨_, rfl⟩
      have HG := Lib.hid hG
      rw [← hG] at K9 ⊢
      clear hG
      clear f4w f5w f5m f5z f5y f5s
      clear f1m f1I f1N f2I f2N f3I f3N f4I f4J f4N f5I f5J f5N f6I f6N f7I f7N
      go_wp2
      go_loopw [10] (fun v wl => ∃ (i : Nat) (A2 : Option Addr) (c2 : Nat) (zs : List IM), v = .int .i64 ((28 + i * s : Nat) : Int) ∧ i ≤ m ∧ wl.heap[G]? = some (.cells #[.int .u8 (kd.toNat : Int), .slice A2 i c2] 41) ∧
        Hid (zs.map IM.itm = itmsQ bs s i ∧ (itmsQ bs s i).all (fun y => mayL kd y.2) = true ∧ OwnR wl (G + 1) 49 17 A2 i c2 (zs.flatMap IM.cells) ∧ Ims wl (G + 1) zs ∧ Below G W6 wl)) (fun v _ => (al - (intOf v).toNat))
      case atStart => exact ⟨0, none, 0, [], by rw [Nat.zero_mul]; rfl, Nat.zero_le _, K9.out.1, rfl, rfl, OwnR.nil _ _ _ _, Ims.nil _ _, K9.out.2⟩
      case round =>
        obtain ⟨i, A2, c2, zs, rfl, him, hk, hS⟩ := hrel
        obtain ⟨p, hp⟩ : ∃ p, p = 28 + i * s := ⟨_, rfl⟩
        rw [← hp]
        have hb6w : Below W6.heap.size W6 wr := by have := hS.2.2.2.2; rwa [HG.out] at this
        have BW := Lib.hid (kp_call H6.out.2.2 hb6w)
        have F2 := Lib.hid (And.intro (has_below H6.out.1 hb6w) (And.intro (has_below H6.out.2.1 hb6w) BW.out))
        have HGL : Hid (G < wr.heap.size) := block_lt hk
        rcases Nat.lt_or_ge i m with hlt | hge
        · have hpa := HC.out i hlt
          rw [← hp] at hpa
          obtain ⟨q, hq⟩ : ∃ q, q = p + s := ⟨_, rfl⟩
          obtain ⟨p16, hp16⟩ : ∃ p16, p16 = p + 16 := ⟨_, rfl⟩
          have hmm := HMM.out
          have l1 : decide ((p : Int) < (al : Int)) = true := decide_eq_true (by omega)
          have l2 : decide (p < al) = true := decide_eq_true (by omega)
          have l3 : IntKind.i64.wrap ((p : Int) + (s : Int)) = (q : Int) := by rw [show (p : Int) + (s : Int) = (q : Int) by omega]; exact IntWalk.i64_in _ (by omega)
          have l4 : IntKind.i64.wrap ((p : Int) + 16) = (p16 : Int) := by rw [show (p : Int) + 16 = (p16 : Int) by omega]; exact IntWalk.i64_in _ (by omega)
          have l5 : (p16 : Int) ≤ (q : Int) := by omega
          have l6 : (q : Int) ≤ (c : Int) := by omega
          have l7 : p16 ≤ q := by omega
          have l8 : q ≤ c := by omega
          have l9 : p16 < c := by omega
          have l10 : c ≠ p16 := by omega
          have l11 : p16 ≠ c := by omega
          have RW := HR.out.below BW.out
          have RC := rb_cut RW p16 (s - 16) (by omega) (by omega)
          have hqd : q - p16 = s - 16 := by omega
          rw [← hqd] at RC
          obtain ⟨dd, hdd⟩ : ∃ dd, cut bs p16 (q - p16) = dd := ⟨_, rfl⟩
          rw [hdd] at RC
          have HDN := Lib.hid (show q - p16 ≤ 8192 by omega)
          obtain ⟨x0, x1, x2, x3, x4, x5, x6, x7, x8, x9, x10, x11, x12, x13, x14, x15, hx⟩ := list16 (l := cut bs p 16) (cut_len _ _ _ (by omega))
          have DAT : Hid (itmQ bs p s = ([x0, x1, x2, x3, x4, x5, x6, x7, x8, x9, x10, x11, x12, x13, x14, x15], dd)) := by
            unfold Hid itmQ
            rw [hx, ← hdd, hqd, hp16]
          have OB : Hid (∀ (W : World) (j : Nat), Below wr.heap.size wr W → j < 16 → ∃ x, [x0, x1, x2, x3, x4, x5, x6, x7, x8, x9, x10, x11, x12, x13, x14, x15][j]? = some x ∧ W.cell? ⟨b, off + (p + j), none⟩ = some (bv x)) := fun W j hW hj => by
            obtain ⟨b', off', x, e, hb', hx', hc'⟩ := (RW.below hW).at_ (k := p + j) (by omega)
            injection e with e
            injection e with e1 e2
            subst e1; subst e2
            refine ⟨x, ?_, hc'⟩
            rw [← hx]
            unfold cut
            rw [List.getElem?_take, if_pos hj, List.getElem?_drop]
            exact hx'
          have HX := Lib.hid (And.intro hk hS)
          have HP := Lib.hid (And.intro hp (And.intro hq (And.intro hpa hlt)))
          have HRC := Lib.hid RC
          clear hx RC RW hk hS hb6w hp hq hpa hlt him hdd hqd hmm hp16
          go_wp2_with (at_builtin; refine wpList_apn _ _ rfl rfl rfl wr.heap.size (some ⟨wr.heap.size, 0, none⟩) 0 0 [] rfl (own_nil wr) (some ⟨b, off + p16, none⟩) (q - p16) (c - p16) dd rfl (HRC.out.alloc _) (by have := HDN.out; omega) (by simp) ?_)
          intro A3 c3 W3 ho3 hg3
          have B3 : Hid (Below wr.heap.size wr W3) := ((Below.refl _ _).alloc (Nat.le_refl _) _).grown hg3 (by simp) (by intro k hk; cases hk; exact Nat.le_refl _)
          obtain ⟨dn, hdn⟩ : ∃ dn, 0 + (q - p16) = dn := ⟨_, rfl⟩
          have O3 : Hid (OwnB W3 wr.heap.size A3 dn c3 dd) := by unfold Hid; rw [← hdn]; simpa using ho3
          rw [show q - p16 = dn by omega]
          have HDN2 := Lib.hid (show dn ≤ 8192 by have := HDN.out; omega)
          clear ho3 hg3 hdn HRC HDN l4 l5 l6 l7 l8 l9 l10 l11
          go_wp2
          obtain ⟨gx, hgx⟩ : ∃ gx, gx = W3.heap.size := ⟨_, rfl⟩
          have HGX := Lib.hid hgx
          rw [← hgx]
          clear hgx
          have K4 : Hid ((W3.alloc (.cells (item0 (.slice A3 dn c3)) 49)).heap[gx]? = some (.cells (owC [x0, x1, x2, x3, x4, x5, x6, x7, x8, x9, x10, x11, x12, x13, x14, x15] 0 (.slice A3 dn c3)) 49) ∧ Below gx W3 (W3.alloc (.cells (item0 (.slice A3 dn c3)) 49))) := by
            rw [HGX.out]
            exact ⟨has_new W3 _, kp_alloc (Below.refl _ _) _⟩
          have B3X : Hid (∀ W, Below gx W3 W → Below wr.heap.size wr W) := fun W h => B3.out.trans (h.mono (by rw [HGX.out]; exact B3.out.size))
          go_loopw [12] (fun v wl => ∃ (j : Nat), v = .int .i64 (j : Int) ∧ j ≤ 16 ∧ wl.heap[gx]? = some (.cells (owC [x0, x1, x2, x3, x4, x5, x6, x7, x8, x9, x10, x11, x12, x13, x14, x15] j (.slice A3 dn c3)) 49) ∧ Hid (Below gx W3 wl)) (fun v _ => (16 - (intOf v).toNat))
          case atStart => exact ⟨0, rfl, Nat.zero_le _, K4.out.1, K4.out.2⟩
          case round =>
            obtain ⟨j, rfl, hj, hh, hbx⟩ := hrel
            rcases Nat.lt_or_ge j 16 with hlt2 | hge2
            · have l3b : decide ((j : Int) < (16 : Int)) = true := decide_eq_true (by omega)
              have l4b : decide (j < 16) = true := decide_eq_true hlt2
              have l6b : (j : Int) < 16 := by omega
              obtain ⟨x, hx1, hx2⟩ := OB.out wr j (B3X.out wr hbx) hlt2
              obtain ⟨r9, hr9⟩ : ∃ r9, r9 = p + j := ⟨_, rfl⟩
              rw [← hr9] at hx2
              have hrn : r9 < n := by
                have h1 := HP.out
                have h2 := HMM.out
                omega
              have m1 : IntKind.i64.wrap ((p : Int) + (j : Int)) = (r9 : Int) := by rw [show (p : Int) + (j : Int) = (r9 : Int) by omega]; exact IntWalk.i64_in _ (by omega)
              have m2 : (r9 : Int) < (n : Int) := by omega
              have m3 : (0 : Int) ≤ (r9 : Int) := by omega
              have xc : wr.cell? ⟨gx, j, none⟩ = some (.int .u8 0) := by
                rw [cell_of_row wr gx j _ _ _ hh]; exact ow_at _ hlt2
              have xf : wr.frozen? ⟨gx, j, none⟩ = false := Lib.frozen_of_heap hh j
              have KX := Lib.hid (And.intro hh (And.intro hbx hx1))
              have l5b : IntKind.i64.wrap ((j : Int) + 1) = ((j + 1 : Nat) : Int) := IntWalk.i64_in _ (by omega)
              clear hh hbx hx1 hr9 hj
              go_wp2
              go_roundw
              case rel => exact ⟨j + 1, rfl, hlt2, by rw [← ow_set KX.out.2.2 hlt2 rfl]; exact heap_set_at _ _ _ _ _ _ _ KX.out.1, KX.out.2.1.setCell (Nat.le_refl _) _⟩
              case measure => simp [intOf]; omega
            · obtain rfl : j = 16 := by omega
              have hh2 : wr.heap[gx]? = some (.cells #[.int .u8 (x0.toNat : Int), .int .u8 (x1.toNat : Int), .int .u8 (x2.toNat : Int), .int .u8 (x3.toNat : Int), .int .u8 (x4.toNat : Int), .int .u8 (x5.toNat : Int), .int .u8 (x6.toNat : Int), .int .u8 (x7.toNat : Int), .int .u8 (x8.toNat : Int), .int .u8 (x9.toNat : Int), .int .u8 (x10.toNat : Int), .int .u8 (x11.toNat : Int), .int .u8 (x12.toNat : Int), .int .u8 (x13.toNat : Int), .int .u8 (x14.toNat : Int), .int .u8 (x15.toNat : Int), .slice A3 dn c3] 49) := hh
              have BR := Lib.hid (B3X.out wr hbx)
              have O5 := Lib.hid (O3.out.below hbx (by rw [HGX.out]; exact Nat.le_refl _))
              have HGXL : Hid (G < gx) := by have h1 := HGL.out; have h2 := B3.out.size; have h3 := HGX.out; unfold Hid; omega
              have M := Lib.hid (may_any kd A3 dn c3 dd wr O5.out.rb O5.out.cap.1 (by have := O5.out.cap.2; unfold maxLen at this; omega) (HT.out.below' (kp_call BW.out BR.out)))
              have z16 : wr.cell? ⟨gx, 16, none⟩ = some (.slice A3 dn c3) := by rw [cell_of_row wr gx 16 _ _ _ hh2]; rfl
              have HH2 := Lib.hid hh2
              clear hh hh2 hbx hj hge2
              obtain ⟨v, hv⟩ : ∃ v, mayL kd dd = v := ⟨_, rfl⟩
              rw [hv] at M
              have HV := Lib.hid hv
              clear hv
              go_wp2_with fail
              refine M.out.mono ?_
              clear M
              rintro e W8 ⟨rfl, hb8⟩
              have B8 := Lib.hid (kp_call BR.out hb8)
              have HX8 := Lib.hid (And.intro (has_below HX.out.1 B8.out) (And.intro (has_below HH2.out hb8) (O5.out.below hb8 (Nat.le_refl _))))
              have F8 := Lib.hid (And.intro (has_below F2.out.1 B8.out) (And.intro (has_below F2.out.2.1 B8.out) (kp_call F2.out.2.2 B8.out)))
              clear hb8 z16
              cases v with
              | false =>
                have NO : Hid (oneQ bs = none) := by
                  unfold Hid
                  rw [HQ.out, itms_bad bs s m i kd HP.out.2.2.2 (by rw [← HP.out.1, DAT.out]; exact HV.out)]
                  rfl
                obtain ⟨z0, z1⟩ := cells_2 F8.out.1
                obtain ⟨y0, y1⟩ := free_2 F8.out.1
                obtain ⟨x0, x1⟩ := cells_2 F8.out.2.1
                go_wp2
                refine bodyPost_ret (results_ct Tryd.results26 _ (LV.agg (set_2 F8.out.1) Tryd.underlying41 rfl list_info)) rfl ?_
                exact ⟨by rw [NO.out]; rfl, below_2 F8.out.2.2 (Nat.le_refl _)⟩
              | true =>
                have hmax : i + 1 ≤ maxLen := by
                  have h1 := HP.out
                  have h2 := HMM.out
                  have h4 : i ≤ i * s := Nat.le_mul_of_pos_right _ (by omega)
                  unfold maxLen; omega
                have HB := Lib.hid (show G + 1 ≤ W8.heap.size by have h1 := HGL.out; have h2 := B8.out.size; omega)
                have HO5 := Lib.hid (HX.out.2.2.2.1.below B8.out (Nat.le_refl _))
                have HI5 := Lib.hid ((HX.out.2.2.2.2.1.below B8.out (Nat.le_refl _)).snoc ⟨[x0, x1, x2, x3, x4, x5, x6, x7, x8, x9, x10, x11, x12, x13, x14, x15], dd, A3, dn, c3⟩ (HX8.out.2.2.lower (by have h1 := HGL.out; exact h1)) rfl)
                have HO6 := Lib.hid (HO5.out.alloc (.cells #[.int .u8 (x0.toNat : Int), .int .u8 (x1.toNat : Int), .int .u8 (x2.toNat : Int), .int .u8 (x3.toNat : Int), .int .u8 (x4.toNat : Int), .int .u8 (x5.toNat : Int), .int .u8 (x6.toNat : Int), .int .u8 (x7.toNat : Int), .int .u8 (x8.toNat : Int), .int .u8 (x9.toNat : Int), .int .u8 (x10.toNat : Int), .int .u8 (x11.toNat : Int), .int .u8 (x12.toNat : Int), .int .u8 (x13.toNat : Int), .int .u8 (x14.toNat : Int), .int .u8 (x15.toNat : Int), .slice A3 dn c3] 49))
                have H1 : Hid (∀ u ∈ (#[.int .u8 (x0.toNat : Int), .int .u8 (x1.toNat : Int), .int .u8 (x2.toNat : Int), .int .u8 (x3.toNat : Int), .int .u8 (x4.toNat : Int), .int .u8 (x5.toNat : Int), .int .u8 (x6.toNat : Int), .int .u8 (x7.toNat : Int), .int .u8 (x8.toNat : Int), .int .u8 (x9.toNat : Int), .int .u8 (x10.toNat : Int), .int .u8 (x11.toNat : Int), .int .u8 (x12.toNat : Int), .int .u8 (x13.toNat : Int), .int .u8 (x14.toNat : Int), .int .u8 (x15.toNat : Int), .slice A3 dn c3] : Array Value).toList, u.oneCell' = true) := List.all_eq_true.1 rfl
                have BG8 : Hid (Below G W6 W8) := HX.out.2.2.2.2.2.trans (B8.out.mono (by have := HGL.out; omega))
                obtain ⟨z0, z1⟩ := cells_2 HX8.out.1
                go_wp2_with (first
                  | (refine wpList_load_row rfl _ _ rfl gx rfl _ _ _ _ HX8.out.2.1 Tryd.underlying49 rfl item_info ?_)
                  | (at_builtin; refine wpList_appL item_row _ _ rfl rfl rfl (G + 1) A2 i c2 _ rfl HO6.out W8.heap.size 1 1 #[.int .u8 (x0.toNat : Int), .int .u8 (x1.toNat : Int), .int .u8 (x2.toNat : Int), .int .u8 (x3.toNat : Int), .int .u8 (x4.toNat : Int), .int .u8 (x5.toNat : Int), .int .u8 (x6.toNat : Int), .int .u8 (x7.toNat : Int), .int .u8 (x8.toNat : Int), .int .u8 (x9.toNat : Int), .int .u8 (x10.toNat : Int), .int .u8 (x11.toNat : Int), .int .u8 (x12.toNat : Int), .int .u8 (x13.toNat : Int), .int .u8 (x14.toNat : Int), .int .u8 (x15.toNat : Int), .slice A3 dn c3] _ rfl (has_new W8 _) rfl H1.out hmax (by have h1 := HP.out; have h2 := HMM.out; have h4 : i ≤ i * s := Nat.le_mul_of_pos_right _ (by omega); omega) (by have := HB.out; simp; omega) ?_))
                intro V' c' w7 ho7 hg7
                have hne : some G ≠ blk A2 := fun e => by
                  have := (HO5.out.blk_lt e.symm).1
                  omega
                have k7 : w7.heap[G]? = some (.cells #[.int .u8 (kd.toNat : Int), .slice A2 i c2] 41) := (hg7.block _ (by have := HB.out; simp; omega) hne).trans (has_alloc HX8.out.1 _)
                have hi7 : Ims w7 (G + 1) (zs ++ [⟨[x0, x1, x2, x3, x4, x5, x6, x7, x8, x9, x10, x11, x12, x13, x14, x15], dd, A3, dn, c3⟩]) := (HI5.out.below (kp_alloc (Below.refl _ _) _) (Nat.le_refl _)).kept HO6.out (by decide) hg7
                have hb7 : Below G W6 w7 := (BG8.out.alloc (by have := HB.out; omega) _).grown hg7 (by have := HB.out; simp; omega) (fun g hg => Nat.le_trans (Nat.le_succ _) (HO6.out.blk_lt hg).1)
                have K7 := Lib.hid (And.intro k7 (And.intro ho7 (And.intro hi7 hb7)))
                clear z0 z1 hne ho7 hg7 hi7 hb7 k7 hmax
                obtain ⟨z0, z1⟩ := cells_2 K7.out.1
                obtain ⟨y0, y1⟩ := free_2 K7.out.1
                go_wp2
                go_roundw
                case rel =>
                  refine ⟨i + 1, V', c', zs ++ [⟨[x0, x1, x2, x3, x4, x5, x6, x7, x8, x9, x10, x11, x12, x13, x14, x15], dd, A3, dn, c3⟩], ?_, HP.out.2.2.2, (heap_set_at _ _ 1 _ _ _ _ K7.out.1).trans rfl, ?_, ?_, ?_, ?_, ?_⟩
                  · rw [HP.out.2.1, HP.out.1, Nat.succ_mul, Nat.add_assoc]
                  · rw [List.map_append, HX.out.2.1, itms_succ, ← HP.out.1, DAT.out]; rfl
                  · rw [itms_succ, List.all_append, HX.out.2.2.1, ← HP.out.1, DAT.out]; simp [HV.out]
                  · rw [List.flatMap_append]
                    exact OwnR.far9 K7.out.2.1 (grown_one _ _ _ _) (Nat.lt_succ_self _)
                  · exact fun z hz => ⟨OwnR.far9 (K7.out.2.2.1 z hz).1.row (grown_one _ _ _ _) (Nat.lt_succ_self _), (K7.out.2.2.1 z hz).2⟩
                  · exact K7.out.2.2.2.setCell (Nat.le_refl _) _
                case measure =>
                  have h1 := HP.out
                  have h2 := HMM.out
                  simp [intOf]; omega
        · have hie : i = m := by omega
          have hpa : al = p := by have h1 := HMM.out.2.1; rw [h1, hp, hie]
          have l1 : decide ((p : Int) < (al : Int)) = false := decide_eq_false (by omega)
          have l2 : decide (p < al) = false := decide_eq_false (by omega)
          have K := Lib.hid (And.intro hk hS)
          have HIE := Lib.hid hie
          clear hk hS hb6w hp hpa him hge hie
          obtain ⟨u0, u1⟩ := cells_2 K.out.1
          obtain ⟨z0, z1⟩ := cells_2 F2.out.1
          obtain ⟨y0, y1⟩ := free_2 F2.out.1
          go_wp2
          refine bodyPost_ret (results_ct Tryd.results26 _ (LV.agg (set_2 F2.out.1) Tryd.underlying41 rfl list_info)) rfl ?_
          refine ⟨?_, below_2 F2.out.2.2 (Nat.le_refl _)⟩
          have h1 : ItemsOwn wr (G + 1) A2 i c2 (itmsQ bs s i) := ⟨zs, K.out.2.1, K.out.2.2.2.1, K.out.2.2.2.2.1⟩
          have hgw : w.heap.size < G + 1 := by rw [HG.out]; have := block_lt H6.out.1; omega
          rw [HQ.out, ← HIE.out, if_pos K.out.2.2.1]
          dsimp only
          rw [show (itmsQ bs s i).length = i by unfold itmsQ; rw [List.length_map, List.length_range]]
          exact ⟨A2, c2, rfl, (h1.far9 (grown_2 _ _) hgw).lower (by omega)⟩
end Go.Proofs.YtfampefflkkckaaDoor
