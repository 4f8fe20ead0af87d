/-
  siglist: the row SiglistCuts (made by genSi2.py).
-/
import Derived.Test.YtfampefflkkckaaDoorSiW
namespace Go.Proofs.YtfampefflkkckaaDoor
open Go.RowKit Go
set_option linter.unusedVariables false
set_option linter.unusedSimpArgs false
set_option maxRecDepth 100000

theorem int_row : RowT 44 3 1 8 (.int .i64 0) := ⟨Tryd.underlying44, by kernel_rfl, rfl, by decide⟩
theorem u8_xorS (x b : UInt8) : bits BinOp.xor IntKind.u8 (x.toNat : Int) (b.toNat : Int) = ((x ^^^ b).toNat : Int) := by
  rw [u8_xor_nat _ _ x.toNat_lt b.toNat_lt, UInt8.toNat_xor]
theorem xor_sameS (x b : UInt8) (h : b ≠ 0) : x ^^^ b ≠ x := fun e => h (by
  have h2 : x ^^^ (x ^^^ b) = x ^^^ x := by rw [e]
  rw [← UInt8.xor_assoc, UInt8.xor_self, UInt8.zero_xor] at h2
  exact h2)
theorem IsLs.own {w : World} {A : Option Addr} {n c N1 N2 N3 : Nat} {ls : List LM} (h : IsLs w A n c N1 N2 N3 ls) : ∀ x ∈ ls.map LM.lst, Own16 x := fun x hx y hy => by
  obtain ⟨z, hz, rfl⟩ := List.mem_map.1 hx
  obtain ⟨zs, h1⟩ := h.z.each z hz
  have hy : y ∈ z.is := hy
  rw [← h1.e] at hy
  obtain ⟨v, hv, rfl⟩ := List.mem_map.1 hy
  exact (h1.i.each v hv).o
/-- What is read of few bytes is few. -/
theorem body_len16 (is : List Itm) (h : ∀ y ∈ is, y.1.length = 16) : is.length ≤ (bodyL is).length := by
  induction is with
  | nil => exact Nat.zero_le _
  | cons y is ih =>
    have e : bodyL (y :: is) = y.1 ++ y.2 ++ bodyL is := rfl
    have h1 := h y (List.mem_cons_self ..)
    have h2 := ih (fun z hz => h z (List.mem_cons_of_mem _ hz))
    rw [e, List.length_append, List.length_append, List.length_cons]
    omega
theorem allB_mem {l : List Lst} {x : Lst} (h : x ∈ l) : (lstB x).length ≤ (allB l).length := by
  induction l with
  | nil => cases h
  | cons y l ih =>
    rw [allB_cons, List.length_append]
    rcases List.mem_cons.1 h with h | h
    · subst h; omega
    · have := ih h; omega
theorem allB_many (l : List Lst) (h : Right l) : l.length ≤ (allB l).length := by
  induction l with
  | nil => exact Nat.zero_le _
  | cons y l ih =>
    rw [allB_cons, List.length_append, List.length_cons]
    have h1 := h y (List.mem_cons_self ..)
    have h2 := lst_pos h1.1 h1.2
    have h3 := ih (fun z hz => h z (List.mem_cons_of_mem _ hz))
    omega
theorem read_lim {b : List UInt8} {l : List Lst} (h : readQ b = some l) (hb : b.length ≤ 65536) : (∀ x ∈ l, x.2.length ≤ 100000) ∧ l.length ≤ 100000 := by
  obtain ⟨h1, h2⟩ := write_read h
  refine ⟨fun x hx => ?_, ?_⟩
  · have h3 := allB_mem hx
    have h4 := body_len16 x.2 (h1 x hx).2
    have h5 : (bodyL x.2).length ≤ (lstB x).length := by
      unfold lstB
      simp only [List.length_append]
      omega
    rw [h2] at h3
    omega
  · have := allB_many l h1
    rw [h2] at this
    omega
theorem ListsR.take {w : World} {A : Option Addr} {n c : Nat} {l : List Lst} (h : ListsR w A n c l) (m : Nat) (hm : m ≤ c) (hmn : m ≤ n) : ListsR w A m c (l.take m) := by
  obtain ⟨ls, h1, h2, h3⟩ := h
  refine ⟨ls.take m, by rw [List.map_take, h1], ⟨by rw [List.length_take, h2.len]; omega, ?_, fun z hz => h2.each z (List.mem_of_mem_take hz)⟩, hm, h3.2⟩
  intro hne
  have hs : (ls.take m).flatMap LM.cells = (ls.flatMap LM.cells).take (m * 2) := by
    have e := List.take_append_drop m ls
    have e1 : (ls.take m).flatMap LM.cells ++ (ls.drop m).flatMap LM.cells = ls.flatMap LM.cells := by rw [← List.flatMap_append, e]
    have e2 := flat_len LM.cells 2 (ls.take m) (fun z _ => rfl)
    rw [List.length_take, h2.len, Nat.min_eq_left hmn] at e2
    rw [← e1, ← e2, List.take_left]
  rw [hs] at hne ⊢
  obtain ⟨b, off, e, hb, hc⟩ := h2.row (fun e => hne (by rw [e, List.take_nil]))
  exact ⟨b, off, e, hb, fun j u hu => hc j u (by
    rw [List.getElem?_take] at hu
    split at hu
    · exact hu
    · cases hu)⟩
theorem Lim.take {l : List Lst} {m d : Nat} (h : Lim l m d) (k : Nat) : Lim (l.take k) m d := ⟨fun x hx => h.m x (List.mem_of_mem_take hx), fun x hx => h.d x (List.mem_of_mem_take hx)⟩
theorem all_take {l : List Lst} (h : l.all rightL = true) (k : Nat) : (l.take k).all rightL = true := List.all_eq_true.2 fun x hx => List.all_eq_true.1 h x (List.mem_of_mem_take hx)
theorem end_le (l : List Lst) (k : Nat) : endL l k ≤ (allB l).length := by
  unfold endL
  have e := congrArg (fun l => (allB l).length) (List.take_append_drop k l)
  simp only [allB_append, List.length_append] at e
  omega
/-- How far each beginning goes, in a row. -/
def endsV (l : List Lst) (i : Nat) : List Value := (List.range (i + 1)).map fun j => .int .i64 (endL l j : Nat)
theorem endsV_succ (l : List Lst) (i : Nat) : endsV l (i + 1) = endsV l i ++ [.int .i64 (endL l (i + 1) : Nat)] := by
  unfold endsV
  rw [List.range_succ, List.map_append]
  rfl
theorem endsV_at (l : List Lst) (i j : Nat) (hj : j ≤ i) : (endsV l i)[j]? = some (.int .i64 (endL l j : Nat)) := by
  unfold endsV
  rw [List.getElem?_map, List.getElem?_range (by omega)]
  rfl
/-- Which beginning ends at a place: its number, or -1. -/
def WholeIs (l : List Lst) (k j : Nat) (z : Int) : Prop := (z = -1 ∧ ∀ i, i < j → endL l i ≠ k) ∨ ∃ i, i < j ∧ endL l i = k ∧ z = (i : Int)
theorem whole_step_no {l : List Lst} {k j : Nat} {z : Int} (h : WholeIs l k j z) (hj : endL l j ≠ k) : WholeIs l k (j + 1) z := by
  rcases h with ⟨h1, h2⟩ | ⟨i, h1, h2⟩
  · exact .inl ⟨h1, fun i hi => by
      rcases Nat.lt_or_ge i j with h | h
      · exact h2 i h
      · obtain rfl : i = j := by omega
        exact hj⟩
  · exact .inr ⟨i, by omega, h2⟩
theorem whole_step_yes {l : List Lst} {k j : Nat} (hj : endL l j = k) : WholeIs l k (j + 1) (j : Int) := .inr ⟨j, by omega, hj, rfl⟩
set_option maxHeartbeats 32000000 in
theorem cuts_row (A : Option Addr) (n c : Nat) (ls : List LM) (a1 a2 a3 : Int) (w : World) (B0 : IsLs w A n c 1048576 41943040 33554432 ls) (w1 : (Lit.int .u16 a1).wf = true) (w2 : (Lit.int .u16 a2).wf = true) (w3 : (Lit.int .u8 a3).wf = true) (hT : Sizes w) :
    Calls Tryd.prog 7 #[.slice A n c, .int .u16 a1, .int .u16 a2, .int .u8 a3] w fun e w' => e = .returned (.bool true) ∧ Below w.heap.size w w' := by
  obtain ⟨by_, rfl⟩ : ∃ kd : UInt8, a3 = (kd.toNat : Int) := ⟨UInt8.ofNat a3.toNat, (byte_of_wf w3).symm⟩
  obtain ⟨cut_, rfl⟩ : ∃ q : Nat, a1 = (q : Int) := ⟨a1.toNat, by have := bounds_u16 w1; omega⟩
  obtain ⟨at_, rfl⟩ : ∃ q : Nat, a2 = (q : Int) := ⟨a2.toNat, by have := bounds_u16 w2; omega⟩
  have hcut : cut_ < 65536 := by have := bounds_u16 w1; omega
  have hat : at_ < 65536 := by have := bounds_u16 w2; omega
  have HT := Lib.hid hT
  have WK : Hid (∀ W, Below w.heap.size w W → Calls Tryd.prog 9 #[] W fun e w' => e = .returned (.bool true) ∧ Below W.heap.size W w') := fun W h => works18_any W (hT.below' h)
  have LM0 := B0.lim
  have LR := Lib.hid B0.r
  have LEN := Lib.hid (show (ls.map LM.lst).length = n by rw [List.length_map]; exact B0.z.len)
  have OWN := Lib.hid B0.own
  have VA := Lib.hid (vast_r (W := w) B0.r (fun x hx => Nat.le_trans (LM0.m x hx) (by omega)) (Below.refl _ _))
  have HC := Lib.hid (And.intro B0.le B0.max)
  have hcm := B0.max
  have hnc := B0.le
  clear w1 w2 w3 B0 hT
  generalize ls.map LM.lst = l at *
  go_enter Tryd.func7, Tryd.ntmps7
  go_wp2_with fail
  refine VA.out.mono ?_
  clear VA
  rintro e W1 ⟨v, rfl, hv, hb1⟩
  have HB1 := Lib.hid hb1
  clear hb1
  cases v with
  | true =>
    clear hv
    go_wp2_with fail
    refine (WK.out _ (HB1.out)).mono ?_
    rintro e Wz ⟨rfl, hbz⟩
    have HBZ := Lib.hid (kp_call (HB1.out) hbz)
    clear hbz
    go_wp2
    go_ret
    exact ⟨rfl, HBZ.out⟩
  | false =>
    have hvv := hv rfl
    clear hv
    have hn := hvv.1
    have LT : Hid (Lim l 2000000 1000000000) := ⟨fun x hx => Nat.le_trans (LM0.m x hx) (by omega), fun x hx y hy => Nat.le_trans (hvv.2 x hx y hy) (by omega)⟩
    clear hvv LM0
    have TW : Hid (∀ m W, m ≤ n → Below w.heap.size w W → Calls Tryd.prog 18 #[.slice A m c] W (TwinsPost W m (l.take m))) := fun m W hm h => twins_r (LR.out.take m (by omega) hm) ((LT.out.more (by omega) (by omega)).take m) (by omega) h
    go_wp2_with fail
    refine (TW.out n W1 (Nat.le_refl _) HB1.out).mono ?_
    rintro e W2 ⟨A2, c2, rfl, hl2, hb2⟩
    rw [List.take_of_length_le (by rw [LEN.out]; exact Nat.le_refl _)] at hl2
    have HB2 := Lib.hid (kp_call HB1.out hb2)
    have L2 := Lib.hid hl2.r
    clear hl2 hb2
    have WR := Lib.hid (write_r L2.out (LT.out) (by omega) (Below.refl _ _) (HT.out.below' HB2.out))
    go_wp2_with fail
    refine WR.out.mono ?_
    clear WR
    rintro e W3 ⟨hw, hb3⟩
    have HB3 := Lib.hid (kp_call HB2.out hb3)
    clear hb3
    by_cases hall : l.all rightL = true
    rotate_left
    · rw [if_neg hall] at hw
      subst hw
      clear hall
      go_wp2_with fail
      refine (WK.out _ (HB3.out)).mono ?_
      rintro e Wz ⟨rfl, hbz⟩
      have HBZ := Lib.hid (kp_call (HB3.out) hbz)
      clear hbz
      go_wp2
      go_ret
      exact ⟨rfl, HBZ.out⟩
    rw [if_pos hall] at hw
    by_cases hbig : 65536 < (allB l).length
    · rw [if_pos hbig] at hw
      subst hw
      clear hall hbig
      go_wp2_with fail
      refine (WK.out _ (HB3.out)).mono ?_
      rintro e Wz ⟨rfl, hbz⟩
      have HBZ := Lib.hid (kp_call (HB3.out) hbz)
      clear hbz
      go_wp2
      go_ret
      exact ⟨rfl, HBZ.out⟩
    rw [if_neg hbig] at hw
    obtain ⟨A3, bn, c3, rfl, ho3⟩ := hw
    have hbn : bn ≤ 65536 := by rw [← ho3.len]; omega
    have hcap := ho3.cap
    have RI : Hid (Right l) := fun x hx => ⟨List.all_eq_true.1 hall x hx, OWN.out x hx⟩
    have O3 := Lib.hid ho3
    have HALL := Lib.hid hall
    have HLB := Lib.hid ho3.len
    have HC3 := Lib.hid hcap
    clear hall hbig ho3
    go_wp2
    go_loopw [11, 12] (fun u v wl => ∃ (i : Nat) (A4 : Option Addr) (c4 : Nat), u = .slice A4 (i + 1) c4 ∧ v = .int .i64 (i : Int) ∧ i ≤ n ∧ Hid (OwnR wl W3.heap.size 3 1 A4 (i + 1) c4 (endsV l i) ∧ Below W3.heap.size W3 wl)) (fun _ v _ => (n - (intOf v).toNat))
    case atStart => exact ⟨0, some ⟨W3.heap.size, 0, none⟩, 1, rfl, rfl, Nat.zero_le _, OwnR.lit W3 3 1 #[.int .i64 0] 1 (by unfold maxLen; omega) rfl, kp_alloc (Below.refl _ _) _⟩
    case round =>
      obtain ⟨i, A4, c4, rfl, rfl, hi, hS⟩ := hrel
      rcases Nat.lt_or_ge i n with hlt | hge
      · have l1 : decide ((i : Int) < (n : Int)) = true := decide_eq_true (by omega)
        have l2 : decide (i < n) = true := decide_eq_true hlt
        obtain ⟨i1, hi1⟩ : ∃ i1, i1 = i + 1 := ⟨_, rfl⟩
        have l5 : IntKind.i64.wrap ((i : Int) + 1) = (i1 : Int) := by rw [show (i : Int) + 1 = (i1 : Int) by omega]; exact IntWalk.i64_in _ (by omega)
        have l6 : (i1 : Int) ≤ (c : Int) := by omega
        have l7 : i1 ≤ c := by omega
        have hi1n : i1 ≤ n := by omega
        have HI1 := Lib.hid hi1
        have BW := Lib.hid (kp_call HB3.out hS.2)
        have HO := Lib.hid hS.1
        have HBS := Lib.hid hS.2
        clear hS hi1
        go_wp2_with fail
        refine (TW.out i1 wr hi1n BW.out).mono ?_
        rintro e W5 ⟨A5, c5, rfl, hl5, hb5⟩
        have L5 := Lib.hid hl5.r
        have B5 := Lib.hid (kp_call HBS.out hb5)
        have O5 := Lib.hid (HO.out.below hb5 (Nat.le_refl _))
        have WR := Lib.hid (write_r L5.out (LT.out.take i1) (by omega) (Below.refl _ _) (HT.out.below' (kp_call BW.out hb5)))
        clear hl5 hb5
        have WR2 : Hid (Calls Tryd.prog 19 #[.slice A5 i1 c5] W5 fun e w' => (∃ A c, e = .returned (.tuple #[.slice A (endL l i1) c, .int .i64 0])) ∧ Below W5.heap.size W5 w') := WR.out.mono fun e w' h => by
          obtain ⟨h1, h2⟩ := h
          have hle := end_le l i1
          rw [if_pos (all_take HALL.out i1), if_neg (by show ¬ 65536 < endL l i1; have := HLB.out; omega)] at h1
          obtain ⟨A, m, c, h3, h4⟩ := h1
          obtain rfl : endL l i1 = m := h4.len
          exact ⟨⟨A, c, h3⟩, h2⟩
        clear WR
        obtain ⟨q, hq⟩ : ∃ q, q = endL l i1 := ⟨_, rfl⟩
        rw [← hq] at WR2
        have HQ := Lib.hid hq
        clear hq
        go_wp2_with fail
        refine WR2.out.mono ?_
        rintro e W6 ⟨⟨A6, c6, rfl⟩, hb6⟩
        have B6 := Lib.hid (kp_call B5.out hb6)
        have HO6 := Lib.hid ((O5.out.below hb6 (Nat.le_refl _)).alloc (.cells #[.int .i64 (q : Int)] 3))
        have H1 : Hid (∀ u ∈ (#[.int .i64 (q : Int)] : Array Value).toList, u.oneCell' = true) := List.all_eq_true.1 rfl
        have hmax : i + 1 + 1 ≤ maxLen := by unfold maxLen; omega
        clear hb6 WR2 O5 L5
        go_wp2_with (at_builtin; refine wpList_appL int_row _ _ rfl rfl rfl W3.heap.size A4 (i + 1) c4 _ rfl HO6.out W6.heap.size 1 1 #[.int .i64 (q : Int)] _ rfl (has_new W6 _) rfl H1.out hmax (by omega) (by have := B6.out.size; simp; omega) ?_)
        intro V' c7 w7 ho7 hg7
        have hb7 : Below W3.heap.size W3 w7 := (kp_alloc B6.out _).grown hg7 (by have := B6.out.size; simp; omega) (fun g hg => (HO6.out.blk_lt hg).1)
        have K7 := Lib.hid (And.intro ho7 hb7)
        clear ho7 hg7 hb7 hmax
        go_wp2
        go_roundw
        case rel => exact ⟨i + 1, V', c7, rfl, by rw [HI1.out], hlt, by have h9 := K7.out.1; rw [HQ.out, HI1.out] at h9; rw [endsV_succ]; exact h9, K7.out.2⟩
        case measure => simp [intOf, HI1.out]; omega
      · have hin : i = n := by omega
        have l1 : decide ((i : Int) < (n : Int)) = false := decide_eq_false (by omega)
        have l2 : decide (i < n) = false := decide_eq_false (by omega)
        obtain ⟨s1, hs1⟩ : ∃ s1, s1 = bn + 1 := ⟨_, rfl⟩
        obtain ⟨k, hk⟩ : ∃ k, k = cut_ % s1 := ⟨_, rfl⟩
        have g1 : IntKind.i64.wrap (cut_ : Int) = (cut_ : Int) := IntWalk.i64_in _ (by omega)
        have g2 : IntKind.i64.wrap ((bn : Int) + 1) = (s1 : Int) := by rw [show (bn : Int) + 1 = (s1 : Int) by omega]; exact IntWalk.i64_in _ (by omega)
        have g3 : (cut_ : Int).tmod (s1 : Int) = (k : Int) := by rw [hk]; exact (Int.ofNat_tmod cut_ s1).symm
        have g4 : ((s1 : Int) == 0) = false := beq_eq_false_iff_ne.2 (by omega)
        have g5 : (s1 == 0) = false := beq_eq_false_iff_ne.2 (by omega)
        have g6 : s1 ≠ 0 := by omega
        have hkb : k ≤ bn := by have := Nat.mod_lt cut_ (show 0 < s1 by omega); omega
        have HO := Lib.hid hS.1
        have BW := Lib.hid hS.2
        obtain ⟨j1, hj1⟩ : ∃ j1, j1 = i + 1 := ⟨_, rfl⟩
        have HJ := Lib.hid (show j1 = n + 1 by omega)
        rw [← hj1] at HO ⊢
        have hj1n : j1 ≤ 101 := by omega
        rw [hin] at HO
        have g7 : IntKind.i64.wrap (k : Int) = (k : Int) := IntWalk.i64_in _ (by omega)
        clear hS hge hi hs1 hk hj1 hin
        go_wp2
        clear g1 g2 g3 g4 g5 g6 l1 l2
        go_loopw [16, 17] (fun u v wl => ∃ (j : Nat) (z : Int), u = .int .i64 z ∧ v = .int .i64 (j : Int) ∧ j ≤ j1 ∧ Hid (WholeIs l k j z) ∧ Below wr.heap.size wr wl) (fun _ v _ => (j1 - (intOf v).toNat))
        case atStart => exact ⟨0, -1, rfl, rfl, Nat.zero_le _, .inl ⟨rfl, fun i hi => absurd hi (by omega)⟩, Below.refl _ _⟩
        case round =>
          obtain ⟨j, z, rfl, rfl, hj, hz, hb⟩ := hrel
          rcases Nat.lt_or_ge j j1 with hlt2 | hge2
          · have l3 : decide ((j : Int) < (j1 : Int)) = true := decide_eq_true (by omega)
            have l4 : decide (j < j1) = true := decide_eq_true hlt2
            have hjn : j ≤ n := by have := HJ.out; omega
            obtain ⟨b9, off9, hA9, hb9, hc9⟩ := (HO.out.below hb (Nat.le_refl _)).reads.at_ (endsV_at l n j hjn)
            subst hA9
            obtain ⟨q, hq⟩ : ∃ q, q = endL l j := ⟨_, rfl⟩
            rw [← hq] at hc9
            have HB := Lib.hid hb
            have HZ := Lib.hid hz
            have l5 : IntKind.i64.wrap ((j : Int) + 1) = ((j + 1 : Nat) : Int) := IntWalk.i64_in _ (by omega)
            clear hb hz hb9 hj
            by_cases hqk : q = k
            · have m1 : ((q : Int) == (k : Int)) = true := by rw [hqk]; simp
              have m2 : (q == k) = true := by rw [hqk]; simp
              have HN : Hid (WholeIs l k (j + 1) (j : Int)) := whole_step_yes (by rw [← hq]; exact hqk)
              clear hqk hq
              go_wp2
              go_roundw
              case rel => exact ⟨j + 1, (j : Int), rfl, rfl, hlt2, HN.out, HB.out⟩
              case measure => simp [intOf]; omega
            · have m1 : ((q : Int) == (k : Int)) = false := beq_eq_false_iff_ne.2 (by omega)
              have m2 : (q == k) = false := beq_eq_false_iff_ne.2 hqk
              have HN : Hid (WholeIs l k (j + 1) z) := whole_step_no HZ.out (by rw [← hq]; exact hqk)
              clear hqk hq
              go_wp2
              go_roundw
              case rel => exact ⟨j + 1, z, rfl, rfl, hlt2, HN.out, HB.out⟩
              case measure => simp [intOf]; omega
          · have hjj : j = j1 := by omega
            have l3 : decide ((j : Int) < (j1 : Int)) = false := decide_eq_false (by omega)
            have l4 : decide (j < j1) = false := decide_eq_false (by omega)
            have HZ : Hid (WholeIs l k (n + 1) z) := by have := HJ.out; rw [← this, ← hjj]; exact hz
            have BWW := Lib.hid (kp_call (kp_call HB3.out BW.out) hb)
            have B3W := Lib.hid (kp_call BW.out hb)
            have m1 : (k : Int) ≤ (c3 : Int) := by have := HC3.out.1; omega
            have m2 : k ≤ c3 := by have := HC3.out.1; omega
            have TK : Hid (∀ W, Below W3.heap.size W3 W → Calls Tryd.prog 10 #[.slice A3 k c3] W (Fresh W ((allB l).take k))) := fun W h => twin_any A3 k c3 _ W (rb_take3 (O3.out.rb.below h) k hkb) (by omega)
            clear hz hb hge2 hj hjj
            go_wp2_with fail
            refine (TK.out wr B3W.out).mono ?_
            clear TK
            rintro e Wa ⟨Aa, na, ca, rfl, hoa, hba⟩
            obtain rfl : k = na := by have := hoa.len; rw [List.length_take, HLB.out] at this; omega
            have OA := Lib.hid (And.intro hoa.rb hoa.cap)
            have BA := Lib.hid (kp_call BWW.out hba)
            have B3A := Lib.hid (kp_call B3W.out hba)
            clear hoa hba
            have RD := read_any Aa k ca ((allB l).take k) Wa OA.out.1 (HT.out.below' BA.out) OA.out.2.1 (by omega) (by have := OA.out.2.2; unfold maxLen at this; omega)
            rcases HZ.out with ⟨hz1, hz2⟩ | ⟨i9, hi9, he9, hz9⟩
            · have HNO : readQ ((allB l).take k) = none := by
                cases h9 : readQ ((allB l).take k) with
                | none => rfl
                | some m9 =>
                  obtain ⟨i8, h1, h2, _⟩ := read_take l RI.out (by have := HLB.out; omega) k (by have := HLB.out; omega) m9 h9
                  exact absurd h2 (hz2 i8 (by have := LEN.out; omega))
              have RD2 : Hid (Calls Tryd.prog 11 #[.slice Aa k ca] Wa fun e w' => e = .returned (.tuple #[.slice none 0 0, .int .i64 9]) ∧ Below Wa.heap.size Wa w') := RD.mono fun e w' h => by
                obtain ⟨h1, h2⟩ := h
                rw [HNO] at h1
                exact ⟨h1, h2⟩
              subst hz1
              clear RD HNO hz2 HZ
              go_wp2_with fail
              refine RD2.out.mono ?_
              clear RD2
              rintro e Wb ⟨rfl, hbb⟩
              have BB := Lib.hid (kp_call BA.out hbb)
              have B3B := Lib.hid (kp_call B3A.out hbb)
              clear hbb
              rcases Nat.eq_zero_or_pos n with hn0 | hn0
              · have q1 : decide ((n : Int) > (0 : Int)) = false := decide_eq_false (by omega)
                have q2 : decide ((0 : Int) < (n : Int)) = false := decide_eq_false (by omega)
                have q3 : decide (0 < n) = false := decide_eq_false (by omega)
                clear hn0
                go_wp2_with fail
                refine (WK.out _ (BB.out)).mono ?_
                rintro e Wz ⟨rfl, hbz⟩
                have HBZ := Lib.hid (kp_call (BB.out) hbz)
                clear hbz
                go_wp2
                go_ret
                exact ⟨rfl, HBZ.out⟩
              have q1 : decide ((n : Int) > (0 : Int)) = true := decide_eq_true (by omega)
              have q2 : decide ((0 : Int) < (n : Int)) = true := decide_eq_true (by omega)
              have q3 : decide (0 < n) = true := decide_eq_true (by omega)
              have hb28 : 28 ≤ bn := by
                have h1 := end_less l RI.out 0 1 (by omega) (by have := LEN.out; omega)
                have h2 : l[0]? = some (l[0]'(by have := LEN.out; omega)) := List.getElem?_eq_getElem _
                have h3 := end_succ l 0 _ h2
                have h4 := RI.out _ (List.mem_of_getElem? h2)
                have h5 := lst_pos h4.1 h4.2
                have h6 := end_le l 1
                have h7 := HLB.out
                have h8 : endL l (0 + 1) = endL l 1 := rfl
                omega
              have q4 : decide ((bn : Int) < (28 : Int)) = false := decide_eq_false (by omega)
              have q5 : decide (bn < 28) = false := decide_eq_false (by omega)
              by_cases hby : by_ = 0
              · have q6 : ((by_.toNat : Int) != 0) = false := by rw [hby]; rfl
                have q7 : (by_.toNat != 0) = false := by rw [hby]; rfl
                have q8 : ((by_.toNat : Int) == 0) = true := by rw [hby]; rfl
                clear hby
                go_wp2_with fail
                refine (WK.out _ (BB.out)).mono ?_
                rintro e Wz ⟨rfl, hbz⟩
                have HBZ := Lib.hid (kp_call (BB.out) hbz)
                clear hbz
                go_wp2
                go_ret
                exact ⟨rfl, HBZ.out⟩
              have hbz : by_.toNat ≠ 0 := fun h => hby (UInt8.toNat_inj.1 h)
              have q6 : ((by_.toNat : Int) != 0) = true := bne_iff_ne.2 (by omega)
              have q7 : (by_.toNat != 0) = true := bne_iff_ne.2 hbz
              have q8 : ((by_.toNat : Int) == 0) = false := beq_eq_false_iff_ne.2 (by omega)
              have TB : Hid (∀ W, Below W3.heap.size W3 W → Calls Tryd.prog 10 #[.slice A3 bn c3] W (Fresh W (allB l))) := fun W h => twin_any A3 bn c3 _ W (O3.out.rb.below h) (by omega)
              go_wp2_with fail
              refine (TB.out _ B3B.out).mono ?_
              clear TB
              rintro e We ⟨Ae, ne, ce, rfl, hoe, hbe⟩
              obtain rfl : bn = ne := HLB.out.symm.trans hoe.len
              have BE := Lib.hid (kp_call BB.out hbe)
              clear hbe
              obtain ⟨p, hp⟩ : ∃ p, p = at_ % 28 := ⟨_, rfl⟩
              have hp28 : p < 28 := by rw [hp]; exact Nat.mod_lt _ (by omega)
              have r1 : IntKind.i64.wrap (at_ : Int) = (at_ : Int) := IntWalk.i64_in _ (by omega)
              have r2 : (at_ : Int).tmod 28 = (p : Int) := by rw [hp]; exact (Int.ofNat_tmod at_ 28).symm
              have r3 : (p : Int) < (bn : Int) := by omega
              have r4 : p < bn := by omega
              have r5 : (0 : Int) ≤ (p : Int) := by omega
              have r6 : IntKind.i64.wrap (p : Int) = (p : Int) := IntWalk.i64_in _ (by omega)
              have hcape := hoe.cap
              obtain ⟨ge, rfl, hge1, hge2⟩ := hoe.shape (by omega)
              have hlb := HLB.out
              obtain ⟨x, hx⟩ : ∃ x, (allB l)[p]? = some x := ⟨_, List.getElem?_eq_getElem (by omega)⟩
              have xc := hoe.cellAt p x hx
              have xf := hoe.free p
              have hxq : bits BinOp.xor IntKind.u8 (x.toNat : Int) (by_.toNat : Int) = ((x ^^^ by_).toNat : Int) := u8_xorS x by_
              obtain ⟨y, hy⟩ : ∃ y, y = x ^^^ by_ := ⟨_, rfl⟩
              rw [← hy] at hxq
              have hst := hoe.stored p y
              have HNE : Hid ((allB l).set p y ≠ allB l) := fun e => by
                have h1 : ((allB l).set p y)[p]? = some y := by rw [List.getElem?_set_self (by omega)]
                rw [e, hx] at h1
                injection h1 with h1
                rw [hy] at h1
                exact xor_sameS x by_ hby h1.symm
              have HST := Lib.hid hst
              have hbx : Below w.heap.size w (We.setCell ⟨ge, p, none⟩ (.int .u8 (y.toNat : Int))) := BE.out.setCell (Nat.le_trans BB.out.size hge1) _
              have HBX := Lib.hid hbx
              have HCE := Lib.hid hcape
              clear hp hst hbx hoe hx hy hby hbz
              go_wp2_with fail
              refine calls_nm fun Wf hwf => ?_
              have BF : Hid (Below w.heap.size w Wf) := by unfold Hid; rw [← hwf]; exact HBX.out
              have OF : Hid (RB Wf (some ⟨ge, 0, none⟩) bn ((allB l).set p y)) := by unfold Hid; rw [← hwf]; exact HST.out.rb
              clear hwf HBX HST xc xf
              have RD3 := read_any (some ⟨ge, 0, none⟩) bn ce ((allB l).set p y) Wf OF.out (HT.out.below' BF.out) HCE.out.1 (by omega) (by have := HCE.out.2; unfold maxLen at this; omega)
              cases hr : readQ ((allB l).set p y) with
              | none =>
                have RD4 : Hid (Calls Tryd.prog 11 #[.slice (some ⟨ge, 0, none⟩) bn ce] Wf fun e w' => e = .returned (.tuple #[.slice none 0 0, .int .i64 9]) ∧ Below Wf.heap.size Wf w') := RD3.mono fun e w' h => by
                  obtain ⟨h1, h2⟩ := h
                  rw [hr] at h1
                  exact ⟨h1, h2⟩
                clear RD3 hr
                refine RD4.out.mono ?_
                clear RD4
                rintro e Wg ⟨rfl, hbg⟩
                have BG := Lib.hid (kp_call BF.out hbg)
                clear hbg
                go_wp2_with fail
                refine (WK.out _ (BG.out)).mono ?_
                rintro e Wz ⟨rfl, hbz⟩
                have HBZ := Lib.hid (kp_call (BG.out) hbz)
                clear hbz
                go_wp2
                go_ret
                exact ⟨rfl, HBZ.out⟩
              | some m9 =>
                have RD4 : Hid (Calls Tryd.prog 11 #[.slice (some ⟨ge, 0, none⟩) bn ce] Wf fun e w' => (∃ A c, e = .returned (.tuple #[.slice A m9.length c, .int .i64 0]) ∧ ListsOwn w' Wf.heap.size A m9.length c m9) ∧ Below Wf.heap.size Wf w') := RD3.mono fun e w' h => by
                  obtain ⟨h1, h2⟩ := h
                  rw [hr] at h1
                  exact ⟨h1, h2⟩
                have HDIF : Hid (decide (m9 = l) = false) := decide_eq_false (read_turned hr (read_write l RI.out (by have := HLB.out; omega)) HNE.out)
                have HLIM : Hid ((∀ x ∈ m9, x.2.length ≤ 100000) ∧ m9.length ≤ 100000) := read_lim hr (by rw [List.length_set]; omega)
                obtain ⟨mn, hmn⟩ : ∃ mn, m9.length = mn := ⟨_, rfl⟩
                rw [hmn] at RD4 HLIM
                clear RD3 hr hmn
                refine RD4.out.mono ?_
                clear RD4
                rintro e Wg ⟨⟨Ag, cg, rfl, hlg⟩, hbg⟩
                have BG := Lib.hid (kp_call BF.out hbg)
                have SM := Lib.hid (same_r hlg.r LR.out (fun x hx => Nat.le_trans (HLIM.out.1 x hx) (by omega)) HLIM.out.2 (Below.refl _ _) BG.out)
                rw [HDIF.out] at SM
                clear hbg hlg
                go_wp2_with fail
                refine SM.out.mono ?_
                clear SM
                rintro e Wh ⟨rfl, hbh⟩
                have BH := Lib.hid (kp_call BG.out hbh)
                clear hbh
                go_wp2_with fail
                refine (WK.out _ (BH.out)).mono ?_
                rintro e Wz ⟨rfl, hbz⟩
                have HBZ := Lib.hid (kp_call (BH.out) hbz)
                clear hbz
                go_wp2
                go_ret
                exact ⟨rfl, HBZ.out⟩
            · subst hz9
              have HYES : readQ ((allB l).take k) = some (l.take i9) := by rw [← he9]; exact read_end l RI.out (by have := HLB.out; omega) i9
              have hi9n : i9 ≤ n := by omega
              have hlt9 : (l.take i9).length = i9 := by rw [List.length_take, LEN.out]; omega
              have RD2 : Hid (Calls Tryd.prog 11 #[.slice Aa k ca] Wa fun e w' => (∃ A c, e = .returned (.tuple #[.slice A i9 c, .int .i64 0]) ∧ ListsOwn w' Wa.heap.size A i9 c (l.take i9)) ∧ Below Wa.heap.size Wa w') := RD.mono fun e w' h => by
                obtain ⟨h1, h2⟩ := h
                rw [HYES] at h1
                dsimp only at h1
                rw [hlt9] at h1
                exact ⟨h1, h2⟩
              have p1 : decide ((i9 : Int) ≥ (0 : Int)) = true := decide_eq_true (by omega)
              have p2 : decide ((0 : Int) ≤ (i9 : Int)) = true := decide_eq_true (by omega)
              have p3 : (i9 : Int) ≤ (c : Int) := by omega
              have p4 : i9 ≤ c := by omega
              have p5 : (0 : Int) ≤ (i9 : Int) := by omega
              clear RD HYES hlt9 HZ he9 hi9
              go_wp2_with fail
              refine RD2.out.mono ?_
              clear RD2
              rintro e Wb ⟨⟨Ab, cb, rfl, hlb⟩, hbb⟩
              have BB := Lib.hid (kp_call BA.out hbb)
              have B3B := Lib.hid (kp_call B3A.out hbb)
              have LB := Lib.hid hlb.r
              clear hbb hlb
              have SM := Lib.hid (same_r LB.out (LR.out.take i9 p4 hi9n) (fun x hx => Nat.le_trans (LT.out.m x (List.mem_of_mem_take hx)) (by omega)) (by omega) (Below.refl _ _) BB.out)
              rw [show decide (l.take i9 = l.take i9) = true from decide_eq_true rfl] at SM
              go_wp2_with fail
              refine SM.out.mono ?_
              clear SM
              rintro e Wc ⟨rfl, hbc⟩
              have BB2 := Lib.hid (kp_call BB.out hbc)
              have B3B2 := Lib.hid (kp_call B3B.out hbc)
              clear BB B3B hbc
              have BB := Lib.hid BB2.out
              have B3B := Lib.hid B3B2.out
              clear BB2 B3B2
              obtain ⟨Wd, hwd⟩ : ∃ Wd, Wd = Wc := ⟨_, rfl⟩
              subst hwd
              rcases Nat.eq_zero_or_pos n with hn0 | hn0
              · have q1 : decide ((n : Int) > (0 : Int)) = false := decide_eq_false (by omega)
                have q2 : decide ((0 : Int) < (n : Int)) = false := decide_eq_false (by omega)
                have q3 : decide (0 < n) = false := decide_eq_false (by omega)
                clear hn0
                go_wp2_with fail
                refine (WK.out _ (BB.out)).mono ?_
                rintro e Wz ⟨rfl, hbz⟩
                have HBZ := Lib.hid (kp_call (BB.out) hbz)
                clear hbz
                go_wp2
                go_ret
                exact ⟨rfl, HBZ.out⟩
              have q1 : decide ((n : Int) > (0 : Int)) = true := decide_eq_true (by omega)
              have q2 : decide ((0 : Int) < (n : Int)) = true := decide_eq_true (by omega)
              have q3 : decide (0 < n) = true := decide_eq_true (by omega)
              have hb28 : 28 ≤ bn := by
                have h1 := end_less l RI.out 0 1 (by omega) (by have := LEN.out; omega)
                have h2 : l[0]? = some (l[0]'(by have := LEN.out; omega)) := List.getElem?_eq_getElem _
                have h3 := end_succ l 0 _ h2
                have h4 := RI.out _ (List.mem_of_getElem? h2)
                have h5 := lst_pos h4.1 h4.2
                have h6 := end_le l 1
                have h7 := HLB.out
                have h8 : endL l (0 + 1) = endL l 1 := rfl
                omega
              have q4 : decide ((bn : Int) < (28 : Int)) = false := decide_eq_false (by omega)
              have q5 : decide (bn < 28) = false := decide_eq_false (by omega)
              by_cases hby : by_ = 0
              · have q6 : ((by_.toNat : Int) != 0) = false := by rw [hby]; rfl
                have q7 : (by_.toNat != 0) = false := by rw [hby]; rfl
                have q8 : ((by_.toNat : Int) == 0) = true := by rw [hby]; rfl
                clear hby
                go_wp2_with fail
                refine (WK.out _ (BB.out)).mono ?_
                rintro e Wz ⟨rfl, hbz⟩
                have HBZ := Lib.hid (kp_call (BB.out) hbz)
                clear hbz
                go_wp2
                go_ret
                exact ⟨rfl, HBZ.out⟩
              have hbz : by_.toNat ≠ 0 := fun h => hby (UInt8.toNat_inj.1 h)
              have q6 : ((by_.toNat : Int) != 0) = true := bne_iff_ne.2 (by omega)
              have q7 : (by_.toNat != 0) = true := bne_iff_ne.2 hbz
              have q8 : ((by_.toNat : Int) == 0) = false := beq_eq_false_iff_ne.2 (by omega)
              have TB : Hid (∀ W, Below W3.heap.size W3 W → Calls Tryd.prog 10 #[.slice A3 bn c3] W (Fresh W (allB l))) := fun W h => twin_any A3 bn c3 _ W (O3.out.rb.below h) (by omega)
              go_wp2_with fail
              refine (TB.out _ B3B.out).mono ?_
              clear TB
              rintro e We ⟨Ae, ne, ce, rfl, hoe, hbe⟩
              obtain rfl : bn = ne := HLB.out.symm.trans hoe.len
              have BE := Lib.hid (kp_call BB.out hbe)
              clear hbe
              obtain ⟨p, hp⟩ : ∃ p, p = at_ % 28 := ⟨_, rfl⟩
              have hp28 : p < 28 := by rw [hp]; exact Nat.mod_lt _ (by omega)
              have r1 : IntKind.i64.wrap (at_ : Int) = (at_ : Int) := IntWalk.i64_in _ (by omega)
              have r2 : (at_ : Int).tmod 28 = (p : Int) := by rw [hp]; exact (Int.ofNat_tmod at_ 28).symm
              have r3 : (p : Int) < (bn : Int) := by omega
              have r4 : p < bn := by omega
              have r5 : (0 : Int) ≤ (p : Int) := by omega
              have r6 : IntKind.i64.wrap (p : Int) = (p : Int) := IntWalk.i64_in _ (by omega)
              have hcape := hoe.cap
              obtain ⟨ge, rfl, hge1, hge2⟩ := hoe.shape (by omega)
              have hlb := HLB.out
              obtain ⟨x, hx⟩ : ∃ x, (allB l)[p]? = some x := ⟨_, List.getElem?_eq_getElem (by omega)⟩
              have xc := hoe.cellAt p x hx
              have xf := hoe.free p
              have hxq : bits BinOp.xor IntKind.u8 (x.toNat : Int) (by_.toNat : Int) = ((x ^^^ by_).toNat : Int) := u8_xorS x by_
              obtain ⟨y, hy⟩ : ∃ y, y = x ^^^ by_ := ⟨_, rfl⟩
              rw [← hy] at hxq
              have hst := hoe.stored p y
              have HNE : Hid ((allB l).set p y ≠ allB l) := fun e => by
                have h1 : ((allB l).set p y)[p]? = some y := by rw [List.getElem?_set_self (by omega)]
                rw [e, hx] at h1
                injection h1 with h1
                rw [hy] at h1
                exact xor_sameS x by_ hby h1.symm
              have HST := Lib.hid hst
              have hbx : Below w.heap.size w (We.setCell ⟨ge, p, none⟩ (.int .u8 (y.toNat : Int))) := BE.out.setCell (Nat.le_trans BB.out.size hge1) _
              have HBX := Lib.hid hbx
              have HCE := Lib.hid hcape
              clear hp hst hbx hoe hx hy hby hbz
              go_wp2_with fail
              refine calls_nm fun Wf hwf => ?_
              have BF : Hid (Below w.heap.size w Wf) := by unfold Hid; rw [← hwf]; exact HBX.out
              have OF : Hid (RB Wf (some ⟨ge, 0, none⟩) bn ((allB l).set p y)) := by unfold Hid; rw [← hwf]; exact HST.out.rb
              clear hwf HBX HST xc xf
              have RD3 := read_any (some ⟨ge, 0, none⟩) bn ce ((allB l).set p y) Wf OF.out (HT.out.below' BF.out) HCE.out.1 (by omega) (by have := HCE.out.2; unfold maxLen at this; omega)
              cases hr : readQ ((allB l).set p y) with
              | none =>
                have RD4 : Hid (Calls Tryd.prog 11 #[.slice (some ⟨ge, 0, none⟩) bn ce] Wf fun e w' => e = .returned (.tuple #[.slice none 0 0, .int .i64 9]) ∧ Below Wf.heap.size Wf w') := RD3.mono fun e w' h => by
                  obtain ⟨h1, h2⟩ := h
                  rw [hr] at h1
                  exact ⟨h1, h2⟩
                clear RD3 hr
                refine RD4.out.mono ?_
                clear RD4
                rintro e Wg ⟨rfl, hbg⟩
                have BG := Lib.hid (kp_call BF.out hbg)
                clear hbg
                go_wp2_with fail
                refine (WK.out _ (BG.out)).mono ?_
                rintro e Wz ⟨rfl, hbz⟩
                have HBZ := Lib.hid (kp_call (BG.out) hbz)
                clear hbz
                go_wp2
                go_ret
                exact ⟨rfl, HBZ.out⟩
              | some m9 =>
                have RD4 : Hid (Calls Tryd.prog 11 #[.slice (some ⟨ge, 0, none⟩) bn ce] Wf fun e w' => (∃ A c, e = .returned (.tuple #[.slice A m9.length c, .int .i64 0]) ∧ ListsOwn w' Wf.heap.size A m9.length c m9) ∧ Below Wf.heap.size Wf w') := RD3.mono fun e w' h => by
                  obtain ⟨h1, h2⟩ := h
                  rw [hr] at h1
                  exact ⟨h1, h2⟩
                have HDIF : Hid (decide (m9 = l) = false) := decide_eq_false (read_turned hr (read_write l RI.out (by have := HLB.out; omega)) HNE.out)
                have HLIM : Hid ((∀ x ∈ m9, x.2.length ≤ 100000) ∧ m9.length ≤ 100000) := read_lim hr (by rw [List.length_set]; omega)
                obtain ⟨mn, hmn⟩ : ∃ mn, m9.length = mn := ⟨_, rfl⟩
                rw [hmn] at RD4 HLIM
                clear RD3 hr hmn
                refine RD4.out.mono ?_
                clear RD4
                rintro e Wg ⟨⟨Ag, cg, rfl, hlg⟩, hbg⟩
                have BG := Lib.hid (kp_call BF.out hbg)
                have SM := Lib.hid (same_r hlg.r LR.out (fun x hx => Nat.le_trans (HLIM.out.1 x hx) (by omega)) HLIM.out.2 (Below.refl _ _) BG.out)
                rw [HDIF.out] at SM
                clear hbg hlg
                go_wp2_with fail
                refine SM.out.mono ?_
                clear SM
                rintro e Wh ⟨rfl, hbh⟩
                have BH := Lib.hid (kp_call BG.out hbh)
                clear hbh
                go_wp2_with fail
                refine (WK.out _ (BH.out)).mono ?_
                rintro e Wz ⟨rfl, hbz⟩
                have HBZ := Lib.hid (kp_call (BH.out) hbz)
                clear hbz
                go_wp2
                go_ret
                exact ⟨rfl, HBZ.out⟩
end Go.Proofs.YtfampefflkkckaaDoor
