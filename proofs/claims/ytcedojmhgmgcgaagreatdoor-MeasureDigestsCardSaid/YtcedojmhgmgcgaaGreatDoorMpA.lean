/-
  pe: the document's reading: a number, several numbers, a text.
-/
import Derived.Test.YtcedojmhgmgcgaaGreatDoorMp3
import Derived.Test.YtcedojmhgmgcgaaGreatDoorMp6
import Derived.Test.YtcedojmhgmgcgaaGreatDoorUp
import Derived.Test.YtcedojmhgmgcgaaGreatDoorMp1
import Derived.Test.YtcedojmhgmgcgaaGreatDoorMp5
import Derived.Test.YtcedojmhgmgcgaaGreatDoorMp5
import Derived.Test.YtcedojmhgmgcgaaGreatDoorStep
import Derived.Deep.RegionHeld3
import Derived.Test.YtcedojmhgmgcgaaGreatDoorMp2
namespace Go.Proofs.YtcedojmhgmgcgaaGreatDoor
open Go.RowKit Go
set_option linter.unusedVariables false
set_option linter.unusedSimpArgs false
set_option maxRecDepth 100000
set_option maxHeartbeats 2000000 in
theorem dnum_any (A : Option Addr) (n c : Nat) (bs : List UInt8) (ai ki : Int) (a k : Nat) (w : World) (hR : RB w A n bs) (hnc : n ≤ c) (hcc : c ≤ 9223372036854775807) (hn : n ≤ 16777216) (hai : ai = (a : Int)) (hki : ki = (k : Int)) (hk : k = 2 ∨ k = 4) (ha : a ≤ 1099511627776) :
    Calls Tryz.prog 42 #[.slice A n c, .int .i64 ai, .int .i64 ki] w fun e w' => e = .returned (.tuple #[.int .i64 (numQ bs a k : Nat), .bool (inQ bs a k)]) ∧ Below w.heap.size w w' := by
  subst hai
  subst hki
  have hl := hR.1
  have hz : isSz k = true := by rcases hk with rfl | rfl <;> rfl
  have hlt := numQ_lt bs a k
  unfold numQ inQ at *
  by_cases hin : a + k ≤ bs.length
  · rw [if_pos hin] at hlt ⊢
    rw [decide_eq_true hin]
    have C := Lib.hid (refGet_ok A n c bs a k w hR hnc hcc hz (by omega))
    have hx : leN (cut bs a k) < 4294967296 := Nat.lt_of_lt_of_le hlt (by rcases hk with rfl | rfl <;> decide)
    obtain ⟨x, hxx⟩ : ∃ x, leN (cut bs a k) = x := ⟨_, rfl⟩
    rw [hxx] at C hx ⊢
    have e1 : IntKind.i64.wrap (x : Int) = (x : Int) := IntWalk.i64_in _ (by omega)
    clear hxx hlt hz hR hk
    go_enter Tryz.func42, Tryz.ntmps42
    go_wp2_with fail
    (with_reducible refine C.out.mono ?_)
    rintro e w' ⟨rfl, hb⟩
    have HB := Lib.hid hb
    clear hb C
    go_wp2_with fail
    go_ret2
    exact ⟨rfl, HB.out⟩
  · rw [if_neg hin]
    rw [decide_eq_false hin]
    have C := Lib.hid (refGet_not A n c bs (a : Nat) (k : Nat) w hR hnc hcc (by omega) (by omega) (by omega) (by omega) (by omega) (.inr (by simp [inB]; omega)))
    clear hlt hz hR hk
    go_enter Tryz.func42, Tryz.ntmps42
    go_wp2_with fail
    (with_reducible refine C.out.mono ?_)
    rintro e w' ⟨rfl, hb⟩
    have HB := Lib.hid hb
    clear hb C
    go_wp2_with fail
    go_ret2
    exact ⟨rfl, HB.out⟩
set_option maxHeartbeats 2000000 in
theorem dbeg_any (A : Option Addr) (n c : Nat) (bs : List UInt8) (ai : Int) (a : Nat) (s : ByteArray) (T : List UInt8) (hT : s.toList = T) (hs : s.size = T.length) (hT1 : 1 ≤ T.length) (hT2 : T.length ≤ 4) (w : World) (hR : RB w A n bs) (hnc : n ≤ c) (hcc : c ≤ 9223372036854775807) (hn : n ≤ 16777216) (hai : ai = (a : Int)) (ha : a ≤ 1099511627776) :
    Calls Tryz.prog 43 #[.slice A n c, .int .i64 ai, .string s] w fun e w' => e = .returned (.bool (cut bs a T.length == T)) ∧ Below w.heap.size w w' := by
  subst hai
  have hl := hR.1
  by_cases hin : a + T.length ≤ n
  · have C := Lib.hid (refCut_ok A n c bs a s.size w hR hnc hcc (by omega) (by omega))
    rw [hs] at C
    obtain ⟨l, hll⟩ : ∃ l, cut bs a T.length = l := ⟨_, rfl⟩
    obtain ⟨m, hm⟩ : ∃ m, T.length = m := ⟨_, rfl⟩
    rw [hm] at C hs hll hin hT1 hT2 ⊢
    rw [hll] at C ⊢
    clear hR hl hll
    go_enter Tryz.func43, Tryz.ntmps43
    go_wp2_with fail
    (with_reducible refine C.out.mono ?_)
    rintro e w' ⟨X, m2, c2, rfl, ho, hb⟩
    have hlen := ho.len
    have HB := Lib.hid hb
    have E1 := run_strOf w' _ X l c2 ho.reads
    have t1 := strOf_toList l
    rw [hlen] at E1
    clear ho hb hlen C
    go_wp2_with fail
    go_ret
    exact ⟨rfl, HB.out⟩
  · have C := Lib.hid (refCut_not A n c a s.size w (by omega) (by omega) (by omega) (by omega) (by omega) (by simp [inB]; omega))
    have hne : (cut bs a T.length == T) = false := by
      rw [beq_eq_false_iff_ne]
      intro e
      have := congrArg List.length e
      unfold cut at this
      rw [List.length_take, List.length_drop] at this
      omega
    rw [hne]
    rw [hs] at C
    obtain ⟨m, hm⟩ : ∃ m, T.length = m := ⟨_, rfl⟩
    rw [hm] at C hs hin hT1 hT2
    clear hR hl hne
    go_enter Tryz.func43, Tryz.ntmps43
    go_wp2_with fail
    (with_reducible refine C.out.mono ?_)
    rintro e w' ⟨rfl, rfl⟩
    go_wp2_with fail
    go_ret
    exact ⟨rfl, Below.refl _ _⟩
/-- Pairs of numbers in memory. -/
def pairCells (x : Nat × Nat) : List Value := [.int .i64 (x.1 : Nat), .int .i64 (x.2 : Nat)]
theorem pair_at : ∀ (L : List (Nat × Nat)) (j : Nat) (x : Nat × Nat), L[j]? = some x → (L.flatMap pairCells)[j * 2]? = some (.int .i64 (x.1 : Nat)) ∧ (L.flatMap pairCells)[j * 2 + 1]? = some (.int .i64 (x.2 : Nat))
  | [], j, x, h => by cases h
  | y :: r, 0, x, h => by injection h with h; subst h; exact ⟨rfl, rfl⟩
  | y :: r, j + 1, x, h => by
    obtain ⟨h1, h2⟩ := pair_at r j x h
    rw [List.flatMap_cons]
    refine ⟨?_, ?_⟩
    · rw [show (j + 1) * 2 = j * 2 + 2 by omega, List.getElem?_append_right (by simp [pairCells])]
      simpa [pairCells] using h1
    · rw [show (j + 1) * 2 + 1 = j * 2 + 1 + 2 by omega, List.getElem?_append_right (by simp [pairCells])]
      simpa [pairCells] using h2
def allIn (bs : List UInt8) (L : List (Nat × Nat)) : Bool := L.all fun x => inQ bs x.1 x.2
def numV (bs : List UInt8) (x : Nat × Nat) : Value := .int .i64 (numQ bs x.1 x.2 : Nat)
def NumsPost (w : World) (bs : List UInt8) (L : List (Nat × Nat)) (e : Ending) (w' : World) : Prop :=
  (∃ V m cV, e = .returned (.tuple #[.slice V m cV, .bool (allIn bs L)]) ∧ (allIn bs L = true → m = L.length ∧ OwnR w' w.heap.size 3 1 V m cV (L.map (numV bs)))) ∧ Below w.heap.size w w'
theorem int_rowP : RowT 42 3 1 8 (.int .i64 0) := ⟨Tryz.underlying42, by kernel_rfl, rfl, by decide⟩
set_option maxHeartbeats 4000000 in
theorem dnums_any (A : Option Addr) (n c : Nat) (bs : List UInt8) (B : Option Addr) (k kc : Nat) (L : List (Nat × Nat)) (w : World) (hR : RB w A n bs) (hnc : n ≤ c) (hcc : c ≤ 9223372036854775807) (hn : n ≤ 16777216)
    (hL : ReadR w B (L.flatMap pairCells)) (hk : L.length = k) (hk2 : k ≤ 10) (hl : ∀ x ∈ L, x.1 ≤ 1099511627776 ∧ (x.2 = 2 ∨ x.2 = 4)) :
    Calls Tryz.prog 44 #[.slice A n c, .slice B k kc] w (NumsPost w bs L) := by
  have HL := Lib.hid (And.intro hL (And.intro hk hl))
  have HR := Lib.hid hR
  clear hR hL hl
  go_enter Tryz.func44, Tryz.ntmps44
  go_wp2_with (fail)
  go_loopw [6, 7, 8, 9] (fun vo vi v8 v9 wl => ∃ (i cV : Nat) (V : Option Addr), vo = .slice V i cV ∧ vi = .int .i64 (i : Int) ∧ i ≤ k ∧ Hid (OwnR wl w.heap.size 3 1 V i cV ((L.take i).map (numV bs)) ∧ Below w.heap.size w wl ∧ allIn bs (L.take i) = true)) (fun _ vi _ _ _ => k - (intOf vi).toNat)
  case atStart => exact ⟨0, 0, none, rfl, rfl, Nat.zero_le _, OwnR.nil _ _ _ _, Below.refl _ _, rfl⟩
  case round =>
    obtain ⟨i, cV, V, rfl, rfl, hi, HK⟩ := hrel
    by_cases hlt : i < k
    · have i1 : decide ((i : Int) < (k : Int)) = true := by simp; omega
      have i2 : (i : Int) < (k : Int) := by omega
      have e3 : IntKind.i64.wrap ((i : Int) + 1) = (i : Int) + 1 := IntWalk.i64_in _ (by omega)
      obtain ⟨x, hx⟩ : ∃ x, L[i]? = some x := ⟨_, List.getElem?_eq_getElem (by have := HL.out.2.1; omega)⟩
      obtain ⟨hx1, hx2⟩ := HL.out.2.2 x (List.mem_of_getElem? hx)
      obtain ⟨p0, p1⟩ := pair_at L i x hx
      have hrd := HL.out.1.below HK.out.2.1 (Nat.le_refl _)
      obtain ⟨b, off, hB, _, k0⟩ := hrd.at_ p0
      obtain ⟨b', off', hB', _, k1⟩ := hrd.at_ p1
      subst hB
      obtain ⟨rfl, rfl⟩ : b' = b ∧ off' = off := by injection hB' with e; injection e with e1 e2; exact ⟨e1.symm, e2.symm⟩
      have k1' : wr.cell? ⟨b', off' + i * 2 + 1, none⟩ = some (.int .i64 (x.2 : Nat)) := k1
      have C := Lib.hid (fun y : Up wr => dnum_any A n c bs x.1 x.2 x.1 x.2 y.w ((HR.out.below HK.out.2.1).below y.b) hnc hcc hn rfl rfl hx2 hx1)
      have K0 : ∀ y : Up wr, y.w.cell? ⟨b', off' + i * 2, none⟩ = some (.int .i64 (x.1 : Nat)) := Up.cell k0
      have K1 : ∀ y : Up wr, y.w.cell? ⟨b', off' + i * 2 + 1, none⟩ = some (.int .i64 (x.2 : Nat)) := Up.cell k1'
      have htk : L.take (i + 1) = L.take i ++ [x] := by rw [List.take_add_one, hx]; rfl
      have HT := Lib.hid (And.intro htk hx)
      clear hrd hB' p0 p1 k1 k0 k1' hx1 hx2 htk hx
      go_upto_region 5 with (fail)
      refine wp_region_up (by kernel_rfl) (by kernel_rfl) ?_
      repeat (go_big_quiet_step (first | (go_at_call 42; with_reducible exact Up.calls (C.out _))))
      refine wpQuiet_nil ?_
      rintro _ ⟨y9, rfl⟩
      have hb1 := y9.b
      generalize y9.w = W1 at hb1
      clear C K0 K1
      have HK1 : Hid (OwnR W1 w.heap.size 3 1 V i cV ((L.take i).map (numV bs)) ∧ Below w.heap.size w W1 ∧ allIn bs (L.take i) = true) := ⟨HK.out.1.below hb1 (Nat.le_refl _), kp_call HK.out.2.1 hb1, HK.out.2.2⟩
      clear hb1 HK
      cases hq : inQ bs x.1 x.2 with
      | false =>
        have hall : allIn bs L = false := by
          unfold allIn
          rw [← Bool.not_eq_true]
          intro h
          have := List.all_eq_true.1 h x (List.mem_of_getElem? HT.out.2)
          rw [hq] at this; cases this
        have HALL := Lib.hid hall
        clear hall hq
        go_wp2_with (fail)
        go_ret2
        exact ⟨⟨none, 0, 0, by rw [HALL.out]; rfl, fun h => by rw [HALL.out] at h; cases h⟩, HK1.out.2.1⟩
      | true =>
        have hv : (L.take (i + 1)).map (numV bs) = (L.take i).map (numV bs) ++ [numV bs x] := by rw [HT.out.1, List.map_append]; rfl
        have ha : allIn bs (L.take (i + 1)) = true := by
          unfold allIn at *
          rw [HT.out.1, List.all_append, HK1.out.2.2]
          simp [hq]
        have HV := Lib.hid (And.intro hv ha)
        have hwz : w.heap.size ≤ W1.heap.size := HK1.out.2.1.size
        clear hv ha hq HT
        go_wp2_with (at_builtin; refine wpList_appL int_rowP _ _ rfl rfl rfl w.heap.size V i cV _ rfl (HK1.out.1.alloc _) _ 1 1 #[numV bs x] (0, 0) rfl (has_new _ _) rfl (by intro u hu; simp at hu; subst hu; rfl) (by unfold maxLen; omega) (by omega) (by simp; omega) ?_)
        intro V' c' w4 ho4 hg4
        have hb4 : Below w.heap.size w w4 := (kp_alloc HK1.out.2.1 _).grown hg4 (by simp; omega) (fun q hq => (HK1.out.1.blk_lt hq).1)
        have HN : Hid (OwnR w4 w.heap.size 3 1 V' (i + 1) c' ((L.take (i + 1)).map (numV bs)) ∧ Below w.heap.size w w4 ∧ allIn bs (L.take (i + 1)) = true) := ⟨by rw [HV.out.1, List.map_take]; exact ho4, hb4, HV.out.2⟩
        clear ho4 hg4 hb4 HK1 HV
        go_wp2_with (fail)
        go_roundw
        case rel => exact ⟨i + 1, c', V', rfl, by go_num, by omega, HN⟩
        case measure => simp [intOf]; omega
    · have i1 : decide ((i : Int) < (k : Int)) = false := by simp; omega
      obtain rfl : i = k := by omega
      go_wp2_with (fail)
      go_ret2
      have h1 : L.take i = L := by rw [← HL.out.2.1, List.take_length]
      have h2 := HK.out
      rw [h1] at h2
      refine ⟨⟨V, i, cV, by rw [h2.2.2]; rfl, fun _ => ⟨HL.out.2.1.symm, h2.1⟩⟩, h2.2.1⟩
end Go.Proofs.YtcedojmhgmgcgaaGreatDoor
namespace Go.Proofs.YtcedojmhgmgcgaaGreatDoor
open Go.RowKit Go
set_option linter.unusedVariables false
set_option linter.unusedSimpArgs false
set_option maxRecDepth 100000
theorem flat_set : ∀ (L : List (Nat × Nat)) (j : Nat) (y : Nat × Nat), j < L.length → ((L.flatMap secCells).set (j * 2) (.int .u32 (y.1 : Nat))).set (j * 2 + 1) (.int .u32 (y.2 : Nat)) = (L.set j y).flatMap secCells
  | [], j, y, h => absurd h (Nat.not_lt_zero _)
  | x :: r, 0, y, h => rfl
  | x :: r, j + 1, y, h => by
    have ih := flat_set r j y (by simpa using h)
    rw [List.set_cons_succ, List.flatMap_cons, List.flatMap_cons, ← ih]
    have e1 : (j + 1) * 2 = j * 2 + 2 := by omega
    rw [e1]
    rfl
theorem flat_len (L : List (Nat × Nat)) : (L.flatMap secCells).length = L.length * 2 := sec_len L
/-- x stands at place k of what stood there ahead. -/
def putAt (P : List (Nat × Nat)) (x : Nat × Nat) (k : Nat) : List (Nat × Nat) := P.take k ++ x :: P.drop k
theorem putAt_len (P : List (Nat × Nat)) (x : Nat × Nat) (k : Nat) (h : k ≤ P.length) : (putAt P x k).length = P.length + 1 := by
  unfold putAt
  rw [List.length_append, List.length_take, List.length_cons, List.length_drop]; omega
theorem putAt_end (P : List (Nat × Nat)) (x : Nat × Nat) : putAt P x P.length = P ++ [x] := by
  unfold putAt
  rw [List.take_length, List.drop_length]
theorem putAt_get (P : List (Nat × Nat)) (x y : Nat × Nat) (k : Nat) (hk : P[k]? = some y) : (putAt P x (k + 1))[k]? = some y := by
  have hl : k < P.length := by
    rcases Nat.lt_or_ge k P.length with h | h
    · exact h
    · rw [List.getElem?_eq_none h] at hk; cases hk
  unfold putAt
  rw [List.getElem?_append_left (by rw [List.length_take]; omega), List.getElem?_take, if_pos (by omega), hk]
theorem putAt_down (P : List (Nat × Nat)) (x y : Nat × Nat) (k : Nat) (hk : P[k]? = some y) : ((putAt P x (k + 1)).set (k + 1) y).set k x = putAt P x k := by
  have hl : k < P.length := by
    rcases Nat.lt_or_ge k P.length with h | h
    · exact h
    · rw [List.getElem?_eq_none h] at hk; cases hk
  have h1 : P.take (k + 1) = P.take k ++ [y] := by rw [List.take_add_one, hk]; rfl
  have h2 : P.drop k = y :: P.drop (k + 1) := by
    rw [List.drop_eq_getElem_cons hl]
    rw [List.getElem?_eq_getElem hl] at hk
    injection hk with hk
    rw [hk]
  have h3 : (P.take k).length = k := by rw [List.length_take]; omega
  unfold putAt
  rw [h1, h2]
  rw [show P.take k ++ [y] ++ x :: P.drop (k + 1) = P.take k ++ (y :: x :: P.drop (k + 1)) by simp]
  rw [List.set_append_right _ _ (by omega), List.set_append_right _ _ (by omega), h3, Nat.sub_self, show k + 1 - k = 1 by omega]
  rfl
theorem putAt_perm (P : List (Nat × Nat)) (x : Nat × Nat) (k : Nat) : (putAt P x k).Perm (P ++ [x]) := by
  unfold putAt
  have h1 : (P.take k ++ x :: P.drop k).Perm (x :: (P.take k ++ P.drop k)) := List.perm_middle
  rw [List.take_append_drop] at h1
  exact h1.trans (List.perm_append_comm (l₁ := [x]) (l₂ := P))
theorem putAt_sorted (P : List (Nat × Nat)) (x : Nat × Nat) (k : Nat) (hs : P.Pairwise fun a b => a.1 ≤ b.1) (h1 : ∀ y ∈ P.drop k, x.1 < y.1) (h0 : k = 0 ∨ ∃ y, P[k - 1]? = some y ∧ y.1 ≤ x.1) : (putAt P x k).Pairwise fun a b => a.1 ≤ b.1 := by
  unfold putAt
  have hp : (P.take k ++ P.drop k).Pairwise fun a b => a.1 ≤ b.1 := by rw [List.take_append_drop]; exact hs
  rw [List.pairwise_append] at hp ⊢
  obtain ⟨p1, p2, p3⟩ := hp
  have hx : ∀ a ∈ P.take k, a.1 ≤ x.1 := by
    intro a ha
    rcases h0 with rfl | ⟨y, hy, hyx⟩
    · cases ha
    · obtain ⟨j, hj, he⟩ := List.getElem_of_mem ha
      rw [List.length_take] at hj
      have hjp : j < P.length := by omega
      have hk1 : k - 1 < P.length := by
        rcases Nat.lt_or_ge (k - 1) P.length with h | h
        · exact h
        · rw [List.getElem?_eq_none h] at hy; cases hy
      have haj : a = P[j] := by rw [← he, List.getElem_take]
      have hyk : y = P[k - 1] := by rw [List.getElem?_eq_getElem hk1] at hy; exact (Option.some.inj hy).symm
      by_cases e : j = k - 1
      · subst e
        rw [haj, ← hyk]; exact hyx
      · have := List.pairwise_iff_getElem.1 hs j (k - 1) hjp hk1 (by omega)
        rw [haj]
        rw [← hyk] at this
        omega
  refine ⟨p1, List.pairwise_cons.2 ⟨fun y hy => Nat.le_of_lt (h1 y hy), p2⟩, fun a ha b hb => ?_⟩
  rcases List.mem_cons.1 hb with rfl | hb
  · exact hx a ha
  · exact p3 a ha b hb
def RisePost (w : World) (L : List (Nat × Nat)) (e : Ending) (w' : World) : Prop :=
  ∃ (V : Option Addr) (m cV : Nat) (L' : List (Nat × Nat)), e = .returned (.slice V m cV) ∧ m = L.length ∧ L'.Perm L ∧ L'.Pairwise (fun a b => a.1 ≤ b.1) ∧ OwnR w' w.heap.size 60 2 V m cV (L'.flatMap secCells) ∧ Below w.heap.size w w'
set_option maxHeartbeats 8000000 in
theorem drise_any (A : Option Addr) (n c : Nat) (L : List (Nat × Nat)) (w : World) (hR : ReadR w A (L.flatMap secCells)) (hl : L.length = n) (hn : n ≤ 1000) :
    Calls Tryz.prog 24 #[.slice A n c] w (RisePost w L) := by
  have HR := Lib.hid (And.intro hR hl)
  clear hR hl
  go_enter Tryz.func24, Tryz.ntmps24
  go_wp2_with (fail)
  go_loopw [3, 4, 5] (fun vo vi v5 wl => ∃ (i cV : Nat) (V : Option Addr) (P : List (Nat × Nat)), vo = .slice V i cV ∧ vi = .int .i64 (i : Int) ∧ i ≤ n ∧ Hid (P.Perm (L.take i) ∧ P.Pairwise (fun a b => a.1 ≤ b.1) ∧ OwnR wl w.heap.size 60 2 V i cV (P.flatMap secCells) ∧ Below w.heap.size w wl)) (fun _ vi _ _ => n - (intOf vi).toNat)
  case atStart => exact ⟨0, 0, none, [], rfl, rfl, Nat.zero_le _, List.Perm.refl _, List.Pairwise.nil, OwnR.nil _ _ _ _, Below.refl _ _⟩
  case round =>
    obtain ⟨i, cV, V, P, rfl, rfl, hi, HK⟩ := hrel
    by_cases hlt : i < n
    · have i1 : decide ((i : Int) < (n : Int)) = true := by simp; omega
      have i1n : decide (i < n) = true := by simp; omega
      have i2 : (i : Int) < (n : Int) := by omega
      have e3 : IntKind.i64.wrap ((i : Int) + 1) = (i : Int) + 1 := IntWalk.i64_in _ (by omega)
      obtain ⟨x, hx⟩ : ∃ x, L[i]? = some x := ⟨_, List.getElem?_eq_getElem (by have := HR.out.2; omega)⟩
      obtain ⟨p0, p1⟩ := sec_at L i x hx
      have hrd := HR.out.1.below HK.out.2.2.2 (Nat.le_refl _)
      obtain ⟨b, off, hA, hbl, k0⟩ := hrd.at_ p0
      obtain ⟨b', off', hA', _, k1⟩ := hrd.at_ p1
      obtain ⟨b2, off2, hA2, hb2, _⟩ := HR.out.1.at_ p0
      subst hA
      obtain ⟨rfl, rfl⟩ : b' = b ∧ off' = off := by injection hA' with e; injection e with e1 e2; exact ⟨e1.symm, e2.symm⟩
      obtain ⟨rfl, rfl⟩ : b2 = b' ∧ off2 = off' := by injection hA2 with e; injection e with e1 e2; exact ⟨e1.symm, e2.symm⟩
      have k1' : wr.cell? ⟨b2, off2 + i * 2 + 1, none⟩ = some (.int .u32 (x.2 : Nat)) := k1
      have htk : L.take (i + 1) = L.take i ++ [x] := by rw [List.take_add_one, hx]; rfl
      have HT := Lib.hid (And.intro htk p0)
      have HT1 := Lib.hid p1
      have hpl : P.length = i := by have := HK.out.1.length_eq; rw [List.length_take, HR.out.2] at this; omega
      have HPL := Lib.hid hpl
      have HPS := Lib.hid (And.intro HK.out.1 HK.out.2.1)
      have hwz : w.heap.size ≤ wr.heap.size := HK.out.2.2.2.size
      clear hrd hA' hA2 k1 p0 p1 hx htk hpl hbl
      go_wp2_with (at_builtin; refine wpList_appL sec_row _ _ rfl rfl rfl w.heap.size V i cV _ rfl (HK.out.2.2.1.alloc _) _ 1 1 #[.int .u32 (x.1 : Nat), .int .u32 (x.2 : Nat)] (0, 0) rfl (has_new _ _) rfl (by intro u hu; simp at hu; rcases hu with rfl | rfl <;> rfl) (by unfold maxLen; omega) (by omega) (by simp; omega) ?_; intro V' c' w4 ho4 hg4; have hb4 : Below w.heap.size w w4 := (kp_alloc HK.out.2.2.2 _).grown hg4 (by simp; omega) (fun q hq => (HK.out.2.2.1.blk_lt hq).1); have hcp := ho4.cap.1; obtain ⟨g, hV', hgw, _⟩ := ho4.shape (by omega); subst hV'; have HK4 : Hid (OwnR w4 w.heap.size 60 2 (some ⟨g, 0, none⟩) (i + 1) c' ((putAt P x i).flatMap secCells) ∧ (∀ y ∈ P.drop i, x.1 < y.1) ∧ Below w.heap.size w w4) := (by refine Lib.hid ⟨?_, ?_, hb4⟩; (rw [← HPL.out, putAt_end, List.flatMap_append, HPL.out]; exact ho4); (rw [← HPL.out, List.drop_length]; intro y hy; cases hy)); have HG : Hid (w.heap.size ≤ g) := hgw; clear ho4 hg4 hb4 hcp hgw k0 k1')
      have hdn := HT1
      clear HK
      have hxb : b2 < w.heap.size := hb2
      go_loopw [5] (fun vk wl => ∃ k : Nat, vk = .int .i64 (k : Int) ∧ k ≤ i ∧ Hid (OwnR wl w.heap.size 60 2 (some ⟨g, 0, none⟩) (i + 1) c' ((putAt P x k).flatMap secCells) ∧ (∀ y ∈ P.drop k, x.1 < y.1) ∧ Below w.heap.size w wl)) (fun vk _ => (intOf vk).toNat)
      case atStart => exact ⟨i, by go_num, Nat.le_refl _, HK4⟩
      case round =>
        obtain ⟨k, rfl, hk, HI⟩ := hrel
        clear HK4
        have HDONE : Hid ((k = 0 ∨ ∃ y, P[k - 1]? = some y ∧ y.1 ≤ x.1) → ∀ q, (putAt P x k).Perm (L.take (i + 1)) ∧ (putAt P x k).Pairwise (fun a b => a.1 ≤ b.1) ∧ OwnR (wr.drewN q) w.heap.size 60 2 (some ⟨g, 0, none⟩) (i + 1) c' ((putAt P x k).flatMap secCells) ∧ Below w.heap.size w (wr.drewN q)) := by
          refine Lib.hid (fun h0 q => ⟨?_, putAt_sorted P x k HPS.out.2 HI.out.2.1 h0, HI.out.1.drewN q, kp_drewN HI.out.2.2 q⟩)
          rw [HT.out.1]
          exact (putAt_perm P x k).trans (HPS.out.1.append_right [x])
        by_cases hk0 : k = 0
        · subst hk0
          have HD := Lib.hid (HDONE.out (.inl rfl))
          clear HDONE HI
          go_upto_region 7 with (fail)
          go_quiet (fail)
          go_wp2_with (fail)
          go_roundw
          case rel => exact ⟨i + 1, c', some ⟨g, 0, none⟩, _, rfl, by go_num, by omega, HD.out _⟩
          case measure => simp [intOf]; omega
        · obtain ⟨km, hkm⟩ : ∃ km, k = km + 1 := ⟨k - 1, by omega⟩
          have e4 : IntKind.i64.wrap ((k : Int) - 1) = (km : Int) := by rw [IntWalk.i64_in _ (by omega)]; omega
          have u1 : decide ((0 : Int) < (k : Int)) = true := by simp; omega
          have u1n : decide (0 < k) = true := by simp; omega
          obtain ⟨y, hy⟩ : ∃ y, P[km]? = some y := ⟨_, List.getElem?_eq_getElem (by rw [HPL.out]; omega)⟩
          have hyk : (putAt P x k)[km]? = some y := by rw [hkm]; exact putAt_get P x y km hy
          obtain ⟨c0, c1⟩ := sec_at _ _ _ hyk
          have o0 := ownR_at HI.out.1 c0
          have o1 := ownR_at HI.out.1 c1
          have j1 : (km : Int) < ((i + 1 : Nat) : Int) := by omega
          have j1n : km < i + 1 := by omega
          have j2 : (k : Int) < ((i + 1 : Nat) : Int) := by omega
          have j2n : k < i + 1 := by omega
          have hrd := HR.out.1.below HI.out.2.2 (Nat.le_refl _)
          obtain ⟨b3, off3, hA3, _, a0⟩ := hrd.at_ HT.out.2
          obtain ⟨rfl, rfl⟩ : b2 = b3 ∧ off2 = off3 := by injection hA3 with e; injection e with e1 e2; exact ⟨e1, e2⟩
          by_cases hgt : x.1 < y.1
          · have u2 : decide ((x.1 : Int) < (y.1 : Int)) = true := by simp; omega
            have u2n : decide (x.1 < y.1) = true := by simp; omega
            have hxk : (putAt P x k)[k]? = some x := by
              unfold putAt
              have h3 : (P.take k).length = k := by rw [List.length_take, HPL.out]; omega
              rw [List.getElem?_append_right (by omega), h3, Nat.sub_self]
              rfl
            obtain ⟨d0, d1⟩ := sec_at _ _ _ hxk
            have q0 := ownR_at HI.out.1 d0
            have q1 := ownR_at HI.out.1 d1
            have f0 := HI.out.1.free (k * 2)
            have f1 := HI.out.1.free (k * 2 + 1)
            have hpk : (putAt P x k).length = i + 1 := by rw [putAt_len _ _ _ (by rw [HPL.out]; omega), HPL.out]
            have HS9 : Hid (∀ q, OwnR (((wr.drewN q).setCell ⟨g, k * 2, none⟩ (.int .u32 (y.1 : Nat))).setCell ⟨g, k * 2 + 1, none⟩ (.int .u32 (y.2 : Nat))) w.heap.size 60 2 (some ⟨g, 0, none⟩) (i + 1) c' (((putAt P x k).set k y).flatMap secCells) ∧ Below w.heap.size w (((wr.drewN q).setCell ⟨g, k * 2, none⟩ (.int .u32 (y.1 : Nat))).setCell ⟨g, k * 2 + 1, none⟩ (.int .u32 (y.2 : Nat)))) := by
              refine Lib.hid (fun q => ⟨?_, kp_set (kp_set (kp_drewN HI.out.2.2 q) HG.out) HG.out⟩)
              rw [← flat_set _ k y (by omega)]
              exact ((HI.out.1.drewN q).stored (k * 2) _).stored (k * 2 + 1) _
            have HY := Lib.hid (And.intro hy (And.intro hkm (And.intro hgt HI.out.2.1)))
            clear HDONE HI hyk hxk c0 c1 d0 d1 hrd hA3 hy hkm hgt
            go_upto_region 7 with (fail)
            go_quiet (fail)
            go_upto_region 10 with (fail)
            refine wp_nm fun W9 hW9 => ?_
            have H9 : Hid (OwnR W9 w.heap.size 60 2 (some ⟨g, 0, none⟩) (i + 1) c' (((putAt P x k).set k y).flatMap secCells) ∧ Below w.heap.size w W9) := by rw [← hW9]; exact Lib.hid (HS9.out _)
            clear hW9 HS9 o0 o1 q0 q1 f0 f1 a0
            have hyk9 : ((putAt P x k).set k y)[km]? = some y := by
              have h1 := putAt_get P x y km HY.out.1
              rw [← HY.out.2.1] at h1
              rw [List.getElem?_set, if_neg (by have := HY.out.2.1; omega), h1]
            obtain ⟨c0, c1⟩ := sec_at _ _ _ hyk9
            have o0 := ownR_at H9.out.1 c0
            have o1 := ownR_at H9.out.1 c1
            have f0 := H9.out.1.free (km * 2)
            have f1 := H9.out.1.free (km * 2 + 1)
            have hrd := HR.out.1.below H9.out.2 (Nat.le_refl _)
            obtain ⟨b4, off4, hA4, _, a0⟩ := hrd.at_ HT.out.2
            obtain ⟨b5, off5, hA5, _, a1⟩ := hrd.at_ HT1.out
            obtain ⟨rfl, rfl⟩ : b4 = b2 ∧ off4 = off2 := by injection hA4 with e; injection e with e1 e2; exact ⟨e1.symm, e2.symm⟩
            obtain ⟨rfl, rfl⟩ : b5 = b4 ∧ off5 = off4 := by injection hA5 with e; injection e with e1 e2; exact ⟨e1.symm, e2.symm⟩
            have a1' : W9.cell? ⟨b5, off5 + i * 2 + 1, none⟩ = some (.int .u32 (x.2 : Nat)) := a1
            have HN : Hid (OwnR ((W9.setCell ⟨g, km * 2, none⟩ (.int .u32 (x.1 : Nat))).setCell ⟨g, km * 2 + 1, none⟩ (.int .u32 (x.2 : Nat))) w.heap.size 60 2 (some ⟨g, 0, none⟩) (i + 1) c' ((putAt P x km).flatMap secCells) ∧ (∀ z ∈ P.drop km, x.1 < z.1) ∧ Below w.heap.size w ((W9.setCell ⟨g, km * 2, none⟩ (.int .u32 (x.1 : Nat))).setCell ⟨g, km * 2 + 1, none⟩ (.int .u32 (x.2 : Nat)))) := by
              refine Lib.hid ⟨?_, fun z hz => ?_, kp_set (kp_set H9.out.2 HG.out) HG.out⟩
              · have h1 := putAt_down P x y km HY.out.1
                rw [← HY.out.2.1] at h1
                rw [← h1, ← flat_set _ km x (by rw [List.length_set, putAt_len _ _ _ (by rw [HPL.out]; omega), HPL.out]; omega)]
                exact (H9.out.1.stored (km * 2) _).stored (km * 2 + 1) _
              · have hkl : km < P.length := by
                  rcases Nat.lt_or_ge km P.length with h | h
                  · exact h
                  · have := HY.out.1; rw [List.getElem?_eq_none h] at this; cases this
                rw [List.drop_eq_getElem_cons hkl] at hz
                have hyy : P[km] = y := by have := HY.out.1; rw [List.getElem?_eq_getElem hkl] at this; exact Option.some.inj this
                rcases List.mem_cons.1 hz with rfl | hz
                · rw [hyy]; exact HY.out.2.2.1
                · exact HY.out.2.2.2 z (by rw [HY.out.2.1]; exact hz)
            have hmeas : km < k := by have := HY.out.2.1; omega
            clear hyk9 c0 c1 hrd hA4 hA5 a1 H9 HY
            go_wp2_with (fail)
            go_roundw
            case rel => exact ⟨km, by go_num, by omega, HN⟩
            case measure => simp [intOf]; omega
          · have u2 : decide ((x.1 : Int) < (y.1 : Int)) = false := by simp; omega
            have u2n : decide (x.1 < y.1) = false := by simp; omega
            have HD := Lib.hid (HDONE.out (.inr ⟨y, by rw [hkm, Nat.add_sub_cancel]; exact hy, by omega⟩))
            clear HDONE HI hyk c0 c1 hrd hA3 hy hkm hgt
            go_upto_region 7 with (fail)
            go_quiet (fail)
            go_wp2_with (fail)
            go_roundw
            case rel => exact ⟨i + 1, c', some ⟨g, 0, none⟩, _, rfl, by go_num, by omega, HD.out _⟩
            case measure => simp [intOf]; omega
    · have i1 : decide ((i : Int) < (n : Int)) = false := by simp; omega
      have i1n : decide (i < n) = false := by simp; omega
      obtain rfl : i = n := by omega
      go_wp2_with (fail)
      go_ret
      obtain ⟨h1, h2, h3, h4⟩ := HK.out
      rw [show L.take i = L by rw [← HR.out.2, List.take_length]] at h1
      exact ⟨V, i, cV, P, rfl, HR.out.2.symm, h1, h2, h3, h4⟩
end Go.Proofs.YtcedojmhgmgcgaaGreatDoor
namespace Go.Proofs.YtcedojmhgmgcgaaGreatDoor
open Go.RowKit Go
set_option linter.unusedVariables false
set_option linter.unusedSimpArgs false
set_option maxRecDepth 100000
theorem readR_lit {W : World} {p t : Nat} {vs : List Value} (k : W.heap[p]? = some (.cells vs.toArray t)) : ReadR W (some ⟨p, 0, none⟩) vs := by
  refine fun _ => ⟨p, 0, rfl, block_lt k, fun j u hu => ?_⟩
  rw [show W.cell? ⟨p, 0 + j, none⟩ = _ from Lib.cell_of_heap k (0 + j)]
  rw [Nat.zero_add]
  simpa using hu
theorem gr_refP (w : World) (row : Option Nat) : w.grownBy w row := World.grownBy.refl _ _
theorem gr_drewP {w W : World} {row : Option Nat} (h : w.grownBy W row) : w.grownBy W.drew row := gr_new (h) ((Below.refl _ _).drew)
theorem gr_allocP {w W : World} {row : Option Nat} (h : w.grownBy W row) (o : Obj) : w.grownBy (W.alloc o) row := gr_new h ((Below.refl _ _).alloc h.size o)
theorem secIn_at (bs : List UInt8) (tab cnt i : Nat) (h : i < cnt) (hs : secIn bs tab cnt = true) : (inQ bs (tab + 40 * i + 16) 4 && inQ bs (tab + 40 * i + 20) 4) = true := by
  unfold secIn at hs
  exact List.all_eq_true.1 hs i (List.mem_range.2 h)
theorem chain_app (A B : List (Nat × Nat)) (e : Nat) : chainS (A ++ B) e = ((chainS A e).1 && (chainR B (chainS A e).2).1, (chainR B (chainS A e).2).2) := by
  unfold chainS
  rw [List.foldl_append]
  generalize A.foldl (fun s x => (s.1 && decide (x.1 = s.2), x.1 + x.2)) (true, e) = s
  obtain ⟨b, e'⟩ := s
  exact chain_fold B b e'
theorem chain_one (A : List (Nat × Nat)) (x : Nat × Nat) (e : Nat) : chainS (A ++ [x]) e = ((chainS A e).1 && decide (x.1 = (chainS A e).2), x.1 + x.2) := by
  rw [chain_app]
  simp [chainR]
theorem chain_take (L : List (Nat × Nat)) (e j : Nat) (h : (chainS L e).1 = true) : (chainS (L.take j) e).1 = true := by
  rw [← List.take_append_drop j L, chain_app, Bool.and_eq_true] at h
  exact h.1
def DSecPost (w : World) (bs : List UInt8) (tab cnt hdr n : Nat) (e : Ending) (w' : World) : Prop :=
  ∃ (V : Option Addr) (m cV en : Nat) (ok : Bool), e = .returned (.tuple #[.slice V m cV, .int .i64 (en : Nat), .bool ok]) ∧ Below w.heap.size w w' ∧
    ok = (secIn bs tab cnt && (chainS (riseL (secN bs tab cnt)) hdr).1 && decide ((chainS (riseL (secN bs tab cnt)) hdr).2 ≤ n)) ∧
    (ok = true → m = (secN bs tab cnt).length ∧ OwnR w' w.heap.size 60 2 V m cV ((secN bs tab cnt).flatMap secCells) ∧ en = (chainS (riseL (secN bs tab cnt)) hdr).2)
set_option maxHeartbeats 8000000 in
theorem dsections_any (A : Option Addr) (n c : Nat) (bs : List UInt8) (tab cnt hdr : Nat) (w : World) (hR : RB w A n bs) (hnc : n ≤ c) (hcc : c ≤ 9223372036854775807) (hn : n ≤ 16777216) (htab : tab ≤ 8589934592) (hcnt : cnt ≤ 96) (hhdr : hdr ≤ 8589934592) :
    Calls Tryz.prog 45 #[.slice A n c, .int .i64 (tab : Nat), .int .i64 (cnt : Nat), .int .i64 (hdr : Nat)] w (DSecPost w bs tab cnt hdr n) := by
  have HR := Lib.hid hR
  clear hR
  go_enter Tryz.func45, Tryz.ntmps45
  go_wp2_with (fail)
  go_loopw [11, 12, 13, 14] (fun vl vi v13 v14 wl => ∃ (i m cV : Nat) (V : Option Addr), vl = .slice V m cV ∧ vi = .int .i64 (i : Int) ∧ i ≤ cnt ∧ Hid (m = (secN bs tab i).length ∧ OwnR wl w.heap.size 60 2 V m cV ((secN bs tab i).flatMap secCells) ∧ Below w.heap.size w wl ∧ secIn bs tab i = true)) (fun _ vi _ _ _ => cnt - (intOf vi).toNat)
  case atStart => exact ⟨0, 0, 0, none, rfl, rfl, Nat.zero_le _, rfl, OwnR.nil _ _ _ _, Below.refl _ _, rfl⟩
  case round =>
    obtain ⟨i, m, cV, V, rfl, rfl, hi, HK⟩ := hrel
    have hml : m ≤ 96 := by have := HK.out.1; have := secN_len bs tab i; omega
    by_cases hlt : i < cnt
    · have i1 : decide ((i : Int) < (cnt : Int)) = true := by simp; omega
      have i1n : decide (i < cnt) = true := by simp; omega
      have e3 : IntKind.i64.wrap ((i : Int) + 1) = (i : Int) + 1 := IntWalk.i64_in _ (by omega)
      obtain ⟨p1, hp1⟩ : ∃ p, tab + 40 * i + 16 = p := ⟨_, rfl⟩
      obtain ⟨p2, hp2⟩ : ∃ p, tab + 40 * i + 20 = p := ⟨_, rfl⟩
      have e4 : IntKind.i64.wrap (40 * (i : Int)) = 40 * (i : Int) := IntWalk.i64_in _ (by omega)
      have e5 : IntKind.i64.wrap ((tab : Int) + 40 * (i : Int)) = (tab : Int) + 40 * (i : Int) := IntWalk.i64_in _ (by omega)
      have e6 : IntKind.i64.wrap ((tab : Int) + 40 * (i : Int) + 16) = (p1 : Int) := by rw [IntWalk.i64_in _ (by omega)]; omega
      have e7 : IntKind.i64.wrap ((tab : Int) + 40 * (i : Int) + 20) = (p2 : Int) := by rw [IntWalk.i64_in _ (by omega)]; omega
      have hpb : p1 ≤ 1099511627776 ∧ p2 ≤ 1099511627776 := by omega
      obtain ⟨sz, hsz⟩ : ∃ x, numQ bs p1 4 = x := ⟨_, rfl⟩
      obtain ⟨of, hof⟩ : ∃ x, numQ bs p2 4 = x := ⟨_, rfl⟩
      have hat : secAt bs tab i = (of, sz) := by unfold secAt; rw [hp1, hp2, hsz, hof]
      have l1 : sz < 4294967296 := by rw [← hsz]; exact numQ_lt4 _ _
      have l2 : of < 4294967296 := by rw [← hof]; exact numQ_lt4 _ _
      have C := Lib.hid (fun W (hb : Below w.heap.size w W) (hr : ReadR W (some ⟨wr.heap.size, 0, none⟩) [.int .i64 (p1 : Nat), .int .i64 4, .int .i64 (p2 : Nat), .int .i64 4]) => dnums_any A n c bs (some ⟨wr.heap.size, 0, none⟩) 2 2 [(p1, 4), (p2, 4)] W (HR.out.below hb) hnc hcc hn hr rfl (by decide) (by intro x hx; simp at hx; rcases hx with rfl | rfl <;> exact ⟨by simp; omega, .inr rfl⟩))
      have HB := Lib.hid HK.out.2.2.1
      have HA := Lib.hid (And.intro hat (And.intro hsz (And.intro hof (And.intro hp1 hp2))))
      clear hat hsz hof hp1 hp2
      go_upto_region 6 with (go_at_call 44; (with_reducible refine (C.out _ (kp_alloc HB.out _) (readR_lit (has_new _ _))).mono ?_); rintro e W1 ⟨⟨X, mx, cx, rfl, hx⟩, hb1⟩; have HX := Lib.hid (And.intro hx (kp_call (kp_alloc (Below.refl wr.heap.size wr) _) hb1)); clear C hx hb1)
      have HK1 : Hid (m = (secN bs tab i).length ∧ OwnR W1 w.heap.size 60 2 V m cV ((secN bs tab i).flatMap secCells) ∧ Below w.heap.size w W1 ∧ secIn bs tab i = true) := Lib.hid ⟨HK.out.1, HK.out.2.1.below HX.out.2 (Nat.le_refl _), kp_call HB.out HX.out.2, HK.out.2.2.2⟩
      have hall : allIn bs [(p1, 4), (p2, 4)] = (inQ bs p1 4 && inQ bs p2 4) := by simp [allIn]
      clear HK HB
      cases hq : allIn bs [(p1, 4), (p2, 4)] with
      | false =>
        rw [hq] at hall
        have hno : secIn bs tab cnt = false := by
          cases h9 : secIn bs tab cnt with
          | false => rfl
          | true =>
            have h8 := secIn_at bs tab cnt i hlt h9
            rw [HA.out.2.2.2.1, HA.out.2.2.2.2, ← hall] at h8
            cases h8
        have HNO := Lib.hid hno
        clear hall hno hq HX HA
        go_wp2_with (fail)
        refine bodyPost_ret (results_tmp3 Tryz.results45 _ _ _) rfl ?_
        exact ⟨none, 0, 0, 0, false, rfl, HK1.out.2.2.1, by rw [HNO.out]; rfl, fun h => by cases h⟩
      | true =>
        rw [hq] at hall
        obtain ⟨hx, _⟩ := HX.out
        obtain ⟨hm2, hrd⟩ := hx hq
        have hm22 : mx = 2 := hm2
        obtain ⟨gx, hgx, hgx2, _⟩ := hrd.shape (by have := hrd.cap.1; omega)
        clear hm22
        subst hgx
        have k0 := ownR_at hrd (j := 0) rfl
        have k1 := ownR_at hrd (j := 1) rfl
        unfold numV at k0 k1
        dsimp only at k0 k1
        rw [HA.out.2.1] at k0
        rw [HA.out.2.2.1] at k1
        have hneX : blk V = none ∨ blk V ≠ some gx := OwnR.ne HK1.out.2.1 hrd (by decide)
        have HXB : Hid (∀ W, W1.grownBy W (blk V) → (W.cell? ⟨gx, 0, none⟩ = some (.int .i64 (sz : Nat)) ∧ W.cell? ⟨gx, 1, none⟩ = some (.int .i64 (of : Nat))) ∧ W1.grownBy W (blk V)) := by
          refine Lib.hid (fun W hg => ?_)
          have h9 := hrd.kept hg (by
            right
            intro e
            rcases hneX with h | h
            · rw [h] at e; cases e
            · exact h e.symm)
          have a0 := ownR_at h9 (j := 0) rfl
          have a1 := ownR_at h9 (j := 1) rfl
          unfold numV at a0 a1
          dsimp only at a0 a1
          rw [HA.out.2.1] at a0
          rw [HA.out.2.2.1] at a1
          exact ⟨⟨a0, a1⟩, hg⟩
        have hmx : mx = 2 := hm2
        subst hmx
        have hin : secIn bs tab (i + 1) = true := by
          rw [secIn_succ, HK1.out.2.2.2, HA.out.2.2.2.1, HA.out.2.2.2.2, ← hall]
          rfl
        have HIN := Lib.hid hin
        clear hall hq hrd hm2 hx HX hin hneX hgx2
        have f1 : IntKind.u32.wrap (sz : Int) = (sz : Int) := IntWalk.u32_in _ (by omega)
        have f2 : IntKind.u32.wrap (of : Int) = (of : Int) := IntWalk.u32_in _ (by omega)
        by_cases hs0 : sz = 0
        · have u1 : decide ((0 : Int) < (sz : Int)) = false := by simp; omega
          have u1n : decide (0 < sz) = false := by simp; omega
          have hN : secN bs tab (i + 1) = secN bs tab i := secN_no bs tab i (by rw [HA.out.1]; exact hs0)
          have HN : Hid (m = (secN bs tab (i + 1)).length ∧ OwnR W1 w.heap.size 60 2 V m cV ((secN bs tab (i + 1)).flatMap secCells) ∧ Below w.heap.size w W1 ∧ secIn bs tab (i + 1) = true) := by rw [hN]; exact Lib.hid ⟨HK1.out.1, HK1.out.2.1, HK1.out.2.2.1, HIN.out⟩
          clear hs0 hN HK1 HA HIN
          go_wp2_with (fail)
          go_roundw
          case rel => exact ⟨i + 1, m, cV, V, rfl, by go_num, by omega, HN⟩
          case measure => simp [intOf]; omega
        · have u1 : decide ((0 : Int) < (sz : Int)) = true := by simp; omega
          have u1n : decide (0 < sz) = true := by simp; omega
          have hN : secN bs tab (i + 1) = secN bs tab i ++ [(of, sz)] := by
            have := secN_yes bs tab i (by rw [HA.out.1]; show 0 < sz; omega)
            rw [this, HA.out.1]
          have HNN := Lib.hid hN
          have hwz : w.heap.size ≤ W1.heap.size := HK1.out.2.2.1.size
          clear hs0 hN HA
          go_upto_region 9 with (fail)
          have B0 := Lib.hid (gr_refP W1 (blk V))
          have H1c : ∀ u ∈ [(.int .u32 (of : Nat) : Value), .int .u32 (sz : Nat)], u.oneCell' = true := by intro u hu; simp at hu; rcases hu with rfl | rfl <;> rfl
          have HC1 := Lib.hid H1c
          clear H1c k0 k1
          go_region_held3 (fun W => (W.cell? ⟨gx, 0, none⟩ = some (.int .i64 (sz : Nat)) ∧ W.cell? ⟨gx, 1, none⟩ = some (.int .i64 (of : Nat))) ∧ W1.grownBy W (blk V))
            ((apply HXB.out; repeat (with_reducible (first | assumption | exact B0.out | refine gr_drewP ?_ | refine gr_allocP ?_ _))))
            (first
              | (refine step_appR sec_row (by rfl) _ _ (by rfl) w.heap.size V m cV _ (by rfl) (HK1.out.2.1.alloc _) ⟨W1.heap.size, 0, none⟩ 1 1 [.int .u32 (of : Nat), .int .u32 (sz : Nat)] (by rfl) (by rfl) (cells_lit _ W1.heap.size #[.int .u32 (of : Nat), .int .u32 (sz : Nat)] 60 (0, 0) (heap_alloc_new _ _)) HC1.out (by omega) (by unfold maxLen; omega) (by omega) (by simp; omega) ?_; intro g3 c3 w3 ho3 hg3 hat3; have hG3 : W1.grownBy w3 (blk V) := grown_tr (gr_allocP B0.out _) hg3)
              | (refine step_appR sec_row (by rfl) _ _ (by rfl) w.heap.size V m cV _ (by rfl) (HK1.out.2.1.drew.alloc _) ⟨W1.heap.size, 0, none⟩ 1 1 [.int .u32 (of : Nat), .int .u32 (sz : Nat)] (by rfl) (by rfl) (cells_lit _ W1.heap.size #[.int .u32 (of : Nat), .int .u32 (sz : Nat)] 60 (0, 0) (heap_alloc_new _ _)) HC1.out (by omega) (by unfold maxLen; omega) (by omega) (by simp; omega) ?_; intro g3 c3 w3 ho3 hg3 hat3; have hG3 : W1.grownBy w3 (blk V) := grown_tr (gr_allocP (gr_drewP B0.out) _) hg3))
          have hb4 : Below w.heap.size w w3 := HK1.out.2.2.1.grown hG3 HK1.out.2.2.1.size (fun q hq => (HK1.out.2.1.blk_lt hq).1)
          have HN : Hid (m + 1 = (secN bs tab (i + 1)).length ∧ OwnR w3 w.heap.size 60 2 (some ⟨g3, 0, none⟩) (m + 1) c3 ((secN bs tab (i + 1)).flatMap secCells) ∧ Below w.heap.size w w3 ∧ secIn bs tab (i + 1) = true) := by
            rw [HNN.out]
            refine Lib.hid ⟨by rw [List.length_append, ← HK1.out.1]; rfl, ?_, hb4, HIN.out⟩
            rw [List.flatMap_append]
            exact ho3
          clear ho3 hg3 hat3 hG3 hb4 HK1 HIN HC1 B0 HXB
          go_wp2_with (fail)
          go_roundw
          case rel => exact ⟨i + 1, m + 1, c3, some ⟨g3, 0, none⟩, rfl, by go_num, by omega, HN⟩
          case measure => simp [intOf]; omega
    · have i1 : decide ((i : Int) < (cnt : Int)) = false := by simp; omega
      have i1n : decide (i < cnt) = false := by simp; omega
      obtain rfl : i = cnt := by omega
      obtain ⟨hm, ho, hb, hin⟩ := HK.out
      have C := Lib.hid (drise_any V m cV (secN bs tab i) wr ho.reads hm.symm (by omega))
      have HO := Lib.hid (And.intro hm (And.intro ho (And.intro hb hin)))
      clear hm ho hb hin HK
      go_upto_region 12 with (go_at_call 24; (with_reducible refine C.out.mono ?_); rintro e W2 ⟨X, mx, cx, L', rfl, hx⟩; have HX := Lib.hid hx; clear C hx)
      obtain ⟨x1, x2, x3, x4, x5⟩ := HX.out
      have hz : ∀ y ∈ secN bs tab i, 0 < y.2 := fun y hy => (secN_lt bs tab i y hy).2.2
      have CS := chain_same (secN bs tab i) L' hdr x2 x3 hz
      have hle : ∀ y ∈ L', y.1 < 4294967296 ∧ y.2 < 4294967296 := fun y hy => by
        have := secN_lt bs tab i y (x2.mem_iff.1 hy)
        exact ⟨this.1, this.2.1⟩
      have hlen : L'.length = mx := by rw [x2.length_eq, x1]
      have HC := Lib.hid (And.intro CS (And.intro hle hlen))
      have HP : Hid (OwnR W2 w.heap.size 60 2 V m cV ((secN bs tab i).flatMap secCells) ∧ ReadR W2 X (L'.flatMap secCells) ∧ Below w.heap.size w W2 ∧ m = (secN bs tab i).length ∧ secIn bs tab i = true) := Lib.hid ⟨HO.out.2.1.below x5 (Nat.le_refl _), x4.reads, kp_call HO.out.2.2.1 x5, HO.out.1, HO.out.2.2.2⟩
      have hmx : mx ≤ 96 := by rw [x1, ← HO.out.1]; exact hml
      clear x1 x2 x3 x4 x5 CS hle hlen hz HX HO
      go_wp2_with (fail)
      go_loopw [15, 17] (fun ve vj wl => ∃ (j en : Nat), ve = .int .i64 (en : Int) ∧ vj = .int .i64 (j : Int) ∧ j ≤ mx ∧ en ≤ 8589934592 ∧ Hid (chainS (L'.take j) hdr = (true, en)) ∧ wl = W2) (fun _ vj _ => mx - (intOf vj).toNat)
      case atStart => exact ⟨0, hdr, rfl, rfl, Nat.zero_le _, hhdr, rfl, rfl⟩
      case round =>
        obtain ⟨j, en, rfl, rfl, hj, hen, HJ, rfl⟩ := hrel
        by_cases hjl : j < mx
        · have u1 : decide ((j : Int) < (mx : Int)) = true := by simp; omega
          have u1n : decide (j < mx) = true := by simp; omega
          have u2 : (j : Int) < (mx : Int) := by omega
          have e3 : IntKind.i64.wrap ((j : Int) + 1) = (j : Int) + 1 := IntWalk.i64_in _ (by omega)
          obtain ⟨x, hx⟩ : ∃ x, L'[j]? = some x := ⟨_, List.getElem?_eq_getElem (by have := HC.out.2.2; omega)⟩
          obtain ⟨c1, c2⟩ := sec_at _ _ _ hx
          obtain ⟨b, off, rfl, _, k0⟩ := HP.out.2.1.at_ c1
          obtain ⟨b', off', e, _, k1⟩ := HP.out.2.1.at_ c2
          cases e
          have k1' : wr.cell? ⟨b, off + j * 2 + 1, none⟩ = some (.int .u32 (x.2 : Nat)) := k1
          obtain ⟨b1, b2⟩ := HC.out.2.1 x (List.mem_of_getElem? hx)
          have e4 : IntKind.i64.wrap (x.1 : Int) = (x.1 : Int) := IntWalk.i64_in _ (by omega)
          have e5 : IntKind.i64.wrap (x.2 : Int) = (x.2 : Int) := IntWalk.i64_in _ (by omega)
          have htk : L'.take (j + 1) = L'.take j ++ [x] := by rw [List.take_add_one, hx]; rfl
          have hch : chainS (L'.take (j + 1)) hdr = (decide (x.1 = en), x.1 + x.2) := by rw [htk, chain_one, HJ.out]; rfl
          have HCH := Lib.hid hch
          clear k1 c1 c2 hx htk hch
          by_cases hxe : x.1 = en
          · have u3 : ((x.1 : Int) != (en : Int)) = false := by rw [hxe]; simp
            have e6 : IntKind.i64.wrap ((en : Int) + (x.2 : Int)) = ((x.1 + x.2 : Nat) : Int) := by rw [IntWalk.i64_in _ (by omega)]; omega
            have HN : Hid (chainS (L'.take (j + 1)) hdr = (true, x.1 + x.2)) := by rw [HCH.out, decide_eq_true hxe]; exact Lib.hid rfl
            obtain ⟨xe, hxx⟩ : ∃ xe, x.1 + x.2 = xe := ⟨_, rfl⟩
            rw [hxx] at e6 HN
            have hxb : xe ≤ 8589934592 := by omega
            clear hxe HCH HJ hxx
            go_wp2_with (fail)
            go_roundw
            case rel => exact ⟨j + 1, xe, by go_num, by go_num, by omega, hxb, HN, by simp⟩
            case measure => simp [intOf]; omega
          · have u3 : ((x.1 : Int) != (en : Int)) = true := by simp; omega
            have hno : (chainS (riseL (secN bs tab i)) hdr).1 = false := by
              rw [← HC.out.1.1]
              cases h9 : (chainS L' hdr).1 with
              | false => rfl
              | true =>
                have h8 := chain_take L' hdr (j + 1) h9
                rw [HCH.out, decide_eq_false hxe] at h8
                cases h8
            have HNO := Lib.hid hno
            clear hxe HCH HJ hno
            go_wp2_with (fail)
            refine bodyPost_ret (results_tmp3 Tryz.results45 _ _ _) rfl ?_
            exact ⟨none, 0, 0, 0, false, rfl, HP.out.2.2.1, by rw [HNO.out]; simp, fun h => by cases h⟩
        · have u1 : decide ((j : Int) < (mx : Int)) = false := by simp; omega
          have u1n : decide (j < mx) = false := by simp; omega
          obtain rfl : j = mx := by omega
          have h1 : L'.take j = L' := by rw [← HC.out.2.2, List.take_length]
          have h2 := HJ.out
          rw [h1] at h2
          have h3 : (chainS (riseL (secN bs tab i)) hdr).1 = true := by rw [← HC.out.1.1, h2]
          have h4 : (chainS (riseL (secN bs tab i)) hdr).2 = en := by rw [← HC.out.1.2 h3, h2]
          have HF := Lib.hid (And.intro h3 h4)
          clear h1 h2 h3 h4 HJ
          go_wp2_with (fail)
          refine bodyPost_ret (results_tmp3 Tryz.results45 _ _ _) rfl ?_
          exact ⟨V, m, cV, en, decide (en ≤ n), by simp, HP.out.2.2.1, by rw [HF.out.1, HF.out.2, HP.out.2.2.2.2]; rfl, fun h => ⟨HP.out.2.2.2.1, HP.out.1, HF.out.2.symm⟩⟩
end Go.Proofs.YtcedojmhgmgcgaaGreatDoor
namespace Go.Proofs.YtcedojmhgmgcgaaGreatDoor
open Go.RowKit Go
set_option linter.unusedVariables false
set_option linter.unusedSimpArgs false
set_option maxRecDepth 100000
theorem kind_parts (bs : List UInt8) (a : Nat) : (cut bs (a + 4) 4 == [0, 2, 2, 0]) = (inQ bs (a + 4) 2 && inQ bs (a + 6) 2 && (decide (numQ bs (a + 4) 2 = 512) && decide (numQ bs (a + 6) 2 = 2))) := by
  by_cases h : a + 8 ≤ bs.length
  · have h0 : a + 4 < bs.length := by omega
    have h1 : a + 4 + 1 < bs.length := by omega
    have h2 : a + 4 + 2 < bs.length := by omega
    have h3 : a + 4 + 3 < bs.length := by omega
    have hc : cut bs (a + 4) 4 = [bs[a + 4], bs[a + 4 + 1], bs[a + 4 + 2], bs[a + 4 + 3]] := by
      apply List.ext_getElem?
      intro i
      by_cases hi : i < 4
      · rw [cut_get _ _ _ _ hi]
        have : i = 0 ∨ i = 1 ∨ i = 2 ∨ i = 3 := by omega
        rcases this with rfl | rfl | rfl | rfl
        · exact List.getElem?_eq_getElem h0
        · exact List.getElem?_eq_getElem h1
        · exact List.getElem?_eq_getElem h2
        · exact List.getElem?_eq_getElem h3
      · rw [List.getElem?_eq_none (by rw [cut_len _ _ _ (by omega)]; omega), List.getElem?_eq_none (by simp; omega)]
    have hc1 : cut bs (a + 4) 2 = [bs[a + 4], bs[a + 4 + 1]] := by
      have : cut bs (a + 4) 2 = (cut bs (a + 4) 4).take 2 := by unfold cut; rw [List.take_take]; rfl
      rw [this, hc]; rfl
    have hc2 : cut bs (a + 6) 2 = [bs[a + 4 + 2], bs[a + 4 + 3]] := by
      have : cut bs (a + 6) 2 = (cut bs (a + 4) 4).drop 2 := by
        unfold cut
        rw [List.drop_take, List.drop_drop]
      rw [this, hc]; rfl
    unfold numQ inQ
    rw [if_pos (by omega), if_pos (by omega), hc, hc1, hc2, decide_eq_true (by omega), decide_eq_true (by omega)]
    simp only [Bool.true_and]
    generalize bs[a + 4] = q0
    generalize bs[a + 4 + 1] = q1
    generalize bs[a + 4 + 2] = q2
    generalize bs[a + 4 + 3] = q3
    have b0 := q0.toNat_lt; have b1 := q1.toNat_lt; have b2 := q2.toNat_lt; have b3 := q3.toNat_lt
    have l1 : leN [q0, q1] = q0.toNat + 256 * q1.toNat := by simp [leN]
    have l2 : leN [q2, q3] = q2.toNat + 256 * q3.toNat := by simp [leN]
    rw [Bool.eq_iff_iff]
    simp only [beq_iff_eq, Bool.and_eq_true, decide_eq_true_eq, List.cons.injEq, and_true, true_and, l1, l2]
    constructor
    · rintro ⟨rfl, rfl, rfl, rfl⟩
      decide
    · rintro ⟨h4, h5⟩
      refine ⟨?_, ?_, ?_, ?_⟩ <;> apply UInt8.toNat_inj.1
      · show q0.toNat = 0; omega
      · show q1.toNat = 2; omega
      · show q2.toNat = 2; omega
      · show q3.toNat = 0; omega
  · have h1 : (cut bs (a + 4) 4 == [0, 2, 2, 0]) = false := by
      rw [beq_eq_false_iff_ne]
      intro e
      have := congrArg List.length e
      unfold cut at this
      rw [List.length_take, List.length_drop] at this
      simp at this
      omega
    have h2 : inQ bs (a + 6) 2 = false := by unfold inQ; simp; omega
    rw [h1, h2]
    simp
def DRowsPost (w : World) (bs : List UInt8) (at_ : Nat) (e : Ending) (w' : World) : Prop :=
  Below w.heap.size w w' ∧
  match rowsQ bs at_ with
  | none => e = .returned (.tuple #[.slice none 0 0, .int .i64 9])
  | some l => if 8 < l.length then e = .returned (.tuple #[.slice none 0 0, .int .i64 10])
    else ∃ (V : Option Addr) (m cV : Nat) (xs : List Own1), e = .returned (.tuple #[.slice V m cV, .int .i64 0]) ∧ m = xs.length ∧ xs.map (fun x => x.2.2.2) = l ∧ OwnR w' w.heap.size 22 1 V m cV (xs.map Own1.val) ∧ ∀ x ∈ xs, OwnB w' w.heap.size x.1 x.2.1 x.2.2.1 x.2.2.2
structure DR (w : World) (bs : List UInt8) (at_ a m cV : Nat) (V : Option Addr) (xs : List Own1) (W : World) : Prop where
  o : OwnR W w.heap.size 22 1 V m cV (xs.map Own1.val)
  ml : m = xs.length
  rb : ∀ x ∈ xs, RB W x.1 x.2.1 x.2.2.2
  own : ∀ x ∈ xs, OwnB W w.heap.size x.1 x.2.1 x.2.2.1 x.2.2.2
  b : Below w.heap.size w W
  q : rowsQ bs at_ = (rowsQ bs a).map ((xs.map fun x => x.2.2.2) ++ ·)
theorem DR.below {w : World} {bs : List UInt8} {at_ a m cV : Nat} {V : Option Addr} {xs : List Own1} {W W' : World} (h : DR w bs at_ a m cV V xs W) (hb : Below W.heap.size W W') : DR w bs at_ a m cV V xs W' :=
  ⟨h.o.below hb (Nat.le_refl _), h.ml, fun x hx => (h.rb x hx).below hb, fun x hx => (h.own x hx).below hb (Nat.le_refl _), kp_call h.b hb, h.q⟩
theorem drows_step {w : World} {bs : List UInt8} {at_ a m cV en : Nat} {V : Option Addr} {xs : List Own1} {W W4 : World} (h : DR w bs at_ a m cV V xs W) {A9 : Option Addr} {n9 c9 : Nat} {b9 : List UInt8} (ho9 : OwnB W w.heap.size A9 n9 c9 b9) (hy : rowsQ bs a = (rowsQ bs en).map (b9 :: ·))
    {V' : Option Addr} {c' : Nat} {o : Obj} (ho4 : OwnR W4 w.heap.size 22 1 V' (m + 1) c' (xs.map Own1.val ++ #[Value.slice A9 n9 c9].toList)) (hg4 : (W.alloc o).grownBy W4 (blk V)) : DR w bs at_ en (m + 1) c' V' (xs ++ [(A9, n9, c9, b9)]) W4 := by
  have h1 := h.below (kp_alloc (Below.refl _ _) o)
  have h9 : OwnB (W.alloc o) w.heap.size A9 n9 c9 b9 := ho9.below (kp_alloc (Below.refl _ _) o) (Nat.le_refl _)
  have hk : ∀ {A : Option Addr} {n c : Nat} {b : List UInt8}, OwnB (W.alloc o) w.heap.size A n c b → OwnB W4 w.heap.size A n c b := fun hA => hA.kept hg4 (OwnR.ne hA.row h1.o (by decide))
  have hown : ∀ x ∈ xs ++ [(A9, n9, c9, b9)], OwnB W4 w.heap.size x.1 x.2.1 x.2.2.1 x.2.2.2 := by
    intro x hx
    rcases List.mem_append.1 hx with hx | hx
    · exact hk (h1.own x hx)
    · rw [List.mem_singleton.1 hx]; exact hk h9
  refine ⟨by rw [List.map_append]; exact ho4, by rw [List.length_append, h.ml]; rfl, fun x hx => (hown x hx).rb, hown, h1.b.grown hg4 h1.b.size (fun q hq => (h1.o.blk_lt hq).1), ?_⟩
  rw [h.q, hy, Option.map_map, List.map_append]
  congr 1
  funext t
  simp
set_option maxHeartbeats 8000000 in
theorem drows_any (A : Option Addr) (n c : Nat) (bs : List UInt8) (at_ : Nat) (w : World) (hR : RB w A n bs) (hnc : n ≤ c) (hcc : c ≤ 9223372036854775807) (hn : n ≤ 16777216) (hat : at_ ≤ 16777216) :
    Calls Tryz.prog 46 #[.slice A n c, .int .i64 (at_ : Nat)] w (DRowsPost w bs at_) := by
  have HR := Lib.hid hR
  have hbl := hR.1
  clear hR
  go_enter Tryz.func46, Tryz.ntmps46
  go_wp2_with (fail)
  go_loopw [1, 6, 7, 8, 9, 10, 11] (fun va vl v7 v8 v9 v10 v11 wl => ∃ (a m cV : Nat) (V : Option Addr) (xs : List Own1), va = .int .i64 (a : Int) ∧ vl = .slice V m cV ∧ a ≤ 16777216 ∧ m ≤ a ∧ Hid (DR w bs at_ a m cV V xs wl)) (fun va _ _ _ _ _ _ _ => n - (intOf va).toNat)
  case atStart => exact ⟨at_, 0, 0, none, [], rfl, rfl, hat, Nat.zero_le _, OwnR.nil _ _ _ _, rfl, (fun x hx => by cases hx), (fun x hx => by cases hx), Below.refl _ _, by cases rowsQ bs at_ <;> simp⟩
  case round =>
    obtain ⟨a, m, cV, V, xs, rfl, rfl, ha, hma, HK⟩ := hrel
    by_cases hlt : a < n
    · have i1 : decide ((a : Int) < (n : Int)) = true := by simp; omega
      have i1n : decide (a < n) = true := by simp; omega
      obtain ⟨p1, hp1⟩ : ∃ p, a + 4 = p := ⟨_, rfl⟩
      obtain ⟨p2, hp2⟩ : ∃ p, a + 6 = p := ⟨_, rfl⟩
      have e6 : IntKind.i64.wrap ((a : Int) + 4) = (p1 : Int) := by rw [IntWalk.i64_in _ (by omega)]; omega
      have e7 : IntKind.i64.wrap ((a : Int) + 6) = (p2 : Int) := by rw [IntWalk.i64_in _ (by omega)]; omega
      have C := Lib.hid (fun W (hb : Below w.heap.size w W) (hr : ReadR W (some ⟨wr.heap.size, 0, none⟩) [.int .i64 (a : Nat), .int .i64 4, .int .i64 (p1 : Nat), .int .i64 2, .int .i64 (p2 : Nat), .int .i64 2]) => dnums_any A n c bs (some ⟨wr.heap.size, 0, none⟩) 3 3 [(a, 4), (p1, 2), (p2, 2)] W (HR.out.below hb) hnc hcc hn hr rfl (by decide) (by intro x hx; simp at hx; rcases hx with rfl | rfl | rfl <;> (refine ⟨by simp; omega, ?_⟩; first | exact .inr rfl | exact .inl rfl)))
      have HB := Lib.hid HK.out.b
      have hkp := kind_parts bs a
      rw [hp1, hp2] at hkp
      have hrn : ∀ h9 : rowsQ bs a = none, rowsQ bs at_ = none := fun h9 => by rw [HK.out.q, h9]; rfl
      have HRN := Lib.hid hrn
      have hrok : rowOk bs a = (inQ bs a 4 && (decide (9 ≤ numQ bs a 4) && decide (padQ bs a ≤ bs.length - a)) && (inQ bs p1 2 && inQ bs p2 2 && (decide (numQ bs p1 2 = 512) && decide (numQ bs p2 2 = 2)))) := by unfold rowOk; rw [hp1, hkp]
      clear hrn hkp
      go_upto_region 4 with (go_at_call 44; (with_reducible refine (C.out _ (kp_alloc HB.out _) (readR_lit (has_new _ _))).mono ?_); rintro e W1 ⟨⟨X, mx, cx, rfl, hx⟩, hb1⟩; have HX := Lib.hid (And.intro hx (kp_call (kp_alloc (Below.refl wr.heap.size wr) _) hb1)); clear C hx hb1)
      have HK1 := Lib.hid (HK.out.below HX.out.2)
      have BEL := Lib.hid HK1.out.b
      have hall : allIn bs [(a, 4), (p1, 2), (p2, 2)] = (inQ bs a 4 && (inQ bs p1 2 && inQ bs p2 2)) := by simp [allIn]
      have hd4 := numQ_lt4 bs a
      have hd1 := numQ_lt2 bs p1
      have hd2 := numQ_lt2 bs p2
      clear HK HB
      cases hq : allIn bs [(a, 4), (p1, 2), (p2, 2)] with
      | false =>
        rw [hq] at hall
        have hno : rowsQ bs at_ = none := HRN.out (rowsQ_no (by omega) (by
          rw [hrok]
          revert hall
          generalize inQ bs a 4 = b1
          generalize inQ bs p1 2 = b2
          generalize inQ bs p2 2 = b3
          cases b1 <;> cases b2 <;> cases b3 <;> simp))
        clear hall hq HX hrok
        have HNO := Lib.hid hno
        clear hno
        go_wp2_with (fail)
        go_ret2
        exact ⟨BEL.out, by rw [HNO.out]; rfl⟩
      | true =>
        rw [hq] at hall
        obtain ⟨hx, _⟩ := HX.out
        obtain ⟨hm3, hrd⟩ := hx hq
        have hmx : mx = 3 := hm3
        subst hmx
        have hrr := hrd.reads
        obtain ⟨b, off, rfl, _, k0⟩ := hrr.at_ (j := 0) rfl
        obtain ⟨b', off', e, _, k1⟩ := hrr.at_ (j := 1) rfl
        cases e
        obtain ⟨b', off', e, _, k2⟩ := hrr.at_ (j := 2) rfl
        cases e
        unfold numV at k0 k1 k2
        dsimp only at k0 k1 k2
        obtain ⟨h1, h2, h3⟩ : inQ bs a 4 = true ∧ inQ bs p1 2 = true ∧ inQ bs p2 2 = true := by
          have h9 := hall.symm
          simp only [Bool.and_eq_true] at h9
          exact h9
        rw [h1, h2, h3] at hrok
        simp only [Bool.true_and] at hrok
        obtain ⟨x0, hx0⟩ : ∃ x, numQ bs a 4 = x := ⟨_, rfl⟩
        obtain ⟨x1, hx1⟩ : ∃ x, numQ bs p1 2 = x := ⟨_, rfl⟩
        obtain ⟨x2, hx2⟩ : ∃ x, numQ bs p2 2 = x := ⟨_, rfl⟩
        have hpad : padQ bs a = (x0 + 7) / 8 * 8 := by unfold padQ; rw [hx0]
        rw [hx0, hx1, hx2] at hrok
        rw [hx0] at k0 hd4
        rw [hx1] at k1 hd1
        rw [hx2] at k2 hd2
        have k0' : W1.cell? ⟨b, off, none⟩ = some (.int .i64 (x0 : Nat)) := k0
        have HX0 := Lib.hid hx0
        clear hall hq hrd hm3 hx HX k0 hrr h1 h2 h3 hx0 hx1 hx2 hp1 hp2
        by_cases g1 : x0 < 9
        · have t1 : decide ((x0 : Int) < 9) = true := by simp; omega
          have t1n : decide (x0 < 9) = true := by simp; omega
          have hno : rowsQ bs at_ = none := HRN.out (rowsQ_no (by omega) (by rw [hrok, decide_eq_false (by omega : ¬ 9 ≤ x0)]; rfl))
          clear hrok g1
          have HNO := Lib.hid hno
          clear hno
          go_wp2_with (fail)
          go_ret2
          exact ⟨BEL.out, by rw [HNO.out]; rfl⟩
        have t1 : decide ((x0 : Int) < 9) = false := by simp; omega
        have t1n : decide (x0 < 9) = false := by simp; omega
        by_cases g2 : x1 = 512
        rotate_left
        · have t2 : ((x1 : Int) != 512) = true := by simp; omega
          have hno : rowsQ bs at_ = none := HRN.out (rowsQ_no (by omega) (by rw [hrok, decide_eq_false g2]; simp))
          clear hrok g1 g2
          have HNO := Lib.hid hno
          clear hno
          go_wp2_with (fail)
          go_ret2
          exact ⟨BEL.out, by rw [HNO.out]; rfl⟩
        have t2 : ((x1 : Int) != 512) = false := by rw [g2]; rfl
        by_cases g3 : x2 = 2
        rotate_left
        · have t3 : ((x2 : Int) != 2) = true := by simp; omega
          have hno : rowsQ bs at_ = none := HRN.out (rowsQ_no (by omega) (by rw [hrok, decide_eq_false g3]; simp))
          clear hrok g1 g2 g3
          have HNO := Lib.hid hno
          clear hno
          go_wp2_with (fail)
          go_ret2
          exact ⟨BEL.out, by rw [HNO.out]; rfl⟩
        have t3 : ((x2 : Int) != 2) = false := by rw [g3]; rfl
        rw [decide_eq_true (by omega : 9 ≤ x0), decide_eq_true g2, decide_eq_true g3] at hrok
        simp only [Bool.true_and, Bool.and_true] at hrok
        clear g2 g3
        obtain ⟨pd, hpd⟩ : ∃ pd, (x0 + 7) / 8 * 8 = pd := ⟨_, rfl⟩
        rw [hpd] at hpad
        rw [hpad] at hrok
        obtain ⟨en, hen⟩ : ∃ en, a + pd = en := ⟨_, rfl⟩
        obtain ⟨pa, hpa⟩ : ∃ pa, a + 8 = pa := ⟨_, rfl⟩
        obtain ⟨xk, hxk⟩ : ∃ xk, x0 - 8 = xk := ⟨_, rfl⟩
        have e8 : IntKind.i64.wrap ((a : Int) + 8) = (pa : Int) := by rw [IntWalk.i64_in _ (by omega)]; omega
        have e9 : IntKind.i64.wrap ((x0 : Int) - 8) = (xk : Int) := by rw [IntWalk.i64_in _ (by omega)]; omega
        have e10 : IntKind.i64.wrap ((x0 : Int) + 7) = (x0 : Int) + 7 := IntWalk.i64_in _ (by omega)
        obtain ⟨qd, hqd⟩ : ∃ qd, (x0 + 7) / 8 = qd := ⟨_, rfl⟩
        have e11 : ((x0 : Int) + 7).tdiv 8 = (qd : Int) := by rw [Int.tdiv_eq_ediv_of_nonneg (by omega)]; omega
        have e12 : IntKind.i64.wrap (qd : Int) = (qd : Int) := IntWalk.i64_in _ (by omega)
        have e13 : IntKind.i64.wrap ((qd : Int) * 8) = (pd : Int) := by rw [IntWalk.i64_in _ (by omega)]; omega
        have e14 : IntKind.i64.wrap ((a : Int) + (pd : Int)) = (en : Int) := by rw [IntWalk.i64_in _ (by omega)]; omega
        have hxp : x0 ≤ pd ∧ pd ≤ x0 + 7 := by omega
        clear hqd
        by_cases g4 : a + x0 ≤ n
        rotate_left
        · have CN := Lib.hid (refCut_not A n c pa xk W1 (by omega) (by omega) (by omega) (by omega) (by omega) (by simp [inB]; omega))
          have hno : rowsQ bs at_ = none := HRN.out (rowsQ_no (by omega) (by rw [hrok, decide_eq_false (by omega)]; rfl))
          have HNO := Lib.hid hno
          clear hrok g1 g4 hno hpad
          go_wp2_with (go_at_call 67; (with_reducible refine CN.out.mono ?_); rintro e W2 ⟨rfl, rfl⟩; clear CN)
          go_ret2
          exact ⟨BEL.out, by rw [HNO.out]; rfl⟩
        have CY := Lib.hid (refCut_ok A n c bs pa xk W1 (HR.out.below BEL.out) hnc hcc (by omega) (by omega))
        have hcl := cut_len bs pa xk (by omega)
        go_upto_region 8 with (go_at_call 67; (with_reducible refine CY.out.mono ?_); rintro e W2 ⟨A9, n9, c9, rfl, ho9, hb9⟩; have j0 : W2.cell? ⟨b, off, none⟩ = some (.int .i64 (x0 : Nat)) := kp_cell hb9 k0'; have H9 := Lib.hid (And.intro ho9 hb9); clear CY ho9 hb9)
        have HK2 := Lib.hid (HK1.out.below H9.out.2)
        have HOB := Lib.hid (H9.out.1.lower BEL.out.size)
        have BEL2 := Lib.hid HK2.out.b
        by_cases g5 : en ≤ n
        rotate_left
        · have t5 : decide ((n : Int) < (en : Int)) = true := by simp; omega
          have t5n : decide (n < en) = true := by simp; omega
          have hno : rowsQ bs at_ = none := HRN.out (rowsQ_no (by omega) (by rw [hrok, decide_eq_false (by omega)]; rfl))
          have HNO := Lib.hid hno
          clear hrok g1 g4 g5 hno hpad k0' k1 k2 j0
          go_wp2_with (fail)
          go_ret2
          exact ⟨BEL2.out, by rw [HNO.out]; rfl⟩
        have t5 : decide ((n : Int) < (en : Int)) = false := by simp; omega
        have t5n : decide (n < en) = false := by simp; omega
        rw [decide_eq_true (by omega)] at hrok
        obtain ⟨s0, hs0⟩ : ∃ s, a + x0 = s := ⟨_, rfl⟩
        have e15 : IntKind.i64.wrap ((a : Int) + (x0 : Int)) = (s0 : Int) := by rw [IntWalk.i64_in _ (by omega)]; omega
        have HOK := Lib.hid (And.intro hrok (And.intro hpad (And.intro hen (And.intro hpa (And.intro hxk (And.intro hs0 hcl))))))
        have hse : s0 ≤ en := by omega
        have hx9 : a + 9 ≤ en := by omega
        clear hrok hpad hpd hpa hxk hs0 hcl k0' k1 k2 g1 HK1 BEL
        go_wp2_with (fail)
        clear j0
        go_loopw [11] (fun vi wl => ∃ j : Nat, vi = .int .i64 (j : Int) ∧ s0 ≤ j ∧ j ≤ en ∧ Hid (∀ t, s0 ≤ t → t < j → bs[t]? = some 0) ∧ wl = W2) (fun vi _ => en - (intOf vi).toNat)
        case atStart => exact ⟨s0, rfl, Nat.le_refl _, hse, Lib.hid (fun t h1 h2 => by omega), rfl⟩
        case round =>
          obtain ⟨j, rfl, hj1, hj2, HZ, rfl⟩ := hrel
          by_cases hje : j < en
          · have u1 : decide ((j : Int) < (en : Int)) = true := by simp; omega
            have u1n : decide (j < en) = true := by simp; omega
            have e16 : IntKind.i64.wrap ((j : Int) + 1) = (j : Int) + 1 := IntWalk.i64_in _ (by omega)
            have i2 : (j : Int) < (n : Int) := by omega
            have i2n : j < n := by omega
            obtain ⟨ab, ao, q, rfl, _, hq, kq⟩ := (HR.out.below BEL2.out).at_ (k := j) (by omega)
            by_cases hq0 : q = 0
            · have u2 : ((q.toNat : Int) != 0) = false := by rw [hq0]; rfl
              have u2n : q.toNat = 0 := by rw [hq0]; rfl
              have HN : Hid (∀ t, s0 ≤ t → t < j + 1 → bs[t]? = some 0) := Lib.hid (fun t h1 h2 => by
                by_cases e : t = j
                · rw [e, hq, hq0]
                · exact HZ.out t h1 (by omega))
              clear hq hq0 HZ
              go_wp2_with (fail)
              go_roundw
              case rel => exact ⟨j + 1, by go_num, by omega, by omega, HN, by simp⟩
              case measure => simp [intOf]; omega
            · have u2 : ((q.toNat : Int) != 0) = true := by
                have : q.toNat ≠ 0 := fun e => hq0 (UInt8.toNat_inj.1 e)
                simp; omega
              have u2n : ¬ q.toNat = 0 := fun e => hq0 (UInt8.toNat_inj.1 e)
              have hno : rowsQ bs at_ = none := HRN.out (rowsQ_no (by omega) (by
                have hf : fillB bs a = false := by
                  unfold fillB
                  rw [HOK.out.2.1, HX0.out, HOK.out.2.2.2.2.2.1]
                  have h2 : (cut bs s0 (pd - x0))[j - s0]? = some q := by
                    rw [cut_get _ _ _ _ (by have := HOK.out.2.2.1; have := HOK.out.2.2.2.2.2.1; omega), show s0 + (j - s0) = j by omega, hq]
                  cases h9 : (cut bs s0 (pd - x0)).all fun q => q == 0 with
                  | false => rfl
                  | true =>
                    have := List.all_eq_true.1 h9 q (List.mem_of_getElem? h2)
                    exact absurd (by simpa using this) hq0
                rw [hf, Bool.and_false]))
              have HNO := Lib.hid hno
              clear hq hq0 HZ hno
              go_wp2_with (fail)
              go_ret2
              exact ⟨BEL2.out, by rw [HNO.out]; rfl⟩
          · have u1 : decide ((j : Int) < (en : Int)) = false := by simp; omega
            have u1n : decide (j < en) = false := by simp; omega
            obtain rfl : j = en := by omega
            have hf : fillB bs a = true := by
              unfold fillB
              rw [HOK.out.2.1, HX0.out, HOK.out.2.2.2.2.2.1, List.all_eq_true]
              intro q hq
              obtain ⟨t, ht⟩ := List.getElem?_of_mem hq
              have htl : t < pd - x0 := by
                rcases Nat.lt_or_ge t (pd - x0) with h | h
                · exact h
                · rw [List.getElem?_eq_none (by unfold cut; rw [List.length_take]; omega)] at ht; cases ht
              rw [cut_get _ _ _ _ htl, HZ.out (s0 + t) (by omega) (by have := HOK.out.2.2.1; have := HOK.out.2.2.2.2.2.1; omega)] at ht
              rw [← Option.some.inj ht]
              rfl
            have hyes := rowsQ_yes (bs := bs) (a := a) (by omega) HOK.out.1 hf
            rw [HOK.out.2.1, HX0.out, HOK.out.2.2.1, HOK.out.2.2.2.1, HOK.out.2.2.2.2.1] at hyes
            have hn9 : n9 = xk := by have h1 := H9.out.1.len; rw [HOK.out.2.2.2.2.2.2] at h1; omega
            have HY := Lib.hid (And.intro hyes hn9)
            have hwz : w.heap.size ≤ wr.heap.size := HK2.out.b.size
            clear hf hyes hn9 HZ
            go_wp2_with (at_builtin; refine wpList_appL bss_rowP _ _ rfl rfl rfl w.heap.size V m cV _ rfl (HK2.out.o.alloc _) _ 1 1 #[.slice A9 n9 c9] (0, 0) rfl (has_new _ _) rfl (by intro u hu; simp at hu; subst hu; rfl) (by unfold maxLen; omega) (by omega) (by simp; omega) ?_; intro V' c' w4 ho4 hg4; have HN := Lib.hid (drows_step HK2.out HOB.out HY.out.1 ho4 hg4); clear ho4 hg4 HK2 HY)
            go_roundw
            case rel => exact ⟨j, m + 1, c', V', _, rfl, by go_num, by omega, by omega, HN⟩
            case measure => simp [intOf]; omega
    · have i1 : decide ((a : Int) < (n : Int)) = false := by simp; omega
      have i1n : decide (a < n) = false := by simp; omega
      have hq := HK.out.q
      rw [rowsQ_end (a := a) (by omega)] at hq
      have hq2 : rowsQ bs at_ = some (xs.map fun x => x.2.2.2) := by rw [hq]; simp
      have HQ := Lib.hid hq2
      have HM := Lib.hid HK.out.ml
      clear hq hq2
      by_cases h8 : 8 < m
      · have t8 : decide ((8 : Int) < (m : Int)) = true := by simp; omega
        have t8n : decide (8 < m) = true := by simp; omega
        have H8 : Hid (8 < (xs.map fun x => x.2.2.2).length) := by rw [List.length_map, ← HM.out]; exact h8
        clear h8
        go_wp2_with (fail)
        go_ret2
        refine ⟨HK.out.b, ?_⟩
        rw [HQ.out]
        dsimp only
        rw [if_pos H8.out]
        rfl
      · have t8 : decide ((8 : Int) < (m : Int)) = false := by simp; omega
        have t8n : decide (8 < m) = false := by simp; omega
        have H8 : Hid (¬ 8 < (xs.map fun x => x.2.2.2).length) := by rw [List.length_map, ← HM.out]; exact h8
        clear h8
        go_wp2_with (fail)
        go_ret2
        refine ⟨HK.out.b, ?_⟩
        rw [HQ.out]
        dsimp only
        rw [if_neg H8.out]
        exact ⟨V, m, cV, xs, rfl, HM.out, rfl, HK.out.o, HK.out.own⟩
end Go.Proofs.YtcedojmhgmgcgaaGreatDoor
