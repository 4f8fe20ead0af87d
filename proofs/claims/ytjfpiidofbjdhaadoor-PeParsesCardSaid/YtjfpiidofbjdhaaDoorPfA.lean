/-
  pe: the document's reading: a number, several numbers, a text.
-/
import Derived.Test.YtjfpiidofbjdhaaDoorPeL
import Derived.Test.YtjfpiidofbjdhaaDoorPeX
import Derived.Test.YtjfpiidofbjdhaaDoorUp
namespace Go.Proofs.YtjfpiidofbjdhaaDoor
open Go.RowKit Go
set_option linter.unusedVariables false
set_option linter.unusedSimpArgs false
set_option maxRecDepth 100000
set_option maxHeartbeats 2000000 in
theorem dnum_any (A : Option Addr) (n c : Nat) (bs : List UInt8) (ai ki : Int) (a k : Nat) (w : World) (hR : RB w A n bs) (hnc : n ≤ c) (hcc : c ≤ 9223372036854775807) (hn : n ≤ 16777216) (hai : ai = (a : Int)) (hki : ki = (k : Int)) (hk : k = 2 ∨ k = 4) (ha : a ≤ 1099511627776) :
    Calls Tryd.prog 30 #[.slice A n c, .int .i64 ai, .int .i64 ki] w fun e w' => e = .returned (.tuple #[.int .i64 (numQ bs a k : Nat), .bool (inQ bs a k)]) ∧ Below w.heap.size w w' := by
  subst hai
  subst hki
  have hl := hR.1
  have hz : isSz k = true := by rcases hk with rfl | rfl <;> rfl
  have hlt := numQ_lt bs a k
  unfold numQ inQ at *
  by_cases hin : a + k ≤ bs.length
  · rw [if_pos hin] at hlt ⊢
    rw [decide_eq_true hin]
    have C := Lib.hid (refGet_ok A n c bs a k w hR hnc hcc hz (by omega))
    have hx : leN (cut bs a k) < 4294967296 := Nat.lt_of_lt_of_le hlt (by rcases hk with rfl | rfl <;> decide)
    obtain ⟨x, hxx⟩ : ∃ x, leN (cut bs a k) = x := ⟨_, rfl⟩
    rw [hxx] at C hx ⊢
    have e1 : IntKind.i64.wrap (x : Int) = (x : Int) := IntWalk.i64_in _ (by omega)
    clear hxx hlt hz hR hk
    go_enter Tryd.func30, Tryd.ntmps30
    go_wp2_with fail
    (with_reducible refine C.out.mono ?_)
    rintro e w' ⟨rfl, hb⟩
    have HB := Lib.hid hb
    clear hb C
    go_wp2_with fail
    go_ret2
    exact ⟨rfl, HB.out⟩
  · rw [if_neg hin]
    rw [decide_eq_false hin]
    have C := Lib.hid (refGet_not A n c bs (a : Nat) (k : Nat) w hR hnc hcc (by omega) (by omega) (by omega) (by omega) (by omega) (.inr (by simp [inB]; omega)))
    clear hlt hz hR hk
    go_enter Tryd.func30, Tryd.ntmps30
    go_wp2_with fail
    (with_reducible refine C.out.mono ?_)
    rintro e w' ⟨rfl, hb⟩
    have HB := Lib.hid hb
    clear hb C
    go_wp2_with fail
    go_ret2
    exact ⟨rfl, HB.out⟩
set_option maxHeartbeats 2000000 in
theorem dbeg_any (A : Option Addr) (n c : Nat) (bs : List UInt8) (ai : Int) (a : Nat) (s : ByteArray) (T : List UInt8) (hT : s.toList = T) (hs : s.size = T.length) (hT1 : 1 ≤ T.length) (hT2 : T.length ≤ 4) (w : World) (hR : RB w A n bs) (hnc : n ≤ c) (hcc : c ≤ 9223372036854775807) (hn : n ≤ 16777216) (hai : ai = (a : Int)) (ha : a ≤ 1099511627776) :
    Calls Tryd.prog 31 #[.slice A n c, .int .i64 ai, .string s] w fun e w' => e = .returned (.bool (cut bs a T.length == T)) ∧ Below w.heap.size w w' := by
  subst hai
  have hl := hR.1
  by_cases hin : a + T.length ≤ n
  · have C := Lib.hid (refCut_ok A n c bs a s.size w hR hnc hcc (by omega) (by omega))
    rw [hs] at C
    obtain ⟨l, hll⟩ : ∃ l, cut bs a T.length = l := ⟨_, rfl⟩
    obtain ⟨m, hm⟩ : ∃ m, T.length = m := ⟨_, rfl⟩
    rw [hm] at C hs hll hin hT1 hT2 ⊢
    rw [hll] at C ⊢
    clear hR hl hll
    go_enter Tryd.func31, Tryd.ntmps31
    go_wp2_with fail
    (with_reducible refine C.out.mono ?_)
    rintro e w' ⟨X, m2, c2, rfl, ho, hb⟩
    have hlen := ho.len
    have HB := Lib.hid hb
    have E1 := run_strOf w' _ X l c2 ho.reads
    have t1 := strOf_toList l
    rw [hlen] at E1
    clear ho hb hlen C
    go_wp2_with fail
    go_ret
    exact ⟨rfl, HB.out⟩
  · have C := Lib.hid (refCut_not A n c a s.size w (by omega) (by omega) (by omega) (by omega) (by omega) (by simp [inB]; omega))
    have hne : (cut bs a T.length == T) = false := by
      rw [beq_eq_false_iff_ne]
      intro e
      have := congrArg List.length e
      unfold cut at this
      rw [List.length_take, List.length_drop] at this
      omega
    rw [hne]
    rw [hs] at C
    obtain ⟨m, hm⟩ : ∃ m, T.length = m := ⟨_, rfl⟩
    rw [hm] at C hs hin hT1 hT2
    clear hR hl hne
    go_enter Tryd.func31, Tryd.ntmps31
    go_wp2_with fail
    (with_reducible refine C.out.mono ?_)
    rintro e w' ⟨rfl, rfl⟩
    go_wp2_with fail
    go_ret
    exact ⟨rfl, Below.refl _ _⟩
/-- Pairs of numbers in memory. -/
def pairCells (x : Nat × Nat) : List Value := [.int .i64 (x.1 : Nat), .int .i64 (x.2 : Nat)]
theorem pair_at : ∀ (L : List (Nat × Nat)) (j : Nat) (x : Nat × Nat), L[j]? = some x → (L.flatMap pairCells)[j * 2]? = some (.int .i64 (x.1 : Nat)) ∧ (L.flatMap pairCells)[j * 2 + 1]? = some (.int .i64 (x.2 : Nat))
  | [], j, x, h => by cases h
  | y :: r, 0, x, h => by injection h with h; subst h; exact ⟨rfl, rfl⟩
  | y :: r, j + 1, x, h => by
    obtain ⟨h1, h2⟩ := pair_at r j x h
    rw [List.flatMap_cons]
    refine ⟨?_, ?_⟩
    · rw [show (j + 1) * 2 = j * 2 + 2 by omega, List.getElem?_append_right (by simp [pairCells])]
      simpa [pairCells] using h1
    · rw [show (j + 1) * 2 + 1 = j * 2 + 1 + 2 by omega, List.getElem?_append_right (by simp [pairCells])]
      simpa [pairCells] using h2
def allIn (bs : List UInt8) (L : List (Nat × Nat)) : Bool := L.all fun x => inQ bs x.1 x.2
def numV (bs : List UInt8) (x : Nat × Nat) : Value := .int .i64 (numQ bs x.1 x.2 : Nat)
def NumsPost (w : World) (bs : List UInt8) (L : List (Nat × Nat)) (e : Ending) (w' : World) : Prop :=
  (∃ V m cV, e = .returned (.tuple #[.slice V m cV, .bool (allIn bs L)]) ∧ (allIn bs L = true → m = L.length ∧ OwnR w' w.heap.size 3 1 V m cV (L.map (numV bs)))) ∧ Below w.heap.size w w'
theorem int_rowP : RowT 37 3 1 8 (.int .i64 0) := ⟨Tryd.underlying37, by kernel_rfl, rfl, by decide⟩
set_option maxHeartbeats 4000000 in
theorem dnums_any (A : Option Addr) (n c : Nat) (bs : List UInt8) (B : Option Addr) (k kc : Nat) (L : List (Nat × Nat)) (w : World) (hR : RB w A n bs) (hnc : n ≤ c) (hcc : c ≤ 9223372036854775807) (hn : n ≤ 16777216)
    (hL : ReadR w B (L.flatMap pairCells)) (hk : L.length = k) (hk2 : k ≤ 10) (hl : ∀ x ∈ L, x.1 ≤ 1099511627776 ∧ (x.2 = 2 ∨ x.2 = 4)) :
    Calls Tryd.prog 32 #[.slice A n c, .slice B k kc] w (NumsPost w bs L) := by
  have HL := Lib.hid (And.intro hL (And.intro hk hl))
  have HR := Lib.hid hR
  clear hR hL hl
  go_enter Tryd.func32, Tryd.ntmps32
  go_wp2_with (fail)
  go_loopw [6, 7, 8, 9] (fun vo vi v8 v9 wl => ∃ (i cV : Nat) (V : Option Addr), vo = .slice V i cV ∧ vi = .int .i64 (i : Int) ∧ i ≤ k ∧ Hid (OwnR wl w.heap.size 3 1 V i cV ((L.take i).map (numV bs)) ∧ Below w.heap.size w wl ∧ allIn bs (L.take i) = true)) (fun _ vi _ _ _ => k - (intOf vi).toNat)
  case atStart => exact ⟨0, 0, none, rfl, rfl, Nat.zero_le _, OwnR.nil _ _ _ _, Below.refl _ _, rfl⟩
  case round =>
    obtain ⟨i, cV, V, rfl, rfl, hi, HK⟩ := hrel
    by_cases hlt : i < k
    · have i1 : decide ((i : Int) < (k : Int)) = true := by simp; omega
      have i2 : (i : Int) < (k : Int) := by omega
      have e3 : IntKind.i64.wrap ((i : Int) + 1) = (i : Int) + 1 := IntWalk.i64_in _ (by omega)
      obtain ⟨x, hx⟩ : ∃ x, L[i]? = some x := ⟨_, List.getElem?_eq_getElem (by have := HL.out.2.1; omega)⟩
      obtain ⟨hx1, hx2⟩ := HL.out.2.2 x (List.mem_of_getElem? hx)
      obtain ⟨p0, p1⟩ := pair_at L i x hx
      have hrd := HL.out.1.below HK.out.2.1 (Nat.le_refl _)
      obtain ⟨b, off, hB, _, k0⟩ := hrd.at_ p0
      obtain ⟨b', off', hB', _, k1⟩ := hrd.at_ p1
      subst hB
      obtain ⟨rfl, rfl⟩ : b' = b ∧ off' = off := by injection hB' with e; injection e with e1 e2; exact ⟨e1.symm, e2.symm⟩
      have k1' : wr.cell? ⟨b', off' + i * 2 + 1, none⟩ = some (.int .i64 (x.2 : Nat)) := k1
      have C := Lib.hid (fun y : Up wr => dnum_any A n c bs x.1 x.2 x.1 x.2 y.w ((HR.out.below HK.out.2.1).below y.b) hnc hcc hn rfl rfl hx2 hx1)
      have K0 : ∀ y : Up wr, y.w.cell? ⟨b', off' + i * 2, none⟩ = some (.int .i64 (x.1 : Nat)) := Up.cell k0
      have K1 : ∀ y : Up wr, y.w.cell? ⟨b', off' + i * 2 + 1, none⟩ = some (.int .i64 (x.2 : Nat)) := Up.cell k1'
      have htk : L.take (i + 1) = L.take i ++ [x] := by rw [List.take_add_one, hx]; rfl
      have HT := Lib.hid (And.intro htk hx)
      clear hrd hB' p0 p1 k1 k0 k1' hx1 hx2 htk hx
      go_upto_region 5 with (fail)
      refine wp_region_up (by kernel_rfl) (by kernel_rfl) ?_
      repeat (go_big_quiet_step (first | (go_at_call 30; with_reducible exact Up.calls (C.out _))))
      refine wpQuiet_nil ?_
      rintro _ ⟨y9, rfl⟩
      have hb1 := y9.b
      generalize y9.w = W1 at hb1
      clear C K0 K1
      have HK1 : Hid (OwnR W1 w.heap.size 3 1 V i cV ((L.take i).map (numV bs)) ∧ Below w.heap.size w W1 ∧ allIn bs (L.take i) = true) := ⟨HK.out.1.below hb1 (Nat.le_refl _), kp_call HK.out.2.1 hb1, HK.out.2.2⟩
      clear hb1 HK
      cases hq : inQ bs x.1 x.2 with
      | false =>
        have hall : allIn bs L = false := by
          unfold allIn
          rw [← Bool.not_eq_true]
          intro h
          have := List.all_eq_true.1 h x (List.mem_of_getElem? HT.out.2)
          rw [hq] at this; cases this
        have HALL := Lib.hid hall
        clear hall hq
        go_wp2_with (fail)
        go_ret2
        exact ⟨⟨none, 0, 0, by rw [HALL.out]; rfl, fun h => by rw [HALL.out] at h; cases h⟩, HK1.out.2.1⟩
      | true =>
        have hv : (L.take (i + 1)).map (numV bs) = (L.take i).map (numV bs) ++ [numV bs x] := by rw [HT.out.1, List.map_append]; rfl
        have ha : allIn bs (L.take (i + 1)) = true := by
          unfold allIn at *
          rw [HT.out.1, List.all_append, HK1.out.2.2]
          simp [hq]
        have HV := Lib.hid (And.intro hv ha)
        have hwz : w.heap.size ≤ W1.heap.size := HK1.out.2.1.size
        clear hv ha hq HT
        go_wp2_with (at_builtin; refine wpList_appL int_rowP _ _ rfl rfl rfl w.heap.size V i cV _ rfl (HK1.out.1.alloc _) _ 1 1 #[numV bs x] (0, 0) rfl (has_new _ _) rfl (by intro u hu; simp at hu; subst hu; rfl) (by unfold maxLen; omega) (by omega) (by simp; omega) ?_)
        intro V' c' w4 ho4 hg4
        have hb4 : Below w.heap.size w w4 := (kp_alloc HK1.out.2.1 _).grown hg4 (by simp; omega) (fun q hq => (HK1.out.1.blk_lt hq).1)
        have HN : Hid (OwnR w4 w.heap.size 3 1 V' (i + 1) c' ((L.take (i + 1)).map (numV bs)) ∧ Below w.heap.size w w4 ∧ allIn bs (L.take (i + 1)) = true) := ⟨by rw [HV.out.1, List.map_take]; exact ho4, hb4, HV.out.2⟩
        clear ho4 hg4 hb4 HK1 HV
        go_wp2_with (fail)
        go_roundw
        case rel => exact ⟨i + 1, c', V', rfl, by go_num, by omega, HN⟩
        case measure => simp [intOf]; omega
    · have i1 : decide ((i : Int) < (k : Int)) = false := by simp; omega
      obtain rfl : i = k := by omega
      go_wp2_with (fail)
      go_ret2
      have h1 : L.take i = L := by rw [← HL.out.2.1, List.take_length]
      have h2 := HK.out
      rw [h1] at h2
      refine ⟨⟨V, i, cV, by rw [h2.2.2]; rfl, fun _ => ⟨HL.out.2.1.symm, h2.1⟩⟩, h2.2.1⟩
end Go.Proofs.YtjfpiidofbjdhaaDoor
