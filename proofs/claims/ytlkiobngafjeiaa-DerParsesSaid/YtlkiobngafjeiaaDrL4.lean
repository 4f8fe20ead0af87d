/-
  der: the statement on what lies within.
-/
import Derived.Test.YtlkiobngafjeiaaDrWk
import Derived.Test.YtlkiobngafjeiaaDrA
namespace Go.Proofs.Ytlkiobngafjeiaa
open Go.RowKit Go
set_option linter.unusedVariables false
set_option maxRecDepth 100000
theorem eflat_get (vs : List EV) (v : EV) (j : Nat) (h : vs[j]? = some v) : (vs.flatMap EV.cells)[j * 3]? = some (.int .u8 (v.tag.toNat : Int)) ∧ (vs.flatMap EV.cells)[j * 3 + 1]? = some (.slice v.ba v.bn v.bc) ∧ (vs.flatMap EV.cells)[j * 3 + 2]? = some (.slice v.ra v.rn v.rc) := by
  induction vs generalizing j with
  | nil => simp at h
  | cons x r ih =>
    cases j with
    | zero =>
      simp at h
      subst h
      exact ⟨rfl, rfl, rfl⟩
    | succ k =>
      simp only [List.getElem?_cons_succ] at h
      have := ih k h
      simp only [List.flatMap_cons, EV.cells, List.cons_append, List.nil_append]
      rw [show (k + 1) * 3 = k * 3 + 1 + 1 + 1 by omega]
      simp only [List.getElem?_cons_succ]
      exact this
theorem Evs.pair {w : World} {base : Nat} {vs : List EV} (h : Evs w base vs) {v : EV} (hv : v ∈ vs) : OwnB w base v.ba v.bn v.bc v.body ∧ OwnB w base v.ra v.rn v.rc v.raw :=
  ⟨h.own (v.ba, v.bn, v.bc, v.body) (List.mem_flatMap.2 ⟨v, hv, by simp [EV.own]⟩), h.own (v.ra, v.rn, v.rc, v.raw) (List.mem_flatMap.2 ⟨v, hv, by simp [EV.own]⟩)⟩
theorem within_big (A : Option Addr) (n c : Nat) (w : World) (hb : 8192 < n) :
    Calls Try.prog 15 #[.slice A n c] w fun e w' => e = .returned (.bool true) ∧ Below w.heap.size w w' := by
  have W := Lib.hid (works_any w)
  have L := Lib.hid (large_any A n c w)
  have hd : decide ((8192 : Int) < (n : Int)) = true := by simp; omega
  rw [hd] at L
  clear hd
  go_enter Try.func15, Try.ntmps15
  go_wp2_with fail
  refine L.out.mono ?_
  rintro e w' ⟨rfl, rfl⟩
  go_wp2_with fail
  refine W.out.mono ?_
  rintro e w' ⟨rfl, hb⟩
  go_wp2
  go_ret
  exact ⟨rfl, hb⟩
theorem within_none (A : Option Addr) (n c : Nat) (bs : List UInt8) (w : World) (h : IsBs w A n c bs) (hb : n ≤ 8192) (hq : allQ bs = none) :
    Calls Try.prog 15 #[.slice A n c] w fun e w' => e = .returned (.bool true) ∧ Below w.heap.size w w' := by
  have W := Lib.hid (fun W => works_any W)
  have L := Lib.hid (large_any A n c w)
  have hd : decide ((8192 : Int) < (n : Int)) = false := by simp; omega
  rw [hd] at L
  clear hd
  have hmx := h.max
  have hle := h.le
  unfold maxLen at hmx
  have hl := h.len
  have WR := Lib.hid (write_any 48 A n c bs w h.rb (by omega))
  have AL := Lib.hid (fun W (hw : Below w.heap.size w W) => (all_any A n c bs W (h.rb.below hw) hle (by omega) (by omega)).mono (R' := fun e w' => e = .returned (.tuple #[.slice none 0 0, .int .i64 9]) ∧ Below W.heap.size W w') (fun e w' hp => by unfold AllPost at hp; rw [hq] at hp; exact hp))
  have hne : bs ≠ [] := by rintro rfl; rw [allQ_nil] at hq; cases hq
  have hck : checkQ (wrQ 48 bs) = 9 := by
    rw [check_wr 48 (by decide) bs (by omega)]
    exact chk_none (by rw [nth_wr]; rintro (e | e); exact absurd e (by decide); exact hne e) hq
  have hwl : (wrQ 48 bs).length ≤ 100000 := by
    have h1 := lenB_len 4 bs.length (by omega)
    unfold wrQ
    split <;> simp <;> omega
  have HCK := Lib.hid hck
  have HWL := Lib.hid hwl
  clear hck hwl hne hq hmx hle hl h
  go_enter Try.func15, Try.ntmps15
  go_wp2_with fail
  refine L.out.mono ?_
  rintro e w' ⟨rfl, rfl⟩
  go_wp2_with fail
  refine WR.out.mono ?_
  rintro e w1 ⟨A1, n1, c1, rfl, ho1, hb1⟩
  have hln := ho1.len
  have CK : Hid (∀ W, Below w1.heap.size w1 W → Calls Try.prog 33 #[.slice A1 n1 c1] W (ChkPost W 9)) := fun W hw => by
    have := Check_any A1 n1 c1 (wrQ 48 bs) W (ho1.rb.below hw) ho1.cap.1 (by have := HWL.out; omega) (by have := ho1.cap.2; unfold maxLen at this; omega)
    rw [HCK.out] at this
    exact this
  clear hln ho1
  go_wp2_with fail
  refine (AL.out _ hb1).mono ?_
  rintro e w2 ⟨rfl, hb2⟩
  go_wp2_with fail
  refine (CK.out _ hb2).mono ?_
  rintro e w3 ⟨rfl, hb3⟩
  go_wp2_with fail
  refine (W.out _).mono ?_
  rintro e w' ⟨rfl, hb⟩
  go_wp2
  go_ret
  exact ⟨rfl, kp_call (kp_call (kp_call hb1 hb2) hb3) hb⟩
set_option maxHeartbeats 1000000 in
theorem within_some (A : Option Addr) (n c : Nat) (bs : List UInt8) (w : World) (h : IsBs w A n c bs) (hb : n ≤ 8192) (l : List (List UInt8 × List UInt8)) (hq : allQ bs = some l) :
    Calls Try.prog 15 #[.slice A n c] w fun e w' => e = .returned (.bool true) ∧ Below w.heap.size w w' := by
  have W := Lib.hid (fun W => works_any W)
  have L := Lib.hid (large_any A n c w)
  have hd : decide ((8192 : Int) < (n : Int)) = false := by simp; omega
  rw [hd] at L
  clear hd
  have hmx := h.max
  have hle := h.le
  unfold maxLen at hmx
  have hl := h.len
  have WR := Lib.hid (write_any 48 A n c bs w h.rb (by omega))
  have AL := Lib.hid (fun W (hw : Below w.heap.size w W) => (all_any A n c bs W (h.rb.below hw) hle (by omega) (by omega)).mono (R' := fun e w' => (∃ (A : Option Addr) (n c : Nat) (vs : List EV), e = .returned (.tuple #[.slice A n c, .int .i64 0]) ∧ vs.map (fun v => (v.raw, v.body)) = l ∧ OwnR w' W.heap.size 27 3 A n c (vs.flatMap EV.cells) ∧ Evs w' W.heap.size vs) ∧ Below W.heap.size W w') (fun e w' hp => by unfold AllPost at hp; rw [hq] at hp; exact hp))
  obtain ⟨F, hF⟩ : ∃ F, checkQ (wrQ 48 bs) = F := ⟨_, rfl⟩
  have hFv : F = 0 ∨ F = 9 ∨ F = 10 := by
    rw [← hF, check_wr 48 (by decide) bs (by omega)]
    exact chk_vals _ _ _
  have hF0 : F = 0 → ∀ p ∈ l, checkQ p.1 = 0 := fun e p hp => by
    rw [check_wr 48 (by decide) bs (by omega)] at hF
    have hne : bs ≠ [] := by rintro rfl; rw [allQ_nil] at hq; cases hq; cases hp
    rw [chk_some (by rw [nth_wr]; rintro (e | e); exact absurd e (by decide); exact hne e) hq, e] at hF
    have h1 := firstN_eq_zero hF _ (List.mem_map_of_mem hp)
    unfold checkQ
    rw [allQ_mem _ bs l (Nat.le_refl _) hq p hp]
    exact chk_mono 14 _ _ h1
  have hwl : (wrQ 48 bs).length ≤ 100000 := by
    have h1 := lenB_len 4 bs.length (by omega)
    unfold wrQ
    split <;> simp <;> omega
  have hll := allQ_len _ bs l (Nat.le_refl _) hq
  have hpl : ∀ p ∈ l, p.1.length ≤ 8192 := fun p hp => by
    have h9 : ∀ (k : Nat) (bs : List UInt8) (l : List (List UInt8 × List UInt8)), bs.length ≤ k → allQ bs = some l → ∀ p ∈ l, p.1.length ≤ bs.length := fun k => by
      induction k with
      | zero =>
        intro bs l hk h
        obtain rfl : bs = [] := List.length_eq_zero_iff.1 (by omega)
        rw [allQ_nil] at h
        cases h
        intro p hp; cases hp
      | succ k ih =>
        intro bs l hk h
        by_cases hn : bs = []
        · subst hn
          rw [allQ_nil] at h
          cases h
          intro p hp; cases hp
        cases hq : splitQ bs with
        | none => rw [allQ_none hn hq] at h; cases h
        | some q =>
          obtain ⟨s, t⟩ := q
          rw [allQ_some hq] at h
          obtain ⟨l', h1, rfl⟩ := Option.map_eq_some_iff.1 h
          have hle := splitQ_le hq
          intro p hp
          rcases List.mem_cons.1 hp with rfl | hp
          · show (bs.take t).length ≤ _
            rw [List.length_take]; omega
          · have := ih (bs.drop t) l' (by rw [List.length_drop]; omega) h1 p hp
            rw [List.length_drop] at this
            omega
    have := h9 _ bs l (Nat.le_refl _) hq p hp
    omega
  have HCK := Lib.hid hF
  have HWL := Lib.hid hwl
  have HF0 := Lib.hid hF0
  have HPL := Lib.hid (fun p (hp : p ∈ l) => hpl p hp)
  have HLL : Hid (l.length ≤ 8192) := by unfold Hid; omega
  clear hF hwl hF0 hpl hll hq hmx hle hl h
  go_enter Try.func15, Try.ntmps15
  go_wp2_with fail
  refine L.out.mono ?_
  rintro e w' ⟨rfl, rfl⟩
  go_wp2_with fail
  refine WR.out.mono ?_
  rintro e w1 ⟨A1, n1, c1, rfl, ho1, hb1⟩
  have hln := ho1.len
  have CK : Hid (∀ W, Below w1.heap.size w1 W → Calls Try.prog 33 #[.slice A1 n1 c1] W (ChkPost W F)) := fun W hw => by
    have := Check_any A1 n1 c1 (wrQ 48 bs) W (ho1.rb.below hw) ho1.cap.1 (by have := HWL.out; omega) (by have := ho1.cap.2; unfold maxLen at this; omega)
    rw [HCK.out] at this
    exact this
  clear hln ho1
  go_wp2_with fail
  refine (AL.out _ hb1).mono ?_
  rintro e w2 ⟨⟨A2, n2, c2, vs, rfl, hvs, hrow, hev⟩, hb2⟩
  have hnv : n2 = vs.length := by have := hrow.len; rw [ecells_flat] at this; omega
  have hn2 : n2 ≤ 8192 := by
    have h9 := congrArg List.length hvs
    simp at h9
    have := HLL.out
    omega
  have HNV := Lib.hid hnv
  have HVS := Lib.hid hvs
  have HRW := Lib.hid hrow
  have HEV := Lib.hid hev
  have HB2 := Lib.hid (kp_call hb1 hb2)
  clear hnv hvs hrow hev hb1
  by_cases hF : F = 0
  · subst hF
    go_wp2_with fail
    refine (CK.out _ hb2).mono ?_
    rintro e w3 ⟨rfl, hb3⟩
    clear hb2
    go_wp2
    go_loopw [7] (fun i wl => ∃ j : Nat, j ≤ n2 ∧ i = .int .i64 j ∧ Below w2.heap.size w2 wl) (fun i _ => n2 - (intOf i).toNat)
    case atStart => exact ⟨0, Nat.zero_le _, rfl, hb3⟩
    case round =>
      obtain ⟨j, hj, rfl, hbl⟩ := hrel
      clear hb3
      by_cases hlt : j < n2
      · obtain ⟨v, hv⟩ : ∃ v, vs[j]? = some v := ⟨_, List.getElem?_eq_getElem (by rw [← HNV.out]; exact hlt)⟩
        obtain ⟨_, _, hg2⟩ := eflat_get vs v j hv
        obtain ⟨b, off, rfl, hbb, hc0⟩ := HRW.out.reads.at_ hg2
        have d0 := kp_cell hbl hc0
        rw [← Nat.add_assoc] at d0
        obtain ⟨_, hraw⟩ := HEV.out.pair (List.mem_of_getElem? hv)
        have hmem : (v.raw, v.body) ∈ l := by rw [← HVS.out]; exact List.mem_map_of_mem (List.mem_of_getElem? hv)
        have CE : Hid (Calls Try.prog 33 #[.slice v.ra v.rn v.rc] wr (ChkPost wr 0)) := by
          have h9 := HPL.out _ hmem
          have h8 := hraw.len
          have := Check_any v.ra v.rn v.rc v.raw wr (hraw.rb.below hbl) hraw.cap.1 (by simp only at h9; omega) (by have := hraw.cap.2; unfold maxLen at this; omega)
          rw [HF0.out (by trivial) _ hmem] at this
          exact this
        have hsr := hbl.size
        clear hc0 hg2 hv hraw hmem
        go_wp2_with fail
        refine CE.out.mono ?_
        rintro e w4 ⟨rfl, hb4⟩
        go_wp2
        go_roundw
        case rel => exact ⟨j + 1, by omega, by go_num, kp_call hbl hb4⟩
        case measure => simp [intOf]; omega
      · obtain rfl : j = n2 := by omega
        go_wp2_with fail
        refine (W.out _).mono ?_
        rintro e w' ⟨rfl, hb⟩
        go_wp2
        go_ret
        exact ⟨rfl, kp_call (kp_call HB2.out hbl) hb⟩
  · rcases hFv with h | rfl | rfl
    · exact absurd h hF
    all_goals
      clear hF
      go_wp2_with fail
      refine (CK.out _ hb2).mono ?_
      rintro e w3 ⟨rfl, hb3⟩
      go_wp2_with fail
      refine (W.out _).mono ?_
      rintro e w' ⟨rfl, hb⟩
      go_wp2
      go_ret
      exact ⟨rfl, kp_call (kp_call HB2.out hb3) hb⟩
theorem within_row (A : Option Addr) (n c : Nat) (bs : List UInt8) (w : World) (h : IsBs w A n c bs) :
    Calls Try.prog 15 #[.slice A n c] w fun e w' => e = .returned (.bool true) ∧ Below w.heap.size w w' := by
  by_cases hb : 8192 < n
  · exact within_big A n c w hb
  cases hq : allQ bs with
  | none => exact within_none A n c bs w h (by omega) hq
  | some l => exact within_some A n c bs w h (by omega) l hq
end Go.Proofs.Ytlkiobngafjeiaa
