/-
  pe: the document's Rise: sections by where they lie.
-/
import Derived.Test.YtjfpiidofbjdhaaDoorPfA
import Derived.Test.YtjfpiidofbjdhaaDoorPeC
import Derived.Test.YtjfpiidofbjdhaaDoorPeD
namespace Go.Proofs.YtjfpiidofbjdhaaDoor
open Go.RowKit Go
set_option linter.unusedVariables false
set_option linter.unusedSimpArgs false
set_option maxRecDepth 100000
theorem flat_set : ∀ (L : List (Nat × Nat)) (j : Nat) (y : Nat × Nat), j < L.length → ((L.flatMap secCells).set (j * 2) (.int .u32 (y.1 : Nat))).set (j * 2 + 1) (.int .u32 (y.2 : Nat)) = (L.set j y).flatMap secCells
  | [], j, y, h => absurd h (Nat.not_lt_zero _)
  | x :: r, 0, y, h => rfl
  | x :: r, j + 1, y, h => by
    have ih := flat_set r j y (by simpa using h)
    rw [List.set_cons_succ, List.flatMap_cons, List.flatMap_cons, ← ih]
    have e1 : (j + 1) * 2 = j * 2 + 2 := by omega
    rw [e1]
    rfl
theorem flat_len (L : List (Nat × Nat)) : (L.flatMap secCells).length = L.length * 2 := sec_len L
/-- x stands at place k of what stood there ahead. -/
def putAt (P : List (Nat × Nat)) (x : Nat × Nat) (k : Nat) : List (Nat × Nat) := P.take k ++ x :: P.drop k
theorem putAt_len (P : List (Nat × Nat)) (x : Nat × Nat) (k : Nat) (h : k ≤ P.length) : (putAt P x k).length = P.length + 1 := by
  unfold putAt
  rw [List.length_append, List.length_take, List.length_cons, List.length_drop]; omega
theorem putAt_end (P : List (Nat × Nat)) (x : Nat × Nat) : putAt P x P.length = P ++ [x] := by
  unfold putAt
  rw [List.take_length, List.drop_length]
theorem putAt_get (P : List (Nat × Nat)) (x y : Nat × Nat) (k : Nat) (hk : P[k]? = some y) : (putAt P x (k + 1))[k]? = some y := by
  have hl : k < P.length := by
    rcases Nat.lt_or_ge k P.length with h | h
    · exact h
    · rw [List.getElem?_eq_none h] at hk; cases hk
  unfold putAt
  rw [List.getElem?_append_left (by rw [List.length_take]; omega), List.getElem?_take, if_pos (by omega), hk]
theorem putAt_down (P : List (Nat × Nat)) (x y : Nat × Nat) (k : Nat) (hk : P[k]? = some y) : ((putAt P x (k + 1)).set (k + 1) y).set k x = putAt P x k := by
  have hl : k < P.length := by
    rcases Nat.lt_or_ge k P.length with h | h
    · exact h
    · rw [List.getElem?_eq_none h] at hk; cases hk
  have h1 : P.take (k + 1) = P.take k ++ [y] := by rw [List.take_add_one, hk]; rfl
  have h2 : P.drop k = y :: P.drop (k + 1) := by
    rw [List.drop_eq_getElem_cons hl]
    rw [List.getElem?_eq_getElem hl] at hk
    injection hk with hk
    rw [hk]
  have h3 : (P.take k).length = k := by rw [List.length_take]; omega
  unfold putAt
  rw [h1, h2]
  rw [show P.take k ++ [y] ++ x :: P.drop (k + 1) = P.take k ++ (y :: x :: P.drop (k + 1)) by simp]
  rw [List.set_append_right _ _ (by omega), List.set_append_right _ _ (by omega), h3, Nat.sub_self, show k + 1 - k = 1 by omega]
  rfl
theorem putAt_perm (P : List (Nat × Nat)) (x : Nat × Nat) (k : Nat) : (putAt P x k).Perm (P ++ [x]) := by
  unfold putAt
  have h1 : (P.take k ++ x :: P.drop k).Perm (x :: (P.take k ++ P.drop k)) := List.perm_middle
  rw [List.take_append_drop] at h1
  exact h1.trans (List.perm_append_comm (l₁ := [x]) (l₂ := P))
theorem putAt_sorted (P : List (Nat × Nat)) (x : Nat × Nat) (k : Nat) (hs : P.Pairwise fun a b => a.1 ≤ b.1) (h1 : ∀ y ∈ P.drop k, x.1 < y.1) (h0 : k = 0 ∨ ∃ y, P[k - 1]? = some y ∧ y.1 ≤ x.1) : (putAt P x k).Pairwise fun a b => a.1 ≤ b.1 := by
  unfold putAt
  have hp : (P.take k ++ P.drop k).Pairwise fun a b => a.1 ≤ b.1 := by rw [List.take_append_drop]; exact hs
  rw [List.pairwise_append] at hp ⊢
  obtain ⟨p1, p2, p3⟩ := hp
  have hx : ∀ a ∈ P.take k, a.1 ≤ x.1 := by
    intro a ha
    rcases h0 with rfl | ⟨y, hy, hyx⟩
    · cases ha
    · obtain ⟨j, hj, he⟩ := List.getElem_of_mem ha
      rw [List.length_take] at hj
      have hjp : j < P.length := by omega
      have hk1 : k - 1 < P.length := by
        rcases Nat.lt_or_ge (k - 1) P.length with h | h
        · exact h
        · rw [List.getElem?_eq_none h] at hy; cases hy
      have haj : a = P[j] := by rw [← he, List.getElem_take]
      have hyk : y = P[k - 1] := by rw [List.getElem?_eq_getElem hk1] at hy; exact (Option.some.inj hy).symm
      by_cases e : j = k - 1
      · subst e
        rw [haj, ← hyk]; exact hyx
      · have := List.pairwise_iff_getElem.1 hs j (k - 1) hjp hk1 (by omega)
        rw [haj]
        rw [← hyk] at this
        omega
  refine ⟨p1, List.pairwise_cons.2 ⟨fun y hy => Nat.le_of_lt (h1 y hy), p2⟩, fun a ha b hb => ?_⟩
  rcases List.mem_cons.1 hb with rfl | hb
  · exact hx a ha
  · exact p3 a ha b hb
def RisePost (w : World) (L : List (Nat × Nat)) (e : Ending) (w' : World) : Prop :=
  ∃ (V : Option Addr) (m cV : Nat) (L' : List (Nat × Nat)), e = .returned (.slice V m cV) ∧ m = L.length ∧ L'.Perm L ∧ L'.Pairwise (fun a b => a.1 ≤ b.1) ∧ OwnR w' w.heap.size 43 2 V m cV (L'.flatMap secCells) ∧ Below w.heap.size w w'
set_option maxHeartbeats 8000000 in
theorem drise_any (A : Option Addr) (n c : Nat) (L : List (Nat × Nat)) (w : World) (hR : ReadR w A (L.flatMap secCells)) (hl : L.length = n) (hn : n ≤ 1000) :
    Calls Tryd.prog 51 #[.slice A n c] w (RisePost w L) := by
  have HR := Lib.hid (And.intro hR hl)
  clear hR hl
  go_enter Tryd.func51, Tryd.ntmps51
  go_wp2_with (fail)
  go_loopw [3, 4, 5] (fun vo vi v5 wl => ∃ (i cV : Nat) (V : Option Addr) (P : List (Nat × Nat)), vo = .slice V i cV ∧ vi = .int .i64 (i : Int) ∧ i ≤ n ∧ Hid (P.Perm (L.take i) ∧ P.Pairwise (fun a b => a.1 ≤ b.1) ∧ OwnR wl w.heap.size 43 2 V i cV (P.flatMap secCells) ∧ Below w.heap.size w wl)) (fun _ vi _ _ => n - (intOf vi).toNat)
  case atStart => exact ⟨0, 0, none, [], rfl, rfl, Nat.zero_le _, List.Perm.refl _, List.Pairwise.nil, OwnR.nil _ _ _ _, Below.refl _ _⟩
  case round =>
    obtain ⟨i, cV, V, P, rfl, rfl, hi, HK⟩ := hrel
    by_cases hlt : i < n
    · have i1 : decide ((i : Int) < (n : Int)) = true := by simp; omega
      have i1n : decide (i < n) = true := by simp; omega
      have i2 : (i : Int) < (n : Int) := by omega
      have e3 : IntKind.i64.wrap ((i : Int) + 1) = (i : Int) + 1 := IntWalk.i64_in _ (by omega)
      obtain ⟨x, hx⟩ : ∃ x, L[i]? = some x := ⟨_, List.getElem?_eq_getElem (by have := HR.out.2; omega)⟩
      obtain ⟨p0, p1⟩ := sec_at L i x hx
      have hrd := HR.out.1.below HK.out.2.2.2 (Nat.le_refl _)
      obtain ⟨b, off, hA, hbl, k0⟩ := hrd.at_ p0
      obtain ⟨b', off', hA', _, k1⟩ := hrd.at_ p1
      obtain ⟨b2, off2, hA2, hb2, _⟩ := HR.out.1.at_ p0
      subst hA
      obtain ⟨rfl, rfl⟩ : b' = b ∧ off' = off := by injection hA' with e; injection e with e1 e2; exact ⟨e1.symm, e2.symm⟩
      obtain ⟨rfl, rfl⟩ : b2 = b' ∧ off2 = off' := by injection hA2 with e; injection e with e1 e2; exact ⟨e1.symm, e2.symm⟩
      have k1' : wr.cell? ⟨b2, off2 + i * 2 + 1, none⟩ = some (.int .u32 (x.2 : Nat)) := k1
      have htk : L.take (i + 1) = L.take i ++ [x] := by rw [List.take_add_one, hx]; rfl
      have HT := Lib.hid (And.intro htk p0)
      have HT1 := Lib.hid p1
      have hpl : P.length = i := by have := HK.out.1.length_eq; rw [List.length_take, HR.out.2] at this; omega
      have HPL := Lib.hid hpl
      have HPS := Lib.hid (And.intro HK.out.1 HK.out.2.1)
      have hwz : w.heap.size ≤ wr.heap.size := HK.out.2.2.2.size
      clear hrd hA' hA2 k1 p0 p1 hx htk hpl hbl
      go_wp2_with (at_builtin; refine wpList_appL sec_row _ _ rfl rfl rfl w.heap.size V i cV _ rfl (HK.out.2.2.1.alloc _) _ 1 1 #[.int .u32 (x.1 : Nat), .int .u32 (x.2 : Nat)] (0, 0) rfl (has_new _ _) rfl (by intro u hu; simp at hu; rcases hu with rfl | rfl <;> rfl) (by unfold maxLen; omega) (by omega) (by simp; omega) ?_; intro V' c' w4 ho4 hg4; have hb4 : Below w.heap.size w w4 := (kp_alloc HK.out.2.2.2 _).grown hg4 (by simp; omega) (fun q hq => (HK.out.2.2.1.blk_lt hq).1); have hcp := ho4.cap.1; obtain ⟨g, hV', hgw, _⟩ := ho4.shape (by omega); subst hV'; have HK4 : Hid (OwnR w4 w.heap.size 43 2 (some ⟨g, 0, none⟩) (i + 1) c' ((putAt P x i).flatMap secCells) ∧ (∀ y ∈ P.drop i, x.1 < y.1) ∧ Below w.heap.size w w4) := (by refine Lib.hid ⟨?_, ?_, hb4⟩; (rw [← HPL.out, putAt_end, List.flatMap_append, HPL.out]; exact ho4); (rw [← HPL.out, List.drop_length]; intro y hy; cases hy)); have HG : Hid (w.heap.size ≤ g) := hgw; clear ho4 hg4 hb4 hcp hgw k0 k1')
      have hdn := HT1
      clear HK
      have hxb : b2 < w.heap.size := hb2
      go_loopw [5] (fun vk wl => ∃ k : Nat, vk = .int .i64 (k : Int) ∧ k ≤ i ∧ Hid (OwnR wl w.heap.size 43 2 (some ⟨g, 0, none⟩) (i + 1) c' ((putAt P x k).flatMap secCells) ∧ (∀ y ∈ P.drop k, x.1 < y.1) ∧ Below w.heap.size w wl)) (fun vk _ => (intOf vk).toNat)
      case atStart => exact ⟨i, by go_num, Nat.le_refl _, HK4⟩
      case round =>
        obtain ⟨k, rfl, hk, HI⟩ := hrel
        clear HK4
        have HDONE : Hid ((k = 0 ∨ ∃ y, P[k - 1]? = some y ∧ y.1 ≤ x.1) → ∀ q, (putAt P x k).Perm (L.take (i + 1)) ∧ (putAt P x k).Pairwise (fun a b => a.1 ≤ b.1) ∧ OwnR (wr.drewN q) w.heap.size 43 2 (some ⟨g, 0, none⟩) (i + 1) c' ((putAt P x k).flatMap secCells) ∧ Below w.heap.size w (wr.drewN q)) := by
          refine Lib.hid (fun h0 q => ⟨?_, putAt_sorted P x k HPS.out.2 HI.out.2.1 h0, HI.out.1.drewN q, kp_drewN HI.out.2.2 q⟩)
          rw [HT.out.1]
          exact (putAt_perm P x k).trans (HPS.out.1.append_right [x])
        by_cases hk0 : k = 0
        · subst hk0
          have HD := Lib.hid (HDONE.out (.inl rfl))
          clear HDONE HI
          go_upto_region 7 with (fail)
          go_quiet (fail)
          go_wp2_with (fail)
          go_roundw
          case rel => exact ⟨i + 1, c', some ⟨g, 0, none⟩, _, rfl, by go_num, by omega, HD.out _⟩
          case measure => simp [intOf]; omega
        · obtain ⟨km, hkm⟩ : ∃ km, k = km + 1 := ⟨k - 1, by omega⟩
          have e4 : IntKind.i64.wrap ((k : Int) - 1) = (km : Int) := by rw [IntWalk.i64_in _ (by omega)]; omega
          have u1 : decide ((0 : Int) < (k : Int)) = true := by simp; omega
          have u1n : decide (0 < k) = true := by simp; omega
          obtain ⟨y, hy⟩ : ∃ y, P[km]? = some y := ⟨_, List.getElem?_eq_getElem (by rw [HPL.out]; omega)⟩
          have hyk : (putAt P x k)[km]? = some y := by rw [hkm]; exact putAt_get P x y km hy
          obtain ⟨c0, c1⟩ := sec_at _ _ _ hyk
          have o0 := ownR_at HI.out.1 c0
          have o1 := ownR_at HI.out.1 c1
          have j1 : (km : Int) < ((i + 1 : Nat) : Int) := by omega
          have j1n : km < i + 1 := by omega
          have j2 : (k : Int) < ((i + 1 : Nat) : Int) := by omega
          have j2n : k < i + 1 := by omega
          have hrd := HR.out.1.below HI.out.2.2 (Nat.le_refl _)
          obtain ⟨b3, off3, hA3, _, a0⟩ := hrd.at_ HT.out.2
          obtain ⟨rfl, rfl⟩ : b2 = b3 ∧ off2 = off3 := by injection hA3 with e; injection e with e1 e2; exact ⟨e1, e2⟩
          by_cases hgt : x.1 < y.1
          · have u2 : decide ((x.1 : Int) < (y.1 : Int)) = true := by simp; omega
            have u2n : decide (x.1 < y.1) = true := by simp; omega
            have hxk : (putAt P x k)[k]? = some x := by
              unfold putAt
              have h3 : (P.take k).length = k := by rw [List.length_take, HPL.out]; omega
              rw [List.getElem?_append_right (by omega), h3, Nat.sub_self]
              rfl
            obtain ⟨d0, d1⟩ := sec_at _ _ _ hxk
            have q0 := ownR_at HI.out.1 d0
            have q1 := ownR_at HI.out.1 d1
            have f0 := HI.out.1.free (k * 2)
            have f1 := HI.out.1.free (k * 2 + 1)
            have hpk : (putAt P x k).length = i + 1 := by rw [putAt_len _ _ _ (by rw [HPL.out]; omega), HPL.out]
            have HS9 : Hid (∀ q, OwnR (((wr.drewN q).setCell ⟨g, k * 2, none⟩ (.int .u32 (y.1 : Nat))).setCell ⟨g, k * 2 + 1, none⟩ (.int .u32 (y.2 : Nat))) w.heap.size 43 2 (some ⟨g, 0, none⟩) (i + 1) c' (((putAt P x k).set k y).flatMap secCells) ∧ Below w.heap.size w (((wr.drewN q).setCell ⟨g, k * 2, none⟩ (.int .u32 (y.1 : Nat))).setCell ⟨g, k * 2 + 1, none⟩ (.int .u32 (y.2 : Nat)))) := by
              refine Lib.hid (fun q => ⟨?_, kp_set (kp_set (kp_drewN HI.out.2.2 q) HG.out) HG.out⟩)
              rw [← flat_set _ k y (by omega)]
              exact ((HI.out.1.drewN q).stored (k * 2) _).stored (k * 2 + 1) _
            have HY := Lib.hid (And.intro hy (And.intro hkm (And.intro hgt HI.out.2.1)))
            clear HDONE HI hyk hxk c0 c1 d0 d1 hrd hA3 hy hkm hgt
            go_upto_region 7 with (fail)
            go_quiet (fail)
            go_upto_region 10 with (fail)
            refine wp_nm fun W9 hW9 => ?_
            have H9 : Hid (OwnR W9 w.heap.size 43 2 (some ⟨g, 0, none⟩) (i + 1) c' (((putAt P x k).set k y).flatMap secCells) ∧ Below w.heap.size w W9) := by rw [← hW9]; exact Lib.hid (HS9.out _)
            clear hW9 HS9 o0 o1 q0 q1 f0 f1 a0
            have hyk9 : ((putAt P x k).set k y)[km]? = some y := by
              have h1 := putAt_get P x y km HY.out.1
              rw [← HY.out.2.1] at h1
              rw [List.getElem?_set, if_neg (by have := HY.out.2.1; omega), h1]
            obtain ⟨c0, c1⟩ := sec_at _ _ _ hyk9
            have o0 := ownR_at H9.out.1 c0
            have o1 := ownR_at H9.out.1 c1
            have f0 := H9.out.1.free (km * 2)
            have f1 := H9.out.1.free (km * 2 + 1)
            have hrd := HR.out.1.below H9.out.2 (Nat.le_refl _)
            obtain ⟨b4, off4, hA4, _, a0⟩ := hrd.at_ HT.out.2
            obtain ⟨b5, off5, hA5, _, a1⟩ := hrd.at_ HT1.out
            obtain ⟨rfl, rfl⟩ : b4 = b2 ∧ off4 = off2 := by injection hA4 with e; injection e with e1 e2; exact ⟨e1.symm, e2.symm⟩
            obtain ⟨rfl, rfl⟩ : b5 = b4 ∧ off5 = off4 := by injection hA5 with e; injection e with e1 e2; exact ⟨e1.symm, e2.symm⟩
            have a1' : W9.cell? ⟨b5, off5 + i * 2 + 1, none⟩ = some (.int .u32 (x.2 : Nat)) := a1
            have HN : Hid (OwnR ((W9.setCell ⟨g, km * 2, none⟩ (.int .u32 (x.1 : Nat))).setCell ⟨g, km * 2 + 1, none⟩ (.int .u32 (x.2 : Nat))) w.heap.size 43 2 (some ⟨g, 0, none⟩) (i + 1) c' ((putAt P x km).flatMap secCells) ∧ (∀ z ∈ P.drop km, x.1 < z.1) ∧ Below w.heap.size w ((W9.setCell ⟨g, km * 2, none⟩ (.int .u32 (x.1 : Nat))).setCell ⟨g, km * 2 + 1, none⟩ (.int .u32 (x.2 : Nat)))) := by
              refine Lib.hid ⟨?_, fun z hz => ?_, kp_set (kp_set H9.out.2 HG.out) HG.out⟩
              · have h1 := putAt_down P x y km HY.out.1
                rw [← HY.out.2.1] at h1
                rw [← h1, ← flat_set _ km x (by rw [List.length_set, putAt_len _ _ _ (by rw [HPL.out]; omega), HPL.out]; omega)]
                exact (H9.out.1.stored (km * 2) _).stored (km * 2 + 1) _
              · have hkl : km < P.length := by
                  rcases Nat.lt_or_ge km P.length with h | h
                  · exact h
                  · have := HY.out.1; rw [List.getElem?_eq_none h] at this; cases this
                rw [List.drop_eq_getElem_cons hkl] at hz
                have hyy : P[km] = y := by have := HY.out.1; rw [List.getElem?_eq_getElem hkl] at this; exact Option.some.inj this
                rcases List.mem_cons.1 hz with rfl | hz
                · rw [hyy]; exact HY.out.2.2.1
                · exact HY.out.2.2.2 z (by rw [HY.out.2.1]; exact hz)
            have hmeas : km < k := by have := HY.out.2.1; omega
            clear hyk9 c0 c1 hrd hA4 hA5 a1 H9 HY
            go_wp2_with (fail)
            go_roundw
            case rel => exact ⟨km, by go_num, by omega, HN⟩
            case measure => simp [intOf]; omega
          · have u2 : decide ((x.1 : Int) < (y.1 : Int)) = false := by simp; omega
            have u2n : decide (x.1 < y.1) = false := by simp; omega
            have HD := Lib.hid (HDONE.out (.inr ⟨y, by rw [hkm, Nat.add_sub_cancel]; exact hy, by omega⟩))
            clear HDONE HI hyk c0 c1 hrd hA3 hy hkm hgt
            go_upto_region 7 with (fail)
            go_quiet (fail)
            go_wp2_with (fail)
            go_roundw
            case rel => exact ⟨i + 1, c', some ⟨g, 0, none⟩, _, rfl, by go_num, by omega, HD.out _⟩
            case measure => simp [intOf]; omega
    · have i1 : decide ((i : Int) < (n : Int)) = false := by simp; omega
      have i1n : decide (i < n) = false := by simp; omega
      obtain rfl : i = n := by omega
      go_wp2_with (fail)
      go_ret
      obtain ⟨h1, h2, h3, h4⟩ := HK.out
      rw [show L.take i = L by rw [← HR.out.2, List.take_length]] at h1
      exact ⟨V, i, cV, P, rfl, HR.out.2.symm, h1, h2, h3, h4⟩
end Go.Proofs.YtjfpiidofbjdhaaDoor
