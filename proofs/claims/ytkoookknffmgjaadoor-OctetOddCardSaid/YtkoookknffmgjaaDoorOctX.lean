/-
  octet: Wide of any text that the form reaches; one letter that is not as Wide made it.
-/
import Derived.Test.YtkoookknffmgjaaDoorOctL3
import Derived.Test.YtkoookknffmgjaaDoorApp1
namespace Go.Proofs.YtkoookknffmgjaaDoor
open Go.RowKit Go
set_option linter.unusedVariables false
section
variable {w : World} {ops : Array Oper} {rest : List Oper} {o : Oper} {a : Act} {Q : Exit → Act → World → Prop}
theorem wpList_mk0B (l c : Operand) (ho : o.op = .makeSlice 22 l c) (hgd : o.guard = none) (kl kc : IntKind) (C : Int) (n : Nat) (hl : a.eval l = .int kl 0) (hc : a.eval c = .int kc C) (hC : C = (n : Int)) (hlim : n ≤ 281474976710656)
    (h : ∀ w', OwnB w' w.heap.size (some ⟨w.heap.size, 0, none⟩) 0 n [] → w.grownBy w' none → wpList Tryd.prog ops Q rest (a.put o.dst (.slice (some ⟨w.heap.size, 0, none⟩) 0 n)) w') : wpList Tryd.prog ops Q (o :: rest) a w := by
  obtain ⟨i, hi, hz0, hz1, hz2⟩ := info_parts u8_info
  exact wpList_make_own w hgd l c 22 ho w.heap.size 5 i (.int .u8 0) 1 Tryd.underlying22 hi hz0 hz1 kl kc C n hl hc hC (by rw [hz2]; omega) (by unfold maxLen; omega) (Nat.le_refl _) h
theorem wpList_apf (s x : Operand) (ho : o.op = .call { callee := .builtin .append, args := #[s, x], argTypes := #[22, 22] }) (hgd : o.guard = none) (hty : o.type = 22)
    (base g n0 c0 : Nat) (bs : List UInt8) (hs : a.eval s = .slice (some ⟨g, 0, none⟩) n0 c0) (hown : OwnB w base (some ⟨g, 0, none⟩) n0 c0 bs)
    (b c : Nat) (news : List UInt8) (hx : a.eval x = .slice (some ⟨b, 0, none⟩) news.length c) {B : Nat} (hr : Bs w B (some ⟨b, 0, none⟩) news) (hroom : n0 + news.length ≤ c0)
    (h : ∀ w', OwnB w' base (some ⟨g, 0, none⟩) (n0 + news.length) c0 (bs ++ news) → w.grownBy w' (some g) → wpList Tryd.prog ops Q rest (a.put o.dst (.slice (some ⟨g, 0, none⟩) (n0 + news.length) c0)) w') : wpList Tryd.prog ops Q (o :: rest) a w := by
  obtain ⟨i, hi, hz0, hz1, hz2⟩ := info_parts u8_info
  refine wpList_append_fits w hgd s x 22 ho base 5 i 1 Tryd.underlying22 hi hz1 g n0 c0 (bs.map bv) hs hown ⟨b, 0, none⟩ news.length c (news.map bv) hx (by simp) ?_ (by intro u hu; simp at hu; obtain ⟨q, _, rfl⟩ := hu; rfl) hroom ?_
  · intro j u hj
    rcases news with _ | ⟨q, r⟩
    · simp at hj
    · obtain ⟨b', off, e, _, hc⟩ := hr (by simp)
      injection e with e
      injection e with e1 e2
      subst e1; subst e2
      have hjl : j < (q :: r).length := by
        rcases Nat.lt_or_ge j (q :: r).length with h | h
        · exact h
        · rw [List.getElem?_eq_none (by simpa using h)] at hj; cases hj
      rw [List.getElem?_map, List.getElem?_eq_getElem hjl] at hj
      injection hj with hj
      have hadd : (⟨b, 0, none⟩ : Addr).add j = ⟨b, 0 + j, none⟩ := by unfold Addr.add; split <;> simp_all
      rw [hadd, hc j hjl, ← hj]
  · intro w' h1 h2
    refine h w' ?_ h2
    unfold OwnB
    rw [List.map_append]
    exact h1
end
set_option maxRecDepth 100000 in
theorem wideB_any (s : ByteArray) (w : World) (hs : s.size ≤ 140737488351232) :
    Calls Tryd.prog 29 #[.string s] w fun e w' => ∃ A n c, e = .returned (.slice A n c) ∧ OwnB w' w.heap.size A n c (wideS s.data.toList) ∧ Below w.heap.size w w' := by
  go_enter Tryd.func29, Tryd.ntmps29
  go_wp2_with (refine wpList_mk0B _ _ rfl rfl _ _ _ (2 * s.size) rfl rfl (by omega) (by omega) ?_)
  intro w1 hown1 hg1
  have hb1 : Below w.heap.size w w1 := (Below.refl _ _).grown hg1 (Nat.le_refl _) (by intro g hg; cases hg)
  obtain ⟨K, hK⟩ : ∃ K, K = w1.heap.size := ⟨_, rfl⟩
  have HK := Lib.hid hK
  go_wp2
  rw [← hK]
  clear hK
  go_loopw [3] (fun v wr => ∃ (i : Nat), i ≤ s.size ∧ v = .slice (some ⟨w.heap.size, 0, none⟩) (2 * i) (2 * s.size) ∧ OwnB wr w.heap.size (some ⟨w.heap.size, 0, none⟩) (2 * i) (2 * s.size) (widen (s.data.toList.take i)) ∧ (s.data.toList.take i).all letter = true ∧ Hid (wr.heap[K]? = some (.stringIter s i)) ∧ Below w.heap.size w wr) (fun _ wr => s.size - wr.iterPos K)
  case atStart => exact ⟨0, Nat.zero_le _, rfl, by show OwnB (w1.alloc (.stringIter s 0)) _ _ _ _ _; simpa [widen] using hown1.alloc (.stringIter s 0), rfl, by rw [HK.out]; exact World.iter_heap w1 s 0, hb1.alloc hb1.size _⟩
  case round =>
    obtain ⟨i, hi, rfl, hown, hall, hit, hbl⟩ := hrel
    have HB1 := Lib.hid hb1
    have HI := Lib.hid hit.out
    clear hown1 hb1 hg1
    by_cases hlt : i < s.size
    · have hsn := str_at s i hlt
      have hKlt : w.heap.size ≤ K := by rw [HK.out]; have := HB1.out.size; omega
      have hlast : ∀ q, s.data.toList[i]? = some q → s.data.toList.take (i + 1) = s.data.toList.take i ++ [q] := by
        intro q h
        have hl : i < s.data.toList.length := by simpa using hlt
        rw [List.take_succ_eq_append_getElem hl]
        rw [List.getElem?_eq_getElem hl] at h
        injection h with h
        rw [h]
      have hno : ∀ q, s.data.toList[i]? = some q → letter q = false → wideS s.data.toList = [] := by
        intro q h h2
        unfold wideS
        rw [if_neg]
        intro h3
        rw [all_at h3 h] at h2
        cases h2
      have HLAST := Lib.hid hlast
      have HNO := Lib.hid hno
      clear hlast hno
      by_cases hhi : (s[i]'hlt).toNat < 128
      · have hnx := fun ty => Lib.run_next_ascii_at (P := Tryd.prog) wr K s i ty hit.out hlt hhi
        generalize (s[i]'hlt) = q at hnx hhi hsn
        have HQ := Lib.hid hsn
        clear hsn
        have hown' := (hown.iterAt hit.out (i + 1)).1
        have hne := (hown.iterAt hit.out (i + 1)).2
        have hit' := Lib.iterAt_heap wr K s i (i + 1) hit.out
        have hbl' : Below w.heap.size w (wr.iterAt K s (i + 1)) := hbl.grown (grown_iterAt wr K s (i + 1)) hbl.size (fun k hk => by injection hk with hk; omega)
        have HIT := Lib.hid hit'
        have HNE := Lib.hid hne
        have HML := Lib.hid hown.len
        generalize wr.iterAt K s (i + 1) = W at *
        clear hit' hne hown hit
        have hsz := hbl'.size
        by_cases h0 : 1 ≤ q.toNat
        · have hcond : letter q = true := by unfold letter; simp; omega
          have HC := Lib.hid hcond
          clear hcond
          go_wp2_with (at_builtin; refine wpList_apf _ _ rfl rfl rfl w.heap.size w.heap.size (2 * i) (2 * s.size) (widen (s.data.toList.take i)) rfl (hown'.alloc _) W.heap.size 2 [q, 0] rfl (bs_new _ _ _ _ _ rfl) (by simp; omega) ?_)
          intro w3 hown3 hg3
          go_wp2
          go_roundw
          case rel =>
            refine ⟨i + 1, by omega, rfl, ?_, ?_, ?_, (hbl'.alloc hsz _).grown hg3 (by simp; omega) (fun g hg => (hown'.blk_lt hg).1)⟩
            · rw [HLAST.out q HQ.out, widen_snoc]
              exact hown3
            · rw [HLAST.out q HQ.out, List.all_append, hall]
              simp [HC.out]
            · show w3.heap[K]? = _
              rw [hg3.block K (by simp; have := (Array.getElem?_eq_some_iff.1 HIT.out).1; omega) (fun e => HNE.out e.symm)]
              rw [Below.heap_alloc _ _ _ (Array.getElem?_eq_some_iff.1 HIT.out).1]
              exact HIT.out
          case measure =>
            have e1 : wr.iterPos K = i := iterPos_of HI.out
            have e2 : w3.iterPos K = i + 1 := iterPos_of (s := s) (by
              rw [hg3.block K (by simp; have := (Array.getElem?_eq_some_iff.1 HIT.out).1; omega) (fun e => HNE.out e.symm)]
              rw [Below.heap_alloc _ _ _ (Array.getElem?_eq_some_iff.1 HIT.out).1]
              exact HIT.out)
            rw [e1, e2]; omega
        · have hz : q.toNat = 0 := by omega
          have hcond : letter q = false := by unfold letter; simp; omega
          have HN := Lib.hid (HNO.out q HQ.out hcond)
          clear hcond
          go_wp2
          go_ret
          exact ⟨none, 0, 0, rfl, by rw [HN.out]; exact OwnB.nil _ _, hbl'⟩
      · have hge := decode_high s i hlt (by omega)
        have hnx := fun ty => Lib.run_next_any_at (P := Tryd.prog) wr K s i ty hit.out hlt
        generalize (s[i]'hlt) = q at hhi hsn
        have hcond : letter q = false := by unfold letter; simp; omega
        have HN := Lib.hid (HNO.out q hsn hcond)
        have hd1 := hge.1
        generalize (Utf8.decode s i).1 = r at hnx hd1
        generalize (Utf8.decode s i).2 = p at hnx
        have hbl' : Below w.heap.size w (wr.iterAt K s (i + p)) := hbl.grown (grown_iterAt wr K s (i + p)) hbl.size (fun k hk => by injection hk with hk; omega)
        generalize wr.iterAt K s (i + p) = W at *
        clear hcond hge hsn hown hit
        go_wp2
        go_ret
        exact ⟨none, 0, 0, rfl, by rw [HN.out]; exact OwnB.nil _ _, hbl'⟩
    · obtain rfl : i = s.size := by omega
      have hnx := fun ty => Lib.run_next_end_at (P := Tryd.prog) wr K s s.size ty hit.out hlt
      have hf : s.data.toList.take s.size = s.data.toList := List.take_of_length_le (by simp)
      rw [hf] at hown hall
      have HW : Hid (wideS s.data.toList = widen s.data.toList) := by unfold wideS; rw [if_pos hall]; exact rfl
      go_wp2
      go_ret
      exact ⟨_, _, _, rfl, by rw [HW.out]; exact hown, hbl⟩

end Go.Proofs.YtkoookknffmgjaaDoor
