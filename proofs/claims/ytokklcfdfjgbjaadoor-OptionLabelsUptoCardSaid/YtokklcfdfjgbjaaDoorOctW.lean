/-
  octet: Wide and Narrow.
-/
import Derived.Test.YtokklcfdfjgbjaaDoorOctA
import Derived.Laws.RangeAny
import Derived.Lib.OthersKept
import Derived.WalkSmall
namespace Go.Proofs.YtokklcfdfjgbjaaDoor
open Go.RowKit Go
set_option linter.unusedVariables false

def letter (q : UInt8) : Bool := decide (1 ≤ q.toNat ∧ q.toNat ≤ 127)
/-- Letters, wide. -/
def widen (bs : List UInt8) : List UInt8 := bs.flatMap fun q => [q, 0]
theorem widen_len (bs : List UInt8) : (widen bs).length = 2 * bs.length := by
  induction bs with
  | nil => rfl
  | cons q r ih =>
    show ([q, 0] ++ widen r).length = _
    rw [List.length_append, ih]; simp; omega
theorem widen_snoc (bs : List UInt8) (q : UInt8) : widen (bs ++ [q]) = widen bs ++ [q, 0] := by
  unfold widen
  rw [List.flatMap_append]; rfl
theorem str_at (s : ByteArray) (i : Nat) (h : i < s.size) : s.data.toList[i]? = some (s[i]'h) := by
  rw [List.getElem?_eq_getElem (by simpa using h)]
  rfl
theorem all_at {p : UInt8 → Bool} {bs : List UInt8} {i : Nat} {q : UInt8} (h : bs.all p = true) (hq : bs[i]? = some q) : p q = true := List.all_eq_true.1 h q (List.mem_of_getElem? hq)
/-- What Wide makes. -/
def wideS (bs : List UInt8) : List UInt8 := if bs.all letter then widen bs else []
theorem grown_iterAt (w : World) (K : Nat) (s : ByteArray) (p : Nat) : w.grownBy (w.iterAt K s p) (some K) :=
  ⟨rfl, rfl, rfl, by rw [Lib.iterAt_size]; exact Nat.le_refl _, fun k _ hk => Lib.iterAt_other w K k s p (fun e => hk (by rw [e]))⟩
theorem OwnB.iterAt {w : World} {base : Nat} {A : Option Addr} {n c : Nat} {bs : List UInt8} (h : OwnB w base A n c bs) {K : Nat} {s : ByteArray} {p : Nat} (hK : w.heap[K]? = some (.stringIter s p)) (p' : Nat) : OwnB (w.iterAt K s p') base A n c bs ∧ blk A ≠ some K := by
  have hne : blk A ≠ some K := by
    intro e
    obtain ⟨cur, hc⟩ := h.kind K e
    rw [hK] at hc
    cases hc
  exact ⟨h.kept (grown_iterAt w K s p') (.inr hne), hne⟩
set_option maxRecDepth 100000 in
theorem wide_any (s : ByteArray) (w : World) (hs : s.size ≤ 1000000000) :
    Calls Tryd.prog 22 #[.string s] w fun e w' => ∃ A n c, e = .returned (.slice A n c) ∧ OwnB w' w.heap.size A n c (wideS s.data.toList) ∧ Below w.heap.size w w' := by
  go_enter Tryd.func22, Tryd.ntmps22
  go_wp2_with (refine wpList_mk0 _ _ rfl rfl _ _ _ (2 * s.size) rfl rfl (by omega) (by omega) ?_)
  intro w1 hown1 hg1
  have hb1 : Below w.heap.size w w1 := (Below.refl _ _).grown hg1 (Nat.le_refl _) (by intro g hg; cases hg)
  obtain ⟨K, hK⟩ : ∃ K, K = w1.heap.size := ⟨_, rfl⟩
  have HK := Lib.hid hK
  go_wp2
  rw [← hK]
  clear hK
  go_loopw [3] (fun v wr => ∃ (i : Nat) (A : Option Addr) (c : Nat), i ≤ s.size ∧ v = .slice A (2 * i) c ∧ OwnB wr w.heap.size A (2 * i) c (widen (s.data.toList.take i)) ∧ (s.data.toList.take i).all letter = true ∧ Hid (wr.heap[K]? = some (.stringIter s i)) ∧ Below w.heap.size w wr) (fun _ wr => s.size - wr.iterPos K)
  case atStart => exact ⟨0, _, _, Nat.zero_le _, rfl, by show OwnB (w1.alloc (.stringIter s 0)) _ _ _ _ _; simpa [widen] using hown1.alloc (.stringIter s 0), rfl, by rw [HK.out]; exact World.iter_heap w1 s 0, hb1.alloc hb1.size _⟩
  case round =>
    obtain ⟨i, A, c, hi, rfl, hown, hall, hit, hbl⟩ := hrel
    have HB1 := Lib.hid hb1
    have HI := Lib.hid hit.out
    clear hown1 hb1 hg1
    by_cases hlt : i < s.size
    · have hsn := str_at s i hlt
      have hKlt : w.heap.size ≤ K := by rw [HK.out]; have := HB1.out.size; omega
      have hlast : ∀ q, s.data.toList[i]? = some q → s.data.toList.take (i + 1) = s.data.toList.take i ++ [q] := by
        intro q h
        have hl : i < s.data.toList.length := by simpa using hlt
        rw [List.take_succ_eq_append_getElem hl]
        rw [List.getElem?_eq_getElem hl] at h
        injection h with h
        rw [h]
      have hno : ∀ q, s.data.toList[i]? = some q → letter q = false → wideS s.data.toList = [] := by
        intro q h h2
        unfold wideS
        rw [if_neg]
        intro h3
        rw [all_at h3 h] at h2
        cases h2
      have HLAST := Lib.hid hlast
      have HNO := Lib.hid hno
      clear hlast hno
      by_cases hhi : (s[i]'hlt).toNat < 128
      · have hnx := fun ty => Lib.run_next_ascii_at (P := Tryd.prog) wr K s i ty hit.out hlt hhi
        generalize (s[i]'hlt) = q at hnx hhi hsn
        have HQ := Lib.hid hsn
        clear hsn
        have hown' := (hown.iterAt hit.out (i + 1)).1
        have hne := (hown.iterAt hit.out (i + 1)).2
        have hit' := Lib.iterAt_heap wr K s i (i + 1) hit.out
        have hbl' : Below w.heap.size w (wr.iterAt K s (i + 1)) := hbl.grown (grown_iterAt wr K s (i + 1)) hbl.size (fun k hk => by injection hk with hk; omega)
        have HIT := Lib.hid hit'
        have HNE := Lib.hid hne
        have HML := Lib.hid hown.len
        generalize wr.iterAt K s (i + 1) = W at *
        clear hit' hne hown hit
        have hsz := hbl'.size
        by_cases h0 : 1 ≤ q.toNat
        · have hcond : letter q = true := by unfold letter; simp; omega
          have HC := Lib.hid hcond
          clear hcond
          go_wp2_with (at_builtin; refine wpList_app _ _ rfl rfl rfl w.heap.size A (2 * i) c (widen (s.data.toList.take i)) rfl (hown'.alloc _) (W.heap.size + 1) (some ⟨W.heap.size, 0, none⟩) 2 [q, 0] rfl (bs_new _ _ _ _ _ rfl) (by rw [HML.out]; simp; omega) (by simp; omega) ?_)
          intro A3 c3 w3 hown3 hg3
          go_wp2
          go_roundw
          case rel =>
            refine ⟨i + 1, A3, c3, by omega, rfl, ?_, ?_, ?_, (hbl'.alloc hsz _).grown hg3 (by simp; omega) (fun g hg => (hown'.blk_lt hg).1)⟩
            · rw [HLAST.out q HQ.out, widen_snoc]
              exact hown3
            · rw [HLAST.out q HQ.out, List.all_append, hall]
              simp [HC.out]
            · show w3.heap[K]? = _
              rw [hg3.block K (by simp; have := (Array.getElem?_eq_some_iff.1 HIT.out).1; omega) (fun e => HNE.out e.symm)]
              rw [Below.heap_alloc _ _ _ (Array.getElem?_eq_some_iff.1 HIT.out).1]
              exact HIT.out
          case measure =>
            have e1 : wr.iterPos K = i := iterPos_of HI.out
            have e2 : w3.iterPos K = i + 1 := iterPos_of (s := s) (by
              rw [hg3.block K (by simp; have := (Array.getElem?_eq_some_iff.1 HIT.out).1; omega) (fun e => HNE.out e.symm)]
              rw [Below.heap_alloc _ _ _ (Array.getElem?_eq_some_iff.1 HIT.out).1]
              exact HIT.out)
            rw [e1, e2]; omega
        · have hz : q.toNat = 0 := by omega
          have hcond : letter q = false := by unfold letter; simp; omega
          have HN := Lib.hid (HNO.out q HQ.out hcond)
          clear hcond
          go_wp2
          go_ret
          exact ⟨none, 0, 0, rfl, by rw [HN.out]; exact OwnB.nil _ _, hbl'⟩
      · have hge := decode_high s i hlt (by omega)
        have hnx := fun ty => Lib.run_next_any_at (P := Tryd.prog) wr K s i ty hit.out hlt
        generalize (s[i]'hlt) = q at hhi hsn
        have hcond : letter q = false := by unfold letter; simp; omega
        have HN := Lib.hid (HNO.out q hsn hcond)
        have hd1 := hge.1
        generalize (Utf8.decode s i).1 = r at hnx hd1
        generalize (Utf8.decode s i).2 = p at hnx
        have hbl' : Below w.heap.size w (wr.iterAt K s (i + p)) := hbl.grown (grown_iterAt wr K s (i + p)) hbl.size (fun k hk => by injection hk with hk; omega)
        generalize wr.iterAt K s (i + p) = W at *
        clear hcond hge hsn hown hit
        go_wp2
        go_ret
        exact ⟨none, 0, 0, rfl, by rw [HN.out]; exact OwnB.nil _ _, hbl'⟩
    · obtain rfl : i = s.size := by omega
      have hnx := fun ty => Lib.run_next_end_at (P := Tryd.prog) wr K s s.size ty hit.out hlt
      have hf : s.data.toList.take s.size = s.data.toList := List.take_of_length_le (by simp)
      rw [hf] at hown hall
      have HW : Hid (wideS s.data.toList = widen s.data.toList) := by unfold wideS; rw [if_pos hall]; exact rfl
      go_wp2
      go_ret
      exact ⟨_, _, _, rfl, by rw [HW.out]; exact hown, hbl⟩
end Go.Proofs.YtokklcfdfjgbjaaDoor
