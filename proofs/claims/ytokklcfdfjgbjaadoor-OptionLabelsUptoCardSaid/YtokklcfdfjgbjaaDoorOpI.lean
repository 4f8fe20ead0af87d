/-
  option: bytes that are cut tell none; what is read is written as it was.
-/
import Derived.Test.YtokklcfdfjgbjaaDoorOpF
namespace Go.Proofs.YtokklcfdfjgbjaaDoor
open Go.RowKit Go
set_option linter.unusedVariables false
set_option maxRecDepth 100000
theorem scan_take : ∀ (l r : List UInt8) (j : Nat), l.all letter = true → j < 2 * l.length + 2 → scan ((widen l ++ 0 :: 0 :: r).take j) = none
  | [], r, 0, _, _ => rfl
  | [], r, 1, _, _ => rfl
  | [], r, j + 2, _, h => absurd h (by simp)
  | p :: l, r, 0, _, _ => rfl
  | p :: l, r, 1, _, _ => rfl
  | p :: l, r, j + 2, ha, h => by
    have hp : letter p = true := by simp at ha; exact ha.1
    have hl : l.all letter = true := by simp at ha; simpa using ha.2
    have e : (widen (p :: l) ++ 0 :: 0 :: r).take (j + 2) = p :: 0 :: ((widen l ++ 0 :: 0 :: r).take j) := rfl
    have h1 : 1 ≤ p.toNat := by unfold letter at hp; have := of_decide_eq_true hp; exact this.1
    rw [e]
    unfold scan
    rw [if_neg (by omega), scan_take l r j hl (by simp at h; omega)]
    rfl
theorem scan_some : ∀ (bs wl : List UInt8), scan bs = some wl → ∃ r, bs = wl ++ 0 :: 0 :: r
  | [], _, h => by cases h
  | [_], _, h => by cases h
  | p :: q :: r, wl, h => by
    unfold scan at h
    by_cases hz : p.toNat = 0 ∧ q.toNat = 0
    · rw [if_pos hz] at h
      injection h with h
      subst h
      have e1 : p = 0 := UInt8.toNat_inj.1 (by rw [hz.1]; rfl)
      have e2 : q = 0 := UInt8.toNat_inj.1 (by rw [hz.2]; rfl)
      exact ⟨r, by rw [e1, e2]; rfl⟩
    · rw [if_neg hz] at h
      cases hs : scan r with
      | none => rw [hs] at h; cases h
      | some wl' =>
        rw [hs] at h
        injection h with h
        obtain ⟨r', e⟩ := scan_some r wl' hs
        exact ⟨r', by rw [← h, e]; rfl⟩
theorem cut_take (bs : List UInt8) (j a k : Nat) (h : a + k ≤ j) : cut (bs.take j) a k = cut bs a k := by
  unfold cut
  rw [List.drop_take, List.take_take]
  congr 1
  omega
theorem readQ_cut (a : Nat) (l pb db : List UInt8) (ha : a < 4294967296) (hl : l.all letter = true) (hp : pb.length < 65536) (j : Nat) (hj : j < 8 + 2 * l.length + pb.length) : readQ ((optB a l pb db).take j) = none := by
  have hlen := optB_len a l pb db
  have htl : ((optB a l pb db).take j).length = j := by rw [List.length_take]; omega
  have hd6 : (optB a l pb db).drop 6 = widen l ++ 0 :: 0 :: (pb ++ db) := by rw [optB_eq]; rfl
  have h2 : cut (optB a l pb db) 4 2 = leB pb.length 2 := by rw [optB_eq]; rfl
  unfold readQ
  rw [htl]
  by_cases h6 : j < 6
  · rw [if_pos h6]
  rw [if_neg h6]
  have hdt : ((optB a l pb db).take j).drop 6 = (widen l ++ 0 :: 0 :: (pb ++ db)).take (j - 6) := by rw [List.drop_take, hd6]
  rw [hdt]
  by_cases h8 : j - 6 < 2 * l.length + 2
  · rw [scan_take l (pb ++ db) (j - 6) hl h8]
  have hap : (widen l ++ 0 :: 0 :: (pb ++ db)).take (j - 6) = widen l ++ 0 :: 0 :: ((pb ++ db).take (j - 8 - 2 * l.length)) := by
    rw [List.take_append]
    rw [List.take_of_length_le (by rw [widen_len]; omega), widen_len]
    rw [show j - 6 - 2 * l.length = (j - 8 - 2 * l.length) + 2 by omega]
    rfl
  rw [hap, scan_widen l _ hl]
  simp only
  rw [narrow_widen l hl]
  simp only
  rw [cut_take _ _ _ _ (by omega), h2, leN_leB2 _ hp, widen_len, if_neg (by omega)]
theorem nb_u8 (x i : Nat) : (nb x i).toNat = x / 256 ^ i % 256 := by unfold nb; simp
theorem leB4_leN (b0 b1 b2 b3 : UInt8) : leB (leN [b0, b1, b2, b3]) 4 = [b0, b1, b2, b3] := by
  have p0 := b0.toNat_lt
  have p1 := b1.toNat_lt
  have p2 := b2.toNat_lt
  have p3 := b3.toNat_lt
  show [nb _ 0, nb _ 1, nb _ 2, nb _ 3] = _
  have e : leN [b0, b1, b2, b3] = b0.toNat + 256 * (b1.toNat + 256 * (b2.toNat + 256 * (b3.toNat))) := by simp [leN]
  rw [e]
  have q0 : nb (b0.toNat + 256 * (b1.toNat + 256 * (b2.toNat + 256 * (b3.toNat)))) 0 = b0 := UInt8.toNat_inj.1 (by rw [nb_u8]; first | (simp; done) | (simp; omega))
  have q1 : nb (b0.toNat + 256 * (b1.toNat + 256 * (b2.toNat + 256 * (b3.toNat)))) 1 = b1 := UInt8.toNat_inj.1 (by rw [nb_u8]; first | (simp; done) | (simp; omega))
  have q2 : nb (b0.toNat + 256 * (b1.toNat + 256 * (b2.toNat + 256 * (b3.toNat)))) 2 = b2 := UInt8.toNat_inj.1 (by rw [nb_u8]; first | (simp; done) | (simp; omega))
  have q3 : nb (b0.toNat + 256 * (b1.toNat + 256 * (b2.toNat + 256 * (b3.toNat)))) 3 = b3 := UInt8.toNat_inj.1 (by rw [nb_u8]; first | (simp; done) | (simp; omega))
  rw [q0, q1, q2, q3]
theorem leB2_leN (b0 b1 : UInt8) : leB (leN [b0, b1]) 2 = [b0, b1] := by
  have p0 := b0.toNat_lt
  have p1 := b1.toNat_lt
  show [nb _ 0, nb _ 1] = _
  have e : leN [b0, b1] = b0.toNat + 256 * b1.toNat := by simp [leN]
  rw [e]
  have q0 : nb (b0.toNat + 256 * b1.toNat) 0 = b0 := UInt8.toNat_inj.1 (by rw [nb_u8]; first | (simp; done) | (simp; omega))
  have q1 : nb (b0.toNat + 256 * b1.toNat) 1 = b1 := UInt8.toNat_inj.1 (by rw [nb_u8]; first | (simp; done) | (simp; omega))
  rw [q0, q1]
theorem readQ_some {bs : List UInt8} {x : Nat × List UInt8 × List UInt8 × List UInt8} (h : readQ bs = some x) : x.1 < 4294967296 ∧ x.2.1.all letter = true ∧ x.2.2.1.length < 65536 ∧ optB x.1 x.2.1 x.2.2.1 x.2.2.2 = bs ∧ x.2.2.2.length ≤ bs.length ∧ x.2.1.length ≤ bs.length := by
  unfold readQ at h
  by_cases h6 : bs.length < 6
  · rw [if_pos h6] at h; cases h
  rw [if_neg h6] at h
  cases hs : scan (bs.drop 6) with
  | none => rw [hs] at h; cases h
  | some wl =>
    rw [hs] at h
    simp only at h
    cases hn : narrowS wl with
    | none => rw [hn] at h; cases h
    | some l =>
      rw [hn] at h
      simp only at h
      by_cases hk : 6 + wl.length + 2 + leN (cut bs 4 2) ≤ bs.length
      · rw [if_pos hk] at h
        injection h with h
        subst h
        obtain ⟨hw, hall⟩ := narrow_some _ _ hn
        obtain ⟨r, hr⟩ := scan_some _ _ hs
        match bs, h6, hr with
        | b0 :: b1 :: b2 :: b3 :: b4 :: b5 :: t, _, hr =>
          have hr : t = wl ++ 0 :: 0 :: r := hr
          have c4 : cut (b0 :: b1 :: b2 :: b3 :: b4 :: b5 :: t) 0 4 = [b0, b1, b2, b3] := rfl
          have c2 : cut (b0 :: b1 :: b2 :: b3 :: b4 :: b5 :: t) 4 2 = [b4, b5] := rfl
          have a4 := leN_lt [b0, b1, b2, b3]
          have a2 := leN_lt [b4, b5]
          have hdk : (b0 :: b1 :: b2 :: b3 :: b4 :: b5 :: t).drop (6 + wl.length + 2) = r := by
            rw [show 6 + wl.length + 2 = 6 + (wl.length + 2) by omega, ← List.drop_drop]
            show t.drop (wl.length + 2) = r
            rw [hr, ← List.drop_drop, List.drop_left]
            rfl
          rw [c2] at hk
          have hlr : leN [b4, b5] ≤ r.length := by
            have := congrArg List.length hdk
            rw [List.length_drop] at this
            omega
          have hpl : (cut (b0 :: b1 :: b2 :: b3 :: b4 :: b5 :: t) (6 + wl.length + 2) (leN [b4, b5])).length = leN [b4, b5] := cut_len _ _ _ (by omega)
          have hpc : cut (b0 :: b1 :: b2 :: b3 :: b4 :: b5 :: t) (6 + wl.length + 2) (leN [b4, b5]) = r.take (leN [b4, b5]) := by unfold cut; rw [hdk]
          have hdd : (b0 :: b1 :: b2 :: b3 :: b4 :: b5 :: t).drop (6 + wl.length + 2 + leN [b4, b5]) = r.drop (leN [b4, b5]) := by rw [← List.drop_drop, hdk]
          have hwl : (widen l).length = 2 * l.length := widen_len l
          have hlt : t.length = wl.length + (r.length + 2) := by rw [hr]; simp
          simp only [c4, c2]
          refine ⟨by simpa using a4, hall, by rw [hpl]; simpa using a2, ?_, ?_, ?_⟩
          · unfold optB
            rw [hpl, leB4_leN, leB2_leN, hpc, hdd, hr, hw]
            simp
          · rw [List.length_drop]; omega
          · simp only [List.length_cons]
            rw [hlt, hw, hwl]
            omega
      · rw [if_neg hk] at h; cases h
end Go.Proofs.YtokklcfdfjgbjaaDoor
