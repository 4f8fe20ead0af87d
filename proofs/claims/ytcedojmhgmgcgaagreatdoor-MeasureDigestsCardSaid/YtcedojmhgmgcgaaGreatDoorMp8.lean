/-
  pe: an image that is made is read as what it was made of; what becomes of it when bytes are turned (plain data).
-/
import Derived.Test.YtcedojmhgmgcgaaGreatDoorMp6
import Derived.Test.YtcedojmhgmgcgaaGreatDoorMp3
import Derived.Test.YtcedojmhgmgcgaaGreatDoorMp3
namespace Go.Proofs.YtcedojmhgmgcgaaGreatDoor
open Go.RowKit Go
set_option linter.unusedVariables false
set_option linter.unusedSimpArgs false
set_option maxRecDepth 100000
/-! ### Bytes that agree -/
theorem cut_agree {b b' : List UInt8} {a k : Nat} (h : ∀ i, a ≤ i → i < a + k → b'[i]? = b[i]?) : cut b' a k = cut b a k := by
  apply List.ext_getElem?
  intro i
  by_cases hi : i < k
  · rw [cut_get _ _ _ _ hi, cut_get _ _ _ _ hi, h _ (by omega) (by omega)]
  · unfold cut
    rw [List.getElem?_eq_none (by rw [List.length_take]; omega), List.getElem?_eq_none (by rw [List.length_take]; omega)]
theorem in_agree {b b' : List UInt8} {a k : Nat} (hk : 0 < k) (h : ∀ i, a ≤ i → i < a + k → b'[i]? = b[i]?) : (a + k ≤ b'.length ↔ a + k ≤ b.length) := by
  have h1 := h (a + k - 1) (by omega) (by omega)
  constructor
  · intro h2
    rw [List.getElem?_eq_getElem (show a + k - 1 < b'.length by omega)] at h1
    rcases Nat.lt_or_ge (a + k - 1) b.length with h3 | h3
    · omega
    · rw [List.getElem?_eq_none h3] at h1; cases h1
  · intro h2
    rw [List.getElem?_eq_getElem (show a + k - 1 < b.length by omega)] at h1
    rcases Nat.lt_or_ge (a + k - 1) b'.length with h3 | h3
    · omega
    · rw [List.getElem?_eq_none h3] at h1; cases h1
theorem num_agree {b b' : List UInt8} {a k : Nat} (hk : 0 < k) (h : ∀ i, a ≤ i → i < a + k → b'[i]? = b[i]?) : numQ b' a k = numQ b a k := by
  unfold numQ
  rw [cut_agree h]
  have := in_agree hk h
  by_cases h2 : a + k ≤ b.length
  · rw [if_pos h2, if_pos (this.2 h2)]
  · rw [if_neg h2, if_neg (fun h3 => h2 (this.1 h3))]
theorem put_other {b : List UInt8} {a x k i : Nat} (h : a + k ≤ b.length) (hi : i < a ∨ a + k ≤ i) : (putL b a x k)[i]? = b[i]? := by
  unfold putL
  rw [splice_get _ _ _ (by rw [leB_len]; exact h), leB_len, if_neg (by omega)]
theorem put_at {b : List UInt8} {a x k i : Nat} (h : a + k ≤ b.length) (hi : i < k) : (putL b a x k)[a + i]? = (leB x k)[i]? := by
  unfold putL
  rw [splice_get _ _ _ (by rw [leB_len]; exact h), leB_len, if_pos (by omega), show a + i - a = i by omega]
theorem cut_put {b : List UInt8} {a x k : Nat} (h : a + k ≤ b.length) : cut (putL b a x k) a k = leB x k := by
  apply List.ext_getElem?
  intro i
  by_cases hi : i < k
  · rw [cut_get _ _ _ _ hi, put_at h hi]
  · unfold cut
    rw [List.getElem?_eq_none (by rw [List.length_take]; omega), List.getElem?_eq_none (by rw [leB_len]; omega)]
theorem leN_le2 (x : Nat) (h : x < 65536) : leN (leB x 2) = x := by
  simp only [leB, List.range, List.range.loop, List.map, leN, nb, UInt8.toNat_ofNat']
  omega
theorem leN_le4 (x : Nat) (h : x < 4294967296) : leN (leB x 4) = x := by
  simp only [leB, List.range, List.range.loop, List.map, leN, nb, UInt8.toNat_ofNat']
  omega
theorem num_put4 {b : List UInt8} {a x : Nat} (h : a + 4 ≤ b.length) (hx : x < 4294967296) : numQ (putL b a x 4) a 4 = x := by
  unfold numQ
  rw [putL_len _ _ _ _ h, if_pos h, cut_put h, leN_le4 x hx]
theorem num_put2 {b : List UInt8} {a x : Nat} (h : a + 2 ≤ b.length) (hx : x < 65536) : numQ (putL b a x 2) a 2 = x := by
  unfold numQ
  rw [putL_len _ _ _ _ h, if_pos h, cut_put h, leN_le2 x hx]
theorem num_other {b : List UInt8} {a x k c m : Nat} (h : a + k ≤ b.length) (hm : 0 < m) (hd : c + m ≤ a ∨ a + k ≤ c) : numQ (putL b a x k) c m = numQ b c m :=
  num_agree hm (fun i h1 h2 => put_other h (by omega))
theorem cut_other {b : List UInt8} {a x k c m : Nat} (h : a + k ≤ b.length) (hd : c + m ≤ a ∨ a + k ≤ c) : cut (putL b a x k) c m = cut b c m :=
  cut_agree (fun i h1 h2 => put_other h (by omega))
theorem app_at {b t : List UInt8} {i : Nat} (h : i < b.length) : (b ++ t)[i]? = b[i]? := List.getElem?_append_left h
theorem cut_app {b t : List UInt8} {a k : Nat} (h : a + k ≤ b.length) : cut (b ++ t) a k = cut b a k :=
  cut_agree (fun i h1 h2 => app_at (by omega))
theorem cut_end {b t : List UInt8} {a : Nat} (h : b.length = a) : cut (b ++ t) a t.length = t := by
  subst h
  unfold cut
  rw [List.drop_left, List.take_length]
theorem leN_zero : ∀ l : List UInt8, (∀ q ∈ l, q = 0) → leN l = 0
  | [], _ => rfl
  | q :: r, h => by
    rw [leN, leN_zero r (fun x hx => h x (List.mem_cons_of_mem _ hx)), h q (List.mem_cons_self ..)]
    rfl
theorem num_zero {b : List UInt8} {a k : Nat} (h : ∀ i q, a ≤ i → i < a + k → b[i]? = some q → q = 0) : numQ b a k = 0 := by
  unfold numQ
  split
  · refine leN_zero _ (fun q hq => ?_)
    obtain ⟨i, hi⟩ := List.getElem?_of_mem hq
    have hl : i < k := by
      rcases Nat.lt_or_ge i k with h1 | h1
      · exact h1
      · rw [List.getElem?_eq_none (by unfold cut; rw [List.length_take]; omega)] at hi; cases hi
    rw [cut_get _ _ _ _ hl] at hi
    exact h _ _ (by omega) (by omega) hi
  · rfl
/-! ### The headers of an image -/
/-- What the headers say. -/
structure HF (b : List UInt8) (plus : Bool) (p n hdr : Nat) : Prop where
  mz : cut b 0 2 = [77, 90]
  p4 : numQ b 60 4 = p
  pe : cut b p 4 = [80, 69, 0, 0]
  cn : numQ b (p + 6) 2 = n
  ln : numQ b (p + 20) 2 = sizeL plus
  mg : numQ b (p + 24) 2 = magL plus
  hd : numQ b (p + 84) 4 = hdr
  en : numQ b (p + sizeL plus - 108) 4 = 16
theorem sizeL_two (plus : Bool) : sizeL plus = 240 ∨ sizeL plus = 224 := by unfold sizeL; split <;> simp
theorem HF.agree {b b' : List UInt8} {plus : Bool} {p n hdr : Nat} (h : HF b plus p n hdr) (hp : 64 ≤ p)
    (ha : ∀ i, i < p + sizeL plus - 104 → (i < p + 88 ∨ p + sizeL plus - 108 ≤ i) → b'[i]? = b[i]?) : HF b' plus p n hdr := by
  have hs := sizeL_two plus
  exact ⟨(cut_agree (fun i h1 h2 => ha i (by omega) (by omega))).trans h.mz, (num_agree (by omega) (fun i h1 h2 => ha i (by omega) (by omega))).trans h.p4,
    (cut_agree (fun i h1 h2 => ha i (by omega) (by omega))).trans h.pe, (num_agree (by omega) (fun i h1 h2 => ha i (by omega) (by omega))).trans h.cn,
    (num_agree (by omega) (fun i h1 h2 => ha i (by omega) (by omega))).trans h.ln, (num_agree (by omega) (fun i h1 h2 => ha i (by omega) (by omega))).trans h.mg,
    (num_agree (by omega) (fun i h1 h2 => ha i (by omega) (by omega))).trans h.hd, (num_agree (by omega) (fun i h1 h2 => ha i (by omega) (by omega))).trans h.en⟩
theorem HF.opt {b : List UInt8} {plus : Bool} {p n hdr : Nat} (h : HF b plus p n hdr) : pAt b = p ∧ optQ b = p + 24 ∧ cntQ b = n ∧ lenQ b = sizeL plus ∧ magQ b = magL plus ∧ dirsQ b = p + sizeL plus - 104 ∧ entQ b = 16 ∧ tabQ b = p + 24 + sizeL plus ∧ hdrQ b = hdr ∧ dirQ b = p + sizeL plus - 72 ∧ decide (magQ b = 523) = plus := by
  have h1 : pAt b = p := h.p4
  have h2 : optQ b = p + 24 := by unfold optQ; rw [h1]
  have h3 : cntQ b = n := by unfold cntQ; rw [h1]; exact h.cn
  have h4 : lenQ b = sizeL plus := by unfold lenQ; rw [h1]; exact h.ln
  have h5 : magQ b = magL plus := by unfold magQ; rw [h2]; exact h.mg
  have h6 : dirsQ b = p + sizeL plus - 104 := by
    unfold dirsQ dirsOf
    rw [h2, h5]
    cases plus <;> simp [magL, sizeL] <;> omega
  have h7 : entQ b = 16 := by
    unfold entQ
    rw [h6]
    have := h.en
    have hs := sizeL_two plus
    rwa [show p + sizeL plus - 104 - 4 = p + sizeL plus - 108 by omega]
  have h8 : tabQ b = p + 24 + sizeL plus := by unfold tabQ; rw [h2, h4]
  have h9 : hdrQ b = hdr := by unfold hdrQ; rw [h2]; exact h.hd
  refine ⟨h1, h2, h3, h4, h5, h6, h7, h8, h9, ?_, ?_⟩
  · unfold dirQ
    have hs := sizeL_two plus
    omega
  · rw [h5]; cases plus <;> rfl
theorem HF.good {b : List UInt8} {plus : Bool} {p n hdr : Nat} (h : HF b plus p n hdr) (hp : 64 ≤ p) (hn : 1 ≤ n ∧ n ≤ 96) (hh : p + 24 + sizeL plus + 40 * n ≤ hdr) (hl : hdr ≤ b.length) : hdB b = true ∧ dirB b = true := by
  obtain ⟨o1, o2, o3, o4, o5, o6, o7, o8, o9, o10, o11⟩ := h.opt
  have hs := sizeL_two plus
  have hm : (decide (magL plus = 267) || decide (magL plus = 523)) = true := by cases plus <;> rfl
  constructor
  · unfold hdB inQ
    rw [o1, o2, o3, o4, o5, o6, o7, o8, o9, h.mz, h.pe, hm]
    simp
    omega
  · unfold dirB inQ
    rw [o10]
    simp
    omega
/-! ### Where bodies lie -/
/-- How many bytes bodies have in all. -/
def lensQ (bods : List (List UInt8)) (ks : List Nat) : Nat := (ks.map fun k => (bods.getD k []).length).sum
/-- Where the body with number i lies, if those of ks lie one behind the other from e on. -/
def offL (bods : List (List UInt8)) : List Nat → Nat → Nat → Nat
  | [], e, i => e
  | k :: r, e, i => if k = i then e else offL bods r (e + (bods.getD k []).length) i
theorem offL_le (bods : List (List UInt8)) : ∀ (ks : List Nat) (e i : Nat), e ≤ offL bods ks e i ∧ (i ∈ ks → offL bods ks e i + (bods.getD i []).length ≤ e + lensQ bods ks)
  | [], e, i => ⟨Nat.le_refl _, fun h => by cases h⟩
  | k :: r, e, i => by
    have h := offL_le bods r (e + (bods.getD k []).length) i
    have hl : lensQ bods (k :: r) = (bods.getD k []).length + lensQ bods r := by simp [lensQ]
    unfold offL
    split
    · rename_i hk
      subst hk
      exact ⟨Nat.le_refl _, fun _ => by omega⟩
    · rename_i hk
      refine ⟨by omega, fun hi => ?_⟩
      rcases List.mem_cons.1 hi with rfl | hi
      · exact absurd rfl hk
      · have := h.2 hi; omega
theorem getL_mem {bods : List (List UInt8)} {k : Nat} (h : k < bods.length) : bods.getD k [] ∈ bods := by
  rw [List.getD_eq_getElem?_getD, List.getElem?_eq_getElem h]
  exact List.getElem_mem h
/-- What is made of the headers when bodies are laid behind them. -/
theorem bods_run (bods : List (List UInt8)) (tb n hdr : Nat) (hn : n = bods.length) (hb : ∀ s ∈ bods, s.length ≤ 1000000) (hh : tb + 40 * n ≤ hdr) :
    ∀ (ks : List Nat) (b : List UInt8), ks.Nodup → (∀ k ∈ ks, k < n) → hdr ≤ b.length → b.length + lensQ bods ks < 4294967296 →
      (ks.foldl (bodStep bods tb) b).length = b.length + lensQ bods ks ∧
      (∀ i, i < b.length → (i < tb ∨ tb + 40 * n ≤ i) → (ks.foldl (bodStep bods tb) b)[i]? = b[i]?) ∧
      (∀ i, i < n → secAt (ks.foldl (bodStep bods tb) b) tb i = if i ∈ ks ∧ 0 < (bods.getD i []).length then (offL bods ks b.length i, (bods.getD i []).length) else secAt b tb i) ∧
      (∀ i ∈ ks, cut (ks.foldl (bodStep bods tb) b) (offL bods ks b.length i) (bods.getD i []).length = bods.getD i [])
  | [], b, _, _, _, _ => by
    refine ⟨by simp [lensQ], fun i _ _ => rfl, fun i _ => by simp, fun i hi => by cases hi⟩
  | k :: r, b, hnd, hk, hl, hlt => by
    have hls : lensQ bods (k :: r) = (bods.getD k []).length + lensQ bods r := by simp [lensQ]
    obtain ⟨hkr, hnr⟩ := List.nodup_cons.1 hnd
    have hkn := hk k (List.mem_cons_self ..)
    have hkb := hb _ (getL_mem (bods := bods) (k := k) (by omega))
    rw [List.foldl_cons]
    have IH := bods_run bods tb n hdr hn hb hh r (bodStep bods tb b k) hnr (fun x hx => hk x (List.mem_cons_of_mem _ hx))
    generalize hB : bods.getD k [] = B at *
    have hstep : (bodStep bods tb b k).length = b.length + B.length ∧
        (∀ i, i < b.length → (i < tb + 40 * k + 16 ∨ tb + 40 * k + 24 ≤ i) → (bodStep bods tb b k)[i]? = b[i]?) ∧
        (0 < B.length → secAt (bodStep bods tb b k) tb k = (b.length, B.length) ∧ cut (bodStep bods tb b k) b.length B.length = B) := by
      unfold bodStep
      rw [hB]
      by_cases h0 : 0 < B.length
      · rw [if_pos h0]
        have l1 : (putL b (tb + 40 * k + 16) B.length 4).length = b.length := putL_len _ _ _ _ (by omega)
        have l2 : (putL (putL b (tb + 40 * k + 16) B.length 4) (tb + 40 * k + 20) b.length 4).length = b.length := by rw [putL_len _ _ _ _ (by omega), l1]
        refine ⟨by rw [List.length_append, l2], fun i hi h1 => ?_, fun _ => ⟨?_, ?_⟩⟩
        · rw [app_at (by omega), put_other (by omega) (by omega), put_other (by omega) (by omega)]
        · unfold secAt
          congr 1
          · rw [num_agree (by omega) (fun i h1 h2 => app_at (by omega)), num_put4 (by omega) (by omega)]
          · rw [num_agree (by omega) (fun i h1 h2 => app_at (by omega)), num_other (by omega) (by omega) (by omega), num_put4 (by omega) (by omega)]
        · exact cut_end l2
      · rw [if_neg h0]
        exact ⟨by omega, fun i hi h1 => rfl, fun h => absurd h h0⟩
    obtain ⟨s1, s2, s3⟩ := hstep
    rw [s1] at IH
    obtain ⟨i1, i2, i3, i4⟩ := IH (by omega) (by omega)
    rw [hls]
    refine ⟨by omega, fun i hi h1 => ?_, fun i hi => ?_, fun i hi => ?_⟩
    · rw [i2 i (by omega) h1, s2 i hi (by omega)]
    · rw [i3 i hi]
      have hoff : offL bods (k :: r) b.length i = if k = i then b.length else offL bods r (b.length + B.length) i := by rw [offL, hB]
      rw [hoff]
      by_cases hki : k = i
      · subst hki
        rw [hB, if_neg (by simp [hkr]), if_pos rfl]
        by_cases h0 : 0 < B.length
        · rw [if_pos ⟨List.mem_cons_self .., h0⟩]
          exact (s3 h0).1
        · rw [if_neg (by simp [h0])]
          unfold secAt
          congr 1
          · refine num_agree (by omega) (fun i h1 h2 => ?_)
            unfold bodStep
            rw [hB, if_neg h0]
          · refine num_agree (by omega) (fun i h1 h2 => ?_)
            unfold bodStep
            rw [hB, if_neg h0]
      · rw [if_neg hki]
        have hm : i ∈ k :: r ↔ i ∈ r := by simp [Ne.symm hki]
        simp only [hm]
        by_cases h2 : i ∈ r ∧ 0 < (bods.getD i []).length
        · rw [if_pos h2, if_pos h2]
        · rw [if_neg h2, if_neg h2]
          unfold secAt
          congr 1
          · exact num_agree (by omega) (fun j h1 h2 => s2 j (by omega) (by omega))
          · exact num_agree (by omega) (fun j h1 h2 => s2 j (by omega) (by omega))
    · have hoff : offL bods (k :: r) b.length i = if k = i then b.length else offL bods r (b.length + B.length) i := by rw [offL, hB]
      rw [hoff]
      by_cases hki : k = i
      · subst hki
        rw [if_pos rfl, hB]
        by_cases h0 : 0 < B.length
        · rw [cut_agree (b := bodStep bods tb b k) (fun j h1 h2 => i2 j (by omega) (by omega))]
          exact (s3 h0).2
        · have : B = [] := List.eq_nil_of_length_eq_zero (by omega)
          subst this
          simp [cut]
      · rw [if_neg hki]
        rcases List.mem_cons.1 hi with rfl | hi
        · exact absurd rfl hki
        · exact i4 i hi
/-- The bodies that have bytes, with where they lie, in the order of ks. -/
def plcL (bods : List (List UInt8)) (ks : List Nat) (e : Nat) (l : List Nat) : List (Nat × Nat) :=
  (l.filter fun i => decide (0 < (bods.getD i []).length)).map fun i => (offL bods ks e i, (bods.getD i []).length)
theorem plc_cons (bods : List (List UInt8)) (k : Nat) (r : List Nat) (e : Nat) : ∀ l : List Nat, k ∉ l → plcL bods (k :: r) e l = plcL bods r (e + (bods.getD k []).length) l := by
  intro l hl
  unfold plcL
  refine List.map_congr_left (fun i hi => ?_)
  have h1 := (List.mem_filter.1 hi).1
  have h2 : k ≠ i := fun e => hl (e ▸ h1)
  simp only [offL]
  rw [if_neg h2]
theorem chain_plc (bods : List (List UInt8)) : ∀ (ks : List Nat) (e : Nat), ks.Nodup → chainR (plcL bods ks e ks) e = (true, e + lensQ bods ks)
  | [], e, _ => by simp [plcL, chainR, lensQ]
  | k :: r, e, hnd => by
    obtain ⟨hkr, hnr⟩ := List.nodup_cons.1 hnd
    have hls : lensQ bods (k :: r) = (bods.getD k []).length + lensQ bods r := by simp [lensQ]
    have IH := chain_plc bods r (e + (bods.getD k []).length) hnr
    rw [← plc_cons bods k r e r hkr] at IH
    by_cases h0 : 0 < (bods.getD k []).length
    · have he : plcL bods (k :: r) e (k :: r) = (e, (bods.getD k []).length) :: plcL bods (k :: r) e r := by
        simp only [plcL]
        rw [List.filter_cons_of_pos (by simpa using h0), List.map_cons]
        simp only [offL, if_true]
      rw [he]
      simp only [chainR, decide_true, Bool.true_and]
      rw [IH, hls, Nat.add_assoc]
    · have he : plcL bods (k :: r) e (k :: r) = plcL bods (k :: r) e r := by
        simp only [plcL]
        rw [List.filter_cons_of_neg (by simpa using h0)]
      rw [he]
      have h1 : (bods.getD k []).length = 0 := by omega
      rw [h1, Nat.add_zero] at IH
      rw [IH, hls, h1, Nat.zero_add]
/-- The order of bodies has each of them once. -/
theorem ordStep_nodup (n : Nat) (out : List Nat) (k : Int) (h : out.Nodup) : (ordStep n out k).Nodup := by
  unfold ordStep
  split
  · rename_i hk
    rw [List.nodup_append]
    refine ⟨h, List.nodup_cons.2 ⟨by simp, List.nodup_nil⟩, fun a ha b hb => ?_⟩
    rw [List.mem_singleton.1 hb]
    intro e
    subst e
    have := hk.2.2
    rw [List.contains_eq_mem] at this
    simp [ha] at this
  · exact h
theorem ordL_nodup (n : Nat) (l : List Int) : (ordL n l).Nodup := fold_inv (ordStep n) List.Nodup (fun b x h => ordStep_nodup n b x h) _ [] List.nodup_nil
theorem ordL_in (n : Nat) (l : List Int) : ∀ x ∈ ordL n l, x < n := fold_inv (ordStep n) (fun b => ∀ x ∈ b, x < n) (fun b x h => ordStep_lt n b x h) _ [] (fun x hx => by cases hx)
theorem ordStep_keep (n : Nat) (out : List Nat) (k : Int) (x : Nat) (h : x ∈ out) : x ∈ ordStep n out k := by
  unfold ordStep
  split
  · exact List.mem_append_left _ h
  · exact h
theorem ord_all (n : Nat) : ∀ (l : List Int) (out : List Nat) (x : Nat), x < n → (x ∈ out ∨ (x : Int) ∈ l) → x ∈ l.foldl (ordStep n) out
  | [], out, x, hx, h => by
    rcases h with h | h
    · exact h
    · cases h
  | k :: r, out, x, hx, h => by
    rw [List.foldl_cons]
    refine ord_all n r _ x hx ?_
    rcases h with h | h
    · exact .inl (ordStep_keep n out k x h)
    · rcases List.mem_cons.1 h with rfl | h
      · refine .inl ?_
        unfold ordStep
        by_cases hc : x ∈ out
        · rw [if_neg (by simp [hc])]
          exact hc
        · rw [if_pos (by simp [hc]; omega)]
          simp
      · exact .inr h
theorem ordL_mem (n : Nat) (l : List Int) (x : Nat) (h : x < n) : x ∈ ordL n l := by
  unfold ordL
  refine ord_all n _ [] x h (.inr ?_)
  unfold ordAll
  refine List.mem_append_right _ ?_
  exact List.mem_map.2 ⟨x, List.mem_range.2 h, rfl⟩
theorem ordL_perm (n : Nat) (l : List Int) : (ordL n l).Perm (List.range n) := by
  refine (List.perm_ext_iff_of_nodup (ordL_nodup n l) List.nodup_range).2 (fun x => ?_)
  rw [List.mem_range]
  exact ⟨ordL_in n l x, ordL_mem n l x⟩
/-! ### What is read, from what the bytes say -/
theorem secs_plc (bods : List (List UInt8)) (ks : List Nat) (b : List UInt8) (tb n hdr : Nat)
    (h1 : ∀ i, i < n → 0 < (bods.getD i []).length → secAt b tb i = (offL bods ks hdr i, (bods.getD i []).length)) (h0 : ∀ i, i < n → (bods.getD i []).length = 0 → (secAt b tb i).2 = 0) :
    secN b tb n = plcL bods ks hdr (List.range n) := by
  unfold secN plcL
  rw [List.filter_map]
  have e : (List.range n).filter ((fun s : Nat × Nat => decide (0 < s.2)) ∘ secAt b tb) = (List.range n).filter fun i => decide (0 < (bods.getD i []).length) := by
    refine List.filter_congr (fun i hi => ?_)
    have hi' := List.mem_range.1 hi
    simp only [Function.comp]
    by_cases h : 0 < (bods.getD i []).length
    · rw [h1 i hi' h]
    · rw [h0 i hi' (by omega), decide_eq_false h]
      rfl
  rw [e]
  refine List.map_congr_left (fun i hi => ?_)
  obtain ⟨hi1, hi2⟩ := List.mem_filter.1 hi
  exact h1 i (List.mem_range.1 hi1) (by simpa using hi2)
theorem plc_chain (bods : List (List UInt8)) (ks : List Nat) (n hdr : Nat) (hp : ks.Perm (List.range n)) :
    (chainS (riseL (plcL bods ks hdr (List.range n))) hdr).1 = true ∧ (chainS (riseL (plcL bods ks hdr (List.range n))) hdr).2 = hdr + lensQ bods ks := by
  have hnd : ks.Nodup := hp.symm.nodup List.nodup_range
  have hc := chain_plc bods ks hdr hnd
  have hc1 : (chainR (plcL bods ks hdr ks) hdr).1 = true := by rw [hc]
  have hpp : (plcL bods ks hdr ks).Perm (plcL bods ks hdr (List.range n)) := (hp.filter _).map _
  have hs := chain_same (plcL bods ks hdr (List.range n)) (plcL bods ks hdr ks) hdr hpp ((chain_parts _ _ hc1).2.2.imp (fun h => by omega)) (fun x hx => by
    unfold plcL at hx
    obtain ⟨i, hi, rfl⟩ := List.mem_map.1 hx
    simpa using (List.mem_filter.1 hi).2)
  have h1 : (chainS (riseL (plcL bods ks hdr (List.range n))) hdr).1 = true := by rw [← hs.1, chainS_eq, hc]
  refine ⟨h1, ?_⟩
  rw [← hs.2 h1, chainS_eq, hc]
/-- What the bytes of an image say, as far as its sections. -/
structure MF (b : List UInt8) (plus : Bool) (p n hdr : Nat) (bods : List (List UInt8)) (ks : List Nat) : Prop where
  h : HF b plus p n hdr
  hp : 64 ≤ p
  hn : 1 ≤ n ∧ n ≤ 96
  hh : p + 24 + sizeL plus + 40 * n ≤ hdr
  s1 : ∀ i, i < n → 0 < (bods.getD i []).length → secAt b (p + 24 + sizeL plus) i = (offL bods ks hdr i, (bods.getD i []).length)
  s0 : ∀ i, i < n → (bods.getD i []).length = 0 → (secAt b (p + 24 + sizeL plus) i).2 = 0
  perm : ks.Perm (List.range n)
  len : hdr + lensQ bods ks ≤ b.length
theorem MF.secs {b : List UInt8} {plus : Bool} {p n hdr : Nat} {bods : List (List UInt8)} {ks : List Nat} (h : MF b plus p n hdr bods ks) : secsQ b = plcL bods ks hdr (List.range n) ∧ secB b = true ∧ endQ b = hdr + lensQ bods ks := by
  obtain ⟨o1, o2, o3, o4, o5, o6, o7, o8, o9, o10, o11⟩ := h.h.opt
  have e : secsQ b = plcL bods ks hdr (List.range n) := by unfold secsQ; rw [o8, o3]; exact secs_plc bods ks b _ n hdr h.s1 h.s0
  obtain ⟨c1, c2⟩ := plc_chain bods ks n hdr h.perm
  have he : endQ b = hdr + lensQ bods ks := by unfold endQ; rw [e, o9, c2]
  refine ⟨e, ?_, he⟩
  unfold secB
  rw [he, e, o9, c1, o8, o3]
  have hi : secIn b (p + 24 + sizeL plus) n = true := by
    unfold secIn inQ
    rw [List.all_eq_true]
    intro i hi
    have := List.mem_range.1 hi
    have h1 := h.hh
    have h2 := h.len
    simp
    omega
  rw [hi]
  have := h.len
  simp
  exact this
/-- The image that is read, but for its table. -/
def imL (plus : Bool) (p n hdr : Nat) (bods : List (List UInt8)) (ks : List Nat) (t l : Nat) (sigs : List (List UInt8)) : Im :=
  ⟨plus, p + 88, p + sizeL plus - 72, hdr, plcL bods ks hdr (List.range n), t, l, sigs⟩
theorem MF.im {b : List UInt8} {plus : Bool} {p n hdr : Nat} {bods : List (List UInt8)} {ks : List Nat} (h : MF b plus p n hdr bods ks) (t l : Nat) (sigs : List (List UInt8)) : imOf b t l sigs = imL plus p n hdr bods ks t l sigs := by
  obtain ⟨o1, o2, o3, o4, o5, o6, o7, o8, o9, o10, o11⟩ := h.h.opt
  unfold imOf imL
  rw [o11, o2, o10, o9, h.secs.1]
theorem MF.parse {b : List UInt8} {plus : Bool} {p n hdr : Nat} {bods : List (List UInt8)} {ks : List Nat} (h : MF b plus p n hdr bods ks) (hl : b.length ≤ 16777216) :
    parseQ b = if ctQ b = 0 ∧ clQ b = 0 then .inr (imL plus p n hdr bods ks 0 0 []) else if sgB b.length (ctQ b) (clQ b) (hdr + lensQ bods ks) = false then .inl 9
      else match rowsQ b (ctQ b) with
        | none => .inl 9
        | some l => if 8 < l.length then .inl 10 else .inr (imL plus p n hdr bods ks (ctQ b) (clQ b) l) := by
  have hlen := h.len
  have hg := h.h.good h.hp h.hn h.hh (by omega)
  have hs := h.secs
  unfold parseQ
  rw [if_neg (by omega), hg.1, hg.2, hs.2.1, hs.2.2]
  simp only [Bool.and_self, h.im]
  rfl
theorem MF.at_ {b : List UInt8} {plus : Bool} {p n hdr : Nat} {bods : List (List UInt8)} {ks : List Nat} (h : MF b plus p n hdr bods ks) : ctQ b = numQ b (p + sizeL plus - 72) 4 ∧ clQ b = numQ b (p + sizeL plus - 68) 4 := by
  obtain ⟨o1, o2, o3, o4, o5, o6, o7, o8, o9, o10, o11⟩ := h.h.opt
  have hs := sizeL_two plus
  unfold ctQ clQ
  rw [o10]
  exact ⟨rfl, by rw [show p + sizeL plus - 72 + 4 = p + sizeL plus - 68 by omega]⟩
/-- The bytes turned elsewhere. -/
theorem MF.agree {b b' : List UInt8} {plus : Bool} {p n hdr : Nat} {bods : List (List UInt8)} {ks : List Nat} (h : MF b plus p n hdr bods ks) (hl : hdr + lensQ bods ks ≤ b'.length)
    (ha : ∀ i, i < p + sizeL plus - 104 → (i < p + 88 ∨ p + sizeL plus - 108 ≤ i) → b'[i]? = b[i]?)
    (hb : ∀ k i, k < n → p + 24 + sizeL plus + 40 * k + 16 ≤ i → i < p + 24 + sizeL plus + 40 * k + 20 → b'[i]? = b[i]?)
    (hc : ∀ k i, k < n → 0 < (bods.getD k []).length → p + 24 + sizeL plus + 40 * k + 20 ≤ i → i < p + 24 + sizeL plus + 40 * k + 24 → b'[i]? = b[i]?) : MF b' plus p n hdr bods ks := by
  refine ⟨h.h.agree h.hp ha, h.hp, h.hn, h.hh, fun k hk h0 => ?_, fun k hk h0 => ?_, h.perm, hl⟩
  · rw [← h.s1 k hk h0]
    unfold secAt
    congr 1
    · exact num_agree (by omega) (fun i h1 h2 => hc k i hk h0 h1 (by omega))
    · exact num_agree (by omega) (fun i h1 h2 => hb k i hk h1 (by omega))
  · rw [← h.s0 k hk h0]
    unfold secAt
    exact num_agree (by omega) (fun i h1 h2 => hb k i hk h1 (by omega))
/-! ### The rows of a certificate table -/
theorem row_parts (pre post s : List UInt8) (hs : 1 ≤ s.length ∧ s.length < 4294967000) :
    numQ (pre ++ sigRow s ++ post) pre.length 4 = 8 + s.length ∧ cut (pre ++ sigRow s ++ post) (pre.length + 4) 4 = [0, 2, 2, 0] ∧
      cut (pre ++ sigRow s ++ post) (pre.length + 8) s.length = s ∧ cut (pre ++ sigRow s ++ post) (pre.length + (8 + s.length)) ((8 - s.length % 8) % 8) = List.replicate ((8 - s.length % 8) % 8) 0 := by
  have e : pre ++ sigRow s ++ post = pre ++ leB (8 + s.length) 4 ++ [0, 2, 2, 0] ++ s ++ List.replicate ((8 - s.length % 8) % 8) 0 ++ post := by
    unfold sigRow; simp only [List.append_assoc]
  rw [e]
  have hb := leB_len (8 + s.length) 4
  have C : ∀ (X Y Z : List UInt8) (a k : Nat), X.length = a → Y.length = k → cut (X ++ Y ++ Z) a k = Y := by
    intro X Y Z a k h1 h2
    rw [cut_app (by rw [List.length_append]; omega)]
    subst h2
    exact cut_end h1
  refine ⟨?_, ?_, ?_, ?_⟩
  · unfold numQ
    rw [if_pos (by simp [hb])]
    rw [show pre ++ leB (8 + s.length) 4 ++ [0, 2, 2, 0] ++ s ++ List.replicate ((8 - s.length % 8) % 8) 0 ++ post = pre ++ leB (8 + s.length) 4 ++ ([0, 2, 2, 0] ++ s ++ List.replicate ((8 - s.length % 8) % 8) 0 ++ post) by simp only [List.append_assoc]]
    rw [C _ _ _ _ _ rfl hb, leN_le4 _ (by omega)]
  · rw [show pre ++ leB (8 + s.length) 4 ++ [0, 2, 2, 0] ++ s ++ List.replicate ((8 - s.length % 8) % 8) 0 ++ post = (pre ++ leB (8 + s.length) 4) ++ [0, 2, 2, 0] ++ (s ++ List.replicate ((8 - s.length % 8) % 8) 0 ++ post) by simp only [List.append_assoc]]
    exact C _ _ _ _ _ (by simp [hb]) rfl
  · rw [show pre ++ leB (8 + s.length) 4 ++ [0, 2, 2, 0] ++ s ++ List.replicate ((8 - s.length % 8) % 8) 0 ++ post = (pre ++ leB (8 + s.length) 4 ++ [0, 2, 2, 0]) ++ s ++ (List.replicate ((8 - s.length % 8) % 8) 0 ++ post) by simp only [List.append_assoc]]
    exact C _ _ _ _ _ (by simp [hb]) rfl
  · refine C _ _ _ _ _ (by simp [hb]; omega) (by simp)
theorem rows_row (pre post s : List UInt8) (hs : 1 ≤ s.length ∧ s.length < 4294967000) : rowsQ (pre ++ sigRow s ++ post) pre.length = (rowsQ (pre ++ sigRow s ++ post) (pre ++ sigRow s).length).map (s :: ·) := by
  obtain ⟨r1, r2, r3, r4⟩ := row_parts pre post s hs
  have hl := sigRow_len s
  have hp : padQ (pre ++ sigRow s ++ post) pre.length = (sigRow s).length := by unfold padQ; rw [r1, hl]; omega
  have hL : (pre ++ sigRow s ++ post).length = pre.length + (sigRow s).length + post.length := by simp; omega
  rw [rowsQ_yes (by omega) (by
    unfold rowOk inQ
    rw [hp, r1, r2]
    simp
    omega) (by
    unfold fillB
    rw [hp, r1, show (sigRow s).length - (8 + s.length) = (8 - s.length % 8) % 8 by omega, r4]
    simp), hp, r1, show 8 + s.length - 8 = s.length by omega, r3, ← List.length_append]
theorem rows_table : ∀ (l : List (List UInt8)) (pre : List UInt8), (∀ s ∈ l, 1 ≤ s.length ∧ s.length < 4294967000) → rowsQ (pre ++ tableL l) pre.length = some l
  | [], pre, _ => by
    have e : tableL [] = [] := rfl
    rw [e, List.append_nil]
    exact rowsQ_end (Nat.le_refl _)
  | s :: r, pre, h => by
    have e : tableL (s :: r) = sigRow s ++ tableL r := rfl
    rw [e, ← List.append_assoc, rows_row _ _ _ (h s (List.mem_cons_self ..)), rows_table r (pre ++ sigRow s) (fun x hx => h x (List.mem_cons_of_mem _ hx))]
    rfl
theorem table_pos {l : List (List UInt8)} (h : l ≠ []) : 0 < (tableL l).length := by
  cases l with
  | nil => exact absurd rfl h
  | cons s r =>
    have e : tableL (s :: r) = sigRow s ++ tableL r := rfl
    rw [e, List.length_append, sigRow_len]
    omega
/-! ### An image that is made -/
theorem blank_get (plus : Bool) (stub fill : List UInt8) (n i : Nat) (h1 : peL stub ≤ i) (h2 : i < tbL plus stub + 40 * n) : (blankL plus stub fill n)[i]? = some 0 := by
  have hd : dosL.length = 64 := by decide
  have hl : (putL dosL 60 (peL stub) 4 ++ stub).length = peL stub := by rw [List.length_append, putL_len _ _ _ _ (by rw [hd]; omega), hd]; rfl
  unfold blankL
  unfold tbL opL at h2
  rw [List.getElem?_append_left (by rw [List.length_append, hl, List.length_replicate]; omega), List.getElem?_append_right (by rw [hl]; exact h1), hl, List.getElem?_replicate, if_pos (by omega)]
theorem head_facts (plus : Bool) (stub fill : List UInt8) (n : Nat) (hs : stub.length ≤ 100000) (hf : fill.length ≤ 100000) (hn : n ≤ 96) :
    HF (headL plus stub fill n) plus (peL stub) n (hdL plus stub fill n) ∧
      (∀ i, i < n → secAt (headL plus stub fill n) (tbL plus stub) i = (0, 0)) ∧
      numQ (headL plus stub fill n) (peL stub + sizeL plus - 72) 4 = 0 ∧ numQ (headL plus stub fill n) (peL stub + sizeL plus - 68) 4 = 0 := by
  have h0 := blank_len plus stub fill n
  have hz := blank_get plus stub fill n
  have hs2 := sizeL_two plus
  have hh : hdL plus stub fill n = tbL plus stub + 40 * n + fill.length := rfl
  have ht : tbL plus stub = opL stub + sizeL plus := rfl
  have hp : opL stub = peL stub + 24 := rfl
  have hpp : peL stub = 64 + stub.length := rfl
  have hmz : cut (blankL plus stub fill n) 0 2 = [77, 90] ∧ numQ (blankL plus stub fill n) 60 4 = peL stub := by
    have hd : dosL.length = 64 := by decide
    have hl : (putL dosL 60 (peL stub) 4).length = 64 := by rw [putL_len _ _ _ _ (by rw [hd]; omega), hd]
    have hg : ∀ i, i < 64 → (blankL plus stub fill n)[i]? = (putL dosL 60 (peL stub) 4)[i]? := by
      intro i hi
      unfold blankL
      rw [app_at (by simp [hl]; omega), app_at (by simp [hl]; omega), app_at (by omega)]
    refine ⟨?_, ?_⟩
    · rw [cut_agree (fun i h1 h2 => hg i (by omega)), cut_other (by rw [hd]; omega) (by omega)]
      rfl
    · rw [num_agree (by omega) (fun i h1 h2 => hg i (by omega)), num_put4 (by rw [hd]; omega) (by omega)]
  have hsz : sizeL plus < 65536 ∧ magL plus < 65536 := by cases plus <;> decide
  unfold headL
  generalize hB : blankL plus stub fill n = B at *
  have L0 : B.length = hdL plus stub fill n := h0
  obtain ⟨B1, e1⟩ : ∃ X, putL B (peL stub) 17744 4 = X := ⟨_, rfl⟩
  have L1 : B1.length = hdL plus stub fill n := by rw [← e1]; exact putL_le L0 (by omega)
  obtain ⟨B2, e2⟩ : ∃ X, putL B1 (peL stub + 6) n 2 = X := ⟨_, rfl⟩
  have L2 : B2.length = hdL plus stub fill n := by rw [← e2]; exact putL_le L1 (by omega)
  obtain ⟨B3, e3⟩ : ∃ X, putL B2 (peL stub + 20) (sizeL plus) 2 = X := ⟨_, rfl⟩
  have L3 : B3.length = hdL plus stub fill n := by rw [← e3]; exact putL_le L2 (by omega)
  obtain ⟨B4, e4⟩ : ∃ X, putL B3 (opL stub) (magL plus) 2 = X := ⟨_, rfl⟩
  have L4 : B4.length = hdL plus stub fill n := by rw [← e4]; exact putL_le L3 (by omega)
  obtain ⟨B5, e5⟩ : ∃ X, putL B4 (opL stub + 60) (hdL plus stub fill n) 4 = X := ⟨_, rfl⟩
  have L5 : B5.length = hdL plus stub fill n := by rw [← e5]; exact putL_le L4 (by omega)
  obtain ⟨B6, e6⟩ : ∃ X, putL B5 (tbL plus stub - 132) 16 4 = X := ⟨_, rfl⟩
  have L6 : B6.length = hdL plus stub fill n := by rw [← e6]; exact putL_le L5 (by omega)
  rw [e1, e2, e3, e4, e5, e6]
  have g1 : ∀ i, (i < peL stub ∨ peL stub + 4 ≤ i) → B1[i]? = B[i]? := by intro i hi; rw [← e1]; exact put_other (by omega) (by omega)
  have g2 : ∀ i, (i < peL stub + 6 ∨ peL stub + 8 ≤ i) → B2[i]? = B1[i]? := by intro i hi; rw [← e2]; exact put_other (by omega) (by omega)
  have g3 : ∀ i, (i < peL stub + 20 ∨ peL stub + 22 ≤ i) → B3[i]? = B2[i]? := by intro i hi; rw [← e3]; exact put_other (by omega) (by omega)
  have g4 : ∀ i, (i < peL stub + 24 ∨ peL stub + 26 ≤ i) → B4[i]? = B3[i]? := by intro i hi; rw [← e4]; exact put_other (by omega) (by omega)
  have g5 : ∀ i, (i < peL stub + 84 ∨ peL stub + 88 ≤ i) → B5[i]? = B4[i]? := by intro i hi; rw [← e5]; exact put_other (by omega) (by omega)
  have g6 : ∀ i, (i < tbL plus stub - 132 ∨ tbL plus stub - 128 ≤ i) → B6[i]? = B5[i]? := by intro i hi; rw [← e6]; exact put_other (by omega) (by omega)
  have gz : ∀ i, tbL plus stub - 128 ≤ i → i < tbL plus stub + 40 * n → B6[i]? = some 0 := by
    intro i h1 h2
    rw [g6 i (by omega), g5 i (by omega), g4 i (by omega), g3 i (by omega), g2 i (by omega), g1 i (by omega)]
    exact hz i (by omega) (by omega)
  refine ⟨⟨?_, ?_, ?_, ?_, ?_, ?_, ?_, ?_⟩, ?_, ?_, ?_⟩
  · rw [← hmz.1]
    exact cut_agree (fun i h1 h2 => by rw [g6 i (by omega), g5 i (by omega), g4 i (by omega), g3 i (by omega), g2 i (by omega), g1 i (by omega)])
  · rw [← hmz.2]
    exact num_agree (by omega) (fun i h1 h2 => by rw [g6 i (by omega), g5 i (by omega), g4 i (by omega), g3 i (by omega), g2 i (by omega), g1 i (by omega)])
  · rw [cut_agree (b := B1) (fun i h1 h2 => by rw [g6 i (by omega), g5 i (by omega), g4 i (by omega), g3 i (by omega), g2 i (by omega)]), ← e1, cut_put (by omega)]
    decide
  · rw [num_agree (b := B2) (by omega) (fun i h1 h2 => by rw [g6 i (by omega), g5 i (by omega), g4 i (by omega), g3 i (by omega)]), ← e2, num_put2 (by omega) (by omega)]
  · rw [num_agree (b := B3) (by omega) (fun i h1 h2 => by rw [g6 i (by omega), g5 i (by omega), g4 i (by omega)]), ← e3, num_put2 (by omega) (by omega)]
  · rw [← hp, num_agree (b := B4) (by omega) (fun i h1 h2 => by rw [g6 i (by omega), g5 i (by omega)]), ← e4, num_put2 (by omega) (by omega)]
  · rw [show peL stub + 84 = opL stub + 60 by omega, num_agree (b := B5) (by omega) (fun i h1 h2 => by rw [g6 i (by omega)]), ← e5, num_put4 (by omega) (by omega)]
  · rw [show peL stub + sizeL plus - 108 = tbL plus stub - 132 by omega, ← e6, num_put4 (by omega) (by omega)]
  · intro i hi
    unfold secAt
    rw [num_zero (fun j q h1 h2 h3 => by rw [gz j (by omega) (by omega)] at h3; exact (Option.some.inj h3).symm), num_zero (fun j q h1 h2 h3 => by rw [gz j (by omega) (by omega)] at h3; exact (Option.some.inj h3).symm)]
  · exact num_zero (fun j q h1 h2 h3 => by rw [gz j (by omega) (by omega)] at h3; exact (Option.some.inj h3).symm)
  · exact num_zero (fun j q h1 h2 h3 => by rw [gz j (by omega) (by omega)] at h3; exact (Option.some.inj h3).symm)
theorem lens_perm (bods : List (List UInt8)) {l l' : List Nat} (h : l.Perm l') : lensQ bods l = lensQ bods l' := (h.map _).sum_nat
theorem lens_le (bods : List (List UInt8)) (B : Nat) (hb : ∀ s ∈ bods, s.length ≤ B) : ∀ (ks : List Nat), (∀ k ∈ ks, k < bods.length) → lensQ bods ks ≤ ks.length * B
  | [], _ => by simp [lensQ]
  | k :: r, h => by
    have hls : lensQ bods (k :: r) = (bods.getD k []).length + lensQ bods r := by simp [lensQ]
    have h1 := lens_le bods B hb r (fun x hx => h x (List.mem_cons_of_mem _ hx))
    have h2 := hb _ (getL_mem (h k (List.mem_cons_self ..)))
    rw [hls, List.length_cons, Nat.add_mul]
    omega
/-- What an image is that is made: where its table lies (0: it has none), and how long that is. -/
structure Made (b : List UInt8) (plus : Bool) (p n hdr : Nat) (bods : List (List UInt8)) (ks : List Nat) (sigs : List (List UInt8)) (t l : Nat) : Prop where
  m : MF b plus p n hdr bods ks
  big : b.length ≤ 100000
  ct : ctQ b = t
  cl : clQ b = l
  body : ∀ i, i < n → cut b (offL bods ks hdr i) (bods.getD i []).length = bods.getD i []
  no : sigs = [] → t = 0 ∧ l = 0
  yes : sigs ≠ [] → t % 8 = 0 ∧ hdr + lensQ bods ks ≤ t ∧ t + l = b.length ∧ 0 < l ∧ b.drop t = tableL sigs ∧ l = (tableL sigs).length
  nn : n = bods.length
  sg : ∀ s ∈ sigs, 1 ≤ s.length ∧ s.length < 4294967000
/-- The limits within which images are made here. -/
structure BD (stub fill : List UInt8) (bods : List (List UInt8)) (beh : List UInt8) (sigs : List (List UInt8)) : Prop where
  s : stub.length ≤ 200
  f : fill.length ≤ 200
  n : 1 ≤ bods.length ∧ bods.length ≤ 10
  b : ∀ s ∈ bods, s.length ≤ 300
  h : beh.length ≤ 500
  g : sigs.length ≤ 20
  gs : ∀ s ∈ sigs, 1 ≤ s.length ∧ s.length ≤ 301
theorem pad_len (b : List UInt8) : (padL b).length % 8 = 0 ∧ b.length ≤ (padL b).length ∧ (padL b).length ≤ b.length + 7 := by
  unfold padL
  rw [List.length_append, List.length_replicate]
  omega
theorem write_made (plus : Bool) (stub fill : List UInt8) (bods : List (List UInt8)) (ord : List Int) (beh : List UInt8) (sigs : List (List UInt8)) (h : BD stub fill bods beh sigs) :
    ∃ t l, Made (writeL plus stub fill bods ord beh sigs) plus (peL stub) bods.length (hdL plus stub fill bods.length) bods (ordL bods.length ord) sigs t l ∧
      (sigs = [] → (writeL plus stub fill bods ord beh sigs).length = hdL plus stub fill bods.length + lensQ bods (ordL bods.length ord) + beh.length) := by
  obtain ⟨hs, hf, ⟨hn1, hn2⟩, hb, hh, hg, hgs⟩ := h
  have hsz := sizeL_two plus
  have eh : hdL plus stub fill bods.length = tbL plus stub + 40 * bods.length + fill.length := rfl
  have et : tbL plus stub = peL stub + 24 + sizeL plus := rfl
  have ep : peL stub = 64 + stub.length := rfl
  obtain ⟨f1, f2, f3, f4⟩ := head_facts plus stub fill bods.length (by omega) (by omega) (by omega)
  have hl := head_len plus stub fill bods.length
  have hpm := ordL_perm bods.length ord
  have hnd := ordL_nodup bods.length ord
  have hin := ordL_in bods.length ord
  have hlen : lensQ bods (ordL bods.length ord) ≤ 3000 := by
    have h1 := lens_le bods 300 hb (ordL bods.length ord) hin
    have h2 := hpm.length_eq
    rw [List.length_range] at h2
    rw [h2] at h1
    omega
  obtain ⟨r1, r2, r3, r4⟩ := bods_run bods (tbL plus stub) bods.length (hdL plus stub fill bods.length) rfl (fun s hs => by have := hb s hs; omega) (by omega) (ordL bods.length ord) (headL plus stub fill bods.length) hnd hin (by omega) (by omega)
  rw [hl] at r1 r2 r3 r4
  have hW : writeL plus stub fill bods ord beh sigs = sealL (tbL plus stub) ((ordL bods.length ord).foldl (bodStep bods (tbL plus stub)) (headL plus stub fill bods.length) ++ beh) sigs := rfl
  rw [hW]
  generalize hks : ordL bods.length ord = ks at *
  generalize hH : headL plus stub fill bods.length = H at *
  generalize hC : ks.foldl (bodStep bods (tbL plus stub)) H = C at *
  have hoff : ∀ i, i < bods.length → hdL plus stub fill bods.length ≤ offL bods ks (hdL plus stub fill bods.length) i ∧ offL bods ks (hdL plus stub fill bods.length) i + (bods.getD i []).length ≤ C.length := by
    intro i hi
    have h1 := offL_le bods ks (hdL plus stub fill bods.length) i
    have h2 : i ∈ ks := hpm.mem_iff.2 (List.mem_range.2 hi)
    have := h1.2 h2
    omega
  have key : ∀ b' : List UInt8, hdL plus stub fill bods.length + lensQ bods ks ≤ b'.length → b'.length ≤ 100000 → (∀ i, i < C.length → (i < tbL plus stub - 96 ∨ tbL plus stub - 88 ≤ i) → b'[i]? = C[i]?) →
      MF b' plus (peL stub) bods.length (hdL plus stub fill bods.length) bods ks ∧ ∀ i, i < bods.length → cut b' (offL bods ks (hdL plus stub fill bods.length) i) (bods.getD i []).length = bods.getD i [] := by
    intro b' hb1 hb2 ha
    refine ⟨⟨?_, by omega, by omega, by omega, fun i hi h0 => ?_, fun i hi h0 => ?_, hpm, hb1⟩, fun i hi => ?_⟩
    · refine f1.agree (by omega) (fun i h1 h2 => ?_)
      rw [ha i (by omega) (by omega), r2 i (by omega) (by omega)]
    · have h3 := r3 i hi
      rw [if_pos ⟨hpm.mem_iff.2 (List.mem_range.2 hi), h0⟩] at h3
      rw [← h3, ← et]
      unfold secAt
      congr 1
      · exact num_agree (by omega) (fun j h1 h2 => ha j (by omega) (by omega))
      · exact num_agree (by omega) (fun j h1 h2 => ha j (by omega) (by omega))
    · have h3 := r3 i hi
      rw [if_neg (by omega), f2 i hi] at h3
      have h4 : (secAt C (tbL plus stub) i).2 = 0 := by rw [h3]
      rw [← h4, ← et]
      unfold secAt
      exact num_agree (by omega) (fun j h1 h2 => ha j (by omega) (by omega))
    · rw [← r4 i (hpm.mem_iff.2 (List.mem_range.2 hi))]
      have := hoff i hi
      rw [r4 i (hpm.mem_iff.2 (List.mem_range.2 hi))]
      conv => rhs; rw [← r4 i (hpm.mem_iff.2 (List.mem_range.2 hi))]
      exact cut_agree (fun j h1 h2 => ha j (by omega) (by omega))
  by_cases h0 : sigs = []
  · have hse : sealL (tbL plus stub) (C ++ beh) sigs = C ++ beh := if_pos h0
    rw [hse]
    have hbl : (C ++ beh).length = C.length + beh.length := List.length_append
    have ha : ∀ i, i < C.length → (C ++ beh)[i]? = C[i]? := fun i hi => app_at hi
    obtain ⟨m1, m2⟩ := key (C ++ beh) (by omega) (by omega) (fun i hi _ => ha i hi)
    obtain ⟨a1, a2⟩ := m1.at_
    refine ⟨0, 0, ⟨m1, by omega, ?_, ?_, m2, fun _ => ⟨rfl, rfl⟩, fun h => absurd h0 h, rfl, (fun s hs => by rw [h0] at hs; cases hs)⟩, fun _ => by omega⟩
    · rw [a1, ← f3]
      exact num_agree (by omega) (fun j h1 h2 => by rw [ha j (by omega), r2 j (by omega) (by omega)])
    · rw [a2, ← f4]
      exact num_agree (by omega) (fun j h1 h2 => by rw [ha j (by omega), r2 j (by omega) (by omega)])
  · have hse : sealL (tbL plus stub) (C ++ beh) sigs = putL (putL (padL (C ++ beh)) (tbL plus stub - 96) (padL (C ++ beh)).length 4) (tbL plus stub - 92) (tableL sigs).length 4 ++ tableL sigs := if_neg h0
    rw [hse]
    have hbl : (C ++ beh).length = C.length + beh.length := List.length_append
    obtain ⟨p1, p2, p3⟩ := pad_len (C ++ beh)
    have hpad : ∀ i, i < C.length → (padL (C ++ beh))[i]? = C[i]? := fun i hi => by unfold padL; rw [app_at (by omega), app_at hi]
    have htl := tableL_le sigs 301 (fun s hs => (hgs s hs).2)
    have htp := table_pos h0
    have htl2 : (tableL sigs).length ≤ 6340 := Nat.le_trans htl (Nat.mul_le_mul_right _ hg)
    generalize hP : padL (C ++ beh) = P at *
    obtain ⟨P1, e1⟩ : ∃ X, putL P (tbL plus stub - 96) P.length 4 = X := ⟨_, rfl⟩
    have l1 : P1.length = P.length := by rw [← e1]; exact putL_len _ _ _ _ (by omega)
    obtain ⟨P2, e2⟩ : ∃ X, putL P1 (tbL plus stub - 92) (tableL sigs).length 4 = X := ⟨_, rfl⟩
    have l2 : P2.length = P.length := by rw [← e2, putL_len _ _ _ _ (by omega), l1]
    rw [e1, e2]
    have q1 : ∀ i, (i < tbL plus stub - 96 ∨ tbL plus stub - 92 ≤ i) → P1[i]? = P[i]? := by intro i hi; rw [← e1]; exact put_other (by omega) (by omega)
    have q2 : ∀ i, (i < tbL plus stub - 92 ∨ tbL plus stub - 88 ≤ i) → P2[i]? = P1[i]? := by intro i hi; rw [← e2]; exact put_other (by omega) (by omega)
    have hbl2 : (P2 ++ tableL sigs).length = P.length + (tableL sigs).length := by rw [List.length_append, l2]
    obtain ⟨m1, m2⟩ := key (P2 ++ tableL sigs) (by omega) (by omega) (fun i hi h1 => by rw [app_at (by omega), q2 i (by omega), q1 i (by omega), hpad i hi])
    obtain ⟨a1, a2⟩ := m1.at_
    refine ⟨P.length, (tableL sigs).length, ⟨m1, by omega, ?_, ?_, m2, fun h => absurd h h0, fun _ => ⟨p1, by omega, by omega, htp, ?_, rfl⟩, rfl, fun s hs => by have := hgs s hs; omega⟩, fun h => absurd h h0⟩
    · rw [a1, num_agree (b := P1) (by omega) (fun j h1 h2 => by rw [app_at (by omega), q2 j (by omega)]), show peL stub + sizeL plus - 72 = tbL plus stub - 96 by omega, ← e1, num_put4 (by omega) (by omega)]
    · rw [a2, num_agree (b := P2) (by omega) (fun j h1 h2 => by rw [app_at (by omega)]), show peL stub + sizeL plus - 68 = tbL plus stub - 92 by omega, ← e2, num_put4 (by omega) (by omega)]
    · rw [← l2, List.drop_left]
/-! ### What is read of an image that is made, and of one that is turned -/
section
variable {b : List UInt8} {plus : Bool} {p n hdr : Nat} {bods : List (List UInt8)} {ks : List Nat} {sigs : List (List UInt8)} {t l : Nat}
theorem Made.rows (h : Made b plus p n hdr bods ks sigs t l) (h0 : sigs ≠ []) : rowsQ b t = some sigs := by
  obtain ⟨y1, y2, y3, y4, y5, y6⟩ := h.yes h0
  have e : b = b.take t ++ tableL sigs := by rw [← y5, List.take_append_drop]
  have hl : (b.take t).length = t := by rw [List.length_take]; omega
  have := rows_table sigs (b.take t) h.sg
  rw [← e, hl] at this
  exact this
theorem Made.parse (h : Made b plus p n hdr bods ks sigs t l) : parseQ b = if 8 < sigs.length then .inl 10 else .inr (imL plus p n hdr bods ks t l sigs) := by
  rw [h.m.parse (by have := h.big; omega), h.ct, h.cl]
  by_cases h0 : sigs = []
  · obtain ⟨n1, n2⟩ := h.no h0
    rw [if_pos ⟨n1, n2⟩, h0, n1, n2]
    rfl
  · obtain ⟨y1, y2, y3, y4, y5, y6⟩ := h.yes h0
    have hs : sgB b.length t l (hdr + lensQ bods ks) = true := by unfold sgB; simp; omega
    rw [if_neg (by omega), if_neg (by rw [hs]; simp), h.rows h0]
theorem num_take (b : List UInt8) (c a k : Nat) (hc : c ≤ b.length) (h : a + k ≤ c) : numQ (b.take c) a k = numQ b a k := by
  unfold numQ
  have hl : (b.take c).length = c := by rw [List.length_take]; omega
  rw [if_pos (by omega), if_pos (by omega)]
  congr 1
  exact cut_agree (fun i h1 h2 => by rw [List.getElem?_take, if_pos (by omega)])
/-- Cut anywhere an image with a table is none. -/
theorem Made.cut_ (h : Made b plus p n hdr bods ks sigs t l) (h0 : sigs ≠ []) (c : Nat) (hc : c < b.length) : parseQ (b.take c) = .inl 9 := by
  obtain ⟨y1, y2, y3, y4, y5, y6⟩ := h.yes h0
  have hl : (b.take c).length = c := by rw [List.length_take]; omega
  have hT : ∀ a k, a + k ≤ c → numQ (b.take c) a k = numQ b a k := fun a k => num_take b c a k (by omega)
  have hbig := h.big
  obtain ⟨o1, o2, o3, o4, o5, o6, o7, o8, o9, o10, o11⟩ := h.m.h.opt
  obtain ⟨a1, a2⟩ := h.m.at_
  have hs := sizeL_two plus
  unfold parseQ
  rw [if_neg (by omega)]
  by_cases hg : (hdB (b.take c) && secB (b.take c) && dirB (b.take c)) = false
  · rw [if_pos hg]
  · rw [if_neg hg]
    have hg' : hdB (b.take c) = true := by
      cases h9 : hdB (b.take c) with
      | true => rfl
      | false => rw [h9] at hg; simp at hg
    unfold hdB inQ at hg'
    simp only [Bool.and_eq_true, Bool.or_eq_true, decide_eq_true_eq] at hg'
    obtain ⟨⟨⟨⟨⟨⟨⟨⟨⟨⟨⟨⟨q1, q2⟩, q3⟩, q4⟩, q5⟩, q6⟩, q7⟩, q8⟩, q9⟩, q10⟩, q11⟩, q12⟩, q13⟩ := hg'
    have e1 : pAt (b.take c) = p := by unfold pAt; rw [hT _ _ (by omega)]; exact o1
    rw [e1] at q7
    have e2 : optQ (b.take c) = p + 24 := by unfold optQ; rw [e1]
    have e3 : lenQ (b.take c) = sizeL plus := by unfold lenQ; rw [e1, hT _ _ (by omega)]; rw [← o1] at q7 ⊢; exact o4
    rw [e2] at q8
    have e4 : magQ (b.take c) = magL plus := by unfold magQ; rw [e2, hT _ _ (by omega)]; rw [← o2]; exact o5
    have e5 : dirsQ (b.take c) = dirsQ b := by unfold dirsQ; rw [e2, e4, o2, o5]
    have e6 : dirQ (b.take c) = p + sizeL plus - 72 := by rw [← o10]; unfold dirQ; rw [e5]
    have e7 : tabQ (b.take c) = p + 24 + sizeL plus := by unfold tabQ; rw [e2, e3]
    rw [e7] at q13
    have e8 : ctQ (b.take c) = t := by unfold ctQ; rw [e6, hT _ _ (by omega), ← a1]; exact h.ct
    have e9 : clQ (b.take c) = l := by
      unfold clQ
      rw [e6, hT _ _ (by omega), show p + sizeL plus - 72 + 4 = p + sizeL plus - 68 by omega, ← a2]
      exact h.cl
    rw [e8, e9, hl, if_neg (by omega), if_pos (by unfold sgB; simp; omega)]
/-- Nor is one with more behind it. -/
theorem Made.more (h : Made b plus p n hdr bods ks sigs t l) (h0 : sigs ≠ []) (m : List UInt8) (hm : m ≠ []) (hl : m.length ≤ 10000) : parseQ (b ++ m) = .inl 9 := by
  obtain ⟨y1, y2, y3, y4, y5, y6⟩ := h.yes h0
  have hbig := h.big
  have hp : 0 < m.length := List.length_pos_iff.2 hm
  have hL := h.m.len
  have hhh := h.m.hh
  have hl2 : (b ++ m).length = b.length + m.length := List.length_append
  have ha : ∀ i, i < hdr → (b ++ m)[i]? = b[i]? := fun i hi => app_at (by omega)
  have hs := sizeL_two plus
  have M' : MF (b ++ m) plus p n hdr bods ks := h.m.agree (by omega) (fun i h1 h2 => ha i (by omega)) (fun k i hk h1 h2 => ha i (by omega)) (fun k i hk h0 h1 h2 => ha i (by omega))
  obtain ⟨a1, a2⟩ := h.m.at_
  obtain ⟨b1, b2⟩ := M'.at_
  have e1 : ctQ (b ++ m) = t := by rw [b1, num_agree (b := b) (by omega) (fun i h1 h2 => ha i (by omega)), ← a1, h.ct]
  have e2 : clQ (b ++ m) = l := by rw [b2, num_agree (b := b) (by omega) (fun i h1 h2 => ha i (by omega)), ← a2, h.cl]
  rw [M'.parse (by omega), e1, e2, if_neg (by omega), if_pos (by unfold sgB; simp; omega)]
theorem rows_agree {b b' : List UInt8} (hl : b'.length = b.length) : ∀ (m a : Nat), b.length - a ≤ m → (∀ i, a ≤ i → b'[i]? = b[i]?) → rowsQ b' a = rowsQ b a := by
  intro m
  induction m with
  | zero => intro a hm h; rw [rowsQ_end (by omega), rowsQ_end (by omega)]
  | succ m ih =>
    intro a hm h
    by_cases ha : a < b.length
    · have hn : numQ b' a 4 = numQ b a 4 := num_agree (by omega) (fun i h1 h2 => h i (by omega))
      have hp : padQ b' a = padQ b a := by unfold padQ; rw [hn]
      have hr : rowOk b' a = rowOk b a := by
        unfold rowOk inQ
        rw [hp, hn, hl, cut_agree (fun i h1 h2 => h i (by omega))]
      have hf : fillB b' a = fillB b a := by
        unfold fillB
        rw [hp, hn, cut_agree (fun i h1 h2 => h i (by omega))]
      cases h3 : (rowOk b a && fillB b a) with
      | false => rw [rowsQ_no (by omega) (by rw [hr, hf]; exact h3), rowsQ_no ha h3]
      | true =>
        rw [Bool.and_eq_true] at h3
        have h4 := rowOk_parts h3.1
        have h5 := padQ_le b a
        rw [rowsQ_yes (by omega) (by rw [hr]; exact h3.1) (by rw [hf]; exact h3.2), rowsQ_yes ha h3.1 h3.2, hp, hn, ih _ (by omega) (fun i hi => h i (by omega)), cut_agree (fun i h1 h2 => h i (by omega))]
    · rw [rowsQ_end (by omega), rowsQ_end (by omega)]
/-- Where the table begins, or the end. -/
def Made.endN (b : List UInt8) (l : Nat) : Nat := b.length - l
/-- The checksum, and the bytes between the headers and the table, say nothing. -/
theorem Made.check (h : Made b plus p n hdr bods ks sigs t l) (b' : List UInt8) (hl : b'.length = b.length) (ha : ∀ i, (i < p + 88 ∨ p + 92 ≤ i) → (i < hdr ∨ b.length - l ≤ i) → b'[i]? = b[i]?) : parseQ b' = parseQ b := by
  have hbig := h.big
  have hL := h.m.len
  have hhh := h.m.hh
  have hs := sizeL_two plus
  have M' : MF b' plus p n hdr bods ks := h.m.agree (by omega) (fun i h1 h2 => ha i (by omega) (by omega)) (fun k i hk h1 h2 => ha i (by omega) (by omega)) (fun k i hk h0 h1 h2 => ha i (by omega) (by omega))
  obtain ⟨a1, a2⟩ := h.m.at_
  obtain ⟨b1, b2⟩ := M'.at_
  have e1 : ctQ b' = t := by rw [b1, num_agree (b := b) (by omega) (fun i h1 h2 => ha i (by omega) (by omega)), ← a1, h.ct]
  have e2 : clQ b' = l := by rw [b2, num_agree (b := b) (by omega) (fun i h1 h2 => ha i (by omega) (by omega)), ← a2, h.cl]
  rw [M'.parse (by omega), h.m.parse (by omega), e1, e2, h.ct, h.cl, hl]
  by_cases h0 : sigs = []
  · rw [if_pos (h.no h0), if_pos (h.no h0)]
  · obtain ⟨y1, y2, y3, y4, y5, y6⟩ := h.yes h0
    rw [rows_agree hl b.length t (by omega) (fun i hi => ha i (by omega) (by omega))]
/-- A section that has no bytes may be told to lie anywhere. -/
theorem Made.gap0 (h : Made b plus p n hdr bods ks sigs t l) (k : Nat) (hk : k < n) (h0 : (bods.getD k []).length = 0) (b' : List UInt8) (hl : b'.length = b.length) (ha : ∀ i, (i < p + 24 + sizeL plus + 40 * k + 20 ∨ p + 24 + sizeL plus + 40 * k + 24 ≤ i) → b'[i]? = b[i]?) : parseQ b' = parseQ b := by
  have hbig := h.big
  have hL := h.m.len
  have hhh := h.m.hh
  have hs := sizeL_two plus
  have M' : MF b' plus p n hdr bods ks := h.m.agree (by omega) (fun i h1 h2 => ha i (by omega)) (fun j i hj h1 h2 => ha i (by omega)) (fun j i hj hp h1 h2 => ha i (by
    have : j ≠ k := fun e => by rw [e] at hp; omega
    omega))
  obtain ⟨a1, a2⟩ := h.m.at_
  obtain ⟨b1, b2⟩ := M'.at_
  have e1 : ctQ b' = t := by rw [b1, num_agree (b := b) (by omega) (fun i h1 h2 => ha i (by omega)), ← a1, h.ct]
  have e2 : clQ b' = l := by rw [b2, num_agree (b := b) (by omega) (fun i h1 h2 => ha i (by omega)), ← a2, h.cl]
  rw [M'.parse (by omega), h.m.parse (by omega), e1, e2, h.ct, h.cl, hl]
  by_cases h0 : sigs = []
  · rw [if_pos (h.no h0), if_pos (h.no h0)]
  · obtain ⟨y1, y2, y3, y4, y5, y6⟩ := h.yes h0
    rw [rows_agree hl b.length t (by omega) (fun i hi => ha i (by omega))]
/-- What does not hang on the order: twice where each lies, by how long it is. -/
def momS (l : List (Nat × Nat)) : Nat := (l.map fun x => 2 * x.1 * x.2 + x.2 * x.2).sum
theorem mom_perm {l l' : List (Nat × Nat)} (h : l'.Perm l) : momS l' = momS l := (h.map _).sum_nat
theorem chain_mom : ∀ (l : List (Nat × Nat)) (e : Nat), (chainR l e).1 = true → momS l + e * e = (e + sumS l) * (e + sumS l)
  | [], e, _ => by simp [momS, sumS]
  | x :: r, e, h => by
    simp only [chainR, Bool.and_eq_true, decide_eq_true_eq] at h
    obtain ⟨h1, h2⟩ := h
    have ih := chain_mom r (x.1 + x.2) h2
    have hm : momS (x :: r) = 2 * x.1 * x.2 + x.2 * x.2 + momS r := by simp [momS]
    have hs : sumS (x :: r) = x.2 + sumS r := by simp [sumS]
    rw [hm, hs, ← h1]
    rw [show x.1 + (x.2 + sumS r) = x.1 + x.2 + sumS r by omega, ← ih]
    grind
theorem sec_mom (bs : List UInt8) (h : secB bs = true) : momS (secsQ bs) + hdrQ bs * hdrQ bs = (hdrQ bs + sumS (secsQ bs)) * (hdrQ bs + sumS (secsQ bs)) := by
  unfold secB at h
  simp only [Bool.and_eq_true, decide_eq_true_eq] at h
  obtain ⟨⟨_, h2⟩, h3⟩ := h
  rw [chainS_eq] at h2
  have hp := riseL_perm (secsQ bs)
  have := chain_mom _ _ h2
  rwa [mom_perm hp, sum_perm hp] at this
theorem secN_split (b : List UInt8) (tab : Nat) : ∀ (n k : Nat), k < n → ∃ A B, secN b tab n = A ++ (if 0 < (secAt b tab k).2 then [secAt b tab k] else []) ++ B ∧
      ∀ b', (∀ i, i < n → i ≠ k → secAt b' tab i = secAt b tab i) → secN b' tab n = A ++ (if 0 < (secAt b' tab k).2 then [secAt b' tab k] else []) ++ B := by
  intro n k hk
  refine ⟨secN b tab k, ((List.range (n - k - 1)).map fun i => secAt b tab (k + 1 + i)).filter fun s => decide (0 < s.2), ?_, ?_⟩
  · have hr : List.range n = List.range k ++ [k] ++ (List.range (n - k - 1)).map (fun i => k + 1 + i) := by
      have h1 : n = (k + 1) + (n - k - 1) := by omega
      conv => lhs; rw [h1]
      rw [List.range_add, List.range_succ]
    unfold secN
    rw [hr, List.map_append, List.map_append, List.filter_append, List.filter_append, List.map_map]
    congr 2
    by_cases h0 : 0 < (secAt b tab k).2
    · simp [h0]
    · simp [h0]
  · intro b' hb
    have hr : List.range n = List.range k ++ [k] ++ (List.range (n - k - 1)).map (fun i => k + 1 + i) := by
      have h1 : n = (k + 1) + (n - k - 1) := by omega
      conv => lhs; rw [h1]
      rw [List.range_add, List.range_succ]
    have e1 : secN b' tab k = secN b tab k := by
      unfold secN
      congr 1
      exact List.map_congr_left (fun i hi => by have := List.mem_range.1 hi; exact hb i (by omega) (by omega))
    have e2 : ((List.range (n - k - 1)).map fun i => secAt b' tab (k + 1 + i)) = (List.range (n - k - 1)).map fun i => secAt b tab (k + 1 + i) :=
      List.map_congr_left (fun i hi => by have := List.mem_range.1 hi; exact hb _ (by omega) (by omega))
    rw [← e1, ← e2]
    unfold secN
    rw [hr, List.map_append, List.map_append, List.filter_append, List.filter_append, List.map_map]
    congr 2
    by_cases h0 : 0 < (secAt b' tab k).2
    · simp [h0]
    · simp [h0]
/-- A section that has bytes may lie nowhere else. -/
theorem Made.gap (h : Made b plus p n hdr bods ks sigs t l) (k : Nat) (hk : k < n) (h0 : 0 < (bods.getD k []).length) (b' : List UInt8) (hl : b'.length = b.length) (ha : ∀ i, (i < p + 24 + sizeL plus + 40 * k + 20 ∨ p + 24 + sizeL plus + 40 * k + 24 ≤ i) → b'[i]? = b[i]?)
    (hne : numQ b' (p + 24 + sizeL plus + 40 * k + 20) 4 ≠ numQ b (p + 24 + sizeL plus + 40 * k + 20) 4) : parseQ b' = .inl 9 := by
  have hbig := h.big
  have hL := h.m.len
  have hhh := h.m.hh
  have hs := sizeL_two plus
  have H' : HF b' plus p n hdr := h.m.h.agree h.m.hp (fun i h1 h2 => ha i (by omega))
  obtain ⟨o1, o2, o3, o4, o5, o6, o7, o8, o9, o10, o11⟩ := h.m.h.opt
  obtain ⟨c1, c2, c3, c4, c5, c6, c7, c8, c9, c10, c11⟩ := H'.opt
  have hsec : secB b' = false := by
    cases h9 : secB b' with
    | false => rfl
    | true =>
      exfalso
      have m1 := sec_mom b' h9
      have m2 := sec_mom b h.m.secs.2.1
      obtain ⟨A, B, s1, s2⟩ := secN_split b (p + 24 + sizeL plus) n k hk
      have s3 := s2 b' (fun i hi hik => by
        unfold secAt
        rw [num_agree (b := b) (by omega) (fun j h1 h2 => ha j (by omega)), num_agree (b := b) (by omega) (fun j h1 h2 => ha j (by omega))])
      have hk1 := h.m.s1 k hk h0
      have hk2 : (secAt b' (p + 24 + sizeL plus) k).2 = (secAt b (p + 24 + sizeL plus) k).2 := num_agree (by omega) (fun j h1 h2 => ha j (by omega))
      have hk3 : 0 < (secAt b (p + 24 + sizeL plus) k).2 := by rw [hk1]; exact h0
      rw [if_pos hk3] at s1
      rw [if_pos (by omega)] at s3
      have e1 : secsQ b = secN b (p + 24 + sizeL plus) n := by unfold secsQ; rw [o8, o3]
      have e2 : secsQ b' = secN b' (p + 24 + sizeL plus) n := by unfold secsQ; rw [c8, c3]
      rw [e2, s3, c9] at m1
      rw [e1, s1, o9] at m2
      have hne' : (secAt b' (p + 24 + sizeL plus) k).1 ≠ (secAt b (p + 24 + sizeL plus) k).1 := hne
      generalize secAt b' (p + 24 + sizeL plus) k = x' at *
      generalize secAt b (p + 24 + sizeL plus) k = x at *
      have hsum : sumS (A ++ [x'] ++ B) = sumS (A ++ [x] ++ B) := by simp [sumS, hk2]
      rw [hsum, ← m2] at m1
      have hmm : ∀ y : Nat × Nat, momS (A ++ [y] ++ B) = momS A + (2 * y.1 * y.2 + y.2 * y.2) + momS B := by intro y; simp [momS]; omega
      rw [hmm, hmm, hk2] at m1
      have : 2 * x'.1 * x.2 = 2 * x.1 * x.2 := by omega
      have := Nat.eq_of_mul_eq_mul_right hk3 this
      omega
  unfold parseQ
  rw [if_neg (by omega), hsec]
  simp
end
/-! ### Images whose table, counts or fillings are turned -/
section
variable {b : List UInt8} {plus : Bool} {p n hdr : Nat} {bods : List (List UInt8)} {ks : List Nat} {sigs : List (List UInt8)} {t l : Nat}
/-- The table told to be elsewhere. -/
theorem Made.table (h : Made b plus p n hdr bods ks sigs t l) (b' : List UInt8) (hl : b'.length = b.length) (ha : ∀ i, (i < p + sizeL plus - 72 ∨ p + sizeL plus - 64 ≤ i) → b'[i]? = b[i]?) :
    MF b' plus p n hdr bods ks ∧ ctQ b' = numQ b' (p + sizeL plus - 72) 4 ∧ clQ b' = numQ b' (p + sizeL plus - 68) 4 := by
  have hL := h.m.len
  have hs := sizeL_two plus
  have M' : MF b' plus p n hdr bods ks := h.m.agree (by omega) (fun i h1 h2 => ha i (by omega)) (fun k i hk h1 h2 => ha i (by omega)) (fun k i hk h0 h1 h2 => ha i (by omega))
  exact ⟨M', M'.at_⟩
/-- Told to be none, there are no signatures. -/
theorem Made.table0 (h : Made b plus p n hdr bods ks sigs t l) (b' : List UInt8) (hl : b'.length = b.length) (ha : ∀ i, (i < p + sizeL plus - 72 ∨ p + sizeL plus - 64 ≤ i) → b'[i]? = b[i]?) (h1 : numQ b' (p + sizeL plus - 72) 4 = 0) (h2 : numQ b' (p + sizeL plus - 68) 4 = 0) :
    parseQ b' = .inr (imL plus p n hdr bods ks 0 0 []) := by
  obtain ⟨M', a1, a2⟩ := h.table b' hl ha
  have := h.big
  rw [M'.parse (by omega), a1, a2, h1, h2]
  rfl
/-- If something is read all the same, it is what is told, and ends where the image does. -/
theorem Made.tableX (h : Made b plus p n hdr bods ks sigs t l) (b' : List UInt8) (hl : b'.length = b.length) (ha : ∀ i, (i < p + sizeL plus - 72 ∨ p + sizeL plus - 64 ≤ i) → b'[i]? = b[i]?) (im : Im) (hp : parseQ b' = .inr im) (h0 : ¬ (numQ b' (p + sizeL plus - 72) 4 = 0 ∧ numQ b' (p + sizeL plus - 68) 4 = 0)) :
    im.table = numQ b' (p + sizeL plus - 72) 4 ∧ im.length = numQ b' (p + sizeL plus - 68) 4 ∧ im.table + im.length = b.length := by
  obtain ⟨M', a1, a2⟩ := h.table b' hl ha
  have := h.big
  rw [M'.parse (by omega), a1, a2, if_neg h0] at hp
  split at hp
  · cases hp
  · rename_i hs
    have hs' : sgB b'.length (numQ b' (p + sizeL plus - 72) 4) (numQ b' (p + sizeL plus - 68) 4) (hdr + lensQ bods ks) = true := by
      cases h9 : sgB b'.length (numQ b' (p + sizeL plus - 72) 4) (numQ b' (p + sizeL plus - 68) 4) (hdr + lensQ bods ks) with
      | true => rfl
      | false => exact absurd h9 hs
    unfold sgB at hs'
    simp only [Bool.and_eq_true, decide_eq_true_eq] at hs'
    split at hp
    · cases hp
    · split at hp
      · cases hp
      · injection hp with hp
        subst hp
        exact ⟨rfl, rfl, by simp only [imL]; omega⟩
/-- Another count of directories fits no headers. -/
theorem Made.count (h : Made b plus p n hdr bods ks sigs t l) (b' : List UInt8) (hl : b'.length = b.length) (ha : ∀ i, (i < p + sizeL plus - 108 ∨ p + sizeL plus - 104 ≤ i) → b'[i]? = b[i]?) (hk : numQ b' (p + sizeL plus - 108) 4 ≠ 16) : parseQ b' = .inl 9 := by
  obtain ⟨o1, o2, o3, o4, o5, o6, o7, o8, o9, o10, o11⟩ := h.m.h.opt
  have hs := sizeL_two plus
  have hbig := h.big
  have hp := h.m.hp
  have e1 : pAt b' = p := by rw [← o1]; exact num_agree (by omega) (fun i h1 h2 => ha i (by omega))
  have e2 : optQ b' = p + 24 := by unfold optQ; rw [e1]
  have e3 : lenQ b' = sizeL plus := by rw [← o4]; unfold lenQ; rw [e1, o1]; exact num_agree (by omega) (fun i h1 h2 => ha i (by omega))
  have e4 : magQ b' = magL plus := by rw [← o5]; unfold magQ; rw [e2, o2]; exact num_agree (by omega) (fun i h1 h2 => ha i (by omega))
  have e5 : dirsQ b' = p + sizeL plus - 104 := by rw [← o6]; unfold dirsQ; rw [e2, e4, o2, o5]
  have e6 : entQ b' ≠ 16 := by unfold entQ; rw [e5, show p + sizeL plus - 104 - 4 = p + sizeL plus - 108 by omega]; exact hk
  have hd : hdB b' = false := by
    cases h9 : hdB b' with
    | false => rfl
    | true =>
      exfalso
      unfold hdB at h9
      simp only [Bool.and_eq_true, decide_eq_true_eq] at h9
      obtain ⟨⟨⟨_, q1, q2⟩, _⟩, _⟩ := h9
      rw [e3, e5, e2] at q2
      apply e6
      have : dirsQ b = p + 24 + (if plus then 112 else 96) := by unfold dirsQ dirsOf; rw [o2, o5]; cases plus <;> rfl
      rw [o6] at this
      cases plus
      · simp [sizeL] at *; omega
      · simp [sizeL] at *; omega
  unfold parseQ
  rw [if_neg (by omega), hd]
  rfl
/-- Headers that are told to end elsewhere. -/
theorem head_told (b' : List UInt8) (im : Im) (hp : parseQ b' = .inr im) : im.hdr = hdrQ b' ∧ tabQ b' + 40 * cntQ b' ≤ hdrQ b' ∧ hdrQ b' ≤ b'.length := by
  unfold parseQ at hp
  split at hp
  · cases hp
  · split at hp
    · cases hp
    · rename_i hg
      have hg' : hdB b' = true := by
        cases h9 : hdB b' with
        | true => rfl
        | false => rw [h9] at hg; simp at hg
      unfold hdB at hg'
      simp only [Bool.and_eq_true, decide_eq_true_eq] at hg'
      have hh := hg'.2
      split at hp
      · injection hp with hp; subst hp; exact ⟨rfl, hh⟩
      · split at hp
        · cases hp
        · split at hp
          · cases hp
          · split at hp
            · cases hp
            · injection hp with hp; subst hp; exact ⟨rfl, hh⟩
theorem Made.head (h : Made b plus p n hdr bods ks sigs t l) (b' : List UInt8) (hl : b'.length = b.length) (ha : ∀ i, (i < p + 84 ∨ p + 88 ≤ i) → b'[i]? = b[i]?) (im : Im) (hp : parseQ b' = .inr im) :
    im.hdr = numQ b' (p + 84) 4 ∧ p + 24 + sizeL plus + 40 * n ≤ numQ b' (p + 84) 4 ∧ numQ b' (p + 84) 4 ≤ b.length := by
  obtain ⟨o1, o2, o3, o4, o5, o6, o7, o8, o9, o10, o11⟩ := h.m.h.opt
  have hs := sizeL_two plus
  have hp64 := h.m.hp
  obtain ⟨q1, q2, q3⟩ := head_told b' im hp
  have e1 : pAt b' = p := by rw [← o1]; exact num_agree (by omega) (fun i h1 h2 => ha i (by omega))
  have e2 : optQ b' = p + 24 := by unfold optQ; rw [e1]
  have e3 : lenQ b' = sizeL plus := by rw [← o4]; unfold lenQ; rw [e1, o1]; exact num_agree (by omega) (fun i h1 h2 => ha i (by omega))
  have e4 : cntQ b' = n := by rw [← o3]; unfold cntQ; rw [e1, o1]; exact num_agree (by omega) (fun i h1 h2 => ha i (by omega))
  have e5 : hdrQ b' = numQ b' (p + 84) 4 := by unfold hdrQ; rw [e2]
  have e6 : tabQ b' = p + 24 + sizeL plus := by unfold tabQ; rw [e2, e3]
  rw [e6, e4, e5] at q2
  rw [e5] at q1 q3
  exact ⟨q1, q2, by omega⟩
/-- Laid where it stood, a number turns nothing. -/
theorem put_same {b : List UInt8} {a x : Nat} (h : a + 4 ≤ b.length) (hx : numQ b a 4 = x) : putL b a x 4 = b := by
  apply List.ext_getElem?
  intro i
  by_cases hi : i < a ∨ a + 4 ≤ i
  · exact put_other h hi
  · have h1 : numQ (putL b a x 4) a 4 = x := num_put4 h (by rw [← hx]; exact numQ_lt4 b a)
    have h2 : leB x 4 = cut b a 4 := by
      rw [← hx]
      unfold numQ
      rw [if_pos h]
      have hc := cut_len b a 4 h
      generalize cut b a 4 = c at hc
      match c, hc with
      | [q0, q1, q2, q3], _ =>
        have b0 := q0.toNat_lt; have b1 := q1.toNat_lt; have b2 := q2.toNat_lt; have b3 := q3.toNat_lt
        simp only [leB, List.range, List.range.loop, List.map, leN, nb]
        congr 1
        · apply UInt8.toNat_inj.1; rw [UInt8.toNat_ofNat']; omega
        · congr 1
          · apply UInt8.toNat_inj.1; rw [UInt8.toNat_ofNat']; omega
          · congr 1
            · apply UInt8.toNat_inj.1; rw [UInt8.toNat_ofNat']; omega
            · congr 1
              apply UInt8.toNat_inj.1; rw [UInt8.toNat_ofNat']; omega
    obtain ⟨j, rfl⟩ : ∃ j, i = a + j := ⟨i - a, by omega⟩
    rw [put_at h (by omega), h2, cut_get _ _ _ _ (by omega)]
end
end Go.Proofs.YtcedojmhgmgcgaaGreatDoor
namespace Go.Proofs.YtcedojmhgmgcgaaGreatDoor
open Go.RowKit Go
set_option linter.unusedVariables false
set_option linter.unusedSimpArgs false
set_option maxRecDepth 100000
/-! ### A signature's row that is turned -/
section
variable {b : List UInt8} {plus : Bool} {p n hdr : Nat} {bods : List (List UInt8)} {ks : List Nat} {sigs : List (List UInt8)} {t l : Nat}
theorem set_same {b : List UInt8} {i : Nat} {v : UInt8} (h : b[i]? = some v) : b.set i v = b := by
  apply List.ext_getElem?
  intro j
  rw [List.getElem?_set]
  split
  · rename_i e
    subst e
    have : i < b.length := by
      rcases Nat.lt_or_ge i b.length with h1 | h1
      · exact h1
      · rw [List.getElem?_eq_none h1] at h; cases h
    rw [if_pos this, h]
  · rfl
theorem set_other {b : List UInt8} {i j : Nat} {v : UInt8} (h : j ≠ i) : (b.set i v)[j]? = b[j]? := by
  rw [List.getElem?_set, if_neg (fun e => h e.symm)]
theorem Made.bad (h : Made b plus p n hdr bods ks sigs t l) (h0 : sigs ≠ []) (b' : List UInt8) (hl : b'.length = b.length) (ha : ∀ i, i < t → b'[i]? = b[i]?) (hn : rowsQ b' t = none) : parseQ b' = .inl 9 := by
  obtain ⟨y1, y2, y3, y4, y5, y6⟩ := h.yes h0
  have hbig := h.big
  have hL := h.m.len
  have hhh := h.m.hh
  have hs := sizeL_two plus
  have M' : MF b' plus p n hdr bods ks := h.m.agree (by omega) (fun i h1 h2 => ha i (by omega)) (fun k i hk h1 h2 => ha i (by omega)) (fun k i hk h0 h1 h2 => ha i (by omega))
  obtain ⟨a1, a2⟩ := h.m.at_
  obtain ⟨b1, b2⟩ := M'.at_
  have e1 : ctQ b' = t := by rw [b1, num_agree (b := b) (by omega) (fun i h1 h2 => ha i (by omega)), ← a1, h.ct]
  have e2 : clQ b' = l := by rw [b2, num_agree (b := b) (by omega) (fun i h1 h2 => ha i (by omega)), ← a2, h.cl]
  have hsg : sgB b'.length t l (hdr + lensQ bods ks) = true := by unfold sgB; simp; omega
  rw [M'.parse (by omega), e1, e2, if_neg (by omega), if_neg (by rw [hsg]; simp), hn]
theorem Made.row1 (h : Made b plus p n hdr bods ks sigs t l) (s : List UInt8) (hs : sigs = [s]) :
    numQ b t 4 = 8 + s.length ∧ cut b (t + 4) 4 = [0, 2, 2, 0] ∧ cut b (t + (8 + s.length)) ((8 - s.length % 8) % 8) = List.replicate ((8 - s.length % 8) % 8) 0 ∧ t + (8 + s.length + (8 - s.length % 8) % 8) = b.length := by
  obtain ⟨y1, y2, y3, y4, y5, y6⟩ := h.yes (by rw [hs]; simp)
  have e : b = b.take t ++ sigRow s ++ [] := by
    have : tableL sigs = sigRow s := by rw [hs]; simp [tableL]
    rw [List.append_nil, ← this, ← y5, List.take_append_drop]
  have hl : (b.take t).length = t := by rw [List.length_take]; omega
  have hg := h.sg s (by rw [hs]; simp)
  have r := row_parts (b.take t) [] s hg
  rw [← e, hl] at r
  refine ⟨r.1, r.2.1, r.2.2.2, ?_⟩
  have : (tableL sigs).length = (sigRow s).length := by rw [hs]; simp [tableL]
  rw [sigRow_len] at this
  omega
/-- The kind of a signature's row. -/
theorem Made.kind (h : Made b plus p n hdr bods ks sigs t l) (s : List UInt8) (hs : sigs = [s]) (j : Nat) (hj : j < 4) (v q : UInt8) (hq : b[t + 4 + j]? = some q) (hv : v ≠ q) : parseQ (b.set (t + 4 + j) v) = .inl 9 := by
  obtain ⟨r1, r2, r3, r4⟩ := h.row1 s hs
  refine h.bad (by rw [hs]; simp) _ (List.length_set) (fun i hi => set_other (by omega)) (rowsQ_no (by rw [List.length_set]; omega) ?_)
  have hc : (cut (b.set (t + 4 + j) v) (t + 4) 4 == [0, 2, 2, 0]) = false := by
    rw [beq_eq_false_iff_ne]
    intro e
    have h1 : (cut (b.set (t + 4 + j) v) (t + 4) 4)[j]? = some v := by
      rw [cut_get _ _ _ _ hj, List.getElem?_set, if_pos rfl, if_pos (by omega)]
    have h2 : (cut b (t + 4) 4)[j]? = some q := by rw [cut_get _ _ _ _ hj]; exact hq
    rw [e, ← r2, h2] at h1
    exact hv (Option.some.inj h1).symm
  unfold rowOk
  rw [hc]
  simp
/-- What fills a signature's row up. -/
theorem Made.fill (h : Made b plus p n hdr bods ks sigs t l) (s : List UInt8) (hs : sigs = [s]) (j : Nat) (hj : j < 8 - (8 + s.length) % 8) (h8 : (8 + s.length) % 8 ≠ 0) :
    b[t + (8 + s.length) + j]? = some 0 ∧ ∀ v : UInt8, v ≠ 0 → parseQ (b.set (t + (8 + s.length) + j) v) = .inl 9 := by
  obtain ⟨r1, r2, r3, r4⟩ := h.row1 s hs
  have h1 : (8 - s.length % 8) % 8 = 8 - (8 + s.length) % 8 := by omega
  have h0 : b[t + (8 + s.length) + j]? = some 0 := by
    have h2 : (cut b (t + (8 + s.length)) ((8 - s.length % 8) % 8))[j]? = some 0 := by rw [r3, List.getElem?_replicate, if_pos (by omega)]
    rw [cut_get _ _ _ _ (by omega)] at h2
    exact h2
  refine ⟨h0, fun v hv => ?_⟩
  have hn : numQ (b.set (t + (8 + s.length) + j) v) t 4 = 8 + s.length := by rw [num_agree (b := b) (by omega) (fun i h1 h2 => set_other (by omega)), r1]
  have hp : padQ (b.set (t + (8 + s.length) + j) v) t = 8 + s.length + (8 - s.length % 8) % 8 := by unfold padQ; rw [hn]; omega
  refine h.bad (by rw [hs]; simp) _ (List.length_set) (fun i hi => set_other (by omega)) (rowsQ_no (by rw [List.length_set]; omega) ?_)
  have hf : fillB (b.set (t + (8 + s.length) + j) v) t = false := by
    unfold fillB
    rw [hp, hn]
    have h2 : (cut (b.set (t + (8 + s.length) + j) v) (t + (8 + s.length)) (8 + s.length + (8 - s.length % 8) % 8 - (8 + s.length)))[j]? = some v := by
      rw [cut_get _ _ _ _ (by omega), List.getElem?_set, if_pos rfl, if_pos (by omega)]
    cases h9 : (cut (b.set (t + (8 + s.length) + j) v) (t + (8 + s.length)) (8 + s.length + (8 - s.length % 8) % 8 - (8 + s.length))).all fun q => q == 0 with
    | false => rfl
    | true =>
      have := List.all_eq_true.1 h9 v (List.mem_of_getElem? h2)
      exact absurd (by simpa using this) hv
  rw [hf, Bool.and_false]
end
end Go.Proofs.YtcedojmhgmgcgaaGreatDoor
namespace Go.Proofs.YtcedojmhgmgcgaaGreatDoor
open Go.RowKit Go
set_option linter.unusedVariables false
set_option linter.unusedSimpArgs false
set_option maxRecDepth 100000
/-! ### The sections of an image that is made, one by one -/
theorem plc_append (bods : List (List UInt8)) (ks : List Nat) (e : Nat) (l l' : List Nat) : plcL bods ks e (l ++ l') = plcL bods ks e l ++ plcL bods ks e l' := by
  unfold plcL
  rw [List.filter_append, List.map_append]
theorem plc_one (bods : List (List UInt8)) (ks : List Nat) (e i : Nat) : plcL bods ks e [i] = if 0 < (bods.getD i []).length then [(offL bods ks e i, (bods.getD i []).length)] else [] := by
  unfold plcL
  by_cases h : 0 < (bods.getD i []).length
  · rw [if_pos h, List.filter_cons_of_pos (by simpa using h)]; rfl
  · rw [if_neg h, List.filter_cons_of_neg (by simpa using h)]; rfl
/-- How many of the first bodies have bytes. -/
def fullN (bods : List (List UInt8)) (i : Nat) : Nat := ((List.range i).filter fun i => decide (0 < (bods.getD i []).length)).length
theorem full_succ (bods : List (List UInt8)) (i : Nat) : fullN bods (i + 1) = fullN bods i + (if 0 < (bods.getD i []).length then 1 else 0) := by
  unfold fullN
  rw [List.range_succ, List.filter_append, List.length_append]
  congr 1
  by_cases h : 0 < (bods.getD i []).length
  · rw [if_pos h, List.filter_cons_of_pos (by simpa using h)]; rfl
  · rw [if_neg h, List.filter_cons_of_neg (by simpa using h)]; rfl
theorem full_le (bods : List (List UInt8)) (i : Nat) : fullN bods i ≤ i := by
  unfold fullN
  have := List.length_filter_le (fun i => decide (0 < (bods.getD i []).length)) (List.range i)
  rwa [List.length_range] at this
theorem plc_len (bods : List (List UInt8)) (ks : List Nat) (e n : Nat) : (plcL bods ks e (List.range n)).length = fullN bods n := by
  unfold plcL fullN
  rw [List.length_map]
theorem plc_at (bods : List (List UInt8)) (ks : List Nat) (e n i : Nat) (h : i < n) (h0 : 0 < (bods.getD i []).length) : (plcL bods ks e (List.range n))[fullN bods i]? = some (offL bods ks e i, (bods.getD i []).length) := by
  have hr : List.range n = List.range i ++ [i] ++ (List.range (n - i - 1)).map (fun j => i + 1 + j) := by
    have h1 : n = (i + 1) + (n - i - 1) := by omega
    conv => lhs; rw [h1]
    rw [List.range_add, List.range_succ]
  rw [hr, plc_append, plc_append, plc_one, if_pos h0, List.append_assoc, List.getElem?_append_right (by rw [plc_len]; exact Nat.le_refl _), plc_len, Nat.sub_self]
  rfl
theorem full_lt (bods : List (List UInt8)) (i n : Nat) (h : i < n) (h0 : 0 < (bods.getD i []).length) : fullN bods i < fullN bods n := by
  have h1 := plc_at bods [] 0 n i h h0
  have h2 := plc_len bods [] 0 n
  rcases Nat.lt_or_ge (fullN bods i) (fullN bods n) with h3 | h3
  · exact h3
  · rw [List.getElem?_eq_none (by omega)] at h1; cases h1
theorem off_in (bods : List (List UInt8)) (ks : List Nat) (e i : Nat) (h : i ∈ ks) : offL bods ks e i + (bods.getD i []).length ≤ e + lensQ bods ks := (offL_le bods ks e i).2 h
end Go.Proofs.YtcedojmhgmgcgaaGreatDoor
namespace Go.Proofs.YtcedojmhgmgcgaaGreatDoor
open Go.RowKit Go
set_option linter.unusedVariables false
set_option maxRecDepth 100000
theorem lowS_le (x k : Nat) (hz : isSz (k : Int) = true) : lowS x (k : Int) = leB x k := by unfold lowS; rw [if_pos hz]; simp
end Go.Proofs.YtcedojmhgmgcgaaGreatDoor
