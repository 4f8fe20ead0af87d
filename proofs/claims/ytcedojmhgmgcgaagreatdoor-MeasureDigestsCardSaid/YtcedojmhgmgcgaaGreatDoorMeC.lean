/-
  measure: what is hashed of an image that is one, and of two that differ in their signatures.
-/
import Derived.Test.YtcedojmhgmgcgaaGreatDoorMeA
import Derived.Test.YtcedojmhgmgcgaaGreatDoorMp8
namespace Go.Proofs.YtcedojmhgmgcgaaGreatDoor
open Go.RowKit Go
set_option linter.unusedVariables false
set_option linter.unusedSimpArgs false
set_option maxRecDepth 100000
/-- A sealed image: what stands ahead of the table, and the table. -/
theorem seal_parts (tb : Nat) (C : List UInt8) (sigs : List (List UInt8)) (h0 : sigs ≠ []) (h : tb ≤ C.length) (ht : 96 ≤ tb) :
    (sealL tb C sigs).length = (padL C).length + (tableL sigs).length ∧ ∀ i, i < (padL C).length → (i < tb - 92 ∨ tb - 88 ≤ i) → (sealL tb C sigs)[i]? = (putL (padL C) (tb - 96) (padL C).length 4)[i]? := by
  have hse : sealL tb C sigs = putL (putL (padL C) (tb - 96) (padL C).length 4) (tb - 92) (tableL sigs).length 4 ++ tableL sigs := if_neg h0
  obtain ⟨p1, p2, p3⟩ := pad_len C
  generalize hP : padL C = P at *
  have l1 : (putL P (tb - 96) P.length 4).length = P.length := putL_len _ _ _ _ (by omega)
  have l2 : (putL (putL P (tb - 96) P.length 4) (tb - 92) (tableL sigs).length 4).length = P.length := by rw [putL_len _ _ _ _ (by omega), l1]
  rw [hse]
  refine ⟨by rw [List.length_append, l2], fun i h1 h2 => ?_⟩
  rw [app_at (by omega), put_other (by omega) (by omega)]
theorem bods_len (plus : Bool) (stub fill : List UInt8) (bods : List (List UInt8)) (ord : List Int) (beh : List UInt8) (sigs : List (List UInt8)) (h : BD stub fill bods beh sigs) : tbL plus stub ≤ (bodsL plus stub fill bods ord ++ beh).length ∧ 96 ≤ tbL plus stub := by
  have hsz := sizeL_two plus
  have et : tbL plus stub = peL stub + 24 + sizeL plus := rfl
  have ep : peL stub = 64 + stub.length := rfl
  have h1 := head_len plus stub fill bods.length
  have h2 : ∀ (ks : List Nat) (b : List UInt8), tbL plus stub + 40 * bods.length ≤ b.length → (∀ k ∈ ks, k < bods.length) → tbL plus stub ≤ (ks.foldl (bodStep bods (tbL plus stub)) b).length ∧ tbL plus stub + 40 * bods.length ≤ (ks.foldl (bodStep bods (tbL plus stub)) b).length := by
    intro ks
    induction ks with
    | nil => intro b hb _; exact ⟨by simp only [List.foldl_nil]; omega, hb⟩
    | cons k r ih =>
      intro b hb hk
      rw [List.foldl_cons]
      have hkk := hk k (List.mem_cons_self ..)
      refine ih _ ?_ (fun x hx => hk x (List.mem_cons_of_mem _ hx))
      unfold bodStep
      split
      · rw [List.length_append, putL_len _ _ _ _ (by rw [putL_len _ _ _ _ (by omega)]; omega), putL_len _ _ _ _ (by omega)]
        omega
      · exact hb
  have h3 := (h2 (ordL bods.length ord) (headL plus stub fill bods.length) (by rw [h1]; unfold hdL; omega) (ordL_in _ _)).1
  refine ⟨?_, by omega⟩
  rw [List.length_append]
  unfold bodsL
  omega
/-- Two images of one shape but for the signatures: where the table lies, and the bytes ahead of it. -/
theorem blind_bytes (plus : Bool) (stub fill : List UInt8) (bods : List (List UInt8)) (ord : List Int) (beh : List UInt8) (s1 s2 : List (List UInt8)) (h1 : BD stub fill bods beh s1) (h2 : BD stub fill bods beh s2) (n1 : s1 ≠ []) (n2 : s2 ≠ []) :
    ∃ t, (writeL plus stub fill bods ord beh s1).length = t + (tableL s1).length ∧ (writeL plus stub fill bods ord beh s2).length = t + (tableL s2).length ∧
      ∀ i, i < t → (i < tbL plus stub - 92 ∨ tbL plus stub - 88 ≤ i) → (writeL plus stub fill bods ord beh s2)[i]? = (writeL plus stub fill bods ord beh s1)[i]? := by
  obtain ⟨b1, b2⟩ := bods_len plus stub fill bods ord beh s1 h1
  obtain ⟨p1, p2⟩ := seal_parts (tbL plus stub) (bodsL plus stub fill bods ord ++ beh) s1 n1 b1 b2
  obtain ⟨q1, q2⟩ := seal_parts (tbL plus stub) (bodsL plus stub fill bods ord ++ beh) s2 n2 b1 b2
  exact ⟨_, p1, q1, fun i hi hd => (q2 i hi hd).trans (p2 i hi hd).symm⟩
theorem seg_agree {b b' : List UInt8} {x y : Nat} (hxy : x ≤ y) (h : ∀ i, x ≤ i → i < y → b'[i]? = b[i]?) : seg b' (x, y) = seg b (x, y) := by
  unfold seg
  exact cut_agree (fun i h1 h2 => h i h1 (by simp only at h2; omega))
/-- What is hashed of an image that is one. -/
theorem im_chain (bs : List UInt8) (im : Im) (h : parseQ bs = .inr im) : (chainR (riseL im.secs) im.hdr).1 = true ∧ (chainR (riseL im.secs) im.hdr).2 = endQ bs ∧ (chainR (riseL im.secs) im.hdr).2 ≤ endM im bs.length ∧ endM im bs.length + im.length = bs.length := by
  obtain ⟨p1, p2, p3, p4, p5, p6, p7, p8, p9, p10, p11⟩ := im_parts bs im h
  obtain ⟨q1, q2, q3, q4, q5⟩ := secs_parts bs p1
  unfold secB at p1
  simp only [Bool.and_eq_true, decide_eq_true_eq] at p1
  obtain ⟨⟨_, c2⟩, _⟩ := p1
  rw [chainS_eq] at c2
  have he : (chainR (riseL im.secs) im.hdr).2 = endQ bs := by
    unfold endQ
    rw [chainS_eq, p2, p3]
  rw [p2, p3] at *
  refine ⟨c2, he, ?_, ?_⟩
  · rw [he]
    unfold endM
    rcases p11 with ⟨h1, _, _⟩ | ⟨h1, h2, _⟩
    · rw [if_pos h1]; exact q4
    · rw [if_neg (by omega)]; exact h2
  · unfold endM
    rcases p11 with ⟨h1, _, _⟩ | ⟨h1, _, _, h2, _⟩
    · rw [if_pos h1, h1]; omega
    · rw [if_neg (by omega)]; exact h2
def rangesM (im : Im) (n : Nat) : List (Nat × Nat) := rangesL im (riseL im.secs) n
theorem hashed_im (bs : List UInt8) (im : Im) (h : parseQ bs = .inr im) : hashedL bs (rangesM im bs.length) = seg bs (0, im.check) ++ seg bs (im.check + 4, im.dir) ++ seg bs (im.dir + 8, endM im bs.length) := by
  obtain ⟨c1, c2, c3, c4⟩ := im_chain bs im h
  obtain ⟨p1, p2, p3, p4, p5, p6, p7, p8, p9, p10, p11⟩ := im_parts bs im h
  exact hashed_all bs im _ _ c1 c3 p7
theorem want_im (bs : List UInt8) (im : Im) (h : parseQ bs = .inr im) : hashedL bs (rangesM im bs.length) = wantL bs im.check im.dir (bs.length - im.length) := by
  obtain ⟨c1, c2, c3, c4⟩ := im_chain bs im h
  obtain ⟨p1, p2, p3, p4, p5, p6, p7, p8, p9, p10, p11⟩ := im_parts bs im h
  have h9 := chainR_end _ _ c1
  rw [hashed_im bs im h, want_end bs _ _ _ p6 (by omega)]
  congr 2
  congr 1
  omega
theorem rise_im (bs : List UInt8) (im : Im) (h : parseQ bs = .inr im) : riseB (rangesM im bs.length) 0 bs.length := by
  obtain ⟨c1, c2, c3, c4⟩ := im_chain bs im h
  obtain ⟨p1, p2, p3, p4, p5, p6, p7, p8, p9, p10, p11⟩ := im_parts bs im h
  exact ranges_rise im _ _ _ c1 c3 p7 p6 (by omega)
end Go.Proofs.YtcedojmhgmgcgaaGreatDoor
