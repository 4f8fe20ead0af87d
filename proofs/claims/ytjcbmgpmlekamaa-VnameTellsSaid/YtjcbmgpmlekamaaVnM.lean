/-
  vname: Kind of any variable; the document's Kind (made by genVnM.py).
-/
import Derived.Test.YtjcbmgpmlekamaaVnL
namespace Go.Proofs.Ytjcbmgpmlekamaa
open Go.RowKit Go
set_option linter.unusedVariables false
set_option linter.unusedSimpArgs false
set_option maxRecDepth 100000
theorem list16 (l : List UInt8) (h : l.length = 16) : ∃ p0 p1 p2 p3 p4 p5 p6 p7 p8 p9 p10 p11 p12 p13 p14 p15, l = [p0, p1, p2, p3, p4, p5, p6, p7, p8, p9, p10, p11, p12, p13, p14, p15] := by
  match l, h with
  | [p0, p1, p2, p3, p4, p5, p6, p7, p8, p9, p10, p11, p12, p13, p14, p15], _ => exact ⟨_, _, _, _, _, _, _, _, _, _, _, _, _, _, _, _, rfl⟩
/-- Are two spaces one? -/
theorem arr_same (gb gb' : List UInt8) (h : gb.length = 16) (h' : gb'.length = 16) (w : World) (d : Nat) : (Op.equalIn (d + 2) 22 (.agg (gb.map bv).toArray) (.agg (gb'.map bv).toArray)).run Try.prog w = .ok (decide (gb = gb')) w := by
  obtain ⟨i, hi⟩ : ∃ i, Try.prog.info? 5 = some i := by
    obtain ⟨i, hi, _⟩ := info_parts u8_info
    exact ⟨i, hi⟩
  rw [run_equalIn_array w (d + 1) _ _ Try.underlying22 hi]
  have c6 : Try.prog.cellsOf 5 = 1 := by kernel_rfl
  rw [c6]
  have key : ∀ is : List Nat, (∀ j ∈ is, j < 16) → (Op.eqItems (d + 1) 5 1 (gb.map bv).toArray (gb'.map bv).toArray is).run Try.prog w = .ok (is.all fun j => gb[j]? == gb'[j]?) w := by
    intro is
    induction is with
    | nil => intro _; simp [Op.eqItems]
    | cons j is ih =>
      intro hj
      have hj16 : j < 16 := hj j (by simp)
      have hi2 := ih (fun q hq => hj q (by simp [hq]))
      obtain ⟨p, hp⟩ : ∃ p, gb[j]? = some p := ⟨gb[j], List.getElem?_eq_getElem (by omega)⟩
      obtain ⟨q, hq⟩ : ∃ q, gb'[j]? = some q := ⟨gb'[j], List.getElem?_eq_getElem (by omega)⟩
      have e1 : (gb.map bv).toArray[j * 1]? = some (bv p) := by simp [hp]
      have e2 : (gb'.map bv).toArray[j * 1]? = some (bv q) := by simp [hq]
      have r1 := run_part_plain (P := Try.prog) w (e := 5) (by kernel_rfl) e1
      have r2 := run_part_plain (P := Try.prog) w (e := 5) (by kernel_rfl) e2
      have q1 : (Op.equalIn (d + 1) 5 (bv p) (bv q)).run Try.prog w = .ok (decide (p = q)) w := by
        simp [go_sem, Try.underlying5]
        rw [Bool.eq_iff_iff, beq_iff_eq, decide_eq_true_iff, u8_same]
      unfold Op.eqItems
      simp only [Sem.run_bind, r1, r2, Result.andThen_ok, q1]
      rw [List.all_cons, hp, hq]
      by_cases hpq : p = q
      · subst hpq
        simpa using hi2
      · have hne : (some p == some q) = false := by simpa using hpq
        rw [hne]
        simp [hpq]
  rw [key _ (by intro j hj; simpa using hj)]
  congr 1
  rw [Bool.eq_iff_iff, List.all_eq_true, decide_eq_true_iff]
  constructor
  · intro hall
    apply List.ext_getElem?
    intro j
    rcases Nat.lt_or_ge j 16 with hj | hj
    · exact beq_iff_eq.1 (hall j (by simpa using hj))
    · rw [List.getElem?_eq_none (by omega), List.getElem?_eq_none (by omega)]
  · intro he j _
    rw [he]
    simp
def nmK : Nat → ByteArray
  | 0 => ⟨#[80, 75]⟩
  | 1 => ⟨#[75, 69, 75]⟩
  | 2 => ⟨#[83, 101, 116, 117, 112, 77, 111, 100, 101]⟩
  | 3 => ⟨#[83, 101, 99, 117, 114, 101, 66, 111, 111, 116]⟩
  | 4 => ⟨#[65, 117, 100, 105, 116, 77, 111, 100, 101]⟩
  | 5 => ⟨#[68, 101, 112, 108, 111, 121, 101, 100, 77, 111, 100, 101]⟩
  | 6 => ⟨#[100, 98]⟩
  | 7 => ⟨#[100, 98, 120]⟩
  | 8 => ⟨#[100, 98, 116]⟩
  | _ => ⟨#[]⟩
def spK (j : Nat) : List UInt8 := if j < 6 then GLb else SLb
theorem kindK_is : ∀ j, j < 9 → kindK j = keyOf (nmK j) (gv (spK j)) := by
  intro j hj
  rcases (show j = 0 ∨ j = 1 ∨ j = 2 ∨ j = 3 ∨ j = 4 ∨ j = 5 ∨ j = 6 ∨ j = 7 ∨ j = 8 by omega) with rfl | rfl | rfl | rfl | rfl | rfl | rfl | rfl | rfl <;> kernel_rfl
theorem spK_len (j : Nat) : (spK j).length = 16 := by unfold spK; split <;> rfl
theorem eq2 {P : Program} {w : World} {d : Nat} {xs ys : Array Value} {f0 f1 : Field} {x0 y0 x1 y1 : Value} {c e : Bool} (n0 : f0.name ≠ "_") (n1 : f1.name ≠ "_") (a0 : (part f0.type xs f0.offset).run P w = .ok x0 w) (b0 : (part f0.type ys f0.offset).run P w = .ok y0 w)
    (a1 : (part f1.type xs f1.offset).run P w = .ok x1 w) (b1 : (part f1.type ys f1.offset).run P w = .ok y1 w) (h0 : (Op.equalIn d f0.type x0 y0).run P w = .ok c w) (h1 : (Op.equalIn d f1.type x1 y1).run P w = .ok e w) : (Op.eqFields d xs ys [f0, f1]).run P w = .ok (c && e) w := by
  unfold Op.eqFields
  rw [if_pos n0]
  simp only [Sem.run_bind, a0, b0, h0, Result.andThen_ok]
  cases c with
  | false => simp only [Bool.not_false, if_true, Sem.run_pure, Bool.false_and]
  | true =>
    simp only [Bool.not_true, Bool.false_eq_true, if_false, Bool.true_and]
    unfold Op.eqFields
    rw [if_pos n1]
    simp only [Sem.run_bind, a1, b1, h1, Result.andThen_ok]
    cases e with
    | false => simp only [Bool.not_false, if_true, Sem.run_pure]
    | true =>
      simp only [Bool.not_true, Bool.false_eq_true, if_false]
      unfold Op.eqFields
      simp only [Sem.run_pure]
theorem full_same (s t : ByteArray) (G H : List UInt8) (hG : G.length = 16) (hH : H.length = 16) (w : World) : (Op.equal 44 (keyOf s (gv G)) (keyOf t (gv H))).run Try.prog w = .ok ((s.toList == t.toList) && decide (G = H)) w := by
  have hs : (Op.equalIn 9999 22 (.agg (G.map bv).toArray) (.agg (H.map bv).toArray)).run Try.prog w = .ok (decide (G = H)) w := arr_same G H hG hH w 9997
  obtain ⟨dd, hdd⟩ : ∃ d, decide (G = H) = d := ⟨_, rfl⟩
  rw [hdd] at hs ⊢
  clear hdd
  obtain ⟨p0, p1, p2, p3, p4, p5, p6, p7, p8, p9, p10, p11, p12, p13, p14, p15, rfl⟩ := list16 G hG
  obtain ⟨q0, q1, q2, q3, q4, q5, q6, q7, q8, q9, q10, q11, q12, q13, q14, q15, rfl⟩ := list16 H hH
  have e1 : keyOf s (gv [p0, p1, p2, p3, p4, p5, p6, p7, p8, p9, p10, p11, p12, p13, p14, p15]) = .agg #[.string s, bv p0, bv p1, bv p2, bv p3, bv p4, bv p5, bv p6, bv p7, bv p8, bv p9, bv p10, bv p11, bv p12, bv p13, bv p14, bv p15] := by kernel_rfl
  have e2 : keyOf t (gv [q0, q1, q2, q3, q4, q5, q6, q7, q8, q9, q10, q11, q12, q13, q14, q15]) = .agg #[.string t, bv q0, bv q1, bv q2, bv q3, bv q4, bv q5, bv q6, bv q7, bv q8, bv q9, bv q10, bv q11, bv q12, bv q13, bv q14, bv q15] := by kernel_rfl
  rw [e1, e2]
  have a1 : (part 22 #[.string s, bv p0, bv p1, bv p2, bv p3, bv p4, bv p5, bv p6, bv p7, bv p8, bv p9, bv p10, bv p11, bv p12, bv p13, bv p14, bv p15] 1).run Try.prog w = .ok (.agg ([p0, p1, p2, p3, p4, p5, p6, p7, p8, p9, p10, p11, p12, p13, p14, p15].map bv).toArray) w := by kernel_rfl
  have a2 : (part 22 #[.string t, bv q0, bv q1, bv q2, bv q3, bv q4, bv q5, bv q6, bv q7, bv q8, bv q9, bv q10, bv q11, bv q12, bv q13, bv q14, bv q15] 1).run Try.prog w = .ok (.agg ([q0, q1, q2, q3, q4, q5, q6, q7, q8, q9, q10, q11, q12, q13, q14, q15].map bv).toArray) w := by kernel_rfl
  have b1 : (part 9 #[.string s, bv p0, bv p1, bv p2, bv p3, bv p4, bv p5, bv p6, bv p7, bv p8, bv p9, bv p10, bv p11, bv p12, bv p13, bv p14, bv p15] 0).run Try.prog w = .ok (.string s) w := by kernel_rfl
  have b2 : (part 9 #[.string t, bv q0, bv q1, bv q2, bv q3, bv q4, bv q5, bv q6, bv q7, bv q8, bv q9, bv q10, bv q11, bv q12, bv q13, bv q14, bv q15] 0).run Try.prog w = .ok (.string t) w := by kernel_rfl
  unfold Op.equal Op.maxDepth
  rw [run_equalIn_agg w 9999 44 _ _ (by kernel_rfl) (by kernel_rfl)]
  simp only [Program.fieldsOf, Try.underlying44]
  have hst := run_equalIn_string (P := Try.prog) w 9998 9 s t Try.underlying9
  exact eq2 (by decide) (by decide) b1 b2 a1 a2 hst hs
def kindD (b1 b2 : Bool) (n : Nat → Bool) : Int := if (b1 && n 0) = true then 1 else if (b1 && n 1) = true then 2 else if (b1 && (n 2 || n 3 || n 4 || n 5)) = true then 4 else if (b2 && (n 6 || n 7 || n 8)) = true then 3 else 0
theorem kindD_no (b1 b2 : Bool) (n : Nat → Bool) (h : ∀ j, j < 6 → (n j && b1) = false) (h' : ∀ j, 6 ≤ j → j < 9 → (n j && b2) = false) : kindD b1 b2 n = 0 := by
  have a0 := h 0 (by decide)
  have a1 := h 1 (by decide)
  have a2 := h 2 (by decide)
  have a3 := h 3 (by decide)
  have a4 := h 4 (by decide)
  have a5 := h 5 (by decide)
  have a6 := h' 6 (by decide) (by decide)
  have a7 := h' 7 (by decide) (by decide)
  have a8 := h' 8 (by decide) (by decide)
  unfold kindD
  clear h h'
  cases b1 <;> cases b2 <;> simp_all
/-- The kind of a variable. -/
def kindOf (s : ByteArray) (G : List UInt8) : Int := kindD (decide (G = GLb)) (decide (G = SLb)) (fun j => s.toList == (nmK j).toList)
theorem nmK_inj : ∀ i : Fin 9, ∀ j : Fin 9, (nmK i.val).data.toList = (nmK j.val).data.toList → i = j := by decide +kernel
theorem kindD_at : ∀ j : Fin 9, kindD (decide (spK j.val = GLb)) (decide (spK j.val = SLb)) (fun i => (nmK j.val).data.toList == (nmK i).data.toList) = (match kindV j.val with | .int _ k => k | _ => 9) := by decide +kernel
theorem kindV_is : ∀ j, j < 9 → kindV j = .int .u8 (match kindV j with | .int _ k => k | _ => 9) := by
  intro j hj
  rcases (show j = 0 ∨ j = 1 ∨ j = 2 ∨ j = 3 ∨ j = 4 ∨ j = 5 ∨ j = 6 ∨ j = 7 ∨ j = 8 by omega) with rfl | rfl | rfl | rfl | rfl | rfl | rfl | rfl | rfl <;> rfl
theorem ck_full (s : ByteArray) (G : List UInt8) (hG : G.length = 16) (w : World) (b : Bool) : (Instr.checkKey b 10000 44 (keyOf s (gv G))).run Try.prog w = .ok () w := by
  obtain ⟨p0, p1, p2, p3, p4, p5, p6, p7, p8, p9, p10, p11, p12, p13, p14, p15, rfl⟩ := list16 G hG
  cases b <;> kernel_rfl
theorem kind_full (s : ByteArray) (G : List UInt8) (hG : G.length = 16) (w : World) : Calls Try.prog 19 #[.string s, .agg (gv G)] w fun e w' => e = .returned (.int .u8 (kindOf s G)) ∧ Below w.heap.size w w' := by
  refine kind_any s (gv G) (gv_len G hG) w (fun j => (s.toList == (nmK j).toList) && decide (G = spK j)) (.int .u8 (kindOf s G)) (fun j hj W => by rw [kindK_is j hj]; exact full_same s (nmK j) G (spK j) hG (spK_len j) W) (fun W b => ck_full s G hG W b) ?_
  have hd : ∀ j, (s.toList == (nmK j).toList) = (s.data.toList == (nmK j).data.toList) := fun j => by rw [Lib.toList_data, Lib.toList_data]
  by_cases hex : ∃ j, j < 9 ∧ s.data.toList = (nmK j).data.toList ∧ G = spK j
  · obtain ⟨j, hj, h1, h2⟩ := hex
    left
    refine ⟨j, hj, ?_, fun i hi he => ?_, ?_⟩
    · simp [hd, h1, h2]
    · simp only [hd, Bool.and_eq_true, beq_iff_eq] at he
      have := nmK_inj ⟨i, hi⟩ ⟨j, hj⟩ (he.1.symm.trans h1)
      exact congrArg Fin.val this
    · rw [kindV_is j hj]
      congr 1
      rw [← kindD_at ⟨j, hj⟩]
      unfold kindOf
      simp only [hd, h1, h2]
  · right
    have hno : ∀ j, j < 9 → ((s.data.toList == (nmK j).data.toList) && decide (G = spK j)) = false := fun j hj => by
      rw [Bool.and_eq_false_iff]
      by_cases h1 : s.data.toList = (nmK j).data.toList
      · right
        exact decide_eq_false (fun h2 => hex ⟨j, hj, h1, h2⟩)
      · left
        exact beq_eq_false_iff_ne.2 h1
    refine ⟨fun j hj => by simp only [hd]; exact hno j hj, ?_⟩
    congr 1
    unfold kindOf
    simp only [hd]
    refine kindD_no _ _ _ (fun j hj => ?_) (fun j h6 hj => ?_)
    · have h9 := hno j (by omega)
      unfold spK at h9
      rw [if_pos hj] at h9
      exact h9
    · have h9 := hno j hj
      unfold spK at h9
      rw [if_neg (by omega)] at h9
      exact h9
end Go.Proofs.Ytjcbmgpmlekamaa
