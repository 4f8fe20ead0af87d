/-
  vname: the row VnameApart (made by genVnI.py).
-/
import Derived.Test.YtjcbmgpmlekamaaVnH
import Derived.Test.YtjcbmgpmlekamaaRows
import Derived.ChangeKeysEq
import Derived.Lib.SmallJoins
import Derived.OpenShut
import Derived.MakeChecks
import Derived.Deep.Slices
import Derived.Deep.WholeRow
namespace Go.Proofs.Ytjcbmgpmlekamaa
open Go.RowKit Go
set_option linter.unusedVariables false
set_option linter.unusedSimpArgs false
set_option maxRecDepth 100000
section
open Go.ChangeShapes Go.WideShapes Go.ChangeAt Go.Joins
theorem bytes_of_vals : ∀ l : List Value, (∀ i, i < l.length → ∃ z : Int, l[i]? = some (.int .u8 z) ∧ (Lit.int .u8 z).wf = true) → ∃ gb : List UInt8, l = gb.map bv
  | [], _ => ⟨[], rfl⟩
  | v :: l, h => by
    obtain ⟨z, h1, h2⟩ := h 0 (by simp)
    obtain ⟨gb, hg⟩ := bytes_of_vals l (fun i hi => by
      have := h (i + 1) (by simpa using hi)
      simpa using this)
    have hv : v = .int .u8 z := by simpa using h1
    refine ⟨UInt8.ofNat z.toNat :: gb, ?_⟩
    rw [List.map_cons, hv, hg]
    congr 1
    show Value.int .u8 z = .int .u8 ((UInt8.ofNat z.toNat).toNat : Int)
    rw [byte_of_wf h2]
def IsG (_w : World) (gb : List UInt8) : Prop := gb.length = 16
theorem open_p23 {H : Type} {enc : TypeId × Value → H} {W : World} {r : Reach} {b0 : Nat} {v : Value} {d : DataW H} {p : List MemPlace} (hv : Value.okWide Try.prog W r b0 23 v)
    (h : DataW.Trod enc Try.prog W 0 (fun _ => true) true 23 v d p) : ∃ x, v = .agg (gv x) ∧ IsG W x := by
  simp only [Value.okWide, Try.underlying23] at hv
  obtain ⟨cs, rfl, hsz, _⟩ := hv
  have hsz16 : cs.size = 16 := hsz.trans (by kernel_rfl)
  obtain ⟨fuel, hf⟩ := h
  obtain ⟨xs, m, _, _, _, hlen, hg⟩ := DataW.trod_array Try.underlying23 hf
  have c1 : Try.prog.cellsOf 5 = 1 := by kernel_rfl
  have hcs : (Value.agg cs).cells.toList = cs.toList := rfl
  obtain ⟨gb, hgb⟩ := bytes_of_vals cs.toList (fun i hi => by
    have hi16 : i < 16 := by rw [← hsz16]; simpa using hi
    have h1 := hg i hi16
    rw [c1, Nat.mul_one, hcs] at h1
    have hx : i < xs.length := by omega
    rw [List.getElem?_eq_getElem hx] at h1
    have hd : (cs.toList.drop i).take 1 = [cs.toList[i]] := by
      rw [List.drop_eq_getElem_cons hi]
      rfl
    rw [hd] at h1
    obtain ⟨z, e0, _, w0⟩ := DataW.trod_int Try.underlying5 h1
    injection e0 with e0 _
    exact ⟨z, by rw [List.getElem?_eq_getElem hi, e0], w0⟩)
  refine ⟨gb, ?_, ?_⟩
  · unfold gv
    rw [← hgb]
  · show gb.length = 16
    have := congrArg List.length hgb
    simp at this
    omega
end
theorem u8_same (a b : UInt8) : ((a.toNat : Int) = (b.toNat : Int)) = (a = b) := propext ⟨fun h => UInt8.toNat_inj.1 (by omega), fun h => by rw [h]⟩
/-- Are two spaces one? -/
theorem guid_same (gb gb' : List UInt8) (h : gb.length = 16) (h' : gb'.length = 16) (w : World) (d : Nat) : (Op.equalIn (d + 2) 23 (.agg (gb.map bv).toArray) (.agg (gb'.map bv).toArray)).run Try.prog w = .ok (decide (gb = gb')) w := by
  obtain ⟨i, hi⟩ : ∃ i, Try.prog.info? 5 = some i := by
    obtain ⟨i, hi, _⟩ := info_parts u8_info
    exact ⟨i, hi⟩
  rw [run_equalIn_array w (d + 1) _ _ Try.underlying23 hi]
  have c6 : Try.prog.cellsOf 5 = 1 := by kernel_rfl
  rw [c6]
  have key : ∀ is : List Nat, (∀ j ∈ is, j < 16) → (Op.eqItems (d + 1) 5 1 (gb.map bv).toArray (gb'.map bv).toArray is).run Try.prog w = .ok (is.all fun j => gb[j]? == gb'[j]?) w := by
    intro is
    induction is with
    | nil => intro _; simp [Op.eqItems]
    | cons j is ih =>
      intro hj
      have hj16 : j < 16 := hj j (by simp)
      have hi2 := ih (fun q hq => hj q (by simp [hq]))
      obtain ⟨p, hp⟩ : ∃ p, gb[j]? = some p := ⟨gb[j], List.getElem?_eq_getElem (by omega)⟩
      obtain ⟨q, hq⟩ : ∃ q, gb'[j]? = some q := ⟨gb'[j], List.getElem?_eq_getElem (by omega)⟩
      have e1 : (gb.map bv).toArray[j * 1]? = some (bv p) := by simp [hp]
      have e2 : (gb'.map bv).toArray[j * 1]? = some (bv q) := by simp [hq]
      have r1 := run_part_plain (P := Try.prog) w (e := 5) (by kernel_rfl) e1
      have r2 := run_part_plain (P := Try.prog) w (e := 5) (by kernel_rfl) e2
      have q1 : (Op.equalIn (d + 1) 5 (bv p) (bv q)).run Try.prog w = .ok (decide (p = q)) w := by
        simp [go_sem, Try.underlying5]
        rw [Bool.eq_iff_iff, beq_iff_eq, decide_eq_true_iff, u8_same]
      unfold Op.eqItems
      simp only [Sem.run_bind, r1, r2, Result.andThen_ok, q1]
      rw [List.all_cons, hp, hq]
      by_cases hpq : p = q
      · subst hpq
        simpa using hi2
      · have hne : (some p == some q) = false := by simpa using hpq
        rw [hne]
        simp [hpq]
  rw [key _ (by intro j hj; simpa using hj)]
  congr 1
  rw [Bool.eq_iff_iff, List.all_eq_true, decide_eq_true_iff]
  constructor
  · intro hall
    apply List.ext_getElem?
    intro j
    rcases Nat.lt_or_ge j 16 with hj | hj
    · exact beq_iff_eq.1 (hall j (by simpa using hj))
    · rw [List.getElem?_eq_none (by omega), List.getElem?_eq_none (by omega)]
  · intro he j _
    rw [he]
    simp
/-- The statements' own 'same'. -/
theorem same_any (A1 A2 : Option Addr) (n1 n2 c1 c2 : Nat) (xs ys : List UInt8) (w : World) (h1 : RB w A1 n1 xs) (h2 : RB w A2 n2 ys) :
    Calls Try.prog 14 #[.slice A1 n1 c1, .slice A2 n2 c2] w fun e w' => e = .returned (.bool (xs == ys)) ∧ w = w' := by
  have S1 : (convert 24 9 (.slice A1 n1 c1)).run Try.prog w = .ok (.string (strOf xs)) w := by
    have h9 := run_strOf w w.heap.size A1 xs c1 h1.2
    rw [h1.1] at h9
    exact h9
  have S2 : (convert 24 9 (.slice A2 n2 c2)).run Try.prog w = .ok (.string (strOf ys)) w := by
    have h9 := run_strOf w w.heap.size A2 ys c2 h2.2
    rw [h2.1] at h9
    exact h9
  have e1 := strOf_toList xs
  have e2 := strOf_toList ys
  by_cases he : xs = ys
  · subst he
    generalize strOf xs = sx at *
    rw [show (xs == xs) = true by simp]
    clear h1 h2 e1 e2
    go_enter Try.func14, Try.ntmps14
    go_wp2
    go_ret
    exact ⟨by simp, rfl⟩
  · have hne : ¬ (strOf xs).toList = (strOf ys).toList := by rw [e1, e2]; exact he
    have hbe : (xs == ys) = false := beq_eq_false_iff_ne.2 he
    rw [hbe]
    clear h1 h2 e1 e2 he hbe
    generalize strOf xs = sx at *
    generalize strOf ys = sy at *
    have hne2 : (sx.toList == sy.toList) = false := beq_eq_false_iff_ne.2 hne
    go_enter Try.func14, Try.ntmps14
    go_wp2
    go_ret
    exact ⟨by simp, rfl⟩
theorem wpList_load_rowG {P : Program} {ops : Array Oper} {rest : List Oper} {o : Oper} {a : Act} {w : World} {Q : Exit → Act → World → Prop} (hw : Region.wanted o (yielded ops a.tmps) = true) (ty : TypeId) (x : Operand) (ho : o.op = .load ty x)
    (g : Nat) (hx : a.eval x = .pointer (some ⟨g, 0, none⟩)) (t : TypeId) (cs : Array Value) (fr : Nat × Nat) (d : TypeDesc) (hg : w.heap[g]? = some (.cells cs t fr))
    (hu : P.underlying ty = some d) (hd : (match d with | .struct _ | .array _ _ => true | _ => false) = true) (hi : (P.info? ty).map (·.size) = some cs.size)
    (h : wpList P ops Q rest (a.put o.dst (.agg cs)) w) : wpList P ops Q (o :: rest) a w :=
  wpList_step fun K hK => by
    rw [if_pos hw]
    exact wp_load_row ty x ho g hx t cs fr d hg hu hd hi (hK _ _ h)
theorem gv_size (G : List UInt8) (hG : G.length = 16) : (Try.prog.info? 23).map (·.size) = some (gv G).size := by simp only [gv, List.size_toArray, List.length_map, hG]; kernel_rfl
theorem keys_same (G H a b : List UInt8) (hG : G.length = 16) (hH : H.length = 16) : (G ++ a == H ++ b) = (decide (a = b) && decide (G = H)) := by
  by_cases h : a = b ∧ G = H
  · rw [h.1, h.2]; simp
  · have h1 : ¬ G ++ a = H ++ b := fun h9 => by
      have := List.append_inj h9 (by omega)
      exact h ⟨this.2, this.1⟩
    rw [beq_eq_false_iff_ne.2 h1]
    rcases Classical.not_and_iff_not_or_not.1 h with h | h
    · simp [h]
    · simp [h]
set_option maxHeartbeats 16000000 in
theorem apart_row (a b : ByteArray) (G H : List UInt8) (w : World) (ha : a.size ≤ maxLen) (hb : b.size ≤ maxLen) (hG : IsG w G) (hH : IsG w H) :
    Calls Try.prog 4 #[.string a, .string b, .agg (gv G), .agg (gv H)] w fun e w' => e = .returned (.bool true) ∧ Below w.heap.size w w' := by
  have WK := Lib.hid works19_any
  by_cases hA : 4096 < a.size
  · have p1 : decide ((a.size : Int) > 4096) = true := decide_eq_true (by omega)
    go_enter Try.func4, Try.ntmps4
    go_wp2_with fail
    refine (WK.out _).mono ?_
    rintro e w2 ⟨rfl, hb2⟩
    go_wp2
    go_ret
    exact ⟨rfl, kp_call (kp_alloc (kp_alloc (Below.refl _ _) _) _) hb2⟩
  have p1 : decide ((a.size : Int) > 4096) = false := decide_eq_false (by omega)
  by_cases hB : 4096 < b.size
  · have p2 : decide ((b.size : Int) > 4096) = true := decide_eq_true (by omega)
    go_enter Try.func4, Try.ntmps4
    go_wp2_with fail
    refine (WK.out _).mono ?_
    rintro e w2 ⟨rfl, hb2⟩
    go_wp2
    go_ret
    exact ⟨rfl, kp_call (kp_alloc (kp_alloc (Below.refl _ _) _) _) hb2⟩
  have p2 : decide ((b.size : Int) > 4096) = false := decide_eq_false (by omega)
  have RA := Lib.hid (fun W => right_any a (by omega) W)
  have RC := Lib.hid (fun W => right_any b (by omega) W)
  have KA := Lib.hid (fun W => key_any a (by omega) G hG W)
  have KC := Lib.hid (fun W => key_any b (by omega) H hH W)
  have IG := Lib.hid (gv_size G hG)
  have IH := Lib.hid (gv_size H hH)
  have hgG : G.length = 16 := hG
  have hgH : H.length = 16 := hH
  have EGG : ∀ W, (Op.equalIn 10000 23 (.agg (gv G)) (.agg (gv G))).run Try.prog W = .ok true W := fun W => by
    have := guid_same G G hgG hgG W 9998
    rwa [decide_eq_true rfl] at this
  have EGH : ∀ W, (Op.equalIn 10000 23 (.agg (gv G)) (.agg (gv H))).run Try.prog W = .ok (decide (G = H)) W := fun W => guid_same G H hgG hgH W 9998
  have HGG := Lib.hid hgG
  have HGH := Lib.hid hgH
  have HAB : Hid (a.size ≤ 4096 ∧ b.size ≤ 4096) := ⟨by omega, by omega⟩
  clear hG hH hgG hgH hA hB ha hb
  cases hra : rightL a.data.toList
  all_goals
    have HA := Lib.hid hra
    rw [hra] at RA
    clear hra
    cases hrb : rightL b.data.toList
    all_goals
      have HB := Lib.hid hrb
      rw [hrb] at RC
      clear hrb
      go_enter Try.func4, Try.ntmps4
      go_upto_region 3 with (fail)
      refine wp_nm fun W hW => ?_
      have Z0 : Hid (W.heap[w.heap.size]? = some (.cells (gv G) 23) ∧ W.heap[w.heap.size + 1]? = some (.cells (gv H) 23) ∧ Below w.heap.size w W) := by
        rw [← hW]
        refine ⟨has_alloc (has_new _ _) _, ?_, kp_alloc (kp_alloc (Below.refl _ _) _) _⟩
        have h9 := has_new (w.alloc (.cells (gv G) 23)) (.cells (gv H) 23)
        simpa using h9
      clear hW
      go_wp2_with (refine wpList_load_row rfl _ _ rfl w.heap.size rfl _ _ _ _ Z0.out.1 Try.underlying23 rfl IG.out ?_)
      refine (KA.out W).mono ?_
      rintro e w2 ⟨A, n, c, r, rfl, ho, hr, hb2⟩
      rw [HA.out] at ho hr
      simp only [if_true, Bool.false_eq_true, if_false] at ho hr
      subst hr
      have Z2 : Hid (w2.heap[w.heap.size]? = some (.cells (gv G) 23) ∧ w2.heap[w.heap.size + 1]? = some (.cells (gv H) 23) ∧ Below w.heap.size w w2) := ⟨has_below Z0.out.1 hb2, has_below Z0.out.2.1 hb2, kp_call Z0.out.2.2 hb2⟩
      have O2 := Lib.hid ho
      clear hb2 ho Z0
      go_wp2_with (refine wpList_load_row rfl _ _ rfl (w.heap.size + 1) rfl _ _ _ _ Z2.out.2.1 Try.underlying23 rfl IH.out ?_)
      refine (KC.out w2).mono ?_
      rintro e w3 ⟨B, m, d, r, rfl, ho, hr, hb3⟩
      rw [HB.out] at ho hr
      simp only [if_true, Bool.false_eq_true, if_false] at ho hr
      subst hr
      have Z3 : Hid (w3.heap[w.heap.size]? = some (.cells (gv G) 23) ∧ w3.heap[w.heap.size + 1]? = some (.cells (gv H) 23) ∧ Below w.heap.size w w3) := ⟨has_below Z2.out.1 hb3, has_below Z2.out.2.1 hb3, kp_call Z2.out.2.2 hb3⟩
      have O3 := Lib.hid ho
      have Q2 := Lib.hid (O2.out.below hb3 (Nat.le_refl _))
      clear hb3 ho Z2 O2
  · go_wp2_with fail
    refine (RA.out _).mono ?_
    rintro e w4 ⟨rfl, hw4⟩
    subst w4
    go_wp2_with fail
    refine (RC.out _).mono ?_
    rintro e w4 ⟨rfl, hw4⟩
    subst w4
    go_wp2_with fail
    refine (WK.out _).mono ?_
    rintro e w4 ⟨rfl, hb4⟩
    have HB4 := Lib.hid (kp_call Z3.out.2.2 hb4)
    clear hb4
    go_wp2
    go_ret
    exact ⟨rfl, HB4.out⟩
  · go_wp2_with fail
    refine (RA.out _).mono ?_
    rintro e w4 ⟨rfl, hw4⟩
    subst w4
    go_wp2_with fail
    refine (RC.out _).mono ?_
    rintro e w4 ⟨rfl, hw4⟩
    subst w4
    go_wp2_with fail
    refine (WK.out _).mono ?_
    rintro e w4 ⟨rfl, hb4⟩
    have HB4 := Lib.hid (kp_call Z3.out.2.2 hb4)
    clear hb4
    go_wp2
    go_ret
    exact ⟨rfl, HB4.out⟩
  · go_wp2_with fail
    refine (RA.out _).mono ?_
    rintro e w4 ⟨rfl, hw4⟩
    subst w4
    go_wp2_with fail
    refine (RC.out _).mono ?_
    rintro e w4 ⟨rfl, hw4⟩
    subst w4
    go_wp2_with fail
    refine (WK.out _).mono ?_
    rintro e w4 ⟨rfl, hb4⟩
    have HB4 := Lib.hid (kp_call Z3.out.2.2 hb4)
    clear hb4
    go_wp2
    go_ret
    exact ⟨rfl, HB4.out⟩
  · have hq := Q2.out
    have h64 := HAB.out
    have hln : 16 + a.size = n := by have := hq.len; rw [List.length_append, HGG.out, data_size] at this; exact this
    have hcap := hq.cap
    obtain ⟨g, rfl, hg1, hg2⟩ := hq.shape (by omega)
    have SP := Lib.hid (fun W => split_any a HA.out G HGG.out g n c hcap.1 hcap.2 W)
    have HLN := Lib.hid hln
    clear hq hln hcap hg1 hg2 h64
    go_wp2_with fail
    refine (SP.out w3 Q2.out.rb).mono ?_
    rintro e w4 ⟨rfl, hb4⟩
    have Z4 : Hid (w4.heap[w.heap.size]? = some (.cells (gv G) 23) ∧ w4.heap[w.heap.size + 1]? = some (.cells (gv H) 23) ∧ Below w.heap.size w w4) := ⟨has_below Z3.out.1 hb4, has_below Z3.out.2.1 hb4, kp_call Z3.out.2.2 hb4⟩
    have Q4 := Lib.hid (Q2.out.rb.below hb4)
    have O4 := Lib.hid (O3.out.rb.below hb4)
    clear hb4 Z3 Q2 O3
    have HONE : Hid ((gv G).all (·.oneCell') = true) := by unfold Hid; simp [gv, bv_one]
    have HSZ : Hid ((#[.int .u8 0, .int .u8 0, .int .u8 0, .int .u8 0, .int .u8 0, .int .u8 0, .int .u8 0, .int .u8 0, .int .u8 0, .int .u8 0, .int .u8 0, .int .u8 0, .int .u8 0, .int .u8 0, .int .u8 0, .int .u8 0] : Array Value).size = (gv G).size) := by unfold Hid; simp [gv, HGG.out]
    go_upto_region 8 with (refine wpList_store_row rfl _ _ _ rfl w4.heap.size (gv G) rfl rfl _ _ (has_new _ _) IG.out HSZ.out HONE.out ?_; rw [World.setRow_alloc_new])
    refine wp_nm fun W5 hW5 => ?_
    have Z5 : Hid (W5.heap[w.heap.size]? = some (.cells (gv G) 23) ∧ W5.heap[w.heap.size + 1]? = some (.cells (gv H) 23) ∧ W5.heap[w4.heap.size]? = some (.cells (gv G) 23) ∧ Below w.heap.size w W5) := by
      rw [← hW5]
      exact ⟨has_alloc Z4.out.1 _, has_alloc Z4.out.2.1 _, has_new _ _, kp_alloc Z4.out.2.2 _⟩
    have Q5 : Hid (RB W5 (some ⟨g, 0, none⟩) n (G ++ a.data.toList)) := by rw [← hW5]; exact Q4.out.alloc _
    have O5 : Hid (RB W5 B m (H ++ b.data.toList)) := by rw [← hW5]; exact O4.out.alloc _
    clear hW5 Z4 Q4 O4 HONE HSZ
    have SM := Lib.hid (same_any (some ⟨g, 0, none⟩) B n m c d _ _ W5 Q5.out O5.out)
    rw [keys_same G H _ _ HGG.out HGH.out] at SM
    clear Q5 O5
    obtain ⟨x4, hx4⟩ : ∃ x, w4.heap.size = x := ⟨_, rfl⟩
    rw [hx4] at Z5 ⊢
    clear hx4
    by_cases hab : a = b
    · subst hab
      rw [decide_eq_true rfl, Bool.true_and] at SM
      cases hgh : decide (G = H)
      all_goals
        rw [hgh] at SM EGH
        clear hgh
        go_wp2_with (first | (refine wpList_load_rowG rfl _ _ rfl x4 rfl _ _ _ _ Z5.out.2.2.1 Try.underlying23 rfl IG.out ?_) | (refine wpList_load_rowG rfl _ _ rfl w.heap.size rfl _ _ _ _ Z5.out.1 Try.underlying23 rfl IG.out ?_) | (refine wpList_load_rowG rfl _ _ rfl (w.heap.size + 1) rfl _ _ _ _ Z5.out.2.1 Try.underlying23 rfl IH.out ?_) | (go_at_call 14; refine SM.out.mono ?_; rintro e w6 ⟨rfl, hw6⟩; subst w6) | (go_at_call 7; refine (WK.out _).mono ?_; rintro e w7 ⟨rfl, hb7⟩; have HB7 := Lib.hid (kp_call Z5.out.2.2.2 hb7); clear hb7))
        go_ret
        exact ⟨rfl, HB7.out⟩
    · have hne : (a.toList == b.toList) = false := by
        rw [beq_eq_false_iff_ne]
        intro h9
        rw [Lib.toList_data, Lib.toList_data] at h9
        exact hab (by cases a; cases b; simp at h9; rw [h9])
      rw [decide_eq_false (fun h9 => hab (by cases a; cases b; simp at h9; rw [h9])), Bool.false_and] at SM
      go_wp2_with (first | (refine wpList_load_rowG rfl _ _ rfl x4 rfl _ _ _ _ Z5.out.2.2.1 Try.underlying23 rfl IG.out ?_) | (refine wpList_load_rowG rfl _ _ rfl w.heap.size rfl _ _ _ _ Z5.out.1 Try.underlying23 rfl IG.out ?_) | (refine wpList_load_rowG rfl _ _ rfl (w.heap.size + 1) rfl _ _ _ _ Z5.out.2.1 Try.underlying23 rfl IH.out ?_) | (go_at_call 14; refine SM.out.mono ?_; rintro e w6 ⟨rfl, hw6⟩; subst w6) | (go_at_call 7; refine (WK.out _).mono ?_; rintro e w7 ⟨rfl, hb7⟩; have HB7 := Lib.hid (kp_call Z5.out.2.2.2 hb7); clear hb7))
      go_ret
      exact ⟨rfl, HB7.out⟩
end Go.Proofs.Ytjcbmgpmlekamaa
