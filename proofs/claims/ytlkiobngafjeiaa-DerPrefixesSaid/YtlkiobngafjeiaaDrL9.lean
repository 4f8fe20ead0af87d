/-
  der: the statement on elements that are cut.
-/
import Derived.Test.YtlkiobngafjeiaaDrL8
namespace Go.Proofs.Ytlkiobngafjeiaa
open Go.RowKit Go
set_option linter.unusedVariables false
set_option linter.unusedSimpArgs false
set_option maxRecDepth 100000
/-- lintellaw10.Cut, as the model holds it. -/
structure CutP where
  tag : Nat
  Xb : Option Addr
  nb : Nat
  cb : Nat
  bb : List UInt8
  Xm : Option Addr
  nm : Nat
  cm : Nat
  bm : List UInt8
  at_ : Int
def CutP.cells (o : CutP) : Array Value := #[.int .u8 (o.tag : Int), .slice o.Xb o.nb o.cb, .slice o.Xm o.nm o.cm, .int .i64 o.at_]
def CutP.val (o : CutP) : Value := .agg o.cells
structure IsCutP (w : World) (o : CutP) : Prop where
  tag : o.tag < 256
  b : IsBs w o.Xb o.nb o.cb o.bb
  m : IsBs w o.Xm o.nm o.cm o.bm
  at_ : -9223372036854775808 ≤ o.at_ ∧ o.at_ ≤ 9223372036854775807
section
open Go.ChangeShapes Go.WideShapes Go.ChangeAt Go.Joins
theorem open_p61 {H : Type} {enc : TypeId × Value → H} {W : World} {r : Reach} {b0 : Nat} {v : Value} {d : DataW H} {p : List MemPlace} (hv : Value.okWide Try.prog W r b0 61 v)
    (h : DataW.Trod enc Try.prog W 0 (fun _ => true) true 61 v d p) : ∃ x : CutP, v = x.val ∧ IsCutP W x := by
  obtain ⟨cs, rfl, hsz⟩ := okWide_struct Try.underlying61 hv
  have hsz6 : cs.size = 4 := hsz.trans (by kernel_rfl)
  obtain ⟨l⟩ := cs
  obtain ⟨fuel, hf⟩ := h
  obtain ⟨xs, n, _, _, _, hlen, hg⟩ := DataW.trod_struct Try.underlying61 hf
  match l, hsz6 with
  | [c0, c1, c2, c3], _ =>
    match xs, hlen with
    | [y0, y1, y2, y3], _ =>
      have g0 : DataW.trod enc Try.prog W 0 (fun _ => true) true n 5 [c0] = some y0 := by simpa [Value.cells, show Try.prog.cellsOf 5 = 1 by kernel_rfl] using hg 0 _ rfl
      obtain ⟨z0, e0, _, w0⟩ := DataW.trod_int Try.underlying5 g0
      injection e0 with e0 _
      subst e0
      have bd0 := bounds_u8 w0
      have v0 : ((z0.toNat : Nat) : Int) = z0 := by omega
      have g1 : DataW.trod enc Try.prog W 0 (fun _ => true) true n 22 [c1] = some y1 := by simpa [Value.cells, show Try.prog.cellsOf 22 = 1 by kernel_rfl] using hg 1 _ rfl
      obtain ⟨A1, n1, k1, rfl⟩ : ∃ A n k, c1 = Value.slice A n k := slice_of g1
      obtain ⟨b1, B1⟩ := open_bs Try.underlying22 Try.underlying5 (by kernel_rfl) (show DataW.trod enc Try.prog W 0 (fun _ => true) true n 22 (Value.slice A1 n1 k1).cells.toList = some (y1.1, y1.2) by simpa [Value.cells] using g1)
      have g2 : DataW.trod enc Try.prog W 0 (fun _ => true) true n 22 [c2] = some y2 := by simpa [Value.cells, show Try.prog.cellsOf 22 = 1 by kernel_rfl] using hg 2 _ rfl
      obtain ⟨A2, n2, k2, rfl⟩ : ∃ A n k, c2 = Value.slice A n k := slice_of g2
      obtain ⟨b2, B2⟩ := open_bs Try.underlying22 Try.underlying5 (by kernel_rfl) (show DataW.trod enc Try.prog W 0 (fun _ => true) true n 22 (Value.slice A2 n2 k2).cells.toList = some (y2.1, y2.2) by simpa [Value.cells] using g2)
      have g3 : DataW.trod enc Try.prog W 0 (fun _ => true) true n 3 [c3] = some y3 := by simpa [Value.cells, show Try.prog.cellsOf 3 = 1 by kernel_rfl] using hg 3 _ rfl
      obtain ⟨z3, e3, _, w3⟩ := DataW.trod_int Try.underlying3 g3
      injection e3 with e3 _
      subst e3
      refine ⟨⟨z0.toNat, A1, n1, k1, b1, A2, n2, k2, b2, z3⟩, ?_, ?_⟩
      · unfold CutP.val CutP.cells; simp only [v0]
      · exact ⟨by show z0.toNat < 256; omega, B1, B2, bounds_i64 w3⟩
end

theorem split_cut (t : UInt8) (b : List UInt8) (ht : t.toNat % 32 ≠ 31) (hb : b.length < 4294967296) (k : Nat) (hk : k < (wrQ t b).length) : splitQ ((wrQ t b).take k) = none := by
  cases h : splitQ ((wrQ t b).take k) with
  | none => rfl
  | some p =>
    obtain ⟨s, e⟩ := p
    exfalso
    obtain ⟨_, hse, hel⟩ := splitQ_le h
    have hw := wr_split h
    have htg := splitQ_tag h
    have hsm := splitQ_small h
    have hbl : ((((wrQ t b).take k).take e).drop s).length = e - s := by simp only [List.length_drop, List.length_take] at hel ⊢; omega
    have hel2 : e ≤ k := by simp only [List.length_take] at hel; omega
    have hfull := split_wr t b [] ht hb
    rw [List.append_nil] at hfull
    have e1 : wrQ t b = ((wrQ t b).take k).take e ++ (wrQ t b).drop e := by
      rw [List.take_take, show min e k = e by omega, List.take_append_drop]
    have h2 := split_wr (((wrQ t b).take k).getD 0 0) ((((wrQ t b).take k).take e).drop s) ((wrQ t b).drop e) htg (by omega)
    rw [← hw, ← e1, hfull] at h2
    simp only [Option.some.injEq, Prod.mk.injEq] at h2
    have h3 := h2.2
    rw [List.length_take, List.length_take] at h3
    omega
theorem cut_all0 (t : UInt8) (b : List UInt8) (ht : t.toNat % 32 ≠ 31) (hb : b.length < 4294967296) : allQ (wrQ t b ++ (wrQ t b).take 0) = some [(wrQ t b, b)] := by
  rw [allQ_wr t ht b _ hb, List.take_zero, allQ_nil]; rfl
theorem cut_all (t : UInt8) (b : List UInt8) (ht : t.toNat % 32 ≠ 31) (hb : b.length < 4294967296) (k : Nat) (hk0 : 0 < k) (hk : k < (wrQ t b).length) : allQ (wrQ t b ++ (wrQ t b).take k) = none := by
  rw [allQ_wr t ht b _ hb, allQ_none (by
    intro h
    have := congrArg List.length h
    simp only [List.length_take, List.length_nil] at this
    omega) (split_cut t b ht hb k hk)]
  rfl
theorem pre_tag1 (t1 : UInt8) (A1 A2 : Option Addr) (n1 c1 n2 c2 : Nat) (z : Int) (w : World) (h : t1.toNat % 32 = 31) :
    Calls Try.prog 11 #[.agg #[.int .u8 (t1.toNat : Int), .slice A1 n1 c1, .slice A2 n2 c2, .int .i64 z]] w fun e w' => e = .returned (.bool true) ∧ Below w.heap.size w w' := by
  have W := Lib.hid (fun W => works_any W)
  have L1 := Lib.hid (fun W => large_any A1 n1 c1 W)
  have L2 := Lib.hid (fun W => large_any A2 n2 c2 W)
  have q1 : ((t1.toNat : Int) % 32 == 31) = true := by simp; omega
  clear h
  go_enter Try.func11, Try.ntmps11
  go_wp2_with fail
  refine (W.out _).mono ?_
  rintro e w' ⟨rfl, hb⟩
  go_wp2
  go_ret
  exact ⟨rfl, kp_call (kp_alloc (Below.refl w.heap.size w) _) hb⟩
theorem pre_large1 (t1 : UInt8) (A1 A2 : Option Addr) (n1 c1 n2 c2 : Nat) (z : Int) (w : World) (h : t1.toNat % 32 ≠ 31) (h3 : 8192 < n1) :
    Calls Try.prog 11 #[.agg #[.int .u8 (t1.toNat : Int), .slice A1 n1 c1, .slice A2 n2 c2, .int .i64 z]] w fun e w' => e = .returned (.bool true) ∧ Below w.heap.size w w' := by
  have W := Lib.hid (fun W => works_any W)
  have L1 := Lib.hid (fun W => large_any A1 n1 c1 W)
  have L2 := Lib.hid (fun W => large_any A2 n2 c2 W)
  have q1 : ((t1.toNat : Int) % 32 == 31) = false := by simp; omega
  have q3 : decide ((8192 : Int) < (n1 : Int)) = true := by simp; omega
  rw [q3] at L1
  clear h h3 q3
  go_enter Try.func11, Try.ntmps11
  go_wp2_with fail
  refine (L1.out _).mono ?_
  rintro e w' ⟨rfl, rfl⟩
  go_wp2_with fail
  refine (W.out _).mono ?_
  rintro e w' ⟨rfl, hb⟩
  go_wp2
  go_ret
  exact ⟨rfl, kp_call (kp_alloc (Below.refl w.heap.size w) _) hb⟩
theorem pre_large2 (t1 : UInt8) (A1 A2 : Option Addr) (n1 c1 n2 c2 : Nat) (z : Int) (w : World) (h : t1.toNat % 32 ≠ 31) (h3 : ¬ 8192 < n1) (h4 : 8192 < n2) :
    Calls Try.prog 11 #[.agg #[.int .u8 (t1.toNat : Int), .slice A1 n1 c1, .slice A2 n2 c2, .int .i64 z]] w fun e w' => e = .returned (.bool true) ∧ Below w.heap.size w w' := by
  have W := Lib.hid (fun W => works_any W)
  have L1 := Lib.hid (fun W => large_any A1 n1 c1 W)
  have L2 := Lib.hid (fun W => large_any A2 n2 c2 W)
  have q1 : ((t1.toNat : Int) % 32 == 31) = false := by simp; omega
  have q3 : decide ((8192 : Int) < (n1 : Int)) = false := by simp; omega
  have q4 : decide ((8192 : Int) < (n2 : Int)) = true := by simp; omega
  rw [q3] at L1
  rw [q4] at L2
  clear h h3 h4 q3 q4
  go_enter Try.func11, Try.ntmps11
  go_wp2_with fail
  refine (L1.out _).mono ?_
  rintro e w' ⟨rfl, rfl⟩
  go_wp2_with fail
  refine (L2.out _).mono ?_
  rintro e w' ⟨rfl, rfl⟩
  go_wp2_with fail
  refine (W.out _).mono ?_
  rintro e w' ⟨rfl, hb⟩
  go_wp2
  go_ret
  exact ⟨rfl, kp_call (kp_alloc (Below.refl w.heap.size w) _) hb⟩
set_option maxHeartbeats 1000000 in
theorem pre_go (t1 : UInt8) (A1 A2 : Option Addr) (n1 c1 n2 c2 : Nat) (z : Int) (w : World) (h : t1.toNat % 32 ≠ 31) (h3 : ¬ 8192 < n1) (h4 : ¬ 8192 < n2) (b more : List UInt8) (Ra : RB w A1 n1 b) (Rb : RB w A2 n2 more) :
    Calls Try.prog 11 #[.agg #[.int .u8 (t1.toNat : Int), .slice A1 n1 c1, .slice A2 n2 c2, .int .i64 z]] w fun e w' => e = .returned (.bool true) ∧ Below w.heap.size w w' := by
  have W := Lib.hid (fun W => works_any W)
  have L1 := Lib.hid (fun W => large_any A1 n1 c1 W)
  have L2 := Lib.hid (fun W => large_any A2 n2 c2 W)
  have q1 : ((t1.toNat : Int) % 32 == 31) = false := by simp; omega
  have q3 : decide ((8192 : Int) < (n1 : Int)) = false := by simp; omega
  have q4 : decide ((8192 : Int) < (n2 : Int)) = false := by simp; omega
  rw [q3] at L1
  rw [q4] at L2
  have W1 := Lib.hid (fun W (hw : Below w.heap.size w W) => write_any t1 A1 n1 c1 b W (Ra.below hw) (by omega))
  have HB1 := Lib.hid (wr_bound t1 b (by rw [Ra.1]; omega))
  have hna : b.length ≤ 8192 := by rw [Ra.1]; omega
  have hnb : more.length ≤ 8192 := by rw [Rb.1]; omega
  have RA := Lib.hid Ra
  have RBb := Lib.hid Rb
  have HN1 := Lib.hid hna
  have HN2 := Lib.hid hnb
  have HT := Lib.hid h
  have h4' : n2 ≤ 8192 := by omega
  clear h q3 q4 Ra Rb hna hnb h3 h4
  go_enter Try.func11, Try.ntmps11
  go_wp2_with fail
  refine (L1.out _).mono ?_
  rintro e w' ⟨rfl, rfl⟩
  go_wp2_with fail
  refine (L2.out _).mono ?_
  rintro e w' ⟨rfl, rfl⟩
  have hb0 := kp_alloc (Below.refl w.heap.size w) (.cells #[.int .u8 (t1.toNat : Int), .slice A1 n1 c1, .slice A2 n2 c2, .int .i64 z] 61)
  go_wp2_with fail
  refine (W1.out _ hb0).mono ?_
  rintro e w1 ⟨X1, m1, k1, rfl, ho1, hb1⟩
  have hb1' := kp_call hb0 hb1
  have hm1 : m1 ≤ 8196 := by have := ho1.len; have := HB1.out; have := HN1.out; omega
  have J2 := Lib.hid (join2_any X1 A2 m1 n2 k1 c2 _ _ w1 w1.heap.size rfl ho1.rb (RBb.out.below hb1') (by omega))
  have HO1 := Lib.hid ho1
  clear hb0 hb1 ho1
  go_wp2_with fail
  refine J2.out.mono ?_
  rintro e w2 ⟨X2, m2, k2, rfl, ho2, hb2⟩
  have hm2 : m2 ≤ 20000 := by have := ho2.len; simp only [List.length_append] at this; have := HB1.out; have := HN1.out; have := HN2.out; omega
  have P2 := Lib.hid (parse_wr t1 HT.out b more (by have := HN1.out; omega) X2 m2 k2 w2 ho2.rb ho2.cap.1 (by omega) (by have := ho2.cap.2; unfold maxLen at this; omega))
  have hb2' := kp_call hb1' hb2
  have HO1 := Lib.hid (HO1.out.below hb2 (Nat.le_refl _))
  clear ho2 hb1' hb2
  go_wp2_with fail
  refine P2.out.mono ?_
  rintro e w3 ⟨⟨X3, m3, k3, X4, m4, k4, X5, m5, k5, rfl, o3, o4, o5⟩, hb3⟩
  have hb3' := kp_call hb2' hb3
  have HO1 := Lib.hid (HO1.out.below hb3 (Nat.le_refl _))
  have hnew := has_new w3 (.cells #[.int .u8 (t1.toNat : Int), .slice X3 m3 k3, .slice X4 m4 k4] 27)
  have O3 := Lib.hid (o3.alloc (.cells #[.int .u8 (t1.toNat : Int), .slice X3 m3 k3, .slice X4 m4 k4] 27))
  have O5 := Lib.hid (o5.alloc (.cells #[.int .u8 (t1.toNat : Int), .slice X3 m3 k3, .slice X4 m4 k4] 27))
  have O1 := Lib.hid (HO1.out.alloc (.cells #[.int .u8 (t1.toNat : Int), .slice X3 m3 k3, .slice X4 m4 k4] 27))
  have hb3a := kp_alloc hb3' (.cells #[.int .u8 (t1.toNat : Int), .slice X3 m3 k3, .slice X4 m4 k4] 27)
  have P3 := Lib.hid (parse_wr t1 HT.out b [] (by have := HN1.out; omega) X1 m1 k1 _ (by rw [List.append_nil]; exact O1.out.rb) O1.out.cap.1 (by omega) (by have := O1.out.cap.2; unfold maxLen at this; omega))
  have HNew := Lib.hid hnew
  clear o3 o4 o5 hb3 hb3' hb2' HO1 hnew
  go_wp2_with fail
  refine P3.out.mono ?_
  rintro e w4 ⟨⟨X6, m6, k6, X7, m7, k7, X8, m8, k8, rfl, o6, o7, o8⟩, hb4⟩
  have hb4' := kp_call hb3a hb4
  obtain rfl : m8 = 0 := by rw [← o8.len]; rfl
  have hh8 := has_alloc (has_below HNew.out hb4) (.cells #[.int .u8 (t1.toNat : Int), .slice X6 m6 k6, .slice X7 m7 k7] 27)
  obtain ⟨c80, c81, c82⟩ := cells_3 hh8
  have O1' := O1.out.below hb4 (Nat.le_refl _)
  have O1 := Lib.hid (O1'.alloc (.cells #[.int .u8 (t1.toNat : Int), .slice X6 m6 k6, .slice X7 m7 k7] 27))
  have hb4a := kp_alloc hb4' (.cells #[.int .u8 (t1.toNat : Int), .slice X6 m6 k6, .slice X7 m7 k7] 27)
  have Q1 := Lib.hid (eq_any X3 X6 m3 m6 k3 k6 _ _ _ ((O3.out.below hb4 (Nat.le_refl _)).alloc (.cells #[.int .u8 (t1.toNat : Int), .slice X6 m6 k6, .slice X7 m7 k7] 27)).rb (o6.alloc (.cells #[.int .u8 (t1.toNat : Int), .slice X6 m6 k6, .slice X7 m7 k7] 27)).rb)
  have Q2 := Lib.hid (eq_any X5 A2 m5 n2 k5 c2 _ _ _ ((O5.out.below hb4 (Nat.le_refl _)).alloc (.cells #[.int .u8 (t1.toNat : Int), .slice X6 m6 k6, .slice X7 m7 k7] 27)).rb (RBb.out.below hb4a))
  rw [beq_self_eq_true] at Q1 Q2
  clear o6 o7 o8 hb3a hb4 hb4' hh8 O1'
  go_wp2_with fail
  refine Q1.out.mono ?_
  rintro e w' ⟨rfl, rfl⟩
  go_wp2_with fail
  refine Q2.out.mono ?_
  rintro e w' ⟨rfl, rfl⟩
  obtain ⟨w5, hw5⟩ : ∃ w5, w4.alloc (.cells #[.int .u8 (t1.toNat : Int), .slice X6 m6 k6, .slice X7 m7 k7] 27) = w5 := ⟨_, rfl⟩
  rw [hw5] at O1 hb4a
  by_cases hz0 : z < 0
  · have z0 : decide (z < 0) = true := by simpa using hz0
    clear hz0
    go_wp2_with fail
    refine (W.out _).mono ?_
    rintro e w' ⟨rfl, hb⟩
    go_wp2
    go_ret
    exact ⟨rfl, kp_call hb4a hb⟩
  have z0 : decide (z < 0) = false := by simpa using hz0
  by_cases hzl : (m1 : Int) ≤ z
  · have z1 : decide ((m1 : Int) ≤ z) = true := by simpa using hzl
    clear hz0 hzl
    go_wp2_with fail
    refine (W.out _).mono ?_
    rintro e w' ⟨rfl, hb⟩
    go_wp2
    go_ret
    exact ⟨rfl, kp_call hb4a hb⟩
  have z1 : decide ((m1 : Int) ≤ z) = false := by simpa using hzl
  obtain ⟨k, hk⟩ : ∃ k : Nat, z = (k : Int) := ⟨z.toNat, by omega⟩
  subst hk
  have hkm : k < m1 := by omega
  have hl1 := O1.out.len
  have hlc := O1.out.cap
  have P5 := Lib.hid ((parse_any X1 k k1 _ w5 (rb_take O1.out.rb (show k ≤ m1 by omega)) (by omega) (by omega) (by have := hlc.2; unfold maxLen at this; omega)).mono (R' := fun e w' => e = .returned (.tuple #[elZ, .slice none 0 0, .int .i64 9]) ∧ Below w5.heap.size w5 w') (fun e w' hp => by unfold ParsePost at hp; rw [split_cut t1 b HT.out (by have := HN1.out; omega) k (by omega)] at hp; exact hp))
  unfold elZ at P5
  clear hz0 hzl c80 c81 c82
  have hcap1 : k ≤ k1 := by omega
  have HL1 := Lib.hid hl1
  clear hl1 hlc
  go_wp2_with fail
  refine P5.out.mono ?_
  clear hw5
  rintro e w6 ⟨rfl, hb6⟩
  have hb6' := kp_call hb4a hb6
  have hnew := has_new w6 (.cells #[.int .u8 0, .slice none 0 0, .slice none 0 0] 27)
  have O1' := O1.out.below hb6 (Nat.le_refl _)
  have O1 := Lib.hid (O1'.alloc (.cells #[.int .u8 0, .slice none 0 0, .slice none 0 0] 27))
  have hb6a := kp_alloc hb6' (.cells #[.int .u8 0, .slice none 0 0, .slice none 0 0] 27)
  have J7 := Lib.hid (join2_any X1 X1 m1 k k1 k1 _ _ (w6.alloc (.cells #[.int .u8 0, .slice none 0 0, .slice none 0 0] 27)) (w6.heap.size + 1) (by simp) O1.out.rb (rb_take O1.out.rb (show k ≤ m1 by omega)) (by omega))
  clear O1' hb6 hb6' hb4a
  go_wp2_with fail
  refine J7.out.mono ?_
  rintro e w8 ⟨X9, m9, k9, rfl, o9, hb8⟩
  have hb8' := kp_call hb6a hb8
  have hm9 : m9 ≤ 20000 := by have := o9.len; simp only [List.length_append, List.length_take] at this; have := HB1.out; have := HN1.out; omega
  have AA := Lib.hid (all_any X9 m9 k9 _ w8 o9.rb o9.cap.1 (by omega) (by have := o9.cap.2; unfold maxLen at this; omega))
  have hh := has_below hnew hb8
  clear hb8 o9 hb6a hnew
  rcases Nat.eq_zero_or_pos k with hk0 | hk0
  · subst hk0
    have AA := Lib.hid (AA.out.mono (R' := fun e w' => (∃ (A : Option Addr) (n c : Nat) (vs : List EV), e = .returned (.tuple #[.slice A n c, .int .i64 0])) ∧ Below w8.heap.size w8 w') (fun e w' hp => by
      unfold AllPost at hp; rw [cut_all0 t1 b HT.out (by have := HN1.out; omega)] at hp
      obtain ⟨⟨A, n, c, vs, rfl, _⟩, hb⟩ := hp
      exact ⟨⟨A, n, c, vs, rfl⟩, hb⟩))
    go_wp2_with fail
    refine AA.out.mono ?_
    rintro e w9 ⟨⟨X10, m10, k10, vs, rfl⟩, hb9⟩
    have hh9 := has_below hh hb9
    obtain ⟨c90, c91, c92⟩ := cells_3 hh9
    have hb9' := kp_call hb8' hb9
    clear hh9 hb9 hb8' hh
    go_wp2_with fail
    refine (W.out _).mono ?_
    rintro e w' ⟨rfl, hb⟩
    go_wp2
    go_ret
    exact ⟨rfl, kp_call hb9' hb⟩
  · have AA := Lib.hid (AA.out.mono (R' := fun e w' => e = .returned (.tuple #[.slice none 0 0, .int .i64 9]) ∧ Below w8.heap.size w8 w') (fun e w' hp => by
      unfold AllPost at hp; rw [cut_all t1 b HT.out (by have := HN1.out; omega) k hk0 (by have := HL1.out; omega)] at hp
      exact hp))
    have hk1 : ((k : Int) == 0) = false := by simp; omega
    go_wp2_with fail
    refine AA.out.mono ?_
    rintro e w9 ⟨rfl, hb9⟩
    have hh9 := has_below hh hb9
    obtain ⟨c90, c91, c92⟩ := cells_3 hh9
    have hb9' := kp_call hb8' hb9
    clear hh9 hb9 hb8' hh
    go_wp2_with fail
    refine (W.out _).mono ?_
    rintro e w' ⟨rfl, hb⟩
    go_wp2
    go_ret
    exact ⟨rfl, kp_call hb9' hb⟩
theorem prefixes_row (o : CutP) (w : World) (h : IsCutP w o) :
    Calls Try.prog 11 #[o.val] w fun e w' => e = .returned (.bool true) ∧ Below w.heap.size w w' := by
  obtain ⟨one, A1, n1, c1, a, A2, n2, c2, b, z⟩ := o
  obtain ⟨h1, ha, hb, hz⟩ := h
  simp only at h1 ha hb hz
  have e1 : one = (UInt8.ofNat one).toNat := by rw [UInt8.toNat_ofNat']; omega
  show Calls Try.prog 11 #[.agg #[.int .u8 (one : Int), .slice A1 n1 c1, .slice A2 n2 c2, .int .i64 z]] w _
  rw [e1]
  generalize UInt8.ofNat one = t1
  by_cases q1 : t1.toNat % 32 = 31
  · exact pre_tag1 t1 A1 A2 n1 c1 n2 c2 z w q1
  by_cases q3 : 8192 < n1
  · exact pre_large1 t1 A1 A2 n1 c1 n2 c2 z w q1 q3
  by_cases q4 : 8192 < n2
  · exact pre_large2 t1 A1 A2 n1 c1 n2 c2 z w q1 q3 q4
  exact pre_go t1 A1 A2 n1 c1 n2 c2 z w q1 q3 q4 a b ha.rb hb.rb
end Go.Proofs.Ytlkiobngafjeiaa
