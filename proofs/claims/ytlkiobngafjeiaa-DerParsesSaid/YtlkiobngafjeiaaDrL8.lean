/-
  der: the statement on two elements.
-/
import Derived.Test.YtlkiobngafjeiaaDrWk
import Derived.Test.YtlkiobngafjeiaaDrA
import Derived.Test.YtlkiobngafjeiaaDrL1
import Derived.Test.YtlkiobngafjeiaaDrL4
import Derived.Lib.SmallJoins
namespace Go.Proofs.Ytlkiobngafjeiaa
open Go.RowKit Go
set_option linter.unusedVariables false
set_option linter.unusedSimpArgs false
set_option maxRecDepth 100000
section
open Go.ChangeShapes Go.WideShapes Go.ChangeAt Go.Joins
theorem slice_of {H : Type} {enc : TypeId × Value → H} {W : World} {base n : Nat} {sp : Nat → Bool} {c : Value} {x : DataW H × List MemPlace} (h : DataW.trod enc Try.prog W base sp true n 22 [c] = some x) : ∃ A n k, c = Value.slice A n k := by
  rcases DataW.trod_slice Try.underlying22 h with ⟨e, _⟩ | ⟨a, l, k, _, _, _, _, e, _⟩
  · injection e with e _; exact ⟨_, _, _, e⟩
  · injection e with e _; exact ⟨_, _, _, e⟩
end
/-- lintellaw10.Pair, as the model holds it. -/
structure Pair where
  one : Nat
  two : Nat
  Xa : Option Addr
  na : Nat
  ca : Nat
  ba : List UInt8
  Xb : Option Addr
  nb : Nat
  cb : Nat
  bb : List UInt8
def Pair.cells (o : Pair) : Array Value := #[.int .u8 (o.one : Int), .int .u8 (o.two : Int), .slice o.Xa o.na o.ca, .slice o.Xb o.nb o.cb]
def Pair.val (o : Pair) : Value := .agg o.cells
structure IsPair (w : World) (o : Pair) : Prop where
  one : o.one < 256
  two : o.two < 256
  a : IsBs w o.Xa o.na o.ca o.ba
  b : IsBs w o.Xb o.nb o.cb o.bb
section
open Go.ChangeShapes Go.WideShapes Go.ChangeAt Go.Joins
theorem open_p64 {H : Type} {enc : TypeId × Value → H} {W : World} {r : Reach} {b0 : Nat} {v : Value} {d : DataW H} {p : List MemPlace} (hv : Value.okWide Try.prog W r b0 64 v)
    (h : DataW.Trod enc Try.prog W 0 (fun _ => true) true 64 v d p) : ∃ x : Pair, v = x.val ∧ IsPair W x := by
  obtain ⟨cs, rfl, hsz⟩ := okWide_struct Try.underlying64 hv
  have hsz6 : cs.size = 4 := hsz.trans (by kernel_rfl)
  obtain ⟨l⟩ := cs
  obtain ⟨fuel, hf⟩ := h
  obtain ⟨xs, n, _, _, _, hlen, hg⟩ := DataW.trod_struct Try.underlying64 hf
  match l, hsz6 with
  | [c0, c1, c2, c3], _ =>
    match xs, hlen with
    | [y0, y1, y2, y3], _ =>
      have g0 : DataW.trod enc Try.prog W 0 (fun _ => true) true n 5 [c0] = some y0 := by simpa [Value.cells, show Try.prog.cellsOf 5 = 1 by kernel_rfl] using hg 0 _ rfl
      obtain ⟨z0, e0, _, w0⟩ := DataW.trod_int Try.underlying5 g0
      injection e0 with e0 _
      subst e0
      have bd0 := bounds_u8 w0
      have v0 : ((z0.toNat : Nat) : Int) = z0 := by omega
      have g1 : DataW.trod enc Try.prog W 0 (fun _ => true) true n 5 [c1] = some y1 := by simpa [Value.cells, show Try.prog.cellsOf 5 = 1 by kernel_rfl] using hg 1 _ rfl
      obtain ⟨z1, e1, _, w1⟩ := DataW.trod_int Try.underlying5 g1
      injection e1 with e1 _
      subst e1
      have bd1 := bounds_u8 w1
      have v1 : ((z1.toNat : Nat) : Int) = z1 := by omega
      have g2 : DataW.trod enc Try.prog W 0 (fun _ => true) true n 22 [c2] = some y2 := by simpa [Value.cells, show Try.prog.cellsOf 22 = 1 by kernel_rfl] using hg 2 _ rfl
      obtain ⟨A2, n2, k2, rfl⟩ : ∃ A n k, c2 = Value.slice A n k := slice_of g2
      obtain ⟨b2, B2⟩ := open_bs Try.underlying22 Try.underlying5 (by kernel_rfl) (show DataW.trod enc Try.prog W 0 (fun _ => true) true n 22 (Value.slice A2 n2 k2).cells.toList = some (y2.1, y2.2) by simpa [Value.cells] using g2)
      have g3 : DataW.trod enc Try.prog W 0 (fun _ => true) true n 22 [c3] = some y3 := by simpa [Value.cells, show Try.prog.cellsOf 22 = 1 by kernel_rfl] using hg 3 _ rfl
      obtain ⟨A3, n3, k3, rfl⟩ : ∃ A n k, c3 = Value.slice A n k := slice_of g3
      obtain ⟨b3, B3⟩ := open_bs Try.underlying22 Try.underlying5 (by kernel_rfl) (show DataW.trod enc Try.prog W 0 (fun _ => true) true n 22 (Value.slice A3 n3 k3).cells.toList = some (y3.1, y3.2) by simpa [Value.cells] using g3)
      refine ⟨⟨z0.toNat, z1.toNat, A2, n2, k2, b2, A3, n3, k3, b3⟩, ?_, ?_⟩
      · unfold Pair.val Pair.cells; simp only [v0, v1]
      · exact ⟨by show z0.toNat < 256; omega, by show z1.toNat < 256; omega, B2, B3⟩
end

theorem join2_any (X1 X2 : Option Addr) (m1 m2 k1 k2 : Nat) (r1 r2 : List UInt8) (w : World) (g : Nat) (hg : w.heap.size = g) (h1 : RB w X1 m1 r1) (h2 : RB w X2 m2 r2) (hlen : m1 + m2 ≤ 140737488355328) :
    Calls Try.prog 38 #[.slice (some ⟨g, 0, none⟩) 2 2] (w.alloc (.cells #[.slice X1 m1 k1, .slice X2 m2 k2] 22)) (Fresh w (r1 ++ r2)) := by
  have := joins_any [(X1, m1, k1, r1), (X2, m2, k2, r2)] 2 #[.slice X1 m1 k1, .slice X2 m2 k2] w g hg rfl (by omega) rfl (by
    intro x hx
    simp only [List.mem_cons, List.not_mem_nil, or_false] at hx
    rcases hx with rfl | rfl
    · exact h1
    · exact h2) (by simp [h1.1, h2.1]; omega)
  simpa only [List.flatMap_cons, List.flatMap_nil, List.append_nil] using this
theorem join3_any (X1 X2 X3 : Option Addr) (m1 m2 m3 k1 k2 k3 : Nat) (r1 r2 r3 : List UInt8) (w : World) (g : Nat) (hg : w.heap.size = g) (h1 : RB w X1 m1 r1) (h2 : RB w X2 m2 r2) (h3 : RB w X3 m3 r3) (hlen : m1 + m2 + m3 ≤ 140737488355328) :
    Calls Try.prog 38 #[.slice (some ⟨g, 0, none⟩) 3 3] (w.alloc (.cells #[.slice X1 m1 k1, .slice X2 m2 k2, .slice X3 m3 k3] 22)) (Fresh w (r1 ++ (r2 ++ r3))) := by
  have := joins_any [(X1, m1, k1, r1), (X2, m2, k2, r2), (X3, m3, k3, r3)] 3 #[.slice X1 m1 k1, .slice X2 m2 k2, .slice X3 m3 k3] w g hg rfl (by omega) rfl (by
    intro x hx
    simp only [List.mem_cons, List.not_mem_nil, or_false] at hx
    rcases hx with rfl | rfl | rfl
    · exact h1
    · exact h2
    · exact h3) (by simp [h1.1, h2.1, h3.1]; omega)
  simpa only [List.flatMap_cons, List.flatMap_nil, List.append_nil] using this
theorem wr_bound (t : UInt8) (b : List UInt8) (h : b.length ≤ 65000) : (wrQ t b).length ≤ b.length + 4 := by
  rw [wr_len]
  split
  · omega
  · by_cases h2 : b.length < 256
    · rw [lenB_1 (by omega) (by omega)]; omega
    · rw [lenB_2 (by omega) (by omega)]; omega
theorem wr_head (t : UInt8) (b : List UInt8) : (wrQ t b).getD 0 0 = t := by unfold wrQ; split <;> rfl
theorem two_all (t1 t2 : UInt8) (h1 : t1.toNat % 32 ≠ 31) (h2 : t2.toNat % 32 ≠ 31) (a b : List UInt8) (ha : a.length ≤ 8192) (hb : b.length ≤ 8192) : allQ (wrQ t1 a ++ wrQ t2 b) = some [(wrQ t1 a, a), (wrQ t2 b, b)] := by
  rw [allQ_wr t1 h1 a _ (by omega)]
  have := allQ_wr t2 h2 b [] (by omega)
  rw [List.append_nil, allQ_nil] at this
  rw [this]; rfl
theorem three_all (t1 t2 : UInt8) (h1 : t1.toNat % 32 ≠ 31) (h2 : t2.toNat % 32 ≠ 31) (a b : List UInt8) (ha : a.length ≤ 8192) (hb : b.length ≤ 8192) : allQ (wrQ t1 a ++ (wrQ t2 b ++ [5])) = none := by
  rw [allQ_wr t1 h1 a _ (by omega), allQ_wr t2 h2 b [5] (by omega), allQ_none (by simp) (by decide)]
  rfl
theorem pair_of {vs : List EV} {a b c d : List UInt8} (h : vs.map (fun v => (v.raw, v.body)) = [(a, b), (c, d)]) : ∃ v u, vs = [v, u] ∧ v.raw = a ∧ v.body = b ∧ u.raw = c ∧ u.body = d := by
  match vs, h with
  | [v, u], h =>
    simp at h
    exact ⟨v, u, rfl, h.1.1, h.1.2, h.2.1, h.2.2⟩
theorem two_tag1 (t1 t2 : UInt8) (A1 A2 : Option Addr) (n1 c1 n2 c2 : Nat) (w : World) (h : t1.toNat % 32 = 31) :
    Calls Try.prog 12 #[.agg #[.int .u8 (t1.toNat : Int), .int .u8 (t2.toNat : Int), .slice A1 n1 c1, .slice A2 n2 c2]] w fun e w' => e = .returned (.bool true) ∧ Below w.heap.size w w' := by
  have W := Lib.hid (fun W => works_any W)
  have L1 := Lib.hid (fun W => large_any A1 n1 c1 W)
  have L2 := Lib.hid (fun W => large_any A2 n2 c2 W)
  have q1 : ((t1.toNat : Int) % 32 == 31) = true := by simp; omega
  clear h
  go_enter Try.func12, Try.ntmps12
  go_wp2_with fail
  refine (W.out _).mono ?_
  rintro e w' ⟨rfl, hb⟩
  go_wp2
  go_ret
  exact ⟨rfl, kp_call (kp_alloc (Below.refl w.heap.size w) _) hb⟩
theorem two_tag2 (t1 t2 : UInt8) (A1 A2 : Option Addr) (n1 c1 n2 c2 : Nat) (w : World) (h : t1.toNat % 32 ≠ 31) (h2 : t2.toNat % 32 = 31) :
    Calls Try.prog 12 #[.agg #[.int .u8 (t1.toNat : Int), .int .u8 (t2.toNat : Int), .slice A1 n1 c1, .slice A2 n2 c2]] w fun e w' => e = .returned (.bool true) ∧ Below w.heap.size w w' := by
  have W := Lib.hid (fun W => works_any W)
  have L1 := Lib.hid (fun W => large_any A1 n1 c1 W)
  have L2 := Lib.hid (fun W => large_any A2 n2 c2 W)
  have q1 : ((t1.toNat : Int) % 32 == 31) = false := by simp; omega
  have q2 : ((t2.toNat : Int) % 32 == 31) = true := by simp; omega
  clear h h2
  go_enter Try.func12, Try.ntmps12
  go_wp2_with fail
  refine (W.out _).mono ?_
  rintro e w' ⟨rfl, hb⟩
  go_wp2
  go_ret
  exact ⟨rfl, kp_call (kp_alloc (Below.refl w.heap.size w) _) hb⟩
theorem two_large1 (t1 t2 : UInt8) (A1 A2 : Option Addr) (n1 c1 n2 c2 : Nat) (w : World) (h : t1.toNat % 32 ≠ 31) (h2 : t2.toNat % 32 ≠ 31) (h3 : 8192 < n1) :
    Calls Try.prog 12 #[.agg #[.int .u8 (t1.toNat : Int), .int .u8 (t2.toNat : Int), .slice A1 n1 c1, .slice A2 n2 c2]] w fun e w' => e = .returned (.bool true) ∧ Below w.heap.size w w' := by
  have W := Lib.hid (fun W => works_any W)
  have L1 := Lib.hid (fun W => large_any A1 n1 c1 W)
  have L2 := Lib.hid (fun W => large_any A2 n2 c2 W)
  have q1 : ((t1.toNat : Int) % 32 == 31) = false := by simp; omega
  have q2 : ((t2.toNat : Int) % 32 == 31) = false := by simp; omega
  have q3 : decide ((8192 : Int) < (n1 : Int)) = true := by simp; omega
  rw [q3] at L1
  clear h h2 h3 q3
  go_enter Try.func12, Try.ntmps12
  go_wp2_with fail
  refine (L1.out _).mono ?_
  rintro e w' ⟨rfl, rfl⟩
  go_wp2_with fail
  refine (W.out _).mono ?_
  rintro e w' ⟨rfl, hb⟩
  go_wp2
  go_ret
  exact ⟨rfl, kp_call (kp_alloc (Below.refl w.heap.size w) _) hb⟩
theorem two_large2 (t1 t2 : UInt8) (A1 A2 : Option Addr) (n1 c1 n2 c2 : Nat) (w : World) (h : t1.toNat % 32 ≠ 31) (h2 : t2.toNat % 32 ≠ 31) (h3 : ¬ 8192 < n1) (h4 : 8192 < n2) :
    Calls Try.prog 12 #[.agg #[.int .u8 (t1.toNat : Int), .int .u8 (t2.toNat : Int), .slice A1 n1 c1, .slice A2 n2 c2]] w fun e w' => e = .returned (.bool true) ∧ Below w.heap.size w w' := by
  have W := Lib.hid (fun W => works_any W)
  have L1 := Lib.hid (fun W => large_any A1 n1 c1 W)
  have L2 := Lib.hid (fun W => large_any A2 n2 c2 W)
  have q1 : ((t1.toNat : Int) % 32 == 31) = false := by simp; omega
  have q2 : ((t2.toNat : Int) % 32 == 31) = false := by simp; omega
  have q3 : decide ((8192 : Int) < (n1 : Int)) = false := by simp; omega
  have q4 : decide ((8192 : Int) < (n2 : Int)) = true := by simp; omega
  rw [q3] at L1
  rw [q4] at L2
  clear h h2 h3 h4 q3 q4
  go_enter Try.func12, Try.ntmps12
  go_wp2_with fail
  refine (L1.out _).mono ?_
  rintro e w' ⟨rfl, rfl⟩
  go_wp2_with fail
  refine (L2.out _).mono ?_
  rintro e w' ⟨rfl, rfl⟩
  go_wp2_with fail
  refine (W.out _).mono ?_
  rintro e w' ⟨rfl, hb⟩
  go_wp2
  go_ret
  exact ⟨rfl, kp_call (kp_alloc (Below.refl w.heap.size w) _) hb⟩
theorem two_go (t1 t2 : UInt8) (A1 A2 : Option Addr) (n1 c1 n2 c2 : Nat) (w : World) (h : t1.toNat % 32 ≠ 31) (h2 : t2.toNat % 32 ≠ 31) (h3 : ¬ 8192 < n1) (h4 : ¬ 8192 < n2) (a b : List UInt8) (Ra : RB w A1 n1 a) (Rb : RB w A2 n2 b) :
    Calls Try.prog 12 #[.agg #[.int .u8 (t1.toNat : Int), .int .u8 (t2.toNat : Int), .slice A1 n1 c1, .slice A2 n2 c2]] w fun e w' => e = .returned (.bool true) ∧ Below w.heap.size w w' := by
  have W := Lib.hid (fun W => works_any W)
  have L1 := Lib.hid (fun W => large_any A1 n1 c1 W)
  have L2 := Lib.hid (fun W => large_any A2 n2 c2 W)
  have q1 : ((t1.toNat : Int) % 32 == 31) = false := by simp; omega
  have q2 : ((t2.toNat : Int) % 32 == 31) = false := by simp; omega
  have q3 : decide ((8192 : Int) < (n1 : Int)) = false := by simp; omega
  have q4 : decide ((8192 : Int) < (n2 : Int)) = false := by simp; omega
  rw [q3] at L1
  rw [q4] at L2
  have HA2 := Lib.hid (two_all t1 t2 h h2 a b (by rw [Ra.1]; omega) (by rw [Rb.1]; omega))
  have HA3 := Lib.hid (three_all t1 t2 h h2 a b (by rw [Ra.1]; omega) (by rw [Rb.1]; omega))
  have W1 := Lib.hid (fun W (hw : Below w.heap.size w W) => write_any t1 A1 n1 c1 a W (Ra.below hw) (by omega))
  have W2 := Lib.hid (fun W (hw : Below w.heap.size w W) => write_any t2 A2 n2 c2 b W (Rb.below hw) (by omega))
  have HB1 := Lib.hid (wr_bound t1 a (by rw [Ra.1]; omega))
  have HB2 := Lib.hid (wr_bound t2 b (by rw [Rb.1]; omega))
  have hna : a.length ≤ 8192 := by rw [Ra.1]; omega
  have hnb : b.length ≤ 8192 := by rw [Rb.1]; omega
  have RA := Lib.hid Ra
  have RBb := Lib.hid Rb
  have E1 := Lib.hid (wr_head t1 a)
  have E2 := Lib.hid (wr_head t2 b)
  have HN1 := Lib.hid hna
  have HN2 := Lib.hid hnb
  clear h h2 q3 q4 Ra Rb hna hnb
  go_enter Try.func12, Try.ntmps12
  go_wp2_with fail
  refine (L1.out _).mono ?_
  rintro e w' ⟨rfl, rfl⟩
  go_wp2_with fail
  refine (L2.out _).mono ?_
  rintro e w' ⟨rfl, rfl⟩
  have hb0 := kp_alloc (Below.refl w.heap.size w) (.cells #[.int .u8 (t1.toNat : Int), .int .u8 (t2.toNat : Int), .slice A1 n1 c1, .slice A2 n2 c2] 64)
  go_wp2_with fail
  refine (W1.out _ hb0).mono ?_
  rintro e w1 ⟨X1, m1, k1, rfl, ho1, hb1⟩
  have hb1' := kp_call hb0 hb1
  go_wp2_with fail
  refine (W2.out _ hb1').mono ?_
  rintro e w2 ⟨X2, m2, k2, rfl, ho2, hb2⟩
  have hb2' := kp_call hb1' hb2
  have ho1 := ho1.below hb2 (Nat.le_refl _)
  have hm1 : m1 ≤ 8196 := by have := ho1.len; have := HB1.out; have := HN1.out; omega
  have hm2 : m2 ≤ 8196 := by have := ho2.len; have := HB2.out; have := HN2.out; omega
  have HO1 := Lib.hid ho1
  have HO2 := Lib.hid ho2
  have J2 := Lib.hid (join2_any X1 X2 m1 m2 k1 k2 _ _ w2 w2.heap.size rfl ho1.rb ho2.rb (by omega))
  clear hb0 hb1 hb1' hb2 ho1 ho2
  go_wp2_with fail
  refine J2.out.mono ?_
  rintro e w3 ⟨X3, m3, k3, rfl, ho3, hb3⟩
  have hm3 : m3 ≤ 20000 := by have := ho3.len; simp only [List.length_append] at this; have := HB1.out; have := HB2.out; have := HN1.out; have := HN2.out; omega
  have A3 := Lib.hid ((all_any X3 m3 k3 _ w3 ho3.rb ho3.cap.1 (by omega) (by have := ho3.cap.2; unfold maxLen at this; omega)).mono (R' := fun e w' => (∃ (A : Option Addr) (n c : Nat) (vs : List EV), e = .returned (.tuple #[.slice A n c, .int .i64 0]) ∧ vs.map (fun v => (v.raw, v.body)) = [(wrQ t1 a, a), (wrQ t2 b, b)] ∧ OwnR w' w3.heap.size 27 3 A n c (vs.flatMap EV.cells) ∧ Evs w' w3.heap.size vs) ∧ Below w3.heap.size w3 w') (fun e w' hp => by unfold AllPost at hp; rw [HA2.out] at hp; exact hp))
  clear ho3
  have HB3 := Lib.hid (kp_call hb2' hb3)
  go_wp2_with fail
  refine A3.out.mono ?_
  rintro e w4 ⟨⟨X4, m4, k4, vs, rfl, hvs, ho4, hev⟩, hb4⟩
  have HB4 := Lib.hid (kp_call HB3.out hb4)
  obtain ⟨v, u, rfl, hv1, hv2, hu1, hu2⟩ := pair_of hvs
  have hm4 : m4 = 2 := by have := ho4.len; simp [EV.cells] at this; omega
  subst hm4
  have hev1 := hev.pair (v := v) (by simp)
  have hev2 := hev.pair (v := u) (by simp)
  have tg1 := hev.tag v (by simp)
  have tg2 := hev.tag u (by simp)
  obtain ⟨vt, vba, vbn, vbc, vra, vrn, vrc, vbody, vraw⟩ := v
  obtain ⟨ut, uba, ubn, ubc, ura, urn, urc, ubody, uraw⟩ := u
  simp only at hv1 hv2 hu1 hu2 hev1 hev2 tg1 tg2
  subst hv1 hv2 hu1 hu2
  rw [E1.out] at tg1
  rw [E2.out] at tg2
  subst tg1 tg2
  obtain ⟨g4, rfl, _, _⟩ := ho4.shape (by have := ho4.cap; omega)
  have HO4 := Lib.hid ho4
  have HV := Lib.hid hev1
  have HU := Lib.hid hev2
  have HO1 := Lib.hid (HO1.out.below (kp_call hb3 hb4) (Nat.le_refl _))
  have HO2 := Lib.hid (HO2.out.below (kp_call hb3 hb4) (Nat.le_refl _))
  have J3 := Lib.hid (join3_any X1 X2 (some ⟨w4.heap.size, 0, none⟩) m1 m2 1 k1 k2 1 _ _ [5] (w4.alloc (.cells #[.int .u8 5] 5)) (w4.heap.size + 1) (by simp) (HO1.out.rb.alloc _) (HO2.out.rb.alloc _) (own_lit w4 [5] 1 _ rfl rfl (by omega)).rb (by omega))
  clear hev hvs ho4 hev1 hev2 hb4 hb3
  go_wp2_with fail
  refine J3.out.mono ?_
  rintro e w5 ⟨X5, m5, k5, rfl, ho5, hb5⟩
  have hm5 : m5 ≤ 20000 := by have := ho5.len; simp only [List.length_append, List.length_cons, List.length_nil] at this; have := HB1.out; have := HB2.out; have := HN1.out; have := HN2.out; omega
  have A5 := Lib.hid ((all_any X5 m5 k5 _ w5 ho5.rb ho5.cap.1 (by omega) (by have := ho5.cap.2; unfold maxLen at this; omega)).mono (R' := fun e w' => e = .returned (.tuple #[.slice none 0 0, .int .i64 9]) ∧ Below w5.heap.size w5 w') (fun e w' hp => by unfold AllPost at hp; rw [HA3.out] at hp; exact hp))
  have hb45 : Below w4.heap.size w4 w5 := kp_call (kp_alloc (Below.refl w4.heap.size w4) _) hb5
  clear ho5 hb5
  go_wp2_with fail
  refine A5.out.mono ?_
  rintro e w6 ⟨rfl, hb6⟩
  have hb46 := kp_call hb45 hb6
  have HB6 := Lib.hid (kp_call HB4.out hb46)
  have ho6 := HO4.out.below hb46 (Nat.le_refl _)
  obtain ⟨g', o', e', _, c0⟩ := ho6.reads.at_ (j := 0) (u := .int .u8 (t1.toNat : Int)) rfl
  cases e'
  obtain ⟨g', o', e', _, c1'⟩ := ho6.reads.at_ (j := 1) (u := .slice vba vbn vbc) rfl
  cases e'
  obtain ⟨g', o', e', _, c2'⟩ := ho6.reads.at_ (j := 2) (u := .slice vra vrn vrc) rfl
  cases e'
  obtain ⟨g', o', e', _, c3⟩ := ho6.reads.at_ (j := 3) (u := .int .u8 (t2.toNat : Int)) rfl
  cases e'
  obtain ⟨g', o', e', _, c4⟩ := ho6.reads.at_ (j := 4) (u := .slice uba ubn ubc) rfl
  cases e'
  obtain ⟨g', o', e', _, c5⟩ := ho6.reads.at_ (j := 5) (u := .slice ura urn urc) rfl
  cases e'
  simp only [Nat.zero_add] at c0 c1' c2' c3 c4 c5
  have Q1 := Lib.hid (eq_any vba A1 vbn n1 vbc c1 _ _ w6 (HV.out.1.below hb46 (Nat.le_refl _)).rb (RA.out.below HB6.out))
  have Q2 := Lib.hid (eq_any uba A2 ubn n2 ubc c2 _ _ w6 (HU.out.1.below hb46 (Nat.le_refl _)).rb (RBb.out.below HB6.out))
  have Q3 := Lib.hid (eq_any vra X1 vrn m1 vrc k1 _ _ w6 (HV.out.2.below hb46 (Nat.le_refl _)).rb (HO1.out.below hb46 (Nat.le_refl _)).rb)
  have Q4 := Lib.hid (eq_any ura X2 urn m2 urc k2 _ _ w6 (HU.out.2.below hb46 (Nat.le_refl _)).rb (HO2.out.below hb46 (Nat.le_refl _)).rb)
  rw [beq_self_eq_true] at Q1 Q2 Q3 Q4
  clear ho6 hb46 hb45 hb6
  go_wp2_with fail
  refine Q1.out.mono ?_
  rintro e w' ⟨rfl, rfl⟩
  go_wp2_with fail
  refine Q2.out.mono ?_
  rintro e w' ⟨rfl, rfl⟩
  go_wp2_with fail
  refine Q3.out.mono ?_
  rintro e w' ⟨rfl, rfl⟩
  go_wp2_with fail
  refine Q4.out.mono ?_
  rintro e w' ⟨rfl, rfl⟩
  go_wp2_with fail
  refine (W.out _).mono ?_
  rintro e w' ⟨rfl, hb⟩
  go_wp2
  go_ret
  exact ⟨rfl, kp_call HB6.out hb⟩
theorem two_row (o : Pair) (w : World) (h : IsPair w o) :
    Calls Try.prog 12 #[o.val] w fun e w' => e = .returned (.bool true) ∧ Below w.heap.size w w' := by
  obtain ⟨one, two, A1, n1, c1, a, A2, n2, c2, b⟩ := o
  obtain ⟨h1, h2, ha, hb⟩ := h
  simp only at h1 h2 ha hb
  have e1 : one = (UInt8.ofNat one).toNat := by rw [UInt8.toNat_ofNat']; omega
  have e2 : two = (UInt8.ofNat two).toNat := by rw [UInt8.toNat_ofNat']; omega
  show Calls Try.prog 12 #[.agg #[.int .u8 (one : Int), .int .u8 (two : Int), .slice A1 n1 c1, .slice A2 n2 c2]] w _
  rw [e1, e2]
  generalize UInt8.ofNat one = t1
  generalize UInt8.ofNat two = t2
  by_cases q1 : t1.toNat % 32 = 31
  · exact two_tag1 t1 t2 A1 A2 n1 c1 n2 c2 w q1
  by_cases q2 : t2.toNat % 32 = 31
  · exact two_tag2 t1 t2 A1 A2 n1 c1 n2 c2 w q1 q2
  by_cases q3 : 8192 < n1
  · exact two_large1 t1 t2 A1 A2 n1 c1 n2 c2 w q1 q2 q3
  by_cases q4 : 8192 < n2
  · exact two_large2 t1 t2 A1 A2 n1 c1 n2 c2 w q1 q2 q3 q4
  exact two_go t1 t2 A1 A2 n1 c1 n2 c2 w q1 q2 q3 q4 a b ha.rb hb.rb
end Go.Proofs.Ytlkiobngafjeiaa
