/-
  flash: what is done with no flash; the statement FlashNil.
-/
import Derived.Test.YtnodocpoangnkaaFlE
import Derived.Lib.SmallJoins
import Derived.OpenShut
import Derived.Deep.Slices
import Derived.Deep.MidRow
import Derived.MakeChecks
import Derived.WalkSpells
import Derived.Outline
import Derived.WalkLawsBesides
namespace Go.Proofs.Ytnodocpoangnkaa
open Go.RowKit Go
set_option linter.unusedVariables false
set_option linter.unusedSimpArgs false
set_option maxRecDepth 100000
/-- What is done with no flash. -/
theorem does_nil (kd p m : Int) (A : Option Addr) (n c : Nat) (bs : List UInt8) (w : World) (hR : RB w A n bs) (hn : n ≤ 1000000000) :
    Calls Try.prog 7 #[.pointer none, .agg #[.int .i64 kd, .int .i64 p, .int .i64 m, .slice A n c]] w fun e w' => ∃ A1 c1, e = .returned (.tuple #[.slice A1 0 c1, .int .i64 (if 0 ≤ kd ∧ kd ≤ 4 then 2 else 0), .bool true]) ∧ Below w.heap.size w w' := by
  have HR := Lib.hid hR
  clear hR
  by_cases h0 : kd = 0
  · subst h0
    rw [if_pos (by omega)]
    go_enter Try.func7, Try.ntmps7
    go_wp2_with fail
    refine (fread_nil _ _ _).mono ?_
    rintro e w1 ⟨rfl, rfl⟩
    go_wp2_with fail
    refine calls_nm fun W hW => ?_
    have hbW : Below w.heap.size w W := by rw [← hW]; exact kp_alloc (Below.refl _ _) _
    refine (twin_any _ _ _ _ _ (RB.nil _ _) (by omega)).mono ?_
    clear hW
    rintro e w2 ⟨A1, n1, c1, rfl, ho, hb⟩
    obtain rfl : 0 = n1 := ho.len
    have HB := Lib.hid (kp_call hbW hb)
    clear hbW hb ho
    go_wp2
    go_loopw [10] (fun v wl => v = .int .i64 0 ∧ wl = w2) (fun _ _ => 0)
    case atStart => exact ⟨rfl, rfl⟩
    case round =>
      obtain ⟨rfl, rfl⟩ := hrel
      go_wp2
      go_ret3
      exact ⟨A1, c1, rfl, HB.out⟩
  by_cases h1 : kd = 1
  · subst h1
    rw [if_pos (by omega)]
    go_enter Try.func7, Try.ntmps7
    go_wp2_with fail
    refine calls_nm fun W hW => ?_
    have hbW : Below w.heap.size w W := by rw [← hW]; exact kp_alloc (Below.refl _ _) _
    have hsW : W.heap[w.heap.size]? = some (.cells #[.int .i64 1, .int .i64 p, .int .i64 m, .slice A n c] 24) := by rw [← hW]; exact has_new _ _
    refine (twin_any A n c bs _ (HR.out.below hbW) hn).mono ?_
    clear hW
    rintro e w2 ⟨A1, n1, c1, rfl, ho, hb⟩
    obtain rfl : n1 = n := ho.len.symm.trans HR.out.1
    have HB := Lib.hid (kp_call hbW hb)
    have HO := Lib.hid ho.rb
    obtain ⟨k0, k1, k2, k3⟩ := cells_4 (has_below hsW hb)
    have HS := Lib.hid (has_below hsW hb)
    clear hbW hb ho hsW
    go_wp2_with fail
    refine (fprogram_nil _ _ _ _ _).mono ?_
    rintro e w3 ⟨rfl, hb3⟩
    have HB3 := Lib.hid (kp_call HB.out hb3)
    obtain ⟨k0, k1, k2, k3⟩ := cells_4 (has_below HS.out hb3)
    have SM := Lib.hid (same7_any A1 A n1 c1 n1 c bs bs w3 (HO.out.below hb3) (HR.out.below HB3.out) hn hn)
    rw [decide_eq_true rfl] at SM
    clear HB HO HS hb3
    go_wp2_with fail
    refine SM.out.mono ?_
    rintro e w4 ⟨rfl, hb4⟩
    have HB4 := Lib.hid (kp_call HB3.out hb4)
    clear SM HB3 hb4 k0 k1 k2 k3
    go_wp2
    go_ret3
    exact ⟨none, 0, rfl, HB4.out⟩
  by_cases h2 : kd = 2
  · subst h2
    rw [if_pos (by omega)]
    go_enter Try.func7, Try.ntmps7
    go_wp2_with fail
    refine calls_nm fun W hW => ?_
    have hbW : Below w.heap.size w W := by rw [← hW]; exact kp_alloc (Below.refl _ _) _
    refine (ferase_nil _ _).mono ?_
    clear hW
    rintro e w2 ⟨rfl, hb⟩
    have HB := Lib.hid (kp_call hbW hb)
    clear hbW hb
    go_wp2
    go_ret3
    exact ⟨none, 0, rfl, HB.out⟩
  by_cases h3 : kd = 3
  · subst h3
    rw [if_pos (by omega)]
    go_enter Try.func7, Try.ntmps7
    go_wp2_with fail
    refine calls_nm fun W hW => ?_
    have hbW : Below w.heap.size w W := by rw [← hW]; exact kp_alloc (Below.refl _ _) _
    refine (farm_nil _ _ _).mono ?_
    clear hW
    rintro e w2 ⟨rfl, rfl⟩
    have HB := Lib.hid hbW
    clear hbW
    go_wp2
    go_ret3
    exact ⟨none, 0, rfl, HB.out⟩
  by_cases h4 : kd = 4
  · subst h4
    rw [if_pos (by omega)]
    go_enter Try.func7, Try.ntmps7
    go_wp2_with fail
    refine calls_nm fun W hW => ?_
    have hbW : Below w.heap.size w W := by rw [← hW]; exact kp_alloc (Below.refl _ _) _
    refine (fon_nil _).mono ?_
    clear hW
    rintro e w2 ⟨rfl, rfl⟩
    have HB := Lib.hid hbW
    clear hbW
    go_wp2
    go_ret3
    exact ⟨none, 0, rfl, HB.out⟩
  rw [if_neg (by omega)]
  have g0 : (kd == 0) = false := by simpa using h0
  have g1 : (kd == 1) = false := by simpa using h1
  have g2 : (kd == 2) = false := by simpa using h2
  have g3 : (kd == 3) = false := by simpa using h3
  have g4 : (kd == 4) = false := by simpa using h4
  go_enter Try.func7, Try.ntmps7
  go_wp2
  go_ret3
  exact ⟨none, 0, rfl, kp_alloc (Below.refl _ _) _⟩
section
open Go.ChangeShapes Go.WideShapes Go.ChangeAt Go.Joins
theorem slice_of {H : Type} {enc : TypeId × Value → H} {W : World} {base n : Nat} {sp : Nat → Bool} {c : Value} {x : DataW H × List MemPlace} (h : DataW.trod enc Try.prog W base sp true n 22 [c] = some x) : ∃ A n k, c = Value.slice A n k := by
  rcases DataW.trod_slice Try.underlying22 h with ⟨e, _⟩ | ⟨a, l, k, _, _, _, _, e, _⟩
  · injection e with e _; exact ⟨_, _, _, e⟩
  · injection e with e _; exact ⟨_, _, _, e⟩
end
/-- lintellaw07.Op, as the model holds it. -/
structure FOp where
  kd : Int
  p : Int
  m : Int
  Xb : Option Addr
  nb : Nat
  cb : Nat
  bb : List UInt8
def FOp.cells (o : FOp) : Array Value := #[.int .i64 o.kd, .int .i64 o.p, .int .i64 o.m, .slice o.Xb o.nb o.cb]
def FOp.val (o : FOp) : Value := .agg o.cells
structure IsFOp (w : World) (o : FOp) : Prop where
  kd : -9223372036854775808 ≤ o.kd ∧ o.kd ≤ 9223372036854775807
  p : -9223372036854775808 ≤ o.p ∧ o.p ≤ 9223372036854775807
  m : -9223372036854775808 ≤ o.m ∧ o.m ≤ 9223372036854775807
  b : IsBs w o.Xb o.nb o.cb o.bb
section
open Go.ChangeShapes Go.WideShapes Go.ChangeAt Go.Joins
theorem open_p24 {H : Type} {enc : TypeId × Value → H} {W : World} {r : Reach} {b0 : Nat} {v : Value} {d : DataW H} {p : List MemPlace} (hv : Value.okWide Try.prog W r b0 24 v)
    (h : DataW.Trod enc Try.prog W 0 (fun _ => true) true 24 v d p) : ∃ x : FOp, v = x.val ∧ IsFOp W x := by
  obtain ⟨cs, rfl, hsz⟩ := okWide_struct Try.underlying24 hv
  have hsz6 : cs.size = 4 := hsz.trans (by kernel_rfl)
  obtain ⟨l⟩ := cs
  obtain ⟨fuel, hf⟩ := h
  obtain ⟨xs, n, _, _, _, hlen, hg⟩ := DataW.trod_struct Try.underlying24 hf
  match l, hsz6 with
  | [c0, c1, c2, c3], _ =>
    match xs, hlen with
    | [y0, y1, y2, y3], _ =>
      have g0 : DataW.trod enc Try.prog W 0 (fun _ => true) true n 3 [c0] = some y0 := by simpa [Value.cells, show Try.prog.cellsOf 3 = 1 by kernel_rfl] using hg 0 _ rfl
      obtain ⟨z0, e0, _, w0⟩ := DataW.trod_int Try.underlying3 g0
      injection e0 with e0 _
      subst e0
      have g1 : DataW.trod enc Try.prog W 0 (fun _ => true) true n 3 [c1] = some y1 := by simpa [Value.cells, show Try.prog.cellsOf 3 = 1 by kernel_rfl] using hg 1 _ rfl
      obtain ⟨z1, e1, _, w1⟩ := DataW.trod_int Try.underlying3 g1
      injection e1 with e1 _
      subst e1
      have g2 : DataW.trod enc Try.prog W 0 (fun _ => true) true n 3 [c2] = some y2 := by simpa [Value.cells, show Try.prog.cellsOf 3 = 1 by kernel_rfl] using hg 2 _ rfl
      obtain ⟨z2, e2, _, w2⟩ := DataW.trod_int Try.underlying3 g2
      injection e2 with e2 _
      subst e2
      have g3 : DataW.trod enc Try.prog W 0 (fun _ => true) true n 22 [c3] = some y3 := by simpa [Value.cells, show Try.prog.cellsOf 22 = 1 by kernel_rfl] using hg 3 _ rfl
      obtain ⟨A3, n3, k3, rfl⟩ : ∃ A n k, c3 = Value.slice A n k := slice_of g3
      obtain ⟨b3, B3⟩ := open_bs Try.underlying22 Try.underlying5 (by kernel_rfl) (show DataW.trod enc Try.prog W 0 (fun _ => true) true n 22 (Value.slice A3 n3 k3).cells.toList = some (y3.1, y3.2) by simpa [Value.cells] using g3)
      refine ⟨⟨z0, z1, z2, A3, n3, k3, b3⟩, ?_, ?_⟩
      · rfl
      · exact ⟨bounds_i64 w0, bounds_i64 w1, bounds_i64 w2, B3⟩
end
set_option maxHeartbeats 2000000 in
theorem nil_walk (o : FOp) (w : World) (hB : IsFOp w o) : Calls Try.prog 3 #[o.val] w fun e w' => e = .returned (.bool true) ∧ Below w.heap.size w w' := by
  obtain ⟨kd, p, m, A, n, c, bs⟩ := o
  have hR := hB.b.rb
  simp only at hR
  have HR := Lib.hid hR
  clear hB hR
  unfold FOp.val FOp.cells
  dsimp only
  by_cases hn : n ≤ 4096
  · have g1 : ¬ ((n : Int) > 4096) := by omega
    have g2 : ¬ (4096 < n) := by omega
    have DN := Lib.hid fun W (hb : Below w.heap.size w W) => does_nil kd p m A n c bs W (HR.out.below hb) (by omega)
    go_enter Try.func3, Try.ntmps3
    go_wp2_with fail
    refine calls_nm fun W hW => ?_
    have hbW : Below w.heap.size w W := by rw [← hW]; exact kp_alloc (Below.refl _ _) _
    have hsW : W.heap[w.heap.size]? = some (.cells #[.int .i64 kd, .int .i64 p, .int .i64 m, .slice A n c] 24) := by rw [← hW]; exact has_new _ _
    refine (DN.out W hbW).mono ?_
    clear hW
    rintro e w1 ⟨A1, c1, rfl, hb⟩
    obtain ⟨k0, k1, k2, k3⟩ := cells_4 (has_below hsW hb)
    have HB := Lib.hid (kp_call hbW hb)
    clear DN hbW hb hsW
    rcases Int.lt_or_le kd 0 with q0 | q0
    · rw [if_neg (by omega)]
      have q1 : decide (kd ≥ 0) = false := decide_eq_false (by omega)
      have q2 : ¬ (0 ≤ kd) := by omega
      go_wp2_with fail
      refine (fsectors_nil _).mono ?_
      rintro e w5 ⟨rfl, rfl⟩
      go_wp2_with fail
      refine (fsize_nil _).mono ?_
      rintro e w6 ⟨rfl, rfl⟩
      go_wp2_with fail
      refine (fwrites_nil _).mono ?_
      rintro e w7 ⟨rfl, rfl⟩
      go_wp2_with fail
      refine (fimage_nil _).mono ?_
      rintro e w8 ⟨rfl, rfl⟩
      go_wp2_with fail
      refine (fdead_nil _).mono ?_
      rintro e w9 ⟨rfl, rfl⟩
      go_wp2_with fail
      refine (fworks_any _).mono ?_
      rintro e w10 ⟨rfl, hb10⟩
      have HB10 := Lib.hid (kp_call HB.out hb10)
      clear hb10
      go_wp2
      go_ret
      exact ⟨rfl, HB10.out⟩
    · rcases Int.lt_or_le 4 kd with q9 | q9
      · rw [if_neg (by omega)]
        have q1 : decide (kd ≥ 0) = true := decide_eq_true q0
        have q2 : decide (kd ≤ 4) = false := decide_eq_false (by omega)
        have q3 : ¬ (kd ≤ 4) := by omega
        go_wp2_with fail
        refine (fsectors_nil _).mono ?_
        rintro e w5 ⟨rfl, rfl⟩
        go_wp2_with fail
        refine (fsize_nil _).mono ?_
        rintro e w6 ⟨rfl, rfl⟩
        go_wp2_with fail
        refine (fwrites_nil _).mono ?_
        rintro e w7 ⟨rfl, rfl⟩
        go_wp2_with fail
        refine (fimage_nil _).mono ?_
        rintro e w8 ⟨rfl, rfl⟩
        go_wp2_with fail
        refine (fdead_nil _).mono ?_
        rintro e w9 ⟨rfl, rfl⟩
        go_wp2_with fail
        refine (fworks_any _).mono ?_
        rintro e w10 ⟨rfl, hb10⟩
        have HB10 := Lib.hid (kp_call HB.out hb10)
        clear hb10
        go_wp2
        go_ret
        exact ⟨rfl, HB10.out⟩
      · rw [if_pos ⟨q0, q9⟩]
        have q1 : decide (kd ≥ 0) = true := decide_eq_true q0
        have q2 : decide (kd ≤ 4) = true := decide_eq_true q9
        go_wp2_with fail
        refine (fsectors_nil _).mono ?_
        rintro e w5 ⟨rfl, rfl⟩
        go_wp2_with fail
        refine (fsize_nil _).mono ?_
        rintro e w6 ⟨rfl, rfl⟩
        go_wp2_with fail
        refine (fwrites_nil _).mono ?_
        rintro e w7 ⟨rfl, rfl⟩
        go_wp2_with fail
        refine (fimage_nil _).mono ?_
        rintro e w8 ⟨rfl, rfl⟩
        go_wp2_with fail
        refine (fdead_nil _).mono ?_
        rintro e w9 ⟨rfl, rfl⟩
        go_wp2_with fail
        refine (fworks_any _).mono ?_
        rintro e w10 ⟨rfl, hb10⟩
        have HB10 := Lib.hid (kp_call HB.out hb10)
        clear hb10
        go_wp2
        go_ret
        exact ⟨rfl, HB10.out⟩
  · have g1 : (n : Int) > 4096 := by omega
    have g2 : 4096 < n := by omega
    go_enter Try.func3, Try.ntmps3
    go_wp2_with fail
    refine calls_nm fun W hW => ?_
    have hbW : Below w.heap.size w W := by rw [← hW]; exact kp_alloc (Below.refl _ _) _
    refine (fworks_any _).mono ?_
    clear hW
    rintro e w1 ⟨rfl, hb⟩
    have HB := Lib.hid (kp_call hbW hb)
    clear hbW hb
    go_wp2
    go_ret
    exact ⟨rfl, HB.out⟩
end Go.Proofs.Ytnodocpoangnkaa
