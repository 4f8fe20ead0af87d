/-
  flash: a list of things done; vast, behind.
-/
import Derived.Test.YtnodocpoangnkaaFlJ
import Derived.Lib.SmallJoins
import Derived.OpenShut
import Derived.Deep.Slices
import Derived.Deep.MidRow
namespace Go.Proofs.Ytnodocpoangnkaa
open Go.RowKit Go
set_option linter.unusedVariables false
set_option linter.unusedSimpArgs false
set_option maxRecDepth 100000
section
open Go.ChangeShapes Go.WideShapes Go.ChangeAt Go.Joins
theorem trod_FOp {H : Type} {enc : TypeId × Value → H} {W : World} {fuel : Nat} {l : List Value} {x : DataW H × List MemPlace} (hf : DataW.trod enc Try.prog W 0 (fun _ => true) true fuel 24 l = some x) : ∃ o : FOp, l = o.cells.toList ∧ IsFOp W o := by
  obtain ⟨xs, n, _, _, hcl, hlen, hg⟩ := DataW.trod_struct Try.underlying24 hf
  have hsz6 : l.length = 4 := hcl.trans (by kernel_rfl)
  match l, hsz6 with
  | [c0, c1, c2, c3], _ =>
    match xs, hlen with
    | [y0, y1, y2, y3], _ =>
      have g0 : DataW.trod enc Try.prog W 0 (fun _ => true) true n 3 [c0] = some y0 := by simpa [Value.cells, show Try.prog.cellsOf 3 = 1 by kernel_rfl] using hg 0 _ rfl
      obtain ⟨z0, e0, _, w0⟩ := DataW.trod_int Try.underlying3 g0
      injection e0 with e0 _
      subst e0
      have g1 : DataW.trod enc Try.prog W 0 (fun _ => true) true n 3 [c1] = some y1 := by simpa [Value.cells, show Try.prog.cellsOf 3 = 1 by kernel_rfl] using hg 1 _ rfl
      obtain ⟨z1, e1, _, w1⟩ := DataW.trod_int Try.underlying3 g1
      injection e1 with e1 _
      subst e1
      have g2 : DataW.trod enc Try.prog W 0 (fun _ => true) true n 3 [c2] = some y2 := by simpa [Value.cells, show Try.prog.cellsOf 3 = 1 by kernel_rfl] using hg 2 _ rfl
      obtain ⟨z2, e2, _, w2⟩ := DataW.trod_int Try.underlying3 g2
      injection e2 with e2 _
      subst e2
      have g3 : DataW.trod enc Try.prog W 0 (fun _ => true) true n 22 [c3] = some y3 := by simpa [Value.cells, show Try.prog.cellsOf 22 = 1 by kernel_rfl] using hg 3 _ rfl
      obtain ⟨A3, n3, k3, rfl⟩ : ∃ A n k, c3 = Value.slice A n k := slice_of g3
      obtain ⟨b3, B3⟩ := open_bs Try.underlying22 Try.underlying5 (by kernel_rfl) (show DataW.trod enc Try.prog W 0 (fun _ => true) true n 22 (Value.slice A3 n3 k3).cells.toList = some (y3.1, y3.2) by simpa [Value.cells] using g3)
      refine ⟨⟨z0, z1, z2, A3, n3, k3, b3⟩, ?_, ?_⟩
      · rfl
      · exact ⟨bounds_i64 w0, bounds_i64 w1, bounds_i64 w2, B3⟩
end
/-- What a law's walk is told of a slice of these that came in. -/
structure IsFOps (w : World) (A : Option Addr) (n c : Nat) (os : Nat → FOp) : Prop where
  le : n ≤ c
  max : c ≤ maxLen
  rows : ∀ r, r < n → ∃ b off, A = some ⟨b, off, none⟩ ∧ b < w.heap.size ∧ IsFOp w (os r) ∧ ∀ (j : Nat) (u : Value), (os r).cells.toList[j]? = some u → w.cell? ⟨b, off + r * 4 + j, none⟩ = some u
section
open Go.ChangeShapes Go.WideShapes Go.ChangeAt Go.Deep
theorem open_s33 {H : Type} {enc : TypeId × Value → H} {w : World} {A : Option Addr} {n c : Nat} {d : DataW H} {p : List MemPlace} (h : DataW.Trod enc Try.prog w 0 (fun _ => true) true 33 (.slice A n c) d p) : ∃ os, IsFOps w A n c os := by
  obtain ⟨fuel, hf⟩ := h
  have ce : Try.prog.cellsOf 24 = 4 := by kernel_rfl
  rcases open_slice Try.underlying33 hf with ⟨hcs, _⟩ | ⟨a, len, cap, m, q, D, Pl, hcs, _, hl, hm, hmm, _, hx⟩
  · simp [Value.cells] at hcs
    obtain ⟨rfl, rfl, rfl⟩ := hcs
    refine ⟨fun _ => ⟨0, 0, 0, none, 0, 0, []⟩, Nat.le_refl _, Nat.zero_le _, fun r hr => absurd hr (by omega)⟩
  · simp [Value.cells] at hcs
    obtain ⟨rfl, rfl, rfl⟩ := hcs
    have hmc : m = c := by rw [hmm]; rfl
    subst hmc
    rw [ce] at hx
    have hrow : ∀ r, r < m → ∃ o : FOp, IsFOp w o ∧ ∀ (j : Nat) (u : Value), o.cells.toList[j]? = some u → w.cell? (a.add (r * 4 + j)) = some u := by
      intro r hr
      obtain ⟨cs', h1, h2⟩ := hx r hr
      obtain ⟨_, hlen, hcell⟩ := World.cells?_some h1
      obtain ⟨o, ho, hi⟩ := trod_FOp h2
      refine ⟨o, hi, fun j u hu => ?_⟩
      rw [← ho] at hu
      have hj : j < cs'.length := (List.getElem?_eq_some_iff.1 hu).1
      have h3 := hcell j (by omega)
      rw [add_add, hu] at h3
      exact h3
    haveI : Inhabited FOp := ⟨⟨0, 0, 0, none, 0, 0, []⟩⟩
    obtain ⟨os, hos⟩ := choose_lt hrow
    refine ⟨os, hl, hm, fun r hr => ?_⟩
    obtain ⟨hi, hc⟩ := hos r (by omega)
    obtain ⟨b, off, spot⟩ := a
    have hb : b < w.heap.size := by
      have h0 := (hos 0 (by omega)).2 0 _ rfl
      have := World.block_lt_of_cell? w _ h0
      simpa [Addr.add] using this
    have hsp : spot = none := by
      have h9 := (hos 0 (by omega)).2 0 _ rfl
      have h1 := World.cell?_spot h9
      simpa [Addr.add] using h1
    subst hsp
    refine ⟨b, off, rfl, hb, hi, fun j u hu => ?_⟩
    have h3 := hc j u hu
    rw [Addr.add_mid, ← Nat.add_assoc] at h3
    exact h3
end
/-- The slices' headers of a list of things done. -/
def OpsC (w : World) (A : Option Addr) (n : Nat) (os : Nat → FOp) : Prop := ∀ r, r < n → ∃ b off, A = some ⟨b, off, none⟩ ∧ w.cell? ⟨b, off + r * 4 + 3, none⟩ = some (.slice (os r).Xb (os r).nb (os r).cb)
/-- What vast answers. -/
def VastPost (sec size : Int) (n : Nat) (os : Nat → FOp) (w : World) (e : Ending) (w' : World) : Prop := ∃ v, e = .returned (.bool v) ∧ (v = false → n ≤ 150 ∧ sec ≤ 64 ∧ size ≤ 2048 ∧ ∀ r, r < n → (os r).nb ≤ 32768) ∧ w' = w
theorem vast_any (sec size : Int) (A : Option Addr) (n c : Nat) (os : Nat → FOp) (w : World) (hR : OpsC w A n os) :
    Calls Try.prog 13 #[.int .i64 sec, .int .i64 size, .slice A n c] w (VastPost sec size n os w) := by
  have HR := Lib.hid hR
  clear hR
  by_cases a1 : 150 < n
  · have p1 : decide ((n : Int) > 150) = true := decide_eq_true (by omega)
    clear HR
    go_enter Try.func13, Try.ntmps13
    go_wp2
    go_ret
    exact ⟨true, rfl, by simp, rfl⟩
  have p1 : decide ((n : Int) > 150) = false := decide_eq_false (by omega)
  have q1 : decide (150 < n) = false := decide_eq_false a1
  by_cases a2 : 64 < sec
  · have p2 : decide (sec > 64) = true := decide_eq_true (by omega)
    clear HR
    go_enter Try.func13, Try.ntmps13
    go_wp2
    go_ret
    exact ⟨true, rfl, by simp, rfl⟩
  have p2 : decide (sec > 64) = false := decide_eq_false (by omega)
  by_cases a3 : 2048 < size
  · have p3 : decide (size > 2048) = true := decide_eq_true (by omega)
    clear HR
    go_enter Try.func13, Try.ntmps13
    go_wp2
    go_ret
    exact ⟨true, rfl, by simp, rfl⟩
  have p3 : decide (size > 2048) = false := decide_eq_false (by omega)
  have GO : Hid (n ≤ 150 ∧ sec ≤ 64 ∧ size ≤ 2048) := ⟨by omega, by omega, by omega⟩
  have LOOP : Hid (∃ (i s : Nat), (Value.int .i64 0 = .int .i64 (s : Int)) ∧ (Value.int .i64 0 = .int .i64 (i : Int)) ∧ i ≤ n ∧ s ≤ 32768 ∧ Hid (∀ r, r < i → (os r).nb ≤ 32768)) := ⟨0, 0, rfl, rfl, Nat.zero_le _, Nat.zero_le _, fun r hr => absurd hr (Nat.not_lt_zero _)⟩
  rcases (show (8 < sec ∧ 64 < size) ∨ (8 < sec ∧ ¬ 64 < size) ∨ ¬ 8 < sec by omega) with ⟨a4, a5⟩ | ⟨a4, a5⟩ | a4
  · have p4 : decide (sec > 8) = true := decide_eq_true a4
    have p5 : decide (size > 64) = true := decide_eq_true a5
    clear LOOP GO
    clear HR
    go_enter Try.func13, Try.ntmps13
    go_wp2
    go_ret
    exact ⟨true, rfl, by simp, rfl⟩
  · have p4 : decide (sec > 8) = true := decide_eq_true a4
    have p5 : decide (size > 64) = false := decide_eq_false a5
    clear a5
    clear a1 a2 a3 a4
    go_enter Try.func13, Try.ntmps13
    go_wp2
    go_loop [7, 8] (fun v vi => ∃ (i s : Nat), v = .int .i64 (s : Int) ∧ vi = .int .i64 (i : Int) ∧ i ≤ n ∧ s ≤ 32768 ∧ Hid (∀ r, r < i → (os r).nb ≤ 32768)) (fun _ vi => n - (intOf vi).toNat)
    case atStart => exact LOOP.out
    case round =>
      obtain ⟨i, s, rfl, rfl, hi, hs, HN⟩ := hrel
      clear LOOP p1 p2 p3 p4
      by_cases hlt : i < n
      · obtain ⟨b, off, rfl, hc⟩ := HR.out i hlt
        obtain ⟨nb, hnb⟩ : ∃ nb, (os i).nb = nb := ⟨_, rfl⟩
        rw [hnb] at hc
        have HNB := Lib.hid hnb
        clear hnb
        have i1 : (i : Int) < (n : Int) := by omega
        have hn150 := GO.out.1
        have e3 : IntKind.i64.wrap ((i : Int) + 1) = (i : Int) + 1 := IntWalk.i64_in _ (by omega)
        by_cases hb2 : 131072 < nb
        · have e2 : IntKind.i64.wrap ((s : Int) + 131072) = (s : Int) + 131072 := IntWalk.i64_in _ (by omega)
          have p9 : decide ((s : Int) + 131072 > 32768) = true := decide_eq_true (by omega)
          have p10 : (32768 : Int) < (s : Int) + 131072 := by omega
          go_wp2
          go_ret
          exact ⟨true, rfl, by simp, rfl⟩
        obtain ⟨s1, hs1⟩ : ∃ s1, s + nb = s1 := ⟨_, rfl⟩
        have e2 : IntKind.i64.wrap ((s : Int) + (nb : Int)) = (s1 : Int) := by rw [IntWalk.i64_in _ (by omega)]; omega
        by_cases hbig : 32768 < s1
        · have p9 : decide ((s1 : Int) > 32768) = true := decide_eq_true (by omega)
          go_wp2
          go_ret
          exact ⟨true, rfl, by simp, rfl⟩
        · have p9 : ¬ ((s1 : Int) > 32768) := by omega
          have HN2 : Hid (∀ r, r < i + 1 → (os r).nb ≤ 32768) := fun r hr => by
            rcases Nat.lt_or_ge r i with h | h
            · exact HN.out r h
            · obtain rfl : r = i := by omega
              rw [HNB.out]; omega
          clear HN hs1
          go_wp2
          go_round
          case rel => exact ⟨i + 1, s1, rfl, by go_num, by omega, by omega, HN2.out⟩
          case measure => simp [intOf]; omega
      · obtain rfl : i = n := by omega
        go_wp2
        go_ret
        exact ⟨false, rfl, fun _ => ⟨GO.out.1, GO.out.2.1, GO.out.2.2, HN.out⟩, rfl⟩
  · have p4 : decide (sec > 8) = false := decide_eq_false a4
    clear a1 a2 a3 a4
    go_enter Try.func13, Try.ntmps13
    go_wp2
    go_loop [7, 8] (fun v vi => ∃ (i s : Nat), v = .int .i64 (s : Int) ∧ vi = .int .i64 (i : Int) ∧ i ≤ n ∧ s ≤ 32768 ∧ Hid (∀ r, r < i → (os r).nb ≤ 32768)) (fun _ vi => n - (intOf vi).toNat)
    case atStart => exact LOOP.out
    case round =>
      obtain ⟨i, s, rfl, rfl, hi, hs, HN⟩ := hrel
      clear LOOP p1 p2 p3 p4
      by_cases hlt : i < n
      · obtain ⟨b, off, rfl, hc⟩ := HR.out i hlt
        obtain ⟨nb, hnb⟩ : ∃ nb, (os i).nb = nb := ⟨_, rfl⟩
        rw [hnb] at hc
        have HNB := Lib.hid hnb
        clear hnb
        have i1 : (i : Int) < (n : Int) := by omega
        have hn150 := GO.out.1
        have e3 : IntKind.i64.wrap ((i : Int) + 1) = (i : Int) + 1 := IntWalk.i64_in _ (by omega)
        by_cases hb2 : 131072 < nb
        · have e2 : IntKind.i64.wrap ((s : Int) + 131072) = (s : Int) + 131072 := IntWalk.i64_in _ (by omega)
          have p9 : decide ((s : Int) + 131072 > 32768) = true := decide_eq_true (by omega)
          have p10 : (32768 : Int) < (s : Int) + 131072 := by omega
          go_wp2
          go_ret
          exact ⟨true, rfl, by simp, rfl⟩
        obtain ⟨s1, hs1⟩ : ∃ s1, s + nb = s1 := ⟨_, rfl⟩
        have e2 : IntKind.i64.wrap ((s : Int) + (nb : Int)) = (s1 : Int) := by rw [IntWalk.i64_in _ (by omega)]; omega
        by_cases hbig : 32768 < s1
        · have p9 : decide ((s1 : Int) > 32768) = true := decide_eq_true (by omega)
          go_wp2
          go_ret
          exact ⟨true, rfl, by simp, rfl⟩
        · have p9 : ¬ ((s1 : Int) > 32768) := by omega
          have HN2 : Hid (∀ r, r < i + 1 → (os r).nb ≤ 32768) := fun r hr => by
            rcases Nat.lt_or_ge r i with h | h
            · exact HN.out r h
            · obtain rfl : r = i := by omega
              rw [HNB.out]; omega
          clear HN hs1
          go_wp2
          go_round
          case rel => exact ⟨i + 1, s1, rfl, by go_num, by omega, by omega, HN2.out⟩
          case measure => simp [intOf]; omega
      · obtain rfl : i = n := by omega
        go_wp2
        go_ret
        exact ⟨false, rfl, fun _ => ⟨GO.out.1, GO.out.2.1, GO.out.2.2, HN.out⟩, rfl⟩
/-- New, where it answers an error. -/
theorem fnew_no (N s : Int) (h : N < 1 ∨ 64 < N ∨ s < 16 ∨ 65536 < s) (w : World) :
    Calls Try.prog 21 #[.int .i64 N, .int .i64 s] w fun e w' => e = .returned (.tuple #[.pointer none, .int .i64 1]) ∧ w' = w := by
  by_cases a1 : N < 1
  · have p1 : decide (N < 1) = true := decide_eq_true a1
    clear h
    go_enter Try.func21, Try.ntmps21
    go_wp2
    go_ret2
    exact ⟨rfl, rfl⟩
  have p1 : decide (N < 1) = false := decide_eq_false a1
  by_cases a2 : 64 < N
  · have p2 : decide (N > 64) = true := decide_eq_true a2
    clear h
    go_enter Try.func21, Try.ntmps21
    go_wp2
    go_ret2
    exact ⟨rfl, rfl⟩
  have p2 : decide (N > 64) = false := decide_eq_false a2
  by_cases a3 : s < 16
  · have p3 : decide (s < 16) = true := decide_eq_true a3
    clear h
    go_enter Try.func21, Try.ntmps21
    go_wp2
    go_ret2
    exact ⟨rfl, rfl⟩
  have p3 : decide (s < 16) = false := decide_eq_false a3
  have a4 : 65536 < s := by omega
  have p4 : decide (s > 65536) = true := decide_eq_true a4
  clear h
  go_enter Try.func21, Try.ntmps21
  go_wp2
  go_ret2
  exact ⟨rfl, rfl⟩
/-- A flash behind what was done, with power, not armed. -/
def BehindPost (w : World) (N s : Nat) (e : Ending) (w' : World) : Prop :=
  ∃ g a c T, e = .returned (.pointer (some ⟨g, 0, none⟩)) ∧ FL w' w.heap.size g a c T ∧ T.n = N ∧ T.s = s ∧ T.off = false ∧ T.left = 0 ∧ T.part = 0 ∧ T.wr ≤ 5000000 ∧ Below w.heap.size w w'
theorem behind_no (N s : Int) (h : N < 1 ∨ 64 < N ∨ s < 16 ∨ 65536 < s) (v : Value) (w : World) :
    Calls Try.prog 14 #[.int .i64 N, .int .i64 s, v] w fun e w' => e = .returned (.pointer none) ∧ w' = w := by
  have NN := Lib.hid (fnew_no N s h w)
  clear h
  go_enter Try.func14, Try.ntmps14
  go_wp2_with fail
  refine NN.out.mono ?_
  rintro e w1 ⟨rfl, rfl⟩
  clear NN
  go_wp2
  go_ret
  exact ⟨rfl, rfl⟩
set_option maxHeartbeats 1000000 in
theorem behind_any (N s : Nat) (h1 : 1 ≤ N) (h2 : N ≤ 64) (h3 : 16 ≤ s) (h4 : s ≤ 65536) (A : Option Addr) (n c : Nat) (os : Nat → FOp) (w : World) (hR : IsFOps w A n c os) (hn : n ≤ 150) (hB : ∀ r, r < n → (os r).nb ≤ 32768) :
    Calls Try.prog 14 #[.int .i64 (N : Int), .int .i64 (s : Int), .slice A n c] w (BehindPost w N s) := by
  have NN := Lib.hid (fnew_any N s h1 h2 h3 h4 w)
  have HR := Lib.hid hR
  have HB := Lib.hid hB
  have HQ := Lib.hid (And.intro h1 (And.intro h2 (And.intro h3 h4)))
  clear hR hB h1 h2 h3 h4
  go_enter Try.func14, Try.ntmps14
  go_wp2_with fail
  refine NN.out.mono ?_
  rintro e w1 ⟨g, a, cc, rfl, hf, hb1⟩
  have START : Hid (∃ T, FL w1 w.heap.size g a cc T ∧ T.n = N ∧ T.s = s ∧ T.wr ≤ 0 * 32769 ∧ Below w.heap.size w w1) := ⟨_, hf, rfl, rfl, Nat.zero_le _, hb1⟩
  clear hf hb1 NN
  go_wp2
  go_loopw [9] (fun vi wl => ∃ (i : Nat), vi = .int .i64 (i : Int) ∧ i ≤ n ∧ Hid (∃ T, FL wl w.heap.size g a cc T ∧ T.n = N ∧ T.s = s ∧ T.wr ≤ i * 32769 ∧ Below w.heap.size w wl)) (fun vi _ => n - (intOf vi).toNat)
  case atStart => exact ⟨0, rfl, Nat.zero_le _, START.out⟩
  case round =>
    obtain ⟨i, rfl, hi, HK⟩ := hrel
    clear START
    by_cases hlt : i < n
    · obtain ⟨T, t1, t2, t3, t4, t5⟩ := HK.out
      obtain ⟨b, off, rfl, hbw, ho, hrow⟩ := HR.out.rows i hlt
      have hnb := HB.out i hlt
      rcases hos : os i with ⟨kd, p, m, Xb, nb, cb, bb⟩
      rw [hos] at ho hrow hnb
      have r0 := (t5.cell (p := ⟨b, off + i * 4 + 0, none⟩) hbw).trans (hrow 0 _ rfl)
      have r1 := (t5.cell (p := ⟨b, off + i * 4 + 1, none⟩) hbw).trans (hrow 1 _ rfl)
      have r2 := (t5.cell (p := ⟨b, off + i * 4 + 2, none⟩) hbw).trans (hrow 2 _ rfl)
      have r3 := (t5.cell (p := ⟨b, off + i * 4 + 3, none⟩) hbw).trans (hrow 3 _ rfl)
      rw [Nat.add_zero] at r0
      have hxb : bb ≠ [] → ∀ d, Xb = some d → d.block ≠ g ∧ d.block ≠ a := by
        intro he d hd
        obtain ⟨b', off', e', hb', _⟩ := ho.b.rb.2 he
        simp only at e'
        rw [hd] at e'
        injection e' with e'
        have h9 : d.block < w.heap.size := by rw [e']; exact hb'
        have := t1.gb
        have := t1.ab.1
        exact ⟨by omega, by omega⟩
      have DO := Lib.hid (does_any t1 kd p m Xb nb cb bb (ho.b.rb.below' t5 (Nat.le_refl _)) hxb (by simp only at hnb; omega) ho.m.2 (by simp only at hnb; omega))
      have HT := Lib.hid (And.intro t2 (And.intro t3 (And.intro t4 (And.intro t5 (And.intro t1.gb t1.ab.1)))))
      have hnb2 : nb ≤ 32768 := hnb
      have i1 : (i : Int) < (n : Int) := by omega
      clear t1 t2 t3 t4 t5 ho hrow hnb HK hos hxb
      go_wp2_with fail
      refine DO.out.mono ?_
      rintro e w2 ⟨⟨v, rfl⟩, T2, z1, z2, z3, z4, z5⟩
      obtain ⟨y1, y2, y3, y4, y5, y6⟩ := HT.out
      have HN : Hid (∃ T, FL w2 w.heap.size g a cc T ∧ T.n = N ∧ T.s = s ∧ T.wr ≤ (i + 1) * 32769 ∧ Below w.heap.size w w2) := ⟨T2, z1, z2.trans y1, z3.trans y2, by omega, y4.trans (z5.below y5 y6 y4.size)⟩
      clear DO HT z1 z2 z3 z4 z5 y1 y2 y3 y4 y5 y6 r0 r1 r2 r3
      go_wp2
      go_roundw
      case rel => exact ⟨i + 1, by go_num, by omega, HN.out⟩
      case measure => simp [intOf]; omega
    · obtain rfl : i = n := by omega
      obtain ⟨T, t1, t2, t3, t4, t5⟩ := HK.out
      have ON := Lib.hid (fon_any t1)
      have H5 := Lib.hid (And.intro t2 (And.intro t3 (And.intro t4 (And.intro t5 (And.intro t1.gb t1.ab.1)))))
      rcases hoff : T.off with _ | _
      all_goals
        rw [hoff] at ON
        clear t1 t2 t3 t4 t5 HK hoff
        go_wp2_with fail
        refine ON.out.mono ?_
        rintro e w2 ⟨rfl, z1, z2⟩
        have AR := Lib.hid (farm_any z1 rfl 0 0 (by omega))
        have Z2 := Lib.hid z2
        clear z1 z2 ON
        go_wp2_with fail
        refine AR.out.mono ?_
        rintro e w3 ⟨rfl, z1, z2⟩
        obtain ⟨y1, y2, y3, y4, y5, y6⟩ := H5.out
        have FIN : Hid (∃ T, FL w3 w.heap.size g a cc T ∧ T.n = N ∧ T.s = s ∧ T.off = false ∧ T.left = 0 ∧ T.part = 0 ∧ T.wr ≤ 5000000 ∧ Below w.heap.size w w3) := ⟨_, z1, y1, y2, rfl, rfl, rfl, (by show T.wr ≤ 5000000; omega), y4.trans ((Z2.out.trans z2).below y5 y6 y4.size)⟩
        clear z1 z2 AR Z2 H5 y1 y2 y3 y4 y5 y6
        go_wp2
        go_ret
        obtain ⟨T, t1⟩ := FIN.out
        exact ⟨g, a, cc, T, rfl, t1⟩
end Go.Proofs.Ytnodocpoangnkaa
