/-
  descr: variables as the model holds them; whether two spaces are one.
-/
import Derived.Test.YthmmipcfabijdaaDoorDeP
import Derived.Deep.MidRow
import Derived.ChangeKeysEq
namespace Go.Proofs.YthmmipcfabijdaaDoor
open Go.RowKit Go
set_option linter.unusedVariables false
set_option maxRecDepth 100000
structure Vr where
  cs : Array Value
  nm : ByteArray
  gb : List UInt8
  a : Nat
  t : Tm
  D : Option Addr
  dn : Nat
  dc : Nat
  db : List UInt8
def vrV (v : Vr) : Value := .agg v.cs
structure IsVr (W : World) (v : Vr) : Prop where
  nm : v.cs[0]? = some (.string v.nm)
  nml : v.nm.size ≤ maxLen
  gb : ∀ j u, (v.gb.map bv)[j]? = some u → v.cs[1 + j]? = some u
  gl : v.gb.length = 16
  a : v.cs[17]? = some (.int .u32 (v.a : Int))
  al : v.a < 4294967296
  t0 : v.cs[18]? = some (.int .u16 (v.t.y : Int))
  t1 : v.cs[19]? = some (.int .u8 (v.t.mo.toNat : Int))
  t2 : v.cs[20]? = some (.int .u8 (v.t.d.toNat : Int))
  t3 : v.cs[21]? = some (.int .u8 (v.t.h.toNat : Int))
  t4 : v.cs[22]? = some (.int .u8 (v.t.mi.toNat : Int))
  t5 : v.cs[23]? = some (.int .u8 (v.t.s.toNat : Int))
  ty : v.t.y < 65536
  d : v.cs[56]? = some (.slice v.D v.dn v.dc)
  db : IsBs W v.D v.dn v.dc v.db
section
open Go.ChangeShapes Go.WideShapes Go.ChangeAt Go.Joins
theorem slice_of {H : Type} {enc : TypeId × Value → H} {W : World} {base n : Nat} {sp : Nat → Bool} {c : Value} {x : DataW H × List MemPlace} (h : DataW.trod enc Tryd.prog W base sp true n 22 [c] = some x) : ∃ A n k, c = Value.slice A n k := by
  rcases DataW.trod_slice Tryd.underlying22 h with ⟨e, _⟩ | ⟨a, l, k, _, _, _, _, e, _⟩
  · injection e with e _; exact ⟨_, _, _, e⟩
  · injection e with e _; exact ⟨_, _, _, e⟩
theorem take_one {L : List Value} {k : Nat} (h : k < L.length) : ∃ c, L[k]? = some c ∧ (L.drop k).take 1 = [c] :=
  ⟨L[k], List.getElem?_eq_getElem h, by rw [List.drop_eq_getElem_cons h]; rfl⟩
theorem piece_at {L : List Value} {k m j : Nat} (hj : j < m) : ((L.drop k).take m)[j]? = L[k + j]? := by
  rw [List.getElem?_take_of_lt hj, List.getElem?_drop]
theorem open_p43 {H : Type} {enc : TypeId × Value → H} {W : World} {r : Reach} {b0 : Nat} {v : Value} {d : DataW H} {p : List MemPlace} (hv : Value.okWide Tryd.prog W r b0 43 v)
    (h : DataW.Trod enc Tryd.prog W 0 (fun _ => true) true 43 v d p) : ∃ x, v = vrV x ∧ IsVr W x := by
  obtain ⟨cs, rfl, hsz⟩ := okWide_struct Tryd.underlying43 hv
  have hsz57 : cs.toList.length = 57 := by
    have := hsz.trans (show Tryd.prog.cellsOf 43 = 57 by kernel_rfl)
    simpa using this
  obtain ⟨fuel, hf⟩ := h
  obtain ⟨xs, n, _, _, _, hlen, hg⟩ := DataW.trod_struct Tryd.underlying43 hf
  have hcs : (Value.agg cs).cells.toList = cs.toList := rfl
  have c1 : Tryd.prog.cellsOf 9 = 1 := by kernel_rfl
  have c2 : Tryd.prog.cellsOf 27 = 16 := by kernel_rfl
  have c3 : Tryd.prog.cellsOf 28 = 1 := by kernel_rfl
  have c4 : Tryd.prog.cellsOf 25 = 6 := by kernel_rfl
  have c5 : Tryd.prog.cellsOf 22 = 1 := by kernel_rfl
  have c6 : Tryd.prog.cellsOf 5 = 1 := by kernel_rfl
  have c7 : Tryd.prog.cellsOf 23 = 1 := by kernel_rfl
  rw [hcs] at hg
  have at_ : ∀ k : Nat, cs.toList[k]? = cs[k]? := fun k => by simp
  match xs, hlen with
  | [x0, x1, x2, x3, x4, x5], _ =>
    have g0 : DataW.trod enc Tryd.prog W 0 (fun _ => true) true n 9 ((cs.toList.drop 0).take (Tryd.prog.cellsOf 9)) = some x0 := hg 0 _ rfl
    rw [c1] at g0
    have g1 : DataW.trod enc Tryd.prog W 0 (fun _ => true) true n 27 ((cs.toList.drop 1).take (Tryd.prog.cellsOf 27)) = some x1 := hg 1 _ rfl
    rw [c2] at g1
    have g2 : DataW.trod enc Tryd.prog W 0 (fun _ => true) true n 28 ((cs.toList.drop 17).take (Tryd.prog.cellsOf 28)) = some x2 := hg 2 _ rfl
    rw [c3] at g2
    have g3 : DataW.trod enc Tryd.prog W 0 (fun _ => true) true n 25 ((cs.toList.drop 18).take (Tryd.prog.cellsOf 25)) = some x3 := hg 3 _ rfl
    rw [c4] at g3
    have g5 : DataW.trod enc Tryd.prog W 0 (fun _ => true) true n 22 ((cs.toList.drop 56).take (Tryd.prog.cellsOf 22)) = some x5 := hg 5 _ rfl
    rw [c5] at g5
    obtain ⟨v0, e0, t0⟩ := take_one (L := cs.toList) (k := 0) (by omega)
    obtain ⟨v2, e2, t2⟩ := take_one (L := cs.toList) (k := 17) (by omega)
    obtain ⟨v5, e5, t5⟩ := take_one (L := cs.toList) (k := 56) (by omega)
    rw [t0] at g0
    rw [t2] at g2
    rw [t5] at g5
    obtain ⟨sv, es, _, ws⟩ := DataW.trod_string Tryd.underlying9 g0
    injection es with es _
    obtain ⟨z2, ez, _, wz⟩ := DataW.trod_int Tryd.underlying28 g2
    injection ez with ez _
    obtain ⟨A5, n5, k5, rfl⟩ : ∃ A n k, v5 = Value.slice A n k := slice_of g5
    obtain ⟨b5, B5⟩ := open_bs Tryd.underlying22 Tryd.underlying5 (by kernel_rfl) (show DataW.trod enc Tryd.prog W 0 (fun _ => true) true n 22 (Value.slice A5 n5 k5).cells.toList = some (x5.1, x5.2) by simpa [Value.cells] using g5)
    obtain ⟨ys, m, _, _, _, hly, hgy⟩ := DataW.trod_array Tryd.underlying27 g1
    have hl16 : ((cs.toList.drop 1).take 16).length = 16 := by rw [List.length_take, List.length_drop]; omega
    obtain ⟨gb, hgb⟩ := bytes_of_vals ((cs.toList.drop 1).take 16) (fun i hi => by
      have h1 := hgy i (by omega)
      rw [c6, Nat.mul_one] at h1
      obtain ⟨q, eq, tq⟩ := take_one (L := (cs.toList.drop 1).take 16) (k := i) hi
      rw [tq, List.getElem?_eq_getElem (show i < ys.length by omega)] at h1
      obtain ⟨z, ez, _, wz⟩ := DataW.trod_int Tryd.underlying5 h1
      injection ez with ez _
      exact ⟨z, by rw [eq, ez], wz⟩)
    obtain ⟨us, m2, _, _, _, hlu, hgu⟩ := DataW.trod_struct Tryd.underlying25 g3
    match us, hlu with
    | [u0, u1, u2, u3, u4, u5], _ =>
      have f0 : DataW.trod enc Tryd.prog W 0 (fun _ => true) true m2 23 ((((cs.toList.drop 18).take 6).drop 0).take (Tryd.prog.cellsOf 23)) = some u0 := hgu 0 _ rfl
      rw [c7] at f0
      have f1 : DataW.trod enc Tryd.prog W 0 (fun _ => true) true m2 5 ((((cs.toList.drop 18).take 6).drop 1).take (Tryd.prog.cellsOf 5)) = some u1 := hgu 1 _ rfl
      rw [c6] at f1
      have f2 : DataW.trod enc Tryd.prog W 0 (fun _ => true) true m2 5 ((((cs.toList.drop 18).take 6).drop 2).take (Tryd.prog.cellsOf 5)) = some u2 := hgu 2 _ rfl
      rw [c6] at f2
      have f3 : DataW.trod enc Tryd.prog W 0 (fun _ => true) true m2 5 ((((cs.toList.drop 18).take 6).drop 3).take (Tryd.prog.cellsOf 5)) = some u3 := hgu 3 _ rfl
      rw [c6] at f3
      have f4 : DataW.trod enc Tryd.prog W 0 (fun _ => true) true m2 5 ((((cs.toList.drop 18).take 6).drop 4).take (Tryd.prog.cellsOf 5)) = some u4 := hgu 4 _ rfl
      rw [c6] at f4
      have f5 : DataW.trod enc Tryd.prog W 0 (fun _ => true) true m2 5 ((((cs.toList.drop 18).take 6).drop 5).take (Tryd.prog.cellsOf 5)) = some u5 := hgu 5 _ rfl
      rw [c6] at f5
      have hl6 : ((cs.toList.drop 18).take 6).length = 6 := by rw [List.length_take, List.length_drop]; omega
      obtain ⟨q0, i0, j0⟩ := take_one (L := (cs.toList.drop 18).take 6) (k := 0) (by omega)
      obtain ⟨q1, i1, j1⟩ := take_one (L := (cs.toList.drop 18).take 6) (k := 1) (by omega)
      obtain ⟨q2, i2, j2⟩ := take_one (L := (cs.toList.drop 18).take 6) (k := 2) (by omega)
      obtain ⟨q3, i3, j3⟩ := take_one (L := (cs.toList.drop 18).take 6) (k := 3) (by omega)
      obtain ⟨q4, i4, j4⟩ := take_one (L := (cs.toList.drop 18).take 6) (k := 4) (by omega)
      obtain ⟨q5, i5, j5⟩ := take_one (L := (cs.toList.drop 18).take 6) (k := 5) (by omega)
      rw [j0] at f0
      rw [j1] at f1
      rw [j2] at f2
      rw [j3] at f3
      rw [j4] at f4
      rw [j5] at f5
      rw [piece_at (by omega)] at i0 i1 i2 i3 i4 i5
      obtain ⟨y0, e0', _, w0⟩ := DataW.trod_int Tryd.underlying23 f0
      obtain ⟨y1, e1', _, w1⟩ := DataW.trod_int Tryd.underlying5 f1
      obtain ⟨y2, e2', _, w2⟩ := DataW.trod_int Tryd.underlying5 f2
      obtain ⟨y3, e3', _, w3⟩ := DataW.trod_int Tryd.underlying5 f3
      obtain ⟨y4, e4', _, w4⟩ := DataW.trod_int Tryd.underlying5 f4
      obtain ⟨y5, e5', _, w5⟩ := DataW.trod_int Tryd.underlying5 f5
      injection e0' with e0' _
      injection e1' with e1' _
      injection e2' with e2' _
      injection e3' with e3' _
      injection e4' with e4' _
      injection e5' with e5' _
      have bz := bounds_u32 wz
      have b0' := bounds_u16 w0
      have zz : ((z2.toNat : Nat) : Int) = z2 := by omega
      have yy : ((y0.toNat : Nat) : Int) = y0 := by omega
      refine ⟨⟨cs, sv, gb, z2.toNat, ⟨y0.toNat, UInt8.ofNat y1.toNat, UInt8.ofNat y2.toNat, UInt8.ofNat y3.toNat, UInt8.ofNat y4.toNat, UInt8.ofNat y5.toNat⟩, A5, n5, k5, b5⟩, rfl, ?_⟩
      refine ⟨?_, ws, ?_, ?_, ?_, by show z2.toNat < 4294967296; omega, ?_, ?_, ?_, ?_, ?_, ?_, by show y0.toNat < 65536; omega, ?_, B5⟩
      · rw [← at_, e0, es]
      · intro j u hu
        have hu' : (gb.map bv)[j]? = some u := hu
        rw [← hgb] at hu'
        have hj : j < 16 := by
          rcases Nat.lt_or_ge j 16 with h | h
          · exact h
          · rw [List.getElem?_eq_none (by omega)] at hu'; cases hu'
        rw [piece_at hj] at hu'
        rw [← at_]
        exact hu'
      · have := congrArg List.length hgb
        rw [hl16] at this
        simpa using this.symm
      · show cs[17]? = some (.int .u32 ((z2.toNat : Nat) : Int))
        rw [← at_, e2, ez, zz]
      · show cs[18]? = some (.int .u16 ((y0.toNat : Nat) : Int))
        rw [← at_, i0, e0', yy]
      · show cs[19]? = some (.int .u8 (((UInt8.ofNat y1.toNat).toNat : Nat) : Int))
        rw [← at_, i1, e1', byte_of_wf w1]
      · show cs[20]? = some (.int .u8 (((UInt8.ofNat y2.toNat).toNat : Nat) : Int))
        rw [← at_, i2, e2', byte_of_wf w2]
      · show cs[21]? = some (.int .u8 (((UInt8.ofNat y3.toNat).toNat : Nat) : Int))
        rw [← at_, i3, e3', byte_of_wf w3]
      · show cs[22]? = some (.int .u8 (((UInt8.ofNat y4.toNat).toNat : Nat) : Int))
        rw [← at_, i4, e4', byte_of_wf w4]
      · show cs[23]? = some (.int .u8 (((UInt8.ofNat y5.toNat).toNat : Nat) : Int))
        rw [← at_, i5, e5', byte_of_wf w5]
      · rw [← at_, e5]
end
/-- Are two spaces one? -/
theorem guid_same (gb gb' : List UInt8) (h : gb.length = 16) (h' : gb'.length = 16) (w : World) (d : Nat) : (Op.equalIn (d + 2) 27 (.agg (gb.map bv).toArray) (.agg (gb'.map bv).toArray)).run Tryd.prog w = .ok (decide (gb = gb')) w := by
  obtain ⟨i, hi⟩ : ∃ i, Tryd.prog.info? 5 = some i := by
    obtain ⟨i, hi, _⟩ := info_parts u8_info
    exact ⟨i, hi⟩
  rw [run_equalIn_array w (d + 1) _ _ Tryd.underlying27 hi]
  have c6 : Tryd.prog.cellsOf 5 = 1 := by kernel_rfl
  rw [c6]
  have key : ∀ is : List Nat, (∀ j ∈ is, j < 16) → (Op.eqItems (d + 1) 5 1 (gb.map bv).toArray (gb'.map bv).toArray is).run Tryd.prog w = .ok (is.all fun j => gb[j]? == gb'[j]?) w := by
    intro is
    induction is with
    | nil => intro _; simp [Op.eqItems]
    | cons j is ih =>
      intro hj
      have hj16 : j < 16 := hj j (by simp)
      have hi2 := ih (fun q hq => hj q (by simp [hq]))
      obtain ⟨p, hp⟩ : ∃ p, gb[j]? = some p := ⟨gb[j], List.getElem?_eq_getElem (by omega)⟩
      obtain ⟨q, hq⟩ : ∃ q, gb'[j]? = some q := ⟨gb'[j], List.getElem?_eq_getElem (by omega)⟩
      have e1 : (gb.map bv).toArray[j * 1]? = some (bv p) := by simp [hp]
      have e2 : (gb'.map bv).toArray[j * 1]? = some (bv q) := by simp [hq]
      have r1 := run_part_plain (P := Tryd.prog) w (e := 5) (by kernel_rfl) e1
      have r2 := run_part_plain (P := Tryd.prog) w (e := 5) (by kernel_rfl) e2
      have q1 : (Op.equalIn (d + 1) 5 (bv p) (bv q)).run Tryd.prog w = .ok (decide (p = q)) w := by
        simp [go_sem, Tryd.underlying5]
        rw [Bool.eq_iff_iff, beq_iff_eq, decide_eq_true_iff, u8_same]
      unfold Op.eqItems
      simp only [Sem.run_bind, r1, r2, Result.andThen_ok, q1]
      rw [List.all_cons, hp, hq]
      by_cases hpq : p = q
      · subst hpq
        simpa using hi2
      · have hne : (some p == some q) = false := by simpa using hpq
        rw [hne]
        simp [hpq]
  rw [key _ (by intro j hj; simpa using hj)]
  congr 1
  rw [Bool.eq_iff_iff, List.all_eq_true, decide_eq_true_iff]
  constructor
  · intro hall
    apply List.ext_getElem?
    intro j
    rcases Nat.lt_or_ge j 16 with hj | hj
    · exact beq_iff_eq.1 (hall j (by simpa using hj))
    · rw [List.getElem?_eq_none (by omega), List.getElem?_eq_none (by omega)]
  · intro he j _
    rw [he]
    simp
end Go.Proofs.YthmmipcfabijdaaDoor
