/-
  bank: Kill.
-/
import Derived.Test.YtkajlbdiofobcaaDoorBnK
namespace Go.Proofs.YtkajlbdiofobcaaDoor
open Go.RowKit Go
set_option linter.unusedVariables false
set_option linter.unusedSimpArgs false
set_option maxRecDepth 100000
/-- What Kill makes of a flash with power, and what it answers. -/
def KillIs (S : FS) (F C : Nat) (i : Int) (T : FS) (r : Int) : Prop :=
  ∃ l q, Scan (S.bank F C) l q ∧ ((¬ (0 ≤ i ∧ i < (l.length : Int)) ∧ T = S ∧ r = 1) ∨ ∃ (j : Nat) (p : Nat × RD), i = (j : Int) ∧ l[j]? = some p ∧ T = (progQ [248] (F * S.s + p.1) S).1 ∧ r = (progQ [248] (F * S.s + p.1) S).2)
def KillPost (w : World) (base b g a c : Nat) (S : FS) (F C : Nat) (i : Int) (e : Ending) (w' : World) : Prop :=
  ∃ T r, e = .returned (.int .i64 r) ∧ KillIs S F C i T r ∧ BK w' base b g a c T F C ∧ Far g a w w'
theorem flat4_at : ∀ (xs : List RV) (j : Nat) (x : RV), xs[j]? = some x → (xs.flatMap RV.cells)[j * 4]? = some (.int .i64 (x.at_ : Int)) ∧ (xs.flatMap RV.cells)[j * 4 + 1]? = some (.int .i64 (x.r.key : Int)) ∧ (xs.flatMap RV.cells)[j * 4 + 2]? = some (.slice x.A x.n x.c) ∧ (xs.flatMap RV.cells)[j * 4 + 3]? = some (.bool x.r.lives)
  | [], _, _, h => by cases h
  | y :: ys, 0, x, h => by
    injection h with h
    subst h
    exact ⟨rfl, rfl, rfl, rfl⟩
  | y :: ys, j + 1, x, h => by
    have ih := flat4_at ys j x h
    have hl : (RV.cells y).length = 4 := rfl
    rw [List.flatMap_cons, List.getElem?_append_right (by omega), List.getElem?_append_right (by omega), List.getElem?_append_right (by omega), List.getElem?_append_right (by omega), hl,
      show (j + 1) * 4 - 4 = j * 4 by omega, show (j + 1) * 4 + 1 - 4 = j * 4 + 1 by omega, show (j + 1) * 4 + 2 - 4 = j * 4 + 2 by omega, show (j + 1) * 4 + 3 - 4 = j * 4 + 3 by omega]
    exact ih
theorem rv_cell {W : World} {base G n c : Nat} {xs : List RV} (h : OwnR W base 85 4 (some ⟨G, 0, none⟩) n c (xs.flatMap RV.cells)) (j : Nat) (x : RV) (hx : xs[j]? = some x) :
    W.cell? ⟨G, j * 4, none⟩ = some (.int .i64 (x.at_ : Int)) ∧ W.cell? ⟨G, j * 4 + 1, none⟩ = some (.int .i64 (x.r.key : Int)) ∧ W.cell? ⟨G, j * 4 + 2, none⟩ = some (.slice x.A x.n x.c) ∧ W.cell? ⟨G, j * 4 + 3, none⟩ = some (.bool x.r.lives) := by
  obtain ⟨h1, h2, h3, h4⟩ := flat4_at xs j x hx
  have hl := cells_len4 xs
  have hj : j < xs.length := by
    rcases Nat.lt_or_ge j xs.length with hh | hh
    · exact hh
    · rw [List.getElem?_eq_none hh] at hx; cases hx
  have hn := h.len
  refine ⟨?_, ?_, ?_, ?_⟩
  · rw [World.ownsRow.cellAt h (j * 4) (by omega), h1]
  · rw [World.ownsRow.cellAt h (j * 4 + 1) (by omega), h2]
  · rw [World.ownsRow.cellAt h (j * 4 + 2) (by omega), h3]
  · rw [World.ownsRow.cellAt h (j * 4 + 3) (by omega), h4]
section
variable {base b g a c F C : Nat} {S : FS} {w : World}
set_option maxHeartbeats 4000000 in
theorem kill_any (ht : Tabs w) (hK : BK w base b g a c S F C) (hS : S.off = false) (i : Int) (hw : S.wr < 4611686018426387904) :
    Calls Tryd.prog 21 #[.pointer (some ⟨b, 0, none⟩), .int .i64 i] w (KillPost w base b g a c S F C i) := by
  have RDX := Lib.hid (read_any hK hS ht)
  have hlen := bank_len hK
  have hin := hK.in_
  have hbig := hK.fl.big
  have hglt := hK.fl.alt
  have halt : a < w.heap.size := (hK.fl.own.blk_lt rfl).2
  have H := Lib.hid hK
  have HS := Lib.hid hS
  have ST := Lib.hid (fun W (hb : Below w.heap.size w W) => start_any (hK.below hb))
  clear ht hK hS
  go_enter Tryd.func21, Tryd.ntmps21
  go_wp2_with fail
  refine RDX.out.mono ?_
  rintro e w1 ⟨A1, n1, c1, xs, q, rfl, hSc, hO1, hB1, hb1⟩
  have hn1 : n1 = xs.length := by have h1 := hO1.len; rw [cells_len4] at h1; omega
  have hml : (xs.map RV.pair).length = xs.length := List.length_map ..
  have HK1 : Hid (BK w1 base b g a c S F C) := H.out.below hb1
  have FR1 : Hid (Far g a w w1) := .of_below hb1
  have HSC := Lib.hid hSc
  by_cases hno : ¬ (0 ≤ i ∧ i < (n1 : Int))
  · have FIN : Hid (KillPost w base b g a c S F C i (.returned (.int .i64 1)) w1) := ⟨S, 1, rfl, ⟨_, q, HSC.out, .inl ⟨by rw [hml, ← hn1]; exact hno, rfl, rfl⟩⟩, HK1.out, FR1.out⟩
    clear hSc hO1 hB1 RDX hlen hin hbig hml hn1
    by_cases hneg : i < 0
    · have t1 : decide (i < 0) = true := decide_eq_true hneg
      clear hno
      go_wp2
      go_ret
      exact FIN.out
    · have t1 : decide (i < 0) = false := decide_eq_false hneg
      have hge : (n1 : Int) ≤ i := by omega
      have t2 : decide (i ≥ (n1 : Int)) = true := decide_eq_true hge
      have t3 : decide ((n1 : Int) ≤ i) = true := decide_eq_true hge
      clear hno
      go_wp2
      go_ret
      exact FIN.out
  · obtain ⟨h0, h1⟩ : 0 ≤ i ∧ i < (n1 : Int) := Classical.not_not.1 hno
    clear hno
    obtain ⟨j, rfl⟩ := Int.eq_ofNat_of_zero_le h0
    have hj : j < xs.length := by omega
    obtain ⟨x, hx⟩ : ∃ x, xs[j]? = some x := ⟨_, List.getElem?_eq_getElem hj⟩
    obtain ⟨G1, rfl, hg1, hgl1⟩ := hO1.shape (by have := hO1.cap.1; omega)
    obtain ⟨e0, e1, e2, e3⟩ := rv_cell hO1 j x hx
    have hmem : (x.at_, x.r) ∈ xs.map RV.pair := List.mem_map.2 ⟨x, List.mem_of_getElem? hx, rfl⟩
    have hat : x.at_ + x.r.len ≤ (S.bank F C).length := (hSc.got.mem (by have := HK1.out.cs; omega) _ hmem).2.2.2
    have hl12 : 1 ≤ x.r.len := by unfold RD.len; omega
    have hpj : (xs.map RV.pair)[j]? = some (x.at_, x.r) := by rw [List.getElem?_map, hx]; rfl
    have FINK : Hid (∀ w', BK w' base b g a c (progQ [248] (F * S.s + x.at_) S).1 F C → Far g a w w' → KillPost w base b g a c S F C (j : Int) (.returned (.int .i64 (progQ [248] (F * S.s + x.at_) S).2)) w') := fun w' k1 k2 =>
      ⟨_, _, rfl, ⟨_, q, HSC.out, .inr ⟨j, (x.at_, x.r), rfl, hpj, rfl, rfl⟩⟩, k1, k2⟩
    have i0 : ¬ ((j : Int) < 0) := by omega
    have t1 : decide ((j : Int) < 0) = false := decide_eq_false i0
    have i1 : ¬ ((n1 : Int) ≤ (j : Int)) := by omega
    have t2 : decide ((j : Int) ≥ (n1 : Int)) = false := decide_eq_false i1
    have t3 : decide ((n1 : Int) ≤ (j : Int)) = false := decide_eq_false i1
    have hjn : j < n1 := by omega
    have PR : Hid (∀ (W : World) (G : Nat), FL W base g a c S → W.heap[G]? = some (.cells #[.int .u8 248] 5) → w.heap.size ≤ G → Calls Tryd.prog 34 #[.pointer (some ⟨g, 0, none⟩), .int .i64 (((F * S.s : Nat) : Int) + (x.at_ : Int)), .slice (some ⟨G, 0, none⟩) 1 1] W
        fun e w' => e = .returned (.int .i64 (progQ [248] (F * S.s + x.at_) S).2) ∧ FL w' base g a c (progQ [248] (F * S.s + x.at_) S).1 ∧ Far g a W w') := fun W G hF hG hlt => by
      have h := fprogram_any hF HS.out (F * S.s + x.at_) 1 1 _ [248] (rb_one hG) (fun _ d hd => by injection hd with hd; subst hd; exact ⟨by simp only; omega, by simp only; omega⟩) (.inr (by omega)) (by omega) (by omega)
      rw [show ((F * S.s + x.at_ : Nat) : Int) = ((F * S.s : Nat) : Int) + (x.at_ : Int) from by push_cast; rfl] at h
      exact h
    have ea : IntKind.i64.wrap (((F * S.s : Nat) : Int) + (x.at_ : Int)) = ((F * S.s : Nat) : Int) + (x.at_ : Int) := IntWalk.i64_in _ (by omega)
    obtain ⟨N0, hN⟩ : ∃ N0, F * S.s = N0 := ⟨_, rfl⟩
    rw [hN] at PR ST FINK ea
    have KEEP : Hid (∀ V, Far g a w1 V → (V.cell? ⟨b, 0, none⟩ = some (.pointer (some ⟨g, 0, none⟩)) ∧ V.cell? ⟨G1, j * 4, none⟩ = some (.int .i64 (x.at_ : Int))) ∧ Far g a w1 V) := fun V hV => by
      obtain ⟨a1, a2, a3⟩ := cells_3 (hV.has HK1.out.bk HK1.out.bg HK1.out.ba)
      exact ⟨⟨a1, (World.cell?_of_block (hV.block G1 hgl1 (by omega) (by omega))).trans e0⟩, hV⟩
    have F0 := Lib.hid (Far.refl g a w1)
    have BL1 := Lib.hid hb1
    have hsz1 := hb1.size
    clear hSc hO1 hB1 RDX hlen hin hbig hml hmem hat hl12 hpj hN e1 e2 e3 hb1 hx
    go_wp2_with fail
    go_region_held3 (fun V => (V.cell? ⟨b, 0, none⟩ = some (.pointer (some ⟨g, 0, none⟩)) ∧ V.cell? ⟨G1, j * 4, none⟩ = some (.int .i64 (x.at_ : Int))) ∧ Far g a w1 V)
      ((apply KEEP.out; repeat (with_reducible (first | assumption | exact F0.out | refine Far.drew ?_ | refine Far.alloc ?_ _))))
      (first
        | (go_at_call 39; (with_reducible refine (ST.out _ (by repeat (first | exact BL1.out | refine kp_drew ?_ | refine kp_alloc ?_ _))).mono ?_); (rintro e X1 ⟨rfl, hb2⟩; have f1 : Far g a w1 X1 := (by first | exact ((F0.out.alloc _).drew).trans (.of_below hb2) | exact F0.out.drew.trans (.of_below hb2))))
        | (go_at_call 34; (with_reducible refine (PR.out _ _ (by first | exact (((HK1.out.fl.alloc _).drew).below hb2) | exact ((HK1.out.fl.drew).below hb2).alloc _) (by first | exact has_below (has_drew (has_new _ _)) hb2 | exact has_new _ _) (by first | exact hsz1 | exact Nat.le_trans hsz1 f1.size)).mono ?_); (rintro e X2 ⟨rfl, hF2, hb3⟩; have f2 : Far g a w1 X2 := (by first | exact f1.trans hb3 | exact (f1.alloc _).trans hb3))))
    all_goals
      have KF : Hid (BK X2 base b g a c (progQ [248] (N0 + x.at_) S).1 F C) := by
        obtain ⟨q1, q2, q3⟩ := progQ_kept [248] (N0 + x.at_) S
        exact HK1.out.next hF2 q1 q2 f2
      have FF : Hid (Far g a w X2) := FR1.out.trans f2
      clear hF2 f2 hb3 hb2 f1
      go_wp2
      go_ret
      exact FINK.out _ KF.out FF.out
end
end Go.Proofs.YtkajlbdiofobcaaDoor
