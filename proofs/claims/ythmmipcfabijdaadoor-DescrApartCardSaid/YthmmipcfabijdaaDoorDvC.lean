/-
  descr: the statement on texts that are apart.
-/
import Derived.Test.YthmmipcfabijdaaDoorDvB
namespace Go.Proofs.YthmmipcfabijdaaDoor
open Go.RowKit Go
set_option linter.unusedVariables false
set_option maxRecDepth 100000
attribute [local go_sem ↓] Go.wp_at_zero Go.wp_at_succ
theorem toL (s : ByteArray) : s.toList = s.data.toList := by
  conv => lhs; rw [← strOf_eq s]
  rw [strOf_toList]
theorem list16 (l : List UInt8) (h : l.length = 16) : ∃ p0 p1 p2 p3 p4 p5 p6 p7 p8 p9 p10 p11 p12 p13 p14 p15, l = [p0, p1, p2, p3, p4, p5, p6, p7, p8, p9, p10, p11, p12, p13, p14, p15] := by
  match l, h with
  | [p0, p1, p2, p3, p4, p5, p6, p7, p8, p9, p10, p11, p12, p13, p14, p15], _ => exact ⟨_, _, _, _, _, _, _, _, _, _, _, _, _, _, _, _, rfl⟩
theorem text_len {nm g : List UInt8} {a : Nat} {t : Tm} {da : List UInt8} (hn : nm.all letter = true) (hg : g.length = 16) : (textL nm g a t da).length = 2 * nm.length + 36 + da.length := by
  unfold textL wideS
  rw [if_pos hn]
  simp only [List.length_append, widen_len, leB_len, tmB_len, hg]
def fine (q : UInt8) : Bool := decide (33 ≤ q.toNat ∧ q.toNat ≤ 126)
theorem fine_letter {q : UInt8} (h : fine q = true) : letter q = true := by
  unfold fine at h
  have := of_decide_eq_true h
  unfold letter
  exact decide_eq_true (by omega)
theorem all_fine {s : ByteArray} (h : ∀ i (hi : i < s.size), fine (s[i]'hi) = true) : s.data.toList.all letter = true := by
  rw [List.all_eq_true]
  intro q hq
  obtain ⟨i, hi, he⟩ := List.getElem_of_mem hq
  have hs : i < s.size := by simpa using hi
  have := fine_letter (h i hs)
  rw [← he]
  exact this
set_option maxHeartbeats 32000000 in
theorem apart_walk (cs1 : Array Value) (nm1 : ByteArray) (gb1 : List UInt8) (a1 : Nat) (t1 : Tm) (D1 : Option Addr) (dn1 dc1 : Nat) (db1 : List UInt8) (cs2 : Array Value) (nm2 : ByteArray) (gb2 : List UInt8) (a2 : Nat) (t2 : Tm) (D2 : Option Addr) (dn2 dc2 : Nat) (db2 : List UInt8) (w : World) (hv1 : IsVr w ⟨cs1, nm1, gb1, a1, t1, D1, dn1, dc1, db1⟩) (hv2 : IsVr w ⟨cs2, nm2, gb2, a2, t2, D2, dn2, dc2, db2⟩) (hT : Sizes w) (h64 : nm1.size ≤ 64) (hnn : nm1.size ≤ nm2.size) (hnn2 : nm2.size ≤ nm1.size) (hdd : dn1 ≤ dn2) (hdd2 : dn2 ≤ dn1) (hd1 : dn1 ≤ 4096) :
    Calls Tryd.prog 6 #[.agg cs1, .agg cs2] w fun e w' => e = .returned (.bool true) ∧ Below w.heap.size w w' := by
  have WK := Lib.hid (fun W (h : Sizes W) => works_any W h)
  have d1 : decide (64 < (nm1.size : Int)) = false := decide_eq_false (by omega)
  have d2 : decide (4096 < (dn1 : Int)) = false := decide_eq_false (by omega)
  have d3 : ((nm1.size : Int) == (nm2.size : Int)) = true := beq_iff_eq.2 (by omega)
  have d4 : ((dn1 : Int) == (dn2 : Int)) = true := beq_iff_eq.2 (by omega)
  have d5 : ((nm1.size : Int) != (nm2.size : Int)) = false := by rw [bne, d3]; rfl
  have d6 : ((dn1 : Int) != (dn2 : Int)) = false := by rw [bne, d4]; rfl
  have hR1 := hv1.db.rb
  have hg1 : gb1.length = 16 := hv1.gl
  have hy1 : t1.y < 65536 := hv1.ty
  have ha1 : a1 < 4294967296 := hv1.al
  have VA1 := Lib.hid (fun (W : World) (g : Nat) (fr : Nat × Nat) (hk : W.heap[g]? = some (Obj.cells cs1 43 fr)) => vc_of hv1 hk)
  have RA1 := Lib.hid (fun W h => vright_any t1 W h hy1)
  have TD1 := Lib.hid (fun W (h : Below w.heap.size w W) => twin_any D1 dn1 dc1 db1 W (hR1.below h) (by omega))
  have TX1 := fun D d W hs hD => dtext_any nm1 gb1 a1 t1 D dn1 d db1 W hs (by omega) hg1 ha1 hy1 hD (by omega)
  have HDL1 := Lib.hid hR1.1
  have hi1 : (Tryd.prog.info? 27).map (·.size) = some (gb1.map bv).length := by rw [List.length_map, hg1]; kernel_rfl
  simp only [gV] at TX1
  have n1 := hv1.nm
  have s1 := hv1.d
  have z10 := hv1.t0
  have z11 := hv1.t1
  have z12 := hv1.t2
  have z13 := hv1.t3
  have z14 := hv1.t4
  have z15 := hv1.t5
  simp only at n1 s1 z10 z11 z12 z13 z14 z15
  have hR2 := hv2.db.rb
  have hg2 : gb2.length = 16 := hv2.gl
  have hy2 : t2.y < 65536 := hv2.ty
  have ha2 : a2 < 4294967296 := hv2.al
  have VA2 := Lib.hid (fun (W : World) (g : Nat) (fr : Nat × Nat) (hk : W.heap[g]? = some (Obj.cells cs2 43 fr)) => vc_of hv2 hk)
  have RA2 := Lib.hid (fun W h => vright_any t2 W h hy2)
  have TD2 := Lib.hid (fun W (h : Below w.heap.size w W) => twin_any D2 dn2 dc2 db2 W (hR2.below h) (by omega))
  have TX2 := fun D d W hs hD => dtext_any nm2 gb2 a2 t2 D dn2 d db2 W hs (by omega) hg2 ha2 hy2 hD (by omega)
  have HDL2 := Lib.hid hR2.1
  have hi2 : (Tryd.prog.info? 27).map (·.size) = some (gb2.map bv).length := by rw [List.length_map, hg2]; kernel_rfl
  simp only [gV] at TX2
  have n2 := hv2.nm
  have s2 := hv2.d
  have z20 := hv2.t0
  have z21 := hv2.t1
  have z22 := hv2.t2
  have z23 := hv2.t3
  have z24 := hv2.t4
  have z25 := hv2.t5
  simp only at n2 s2 z20 z21 z22 z23 z24 z25
  have hu := Tryd.underlying27
  have HTS : Hid (∀ (h1 : nm1.data.toList.all letter = true) (h2 : nm2.data.toList.all letter = true), (textL nm1.data.toList gb1 a1 t1 db1 = textL nm2.data.toList gb2 a2 t2 db2) = (nm1.data.toList = nm2.data.toList ∧ gb1 = gb2 ∧ a1 = a2 ∧ t1 = t2 ∧ db1 = db2)) := fun h1 h2 => text_same h1 h2 (by simp; omega) hg1 hg2 ha1 ha2 hy1 hy2
  have HTL1 := Lib.hid (fun h1 => text_len (nm := nm1.data.toList) (g := gb1) (a := a1) (t := t1) (da := db1) h1 hg1)
  have HTL2 := Lib.hid (fun h1 => text_len (nm := nm2.data.toList) (g := gb2) (a := a2) (t := t2) (da := db2) h1 hg2)
  generalize textL nm1.data.toList gb1 a1 t1 db1 = tl1 at *
  generalize textL nm2.data.toList gb2 a2 t2 db2 = tl2 at *
  have SM := Lib.hid same_any
  have HTX1 := Lib.hid TX1
  clear TX1 hv1
  have TX1 := HTX1
  clear HTX1
  have HTX2 := Lib.hid TX2
  clear TX2 hv2
  have TX2 := HTX2
  clear HTX2
  clear d3 d4
  obtain ⟨y1, mo1, dd1, hh1, mi1, ss1⟩ := t1
  obtain ⟨y2, mo2, dd2, hh2, mi2, ss2⟩ := t2
  simp only [tmV, Tm.cells] at *
  have HB0 : Hid (Below w.heap.size w ((w.alloc (.cells cs1 43)).alloc (.cells cs2 43))) := ((Below.refl _ _).alloc (Nat.le_refl _) _).alloc (by simp) _
  go_enter Tryd.func6, Tryd.ntmps6
  go_wp2
  go_loop [5] (fun x => ∃ k : Nat, k ≤ nm1.size ∧ x = .int .i64 k ∧ Hid (∀ i (h1 : i < nm1.size) (h2 : i < nm2.size), i < k → fine (nm1[i]'h1) = true ∧ fine (nm2[i]'h2) = true)) (fun x => nm1.size - (intOf x).toNat)
  case atStart => exact ⟨0, Nat.zero_le _, rfl, fun i _ _ h => absurd h (Nat.not_lt_zero _)⟩
  case round =>
    obtain ⟨k, hk, rfl, hfine⟩ := hrel
    by_cases hlt : k < nm1.size
    · have hlt2 : k < nm2.size := by omega
      have u1 := (nm1[k]'hlt).toNat_lt
      have u2 := (nm2[k]'hlt2).toNat_lt
      by_cases c1 : (nm1[k]'hlt).toNat < 33
      · have f1 : decide (((nm1[k]'hlt).toNat : Int) < 33) = true := decide_eq_true (by omega)
        clear c1
        go_wp2_with fail
        refine (WK.out _ (hT.below' HB0.out)).mono ?_
        rintro e w9 ⟨rfl, hb9⟩
        go_wp2
        go_ret
        exact ⟨rfl, HB0.out.trans (hb9.mono HB0.out.size)⟩
      have f1 : decide (((nm1[k]'hlt).toNat : Int) < 33) = false := decide_eq_false (by omega)
      by_cases c2 : 126 < (nm1[k]'hlt).toNat
      · have f2 : decide (126 < ((nm1[k]'hlt).toNat : Int)) = true := decide_eq_true (by omega)
        clear c1 c2
        go_wp2_with fail
        refine (WK.out _ (hT.below' HB0.out)).mono ?_
        rintro e w9 ⟨rfl, hb9⟩
        go_wp2
        go_ret
        exact ⟨rfl, HB0.out.trans (hb9.mono HB0.out.size)⟩
      have f2 : decide (126 < ((nm1[k]'hlt).toNat : Int)) = false := decide_eq_false (by omega)
      by_cases c3 : (nm2[k]'hlt2).toNat < 33
      · have f3 : decide (((nm2[k]'hlt2).toNat : Int) < 33) = true := decide_eq_true (by omega)
        clear c1 c2 c3
        go_wp2_with fail
        refine (WK.out _ (hT.below' HB0.out)).mono ?_
        rintro e w9 ⟨rfl, hb9⟩
        go_wp2
        go_ret
        exact ⟨rfl, HB0.out.trans (hb9.mono HB0.out.size)⟩
      have f3 : decide (((nm2[k]'hlt2).toNat : Int) < 33) = false := decide_eq_false (by omega)
      by_cases c4 : 126 < (nm2[k]'hlt2).toNat
      · have f4 : decide (126 < ((nm2[k]'hlt2).toNat : Int)) = true := decide_eq_true (by omega)
        clear c1 c2 c3 c4
        go_wp2_with fail
        refine (WK.out _ (hT.below' HB0.out)).mono ?_
        rintro e w9 ⟨rfl, hb9⟩
        go_wp2
        go_ret
        exact ⟨rfl, HB0.out.trans (hb9.mono HB0.out.size)⟩
      have f4 : decide (126 < ((nm2[k]'hlt2).toNat : Int)) = false := decide_eq_false (by omega)
      have hf2 : Hid (∀ i (h1 : i < nm1.size) (h2 : i < nm2.size), i < k + 1 → fine (nm1[i]'h1) = true ∧ fine (nm2[i]'h2) = true) := fun i h1 h2 hi9 => by
        rcases Nat.lt_or_ge i k with h | h
        · exact hfine.out i h1 h2 h
        · obtain rfl : i = k := by omega
          exact ⟨decide_eq_true ⟨by omega, by omega⟩, decide_eq_true ⟨by omega, by omega⟩⟩
      clear c1 c2 c3 c4 hfine
      go_wp2
      go_round
      case rel => exact ⟨k + 1, by omega, by go_num, hf2⟩
      case measure => simp [intOf]; omega
    · have hl1 : Hid (nm1.data.toList.all letter = true) := all_fine fun i hi9 => (hfine.out i hi9 (by omega) (by omega)).1
      have hl2 : Hid (nm2.data.toList.all letter = true) := all_fine fun i hi9 => (hfine.out i (by omega) hi9 (by omega)).2
      clear hfine
      go_wp2_with fail
      refine calls_named fun w0 hw0 => ?_
      have hbw0 : Below w.heap.size w w0 := hw0 ▸ HB0.out
      have hs0 := hbw0.size
      have k0 : w0.heap[w.heap.size]? = some (.cells cs1 43) := by subst hw0; exact heap_alloc2_old w _ _
      have q0 : w0.heap[w.heap.size + 1]? = some (.cells cs2 43) := by subst hw0; exact heap_alloc2_new w _ _
      clear hw0 HB0 n1 n2 s1 s2 z10 z11 z12 z13 z14 z15 z20 z21 z22 z23 z24 z25
      refine (RA1.out w0 (hT.below' hbw0)).mono ?_
      intro e w1 hw1
      obtain ⟨rfl, hb1⟩ := hw1
      have hbw1 := hbw0.trans (hb1.mono hs0)
      have hs1 := hbw1.size
      have k1 := (hb1.block _ (heap_lt k0)).trans k0
      have q1 := (hb1.block _ (heap_lt q0)).trans q0
      have hz1 : w0.heap.size ≤ w1.heap.size := hb1.size
      clear hb1 k0 q0
      by_cases hr1 : rightB ⟨y1, mo1, dd1, hh1, mi1, ss1⟩ = false
      · rw [hr1]
        go_wp2_with fail
        refine (WK.out _ (hT.below' hbw1)).mono ?_
        rintro e w9 ⟨rfl, hb9⟩
        go_wp2
        go_ret
        exact ⟨rfl, hbw1.trans (hb9.mono hs1)⟩
      rw [show rightB ⟨y1, mo1, dd1, hh1, mi1, ss1⟩ = true by simpa using hr1]
      have V1 := VA2.out w1 _ _ q1
      obtain ⟨x0, x17, x18, x19, x20, x21, x22, x23, x56, xr⟩ := V1
      simp only at x0 x17 x18 x19 x20 x21 x22 x23 x56
      clear hr1 xr
      go_wp2_with fail
      refine (RA2.out w1 (hT.below' hbw1)).mono ?_
      intro e w2 hw2
      obtain ⟨rfl, hb2⟩ := hw2
      have hbw2 := hbw1.trans (hb2.mono hs1)
      have hs2 := hbw2.size
      have k2 := (hb2.block _ (heap_lt k1)).trans k1
      have q2 := (hb2.block _ (heap_lt q1)).trans q1
      have hz2 : w1.heap.size ≤ w2.heap.size := hb2.size
      clear hb2 k1 q1
      by_cases hr2 : rightB ⟨y2, mo2, dd2, hh2, mi2, ss2⟩ = false
      · rw [hr2]
        go_wp2_with fail
        refine (WK.out _ (hT.below' hbw2)).mono ?_
        rintro e w9 ⟨rfl, hb9⟩
        go_wp2
        go_ret
        exact ⟨rfl, hbw2.trans (hb9.mono hs2)⟩
      rw [show rightB ⟨y2, mo2, dd2, hh2, mi2, ss2⟩ = true by simpa using hr2]
      clear hr2 x0 x17 x18 x19 x20 x21 x22 x23 x56
      have KEEP1 : Hid (∀ W, K2 w2 w.heap.size (.cells cs1 43) (.cells cs2 43) W → (W.cell? ⟨w.heap.size, 0, none⟩ = some (.string nm1) ∧ W.cell? ⟨w.heap.size, 17, none⟩ = some (.int .u32 (a1 : Int)) ∧ W.cell? ⟨w.heap.size, 18, none⟩ = some (.int .u16 (y1 : Int)) ∧ W.cell? ⟨w.heap.size, 19, none⟩ = some (.int .u8 (mo1.toNat : Int)) ∧ W.cell? ⟨w.heap.size, 20, none⟩ = some (.int .u8 (dd1.toNat : Int)) ∧ W.cell? ⟨w.heap.size, 21, none⟩ = some (.int .u8 (hh1.toNat : Int)) ∧ W.cell? ⟨w.heap.size, 22, none⟩ = some (.int .u8 (mi1.toNat : Int)) ∧ W.cell? ⟨w.heap.size, 23, none⟩ = some (.int .u8 (ss1.toNat : Int)) ∧ W.cell? ⟨w.heap.size, 56, none⟩ = some (.slice D1 dn1 dc1)) ∧ W.rangeAt w.heap.size 1 (gb1.map bv) ∧ K2 w2 w.heap.size (.cells cs1 43) (.cells cs2 43) W) := fun W h => by
        have V := VA1.out W _ _ h.h1
        exact ⟨⟨V.c0, V.c17, V.c18, V.c19, V.c20, V.c21, V.c22, V.c23, V.c56⟩, V.rg, h⟩
      have KEEP2 : Hid (∀ W, K2 w2 w.heap.size (.cells cs1 43) (.cells cs2 43) W → (W.cell? ⟨(w.heap.size + 1), 0, none⟩ = some (.string nm2) ∧ W.cell? ⟨(w.heap.size + 1), 17, none⟩ = some (.int .u32 (a2 : Int)) ∧ W.cell? ⟨(w.heap.size + 1), 18, none⟩ = some (.int .u16 (y2 : Int)) ∧ W.cell? ⟨(w.heap.size + 1), 19, none⟩ = some (.int .u8 (mo2.toNat : Int)) ∧ W.cell? ⟨(w.heap.size + 1), 20, none⟩ = some (.int .u8 (dd2.toNat : Int)) ∧ W.cell? ⟨(w.heap.size + 1), 21, none⟩ = some (.int .u8 (hh2.toNat : Int)) ∧ W.cell? ⟨(w.heap.size + 1), 22, none⟩ = some (.int .u8 (mi2.toNat : Int)) ∧ W.cell? ⟨(w.heap.size + 1), 23, none⟩ = some (.int .u8 (ss2.toNat : Int)) ∧ W.cell? ⟨(w.heap.size + 1), 56, none⟩ = some (.slice D2 dn2 dc2)) ∧ W.rangeAt (w.heap.size + 1) 1 (gb2.map bv) ∧ K2 w2 w.heap.size (.cells cs1 43) (.cells cs2 43) W) := fun W h => by
        have V := VA2.out W _ _ h.h2
        exact ⟨⟨V.c0, V.c17, V.c18, V.c19, V.c20, V.c21, V.c22, V.c23, V.c56⟩, V.rg, h⟩
      have K0 : K2 w2 w.heap.size (.cells cs1 43) (.cells cs2 43) w2 := ⟨Below.refl _ _, k2, q2⟩
      have HBW := Lib.hid (fun W (h : Below w2.heap.size w2 W) => hbw2.trans (h.mono hs2))
      have HTW := Lib.hid (fun W (h : Below w2.heap.size w2 W) => hT.below' (hbw2.trans (h.mono hs2)))
      clear k2 q2 hbw2
      go_wp2
      refine wp_region_noPanic ?_
      refine wp_region_held_drew (S := fun W => (W.cell? ⟨w.heap.size, 0, none⟩ = some (.string nm1) ∧ W.cell? ⟨w.heap.size, 17, none⟩ = some (.int .u32 (a1 : Int)) ∧ W.cell? ⟨w.heap.size, 18, none⟩ = some (.int .u16 (y1 : Int)) ∧ W.cell? ⟨w.heap.size, 19, none⟩ = some (.int .u8 (mo1.toNat : Int)) ∧ W.cell? ⟨w.heap.size, 20, none⟩ = some (.int .u8 (dd1.toNat : Int)) ∧ W.cell? ⟨w.heap.size, 21, none⟩ = some (.int .u8 (hh1.toNat : Int)) ∧ W.cell? ⟨w.heap.size, 22, none⟩ = some (.int .u8 (mi1.toNat : Int)) ∧ W.cell? ⟨w.heap.size, 23, none⟩ = some (.int .u8 (ss1.toNat : Int)) ∧ W.cell? ⟨w.heap.size, 56, none⟩ = some (.slice D1 dn1 dc1)) ∧ W.rangeAt w.heap.size 1 (gb1.map bv) ∧ K2 w2 w.heap.size (.cells cs1 43) (.cells cs2 43) W) (by kernel_rfl) (KEEP1.out _ K0.drew) (fun hHeld => ?_)
      refine wpAnyH_take (i := 0) (oi := _) (v := ?_) rfl (by kernel_rfl) (by kernel_rfl) (by kernel_rfl) (fun _ _ _ h => h) (Or.inl ⟨by rfl, ?_⟩) hHeld ?_
      rotate_left
      · (intro w hSw; (try dsimp only at hSw); go_simp; (try with_reducible rfl))
      try simp only [Act.put, List.setIfInBounds_toArray]
      refine wpAnyH_take (i := 1) (oi := _) (v := ?_) rfl (by kernel_rfl) (by kernel_rfl) (by kernel_rfl) (fun _ _ _ h => h) (Or.inl ⟨by rfl, ?_⟩) hHeld ?_
      rotate_left
      · (intro w hSw; (try dsimp only at hSw); go_simp; (try with_reducible rfl))
      try simp only [Act.put]
      refine wpAnyH_take (i := 2) (oi := _) (v := ?_) rfl (by kernel_rfl) (by kernel_rfl) (by kernel_rfl) (fun _ _ _ h => h) (Or.inl ⟨by rfl, ?_⟩) hHeld ?_
      rotate_left
      · (intro w hSw; (try dsimp only at hSw); go_simp; (try with_reducible rfl))
      try simp only [Act.put]
      refine wpAnyH_take (i := 3) (oi := _) (v := _) rfl (by kernel_rfl) (by kernel_rfl) (by kernel_rfl) (fun _ _ _ h => h) (yieldsIf_load_mid (by rfl) _ _ rfl _ _ rfl (gb1.map bv) (.array 16 5) (fun w hSw => hSw.2.1) hu rfl hi1) hHeld ?_
      try simp only [Act.put]
      refine wpAnyH_take (i := 4) (oi := _) (v := ?_) rfl (by kernel_rfl) (by kernel_rfl) (by kernel_rfl) (fun _ _ _ h => h) (Or.inl ⟨by rfl, ?_⟩) hHeld ?_
      rotate_left
      · (intro w hSw; (try dsimp only at hSw); go_simp; (try with_reducible rfl))
      try simp only [Act.put]
      refine wpAnyH_take (i := 5) (oi := _) (v := ?_) rfl (by kernel_rfl) (by kernel_rfl) (by kernel_rfl) (fun _ _ _ h => h) (Or.inl ⟨by rfl, ?_⟩) hHeld ?_
      rotate_left
      · (intro w hSw; (try dsimp only at hSw); go_simp; (try with_reducible rfl))
      try simp only [Act.put]
      refine wpAnyH_take (i := 6) (oi := _) (v := ?_) rfl (by kernel_rfl) (by kernel_rfl) (by kernel_rfl) (fun _ _ _ h => h) (Or.inl ⟨by rfl, ?_⟩) hHeld ?_
      rotate_left
      · (intro w hSw; (try dsimp only at hSw); go_simp; (try with_reducible rfl))
      try simp only [Act.put]
      refine wpAnyH_take (i := 7) (oi := _) (v := ?_) rfl (by kernel_rfl) (by kernel_rfl) (by kernel_rfl) (fun _ _ _ h => h) (Or.inl ⟨by rfl, ?_⟩) hHeld ?_
      rotate_left
      · (intro w hSw; (try dsimp only at hSw); go_simp; (try with_reducible rfl))
      try simp only [Act.put]
      refine wpAnyH_take (i := 8) (oi := _) (v := ?_) rfl (by kernel_rfl) (by kernel_rfl) (by kernel_rfl) (fun _ _ _ h => h) (Or.inl ⟨by rfl, ?_⟩) hHeld ?_
      rotate_left
      · (intro w hSw; (try dsimp only at hSw); go_simp; (try with_reducible rfl))
      try simp only [Act.put]
      refine wpAnyH_take (i := 9) (oi := _) (v := ?_) rfl (by kernel_rfl) (by kernel_rfl) (by kernel_rfl) (fun _ _ _ h => h) (Or.inl ⟨by rfl, ?_⟩) hHeld ?_
      rotate_left
      · (intro w hSw; (try dsimp only at hSw); go_simp; (try with_reducible rfl))
      try simp only [Act.put]
      refine wpAnyH_ready (rs := [10]) (by kernel_rfl) (by simp) ?_
      refine AllReadyH.cons (o := _) rfl (fun K hK => ?_) AllReadyH.nil
      go_simp
      (with_reducible refine (TD1.out _ (HBW.out _ hHeld.2.2.b)).mono ?_)
      rintro e X4 ⟨A4, m4, c4, rfl, ow4, hb4⟩
      obtain rfl : dn1 = m4 := HDL1.out.symm.trans ow4.len
      have KK4 := Lib.hid (K2.call (w := w2) (g := w.heap.size) (o1 := (.cells cs1 43)) (o2 := (.cells cs2 43)) hHeld.2.2 hb4)
      have O4 := Lib.hid ow4
      skip
      clear ow4 hb4 hHeld
      go_wp2_with fail
      refine hK.out _ _ ?_ (fun hHeld => ?_)
      · exact KEEP1.out _ KK4.out
      clear hK K
      try simp only [Act.put, List.setIfInBounds_toArray, List.set_cons_zero, List.set_cons_succ]
      refine wpAnyH_ready (rs := [11]) (by kernel_rfl) (by simp) ?_
      refine AllReadyH.cons (o := _) rfl (fun K hK => ?_) AllReadyH.nil
      go_simp
      (with_reducible refine (TX1.out _ _ _ (HTW.out _ hHeld.2.2.b) O4.out.rb).mono ?_)
      rintro e X5 ⟨A5, m5, c5, rfl, ow5, hb5⟩
      have KK5 := Lib.hid (K2.call (w := w2) (g := w.heap.size) (o1 := (.cells cs1 43)) (o2 := (.cells cs2 43)) hHeld.2.2 hb5)
      have O5 := Lib.hid ow5
      skip
      clear ow5 hb5 hHeld
      go_wp2_with fail
      refine hK.out _ _ ?_ (fun hHeld => ?_)
      · exact KEEP1.out _ KK5.out
      clear hK K
      try simp only [Act.put, List.setIfInBounds_toArray, List.set_cons_zero, List.set_cons_succ]
      refine wpAnyH_take (i := 12) (oi := _) (v := ?_) rfl (by kernel_rfl) (by kernel_rfl) (by kernel_rfl) (fun _ _ _ h => h) (Or.inl ⟨by rfl, ?_⟩) hHeld ?_
      rotate_left
      · (intro w hSw; (try dsimp only at hSw); go_simp; (try with_reducible rfl))
      try simp only [Act.put, List.setIfInBounds_toArray]
      simp only [List.set_cons_zero, List.set_cons_succ, List.getElem_toArray, List.getElem_cons_succ, List.getElem_cons_zero]
      refine wpAnyH_done (by kernel_rfl) ?_ _
      refine NoPanic.normal ?_
      go_wp2
      refine wp_region_noPanic ?_
      refine wp_region_held_drew (S := fun W => (W.cell? ⟨(w.heap.size + 1), 0, none⟩ = some (.string nm2) ∧ W.cell? ⟨(w.heap.size + 1), 17, none⟩ = some (.int .u32 (a2 : Int)) ∧ W.cell? ⟨(w.heap.size + 1), 18, none⟩ = some (.int .u16 (y2 : Int)) ∧ W.cell? ⟨(w.heap.size + 1), 19, none⟩ = some (.int .u8 (mo2.toNat : Int)) ∧ W.cell? ⟨(w.heap.size + 1), 20, none⟩ = some (.int .u8 (dd2.toNat : Int)) ∧ W.cell? ⟨(w.heap.size + 1), 21, none⟩ = some (.int .u8 (hh2.toNat : Int)) ∧ W.cell? ⟨(w.heap.size + 1), 22, none⟩ = some (.int .u8 (mi2.toNat : Int)) ∧ W.cell? ⟨(w.heap.size + 1), 23, none⟩ = some (.int .u8 (ss2.toNat : Int)) ∧ W.cell? ⟨(w.heap.size + 1), 56, none⟩ = some (.slice D2 dn2 dc2)) ∧ W.rangeAt (w.heap.size + 1) 1 (gb2.map bv) ∧ K2 w2 w.heap.size (.cells cs1 43) (.cells cs2 43) W) (by kernel_rfl) (KEEP2.out _ KK5.out.drew) (fun hHeld => ?_)
      refine wpAnyH_take (i := 0) (oi := _) (v := ?_) rfl (by kernel_rfl) (by kernel_rfl) (by kernel_rfl) (fun _ _ _ h => h) (Or.inl ⟨by rfl, ?_⟩) hHeld ?_
      rotate_left
      · (intro w hSw; (try dsimp only at hSw); go_simp; (try with_reducible rfl))
      try simp only [Act.put, List.setIfInBounds_toArray]
      refine wpAnyH_take (i := 1) (oi := _) (v := ?_) rfl (by kernel_rfl) (by kernel_rfl) (by kernel_rfl) (fun _ _ _ h => h) (Or.inl ⟨by rfl, ?_⟩) hHeld ?_
      rotate_left
      · (intro w hSw; (try dsimp only at hSw); go_simp; (try with_reducible rfl))
      try simp only [Act.put]
      refine wpAnyH_take (i := 2) (oi := _) (v := ?_) rfl (by kernel_rfl) (by kernel_rfl) (by kernel_rfl) (fun _ _ _ h => h) (Or.inl ⟨by rfl, ?_⟩) hHeld ?_
      rotate_left
      · (intro w hSw; (try dsimp only at hSw); go_simp; (try with_reducible rfl))
      try simp only [Act.put]
      refine wpAnyH_take (i := 3) (oi := _) (v := _) rfl (by kernel_rfl) (by kernel_rfl) (by kernel_rfl) (fun _ _ _ h => h) (yieldsIf_load_mid (by rfl) _ _ rfl _ _ rfl (gb2.map bv) (.array 16 5) (fun w hSw => hSw.2.1) hu rfl hi2) hHeld ?_
      try simp only [Act.put]
      refine wpAnyH_take (i := 4) (oi := _) (v := ?_) rfl (by kernel_rfl) (by kernel_rfl) (by kernel_rfl) (fun _ _ _ h => h) (Or.inl ⟨by rfl, ?_⟩) hHeld ?_
      rotate_left
      · (intro w hSw; (try dsimp only at hSw); go_simp; (try with_reducible rfl))
      try simp only [Act.put]
      refine wpAnyH_take (i := 5) (oi := _) (v := ?_) rfl (by kernel_rfl) (by kernel_rfl) (by kernel_rfl) (fun _ _ _ h => h) (Or.inl ⟨by rfl, ?_⟩) hHeld ?_
      rotate_left
      · (intro w hSw; (try dsimp only at hSw); go_simp; (try with_reducible rfl))
      try simp only [Act.put]
      refine wpAnyH_take (i := 6) (oi := _) (v := ?_) rfl (by kernel_rfl) (by kernel_rfl) (by kernel_rfl) (fun _ _ _ h => h) (Or.inl ⟨by rfl, ?_⟩) hHeld ?_
      rotate_left
      · (intro w hSw; (try dsimp only at hSw); go_simp; (try with_reducible rfl))
      try simp only [Act.put]
      refine wpAnyH_take (i := 7) (oi := _) (v := ?_) rfl (by kernel_rfl) (by kernel_rfl) (by kernel_rfl) (fun _ _ _ h => h) (Or.inl ⟨by rfl, ?_⟩) hHeld ?_
      rotate_left
      · (intro w hSw; (try dsimp only at hSw); go_simp; (try with_reducible rfl))
      try simp only [Act.put]
      refine wpAnyH_take (i := 8) (oi := _) (v := ?_) rfl (by kernel_rfl) (by kernel_rfl) (by kernel_rfl) (fun _ _ _ h => h) (Or.inl ⟨by rfl, ?_⟩) hHeld ?_
      rotate_left
      · (intro w hSw; (try dsimp only at hSw); go_simp; (try with_reducible rfl))
      try simp only [Act.put]
      refine wpAnyH_take (i := 9) (oi := _) (v := ?_) rfl (by kernel_rfl) (by kernel_rfl) (by kernel_rfl) (fun _ _ _ h => h) (Or.inl ⟨by rfl, ?_⟩) hHeld ?_
      rotate_left
      · (intro w hSw; (try dsimp only at hSw); go_simp; (try with_reducible rfl))
      try simp only [Act.put]
      refine wpAnyH_ready (rs := [10]) (by kernel_rfl) (by simp) ?_
      refine AllReadyH.cons (o := _) rfl (fun K hK => ?_) AllReadyH.nil
      go_simp
      (with_reducible refine (TD2.out _ (HBW.out _ hHeld.2.2.b)).mono ?_)
      rintro e X6 ⟨A6, m6, c6, rfl, ow6, hb6⟩
      obtain rfl : dn2 = m6 := HDL2.out.symm.trans ow6.len
      have KK6 := Lib.hid (K2.call (w := w2) (g := w.heap.size) (o1 := (.cells cs1 43)) (o2 := (.cells cs2 43)) hHeld.2.2 hb6)
      have O6 := Lib.hid ow6
      have P6 := Lib.hid (by first | exact O5.out.below hb6 (Nat.le_refl _) | exact O5.out.drew.below hb6 (Nat.le_refl _) : OwnB X6 _ A5 m5 c5 tl1)
      clear ow6 hb6 hHeld
      go_wp2_with fail
      refine hK.out _ _ ?_ (fun hHeld => ?_)
      · exact KEEP2.out _ KK6.out
      clear hK K
      try simp only [Act.put, List.setIfInBounds_toArray, List.set_cons_zero, List.set_cons_succ]
      refine wpAnyH_ready (rs := [11]) (by kernel_rfl) (by simp) ?_
      refine AllReadyH.cons (o := _) rfl (fun K hK => ?_) AllReadyH.nil
      go_simp
      (with_reducible refine (TX2.out _ _ _ (HTW.out _ hHeld.2.2.b) O6.out.rb).mono ?_)
      rintro e X7 ⟨A7, m7, c7, rfl, ow7, hb7⟩
      have KK7 := Lib.hid (K2.call (w := w2) (g := w.heap.size) (o1 := (.cells cs1 43)) (o2 := (.cells cs2 43)) hHeld.2.2 hb7)
      have O7 := Lib.hid ow7
      have P7 := Lib.hid (P6.out.below hb7 (Nat.le_refl _))
      clear ow7 hb7 hHeld
      go_wp2_with fail
      refine hK.out _ _ ?_ (fun hHeld => ?_)
      · exact KEEP2.out _ KK7.out
      clear hK K
      try simp only [Act.put, List.setIfInBounds_toArray, List.set_cons_zero, List.set_cons_succ]
      refine wpAnyH_take (i := 12) (oi := _) (v := ?_) rfl (by kernel_rfl) (by kernel_rfl) (by kernel_rfl) (fun _ _ _ h => h) (Or.inl ⟨by rfl, ?_⟩) hHeld ?_
      rotate_left
      · (intro w hSw; (try dsimp only at hSw); go_simp; (try with_reducible rfl))
      try simp only [Act.put, List.setIfInBounds_toArray]
      simp only [List.set_cons_zero, List.set_cons_succ, List.getElem_toArray, List.getElem_cons_succ, List.getElem_cons_zero]
      refine wpAnyH_done (by kernel_rfl) ?_ _
      refine NoPanic.normal ?_
      clear KEEP1 KEEP2 KK4 KK5 KK6 P6 O6 O4
      have hm1 := P7.out.len
      have hm2 := O7.out.len
      have hq1 := HTL1.out hl1.out
      have hq2 := HTL2.out hl2.out
      have hq3 := HDL1.out
      have hq4 := HDL2.out
      have hq5 : nm1.data.toList.length = nm1.size := by simp
      have hq6 : nm2.data.toList.length = nm2.size := by simp
      have hlen : ((m5 : Int) == (m7 : Int)) = true := beq_iff_eq.2 (by omega)
      clear hm1 hm2 hq1 hq2 hq3 hq4 hq5 hq6
      have hts := HTS.out hl1.out hl2.out
      rw [← toL nm1, ← toL nm2] at hts
      have HTQ := Lib.hid hts
      have V1 := VA1.out X7 _ _ KK7.out.h1
      have V2 := VA2.out X7 _ _ KK7.out.h2
      clear hts
      obtain ⟨p0, p1, p2, p3, p4, p5, p6, p7, p8, p9, p10, p11, p12, p13, p14, p15, rfl⟩ := list16 gb1 hg1
      obtain ⟨r0, r1, r2, r3, r4, r5, r6, r7, r8, r9, r10, r11, r12, r13, r14, r15, rfl⟩ := list16 gb2 hg2
      have vp0 : X7.cell? ⟨w.heap.size, 1, none⟩ = some (.int .u8 (p0.toNat : Int)) := V1.rg 0 _ rfl
      have vr0 : X7.cell? ⟨w.heap.size + 1, 1, none⟩ = some (.int .u8 (r0.toNat : Int)) := V2.rg 0 _ rfl
      have vp1 : X7.cell? ⟨w.heap.size, 2, none⟩ = some (.int .u8 (p1.toNat : Int)) := V1.rg 1 _ rfl
      have vr1 : X7.cell? ⟨w.heap.size + 1, 2, none⟩ = some (.int .u8 (r1.toNat : Int)) := V2.rg 1 _ rfl
      have vp2 : X7.cell? ⟨w.heap.size, 3, none⟩ = some (.int .u8 (p2.toNat : Int)) := V1.rg 2 _ rfl
      have vr2 : X7.cell? ⟨w.heap.size + 1, 3, none⟩ = some (.int .u8 (r2.toNat : Int)) := V2.rg 2 _ rfl
      have vp3 : X7.cell? ⟨w.heap.size, 4, none⟩ = some (.int .u8 (p3.toNat : Int)) := V1.rg 3 _ rfl
      have vr3 : X7.cell? ⟨w.heap.size + 1, 4, none⟩ = some (.int .u8 (r3.toNat : Int)) := V2.rg 3 _ rfl
      have vp4 : X7.cell? ⟨w.heap.size, 5, none⟩ = some (.int .u8 (p4.toNat : Int)) := V1.rg 4 _ rfl
      have vr4 : X7.cell? ⟨w.heap.size + 1, 5, none⟩ = some (.int .u8 (r4.toNat : Int)) := V2.rg 4 _ rfl
      have vp5 : X7.cell? ⟨w.heap.size, 6, none⟩ = some (.int .u8 (p5.toNat : Int)) := V1.rg 5 _ rfl
      have vr5 : X7.cell? ⟨w.heap.size + 1, 6, none⟩ = some (.int .u8 (r5.toNat : Int)) := V2.rg 5 _ rfl
      have vp6 : X7.cell? ⟨w.heap.size, 7, none⟩ = some (.int .u8 (p6.toNat : Int)) := V1.rg 6 _ rfl
      have vr6 : X7.cell? ⟨w.heap.size + 1, 7, none⟩ = some (.int .u8 (r6.toNat : Int)) := V2.rg 6 _ rfl
      have vp7 : X7.cell? ⟨w.heap.size, 8, none⟩ = some (.int .u8 (p7.toNat : Int)) := V1.rg 7 _ rfl
      have vr7 : X7.cell? ⟨w.heap.size + 1, 8, none⟩ = some (.int .u8 (r7.toNat : Int)) := V2.rg 7 _ rfl
      have vp8 : X7.cell? ⟨w.heap.size, 9, none⟩ = some (.int .u8 (p8.toNat : Int)) := V1.rg 8 _ rfl
      have vr8 : X7.cell? ⟨w.heap.size + 1, 9, none⟩ = some (.int .u8 (r8.toNat : Int)) := V2.rg 8 _ rfl
      have vp9 : X7.cell? ⟨w.heap.size, 10, none⟩ = some (.int .u8 (p9.toNat : Int)) := V1.rg 9 _ rfl
      have vr9 : X7.cell? ⟨w.heap.size + 1, 10, none⟩ = some (.int .u8 (r9.toNat : Int)) := V2.rg 9 _ rfl
      have vp10 : X7.cell? ⟨w.heap.size, 11, none⟩ = some (.int .u8 (p10.toNat : Int)) := V1.rg 10 _ rfl
      have vr10 : X7.cell? ⟨w.heap.size + 1, 11, none⟩ = some (.int .u8 (r10.toNat : Int)) := V2.rg 10 _ rfl
      have vp11 : X7.cell? ⟨w.heap.size, 12, none⟩ = some (.int .u8 (p11.toNat : Int)) := V1.rg 11 _ rfl
      have vr11 : X7.cell? ⟨w.heap.size + 1, 12, none⟩ = some (.int .u8 (r11.toNat : Int)) := V2.rg 11 _ rfl
      have vp12 : X7.cell? ⟨w.heap.size, 13, none⟩ = some (.int .u8 (p12.toNat : Int)) := V1.rg 12 _ rfl
      have vr12 : X7.cell? ⟨w.heap.size + 1, 13, none⟩ = some (.int .u8 (r12.toNat : Int)) := V2.rg 12 _ rfl
      have vp13 : X7.cell? ⟨w.heap.size, 14, none⟩ = some (.int .u8 (p13.toNat : Int)) := V1.rg 13 _ rfl
      have vr13 : X7.cell? ⟨w.heap.size + 1, 14, none⟩ = some (.int .u8 (r13.toNat : Int)) := V2.rg 13 _ rfl
      have vp14 : X7.cell? ⟨w.heap.size, 15, none⟩ = some (.int .u8 (p14.toNat : Int)) := V1.rg 14 _ rfl
      have vr14 : X7.cell? ⟨w.heap.size + 1, 15, none⟩ = some (.int .u8 (r14.toNat : Int)) := V2.rg 14 _ rfl
      have vp15 : X7.cell? ⟨w.heap.size, 16, none⟩ = some (.int .u8 (p15.toNat : Int)) := V1.rg 15 _ rfl
      have vr15 : X7.cell? ⟨w.heap.size + 1, 16, none⟩ = some (.int .u8 (r15.toNat : Int)) := V2.rg 15 _ rfl
      have x10 := V1.c0
      have x117 := V1.c17
      have x118 := V1.c18
      have x119 := V1.c19
      have x120 := V1.c20
      have x121 := V1.c21
      have x122 := V1.c22
      have x123 := V1.c23
      have x156 := V1.c56
      simp only at x10 x117 x118 x119 x120 x121 x122 x123 x156
      have x20 := V2.c0
      have x217 := V2.c17
      have x218 := V2.c18
      have x219 := V2.c19
      have x220 := V2.c20
      have x221 := V2.c21
      have x222 := V2.c22
      have x223 := V2.c23
      have x256 := V2.c56
      simp only at x20 x217 x218 x219 x220 x221 x222 x223 x256
      clear V1 V2
      by_cases hn : nm1.toList = nm2.toList
      rotate_left
      · have hneq : tl1 ≠ tl2 := fun e => hn ((HTQ.out.mp e).1)
        have hn2 : (nm1.toList == nm2.toList) = false := beq_eq_false_iff_ne.2 hn
        go_wp2_with fail
        refine (SM.out _ _ _ _ _ _ _ _ X7 P7.out.rb O7.out.rb).mono ?_
        rintro e w' ⟨rfl, rfl⟩
        rw [show (tl1 == tl2) = false from beq_eq_false_iff_ne.2 hneq]
        go_wp2_with fail
        refine (WK.out _ (HTW.out _ KK7.out.b)).mono ?_
        rintro e w9 ⟨rfl, hb9⟩
        go_wp2
        go_ret
        exact ⟨rfl, (HBW.out _ KK7.out.b).trans (hb9.mono (HBW.out _ KK7.out.b).size)⟩
      have hn2 : (nm1.toList == nm2.toList) = true := beq_iff_eq.2 hn
      by_cases hg : [p0, p1, p2, p3, p4, p5, p6, p7, p8, p9, p10, p11, p12, p13, p14, p15] = [r0, r1, r2, r3, r4, r5, r6, r7, r8, r9, r10, r11, r12, r13, r14, r15]
      rotate_left
      · have hneq : tl1 ≠ tl2 := fun e => hg ((HTQ.out.mp e).2.1)
        have HGE : ∀ W, (Op.equalIn 10000 27 (.agg #[.int .u8 (p0.toNat : Int), .int .u8 (p1.toNat : Int), .int .u8 (p2.toNat : Int), .int .u8 (p3.toNat : Int), .int .u8 (p4.toNat : Int), .int .u8 (p5.toNat : Int), .int .u8 (p6.toNat : Int), .int .u8 (p7.toNat : Int), .int .u8 (p8.toNat : Int), .int .u8 (p9.toNat : Int), .int .u8 (p10.toNat : Int), .int .u8 (p11.toNat : Int), .int .u8 (p12.toNat : Int), .int .u8 (p13.toNat : Int), .int .u8 (p14.toNat : Int), .int .u8 (p15.toNat : Int)]) (.agg #[.int .u8 (r0.toNat : Int), .int .u8 (r1.toNat : Int), .int .u8 (r2.toNat : Int), .int .u8 (r3.toNat : Int), .int .u8 (r4.toNat : Int), .int .u8 (r5.toNat : Int), .int .u8 (r6.toNat : Int), .int .u8 (r7.toNat : Int), .int .u8 (r8.toNat : Int), .int .u8 (r9.toNat : Int), .int .u8 (r10.toNat : Int), .int .u8 (r11.toNat : Int), .int .u8 (r12.toNat : Int), .int .u8 (r13.toNat : Int), .int .u8 (r14.toNat : Int), .int .u8 (r15.toNat : Int)])).run Tryd.prog W = .ok false W := fun W => (guid_same [p0, p1, p2, p3, p4, p5, p6, p7, p8, p9, p10, p11, p12, p13, p14, p15] [r0, r1, r2, r3, r4, r5, r6, r7, r8, r9, r10, r11, r12, r13, r14, r15] rfl rfl W 9998).trans (by rw [decide_eq_false hg])
        go_wp2_with fail
        refine (SM.out _ _ _ _ _ _ _ _ X7 P7.out.rb O7.out.rb).mono ?_
        rintro e w' ⟨rfl, rfl⟩
        rw [show (tl1 == tl2) = false from beq_eq_false_iff_ne.2 hneq]
        go_wp2_with fail
        refine (WK.out _ (HTW.out _ KK7.out.b)).mono ?_
        rintro e w9 ⟨rfl, hb9⟩
        go_wp2
        go_ret
        exact ⟨rfl, (HBW.out _ KK7.out.b).trans (hb9.mono (HBW.out _ KK7.out.b).size)⟩
      have HGE : ∀ W, (Op.equalIn 10000 27 (.agg #[.int .u8 (p0.toNat : Int), .int .u8 (p1.toNat : Int), .int .u8 (p2.toNat : Int), .int .u8 (p3.toNat : Int), .int .u8 (p4.toNat : Int), .int .u8 (p5.toNat : Int), .int .u8 (p6.toNat : Int), .int .u8 (p7.toNat : Int), .int .u8 (p8.toNat : Int), .int .u8 (p9.toNat : Int), .int .u8 (p10.toNat : Int), .int .u8 (p11.toNat : Int), .int .u8 (p12.toNat : Int), .int .u8 (p13.toNat : Int), .int .u8 (p14.toNat : Int), .int .u8 (p15.toNat : Int)]) (.agg #[.int .u8 (r0.toNat : Int), .int .u8 (r1.toNat : Int), .int .u8 (r2.toNat : Int), .int .u8 (r3.toNat : Int), .int .u8 (r4.toNat : Int), .int .u8 (r5.toNat : Int), .int .u8 (r6.toNat : Int), .int .u8 (r7.toNat : Int), .int .u8 (r8.toNat : Int), .int .u8 (r9.toNat : Int), .int .u8 (r10.toNat : Int), .int .u8 (r11.toNat : Int), .int .u8 (r12.toNat : Int), .int .u8 (r13.toNat : Int), .int .u8 (r14.toNat : Int), .int .u8 (r15.toNat : Int)])).run Tryd.prog W = .ok true W := fun W => (guid_same [p0, p1, p2, p3, p4, p5, p6, p7, p8, p9, p10, p11, p12, p13, p14, p15] [r0, r1, r2, r3, r4, r5, r6, r7, r8, r9, r10, r11, r12, r13, r14, r15] rfl rfl W 9998).trans (by rw [decide_eq_true hg])
      by_cases ha : a1 = a2
      rotate_left
      · have hneq : tl1 ≠ tl2 := fun e => ha ((HTQ.out.mp e).2.2.1)
        have ha2' : ((a1 : Int) == (a2 : Int)) = false := beq_eq_false_iff_ne.2 (by omega)
        go_wp2_with fail
        refine (SM.out _ _ _ _ _ _ _ _ X7 P7.out.rb O7.out.rb).mono ?_
        rintro e w' ⟨rfl, rfl⟩
        rw [show (tl1 == tl2) = false from beq_eq_false_iff_ne.2 hneq]
        go_wp2_with fail
        refine (WK.out _ (HTW.out _ KK7.out.b)).mono ?_
        rintro e w9 ⟨rfl, hb9⟩
        go_wp2
        go_ret
        exact ⟨rfl, (HBW.out _ KK7.out.b).trans (hb9.mono (HBW.out _ KK7.out.b).size)⟩
      have ha2' : ((a1 : Int) == (a2 : Int)) = true := beq_iff_eq.2 (by omega)
      by_cases ht : (⟨y1, mo1, dd1, hh1, mi1, ss1⟩ : Tm) = ⟨y2, mo2, dd2, hh2, mi2, ss2⟩
      rotate_left
      · have hneq : tl1 ≠ tl2 := fun e => ht ((HTQ.out.mp e).2.2.2.1)
        have HTE : ∀ W, (Op.equalIn 10000 25 (.agg #[.int .u16 (y1 : Int), .int .u8 (mo1.toNat : Int), .int .u8 (dd1.toNat : Int), .int .u8 (hh1.toNat : Int), .int .u8 (mi1.toNat : Int), .int .u8 (ss1.toNat : Int)]) (.agg #[.int .u16 (y2 : Int), .int .u8 (mo2.toNat : Int), .int .u8 (dd2.toNat : Int), .int .u8 (hh2.toNat : Int), .int .u8 (mi2.toNat : Int), .int .u8 (ss2.toNat : Int)])).run Tryd.prog W = .ok false W := fun W => (tm_same ⟨y1, mo1, dd1, hh1, mi1, ss1⟩ ⟨y2, mo2, dd2, hh2, mi2, ss2⟩ W 9998).trans (by rw [decide_eq_false ht])
        go_wp2_with fail
        refine (SM.out _ _ _ _ _ _ _ _ X7 P7.out.rb O7.out.rb).mono ?_
        rintro e w' ⟨rfl, rfl⟩
        rw [show (tl1 == tl2) = false from beq_eq_false_iff_ne.2 hneq]
        go_wp2_with fail
        refine (WK.out _ (HTW.out _ KK7.out.b)).mono ?_
        rintro e w9 ⟨rfl, hb9⟩
        go_wp2
        go_ret
        exact ⟨rfl, (HBW.out _ KK7.out.b).trans (hb9.mono (HBW.out _ KK7.out.b).size)⟩
      have HTE : ∀ W, (Op.equalIn 10000 25 (.agg #[.int .u16 (y1 : Int), .int .u8 (mo1.toNat : Int), .int .u8 (dd1.toNat : Int), .int .u8 (hh1.toNat : Int), .int .u8 (mi1.toNat : Int), .int .u8 (ss1.toNat : Int)]) (.agg #[.int .u16 (y2 : Int), .int .u8 (mo2.toNat : Int), .int .u8 (dd2.toNat : Int), .int .u8 (hh2.toNat : Int), .int .u8 (mi2.toNat : Int), .int .u8 (ss2.toNat : Int)])).run Tryd.prog W = .ok true W := fun W => (tm_same ⟨y1, mo1, dd1, hh1, mi1, ss1⟩ ⟨y2, mo2, dd2, hh2, mi2, ss2⟩ W 9998).trans (by rw [decide_eq_true ht])
      by_cases hd : db1 = db2
      rotate_left
      · have hneq : tl1 ≠ tl2 := fun e => hd ((HTQ.out.mp e).2.2.2.2)
        go_wp2_with fail
        refine (SM.out _ _ _ _ _ _ _ _ X7 (hR1.below (HBW.out _ KK7.out.b)) (hR2.below (HBW.out _ KK7.out.b))).mono ?_
        rintro e w' ⟨rfl, rfl⟩
        rw [show (db1 == db2) = false from beq_eq_false_iff_ne.2 hd]
        go_wp2_with fail
        refine (SM.out _ _ _ _ _ _ _ _ X7 P7.out.rb O7.out.rb).mono ?_
        rintro e w' ⟨rfl, rfl⟩
        rw [show (tl1 == tl2) = false from beq_eq_false_iff_ne.2 hneq]
        go_wp2_with fail
        refine (WK.out _ (HTW.out _ KK7.out.b)).mono ?_
        rintro e w9 ⟨rfl, hb9⟩
        go_wp2
        go_ret
        exact ⟨rfl, (HBW.out _ KK7.out.b).trans (hb9.mono (HBW.out _ KK7.out.b).size)⟩
      · have heq : tl1 = tl2 := HTQ.out.mpr ⟨hn, hg, ha, ht, hd⟩
        go_wp2_with fail
        refine (SM.out _ _ _ _ _ _ _ _ X7 (hR1.below (HBW.out _ KK7.out.b)) (hR2.below (HBW.out _ KK7.out.b))).mono ?_
        rintro e w' ⟨rfl, rfl⟩
        rw [show (db1 == db2) = true from beq_iff_eq.2 hd]
        go_wp2_with fail
        refine (SM.out _ _ _ _ _ _ _ _ X7 P7.out.rb O7.out.rb).mono ?_
        rintro e w' ⟨rfl, rfl⟩
        rw [show (tl1 == tl2) = true from beq_iff_eq.2 heq]
        go_wp2_with fail
        refine (WK.out _ (HTW.out _ KK7.out.b)).mono ?_
        rintro e w9 ⟨rfl, hb9⟩
        go_wp2
        go_ret
        exact ⟨rfl, (HBW.out _ KK7.out.b).trans (hb9.mono (HBW.out _ KK7.out.b).size)⟩
end Go.Proofs.YthmmipcfabijdaaDoor
