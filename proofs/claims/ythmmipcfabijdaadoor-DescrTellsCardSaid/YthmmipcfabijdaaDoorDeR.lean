/-
  descr: the document's Read.
-/
import Derived.Test.YthmmipcfabijdaaDoorDeQ
namespace Go.Proofs.YthmmipcfabijdaaDoor
open Go.RowKit Go
set_option linter.unusedVariables false
set_option maxRecDepth 100000
set_option maxHeartbeats 6400000 in
theorem rr_e0 (A : Option Addr) (n c : Nat) (bs : List UInt8) (w : World) (hR : RB w A n bs) (hc : n ≤ c) (hc2 : c ≤ 9223372036854775807) (hn : n ≤ 1000000) (h41 : 41 ≤ n) (u : Tm) (hro : readO (cut bs 0 16) = some u) (hl : 25 ≤ leN (cut bs 16 4)) (hl2 : 16 + leN (cut bs 16 4) ≤ n) (hk : okW u (leN (cut bs 16 4) - 24) = false) (hce : c = 16 + leN (cut bs 16 4)) :
    Calls Tryd.prog 10 #[.slice A n c] w (DReadPost w bs) := by
  have hq := dR_again (by rw [hR.1]; exact h41) hro hl (by rw [hR.1]; exact hl2)
  rw [if_neg (fun h => by rw [hk] at h; exact absurd h.1 (by simp))] at hq
  have hu9 := (readO_some hro).2.2.2
  have hlv : leN (cut bs 16 4) < 4294967296 := by
    have := leN_lt (cut bs 16 4)
    rw [cut_len _ _ _ (by rw [hR.1]; omega)] at this
    exact this
  have q7 : decide (((leN (cut bs 16 4) : Nat) : Int) < 25) = false := decide_eq_false (by omega)
  have q8 : decide ((n : Int) - 16 < ((leN (cut bs 16 4) : Nat) : Int)) = false := decide_eq_false (by omega)
  have HLEN := Lib.hid hR.1
  have q0 : decide ((n : Int) < 41) = false := decide_eq_false (by omega)
  have hrd : Hid (∀ W, Below w.heap.size w W → RB W A 16 (cut bs 0 16)) := fun W hb => ⟨cut_len _ _ _ (by rw [hR.1]; omega), by have := (hR.below hb).2.take_ 16; simpa [cut] using this⟩
  have GL := Lib.hid (fun W (hb : Below w.heap.size w W) => refGet_ok A n c bs 16 4 W (hR.below hb) hc hc2 rfl (by omega))
  have SR := fun W (hb : Below w.heap.size w W) c' => rread_any A 16 c' (cut bs 0 16) W (hrd W hb)
  have hbl : (cut bs 40 (leN (cut bs 16 4) - 24)).length = leN (cut bs 16 4) - 24 := cut_len _ _ _ (by rw [hR.1]; omega)
  have hdl : (bs.drop (16 + leN (cut bs 16 4))).length = n - (16 + leN (cut bs 16 4)) := by rw [List.length_drop, hR.1]
  have WV := fun A c D d W hA hD => rwrite_any u A (leN (cut bs 16 4) - 24) c (cut bs 40 (leN (cut bs 16 4) - 24)) D (n - (16 + leN (cut bs 16 4))) d (bs.drop (16 + leN (cut bs 16 4))) W hu9 hA hD (by omega) (by omega)
  rw [hk] at WV
  have RB1 : Hid (∀ W, Below w.heap.size w W → ∀ b off, A = some ⟨b, off, none⟩ → RB W (some ⟨b, off + 40, none⟩) (leN (cut bs 16 4) - 24) (cut bs 40 (leN (cut bs 16 4) - 24))) := fun W hb b off hA => ⟨hbl, by have h9 := ((hR.below hb).2.drop_ 40).take_ (leN (cut bs 16 4) - 24); rw [hA] at h9; simp only [Option.map_some, Addr.add_lit] at h9; exact h9⟩
  have RB2 : Hid (∀ W, Below w.heap.size w W → ∀ b off, A = some ⟨b, off, none⟩ → RB W (some ⟨b, off + (16 + leN (cut bs 16 4)), none⟩) (n - (16 + leN (cut bs 16 4))) (bs.drop (16 + leN (cut bs 16 4)))) := fun W hb b off hA => ⟨hdl, by have h9 := ((hR.below hb).2.drop_ (16 + leN (cut bs 16 4))); rw [hA] at h9; simp only [Option.map_some, Addr.add_lit] at h9; exact h9⟩
  obtain ⟨b, off, q9, hA9, _⟩ := hR.at_ (k := 0) (by omega)
  have e40 : 16 + leN (cut bs 16 4) - 40 = leN (cut bs 16 4) - 24 := by omega
  rw [hro] at SR
  simp only [readV, Option.getD_some, Option.isSome_some, tmV, Tm.cells] at SR
  obtain ⟨y, mo, dd, hh, mi, ss⟩ := u
  simp only at SR
  have SR := Lib.hid SR
  generalize hwl : dW _ (cut bs 40 (leN (cut bs 16 4) - 24)) (bs.drop (16 + leN (cut bs 16 4))) = wl at *
  clear hwl
  have HRB := Lib.hid (fun W (h : Below w.heap.size w W) => hR.below h)
  have HQ := Lib.hid hq
  generalize cut bs 40 (leN (cut bs 16 4) - 24) = bl at *
  generalize bs.drop (16 + leN (cut bs 16 4)) = da at *
  generalize leN (cut bs 16 4) = lv at *
  subst hA9
  simp only [tmV, Tm.cells] at WV
  have HWV := Lib.hid WV
  clear WV
  clear hro hrd hR hq hbl hk
  have hn16 : n = 16 + lv := by omega
  subst hn16
  have HDA : Hid (da = []) := List.eq_nil_of_length_eq_zero (by rw [hdl]; omega)
  clear hdl
  have HCE := Lib.hid hce
  clear hce
  go_enter Tryd.func10, Tryd.ntmps10
  go_wp2_with fail
  refine calls_named fun w0 hw0 => ?_
  have hbw0 : Below w.heap.size w w0 := by subst hw0; exact ((Below.refl _ _).alloc (Nat.le_refl _) _).alloc (by simp) _
  have hs0 := hbw0.size
  have k0 : w0.heap[w.heap.size]? = some (.cells #[.int .u16 0, .int .u8 0, .int .u8 0, .int .u8 0, .int .u8 0, .int .u8 0] 25) := by subst hw0; exact heap_alloc2_old w _ _
  have q0' : w0.heap[w.heap.size + 1]? = some (.cells #[.int .u16 0, .int .u8 0, .int .u8 0, .int .u8 0, .int .u8 0, .int .u8 0] 25) := by subst hw0; exact heap_alloc2_new w _ _
  clear hw0
  have q0 := q0'
  clear q0'
  refine (SR.out w0 hbw0 _).mono ?_
  intro e w1 hw1
  obtain ⟨rfl, hb1⟩ := hw1
  have hbw1 := hbw0.trans (hb1.mono hs0)
  have hs1 := hbw1.size
  have k1 := (hb1.block _ (heap_lt k0)).trans k0
  have q1 := (hb1.block _ (heap_lt q0)).trans q0
  have hz1 : w0.heap.size ≤ w1.heap.size := hb1.size
  clear hb1 k0 q0
  go_wp2_with fail
  refine calls_named fun w2 hw2 => ?_
  have hb2 : Below w1.heap.size w1 w2 := by subst hw2; exact (Below.refl _ _).alloc (Nat.le_refl _) _
  have v2 : w2.heap[w1.heap.size]? = some (.cells #[.int .u16 (y : Int), .int .u8 (mo.toNat : Int), .int .u8 (dd.toNat : Int), .int .u8 (hh.toNat : Int), .int .u8 (mi.toNat : Int), .int .u8 (ss.toNat : Int)] 25) := by subst hw2; exact heap_alloc_new w1 _
  clear hw2
  have hbw2 := hbw1.trans (hb2.mono hs1)
  have hs2 := hbw2.size
  have k2 := (hb2.block _ (heap_lt k1)).trans k1
  have q2 := (hb2.block _ (heap_lt q1)).trans q1
  have hz2 : w1.heap.size ≤ w2.heap.size := hb2.size
  clear hb2 k1 q1
  refine (GL.out w2 hbw2).mono ?_
  intro e w3 hw3
  obtain ⟨rfl, hb3⟩ := hw3
  have hbw3 := hbw2.trans (hb3.mono hs2)
  have hs3 := hbw3.size
  have k3 := (hb3.block _ (heap_lt k2)).trans k2
  have q3 := (hb3.block _ (heap_lt q2)).trans q2
  have v3 := (hb3.block _ (heap_lt v2)).trans v2
  have hz3 : w2.heap.size ≤ w3.heap.size := hb3.size
  clear hb3 k2 q2 v2
  have hlk3 := heap_lt k3
  have hce := HCE.out
  clear HCE
  subst hce
  go_wp2_with (at_builtin; refine wpList_apn _ _ rfl rfl rfl w3.heap.size (some ⟨w3.heap.size, 0, none⟩) 0 0 [] rfl (own_nil w3) (some ⟨b, off + 40, none⟩) (16 + lv - 40) _ bl rfl (by rw [e40]; exact (RB1.out w3 hbw3 b off rfl).alloc _) (by omega) (by simp) ?_)
  intro A4 c4 w4 o4 hg4
  have o4 : OwnB w4 w3.heap.size A4 (lv - 24) c4 bl := by simpa [e40] using o4
  have hb4 : Below w3.heap.size w3 w4 := ((Below.refl _ _).alloc (Nat.le_refl _) _).grown hg4 (by simp) (fun g e => by have h9 : some w3.heap.size = some g := e; injection h9 with h9; omega)
  clear hg4
  have hbw4 := hbw3.trans (hb4.mono hs3)
  have hs4 := hbw4.size
  have k4 := (hb4.block _ (heap_lt k3)).trans k3
  have q4 := (hb4.block _ (heap_lt q3)).trans q3
  have v4 := (hb4.block _ (heap_lt v3)).trans v3
  have hz4 : w3.heap.size ≤ w4.heap.size := hb4.size
  clear hb4 k3 q3 v3
  go_wp2_with (at_builtin; refine wpList_apn _ _ rfl rfl rfl w4.heap.size (some ⟨w4.heap.size, 0, none⟩) 0 0 [] rfl (own_nil w4) (some ⟨b, off, none⟩) (16 + lv - (16 + lv)) _ [] rfl (by rw [Nat.sub_self]; exact RB.nil _ _) (by omega) (by simp) ?_)
  intro A5 c5 w5 p5 hg5
  have p5 : OwnB w5 w4.heap.size A5 0 c5 [] := by simpa using p5
  have hb5 : Below w4.heap.size w4 w5 := ((Below.refl _ _).alloc (Nat.le_refl _) _).grown hg5 (by simp) (fun g e => by have h9 : some w4.heap.size = some g := e; injection h9 with h9; omega)
  clear hg5
  have e00 : 16 + lv - (16 + lv) = 0 := by omega
  have hbw5 := hbw4.trans (hb5.mono hs4)
  have hs5 := hbw5.size
  have k5 := (hb5.block _ (heap_lt k4)).trans k4
  have q5 := (hb5.block _ (heap_lt q4)).trans q4
  have v5 := (hb5.block _ (heap_lt v4)).trans v4
  have o5 := o4.below hb5 (Nat.le_refl _)
  have hz5 : w4.heap.size ≤ w5.heap.size := hb5.size
  clear hb5 k4 q4 v4 o4
  obtain ⟨c0, c1, c2, c3, c6, c7⟩ := cells6 v5
  have hlv5 := heap_lt v5
  go_wp2_with fail
  have WV0 := fun (h : RB w5 A5 0 da) => HWV.out A4 c4 A5 c5 w5 o5.rb (by rw [e00]; exact h)
  rw [e00] at WV0
  (with_reducible refine (WV0 (by rw [HDA.out]; exact p5.rb)).mono ?_)
  rintro e w6 ⟨A6, n6, c8, rfl, ow6, hb6⟩
  clear c0 c1 c2 c3 c6 c7
  rw [show erW false = (1 : Int) from rfl]
  have hbw6 := hbw5.trans (hb6.mono hs5)
  have hs6 := hbw6.size
  have k6 := (hb6.block _ (heap_lt k5)).trans k5
  have q6 := (hb6.block _ (heap_lt q5)).trans q5
  have v6 := (hb6.block _ (heap_lt v5)).trans v5
  have o6 := o5.below hb6 (Nat.le_refl _)
  have p6 := p5.below hb6 (Nat.le_refl _)
  have hz6 : w5.heap.size ≤ w6.heap.size := hb6.size
  clear hb6 k5 q5 v5 o5 p5
  clear e40 q7 hl hlv SR
  have hq := HQ.out
  clear ow6
  clear o6 p6 v6
  obtain ⟨a0, a1, a2, a3, a4, a5⟩ := cells6 q6
  obtain ⟨b0, b1, b2, b3, b4, b5⟩ := cells6 k6
  obtain ⟨f0, f1, f2, f3, f4, f5⟩ := free6 k6
  have HF := Lib.hid (dread_none (w := w) hq (below6 (v0 := .int .u16 0) (v1 := .int .u8 0) (v2 := .int .u8 0) (v3 := .int .u8 0) (v4 := .int .u8 0) (v5 := .int .u8 0) hbw6 (Nat.le_refl _)))
  have HZ := Lib.hid (set6 (v0 := .int .u16 0) (v1 := .int .u8 0) (v2 := .int .u8 0) (v3 := .int .u8 0) (v4 := .int .u8 0) (v5 := .int .u8 0) k6)
  clear hq hbw6 k6 q6
  go_wp2
  refine bodyPost_ret (results_de rfl _ _ _ _ _ _ _ _ _ rfl HZ.out) rfl ?_
  exact HF.out
end Go.Proofs.YthmmipcfabijdaaDoor
namespace Go.Proofs.YthmmipcfabijdaaDoor
open Go.RowKit Go
set_option linter.unusedVariables false
set_option maxRecDepth 100000
set_option maxHeartbeats 6400000 in
theorem rr_e1 (A : Option Addr) (n c : Nat) (bs : List UInt8) (w : World) (hR : RB w A n bs) (hc : n ≤ c) (hc2 : c ≤ 9223372036854775807) (hn : n ≤ 1000000) (h41 : 41 ≤ n) (u : Tm) (hro : readO (cut bs 0 16) = some u) (hl : 25 ≤ leN (cut bs 16 4)) (hl2 : 16 + leN (cut bs 16 4) ≤ n) (hk : okW u (leN (cut bs 16 4) - 24) = false) (hce : ¬ c = 16 + leN (cut bs 16 4)) :
    Calls Tryd.prog 10 #[.slice A n c] w (DReadPost w bs) := by
  have hq := dR_again (by rw [hR.1]; exact h41) hro hl (by rw [hR.1]; exact hl2)
  rw [if_neg (fun h => by rw [hk] at h; exact absurd h.1 (by simp))] at hq
  have hu9 := (readO_some hro).2.2.2
  have hlv : leN (cut bs 16 4) < 4294967296 := by
    have := leN_lt (cut bs 16 4)
    rw [cut_len _ _ _ (by rw [hR.1]; omega)] at this
    exact this
  have q7 : decide (((leN (cut bs 16 4) : Nat) : Int) < 25) = false := decide_eq_false (by omega)
  have q8 : decide ((n : Int) - 16 < ((leN (cut bs 16 4) : Nat) : Int)) = false := decide_eq_false (by omega)
  have HLEN := Lib.hid hR.1
  have q0 : decide ((n : Int) < 41) = false := decide_eq_false (by omega)
  have hrd : Hid (∀ W, Below w.heap.size w W → RB W A 16 (cut bs 0 16)) := fun W hb => ⟨cut_len _ _ _ (by rw [hR.1]; omega), by have := (hR.below hb).2.take_ 16; simpa [cut] using this⟩
  have GL := Lib.hid (fun W (hb : Below w.heap.size w W) => refGet_ok A n c bs 16 4 W (hR.below hb) hc hc2 rfl (by omega))
  have SR := fun W (hb : Below w.heap.size w W) c' => rread_any A 16 c' (cut bs 0 16) W (hrd W hb)
  have hbl : (cut bs 40 (leN (cut bs 16 4) - 24)).length = leN (cut bs 16 4) - 24 := cut_len _ _ _ (by rw [hR.1]; omega)
  have hdl : (bs.drop (16 + leN (cut bs 16 4))).length = n - (16 + leN (cut bs 16 4)) := by rw [List.length_drop, hR.1]
  have WV := fun A c D d W hA hD => rwrite_any u A (leN (cut bs 16 4) - 24) c (cut bs 40 (leN (cut bs 16 4) - 24)) D (n - (16 + leN (cut bs 16 4))) d (bs.drop (16 + leN (cut bs 16 4))) W hu9 hA hD (by omega) (by omega)
  rw [hk] at WV
  have RB1 : Hid (∀ W, Below w.heap.size w W → ∀ b off, A = some ⟨b, off, none⟩ → RB W (some ⟨b, off + 40, none⟩) (leN (cut bs 16 4) - 24) (cut bs 40 (leN (cut bs 16 4) - 24))) := fun W hb b off hA => ⟨hbl, by have h9 := ((hR.below hb).2.drop_ 40).take_ (leN (cut bs 16 4) - 24); rw [hA] at h9; simp only [Option.map_some, Addr.add_lit] at h9; exact h9⟩
  have RB2 : Hid (∀ W, Below w.heap.size w W → ∀ b off, A = some ⟨b, off, none⟩ → RB W (some ⟨b, off + (16 + leN (cut bs 16 4)), none⟩) (n - (16 + leN (cut bs 16 4))) (bs.drop (16 + leN (cut bs 16 4)))) := fun W hb b off hA => ⟨hdl, by have h9 := ((hR.below hb).2.drop_ (16 + leN (cut bs 16 4))); rw [hA] at h9; simp only [Option.map_some, Addr.add_lit] at h9; exact h9⟩
  obtain ⟨b, off, q9, hA9, _⟩ := hR.at_ (k := 0) (by omega)
  have e40 : 16 + leN (cut bs 16 4) - 40 = leN (cut bs 16 4) - 24 := by omega
  rw [hro] at SR
  simp only [readV, Option.getD_some, Option.isSome_some, tmV, Tm.cells] at SR
  obtain ⟨y, mo, dd, hh, mi, ss⟩ := u
  simp only at SR
  have SR := Lib.hid SR
  generalize hwl : dW _ (cut bs 40 (leN (cut bs 16 4) - 24)) (bs.drop (16 + leN (cut bs 16 4))) = wl at *
  clear hwl
  have HRB := Lib.hid (fun W (h : Below w.heap.size w W) => hR.below h)
  have HQ := Lib.hid hq
  generalize cut bs 40 (leN (cut bs 16 4) - 24) = bl at *
  generalize bs.drop (16 + leN (cut bs 16 4)) = da at *
  generalize leN (cut bs 16 4) = lv at *
  subst hA9
  simp only [tmV, Tm.cells] at WV
  have HWV := Lib.hid WV
  clear WV
  clear hro hrd hR hq hbl hk
  clear hdl
  go_enter Tryd.func10, Tryd.ntmps10
  go_wp2_with fail
  refine calls_named fun w0 hw0 => ?_
  have hbw0 : Below w.heap.size w w0 := by subst hw0; exact ((Below.refl _ _).alloc (Nat.le_refl _) _).alloc (by simp) _
  have hs0 := hbw0.size
  have k0 : w0.heap[w.heap.size]? = some (.cells #[.int .u16 0, .int .u8 0, .int .u8 0, .int .u8 0, .int .u8 0, .int .u8 0] 25) := by subst hw0; exact heap_alloc2_old w _ _
  have q0' : w0.heap[w.heap.size + 1]? = some (.cells #[.int .u16 0, .int .u8 0, .int .u8 0, .int .u8 0, .int .u8 0, .int .u8 0] 25) := by subst hw0; exact heap_alloc2_new w _ _
  clear hw0
  have q0 := q0'
  clear q0'
  refine (SR.out w0 hbw0 _).mono ?_
  intro e w1 hw1
  obtain ⟨rfl, hb1⟩ := hw1
  have hbw1 := hbw0.trans (hb1.mono hs0)
  have hs1 := hbw1.size
  have k1 := (hb1.block _ (heap_lt k0)).trans k0
  have q1 := (hb1.block _ (heap_lt q0)).trans q0
  have hz1 : w0.heap.size ≤ w1.heap.size := hb1.size
  clear hb1 k0 q0
  go_wp2_with fail
  refine calls_named fun w2 hw2 => ?_
  have hb2 : Below w1.heap.size w1 w2 := by subst hw2; exact (Below.refl _ _).alloc (Nat.le_refl _) _
  have v2 : w2.heap[w1.heap.size]? = some (.cells #[.int .u16 (y : Int), .int .u8 (mo.toNat : Int), .int .u8 (dd.toNat : Int), .int .u8 (hh.toNat : Int), .int .u8 (mi.toNat : Int), .int .u8 (ss.toNat : Int)] 25) := by subst hw2; exact heap_alloc_new w1 _
  clear hw2
  have hbw2 := hbw1.trans (hb2.mono hs1)
  have hs2 := hbw2.size
  have k2 := (hb2.block _ (heap_lt k1)).trans k1
  have q2 := (hb2.block _ (heap_lt q1)).trans q1
  have hz2 : w1.heap.size ≤ w2.heap.size := hb2.size
  clear hb2 k1 q1
  refine (GL.out w2 hbw2).mono ?_
  intro e w3 hw3
  obtain ⟨rfl, hb3⟩ := hw3
  have hbw3 := hbw2.trans (hb3.mono hs2)
  have hs3 := hbw3.size
  have k3 := (hb3.block _ (heap_lt k2)).trans k2
  have q3 := (hb3.block _ (heap_lt q2)).trans q2
  have v3 := (hb3.block _ (heap_lt v2)).trans v2
  have hz3 : w2.heap.size ≤ w3.heap.size := hb3.size
  clear hb3 k2 q2 v2
  have hlk3 := heap_lt k3
  go_wp2_with (at_builtin; refine wpList_apn _ _ rfl rfl rfl w3.heap.size (some ⟨w3.heap.size, 0, none⟩) 0 0 [] rfl (own_nil w3) (some ⟨b, off + 40, none⟩) (16 + lv - 40) _ bl rfl (by rw [e40]; exact (RB1.out w3 hbw3 b off rfl).alloc _) (by omega) (by simp) ?_)
  intro A4 c4 w4 o4 hg4
  have o4 : OwnB w4 w3.heap.size A4 (lv - 24) c4 bl := by simpa [e40] using o4
  have hb4 : Below w3.heap.size w3 w4 := ((Below.refl _ _).alloc (Nat.le_refl _) _).grown hg4 (by simp) (fun g e => by have h9 : some w3.heap.size = some g := e; injection h9 with h9; omega)
  clear hg4
  have hbw4 := hbw3.trans (hb4.mono hs3)
  have hs4 := hbw4.size
  have k4 := (hb4.block _ (heap_lt k3)).trans k3
  have q4 := (hb4.block _ (heap_lt q3)).trans q3
  have v4 := (hb4.block _ (heap_lt v3)).trans v3
  have hz4 : w3.heap.size ≤ w4.heap.size := hb4.size
  clear hb4 k3 q3 v3
  go_wp2_with (at_builtin; refine wpList_apn _ _ rfl rfl rfl w4.heap.size (some ⟨w4.heap.size, 0, none⟩) 0 0 [] rfl (own_nil w4) (some ⟨b, off + (16 + lv), none⟩) (n - (16 + lv)) _ da rfl ((RB2.out w4 hbw4 b off rfl).alloc _) (by omega) (by simp) ?_)
  intro A5 c5 w5 p5 hg5
  have p5 : OwnB w5 w4.heap.size A5 (n - (16 + lv)) c5 da := by simpa using p5
  have hb5 : Below w4.heap.size w4 w5 := ((Below.refl _ _).alloc (Nat.le_refl _) _).grown hg5 (by simp) (fun g e => by have h9 : some w4.heap.size = some g := e; injection h9 with h9; omega)
  clear hg5
  have hbw5 := hbw4.trans (hb5.mono hs4)
  have hs5 := hbw5.size
  have k5 := (hb5.block _ (heap_lt k4)).trans k4
  have q5 := (hb5.block _ (heap_lt q4)).trans q4
  have v5 := (hb5.block _ (heap_lt v4)).trans v4
  have o5 := o4.below hb5 (Nat.le_refl _)
  have hz5 : w4.heap.size ≤ w5.heap.size := hb5.size
  clear hb5 k4 q4 v4 o4
  obtain ⟨c0, c1, c2, c3, c6, c7⟩ := cells6 v5
  have hlv5 := heap_lt v5
  go_wp2_with fail
  (with_reducible refine (HWV.out A4 c4 A5 c5 w5 o5.rb p5.rb).mono ?_)
  rintro e w6 ⟨A6, n6, c8, rfl, ow6, hb6⟩
  clear c0 c1 c2 c3 c6 c7
  rw [show erW false = (1 : Int) from rfl]
  have hbw6 := hbw5.trans (hb6.mono hs5)
  have hs6 := hbw6.size
  have k6 := (hb6.block _ (heap_lt k5)).trans k5
  have q6 := (hb6.block _ (heap_lt q5)).trans q5
  have v6 := (hb6.block _ (heap_lt v5)).trans v5
  have o6 := o5.below hb6 (Nat.le_refl _)
  have p6 := p5.below hb6 (Nat.le_refl _)
  have hz6 : w5.heap.size ≤ w6.heap.size := hb6.size
  clear hb6 k5 q5 v5 o5 p5
  clear e40 q7 hl hlv SR q8 hl2 hce
  have hq := HQ.out
  clear ow6
  clear o6 p6 v6
  obtain ⟨a0, a1, a2, a3, a4, a5⟩ := cells6 q6
  obtain ⟨b0, b1, b2, b3, b4, b5⟩ := cells6 k6
  obtain ⟨f0, f1, f2, f3, f4, f5⟩ := free6 k6
  have HF := Lib.hid (dread_none (w := w) hq (below6 (v0 := .int .u16 0) (v1 := .int .u8 0) (v2 := .int .u8 0) (v3 := .int .u8 0) (v4 := .int .u8 0) (v5 := .int .u8 0) hbw6 (Nat.le_refl _)))
  have HZ := Lib.hid (set6 (v0 := .int .u16 0) (v1 := .int .u8 0) (v2 := .int .u8 0) (v3 := .int .u8 0) (v4 := .int .u8 0) (v5 := .int .u8 0) k6)
  clear hq hbw6 k6 q6
  go_wp2
  refine bodyPost_ret (results_de rfl _ _ _ _ _ _ _ _ _ rfl HZ.out) rfl ?_
  exact HF.out
end Go.Proofs.YthmmipcfabijdaaDoor
namespace Go.Proofs.YthmmipcfabijdaaDoor
open Go.RowKit Go
set_option linter.unusedVariables false
set_option maxRecDepth 100000
set_option maxHeartbeats 6400000 in
theorem rr_f0 (A : Option Addr) (n c : Nat) (bs : List UInt8) (w : World) (hR : RB w A n bs) (hc : n ≤ c) (hc2 : c ≤ 9223372036854775807) (hn : n ≤ 1000000) (h41 : 41 ≤ n) (u : Tm) (hro : readO (cut bs 0 16) = some u) (hl : 25 ≤ leN (cut bs 16 4)) (hl2 : 16 + leN (cut bs 16 4) ≤ n) (hk : okW u (leN (cut bs 16 4) - 24) = true) (hne : dW u (cut bs 40 (leN (cut bs 16 4) - 24)) (bs.drop (16 + leN (cut bs 16 4))) ≠ bs) (hce : c = 16 + leN (cut bs 16 4)) :
    Calls Tryd.prog 10 #[.slice A n c] w (DReadPost w bs) := by
  have hq := dR_again (by rw [hR.1]; exact h41) hro hl (by rw [hR.1]; exact hl2)
  rw [if_neg (fun h => hne h.2)] at hq
  have hu9 := (readO_some hro).2.2.2
  have hlv : leN (cut bs 16 4) < 4294967296 := by
    have := leN_lt (cut bs 16 4)
    rw [cut_len _ _ _ (by rw [hR.1]; omega)] at this
    exact this
  have q7 : decide (((leN (cut bs 16 4) : Nat) : Int) < 25) = false := decide_eq_false (by omega)
  have q8 : decide ((n : Int) - 16 < ((leN (cut bs 16 4) : Nat) : Int)) = false := decide_eq_false (by omega)
  have HLEN := Lib.hid hR.1
  have q0 : decide ((n : Int) < 41) = false := decide_eq_false (by omega)
  have hrd : Hid (∀ W, Below w.heap.size w W → RB W A 16 (cut bs 0 16)) := fun W hb => ⟨cut_len _ _ _ (by rw [hR.1]; omega), by have := (hR.below hb).2.take_ 16; simpa [cut] using this⟩
  have GL := Lib.hid (fun W (hb : Below w.heap.size w W) => refGet_ok A n c bs 16 4 W (hR.below hb) hc hc2 rfl (by omega))
  have SR := fun W (hb : Below w.heap.size w W) c' => rread_any A 16 c' (cut bs 0 16) W (hrd W hb)
  have hbl : (cut bs 40 (leN (cut bs 16 4) - 24)).length = leN (cut bs 16 4) - 24 := cut_len _ _ _ (by rw [hR.1]; omega)
  have hdl : (bs.drop (16 + leN (cut bs 16 4))).length = n - (16 + leN (cut bs 16 4)) := by rw [List.length_drop, hR.1]
  have WV := fun A c D d W hA hD => rwrite_any u A (leN (cut bs 16 4) - 24) c (cut bs 40 (leN (cut bs 16 4) - 24)) D (n - (16 + leN (cut bs 16 4))) d (bs.drop (16 + leN (cut bs 16 4))) W hu9 hA hD (by omega) (by omega)
  rw [hk] at WV
  have RB1 : Hid (∀ W, Below w.heap.size w W → ∀ b off, A = some ⟨b, off, none⟩ → RB W (some ⟨b, off + 40, none⟩) (leN (cut bs 16 4) - 24) (cut bs 40 (leN (cut bs 16 4) - 24))) := fun W hb b off hA => ⟨hbl, by have h9 := ((hR.below hb).2.drop_ 40).take_ (leN (cut bs 16 4) - 24); rw [hA] at h9; simp only [Option.map_some, Addr.add_lit] at h9; exact h9⟩
  have RB2 : Hid (∀ W, Below w.heap.size w W → ∀ b off, A = some ⟨b, off, none⟩ → RB W (some ⟨b, off + (16 + leN (cut bs 16 4)), none⟩) (n - (16 + leN (cut bs 16 4))) (bs.drop (16 + leN (cut bs 16 4)))) := fun W hb b off hA => ⟨hdl, by have h9 := ((hR.below hb).2.drop_ (16 + leN (cut bs 16 4))); rw [hA] at h9; simp only [Option.map_some, Addr.add_lit] at h9; exact h9⟩
  obtain ⟨b, off, q9, hA9, _⟩ := hR.at_ (k := 0) (by omega)
  have e40 : 16 + leN (cut bs 16 4) - 40 = leN (cut bs 16 4) - 24 := by omega
  rw [hro] at SR
  simp only [readV, Option.getD_some, Option.isSome_some, tmV, Tm.cells] at SR
  obtain ⟨y, mo, dd, hh, mi, ss⟩ := u
  simp only at SR
  have SR := Lib.hid SR
  generalize hwl : dW _ (cut bs 40 (leN (cut bs 16 4) - 24)) (bs.drop (16 + leN (cut bs 16 4))) = wl at *
  have HNE := Lib.hid hne
  clear hne hwl
  have HRB := Lib.hid (fun W (h : Below w.heap.size w W) => hR.below h)
  have HQ := Lib.hid hq
  generalize cut bs 40 (leN (cut bs 16 4) - 24) = bl at *
  generalize bs.drop (16 + leN (cut bs 16 4)) = da at *
  generalize leN (cut bs 16 4) = lv at *
  subst hA9
  simp only [tmV, Tm.cells] at WV
  have HWV := Lib.hid WV
  clear WV
  clear hro hrd hR hq hbl hk
  have hn16 : n = 16 + lv := by omega
  subst hn16
  have HDA : Hid (da = []) := List.eq_nil_of_length_eq_zero (by rw [hdl]; omega)
  clear hdl
  have HCE := Lib.hid hce
  clear hce
  go_enter Tryd.func10, Tryd.ntmps10
  go_wp2_with fail
  refine calls_named fun w0 hw0 => ?_
  have hbw0 : Below w.heap.size w w0 := by subst hw0; exact ((Below.refl _ _).alloc (Nat.le_refl _) _).alloc (by simp) _
  have hs0 := hbw0.size
  have k0 : w0.heap[w.heap.size]? = some (.cells #[.int .u16 0, .int .u8 0, .int .u8 0, .int .u8 0, .int .u8 0, .int .u8 0] 25) := by subst hw0; exact heap_alloc2_old w _ _
  have q0' : w0.heap[w.heap.size + 1]? = some (.cells #[.int .u16 0, .int .u8 0, .int .u8 0, .int .u8 0, .int .u8 0, .int .u8 0] 25) := by subst hw0; exact heap_alloc2_new w _ _
  clear hw0
  have q0 := q0'
  clear q0'
  refine (SR.out w0 hbw0 _).mono ?_
  intro e w1 hw1
  obtain ⟨rfl, hb1⟩ := hw1
  have hbw1 := hbw0.trans (hb1.mono hs0)
  have hs1 := hbw1.size
  have k1 := (hb1.block _ (heap_lt k0)).trans k0
  have q1 := (hb1.block _ (heap_lt q0)).trans q0
  have hz1 : w0.heap.size ≤ w1.heap.size := hb1.size
  clear hb1 k0 q0
  go_wp2_with fail
  refine calls_named fun w2 hw2 => ?_
  have hb2 : Below w1.heap.size w1 w2 := by subst hw2; exact (Below.refl _ _).alloc (Nat.le_refl _) _
  have v2 : w2.heap[w1.heap.size]? = some (.cells #[.int .u16 (y : Int), .int .u8 (mo.toNat : Int), .int .u8 (dd.toNat : Int), .int .u8 (hh.toNat : Int), .int .u8 (mi.toNat : Int), .int .u8 (ss.toNat : Int)] 25) := by subst hw2; exact heap_alloc_new w1 _
  clear hw2
  have hbw2 := hbw1.trans (hb2.mono hs1)
  have hs2 := hbw2.size
  have k2 := (hb2.block _ (heap_lt k1)).trans k1
  have q2 := (hb2.block _ (heap_lt q1)).trans q1
  have hz2 : w1.heap.size ≤ w2.heap.size := hb2.size
  clear hb2 k1 q1
  refine (GL.out w2 hbw2).mono ?_
  intro e w3 hw3
  obtain ⟨rfl, hb3⟩ := hw3
  have hbw3 := hbw2.trans (hb3.mono hs2)
  have hs3 := hbw3.size
  have k3 := (hb3.block _ (heap_lt k2)).trans k2
  have q3 := (hb3.block _ (heap_lt q2)).trans q2
  have v3 := (hb3.block _ (heap_lt v2)).trans v2
  have hz3 : w2.heap.size ≤ w3.heap.size := hb3.size
  clear hb3 k2 q2 v2
  have hlk3 := heap_lt k3
  have hce := HCE.out
  clear HCE
  subst hce
  go_wp2_with (at_builtin; refine wpList_apn _ _ rfl rfl rfl w3.heap.size (some ⟨w3.heap.size, 0, none⟩) 0 0 [] rfl (own_nil w3) (some ⟨b, off + 40, none⟩) (16 + lv - 40) _ bl rfl (by rw [e40]; exact (RB1.out w3 hbw3 b off rfl).alloc _) (by omega) (by simp) ?_)
  intro A4 c4 w4 o4 hg4
  have o4 : OwnB w4 w3.heap.size A4 (lv - 24) c4 bl := by simpa [e40] using o4
  have hb4 : Below w3.heap.size w3 w4 := ((Below.refl _ _).alloc (Nat.le_refl _) _).grown hg4 (by simp) (fun g e => by have h9 : some w3.heap.size = some g := e; injection h9 with h9; omega)
  clear hg4
  have hbw4 := hbw3.trans (hb4.mono hs3)
  have hs4 := hbw4.size
  have k4 := (hb4.block _ (heap_lt k3)).trans k3
  have q4 := (hb4.block _ (heap_lt q3)).trans q3
  have v4 := (hb4.block _ (heap_lt v3)).trans v3
  have hz4 : w3.heap.size ≤ w4.heap.size := hb4.size
  clear hb4 k3 q3 v3
  go_wp2_with (at_builtin; refine wpList_apn _ _ rfl rfl rfl w4.heap.size (some ⟨w4.heap.size, 0, none⟩) 0 0 [] rfl (own_nil w4) (some ⟨b, off, none⟩) (16 + lv - (16 + lv)) _ [] rfl (by rw [Nat.sub_self]; exact RB.nil _ _) (by omega) (by simp) ?_)
  intro A5 c5 w5 p5 hg5
  have p5 : OwnB w5 w4.heap.size A5 0 c5 [] := by simpa using p5
  have hb5 : Below w4.heap.size w4 w5 := ((Below.refl _ _).alloc (Nat.le_refl _) _).grown hg5 (by simp) (fun g e => by have h9 : some w4.heap.size = some g := e; injection h9 with h9; omega)
  clear hg5
  have e00 : 16 + lv - (16 + lv) = 0 := by omega
  have hbw5 := hbw4.trans (hb5.mono hs4)
  have hs5 := hbw5.size
  have k5 := (hb5.block _ (heap_lt k4)).trans k4
  have q5 := (hb5.block _ (heap_lt q4)).trans q4
  have v5 := (hb5.block _ (heap_lt v4)).trans v4
  have o5 := o4.below hb5 (Nat.le_refl _)
  have hz5 : w4.heap.size ≤ w5.heap.size := hb5.size
  clear hb5 k4 q4 v4 o4
  obtain ⟨c0, c1, c2, c3, c6, c7⟩ := cells6 v5
  have hlv5 := heap_lt v5
  go_wp2_with fail
  have WV0 := fun (h : RB w5 A5 0 da) => HWV.out A4 c4 A5 c5 w5 o5.rb (by rw [e00]; exact h)
  rw [e00] at WV0
  (with_reducible refine (WV0 (by rw [HDA.out]; exact p5.rb)).mono ?_)
  rintro e w6 ⟨A6, n6, c8, rfl, ow6, hb6⟩
  clear c0 c1 c2 c3 c6 c7
  rw [show erW true = (0 : Int) from rfl]
  have hbw6 := hbw5.trans (hb6.mono hs5)
  have hs6 := hbw6.size
  have k6 := (hb6.block _ (heap_lt k5)).trans k5
  have q6 := (hb6.block _ (heap_lt q5)).trans q5
  have v6 := (hb6.block _ (heap_lt v5)).trans v5
  have o6 := o5.below hb6 (Nat.le_refl _)
  have p6 := p5.below hb6 (Nat.le_refl _)
  have hz6 : w5.heap.size ≤ w6.heap.size := hb6.size
  clear hb6 k5 q5 v5 o5 p5
  clear e40 q7 hl hlv SR
  have S1 : (convert 22 9 (.slice A6 n6 c8)).run Tryd.prog w6 = .ok (.string (strOf wl)) w6 := by
    have h9 := run_strOf w6 w6.heap.size A6 wl c8 ow6.rb.2
    have h8 : wl.length = n6 := ow6.len
    rw [h8] at h9
    exact h9
  have S2 : (convert 22 9 (.slice (some ⟨b, off, none⟩) (16 + lv) (16 + lv))).run Tryd.prog w6 = .ok (.string (strOf bs)) w6 := by
    have h9 := run_strOf w6 w6.heap.size (some ⟨b, off, none⟩) bs (16 + lv) (HRB.out w6 hbw6).2
    rw [HLEN.out] at h9
    exact h9
  have hne : ¬ (strOf wl).toList = (strOf bs).toList := by rw [strOf_toList, strOf_toList]; exact HNE.out
  have hne2 : ((strOf wl).toList == (strOf bs).toList) = false := beq_eq_false_iff_ne.2 hne
  have hne3 : ((strOf wl).toList != (strOf bs).toList) = true := by rw [bne, hne2]; rfl
  generalize strOf wl = sx at *
  generalize strOf bs = sy at *
  clear ow6
  have hq := HQ.out
  clear o6 p6 v6
  obtain ⟨a0, a1, a2, a3, a4, a5⟩ := cells6 q6
  obtain ⟨b0, b1, b2, b3, b4, b5⟩ := cells6 k6
  obtain ⟨f0, f1, f2, f3, f4, f5⟩ := free6 k6
  have HF := Lib.hid (dread_none (w := w) hq (below6 (v0 := .int .u16 0) (v1 := .int .u8 0) (v2 := .int .u8 0) (v3 := .int .u8 0) (v4 := .int .u8 0) (v5 := .int .u8 0) hbw6 (Nat.le_refl _)))
  have HZ := Lib.hid (set6 (v0 := .int .u16 0) (v1 := .int .u8 0) (v2 := .int .u8 0) (v3 := .int .u8 0) (v4 := .int .u8 0) (v5 := .int .u8 0) k6)
  clear hq hbw6 k6 q6
  go_wp2
  refine bodyPost_ret (results_de rfl _ _ _ _ _ _ _ _ _ rfl HZ.out) rfl ?_
  exact HF.out
end Go.Proofs.YthmmipcfabijdaaDoor
namespace Go.Proofs.YthmmipcfabijdaaDoor
open Go.RowKit Go
set_option linter.unusedVariables false
set_option maxRecDepth 100000
set_option maxHeartbeats 6400000 in
theorem rr_f1 (A : Option Addr) (n c : Nat) (bs : List UInt8) (w : World) (hR : RB w A n bs) (hc : n ≤ c) (hc2 : c ≤ 9223372036854775807) (hn : n ≤ 1000000) (h41 : 41 ≤ n) (u : Tm) (hro : readO (cut bs 0 16) = some u) (hl : 25 ≤ leN (cut bs 16 4)) (hl2 : 16 + leN (cut bs 16 4) ≤ n) (hk : okW u (leN (cut bs 16 4) - 24) = true) (hne : dW u (cut bs 40 (leN (cut bs 16 4) - 24)) (bs.drop (16 + leN (cut bs 16 4))) ≠ bs) (hce : ¬ c = 16 + leN (cut bs 16 4)) :
    Calls Tryd.prog 10 #[.slice A n c] w (DReadPost w bs) := by
  have hq := dR_again (by rw [hR.1]; exact h41) hro hl (by rw [hR.1]; exact hl2)
  rw [if_neg (fun h => hne h.2)] at hq
  have hu9 := (readO_some hro).2.2.2
  have hlv : leN (cut bs 16 4) < 4294967296 := by
    have := leN_lt (cut bs 16 4)
    rw [cut_len _ _ _ (by rw [hR.1]; omega)] at this
    exact this
  have q7 : decide (((leN (cut bs 16 4) : Nat) : Int) < 25) = false := decide_eq_false (by omega)
  have q8 : decide ((n : Int) - 16 < ((leN (cut bs 16 4) : Nat) : Int)) = false := decide_eq_false (by omega)
  have HLEN := Lib.hid hR.1
  have q0 : decide ((n : Int) < 41) = false := decide_eq_false (by omega)
  have hrd : Hid (∀ W, Below w.heap.size w W → RB W A 16 (cut bs 0 16)) := fun W hb => ⟨cut_len _ _ _ (by rw [hR.1]; omega), by have := (hR.below hb).2.take_ 16; simpa [cut] using this⟩
  have GL := Lib.hid (fun W (hb : Below w.heap.size w W) => refGet_ok A n c bs 16 4 W (hR.below hb) hc hc2 rfl (by omega))
  have SR := fun W (hb : Below w.heap.size w W) c' => rread_any A 16 c' (cut bs 0 16) W (hrd W hb)
  have hbl : (cut bs 40 (leN (cut bs 16 4) - 24)).length = leN (cut bs 16 4) - 24 := cut_len _ _ _ (by rw [hR.1]; omega)
  have hdl : (bs.drop (16 + leN (cut bs 16 4))).length = n - (16 + leN (cut bs 16 4)) := by rw [List.length_drop, hR.1]
  have WV := fun A c D d W hA hD => rwrite_any u A (leN (cut bs 16 4) - 24) c (cut bs 40 (leN (cut bs 16 4) - 24)) D (n - (16 + leN (cut bs 16 4))) d (bs.drop (16 + leN (cut bs 16 4))) W hu9 hA hD (by omega) (by omega)
  rw [hk] at WV
  have RB1 : Hid (∀ W, Below w.heap.size w W → ∀ b off, A = some ⟨b, off, none⟩ → RB W (some ⟨b, off + 40, none⟩) (leN (cut bs 16 4) - 24) (cut bs 40 (leN (cut bs 16 4) - 24))) := fun W hb b off hA => ⟨hbl, by have h9 := ((hR.below hb).2.drop_ 40).take_ (leN (cut bs 16 4) - 24); rw [hA] at h9; simp only [Option.map_some, Addr.add_lit] at h9; exact h9⟩
  have RB2 : Hid (∀ W, Below w.heap.size w W → ∀ b off, A = some ⟨b, off, none⟩ → RB W (some ⟨b, off + (16 + leN (cut bs 16 4)), none⟩) (n - (16 + leN (cut bs 16 4))) (bs.drop (16 + leN (cut bs 16 4)))) := fun W hb b off hA => ⟨hdl, by have h9 := ((hR.below hb).2.drop_ (16 + leN (cut bs 16 4))); rw [hA] at h9; simp only [Option.map_some, Addr.add_lit] at h9; exact h9⟩
  obtain ⟨b, off, q9, hA9, _⟩ := hR.at_ (k := 0) (by omega)
  have e40 : 16 + leN (cut bs 16 4) - 40 = leN (cut bs 16 4) - 24 := by omega
  rw [hro] at SR
  simp only [readV, Option.getD_some, Option.isSome_some, tmV, Tm.cells] at SR
  obtain ⟨y, mo, dd, hh, mi, ss⟩ := u
  simp only at SR
  have SR := Lib.hid SR
  generalize hwl : dW _ (cut bs 40 (leN (cut bs 16 4) - 24)) (bs.drop (16 + leN (cut bs 16 4))) = wl at *
  have HNE := Lib.hid hne
  clear hne hwl
  have HRB := Lib.hid (fun W (h : Below w.heap.size w W) => hR.below h)
  have HQ := Lib.hid hq
  generalize cut bs 40 (leN (cut bs 16 4) - 24) = bl at *
  generalize bs.drop (16 + leN (cut bs 16 4)) = da at *
  generalize leN (cut bs 16 4) = lv at *
  subst hA9
  simp only [tmV, Tm.cells] at WV
  have HWV := Lib.hid WV
  clear WV
  clear hro hrd hR hq hbl hk
  clear hdl
  go_enter Tryd.func10, Tryd.ntmps10
  go_wp2_with fail
  refine calls_named fun w0 hw0 => ?_
  have hbw0 : Below w.heap.size w w0 := by subst hw0; exact ((Below.refl _ _).alloc (Nat.le_refl _) _).alloc (by simp) _
  have hs0 := hbw0.size
  have k0 : w0.heap[w.heap.size]? = some (.cells #[.int .u16 0, .int .u8 0, .int .u8 0, .int .u8 0, .int .u8 0, .int .u8 0] 25) := by subst hw0; exact heap_alloc2_old w _ _
  have q0' : w0.heap[w.heap.size + 1]? = some (.cells #[.int .u16 0, .int .u8 0, .int .u8 0, .int .u8 0, .int .u8 0, .int .u8 0] 25) := by subst hw0; exact heap_alloc2_new w _ _
  clear hw0
  have q0 := q0'
  clear q0'
  refine (SR.out w0 hbw0 _).mono ?_
  intro e w1 hw1
  obtain ⟨rfl, hb1⟩ := hw1
  have hbw1 := hbw0.trans (hb1.mono hs0)
  have hs1 := hbw1.size
  have k1 := (hb1.block _ (heap_lt k0)).trans k0
  have q1 := (hb1.block _ (heap_lt q0)).trans q0
  have hz1 : w0.heap.size ≤ w1.heap.size := hb1.size
  clear hb1 k0 q0
  go_wp2_with fail
  refine calls_named fun w2 hw2 => ?_
  have hb2 : Below w1.heap.size w1 w2 := by subst hw2; exact (Below.refl _ _).alloc (Nat.le_refl _) _
  have v2 : w2.heap[w1.heap.size]? = some (.cells #[.int .u16 (y : Int), .int .u8 (mo.toNat : Int), .int .u8 (dd.toNat : Int), .int .u8 (hh.toNat : Int), .int .u8 (mi.toNat : Int), .int .u8 (ss.toNat : Int)] 25) := by subst hw2; exact heap_alloc_new w1 _
  clear hw2
  have hbw2 := hbw1.trans (hb2.mono hs1)
  have hs2 := hbw2.size
  have k2 := (hb2.block _ (heap_lt k1)).trans k1
  have q2 := (hb2.block _ (heap_lt q1)).trans q1
  have hz2 : w1.heap.size ≤ w2.heap.size := hb2.size
  clear hb2 k1 q1
  refine (GL.out w2 hbw2).mono ?_
  intro e w3 hw3
  obtain ⟨rfl, hb3⟩ := hw3
  have hbw3 := hbw2.trans (hb3.mono hs2)
  have hs3 := hbw3.size
  have k3 := (hb3.block _ (heap_lt k2)).trans k2
  have q3 := (hb3.block _ (heap_lt q2)).trans q2
  have v3 := (hb3.block _ (heap_lt v2)).trans v2
  have hz3 : w2.heap.size ≤ w3.heap.size := hb3.size
  clear hb3 k2 q2 v2
  have hlk3 := heap_lt k3
  go_wp2_with (at_builtin; refine wpList_apn _ _ rfl rfl rfl w3.heap.size (some ⟨w3.heap.size, 0, none⟩) 0 0 [] rfl (own_nil w3) (some ⟨b, off + 40, none⟩) (16 + lv - 40) _ bl rfl (by rw [e40]; exact (RB1.out w3 hbw3 b off rfl).alloc _) (by omega) (by simp) ?_)
  intro A4 c4 w4 o4 hg4
  have o4 : OwnB w4 w3.heap.size A4 (lv - 24) c4 bl := by simpa [e40] using o4
  have hb4 : Below w3.heap.size w3 w4 := ((Below.refl _ _).alloc (Nat.le_refl _) _).grown hg4 (by simp) (fun g e => by have h9 : some w3.heap.size = some g := e; injection h9 with h9; omega)
  clear hg4
  have hbw4 := hbw3.trans (hb4.mono hs3)
  have hs4 := hbw4.size
  have k4 := (hb4.block _ (heap_lt k3)).trans k3
  have q4 := (hb4.block _ (heap_lt q3)).trans q3
  have v4 := (hb4.block _ (heap_lt v3)).trans v3
  have hz4 : w3.heap.size ≤ w4.heap.size := hb4.size
  clear hb4 k3 q3 v3
  go_wp2_with (at_builtin; refine wpList_apn _ _ rfl rfl rfl w4.heap.size (some ⟨w4.heap.size, 0, none⟩) 0 0 [] rfl (own_nil w4) (some ⟨b, off + (16 + lv), none⟩) (n - (16 + lv)) _ da rfl ((RB2.out w4 hbw4 b off rfl).alloc _) (by omega) (by simp) ?_)
  intro A5 c5 w5 p5 hg5
  have p5 : OwnB w5 w4.heap.size A5 (n - (16 + lv)) c5 da := by simpa using p5
  have hb5 : Below w4.heap.size w4 w5 := ((Below.refl _ _).alloc (Nat.le_refl _) _).grown hg5 (by simp) (fun g e => by have h9 : some w4.heap.size = some g := e; injection h9 with h9; omega)
  clear hg5
  have hbw5 := hbw4.trans (hb5.mono hs4)
  have hs5 := hbw5.size
  have k5 := (hb5.block _ (heap_lt k4)).trans k4
  have q5 := (hb5.block _ (heap_lt q4)).trans q4
  have v5 := (hb5.block _ (heap_lt v4)).trans v4
  have o5 := o4.below hb5 (Nat.le_refl _)
  have hz5 : w4.heap.size ≤ w5.heap.size := hb5.size
  clear hb5 k4 q4 v4 o4
  obtain ⟨c0, c1, c2, c3, c6, c7⟩ := cells6 v5
  have hlv5 := heap_lt v5
  go_wp2_with fail
  (with_reducible refine (HWV.out A4 c4 A5 c5 w5 o5.rb p5.rb).mono ?_)
  rintro e w6 ⟨A6, n6, c8, rfl, ow6, hb6⟩
  clear c0 c1 c2 c3 c6 c7
  rw [show erW true = (0 : Int) from rfl]
  have hbw6 := hbw5.trans (hb6.mono hs5)
  have hs6 := hbw6.size
  have k6 := (hb6.block _ (heap_lt k5)).trans k5
  have q6 := (hb6.block _ (heap_lt q5)).trans q5
  have v6 := (hb6.block _ (heap_lt v5)).trans v5
  have o6 := o5.below hb6 (Nat.le_refl _)
  have p6 := p5.below hb6 (Nat.le_refl _)
  have hz6 : w5.heap.size ≤ w6.heap.size := hb6.size
  clear hb6 k5 q5 v5 o5 p5
  clear e40 q7 hl hlv SR q8 hl2 hce
  have S1 : (convert 22 9 (.slice A6 n6 c8)).run Tryd.prog w6 = .ok (.string (strOf wl)) w6 := by
    have h9 := run_strOf w6 w6.heap.size A6 wl c8 ow6.rb.2
    have h8 : wl.length = n6 := ow6.len
    rw [h8] at h9
    exact h9
  have S2 : (convert 22 9 (.slice (some ⟨b, off, none⟩) n c)).run Tryd.prog w6 = .ok (.string (strOf bs)) w6 := by
    have h9 := run_strOf w6 w6.heap.size (some ⟨b, off, none⟩) bs c (HRB.out w6 hbw6).2
    rw [HLEN.out] at h9
    exact h9
  have hne : ¬ (strOf wl).toList = (strOf bs).toList := by rw [strOf_toList, strOf_toList]; exact HNE.out
  have hne2 : ((strOf wl).toList == (strOf bs).toList) = false := beq_eq_false_iff_ne.2 hne
  have hne3 : ((strOf wl).toList != (strOf bs).toList) = true := by rw [bne, hne2]; rfl
  generalize strOf wl = sx at *
  generalize strOf bs = sy at *
  clear ow6
  have hq := HQ.out
  clear o6 p6 v6
  obtain ⟨a0, a1, a2, a3, a4, a5⟩ := cells6 q6
  obtain ⟨b0, b1, b2, b3, b4, b5⟩ := cells6 k6
  obtain ⟨f0, f1, f2, f3, f4, f5⟩ := free6 k6
  have HF := Lib.hid (dread_none (w := w) hq (below6 (v0 := .int .u16 0) (v1 := .int .u8 0) (v2 := .int .u8 0) (v3 := .int .u8 0) (v4 := .int .u8 0) (v5 := .int .u8 0) hbw6 (Nat.le_refl _)))
  have HZ := Lib.hid (set6 (v0 := .int .u16 0) (v1 := .int .u8 0) (v2 := .int .u8 0) (v3 := .int .u8 0) (v4 := .int .u8 0) (v5 := .int .u8 0) k6)
  clear hq hbw6 k6 q6
  go_wp2
  refine bodyPost_ret (results_de rfl _ _ _ _ _ _ _ _ _ rfl HZ.out) rfl ?_
  exact HF.out
end Go.Proofs.YthmmipcfabijdaaDoor
namespace Go.Proofs.YthmmipcfabijdaaDoor
open Go.RowKit Go
set_option linter.unusedVariables false
set_option maxRecDepth 100000
set_option maxHeartbeats 6400000 in
theorem rr_g0 (A : Option Addr) (n c : Nat) (bs : List UInt8) (w : World) (hR : RB w A n bs) (hc : n ≤ c) (hc2 : c ≤ 9223372036854775807) (hn : n ≤ 1000000) (h41 : 41 ≤ n) (u : Tm) (hro : readO (cut bs 0 16) = some u) (hl : 25 ≤ leN (cut bs 16 4)) (hl2 : 16 + leN (cut bs 16 4) ≤ n) (hk : okW u (leN (cut bs 16 4) - 24) = true) (hne : dW u (cut bs 40 (leN (cut bs 16 4) - 24)) (bs.drop (16 + leN (cut bs 16 4))) = bs) (hce : c = 16 + leN (cut bs 16 4)) :
    Calls Tryd.prog 10 #[.slice A n c] w (DReadPost w bs) := by
  have hq := dR_again (by rw [hR.1]; exact h41) hro hl (by rw [hR.1]; exact hl2)
  rw [if_pos ⟨hk, hne⟩] at hq
  have hu9 := (readO_some hro).2.2.2
  have hlv : leN (cut bs 16 4) < 4294967296 := by
    have := leN_lt (cut bs 16 4)
    rw [cut_len _ _ _ (by rw [hR.1]; omega)] at this
    exact this
  have q7 : decide (((leN (cut bs 16 4) : Nat) : Int) < 25) = false := decide_eq_false (by omega)
  have q8 : decide ((n : Int) - 16 < ((leN (cut bs 16 4) : Nat) : Int)) = false := decide_eq_false (by omega)
  have HLEN := Lib.hid hR.1
  have q0 : decide ((n : Int) < 41) = false := decide_eq_false (by omega)
  have hrd : Hid (∀ W, Below w.heap.size w W → RB W A 16 (cut bs 0 16)) := fun W hb => ⟨cut_len _ _ _ (by rw [hR.1]; omega), by have := (hR.below hb).2.take_ 16; simpa [cut] using this⟩
  have GL := Lib.hid (fun W (hb : Below w.heap.size w W) => refGet_ok A n c bs 16 4 W (hR.below hb) hc hc2 rfl (by omega))
  have SR := fun W (hb : Below w.heap.size w W) c' => rread_any A 16 c' (cut bs 0 16) W (hrd W hb)
  have hbl : (cut bs 40 (leN (cut bs 16 4) - 24)).length = leN (cut bs 16 4) - 24 := cut_len _ _ _ (by rw [hR.1]; omega)
  have hdl : (bs.drop (16 + leN (cut bs 16 4))).length = n - (16 + leN (cut bs 16 4)) := by rw [List.length_drop, hR.1]
  have WV := fun A c D d W hA hD => rwrite_any u A (leN (cut bs 16 4) - 24) c (cut bs 40 (leN (cut bs 16 4) - 24)) D (n - (16 + leN (cut bs 16 4))) d (bs.drop (16 + leN (cut bs 16 4))) W hu9 hA hD (by omega) (by omega)
  rw [hk] at WV
  rw [hne] at WV
  have RB1 : Hid (∀ W, Below w.heap.size w W → ∀ b off, A = some ⟨b, off, none⟩ → RB W (some ⟨b, off + 40, none⟩) (leN (cut bs 16 4) - 24) (cut bs 40 (leN (cut bs 16 4) - 24))) := fun W hb b off hA => ⟨hbl, by have h9 := ((hR.below hb).2.drop_ 40).take_ (leN (cut bs 16 4) - 24); rw [hA] at h9; simp only [Option.map_some, Addr.add_lit] at h9; exact h9⟩
  have RB2 : Hid (∀ W, Below w.heap.size w W → ∀ b off, A = some ⟨b, off, none⟩ → RB W (some ⟨b, off + (16 + leN (cut bs 16 4)), none⟩) (n - (16 + leN (cut bs 16 4))) (bs.drop (16 + leN (cut bs 16 4)))) := fun W hb b off hA => ⟨hdl, by have h9 := ((hR.below hb).2.drop_ (16 + leN (cut bs 16 4))); rw [hA] at h9; simp only [Option.map_some, Addr.add_lit] at h9; exact h9⟩
  obtain ⟨b, off, q9, hA9, _⟩ := hR.at_ (k := 0) (by omega)
  have e40 : 16 + leN (cut bs 16 4) - 40 = leN (cut bs 16 4) - 24 := by omega
  rw [hro] at SR
  simp only [readV, Option.getD_some, Option.isSome_some, tmV, Tm.cells] at SR
  obtain ⟨y, mo, dd, hh, mi, ss⟩ := u
  simp only at SR
  have SR := Lib.hid SR
  clear hne
  have HRB := Lib.hid (fun W (h : Below w.heap.size w W) => hR.below h)
  have HQ := Lib.hid hq
  generalize cut bs 40 (leN (cut bs 16 4) - 24) = bl at *
  generalize bs.drop (16 + leN (cut bs 16 4)) = da at *
  generalize leN (cut bs 16 4) = lv at *
  subst hA9
  simp only [tmV, Tm.cells] at WV
  have HWV := Lib.hid WV
  clear WV
  clear hro hrd hR hq hbl hk
  have hn16 : n = 16 + lv := by omega
  subst hn16
  have HDA : Hid (da = []) := List.eq_nil_of_length_eq_zero (by rw [hdl]; omega)
  clear hdl
  have HCE := Lib.hid hce
  clear hce
  go_enter Tryd.func10, Tryd.ntmps10
  go_wp2_with fail
  refine calls_named fun w0 hw0 => ?_
  have hbw0 : Below w.heap.size w w0 := by subst hw0; exact ((Below.refl _ _).alloc (Nat.le_refl _) _).alloc (by simp) _
  have hs0 := hbw0.size
  have k0 : w0.heap[w.heap.size]? = some (.cells #[.int .u16 0, .int .u8 0, .int .u8 0, .int .u8 0, .int .u8 0, .int .u8 0] 25) := by subst hw0; exact heap_alloc2_old w _ _
  have q0' : w0.heap[w.heap.size + 1]? = some (.cells #[.int .u16 0, .int .u8 0, .int .u8 0, .int .u8 0, .int .u8 0, .int .u8 0] 25) := by subst hw0; exact heap_alloc2_new w _ _
  clear hw0
  have q0 := q0'
  clear q0'
  refine (SR.out w0 hbw0 _).mono ?_
  intro e w1 hw1
  obtain ⟨rfl, hb1⟩ := hw1
  have hbw1 := hbw0.trans (hb1.mono hs0)
  have hs1 := hbw1.size
  have k1 := (hb1.block _ (heap_lt k0)).trans k0
  have q1 := (hb1.block _ (heap_lt q0)).trans q0
  have hz1 : w0.heap.size ≤ w1.heap.size := hb1.size
  clear hb1 k0 q0
  go_wp2_with fail
  refine calls_named fun w2 hw2 => ?_
  have hb2 : Below w1.heap.size w1 w2 := by subst hw2; exact (Below.refl _ _).alloc (Nat.le_refl _) _
  have v2 : w2.heap[w1.heap.size]? = some (.cells #[.int .u16 (y : Int), .int .u8 (mo.toNat : Int), .int .u8 (dd.toNat : Int), .int .u8 (hh.toNat : Int), .int .u8 (mi.toNat : Int), .int .u8 (ss.toNat : Int)] 25) := by subst hw2; exact heap_alloc_new w1 _
  clear hw2
  have hbw2 := hbw1.trans (hb2.mono hs1)
  have hs2 := hbw2.size
  have k2 := (hb2.block _ (heap_lt k1)).trans k1
  have q2 := (hb2.block _ (heap_lt q1)).trans q1
  have hz2 : w1.heap.size ≤ w2.heap.size := hb2.size
  clear hb2 k1 q1
  refine (GL.out w2 hbw2).mono ?_
  intro e w3 hw3
  obtain ⟨rfl, hb3⟩ := hw3
  have hbw3 := hbw2.trans (hb3.mono hs2)
  have hs3 := hbw3.size
  have k3 := (hb3.block _ (heap_lt k2)).trans k2
  have q3 := (hb3.block _ (heap_lt q2)).trans q2
  have v3 := (hb3.block _ (heap_lt v2)).trans v2
  have hz3 : w2.heap.size ≤ w3.heap.size := hb3.size
  clear hb3 k2 q2 v2
  have hlk3 := heap_lt k3
  have hce := HCE.out
  clear HCE
  subst hce
  go_wp2_with (at_builtin; refine wpList_apn _ _ rfl rfl rfl w3.heap.size (some ⟨w3.heap.size, 0, none⟩) 0 0 [] rfl (own_nil w3) (some ⟨b, off + 40, none⟩) (16 + lv - 40) _ bl rfl (by rw [e40]; exact (RB1.out w3 hbw3 b off rfl).alloc _) (by omega) (by simp) ?_)
  intro A4 c4 w4 o4 hg4
  have o4 : OwnB w4 w3.heap.size A4 (lv - 24) c4 bl := by simpa [e40] using o4
  have hb4 : Below w3.heap.size w3 w4 := ((Below.refl _ _).alloc (Nat.le_refl _) _).grown hg4 (by simp) (fun g e => by have h9 : some w3.heap.size = some g := e; injection h9 with h9; omega)
  clear hg4
  have hbw4 := hbw3.trans (hb4.mono hs3)
  have hs4 := hbw4.size
  have k4 := (hb4.block _ (heap_lt k3)).trans k3
  have q4 := (hb4.block _ (heap_lt q3)).trans q3
  have v4 := (hb4.block _ (heap_lt v3)).trans v3
  have hz4 : w3.heap.size ≤ w4.heap.size := hb4.size
  clear hb4 k3 q3 v3
  go_wp2_with (at_builtin; refine wpList_apn _ _ rfl rfl rfl w4.heap.size (some ⟨w4.heap.size, 0, none⟩) 0 0 [] rfl (own_nil w4) (some ⟨b, off, none⟩) (16 + lv - (16 + lv)) _ [] rfl (by rw [Nat.sub_self]; exact RB.nil _ _) (by omega) (by simp) ?_)
  intro A5 c5 w5 p5 hg5
  have p5 : OwnB w5 w4.heap.size A5 0 c5 [] := by simpa using p5
  have hb5 : Below w4.heap.size w4 w5 := ((Below.refl _ _).alloc (Nat.le_refl _) _).grown hg5 (by simp) (fun g e => by have h9 : some w4.heap.size = some g := e; injection h9 with h9; omega)
  clear hg5
  have e00 : 16 + lv - (16 + lv) = 0 := by omega
  have hbw5 := hbw4.trans (hb5.mono hs4)
  have hs5 := hbw5.size
  have k5 := (hb5.block _ (heap_lt k4)).trans k4
  have q5 := (hb5.block _ (heap_lt q4)).trans q4
  have v5 := (hb5.block _ (heap_lt v4)).trans v4
  have o5 := o4.below hb5 (Nat.le_refl _)
  have hz5 : w4.heap.size ≤ w5.heap.size := hb5.size
  clear hb5 k4 q4 v4 o4
  obtain ⟨c0, c1, c2, c3, c6, c7⟩ := cells6 v5
  have hlv5 := heap_lt v5
  go_wp2_with fail
  have WV0 := fun (h : RB w5 A5 0 da) => HWV.out A4 c4 A5 c5 w5 o5.rb (by rw [e00]; exact h)
  rw [e00] at WV0
  (with_reducible refine (WV0 (by rw [HDA.out]; exact p5.rb)).mono ?_)
  rintro e w6 ⟨A6, n6, c8, rfl, ow6, hb6⟩
  clear c0 c1 c2 c3 c6 c7
  rw [show erW true = (0 : Int) from rfl]
  have hbw6 := hbw5.trans (hb6.mono hs5)
  have hs6 := hbw6.size
  have k6 := (hb6.block _ (heap_lt k5)).trans k5
  have q6 := (hb6.block _ (heap_lt q5)).trans q5
  have v6 := (hb6.block _ (heap_lt v5)).trans v5
  have o6 := o5.below hb6 (Nat.le_refl _)
  have p6 := p5.below hb6 (Nat.le_refl _)
  have hz6 : w5.heap.size ≤ w6.heap.size := hb6.size
  clear hb6 k5 q5 v5 o5 p5
  clear e40 q7 hl hlv SR
  have S1 : (convert 22 9 (.slice A6 n6 c8)).run Tryd.prog w6 = .ok (.string (strOf bs)) w6 := by
    have h9 := run_strOf w6 w6.heap.size A6 bs c8 ow6.rb.2
    have h8 : bs.length = n6 := ow6.len
    rw [h8] at h9
    exact h9
  have S2 : (convert 22 9 (.slice (some ⟨b, off, none⟩) (16 + lv) (16 + lv))).run Tryd.prog w6 = .ok (.string (strOf bs)) w6 := by
    have h9 := run_strOf w6 w6.heap.size (some ⟨b, off, none⟩) bs (16 + lv) (HRB.out w6 hbw6).2
    rw [HLEN.out] at h9
    exact h9
  generalize strOf bs = sx at S1 S2
  obtain ⟨c0, c1, c2, c3, c6, c7⟩ := cells6 v6
  obtain ⟨b0, b1, b2, b3, b4, b5⟩ := cells6 k6
  obtain ⟨f0, f1, f2, f3, f4, f5⟩ := free6 k6
  have hlk6 := heap_lt k6
  have hG := grown6 w6 w.heap.size (.int .u16 (y : Int)) (.int .u8 (mo.toNat : Int)) (.int .u8 (dd.toNat : Int)) (.int .u8 (hh.toNat : Int)) (.int .u8 (mi.toNat : Int)) (.int .u8 (ss.toNat : Int))
  have hk5 := heap_lt k6
  have oo := (o6.kept hG (by
    rcases hA : blk A4 with _ | g
    · exact .inl rfl
    · exact .inr (fun e => by have h7 := (o6.blk_lt hA).1; injection e with e; omega))).lower (base' := w.heap.size) (by omega)
  have pp := (p6.kept hG (by
    rcases hA : blk A5 with _ | g
    · exact .inl rfl
    · exact .inr (fun e => by have h7 := (p6.blk_lt hA).1; injection e with e; omega))).lower (base' := w.heap.size) (by omega)
  have hbf := below6 (v0 := .int .u16 (y : Int)) (v1 := .int .u8 (mo.toNat : Int)) (v2 := .int .u8 (dd.toNat : Int)) (v3 := .int .u8 (hh.toNat : Int)) (v4 := .int .u8 (mi.toNat : Int)) (v5 := .int .u8 (ss.toNat : Int)) hbw6 (Nat.le_refl _)
  have HF : Hid (DReadPost w bs (.returned (.tuple #[.agg #[.int .u16 (y : Int), .int .u8 (mo.toNat : Int), .int .u8 (dd.toNat : Int), .int .u8 (hh.toNat : Int), .int .u8 (mi.toNat : Int), .int .u8 (ss.toNat : Int)], .slice A4 (lv - 24) c4, .slice A5 0 c5, .int .i64 0])) ((((((w6.setCell ⟨w.heap.size, 0, none⟩ (.int .u16 (y : Int))).setCell ⟨w.heap.size, 1, none⟩ (.int .u8 (mo.toNat : Int))).setCell ⟨w.heap.size, 2, none⟩ (.int .u8 (dd.toNat : Int))).setCell ⟨w.heap.size, 3, none⟩ (.int .u8 (hh.toNat : Int))).setCell ⟨w.heap.size, 4, none⟩ (.int .u8 (mi.toNat : Int))).setCell ⟨w.heap.size, 5, none⟩ (.int .u8 (ss.toNat : Int)))) := by
    simp only [Hid, DReadPost, HQ.out]
    exact ⟨A4, _, c4, A5, _, c5, rfl, oo, by rw [HDA.out]; exact pp, hbf⟩
  have HZ := Lib.hid (set6 (v0 := .int .u16 (y : Int)) (v1 := .int .u8 (mo.toNat : Int)) (v2 := .int .u8 (dd.toNat : Int)) (v3 := .int .u8 (hh.toNat : Int)) (v4 := .int .u8 (mi.toNat : Int)) (v5 := .int .u8 (ss.toNat : Int)) k6)
  clear ow6 oo pp hbf hG o6 p6 v6 k6 q6 hbw6
  go_wp2
  refine bodyPost_ret (results_de rfl _ _ _ _ _ _ _ _ _ rfl HZ.out) rfl ?_
  exact HF.out
end Go.Proofs.YthmmipcfabijdaaDoor
namespace Go.Proofs.YthmmipcfabijdaaDoor
open Go.RowKit Go
set_option linter.unusedVariables false
set_option maxRecDepth 100000
set_option maxHeartbeats 6400000 in
theorem rr_g1 (A : Option Addr) (n c : Nat) (bs : List UInt8) (w : World) (hR : RB w A n bs) (hc : n ≤ c) (hc2 : c ≤ 9223372036854775807) (hn : n ≤ 1000000) (h41 : 41 ≤ n) (u : Tm) (hro : readO (cut bs 0 16) = some u) (hl : 25 ≤ leN (cut bs 16 4)) (hl2 : 16 + leN (cut bs 16 4) ≤ n) (hk : okW u (leN (cut bs 16 4) - 24) = true) (hne : dW u (cut bs 40 (leN (cut bs 16 4) - 24)) (bs.drop (16 + leN (cut bs 16 4))) = bs) (hce : ¬ c = 16 + leN (cut bs 16 4)) :
    Calls Tryd.prog 10 #[.slice A n c] w (DReadPost w bs) := by
  have hq := dR_again (by rw [hR.1]; exact h41) hro hl (by rw [hR.1]; exact hl2)
  rw [if_pos ⟨hk, hne⟩] at hq
  have hu9 := (readO_some hro).2.2.2
  have hlv : leN (cut bs 16 4) < 4294967296 := by
    have := leN_lt (cut bs 16 4)
    rw [cut_len _ _ _ (by rw [hR.1]; omega)] at this
    exact this
  have q7 : decide (((leN (cut bs 16 4) : Nat) : Int) < 25) = false := decide_eq_false (by omega)
  have q8 : decide ((n : Int) - 16 < ((leN (cut bs 16 4) : Nat) : Int)) = false := decide_eq_false (by omega)
  have HLEN := Lib.hid hR.1
  have q0 : decide ((n : Int) < 41) = false := decide_eq_false (by omega)
  have hrd : Hid (∀ W, Below w.heap.size w W → RB W A 16 (cut bs 0 16)) := fun W hb => ⟨cut_len _ _ _ (by rw [hR.1]; omega), by have := (hR.below hb).2.take_ 16; simpa [cut] using this⟩
  have GL := Lib.hid (fun W (hb : Below w.heap.size w W) => refGet_ok A n c bs 16 4 W (hR.below hb) hc hc2 rfl (by omega))
  have SR := fun W (hb : Below w.heap.size w W) c' => rread_any A 16 c' (cut bs 0 16) W (hrd W hb)
  have hbl : (cut bs 40 (leN (cut bs 16 4) - 24)).length = leN (cut bs 16 4) - 24 := cut_len _ _ _ (by rw [hR.1]; omega)
  have hdl : (bs.drop (16 + leN (cut bs 16 4))).length = n - (16 + leN (cut bs 16 4)) := by rw [List.length_drop, hR.1]
  have WV := fun A c D d W hA hD => rwrite_any u A (leN (cut bs 16 4) - 24) c (cut bs 40 (leN (cut bs 16 4) - 24)) D (n - (16 + leN (cut bs 16 4))) d (bs.drop (16 + leN (cut bs 16 4))) W hu9 hA hD (by omega) (by omega)
  rw [hk] at WV
  rw [hne] at WV
  have RB1 : Hid (∀ W, Below w.heap.size w W → ∀ b off, A = some ⟨b, off, none⟩ → RB W (some ⟨b, off + 40, none⟩) (leN (cut bs 16 4) - 24) (cut bs 40 (leN (cut bs 16 4) - 24))) := fun W hb b off hA => ⟨hbl, by have h9 := ((hR.below hb).2.drop_ 40).take_ (leN (cut bs 16 4) - 24); rw [hA] at h9; simp only [Option.map_some, Addr.add_lit] at h9; exact h9⟩
  have RB2 : Hid (∀ W, Below w.heap.size w W → ∀ b off, A = some ⟨b, off, none⟩ → RB W (some ⟨b, off + (16 + leN (cut bs 16 4)), none⟩) (n - (16 + leN (cut bs 16 4))) (bs.drop (16 + leN (cut bs 16 4)))) := fun W hb b off hA => ⟨hdl, by have h9 := ((hR.below hb).2.drop_ (16 + leN (cut bs 16 4))); rw [hA] at h9; simp only [Option.map_some, Addr.add_lit] at h9; exact h9⟩
  obtain ⟨b, off, q9, hA9, _⟩ := hR.at_ (k := 0) (by omega)
  have e40 : 16 + leN (cut bs 16 4) - 40 = leN (cut bs 16 4) - 24 := by omega
  rw [hro] at SR
  simp only [readV, Option.getD_some, Option.isSome_some, tmV, Tm.cells] at SR
  obtain ⟨y, mo, dd, hh, mi, ss⟩ := u
  simp only at SR
  have SR := Lib.hid SR
  clear hne
  have HRB := Lib.hid (fun W (h : Below w.heap.size w W) => hR.below h)
  have HQ := Lib.hid hq
  generalize cut bs 40 (leN (cut bs 16 4) - 24) = bl at *
  generalize bs.drop (16 + leN (cut bs 16 4)) = da at *
  generalize leN (cut bs 16 4) = lv at *
  subst hA9
  simp only [tmV, Tm.cells] at WV
  have HWV := Lib.hid WV
  clear WV
  clear hro hrd hR hq hbl hk
  clear hdl
  go_enter Tryd.func10, Tryd.ntmps10
  go_wp2_with fail
  refine calls_named fun w0 hw0 => ?_
  have hbw0 : Below w.heap.size w w0 := by subst hw0; exact ((Below.refl _ _).alloc (Nat.le_refl _) _).alloc (by simp) _
  have hs0 := hbw0.size
  have k0 : w0.heap[w.heap.size]? = some (.cells #[.int .u16 0, .int .u8 0, .int .u8 0, .int .u8 0, .int .u8 0, .int .u8 0] 25) := by subst hw0; exact heap_alloc2_old w _ _
  have q0' : w0.heap[w.heap.size + 1]? = some (.cells #[.int .u16 0, .int .u8 0, .int .u8 0, .int .u8 0, .int .u8 0, .int .u8 0] 25) := by subst hw0; exact heap_alloc2_new w _ _
  clear hw0
  have q0 := q0'
  clear q0'
  refine (SR.out w0 hbw0 _).mono ?_
  intro e w1 hw1
  obtain ⟨rfl, hb1⟩ := hw1
  have hbw1 := hbw0.trans (hb1.mono hs0)
  have hs1 := hbw1.size
  have k1 := (hb1.block _ (heap_lt k0)).trans k0
  have q1 := (hb1.block _ (heap_lt q0)).trans q0
  have hz1 : w0.heap.size ≤ w1.heap.size := hb1.size
  clear hb1 k0 q0
  go_wp2_with fail
  refine calls_named fun w2 hw2 => ?_
  have hb2 : Below w1.heap.size w1 w2 := by subst hw2; exact (Below.refl _ _).alloc (Nat.le_refl _) _
  have v2 : w2.heap[w1.heap.size]? = some (.cells #[.int .u16 (y : Int), .int .u8 (mo.toNat : Int), .int .u8 (dd.toNat : Int), .int .u8 (hh.toNat : Int), .int .u8 (mi.toNat : Int), .int .u8 (ss.toNat : Int)] 25) := by subst hw2; exact heap_alloc_new w1 _
  clear hw2
  have hbw2 := hbw1.trans (hb2.mono hs1)
  have hs2 := hbw2.size
  have k2 := (hb2.block _ (heap_lt k1)).trans k1
  have q2 := (hb2.block _ (heap_lt q1)).trans q1
  have hz2 : w1.heap.size ≤ w2.heap.size := hb2.size
  clear hb2 k1 q1
  refine (GL.out w2 hbw2).mono ?_
  intro e w3 hw3
  obtain ⟨rfl, hb3⟩ := hw3
  have hbw3 := hbw2.trans (hb3.mono hs2)
  have hs3 := hbw3.size
  have k3 := (hb3.block _ (heap_lt k2)).trans k2
  have q3 := (hb3.block _ (heap_lt q2)).trans q2
  have v3 := (hb3.block _ (heap_lt v2)).trans v2
  have hz3 : w2.heap.size ≤ w3.heap.size := hb3.size
  clear hb3 k2 q2 v2
  have hlk3 := heap_lt k3
  go_wp2_with (at_builtin; refine wpList_apn _ _ rfl rfl rfl w3.heap.size (some ⟨w3.heap.size, 0, none⟩) 0 0 [] rfl (own_nil w3) (some ⟨b, off + 40, none⟩) (16 + lv - 40) _ bl rfl (by rw [e40]; exact (RB1.out w3 hbw3 b off rfl).alloc _) (by omega) (by simp) ?_)
  intro A4 c4 w4 o4 hg4
  have o4 : OwnB w4 w3.heap.size A4 (lv - 24) c4 bl := by simpa [e40] using o4
  have hb4 : Below w3.heap.size w3 w4 := ((Below.refl _ _).alloc (Nat.le_refl _) _).grown hg4 (by simp) (fun g e => by have h9 : some w3.heap.size = some g := e; injection h9 with h9; omega)
  clear hg4
  have hbw4 := hbw3.trans (hb4.mono hs3)
  have hs4 := hbw4.size
  have k4 := (hb4.block _ (heap_lt k3)).trans k3
  have q4 := (hb4.block _ (heap_lt q3)).trans q3
  have v4 := (hb4.block _ (heap_lt v3)).trans v3
  have hz4 : w3.heap.size ≤ w4.heap.size := hb4.size
  clear hb4 k3 q3 v3
  go_wp2_with (at_builtin; refine wpList_apn _ _ rfl rfl rfl w4.heap.size (some ⟨w4.heap.size, 0, none⟩) 0 0 [] rfl (own_nil w4) (some ⟨b, off + (16 + lv), none⟩) (n - (16 + lv)) _ da rfl ((RB2.out w4 hbw4 b off rfl).alloc _) (by omega) (by simp) ?_)
  intro A5 c5 w5 p5 hg5
  have p5 : OwnB w5 w4.heap.size A5 (n - (16 + lv)) c5 da := by simpa using p5
  have hb5 : Below w4.heap.size w4 w5 := ((Below.refl _ _).alloc (Nat.le_refl _) _).grown hg5 (by simp) (fun g e => by have h9 : some w4.heap.size = some g := e; injection h9 with h9; omega)
  clear hg5
  have hbw5 := hbw4.trans (hb5.mono hs4)
  have hs5 := hbw5.size
  have k5 := (hb5.block _ (heap_lt k4)).trans k4
  have q5 := (hb5.block _ (heap_lt q4)).trans q4
  have v5 := (hb5.block _ (heap_lt v4)).trans v4
  have o5 := o4.below hb5 (Nat.le_refl _)
  have hz5 : w4.heap.size ≤ w5.heap.size := hb5.size
  clear hb5 k4 q4 v4 o4
  obtain ⟨c0, c1, c2, c3, c6, c7⟩ := cells6 v5
  have hlv5 := heap_lt v5
  go_wp2_with fail
  (with_reducible refine (HWV.out A4 c4 A5 c5 w5 o5.rb p5.rb).mono ?_)
  rintro e w6 ⟨A6, n6, c8, rfl, ow6, hb6⟩
  clear c0 c1 c2 c3 c6 c7
  rw [show erW true = (0 : Int) from rfl]
  have hbw6 := hbw5.trans (hb6.mono hs5)
  have hs6 := hbw6.size
  have k6 := (hb6.block _ (heap_lt k5)).trans k5
  have q6 := (hb6.block _ (heap_lt q5)).trans q5
  have v6 := (hb6.block _ (heap_lt v5)).trans v5
  have o6 := o5.below hb6 (Nat.le_refl _)
  have p6 := p5.below hb6 (Nat.le_refl _)
  have hz6 : w5.heap.size ≤ w6.heap.size := hb6.size
  clear hb6 k5 q5 v5 o5 p5
  clear e40 q7 hl hlv SR q8 hl2 hce
  have S1 : (convert 22 9 (.slice A6 n6 c8)).run Tryd.prog w6 = .ok (.string (strOf bs)) w6 := by
    have h9 := run_strOf w6 w6.heap.size A6 bs c8 ow6.rb.2
    have h8 : bs.length = n6 := ow6.len
    rw [h8] at h9
    exact h9
  have S2 : (convert 22 9 (.slice (some ⟨b, off, none⟩) n c)).run Tryd.prog w6 = .ok (.string (strOf bs)) w6 := by
    have h9 := run_strOf w6 w6.heap.size (some ⟨b, off, none⟩) bs c (HRB.out w6 hbw6).2
    rw [HLEN.out] at h9
    exact h9
  generalize strOf bs = sx at S1 S2
  obtain ⟨c0, c1, c2, c3, c6, c7⟩ := cells6 v6
  obtain ⟨b0, b1, b2, b3, b4, b5⟩ := cells6 k6
  obtain ⟨f0, f1, f2, f3, f4, f5⟩ := free6 k6
  have hlk6 := heap_lt k6
  have hG := grown6 w6 w.heap.size (.int .u16 (y : Int)) (.int .u8 (mo.toNat : Int)) (.int .u8 (dd.toNat : Int)) (.int .u8 (hh.toNat : Int)) (.int .u8 (mi.toNat : Int)) (.int .u8 (ss.toNat : Int))
  have hk5 := heap_lt k6
  have oo := (o6.kept hG (by
    rcases hA : blk A4 with _ | g
    · exact .inl rfl
    · exact .inr (fun e => by have h7 := (o6.blk_lt hA).1; injection e with e; omega))).lower (base' := w.heap.size) (by omega)
  have pp := (p6.kept hG (by
    rcases hA : blk A5 with _ | g
    · exact .inl rfl
    · exact .inr (fun e => by have h7 := (p6.blk_lt hA).1; injection e with e; omega))).lower (base' := w.heap.size) (by omega)
  have hbf := below6 (v0 := .int .u16 (y : Int)) (v1 := .int .u8 (mo.toNat : Int)) (v2 := .int .u8 (dd.toNat : Int)) (v3 := .int .u8 (hh.toNat : Int)) (v4 := .int .u8 (mi.toNat : Int)) (v5 := .int .u8 (ss.toNat : Int)) hbw6 (Nat.le_refl _)
  have HF : Hid (DReadPost w bs (.returned (.tuple #[.agg #[.int .u16 (y : Int), .int .u8 (mo.toNat : Int), .int .u8 (dd.toNat : Int), .int .u8 (hh.toNat : Int), .int .u8 (mi.toNat : Int), .int .u8 (ss.toNat : Int)], .slice A4 (lv - 24) c4, .slice A5 (n - (16 + lv)) c5, .int .i64 0])) ((((((w6.setCell ⟨w.heap.size, 0, none⟩ (.int .u16 (y : Int))).setCell ⟨w.heap.size, 1, none⟩ (.int .u8 (mo.toNat : Int))).setCell ⟨w.heap.size, 2, none⟩ (.int .u8 (dd.toNat : Int))).setCell ⟨w.heap.size, 3, none⟩ (.int .u8 (hh.toNat : Int))).setCell ⟨w.heap.size, 4, none⟩ (.int .u8 (mi.toNat : Int))).setCell ⟨w.heap.size, 5, none⟩ (.int .u8 (ss.toNat : Int)))) := by
    simp only [Hid, DReadPost, HQ.out]
    exact ⟨A4, _, c4, A5, _, c5, rfl, oo, pp, hbf⟩
  have HZ := Lib.hid (set6 (v0 := .int .u16 (y : Int)) (v1 := .int .u8 (mo.toNat : Int)) (v2 := .int .u8 (dd.toNat : Int)) (v3 := .int .u8 (hh.toNat : Int)) (v4 := .int .u8 (mi.toNat : Int)) (v5 := .int .u8 (ss.toNat : Int)) k6)
  clear ow6 oo pp hbf hG o6 p6 v6 k6 q6 hbw6
  go_wp2
  refine bodyPost_ret (results_de rfl _ _ _ _ _ _ _ _ _ rfl HZ.out) rfl ?_
  exact HF.out
end Go.Proofs.YthmmipcfabijdaaDoor
namespace Go.Proofs.YthmmipcfabijdaaDoor
open Go.RowKit Go
set_option linter.unusedVariables false
set_option maxRecDepth 100000
theorem rread_d (A : Option Addr) (n c : Nat) (bs : List UInt8) (w : World) (hR : RB w A n bs) (hc : n ≤ c) (hc2 : c ≤ 9223372036854775807) (hn : n ≤ 1000000) : Calls Tryd.prog 10 #[.slice A n c] w (DReadPost w bs) := by
  by_cases h41 : n < 41
  · exact rr_a A n c bs w hR hc hc2 hn h41
  have h41 : 41 ≤ n := by omega
  cases hro : readO (cut bs 0 16) with
  | none => exact rr_b A n c bs w hR hc hc2 hn h41 hro
  | some u =>
    by_cases h1 : leN (cut bs 16 4) < 25
    · exact rr_c A n c bs w hR hc hc2 hn h41 u hro h1
    by_cases h2 : n < 16 + leN (cut bs 16 4)
    · exact rr_d A n c bs w hR hc hc2 hn h41 u hro (by omega) h2
    by_cases hce : c = 16 + leN (cut bs 16 4)
    · cases hk : okW u (leN (cut bs 16 4) - 24) with
      | false => exact rr_e0 A n c bs w hR hc hc2 hn h41 u hro (by omega) (by omega) hk hce
      | true =>
        by_cases hne : dW u (cut bs 40 (leN (cut bs 16 4) - 24)) (bs.drop (16 + leN (cut bs 16 4))) = bs
        · exact rr_g0 A n c bs w hR hc hc2 hn h41 u hro (by omega) (by omega) hk hne hce
        · exact rr_f0 A n c bs w hR hc hc2 hn h41 u hro (by omega) (by omega) hk hne hce
    · cases hk : okW u (leN (cut bs 16 4) - 24) with
      | false => exact rr_e1 A n c bs w hR hc hc2 hn h41 u hro (by omega) (by omega) hk hce
      | true =>
        by_cases hne : dW u (cut bs 40 (leN (cut bs 16 4) - 24)) (bs.drop (16 + leN (cut bs 16 4))) = bs
        · exact rr_g1 A n c bs w hR hc hc2 hn h41 u hro (by omega) (by omega) hk hne hce
        · exact rr_f1 A n c bs w hR hc hc2 hn h41 u hro (by omega) (by omega) hk hne hce
end Go.Proofs.YthmmipcfabijdaaDoor
