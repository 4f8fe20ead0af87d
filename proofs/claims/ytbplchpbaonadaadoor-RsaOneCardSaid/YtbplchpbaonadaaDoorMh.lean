/-
  mont: Exp.
-/
import Derived.Test.YtbplchpbaonadaaDoorMg
import Derived.Sort.CutIn
namespace Go.Proofs.YtbplchpbaonadaaDoor
open Go.RowKit Go
set_option linter.unusedVariables false
set_option linter.unusedSimpArgs false
set_option maxRecDepth 100000
attribute [local go_sem] Oper.semAt_some
/-- The rest of a power, by a modulus. -/
def mexpQ (x e : List Nat) (m : Nat) : List Nat × Nat := if underB x m && rightB e then (num (val x ^ val e % m), 0) else ([], 1)
/-- A number in a block of the call's own. -/
structure NB (W : World) (G N v : Nat) (Z : List Nat) : Prop where
  b : BlkU W G Z
  l : Z.length = N
  m : Lim Z
  v : val Z = v
theorem NB.drew {W : World} {G N v : Nat} {Z : List Nat} (h : NB W G N v Z) : NB W.drew G N v Z := ⟨h.b, h.l, h.m, h.v⟩
theorem NB.alloc {W : World} {G N v : Nat} {Z : List Nat} (h : NB W G N v Z) (o : Obj) : NB (W.alloc o) G N v Z := ⟨has_alloc h.b o, h.l, h.m, h.v⟩
theorem NB.call {W W' : World} {G N v : Nat} {Z : List Nat} (h : NB W G N v Z) (hb : Below W.heap.size W W') : NB W' G N v Z := ⟨h.b.below hb, h.l, h.m, h.v⟩
theorem NB.far {W : World} {G N v k j : Nat} {Z : List Nat} {u : Value} (h : NB W G N v Z) (hne : G ≠ k) : NB (W.setCell ⟨k, j, none⟩ u) G N v Z := ⟨h.b.far hne, h.l, h.m, h.v⟩
theorem NB.ru {W : World} {G N v : Nat} {Z : List Nat} (h : NB W G N v Z) : RU W (some ⟨G, 0, none⟩) N Z := blk_ru h.b h.l h.m
theorem has_of_alloc {W W1 W' : World} {o : Obj} (h : Below W1.heap.size W1 W') (h1 : W1.heap = (W.alloc o).heap) : W'.heap[W.heap.size]? = some o := has_below (by rw [h1]; exact has_new _ _) h
/-- A slice of limbs of the call's own, in a variable of its own. -/
structure VB (W : World) (ra G N v : Nat) (Z : List Nat) : Prop where
  h : W.heap[ra]? = some (.cells #[.slice (some ⟨G, 0, none⟩) N N] 49)
  n : NB W G N v Z
theorem VB.drew {W : World} {ra G N v : Nat} {Z : List Nat} (h : VB W ra G N v Z) : VB W.drew ra G N v Z := ⟨h.h, h.n.drew⟩
theorem VB.alloc {W : World} {ra G N v : Nat} {Z : List Nat} (h : VB W ra G N v Z) (o : Obj) : VB (W.alloc o) ra G N v Z := ⟨has_alloc h.h o, h.n.alloc o⟩
theorem VB.call {W W' : World} {ra G N v : Nat} {Z : List Nat} (h : VB W ra G N v Z) (hb : Below W.heap.size W W') : VB W' ra G N v Z := ⟨has_below h.h hb, h.n.call hb⟩
theorem VB.far {W : World} {ra G N v k j : Nat} {Z : List Nat} {u : Value} (h : VB W ra G N v Z) (h1 : ra ≠ k) (h2 : G ≠ k) : VB (W.setCell ⟨k, j, none⟩ u) ra G N v Z := ⟨has_set h.h h1, h.n.far h2⟩
theorem NB.lt {W : World} {G N v : Nat} {Z : List Nat} (h : NB W G N v Z) : G < W.heap.size := h.b.lt
/-- What stands behind the making of the raised number. -/
structure E7 (w : World) (g m N GO GS : Nat) (ZO ZS : List Nat) (x : Nat) (s : Value) (W : World) : Prop where
  ex : ∃ ra GR ZR, s = .pointer (some ⟨ra, 0, none⟩) ∧ VB W ra GR N (x * 4294967296 ^ N % m) ZR ∧ w.heap.size < ra
  o : NB W GO N 1 ZO
  q : NB W GS N (4294967296 ^ N * 4294967296 ^ N % m) ZS
  g : GB w w.heap.size (.cells #[.pointer (some ⟨g, 0, none⟩)] 52) W
/-- What stands ahead of the rounds. -/
structure E8 (w : World) (g m N GO ra GR : Nat) (ZO ZR : List Nat) (x : Nat) (s : Value) (W : World) : Prop where
  ex : ∃ pw GP ZP, s = .pointer (some ⟨pw, 0, none⟩) ∧ VB W pw GP N (1 * 4294967296 ^ N % m) ZP ∧ ra < pw
  o : NB W GO N 1 ZO
  r : VB W ra GR N (x * 4294967296 ^ N % m) ZR
  g : GB w w.heap.size (.cells #[.pointer (some ⟨g, 0, none⟩)] 52) W
theorem Red.v {m R x y v : Nat} (h : Red m R x y v) : v < m := h.lt
/-- The state between two rounds: all that lay there lies there still, but the power's variable. -/
structure IE (w W0 : World) (pw N m x : Nat) (pre : List Bool) (W : World) : Prop where
  old : ∀ b, b < W0.heap.size → b ≠ pw → W.heap[b]? = W0.heap[b]?
  bel : Below w.heap.size w W
  cur : ∃ G Z, VB W pw G N (x ^ accB pre * 4294967296 ^ N % m) Z ∧ G ≠ W0.heap.size ∧ G ≠ W0.heap.size + 1
theorem VB.put {W : World} {ra G N v k : Nat} {Z : List Nat} {o : Obj} (h : VB W ra G N v Z) (h1 : ra ≠ k) (h2 : G ≠ k) : VB (W.putObj k o) ra G N v Z :=
  ⟨(World.putObj_heap_other h1).trans h.h, ⟨(World.putObj_heap_other h2).trans h.n.b, h.n.l, h.n.m, h.n.v⟩⟩
theorem IE.put {w W0 : World} {pw N m x : Nat} {pre : List Bool} {W : World} (h : IE w W0 pw N m x pre W) {b : Nat} {o : Obj} (h1 : W0.heap.size ≤ b) (h2 : b ≤ W0.heap.size + 1) (hp : pw < W0.heap.size) (hw : w.heap.size ≤ W0.heap.size) : IE w W0 pw N m x pre (W.putObj b o) := by
  obtain ⟨G, Z, hv, g1, g2⟩ := h.cur
  exact ⟨fun j hj hne => (World.putObj_heap_other (by omega)).trans (h.old j hj hne), h.bel.grown (grownBy_putObj' W b o) h.bel.size (fun g hg => by injection hg with hg; omega), G, Z, hv.put (by omega) (by omega), g1, g2⟩
/-- The power's variable is written anew. -/
theorem IE.store {w W0 Wb w9 : World} {pw N v0 v9 G G9 D : Nat} {Z Z9 : List Nat} (old : ∀ b, b < W0.heap.size → b ≠ pw → Wb.heap[b]? = W0.heap[b]?) (bel : Below w.heap.size w Wb) (hv : VB Wb pw G N v0 Z) (hb : Below Wb.heap.size Wb w9) (n9 : NB w9 G9 N v9 Z9) (hge : Wb.heap.size ≤ G9) (hD : W0.heap.size = D) (hD1 : D + 1 < Wb.heap.size) (hp : pw < D) (hw : w.heap.size ≤ pw) :
    (∀ b, b < W0.heap.size → b ≠ pw → (w9.setCell ⟨pw, 0, none⟩ (.slice (some ⟨G9, 0, none⟩) N N)).heap[b]? = W0.heap[b]?) ∧ Below w.heap.size w (w9.setCell ⟨pw, 0, none⟩ (.slice (some ⟨G9, 0, none⟩) N N)) ∧ VB (w9.setCell ⟨pw, 0, none⟩ (.slice (some ⟨G9, 0, none⟩) N N)) pw G9 N v9 Z9 ∧ G9 ≠ D ∧ G9 ≠ D + 1 ∧
    (w9.setCell ⟨pw, 0, none⟩ (.slice (some ⟨G9, 0, none⟩) N N)).heap[D]? = Wb.heap[D]? ∧ (w9.setCell ⟨pw, 0, none⟩ (.slice (some ⟨G9, 0, none⟩) N N)).heap[D + 1]? = Wb.heap[D + 1]? ∧ D + 1 < (w9.setCell ⟨pw, 0, none⟩ (.slice (some ⟨G9, 0, none⟩) N N)).heap.size := by
  refine ⟨fun b hlt hne => (heap_set_far _ _ _ _ _ hne).trans ((hb.block b (by omega)).trans (old b hlt hne)), kp_set (kp_call bel hb) hw, ⟨set_1 (has_below hv.h hb), n9.far (by omega)⟩, by omega, by omega, (heap_set_far _ _ _ _ _ (by omega)).trans (hb.block _ (by omega)), (heap_set_far _ _ _ _ _ (by omega)).trans (hb.block _ hD1), ?_⟩
  have := hb.size
  simp
  omega
theorem pow_twice (x a : Nat) : x ^ a * x ^ a = x ^ (2 * a) := by rw [← Nat.pow_add]; congr 1; omega
set_option maxHeartbeats 32000000 in
theorem mexp_any (g m : Nat) (A B : Option Addr) (n c k d : Nat) (x ex : List Nat) (w : World) (hM : MD w g m) (hA : RU w A n x) (hB : RU w B k ex) (hn : n ≤ 1000) (hk : k ≤ 1000) (hx : underB x m = true) (hr : rightB ex = true) :
    Calls Tryd.prog 25 #[.pointer (some ⟨g, 0, none⟩), .slice A n c, .slice B k d] w (NumR w (num (val x ^ val ex % m), 0)) := by
  have hM0 := hM
  have BX := Lib.hid (fun W (h : Below w.heap.size w W) => below_any g m A n c x W (hM.below h) (hA.below h) (by omega))
  rw [hx] at BX
  have RE := Lib.hid (fun W (h : Below w.heap.size w W) => right_any B k d ex W (hB.below h) (by omega))
  rw [hr] at RE
  obtain ⟨x1, x2, x3, x4⟩ := under_len hA hx
  have HM := Lib.hid hM
  have hodd := Lib.hid hM.is.odd
  have h128 := hM.is.len
  obtain ⟨⟨M, nm, cm, Q, k2, d2, hnm, h1, h2, h3, h4, h5, h6⟩, hi⟩ := hM
  have hgw := block_lt h1
  obtain ⟨_, _, cQ⟩ := cells_3 h1
  obtain ⟨N, hN⟩ : ∃ N, limbsN m = N := ⟨_, rfl⟩
  have hRN : nm = N := hnm.trans hN
  have h5' := h5
  rw [hRN] at h5'
  have hNpos := hi.pos
  have hke : k ≤ 256 := by have := ((rightB_iff ex).1 hr).1; have := hB.len; omega
  have PX : Hid (∀ W, Below w.heap.size w W → Calls Tryd.prog 45 #[.pointer (some ⟨g, 0, none⟩), .slice A n c] W fun e W' => ∃ G Z, e = .returned (.slice (some ⟨G, 0, none⟩) N N) ∧ NB W' G N (val x) Z ∧ Below W.heap.size W W') := fun W h =>
    (padded_any g m A n c x W (HM.out.below h) (hA.below h) (by omega)).mono fun e W' ⟨Z, he, p1, p2, p3, p4, p5⟩ => ⟨_, Z, by rw [he, hN], ⟨p1, by omega, p3, p4⟩, p5⟩
  have PQ : Hid (∀ W, Below w.heap.size w W → Calls Tryd.prog 45 #[.pointer (some ⟨g, 0, none⟩), .slice Q k2 d2] W fun e W' => ∃ G Z, e = .returned (.slice (some ⟨G, 0, none⟩) N N) ∧ NB W' G N (4294967296 ^ N * 4294967296 ^ N % m) Z ∧ Below W.heap.size W W') := fun W h =>
    (padded_any g m Q k2 d2 _ W (HM.out.below h) (h5'.below h) (by omega)).mono fun e W' ⟨Z, he, p1, p2, p3, p4, p5⟩ => ⟨_, Z, by rw [he, hN], ⟨p1, by omega, p3, by rw [p4, val_num]⟩, p5⟩
  have P1 : Hid (∀ W G, Below w.heap.size w W → BlkU W G [1] → Calls Tryd.prog 45 #[.pointer (some ⟨g, 0, none⟩), .slice (some ⟨G, 0, none⟩) 1 1] W fun e W' => ∃ G Z, e = .returned (.slice (some ⟨G, 0, none⟩) N N) ∧ NB W' G N 1 Z ∧ Below W.heap.size W W') := fun W G h hg =>
    (padded_any g m (some ⟨G, 0, none⟩) 1 1 [1] W (HM.out.below h) (hg.ru (Lim.cons (by decide) Lim.nil) 0 1 (by simp)) (by omega)).mono fun e W' ⟨Z, he, p1, p2, p3, p4, p5⟩ => ⟨_, Z, by rw [he, hN], ⟨p1, by omega, p3, p4⟩, p5⟩
  have RD : Hid (∀ W G1 v1 Z1 G2 v2 Z2, Below w.heap.size w W → NB W G1 N v1 Z1 → NB W G2 N v2 Z2 → v2 < m → Calls Tryd.prog 46 #[.pointer (some ⟨g, 0, none⟩), .slice (some ⟨G1, 0, none⟩) N N, .slice (some ⟨G2, 0, none⟩) N N] W fun e W' => ∃ G v Z, e = .returned (.slice (some ⟨G, 0, none⟩) N N) ∧ NB W' G N v Z ∧ Red m (4294967296 ^ N) v1 v2 v ∧ W.heap.size ≤ G ∧ Below W.heap.size W W') := fun W G1 v1 Z1 G2 v2 Z2 hb b1 b2 hv =>
    (reduced_any g m (some ⟨G1, 0, none⟩) (some ⟨G2, 0, none⟩) N N N Z1 Z2 W (HM.out.below hb) b1.ru b2.ru hN.symm (by rw [b2.v]; exact hv)).mono fun e W' h => by
      obtain ⟨G, Z, q1, q2, q3, q4, q5, q6, q7⟩ := h
      refine ⟨G, val Z, Z, by rw [q1, hN], ⟨q3, q4.trans hN, q5, rfl⟩, ?_, q2, q7⟩
      rw [hN, b1.v, b2.v] at q6
      exact q6
  have hm3 := hi.three
  have HNN := Lib.hid hN
  have hN128 : N ≤ 128 := by omega
  have HSQ : Hid (4294967296 ^ N * 4294967296 ^ N % m < m) := Nat.mod_lt _ (by omega)
  have HXL := Lib.hid x2
  have HC := Lib.hid cQ
  have HBE := Lib.hid hB
  have HRE := Lib.hid hr
  clear hA hx x1 x2 x3 x4 h1 h2 h3 h4 h5 h5' h6 hi hnm hRN hN cQ h128 hM0 hNpos hr hB
  refine (callsIn_wide (n := 4)).1 ?_
  refine callsIn_of_wp_marks Tryd.func25 rfl trivial ?_ rfl
  simp only [Tryd.ntmps25, List.size_toArray, List.length_cons, List.length_nil, Nat.reduceAdd, Nat.reduceSub, Array.replicate_succ, Array.replicate_zero, List.push_toArray, List.append_toArray, List.nil_append, List.cons_append]
  have hb0 : Hid (GB w w.heap.size (.cells #[.pointer (some ⟨g, 0, none⟩)] 52) (w.alloc (.cells #[.pointer (some ⟨g, 0, none⟩)] 52))) := ⟨kp_alloc (Below.refl _ _) _, has_new _ _⟩
  gi_wp2_with (refine ⟨trivial, ?_⟩; gi_at_call 44; refine (callsIn_wide.2 (BX.out _ hb0.out.b)).mono ?_; rintro e w1 ⟨rfl, hb⟩; have G1 := Lib.hid (hb0.out.call hb); have c1 := cells_1 G1.out.h; clear hb)
  gi_wp2_with (refine ⟨trivial, ?_⟩; gi_at_call 39; refine (callsIn_wide.2 (RE.out _ G1.out.b)).mono ?_; rintro e w' ⟨rfl, rfl⟩; clear RE BX)
  have K1 : Hid (BlkU (w1.alloc (.cells #[.int .u32 1] 59)) w1.heap.size [1]) := has_new _ _
  have G2 := Lib.hid (G1.out.alloc (.cells #[.int .u32 1] 59))
  gi_wp2_with (refine ⟨trivial, ?_⟩; gi_at_call 45; refine (callsIn_wide.2 (P1.out _ _ G2.out.b K1.out)).mono ?_; rintro e w2 ⟨GO, ZO, rfl, hO, hb⟩; have G3 := Lib.hid (G2.out.call hb); have NO := Lib.hid hO; have hz := G2.out.b.size; clear hb c1 hO)
  have KEEP : Hid (∀ W, GB w w.heap.size (.cells #[.pointer (some ⟨g, 0, none⟩)] 52) W → (W.cell? ⟨w.heap.size, 0, none⟩ = some (.pointer (some ⟨g, 0, none⟩)) ∧ W.cell? ⟨g, 2, none⟩ = some (.slice Q k2 d2)) ∧ GB w w.heap.size (.cells #[.pointer (some ⟨g, 0, none⟩)] 52) W) := fun W h => ⟨⟨cells_1 h.h, (h.b.cell (p := ⟨g, 2, none⟩) hgw).trans HC.out⟩, h⟩
  have g3 := G3.out
  clear G1 G2 K1 hb0 P1
  refine wpIn_wide.2 ?_
  go_region_held3 (fun W => (W.cell? ⟨w.heap.size, 0, none⟩ = some (.pointer (some ⟨g, 0, none⟩)) ∧ W.cell? ⟨g, 2, none⟩ = some (.slice Q k2 d2)) ∧ GB w w.heap.size (.cells #[.pointer (some ⟨g, 0, none⟩)] 52) W)
    ((apply KEEP.out; repeat (with_reducible (first | assumption | refine GB.drew ?_ | refine GB.alloc ?_ _ | refine GB.call ?_ (by assumption)))))
    (first
      | (go_at_call 45; (with_reducible refine (PQ.out _ (by (go_split_ands; exact GB.b (by assumption)))).mono ?_); (rintro e X1 ⟨GS, ZS, rfl, hS, hbS⟩; have NS := Lib.hid hS; have BS := Lib.hid hbS; clear hS)))
  have g4 : GB w w.heap.size (.cells #[.pointer (some ⟨g, 0, none⟩)] 52) X1 := by go_split_ands; assumption
  have NO4 : Hid (NB X1 GO N 1 ZO) := by
    have h9 := BS.out
    exact (NO.out.drew).call h9
  have hz1 := g4.b.size
  have hz9 := block_lt g4.h
  clear NO PQ g3 G3 BS
  gi_wp2
  gi_cut [10] from 33 (fun s wx => E7 w g m N GO GS ZO ZS (val x) s wx)
  case first =>
    rename_i J9 K9 hJ9 hK9
    refine wpIn_wide.2 ?_
    go_region_held3 (fun W => (W.cell? ⟨w.heap.size, 0, none⟩ = some (.pointer (some ⟨g, 0, none⟩)) ∧ W.cell? ⟨g, 2, none⟩ = some (.slice Q k2 d2)) ∧ GB w w.heap.size (.cells #[.pointer (some ⟨g, 0, none⟩)] 52) W)
      ((apply KEEP.out; repeat (with_reducible (first | assumption | refine GB.drew ?_ | refine GB.alloc ?_ _ | refine GB.call ?_ (by assumption) | refine GB.set ?_ (by first | omega | (simp; omega)) (by first | omega | (simp; omega))))))
      (first
        | (go_at_call 45; (with_reducible refine (PX.out _ (by (go_split_ands; exact GB.b (by assumption)))).mono ?_); (rintro e X2 ⟨GX, ZX, rfl, hX, hbX⟩; have NX := Lib.hid hX; have hzX : X1.heap.size ≤ X2.heap.size := (by have h9 := hbX.size; (try simp at h9); omega); clear hX))
        | (go_at_call 46; (with_reducible refine (RD.out _ GX (val x) ZX GS (4294967296 ^ N * 4294967296 ^ N % m) ZS (by (go_split_ands; exact GB.b (by assumption))) (by (repeat (with_reducible (first | exact NX.out | refine NB.drew ?_ | refine NB.alloc ?_ _ | refine NB.call ?_ (by assumption))))) (by (repeat (with_reducible (first | exact NS.out | refine NB.drew ?_ | refine NB.alloc ?_ _ | refine NB.call ?_ (by assumption))))) HSQ.out).mono ?_); (rintro e X3 ⟨GR, vR, ZR, rfl, hR, hred, hgeR, hbR⟩; have NR := Lib.hid hR; have HRED := Lib.hid hred; have hzR : X2.heap.size ≤ X3.heap.size := (by have h9 := hbR.size; (try simp at h9); omega); have k3 : X3.heap[X1.heap.size]? = some (.cells #[.slice none 0 0] 49) := has_below (has_of_alloc hbX rfl) hbR; have e3 := cells_1 k3; have f3 := free_1 k3; clear hR hred))
        | (go_at_call 46; (with_reducible refine (RD.out _ GX (val x) ZX GS (4294967296 ^ N * 4294967296 ^ N % m) ZS (by (go_split_ands; exact GB.b (by assumption))) (by (repeat (with_reducible (first | exact NX.out | refine NB.drew ?_ | refine NB.alloc ?_ _ | refine NB.call ?_ (by assumption))))) (by (repeat (with_reducible (first | exact NS.out | refine NB.drew ?_ | refine NB.alloc ?_ _ | refine NB.call ?_ (by assumption))))) HSQ.out).mono ?_); (rintro e X3 ⟨GR, vR, ZR, rfl, hR, hred, hgeR, hbR⟩; have NR := Lib.hid hR; have HRED := Lib.hid hred; have hzR : X2.heap.size ≤ X3.heap.size := (by have h9 := hbR.size; (try simp at h9); omega); have k3 : X3.heap[X2.heap.size]? = some (.cells #[.slice none 0 0] 49) := has_of_alloc hbR rfl; have e3 := cells_1 k3; have f3 := free_1 k3; clear hR hred))
        | (go_at_call 46; (with_reducible refine (RD.out _ GX (val x) ZX GS (4294967296 ^ N * 4294967296 ^ N % m) ZS (by (go_split_ands; exact GB.b (by assumption))) (by (repeat (with_reducible (first | exact NX.out | refine NB.drew ?_ | refine NB.alloc ?_ _ | refine NB.call ?_ (by assumption))))) (by (repeat (with_reducible (first | exact NS.out | refine NB.drew ?_ | refine NB.alloc ?_ _ | refine NB.call ?_ (by assumption))))) HSQ.out).mono ?_); (rintro e X3 ⟨GR, vR, ZR, rfl, hR, hred, hgeR, hbR⟩; have NR := Lib.hid hR; have HRED := Lib.hid hred; have hzR : X2.heap.size ≤ X3.heap.size := (by have h9 := hbR.size; (try simp at h9); omega); clear hR hred)))
    all_goals
      refine hK9 _ _ (Met.intro (hJ9 _ _ ?_))
      (repeat apply Exists.intro)
      refine ⟨?_, rfl⟩
      have hvR := red_to hodd.out HRED.out
      have hn3 := NR.out
      rw [hvR] at hn3
      have lo := NO4.out.lt
      have ls := NS.out.lt
      have hge2 : GR < X3.heap.size := hn3.lt
      have hge3 := hgeR
      (try simp at hge3)
      have hb9 := hbX.size
      (try simp at hb9)
      refine ⟨⟨_, GR, ZR, rfl, ⟨?_, ?_⟩, ?_⟩, ?_, ?_, ?_⟩
      · first | exact has_new _ _ | exact set_1 k3
      · first | exact hn3.alloc _ | exact hn3.far (by omega)
      · omega
      · (repeat (with_reducible (first | exact NO4.out | refine NB.drew ?_ | refine NB.alloc ?_ _ | refine NB.far ?_ (by omega) | refine NB.call ?_ (by assumption))))
      · (repeat (with_reducible (first | exact NS.out | refine NB.drew ?_ | refine NB.alloc ?_ _ | refine NB.far ?_ (by omega) | refine NB.call ?_ (by assumption))))
      · go_split_ands; assumption
  case rest =>
    obtain ⟨ra, GR, ZR, rfl, hV, hra⟩ := hcut.ex
    have HV := Lib.hid hV
    have NO7 := Lib.hid hcut.o
    have NS7 := Lib.hid hcut.q
    have g7 := hcut.g
    have hz7 := g7.b.size
    have hra2 : ra < wc.heap.size := block_lt hV.h
    clear hcut hV NO4 NS g4 hz1 hz9 PX
    have c7 := cells_1 g7.h
    have hgb := g7.b
    gi_wp2_with (refine ⟨trivial, ?_⟩; gi_at_call 46; refine (callsIn_wide.2 (RD.out _ GO 1 ZO GS (4294967296 ^ N * 4294967296 ^ N % m) ZS hgb NO7.out NS7.out HSQ.out)).mono ?_; rintro e w8 ⟨GP, vP, ZP, rfl, hP, hred, hge, hb⟩)
    gi_wp2_with (refine ⟨trivial, ?_⟩; gi_at_call 47; refine (callsIn_wide.2 (bitsOf_any _ _ _ _)).mono ?_; rintro e w' ⟨rfl, rfl⟩)
    have hvP := red_to hodd.out hred
    rw [hvP] at hP
    have hP0 : NB w8 GP N (val x ^ 0 * 4294967296 ^ N % m) ZP := by rw [Nat.pow_zero]; exact hP
    have hgl : wc.heap.size ≤ GP := hge
    have hz8 := hb.size
    have gp8 : GP < w8.heap.size := hP.lt
    have HW0 : Hid (∀ W0, ((w8.alloc (.cells #[.slice (some ⟨GP, 0, none⟩) N N] 49)).alloc (.cells #[.slice B k d] 49)) = W0 →
        VB W0 w8.heap.size GP N (val x ^ 0 * 4294967296 ^ N % m) ZP ∧ VB W0 ra GR N (val x * 4294967296 ^ N % m) ZR ∧ NB W0 GO N 1 ZO ∧ GB w w.heap.size (.cells #[.pointer (some ⟨g, 0, none⟩)] 52) W0 ∧ W0.heap[w8.heap.size + 1]? = some (.cells #[.slice B k d] 49) ∧ W0.heap.size = w8.heap.size + 2) := fun W0 h => by
      rw [← h]
      refine ⟨⟨has_alloc (has_new _ _) _, (hP0.alloc _).alloc _⟩, ((HV.out.call hb).alloc _).alloc _, ((NO7.out.call hb).alloc _).alloc _, ((g7.call hb).alloc _).alloc _, has_new' _ _ _ (by simp), by simp⟩
    refine wpIn_nm fun W0 hW0 => ?_
    obtain ⟨k1, k2', k3, k4, k5, hs0⟩ := HW0.out W0 hW0
    obtain ⟨pw, hpw⟩ : ∃ pw, w8.heap.size = pw := ⟨_, rfl⟩
    rw [hpw] at k1 k5 hs0 ⊢
    have HK1 := Lib.hid k1
    have HK2 := Lib.hid k2'
    have HK3 := Lib.hid k3
    have HK4 := Lib.hid k4
    have HK5 := Lib.hid k5
    have hrapw : ra < pw := by omega
    have hGOpw : GO < pw := by have := NO7.out.lt; omega
    have hGRpw : GR < pw := by have := HV.out.n.lt; omega
    have hwra : w.heap.size < ra := hra
    have hGR := Lib.hid k2'.n.lt
    have hGO := Lib.hid k3.lt
    have HS0 := Lib.hid hs0
    clear hW0 HW0 k1 k2' k3 k4 k5 hP hP0 hred hge hb hvP HV NO7 NS7 g7 c7 hgb hz7 hra2 hz8 gp8 hgl hpw
    refine range_run (gf := 71) (lb := #[.pointer (some ⟨pw + 1, 0, none⟩)]) rfl (enters_of Tryd.func71 (by kernel_rfl) rfl) (by omega) bEnc (fun x => rfl) (fun _ => False) (fun b hb => hb.elim)
      (IE w W0 pw N m (val x)) (fun _ _ => False) (fun xs => accB xs = val ex) (fun _ => True) (bitsN (val ex))
      ?hI ?hIx ?h0 ?round ?iter ?done ?stop
    case hI =>
      rintro pre W b o h1 h2 hi
      exact hi.put h1 h2 (by rw [HS0.out]; omega) HK4.out.b.size
    case hIx => rintro pre W b o h1 h2 hi; exact hi.elim
    case h0 =>
      intro o1 o2
      have hg1 : GP < W0.heap.size := HK1.out.n.lt
      exact ⟨fun b hb hne => (heap_alloc_old _ _ (by simp; omega)).trans (heap_alloc_old _ _ hb), kp_alloc (kp_alloc HK4.out.b _) _, GP, ZP, (HK1.out.alloc _).alloc _, by omega, by omega⟩
    case iter =>
      exact bits1_in k d W0.heap.size (pw + 1) B ex w HBE.out HRE.out hke (IE w W0 pw N m (val x)) (fun pre W h => ⟨h.bel, (h.old _ (by rw [HS0.out]; omega) (by omega)).trans HK5.out⟩)
    case done =>
      rintro xs W hS hi hD
      obtain ⟨G, Z, hv, g1, g2⟩ := hi.cur
      rw [hS] at hv
      have hone : NB W GO N 1 ZO := ⟨(hi.old GO hGO.out (by omega)).trans HK3.out.b, HK3.out.l, HK3.out.m, HK3.out.v⟩
      have h0 : W.heap[w.heap.size]? = some (.cells #[.pointer (some ⟨g, 0, none⟩)] 52) := (hi.old _ (by have := block_lt HK4.out.h; omega) (by omega)).trans HK4.out.h
      have c0 := cells_1 h0
      have cp := cells_1 hv.h
      have hbw := hi.bel
      have hzW := hbw.size
      have hDl := block_lt hD
      have HBL : Hid (∀ w9, Below W.heap.size W w9 → w9.heap[W0.heap.size]? = some (.deferred (some []))) := fun w9 h => has_below hD h
      have HHV := Lib.hid hv.n
      have HONE := Lib.hid hone
      clear hS hi hv h0 hone hD
      gi_wp2_with (refine ⟨trivial, ?_⟩; gi_at_call 46; refine (callsIn_wide.2 (RD.out W G (val x ^ val ex * 4294967296 ^ N % m) Z GO 1 ZO hbw HHV.out HONE.out (by omega))).mono ?_; rintro e w9 ⟨G9, v9, Z9, rfl, n9, r9, ge9, hb9⟩)
      have hv9 := red_out hodd.out r9
      rw [hv9] at n9
      have htk := trim_num Z9 n9.m N (by have := n9.l; omega)
      rw [show Z9.take N = Z9 from take_all (by have := n9.l; omega), n9.v] at htk
      have htl := trimN_le Z9 N
      have TR := mtrim_any G9 N Z9 w9 n9.b n9.l (by omega)
      obtain ⟨t, ht⟩ : ∃ t, trimN Z9 N = t := ⟨_, rfl⟩
      rw [ht] at TR htk htl
      have TR := Lib.hid TR
      have n9p : NB (w9.putObj W0.heap.size (.deferred none)) G9 N (val x ^ val ex % m) Z9 := ⟨(World.putObj_heap_other (by omega)).trans n9.b, n9.l, n9.m, n9.v⟩
      have HF : Hid (NumS (w9.putObj W0.heap.size (.deferred none)) w.heap.size (some ⟨G9, 0, none⟩) t (num (val x ^ val ex % m)) ∧ Below w.heap.size w (w9.putObj W0.heap.size (.deferred none))) :=
        ⟨NumS.of n9p.b (by omega) n9p.m (by have := n9p.l; omega) htk, (kp_call hbw hb9).grown (grownBy_putObj' w9 W0.heap.size (.deferred none)) (kp_call hbw hb9).size (fun g hg => by injection hg with hg; have := HK4.out.b.size; omega)⟩
      have hD9 := HBL.out w9 hb9
      clear n9 n9p r9 ge9 hv9 htk ht HHV HONE HBL cp c0
      gi_wp2_with (refine ⟨trivial, ?_⟩; gi_at_call 48; refine (callsIn_wide.2 TR.out).mono ?_; rintro e w' ⟨rfl, rfl⟩)
      rw [hs0] at hD9 HF
      refine ⟨by simp, .inl ⟨_, _, rfl, run_takeDeferred hD9, ?_⟩⟩
      refine ⟨_, results_tmp2 rfl _ _ _, ?_⟩
      exact ⟨_, t, N, rfl, HF.out.1, htl, by omega, by omega, HF.out.2⟩
    case stop => rintro pre W hSp hi hD; exact hi.elim
    case round =>
      rintro pre b W r o hL hD hi hlen
      have hLlt := block_lt hL
      simp only [bEnc]
      gi_wp2
      refine ⟨hL, hD, fun b hb => hb.elim, fun r' => ?_⟩
      obtain ⟨G, Z, hv, g1, g2⟩ := hi.cur
      have hpW0 : pw < W0.heap.size := by rw [HS0.out]; omega
      have hv' := hv.put (o := .loop r') (k := W0.heap.size + 1) (by omega) g2
      have ho' : ∀ b, b < W0.heap.size → b ≠ pw → (W.putObj (W0.heap.size + 1) (.loop r')).heap[b]? = W0.heap[b]? := fun b hb hne => (World.putObj_heap_other (by omega)).trans (hi.old b hb hne)
      have hb' : Below w.heap.size w (W.putObj (W0.heap.size + 1) (.loop r')) := hi.bel.grown (grownBy_putObj' W _ _) hi.bel.size (fun g hg => by injection hg with hg; have := HK4.out.b.size; omega)
      have hl' : (W.putObj (W0.heap.size + 1) (.loop r')).heap[W0.heap.size + 1]? = some (.loop r') := World.putObj_heap_same hLlt
      have hLB := block_lt hl'
      generalize hWb : (W.putObj (W0.heap.size + 1) (.loop r')) = Wb at *
      have h0 : Wb.heap[w.heap.size]? = some (.cells #[.pointer (some ⟨g, 0, none⟩)] 52) := (ho' _ (by have := block_lt HK4.out.h; omega) (by omega)).trans HK4.out.h
      have c0 := cells_1 h0
      have cp := cells_1 hv'.h
      have hvm : val x ^ accB pre * 4294967296 ^ N % m < m := Nat.mod_lt _ (by omega)
      have hvx : val x * 4294967296 ^ N % m < m := Nat.mod_lt _ (by omega)
      have hD1 : W0.heap.size + 1 < Wb.heap.size := hLB
      have hwpw : w.heap.size ≤ pw := by omega
      have HO := Lib.hid ho'
      have HB' := Lib.hid hb'
      have HV' := Lib.hid hv'
      have HL' := Lib.hid hl'
      clear ho' hb' hv' hl' hL hD hi hv hWb h0
      cases b with
      | false =>
        gi_wp2_with (refine ⟨trivial, ?_⟩; gi_at_call 46; refine ((callsIn_wide.2 (RD.out Wb G (val x ^ accB pre * 4294967296 ^ N % m) Z G (val x ^ accB pre * 4294967296 ^ N % m) Z HB'.out HV'.out.n HV'.out.n hvm)).inRound _).mono ?_; rintro e w9 ⟨G9, v9, Z9, rfl, n9, r9, ge9, hb9⟩; have k9 := has_below HV'.out.h hb9; have e9 := cells_1 k9; have f9 := free_1 k9; clear k9)
        have hv9 := red_mm hodd.out r9
        rw [pow_twice] at hv9
        obtain ⟨q1, q2, q3, q4, q5, q6, q7, q8⟩ := IE.store HO.out HB'.out HV'.out hb9 n9 ge9 rfl hD1 hpW0 hwpw
        rw [hv9] at q3
        exact ⟨q7.trans HL'.out, q6, fun b hb => hb.elim, q1, q2, G9, Z9, by rw [accB_snoc]; exact q3, q4, q5⟩
      | true =>
        gi_wp2_with (refine ⟨trivial, ?_⟩; gi_at_call 46; first
          | ((with_reducible refine ((callsIn_wide.2 (RD.out Wb G (val x ^ accB pre * 4294967296 ^ N % m) Z G (val x ^ accB pre * 4294967296 ^ N % m) Z HB'.out HV'.out.n HV'.out.n hvm)).inRound _).mono ?_); rintro e w9 ⟨G9, v9, Z9, rfl, n9, r9, ge9, hb9⟩; have k9 := has_below HV'.out.h hb9; have e9 := cells_1 k9; have f9 := free_1 k9; have hv9 := red_mm hodd.out r9; rw [pow_twice] at hv9; obtain ⟨q1, q2, q3, q4, q5, q6, q7, q8⟩ := IE.store HO.out HB'.out HV'.out hb9 n9 ge9 rfl hD1 hpW0 hwpw; rw [hv9] at q3; have c10 := cells_1 ((q1 w.heap.size (by have := block_lt HK4.out.h; omega) (by omega)).trans HK4.out.h); have p10 := cells_1 q3.h; have kr10 := (q1 ra (by omega) (by omega)).trans HK2.out.h; have r10 := cells_1 kr10; have nr10 : NB (w9.setCell ⟨pw, 0, none⟩ (.slice (some ⟨G9, 0, none⟩) N N)) GR N (val x * 4294967296 ^ N % m) ZR := ⟨(q1 GR hGR.out (by omega)).trans HK2.out.n.b, HK2.out.n.l, HK2.out.n.m, HK2.out.n.v⟩; have hvm2 : val x ^ (2 * accB pre) * 4294967296 ^ N % m < m := Nat.mod_lt _ (by omega); have Q := Lib.hid (And.intro q1 (And.intro q2 (And.intro q3 (And.intro q6 (And.intro q7 q8))))); have NR10 := Lib.hid nr10; clear q1 q2 q3 q6 q7 q8 q4 q5 k9 kr10 nr10 n9 r9 hb9 ge9 hv9)
          | ((with_reducible refine ((callsIn_wide.2 (RD.out _ G9 (val x ^ (2 * accB pre) * 4294967296 ^ N % m) Z9 GR (val x * 4294967296 ^ N % m) ZR Q.out.2.1 Q.out.2.2.1.n NR10.out hvx)).inRound _).mono ?_); rintro e w11 ⟨G11, v11, Z11, rfl, n11, r11, ge11, hb11⟩; have k11 := has_below Q.out.2.2.1.h hb11; have e11 := cells_1 k11; have f11 := free_1 k11; clear k11))
        have hv11 := red_mm hodd.out r11
        rw [← Nat.pow_succ] at hv11
        obtain ⟨t1, t2, t3, t4, t5, t6, t7, t8⟩ := IE.store Q.out.1 Q.out.2.1 Q.out.2.2.1 hb11 n11 ge11 rfl Q.out.2.2.2.2.2 hpW0 hwpw
        rw [hv11] at t3
        exact ⟨(t7.trans Q.out.2.2.2.2.1).trans HL'.out, t6.trans Q.out.2.2.2.1, fun b hb => hb.elim, t1, t2, G11, Z11, by rw [accB_snoc]; exact t3, t4, t5⟩
end Go.Proofs.YtbplchpbaonadaaDoor
