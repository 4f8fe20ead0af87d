/-
  slices: swapRange in place.
-/
import Derived.Test.YtamkbedbkjndgaaSrq
import Derived.Test.YtamkbedbkjndgaaSg
import Derived.Test.YtamkbedbkjndgaaRow
import Derived.BigRegion
namespace Go.Proofs.Ytamkbedbkjndgaa
open Go.RowKit Go
set_option linter.unusedVariables false
set_option linter.unusedSimpArgs false
set_option maxRecDepth 100000
/-- A row of texts under sorting: its cells, and that all else is as it was. -/
structure ST (w0 : World) (g n c : Nat) (ds : List Own1) (W : World) : Prop where
  own : OwnR W w0.heap.size 22 1 (some ⟨g, 0, none⟩) n c (ds.map Own1.val)
  bel : Below w0.heap.size w0 W
  ok : ∀ x ∈ ds, RB w0 x.1 x.2.1 x.2.2.2
section
variable {w0 W W' : World} {g n c : Nat} {ds : List Own1}
theorem ST.len (h : ST w0 g n c ds W) : ds.length = n := by have := h.own.len; simpa using this
theorem ST.drew (h : ST w0 g n c ds W) : ST w0 g n c ds W.drew := ⟨h.own.drew, h.bel.drew, h.ok⟩
theorem ST.drewN (h : ST w0 g n c ds W) (k : Nat) : ST w0 g n c ds (W.drewN k) := ⟨h.own.drewN k, kp_drewN h.bel k, h.ok⟩
theorem ST.cell (h : ST w0 g n c ds W) {i : Nat} {x : Own1} (hx : ds[i]? = some x) : W.cell? ⟨g, i, none⟩ = some (.slice x.1 x.2.1 x.2.2.1) := by
  obtain ⟨b, off, e, _, hc⟩ := h.own.reads.at_ (j := i) (u := x.val) (by rw [List.getElem?_map, hx]; rfl)
  cases e
  simpa [Own1.val] using hc
theorem ST.free (h : ST w0 g n c ds W) (i : Nat) : W.frozen? ⟨g, i, none⟩ = false := h.own.free i
theorem ST.rb (h : ST w0 g n c ds W) {i : Nat} {x : Own1} (hx : ds[i]? = some x) (hb : Below w0.heap.size w0 W') : RB W' x.1 x.2.1 x.2.2.2 := (h.ok x (List.mem_of_getElem? hx)).below hb
theorem ST.get (h : ST w0 g n c ds W) {i : Nat} (hi : i < n) : ∃ x, ds[i]? = some x := ⟨_, List.getElem?_eq_getElem (by rw [h.len]; exact hi)⟩
theorem ST.ge (h : ST w0 g n c ds W) : w0.heap.size ≤ g := (h.own.blk_lt rfl).1
theorem ST.swap (h : ST w0 g n c ds W) {i j : Nat} {x y : Own1} (hi : ds[i]? = some x) (hj : ds[j]? = some y) : ST w0 g n c ((ds.set i y).set j x) ((W.setCell ⟨g, i, none⟩ (.slice y.1 y.2.1 y.2.2.1)).setCell ⟨g, j, none⟩ (.slice x.1 x.2.1 x.2.2.1)) := by
  have hg := h.ge
  refine ⟨?_, kp_set (kp_set h.bel hg) hg, fun z hz => h.ok z ((swap_perm ds i j x y hi hj).mem_iff.1 hz)⟩
  have := (h.own.stored i y.val).stored j x.val
  rw [← List.map_set, ← List.map_set] at this
  exact this
theorem ST.cell2 (h : ST w0 g n c ds W) {i j : Nat} {y : Own1} (hj : ds[j]? = some y) (hne : i ≠ j) (v : Value) : (W.setCell ⟨g, i, none⟩ v).cell? ⟨g, j, none⟩ = some (.slice y.1 y.2.1 y.2.2.1) :=
  (World.cell?_setCell_other _ _ _ _ (by intro e; simp only [Addr.mk.injEq] at e; omega)).trans (h.cell hj)
end
/-- Two stretches of k, swapped. -/
structure SwR (a b k : Nat) (ds ds' : List Own1) : Prop where
  perm : ds'.Perm ds
  fst : ∀ i, i < k → ds'[a + i]? = ds[b + i]?
  snd : ∀ i, i < k → ds'[b + i]? = ds[a + i]?
  out : ∀ j, (j < a ∨ a + k ≤ j) → (j < b ∨ b + k ≤ j) → ds'[j]? = ds[j]?
theorem SwR.zero (a b : Nat) (ds : List Own1) : SwR a b 0 ds ds := ⟨.refl _, fun i h => absurd h (Nat.not_lt_zero _), fun i h => absurd h (Nat.not_lt_zero _), fun _ _ _ => rfl⟩
theorem SwR.step {a b k : Nat} {ds dk : List Own1} {x y : Own1} (h : SwR a b k ds dk) (hd : a + k < b ∨ b + k < a) (hx : dk[a + k]? = some x) (hy : dk[b + k]? = some y) : SwR a b (k + 1) ds ((dk.set (a + k) y).set (b + k) x) := by
  have l1 : a + k < dk.length := (List.getElem?_eq_some_iff.1 hx).1
  have l2 : b + k < dk.length := (List.getElem?_eq_some_iff.1 hy).1
  have ex : ds[a + k]? = some x := by rw [← hx]; exact (h.out _ (by omega) (by omega)).symm
  have ey : ds[b + k]? = some y := by rw [← hy]; exact (h.out _ (by omega) (by omega)).symm
  refine ⟨(swap_perm dk _ _ x y hx hy).trans h.perm, fun i hi => ?_, fun i hi => ?_, fun j h1 h2 => ?_⟩
  · rw [List.getElem?_set_ne (by omega)]
    by_cases e : i = k
    · subst e
      rw [List.getElem?_set_self l1, ey]
    · rw [List.getElem?_set_ne (by omega)]
      exact h.fst i (by omega)
  · by_cases e : i = k
    · subst e
      rw [List.getElem?_set_self (by simpa using l2), ex]
    · rw [List.getElem?_set_ne (by omega), List.getElem?_set_ne (by omega)]
      exact h.snd i (by omega)
  · rw [List.getElem?_set_ne (by omega), List.getElem?_set_ne (by omega)]
    exact h.out j (by omega) (by omega)
set_option maxHeartbeats 1000000 in
theorem swapRange_any (w0 W : World) (g n c a b k : Nat) (ds : List Own1) (fn : Value) (hS : ST w0 g n c ds W) (hn : n ≤ 1000000000) (ha : a + k ≤ n) (hb : b + k ≤ n) (hd : a + k ≤ b ∨ b + k ≤ a) :
    Calls Try.prog 57 #[.slice (some ⟨g, 0, none⟩) n c, .int .i64 (a : Int), .int .i64 (b : Int), .int .i64 (k : Int), fn] W fun e w' => e = .returned (.tuple #[]) ∧ ∃ ds', ST w0 g n c ds' w' ∧ SwR a b k ds ds' := by
  have HS := Lib.hid hS
  clear hS
  go_enter Try.func57, Try.ntmps57
  go_wp2
  go_loopw [10] (fun i wl => ∃ (j : Nat) (dk : List Own1), i = .int .i64 (j : Int) ∧ j ≤ k ∧ Hid (ST w0 g n c dk wl ∧ SwR a b j ds dk)) (fun i _ => k - (intOf i).toNat)
  case atStart => exact ⟨0, ds, rfl, Nat.zero_le _, HS.out, SwR.zero _ _ _⟩
  case round =>
    obtain ⟨j, dk, rfl, hj, HK⟩ := hrel
    by_cases hlt : j < k
    · obtain ⟨hs, hr⟩ := HK.out
      obtain ⟨x, hx⟩ := hs.get (show a + j < n by omega)
      obtain ⟨y, hy⟩ := hs.get (show b + j < n by omega)
      have c1 := hs.cell hx
      have c2 := hs.cell hy
      have f1 := hs.free (a + j)
      have f2 := hs.free (b + j)
      have c3 := hs.cell2 (i := a + j) hy (by omega) (.slice y.1 y.2.1 y.2.2.1)
      have HN : Hid (ST w0 g n c ((dk.set (a + j) y).set (b + j) x) ((wr.setCell ⟨g, a + j, none⟩ (.slice y.1 y.2.1 y.2.2.1)).setCell ⟨g, b + j, none⟩ (.slice x.1 x.2.1 x.2.2.1)) ∧ SwR a b (j + 1) ds ((dk.set (a + j) y).set (b + j) x)) := ⟨hs.swap hx hy, hr.step (by omega) hx hy⟩
      clear hs hr hx hy
      have s1 : IntKind.i64.wrap ((a : Int) + (j : Int)) = (a : Int) + (j : Int) := by rw [IntKind.wrap_i64]; omega
      have s2 : IntKind.i64.wrap ((b : Int) + (j : Int)) = (b : Int) + (j : Int) := by rw [IntKind.wrap_i64]; omega
      have p1 : (0 : Int) ≤ (a : Int) + (j : Int) := by omega
      have p2 : (0 : Int) ≤ (b : Int) + (j : Int) := by omega
      have b1 : (a : Int) + (j : Int) < (n : Int) := by omega
      have b2 : (b : Int) + (j : Int) < (n : Int) := by omega
      have n1 : ((a : Int) + (j : Int)).toNat = a + j := by omega
      have n2 : ((b : Int) + (j : Int)).toNat = b + j := by omega
      obtain ⟨xa, xn, xc, xb⟩ := x
      obtain ⟨ya, yn, yc, yb⟩ := y
      simp only at c1 c2 c3
      go_wp2_with fail
      go_region
      all_goals
        clear s1 s2 n1 n2
        go_wp2
        go_roundw
        case rel => exact ⟨j + 1, _, by go_num, by omega, HN.out.1.drew, HN.out.2⟩
        case measure => simp [intOf]; omega
    · obtain rfl : j = k := by omega
      go_wp2
      go_end0
      exact ⟨rfl, dk, HK.out⟩
end Go.Proofs.Ytamkbedbkjndgaa
