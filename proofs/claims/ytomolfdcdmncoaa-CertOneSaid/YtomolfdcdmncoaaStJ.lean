/-
  stamp: which of two moments comes first.
-/
import Derived.Test.YtomolfdcdmncoaaCb7
import Derived.StillTailTactics
import Derived.Deep.RegionHeld3
import Derived.Deep.DeepCutAuto
import Derived.Deep.DrawnRows
namespace Go.Proofs.Ytomolfdcdmncoaa
open Go.RowKit Go
set_option linter.unusedVariables false
set_option linter.unusedSimpArgs false
set_option maxRecDepth 100000
attribute [local go_sem ↓] Go.wp_at_zero Go.wp_at_succ
/-- The number k of a moment's six. -/
def Tm.num (t : Tm) (k : Nat) : Nat := match k with
  | 0 => t.y
  | 1 => t.mo.toNat
  | 2 => t.d.toNat
  | 3 => t.h.toNat
  | 4 => t.mi.toNat
  | _ => t.s.toNat
theorem Tm.row_at (t : Tm) (k : Nat) (hk : k < 6) : t.row[k]? = some (.int .i64 (t.num k : Int)) := by
  match k, hk with
  | 0, _ => rfl
  | 1, _ => rfl
  | 2, _ => rfl
  | 3, _ => rfl
  | 4, _ => rfl
  | 5, _ => rfl
/-- From number k on: is t less? -/
def lessFrom (t u : Tm) : Nat → Nat → Bool
  | 0, _ => false
  | n + 1, k => if t.num k = u.num k then lessFrom t u n (k + 1) else decide (t.num k < u.num k)
def lessB (t u : Tm) : Bool := lessFrom t u 6 0
structure Two (w0 w : World) (g5 g6 : Nat) (t u : Tm) : Prop where
  ne : g5 ≠ g6
  b : Below w0.heap.size w0 w
  h5 : ∀ k, k < 6 → w.cell? ⟨g5, k, none⟩ = some (.int .i64 (t.num k : Int))
  h6 : ∀ k, k < 6 → w.cell? ⟨g6, k, none⟩ = some (.int .i64 (u.num k : Int))
structure Two5 (w : World) (g5 g6 : Nat) (t u : Tm) : Prop where
  h5 : ∀ k, k < 6 → w.cell? ⟨g5, k, none⟩ = some (.int .i64 (t.num k : Int))
  h6 : ∀ k, k < 6 → w.cell? ⟨g6, k, none⟩ = some (.int .i64 (u.num k : Int))
theorem Two5.dn {w : World} {g5 g6 : Nat} {t u : Tm} (h : Two5 w g5 g6 t u) (k : Nat) : Two5 (w.drewN k) g5 g6 t u := ⟨h.h5, h.h6⟩
theorem six {P : Nat → Prop} (h0 : P 0) (h1 : P 1) (h2 : P 2) (h3 : P 3) (h4 : P 4) (h5 : P 5) : ∀ k, k < 6 → P k := fun k hk => by
  match k, hk with
  | 0, _ => exact h0
  | 1, _ => exact h1
  | 2, _ => exact h2
  | 3, _ => exact h3
  | 4, _ => exact h4
  | 5, _ => exact h5
theorem cs_here {w : World} {g j : Nat} {u : Value} (h : (w.cell? ⟨g, j, none⟩).isSome = true) : (w.setCell ⟨g, j, none⟩ u).cell? ⟨g, j, none⟩ = some u := by
  obtain ⟨v, hv⟩ := Option.isSome_iff_exists.1 h
  exact World.cell?_setCell_same w ⟨g, j, none⟩ u hv
theorem cs_some {w : World} {a b : Addr} {u : Value} (h : (w.cell? a).isSome = true) : ((w.setCell b u).cell? a).isSome = true := by
  by_cases e : a = b
  · subst e
    obtain ⟨v, hv⟩ := Option.isSome_iff_exists.1 h
    rw [World.cell?_setCell_same w a u hv]; rfl
  · rw [World.cell?_setCell_other w b a u (fun h => e h.symm)]; exact h
/-- What stays as it was: below the block that comes next in W1. -/
def LS (W1 w : World) : Prop := Below W1.heap.size W1 w
theorem LS.refl (W : World) : LS W W := Below.refl _ _
theorem LS.drew {W w : World} (h : LS W w) : LS W w.drew := Below.drew h
theorem LS.alloc {W w : World} (h : LS W w) (o : Obj) : LS W (w.alloc o) := Below.alloc h h.size o
theorem LS.call {W w w2 : World} (h : LS W w) (hb : Below w.heap.size w w2) : LS W w2 := Below.trans h (hb.mono h.size)
theorem LS.set {W w : World} (h : LS W w) {b o : Nat} (hp : W.heap.size ≤ b) (u : Value) : LS W (w.setCell ⟨b, o, none⟩ u) := Below.setCell h hp u
theorem bcell {W w1 : World} (hb : Below W.heap.size W w1) : (∀ b o, b < W.heap.size → w1.cell? ⟨b, o, none⟩ = W.cell? ⟨b, o, none⟩) ∧ (∀ b o, b < W.heap.size → w1.frozen? ⟨b, o, none⟩ = W.frozen? ⟨b, o, none⟩) :=
  ⟨fun b o h => hb.cell (p := ⟨b, o, none⟩) h, fun b o h => hb.frozen (p := ⟨b, o, none⟩) h⟩
set_option maxHeartbeats 3200000 in
theorem less_any (t u : Tm) (w : World) (hy : t.y < 65536) (hu : u.y < 65536) : Calls Try.prog 76 #[tmV t, tmV u] w fun e w' => e = .returned (.bool (lessB t u)) ∧ Below w.heap.size w w' := by
  have P := Lib.hid (fun W => partsOf_any t W hy)
  have Q := Lib.hid (fun W => partsOf_any u W hu)
  have hH0 : ∀ a b : Obj, ((w.alloc a).alloc b).heap[w.heap.size]? = some a := fun a b => by
    rw [heap_alloc_old _ _ (by simp)]; exact heap_alloc_new w a
  have hH1 : ∀ a b : Obj, ((w.alloc a).alloc b).heap[w.heap.size + 1]? = some b := fun a b => by
    have := heap_alloc_new (w.alloc a) b
    simpa using this
  have HBW : Hid (∀ a b : Obj, Below w.heap.size w ((w.alloc a).alloc b)) := fun a b => ((Below.refl _ _).alloc (Nat.le_refl _) _).alloc (by simp) _
  have HH0 := Lib.hid hH0
  have HH1 := Lib.hid hH1
  clear hH0 hH1
  obtain ⟨y, mo, d, h', mi, s'⟩ := t
  obtain ⟨y2, mo2, d2, h2', mi2, s2'⟩ := u
  unfold tmV Tm.cells at P Q ⊢
  unfold partsV at P Q
  obtain ⟨B, hB⟩ : ∃ B, lessB ⟨y, mo, d, h', mi, s'⟩ ⟨y2, mo2, d2, h2', mi2, s2'⟩ = B := ⟨_, rfl⟩
  rw [hB]
  have HB := Lib.hid hB
  clear hB
  simp only at P Q ⊢
  go_enter Try.func76, Try.ntmps76
  go_upto_region 1 with fail
  go_cut [5, 6] (fun s5 s6 wx => ∃ g5 g6 : Nat, s5 = .pointer (some ⟨g5, 0, none⟩) ∧ s6 = .pointer (some ⟨g6, 0, none⟩) ∧ Two w wx g5 g6 ⟨y, mo, d, h', mi, s'⟩ ⟨y2, mo2, d2, h2', mi2, s2'⟩)
  case first =>
    have k0 := HH0.out (.cells #[.int .u16 (y : Int), .int .u8 (mo.toNat : Int), .int .u8 (d.toNat : Int), .int .u8 (h'.toNat : Int), .int .u8 (mi.toNat : Int), .int .u8 (s'.toNat : Int)] 25) (.cells #[.int .u16 (y2 : Int), .int .u8 (mo2.toNat : Int), .int .u8 (d2.toNat : Int), .int .u8 (h2'.toNat : Int), .int .u8 (mi2.toNat : Int), .int .u8 (s2'.toNat : Int)] 25)
    have k1 := HH1.out (.cells #[.int .u16 (y : Int), .int .u8 (mo.toNat : Int), .int .u8 (d.toNat : Int), .int .u8 (h'.toNat : Int), .int .u8 (mi.toNat : Int), .int .u8 (s'.toNat : Int)] 25) (.cells #[.int .u16 (y2 : Int), .int .u8 (mo2.toNat : Int), .int .u8 (d2.toNat : Int), .int .u8 (h2'.toNat : Int), .int .u8 (mi2.toNat : Int), .int .u8 (s2'.toNat : Int)] 25)
    have hbw := HBW.out (.cells #[.int .u16 (y : Int), .int .u8 (mo.toNat : Int), .int .u8 (d.toNat : Int), .int .u8 (h'.toNat : Int), .int .u8 (mi.toNat : Int), .int .u8 (s'.toNat : Int)] 25) (.cells #[.int .u16 (y2 : Int), .int .u8 (mo2.toNat : Int), .int .u8 (d2.toNat : Int), .int .u8 (h2'.toNat : Int), .int .u8 (mi2.toNat : Int), .int .u8 (s2'.toNat : Int)] 25)
    have hsz : ((w.alloc (.cells #[.int .u16 (y : Int), .int .u8 (mo.toNat : Int), .int .u8 (d.toNat : Int), .int .u8 (h'.toNat : Int), .int .u8 (mi.toNat : Int), .int .u8 (s'.toNat : Int)] 25)).alloc (.cells #[.int .u16 (y2 : Int), .int .u8 (mo2.toNat : Int), .int .u8 (d2.toNat : Int), .int .u8 (h2'.toNat : Int), .int .u8 (mi2.toNat : Int), .int .u8 (s2'.toNat : Int)] 25)).heap.size = w.heap.size + 2 := by simp
    generalize ((w.alloc (.cells #[.int .u16 (y : Int), .int .u8 (mo.toNat : Int), .int .u8 (d.toNat : Int), .int .u8 (h'.toNat : Int), .int .u8 (mi.toNat : Int), .int .u8 (s'.toNat : Int)] 25)).alloc (.cells #[.int .u16 (y2 : Int), .int .u8 (mo2.toNat : Int), .int .u8 (d2.toNat : Int), .int .u8 (h2'.toNat : Int), .int .u8 (mi2.toNat : Int), .int .u8 (s2'.toNat : Int)] 25)) = W1 at k0 k1 hbw hsz ⊢
    have KEEP : Hid (∀ W, LS W1 W → (W.cell? ⟨w.heap.size, 0, none⟩ = some (.int .u16 (y : Int)) ∧ W.cell? ⟨w.heap.size, 1, none⟩ = some (.int .u8 (mo.toNat : Int)) ∧ W.cell? ⟨w.heap.size, 2, none⟩ = some (.int .u8 (d.toNat : Int)) ∧ W.cell? ⟨w.heap.size, 3, none⟩ = some (.int .u8 (h'.toNat : Int)) ∧ W.cell? ⟨w.heap.size, 4, none⟩ = some (.int .u8 (mi.toNat : Int)) ∧ W.cell? ⟨w.heap.size, 5, none⟩ = some (.int .u8 (s'.toNat : Int)))
        ∧ (W.cell? ⟨w.heap.size + 1, 0, none⟩ = some (.int .u16 (y2 : Int)) ∧ W.cell? ⟨w.heap.size + 1, 1, none⟩ = some (.int .u8 (mo2.toNat : Int)) ∧ W.cell? ⟨w.heap.size + 1, 2, none⟩ = some (.int .u8 (d2.toNat : Int)) ∧ W.cell? ⟨w.heap.size + 1, 3, none⟩ = some (.int .u8 (h2'.toNat : Int)) ∧ W.cell? ⟨w.heap.size + 1, 4, none⟩ = some (.int .u8 (mi2.toNat : Int)) ∧ W.cell? ⟨w.heap.size + 1, 5, none⟩ = some (.int .u8 (s2'.toNat : Int)))
        ∧ LS W1 W) := fun W hW => by
      have q0 := (hW.block w.heap.size (by omega)).trans k0
      have q1 := (hW.block (w.heap.size + 1) (by omega)).trans k1
      exact ⟨⟨Lib.cell_of_heap q0 0, Lib.cell_of_heap q0 1, Lib.cell_of_heap q0 2, Lib.cell_of_heap q0 3, Lib.cell_of_heap q0 4, Lib.cell_of_heap q0 5⟩,
        ⟨Lib.cell_of_heap q1 0, Lib.cell_of_heap q1 1, Lib.cell_of_heap q1 2, Lib.cell_of_heap q1 3, Lib.cell_of_heap q1 4, Lib.cell_of_heap q1 5⟩, hW⟩
    clear k0 k1 HH0 HH1
    have HSZ := Lib.hid hsz
    clear hsz
    have L0 := LS.refl W1
    go_region_held3 (fun W => (W.cell? ⟨w.heap.size, 0, none⟩ = some (.int .u16 (y : Int)) ∧ W.cell? ⟨w.heap.size, 1, none⟩ = some (.int .u8 (mo.toNat : Int)) ∧ W.cell? ⟨w.heap.size, 2, none⟩ = some (.int .u8 (d.toNat : Int)) ∧ W.cell? ⟨w.heap.size, 3, none⟩ = some (.int .u8 (h'.toNat : Int)) ∧ W.cell? ⟨w.heap.size, 4, none⟩ = some (.int .u8 (mi.toNat : Int)) ∧ W.cell? ⟨w.heap.size, 5, none⟩ = some (.int .u8 (s'.toNat : Int)))
        ∧ (W.cell? ⟨w.heap.size + 1, 0, none⟩ = some (.int .u16 (y2 : Int)) ∧ W.cell? ⟨w.heap.size + 1, 1, none⟩ = some (.int .u8 (mo2.toNat : Int)) ∧ W.cell? ⟨w.heap.size + 1, 2, none⟩ = some (.int .u8 (d2.toNat : Int)) ∧ W.cell? ⟨w.heap.size + 1, 3, none⟩ = some (.int .u8 (h2'.toNat : Int)) ∧ W.cell? ⟨w.heap.size + 1, 4, none⟩ = some (.int .u8 (mi2.toNat : Int)) ∧ W.cell? ⟨w.heap.size + 1, 5, none⟩ = some (.int .u8 (s2'.toNat : Int)))
        ∧ LS W1 W) ((apply KEEP.out; repeat (with_reducible (first | assumption | refine LS.drew ?_ | refine LS.alloc ?_ _ | refine LS.set ?_ (by omega) _))))
      (first
        | (go_at_call_of 86 (Value.agg #[Value.int IntKind.u16 (y : Int), Value.int IntKind.u8 (mo.toNat : Int), Value.int IntKind.u8 (d.toNat : Int), Value.int IntKind.u8 (h'.toNat : Int), Value.int IntKind.u8 (mi.toNat : Int), Value.int IntKind.u8 (s'.toNat : Int)]); (with_reducible refine (P.out _).mono ?_); (rintro e W' ⟨rfl, hb⟩; have hls : LS W1 W' := LS.call (by (go_split_ands; assumption)) hb; obtain ⟨hc, hf⟩ := bcell hb; have hz1 := hb.size; have hz2 := hls.size; (try simp only [World.size_alloc, World.size_drew] at hz1); (try have hz3 := Nat.lt_of_succ_le hz1); (try have hz4 := Nat.lt_of_succ_lt hz3); (try have hz5 : W1.heap.size < W'.heap.size := by omega); (try have hz6 : W1.heap.size + 1 < W'.heap.size := by omega)))
        | (go_at_call_of 86 (Value.agg #[Value.int IntKind.u16 (y2 : Int), Value.int IntKind.u8 (mo2.toNat : Int), Value.int IntKind.u8 (d2.toNat : Int), Value.int IntKind.u8 (h2'.toNat : Int), Value.int IntKind.u8 (mi2.toNat : Int), Value.int IntKind.u8 (s2'.toNat : Int)]); (with_reducible refine (Q.out _).mono ?_); (rintro e W' ⟨rfl, hb⟩; have hls : LS W1 W' := LS.call (by (go_split_ands; assumption)) hb; obtain ⟨hc, hf⟩ := bcell hb; have hz1 := hb.size; have hz2 := hls.size; (try simp only [World.size_alloc, World.size_drew] at hz1); (try have hz3 := Nat.lt_of_succ_le hz1); (try have hz4 := Nat.lt_of_succ_lt hz3); (try have hz5 : W1.heap.size < W'.heap.size := by omega); (try have hz6 : W1.heap.size + 1 < W'.heap.size := by omega))))
    all_goals (go_wp2_with fail; go_meet)
    all_goals refine ⟨_, _, rfl, rfl, ?_⟩
    all_goals refine ⟨by omega, hbw.trans (Below.mono (B := W1.heap.size) ?_ hbw.size), six ?_ ?_ ?_ ?_ ?_ ?_, six ?_ ?_ ?_ ?_ ?_ ?_⟩
    all_goals first | (show LS W1 _; repeat (with_reducible (first | assumption | refine LS.drew ?_ | refine LS.alloc ?_ _ | refine LS.set ?_ (by omega) _)); done) | skip
    all_goals try dsimp only [Tm.num]
    all_goals go_simp
    all_goals (refine cs_here ?_; repeat (refine cs_some ?_))
    all_goals go_simp
  case rest =>
    obtain ⟨g5, g6, rfl, rfl, tw⟩ := hcut
    clear P Q HBW HH0 HH1
    generalize (⟨y, mo, d, h', mi, s'⟩ : Tm) = T at tw HB
    generalize (⟨y2, mo2, d2, h2', mi2, s2'⟩ : Tm) = U at tw HB
    have hb := tw.b
    have tw5 : Two5 wc g5 g6 T U := ⟨tw.h5, tw.h6⟩
    have hL : Hid (B = lessFrom T U 6 0) := HB.out.symm
    clear HB
    clear tw
    go_wp2
    go_loopw [7, 12] (fun _ i wr => ∃ k : Nat, k ≤ 6 ∧ B = lessFrom T U (6 - k) k ∧ i = .int .i64 k ∧ Below w.heap.size w wr ∧ Two5 wr g5 g6 T U) (fun _ i _ => 6 - (intOf i).toNat)
    case atStart => exact ⟨0, by omega, hL.out, rfl, hb, tw5⟩
    case round =>
      obtain ⟨k, hk, hl, rfl, hbr, t5⟩ := hrel
      have K5 := Lib.hid t5.h5
      have K6 := Lib.hid t5.h6
      have T5 := Lib.hid t5
      clear t5
      have HL := Lib.hid hl
      clear hl
      by_cases hlt : k < 6
      · have c5 := K5.out k hlt
        have c6 := K6.out k hlt
        have q1 : (0 : Int) ≤ (k : Int) := by omega
        have q2 : (k : Int) < 6 := by omega
        have hst : Hid (lessFrom T U (6 - k) k = if T.num k = U.num k then lessFrom T U (6 - (k + 1)) (k + 1) else decide (T.num k < U.num k)) := by
          obtain ⟨m, hm⟩ : ∃ m, 6 - k = m + 1 := ⟨5 - k, by omega⟩
          have hm2 : 6 - (k + 1) = m := by omega
          rw [Hid, hm, hm2]
          rfl
        generalize T.num k = x at c5 hst
        generalize U.num k = z at c6 hst
        by_cases hxz : x = z
        · subst hxz
          have hl2 : Hid (B = lessFrom T U (6 - (k + 1)) (k + 1)) := by rw [Hid, HL.out, hst.out, if_pos rfl]
          clear HL hst
          go_wp2
          go_quiet (fail)
          go_wp2
          go_roundw
          case rel => exact ⟨k + 1, by omega, hl2.out, by go_num, below_dn hbr _, T5.out.dn _⟩
          case measure => simp [intOf]; omega
        · have hl2 : Hid (B = decide (x < z)) := by rw [Hid, HL.out, hst.out, if_neg hxz]
          have hd : ((x : Int) == (z : Int)) = false := beq_eq_false_iff_ne.2 (by omega)
          have hd2 : ((x : Int) != (z : Int)) = true := by rw [bne_iff_ne]; omega
          clear HL hst hxz
          go_wp2
          go_quiet (fail)
          go_wp2
          go_quiet (fail)
          go_wp2
          go_ret
          exact ⟨by rw [hl2.out]; simp, below_dn (below_dn hbr _) _⟩
      · obtain rfl : k = 6 := by omega
        have hl2 : Hid (B = false) := by rw [Hid, HL.out]; rfl
        clear HL
        go_wp2
        go_ret
        exact ⟨by rw [hl2.out]; rfl, hbr⟩
end Go.Proofs.Ytomolfdcdmncoaa
