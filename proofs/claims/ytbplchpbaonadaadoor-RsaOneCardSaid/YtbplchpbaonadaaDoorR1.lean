/-
  rsa: which keys may be: the program's, and the document's.
-/
import Derived.Test.YtbplchpbaonadaaDoorMn
import Derived.Test.YtbplchpbaonadaaDoorMj
import Derived.Lib.Hide
import Derived.Lib.LaidTab
import Derived.Laws.Rows
import Derived.LoopN
import Derived.WalkSmall
import Derived.Deep.QuietTactic
import Derived.BigQuiet
import Derived.Outline
import Derived.WalkLawsBesides
import Derived.WalkSpells
import Derived.Test.YtbplchpbaonadaaDoorRef
import Derived.Shelf.Bits.Mul64
import Derived.Laws.BitsAllLaws
import Derived.Laws.Bits64b
import Derived.Lib.SlBytesConst
import Derived.Test.YtbplchpbaonadaaDoorOwn
import Derived.Laws.CopyOwn
import Derived.StillTailTactics
import Derived.Laws.Externs
import Derived.Lib.MakeNoZero
import Derived.Lib.Builder
namespace Go.Proofs.YtbplchpbaonadaaDoor
open Go.RowKit Go
set_option linter.unusedVariables false
set_option linter.unusedSimpArgs false
set_option maxRecDepth 100000
def lensZ : List Int := [256, 384, 512]
/-- The table of lengths is as it was laid. -/
def Lens (w : World) : Prop := 0 < w.heap.size ∧ Lib.TabIs Tryd.prog w "lintel/rsa.lengths" .i64 lensZ
theorem g_lens : Tryd.prog.globalNamed "lintel/rsa.lengths" = some 0 := by kernel_rfl
theorem Lens.below {w w' : World} {B : Nat} (h : Lens w) (hb : Below B w w') (hB : 0 < B) : Lens w' :=
  ⟨Nat.lt_of_lt_of_le h.1 hb.size, var?_below hb g_lens hB h.2⟩
theorem Lens.below' {w w' : World} (h : Lens w) (hb : Below w.heap.size w w') : Lens w' := h.below hb h.1
theorem Lens.alloc {w : World} (h : Lens w) (o : Obj) : Lens (w.alloc o) := h.below ((Below.refl w.heap.size w).alloc (Nat.le_refl _) o) h.1
theorem Lens.drew {w : World} (h : Lens w) : Lens w.drew := h
/-- Which keys may be. -/
def soundB (N : List UInt8) (e : Nat) : Bool :=
  (decide (N.length = 256) || decide (N.length = 384) || decide (N.length = 512)) && decide (128 ≤ (N.getD 0 0).toNat) && decide ((N.getD (N.length - 1) 0).toNat % 2 = 1) && decide (e % 2 = 1) && decide (3 ≤ e) && decide (e < 8589934592)
def soundZ (N : List UInt8) (e : Nat) : Nat := if soundB N e then 0 else 11
/-- Bytes at a place. -/
theorem rb_at {w : World} {A : Option Addr} {n : Nat} {bs : List UInt8} (h : RB w A n bs) (hn : 0 < n) : ∃ b off, A = some ⟨b, off, none⟩ ∧ b < w.heap.size ∧ ∀ k, k < n → w.cell? ⟨b, off + k, none⟩ = some (.int .u8 ((bs.getD k 0).toNat : Int)) := by
  obtain ⟨b, off, e, hb, hc⟩ := h.2 (by intro e; have := h.1; rw [e] at this; simp at this; omega)
  refine ⟨b, off, e, hb, fun k hk => ?_⟩
  have hk2 : k < bs.length := by rw [h.1]; exact hk
  have := hc k hk2
  rw [this, List.getD_eq_getElem?_getD, List.getElem?_eq_getElem hk2]
  rfl
set_option maxHeartbeats 16000000 in
theorem sound_any (A : Option Addr) (n c e : Nat) (N : List UInt8) (w : World) (hA : RB w A n N) (hL : Lens w) (hn : n ≤ 9223372036854775807) (he : e < 18446744073709551616) :
    Calls Tryd.prog 14 #[.agg #[.slice A n c, .int .u64 (e : Int)]] w fun r w' => r = .returned (.int .i64 ((soundZ N e : Nat) : Int)) ∧ Below w.heap.size w w' := by
  have hl := hA.1
  have HB : Hid (Below w.heap.size w (w.alloc (.cells #[.slice A n c, .int .u64 (e : Int)] 26))) := kp_alloc (Below.refl _ _) _
  have l1 := hL.alloc (.cells #[.slice A n c, .int .u64 (e : Int)] 26)
  have g0 : (w.alloc (.cells #[.slice A n c, .int .u64 (e : Int)] 26)).cell? ⟨0, 0, none⟩ = some (.int .i64 256) := l1.2.cell g_lens 0 (by decide)
  have g1 : (w.alloc (.cells #[.slice A n c, .int .u64 (e : Int)] 26)).cell? ⟨0, 1, none⟩ = some (.int .i64 384) := l1.2.cell g_lens 1 (by decide)
  have g2 : (w.alloc (.cells #[.slice A n c, .int .u64 (e : Int)] 26)).cell? ⟨0, 2, none⟩ = some (.int .i64 512) := l1.2.cell g_lens 2 (by decide)
  have i0 : ∀ w, (Instr.index 48 (.agg #[.int .i64 256, .int .i64 384, .int .i64 512]) (.int .i64 0)).run Tryd.prog w = .ok (.int .i64 256) w := fun _ => by kernel_rfl
  have i1 : ∀ w, (Instr.index 48 (.agg #[.int .i64 256, .int .i64 384, .int .i64 512]) (.int .i64 1)).run Tryd.prog w = .ok (.int .i64 384) w := fun _ => by kernel_rfl
  have i2 : ∀ w, (Instr.index 48 (.agg #[.int .i64 256, .int .i64 384, .int .i64 512]) (.int .i64 2)).run Tryd.prog w = .ok (.int .i64 512) w := fun _ => by kernel_rfl
  clear l1 hL
  by_cases hlen : n = 256 ∨ n = 384 ∨ n = 512
  · have hn1 : 0 < n := by omega
    obtain ⟨b, off, rfl, hb, hc⟩ := rb_at hA hn1
    have hcells := fun k hk => ((Below.refl w.heap.size w).alloc (Nat.le_refl _) (.cells #[.slice (some ⟨b, off, none⟩) n c, .int .u64 (e : Int)] 26)).cell (p := ⟨b, off + k, none⟩) hb |>.trans (hc k hk)
    obtain ⟨f, hf⟩ : ∃ f, (N.getD 0 0).toNat = f := ⟨_, rfl⟩
    obtain ⟨l, hl1⟩ : ∃ l, n - 1 = l := ⟨_, rfl⟩
    obtain ⟨g, hg⟩ : ∃ g, (N.getD l 0).toNat = g := ⟨_, rfl⟩
    have cf := hcells 0 hn1
    rw [Nat.add_zero, hf] at cf
    have cg := hcells l (by omega)
    rw [hg] at cg
    have hlb : (decide (N.length = 256) || decide (N.length = 384) || decide (N.length = 512)) = true := by
      rw [hl]
      rcases hlen with h | h | h <;> subst h <;> rfl
    have hsz : soundZ N e = if (decide (128 ≤ f) && decide (g % 2 = 1) && decide (e % 2 = 1) && decide (3 ≤ e) && decide (e < 8589934592)) then 0 else 11 := by
      unfold soundZ soundB
      rw [hlb, hf, hl, hl1, hg, Bool.true_and]
    rw [hsz]
    have e9 : IntKind.i64.wrap ((n : Int) - 1) = (l : Int) := by rw [show (n : Int) - 1 = l by omega]; exact IntWalk.i64_in _ (by omega)
    have j0 : (0 : Int) < (n : Int) := by omega
    have j1 : (0 : Int) ≤ (l : Int) := by omega
    have j2 : (l : Int) < (n : Int) := by omega
    have j3 : 0 < n := by omega
    have j4 : l < n := by omega
    clear hA hc hsz hlb hf hg hb
    by_cases r0 : 128 ≤ f
    · rw [decide_eq_true r0]
      have q1 : ¬ (f : Int) < 128 := by omega
      by_cases r1 : g % 2 = 1
      · rw [decide_eq_true r1]
        have q2 : (g : Int) % 2 = 1 := by omega
        have q2b : (g : Int).tmod 2 = 1 := by rw [Int.tmod_eq_emod_of_nonneg (by omega)]; omega
        by_cases r2 : e % 2 = 1
        · rw [decide_eq_true r2]
          have q3 : (e : Int) % 2 = 1 := by omega
          have q3b : (e : Int).tmod 2 = 1 := by rw [Int.tmod_eq_emod_of_nonneg (by omega)]; omega
          by_cases r3 : 3 ≤ e
          · rw [decide_eq_true r3]
            have q4 : ¬ (e : Int) < 3 := by omega
            by_cases r4 : e < 8589934592
            · rw [decide_eq_true r4]
              have q5 : decide ((8589934592 : Int) ≤ (e : Int)) = false := decide_eq_false (by omega)
              clear r4
              simp only [Bool.and_self, Bool.true_and, Bool.and_true, if_true]
              rcases hlen with h | h | h
              · have t256 : ((n : Int) == 256) = true := by simp; omega
                have t384 : ((n : Int) == 384) = false := by simp; omega
                have t512 : ((n : Int) == 512) = false := by simp; omega
                clear h hl1 hl
                clear hn hcells
                go_enter Tryd.func14, Tryd.ntmps14
                go_wp2
                refine wp_loop_rounds 4 ?_
                iterate 4 (rw [rounds_succ]; go_wp2)
                go_ret
                exact ⟨rfl, HB.out⟩
              · have t256 : ((n : Int) == 256) = false := by simp; omega
                have t384 : ((n : Int) == 384) = true := by simp; omega
                have t512 : ((n : Int) == 512) = false := by simp; omega
                clear h hl1 hl
                clear hn hcells
                go_enter Tryd.func14, Tryd.ntmps14
                go_wp2
                refine wp_loop_rounds 4 ?_
                iterate 4 (rw [rounds_succ]; go_wp2)
                go_ret
                exact ⟨rfl, HB.out⟩
              · have t256 : ((n : Int) == 256) = false := by simp; omega
                have t384 : ((n : Int) == 384) = false := by simp; omega
                have t512 : ((n : Int) == 512) = true := by simp; omega
                clear h hl1 hl
                clear hn hcells
                go_enter Tryd.func14, Tryd.ntmps14
                go_wp2
                refine wp_loop_rounds 4 ?_
                iterate 4 (rw [rounds_succ]; go_wp2)
                go_ret
                exact ⟨rfl, HB.out⟩
            · rw [decide_eq_false r4]
              have q5 : decide ((8589934592 : Int) ≤ (e : Int)) = true := decide_eq_true (by omega)
              clear r4
              simp only [Bool.false_and, Bool.and_false, Bool.true_and, Bool.and_true, if_false, Bool.false_eq_true]
              rcases hlen with h | h | h
              · have t256 : ((n : Int) == 256) = true := by simp; omega
                have t384 : ((n : Int) == 384) = false := by simp; omega
                have t512 : ((n : Int) == 512) = false := by simp; omega
                clear h hl1 hl
                clear hn hcells
                go_enter Tryd.func14, Tryd.ntmps14
                go_wp2
                refine wp_loop_rounds 4 ?_
                iterate 4 (rw [rounds_succ]; go_wp2)
                go_ret
                exact ⟨rfl, HB.out⟩
              · have t256 : ((n : Int) == 256) = false := by simp; omega
                have t384 : ((n : Int) == 384) = true := by simp; omega
                have t512 : ((n : Int) == 512) = false := by simp; omega
                clear h hl1 hl
                clear hn hcells
                go_enter Tryd.func14, Tryd.ntmps14
                go_wp2
                refine wp_loop_rounds 4 ?_
                iterate 4 (rw [rounds_succ]; go_wp2)
                go_ret
                exact ⟨rfl, HB.out⟩
              · have t256 : ((n : Int) == 256) = false := by simp; omega
                have t384 : ((n : Int) == 384) = false := by simp; omega
                have t512 : ((n : Int) == 512) = true := by simp; omega
                clear h hl1 hl
                clear hn hcells
                go_enter Tryd.func14, Tryd.ntmps14
                go_wp2
                refine wp_loop_rounds 4 ?_
                iterate 4 (rw [rounds_succ]; go_wp2)
                go_ret
                exact ⟨rfl, HB.out⟩
          · rw [decide_eq_false r3]
            have q4 : (e : Int) < 3 := by omega
            simp only [Bool.false_and, Bool.and_false, Bool.true_and, Bool.and_true, if_false, Bool.false_eq_true]
            rcases hlen with h | h | h
            · have t256 : ((n : Int) == 256) = true := by simp; omega
              have t384 : ((n : Int) == 384) = false := by simp; omega
              have t512 : ((n : Int) == 512) = false := by simp; omega
              clear h hl1 hl
              clear hn hcells
              go_enter Tryd.func14, Tryd.ntmps14
              go_wp2
              refine wp_loop_rounds 4 ?_
              iterate 4 (rw [rounds_succ]; go_wp2)
              go_ret
              exact ⟨rfl, HB.out⟩
            · have t256 : ((n : Int) == 256) = false := by simp; omega
              have t384 : ((n : Int) == 384) = true := by simp; omega
              have t512 : ((n : Int) == 512) = false := by simp; omega
              clear h hl1 hl
              clear hn hcells
              go_enter Tryd.func14, Tryd.ntmps14
              go_wp2
              refine wp_loop_rounds 4 ?_
              iterate 4 (rw [rounds_succ]; go_wp2)
              go_ret
              exact ⟨rfl, HB.out⟩
            · have t256 : ((n : Int) == 256) = false := by simp; omega
              have t384 : ((n : Int) == 384) = false := by simp; omega
              have t512 : ((n : Int) == 512) = true := by simp; omega
              clear h hl1 hl
              clear hn hcells
              go_enter Tryd.func14, Tryd.ntmps14
              go_wp2
              refine wp_loop_rounds 4 ?_
              iterate 4 (rw [rounds_succ]; go_wp2)
              go_ret
              exact ⟨rfl, HB.out⟩
        · rw [decide_eq_false r2]
          have q3 : (e : Int) % 2 = 0 := by omega
          have q3b : (e : Int).tmod 2 = 0 := by rw [Int.tmod_eq_emod_of_nonneg (by omega)]; omega
          simp only [Bool.false_and, Bool.and_false, Bool.true_and, Bool.and_true, if_false, Bool.false_eq_true]
          rcases hlen with h | h | h
          · have t256 : ((n : Int) == 256) = true := by simp; omega
            have t384 : ((n : Int) == 384) = false := by simp; omega
            have t512 : ((n : Int) == 512) = false := by simp; omega
            clear h hl1 hl
            clear hn hcells
            go_enter Tryd.func14, Tryd.ntmps14
            go_wp2
            refine wp_loop_rounds 4 ?_
            iterate 4 (rw [rounds_succ]; go_wp2)
            go_ret
            exact ⟨rfl, HB.out⟩
          · have t256 : ((n : Int) == 256) = false := by simp; omega
            have t384 : ((n : Int) == 384) = true := by simp; omega
            have t512 : ((n : Int) == 512) = false := by simp; omega
            clear h hl1 hl
            clear hn hcells
            go_enter Tryd.func14, Tryd.ntmps14
            go_wp2
            refine wp_loop_rounds 4 ?_
            iterate 4 (rw [rounds_succ]; go_wp2)
            go_ret
            exact ⟨rfl, HB.out⟩
          · have t256 : ((n : Int) == 256) = false := by simp; omega
            have t384 : ((n : Int) == 384) = false := by simp; omega
            have t512 : ((n : Int) == 512) = true := by simp; omega
            clear h hl1 hl
            clear hn hcells
            go_enter Tryd.func14, Tryd.ntmps14
            go_wp2
            refine wp_loop_rounds 4 ?_
            iterate 4 (rw [rounds_succ]; go_wp2)
            go_ret
            exact ⟨rfl, HB.out⟩
      · rw [decide_eq_false r1]
        have q2 : (g : Int) % 2 = 0 := by omega
        have q2b : (g : Int).tmod 2 = 0 := by rw [Int.tmod_eq_emod_of_nonneg (by omega)]; omega
        simp only [Bool.false_and, Bool.and_false, Bool.true_and, Bool.and_true, if_false, Bool.false_eq_true]
        rcases hlen with h | h | h
        · have t256 : ((n : Int) == 256) = true := by simp; omega
          have t384 : ((n : Int) == 384) = false := by simp; omega
          have t512 : ((n : Int) == 512) = false := by simp; omega
          clear h hl1 hl
          clear hn hcells
          go_enter Tryd.func14, Tryd.ntmps14
          go_wp2
          refine wp_loop_rounds 4 ?_
          iterate 4 (rw [rounds_succ]; go_wp2)
          go_ret
          exact ⟨rfl, HB.out⟩
        · have t256 : ((n : Int) == 256) = false := by simp; omega
          have t384 : ((n : Int) == 384) = true := by simp; omega
          have t512 : ((n : Int) == 512) = false := by simp; omega
          clear h hl1 hl
          clear hn hcells
          go_enter Tryd.func14, Tryd.ntmps14
          go_wp2
          refine wp_loop_rounds 4 ?_
          iterate 4 (rw [rounds_succ]; go_wp2)
          go_ret
          exact ⟨rfl, HB.out⟩
        · have t256 : ((n : Int) == 256) = false := by simp; omega
          have t384 : ((n : Int) == 384) = false := by simp; omega
          have t512 : ((n : Int) == 512) = true := by simp; omega
          clear h hl1 hl
          clear hn hcells
          go_enter Tryd.func14, Tryd.ntmps14
          go_wp2
          refine wp_loop_rounds 4 ?_
          iterate 4 (rw [rounds_succ]; go_wp2)
          go_ret
          exact ⟨rfl, HB.out⟩
    · rw [decide_eq_false r0]
      have q1 : (f : Int) < 128 := by omega
      simp only [Bool.false_and, Bool.and_false, Bool.true_and, Bool.and_true, if_false, Bool.false_eq_true]
      rcases hlen with h | h | h
      · have t256 : ((n : Int) == 256) = true := by simp; omega
        have t384 : ((n : Int) == 384) = false := by simp; omega
        have t512 : ((n : Int) == 512) = false := by simp; omega
        clear h hl1 hl
        clear hn hcells
        go_enter Tryd.func14, Tryd.ntmps14
        go_wp2
        refine wp_loop_rounds 4 ?_
        iterate 4 (rw [rounds_succ]; go_wp2)
        go_ret
        exact ⟨rfl, HB.out⟩
      · have t256 : ((n : Int) == 256) = false := by simp; omega
        have t384 : ((n : Int) == 384) = true := by simp; omega
        have t512 : ((n : Int) == 512) = false := by simp; omega
        clear h hl1 hl
        clear hn hcells
        go_enter Tryd.func14, Tryd.ntmps14
        go_wp2
        refine wp_loop_rounds 4 ?_
        iterate 4 (rw [rounds_succ]; go_wp2)
        go_ret
        exact ⟨rfl, HB.out⟩
      · have t256 : ((n : Int) == 256) = false := by simp; omega
        have t384 : ((n : Int) == 384) = false := by simp; omega
        have t512 : ((n : Int) == 512) = true := by simp; omega
        clear h hl1 hl
        clear hn hcells
        go_enter Tryd.func14, Tryd.ntmps14
        go_wp2
        refine wp_loop_rounds 4 ?_
        iterate 4 (rw [rounds_succ]; go_wp2)
        go_ret
        exact ⟨rfl, HB.out⟩
  · have hsz : soundZ N e = 11 := by
      unfold soundZ soundB
      rw [hl, decide_eq_false (show ¬ n = 256 by omega), decide_eq_false (show ¬ n = 384 by omega), decide_eq_false (show ¬ n = 512 by omega)]
      rfl
    rw [hsz]
    have hcells := hlen
    clear hA hsz hl
    have t256 : ((n : Int) == 256) = false := by simp; omega
    have t384 : ((n : Int) == 384) = false := by simp; omega
    have t512 : ((n : Int) == 512) = false := by simp; omega
    clear hlen
    clear hn hcells
    go_enter Tryd.func14, Tryd.ntmps14
    go_wp2
    refine wp_loop_rounds 4 ?_
    iterate 4 (rw [rounds_succ]; go_wp2)
    go_ret
    exact ⟨rfl, HB.out⟩
end Go.Proofs.YtbplchpbaonadaaDoor
namespace Go.Proofs.YtbplchpbaonadaaDoor
open Go.RowKit Go
set_option linter.unusedVariables false
set_option linter.unusedSimpArgs false
set_option maxRecDepth 100000
set_option maxHeartbeats 16000000 in
theorem dsound_any (A : Option Addr) (n c e : Nat) (N : List UInt8) (w : World) (hA : RB w A n N) (hL : Lens w) (hn : n ≤ 9223372036854775807) (he : e < 18446744073709551616) :
    Calls Tryd.prog 15 #[.agg #[.slice A n c, .int .u64 (e : Int)]] w fun r w' => r = .returned (.int .i64 ((soundZ N e : Nat) : Int)) ∧ Below w.heap.size w w' := by
  have hl := hA.1
  have HB : Hid (Below w.heap.size w (w.alloc (.cells #[.slice A n c, .int .u64 (e : Int)] 26))) := kp_alloc (Below.refl _ _) _
  by_cases hlen : n = 256 ∨ n = 384 ∨ n = 512
  · have hn1 : 0 < n := by omega
    obtain ⟨b, off, rfl, hb, hc⟩ := rb_at hA hn1
    have hcells := fun k hk => ((Below.refl w.heap.size w).alloc (Nat.le_refl _) (.cells #[.slice (some ⟨b, off, none⟩) n c, .int .u64 (e : Int)] 26)).cell (p := ⟨b, off + k, none⟩) hb |>.trans (hc k hk)
    obtain ⟨f, hf⟩ : ∃ f, (N.getD 0 0).toNat = f := ⟨_, rfl⟩
    obtain ⟨l, hl1⟩ : ∃ l, n - 1 = l := ⟨_, rfl⟩
    obtain ⟨g, hg⟩ : ∃ g, (N.getD l 0).toNat = g := ⟨_, rfl⟩
    have cf := hcells 0 hn1
    rw [Nat.add_zero, hf] at cf
    have cg := hcells l (by omega)
    rw [hg] at cg
    have hlb : (decide (N.length = 256) || decide (N.length = 384) || decide (N.length = 512)) = true := by
      rw [hl]
      rcases hlen with h | h | h <;> subst h <;> rfl
    have hsz : soundZ N e = if (decide (128 ≤ f) && decide (g % 2 = 1) && decide (e % 2 = 1) && decide (3 ≤ e) && decide (e < 8589934592)) then 0 else 11 := by
      unfold soundZ soundB
      rw [hlb, hf, hl, hl1, hg, Bool.true_and]
    rw [hsz]
    have e9 : IntKind.i64.wrap ((n : Int) - 1) = (l : Int) := by rw [show (n : Int) - 1 = l by omega]; exact IntWalk.i64_in _ (by omega)
    have j0 : (0 : Int) < (n : Int) := by omega
    have j1 : (0 : Int) ≤ (l : Int) := by omega
    have j2 : (l : Int) < (n : Int) := by omega
    have j3 : 0 < n := by omega
    have j4 : l < n := by omega
    clear hA hc hsz hlb hf hg hb
    by_cases r0 : 128 ≤ f
    · rw [decide_eq_true r0]
      have q1 : ¬ (f : Int) < 128 := by omega
      by_cases r1 : g % 2 = 1
      · rw [decide_eq_true r1]
        have q2 : (g : Int) % 2 = 1 := by omega
        have q2b : (g : Int).tmod 2 = 1 := by rw [Int.tmod_eq_emod_of_nonneg (by omega)]; omega
        by_cases r2 : e % 2 = 1
        · rw [decide_eq_true r2]
          have q3 : (e : Int) % 2 = 1 := by omega
          have q3b : (e : Int).tmod 2 = 1 := by rw [Int.tmod_eq_emod_of_nonneg (by omega)]; omega
          by_cases r3 : 3 ≤ e
          · rw [decide_eq_true r3]
            have q4 : ¬ (e : Int) < 3 := by omega
            by_cases r4 : e < 8589934592
            · rw [decide_eq_true r4]
              have q5 : decide ((8589934592 : Int) ≤ (e : Int)) = false := decide_eq_false (by omega)
              clear r4
              simp only [Bool.and_self, Bool.true_and, Bool.and_true, if_true]
              rcases hlen with h | h | h
              · have t256 : ((n : Int) != 256) = false := by simp; omega
                have t384 : ((n : Int) != 384) = true := by simp; omega
                have t512 : ((n : Int) != 512) = true := by simp; omega
                clear h hl1 hl
                clear hn hcells
                go_enter Tryd.func15, Tryd.ntmps15
                go_wp2
                go_ret
                exact ⟨rfl, HB.out⟩
              · have t256 : ((n : Int) != 256) = true := by simp; omega
                have t384 : ((n : Int) != 384) = false := by simp; omega
                have t512 : ((n : Int) != 512) = true := by simp; omega
                clear h hl1 hl
                clear hn hcells
                go_enter Tryd.func15, Tryd.ntmps15
                go_wp2
                go_ret
                exact ⟨rfl, HB.out⟩
              · have t256 : ((n : Int) != 256) = true := by simp; omega
                have t384 : ((n : Int) != 384) = true := by simp; omega
                have t512 : ((n : Int) != 512) = false := by simp; omega
                clear h hl1 hl
                clear hn hcells
                go_enter Tryd.func15, Tryd.ntmps15
                go_wp2
                go_ret
                exact ⟨rfl, HB.out⟩
            · rw [decide_eq_false r4]
              have q5 : decide ((8589934592 : Int) ≤ (e : Int)) = true := decide_eq_true (by omega)
              clear r4
              simp only [Bool.false_and, Bool.and_false, Bool.true_and, Bool.and_true, if_false, Bool.false_eq_true]
              rcases hlen with h | h | h
              · have t256 : ((n : Int) != 256) = false := by simp; omega
                have t384 : ((n : Int) != 384) = true := by simp; omega
                have t512 : ((n : Int) != 512) = true := by simp; omega
                clear h hl1 hl
                clear hn hcells
                go_enter Tryd.func15, Tryd.ntmps15
                go_wp2
                go_ret
                exact ⟨rfl, HB.out⟩
              · have t256 : ((n : Int) != 256) = true := by simp; omega
                have t384 : ((n : Int) != 384) = false := by simp; omega
                have t512 : ((n : Int) != 512) = true := by simp; omega
                clear h hl1 hl
                clear hn hcells
                go_enter Tryd.func15, Tryd.ntmps15
                go_wp2
                go_ret
                exact ⟨rfl, HB.out⟩
              · have t256 : ((n : Int) != 256) = true := by simp; omega
                have t384 : ((n : Int) != 384) = true := by simp; omega
                have t512 : ((n : Int) != 512) = false := by simp; omega
                clear h hl1 hl
                clear hn hcells
                go_enter Tryd.func15, Tryd.ntmps15
                go_wp2
                go_ret
                exact ⟨rfl, HB.out⟩
          · rw [decide_eq_false r3]
            have q4 : (e : Int) < 3 := by omega
            simp only [Bool.false_and, Bool.and_false, Bool.true_and, Bool.and_true, if_false, Bool.false_eq_true]
            rcases hlen with h | h | h
            · have t256 : ((n : Int) != 256) = false := by simp; omega
              have t384 : ((n : Int) != 384) = true := by simp; omega
              have t512 : ((n : Int) != 512) = true := by simp; omega
              clear h hl1 hl
              clear hn hcells
              go_enter Tryd.func15, Tryd.ntmps15
              go_wp2
              go_ret
              exact ⟨rfl, HB.out⟩
            · have t256 : ((n : Int) != 256) = true := by simp; omega
              have t384 : ((n : Int) != 384) = false := by simp; omega
              have t512 : ((n : Int) != 512) = true := by simp; omega
              clear h hl1 hl
              clear hn hcells
              go_enter Tryd.func15, Tryd.ntmps15
              go_wp2
              go_ret
              exact ⟨rfl, HB.out⟩
            · have t256 : ((n : Int) != 256) = true := by simp; omega
              have t384 : ((n : Int) != 384) = true := by simp; omega
              have t512 : ((n : Int) != 512) = false := by simp; omega
              clear h hl1 hl
              clear hn hcells
              go_enter Tryd.func15, Tryd.ntmps15
              go_wp2
              go_ret
              exact ⟨rfl, HB.out⟩
        · rw [decide_eq_false r2]
          have q3 : (e : Int) % 2 = 0 := by omega
          have q3b : (e : Int).tmod 2 = 0 := by rw [Int.tmod_eq_emod_of_nonneg (by omega)]; omega
          simp only [Bool.false_and, Bool.and_false, Bool.true_and, Bool.and_true, if_false, Bool.false_eq_true]
          rcases hlen with h | h | h
          · have t256 : ((n : Int) != 256) = false := by simp; omega
            have t384 : ((n : Int) != 384) = true := by simp; omega
            have t512 : ((n : Int) != 512) = true := by simp; omega
            clear h hl1 hl
            clear hn hcells
            go_enter Tryd.func15, Tryd.ntmps15
            go_wp2
            go_ret
            exact ⟨rfl, HB.out⟩
          · have t256 : ((n : Int) != 256) = true := by simp; omega
            have t384 : ((n : Int) != 384) = false := by simp; omega
            have t512 : ((n : Int) != 512) = true := by simp; omega
            clear h hl1 hl
            clear hn hcells
            go_enter Tryd.func15, Tryd.ntmps15
            go_wp2
            go_ret
            exact ⟨rfl, HB.out⟩
          · have t256 : ((n : Int) != 256) = true := by simp; omega
            have t384 : ((n : Int) != 384) = true := by simp; omega
            have t512 : ((n : Int) != 512) = false := by simp; omega
            clear h hl1 hl
            clear hn hcells
            go_enter Tryd.func15, Tryd.ntmps15
            go_wp2
            go_ret
            exact ⟨rfl, HB.out⟩
      · rw [decide_eq_false r1]
        have q2 : (g : Int) % 2 = 0 := by omega
        have q2b : (g : Int).tmod 2 = 0 := by rw [Int.tmod_eq_emod_of_nonneg (by omega)]; omega
        simp only [Bool.false_and, Bool.and_false, Bool.true_and, Bool.and_true, if_false, Bool.false_eq_true]
        rcases hlen with h | h | h
        · have t256 : ((n : Int) != 256) = false := by simp; omega
          have t384 : ((n : Int) != 384) = true := by simp; omega
          have t512 : ((n : Int) != 512) = true := by simp; omega
          clear h hl1 hl
          clear hn hcells
          go_enter Tryd.func15, Tryd.ntmps15
          go_wp2
          go_ret
          exact ⟨rfl, HB.out⟩
        · have t256 : ((n : Int) != 256) = true := by simp; omega
          have t384 : ((n : Int) != 384) = false := by simp; omega
          have t512 : ((n : Int) != 512) = true := by simp; omega
          clear h hl1 hl
          clear hn hcells
          go_enter Tryd.func15, Tryd.ntmps15
          go_wp2
          go_ret
          exact ⟨rfl, HB.out⟩
        · have t256 : ((n : Int) != 256) = true := by simp; omega
          have t384 : ((n : Int) != 384) = true := by simp; omega
          have t512 : ((n : Int) != 512) = false := by simp; omega
          clear h hl1 hl
          clear hn hcells
          go_enter Tryd.func15, Tryd.ntmps15
          go_wp2
          go_ret
          exact ⟨rfl, HB.out⟩
    · rw [decide_eq_false r0]
      have q1 : (f : Int) < 128 := by omega
      simp only [Bool.false_and, Bool.and_false, Bool.true_and, Bool.and_true, if_false, Bool.false_eq_true]
      rcases hlen with h | h | h
      · have t256 : ((n : Int) != 256) = false := by simp; omega
        have t384 : ((n : Int) != 384) = true := by simp; omega
        have t512 : ((n : Int) != 512) = true := by simp; omega
        clear h hl1 hl
        clear hn hcells
        go_enter Tryd.func15, Tryd.ntmps15
        go_wp2
        go_ret
        exact ⟨rfl, HB.out⟩
      · have t256 : ((n : Int) != 256) = true := by simp; omega
        have t384 : ((n : Int) != 384) = false := by simp; omega
        have t512 : ((n : Int) != 512) = true := by simp; omega
        clear h hl1 hl
        clear hn hcells
        go_enter Tryd.func15, Tryd.ntmps15
        go_wp2
        go_ret
        exact ⟨rfl, HB.out⟩
      · have t256 : ((n : Int) != 256) = true := by simp; omega
        have t384 : ((n : Int) != 384) = true := by simp; omega
        have t512 : ((n : Int) != 512) = false := by simp; omega
        clear h hl1 hl
        clear hn hcells
        go_enter Tryd.func15, Tryd.ntmps15
        go_wp2
        go_ret
        exact ⟨rfl, HB.out⟩
  · have hsz : soundZ N e = 11 := by
      unfold soundZ soundB
      rw [hl, decide_eq_false (show ¬ n = 256 by omega), decide_eq_false (show ¬ n = 384 by omega), decide_eq_false (show ¬ n = 512 by omega)]
      rfl
    rw [hsz]
    have hcells := hlen
    clear hA hsz hl
    have t256 : ((n : Int) != 256) = true := by simp; omega
    have t384 : ((n : Int) != 384) = true := by simp; omega
    have t512 : ((n : Int) != 512) = true := by simp; omega
    clear hlen
    clear hn hcells
    go_enter Tryd.func15, Tryd.ntmps15
    go_wp2
    go_ret
    exact ⟨rfl, HB.out⟩
end Go.Proofs.YtbplchpbaonadaaDoor
namespace Go.Proofs.YtbplchpbaonadaaDoor
open Go.RowKit Go
set_option linter.unusedVariables false
set_option linter.unusedSimpArgs false
set_option maxRecDepth 100000
/-- The program's exponent as limbs. -/
theorem exponent_any (e : Nat) (h1 : 0 < e) (he : e < 18446744073709551616) (w : World) :
    Calls Tryd.prog 26 #[.int .u64 (e : Int)] w fun r w' => ∃ n, r = .returned (.slice (some ⟨w.heap.size, 0, none⟩) n n) ∧ n ≤ 2 ∧ RU w' (some ⟨w.heap.size, 0, none⟩) n (num e) ∧ Below w.heap.size w w' := by
  obtain ⟨lo, hlo⟩ : ∃ lo, e % 4294967296 = lo := ⟨_, rfl⟩
  obtain ⟨hi, hhi⟩ : ∃ hi, e / 4294967296 = hi := ⟨_, rfl⟩
  have hne : e ≠ 0 := by omega
  have hsh : (e : Int) / 4294967296 = (hi : Int) := by omega
  have hsh2 : (e : Int) / 2 ^ 32 = (hi : Int) := by rw [show ((2 : Int) ^ 32) = 4294967296 from rfl]; omega
  have w1 : IntKind.u32.wrap (e : Int) = (lo : Int) := by rw [IntKind.wrap_u32]; omega
  have w3 : IntKind.u64.wrap (hi : Int) = (hi : Int) := by rw [IntKind.wrap_u64]; omega
  have w2 : IntKind.u32.wrap (hi : Int) = (hi : Int) := by rw [IntKind.wrap_u32]; omega
  by_cases hz : hi = 0
  · have hnum : num e = [lo] := by rw [num_pos _ hne, hlo, hhi, hz, num_zero]
    have z1 : ((hi : Int) == 0) = true := by rw [beq_iff_eq]; omega
    have z2 : (hi : Int) = 0 := by omega
    have z3 : (e : Int) / 4294967296 = 0 := by omega
    have z4 : e / 4294967296 = 0 := by omega
    have z5 : e < 4294967296 := by omega
    have z6 : (e : Int) < 4294967296 := by omega
    rw [hnum]
    have HL : Hid (Lim [lo]) := by rw [← hnum]; exact num_lim e
    clear hlo hhi hnum hz
    go_enter Tryd.func26, Tryd.ntmps26
    go_wp2
    go_ret
    have hb : BlkU (w.alloc (.cells #[.int .u32 (lo : Int)] 59)) w.heap.size [lo] := has_new _ _
    exact ⟨1, rfl, by omega, by simpa using hb.ru HL.out 0 1 (by simp), kp_alloc (Below.refl _ _) _⟩
  · have hnum : num e = [lo, hi] := by
      rw [num_pos _ hne, hlo, hhi, num_pos _ hz, show hi / 4294967296 = 0 by omega, num_zero, show hi % 4294967296 = hi by omega]
    have z1 : ((hi : Int) == 0) = false := by rw [beq_eq_false_iff_ne]; omega
    have z2 : ¬ (hi : Int) = 0 := by omega
    have z5 : ¬ e < 4294967296 := by omega
    have z6 : 4294967296 ≤ e := by omega
    rw [hnum]
    have HL : Hid (Lim [lo, hi]) := by rw [← hnum]; exact num_lim e
    clear hlo hhi hnum
    go_enter Tryd.func26, Tryd.ntmps26
    go_wp2
    go_ret
    have hb : BlkU (w.alloc (.cells #[.int .u32 (lo : Int), .int .u32 (hi : Int)] 59)) w.heap.size [lo, hi] := has_new _ _
    exact ⟨2, rfl, by omega, by simpa using hb.ru HL.out 0 2 (by simp), kp_alloc (Below.refl _ _) _⟩
/-- The bytes that stand ahead of a digest. -/
def aheadL : List UInt8 := [48, 49, 48, 13, 6, 9, 96, 134, 72, 1, 101, 3, 4, 2, 1, 5, 0, 4, 32]
theorem dahead_any (w : World) : Calls Tryd.prog 22 #[] w fun r w' => r = .returned (.slice (some ⟨w.heap.size, 0, none⟩) 19 19) ∧ RB w' (some ⟨w.heap.size, 0, none⟩) 19 aheadL ∧ Below w.heap.size w w' := by
  go_enter Tryd.func22, Tryd.ntmps22
  go_wp2
  go_ret
  refine ⟨rfl, ⟨rfl, fun _ => ⟨w.heap.size, 0, rfl, by simp, fun k hk => ?_⟩⟩, kp_alloc (Below.refl _ _) _⟩
  have hk2 : k < 19 := hk
  rw [Lib.cell_of_heap (has_new w _) (0 + k), Nat.zero_add]
  have : ∀ k, (h : k < 19) → (#[Value.int .u8 48, .int .u8 49, .int .u8 48, .int .u8 13, .int .u8 6, .int .u8 9, .int .u8 96, .int .u8 134, .int .u8 72, .int .u8 1, .int .u8 101, .int .u8 3, .int .u8 4, .int .u8 2, .int .u8 1, .int .u8 5, .int .u8 0, .int .u8 4, .int .u8 32] : Array Value)[k]? = some (bv aheadL[k]) := by
    intro k h
    match k, h with
    | 0, _ | 1, _ | 2, _ | 3, _ | 4, _ | 5, _ | 6, _ | 7, _ | 8, _ | 9, _ | 10, _ | 11, _ | 12, _ | 13, _ | 14, _ | 15, _ | 16, _ | 17, _ | 18, _ => rfl
    | k + 19, h => exact absurd h (by omega)
  exact this k hk2
end Go.Proofs.YtbplchpbaonadaaDoor
namespace Go.Proofs.YtbplchpbaonadaaDoor
open Go.RowKit Go
set_option linter.unusedVariables false
set_option linter.unusedSimpArgs false
set_option maxRecDepth 100000
theorem rb_block {w : World} {g : Nat} {cs : Array Value} {t : TypeId} {fr : Nat × Nat} {bs : List UInt8} {n : Nat} (hk : w.heap[g]? = some (.cells cs t fr)) (h : cs.toList = bs.map bv) (hn : bs.length = n) : RB w (some ⟨g, 0, none⟩) n bs := by
  refine ⟨hn, fun hne => ⟨g, 0, rfl, block_lt hk, fun k hk2 => ?_⟩⟩
  have h9 := Lib.cell_of_heap hk (0 + k)
  rw [h9]
  have h8 : cs[0 + k]? = some (bv bs[k]) := by
    rw [← Array.getElem?_toList, h, List.getElem?_map, Nat.zero_add, List.getElem?_eq_getElem hk2]
    rfl
  rw [h8]
set_option maxHeartbeats 4000000 in
theorem same6_any (A B : Option Addr) (n c m d : Nat) (x y : List UInt8) (w : World) (hA : RB w A n x) (hB : RB w B m y) (hn : n ≤ 1000000000) (hm : m ≤ 1000000000) :
    Calls Tryd.prog 13 #[.slice A n c, .slice B m d] w fun e w' => e = .returned (.bool (decide (x = y))) ∧ Below w.heap.size w w' := by
  have HA := Lib.hid hA
  have HB := Lib.hid hB
  by_cases hnm : n = m
  · subst hnm
    clear hA hB
    go_enter Tryd.func13, Tryd.ntmps13
    go_wp2_with fail
    go_loopw [5] (fun vi wl => ∃ i : Nat, vi = .int .i64 (i : Int) ∧ i ≤ n ∧ Hid (x.take i = y.take i ∧ Below w.heap.size w wl)) (fun vi _ => n - (intOf vi).toNat)
    case atStart => exact ⟨0, rfl, Nat.zero_le _, rfl, Below.refl _ _⟩
    case round =>
      obtain ⟨i, rfl, hi, HK⟩ := hrel
      by_cases hlt : i < n
      · have i1 : (i : Int) < (n : Int) := by omega
        have i2 : 0 ≤ (i : Int) := by omega
        have e3 : IntKind.i64.wrap ((i : Int) + 1) = (i : Int) + 1 := IntWalk.i64_in _ (by omega)
        obtain ⟨ba, oa, p, rfl, hba, hx, cA⟩ := HA.out.at_ hlt
        obtain ⟨bb, ob, q, rfl, hbb, hy, cB⟩ := HB.out.at_ hlt
        have cA' := (HK.out.2.cell (p := ⟨ba, oa + i, none⟩) hba).trans cA
        have cB' := (HK.out.2.cell (p := ⟨bb, ob + i, none⟩) hbb).trans cB
        clear cA cB hba hbb
        by_cases hxy : p = q
        · subst hxy
          have HN : Hid (x.take (i + 1) = y.take (i + 1) ∧ Below w.heap.size w wr) := by
            refine ⟨?_, HK.out.2⟩
            rw [List.take_add_one, List.take_add_one, HK.out.1, hx, hy]
          have t1 : ((p.toNat : Int) != (p.toNat : Int)) = false := by simp
          clear hx hy HK
          go_wp2_with fail
          go_quiet (fail)
          go_wp2
          go_roundw
          case rel => exact ⟨i + 1, by go_num, by omega, HN.out.1, kp_drewN HN.out.2 _⟩
          case measure => simp [intOf]; omega
        · have hpq : p.toNat ≠ q.toNat := fun h => hxy (UInt8.toNat_inj.1 h)
          have t1 : ((p.toNat : Int) != (q.toNat : Int)) = true := by simp; omega
          have HN : Hid (x ≠ y ∧ Below w.heap.size w wr) := by
            refine ⟨?_, HK.out.2⟩
            rintro rfl
            rw [hx] at hy
            injection hy with hy
            exact hxy hy
          clear hx hy HK
          go_wp2_with fail
          go_quiet (fail)
          go_wp2
          go_ret
          exact ⟨by rw [decide_eq_false HN.out.1]; rfl, kp_drewN HN.out.2 _⟩
      · have i1 : ¬ (i : Int) < (n : Int) := by omega
        have HN : Hid (x = y ∧ Below w.heap.size w wr) := by
          refine ⟨?_, HK.out.2⟩
          have h := HK.out.1
          rw [List.take_of_length_le (by rw [HA.out.1]; omega), List.take_of_length_le (by rw [HB.out.1]; omega)] at h
          exact h
        clear HK
        go_wp2
        go_ret
        exact ⟨by rw [decide_eq_true HN.out.1]; rfl, HN.out.2⟩
  · have i1 : ((n : Int) != (m : Int)) = true := by simp; omega
    have hne : x ≠ y := by
      rintro rfl
      exact hnm (hA.1.symm.trans hB.1)
    have i2 : ¬ n = m := hnm
    rw [decide_eq_false hne]
    clear hA hB HA HB hne
    go_enter Tryd.func13, Tryd.ntmps13
    go_wp2
    go_ret
    exact ⟨rfl, Below.refl _ _⟩
end Go.Proofs.YtbplchpbaonadaaDoor
namespace Go.Proofs.YtbplchpbaonadaaDoor
open Go.RowKit Go
set_option linter.unusedVariables false
set_option linter.unusedSimpArgs false
set_option maxRecDepth 100000
def sliceLen : Value → Nat
  | .slice _ n _ => n
  | _ => 0
theorem own_lit (w : World) (bs : List UInt8) (n : Nat) (cs : Array Value) (h : cs.toList = bs.map bv) (hn : bs.length = n) (hm : n ≤ 1000000) :
    OwnB (w.alloc (.cells cs 5)) w.heap.size (some ⟨w.heap.size, 0, none⟩) n n bs := by
  have hl : cs.size = n := by rw [← Array.length_toList, h, List.length_map, hn]
  refine ⟨by simp [hn], .inr ⟨w.heap.size, n, cs, rfl, Nat.le_refl _, heap_alloc_new w _, Nat.le_refl _, by unfold maxLen; omega, by omega, ?_⟩⟩
  rw [h, List.take_of_length_le (by simp; omega)]
/-- The message of a digest. -/
def encL (d : List UInt8) (n : Nat) : List UInt8 := [0, 1] ++ List.replicate (n - 54) 255 ++ [0] ++ aheadL ++ d
theorem encL_len (d : List UInt8) (n : Nat) (hd : d.length = 32) (hn : 62 ≤ n) : (encL d n).length = n := by
  unfold encL aheadL
  simp [hd]
  omega
set_option maxHeartbeats 2000000 in
/-- The document's Encode. -/
theorem dencode_any (n : Nat) (h1 : 62 ≤ n) (h2 : n ≤ 512) (cs : Array Value) (d : List UInt8) (w : World) (hd : d.length = 32) (hcs : cs.toList = d.map bv) :
    Calls Tryd.prog 11 #[.agg cs, .int .i64 (n : Int)] w fun e w' => ∃ A c, e = .returned (.tuple #[.slice A n c, .int .i64 0]) ∧ OwnB w' w.heap.size A n c (encL d n) ∧ Below w.heap.size w w' := by
  have HCS := Lib.hid hcs
  have HD := Lib.hid hd
  have e1 : IntKind.i64.wrap ((n : Int) - 52) = (n : Int) - 52 := IntWalk.i64_in _ (by omega)
  have p1 : decide ((n : Int) < 62) = false := decide_eq_false (by omega)
  have p2 : decide ((n : Int) > 512) = false := decide_eq_false (by omega)
  clear hcs hd
  go_enter Tryd.func11, Tryd.ntmps11
  go_wp2
  have OW : Hid (OwnB ((w.alloc (.cells cs 22)).alloc (.cells #[.int .u8 0, .int .u8 1] 5)) (w.heap.size + 1) (some ⟨w.heap.size + 1, 0, none⟩) (2 + 0) 2 ([0, 1] ++ List.replicate 0 255)) := by
    have h9 := own_lit (w.alloc (.cells cs 22)) [0, 1] 2 #[.int .u8 0, .int .u8 1] rfl rfl (by omega)
    rw [World.size_alloc] at h9
    exact h9
  have HW : Hid (((w.alloc (.cells cs 22)).alloc (.cells #[.int .u8 0, .int .u8 1] 5)).heap[w.heap.size]? = some (.cells cs 22)) := has_alloc (has_new _ _) _
  have HBL : Hid (Below w.heap.size w ((w.alloc (.cells cs 22)).alloc (.cells #[.int .u8 0, .int .u8 1] 5))) := kp_alloc (kp_alloc (Below.refl _ _) _) _
  have START : Hid (∃ (j : Nat) (A : Option Addr) (c : Nat), Value.slice (some ⟨w.heap.size + 1, 0, none⟩) 2 2 = .slice A (2 + j) c ∧ j ≤ n - 54 ∧ Hid (OwnB ((w.alloc (.cells cs 22)).alloc (.cells #[.int .u8 0, .int .u8 1] 5)) (w.heap.size + 1) A (2 + j) c ([0, 1] ++ List.replicate j 255) ∧ Below w.heap.size w ((w.alloc (.cells cs 22)).alloc (.cells #[.int .u8 0, .int .u8 1] 5)) ∧ ((w.alloc (.cells cs 22)).alloc (.cells #[.int .u8 0, .int .u8 1] 5)).heap[w.heap.size]? = some (.cells cs 22))) := ⟨0, _, 2, rfl, Nat.zero_le _, OW.out, HBL.out, HW.out⟩
  clear OW HW HBL
  go_loopw [6] (fun v wl => ∃ (j : Nat) (A : Option Addr) (c : Nat), v = .slice A (2 + j) c ∧ j ≤ n - 54 ∧ Hid (OwnB wl (w.heap.size + 1) A (2 + j) c ([0, 1] ++ List.replicate j 255) ∧ Below w.heap.size w wl ∧ wl.heap[w.heap.size]? = some (.cells cs 22))) (fun v _ => n - sliceLen v)
  case atStart => exact START.out
  case round =>
    obtain ⟨j, A, c, rfl, hj, HK⟩ := hrel
    clear START
    obtain ⟨ho, hb, hk⟩ := HK.out
    have hsz := hb.size
    have hlk := block_lt hk
    by_cases hlt : j < n - 54
    · have i1 : ((2 + j : Nat) : Int) < (n : Int) - 52 := by omega
      have i2 : (2 : Int) + (j : Int) < (n : Int) - 52 := by omega
      have HO := Lib.hid ho
      have HBK := Lib.hid (And.intro hb hk)
      clear ho hb hk HK
      go_wp2_with (at_builtin; refine wpList_apn _ _ rfl rfl rfl (w.heap.size + 1) A (2 + j) c _ rfl (HO.out.alloc _) (some ⟨wr.heap.size, 0, none⟩) 1 1 [255] rfl (rb_block (has_new _ _) rfl rfl) (by omega) (by simp; omega) ?_)
      intro A' c' w' ho' hg'
      have HN : Hid (OwnB w' (w.heap.size + 1) A' (2 + (j + 1)) c' ([0, 1] ++ List.replicate (j + 1) 255) ∧ Below w.heap.size w w' ∧ w'.heap[w.heap.size]? = some (.cells cs 22)) := by
        refine ⟨?_, ?_, ?_⟩
        · rw [List.replicate_succ', ← List.append_assoc]; exact ho'
        · exact (kp_alloc HBK.out.1 _).grown hg' (by simp; omega) (fun g hg => by have := (HO.out.blk_lt hg).1; omega)
        · exact (hg'.block _ (by simp; omega) (fun e => by have := (HO.out.blk_lt e.symm).1; omega)).trans (has_alloc HBK.out.2 _)
      clear ho' hg' HO HBK
      go_wp2
      go_roundw
      case rel => exact ⟨j + 1, A', c', by first | rfl | (congr 1; omega), by omega, HN.out⟩
      case measure => simp [sliceLen]; omega
    · obtain rfl : j = n - 54 := by omega
      have i1 : ¬ (((2 + (n - 54) : Nat) : Int) < (n : Int) - 52) := by omega
      obtain ⟨m, hm⟩ : ∃ m, 2 + (n - 54) = m := ⟨_, rfl⟩
      rw [hm] at ho i1
      simp only [hm]
      have i2 : ¬ ((m : Int) < (n : Int) - 52) := by omega
      have hmn : m + 52 = n := by omega
      have HO := Lib.hid ho
      have HBK := Lib.hid (And.intro hb hk)
      have HM := Lib.hid hm
      clear ho hb hk HK hm
      go_wp2_with (at_builtin; refine wpList_apn _ _ rfl rfl rfl (w.heap.size + 1) A m c _ rfl (HO.out.alloc _) (some ⟨wr.heap.size, 0, none⟩) 1 1 [0] rfl (rb_block (has_new _ _) rfl rfl) (by omega) (by simp; omega) ?_)
      intro A2 c2 w2 ho2 hg2
      have HB2 : Hid (Below w.heap.size w w2 ∧ w2.heap[w.heap.size]? = some (.cells cs 22)) :=
        ⟨(kp_alloc HBK.out.1 _).grown hg2 (by simp; omega) (fun g hg => by have := (HO.out.blk_lt hg).1; omega), (hg2.block _ (by simp; omega) (fun e => by have := (HO.out.blk_lt e.symm).1; omega)).trans (has_alloc HBK.out.2 _)⟩
      have HO2 := Lib.hid ho2
      clear ho2 hg2 HO HBK
      go_wp2_with fail
      refine (dahead_any _).mono ?_
      rintro e w3 ⟨rfl, hr3, hb3⟩
      have HO3 := Lib.hid (HO2.out.below hb3 (Nat.le_refl _))
      have HB3 : Hid (Below w.heap.size w w3 ∧ w3.heap[w.heap.size]? = some (.cells cs 22)) := ⟨kp_call HB2.out.1 hb3, has_below HB2.out.2 hb3⟩
      have HR3 := Lib.hid hr3
      have hz3 := HB3.out.1.size
      have hl3 := block_lt HB3.out.2
      clear hr3 hb3 HO2 HB2
      go_wp2_with (at_builtin; refine wpList_apn _ _ rfl rfl rfl (w.heap.size + 1) A2 (m + 1) c2 _ rfl HO3.out _ 19 19 aheadL rfl HR3.out (by omega) (by omega) ?_)
      intro A4 c4 w4 ho4 hg4
      have HB4 : Hid (Below w.heap.size w w4 ∧ w4.heap[w.heap.size]? = some (.cells cs 22)) :=
        ⟨HB3.out.1.grown hg4 (by omega) (fun g hg => by have := (HO3.out.blk_lt hg).1; omega), (hg4.block _ (by omega) (fun e => by have := (HO3.out.blk_lt e.symm).1; omega)).trans HB3.out.2⟩
      have HO4 := Lib.hid ho4
      have hz4 := HB4.out.1.size
      have hl4 := block_lt HB4.out.2
      clear ho4 hg4 HO3 HB3 HR3
      go_wp2_with (at_builtin; refine wpList_apn _ _ rfl rfl rfl (w.heap.size + 1) A4 (m + 1 + 19) c4 _ rfl HO4.out (some ⟨w.heap.size, 0, none⟩) 32 32 d rfl (rb_block HB4.out.2 HCS.out HD.out) (by omega) (by omega) ?_)
      intro A5 c5 w5 ho5 hg5
      have HF : Hid (OwnB w5 (w.heap.size + 1) A5 n c5 (encL d n) ∧ Below w.heap.size w w5) := by
        refine ⟨?_, HB4.out.1.grown hg5 (by omega) (fun g hg => by have := (HO4.out.blk_lt hg).1; omega)⟩
        have h9 : m + 1 + 19 + 32 = n := by omega
        have e9 : encL d n = 0 :: 1 :: (List.replicate (n - 54) 255 ++ 0 :: (aheadL ++ d)) := by unfold encL; simp
        rw [e9]
        exact ho5
      clear ho5 hg5 HO4 HB4
      obtain ⟨k5, hk5⟩ : ∃ k5, k5 = n := ⟨_, rfl⟩
      go_wp2
      go_ret2
      exact ⟨A5, c5, by first | rfl | (simp; omega), HF.out.1.lower (Nat.le_succ _), HF.out.2⟩
end Go.Proofs.YtbplchpbaonadaaDoor
namespace Go.Proofs.YtbplchpbaonadaaDoor
open Go.RowKit Go
set_option linter.unusedVariables false
set_option linter.unusedSimpArgs false
set_option maxRecDepth 100000
/-- A list of slices of bytes in memory: row r is the slice X r, and reads as bss r. -/
def Parts (w : World) (A : Option Addr) (n : Nat) (X : Nat → Option Addr × Nat × Nat) (bss : Nat → List UInt8) : Prop :=
  0 < n → ∃ b off, A = some ⟨b, off, none⟩ ∧ b < w.heap.size ∧ ∀ r, r < n → w.cell? ⟨b, off + r, none⟩ = some (.slice (X r).1 (X r).2.1 (X r).2.2) ∧ RB w (X r).1 (X r).2.1 (bss r)
theorem Parts.below {w w' : World} {A : Option Addr} {n : Nat} {X : Nat → Option Addr × Nat × Nat} {bss : Nat → List UInt8} (h : Parts w A n X bss) {B : Nat} (hb : Below B w w') (hB : w.heap.size ≤ B) : Parts w' A n X bss := fun hn => by
  obtain ⟨b, off, rfl, hlt, hr⟩ := h hn
  exact ⟨b, off, rfl, Nat.lt_of_lt_of_le hlt hb.size, fun r hrn => ⟨(hb.cell (p := ⟨b, off + r, none⟩) (show b < B by omega)).trans (hr r hrn).1, (hr r hrn).2.below' hb hB⟩⟩
/-- The first k of them, one behind the other. -/
def joinN (bss : Nat → List UInt8) : Nat → List UInt8
  | 0 => []
  | k + 1 => joinN bss k ++ bss k
theorem joinN_succ (bss : Nat → List UInt8) (k : Nat) : joinN bss (k + 1) = joinN bss k ++ bss k := rfl
theorem joinN_mono (bss : Nat → List UInt8) (i : Nat) : ∀ j, i ≤ j → (joinN bss i).length ≤ (joinN bss j).length
  | 0, h => by obtain rfl : i = 0 := by omega
               exact Nat.le_refl _
  | j + 1, h => by
    rcases Nat.lt_or_ge j i with h1 | h1
    · obtain rfl : i = j + 1 := by omega
      exact Nat.le_refl _
    · have := joinN_mono bss i j h1
      rw [joinN_succ, List.length_append]; omega
theorem rjoin_any (A : Option Addr) (m c : Nat) (X : Nat → Option Addr × Nat × Nat) (bss : Nat → List UInt8) (w : World) (hP : Parts w A m X bss) (hm : m ≤ 1000000) (hlen : (joinN bss m).length ≤ 140737488355328) :
    Calls Tryd.prog 21 #[.slice A m c] w (Fresh w (joinN bss m)) := by
  have HL := Lib.hid (fun i (h : i ≤ m) => joinN_mono bss i m h)
  have HP := Lib.hid hP
  clear hP
  go_enter Tryd.func21, Tryd.ntmps21
  go_wp2
  go_loopw [3, 8] (fun v i wl => ∃ (k : Nat) (A2 : Option Addr) (n2 c2 : Nat), k ≤ m ∧ i = .int .i64 k ∧ v = .slice A2 n2 c2 ∧ OwnB wl w.heap.size A2 n2 c2 (joinN bss k) ∧ Below w.heap.size w wl) (fun _ i _ => m - (intOf i).toNat)
  case atStart => exact ⟨0, _, _, _, Nat.zero_le _, rfl, rfl, OwnB.nil _ _, Below.refl _ _⟩
  case round =>
    obtain ⟨k, A2, n2, c2, hk, rfl, rfl, hown, hbl⟩ := hrel
    by_cases hlt2 : k < m
    · obtain ⟨b, off, rfl, hblt, hr⟩ := (Parts.below HP.out hbl (Nat.le_refl _)) (by omega)
      obtain ⟨hcell, hR⟩ := hr k hlt2
      have hle := HL.out (k + 1) (by omega)
      rw [joinN_succ, List.length_append, hR.1, hown.len] at hle
      have hsz := hbl.size
      clear hr
      go_wp2_with (at_builtin; refine wpList_apn _ _ rfl rfl rfl w.heap.size A2 n2 c2 _ rfl hown (X k).1 (X k).2.1 (X k).2.2 (bss k) rfl hR (by omega) (by omega) ?_)
      intro A3 c3 w3 hown3 hg3
      go_wp2
      go_roundw
      case rel => exact ⟨k + 1, A3, _, c3, by omega, by go_num, rfl, hown3, hbl.grown hg3 (by omega) (fun g hg => (hown.blk_lt hg).1)⟩
      case measure => simp [intOf]; omega
    · obtain rfl : k = m := by omega
      go_wp2
      go_ret
      exact ⟨A2, n2, c2, rfl, hown, hbl⟩
/-- A slice and what it reads as. -/
abbrev Row1 := Option Addr × Nat × Nat × List UInt8
def Row1.val (x : Row1) : Value := .slice x.1 x.2.1 x.2.2.1
def Row1.nul : Row1 := (none, 0, 0, [])
theorem joinN_list (l : List Row1) : ∀ k, k ≤ l.length → joinN (fun r => (l.getD r Row1.nul).2.2.2) k = (l.take k).flatMap (fun x => x.2.2.2)
  | 0, _ => rfl
  | k + 1, h => by
    rw [joinN_succ, joinN_list l k (by omega), List.take_add_one, List.getElem?_eq_getElem (by omega), List.flatMap_append]
    congr 1
    simp [List.getD_eq_getElem?_getD, List.getElem?_eq_getElem (show k < l.length by omega)]
/-- Encode, where it answers an error. -/
theorem encode_no (n : Int) (h : n < 62 ∨ 512 < n) (cs : Array Value) (w : World) :
    Calls Tryd.prog 10 #[.agg cs, .int .i64 n] w fun e w' => e = .returned (.tuple #[.slice none 0 0, .int .i64 1]) ∧ Below w.heap.size w w' := by
  by_cases a1 : n < 62
  · have p1 : decide (n < 62) = true := decide_eq_true a1
    clear h
    go_enter Tryd.func10, Tryd.ntmps10
    go_wp2
    go_ret2
    exact ⟨rfl, kp_alloc (Below.refl _ _) _⟩
  · have a2 : 512 < n := by omega
    have p1 : decide (n < 62) = false := decide_eq_false a1
    have p2 : decide (n > 512) = true := decide_eq_true a2
    clear h
    go_enter Tryd.func10, Tryd.ntmps10
    go_wp2
    go_ret2
    exact ⟨rfl, kp_alloc (Below.refl _ _) _⟩
theorem dencode_no (n : Int) (h : n < 62 ∨ 512 < n) (cs : Array Value) (w : World) :
    Calls Tryd.prog 11 #[.agg cs, .int .i64 n] w fun e w' => e = .returned (.tuple #[.slice none 0 0, .int .i64 1]) ∧ Below w.heap.size w w' := by
  by_cases a1 : n < 62
  · have p1 : decide (n < 62) = true := decide_eq_true a1
    clear h
    go_enter Tryd.func11, Tryd.ntmps11
    go_wp2
    go_ret2
    exact ⟨rfl, kp_alloc (Below.refl _ _) _⟩
  · have a2 : 512 < n := by omega
    have p1 : decide (n < 62) = false := decide_eq_false a1
    have p2 : decide (n > 512) = true := decide_eq_true a2
    clear h
    go_enter Tryd.func11, Tryd.ntmps11
    go_wp2
    go_ret2
    exact ⟨rfl, kp_alloc (Below.refl _ _) _⟩
end Go.Proofs.YtbplchpbaonadaaDoor
namespace Go.Proofs.YtbplchpbaonadaaDoor
open Go.RowKit Go
set_option linter.unusedVariables false
set_option linter.unusedSimpArgs false
set_option maxRecDepth 100000
set_option maxHeartbeats 1000000 in
theorem mul64_any (x y : Nat) (hx : x < 18446744073709551616) (hy : y < 18446744073709551616) (w : World) :
    Calls Tryd.prog 61 #[.int .u64 x, .int .u64 y] w fun e w' => e = .returned (.tuple #[.int .u64 ((x * y / 18446744073709551616 : Nat) : Int), .int .u64 ((x * y % 18446744073709551616 : Nat) : Int)]) ∧ w = w' := by
  obtain ⟨bd, bt, bw, hhi⟩ := Lib.mul64_hi x y hx hy
  have ba := Lib.half_mul_le (a := x / 4294967296) (b := y / 4294967296) (by omega) (by omega)
  have bb := Lib.half_mul_le (a := x / 4294967296) (b := y % 4294967296) (by omega) (by omega)
  have bc := Lib.half_mul_le (a := x % 4294967296) (b := y / 4294967296) (by omega) (by omega)
  have ba' : x / 4294967296 * (y / 4294967296) < 18446744073709551616 := by omega
  have bb' : x / 4294967296 * (y % 4294967296) < 18446744073709551616 := by omega
  have bc' : x % 4294967296 * (y / 4294967296) < 18446744073709551616 := by omega
  have bh1 : x / 4294967296 * (y / 4294967296) + (x / 4294967296 * (y % 4294967296) + x % 4294967296 * (y % 4294967296) / 4294967296) / 4294967296 < 18446744073709551616 := by omega
  have bh : x / 4294967296 * (y / 4294967296) + (x / 4294967296 * (y % 4294967296) + x % 4294967296 * (y % 4294967296) / 4294967296) / 4294967296 + ((x / 4294967296 * (y % 4294967296) + x % 4294967296 * (y % 4294967296) / 4294967296) % 4294967296 + x % 4294967296 * (y / 4294967296)) / 4294967296 < 18446744073709551616 := by omega
  go_enter Tryd.func61, Tryd.ntmps61
  go_wp2
  simp only [Mul64.maskN x hx, Mul64.maskN y hy, Mul64.divN, Mul64.mulN, Mul64.addN, Mul64.wrapN _ bd, Mul64.wrapN _ bb', Mul64.wrapN _ bt, Mul64.maskN _ bt, Mul64.wrapN _ bc', Mul64.wrapN _ bw, Mul64.wrapN _ ba', Mul64.wrapN _ bh1, Mul64.wrapN _ bh, Mul64.wrapM (x * y)]
  rw [hhi]
  go_ret2
  exact ⟨rfl, rfl⟩
/-- A word whose bits go round to the right. -/
def rotr (x n : Nat) : Nat := (x * 2 ^ (32 - n) % 4294967296) ||| (x / 2 ^ n)
theorem rotr_lt (x n : Nat) (hx : x < 4294967296) : rotr x n < 4294967296 := by
  unfold rotr
  have h2 : x / 2 ^ n < 2 ^ 32 := Nat.lt_of_le_of_lt (Nat.div_le_self _ _) hx
  have h1 : x * 2 ^ (32 - n) % 4294967296 < 2 ^ 32 := Nat.mod_lt _ (by decide)
  exact Nat.or_lt_two_pow h1 h2
end Go.Proofs.YtbplchpbaonadaaDoor
namespace Go.Proofs.YtbplchpbaonadaaDoor
open Go.RowKit Go
set_option linter.unusedVariables false
set_option linter.unusedSimpArgs false
set_option maxRecDepth 100000
theorem bmul_any (x y : Nat) (hx : x < 18446744073709551616) (hy : y < 18446744073709551616) (w : World) :
    Calls Tryd.prog 36 #[.int .u64 (x : Int), .int .u64 (y : Int)] w fun e w' => e = .returned (.tuple #[.int .u64 ((x * y / 18446744073709551616 : Nat) : Int), .int .u64 ((x * y % 18446744073709551616 : Nat) : Int)]) ∧ w' = w := by
  have M := Lib.hid (mul64_any x y hx hy w)
  have h1 : x * y / 18446744073709551616 < 18446744073709551616 := by
    refine Nat.div_lt_of_lt_mul ?_
    exact Nat.mul_lt_mul'' hx hy
  have h2 : x * y % 18446744073709551616 < 18446744073709551616 := Nat.mod_lt _ (by omega)
  obtain ⟨hi, hhi⟩ : ∃ hi, x * y / 18446744073709551616 = hi := ⟨_, rfl⟩
  obtain ⟨lo, hlo⟩ : ∃ lo, x * y % 18446744073709551616 = lo := ⟨_, rfl⟩
  rw [hhi] at M h1 ⊢
  rw [hlo] at M h2 ⊢
  have e1 : IntKind.u64.wrap (hi : Int) = (hi : Int) := by rw [IntKind.wrap_u64]; omega
  have e2 : IntKind.u64.wrap (lo : Int) = (lo : Int) := by rw [IntKind.wrap_u64]; omega
  clear hhi hlo
  go_enter Tryd.func36, Tryd.ntmps36
  go_wp2_with fail
  refine M.out.mono ?_
  rintro e w1 ⟨rfl, rfl⟩
  go_wp2
  go_ret2
  exact ⟨rfl, rfl⟩
end Go.Proofs.YtbplchpbaonadaaDoor
namespace Go.Proofs.YtbplchpbaonadaaDoor
open Go.RowKit Go
set_option linter.unusedVariables false
set_option linter.unusedSimpArgs false
set_option maxRecDepth 100000
theorem dlimbs_any (e : Nat) (he : e < 18446744073709551616) (w : World) :
    Calls Tryd.prog 31 #[.int .u64 (e : Int)] w fun r w' => ∃ w1, Below w.heap.size w w1 ∧ BriefPost w1 2 e r w' := by
  obtain ⟨lo, hlo⟩ : ∃ lo, e % 4294967296 = lo := ⟨_, rfl⟩
  obtain ⟨hi, hhi⟩ : ∃ hi, e / 4294967296 = hi := ⟨_, rfl⟩
  have hlo4 : lo < 4294967296 := by omega
  have hhi4 : hi < 4294967296 := by omega
  have hv : val [lo, hi] = e := by
    show lo + 4294967296 * (hi + 4294967296 * 0) = e
    omega
  have HL : Hid (Lim [lo, hi]) := fun x hx => by
    simp at hx
    rcases hx with rfl | rfl
    · exact hlo4
    · exact hhi4
  have a1 : bits BinOp.and IntKind.u64 (e : Int) 4294967295 = (lo : Int) := by
    rw [show (4294967295 : Int) = ((4294967295 : Nat) : Int) from rfl, bits_and_u64_nat _ _ he (by decide), show (4294967295 : Nat) = 2 ^ 32 - 1 from rfl, Nat.and_two_pow_sub_one_eq_mod, ← hlo]
  have hsh : (e : Int) / 4294967296 = (hi : Int) := by omega
  have w1 : IntKind.u32.wrap (lo : Int) = (lo : Int) := by rw [IntKind.wrap_u32]; omega
  have w2 : IntKind.u32.wrap (hi : Int) = (hi : Int) := by rw [IntKind.wrap_u32]; omega
  have w3 : IntKind.u64.wrap (hi : Int) = (hi : Int) := by rw [IntKind.wrap_u64]; omega
  have HV := Lib.hid hv
  clear hlo hhi hv
  go_enter Tryd.func31, Tryd.ntmps31
  go_wp2_with fail
  refine calls_nm fun W hW => ?_
  have hb : BlkU W w.heap.size [lo, hi] := by rw [← hW]; exact has_new _ _
  have hbW : Below w.heap.size w W := by rw [← hW]; exact kp_alloc (Below.refl _ _) _
  have hru : RU W (some ⟨w.heap.size, 0, none⟩) 2 [lo, hi] := by simpa using hb.ru HL.out 0 2 (by simp)
  clear hW hb
  have TR := Lib.hid (dtrim_any (some ⟨w.heap.size, 0, none⟩) 2 2 [lo, hi] W hru (by omega) (by omega) (by omega))
  rw [HV.out] at TR
  have HB := Lib.hid hbW
  clear hru hbW
  refine TR.out.mono ?_
  rintro r w5 hp
  have HP := Lib.hid hp
  unfold BriefPost at hp
  obtain ⟨A5, n5, c5, rfl, hp5⟩ := hp
  clear hp5 TR
  go_wp2
  go_ret
  exact ⟨W, HB.out, HP.out⟩
end Go.Proofs.YtbplchpbaonadaaDoor
namespace Go.Proofs.YtbplchpbaonadaaDoor
open Go.RowKit Go
set_option linter.unusedVariables false
set_option linter.unusedSimpArgs false
set_option maxRecDepth 100000
theorem joinsH_any (l : List Row1) (m : Nat) (cs : Array Value) (t : TypeId) (mk : Nat × Nat) (w : World) (g : Nat) (hg : w.heap[g]? = some (.cells cs t mk)) (hl : l.length = m) (hm : m ≤ 1000000) (hcs : cs.toList = l.map Row1.val) (hR : ∀ x ∈ l, RB w x.1 x.2.1 x.2.2.2)
    (hlen : (l.flatMap (fun x => x.2.2.2)).length ≤ 140737488355328) :
    Calls Tryd.prog 21 #[.slice (some ⟨g, 0, none⟩) m m] w (Fresh w (l.flatMap (fun x => x.2.2.2))) := by
  have hj := joinN_list l m (by omega)
  rw [List.take_of_length_le (by omega)] at hj
  have hP : Parts w (some ⟨g, 0, none⟩) m (fun r => ((l.getD r Row1.nul).1, (l.getD r Row1.nul).2.1, (l.getD r Row1.nul).2.2.1)) (fun r => (l.getD r Row1.nul).2.2.2) := fun _ => by
    refine ⟨g, 0, rfl, block_lt hg, fun r hr => ?_⟩
    have hg2 : l.getD r Row1.nul = l[r]'(by omega) := by
      rw [List.getD_eq_getElem?_getD, List.getElem?_eq_getElem (by omega)]; rfl
    simp only [hg2]
    refine ⟨?_, hR _ (List.getElem_mem _)⟩
    rw [cell_of_row _ g (0 + r) cs t _ hg, ← Array.getElem?_toList, hcs, Nat.zero_add, List.getElem?_map, List.getElem?_eq_getElem (by omega)]
    rfl
  have := rjoin_any (some ⟨g, 0, none⟩) m m _ _ _ hP hm (by rw [hj]; exact hlen)
  rw [hj] at this
  exact this
/-- Bytes that can be read, made by the call. -/
def FreshR (w : World) (bs : List UInt8) (e : Ending) (w' : World) : Prop := ∃ A n c, e = .returned (.slice A n c) ∧ RB w' A n bs ∧ Below w.heap.size w w'
/-- What Repeat of one byte 255 is to answer. -/
def RepeatOk : Prop := ∀ (W : World) (g k : Nat), W.heap[g]? = some (.cells #[.int .u8 255] 5) → 8 ≤ k → k ≤ 458 →
    Calls Tryd.prog 20 #[.slice (some ⟨g, 0, none⟩) 1 1, .int .i64 (k : Int)] W (FreshR W (List.replicate k 255))
set_option maxHeartbeats 2000000 in
theorem encode_of (RP : RepeatOk) (n : Nat) (h1 : 62 ≤ n) (h2 : n ≤ 512) (cs : Array Value) (d : List UInt8) (w : World) (hd : d.length = 32) (hcs : cs.toList = d.map bv) :
    Calls Tryd.prog 10 #[.agg cs, .int .i64 (n : Int)] w fun e w' => ∃ A c, e = .returned (.tuple #[.slice A n c, .int .i64 0]) ∧ OwnB w' w.heap.size A n c (encL d n) ∧ Below w.heap.size w w' := by
  have HCS := Lib.hid hcs
  have HD := Lib.hid hd
  have RP := Lib.hid RP
  obtain ⟨k, hk⟩ : ∃ k, n - 54 = k := ⟨_, rfl⟩
  have e1 : IntKind.i64.wrap (8 + (n : Int)) = 8 + (n : Int) := IntWalk.i64_in _ (by omega)
  have e2 : IntKind.i64.wrap (8 + (n : Int) - 62) = (k : Int) := by rw [IntWalk.i64_in _ (by omega)]; omega
  have p1 : decide ((n : Int) < 62) = false := decide_eq_false (by omega)
  have p2 : decide ((n : Int) > 512) = false := decide_eq_false (by omega)
  have hk1 : 8 ≤ k := by omega
  have hk2 : k ≤ 458 := by omega
  have HK := Lib.hid hk
  clear hcs hd hk
  go_enter Tryd.func10, Tryd.ntmps10
  go_wp2_with fail
  refine calls_nm fun W hW => ?_
  have hbW : Below w.heap.size w W := by rw [← hW]; exact kp_alloc (kp_alloc (Below.refl _ _) _) _
  have hdW : W.heap[w.heap.size]? = some (.cells cs 22) := by rw [← hW]; exact has_alloc (has_new _ _) _
  have hfW : W.heap[w.heap.size + 1]? = some (.cells #[.int .u8 255] 5) := by rw [← hW]; exact has_new' _ _ _ (by simp)
  refine (RP.out W _ k hfW hk1 hk2).mono ?_
  clear hW hfW
  rintro e w1 ⟨A1, n1, c1, rfl, ho1, hb1⟩
  obtain rfl : n1 = k := ho1.1.symm.trans (by simp)
  have HR1 := Lib.hid ho1
  have HD1 := Lib.hid (has_below hdW hb1)
  have HB1 := Lib.hid (kp_call hbW hb1)
  have hlk := block_lt HD1.out
  clear ho1 hb1 hdW hbW
  have CV : (convert 23 23 (.slice (some ⟨w1.heap.size + 1 + 1, 0, none⟩) 19 19)).run Tryd.prog (((w1.alloc (.cells #[.int .u8 0, .int .u8 1] 5)).alloc (.cells #[.int .u8 0] 5)).alloc (.cells #[.int .u8 48, .int .u8 49, .int .u8 48, .int .u8 13, .int .u8 6, .int .u8 9, .int .u8 96, .int .u8 134, .int .u8 72, .int .u8 1, .int .u8 101, .int .u8 3, .int .u8 4, .int .u8 2, .int .u8 1, .int .u8 5, .int .u8 0, .int .u8 4, .int .u8 32] 5)) = .ok (.slice (some ⟨w1.heap.size + 1 + 1, 0, none⟩) 19 19) (((w1.alloc (.cells #[.int .u8 0, .int .u8 1] 5)).alloc (.cells #[.int .u8 0] 5)).alloc (.cells #[.int .u8 48, .int .u8 49, .int .u8 48, .int .u8 13, .int .u8 6, .int .u8 9, .int .u8 96, .int .u8 134, .int .u8 72, .int .u8 1, .int .u8 101, .int .u8 3, .int .u8 4, .int .u8 2, .int .u8 1, .int .u8 5, .int .u8 0, .int .u8 4, .int .u8 32] 5 (19, 20))) := by
    have h9 := Lib.run_convert_bytes_const (P := Tryd.prog) ((w1.alloc (.cells #[.int .u8 0, .int .u8 1] 5)).alloc (.cells #[.int .u8 0] 5)) 23 5 #[.int .u8 48, .int .u8 49, .int .u8 48, .int .u8 13, .int .u8 6, .int .u8 9, .int .u8 96, .int .u8 134, .int .u8 72, .int .u8 1, .int .u8 101, .int .u8 3, .int .u8 4, .int .u8 2, .int .u8 1, .int .u8 5, .int .u8 0, .int .u8 4, .int .u8 32] 19 19 Tryd.underlying23 Tryd.underlying5
    rw [World.size_alloc, World.size_alloc] at h9
    exact h9
  go_wp2_with fail
  refine calls_nm fun W hW => ?_
  have b0 : W.heap[w1.heap.size]? = some (.cells #[.int .u8 0, .int .u8 1] 5) := by rw [← hW]; exact has_alloc (has_alloc (has_alloc (has_new _ _) _) _) _
  have b1 : W.heap[w1.heap.size + 1]? = some (.cells #[.int .u8 0] 5) := by rw [← hW]; exact has_alloc (has_alloc (has_new' _ _ _ (by simp)) _) _
  have b2 : W.heap[w1.heap.size + 1 + 1]? = some (.cells (aheadL.map bv).toArray 5 (19, 20)) := by rw [← hW]; exact has_alloc (has_new' _ _ _ (by simp)) _
  have b3 : W.heap[w1.heap.size + 1 + 1 + 1]? = some (.cells #[.slice (some ⟨w1.heap.size, 0, none⟩) 2 2, .slice A1 n1 c1, .slice (some ⟨w1.heap.size + 1, 0, none⟩) 1 1, .slice (some ⟨w1.heap.size + 1 + 1, 0, none⟩) 19 19, .slice (some ⟨w.heap.size, 0, none⟩) 32 32] 23) := by rw [← hW]; exact has_new' _ _ _ (by simp)
  have hbW : Below w1.heap.size w1 W := by rw [← hW]; exact kp_alloc (kp_alloc (kp_alloc (kp_alloc (Below.refl _ _) _) _) _) _
  clear hW
  have hlen : ([0, 1] ++ List.replicate n1 (255 : UInt8) ++ [0] ++ aheadL ++ d) = encL d n := by unfold encL; rw [HK.out]
  have J := joinsH_any [(some ⟨w1.heap.size, 0, none⟩, 2, 2, [0, 1]), (A1, n1, c1, List.replicate n1 255), (some ⟨w1.heap.size + 1, 0, none⟩, 1, 1, [0]), (some ⟨w1.heap.size + 1 + 1, 0, none⟩, 19, 19, aheadL), (some ⟨w.heap.size, 0, none⟩, 32, 32, d)] 5 _ _ _ W _ b3 rfl (by omega) rfl
    (by
      intro x hx
      simp only [List.mem_cons, List.not_mem_nil, or_false] at hx
      rcases hx with rfl | rfl | rfl | rfl | rfl
      · exact rb_block b0 rfl rfl
      · exact HR1.out.below hbW
      · exact rb_block b1 rfl rfl
      · exact rb_block b2 (by simp) rfl
      · exact rb_block (has_below HD1.out hbW) HCS.out HD.out)
    (by simp [aheadL, HD.out]; omega)
  have hfl : (List.flatMap (fun x : Row1 => x.2.2.2) [(some ⟨w1.heap.size, 0, none⟩, 2, 2, [0, 1]), (A1, n1, c1, List.replicate n1 255), (some ⟨w1.heap.size + 1, 0, none⟩, 1, 1, [0]), (some ⟨w1.heap.size + 1 + 1, 0, none⟩, 19, 19, aheadL), (some ⟨w.heap.size, 0, none⟩, 32, 32, d)]) = encL d n := by
    rw [← hlen]; simp
  rw [hfl] at J
  refine J.mono ?_
  clear J b0 b1 b2 b3 hfl
  rintro e w5 ⟨A5, n5, c5, rfl, ho5, hb5⟩
  obtain rfl : n5 = n := ho5.len.symm.trans (encL_len d n HD.out h1)
  have HF : Hid (OwnB w5 w.heap.size A5 n5 c5 (encL d n5) ∧ Below w.heap.size w w5) := ⟨ho5.lower (by have := hbW.size; have := HB1.out.size; omega), kp_call (kp_call HB1.out hbW) hb5⟩
  clear ho5 hb5 hbW
  go_wp2
  go_ret2
  exact ⟨A5, c5, rfl, HF.out⟩
end Go.Proofs.YtbplchpbaonadaaDoor
namespace Go.Proofs.YtbplchpbaonadaaDoor
open Go.RowKit Go
set_option linter.unusedVariables false
set_option maxRecDepth 100000
theorem splice_get {α : Type} (L : List α) (off : Nat) (cs : List α) (h : off + cs.length ≤ L.length) (i : Nat) :
    (splice L off cs)[i]? = if off ≤ i ∧ i < off + cs.length then cs[i - off]? else L[i]? := by
  unfold splice
  have hl : (L.take off).length = off := by rw [List.length_take]; omega
  by_cases h1 : i < off
  · rw [List.getElem?_append_left (by omega), List.getElem?_take, if_pos h1, if_neg (by omega)]
  · rw [List.getElem?_append_right (by omega), hl]
    by_cases h2 : i < off + cs.length
    · rw [List.getElem?_append_left (by omega), if_pos ⟨by omega, h2⟩]
    · rw [List.getElem?_append_right (by omega), List.getElem?_drop, if_neg (by omega)]
      congr 1; omega
theorem splice_take {α : Type} (L : List α) (off n : Nat) (cs : List α) (h : off + cs.length ≤ n) (hn : n ≤ L.length) : (splice L off cs).take n = splice (L.take n) off cs := by
  apply List.ext_getElem?
  intro i
  rw [splice_get _ _ _ (by rw [List.length_take]; omega), List.getElem?_take, splice_get _ _ _ (by omega), List.getElem?_take]
  by_cases hi : i < n
  · simp [hi]
  · rw [if_neg hi, if_neg (by omega), if_neg hi]
theorem splice_map {α β : Type} (f : α → β) (L : List α) (off : Nat) (cs : List α) : (splice L off cs).map f = splice (L.map f) off (cs.map f) := by
  unfold splice
  simp [List.map_take, List.map_drop]
theorem splice_zero {α : Type} (L cs : List α) (h : cs.length = L.length) : splice L 0 cs = cs := by
  unfold splice
  simp [h]
theorem splice_nil {α : Type} (L : List α) (off : Nat) : splice L off [] = L := by
  unfold splice
  simp
section
variable {w : World} {ops : Array Oper} {rest : List Oper} {o : Oper} {a : Act} {Q : Exit → Act → World → Prop}
theorem wpList_cpy (d s : Operand) (ho : o.op = .call { callee := .builtin .copy, args := #[d, s], argTypes := #[23, 23] }) (hgd : o.guard = none)
    (base g off n0 c0 dl dc : Nat) (xs : List UInt8) (hd : a.eval d = .slice (some ⟨g, off, none⟩) dl dc) (hown : OwnB w base (some ⟨g, 0, none⟩) n0 c0 xs)
    (B : Nat) (A : Option Addr) (m c : Nat) (ys : List UInt8) (hs : a.eval s = .slice A m c) (hl : ys.length = m) (hr : Bs w B A ys) (hfit : off + min m dl ≤ n0)
    (h : ∀ w', OwnB w' base (some ⟨g, 0, none⟩) n0 c0 (splice xs off (ys.take dl)) → w.grownBy w' (some g) → wpList Tryd.prog ops Q rest (a.put o.dst (goInt ((min m dl : Nat) : Int))) w') : wpList Tryd.prog ops Q (o :: rest) a w := by
  have hsz : (Tryd.prog.info? 5).map (·.size) = some 1 := by kernel_rfl
  by_cases h0 : min m dl = 0
  · refine wpList_copy_nothing hgd d s _ _ ho 5 Tryd.underlying23 hsz _ _ _ _ _ _ hd hs h0 ?_
    have hy : ys.take dl = [] := List.eq_nil_of_length_eq_zero (by rw [List.length_take]; omega)
    rw [h0] at h
    refine h w ?_ (World.grownBy.refl w _)
    rw [hy, splice_nil]
    exact hown
  · obtain ⟨b, o', e, _, hc⟩ := hr (by intro e; rw [e] at hl; simp at hl; omega)
    subst e
    rcases hown.2 with ⟨hv, _⟩ | ⟨g', cap, cur, hv, hb, hh, hle, hm, hcs, htk⟩
    · simp at hv
    · simp only [Value.slice.injEq, Option.some.injEq, Addr.mk.injEq, and_true, true_and] at hv
      obtain ⟨rfl, rfl⟩ := hv
      simp only [Nat.mul_one] at hcs htk
      have hlen : ((ys.take dl).map bv).length = min m dl := by rw [List.length_map, List.length_take]; omega
      refine wpList_copy_own hgd d s _ _ ho 5 Tryd.underlying23 hsz g off dl dc ⟨b, o', none⟩ m c hd hs cur _ hh ((ys.take dl).map bv) hlen (fun j v hj => ?_) (by rw [hlen, hcs]; omega) (by intro u hu; obtain ⟨q, _, rfl⟩ := List.mem_map.1 hu; rfl) ?_
      · rw [List.getElem?_map] at hj
        have hjl : j < (ys.take dl).length := by
          rcases Nat.lt_or_ge j (ys.take dl).length with h1 | h1
          · exact h1
          · rw [List.getElem?_eq_none h1] at hj; cases hj
        rw [List.getElem?_eq_getElem hjl] at hj
        injection hj with hj
        have hadd : (⟨b, o', none⟩ : Addr).add j = ⟨b, o' + j, none⟩ := by unfold Addr.add; split <;> simp_all
        rw [List.length_take] at hjl
        rw [hadd, hc j (by omega), ← hj, List.getElem_take]
      · rw [hlen]
        refine h _ ⟨?_, .inr ⟨g, c0, _, rfl, hb, setRow_heap w g cur _ _ _ hh, hle, hm, ?_, ?_⟩⟩ ⟨rfl, rfl, rfl, by simp [World.setRow], fun k _ hk => setRow_other w g k _ (fun e => hk (by rw [e]))⟩
        · rw [List.length_map, length_splice _ _ _ (by rw [List.length_take, hown.len]; omega), hown.len, Nat.mul_one]
        · have h2 : cur.toList.length = c0 := by simpa using hcs
          simp only [List.size_toArray, List.length_append, List.length_take, List.length_drop, h2, hlen]
          omega
        · rw [Nat.mul_one, splice_map, ← htk]
          have h2 : cur.toList.length = c0 := by simpa using hcs
          have h3 := splice_take cur.toList off n0 ((ys.take dl).map bv) (by rw [hlen]; omega) (by omega)
          rw [← h3]
          unfold splice
          rw [hlen]
end
end Go.Proofs.YtbplchpbaonadaaDoor
namespace Go.Proofs.YtbplchpbaonadaaDoor
open Go.RowKit Go
set_option linter.unusedVariables false
set_option linter.unusedSimpArgs false
set_option maxRecDepth 100000
theorem digits_bytes : ∀ (n t : Nat) (acc : Array Value) (bs : List UInt8), acc.toList = bs.map bv → ∃ cs : List UInt8, (Extern.BytealgMakeNoZero.digits n t acc).toList = cs.map bv
  | 0, t, acc, bs, h => ⟨bs, h⟩
  | n + 1, t, acc, bs, h => by
    rw [Extern.BytealgMakeNoZero.digits]
    refine digits_bytes n (t / 256) _ (bs ++ [UInt8.ofNat (t % 256)]) ?_
    rw [Array.toList_push, h, List.map_append]
    have : ((UInt8.ofNat (t % 256)).toNat : Int) = Int.ofNat (t % 256) := by rw [UInt8.toNat_ofNat']; simp
    rw [List.map_cons, List.map_nil, show bv (UInt8.ofNat (t % 256)) = .int .u8 ((UInt8.ofNat (t % 256)).toNat : Int) from rfl, this]
/-- The buffer. -/
theorem mknz_any (n : Nat) (hn : n ≤ 1000000) (w : World) :
    ∃ (C : Nat) (w' : World) (cs : List UInt8), (callFunc 37 #[.int .i64 (n : Int)]).run Tryd.prog w = .ok (.value (.slice (some ⟨w.heap.size, 0, none⟩) n C)) w' ∧ OwnB w' w.heap.size (some ⟨w.heap.size, 0, none⟩) n C cs ∧ Below w.heap.size w w' ∧ n ≤ C ∧ C ≤ 9223372036854775807 := by
  have hdef : Extern.BytealgMakeNoZero.makeNoZero #[3] #[23] #[.int .i64 (n : Int)] =
      (do
        let .slice elem ← underlying 23 | stuck "bytealg.MakeNoZero: slice type expected"
        if (n : Int) < 0 || (n : Int) > 2 ^ 48 then runtimePanic (.error "makeslice: len out of range")
        let cap ← choose (.appendCap (n : Int).toNat 0 elem)
        askRoom cap
        let bytes ← choose (.extern "internal/bytealg.MakeNoZero.bytes" 0)
        let a ← newRow elem (Extern.BytealgMakeNoZero.digits cap bytes #[])
        pure (.slice (some a) (n : Int).toNat cap)) := rfl
  obtain ⟨t, ht⟩ : ∃ t, (Question.extern "internal/bytealg.MakeNoZero.bytes" 0).cut (w.tape (w.drawn + 1) (.extern "internal/bytealg.MakeNoZero.bytes" 0)) = t := ⟨_, rfl⟩
  obtain ⟨C, hC⟩ : ∃ C, grownCap w n 0 5 = C := ⟨_, rfl⟩
  have hrun : (Extern.BytealgMakeNoZero.makeNoZero #[3] #[23] #[.int .i64 (n : Int)]).run Tryd.prog w = .ok (.slice (some ⟨w.heap.size, 0, none⟩) n C) (w.drew.drew.alloc (.cells (Extern.BytealgMakeNoZero.digits C t #[]) 5)) := by
    rw [hdef]
    have h1 : ¬ (n : Int) < 0 := by omega
    have h2 : ¬ (281474976710656 : Int) < (n : Int) := by omega
    rw [← hC, ← ht]
    simp [run_underlying Tryd.underlying23, h1, h2, Question.forced, newRow, Lib.size_digits, grownCap]
  have hge : n ≤ C := by rw [← hC]; simpa using grownCap_ge w n 0 5
  have hle : C ≤ maxLen := by rw [← hC]; exact grownCap_le_maxLen w n 0 5 (by unfold maxLen; omega)
  obtain ⟨cs, hcs⟩ := digits_bytes C t #[] [] rfl
  have hsz : (Extern.BytealgMakeNoZero.digits C t #[]).size = C := by rw [Lib.size_digits]; simp
  refine ⟨C, w.drew.drew.alloc (.cells (Extern.BytealgMakeNoZero.digits C t #[]) 5), cs.take n, ?_, ⟨?_, .inr ⟨w.heap.size, C, _, rfl, Nat.le_refl _, has_new w.drew.drew _, hge, hle, by rw [hsz, Nat.mul_one], ?_⟩⟩, kp_alloc (kp_drew (kp_drew (Below.refl _ _))) _, hge, by unfold maxLen at hle; omega⟩
  · rw [run_callFunc_extern (P := Tryd.prog) Tryd.func37 (by kernel_rfl) (by kernel_rfl) (by kernel_rfl) (e := Extern.BytealgMakeNoZero.makeNoZero #[3] #[23]) (by kernel_rfl), hrun]
    rfl
  · rw [List.length_map, List.length_take, Nat.mul_one]
    have : cs.length = C := by have := congrArg List.length hcs; simpa [hsz] using this.symm
    omega
  · rw [hcs, Nat.mul_one, ← List.map_take]
theorem rep_step (xs : List UInt8) (j k : Nat) (hk : xs.length = k) (hj : j < k) (h : xs.take j = List.replicate j 255) :
    (splice xs j ((xs.take j).take (k - j))).take (j + min j (k - j)) = List.replicate (j + min j (k - j)) 255 ∧ (splice xs j ((xs.take j).take (k - j))).length = k := by
  rw [h, List.take_replicate]
  constructor
  · apply List.ext_getElem?
    intro i
    by_cases h1 : i < j + min j (k - j)
    · rw [List.getElem?_take, if_pos h1, splice_get _ _ _ (by simp; omega), List.getElem?_replicate (n := j + min j (k - j)), if_pos h1]
      by_cases h2 : j ≤ i
      · rw [if_pos (by simp; omega), List.getElem?_replicate, if_pos (by omega)]
      · rw [if_neg (by simp; omega)]
        have h3 : (xs.take j)[i]? = some 255 := by rw [h, List.getElem?_replicate, if_pos (by omega)]
        rw [List.getElem?_take, if_pos (by omega)] at h3
        exact h3
    · rw [List.getElem?_take, if_neg h1, List.getElem?_replicate, if_neg h1]
  · unfold splice; simp; omega
/-- 'copy' by an equation, where something is copied. -/
theorem run_cpy (w : World) (base g off n0 c0 dl dc : Nat) (xs : List UInt8) (hown : OwnB w base (some ⟨g, 0, none⟩) n0 c0 xs)
    (B : Nat) (A : Option Addr) (m c : Nat) (ys : List UInt8) (hl : ys.length = m) (hr : Bs w B A ys) (h0 : 0 < min m dl) (hfit : off + min m dl ≤ n0) :
    ∃ w', (Builtin.copy_ #[23, 23] 3 #[.slice (some ⟨g, off, none⟩) dl dc, .slice A m c]).run Tryd.prog w = .ok (.int .i64 ((min m dl : Nat) : Int)) w' ∧ OwnB w' base (some ⟨g, 0, none⟩) n0 c0 (splice xs off (ys.take dl)) ∧ w.grownBy w' (some g) := by
  have hsz : (Tryd.prog.info? 5).map (·.size) = some 1 := by kernel_rfl
  obtain ⟨b, o', e, _, hc⟩ := hr (by intro e; rw [e] at hl; simp at hl; omega)
  subst e
  rcases hown.2 with ⟨hv, _⟩ | ⟨g', cap, cur, hv, hb, hh, hle, hm, hcs, htk⟩
  · simp at hv
  · simp only [Value.slice.injEq, Option.some.injEq, Addr.mk.injEq, and_true, true_and] at hv
    obtain ⟨rfl, rfl⟩ := hv
    simp only [Nat.mul_one] at hcs htk
    have hlen : ((ys.take dl).map bv).length = min m dl := by rw [List.length_map, List.length_take]; omega
    have hrun := run_copy_row (P := Tryd.prog) w 23 23 3 5 g off dl dc ⟨b, o', none⟩ m c cur _ ((ys.take dl).map bv) Tryd.underlying23 hsz hh hlen (fun j v hj => by
      rw [List.getElem?_map] at hj
      have hjl : j < (ys.take dl).length := by
        rcases Nat.lt_or_ge j (ys.take dl).length with h1 | h1
        · exact h1
        · rw [List.getElem?_eq_none h1] at hj; cases hj
      rw [List.getElem?_eq_getElem hjl] at hj
      injection hj with hj
      have hadd : (⟨b, o', none⟩ : Addr).add j = ⟨b, o' + j, none⟩ := by unfold Addr.add; split <;> simp_all
      rw [List.length_take] at hjl
      rw [hadd, hc j (by omega), ← hj, List.getElem_take]) (by rw [hlen, hcs]; omega) (by intro u hu; obtain ⟨q, _, rfl⟩ := List.mem_map.1 hu; rfl)
    rw [hlen] at hrun
    refine ⟨_, hrun, ⟨?_, .inr ⟨g, c0, _, rfl, hb, setRow_heap w g cur _ _ _ hh, hle, hm, ?_, ?_⟩⟩, ⟨rfl, rfl, rfl, by simp [World.setRow], fun k _ hk => setRow_other w g k _ (fun e => hk (by rw [e]))⟩⟩
    · rw [List.length_map, length_splice _ _ _ (by rw [List.length_take, hown.len]; omega), hown.len, Nat.mul_one]
    · have h2 : cur.toList.length = c0 := by simpa using hcs
      simp only [List.size_toArray, List.length_append, List.length_take, List.length_drop, h2, hlen]
      omega
    · rw [Nat.mul_one, splice_map, ← htk]
      have h2 : cur.toList.length = c0 := by simpa using hcs
      have h3 := splice_take cur.toList off n0 ((ys.take dl).map bv) (by rw [hlen]; omega) (by omega)
      rw [← h3]
      unfold splice
      rw [hlen]
      simp
set_option maxHeartbeats 2000000 in
theorem repeat_ok : RepeatOk := by
  intro w g k hg h8 hk
  have hgl := block_lt hg
  have M := Lib.hid (bmul_any 1 k (by omega) (by omega))
  rw [show 1 * k / 18446744073709551616 = 0 by omega, show 1 * k % 18446744073709551616 = k by omega] at M
  have e1 : IntKind.u64.wrap (k : Int) = (k : Int) := by rw [IntKind.wrap_u64]; omega
  have e2 : IntKind.i64.wrap (k : Int) = (k : Int) := IntWalk.i64_in _ (by omega)
  have p1 : ((k : Int) == 0) = false := by rw [beq_eq_false_iff_ne]; omega
  have p2 : decide ((k : Int) < 0) = false := decide_eq_false (by omega)
  have p3 : decide ((k : Int) > 9223372036854775807) = false := decide_eq_false (by omega)
  have p4 : decide ((k : Int) > 8192) = false := decide_eq_false (by omega)
  have p5 : decide (9223372036854775807 < k) = false := decide_eq_false (by omega)
  obtain ⟨C, w1, cs, hcall, ho1, hb1, hnC, hC9⟩ := mknz_any k (by omega) w
  have i1 : (0 : Int) ≤ (k : Int) := by omega
  have i2 : (k : Int) ≤ (C : Int) := by omega
  have HR1 : Hid (RB w1 (some ⟨g, 0, none⟩) 1 [255]) := Lib.hid ((rb_block hg rfl rfl).below hb1)
  have HO1 := Lib.hid ho1
  have HB1 := Lib.hid hb1
  clear ho1 hb1 hg
  go_enter Tryd.func20, Tryd.ntmps20
  go_wp2_with fail
  refine (M.out _).mono ?_
  rintro e w2 ⟨rfl, rfl⟩
  clear M
  go_wp2_with (refine wpList_cpy (.tmp 58) (.tmp 59) rfl rfl w2.heap.size w2.heap.size 0 k C k k cs rfl HO1.out w1.heap.size (some ⟨g, 0, none⟩) 1 1 [255] rfl rfl HR1.out.2 (by omega) ?_)
  intro w3 ho3 hg3
  rw [show ((min 1 k : Nat) : Int) = 1 by omega]
  have hx3 : Hid ((splice cs 0 (([255] : List UInt8).take k)).take 1 = List.replicate 1 255 ∧ (splice cs 0 (([255] : List UInt8).take k)).length = k) := by
    have hl := HO1.out.len
    rw [show ([255] : List UInt8).take k = [255] from List.take_of_length_le (by simp; omega)]
    unfold splice
    refine ⟨by simp, ?_⟩
    simp
    omega
  have HO3 := Lib.hid ho3
  have HB3 := Lib.hid (HB1.out.grown hg3 HB1.out.size (fun q hq => by injection hq with hq; omega))
  clear ho3 hg3
  go_wp2
  go_loopw [10] (fun v wl => ∃ (j : Nat), v = .int .i64 (j : Int) ∧ 1 ≤ j ∧ j ≤ k ∧ Hid (∃ xs, OwnB wl w2.heap.size (some ⟨w2.heap.size, 0, none⟩) k C xs ∧ xs.take j = List.replicate j 255 ∧ xs.length = k ∧ Below w2.heap.size w2 wl)) (fun v _ => k - (intOf v).toNat)
  case atStart => exact ⟨1, rfl, Nat.le_refl _, by omega, _, HO3.out, hx3.out.1, hx3.out.2, HB3.out⟩
  case round =>
    obtain ⟨j, rfl, hj1, hjk, HK⟩ := hrel
    clear HO3 HB3 hx3 HO1 HB1 HR1
    by_cases hlt : j < k
    · obtain ⟨xs, o1, o2, o3, o4⟩ := HK.out
      have HX := Lib.hid (rep_step xs j k o3 hlt o2)
      have HO := Lib.hid o1.drew
      have HBW := Lib.hid o4
      have hRS : Hid (RB wr.drew (some ⟨w2.heap.size, 0, none⟩) j (xs.take j)) := ⟨by rw [List.length_take]; omega, (o1.drew.reads).take_ j⟩
      obtain ⟨jn, hjn⟩ : ∃ jn, j + min j (k - j) = jn := ⟨_, rfl⟩
      have q1 : ¬ ((k : Int) < (j : Int)) := by omega
      have q2 : ¬ (k = j) := by omega
      have q3 : (j : Int) ≤ (k : Int) := by omega
      have q4 : (0 : Int) ≤ (j : Int) := by omega
      have q5 : ¬ (k < j) := by omega
      have q6 : (j : Int) < (k : Int) := by omega
      have q7 : min (j : Int) (k : Int) = (j : Int) := by omega
      have e3 : IntKind.i64.wrap ((j : Int) + ((min j (k - j) : Nat) : Int)) = (jn : Int) := by rw [IntWalk.i64_in _ (by omega)]; omega
      rw [hjn] at HX
      have hj2 : j < jn := by omega
      have hj3 : jn ≤ k := by omega
      have hcm : ((min j (k - j) : Nat) : Int) = (jn : Int) - (j : Int) := by omega
      have e4 : IntKind.i64.wrap ((j : Int) + ((jn : Int) - (j : Int))) = (jn : Int) := by rw [IntWalk.i64_in _ (by omega)]; omega
      clear HK o1 o2 o3 o4
      obtain ⟨w5, hcp, ho5, hg5⟩ := run_cpy wr.drew w2.heap.size w2.heap.size j k C (k - j) (k - j) xs HO.out wr.drew.heap.size (some ⟨w2.heap.size, 0, none⟩) j k (xs.take j) hRS.out.1 hRS.out.2 (by omega) (by omega)
      rw [hcm] at hcp
      clear hjn hcm e3
      have HN : Hid (∃ xs, OwnB w5 w2.heap.size (some ⟨w2.heap.size, 0, none⟩) k C xs ∧ xs.take jn = List.replicate jn 255 ∧ xs.length = k ∧ Below w2.heap.size w2 w5) := ⟨_, ho5, HX.out.1, HX.out.2, HBW.out.drew.grown hg5 HBW.out.size (fun q hq => by injection hq with hq; omega)⟩
      clear ho5 hg5 hRS HO HBW HX
      go_wp2
      go_region
      all_goals
        go_wp2
        go_roundw
        case rel => exact ⟨jn, by go_num, by omega, by omega, HN.out⟩
        case measure => simp [intOf]; omega
    · obtain rfl : j = k := by omega
      obtain ⟨xs, o1, o2, o3, o4⟩ := HK.out
      have HF : Hid (RB wr (some ⟨w2.heap.size, 0, none⟩) j (List.replicate j 255) ∧ Below w2.heap.size w2 wr) := ⟨by rw [← o2, List.take_of_length_le (by omega)]; exact o1.rb, o4⟩
      clear HK o1 o2 o3 o4
      go_wp2
      go_ret
      exact ⟨_, _, _, rfl, HF.out.1, HF.out.2⟩
end Go.Proofs.YtbplchpbaonadaaDoor
