/-
  Bytes with seven marks behind them, and whether they are as they were.
-/
import Derived.Test.YtcedojmhgmgcgaaGreatDoorRef
import Derived.LoopN
namespace Go.Proofs.YtcedojmhgmgcgaaGreatDoor
open Go.RowKit Go
set_option linter.unusedVariables false
set_option maxRecDepth 100000

def mark (k : Nat) : UInt8 := UInt8.ofNat (201 + k)
theorem mark_num (k : Nat) (h : k < 7) : (201 : Int) + (k : Int) = ((mark k).toNat : Int) := by
  unfold mark
  rw [UInt8.toNat_ofNat']
  omega
def marks : List UInt8 := (List.range 7).map mark
theorem marks_succ (k : Nat) (h : k < 7) : marks.take (k + 1) = marks.take k ++ [mark k] := by
  have : k = 0 ∨ k = 1 ∨ k = 2 ∨ k = 3 ∨ k = 4 ∨ k = 5 ∨ k = 6 := by omega
  rcases this with rfl | rfl | rfl | rfl | rfl | rfl | rfl <;> rfl
theorem marks_at (k : Nat) (h : k < 7) : marks[k]? = some (mark k) := by
  have : k = 0 ∨ k = 1 ∨ k = 2 ∨ k = 3 ∨ k = 4 ∨ k = 5 ∨ k = 6 := by omega
  rcases this with rfl | rfl | rfl | rfl | rfl | rfl | rfl <;> rfl
/-- The slice has bytes bs, and the seven marks behind them in its own memory. -/
def Roomed (w : World) (base : Nat) (A : Option Addr) (n c : Nat) (bs : List UInt8) : Prop := bs.length = n ∧ OwnB w base A (n + 7) c (bs ++ marks)
section
variable {w w' : World} {base : Nat} {A : Option Addr} {n c : Nat} {bs : List UInt8}
theorem Roomed.rb (h : Roomed w base A n c bs) : RB w A n bs := by
  refine ⟨h.1, ?_⟩
  have := h.2.reads.take_ n
  rwa [← h.1, List.take_left] at this
theorem Roomed.below (h : Roomed w base A n c bs) {B : Nat} (hb : Below B w w') (hB : w.heap.size ≤ B) : Roomed w' base A n c bs := ⟨h.1, h.2.below hb hB⟩
theorem Roomed.lower (h : Roomed w base A n c bs) {base' : Nat} (hb : base' ≤ base) : Roomed w base' A n c bs := ⟨h.1, h.2.lower hb⟩
end
theorem roomy_any (A : Option Addr) (n c : Nat) (bs : List UInt8) (w : World) (h : RB w A n bs) (hn : n ≤ 1000000000) :
    Calls Tryz.prog 5 #[.slice A n c] w fun e w' => ∃ A1 c1, e = .returned (.slice A1 n c1) ∧ Roomed w' w.heap.size A1 n c1 bs ∧ Below w.heap.size w w' := by
  have H := Lib.hid (copy_any A n c bs w h (by omega))
  have hl := Lib.hid h.1
  clear h
  go_enter Tryz.func5, Tryz.ntmps5
  go_wp2_with fail
  refine H.out.mono ?_
  rintro e w1 ⟨A1, n1, c1, rfl, hown1, hb1⟩
  obtain rfl : n = n1 := hl.out.symm.trans hown1.len
  go_wp2
  go_loopw [3, 4] (fun v i wr => ∃ k A2 c2, k ≤ 7 ∧ i = .int .i64 (k : Nat) ∧ v = .slice A2 (n + k) c2 ∧ OwnB wr w.heap.size A2 (n + k) c2 (bs ++ marks.take k) ∧ Below w.heap.size w wr) (fun _ i _ => 7 - (intOf i).toNat)
  case atStart => exact ⟨0, A1, c1, by omega, rfl, rfl, by simpa using hown1, hb1⟩
  case round =>
    obtain ⟨k, A2, c2, hk, rfl, rfl, hown, hbl⟩ := hrel
    have hz := hbl.size
    clear H hown1 hb1
    by_cases hlt : k < 7
    · have f := mark_num k hlt
      have hm : (marks.take k).length = k := by rw [List.length_take]; show min k 7 = k; omega
      have HM := Lib.hid hm
      clear hm
      go_wp2_with (at_builtin; refine wpList_app _ _ rfl rfl rfl w.heap.size A2 _ c2 (bs ++ marks.take k) rfl (hown.alloc _) (wr.heap.size + 1) (some ⟨wr.heap.size, 0, none⟩) 1 [mark k] rfl (bs_new _ _ _ _ _ rfl) (by have := hl.out; have := HM.out; simp at *; omega) (by simp; omega) ?_)
      intro A3 c3 w3 hown3 hg3
      clear f
      go_wp2
      go_roundw
      case rel => exact ⟨k + 1, A3, c3, by omega, by go_num, rfl, by rw [marks_succ k hlt, ← Nat.add_assoc]; simpa using hown3, (hbl.alloc hz _).grown hg3 (by simp; omega) (fun g hg => (hown.blk_lt hg).1)⟩
      case measure => simp [intOf]; omega
    · obtain rfl : k = 7 := by omega
      have hcap := hown.cap
      have hm : c2 ≤ 9223372036854775807 := by have := hcap.2; unfold maxLen at this; omega
      have hc0 := hcap.1
      clear hcap
      go_wp2
      go_ret
      exact ⟨A2, c2, rfl, ⟨hl.out, hown⟩, hbl⟩

theorem kept_any (A A2 : Option Addr) (n n2 c c2 base : Nat) (xs ys : List UInt8) (w : World) (h : Roomed w base A n c xs) (h2 : RB w A2 n2 ys) (hn : n ≤ 1000000000) :
    Calls Tryz.prog 11 #[.slice A n c, .slice A2 n2 c2] w fun e w' => e = .returned (.bool (xs == ys)) ∧ w = w' := by
  have E := Lib.hid (eq_any A A2 n n2 c c2 xs ys w h.rb h2)
  have hm : c ≤ 9223372036854775807 := by have := h.2.cap.2; unfold maxLen at this; omega
  have hc0 : n + 7 ≤ c := h.2.cap.1
  cases hq : xs == ys
  · rw [hq] at E
    clear hq
    go_enter Tryz.func11, Tryz.ntmps11
    go_wp2_with fail
    refine E.out.mono ?_
    rintro e w' ⟨rfl, rfl⟩
    go_wp2
    go_ret
    exact ⟨rfl, rfl⟩
  · rw [hq] at E
    clear hq
    obtain ⟨b, off, rfl, hlt, hcell⟩ := h.2.reads (by intro h0; have := h.2.len; rw [h0] at this; simp at this)
    have hcell' : ∀ k, k < 7 → w.cell? ⟨b, off + (n + k), none⟩ = some (.int .u8 ((mark k).toNat : Int)) := by
      intro k hk
      have hl : n + k < (xs ++ marks).length := by rw [h.2.len]; omega
      rw [hcell (n + k) hl]
      have hg : (xs ++ marks)[n + k]? = some (mark k) := by
        rw [List.getElem?_append_right (by rw [h.1]; omega), h.1, show n + k - n = k by omega, marks_at k hk]
      rw [List.getElem?_eq_getElem hl] at hg
      injection hg with hg
      rw [hg]
    clear h2
    go_enter Tryz.func11, Tryz.ntmps11
    go_wp2_with fail
    refine E.out.mono ?_
    rintro e w' ⟨rfl, rfl⟩
    go_wp2
    go_loop [6] (fun i => ∃ k : Nat, k ≤ 7 ∧ i = .int .i64 k) (fun i => 7 - (intOf i).toNat)
    case atStart => exact ⟨0, by omega, rfl⟩
    case round =>
      obtain ⟨k, hk, rfl⟩ := hrel
      by_cases hlt : k < 7
      · have hc1 := hcell' k hlt
        have f := mark_num k hlt
        go_wp2
        go_round
        case rel => exact ⟨k + 1, by omega, by go_num⟩
        case measure => simp [intOf]; omega
      · go_wp2
        go_ret
        exact ⟨rfl, rfl⟩
end Go.Proofs.YtcedojmhgmgcgaaGreatDoor
