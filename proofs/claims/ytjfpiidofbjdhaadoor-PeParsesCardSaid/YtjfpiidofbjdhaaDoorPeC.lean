/-
  pe: sections in rows; the library's Values and Collect at sections; the comparison of two sections.
-/
import Derived.Test.YtjfpiidofbjdhaaDoorPeA
import Derived.Test.YtjfpiidofbjdhaaDoorRg
import Derived.Stop.RegionWithIn
namespace Go.Proofs.YtjfpiidofbjdhaaDoor
open Go.RowKit Go
set_option linter.unusedVariables false
set_option maxRecDepth 100000
attribute [local go_sem] Oper.semAt_some
theorem putObj_grown (W : World) (b : Nat) (o : Obj) : W.grownBy (W.putObj b o) (some b) := grownBy_putObj' W b o
/-- A section: where it lies, and how long it is. -/
def secCells (s : Nat × Nat) : List Value := [.int .u32 (s.1 : Nat), .int .u32 (s.2 : Nat)]
def secEnc (s : Nat × Nat) : Array Value := #[.agg #[.int .u32 (s.1 : Nat), .int .u32 (s.2 : Nat)]]
theorem sec_row : RowT 25 43 2 8 (.agg #[.int .u32 0, .int .u32 0]) := ⟨Tryd.underlying25, by kernel_rfl, rfl, by decide⟩
theorem sec_at : ∀ (L : List (Nat × Nat)) (j : Nat) (x : Nat × Nat), L[j]? = some x → (L.flatMap secCells)[j * 2]? = some (.int .u32 (x.1 : Nat)) ∧ (L.flatMap secCells)[j * 2 + 1]? = some (.int .u32 (x.2 : Nat))
  | [], j, x, h => by simp at h
  | y :: r, 0, x, h => by
    simp at h
    subst h
    exact ⟨rfl, rfl⟩
  | y :: r, j + 1, x, h => by
    have ih := sec_at r j x (by simpa using h)
    have e : ((y :: r).flatMap secCells) = secCells y ++ r.flatMap secCells := rfl
    rw [e, List.getElem?_append_right (by simp [secCells]; omega), List.getElem?_append_right (by simp [secCells]; omega)]
    simp only [secCells, List.length_cons, List.length_nil, Nat.zero_add, Nat.reduceAdd]
    rw [show (j + 1) * 2 - 2 = j * 2 by omega, show (j + 1) * 2 + 1 - 2 = j * 2 + 1 by omega]
    exact ih
theorem sec_len : ∀ L : List (Nat × Nat), (L.flatMap secCells).length = L.length * 2
  | [] => rfl
  | y :: r => by
    have e : ((y :: r).flatMap secCells) = secCells y ++ r.flatMap secCells := rfl
    rw [e, List.length_append, sec_len r, List.length_cons]
    simp only [secCells, List.length_cons, List.length_nil]
    omega
/-- How two numbers compare. -/
def cmpN (x y : Nat) : Int := if x < y then -1 else if y < x then 1 else 0
theorem cmpC_any (x y : Nat) (w : World) : Calls Tryd.prog 48 #[.int .u32 (x : Int), .int .u32 (y : Int)] w fun e w' => e = .returned (.int .i64 (cmpN x y)) ∧ w' = w := by
  unfold cmpN
  by_cases h1 : x < y
  · rw [if_pos h1]
    go_enter Tryd.func48, Tryd.ntmps48
    go_wp2
    go_ret
    exact ⟨rfl, rfl⟩
  · rw [if_neg h1]
    by_cases h2 : y < x
    · rw [if_pos h2]
      go_enter Tryd.func48, Tryd.ntmps48
      go_wp2
      go_ret
      exact ⟨rfl, rfl⟩
    · rw [if_neg h2]
      go_enter Tryd.func48, Tryd.ntmps48
      go_wp2
      go_ret
      exact ⟨rfl, rfl⟩
theorem values_any (A : Option Addr) (n c : Nat) (w : World) :
    Calls Tryd.prog 46 #[.slice A n c] w fun e w' => e = .returned (.func (.func 56) #[] #[.pointer (some ⟨w.heap.size, 0, none⟩)]) ∧ w' = w.alloc (.cells #[.slice A n c] 25) := by
  go_enter Tryd.func46, Tryd.ntmps46
  go_wp2
  go_ret
  exact ⟨rfl, rfl⟩
set_option maxHeartbeats 1000000 in
theorem values1_in (n c D bx : Nat) (A : Option Addr) (L : List (Nat × Nat)) (w0 : World) (hR : ReadR w0 A (L.flatMap secCells)) (hl : L.length = n) (hn : n ≤ 100000) (hbx : w0.heap[bx]? = some (.cells #[.slice A n c] 25))
    (I : List (Nat × Nat) → World → Prop) (hIb : ∀ pre W, I pre W → Below w0.heap.size w0 W) (hIa : ∀ pre W o, I pre W → I pre (W.alloc o)) (hId : ∀ pre W k, I pre W → I pre (W.drewN k)) (hI0 : ∀ pre W, I pre W → I pre W.drew) (hD : w0.heap.size ≤ D) :
    IterOf Tryd.prog 4 D 56 #[.pointer (some ⟨bx, 0, none⟩)] secEnc (fun _ => False) I (fun xs => xs = L) (fun _ => True) (n + 1) := by
  intro Y Z hYI hYs hY hYb W1 hY0
  have HB1 := Lib.hid (hIb _ _ (hYI _ _ hY0))
  have hcell := cells_1 (has_below hbx HB1.out)
  refine callsIn_of_wp Tryd.func56 rfl trivial ?_ rfl
  simp only [Tryd.ntmps56, List.size_toArray, List.length_cons, List.length_nil, Nat.reduceAdd, Nat.reduceSub, Array.replicate_succ, Array.replicate_zero, List.push_toArray, List.append_toArray, List.nil_append, List.cons_append]
  gi_wp2
  gi_loopw [4, 7] (fun _ u wr => ∃ i : Nat, u = .int .i64 (i : Int) ∧ i ≤ n ∧ Y (L.take i) wr) (fun _ u _ => n - (intOf u).toNat)
  case atStart => exact ⟨0, rfl, Nat.zero_le _, hY0⟩
  case round =>
    obtain ⟨i, rfl, hi, hJ⟩ := hrel
    by_cases hlt : i < n
    · obtain ⟨x, hx⟩ : ∃ x, L[i]? = some x := ⟨_, List.getElem?_eq_getElem (by omega)⟩
      obtain ⟨s0, s1⟩ := sec_at L i x hx
      have hRW := hR.below (hIb _ _ (hYI _ _ hJ)) (Nat.le_refl _)
      obtain ⟨b, off, rfl, hb, k0⟩ := hRW.at_ s0
      obtain ⟨b', off', e, hb', k1⟩ := hRW.at_ s1
      cases e
      have k1' : wr.cell? ⟨b, off + i * 2 + 1, none⟩ = some (.int .u32 (x.2 : Nat)) := k1
      have hlen : (L.take i).length < n + 1 := by rw [List.length_take]; omega
      have hJa := fun o => hYs _ wr (wr.alloc o) hJ (hIa _ _ o (hYI _ _ hJ)) (heap_alloc_old _ _ (by obtain ⟨⟨o, h⟩, _⟩ := hYb _ _ hJ; exact block_lt h)) (heap_alloc_old _ _ (by obtain ⟨_, ⟨o, h⟩⟩ := hYb _ _ hJ; exact block_lt h))
      have HY := Lib.hid (fun o => hY (L.take i) x (wr.alloc o) (hJa o) hlen)
      have hnx : L.take i ++ [x] = L.take (i + 1) := by rw [List.take_add_one, hx]; rfl
      have i1 : decide ((i : Int) < (n : Int)) = true := by simp; omega
      have e3 : IntKind.i64.wrap ((i : Int) + 1) = (i : Int) + 1 := IntWalk.i64_in _ (by omega)
      obtain ⟨fn, tmps, assign, body, hy, hY9⟩ := HY.out (.cells #[.int .u32 (x.1 : Nat), .int .u32 (x.2 : Nat)] 43)
      dsimp only [secEnc] at hy
      have HX := Lib.hid hx
      clear k1 hRW s0 s1 hb' hJa hlen hcell HY hx
      gi_wp2
      refine hY9.mono ?_
      rintro e W3 (⟨rfl, hJ3, hk3⟩ | ⟨rfl, hJx3⟩)
      · rw [hnx] at hJ3
        gi_wp2
        go_roundw
        case rel => exact ⟨i + 1, by go_num, by omega, hJ3⟩
        case measure => simp [intOf]; omega
      · gi_wp2
        refine bodyPost_ret (results_none rfl _ _ _) rfl ?_
        exact ⟨⟨_, rfl⟩, .inr ⟨_, trivial, hJx3⟩⟩
    · have i1 : decide ((i : Int) < (n : Int)) = false := by simp; omega
      obtain rfl : i = n := by omega
      gi_wp2
      go_end0
      exact ⟨⟨_, rfl⟩, .inl ⟨_, rfl, by rw [← hl, List.take_length] at hJ; exact hJ⟩⟩
end Go.Proofs.YtjfpiidofbjdhaaDoor
