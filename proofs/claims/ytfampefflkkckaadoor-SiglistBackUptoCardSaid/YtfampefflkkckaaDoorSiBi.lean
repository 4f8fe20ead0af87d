/-
  siglist: in: how often an item stands among others (made by genSi2.py).
-/
import Derived.Test.YtfampefflkkckaaDoorSiBh
namespace Go.Proofs.YtfampefflkkckaaDoor
open Go.RowKit Go
set_option linter.unusedVariables false
set_option linter.unusedSimpArgs false
set_option maxRecDepth 100000

attribute [local go_sem ↓] Go.wp_at_zero Go.wp_at_succ
theorem count_take {ls : List LM} {i : Nat} {z : LM} (h : ls[i]? = some z) (x : Lst) : ((ls.take (i + 1)).map LM.lst).count x = ((ls.take i).map LM.lst).count x + (if z.lst = x then 1 else 0) := by
  rw [take_lst h, List.count_append, List.count_singleton]
  by_cases hx : z.lst = x <;> simp [hx]
theorem one_rowB {W : World} {g : Nat} {k : UInt8} {V : Option Addr} {m c : Nat} {is : List Itm} {t : TypeId} {fr : Nat × Nat} (h : W.heap[g]? = some (.cells #[.int .u8 (k.toNat : Int), .slice V m c] t fr)) : ReadR W (some ⟨g, 0, none⟩) ([(⟨k, is, V, m, c⟩ : LM)].flatMap LM.cells) := fun _ => ⟨g, 0, rfl, block_lt h, fun j u hu => by
  rw [Nat.zero_add, cell_of_row _ _ _ _ _ _ h, List.getElem?_toArray]
  exact hu⟩
theorem lim_mB {w : World} {A : Option Addr} {n m : Nat} {ls : List LM} (hz : ListsZ w A n ls) (h : ∀ x ∈ ls.map LM.lst, x.2.length ≤ m) : ∀ z ∈ ls, z.n ≤ m := fun z hz1 => by
  obtain ⟨zs, h1⟩ := hz.each z hz1
  rw [← lm_n h1]
  exact h z.lst (List.mem_map_of_mem hz1)
theorem lists_one {W : World} {b off i : Nat} {z : LM} (hb : b < W.heap.size) (hr : W.rangeAt b (off + i * 2) z.cells) (hz : ∃ zs, LmR W z zs) : ListsZ W (some ⟨b, off + i * 2, none⟩) 1 [z] :=
  ⟨rfl, fun _ => ⟨b, off + i * 2, rfl, hb, fun j u hu => hr j u (by simpa using hu)⟩, fun q hq => by rw [List.mem_singleton.1 hq]; exact hz⟩
theorem lists_new {W : World} {g : Nat} {x : LM} {t : TypeId} {fr : Nat × Nat} (h : W.heap[g]? = some (.cells #[.int .u8 (x.k.toNat : Int), .slice x.a x.n x.c] t fr)) (hx : ∃ zs, LmR W x zs) : ListsZ W (some ⟨g, 0, none⟩) 1 [x] :=
  ⟨rfl, one_rowB h, fun q hq => by rw [List.mem_singleton.1 hq]; exact hx⟩
set_option maxHeartbeats 8000000 in
theorem in_any (A : Option Addr) (n c : Nat) (ls : List LM) (x : LM) (w : World) (hL : ListsZ w A n ls) (hc : n ≤ c) (hcm : c ≤ 9223372036854775807) (hn : n ≤ 1000000000000) (hm : ∀ z ∈ ls, z.n ≤ 2000000) (hx : ∃ zs, LmR w x zs) :
    Calls Tryd.prog 24 #[.slice A n c, .agg #[.int .u8 (x.k.toNat : Int), .slice x.a x.n x.c]] w fun e w' => e = .returned (.int .i64 (((ls.map LM.lst).count x.lst : Nat) : Int)) ∧ Below w.heap.size w w' := by
  have HL := Lib.hid hL
  have HM := Lib.hid hm
  have HX := Lib.hid hx
  clear hL hm hx
  go_enter Tryd.func24, Tryd.ntmps24
  go_upto_region 3 with fail
  refine wp_nm fun W1 hW1 => ?_
  have H1 : Hid (W1.heap[w.heap.size]? = some (.cells #[.int .u8 (x.k.toNat : Int), .slice x.a x.n x.c] 41) ∧ Below w.heap.size w W1 ∧ w.heap.size ≤ W1.heap.size) := by
    rw [← hW1]; exact ⟨has_new w _, kp_alloc (Below.refl _ _) _, (kp_alloc (Below.refl w.heap.size w) _).size⟩
  clear hW1
  go_loopw [5, 6] (fun u v wl => ∃ (i q : Nat), u = .int .i64 (q : Int) ∧ v = .int .i64 (i : Int) ∧ i ≤ n ∧ q ≤ i ∧ Hid (q = ((ls.take i).map LM.lst).count x.lst ∧ Below W1.heap.size W1 wl)) (fun _ v _ => (n - (intOf v).toNat))
  case atStart => exact ⟨0, 0, rfl, rfl, Nat.zero_le _, Nat.le_refl _, by rw [List.take_zero]; rfl, Below.refl _ _⟩
  case round =>
    obtain ⟨i, q, rfl, rfl, hi, hqi, hS⟩ := hrel
    rcases Nat.lt_or_ge i n with hlt | hge
    · have l1 : decide ((i : Int) < (n : Int)) = true := decide_eq_true (by omega)
      have l2 : decide (i < n) = true := decide_eq_true hlt
      obtain ⟨z, b, off, hg, hA, hbl, hr, hz⟩ := HL.out.at_ hlt
      subst hA
      have hzn := HM.out z (List.mem_of_getElem? hg)
      obtain ⟨v, hv⟩ : ∃ v, decide (z.lst = x.lst) = v := ⟨_, rfl⟩
      have HV := Lib.hid hv
      have C : Hid (∀ W, Below W1.heap.size W1 W → ∀ g, W.heap[g]? = some (.cells #[.int .u8 (x.k.toNat : Int), .slice x.a x.n x.c] 41) → Calls Tryd.prog 16 #[.slice (some ⟨b, off + i * 2, none⟩) 1 (c - i), .slice (some ⟨g, 0, none⟩) 1 1] W fun e w' => e = .returned (.bool v) ∧ Below W.heap.size W w') := fun W h g hg' => by
        have hw : Below w.heap.size w W := H1.out.2.1.trans (h.mono H1.out.2.2)
        have hs := samelists_any (some ⟨b, off + i * 2, none⟩) 1 (c - i) [z] (some ⟨g, 0, none⟩) 1 1 [x] W (lists_one (by have := hw.size; omega) (range_below hr hw) (hz.imp fun _ h9 => h9.below hw)) (lists_new hg' (HX.out.imp fun _ h9 => h9.below hw)) (by omega) (by omega) (by decide) (by decide) (by decide) (fun y hy => by rw [List.mem_singleton.1 hy]; exact hzn)
        rw [show decide (List.map LM.lst [z] = List.map LM.lst [x]) = v by rw [← hv]; simp] at hs
        exact hs
      have KEEP : Hid (∀ W, Below W1.heap.size W1 W → (W.cell? ⟨w.heap.size, 0, none⟩ = some (.int .u8 (x.k.toNat : Int)) ∧ W.cell? ⟨w.heap.size, 1, none⟩ = some (.slice x.a x.n x.c) ∧ Below W1.heap.size W1 W)) := fun W h => ⟨(cells_2 (has_below H1.out.1 h)).1, (cells_2 (has_below H1.out.1 h)).2, h⟩
      obtain ⟨t, ht⟩ : ∃ t, t = i + 1 := ⟨_, rfl⟩
      have l5 : IntKind.i64.wrap ((i : Int) + 1) = (t : Int) := by rw [show (i : Int) + 1 = (t : Int) by omega]; exact IntWalk.i64_in _ (by omega)
      have l6 : IntKind.i64.wrap ((q : Int) + 1) = ((q + 1 : Nat) : Int) := IntWalk.i64_in _ (by omega)
      have s1 : (i : Int) ≤ (t : Int) := by omega
      have s2 : (t : Int) ≤ (c : Int) := by omega
      have s3 : i ≤ t := by omega
      have s4 : t ≤ c := by omega
      have s5 : t - i = 1 := by omega
      have s6 : i < c := by omega
      have s7 : c ≠ i := by omega
      have s8 : i ≠ c := by omega
      have HT := Lib.hid ht
      have HB := Lib.hid hS.2
      have CT := Lib.hid (count_take hg x.lst)
      have HQ := Lib.hid hS.1
      clear hg hbl hr hz hzn hv ht hS hi
      go_upto_region 5 with fail
      obtain ⟨r0, r1, hb⟩ := KEEP.out wr HB.out
      go_region_held3 (fun W => (W.cell? ⟨w.heap.size, 0, none⟩ = some (.int .u8 (x.k.toNat : Int)) ∧ W.cell? ⟨w.heap.size, 1, none⟩ = some (.slice x.a x.n x.c) ∧ Below W1.heap.size W1 W))
        (((refine KEEP.out _ ?_); (repeat (with_reducible (first | assumption | refine kp_drew ?_ | refine kp_alloc ?_ _)))))
        ((go_at_call 16; refine (C.out _ (by first | exact kp_alloc HB.out _ | exact kp_drew (kp_alloc HB.out _)) wr.heap.size (by first | exact has_new wr _ | exact has_drew (has_new wr _))).mono ?_; rintro e w9 ⟨rfl, hb9⟩; have HB9 := Lib.hid (show Below W1.heap.size W1 w9 by first | exact kp_call (kp_alloc HB.out _) hb9 | exact kp_call (kp_drew (kp_alloc HB.out _)) hb9); have hbb := HB9.out; clear hb9))
      clear hbb hb r0 r1
      cases v with
      | true =>
        go_wp2
        go_roundw
        case rel => exact ⟨i + 1, q + 1, rfl, by rw [HT.out], hlt, by omega, by rw [CT.out, if_pos (of_decide_eq_true HV.out), ← HQ.out], HB9.out⟩
        case measure => have := HT.out; simp [intOf]; omega
      | false =>
        go_wp2
        go_roundw
        case rel => exact ⟨i + 1, q, rfl, by rw [HT.out], hlt, by omega, by rw [CT.out, if_neg (of_decide_eq_false HV.out), ← HQ.out]; rfl, HB9.out⟩
        case measure => have := HT.out; simp [intOf]; omega
    · have l1 : decide ((i : Int) < (n : Int)) = false := decide_eq_false (by omega)
      have l2 : decide (i < n) = false := decide_eq_false (by omega)
      have ht : ls.take i = ls := List.take_of_length_le (by have := HL.out.len; omega)
      rw [ht] at hS
      have HS := Lib.hid hS
      clear hS hge hi hqi ht
      go_wp2
      go_ret
      exact ⟨by rw [← HS.out.1]; rfl, H1.out.2.1.trans (HS.out.2.mono H1.out.2.2)⟩
end Go.Proofs.YtfampefflkkckaaDoor
