/-
  siglist: items: each item by itself (made by genSi2.py).
-/
import Derived.Test.YtfampefflkkckaaDoorSi3
import Derived.Test.YtfampefflkkckaaDoorSiW
import Derived.Test.YtfampefflkkckaaDoorSiR
namespace Go.Proofs.YtfampefflkkckaaDoor
open Go.RowKit Go
set_option linter.unusedVariables false
set_option linter.unusedSimpArgs false
set_option maxRecDepth 100000

attribute [local go_sem ↓] Go.wp_at_zero Go.wp_at_succ
def one1 (z : KI) : Lst := (z.1, [z.2])
/-- The items, each a list of its own. -/
def ItemsPost (w : World) (l : List Lst) (e : Ending) (w' : World) : Prop :=
  ∃ (A' : Option Addr) (n' c' : Nat), e = .returned (.slice A' n' c') ∧ (∃ ms : List LM, ms.map LM.lst = (flatK l).map one1 ∧ OwnR w' w.heap.size 41 2 A' n' c' (ms.flatMap LM.cells) ∧ ∀ z ∈ ms, ∃ zs, LmR w z zs) ∧ Below w.heap.size w w'
theorem flat_take {ls : List LM} {i : Nat} {z : LM} (h : ls[i]? = some z) : flatK ((ls.take (i + 1)).map LM.lst) = flatK ((ls.take i).map LM.lst) ++ z.is.map (fun y => (z.k, y)) := by
  rw [take_lst h, flatK_append, flatK_cons, show flatK [] = [] from rfl, List.append_nil]; rfl
theorem lm_one {w : World} {z : LM} {y : IM} {b off k : Nat} (hb : b < w.heap.size) (hr : w.rangeAt b (off + k * 17) y.cells) (hy : ImR w y) (hc : 1 ≤ z.c - k) (hm : z.c ≤ 9223372036854775807) : LmR w ⟨z.k, [y.itm], some ⟨b, off + k * 17, none⟩, 1, z.c - k⟩ [y] :=
  ⟨⟨rfl, fun _ => ⟨b, off + k * 17, rfl, hb, fun j u hu => hr j u (by simpa using hu)⟩, fun q hq => by rw [List.mem_singleton.1 hq]; exact hy⟩, rfl, hc, by show z.c - k ≤ _; omega⟩
set_option maxHeartbeats 8000000 in
theorem items_any (A : Option Addr) (n c : Nat) (ls : List LM) (w : World) (hL : ListsZ w A n ls) (hc : n ≤ c) (hcm : c ≤ 9223372036854775807) (hn : n ≤ 100000) (hm : ∀ z ∈ ls, z.n ≤ 2000000) :
    Calls Tryd.prog 23 #[.slice A n c] w (ItemsPost w (ls.map LM.lst)) := by
  have HL := Lib.hid hL
  have HM := Lib.hid hm
  clear hL hm
  go_enter Tryd.func23, Tryd.ntmps23
  go_wp2
  go_loopw [3, 4] (fun u v wl => ∃ (i : Nat) (A' : Option Addr) (n' c' : Nat), u = .slice A' n' c' ∧ v = .int .i64 (i : Int) ∧ i ≤ n ∧ n' ≤ 2000000 * i ∧ Hid (∃ ms : List LM, ms.map LM.lst = (flatK ((ls.take i).map LM.lst)).map one1 ∧ OwnR wl w.heap.size 41 2 A' n' c' (ms.flatMap LM.cells) ∧ (∀ z ∈ ms, ∃ zs, LmR w z zs) ∧ Below w.heap.size w wl)) (fun _ v _ => (n - (intOf v).toNat))
  case atStart => exact ⟨0, none, 0, 0, rfl, rfl, Nat.zero_le _, Nat.zero_le _, [], by rw [List.take_zero]; rfl, OwnR.nil _ _ _ _, (fun z hz => by cases hz), Below.refl _ _⟩
  case round =>
    obtain ⟨i, A', n', c', rfl, rfl, hi, hni, hS⟩ := hrel
    rcases Nat.lt_or_ge i n with hlt | hge
    · have l1 : decide ((i : Int) < (n : Int)) = true := decide_eq_true (by omega)
      have l2 : decide (i < n) = true := decide_eq_true hlt
      obtain ⟨z, b, off, hg, hA, hbl, hr, zs, hz1⟩ := HL.out.at_ hlt
      subst hA
      obtain ⟨za, hza⟩ : ∃ za, z.a = za := ⟨_, rfl⟩
      have hzn := HM.out z (List.mem_of_getElem? hg)
      have K := Lib.hid (And.intro hg (And.intro hz1 (And.intro hr (And.intro hzn hni))))
      have HS0 := Lib.hid hS
      have hzc := Lib.hid (And.intro hz1.c hz1.m)
      clear hg hr hz1 hbl hi hzn hS hni
      go_wp2
      go_loopw [3, 5] (fun u v wl => ∃ (k : Nat) (A' : Option Addr) (n' c' : Nat), u = .slice A' n' c' ∧ v = .int .i64 (k : Int) ∧ k ≤ z.n ∧ n' ≤ 2000000 * i + k ∧ Hid (∃ ms : List LM, ms.map LM.lst = (flatK ((ls.take i).map LM.lst) ++ (zs.take k).map fun y => (z.k, y.itm)).map one1 ∧ OwnR wl w.heap.size 41 2 A' n' c' (ms.flatMap LM.cells) ∧ (∀ z ∈ ms, ∃ zs, LmR w z zs) ∧ Below w.heap.size w wl)) (fun _ v _ => (z.n - (intOf v).toNat))
      case atStart => exact ⟨0, A', n', c', rfl, rfl, Nat.zero_le _, (by have := K.out.2.2.2.2; omega), by rw [List.take_zero]; show Hid (∃ ms : List LM, ms.map LM.lst = (flatK ((ls.take i).map LM.lst) ++ []).map one1 ∧ _); rw [List.append_nil]; exact HS0.out⟩
      case round =>
        obtain ⟨k, A', n', c', rfl, rfl, hk, hnk, ms, hms, ho, hml, hb⟩ := hrel
        have hrr := range_below K.out.2.2.1 hb
        have r0 : wr.cell? ⟨b, off + i * 2, none⟩ = some (.int .u8 (z.k.toNat : Int)) := hrr 0 _ rfl
        have r1 : wr.cell? ⟨b, off + i * 2 + 1, none⟩ = some (.slice za z.n z.c) := by rw [← hza]; exact hrr 1 _ rfl
        rcases Nat.lt_or_ge k z.n with hlt2 | hge2
        · have l3 : decide ((k : Int) < (z.n : Int)) = true := decide_eq_true (by omega)
          have l4 : decide (k < z.n) = true := decide_eq_true hlt2
          obtain ⟨y, b2, off2, hg2, hA2, hbl2, hr2, hy1⟩ := K.out.2.1.i.at_ hlt2
          rw [hza] at hA2
          subst hA2
          have KEEP : Hid (∀ W, Below w.heap.size w W → (W.cell? ⟨b, off + i * 2, none⟩ = some (.int .u8 (z.k.toNat : Int)) ∧ W.cell? ⟨b, off + i * 2 + 1, none⟩ = some (.slice (some ⟨b2, off2, none⟩) z.n z.c) ∧ Below w.heap.size w W)) := fun W h => ⟨range_below K.out.2.2.1 h 0 _ rfl, by rw [← hza]; exact range_below K.out.2.2.1 h 1 _ rfl, h⟩
          have HB := Lib.hid (And.intro hb hb.size)
          have K2 := Lib.hid (And.intro hms (And.intro ho (And.intro hml (And.intro hg2 (lm_one (z := z) hbl2 hr2 hy1 (by have := hzc.out.1; omega) hzc.out.2)))))
          have hzn := K.out.2.2.2.1
          have hmax : n' + 1 ≤ maxLen := by unfold maxLen; omega
          have hby : (n' + 1) * 32 ≤ 140737488355328 := by omega
          obtain ⟨t, ht⟩ : ∃ t, t = k + 1 := ⟨_, rfl⟩
          have l5 : IntKind.i64.wrap ((k : Int) + 1) = (t : Int) := by rw [show (k : Int) + 1 = (t : Int) by omega]; exact IntWalk.i64_in _ (by omega)
          have s1 : (k : Int) ≤ (t : Int) := by omega
          have s2 : (t : Int) ≤ (z.c : Int) := by have := hzc.out.1; omega
          have s3 : k ≤ t := by omega
          have s4 : t ≤ z.c := by have := hzc.out.1; omega
          have s5 : t - k = 1 := by omega
          have s6 : k < z.c := by have := hzc.out.1; omega
          have s7 : z.c ≠ k := by omega
          have s8 : k ≠ z.c := by omega
          have HT := Lib.hid (And.intro ht hnk)
          have HMX := Lib.hid (And.intro hmax hby)
          have O6 := Lib.hid (ho.alloc (.cells #[.int .u8 (z.k.toNat : Int), .slice (some ⟨b2, off2 + k * 17, none⟩) 1 (z.c - k)] 41))
          clear hms ho hml hg2 hbl2 hr2 hy1 hb hrr hk hzn ht hnk hmax hby
          go_upto_region 8 with fail
          clear r0 r1
          obtain ⟨r0, r1, hb⟩ := KEEP.out wr HB.out.1
          go_region_held3 (fun W => (W.cell? ⟨b, off + i * 2, none⟩ = some (.int .u8 (z.k.toNat : Int)) ∧ W.cell? ⟨b, off + i * 2 + 1, none⟩ = some (.slice (some ⟨b2, off2, none⟩) z.n z.c) ∧ Below w.heap.size w W))
            (((refine KEEP.out _ ?_); (repeat (with_reducible (first | assumption | refine kp_drew ?_ | refine kp_alloc ?_ _)))))
            (((refine step_appR list_row (by rfl) _ _ (by rfl) w.heap.size A' n' c' _ (by rfl) (by first | exact O6.out | exact O6.out.drew) ⟨wr.heap.size, 0, none⟩ 1 1 (#[.int .u8 (z.k.toNat : Int), .slice (some ⟨b2, off2 + k * 17, none⟩) 1 (z.c - k)] : Array Value).toList (by rfl) rfl (by first | exact cells_lit _ wr.heap.size _ _ _ (has_new wr _)) (List.all_eq_true.1 rfl) (by omega) HMX.out.1 HMX.out.2 (by have := HB.out.2; simp; omega) ?_); intro g7 c7 w7 ho7 hg7 hat7; have hb7 : Below w.heap.size w w7 := (by first | exact (kp_alloc HB.out.1 _).grown hg7 (by have := HB.out.2; simp; omega) (fun g hg => (O6.out.blk_lt hg).1) | exact (kp_drew (kp_alloc HB.out.1 _)).grown hg7 (by have := HB.out.2; simp; omega) (fun g hg => (O6.out.blk_lt hg).1)); have HB7 := Lib.hid hb7; have HO7 := Lib.hid ho7; clear ho7 hg7 hat7))
          go_wp2
          go_roundw
          case rel =>
            refine ⟨k + 1, some ⟨g7, 0, none⟩, n' + 1, c7, rfl, by rw [HT.out.1], hlt2, by have := HT.out.2; omega, ms ++ [⟨z.k, [y.itm], some ⟨b2, off2 + k * 17, none⟩, 1, z.c - k⟩], ?_, ?_, ?_, HB7.out⟩
            · rw [List.map_append, K2.out.1, List.take_add_one, K2.out.2.2.2.1]; simp only [List.map_append, Option.toList_some, List.map_cons, List.map_nil, List.append_assoc]; rfl
            · rw [List.flatMap_append]; exact HO7.out
            · intro q hq
              rcases List.mem_append.1 hq with hq | hq
              · exact K2.out.2.2.1 q hq
              · rw [List.mem_singleton.1 hq]; exact ⟨_, K2.out.2.2.2.2⟩
          case measure => have := HT.out.1; simp [intOf]; omega
        · have l3 : decide ((k : Int) < (z.n : Int)) = false := decide_eq_false (by omega)
          have l4 : decide (k < z.n) = false := decide_eq_false (by omega)
          have l5 : IntKind.i64.wrap ((i : Int) + 1) = ((i + 1 : Nat) : Int) := IntWalk.i64_in _ (by omega)
          have hz : Hid (ms.map LM.lst = (flatK ((ls.take (i + 1)).map LM.lst)).map one1) := by
            unfold Hid
            rw [hms, flat_take K.out.1, show zs.take k = zs from List.take_of_length_le (by rw [K.out.2.1.i.len]; omega), ← K.out.2.1.e, List.map_map]; rfl
          have hle : n' ≤ 2000000 * (i + 1) := by have := K.out.2.2.2.1; omega
          have KZ := Lib.hid (And.intro hle (And.intro ho (And.intro hml hb)))
          clear hms ho hml hb hrr hge2 hk hnk hle
          go_wp2
          go_roundw
          case rel => exact ⟨i + 1, A', n', c', rfl, rfl, hlt, KZ.out.1, ms, hz, KZ.out.2⟩
          case measure => simp [intOf]; omega
    · have l1 : decide ((i : Int) < (n : Int)) = false := decide_eq_false (by omega)
      have l2 : decide (i < n) = false := decide_eq_false (by omega)
      have ht : ls.take i = ls := List.take_of_length_le (by have := HL.out.len; omega)
      rw [ht] at hS
      have HS := Lib.hid hS
      clear hS hge hi hni ht
      go_wp2
      go_ret
      obtain ⟨ms, h1, h2, h3, h4⟩ := HS.out
      exact ⟨A', n', c', rfl, ⟨ms, h1, h2, h3⟩, h4⟩
end Go.Proofs.YtfampefflkkckaaDoor
