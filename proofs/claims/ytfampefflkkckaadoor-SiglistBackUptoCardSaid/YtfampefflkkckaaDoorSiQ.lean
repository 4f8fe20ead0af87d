/-
  siglist: vast (made by genSi2.py).
-/
import Derived.Test.YtfampefflkkckaaDoorSiP
namespace Go.Proofs.YtfampefflkkckaaDoor
open Go.RowKit Go
set_option linter.unusedVariables false
set_option linter.unusedSimpArgs false
set_option maxRecDepth 100000

/-- What vast answers. -/
def VastPost (w : World) (n : Nat) (ls : List LM) (e : Ending) (w' : World) : Prop :=
  ∃ v : Bool, e = .returned (.bool v) ∧ (v = false → n ≤ 100 ∧ ∀ z ∈ ls, ∀ y ∈ z.is, y.2.length ≤ 16384) ∧ Below w.heap.size w w'
set_option maxHeartbeats 16000000 in
theorem vast_any (A : Option Addr) (n c : Nat) (ls : List LM) (w : World) (hL : ListsZ w A n ls) (hc : n ≤ c) (hcm : c ≤ 9223372036854775807) (hm : ∀ z ∈ ls, z.n ≤ 4000000000000) :
    Calls Tryd.prog 17 #[.slice A n c] w (VastPost w n ls) := by
  rcases Nat.lt_or_ge 100 n with hbig | hn
  · have u1 : decide ((n : Int) > (100 : Int)) = true := decide_eq_true (by omega)
    have u2 : decide ((100 : Int) < (n : Int)) = true := decide_eq_true (by omega)
    have u3 : decide (100 < n) = true := decide_eq_true hbig
    clear hbig
    go_enter Tryd.func17, Tryd.ntmps17
    go_wp2
    go_ret
    exact ⟨true, rfl, fun h => (Bool.noConfusion h), Below.refl _ _⟩
  have u1 : decide ((n : Int) > (100 : Int)) = false := decide_eq_false (by omega)
  have u2 : decide ((100 : Int) < (n : Int)) = false := decide_eq_false (by omega)
  have u3 : decide (100 < n) = false := decide_eq_false (by omega)
  have HL := Lib.hid hL
  have HM := Lib.hid hm
  clear hL hm
  go_enter Tryd.func17, Tryd.ntmps17
  go_wp2
  clear u1 u2 u3
  go_loopw [3, 4] (fun u v wl => ∃ (s i : Nat), u = .int .i64 (s : Int) ∧ v = .int .i64 (i : Int) ∧ i ≤ n ∧ s ≤ 1024 ∧ Below w.heap.size w wl ∧ Hid (∀ j z, j < i → ls[j]? = some z → ∀ y ∈ z.is, y.2.length ≤ 16384)) (fun _ v _ => (n - (intOf v).toNat))
  case atStart => exact ⟨0, 0, rfl, rfl, Nat.zero_le _, by omega, Below.refl _ _, fun j z hj => absurd hj (by omega)⟩
  case round =>
    obtain ⟨s, i, rfl, rfl, hi, hs, hb, hz⟩ := hrel
    rcases Nat.lt_or_ge i n with hlt | hge
    · have l1 : decide ((i : Int) < (n : Int)) = true := decide_eq_true (by omega)
      have l2 : decide (i < n) = true := decide_eq_true hlt
      obtain ⟨z, b, off, hg, hA, hbl, hr, zs, hz1⟩ := (HL.out.below hb).at_ hlt
      subst hA
      obtain ⟨za, hza⟩ : ∃ za, z.a = za := ⟨_, rfl⟩
      have r1 : wr.cell? ⟨b, off + i * 2 + 1, none⟩ = some (.slice za z.n z.c) := by rw [← hza]; exact hr 1 _ rfl
      have HZN := Lib.hid (HM.out z (List.mem_of_getElem? hg))
      have K := Lib.hid (And.intro hb (And.intro hz (And.intro hg (And.intro hz1 hr))))
      obtain ⟨wo, hwo⟩ : ∃ wo, wo = wr := ⟨_, rfl⟩
      subst hwo
      clear hb hz hg hr hz1 hbl hi
      rcases Nat.lt_or_ge 1024 z.n with hM | hM
      · have p1 : ¬ (z.n : Int) ≤ 1024 := by omega
        have p2 : ¬ z.n ≤ 1024 := by omega
        clear hM
        obtain ⟨s2, hs2⟩ : ∃ s2, s2 = s + 1024 := ⟨_, rfl⟩
        have w1 : IntKind.i64.wrap ((s : Int) + 1024) = (s2 : Int) := by rw [show (s : Int) + 1024 = (s2 : Int) by omega]; exact IntWalk.i64_in _ (by omega)
        have hs3 : s2 ≤ 3000 := by omega
        clear hs2
        go_wp2
        go_loopw [5] (fun v wl => ∃ (k : Nat), v = .int .i64 (k : Int) ∧ k ≤ z.n ∧ Below wo.heap.size wo wl ∧ Hid (∀ q y, q < k → zs[q]? = some y → y.n ≤ 16384)) (fun v _ => (z.n - (intOf v).toNat))
        case atStart => exact ⟨0, rfl, Nat.zero_le _, Below.refl _ _, fun j z hj => absurd hj (by omega)⟩
        case round =>
          obtain ⟨k, rfl, hk, hb, hq⟩ := hrel
          have r1 : wr.cell? ⟨b, off + i * 2 + 1, none⟩ = some (.slice za z.n z.c) := by rw [← hza]; exact (range_below K.out.2.2.2.2 hb) 1 _ rfl
          by_cases hs4 : s2 ≤ 1024
          · have t1 : decide ((s2 : Int) ≤ (1024 : Int)) = true := decide_eq_true (by omega)
            have t2 : decide (s2 ≤ 1024) = true := decide_eq_true hs4
            have t3 : decide ((s2 : Int) > (1024 : Int)) = false := decide_eq_false (by omega)
            have t4 : decide ((1024 : Int) < (s2 : Int)) = false := decide_eq_false (by omega)
            have t5 : decide (1024 < s2) = false := decide_eq_false (by omega)
            rcases Nat.lt_or_ge k z.n with hlt2 | hge2
            · have l3 : decide ((k : Int) < (z.n : Int)) = true := decide_eq_true (by omega)
              have l4 : decide (k < z.n) = true := decide_eq_true hlt2
              obtain ⟨y, b2, off2, hg2, hA2, hbl2, hr2, hy1⟩ := (K.out.2.2.2.1.i.below hb).at_ hlt2
              rw [hza] at hA2
              subst hA2
              have r2 : wr.cell? ⟨b2, off2 + k * 17 + 16, none⟩ = some (.slice y.a y.n y.c) := data_cell hr2 hy1.o
              have K2 := Lib.hid (And.intro hb (And.intro hq hg2))
              have NOT : Hid (16384 < y.n → ¬ (∀ z ∈ ls, ∀ y ∈ z.is, y.2.length ≤ 16384)) := fun h h2 => by
                have h3 := h2 z (List.mem_of_getElem? K.out.2.2.1) y.itm (lm_item K.out.2.2.2.1 hg2)
                have h4 := hy1.r.1
                have h5 : y.d.length ≤ 16384 := h3
                omega
              clear hb hq hg2 hr2 hy1 hbl2
              rcases Nat.lt_or_ge 16384 y.n with hbig | hbig
              · have u1 : decide ((y.n : Int) > (16384 : Int)) = true := decide_eq_true (by omega)
                have u2 : decide ((16384 : Int) < (y.n : Int)) = true := decide_eq_true (by omega)
                have u3 : decide (16384 < y.n) = true := decide_eq_true hbig
                clear hbig
                go_wp2
                go_ret
                exact ⟨true, rfl, fun h => (Bool.noConfusion h), kp_call K.out.1 K2.out.1⟩
              · have u1 : decide ((y.n : Int) > (16384 : Int)) = false := decide_eq_false (by omega)
                have u2 : decide ((16384 : Int) < (y.n : Int)) = false := decide_eq_false (by omega)
                have u3 : decide (16384 < y.n) = false := decide_eq_false (by omega)
                have HBIG := Lib.hid hbig
                clear hbig
                have l5 : IntKind.i64.wrap ((k : Int) + 1) = ((k + 1 : Nat) : Int) := IntWalk.i64_in _ (by have := HZN.out; omega)
                go_wp2
                go_roundw
                case rel =>
                  refine ⟨k + 1, rfl, hlt2, K2.out.1, fun q y' hq hy' => ?_⟩
                  rcases Nat.lt_or_ge q k with h | h
                  · exact K2.out.2.1 q y' h hy'
                  · obtain rfl : q = k := by omega
                    rw [K2.out.2.2] at hy'
                    injection hy' with hy'
                    subst hy'
                    exact HBIG.out
                case measure => simp [intOf]; omega
            · have hkm : k = z.n := by omega
              have l3 : decide ((k : Int) < (z.n : Int)) = false := decide_eq_false (by omega)
              have l4 : decide (k < z.n) = false := decide_eq_false (by omega)
              have l5 : IntKind.i64.wrap ((i : Int) + 1) = ((i + 1 : Nat) : Int) := IntWalk.i64_in _ (by omega)
              have NEXT : Hid (∀ y ∈ z.is, y.2.length ≤ 16384) := lm_each (P := fun y => y.2.length ≤ 16384) K.out.2.2.2.1 (fun q y hq' hy => by
                have h1 := hq q y (by omega) hy
                have h2 := (K.out.2.2.2.1.i.each y (List.mem_of_getElem? hy)).r.1
                show y.d.length ≤ 16384
                omega)
              have HB2 := Lib.hid (kp_call K.out.1 hb)
              clear hb hq hge2 hkm
              go_wp2
              go_roundw
              case rel =>
                refine ⟨s2, i + 1, rfl, rfl, hlt, hs4, HB2.out, fun q z' hq hz' => ?_⟩
                rcases Nat.lt_or_ge q i with h | h
                · exact K.out.2.1 q z' h hz'
                · obtain rfl : q = i := by omega
                  rw [K.out.2.2.1] at hz'
                  injection hz' with hz'
                  subst hz'
                  exact NEXT.out
              case measure => simp [intOf]; omega
          · have t1 : decide ((s2 : Int) ≤ (1024 : Int)) = false := decide_eq_false (by omega)
            have t2 : decide (s2 ≤ 1024) = false := decide_eq_false hs4
            have t3 : decide ((s2 : Int) > (1024 : Int)) = true := decide_eq_true (by omega)
            have t4 : decide ((1024 : Int) < (s2 : Int)) = true := decide_eq_true (by omega)
            have t5 : decide (1024 < s2) = true := decide_eq_true (by omega)
            have HB2 := Lib.hid (kp_call K.out.1 hb)
            clear hb hq
            rcases Nat.lt_or_ge k z.n with hlt2 | hge2
            · have l3 : decide ((k : Int) < (z.n : Int)) = true := decide_eq_true (by omega)
              have l4 : decide (k < z.n) = true := decide_eq_true hlt2
              clear hlt2
              go_wp2
              go_ret
              exact ⟨true, rfl, fun h => (Bool.noConfusion h), HB2.out⟩
            · have l3 : decide ((k : Int) < (z.n : Int)) = false := decide_eq_false (by omega)
              have l4 : decide (k < z.n) = false := decide_eq_false (by omega)
              clear hge2
              go_wp2
              go_ret
              exact ⟨true, rfl, fun h => (Bool.noConfusion h), HB2.out⟩
      · have p1 : (z.n : Int) ≤ 1024 := by omega
        have p2 : z.n ≤ 1024 := by omega
        clear hM
        obtain ⟨s2, hs2⟩ : ∃ s2, s2 = s + z.n := ⟨_, rfl⟩
        have w1 : IntKind.i64.wrap ((s : Int) + (z.n : Int)) = (s2 : Int) := by rw [show (s : Int) + (z.n : Int) = (s2 : Int) by omega]; exact IntWalk.i64_in _ (by omega)
        have hs3 : s2 ≤ 3000 := by omega
        clear hs2
        go_wp2
        go_loopw [5] (fun v wl => ∃ (k : Nat), v = .int .i64 (k : Int) ∧ k ≤ z.n ∧ Below wo.heap.size wo wl ∧ Hid (∀ q y, q < k → zs[q]? = some y → y.n ≤ 16384)) (fun v _ => (z.n - (intOf v).toNat))
        case atStart => exact ⟨0, rfl, Nat.zero_le _, Below.refl _ _, fun j z hj => absurd hj (by omega)⟩
        case round =>
          obtain ⟨k, rfl, hk, hb, hq⟩ := hrel
          have r1 : wr.cell? ⟨b, off + i * 2 + 1, none⟩ = some (.slice za z.n z.c) := by rw [← hza]; exact (range_below K.out.2.2.2.2 hb) 1 _ rfl
          by_cases hs4 : s2 ≤ 1024
          · have t1 : decide ((s2 : Int) ≤ (1024 : Int)) = true := decide_eq_true (by omega)
            have t2 : decide (s2 ≤ 1024) = true := decide_eq_true hs4
            have t3 : decide ((s2 : Int) > (1024 : Int)) = false := decide_eq_false (by omega)
            have t4 : decide ((1024 : Int) < (s2 : Int)) = false := decide_eq_false (by omega)
            have t5 : decide (1024 < s2) = false := decide_eq_false (by omega)
            rcases Nat.lt_or_ge k z.n with hlt2 | hge2
            · have l3 : decide ((k : Int) < (z.n : Int)) = true := decide_eq_true (by omega)
              have l4 : decide (k < z.n) = true := decide_eq_true hlt2
              obtain ⟨y, b2, off2, hg2, hA2, hbl2, hr2, hy1⟩ := (K.out.2.2.2.1.i.below hb).at_ hlt2
              rw [hza] at hA2
              subst hA2
              have r2 : wr.cell? ⟨b2, off2 + k * 17 + 16, none⟩ = some (.slice y.a y.n y.c) := data_cell hr2 hy1.o
              have K2 := Lib.hid (And.intro hb (And.intro hq hg2))
              have NOT : Hid (16384 < y.n → ¬ (∀ z ∈ ls, ∀ y ∈ z.is, y.2.length ≤ 16384)) := fun h h2 => by
                have h3 := h2 z (List.mem_of_getElem? K.out.2.2.1) y.itm (lm_item K.out.2.2.2.1 hg2)
                have h4 := hy1.r.1
                have h5 : y.d.length ≤ 16384 := h3
                omega
              clear hb hq hg2 hr2 hy1 hbl2
              rcases Nat.lt_or_ge 16384 y.n with hbig | hbig
              · have u1 : decide ((y.n : Int) > (16384 : Int)) = true := decide_eq_true (by omega)
                have u2 : decide ((16384 : Int) < (y.n : Int)) = true := decide_eq_true (by omega)
                have u3 : decide (16384 < y.n) = true := decide_eq_true hbig
                clear hbig
                go_wp2
                go_ret
                exact ⟨true, rfl, fun h => (Bool.noConfusion h), kp_call K.out.1 K2.out.1⟩
              · have u1 : decide ((y.n : Int) > (16384 : Int)) = false := decide_eq_false (by omega)
                have u2 : decide ((16384 : Int) < (y.n : Int)) = false := decide_eq_false (by omega)
                have u3 : decide (16384 < y.n) = false := decide_eq_false (by omega)
                have HBIG := Lib.hid hbig
                clear hbig
                have l5 : IntKind.i64.wrap ((k : Int) + 1) = ((k + 1 : Nat) : Int) := IntWalk.i64_in _ (by have := HZN.out; omega)
                go_wp2
                go_roundw
                case rel =>
                  refine ⟨k + 1, rfl, hlt2, K2.out.1, fun q y' hq hy' => ?_⟩
                  rcases Nat.lt_or_ge q k with h | h
                  · exact K2.out.2.1 q y' h hy'
                  · obtain rfl : q = k := by omega
                    rw [K2.out.2.2] at hy'
                    injection hy' with hy'
                    subst hy'
                    exact HBIG.out
                case measure => simp [intOf]; omega
            · have hkm : k = z.n := by omega
              have l3 : decide ((k : Int) < (z.n : Int)) = false := decide_eq_false (by omega)
              have l4 : decide (k < z.n) = false := decide_eq_false (by omega)
              have l5 : IntKind.i64.wrap ((i : Int) + 1) = ((i + 1 : Nat) : Int) := IntWalk.i64_in _ (by omega)
              have NEXT : Hid (∀ y ∈ z.is, y.2.length ≤ 16384) := lm_each (P := fun y => y.2.length ≤ 16384) K.out.2.2.2.1 (fun q y hq' hy => by
                have h1 := hq q y (by omega) hy
                have h2 := (K.out.2.2.2.1.i.each y (List.mem_of_getElem? hy)).r.1
                show y.d.length ≤ 16384
                omega)
              have HB2 := Lib.hid (kp_call K.out.1 hb)
              clear hb hq hge2 hkm
              go_wp2
              go_roundw
              case rel =>
                refine ⟨s2, i + 1, rfl, rfl, hlt, hs4, HB2.out, fun q z' hq hz' => ?_⟩
                rcases Nat.lt_or_ge q i with h | h
                · exact K.out.2.1 q z' h hz'
                · obtain rfl : q = i := by omega
                  rw [K.out.2.2.1] at hz'
                  injection hz' with hz'
                  subst hz'
                  exact NEXT.out
              case measure => simp [intOf]; omega
          · have t1 : decide ((s2 : Int) ≤ (1024 : Int)) = false := decide_eq_false (by omega)
            have t2 : decide (s2 ≤ 1024) = false := decide_eq_false hs4
            have t3 : decide ((s2 : Int) > (1024 : Int)) = true := decide_eq_true (by omega)
            have t4 : decide ((1024 : Int) < (s2 : Int)) = true := decide_eq_true (by omega)
            have t5 : decide (1024 < s2) = true := decide_eq_true (by omega)
            have HB2 := Lib.hid (kp_call K.out.1 hb)
            clear hb hq
            rcases Nat.lt_or_ge k z.n with hlt2 | hge2
            · have l3 : decide ((k : Int) < (z.n : Int)) = true := decide_eq_true (by omega)
              have l4 : decide (k < z.n) = true := decide_eq_true hlt2
              clear hlt2
              go_wp2
              go_ret
              exact ⟨true, rfl, fun h => (Bool.noConfusion h), HB2.out⟩
            · have l3 : decide ((k : Int) < (z.n : Int)) = false := decide_eq_false (by omega)
              have l4 : decide (k < z.n) = false := decide_eq_false (by omega)
              clear hge2
              go_wp2
              go_ret
              exact ⟨true, rfl, fun h => (Bool.noConfusion h), HB2.out⟩
    · have l1 : decide ((i : Int) < (n : Int)) = false := decide_eq_false (by omega)
      have l2 : decide (i < n) = false := decide_eq_false (by omega)
      have hin : i = n := by omega
      have K := Lib.hid (And.intro hb (show ∀ x ∈ ls, ∀ y ∈ x.is, y.2.length ≤ 16384 from fun x hx => by
        obtain ⟨j, hj⟩ := List.getElem?_of_mem hx
        exact hz j x (by have := (List.getElem?_eq_some_iff.1 hj).1; have := HL.out.len; omega) hj))
      have HN := Lib.hid hn
      clear hb hz hge hin
      go_wp2
      go_ret
      exact ⟨false, rfl, fun _ => ⟨HN.out, K.out.2⟩, K.out.1⟩
end Go.Proofs.YtfampefflkkckaaDoor
