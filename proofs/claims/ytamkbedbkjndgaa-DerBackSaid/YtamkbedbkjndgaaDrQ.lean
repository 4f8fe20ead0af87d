/-
  der: PutOid, the code's and the document's; the same arcs?
-/
import Derived.Test.YtamkbedbkjndgaaDrO
import Derived.Deep.RegionHeld3
import Derived.Deep.QuietTactic
import Derived.BigQuiet
namespace Go.Proofs.Ytamkbedbkjndgaa
open Go.RowKit Go
set_option linter.unusedVariables false
set_option maxRecDepth 100000
/-- A slice of n numbers reads as xs. -/
structure RN (w : World) (A : Option Addr) (n : Nat) (xs : List Nat) : Prop where
  len : xs.length = n
  reads : ReadR w A (xs.map u64v)
  lt : ∀ (j x : Nat), xs[j]? = some x → x < 18446744073709551616
theorem RN.below {w w' : World} {A : Option Addr} {n : Nat} {xs : List Nat} (h : RN w A n xs) {B : Nat} (hb : Below B w w') (hB : w.heap.size ≤ B) : RN w' A n xs := ⟨h.len, h.reads.below hb hB, h.lt⟩
theorem RN.drewN {w : World} {A : Option Addr} {n : Nat} {xs : List Nat} (h : RN w A n xs) (k : Nat) : RN (w.drewN k) A n xs := ⟨h.len, h.reads, h.lt⟩
theorem RN.at_ {w : World} {A : Option Addr} {n : Nat} {xs : List Nat} (h : RN w A n xs) {j : Nat} (hj : j < n) : ∃ b off x, A = some ⟨b, off, none⟩ ∧ b < w.heap.size ∧ xs[j]? = some x ∧ x < 18446744073709551616 ∧ w.cell? ⟨b, off + j, none⟩ = some (.int .u64 (x : Int)) := by
  have hj2 : j < xs.length := by rw [h.len]; exact hj
  obtain ⟨b, off, e, hb, hc⟩ := h.reads.at_ (j := j) (u := u64v xs[j]) (by rw [List.getElem?_map, List.getElem?_eq_getElem hj2]; rfl)
  exact ⟨b, off, xs[j], e, hb, List.getElem?_eq_getElem hj2, h.lt j _ (List.getElem?_eq_getElem hj2), hc⟩
theorem RN.drop {w : World} {A : Option Addr} {n k : Nat} {xs : List Nat} (h : RN w A n xs) : RN w (A.map (·.add k)) (n - k) (xs.drop k) :=
  ⟨by rw [List.length_drop, h.len], by rw [List.map_drop]; exact h.reads.drop_ k, fun j x hx => h.lt (k + j) x (by rw [List.getElem?_drop] at hx; exact hx)⟩
/-- The body of an object identifier; nothing, if arcs are none. -/
def putoidQ : List Nat → List UInt8
  | a :: b :: r => if 2 < a ∨ (a < 2 ∧ 39 < b) ∨ 18446744073709551535 < b then [] else sev (40 * a + b) ++ r.flatMap sev
  | _ => []
theorem flat_len (r : List Nat) (h : ∀ (j x : Nat), r[j]? = some x → x < 18446744073709551616) : (r.flatMap sev).length ≤ 10 * r.length := by
  induction r with
  | nil => simp
  | cons x r ih =>
    have h0 := sev_len x (h 0 x rfl)
    have h1 := ih (fun j y hy => h (j + 1) y hy)
    simp only [List.flatMap_cons, List.length_append, List.length_cons]
    omega
theorem flat_snoc (r : List Nat) (k x : Nat) (h : r[k]? = some x) : (r.take (k + 1)).flatMap sev = (r.take k).flatMap sev ++ sev x := by
  rw [List.take_add_one, h, List.flatMap_append]; simp
theorem Fresh.nil (w w' : World) (h : Below w.heap.size w w') : Fresh w [] (.returned (.slice none 0 0)) w' := ⟨none, 0, 0, rfl, OwnB.nil _ _, h⟩
theorem putoid_s (A : Option Addr) (n c : Nat) (xs : List Nat) (w : World) (hl : xs.length = n) (h2 : n < 2) :
    Calls Try.prog 29 #[.slice A n c] w (Fresh w (putoidQ xs)) := by
  have e : putoidQ xs = [] := by
    match xs, hl with
    | [], _ => rfl
    | [_], _ => rfl
    | _ :: _ :: _, hl => simp at hl; omega
  rw [e]
  clear e hl
  go_enter Try.func29, Try.ntmps29
  go_wp2
  go_ret
  exact Fresh.nil w w (Below.refl _ _)
theorem putoid_bad (b off n c x y : Nat) (w : World) (h2 : 2 ≤ n) (hn : n ≤ 1000000) (c0 : w.cell? ⟨b, off, none⟩ = some (.int .u64 (x : Int))) (c1 : w.cell? ⟨b, off + 1, none⟩ = some (.int .u64 (y : Int))) (hbad : 2 < x ∨ (x < 2 ∧ 39 < y) ∨ 18446744073709551535 < y) :
    Calls Try.prog 29 #[.slice (some ⟨b, off, none⟩) n c] w (Fresh w []) := by
  have i0 : 0 < n := by omega
  by_cases b1 : 2 < x
  · have t1 : (2 : Int) < (x : Int) := by omega
    clear hbad
    go_enter Try.func29, Try.ntmps29
    go_wp2
    go_ret
    exact Fresh.nil w w (Below.refl _ _)
  by_cases b2 : x < 2
  · have t2 : (x : Int) < 2 := by omega
    by_cases b3 : 39 < y
    · have t3 : (39 : Int) < (y : Int) := by omega
      clear hbad b1
      go_enter Try.func29, Try.ntmps29
      go_wp2
      go_ret
      exact Fresh.nil w w (Below.refl _ _)
    · omega
  · have t2 : (2 : Int) ≤ (x : Int) := by omega
    have t1 : (x : Int) ≤ 2 := by omega
    have t4 : (18446744073709551535 : Int) < (y : Int) := by omega
    clear hbad b1 b2
    go_enter Try.func29, Try.ntmps29
    go_wp2
    go_ret
    exact Fresh.nil w w (Below.refl _ _)
set_option maxHeartbeats 1000000 in
theorem putoid_go (b off n c x y : Nat) (r : List Nat) (w : World) (hR : RN w (some ⟨b, off, none⟩) n (x :: y :: r)) (hnc : n ≤ c) (h2 : 2 ≤ n) (hn : n ≤ 1000000) (hc : c ≤ 9223372036854775807) (c0 : w.cell? ⟨b, off, none⟩ = some (.int .u64 (x : Int))) (c1 : w.cell? ⟨b, off + 1, none⟩ = some (.int .u64 (y : Int)))
    (hx : x ≤ 2) (hy : y ≤ 18446744073709551535) (hxy : x < 2 → y ≤ 39) :
    Calls Try.prog 29 #[.slice (some ⟨b, off, none⟩) n c] w (Fresh w (sev (40 * x + y) ++ r.flatMap sev)) := by
  have i0 : 0 < n := by omega
  have i2 : (2 : Int) ≤ (n : Int) := by omega
  have i3 : (n : Int) ≤ (c : Int) := by omega
  have t1 : (x : Int) ≤ 2 := by omega
  have t4 : (y : Int) ≤ 18446744073709551535 := by omega
  have HLr : Hid (r.length = n - 2) := by have := hR.len; simp only [List.length_cons] at this; unfold Hid; omega
  have HFl := Lib.hid (flat_len r (fun j z hz => hR.lt (j + 2) z hz))
  have S1 := Lib.hid (sev_len (40 * x + y) (by omega))
  have HR := Lib.hid hR
  clear hR
  have P0 : Hid (∀ W, Calls Try.prog 48 #[.int .u64 (40 * (x : Int) + (y : Int))] W (Fresh W (sev (40 * x + y)))) := fun W => by
    have := putnum_any (40 * x + y) (by omega) W
    rw [show ((40 * x + y : Nat) : Int) = 40 * (x : Int) + (y : Int) from by omega] at this
    exact this
  have hbb := World.block_lt_of_cell? w _ c0
  have m1 : IntKind.u64.wrap (40 * (x : Int)) = 40 * (x : Int) := by rw [IntKind.wrap_u64]; omega
  have m2 : IntKind.u64.wrap (40 * (x : Int) + (y : Int)) = 40 * (x : Int) + (y : Int) := by rw [IntKind.wrap_u64]; omega
  have hcc : ¬ c = 2 ∨ (c = 2 ∧ n = 2) := by omega
  rcases hcc with hcc | ⟨rfl, rfl⟩
  · by_cases b2 : x < 2
    · have t2 : (x : Int) < 2 := by omega
      have t3 : (y : Int) ≤ 39 := by omega
      clear hxy b2
      go_enter Try.func29, Try.ntmps29
      go_wp2
      go_region_held3 (fun W => W.cell? ⟨b, off, none⟩ = some (.int .u64 (x : Int)) ∧ W.cell? ⟨b, off + 1, none⟩ = some (.int .u64 (y : Int))) (go_keep) (first | (go_at_call 48; (with_reducible refine (P0.out _).mono ?_); rintro e w2 ⟨A2, n2, c2, rfl, hown, hb⟩; have hk0 : w2.cell? ⟨b, off, none⟩ = some (.int .u64 (x : Int)) := (hb.cell (p := ⟨b, off, none⟩) hbb).trans c0; have hk1 : w2.cell? ⟨b, off + 1, none⟩ = some (.int .u64 (y : Int)) := (hb.cell (p := ⟨b, off + 1, none⟩) hbb).trans c1))
      have hbl0 : Below w.heap.size w w2 := ⟨hb.os, hb.tape, hb.output, hb.size, hb.block⟩
      have hown : OwnB w2 w.heap.size A2 n2 c2 (sev (40 * x + y)) := hown
      clear hb hk0 hk1 m1 m2
      go_wp2
      go_loopw [3, 45] (fun v i wl => ∃ j : Nat, j ≤ n - 2 ∧ ∃ (A3 : Option Addr) (n3 c3 : Nat), i = .int .i64 j ∧ v = .slice A3 n3 c3 ∧ OwnB wl w.heap.size A3 n3 c3 (sev (40 * x + y) ++ (r.take j).flatMap sev) ∧ Below w.heap.size w wl) (fun _ i _ => n - (intOf i).toNat)
      case atStart => exact ⟨0, by omega, _, _, _, rfl, rfl, by simpa using hown, hbl0⟩
      case round =>
        obtain ⟨j, hj, A3, n3, c3, rfl, rfl, hown3, hbl⟩ := hrel
        clear hown hbl0
        have hl3 := hown3.len
        have hf3 := HFl.out
        have hs3 := S1.out
        have hr3 := HLr.out
        have hsub : ((r.take j).flatMap sev).length ≤ 10 * j := by
          have := flat_len (r.take j) (fun i z hz => by
            have h9 : r[i]? = some z := by
              rw [List.getElem?_take] at hz
              split at hz
              · exact hz
              · cases hz
            exact HR.out.lt (i + 2) z h9)
          have h8 := List.length_take_le j r
          omega
        rw [List.length_append] at hl3
        have hn3 : n3 ≤ 10 + 10 * j := by omega
        clear hl3 hf3 hs3 hr3 hsub
        have hsz := hbl.size
        by_cases hlt : j < n - 2
        · obtain ⟨b', off', z, e', _, hz, hz64, hcz⟩ := HR.out.at_ (j := j + 2) (by omega)
          cases e'
          have hzr : Hid (r[j]? = some z) := hz
          have hcz : wr.cell? ⟨b, off + 2 + j, none⟩ = some (.int .u64 (z : Int)) := by
            have h9 := (hbl.cell (p := ⟨b, off + (j + 2), none⟩) hbb).trans hcz
            rw [show off + 2 + j = off + (j + 2) by omega]
            exact h9
          clear hz
          have PZ := Lib.hid (putnum_any z hz64 wr)
          have HS := Lib.hid (flat_snoc r j z hzr.out)
          have SZ := Lib.hid (sev_len z hz64)
          have hlt2 : (j : Int) < (n : Int) - 2 := by omega
          skip
          go_wp2_with (first | (go_at_call 48; (with_reducible refine PZ.out.mono ?_); rintro e w4 ⟨A4, n4, c4, rfl, hown4, hb4⟩; have hk3 := (hown3.below hb4 (Nat.le_refl _)); have hl4 : n4 ≤ 10 := by rw [← hown4.len]; exact SZ.out) | (at_builtin; refine wpList_apn _ _ rfl rfl rfl w.heap.size A3 n3 c3 _ rfl hk3 A4 n4 c4 (sev z) rfl hown4.rb (by omega) (by have := hb4.size; omega) ?_))
          intro A5 c5 w5 hown5 hg5
          have hbl5 : Below w.heap.size w w5 := (hbl.trans (hb4.mono hsz)).grown hg5 (by have := hb4.size; omega) (fun g hg => (hk3.blk_lt hg).1)
          go_wp2
          go_roundw
          case rel => exact ⟨j + 1, by omega, A5, _, c5, by go_num, rfl, by rw [HS.out]; exact hown5, hbl5⟩
          case measure => simp [intOf]; omega
        · have HE : Hid (r.take j = r) := List.take_of_length_le (by rw [HLr.out]; omega)
          have hlt2 : (n : Int) - 2 ≤ (j : Int) := by omega
          go_wp2
          go_ret
          rw [HE.out] at hown3
          exact ⟨A3, n3, c3, rfl, hown3, hbl⟩
    · have t2 : (2 : Int) ≤ (x : Int) := by omega
      clear hxy b2
      go_enter Try.func29, Try.ntmps29
      go_wp2
      go_region_held3 (fun W => W.cell? ⟨b, off, none⟩ = some (.int .u64 (x : Int)) ∧ W.cell? ⟨b, off + 1, none⟩ = some (.int .u64 (y : Int))) (go_keep) (first | (go_at_call 48; (with_reducible refine (P0.out _).mono ?_); rintro e w2 ⟨A2, n2, c2, rfl, hown, hb⟩; have hk0 : w2.cell? ⟨b, off, none⟩ = some (.int .u64 (x : Int)) := (hb.cell (p := ⟨b, off, none⟩) hbb).trans c0; have hk1 : w2.cell? ⟨b, off + 1, none⟩ = some (.int .u64 (y : Int)) := (hb.cell (p := ⟨b, off + 1, none⟩) hbb).trans c1))
      have hbl0 : Below w.heap.size w w2 := ⟨hb.os, hb.tape, hb.output, hb.size, hb.block⟩
      have hown : OwnB w2 w.heap.size A2 n2 c2 (sev (40 * x + y)) := hown
      clear hb hk0 hk1 m1 m2
      go_wp2
      go_loopw [3, 45] (fun v i wl => ∃ j : Nat, j ≤ n - 2 ∧ ∃ (A3 : Option Addr) (n3 c3 : Nat), i = .int .i64 j ∧ v = .slice A3 n3 c3 ∧ OwnB wl w.heap.size A3 n3 c3 (sev (40 * x + y) ++ (r.take j).flatMap sev) ∧ Below w.heap.size w wl) (fun _ i _ => n - (intOf i).toNat)
      case atStart => exact ⟨0, by omega, _, _, _, rfl, rfl, by simpa using hown, hbl0⟩
      case round =>
        obtain ⟨j, hj, A3, n3, c3, rfl, rfl, hown3, hbl⟩ := hrel
        clear hown hbl0
        have hl3 := hown3.len
        have hf3 := HFl.out
        have hs3 := S1.out
        have hr3 := HLr.out
        have hsub : ((r.take j).flatMap sev).length ≤ 10 * j := by
          have := flat_len (r.take j) (fun i z hz => by
            have h9 : r[i]? = some z := by
              rw [List.getElem?_take] at hz
              split at hz
              · exact hz
              · cases hz
            exact HR.out.lt (i + 2) z h9)
          have h8 := List.length_take_le j r
          omega
        rw [List.length_append] at hl3
        have hn3 : n3 ≤ 10 + 10 * j := by omega
        clear hl3 hf3 hs3 hr3 hsub
        have hsz := hbl.size
        by_cases hlt : j < n - 2
        · obtain ⟨b', off', z, e', _, hz, hz64, hcz⟩ := HR.out.at_ (j := j + 2) (by omega)
          cases e'
          have hzr : Hid (r[j]? = some z) := hz
          have hcz : wr.cell? ⟨b, off + 2 + j, none⟩ = some (.int .u64 (z : Int)) := by
            have h9 := (hbl.cell (p := ⟨b, off + (j + 2), none⟩) hbb).trans hcz
            rw [show off + 2 + j = off + (j + 2) by omega]
            exact h9
          clear hz
          have PZ := Lib.hid (putnum_any z hz64 wr)
          have HS := Lib.hid (flat_snoc r j z hzr.out)
          have SZ := Lib.hid (sev_len z hz64)
          have hlt2 : (j : Int) < (n : Int) - 2 := by omega
          skip
          go_wp2_with (first | (go_at_call 48; (with_reducible refine PZ.out.mono ?_); rintro e w4 ⟨A4, n4, c4, rfl, hown4, hb4⟩; have hk3 := (hown3.below hb4 (Nat.le_refl _)); have hl4 : n4 ≤ 10 := by rw [← hown4.len]; exact SZ.out) | (at_builtin; refine wpList_apn _ _ rfl rfl rfl w.heap.size A3 n3 c3 _ rfl hk3 A4 n4 c4 (sev z) rfl hown4.rb (by omega) (by have := hb4.size; omega) ?_))
          intro A5 c5 w5 hown5 hg5
          have hbl5 : Below w.heap.size w w5 := (hbl.trans (hb4.mono hsz)).grown hg5 (by have := hb4.size; omega) (fun g hg => (hk3.blk_lt hg).1)
          go_wp2
          go_roundw
          case rel => exact ⟨j + 1, by omega, A5, _, c5, by go_num, rfl, by rw [HS.out]; exact hown5, hbl5⟩
          case measure => simp [intOf]; omega
        · have HE : Hid (r.take j = r) := List.take_of_length_le (by rw [HLr.out]; omega)
          have hlt2 : (n : Int) - 2 ≤ (j : Int) := by omega
          go_wp2
          go_ret
          rw [HE.out] at hown3
          exact ⟨A3, n3, c3, rfl, hown3, hbl⟩
  · by_cases b2 : x < 2
    · have t2 : (x : Int) < 2 := by omega
      have t3 : (y : Int) ≤ 39 := by omega
      clear hxy b2
      go_enter Try.func29, Try.ntmps29
      go_wp2
      go_region_held3 (fun W => W.cell? ⟨b, off, none⟩ = some (.int .u64 (x : Int)) ∧ W.cell? ⟨b, off + 1, none⟩ = some (.int .u64 (y : Int))) (go_keep) (first | (go_at_call 48; (with_reducible refine (P0.out _).mono ?_); rintro e w2 ⟨A2, n2, c2, rfl, hown, hb⟩; have hk0 : w2.cell? ⟨b, off, none⟩ = some (.int .u64 (x : Int)) := (hb.cell (p := ⟨b, off, none⟩) hbb).trans c0; have hk1 : w2.cell? ⟨b, off + 1, none⟩ = some (.int .u64 (y : Int)) := (hb.cell (p := ⟨b, off + 1, none⟩) hbb).trans c1))
      have hbl0 : Below w.heap.size w w2 := ⟨hb.os, hb.tape, hb.output, hb.size, hb.block⟩
      have hown : OwnB w2 w.heap.size A2 n2 c2 (sev (40 * x + y)) := hown
      clear hb hk0 hk1 m1 m2
      go_wp2
      go_loopw [3, 45] (fun v i wl => ∃ j : Nat, j ≤ 2 - 2 ∧ ∃ (A3 : Option Addr) (n3 c3 : Nat), i = .int .i64 j ∧ v = .slice A3 n3 c3 ∧ OwnB wl w.heap.size A3 n3 c3 (sev (40 * x + y) ++ (r.take j).flatMap sev) ∧ Below w.heap.size w wl) (fun _ i _ => 2 - (intOf i).toNat)
      case atStart => exact ⟨0, by omega, _, _, _, rfl, rfl, by simpa using hown, hbl0⟩
      case round =>
        obtain ⟨j, hj, A3, n3, c3, rfl, rfl, hown3, hbl⟩ := hrel
        clear hown hbl0
        have hl3 := hown3.len
        have hf3 := HFl.out
        have hs3 := S1.out
        have hr3 := HLr.out
        have hsub : ((r.take j).flatMap sev).length ≤ 10 * j := by
          have := flat_len (r.take j) (fun i z hz => by
            have h9 : r[i]? = some z := by
              rw [List.getElem?_take] at hz
              split at hz
              · exact hz
              · cases hz
            exact HR.out.lt (i + 2) z h9)
          have h8 := List.length_take_le j r
          omega
        rw [List.length_append] at hl3
        have hn3 : n3 ≤ 10 + 10 * j := by omega
        clear hl3 hf3 hs3 hr3 hsub
        have hsz := hbl.size
        by_cases hlt : j < 2 - 2
        · omega
        · have HE : Hid (r.take j = r) := List.take_of_length_le (by rw [HLr.out]; omega)
          have hlt2 : (2 : Int) - 2 ≤ (j : Int) := by omega
          go_wp2
          go_ret
          rw [HE.out] at hown3
          exact ⟨A3, n3, c3, rfl, hown3, hbl⟩
    · have t2 : (2 : Int) ≤ (x : Int) := by omega
      clear hxy b2
      go_enter Try.func29, Try.ntmps29
      go_wp2
      go_region_held3 (fun W => W.cell? ⟨b, off, none⟩ = some (.int .u64 (x : Int)) ∧ W.cell? ⟨b, off + 1, none⟩ = some (.int .u64 (y : Int))) (go_keep) (first | (go_at_call 48; (with_reducible refine (P0.out _).mono ?_); rintro e w2 ⟨A2, n2, c2, rfl, hown, hb⟩; have hk0 : w2.cell? ⟨b, off, none⟩ = some (.int .u64 (x : Int)) := (hb.cell (p := ⟨b, off, none⟩) hbb).trans c0; have hk1 : w2.cell? ⟨b, off + 1, none⟩ = some (.int .u64 (y : Int)) := (hb.cell (p := ⟨b, off + 1, none⟩) hbb).trans c1))
      have hbl0 : Below w.heap.size w w2 := ⟨hb.os, hb.tape, hb.output, hb.size, hb.block⟩
      have hown : OwnB w2 w.heap.size A2 n2 c2 (sev (40 * x + y)) := hown
      clear hb hk0 hk1 m1 m2
      go_wp2
      go_loopw [3, 45] (fun v i wl => ∃ j : Nat, j ≤ 2 - 2 ∧ ∃ (A3 : Option Addr) (n3 c3 : Nat), i = .int .i64 j ∧ v = .slice A3 n3 c3 ∧ OwnB wl w.heap.size A3 n3 c3 (sev (40 * x + y) ++ (r.take j).flatMap sev) ∧ Below w.heap.size w wl) (fun _ i _ => 2 - (intOf i).toNat)
      case atStart => exact ⟨0, by omega, _, _, _, rfl, rfl, by simpa using hown, hbl0⟩
      case round =>
        obtain ⟨j, hj, A3, n3, c3, rfl, rfl, hown3, hbl⟩ := hrel
        clear hown hbl0
        have hl3 := hown3.len
        have hf3 := HFl.out
        have hs3 := S1.out
        have hr3 := HLr.out
        have hsub : ((r.take j).flatMap sev).length ≤ 10 * j := by
          have := flat_len (r.take j) (fun i z hz => by
            have h9 : r[i]? = some z := by
              rw [List.getElem?_take] at hz
              split at hz
              · exact hz
              · cases hz
            exact HR.out.lt (i + 2) z h9)
          have h8 := List.length_take_le j r
          omega
        rw [List.length_append] at hl3
        have hn3 : n3 ≤ 10 + 10 * j := by omega
        clear hl3 hf3 hs3 hr3 hsub
        have hsz := hbl.size
        by_cases hlt : j < 2 - 2
        · omega
        · have HE : Hid (r.take j = r) := List.take_of_length_le (by rw [HLr.out]; omega)
          have hlt2 : (2 : Int) - 2 ≤ (j : Int) := by omega
          go_wp2
          go_ret
          rw [HE.out] at hown3
          exact ⟨A3, n3, c3, rfl, hown3, hbl⟩
theorem putoid_any (A : Option Addr) (n c : Nat) (xs : List Nat) (w : World) (hR : RN w A n xs) (hnc : n ≤ c) (hn : n ≤ 1000000) (hc : c ≤ 9223372036854775807) :
    Calls Try.prog 29 #[.slice A n c] w (Fresh w (putoidQ xs)) := by
  by_cases h2 : n < 2
  · exact putoid_s A n c xs w hR.len h2
  obtain ⟨b, off, x, rfl, _, hx, hx64, c0⟩ := hR.at_ (j := 0) (by omega)
  obtain ⟨b', off', y, e', _, hy, hy64, c1⟩ := hR.at_ (j := 1) (by omega)
  cases e'
  have c0 : w.cell? ⟨b, off, none⟩ = some (.int .u64 (x : Int)) := c0
  obtain ⟨r, rfl⟩ : ∃ r, xs = x :: y :: r := by
    match xs, hx, hy with
    | p :: q :: r, hx, hy =>
      simp at hx hy
      subst hx; subst hy
      exact ⟨r, rfl⟩
  by_cases hbad : 2 < x ∨ (x < 2 ∧ 39 < y) ∨ 18446744073709551535 < y
  · have e : putoidQ (x :: y :: r) = [] := by simp only [putoidQ]; rw [if_pos hbad]
    rw [e]
    exact putoid_bad b off n c x y w (by omega) hn c0 c1 hbad
  · have e : putoidQ (x :: y :: r) = sev (40 * x + y) ++ r.flatMap sev := by simp only [putoidQ]; rw [if_neg hbad]
    rw [e]
    exact putoid_go b off n c x y r w hR hnc (by omega) hn hc c0 c1 (by omega) (by omega) (by omega)
theorem eqn_any (A1 A2 : Option Addr) (n1 n2 c1 c2 : Nat) (xs ys : List Nat) (w : World) (h1 : RN w A1 n1 xs) (h2 : RN w A2 n2 ys) (hn : n1 ≤ 1000000000) (hn2 : n2 ≤ 1000000000) :
    Calls Try.prog 30 #[.slice A1 n1 c1, .slice A2 n2 c2] w fun e w' => e = .returned (.bool (xs == ys)) ∧ ∃ k, w' = w.drewN k := by
  by_cases hl : n1 = n2
  · subst hl
    have H1 := Lib.hid h1
    have H2 := Lib.hid h2
    clear h1 h2
    go_enter Try.func30, Try.ntmps30
    go_wp2
    go_loopw [5] (fun i wl => ∃ j m : Nat, j ≤ n1 ∧ i = .int .i64 j ∧ wl = w.drewN m ∧ Hid (xs.take j = ys.take j)) (fun i _ => n1 - (intOf i).toNat)
    case atStart => exact ⟨0, 0, Nat.zero_le _, rfl, rfl, rfl⟩
    case round =>
      obtain ⟨j, m, hj, rfl, rfl, HE⟩ := hrel
      by_cases hlt : j < n1
      · obtain ⟨b, off, x, rfl, _, hx, _, cx⟩ := H1.out.at_ hlt
        obtain ⟨b', off', y, rfl, _, hy, _, cy⟩ := H2.out.at_ hlt
        have HX : Hid (xs.take (j + 1) = xs.take j ++ [x]) := by unfold Hid; rw [List.take_add_one, hx]; rfl
        have HY : Hid (ys.take (j + 1) = ys.take j ++ [y]) := by unfold Hid; rw [List.take_add_one, hy]; rfl
        clear hx hy
        by_cases he : x = y
        · subst he
          have t : ((x : Int) != (x : Int)) = false := by simp
          have HN : Hid (xs.take (j + 1) = ys.take (j + 1)) := by unfold Hid; rw [HX.out, HY.out, HE.out]
          go_wp2
          go_quiet (fail)
          go_wp2
          go_roundw
          case rel => exact ⟨j + 1, _, by omega, by go_num, rfl, HN⟩
          case measure => simp [intOf]; omega
        · have t : ((x : Int) != (y : Int)) = true := by simp; omega
          have HN : Hid ((xs == ys) = false) := by
            unfold Hid
            rw [beq_eq_false_iff_ne]
            intro e
            have := HX.out
            rw [e, HY.out] at this
            have h9 := List.append_cancel_left this
            simp at h9
            exact he h9.symm
          clear he
          go_wp2
          go_quiet (fail)
          go_wp2
          go_ret
          exact ⟨by rw [HN.out]; rfl, m + nq, by simp [World.drewN, Nat.add_assoc]⟩
      · obtain rfl : j = n1 := by omega
        have HN : Hid ((xs == ys) = true) := by
          have h9 := HE.out
          rw [List.take_of_length_le (by rw [H1.out.len]; exact Nat.le_refl _), List.take_of_length_le (by rw [H2.out.len]; exact Nat.le_refl _)] at h9
          unfold Hid
          rw [h9]; simp
        go_wp2
        go_ret
        exact ⟨by rw [HN.out]; rfl, _, rfl⟩
  · have HN : Hid ((xs == ys) = false) := by
      unfold Hid
      rw [beq_eq_false_iff_ne]
      intro e
      have h3 := h1.len
      rw [e, h2.len] at h3
      omega
    have t : ((n1 : Int) != (n2 : Int)) = true := by simp; omega
    clear h1 h2 hl
    go_enter Try.func30, Try.ntmps30
    go_wp2
    go_ret
    exact ⟨by rw [HN.out]; rfl, 0, rfl⟩
end Go.Proofs.Ytamkbedbkjndgaa
