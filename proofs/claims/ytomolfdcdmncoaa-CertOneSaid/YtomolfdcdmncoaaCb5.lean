/-
  der: PutOid, the code's and the document's; the same arcs?
-/
import Derived.Test.YtomolfdcdmncoaaCb4
import Derived.Deep.RegionHeld3
import Derived.Deep.QuietTactic
import Derived.BigQuiet
namespace Go.Proofs.Ytomolfdcdmncoaa
open Go.RowKit Go
set_option linter.unusedVariables false
set_option maxRecDepth 100000
/-- A slice of n numbers reads as xs. -/
structure RN (w : World) (A : Option Addr) (n : Nat) (xs : List Nat) : Prop where
  len : xs.length = n
  reads : ReadR w A (xs.map u64v)
  lt : ∀ (j x : Nat), xs[j]? = some x → x < 18446744073709551616
theorem RN.below {w w' : World} {A : Option Addr} {n : Nat} {xs : List Nat} (h : RN w A n xs) {B : Nat} (hb : Below B w w') (hB : w.heap.size ≤ B) : RN w' A n xs := ⟨h.len, h.reads.below hb hB, h.lt⟩
theorem RN.drewN {w : World} {A : Option Addr} {n : Nat} {xs : List Nat} (h : RN w A n xs) (k : Nat) : RN (w.drewN k) A n xs := ⟨h.len, h.reads, h.lt⟩
theorem RN.at_ {w : World} {A : Option Addr} {n : Nat} {xs : List Nat} (h : RN w A n xs) {j : Nat} (hj : j < n) : ∃ b off x, A = some ⟨b, off, none⟩ ∧ b < w.heap.size ∧ xs[j]? = some x ∧ x < 18446744073709551616 ∧ w.cell? ⟨b, off + j, none⟩ = some (.int .u64 (x : Int)) := by
  have hj2 : j < xs.length := by rw [h.len]; exact hj
  obtain ⟨b, off, e, hb, hc⟩ := h.reads.at_ (j := j) (u := u64v xs[j]) (by rw [List.getElem?_map, List.getElem?_eq_getElem hj2]; rfl)
  exact ⟨b, off, xs[j], e, hb, List.getElem?_eq_getElem hj2, h.lt j _ (List.getElem?_eq_getElem hj2), hc⟩
theorem RN.drop {w : World} {A : Option Addr} {n k : Nat} {xs : List Nat} (h : RN w A n xs) : RN w (A.map (·.add k)) (n - k) (xs.drop k) :=
  ⟨by rw [List.length_drop, h.len], by rw [List.map_drop]; exact h.reads.drop_ k, fun j x hx => h.lt (k + j) x (by rw [List.getElem?_drop] at hx; exact hx)⟩
/-- The body of an object identifier; nothing, if arcs are none. -/
def putoidQ : List Nat → List UInt8
  | a :: b :: r => if 2 < a ∨ (a < 2 ∧ 39 < b) ∨ 18446744073709551535 < b then [] else sev (40 * a + b) ++ r.flatMap sev
  | _ => []
theorem flat_len (r : List Nat) (h : ∀ (j x : Nat), r[j]? = some x → x < 18446744073709551616) : (r.flatMap sev).length ≤ 10 * r.length := by
  induction r with
  | nil => simp
  | cons x r ih =>
    have h0 := sev_len x (h 0 x rfl)
    have h1 := ih (fun j y hy => h (j + 1) y hy)
    simp only [List.flatMap_cons, List.length_append, List.length_cons]
    omega
theorem flat_snoc (r : List Nat) (k x : Nat) (h : r[k]? = some x) : (r.take (k + 1)).flatMap sev = (r.take k).flatMap sev ++ sev x := by
  rw [List.take_add_one, h, List.flatMap_append]; simp
theorem Fresh.nil (w w' : World) (h : Below w.heap.size w w') : Fresh w [] (.returned (.slice none 0 0)) w' := ⟨none, 0, 0, rfl, OwnB.nil _ _, h⟩
theorem rputoid_s (A : Option Addr) (n c : Nat) (xs : List Nat) (w : World) (hl : xs.length = n) (h2 : n < 2) :
    Calls Try.prog 31 #[.slice A n c] w (Fresh w (putoidQ xs)) := by
  have e : putoidQ xs = [] := by
    match xs, hl with
    | [], _ => rfl
    | [_], _ => rfl
    | _ :: _ :: _, hl => simp at hl; omega
  rw [e]
  clear e hl
  go_enter Try.func31, Try.ntmps31
  go_wp2
  go_ret
  exact Fresh.nil w w (Below.refl _ _)
theorem rputoid_bad (b off n c x y : Nat) (w : World) (h2 : 2 ≤ n) (hn : n ≤ 1000000) (c0 : w.cell? ⟨b, off, none⟩ = some (.int .u64 (x : Int))) (c1 : w.cell? ⟨b, off + 1, none⟩ = some (.int .u64 (y : Int))) (hbad : 2 < x ∨ (x < 2 ∧ 39 < y) ∨ 18446744073709551535 < y) :
    Calls Try.prog 31 #[.slice (some ⟨b, off, none⟩) n c] w (Fresh w []) := by
  have i0 : 0 < n := by omega
  by_cases b1 : 2 < x
  · have t1 : (2 : Int) < (x : Int) := by omega
    clear hbad
    go_enter Try.func31, Try.ntmps31
    go_wp2
    go_ret
    exact Fresh.nil w w (Below.refl _ _)
  by_cases b2 : x < 2
  · have t2 : (x : Int) < 2 := by omega
    by_cases b3 : 39 < y
    · have t3 : (39 : Int) < (y : Int) := by omega
      clear hbad b1
      go_enter Try.func31, Try.ntmps31
      go_wp2
      go_ret
      exact Fresh.nil w w (Below.refl _ _)
    · omega
  · have t2 : (2 : Int) ≤ (x : Int) := by omega
    have t1 : (x : Int) ≤ 2 := by omega
    have t4 : (18446744073709551535 : Int) < (y : Int) := by omega
    clear hbad b1 b2
    go_enter Try.func31, Try.ntmps31
    go_wp2
    go_ret
    exact Fresh.nil w w (Below.refl _ _)
set_option maxHeartbeats 1000000 in
theorem rputoid_go (b off n c x y : Nat) (r : List Nat) (w : World) (hR : RN w (some ⟨b, off, none⟩) n (x :: y :: r)) (hnc : n ≤ c) (h2 : 2 ≤ n) (hn : n ≤ 1000000) (hc : c ≤ 9223372036854775807) (c0 : w.cell? ⟨b, off, none⟩ = some (.int .u64 (x : Int))) (c1 : w.cell? ⟨b, off + 1, none⟩ = some (.int .u64 (y : Int)))
    (hx : x ≤ 2) (hy : y ≤ 18446744073709551535) (hxy : x < 2 → y ≤ 39) :
    Calls Try.prog 31 #[.slice (some ⟨b, off, none⟩) n c] w (Fresh w (sev (40 * x + y) ++ r.flatMap sev)) := by
  have i0 : 0 < n := by omega
  have i2 : (2 : Int) ≤ (n : Int) := by omega
  have i3 : (n : Int) ≤ (c : Int) := by omega
  have t1 : (x : Int) ≤ 2 := by omega
  have t4 : (y : Int) ≤ 18446744073709551535 := by omega
  have HLr : Hid (r.length = n - 2) := by have := hR.len; simp only [List.length_cons] at this; unfold Hid; omega
  have HFl := Lib.hid (flat_len r (fun j z hz => hR.lt (j + 2) z hz))
  have S1 := Lib.hid (sev_len (40 * x + y) (by omega))
  have HR := Lib.hid hR
  clear hR
  have P0 : Hid (∀ W, Calls Try.prog 43 #[.int .u64 (40 * (x : Int) + (y : Int))] W (Fresh W (sev (40 * x + y)))) := fun W => by
    have := sevens_any (40 * x + y) (by omega) W
    rw [show ((40 * x + y : Nat) : Int) = 40 * (x : Int) + (y : Int) from by omega] at this
    exact this
  have hbb := World.block_lt_of_cell? w _ c0
  have m1 : IntKind.u64.wrap (40 * (x : Int)) = 40 * (x : Int) := by rw [IntKind.wrap_u64]; omega
  have m2 : IntKind.u64.wrap (40 * (x : Int) + (y : Int)) = 40 * (x : Int) + (y : Int) := by rw [IntKind.wrap_u64]; omega
  by_cases b2 : x < 2
  · have t2 : (x : Int) < 2 := by omega
    have t3 : (y : Int) ≤ 39 := by omega
    clear hxy b2
    go_enter Try.func31, Try.ntmps31
    go_wp2
    go_region_held3 (fun W => W.cell? ⟨b, off, none⟩ = some (.int .u64 (x : Int)) ∧ W.cell? ⟨b, off + 1, none⟩ = some (.int .u64 (y : Int))) (go_keep) (first | (go_at_call 43; (with_reducible refine (P0.out _).mono ?_); rintro e w2 ⟨A2, n2, c2, rfl, hown, hb⟩; have hk0 : w2.cell? ⟨b, off, none⟩ = some (.int .u64 (x : Int)) := (hb.cell (p := ⟨b, off, none⟩) hbb).trans c0; have hk1 : w2.cell? ⟨b, off + 1, none⟩ = some (.int .u64 (y : Int)) := (hb.cell (p := ⟨b, off + 1, none⟩) hbb).trans c1))
    have hbl0 : Below w.heap.size w w2 := ⟨hb.os, hb.tape, hb.output, hb.size, hb.block⟩
    have hown : OwnB w2 w.heap.size A2 n2 c2 (sev (40 * x + y)) := hown
    clear hb hk0 hk1 m1 m2
    go_wp2
    go_loopw [3, 4] (fun v i wl => ∃ j : Nat, j ≤ n - 2 ∧ ∃ (A3 : Option Addr) (n3 c3 : Nat), i = .int .i64 ((j : Int) + 2) ∧ v = .slice A3 n3 c3 ∧ OwnB wl w.heap.size A3 n3 c3 (sev (40 * x + y) ++ (r.take j).flatMap sev) ∧ Below w.heap.size w wl) (fun _ i _ => n - (intOf i).toNat)
    case atStart => exact ⟨0, by omega, _, _, _, rfl, rfl, by simpa using hown, hbl0⟩
    case round =>
      obtain ⟨j, hj, A3, n3, c3, rfl, rfl, hown3, hbl⟩ := hrel
      clear hown hbl0
      have hl3 := hown3.len
      have hf3 := HFl.out
      have hs3 := S1.out
      have hr3 := HLr.out
      have hsub : ((r.take j).flatMap sev).length ≤ 10 * j := by
        have := flat_len (r.take j) (fun i z hz => by
          have h9 : r[i]? = some z := by
            rw [List.getElem?_take] at hz
            split at hz
            · exact hz
            · cases hz
          exact HR.out.lt (i + 2) z h9)
        have h8 := List.length_take_le j r
        omega
      rw [List.length_append] at hl3
      have hn3 : n3 ≤ 10 + 10 * j := by omega
      clear hl3 hf3 hs3 hr3 hsub
      have hsz := hbl.size
      by_cases hlt : j < n - 2
      · obtain ⟨b', off', z, e', _, hz, hz64, hcz⟩ := HR.out.at_ (j := j + 2) (by omega)
        cases e'
        have hzr : Hid (r[j]? = some z) := hz
        have hcz : wr.cell? ⟨b, off + (j + 2), none⟩ = some (.int .u64 (z : Int)) := by
          have h9 := (hbl.cell (p := ⟨b, off + (j + 2), none⟩) hbb).trans hcz
          skip
          exact h9
        clear hz
        have PZ := Lib.hid (sevens_any z hz64 wr)
        have HS := Lib.hid (flat_snoc r j z hzr.out)
        have SZ := Lib.hid (sev_len z hz64)
        have hlt2 : (j : Int) + 2 < (n : Int) := by omega
        skip
        go_wp2_with (first | (go_at_call 43; (with_reducible refine PZ.out.mono ?_); rintro e w4 ⟨A4, n4, c4, rfl, hown4, hb4⟩; have hk3 := (hown3.below hb4 (Nat.le_refl _)); have hl4 : n4 ≤ 10 := by rw [← hown4.len]; exact SZ.out) | (at_builtin; refine wpList_apn _ _ rfl rfl rfl w.heap.size A3 n3 c3 _ rfl hk3 A4 n4 c4 (sev z) rfl hown4.rb (by omega) (by have := hb4.size; omega) ?_))
        intro A5 c5 w5 hown5 hg5
        have hbl5 : Below w.heap.size w w5 := (hbl.trans (hb4.mono hsz)).grown hg5 (by have := hb4.size; omega) (fun g hg => (hk3.blk_lt hg).1)
        go_wp2
        go_roundw
        case rel => exact ⟨j + 1, by omega, A5, _, c5, by congr 1, rfl, by rw [HS.out]; exact hown5, hbl5⟩
        case measure => simp [intOf]; omega
      · have HE : Hid (r.take j = r) := List.take_of_length_le (by rw [HLr.out]; omega)
        have hlt2 : (n : Int) ≤ (j : Int) + 2 := by omega
        go_wp2
        go_ret
        rw [HE.out] at hown3
        exact ⟨A3, n3, c3, rfl, hown3, hbl⟩
  · have t2 : (2 : Int) ≤ (x : Int) := by omega
    clear hxy b2
    go_enter Try.func31, Try.ntmps31
    go_wp2
    go_region_held3 (fun W => W.cell? ⟨b, off, none⟩ = some (.int .u64 (x : Int)) ∧ W.cell? ⟨b, off + 1, none⟩ = some (.int .u64 (y : Int))) (go_keep) (first | (go_at_call 43; (with_reducible refine (P0.out _).mono ?_); rintro e w2 ⟨A2, n2, c2, rfl, hown, hb⟩; have hk0 : w2.cell? ⟨b, off, none⟩ = some (.int .u64 (x : Int)) := (hb.cell (p := ⟨b, off, none⟩) hbb).trans c0; have hk1 : w2.cell? ⟨b, off + 1, none⟩ = some (.int .u64 (y : Int)) := (hb.cell (p := ⟨b, off + 1, none⟩) hbb).trans c1))
    have hbl0 : Below w.heap.size w w2 := ⟨hb.os, hb.tape, hb.output, hb.size, hb.block⟩
    have hown : OwnB w2 w.heap.size A2 n2 c2 (sev (40 * x + y)) := hown
    clear hb hk0 hk1 m1 m2
    go_wp2
    go_loopw [3, 4] (fun v i wl => ∃ j : Nat, j ≤ n - 2 ∧ ∃ (A3 : Option Addr) (n3 c3 : Nat), i = .int .i64 ((j : Int) + 2) ∧ v = .slice A3 n3 c3 ∧ OwnB wl w.heap.size A3 n3 c3 (sev (40 * x + y) ++ (r.take j).flatMap sev) ∧ Below w.heap.size w wl) (fun _ i _ => n - (intOf i).toNat)
    case atStart => exact ⟨0, by omega, _, _, _, rfl, rfl, by simpa using hown, hbl0⟩
    case round =>
      obtain ⟨j, hj, A3, n3, c3, rfl, rfl, hown3, hbl⟩ := hrel
      clear hown hbl0
      have hl3 := hown3.len
      have hf3 := HFl.out
      have hs3 := S1.out
      have hr3 := HLr.out
      have hsub : ((r.take j).flatMap sev).length ≤ 10 * j := by
        have := flat_len (r.take j) (fun i z hz => by
          have h9 : r[i]? = some z := by
            rw [List.getElem?_take] at hz
            split at hz
            · exact hz
            · cases hz
          exact HR.out.lt (i + 2) z h9)
        have h8 := List.length_take_le j r
        omega
      rw [List.length_append] at hl3
      have hn3 : n3 ≤ 10 + 10 * j := by omega
      clear hl3 hf3 hs3 hr3 hsub
      have hsz := hbl.size
      by_cases hlt : j < n - 2
      · obtain ⟨b', off', z, e', _, hz, hz64, hcz⟩ := HR.out.at_ (j := j + 2) (by omega)
        cases e'
        have hzr : Hid (r[j]? = some z) := hz
        have hcz : wr.cell? ⟨b, off + (j + 2), none⟩ = some (.int .u64 (z : Int)) := by
          have h9 := (hbl.cell (p := ⟨b, off + (j + 2), none⟩) hbb).trans hcz
          skip
          exact h9
        clear hz
        have PZ := Lib.hid (sevens_any z hz64 wr)
        have HS := Lib.hid (flat_snoc r j z hzr.out)
        have SZ := Lib.hid (sev_len z hz64)
        have hlt2 : (j : Int) + 2 < (n : Int) := by omega
        skip
        go_wp2_with (first | (go_at_call 43; (with_reducible refine PZ.out.mono ?_); rintro e w4 ⟨A4, n4, c4, rfl, hown4, hb4⟩; have hk3 := (hown3.below hb4 (Nat.le_refl _)); have hl4 : n4 ≤ 10 := by rw [← hown4.len]; exact SZ.out) | (at_builtin; refine wpList_apn _ _ rfl rfl rfl w.heap.size A3 n3 c3 _ rfl hk3 A4 n4 c4 (sev z) rfl hown4.rb (by omega) (by have := hb4.size; omega) ?_))
        intro A5 c5 w5 hown5 hg5
        have hbl5 : Below w.heap.size w w5 := (hbl.trans (hb4.mono hsz)).grown hg5 (by have := hb4.size; omega) (fun g hg => (hk3.blk_lt hg).1)
        go_wp2
        go_roundw
        case rel => exact ⟨j + 1, by omega, A5, _, c5, by congr 1, rfl, by rw [HS.out]; exact hown5, hbl5⟩
        case measure => simp [intOf]; omega
      · have HE : Hid (r.take j = r) := List.take_of_length_le (by rw [HLr.out]; omega)
        have hlt2 : (n : Int) ≤ (j : Int) + 2 := by omega
        go_wp2
        go_ret
        rw [HE.out] at hown3
        exact ⟨A3, n3, c3, rfl, hown3, hbl⟩
theorem rputoid_any (A : Option Addr) (n c : Nat) (xs : List Nat) (w : World) (hR : RN w A n xs) (hnc : n ≤ c) (hn : n ≤ 1000000) (hc : c ≤ 9223372036854775807) :
    Calls Try.prog 31 #[.slice A n c] w (Fresh w (putoidQ xs)) := by
  by_cases h2 : n < 2
  · exact rputoid_s A n c xs w hR.len h2
  obtain ⟨b, off, x, rfl, _, hx, hx64, c0⟩ := hR.at_ (j := 0) (by omega)
  obtain ⟨b', off', y, e', _, hy, hy64, c1⟩ := hR.at_ (j := 1) (by omega)
  cases e'
  have c0 : w.cell? ⟨b, off, none⟩ = some (.int .u64 (x : Int)) := c0
  obtain ⟨r, rfl⟩ : ∃ r, xs = x :: y :: r := by
    match xs, hx, hy with
    | p :: q :: r, hx, hy =>
      simp at hx hy
      subst hx; subst hy
      exact ⟨r, rfl⟩
  by_cases hbad : 2 < x ∨ (x < 2 ∧ 39 < y) ∨ 18446744073709551535 < y
  · have e : putoidQ (x :: y :: r) = [] := by simp only [putoidQ]; rw [if_pos hbad]
    rw [e]
    exact rputoid_bad b off n c x y w (by omega) hn c0 c1 hbad
  · have e : putoidQ (x :: y :: r) = sev (40 * x + y) ++ r.flatMap sev := by simp only [putoidQ]; rw [if_neg hbad]
    rw [e]
    exact rputoid_go b off n c x y r w hR hnc (by omega) hn hc c0 c1 (by omega) (by omega) (by omega)
end Go.Proofs.Ytomolfdcdmncoaa
namespace Go.Proofs.Ytomolfdcdmncoaa
open Go.RowKit Go
set_option linter.unusedVariables false
set_option maxRecDepth 100000
def NumsPost (w : World) (bs : List UInt8) (e : Ending) (w' : World) : Prop :=
  (match numsQ bs with
    | some (x :: r) => ∃ A n c, e = .returned (.tuple #[.slice A n c, .bool true]) ∧ OwnR w' w.heap.size 26 1 A n c ((x :: r).map u64v)
    | _ => ∃ A c, e = .returned (.tuple #[.slice A 0 c, .bool false])) ∧ Below w.heap.size w w'
theorem nums_no {w w' : World} {bs : List UInt8} {A : Option Addr} {c : Nat} (h : numsQ bs = none ∨ numsQ bs = some []) (hb : Below w.heap.size w w') : NumsPost w bs (.returned (.tuple #[.slice A 0 c, .bool false])) w' := by
  unfold NumsPost; rcases h with h | h <;> (rw [h]; exact ⟨⟨A, c, rfl⟩, hb⟩)
theorem nums_yes {w w' : World} {bs : List UInt8} {x : Nat} {r : List Nat} {A : Option Addr} {n c : Nat} (h : numsQ bs = some (x :: r)) (ho : OwnR w' w.heap.size 26 1 A n c ((x :: r).map u64v)) (hb : Below w.heap.size w w') : NumsPost w bs (.returned (.tuple #[.slice A n c, .bool true])) w' := by
  unfold NumsPost; rw [h]; exact ⟨⟨A, n, c, rfl, ho⟩, hb⟩
theorem drop_cons {α : Type} {l : List α} {m : Nat} {d : α} (h : l[m]? = some d) : l.drop m = d :: l.drop (m + 1) := by
  have hm : m < l.length := (List.getElem?_eq_some_iff.1 h).1
  have h2 := (List.getElem?_eq_some_iff.1 h).2
  rw [List.drop_eq_getElem_cons hm, h2]
theorem numsQ_lt : ∀ (k : Nat) (bs : List UInt8) (l : List Nat), bs.length ≤ k → numsQ bs = some l → ∀ x ∈ l, x < 18446744073709551616
  | 0, bs, l, hk, h => by
    obtain rfl : bs = [] := List.length_eq_zero_iff.1 (by omega)
    rw [numsQ_nil] at h
    cases h
    intro x hx; cases hx
  | k + 1, bs, l, hk, h => by
    by_cases hn : bs = []
    · subst hn
      rw [numsQ_nil] at h
      cases h
      intro x hx; cases hx
    cases hq : numQ bs with
    | none => rw [numsQ_none hn hq] at h; cases h
    | some p =>
      obtain ⟨x, n⟩ := p
      rw [numsQ_some hq] at h
      obtain ⟨l', h1, rfl⟩ := Option.map_eq_some_iff.1 h
      have hle := numQ_le hq
      have ih := numsQ_lt k (bs.drop n) l' (by rw [List.length_drop]; omega) h1
      intro y hy
      rcases List.mem_cons.1 hy with rfl | hy
      · exact numQ_lt hq
      · exact ih y hy
theorem numsQ_len : ∀ (k : Nat) (bs : List UInt8) (l : List Nat), bs.length ≤ k → numsQ bs = some l → l.length ≤ bs.length
  | 0, bs, l, hk, h => by
    obtain rfl : bs = [] := List.length_eq_zero_iff.1 (by omega)
    rw [numsQ_nil] at h
    cases h
    simp
  | k + 1, bs, l, hk, h => by
    by_cases hn : bs = []
    · subst hn
      rw [numsQ_nil] at h
      cases h
      simp
    cases hq : numQ bs with
    | none => rw [numsQ_none hn hq] at h; cases h
    | some p =>
      obtain ⟨x, n⟩ := p
      rw [numsQ_some hq] at h
      obtain ⟨l', h1, rfl⟩ := Option.map_eq_some_iff.1 h
      have hle := numQ_le hq
      have ih := numsQ_len k (bs.drop n) l' (by rw [List.length_drop]; omega) h1
      rw [List.length_drop] at ih
      simp; omega
end Go.Proofs.Ytomolfdcdmncoaa
