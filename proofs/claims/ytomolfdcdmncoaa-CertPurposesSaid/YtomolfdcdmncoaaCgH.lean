/-
  cert: identifiers of any number of arcs that memory bears; numbers that came in, within the form's reach.
-/
import Derived.Test.YtomolfdcdmncoaaCfQ
import Derived.Test.YtomolfdcdmncoaaNs
import Derived.Deep.DeepAppendWide
import Derived.Deep.Matrix
namespace Go.Proofs.Ytomolfdcdmncoaa
open Go.RowKit Go
set_option linter.unusedVariables false
set_option linter.unusedSimpArgs false
set_option maxRecDepth 100000
section
variable (w : World)

/-- APPENDING BYTES to bytes that the call owns: the source may be nil, empty, or anything that reads as bytes. -/
theorem run_appW (base : Nat) (A0 : Option Addr) (n0 c0 : Nat) (bs : List UInt8) (hown : OwnB w base A0 n0 c0 bs)
    (B : Nat) (A : Option Addr) (c : Nat) (news : List UInt8) (hr : Bs w B A news) (hlim : (bs.length + news.length) + (bs.length + news.length) / 4 + 192 ≤ 281474976710656) (hbase : base ≤ w.heap.size) :
    ∃ A' c' w', (Builtin.append_ #[22, 22] 22 #[.slice A0 n0 c0, .slice A news.length c]).run Try.prog w = .ok (.slice A' (n0 + news.length) c') w' ∧
      OwnB w' base A' (n0 + news.length) c' (bs ++ news) ∧ w.grownBy w' (blk A0) := by
  obtain ⟨i, hi, hz0, hz1, hz2⟩ := info_parts u8_info
  have hlen := hown.len
  rcases A with _ | ad
  · have hn : news = [] := by
      rcases news with _ | ⟨q, r⟩
      · rfl
      · obtain ⟨b, off, e, _⟩ := hr (by simp)
        cases e
    subst hn
    refine ⟨A0, c0, w, ?_, by simpa using hown, World.grownBy.refl w _⟩
    rcases hown.2 with ⟨hv, rfl⟩ | ⟨g, cap, cur, hv, _, _, hnc, _⟩
    · injection hv with h1 h2 h3
      subst h1; subst h3
      simp [Builtin.append_, run_underlying Try.underlying22, sizeOf, typeInfo, hi, Builtin.lenOf, Builtin.firstCells]
    · injection hv with h1 h2 h3
      subst h1; subst h3
      simp [Builtin.append_, run_underlying Try.underlying22, sizeOf, typeInfo, hi, Builtin.lenOf, Builtin.firstCells, hnc, storeCells]
  · have hnews : ∀ j u, (news.map bv)[j]? = some u → w.cell? (ad.add j) = some u := by
      intro j u hj
      rcases news with _ | ⟨q, r⟩
      · simp at hj
      · obtain ⟨b, off, e, _, hc⟩ := hr (by simp)
        injection e with e
        subst e
        have hjl : j < (q :: r).length := by
          rcases Nat.lt_or_ge j (q :: r).length with h | h
          · exact h
          · rw [List.getElem?_eq_none (by simpa using h)] at hj; cases hj
        rw [List.getElem?_map, List.getElem?_eq_getElem hjl] at hj
        injection hj with hj
        have hadd : (⟨b, off, none⟩ : Addr).add j = ⟨b, off + j, none⟩ := by unfold Addr.add; split <;> simp_all
        rw [hadd, hc j hjl, ← hj]
    obtain ⟨v', w', hrun, h2, h3, _⟩ := run_append_own_wide (P := Try.prog) w base 22 22 5 i (.int .u8 0) 1 1 Try.underlying22 hi hz0 hz1 hz2 rfl (by decide) (.slice A0 n0 c0) n0 (bs.map bv) hown ad news.length c (news.map bv)
      (by simp) hnews (by intro u hu; simp at hu; obtain ⟨q, _, rfl⟩ := hu; rfl) (by unfold maxLen; omega) (by omega) hbase
    rw [blk_own] at h3
    rcases h2.2 with ⟨rfl, hn0⟩ | ⟨g, cap, cur, rfl, hg⟩
    · refine ⟨none, 0, w', by rw [hrun, hn0], ?_, h3⟩
      unfold OwnB
      rw [List.map_append]
      rw [hn0] at h2 ⊢
      exact h2
    · refine ⟨some ⟨g, 0, none⟩, cap, w', hrun, ?_, h3⟩
      unfold OwnB
      rw [List.map_append]
      exact h2
end

section
variable {w : World} {ops : Array Oper} {rest : List Oper} {o : Oper} {a : Act} {Q : Exit → Act → World → Prop}
theorem wpList_appW (s x : Operand) (ho : o.op = .call { callee := .builtin .append, args := #[s, x], argTypes := #[22, 22] }) (hgd : o.guard = none) (hty : o.type = 22)
    (base : Nat) (A0 : Option Addr) (n0 c0 : Nat) (bs : List UInt8) (hs : a.eval s = .slice A0 n0 c0) (hown : OwnB w base A0 n0 c0 bs)
    (B : Nat) (A : Option Addr) (c : Nat) (news : List UInt8) (hx : a.eval x = .slice A news.length c) (hr : Bs w B A news) (hlim : (bs.length + news.length) + (bs.length + news.length) / 4 + 192 ≤ 281474976710656) (hbase : base ≤ w.heap.size)
    (h : ∀ A' c' w', OwnB w' base A' (n0 + news.length) c' (bs ++ news) → w.grownBy w' (blk A0) → wpList Try.prog ops Q rest (a.put o.dst (.slice A' (n0 + news.length) c')) w') : wpList Try.prog ops Q (o :: rest) a w := by
  refine wpList_plain hgd fun K hK => ?_
  obtain ⟨A', c', w', hrun, h2, h3⟩ := run_appW w base A0 n0 c0 bs hown B A c news hr hlim hbase
  unfold Oper.wp execOp
  simp only [ho, resolve, invoke, builtin, Sem.run_bind, Sem.run_pure, Result.andThen_ok, List.map_toArray, List.map_cons, List.map_nil, hs, hx, hty, hrun]
  exact hK _ _ (h A' c' w' h2 h3)
/-- The same, the source's length under a name of its own. -/
theorem wpList_apnW (s x : Operand) (ho : o.op = .call { callee := .builtin .append, args := #[s, x], argTypes := #[22, 22] }) (hgd : o.guard = none) (hty : o.type = 22)
    (base : Nat) (A0 : Option Addr) (n0 c0 : Nat) (bs : List UInt8) (hs : a.eval s = .slice A0 n0 c0) (hown : OwnB w base A0 n0 c0 bs)
    (A : Option Addr) (m c : Nat) (news : List UInt8) (hx : a.eval x = .slice A m c) (hr : RB w A m news) (hlim : (n0 + m) + (n0 + m) / 4 + 192 ≤ 281474976710656) (hbase : base ≤ w.heap.size)
    (h : ∀ A' c' w', OwnB w' base A' (n0 + m) c' (bs ++ news) → w.grownBy w' (blk A0) → wpList Try.prog ops Q rest (a.put o.dst (.slice A' (n0 + m) c')) w') : wpList Try.prog ops Q (o :: rest) a w := by
  obtain ⟨rfl, hb⟩ := hr
  exact wpList_appW s x ho hgd hty base A0 n0 c0 bs hs hown _ A c news hx hb (by rw [hown.len]; exact hlim) hbase h
end

theorem rputoid_badW (b off n c x y : Nat) (w : World) (h2 : 2 ≤ n) (hn : n ≤ 17592186044416) (c0 : w.cell? ⟨b, off, none⟩ = some (.int .u64 (x : Int))) (c1 : w.cell? ⟨b, off + 1, none⟩ = some (.int .u64 (y : Int))) (hbad : 2 < x ∨ (x < 2 ∧ 39 < y) ∨ 18446744073709551535 < y) :
    Calls Try.prog 31 #[.slice (some ⟨b, off, none⟩) n c] w (Fresh w []) := by
  have i0 : 0 < n := by omega
  by_cases b1 : 2 < x
  · have t1 : (2 : Int) < (x : Int) := by omega
    clear hbad
    go_enter Try.func31, Try.ntmps31
    go_wp2
    go_ret
    exact Fresh.nil w w (Below.refl _ _)
  by_cases b2 : x < 2
  · have t2 : (x : Int) < 2 := by omega
    by_cases b3 : 39 < y
    · have t3 : (39 : Int) < (y : Int) := by omega
      clear hbad b1
      go_enter Try.func31, Try.ntmps31
      go_wp2
      go_ret
      exact Fresh.nil w w (Below.refl _ _)
    · omega
  · have t2 : (2 : Int) ≤ (x : Int) := by omega
    have t1 : (x : Int) ≤ 2 := by omega
    have t4 : (18446744073709551535 : Int) < (y : Int) := by omega
    clear hbad b1 b2
    go_enter Try.func31, Try.ntmps31
    go_wp2
    go_ret
    exact Fresh.nil w w (Below.refl _ _)

set_option maxHeartbeats 4000000 in
theorem rputoid_goW (b off n c x y : Nat) (r : List Nat) (w : World) (hR : RN w (some ⟨b, off, none⟩) n (x :: y :: r)) (hnc : n ≤ c) (h2 : 2 ≤ n) (hn : n ≤ 17592186044416) (hc : c ≤ 9223372036854775807) (c0 : w.cell? ⟨b, off, none⟩ = some (.int .u64 (x : Int))) (c1 : w.cell? ⟨b, off + 1, none⟩ = some (.int .u64 (y : Int)))
    (hx : x ≤ 2) (hy : y ≤ 18446744073709551535) (hxy : x < 2 → y ≤ 39) :
    Calls Try.prog 31 #[.slice (some ⟨b, off, none⟩) n c] w (Fresh w (sev (40 * x + y) ++ r.flatMap sev)) := by
  have i0 : 0 < n := by omega
  have i2 : (2 : Int) ≤ (n : Int) := by omega
  have i3 : (n : Int) ≤ (c : Int) := by omega
  have t1 : (x : Int) ≤ 2 := by omega
  have t4 : (y : Int) ≤ 18446744073709551535 := by omega
  have HLr : Hid (r.length = n - 2) := by have := hR.len; simp only [List.length_cons] at this; unfold Hid; omega
  have HFl := Lib.hid (flat_len r (fun j z hz => hR.lt (j + 2) z hz))
  have S1 := Lib.hid (sev_len (40 * x + y) (by omega))
  have HR := Lib.hid hR
  clear hR
  have P0 : Hid (∀ W, Calls Try.prog 43 #[.int .u64 (40 * (x : Int) + (y : Int))] W (Fresh W (sev (40 * x + y)))) := fun W => by
    have := sevens_any (40 * x + y) (by omega) W
    rw [show ((40 * x + y : Nat) : Int) = 40 * (x : Int) + (y : Int) from by omega] at this
    exact this
  have hbb := World.block_lt_of_cell? w _ c0
  have m1 : IntKind.u64.wrap (40 * (x : Int)) = 40 * (x : Int) := by rw [IntKind.wrap_u64]; omega
  have m2 : IntKind.u64.wrap (40 * (x : Int) + (y : Int)) = 40 * (x : Int) + (y : Int) := by rw [IntKind.wrap_u64]; omega
  by_cases b2 : x < 2
  · have t2 : (x : Int) < 2 := by omega
    have t3 : (y : Int) ≤ 39 := by omega
    clear hxy b2
    go_enter Try.func31, Try.ntmps31
    go_wp2
    go_region_held3 (fun W => W.cell? ⟨b, off, none⟩ = some (.int .u64 (x : Int)) ∧ W.cell? ⟨b, off + 1, none⟩ = some (.int .u64 (y : Int))) (go_keep) (first | (go_at_call 43; (with_reducible refine (P0.out _).mono ?_); rintro e w2 ⟨A2, n2, c2, rfl, hown, hb⟩; have hk0 : w2.cell? ⟨b, off, none⟩ = some (.int .u64 (x : Int)) := (hb.cell (p := ⟨b, off, none⟩) hbb).trans c0; have hk1 : w2.cell? ⟨b, off + 1, none⟩ = some (.int .u64 (y : Int)) := (hb.cell (p := ⟨b, off + 1, none⟩) hbb).trans c1))
    have hbl0 : Below w.heap.size w w2 := ⟨hb.os, hb.tape, hb.output, hb.size, hb.block⟩
    have hown : OwnB w2 w.heap.size A2 n2 c2 (sev (40 * x + y)) := hown
    clear hb hk0 hk1 m1 m2
    go_wp2
    go_loopw [3, 4] (fun v i wl => ∃ j : Nat, j ≤ n - 2 ∧ ∃ (A3 : Option Addr) (n3 c3 : Nat), i = .int .i64 ((j : Int) + 2) ∧ v = .slice A3 n3 c3 ∧ OwnB wl w.heap.size A3 n3 c3 (sev (40 * x + y) ++ (r.take j).flatMap sev) ∧ Below w.heap.size w wl) (fun _ i _ => n - (intOf i).toNat)
    case atStart => exact ⟨0, by omega, _, _, _, rfl, rfl, by simpa using hown, hbl0⟩
    case round =>
      obtain ⟨j, hj, A3, n3, c3, rfl, rfl, hown3, hbl⟩ := hrel
      clear hown hbl0
      have hl3 := hown3.len
      have hf3 := HFl.out
      have hs3 := S1.out
      have hr3 := HLr.out
      have hsub : ((r.take j).flatMap sev).length ≤ 10 * j := by
        have := flat_len (r.take j) (fun i z hz => by
          have h9 : r[i]? = some z := by
            rw [List.getElem?_take] at hz
            split at hz
            · exact hz
            · cases hz
          exact HR.out.lt (i + 2) z h9)
        have h8 := List.length_take_le j r
        omega
      rw [List.length_append] at hl3
      have hn3 : n3 ≤ 10 + 10 * j := by omega
      clear hl3 hf3 hs3 hr3 hsub
      have hsz := hbl.size
      by_cases hlt : j < n - 2
      · obtain ⟨b', off', z, e', _, hz, hz64, hcz⟩ := HR.out.at_ (j := j + 2) (by omega)
        cases e'
        have hzr : Hid (r[j]? = some z) := hz
        have hcz : wr.cell? ⟨b, off + (j + 2), none⟩ = some (.int .u64 (z : Int)) := by
          have h9 := (hbl.cell (p := ⟨b, off + (j + 2), none⟩) hbb).trans hcz
          skip
          exact h9
        clear hz
        have PZ := Lib.hid (sevens_any z hz64 wr)
        have HS := Lib.hid (flat_snoc r j z hzr.out)
        have SZ := Lib.hid (sev_len z hz64)
        have hlt2 : (j : Int) + 2 < (n : Int) := by omega
        skip
        go_wp2_with (first | (go_at_call 43; (with_reducible refine PZ.out.mono ?_); rintro e w4 ⟨A4, n4, c4, rfl, hown4, hb4⟩; have hk3 := (hown3.below hb4 (Nat.le_refl _)); have hl4 : n4 ≤ 10 := by rw [← hown4.len]; exact SZ.out) | (at_builtin; refine wpList_apnW _ _ rfl rfl rfl w.heap.size A3 n3 c3 _ rfl hk3 A4 n4 c4 (sev z) rfl hown4.rb (by omega) (by have := hb4.size; omega) ?_))
        intro A5 c5 w5 hown5 hg5
        have hbl5 : Below w.heap.size w w5 := (hbl.trans (hb4.mono hsz)).grown hg5 (by have := hb4.size; omega) (fun g hg => (hk3.blk_lt hg).1)
        go_wp2
        go_roundw
        case rel => exact ⟨j + 1, by omega, A5, _, c5, by congr 1, rfl, by rw [HS.out]; exact hown5, hbl5⟩
        case measure => simp [intOf]; omega
      · have HE : Hid (r.take j = r) := List.take_of_length_le (by rw [HLr.out]; omega)
        have hlt2 : (n : Int) ≤ (j : Int) + 2 := by omega
        go_wp2
        go_ret
        rw [HE.out] at hown3
        exact ⟨A3, n3, c3, rfl, hown3, hbl⟩
  · have t2 : (2 : Int) ≤ (x : Int) := by omega
    clear hxy b2
    go_enter Try.func31, Try.ntmps31
    go_wp2
    go_region_held3 (fun W => W.cell? ⟨b, off, none⟩ = some (.int .u64 (x : Int)) ∧ W.cell? ⟨b, off + 1, none⟩ = some (.int .u64 (y : Int))) (go_keep) (first | (go_at_call 43; (with_reducible refine (P0.out _).mono ?_); rintro e w2 ⟨A2, n2, c2, rfl, hown, hb⟩; have hk0 : w2.cell? ⟨b, off, none⟩ = some (.int .u64 (x : Int)) := (hb.cell (p := ⟨b, off, none⟩) hbb).trans c0; have hk1 : w2.cell? ⟨b, off + 1, none⟩ = some (.int .u64 (y : Int)) := (hb.cell (p := ⟨b, off + 1, none⟩) hbb).trans c1))
    have hbl0 : Below w.heap.size w w2 := ⟨hb.os, hb.tape, hb.output, hb.size, hb.block⟩
    have hown : OwnB w2 w.heap.size A2 n2 c2 (sev (40 * x + y)) := hown
    clear hb hk0 hk1 m1 m2
    go_wp2
    go_loopw [3, 4] (fun v i wl => ∃ j : Nat, j ≤ n - 2 ∧ ∃ (A3 : Option Addr) (n3 c3 : Nat), i = .int .i64 ((j : Int) + 2) ∧ v = .slice A3 n3 c3 ∧ OwnB wl w.heap.size A3 n3 c3 (sev (40 * x + y) ++ (r.take j).flatMap sev) ∧ Below w.heap.size w wl) (fun _ i _ => n - (intOf i).toNat)
    case atStart => exact ⟨0, by omega, _, _, _, rfl, rfl, by simpa using hown, hbl0⟩
    case round =>
      obtain ⟨j, hj, A3, n3, c3, rfl, rfl, hown3, hbl⟩ := hrel
      clear hown hbl0
      have hl3 := hown3.len
      have hf3 := HFl.out
      have hs3 := S1.out
      have hr3 := HLr.out
      have hsub : ((r.take j).flatMap sev).length ≤ 10 * j := by
        have := flat_len (r.take j) (fun i z hz => by
          have h9 : r[i]? = some z := by
            rw [List.getElem?_take] at hz
            split at hz
            · exact hz
            · cases hz
          exact HR.out.lt (i + 2) z h9)
        have h8 := List.length_take_le j r
        omega
      rw [List.length_append] at hl3
      have hn3 : n3 ≤ 10 + 10 * j := by omega
      clear hl3 hf3 hs3 hr3 hsub
      have hsz := hbl.size
      by_cases hlt : j < n - 2
      · obtain ⟨b', off', z, e', _, hz, hz64, hcz⟩ := HR.out.at_ (j := j + 2) (by omega)
        cases e'
        have hzr : Hid (r[j]? = some z) := hz
        have hcz : wr.cell? ⟨b, off + (j + 2), none⟩ = some (.int .u64 (z : Int)) := by
          have h9 := (hbl.cell (p := ⟨b, off + (j + 2), none⟩) hbb).trans hcz
          skip
          exact h9
        clear hz
        have PZ := Lib.hid (sevens_any z hz64 wr)
        have HS := Lib.hid (flat_snoc r j z hzr.out)
        have SZ := Lib.hid (sev_len z hz64)
        have hlt2 : (j : Int) + 2 < (n : Int) := by omega
        skip
        go_wp2_with (first | (go_at_call 43; (with_reducible refine PZ.out.mono ?_); rintro e w4 ⟨A4, n4, c4, rfl, hown4, hb4⟩; have hk3 := (hown3.below hb4 (Nat.le_refl _)); have hl4 : n4 ≤ 10 := by rw [← hown4.len]; exact SZ.out) | (at_builtin; refine wpList_apnW _ _ rfl rfl rfl w.heap.size A3 n3 c3 _ rfl hk3 A4 n4 c4 (sev z) rfl hown4.rb (by omega) (by have := hb4.size; omega) ?_))
        intro A5 c5 w5 hown5 hg5
        have hbl5 : Below w.heap.size w w5 := (hbl.trans (hb4.mono hsz)).grown hg5 (by have := hb4.size; omega) (fun g hg => (hk3.blk_lt hg).1)
        go_wp2
        go_roundw
        case rel => exact ⟨j + 1, by omega, A5, _, c5, by congr 1, rfl, by rw [HS.out]; exact hown5, hbl5⟩
        case measure => simp [intOf]; omega
      · have HE : Hid (r.take j = r) := List.take_of_length_le (by rw [HLr.out]; omega)
        have hlt2 : (n : Int) ≤ (j : Int) + 2 := by omega
        go_wp2
        go_ret
        rw [HE.out] at hown3
        exact ⟨A3, n3, c3, rfl, hown3, hbl⟩

theorem rputoid_anyW (A : Option Addr) (n c : Nat) (xs : List Nat) (w : World) (hR : RN w A n xs) (hnc : n ≤ c) (hn : n ≤ 17592186044416) (hc : c ≤ 9223372036854775807) :
    Calls Try.prog 31 #[.slice A n c] w (Fresh w (putoidQ xs)) := by
  by_cases h2 : n < 2
  · exact rputoid_s A n c xs w hR.len h2
  obtain ⟨b, off, x, rfl, _, hx, hx64, c0⟩ := hR.at_ (j := 0) (by omega)
  obtain ⟨b', off', y, e', _, hy, hy64, c1⟩ := hR.at_ (j := 1) (by omega)
  cases e'
  have c0 : w.cell? ⟨b, off, none⟩ = some (.int .u64 (x : Int)) := c0
  obtain ⟨r, rfl⟩ : ∃ r, xs = x :: y :: r := by
    match xs, hx, hy with
    | p :: q :: r, hx, hy =>
      simp at hx hy
      subst hx; subst hy
      exact ⟨r, rfl⟩
  by_cases hbad : 2 < x ∨ (x < 2 ∧ 39 < y) ∨ 18446744073709551535 < y
  · have e : putoidQ (x :: y :: r) = [] := by simp only [putoidQ]; rw [if_pos hbad]
    rw [e]
    exact rputoid_badW b off n c x y w (by omega) hn c0 c1 hbad
  · have e : putoidQ (x :: y :: r) = sev (40 * x + y) ++ r.flatMap sev := by simp only [putoidQ]; rw [if_neg hbad]
    rw [e]
    exact rputoid_goW b off n c x y r w hR hnc (by omega) hn hc c0 c1 (by omega) (by omega) (by omega)

set_option maxHeartbeats 4000000 in
theorem strange_anyW (A : Option Addr) (n c : Nat) (xs : List Nat) (w : World) (hR : RN w A n xs) (hnc : n ≤ c) (hn : n ≤ 17592186044416) (hc : c ≤ 9223372036854775807) :
    Calls Try.prog 23 #[.slice A n c] w (Fresh w (strQ (putoidQ xs))) := by
  have C := Lib.hid (rputoid_anyW A n c xs w hR hnc hn hc)
  clear hR hnc hc
  generalize putoidQ xs = l at *
  go_enter Try.func23, Try.ntmps23
  go_wp2_with fail
  refine C.out.mono ?_
  rintro e w1 ⟨A1, n1, c1, rfl, ho, hb⟩
  have hl := ho.len
  have HO := Lib.hid ho
  have HB := Lib.hid hb
  clear C
  obtain h | h : n1 = 0 ∨ 0 < n1 := by omega
  · have HQ : Hid (strQ l = [42, 3]) := by unfold Hid strQ; rw [if_pos (.inl (by omega))]
    have q1 : ((n1 : Int) == 0) = true := by subst h; rfl
    clear ho hb
    go_wp2
    go_ret
    rw [HQ.out]
    exact ⟨_, _, _, rfl, (own_lit w1 [42, 3] 2 _ rfl rfl (by omega)).lower HB.out.size, kp_alloc HB.out _⟩
  · have q1 : ((n1 : Int) == 0) = false := beq_eq_false_iff_ne.2 (by omega)
    obtain h2 | h2 : 300 < n1 ∨ n1 ≤ 300 := by omega
    · have HQ : Hid (strQ l = [42, 3]) := by unfold Hid strQ; rw [if_pos (.inr (.inl (by omega)))]
      have q2 : (300 : Int) < (n1 : Int) := by omega
      clear ho hb
      go_wp2
      go_ret
      rw [HQ.out]
      exact ⟨_, _, _, rfl, (own_lit w1 [42, 3] 2 _ rfl rfl (by omega)).lower HB.out.size, kp_alloc HB.out _⟩
    · have q2 : ¬ (300 : Int) < (n1 : Int) := by omega
      obtain h3 | h3 : n1 = 3 ∨ n1 ≠ 3 := by omega
      · have q3 : ((n1 : Int) == 3) = true := by subst h3; rfl
        obtain ⟨b, off, rfl, hcs⟩ := rb_at9 ho.rb (by omega)
        have c0 := hcs 0 (by omega)
        have c1' := hcs 1 (by omega)
        rw [Nat.add_zero] at c0
        have HL := Lib.hid (show l.length = 3 by omega)
        have h31 : 1 < n1 := by omega
        have h32 : (1 : Int) < (n1 : Int) := by omega
        have hN1 := Lib.hid h3
        obtain ⟨p, hp⟩ : ∃ p, l.getD 0 0 = p := ⟨_, rfl⟩
        obtain ⟨q, hq⟩ : ∃ q, l.getD 1 0 = q := ⟨_, rfl⟩
        rw [hp] at c0
        rw [hq] at c1'
        have HP := Lib.hid hp
        have HQ1 := Lib.hid hq
        clear ho hb hcs h3 hp hq hl
        obtain g1 | g1 : p.toNat = 85 ∨ p.toNat ≠ 85 := by omega
        · have q4 : ((p.toNat : Int) == 85) = true := by rw [g1]; rfl
          have G1 := Lib.hid g1
          clear g1
          obtain g2 | g2 : q.toNat = 29 ∨ q.toNat ≠ 29 := by omega
          · have q5 : ((q.toNat : Int) == 29) = true := by rw [g2]; rfl
            have HQ : Hid (strQ l = [42, 3]) := by unfold Hid strQ; rw [if_pos (.inr (.inr ⟨HL.out, by rw [HP.out]; exact G1.out, by rw [HQ1.out]; exact g2⟩))]
            clear g2
            go_wp2
            go_ret
            rw [HQ.out]
            exact ⟨_, _, _, rfl, (own_lit w1 [42, 3] 2 _ rfl rfl (by omega)).lower HB.out.size, kp_alloc HB.out _⟩
          · have q5 : ((q.toNat : Int) == 29) = false := beq_eq_false_iff_ne.2 (by omega)
            have HQ : Hid (strQ l = l) := by unfold Hid strQ; rw [if_neg (by rw [HL.out, HP.out, HQ1.out]; omega)]
            clear g2
            go_wp2
            go_ret
            rw [HQ.out]
            exact ⟨_, _, _, rfl, HO.out, HB.out⟩
        · have q4 : ((p.toNat : Int) == 85) = false := beq_eq_false_iff_ne.2 (by omega)
          have HQ : Hid (strQ l = l) := by unfold Hid strQ; rw [if_neg (by rw [HL.out, HP.out]; omega)]
          clear g1
          go_wp2
          go_ret
          rw [HQ.out]
          exact ⟨_, _, _, rfl, HO.out, HB.out⟩
      · have q3 : ((n1 : Int) == 3) = false := beq_eq_false_iff_ne.2 (by omega)
        have HQ : Hid (strQ l = l) := by unfold Hid strQ; rw [if_neg (by omega)]
        clear ho hb
        go_wp2
        go_ret
        rw [HQ.out]
        exact ⟨_, _, _, rfl, HO.out, HB.out⟩

/-! ### numbers that came in -/
structure IsNsR (w : World) (A : Option Addr) (n c : Nat) (xs : List Nat) : Prop where
  rn : RN w A n xs
  le : n ≤ c
  max : c ≤ 17592186044416
theorem IsNsR.below {w w' : World} {A : Option Addr} {n c : Nat} {xs : List Nat} (h : IsNsR w A n c xs) (hb : Below w.heap.size w w') : IsNsR w' A n c xs := ⟨h.rn.below hb (Nat.le_refl _), h.le, h.max⟩
theorem IsNsR.lt {w : World} {A : Option Addr} {n c : Nat} {xs : List Nat} (h : IsNsR w A n c xs) : ∀ x ∈ xs, x < 18446744073709551616 := fun x hx => by
  obtain ⟨j, hj, e⟩ := List.getElem_of_mem hx
  exact h.rn.lt j x (by rw [List.getElem?_eq_getElem hj, e])
theorem strangeR {w : World} {A : Option Addr} {n c : Nat} {xs : List Nat} (h : IsNsR w A n c xs) : Calls Try.prog 23 #[.slice A n c] w (Fresh w (strQ (putoidQ xs))) :=
  strange_anyW A n c xs w h.rn h.le (Nat.le_trans h.le h.max) (Nat.le_trans h.max (by omega))
theorem putoidR {w : World} {A : Option Addr} {n c : Nat} {xs : List Nat} (h : IsNsR w A n c xs) : Calls Try.prog 31 #[.slice A n c] w (Fresh w (putoidQ xs)) :=
  rputoid_anyW A n c xs w h.rn h.le (Nat.le_trans h.le h.max) (Nat.le_trans h.max (by omega))
/-- A list of lists of numbers that came in. -/
structure IsNss (w : World) (A : Option Addr) (n c : Nat) (X : Nat → Option Addr × Nat × Nat) (xss : Nat → List Nat) : Prop where
  le : n ≤ c
  max : c ≤ maxLen
  rows : 0 < n → ∃ b off, A = some ⟨b, off, none⟩ ∧ b < w.heap.size ∧ ∀ r, r < n → w.cell? ⟨b, off + r, none⟩ = some (.slice (X r).1 (X r).2.1 (X r).2.2) ∧ IsNsR w (X r).1 (X r).2.1 (X r).2.2 (xss r)
section
open Go.ChangeShapes Go.WideShapes Go.ChangeAt Go.Deep
theorem wAll_memN {H : Type} {P : Program} {t : TypeId} : ∀ {l : List (DataW H)} {d : DataW H}, d ∈ l → ∀ z ∈ d.weights P t, z ∈ DataW.weightsAll P t l
  | d :: l, _, .head _, z, hz => List.mem_append_left _ hz
  | _ :: l, d, .tail _ h, z, hz => List.mem_append_right _ (wAll_memN h z hz)
theorem ns_trod {H : Type} {enc : TypeId × Value → H} {w : World} {fuel : Nat} {A : Option Addr} {n c : Nat} {d : DataW H} {p : List MemPlace} (hf : DataW.trod enc Try.prog w 0 (fun _ => true) true fuel 52 (Value.slice A n c).cells.toList = some (d, p)) (hz : ∀ z ∈ d.weights Try.prog 52, z ≤ reachBytes) : ∃ xs, IsNsR w A n c xs := by
  obtain ⟨xs, hx⟩ := open_ns Try.underlying52 Try.underlying26 (by kernel_rfl) hf
  refine ⟨xs, hx.rn, hx.le, ?_⟩
  have hb : Try.prog.bytesOf 26 = 8 := by kernel_rfl
  rcases Go.Deep.open_slice Try.underlying52 hf with ⟨hcs, _⟩ | ⟨a, len, cap, m, q, D, Pl, hcs, _, hl, hm, hmm, hx, _⟩
  · simp [Value.cells] at hcs
    obtain ⟨rfl, rfl, rfl⟩ := hcs
    omega
  · simp [Value.cells] at hcs
    obtain ⟨rfl, rfl, rfl⟩ := hcs
    have hmc : m = c := by rw [hmm]; rfl
    injection hx with hd _
    subst hd
    have h9 := hz (((List.range n).map D).length + ((List.range (m - n)).map fun j => D (n + j)).length |> (· * 8)) (by
      simp only [DataW.weights, Try.underlying52, hb]
      exact List.mem_cons_self)
    simp only [List.length_map, List.length_range] at h9
    unfold reachBytes at h9
    omega
theorem open_sR52 {H : Type} {enc : TypeId × Value → H} {w : World} {A : Option Addr} {n c : Nat} {d : DataW H} {p : List MemPlace} (h : DataW.Trod enc Try.prog w 0 (fun _ => true) true 52 (.slice A n c) d p) (hz : (d.weights Try.prog 52).all (· ≤ reachBytes) = true) : ∃ xs, IsNsR w A n c xs := by
  obtain ⟨fuel, hf⟩ := h
  exact ns_trod hf (fun z hzz => of_decide_eq_true (List.all_eq_true.1 hz z hzz))
theorem add_add9 (a : Addr) (i j : Nat) : (a.add i).add j = a.add (i + j) := by
  rcases Nat.eq_zero_or_pos i with rfl | hi
  · unfold Addr.add; simp
  · rcases Nat.eq_zero_or_pos j with rfl | hj
    · unfold Addr.add; simp
    · unfold Addr.add
      rw [if_neg (by omega), if_neg (by omega), if_neg (by omega)]
      simp [Nat.add_assoc]
theorem add_none9 (b off r : Nat) : (⟨b, off, none⟩ : Addr).add r = ⟨b, off + r, none⟩ := by unfold Addr.add; split <;> simp_all
theorem open_sR67 {H : Type} {enc : TypeId × Value → H} {w : World} {A : Option Addr} {n c : Nat} {d : DataW H} {p : List MemPlace} (h : DataW.Trod enc Try.prog w 0 (fun _ => true) true 67 (.slice A n c) d p) (hz : (d.weights Try.prog 67).all (· ≤ reachBytes) = true) : ∃ x : (Nat → Option Addr × Nat × Nat) × (Nat → List Nat), IsNss w A n c x.1 x.2 := by
  obtain ⟨fuel, hf⟩ := h
  have ce : Try.prog.cellsOf 52 = 1 := by kernel_rfl
  rcases open_slice Try.underlying67 hf with ⟨hcs, _⟩ | ⟨a, len, cap, m, q, D, Pl, hcs, _, hl, hm, hmm, hdx, hx⟩
  · simp [Value.cells] at hcs
    obtain ⟨rfl, rfl, rfl⟩ := hcs
    exact ⟨(fun _ => (none, 0, 0), fun _ => []), Nat.le_refl _, Nat.zero_le _, fun h => absurd h (by omega)⟩
  · simp [Value.cells] at hcs
    obtain ⟨rfl, rfl, rfl⟩ := hcs
    have hmc : m = c := by rw [hmm]; rfl
    subst hmc
    rw [ce] at hx
    injection hdx with hd _
    subst hd
    have hzr : ∀ r, r < m → ∀ z ∈ (D r).weights Try.prog 52, z ≤ reachBytes := fun r hr z hzz => by
      refine of_decide_eq_true (List.all_eq_true.1 hz z ?_)
      simp only [DataW.weights, Try.underlying67]
      refine List.mem_cons_of_mem _ ?_
      rcases Nat.lt_or_ge r n with hrn | hrn
      · exact List.mem_append_left _ (wAll_memN (List.mem_map.2 ⟨r, List.mem_range.2 hrn, rfl⟩) z hzz)
      · exact List.mem_append_right _ (wAll_memN (List.mem_map.2 ⟨r - n, List.mem_range.2 (by omega), by rw [show n + (r - n) = r by omega]⟩) z hzz)
    have hrow : ∀ r, r < m → ∃ o : (Option Addr × Nat × Nat) × List Nat, IsNsR w o.1.1 o.1.2.1 o.1.2.2 o.2 ∧ w.cell? (a.add r) = some (.slice o.1.1 o.1.2.1 o.1.2.2) := by
      intro r hr
      obtain ⟨cs', h1, h2⟩ := hx r hr
      obtain ⟨_, hlen, hcell⟩ := World.cells?_some h1
      match cs', hlen with
      | [v], _ =>
        obtain ⟨A', n', k', rfl⟩ := slice_ofN h2
        obtain ⟨xs, hxs⟩ := ns_trod h2 (hzr r hr)
        have h3 := hcell 0 (by simp)
        rw [add_add9] at h3
        simp only [Nat.mul_one, Nat.add_zero] at h3
        exact ⟨((A', n', k'), xs), hxs, h3⟩
    haveI : Inhabited ((Option Addr × Nat × Nat) × List Nat) := ⟨((none, 0, 0), [])⟩
    obtain ⟨os, hos⟩ := choose_lt hrow
    refine ⟨(fun r => (os r).1, fun r => (os r).2), hl, hm, fun hn => ?_⟩
    obtain ⟨b, off, spot⟩ := a
    have h0 := (hos 0 (by omega)).2
    have hsp : spot = none := by simpa [Addr.add] using World.cell?_spot h0
    subst hsp
    have hlt : b < w.heap.size := by
      have := World.block_lt_of_cell? w _ h0
      simpa [Addr.add] using this
    refine ⟨b, off, rfl, hlt, fun r hr => ?_⟩
    obtain ⟨hi, hc⟩ := hos r (by omega)
    rw [add_none9] at hc
    exact ⟨hc, hi⟩
end
end Go.Proofs.Ytomolfdcdmncoaa
