/-
  sha: the document's schedule.
-/
import Derived.Test.YtmbkbehccmadfaaShX6
import Derived.Deep.AppendLies
import Derived.Deep.RegionHeldLaw
import Derived.Deep.RegionHeld3
import Derived.BigRegion
namespace Go.Proofs.Ytmbkbehccmadfaa
open Go.RowKit Go
set_option linter.unusedVariables false
set_option linter.unusedSimpArgs false
set_option maxRecDepth 100000
section
variable (w : World)
/-- Appending one number: the new slice owns what is there then; the old one owns what it owned; and the new one lies where the old one lay, or in a new block. -/
theorem run_app1U (base : Nat) (A0 : Option Addr) (n0 c0 : Nat) (bs : List Nat) (hown : OwnU w base A0 n0 c0 bs)
    (sb : Nat) (c : Nat) (x : Nat) (hx : w.cell? ⟨sb, 0, none⟩ = some (v32 x)) (hlim : n0 + 1 ≤ 1000000) (hbase : base ≤ w.heap.size) :
    ∃ A' c' w', (Builtin.append_ #[53, 53] 53 #[.slice A0 n0 c0, .slice (some ⟨sb, 0, none⟩) 1 c]).run Try.prog w = .ok (.slice A' (n0 + 1) c') w' ∧
      OwnU w' base A' (n0 + 1) c' (bs ++ [x]) ∧ OwnU w' base A0 n0 c0 bs ∧ w.grownBy w' (blk A0) ∧ (blk A' = blk A0 ∨ blk A' = some w.heap.size) := by
  obtain ⟨i, hi, hz0, hz1, hz2⟩ := info_parts u32_row.info
  have hlen := OwnU.len hown
  have hnews : ∀ j u, [v32 x][j]? = some u → w.cell? ((⟨sb, 0, none⟩ : Addr).add j) = some u := by
    intro j u hj
    match j, hj with
    | 0, hj => simp at hj; subst hj; simpa [Addr.add] using hx
  by_cases hroom : n0 + 1 ≤ c0
  · rcases hown.2 with ⟨hv, hn⟩ | ⟨g, cap, cur, hv, hb, hh, hle, hm, hcs, htk⟩
    · injection hv with _ _ h3; omega
    · injection hv with h1 _ h3
      subst h1; subst h3
      simp only [Nat.mul_one] at hcs htk
      have hr := run_append_room (P := Try.prog) w 53 53 32 i Try.underlying53 hi g n0 c0 cur hh ⟨sb, 0, none⟩ 1 c [v32 x] (by rw [hz1]; rfl) hnews (by intro u hu; simp at hu; subst hu; rfl) hroom (by rw [hz1, hcs]; simp; omega)
      rw [hz1] at hr
      simp only [Nat.mul_one, List.length_singleton] at hr
      have hl : cur.toList.length = c0 := by simpa using hcs
      have hsz : (cur.toList.take n0 ++ [v32 x] ++ cur.toList.drop (n0 + 1)).length = c0 := by
        simp only [List.length_append, List.length_take, List.length_drop, hl, List.length_singleton]; omega
      have hh' := setRow_heap w g cur (cur.toList.take n0 ++ [v32 x] ++ cur.toList.drop (n0 + 1)).toArray _ _ hh
      have htk1 : (cur.toList.take n0 ++ [v32 x] ++ cur.toList.drop (n0 + 1)).take n0 = bs.map v32 := by
        rw [List.append_assoc, List.take_append_of_le_length (by rw [List.length_take, hl]; omega), List.take_take, Nat.min_self, htk]
      have htk2 : (cur.toList.take n0 ++ [v32 x] ++ cur.toList.drop (n0 + 1)).take (n0 + 1) = (bs ++ [x]).map v32 := by
        rw [List.take_append_of_le_length (by rw [List.length_append, List.length_take, hl, List.length_singleton]; omega), List.take_of_length_le (by rw [List.length_append, List.length_take, hl, List.length_singleton]; omega), htk, List.map_append]; rfl
      refine ⟨_, _, _, hr, ⟨by simp [hlen], .inr ⟨g, c0, _, rfl, hb, hh', hroom, hm, by simpa using hsz, by simpa using htk2⟩⟩,
        ⟨hown.1, .inr ⟨g, c0, _, rfl, hb, hh', hle, hm, by simpa using hsz, by simpa using htk1⟩⟩, ⟨rfl, rfl, rfl, by simp [World.setRow], fun k _ hk => setRow_other w g k _ (fun e => hk (by rw [e]; rfl))⟩, .inl rfl⟩
  · -- it grows
    have hgrow : ∃ c' W', (Builtin.append_ #[53, 53] 53 #[.slice A0 n0 c0, .slice (some ⟨sb, 0, none⟩) 1 c]).run Try.prog w = .ok (.slice (some ⟨w.heap.size, 0, none⟩) (n0 + 1) c') W' ∧ OwnU W' base (some ⟨w.heap.size, 0, none⟩) (n0 + 1) c' (bs ++ [x]) ∧ w.grownBy W' none := by
      have hge := grownCap_ge w (n0 + 1) c0 32
      have hcm : grownCap w (n0 + 1) c0 32 ≤ maxLen := grownCap_le_maxLen w (n0 + 1) c0 32 (by unfold maxLen; omega)
      have hr : (Builtin.append_ #[53, 53] 53 #[.slice A0 n0 c0, .slice (some ⟨sb, 0, none⟩) 1 c]).run Try.prog w = .ok (.slice (some ⟨w.heap.size, 0, none⟩) (n0 + 1) (grownCap w (n0 + 1) c0 32))
          (w.drew.alloc (.cells ((bs.map v32).toArray ++ [v32 x].toArray ++ Builtin.zeroCells (Value.int .u32 0).cells (grownCap w (n0 + 1) c0 32 - (n0 + 1))) 32)) := by
        rcases hown.2 with ⟨hv, hn⟩ | ⟨g, cap, cur, hv, hb, hh, hle, hm, hcs, htk⟩
        · injection hv with h1 h2 h3
          subst h1; subst h2; subst h3
          have hbs : bs = [] := List.eq_nil_of_length_eq_zero hlen
          subst hbs
          have := run_append_nil (P := Try.prog) w 53 53 32 i (.int .u32 0) Try.underlying53 hi hz0 ⟨sb, 0, none⟩ 1 c [v32 x] (by rw [hz1]; rfl) hnews (by omega) (by omega) (by rw [hz2]; omega)
          simpa using this
        · injection hv with h1 h2 h3
          subst h1; subst h3
          have holds : ∀ j v, (bs.map v32)[j]? = some v → w.cell? ((⟨g, 0, none⟩ : Addr).add j) = some v := World.ownsRow.cells (v := .slice (some ⟨g, 0, none⟩) n0 c0) hown rfl
          exact run_append_grow (P := Try.prog) w 53 53 32 i (.int .u32 0) Try.underlying53 hi hz0 ⟨g, 0, none⟩ n0 c0 (bs.map v32) (by rw [hz1, List.length_map, hlen, Nat.mul_one]) holds ⟨sb, 0, none⟩ 1 c [v32 x] (by rw [hz1]; rfl) hnews (by omega) (by omega) (growslice_fits (by omega) (by rw [hz2]; omega))
      refine ⟨_, _, hr, ⟨by simp [hlen], .inr ⟨w.heap.size, _, _, rfl, hbase, heap_alloc_new w.drew _, hge, hcm, ?_, ?_⟩⟩, ⟨rfl, rfl, rfl, by simp, fun k hk _ => Below.heap_alloc w.drew _ k hk⟩⟩
      · simp only [Array.size_append, List.size_toArray, List.length_map, List.length_singleton, hlen, size_zeroCells]
        show n0 + 1 + (_ - (n0 + 1)) * 1 = _ * 1
        omega
      · simp only [Array.toList_append, List.append_assoc, Nat.mul_one]
        rw [← List.append_assoc, List.take_append_of_le_length (by rw [List.length_append, List.length_map, List.length_singleton, hlen]; omega), List.take_of_length_le (by rw [List.length_append, List.length_map, List.length_singleton, hlen]; omega), List.map_append]
        rfl
    obtain ⟨c', W', hr, h1, h2⟩ := hgrow
    refine ⟨_, _, _, hr, h1, OwnR.kept hown h2 (by cases blk A0 <;> simp), ⟨h2.os, h2.tape, h2.output, h2.size, fun k hk _ => h2.block k hk (by simp)⟩, .inr rfl⟩
end
theorem step_appU {w : World} {ops : Array Oper} {o : Oper} {a : Act} {K : Act → World → Prop} {Q : Exit → Act → World → Prop} {E : Prop} (hgd : o.guard = none) (hty : o.type = 53) (sOp xOp : Operand)
    (ho : o.op = .call { callee := .builtin .append, args := #[sOp, xOp], argTypes := #[53, 53] })
    (base : Nat) (V : Option Addr) (m c0 : Nat) (l : List Nat) (hs : a.eval sOp = .slice V m c0) (hown : OwnU w base V m c0 l)
    (sb c : Nat) (x : Nat) (hx : a.eval xOp = .slice (some ⟨sb, 0, none⟩) 1 c) (hq : w.cell? ⟨sb, 0, none⟩ = some (v32 x))
    (hlim : m + 1 ≤ 1000000) (hbase : base ≤ w.heap.size)
    (h : ∀ A' c' w', OwnU w' base A' (m + 1) c' (l ++ [x]) → OwnU w' base V m c0 l → w.grownBy w' (blk V) → K (a.put o.dst (.slice A' (m + 1) c')) w') :
    if Region.wanted o (yielded ops a.tmps) = true then Oper.wp Try.prog o a w K Q else E := by
  have hw : Region.wanted o (yielded ops a.tmps) = true := by simp [Region.wanted, hgd]
  rw [if_pos hw]
  obtain ⟨A', c', w', hrun, h2, h3, h4, h5⟩ := run_app1U w base V m c0 l hown sb c x hq hlim hbase
  unfold Oper.wp execOp
  simp only [ho, resolve, invoke, builtin, Sem.run_bind, Sem.run_pure, Result.andThen_ok, List.map_toArray, List.map_cons, List.map_nil, hs, hx, hty, hrun]
  exact h A' c' w' h2 h3 h4
theorem grown_below {v w w' : World} {G : Nat} {A : Option Addr} {n c : Nat} {l : List Nat} (hb : Below G v w) (h : OwnU w G A n c l) (hs : G ≤ w.heap.size) (hg : w.grownBy w' (blk A)) : Below G v w' := hb.grown hg hs (fun g hg => (OwnR.blk_lt h hg).1)
theorem kp_drew' {G : Nat} {v w : World} (h : Below G v w) : Below G v w.drew := h.drew
set_option maxHeartbeats 8000000 in
theorem dschedule_any (A : Option Addr) (n c : Nat) (bs : List UInt8) (w : World) (h : RB w A n bs) (hn : n = 64) :
    Calls Try.prog 32 #[.slice A n c] w fun e w' => ∃ A' c', e = .returned (.slice A' 64 c') ∧ OwnU w' w.heap.size A' 64 c' (schW (bs.map UInt8.toNat)) ∧ Below w.heap.size w w' := by
  obtain ⟨G, hG⟩ : ∃ G, w.heap.size = G := ⟨_, rfl⟩
  obtain ⟨b, off, q0, rfl, hb, _, _⟩ := h.at_ (k := 0) (by omega)
  have HG := Lib.hid hG
  have hcell : ∀ W, Below G w W → ∀ j, j < 64 → W.cell? ⟨b, off + j, none⟩ = some (v8 ((bs.map UInt8.toNat).getD j 0)) := fun W hW j hj => by
    obtain ⟨b', off', q, e, hb', hq, hc⟩ := h.at_ (k := j) (by omega)
    injection e with e
    injection e with e1 e2
    subst e1; subst e2
    rw [(hW.cell (p := ⟨b, off + j, none⟩) (by rw [← hG]; exact hb)).trans hc, List.getD_eq_getElem?_getD, List.getElem?_map, hq]
    rfl
  obtain ⟨bn, hbn⟩ : ∃ bn, bs.map UInt8.toNat = bn := ⟨_, rfl⟩
  have hbl : ∀ i, bn.getD i 0 < 256 := by rw [← hbn]; exact getD_lt _ 256 (by decide) (fun x hx => by obtain ⟨y, _, rfl⟩ := List.mem_map.1 hx; exact y.toNat_lt)
  have hbl2 : ∀ x ∈ bn, x < 256 := by rw [← hbn]; exact fun x hx => by obtain ⟨y, _, rfl⟩ := List.mem_map.1 hx; exact y.toNat_lt
  rw [hbn] at hcell ⊢
  have HC := Lib.hid hcell
  have HBG := Lib.hid hbl
  have HF : Hid (∀ x ∈ firstW bn 16, x < 4294967296) := firstW_lt bn hbl2 16
  have HN64 := Lib.hid hn
  clear h hbn hbl hbl2 hcell hb hn
  go_enter Try.func32, Try.ntmps32
  go_wp2_with fail
  go_loopw [3, 4] (fun vl vi wl => ∃ (k : Nat) (A2 : Option Addr) (c2 : Nat), vl = .slice A2 k c2 ∧ vi = .int .i64 (k : Int) ∧ k ≤ 16 ∧ Hid (OwnU wl G A2 k c2 (firstW bn k) ∧ Below G w wl)) (fun _ vi _ => 16 - (intOf vi).toNat)
  case atStart => exact ⟨0, none, 0, rfl, rfl, Nat.zero_le _, OwnR.nil _ _ _ _, by rw [← hG]; exact Below.refl _ _⟩
  case round =>
    obtain ⟨k, A2, c2, rfl, rfl, hk, HK⟩ := hrel
    by_cases hlt : k < 16
    · as_aux_lemma =>
      obtain ⟨ho, hbw⟩ := HK.out
      obtain ⟨b0, hb0⟩ : ∃ x, bn.getD (4 * k) 0 = x := ⟨_, rfl⟩
      obtain ⟨b1, hb1⟩ : ∃ x, bn.getD (4 * k + 1) 0 = x := ⟨_, rfl⟩
      obtain ⟨b2, hb2⟩ : ∃ x, bn.getD (4 * k + 2) 0 = x := ⟨_, rfl⟩
      obtain ⟨b3, hb3⟩ : ∃ x, bn.getD (4 * k + 3) 0 = x := ⟨_, rfl⟩
      obtain ⟨m0, hm0⟩ : ∃ m, 4 * k = m := ⟨_, rfl⟩
      obtain ⟨m1, hm1⟩ : ∃ m, m0 + 1 = m := ⟨_, rfl⟩
      obtain ⟨m2, hm2⟩ : ∃ m, m0 + 2 = m := ⟨_, rfl⟩
      obtain ⟨m3, hm3⟩ : ∃ m, m0 + 3 = m := ⟨_, rfl⟩
      have KF : Hid (∀ W, Below G w W → W.cell? ⟨b, off + m0, none⟩ = some (.int .u8 (b0 : Int)) ∧ W.cell? ⟨b, off + m1, none⟩ = some (.int .u8 (b1 : Int)) ∧ W.cell? ⟨b, off + m2, none⟩ = some (.int .u8 (b2 : Int)) ∧ W.cell? ⟨b, off + m3, none⟩ = some (.int .u8 (b3 : Int))) := by
        intro W hW
        rw [← hm1, ← hm2, ← hm3, ← hm0, ← hb0, ← hb1, ← hb2, ← hb3]
        exact ⟨HC.out W hW _ (by omega), HC.out W hW _ (by omega), HC.out W hW _ (by omega), HC.out W hW _ (by omega)⟩
      have l0 : b0 < 256 := by rw [← hb0]; exact HBG.out _
      have l1 : b1 < 256 := by rw [← hb1]; exact HBG.out _
      have l2 : b2 < 256 := by rw [← hb2]; exact HBG.out _
      have l3 : b3 < 256 := by rw [← hb3]; exact HBG.out _
      have hbe := be32_bits b0 b1 b2 b3 l0 l1 l2 l3
      obtain ⟨z, hz⟩ : ∃ z, be32 b0 b1 b2 b3 = z := ⟨_, rfl⟩
      rw [hz] at hbe
      have HFN : Hid (firstW bn (k + 1) = firstW bn k ++ [z]) := by unfold Hid; rw [← hz, ← hb0, ← hb1, ← hb2, ← hb3]; rfl
      have x0 : 4 * (k : Int) = (m0 : Int) := by omega
      have x1 : (m0 : Int) + 1 = (m1 : Int) := by omega
      have x2 : (m0 : Int) + 2 = (m2 : Int) := by omega
      have x3 : (m0 : Int) + 3 = (m3 : Int) := by omega
      have s0 : IntKind.i64.wrap (4 * (k : Int)) = (m0 : Int) := by rw [IntKind.wrap_i64]; omega
      have s1 : IntKind.i64.wrap ((m0 : Int) + 1) = (m1 : Int) := by rw [IntKind.wrap_i64]; omega
      have s2 : IntKind.i64.wrap ((m0 : Int) + 2) = (m2 : Int) := by rw [IntKind.wrap_i64]; omega
      have s3 : IntKind.i64.wrap ((m0 : Int) + 3) = (m3 : Int) := by rw [IntKind.wrap_i64]; omega
      have i0 : (m0 : Int) < (n : Int) := by have := HN64.out; omega
      have i1 : (m1 : Int) < (n : Int) := by have := HN64.out; omega
      have i2 : (m2 : Int) < (n : Int) := by have := HN64.out; omega
      have i3 : (m3 : Int) < (n : Int) := by have := HN64.out; omega
      have i4 : (k : Int) < 16 := by omega
      have u0 : IntKind.u32.wrap (b0 : Int) = (b0 : Int) := by rw [IntKind.wrap_u32]; omega
      have u1 : IntKind.u32.wrap (b1 : Int) = (b1 : Int) := by rw [IntKind.wrap_u32]; omega
      have u2 : IntKind.u32.wrap (b2 : Int) = (b2 : Int) := by rw [IntKind.wrap_u32]; omega
      have u3 : IntKind.u32.wrap (b3 : Int) = (b3 : Int) := by rw [IntKind.wrap_u32]; omega
      have y0 : IntKind.u32.wrap ((b0 : Int) * 16777216) = (b0 : Int) * 16777216 := by rw [IntKind.wrap_u32]; omega
      have y1 : IntKind.u32.wrap ((b1 : Int) * 65536) = (b1 : Int) * 65536 := by rw [IntKind.wrap_u32]; omega
      have y2 : IntKind.u32.wrap ((b2 : Int) * 256) = (b2 : Int) * 256 := by rw [IntKind.wrap_u32]; omega
      have v0 : IntKind.i64.wrap (m0 : Int) = (m0 : Int) := by rw [IntKind.wrap_i64]; omega
      have v1 : IntKind.i64.wrap (m1 : Int) = (m1 : Int) := by rw [IntKind.wrap_i64]; omega
      have v2 : IntKind.i64.wrap (m2 : Int) = (m2 : Int) := by rw [IntKind.wrap_i64]; omega
      have v3 : IntKind.i64.wrap (m3 : Int) = (m3 : Int) := by rw [IntKind.wrap_i64]; omega
      have j0 : m0 < n := by have := HN64.out; omega
      have j1 : m1 < n := by have := HN64.out; omega
      have j2 : m2 < n := by have := HN64.out; omega
      have j3 : m3 < n := by have := HN64.out; omega
      have p0 : (0 : Int) ≤ (m0 : Int) := by omega
      have p1 : (0 : Int) ≤ (m1 : Int) := by omega
      have p2 : (0 : Int) ≤ (m2 : Int) := by omega
      have p3 : (0 : Int) ≤ (m3 : Int) := by omega
      have e1 : IntKind.i64.wrap ((k : Int) + 1) = (k : Int) + 1 := IntWalk.i64_in _ (by omega)
      have hs : G ≤ wr.heap.size := by have := hbw.size; omega
      obtain ⟨d0, d1, d2, d3⟩ := KF.out _ hbw
      obtain ⟨f0, f1, f2, f3⟩ := KF.out _ (hbw.alloc hs (.cells #[.int .u32 (z : Int)] 32))
      have HO := Lib.hid ho
      have HBW := Lib.hid hbw
      clear hb0 hb1 hb2 hb3 hz hm0 hm1 hm2 hm3 HK ho hbw
      go_wp2_with fail
      go_region_held3 (fun W => W.cell? ⟨b, off + m0, none⟩ = some (.int .u8 (b0 : Int)) ∧ W.cell? ⟨b, off + m1, none⟩ = some (.int .u8 (b1 : Int)) ∧ W.cell? ⟨b, off + m2, none⟩ = some (.int .u8 (b2 : Int)) ∧ W.cell? ⟨b, off + m3, none⟩ = some (.int .u8 (b3 : Int)))
        (first | exact ⟨d0, d1, d2, d3⟩ | exact ⟨f0, f1, f2, f3⟩ | exact ⟨g0, g1, g2, g3⟩)
        ((refine step_appU (by rfl) (by rfl) _ _ (by rfl) G A2 k c2 (firstW bn k) (by rfl) ((OwnR.alloc HO.out _).drew) wr.heap.size 1 z (by rfl) (cell_of_row _ wr.heap.size 0 #[.int .u32 (z : Int)] 32 (0, 0) (heap_alloc_new _ _)) (by omega) (by simp; omega) ?_; intro A9 c3 w3 ho3 ho4 hg3; have HB3 : Hid (Below G w w3) := grown_below (kp_drew' (HBW.out.alloc hs _)) ((OwnR.alloc HO.out _).drew) (by simp; omega) hg3; have HO3 : Hid (OwnU w3 G A9 (k + 1) c3 (firstW bn (k + 1))) := (by rw [HFN.out]; exact ho3); obtain ⟨g0, g1, g2, g3⟩ := KF.out _ HB3.out; clear ho3 ho4 hg3))
      all_goals
        have HN : Hid (OwnU w3 G A9 (k + 1) c3 (firstW bn (k + 1)) ∧ Below G w w3) := ⟨HO3.out, HB3.out⟩
        clear hbe u0 u1 u2 u3 y0 y1 y2 v0 v1 v2 v3 s0 s1 s2 s3 x0 x1 x2 x3 d0 d1 d2 d3 f0 f1 f2 f3 g0 g1 g2 g3
        go_wp2
        go_roundw
        case rel => exact ⟨k + 1, A9, c3, rfl, by go_num, by omega, HN.out⟩
        case measure => simp [intOf]; omega
    · as_aux_lemma =>
      obtain rfl : k = 16 := by omega
      have i1 : ¬ ((16 : Nat) : Int) < 16 := by omega
      have H3 : Hid (OwnU wr G A2 16 c2 (restW (firstW bn 16) 0) ∧ Below G w wr) := HK.out
      clear HK
      go_wp2_with fail
      go_loopw [3, 5] (fun vl vt wl => ∃ (t : Nat) (A3 : Option Addr) (c3 : Nat), vl = .slice A3 t c3 ∧ vt = .int .i64 (t : Int) ∧ 16 ≤ t ∧ t ≤ 64 ∧ Hid (OwnU wl G A3 t c3 (restW (firstW bn 16) (t - 16)) ∧ Below G w wl)) (fun _ vt _ => 64 - (intOf vt).toNat)
      case atStart => exact ⟨16, A2, c2, rfl, rfl, Nat.le_refl _, by omega, H3.out⟩
      case round =>
        obtain ⟨t, A3, c3, rfl, rfl, ht1, ht2, HK⟩ := hrel
        clear H3
        by_cases hlt : t < 64
        · as_aux_lemma =>
          obtain ⟨q, hq⟩ : ∃ q, t - 16 = q := ⟨_, rfl⟩
          obtain ⟨ho, hbw⟩ := HK.out
          rw [hq] at ho
          obtain ⟨l, hl⟩ : ∃ l, restW (firstW bn 16) q = l := ⟨_, rfl⟩
          have hll : l.length = t := by rw [← hl, restW_len, firstW_len]; omega
          have hlb := restW_lt (firstW bn 16) HF.out q
          rw [hl] at ho hlb
          obtain ⟨g, rfl, hg1, hg2⟩ := OwnR.shape ho (by have := (OwnR.cap ho).1; omega)
          have gl := getD_lt l 4294967296 (by decide) hlb
          have gat : ∀ i, i < t → l[i]? = some (l.getD i 0) := fun i hi => by rw [List.getD_eq_getElem?_getD, List.getElem?_eq_getElem (by omega)]; rfl
          obtain ⟨x16, hx16⟩ : ∃ z, l.getD q 0 = z := ⟨_, rfl⟩
          obtain ⟨x15, hx15⟩ : ∃ z, l.getD (q + 1) 0 = z := ⟨_, rfl⟩
          obtain ⟨x7, hx7⟩ : ∃ z, l.getD (q + 9) 0 = z := ⟨_, rfl⟩
          obtain ⟨x2, hx2⟩ : ∃ z, l.getD (q + 14) 0 = z := ⟨_, rfl⟩
          have l16 : x16 < 4294967296 := by rw [← hx16]; exact gl _
          have l15 : x15 < 4294967296 := by rw [← hx15]; exact gl _
          have l7 : x7 < 4294967296 := by rw [← hx7]; exact gl _
          have l2 : x2 < 4294967296 := by rw [← hx2]; exact gl _
          obtain ⟨q1, hq1⟩ : ∃ z, q + 1 = z := ⟨_, rfl⟩
          obtain ⟨q9, hq9⟩ : ∃ z, q + 9 = z := ⟨_, rfl⟩
          obtain ⟨q14, hq14⟩ : ∃ z, q + 14 = z := ⟨_, rfl⟩
          have KF : Hid (∀ W, OwnU W G (some ⟨g, 0, none⟩) t c3 l → W.cell? ⟨g, q, none⟩ = some (.int .u32 (x16 : Int)) ∧ W.cell? ⟨g, q9, none⟩ = some (.int .u32 (x7 : Int)) ∧ W.cell? ⟨g, q1, none⟩ = some (.int .u32 (x15 : Int)) ∧ W.cell? ⟨g, q14, none⟩ = some (.int .u32 (x2 : Int))) := by
            intro W hW
            rw [← hq1, ← hq9, ← hq14, ← hx16, ← hx15, ← hx7, ← hx2]
            exact ⟨hW.cellAt _ _ (gat _ (by omega)), hW.cellAt _ _ (gat _ (by omega)), hW.cellAt _ _ (gat _ (by omega)), hW.cellAt _ _ (gat _ (by omega))⟩
          obtain ⟨z, hz⟩ : ∃ z, nxtW x16 x15 x7 x2 = z := ⟨_, rfl⟩
          have HLN : Hid (restW (firstW bn 16) (t + 1 - 16) = l ++ [z]) := by
            unfold Hid
            rw [show t + 1 - 16 = q + 1 by omega, ← hz, ← hx16, ← hx15, ← hx7, ← hx2, ← hl]
            rfl
          obtain ⟨g0, hg0⟩ : ∃ z, sg0 x15 = z := ⟨_, rfl⟩
          obtain ⟨g1, hg1'⟩ : ∃ z, sg1 x2 = z := ⟨_, rfl⟩
          have b0 := sg0_bits x15 l15
          have b1 := sg1_bits x2 l2
          have lg0 := sg0_lt x15 l15
          have lg1 := sg1_lt x2 l2
          rw [hg0] at b0 lg0
          rw [hg1'] at b1 lg1
          have hz2 : (((x16 + g0) % 4294967296 + x7) % 4294967296 + g1) % 4294967296 = z := by rw [← hz, ← hg0, ← hg1']; rfl
          have R7 := Lib.hid (fun W => rt_7 x15 l15 W)
          have R18 := Lib.hid (fun W => rt_18 x15 l15 W)
          have R17 := Lib.hid (fun W => rt_17 x2 l2 W)
          have R19 := Lib.hid (fun W => rt_19 x2 l2 W)
          obtain ⟨o7, ho7⟩ : ∃ z, rotr x15 7 = z := ⟨_, rfl⟩
          obtain ⟨o18, ho18⟩ : ∃ z, rotr x15 18 = z := ⟨_, rfl⟩
          obtain ⟨o17, ho17⟩ : ∃ z, rotr x2 17 = z := ⟨_, rfl⟩
          obtain ⟨o19, ho19⟩ : ∃ z, rotr x2 19 = z := ⟨_, rfl⟩
          rw [ho7] at R7 b0
          rw [ho18] at R18 b0
          rw [ho17] at R17 b1
          rw [ho19] at R19 b1
          obtain ⟨za, hza⟩ : ∃ z, (x16 + g0) % 4294967296 = z := ⟨_, rfl⟩
          obtain ⟨zb, hzb⟩ : ∃ z, (za + x7) % 4294967296 = z := ⟨_, rfl⟩
          rw [hza, hzb] at hz2
          have wa : IntKind.u32.wrap ((x16 : Int) + (g0 : Int)) = (za : Int) := by rw [IntKind.wrap_u32]; omega
          have wb : IntKind.u32.wrap ((za : Int) + (x7 : Int)) = (zb : Int) := by rw [IntKind.wrap_u32]; omega
          have wc : IntKind.u32.wrap ((zb : Int) + (g1 : Int)) = (z : Int) := by rw [IntKind.wrap_u32]; omega
          have wa2 : ((x16 : Int) + (g0 : Int)) % 4294967296 = (za : Int) := by omega
          have wb2 : ((za : Int) + (x7 : Int)) % 4294967296 = (zb : Int) := by omega
          have wc2 : ((zb : Int) + (g1 : Int)) % 4294967296 = (z : Int) := by omega
          have t16 : (t : Int) - 16 = (q : Int) := by omega
          have t15 : (t : Int) - 15 = (q1 : Int) := by omega
          have t7 : (t : Int) - 7 = (q9 : Int) := by omega
          have t2 : (t : Int) - 2 = (q14 : Int) := by omega
          have n1 : (q : Int) < (t : Int) := by omega
          have n2 : (q1 : Int) < (t : Int) := by omega
          have n3 : (q9 : Int) < (t : Int) := by omega
          have n4 : (q14 : Int) < (t : Int) := by omega
          have p1 : (0 : Int) ≤ (q : Int) := by omega
          have p2 : (0 : Int) ≤ (q9 : Int) := by omega
          have i2 : (t : Int) < 64 := by omega
          have v1 : IntKind.i64.wrap (q : Int) = (q : Int) := by rw [IntKind.wrap_i64]; omega
          have v2 : IntKind.i64.wrap (q1 : Int) = (q1 : Int) := by rw [IntKind.wrap_i64]; omega
          have v3 : IntKind.i64.wrap (q9 : Int) = (q9 : Int) := by rw [IntKind.wrap_i64]; omega
          have v4 : IntKind.i64.wrap (q14 : Int) = (q14 : Int) := by rw [IntKind.wrap_i64]; omega
          have e1 : IntKind.i64.wrap ((t : Int) + 1) = (t : Int) + 1 := IntWalk.i64_in _ (by omega)
          have hs : G ≤ wr.heap.size := by have := hbw.size; omega
          have HO := Lib.hid ho
          have HBW := Lib.hid hbw
          obtain ⟨c16, c7, c15, c2⟩ := KF.out wr ho
          obtain ⟨d16, d7, _, _⟩ := KF.out (wr.alloc (.cells #[.int .u32 (z : Int)] 32)) (OwnR.alloc ho _)
          clear hq hl hll hlb gl gat hx16 hx15 hx7 hx2 hz hg0 hg1' hz2 ho7 ho18 ho17 ho19 hza hzb hq1 hq9 hq14 ho hbw HK hg1 hg2
          go_wp2_with fail
          clear c15 c2 t15 t2
          go_region_held3 (fun W => W.cell? ⟨g, q, none⟩ = some (.int .u32 (x16 : Int)) ∧ W.cell? ⟨g, q9, none⟩ = some (.int .u32 (x7 : Int)))
            (first | exact ⟨c16, c7⟩ | exact ⟨d16, d7⟩ | exact ⟨y16, y7⟩)
            (first
              | (go_at_call 33; (with_reducible refine (R7.out _).mono ?_); (rintro e w3 ⟨rfl, rfl⟩))
              | (go_at_call 33; (with_reducible refine (R18.out _).mono ?_); (rintro e w3 ⟨rfl, rfl⟩))
              | (go_at_call 33; (with_reducible refine (R17.out _).mono ?_); (rintro e w3 ⟨rfl, rfl⟩))
              | (go_at_call 33; (with_reducible refine (R19.out _).mono ?_); (rintro e w3 ⟨rfl, rfl⟩))
              | (refine step_appU (by rfl) (by rfl) _ _ (by rfl) G (some ⟨g, 0, none⟩) t c3 l (by rfl) ((OwnR.alloc HO.out _).drew) wr.heap.size 1 z (by rfl) (cell_of_row _ wr.heap.size 0 #[.int .u32 (z : Int)] 32 (0, 0) (heap_alloc_new _ _)) (by omega) (by simp; omega) ?_; intro A9 c9 w9 ho3 ho4 hg3; have HB3 : Hid (Below G w w9) := grown_below (kp_drew' (HBW.out.alloc hs _)) ((OwnR.alloc HO.out _).drew) (by simp; omega) hg3; have HO3 : Hid (OwnU w9 G A9 (t + 1) c9 (restW (firstW bn 16) (t + 1 - 16))) := (by rw [HLN.out]; exact ho3); obtain ⟨y16, y7, _, _⟩ := KF.out w9 ho4; clear ho3 ho4 hg3))
          all_goals
            have HN : Hid (OwnU w9 G A9 (t + 1) c9 (restW (firstW bn 16) (t + 1 - 16)) ∧ Below G w w9) := ⟨HO3.out, HB3.out⟩
            clear b0 b1 wa wb wc wa2 wb2 wc2 t16 t7 v1 v2 v3 v4 c16 c7 d16 d7 y16 y7
            go_wp2
            go_roundw
            case rel => exact ⟨t + 1, A9, c9, rfl, by go_num, by omega, by omega, HN.out⟩
            case measure => simp [intOf]; omega
        · as_aux_lemma =>
          obtain rfl : t = 64 := by omega
          have i2 : ¬ ((64 : Nat) : Int) < 64 := by omega
          go_wp2
          go_ret
          exact ⟨A3, c3, rfl, HK.out.1, HK.out.2⟩
end Go.Proofs.Ytmbkbehccmadfaa
