/-
  der: are two lists of elements the same?
-/
import Derived.Test.YtamkbedbkjndgaaAlA
import Derived.Deep.RegionHeld3
namespace Go.Proofs.Ytamkbedbkjndgaa
open Go.RowKit Go
set_option linter.unusedVariables false
set_option linter.unusedSimpArgs false
set_option maxRecDepth 100000
theorem one_same2 (t : UInt8) (A1 A2 B1 B2 : Option Addr) (n1 c1 n2 c2 m1 k1 m2 k2 : Nat) (b r : List UInt8) (w : World) (h1 : RB w A1 n1 b) (h2 : RB w A2 n2 r) (h3 : RB w B1 m1 b) (h4 : RB w B2 m2 r) :
    Calls Try.prog 35 #[.agg #[.int .u8 (t.toNat : Int), .slice A1 n1 c1, .slice A2 n2 c2], .agg #[.int .u8 (t.toNat : Int), .slice B1 m1 k1, .slice B2 m2 k2]] w fun e w' => e = .returned (.bool true) ∧ Below w.heap.size w w' := by
  have hb2 := kp_alloc (kp_alloc (Below.refl w.heap.size w) (.cells #[.int .u8 (t.toNat : Int), .slice A1 n1 c1, .slice A2 n2 c2] 43)) (.cells #[.int .u8 (t.toNat : Int), .slice B1 m1 k1, .slice B2 m2 k2] 43)
  have E1 := Lib.hid (eq_any A1 B1 n1 m1 c1 k1 _ _ _ (h1.below hb2) (h3.below hb2))
  have E2 := Lib.hid (eq_any A2 B2 n2 m2 c2 k2 _ _ _ (h2.below hb2) (h4.below hb2))
  rw [beq_self_eq_true] at E1 E2
  have HB := Lib.hid hb2
  clear h1 h2 h3 h4 hb2
  go_enter Try.func35, Try.ntmps35
  go_wp2_with fail
  refine E1.out.mono ?_
  rintro e w' ⟨rfl, rfl⟩
  go_wp2_with fail
  refine E2.out.mono ?_
  rintro e w' ⟨rfl, rfl⟩
  go_wp2
  go_ret
  exact ⟨rfl, HB.out⟩
structure ElsOk (w : World) (vs : List EV) : Prop where
  ok : ∀ v ∈ vs, RB w v.ba v.bn v.body ∧ RB w v.ra v.rn v.raw ∧ v.raw.getD 0 0 = v.tag
theorem ElsOk.below {w w' : World} {vs : List EV} (h : ElsOk w vs) (hb : Below w.heap.size w w') : ElsOk w' vs := ⟨fun v hv => ⟨(h.ok v hv).1.below hb, (h.ok v hv).2.1.below hb, (h.ok v hv).2.2⟩⟩
theorem Evs.oks {w : World} {base : Nat} {vs : List EV} (h : Evs w base vs) : ElsOk w vs := ⟨fun v hv => ⟨(h.pair hv).1.rb, (h.pair hv).2.rb, h.tag v hv⟩⟩
set_option maxHeartbeats 1000000 in
theorem req_same (LA MA : Option Addr) (n c k : Nat) (vs us : List EV) (w : World) (hl : vs.length = n) (hn : n ≤ 1000000000) (hL : ReadR w LA (vs.flatMap EV.cells)) (hM : ReadR w MA (us.flatMap EV.cells)) (hs : vs.map (fun v => (v.raw, v.body)) = us.map (fun v => (v.raw, v.body))) (h1 : ElsOk w vs) (h2 : ElsOk w us) :
    Calls Try.prog 12 #[.slice LA n c, .slice MA n k] w fun e w' => e = .returned (.bool true) ∧ Below w.heap.size w w' := by
  have HL := Lib.hid hl
  have HA := Lib.hid hL
  have HM := Lib.hid hM
  have HS := Lib.hid hs
  have H1 := Lib.hid h1
  have H2 := Lib.hid h2
  clear hl hL hM hs h1 h2
  go_enter Try.func12, Try.ntmps12
  go_wp2
  go_loopw [5] (fun i wl => ∃ j : Nat, j ≤ n ∧ i = .int .i64 (j : Int) ∧ Below w.heap.size w wl) (fun i _ => n - (intOf i).toNat)
  case atStart => exact ⟨0, Nat.zero_le _, rfl, Below.refl _ _⟩
  case round =>
    obtain ⟨j, hj, rfl, hb⟩ := hrel
    by_cases hlt : j < n
    · obtain ⟨p, hp⟩ : ∃ p, vs[j]? = some p := ⟨_, List.getElem?_eq_getElem (by rw [HL.out]; omega)⟩
      obtain ⟨q, hq⟩ : ∃ q, us[j]? = some q := ⟨_, List.getElem?_eq_getElem (by have := congrArg List.length HS.out; simp at this; rw [← this, HL.out]; omega)⟩
      have hpq := congrArg (fun l => l[j]?) HS.out
      simp only [List.getElem?_map, hp, hq, Option.map_some, Option.some.injEq, Prod.mk.injEq] at hpq
      obtain ⟨e1, e2⟩ := hpq
      obtain ⟨p1, p2, p3⟩ := H1.out.ok p (List.mem_of_getElem? hp)
      obtain ⟨q1, q2, q3⟩ := H2.out.ok q (List.mem_of_getElem? hq)
      have et : q.tag = p.tag := by rw [← p3, ← q3, e1]
      obtain ⟨g1, g2, g3⟩ := eflat_get vs p j hp
      obtain ⟨g4, g5, g6⟩ := eflat_get us q j hq
      obtain ⟨b, off, rfl, hbb, c1⟩ := HA.out.at_ g1
      obtain ⟨b', off', e', _, c2⟩ := HA.out.at_ g2
      cases e'
      obtain ⟨b', off', e', _, c3⟩ := HA.out.at_ g3
      cases e'
      obtain ⟨d, oft, rfl, hdd, c4⟩ := HM.out.at_ g4
      obtain ⟨b', off', e', _, c5⟩ := HM.out.at_ g5
      cases e'
      obtain ⟨b', off', e', _, c6⟩ := HM.out.at_ g6
      cases e'
      rw [← Nat.add_assoc] at c2 c3 c5 c6
      have d1 := kp_cell hb c1
      have d2 := kp_cell hb c2
      have d3 := kp_cell hb c3
      have d4 := kp_cell hb c4
      have d5 := kp_cell hb c5
      have d6 := kp_cell hb c6
      rw [et] at d4
      have CC := Lib.hid (fun W (hw : Below w.heap.size w W) => one_same2 p.tag p.ba p.ra q.ba q.ra p.bn p.bc p.rn p.rc q.bn q.bc q.rn q.rc p.body p.raw W (p1.below hw) (p2.below hw) (by rw [e2]; exact q1.below hw) (by rw [e1]; exact q2.below hw))
      clear c1 c2 c3 c4 c5 c6 g1 g2 g3 g4 g5 g6 hp hq e1 e2 p1 p2 p3 q1 q2 q3 et
      have hbd := kp_drew hb
      go_wp2
      go_region_held3 (fun W => (W.cell? ⟨b, off + j * 3, none⟩ = some (.int .u8 (p.tag.toNat : Int)) ∧ W.cell? ⟨b, off + j * 3 + 1, none⟩ = some (.slice p.ba p.bn p.bc) ∧ W.cell? ⟨b, off + j * 3 + 2, none⟩ = some (.slice p.ra p.rn p.rc)) ∧ (W.cell? ⟨d, oft + j * 3, none⟩ = some (.int .u8 (p.tag.toNat : Int)) ∧ W.cell? ⟨d, oft + j * 3 + 1, none⟩ = some (.slice q.ba q.bn q.bc) ∧ W.cell? ⟨d, oft + j * 3 + 2, none⟩ = some (.slice q.ra q.rn q.rc)) ∧ Below w.heap.size w W) (go_keep) ((go_at_call 35; (with_reducible refine (CC.out _ (by (go_split_ands; first | assumption | (refine kp_drew ?_; assumption)))).mono ?_); (rintro e w2 ⟨rfl, hb2⟩; have hb3 := kp_call (kp_drew hb) hb2; have f1 := kp_cell hb2 d1; have f2 := kp_cell hb2 d2; have f3 := kp_cell hb2 d3; have f4 := kp_cell hb2 d4; have f5 := kp_cell hb2 d5; have f6 := kp_cell hb2 d6)))
      go_wp2
      go_roundw
      case rel => exact ⟨j + 1, by omega, by go_num, hb3⟩
      case measure => simp [intOf]; omega
    · obtain rfl : j = n := by omega
      go_wp2
      go_ret
      exact ⟨rfl, hb⟩
end Go.Proofs.Ytamkbedbkjndgaa
