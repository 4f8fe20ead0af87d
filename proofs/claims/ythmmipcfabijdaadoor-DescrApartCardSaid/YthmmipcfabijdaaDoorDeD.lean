/-
  descr: Read's parts.
-/
import Derived.Test.YthmmipcfabijdaaDoorDeC
import Derived.Laws.ResultCell
import Derived.Laws.Rows
namespace Go.Proofs.YthmmipcfabijdaaDoor
open Go.RowKit Go
set_option linter.unusedVariables false
set_option maxRecDepth 100000
theorem results_cell3 {fn : Func} {p a b u : Tmp} {ty : TypeId} (h : fn.results = #[.cell p ty, .tmp a, .tmp b, .tmp u]) (tmps : Array Value) (P : Program) (w : World) :
    (results fn tmps).run P w =
      ((asAddr (tmps.getD p undef)).run P w).andThen fun x w₁ => ((loadVar ty x).run P w₁).andThen fun v w₂ => .ok (.tuple #[v, tmps.getD a undef, tmps.getD b undef, tmps.getD u undef]) w₂ := by
  simp only [results, h]
  simp [Sem.run_bind, Result.andThen]
theorem results_de {fn : Func} {p a b u : Tmp} (h : fn.results = #[.cell p 25, .tmp a, .tmp b, .tmp u]) (tmps : Array Value) (w : World) (g : Nat) (v0 v1 v2 v3 v4 v5 : Value) (hp : tmps.getD p undef = .pointer (some ⟨g, 0, none⟩)) (hg : w.heap[g]? = some (.cells #[v0, v1, v2, v3, v4, v5] 25)) :
    (results fn tmps).run Tryd.prog w = .ok (.tuple #[.agg #[v0, v1, v2, v3, v4, v5], tmps.getD a undef, tmps.getD b undef, tmps.getD u undef]) w := by
  rw [results_cell3 h, hp]
  simp [asAddr, run_loadVar_row w g _ 25 _ _ _ hg Tryd.underlying25 rfl (by kernel_rfl), Result.andThen]
theorem fits_any (n : Int) (w : World) : Calls Tryd.prog 20 #[.int .i64 n] w fun e w' => e = .returned (.bool (decide (1 ≤ n ∧ n ≤ 65536))) ∧ w = w' := by
  by_cases h1 : 1 ≤ n
  · by_cases h2 : n ≤ 65536
    · have e : decide (1 ≤ n ∧ n ≤ 65536) = true := decide_eq_true ⟨h1, h2⟩
      rw [e]
      go_enter Tryd.func20, Tryd.ntmps20
      go_wp2
      go_ret
      exact ⟨rfl, rfl⟩
    · have e : decide (1 ≤ n ∧ n ≤ 65536) = false := decide_eq_false (fun h => h2 h.2)
      rw [e]
      have h3 : 65536 < n := by omega
      go_enter Tryd.func20, Tryd.ntmps20
      go_wp2
      go_ret
      exact ⟨by first | rfl | (simp; omega), rfl⟩
  · have e : decide (1 ≤ n ∧ n ≤ 65536) = false := decide_eq_false (fun h => h1 h.1)
    rw [e]
    have h3 : n < 1 := by omega
    go_enter Tryd.func20, Tryd.ntmps20
    go_wp2
    go_ret
    exact ⟨by first | rfl | (simp; omega), rfl⟩
def tz : Value := .agg #[.int .u16 0, .int .u8 0, .int .u8 0, .int .u8 0, .int .u8 0, .int .u8 0]
/-- What Read answers. -/
def DReadPost (w : World) (bs : List UInt8) (e : Ending) (w' : World) : Prop :=
  match dR bs with
  | none => e = .returned (.tuple #[.agg #[.int .u16 0, .int .u8 0, .int .u8 0, .int .u8 0, .int .u8 0, .int .u8 0], .slice none 0 0, .slice none 0 0, .int .i64 9]) ∧ Below w.heap.size w w'
  | some x => ∃ P pn pc D dn dc, e = .returned (.tuple #[tmV x.1, .slice P pn pc, .slice D dn dc, .int .i64 0]) ∧ OwnB w' w.heap.size P pn pc x.2.1 ∧ OwnB w' w.heap.size D dn dc x.2.2 ∧ Below w.heap.size w w'
theorem dread_none {w w' : World} {bs : List UInt8} (h : dR bs = none) (hb : Below w.heap.size w w') : DReadPost w bs (.returned (.tuple #[.agg #[.int .u16 0, .int .u8 0, .int .u8 0, .int .u8 0, .int .u8 0, .int .u8 0], .slice none 0 0, .slice none 0 0, .int .i64 9])) w' := by
  simp only [DReadPost, h]; exact ⟨trivial, hb⟩
/-- Where Read stands. -/
structure Dd (w w1 : World) (cs : Array Value) (A : Option Addr) (n c : Nat) (bs : List UInt8) (k : Nat) : Prop where
  b : Below w.heap.size w w1
  z : w1.heap[w.heap.size]? = some (.cells cs 25)
  t : Take w1 (w.heap.size + 1) (w.heap.size + 2) A n c bs k
section
variable {w w1 w2 : World} {cs : Array Value} {A : Option Addr} {n c : Nat} {bs : List UInt8} {k k2 : Nat}
theorem Dd.step (h : Dd w w1 cs A n c bs k) (hg : w1.grownBy w2 (some (w.heap.size + 2))) (ht : Take w2 (w.heap.size + 1) (w.heap.size + 2) A n c bs k2) : Dd w w2 cs A n c bs k2 :=
  ⟨h.b.grown hg h.b.size (fun g e => by injection e with e; omega), (hg.block _ (heap_lt h.z) (fun e => by injection e with e; omega)).trans h.z, ht⟩
theorem Dd.below (h : Dd w w1 cs A n c bs k) (hb : Below w1.heap.size w1 w2) : Dd w w2 cs A n c bs k :=
  ⟨h.b.trans (hb.mono h.b.size), (hb.block _ (heap_lt h.z)).trans h.z, h.t.below hb⟩
theorem grown6 (w : World) (g : Nat) (v0 v1 v2 v3 v4 v5 : Value) : w.grownBy ((((((w.setCell ⟨g, 0, none⟩ v0).setCell ⟨g, 1, none⟩ v1).setCell ⟨g, 2, none⟩ v2).setCell ⟨g, 3, none⟩ v3).setCell ⟨g, 4, none⟩ v4).setCell ⟨g, 5, none⟩ v5) (some g) :=
  grown_trans (grown_trans (grown_trans (grown_trans (grown_trans (grown_put w g 0 v0) (grown_put _ g 1 v1)) (grown_put _ g 2 v2)) (grown_put _ g 3 v3)) (grown_put _ g 4 v4)) (grown_put _ g 5 v5)
theorem take_far (h : Take w1 (w.heap.size + 1) (w.heap.size + 2) A n c bs k) (hA : RB w A n bs) (hb : Below w.heap.size w w1) (hg : w1.grownBy w2 (some w.heap.size)) : Take w2 (w.heap.size + 1) (w.heap.size + 2) A n c bs k := by
  have h1 := h.size
  refine ⟨h.lt, Nat.lt_of_lt_of_le h1 hg.size, h.len, h.le, h.max, h.at_le, ?_, ?_, ?_, ?_⟩
  · exact ((hA.2.below hb).grown hg hb.size (fun g e => by injection e with e; omega)).more (by omega)
  · rw [World.cell?_of_block (w := w1) (hg.block (w.heap.size + 1) (by omega) (fun e => by injection e with e; omega))]; exact h.text
  · rw [World.cell?_of_block (w := w1) (hg.block (w.heap.size + 2) (by omega) (fun e => by injection e with e; omega))]; exact h.at_
  · rw [World.frozen?_of_block (w := w1) (hg.block (w.heap.size + 2) (by omega) (fun e => by injection e with e; omega))]; exact h.free
theorem Dd.put {a0 a1 a2 a3 a4 a5 : Value} (h : Dd w w1 #[a0, a1, a2, a3, a4, a5] A n c bs k) (hA : RB w A n bs) (v0 v1 v2 v3 v4 v5 : Value) : Dd w ((((((w1.setCell ⟨w.heap.size, 0, none⟩ v0).setCell ⟨w.heap.size, 1, none⟩ v1).setCell ⟨w.heap.size, 2, none⟩ v2).setCell ⟨w.heap.size, 3, none⟩ v3).setCell ⟨w.heap.size, 4, none⟩ v4).setCell ⟨w.heap.size, 5, none⟩ v5) #[v0, v1, v2, v3, v4, v5] A n c bs k :=
  ⟨below6 h.b (Nat.le_refl _), set6 h.z, take_far h.t hA h.b (grown6 _ _ _ _ _ _ _ _)⟩
end
theorem dd_start (A : Option Addr) (n c : Nat) (bs : List UInt8) (w : World) (hR : RB w A n bs) (hc : n ≤ c) (hc2 : c ≤ 9223372036854775807) : ∀ w0, (w.alloc (.cells #[.int .u16 0, .int .u8 0, .int .u8 0, .int .u8 0, .int .u8 0, .int .u8 0] 25)) = w0 →
    Calls Tryd.prog 17 #[.slice A n c] w0 fun e w' => e = .returned (.func (Fn.func 32) #[] #[.pointer (some ⟨w.heap.size + 1, 0, none⟩), .pointer (some ⟨w.heap.size + 2, 0, none⟩)]) ∧ Dd w w' #[.int .u16 0, .int .u8 0, .int .u8 0, .int .u8 0, .int .u8 0, .int .u8 0] A n c bs 0 := by
  rintro w0 rfl
  refine (taker_any A n c bs _ (hR.alloc _) hc hc2).mono ?_
  intro e w' h
  obtain ⟨h1, h2, h3, h4⟩ := h
  have e1 : (w.alloc (.cells #[.int .u16 0, .int .u8 0, .int .u8 0, .int .u8 0, .int .u8 0, .int .u8 0] 25)).heap.size = w.heap.size + 1 := by simp
  rw [e1] at h1 h2 h3
  refine ⟨h1, ?_, ?_, h2⟩
  · exact ((Below.refl _ _).alloc (Nat.le_refl _) _).trans (h3.mono (by omega))
  · exact (h3.block _ (by omega)).trans (heap_alloc_new w _)
set_option maxHeartbeats 6400000 in
theorem dread_a (A : Option Addr) (n c : Nat) (bs : List UInt8) (w : World) (hR : RB w A n bs) (hc : n ≤ c) (hc2 : c ≤ 9223372036854775807) (hn : n ≤ 1000000) (hT : Sizes w) (h16 : n < 16) :
    Calls Tryd.prog 9 #[.slice A n c] w (DReadPost w bs) := by
  have hq : dR bs = none := by unfold dR; rw [if_pos (by rw [hR.1]; omega)]
  have ST := Lib.hid (dd_start A n c bs w hR hc hc2)
  have TO : Hid (∀ W cs k (m : Nat), Dd w W cs A n c bs k → k + m ≤ n → Calls Tryd.prog 32 #[.int .i64 (m : Int), .pointer (some ⟨w.heap.size + 1, 0, none⟩), .pointer (some ⟨w.heap.size + 2, 0, none⟩)] W (TakeOk W (w.heap.size + 1) (w.heap.size + 2) A n c bs k m)) := fun W cs k m h hm => take_ok _ _ A n c bs k m W h.t hm (by omega)
  have TN : Hid (∀ W cs k (m : Nat), Dd w W cs A n c bs k → n < k + m → m ≤ 65560 → Calls Tryd.prog 32 #[.int .i64 (m : Int), .pointer (some ⟨w.heap.size + 1, 0, none⟩), .pointer (some ⟨w.heap.size + 2, 0, none⟩)] W fun e w' => e = .returned (.tuple #[.slice none 0 0, .bool false]) ∧ W = w') := fun W cs k m h hm hm2 => take_no _ _ A n c bs k m W h.t hm (by omega) (by omega)
  have HLEN := Lib.hid hR.1
  have HRR := Lib.hid hR
  have GN : Hid (∀ W, Sizes W → Calls Tryd.prog 19 #[.slice none 0 0, .int .i64 0, .int .i64 4] W fun e w' => e = .returned (.tuple #[.int .u64 0, .int .i64 1]) ∧ W = w') := fun W hs => get_not none 0 0 0 4 W hs (by omega) (by omega) (by omega) (.inr (by simp [inB]))
  have SR := Lib.hid (fun W => sread_len none 0 0 [] W (RB.nil _ _) (by omega))
  simp only [readV, Option.getD_none, Option.isSome_none, tmV, Tm.cells, Tm.zero] at SR
  clear hR
  go_enter Tryd.func9, Tryd.ntmps9
  go_wp2_with fail
  refine (ST.out _ rfl).mono ?_
  intro e w1 hw1
  obtain ⟨rfl, rd1⟩ := hw1
  clear ST
  have T4 := Lib.hid (TN.out w1 _ 0 16 rd1 (by omega) (by omega))
  have HD1 := Lib.hid rd1
  clear rd1
  go_wp2_with fail
  refine T4.out.mono ?_
  rintro e w' ⟨rfl, rfl⟩
  go_wp2_with fail
  refine (SR.out w1).mono ?_
  intro e w2 hw2
  obtain ⟨rfl, hb2⟩ := hw2
  have rd2 := HD1.out.below hb2
  clear hb2 HD1 T4
  obtain ⟨a0, a1, a2, a3, a4, a5⟩ := cells6 rd2.z
  obtain ⟨f0, f1, f2, f3, f4, f5⟩ := free6 rd2.z
  have rdx := (rd2.put HRR.out (.int .u16 0) (.int .u8 0) (.int .u8 0) (.int .u8 0) (.int .u8 0) (.int .u8 0)).put HRR.out (.int .u16 0) (.int .u8 0) (.int .u8 0) (.int .u8 0) (.int .u8 0) (.int .u8 0)
  have HF := Lib.hid (dread_none (w := w) hq rdx.b)
  have HZ := Lib.hid rdx.z
  clear hq rdx rd2
  go_wp2
  refine bodyPost_ret (results_de rfl _ _ _ _ _ _ _ _ _ rfl HZ.out) rfl ?_
  exact HF.out
set_option maxHeartbeats 6400000 in
theorem dread_b (A : Option Addr) (n c : Nat) (bs : List UInt8) (w : World) (hR : RB w A n bs) (hc : n ≤ c) (hc2 : c ≤ 9223372036854775807) (hn : n ≤ 1000000) (hT : Sizes w) (h16 : 16 ≤ n) (hro : readO (cut bs 0 16) = none) :
    Calls Tryd.prog 9 #[.slice A n c] w (DReadPost w bs) := by
  have hq : dR bs = none := by
    unfold dR
    by_cases h : bs.length < 40
    · rw [if_pos h]
    · rw [if_neg h, hro]
  have ST := Lib.hid (dd_start A n c bs w hR hc hc2)
  have TO : Hid (∀ W cs k (m : Nat), Dd w W cs A n c bs k → k + m ≤ n → Calls Tryd.prog 32 #[.int .i64 (m : Int), .pointer (some ⟨w.heap.size + 1, 0, none⟩), .pointer (some ⟨w.heap.size + 2, 0, none⟩)] W (TakeOk W (w.heap.size + 1) (w.heap.size + 2) A n c bs k m)) := fun W cs k m h hm => take_ok _ _ A n c bs k m W h.t hm (by omega)
  have TN : Hid (∀ W cs k (m : Nat), Dd w W cs A n c bs k → n < k + m → m ≤ 65560 → Calls Tryd.prog 32 #[.int .i64 (m : Int), .pointer (some ⟨w.heap.size + 1, 0, none⟩), .pointer (some ⟨w.heap.size + 2, 0, none⟩)] W fun e w' => e = .returned (.tuple #[.slice none 0 0, .bool false]) ∧ W = w') := fun W cs k m h hm hm2 => take_no _ _ A n c bs k m W h.t hm (by omega) (by omega)
  have HLEN := Lib.hid hR.1
  have HRR := Lib.hid hR
  have GN : Hid (∀ W, Sizes W → Calls Tryd.prog 19 #[.slice none 0 0, .int .i64 0, .int .i64 4] W fun e w' => e = .returned (.tuple #[.int .u64 0, .int .i64 1]) ∧ W = w') := fun W hs => get_not none 0 0 0 4 W hs (by omega) (by omega) (by omega) (.inr (by simp [inB]))
  have SR := Lib.hid (fun A2 c2 W hr h1 h2 hs => sread_any A2 16 c2 (cut bs 0 16) W hr h1 h2 hs)
  rw [hro] at SR
  simp only [readV, Option.getD_none, Option.isSome_none, tmV, Tm.cells, Tm.zero] at SR
  clear hR hro
  go_enter Tryd.func9, Tryd.ntmps9
  go_wp2_with fail
  refine (ST.out _ rfl).mono ?_
  intro e w1 hw1
  obtain ⟨rfl, rd1⟩ := hw1
  clear ST
  have T4 := Lib.hid (TO.out w1 _ 0 16 rd1 (by omega))
  have HD1 := Lib.hid rd1
  clear rd1
  go_wp2_with fail
  refine T4.out.mono ?_
  rintro e w2 ⟨A2, c2, rfl, hown2, ht2, hg2⟩
  have HD2 := Lib.hid (HD1.out.step hg2 ht2)
  have hcp2 := hown2.cap
  unfold maxLen at hcp2
  have SR2 := Lib.hid (SR.out A2 c2 w2 hown2.rb (by omega) (by omega) (hT.below' HD2.out.b))
  clear hown2 ht2 hg2 T4 HD1 SR
  go_wp2_with fail
  refine SR2.out.mono ?_
  intro e w3 hw3
  obtain ⟨rfl, hb3⟩ := hw3
  have rd3 := HD2.out.below hb3
  clear hb3 HD2 SR2
  obtain ⟨a0, a1, a2, a3, a4, a5⟩ := cells6 rd3.z
  obtain ⟨f0, f1, f2, f3, f4, f5⟩ := free6 rd3.z
  have rdx := (rd3.put HRR.out (.int .u16 0) (.int .u8 0) (.int .u8 0) (.int .u8 0) (.int .u8 0) (.int .u8 0)).put HRR.out (.int .u16 0) (.int .u8 0) (.int .u8 0) (.int .u8 0) (.int .u8 0) (.int .u8 0)
  have HF := Lib.hid (dread_none (w := w) hq rdx.b)
  have HZ := Lib.hid rdx.z
  clear hq rdx rd3
  go_wp2
  refine bodyPost_ret (results_de rfl _ _ _ _ _ _ _ _ _ rfl HZ.out) rfl ?_
  exact HF.out
set_option maxHeartbeats 6400000 in
theorem dread_c (A : Option Addr) (n c : Nat) (bs : List UInt8) (w : World) (hR : RB w A n bs) (hc : n ≤ c) (hc2 : c ≤ 9223372036854775807) (hn : n ≤ 1000000) (hT : Sizes w) (h16 : 16 ≤ n) (hro : readO (cut bs 0 16) = some Tm.zero) :
    Calls Tryd.prog 9 #[.slice A n c] w (DReadPost w bs) := by
  have hq : dR bs = none := by
    unfold dR
    by_cases h : bs.length < 40
    · rw [if_pos h]
    · rw [if_neg h, hro]; simp
  have ST := Lib.hid (dd_start A n c bs w hR hc hc2)
  have TO : Hid (∀ W cs k (m : Nat), Dd w W cs A n c bs k → k + m ≤ n → Calls Tryd.prog 32 #[.int .i64 (m : Int), .pointer (some ⟨w.heap.size + 1, 0, none⟩), .pointer (some ⟨w.heap.size + 2, 0, none⟩)] W (TakeOk W (w.heap.size + 1) (w.heap.size + 2) A n c bs k m)) := fun W cs k m h hm => take_ok _ _ A n c bs k m W h.t hm (by omega)
  have TN : Hid (∀ W cs k (m : Nat), Dd w W cs A n c bs k → n < k + m → m ≤ 65560 → Calls Tryd.prog 32 #[.int .i64 (m : Int), .pointer (some ⟨w.heap.size + 1, 0, none⟩), .pointer (some ⟨w.heap.size + 2, 0, none⟩)] W fun e w' => e = .returned (.tuple #[.slice none 0 0, .bool false]) ∧ W = w') := fun W cs k m h hm hm2 => take_no _ _ A n c bs k m W h.t hm (by omega) (by omega)
  have HLEN := Lib.hid hR.1
  have HRR := Lib.hid hR
  have GN : Hid (∀ W, Sizes W → Calls Tryd.prog 19 #[.slice none 0 0, .int .i64 0, .int .i64 4] W fun e w' => e = .returned (.tuple #[.int .u64 0, .int .i64 1]) ∧ W = w') := fun W hs => get_not none 0 0 0 4 W hs (by omega) (by omega) (by omega) (.inr (by simp [inB]))
  have SR := Lib.hid (fun A2 c2 W hr h1 h2 hs => sread_any A2 16 c2 (cut bs 0 16) W hr h1 h2 hs)
  rw [hro] at SR
  simp only [readV, Option.getD_some, Option.isSome_some, tmV, Tm.cells, Tm.zero] at SR
  have HEQ : ∀ W, (Op.equalIn 10000 25 (.agg #[.int .u16 0, .int .u8 0, .int .u8 0, .int .u8 0, .int .u8 0, .int .u8 0]) (.agg #[.int .u16 0, .int .u8 0, .int .u8 0, .int .u8 0, .int .u8 0, .int .u8 0])).run Tryd.prog W = .ok true W := fun W => (tm_same Tm.zero Tm.zero W 9998).trans (by simp)
  clear hR hro
  go_enter Tryd.func9, Tryd.ntmps9
  go_wp2_with fail
  refine (ST.out _ rfl).mono ?_
  intro e w1 hw1
  obtain ⟨rfl, rd1⟩ := hw1
  clear ST
  have T4 := Lib.hid (TO.out w1 _ 0 16 rd1 (by omega))
  have HD1 := Lib.hid rd1
  clear rd1
  go_wp2_with fail
  refine T4.out.mono ?_
  rintro e w2 ⟨A2, c2, rfl, hown2, ht2, hg2⟩
  have HD2 := Lib.hid (HD1.out.step hg2 ht2)
  have hcp2 := hown2.cap
  unfold maxLen at hcp2
  have SR2 := Lib.hid (SR.out A2 c2 w2 hown2.rb (by omega) (by omega) (hT.below' HD2.out.b))
  clear hown2 ht2 hg2 T4 HD1 SR
  go_wp2_with fail
  refine SR2.out.mono ?_
  intro e w3 hw3
  obtain ⟨rfl, hb3⟩ := hw3
  have rd3 := HD2.out.below hb3
  clear hb3 HD2 SR2
  obtain ⟨a0, a1, a2, a3, a4, a5⟩ := cells6 rd3.z
  obtain ⟨f0, f1, f2, f3, f4, f5⟩ := free6 rd3.z
  have rdx := (rd3.put HRR.out (.int .u16 0) (.int .u8 0) (.int .u8 0) (.int .u8 0) (.int .u8 0) (.int .u8 0)).put HRR.out (.int .u16 0) (.int .u8 0) (.int .u8 0) (.int .u8 0) (.int .u8 0) (.int .u8 0)
  have HF := Lib.hid (dread_none (w := w) hq rdx.b)
  have HZ := Lib.hid rdx.z
  clear hq rdx rd3
  go_wp2
  refine bodyPost_ret (results_de rfl _ _ _ _ _ _ _ _ _ rfl HZ.out) rfl ?_
  exact HF.out
set_option maxHeartbeats 6400000 in
theorem dread_d (A : Option Addr) (n c : Nat) (bs : List UInt8) (w : World) (hR : RB w A n bs) (hc : n ≤ c) (hc2 : c ≤ 9223372036854775807) (hn : n ≤ 1000000) (hT : Sizes w) (h16 : 16 ≤ n) (u : Tm) (hro : readO (cut bs 0 16) = some u) (hnz : u ≠ Tm.zero) (h20 : n < 20) :
    Calls Tryd.prog 9 #[.slice A n c] w (DReadPost w bs) := by
  have hq : dR bs = none := by unfold dR; rw [if_pos (by rw [hR.1]; omega)]
  have ST := Lib.hid (dd_start A n c bs w hR hc hc2)
  have TO : Hid (∀ W cs k (m : Nat), Dd w W cs A n c bs k → k + m ≤ n → Calls Tryd.prog 32 #[.int .i64 (m : Int), .pointer (some ⟨w.heap.size + 1, 0, none⟩), .pointer (some ⟨w.heap.size + 2, 0, none⟩)] W (TakeOk W (w.heap.size + 1) (w.heap.size + 2) A n c bs k m)) := fun W cs k m h hm => take_ok _ _ A n c bs k m W h.t hm (by omega)
  have TN : Hid (∀ W cs k (m : Nat), Dd w W cs A n c bs k → n < k + m → m ≤ 65560 → Calls Tryd.prog 32 #[.int .i64 (m : Int), .pointer (some ⟨w.heap.size + 1, 0, none⟩), .pointer (some ⟨w.heap.size + 2, 0, none⟩)] W fun e w' => e = .returned (.tuple #[.slice none 0 0, .bool false]) ∧ W = w') := fun W cs k m h hm hm2 => take_no _ _ A n c bs k m W h.t hm (by omega) (by omega)
  have HLEN := Lib.hid hR.1
  have HRR := Lib.hid hR
  have GN : Hid (∀ W, Sizes W → Calls Tryd.prog 19 #[.slice none 0 0, .int .i64 0, .int .i64 4] W fun e w' => e = .returned (.tuple #[.int .u64 0, .int .i64 1]) ∧ W = w') := fun W hs => get_not none 0 0 0 4 W hs (by omega) (by omega) (by omega) (.inr (by simp [inB]))
  have SR := Lib.hid (fun A2 c2 W hr h1 h2 hs => sread_any A2 16 c2 (cut bs 0 16) W hr h1 h2 hs)
  rw [hro] at SR
  simp only [readV, Option.getD_some, Option.isSome_some, tmV, Tm.cells] at SR
  obtain ⟨y, mo, dd, hh, mi, ss⟩ := u
  simp only at SR
  have HEQ : ∀ W, (Op.equalIn 10000 25 (.agg #[.int .u16 (y : Int), .int .u8 (mo.toNat : Int), .int .u8 (dd.toNat : Int), .int .u8 (hh.toNat : Int), .int .u8 (mi.toNat : Int), .int .u8 (ss.toNat : Int)]) (.agg #[.int .u16 0, .int .u8 0, .int .u8 0, .int .u8 0, .int .u8 0, .int .u8 0])).run Tryd.prog W = .ok false W := fun W => (tm_same ⟨y, mo, dd, hh, mi, ss⟩ Tm.zero W 9998).trans (by rw [decide_eq_false hnz])
  clear hR hro hnz
  go_enter Tryd.func9, Tryd.ntmps9
  go_wp2_with fail
  refine (ST.out _ rfl).mono ?_
  intro e w1 hw1
  obtain ⟨rfl, rd1⟩ := hw1
  clear ST
  have T4 := Lib.hid (TO.out w1 _ 0 16 rd1 (by omega))
  have HD1 := Lib.hid rd1
  clear rd1
  go_wp2_with fail
  refine T4.out.mono ?_
  rintro e w2 ⟨A2, c2, rfl, hown2, ht2, hg2⟩
  have HD2 := Lib.hid (HD1.out.step hg2 ht2)
  have hcp2 := hown2.cap
  unfold maxLen at hcp2
  have SR2 := Lib.hid (SR.out A2 c2 w2 hown2.rb (by omega) (by omega) (hT.below' HD2.out.b))
  clear hown2 ht2 hg2 T4 HD1 SR
  go_wp2_with fail
  refine SR2.out.mono ?_
  intro e w3 hw3
  obtain ⟨rfl, hb3⟩ := hw3
  have rd3 := HD2.out.below hb3
  clear hb3 HD2 SR2
  obtain ⟨a0, a1, a2, a3, a4, a5⟩ := cells6 rd3.z
  obtain ⟨f0, f1, f2, f3, f4, f5⟩ := free6 rd3.z
  have HD4 := Lib.hid (rd3.put HRR.out (.int .u16 (y : Int)) (.int .u8 (mo.toNat : Int)) (.int .u8 (dd.toNat : Int)) (.int .u8 (hh.toNat : Int)) (.int .u8 (mi.toNat : Int)) (.int .u8 (ss.toNat : Int)))
  clear rd3
  go_wp2_with fail
  refine calls_named fun w4 hw4 => ?_
  have rd4 : Dd w w4 #[.int .u16 (y : Int), .int .u8 (mo.toNat : Int), .int .u8 (dd.toNat : Int), .int .u8 (hh.toNat : Int), .int .u8 (mi.toNat : Int), .int .u8 (ss.toNat : Int)] A n c bs 16 := hw4 ▸ HD4.out
  clear hw4 HD4 a0 a1 a2 a3 a4 a5 f0 f1 f2 f3 f4 f5
  have T5 := Lib.hid (TN.out w4 _ 16 4 rd4 (by omega) (by omega))
  have T6 := Lib.hid (TN.out w4 _ 16 20 rd4 (by omega) (by omega))
  have G5 := Lib.hid (GN.out w4 (hT.below' rd4.b))
  refine T5.out.mono ?_
  rintro e w' ⟨rfl, rfl⟩
  go_wp2_with fail
  refine G5.out.mono ?_
  rintro e w' ⟨rfl, rfl⟩
  go_wp2_with fail
  refine T6.out.mono ?_
  rintro e w' ⟨rfl, rfl⟩
  clear T5 T6 G5
  obtain ⟨a0, a1, a2, a3, a4, a5⟩ := cells6 rd4.z
  obtain ⟨f0, f1, f2, f3, f4, f5⟩ := free6 rd4.z
  have rdx := rd4.put HRR.out (.int .u16 0) (.int .u8 0) (.int .u8 0) (.int .u8 0) (.int .u8 0) (.int .u8 0)
  have HF := Lib.hid (dread_none (w := w) hq rdx.b)
  have HZ := Lib.hid rdx.z
  clear hq rdx rd4
  go_wp2
  refine bodyPost_ret (results_de rfl _ _ _ _ _ _ _ _ _ rfl HZ.out) rfl ?_
  exact HF.out
set_option maxHeartbeats 6400000 in
theorem dread_e (A : Option Addr) (n c : Nat) (bs : List UInt8) (w : World) (hR : RB w A n bs) (hc : n ≤ c) (hc2 : c ≤ 9223372036854775807) (hn : n ≤ 1000000) (hT : Sizes w) (h16 : 16 ≤ n) (u : Tm) (hro : readO (cut bs 0 16) = some u) (hnz : u ≠ Tm.zero) (h20 : 20 ≤ n) (h40 : n < 40) :
    Calls Tryd.prog 9 #[.slice A n c] w (DReadPost w bs) := by
  have hq : dR bs = none := by unfold dR; rw [if_pos (by rw [hR.1]; omega)]
  have ST := Lib.hid (dd_start A n c bs w hR hc hc2)
  have TO : Hid (∀ W cs k (m : Nat), Dd w W cs A n c bs k → k + m ≤ n → Calls Tryd.prog 32 #[.int .i64 (m : Int), .pointer (some ⟨w.heap.size + 1, 0, none⟩), .pointer (some ⟨w.heap.size + 2, 0, none⟩)] W (TakeOk W (w.heap.size + 1) (w.heap.size + 2) A n c bs k m)) := fun W cs k m h hm => take_ok _ _ A n c bs k m W h.t hm (by omega)
  have TN : Hid (∀ W cs k (m : Nat), Dd w W cs A n c bs k → n < k + m → m ≤ 65560 → Calls Tryd.prog 32 #[.int .i64 (m : Int), .pointer (some ⟨w.heap.size + 1, 0, none⟩), .pointer (some ⟨w.heap.size + 2, 0, none⟩)] W fun e w' => e = .returned (.tuple #[.slice none 0 0, .bool false]) ∧ W = w') := fun W cs k m h hm hm2 => take_no _ _ A n c bs k m W h.t hm (by omega) (by omega)
  have HLEN := Lib.hid hR.1
  have HRR := Lib.hid hR
  have GN : Hid (∀ W, Sizes W → Calls Tryd.prog 19 #[.slice none 0 0, .int .i64 0, .int .i64 4] W fun e w' => e = .returned (.tuple #[.int .u64 0, .int .i64 1]) ∧ W = w') := fun W hs => get_not none 0 0 0 4 W hs (by omega) (by omega) (by omega) (.inr (by simp [inB]))
  have SR := Lib.hid (fun A2 c2 W hr h1 h2 hs => sread_any A2 16 c2 (cut bs 0 16) W hr h1 h2 hs)
  rw [hro] at SR
  simp only [readV, Option.getD_some, Option.isSome_some, tmV, Tm.cells] at SR
  obtain ⟨y, mo, dd, hh, mi, ss⟩ := u
  simp only at SR
  have HEQ : ∀ W, (Op.equalIn 10000 25 (.agg #[.int .u16 (y : Int), .int .u8 (mo.toNat : Int), .int .u8 (dd.toNat : Int), .int .u8 (hh.toNat : Int), .int .u8 (mi.toNat : Int), .int .u8 (ss.toNat : Int)]) (.agg #[.int .u16 0, .int .u8 0, .int .u8 0, .int .u8 0, .int .u8 0, .int .u8 0])).run Tryd.prog W = .ok false W := fun W => (tm_same ⟨y, mo, dd, hh, mi, ss⟩ Tm.zero W 9998).trans (by rw [decide_eq_false hnz])
  have e4 : cut (cut bs 16 4) 0 4 = cut bs 16 4 := by unfold cut; simp [List.take_take]
  have HE4 := Lib.hid e4
  clear e4
  have SC : ∀ W, (convert 22 9 (.slice none 0 0)).run Tryd.prog W = .ok (.string ByteArray.empty) W := fun W => run_strOf W 0 none [] 0 Bs.nil
  generalize leN (cut bs 16 4) = lv at *
  clear hR hro hnz
  go_enter Tryd.func9, Tryd.ntmps9
  go_wp2_with fail
  refine (ST.out _ rfl).mono ?_
  intro e w1 hw1
  obtain ⟨rfl, rd1⟩ := hw1
  clear ST
  have T4 := Lib.hid (TO.out w1 _ 0 16 rd1 (by omega))
  have HD1 := Lib.hid rd1
  clear rd1
  go_wp2_with fail
  refine T4.out.mono ?_
  rintro e w2 ⟨A2, c2, rfl, hown2, ht2, hg2⟩
  have HD2 := Lib.hid (HD1.out.step hg2 ht2)
  have hcp2 := hown2.cap
  unfold maxLen at hcp2
  have SR2 := Lib.hid (SR.out A2 c2 w2 hown2.rb (by omega) (by omega) (hT.below' HD2.out.b))
  clear hown2 ht2 hg2 T4 HD1 SR
  go_wp2_with fail
  refine SR2.out.mono ?_
  intro e w3 hw3
  obtain ⟨rfl, hb3⟩ := hw3
  have rd3 := HD2.out.below hb3
  clear hb3 HD2 SR2
  obtain ⟨a0, a1, a2, a3, a4, a5⟩ := cells6 rd3.z
  obtain ⟨f0, f1, f2, f3, f4, f5⟩ := free6 rd3.z
  have HD4 := Lib.hid (rd3.put HRR.out (.int .u16 (y : Int)) (.int .u8 (mo.toNat : Int)) (.int .u8 (dd.toNat : Int)) (.int .u8 (hh.toNat : Int)) (.int .u8 (mi.toNat : Int)) (.int .u8 (ss.toNat : Int)))
  clear rd3
  go_wp2_with fail
  refine calls_named fun w4 hw4 => ?_
  have rd4 : Dd w w4 #[.int .u16 (y : Int), .int .u8 (mo.toNat : Int), .int .u8 (dd.toNat : Int), .int .u8 (hh.toNat : Int), .int .u8 (mi.toNat : Int), .int .u8 (ss.toNat : Int)] A n c bs 16 := hw4 ▸ HD4.out
  clear hw4 HD4 a0 a1 a2 a3 a4 a5 f0 f1 f2 f3 f4 f5
  have T5 := Lib.hid (TO.out w4 _ 16 4 rd4 (by omega))
  have HD4 := Lib.hid rd4
  clear rd4
  refine T5.out.mono ?_
  rintro e w5 ⟨A5, c5, rfl, hown5, ht5, hg5⟩
  have HD5 := Lib.hid (HD4.out.step hg5 ht5)
  have G5 := get_ok A5 4 c5 _ 0 4 w5 hown5.rb (hT.below' HD5.out.b) (by omega) rfl (by omega)
  rw [HE4.out] at G5
  have G5 := Lib.hid G5
  clear hown5 ht5 hg5 T5 HD4
  go_wp2_with fail
  refine G5.out.mono ?_
  rintro e w' ⟨rfl, rfl⟩
  clear G5
  have T6 := Lib.hid (TN.out w5 _ 20 20 HD5.out (by omega) (by omega))
  go_wp2_with fail
  refine T6.out.mono ?_
  rintro e w' ⟨rfl, rfl⟩
  have rd5 := HD5.out
  clear T6 HD5
  obtain ⟨a0, a1, a2, a3, a4, a5⟩ := cells6 rd5.z
  obtain ⟨f0, f1, f2, f3, f4, f5⟩ := free6 rd5.z
  have rdx := rd5.put HRR.out (.int .u16 0) (.int .u8 0) (.int .u8 0) (.int .u8 0) (.int .u8 0) (.int .u8 0)
  have HF := Lib.hid (dread_none (w := w) hq rdx.b)
  have HZ := Lib.hid rdx.z
  clear hq rdx rd5
  go_wp2
  refine bodyPost_ret (results_de rfl _ _ _ _ _ _ _ _ _ rfl HZ.out) rfl ?_
  exact HF.out
end Go.Proofs.YthmmipcfabijdaaDoor
