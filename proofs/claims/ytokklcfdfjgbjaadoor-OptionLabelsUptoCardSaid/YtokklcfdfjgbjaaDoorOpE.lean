/-
  option: Read.
-/
import Derived.Test.YtokklcfdfjgbjaaDoorOpD
import Derived.Laws.ResultCell
import Derived.Laws.Rows
namespace Go.Proofs.YtokklcfdfjgbjaaDoor
open Go.RowKit Go
set_option linter.unusedVariables false
set_option maxRecDepth 100000
theorem heap_set_here (w : World) (g j : Nat) (cs : Array Value) (t : TypeId) (fr : Nat × Nat) (u : Value) (hg : w.heap[g]? = some (.cells cs t fr)) : (w.setCell ⟨g, j, none⟩ u).heap[g]? = some (.cells (cs.setIfInBounds j u) t fr) := by
  have hlt := (Array.getElem?_eq_some_iff.1 hg).1
  simp [World.setCell, Array.getElem?_modify, hg]
section
variable {w : World} {g : Nat} {a0 a1 a2 a3 v0 v1 v2 v3 : Value}
theorem free4 (hk : w.heap[g]? = some (.cells #[a0, a1, a2, a3] 25)) :
    w.frozen? ⟨g, 0, none⟩ = false ∧ w.frozen? ⟨g, 1, none⟩ = false ∧ w.frozen? ⟨g, 2, none⟩ = false ∧ w.frozen? ⟨g, 3, none⟩ = false :=
  ⟨Lib.frozen_of_heap hk 0, Lib.frozen_of_heap hk 1, Lib.frozen_of_heap hk 2, Lib.frozen_of_heap hk 3⟩
theorem set4 (hk : w.heap[g]? = some (.cells #[a0, a1, a2, a3] 25)) :
    ((((w.setCell ⟨g, 0, none⟩ v0).setCell ⟨g, 1, none⟩ v1).setCell ⟨g, 2, none⟩ v2).setCell ⟨g, 3, none⟩ v3).heap[g]? = some (.cells #[v0, v1, v2, v3] 25) :=
  heap_set_here _ _ _ _ _ _ _ (heap_set_here _ _ _ _ _ _ _ (heap_set_here _ _ _ _ _ _ _ (heap_set_here _ _ _ _ _ _ _ hk)))
theorem below4 {B : Nat} {u : World} (h : Below B u w) (hg : B ≤ g) : Below B u ((((w.setCell ⟨g, 0, none⟩ v0).setCell ⟨g, 1, none⟩ v1).setCell ⟨g, 2, none⟩ v2).setCell ⟨g, 3, none⟩ v3) :=
  (((h.setCell hg _).setCell hg _).setCell hg _).setCell hg _
theorem grown4 (w : World) (g : Nat) (v0 v1 v2 v3 : Value) : w.grownBy ((((w.setCell ⟨g, 0, none⟩ v0).setCell ⟨g, 1, none⟩ v1).setCell ⟨g, 2, none⟩ v2).setCell ⟨g, 3, none⟩ v3) (some g) :=
  grown_trans (grown_trans (grown_trans (grown_set1 w g 0 v0) (grown_set1 _ g 1 v1)) (grown_set1 _ g 2 v2)) (grown_set1 _ g 3 v3)
theorem results_op {fn : Func} {p u : Tmp} (h : fn.results = #[.cell p 25, .tmp u]) (tmps : Array Value) (w : World) (hp : tmps.getD p undef = .pointer (some ⟨g, 0, none⟩)) (hg : w.heap[g]? = some (.cells #[v0, v1, v2, v3] 25)) :
    (results fn tmps).run Tryd.prog w = .ok (.tuple #[.agg #[v0, v1, v2, v3], tmps.getD u undef]) w := by
  rw [results_cell_tmp h, hp]
  simp [asAddr, run_loadVar_row w g _ 25 _ _ _ hg Tryd.underlying25 rfl (by kernel_rfl), Result.andThen]
end
def opZ : Value := .agg #[.int .u32 0, .string ByteArray.empty, .slice none 0 0, .slice none 0 0]
/-- What bytes tell of an option. -/
def readQ (bs : List UInt8) : Option (Nat × List UInt8 × List UInt8 × List UInt8) :=
  if bs.length < 6 then none else
  match scan (bs.drop 6) with
  | none => none
  | some wl => match narrowS wl with
    | none => none
    | some l => if 6 + wl.length + 2 + leN (cut bs 4 2) ≤ bs.length then some (leN (cut bs 0 4), l, cut bs (6 + wl.length + 2) (leN (cut bs 4 2)), bs.drop (6 + wl.length + 2 + leN (cut bs 4 2))) else none
/-- What Read answers. -/
def ReadPost (w : World) (bs : List UInt8) (e : Ending) (w' : World) : Prop :=
  match readQ bs with
  | none => e = .returned (.tuple #[opZ, .int .i64 9]) ∧ Below w.heap.size w w'
  | some x => ∃ P pn pc D dn dc, e = .returned (.tuple #[.agg #[.int .u32 (x.1 : Int), .string (strOf x.2.1), .slice P pn pc, .slice D dn dc], .int .i64 0]) ∧
      OwnB w' w.heap.size P pn pc x.2.2.1 ∧ OwnB w' w.heap.size D dn dc x.2.2.2 ∧ (blk P = none ∨ blk P ≠ blk D) ∧ Below w.heap.size w w'
theorem read_none {w w' : World} {bs : List UInt8} (h : readQ bs = none) (hb : Below w.heap.size w w') : ReadPost w bs (.returned (.tuple #[opZ, .int .i64 9])) w' := by
  simp only [ReadPost, h]; exact ⟨trivial, hb⟩
/-- Where Read stands. -/
structure Rd (w w1 : World) (A : Option Addr) (n c : Nat) (bs : List UInt8) (k : Nat) : Prop where
  b : Below w.heap.size w w1
  z : w1.heap[w.heap.size]? = some (.cells #[.int .u32 0, .string ByteArray.empty, .slice none 0 0, .slice none 0 0] 25)
  t : Take w1 (w.heap.size + 1) (w.heap.size + 2) A n c bs k
theorem Rd.step {w w1 w2 : World} {A : Option Addr} {n c : Nat} {bs : List UInt8} {k k2 : Nat} (h : Rd w w1 A n c bs k) (hg : w1.grownBy w2 (some (w.heap.size + 2))) (ht : Take w2 (w.heap.size + 1) (w.heap.size + 2) A n c bs k2) : Rd w w2 A n c bs k2 :=
  ⟨h.b.grown hg h.b.size (fun g e => by injection e with e; omega), (hg.block _ (heap_lt h.z) (fun e => by injection e with e; omega)).trans h.z, ht⟩
/-- What the closure answers, be there so many bytes or not. -/
def TakeAny (w : World) (P0 P1 : Nat) (A : Option Addr) (n c : Nat) (bs : List UInt8) (e : Ending) (w' : World) : Prop :=
  ∃ A' m' c' ok k, e = .returned (.tuple #[.slice A' m' c', .bool ok]) ∧ Take w' P0 P1 A n c bs k ∧ w.grownBy w' (some P1)
theorem take_any (P0 P1 : Nat) (A : Option Addr) (n c : Nat) (bs : List UInt8) (k m : Nat) (w : World) (h : Take w P0 P1 A n c bs k) (hm : m ≤ 9223372036854775807) (hn : n ≤ 1000000000) :
    Calls Tryd.prog 35 #[.int .i64 (m : Int), .pointer (some ⟨P0, 0, none⟩), .pointer (some ⟨P1, 0, none⟩)] w (TakeAny w P0 P1 A n c bs) := by
  by_cases hin : k + m ≤ n
  · exact (take_ok P0 P1 A n c bs k m w h hin hn).mono fun e w' ⟨A', c', h1, h2, h3, h4⟩ => ⟨A', m, c', true, _, h1, h3, h4⟩
  · exact (take_no P0 P1 A n c bs k m w h (by omega) hm hn).mono fun e w' ⟨h1, h2⟩ => ⟨none, 0, 0, false, k, h1, h2 ▸ h, h2 ▸ World.grownBy.refl w _⟩
theorem rd_start (A : Option Addr) (n c : Nat) (bs : List UInt8) (w : World) (hR : RB w A n bs) (hc : n ≤ c) (hc2 : c ≤ 9223372036854775807) : ∀ w0, (w.alloc (.cells #[.int .u32 0, .string ByteArray.empty, .slice none 0 0, .slice none 0 0] 25)) = w0 →
    Calls Tryd.prog 26 #[.slice A n c] w0 fun e w' => e = .returned (.func (Fn.func 35) #[] #[.pointer (some ⟨w.heap.size + 1, 0, none⟩), .pointer (some ⟨w.heap.size + 2, 0, none⟩)]) ∧ Rd w w' A n c bs 0 := by
  rintro w0 rfl
  refine (taker_any A n c bs _ (hR.alloc _) hc hc2).mono ?_
  intro e w' h
  obtain ⟨h1, h2, h3, h4⟩ := h
  have e1 : (w.alloc (.cells #[.int .u32 0, .string ByteArray.empty, .slice none 0 0, .slice none 0 0] 25)).heap.size = w.heap.size + 1 := by simp
  rw [e1] at h1 h2 h3
  refine ⟨h1, ?_, ?_, h2⟩
  · exact ((Below.refl _ _).alloc (Nat.le_refl _) _).trans (h3.mono (by omega))
  · exact (h3.block _ (by omega)).trans (heap_alloc_new w _)
set_option maxHeartbeats 3200000 in
theorem oread_any (A : Option Addr) (n c : Nat) (bs : List UInt8) (w : World) (hR : RB w A n bs) (hc : n ≤ c) (hc2 : c ≤ 9223372036854775807) (hn : n ≤ 1000000) (hT : Sizes w) :
    Calls Tryd.prog 18 #[.slice A n c] w (ReadPost w bs) := by
  have ST := Lib.hid (rd_start A n c bs w hR hc hc2)
  have TA : Hid (∀ W k (m : Nat), Rd w W A n c bs k → m ≤ 65536 → Calls Tryd.prog 35 #[.int .i64 (m : Int), .pointer (some ⟨w.heap.size + 1, 0, none⟩), .pointer (some ⟨w.heap.size + 2, 0, none⟩)] W (TakeAny W (w.heap.size + 1) (w.heap.size + 2) A n c bs)) := fun W k m h hm => take_any _ _ A n c bs k m W h.t (by omega) (by omega)
  have TO : Hid (∀ W k (m : Nat), Rd w W A n c bs k → k + m ≤ n → Calls Tryd.prog 35 #[.int .i64 (m : Int), .pointer (some ⟨w.heap.size + 1, 0, none⟩), .pointer (some ⟨w.heap.size + 2, 0, none⟩)] W (TakeOk W (w.heap.size + 1) (w.heap.size + 2) A n c bs k m)) := fun W k m h hm => take_ok _ _ A n c bs k m W h.t hm (by omega)
  have TN : Hid (∀ W k (m : Nat), Rd w W A n c bs k → n < k + m → m ≤ 65536 → Calls Tryd.prog 35 #[.int .i64 (m : Int), .pointer (some ⟨w.heap.size + 1, 0, none⟩), .pointer (some ⟨w.heap.size + 2, 0, none⟩)] W fun e w' => e = .returned (.tuple #[.slice none 0 0, .bool false]) ∧ W = w') := fun W k m h hm hm2 => take_no _ _ A n c bs k m W h.t hm (by omega) (by omega)
  have TR : Hid (∀ W k, Rd w W A n c bs k → Calls Tryd.prog 35 #[.int .i64 (-1), .pointer (some ⟨w.heap.size + 1, 0, none⟩), .pointer (some ⟨w.heap.size + 2, 0, none⟩)] W (TakeOk W (w.heap.size + 1) (w.heap.size + 2) A n c bs k (n - k))) := fun W k h => take_rest _ _ A n c bs k W h.t (by omega)
  have LB : Hid (∀ W k, Rd w W A n c bs k → Calls Tryd.prog 28 #[.func (Fn.func 35) #[] #[.pointer (some ⟨w.heap.size + 1, 0, none⟩), .pointer (some ⟨w.heap.size + 2, 0, none⟩)]] W (LabelPost W (w.heap.size + 1) (w.heap.size + 2) A n c bs k)) := fun W k h => label_any _ _ A n c bs k W h.t hn
  have hlen := hR.1
  have HLEN := Lib.hid hlen
  have GN : Hid (∀ W k, Sizes W → isSz k = true → k ≤ 8 → 0 < k → Calls Tryd.prog 27 #[.slice none 0 0, .int .i64 0, .int .i64 k] W fun e w' => e = .returned (.tuple #[.int .u64 0, .int .i64 1]) ∧ W = w') := fun W k hs hk h8 h0 => get_not none 0 0 0 k W hs (by omega) (by omega) (by omega) (.inr (by simp [inB]; omega))
  clear hlen hR
  by_cases hn4 : n < 4
  · have hq : readQ bs = none := by unfold readQ; rw [if_pos (by rw [HLEN.out]; omega)]
    go_enter Tryd.func18, Tryd.ntmps18
    go_wp2_with fail
    refine (ST.out _ rfl).mono ?_
    intro e w1 hw1
    obtain ⟨rfl, rd1⟩ := hw1
    clear ST
    have T4 := Lib.hid (TN.out w1 0 4 rd1 (by omega) (by omega))
    have HRD1 := Lib.hid rd1
    clear rd1
    go_wp2_with fail
    refine T4.out.mono ?_
    rintro e w' ⟨rfl, rfl⟩
    have T2 := Lib.hid (TA.out w1 0 2 HRD1.out (by omega))
    go_wp2_with fail
    refine T2.out.mono ?_
    rintro e w2 ⟨A2, n2, c2, ok2, k2, rfl, ht2, hg2⟩
    have rd2 := HRD1.out.step hg2 ht2
    clear ht2 hg2
    go_wp2_with fail
    refine (GN.out w2 4 (hT.below' rd2.b) rfl (by omega) (by omega)).mono ?_
    rintro e w' ⟨rfl, rfl⟩
    obtain ⟨a0, a1, a2, a3⟩ := cells4 rd2.z
    obtain ⟨f0, f1, f2, f3⟩ := free4 rd2.z
    have HF := Lib.hid (read_none (w := w) hq (below4 (v0 := .int .u32 0) (v1 := .string ByteArray.empty) (v2 := .slice none 0 0) (v3 := .slice none 0 0) rd2.b (Nat.le_refl _)))
    have HZ := Lib.hid rd2.z
    clear hq
    go_wp2
    refine bodyPost_ret (results_op rfl _ _ rfl (set4 HZ.out)) rfl ?_
    exact HF.out
  by_cases hn6 : n < 6
  · have hq : readQ bs = none := by unfold readQ; rw [if_pos (by rw [HLEN.out]; omega)]
    go_enter Tryd.func18, Tryd.ntmps18
    go_wp2_with fail
    refine (ST.out _ rfl).mono ?_
    intro e w1 hw1
    obtain ⟨rfl, rd1⟩ := hw1
    clear ST
    have T4 := Lib.hid (TO.out w1 0 4 rd1 (by omega))
    have HRD1 := Lib.hid rd1
    clear rd1
    go_wp2_with fail
    refine T4.out.mono ?_
    rintro e w2 ⟨A2, c2, rfl, hown2, ht2, hg2⟩
    have HRD2 := Lib.hid (HRD1.out.step hg2 ht2)
    have HO2 := Lib.hid hown2
    have HG2 := Lib.hid hg2
    clear hown2 ht2 hg2 T4
    have T2 := Lib.hid (TN.out w2 4 2 HRD2.out (by omega) (by omega))
    go_wp2_with fail
    refine T2.out.mono ?_
    rintro e w' ⟨rfl, rfl⟩
    have G4 := Lib.hid (get_ok A2 4 c2 _ 0 4 w2 HO2.out.rb (hT.below' HRD2.out.b) (by omega) rfl (by omega))
    go_wp2_with fail
    refine G4.out.mono ?_
    rintro e w' ⟨rfl, rfl⟩
    go_wp2_with fail
    refine (GN.out w2 2 (hT.below' HRD2.out.b) rfl (by omega) (by omega)).mono ?_
    rintro e w' ⟨rfl, rfl⟩
    have rd2 := HRD2.out
    obtain ⟨a0, a1, a2, a3⟩ := cells4 rd2.z
    obtain ⟨f0, f1, f2, f3⟩ := free4 rd2.z
    have HF := Lib.hid (read_none (w := w) hq (below4 (v0 := .int .u32 0) (v1 := .string ByteArray.empty) (v2 := .slice none 0 0) (v3 := .slice none 0 0) rd2.b (Nat.le_refl _)))
    have HZ := Lib.hid rd2.z
    clear hq
    go_wp2
    refine bodyPost_ret (results_op rfl _ _ rfl (set4 HZ.out)) rfl ?_
    exact HF.out
  have hq6 : readQ bs = (match scan (bs.drop 6) with | none => none | some wl => match narrowS wl with | none => none | some l => if 6 + wl.length + 2 + leN (cut bs 4 2) ≤ bs.length then some (leN (cut bs 0 4), l, cut bs (6 + wl.length + 2) (leN (cut bs 4 2)), bs.drop (6 + wl.length + 2 + leN (cut bs 4 2))) else none) := by unfold readQ; rw [if_neg (by rw [HLEN.out]; omega)]
  rw [HLEN.out] at hq6
  have hm : leN (cut bs 4 2) < 65536 := by
    have := leN_lt (cut bs 4 2)
    rw [cut_len _ _ _ (by rw [HLEN.out]; omega)] at this
    exact this
  have ha : leN (cut bs 0 4) < 4294967296 := by
    have := leN_lt (cut bs 0 4)
    rw [cut_len _ _ _ (by rw [HLEN.out]; omega)] at this
    exact this
  have e4 : cut (cut bs 0 4) 0 4 = cut bs 0 4 := by unfold cut; simp [List.take_take]
  have e2 : cut (cut bs 4 2) 0 2 = cut bs 4 2 := by unfold cut; simp [List.take_take]
  have HE4 := Lib.hid e4
  have HE2 := Lib.hid e2
  have HQ6 := Lib.hid hq6
  clear e4 e2 hq6
  go_enter Tryd.func18, Tryd.ntmps18
  go_wp2_with fail
  refine (ST.out _ rfl).mono ?_
  intro e w1 hw1
  obtain ⟨rfl, rd1⟩ := hw1
  clear ST
  have T4 := Lib.hid (TO.out w1 0 4 rd1 (by omega))
  have HRD1 := Lib.hid rd1
  clear rd1
  go_wp2_with fail
  refine T4.out.mono ?_
  rintro e w2 ⟨A2, c2, rfl, hown2, ht2, hg2⟩
  have HRD2 := Lib.hid (HRD1.out.step hg2 ht2)
  have HO2 := Lib.hid hown2
  have HG2 := Lib.hid hg2
  clear hown2 ht2 hg2 T4
  have T2 := Lib.hid (TO.out w2 4 2 HRD2.out (by omega))
  go_wp2_with fail
  refine T2.out.mono ?_
  rintro e w3 ⟨A3, c3, rfl, hown3, ht3, hg3⟩
  have HRD3 := Lib.hid (HRD2.out.step hg3 ht3)
  have HO3 := Lib.hid hown3
  have HO23 := Lib.hid (HO2.out.kept hg3 (by
    rcases hA : blk A2 with _ | g
    · exact .inl rfl
    · exact .inr (fun e => by have h7 := (HO2.out.blk_lt hA).1; have h8 := HRD1.out.t.size; injection e with e; omega)))
  clear hown3 ht3 hg3 T2
  have G4 := get_ok A2 4 c2 _ 0 4 w3 HO23.out.rb (hT.below' HRD3.out.b) (by omega) rfl (by omega)
  rw [HE4.out] at G4
  have G4 := Lib.hid G4
  go_wp2_with fail
  refine G4.out.mono ?_
  rintro e w' ⟨rfl, rfl⟩
  have G2 := get_ok A3 2 c3 _ 0 2 w3 HO3.out.rb (hT.below' HRD3.out.b) (by omega) rfl (by omega)
  rw [HE2.out] at G2
  have G2 := Lib.hid G2
  go_wp2_with fail
  refine G2.out.mono ?_
  rintro e w' ⟨rfl, rfl⟩
  have LB3 := Lib.hid (LB.out w3 6 HRD3.out)
  go_wp2_with fail
  refine LB3.out.mono ?_
  intro e w4 hp4
  unfold LabelPost at hp4
  generalize leN (cut bs 0 4) = av at *
  generalize hmm : leN (cut bs 4 2) = mv at *
  have HMM := Lib.hid hmm
  clear hmm
  cases hsc : scan (bs.drop 6) with
  | none =>
    rw [hsc] at hp4
    obtain ⟨⟨rfl, k4, ht4⟩, hg4⟩ := hp4
    have hq : readQ bs = none := by rw [HQ6.out, hsc]
    clear hsc
    have HRD4 := Lib.hid (HRD3.out.step hg4 ht4)
    clear hg4 ht4
    have T5 := Lib.hid (TA.out w4 _ mv HRD4.out (by omega))
    go_wp2_with fail
    refine T5.out.mono ?_
    rintro e w5 ⟨A5, n5, c5, ok5, k5, rfl, ht5, hg5⟩
    have rd5 := HRD4.out.step hg5 ht5
    clear ht5 hg5
    obtain ⟨a0, a1, a2, a3⟩ := cells4 rd5.z
    obtain ⟨f0, f1, f2, f3⟩ := free4 rd5.z
    have HF := Lib.hid (read_none (w := w) hq (below4 (v0 := .int .u32 0) (v1 := .string ByteArray.empty) (v2 := .slice none 0 0) (v3 := .slice none 0 0) rd5.b (Nat.le_refl _)))
    have HZ := Lib.hid rd5.z
    clear hq
    go_wp2
    refine bodyPost_ret (results_op rfl _ _ rfl (set4 HZ.out)) rfl ?_
    exact HF.out
  | some wl =>
    rw [hsc] at hp4
    simp only at hp4
    cases hns : narrowS wl with
    | none =>
      rw [hns] at hp4
      obtain ⟨⟨rfl, ht4⟩, hg4⟩ := hp4
      have hq : readQ bs = none := by rw [HQ6.out, hsc]; simp only; rw [hns]
      clear hsc hns
      have HRD4 := Lib.hid (HRD3.out.step hg4 ht4)
      clear hg4 ht4
      have T5 := Lib.hid (TA.out w4 _ mv HRD4.out (by omega))
      go_wp2_with fail
      refine T5.out.mono ?_
      rintro e w5 ⟨A5, n5, c5, ok5, k5, rfl, ht5, hg5⟩
      have rd5 := HRD4.out.step hg5 ht5
      clear ht5 hg5
      obtain ⟨a0, a1, a2, a3⟩ := cells4 rd5.z
      obtain ⟨f0, f1, f2, f3⟩ := free4 rd5.z
      have HF := Lib.hid (read_none (w := w) hq (below4 (v0 := .int .u32 0) (v1 := .string ByteArray.empty) (v2 := .slice none 0 0) (v3 := .slice none 0 0) rd5.b (Nat.le_refl _)))
      have HZ := Lib.hid rd5.z
      clear hq
      go_wp2
      refine bodyPost_ret (results_op rfl _ _ rfl (set4 HZ.out)) rfl ?_
      exact HF.out
    | some l =>
      rw [hns] at hp4
      obtain ⟨⟨rfl, ht4⟩, hg4⟩ := hp4
      have HRD4 := Lib.hid (HRD3.out.step hg4 ht4)
      have hq7 : readQ bs = if 6 + wl.length + 2 + mv ≤ n then some (av, l, cut bs (6 + wl.length + 2) mv, bs.drop (6 + wl.length + 2 + mv)) else none := by rw [HQ6.out, hsc]; simp only; rw [hns]
      clear hsc hns hg4 ht4
      generalize 6 + wl.length + 2 = k at HRD4 hq7
      by_cases hin : k + mv ≤ n
      · rw [if_pos hin] at hq7
        have HQ7 := Lib.hid hq7
        clear hq7
        have T5 := Lib.hid (TO.out w4 k mv HRD4.out hin)
        go_wp2_with fail
        refine T5.out.mono ?_
        rintro e w5 ⟨A5, c5, rfl, hown5, ht5, hg5⟩
        have HRD5 := Lib.hid (HRD4.out.step hg5 ht5)
        have HO5 := Lib.hid hown5
        clear hown5 ht5 hg5 T5
        have T6 := Lib.hid (TR.out w5 (k + mv) HRD5.out)
        go_wp2_with fail
        refine T6.out.mono ?_
        rintro e w6 ⟨A6, c6, rfl, hown6, ht6, hg6⟩
        have HRD6 := Lib.hid (HRD5.out.step hg6 ht6)
        have hbsz : w.heap.size + 2 < w4.heap.size := HRD4.out.t.size
        have hbsz5 : w.heap.size + 2 < w5.heap.size := HRD5.out.t.size
        have hown56 := HO5.out.kept hg6 (by
          rcases hA : blk A5 with _ | g
          · exact .inl rfl
          · exact .inr (fun e => by have h7 := (HO5.out.blk_lt hA).1; injection e with e; omega))
        have hfar : blk A5 = none ∨ blk A5 ≠ blk A6 := by
          rcases hA : blk A5 with _ | g5
          · exact .inl rfl
          · refine .inr (fun e => ?_)
            have h7 := (HO5.out.blk_lt hA).2
            have h8 := (hown6.blk_lt e.symm).1
            omega
        have z6 := HRD6.out.z
        obtain ⟨a0, a1, a2, a3⟩ := cells4 z6
        obtain ⟨f0, f1, f2, f3⟩ := free4 z6
        have hcd : cut bs (k + mv) (n - (k + mv)) = bs.drop (k + mv) := by unfold cut; rw [List.take_of_length_le (by rw [List.length_drop, HLEN.out]; omega)]
        rw [hcd] at hown6
        have hG4 := grown4 w6 w.heap.size (.int .u32 (av : Int)) (.string (strOf l)) (.slice A5 mv c5) (.slice A6 (n - (k + mv)) c6)
        have hown5' := (hown56.kept hG4 (by
          rcases hA : blk A5 with _ | g
          · exact .inl rfl
          · exact .inr (fun e => by have h7 := (HO5.out.blk_lt hA).1; injection e with e; omega))).lower (base' := w.heap.size) (by omega)
        have hown6' := (hown6.kept hG4 (by
          rcases hA : blk A6 with _ | g
          · exact .inl rfl
          · exact .inr (fun e => by have h7 := (hown6.blk_lt hA).1; injection e with e; omega))).lower (base' := w.heap.size) (by omega)
        have HF : Hid (ReadPost w bs (.returned (.tuple #[.agg #[.int .u32 (av : Int), .string (strOf l), .slice A5 mv c5, .slice A6 (n - (k + mv)) c6], .int .i64 0])) ((((w6.setCell ⟨w.heap.size, 0, none⟩ (.int .u32 (av : Int))).setCell ⟨w.heap.size, 1, none⟩ (.string (strOf l))).setCell ⟨w.heap.size, 2, none⟩ (.slice A5 mv c5)).setCell ⟨w.heap.size, 3, none⟩ (.slice A6 (n - (k + mv)) c6))) := by
          simp only [Hid, ReadPost, HQ7.out]
          exact ⟨A5, mv, c5, A6, _, c6, rfl, hown5', hown6', hfar, below4 HRD6.out.b (Nat.le_refl _)⟩
        have HZ := Lib.hid z6
        clear z6 hown6 hown56 hfar hcd hG4 hown5' hown6' ht6 hg6
        go_wp2
        refine bodyPost_ret (results_op rfl _ _ rfl (set4 HZ.out)) rfl ?_
        exact HF.out
      · rw [if_neg hin] at hq7
        have hq := hq7
        clear hq7
        have T5 := Lib.hid (TN.out w4 k mv HRD4.out (by omega) (by omega))
        go_wp2_with fail
        refine T5.out.mono ?_
        rintro e w' ⟨rfl, rfl⟩
        have rd4 := HRD4.out
        obtain ⟨a0, a1, a2, a3⟩ := cells4 rd4.z
        obtain ⟨f0, f1, f2, f3⟩ := free4 rd4.z
        have HF := Lib.hid (read_none (w := w) hq (below4 (v0 := .int .u32 0) (v1 := .string ByteArray.empty) (v2 := .slice none 0 0) (v3 := .slice none 0 0) rd4.b (Nat.le_refl _)))
        have HZ := Lib.hid rd4.z
        clear hq
        go_wp2
        refine bodyPost_ret (results_op rfl _ _ rfl (set4 HZ.out)) rfl ?_
        exact HF.out
end Go.Proofs.YtokklcfdfjgbjaaDoor
