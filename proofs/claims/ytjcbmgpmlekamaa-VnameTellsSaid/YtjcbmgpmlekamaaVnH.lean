/-
  vname: Split of a key.
-/
import Derived.Test.YtjcbmgpmlekamaaVnE
import Derived.Test.YtjcbmgpmlekamaaRin
import Derived.Test.YtjcbmgpmlekamaaSg
import Derived.Test.YtjcbmgpmlekamaaVnB
import Derived.Laws.IdiomStrings
import Derived.Deep.MidRow
namespace Go.Proofs.Ytjcbmgpmlekamaa
open Go.RowKit Go
set_option linter.unusedVariables false
set_option linter.unusedSimpArgs false
set_option maxRecDepth 100000
/-- Every operation waits for elder ones alone. -/
def edgesBackA (ops : Array Oper) : Bool := (List.range ops.size).all fun i => match ops[i]? with | some o => o.after.all fun e => (!Region.binds .any e || decide (e.on < i)) | none => true
theorem ready_nil_allA {ops : Array Oper} (he : edgesBackA ops = true) {listed : Array Bool} (hsz : listed.size = ops.size) (hr : Region.ready .any ops listed = []) : ∀ j, j < ops.size → listed.getD j false = true := by
  intro j
  induction j using Nat.strongRecOn with
  | ind j ih =>
    intro hj
    cases hb : listed.getD j false with
    | true => rfl
    | false =>
      exfalso
      have hmem : j ∈ Region.ready .any ops listed := by
        unfold Region.ready
        rw [List.mem_filter]
        refine ⟨List.mem_range.2 hj, ?_⟩
        have h1 : listed.getD j true = false := by rw [getD_lt (by omega) true false]; exact hb
        have h2 := List.all_eq_true.1 he j (List.mem_range.2 hj)
        rw [Array.getElem?_eq_getElem hj] at h2 ⊢
        simp only [h1, Bool.not_false, Bool.true_and, Option.map_some, Option.getD_some]
        rw [Array.all_eq_true_iff_forall_mem] at h2 ⊢
        intro e hem
        have h3 := h2 e hem
        cases hb : Region.binds .any e with
        | false => rfl
        | true =>
          rw [hb] at h3
          have h3 := of_decide_eq_true h3
          rw [ih e.on h3 (by omega)]
          rfl
      rw [hr] at hmem
      cases hmem
theorem wpAny_invA {P : Program} {ops : Array Oper} {Q : Exit → Act → World → Prop} (he : edgesBackA ops = true) (I : Array Bool → Act → World → Prop)
    (hs : ∀ listed a w i, I listed a w → Comes ops listed i → wpOp P ops Q i (I (listed.setIfInBounds i true)) a w)
    (hf : ∀ listed a w, I listed a w → listed.size = ops.size → (∀ j, j < ops.size → listed.getD j false = true) → Q .normal a w) :
    ∀ (fuel : Nat) (listed : Array Bool) (a : Act) (w : World), listed.size = ops.size → listed.toList.count false ≤ fuel → I listed a w → wpAny P .any ops Q fuel listed a w := by
  intro fuel
  induction fuel with
  | zero =>
    intro listed a w hsz hc hI
    have hall : ∀ j, j < ops.size → listed.getD j false = true := fun j hj => by
      have hj2 : j < listed.size := by omega
      cases hb : listed.getD j false with
      | true => rfl
      | false =>
        exfalso
        have h1 : listed.toList[j]? = some false := by
          rw [Array.getElem?_toList, Array.getElem?_eq_getElem hj2]
          have : listed.getD j false = listed[j] := by simp [Array.getD, hj2]
          rw [← this, hb]
        have := cnt_set _ _ h1
        omega
    refine ⟨?_, hf listed a w hI hsz hall⟩
    unfold Region.ready
    rw [List.filter_eq_nil_iff]
    intro j hj
    have hj := List.mem_range.1 hj
    have h1 : listed.getD j true = true := by rw [getD_lt (by omega) true false]; exact hall j hj
    simp [h1]
  | succ fuel ih =>
    intro listed a w hsz hc hI
    refine ⟨fun hr => hf listed a w hI hsz (ready_nil_allA he hsz hr), fun i hi => ?_⟩
    unfold Region.ready at hi
    rw [List.mem_filter] at hi
    obtain ⟨h1, h2⟩ := hi
    have hlt := List.mem_range.1 h1
    simp only [Bool.and_eq_true, Bool.not_eq_true'] at h2
    have hun : listed.getD i false = false := by rw [getD_lt (by omega) false true]; exact h2.1
    have hC : Comes ops listed i := ⟨hsz, hlt, hun, fun o ho => by
      have h3 := h2.2
      rw [ho] at h3
      simpa using h3⟩
    refine wpOp_mono (fun a' w' hI' => ih _ a' w' (by simpa using hsz) ?_ hI') (hs listed a w i hI hC)
    have hj2 : i < listed.size := by omega
    have h4 : listed.toList[i]? = some false := by
      rw [Array.getElem?_toList, Array.getElem?_eq_getElem hj2]
      have : listed.getD i false = listed[i] := by simp [Array.getD, hj2]
      rw [← this, hun]
    have h5 := cnt_set _ _ h4
    rw [Array.toList_setIfInBounds]
    omega
theorem wp_region_invA {P : Program} {id : Nat} {ops : Array Oper} {Q : Exit → Act → World → Prop} {a : Act} {w : World} (hm : P.follows .mixedOrders = true) (he : edgesBackA ops = true) (I : Array Bool → Act → World → Prop)
    (h0 : I (Array.replicate ops.size false) a w.drew)
    (hs : ∀ listed a w i, I listed a w → Comes ops listed i → wpOp P ops Q i (I (listed.setIfInBounds i true)) a w)
    (hf : ∀ listed a w, I listed a w → listed.size = ops.size → (∀ j, j < ops.size → listed.getD j false = true) → Q .normal a w) : (Code.region id ops true).wp P Q a w :=
  wp_region_any hm (wpAny_invA he I hs hf _ _ _ _ (by simp) (by simp) h0)
theorem conv_s {W : World} {b : Nat} {G : List UInt8} (hG : G.length = 16) (s : ByteArray) {n : Nat} (h : RB W (some ⟨b, 0, none⟩) n (G ++ s.data.toList)) (hs : 1 ≤ s.size) (cap : Nat) : (convert 24 9 (.slice (some ⟨b, 16, none⟩) (n - 16) cap)).run Try.prog W = .ok (.string s) W := by
  have hn : n - 16 = s.data.toList.length := by have := h.1; rw [List.length_append, hG] at this; omega
  have hl : G ++ s.data.toList ≠ [] := fun h9 => by have := congrArg List.length h9; rw [List.length_append, hG] at this; simp at this
  obtain ⟨b', off, e, _, hc⟩ := h.2 hl
  injection e with e
  injection e with e1 e2
  subst e1 e2
  rw [hn]
  have := run_convert_bytes_back (P := Try.prog) W 24 9 5 ⟨b, 16, none⟩ cap s.data.toList Try.underlying24 Try.underlying5 Try.underlying9 (fun j hj => by
    rw [Addr.add_mid]
    have h9 := hc (16 + j) (by rw [List.length_append, hG]; omega)
    rw [List.getElem_append_right (by omega)] at h9
    rw [show 0 + (16 + j) = 16 + j by omega] at h9
    rw [h9]
    simp [hG])
  rw [this]
theorem range_k {W : World} {b : Nat} {G : List UInt8} (hG : G.length = 16) {L : List UInt8} {n : Nat} (h : RB W (some ⟨b, 0, none⟩) n (G ++ L)) : W.rangeAt b 0 (G.map bv) := fun j v hv => by
  have hj : j < 16 := by
    have := (List.getElem?_eq_some_iff.1 hv).1
    simpa [hG] using this
  have hl : G ++ L ≠ [] := fun h9 => by have := congrArg List.length h9; rw [List.length_append, hG] at this; simp at this
  obtain ⟨b', off, e, _, hc⟩ := h.2 hl
  injection e with e
  injection e with e1 e2
  subst e1 e2
  have h9 := hc j (by rw [List.length_append, hG]; omega)
  rw [h9, List.getElem_append_left (by omega), ← hv, List.getElem?_map, List.getElem?_eq_getElem (by omega)]
  rfl
theorem setCells_size (b : Nat) : ∀ (vs : List Value) (o : Nat) (w : World), (w.setCells b o vs).heap.size = w.heap.size
  | [], _, _ => rfl
  | v :: vs, o, w => by
    rw [World.setCells, setCells_size b vs]
    simp [World.setCell]
theorem bv_one (q : UInt8) : (bv q).oneCell' = true := rfl
theorem rb_setc {w : World} {b r n : Nat} {bs : List UInt8} {vs : List Value} (h : RB w (some ⟨b, 0, none⟩) n bs) (hb : b ≠ r) : RB (w.setCells r 0 vs) (some ⟨b, 0, none⟩) n bs := by
  refine ⟨h.1, fun hne => ?_⟩
  obtain ⟨b', off, e, h1, h2⟩ := h.2 hne
  injection e with e
  injection e with e1 e2
  subst e1 e2
  refine ⟨_, _, rfl, by have := setCells_size r vs 0 w; omega, fun k hk => ?_⟩
  rw [World.cell?_setCells_out r vs 0 w _ (fun h9 _ => absurd h9 hb)]
  exact h2 k hk
theorem setCells_tape (b : Nat) : ∀ (vs : List Value) (o : Nat) (w : World), (w.setCells b o vs).os = w.os ∧ (w.setCells b o vs).tape = w.tape ∧ (w.setCells b o vs).output = w.output
  | [], _, _ => ⟨rfl, rfl, rfl⟩
  | v :: vs, o, w => by
    rw [World.setCells]
    exact setCells_tape b vs (o + 1) (w.setCell ⟨b, o, none⟩ v)
theorem setCells_other (b : Nat) {k : Nat} (hk : k ≠ b) : ∀ (vs : List Value) (o : Nat) (w : World), (w.setCells b o vs).heap[k]? = w.heap[k]?
  | [], _, _ => rfl
  | v :: vs, o, w => by
    rw [World.setCells, setCells_other b hk vs]
    simp only [World.setCell]
    rw [Array.getElem?_modify, if_neg (fun h => hk h.symm)]
theorem below_setc {u w : World} {B r o : Nat} {vs : List Value} (h : Below B u w) (hr : B ≤ r) : Below B u (w.setCells r o vs) := by
  obtain ⟨e1, e2, e3⟩ := setCells_tape r vs o w
  exact ⟨e1.trans h.os, e2.trans h.tape, e3.trans h.output, by rw [setCells_size]; exact h.size, fun k hk => by rw [setCells_other r (by omega)]; exact h.block k hk⟩
theorem results_tct {fn : Func} {P : Program} {w : World} {ty : TypeId} {p u1 u2 : Tmp} (h : fn.results = #[.tmp u1, .cell p ty, .tmp u2]) (tmps : Array Value) {v : Value} (hp : LV P w ty (tmps.getD p undef) v) :
    (results fn tmps).run P w = .ok (.tuple #[tmps.getD u1 undef, v, tmps.getD u2 undef]) w := by
  obtain ⟨a, w1, h1, h2⟩ := hp
  rw [Array.getD_eq_getD_getElem?] at h1
  simp only [results, h]
  simp [Sem.run_bind, h1, h2, Result.andThen]
theorem run_sap (W : World) (b c : Nat) : (Instr.arrayAt 23 (.slice (some ⟨b, 0, none⟩) 16 c)).run Try.prog W = .ok (.pointer (some ⟨b, 0, none⟩)) W := by
  simp [Instr.arrayAt, run_underlying Try.underlying23, go_sem]
def gx (L : Array Bool) (j : Nat) (v d : Value) : Value := if L.getD j false = true then v else d
theorem gx_set (L : Array Bool) (i j : Nat) (v d : Value) (hi : i < L.size) (h : i ≠ j) : gx (L.setIfInBounds i true) j v d = gx L j v d := by
  unfold gx; rw [lset L i j hi]; simp [h]
theorem gx_same (L : Array Bool) (i : Nat) (v d : Value) (hi : i < L.size) : gx (L.setIfInBounds i true) i v d = v := by
  unfold gx; rw [lset L i i hi]; simp
def TS (s : ByteArray) (G : List UInt8) (b n c r : Nat) (L : Array Bool) : Array Value := #[.slice (some ⟨b, 0, none⟩) n c, undef, gx L 7 (.string s) (.string ⟨#[]⟩), .pointer (some ⟨r, 0, none⟩), gx L 9 (.bool true) (.bool false), .slice (some ⟨b, 0, none⟩) n c, .int .i64 (n : Int), .bool false, .bool false, .slice (some ⟨b, 0, none⟩) n c, .slice (some ⟨b, 16, none⟩) (n - 16) (c - 16), .string s, .bool true, .bool false, .bool false, undef, gd L 0 (.slice (some ⟨b, 0, none⟩) n c), gd L 1 (.slice (some ⟨b, 16, none⟩) (n - 16) (c - 16)), gd L 2 (.string s), gd L 3 (.slice (some ⟨b, 0, none⟩) n c), gd L 4 (.slice (some ⟨b, 0, none⟩) 16 c), gd L 5 (.pointer (some ⟨b, 0, none⟩)), gd L 6 (.agg (gv G))]
/-- The region's invariant. -/
def SI (s : ByteArray) (G : List UInt8) (b n c r : Nat) (w0 : World) (L : Array Bool) (a : Act) (w : World) : Prop :=
  a = ⟨TS s G b n c r L, []⟩ ∧ w = if L.getD 8 false = true then w0.setCells r 0 (gv G).toList else w0
theorem SI.next {s : ByteArray} {G : List UInt8} {b n c r : Nat} {w0 w : World} {L : Array Bool} (h : w = if L.getD 8 false = true then w0.setCells r 0 (gv G).toList else w0) {i : Nat} (hi : i < L.size) (h8 : i ≠ 8) {a : Act} (ha : a = ⟨TS s G b n c r (L.setIfInBounds i true), []⟩) : SI s G b n c r w0 (L.setIfInBounds i true) a w := by
  refine ⟨ha, ?_⟩
  rw [lset L i _ hi]
  simp only [h8, decide_false, Bool.false_or]
  exact h
set_option maxHeartbeats 4000000 in
theorem split_any (s : ByteArray) (hr : rightL s.data.toList = true) (G : List UInt8) (hG : G.length = 16) (b n c : Nat) (hnc : n ≤ c) (hcm : c ≤ maxLen) (w : World) (h : RB w (some ⟨b, 0, none⟩) n (G ++ s.data.toList)) :
    Calls Try.prog 12 #[.slice (some ⟨b, 0, none⟩) n c] w fun e w' => e = .returned (.tuple #[.string s, .agg (gv G), .bool true]) ∧ Below w.heap.size w w' := by
  have h64 : 1 ≤ s.size ∧ s.size ≤ 64 := by
    have h9 := hr
    unfold rightL at h9
    rw [Bool.and_eq_true, data_size] at h9
    exact of_decide_eq_true h9.1
  have hn : n = 16 + s.size := by have := h.1; rw [List.length_append, hG, data_size] at this; omega
  have RT := Lib.hid (fun W => right_any s (by omega) W)
  rw [hr] at RT
  have kc := fun (W : World) (hW : RB W (some ⟨b, 0, none⟩) n (G ++ s.data.toList)) cap => conv_s hG s hW h64.1 cap
  have i1 : ((n : Int) < 16) = False := by simp; omega
  have i2 : ¬ c = 16 := by omega
  have i3 : 16 ≤ n := by omega
  have i4 : (16 : Int) ≤ (n : Int) := by omega
  have i5 : (n : Int) ≤ (c : Int) := by omega
  have hb : b < w.heap.size := by
    obtain ⟨_, _, e, h9, _⟩ := h.2 (fun h9 => by have := congrArg List.length h9; rw [List.length_append, hG] at this; simp at this)
    injection e with e
    injection e with e1 e2
    omega
  have HN := Lib.hid hn
  clear hn
  go_enter Try.func12, Try.ntmps12
  have kc1 := kc _ (h.alloc (.cells #[.int .u8 0, .int .u8 0, .int .u8 0, .int .u8 0, .int .u8 0, .int .u8 0, .int .u8 0, .int .u8 0, .int .u8 0, .int .u8 0, .int .u8 0, .int .u8 0, .int .u8 0, .int .u8 0, .int .u8 0, .int .u8 0] 23))
  go_wp2_with fail
  refine (RT.out _).mono ?_
  rintro e w2 ⟨rfl, hw2⟩
  subst w2
  go_wp2_with fail
  refine wp_nm fun w0 hw0 => ?_
  have hr0 : Hid (w0.heap[w.heap.size]? = some (.cells (Array.replicate 16 (.int .u8 0)) 23) ∧ Below w.heap.size w w0) := by
    rw [← hw0]; exact ⟨has_new _ _, kp_alloc (Below.refl _ _) _⟩
  have HR : Hid (RB w0 (some ⟨b, 0, none⟩) n (G ++ s.data.toList)) := by rw [← hw0]; exact h.alloc _
  clear kc1 hw0
  have HH := Lib.hid h
  have HG := Lib.hid hG
  have I1 := Lib.hid i1
  clear h hG
  refine wp_region_invA (by kernel_rfl) (by kernel_rfl) (SI s G b n c w.heap.size w0.drew) ?_ ?_ ?_
  · exact ⟨by rfl, by rfl⟩
  · rintro L a W i ⟨rfl, hW⟩ hC
    have hsz := hC.size
    have hlt := hC.lt
    simp only [List.size_toArray, List.length_cons, List.length_nil] at hsz hlt
    have hi : i < L.size := by omega
    have hnot := hC.not
    have hRW : RB W (some ⟨b, 0, none⟩) n (G ++ s.data.toList) := by
      rw [hW]
      split
      · exact rb_setc HR.out (by omega)
      · exact HR.out
    have HRW := Lib.hid hRW
    have HW := Lib.hid hW
    clear hRW hW
    rcases (show i = 0 ∨ i = 1 ∨ i = 2 ∨ i = 3 ∨ i = 4 ∨ i = 5 ∨ i = 6 ∨ i = 7 ∨ i = 8 ∨ i = 9 by omega) with rfl | rfl | rfl | rfl | rfl | rfl | rfl | rfl | rfl | rfl
    · refine wpOp_step rfl (fun K' hK => ?_)
      have HK := Lib.hid hK
      clear hK
      rw [if_pos (by rfl)]
      simp only [TS]
      go_wp2_with fail
      refine HK.out _ _ (SI.next HW.out hi (by decide) ?_)
      simp +decide only [TS, Act.put, List.setIfInBounds_toArray, List.set_cons_zero, List.set_cons_succ, gd_same _ _ _ hi, gd_set _ _ _ _ hi, gx_same _ _ _ _ hi, gx_set _ _ _ _ _ hi]
      try simp only [Bool.true_or, Bool.false_or, decide_true, decide_false, if_true]
    · have d0 := hC.dep (j := 0) (by kernel_rfl)
      refine wpOp_step rfl (fun K' hK => ?_)
      have HK := Lib.hid hK
      clear hK
      rw [if_pos (by rfl)]
      simp only [TS, gd_yes _ d0]
      go_wp2_with fail
      refine HK.out _ _ (SI.next HW.out hi (by decide) ?_)
      simp +decide only [TS, Act.put, List.setIfInBounds_toArray, List.set_cons_zero, List.set_cons_succ, gd_same _ _ _ hi, gd_set _ _ _ _ hi, gx_same _ _ _ _ hi, gx_set _ _ _ _ _ hi]
      try simp only [Bool.true_or, Bool.false_or, decide_true, decide_false, if_true, gd_yes _ d0]
    · have d0 := hC.dep (j := 1) (by kernel_rfl)
      have k1 := kc W HRW.out (c - 16)
      refine wpOp_step rfl (fun K' hK => ?_)
      have HK := Lib.hid hK
      clear hK
      rw [if_pos (by rfl)]
      simp only [TS, gd_yes _ d0]
      go_wp2_with fail
      refine HK.out _ _ (SI.next HW.out hi (by decide) ?_)
      simp +decide only [TS, Act.put, List.setIfInBounds_toArray, List.set_cons_zero, List.set_cons_succ, gd_same _ _ _ hi, gd_set _ _ _ _ hi, gx_same _ _ _ _ hi, gx_set _ _ _ _ _ hi]
      try simp only [Bool.true_or, Bool.false_or, decide_true, decide_false, if_true, gd_yes _ d0]
    · refine wpOp_step rfl (fun K' hK => ?_)
      have HK := Lib.hid hK
      clear hK
      rw [if_pos (by rfl)]
      simp only [TS]
      go_wp2_with fail
      refine HK.out _ _ (SI.next HW.out hi (by decide) ?_)
      simp +decide only [TS, Act.put, List.setIfInBounds_toArray, List.set_cons_zero, List.set_cons_succ, gd_same _ _ _ hi, gd_set _ _ _ _ hi, gx_same _ _ _ _ hi, gx_set _ _ _ _ _ hi]
      try simp only [Bool.true_or, Bool.false_or, decide_true, decide_false, if_true]
    · have d0 := hC.dep (j := 3) (by kernel_rfl)
      refine wpOp_step rfl (fun K' hK => ?_)
      have HK := Lib.hid hK
      clear hK
      rw [if_pos (by rfl)]
      simp only [TS, gd_yes _ d0]
      go_wp2_with fail
      refine HK.out _ _ (SI.next HW.out hi (by decide) ?_)
      simp +decide only [TS, Act.put, List.setIfInBounds_toArray, List.set_cons_zero, List.set_cons_succ, gd_same _ _ _ hi, gd_set _ _ _ _ hi, gx_same _ _ _ _ hi, gx_set _ _ _ _ _ hi]
      try simp only [Bool.true_or, Bool.false_or, decide_true, decide_false, if_true, gd_yes _ d0]
    · have d0 := hC.dep (j := 4) (by kernel_rfl)
      have k1 := run_sap W b c
      refine wpOp_step rfl (fun K' hK => ?_)
      have HK := Lib.hid hK
      clear hK
      rw [if_pos (by rfl)]
      simp only [TS, gd_yes _ d0]
      go_wp2_with fail
      refine HK.out _ _ (SI.next HW.out hi (by decide) ?_)
      simp +decide only [TS, Act.put, List.setIfInBounds_toArray, List.set_cons_zero, List.set_cons_succ, gd_same _ _ _ hi, gd_set _ _ _ _ hi, gx_same _ _ _ _ hi, gx_set _ _ _ _ _ hi]
      try simp only [Bool.true_or, Bool.false_or, decide_true, decide_false, if_true, gd_yes _ d0]
    · have d0 := hC.dep (j := 5) (by kernel_rfl)
      have hi16 : (Try.prog.info? 23).map (·.size) = some (G.map bv).length := by rw [List.length_map, HG.out]; kernel_rfl
      refine wpOp_step rfl (fun K' hK => ?_)
      have HK := Lib.hid hK
      clear hK
      rw [if_pos (by rfl)]
      simp only [TS, gd_yes _ d0]
      refine wp_load_mid _ _ rfl b 0 rfl _ _ (range_k HG.out HRW.out) Try.underlying23 rfl hi16 ?_
      show K' ⟨_, _⟩ _
      refine HK.out _ _ (SI.next HW.out hi (by decide) ?_)
      simp +decide only [TS, Act.put, List.setIfInBounds_toArray, List.set_cons_zero, List.set_cons_succ, gd_same _ _ _ hi, gd_set _ _ _ _ hi, gx_same _ _ _ _ hi, gx_set _ _ _ _ _ hi]
      try simp only [Bool.true_or, Bool.false_or, decide_true, decide_false, if_true, gd_yes _ d0]
      rfl
    · have d0 := hC.dep (j := 2) (by kernel_rfl)
      refine wpOp_step rfl (fun K' hK => ?_)
      have HK := Lib.hid hK
      clear hK
      rw [if_pos (by rfl)]
      simp only [TS, gd_yes _ d0]
      go_wp2_with fail
      refine HK.out _ _ (SI.next HW.out hi (by decide) ?_)
      simp +decide only [TS, Act.put, List.setIfInBounds_toArray, List.set_cons_zero, List.set_cons_succ, gd_same _ _ _ hi, gd_set _ _ _ _ hi, gx_same _ _ _ _ hi, gx_set _ _ _ _ _ hi]
      try simp only [Bool.true_or, Bool.false_or, decide_true, decide_false, if_true, gd_yes _ d0]
    · have d0 := hC.dep (j := 6) (by kernel_rfl)
      have hst : W = w0.drew := by rw [HW.out, if_neg (by rw [hnot]; decide)]
      have hi16 : (Try.prog.info? 23).map (·.size) = some (gv G).size := by simp only [gv, List.size_toArray, List.length_map, HG.out]; kernel_rfl
      have hth : W.there w.heap.size 0 (gv G).size := by
        rw [hst]
        intro j hj
        have hj : j < 16 := by simpa [gv, HG.out] using hj
        refine ⟨?_, ?_⟩
        · rw [show (w0.drew.cell? ⟨w.heap.size, 0 + j, none⟩) = _ from Lib.cell_of_heap hr0.out.1 (0 + j)]
          simp; omega
        · exact Lib.frozen_of_heap hr0.out.1 (0 + j)
      refine wpOp_step rfl (fun K' hK => ?_)
      have HK := Lib.hid hK
      clear hK
      rw [if_pos (by rfl)]
      simp only [TS, gd_yes _ d0]
      refine wp_store_mid _ _ _ rfl w.heap.size 0 (gv G) rfl rfl hth hi16 (by simp [gv, bv_one]) ?_
      show K' ⟨_, _⟩ _
      refine HK.out _ _ ⟨?_, ?_⟩
      · simp +decide only [TS, gd_set _ _ _ _ hi, gx_set _ _ _ _ _ hi]
        simp only [gd_yes _ d0]
      · rw [lset L _ _ hi, hst]; simp
    · refine wpOp_step rfl (fun K' hK => ?_)
      have HK := Lib.hid hK
      clear hK
      rw [if_pos (by rfl)]
      simp only [TS]
      go_wp2_with fail
      refine HK.out _ _ (SI.next HW.out hi (by decide) ?_)
      simp +decide only [TS, Act.put, List.setIfInBounds_toArray, List.set_cons_zero, List.set_cons_succ, gd_same _ _ _ hi, gd_set _ _ _ _ hi, gx_same _ _ _ _ hi, gx_set _ _ _ _ _ hi]
      try simp only [Bool.true_or, Bool.false_or, decide_true, decide_false, if_true]
  · rintro L a W ⟨rfl, hW⟩ hsz hall
    have h7 := hall 7 (by decide)
    have h8 := hall 8 (by decide)
    have h9 := hall 9 (by decide)
    rw [if_pos h8] at hW
    subst hW
    have e2 : ∀ v d, gx L 7 v d = v := fun v d => if_pos h7
    have e4 : ∀ v d, gx L 9 v d = v := fun v d => if_pos h9
    simp only [TS, e2, e4]
    have hbel : Below w.heap.size w (w0.drew.setCells w.heap.size 0 (gv G).toList) := below_setc (kp_drew hr0.out.2) (Nat.le_refl _)
    have hrg : (w0.drew.setCells w.heap.size 0 (gv G).toList).rangeAt w.heap.size 0 (gv G).toList := World.rangeAt_setCells_same _ _ _ _ (fun j hj => by
      have hj : j < 16 := by simpa [gv, HG.out] using hj
      refine ⟨?_, ?_⟩
      · rw [show (w0.drew.cell? ⟨w.heap.size, 0 + j, none⟩) = _ from Lib.cell_of_heap hr0.out.1 (0 + j)]
        simp; omega
      · exact Lib.frozen_of_heap hr0.out.1 (0 + j))
    have hi16 : (Try.prog.info? 23).map (·.size) = some (gv G).toList.length := by simp only [gv, List.length_map, HG.out]; kernel_rfl
    have hlv : LV Try.prog (w0.drew.setCells w.heap.size 0 (gv G).toList) 23 (.pointer (some ⟨w.heap.size, 0, none⟩)) (.agg (gv G)) := ⟨_, _, rfl, run_loadVar_mid _ _ _ _ _ _ hrg Try.underlying23 rfl hi16⟩
    have HB := Lib.hid hbel
    have HL := Lib.hid hlv
    clear hbel hrg hlv hi16 h7 h8 h9 e2 e4 hall hsz
    go_wp2_with fail
    refine bodyPost_ret (results_tct Try.results12 _ HL.out) rfl ?_
    exact ⟨rfl, HB.out⟩
end Go.Proofs.Ytjcbmgpmlekamaa
