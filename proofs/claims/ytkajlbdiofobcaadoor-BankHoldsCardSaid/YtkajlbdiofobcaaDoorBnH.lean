/-
  bank: read.
-/
import Derived.Test.YtkajlbdiofobcaaDoorBnG
import Derived.Test.YtkajlbdiofobcaaDoorFlI
namespace Go.Proofs.YtkajlbdiofobcaaDoor
open Go.RowKit Go
set_option linter.unusedVariables false
set_option linter.unusedSimpArgs false
set_option maxRecDepth 100000
attribute [local go_sem] Oper.semAt_some
theorem rec_row : RowT 80 85 4 48 (.agg #[.int .i64 0, .int .i64 0, .slice none 0 0, .bool false]) := ⟨Tryd.underlying80, by kernel_rfl, rfl, by decide⟩
theorem cells_len4 : ∀ l : List RV, (l.flatMap RV.cells).length = l.length * 4
  | [] => rfl
  | x :: l => by simp only [List.flatMap_cons, List.length_append, cells_len4 l, List.length_cons]; simp [RV.cells]; omega
theorem results_cctt {fn : Func} {P : Program} {w : World} {ty ty2 : TypeId} {p q u1 u2 : Tmp} (h : fn.results = #[.cell p ty, .cell q ty2, .tmp u1, .tmp u2]) (tmps : Array Value) {v v2 : Value} (hp : LV P w ty (tmps.getD p undef) v) (hq : LV P w ty2 (tmps.getD q undef) v2) :
    (results fn tmps).run P w = .ok (.tuple #[v, v2, tmps.getD u1 undef, tmps.getD u2 undef]) w := by
  obtain ⟨a, w1, h1, h2⟩ := hp
  obtain ⟨b, w2, h3, h4⟩ := hq
  rw [Array.getD_eq_getD_getElem?] at h1 h3
  simp only [results, h]
  simp [Sem.run_bind, h1, h2, h3, h4, Result.andThen]
/-- Where the records end. -/
def endOf (l : List RV) : Nat := l.getLast?.elim 16 (fun y => y.at_ + (12 + y.n))
theorem endOf_snoc (l : List RV) (x : RV) : endOf (l ++ [x]) = x.at_ + (12 + x.n) := by simp [endOf]
theorem own_neR {W : World} {D b n c n' c' : Nat} {A A' : Option Addr} {bs : List UInt8} {vs : List Value} (h : OwnB W D A n c bs) (hR : OwnR W b 85 4 A' n' c' vs) : blk A = none ∨ blk A ≠ blk A' :=
  OwnR.ne (show OwnR W D 5 1 A n c (bs.map bv) from h) hR (by decide)
theorem got_end {X : List UInt8} : ∀ (xs : List RV) (p q : Nat), Got X p (xs.map RV.pair) q → (xs = [] ∧ q = p) ∨ ∃ y, xs.getLast? = some y ∧ y ∈ xs ∧ q = y.at_ + (12 + y.r.body.length)
  | [], p, q, h => by cases h; exact .inl ⟨rfl, rfl⟩
  | x :: xs, p, q, h => by
    rw [List.map_cons] at h
    obtain ⟨hp, hx⟩ : x.at_ = p ∧ Got X (p + x.r.len) (xs.map RV.pair) q := by
      generalize hl : RV.pair x :: xs.map RV.pair = l at h
      cases h with
      | nil => cases hl
      | cons h t =>
        injection hl with h1 h2
        injection h1 with h3 h4
        subst h2 h4
        exact ⟨h3, t⟩
    right
    rcases got_end xs _ _ hx with ⟨rfl, h2⟩ | ⟨y, h2, h3, h4⟩
    · exact ⟨x, rfl, List.mem_cons_self, by rw [h2, ← hp]; rfl⟩
    · refine ⟨y, ?_, List.mem_cons_of_mem _ h3, h4⟩
      cases xs with
      | nil => cases h3
      | cons z zs => rw [List.getLast?_cons_cons]; exact h2
theorem end_is {X : List UInt8} {W : World} {D q : Nat} {xs : List RV} (h : Got X 16 (xs.map RV.pair) q) (hv : ∀ x ∈ xs, OwnB W D x.A x.n x.c x.r.body) : q = endOf xs := by
  rcases got_end xs _ _ h with ⟨rfl, h2⟩ | ⟨y, h2, h3, h4⟩
  · exact h2
  · unfold endOf
    rw [h2, h4]
    show _ = y.at_ + (12 + y.n)
    rw [(hv y h3).len]
/-- The state between two rounds. -/
structure RI (w : World) (b D Bx R : Nat) (pre : List RV) (W : World) : Prop where
  bel : Below w.heap.size w W
  row : ∃ A m c, W.heap[w.heap.size]? = some (.cells #[.slice A m c] 80) ∧ OwnR W (R + 1) 85 4 A m c (pre.flatMap RV.cells)
  en : W.heap[w.heap.size + 1]? = some (.cells #[.int .i64 (endOf pre : Int)] 3)
  bod : ∀ x ∈ pre, OwnB W (D + 2) x.A x.n x.c x.r.body
  cap : W.heap[Bx]? = some (.cells #[.pointer (some ⟨b, 0, none⟩)] 30)
  dd : w.heap.size + 2 ≤ Bx ∧ Bx < D ∧ D + 2 ≤ W.heap.size
theorem RI.below {w W W' : World} {b D Bx R : Nat} {pre : List RV} (h : RI w b D Bx R pre W) (hb : Below W.heap.size W W') : RI w b D Bx R pre W' := by
  obtain ⟨A, m, c, h1, h2⟩ := h.row
  exact ⟨kp_call h.bel hb, ⟨A, m, c, has_below h1 hb, h2.below hb (Nat.le_refl _)⟩, has_below h.en hb, fun x hx => (h.bod x hx).below hb (Nat.le_refl _), has_below h.cap hb, h.dd.1, h.dd.2.1, by have := h.dd.2.2; have := hb.size; omega⟩
/-- Another block is turned, which is none of these. -/
theorem RI.grown {w W W' : World} {b D Bx R q : Nat} {pre : List RV} (h : RI w b D Bx R pre W) (hg : W.grownBy W' (some q)) (h1 : w.heap.size + 2 ≤ q) (h2 : q ≠ Bx) (h3 : q ≤ R) (h4 : ∀ x ∈ pre, blk x.A = none ∨ blk x.A ≠ some q) : RI w b D Bx R pre W' := by
  obtain ⟨A, m, c, k1, k2⟩ := h.row
  have hk : ∀ j o, W.heap[j]? = some o → j ≠ q → W'.heap[j]? = some o := fun j o hj hne => (hg.block j (block_lt hj) (fun e => hne (by injection e))).trans hj
  exact ⟨h.bel.grown hg h.bel.size (fun g e => by injection e with e; omega), ⟨A, m, c, hk _ _ k1 (by omega), k2.kept hg (.inr (fun e => by have := (k2.blk_lt e).1; omega))⟩, hk _ _ h.en (by omega), fun x hx => (h.bod x hx).kept hg (h4 x hx), hk _ _ h.cap (by omega), h.dd.1, h.dd.2.1, by have := h.dd.2.2; have := hg.size; omega⟩
theorem RI.put {w W : World} {b D Bx R q : Nat} {pre : List RV} (h : RI w b D Bx R pre W) (o : Obj) (h1 : D ≤ q) (h2 : q ≤ D + 1) (hR : D + 2 ≤ R) : RI w b D Bx R pre (W.putObj q o) := by
  have hd := h.dd
  exact h.grown (grownBy_putObj' W q o) (by omega) (by omega) (by omega) (fun x hx => .inr (fun e => by have := ((h.bod x hx).blk_lt e).1; omega))
theorem RI.setR {w W : World} {b D Bx R j : Nat} {u : Value} {pre : List RV} {cs : Array Value} (h : RI w b D Bx R pre W) (hR : D + 2 ≤ R) (hk : W.heap[R]? = some (.cells cs 85)) : RI w b D Bx R pre (W.setCell ⟨R, j, none⟩ u) := by
  have hd := h.dd
  exact h.grown (grown_one _ _ _ _) (by omega) (by omega) (Nat.le_refl _) (fun x hx => own_ne (h.bod x hx) hk)
theorem set_same {W : World} {k : Nat} {v : Value} {ty : TypeId} (h : W.heap[k]? = some (.cells #[v] ty)) : W.setCell ⟨k, 0, none⟩ v = W := by
  obtain ⟨hp, t, d, os, out⟩ := W
  simp only [World.setCell, World.mk.injEq, and_true]
  apply Array.ext_getElem?
  intro i
  rw [Array.getElem?_modify]
  split
  · rename_i e
    subst e
    simp only at h
    rw [h]
    rfl
  · rfl
theorem kp_same {W W' : World} {B k : Nat} {v : Value} {ty : TypeId} (h : W.heap[k]? = some (.cells #[v] ty)) (hB : k < B) (hb : Below B W W') : Below B W (W'.setCell ⟨k, 0, none⟩ v) := by
  rw [set_same ((hb.block k hB).trans h)]
  exact hb
/-- What read answers with power. -/
def ReadPost (w : World) (X : List UInt8) (e : Ending) (w' : World) : Prop := ∃ (A : Option Addr) (n c : Nat) (xs : List RV) (q : Nat), e = .returned (.tuple #[.slice A n c, .int .i64 (q : Int), .bool (wholeB X q), .int .i64 0]) ∧ Scan X (xs.map RV.pair) q ∧ OwnR w' w.heap.size 85 4 A n c (xs.flatMap RV.cells) ∧ (∀ x ∈ xs, OwnB w' w.heap.size x.A x.n x.c x.r.body) ∧ Below w.heap.size w w'
theorem wholeB_one {X : List UInt8} {q : Nat} {z : UInt8} (h : cut X q 1 = [z]) (hq : q < X.length) : wholeB X q = ((z.toNat : Int) == 255) := by
  have hz : X.getD q 0 = z := by
    have h1 : (cut X q 1)[0]? = some z := by rw [h]; rfl
    rw [cut, List.getElem?_take_of_lt (by omega), List.getElem?_drop, Nat.add_zero] at h1
    rw [List.getD_eq_getElem?_getD, h1]; rfl
  unfold wholeB
  rw [hz, decide_eq_false (by omega), Bool.false_or]
  revert z
  intro z _ _
  have : z.toNat < 256 := z.toNat_lt
  by_cases h1 : z = 255
  · subst h1; rfl
  · have h2 : z.toNat ≠ 255 := fun e => h1 (UInt8.toNat_inj.1 e)
    have h3 : ((z.toNat : Int) == 255) = false := by
      rw [beq_eq_false_iff_ne]; omega
    rw [h3]
    exact beq_eq_false_iff_ne.2 h1
theorem wholeB_end {X : List UInt8} {q : Nat} (hq : X.length ≤ q) : wholeB X q = true := by
  unfold wholeB; rw [decide_eq_true hq]; rfl
theorem read_fin {w W W5 : World} {D Bx R q m c : Nat} {A : Option Addr} {X : List UInt8} {xs : List RV} (hwB : w.heap.size + 2 ≤ Bx) (hBD : Bx < D) (hR : D + 2 ≤ R) (hS : Scan X (xs.map RV.pair) q) (hO : OwnR W (R + 1) 85 4 A m c (xs.flatMap RV.cells)) (hb : ∀ x ∈ xs, OwnB W (D + 2) x.A x.n x.c x.r.body) (hw : Below w.heap.size w W) (h5 : Below W.heap.size W W5)
    (hD : W5.heap[D]? = some (.deferred (some []))) (h1 : W5.heap[w.heap.size]? = some (.cells #[.slice A m c] 80)) (h2 : W5.heap[w.heap.size + 1]? = some (.cells #[.int .i64 (q : Int)] 3)) :
    W5.heap[D]? = some (.deferred (some [])) ∧ (W5.putObj D (.deferred none)).heap[w.heap.size]? = some (.cells #[.slice A m c] 80) ∧ (W5.putObj D (.deferred none)).heap[w.heap.size + 1]? = some (.cells #[.int .i64 (q : Int)] 3) ∧ ReadPost w X (.returned (.tuple #[.slice A m c, .int .i64 (q : Int), .bool (wholeB X q), .int .i64 0])) (W5.putObj D (.deferred none)) := by
  have hg := grownBy_putObj' W5 D (.deferred none)
  refine ⟨hD, (World.putObj_heap_other (by omega)).trans h1, (World.putObj_heap_other (by omega)).trans h2, A, m, c, xs, q, rfl, hS, ?_, fun x hx => ?_, ?_⟩
  · have s1 := hO.below h5 (Nat.le_refl _)
    exact (s1.kept hg (.inr (fun e => by have := (s1.blk_lt e).1; omega))).lower (by omega)
  · have s1 := (hb x hx).below h5 (Nat.le_refl _)
    exact (s1.kept hg (.inr (fun e => by have := (s1.blk_lt e).1; omega))).lower (by omega)
  · have s1 := kp_call hw h5
    exact s1.grown hg s1.size (fun g hg => by injection hg with hg; omega)
section
variable {w : World} {base b g a c F C : Nat} {S : FS}
set_option maxHeartbeats 8000000 in
theorem read_any (hK : BK w base b g a c S F C) (hS : S.off = false) (ht : Tabs w) : Calls Tryd.prog 38 #[.pointer (some ⟨b, 0, none⟩)] w (ReadPost w (S.bank F C)) := by
  have hM := bank_len hK
  have h64 := hK.cs
  have hin := hK.in_
  have hbig := hK.fl.big
  have ST := Lib.hid (fun W (hb : Below w.heap.size w W) => start_any (hK.below hb))
  have RD : Hid (∀ W, Below w.heap.size w W → Calls Tryd.prog 44 #[.pointer (some ⟨g, 0, none⟩), .int .i64 ((F * S.s : Nat) : Int), .int .i64 16] W fun e w' => ∃ A c', e = .returned (.tuple #[.slice A 16 c', .int .i64 0]) ∧ Below W.heap.size W w') := fun W hb =>
    (fread_any (hK.fl.below hb) hS (F * S.s) 16 (by omega)).mono fun e w' ⟨A, c', h1, _, h2⟩ => ⟨A, c', h1, h2⟩
  have YES : Hid (∀ W, Below w.heap.size w W → ∀ q : Nat, q + 1 ≤ C * S.s → Calls Tryd.prog 51 #[.pointer (some ⟨b, 0, none⟩), .int .i64 (q : Int), .int .i64 1] W fun e w' => ∃ A c', e = .returned (.tuple #[.slice A 1 c', .bool true]) ∧ OwnB w' W.heap.size A 1 c' (cut (S.bank F C) q 1) ∧ Below W.heap.size W w') := fun W hb q hq => bytes_yes (hK.below hb) hS q 1 hq
  have NAY : Hid (∀ W, Below w.heap.size w W → ∀ q : Nat, q ≤ C * S.s → C * S.s < q + 1 → Calls Tryd.prog 51 #[.pointer (some ⟨b, 0, none⟩), .int .i64 (q : Int), .int .i64 1] W fun e w' => e = .returned (.tuple #[.slice none 0 0, .bool false]) ∧ Below W.heap.size W w') := fun W hb q h1 hq => bytes_no (hK.below hb) q 1 h1 (by omega) hq
  have IT := Lib.hid (fun D Bx (hD : w.heap.size ≤ D) => records1_in base b g a c F C D Bx S w hK hS ht hD)
  obtain ⟨k0, k1, k2⟩ := cells_3 hK.bk
  have hblt := hK.alt
  have HM := Lib.hid hM
  obtain ⟨X, hX⟩ : ∃ X, S.bank F C = X := ⟨_, rfl⟩
  obtain ⟨M, hMM⟩ : ∃ M, C * S.s = M := ⟨_, rfl⟩
  rw [hX] at YES IT HM ⊢
  rw [hMM] at YES NAY IT HM h64 hin
  generalize F * S.s = N0 at *
  have KEEP : Hid (∀ W, Below w.heap.size w W → W.cell? ⟨b, 0, none⟩ = some (.pointer (some ⟨g, 0, none⟩)) ∧ Below w.heap.size w W) := fun W hb => ⟨kp_cell hb k0, hb⟩
  clear hM hMM hX k1 k2 ht hS hK
  refine (callsIn_wide (n := 4)).1 ?_
  refine callsIn_of_wp_marks Tryd.func38 rfl trivial ?_ rfl
  simp only [Tryd.ntmps38, List.size_toArray, List.length_cons, List.length_nil, Nat.reduceAdd, Nat.reduceSub, Array.replicate_succ, Array.replicate_zero, List.push_toArray, List.append_toArray, List.nil_append, List.cons_append]
  gi_wp2
  refine wpIn_nm fun W1 hW1 => ?_
  have HZ : Hid (W1.heap[w.heap.size]? = some (.cells #[.slice none 0 0] 80) ∧ W1.heap[w.heap.size + 1]? = some (.cells #[.int .i64 0] 3) ∧ Below w.heap.size w W1 ∧ W1.heap.size = w.heap.size + 2) := by
    rw [← hW1]; exact ⟨has_alloc (has_new _ _) _, has_new' _ _ _ (by simp), kp_alloc (kp_alloc (Below.refl _ _) _) _, by simp⟩
  clear hW1
  have hb1 := HZ.out.2.2.1
  have k0' := kp_cell hb1 k0
  clear k0
  have G0 := Lib.hid hb1
  refine wpIn_wide.2 ?_
  go_region_held3 (fun W => W.cell? ⟨b, 0, none⟩ = some (.pointer (some ⟨g, 0, none⟩)) ∧ Below w.heap.size w W)
    ((apply KEEP.out; repeat (with_reducible (first | assumption | refine kp_drew ?_ | refine kp_call ?_ (by assumption)))))
    (first
      | (go_at_call 39; (with_reducible refine (ST.out _ (by (go_split_ands; assumption))).mono ?_); (rintro e X1 ⟨rfl, hb2⟩; have H2 : Hid (Below W1.heap.size W1 X1) := (by (first | exact hb2 | exact (kp_drew (Below.refl _ _)).trans hb2))))
      | (go_at_call 44; (with_reducible refine (RD.out _ (by (go_split_ands; assumption))).mono ?_); (rintro e X2 ⟨A2, c2, rfl, hb3⟩; have H3 : Hid (Below W1.heap.size W1 X2) := (by (first | exact kp_call H2.out hb3 | exact kp_call (kp_drew H2.out) hb3))))) 
  all_goals
    clear hb2 hb3 H2
    have hz1 := HZ.out.2.2.2
    have hz3 := H3.out.size
    have e5 := cells_1 (has_below HZ.out.2.1 H3.out)
    have f5 := free_1 (has_below HZ.out.2.1 H3.out)
    have HX2 : Hid (Below w.heap.size w X2) := kp_call G0.out H3.out
    gi_wp2_with (refine ⟨trivial, ?_⟩; gi_at_call 49; refine (callsIn_wide.2 (records_any _ _)).mono ?_; rintro e w' ⟨rfl, rfl⟩)
    refine wpIn_nm fun W0 hW0 => ?_
    obtain ⟨Bx, hBx⟩ : ∃ Bx, X2.heap.size = Bx := ⟨_, rfl⟩
    have hBx2 : (X2.setCell ⟨w.heap.size + 1, 0, none⟩ (.int .i64 16)).heap.size = Bx := by rw [← hBx]; simp [World.setCell]
    have HW0 : Hid (W0.heap[w.heap.size]? = some (.cells #[.slice none 0 0] 80) ∧ W0.heap[w.heap.size + 1]? = some (.cells #[.int .i64 16] 3) ∧ Below w.heap.size w W0 ∧ W0.heap.size = Bx + 1 ∧ W0.heap[Bx]? = some (.cells #[.pointer (some ⟨b, 0, none⟩)] 30)) := by
      rw [← hW0]
      have a1 := set_1 (v0 := .int .i64 16) (has_below HZ.out.2.1 H3.out)
      have a2 : (X2.setCell ⟨w.heap.size + 1, 0, none⟩ (.int .i64 16)).heap[w.heap.size]? = some (.cells #[.slice none 0 0] 80) := has_set (has_below HZ.out.1 H3.out) (by omega)
      exact ⟨has_alloc a2 _, has_alloc a1 _, kp_alloc (kp_set HX2.out (by omega)) _, by rw [World.size_alloc, hBx2], has_new' _ _ _ hBx2.symm⟩
    rw [hBx]
    have hwB : w.heap.size + 2 ≤ Bx := by omega
    clear hW0 HZ H3 G0 KEEP k0' HX2 e5 f5 hBx hBx2 hz1 hz3
    have hD := HW0.out.2.2.2.1
    have HDH := Lib.hid hD
    clear hD
    refine range_runR (gf := 59) (lb := #[.pointer (some ⟨Bx, 0, none⟩)]) rfl (enters_of Tryd.func59 (by kernel_rfl) rfl) (by omega) rvEnc (fun x => rfl) (RvOk (W0.heap.size + 2))
      (RI w b W0.heap.size Bx) (fun _ _ _ => False) (fun xs => ∃ e, Scan X (xs.map RV.pair) e) (fun _ => True) (M + 1) ?hI ?hIx ?h0 ?round ?iter ?done ?stop
    case hI => exact fun R pre W q o hR h1 h2 h => h.put o h1 h2 hR
    case hIx => exact fun R pre W q o hR h1 h2 h => h.elim
    case h0 =>
      intro R o1 o2 hR
      obtain ⟨a1, a2, a3, a4, a5⟩ := HW0.out
      exact ⟨kp_alloc (kp_alloc a3 _) _, ⟨none, 0, 0, has_alloc (has_alloc a1 _) _, OwnR.nil _ _ _ _⟩, has_alloc (has_alloc a2 _) _, (fun x hx => by cases hx), has_alloc (has_alloc a5 _) _, hwB, by omega, by simp⟩
    case iter =>
      exact IT.out W0.heap.size Bx (by have := HDH.out; omega) (RI w b W0.heap.size Bx) (fun R pre W h => ⟨h.bel, h.cap, h.dd.2.2, h.dd.2.1⟩) (fun R pre W W' h hb => h.below hb) (fun R pre W j u cs hR h hk => h.setR hR hk)
    case stop => exact fun R pre W hR hSp hi hD => hi.elim
    case round =>
      rintro R pre x W r o hR hL hD hi ⟨ho, hat, hnt, cs, hRk⟩ hlen
      have hd := hi.dd
      have HLLT := Lib.hid (block_lt hL)
      have HRLT := Lib.hid (block_lt hRk)
      obtain ⟨xat, xA, xn, xc, xr⟩ := x
      simp only at ho hat hnt
      obtain ⟨A, m, c, hrow, hown⟩ := hi.row
      have hml : m = pre.length := by have := hown.len; rw [cells_len4] at this; omega
      have hm2 : m ≤ 10000000 := by have := hlen; omega
      have HAW : Hid (∀ j, blk A = some j → j < W.heap.size) := fun j e => (hown.blk_lt e).2
      have hwz : w.heap.size + 1 < W.heap.size := by have := HLLT.out; omega
      simp only [rvEnc]
      clear hml
      gi_wp2
      refine ⟨has_alloc hL _, has_alloc hD _, heap_alloc_old _ _ HRLT.out, fun r' => ?_⟩
      have HIB : Hid (RI w b W0.heap.size Bx R pre ((W.alloc (.cells #[.int .i64 (xat : Int), .int .i64 (xr.key : Int), .slice xA xn xc, .bool xr.lives] 85)).putObj (W0.heap.size + 1) (.loop r'))) := (hi.below (kp_alloc (Below.refl _ _) _)).put _ (by omega) (Nat.le_refl _) hR
      have b5 : ((W.alloc (.cells #[.int .i64 (xat : Int), .int .i64 (xr.key : Int), .slice xA xn xc, .bool xr.lives] 85)).putObj (W0.heap.size + 1) (.loop r')).heap[W.heap.size]? = some (.cells #[.int .i64 (xat : Int), .int .i64 (xr.key : Int), .slice xA xn xc, .bool xr.lives] 85) := (World.putObj_heap_other (by have := HLLT.out; omega)).trans (has_new _ _)
      have bL : ((W.alloc (.cells #[.int .i64 (xat : Int), .int .i64 (xr.key : Int), .slice xA xn xc, .bool xr.lives] 85)).putObj (W0.heap.size + 1) (.loop r')).heap[W0.heap.size + 1]? = some (.loop r') := World.putObj_heap_same (by have := HLLT.out; simp; omega)
      have bX : OwnB ((W.alloc (.cells #[.int .i64 (xat : Int), .int .i64 (xr.key : Int), .slice xA xn xc, .bool xr.lives] 85)).putObj (W0.heap.size + 1) (.loop r')) (W0.heap.size + 2) xA xn xc xr.body := (ho.alloc _).kept (grownBy_putObj' _ _ _) (.inr (fun e => by have := (ho.blk_lt e).1; omega))
      have bO : OwnR ((W.alloc (.cells #[.int .i64 (xat : Int), .int .i64 (xr.key : Int), .slice xA xn xc, .bool xr.lives] 85)).putObj (W0.heap.size + 1) (.loop r')) (R + 1) 85 4 A m c (pre.flatMap RV.cells) := (hown.alloc _).kept (grownBy_putObj' _ _ _) (.inr (fun e => by have := (hown.blk_lt e).1; omega))
      have bR : ((W.alloc (.cells #[.int .i64 (xat : Int), .int .i64 (xr.key : Int), .slice xA xn xc, .bool xr.lives] 85)).putObj (W0.heap.size + 1) (.loop r')).heap[w.heap.size]? = some (.cells #[.slice A m c] 80) := (World.putObj_heap_other (by omega)).trans (has_alloc hrow _)
      have bS := block_lt b5
      have hRb : Hid (R < ((W.alloc (.cells #[.int .i64 (xat : Int), .int .i64 (xr.key : Int), .slice xA xn xc, .bool xr.lives] 85)).putObj (W0.heap.size + 1) (.loop r')).heap.size) := by have h1 := HRLT.out; unfold Hid; simp [World.putObj]; omega
      generalize ((W.alloc (.cells #[.int .i64 (xat : Int), .int .i64 (xr.key : Int), .slice xA xn xc, .bool xr.lives] 85)).putObj (W0.heap.size + 1) (.loop r')) = Wb at *
      have hen := HIB.out.en
      have HBX := Lib.hid bX
      have HBL := Lib.hid bL
      have HROW := Lib.hid bR
      have HB5 := Lib.hid b5
      have HOW := Lib.hid bO
      have hbs := Lib.hid bS
      obtain ⟨hp0, hp1, hp2, hp3⟩ := cells_4 b5
      have hc2 := cells_1 bR
      have hf2 := free_1 bR
      have EN := Lib.hid (fun V => end_any xat xr.key xn xc xA xr.lives hat hnt V)
      have HHAT := Lib.hid hwz
      have HDD := Lib.hid hd
      have HLR := Lib.hid hR
      have hnw : W.heap.size ≠ w.heap.size := by omega
      have hnw2 : w.heap.size ≠ W.heap.size := by omega
      clear hown bX bL hi ho hL hD hrow hen hRk b5 bR bO bS HRLT HLLT hwz hd hR
      gi_wp2_with (first
        | (gi_at_builtin; refine wpListIn_appL rec_row _ _ rfl rfl (R + 1) A m c _ rfl (HOW.out.alloc _) _ 1 1 #[.int .i64 (xat : Int), .int .i64 (xr.key : Int), .slice xA xn xc, .bool xr.lives] (0, 0) rfl (has_new _ _) rfl (by intro u hu; simp at hu; rcases hu with rfl | rfl | rfl | rfl <;> rfl) (by unfold maxLen; omega) (by omega) (by have := hRb.out; simp; omega) ?_; intro A4 c4 w4 hown4 hg4; have HG4 := Lib.hid hg4; have HO4 := Lib.hid hown4; have hne4 : Hid (∀ j, j < Wb.heap.size → (j ≤ R ∨ j = W.heap.size) → w4.heap[j]? = Wb.heap[j]?) := (fun j hj hor => (HG4.out.block j (by simp; omega) (fun e => by have h1 := (HOW.out.blk_lt e.symm).1; have h2 := HAW.out j e.symm; omega)).trans (heap_alloc_old _ _ hj)); have d2 := (hne4.out w.heap.size (by have := hbs.out; have := HHAT.out; omega) (.inl (by have := HDD.out; have := HLR.out; omega))).trans HROW.out; have d3 := (hne4.out (w.heap.size + 1) (by have := hbs.out; have := HHAT.out; omega) (.inl (by have := HDD.out; have := HLR.out; omega))).trans HIB.out.en; have d5 := (hne4.out W.heap.size hbs.out (.inr rfl)).trans HB5.out; have hc4 := cells_1 d2; have hf4 := free_1 d2; obtain ⟨hq0, hq1, hq2, hq3⟩ := cells_4 d5; have D2 := Lib.hid d2; have D3 := Lib.hid d3; clear hown4 hg4 d2 d3 d5)
        | (refine ⟨trivial, ?_⟩; gi_at_call 50; refine (callsIn_wide.2 (EN.out _)).mono ?_; rintro e w5 ⟨rfl, hb5⟩; have d6 := has_below (has_set (k := w.heap.size) (j := 0) (u := .slice A4 (m + 1) c4) D3.out (by omega)) hb5; have hc6 := cells_1 d6; have hf6 := free_1 d6; have H5 := Lib.hid hb5; have D6 := Lib.hid d6; clear hb5 d6))
      have ev : (xat : Int) + (12 + (xn : Int)) = ((xat + (12 + xn) : Nat) : Int) := by push_cast; rfl
      rw [ev]
      have hz4 := HG4.out.size
      obtain ⟨Ob, hG⟩ : ∃ Ob, (Wb.alloc Ob).grownBy w4 (blk A) := ⟨_, HG4.out⟩
      simp at hz4
      have hk : ∀ j, j < Wb.heap.size → j ≤ R → j ≠ w.heap.size → j ≠ w.heap.size + 1 → (w5.setCell ⟨w.heap.size + 1, 0, none⟩ (.int .i64 ((xat + (12 + xn) : Nat) : Int))).heap[j]? = Wb.heap[j]? := fun j hj hjR n1 n2 =>
        (heap_set_far _ _ _ _ _ n2).trans ((H5.out.block j (by simp [World.setCell]; omega)).trans ((heap_set_far _ _ _ _ _ n1).trans (hne4.out j hj (.inl hjR))))
      have hdd := HDD.out
      have hlr := HLR.out
      have hr := hRb.out
      have hs5 := H5.out.size
      simp [World.setCell] at hs5
      have keepB : ∀ (y : RV), OwnB Wb (W0.heap.size + 2) y.A y.n y.c y.r.body → OwnB (w5.setCell ⟨w.heap.size + 1, 0, none⟩ (.int .i64 ((xat + (12 + xn) : Nat) : Int))) (W0.heap.size + 2) y.A y.n y.c y.r.body := fun y hy => by
        have s1 := OwnB.kept (hy.alloc Ob) hG (own_neR (hy.alloc Ob) (HOW.out.alloc Ob))
        have s2 := s1.kept (grown_one w4 w.heap.size 0 (.slice A4 (m + 1) c4)) (.inr (fun e => by have := (s1.blk_lt e).1; omega))
        have s3 := s2.below H5.out (Nat.le_refl _)
        exact s3.kept (grown_one w5 (w.heap.size + 1) 0 _) (.inr (fun e => by have := (s3.blk_lt e).1; omega))
      refine ⟨(hk _ (by have := block_lt HBL.out; omega) (by omega) (by omega) (by omega)).trans HBL.out, hk _ (by have := block_lt HBL.out; omega) (by omega) (by omega) (by omega), hk R hr (Nat.le_refl _) (by omega) (by omega), ⟨?_, ⟨A4, m + 1, c4, ?_, ?_⟩, ?_, ?_, ?_, hdd.1, hdd.2.1, ?_⟩⟩
      · have s1 := Below.grown (kp_alloc HIB.out.bel Ob) hG (by have := HIB.out.bel.size; simp; omega) (fun q hq => by have := (HOW.out.blk_lt hq).1; omega)
        exact kp_set (kp_call (kp_set s1 (Nat.le_refl _)) H5.out) (by omega)
      · exact has_set (has_below (set_1 D2.out) H5.out) (by omega)
      · have s1 := HO4.out.kept (grown_one w4 w.heap.size 0 (.slice A4 (m + 1) c4)) (.inr (fun e => by have := (HO4.out.blk_lt e).1; omega))
        have s2 := s1.below H5.out (Nat.le_refl _)
        have s3 := s2.kept (grown_one w5 (w.heap.size + 1) 0 (.int .i64 ((xat + (12 + xn) : Nat) : Int))) (.inr (fun e => by have := (s2.blk_lt e).1; omega))
        simpa [RV.cells] using s3
      · rw [endOf_snoc]
        exact set_1 D6.out
      · intro y hy
        rcases List.mem_append.1 hy with hy | hy
        · exact keepB y (HIB.out.bod y hy)
        · rw [List.mem_singleton.1 hy]; exact keepB ⟨xat, xA, xn, xc, xr⟩ HBX.out
      · exact (hk Bx (by omega) (by omega) (by omega) (by omega)).trans HIB.out.cap
      · simp [World.setCell]; omega
    case done =>
      rintro R xs W hR ⟨q, hS⟩ hi hD
      have hd := hi.dd
      obtain ⟨A, m, c, hrow, hown⟩ := hi.row
      have hq : q = endOf xs := end_is hS.got hi.bod
      have hen := hi.en
      rw [← hq] at hen
      have hqM : q ≤ M := by have := (hS.got.le (by have := HM.out; omega)).1; have := HM.out; omega
      have HB := Lib.hid hi.bel
      have HBO := Lib.hid hi.bod
      have HRW := Lib.hid hrow
      have HEN := Lib.hid hen
      have HOW := Lib.hid hown
      have HDF := Lib.hid hD
      have HSC := Lib.hid hS
      have HDD := Lib.hid hd
      have HRR := Lib.hid hR
      have hc1 := cells_1 hen
      have hwW : w.heap.size + 1 < W.heap.size := block_lt hen
      have FIN : Hid (∀ w9 : World, Below W.heap.size W w9 → w9.heap[W0.heap.size]? = some (.deferred (some [])) ∧ w9.heap[w.heap.size]? = some (.cells #[.slice A m c] 80) ∧ w9.heap[w.heap.size + 1]? = some (.cells #[.int .i64 (q : Int)] 3)) := fun w9 h => ⟨has_below hD h, has_below hrow h, has_below hen h⟩
      clear hrow hown hen hD hS hi hd hq hR
      rcases Nat.lt_or_ge q M with hq2 | hq2
      · gi_wp2_with (refine ⟨trivial, ?_⟩; gi_at_call 51; refine (callsIn_wide.2 (YES.out W HB.out q hq2)).mono ?_; rintro e w9 ⟨A9, c9, rfl, ho9, hb9⟩)
        obtain ⟨f9, f1, f2⟩ := FIN.out w9 hb9
        have e1 := cells_1 f1
        have e2 := cells_1 f2
        have u1 := free_1 f1
        have u2 := free_1 f2
        have hl9 := ho9.len
        have hcap := ho9.cap
        obtain ⟨G9, rfl, hg1, hg2⟩ := ho9.shape (by omega)
        obtain ⟨z, hz⟩ : ∃ z, cut X q 1 = [z] := by
          have hl := ho9.len
          cases hx : cut X q 1 with
          | nil => rw [hx] at hl; simp at hl
          | cons z l => cases l with
            | nil => exact ⟨z, rfl⟩
            | cons y l => rw [hx] at hl; simp at hl
        rw [hz] at ho9
        have e3 := ho9.cellAt 0 z rfl
        have hz9 := hb9.size
        have KEEP : Hid (∀ V, Below w9.heap.size w9 V → (V.cell? ⟨w.heap.size, 0, none⟩ = some (.slice A m c) ∧ V.frozen? ⟨w.heap.size, 0, none⟩ = false ∧ V.cell? ⟨w.heap.size + 1, 0, none⟩ = some (.int .i64 (q : Int)) ∧ V.frozen? ⟨w.heap.size + 1, 0, none⟩ = false ∧ V.cell? ⟨G9, 0, none⟩ = some (.int .u8 (z.toNat : Int))) ∧ Below w9.heap.size w9 V) := fun V hb =>
          ⟨⟨cells_1 (has_below f1 hb), free_1 (has_below f1 hb), cells_1 (has_below f2 hb), free_1 (has_below f2 hb), kp_cell hb e3⟩, hb⟩
        have F1 := Lib.hid f1
        have F2 := Lib.hid f2
        have F9 := Lib.hid f9
        have B9 := Lib.hid hb9
        have B0 := Lib.hid (Below.refl w9.heap.size w9)
        have HZ9 := Lib.hid hz9
        clear f1 f2 f9 hb9 ho9 hcap hl9
        refine wpIn_wide.2 ?_
        go_region_held3 (fun V => (V.cell? ⟨w.heap.size, 0, none⟩ = some (.slice A m c) ∧ V.frozen? ⟨w.heap.size, 0, none⟩ = false ∧ V.cell? ⟨w.heap.size + 1, 0, none⟩ = some (.int .i64 (q : Int)) ∧ V.frozen? ⟨w.heap.size + 1, 0, none⟩ = false ∧ V.cell? ⟨G9, 0, none⟩ = some (.int .u8 (z.toNat : Int))) ∧ Below w9.heap.size w9 V)
          ((apply KEEP.out; repeat (with_reducible (first | assumption | exact B0.out | refine kp_drew ?_ | refine kp_same F1.out (by omega) ?_ | refine kp_same F2.out (by omega) ?_))))
          (fail)
        all_goals
          have hbE : Hid (Below w9.heap.size w9 ((w9.setCell ⟨w.heap.size, 0, none⟩ (.slice A m c)).setCell ⟨w.heap.size + 1, 0, none⟩ (.int .i64 (q : Int)))) := kp_same F2.out (by have := HZ9.out; omega) (kp_same F1.out (by have := HZ9.out; omega) (Below.refl _ _))
          gi_wp2
          have hwB := wholeB_one hz (by have := HM.out; omega)
          rw [← hwB]
          obtain ⟨h0, h1, h2, h3⟩ := read_fin (D := W0.heap.size) (R := R) (by omega) HDD.out.2.1 HRR.out HSC.out HOW.out HBO.out HB.out (kp_drew ((B9.out.mono (by omega)).trans (hbE.out.mono (by have := HZ9.out; omega)))) (has_drew (has_below F9.out hbE.out)) (has_drew (has_below F1.out hbE.out)) (has_drew (has_below F2.out hbE.out))
          refine ⟨by simp, .inl ⟨_, _, rfl, run_takeDeferred h0, ?_⟩⟩
          exact ⟨_, results_cctt Tryd.results38 _ (LV.one (cells_1 h1) (by intro w; kernel_rfl)) (LV.one (cells_1 h2) (by intro w; kernel_rfl)), h3⟩
      · gi_wp2_with (refine ⟨trivial, ?_⟩; gi_at_call 51; refine (callsIn_wide.2 (NAY.out W HB.out q hqM (by omega))).mono ?_; rintro e w9 ⟨rfl, hb9⟩)
        obtain ⟨f9, f1, f2⟩ := FIN.out w9 hb9
        have hz9 := hb9.size
        have KEEP : Hid (∀ V, Below w9.heap.size w9 V → (V.cell? ⟨w.heap.size, 0, none⟩ = some (.slice A m c) ∧ V.frozen? ⟨w.heap.size, 0, none⟩ = false ∧ V.cell? ⟨w.heap.size + 1, 0, none⟩ = some (.int .i64 (q : Int)) ∧ V.frozen? ⟨w.heap.size + 1, 0, none⟩ = false) ∧ Below w9.heap.size w9 V) := fun V hb =>
          ⟨⟨cells_1 (has_below f1 hb), free_1 (has_below f1 hb), cells_1 (has_below f2 hb), free_1 (has_below f2 hb)⟩, hb⟩
        have e1 := cells_1 f1
        have e2 := cells_1 f2
        have u1 := free_1 f1
        have u2 := free_1 f2
        have F1 := Lib.hid f1
        have F2 := Lib.hid f2
        have F9 := Lib.hid f9
        have B9 := Lib.hid hb9
        have B0 := Lib.hid (Below.refl w9.heap.size w9)
        have HZ9 := Lib.hid hz9
        clear f1 f2 f9 hb9
        refine wpIn_wide.2 ?_
        refine wp_region_noPanic ?_
        refine wp_region_held_drew (S := fun V => (V.cell? ⟨w.heap.size, 0, none⟩ = some (.slice A m c) ∧ V.frozen? ⟨w.heap.size, 0, none⟩ = false ∧ V.cell? ⟨w.heap.size + 1, 0, none⟩ = some (.int .i64 (q : Int)) ∧ V.frozen? ⟨w.heap.size + 1, 0, none⟩ = false) ∧ Below w9.heap.size w9 V) (by kernel_rfl) (KEEP.out _ (kp_drew B0.out)) (fun hHeld => ?_)
        refine wpAnyH_take (i := 0) (oi := _) (v := ?_) rfl (by kernel_rfl) (by kernel_rfl) (by kernel_rfl) (fun _ _ _ h => h) (Or.inl ⟨by rfl, ?_⟩) hHeld ?_
        rotate_left
        · (intro w hSw; (try dsimp only at hSw); go_simp; (try with_reducible rfl))
        (try simp only [Act.put, List.getElem_toArray, List.getElem_cons_succ, List.getElem_cons_zero, List.setIfInBounds_toArray, List.set_cons_zero, List.set_cons_succ])
        refine wpAnyH_take (i := 1) (oi := _) (v := ?_) rfl (by kernel_rfl) (by kernel_rfl) (by kernel_rfl) (fun _ _ _ h => h) (Or.inl ⟨by rfl, ?_⟩) hHeld ?_
        rotate_left
        · (intro w hSw; (try dsimp only at hSw); go_simp; (try with_reducible rfl))
        (try simp only [Act.put, List.getElem_toArray, List.getElem_cons_succ, List.getElem_cons_zero, List.setIfInBounds_toArray, List.set_cons_zero, List.set_cons_succ])
        refine wpAnyH_take (i := 2) (oi := _) (v := ?_) rfl (by kernel_rfl) (by kernel_rfl) (by kernel_rfl) (fun _ _ _ h => h) (Or.inl ⟨by rfl, ?_⟩) hHeld ?_
        rotate_left
        · (intro w hSw; (try dsimp only at hSw); go_simp; (try with_reducible rfl))
        (try simp only [Act.put, List.getElem_toArray, List.getElem_cons_succ, List.getElem_cons_zero, List.setIfInBounds_toArray, List.set_cons_zero, List.set_cons_succ])
        refine wpAnyH_take (i := 3) (oi := _) (v := ?_) rfl (by kernel_rfl) (by kernel_rfl) (by kernel_rfl) (fun _ _ _ h => h) (Or.inl ⟨by rfl, ?_⟩) hHeld ?_
        rotate_left
        · (intro w hSw; (try dsimp only at hSw); go_simp; (try with_reducible rfl))
        (try simp only [Act.put, List.getElem_toArray, List.getElem_cons_succ, List.getElem_cons_zero, List.setIfInBounds_toArray, List.set_cons_zero, List.set_cons_succ])
        refine wpAnyH_take (i := 4) (oi := _) (v := ?_) rfl (by kernel_rfl) (by kernel_rfl) (by kernel_rfl) (fun _ _ _ h => h) (Or.inl ⟨by rfl, ?_⟩) hHeld ?_
        rotate_left
        · (intro w hSw; (try dsimp only at hSw); go_simp; (try with_reducible rfl))
        (try simp only [Act.put, List.getElem_toArray, List.getElem_cons_succ, List.getElem_cons_zero, List.setIfInBounds_toArray, List.set_cons_zero, List.set_cons_succ])
        refine wpAnyH_take (i := 5) (oi := _) (v := undef) rfl (by kernel_rfl) (by kernel_rfl) (by kernel_rfl) (fun _ _ _ h => h) (Or.inr ⟨by rfl, rfl⟩) hHeld ?_
        (try simp only [Act.put, List.getElem_toArray, List.getElem_cons_succ, List.getElem_cons_zero, List.setIfInBounds_toArray, List.set_cons_zero, List.set_cons_succ])
        refine wpAnyH_take (i := 6) (oi := _) (v := undef) rfl (by kernel_rfl) (by kernel_rfl) (by kernel_rfl) (fun _ _ _ h => h) (Or.inr ⟨by rfl, rfl⟩) hHeld ?_
        (try simp only [Act.put, List.getElem_toArray, List.getElem_cons_succ, List.getElem_cons_zero, List.setIfInBounds_toArray, List.set_cons_zero, List.set_cons_succ])
        refine wpAnyH_take (i := 7) (oi := _) (v := undef) rfl (by kernel_rfl) (by kernel_rfl) (by kernel_rfl) (fun _ _ _ h => h) (Or.inr ⟨by rfl, rfl⟩) hHeld ?_
        (try simp only [Act.put, List.getElem_toArray, List.getElem_cons_succ, List.getElem_cons_zero, List.setIfInBounds_toArray, List.set_cons_zero, List.set_cons_succ])
        refine wpAnyH_take (i := 8) (oi := _) (v := undef) rfl (by kernel_rfl) (by kernel_rfl) (by kernel_rfl) (fun _ _ _ h => h) (Or.inr ⟨by rfl, rfl⟩) hHeld ?_
        (try simp only [Act.put, List.getElem_toArray, List.getElem_cons_succ, List.getElem_cons_zero, List.setIfInBounds_toArray, List.set_cons_zero, List.set_cons_succ])
        refine wpAnyH_take (i := 9) (oi := _) (v := ?_) rfl (by kernel_rfl) (by kernel_rfl) (by kernel_rfl) (fun _ _ _ h => h) (Or.inl ⟨by rfl, ?_⟩) hHeld ?_
        rotate_left
        · (intro w hSw; (try dsimp only at hSw); go_simp; (try with_reducible rfl))
        (try simp only [Act.put, List.getElem_toArray, List.getElem_cons_succ, List.getElem_cons_zero, List.setIfInBounds_toArray, List.set_cons_zero, List.set_cons_succ])
        refine wpAnyH_ready (rs := [10]) (by kernel_rfl) (by simp) ?_
        refine AllReadyH.cons (o := _) rfl (fun K hK => ?_) AllReadyH.nil
        go_simp
        refine hK.out _ _ (by apply KEEP.out; repeat (with_reducible (first | assumption | exact B0.out | refine kp_drew ?_ | refine kp_same F1.out (by omega) ?_ | refine kp_same F2.out (by omega) ?_))) (fun hHeld => ?_)
        clear hK K
        (try simp only [Act.put, List.getElem_toArray, List.getElem_cons_succ, List.getElem_cons_zero, List.setIfInBounds_toArray, List.set_cons_zero, List.set_cons_succ])
        refine wpAnyH_ready (rs := [11]) (by kernel_rfl) (by simp) ?_
        refine AllReadyH.cons (o := _) rfl (fun K hK => ?_) AllReadyH.nil
        go_simp
        refine hK.out _ _ (by apply KEEP.out; repeat (with_reducible (first | assumption | exact B0.out | refine kp_drew ?_ | refine kp_same F1.out (by omega) ?_ | refine kp_same F2.out (by omega) ?_))) (fun hHeld => ?_)
        clear hK K
        (try simp only [Act.put, List.getElem_toArray, List.getElem_cons_succ, List.getElem_cons_zero, List.setIfInBounds_toArray, List.set_cons_zero, List.set_cons_succ])
        refine wpAnyH_take (i := 12) (oi := _) (v := ?_) rfl (by kernel_rfl) (by kernel_rfl) (by kernel_rfl) (fun _ _ _ h => h) (Or.inl ⟨by rfl, ?_⟩) hHeld ?_
        rotate_left
        · (intro w hSw; (try dsimp only at hSw); go_simp; (try with_reducible rfl))
        (try simp only [Act.put, List.getElem_toArray, List.getElem_cons_succ, List.getElem_cons_zero, List.setIfInBounds_toArray, List.set_cons_zero, List.set_cons_succ])
        refine wpAnyH_take (i := 13) (oi := _) (v := ?_) rfl (by kernel_rfl) (by kernel_rfl) (by kernel_rfl) (fun _ _ _ h => h) (Or.inl ⟨by rfl, ?_⟩) hHeld ?_
        rotate_left
        · (intro w hSw; (try dsimp only at hSw); go_simp; (try with_reducible rfl))
        (try simp only [Act.put, List.getElem_toArray, List.getElem_cons_succ, List.getElem_cons_zero, List.setIfInBounds_toArray, List.set_cons_zero, List.set_cons_succ])
        refine wpAnyH_done (by kernel_rfl) ?_ _
        all_goals refine NoPanic.normal ?_
        all_goals
          have hbE : Hid (Below w9.heap.size w9 ((w9.setCell ⟨w.heap.size, 0, none⟩ (.slice A m c)).setCell ⟨w.heap.size + 1, 0, none⟩ (.int .i64 (q : Int)))) := kp_same F2.out (by have := HZ9.out; omega) (kp_same F1.out (by have := HZ9.out; omega) (Below.refl _ _))
          gi_wp2
          obtain ⟨h0, h1, h2, h3⟩ := read_fin (D := W0.heap.size) (R := R) (by omega) HDD.out.2.1 HRR.out HSC.out HOW.out HBO.out HB.out (kp_drew ((B9.out.mono (by omega)).trans (hbE.out.mono (by have := HZ9.out; omega)))) (has_drew (has_below F9.out hbE.out)) (has_drew (has_below F1.out hbE.out)) (has_drew (has_below F2.out hbE.out))
          rw [wholeB_end (by have := HM.out; omega)] at h3
          refine ⟨by simp, .inl ⟨_, _, rfl, run_takeDeferred h0, ?_⟩⟩
          exact ⟨_, results_cctt Tryd.results38 _ (LV.one (cells_1 h1) (by intro w; kernel_rfl)) (LV.one (cells_1 h2) (by intro w; kernel_rfl)), h3⟩
end
end Go.Proofs.YtkajlbdiofobcaaDoor
