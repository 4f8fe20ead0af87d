/-
  pe: the document's Parse.
-/
import Derived.Test.YtcedojmhgmgcgaaGreatDoorMpA
import Derived.Test.YtcedojmhgmgcgaaGreatDoorMp6
import Derived.Laws.Tables
import Derived.Laws.CopyOwn
import Derived.StillTailTactics
namespace Go.Proofs.YtcedojmhgmgcgaaGreatDoor
open Go.RowKit Go
set_option linter.unusedVariables false
set_option linter.unusedSimpArgs false
set_option maxRecDepth 100000
theorem hd_parts (bs : List UInt8) (h : hdB bs = true) : (cut bs 0 2 == [77, 90]) = true ∧ inQ bs 60 4 = true ∧ 64 ≤ pAt bs ∧ (cut bs (pAt bs) 4 == [80, 69, 0, 0]) = true ∧ inQ bs (pAt bs + 6) 2 = true ∧ 1 ≤ cntQ bs ∧ cntQ bs ≤ 96 ∧ inQ bs (pAt bs + 20) 2 = true ∧ inQ bs (optQ bs) 2 = true ∧ (magQ bs = 267 ∨ magQ bs = 523) ∧ inQ bs (dirsQ bs - 4) 4 = true ∧ 5 ≤ entQ bs ∧ lenQ bs = dirsQ bs - optQ bs + 8 * entQ bs ∧ inQ bs (optQ bs + 60) 4 = true ∧ tabQ bs + 40 * cntQ bs ≤ hdrQ bs ∧ hdrQ bs ≤ bs.length := by
  unfold hdB at h
  simp only [Bool.and_eq_true, Bool.or_eq_true, decide_eq_true_eq] at h
  obtain ⟨⟨⟨⟨⟨⟨⟨⟨⟨⟨⟨⟨q1, q2⟩, q3⟩, q4⟩, q5⟩, q6, q7⟩, q8⟩, q9⟩, q10⟩, q11⟩, q12, q13⟩, q14⟩, q15, q16⟩ := h
  exact ⟨q1, q2, q3, q4, q5, q6, q7, q8, q9, q10, q11, q12, q13, q14, q15, q16⟩
theorem hd_make (bs : List UInt8) (q1 : (cut bs 0 2 == [77, 90]) = true) (q2 : inQ bs 60 4 = true) (q3 : 64 ≤ pAt bs) (q4 : (cut bs (pAt bs) 4 == [80, 69, 0, 0]) = true) (q5 : inQ bs (pAt bs + 6) 2 = true) (q6 : 1 ≤ cntQ bs) (q7 : cntQ bs ≤ 96) (q8 : inQ bs (pAt bs + 20) 2 = true) (q9 : inQ bs (optQ bs) 2 = true) (q10 : magQ bs = 267 ∨ magQ bs = 523) (q11 : inQ bs (dirsQ bs - 4) 4 = true) (q12 : 5 ≤ entQ bs) (q13 : lenQ bs = dirsQ bs - optQ bs + 8 * entQ bs) (q14 : inQ bs (optQ bs + 60) 4 = true) (q15 : tabQ bs + 40 * cntQ bs ≤ hdrQ bs) (q16 : hdrQ bs ≤ bs.length) : hdB bs = true := by
  unfold hdB
  simp only [Bool.and_eq_true, Bool.or_eq_true, decide_eq_true_eq]
  exact ⟨⟨⟨⟨⟨⟨⟨⟨⟨⟨⟨⟨q1, q2⟩, q3⟩, q4⟩, q5⟩, q6, q7⟩, q8⟩, q9⟩, q10⟩, q11⟩, q12, q13⟩, q14⟩, q15, q16⟩
theorem parse_no {bs : List UInt8} (hl : bs.length ≤ 16777216) (h : hdB bs = true → secB bs = true → dirB bs = true → False) : parseQ bs = .inl 9 := by
  unfold parseQ
  rw [if_neg (by omega), if_pos]
  cases h1 : hdB bs <;> cases h2 : secB bs <;> cases h3 : dirB bs <;> simp_all
/-- An image whose rows are the call's own. -/
structure ImOr (B : Nat) (im : Im) (V : Option Addr) (m cV : Nat) (U : Option Addr) (k cU : Nat) (xs : List Own1) (W : World) : Prop where
  ml : m = im.secs.length
  secs : OwnR W B 60 2 V m cV (im.secs.flatMap secCells)
  kl : k = xs.length
  bytes : xs.map (fun x => x.2.2.2) = im.sigs
  sigs : OwnR W B 22 1 U k cU (xs.map Own1.val)
  own : ∀ x ∈ xs, OwnB W B x.1 x.2.1 x.2.2.1 x.2.2.2
theorem ImOr.rd {B : Nat} {im : Im} {V : Option Addr} {m cV : Nat} {U : Option Addr} {k cU : Nat} {xs : List Own1} {W : World} (h : ImOr B im V m cV U k cU xs W) : ImRd im V m cV U k cU xs W :=
  ⟨h.ml, h.secs.reads, h.kl, h.bytes, h.sigs.reads, fun x hx => (h.own x hx).rb⟩
theorem ImOr.below {B : Nat} {im : Im} {V : Option Addr} {m cV : Nat} {U : Option Addr} {k cU : Nat} {xs : List Own1} {W W' : World} (h : ImOr B im V m cV U k cU xs W) (hb : Below W.heap.size W W') : ImOr B im V m cV U k cU xs W' :=
  ⟨h.ml, h.secs.below hb (Nat.le_refl _), h.kl, h.bytes, h.sigs.below hb (Nat.le_refl _), fun x hx => (h.own x hx).below hb (Nat.le_refl _)⟩
theorem ImOr.lower {B B' : Nat} {im : Im} {V : Option Addr} {m cV : Nat} {U : Option Addr} {k cU : Nat} {xs : List Own1} {W : World} (h : ImOr B im V m cV U k cU xs W) (hb : B' ≤ B) : ImOr B' im V m cV U k cU xs W :=
  ⟨h.ml, h.secs.lower hb, h.kl, h.bytes, h.sigs.lower hb, fun x hx => (h.own x hx).lower hb⟩
def DParsePost (w : World) (bs : List UInt8) (e : Ending) (w' : World) : Prop :=
  (match parseQ bs with
    | .inl er => e = .returned (.tuple #[.agg imZero, .int .i64 (er : Nat)])
    | .inr im => ∃ (V : Option Addr) (m cV : Nat) (U : Option Addr) (k cU : Nat) (xs : List Own1), e = .returned (.tuple #[.agg (imVal im V m cV U k cU), .int .i64 0]) ∧ ImOr w.heap.size im V m cV U k cU xs w') ∧ Below w.heap.size w w'
theorem dp_no {w W : World} {bs : List UInt8} (h : parseQ bs = .inl 9) (hb : Below w.heap.size w W) : DParsePost w bs (.returned (.tuple #[.agg imZero, .int .i64 9])) W := by
  unfold DParsePost
  rw [h]
  exact ⟨rfl, hb⟩
theorem dp_yes {w W : World} {bs : List UInt8} (im : Im) (hp : parseQ bs = .inr im) (V : Option Addr) (m cV : Nat) (U : Option Addr) (k cU : Nat) (xs : List Own1) (cs : Array Value) (hc : cs = imVal im V m cV U k cU) (hr : ImOr w.heap.size im V m cV U k cU xs W) (hb : Below w.heap.size w W) : DParsePost w bs (.returned (.tuple #[.agg cs, .int .i64 0])) W := by
  unfold DParsePost
  rw [hp]
  exact ⟨⟨V, m, cV, U, k, cU, xs, by rw [hc], hr⟩, hb⟩
theorem dp_err {w W : World} {bs : List UInt8} {er : Nat} (h : parseQ bs = .inl er) (hb : Below w.heap.size w W) : DParsePost w bs (.returned (.tuple #[.agg imZero, .int .i64 (er : Nat)])) W := by
  unfold DParsePost
  rw [h]
  exact ⟨rfl, hb⟩
theorem gr_setRow (W : World) (g : Nat) (cs : Array Value) : W.grownBy (W.setRow g cs) (some g) := ⟨rfl, rfl, rfl, Nat.le_of_eq (setRow_size _ _ _).symm, fun k hk hne => setRow_other _ _ _ _ (fun e => hne (by rw [e]))⟩
structure EF (w : World) (G B9 B12 : Nat) (V : Option Addr) (m cV : Nat) (secs : List (Nat × Nat)) (gy cy yb : Nat) (vals : List Value) (U : Option Addr) (k cU : Nat) (xs : List Own1) (cs : Array Value) (W : World) : Prop where
  i : W.heap[G]? = some (.cells cs 30)
  z : W.heap[w.heap.size]? = some (.cells imZero 30)
  b : Below w.heap.size w W
  v : OwnR W B9 60 2 V m cV (secs.flatMap secCells)
  y : OwnR W yb 3 1 (some ⟨gy, 0, none⟩) 3 cy vals
  u : OwnR W B12 22 1 U k cU (xs.map Own1.val)
  x : ∀ x ∈ xs, OwnB W B12 x.1 x.2.1 x.2.2.1 x.2.2.2
theorem EF.set {w : World} {G B9 B12 : Nat} {V : Option Addr} {m cV : Nat} {secs : List (Nat × Nat)} {gy cy yb : Nat} {vals : List Value} {U : Option Addr} {k cU : Nat} {xs : List Own1} {cs : Array Value} {W : World} (h : EF w G B9 B12 V m cV secs gy cy yb vals U k cU xs cs W)
    (h0 : w.heap.size < G) (h1 : G < B9) (h2 : G < gy) (h3 : G < B12) (j : Nat) (u : Value) : EF w G B9 B12 V m cV secs gy cy yb vals U k cU xs (cs.setIfInBounds j u) (W.setCell ⟨G, j, none⟩ u) := by
  have hg : W.grownBy (W.setCell ⟨G, j, none⟩ u) (some G) := grown_one W G j u
  have hne : ∀ {A : Option Addr} {B : Nat}, G < B → (∀ g, blk A = some g → B ≤ g) → (blk A = none ∨ blk A ≠ some G) := by
    intro A B hB hA
    cases hk : blk A with
    | none => exact .inl rfl
    | some g => exact .inr (fun e => by have h7 := hA g hk; have h8 : g = G := Option.some.inj e; omega)
  exact ⟨heap_set_at _ _ j _ _ _ _ h.i, has_set h.z (by omega), kp_set h.b (by omega), h.v.kept hg (hne h1 (fun g hk => (h.v.blk_lt hk).1)), h.y.kept hg (.inr (fun e => by have h8 : gy = G := Option.some.inj e; omega)), h.u.kept hg (hne h3 (fun g hk => (h.u.blk_lt hk).1)), fun x hx => (h.x x hx).kept hg (hne h3 (fun g hk => ((h.x x hx).blk_lt hk).1))⟩
/-- What stands while the document's Parse goes on: no image in two blocks. -/
structure DP (w W : World) : Prop where
  z : W.heap[w.heap.size]? = some (.cells imZero 30)
  y : W.heap[w.heap.size + 1]? = some (.cells imZero 30)
  b : Below w.heap.size w W
theorem DP.below {w W W' : World} (h : DP w W) (hb : Below W.heap.size W W') : DP w W' := ⟨has_below h.z hb, has_below h.y hb, kp_call h.b hb⟩
theorem DP.out {w W : World} (h : DP w W) : W.heap[w.heap.size]? = some (.cells imZero 30) ∧ W.heap[w.heap.size + 1]? = some (.cells imZero 30) ∧ Below w.heap.size w W := ⟨h.z, h.y, h.b⟩
set_option maxHeartbeats 40000000 in
theorem dparse_any (A : Option Addr) (n c : Nat) (bs : List UInt8) (w : World) (hR : RB w A n bs) (hnc : n ≤ c) (hcc : c ≤ 9223372036854775807) (hn : n ≤ 16777216) :
    Calls Tryz.prog 20 #[.slice A n c] w (DParsePost w bs) := by
  have HR := Lib.hid hR
  have hbl := hR.1
  have t1 : decide ((16777216 : Int) < (n : Int)) = false := by simp; omega
  clear hR
  go_enter Tryz.func20, Tryz.ntmps20
  go_upto_region 4 with (fail)
  refine wp_nm fun W1 hW1 => ?_
  have K1 : Hid (DP w W1) := by
    refine Lib.hid ⟨?_, ?_, ?_⟩
    · rw [← hW1]; exact has_alloc (has_new w _) _
    · rw [← hW1]; exact has_new' _ _ _ (by simp)
    · rw [← hW1]; exact kp_alloc (kp_alloc (Below.refl _ _) _) _
  clear hW1 t1
  have C := Lib.hid (dnum_any A n c bs 60 4 60 4 W1 (HR.out.below K1.out.b) hnc hcc hn rfl rfl (.inr rfl) (by omega))
  have hbig : bs.length ≤ 16777216 := by omega
  obtain ⟨p, hp⟩ : ∃ p, numQ bs 60 4 = p := ⟨_, rfl⟩
  rw [hp] at C
  have hp4 : p < 4294967296 := by rw [← hp]; exact numQ_lt4 _ _
  have hpA : pAt bs = p := hp
  go_upto_region 5 with (go_at_call 42; (with_reducible refine C.out.mono ?_); rintro e W2 ⟨rfl, hb2⟩; have K2 := Lib.hid (K1.out.below hb2); clear C hb2)
  cases h1 : inQ bs 60 4 with
  | false =>
    have hno : parseQ bs = .inl 9 := parse_no hbig (fun g _ _ => by have := (hd_parts bs g).2.1; rw [h1] at this; cases this)
    have KK := Lib.hid K2.out.out
    clear h1
    have HNO := Lib.hid hno
    clear hno
    go_wp2_with (first | (refine wpList_load_row rfl _ _ rfl (w.heap.size + 1) rfl _ _ _ _ KK.out.2.1 Tryz.underlying30 rfl (by kernel_rfl) ?_) | (refine wpList_store_row rfl _ _ _ rfl w.heap.size imZero rfl rfl _ _ KK.out.1 (by kernel_rfl) rfl (by simp [imZero, Value.oneCell']) ?_))
    refine bodyPost_ret (results_ct Tryz.results20 _ (LV.agg (setRow_heap _ _ _ _ _ _ KK.out.1) Tryz.underlying30 rfl (by kernel_rfl))) rfl ?_
    exact dp_no HNO.out (by first | exact below_setRow KK.out.2.2 (Nat.le_refl _) _ | exact below_setRow (kp_drewN KK.out.2.2 _) (Nat.le_refl _) _)
  | true =>
  have B1 := Lib.hid (fun W (hb : Below w.heap.size w W) => dbeg_any A n c bs 0 0 ⟨#[77, 90]⟩ [77, 90] (by rw [Lib.toList_data]) rfl (by decide) (by decide) W (HR.out.below hb) hnc hcc hn rfl (by omega))
  have B2 := Lib.hid (fun W (hb : Below w.heap.size w W) => dbeg_any A n c bs p p ⟨#[80, 69, 0, 0]⟩ [80, 69, 0, 0] (by rw [Lib.toList_data]) rfl (by decide) (by decide) W (HR.out.below hb) hnc hcc hn rfl (by omega))
  obtain ⟨c1, hc1⟩ : ∃ b, (cut bs 0 ([77, 90] : List UInt8).length == [77, 90]) = b := ⟨_, rfl⟩
  obtain ⟨c2, hc2⟩ : ∃ b, (cut bs p ([80, 69, 0, 0] : List UInt8).length == [80, 69, 0, 0]) = b := ⟨_, rfl⟩
  rw [hc1] at B1
  rw [hc2] at B2
  have hc1' : (cut bs 0 2 == [77, 90]) = c1 := hc1
  have hc2' : (cut bs (pAt bs) 4 == [80, 69, 0, 0]) = c2 := by rw [hpA]; exact hc2
  clear hc1 hc2
  cases c1 with
  | false =>
    have hno : parseQ bs = .inl 9 := parse_no hbig (fun g _ _ => by have := (hd_parts bs g).1; rw [hc1'] at this; cases this)
    clear h1 hc1' hc2'
    go_upto_region 6 with (go_at_call 43; (with_reducible refine (B1.out _ K2.out.b).mono ?_); rintro e W3 ⟨rfl, hb3⟩; have K3 := Lib.hid (K2.out.below hb3); clear B1 hb3)
    have KK := Lib.hid K3.out.out
    have HNO := Lib.hid hno
    clear hno
    go_wp2_with (first | (refine wpList_load_row rfl _ _ rfl (w.heap.size + 1) rfl _ _ _ _ KK.out.2.1 Tryz.underlying30 rfl (by kernel_rfl) ?_) | (refine wpList_store_row rfl _ _ _ rfl w.heap.size imZero rfl rfl _ _ KK.out.1 (by kernel_rfl) rfl (by simp [imZero, Value.oneCell']) ?_))
    refine bodyPost_ret (results_ct Tryz.results20 _ (LV.agg (setRow_heap _ _ _ _ _ _ KK.out.1) Tryz.underlying30 rfl (by kernel_rfl))) rfl ?_
    exact dp_no HNO.out (by first | exact below_setRow KK.out.2.2 (Nat.le_refl _) _ | exact below_setRow (kp_drewN KK.out.2.2 _) (Nat.le_refl _) _)
  | true =>
  by_cases g3 : p < 64
  · have t3 : decide ((p : Int) < 64) = true := by simp; omega
    have t3n : decide (p < 64) = true := by simp; omega
    have hno : parseQ bs = .inl 9 := parse_no hbig (fun g _ _ => by have := (hd_parts bs g).2.2.1; omega)
    clear h1 hc1' hc2' g3
    go_upto_region 6 with (go_at_call 43; (with_reducible refine (B1.out _ K2.out.b).mono ?_); rintro e W3 ⟨rfl, hb3⟩; have K3 := Lib.hid (K2.out.below hb3); clear B1 hb3)
    have KK := Lib.hid K3.out.out
    have HNO := Lib.hid hno
    clear hno
    go_wp2_with (first | (refine wpList_load_row rfl _ _ rfl (w.heap.size + 1) rfl _ _ _ _ KK.out.2.1 Tryz.underlying30 rfl (by kernel_rfl) ?_) | (refine wpList_store_row rfl _ _ _ rfl w.heap.size imZero rfl rfl _ _ KK.out.1 (by kernel_rfl) rfl (by simp [imZero, Value.oneCell']) ?_))
    refine bodyPost_ret (results_ct Tryz.results20 _ (LV.agg (setRow_heap _ _ _ _ _ _ KK.out.1) Tryz.underlying30 rfl (by kernel_rfl))) rfl ?_
    exact dp_no HNO.out (by first | exact below_setRow KK.out.2.2 (Nat.le_refl _) _ | exact below_setRow (kp_drewN KK.out.2.2 _) (Nat.le_refl _) _)
  have t3 : decide ((p : Int) < 64) = false := by simp; omega
  have t3n : decide (p < 64) = false := by simp; omega
  cases c2 with
  | false =>
    have hno : parseQ bs = .inl 9 := parse_no hbig (fun g _ _ => by have := (hd_parts bs g).2.2.2.1; rw [hc2'] at this; cases this)
    clear h1 hc1' hc2' g3
    go_upto_region 6 with (first | (go_at_call 43; (with_reducible refine (B1.out _ K2.out.b).mono ?_); rintro e W3 ⟨rfl, hb3⟩; have K3 := Lib.hid (K2.out.below hb3); clear B1 hb3) | (go_at_call 43; (with_reducible refine (B2.out _ K3.out.b).mono ?_); rintro e W4 ⟨rfl, hb4⟩; have K4 := Lib.hid (K3.out.below hb4); clear B2 hb4))
    have KK := Lib.hid K4.out.out
    have HNO := Lib.hid hno
    clear hno
    go_wp2_with (first | (refine wpList_load_row rfl _ _ rfl (w.heap.size + 1) rfl _ _ _ _ KK.out.2.1 Tryz.underlying30 rfl (by kernel_rfl) ?_) | (refine wpList_store_row rfl _ _ _ rfl w.heap.size imZero rfl rfl _ _ KK.out.1 (by kernel_rfl) rfl (by simp [imZero, Value.oneCell']) ?_))
    refine bodyPost_ret (results_ct Tryz.results20 _ (LV.agg (setRow_heap _ _ _ _ _ _ KK.out.1) Tryz.underlying30 rfl (by kernel_rfl))) rfl ?_
    exact dp_no HNO.out (by first | exact below_setRow KK.out.2.2 (Nat.le_refl _) _ | exact below_setRow (kp_drewN KK.out.2.2 _) (Nat.le_refl _) _)
  | true =>
  obtain ⟨op, hop⟩ : ∃ op, p + 24 = op := ⟨_, rfl⟩
  have e1 : IntKind.i64.wrap ((p : Int) + 24) = (op : Int) := by rw [IntWalk.i64_in _ (by omega)]; omega
  have hopQ : optQ bs = op := by unfold optQ; rw [hpA, hop]
  obtain ⟨a6, ha6⟩ : ∃ a, p + 6 = a := ⟨_, rfl⟩
  obtain ⟨a20, ha20⟩ : ∃ a, p + 20 = a := ⟨_, rfl⟩
  obtain ⟨a60, ha60⟩ : ∃ a, op + 60 = a := ⟨_, rfl⟩
  have e2 : IntKind.i64.wrap ((p : Int) + 6) = (a6 : Int) := by rw [IntWalk.i64_in _ (by omega)]; omega
  have e3 : IntKind.i64.wrap ((p : Int) + 20) = (a20 : Int) := by rw [IntWalk.i64_in _ (by omega)]; omega
  have e4 : IntKind.i64.wrap ((op : Int) + 60) = (a60 : Int) := by rw [IntWalk.i64_in _ (by omega)]; omega
  have HQ0 := Lib.hid (And.intro h1 (And.intro hc1' (And.intro hc2' (And.intro hpA (And.intro hopQ (And.intro ha6 (And.intro ha20 ha60)))))))
  have hopb : 88 ≤ op ∧ op ≤ 4294967320 := by omega
  clear h1 hc1' hc2' hop
  go_upto_region 8 with (first | (go_at_call 43; (with_reducible refine (B1.out _ K2.out.b).mono ?_); rintro e W3 ⟨rfl, hb3⟩; have K3 := Lib.hid (K2.out.below hb3); clear B1 hb3) | (go_at_call 43; (with_reducible refine (B2.out _ K3.out.b).mono ?_); rintro e W4 ⟨rfl, hb4⟩; have K4 := Lib.hid (K3.out.below hb4); clear B2 hb4))
  have C := Lib.hid (fun W (hb : Below w.heap.size w W) (hr : ReadR W (some ⟨W4.heap.size, 0, none⟩) [.int .i64 (a6 : Nat), .int .i64 2, .int .i64 (a20 : Nat), .int .i64 2, .int .i64 (op : Nat), .int .i64 2, .int .i64 (a60 : Nat), .int .i64 4]) => dnums_any A n c bs (some ⟨W4.heap.size, 0, none⟩) 4 4 [(a6, 2), (a20, 2), (op, 2), (a60, 4)] W (HR.out.below hb) hnc hcc hn hr rfl (by decide) (by intro x hx; simp at hx; rcases hx with rfl | rfl | rfl | rfl <;> (refine ⟨by simp; omega, ?_⟩; first | exact .inr rfl | exact .inl rfl)))
  go_upto_region 9 with (go_at_call 44; (with_reducible refine (C.out _ (kp_alloc K4.out.b _) (readR_lit (has_new _ _))).mono ?_); rintro e W5 ⟨⟨X, mx, cx, rfl, hx⟩, hb5⟩; have HX := Lib.hid (And.intro hx (kp_call (kp_alloc (Below.refl W4.heap.size W4) _) hb5)); clear C hx hb5)
  have K5 := Lib.hid (K4.out.below HX.out.2)
  have hall : allIn bs [(a6, 2), (a20, 2), (op, 2), (a60, 4)] = (inQ bs a6 2 && (inQ bs a20 2 && (inQ bs op 2 && inQ bs a60 4))) := by simp [allIn]
  cases hq : allIn bs [(a6, 2), (a20, 2), (op, 2), (a60, 4)] with
  | false =>
    rw [hq] at hall
    have hno : parseQ bs = .inl 9 := parse_no hbig (fun g _ _ => by
      obtain ⟨_, _, _, _, q5, _, _, q8, q9, _, _, _, _, q14, _⟩ := hd_parts bs g
      rw [HQ0.out.2.2.2.2.1] at q9 q14
      rw [HQ0.out.2.2.2.1] at q5 q8
      rw [HQ0.out.2.2.2.2.2.1] at q5
      rw [HQ0.out.2.2.2.2.2.2.1] at q8
      rw [HQ0.out.2.2.2.2.2.2.2] at q14
      rw [q5, q8, q9, q14] at hall
      cases hall)
    have KK := Lib.hid K5.out.out
    clear hall hq HX
    have HNO := Lib.hid hno
    clear hno
    go_wp2_with (first | (refine wpList_load_row rfl _ _ rfl (w.heap.size + 1) rfl _ _ _ _ KK.out.2.1 Tryz.underlying30 rfl (by kernel_rfl) ?_) | (refine wpList_store_row rfl _ _ _ rfl w.heap.size imZero rfl rfl _ _ KK.out.1 (by kernel_rfl) rfl (by simp [imZero, Value.oneCell']) ?_))
    refine bodyPost_ret (results_ct Tryz.results20 _ (LV.agg (setRow_heap _ _ _ _ _ _ KK.out.1) Tryz.underlying30 rfl (by kernel_rfl))) rfl ?_
    exact dp_no HNO.out (by first | exact below_setRow KK.out.2.2 (Nat.le_refl _) _ | exact below_setRow (kp_drewN KK.out.2.2 _) (Nat.le_refl _) _)
  | true =>
  rw [hq] at hall
  obtain ⟨hx, _⟩ := HX.out
  obtain ⟨hm4, hrd⟩ := hx hq
  have hmx : mx = 4 := hm4
  subst hmx
  obtain ⟨gx, hgx, hgx2, _⟩ := hrd.shape (by have := hrd.cap.1; omega)
  subst hgx
  have k0 := ownR_at hrd (j := 0) rfl
  have k1 := ownR_at hrd (j := 1) rfl
  have k2 := ownR_at hrd (j := 2) rfl
  have k3 := ownR_at hrd (j := 3) rfl
  unfold numV at k0 k1 k2 k3
  dsimp only at k0 k1 k2 k3
  obtain ⟨h5, h8, h9, h14⟩ : inQ bs a6 2 = true ∧ inQ bs a20 2 = true ∧ inQ bs op 2 = true ∧ inQ bs a60 4 = true := by
    have h9 := hall.symm
    simp only [Bool.and_eq_true] at h9
    exact h9
  obtain ⟨ct, hct⟩ : ∃ x, numQ bs a6 2 = x := ⟨_, rfl⟩
  obtain ⟨ln, hln⟩ : ∃ x, numQ bs a20 2 = x := ⟨_, rfl⟩
  obtain ⟨mg, hmg⟩ : ∃ x, numQ bs op 2 = x := ⟨_, rfl⟩
  obtain ⟨hd, hhd⟩ : ∃ x, numQ bs a60 4 = x := ⟨_, rfl⟩
  rw [hct] at k0
  rw [hln] at k1
  rw [hmg] at k2
  rw [hhd] at k3
  have bct : ct < 65536 := by rw [← hct]; exact numQ_lt2 _ _
  have bln : ln < 65536 := by rw [← hln]; exact numQ_lt2 _ _
  have bmg : mg < 65536 := by rw [← hmg]; exact numQ_lt2 _ _
  have bhd : hd < 4294967296 := by rw [← hhd]; exact numQ_lt4 _ _
  obtain ⟨_, _, _, hpA', hopQ', ha6', ha20', ha60'⟩ := HQ0.out
  have qct : cntQ bs = ct := by unfold cntQ; rw [hpA', ha6', hct]
  have qln : lenQ bs = ln := by unfold lenQ; rw [hpA', ha20', hln]
  have qmg : magQ bs = mg := by unfold magQ; rw [hopQ', hmg]
  have qhd : hdrQ bs = hd := by unfold hdrQ; rw [hopQ', ha60', hhd]
  have Q5 : inQ bs (pAt bs + 6) 2 = true := by rw [hpA', ha6']; exact h5
  have Q8 : inQ bs (pAt bs + 20) 2 = true := by rw [hpA', ha20']; exact h8
  have Q9 : inQ bs (optQ bs) 2 = true := by rw [hopQ']; exact h9
  have Q14 : inQ bs (optQ bs + 60) 4 = true := by rw [hopQ', ha60']; exact h14
  have HQ1 := Lib.hid (And.intro qct (And.intro qln (And.intro qmg (And.intro qhd (And.intro Q5 (And.intro Q8 (And.intro Q9 Q14)))))))
  have k0' : W5.cell? ⟨gx, 0, none⟩ = some (.int .i64 (ct : Nat)) := k0
  clear hall hq hx hm4 hrd h5 h8 h9 h14 hct hln hmg hhd hpA' hopQ' ha6' ha20' ha60' qct qln qmg qhd Q5 Q8 Q9 Q14 k0 hgx2
  have HX2 := Lib.hid HX.out.2
  clear HX
  by_cases g1 : ct < 1
  · have t1 : decide ((ct : Int) < 1) = true := by simp; omega
    have t1n : decide (ct < 1) = true := by simp; omega
    have t1z : ct = 0 := by omega
    have hno : parseQ bs = .inl 9 := parse_no hbig (fun g _ _ => by have := (hd_parts bs g).2.2.2.2.2.1; rw [HQ1.out.1] at this; omega)
    have KK := Lib.hid K5.out.out
    clear g1
    have HNO := Lib.hid hno
    clear hno
    go_wp2_with (first | (refine wpList_load_row rfl _ _ rfl (w.heap.size + 1) rfl _ _ _ _ KK.out.2.1 Tryz.underlying30 rfl (by kernel_rfl) ?_) | (refine wpList_store_row rfl _ _ _ rfl w.heap.size imZero rfl rfl _ _ KK.out.1 (by kernel_rfl) rfl (by simp [imZero, Value.oneCell']) ?_))
    refine bodyPost_ret (results_ct Tryz.results20 _ (LV.agg (setRow_heap _ _ _ _ _ _ KK.out.1) Tryz.underlying30 rfl (by kernel_rfl))) rfl ?_
    exact dp_no HNO.out (by first | exact below_setRow KK.out.2.2 (Nat.le_refl _) _ | exact below_setRow (kp_drewN KK.out.2.2 _) (Nat.le_refl _) _)
  have t1 : decide ((ct : Int) < 1) = false := by simp; omega
  have t1n : decide (ct < 1) = false := by simp; omega
  have t1z : ¬ ct = 0 := by omega
  by_cases g2 : 96 < ct
  · have t2 : decide ((96 : Int) < (ct : Int)) = true := by simp; omega
    have t2n : decide (96 < ct) = true := by simp; omega
    have hno : parseQ bs = .inl 9 := parse_no hbig (fun g _ _ => by have := (hd_parts bs g).2.2.2.2.2.2.1; rw [HQ1.out.1] at this; omega)
    have KK := Lib.hid K5.out.out
    clear g1 g2
    have HNO := Lib.hid hno
    clear hno
    go_wp2_with (first | (refine wpList_load_row rfl _ _ rfl (w.heap.size + 1) rfl _ _ _ _ KK.out.2.1 Tryz.underlying30 rfl (by kernel_rfl) ?_) | (refine wpList_store_row rfl _ _ _ rfl w.heap.size imZero rfl rfl _ _ KK.out.1 (by kernel_rfl) rfl (by simp [imZero, Value.oneCell']) ?_))
    refine bodyPost_ret (results_ct Tryz.results20 _ (LV.agg (setRow_heap _ _ _ _ _ _ KK.out.1) Tryz.underlying30 rfl (by kernel_rfl))) rfl ?_
    exact dp_no HNO.out (by first | exact below_setRow KK.out.2.2 (Nat.le_refl _) _ | exact below_setRow (kp_drewN KK.out.2.2 _) (Nat.le_refl _) _)
  have t2 : decide ((96 : Int) < (ct : Int)) = false := by simp; omega
  have t2n : decide (96 < ct) = false := by simp; omega
  by_cases g3' : mg = 267 ∨ mg = 523
  rotate_left
  · have t4 : ((mg : Int) != 267) = true := by simp; omega
    have t5 : ((mg : Int) != 523) = true := by simp; omega
    have hno : parseQ bs = .inl 9 := parse_no hbig (fun g _ _ => by have := (hd_parts bs g).2.2.2.2.2.2.2.2.2.1; rw [HQ1.out.2.2.1] at this; exact g3' this)
    have KK := Lib.hid K5.out.out
    clear g1 g2 g3'
    have HNO := Lib.hid hno
    clear hno
    go_wp2_with (first | (refine wpList_load_row rfl _ _ rfl (w.heap.size + 1) rfl _ _ _ _ KK.out.2.1 Tryz.underlying30 rfl (by kernel_rfl) ?_) | (refine wpList_store_row rfl _ _ _ rfl w.heap.size imZero rfl rfl _ _ KK.out.1 (by kernel_rfl) rfl (by simp [imZero, Value.oneCell']) ?_))
    refine bodyPost_ret (results_ct Tryz.results20 _ (LV.agg (setRow_heap _ _ _ _ _ _ KK.out.1) Tryz.underlying30 rfl (by kernel_rfl))) rfl ?_
    exact dp_no HNO.out (by first | exact below_setRow KK.out.2.2 (Nat.le_refl _) _ | exact below_setRow (kp_drewN KK.out.2.2 _) (Nat.le_refl _) _)
  rcases g3' with g3' | g3'
  · have hdq : dirsQ bs = op + 96 := by
      unfold dirsQ dirsOf
      rw [HQ0.out.2.2.2.2.1, HQ1.out.2.2.1, g3']
      simp
    have t4 : ((mg : Int) != 267) = false := by rw [g3']; rfl
    have t6 : ((mg : Int) == 523) = false := by rw [g3']; rfl
    have hmgq : magQ bs = 267 ∨ magQ bs = 523 := by rw [HQ1.out.2.2.1, g3']; simp
    have hplq : decide (magQ bs = 523) = false := by rw [HQ1.out.2.2.1, g3']; rfl
    obtain ⟨ck, hck⟩ : ∃ ck, op + 64 = ck := ⟨_, rfl⟩
    have e5 : IntKind.i64.wrap ((op : Int) + 64) = (ck : Int) := by rw [IntWalk.i64_in _ (by omega)]; omega
    have e6 : IntKind.u32.wrap (hd : Int) = (hd : Int) := IntWalk.u32_in _ (by omega)
    obtain ⟨ds, hds⟩ : ∃ d, op + 96 = d := ⟨_, rfl⟩
    have e8 : IntKind.i64.wrap ((op : Int) + 96) = (ds : Int) := by rw [IntWalk.i64_in _ (by omega)]; omega
    obtain ⟨dr, hdr⟩ : ∃ d, ds + 32 = d := ⟨_, rfl⟩
    have e9 : IntKind.i64.wrap ((ds : Int) + 32) = (dr : Int) := by rw [IntWalk.i64_in _ (by omega)]; omega
    obtain ⟨dm, hdm⟩ : ∃ d, ds - 4 = d := ⟨_, rfl⟩
    have e10 : IntKind.i64.wrap ((ds : Int) - 4) = (dm : Int) := by rw [IntWalk.i64_in _ (by omega)]; omega
    obtain ⟨dp4, hdp⟩ : ∃ d, dr + 4 = d := ⟨_, rfl⟩
    have e11 : IntKind.i64.wrap ((dr : Int) + 4) = (dp4 : Int) := by rw [IntWalk.i64_in _ (by omega)]; omega
    have hb9 : dm ≤ 1099511627776 ∧ dr ≤ 1099511627776 ∧ dp4 ≤ 1099511627776 := by omega
    have KEEP : Hid (∀ W, Below W5.heap.size W5 W → (W.cell? ⟨gx, 2, none⟩ = some (.int .i64 (mg : Nat)) ∧ W.cell? ⟨gx, 3, none⟩ = some (.int .i64 (hd : Nat))) ∧ Below W5.heap.size W5 W) := Lib.hid (fun W h => ⟨⟨kp_cell h k2, kp_cell h k3⟩, h⟩)
    have HDQ := Lib.hid (And.intro hdq (And.intro hmgq (And.intro hplq (And.intro hck (And.intro hds (And.intro hdr (And.intro hdm hdp)))))))
    have hct96 : 1 ≤ ct ∧ ct ≤ 96 ∧ 64 ≤ p := by omega
    clear hdq hmgq hplq hck hds hdr hdm hdp g1 g2 g3
    go_upto_region 11 with (fail)
    go_region_held3 (fun W => (W.cell? ⟨gx, 2, none⟩ = some (.int .i64 (mg : Nat)) ∧ W.cell? ⟨gx, 3, none⟩ = some (.int .i64 (hd : Nat))) ∧ Below W5.heap.size W5 W)
      ((apply KEEP.out; repeat (with_reducible (first | assumption | exact Below.refl _ _ | refine kp_drew ?_ | refine kp_alloc ?_ _ | refine kp_set ?_ (Nat.le_refl _)))))
      (fail)
    go_upto_region 12 with (fail)
    refine wp_nm fun W6 hW6 => ?_
    have k6 : W6.heap[W5.heap.size]? = some (.cells #[.bool false, .int .i64 (ck : Nat), .int .i64 0, .int .u32 (hd : Nat), .slice none 0 0, .int .u32 0, .int .u32 0, .slice none 0 0] 30) := by rw [← hW6]; exact has_new W5 _
    have hb6 : Below W5.heap.size W5 W6 := by rw [← hW6]; exact kp_drew (kp_alloc (Below.refl _ _) _)
    have K6 := Lib.hid (And.intro k6 hb6)
    obtain ⟨z0, z1, z2, z3, z4, z5, z6, z7⟩ := cells_8 k6
    have f2 := Lib.frozen_of_heap k6 2
    clear hW6 k6 hb6 KEEP
    go_upto_region 16 with (fail)
    refine wp_nm fun W7 hW7 => ?_
    have k7 : W7.heap[W5.heap.size]? = some (.cells #[.bool false, .int .i64 (ck : Nat), .int .i64 (dr : Nat), .int .u32 (hd : Nat), .slice none 0 0, .int .u32 0, .int .u32 0, .slice none 0 0] 30) := by
      rw [← hW7]
      have h9 := heap_set_at _ W5.heap.size 2 _ _ _ (.int .i64 (dr : Nat)) K6.out.1
      simp only [List.setIfInBounds_toArray, List.set_cons_zero, List.set_cons_succ] at h9
      exact h9
    have hb7 : Below W5.heap.size W5 W7 := by rw [← hW7]; exact kp_set K6.out.2 (Nat.le_refl _)
    have K7 := Lib.hid (And.intro k7 hb7)
    have m0 := kp_cell hb7 k0'
    have m1 := kp_cell hb7 k1
    have m3 := kp_cell hb7 k3
    have M7 := Lib.hid (And.intro m0 (And.intro m1 m3))
    have K7d := Lib.hid (K5.out.below hb7)
    have hw57 : W5.heap.size < W7.heap.size := block_lt k7
    obtain ⟨z0, z1, z2, z3, z4, z5, z6, z7⟩ := cells_8 k7
    have C := Lib.hid (fun W (hb : Below w.heap.size w W) (hr : ReadR W (some ⟨W7.heap.size, 0, none⟩) [.int .i64 (dm : Nat), .int .i64 4, .int .i64 (dr : Nat), .int .i64 4, .int .i64 (dp4 : Nat), .int .i64 4]) => dnums_any A n c bs (some ⟨W7.heap.size, 0, none⟩) 3 3 [(dm, 4), (dr, 4), (dp4, 4)] W (HR.out.below hb) hnc hcc hn hr rfl (by decide) (by intro x hx; simp at hx; rcases hx with rfl | rfl | rfl <;> exact ⟨by simp; omega, .inr rfl⟩))
    clear hW7 k7 hb7 K6 f2 m0 m1 m3 k0' k1 k2 k3 HX2
    go_upto_region 17 with (go_at_call 44; (with_reducible refine (C.out _ (kp_alloc K7d.out.b _) (readR_lit (has_new _ _))).mono ?_); rintro e W8 ⟨⟨Y, my, cy, rfl, hy⟩, hb8⟩; have HY := Lib.hid (And.intro hy (kp_call (kp_alloc (Below.refl W7.heap.size W7) _) hb8)); clear C hy hb8)
    have K8 := Lib.hid (K7d.out.below HY.out.2)
    have KK := Lib.hid K8.out.out
    have n0 := kp_cell HY.out.2 M7.out.1
    have n1 := kp_cell HY.out.2 M7.out.2.1
    have n3 := kp_cell HY.out.2 M7.out.2.2
    have k8 := has_below K7.out.1 HY.out.2
    have HK8 := Lib.hid (And.intro k8 (And.intro n0 (And.intro n1 n3)))
    have hw78 : W7.heap.size ≤ W8.heap.size := HY.out.2.size
    clear z0 z1 z2 z3 z4 z5 z6 z7 k8 K7 M7 K7d
    obtain ⟨tb, htb⟩ : ∃ tb, op + ln = tb := ⟨_, rfl⟩
    have e12 : IntKind.i64.wrap ((op : Int) + (ln : Int)) = (tb : Int) := by rw [IntWalk.i64_in _ (by omega)]; omega
    have hall : allIn bs [(dm, 4), (dr, 4), (dp4, 4)] = (inQ bs dm 4 && (inQ bs dr 4 && inQ bs dp4 4)) := by simp [allIn]
    obtain ⟨dq1, dq2, dq3, dq4, dq5, dq6, dq7, dq8⟩ := HDQ.out
    have QD : dirsQ bs - 4 = dm ∧ dirQ bs = dr ∧ dirQ bs + 4 = dp4 := by
      have h9 : dirQ bs = dirsQ bs + 32 := rfl
      omega
    have HQD := Lib.hid QD
    have HTB : Hid (tabQ bs = tb) := by unfold tabQ; rw [HQ0.out.2.2.2.2.1, HQ1.out.2.1]; exact Lib.hid htb
    clear dq1 dq2 dq3 dq4 dq5 dq6 dq7 dq8
    cases hq : allIn bs [(dm, 4), (dr, 4), (dp4, 4)] with
    | false =>
      rw [hq] at hall
      have hno : parseQ bs = .inl 9 := parse_no hbig (fun g _ g2 => by
        have q11 := (hd_parts bs g).2.2.2.2.2.2.2.2.2.2.1
        unfold dirB at g2
        rw [Bool.and_eq_true] at g2
        rw [HQD.out.1] at q11
        rw [HQD.out.2.1, show dr + 4 = dp4 from by have := HQD.out; omega] at g2
        rw [q11, g2.1, g2.2] at hall
        cases hall)
      clear hall hq HY
      go_upto_region 18 with (fail)
      go_quiet (fail)
      have HNO := Lib.hid hno
      clear hno
      go_wp2_with (first | (refine wpList_load_row rfl _ _ rfl (w.heap.size + 1) rfl _ _ _ _ KK.out.2.1 Tryz.underlying30 rfl (by kernel_rfl) ?_) | (refine wpList_store_row rfl _ _ _ rfl w.heap.size imZero rfl rfl _ _ KK.out.1 (by kernel_rfl) rfl (by simp [imZero, Value.oneCell']) ?_))
      refine bodyPost_ret (results_ct Tryz.results20 _ (LV.agg (setRow_heap _ _ _ _ _ _ KK.out.1) Tryz.underlying30 rfl (by kernel_rfl))) rfl ?_
      exact dp_no HNO.out (by first | exact below_setRow KK.out.2.2 (Nat.le_refl _) _ | exact below_setRow (kp_drewN KK.out.2.2 _) (Nat.le_refl _) _)
    | true =>
    rw [hq] at hall
    obtain ⟨hy, _⟩ := HY.out
    obtain ⟨hm3, hrd⟩ := hy hq
    have hmy : my = 3 := hm3
    subst hmy
    obtain ⟨gy, hgy, hgy2, _⟩ := hrd.shape (by have := hrd.cap.1; omega)
    subst hgy
    have y0 := ownR_at hrd (j := 0) rfl
    have y1 := ownR_at hrd (j := 1) rfl
    have y2 := ownR_at hrd (j := 2) rfl
    unfold numV at y0 y1 y2
    dsimp only at y0 y1 y2
    obtain ⟨h5, h8, h9⟩ : inQ bs dm 4 = true ∧ inQ bs dr 4 = true ∧ inQ bs dp4 4 = true := by
      have h9 := hall.symm
      simp only [Bool.and_eq_true] at h9
      exact h9
    obtain ⟨en, hen⟩ : ∃ x, numQ bs dm 4 = x := ⟨_, rfl⟩
    obtain ⟨cv, hcv⟩ : ∃ x, numQ bs dr 4 = x := ⟨_, rfl⟩
    obtain ⟨lv, hlv⟩ : ∃ x, numQ bs dp4 4 = x := ⟨_, rfl⟩
    rw [hen] at y0
    rw [hcv] at y1
    rw [hlv] at y2
    have ben : en < 4294967296 := by rw [← hen]; exact numQ_lt4 _ _
    have bcv : cv < 4294967296 := by rw [← hcv]; exact numQ_lt4 _ _
    have blv : lv < 4294967296 := by rw [← hlv]; exact numQ_lt4 _ _
    have hdp4 : dr + 4 = dp4 := by have := HQD.out; omega
    have QE : entQ bs = en ∧ ctQ bs = cv ∧ clQ bs = lv ∧ dirB bs = true ∧ inQ bs (dirsQ bs - 4) 4 = true := by
      unfold entQ ctQ clQ dirB
      rw [HQD.out.1, HQD.out.2.1, hdp4]
      exact ⟨hen, hcv, hlv, by rw [h8, h9]; rfl, h5⟩
    have HQE := Lib.hid QE
    have y0' : W8.cell? ⟨gy, 0, none⟩ = some (.int .i64 (en : Nat)) := y0
    have hgyw : W5.heap.size < gy := by have := hgy2; simp at this; omega
    have HOY := Lib.hid hrd
    have hval : [(dm, 4), (dr, 4), (dp4, 4)].map (numV bs) = [.int .i64 (en : Nat), .int .i64 (cv : Nat), .int .i64 (lv : Nat)] := by simp only [List.map, numV]; rw [hen, hcv, hlv]
    rw [hval] at HOY
    clear hall hq hy hm3 hrd h5 h8 h9 hen hcv hlv hdp4 QE y0 hgy2 hval
    obtain ⟨dd, hdd⟩ : ∃ dd, ds - op = dd := ⟨_, rfl⟩
    have hdsop : op ≤ ds ∧ ds ≤ op + 112 := by have := HDQ.out.2.2.2.2.1; omega
    have e13 : IntKind.i64.wrap ((ds : Int) - (op : Int)) = (dd : Int) := by rw [IntWalk.i64_in _ (by omega)]; omega
    obtain ⟨en8, hen8⟩ : ∃ x, 8 * en = x := ⟨_, rfl⟩
    have e14 : IntKind.i64.wrap (8 * (en : Int)) = (en8 : Int) := by rw [IntWalk.i64_in _ (by omega)]; omega
    obtain ⟨le, hle⟩ : ∃ x, dd + en8 = x := ⟨_, rfl⟩
    have e15 : IntKind.i64.wrap ((dd : Int) + (en8 : Int)) = (le : Int) := by rw [IntWalk.i64_in _ (by omega)]; omega
    obtain ⟨ct40, hct40⟩ : ∃ x, 40 * ct = x := ⟨_, rfl⟩
    have e16 : IntKind.i64.wrap (40 * (ct : Int)) = (ct40 : Int) := by rw [IntWalk.i64_in _ (by omega)]; omega
    obtain ⟨te, hte⟩ : ∃ x, tb + ct40 = x := ⟨_, rfl⟩
    have e17 : IntKind.i64.wrap ((tb : Int) + (ct40 : Int)) = (te : Int) := by rw [IntWalk.i64_in _ (by omega)]; omega
    have HLE : Hid (dirsQ bs - optQ bs + 8 * entQ bs = le) := by rw [HQE.out.1, HQ0.out.2.2.2.2.1, show dirsQ bs = ds from by have := HDQ.out; omega]; exact Lib.hid (by omega)
    have HTE : Hid (tabQ bs + 40 * cntQ bs = te) := by rw [HTB.out, HQ1.out.1]; exact Lib.hid (by omega)
    have htbb : tb ≤ 8589934592 := by omega
    have hte40 : 40 ≤ te := by omega
    clear hdd hen8 hle hct40 hte htb
    by_cases g4 : en < 5
    · have t7 : decide ((en : Int) < 5) = true := by simp; omega
      have t7n : decide (en < 5) = true := by simp; omega
      have hno : parseQ bs = .inl 9 := parse_no hbig (fun g _ _ => by have := (hd_parts bs g).2.2.2.2.2.2.2.2.2.2.2.1; rw [HQE.out.1] at this; omega)
      clear g4
      go_upto_region 18 with (fail)
      go_quiet (fail)
      have HNO := Lib.hid hno
      clear hno
      go_wp2_with (first | (refine wpList_load_row rfl _ _ rfl (w.heap.size + 1) rfl _ _ _ _ KK.out.2.1 Tryz.underlying30 rfl (by kernel_rfl) ?_) | (refine wpList_store_row rfl _ _ _ rfl w.heap.size imZero rfl rfl _ _ KK.out.1 (by kernel_rfl) rfl (by simp [imZero, Value.oneCell']) ?_))
      refine bodyPost_ret (results_ct Tryz.results20 _ (LV.agg (setRow_heap _ _ _ _ _ _ KK.out.1) Tryz.underlying30 rfl (by kernel_rfl))) rfl ?_
      exact dp_no HNO.out (by first | exact below_setRow KK.out.2.2 (Nat.le_refl _) _ | exact below_setRow (kp_drewN KK.out.2.2 _) (Nat.le_refl _) _)
    have t7 : decide ((en : Int) < 5) = false := by simp; omega
    have t7n : decide (en < 5) = false := by simp; omega
    by_cases g5 : ln = le
    rotate_left
    · have t8 : ((ln : Int) != (le : Int)) = true := by simp; omega
      have hno : parseQ bs = .inl 9 := parse_no hbig (fun g _ _ => by have := (hd_parts bs g).2.2.2.2.2.2.2.2.2.2.2.2.1; rw [HQ1.out.2.1, HLE.out] at this; exact g5 this)
      clear g4 g5
      go_upto_region 18 with (fail)
      go_quiet (fail)
      have HNO := Lib.hid hno
      clear hno
      go_wp2_with (first | (refine wpList_load_row rfl _ _ rfl (w.heap.size + 1) rfl _ _ _ _ KK.out.2.1 Tryz.underlying30 rfl (by kernel_rfl) ?_) | (refine wpList_store_row rfl _ _ _ rfl w.heap.size imZero rfl rfl _ _ KK.out.1 (by kernel_rfl) rfl (by simp [imZero, Value.oneCell']) ?_))
      refine bodyPost_ret (results_ct Tryz.results20 _ (LV.agg (setRow_heap _ _ _ _ _ _ KK.out.1) Tryz.underlying30 rfl (by kernel_rfl))) rfl ?_
      exact dp_no HNO.out (by first | exact below_setRow KK.out.2.2 (Nat.le_refl _) _ | exact below_setRow (kp_drewN KK.out.2.2 _) (Nat.le_refl _) _)
    have t8 : ((ln : Int) != (le : Int)) = false := by rw [g5]; simp
    by_cases g6 : n < hd
    · have t9 : decide ((n : Int) < (hd : Int)) = true := by simp; omega
      have t9n : decide (n < hd) = true := by simp; omega
      have hno : parseQ bs = .inl 9 := parse_no hbig (fun g _ _ => by have := (hd_parts bs g).2.2.2.2.2.2.2.2.2.2.2.2.2.2.2; rw [HQ1.out.2.2.2.1] at this; omega)
      clear g4 g5 g6
      go_upto_region 18 with (fail)
      go_quiet (fail)
      have HNO := Lib.hid hno
      clear hno
      go_wp2_with (first | (refine wpList_load_row rfl _ _ rfl (w.heap.size + 1) rfl _ _ _ _ KK.out.2.1 Tryz.underlying30 rfl (by kernel_rfl) ?_) | (refine wpList_store_row rfl _ _ _ rfl w.heap.size imZero rfl rfl _ _ KK.out.1 (by kernel_rfl) rfl (by simp [imZero, Value.oneCell']) ?_))
      refine bodyPost_ret (results_ct Tryz.results20 _ (LV.agg (setRow_heap _ _ _ _ _ _ KK.out.1) Tryz.underlying30 rfl (by kernel_rfl))) rfl ?_
      exact dp_no HNO.out (by first | exact below_setRow KK.out.2.2 (Nat.le_refl _) _ | exact below_setRow (kp_drewN KK.out.2.2 _) (Nat.le_refl _) _)
    have t9 : decide ((n : Int) < (hd : Int)) = false := by simp; omega
    have t9n : decide (n < hd) = false := by simp; omega
    by_cases g7 : hd < te
    · have t10 : decide ((hd : Int) < (te : Int)) = true := by simp; omega
      have t10n : decide (hd < te) = true := by simp; omega
      have hno : parseQ bs = .inl 9 := parse_no hbig (fun g _ _ => by have := (hd_parts bs g).2.2.2.2.2.2.2.2.2.2.2.2.2.2.1; rw [HQ1.out.2.2.2.1, HTE.out] at this; omega)
      clear g4 g5 g6 g7
      go_upto_region 18 with (fail)
      go_quiet (fail)
      have HNO := Lib.hid hno
      clear hno
      go_wp2_with (first | (refine wpList_load_row rfl _ _ rfl (w.heap.size + 1) rfl _ _ _ _ KK.out.2.1 Tryz.underlying30 rfl (by kernel_rfl) ?_) | (refine wpList_store_row rfl _ _ _ rfl w.heap.size imZero rfl rfl _ _ KK.out.1 (by kernel_rfl) rfl (by simp [imZero, Value.oneCell']) ?_))
      refine bodyPost_ret (results_ct Tryz.results20 _ (LV.agg (setRow_heap _ _ _ _ _ _ KK.out.1) Tryz.underlying30 rfl (by kernel_rfl))) rfl ?_
      exact dp_no HNO.out (by first | exact below_setRow KK.out.2.2 (Nat.le_refl _) _ | exact below_setRow (kp_drewN KK.out.2.2 _) (Nat.le_refl _) _)
    have t10 : decide ((hd : Int) < (te : Int)) = false := by simp; omega
    have t10n : decide (hd < te) = false := by simp; omega
    have HGOOD : Hid (hdB bs = true) := Lib.hid (hd_make bs HQ0.out.2.1 HQ0.out.1 (by rw [HQ0.out.2.2.2.1]; omega) HQ0.out.2.2.1 HQ1.out.2.2.2.2.1 (by rw [HQ1.out.1]; omega) (by rw [HQ1.out.1]; omega) HQ1.out.2.2.2.2.2.1 HQ1.out.2.2.2.2.2.2.1 HDQ.out.2.1 HQE.out.2.2.2.2 (by rw [HQE.out.1]; omega) (by rw [HQ1.out.2.1, HLE.out]; exact g5) HQ1.out.2.2.2.2.2.2.2 (by rw [HTE.out, HQ1.out.2.2.2.1]; omega) (by rw [HQ1.out.2.2.2.1]; omega))
    have hdpos : 0 < hd := by omega
    clear g4 g5 g6 g7
    go_upto_region 18 with (fail)
    go_quiet (fail)
    go_upto_region 20 with (fail)
    refine wp_nm fun W9 hW9 => ?_
    have hb9 : Below W8.heap.size W8 W9 := by rw [← hW9]; exact kp_drewN (Below.refl _ _) _
    have q0 := kp_cell hb9 HK8.out.2.1
    have q3 := kp_cell hb9 HK8.out.2.2.2
    have k9 := has_below HK8.out.1 hb9
    have K9 := Lib.hid (K8.out.below hb9)
    have HY9 := Lib.hid (HOY.out.below hb9 (Nat.le_refl _))
    have hw59 : W5.heap.size < W9.heap.size := by have := hb9.size; omega
    have HK9 := Lib.hid k9
    have CS := Lib.hid (fun W (hb : Below W9.heap.size W9 W) => dsections_any A n c bs tb ct hd W (HR.out.below (kp_call K9.out.b hb)) hnc hcc hn htbb (by omega) (by omega))
    have KEEP : Hid (∀ W, Below W9.heap.size W9 W → (W.cell? ⟨gx, 0, none⟩ = some (.int .i64 (ct : Nat)) ∧ W.cell? ⟨gx, 3, none⟩ = some (.int .i64 (hd : Nat))) ∧ Below W9.heap.size W9 W) := Lib.hid (fun W h => ⟨⟨kp_cell h q0, kp_cell h q3⟩, h⟩)
    clear hW9 hb9 q0 q3 k9 y0' y1 y2 n0 n1 n3 K8 HK8 HOY KK
    go_region_held3 (fun W => (W.cell? ⟨gx, 0, none⟩ = some (.int .i64 (ct : Nat)) ∧ W.cell? ⟨gx, 3, none⟩ = some (.int .i64 (hd : Nat))) ∧ Below W9.heap.size W9 W)
      ((apply KEEP.out; repeat (with_reducible (first | assumption | exact Below.refl _ _ | refine kp_drew ?_ | refine kp_alloc ?_ _ | refine kp_call ?_ (by assumption)))))
      (first
        | (go_at_call 45; (with_reducible refine (CS.out _ (by (go_split_ands; assumption))).mono ?_); (rintro e W10 ⟨V, m, cV, ed, okb, rfl, hb10, hok, hyes⟩; have hb910 : Below W9.heap.size W9 W10 := (by first | exact hb10 | exact (kp_drew (Below.refl _ _)).trans hb10); have HS10 : Hid (okb = true → m = (secN bs tb ct).length ∧ OwnR W10 W9.heap.size 60 2 V m cV ((secN bs tb ct).flatMap secCells) ∧ ed = (chainS (riseL (secN bs tb ct)) hd).2) := hyes; have HOKB := Lib.hid hok; clear CS hok hyes hb10)))
    have HB10 := Lib.hid hb910
    have K10 := Lib.hid (K9.out.below hb910)
    have HK10 := Lib.hid (has_below HK9.out hb910)
    have HY10 := Lib.hid (HY9.out.below hb910 (Nat.le_refl _))
    have SECB : secB bs = okb := by
      rw [HOKB.out]
      unfold secB endQ secsQ
      rw [HTB.out, HQ1.out.1, HQ1.out.2.2.2.1, hbl]
    have KK := Lib.hid K10.out.out
    clear hb910 KEEP K9 HK9 HY9
    cases okb with
    | false =>
      have hno : parseQ bs = .inl 9 := parse_no hbig (fun _ g _ => by rw [SECB] at g; cases g)
      clear SECB HOKB HS10
      go_upto_region 21 with (fail)
      have HNO := Lib.hid hno
      clear hno
      go_wp2_with (first | (refine wpList_load_row rfl _ _ rfl (w.heap.size + 1) rfl _ _ _ _ KK.out.2.1 Tryz.underlying30 rfl (by kernel_rfl) ?_) | (refine wpList_store_row rfl _ _ _ rfl w.heap.size imZero rfl rfl _ _ KK.out.1 (by kernel_rfl) rfl (by simp [imZero, Value.oneCell']) ?_))
      refine bodyPost_ret (results_ct Tryz.results20 _ (LV.agg (setRow_heap _ _ _ _ _ _ KK.out.1) Tryz.underlying30 rfl (by kernel_rfl))) rfl ?_
      exact dp_no HNO.out (by first | exact below_setRow KK.out.2.2 (Nat.le_refl _) _ | exact below_setRow (kp_drewN KK.out.2.2 _) (Nat.le_refl _) _)
    | true =>
    obtain ⟨hm, ho, hed⟩ := HS10.out rfl
    have QEND : endQ bs = ed := by
      unfold endQ secsQ
      rw [HTB.out, HQ1.out.1, HQ1.out.2.2.2.1, hed]
    have hedb : ed ≤ 8589934592 := by
      rw [hed]
      exact chainS_le _ _ (by omega) (fun x hx => by
        have := secN_lt bs tb ct x ((riseL_perm _).mem_iff.1 hx)
        exact ⟨this.1, this.2.1⟩)
    have hde : hd ≤ ed := by
      have h1 := secs_parts bs SECB
      have h2 := h1.2.2.1
      rw [QEND, HQ1.out.2.2.2.1] at h2
      omega
    have hneV : blk V = none ∨ blk V ≠ some W5.heap.size := by
      cases hv : blk V with
      | none => exact .inl rfl
      | some g => exact .inr (fun e => by have h1 := (ho.blk_lt hv).1; have h2 : g = W5.heap.size := Option.some.inj e; omega)
    have HV10 := Lib.hid (And.intro ho hneV)
    have HSEC := Lib.hid (And.intro hm (And.intro SECB QEND))
    clear hm ho hed QEND SECB hneV HS10 HOKB KK
    obtain ⟨z0, z1, z2, z3, z4, z5, z6, z7⟩ := cells_8 HK10.out
    have f4 := Lib.frozen_of_heap HK10.out 4
    go_upto_region 24 with (fail)
    refine wp_nm fun W11 hW11 => ?_
    have k11 : W11.heap[W5.heap.size]? = some (.cells #[.bool false, .int .i64 (ck : Nat), .int .i64 (dr : Nat), .int .u32 (hd : Nat), .slice V m cV, .int .u32 0, .int .u32 0, .slice none 0 0] 30) := by
      rw [← hW11]
      have h9 := heap_set_at _ W5.heap.size 4 _ _ _ (.slice V m cV) HK10.out
      simp only [List.setIfInBounds_toArray, List.set_cons_zero, List.set_cons_succ] at h9
      exact h9
    have hg11 : W10.grownBy W11 (some W5.heap.size) := by rw [← hW11]; exact grown_one _ W5.heap.size 4 _
    have HV11 := Lib.hid (HV10.out.1.kept hg11 HV10.out.2)
    have HY11 := Lib.hid (HY10.out.kept hg11 (.inr (fun e => by have h2 : gy = W5.heap.size := Option.some.inj e; omega)))
    have hw25 : w.heap.size + 1 < W5.heap.size := block_lt K5.out.y
    have K11 : Hid (DP w W11) := Lib.hid ⟨(hg11.block _ (block_lt K10.out.z) (fun e => by have h2 : w.heap.size = W5.heap.size := Option.some.inj e; omega)).trans K10.out.z, (hg11.block _ (block_lt K10.out.y) (fun e => by have h2 : w.heap.size + 1 = W5.heap.size := Option.some.inj e; omega)).trans K10.out.y, K10.out.b.grown hg11 K10.out.b.size (fun q hq => by have h2 : W5.heap.size = q := Option.some.inj hq; omega)⟩
    have HK11 := Lib.hid k11
    have KK := Lib.hid K11.out.out
    have hs1011 : W10.heap.size ≤ W11.heap.size := hg11.size
    have y1 := ownR_at HY11.out (j := 1) rfl
    have y2 := ownR_at HY11.out (j := 2) rfl
    clear hW11 hg11 k11 z0 z1 z2 z3 z4 z5 z6 z7 f4 K10 HK10 HV10 HY10
    have HGQ : Hid (∀ (t l : Nat) (sg : List (List UInt8)), imOf bs t l sg = ⟨false, ck, dr, hd, secN bs tb ct, t, l, sg⟩) := Lib.hid (fun t l sg => by
      unfold imOf secsQ
      rw [HTB.out, HQ1.out.1, HQ1.out.2.2.2.1, HDQ.out.2.2.1, HQ0.out.2.2.2.2.1, HQD.out.2.1, HDQ.out.2.2.2.1])
    have PARSE : parseQ bs = if cv = 0 ∧ lv = 0 then .inr (imOf bs 0 0 []) else if sgB n cv lv ed = false then .inl 9 else match rowsQ bs cv with
        | none => .inl 9
        | some l => if 8 < l.length then .inl 10 else .inr (imOf bs cv lv l) := by
      unfold parseQ
      rw [if_neg (by omega), HGOOD.out, HSEC.out.2.1, HQE.out.2.2.2.1, HQE.out.2.1, HQE.out.2.2.1, HSEC.out.2.2, hbl]
      rfl
    have HPAR := Lib.hid PARSE
    clear PARSE
    by_cases hz0 : cv = 0 ∧ lv = 0
    · have s1 : ((cv : Int) == 0) = true := by rw [hz0.1]; rfl
      have s2 : ((lv : Int) == 0) = true := by rw [hz0.2]; rfl
      have hp := HPAR.out
      rw [if_pos hz0, HGQ.out] at hp
      have HPP := Lib.hid hp
      clear hz0 hp
      go_wp2_with (first | (refine wpList_load_row rfl _ _ rfl W5.heap.size rfl _ _ _ _ HK11.out Tryz.underlying30 rfl (by kernel_rfl) ?_) | (refine wpList_store_row rfl _ _ _ rfl w.heap.size #[.bool false, .int .i64 (ck : Nat), .int .i64 (dr : Nat), .int .u32 (hd : Nat), .slice V m cV, .int .u32 0, .int .u32 0, .slice none 0 0] rfl rfl _ _ KK.out.1 (by kernel_rfl) rfl (by simp [Value.oneCell']) ?_))
      refine bodyPost_ret (results_ct Tryz.results20 _ (LV.agg (setRow_heap _ _ _ _ _ _ KK.out.1) Tryz.underlying30 rfl (by kernel_rfl))) rfl ?_
      have hneW : blk V = none ∨ blk V ≠ some w.heap.size := by
        cases hv : blk V with
        | none => exact .inl rfl
        | some g => exact .inr (fun e => by have h1 := (HV11.out.blk_lt hv).1; have h2 : g = w.heap.size := Option.some.inj e; omega)
      exact dp_yes _ HPP.out V m cV none 0 0 [] _ rfl ⟨HSEC.out.1, (HV11.out.kept (gr_setRow _ _ _) hneW).lower (by omega), rfl, rfl, OwnR.nil _ _ _ _, fun x hx => by cases hx⟩ (below_setRow KK.out.2.2 (Nat.le_refl _) _)
    by_cases g4 : lv = 0
    · have s0 : ¬ cv = 0 := fun h => hz0 ⟨h, g4⟩
      have s1 : ((cv : Int) == 0) = false := by simp; omega
      have s2 : ((lv : Int) == 0) = true := by rw [g4]; rfl
      have hno : parseQ bs = .inl 9 := by rw [HPAR.out, if_neg hz0, if_pos]; unfold sgB; rw [g4]; simp
      clear hz0 g4 s0
      go_upto_region 26 with (fail)
      go_quiet (fail)
      have HNO := Lib.hid hno
      clear hno
      go_wp2_with (first | (refine wpList_load_row rfl _ _ rfl (w.heap.size + 1) rfl _ _ _ _ KK.out.2.1 Tryz.underlying30 rfl (by kernel_rfl) ?_) | (refine wpList_store_row rfl _ _ _ rfl w.heap.size imZero rfl rfl _ _ KK.out.1 (by kernel_rfl) rfl (by simp [imZero, Value.oneCell']) ?_))
      refine bodyPost_ret (results_ct Tryz.results20 _ (LV.agg (setRow_heap _ _ _ _ _ _ KK.out.1) Tryz.underlying30 rfl (by kernel_rfl))) rfl ?_
      exact dp_no HNO.out (by first | exact below_setRow KK.out.2.2 (Nat.le_refl _) _ | exact below_setRow (kp_drewN KK.out.2.2 _) (Nat.le_refl _) _)
    have s2 : ((lv : Int) == 0) = false := by simp; omega
    by_cases g5 : cv = 0
    · have s1 : ((cv : Int) == 0) = true := by rw [g5]; rfl
      have s3 : ((0 : Int) != 0) = false := rfl
      have s4 : decide ((cv : Int) < (ed : Int)) = true := by simp; omega
      have s4n : decide (cv < ed) = true := by simp; omega
      have s5 : (cv : Int).tmod 8 = 0 := by rw [g5]; rfl
      have hno : parseQ bs = .inl 9 := by
        rw [HPAR.out, if_neg hz0, if_pos]
        unfold sgB
        rw [decide_eq_false (by omega : ¬ ed ≤ cv)]
        simp
      clear hz0 g4 g5
      go_upto_region 26 with (fail)
      go_quiet (fail)
      have HNO := Lib.hid hno
      clear hno
      go_wp2_with (first | (refine wpList_load_row rfl _ _ rfl (w.heap.size + 1) rfl _ _ _ _ KK.out.2.1 Tryz.underlying30 rfl (by kernel_rfl) ?_) | (refine wpList_store_row rfl _ _ _ rfl w.heap.size imZero rfl rfl _ _ KK.out.1 (by kernel_rfl) rfl (by simp [imZero, Value.oneCell']) ?_))
      refine bodyPost_ret (results_ct Tryz.results20 _ (LV.agg (setRow_heap _ _ _ _ _ _ KK.out.1) Tryz.underlying30 rfl (by kernel_rfl))) rfl ?_
      exact dp_no HNO.out (by first | exact below_setRow KK.out.2.2 (Nat.le_refl _) _ | exact below_setRow (kp_drewN KK.out.2.2 _) (Nat.le_refl _) _)
    have s1 : ((cv : Int) == 0) = false := by simp; omega
    obtain ⟨c8, hc8⟩ : ∃ c8, cv % 8 = c8 := ⟨_, rfl⟩
    have s5 : (cv : Int).tmod 8 = (c8 : Int) := by rw [Int.tmod_eq_emod_of_nonneg (by omega)]; omega
    have s5w : IntKind.i64.wrap (c8 : Int) = (c8 : Int) := IntWalk.i64_in _ (by omega)
    by_cases g6 : c8 = 0
    rotate_left
    · have s6 : ((c8 : Int) != 0) = true := by simp; omega
      have hno : parseQ bs = .inl 9 := by
        rw [HPAR.out, if_neg hz0, if_pos]
        unfold sgB
        rw [decide_eq_false (by omega : ¬ cv % 8 = 0)]
        simp
      clear hz0 g4 g5 g6 hc8
      go_upto_region 26 with (fail)
      go_quiet (fail)
      have HNO := Lib.hid hno
      clear hno
      go_wp2_with (first | (refine wpList_load_row rfl _ _ rfl (w.heap.size + 1) rfl _ _ _ _ KK.out.2.1 Tryz.underlying30 rfl (by kernel_rfl) ?_) | (refine wpList_store_row rfl _ _ _ rfl w.heap.size imZero rfl rfl _ _ KK.out.1 (by kernel_rfl) rfl (by simp [imZero, Value.oneCell']) ?_))
      refine bodyPost_ret (results_ct Tryz.results20 _ (LV.agg (setRow_heap _ _ _ _ _ _ KK.out.1) Tryz.underlying30 rfl (by kernel_rfl))) rfl ?_
      exact dp_no HNO.out (by first | exact below_setRow KK.out.2.2 (Nat.le_refl _) _ | exact below_setRow (kp_drewN KK.out.2.2 _) (Nat.le_refl _) _)
    have s6 : ((c8 : Int) != 0) = false := by rw [g6]; rfl
    by_cases g7 : cv < ed
    · have s4 : decide ((cv : Int) < (ed : Int)) = true := by simp; omega
      have s4n : decide (cv < ed) = true := by simp; omega
      have hno : parseQ bs = .inl 9 := by
        rw [HPAR.out, if_neg hz0, if_pos]
        unfold sgB
        rw [decide_eq_false (by omega : ¬ ed ≤ cv)]
        simp
      clear hz0 g4 g5 g6 g7 hc8
      go_upto_region 26 with (fail)
      go_quiet (fail)
      have HNO := Lib.hid hno
      clear hno
      go_wp2_with (first | (refine wpList_load_row rfl _ _ rfl (w.heap.size + 1) rfl _ _ _ _ KK.out.2.1 Tryz.underlying30 rfl (by kernel_rfl) ?_) | (refine wpList_store_row rfl _ _ _ rfl w.heap.size imZero rfl rfl _ _ KK.out.1 (by kernel_rfl) rfl (by simp [imZero, Value.oneCell']) ?_))
      refine bodyPost_ret (results_ct Tryz.results20 _ (LV.agg (setRow_heap _ _ _ _ _ _ KK.out.1) Tryz.underlying30 rfl (by kernel_rfl))) rfl ?_
      exact dp_no HNO.out (by first | exact below_setRow KK.out.2.2 (Nat.le_refl _) _ | exact below_setRow (kp_drewN KK.out.2.2 _) (Nat.le_refl _) _)
    have s4 : decide ((cv : Int) < (ed : Int)) = false := by simp; omega
    have s4n : decide (cv < ed) = false := by simp; omega
    obtain ⟨cl, hcl⟩ : ∃ x, cv + lv = x := ⟨_, rfl⟩
    have e18 : IntKind.i64.wrap ((cv : Int) + (lv : Int)) = (cl : Int) := by rw [IntWalk.i64_in _ (by omega)]; omega
    by_cases g8 : cl = n
    rotate_left
    · have s7 : ((cl : Int) != (n : Int)) = true := by simp; omega
      have hno : parseQ bs = .inl 9 := by
        rw [HPAR.out, if_neg hz0, if_pos]
        unfold sgB
        rw [decide_eq_false (by omega : ¬ cv + lv = n)]
        simp
      clear hz0 g4 g5 g6 g7 g8 hc8 hcl
      go_upto_region 26 with (fail)
      go_quiet (fail)
      have HNO := Lib.hid hno
      clear hno
      go_wp2_with (first | (refine wpList_load_row rfl _ _ rfl (w.heap.size + 1) rfl _ _ _ _ KK.out.2.1 Tryz.underlying30 rfl (by kernel_rfl) ?_) | (refine wpList_store_row rfl _ _ _ rfl w.heap.size imZero rfl rfl _ _ KK.out.1 (by kernel_rfl) rfl (by simp [imZero, Value.oneCell']) ?_))
      refine bodyPost_ret (results_ct Tryz.results20 _ (LV.agg (setRow_heap _ _ _ _ _ _ KK.out.1) Tryz.underlying30 rfl (by kernel_rfl))) rfl ?_
      exact dp_no HNO.out (by first | exact below_setRow KK.out.2.2 (Nat.le_refl _) _ | exact below_setRow (kp_drewN KK.out.2.2 _) (Nat.le_refl _) _)
    have s7 : ((cl : Int) != (n : Int)) = false := by rw [g8]; simp
    have hsg : sgB n cv lv ed = true := by unfold sgB; simp; omega
    have hpq := HPAR.out
    rw [if_neg hz0, if_neg (by rw [hsg]; simp)] at hpq
    have HPQ := Lib.hid hpq
    have hcvn : cv ≤ 16777216 := by omega
    have e19 : IntKind.u32.wrap (cv : Int) = (cv : Int) := IntWalk.u32_in _ (by omega)
    have e20 : IntKind.u32.wrap (lv : Int) = (lv : Int) := IntWalk.u32_in _ (by omega)
    clear hz0 g4 g5 g6 g7 g8 hc8 hcl hsg hpq
    go_upto_region 26 with (fail)
    go_quiet (fail)
    go_upto_region 28 with (fail)
    refine wp_nm fun W12 hW12 => ?_
    have hb12 : Below W11.heap.size W11 W12 := by rw [← hW12]; exact kp_drewN (Below.refl _ _) _
    have hs12 : W11.heap.size ≤ W12.heap.size := hb12.size
    have K12 := Lib.hid (K11.out.below hb12)
    have HK12 := Lib.hid (has_below HK11.out hb12)
    have HV12 := Lib.hid (HV11.out.below hb12 (Nat.le_refl _))
    have HY12 := Lib.hid (HY11.out.below hb12 (Nat.le_refl _))
    have CR := Lib.hid (drows_any A n c bs cv W12 (HR.out.below K12.out.b) hnc hcc hn hcvn)
    have y1 := ownR_at HY12.out (j := 1) rfl
    have y2 := ownR_at HY12.out (j := 2) rfl
    clear hW12 hb12 K11 HK11 HV11 HY11 KK
    obtain ⟨YB, HYB⟩ : ∃ YB, Hid (OwnR W12 YB 3 1 (some ⟨gy, 0, none⟩) 3 cy [.int .i64 (en : Nat), .int .i64 (cv : Nat), .int .i64 (lv : Nat)]) := ⟨_, HY12⟩
    go_wp2_with (fail)
    (with_reducible refine CR.out.mono ?_)
    rintro e W13 ⟨hb13, hpost⟩
    clear CR y1 y2 HY12
    have KK := Lib.hid (K12.out.below hb13).out
    cases hr : rowsQ bs cv with
    | none =>
      rw [hr] at hpost
      dsimp only at hpost
      subst hpost
      have hno : parseQ bs = .inl 9 := by rw [HPQ.out, hr]
      clear hr HPQ hb13
      have HNO := Lib.hid hno
      clear hno
      go_wp2_with (first | (refine wpList_load_row rfl _ _ rfl (w.heap.size + 1) rfl _ _ _ _ KK.out.2.1 Tryz.underlying30 rfl (by kernel_rfl) ?_) | (refine wpList_store_row rfl _ _ _ rfl w.heap.size imZero rfl rfl _ _ KK.out.1 (by kernel_rfl) rfl (by simp [imZero, Value.oneCell']) ?_))
      refine bodyPost_ret (results_ct Tryz.results20 _ (LV.agg (setRow_heap _ _ _ _ _ _ KK.out.1) Tryz.underlying30 rfl (by kernel_rfl))) rfl ?_
      exact dp_err (er := 9) HNO.out (below_setRow KK.out.2.2 (Nat.le_refl _) _)
    | some l =>
      rw [hr] at hpost
      dsimp only at hpost
      by_cases h8 : 8 < l.length
      · rw [if_pos h8] at hpost
        subst hpost
        have hno : parseQ bs = .inl 10 := by rw [HPQ.out, hr]; dsimp only; rw [if_pos h8]
        clear hr h8 HPQ hb13
        have HNO := Lib.hid hno
        clear hno
        go_wp2_with (first | (refine wpList_load_row rfl _ _ rfl (w.heap.size + 1) rfl _ _ _ _ KK.out.2.1 Tryz.underlying30 rfl (by kernel_rfl) ?_) | (refine wpList_store_row rfl _ _ _ rfl w.heap.size imZero rfl rfl _ _ KK.out.1 (by kernel_rfl) rfl (by simp [imZero, Value.oneCell']) ?_))
        refine bodyPost_ret (results_ct Tryz.results20 _ (LV.agg (setRow_heap _ _ _ _ _ _ KK.out.1) Tryz.underlying30 rfl (by kernel_rfl))) rfl ?_
        exact dp_err (er := 10) HNO.out (below_setRow KK.out.2.2 (Nat.le_refl _) _)
      · rw [if_neg h8] at hpost
        obtain ⟨U, k, cU, xs, rfl, hk, hbytes, hou, hox⟩ := hpost
        have hpq : parseQ bs = .inr ⟨false, ck, dr, hd, secN bs tb ct, cv, lv, l⟩ := by rw [HPQ.out, hr]; dsimp only; rw [if_neg h8, HGQ.out]
        have HPP := Lib.hid (And.intro hpq (And.intro hk hbytes))
        have E13 : Hid (EF w W5.heap.size W9.heap.size W12.heap.size V m cV (secN bs tb ct) gy cy YB [.int .i64 (en : Nat), .int .i64 (cv : Nat), .int .i64 (lv : Nat)] U k cU xs #[.bool false, .int .i64 (ck : Nat), .int .i64 (dr : Nat), .int .u32 (hd : Nat), .slice V m cV, .int .u32 0, .int .u32 0, .slice none 0 0] W13) := Lib.hid ⟨has_below HK12.out hb13, (K12.out.below hb13).z, kp_call K12.out.b hb13, HV12.out.below hb13 (Nat.le_refl _), HYB.out.below hb13 (Nat.le_refl _), hou, hox⟩
        have hw512 : W5.heap.size < W12.heap.size := by have := HB10.out.size; omega
        clear hpq hk hbytes hou hox hr h8 HPQ hb13 K12 HK12 HV12 HYB
        obtain ⟨z0, z1, z2, z3, z4, z5, z6, z7⟩ := cells_8 E13.out.i
        have ff := Lib.frozen_of_heap E13.out.i 5
        have y1 := ownR_at E13.out.y (j := 1) rfl
        have y2 := ownR_at E13.out.y (j := 2) rfl
        go_upto_region 32 with (fail)
        refine wp_nm fun W14 hWn => ?_
        have E14 : Hid (EF w W5.heap.size W9.heap.size W12.heap.size V m cV (secN bs tb ct) gy cy YB [.int .i64 (en : Nat), .int .i64 (cv : Nat), .int .i64 (lv : Nat)] U k cU xs #[.bool false, .int .i64 (ck : Nat), .int .i64 (dr : Nat), .int .u32 (hd : Nat), .slice V m cV, .int .u32 (cv : Nat), .int .u32 0, .slice none 0 0] W14) := by
          have h9 := E13.out.set (by omega) (by omega) hgyw (by omega) 5 (.int .u32 (cv : Nat))
          simp only [List.setIfInBounds_toArray, List.set_cons_zero, List.set_cons_succ] at h9
          rw [← hWn]
          exact Lib.hid h9
        clear hWn z0 z1 z2 z3 z4 z5 z6 z7 ff y1 y2 E13
        obtain ⟨z0, z1, z2, z3, z4, z5, z6, z7⟩ := cells_8 E14.out.i
        have ff := Lib.frozen_of_heap E14.out.i 6
        have y1 := ownR_at E14.out.y (j := 1) rfl
        have y2 := ownR_at E14.out.y (j := 2) rfl
        go_upto_region 33 with (fail)
        refine wp_nm fun W15 hWn => ?_
        have E15 : Hid (EF w W5.heap.size W9.heap.size W12.heap.size V m cV (secN bs tb ct) gy cy YB [.int .i64 (en : Nat), .int .i64 (cv : Nat), .int .i64 (lv : Nat)] U k cU xs #[.bool false, .int .i64 (ck : Nat), .int .i64 (dr : Nat), .int .u32 (hd : Nat), .slice V m cV, .int .u32 (cv : Nat), .int .u32 (lv : Nat), .slice none 0 0] W15) := by
          have h9 := E14.out.set (by omega) (by omega) hgyw (by omega) 6 (.int .u32 (lv : Nat))
          simp only [List.setIfInBounds_toArray, List.set_cons_zero, List.set_cons_succ] at h9
          rw [← hWn]
          exact Lib.hid h9
        clear hWn z0 z1 z2 z3 z4 z5 z6 z7 ff y1 y2 E14
        obtain ⟨z0, z1, z2, z3, z4, z5, z6, z7⟩ := cells_8 E15.out.i
        have ff := Lib.frozen_of_heap E15.out.i 7
        have y1 := ownR_at E15.out.y (j := 1) rfl
        have y2 := ownR_at E15.out.y (j := 2) rfl
        go_upto_region 34 with (fail)
        refine wp_nm fun W16 hWn => ?_
        have E16 : Hid (EF w W5.heap.size W9.heap.size W12.heap.size V m cV (secN bs tb ct) gy cy YB [.int .i64 (en : Nat), .int .i64 (cv : Nat), .int .i64 (lv : Nat)] U k cU xs #[.bool false, .int .i64 (ck : Nat), .int .i64 (dr : Nat), .int .u32 (hd : Nat), .slice V m cV, .int .u32 (cv : Nat), .int .u32 (lv : Nat), .slice U k cU] W16) := by
          have h9 := E15.out.set (by omega) (by omega) hgyw (by omega) 7 (.slice U k cU)
          simp only [List.setIfInBounds_toArray, List.set_cons_zero, List.set_cons_succ] at h9
          rw [← hWn]
          exact Lib.hid h9
        clear hWn z0 z1 z2 z3 z4 z5 z6 z7 ff y1 y2 E15
        go_wp2_with (first | (refine wpList_load_row rfl _ _ rfl W5.heap.size rfl _ _ _ _ E16.out.i Tryz.underlying30 rfl (by kernel_rfl) ?_) | (refine wpList_store_row rfl _ _ _ rfl w.heap.size #[.bool false, .int .i64 (ck : Nat), .int .i64 (dr : Nat), .int .u32 (hd : Nat), .slice V m cV, .int .u32 (cv : Nat), .int .u32 (lv : Nat), .slice U k cU] rfl rfl _ _ E16.out.z (by kernel_rfl) rfl (by simp [Value.oneCell']) ?_))
        refine bodyPost_ret (results_ct Tryz.results20 _ (LV.agg (setRow_heap _ _ _ _ _ _ E16.out.z) Tryz.underlying30 rfl (by kernel_rfl))) rfl ?_
        have hne : ∀ {A : Option Addr} {B : Nat}, w.heap.size < B → (∀ g, blk A = some g → B ≤ g) → (blk A = none ∨ blk A ≠ some w.heap.size) := by
          intro A B hB hA
          cases hk : blk A with
          | none => exact .inl rfl
          | some g => exact .inr (fun e => by have h7 := hA g hk; have h8 : g = w.heap.size := Option.some.inj e; omega)
        exact dp_yes _ HPP.out.1 V m cV U k cU xs _ rfl ⟨HSEC.out.1, (E16.out.v.kept (gr_setRow _ _ _) (hne (by omega) (fun g hk => (E16.out.v.blk_lt hk).1))).lower (by omega), HPP.out.2.1, HPP.out.2.2, (E16.out.u.kept (gr_setRow _ _ _) (hne (by omega) (fun g hk => (E16.out.u.blk_lt hk).1))).lower (by omega), fun x hx => ((E16.out.x x hx).kept (gr_setRow _ _ _) (hne (by omega) (fun g hk => ((E16.out.x x hx).blk_lt hk).1))).lower (by omega)⟩ (below_setRow E16.out.b (Nat.le_refl _) _)
  · have hdq : dirsQ bs = op + 112 := by
      unfold dirsQ dirsOf
      rw [HQ0.out.2.2.2.2.1, HQ1.out.2.2.1, g3']
      simp
    have t4 : ((mg : Int) != 267) = true := by rw [g3']; rfl
    have t5 : ((mg : Int) != 523) = false := by rw [g3']; rfl
    have t6 : ((mg : Int) == 523) = true := by rw [g3']; rfl
    have hmgq : magQ bs = 267 ∨ magQ bs = 523 := by rw [HQ1.out.2.2.1, g3']; simp
    have hplq : decide (magQ bs = 523) = true := by rw [HQ1.out.2.2.1, g3']; rfl
    obtain ⟨ck, hck⟩ : ∃ ck, op + 64 = ck := ⟨_, rfl⟩
    have e5 : IntKind.i64.wrap ((op : Int) + 64) = (ck : Int) := by rw [IntWalk.i64_in _ (by omega)]; omega
    have e6 : IntKind.u32.wrap (hd : Int) = (hd : Int) := IntWalk.u32_in _ (by omega)
    obtain ⟨d96, hd96⟩ : ∃ d, op + 96 = d := ⟨_, rfl⟩
    have e7 : IntKind.i64.wrap ((op : Int) + 96) = (d96 : Int) := by rw [IntWalk.i64_in _ (by omega)]; omega
    clear hd96
    obtain ⟨ds, hds⟩ : ∃ d, op + 112 = d := ⟨_, rfl⟩
    have e8 : IntKind.i64.wrap ((op : Int) + 112) = (ds : Int) := by rw [IntWalk.i64_in _ (by omega)]; omega
    obtain ⟨dr, hdr⟩ : ∃ d, ds + 32 = d := ⟨_, rfl⟩
    have e9 : IntKind.i64.wrap ((ds : Int) + 32) = (dr : Int) := by rw [IntWalk.i64_in _ (by omega)]; omega
    obtain ⟨dm, hdm⟩ : ∃ d, ds - 4 = d := ⟨_, rfl⟩
    have e10 : IntKind.i64.wrap ((ds : Int) - 4) = (dm : Int) := by rw [IntWalk.i64_in _ (by omega)]; omega
    obtain ⟨dp4, hdp⟩ : ∃ d, dr + 4 = d := ⟨_, rfl⟩
    have e11 : IntKind.i64.wrap ((dr : Int) + 4) = (dp4 : Int) := by rw [IntWalk.i64_in _ (by omega)]; omega
    have hb9 : dm ≤ 1099511627776 ∧ dr ≤ 1099511627776 ∧ dp4 ≤ 1099511627776 := by omega
    have KEEP : Hid (∀ W, Below W5.heap.size W5 W → (W.cell? ⟨gx, 2, none⟩ = some (.int .i64 (mg : Nat)) ∧ W.cell? ⟨gx, 3, none⟩ = some (.int .i64 (hd : Nat))) ∧ Below W5.heap.size W5 W) := Lib.hid (fun W h => ⟨⟨kp_cell h k2, kp_cell h k3⟩, h⟩)
    have HDQ := Lib.hid (And.intro hdq (And.intro hmgq (And.intro hplq (And.intro hck (And.intro hds (And.intro hdr (And.intro hdm hdp)))))))
    have hct96 : 1 ≤ ct ∧ ct ≤ 96 ∧ 64 ≤ p := by omega
    clear hdq hmgq hplq hck hds hdr hdm hdp g1 g2 g3
    go_upto_region 11 with (fail)
    go_region_held3 (fun W => (W.cell? ⟨gx, 2, none⟩ = some (.int .i64 (mg : Nat)) ∧ W.cell? ⟨gx, 3, none⟩ = some (.int .i64 (hd : Nat))) ∧ Below W5.heap.size W5 W)
      ((apply KEEP.out; repeat (with_reducible (first | assumption | exact Below.refl _ _ | refine kp_drew ?_ | refine kp_alloc ?_ _ | refine kp_set ?_ (Nat.le_refl _)))))
      (fail)
    go_upto_region 12 with (fail)
    refine wp_nm fun W6 hW6 => ?_
    have k6 : W6.heap[W5.heap.size]? = some (.cells #[.bool true, .int .i64 (ck : Nat), .int .i64 0, .int .u32 (hd : Nat), .slice none 0 0, .int .u32 0, .int .u32 0, .slice none 0 0] 30) := by rw [← hW6]; exact has_new W5 _
    have hb6 : Below W5.heap.size W5 W6 := by rw [← hW6]; exact kp_drew (kp_alloc (Below.refl _ _) _)
    have K6 := Lib.hid (And.intro k6 hb6)
    obtain ⟨z0, z1, z2, z3, z4, z5, z6, z7⟩ := cells_8 k6
    have f2 := Lib.frozen_of_heap k6 2
    clear hW6 k6 hb6 KEEP
    go_upto_region 16 with (fail)
    refine wp_nm fun W7 hW7 => ?_
    have k7 : W7.heap[W5.heap.size]? = some (.cells #[.bool true, .int .i64 (ck : Nat), .int .i64 (dr : Nat), .int .u32 (hd : Nat), .slice none 0 0, .int .u32 0, .int .u32 0, .slice none 0 0] 30) := by
      rw [← hW7]
      have h9 := heap_set_at _ W5.heap.size 2 _ _ _ (.int .i64 (dr : Nat)) K6.out.1
      simp only [List.setIfInBounds_toArray, List.set_cons_zero, List.set_cons_succ] at h9
      exact h9
    have hb7 : Below W5.heap.size W5 W7 := by rw [← hW7]; exact kp_set K6.out.2 (Nat.le_refl _)
    have K7 := Lib.hid (And.intro k7 hb7)
    have m0 := kp_cell hb7 k0'
    have m1 := kp_cell hb7 k1
    have m3 := kp_cell hb7 k3
    have M7 := Lib.hid (And.intro m0 (And.intro m1 m3))
    have K7d := Lib.hid (K5.out.below hb7)
    have hw57 : W5.heap.size < W7.heap.size := block_lt k7
    obtain ⟨z0, z1, z2, z3, z4, z5, z6, z7⟩ := cells_8 k7
    have C := Lib.hid (fun W (hb : Below w.heap.size w W) (hr : ReadR W (some ⟨W7.heap.size, 0, none⟩) [.int .i64 (dm : Nat), .int .i64 4, .int .i64 (dr : Nat), .int .i64 4, .int .i64 (dp4 : Nat), .int .i64 4]) => dnums_any A n c bs (some ⟨W7.heap.size, 0, none⟩) 3 3 [(dm, 4), (dr, 4), (dp4, 4)] W (HR.out.below hb) hnc hcc hn hr rfl (by decide) (by intro x hx; simp at hx; rcases hx with rfl | rfl | rfl <;> exact ⟨by simp; omega, .inr rfl⟩))
    clear hW7 k7 hb7 K6 f2 m0 m1 m3 k0' k1 k2 k3 HX2
    go_upto_region 17 with (go_at_call 44; (with_reducible refine (C.out _ (kp_alloc K7d.out.b _) (readR_lit (has_new _ _))).mono ?_); rintro e W8 ⟨⟨Y, my, cy, rfl, hy⟩, hb8⟩; have HY := Lib.hid (And.intro hy (kp_call (kp_alloc (Below.refl W7.heap.size W7) _) hb8)); clear C hy hb8)
    have K8 := Lib.hid (K7d.out.below HY.out.2)
    have KK := Lib.hid K8.out.out
    have n0 := kp_cell HY.out.2 M7.out.1
    have n1 := kp_cell HY.out.2 M7.out.2.1
    have n3 := kp_cell HY.out.2 M7.out.2.2
    have k8 := has_below K7.out.1 HY.out.2
    have HK8 := Lib.hid (And.intro k8 (And.intro n0 (And.intro n1 n3)))
    have hw78 : W7.heap.size ≤ W8.heap.size := HY.out.2.size
    clear z0 z1 z2 z3 z4 z5 z6 z7 k8 K7 M7 K7d
    obtain ⟨tb, htb⟩ : ∃ tb, op + ln = tb := ⟨_, rfl⟩
    have e12 : IntKind.i64.wrap ((op : Int) + (ln : Int)) = (tb : Int) := by rw [IntWalk.i64_in _ (by omega)]; omega
    have hall : allIn bs [(dm, 4), (dr, 4), (dp4, 4)] = (inQ bs dm 4 && (inQ bs dr 4 && inQ bs dp4 4)) := by simp [allIn]
    obtain ⟨dq1, dq2, dq3, dq4, dq5, dq6, dq7, dq8⟩ := HDQ.out
    have QD : dirsQ bs - 4 = dm ∧ dirQ bs = dr ∧ dirQ bs + 4 = dp4 := by
      have h9 : dirQ bs = dirsQ bs + 32 := rfl
      omega
    have HQD := Lib.hid QD
    have HTB : Hid (tabQ bs = tb) := by unfold tabQ; rw [HQ0.out.2.2.2.2.1, HQ1.out.2.1]; exact Lib.hid htb
    clear dq1 dq2 dq3 dq4 dq5 dq6 dq7 dq8
    cases hq : allIn bs [(dm, 4), (dr, 4), (dp4, 4)] with
    | false =>
      rw [hq] at hall
      have hno : parseQ bs = .inl 9 := parse_no hbig (fun g _ g2 => by
        have q11 := (hd_parts bs g).2.2.2.2.2.2.2.2.2.2.1
        unfold dirB at g2
        rw [Bool.and_eq_true] at g2
        rw [HQD.out.1] at q11
        rw [HQD.out.2.1, show dr + 4 = dp4 from by have := HQD.out; omega] at g2
        rw [q11, g2.1, g2.2] at hall
        cases hall)
      clear hall hq HY
      go_upto_region 18 with (fail)
      go_quiet (fail)
      have HNO := Lib.hid hno
      clear hno
      go_wp2_with (first | (refine wpList_load_row rfl _ _ rfl (w.heap.size + 1) rfl _ _ _ _ KK.out.2.1 Tryz.underlying30 rfl (by kernel_rfl) ?_) | (refine wpList_store_row rfl _ _ _ rfl w.heap.size imZero rfl rfl _ _ KK.out.1 (by kernel_rfl) rfl (by simp [imZero, Value.oneCell']) ?_))
      refine bodyPost_ret (results_ct Tryz.results20 _ (LV.agg (setRow_heap _ _ _ _ _ _ KK.out.1) Tryz.underlying30 rfl (by kernel_rfl))) rfl ?_
      exact dp_no HNO.out (by first | exact below_setRow KK.out.2.2 (Nat.le_refl _) _ | exact below_setRow (kp_drewN KK.out.2.2 _) (Nat.le_refl _) _)
    | true =>
    rw [hq] at hall
    obtain ⟨hy, _⟩ := HY.out
    obtain ⟨hm3, hrd⟩ := hy hq
    have hmy : my = 3 := hm3
    subst hmy
    obtain ⟨gy, hgy, hgy2, _⟩ := hrd.shape (by have := hrd.cap.1; omega)
    subst hgy
    have y0 := ownR_at hrd (j := 0) rfl
    have y1 := ownR_at hrd (j := 1) rfl
    have y2 := ownR_at hrd (j := 2) rfl
    unfold numV at y0 y1 y2
    dsimp only at y0 y1 y2
    obtain ⟨h5, h8, h9⟩ : inQ bs dm 4 = true ∧ inQ bs dr 4 = true ∧ inQ bs dp4 4 = true := by
      have h9 := hall.symm
      simp only [Bool.and_eq_true] at h9
      exact h9
    obtain ⟨en, hen⟩ : ∃ x, numQ bs dm 4 = x := ⟨_, rfl⟩
    obtain ⟨cv, hcv⟩ : ∃ x, numQ bs dr 4 = x := ⟨_, rfl⟩
    obtain ⟨lv, hlv⟩ : ∃ x, numQ bs dp4 4 = x := ⟨_, rfl⟩
    rw [hen] at y0
    rw [hcv] at y1
    rw [hlv] at y2
    have ben : en < 4294967296 := by rw [← hen]; exact numQ_lt4 _ _
    have bcv : cv < 4294967296 := by rw [← hcv]; exact numQ_lt4 _ _
    have blv : lv < 4294967296 := by rw [← hlv]; exact numQ_lt4 _ _
    have hdp4 : dr + 4 = dp4 := by have := HQD.out; omega
    have QE : entQ bs = en ∧ ctQ bs = cv ∧ clQ bs = lv ∧ dirB bs = true ∧ inQ bs (dirsQ bs - 4) 4 = true := by
      unfold entQ ctQ clQ dirB
      rw [HQD.out.1, HQD.out.2.1, hdp4]
      exact ⟨hen, hcv, hlv, by rw [h8, h9]; rfl, h5⟩
    have HQE := Lib.hid QE
    have y0' : W8.cell? ⟨gy, 0, none⟩ = some (.int .i64 (en : Nat)) := y0
    have hgyw : W5.heap.size < gy := by have := hgy2; simp at this; omega
    have HOY := Lib.hid hrd
    have hval : [(dm, 4), (dr, 4), (dp4, 4)].map (numV bs) = [.int .i64 (en : Nat), .int .i64 (cv : Nat), .int .i64 (lv : Nat)] := by simp only [List.map, numV]; rw [hen, hcv, hlv]
    rw [hval] at HOY
    clear hall hq hy hm3 hrd h5 h8 h9 hen hcv hlv hdp4 QE y0 hgy2 hval
    obtain ⟨dd, hdd⟩ : ∃ dd, ds - op = dd := ⟨_, rfl⟩
    have hdsop : op ≤ ds ∧ ds ≤ op + 112 := by have := HDQ.out.2.2.2.2.1; omega
    have e13 : IntKind.i64.wrap ((ds : Int) - (op : Int)) = (dd : Int) := by rw [IntWalk.i64_in _ (by omega)]; omega
    obtain ⟨en8, hen8⟩ : ∃ x, 8 * en = x := ⟨_, rfl⟩
    have e14 : IntKind.i64.wrap (8 * (en : Int)) = (en8 : Int) := by rw [IntWalk.i64_in _ (by omega)]; omega
    obtain ⟨le, hle⟩ : ∃ x, dd + en8 = x := ⟨_, rfl⟩
    have e15 : IntKind.i64.wrap ((dd : Int) + (en8 : Int)) = (le : Int) := by rw [IntWalk.i64_in _ (by omega)]; omega
    obtain ⟨ct40, hct40⟩ : ∃ x, 40 * ct = x := ⟨_, rfl⟩
    have e16 : IntKind.i64.wrap (40 * (ct : Int)) = (ct40 : Int) := by rw [IntWalk.i64_in _ (by omega)]; omega
    obtain ⟨te, hte⟩ : ∃ x, tb + ct40 = x := ⟨_, rfl⟩
    have e17 : IntKind.i64.wrap ((tb : Int) + (ct40 : Int)) = (te : Int) := by rw [IntWalk.i64_in _ (by omega)]; omega
    have HLE : Hid (dirsQ bs - optQ bs + 8 * entQ bs = le) := by rw [HQE.out.1, HQ0.out.2.2.2.2.1, show dirsQ bs = ds from by have := HDQ.out; omega]; exact Lib.hid (by omega)
    have HTE : Hid (tabQ bs + 40 * cntQ bs = te) := by rw [HTB.out, HQ1.out.1]; exact Lib.hid (by omega)
    have htbb : tb ≤ 8589934592 := by omega
    have hte40 : 40 ≤ te := by omega
    clear hdd hen8 hle hct40 hte htb
    by_cases g4 : en < 5
    · have t7 : decide ((en : Int) < 5) = true := by simp; omega
      have t7n : decide (en < 5) = true := by simp; omega
      have hno : parseQ bs = .inl 9 := parse_no hbig (fun g _ _ => by have := (hd_parts bs g).2.2.2.2.2.2.2.2.2.2.2.1; rw [HQE.out.1] at this; omega)
      clear g4
      go_upto_region 18 with (fail)
      go_quiet (fail)
      have HNO := Lib.hid hno
      clear hno
      go_wp2_with (first | (refine wpList_load_row rfl _ _ rfl (w.heap.size + 1) rfl _ _ _ _ KK.out.2.1 Tryz.underlying30 rfl (by kernel_rfl) ?_) | (refine wpList_store_row rfl _ _ _ rfl w.heap.size imZero rfl rfl _ _ KK.out.1 (by kernel_rfl) rfl (by simp [imZero, Value.oneCell']) ?_))
      refine bodyPost_ret (results_ct Tryz.results20 _ (LV.agg (setRow_heap _ _ _ _ _ _ KK.out.1) Tryz.underlying30 rfl (by kernel_rfl))) rfl ?_
      exact dp_no HNO.out (by first | exact below_setRow KK.out.2.2 (Nat.le_refl _) _ | exact below_setRow (kp_drewN KK.out.2.2 _) (Nat.le_refl _) _)
    have t7 : decide ((en : Int) < 5) = false := by simp; omega
    have t7n : decide (en < 5) = false := by simp; omega
    by_cases g5 : ln = le
    rotate_left
    · have t8 : ((ln : Int) != (le : Int)) = true := by simp; omega
      have hno : parseQ bs = .inl 9 := parse_no hbig (fun g _ _ => by have := (hd_parts bs g).2.2.2.2.2.2.2.2.2.2.2.2.1; rw [HQ1.out.2.1, HLE.out] at this; exact g5 this)
      clear g4 g5
      go_upto_region 18 with (fail)
      go_quiet (fail)
      have HNO := Lib.hid hno
      clear hno
      go_wp2_with (first | (refine wpList_load_row rfl _ _ rfl (w.heap.size + 1) rfl _ _ _ _ KK.out.2.1 Tryz.underlying30 rfl (by kernel_rfl) ?_) | (refine wpList_store_row rfl _ _ _ rfl w.heap.size imZero rfl rfl _ _ KK.out.1 (by kernel_rfl) rfl (by simp [imZero, Value.oneCell']) ?_))
      refine bodyPost_ret (results_ct Tryz.results20 _ (LV.agg (setRow_heap _ _ _ _ _ _ KK.out.1) Tryz.underlying30 rfl (by kernel_rfl))) rfl ?_
      exact dp_no HNO.out (by first | exact below_setRow KK.out.2.2 (Nat.le_refl _) _ | exact below_setRow (kp_drewN KK.out.2.2 _) (Nat.le_refl _) _)
    have t8 : ((ln : Int) != (le : Int)) = false := by rw [g5]; simp
    by_cases g6 : n < hd
    · have t9 : decide ((n : Int) < (hd : Int)) = true := by simp; omega
      have t9n : decide (n < hd) = true := by simp; omega
      have hno : parseQ bs = .inl 9 := parse_no hbig (fun g _ _ => by have := (hd_parts bs g).2.2.2.2.2.2.2.2.2.2.2.2.2.2.2; rw [HQ1.out.2.2.2.1] at this; omega)
      clear g4 g5 g6
      go_upto_region 18 with (fail)
      go_quiet (fail)
      have HNO := Lib.hid hno
      clear hno
      go_wp2_with (first | (refine wpList_load_row rfl _ _ rfl (w.heap.size + 1) rfl _ _ _ _ KK.out.2.1 Tryz.underlying30 rfl (by kernel_rfl) ?_) | (refine wpList_store_row rfl _ _ _ rfl w.heap.size imZero rfl rfl _ _ KK.out.1 (by kernel_rfl) rfl (by simp [imZero, Value.oneCell']) ?_))
      refine bodyPost_ret (results_ct Tryz.results20 _ (LV.agg (setRow_heap _ _ _ _ _ _ KK.out.1) Tryz.underlying30 rfl (by kernel_rfl))) rfl ?_
      exact dp_no HNO.out (by first | exact below_setRow KK.out.2.2 (Nat.le_refl _) _ | exact below_setRow (kp_drewN KK.out.2.2 _) (Nat.le_refl _) _)
    have t9 : decide ((n : Int) < (hd : Int)) = false := by simp; omega
    have t9n : decide (n < hd) = false := by simp; omega
    by_cases g7 : hd < te
    · have t10 : decide ((hd : Int) < (te : Int)) = true := by simp; omega
      have t10n : decide (hd < te) = true := by simp; omega
      have hno : parseQ bs = .inl 9 := parse_no hbig (fun g _ _ => by have := (hd_parts bs g).2.2.2.2.2.2.2.2.2.2.2.2.2.2.1; rw [HQ1.out.2.2.2.1, HTE.out] at this; omega)
      clear g4 g5 g6 g7
      go_upto_region 18 with (fail)
      go_quiet (fail)
      have HNO := Lib.hid hno
      clear hno
      go_wp2_with (first | (refine wpList_load_row rfl _ _ rfl (w.heap.size + 1) rfl _ _ _ _ KK.out.2.1 Tryz.underlying30 rfl (by kernel_rfl) ?_) | (refine wpList_store_row rfl _ _ _ rfl w.heap.size imZero rfl rfl _ _ KK.out.1 (by kernel_rfl) rfl (by simp [imZero, Value.oneCell']) ?_))
      refine bodyPost_ret (results_ct Tryz.results20 _ (LV.agg (setRow_heap _ _ _ _ _ _ KK.out.1) Tryz.underlying30 rfl (by kernel_rfl))) rfl ?_
      exact dp_no HNO.out (by first | exact below_setRow KK.out.2.2 (Nat.le_refl _) _ | exact below_setRow (kp_drewN KK.out.2.2 _) (Nat.le_refl _) _)
    have t10 : decide ((hd : Int) < (te : Int)) = false := by simp; omega
    have t10n : decide (hd < te) = false := by simp; omega
    have HGOOD : Hid (hdB bs = true) := Lib.hid (hd_make bs HQ0.out.2.1 HQ0.out.1 (by rw [HQ0.out.2.2.2.1]; omega) HQ0.out.2.2.1 HQ1.out.2.2.2.2.1 (by rw [HQ1.out.1]; omega) (by rw [HQ1.out.1]; omega) HQ1.out.2.2.2.2.2.1 HQ1.out.2.2.2.2.2.2.1 HDQ.out.2.1 HQE.out.2.2.2.2 (by rw [HQE.out.1]; omega) (by rw [HQ1.out.2.1, HLE.out]; exact g5) HQ1.out.2.2.2.2.2.2.2 (by rw [HTE.out, HQ1.out.2.2.2.1]; omega) (by rw [HQ1.out.2.2.2.1]; omega))
    have hdpos : 0 < hd := by omega
    clear g4 g5 g6 g7
    go_upto_region 18 with (fail)
    go_quiet (fail)
    go_upto_region 20 with (fail)
    refine wp_nm fun W9 hW9 => ?_
    have hb9 : Below W8.heap.size W8 W9 := by rw [← hW9]; exact kp_drewN (Below.refl _ _) _
    have q0 := kp_cell hb9 HK8.out.2.1
    have q3 := kp_cell hb9 HK8.out.2.2.2
    have k9 := has_below HK8.out.1 hb9
    have K9 := Lib.hid (K8.out.below hb9)
    have HY9 := Lib.hid (HOY.out.below hb9 (Nat.le_refl _))
    have hw59 : W5.heap.size < W9.heap.size := by have := hb9.size; omega
    have HK9 := Lib.hid k9
    have CS := Lib.hid (fun W (hb : Below W9.heap.size W9 W) => dsections_any A n c bs tb ct hd W (HR.out.below (kp_call K9.out.b hb)) hnc hcc hn htbb (by omega) (by omega))
    have KEEP : Hid (∀ W, Below W9.heap.size W9 W → (W.cell? ⟨gx, 0, none⟩ = some (.int .i64 (ct : Nat)) ∧ W.cell? ⟨gx, 3, none⟩ = some (.int .i64 (hd : Nat))) ∧ Below W9.heap.size W9 W) := Lib.hid (fun W h => ⟨⟨kp_cell h q0, kp_cell h q3⟩, h⟩)
    clear hW9 hb9 q0 q3 k9 y0' y1 y2 n0 n1 n3 K8 HK8 HOY KK
    go_region_held3 (fun W => (W.cell? ⟨gx, 0, none⟩ = some (.int .i64 (ct : Nat)) ∧ W.cell? ⟨gx, 3, none⟩ = some (.int .i64 (hd : Nat))) ∧ Below W9.heap.size W9 W)
      ((apply KEEP.out; repeat (with_reducible (first | assumption | exact Below.refl _ _ | refine kp_drew ?_ | refine kp_alloc ?_ _ | refine kp_call ?_ (by assumption)))))
      (first
        | (go_at_call 45; (with_reducible refine (CS.out _ (by (go_split_ands; assumption))).mono ?_); (rintro e W10 ⟨V, m, cV, ed, okb, rfl, hb10, hok, hyes⟩; have hb910 : Below W9.heap.size W9 W10 := (by first | exact hb10 | exact (kp_drew (Below.refl _ _)).trans hb10); have HS10 : Hid (okb = true → m = (secN bs tb ct).length ∧ OwnR W10 W9.heap.size 60 2 V m cV ((secN bs tb ct).flatMap secCells) ∧ ed = (chainS (riseL (secN bs tb ct)) hd).2) := hyes; have HOKB := Lib.hid hok; clear CS hok hyes hb10)))
    have HB10 := Lib.hid hb910
    have K10 := Lib.hid (K9.out.below hb910)
    have HK10 := Lib.hid (has_below HK9.out hb910)
    have HY10 := Lib.hid (HY9.out.below hb910 (Nat.le_refl _))
    have SECB : secB bs = okb := by
      rw [HOKB.out]
      unfold secB endQ secsQ
      rw [HTB.out, HQ1.out.1, HQ1.out.2.2.2.1, hbl]
    have KK := Lib.hid K10.out.out
    clear hb910 KEEP K9 HK9 HY9
    cases okb with
    | false =>
      have hno : parseQ bs = .inl 9 := parse_no hbig (fun _ g _ => by rw [SECB] at g; cases g)
      clear SECB HOKB HS10
      go_upto_region 21 with (fail)
      have HNO := Lib.hid hno
      clear hno
      go_wp2_with (first | (refine wpList_load_row rfl _ _ rfl (w.heap.size + 1) rfl _ _ _ _ KK.out.2.1 Tryz.underlying30 rfl (by kernel_rfl) ?_) | (refine wpList_store_row rfl _ _ _ rfl w.heap.size imZero rfl rfl _ _ KK.out.1 (by kernel_rfl) rfl (by simp [imZero, Value.oneCell']) ?_))
      refine bodyPost_ret (results_ct Tryz.results20 _ (LV.agg (setRow_heap _ _ _ _ _ _ KK.out.1) Tryz.underlying30 rfl (by kernel_rfl))) rfl ?_
      exact dp_no HNO.out (by first | exact below_setRow KK.out.2.2 (Nat.le_refl _) _ | exact below_setRow (kp_drewN KK.out.2.2 _) (Nat.le_refl _) _)
    | true =>
    obtain ⟨hm, ho, hed⟩ := HS10.out rfl
    have QEND : endQ bs = ed := by
      unfold endQ secsQ
      rw [HTB.out, HQ1.out.1, HQ1.out.2.2.2.1, hed]
    have hedb : ed ≤ 8589934592 := by
      rw [hed]
      exact chainS_le _ _ (by omega) (fun x hx => by
        have := secN_lt bs tb ct x ((riseL_perm _).mem_iff.1 hx)
        exact ⟨this.1, this.2.1⟩)
    have hde : hd ≤ ed := by
      have h1 := secs_parts bs SECB
      have h2 := h1.2.2.1
      rw [QEND, HQ1.out.2.2.2.1] at h2
      omega
    have hneV : blk V = none ∨ blk V ≠ some W5.heap.size := by
      cases hv : blk V with
      | none => exact .inl rfl
      | some g => exact .inr (fun e => by have h1 := (ho.blk_lt hv).1; have h2 : g = W5.heap.size := Option.some.inj e; omega)
    have HV10 := Lib.hid (And.intro ho hneV)
    have HSEC := Lib.hid (And.intro hm (And.intro SECB QEND))
    clear hm ho hed QEND SECB hneV HS10 HOKB KK
    obtain ⟨z0, z1, z2, z3, z4, z5, z6, z7⟩ := cells_8 HK10.out
    have f4 := Lib.frozen_of_heap HK10.out 4
    go_upto_region 24 with (fail)
    refine wp_nm fun W11 hW11 => ?_
    have k11 : W11.heap[W5.heap.size]? = some (.cells #[.bool true, .int .i64 (ck : Nat), .int .i64 (dr : Nat), .int .u32 (hd : Nat), .slice V m cV, .int .u32 0, .int .u32 0, .slice none 0 0] 30) := by
      rw [← hW11]
      have h9 := heap_set_at _ W5.heap.size 4 _ _ _ (.slice V m cV) HK10.out
      simp only [List.setIfInBounds_toArray, List.set_cons_zero, List.set_cons_succ] at h9
      exact h9
    have hg11 : W10.grownBy W11 (some W5.heap.size) := by rw [← hW11]; exact grown_one _ W5.heap.size 4 _
    have HV11 := Lib.hid (HV10.out.1.kept hg11 HV10.out.2)
    have HY11 := Lib.hid (HY10.out.kept hg11 (.inr (fun e => by have h2 : gy = W5.heap.size := Option.some.inj e; omega)))
    have hw25 : w.heap.size + 1 < W5.heap.size := block_lt K5.out.y
    have K11 : Hid (DP w W11) := Lib.hid ⟨(hg11.block _ (block_lt K10.out.z) (fun e => by have h2 : w.heap.size = W5.heap.size := Option.some.inj e; omega)).trans K10.out.z, (hg11.block _ (block_lt K10.out.y) (fun e => by have h2 : w.heap.size + 1 = W5.heap.size := Option.some.inj e; omega)).trans K10.out.y, K10.out.b.grown hg11 K10.out.b.size (fun q hq => by have h2 : W5.heap.size = q := Option.some.inj hq; omega)⟩
    have HK11 := Lib.hid k11
    have KK := Lib.hid K11.out.out
    have hs1011 : W10.heap.size ≤ W11.heap.size := hg11.size
    have y1 := ownR_at HY11.out (j := 1) rfl
    have y2 := ownR_at HY11.out (j := 2) rfl
    clear hW11 hg11 k11 z0 z1 z2 z3 z4 z5 z6 z7 f4 K10 HK10 HV10 HY10
    have HGQ : Hid (∀ (t l : Nat) (sg : List (List UInt8)), imOf bs t l sg = ⟨true, ck, dr, hd, secN bs tb ct, t, l, sg⟩) := Lib.hid (fun t l sg => by
      unfold imOf secsQ
      rw [HTB.out, HQ1.out.1, HQ1.out.2.2.2.1, HDQ.out.2.2.1, HQ0.out.2.2.2.2.1, HQD.out.2.1, HDQ.out.2.2.2.1])
    have PARSE : parseQ bs = if cv = 0 ∧ lv = 0 then .inr (imOf bs 0 0 []) else if sgB n cv lv ed = false then .inl 9 else match rowsQ bs cv with
        | none => .inl 9
        | some l => if 8 < l.length then .inl 10 else .inr (imOf bs cv lv l) := by
      unfold parseQ
      rw [if_neg (by omega), HGOOD.out, HSEC.out.2.1, HQE.out.2.2.2.1, HQE.out.2.1, HQE.out.2.2.1, HSEC.out.2.2, hbl]
      rfl
    have HPAR := Lib.hid PARSE
    clear PARSE
    by_cases hz0 : cv = 0 ∧ lv = 0
    · have s1 : ((cv : Int) == 0) = true := by rw [hz0.1]; rfl
      have s2 : ((lv : Int) == 0) = true := by rw [hz0.2]; rfl
      have hp := HPAR.out
      rw [if_pos hz0, HGQ.out] at hp
      have HPP := Lib.hid hp
      clear hz0 hp
      go_wp2_with (first | (refine wpList_load_row rfl _ _ rfl W5.heap.size rfl _ _ _ _ HK11.out Tryz.underlying30 rfl (by kernel_rfl) ?_) | (refine wpList_store_row rfl _ _ _ rfl w.heap.size #[.bool true, .int .i64 (ck : Nat), .int .i64 (dr : Nat), .int .u32 (hd : Nat), .slice V m cV, .int .u32 0, .int .u32 0, .slice none 0 0] rfl rfl _ _ KK.out.1 (by kernel_rfl) rfl (by simp [Value.oneCell']) ?_))
      refine bodyPost_ret (results_ct Tryz.results20 _ (LV.agg (setRow_heap _ _ _ _ _ _ KK.out.1) Tryz.underlying30 rfl (by kernel_rfl))) rfl ?_
      have hneW : blk V = none ∨ blk V ≠ some w.heap.size := by
        cases hv : blk V with
        | none => exact .inl rfl
        | some g => exact .inr (fun e => by have h1 := (HV11.out.blk_lt hv).1; have h2 : g = w.heap.size := Option.some.inj e; omega)
      exact dp_yes _ HPP.out V m cV none 0 0 [] _ rfl ⟨HSEC.out.1, (HV11.out.kept (gr_setRow _ _ _) hneW).lower (by omega), rfl, rfl, OwnR.nil _ _ _ _, fun x hx => by cases hx⟩ (below_setRow KK.out.2.2 (Nat.le_refl _) _)
    by_cases g4 : lv = 0
    · have s0 : ¬ cv = 0 := fun h => hz0 ⟨h, g4⟩
      have s1 : ((cv : Int) == 0) = false := by simp; omega
      have s2 : ((lv : Int) == 0) = true := by rw [g4]; rfl
      have hno : parseQ bs = .inl 9 := by rw [HPAR.out, if_neg hz0, if_pos]; unfold sgB; rw [g4]; simp
      clear hz0 g4 s0
      go_upto_region 26 with (fail)
      go_quiet (fail)
      have HNO := Lib.hid hno
      clear hno
      go_wp2_with (first | (refine wpList_load_row rfl _ _ rfl (w.heap.size + 1) rfl _ _ _ _ KK.out.2.1 Tryz.underlying30 rfl (by kernel_rfl) ?_) | (refine wpList_store_row rfl _ _ _ rfl w.heap.size imZero rfl rfl _ _ KK.out.1 (by kernel_rfl) rfl (by simp [imZero, Value.oneCell']) ?_))
      refine bodyPost_ret (results_ct Tryz.results20 _ (LV.agg (setRow_heap _ _ _ _ _ _ KK.out.1) Tryz.underlying30 rfl (by kernel_rfl))) rfl ?_
      exact dp_no HNO.out (by first | exact below_setRow KK.out.2.2 (Nat.le_refl _) _ | exact below_setRow (kp_drewN KK.out.2.2 _) (Nat.le_refl _) _)
    have s2 : ((lv : Int) == 0) = false := by simp; omega
    by_cases g5 : cv = 0
    · have s1 : ((cv : Int) == 0) = true := by rw [g5]; rfl
      have s3 : ((0 : Int) != 0) = false := rfl
      have s4 : decide ((cv : Int) < (ed : Int)) = true := by simp; omega
      have s4n : decide (cv < ed) = true := by simp; omega
      have s5 : (cv : Int).tmod 8 = 0 := by rw [g5]; rfl
      have hno : parseQ bs = .inl 9 := by
        rw [HPAR.out, if_neg hz0, if_pos]
        unfold sgB
        rw [decide_eq_false (by omega : ¬ ed ≤ cv)]
        simp
      clear hz0 g4 g5
      go_upto_region 26 with (fail)
      go_quiet (fail)
      have HNO := Lib.hid hno
      clear hno
      go_wp2_with (first | (refine wpList_load_row rfl _ _ rfl (w.heap.size + 1) rfl _ _ _ _ KK.out.2.1 Tryz.underlying30 rfl (by kernel_rfl) ?_) | (refine wpList_store_row rfl _ _ _ rfl w.heap.size imZero rfl rfl _ _ KK.out.1 (by kernel_rfl) rfl (by simp [imZero, Value.oneCell']) ?_))
      refine bodyPost_ret (results_ct Tryz.results20 _ (LV.agg (setRow_heap _ _ _ _ _ _ KK.out.1) Tryz.underlying30 rfl (by kernel_rfl))) rfl ?_
      exact dp_no HNO.out (by first | exact below_setRow KK.out.2.2 (Nat.le_refl _) _ | exact below_setRow (kp_drewN KK.out.2.2 _) (Nat.le_refl _) _)
    have s1 : ((cv : Int) == 0) = false := by simp; omega
    obtain ⟨c8, hc8⟩ : ∃ c8, cv % 8 = c8 := ⟨_, rfl⟩
    have s5 : (cv : Int).tmod 8 = (c8 : Int) := by rw [Int.tmod_eq_emod_of_nonneg (by omega)]; omega
    have s5w : IntKind.i64.wrap (c8 : Int) = (c8 : Int) := IntWalk.i64_in _ (by omega)
    by_cases g6 : c8 = 0
    rotate_left
    · have s6 : ((c8 : Int) != 0) = true := by simp; omega
      have hno : parseQ bs = .inl 9 := by
        rw [HPAR.out, if_neg hz0, if_pos]
        unfold sgB
        rw [decide_eq_false (by omega : ¬ cv % 8 = 0)]
        simp
      clear hz0 g4 g5 g6 hc8
      go_upto_region 26 with (fail)
      go_quiet (fail)
      have HNO := Lib.hid hno
      clear hno
      go_wp2_with (first | (refine wpList_load_row rfl _ _ rfl (w.heap.size + 1) rfl _ _ _ _ KK.out.2.1 Tryz.underlying30 rfl (by kernel_rfl) ?_) | (refine wpList_store_row rfl _ _ _ rfl w.heap.size imZero rfl rfl _ _ KK.out.1 (by kernel_rfl) rfl (by simp [imZero, Value.oneCell']) ?_))
      refine bodyPost_ret (results_ct Tryz.results20 _ (LV.agg (setRow_heap _ _ _ _ _ _ KK.out.1) Tryz.underlying30 rfl (by kernel_rfl))) rfl ?_
      exact dp_no HNO.out (by first | exact below_setRow KK.out.2.2 (Nat.le_refl _) _ | exact below_setRow (kp_drewN KK.out.2.2 _) (Nat.le_refl _) _)
    have s6 : ((c8 : Int) != 0) = false := by rw [g6]; rfl
    by_cases g7 : cv < ed
    · have s4 : decide ((cv : Int) < (ed : Int)) = true := by simp; omega
      have s4n : decide (cv < ed) = true := by simp; omega
      have hno : parseQ bs = .inl 9 := by
        rw [HPAR.out, if_neg hz0, if_pos]
        unfold sgB
        rw [decide_eq_false (by omega : ¬ ed ≤ cv)]
        simp
      clear hz0 g4 g5 g6 g7 hc8
      go_upto_region 26 with (fail)
      go_quiet (fail)
      have HNO := Lib.hid hno
      clear hno
      go_wp2_with (first | (refine wpList_load_row rfl _ _ rfl (w.heap.size + 1) rfl _ _ _ _ KK.out.2.1 Tryz.underlying30 rfl (by kernel_rfl) ?_) | (refine wpList_store_row rfl _ _ _ rfl w.heap.size imZero rfl rfl _ _ KK.out.1 (by kernel_rfl) rfl (by simp [imZero, Value.oneCell']) ?_))
      refine bodyPost_ret (results_ct Tryz.results20 _ (LV.agg (setRow_heap _ _ _ _ _ _ KK.out.1) Tryz.underlying30 rfl (by kernel_rfl))) rfl ?_
      exact dp_no HNO.out (by first | exact below_setRow KK.out.2.2 (Nat.le_refl _) _ | exact below_setRow (kp_drewN KK.out.2.2 _) (Nat.le_refl _) _)
    have s4 : decide ((cv : Int) < (ed : Int)) = false := by simp; omega
    have s4n : decide (cv < ed) = false := by simp; omega
    obtain ⟨cl, hcl⟩ : ∃ x, cv + lv = x := ⟨_, rfl⟩
    have e18 : IntKind.i64.wrap ((cv : Int) + (lv : Int)) = (cl : Int) := by rw [IntWalk.i64_in _ (by omega)]; omega
    by_cases g8 : cl = n
    rotate_left
    · have s7 : ((cl : Int) != (n : Int)) = true := by simp; omega
      have hno : parseQ bs = .inl 9 := by
        rw [HPAR.out, if_neg hz0, if_pos]
        unfold sgB
        rw [decide_eq_false (by omega : ¬ cv + lv = n)]
        simp
      clear hz0 g4 g5 g6 g7 g8 hc8 hcl
      go_upto_region 26 with (fail)
      go_quiet (fail)
      have HNO := Lib.hid hno
      clear hno
      go_wp2_with (first | (refine wpList_load_row rfl _ _ rfl (w.heap.size + 1) rfl _ _ _ _ KK.out.2.1 Tryz.underlying30 rfl (by kernel_rfl) ?_) | (refine wpList_store_row rfl _ _ _ rfl w.heap.size imZero rfl rfl _ _ KK.out.1 (by kernel_rfl) rfl (by simp [imZero, Value.oneCell']) ?_))
      refine bodyPost_ret (results_ct Tryz.results20 _ (LV.agg (setRow_heap _ _ _ _ _ _ KK.out.1) Tryz.underlying30 rfl (by kernel_rfl))) rfl ?_
      exact dp_no HNO.out (by first | exact below_setRow KK.out.2.2 (Nat.le_refl _) _ | exact below_setRow (kp_drewN KK.out.2.2 _) (Nat.le_refl _) _)
    have s7 : ((cl : Int) != (n : Int)) = false := by rw [g8]; simp
    have hsg : sgB n cv lv ed = true := by unfold sgB; simp; omega
    have hpq := HPAR.out
    rw [if_neg hz0, if_neg (by rw [hsg]; simp)] at hpq
    have HPQ := Lib.hid hpq
    have hcvn : cv ≤ 16777216 := by omega
    have e19 : IntKind.u32.wrap (cv : Int) = (cv : Int) := IntWalk.u32_in _ (by omega)
    have e20 : IntKind.u32.wrap (lv : Int) = (lv : Int) := IntWalk.u32_in _ (by omega)
    clear hz0 g4 g5 g6 g7 g8 hc8 hcl hsg hpq
    go_upto_region 26 with (fail)
    go_quiet (fail)
    go_upto_region 28 with (fail)
    refine wp_nm fun W12 hW12 => ?_
    have hb12 : Below W11.heap.size W11 W12 := by rw [← hW12]; exact kp_drewN (Below.refl _ _) _
    have hs12 : W11.heap.size ≤ W12.heap.size := hb12.size
    have K12 := Lib.hid (K11.out.below hb12)
    have HK12 := Lib.hid (has_below HK11.out hb12)
    have HV12 := Lib.hid (HV11.out.below hb12 (Nat.le_refl _))
    have HY12 := Lib.hid (HY11.out.below hb12 (Nat.le_refl _))
    have CR := Lib.hid (drows_any A n c bs cv W12 (HR.out.below K12.out.b) hnc hcc hn hcvn)
    have y1 := ownR_at HY12.out (j := 1) rfl
    have y2 := ownR_at HY12.out (j := 2) rfl
    clear hW12 hb12 K11 HK11 HV11 HY11 KK
    obtain ⟨YB, HYB⟩ : ∃ YB, Hid (OwnR W12 YB 3 1 (some ⟨gy, 0, none⟩) 3 cy [.int .i64 (en : Nat), .int .i64 (cv : Nat), .int .i64 (lv : Nat)]) := ⟨_, HY12⟩
    go_wp2_with (fail)
    (with_reducible refine CR.out.mono ?_)
    rintro e W13 ⟨hb13, hpost⟩
    clear CR y1 y2 HY12
    have KK := Lib.hid (K12.out.below hb13).out
    cases hr : rowsQ bs cv with
    | none =>
      rw [hr] at hpost
      dsimp only at hpost
      subst hpost
      have hno : parseQ bs = .inl 9 := by rw [HPQ.out, hr]
      clear hr HPQ hb13
      have HNO := Lib.hid hno
      clear hno
      go_wp2_with (first | (refine wpList_load_row rfl _ _ rfl (w.heap.size + 1) rfl _ _ _ _ KK.out.2.1 Tryz.underlying30 rfl (by kernel_rfl) ?_) | (refine wpList_store_row rfl _ _ _ rfl w.heap.size imZero rfl rfl _ _ KK.out.1 (by kernel_rfl) rfl (by simp [imZero, Value.oneCell']) ?_))
      refine bodyPost_ret (results_ct Tryz.results20 _ (LV.agg (setRow_heap _ _ _ _ _ _ KK.out.1) Tryz.underlying30 rfl (by kernel_rfl))) rfl ?_
      exact dp_err (er := 9) HNO.out (below_setRow KK.out.2.2 (Nat.le_refl _) _)
    | some l =>
      rw [hr] at hpost
      dsimp only at hpost
      by_cases h8 : 8 < l.length
      · rw [if_pos h8] at hpost
        subst hpost
        have hno : parseQ bs = .inl 10 := by rw [HPQ.out, hr]; dsimp only; rw [if_pos h8]
        clear hr h8 HPQ hb13
        have HNO := Lib.hid hno
        clear hno
        go_wp2_with (first | (refine wpList_load_row rfl _ _ rfl (w.heap.size + 1) rfl _ _ _ _ KK.out.2.1 Tryz.underlying30 rfl (by kernel_rfl) ?_) | (refine wpList_store_row rfl _ _ _ rfl w.heap.size imZero rfl rfl _ _ KK.out.1 (by kernel_rfl) rfl (by simp [imZero, Value.oneCell']) ?_))
        refine bodyPost_ret (results_ct Tryz.results20 _ (LV.agg (setRow_heap _ _ _ _ _ _ KK.out.1) Tryz.underlying30 rfl (by kernel_rfl))) rfl ?_
        exact dp_err (er := 10) HNO.out (below_setRow KK.out.2.2 (Nat.le_refl _) _)
      · rw [if_neg h8] at hpost
        obtain ⟨U, k, cU, xs, rfl, hk, hbytes, hou, hox⟩ := hpost
        have hpq : parseQ bs = .inr ⟨true, ck, dr, hd, secN bs tb ct, cv, lv, l⟩ := by rw [HPQ.out, hr]; dsimp only; rw [if_neg h8, HGQ.out]
        have HPP := Lib.hid (And.intro hpq (And.intro hk hbytes))
        have E13 : Hid (EF w W5.heap.size W9.heap.size W12.heap.size V m cV (secN bs tb ct) gy cy YB [.int .i64 (en : Nat), .int .i64 (cv : Nat), .int .i64 (lv : Nat)] U k cU xs #[.bool true, .int .i64 (ck : Nat), .int .i64 (dr : Nat), .int .u32 (hd : Nat), .slice V m cV, .int .u32 0, .int .u32 0, .slice none 0 0] W13) := Lib.hid ⟨has_below HK12.out hb13, (K12.out.below hb13).z, kp_call K12.out.b hb13, HV12.out.below hb13 (Nat.le_refl _), HYB.out.below hb13 (Nat.le_refl _), hou, hox⟩
        have hw512 : W5.heap.size < W12.heap.size := by have := HB10.out.size; omega
        clear hpq hk hbytes hou hox hr h8 HPQ hb13 K12 HK12 HV12 HYB
        obtain ⟨z0, z1, z2, z3, z4, z5, z6, z7⟩ := cells_8 E13.out.i
        have ff := Lib.frozen_of_heap E13.out.i 5
        have y1 := ownR_at E13.out.y (j := 1) rfl
        have y2 := ownR_at E13.out.y (j := 2) rfl
        go_upto_region 32 with (fail)
        refine wp_nm fun W14 hWn => ?_
        have E14 : Hid (EF w W5.heap.size W9.heap.size W12.heap.size V m cV (secN bs tb ct) gy cy YB [.int .i64 (en : Nat), .int .i64 (cv : Nat), .int .i64 (lv : Nat)] U k cU xs #[.bool true, .int .i64 (ck : Nat), .int .i64 (dr : Nat), .int .u32 (hd : Nat), .slice V m cV, .int .u32 (cv : Nat), .int .u32 0, .slice none 0 0] W14) := by
          have h9 := E13.out.set (by omega) (by omega) hgyw (by omega) 5 (.int .u32 (cv : Nat))
          simp only [List.setIfInBounds_toArray, List.set_cons_zero, List.set_cons_succ] at h9
          rw [← hWn]
          exact Lib.hid h9
        clear hWn z0 z1 z2 z3 z4 z5 z6 z7 ff y1 y2 E13
        obtain ⟨z0, z1, z2, z3, z4, z5, z6, z7⟩ := cells_8 E14.out.i
        have ff := Lib.frozen_of_heap E14.out.i 6
        have y1 := ownR_at E14.out.y (j := 1) rfl
        have y2 := ownR_at E14.out.y (j := 2) rfl
        go_upto_region 33 with (fail)
        refine wp_nm fun W15 hWn => ?_
        have E15 : Hid (EF w W5.heap.size W9.heap.size W12.heap.size V m cV (secN bs tb ct) gy cy YB [.int .i64 (en : Nat), .int .i64 (cv : Nat), .int .i64 (lv : Nat)] U k cU xs #[.bool true, .int .i64 (ck : Nat), .int .i64 (dr : Nat), .int .u32 (hd : Nat), .slice V m cV, .int .u32 (cv : Nat), .int .u32 (lv : Nat), .slice none 0 0] W15) := by
          have h9 := E14.out.set (by omega) (by omega) hgyw (by omega) 6 (.int .u32 (lv : Nat))
          simp only [List.setIfInBounds_toArray, List.set_cons_zero, List.set_cons_succ] at h9
          rw [← hWn]
          exact Lib.hid h9
        clear hWn z0 z1 z2 z3 z4 z5 z6 z7 ff y1 y2 E14
        obtain ⟨z0, z1, z2, z3, z4, z5, z6, z7⟩ := cells_8 E15.out.i
        have ff := Lib.frozen_of_heap E15.out.i 7
        have y1 := ownR_at E15.out.y (j := 1) rfl
        have y2 := ownR_at E15.out.y (j := 2) rfl
        go_upto_region 34 with (fail)
        refine wp_nm fun W16 hWn => ?_
        have E16 : Hid (EF w W5.heap.size W9.heap.size W12.heap.size V m cV (secN bs tb ct) gy cy YB [.int .i64 (en : Nat), .int .i64 (cv : Nat), .int .i64 (lv : Nat)] U k cU xs #[.bool true, .int .i64 (ck : Nat), .int .i64 (dr : Nat), .int .u32 (hd : Nat), .slice V m cV, .int .u32 (cv : Nat), .int .u32 (lv : Nat), .slice U k cU] W16) := by
          have h9 := E15.out.set (by omega) (by omega) hgyw (by omega) 7 (.slice U k cU)
          simp only [List.setIfInBounds_toArray, List.set_cons_zero, List.set_cons_succ] at h9
          rw [← hWn]
          exact Lib.hid h9
        clear hWn z0 z1 z2 z3 z4 z5 z6 z7 ff y1 y2 E15
        go_wp2_with (first | (refine wpList_load_row rfl _ _ rfl W5.heap.size rfl _ _ _ _ E16.out.i Tryz.underlying30 rfl (by kernel_rfl) ?_) | (refine wpList_store_row rfl _ _ _ rfl w.heap.size #[.bool true, .int .i64 (ck : Nat), .int .i64 (dr : Nat), .int .u32 (hd : Nat), .slice V m cV, .int .u32 (cv : Nat), .int .u32 (lv : Nat), .slice U k cU] rfl rfl _ _ E16.out.z (by kernel_rfl) rfl (by simp [Value.oneCell']) ?_))
        refine bodyPost_ret (results_ct Tryz.results20 _ (LV.agg (setRow_heap _ _ _ _ _ _ E16.out.z) Tryz.underlying30 rfl (by kernel_rfl))) rfl ?_
        have hne : ∀ {A : Option Addr} {B : Nat}, w.heap.size < B → (∀ g, blk A = some g → B ≤ g) → (blk A = none ∨ blk A ≠ some w.heap.size) := by
          intro A B hB hA
          cases hk : blk A with
          | none => exact .inl rfl
          | some g => exact .inr (fun e => by have h7 := hA g hk; have h8 : g = w.heap.size := Option.some.inj e; omega)
        exact dp_yes _ HPP.out.1 V m cV U k cU xs _ rfl ⟨HSEC.out.1, (E16.out.v.kept (gr_setRow _ _ _) (hne (by omega) (fun g hk => (E16.out.v.blk_lt hk).1))).lower (by omega), HPP.out.2.1, HPP.out.2.2, (E16.out.u.kept (gr_setRow _ _ _) (hne (by omega) (fun g hk => (E16.out.u.blk_lt hk).1))).lower (by omega), fun x hx => ((E16.out.x x hx).kept (gr_setRow _ _ _) (hne (by omega) (fun g hk => ((E16.out.x x hx).blk_lt hk).1))).lower (by omega)⟩ (below_setRow E16.out.b (Nat.le_refl _) _)
end Go.Proofs.YtcedojmhgmgcgaaGreatDoor
