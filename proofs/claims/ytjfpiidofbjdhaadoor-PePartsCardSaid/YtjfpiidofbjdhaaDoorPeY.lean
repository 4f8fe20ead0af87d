/-
  pe: what the laws on images that are made have in common.
-/
import Derived.Test.YtjfpiidofbjdhaaDoorPeV
import Derived.Test.YtjfpiidofbjdhaaDoorPeW
import Derived.Test.YtjfpiidofbjdhaaDoorPeX
import Derived.Test.YtjfpiidofbjdhaaDoorPeS
import Derived.Test.YtjfpiidofbjdhaaDoorPeT
import Derived.Test.YtjfpiidofbjdhaaDoorRows
import Derived.MakeChecks
namespace Go.Proofs.YtjfpiidofbjdhaaDoor
open Go.RowKit Go
set_option linter.unusedVariables false
set_option linter.unusedSimpArgs false
set_option maxRecDepth 100000
/-- WHAT THE ROWS' CONDITION GIVES THE WALKS. -/
theorem of_laid {W : World} (h : laidMetH Tryd.prog Rows.peCountsRow.laid W) : Sizes W := by
  rw [MakeChecks.laidMetH_plain _ _ _ (by kernel_rfl)] at h
  have ht : Lib.TabIs Tryd.prog W "lintel/octet.sizes" .i64 sizesZ :=
    Lib.tabIs_of_head (rest := []) g_sizes (show (Tryd.prog.globals[0]?).map (·.type) = some 118 by kernel_rfl) Tryd.underlying118 Tryd.underlying3 (by kernel_rfl) (by kernel_rfl) h
  exact ⟨by have := World.var?_cell g_sizes ht 0; have := World.block_lt_of_cell? W _ (this.trans (show _ = some (.int .i64 1) from rfl)); exact this, ht⟩
/-- What is known of a shape of which an image is made here. -/
structure Brd0 (y : Shp) : Prop where
  s1 : y.sn ≤ 1000 ∧ y.fn ≤ 1000 ∧ y.hn ≤ 1000 ∧ y.bn ≤ 20 ∧ y.on ≤ 100 ∧ y.gn ≤ 20
  s2 : ∀ z ∈ y.bod, z.2.2.2.length ≤ 1000
  s3 : ∀ z ∈ y.sig, z.2.2.2.length ≤ 400
  s4 : ∀ z ∈ y.ord, -9223372036854775808 ≤ z ∧ z ≤ 9223372036854775807
  bd : BD y.stub y.fill (y.bod.map fun z => z.2.2.2) y.beh (y.sig.map fun z => z.2.2.2)
  nb : y.bn = (y.bod.map fun z => z.2.2.2).length
  ng : y.gn = (y.sig.map fun z => z.2.2.2).length
  gc : y.gn ≤ y.gc
/-- What is known of a shape that was brought. -/
structure Brd (y : Shp) : Prop extends Brd0 y where
  g8 : y.gn ≤ 8
theorem bringB_len (l : List (List UInt8)) : 1 ≤ (bringB l).length ∧ (bringB l).length ≤ 10 ∧ ∀ s ∈ bringB l, s.length ≤ 300 := by
  unfold bringB
  split
  · exact ⟨by decide, by decide, fun s hs => by simp at hs; subst hs; decide⟩
  · rename_i h
    have : 0 < l.length := List.length_pos_iff.2 h
    refine ⟨by simp; omega, by simp; omega, fun s hs => ?_⟩
    obtain ⟨z, _, rfl⟩ := List.mem_map.1 hs
    rw [List.length_take]; omega
theorem bringS_len (l : List (List UInt8)) : (bringS l).length ≤ 8 ∧ ∀ s ∈ bringS l, 1 ≤ s.length ∧ s.length ≤ 301 := by
  unfold bringS
  refine ⟨by simp; omega, fun s hs => ?_⟩
  obtain ⟨z, _, rfl⟩ := List.mem_map.1 hs
  rw [List.length_cons, List.length_take]; omega
theorem brd {x y : Shp} {w W : World} (hx : IsShp w x) (hy : y.R W) (hst : y.stub = x.stub.take 200) (hfi : y.fill = x.fill.take 200) (hbe : y.beh = x.beh.take 500) (hor : y.ord = x.ord.take 20)
    (hbo : y.bod.map (fun z => z.2.2.2) = bringB (x.bod.map fun z => z.2.2.2)) (hsi : y.sig.map (fun z => z.2.2.2) = bringS (x.sig.map fun z => z.2.2.2)) (hgc : y.gn ≤ y.gc) : Brd y := by
  have a1 := hy.s.1; have a2 := hy.f.1; have a3 := hy.h.1; have a4 := hy.ol; have a5 := hy.b.l; have a6 := hy.g.l
  have b1 := bringB_len (x.bod.map fun z => z.2.2.2)
  have b2 := bringS_len (x.sig.map fun z => z.2.2.2)
  rw [← hbo] at b1
  rw [← hsi] at b2
  have c1 := congrArg List.length hst; have c2 := congrArg List.length hfi; have c3 := congrArg List.length hbe; have c4 := congrArg List.length hor
  rw [List.length_take] at c1 c2 c3 c4
  have d1 := b1.1; have d2 := b1.2.1; have d3 := b2.1
  rw [List.length_map] at d1 d2 d3
  refine ⟨⟨by omega, fun z hz => ?_, fun z hz => ?_, fun z hz => ?_, ⟨by omega, by omega, ⟨by rw [List.length_map]; omega, by rw [List.length_map]; omega⟩, b1.2.2, by omega, by rw [List.length_map]; omega, b2.2⟩, by rw [List.length_map]; omega, by rw [List.length_map]; omega, hgc⟩, by omega⟩
  · have := b1.2.2 _ (List.mem_map_of_mem (f := fun z : Own1 => z.2.2.2) hz)
    omega
  · have := b2.2 _ (List.mem_map_of_mem (f := fun z : Own1 => z.2.2.2) hz)
    omega
  · rw [hor] at hz
    exact hx.oi z (List.mem_of_mem_take hz)
/-- The same shape with its first signature alone. -/
def Shp.one (y : Shp) : Shp := ⟨y.plus, y.sA, y.sn, y.sc, y.stub, y.fA, y.fn, y.fc, y.fill, y.bA, y.bn, y.bc, y.bod, y.oA, y.on, y.oc, y.ord, y.hA, y.hn, y.hc, y.beh, y.gA, 1, y.gc, y.sig.take 1⟩
theorem Shp.one_R {y : Shp} {W : World} (h : y.R W) (h1 : 1 ≤ y.gn) : y.one.R W := by
  refine ⟨h.s, h.f, h.b, h.ol, h.o, h.h, ⟨?_, ?_, fun x hx => h.g.rb x (List.mem_of_mem_take hx)⟩⟩
  · have := h.g.l
    show (y.sig.take 1).length = 1
    rw [List.length_take]; omega
  · show ReadR W y.gA ((y.sig.take 1).map Own1.val)
    rw [List.map_take]
    exact readR_take h.g.row 1
theorem Brd.one {y : Shp} (h : Brd y) (h1 : 1 ≤ y.gn) : Brd y.one := by
  have e : y.one.sig.map (fun z => z.2.2.2) = (y.sig.map fun z => z.2.2.2).take 1 := by
    show (y.sig.take 1).map _ = _
    rw [List.map_take]
  have hl : (y.one.sig.map (fun z => z.2.2.2)).length = 1 := by
    rw [e, List.length_take, ← h.ng]; omega
  obtain ⟨a1, a2, a3, a4, a5, a6⟩ := h.s1
  refine ⟨⟨⟨a1, a2, a3, a4, a5, by show 1 ≤ 20; omega⟩, h.s2, fun z hz => h.s3 z (List.mem_of_mem_take hz), h.s4, ⟨h.bd.s, h.bd.f, h.bd.n, h.bd.b, h.bd.h, by rw [hl]; omega, fun s hs => ?_⟩, h.nb, by rw [hl]; rfl, ?_⟩, by show 1 ≤ 8; omega⟩
  · rw [e] at hs
    exact h.bd.gs s (List.mem_of_mem_take hs)
  · have := h.gc
    show 1 ≤ y.gc
    omega
/-- What Parse answers, whatever it is: an image's cells, and an error. -/
theorem parse_abs {w w' : World} {bs : List UInt8} {e : Ending} (h : ParsePost w bs e w') : ∃ (hv tv lv : Nat) (pv cv dv : Value) (V : Option Addr) (m cV : Nat) (U : Option Addr) (k cU : Nat) (er : Nat), e = .returned (.tuple #[.agg #[pv, cv, dv, .int .u32 (hv : Nat), .slice V m cV, .int .u32 (tv : Nat), .int .u32 (lv : Nat), .slice U k cU], .int .i64 (er : Nat)]) ∧ Below w.heap.size w w' ∧
    pv.oneCell' = true ∧ cv.oneCell' = true ∧ dv.oneCell' = true ∧
    ((er = 0 ∧ ∃ im xs, parseQ bs = .inr im ∧ ImRd im V m cV U k cU xs w' ∧ im.hdr = hv ∧ im.table = tv ∧ im.length = lv ∧ pv = .bool im.plus ∧ cv = .int .i64 (im.check : Nat) ∧ dv = .int .i64 (im.dir : Nat)) ∨ (er ≠ 0 ∧ er ≤ 10 ∧ parseQ bs = .inl er)) := by
  obtain ⟨h1, h2⟩ := h
  cases hp : parseQ bs with
  | inl er =>
    rw [hp] at h1
    obtain rfl : e = .returned (.tuple #[.agg imZero, .int .i64 (er : Nat)]) := h1
    have her := parse_err hp
    exact ⟨0, 0, 0, .bool false, .int .i64 0, .int .i64 0, none, 0, 0, none, 0, 0, er, rfl, h2, rfl, rfl, rfl, .inr ⟨by rcases her with rfl | rfl <;> decide, by rcases her with rfl | rfl <;> decide, rfl⟩⟩
  | inr im =>
    rw [hp] at h1
    obtain ⟨V, m, cV, U, k, cU, xs, rfl, ho⟩ := h1
    exact ⟨im.hdr, im.table, im.length, .bool im.plus, .int .i64 (im.check : Nat), .int .i64 (im.dir : Nat), V, m, cV, U, k, cU, 0, rfl, h2, rfl, rfl, rfl, .inl ⟨rfl, im, xs, rfl, ho.rd, rfl, rfl, rfl, rfl, rfl, rfl⟩⟩
theorem im_one {pv cv dv : Value} (h1 : pv.oneCell' = true) (h2 : cv.oneCell' = true) (h3 : dv.oneCell' = true) (hv tv lv : Nat) (V : Option Addr) (m cV : Nat) (U : Option Addr) (k cU : Nat) :
    (#[pv, cv, dv, .int .u32 (hv : Nat), .slice V m cV, .int .u32 (tv : Nat), .int .u32 (lv : Nat), .slice U k cU] : Array Value).all Value.oneCell' = true := by
  simp
  exact ⟨h1, h2, h3, rfl, rfl, rfl, rfl, rfl⟩
/-- Where the section table begins. -/
theorem rows_tab (im : Im) (V : Option Addr) (m cV : Nat) (U : Option Addr) (k cU : Nat) (w : World) (hd : 32 ≤ im.dir) (hd2 : im.dir ≤ 1000000000) :
    Calls Tryd.prog 22 #[.agg (imVal im V m cV U k cU)] w fun e w' => e = .returned (.int .i64 ((im.dir + 96 : Nat) : Int)) ∧ Below w.heap.size w w' := by
  have e1 : IntKind.i64.wrap ((im.dir : Int) - 32) = (im.dir : Int) - 32 := IntWalk.i64_in _ (by omega)
  have e2 : IntKind.i64.wrap ((im.dir : Int) - 32 + 128) = ((im.dir + 96 : Nat) : Int) := by rw [IntWalk.i64_in _ (by omega)]; omega
  have hb : Below w.heap.size w (w.alloc (.cells (imVal im V m cV U k cU) 28)) := kp_alloc (Below.refl _ _) _
  have HB := Lib.hid hb
  clear hb
  unfold imVal at *
  go_enter Tryd.func22, Tryd.ntmps22
  go_wp2_with (fail)
  go_ret
  exact ⟨rfl, HB.out⟩
theorem quiet_load {P : Program} {ops : Array Oper} {C : World → Prop} {Q : Act → Prop} {a : Act} {o : Oper} {rest : List Oper} (hw : Region.wanted o (yielded ops a.tmps) = true) (ty : TypeId) (x : Operand) (ho : o.op = .load ty x) (g : Nat) (hx : a.eval x = .pointer (some ⟨g, 0, none⟩)) (cs : Array Value)
    (hl : ∀ w, C w → (Instr.loadAt ty (.pointer (some ⟨g, 0, none⟩))).run P w = .ok (.agg cs) w) (h : wpQuiet P ops C Q rest (a.put o.dst (.agg cs))) : wpQuiet P ops C Q (o :: rest) a :=
  wpQuiet_step fun K hK => by
    rw [if_pos hw]
    refine ⟨.agg cs, fun w hc => ?_, hK _ h⟩
    unfold Oper.quietAt execOp
    simp only [ho, Sem.run_bind, Sem.run_pure, Result.andThen_ok, hx, hl w hc]
    exact ⟨rfl, rfl⟩
theorem load_im {W1 : World} {g : Nat} {cs : Array Value} {t : TypeId} {fr : Nat × Nat} (hg : W1.heap[g]? = some (.cells cs t fr)) (hi : (Tryd.prog.info? 28).map (·.size) = some cs.size) : ∀ W, (∃ x : Up W1, W = x.w) → (Instr.loadAt 28 (.pointer (some ⟨g, 0, none⟩))).run Tryd.prog W = .ok (.agg cs) W := by
  rintro W ⟨x, rfl⟩
  simp only [Instr.loadAt, Instr.sureAddr, Sem.run_bind, Sem.run_pure, Result.andThen_ok]
  exact run_loadVar_row _ g t 28 cs fr _ (x.heap hg) Tryd.underlying28 rfl hi
theorem wpList_load_rowG {P : Program} {ops : Array Oper} {rest : List Oper} {o : Oper} {a : Act} {w : World} {Q : Exit → Act → World → Prop} (hw : Region.wanted o (yielded ops a.tmps) = true) (ty : TypeId) (x : Operand) (ho : o.op = .load ty x)
    (g : Nat) (hx : a.eval x = .pointer (some ⟨g, 0, none⟩)) (t : TypeId) (cs : Array Value) (fr : Nat × Nat) (d : TypeDesc) (hg : w.heap[g]? = some (.cells cs t fr))
    (hu : P.underlying ty = some d) (hd : (match d with | .struct _ | .array _ _ => true | _ => false) = true) (hi : (P.info? ty).map (·.size) = some cs.size)
    (h : wpList P ops Q rest (a.put o.dst (.agg cs)) w) : wpList P ops Q (o :: rest) a w :=
  wpList_step fun K hK => by
    rw [if_pos hw]
    exact wp_load_row ty x ho g hx t cs fr d hg hu hd hi (hK _ _ h)
theorem Below.up {W : World} (x : Up W) {B : Nat} {w : World} (h : Below B w W) (hB : B ≤ W.heap.size) : Below B w x.w := h.trans (x.b.mono hB)
/-- The state of a law once it has made an image and read it: the shape in block gx, the image in block gi, the bytes in a row of their own. -/
structure St16 (w : World) (y : Shp) (gx gi : Nat) (A : Option Addr) (n c : Nat) (bs : List UInt8) (im : Im) (V : Option Addr) (m cV : Nat) (U : Option Addr) (k cU : Nat) (xs : List Own1) (W : World) : Prop where
  x : W.heap[gx]? = some (.cells y.cells 39)
  i : W.heap[gi]? = some (.cells (imVal im V m cV U k cU) 28)
  o : OwnB W w.heap.size A n c bs
  r : ImRd im V m cV U k cU xs W
  y : y.R W
  b : Below w.heap.size w W
theorem St16.below {w : World} {y : Shp} {gx gi : Nat} {A : Option Addr} {n c : Nat} {bs : List UInt8} {im : Im} {V : Option Addr} {m cV : Nat} {U : Option Addr} {k cU : Nat} {xs : List Own1} {W W' : World} (h : St16 w y gx gi A n c bs im V m cV U k cU xs W) (hb : Below W.heap.size W W') : St16 w y gx gi A n c bs im V m cV U k cU xs W' :=
  ⟨has_below h.x hb, has_below h.i hb, h.o.below hb (Nat.le_refl _), h.r.below hb, h.y.below hb, kp_call h.b hb⟩
theorem St16.drewN {w : World} {y : Shp} {gx gi : Nat} {A : Option Addr} {n c : Nat} {bs : List UInt8} {im : Im} {V : Option Addr} {m cV : Nat} {U : Option Addr} {k cU : Nat} {xs : List Own1} {W : World} (h : St16 w y gx gi A n c bs im V m cV U k cU xs W) (q : Nat) : St16 w y gx gi A n c bs im V m cV U k cU xs (W.drewN q) :=
  h.below (kp_drewN (Below.refl _ _) q)
theorem St16.drew {w : World} {y : Shp} {gx gi : Nat} {A : Option Addr} {n c : Nat} {bs : List UInt8} {im : Im} {V : Option Addr} {m cV : Nat} {U : Option Addr} {k cU : Nat} {xs : List Own1} {W : World} (h : St16 w y gx gi A n c bs im V m cV U k cU xs W) : St16 w y gx gi A n c bs im V m cV U k cU xs W.drew :=
  h.below (kp_drew (Below.refl _ _))
theorem St16.call {w : World} {y : Shp} {gx gi : Nat} {A : Option Addr} {n c : Nat} {bs : List UInt8} {im : Im} {V : Option Addr} {m cV : Nat} {U : Option Addr} {k cU : Nat} {xs : List Own1} {W W' : World} (h : St16 w y gx gi A n c bs im V m cV U k cU xs W) (hb : Below W.heap.size W W') : St16 w y gx gi A n c bs im V m cV U k cU xs W' := h.below hb
/-- A law's number of bytes read as it was laid. -/
theorem num_put4_other {b : List UInt8} {a x c : Nat} (h : a + 4 ≤ b.length) (hd : c + 4 ≤ a ∨ a + 4 ≤ c) : numQ (putL b a x 4) c 4 = numQ b c 4 := num_other h (by omega) hd
end Go.Proofs.YtjfpiidofbjdhaaDoor
