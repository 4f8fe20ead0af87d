/-
  pe: the document's Write.
-/
import Derived.Test.YtjfpiidofbjdhaaDoorPeL
namespace Go.Proofs.YtjfpiidofbjdhaaDoor
open Go.RowKit Go
set_option linter.unusedVariables false
set_option maxRecDepth 100000
def sizeL (plus : Bool) : Nat := if plus then 240 else 224
def magL (plus : Bool) : Nat := if plus then 523 else 267
/-- Where things stand in an image that is made. -/
def peL (stub : List UInt8) : Nat := 64 + stub.length
def opL (stub : List UInt8) : Nat := peL stub + 24
def tbL (plus : Bool) (stub : List UInt8) : Nat := opL stub + sizeL plus
def hdL (plus : Bool) (stub fill : List UInt8) (nb : Nat) : Nat := tbL plus stub + 40 * nb + fill.length
def dosL : List UInt8 := [77, 90] ++ List.replicate 62 0
def blankL (plus : Bool) (stub fill : List UInt8) (nb : Nat) : List UInt8 := putL dosL 60 (peL stub) 4 ++ stub ++ List.replicate (24 + sizeL plus + 40 * nb) 0 ++ fill
def headL (plus : Bool) (stub fill : List UInt8) (nb : Nat) : List UInt8 :=
  putL (putL (putL (putL (putL (putL (blankL plus stub fill nb) (peL stub) 17744 4) (peL stub + 6) nb 2) (peL stub + 20) (sizeL plus) 2) (opL stub) (magL plus) 2) (opL stub + 60) (hdL plus stub fill nb) 4) (tbL plus stub - 132) 16 4
/-- A body is laid behind what there is, and told in the section table. -/
def bodStep (bods : List (List UInt8)) (tb : Nat) (b : List UInt8) (k : Nat) : List UInt8 :=
  if 0 < (bods.getD k []).length then putL (putL b (tb + 40 * k + 16) (bods.getD k []).length 4) (tb + 40 * k + 20) b.length 4 ++ bods.getD k [] else b
def bodsL (plus : Bool) (stub fill : List UInt8) (bods : List (List UInt8)) (ord : List Int) : List UInt8 := (ordL bods.length ord).foldl (bodStep bods (tbL plus stub)) (headL plus stub fill bods.length)
def padL (b : List UInt8) : List UInt8 := b ++ List.replicate ((8 - b.length % 8) % 8) 0
def sealL (tb : Nat) (b : List UInt8) (sigs : List (List UInt8)) : List UInt8 :=
  if sigs = [] then b else putL (putL (padL b) (tb - 96) (padL b).length 4) (tb - 92) (tableL sigs).length 4 ++ tableL sigs
def writeL (plus : Bool) (stub fill : List UInt8) (bods : List (List UInt8)) (ord : List Int) (beh : List UInt8) (sigs : List (List UInt8)) : List UInt8 :=
  sealL (tbL plus stub) (bodsL plus stub fill bods ord ++ beh) sigs
theorem blank_len (plus : Bool) (stub fill : List UInt8) (nb : Nat) : (blankL plus stub fill nb).length = hdL plus stub fill nb := by
  unfold blankL hdL tbL opL peL
  simp only [List.length_append, List.length_replicate]
  have hd : dosL.length = 64 := by decide
  rw [putL_len _ _ _ _ (by rw [hd]; omega), hd]
  omega
theorem putL_le {bs : List UInt8} {a x k N : Nat} (h : bs.length = N) (h2 : a + k ≤ N) : (putL bs a x k).length = N := by rw [putL_len _ _ _ _ (by omega), h]
theorem head_len (plus : Bool) (stub fill : List UInt8) (nb : Nat) : (headL plus stub fill nb).length = hdL plus stub fill nb := by
  have h0 := blank_len plus stub fill nb
  have hs : sizeL plus = 240 ∨ sizeL plus = 224 := by unfold sizeL; split <;> simp
  have hh : hdL plus stub fill nb = tbL plus stub + 40 * nb + fill.length := rfl
  have ht : tbL plus stub = opL stub + sizeL plus := rfl
  have hp : opL stub = peL stub + 24 := rfl
  unfold headL
  exact putL_le (putL_le (putL_le (putL_le (putL_le (putL_le h0 (by omega)) (by omega)) (by omega)) (by omega)) (by omega)) (by omega)
/-- The image's bytes, the shape's block, all else as it was. -/
structure WS (w : World) (o : Obj) (g n c : Nat) (bs : List UInt8) (W : World) : Prop where
  own : OwnB W (w.heap.size + 1) (some ⟨g, 0, none⟩) n c bs
  x : W.heap[w.heap.size]? = some o
  b : Below w.heap.size w W
section
variable {w : World} {o : Obj} {g n c : Nat} {bs : List UInt8} {W W' : World}
theorem WS.put (h : WS w o g n c bs W) {bs' : List UInt8} (ho : OwnB W' (w.heap.size + 1) (some ⟨g, 0, none⟩) n c bs') (hg : W.grownBy W' (some g)) : WS w o g n c bs' W' := by
  have hl : w.heap.size + 1 ≤ g := (h.own.blk_lt rfl).1
  exact ⟨ho, (hg.block _ (block_lt h.x) (fun e => by have e9 : w.heap.size = g := Option.some.inj e; omega)).trans h.x, h.b.grown hg h.b.size (fun k hk => by have e9 : g = k := Option.some.inj hk; omega)⟩
theorem WS.app (h : WS w o g n c bs W) {A : Option Addr} {n' c' : Nat} {bs' : List UInt8} (ho : OwnB W' (w.heap.size + 1) A n' c' bs') (hg : W.grownBy W' (some g)) (hn : 0 < n') : ∃ g', A = some ⟨g', 0, none⟩ ∧ WS w o g' n' c' bs' W' := by
  have hl : w.heap.size + 1 ≤ g := (h.own.blk_lt rfl).1
  obtain ⟨g', rfl, _, _⟩ := ho.shape (by have := ho.cap.1; omega)
  exact ⟨g', rfl, ho, (hg.block _ (block_lt h.x) (fun e => by have e9 : w.heap.size = g := Option.some.inj e; omega)).trans h.x, h.b.grown hg h.b.size (fun k hk => by have e9 : g = k := Option.some.inj hk; omega)⟩
theorem WS.new (h : WS w o g n c bs W) (hb : Below W.heap.size W W') : WS w o g n c bs W' := ⟨h.own.below hb (Nat.le_refl _), has_below h.x hb, kp_call h.b hb⟩
theorem WS.alloc (h : WS w o g n c bs W) (o' : Obj) : WS w o g n c bs (W.alloc o') := h.new ((Below.refl _ _).alloc (Nat.le_refl _) o')
theorem WS.drewN (h : WS w o g n c bs W) (k : Nat) : WS w o g n c bs (W.drewN k) := h.new (kp_drewN (Below.refl _ _) k)
end
set_option maxHeartbeats 8000000 in
theorem writeD_any (x : Shp) (w : World) (hR : x.R w) (hs : x.sn ≤ 1000 ∧ x.fn ≤ 1000 ∧ x.hn ≤ 1000 ∧ x.bn ≤ 20 ∧ x.on ≤ 100 ∧ x.gn ≤ 20) (hbl : ∀ y ∈ x.bod, y.2.2.2.length ≤ 1000) (hgl : ∀ y ∈ x.sig, y.2.2.2.length ≤ 400) (hoi : ∀ z ∈ x.ord, -9223372036854775808 ≤ z ∧ z ≤ 9223372036854775807) :
    Calls Tryd.prog 20 #[.agg x.cells] w (Fresh w (writeL x.plus x.stub x.fill (x.bod.map fun y => y.2.2.2) x.ord x.beh (x.sig.map fun y => y.2.2.2))) := by
  have HR := Lib.hid hR
  have CO := Lib.hid (fun W (hb : Below w.heap.size w W) => order_any x W (hR.below hb) (by omega) (by omega) hoi)
  have hl1 := hR.s.1
  have hl2 := hR.f.1
  have hl3 := hR.b.l
  have hl4 := hR.g.l
  have hl5 := hR.h.1
  obtain ⟨plus, sA, sn, sc, stub, fA, fn, fc, fill, bA, bn, bc, bod, oA, on, oc, ord, hA, hn, hc, beh, gA, gn, gc, sig⟩ := x
  dsimp only [Shp.cells] at *
  obtain ⟨hs1, hs2, hs3, hs4, hs5, hs6⟩ := hs
  have HBL := Lib.hid hbl
  have HGL := Lib.hid hgl
  have HLS := Lib.hid (And.intro hl1 (And.intro hl2 (And.intro hl3 (And.intro hl4 hl5))))
  obtain ⟨sz, hsz⟩ : ∃ z, sizeL plus = z := ⟨_, rfl⟩
  obtain ⟨mg, hmg⟩ : ∃ z, magL plus = z := ⟨_, rfl⟩
  have hsz2 : sz = 240 ∨ sz = 224 := by rw [← hsz]; unfold sizeL; split <;> simp
  have hmg2 : mg < 65536 := by rw [← hmg]; unfold magL; split <;> simp
  obtain ⟨pe, hpe⟩ : ∃ z, 64 + sn = z := ⟨_, rfl⟩
  obtain ⟨op, hop⟩ : ∃ z, pe + 24 = z := ⟨_, rfl⟩
  obtain ⟨tb, htb⟩ : ∃ z, op + sz = z := ⟨_, rfl⟩
  obtain ⟨hd, hhd⟩ : ∃ z, tb + 40 * bn + fn = z := ⟨_, rfl⟩
  have HE := Lib.hid (And.intro hsz (And.intro hmg (And.intro hpe (And.intro hop (And.intro htb hhd)))))
  have q1 : pe ≤ 1064 ∧ op ≤ 1100 ∧ tb ≤ 1400 ∧ hd ≤ 4000 ∧ 224 ≤ sz ∧ sz ≤ 240 := by omega
  have e1 : 64 + (sn : Int) = (pe : Int) := by omega
  have e2 : (pe : Int) + 24 = (op : Int) := by omega
  have e3 : (op : Int) + (sz : Int) = (tb : Int) := by omega
  have e4 : (tb : Int) + 40 * (bn : Int) + (fn : Int) = (hd : Int) := by omega
  have e5 : IntKind.u64.wrap (pe : Int) = (pe : Int) := by rw [IntKind.wrap_u64]; omega
  have e6 : IntKind.u64.wrap (bn : Int) = (bn : Int) := by rw [IntKind.wrap_u64]; omega
  have e7 : IntKind.u64.wrap (sz : Int) = (sz : Int) := by rw [IntKind.wrap_u64]; omega
  have e8 : IntKind.u64.wrap (hd : Int) = (hd : Int) := by rw [IntKind.wrap_u64]; omega
  clear hR hbl hgl hoi hl1 hl2 hl3 hl4 hl5 hsz hmg hpe hop htb hhd
  go_enter Tryd.func20, Tryd.ntmps20
  go_upto_if 15 with (fail)
  refine wp_nm fun W0 hW0 => ?_
  have k0 : W0.heap[w.heap.size]? = some (.cells #[.bool plus, .slice sA sn sc, .slice fA fn fc, .slice bA bn bc, .slice oA on oc, .slice hA hn hc, .slice gA gn gc] 39) := by rw [← hW0]; exact has_new w _
  have hb0 : Below w.heap.size w W0 := by rw [← hW0]; exact kp_alloc (Below.refl _ _) _
  have hs0 : w.heap.size + 1 = W0.heap.size := by rw [← hW0]; simp
  clear hW0
  go_cut [3, 4] (fun s3 s4 wx => s3 = .int .i64 (sz : Int) ∧ s4 = .int .u64 (mg : Int) ∧ wx = W0)
  case first => as_aux_lemma =>
    obtain ⟨hsz, hmg, _⟩ := HE.out
    cases plus with
    | true =>
      unfold sizeL at hsz
      unfold magL at hmg
      go_wp2_with (fail)
      go_meet
      exact ⟨by rw [← hsz]; rfl, by rw [← hmg]; rfl, rfl⟩
    | false =>
      unfold sizeL at hsz
      unfold magL at hmg
      go_wp2_with (fail)
      go_meet
      exact ⟨by rw [← hsz]; rfl, by rw [← hmg]; rfl, rfl⟩
  case rest =>
  obtain ⟨h3, h4, h5⟩ := hcut
  subst h3
  subst h4
  rw [h5]
  clear h5
  obtain ⟨x0, x1, x2, x3, x4, x5, x6⟩ := cells_7 k0
  go_wp2_with (refine wpList_mk _ _ rfl rfl _ _ _ _ 64 rfl rfl rfl rfl (by omega) ?_)
  intro w1 ho1 hg1
  have hgg : w.heap.size + 1 ≤ W0.heap.size := Nat.le_of_eq hs0
  have HS : Hid (WS w (.cells #[.bool plus, .slice sA sn sc, .slice fA fn fc, .slice bA bn bc, .slice oA on oc, .slice hA hn hc, .slice gA gn gc] 39) W0.heap.size 64 64 (List.replicate 64 0) w1) := ⟨ho1.lower hgg, (hg1.block _ (block_lt k0) (fun e => by cases e)).trans k0, hb0.grown hg1 hb0.size (fun k hk => by cases hk)⟩
  obtain ⟨g, hg⟩ : ∃ g, W0.heap.size = g := ⟨_, rfl⟩
  rw [hg] at HS ⊢
  have d0 : w1.cell? ⟨g, 0, none⟩ = some (.int .u8 0) := HS.out.own.cellAt 0 0 rfl
  have d1 : w1.cell? ⟨g, 1, none⟩ = some (.int .u8 0) := HS.out.own.cellAt 1 0 rfl
  have f0 := HS.out.own.free 0
  have f1 := HS.out.own.free 1
  clear ho1 hg1 k0 hb0 hs0 hgg hg x0 x1 x2 x3 x4 x5 x6
  go_upto_region 13 with (fail)
  refine wp_nm fun W1 hW1 => ?_
  replace HS : Hid (WS w (.cells #[.bool plus, .slice sA sn sc, .slice fA fn fc, .slice bA bn bc, .slice oA on oc, .slice hA hn hc, .slice gA gn gc] 39) g 64 64 dosL W1) := by
    have h1 := (HS.out.own.stored 0 77).stored 1 90
    rw [← hW1]
    exact HS.out.put h1 (grown_tr (grown_one _ _ _ _) (grown_one _ _ _ _))
  clear hW1 d0 d1 f0 f1
  have C := Lib.hid (putD_any g 64 64 _ _ 60 (pe : Int) 4 60 pe 4 W1 HS.out.own (by omega) (by omega) (by decide) (by omega) (by decide) (by omega) (by omega))
  go_wp2_with (fail)
  (with_reducible refine C.out.mono ?_)
  clear C
  rintro e W2 ⟨rfl, ho9, hg9⟩
  replace HS := Lib.hid (HS.out.put ho9 hg9)
  clear ho9 hg9
  obtain ⟨x0, x1, x2, x3, x4, x5, x6⟩ := cells_7 HS.out.x
  have hzb : w.heap.size + 1 ≤ W2.heap.size := block_lt HS.out.x
  go_wp2_with (at_builtin; refine wpList_apn _ _ rfl rfl rfl (w.heap.size + 1) (some ⟨g, 0, none⟩) 64 64 _ rfl HS.out.own sA sn sc stub rfl (HR.out.s.below HS.out.b) (by omega) hzb ?_)
  intro A9 c1 W3 ho9 hg9
  obtain ⟨g1, rfl, hs9⟩ := HS.out.app ho9 hg9 (by omega)
  replace HS := Lib.hid hs9
  clear ho9 hg9 hs9 hzb
  have hnn : 64 + sn = pe := by have := HE.out; omega
  rw [hnn] at HS ⊢
  clear hnn
  clear x0 x1 x2 x3 x4 x5 x6
  obtain ⟨x0, x1, x2, x3, x4, x5, x6⟩ := cells_7 HS.out.x
  obtain ⟨rl, hrl⟩ : ∃ z, 24 + sz + 40 * bn = z := ⟨_, rfl⟩
  have HRL := Lib.hid hrl
  have r1 : (hd : Int) - (fn : Int) - (pe : Int) = (rl : Int) := by have := HE.out; omega
  have hrl2 : rl ≤ 1100 := by omega
  clear hrl
  go_wp2_with (refine wpList_mk _ _ rfl rfl _ _ _ _ rl rfl rfl rfl rfl (by omega) ?_)
  intro w9 ho9 hg9
  have hb9 : Below W3.heap.size W3 w9 := (Below.refl _ _).grown hg9 (Nat.le_refl _) (fun k hk => by cases hk)
  replace HS := Lib.hid (HS.out.new hb9)
  have HRST := Lib.hid ho9.rb
  obtain ⟨gr, hgr⟩ : ∃ z, W3.heap.size = z := ⟨_, rfl⟩
  rw [hgr] at HRST ⊢
  clear hgr ho9 hg9 hb9 r1 x0 x1 x2 x3 x4 x5 x6
  obtain ⟨W100, hW100⟩ : ∃ z, w9 = z := ⟨_, rfl⟩
  rw [hW100] at HS HRST ⊢
  clear hW100
  have hzb : w.heap.size + 1 ≤ W100.heap.size := block_lt HS.out.x
  go_wp2_with (at_builtin; refine wpList_apn _ _ rfl rfl rfl (w.heap.size + 1) (some ⟨g1, 0, none⟩) pe c1 _ rfl HS.out.own (some ⟨gr, 0, none⟩) rl rl _ rfl (HRST.out) (by omega) hzb ?_)
  intro A9 c2 W101 ho9 hg9
  obtain ⟨g2, rfl, hs9⟩ := HS.out.app ho9 hg9 (by omega)
  replace HS := Lib.hid hs9
  clear ho9 hg9 hs9 hzb
  obtain ⟨x0, x1, x2, x3, x4, x5, x6⟩ := cells_7 HS.out.x
  have hzb : w.heap.size + 1 ≤ W101.heap.size := block_lt HS.out.x
  go_wp2_with (at_builtin; refine wpList_apn _ _ rfl rfl rfl (w.heap.size + 1) (some ⟨g2, 0, none⟩) (pe + rl) c2 _ rfl HS.out.own fA fn fc fill rfl (HR.out.f.below HS.out.b) (by omega) hzb ?_)
  intro A9 c3 W102 ho9 hg9
  obtain ⟨g3, rfl, hs9⟩ := HS.out.app ho9 hg9 (by omega)
  replace HS := Lib.hid hs9
  clear ho9 hg9 hs9 hzb
  have hnn : pe + rl + fn = hd := by have := HE.out; have := HRL.out; omega
  rw [hnn] at HS ⊢
  clear hnn x0 x1 x2 x3 x4 x5 x6
  have C := Lib.hid (putD_any g3 hd c3 _ _ (pe : Int) 17744 4 pe 17744 4 W102 HS.out.own (by omega) (by omega) (by decide) (by omega) (by decide) (by omega) (by omega))
  go_wp2_with (fail)
  (with_reducible refine C.out.mono ?_)
  clear C
  rintro e W103 ⟨rfl, ho9, hg9⟩
  replace HS := Lib.hid (HS.out.put ho9 hg9)
  clear ho9 hg9
  obtain ⟨x0, x1, x2, x3, x4, x5, x6⟩ := cells_7 HS.out.x
  have C := Lib.hid (putD_any g3 hd c3 _ _ ((pe : Int) + 6) (bn : Int) 2 (pe + 6) bn 2 W103 HS.out.own (by omega) (by omega) (by decide) (by omega) (by decide) (by omega) (by omega))
  go_wp2_with (fail)
  (with_reducible refine C.out.mono ?_)
  clear C
  rintro e W104 ⟨rfl, ho9, hg9⟩
  replace HS := Lib.hid (HS.out.put ho9 hg9)
  clear ho9 hg9
  clear x0 x1 x2 x3 x4 x5 x6
  have C := Lib.hid (putD_any g3 hd c3 _ _ ((pe : Int) + 20) (sz : Int) 2 (pe + 20) sz 2 W104 HS.out.own (by omega) (by omega) (by decide) (by omega) (by decide) (by omega) (by omega))
  go_wp2_with (fail)
  (with_reducible refine C.out.mono ?_)
  clear C
  rintro e W105 ⟨rfl, ho9, hg9⟩
  replace HS := Lib.hid (HS.out.put ho9 hg9)
  clear ho9 hg9
  have C := Lib.hid (putD_any g3 hd c3 _ _ (op : Int) (mg : Int) 2 op mg 2 W105 HS.out.own (by omega) (by omega) (by decide) (by omega) (by decide) (by omega) (by omega))
  go_wp2_with (fail)
  (with_reducible refine C.out.mono ?_)
  clear C
  rintro e W106 ⟨rfl, ho9, hg9⟩
  replace HS := Lib.hid (HS.out.put ho9 hg9)
  clear ho9 hg9
  have C := Lib.hid (putD_any g3 hd c3 _ _ ((op : Int) + 60) (hd : Int) 4 (op + 60) hd 4 W106 HS.out.own (by omega) (by omega) (by decide) (by omega) (by decide) (by omega) (by omega))
  go_wp2_with (fail)
  (with_reducible refine C.out.mono ?_)
  clear C
  rintro e W107 ⟨rfl, ho9, hg9⟩
  replace HS := Lib.hid (HS.out.put ho9 hg9)
  clear ho9 hg9
  have C := Lib.hid (putD_any g3 hd c3 _ _ ((tb : Int) - 128 - 4) 16 4 (tb - 132) 16 4 W107 HS.out.own (by omega) (by omega) (by decide) (by omega) (by decide) (by omega) (by omega))
  go_wp2_with (fail)
  (with_reducible refine C.out.mono ?_)
  clear C
  rintro e W108 ⟨rfl, ho9, hg9⟩
  replace HS := Lib.hid (HS.out.put ho9 hg9)
  clear ho9 hg9
  have hpeL : peL stub = pe := by unfold peL; rw [HLS.out.1]; exact HE.out.2.2.1
  have hopL : opL stub = op := by unfold opL; rw [hpeL]; exact HE.out.2.2.2.1
  have htbL : tbL plus stub = tb := by unfold tbL; rw [hopL, HE.out.1]; exact HE.out.2.2.2.2.1
  have hhdL : hdL plus stub fill bn = hd := by unfold hdL; rw [htbL, HLS.out.2.1]; exact HE.out.2.2.2.2.2
  obtain ⟨H, hH⟩ : ∃ H, headL plus stub fill bn = H := ⟨_, rfl⟩
  have HH := Lib.hid (And.intro hH htbL)
  unfold headL blankL at hH
  rw [hpeL, hopL, htbL, hhdL, HE.out.1, HE.out.2.1, HRL.out] at hH
  have h9 := HS.out
  simp only [List.append_assoc] at hH h9
  rw [hH] at h9
  replace HS := Lib.hid h9
  clear h9 hH hpeL hopL htbL hhdL
  obtain ⟨x0, x1, x2, x3, x4, x5, x6⟩ := cells_7 HS.out.x
  obtain ⟨O0, hO0⟩ : ∃ z, ordL bn ord = z := ⟨_, rfl⟩
  have HOR := Lib.hid hO0
  rw [hO0] at CO
  have HOLT : Hid (∀ y ∈ O0, y < bn) := by
    rw [← hO0]
    have h1 := ordL_lt bn ord (ordAll bn ord).length
    rw [List.take_length] at h1
    exact h1
  have HOLL : Hid (O0.length ≤ 120) := by
    have h1 := ordL_len bn ord (ordAll bn ord).length
    rw [List.take_length] at h1
    rw [ordAll_len] at h1
    have h2 : (ordL bn ord).length ≤ ord.length + bn := h1
    have h3 := HR.out.ol
    dsimp only at h3
    rw [hO0] at h2
    show O0.length ≤ 120
    omega
  clear hO0
  go_wp2_with (fail)
  (with_reducible refine (CO.out _ HS.out.b).mono ?_)
  clear CO
  rintro e WL ⟨oA2, on2, oc2, rfl, hon2, ho2, hb2⟩
  obtain ⟨D, hD⟩ : ∃ z, W108.heap.size = z := ⟨_, rfl⟩
  have HI := Lib.hid ho2
  replace HS := Lib.hid (HS.out.new hb2)
  rw [hD] at HI
  have HON := Lib.hid hon2
  have hon3 : on2 ≤ 120 := by have := HOLL.out; omega
  clear hD ho2 hb2 hon2 x0 x1 x2 x3 x4 x5 x6 e1 e2 e3 e4 e5 e6 e7 e8 hmg2 hrl2
  go_wp2_with (fail)
  go_loopw [9, 12] (fun vb vi wl => ∃ (i nb cb gb : Nat), vb = .slice (some ⟨gb, 0, none⟩) nb cb ∧ vi = .int .i64 (i : Int) ∧ i ≤ on2 ∧ nb ≤ hd + i * 1000 ∧ Hid (WS w (.cells #[.bool plus, .slice sA sn sc, .slice fA fn fc, .slice bA bn bc, .slice oA on oc, .slice hA hn hc, .slice gA gn gc] 39) gb nb cb ((O0.take i).foldl (bodStep (bod.map fun y => y.2.2.2) tb) H) wl) ∧ Hid (tb + 40 * bn ≤ nb) ∧ Hid (OwnR wl D 3 1 oA2 on2 oc2 (O0.map fun k => Value.int .i64 (k : Nat)))) (fun _ vi _ => on2 - (intOf vi).toNat)
  case atStart => exact ⟨0, hd, c3, g3, rfl, rfl, Nat.zero_le _, by omega, HS, by have := HE.out; show tb + 40 * bn ≤ hd; omega, HI⟩
  case round =>
    obtain ⟨i, nb, cb, gb, rfl, rfl, hi, hnb, HS, HTN, HI⟩ := hrel
    obtain ⟨x0, x1, x2, x3, x4, x5, x6⟩ := cells_7 HS.out.x
    by_cases hlt : i < on2
    · have i1 : decide ((i : Int) < (on2 : Int)) = true := by simp; omega
      have j3 : IntKind.i64.wrap ((i : Int) + 1) = (i : Int) + 1 := IntWalk.i64_in _ (by omega)
      obtain ⟨k, hk⟩ : ∃ k, O0[i]? = some k := ⟨_, List.getElem?_eq_getElem (by have := HON.out; omega)⟩
      have hkb := HOLT.out k (List.mem_of_getElem? hk)
      have HF := Lib.hid (fold_take (bodStep (bod.map fun y => y.2.2.2) tb) O0 H i k hk)
      obtain ⟨y, hy⟩ : ∃ y, bod[k]? = some y := ⟨_, List.getElem?_eq_getElem (by have := HLS.out.2.2.1; omega)⟩
      have hyl := HBL.out y (List.mem_of_getElem? hy)
      have hgd : (bod.map fun y => y.2.2.2).getD k [] = y.2.2.2 := by rw [List.getD_eq_getElem?_getD, List.getElem?_map, hy]; rfl
      have HYR := Lib.hid (HR.out.b.rb y (List.mem_of_getElem? hy))
      obtain ⟨bI, oI, hoA2, hbI, cI⟩ := HI.out.reads.at_ (j := i) (u := .int .i64 (k : Int)) (by rw [List.getElem?_map, hk]; rfl)
      obtain ⟨bB, oB, hbA, hbB, cB0⟩ := HR.out.b.at_ hy
      dsimp only at hbA
      have CB : Hid (∀ W, Below w.heap.size w W → W.cell? ⟨bB, oB + k, none⟩ = some y.val) := fun W hW => kp_cell hW cB0
      have CI : Hid (∀ W, OwnR W D 3 1 (some ⟨bI, oI, none⟩) on2 oc2 (O0.map fun k => Value.int .i64 (k : Nat)) → W.cell? ⟨bI, oI + i, none⟩ = some (.int .i64 (k : Int))) := fun W hW => by
        obtain ⟨b', o', e, _, hc⟩ := hW.reads.at_ (j := i) (u := .int .i64 (k : Int)) (by rw [List.getElem?_map, hk]; rfl)
        cases e
        exact hc
      have cB := CB.out wr HS.out.b
      subst hoA2
      subst hbA
      obtain ⟨ya, yn, yc, yb⟩ := y
      dsimp only [Own1.val] at hyl hgd HYR CB cB
      have hyn := HYR.out.1
      obtain ⟨cur, hcur⟩ : ∃ z, (O0.take i).foldl (bodStep (bod.map fun y => y.2.2.2) tb) H = z := ⟨_, rfl⟩
      rw [hcur] at HS HF
      have hcl := HS.out.own.len
      have HCL := Lib.hid hcl
      have HGD := Lib.hid hgd
      clear hk hy hbI hbB cB0 hcur hcl hgd
      by_cases h0 : 0 < yn
      · have t1 : decide ((0 : Int) < (yn : Int)) = true := by simp; omega
        have u1 : IntKind.u64.wrap (yn : Int) = (yn : Int) := by rw [IntKind.wrap_u64]; omega
        have u2 : IntKind.u64.wrap (nb : Int) = (nb : Int) := by rw [IntKind.wrap_u64]; omega
        go_wp2_with (fail)
        go_quiet (fail)
        have HSa := Lib.hid (HS.out.drewN nq)
        have HIa := Lib.hid (HI.out.drewN nq)
        generalize wr.drewN nq = wa at *
        clear HS HI cI cB x0 x1 x2 x3 x4 x5 x6
        obtain ⟨x0, x1, x2, x3, x4, x5, x6⟩ := cells_7 HSa.out.x
        have cI := CI.out wa HIa.out
        have cB := CB.out wa HSa.out.b
        have htn : tb + 40 * k + 24 ≤ nb := by have := HTN.out; omega
        have C := Lib.hid (putD_any gb nb cb _ _ ((tb : Int) + 40 * (k : Int) + 16) (yn : Int) 4 (tb + 40 * k + 16) yn 4 wa.drew (HSa.out.drewN 1).own (by omega) rfl (by decide) (by omega) (by decide) (by omega) (by omega))
        go_wp2_with (fail)
        refine wp_region_still_tail 19 (by kernel_rfl) (by kernel_rfl) ?_
        simp only [List.take_succ_cons, List.take_zero, List.drop_succ_cons, List.drop_zero]
        iterate 19 ((with_reducible refine wpStill_step (fun K hK => ?_)); go_simp; (with_reducible refine hK _ ?_); clear hK K)
        with_reducible refine wpStill_nil ?_
        change wpList _ _ _ _ _ wa.drew
        go_wp2_with (fail)
        (with_reducible refine C.out.mono ?_)
        clear C
        rintro e wb ⟨rfl, ho9, hg9⟩
        have HIb := Lib.hid ((HIa.out.drewN 1).kept hg9 (OwnR.ne (HIa.out.drewN 1) (HSa.out.drewN 1).own.row (by decide)))
        have HSb := Lib.hid ((HSa.out.drewN 1).put ho9 hg9)
        clear ho9 hg9 HSa HIa cI cB x0 x1 x2 x3 x4 x5 x6
        have cI := CI.out wb HIb.out
        have C := Lib.hid (putD_any gb nb cb _ _ ((tb : Int) + 40 * (k : Int) + 20) (nb : Int) 4 (tb + 40 * k + 20) nb 4 wb HSb.out.own (by omega) rfl (by decide) (by omega) (by decide) (by omega) (by omega))
        go_wp2_with (fail)
        (with_reducible refine C.out.mono ?_)
        clear C
        rintro e wd ⟨rfl, ho9, hg9⟩
        have HIc := Lib.hid (HIb.out.kept hg9 (OwnR.ne HIb.out HSb.out.own.row (by decide)))
        have HSc := Lib.hid (HSb.out.put ho9 hg9)
        clear ho9 hg9 HSb HIb cI
        obtain ⟨x0, x1, x2, x3, x4, x5, x6⟩ := cells_7 HSc.out.x
        have cI := CI.out wd HIc.out
        have cB := CB.out wd HSc.out.b
        have hzb : w.heap.size + 1 ≤ wd.drew.heap.size := block_lt HSc.out.x
        go_wp2_with (fail)
        refine wp_region_still_tail 9 (by kernel_rfl) (by kernel_rfl) ?_
        simp only [List.take_succ_cons, List.take_zero, List.drop_succ_cons, List.drop_zero]
        iterate 9 ((with_reducible refine wpStill_step (fun K hK => ?_)); go_simp; (with_reducible refine hK _ ?_); clear hK K)
        with_reducible refine wpStill_nil ?_
        change wpList _ _ _ _ _ wd.drew
        go_wp2_with (at_builtin; refine wpList_apn _ _ rfl rfl rfl (w.heap.size + 1) (some ⟨gb, 0, none⟩) nb cb _ rfl (HSc.out.drewN 1).own ya yn yc yb rfl (HYR.out.below (HSc.out.drewN 1).b) (by omega) hzb ?_)
        intro A9 c9 we ho9 hg9
        have HId := Lib.hid ((HIc.out.drewN 1).kept hg9 (OwnR.ne (HIc.out.drewN 1) (HSc.out.drewN 1).own.row (by decide)))
        obtain ⟨g9, rfl, hs9⟩ := (HSc.out.drewN 1).app ho9 hg9 (by omega)
        have HSd : Hid (WS w (.cells #[.bool plus, .slice sA sn sc, .slice fA fn fc, .slice (some ⟨bB, oB, none⟩) bn bc, .slice oA on oc, .slice hA hn hc, .slice gA gn gc] 39) g9 (nb + yn) c9 ((O0.take (i + 1)).foldl (bodStep (bod.map fun y => y.2.2.2) tb) H) we) := by
          show WS _ _ _ _ _ _ _
          rw [HF.out]
          unfold bodStep
          rw [HGD.out, if_pos (by rw [hyn]; exact h0), HCL.out, hyn]
          exact hs9
        clear ho9 hg9 hs9 HSc HIc cI cB x0 x1 x2 x3 x4 x5 x6 hzb
        go_wp2_with (fail)
        go_roundw
        case rel => exact ⟨i + 1, nb + yn, c9, g9, by go_num, by go_num, by omega, by omega, HSd, by have := HTN.out; show tb + 40 * bn ≤ nb + yn; omega, HId⟩
        case measure => simp [intOf]; omega
      · have t1 : decide ((0 : Int) < (yn : Int)) = false := by simp; omega
        have hy0 : yn = 0 := by omega
        have HSN : Hid (WS w (.cells #[.bool plus, .slice sA sn sc, .slice fA fn fc, .slice (some ⟨bB, oB, none⟩) bn bc, .slice oA on oc, .slice hA hn hc, .slice gA gn gc] 39) gb nb cb ((O0.take (i + 1)).foldl (bodStep (bod.map fun y => y.2.2.2) tb) H) wr) := by
          show WS _ _ _ _ _ _ _
          rw [HF.out]
          unfold bodStep
          rw [HGD.out, if_neg (by rw [hyn]; exact h0)]
          exact HS.out
        clear hy0
        go_wp2_with (fail)
        go_quiet (fail)
        go_wp2_with (fail)
        go_roundw
        case rel => exact ⟨i + 1, nb, cb, gb, by go_num, by go_num, by omega, by omega, HSN.out.drewN _, HTN, HI.out.drewN _⟩
        case measure => simp [intOf]; omega
    · have i1 : decide ((i : Int) < (on2 : Int)) = false := by simp; omega
      obtain rfl : i = on2 := by omega
      have htk : O0.take i = O0 := by rw [HON.out, List.take_length]
      rw [htk] at HS
      obtain ⟨B0, hB0⟩ : ∃ z, O0.foldl (bodStep (bod.map fun y => y.2.2.2) tb) H = z := ⟨_, rfl⟩
      have HB0 := Lib.hid hB0
      rw [hB0] at HS
      have hzb : w.heap.size + 1 ≤ wr.heap.size := block_lt HS.out.x
      have hHN := HE.out
      have hnb0 : 0 < nb ∧ tb + 40 * bn ≤ nb ∧ 100 ≤ tb := by have := HTN.out; omega
      clear htk hB0 HI hHN
      go_wp2_with (at_builtin; refine wpList_apn _ _ rfl rfl rfl (w.heap.size + 1) (some ⟨gb, 0, none⟩) nb cb _ rfl HS.out.own hA hn hc beh rfl (HR.out.h.below HS.out.b) (by omega) hzb ?_)
      intro A9 c9 we ho9 hg9
      obtain ⟨g9, rfl, hs9⟩ := HS.out.app ho9 hg9 (by omega)
      have HS9 := Lib.hid hs9
      obtain ⟨n9, hn9⟩ : ∃ z, nb + hn = z := ⟨_, rfl⟩
      rw [hn9] at HS9 ⊢
      have hn9b : 0 < n9 ∧ n9 ≤ 130000 ∧ tb + 40 * bn ≤ n9 := by omega
      clear ho9 hg9 hs9 hzb HS x0 x1 x2 x3 x4 x5 x6 hn9
      obtain ⟨x0, x1, x2, x3, x4, x5, x6⟩ := cells_7 HS9.out.x
      obtain ⟨B1, hB1⟩ : ∃ z, B0 ++ beh = z := ⟨_, rfl⟩
      have HB1 := Lib.hid hB1
      rw [hB1] at HS9
      have HWR : Hid (∀ R, sealL tb B1 (sig.map fun y => y.2.2.2) = R → writeL plus stub fill (bod.map fun y => y.2.2.2) ord beh (sig.map fun y => y.2.2.2) = R) := by
        intro R hR9
        unfold writeL bodsL
        rw [List.length_map, HLS.out.2.2.1, HOR.out, HH.out.1, HH.out.2, HB0.out, HB1.out]
        exact hR9
      clear hB1
      by_cases hgs : 0 < gn
      · have t1 : decide ((0 : Int) < (gn : Int)) = true := by simp; omega
        have hsn : ¬ sig.map (fun y => y.2.2.2) = [] := by
          intro e
          have := congrArg List.length e
          rw [List.length_map, HLS.out.2.2.2.1] at this
          simp at this
          omega
        have hB1l := HS9.out.own.len
        obtain ⟨pd, hpd⟩ : ∃ z, (8 - n9 % 8) % 8 = z := ⟨_, rfl⟩
        have hpd7 : pd ≤ 7 := by omega
        have HSL : Hid (sealL tb B1 (sig.map fun y => y.2.2.2) = putL (putL (B1 ++ List.replicate pd 0) (tb - 96) (n9 + pd) 4) (tb - 92) (tableL (sig.map fun y => y.2.2.2)).length 4 ++ tableL (sig.map fun y => y.2.2.2)) := by
          show sealL _ _ _ = _
          unfold sealL padL
          rw [if_neg hsn, hB1l, hpd, List.length_append, List.length_replicate, hB1l]
        have HWF := Lib.hid (HWR.out _ HSL.out)
        have HPD := Lib.hid hpd
        have htbl : (tableL (sig.map fun y => y.2.2.2)).length ≤ 20000 := by
          have h1 := tableL_le (sig.map fun y => y.2.2.2) 400 (fun z hz => by
            obtain ⟨y, hy, rfl⟩ := List.mem_map.1 hz
            exact HGL.out y hy)
          rw [List.length_map, HLS.out.2.2.2.1] at h1
          exact Nat.le_trans h1 (Nat.le_trans (Nat.mul_le_mul_right _ hs6) (by omega))
        obtain ⟨TB, hTB⟩ : ∃ z, tableL (sig.map fun y => y.2.2.2) = z := ⟨_, rfl⟩
        rw [hTB] at HWF htbl
        have HTB := Lib.hid hTB
        clear hTB hpd hB1l hsn HSL HWR
        go_wp2_with (fail)
        go_loopw [9] (fun vb wl => ∃ (j c' g' : Nat), vb = .slice (some ⟨g', 0, none⟩) (n9 + j) c' ∧ j ≤ pd ∧ Hid (WS w (.cells #[.bool plus, .slice sA sn sc, .slice fA fn fc, .slice bA bn bc, .slice oA on oc, .slice hA hn hc, .slice gA gn gc] 39) g' (n9 + j) c' (B1 ++ List.replicate j 0) wl)) (fun vb _ => n9 + pd - (match vb with | .slice _ l _ => l | _ => 0))
        case atStart => exact ⟨0, c9, g9, rfl, Nat.zero_le _, Lib.hid (by simpa using HS9.out)⟩
        case round =>
          obtain ⟨j, c', g', rfl, hj, HK⟩ := hrel
          obtain ⟨r, hr⟩ : ∃ r, (n9 + j) % 8 = r := ⟨_, rfl⟩
          have f1 : ((n9 : Int) + (j : Int)).tmod 8 = (r : Int) := by rw [← hr, Int.tmod_eq_emod_of_nonneg (by omega)]; omega
          have f2 : ((n9 : Int) + (j : Int)) % 8 = (r : Int) := by omega
          have hrj : r = 0 ↔ j = pd := by
            have h1 := pad_state n9 j (by have := HPD.out; omega)
            rw [HPD.out, hr] at h1
            exact Iff.of_eq h1
          have hwk : w.heap.size + 1 ≤ wr.heap.size := block_lt HK.out.x
          have hj7 : j ≤ 7 := by omega
          clear hr
          by_cases h0 : r = 0
          · have t2 : ((r : Int) != 0) = false := by simp; omega
            obtain rfl := hrj.1 h0
            clear h0 hrj x0 x1 x2 x3 x4 x5 x6
            obtain ⟨x0, x1, x2, x3, x4, x5, x6⟩ := cells_7 HK.out.x
            have CT := Lib.hid (table_any gA gn gc sig wr (HR.out.g.below HK.out.b) (by omega) (fun y hy => by have := HGL.out y hy; omega))
            rw [HTB.out] at CT
            go_wp2_with (fail)
            (with_reducible refine CT.out.mono ?_)
            clear CT
            rintro e wt ⟨tA, tn, tc, rfl, hot, hbt⟩
            have htn := hot.len
            rw [htn] at htbl
            have u1 : IntKind.u64.wrap (tn : Int) = (tn : Int) := by rw [IntKind.wrap_u64]; omega
            have u2 : IntKind.u64.wrap ((n9 : Int) + (j : Int)) = (n9 : Int) + (j : Int) := by rw [IntKind.wrap_u64]; omega
            have HKt := Lib.hid (HK.out.new hbt)
            have HT := Lib.hid (And.intro hot.rb htn)
            have C := Lib.hid (putD_any g' (n9 + j) c' _ _ ((tb : Int) - 128 + 32) ((n9 : Int) + (j : Int)) 4 (tb - 96) (n9 + j) 4 wt HKt.out.own (by omega) (by push_cast; rfl) (by decide) (by omega) (by decide) (by omega) (by omega))
            have HBT := Lib.hid hot
            have HFAR : Hid (blk tA = none ∨ blk tA ≠ some g') := .inr (fun e => by
              have h1 : wr.heap.size ≤ g' := (hot.blk_lt e).1
              have h2 : g' < wr.heap.size := (HK.out.own.blk_lt rfl).2
              omega)
            clear hot hbt htn HK x0 x1 x2 x3 x4 x5 x6
            go_wp2_with (fail)
            (with_reducible refine C.out.mono ?_)
            clear C
            rintro e wu ⟨rfl, ho9, hg9⟩
            have HTu := Lib.hid (HBT.out.kept hg9 HFAR.out)
            have HKu := Lib.hid (HKt.out.put ho9 hg9)
            clear ho9 hg9
            have C := Lib.hid (putD_any g' (n9 + j) c' _ _ ((tb : Int) - 128 + 36) (tn : Int) 4 (tb - 92) tn 4 wu HKu.out.own (by omega) rfl (by decide) (by omega) (by decide) (by omega) (by omega))
            go_wp2_with (fail)
            (with_reducible refine C.out.mono ?_)
            clear C
            rintro e wv ⟨rfl, ho9, hg9⟩
            have HTv := Lib.hid (HTu.out.kept hg9 HFAR.out)
            have HKv := Lib.hid (HKu.out.put ho9 hg9)
            have hzb : w.heap.size + 1 ≤ wv.heap.size := block_lt HKv.out.x
            clear ho9 hg9
            go_wp2_with (at_builtin; refine wpList_apn _ _ rfl rfl rfl (w.heap.size + 1) (some ⟨g', 0, none⟩) (n9 + j) c' _ rfl HKv.out.own tA tn tc TB rfl HTv.out.rb (by omega) hzb ?_)
            intro A7 c7 w7 ho7 hg7
            obtain ⟨g7, rfl, hs7⟩ := HKv.out.app ho7 hg7 (by omega)
            have HS7 := Lib.hid hs7
            clear ho7 hg7 hs7
            go_wp2_with (fail)
            go_ret
            rw [HWF.out, HT.out.2]
            exact ⟨_, _, _, rfl, HS7.out.own.lower (by omega), HS7.out.b⟩
          · have t2 : ((r : Int) != 0) = true := by simp; omega
            have hjp : j < pd := by
              have : j ≠ pd := fun e => h0 (hrj.2 e)
              omega
            clear h0 hrj
            have HQ1 : Hid ((wr.alloc (.cells #[.int .u8 0] 5)).cell? ⟨wr.heap.size, 0, none⟩ = some (bv 0)) := cells_1 (has_new wr _)
            go_wp2_with (at_builtin; refine wpList_app1 _ _ rfl rfl rfl (w.heap.size + 1) (some ⟨g', 0, none⟩) (n9 + j) c' _ rfl (HK.out.alloc _).own wr.heap.size 1 0 rfl HQ1.out (by omega) (by simp; omega) ?_)
            intro A6 c6 w6 ho6 _ hg6 _
            obtain ⟨g6, rfl, hs6'⟩ := (HK.out.alloc _).app ho6 hg6 (by omega)
            have HF : Hid (WS w (.cells #[.bool plus, .slice sA sn sc, .slice fA fn fc, .slice bA bn bc, .slice oA on oc, .slice hA hn hc, .slice gA gn gc] 39) g6 (n9 + (j + 1)) c6 (B1 ++ List.replicate (j + 1) 0) w6) := by
              show WS _ _ _ _ _ _ _
              rw [List.replicate_succ']
              exact hs6'
            clear ho6 hg6 hs6'
            go_wp2_with (fail)
            go_roundw
            case rel => exact ⟨j + 1, c6, g6, by go_num, by omega, HF⟩
            case measure => simp; omega
      · have t1 : decide ((0 : Int) < (gn : Int)) = false := by simp; omega
        have hsn : sig.map (fun y => y.2.2.2) = [] := by
          rw [List.map_eq_nil_iff]
          exact List.eq_nil_of_length_eq_zero (by have := HLS.out.2.2.2.1; omega)
        have HSN := Lib.hid (HWR.out B1 (by unfold sealL; rw [if_pos hsn]))
        clear hsn
        go_wp2_with (fail)
        go_ret
        rw [HSN.out]
        exact ⟨_, _, _, rfl, HS9.out.own.lower (by omega), HS9.out.b⟩
end Go.Proofs.YtjfpiidofbjdhaaDoor
