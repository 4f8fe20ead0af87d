/-
  bank: Scan.
-/
import Derived.Test.YtkajlbdiofobcaaDoorBnL
import Derived.Deep.Cut
namespace Go.Proofs.YtkajlbdiofobcaaDoor
open Go.RowKit Go
set_option linter.unusedVariables false
set_option linter.unusedSimpArgs false
set_option maxRecDepth 100000
theorem rec3_row : RowT 67 72 3 56 (.agg #[.slice none 0 0, .slice none 0 0, .bool false]) := ⟨Tryd.underlying67, by kernel_rfl, rfl, by decide⟩
theorem results_tmp4 {fn : Func} {t u v x : Tmp} (h : fn.results = #[.tmp t, .tmp u, .tmp v, .tmp x]) (tmps : Array Value) (P : Program) (w : World) :
    (results fn tmps).run P w = .ok (.tuple #[tmps.getD t undef, tmps.getD u undef, tmps.getD v undef, tmps.getD x undef]) w := by
  simp [results, h]
/-- A record as it is handed out. -/
structure SV where
  K : Option Addr
  kn : Nat
  kc : Nat
  V : Option Addr
  vn : Nat
  vc : Nat
  r : RD
def SV.cells (x : SV) : List Value := [.slice x.K x.kn x.kc, .slice x.V x.vn x.vc, .bool x.r.lives]
theorem cells_len3 : ∀ l : List SV, (l.flatMap SV.cells).length = l.length * 3
  | [] => rfl
  | x :: l => by simp only [List.flatMap_cons, List.length_append, cells_len3 l, List.length_cons]; simp [SV.cells]; omega
/-- Each has bytes of its own. -/
structure SVs (W : World) (base : Nat) (l : List SV) : Prop where
  own : ∀ x ∈ l, OwnB W base x.K x.kn x.kc (x.r.body.take x.r.key) ∧ OwnB W base x.V x.vn x.vc (x.r.body.drop x.r.key)
  ne : ∀ x ∈ l, ∀ k, blk x.K = some k → blk x.V ≠ some k
  pw : l.Pairwise (fun x y => ∀ k, (blk x.K = some k ∨ blk x.V = some k) → blk y.K ≠ some k ∧ blk y.V ≠ some k)
theorem SVs.nil (W : World) (base : Nat) : SVs W base [] := ⟨fun x hx => (by cases hx), fun x hx => (by cases hx), List.Pairwise.nil⟩
theorem SVs.below {W W' : World} {base : Nat} {l : List SV} (h : SVs W base l) (hb : Below W.heap.size W W') : SVs W' base l :=
  ⟨fun x hx => ⟨(h.own x hx).1.below hb (Nat.le_refl _), (h.own x hx).2.below hb (Nat.le_refl _)⟩, h.ne, h.pw⟩
theorem own_neS {W : World} {D b n c n' c' : Nat} {A A' : Option Addr} {bs : List UInt8} {vs : List Value} (h : OwnB W D A n c bs) (hR : OwnR W b 72 3 A' n' c' vs) : blk A = none ∨ blk A ≠ blk A' :=
  OwnR.ne (show OwnR W D 5 1 A n c (bs.map bv) from h) hR (by decide)
theorem SVs.keptR {W W' : World} {base b n c : Nat} {A : Option Addr} {vs : List Value} {l : List SV} (h : SVs W base l) (hR : OwnR W b 72 3 A n c vs) (hg : W.grownBy W' (blk A)) : SVs W' base l :=
  ⟨fun x hx => ⟨(h.own x hx).1.kept hg (own_neS (h.own x hx).1 hR), (h.own x hx).2.kept hg (own_neS (h.own x hx).2 hR)⟩, h.ne, h.pw⟩
theorem SVs.lower {W : World} {base base' : Nat} {l : List SV} (h : SVs W base l) (hb : base' ≤ base) : SVs W base' l :=
  ⟨fun x hx => ⟨(h.own x hx).1.lower hb, (h.own x hx).2.lower hb⟩, h.ne, h.pw⟩
theorem SVs.snoc {W W0 : World} {base p p' : Nat} {l : List SV} {x : SV} (h : SVs W base l) (h0 : SVs W0 base l) (hp : W0.heap.size ≤ p) (hbp : base ≤ p) (hpp : p ≤ p')
    (hk : OwnB W p x.K x.kn x.kc (x.r.body.take x.r.key)) (hkl : ∀ k, blk x.K = some k → k < p') (hv : OwnB W p' x.V x.vn x.vc (x.r.body.drop x.r.key)) : SVs W base (l ++ [x]) := by
  refine ⟨fun y hy => ?_, fun y hy => ?_, ?_⟩
  · rcases List.mem_append.1 hy with hy | hy
    · exact h.own y hy
    · rw [List.mem_singleton.1 hy]; exact ⟨hk.lower hbp, hv.lower (by omega)⟩
  · rcases List.mem_append.1 hy with hy | hy
    · exact h.ne y hy
    · rw [List.mem_singleton.1 hy]
      intro k hk1 hk2
      have h1 := hkl k hk1
      have h2 := (hv.blk_lt hk2).1
      omega
  · rw [List.pairwise_append]
    refine ⟨h.pw, List.pairwise_singleton _ _, fun y hy z hz k hk1 => ?_⟩
    rw [List.mem_singleton.1 hz]
    have hlt : k < p := by
      rcases hk1 with e | e
      · have := ((h0.own y hy).1.blk_lt e).2; omega
      · have := ((h0.own y hy).2.blk_lt e).2; omega
    exact ⟨fun e => by have := (hk.blk_lt e).1; omega, fun e => by have := (hv.blk_lt e).1; omega⟩
theorem rb_take {W : World} {G n k : Nat} {bs : List UInt8} (h : RB W (some ⟨G, 0, none⟩) n bs) (hk : k ≤ n) : RB W (some ⟨G, 0, none⟩) k (bs.take k) := by
  have h1 := rb_sub h 0 k (by omega)
  have h2 : cut bs 0 k = bs.take k := by unfold cut; simp
  rw [h2] at h1
  simpa using h1
theorem rb_restE {W : World} {G n k c : Nat} {bs : List UInt8} (h : RB W (some ⟨G, 0, none⟩) n bs) (hk : k ≤ n) (hn : n ≤ c) (hc : c = k) : RB W (some ⟨G, 0, none⟩) (n - k) (bs.drop k) := by
  have hl := h.1
  rw [List.drop_eq_nil_of_le (by omega), show n - k = 0 by omega]
  exact RB.nil _ _
theorem rb_restN {W : World} {G n k c : Nat} {bs : List UInt8} (h : RB W (some ⟨G, 0, none⟩) n bs) (hk : k ≤ n) (hc : ¬ c = k) : RB W (some ⟨G, k, none⟩) (n - k) (bs.drop k) := by
  have hl := h.1
  have h1 := rb_sub h k (n - k) (by omega)
  have h2 : cut bs k (n - k) = bs.drop k := by unfold cut; exact List.take_of_length_le (by rw [List.length_drop]; omega)
  rw [h2] at h1
  simpa using h1
theorem rb_rest {W : World} {G n k c : Nat} {bs : List UInt8} (h : RB W (some ⟨G, 0, none⟩) n bs) (hk : k ≤ n) (hc : n ≤ c) : RB W (if c = k then some ⟨G, 0, none⟩ else some ⟨G, k, none⟩) (n - k) (bs.drop k) := by
  have hl := h.1
  split
  · have e1 : bs.drop k = [] := List.drop_eq_nil_of_le (by omega)
    rw [e1, show n - k = 0 by omega]
    exact RB.nil _ _
  · have h1 := rb_sub h k (n - k) (by omega)
    have h2 : cut bs k (n - k) = bs.drop k := by unfold cut; exact List.take_of_length_le (by rw [List.length_drop]; omega)
    rw [h2] at h1
    simpa using h1
/-- What Scan answers with power. -/
def ScanPost (w : World) (X : List UInt8) (e : Ending) (w' : World) : Prop := ∃ (A : Option Addr) (n c : Nat) (ys : List SV) (l : List (Nat × RD)) (q : Nat), e = .returned (.tuple #[.slice A n c, .int .i64 (q : Int), .bool (wholeB X q), .int .i64 0]) ∧ Scan X l q ∧ ys.map SV.r = l.map Prod.snd ∧ OwnR w' w.heap.size 72 3 A n c (ys.flatMap SV.cells) ∧ SVs w' w.heap.size ys ∧ Below w.heap.size w w'
section
variable {base b g a c F C : Nat} {S : FS} {w : World}
set_option maxHeartbeats 8000000 in
theorem scan_any (ht : Tabs w) (hK : BK w base b g a c S F C) (hS : S.off = false) :
    Calls Tryd.prog 30 #[.pointer (some ⟨b, 0, none⟩)] w (ScanPost w (S.bank F C)) := by
  have RDX := Lib.hid (read_any hK hS ht)
  have hlen := bank_len hK
  have hin := hK.in_
  have hbig := hK.fl.big
  have h64 := hK.cs
  clear ht hK hS
  obtain ⟨X, hX⟩ : ∃ X, S.bank F C = X := ⟨_, rfl⟩
  rw [hX] at RDX hlen ⊢
  have HL : Hid (16 ≤ X.length ∧ X.length ≤ 4194304) := ⟨by omega, by omega⟩
  clear hX hlen hin hbig h64
  go_enter Tryd.func30, Tryd.ntmps30
  go_wp2_with fail
  refine RDX.out.mono ?_
  rintro e w1 ⟨A1, n1, c1, xs, q, rfl, hSc, hO1, hB1, hb1⟩
  have hn1 : n1 = xs.length := by have h1 := hO1.len; rw [cells_len4] at h1; omega
  have hxl : 13 * xs.length ≤ 4194304 := by
    have h1 := (hSc.got.le HL.out.1)
    rw [List.length_map] at h1
    have := HL.out.2
    omega
  have hok : Hid (∀ x ∈ xs, 1 ≤ x.r.key ∧ x.r.key ≤ x.r.body.length ∧ x.r.body.length ≤ x.r.key + 65536 ∧ x.r.key ≤ 255) := fun x hx => by
    have h1 := (hSc.got.mem HL.out.1 (x.at_, x.r) (List.mem_map.2 ⟨x, hx, rfl⟩)).2.2.1
    exact ⟨h1.k1, h1.kb, h1.vb, h1.k2⟩
  have HSC := Lib.hid hSc
  have HB1 := Lib.hid hB1
  have BL1 := Lib.hid hb1
  have HO1 := Lib.hid hO1
  obtain ⟨wh, hwh⟩ : ∃ wh, wholeB X q = wh := ⟨_, rfl⟩
  have HWH := Lib.hid hwh
  rw [hwh]
  subst hn1
  clear hSc hO1 hB1 RDX hb1 hwh
  go_wp2_with fail
  go_loopw [2, 20] (fun v2 v20 wl => ∃ (i : Nat) (A : Option Addr) (c : Nat) (ys : List SV), v20 = .int .i64 (i : Int) ∧ v2 = .slice A i c ∧ i ≤ xs.length ∧ Hid (ys.map SV.r = (xs.take i).map RV.r ∧ OwnR wl w1.heap.size 72 3 A i c (ys.flatMap SV.cells) ∧ SVs wl w1.heap.size ys ∧ Below w1.heap.size w1 wl)) (fun _ v20 _ => xs.length - (intOf v20).toNat)
  case atStart => exact ⟨0, none, 0, [], rfl, rfl, Nat.zero_le _, rfl, OwnR.nil _ _ _ _, SVs.nil _ _, Below.refl _ _⟩
  case round =>
    obtain ⟨i, A, ca, ys, rfl, rfl, hi, HT⟩ := hrel
    by_cases hlt : i < xs.length
    · have i1 : (i : Int) < (xs.length : Int) := by omega
      have i0 : (0 : Int) ≤ (i : Int) := by omega
      have e9 : IntKind.i64.wrap ((i : Int) + 1) = (i : Int) + 1 := IntWalk.i64_in _ (by omega)
      obtain ⟨x, hx⟩ : ∃ x, xs[i]? = some x := ⟨_, List.getElem?_eq_getElem hlt⟩
      have hxm := List.mem_of_getElem? hx
      obtain ⟨x1, x2, x3, x4⟩ := hok.out x hxm
      obtain ⟨G1, rfl, hg1, hgl1⟩ := HO1.out.shape (by have := HO1.out.cap.1; omega)
      obtain ⟨c0', c1', c2', c3'⟩ := rv_cell HO1.out i x hx
      have c0 := kp_cell HT.out.2.2.2 c0'
      have c1 := kp_cell HT.out.2.2.2 c1'
      have c2 := kp_cell HT.out.2.2.2 c2'
      have c3 := kp_cell HT.out.2.2.2 c3'
      have hBx := HB1.out x hxm
      have hxn : x.n = x.r.body.length := hBx.len.symm
      obtain ⟨Gx, hGx, hgx1, hgx2⟩ := hBx.shape (by have := hBx.cap.1; omega)
      have HBX : Hid (OwnB wr w.heap.size (some ⟨Gx, 0, none⟩) x.r.body.length x.c x.r.body) := by rw [← hGx, ← hxn]; exact hBx.below HT.out.2.2.2 (Nat.le_refl _)
      have hcap := hBx.cap
      rw [hGx] at c2
      clear c0' c1' c2' c3' hBx
      go_upto_region 5 with (fail)
      refine wp_nm fun W4 hW4 => ?_
      have hb4 : Below wr.heap.size wr W4 := by rw [← hW4]; exact kp_alloc (Below.refl _ _) _
      have r4 : W4.heap[wr.heap.size]? = some (.cells #[.int .i64 (x.at_ : Int), .int .i64 (x.r.key : Int), .slice (some ⟨Gx, 0, none⟩) x.r.body.length x.c, .bool x.r.lives] 85) := by rw [← hW4]; exact has_new _ _
      have hs4 : Hid (W4.heap.size = wr.heap.size + 1) := by rw [← hW4]; exact Lib.hid (by simp)
      have BX4 := Lib.hid (HBX.out.below hb4 (Nat.le_refl _)).rb
      have HOW4 := Lib.hid (HT.out.2.1.below hb4 (Nat.le_refl _))
      have HSV4 := Lib.hid (HT.out.2.2.1.below hb4)
      have HBE4 := Lib.hid (kp_call HT.out.2.2.2 hb4)
      obtain ⟨p0, p1, p2, p3⟩ := cells_4 r4
      have R4 := Lib.hid r4
      have i2 : (0 : Int) ≤ (x.r.key : Int) := by omega
      have i3 : (x.r.key : Int) ≤ (x.c : Int) := by omega
      have i4 : (x.r.key : Int) ≤ (x.r.body.length : Int) := by omega
      have i5 : (x.r.body.length : Int) ≤ (x.c : Int) := by omega
      have i4' : x.r.key ≤ x.r.body.length := by omega
      have i5' : x.r.body.length ≤ x.c := by omega
      have l4 : wr.heap.size < W4.heap.size := block_lt r4
      have l4' : wr.heap.size ≠ W4.heap.size := Nat.ne_of_lt l4
      have HX := Lib.hid hx
      clear hb4 r4 hW4 c0 c1 c2 c3 hx hxm
      go_wp2_with (at_builtin; refine wpList_apn _ _ rfl rfl rfl W4.heap.size (some ⟨W4.heap.size, 0, none⟩) 0 0 [] rfl (own_nil W4) (some ⟨Gx, 0, none⟩) x.r.key _ (x.r.body.take x.r.key) rfl (rb_take BX4.out (by omega) |>.alloc _) (by omega) (by simp) ?_)
      intro K5 c5 w5 ho5 hg5
      have hb5 : Below W4.heap.size W4 w5 := (kp_alloc (Below.refl _ _) _).grown hg5 (by simp) (fun g hg => by have h2 : some W4.heap.size = some g := hg; injection h2 with h2; omega)
      have HK5 : Hid (OwnB w5 W4.heap.size K5 x.r.key c5 (x.r.body.take x.r.key)) := Lib.hid (by simpa using ho5)
      have HB5 := Lib.hid hb5
      have r5 := has_below R4.out hb5
      obtain ⟨q0, q1, q2, q3⟩ := cells_4 r5
      have R5 := Lib.hid r5
      have BX5 := Lib.hid (BX4.out.below hb5)
      have l5 : wr.heap.size < w5.heap.size := block_lt r5
      have l5' : wr.heap.size ≠ w5.heap.size := Nat.ne_of_lt l5
      clear p0 p1 p2 p3 r5 ho5 hg5 hb5 R4 l4 l4'
      have HBL : Hid (x.r.key ≤ x.r.body.length ∧ x.r.body.length ≤ x.c) := ⟨i4', i5'⟩
      have H1 : Hid (∀ (V6 : Option Addr) (nv c' : Nat), ∀ u ∈ (#[.slice K5 x.r.key c5, .slice V6 nv c', .bool x.r.lives] : Array Value).toList, u.oneCell' = true) := by
        intro V6 nv c' u hu; simp at hu; rcases hu with rfl | rfl | rfl <;> rfl
      by_cases hck : x.c = x.r.key
      all_goals
        go_wp2_with (at_builtin; first | ((refine wpList_apn _ _ rfl rfl rfl w5.heap.size (some ⟨w5.heap.size, 0, none⟩) 0 0 [] rfl (own_nil w5) (some ⟨Gx, 0, none⟩) (x.r.body.length - x.r.key) _ (x.r.body.drop x.r.key) rfl ((rb_restE BX5.out HBL.out.1 HBL.out.2 hck).alloc _) (by omega) (by simp) ?_)) | ( refine wpList_apn _ _ rfl rfl rfl w5.heap.size (some ⟨w5.heap.size, 0, none⟩) 0 0 [] rfl (own_nil w5) (some ⟨Gx, x.r.key, none⟩) (x.r.body.length - x.r.key) _ (x.r.body.drop x.r.key) rfl ((rb_restN BX5.out HBL.out.1 hck).alloc _) (by omega) (by simp) ?_))
        intro V6 c6 w6 ho6 hg6
        have hb6 : Below w5.heap.size w5 w6 := (kp_alloc (Below.refl _ _) _).grown hg6 (by simp) (fun g hg => by have h2 : some w5.heap.size = some g := hg; injection h2 with h2; omega)
        have HV6 : Hid (OwnB w6 w5.heap.size V6 (x.r.body.length - x.r.key) c6 (x.r.body.drop x.r.key)) := Lib.hid (by simpa using ho6)
        have HB6 := Lib.hid hb6
        have r6 := has_below R5.out hb6
        obtain ⟨y0, y1, y2, y3⟩ := cells_4 r6
        have HK6 : Hid (OwnB w6 W4.heap.size K5 x.r.key c5 (x.r.body.take x.r.key)) := HK5.out.below hb6 (Nat.le_refl _)
        have hkl : Hid (∀ k, blk K5 = some k → k < w5.heap.size) := fun k hk => (HK5.out.blk_lt hk).2
        have hb46 : Below W4.heap.size W4 w6 := kp_call HB5.out hb6
        have HOW6 := Lib.hid (HOW4.out.below hb46 (Nat.le_refl _))
        have HSV6 := Lib.hid (HSV4.out.below hb46)
        have HBE6 := Lib.hid (kp_call HBE4.out hb46)
        have hmax : i + 1 ≤ maxLen := by unfold maxLen; omega
        have l6 : wr.heap.size < w6.heap.size := block_lt r6
        have l6' : wr.heap.size ≠ w6.heap.size := Nat.ne_of_lt l6
        have hsz56 : Hid (W4.heap.size ≤ w5.heap.size) := HB5.out.size
        have hszw : Hid (w1.heap.size ≤ wr.heap.size) := HT.out.2.2.2.size
        clear r6 ho6 hg6 hb6 hb46 q0 q1 q2 q3 l5 l5'
        go_wp2_with (at_builtin; refine wpList_appL rec3_row _ _ rfl rfl rfl w1.heap.size A i ca _ rfl (HOW6.out.alloc _) w6.heap.size 1 1 #[.slice K5 x.r.key c5, .slice V6 (x.r.body.length - x.r.key) c6, .bool x.r.lives] _ rfl (has_new _ _) rfl (H1.out _ _ _) hmax (by omega) (by have := HBE6.out.size; simp; omega) ?_)
        intro A7 c7 w7 ho7 hg7
        have RELN : Hid ((ys ++ [(⟨K5, x.r.key, c5, V6, x.r.body.length - x.r.key, c6, x.r⟩ : SV)]).map SV.r = (xs.take (i + 1)).map RV.r ∧ OwnR w7 w1.heap.size 72 3 A7 (i + 1) c7 ((ys ++ [(⟨K5, x.r.key, c5, V6, x.r.body.length - x.r.key, c6, x.r⟩ : SV)]).flatMap SV.cells) ∧ SVs w7 w1.heap.size (ys ++ [(⟨K5, x.r.key, c5, V6, x.r.body.length - x.r.key, c6, x.r⟩ : SV)]) ∧ Below w1.heap.size w1 w7) := by
          have hOa := HOW6.out.alloc (.cells #[.slice K5 x.r.key c5, .slice V6 (x.r.body.length - x.r.key) c6, .bool x.r.lives] 72)
          have hsza := HBE6.out.size
          refine ⟨?_, ?_, ?_, ?_⟩
          · rw [List.map_append, HT.out.1, List.take_add_one, List.map_append, HX.out]; rfl
          · rw [List.flatMap_append]; simpa [SV.cells] using ho7
          · refine SVs.snoc (W0 := wr) (p := W4.heap.size) (p' := w5.heap.size) ((HSV6.out.below (kp_alloc (Below.refl _ _) _)).keptR hOa hg7) HT.out.2.2.1 (by have := hs4.out; omega) (by have := hs4.out; have := hszw.out; omega) hsz56.out ?_ hkl.out ?_
            · exact (HK6.out.alloc _).kept hg7 (own_neS (HK6.out.alloc _) hOa)
            · exact (HV6.out.alloc _).kept hg7 (own_neS (HV6.out.alloc _) hOa)
          · exact (kp_alloc HBE6.out _).grown hg7 (by simp; omega) (fun g hg => (hOa.blk_lt hg).1)
        clear ho7 hg7 HOW6 HSV6 HBE6 HK6 HV6 y0 y1 y2 y3 hkl
        go_wp2
        go_roundw
        case rel => exact ⟨i + 1, A7, c7, _, by go_num, rfl, by omega, RELN⟩
        case measure => simp [intOf]; omega
    · have i1 : ¬ (i : Int) < (xs.length : Int) := by omega
      have hix : i = xs.length := by omega
      subst hix
      have FIN : Hid (ScanPost w X (.returned (.tuple #[.slice A xs.length ca, .int .i64 (q : Int), .bool wh, .int .i64 0])) wr) := by
        have hsz := BL1.out.size
        refine ⟨A, _, ca, ys, xs.map RV.pair, q, by rw [HWH.out], HSC.out, ?_, HT.out.2.1.lower hsz, HT.out.2.2.1.lower hsz, kp_call BL1.out HT.out.2.2.2⟩
        rw [HT.out.1, List.take_of_length_le (Nat.le_refl _), List.map_map]
        rfl
      clear HT
      go_wp2
      refine bodyPost_ret (results_tmp4 rfl _ _ _) rfl ?_
      exact FIN.out
end
end Go.Proofs.YtkajlbdiofobcaaDoor
