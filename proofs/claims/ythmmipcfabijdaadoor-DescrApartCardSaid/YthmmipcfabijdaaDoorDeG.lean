/-
  descr: what is signed.
-/
import Derived.Test.YthmmipcfabijdaaDoorDeF
import Derived.Deep.RegionHeld3
import Derived.Deep.DrawnRows
import Derived.Test.YthmmipcfabijdaaDoorOctR2
namespace Go.Proofs.YthmmipcfabijdaaDoor
open Go.RowKit Go
set_option linter.unusedVariables false
set_option maxRecDepth 100000
attribute [local go_sem ↓] Go.wp_at_zero Go.wp_at_succ
theorem step_app {ops : Array Oper} {o : Oper} {a : Act} {w : World} {K : Act → World → Prop} {Q : Exit → Act → World → Prop} {E : Prop} (hgd : o.guard = none) (s x : Operand)
    (ho : o.op = .call { callee := .builtin .append, args := #[s, x], argTypes := #[22, 22] }) (hty : o.type = 22)
    (base : Nat) (A0 : Option Addr) (n0 c0 : Nat) (bs : List UInt8) (hs : a.eval s = .slice A0 n0 c0) (hown : OwnB w base A0 n0 c0 bs)
    (A : Option Addr) (m c : Nat) (news : List UInt8) (hx : a.eval x = .slice A m c) (hr : RB w A m news) (hlim : n0 + m ≤ 140737488355328) (hbase : base ≤ w.heap.size)
    (h : ∀ A' c' w', OwnB w' base A' (n0 + m) c' (bs ++ news) → w.grownBy w' (blk A0) → K (a.put o.dst (.slice A' (n0 + m) c')) w') :
    if Region.wanted o (yielded ops a.tmps) = true then Oper.wp Tryd.prog o a w K Q else E := by
  have hw : Region.wanted o (yielded ops a.tmps) = true := by simp [Region.wanted, hgd]
  rw [if_pos hw]
  have hm := hr.1
  subst hm
  obtain ⟨A', c', w', hrun, h2, h3⟩ := run_app w base A0 n0 c0 bs hown w.heap.size A c news hr.2 (by rw [hown.len]; exact hlim) hbase
  unfold Oper.wp execOp
  simp only [ho, resolve, invoke, builtin, Sem.run_bind, Sem.run_pure, Result.andThen_ok, List.map_toArray, List.map_cons, List.map_nil, hs, hx, hty, hrun]
  exact h A' c' w' h2 h3
/-- The world has grown since w, and the two blocks are as they were. -/
structure K2 (w : World) (g : Nat) (o1 o2 : Obj) (W : World) : Prop where
  b : Below w.heap.size w W
  h1 : W.heap[g]? = some o1
  h2 : W.heap[g + 1]? = some o2
theorem K2.drew {w : World} {g : Nat} {o1 o2 : Obj} {W : World} (h : K2 w g o1 o2 W) : K2 w g o1 o2 W.drew := ⟨h.b.drew, h.h1, h.h2⟩
theorem K2.call {w : World} {g : Nat} {o1 o2 : Obj} {W W' : World} (h : K2 w g o1 o2 W) (hb : Below W.heap.size W W') : K2 w g o1 o2 W' := ⟨h.b.trans (hb.mono h.b.size), (hb.block _ (heap_lt h.h1)).trans h.h1, (hb.block _ (heap_lt h.h2)).trans h.h2⟩
theorem K2.grow {w : World} {g : Nat} {o1 o2 : Obj} {W W' : World} {row : Option Nat} (h : K2 w g o1 o2 W) (hg : W.grownBy W' row) (hr : ∀ k, row = some k → w.heap.size ≤ k ∧ g + 1 < k) : K2 w g o1 o2 W' :=
  ⟨h.b.grown hg h.b.size (fun k e => (hr k e).1), (hg.block _ (heap_lt h.h1) (fun e => by have := (hr g e.symm).2; omega)).trans h.h1, (hg.block _ (heap_lt h.h2) (fun e => by have := (hr (g + 1) e.symm).2; omega)).trans h.h2⟩
theorem rb_block {w : World} {g : Nat} {cs : Array Value} {t : TypeId} {fr : Nat × Nat} {bs : List UInt8} {n : Nat} (hk : w.heap[g]? = some (.cells cs t fr)) (h : cs.toList = bs.map bv) (hn : bs.length = n) : RB w (some ⟨g, 0, none⟩) n bs := by
  refine ⟨hn, fun hne => ⟨g, 0, rfl, heap_lt hk, fun k hk2 => ?_⟩⟩
  have h9 := Lib.cell_of_heap hk (0 + k)
  rw [h9]
  have h8 : cs[0 + k]? = some (bv bs[k]) := by
    rw [← Array.getElem?_toList, h, List.getElem?_map, Nat.zero_add, List.getElem?_eq_getElem hk2]
    rfl
  rw [h8]
def gV (gb : List UInt8) : Value := .agg (gb.map bv).toArray
set_option maxHeartbeats 6400000 in
theorem dtext_any (s : ByteArray) (gb : List UInt8) (at_ : Nat) (t : Tm) (D : Option Addr) (dn dc : Nat) (da : List UInt8) (w : World) (hT : Sizes w) (hs : s.size ≤ 1000000) (hg : gb.length = 16) (hat : at_ < 4294967296) (hy : t.y < 65536) (hD : RB w D dn da) (hdn : dn ≤ 1000000) :
    Calls Tryd.prog 14 #[.string s, gV gb, .int .u32 (at_ : Int), tmV t, .slice D dn dc] w (Fresh w (textL s.data.toList gb at_ t da)) := by
  have WD := Lib.hid (fun W => wide_any s W (by omega))
  have WR := Lib.hid (fun W (h : Sizes W) => write_any t W h hy)
  have P2 := Lib.hid (fun A n c bs W hR hs (hn : n ≤ 1000000000) => put_ok A n c bs at_ 4 W hR hs hn rfl (by omega))
  have hwl : (wideS s.data.toList).length ≤ 2000000 := by
    unfold wideS
    split
    · rw [widen_len]; simp; omega
    · simp
  have HT16 := Lib.hid (tmB_len t)
  have H4 := Lib.hid (leB_len at_ 4)
  have HG := Lib.hid hg
  unfold textL
  generalize wideS s.data.toList = wl at *
  generalize leB at_ 4 = lb at *
  generalize tmB t = tb at *
  have HWL := Lib.hid hwl
  obtain ⟨y, mo, dd, hh, mi, ss⟩ := t
  simp only [tmV, Tm.cells, gV] at *
  have hcs : Hid ((gb.map bv).toArray.toList = gb.map bv) := by show _ = _; simp
  have hsz : ((gb.map bv).toArray).size = 16 := by simp [hg]
  generalize (gb.map bv).toArray = gc at *
  clear hg hwl
  go_enter Tryd.func14, Tryd.ntmps14
  go_wp2
  refine wp_named fun W1 hW1 => ?_
  have K1 : K2 w w.heap.size (.cells gc 27) (.cells #[.int .u16 (y : Int), .int .u8 (mo.toNat : Int), .int .u8 (dd.toNat : Int), .int .u8 (hh.toNat : Int), .int .u8 (mi.toNat : Int), .int .u8 (ss.toNat : Int)] 25) W1 := by
    subst hW1
    exact ⟨((Below.refl _ _).alloc (Nat.le_refl _) _).alloc (by simp) _, heap_alloc2_old w _ _, heap_alloc2_new w _ _⟩
  clear hW1
  have hz1 := heap_lt K1.h2
  have KK1 := Lib.hid K1
  go_region_held3 (fun W => K2 w w.heap.size (.cells gc 27) (.cells #[.int .u16 (y : Int), .int .u8 (mo.toNat : Int), .int .u8 (dd.toNat : Int), .int .u8 (hh.toNat : Int), .int .u8 (mi.toNat : Int), .int .u8 (ss.toNat : Int)] 25) W)
    ((repeat (with_reducible (first | assumption | refine K2.drew ?_))))
    (first
      | (go_at_call 30; (with_reducible refine (WD.out _).mono ?_); (rintro e W3 ⟨A3, n3, c3, rfl, hown3, hb3⟩; have K3 := K2.call (by assumption) hb3; have O3 := Lib.hid hown3; have hz3 := hb3.size; have KK3 := Lib.hid K3; clear hown3 hb3))
      | ((refine step_app rfl _ _ (by rfl) (by rfl) _ _ _ _ _ (by rfl) (O3.out.drew) _ 16 _ gb (by rfl) ((rb_block KK3.out.h1 hcs.out HG.out).drew) (by have h1 := O3.out.len; have h2 := HWL.out; omega) (by first | exact hz3 | (simp; omega)) ?_; intro A4 c4 w4 hown4 hg4; have K4 : K2 w w.heap.size (.cells gc 27) (.cells #[.int .u16 (y : Int), .int .u8 (mo.toNat : Int), .int .u8 (dd.toNat : Int), .int .u8 (hh.toNat : Int), .int .u8 (mi.toNat : Int), .int .u8 (ss.toNat : Int)] 25) w4 := (by first | exact K2.grow KK3.out hg4 (fun k e => by have h1 := (O3.out.blk_lt e).1; have h2 : W1.heap.size ≤ k := h1; have h3 := KK1.out.b.size; exact ⟨by omega, by omega⟩) | exact K2.grow KK3.out.drew hg4 (fun k e => by have h1 := (O3.out.blk_lt e).1; have h2 : W1.heap.size ≤ k := h1; have h3 := KK1.out.b.size; exact ⟨by omega, by omega⟩)); have O4 := Lib.hid hown4; have KK4 := Lib.hid K4; have hz4 : W3.heap.size ≤ w4.heap.size := hg4.size; clear hown4 hg4)))
  have hbw4 := KK4.out.b
  have hs4 := hbw4.size
  have hn3 : n3 ≤ 2000000 := by have h1 := O3.out.len; have h2 := HWL.out; omega
  have k4 := KK4.out.h2
  clear KK3 KK1 K1 O3
  go_wp2_with fail
  refine (P2.out _ _ _ _ _ O4.out.rb (hT.below' hbw4) (by omega)).mono ?_
  rintro e w5 ⟨A5, n5, c5, rfl, hown5, hb5⟩
  have hn5 : n5 = n3 + 16 + 4 := by have h1 := hown5.len; have h2 := O4.out.len; have h3 := H4.out; rw [List.length_append, h2, h3] at h1; omega
  have hn5' : n5 ≤ 3000000 := by omega
  clear hn5
  have hbw5 := hbw4.trans (hb5.mono hs4)
  have hs5 := hbw5.size
  have k5 := (hb5.block _ (heap_lt k4)).trans k4
  have hl5 := heap_lt k5
  have hz5 := hb5.size
  clear hb5 k4 hbw4
  obtain ⟨a0, a1, a2, a3, a4, a5⟩ := cells6 k5
  go_wp2_with fail
  refine (WR.out w5 (hT.below' hbw5)).mono ?_
  rintro e w6 ⟨A6, n6, c6, rfl, hown6, hb6⟩
  obtain rfl : 16 = n6 := HT16.out.symm.trans hown6.len
  have hbw6 := hbw5.trans (hb6.mono hs5)
  have hs6 := hbw6.size
  have hown56 := hown5.below hb6 (Nat.le_refl _)
  have hz6 := hb6.size
  clear hb6 k5 hbw5 hown5 a0 a1 a2 a3 a4 a5
  go_wp2_with (at_builtin; refine wpList_apn _ _ rfl rfl rfl w4.heap.size A5 n5 c5 _ rfl hown56 A6 16 c6 _ rfl hown6.rb (by omega) (by omega) ?_)
  intro A7 c7 w7 hown7 hg7
  have hbw7 := hbw6.grown hg7 hs6 (fun g hg => by have := (hown56.blk_lt hg).1; omega)
  have hz7 := hg7.size
  have hs7 := hbw7.size
  clear hg7 hbw6 hown56 hown6
  have hD7 : RB w7 D dn da := hD.below hbw7
  go_wp2_with (at_builtin; refine wpList_apn _ _ rfl rfl rfl w4.heap.size A7 _ c7 _ rfl hown7 D dn dc _ rfl hD7 (by omega) (by omega) ?_)
  intro A8 c8 w8 hown8 hg8
  have hbw8 := hbw7.grown hg8 hs7 (fun g hg => by have := (hown7.blk_lt hg).1; omega)
  clear hg8 hbw7 hown7 hD7
  go_wp2
  go_ret
  exact ⟨_, _, _, rfl, by simpa using hown8.lower hs4, hbw8⟩
/-- The statements' own 'same'. -/
theorem same_any (A1 A2 : Option Addr) (n1 n2 c1 c2 : Nat) (xs ys : List UInt8) (w : World) (h1 : RB w A1 n1 xs) (h2 : RB w A2 n2 ys) :
    Calls Tryd.prog 11 #[.slice A1 n1 c1, .slice A2 n2 c2] w fun e w' => e = .returned (.bool (xs == ys)) ∧ w = w' := by
  have S1 : (convert 22 9 (.slice A1 n1 c1)).run Tryd.prog w = .ok (.string (strOf xs)) w := by
    have h9 := run_strOf w w.heap.size A1 xs c1 h1.2
    rw [h1.1] at h9
    exact h9
  have S2 : (convert 22 9 (.slice A2 n2 c2)).run Tryd.prog w = .ok (.string (strOf ys)) w := by
    have h9 := run_strOf w w.heap.size A2 ys c2 h2.2
    rw [h2.1] at h9
    exact h9
  have e1 := strOf_toList xs
  have e2 := strOf_toList ys
  by_cases he : xs = ys
  · subst he
    generalize strOf xs = sx at *
    rw [show (xs == xs) = true by simp]
    clear h1 h2 e1 e2
    go_enter Tryd.func11, Tryd.ntmps11
    go_wp2
    go_ret
    exact ⟨by simp, rfl⟩
  · have hne : ¬ (strOf xs).toList = (strOf ys).toList := by rw [e1, e2]; exact he
    have hbe : (xs == ys) = false := beq_eq_false_iff_ne.2 he
    rw [hbe]
    clear h1 h2 e1 e2 he hbe
    generalize strOf xs = sx at *
    generalize strOf ys = sy at *
    have hne2 : (sx.toList == sy.toList) = false := beq_eq_false_iff_ne.2 hne
    go_enter Tryd.func11, Tryd.ntmps11
    go_wp2
    go_ret
    exact ⟨by simp, rfl⟩
theorem own_nil (w : World) : OwnB (w.alloc (.cells #[] 5)) w.heap.size (some ⟨w.heap.size, 0, none⟩) 0 0 [] :=
  ⟨rfl, .inr ⟨w.heap.size, 0, #[], rfl, Nat.le_refl _, heap_alloc_new w _, Nat.le_refl _, Nat.zero_le _, rfl, rfl⟩⟩
/-- The statements' own 'twin'. -/
theorem twin_any (A : Option Addr) (n c : Nat) (bs : List UInt8) (w : World) (h : RB w A n bs) (hn : n ≤ 1000000000) :
    Calls Tryd.prog 8 #[.slice A n c] w (Fresh w bs) := by
  go_enter Tryd.func8, Tryd.ntmps8
  go_wp2_with (at_builtin; refine wpList_apn _ _ rfl rfl rfl w.heap.size (some ⟨w.heap.size, 0, none⟩) 0 0 [] rfl (own_nil w) A n c _ rfl (h.alloc _) (by omega) (by simp) ?_)
  intro A' c' w' hown hg
  go_wp2
  go_ret
  exact ⟨A', _, c', rfl, by simpa using hown, ((Below.refl _ _).alloc (Nat.le_refl _) _).grown hg (by simp) (by intro k hk; cases hk; exact Nat.le_refl _)⟩
end Go.Proofs.YthmmipcfabijdaaDoor
