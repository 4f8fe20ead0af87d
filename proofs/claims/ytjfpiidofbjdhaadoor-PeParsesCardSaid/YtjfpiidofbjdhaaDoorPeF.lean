/-
  pe: the reader's sections.
-/
import Derived.Test.YtjfpiidofbjdhaaDoorPeB
import Derived.Test.YtjfpiidofbjdhaaDoorPeE
import Derived.OwnWalk
namespace Go.Proofs.YtjfpiidofbjdhaaDoor
open Go.RowKit Go
set_option linter.unusedVariables false
set_option maxRecDepth 100000
/-- What the section table says of its i-th row: where it lies, how long it is. -/
def secAt (bs : List UInt8) (tab i : Nat) : Nat × Nat := (numQ bs (tab + 40 * i + 20) 4, numQ bs (tab + 40 * i + 16) 4)
/-- The sections that have bytes. -/
def secN (bs : List UInt8) (tab k : Nat) : List (Nat × Nat) := ((List.range k).map (secAt bs tab)).filter fun s => decide (0 < s.2)
def secIn (bs : List UInt8) (tab k : Nat) : Bool := (List.range k).all fun i => inQ bs (tab + 40 * i + 16) 4 && inQ bs (tab + 40 * i + 20) 4
theorem secN_yes (bs : List UInt8) (tab k : Nat) (h : 0 < (secAt bs tab k).2) : secN bs tab (k + 1) = secN bs tab k ++ [secAt bs tab k] := by
  unfold secN
  rw [List.range_succ, List.map_append, List.filter_append]
  simp [h]
theorem secN_no (bs : List UInt8) (tab k : Nat) (h : (secAt bs tab k).2 = 0) : secN bs tab (k + 1) = secN bs tab k := by
  unfold secN
  rw [List.range_succ, List.map_append, List.filter_append]
  simp [h]
theorem secIn_succ (bs : List UInt8) (tab k : Nat) : secIn bs tab (k + 1) = (secIn bs tab k && (inQ bs (tab + 40 * k + 16) 4 && inQ bs (tab + 40 * k + 20) 4)) := by
  unfold secIn
  rw [List.range_succ, List.all_append]
  simp
theorem secN_len (bs : List UInt8) (tab k : Nat) : (secN bs tab k).length ≤ k := by
  unfold secN
  refine Nat.le_trans (List.length_filter_le _ _) ?_
  simp
theorem secN_lt (bs : List UInt8) (tab k : Nat) : ∀ x ∈ secN bs tab k, x.1 < 4294967296 ∧ x.2 < 4294967296 ∧ 0 < x.2 := by
  intro x hx
  unfold secN at hx
  rw [List.mem_filter] at hx
  obtain ⟨h1, h2⟩ := hx
  obtain ⟨i, _, rfl⟩ := List.mem_map.1 h1
  exact ⟨numQ_lt4 _ _, numQ_lt4 _ _, of_decide_eq_true h2⟩
/-- Whether sections lie one behind the other from e on, and where the last one ends. -/
def chainS (l : List (Nat × Nat)) (e : Nat) : Bool × Nat := l.foldl (fun s x => (s.1 && decide (x.1 = s.2), x.1 + x.2)) (true, e)
theorem chainS_snoc (l : List (Nat × Nat)) (e : Nat) (x : Nat × Nat) : chainS (l ++ [x]) e = ((chainS l e).1 && decide (x.1 = (chainS l e).2), x.1 + x.2) := by
  unfold chainS
  rw [List.foldl_append]
  rfl
/-- The reader goes on, beside a row of sections that the call owns. -/
structure SS (w0 w : World) (g : Nat) (A : Option Addr) (n c : Nat) (R : Bool) (V : Option Addr) (m cV : Nat) (vs : List Value) (W : World) : Prop where
  r : RdS w0 g A n c R W
  gr : w.grownBy W (some g)
  o : OwnR W w.heap.size 43 2 V m cV vs
section
variable {w0 w : World} {g : Nat} {A : Option Addr} {n c : Nat} {R R' : Bool} {V : Option Addr} {m cV : Nat} {vs : List Value} {W W' : World}
theorem SS.step (h : SS w0 w g A n c R V m cV vs W) (hgw : g < w.heap.size) (r : RdS w0 g A n c R' W') (hg : W.grownBy W' (some g)) : SS w0 w g A n c R' V m cV vs W' :=
  ⟨r, grown_tr h.gr hg, h.o.kept hg (.inr (fun e => by have := (h.o.blk_lt e).1; omega))⟩
theorem SS.new (h : SS w0 w g A n c R V m cV vs W) (hb : Below W.heap.size W W') : SS w0 w g A n c R V m cV vs W' :=
  ⟨h.r.keep hb, gr_new h.gr (hb.mono h.gr.size), h.o.below hb (Nat.le_refl _)⟩
theorem SS.alloc (h : SS w0 w g A n c R V m cV vs W) (o : Obj) : SS w0 w g A n c R V m cV vs (W.alloc o) := h.new ((Below.refl _ _).alloc (Nat.le_refl _) o)
theorem SS.app (h : SS w0 w g A n c R V m cV vs W) (hgw : g < w.heap.size) {V' : Option Addr} {m' c' : Nat} {vs' : List Value} (ho : OwnR W' w.heap.size 43 2 V' m' c' vs') (hg : W.grownBy W' (blk V)) : SS w0 w g A n c R V' m' c' vs' W' :=
  ⟨⟨(hg.block g (block_lt h.r.h) (fun e => by have := (h.o.blk_lt e.symm).1; omega)).trans h.r.h, h.r.b.grown hg h.r.b.size (fun k hk => by have := (h.o.blk_lt hk).1; have := h.r.g; omega), h.r.g⟩,
    ⟨hg.os.trans h.gr.os, hg.tape.trans h.gr.tape, hg.output.trans h.gr.output, Nat.le_trans h.gr.size hg.size, fun i hi hne => (hg.block i (Nat.lt_of_lt_of_le hi h.gr.size) (fun e => by have := (h.o.blk_lt e.symm).1; omega)).trans (h.gr.block i hi hne)⟩, ho⟩
end
/-- What sections answers. -/
def SecPost (w0 w : World) (g : Nat) (A : Option Addr) (n c : Nat) (R : Bool) (bs : List UInt8) (tab cnt hdr : Nat) (e : Ending) (w' : World) : Prop :=
  ∃ (V : Option Addr) (m cV : Nat) (L' : List (Nat × Nat)), e = .returned (.tuple #[.slice V m cV, .int .i64 ((chainS L' hdr).2 : Nat)]) ∧ m = (secN bs tab cnt).length ∧ L'.Perm (secN bs tab cnt) ∧ L'.Pairwise (fun a b => a.1 ≤ b.1) ∧
    SS w0 w g A n c (R && secIn bs tab cnt && (chainS L' hdr).1 && decide ((chainS L' hdr).2 ≤ n)) V m cV ((secN bs tab cnt).flatMap secCells) w'
set_option maxHeartbeats 4000000 in
theorem sections_any {w0 : World} {g : Nat} {A : Option Addr} {n c : Nat} {bs : List UInt8} {R : Bool} {w : World} (hI : Img w0 A n c bs) (h : RdS w0 g A n c R w) (tab cnt hdr : Nat) (htab : tab ≤ 8589934592) (hcnt : cnt ≤ 96) (hhdr : hdr ≤ 8589934592) :
    Calls Tryd.prog 27 #[.pointer (some ⟨g, 0, none⟩), .int .i64 (tab : Nat), .int .i64 (cnt : Nat), .int .i64 (hdr : Nat)] w (SecPost w0 w g A n c R bs tab cnt hdr) := by
  have hgw := block_lt h.h
  have H0 : Hid (SS w0 w g A n c R none 0 0 [] w) := ⟨h, World.grownBy.refl _ _, OwnR.nil _ _ _ _⟩
  clear h
  go_enter Tryd.func27, Tryd.ntmps27
  go_wp2_with fail
  go_loopw [8, 18] (fun vl vi wl => ∃ (i m cV : Nat) (V : Option Addr), vl = .slice V m cV ∧ vi = .int .i64 (i : Int) ∧ i ≤ cnt ∧ Hid (m = (secN bs tab i).length) ∧ Hid (SS w0 w g A n c (R && secIn bs tab i) V m cV ((secN bs tab i).flatMap secCells) wl)) (fun _ vi _ => cnt - (intOf vi).toNat)
  case atStart => exact ⟨0, 0, 0, none, rfl, rfl, Nat.zero_le _, rfl, Lib.hid (by have := H0.out; simpa [secIn, secN] using this)⟩
  case round =>
    obtain ⟨i, m, cV, V, rfl, rfl, hi, HM, HK⟩ := hrel
    by_cases hlt : i < cnt
    · have i1 : decide ((i : Int) < (cnt : Int)) = true := by simp; omega
      have e3 : IntKind.i64.wrap ((i : Int) + 1) = (i : Int) + 1 := IntWalk.i64_in _ (by omega)
      obtain ⟨sz, hsz⟩ : ∃ x, numQ bs (tab + 40 * i + 16) 4 = x := ⟨_, rfl⟩
      obtain ⟨of, hof⟩ : ∃ x, numQ bs (tab + 40 * i + 20) 4 = x := ⟨_, rfl⟩
      have hat : secAt bs tab i = (of, sz) := by unfold secAt; rw [hsz, hof]
      have l1 : sz < 4294967296 := by rw [← hsz]; exact numQ_lt4 _ _
      have l2 : of < 4294967296 := by rw [← hof]; exact numQ_lt4 _ _
      have hml : m ≤ 96 := by have := HM.out; have := secN_len bs tab i; omega
      have C1 := Lib.hid (number_any hI ((tab : Int) + 40 * (i : Int) + 16) (tab + 40 * i + 16) 4 (by omega) (by omega) (by decide) 4 rfl HK.out.r)
      rw [hsz] at C1
      go_wp2_with fail
      (with_reducible refine C1.out.mono ?_)
      clear C1
      rintro e W1 ⟨rfl, h1, h2⟩
      have HK1 := Lib.hid (HK.out.step hgw h1 h2)
      clear h1 h2 HK
      have C2 := Lib.hid (number_any hI ((tab : Int) + 40 * (i : Int) + 20) (tab + 40 * i + 20) 4 (by omega) (by omega) (by decide) 4 rfl HK1.out.r)
      rw [hof] at C2
      go_wp2_with fail
      (with_reducible refine C2.out.mono ?_)
      clear C2
      rintro e W2 ⟨rfl, h1, h2⟩
      have hk2 := HK1.out.step hgw h1 h2
      rw [show (R && secIn bs tab i && inQ bs (tab + 40 * i + 16) 4 && inQ bs (tab + 40 * i + 20) 4) = (R && secIn bs tab (i + 1)) by rw [secIn_succ]; simp only [Bool.and_assoc]] at hk2
      have HK2 := Lib.hid hk2
      clear h1 h2 HK1 hk2 hsz hof
      by_cases h0 : 0 < sz
      · have t1 : decide ((0 : Int) < (sz : Int)) = true := by simp; omega
        have e4 : IntKind.u32.wrap (of : Int) = (of : Int) := IntWalk.u32_in _ (by omega)
        have e5 : IntKind.u32.wrap (sz : Int) = (sz : Int) := IntWalk.u32_in _ (by omega)
        have hN := Lib.hid (secN_yes bs tab i (by rw [hat]; exact h0))
        have hsz2 := HK2.out.gr.size
        go_wp2_with (at_builtin; refine wpList_appL sec_row _ _ rfl rfl rfl w.heap.size V m cV _ rfl (HK2.out.alloc _).o _ 1 1 #[.int .u32 (of : Nat), .int .u32 (sz : Nat)] (0, 0) rfl (has_new _ _) rfl (by intro u hu; simp at hu; rcases hu with rfl | rfl <;> rfl) (by unfold maxLen; omega) (by omega) (by simp; omega) ?_)
        intro V' c' w4 ho4 hg4
        have HK4 := Lib.hid ((HK2.out.alloc _).app hgw ho4 hg4)
        clear ho4 hg4 HK2
        go_wp2_with fail
        go_roundw
        case rel => exact ⟨i + 1, m + 1, c', V', by go_num, by go_num, by omega, by have := HM.out; rw [hN.out, List.length_append]; unfold Hid; simp; omega, Lib.hid (by have := HK4.out; rw [hN.out, hat]; simpa [secCells] using this)⟩
        case measure => simp [intOf]; omega
      · have t1 : decide ((0 : Int) < (sz : Int)) = false := by simp; omega
        have hN := Lib.hid (secN_no bs tab i (by rw [hat]; show sz = 0; omega))
        go_wp2_with fail
        go_roundw
        case rel => exact ⟨i + 1, m, cV, V, by go_num, by go_num, by omega, by have := HM.out; rw [hN.out]; exact this, by have := HK2.out; rw [hN.out]; exact this⟩
        case measure => simp [intOf]; omega
    · have i1 : decide ((i : Int) < (cnt : Int)) = false := by simp; omega
      obtain rfl : i = cnt := by omega
      obtain ⟨L, hL⟩ : ∃ L, secN bs tab i = L := ⟨_, rfl⟩
      obtain ⟨r1, hr1⟩ : ∃ r, (R && secIn bs tab i) = r := ⟨_, rfl⟩
      have HL := Lib.hid (And.intro hL hr1)
      have hLB := secN_lt bs tab i
      have hLl := secN_len bs tab i
      rw [hL] at HM HK hLB hLl
      rw [hr1] at HK
      clear hL hr1 i1 hi
      have hml : m ≤ 96 := by have := HM.out; omega
      have HB := Lib.hid hLB
      clear hLB hlt hLl
      go_wp2_with fail
      refine (values_any V m cV wr).mono ?_
      rintro e w1 ⟨rfl, rfl⟩
      have hk1 := HK.out.alloc (.cells #[.slice V m cV] 25)
      have C := Lib.hid (sorted_any wr.heap.size V m cV L (wr.alloc (.cells #[.slice V m cV] 25)) hk1.o.reads HM.out.symm (by omega) (has_new _ _))
      have HK1 := Lib.hid hk1
      clear hk1 HK
      go_wp2_with fail
      (with_reducible refine C.out.mono ?_)
      clear C
      rintro e w2 ⟨A2, c2, L', rfl, hp, hs, ho, hb⟩
      have HK2 := Lib.hid (HK1.out.new hb)
      have hgw2 : w.heap.size ≤ wr.heap.size + 1 := by have := HK1.out.gr.size; simp at this; exact this
      have ho' : OwnR w2 (wr.heap.size + 1) 43 2 A2 L.length c2 (L'.flatMap secCells) := by simpa using ho
      have HO2 := Lib.hid ho'
      have HP := Lib.hid hp
      have HS := Lib.hid hs
      have hm := HM.out
      have hll : L'.length = m := by rw [hp.length_eq, hm]
      have HB' : Hid (∀ x ∈ L', x.1 < 4294967296 ∧ x.2 < 4294967296 ∧ 0 < x.2) := fun x hx => HB.out x (hp.mem_iff.1 hx)
      rw [← hm] at HO2
      obtain ⟨D, hD⟩ : ∃ D, wr.heap.size + 1 = D := ⟨_, rfl⟩
      rw [hD] at HO2 hgw2
      clear hD
      clear ho ho' hp hs hb HK1 HB
      rw [← hm]
      clear hm
      go_wp2_with fail
      go_loopw [9, 50] (fun ve vk wl => ∃ (k e : Nat), ve = .int .i64 (e : Int) ∧ vk = .int .i64 (k : Int) ∧ k ≤ m ∧ e ≤ 8589934592 ∧ Hid (e = (chainS (L'.take k) hdr).2) ∧ Hid (SS w0 w g A n c (r1 && (chainS (L'.take k) hdr).1) V m cV (L.flatMap secCells) wl) ∧ Hid (OwnR wl D 43 2 A2 m c2 (L'.flatMap secCells))) (fun _ vk _ => m - (intOf vk).toNat)
      case atStart => exact ⟨0, hdr, rfl, rfl, Nat.zero_le _, hhdr, rfl, Lib.hid (by have := HK2.out; simpa [chainS] using this), HO2⟩
      case round =>
        obtain ⟨k, e, rfl, rfl, hk, hel, HE, HK, HO⟩ := hrel
        by_cases hlt : k < m
        · have i1 : decide ((k : Int) < (m : Int)) = true := by simp; omega
          have e3 : IntKind.i64.wrap ((k : Int) + 1) = (k : Int) + 1 := IntWalk.i64_in _ (by omega)
          obtain ⟨x, hx⟩ : ∃ x, L'[k]? = some x := ⟨_, List.getElem?_eq_getElem (by omega)⟩
          obtain ⟨s0, s1⟩ := sec_at L' k x hx
          obtain ⟨b, off, rfl, hb, k0⟩ := HO.out.reads.at_ s0
          obtain ⟨b', off', e9, hb', k1⟩ := HO.out.reads.at_ s1
          cases e9
          have k1' : wr.cell? ⟨b, off + k * 2 + 1, none⟩ = some (.int .u32 (x.2 : Nat)) := k1
          obtain ⟨lx1, lx2, lx3⟩ := HB'.out x (List.mem_of_getElem? hx)
          have hsn : L'.take (k + 1) = L'.take k ++ [x] := by rw [List.take_add_one, hx]; rfl
          obtain ⟨x1, x2⟩ := x
          dsimp only at k0 k1' lx1 lx2 lx3
          have HN := Lib.hid (And.intro hsn (chainS_snoc (L'.take k) hdr (x1, x2)))
          have hbs : b < wr.heap.size := hb
          clear k1 s0 s1 hb' hx hsn
          go_wp2_with fail
          (with_reducible refine (need_any _ (HK.out.alloc _).r).mono ?_)
          rintro e9 W3 ⟨rfl, h1, h2⟩
          have hgr := HK.out.r.h
          have hgl := block_lt hgr
          have k3 : W3.heap[wr.heap.size]? = some (.cells #[.int .u32 (x1 : Nat), .int .u32 (x2 : Nat)] 43) := (h2.block _ (by simp) (fun e => by injection e with e; omega)).trans (has_new _ _)
          have hk3 := (HK.out.alloc _).step hgw h1 h2
          rw [show (r1 && (chainS (L'.take k) hdr).1 && ((x1 : Int) == (e : Int))) = (r1 && (chainS (L'.take (k + 1)) hdr).1) by
            rw [HN.out.1, HN.out.2, Bool.and_assoc]
            congr 2
            rw [← HE.out]
            by_cases h : x1 = e <;> simp [h] <;> omega] at hk3
          have HK3 := Lib.hid hk3
          have HO3 := Lib.hid ((HO.out.alloc (.cells #[.int .u32 (x1 : Nat), .int .u32 (x2 : Nat)] 43)).kept h2 (.inr (fun e => by have := (HO.out.blk_lt e).1; omega)))
          obtain ⟨d0, d1⟩ := cells_2 k3
          clear h1 h2 hk3 HK HO k0 k1' hgr hgl
          go_wp2_with fail
          go_roundw
          case rel => exact ⟨k + 1, x1 + x2, by go_num, by go_num, by omega, by omega, by rw [HN.out.1, HN.out.2]; rfl, HK3, HO3⟩
          case measure => simp [intOf]; omega
        · have i1 : decide ((k : Int) < (m : Int)) = false := by simp; omega
          obtain rfl : k = m := by omega
          have htk : L'.take k = L' := by rw [← hll, List.take_length]
          rw [htk] at HE HK
          obtain ⟨c0, c1⟩ := cells_2 HK.out.r.h
          clear htk i1 hlt hk
          go_wp2_with fail
          (with_reducible refine (need_any _ HK.out.r).mono ?_)
          rintro e9 W3 ⟨rfl, h1, h2⟩
          have hk3 := HK.out.step hgw h1 h2
          have HK3 := Lib.hid hk3
          clear h1 h2 hk3 HK HO c0 c1
          go_wp2_with fail
          go_ret2
          unfold SecPost
          rw [HL.out.1, HL.out.2]
          refine ⟨V, k, cV, L', by rw [← HE.out]; rfl, HM.out, HP.out, HS.out, ?_⟩
          rw [← HE.out]
          exact HK3.out
end Go.Proofs.YtjfpiidofbjdhaaDoor
