/-
  nat: the document's own: at, add, sub, cmp; Add, Sub, Cmp.
-/
import Derived.Test.YtbplchpbaonadaaDoorOb
namespace Go.Proofs.YtbplchpbaonadaaDoor
open Go.RowKit Go
set_option linter.unusedVariables false
set_option linter.unusedSimpArgs false
set_option maxRecDepth 100000
theorem and_mask (s : Nat) (h : s < 18446744073709551616) : bits .and .u64 (s : Int) 4294967295 = ((s % 4294967296 : Nat) : Int) := by
  have h1 := u64_and_nat s 4294967295 h (by decide)
  rw [show (4294967295 : Nat) = 2 ^ 32 - 1 by decide, Nat.and_two_pow_sub_one_eq_mod] at h1
  exact h1
theorem dat_any (A : Option Addr) (n c i : Nat) (l : List Nat) (w : World) (h : RU w A n l) (hn : n ≤ 1000000) (hi : i ≤ 1000000) :
    Calls Tryd.prog 75 #[.slice A n c, .int .i64 (i : Int)] w fun e w' => e = .returned (.int .u64 ((l.getD i 0 : Nat) : Int)) ∧ w = w' := by
  by_cases hlt : i < n
  · obtain ⟨b, off, rfl, hb, hc⟩ := h.at_ hlt
    have hx32 := h.lim.getD i
    obtain ⟨x, hx⟩ : ∃ x, l.getD i 0 = x := ⟨_, rfl⟩
    rw [hx] at hc hx32 ⊢
    have i1 : (i : Int) < (n : Int) := by omega
    have i2 : (0 : Int) ≤ (i : Int) := by omega
    clear hx h
    go_enter Tryd.func75, Tryd.ntmps75
    go_wp2
    go_ret
    exact ⟨rfl, rfl⟩
  · have hz : l.getD i 0 = 0 := by
      rw [List.getD_eq_getElem?_getD, List.getElem?_eq_none (by rw [h.len]; omega)]; rfl
    rw [hz]
    have i1 : ¬ (i : Int) < (n : Int) := by omega
    clear hz h
    go_enter Tryd.func75, Tryd.ntmps75
    go_wp2
    go_ret
    exact ⟨rfl, rfl⟩
theorem val_snoc (L : List Nat) (r : Nat) : val (L ++ [r]) = val L + r * 4294967296 ^ L.length := by
  rw [val_append, val, val, Nat.mul_zero, Nat.add_zero, Nat.mul_comm]
theorem lim_snoc {L : List Nat} (h : Lim L) {r : Nat} (hr : r < 4294967296) : Lim (L ++ [r]) := h.append (Lim.cons hr Lim.nil)
/-- The limbs that a call owns, appended one after another. -/
def OU (w : World) (base : Nat) (A : Option Addr) (n c : Nat) (L : List Nat) : Prop := OwnR w base 59 1 A n c (L.map v32)
theorem OU.below {w w' : World} {base n c : Nat} {A : Option Addr} {L : List Nat} (h : OU w base A n c L) (hb : Below w.heap.size w w') : OU w' base A n c L := OwnR.below h hb (Nat.le_refl _)
theorem OU.alloc {w : World} {base n c : Nat} {A : Option Addr} {L : List Nat} (h : OU w base A n c L) (o : Obj) : OU (w.alloc o) base A n c L := OwnR.alloc h o
section
variable {w : World} {ops : Array Oper} {rest : List Oper} {o : Oper} {a : Act} {Q : Exit → Act → World → Prop}
/-- One limb more. -/
theorem wpList_app1 (s x : Operand) (ho : o.op = .call { callee := .builtin .append, args := #[s, x], argTypes := #[49, 49] }) (hgd : o.guard = none) (hty : o.type = 49)
    (base : Nat) (A0 : Option Addr) (n0 c0 : Nat) (L : List Nat) (hs : a.eval s = .slice A0 n0 c0) (hown : OU w base A0 n0 c0 L) (g c r : Nat) (hx : a.eval x = .slice (some ⟨g, 0, none⟩) 1 c) (hg : BlkU w g [r]) (hr : r < 4294967296) (hlim : n0 + 1 ≤ 1000000) (hbase : base ≤ w.heap.size)
    (v : World) (hv : Below v.heap.size v w) (hvb : v.heap.size ≤ base)
    (h : ∀ A' c' w', OU w' base A' (n0 + 1) c' (L ++ [r]) → Below v.heap.size v w' → wpList Tryd.prog ops Q rest (a.put o.dst (.slice A' (n0 + 1) c')) w') : wpList Tryd.prog ops Q (o :: rest) a w :=
  wpList_appU s x ho hgd hty base A0 n0 c0 L hs hown (some ⟨g, 0, none⟩) 1 c [r] hx (hg.ru (Lim.cons hr Lim.nil) 0 1 (by simp)) hlim hbase
    fun A' c' w' h1 h2 => h A' c' w' h1 (hv.grown h2 hv.size (fun k hk => Nat.le_trans hvb (OwnR.blk_lt hown hk).1))
end
theorem sub_limb (a p b l o : Nat) (ha : a < 4294967296) (hp : p < 4294967296) (hb : b ≤ 1) (hl : l < 4294967296) (ho : o ≤ 1) (h : l + p + b = a + o * 4294967296) : a + 4294967296 - p - b = l + (1 - o) * 4294967296 ∧ (a + 4294967296 - p - b) % 4294967296 = l ∧ (a + 4294967296 - p - b) / 4294967296 = 1 - o := by
  rcases Nat.lt_or_ge 0 o with h1 | h1
  · have : o = 1 := by omega
    subst this
    omega
  · have : o = 0 := by omega
    subst this
    omega
set_option maxHeartbeats 8000000 in
theorem dsub_any (A B : Option Addr) (n c m d : Nat) (x y : List Nat) (w : World) (hA : RU w A n x) (hB : RU w B m y) (hn : n ≤ 300) (hm : m ≤ n) (hv : val y ≤ val x) :
    Calls Tryd.prog 59 #[.slice A n c, .slice B m d] w (BriefPost w 1000 (val x - val y)) := by
  have HA := Lib.hid hA
  have HB := Lib.hid hB
  have HVV := Lib.hid hv
  clear hA hB hv
  go_enter Tryd.func59, Tryd.ntmps59
  go_wp2
  go_loopw [5, 6, 7] (fun vo vc vi wl => ∃ (i : Nat) (V : Option Addr) (cv bo : Nat) (L : List Nat), vo = .slice V i cv ∧ vc = .int .u64 (bo : Int) ∧ vi = .int .i64 (i : Int) ∧ i ≤ n ∧ bo ≤ 1 ∧ Hid (OU wl w.heap.size V i cv L ∧ L.length = i ∧ Lim L ∧ val L + val (y.take i) = val (x.take i) + bo * 4294967296 ^ i ∧ Below w.heap.size w wl)) (fun _ _ vi _ => n - (intOf vi).toNat)
  case atStart => exact ⟨0, none, 0, 0, [], rfl, rfl, rfl, Nat.zero_le _, by decide, OwnR.nil _ _ _ _, rfl, Lim.nil, by simp [val], Below.refl _ _⟩
  case round =>
    obtain ⟨i, V, cv, bo, L, rfl, rfl, rfl, hi, hbo, HK⟩ := hrel
    by_cases hlt : i < n
    · have i1 : (i : Int) < (n : Int) := by omega
      have i2 : (0 : Int) ≤ (i : Int) := by omega
      have e3 : IntKind.i64.wrap ((i : Int) + 1) = (i : Int) + 1 := IntWalk.i64_in _ (by omega)
      obtain ⟨f1, f2, f3, f4, f5⟩ := HK.out
      have LA := dat_any A n c i x wr (HA.out.below f5) (by omega) (by omega)
      have LB := dat_any B m d i y wr (HB.out.below f5) (by omega) (by omega)
      have ha := HA.out.lim.getD i
      have hb := HB.out.lim.getD i
      have ta := val_take1 x i
      have tb := val_take1 y i
      obtain ⟨a, hae⟩ : ∃ a, x.getD i 0 = a := ⟨_, rfl⟩
      obtain ⟨p, hpe⟩ : ∃ p, y.getD i 0 = p := ⟨_, rfl⟩
      rw [hae] at LA ha ta
      rw [hpe] at LB hb tb
      have LA := Lib.hid LA
      have LB := Lib.hid LB
      obtain ⟨r, ob, hr32, ho1, hlo, _, _⟩ := take_limb a p bo ha hb hbo
      obtain ⟨w1, w2, w3⟩ := sub_limb a p bo r ob ha hb hbo hr32 ho1 hlo
      have hst := sub1_step (val L) _ _ a p bo r ob _ f4 hlo
      obtain ⟨aB, haB⟩ : ∃ aB, a + 4294967296 = aB := ⟨_, rfl⟩
      obtain ⟨ap, hap⟩ : ∃ ap, aB - p = ap := ⟨_, rfl⟩
      obtain ⟨s, hs⟩ : ∃ s, ap - bo = s := ⟨_, rfl⟩
      rw [haB, hap, hs] at w1 w2 w3
      have u1 : IntKind.u64.wrap ((a : Int) + 4294967296) = (aB : Int) := by rw [show (a : Int) + 4294967296 = aB by omega]; exact IntWalk.u64_in _ (by omega)
      have u2 : IntKind.u64.wrap ((aB : Int) - (p : Int)) = (ap : Int) := by rw [show (aB : Int) - p = ap by omega]; exact IntWalk.u64_in _ (by omega)
      have u3 : IntKind.u64.wrap ((ap : Int) - (bo : Int)) = (s : Int) := by rw [show (ap : Int) - bo = s by omega]; exact IntWalk.u64_in _ (by omega)
      have um := and_mask s (by omega)
      rw [w2] at um
      have u4 : (r : Int) % 4294967296 = (r : Int) := by omega
      obtain ⟨o1, ho1e⟩ : ∃ o1, 1 - ob = o1 := ⟨_, rfl⟩
      rw [ho1e] at w3
      have u5 : (s : Int) / 4294967296 = (o1 : Int) := by omega
      have u6 : IntKind.u64.wrap (1 - (o1 : Int)) = (ob : Int) := by rw [show 1 - (o1 : Int) = ob by omega]; exact IntWalk.u64_in _ (by omega)
      have hsl : s < 18446744073709551616 := by omega
      have HV := Lib.hid (show val (L ++ [r]) + val (y.take (i + 1)) = val (x.take (i + 1)) + ob * 4294967296 ^ (i + 1) by
        rw [val_snoc, f2, ta, tb, Nat.pow_succ]; exact hst)
      have OW := Lib.hid f1
      have F5 := Lib.hid f5
      have FL := Lib.hid (show _ ∧ _ from ⟨f2, f3⟩)
      have HEND : Hid (∀ A9 c9 w9, OU w9 w.heap.size A9 (i + 1) c9 (L ++ [r]) → Below w.heap.size w w9 → OU w9 w.heap.size A9 (i + 1) c9 (L ++ [r]) ∧ (L ++ [r]).length = i + 1 ∧ Lim (L ++ [r]) ∧ val (L ++ [r]) + val (y.take (i + 1)) = val (x.take (i + 1)) + ob * 4294967296 ^ (i + 1) ∧ Below w.heap.size w w9) := fun A9 c9 w9 h1 h2 =>
        ⟨h1, by rw [List.length_append, FL.out.1]; rfl, lim_snoc FL.out.2 hr32, HV.out, h2⟩
      have g4 : w.heap.size ≤ (wr.alloc (.cells #[.int .u32 (r : Int)] 59)).heap.size := by
        have := f5.size
        simp
        omega
      have G1 : Hid (OU (wr.alloc (.cells #[.int .u32 (r : Int)] 59)) w.heap.size V i cv L) := OU.alloc OW.out _
      have G2 : Hid (BlkU (wr.alloc (.cells #[.int .u32 (r : Int)] 59)) wr.heap.size [r]) := has_new' _ _ _ rfl
      have G3 : Hid (Below w.heap.size w (wr.alloc (.cells #[.int .u32 (r : Int)] 59))) := kp_alloc F5.out _
      clear f1 f2 f3 f4 f5 ta tb hae hpe hst haB hap hs w1 w2 w3 hlo ho1e OW F5 FL HV HK hbo
      go_wp2_with fail
      refine LA.out.mono ?_
      rintro e w' ⟨rfl, rfl⟩
      clear LA
      go_wp2_with fail
      refine LB.out.mono ?_
      rintro e w' ⟨rfl, rfl⟩
      clear LB
      go_wp2_with (at_builtin; refine wpList_app1 _ _ rfl rfl rfl w.heap.size V i cv L rfl G1.out wr.heap.size 1 r rfl G2.out hr32 (by omega) g4 w G3.out (Nat.le_refl _) ?_)
      intro A9 c9 w9 ho9 hb9
      have HN := Lib.hid (HEND.out A9 c9 w9 ho9 hb9)
      clear ho9 hb9 G1 G2 G3 HEND
      go_wp2
      go_roundw
      case rel => exact ⟨i + 1, A9, c9, ob, L ++ [r], rfl, rfl, by go_num, by omega, ho1, HN.out⟩
      case measure => simp [intOf]; omega
    · have i1 : ¬ (i : Int) < (n : Int) := by omega
      obtain ⟨f1, f2, f3, f4, f5⟩ := HK.out
      rw [take_all (by rw [HB.out.len]; omega), take_all (by rw [HA.out.len]; omega)] at f4
      have hLl := val_lt L f3
      rw [f2] at hLl
      have f4 := borrow_out _ _ _ bo _ hLl HVV.out f4
      have hcv := OwnR.cap f1
      have TR := dtrim_any V i cv L wr (ru_of_own f1 f3) hcv.1 (by have := hcv.2; unfold maxLen at this; omega) (by omega)
      rw [f4] at TR
      have TR := Lib.hid TR
      have F5 := Lib.hid f5
      clear f1 f2 f3 f4 f5 hcv HK hLl
      go_wp2_with fail
      refine TR.out.mono ?_
      rintro e w9 ⟨A9, k9, d9, rfl, r9, l9, m9, p9, hb9⟩
      have HF := Lib.hid (show _ ∧ _ from ⟨r9, kp_call F5.out hb9⟩)
      clear TR r9 hb9 F5
      go_wp2
      go_ret
      exact ⟨A9, k9, d9, rfl, HF.out.1, by omega, m9, p9, HF.out.2⟩
end Go.Proofs.YtbplchpbaonadaaDoor
