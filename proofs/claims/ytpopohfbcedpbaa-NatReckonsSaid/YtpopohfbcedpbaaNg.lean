/-
  nat: Add.
-/
import Derived.Test.YtpopohfbcedpbaaNf
import Derived.Deep.QuietTactic
import Derived.BigQuiet
import Derived.BigRegion
namespace Go.Proofs.Ytpopohfbcedpbaa
open Go.RowKit Go
set_option linter.unusedVariables false
set_option linter.unusedSimpArgs false
set_option maxRecDepth 100000
/-- A number of the call's own and an error. -/
def NumR (w : World) (r : List Nat × Nat) (e : Ending) (w' : World) : Prop :=
  ∃ A n c, e = .returned (.tuple #[.slice A n c, .int .i64 (r.2 : Int)]) ∧ NumS w' w.heap.size A n r.1 ∧ n ≤ c ∧ c ≤ 1000000 ∧ n ≤ 256 ∧ Below w.heap.size w w'
def fitQ (v : Nat) : List Nat × Nat := if v < 4294967296 ^ 256 then (num v, 0) else ([], 10)
def addQ (x y : List Nat) : List Nat × Nat := if rightB x && rightB y then fitQ (val x + val y) else ([], 1)
theorem NumR.of_fit {v : Nat} {w w1 w' : World} {e : Ending} (h : FitPost v w1 w.heap.size e w') (hb : Below w.heap.size w w') : NumR w (fitQ v) e w' := by
  unfold fitQ
  rcases h with ⟨h1, g, L, he, hg, hB, hL, ht, hn⟩ | ⟨h1, he⟩
  · rw [if_pos h1]
    have hm : (num v).length ≤ L.length := by
      have := congrArg List.length ht
      rw [List.length_take] at this
      omega
    exact ⟨_, _, _, he, NumS.of hB hg hL hm ht, Nat.le_refl _, by omega, hn, hb⟩
  · rw [if_neg h1]
    exact ⟨_, _, _, he, NumS.nil _ _, Nat.le_refl _, by omega, by omega, hb⟩
theorem NumR.err {w w' : World} {k : Nat} {e : Ending} (he : e = .returned (.tuple #[.slice none 0 0, .int .i64 (k : Int)])) (hb : Below w.heap.size w w') : NumR w ([], k) e w' :=
  ⟨_, _, _, he, NumS.nil _ _, Nat.le_refl _, by omega, by omega, hb⟩
theorem take_all {l : List Nat} {n : Nat} (h : l.length ≤ n) : l.take n = l := List.take_of_length_le h
theorem carry_out (V X Y c N : Nat) (hX : X < 4294967296 ^ N) (hY : Y < 4294967296 ^ N) (h : V + c * 4294967296 ^ (N + 1) = X + Y) : V = X + Y := by
  rcases Nat.lt_or_ge 0 c with h1 | h1
  · exfalso
    have h2 : 1 * 4294967296 ^ (N + 1) ≤ c * 4294967296 ^ (N + 1) := Nat.mul_le_mul_right _ h1
    rw [Nat.pow_succ] at *
    generalize 4294967296 ^ N = T at *
    omega
  · have : c = 0 := by omega
    subst this
    omega
theorem grown_kp {v w w' : World} (h : Below v.heap.size v w) (hg : w.grownBy w' none) : Below v.heap.size v w' := h.grown hg h.size (fun k hk => by cases hk)
section
variable {w : World} {ops : Array Oper} {rest : List Oper} {o : Oper} {a : Act} {Q : Exit → Act → World → Prop}
/-- 'make([]uint32, n)'. -/
theorem wpList_mkU (l c : Operand) (ho : o.op = .makeSlice 22 l c) (hgd : o.guard = none) (kl kc : IntKind) (L C : Int) (n : Nat) (hl : a.eval l = .int kl L) (hc : a.eval c = .int kc C) (hL : L = (n : Int)) (hC : C = (n : Int)) (hlim : n ≤ 1000000)
    (h : ∀ w', BlkU w' w.heap.size (List.replicate n 0) → Below w.heap.size w w' → wpList Try.prog ops Q rest (a.put o.dst (.slice (some ⟨w.heap.size, 0, none⟩) n n)) w') : wpList Try.prog ops Q (o :: rest) a w := by
  refine wpList_mkR u32_row l c ho hgd kl kc L C n hl hc hL hC (by unfold maxLen; omega) (by omega) ?_
  intro w' h1 h2
  rw [made_u32] at h1
  exact h w' (BlkU.of_own h1).1 (grown_kp (Below.refl _ _) h2)
end
set_option maxHeartbeats 4000000 in
theorem add_any (A B : Option Addr) (n c m d : Nat) (x y : List Nat) (w : World) (hA : RU w A n x) (hB : RU w B m y) (hn : n ≤ 300) (hm : m ≤ 300) :
    Calls Try.prog 23 #[.slice A n c, .slice B m d] w (NumR w (addQ x y)) := by
  have RA := Lib.hid (right_any A n c x w hA (by omega))
  have RB := Lib.hid (right_any B m d y w hB (by omega))
  have HA := Lib.hid hA
  have HB := Lib.hid hB
  unfold addQ
  cases hr : rightB x with
  | false =>
    rw [hr] at RA
    clear hr hA hB
    go_enter Try.func23, Try.ntmps23
    go_wp2_with fail
    refine RA.out.mono ?_
    rintro e w' ⟨rfl, rfl⟩
    clear RA
    go_wp2
    go_ret2
    exact NumR.err rfl (Below.refl _ _)
  | true =>
    cases hs : rightB y with
    | false =>
      rw [hr] at RA
      rw [hs] at RB
      clear hr hs hA hB
      go_enter Try.func23, Try.ntmps23
      go_wp2_with fail
      refine RA.out.mono ?_
      rintro e w' ⟨rfl, rfl⟩
      clear RA
      go_wp2_with fail
      refine RB.out.mono ?_
      rintro e w' ⟨rfl, rfl⟩
      clear RB
      go_wp2
      go_ret2
      exact NumR.err rfl (Below.refl _ _)
    | true =>
      rw [hr] at RA
      rw [hs] at RB
      obtain ⟨k, hk⟩ : ∃ k, max n m = k := ⟨_, rfl⟩
      have e1 : max (n : Int) (m : Int) = (k : Int) := by omega
      have k1 : k ≤ 300 := by omega
      have k2 : n ≤ k := by omega
      have k3 : m ≤ k := by omega
      have e2 : IntKind.i64.wrap ((k : Int) + 1) = ((k + 1 : Nat) : Int) := by rw [show (k : Int) + 1 = ((k + 1 : Nat) : Int) by omega]; exact IntWalk.i64_in _ (by omega)
      obtain ⟨N, hN⟩ : ∃ N, k + 1 = N := ⟨_, rfl⟩
      rw [hN] at e2
      have k4 : N ≤ 301 := by omega
      have HKN := Lib.hid hN
      clear hr hs hA hB hk hN
      go_enter Try.func23, Try.ntmps23
      go_wp2_with fail
      refine RA.out.mono ?_
      rintro e w' ⟨rfl, rfl⟩
      clear RA
      go_wp2_with fail
      refine RB.out.mono ?_
      rintro e w' ⟨rfl, rfl⟩
      clear RB
      go_wp2_with (refine wpList_mkU _ _ rfl rfl _ _ _ _ N rfl rfl rfl rfl (by omega) ?_)
      intro w1 hblk hb1
      obtain ⟨G, hG⟩ : ∃ G, w.heap.size = G := ⟨_, rfl⟩
      rw [hG] at hblk ⊢
      go_wp2_with fail
      refine (adder_new w1).mono ?_
      rintro e w2 ⟨rfl, hw2⟩
      obtain ⟨H, hH⟩ : ∃ H, w1.heap.size = H := ⟨_, rfl⟩
      rw [hH]
      have hGH : G < H := by have := hblk.lt; omega
      have hwG : w.heap.size ≤ G := by omega
      have H2 : Hid (BlkU w2 G (List.replicate N 0) ∧ Cy w2 H 0 ∧ Below w.heap.size w w2) := by
        rw [hw2]
        exact ⟨has_alloc hblk _, has_new' _ _ _ hH.symm, kp_alloc hb1 _⟩
      clear hw2 hblk hb1 hG hH
      go_wp2
      go_loopw [27] (fun vi wl => ∃ (i : Nat) (L : List Nat) (cy : Nat), vi = .int .i64 (i : Int) ∧ i ≤ N ∧ Hid (BlkU wl G L ∧ L.length = N ∧ Lim L ∧ Cy wl H cy ∧ cy < 4294967296 ∧ val (L.take i) + cy * 4294967296 ^ i = val (x.take i) + val (y.take i) ∧ Below w.heap.size w wl)) (fun vi _ => N - (intOf vi).toNat)
      case atStart => exact ⟨0, List.replicate N 0, 0, rfl, Nat.zero_le _, H2.out.1, by simp, Lim.rep N, H2.out.2.1, by decide, by simp [val], H2.out.2.2⟩
      case round =>
        obtain ⟨i, L, cy, rfl, hi, HK⟩ := hrel
        clear H2
        by_cases hlt : i < N
        · have i1 : (i : Int) < (N : Int) := by omega
          have i2 : (0 : Int) ≤ (i : Int) := by omega
          have e3 : IntKind.i64.wrap ((i : Int) + 1) = (i : Int) + 1 := IntWalk.i64_in _ (by omega)
          obtain ⟨f1, f2, f3, f4, f5, f6, f7⟩ := HK.out
          have LA := Lib.hid (limb_any A n c i x wr (HA.out.below f7) (by omega) (by omega))
          have LB := Lib.hid (limb_any B m d i y wr (HB.out.below f7) (by omega) (by omega))
          have ha := HA.out.lim.getD i
          have hb := HB.out.lim.getD i
          have ta := val_take1 x i
          have tb := val_take1 y i
          obtain ⟨a, hae⟩ : ∃ a, x.getD i 0 = a := ⟨_, rfl⟩
          obtain ⟨b, hbe⟩ : ∃ b, y.getD i 0 = b := ⟨_, rfl⟩
          rw [hae] at LA ha ta
          rw [hbe] at LB hb tb
          have ST := Lib.hid (add_step (val (L.take i)) _ _ a b cy _ f6)
          have AD := Lib.hid (add_one H a b cy wr f4 ha hb f5)
          obtain ⟨r, hr⟩ : ∃ r, (a + b + cy) % 4294967296 = r := ⟨_, rfl⟩
          obtain ⟨q, hq⟩ : ∃ q, (a + b + cy) / 4294967296 = q := ⟨_, rfl⟩
          rw [hr, hq] at AD ST
          have hr32 : r < 4294967296 := by omega
          have hq32 : q < 4294967296 := by omega
          have HV := Lib.hid (show val ((L.set i r).take (i + 1)) + q * 4294967296 ^ (i + 1) = val (x.take (i + 1)) + val (y.take (i + 1)) by
            rw [val_take_set L i r (by omega), ta, tb, Nat.pow_succ]; exact ST.out)
          clear ta tb hae hbe hr hq f1 f2 f3 f4 f5 f6 f7 ST ha hb
          go_wp2_with fail
          refine LA.out.mono ?_
          rintro e w' ⟨rfl, rfl⟩
          clear LA
          go_wp2_with fail
          refine LB.out.mono ?_
          rintro e w' ⟨rfl, rfl⟩
          clear LB
          go_wp2_with fail
          refine AD.out.mono ?_
          rintro e w9 ⟨rfl, hw9⟩
          obtain ⟨f1, f2, f3, f4, f5, f6, f7⟩ := HK.out
          have g1 : BlkU w9 G L := by rw [hw9]; exact f1.far (by omega)
          have g2 : Cy w9 H q := by rw [hw9]; exact f4.set q
          have g3 : Below w.heap.size w w9 := by rw [hw9]; exact kp_set f7 (by omega)
          have c1 := g1.cell (j := i) (by omega)
          have c2 := g1.free i
          have HN : Hid (BlkU (w9.setCell ⟨G, i, none⟩ (.int .u32 (r : Int))) G (L.set i r) ∧ (L.set i r).length = N ∧ Lim (L.set i r) ∧ Cy (w9.setCell ⟨G, i, none⟩ (.int .u32 (r : Int))) H q ∧ q < 4294967296 ∧ val ((L.set i r).take (i + 1)) + q * 4294967296 ^ (i + 1) = val (x.take (i + 1)) + val (y.take (i + 1)) ∧ Below w.heap.size w (w9.setCell ⟨G, i, none⟩ (.int .u32 (r : Int)))) :=
            ⟨g1.set i r, by simp [f2], f3.set i hr32, g2.far (by omega), hq32, HV.out, kp_set g3 hwG⟩
          clear f1 f2 f3 f4 f5 f6 f7 g1 g2 g3 hw9 HK HV AD
          go_wp2
          go_roundw
          case rel => exact ⟨i + 1, _, q, by go_num, by omega, HN.out⟩
          case measure => simp [intOf]; omega
        · have i1 : ¬ (i : Int) < (N : Int) := by omega
          have hiN : i = N := by omega
          have hxk : x.length ≤ k := by rw [HA.out.len]; omega
          have hyk : y.length ≤ k := by rw [HB.out.len]; omega
          have HF : Hid (BlkU wr G L ∧ L.length = N ∧ Lim L ∧ Below w.heap.size w wr ∧ val L = val x + val y) := by
            obtain ⟨f1, f2, f3, f4, f5, f6, f7⟩ := HK.out
            refine ⟨f1, f2, f3, f7, ?_⟩
            have hkN := HKN.out
            rw [hiN, take_all (by omega), take_all (by omega), take_all (by omega)] at f6
            have hxl := val_lt x HA.out.lim
            have hyl := val_lt y HB.out.lim
            refine carry_out _ _ _ cy k (Nat.lt_of_lt_of_le hxl (Nat.pow_le_pow_right (by decide) hxk)) (Nat.lt_of_lt_of_le hyl (Nat.pow_le_pow_right (by decide) hyk)) ?_
            rw [hkN]
            exact f6
          have BO := Lib.hid (bounded_any G N w.heap.size L wr HF.out.1 HF.out.2.1 HF.out.2.2.1 (by omega) (by omega))
          have HI := Lib.hid hiN
          clear HK hiN hxk hyk
          go_wp2_with fail
          refine BO.out.mono ?_
          rintro e w9 ⟨hp, rfl⟩
          rw [HF.out.2.2.2.2] at hp
          obtain ⟨A9, n9, c9, he, hrest⟩ := NumR.of_fit hp HF.out.2.2.2.1
          obtain ⟨ev, hev⟩ : ∃ ev, (fitQ (val x + val y)).2 = ev := ⟨_, rfl⟩
          rw [hev] at he
          subst he
          have HP := Lib.hid hrest
          have HE := Lib.hid hev
          clear hp hrest hev BO HF
          go_wp2
          go_ret2
          exact ⟨A9, n9, c9, by rw [HE.out]; rfl, HP.out⟩
end Go.Proofs.Ytpopohfbcedpbaa
